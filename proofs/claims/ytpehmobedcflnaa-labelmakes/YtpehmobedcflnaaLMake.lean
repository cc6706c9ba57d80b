/- label.Make: the labels that are laid of pairs, sorted by key, and judged. Condition: the slice of pairs holds what is said of it, and is no longer than memory allows. -/
import Derived.Test.YtpehmobedcflnaaLSort
namespace Go.Proofs.Ytpehmobedcflnaa
open Go.RowKit
set_option linter.unusedSimpArgs false

def pairsTo (P : List ByteArray) (k : Nat) : List Lab := (List.range k).map fun i => (P.getD (2 * i) default, P.getD (2 * i + 1) default)
theorem pairsTo_length (P : List ByteArray) (k : Nat) : (pairsTo P k).length = k := by simp [pairsTo]
theorem pairsTo_succ (P : List ByteArray) (k : Nat) : pairsTo P (k + 1) = pairsTo P k ++ [(P.getD (2 * k) default, P.getD (2 * k + 1) default)] := by simp [pairsTo, List.range_succ]
theorem pairsTo_sizes {P : List ByteArray} (h : ∀ s ∈ P, s.size ≤ 140737488355328) (k : Nat) : ∀ x ∈ pairsTo P k, x.1.size ≤ 140737488355328 ∧ x.2.size ≤ 140737488355328 := by
  intro x hx
  simp only [pairsTo, List.mem_map] at hx
  obtain ⟨i, _, rfl⟩ := hx
  have : ∀ n, (P.getD n default).size ≤ 140737488355328 := fun n => by
    rw [List.getD_eq_getElem?_getD]
    rcases Nat.lt_or_ge n P.length with hn | hn
    · rw [List.getElem?_eq_getElem hn]; exact h _ (List.getElem_mem hn)
    · rw [List.getElem?_eq_none hn]; show (default : ByteArray).size ≤ _; decide
  exact ⟨this _, this _⟩

/-- Two texts of the pairs, and nothing that was there has turned. -/
def MS (w : World) (B off j m : Nat) (p q : ByteArray) (u : World) : Prop := Below w.heap.size w u ∧ u.cell? ⟨B, off + j, none⟩ = some (.string p) ∧ u.cell? ⟨B, off + m, none⟩ = some (.string q)
theorem new_lab (u : World) (t : TypeId) (p q : ByteArray) : ∀ j y, (flatL [(p, q)])[j]? = some y → (u.alloc (.cells #[.string p, .string q] t)).cell? ((⟨u.heap.size, 0, none⟩ : Addr).add j) = some y := by
  refine flatL_cells (fun i hi => ?_)
  have : i = 0 := by simpa using hi
  subst this
  exact ⟨by simp [go_sem], by simp [go_sem]⟩

set_option maxHeartbeats 1000000 in
theorem Make_odd (a : Option Addr) (cap : Nat) (P : List ByteArray) (w : World) (hev : Hid (P.length % 2 = 1)) : Calls Try.prog 29 #[.slice a P.length cap] w fun e w' => e = .returned (.tuple #[.slice none 0 0, .int .i64 2]) ∧ w' = w := by
  have hr : ((P.length : Int) % 2 != 0) = true := by
    have := hev.out
    rw [bne_iff_ne]; omega
  go_enter Try.func29, Try.ntmps29
  go_wp2_with fail
  go_ret2
  exact ⟨rfl, rfl⟩

theorem ret_vi {v u : Value} {a b : Int} (h : v = u ∧ a = b) : Ending.returned (.tuple #[v, .int .i64 a]) = .returned (.tuple #[u, .int .i64 b]) := by rw [h.1, h.2]

/-- What Make answers, whose labels come to be S. -/
def MadeAs (w : World) (S : List Lab) (e : Ending) (w' : World) : Prop :=
  Below w.heap.size w w' ∧ ((checkI S ≠ 0 ∧ e = .returned (.tuple #[.slice none 0 0, .int .i64 (checkI S)])) ∨ (checkI S = 0 ∧ ∃ a cap, e = .returned (.tuple #[.slice a S.length cap, .int .i64 0]) ∧ LabsAt w' a S))

set_option maxHeartbeats 2000000 in
theorem Make_calls (a : Option Addr) (cap : Nat) (P : List ByteArray) (w : World) (S : List Lab) (hP : Hid (StrsAt w a P)) (hby : P.length * 16 ≤ 140737488355328) (hev : Hid (P.length % 2 = 0)) (hSp : Hid (S.Perm (pairsTo P (P.length / 2)))) (hSs : Hid (SortedK S)) : Calls Try.prog 29 #[.slice a P.length cap] w fun e w' => MadeAs w S e w' := by
  have hr : ((P.length : Int) % 2 != 0) = false := by
    have := hev.out
    rw [bne_eq_false_iff_eq]; omega
  go_enter Try.func29, Try.ntmps29
  go_wp2_with fail
  go_loopw [4, 5] (fun l i wr => ∃ k j : Nat, Hid (j = 2 * k) ∧ j ≤ P.length ∧ i = .int .i64 j ∧ Own w wr 52 2 l (pairsTo P k).length (flatL (pairsTo P k))) (fun _ i _ => P.length - (intOf i).toNat)
  case atStart => exact ⟨0, 0, rfl, Nat.zero_le _, rfl, Own.nil w _ _⟩
  case round =>
    obtain ⟨k, j, hj, hjl, rfl, hO⟩ := hrel
    by_cases hlt : j < P.length
    · have hj1 : j + 1 < P.length := by have := hj.out; have := hev.out; omega
      obtain ⟨B, off, rfl, hB, c0, s0⟩ := hP.out.get hlt
      obtain ⟨m, hm⟩ : ∃ m, Hid (m = j + 1) := ⟨j + 1, rfl⟩
      rw [← hm.out] at hj1
      have hw1 : IntKind.i64.wrap ((j : Int) + 1) = (m : Int) := by rw [hm.out]; simp [IntKind.wrap, IntKind.bits, IntKind.signed]; omega
      have hm0 : (0 : Int) ≤ (m : Int) := by omega
      have hm1 : (m : Int) < (P.length : Int) := by omega
      obtain ⟨B', off', e', hB', c1, s1⟩ := hP.out.get hj1
      obtain ⟨rfl, rfl⟩ : B = B' ∧ off = off' := by simpa using e'
      have HP : Hid (pairsTo P (k + 1) = pairsTo P k ++ [(P.getD j default, P.getD m default)]) := by rw [Hid, pairsTo_succ, hm.out, hj.out]
      generalize P.getD j default = p at c0 s0 HP
      generalize P.getD m default = q at c1 s1 HP
      have hMS : Hid (∀ {u : World}, Below w.heap.size w u → MS w B off j m p q u) := fun hb => ⟨hb, (hb.cell hB).trans c0, (hb.cell hB).trans c1⟩
      have hb0 : Hid (Below w.heap.size w wr.drew) := hO.1.drew
      have hO2 : Hid (Own w (wr.drew.alloc (.cells #[.string p, .string q] 52)) 52 2 u4 (pairsTo P k).length (flatL (pairsTo P k))) := hO.on (by go_grown)
      have hb1 : Hid (Below w.heap.size w (wr.drew.alloc (.cells #[.string p, .string q] 52))) := hO2.out.1
      have hkl : (pairsTo P k).length = k := pairsTo_length P k
      have hkj : 2 * k + 1 < P.length := by have := hj.out; have := hm.out; omega
      clear c0 c1 e' hB' hO
      go_wp2_with fail
      refine wp_region_noPanic ?_
      refine wp_region_held_drew (S := MS w B off j m p q) (by kernel_rfl) (hMS.out hb0.out) (fun hHeld => ?_)
      refine wpAnyH_take (i := 0) (v := ?vm0) rfl (by kernel_rfl) (by kernel_rfl) (by kernel_rfl) (fun _ _ _ h => h) (Or.inl ⟨by rfl, ?hym0⟩) (by assumption) ?restm0
      case hym0 => (intro u hu; obtain ⟨_, _, _⟩ := hu; go_simp; try with_reducible rfl)
      try simp only [Act.put, List.setIfInBounds_toArray, List.set_cons_zero, List.set_cons_succ, List.getElem_toArray, List.getElem_cons_zero, List.getElem_cons_succ]
      refine wpAnyH_take (i := 1) (v := ?vm1) rfl (by kernel_rfl) (by kernel_rfl) (by kernel_rfl) (fun _ _ _ h => h) (Or.inl ⟨by rfl, ?hym1⟩) (by assumption) ?restm1
      case hym1 => (intro u hu; obtain ⟨_, _, _⟩ := hu; go_simp; try with_reducible rfl)
      try simp only [Act.put, List.setIfInBounds_toArray, List.set_cons_zero, List.set_cons_succ, List.getElem_toArray, List.getElem_cons_zero, List.getElem_cons_succ]
      refine wpAnyH_take (i := 2) (v := ?vm2) rfl (by kernel_rfl) (by kernel_rfl) (by kernel_rfl) (fun _ _ _ h => h) (Or.inl ⟨by rfl, ?hym2⟩) (by assumption) ?restm2
      case hym2 => (intro u hu; obtain ⟨_, _, _⟩ := hu; go_simp; try with_reducible rfl)
      try simp only [Act.put, List.setIfInBounds_toArray, List.set_cons_zero, List.set_cons_succ, List.getElem_toArray, List.getElem_cons_zero, List.getElem_cons_succ]
      refine wpAnyH_take (i := 3) (v := ?vm3) rfl (by kernel_rfl) (by kernel_rfl) (by kernel_rfl) (fun _ _ _ h => h) (Or.inl ⟨by rfl, ?hym3⟩) (by assumption) ?restm3
      case hym3 => (intro u hu; obtain ⟨_, _, _⟩ := hu; go_simp; try with_reducible rfl)
      try simp only [Act.put, List.setIfInBounds_toArray, List.set_cons_zero, List.set_cons_succ, List.getElem_toArray, List.getElem_cons_zero, List.getElem_cons_succ]
      refine wpAnyH_take (i := 4) (v := ?vm4) rfl (by kernel_rfl) (by kernel_rfl) (by kernel_rfl) (fun _ _ _ h => h) (Or.inl ⟨by rfl, ?hym4⟩) (by assumption) ?restm4
      case hym4 => (intro u hu; obtain ⟨_, _, _⟩ := hu; go_simp; try with_reducible rfl)
      try simp only [Act.put, List.setIfInBounds_toArray, List.set_cons_zero, List.set_cons_succ, List.getElem_toArray, List.getElem_cons_zero, List.getElem_cons_succ]
      refine wpAnyH_take (i := 5) (v := ?vm5) rfl (by kernel_rfl) (by kernel_rfl) (by kernel_rfl) (fun _ _ _ h => h) (Or.inl ⟨by rfl, ?hym5⟩) (by assumption) ?restm5
      case hym5 => (intro u hu; obtain ⟨_, _, _⟩ := hu; go_simp; try with_reducible rfl)
      try simp only [Act.put, List.setIfInBounds_toArray, List.set_cons_zero, List.set_cons_succ, List.getElem_toArray, List.getElem_cons_zero, List.getElem_cons_succ]
      refine wpAnyH_take (i := 6) (v := ?vm6) rfl (by kernel_rfl) (by kernel_rfl) (by kernel_rfl) (fun _ _ _ h => h) (Or.inl ⟨by rfl, ?hym6⟩) (by assumption) ?restm6
      case hym6 => (intro u hu; obtain ⟨_, _, _⟩ := hu; go_simp; try with_reducible rfl)
      try simp only [Act.put, List.setIfInBounds_toArray, List.set_cons_zero, List.set_cons_succ, List.getElem_toArray, List.getElem_cons_zero, List.getElem_cons_succ]
      refine wpAnyH_take (i := 7) (v := ?vm7) rfl (by kernel_rfl) (by kernel_rfl) (by kernel_rfl) (fun _ _ _ h => h) (Or.inl ⟨by rfl, ?hym7⟩) (by assumption) ?restm7
      case hym7 => (intro u hu; obtain ⟨_, _, _⟩ := hu; go_simp; try with_reducible rfl)
      try simp only [Act.put, List.setIfInBounds_toArray, List.set_cons_zero, List.set_cons_succ, List.getElem_toArray, List.getElem_cons_zero, List.getElem_cons_succ]
      refine wpAnyH_take (i := 8) (v := ?vm8) rfl (by kernel_rfl) (by kernel_rfl) (by kernel_rfl) (fun _ _ _ h => h) (Or.inl ⟨by rfl, ?hym8⟩) (by assumption) ?restm8
      case hym8 => (intro u hu; obtain ⟨_, _, _⟩ := hu; go_simp; try with_reducible rfl)
      try simp only [Act.put, List.setIfInBounds_toArray, List.set_cons_zero, List.set_cons_succ, List.getElem_toArray, List.getElem_cons_zero, List.getElem_cons_succ]
      refine wpAnyH_take (i := 9) (v := ?vm9) rfl (by kernel_rfl) (by kernel_rfl) (by kernel_rfl) (fun _ _ _ h => h) (Or.inl ⟨by rfl, ?hym9⟩) (by assumption) ?restm9
      case hym9 => (intro u hu; obtain ⟨_, _, _⟩ := hu; go_simp; try with_reducible rfl)
      try simp only [Act.put, List.setIfInBounds_toArray, List.set_cons_zero, List.set_cons_succ, List.getElem_toArray, List.getElem_cons_zero, List.getElem_cons_succ]
      refine wpAnyH_take (i := 10) (v := ?vm10) rfl (by kernel_rfl) (by kernel_rfl) (by kernel_rfl) (fun _ _ _ h => h) (Or.inl ⟨by rfl, ?hym10⟩) (by assumption) ?restm10
      case hym10 => (intro u hu; obtain ⟨_, _, _⟩ := hu; go_simp; try with_reducible rfl)
      try simp only [Act.put, List.setIfInBounds_toArray, List.set_cons_zero, List.set_cons_succ, List.getElem_toArray, List.getElem_cons_zero, List.getElem_cons_succ]
      refine wpAnyH_ready (rs := [11]) (by kernel_rfl) (by simp) ?_
      refine AllReadyH.cons rfl (fun K hK => ?_) AllReadyH.nil
      go_simp
      refine hK.out _ _ (hMS.out hb1.out) (fun hHeld2 => ?_)
      clear hK K hHeld
      have hHeld := hHeld2
      clear hHeld2
      try simp only [Act.put, List.setIfInBounds_toArray, List.set_cons_zero, List.set_cons_succ, List.getElem_toArray, List.getElem_cons_zero, List.getElem_cons_succ]
      refine wpAnyH_ready (rs := [12]) (by kernel_rfl) (by simp) ?_
      refine AllReadyH.cons rfl (fun K hK => ?_) AllReadyH.nil
      refine append_labs (w0 := w) _ _ rfl u4 (pairsTo P k) rfl (hO2.out) ⟨wr.heap.size, 0, none⟩ 1 [(p, q)] rfl (new_lab _ _ p q) (by simp; omega) ?_
      intro v2 u2 hown2 hnil2 hsz2
      refine hK.out _ _ (hMS.out hown2.1) (fun hHeld2 => ?_)
      clear hK K hHeld
      have hHeld := hHeld2
      clear hHeld2
      try simp only [Act.put, List.setIfInBounds_toArray, List.set_cons_zero, List.set_cons_succ, List.getElem_toArray, List.getElem_cons_zero, List.getElem_cons_succ]
      refine wpAnyH_take (i := 13) (v := ?vm13) rfl (by kernel_rfl) (by kernel_rfl) (by kernel_rfl) (fun _ _ _ h => h) (Or.inl ⟨by rfl, ?hym13⟩) (by assumption) ?restm13
      case hym13 => (intro u hu; obtain ⟨_, _, _⟩ := hu; go_simp; try with_reducible rfl)
      try simp only [Act.put, List.setIfInBounds_toArray, List.set_cons_zero, List.set_cons_succ, List.getElem_toArray, List.getElem_cons_zero, List.getElem_cons_succ]
      refine wpAnyH_done (by kernel_rfl) ?_ _
      refine NoPanic.normal ?_
      go_wp2_with fail
      go_roundw
      case rel => exact ⟨k + 1, j + 1 + 1, by have := hj.out; unfold Hid; omega, by have := hm.out; omega, by go_num, by rw [HP.out]; exact hown2⟩
      case measure => simp [intOf]; omega
    · have hk : Hid (k = P.length / 2) := by have := hj.out; unfold Hid; omega
      have hkl : (pairsTo P k).length = k := pairsTo_length P k
      go_wp2_with fail
      refine (sort_calls w wr u4 (pairsTo P k) (by rw [hkl]; have := hj.out; omega) (pairsTo_sizes hP.out.2.1 k) hO).mono ?_
      rintro e w1 ⟨rfl, hb, L, b, capb, hp, hs, rfl, hL⟩
      have HU : Hid (L.Perm S) := by rw [hk.out] at hp; exact hp.trans hSp.out.symm
      have hc := Check_calls b capb L w1 hL
      have HC : Hid (checkI L = checkI S) := checkI_perm HU.out hs hSs.out
      by_cases h0 : checkI L = 0
      · have HE : Hid (L = S) := uniq HU.out hs hSs.out h0
        rw [h0] at hc
        clear hP hSp hSs hO hs hp hr
        go_wp2_with fail
        refine hc.mono ?_
        rintro e w2 ⟨rfl, hb2⟩
        have hb3 := on2 hb hb2
        have hL2 := hL.on hb2
        clear hc hb hb2 hL
        go_wp2_with fail
        go_ret2
        have h' := HE.out
        subst h'
        exact ⟨hb3, .inr ⟨h0, b, capb, rfl, hL2⟩⟩
      · have h0' : (checkI L != 0) = true := bne_iff_ne.2 h0
        rw [HC.out] at h0 h0' hc
        clear hP hSp hSs hO hs hp hr
        generalize hr0 : checkI S = r at h0 h0' hc HC
        have HR : Hid (checkI S = r) := hr0
        clear hr0
        go_wp2_with fail
        refine hc.mono ?_
        rintro e w2 ⟨rfl, hb2⟩
        have hb3 := on2 hb hb2
        clear hc hb hb2 hL
        go_wp2_with fail
        go_ret2
        have e1 := HR.out
        exact ⟨hb3, .inl ⟨by rw [e1]; exact h0, ret_vi ⟨rfl, e1.symm⟩⟩⟩
end Go.Proofs.Ytpehmobedcflnaa
