/- The document's own Make: labels of pairs, sorted by key, and judged. Condition: the slice of pairs holds what is said of it, and is no longer than memory allows. -/
import Derived.Test.YtpehmobedcflnaaLInsert
namespace Go.Proofs.Ytpehmobedcflnaa
open Go.RowKit
set_option linter.unusedSimpArgs false

set_option maxHeartbeats 1000000 in
theorem rMake_odd (a : Option Addr) (cap : Nat) (P : List ByteArray) (w : World) (hev : Hid (P.length % 2 = 1)) : Calls Try.prog 30 #[.slice a P.length cap] w fun e w' => e = .returned (.tuple #[.slice none 0 0, .int .i64 2]) ∧ w' = w := by
  have hr : ((P.length : Int) % 2 == 1) = true := by
    have := hev.out
    rw [beq_iff_eq]; omega
  go_enter Try.func30, Try.ntmps30
  go_wp2_with fail
  go_ret2
  exact ⟨rfl, rfl⟩

set_option maxHeartbeats 8000000 in
theorem rMake_calls (a : Option Addr) (cap : Nat) (P : List ByteArray) (w : World) (S : List Lab) (hP : Hid (StrsAt w a P)) (hby : P.length * 16 ≤ 140737488355328) (hev : Hid (P.length % 2 = 0)) (hSp : Hid (S.Perm (pairsTo P (P.length / 2)))) (hSs : Hid (SortedK S)) : Calls Try.prog 30 #[.slice a P.length cap] w fun e w' => MadeAs w S e w' := by
  have hr : ((P.length : Int) % 2 == 1) = false := by
    have := hev.out
    rw [beq_eq_false_iff_ne]; omega
  go_enter Try.func30, Try.ntmps30
  go_wp2_with fail
  go_loopw [4, 5] (fun l i wr => ∃ (k j : Nat) (A : List Lab), Hid (j = 2 * k) ∧ j ≤ P.length ∧ i = .int .i64 j ∧ Hid (Own w wr 52 2 l A.length (flatL A) ∧ (∃ g capA, l = .slice (some ⟨g, 0, none⟩) A.length capA) ∧ A.Perm (pairsTo P k) ∧ SortedK A)) (fun _ i _ => P.length - (intOf i).toNat)
  case atStart => exact ⟨0, 0, [], rfl, Nat.zero_le _, rfl, Own.start w w _ _ (Below.refl _ _), ⟨w.heap.size, 0, rfl⟩, List.Perm.refl _, List.Pairwise.nil⟩
  case round =>
    obtain ⟨k, j, A, hj, hjl, rfl, hrl⟩ := hrel
    obtain ⟨hO, ⟨g, capA, rfl⟩, hpA, hsA⟩ := hrl.out
    have hcapA : Hid (A.length ≤ capA) := by
      obtain ⟨_, ⟨h, _⟩ | ⟨g', cap', cur, h, _, _, hle, _⟩⟩ := hO.2
      · cases h
      · simp at h; unfold Hid; omega
    have hAl : Hid (A.length = k) := by rw [Hid, hpA.length_eq, pairsTo_length]
    have hsz : ∀ x ∈ A, x.1.size ≤ 140737488355328 ∧ x.2.size ≤ 140737488355328 := fun x hx => pairsTo_sizes hP.out.2.1 k x (hpA.mem_iff.1 hx)
    have hAll : A.length ≤ 140737488355328 := by have := hAl.out; have := hj.out; omega
    obtain ⟨w1, hw1⟩ : ∃ w1, w1 = wr := ⟨_, rfl⟩
    subst hw1
    have hat : LabsAt w1 (some ⟨g, 0, none⟩) A := by
      obtain ⟨a', c', e, h⟩ := labs_of_owns hO.2 hAll hsz
      obtain ⟨rfl, _⟩ : a' = some ⟨g, 0, none⟩ ∧ c' = capA := by simp at e; exact ⟨e.1.symm, e.2.symm⟩
      exact h
    by_cases hlt : j < P.length
    · have hj1 : j + 1 < P.length := by have := hj.out; have := hev.out; omega
      obtain ⟨B, off, rfl, hB, c0, hp1⟩ := hP.out.get hlt
      obtain ⟨m1, hm1⟩ : ∃ m1, Hid (m1 = j + 1) := ⟨j + 1, rfl⟩
      rw [← hm1.out] at hj1
      have hwr1 : IntKind.i64.wrap ((j : Int) + 1) = (m1 : Int) := by rw [hm1.out]; simp [IntKind.wrap, IntKind.bits, IntKind.signed]; omega
      have hm10 : (0 : Int) ≤ (m1 : Int) := by omega
      have hm11 : (m1 : Int) < (P.length : Int) := by omega
      obtain ⟨B', off', e', hB', c1, hq1⟩ := hP.out.get hj1
      obtain ⟨rfl, rfl⟩ : B = B' ∧ off = off' := by simpa using e'
      have HP : Hid (pairsTo P (k + 1) = pairsTo P k ++ [(P.getD j default, P.getD m1 default)]) := by rw [Hid, pairsTo_succ, hm1.out, hj.out]
      generalize P.getD j default = p at c0 hp1 HP
      generalize P.getD m1 default = q at c1 hq1 HP
      have HS : Hid (∀ {u : World}, Below w1.heap.size w1 u → MS w1 B off j m1 p q u) := fun hb => ⟨hb, ((on2 hO.1 hb).cell hB).trans c0, ((on2 hO.1 hb).cell hB).trans c1⟩
      have hkl : Hid (A.length = k ∧ 2 * k + 1 < P.length) := ⟨hAl.out, by have := hj.out; have := hm1.out; omega⟩
      have HA : Hid (LabsAt w1 (some ⟨g, 0, none⟩) A ∧ SortedK A ∧ A.Perm (pairsTo P k) ∧ Below w.heap.size w w1) := ⟨hat, hsA, hpA, hO.1⟩
      clear c0 c1 e' hB' hO hpA hsA hat hrl hsz
      go_wp2_with fail
      go_loopw [6] (fun i wr => ∃ m : Nat, m ≤ A.length ∧ i = .int .i64 m ∧ Hid (∃ n, wr = w1.drewN n) ∧ Hid (∀ t, m ≤ t → t < A.length → sLt p (A.getD t default).1 = true)) (fun i _ => (intOf i).toNat)
      case atStart => exact ⟨A.length, Nat.le_refl _, rfl, ⟨0, rfl⟩, fun t h1 h2 => by omega⟩
      case round =>
        obtain ⟨m, hm, rfl, hwn, hgt⟩ := hrel
        have hbn : Below w1.heap.size w1 wr := by obtain ⟨n, rfl⟩ := hwn.out; exact below_drewN (Below.refl _ _) _
        have HTl : Hid ((A.take m).length = m) := by rw [Hid, List.length_take]; omega
        have HDl : Hid ((A.drop m).length = A.length - m) := by simp [Hid]
        have HTake : Hid (∀ {u : World}, Below w1.heap.size w1 u → LabsAt u (some ⟨g, 0, none⟩) (A.take m)) := fun {u} hu => by
          have h1 := HA.out.1.on hu
          refine ⟨by rw [HTl.out]; omega, fun z hz => h1.2.1 z (List.mem_of_mem_take hz), fun hn => ?_⟩
          obtain ⟨G, o, e, hG, hc⟩ := h1.2.2 (fun e => hn (by rw [e]; simp))
          refine ⟨G, o, e, hG, fun i hi => ?_⟩
          have hi' : i < m := by rw [HTl.out] at hi; exact hi
          have := hc i (by omega)
          have e2 : (A.take m).getD i default = A.getD i default := by rw [getD_get _ _ hi, getD_get _ _ (show i < A.length by omega)]; simp
          rw [e2]; exact this
        have HDrop : Hid (∀ {u : World}, Below w1.heap.size w1 u → LabsAt u (if capA = m then some ⟨g, 0, none⟩ else some ⟨g, m * 2, none⟩) (A.drop m)) := fun {u} hu => by
          have h1 := HA.out.1.on hu
          refine ⟨by simp; omega, fun z hz => h1.2.1 z (List.mem_of_mem_drop hz), fun hn => ?_⟩
          have hmlt : m < A.length := by
            rcases Nat.lt_or_ge m A.length with h | h
            · exact h
            · exact absurd (List.drop_eq_nil_of_le h) hn
          obtain ⟨G, o, e, hG, hc⟩ := h1.2.2 (fun e => by rw [e] at hmlt; simp at hmlt)
          obtain ⟨rfl, rfl⟩ : g = G ∧ 0 = o := by simpa using e
          refine ⟨g, m * 2, ?_, hG, fun i hi => ?_⟩
          · rw [if_neg (by have := hcapA.out; omega)]
          · have hi' : m + i < A.length := by simp at hi; omega
            have e2 : (A.drop m).getD i default = A.getD (m + i) default := by rw [getD_get _ _ hi, getD_get _ _ hi']; simp
            have := hc (m + i) hi'
            rw [e2, show m * 2 + i * 2 = 0 + (m + i) * 2 by omega]
            exact this
        have hmc : m ≤ capA := by have := hcapA.out; omega
        have hmci : (m : Int) ≤ (capA : Int) := by omega
        have hmli : (m : Int) ≤ (A.length : Int) := by omega
        have hmi0 : (0 : Int) ≤ (m : Int) := by omega
        rcases Nat.eq_zero_or_pos m with hm0 | hm0
        · have HEnd : Hid (∀ {v8 : Value} {w8 : World}, Own w1 w8 52 2 v8 (A.take m ++ [(p, q)] ++ A.drop m).length (flatL (A.take m ++ [(p, q)] ++ A.drop m)) → Hid (Own w w8 52 2 v8 (A.take m ++ [(p, q)] ++ A.drop m).length (flatL (A.take m ++ [(p, q)] ++ A.drop m)) ∧ (∃ g capA, v8 = .slice (some ⟨g, 0, none⟩) (A.take m ++ [(p, q)] ++ A.drop m).length capA) ∧ (A.take m ++ [(p, q)] ++ A.drop m).Perm (pairsTo P (k + 1)) ∧ SortedK (A.take m ++ [(p, q)] ++ A.drop m))) := fun {v8 w8} h8 => by
            refine ⟨⟨on2 HA.out.2.2.2 h8.1, Go.Joins.ownsRow_le h8.2 HA.out.2.2.2.size⟩, ?_, ?_, insert_sorted HA.out.2.1 hm hgt.out (.inl hm0)⟩
            · rcases own_cells h8.2 with ⟨_, h0⟩ | ⟨g', c', e, _⟩
              · simp at h0
              · exact ⟨g', c', e⟩
            · rw [HP.out]; exact insert_perm.trans (List.Perm.append_right _ HA.out.2.2.1)
          have b0 : decide (0 < m) = false := by simp; omega
          clear hgt hm0
          go_wp2_with fail
          go_big_quiet (fail)
          go_wp2_with fail
          have hbn := below_drewN hbn nq
          refine wp_region_noPanic ?_
          refine wp_region_held_drew (S := MS w1 B off j m1 p q) (by kernel_rfl) (HS.out hbn.drew) (fun hHeld => ?_)
          refine wpAnyH_take (i := 1) (v := ?vrz1) rfl (by kernel_rfl) (by kernel_rfl) (by kernel_rfl) (fun _ _ _ h => h) (Or.inl ⟨by rfl, ?hyrz1⟩) (by assumption) ?restrz1
          case hyrz1 => (intro u hu; obtain ⟨_, _, _⟩ := hu; go_simp; try with_reducible rfl)
          try simp only [Act.put, List.setIfInBounds_toArray, List.set_cons_zero, List.set_cons_succ, List.getElem_toArray, List.getElem_cons_zero, List.getElem_cons_succ]
          refine wpAnyH_take (i := 2) (v := ?vrz2) rfl (by kernel_rfl) (by kernel_rfl) (by kernel_rfl) (fun _ _ _ h => h) (Or.inl ⟨by rfl, ?hyrz2⟩) (by assumption) ?restrz2
          case hyrz2 => (intro u hu; obtain ⟨_, _, _⟩ := hu; go_simp; try with_reducible rfl)
          try simp only [Act.put, List.setIfInBounds_toArray, List.set_cons_zero, List.set_cons_succ, List.getElem_toArray, List.getElem_cons_zero, List.getElem_cons_succ]
          refine wpAnyH_take (i := 3) (v := ?vrz3) rfl (by kernel_rfl) (by kernel_rfl) (by kernel_rfl) (fun _ _ _ h => h) (Or.inl ⟨by rfl, ?hyrz3⟩) (by assumption) ?restrz3
          case hyrz3 => (intro u hu; obtain ⟨_, _, _⟩ := hu; go_simp; try with_reducible rfl)
          try simp only [Act.put, List.setIfInBounds_toArray, List.set_cons_zero, List.set_cons_succ, List.getElem_toArray, List.getElem_cons_zero, List.getElem_cons_succ]
          refine wpAnyH_take (i := 5) (v := ?vrz5) rfl (by kernel_rfl) (by kernel_rfl) (by kernel_rfl) (fun _ _ _ h => h) (Or.inl ⟨by rfl, ?hyrz5⟩) (by assumption) ?restrz5
          case hyrz5 => (intro u hu; obtain ⟨_, _, _⟩ := hu; go_simp; try with_reducible rfl)
          try simp only [Act.put, List.setIfInBounds_toArray, List.set_cons_zero, List.set_cons_succ, List.getElem_toArray, List.getElem_cons_zero, List.getElem_cons_succ]
          refine wpAnyH_take (i := 6) (v := ?vrz6) rfl (by kernel_rfl) (by kernel_rfl) (by kernel_rfl) (fun _ _ _ h => h) (Or.inl ⟨by rfl, ?hyrz6⟩) (by assumption) ?restrz6
          case hyrz6 => (intro u hu; obtain ⟨_, _, _⟩ := hu; go_simp; try with_reducible rfl)
          try simp only [Act.put, List.setIfInBounds_toArray, List.set_cons_zero, List.set_cons_succ, List.getElem_toArray, List.getElem_cons_zero, List.getElem_cons_succ]
          refine wpAnyH_take (i := 7) (v := ?vrz7) rfl (by kernel_rfl) (by kernel_rfl) (by kernel_rfl) (fun _ _ _ h => h) (Or.inl ⟨by rfl, ?hyrz7⟩) (by assumption) ?restrz7
          case hyrz7 => (intro u hu; obtain ⟨_, _, _⟩ := hu; go_simp; try with_reducible rfl)
          try simp only [Act.put, List.setIfInBounds_toArray, List.set_cons_zero, List.set_cons_succ, List.getElem_toArray, List.getElem_cons_zero, List.getElem_cons_succ]
          refine wpAnyH_take (i := 8) (v := ?vrz8) rfl (by kernel_rfl) (by kernel_rfl) (by kernel_rfl) (fun _ _ _ h => h) (Or.inl ⟨by rfl, ?hyrz8⟩) (by assumption) ?restrz8
          case hyrz8 => (intro u hu; obtain ⟨_, _, _⟩ := hu; go_simp; try with_reducible rfl)
          try simp only [Act.put, List.setIfInBounds_toArray, List.set_cons_zero, List.set_cons_succ, List.getElem_toArray, List.getElem_cons_zero, List.getElem_cons_succ]
          refine wpAnyH_take (i := 9) (v := ?vrz9) rfl (by kernel_rfl) (by kernel_rfl) (by kernel_rfl) (fun _ _ _ h => h) (Or.inl ⟨by rfl, ?hyrz9⟩) (by assumption) ?restrz9
          case hyrz9 => (intro u hu; obtain ⟨_, _, _⟩ := hu; go_simp; try with_reducible rfl)
          try simp only [Act.put, List.setIfInBounds_toArray, List.set_cons_zero, List.set_cons_succ, List.getElem_toArray, List.getElem_cons_zero, List.getElem_cons_succ]
          refine wpAnyH_take (i := 10) (v := ?vrz10) rfl (by kernel_rfl) (by kernel_rfl) (by kernel_rfl) (fun _ _ _ h => h) (Or.inl ⟨by rfl, ?hyrz10⟩) (by assumption) ?restrz10
          case hyrz10 => (intro u hu; obtain ⟨_, _, _⟩ := hu; go_simp; try with_reducible rfl)
          try simp only [Act.put, List.setIfInBounds_toArray, List.set_cons_zero, List.set_cons_succ, List.getElem_toArray, List.getElem_cons_zero, List.getElem_cons_succ]
          refine wpAnyH_take (i := 11) (v := ?vrz11) rfl (by kernel_rfl) (by kernel_rfl) (by kernel_rfl) (fun _ _ _ h => h) (Or.inl ⟨by rfl, ?hyrz11⟩) (by assumption) ?restrz11
          case hyrz11 => (intro u hu; obtain ⟨_, _, _⟩ := hu; go_simp; try with_reducible rfl)
          try simp only [Act.put, List.setIfInBounds_toArray, List.set_cons_zero, List.set_cons_succ, List.getElem_toArray, List.getElem_cons_zero, List.getElem_cons_succ]
          refine wpAnyH_take (i := 12) (v := ?vrz12) rfl (by kernel_rfl) (by kernel_rfl) (by kernel_rfl) (fun _ _ _ h => h) (Or.inl ⟨by rfl, ?hyrz12⟩) (by assumption) ?restrz12
          case hyrz12 => (intro u hu; obtain ⟨_, _, _⟩ := hu; go_simp; try with_reducible rfl)
          try simp only [Act.put, List.setIfInBounds_toArray, List.set_cons_zero, List.set_cons_succ, List.getElem_toArray, List.getElem_cons_zero, List.getElem_cons_succ]
          refine wpAnyH_take (i := 13) (v := ?vrz13) rfl (by kernel_rfl) (by kernel_rfl) (by kernel_rfl) (fun _ _ _ h => h) (Or.inl ⟨by rfl, ?hyrz13⟩) (by assumption) ?restrz13
          case hyrz13 => (intro u hu; obtain ⟨_, _, _⟩ := hu; go_simp; try with_reducible rfl)
          try simp only [Act.put, List.setIfInBounds_toArray, List.set_cons_zero, List.set_cons_succ, List.getElem_toArray, List.getElem_cons_zero, List.getElem_cons_succ]
          refine wpAnyH_take (i := 14) (v := ?vrz14) rfl (by kernel_rfl) (by kernel_rfl) (by kernel_rfl) (fun _ _ _ h => h) (Or.inl ⟨by rfl, ?hyrz14⟩) (by assumption) ?restrz14
          case hyrz14 => (intro u hu; obtain ⟨_, _, _⟩ := hu; go_simp; try with_reducible rfl)
          try simp only [Act.put, List.setIfInBounds_toArray, List.set_cons_zero, List.set_cons_succ, List.getElem_toArray, List.getElem_cons_zero, List.getElem_cons_succ]
          refine wpAnyH_take (i := 17) (v := ?vrz17) rfl (by kernel_rfl) (by kernel_rfl) (by kernel_rfl) (fun _ _ _ h => h) (Or.inl ⟨by rfl, ?hyrz17⟩) (by assumption) ?restrz17
          case hyrz17 => (intro u hu; obtain ⟨_, _, _⟩ := hu; go_simp; try with_reducible rfl)
          try simp only [Act.put, List.setIfInBounds_toArray, List.set_cons_zero, List.set_cons_succ, List.getElem_toArray, List.getElem_cons_zero, List.getElem_cons_succ]
          refine wpAnyH_take (i := 18) (v := ?vrz18) rfl (by kernel_rfl) (by kernel_rfl) (by kernel_rfl) (fun _ _ _ h => h) (Or.inl ⟨by rfl, ?hyrz18⟩) (by assumption) ?restrz18
          case hyrz18 => (intro u hu; obtain ⟨_, _, _⟩ := hu; go_simp; try with_reducible rfl)
          try simp only [Act.put, List.setIfInBounds_toArray, List.set_cons_zero, List.set_cons_succ, List.getElem_toArray, List.getElem_cons_zero, List.getElem_cons_succ]
          refine wpAnyH_take (i := 19) (v := ?vrz19) rfl (by kernel_rfl) (by kernel_rfl) (by kernel_rfl) (fun _ _ _ h => h) (Or.inl ⟨by rfl, ?hyrz19⟩) (by assumption) ?restrz19
          case hyrz19 => (intro u hu; obtain ⟨_, _, _⟩ := hu; go_simp; try with_reducible rfl)
          try simp only [Act.put, List.setIfInBounds_toArray, List.set_cons_zero, List.set_cons_succ, List.getElem_toArray, List.getElem_cons_zero, List.getElem_cons_succ]
          refine wpAnyH_ready (rs := [0, 15]) (by kernel_rfl) (by simp) ?_
          refine AllReadyH.cons rfl (fun K hK => ?_) (AllReadyH.cons rfl (fun K hK => ?_) AllReadyH.nil)
          · go_simp
            refine hK.out _ _ (HS.out (on2 hHeld.1 ((Below.refl _ _).alloc (Nat.le_refl _) _))) (fun hHeld2 => ?_)
            clear hK K hHeld
            have hHeld := hHeld2
            clear hHeld2
            try simp only [Act.put, List.setIfInBounds_toArray, List.set_cons_zero, List.set_cons_succ, List.getElem_toArray, List.getElem_cons_zero, List.getElem_cons_succ]
            refine wpAnyH_ready (rs := [4, 15]) (by kernel_rfl) (by simp) ?_
            refine AllReadyH.cons rfl (fun K hK => ?_) (AllReadyH.cons rfl (fun K hK => ?_) AllReadyH.nil)
            · refine append_labsO (w0 := w1) _ _ rfl _ [] rfl (Own.start w1 (wr.drewN nq).drew _ _ hbn.drew) (some ⟨g, 0, none⟩) m capA (A.take m) HTl.out rfl (fun h => by cases h) (HTake.out hHeld.1) (by have := hkl.out; simp; omega) ?_
              intro v5 w5 hO5
              rw [List.nil_append] at hO5
              refine hK.out _ _ (HS.out hO5.1) (fun hHeld2 => ?_)
              clear hK K hHeld
              have hHeld := hHeld2
              clear hHeld2
              try simp only [Act.put, List.setIfInBounds_toArray, List.set_cons_zero, List.set_cons_succ, List.getElem_toArray, List.getElem_cons_zero, List.getElem_cons_succ]
              refine wpAnyH_ready (rs := [15]) (by kernel_rfl) (by simp) ?_
              refine AllReadyH.cons rfl (fun K hK => ?_) AllReadyH.nil
              go_simp
              refine hK.out _ _ (HS.out (on2 hHeld.1 ((Below.refl _ _).alloc (Nat.le_refl _) _))) (fun hHeld2 => ?_)
              clear hK K hHeld
              have hHeld := hHeld2
              clear hHeld2
              try simp only [Act.put, List.setIfInBounds_toArray, List.set_cons_zero, List.set_cons_succ, List.getElem_toArray, List.getElem_cons_zero, List.getElem_cons_succ]
              refine wpAnyH_ready (rs := [16]) (by kernel_rfl) (by simp) ?_
              refine AllReadyH.cons rfl (fun K hK => ?_) AllReadyH.nil
              refine append_labsO (w0 := w1) _ _ rfl v5 (A.take m) rfl (hO5.on ((Below.refl _ _).alloc (Nat.le_refl _) _)) (some ⟨w5.heap.size, 0, none⟩) 1 1 [(p, q)] rfl rfl (fun h => by cases h) (labs_one _ _ p q hp1 hq1) (by have := hkl.out; simp; omega) ?_
              intro v7 w7 hO7
              refine hK.out _ _ (HS.out hO7.1) (fun hHeld2 => ?_)
              clear hK K hHeld
              have hHeld := hHeld2
              clear hHeld2
              try simp only [Act.put, List.setIfInBounds_toArray, List.set_cons_zero, List.set_cons_succ, List.getElem_toArray, List.getElem_cons_zero, List.getElem_cons_succ]
              refine wpAnyH_ready (rs := [20]) (by kernel_rfl) (by simp) ?_
              refine AllReadyH.cons rfl (fun K hK => ?_) AllReadyH.nil
              refine append_labsO (w0 := w1) _ _ rfl v7 (A.take m ++ [(p, q)]) rfl hO7 (if capA = m then some ⟨g, 0, none⟩ else some ⟨g, m * 2, none⟩) (A.length - m) (capA - m) (A.drop m) HDl.out rfl (fun h => by split at h <;> cases h) (HDrop.out hO7.1) (by have := hkl.out; simp; omega) ?_
              intro v8 w8 hO8
              refine hK.out _ _ (HS.out hO8.1) (fun hHeld2 => ?_)
              clear hK K hHeld
              have hHeld := hHeld2
              clear hHeld2
              try simp only [Act.put, List.setIfInBounds_toArray, List.set_cons_zero, List.set_cons_succ, List.getElem_toArray, List.getElem_cons_zero, List.getElem_cons_succ]
              refine wpAnyH_take (i := 21) (v := ?vfaz) rfl (by kernel_rfl) (by kernel_rfl) (by kernel_rfl) (fun _ _ _ h => h) (Or.inl ⟨by rfl, ?hyfaz⟩) (by assumption) ?restfaz
              case hyfaz => (intro u hu; obtain ⟨_, _, _⟩ := hu; go_simp; try with_reducible rfl)
              try simp only [Act.put, List.setIfInBounds_toArray, List.set_cons_zero, List.set_cons_succ, List.getElem_toArray, List.getElem_cons_zero, List.getElem_cons_succ]
              refine wpAnyH_done (by kernel_rfl) ?_ _
              refine NoPanic.normal ?_
              generalize (if capA = m then some (⟨g, 0, none⟩ : Addr) else some ⟨g, m * 2, none⟩) = cc
              clear hHeld hO7
              go_wp2_with fail
              go_roundw
              case rel => exact ⟨k + 1, j + 1 + 1, _, by have := hj.out; unfold Hid; omega, by have := hm1.out; omega, by go_num, HEnd.out hO8⟩
              case measure => simp [intOf]; omega
            · go_simp
              refine hK.out _ _ (HS.out (on2 hHeld.1 ((Below.refl _ _).alloc (Nat.le_refl _) _))) (fun hHeld2 => ?_)
              clear hK K hHeld
              have hHeld := hHeld2
              clear hHeld2
              try simp only [Act.put, List.setIfInBounds_toArray, List.set_cons_zero, List.set_cons_succ, List.getElem_toArray, List.getElem_cons_zero, List.getElem_cons_succ]
              refine wpAnyH_ready (rs := [4]) (by kernel_rfl) (by simp) ?_
              refine AllReadyH.cons rfl (fun K hK => ?_) AllReadyH.nil
              refine append_labsK (w0 := w1) _ _ rfl (.slice (some ⟨wr.heap.size, 0, none⟩) 0 0) [] rfl ((Own.start w1 (wr.drewN nq).drew _ _ hbn.drew).on ((Below.refl _ _).alloc (Nat.le_refl _) _)) ⟨g, 0, none⟩ m capA (A.take m) HTl.out rfl (HTake.out hHeld.1) (by have := hkl.out; simp; omega) ?_
              intro v5 w5 hO5 hg5
              rw [List.nil_append] at hO5
              refine hK.out _ _ (HS.out hO5.1) (fun hHeld2 => ?_)
              clear hK K hHeld
              have hHeld := hHeld2
              clear hHeld2
              try simp only [Act.put, List.setIfInBounds_toArray, List.set_cons_zero, List.set_cons_succ, List.getElem_toArray, List.getElem_cons_zero, List.getElem_cons_succ]
              refine wpAnyH_ready (rs := [16]) (by kernel_rfl) (by simp) ?_
              refine AllReadyH.cons rfl (fun K hK => ?_) AllReadyH.nil
              refine append_labsO (w0 := w1) _ _ rfl v5 (A.take m) rfl (hO5) (some ⟨wr.heap.size + 1, 0, none⟩) 1 1 [(p, q)] rfl rfl (fun h => by cases h) (labs_kept (by have h := labs_one ((wr.drewN nq).drew.alloc (.cells #[] 52)) 52 p q hp1 hq1; rw [World.size_alloc] at h; exact h) (by simp) hg5 (by simp [Value.ownBlock])) (by have := hkl.out; simp; omega) ?_
              intro v7 w7 hO7
              refine hK.out _ _ (HS.out hO7.1) (fun hHeld2 => ?_)
              clear hK K hHeld
              have hHeld := hHeld2
              clear hHeld2
              try simp only [Act.put, List.setIfInBounds_toArray, List.set_cons_zero, List.set_cons_succ, List.getElem_toArray, List.getElem_cons_zero, List.getElem_cons_succ]
              refine wpAnyH_ready (rs := [20]) (by kernel_rfl) (by simp) ?_
              refine AllReadyH.cons rfl (fun K hK => ?_) AllReadyH.nil
              refine append_labsO (w0 := w1) _ _ rfl v7 (A.take m ++ [(p, q)]) rfl hO7 (if capA = m then some ⟨g, 0, none⟩ else some ⟨g, m * 2, none⟩) (A.length - m) (capA - m) (A.drop m) HDl.out rfl (fun h => by split at h <;> cases h) (HDrop.out hO7.1) (by have := hkl.out; simp; omega) ?_
              intro v8 w8 hO8
              refine hK.out _ _ (HS.out hO8.1) (fun hHeld2 => ?_)
              clear hK K hHeld
              have hHeld := hHeld2
              clear hHeld2
              try simp only [Act.put, List.setIfInBounds_toArray, List.set_cons_zero, List.set_cons_succ, List.getElem_toArray, List.getElem_cons_zero, List.getElem_cons_succ]
              refine wpAnyH_take (i := 21) (v := ?vfbz) rfl (by kernel_rfl) (by kernel_rfl) (by kernel_rfl) (fun _ _ _ h => h) (Or.inl ⟨by rfl, ?hyfbz⟩) (by assumption) ?restfbz
              case hyfbz => (intro u hu; obtain ⟨_, _, _⟩ := hu; go_simp; try with_reducible rfl)
              try simp only [Act.put, List.setIfInBounds_toArray, List.set_cons_zero, List.set_cons_succ, List.getElem_toArray, List.getElem_cons_zero, List.getElem_cons_succ]
              refine wpAnyH_done (by kernel_rfl) ?_ _
              refine NoPanic.normal ?_
              generalize (if capA = m then some (⟨g, 0, none⟩ : Addr) else some ⟨g, m * 2, none⟩) = cc
              clear hHeld hO7
              go_wp2_with fail
              go_roundw
              case rel => exact ⟨k + 1, j + 1 + 1, _, by have := hj.out; unfold Hid; omega, by have := hm1.out; omega, by go_num, HEnd.out hO8⟩
              case measure => simp [intOf]; omega
          · go_simp
            refine hK.out _ _ (HS.out (on2 hHeld.1 ((Below.refl _ _).alloc (Nat.le_refl _) _))) (fun hHeld2 => ?_)
            clear hK K hHeld
            have hHeld := hHeld2
            clear hHeld2
            try simp only [Act.put, List.setIfInBounds_toArray, List.set_cons_zero, List.set_cons_succ, List.getElem_toArray, List.getElem_cons_zero, List.getElem_cons_succ]
            refine wpAnyH_ready (rs := [0]) (by kernel_rfl) (by simp) ?_
            refine AllReadyH.cons rfl (fun K hK => ?_) AllReadyH.nil
            go_simp
            refine hK.out _ _ (HS.out (on2 hHeld.1 ((Below.refl _ _).alloc (Nat.le_refl _) _))) (fun hHeld2 => ?_)
            clear hK K hHeld
            have hHeld := hHeld2
            clear hHeld2
            try simp only [Act.put, List.setIfInBounds_toArray, List.set_cons_zero, List.set_cons_succ, List.getElem_toArray, List.getElem_cons_zero, List.getElem_cons_succ]
            refine wpAnyH_ready (rs := [4]) (by kernel_rfl) (by simp) ?_
            refine AllReadyH.cons rfl (fun K hK => ?_) AllReadyH.nil
            refine append_labsK (w0 := w1) _ _ rfl (.slice (some ⟨wr.heap.size + 1, 0, none⟩) 0 0) [] rfl (by have h := Own.start w1 ((wr.drewN nq).drew.alloc (.cells #[.string p, .string q] 52)) 52 2 (on2 hbn.drew ((Below.refl _ _).alloc (Nat.le_refl _) _)); rw [World.size_alloc] at h; exact h) ⟨g, 0, none⟩ m capA (A.take m) HTl.out rfl (HTake.out hHeld.1) (by have := hkl.out; simp; omega) ?_
            intro v5 w5 hO5 hg5
            rw [List.nil_append] at hO5
            refine hK.out _ _ (HS.out hO5.1) (fun hHeld2 => ?_)
            clear hK K hHeld
            have hHeld := hHeld2
            clear hHeld2
            try simp only [Act.put, List.setIfInBounds_toArray, List.set_cons_zero, List.set_cons_succ, List.getElem_toArray, List.getElem_cons_zero, List.getElem_cons_succ]
            refine wpAnyH_ready (rs := [16]) (by kernel_rfl) (by simp) ?_
            refine AllReadyH.cons rfl (fun K hK => ?_) AllReadyH.nil
            refine append_labsO (w0 := w1) _ _ rfl v5 (A.take m) rfl (hO5) (some ⟨wr.heap.size, 0, none⟩) 1 1 [(p, q)] rfl rfl (fun h => by cases h) (labs_kept ((labs_one (wr.drewN nq).drew 52 p q hp1 hq1).on ((Below.refl _ _).alloc (Nat.le_refl _) _)) (by simp) hg5 (by simp [Value.ownBlock])) (by have := hkl.out; simp; omega) ?_
            intro v7 w7 hO7
            refine hK.out _ _ (HS.out hO7.1) (fun hHeld2 => ?_)
            clear hK K hHeld
            have hHeld := hHeld2
            clear hHeld2
            try simp only [Act.put, List.setIfInBounds_toArray, List.set_cons_zero, List.set_cons_succ, List.getElem_toArray, List.getElem_cons_zero, List.getElem_cons_succ]
            refine wpAnyH_ready (rs := [20]) (by kernel_rfl) (by simp) ?_
            refine AllReadyH.cons rfl (fun K hK => ?_) AllReadyH.nil
            refine append_labsO (w0 := w1) _ _ rfl v7 (A.take m ++ [(p, q)]) rfl hO7 (if capA = m then some ⟨g, 0, none⟩ else some ⟨g, m * 2, none⟩) (A.length - m) (capA - m) (A.drop m) HDl.out rfl (fun h => by split at h <;> cases h) (HDrop.out hO7.1) (by have := hkl.out; simp; omega) ?_
            intro v8 w8 hO8
            refine hK.out _ _ (HS.out hO8.1) (fun hHeld2 => ?_)
            clear hK K hHeld
            have hHeld := hHeld2
            clear hHeld2
            try simp only [Act.put, List.setIfInBounds_toArray, List.set_cons_zero, List.set_cons_succ, List.getElem_toArray, List.getElem_cons_zero, List.getElem_cons_succ]
            refine wpAnyH_take (i := 21) (v := ?vfcz) rfl (by kernel_rfl) (by kernel_rfl) (by kernel_rfl) (fun _ _ _ h => h) (Or.inl ⟨by rfl, ?hyfcz⟩) (by assumption) ?restfcz
            case hyfcz => (intro u hu; obtain ⟨_, _, _⟩ := hu; go_simp; try with_reducible rfl)
            try simp only [Act.put, List.setIfInBounds_toArray, List.set_cons_zero, List.set_cons_succ, List.getElem_toArray, List.getElem_cons_zero, List.getElem_cons_succ]
            refine wpAnyH_done (by kernel_rfl) ?_ _
            refine NoPanic.normal ?_
            generalize (if capA = m then some (⟨g, 0, none⟩ : Addr) else some ⟨g, m * 2, none⟩) = cc
            clear hHeld hO7
            go_wp2_with fail
            go_roundw
            case rel => exact ⟨k + 1, j + 1 + 1, _, by have := hj.out; unfold Hid; omega, by have := hm1.out; omega, by go_num, HEnd.out hO8⟩
            case measure => simp [intOf]; omega
        · obtain ⟨t, ht⟩ : ∃ t, Hid (m = t + 1) := ⟨m - 1, by unfold Hid; omega⟩
          have hte := ht.out
          have hmw : IntKind.i64.wrap ((m : Int) - 1) = (t : Int) := by rw [hte]; simp only [Int.natCast_add, Int.cast_ofNat_Int, Int.add_sub_cancel]; simp [IntKind.wrap, IntKind.bits, IntKind.signed]; omega
          have htl : t < A.length := by omega
          have ht0 : (0 : Int) ≤ (t : Int) := by omega
          have b0 : decide (0 < m) = true := by simp; omega
          obtain ⟨G, o, eG, hG, x0, x1, _, _⟩ := (HA.out.1.on hbn).get htl
          obtain ⟨rfl, rfl⟩ : g = G ∧ 0 = o := by simpa using eG
          rw [Nat.zero_add] at x0
          obtain ⟨_, y0, _⟩ := HS.out hbn
          have HT : (Op.bytesLess (A.getD t default).1.toList p.toList = true ∧ Hid (sLt p (A.getD t default).1 = false)) ∨ (Op.bytesLess (A.getD t default).1.toList p.toList = false ∧ ((A.getD t default).1.toList == p.toList) = true ∧ Hid (sLt p (A.getD t default).1 = false)) ∨ (Op.bytesLess (A.getD t default).1.toList p.toList = false ∧ ((A.getD t default).1.toList == p.toList) = false ∧ Hid (sLt p (A.getD t default).1 = true)) := by
            have h := gt_iff (A.getD t default).1 p
            cases e1 : Op.bytesLess (A.getD t default).1.toList p.toList <;> cases e2 : ((A.getD t default).1.toList == p.toList) <;> rw [e1, e2] at h
            · exact .inr (.inr ⟨rfl, rfl, h.symm⟩)
            · exact .inr (.inl ⟨rfl, rfl, h.symm⟩)
            · exact .inl ⟨rfl, h.symm⟩
            · exact .inl ⟨rfl, h.symm⟩
          rcases HT with ⟨l1, hle⟩ | ⟨l1, l2, hle⟩ | ⟨l1, l2, hgtt⟩
          · have HEnd : Hid (∀ {v8 : Value} {w8 : World}, Own w1 w8 52 2 v8 (A.take m ++ [(p, q)] ++ A.drop m).length (flatL (A.take m ++ [(p, q)] ++ A.drop m)) → Hid (Own w w8 52 2 v8 (A.take m ++ [(p, q)] ++ A.drop m).length (flatL (A.take m ++ [(p, q)] ++ A.drop m)) ∧ (∃ g capA, v8 = .slice (some ⟨g, 0, none⟩) (A.take m ++ [(p, q)] ++ A.drop m).length capA) ∧ (A.take m ++ [(p, q)] ++ A.drop m).Perm (pairsTo P (k + 1)) ∧ SortedK (A.take m ++ [(p, q)] ++ A.drop m))) := fun {v8 w8} h8 => by
              refine ⟨⟨on2 HA.out.2.2.2 h8.1, Go.Joins.ownsRow_le h8.2 HA.out.2.2.2.size⟩, ?_, ?_, insert_sorted HA.out.2.1 hm hgt.out (.inr (by rw [show m - 1 = t by omega]; exact hle.out))⟩
              · rcases own_cells h8.2 with ⟨_, h0⟩ | ⟨g', c', e, _⟩
                · simp at h0
                · exact ⟨g', c', e⟩
              · rw [HP.out]; exact insert_perm.trans (List.Perm.append_right _ HA.out.2.2.1)
            clear hgt hle hm0 hte
            generalize A.getD t default = z at x0 x1 l1
            go_wp2_with fail
            go_big_quiet (fail)
            go_wp2_with fail
            have hbn := below_drewN hbn nq
            refine wp_region_noPanic ?_
            refine wp_region_held_drew (S := MS w1 B off j m1 p q) (by kernel_rfl) (HS.out hbn.drew) (fun hHeld => ?_)
            refine wpAnyH_take (i := 1) (v := ?vrx1) rfl (by kernel_rfl) (by kernel_rfl) (by kernel_rfl) (fun _ _ _ h => h) (Or.inl ⟨by rfl, ?hyrx1⟩) (by assumption) ?restrx1
            case hyrx1 => (intro u hu; obtain ⟨_, _, _⟩ := hu; go_simp; try with_reducible rfl)
            try simp only [Act.put, List.setIfInBounds_toArray, List.set_cons_zero, List.set_cons_succ, List.getElem_toArray, List.getElem_cons_zero, List.getElem_cons_succ]
            refine wpAnyH_take (i := 2) (v := ?vrx2) rfl (by kernel_rfl) (by kernel_rfl) (by kernel_rfl) (fun _ _ _ h => h) (Or.inl ⟨by rfl, ?hyrx2⟩) (by assumption) ?restrx2
            case hyrx2 => (intro u hu; obtain ⟨_, _, _⟩ := hu; go_simp; try with_reducible rfl)
            try simp only [Act.put, List.setIfInBounds_toArray, List.set_cons_zero, List.set_cons_succ, List.getElem_toArray, List.getElem_cons_zero, List.getElem_cons_succ]
            refine wpAnyH_take (i := 3) (v := ?vrx3) rfl (by kernel_rfl) (by kernel_rfl) (by kernel_rfl) (fun _ _ _ h => h) (Or.inl ⟨by rfl, ?hyrx3⟩) (by assumption) ?restrx3
            case hyrx3 => (intro u hu; obtain ⟨_, _, _⟩ := hu; go_simp; try with_reducible rfl)
            try simp only [Act.put, List.setIfInBounds_toArray, List.set_cons_zero, List.set_cons_succ, List.getElem_toArray, List.getElem_cons_zero, List.getElem_cons_succ]
            refine wpAnyH_take (i := 5) (v := ?vrx5) rfl (by kernel_rfl) (by kernel_rfl) (by kernel_rfl) (fun _ _ _ h => h) (Or.inl ⟨by rfl, ?hyrx5⟩) (by assumption) ?restrx5
            case hyrx5 => (intro u hu; obtain ⟨_, _, _⟩ := hu; go_simp; try with_reducible rfl)
            try simp only [Act.put, List.setIfInBounds_toArray, List.set_cons_zero, List.set_cons_succ, List.getElem_toArray, List.getElem_cons_zero, List.getElem_cons_succ]
            refine wpAnyH_take (i := 6) (v := ?vrx6) rfl (by kernel_rfl) (by kernel_rfl) (by kernel_rfl) (fun _ _ _ h => h) (Or.inl ⟨by rfl, ?hyrx6⟩) (by assumption) ?restrx6
            case hyrx6 => (intro u hu; obtain ⟨_, _, _⟩ := hu; go_simp; try with_reducible rfl)
            try simp only [Act.put, List.setIfInBounds_toArray, List.set_cons_zero, List.set_cons_succ, List.getElem_toArray, List.getElem_cons_zero, List.getElem_cons_succ]
            refine wpAnyH_take (i := 7) (v := ?vrx7) rfl (by kernel_rfl) (by kernel_rfl) (by kernel_rfl) (fun _ _ _ h => h) (Or.inl ⟨by rfl, ?hyrx7⟩) (by assumption) ?restrx7
            case hyrx7 => (intro u hu; obtain ⟨_, _, _⟩ := hu; go_simp; try with_reducible rfl)
            try simp only [Act.put, List.setIfInBounds_toArray, List.set_cons_zero, List.set_cons_succ, List.getElem_toArray, List.getElem_cons_zero, List.getElem_cons_succ]
            refine wpAnyH_take (i := 8) (v := ?vrx8) rfl (by kernel_rfl) (by kernel_rfl) (by kernel_rfl) (fun _ _ _ h => h) (Or.inl ⟨by rfl, ?hyrx8⟩) (by assumption) ?restrx8
            case hyrx8 => (intro u hu; obtain ⟨_, _, _⟩ := hu; go_simp; try with_reducible rfl)
            try simp only [Act.put, List.setIfInBounds_toArray, List.set_cons_zero, List.set_cons_succ, List.getElem_toArray, List.getElem_cons_zero, List.getElem_cons_succ]
            refine wpAnyH_take (i := 9) (v := ?vrx9) rfl (by kernel_rfl) (by kernel_rfl) (by kernel_rfl) (fun _ _ _ h => h) (Or.inl ⟨by rfl, ?hyrx9⟩) (by assumption) ?restrx9
            case hyrx9 => (intro u hu; obtain ⟨_, _, _⟩ := hu; go_simp; try with_reducible rfl)
            try simp only [Act.put, List.setIfInBounds_toArray, List.set_cons_zero, List.set_cons_succ, List.getElem_toArray, List.getElem_cons_zero, List.getElem_cons_succ]
            refine wpAnyH_take (i := 10) (v := ?vrx10) rfl (by kernel_rfl) (by kernel_rfl) (by kernel_rfl) (fun _ _ _ h => h) (Or.inl ⟨by rfl, ?hyrx10⟩) (by assumption) ?restrx10
            case hyrx10 => (intro u hu; obtain ⟨_, _, _⟩ := hu; go_simp; try with_reducible rfl)
            try simp only [Act.put, List.setIfInBounds_toArray, List.set_cons_zero, List.set_cons_succ, List.getElem_toArray, List.getElem_cons_zero, List.getElem_cons_succ]
            refine wpAnyH_take (i := 11) (v := ?vrx11) rfl (by kernel_rfl) (by kernel_rfl) (by kernel_rfl) (fun _ _ _ h => h) (Or.inl ⟨by rfl, ?hyrx11⟩) (by assumption) ?restrx11
            case hyrx11 => (intro u hu; obtain ⟨_, _, _⟩ := hu; go_simp; try with_reducible rfl)
            try simp only [Act.put, List.setIfInBounds_toArray, List.set_cons_zero, List.set_cons_succ, List.getElem_toArray, List.getElem_cons_zero, List.getElem_cons_succ]
            refine wpAnyH_take (i := 12) (v := ?vrx12) rfl (by kernel_rfl) (by kernel_rfl) (by kernel_rfl) (fun _ _ _ h => h) (Or.inl ⟨by rfl, ?hyrx12⟩) (by assumption) ?restrx12
            case hyrx12 => (intro u hu; obtain ⟨_, _, _⟩ := hu; go_simp; try with_reducible rfl)
            try simp only [Act.put, List.setIfInBounds_toArray, List.set_cons_zero, List.set_cons_succ, List.getElem_toArray, List.getElem_cons_zero, List.getElem_cons_succ]
            refine wpAnyH_take (i := 13) (v := ?vrx13) rfl (by kernel_rfl) (by kernel_rfl) (by kernel_rfl) (fun _ _ _ h => h) (Or.inl ⟨by rfl, ?hyrx13⟩) (by assumption) ?restrx13
            case hyrx13 => (intro u hu; obtain ⟨_, _, _⟩ := hu; go_simp; try with_reducible rfl)
            try simp only [Act.put, List.setIfInBounds_toArray, List.set_cons_zero, List.set_cons_succ, List.getElem_toArray, List.getElem_cons_zero, List.getElem_cons_succ]
            refine wpAnyH_take (i := 14) (v := ?vrx14) rfl (by kernel_rfl) (by kernel_rfl) (by kernel_rfl) (fun _ _ _ h => h) (Or.inl ⟨by rfl, ?hyrx14⟩) (by assumption) ?restrx14
            case hyrx14 => (intro u hu; obtain ⟨_, _, _⟩ := hu; go_simp; try with_reducible rfl)
            try simp only [Act.put, List.setIfInBounds_toArray, List.set_cons_zero, List.set_cons_succ, List.getElem_toArray, List.getElem_cons_zero, List.getElem_cons_succ]
            refine wpAnyH_take (i := 17) (v := ?vrx17) rfl (by kernel_rfl) (by kernel_rfl) (by kernel_rfl) (fun _ _ _ h => h) (Or.inl ⟨by rfl, ?hyrx17⟩) (by assumption) ?restrx17
            case hyrx17 => (intro u hu; obtain ⟨_, _, _⟩ := hu; go_simp; try with_reducible rfl)
            try simp only [Act.put, List.setIfInBounds_toArray, List.set_cons_zero, List.set_cons_succ, List.getElem_toArray, List.getElem_cons_zero, List.getElem_cons_succ]
            refine wpAnyH_take (i := 18) (v := ?vrx18) rfl (by kernel_rfl) (by kernel_rfl) (by kernel_rfl) (fun _ _ _ h => h) (Or.inl ⟨by rfl, ?hyrx18⟩) (by assumption) ?restrx18
            case hyrx18 => (intro u hu; obtain ⟨_, _, _⟩ := hu; go_simp; try with_reducible rfl)
            try simp only [Act.put, List.setIfInBounds_toArray, List.set_cons_zero, List.set_cons_succ, List.getElem_toArray, List.getElem_cons_zero, List.getElem_cons_succ]
            refine wpAnyH_take (i := 19) (v := ?vrx19) rfl (by kernel_rfl) (by kernel_rfl) (by kernel_rfl) (fun _ _ _ h => h) (Or.inl ⟨by rfl, ?hyrx19⟩) (by assumption) ?restrx19
            case hyrx19 => (intro u hu; obtain ⟨_, _, _⟩ := hu; go_simp; try with_reducible rfl)
            try simp only [Act.put, List.setIfInBounds_toArray, List.set_cons_zero, List.set_cons_succ, List.getElem_toArray, List.getElem_cons_zero, List.getElem_cons_succ]
            refine wpAnyH_ready (rs := [0, 15]) (by kernel_rfl) (by simp) ?_
            refine AllReadyH.cons rfl (fun K hK => ?_) (AllReadyH.cons rfl (fun K hK => ?_) AllReadyH.nil)
            · go_simp
              refine hK.out _ _ (HS.out (on2 hHeld.1 ((Below.refl _ _).alloc (Nat.le_refl _) _))) (fun hHeld2 => ?_)
              clear hK K hHeld
              have hHeld := hHeld2
              clear hHeld2
              try simp only [Act.put, List.setIfInBounds_toArray, List.set_cons_zero, List.set_cons_succ, List.getElem_toArray, List.getElem_cons_zero, List.getElem_cons_succ]
              refine wpAnyH_ready (rs := [4, 15]) (by kernel_rfl) (by simp) ?_
              refine AllReadyH.cons rfl (fun K hK => ?_) (AllReadyH.cons rfl (fun K hK => ?_) AllReadyH.nil)
              · refine append_labsO (w0 := w1) _ _ rfl _ [] rfl (Own.start w1 (wr.drewN nq).drew _ _ hbn.drew) (some ⟨g, 0, none⟩) m capA (A.take m) HTl.out rfl (fun h => by cases h) (HTake.out hHeld.1) (by have := hkl.out; simp; omega) ?_
                intro v5 w5 hO5
                rw [List.nil_append] at hO5
                refine hK.out _ _ (HS.out hO5.1) (fun hHeld2 => ?_)
                clear hK K hHeld
                have hHeld := hHeld2
                clear hHeld2
                try simp only [Act.put, List.setIfInBounds_toArray, List.set_cons_zero, List.set_cons_succ, List.getElem_toArray, List.getElem_cons_zero, List.getElem_cons_succ]
                refine wpAnyH_ready (rs := [15]) (by kernel_rfl) (by simp) ?_
                refine AllReadyH.cons rfl (fun K hK => ?_) AllReadyH.nil
                go_simp
                refine hK.out _ _ (HS.out (on2 hHeld.1 ((Below.refl _ _).alloc (Nat.le_refl _) _))) (fun hHeld2 => ?_)
                clear hK K hHeld
                have hHeld := hHeld2
                clear hHeld2
                try simp only [Act.put, List.setIfInBounds_toArray, List.set_cons_zero, List.set_cons_succ, List.getElem_toArray, List.getElem_cons_zero, List.getElem_cons_succ]
                refine wpAnyH_ready (rs := [16]) (by kernel_rfl) (by simp) ?_
                refine AllReadyH.cons rfl (fun K hK => ?_) AllReadyH.nil
                refine append_labsO (w0 := w1) _ _ rfl v5 (A.take m) rfl (hO5.on ((Below.refl _ _).alloc (Nat.le_refl _) _)) (some ⟨w5.heap.size, 0, none⟩) 1 1 [(p, q)] rfl rfl (fun h => by cases h) (labs_one _ _ p q hp1 hq1) (by have := hkl.out; simp; omega) ?_
                intro v7 w7 hO7
                refine hK.out _ _ (HS.out hO7.1) (fun hHeld2 => ?_)
                clear hK K hHeld
                have hHeld := hHeld2
                clear hHeld2
                try simp only [Act.put, List.setIfInBounds_toArray, List.set_cons_zero, List.set_cons_succ, List.getElem_toArray, List.getElem_cons_zero, List.getElem_cons_succ]
                refine wpAnyH_ready (rs := [20]) (by kernel_rfl) (by simp) ?_
                refine AllReadyH.cons rfl (fun K hK => ?_) AllReadyH.nil
                refine append_labsO (w0 := w1) _ _ rfl v7 (A.take m ++ [(p, q)]) rfl hO7 (if capA = m then some ⟨g, 0, none⟩ else some ⟨g, m * 2, none⟩) (A.length - m) (capA - m) (A.drop m) HDl.out rfl (fun h => by split at h <;> cases h) (HDrop.out hO7.1) (by have := hkl.out; simp; omega) ?_
                intro v8 w8 hO8
                refine hK.out _ _ (HS.out hO8.1) (fun hHeld2 => ?_)
                clear hK K hHeld
                have hHeld := hHeld2
                clear hHeld2
                try simp only [Act.put, List.setIfInBounds_toArray, List.set_cons_zero, List.set_cons_succ, List.getElem_toArray, List.getElem_cons_zero, List.getElem_cons_succ]
                refine wpAnyH_take (i := 21) (v := ?vfax) rfl (by kernel_rfl) (by kernel_rfl) (by kernel_rfl) (fun _ _ _ h => h) (Or.inl ⟨by rfl, ?hyfax⟩) (by assumption) ?restfax
                case hyfax => (intro u hu; obtain ⟨_, _, _⟩ := hu; go_simp; try with_reducible rfl)
                try simp only [Act.put, List.setIfInBounds_toArray, List.set_cons_zero, List.set_cons_succ, List.getElem_toArray, List.getElem_cons_zero, List.getElem_cons_succ]
                refine wpAnyH_done (by kernel_rfl) ?_ _
                refine NoPanic.normal ?_
                generalize (if capA = m then some (⟨g, 0, none⟩ : Addr) else some ⟨g, m * 2, none⟩) = cc
                clear hHeld hO7
                go_wp2_with fail
                go_roundw
                case rel => exact ⟨k + 1, j + 1 + 1, _, by have := hj.out; unfold Hid; omega, by have := hm1.out; omega, by go_num, HEnd.out hO8⟩
                case measure => simp [intOf]; omega
              · go_simp
                refine hK.out _ _ (HS.out (on2 hHeld.1 ((Below.refl _ _).alloc (Nat.le_refl _) _))) (fun hHeld2 => ?_)
                clear hK K hHeld
                have hHeld := hHeld2
                clear hHeld2
                try simp only [Act.put, List.setIfInBounds_toArray, List.set_cons_zero, List.set_cons_succ, List.getElem_toArray, List.getElem_cons_zero, List.getElem_cons_succ]
                refine wpAnyH_ready (rs := [4]) (by kernel_rfl) (by simp) ?_
                refine AllReadyH.cons rfl (fun K hK => ?_) AllReadyH.nil
                refine append_labsK (w0 := w1) _ _ rfl (.slice (some ⟨wr.heap.size, 0, none⟩) 0 0) [] rfl ((Own.start w1 (wr.drewN nq).drew _ _ hbn.drew).on ((Below.refl _ _).alloc (Nat.le_refl _) _)) ⟨g, 0, none⟩ m capA (A.take m) HTl.out rfl (HTake.out hHeld.1) (by have := hkl.out; simp; omega) ?_
                intro v5 w5 hO5 hg5
                rw [List.nil_append] at hO5
                refine hK.out _ _ (HS.out hO5.1) (fun hHeld2 => ?_)
                clear hK K hHeld
                have hHeld := hHeld2
                clear hHeld2
                try simp only [Act.put, List.setIfInBounds_toArray, List.set_cons_zero, List.set_cons_succ, List.getElem_toArray, List.getElem_cons_zero, List.getElem_cons_succ]
                refine wpAnyH_ready (rs := [16]) (by kernel_rfl) (by simp) ?_
                refine AllReadyH.cons rfl (fun K hK => ?_) AllReadyH.nil
                refine append_labsO (w0 := w1) _ _ rfl v5 (A.take m) rfl (hO5) (some ⟨wr.heap.size + 1, 0, none⟩) 1 1 [(p, q)] rfl rfl (fun h => by cases h) (labs_kept (by have h := labs_one ((wr.drewN nq).drew.alloc (.cells #[] 52)) 52 p q hp1 hq1; rw [World.size_alloc] at h; exact h) (by simp) hg5 (by simp [Value.ownBlock])) (by have := hkl.out; simp; omega) ?_
                intro v7 w7 hO7
                refine hK.out _ _ (HS.out hO7.1) (fun hHeld2 => ?_)
                clear hK K hHeld
                have hHeld := hHeld2
                clear hHeld2
                try simp only [Act.put, List.setIfInBounds_toArray, List.set_cons_zero, List.set_cons_succ, List.getElem_toArray, List.getElem_cons_zero, List.getElem_cons_succ]
                refine wpAnyH_ready (rs := [20]) (by kernel_rfl) (by simp) ?_
                refine AllReadyH.cons rfl (fun K hK => ?_) AllReadyH.nil
                refine append_labsO (w0 := w1) _ _ rfl v7 (A.take m ++ [(p, q)]) rfl hO7 (if capA = m then some ⟨g, 0, none⟩ else some ⟨g, m * 2, none⟩) (A.length - m) (capA - m) (A.drop m) HDl.out rfl (fun h => by split at h <;> cases h) (HDrop.out hO7.1) (by have := hkl.out; simp; omega) ?_
                intro v8 w8 hO8
                refine hK.out _ _ (HS.out hO8.1) (fun hHeld2 => ?_)
                clear hK K hHeld
                have hHeld := hHeld2
                clear hHeld2
                try simp only [Act.put, List.setIfInBounds_toArray, List.set_cons_zero, List.set_cons_succ, List.getElem_toArray, List.getElem_cons_zero, List.getElem_cons_succ]
                refine wpAnyH_take (i := 21) (v := ?vfbx) rfl (by kernel_rfl) (by kernel_rfl) (by kernel_rfl) (fun _ _ _ h => h) (Or.inl ⟨by rfl, ?hyfbx⟩) (by assumption) ?restfbx
                case hyfbx => (intro u hu; obtain ⟨_, _, _⟩ := hu; go_simp; try with_reducible rfl)
                try simp only [Act.put, List.setIfInBounds_toArray, List.set_cons_zero, List.set_cons_succ, List.getElem_toArray, List.getElem_cons_zero, List.getElem_cons_succ]
                refine wpAnyH_done (by kernel_rfl) ?_ _
                refine NoPanic.normal ?_
                generalize (if capA = m then some (⟨g, 0, none⟩ : Addr) else some ⟨g, m * 2, none⟩) = cc
                clear hHeld hO7
                go_wp2_with fail
                go_roundw
                case rel => exact ⟨k + 1, j + 1 + 1, _, by have := hj.out; unfold Hid; omega, by have := hm1.out; omega, by go_num, HEnd.out hO8⟩
                case measure => simp [intOf]; omega
            · go_simp
              refine hK.out _ _ (HS.out (on2 hHeld.1 ((Below.refl _ _).alloc (Nat.le_refl _) _))) (fun hHeld2 => ?_)
              clear hK K hHeld
              have hHeld := hHeld2
              clear hHeld2
              try simp only [Act.put, List.setIfInBounds_toArray, List.set_cons_zero, List.set_cons_succ, List.getElem_toArray, List.getElem_cons_zero, List.getElem_cons_succ]
              refine wpAnyH_ready (rs := [0]) (by kernel_rfl) (by simp) ?_
              refine AllReadyH.cons rfl (fun K hK => ?_) AllReadyH.nil
              go_simp
              refine hK.out _ _ (HS.out (on2 hHeld.1 ((Below.refl _ _).alloc (Nat.le_refl _) _))) (fun hHeld2 => ?_)
              clear hK K hHeld
              have hHeld := hHeld2
              clear hHeld2
              try simp only [Act.put, List.setIfInBounds_toArray, List.set_cons_zero, List.set_cons_succ, List.getElem_toArray, List.getElem_cons_zero, List.getElem_cons_succ]
              refine wpAnyH_ready (rs := [4]) (by kernel_rfl) (by simp) ?_
              refine AllReadyH.cons rfl (fun K hK => ?_) AllReadyH.nil
              refine append_labsK (w0 := w1) _ _ rfl (.slice (some ⟨wr.heap.size + 1, 0, none⟩) 0 0) [] rfl (by have h := Own.start w1 ((wr.drewN nq).drew.alloc (.cells #[.string p, .string q] 52)) 52 2 (on2 hbn.drew ((Below.refl _ _).alloc (Nat.le_refl _) _)); rw [World.size_alloc] at h; exact h) ⟨g, 0, none⟩ m capA (A.take m) HTl.out rfl (HTake.out hHeld.1) (by have := hkl.out; simp; omega) ?_
              intro v5 w5 hO5 hg5
              rw [List.nil_append] at hO5
              refine hK.out _ _ (HS.out hO5.1) (fun hHeld2 => ?_)
              clear hK K hHeld
              have hHeld := hHeld2
              clear hHeld2
              try simp only [Act.put, List.setIfInBounds_toArray, List.set_cons_zero, List.set_cons_succ, List.getElem_toArray, List.getElem_cons_zero, List.getElem_cons_succ]
              refine wpAnyH_ready (rs := [16]) (by kernel_rfl) (by simp) ?_
              refine AllReadyH.cons rfl (fun K hK => ?_) AllReadyH.nil
              refine append_labsO (w0 := w1) _ _ rfl v5 (A.take m) rfl (hO5) (some ⟨wr.heap.size, 0, none⟩) 1 1 [(p, q)] rfl rfl (fun h => by cases h) (labs_kept ((labs_one (wr.drewN nq).drew 52 p q hp1 hq1).on ((Below.refl _ _).alloc (Nat.le_refl _) _)) (by simp) hg5 (by simp [Value.ownBlock])) (by have := hkl.out; simp; omega) ?_
              intro v7 w7 hO7
              refine hK.out _ _ (HS.out hO7.1) (fun hHeld2 => ?_)
              clear hK K hHeld
              have hHeld := hHeld2
              clear hHeld2
              try simp only [Act.put, List.setIfInBounds_toArray, List.set_cons_zero, List.set_cons_succ, List.getElem_toArray, List.getElem_cons_zero, List.getElem_cons_succ]
              refine wpAnyH_ready (rs := [20]) (by kernel_rfl) (by simp) ?_
              refine AllReadyH.cons rfl (fun K hK => ?_) AllReadyH.nil
              refine append_labsO (w0 := w1) _ _ rfl v7 (A.take m ++ [(p, q)]) rfl hO7 (if capA = m then some ⟨g, 0, none⟩ else some ⟨g, m * 2, none⟩) (A.length - m) (capA - m) (A.drop m) HDl.out rfl (fun h => by split at h <;> cases h) (HDrop.out hO7.1) (by have := hkl.out; simp; omega) ?_
              intro v8 w8 hO8
              refine hK.out _ _ (HS.out hO8.1) (fun hHeld2 => ?_)
              clear hK K hHeld
              have hHeld := hHeld2
              clear hHeld2
              try simp only [Act.put, List.setIfInBounds_toArray, List.set_cons_zero, List.set_cons_succ, List.getElem_toArray, List.getElem_cons_zero, List.getElem_cons_succ]
              refine wpAnyH_take (i := 21) (v := ?vfcx) rfl (by kernel_rfl) (by kernel_rfl) (by kernel_rfl) (fun _ _ _ h => h) (Or.inl ⟨by rfl, ?hyfcx⟩) (by assumption) ?restfcx
              case hyfcx => (intro u hu; obtain ⟨_, _, _⟩ := hu; go_simp; try with_reducible rfl)
              try simp only [Act.put, List.setIfInBounds_toArray, List.set_cons_zero, List.set_cons_succ, List.getElem_toArray, List.getElem_cons_zero, List.getElem_cons_succ]
              refine wpAnyH_done (by kernel_rfl) ?_ _
              refine NoPanic.normal ?_
              generalize (if capA = m then some (⟨g, 0, none⟩ : Addr) else some ⟨g, m * 2, none⟩) = cc
              clear hHeld hO7
              go_wp2_with fail
              go_roundw
              case rel => exact ⟨k + 1, j + 1 + 1, _, by have := hj.out; unfold Hid; omega, by have := hm1.out; omega, by go_num, HEnd.out hO8⟩
              case measure => simp [intOf]; omega
          · have HEnd : Hid (∀ {v8 : Value} {w8 : World}, Own w1 w8 52 2 v8 (A.take m ++ [(p, q)] ++ A.drop m).length (flatL (A.take m ++ [(p, q)] ++ A.drop m)) → Hid (Own w w8 52 2 v8 (A.take m ++ [(p, q)] ++ A.drop m).length (flatL (A.take m ++ [(p, q)] ++ A.drop m)) ∧ (∃ g capA, v8 = .slice (some ⟨g, 0, none⟩) (A.take m ++ [(p, q)] ++ A.drop m).length capA) ∧ (A.take m ++ [(p, q)] ++ A.drop m).Perm (pairsTo P (k + 1)) ∧ SortedK (A.take m ++ [(p, q)] ++ A.drop m))) := fun {v8 w8} h8 => by
              refine ⟨⟨on2 HA.out.2.2.2 h8.1, Go.Joins.ownsRow_le h8.2 HA.out.2.2.2.size⟩, ?_, ?_, insert_sorted HA.out.2.1 hm hgt.out (.inr (by rw [show m - 1 = t by omega]; exact hle.out))⟩
              · rcases own_cells h8.2 with ⟨_, h0⟩ | ⟨g', c', e, _⟩
                · simp at h0
                · exact ⟨g', c', e⟩
              · rw [HP.out]; exact insert_perm.trans (List.Perm.append_right _ HA.out.2.2.1)
            clear hgt hle hm0 hte
            generalize A.getD t default = z at x0 x1 l1 l2
            go_wp2_with fail
            go_big_quiet (fail)
            go_wp2_with fail
            have hbn := below_drewN hbn nq
            refine wp_region_noPanic ?_
            refine wp_region_held_drew (S := MS w1 B off j m1 p q) (by kernel_rfl) (HS.out hbn.drew) (fun hHeld => ?_)
            refine wpAnyH_take (i := 1) (v := ?vry1) rfl (by kernel_rfl) (by kernel_rfl) (by kernel_rfl) (fun _ _ _ h => h) (Or.inl ⟨by rfl, ?hyry1⟩) (by assumption) ?restry1
            case hyry1 => (intro u hu; obtain ⟨_, _, _⟩ := hu; go_simp; try with_reducible rfl)
            try simp only [Act.put, List.setIfInBounds_toArray, List.set_cons_zero, List.set_cons_succ, List.getElem_toArray, List.getElem_cons_zero, List.getElem_cons_succ]
            refine wpAnyH_take (i := 2) (v := ?vry2) rfl (by kernel_rfl) (by kernel_rfl) (by kernel_rfl) (fun _ _ _ h => h) (Or.inl ⟨by rfl, ?hyry2⟩) (by assumption) ?restry2
            case hyry2 => (intro u hu; obtain ⟨_, _, _⟩ := hu; go_simp; try with_reducible rfl)
            try simp only [Act.put, List.setIfInBounds_toArray, List.set_cons_zero, List.set_cons_succ, List.getElem_toArray, List.getElem_cons_zero, List.getElem_cons_succ]
            refine wpAnyH_take (i := 3) (v := ?vry3) rfl (by kernel_rfl) (by kernel_rfl) (by kernel_rfl) (fun _ _ _ h => h) (Or.inl ⟨by rfl, ?hyry3⟩) (by assumption) ?restry3
            case hyry3 => (intro u hu; obtain ⟨_, _, _⟩ := hu; go_simp; try with_reducible rfl)
            try simp only [Act.put, List.setIfInBounds_toArray, List.set_cons_zero, List.set_cons_succ, List.getElem_toArray, List.getElem_cons_zero, List.getElem_cons_succ]
            refine wpAnyH_take (i := 5) (v := ?vry5) rfl (by kernel_rfl) (by kernel_rfl) (by kernel_rfl) (fun _ _ _ h => h) (Or.inl ⟨by rfl, ?hyry5⟩) (by assumption) ?restry5
            case hyry5 => (intro u hu; obtain ⟨_, _, _⟩ := hu; go_simp; try with_reducible rfl)
            try simp only [Act.put, List.setIfInBounds_toArray, List.set_cons_zero, List.set_cons_succ, List.getElem_toArray, List.getElem_cons_zero, List.getElem_cons_succ]
            refine wpAnyH_take (i := 6) (v := ?vry6) rfl (by kernel_rfl) (by kernel_rfl) (by kernel_rfl) (fun _ _ _ h => h) (Or.inl ⟨by rfl, ?hyry6⟩) (by assumption) ?restry6
            case hyry6 => (intro u hu; obtain ⟨_, _, _⟩ := hu; go_simp; try with_reducible rfl)
            try simp only [Act.put, List.setIfInBounds_toArray, List.set_cons_zero, List.set_cons_succ, List.getElem_toArray, List.getElem_cons_zero, List.getElem_cons_succ]
            refine wpAnyH_take (i := 7) (v := ?vry7) rfl (by kernel_rfl) (by kernel_rfl) (by kernel_rfl) (fun _ _ _ h => h) (Or.inl ⟨by rfl, ?hyry7⟩) (by assumption) ?restry7
            case hyry7 => (intro u hu; obtain ⟨_, _, _⟩ := hu; go_simp; try with_reducible rfl)
            try simp only [Act.put, List.setIfInBounds_toArray, List.set_cons_zero, List.set_cons_succ, List.getElem_toArray, List.getElem_cons_zero, List.getElem_cons_succ]
            refine wpAnyH_take (i := 8) (v := ?vry8) rfl (by kernel_rfl) (by kernel_rfl) (by kernel_rfl) (fun _ _ _ h => h) (Or.inl ⟨by rfl, ?hyry8⟩) (by assumption) ?restry8
            case hyry8 => (intro u hu; obtain ⟨_, _, _⟩ := hu; go_simp; try with_reducible rfl)
            try simp only [Act.put, List.setIfInBounds_toArray, List.set_cons_zero, List.set_cons_succ, List.getElem_toArray, List.getElem_cons_zero, List.getElem_cons_succ]
            refine wpAnyH_take (i := 9) (v := ?vry9) rfl (by kernel_rfl) (by kernel_rfl) (by kernel_rfl) (fun _ _ _ h => h) (Or.inl ⟨by rfl, ?hyry9⟩) (by assumption) ?restry9
            case hyry9 => (intro u hu; obtain ⟨_, _, _⟩ := hu; go_simp; try with_reducible rfl)
            try simp only [Act.put, List.setIfInBounds_toArray, List.set_cons_zero, List.set_cons_succ, List.getElem_toArray, List.getElem_cons_zero, List.getElem_cons_succ]
            refine wpAnyH_take (i := 10) (v := ?vry10) rfl (by kernel_rfl) (by kernel_rfl) (by kernel_rfl) (fun _ _ _ h => h) (Or.inl ⟨by rfl, ?hyry10⟩) (by assumption) ?restry10
            case hyry10 => (intro u hu; obtain ⟨_, _, _⟩ := hu; go_simp; try with_reducible rfl)
            try simp only [Act.put, List.setIfInBounds_toArray, List.set_cons_zero, List.set_cons_succ, List.getElem_toArray, List.getElem_cons_zero, List.getElem_cons_succ]
            refine wpAnyH_take (i := 11) (v := ?vry11) rfl (by kernel_rfl) (by kernel_rfl) (by kernel_rfl) (fun _ _ _ h => h) (Or.inl ⟨by rfl, ?hyry11⟩) (by assumption) ?restry11
            case hyry11 => (intro u hu; obtain ⟨_, _, _⟩ := hu; go_simp; try with_reducible rfl)
            try simp only [Act.put, List.setIfInBounds_toArray, List.set_cons_zero, List.set_cons_succ, List.getElem_toArray, List.getElem_cons_zero, List.getElem_cons_succ]
            refine wpAnyH_take (i := 12) (v := ?vry12) rfl (by kernel_rfl) (by kernel_rfl) (by kernel_rfl) (fun _ _ _ h => h) (Or.inl ⟨by rfl, ?hyry12⟩) (by assumption) ?restry12
            case hyry12 => (intro u hu; obtain ⟨_, _, _⟩ := hu; go_simp; try with_reducible rfl)
            try simp only [Act.put, List.setIfInBounds_toArray, List.set_cons_zero, List.set_cons_succ, List.getElem_toArray, List.getElem_cons_zero, List.getElem_cons_succ]
            refine wpAnyH_take (i := 13) (v := ?vry13) rfl (by kernel_rfl) (by kernel_rfl) (by kernel_rfl) (fun _ _ _ h => h) (Or.inl ⟨by rfl, ?hyry13⟩) (by assumption) ?restry13
            case hyry13 => (intro u hu; obtain ⟨_, _, _⟩ := hu; go_simp; try with_reducible rfl)
            try simp only [Act.put, List.setIfInBounds_toArray, List.set_cons_zero, List.set_cons_succ, List.getElem_toArray, List.getElem_cons_zero, List.getElem_cons_succ]
            refine wpAnyH_take (i := 14) (v := ?vry14) rfl (by kernel_rfl) (by kernel_rfl) (by kernel_rfl) (fun _ _ _ h => h) (Or.inl ⟨by rfl, ?hyry14⟩) (by assumption) ?restry14
            case hyry14 => (intro u hu; obtain ⟨_, _, _⟩ := hu; go_simp; try with_reducible rfl)
            try simp only [Act.put, List.setIfInBounds_toArray, List.set_cons_zero, List.set_cons_succ, List.getElem_toArray, List.getElem_cons_zero, List.getElem_cons_succ]
            refine wpAnyH_take (i := 17) (v := ?vry17) rfl (by kernel_rfl) (by kernel_rfl) (by kernel_rfl) (fun _ _ _ h => h) (Or.inl ⟨by rfl, ?hyry17⟩) (by assumption) ?restry17
            case hyry17 => (intro u hu; obtain ⟨_, _, _⟩ := hu; go_simp; try with_reducible rfl)
            try simp only [Act.put, List.setIfInBounds_toArray, List.set_cons_zero, List.set_cons_succ, List.getElem_toArray, List.getElem_cons_zero, List.getElem_cons_succ]
            refine wpAnyH_take (i := 18) (v := ?vry18) rfl (by kernel_rfl) (by kernel_rfl) (by kernel_rfl) (fun _ _ _ h => h) (Or.inl ⟨by rfl, ?hyry18⟩) (by assumption) ?restry18
            case hyry18 => (intro u hu; obtain ⟨_, _, _⟩ := hu; go_simp; try with_reducible rfl)
            try simp only [Act.put, List.setIfInBounds_toArray, List.set_cons_zero, List.set_cons_succ, List.getElem_toArray, List.getElem_cons_zero, List.getElem_cons_succ]
            refine wpAnyH_take (i := 19) (v := ?vry19) rfl (by kernel_rfl) (by kernel_rfl) (by kernel_rfl) (fun _ _ _ h => h) (Or.inl ⟨by rfl, ?hyry19⟩) (by assumption) ?restry19
            case hyry19 => (intro u hu; obtain ⟨_, _, _⟩ := hu; go_simp; try with_reducible rfl)
            try simp only [Act.put, List.setIfInBounds_toArray, List.set_cons_zero, List.set_cons_succ, List.getElem_toArray, List.getElem_cons_zero, List.getElem_cons_succ]
            refine wpAnyH_ready (rs := [0, 15]) (by kernel_rfl) (by simp) ?_
            refine AllReadyH.cons rfl (fun K hK => ?_) (AllReadyH.cons rfl (fun K hK => ?_) AllReadyH.nil)
            · go_simp
              refine hK.out _ _ (HS.out (on2 hHeld.1 ((Below.refl _ _).alloc (Nat.le_refl _) _))) (fun hHeld2 => ?_)
              clear hK K hHeld
              have hHeld := hHeld2
              clear hHeld2
              try simp only [Act.put, List.setIfInBounds_toArray, List.set_cons_zero, List.set_cons_succ, List.getElem_toArray, List.getElem_cons_zero, List.getElem_cons_succ]
              refine wpAnyH_ready (rs := [4, 15]) (by kernel_rfl) (by simp) ?_
              refine AllReadyH.cons rfl (fun K hK => ?_) (AllReadyH.cons rfl (fun K hK => ?_) AllReadyH.nil)
              · refine append_labsO (w0 := w1) _ _ rfl _ [] rfl (Own.start w1 (wr.drewN nq).drew _ _ hbn.drew) (some ⟨g, 0, none⟩) m capA (A.take m) HTl.out rfl (fun h => by cases h) (HTake.out hHeld.1) (by have := hkl.out; simp; omega) ?_
                intro v5 w5 hO5
                rw [List.nil_append] at hO5
                refine hK.out _ _ (HS.out hO5.1) (fun hHeld2 => ?_)
                clear hK K hHeld
                have hHeld := hHeld2
                clear hHeld2
                try simp only [Act.put, List.setIfInBounds_toArray, List.set_cons_zero, List.set_cons_succ, List.getElem_toArray, List.getElem_cons_zero, List.getElem_cons_succ]
                refine wpAnyH_ready (rs := [15]) (by kernel_rfl) (by simp) ?_
                refine AllReadyH.cons rfl (fun K hK => ?_) AllReadyH.nil
                go_simp
                refine hK.out _ _ (HS.out (on2 hHeld.1 ((Below.refl _ _).alloc (Nat.le_refl _) _))) (fun hHeld2 => ?_)
                clear hK K hHeld
                have hHeld := hHeld2
                clear hHeld2
                try simp only [Act.put, List.setIfInBounds_toArray, List.set_cons_zero, List.set_cons_succ, List.getElem_toArray, List.getElem_cons_zero, List.getElem_cons_succ]
                refine wpAnyH_ready (rs := [16]) (by kernel_rfl) (by simp) ?_
                refine AllReadyH.cons rfl (fun K hK => ?_) AllReadyH.nil
                refine append_labsO (w0 := w1) _ _ rfl v5 (A.take m) rfl (hO5.on ((Below.refl _ _).alloc (Nat.le_refl _) _)) (some ⟨w5.heap.size, 0, none⟩) 1 1 [(p, q)] rfl rfl (fun h => by cases h) (labs_one _ _ p q hp1 hq1) (by have := hkl.out; simp; omega) ?_
                intro v7 w7 hO7
                refine hK.out _ _ (HS.out hO7.1) (fun hHeld2 => ?_)
                clear hK K hHeld
                have hHeld := hHeld2
                clear hHeld2
                try simp only [Act.put, List.setIfInBounds_toArray, List.set_cons_zero, List.set_cons_succ, List.getElem_toArray, List.getElem_cons_zero, List.getElem_cons_succ]
                refine wpAnyH_ready (rs := [20]) (by kernel_rfl) (by simp) ?_
                refine AllReadyH.cons rfl (fun K hK => ?_) AllReadyH.nil
                refine append_labsO (w0 := w1) _ _ rfl v7 (A.take m ++ [(p, q)]) rfl hO7 (if capA = m then some ⟨g, 0, none⟩ else some ⟨g, m * 2, none⟩) (A.length - m) (capA - m) (A.drop m) HDl.out rfl (fun h => by split at h <;> cases h) (HDrop.out hO7.1) (by have := hkl.out; simp; omega) ?_
                intro v8 w8 hO8
                refine hK.out _ _ (HS.out hO8.1) (fun hHeld2 => ?_)
                clear hK K hHeld
                have hHeld := hHeld2
                clear hHeld2
                try simp only [Act.put, List.setIfInBounds_toArray, List.set_cons_zero, List.set_cons_succ, List.getElem_toArray, List.getElem_cons_zero, List.getElem_cons_succ]
                refine wpAnyH_take (i := 21) (v := ?vfay) rfl (by kernel_rfl) (by kernel_rfl) (by kernel_rfl) (fun _ _ _ h => h) (Or.inl ⟨by rfl, ?hyfay⟩) (by assumption) ?restfay
                case hyfay => (intro u hu; obtain ⟨_, _, _⟩ := hu; go_simp; try with_reducible rfl)
                try simp only [Act.put, List.setIfInBounds_toArray, List.set_cons_zero, List.set_cons_succ, List.getElem_toArray, List.getElem_cons_zero, List.getElem_cons_succ]
                refine wpAnyH_done (by kernel_rfl) ?_ _
                refine NoPanic.normal ?_
                generalize (if capA = m then some (⟨g, 0, none⟩ : Addr) else some ⟨g, m * 2, none⟩) = cc
                clear hHeld hO7
                go_wp2_with fail
                go_roundw
                case rel => exact ⟨k + 1, j + 1 + 1, _, by have := hj.out; unfold Hid; omega, by have := hm1.out; omega, by go_num, HEnd.out hO8⟩
                case measure => simp [intOf]; omega
              · go_simp
                refine hK.out _ _ (HS.out (on2 hHeld.1 ((Below.refl _ _).alloc (Nat.le_refl _) _))) (fun hHeld2 => ?_)
                clear hK K hHeld
                have hHeld := hHeld2
                clear hHeld2
                try simp only [Act.put, List.setIfInBounds_toArray, List.set_cons_zero, List.set_cons_succ, List.getElem_toArray, List.getElem_cons_zero, List.getElem_cons_succ]
                refine wpAnyH_ready (rs := [4]) (by kernel_rfl) (by simp) ?_
                refine AllReadyH.cons rfl (fun K hK => ?_) AllReadyH.nil
                refine append_labsK (w0 := w1) _ _ rfl (.slice (some ⟨wr.heap.size, 0, none⟩) 0 0) [] rfl ((Own.start w1 (wr.drewN nq).drew _ _ hbn.drew).on ((Below.refl _ _).alloc (Nat.le_refl _) _)) ⟨g, 0, none⟩ m capA (A.take m) HTl.out rfl (HTake.out hHeld.1) (by have := hkl.out; simp; omega) ?_
                intro v5 w5 hO5 hg5
                rw [List.nil_append] at hO5
                refine hK.out _ _ (HS.out hO5.1) (fun hHeld2 => ?_)
                clear hK K hHeld
                have hHeld := hHeld2
                clear hHeld2
                try simp only [Act.put, List.setIfInBounds_toArray, List.set_cons_zero, List.set_cons_succ, List.getElem_toArray, List.getElem_cons_zero, List.getElem_cons_succ]
                refine wpAnyH_ready (rs := [16]) (by kernel_rfl) (by simp) ?_
                refine AllReadyH.cons rfl (fun K hK => ?_) AllReadyH.nil
                refine append_labsO (w0 := w1) _ _ rfl v5 (A.take m) rfl (hO5) (some ⟨wr.heap.size + 1, 0, none⟩) 1 1 [(p, q)] rfl rfl (fun h => by cases h) (labs_kept (by have h := labs_one ((wr.drewN nq).drew.alloc (.cells #[] 52)) 52 p q hp1 hq1; rw [World.size_alloc] at h; exact h) (by simp) hg5 (by simp [Value.ownBlock])) (by have := hkl.out; simp; omega) ?_
                intro v7 w7 hO7
                refine hK.out _ _ (HS.out hO7.1) (fun hHeld2 => ?_)
                clear hK K hHeld
                have hHeld := hHeld2
                clear hHeld2
                try simp only [Act.put, List.setIfInBounds_toArray, List.set_cons_zero, List.set_cons_succ, List.getElem_toArray, List.getElem_cons_zero, List.getElem_cons_succ]
                refine wpAnyH_ready (rs := [20]) (by kernel_rfl) (by simp) ?_
                refine AllReadyH.cons rfl (fun K hK => ?_) AllReadyH.nil
                refine append_labsO (w0 := w1) _ _ rfl v7 (A.take m ++ [(p, q)]) rfl hO7 (if capA = m then some ⟨g, 0, none⟩ else some ⟨g, m * 2, none⟩) (A.length - m) (capA - m) (A.drop m) HDl.out rfl (fun h => by split at h <;> cases h) (HDrop.out hO7.1) (by have := hkl.out; simp; omega) ?_
                intro v8 w8 hO8
                refine hK.out _ _ (HS.out hO8.1) (fun hHeld2 => ?_)
                clear hK K hHeld
                have hHeld := hHeld2
                clear hHeld2
                try simp only [Act.put, List.setIfInBounds_toArray, List.set_cons_zero, List.set_cons_succ, List.getElem_toArray, List.getElem_cons_zero, List.getElem_cons_succ]
                refine wpAnyH_take (i := 21) (v := ?vfby) rfl (by kernel_rfl) (by kernel_rfl) (by kernel_rfl) (fun _ _ _ h => h) (Or.inl ⟨by rfl, ?hyfby⟩) (by assumption) ?restfby
                case hyfby => (intro u hu; obtain ⟨_, _, _⟩ := hu; go_simp; try with_reducible rfl)
                try simp only [Act.put, List.setIfInBounds_toArray, List.set_cons_zero, List.set_cons_succ, List.getElem_toArray, List.getElem_cons_zero, List.getElem_cons_succ]
                refine wpAnyH_done (by kernel_rfl) ?_ _
                refine NoPanic.normal ?_
                generalize (if capA = m then some (⟨g, 0, none⟩ : Addr) else some ⟨g, m * 2, none⟩) = cc
                clear hHeld hO7
                go_wp2_with fail
                go_roundw
                case rel => exact ⟨k + 1, j + 1 + 1, _, by have := hj.out; unfold Hid; omega, by have := hm1.out; omega, by go_num, HEnd.out hO8⟩
                case measure => simp [intOf]; omega
            · go_simp
              refine hK.out _ _ (HS.out (on2 hHeld.1 ((Below.refl _ _).alloc (Nat.le_refl _) _))) (fun hHeld2 => ?_)
              clear hK K hHeld
              have hHeld := hHeld2
              clear hHeld2
              try simp only [Act.put, List.setIfInBounds_toArray, List.set_cons_zero, List.set_cons_succ, List.getElem_toArray, List.getElem_cons_zero, List.getElem_cons_succ]
              refine wpAnyH_ready (rs := [0]) (by kernel_rfl) (by simp) ?_
              refine AllReadyH.cons rfl (fun K hK => ?_) AllReadyH.nil
              go_simp
              refine hK.out _ _ (HS.out (on2 hHeld.1 ((Below.refl _ _).alloc (Nat.le_refl _) _))) (fun hHeld2 => ?_)
              clear hK K hHeld
              have hHeld := hHeld2
              clear hHeld2
              try simp only [Act.put, List.setIfInBounds_toArray, List.set_cons_zero, List.set_cons_succ, List.getElem_toArray, List.getElem_cons_zero, List.getElem_cons_succ]
              refine wpAnyH_ready (rs := [4]) (by kernel_rfl) (by simp) ?_
              refine AllReadyH.cons rfl (fun K hK => ?_) AllReadyH.nil
              refine append_labsK (w0 := w1) _ _ rfl (.slice (some ⟨wr.heap.size + 1, 0, none⟩) 0 0) [] rfl (by have h := Own.start w1 ((wr.drewN nq).drew.alloc (.cells #[.string p, .string q] 52)) 52 2 (on2 hbn.drew ((Below.refl _ _).alloc (Nat.le_refl _) _)); rw [World.size_alloc] at h; exact h) ⟨g, 0, none⟩ m capA (A.take m) HTl.out rfl (HTake.out hHeld.1) (by have := hkl.out; simp; omega) ?_
              intro v5 w5 hO5 hg5
              rw [List.nil_append] at hO5
              refine hK.out _ _ (HS.out hO5.1) (fun hHeld2 => ?_)
              clear hK K hHeld
              have hHeld := hHeld2
              clear hHeld2
              try simp only [Act.put, List.setIfInBounds_toArray, List.set_cons_zero, List.set_cons_succ, List.getElem_toArray, List.getElem_cons_zero, List.getElem_cons_succ]
              refine wpAnyH_ready (rs := [16]) (by kernel_rfl) (by simp) ?_
              refine AllReadyH.cons rfl (fun K hK => ?_) AllReadyH.nil
              refine append_labsO (w0 := w1) _ _ rfl v5 (A.take m) rfl (hO5) (some ⟨wr.heap.size, 0, none⟩) 1 1 [(p, q)] rfl rfl (fun h => by cases h) (labs_kept ((labs_one (wr.drewN nq).drew 52 p q hp1 hq1).on ((Below.refl _ _).alloc (Nat.le_refl _) _)) (by simp) hg5 (by simp [Value.ownBlock])) (by have := hkl.out; simp; omega) ?_
              intro v7 w7 hO7
              refine hK.out _ _ (HS.out hO7.1) (fun hHeld2 => ?_)
              clear hK K hHeld
              have hHeld := hHeld2
              clear hHeld2
              try simp only [Act.put, List.setIfInBounds_toArray, List.set_cons_zero, List.set_cons_succ, List.getElem_toArray, List.getElem_cons_zero, List.getElem_cons_succ]
              refine wpAnyH_ready (rs := [20]) (by kernel_rfl) (by simp) ?_
              refine AllReadyH.cons rfl (fun K hK => ?_) AllReadyH.nil
              refine append_labsO (w0 := w1) _ _ rfl v7 (A.take m ++ [(p, q)]) rfl hO7 (if capA = m then some ⟨g, 0, none⟩ else some ⟨g, m * 2, none⟩) (A.length - m) (capA - m) (A.drop m) HDl.out rfl (fun h => by split at h <;> cases h) (HDrop.out hO7.1) (by have := hkl.out; simp; omega) ?_
              intro v8 w8 hO8
              refine hK.out _ _ (HS.out hO8.1) (fun hHeld2 => ?_)
              clear hK K hHeld
              have hHeld := hHeld2
              clear hHeld2
              try simp only [Act.put, List.setIfInBounds_toArray, List.set_cons_zero, List.set_cons_succ, List.getElem_toArray, List.getElem_cons_zero, List.getElem_cons_succ]
              refine wpAnyH_take (i := 21) (v := ?vfcy) rfl (by kernel_rfl) (by kernel_rfl) (by kernel_rfl) (fun _ _ _ h => h) (Or.inl ⟨by rfl, ?hyfcy⟩) (by assumption) ?restfcy
              case hyfcy => (intro u hu; obtain ⟨_, _, _⟩ := hu; go_simp; try with_reducible rfl)
              try simp only [Act.put, List.setIfInBounds_toArray, List.set_cons_zero, List.set_cons_succ, List.getElem_toArray, List.getElem_cons_zero, List.getElem_cons_succ]
              refine wpAnyH_done (by kernel_rfl) ?_ _
              refine NoPanic.normal ?_
              generalize (if capA = m then some (⟨g, 0, none⟩ : Addr) else some ⟨g, m * 2, none⟩) = cc
              clear hHeld hO7
              go_wp2_with fail
              go_roundw
              case rel => exact ⟨k + 1, j + 1 + 1, _, by have := hj.out; unfold Hid; omega, by have := hm1.out; omega, by go_num, HEnd.out hO8⟩
              case measure => simp [intOf]; omega
          · have HG : Hid (∀ s, t ≤ s → s < A.length → sLt p (A.getD s default).1 = true) := fun s h1 h2 => by
              rcases Nat.lt_or_ge s m with h | h
              · have : s = t := by omega
                rw [this]; exact hgtt.out
              · exact hgt.out s h h2
            clear hgt hgtt hm0 hte
            generalize A.getD t default = z at x0 x1 l1 l2
            go_wp2_with fail
            go_big_quiet (fail)
            go_wp2_with fail
            go_roundw
            case rel => exact ⟨t, by omega, rfl, by obtain ⟨n, rfl⟩ := hwn.out; exact ⟨_, World.drewN_drewN _ _ _⟩, HG⟩
            case measure => have := ht.out; simp [intOf]; omega
    · have hk : Hid (k = P.length / 2) := by have := hj.out; unfold Hid; omega
      have HU : Hid (A.Perm S) := by rw [hk.out] at hpA; exact hpA.trans hSp.out.symm
      have hc := rCheck_calls (some ⟨g, 0, none⟩) capA A w1 hat
      have HC : Hid (checkI A = checkI S) := checkI_perm HU.out hsA hSs.out
      have hb := hO.1
      by_cases h0 : checkI A = 0
      · have HE : Hid (A = S) := uniq HU.out hsA hSs.out h0
        rw [h0] at hc
        clear hP hSp hSs hO hsA hpA hr hrl
        go_wp2_with fail
        refine hc.mono ?_
        rintro e w2 ⟨rfl, hb2⟩
        have hb3 := on2 hb hb2
        have hL2 := hat.on hb2
        clear hc hb hb2 hat
        go_wp2_with fail
        go_ret2
        have h' := HE.out
        subst h'
        exact ⟨hb3, .inr ⟨h0, _, capA, rfl, hL2⟩⟩
      · have h0' : (checkI A != 0) = true := bne_iff_ne.2 h0
        rw [HC.out] at h0 h0' hc
        clear hP hSp hSs hO hsA hpA hr hrl
        generalize hr0 : checkI S = r at h0 h0' hc HC
        have HR : Hid (checkI S = r) := hr0
        clear hr0
        go_wp2_with fail
        refine hc.mono ?_
        rintro e w2 ⟨rfl, hb2⟩
        have hb3 := on2 hb hb2
        clear hc hb hb2 hat
        go_wp2_with fail
        go_ret2
        have e1 := HR.out
        exact ⟨hb3, .inl ⟨by rw [e1]; exact h0, ret_vi ⟨rfl, e1.symm⟩⟩⟩
end Go.Proofs.Ytpehmobedcflnaa
