/- The document's Ahead and Sort; the law's 'same': what they return. Condition: fewer than 1,000,000,000 entries. -/
import Derived.Test.YtgncpjplofacfaaHRefP
import Derived.Test.YtgncpjplofacfaaHSrtH
namespace Go.Proofs.Ytgncpjplofacfaa
open Go.RowKit Go.Maps
set_option linter.unusedSimpArgs false

theorem rAhead_calls (a b : It) (w : World) : Calls Try.prog 26 #[vI a, vI b] w fun e w' => e = .returned (.bool (ahead a b)) ∧ Below w.heap.size w w' := by
  obtain ⟨ak, ar, ac⟩ := a
  obtain ⟨bk, br, bc⟩ := b
  go_enter Try.func26, Try.ntmps26
  by_cases h1 : ar = br
  · by_cases h2 : ac = bc
    · have HF : Hid (ahead (ak, ar, ac) (bk, br, bc) = Op.bytesLess ak.toList bk.toList) := by simp [Hid, ahead, h1, h2]
      go_wp2
      go_ret
      exact ⟨retb HF.out.symm, by go_grown⟩
    · have HF : Hid (ahead (ak, ar, ac) (bk, br, bc) = decide (ac < bc)) := by simp [Hid, ahead, h1, h2]
      go_wp2
      go_ret
      exact ⟨retb HF.out.symm, by go_grown⟩
  · have HF : Hid (ahead (ak, ar, ac) (bk, br, bc) = decide (br < ar)) := by simp [Hid, ahead, h1]
    go_wp2
    go_ret
    exact ⟨retb HF.out.symm, by go_grown⟩
theorem rAhead_as (a b : It) (w : World) {r : Bool} (h : ahead a b = r) : Calls Try.prog 26 #[vI a, vI b] w fun e w' => e = .returned (.bool r) ∧ Below w.heap.size w w' := by
  subst h; exact rAhead_calls a b w
/-- An append to one's own row, with what it leaves. -/
theorem append_rowK {α : Type} [Inhabited α] {enc : α → List Value} {k : Nat} {ok : α → Prop} (hk : ∀ x, (enc x).length = k) (h1 : ∀ x, ∀ u ∈ enc x, u.oneCell' = true) {o : Oper} {a : Act} {K : Act → World → Prop} {Q : Exit → Act → World → Prop} {w0 u : World} (s x : Operand) (t e : TypeId)
    (ho : o.op = .call { callee := .builtin .append, args := #[s, x], argTypes := #[t, t] }) (z : Value) (bytes : Nat) (hinfo : (Try.prog.info? e).map (fun i => (i.zero, i.size, i.bytes)) = some (some z, k, bytes)) (ht : Try.prog.underlying t = some (.slice e)) (hzs : z.cells.size = k) (hk0 : 0 < k) (hby : 1 ≤ bytes)
    (v : Value) (A : List α) (hs : a.eval s = v) (hown : Own w0 u e k v A.length (flatE enc A))
    (ad : Addr) (n capc : Nat) (N : List α) (hn : N.length = n) (hx : a.eval x = .slice (some ad) n capc) (hN : RowAt enc k ok u (some ad) N) (hb : (A.length + N.length) * bytes ≤ 140737488355328)
    (h : ∀ v' u', Own w0 u' e k v' (A ++ N).length (flatE enc (A ++ N)) → u.grownBy u' v.ownBlock → K (a.put o.dst v') u') : o.wp Try.prog a u K Q := by
  subst hn
  obtain ⟨i0, hi, hz0, hz1, hz2⟩ := info_parts hinfo
  have hm : (A.length + N.length) * 1 ≤ (A.length + N.length) * bytes := Nat.mul_le_mul_left _ hby
  refine wp_append_own (w := u) s x t ho w0.heap.size e i0 z k bytes ht hi hz0 hz1 hz2 hzs hk0 v A.length (flatE enc A) hs hown.2 ad N.length capc (flatE enc N) hx (flatE_length hk N) (flatE_cells hk hN) (flatE_one h1 N) (by unfold maxLen; omega) hb hown.1.size ?_
  intro v' u' ho' hg hn
  refine h v' u' ⟨hown.row hg, ?_⟩ hg
  rw [List.length_append, flatE_append]
  exact ho'
theorem row_kept {u u' : World} {E : Nat} {N : List It} {r : Option Nat} (h : RowAt encI 3 okI u (some ⟨E, 0, none⟩) N) (hN : N ≠ []) (hg : u.grownBy u' r) (hr : some E ≠ r) : RowAt encI 3 okI u' (some ⟨E, 0, none⟩) N := by
  obtain ⟨h1, h2, h3⟩ := h
  obtain ⟨B, off, e, hB, hc⟩ := h3 hN
  obtain ⟨rfl, rfl⟩ : E = B ∧ 0 = off := by simpa using e
  have hk := hg.block E hB hr
  refine ⟨h1, h2, fun _ => ⟨E, 0, rfl, Nat.lt_of_lt_of_le hB hg.size, fun i hi j v hv => ?_⟩⟩
  rw [World.cell?_of_block (w := u) (w' := u') hk]
  exact hc i hi j v hv
theorem row_one (u : World) (x : It) (hx : okI x) : RowAt encI 3 okI (u.alloc (.cells #[.string x.1, .int .i64 x.2.1, .int .i64 x.2.2] 27)) (some ⟨u.heap.size, 0, none⟩) [x] := by
  refine ⟨by simp, fun y hy => by rw [List.mem_singleton.1 hy]; exact hx, fun _ => ⟨u.heap.size, 0, rfl, by simp, fun i hi j v hv => ?_⟩⟩
  obtain rfl : i = 0 := by simp at hi; omega
  have hd : ([x] : List It).getD 0 default = x := rfl
  rw [hd] at hv
  have hj : j < 3 := by
    have := (List.getElem?_eq_some_iff.1 hv).1
    rwa [encI_len] at this
  have := heap_new u (.cells #[.string x.1, .int .i64 x.2.1, .int .i64 x.2.2] 27) _ rfl
  generalize u.alloc (.cells #[.string x.1, .int .i64 x.2.1, .int .i64 x.2.2] 27) = u' at this ⊢
  simp only [World.cell?, this]
  match j, hj with
  | 0, _ => simpa [encI] using hv
  | 1, _ => simpa [encI] using hv
  | 2, _ => simpa [encI] using hv
/-- The cells of one entry of a row. -/
theorem RowAt.three {w : World} {a : Option Addr} {L : List It} (h : RowAt encI 3 okI w a L) {i : Nat} (hi : i < L.length) : ∃ B off, a = some ⟨B, off, none⟩ ∧ B < w.heap.size ∧ w.cell? ⟨B, off + i * 3, none⟩ = some (.string (at_ L i).1) ∧ w.cell? ⟨B, off + i * 3 + 1, none⟩ = some (.int .i64 (at_ L i).2.1) ∧ w.cell? ⟨B, off + i * 3 + 2, none⟩ = some (.int .i64 (at_ L i).2.2) ∧ okI (at_ L i) := by
  obtain ⟨B, off, e, hB, hc, ho⟩ := h.get hi
  exact ⟨B, off, e, hB, hc 0 _ rfl, hc 1 _ rfl, hc 2 _ rfl, ho⟩
/-- What stays: an entry's cells, and all that was there. -/
def RS (w : World) (B off j : Nat) (x : It) (u : World) : Prop := Below w.heap.size w u ∧ u.cell? ⟨B, off + j * 3, none⟩ = some (.string x.1) ∧ u.cell? ⟨B, off + j * 3 + 1, none⟩ = some (.int .i64 x.2.1) ∧ u.cell? ⟨B, off + j * 3 + 2, none⟩ = some (.int .i64 x.2.2)
def RS2 (w : World) (B off j : Nat) (x : It) (g t : Nat) (y : It) (u : World) : Prop := RS w B off j x u ∧ u.cell? ⟨g, t * 3, none⟩ = some (.string y.1) ∧ u.cell? ⟨g, t * 3 + 1, none⟩ = some (.int .i64 y.2.1) ∧ u.cell? ⟨g, t * 3 + 2, none⟩ = some (.int .i64 y.2.2)
set_option maxRecDepth 100000 in
set_option maxHeartbeats 8000000 in
theorem rSort_calls (a : Option Addr) (n cap : Nat) (L : List It) (w : World) (hn : L.length = n) (hP : Hid (RowAt encI 3 okI w a L)) (hby : n < 1000000000) : Calls Try.prog 24 #[.slice a n cap] w fun e w' => (∃ g c', e = .returned (.slice (some ⟨g, 0, none⟩) n c') ∧ RowAt encI 3 okI w' (some ⟨g, 0, none⟩) (stabF L) ∧ Own w w' 27 3 (.slice (some ⟨g, 0, none⟩) n c') n (flatE encI (stabF L))) ∧ Below w.heap.size w w' := by
  have HN : Hid (L.length = n) := hn
  clear hn
  go_enter Try.func24, Try.ntmps24
  go_wp2_with fail
  go_loopw [3, 4] (fun l i wr => ∃ (j : Nat) (A : List It), j ≤ n ∧ i = .int .i64 j ∧ Hid (Own w wr 27 3 l A.length (flatE encI A) ∧ (∃ g capA, l = .slice (some ⟨g, 0, none⟩) A.length capA) ∧ A.Perm (L.take j) ∧ Srt A 0 A.length)) (fun _ i _ => n - (intOf i).toNat)
  case atStart => exact ⟨0, [], Nat.zero_le _, rfl, Own.start w w _ _ (Below.refl _ _), ⟨w.heap.size, 0, rfl⟩, List.Perm.refl _, fun i j h1 h2 h3 => by simp at h3⟩
  case round =>
    obtain ⟨j, A, hjl, rfl, hrl⟩ := hrel
    obtain ⟨hO, ⟨g, capA, rfl⟩, hpA, hsA⟩ := hrl.out
    have hcapA : Hid (A.length ≤ capA) := by
      obtain ⟨_, ⟨h, _⟩ | ⟨g', cap', cur, h, _, _, hle, _⟩⟩ := hO.2
      · cases h
      · simp at h; unfold Hid; omega
    have hAl : Hid (A.length = j) := by have := HN.out; rw [Hid, hpA.length_eq, List.length_take]; omega
    have hsz : ∀ x ∈ A, okI x := fun x hx => hP.out.2.1 x (List.mem_of_mem_take (hpA.mem_iff.1 hx))
    have hAll : A.length ≤ 140737488355328 := by have := hAl.out; omega
    obtain ⟨w1, hw1⟩ : ∃ w1, w1 = wr := ⟨_, rfl⟩
    subst hw1
    have hat : RowAt encI 3 okI w1 (some ⟨g, 0, none⟩) A := by
      obtain ⟨a', c', e, h, _⟩ := row_of_owns (ok := okI) encI_len hO.2 hAll hsz
      obtain ⟨rfl, _⟩ : a' = some ⟨g, 0, none⟩ ∧ c' = capA := by simp at e; exact ⟨e.1.symm, e.2.symm⟩
      exact h
    by_cases hlt : j < n
    · obtain ⟨B, off, rfl, hB, c0, c1, c2, hx1⟩ := hP.out.three (i := j) (by rw [HN.out]; exact hlt)
      have HP : Hid (L.take (j + 1) = L.take j ++ [at_ L j]) := by rw [Hid, at_get (by rw [HN.out]; exact hlt)]; exact List.take_succ_eq_append_getElem (by rw [HN.out]; exact hlt)
      generalize at_ L j = x at c0 c1 c2 hx1 HP
      have HS : Hid (∀ {u : World}, Below w1.heap.size w1 u → RS w1 B off j x u) := fun hb => ⟨hb, ((on2 hO.1 hb).cell hB).trans c0, ((on2 hO.1 hb).cell hB).trans c1, ((on2 hO.1 hb).cell hB).trans c2⟩
      have hkl : Hid (A.length = j ∧ j < 1000000000) := ⟨hAl.out, by omega⟩
      have HA : Hid (RowAt encI 3 okI w1 (some ⟨g, 0, none⟩) A ∧ Srt A 0 A.length ∧ A.Perm (L.take j) ∧ Below w.heap.size w w1) := ⟨hat, hsA, hpA, hO.1⟩
      clear c0 c1 c2 hO hpA hsA hat hrl hsz
      have hji : (j : Int) < (n : Int) := by omega
      go_wp2_with fail
      go_loopw [5] (fun i wr => ∃ m : Nat, m ≤ A.length ∧ i = .int .i64 m ∧ Hid (Below w1.heap.size w1 wr) ∧ Hid (∀ t, m ≤ t → t < A.length → ahead x (at_ A t) = true)) (fun i _ => (intOf i).toNat)
      case atStart => exact ⟨A.length, Nat.le_refl _, rfl, Below.refl _ _, fun t h1 h2 => by omega⟩
      case round =>
        obtain ⟨m, hm, rfl, hbn', hgt⟩ := hrel
        have hbn := hbn'.out
        clear hbn'
        have HTl : Hid ((A.take m).length = m) := by rw [Hid, List.length_take]; omega
        have HDl : Hid ((A.drop m).length = A.length - m) := by simp [Hid]
        have HTake : Hid (∀ {u : World}, Below w1.heap.size w1 u → RowAt encI 3 okI u (some ⟨g, 0, none⟩) (A.take m)) := fun {u} hu => (HA.out.1.on hu).take m
        have HDrop : Hid (∀ {u : World}, Below w1.heap.size w1 u → RowAt encI 3 okI u (if capA = m then some ⟨g, 0, none⟩ else some ⟨g, m * 3, none⟩) (A.drop m)) := fun {u} hu => by
          have h1 := (HA.out.1.on hu).drop m
          rw [add_lit, Nat.zero_add] at h1
          split
          · exact h1.any _ (List.drop_eq_nil_of_le (by have := hcapA.out; omega))
          · exact h1
        have hmc : m ≤ capA := by have := hcapA.out; omega
        have hmci : (m : Int) ≤ (capA : Int) := by omega
        have hmli : (m : Int) ≤ (A.length : Int) := by omega
        have hmi0 : (0 : Int) ≤ (m : Int) := by omega
        rcases Nat.eq_zero_or_pos m with hm0 | hm0
        · have HEnd : Hid (∀ {v8 : Value} {w8 : World}, Own w1 w8 27 3 v8 (A.take m ++ [x] ++ A.drop m).length (flatE encI (A.take m ++ [x] ++ A.drop m)) → Hid (Own w w8 27 3 v8 (insAt A m x).length (flatE encI (insAt A m x)) ∧ (∃ g capA, v8 = .slice (some ⟨g, 0, none⟩) (insAt A m x).length capA) ∧ (insAt A m x).Perm (L.take (j + 1)) ∧ Srt (insAt A m x) 0 (insAt A m x).length)) := fun {v8 w8} h8 => by
            refine ⟨⟨on2 HA.out.2.2.2 h8.1, Go.Joins.ownsRow_le h8.2 HA.out.2.2.2.size⟩, ?_, ?_, insAt_srt HA.out.2.1 hm hgt.out (.inl hm0)⟩
            · rcases own_cells h8.2 with ⟨_, h0⟩ | ⟨g', c', e, _⟩
              · simp at h0
              · exact ⟨g', c', e⟩
            · rw [HP.out]; exact insAt_perm.trans (List.Perm.append_right _ HA.out.2.2.1)
          have b0 : decide (0 < m) = false := by simp; omega
          clear hgt hm0
          go_wp2_with fail
          refine wp_region_noPanic ?_
          refine wp_region_held_drew (S := RS w1 B off j x) (by kernel_rfl) (HS.out hbn.drew) (fun hHeld => ?_)
          refine wpAnyH_take (i := 0) (v := ?vz00) rfl (by kernel_rfl) (by kernel_rfl) (by kernel_rfl) (fun _ _ _ h => h) (Or.inl ⟨by rfl, ?hyz00⟩) (by assumption) ?restz00
          case hyz00 => (intro u hu; obtain ⟨_, _, _, _⟩ := hu; go_simp; try with_reducible rfl)
          try simp only [Act.put, List.setIfInBounds_toArray, List.set_cons_zero, List.set_cons_succ, List.getElem_toArray, List.getElem_cons_zero, List.getElem_cons_succ]
          refine wpAnyH_take (i := 1) (v := ?vz01) rfl (by kernel_rfl) (by kernel_rfl) (by kernel_rfl) (fun _ _ _ h => h) (Or.inl ⟨by rfl, ?hyz01⟩) (by assumption) ?restz01
          case hyz01 => (intro u hu; obtain ⟨_, _, _, _⟩ := hu; go_simp; try with_reducible rfl)
          try simp only [Act.put, List.setIfInBounds_toArray, List.set_cons_zero, List.set_cons_succ, List.getElem_toArray, List.getElem_cons_zero, List.getElem_cons_succ]
          refine wpAnyH_take (i := 2) (v := ?vz02) rfl (by kernel_rfl) (by kernel_rfl) (by kernel_rfl) (fun _ _ _ h => h) (Or.inl ⟨by rfl, ?hyz02⟩) (by assumption) ?restz02
          case hyz02 => (intro u hu; obtain ⟨_, _, _, _⟩ := hu; go_simp; try with_reducible rfl)
          try simp only [Act.put, List.setIfInBounds_toArray, List.set_cons_zero, List.set_cons_succ, List.getElem_toArray, List.getElem_cons_zero, List.getElem_cons_succ]
          refine wpAnyH_take (i := 3) (v := undef) rfl (by kernel_rfl) (by kernel_rfl) (by kernel_rfl) (fun _ _ _ h => h) (Or.inr ⟨by rfl, rfl⟩) (by assumption) ?_
          try simp only [Act.put, List.setIfInBounds_toArray, List.set_cons_zero, List.set_cons_succ, List.getElem_toArray, List.getElem_cons_zero, List.getElem_cons_succ]
          refine wpAnyH_take (i := 4) (v := undef) rfl (by kernel_rfl) (by kernel_rfl) (by kernel_rfl) (fun _ _ _ h => h) (Or.inr ⟨by rfl, rfl⟩) (by assumption) ?_
          try simp only [Act.put, List.setIfInBounds_toArray, List.set_cons_zero, List.set_cons_succ, List.getElem_toArray, List.getElem_cons_zero, List.getElem_cons_succ]
          refine wpAnyH_take (i := 5) (v := undef) rfl (by kernel_rfl) (by kernel_rfl) (by kernel_rfl) (fun _ _ _ h => h) (Or.inr ⟨by rfl, rfl⟩) (by assumption) ?_
          try simp only [Act.put, List.setIfInBounds_toArray, List.set_cons_zero, List.set_cons_succ, List.getElem_toArray, List.getElem_cons_zero, List.getElem_cons_succ]
          refine wpAnyH_take (i := 6) (v := undef) rfl (by kernel_rfl) (by kernel_rfl) (by kernel_rfl) (fun _ _ _ h => h) (Or.inr ⟨by rfl, rfl⟩) (by assumption) ?_
          try simp only [Act.put, List.setIfInBounds_toArray, List.set_cons_zero, List.set_cons_succ, List.getElem_toArray, List.getElem_cons_zero, List.getElem_cons_succ]
          refine wpAnyH_take (i := 7) (v := undef) rfl (by kernel_rfl) (by kernel_rfl) (by kernel_rfl) (fun _ _ _ h => h) (Or.inr ⟨by rfl, rfl⟩) (by assumption) ?_
          try simp only [Act.put, List.setIfInBounds_toArray, List.set_cons_zero, List.set_cons_succ, List.getElem_toArray, List.getElem_cons_zero, List.getElem_cons_succ]
          refine wpAnyH_take (i := 8) (v := undef) rfl (by kernel_rfl) (by kernel_rfl) (by kernel_rfl) (fun _ _ _ h => h) (Or.inr ⟨by rfl, rfl⟩) (by assumption) ?_
          try simp only [Act.put, List.setIfInBounds_toArray, List.set_cons_zero, List.set_cons_succ, List.getElem_toArray, List.getElem_cons_zero, List.getElem_cons_succ]
          refine wpAnyH_take (i := 9) (v := undef) rfl (by kernel_rfl) (by kernel_rfl) (by kernel_rfl) (fun _ _ _ h => h) (Or.inr ⟨by rfl, rfl⟩) (by assumption) ?_
          try simp only [Act.put, List.setIfInBounds_toArray, List.set_cons_zero, List.set_cons_succ, List.getElem_toArray, List.getElem_cons_zero, List.getElem_cons_succ]
          refine wpAnyH_take (i := 10) (v := undef) rfl (by kernel_rfl) (by kernel_rfl) (by kernel_rfl) (fun _ _ _ h => h) (Or.inr ⟨by rfl, rfl⟩) (by assumption) ?_
          try simp only [Act.put, List.setIfInBounds_toArray, List.set_cons_zero, List.set_cons_succ, List.getElem_toArray, List.getElem_cons_zero, List.getElem_cons_succ]
          refine wpAnyH_take (i := 11) (v := undef) rfl (by kernel_rfl) (by kernel_rfl) (by kernel_rfl) (fun _ _ _ h => h) (Or.inr ⟨by rfl, rfl⟩) (by assumption) ?_
          try simp only [Act.put, List.setIfInBounds_toArray, List.set_cons_zero, List.set_cons_succ, List.getElem_toArray, List.getElem_cons_zero, List.getElem_cons_succ]
          refine wpAnyH_take (i := 12) (v := undef) rfl (by kernel_rfl) (by kernel_rfl) (by kernel_rfl) (fun _ _ _ h => h) (Or.inr ⟨by rfl, rfl⟩) (by assumption) ?_
          try simp only [Act.put, List.setIfInBounds_toArray, List.set_cons_zero, List.set_cons_succ, List.getElem_toArray, List.getElem_cons_zero, List.getElem_cons_succ]
          refine wpAnyH_take (i := 13) (v := ?vz013) rfl (by kernel_rfl) (by kernel_rfl) (by kernel_rfl) (fun _ _ _ h => h) (Or.inl ⟨by rfl, ?hyz013⟩) (by assumption) ?restz013
          case hyz013 => (intro u hu; obtain ⟨_, _, _, _⟩ := hu; go_simp; try with_reducible rfl)
          try simp only [Act.put, List.setIfInBounds_toArray, List.set_cons_zero, List.set_cons_succ, List.getElem_toArray, List.getElem_cons_zero, List.getElem_cons_succ]
          refine wpAnyH_done (by kernel_rfl) ?_ _
          refine NoPanic.normal ?_
          have hbk := hHeld.1
          clear hHeld hbn
          obtain ⟨wk, hwk⟩ : ∃ wk, wk = wr.drew := ⟨_, rfl⟩
          rw [← hwk] at hbk ⊢
          have hbn := hbk
          clear hbk hwk
          go_wp2_with fail
          refine wp_region_noPanic ?_
          refine wp_region_held_drew (S := RS w1 B off j x) (by kernel_rfl) (HS.out hbn.drew) (fun hHeld => ?_)
          refine wpAnyH_take (i := 1) (v := ?vrz1) rfl (by kernel_rfl) (by kernel_rfl) (by kernel_rfl) (fun _ _ _ h => h) (Or.inl ⟨by rfl, ?hyrz1⟩) (by assumption) ?restrz1
          case hyrz1 => (intro u hu; obtain ⟨_, _, _, _⟩ := hu; go_simp; try with_reducible rfl)
          try simp only [Act.put, List.setIfInBounds_toArray, List.set_cons_zero, List.set_cons_succ, List.getElem_toArray, List.getElem_cons_zero, List.getElem_cons_succ]
          refine wpAnyH_take (i := 2) (v := ?vrz2) rfl (by kernel_rfl) (by kernel_rfl) (by kernel_rfl) (fun _ _ _ h => h) (Or.inl ⟨by rfl, ?hyrz2⟩) (by assumption) ?restrz2
          case hyrz2 => (intro u hu; obtain ⟨_, _, _, _⟩ := hu; go_simp; try with_reducible rfl)
          try simp only [Act.put, List.setIfInBounds_toArray, List.set_cons_zero, List.set_cons_succ, List.getElem_toArray, List.getElem_cons_zero, List.getElem_cons_succ]
          refine wpAnyH_take (i := 3) (v := ?vrz3) rfl (by kernel_rfl) (by kernel_rfl) (by kernel_rfl) (fun _ _ _ h => h) (Or.inl ⟨by rfl, ?hyrz3⟩) (by assumption) ?restrz3
          case hyrz3 => (intro u hu; obtain ⟨_, _, _, _⟩ := hu; go_simp; try with_reducible rfl)
          try simp only [Act.put, List.setIfInBounds_toArray, List.set_cons_zero, List.set_cons_succ, List.getElem_toArray, List.getElem_cons_zero, List.getElem_cons_succ]
          refine wpAnyH_take (i := 5) (v := ?vrz5) rfl (by kernel_rfl) (by kernel_rfl) (by kernel_rfl) (fun _ _ _ h => h) (Or.inl ⟨by rfl, ?hyrz5⟩) (by assumption) ?restrz5
          case hyrz5 => (intro u hu; obtain ⟨_, _, _, _⟩ := hu; go_simp; try with_reducible rfl)
          try simp only [Act.put, List.setIfInBounds_toArray, List.set_cons_zero, List.set_cons_succ, List.getElem_toArray, List.getElem_cons_zero, List.getElem_cons_succ]
          refine wpAnyH_take (i := 6) (v := ?vrz6) rfl (by kernel_rfl) (by kernel_rfl) (by kernel_rfl) (fun _ _ _ h => h) (Or.inl ⟨by rfl, ?hyrz6⟩) (by assumption) ?restrz6
          case hyrz6 => (intro u hu; obtain ⟨_, _, _, _⟩ := hu; go_simp; try with_reducible rfl)
          try simp only [Act.put, List.setIfInBounds_toArray, List.set_cons_zero, List.set_cons_succ, List.getElem_toArray, List.getElem_cons_zero, List.getElem_cons_succ]
          refine wpAnyH_take (i := 7) (v := ?vrz7) rfl (by kernel_rfl) (by kernel_rfl) (by kernel_rfl) (fun _ _ _ h => h) (Or.inl ⟨by rfl, ?hyrz7⟩) (by assumption) ?restrz7
          case hyrz7 => (intro u hu; obtain ⟨_, _, _, _⟩ := hu; go_simp; try with_reducible rfl)
          try simp only [Act.put, List.setIfInBounds_toArray, List.set_cons_zero, List.set_cons_succ, List.getElem_toArray, List.getElem_cons_zero, List.getElem_cons_succ]
          refine wpAnyH_take (i := 8) (v := ?vrz8) rfl (by kernel_rfl) (by kernel_rfl) (by kernel_rfl) (fun _ _ _ h => h) (Or.inl ⟨by rfl, ?hyrz8⟩) (by assumption) ?restrz8
          case hyrz8 => (intro u hu; obtain ⟨_, _, _, _⟩ := hu; go_simp; try with_reducible rfl)
          try simp only [Act.put, List.setIfInBounds_toArray, List.set_cons_zero, List.set_cons_succ, List.getElem_toArray, List.getElem_cons_zero, List.getElem_cons_succ]
          refine wpAnyH_take (i := 11) (v := ?vrz11) rfl (by kernel_rfl) (by kernel_rfl) (by kernel_rfl) (fun _ _ _ h => h) (Or.inl ⟨by rfl, ?hyrz11⟩) (by assumption) ?restrz11
          case hyrz11 => (intro u hu; obtain ⟨_, _, _, _⟩ := hu; go_simp; try with_reducible rfl)
          try simp only [Act.put, List.setIfInBounds_toArray, List.set_cons_zero, List.set_cons_succ, List.getElem_toArray, List.getElem_cons_zero, List.getElem_cons_succ]
          refine wpAnyH_take (i := 12) (v := ?vrz12) rfl (by kernel_rfl) (by kernel_rfl) (by kernel_rfl) (fun _ _ _ h => h) (Or.inl ⟨by rfl, ?hyrz12⟩) (by assumption) ?restrz12
          case hyrz12 => (intro u hu; obtain ⟨_, _, _, _⟩ := hu; go_simp; try with_reducible rfl)
          try simp only [Act.put, List.setIfInBounds_toArray, List.set_cons_zero, List.set_cons_succ, List.getElem_toArray, List.getElem_cons_zero, List.getElem_cons_succ]
          refine wpAnyH_take (i := 13) (v := ?vrz13) rfl (by kernel_rfl) (by kernel_rfl) (by kernel_rfl) (fun _ _ _ h => h) (Or.inl ⟨by rfl, ?hyrz13⟩) (by assumption) ?restrz13
          case hyrz13 => (intro u hu; obtain ⟨_, _, _, _⟩ := hu; go_simp; try with_reducible rfl)
          try simp only [Act.put, List.setIfInBounds_toArray, List.set_cons_zero, List.set_cons_succ, List.getElem_toArray, List.getElem_cons_zero, List.getElem_cons_succ]
          refine wpAnyH_ready (rs := [0, 9]) (by kernel_rfl) (by simp) ?_
          refine AllReadyH.cons rfl (fun K hK => ?_) (AllReadyH.cons rfl (fun K hK => ?_) AllReadyH.nil)
          · go_simp
            refine hK.out _ _ (HS.out (on2 hHeld.1 ((Below.refl _ _).alloc (Nat.le_refl _) _))) (fun hHeld2 => ?_)
            clear hK K hHeld
            have hHeld := hHeld2
            clear hHeld2
            try simp only [Act.put, List.setIfInBounds_toArray, List.set_cons_zero, List.set_cons_succ, List.getElem_toArray, List.getElem_cons_zero, List.getElem_cons_succ]
            refine wpAnyH_ready (rs := [4, 9]) (by kernel_rfl) (by simp) ?_
            refine AllReadyH.cons rfl (fun K hK => ?_) (AllReadyH.cons rfl (fun K hK => ?_) AllReadyH.nil)
            · refine append_rowO (w0 := w1) encI_len encI_one _ _ 25 27 rfl _ 32 infoI Try.underlying25 rfl (by decide) (by decide) _ [] rfl (Own.start w1 wk.drew _ _ hbn.drew) (some ⟨g, 0, none⟩) m capA (A.take m) HTl.out rfl (fun h => by cases h) (HTake.out hHeld.1) (by have := hkl.out; simp; omega) ?_
              intro v5 w5 hO5 _
              rw [List.nil_append] at hO5
              refine hK.out _ _ (HS.out hO5.1) (fun hHeld2 => ?_)
              clear hK K hHeld
              have hHeld := hHeld2
              clear hHeld2
              try simp only [Act.put, List.setIfInBounds_toArray, List.set_cons_zero, List.set_cons_succ, List.getElem_toArray, List.getElem_cons_zero, List.getElem_cons_succ]
              refine wpAnyH_ready (rs := [9]) (by kernel_rfl) (by simp) ?_
              refine AllReadyH.cons rfl (fun K hK => ?_) AllReadyH.nil
              go_simp
              refine hK.out _ _ (HS.out (on2 hHeld.1 ((Below.refl _ _).alloc (Nat.le_refl _) _))) (fun hHeld2 => ?_)
              clear hK K hHeld
              have hHeld := hHeld2
              clear hHeld2
              try simp only [Act.put, List.setIfInBounds_toArray, List.set_cons_zero, List.set_cons_succ, List.getElem_toArray, List.getElem_cons_zero, List.getElem_cons_succ]
              refine wpAnyH_ready (rs := [10]) (by kernel_rfl) (by simp) ?_
              refine AllReadyH.cons rfl (fun K hK => ?_) AllReadyH.nil
              refine append_rowO (ok := okI) (w0 := w1) encI_len encI_one _ _ 25 27 rfl _ 32 infoI Try.underlying25 rfl (by decide) (by decide) v5 (A.take m) rfl (hO5.on ((Below.refl _ _).alloc (Nat.le_refl _) _)) (some ⟨w5.heap.size, 0, none⟩) 1 1 [x] rfl rfl (fun h => by cases h) (row_one _ x hx1) (by have := hkl.out; simp; omega) ?_
              intro v7 w7 hO7 _
              refine hK.out _ _ (HS.out hO7.1) (fun hHeld2 => ?_)
              clear hK K hHeld
              have hHeld := hHeld2
              clear hHeld2
              try simp only [Act.put, List.setIfInBounds_toArray, List.set_cons_zero, List.set_cons_succ, List.getElem_toArray, List.getElem_cons_zero, List.getElem_cons_succ]
              refine wpAnyH_ready (rs := [14]) (by kernel_rfl) (by simp) ?_
              refine AllReadyH.cons rfl (fun K hK => ?_) AllReadyH.nil
              refine append_rowO (w0 := w1) encI_len encI_one _ _ 25 27 rfl _ 32 infoI Try.underlying25 rfl (by decide) (by decide) v7 (A.take m ++ [x]) rfl hO7 (if capA = m then some ⟨g, 0, none⟩ else some ⟨g, m * 3, none⟩) (A.length - m) (capA - m) (A.drop m) HDl.out rfl (fun h => by split at h <;> cases h) (HDrop.out hO7.1) (by have := hkl.out; simp; omega) ?_
              intro v8 w8 hO8 _
              refine hK.out _ _ (HS.out hO8.1) (fun hHeld2 => ?_)
              clear hK K hHeld
              have hHeld := hHeld2
              clear hHeld2
              try simp only [Act.put, List.setIfInBounds_toArray, List.set_cons_zero, List.set_cons_succ, List.getElem_toArray, List.getElem_cons_zero, List.getElem_cons_succ]
              refine wpAnyH_take (i := 15) (v := ?vfaz) rfl (by kernel_rfl) (by kernel_rfl) (by kernel_rfl) (fun _ _ _ h => h) (Or.inl ⟨by rfl, ?hyfaz⟩) (by assumption) ?restfaz
              case hyfaz => (intro u hu; obtain ⟨_, _, _, _⟩ := hu; go_simp; try with_reducible rfl)
              try simp only [Act.put, List.setIfInBounds_toArray, List.set_cons_zero, List.set_cons_succ, List.getElem_toArray, List.getElem_cons_zero, List.getElem_cons_succ]
              refine wpAnyH_done (by kernel_rfl) ?_ _
              refine NoPanic.normal ?_
              generalize (if capA = m then some (⟨g, 0, none⟩ : Addr) else some ⟨g, m * 3, none⟩) = cc
              clear hHeld hO7
              go_wp2_with fail
              go_roundw
              case rel => exact ⟨j + 1, insAt A m x, by omega, by go_num, HEnd.out hO8⟩
              case measure => simp [intOf]; omega
            · go_simp
              refine hK.out _ _ (HS.out (on2 hHeld.1 ((Below.refl _ _).alloc (Nat.le_refl _) _))) (fun hHeld2 => ?_)
              clear hK K hHeld
              have hHeld := hHeld2
              clear hHeld2
              try simp only [Act.put, List.setIfInBounds_toArray, List.set_cons_zero, List.set_cons_succ, List.getElem_toArray, List.getElem_cons_zero, List.getElem_cons_succ]
              refine wpAnyH_ready (rs := [4]) (by kernel_rfl) (by simp) ?_
              refine AllReadyH.cons rfl (fun K hK => ?_) AllReadyH.nil
              refine append_rowK (w0 := w1) encI_len encI_one _ _ 25 27 rfl _ 32 infoI Try.underlying25 rfl (by decide) (by decide) (.slice (some ⟨wk.heap.size, 0, none⟩) 0 0) [] rfl ((Own.start w1 wk.drew _ _ hbn.drew).on ((Below.refl _ _).alloc (Nat.le_refl _) _)) ⟨g, 0, none⟩ m capA (A.take m) HTl.out rfl (HTake.out hHeld.1) (by have := hkl.out; simp; omega) ?_
              intro v5 w5 hO5 hg5
              rw [List.nil_append] at hO5
              refine hK.out _ _ (HS.out hO5.1) (fun hHeld2 => ?_)
              clear hK K hHeld
              have hHeld := hHeld2
              clear hHeld2
              try simp only [Act.put, List.setIfInBounds_toArray, List.set_cons_zero, List.set_cons_succ, List.getElem_toArray, List.getElem_cons_zero, List.getElem_cons_succ]
              refine wpAnyH_ready (rs := [10]) (by kernel_rfl) (by simp) ?_
              refine AllReadyH.cons rfl (fun K hK => ?_) AllReadyH.nil
              refine append_rowO (ok := okI) (w0 := w1) encI_len encI_one _ _ 25 27 rfl _ 32 infoI Try.underlying25 rfl (by decide) (by decide) v5 (A.take m) rfl (hO5) (some ⟨wk.heap.size + 1, 0, none⟩) 1 1 [x] rfl rfl (fun h => by cases h) (row_kept (by have h := row_one (wk.drew.alloc (.cells #[] 27)) x hx1; rw [World.size_alloc] at h; exact h) (by simp) hg5 (by simp [Value.ownBlock])) (by have := hkl.out; simp; omega) ?_
              intro v7 w7 hO7 _
              refine hK.out _ _ (HS.out hO7.1) (fun hHeld2 => ?_)
              clear hK K hHeld
              have hHeld := hHeld2
              clear hHeld2
              try simp only [Act.put, List.setIfInBounds_toArray, List.set_cons_zero, List.set_cons_succ, List.getElem_toArray, List.getElem_cons_zero, List.getElem_cons_succ]
              refine wpAnyH_ready (rs := [14]) (by kernel_rfl) (by simp) ?_
              refine AllReadyH.cons rfl (fun K hK => ?_) AllReadyH.nil
              refine append_rowO (w0 := w1) encI_len encI_one _ _ 25 27 rfl _ 32 infoI Try.underlying25 rfl (by decide) (by decide) v7 (A.take m ++ [x]) rfl hO7 (if capA = m then some ⟨g, 0, none⟩ else some ⟨g, m * 3, none⟩) (A.length - m) (capA - m) (A.drop m) HDl.out rfl (fun h => by split at h <;> cases h) (HDrop.out hO7.1) (by have := hkl.out; simp; omega) ?_
              intro v8 w8 hO8 _
              refine hK.out _ _ (HS.out hO8.1) (fun hHeld2 => ?_)
              clear hK K hHeld
              have hHeld := hHeld2
              clear hHeld2
              try simp only [Act.put, List.setIfInBounds_toArray, List.set_cons_zero, List.set_cons_succ, List.getElem_toArray, List.getElem_cons_zero, List.getElem_cons_succ]
              refine wpAnyH_take (i := 15) (v := ?vfbz) rfl (by kernel_rfl) (by kernel_rfl) (by kernel_rfl) (fun _ _ _ h => h) (Or.inl ⟨by rfl, ?hyfbz⟩) (by assumption) ?restfbz
              case hyfbz => (intro u hu; obtain ⟨_, _, _, _⟩ := hu; go_simp; try with_reducible rfl)
              try simp only [Act.put, List.setIfInBounds_toArray, List.set_cons_zero, List.set_cons_succ, List.getElem_toArray, List.getElem_cons_zero, List.getElem_cons_succ]
              refine wpAnyH_done (by kernel_rfl) ?_ _
              refine NoPanic.normal ?_
              generalize (if capA = m then some (⟨g, 0, none⟩ : Addr) else some ⟨g, m * 3, none⟩) = cc
              clear hHeld hO7
              go_wp2_with fail
              go_roundw
              case rel => exact ⟨j + 1, insAt A m x, by omega, by go_num, HEnd.out hO8⟩
              case measure => simp [intOf]; omega
          · go_simp
            refine hK.out _ _ (HS.out (on2 hHeld.1 ((Below.refl _ _).alloc (Nat.le_refl _) _))) (fun hHeld2 => ?_)
            clear hK K hHeld
            have hHeld := hHeld2
            clear hHeld2
            try simp only [Act.put, List.setIfInBounds_toArray, List.set_cons_zero, List.set_cons_succ, List.getElem_toArray, List.getElem_cons_zero, List.getElem_cons_succ]
            refine wpAnyH_ready (rs := [0]) (by kernel_rfl) (by simp) ?_
            refine AllReadyH.cons rfl (fun K hK => ?_) AllReadyH.nil
            go_simp
            refine hK.out _ _ (HS.out (on2 hHeld.1 ((Below.refl _ _).alloc (Nat.le_refl _) _))) (fun hHeld2 => ?_)
            clear hK K hHeld
            have hHeld := hHeld2
            clear hHeld2
            try simp only [Act.put, List.setIfInBounds_toArray, List.set_cons_zero, List.set_cons_succ, List.getElem_toArray, List.getElem_cons_zero, List.getElem_cons_succ]
            refine wpAnyH_ready (rs := [4]) (by kernel_rfl) (by simp) ?_
            refine AllReadyH.cons rfl (fun K hK => ?_) AllReadyH.nil
            refine append_rowK (w0 := w1) encI_len encI_one _ _ 25 27 rfl _ 32 infoI Try.underlying25 rfl (by decide) (by decide) (.slice (some ⟨wk.heap.size + 1, 0, none⟩) 0 0) [] rfl (by have h := Own.start w1 (wk.drew.alloc (.cells #[.string x.1, .int .i64 x.2.1, .int .i64 x.2.2] 27)) 27 3 (on2 hbn.drew ((Below.refl _ _).alloc (Nat.le_refl _) _)); rw [World.size_alloc] at h; exact h) ⟨g, 0, none⟩ m capA (A.take m) HTl.out rfl (HTake.out hHeld.1) (by have := hkl.out; simp; omega) ?_
            intro v5 w5 hO5 hg5
            rw [List.nil_append] at hO5
            refine hK.out _ _ (HS.out hO5.1) (fun hHeld2 => ?_)
            clear hK K hHeld
            have hHeld := hHeld2
            clear hHeld2
            try simp only [Act.put, List.setIfInBounds_toArray, List.set_cons_zero, List.set_cons_succ, List.getElem_toArray, List.getElem_cons_zero, List.getElem_cons_succ]
            refine wpAnyH_ready (rs := [10]) (by kernel_rfl) (by simp) ?_
            refine AllReadyH.cons rfl (fun K hK => ?_) AllReadyH.nil
            refine append_rowO (ok := okI) (w0 := w1) encI_len encI_one _ _ 25 27 rfl _ 32 infoI Try.underlying25 rfl (by decide) (by decide) v5 (A.take m) rfl (hO5) (some ⟨wk.heap.size, 0, none⟩) 1 1 [x] rfl rfl (fun h => by cases h) (row_kept ((row_one wk.drew x hx1).on ((Below.refl _ _).alloc (Nat.le_refl _) _)) (by simp) hg5 (by simp [Value.ownBlock])) (by have := hkl.out; simp; omega) ?_
            intro v7 w7 hO7 _
            refine hK.out _ _ (HS.out hO7.1) (fun hHeld2 => ?_)
            clear hK K hHeld
            have hHeld := hHeld2
            clear hHeld2
            try simp only [Act.put, List.setIfInBounds_toArray, List.set_cons_zero, List.set_cons_succ, List.getElem_toArray, List.getElem_cons_zero, List.getElem_cons_succ]
            refine wpAnyH_ready (rs := [14]) (by kernel_rfl) (by simp) ?_
            refine AllReadyH.cons rfl (fun K hK => ?_) AllReadyH.nil
            refine append_rowO (w0 := w1) encI_len encI_one _ _ 25 27 rfl _ 32 infoI Try.underlying25 rfl (by decide) (by decide) v7 (A.take m ++ [x]) rfl hO7 (if capA = m then some ⟨g, 0, none⟩ else some ⟨g, m * 3, none⟩) (A.length - m) (capA - m) (A.drop m) HDl.out rfl (fun h => by split at h <;> cases h) (HDrop.out hO7.1) (by have := hkl.out; simp; omega) ?_
            intro v8 w8 hO8 _
            refine hK.out _ _ (HS.out hO8.1) (fun hHeld2 => ?_)
            clear hK K hHeld
            have hHeld := hHeld2
            clear hHeld2
            try simp only [Act.put, List.setIfInBounds_toArray, List.set_cons_zero, List.set_cons_succ, List.getElem_toArray, List.getElem_cons_zero, List.getElem_cons_succ]
            refine wpAnyH_take (i := 15) (v := ?vfcz) rfl (by kernel_rfl) (by kernel_rfl) (by kernel_rfl) (fun _ _ _ h => h) (Or.inl ⟨by rfl, ?hyfcz⟩) (by assumption) ?restfcz
            case hyfcz => (intro u hu; obtain ⟨_, _, _, _⟩ := hu; go_simp; try with_reducible rfl)
            try simp only [Act.put, List.setIfInBounds_toArray, List.set_cons_zero, List.set_cons_succ, List.getElem_toArray, List.getElem_cons_zero, List.getElem_cons_succ]
            refine wpAnyH_done (by kernel_rfl) ?_ _
            refine NoPanic.normal ?_
            generalize (if capA = m then some (⟨g, 0, none⟩ : Addr) else some ⟨g, m * 3, none⟩) = cc
            clear hHeld hO7
            go_wp2_with fail
            go_roundw
            case rel => exact ⟨j + 1, insAt A m x, by omega, by go_num, HEnd.out hO8⟩
            case measure => simp [intOf]; omega
        · obtain ⟨t, ht⟩ : ∃ t, Hid (m = t + 1) := ⟨m - 1, by unfold Hid; omega⟩
          have hte := ht.out
          have hmw : IntKind.i64.wrap ((m : Int) - 1) = (t : Int) := by rw [hte]; simp only [Int.natCast_add, Int.cast_ofNat_Int, Int.add_sub_cancel]; simp [IntKind.wrap, IntKind.bits, IntKind.signed]; omega
          have htl : t < A.length := by omega
          have htli : (t : Int) < (A.length : Int) := by omega
          have ht0 : (0 : Int) ≤ (t : Int) := by omega
          have b0 : decide (0 < m) = true := by simp; omega
          obtain ⟨G, o, eG, hG, x0, x1, x2, _⟩ := HA.out.1.three htl
          obtain ⟨rfl, rfl⟩ : g = G ∧ 0 = o := by simpa using eG
          rw [Nat.zero_add] at x0 x1 x2
          have HS2 : Hid (∀ {u : World}, Below w1.heap.size w1 u → RS2 w1 B off j x g t (at_ A t) u) := fun hb => ⟨HS.out hb, (hb.cell hG).trans x0, (hb.cell hG).trans x1, (hb.cell hG).trans x2⟩
          clear x0 x1 x2 eG
          cases hah : ahead x (at_ A t) with
          | false =>
            have HEnd : Hid (∀ {v8 : Value} {w8 : World}, Own w1 w8 27 3 v8 (A.take m ++ [x] ++ A.drop m).length (flatE encI (A.take m ++ [x] ++ A.drop m)) → Hid (Own w w8 27 3 v8 (insAt A m x).length (flatE encI (insAt A m x)) ∧ (∃ g capA, v8 = .slice (some ⟨g, 0, none⟩) (insAt A m x).length capA) ∧ (insAt A m x).Perm (L.take (j + 1)) ∧ Srt (insAt A m x) 0 (insAt A m x).length)) := fun {v8 w8} h8 => by
              refine ⟨⟨on2 HA.out.2.2.2 h8.1, Go.Joins.ownsRow_le h8.2 HA.out.2.2.2.size⟩, ?_, ?_, insAt_srt HA.out.2.1 hm hgt.out (.inr (by rw [show m - 1 = t by omega]; exact hah))⟩
              · rcases own_cells h8.2 with ⟨_, h0⟩ | ⟨g', c', e, _⟩
                · simp at h0
                · exact ⟨g', c', e⟩
              · rw [HP.out]; exact insAt_perm.trans (List.Perm.append_right _ HA.out.2.2.1)
            have HAH : Hid (ahead x (at_ A t) = false) := hah
            clear hgt hm0 hte hah
            generalize at_ A t = y at HS2 HAH
            go_wp2_with fail
            refine wp_region_noPanic ?_
            refine wp_region_held_drew (S := RS2 w1 B off j x g t y) (by kernel_rfl) (HS2.out hbn.drew) (fun hHeld => ?_)
            refine wpAnyH_take (i := 0) (v := ?vf0) rfl (by kernel_rfl) (by kernel_rfl) (by kernel_rfl) (fun _ _ _ h => h) (Or.inl ⟨by rfl, ?hyf0⟩) (by assumption) ?restf0
            case hyf0 => (intro u hu; obtain ⟨⟨_, _, _, _⟩, _, _, _⟩ := hu; go_simp; try with_reducible rfl)
            try simp only [Act.put, List.setIfInBounds_toArray, List.set_cons_zero, List.set_cons_succ, List.getElem_toArray, List.getElem_cons_zero, List.getElem_cons_succ]
            refine wpAnyH_take (i := 1) (v := ?vf1) rfl (by kernel_rfl) (by kernel_rfl) (by kernel_rfl) (fun _ _ _ h => h) (Or.inl ⟨by rfl, ?hyf1⟩) (by assumption) ?restf1
            case hyf1 => (intro u hu; obtain ⟨⟨_, _, _, _⟩, _, _, _⟩ := hu; go_simp; try with_reducible rfl)
            try simp only [Act.put, List.setIfInBounds_toArray, List.set_cons_zero, List.set_cons_succ, List.getElem_toArray, List.getElem_cons_zero, List.getElem_cons_succ]
            refine wpAnyH_take (i := 2) (v := ?vf2) rfl (by kernel_rfl) (by kernel_rfl) (by kernel_rfl) (fun _ _ _ h => h) (Or.inl ⟨by rfl, ?hyf2⟩) (by assumption) ?restf2
            case hyf2 => (intro u hu; obtain ⟨⟨_, _, _, _⟩, _, _, _⟩ := hu; go_simp; try with_reducible rfl)
            try simp only [Act.put, List.setIfInBounds_toArray, List.set_cons_zero, List.set_cons_succ, List.getElem_toArray, List.getElem_cons_zero, List.getElem_cons_succ]
            refine wpAnyH_take (i := 3) (v := ?vf3) rfl (by kernel_rfl) (by kernel_rfl) (by kernel_rfl) (fun _ _ _ h => h) (Or.inl ⟨by rfl, ?hyf3⟩) (by assumption) ?restf3
            case hyf3 => (intro u hu; obtain ⟨⟨_, _, _, _⟩, _, _, _⟩ := hu; go_simp; try with_reducible rfl)
            try simp only [Act.put, List.setIfInBounds_toArray, List.set_cons_zero, List.set_cons_succ, List.getElem_toArray, List.getElem_cons_zero, List.getElem_cons_succ]
            refine wpAnyH_take (i := 4) (v := ?vf4) rfl (by kernel_rfl) (by kernel_rfl) (by kernel_rfl) (fun _ _ _ h => h) (Or.inl ⟨by rfl, ?hyf4⟩) (by assumption) ?restf4
            case hyf4 => (intro u hu; obtain ⟨⟨_, _, _, _⟩, _, _, _⟩ := hu; go_simp; try with_reducible rfl)
            try simp only [Act.put, List.setIfInBounds_toArray, List.set_cons_zero, List.set_cons_succ, List.getElem_toArray, List.getElem_cons_zero, List.getElem_cons_succ]
            refine wpAnyH_take (i := 5) (v := ?vf5) rfl (by kernel_rfl) (by kernel_rfl) (by kernel_rfl) (fun _ _ _ h => h) (Or.inl ⟨by rfl, ?hyf5⟩) (by assumption) ?restf5
            case hyf5 => (intro u hu; obtain ⟨⟨_, _, _, _⟩, _, _, _⟩ := hu; go_simp; try with_reducible rfl)
            try simp only [Act.put, List.setIfInBounds_toArray, List.set_cons_zero, List.set_cons_succ, List.getElem_toArray, List.getElem_cons_zero, List.getElem_cons_succ]
            refine wpAnyH_take (i := 6) (v := ?vf6) rfl (by kernel_rfl) (by kernel_rfl) (by kernel_rfl) (fun _ _ _ h => h) (Or.inl ⟨by rfl, ?hyf6⟩) (by assumption) ?restf6
            case hyf6 => (intro u hu; obtain ⟨⟨_, _, _, _⟩, _, _, _⟩ := hu; go_simp; try with_reducible rfl)
            try simp only [Act.put, List.setIfInBounds_toArray, List.set_cons_zero, List.set_cons_succ, List.getElem_toArray, List.getElem_cons_zero, List.getElem_cons_succ]
            refine wpAnyH_take (i := 7) (v := ?vf7) rfl (by kernel_rfl) (by kernel_rfl) (by kernel_rfl) (fun _ _ _ h => h) (Or.inl ⟨by rfl, ?hyf7⟩) (by assumption) ?restf7
            case hyf7 => (intro u hu; obtain ⟨⟨_, _, _, _⟩, _, _, _⟩ := hu; go_simp; try with_reducible rfl)
            try simp only [Act.put, List.setIfInBounds_toArray, List.set_cons_zero, List.set_cons_succ, List.getElem_toArray, List.getElem_cons_zero, List.getElem_cons_succ]
            refine wpAnyH_take (i := 8) (v := ?vf8) rfl (by kernel_rfl) (by kernel_rfl) (by kernel_rfl) (fun _ _ _ h => h) (Or.inl ⟨by rfl, ?hyf8⟩) (by assumption) ?restf8
            case hyf8 => (intro u hu; obtain ⟨⟨_, _, _, _⟩, _, _, _⟩ := hu; go_simp; try with_reducible rfl)
            try simp only [Act.put, List.setIfInBounds_toArray, List.set_cons_zero, List.set_cons_succ, List.getElem_toArray, List.getElem_cons_zero, List.getElem_cons_succ]
            refine wpAnyH_take (i := 9) (v := ?vf9) rfl (by kernel_rfl) (by kernel_rfl) (by kernel_rfl) (fun _ _ _ h => h) (Or.inl ⟨by rfl, ?hyf9⟩) (by assumption) ?restf9
            case hyf9 => (intro u hu; obtain ⟨⟨_, _, _, _⟩, _, _, _⟩ := hu; go_simp; try with_reducible rfl)
            try simp only [Act.put, List.setIfInBounds_toArray, List.set_cons_zero, List.set_cons_succ, List.getElem_toArray, List.getElem_cons_zero, List.getElem_cons_succ]
            refine wpAnyH_take (i := 10) (v := ?vf10) rfl (by kernel_rfl) (by kernel_rfl) (by kernel_rfl) (fun _ _ _ h => h) (Or.inl ⟨by rfl, ?hyf10⟩) (by assumption) ?restf10
            case hyf10 => (intro u hu; obtain ⟨⟨_, _, _, _⟩, _, _, _⟩ := hu; go_simp; try with_reducible rfl)
            try simp only [Act.put, List.setIfInBounds_toArray, List.set_cons_zero, List.set_cons_succ, List.getElem_toArray, List.getElem_cons_zero, List.getElem_cons_succ]
            refine wpAnyH_take (i := 11) (v := ?vf11) rfl (by kernel_rfl) (by kernel_rfl) (by kernel_rfl) (fun _ _ _ h => h) (Or.inl ⟨by rfl, ?hyf11⟩) (by assumption) ?restf11
            case hyf11 => (intro u hu; obtain ⟨⟨_, _, _, _⟩, _, _, _⟩ := hu; go_simp; try with_reducible rfl)
            try simp only [Act.put, List.setIfInBounds_toArray, List.set_cons_zero, List.set_cons_succ, List.getElem_toArray, List.getElem_cons_zero, List.getElem_cons_succ]
            refine wpAnyH_ready (rs := [12]) (by kernel_rfl) (by simp) ?_
            refine AllReadyH.cons rfl (fun K hK => ?_) AllReadyH.nil
            go_simp
            refine (rAhead_as x y _ HAH.out).mono ?_
            rintro e wk ⟨rfl, hb2⟩
            go_wp2_with fail
            refine hK.out _ _ (HS2.out (on2 hHeld.1.1 hb2)) (fun hHeld2 => ?_)
            clear hK K hHeld
            have hHeld := hHeld2
            clear hHeld2
            try simp only [Act.put, List.setIfInBounds_toArray, List.set_cons_zero, List.set_cons_succ, List.getElem_toArray, List.getElem_cons_zero, List.getElem_cons_succ]
            refine wpAnyH_take (i := 13) (v := ?vf13) rfl (by kernel_rfl) (by kernel_rfl) (by kernel_rfl) (fun _ _ _ h => h) (Or.inl ⟨by rfl, ?hyf13⟩) (by assumption) ?restf13
            case hyf13 => (intro u hu; obtain ⟨⟨_, _, _, _⟩, _, _, _⟩ := hu; go_simp; try with_reducible rfl)
            try simp only [Act.put, List.setIfInBounds_toArray, List.set_cons_zero, List.set_cons_succ, List.getElem_toArray, List.getElem_cons_zero, List.getElem_cons_succ]
            refine wpAnyH_done (by kernel_rfl) ?_ _
            refine NoPanic.normal ?_
            have hbk := hHeld.1.1
            clear hHeld hbn hb2
            have hbn := hbk
            clear hbk
            go_wp2_with fail
            refine wp_region_noPanic ?_
            refine wp_region_held_drew (S := RS w1 B off j x) (by kernel_rfl) (HS.out hbn.drew) (fun hHeld => ?_)
            refine wpAnyH_take (i := 1) (v := ?vrx1) rfl (by kernel_rfl) (by kernel_rfl) (by kernel_rfl) (fun _ _ _ h => h) (Or.inl ⟨by rfl, ?hyrx1⟩) (by assumption) ?restrx1
            case hyrx1 => (intro u hu; obtain ⟨_, _, _, _⟩ := hu; go_simp; try with_reducible rfl)
            try simp only [Act.put, List.setIfInBounds_toArray, List.set_cons_zero, List.set_cons_succ, List.getElem_toArray, List.getElem_cons_zero, List.getElem_cons_succ]
            refine wpAnyH_take (i := 2) (v := ?vrx2) rfl (by kernel_rfl) (by kernel_rfl) (by kernel_rfl) (fun _ _ _ h => h) (Or.inl ⟨by rfl, ?hyrx2⟩) (by assumption) ?restrx2
            case hyrx2 => (intro u hu; obtain ⟨_, _, _, _⟩ := hu; go_simp; try with_reducible rfl)
            try simp only [Act.put, List.setIfInBounds_toArray, List.set_cons_zero, List.set_cons_succ, List.getElem_toArray, List.getElem_cons_zero, List.getElem_cons_succ]
            refine wpAnyH_take (i := 3) (v := ?vrx3) rfl (by kernel_rfl) (by kernel_rfl) (by kernel_rfl) (fun _ _ _ h => h) (Or.inl ⟨by rfl, ?hyrx3⟩) (by assumption) ?restrx3
            case hyrx3 => (intro u hu; obtain ⟨_, _, _, _⟩ := hu; go_simp; try with_reducible rfl)
            try simp only [Act.put, List.setIfInBounds_toArray, List.set_cons_zero, List.set_cons_succ, List.getElem_toArray, List.getElem_cons_zero, List.getElem_cons_succ]
            refine wpAnyH_take (i := 5) (v := ?vrx5) rfl (by kernel_rfl) (by kernel_rfl) (by kernel_rfl) (fun _ _ _ h => h) (Or.inl ⟨by rfl, ?hyrx5⟩) (by assumption) ?restrx5
            case hyrx5 => (intro u hu; obtain ⟨_, _, _, _⟩ := hu; go_simp; try with_reducible rfl)
            try simp only [Act.put, List.setIfInBounds_toArray, List.set_cons_zero, List.set_cons_succ, List.getElem_toArray, List.getElem_cons_zero, List.getElem_cons_succ]
            refine wpAnyH_take (i := 6) (v := ?vrx6) rfl (by kernel_rfl) (by kernel_rfl) (by kernel_rfl) (fun _ _ _ h => h) (Or.inl ⟨by rfl, ?hyrx6⟩) (by assumption) ?restrx6
            case hyrx6 => (intro u hu; obtain ⟨_, _, _, _⟩ := hu; go_simp; try with_reducible rfl)
            try simp only [Act.put, List.setIfInBounds_toArray, List.set_cons_zero, List.set_cons_succ, List.getElem_toArray, List.getElem_cons_zero, List.getElem_cons_succ]
            refine wpAnyH_take (i := 7) (v := ?vrx7) rfl (by kernel_rfl) (by kernel_rfl) (by kernel_rfl) (fun _ _ _ h => h) (Or.inl ⟨by rfl, ?hyrx7⟩) (by assumption) ?restrx7
            case hyrx7 => (intro u hu; obtain ⟨_, _, _, _⟩ := hu; go_simp; try with_reducible rfl)
            try simp only [Act.put, List.setIfInBounds_toArray, List.set_cons_zero, List.set_cons_succ, List.getElem_toArray, List.getElem_cons_zero, List.getElem_cons_succ]
            refine wpAnyH_take (i := 8) (v := ?vrx8) rfl (by kernel_rfl) (by kernel_rfl) (by kernel_rfl) (fun _ _ _ h => h) (Or.inl ⟨by rfl, ?hyrx8⟩) (by assumption) ?restrx8
            case hyrx8 => (intro u hu; obtain ⟨_, _, _, _⟩ := hu; go_simp; try with_reducible rfl)
            try simp only [Act.put, List.setIfInBounds_toArray, List.set_cons_zero, List.set_cons_succ, List.getElem_toArray, List.getElem_cons_zero, List.getElem_cons_succ]
            refine wpAnyH_take (i := 11) (v := ?vrx11) rfl (by kernel_rfl) (by kernel_rfl) (by kernel_rfl) (fun _ _ _ h => h) (Or.inl ⟨by rfl, ?hyrx11⟩) (by assumption) ?restrx11
            case hyrx11 => (intro u hu; obtain ⟨_, _, _, _⟩ := hu; go_simp; try with_reducible rfl)
            try simp only [Act.put, List.setIfInBounds_toArray, List.set_cons_zero, List.set_cons_succ, List.getElem_toArray, List.getElem_cons_zero, List.getElem_cons_succ]
            refine wpAnyH_take (i := 12) (v := ?vrx12) rfl (by kernel_rfl) (by kernel_rfl) (by kernel_rfl) (fun _ _ _ h => h) (Or.inl ⟨by rfl, ?hyrx12⟩) (by assumption) ?restrx12
            case hyrx12 => (intro u hu; obtain ⟨_, _, _, _⟩ := hu; go_simp; try with_reducible rfl)
            try simp only [Act.put, List.setIfInBounds_toArray, List.set_cons_zero, List.set_cons_succ, List.getElem_toArray, List.getElem_cons_zero, List.getElem_cons_succ]
            refine wpAnyH_take (i := 13) (v := ?vrx13) rfl (by kernel_rfl) (by kernel_rfl) (by kernel_rfl) (fun _ _ _ h => h) (Or.inl ⟨by rfl, ?hyrx13⟩) (by assumption) ?restrx13
            case hyrx13 => (intro u hu; obtain ⟨_, _, _, _⟩ := hu; go_simp; try with_reducible rfl)
            try simp only [Act.put, List.setIfInBounds_toArray, List.set_cons_zero, List.set_cons_succ, List.getElem_toArray, List.getElem_cons_zero, List.getElem_cons_succ]
            refine wpAnyH_ready (rs := [0, 9]) (by kernel_rfl) (by simp) ?_
            refine AllReadyH.cons rfl (fun K hK => ?_) (AllReadyH.cons rfl (fun K hK => ?_) AllReadyH.nil)
            · go_simp
              refine hK.out _ _ (HS.out (on2 hHeld.1 ((Below.refl _ _).alloc (Nat.le_refl _) _))) (fun hHeld2 => ?_)
              clear hK K hHeld
              have hHeld := hHeld2
              clear hHeld2
              try simp only [Act.put, List.setIfInBounds_toArray, List.set_cons_zero, List.set_cons_succ, List.getElem_toArray, List.getElem_cons_zero, List.getElem_cons_succ]
              refine wpAnyH_ready (rs := [4, 9]) (by kernel_rfl) (by simp) ?_
              refine AllReadyH.cons rfl (fun K hK => ?_) (AllReadyH.cons rfl (fun K hK => ?_) AllReadyH.nil)
              · refine append_rowO (w0 := w1) encI_len encI_one _ _ 25 27 rfl _ 32 infoI Try.underlying25 rfl (by decide) (by decide) _ [] rfl (Own.start w1 wk.drew _ _ hbn.drew) (some ⟨g, 0, none⟩) m capA (A.take m) HTl.out rfl (fun h => by cases h) (HTake.out hHeld.1) (by have := hkl.out; simp; omega) ?_
                intro v5 w5 hO5 _
                rw [List.nil_append] at hO5
                refine hK.out _ _ (HS.out hO5.1) (fun hHeld2 => ?_)
                clear hK K hHeld
                have hHeld := hHeld2
                clear hHeld2
                try simp only [Act.put, List.setIfInBounds_toArray, List.set_cons_zero, List.set_cons_succ, List.getElem_toArray, List.getElem_cons_zero, List.getElem_cons_succ]
                refine wpAnyH_ready (rs := [9]) (by kernel_rfl) (by simp) ?_
                refine AllReadyH.cons rfl (fun K hK => ?_) AllReadyH.nil
                go_simp
                refine hK.out _ _ (HS.out (on2 hHeld.1 ((Below.refl _ _).alloc (Nat.le_refl _) _))) (fun hHeld2 => ?_)
                clear hK K hHeld
                have hHeld := hHeld2
                clear hHeld2
                try simp only [Act.put, List.setIfInBounds_toArray, List.set_cons_zero, List.set_cons_succ, List.getElem_toArray, List.getElem_cons_zero, List.getElem_cons_succ]
                refine wpAnyH_ready (rs := [10]) (by kernel_rfl) (by simp) ?_
                refine AllReadyH.cons rfl (fun K hK => ?_) AllReadyH.nil
                refine append_rowO (ok := okI) (w0 := w1) encI_len encI_one _ _ 25 27 rfl _ 32 infoI Try.underlying25 rfl (by decide) (by decide) v5 (A.take m) rfl (hO5.on ((Below.refl _ _).alloc (Nat.le_refl _) _)) (some ⟨w5.heap.size, 0, none⟩) 1 1 [x] rfl rfl (fun h => by cases h) (row_one _ x hx1) (by have := hkl.out; simp; omega) ?_
                intro v7 w7 hO7 _
                refine hK.out _ _ (HS.out hO7.1) (fun hHeld2 => ?_)
                clear hK K hHeld
                have hHeld := hHeld2
                clear hHeld2
                try simp only [Act.put, List.setIfInBounds_toArray, List.set_cons_zero, List.set_cons_succ, List.getElem_toArray, List.getElem_cons_zero, List.getElem_cons_succ]
                refine wpAnyH_ready (rs := [14]) (by kernel_rfl) (by simp) ?_
                refine AllReadyH.cons rfl (fun K hK => ?_) AllReadyH.nil
                refine append_rowO (w0 := w1) encI_len encI_one _ _ 25 27 rfl _ 32 infoI Try.underlying25 rfl (by decide) (by decide) v7 (A.take m ++ [x]) rfl hO7 (if capA = m then some ⟨g, 0, none⟩ else some ⟨g, m * 3, none⟩) (A.length - m) (capA - m) (A.drop m) HDl.out rfl (fun h => by split at h <;> cases h) (HDrop.out hO7.1) (by have := hkl.out; simp; omega) ?_
                intro v8 w8 hO8 _
                refine hK.out _ _ (HS.out hO8.1) (fun hHeld2 => ?_)
                clear hK K hHeld
                have hHeld := hHeld2
                clear hHeld2
                try simp only [Act.put, List.setIfInBounds_toArray, List.set_cons_zero, List.set_cons_succ, List.getElem_toArray, List.getElem_cons_zero, List.getElem_cons_succ]
                refine wpAnyH_take (i := 15) (v := ?vfax) rfl (by kernel_rfl) (by kernel_rfl) (by kernel_rfl) (fun _ _ _ h => h) (Or.inl ⟨by rfl, ?hyfax⟩) (by assumption) ?restfax
                case hyfax => (intro u hu; obtain ⟨_, _, _, _⟩ := hu; go_simp; try with_reducible rfl)
                try simp only [Act.put, List.setIfInBounds_toArray, List.set_cons_zero, List.set_cons_succ, List.getElem_toArray, List.getElem_cons_zero, List.getElem_cons_succ]
                refine wpAnyH_done (by kernel_rfl) ?_ _
                refine NoPanic.normal ?_
                generalize (if capA = m then some (⟨g, 0, none⟩ : Addr) else some ⟨g, m * 3, none⟩) = cc
                clear hHeld hO7
                go_wp2_with fail
                go_roundw
                case rel => exact ⟨j + 1, insAt A m x, by omega, by go_num, HEnd.out hO8⟩
                case measure => simp [intOf]; omega
              · go_simp
                refine hK.out _ _ (HS.out (on2 hHeld.1 ((Below.refl _ _).alloc (Nat.le_refl _) _))) (fun hHeld2 => ?_)
                clear hK K hHeld
                have hHeld := hHeld2
                clear hHeld2
                try simp only [Act.put, List.setIfInBounds_toArray, List.set_cons_zero, List.set_cons_succ, List.getElem_toArray, List.getElem_cons_zero, List.getElem_cons_succ]
                refine wpAnyH_ready (rs := [4]) (by kernel_rfl) (by simp) ?_
                refine AllReadyH.cons rfl (fun K hK => ?_) AllReadyH.nil
                refine append_rowK (w0 := w1) encI_len encI_one _ _ 25 27 rfl _ 32 infoI Try.underlying25 rfl (by decide) (by decide) (.slice (some ⟨wk.heap.size, 0, none⟩) 0 0) [] rfl ((Own.start w1 wk.drew _ _ hbn.drew).on ((Below.refl _ _).alloc (Nat.le_refl _) _)) ⟨g, 0, none⟩ m capA (A.take m) HTl.out rfl (HTake.out hHeld.1) (by have := hkl.out; simp; omega) ?_
                intro v5 w5 hO5 hg5
                rw [List.nil_append] at hO5
                refine hK.out _ _ (HS.out hO5.1) (fun hHeld2 => ?_)
                clear hK K hHeld
                have hHeld := hHeld2
                clear hHeld2
                try simp only [Act.put, List.setIfInBounds_toArray, List.set_cons_zero, List.set_cons_succ, List.getElem_toArray, List.getElem_cons_zero, List.getElem_cons_succ]
                refine wpAnyH_ready (rs := [10]) (by kernel_rfl) (by simp) ?_
                refine AllReadyH.cons rfl (fun K hK => ?_) AllReadyH.nil
                refine append_rowO (ok := okI) (w0 := w1) encI_len encI_one _ _ 25 27 rfl _ 32 infoI Try.underlying25 rfl (by decide) (by decide) v5 (A.take m) rfl (hO5) (some ⟨wk.heap.size + 1, 0, none⟩) 1 1 [x] rfl rfl (fun h => by cases h) (row_kept (by have h := row_one (wk.drew.alloc (.cells #[] 27)) x hx1; rw [World.size_alloc] at h; exact h) (by simp) hg5 (by simp [Value.ownBlock])) (by have := hkl.out; simp; omega) ?_
                intro v7 w7 hO7 _
                refine hK.out _ _ (HS.out hO7.1) (fun hHeld2 => ?_)
                clear hK K hHeld
                have hHeld := hHeld2
                clear hHeld2
                try simp only [Act.put, List.setIfInBounds_toArray, List.set_cons_zero, List.set_cons_succ, List.getElem_toArray, List.getElem_cons_zero, List.getElem_cons_succ]
                refine wpAnyH_ready (rs := [14]) (by kernel_rfl) (by simp) ?_
                refine AllReadyH.cons rfl (fun K hK => ?_) AllReadyH.nil
                refine append_rowO (w0 := w1) encI_len encI_one _ _ 25 27 rfl _ 32 infoI Try.underlying25 rfl (by decide) (by decide) v7 (A.take m ++ [x]) rfl hO7 (if capA = m then some ⟨g, 0, none⟩ else some ⟨g, m * 3, none⟩) (A.length - m) (capA - m) (A.drop m) HDl.out rfl (fun h => by split at h <;> cases h) (HDrop.out hO7.1) (by have := hkl.out; simp; omega) ?_
                intro v8 w8 hO8 _
                refine hK.out _ _ (HS.out hO8.1) (fun hHeld2 => ?_)
                clear hK K hHeld
                have hHeld := hHeld2
                clear hHeld2
                try simp only [Act.put, List.setIfInBounds_toArray, List.set_cons_zero, List.set_cons_succ, List.getElem_toArray, List.getElem_cons_zero, List.getElem_cons_succ]
                refine wpAnyH_take (i := 15) (v := ?vfbx) rfl (by kernel_rfl) (by kernel_rfl) (by kernel_rfl) (fun _ _ _ h => h) (Or.inl ⟨by rfl, ?hyfbx⟩) (by assumption) ?restfbx
                case hyfbx => (intro u hu; obtain ⟨_, _, _, _⟩ := hu; go_simp; try with_reducible rfl)
                try simp only [Act.put, List.setIfInBounds_toArray, List.set_cons_zero, List.set_cons_succ, List.getElem_toArray, List.getElem_cons_zero, List.getElem_cons_succ]
                refine wpAnyH_done (by kernel_rfl) ?_ _
                refine NoPanic.normal ?_
                generalize (if capA = m then some (⟨g, 0, none⟩ : Addr) else some ⟨g, m * 3, none⟩) = cc
                clear hHeld hO7
                go_wp2_with fail
                go_roundw
                case rel => exact ⟨j + 1, insAt A m x, by omega, by go_num, HEnd.out hO8⟩
                case measure => simp [intOf]; omega
            · go_simp
              refine hK.out _ _ (HS.out (on2 hHeld.1 ((Below.refl _ _).alloc (Nat.le_refl _) _))) (fun hHeld2 => ?_)
              clear hK K hHeld
              have hHeld := hHeld2
              clear hHeld2
              try simp only [Act.put, List.setIfInBounds_toArray, List.set_cons_zero, List.set_cons_succ, List.getElem_toArray, List.getElem_cons_zero, List.getElem_cons_succ]
              refine wpAnyH_ready (rs := [0]) (by kernel_rfl) (by simp) ?_
              refine AllReadyH.cons rfl (fun K hK => ?_) AllReadyH.nil
              go_simp
              refine hK.out _ _ (HS.out (on2 hHeld.1 ((Below.refl _ _).alloc (Nat.le_refl _) _))) (fun hHeld2 => ?_)
              clear hK K hHeld
              have hHeld := hHeld2
              clear hHeld2
              try simp only [Act.put, List.setIfInBounds_toArray, List.set_cons_zero, List.set_cons_succ, List.getElem_toArray, List.getElem_cons_zero, List.getElem_cons_succ]
              refine wpAnyH_ready (rs := [4]) (by kernel_rfl) (by simp) ?_
              refine AllReadyH.cons rfl (fun K hK => ?_) AllReadyH.nil
              refine append_rowK (w0 := w1) encI_len encI_one _ _ 25 27 rfl _ 32 infoI Try.underlying25 rfl (by decide) (by decide) (.slice (some ⟨wk.heap.size + 1, 0, none⟩) 0 0) [] rfl (by have h := Own.start w1 (wk.drew.alloc (.cells #[.string x.1, .int .i64 x.2.1, .int .i64 x.2.2] 27)) 27 3 (on2 hbn.drew ((Below.refl _ _).alloc (Nat.le_refl _) _)); rw [World.size_alloc] at h; exact h) ⟨g, 0, none⟩ m capA (A.take m) HTl.out rfl (HTake.out hHeld.1) (by have := hkl.out; simp; omega) ?_
              intro v5 w5 hO5 hg5
              rw [List.nil_append] at hO5
              refine hK.out _ _ (HS.out hO5.1) (fun hHeld2 => ?_)
              clear hK K hHeld
              have hHeld := hHeld2
              clear hHeld2
              try simp only [Act.put, List.setIfInBounds_toArray, List.set_cons_zero, List.set_cons_succ, List.getElem_toArray, List.getElem_cons_zero, List.getElem_cons_succ]
              refine wpAnyH_ready (rs := [10]) (by kernel_rfl) (by simp) ?_
              refine AllReadyH.cons rfl (fun K hK => ?_) AllReadyH.nil
              refine append_rowO (ok := okI) (w0 := w1) encI_len encI_one _ _ 25 27 rfl _ 32 infoI Try.underlying25 rfl (by decide) (by decide) v5 (A.take m) rfl (hO5) (some ⟨wk.heap.size, 0, none⟩) 1 1 [x] rfl rfl (fun h => by cases h) (row_kept ((row_one wk.drew x hx1).on ((Below.refl _ _).alloc (Nat.le_refl _) _)) (by simp) hg5 (by simp [Value.ownBlock])) (by have := hkl.out; simp; omega) ?_
              intro v7 w7 hO7 _
              refine hK.out _ _ (HS.out hO7.1) (fun hHeld2 => ?_)
              clear hK K hHeld
              have hHeld := hHeld2
              clear hHeld2
              try simp only [Act.put, List.setIfInBounds_toArray, List.set_cons_zero, List.set_cons_succ, List.getElem_toArray, List.getElem_cons_zero, List.getElem_cons_succ]
              refine wpAnyH_ready (rs := [14]) (by kernel_rfl) (by simp) ?_
              refine AllReadyH.cons rfl (fun K hK => ?_) AllReadyH.nil
              refine append_rowO (w0 := w1) encI_len encI_one _ _ 25 27 rfl _ 32 infoI Try.underlying25 rfl (by decide) (by decide) v7 (A.take m ++ [x]) rfl hO7 (if capA = m then some ⟨g, 0, none⟩ else some ⟨g, m * 3, none⟩) (A.length - m) (capA - m) (A.drop m) HDl.out rfl (fun h => by split at h <;> cases h) (HDrop.out hO7.1) (by have := hkl.out; simp; omega) ?_
              intro v8 w8 hO8 _
              refine hK.out _ _ (HS.out hO8.1) (fun hHeld2 => ?_)
              clear hK K hHeld
              have hHeld := hHeld2
              clear hHeld2
              try simp only [Act.put, List.setIfInBounds_toArray, List.set_cons_zero, List.set_cons_succ, List.getElem_toArray, List.getElem_cons_zero, List.getElem_cons_succ]
              refine wpAnyH_take (i := 15) (v := ?vfcx) rfl (by kernel_rfl) (by kernel_rfl) (by kernel_rfl) (fun _ _ _ h => h) (Or.inl ⟨by rfl, ?hyfcx⟩) (by assumption) ?restfcx
              case hyfcx => (intro u hu; obtain ⟨_, _, _, _⟩ := hu; go_simp; try with_reducible rfl)
              try simp only [Act.put, List.setIfInBounds_toArray, List.set_cons_zero, List.set_cons_succ, List.getElem_toArray, List.getElem_cons_zero, List.getElem_cons_succ]
              refine wpAnyH_done (by kernel_rfl) ?_ _
              refine NoPanic.normal ?_
              generalize (if capA = m then some (⟨g, 0, none⟩ : Addr) else some ⟨g, m * 3, none⟩) = cc
              clear hHeld hO7
              go_wp2_with fail
              go_roundw
              case rel => exact ⟨j + 1, insAt A m x, by omega, by go_num, HEnd.out hO8⟩
              case measure => simp [intOf]; omega
          | true =>
            have HG : Hid (∀ s, t ≤ s → s < A.length → ahead x (at_ A s) = true) := fun s h1 h2 => by
              rcases Nat.lt_or_ge s m with h | h
              · have : s = t := by omega
                rw [this]; exact hah
              · exact hgt.out s h h2
            have HAH : Hid (ahead x (at_ A t) = true) := hah
            clear hgt hm0 hte hah
            generalize at_ A t = y at HS2 HAH
            go_wp2_with fail
            refine wp_region_noPanic ?_
            refine wp_region_held_drew (S := RS2 w1 B off j x g t y) (by kernel_rfl) (HS2.out hbn.drew) (fun hHeld => ?_)
            refine wpAnyH_take (i := 0) (v := ?vt0) rfl (by kernel_rfl) (by kernel_rfl) (by kernel_rfl) (fun _ _ _ h => h) (Or.inl ⟨by rfl, ?hyt0⟩) (by assumption) ?restt0
            case hyt0 => (intro u hu; obtain ⟨⟨_, _, _, _⟩, _, _, _⟩ := hu; go_simp; try with_reducible rfl)
            try simp only [Act.put, List.setIfInBounds_toArray, List.set_cons_zero, List.set_cons_succ, List.getElem_toArray, List.getElem_cons_zero, List.getElem_cons_succ]
            refine wpAnyH_take (i := 1) (v := ?vt1) rfl (by kernel_rfl) (by kernel_rfl) (by kernel_rfl) (fun _ _ _ h => h) (Or.inl ⟨by rfl, ?hyt1⟩) (by assumption) ?restt1
            case hyt1 => (intro u hu; obtain ⟨⟨_, _, _, _⟩, _, _, _⟩ := hu; go_simp; try with_reducible rfl)
            try simp only [Act.put, List.setIfInBounds_toArray, List.set_cons_zero, List.set_cons_succ, List.getElem_toArray, List.getElem_cons_zero, List.getElem_cons_succ]
            refine wpAnyH_take (i := 2) (v := ?vt2) rfl (by kernel_rfl) (by kernel_rfl) (by kernel_rfl) (fun _ _ _ h => h) (Or.inl ⟨by rfl, ?hyt2⟩) (by assumption) ?restt2
            case hyt2 => (intro u hu; obtain ⟨⟨_, _, _, _⟩, _, _, _⟩ := hu; go_simp; try with_reducible rfl)
            try simp only [Act.put, List.setIfInBounds_toArray, List.set_cons_zero, List.set_cons_succ, List.getElem_toArray, List.getElem_cons_zero, List.getElem_cons_succ]
            refine wpAnyH_take (i := 3) (v := ?vt3) rfl (by kernel_rfl) (by kernel_rfl) (by kernel_rfl) (fun _ _ _ h => h) (Or.inl ⟨by rfl, ?hyt3⟩) (by assumption) ?restt3
            case hyt3 => (intro u hu; obtain ⟨⟨_, _, _, _⟩, _, _, _⟩ := hu; go_simp; try with_reducible rfl)
            try simp only [Act.put, List.setIfInBounds_toArray, List.set_cons_zero, List.set_cons_succ, List.getElem_toArray, List.getElem_cons_zero, List.getElem_cons_succ]
            refine wpAnyH_take (i := 4) (v := ?vt4) rfl (by kernel_rfl) (by kernel_rfl) (by kernel_rfl) (fun _ _ _ h => h) (Or.inl ⟨by rfl, ?hyt4⟩) (by assumption) ?restt4
            case hyt4 => (intro u hu; obtain ⟨⟨_, _, _, _⟩, _, _, _⟩ := hu; go_simp; try with_reducible rfl)
            try simp only [Act.put, List.setIfInBounds_toArray, List.set_cons_zero, List.set_cons_succ, List.getElem_toArray, List.getElem_cons_zero, List.getElem_cons_succ]
            refine wpAnyH_take (i := 5) (v := ?vt5) rfl (by kernel_rfl) (by kernel_rfl) (by kernel_rfl) (fun _ _ _ h => h) (Or.inl ⟨by rfl, ?hyt5⟩) (by assumption) ?restt5
            case hyt5 => (intro u hu; obtain ⟨⟨_, _, _, _⟩, _, _, _⟩ := hu; go_simp; try with_reducible rfl)
            try simp only [Act.put, List.setIfInBounds_toArray, List.set_cons_zero, List.set_cons_succ, List.getElem_toArray, List.getElem_cons_zero, List.getElem_cons_succ]
            refine wpAnyH_take (i := 6) (v := ?vt6) rfl (by kernel_rfl) (by kernel_rfl) (by kernel_rfl) (fun _ _ _ h => h) (Or.inl ⟨by rfl, ?hyt6⟩) (by assumption) ?restt6
            case hyt6 => (intro u hu; obtain ⟨⟨_, _, _, _⟩, _, _, _⟩ := hu; go_simp; try with_reducible rfl)
            try simp only [Act.put, List.setIfInBounds_toArray, List.set_cons_zero, List.set_cons_succ, List.getElem_toArray, List.getElem_cons_zero, List.getElem_cons_succ]
            refine wpAnyH_take (i := 7) (v := ?vt7) rfl (by kernel_rfl) (by kernel_rfl) (by kernel_rfl) (fun _ _ _ h => h) (Or.inl ⟨by rfl, ?hyt7⟩) (by assumption) ?restt7
            case hyt7 => (intro u hu; obtain ⟨⟨_, _, _, _⟩, _, _, _⟩ := hu; go_simp; try with_reducible rfl)
            try simp only [Act.put, List.setIfInBounds_toArray, List.set_cons_zero, List.set_cons_succ, List.getElem_toArray, List.getElem_cons_zero, List.getElem_cons_succ]
            refine wpAnyH_take (i := 8) (v := ?vt8) rfl (by kernel_rfl) (by kernel_rfl) (by kernel_rfl) (fun _ _ _ h => h) (Or.inl ⟨by rfl, ?hyt8⟩) (by assumption) ?restt8
            case hyt8 => (intro u hu; obtain ⟨⟨_, _, _, _⟩, _, _, _⟩ := hu; go_simp; try with_reducible rfl)
            try simp only [Act.put, List.setIfInBounds_toArray, List.set_cons_zero, List.set_cons_succ, List.getElem_toArray, List.getElem_cons_zero, List.getElem_cons_succ]
            refine wpAnyH_take (i := 9) (v := ?vt9) rfl (by kernel_rfl) (by kernel_rfl) (by kernel_rfl) (fun _ _ _ h => h) (Or.inl ⟨by rfl, ?hyt9⟩) (by assumption) ?restt9
            case hyt9 => (intro u hu; obtain ⟨⟨_, _, _, _⟩, _, _, _⟩ := hu; go_simp; try with_reducible rfl)
            try simp only [Act.put, List.setIfInBounds_toArray, List.set_cons_zero, List.set_cons_succ, List.getElem_toArray, List.getElem_cons_zero, List.getElem_cons_succ]
            refine wpAnyH_take (i := 10) (v := ?vt10) rfl (by kernel_rfl) (by kernel_rfl) (by kernel_rfl) (fun _ _ _ h => h) (Or.inl ⟨by rfl, ?hyt10⟩) (by assumption) ?restt10
            case hyt10 => (intro u hu; obtain ⟨⟨_, _, _, _⟩, _, _, _⟩ := hu; go_simp; try with_reducible rfl)
            try simp only [Act.put, List.setIfInBounds_toArray, List.set_cons_zero, List.set_cons_succ, List.getElem_toArray, List.getElem_cons_zero, List.getElem_cons_succ]
            refine wpAnyH_take (i := 11) (v := ?vt11) rfl (by kernel_rfl) (by kernel_rfl) (by kernel_rfl) (fun _ _ _ h => h) (Or.inl ⟨by rfl, ?hyt11⟩) (by assumption) ?restt11
            case hyt11 => (intro u hu; obtain ⟨⟨_, _, _, _⟩, _, _, _⟩ := hu; go_simp; try with_reducible rfl)
            try simp only [Act.put, List.setIfInBounds_toArray, List.set_cons_zero, List.set_cons_succ, List.getElem_toArray, List.getElem_cons_zero, List.getElem_cons_succ]
            refine wpAnyH_ready (rs := [12]) (by kernel_rfl) (by simp) ?_
            refine AllReadyH.cons rfl (fun K hK => ?_) AllReadyH.nil
            go_simp
            refine (rAhead_as x y _ HAH.out).mono ?_
            rintro e wk ⟨rfl, hb2⟩
            go_wp2_with fail
            refine hK.out _ _ (HS2.out (on2 hHeld.1.1 hb2)) (fun hHeld2 => ?_)
            clear hK K hHeld
            have hHeld := hHeld2
            clear hHeld2
            try simp only [Act.put, List.setIfInBounds_toArray, List.set_cons_zero, List.set_cons_succ, List.getElem_toArray, List.getElem_cons_zero, List.getElem_cons_succ]
            refine wpAnyH_take (i := 13) (v := ?vt13) rfl (by kernel_rfl) (by kernel_rfl) (by kernel_rfl) (fun _ _ _ h => h) (Or.inl ⟨by rfl, ?hyt13⟩) (by assumption) ?restt13
            case hyt13 => (intro u hu; obtain ⟨⟨_, _, _, _⟩, _, _, _⟩ := hu; go_simp; try with_reducible rfl)
            try simp only [Act.put, List.setIfInBounds_toArray, List.set_cons_zero, List.set_cons_succ, List.getElem_toArray, List.getElem_cons_zero, List.getElem_cons_succ]
            refine wpAnyH_done (by kernel_rfl) ?_ _
            refine NoPanic.normal ?_
            have HBK : Hid (Below w1.heap.size w1 wk) := hHeld.1.1
            clear hHeld
            go_wp2_with fail
            go_roundw
            case rel => exact ⟨t, by omega, rfl, HBK, HG⟩
            case measure => have := ht.out; simp [intOf]; omega
    · have hk : j = n := by omega
      have HU : Hid (A = stabF L) := by
        rw [hk, List.take_of_length_le (by rw [HN.out]; exact Nat.le_refl _)] at hpA
        exact srt_stab hpA hsA
      have HL : Hid (A.length = n) := by rw [Hid, hAl.out, hk]
      have HB : Hid (Own w w1 27 3 (.slice (some ⟨g, 0, none⟩) A.length capA) A.length (flatE encI A) ∧ RowAt encI 3 okI w1 (some ⟨g, 0, none⟩) A) := ⟨hO, hat⟩
      clear hO hat hpA hsA hrl hk
      have hji : ¬ (j : Int) < (n : Int) := by omega
      go_wp2_with fail
      go_ret
      have e1 := HU.out
      have e2 := HL.out
      have e3 := HB.out
      rw [e2] at e3
      rw [e1] at e3
      rw [e2]
      exact ⟨⟨_, _, rfl, e3.2, e3.1⟩, e3.1.1⟩
end Go.Proofs.Ytgncpjplofacfaa
