/- The law HeapSorts holds of the program: any entries are sorted, and two held against each other, as the document says; the chapter's example comes out. For every input; no condition. -/
import Derived.Test.YtgncpjplofacfaaHSame
import Derived.Test.YtgncpjplofacfaaRows
namespace Go.Proofs.Ytgncpjplofacfaa.heapSorts
open Go.ChangeShapes Go.WideShapes Go.ChangeAt Go.RowKit Go.Maps
set_option linter.unusedSimpArgs false

def LoS (w : World) (B off j j1 : Nat) (x y : It) (u : World) : Prop := Below w.heap.size w u ∧ u.cell? ⟨B, off + j * 3, none⟩ = some (.string x.1) ∧ u.cell? ⟨B, off + j * 3 + 1, none⟩ = some (.int .i64 x.2.1) ∧ u.cell? ⟨B, off + j * 3 + 2, none⟩ = some (.int .i64 x.2.2) ∧
  u.cell? ⟨B, off + j1 * 3, none⟩ = some (.string y.1) ∧ u.cell? ⟨B, off + j1 * 3 + 1, none⟩ = some (.int .i64 y.2.1) ∧ u.cell? ⟨B, off + j1 * 3 + 2, none⟩ = some (.int .i64 y.2.2)
theorem Ahead_as (a b : It) (w : World) {r : Bool} (h : ahead a b = r) : Calls Try.prog 25 #[vI a, vI b] w fun e w' => e = .returned (.bool r) ∧ Below w.heap.size w w' := by
  subst h; exact Ahead_calls a b w
set_option maxRecDepth 100000 in
set_option maxHeartbeats 8000000 in
theorem core (a : Option Addr) (n0 cap : Nat) (L0 : List It) (w : World) (hn0 : L0.length = n0) (hat0 : Hid (RowAt encI 3 okI w a L0)) (hc0 : a = none → cap = 0) (hlc : n0 ≤ cap) (hbb : n0 ≤ 140737488355328) :
    Calls Try.prog 4 #[.slice a n0 cap] w fun e w' => e = .returned (.bool true) ∧ Below w.heap.size w w' := by
  have HN0 : Hid (L0.length = n0) := hn0
  clear hn0
  have HC : Hid (a = none → cap = 0) := hc0
  clear hc0
  go_enter Try.func4, Try.ntmps4
  obtain ⟨n, L, HL, hnn, HN, hat⟩ : ∃ (n : Nat) (L : List It), Hid (n = min n0 300) ∧ n ≤ 300 ∧ Hid (L.length = n) ∧ Hid (RowAt encI 3 okI w a L) :=
    ⟨min n0 300, L0.take 300, rfl, by omega, by have := HN0.out; rw [Hid, List.length_take]; omega, hat0.out.take 300⟩
  have hby : n < 1000000000 := by omega
  have mk : Hid (∀ (v : Value) (u : World), Own w u 27 3 v ([] ++ L).length (flatE encI ([] ++ L)) → ∃ g c, v = .slice g n c ∧ Hid (RowAt encI 3 okI u g L) ∧ Hid (Below w.heap.size w u)) := by
    intro v u h
    rw [List.nil_append] at h
    obtain ⟨g, c, e, k1, _⟩ := row_of_owns (ok := okI) encI_len h.2 (by rw [HN.out]; omega) hat.out.2.1
    exact ⟨g, c, by rw [e, HN.out], k1, h.1⟩
  have HBIG : (n = n0 ∧ n0 ≤ 300) ∨ (n = 300 ∧ 300 < n0) := by have := HL.out; omega
  clear HL hat0 HN0
  rcases HBIG with ⟨rfl, hs⟩ | ⟨rfl, hs⟩
  · have hsi : ¬ (300 : Int) < (n : Int) := by omega
    have t1 : True := trivial
    go_wp2_with (first
      | (at_builtin; go_must (refine items_append (w0 := w) rfl _ _ rfl (.slice (some ⟨w.heap.size, 0, none⟩) 0 0) [] rfl (Own.start w w 27 3 (Below.refl _ _)) a n cap L HN.out rfl HC.out (hat.out.on (by go_grown)) (by have := HN.out; simp; omega) ?_); intro v3 w3 hO3 _; obtain ⟨g, c, rfl, R3, B3⟩ := mk.out v3 w3 hO3; clear hO3)
      | (go_at_call 23; refine (Sort_calls g n c L _ HN.out R3.out hby).mono ?_; rintro e w4 ⟨⟨a4, c4, rfl, R4'⟩, hb4'⟩; have R4 : Hid (RowAt encI 3 okI w4 a4 (stabF L)) := R4'; have hb4 : Hid (Below w3.heap.size w3 w4) := hb4'; clear R4' hb4')
      | (go_at_call 24; refine (rSort_calls a n cap L _ HN.out (hat.out.on (on2 B3.out hb4.out)) hby).mono ?_; rintro e w5 ⟨⟨g5, c5, rfl, R5', _⟩, hb5'⟩; have R5 : Hid (RowAt encI 3 okI w5 (some ⟨g5, 0, none⟩) (stabF L)) := R5'; have hb5 : Hid (Below w4.heap.size w4 w5) := hb5'; clear R5' hb5')
      | (go_at_call 21; have _t := t1; go_loud (refine (same_calls a4 (some ⟨g5, 0, none⟩) n c4 c5 (stabF L) _ (by rw [stabF_length]; exact HN.out) (R4.out.on hb5.out) R5 hby).mono ?_; rintro e w6 ⟨rfl, hb6'⟩; clear t1; have hb6 : Hid (Below w5.heap.size w5 w6) := hb6'; clear hb6'))
      | (go_at_call 21; refine (same_calls g a n c cap L _ HN.out (R3.out.on (on2 hb4.out (on2 hb5.out hb6.out))) (hat.out.on (on2 B3.out (on2 hb4.out (on2 hb5.out hb6.out)))) hby).mono ?_; rintro e w7 ⟨rfl, hb7'⟩; have hb7 : Hid (Below w6.heap.size w6 w7) := hb7'; clear hb7'))
    have HB7 : Hid (Below w.heap.size w w7) := on2 B3.out (on2 hb4.out (on2 hb5.out (on2 hb6.out hb7.out)))
    clear R3 R4 R5 B3 hb4 hb5 hb6 hb7 mk
    go_loopw [4] (fun i wr => ∃ j : Nat, (j = 0 ∨ j + 1 ≤ n) ∧ i = .int .i64 j ∧ Hid (Below w.heap.size w wr)) (fun i _ => n - (intOf i).toNat)
    case atStart => exact ⟨0, .inl rfl, rfl, HB7⟩
    case round =>
      obtain ⟨j, hjl, rfl, hbw⟩ := hrel
      obtain ⟨j1, hj1⟩ : ∃ j1, Hid (j1 = j + 1) := ⟨j + 1, rfl⟩
      have hwr1 : IntKind.i64.wrap ((j : Int) + 1) = (j1 : Int) := by rw [hj1.out]; simp [IntKind.wrap, IntKind.bits, IntKind.signed]; omega
      have hj10 : (0 : Int) ≤ (j1 : Int) := by omega
      by_cases hlt : j1 < n
      · have hj : j < n := by have := hj1.out; omega
        obtain ⟨B, off, rfl, hB', c0, c1, c2, _⟩ := hat.out.three (i := j) (by rw [HN.out]; exact hj)
        obtain ⟨C, o, e9, hC', d0, d1, d2, _⟩ := hat.out.three (i := j1) (by rw [HN.out]; exact hlt)
        obtain ⟨rfl, rfl⟩ : B = C ∧ off = o := by simpa using e9
        generalize at_ L j = x at c0 c1 c2
        generalize at_ L j1 = y at d0 d1 d2
        have HS : Hid (∀ {u : World}, Below w.heap.size w u → LoS w B off j j1 x y u) := fun hb => ⟨hb, (hb.cell hB').trans c0, (hb.cell hB').trans c1, (hb.cell hB').trans c2, (hb.cell hB').trans d0, (hb.cell hB').trans d1, (hb.cell hB').trans d2⟩
        clear c0 c1 c2 d0 d1 d2 e9
        have hji : (j : Int) < (n : Int) := by omega
        have hj1i : (j1 : Int) < (n : Int) := by omega
        obtain ⟨r, hr⟩ : ∃ r, Hid (ahead x y = r) := ⟨_, rfl⟩
        go_wp2_with fail
        refine wp_region_noPanic ?_
        refine wp_region_held_drew (S := LoS w B off j j1 x y) (by kernel_rfl) (HS.out hbw.out.drew) (fun hHeld => ?_)
        refine wpAnyH_take (i := 0) (v := ?va0) rfl (by kernel_rfl) (by kernel_rfl) (by kernel_rfl) (fun _ _ _ h => h) (Or.inl ⟨by rfl, ?hya0⟩) (by assumption) ?resta0
        case hya0 => (intro u hu; obtain ⟨_, _, _, _, _, _, _⟩ := hu; go_simp; try with_reducible rfl)
        try simp only [Act.put, List.setIfInBounds_toArray, List.set_cons_zero, List.set_cons_succ, List.getElem_toArray, List.getElem_cons_zero, List.getElem_cons_succ]
        refine wpAnyH_take (i := 1) (v := ?va1) rfl (by kernel_rfl) (by kernel_rfl) (by kernel_rfl) (fun _ _ _ h => h) (Or.inl ⟨by rfl, ?hya1⟩) (by assumption) ?resta1
        case hya1 => (intro u hu; obtain ⟨_, _, _, _, _, _, _⟩ := hu; go_simp; try with_reducible rfl)
        try simp only [Act.put, List.setIfInBounds_toArray, List.set_cons_zero, List.set_cons_succ, List.getElem_toArray, List.getElem_cons_zero, List.getElem_cons_succ]
        refine wpAnyH_take (i := 2) (v := ?va2) rfl (by kernel_rfl) (by kernel_rfl) (by kernel_rfl) (fun _ _ _ h => h) (Or.inl ⟨by rfl, ?hya2⟩) (by assumption) ?resta2
        case hya2 => (intro u hu; obtain ⟨_, _, _, _, _, _, _⟩ := hu; go_simp; try with_reducible rfl)
        try simp only [Act.put, List.setIfInBounds_toArray, List.set_cons_zero, List.set_cons_succ, List.getElem_toArray, List.getElem_cons_zero, List.getElem_cons_succ]
        refine wpAnyH_take (i := 3) (v := ?va3) rfl (by kernel_rfl) (by kernel_rfl) (by kernel_rfl) (fun _ _ _ h => h) (Or.inl ⟨by rfl, ?hya3⟩) (by assumption) ?resta3
        case hya3 => (intro u hu; obtain ⟨_, _, _, _, _, _, _⟩ := hu; go_simp; try with_reducible rfl)
        try simp only [Act.put, List.setIfInBounds_toArray, List.set_cons_zero, List.set_cons_succ, List.getElem_toArray, List.getElem_cons_zero, List.getElem_cons_succ]
        refine wpAnyH_take (i := 4) (v := ?va4) rfl (by kernel_rfl) (by kernel_rfl) (by kernel_rfl) (fun _ _ _ h => h) (Or.inl ⟨by rfl, ?hya4⟩) (by assumption) ?resta4
        case hya4 => (intro u hu; obtain ⟨_, _, _, _, _, _, _⟩ := hu; go_simp; try with_reducible rfl)
        try simp only [Act.put, List.setIfInBounds_toArray, List.set_cons_zero, List.set_cons_succ, List.getElem_toArray, List.getElem_cons_zero, List.getElem_cons_succ]
        refine wpAnyH_take (i := 5) (v := ?va5) rfl (by kernel_rfl) (by kernel_rfl) (by kernel_rfl) (fun _ _ _ h => h) (Or.inl ⟨by rfl, ?hya5⟩) (by assumption) ?resta5
        case hya5 => (intro u hu; obtain ⟨_, _, _, _, _, _, _⟩ := hu; go_simp; try with_reducible rfl)
        try simp only [Act.put, List.setIfInBounds_toArray, List.set_cons_zero, List.set_cons_succ, List.getElem_toArray, List.getElem_cons_zero, List.getElem_cons_succ]
        refine wpAnyH_take (i := 6) (v := ?va6) rfl (by kernel_rfl) (by kernel_rfl) (by kernel_rfl) (fun _ _ _ h => h) (Or.inl ⟨by rfl, ?hya6⟩) (by assumption) ?resta6
        case hya6 => (intro u hu; obtain ⟨_, _, _, _, _, _, _⟩ := hu; go_simp; try with_reducible rfl)
        try simp only [Act.put, List.setIfInBounds_toArray, List.set_cons_zero, List.set_cons_succ, List.getElem_toArray, List.getElem_cons_zero, List.getElem_cons_succ]
        refine wpAnyH_take (i := 7) (v := ?va7) rfl (by kernel_rfl) (by kernel_rfl) (by kernel_rfl) (fun _ _ _ h => h) (Or.inl ⟨by rfl, ?hya7⟩) (by assumption) ?resta7
        case hya7 => (intro u hu; obtain ⟨_, _, _, _, _, _, _⟩ := hu; go_simp; try with_reducible rfl)
        try simp only [Act.put, List.setIfInBounds_toArray, List.set_cons_zero, List.set_cons_succ, List.getElem_toArray, List.getElem_cons_zero, List.getElem_cons_succ]
        refine wpAnyH_take (i := 8) (v := ?va8) rfl (by kernel_rfl) (by kernel_rfl) (by kernel_rfl) (fun _ _ _ h => h) (Or.inl ⟨by rfl, ?hya8⟩) (by assumption) ?resta8
        case hya8 => (intro u hu; obtain ⟨_, _, _, _, _, _, _⟩ := hu; go_simp; try with_reducible rfl)
        try simp only [Act.put, List.setIfInBounds_toArray, List.set_cons_zero, List.set_cons_succ, List.getElem_toArray, List.getElem_cons_zero, List.getElem_cons_succ]
        refine wpAnyH_take (i := 10) (v := ?va10) rfl (by kernel_rfl) (by kernel_rfl) (by kernel_rfl) (fun _ _ _ h => h) (Or.inl ⟨by rfl, ?hya10⟩) (by assumption) ?resta10
        case hya10 => (intro u hu; obtain ⟨_, _, _, _, _, _, _⟩ := hu; go_simp; try with_reducible rfl)
        try simp only [Act.put, List.setIfInBounds_toArray, List.set_cons_zero, List.set_cons_succ, List.getElem_toArray, List.getElem_cons_zero, List.getElem_cons_succ]
        refine wpAnyH_take (i := 11) (v := ?va11) rfl (by kernel_rfl) (by kernel_rfl) (by kernel_rfl) (fun _ _ _ h => h) (Or.inl ⟨by rfl, ?hya11⟩) (by assumption) ?resta11
        case hya11 => (intro u hu; obtain ⟨_, _, _, _, _, _, _⟩ := hu; go_simp; try with_reducible rfl)
        try simp only [Act.put, List.setIfInBounds_toArray, List.set_cons_zero, List.set_cons_succ, List.getElem_toArray, List.getElem_cons_zero, List.getElem_cons_succ]
        refine wpAnyH_take (i := 12) (v := ?va12) rfl (by kernel_rfl) (by kernel_rfl) (by kernel_rfl) (fun _ _ _ h => h) (Or.inl ⟨by rfl, ?hya12⟩) (by assumption) ?resta12
        case hya12 => (intro u hu; obtain ⟨_, _, _, _, _, _, _⟩ := hu; go_simp; try with_reducible rfl)
        try simp only [Act.put, List.setIfInBounds_toArray, List.set_cons_zero, List.set_cons_succ, List.getElem_toArray, List.getElem_cons_zero, List.getElem_cons_succ]
        refine wpAnyH_take (i := 13) (v := ?va13) rfl (by kernel_rfl) (by kernel_rfl) (by kernel_rfl) (fun _ _ _ h => h) (Or.inl ⟨by rfl, ?hya13⟩) (by assumption) ?resta13
        case hya13 => (intro u hu; obtain ⟨_, _, _, _, _, _, _⟩ := hu; go_simp; try with_reducible rfl)
        try simp only [Act.put, List.setIfInBounds_toArray, List.set_cons_zero, List.set_cons_succ, List.getElem_toArray, List.getElem_cons_zero, List.getElem_cons_succ]
        refine wpAnyH_take (i := 14) (v := ?va14) rfl (by kernel_rfl) (by kernel_rfl) (by kernel_rfl) (fun _ _ _ h => h) (Or.inl ⟨by rfl, ?hya14⟩) (by assumption) ?resta14
        case hya14 => (intro u hu; obtain ⟨_, _, _, _, _, _, _⟩ := hu; go_simp; try with_reducible rfl)
        try simp only [Act.put, List.setIfInBounds_toArray, List.set_cons_zero, List.set_cons_succ, List.getElem_toArray, List.getElem_cons_zero, List.getElem_cons_succ]
        refine wpAnyH_take (i := 15) (v := ?va15) rfl (by kernel_rfl) (by kernel_rfl) (by kernel_rfl) (fun _ _ _ h => h) (Or.inl ⟨by rfl, ?hya15⟩) (by assumption) ?resta15
        case hya15 => (intro u hu; obtain ⟨_, _, _, _, _, _, _⟩ := hu; go_simp; try with_reducible rfl)
        try simp only [Act.put, List.setIfInBounds_toArray, List.set_cons_zero, List.set_cons_succ, List.getElem_toArray, List.getElem_cons_zero, List.getElem_cons_succ]
        refine wpAnyH_take (i := 16) (v := ?va16) rfl (by kernel_rfl) (by kernel_rfl) (by kernel_rfl) (fun _ _ _ h => h) (Or.inl ⟨by rfl, ?hya16⟩) (by assumption) ?resta16
        case hya16 => (intro u hu; obtain ⟨_, _, _, _, _, _, _⟩ := hu; go_simp; try with_reducible rfl)
        try simp only [Act.put, List.setIfInBounds_toArray, List.set_cons_zero, List.set_cons_succ, List.getElem_toArray, List.getElem_cons_zero, List.getElem_cons_succ]
        refine wpAnyH_take (i := 17) (v := ?va17) rfl (by kernel_rfl) (by kernel_rfl) (by kernel_rfl) (fun _ _ _ h => h) (Or.inl ⟨by rfl, ?hya17⟩) (by assumption) ?resta17
        case hya17 => (intro u hu; obtain ⟨_, _, _, _, _, _, _⟩ := hu; go_simp; try with_reducible rfl)
        try simp only [Act.put, List.setIfInBounds_toArray, List.set_cons_zero, List.set_cons_succ, List.getElem_toArray, List.getElem_cons_zero, List.getElem_cons_succ]
        refine wpAnyH_take (i := 18) (v := ?va18) rfl (by kernel_rfl) (by kernel_rfl) (by kernel_rfl) (fun _ _ _ h => h) (Or.inl ⟨by rfl, ?hya18⟩) (by assumption) ?resta18
        case hya18 => (intro u hu; obtain ⟨_, _, _, _, _, _, _⟩ := hu; go_simp; try with_reducible rfl)
        try simp only [Act.put, List.setIfInBounds_toArray, List.set_cons_zero, List.set_cons_succ, List.getElem_toArray, List.getElem_cons_zero, List.getElem_cons_succ]
        refine wpAnyH_ready (rs := [9]) (by kernel_rfl) (by simp) ?_
        refine AllReadyH.cons rfl (fun K hK => ?_) AllReadyH.nil
        go_simp
        refine (Ahead_as x y _ hr.out).mono ?_
        rintro e w8 ⟨rfl, hb8⟩
        go_wp2_with fail
        refine hK.out _ _ (HS.out (on2 hHeld.1 hb8)) (fun hHeld2 => ?_)
        clear hK K hHeld
        have hHeld := hHeld2
        clear hHeld2
        try simp only [Act.put, List.setIfInBounds_toArray, List.set_cons_zero, List.set_cons_succ, List.getElem_toArray, List.getElem_cons_zero, List.getElem_cons_succ]
        refine wpAnyH_ready (rs := [19]) (by kernel_rfl) (by simp) ?_
        refine AllReadyH.cons rfl (fun K hK => ?_) AllReadyH.nil
        go_simp
        refine (rAhead_as x y _ hr.out).mono ?_
        rintro e w9 ⟨rfl, hb8⟩
        go_wp2_with fail
        refine hK.out _ _ (HS.out (on2 hHeld.1 hb8)) (fun hHeld2 => ?_)
        clear hK K hHeld
        have hHeld := hHeld2
        clear hHeld2
        try simp only [Act.put, List.setIfInBounds_toArray, List.set_cons_zero, List.set_cons_succ, List.getElem_toArray, List.getElem_cons_zero, List.getElem_cons_succ]
        refine wpAnyH_take (i := 20) (v := ?va20) rfl (by kernel_rfl) (by kernel_rfl) (by kernel_rfl) (fun _ _ _ h => h) (Or.inl ⟨by rfl, ?hya20⟩) (by assumption) ?resta20
        case hya20 => (intro u hu; obtain ⟨_, _, _, _, _, _, _⟩ := hu; go_simp; try with_reducible rfl)
        try simp only [Act.put, List.setIfInBounds_toArray, List.set_cons_zero, List.set_cons_succ, List.getElem_toArray, List.getElem_cons_zero, List.getElem_cons_succ]
        refine wpAnyH_done (by kernel_rfl) ?_ _
        refine NoPanic.normal ?_
        have HB : Hid (Below w.heap.size w w9) := hHeld.1
        clear hHeld
        go_wp2_with fail
        go_roundw
        case rel => exact ⟨j1, .inr (by omega), by have := hj1.out; go_num, HB⟩
        case measure => have := hj1.out; simp [intOf]; omega
      · have hj1i : ¬ (j1 : Int) < (n : Int) := by omega
        go_wp2_with (go_at_call 22; refine (works_calls _).mono ?_; rintro e w8 ⟨rfl, hb8⟩)
        go_ret
        exact ⟨rfl, on2 hbw.out hb8⟩
  · have hsi : (300 : Int) < (n0 : Int) := by omega
    have hsc : (300 : Int) ≤ (cap : Int) := by omega
    have t1 : True := trivial
    go_wp2_with (first
      | (at_builtin; go_must (refine items_append (w0 := w) rfl _ _ rfl (.slice (some ⟨w.heap.size, 0, none⟩) 0 0) [] rfl (Own.start w w 27 3 (Below.refl _ _)) a 300 cap L HN.out rfl HC.out (hat.out.on (by go_grown)) (by have := HN.out; simp; omega) ?_); intro v3 w3 hO3 _; obtain ⟨g, c, rfl, R3, B3⟩ := mk.out v3 w3 hO3; clear hO3)
      | (go_at_call 23; refine (Sort_calls g 300 c L _ HN.out R3.out hby).mono ?_; rintro e w4 ⟨⟨a4, c4, rfl, R4'⟩, hb4'⟩; have R4 : Hid (RowAt encI 3 okI w4 a4 (stabF L)) := R4'; have hb4 : Hid (Below w3.heap.size w3 w4) := hb4'; clear R4' hb4')
      | (go_at_call 24; refine (rSort_calls a 300 cap L _ HN.out (hat.out.on (on2 B3.out hb4.out)) hby).mono ?_; rintro e w5 ⟨⟨g5, c5, rfl, R5', _⟩, hb5'⟩; have R5 : Hid (RowAt encI 3 okI w5 (some ⟨g5, 0, none⟩) (stabF L)) := R5'; have hb5 : Hid (Below w4.heap.size w4 w5) := hb5'; clear R5' hb5')
      | (go_at_call 21; have _t := t1; go_loud (refine (same_calls a4 (some ⟨g5, 0, none⟩) 300 c4 c5 (stabF L) _ (by rw [stabF_length]; exact HN.out) (R4.out.on hb5.out) R5 hby).mono ?_; rintro e w6 ⟨rfl, hb6'⟩; clear t1; have hb6 : Hid (Below w5.heap.size w5 w6) := hb6'; clear hb6'))
      | (go_at_call 21; refine (same_calls g a 300 c cap L _ HN.out (R3.out.on (on2 hb4.out (on2 hb5.out hb6.out))) (hat.out.on (on2 B3.out (on2 hb4.out (on2 hb5.out hb6.out)))) hby).mono ?_; rintro e w7 ⟨rfl, hb7'⟩; have hb7 : Hid (Below w6.heap.size w6 w7) := hb7'; clear hb7'))
    have HB7 : Hid (Below w.heap.size w w7) := on2 B3.out (on2 hb4.out (on2 hb5.out (on2 hb6.out hb7.out)))
    clear R3 R4 R5 B3 hb4 hb5 hb6 hb7 mk
    go_loopw [4] (fun i wr => ∃ j : Nat, (j = 0 ∨ j + 1 ≤ 300) ∧ i = .int .i64 j ∧ Hid (Below w.heap.size w wr)) (fun i _ => 300 - (intOf i).toNat)
    case atStart => exact ⟨0, .inl rfl, rfl, HB7⟩
    case round =>
      obtain ⟨j, hjl, rfl, hbw⟩ := hrel
      obtain ⟨j1, hj1⟩ : ∃ j1, Hid (j1 = j + 1) := ⟨j + 1, rfl⟩
      have hwr1 : IntKind.i64.wrap ((j : Int) + 1) = (j1 : Int) := by rw [hj1.out]; simp [IntKind.wrap, IntKind.bits, IntKind.signed]; omega
      have hj10 : (0 : Int) ≤ (j1 : Int) := by omega
      by_cases hlt : j1 < 300
      · have hj : j < 300 := by have := hj1.out; omega
        obtain ⟨B, off, rfl, hB', c0, c1, c2, _⟩ := hat.out.three (i := j) (by rw [HN.out]; exact hj)
        obtain ⟨C, o, e9, hC', d0, d1, d2, _⟩ := hat.out.three (i := j1) (by rw [HN.out]; exact hlt)
        obtain ⟨rfl, rfl⟩ : B = C ∧ off = o := by simpa using e9
        generalize at_ L j = x at c0 c1 c2
        generalize at_ L j1 = y at d0 d1 d2
        have HS : Hid (∀ {u : World}, Below w.heap.size w u → LoS w B off j j1 x y u) := fun hb => ⟨hb, (hb.cell hB').trans c0, (hb.cell hB').trans c1, (hb.cell hB').trans c2, (hb.cell hB').trans d0, (hb.cell hB').trans d1, (hb.cell hB').trans d2⟩
        clear c0 c1 c2 d0 d1 d2 e9
        have hji : (j : Int) < (300 : Int) := by omega
        have hj1i : (j1 : Int) < (300 : Int) := by omega
        obtain ⟨r, hr⟩ : ∃ r, Hid (ahead x y = r) := ⟨_, rfl⟩
        go_wp2_with fail
        refine wp_region_noPanic ?_
        refine wp_region_held_drew (S := LoS w B off j j1 x y) (by kernel_rfl) (HS.out hbw.out.drew) (fun hHeld => ?_)
        refine wpAnyH_take (i := 0) (v := ?vb0) rfl (by kernel_rfl) (by kernel_rfl) (by kernel_rfl) (fun _ _ _ h => h) (Or.inl ⟨by rfl, ?hyb0⟩) (by assumption) ?restb0
        case hyb0 => (intro u hu; obtain ⟨_, _, _, _, _, _, _⟩ := hu; go_simp; try with_reducible rfl)
        try simp only [Act.put, List.setIfInBounds_toArray, List.set_cons_zero, List.set_cons_succ, List.getElem_toArray, List.getElem_cons_zero, List.getElem_cons_succ]
        refine wpAnyH_take (i := 1) (v := ?vb1) rfl (by kernel_rfl) (by kernel_rfl) (by kernel_rfl) (fun _ _ _ h => h) (Or.inl ⟨by rfl, ?hyb1⟩) (by assumption) ?restb1
        case hyb1 => (intro u hu; obtain ⟨_, _, _, _, _, _, _⟩ := hu; go_simp; try with_reducible rfl)
        try simp only [Act.put, List.setIfInBounds_toArray, List.set_cons_zero, List.set_cons_succ, List.getElem_toArray, List.getElem_cons_zero, List.getElem_cons_succ]
        refine wpAnyH_take (i := 2) (v := ?vb2) rfl (by kernel_rfl) (by kernel_rfl) (by kernel_rfl) (fun _ _ _ h => h) (Or.inl ⟨by rfl, ?hyb2⟩) (by assumption) ?restb2
        case hyb2 => (intro u hu; obtain ⟨_, _, _, _, _, _, _⟩ := hu; go_simp; try with_reducible rfl)
        try simp only [Act.put, List.setIfInBounds_toArray, List.set_cons_zero, List.set_cons_succ, List.getElem_toArray, List.getElem_cons_zero, List.getElem_cons_succ]
        refine wpAnyH_take (i := 3) (v := ?vb3) rfl (by kernel_rfl) (by kernel_rfl) (by kernel_rfl) (fun _ _ _ h => h) (Or.inl ⟨by rfl, ?hyb3⟩) (by assumption) ?restb3
        case hyb3 => (intro u hu; obtain ⟨_, _, _, _, _, _, _⟩ := hu; go_simp; try with_reducible rfl)
        try simp only [Act.put, List.setIfInBounds_toArray, List.set_cons_zero, List.set_cons_succ, List.getElem_toArray, List.getElem_cons_zero, List.getElem_cons_succ]
        refine wpAnyH_take (i := 4) (v := ?vb4) rfl (by kernel_rfl) (by kernel_rfl) (by kernel_rfl) (fun _ _ _ h => h) (Or.inl ⟨by rfl, ?hyb4⟩) (by assumption) ?restb4
        case hyb4 => (intro u hu; obtain ⟨_, _, _, _, _, _, _⟩ := hu; go_simp; try with_reducible rfl)
        try simp only [Act.put, List.setIfInBounds_toArray, List.set_cons_zero, List.set_cons_succ, List.getElem_toArray, List.getElem_cons_zero, List.getElem_cons_succ]
        refine wpAnyH_take (i := 5) (v := ?vb5) rfl (by kernel_rfl) (by kernel_rfl) (by kernel_rfl) (fun _ _ _ h => h) (Or.inl ⟨by rfl, ?hyb5⟩) (by assumption) ?restb5
        case hyb5 => (intro u hu; obtain ⟨_, _, _, _, _, _, _⟩ := hu; go_simp; try with_reducible rfl)
        try simp only [Act.put, List.setIfInBounds_toArray, List.set_cons_zero, List.set_cons_succ, List.getElem_toArray, List.getElem_cons_zero, List.getElem_cons_succ]
        refine wpAnyH_take (i := 6) (v := ?vb6) rfl (by kernel_rfl) (by kernel_rfl) (by kernel_rfl) (fun _ _ _ h => h) (Or.inl ⟨by rfl, ?hyb6⟩) (by assumption) ?restb6
        case hyb6 => (intro u hu; obtain ⟨_, _, _, _, _, _, _⟩ := hu; go_simp; try with_reducible rfl)
        try simp only [Act.put, List.setIfInBounds_toArray, List.set_cons_zero, List.set_cons_succ, List.getElem_toArray, List.getElem_cons_zero, List.getElem_cons_succ]
        refine wpAnyH_take (i := 7) (v := ?vb7) rfl (by kernel_rfl) (by kernel_rfl) (by kernel_rfl) (fun _ _ _ h => h) (Or.inl ⟨by rfl, ?hyb7⟩) (by assumption) ?restb7
        case hyb7 => (intro u hu; obtain ⟨_, _, _, _, _, _, _⟩ := hu; go_simp; try with_reducible rfl)
        try simp only [Act.put, List.setIfInBounds_toArray, List.set_cons_zero, List.set_cons_succ, List.getElem_toArray, List.getElem_cons_zero, List.getElem_cons_succ]
        refine wpAnyH_take (i := 8) (v := ?vb8) rfl (by kernel_rfl) (by kernel_rfl) (by kernel_rfl) (fun _ _ _ h => h) (Or.inl ⟨by rfl, ?hyb8⟩) (by assumption) ?restb8
        case hyb8 => (intro u hu; obtain ⟨_, _, _, _, _, _, _⟩ := hu; go_simp; try with_reducible rfl)
        try simp only [Act.put, List.setIfInBounds_toArray, List.set_cons_zero, List.set_cons_succ, List.getElem_toArray, List.getElem_cons_zero, List.getElem_cons_succ]
        refine wpAnyH_take (i := 10) (v := ?vb10) rfl (by kernel_rfl) (by kernel_rfl) (by kernel_rfl) (fun _ _ _ h => h) (Or.inl ⟨by rfl, ?hyb10⟩) (by assumption) ?restb10
        case hyb10 => (intro u hu; obtain ⟨_, _, _, _, _, _, _⟩ := hu; go_simp; try with_reducible rfl)
        try simp only [Act.put, List.setIfInBounds_toArray, List.set_cons_zero, List.set_cons_succ, List.getElem_toArray, List.getElem_cons_zero, List.getElem_cons_succ]
        refine wpAnyH_take (i := 11) (v := ?vb11) rfl (by kernel_rfl) (by kernel_rfl) (by kernel_rfl) (fun _ _ _ h => h) (Or.inl ⟨by rfl, ?hyb11⟩) (by assumption) ?restb11
        case hyb11 => (intro u hu; obtain ⟨_, _, _, _, _, _, _⟩ := hu; go_simp; try with_reducible rfl)
        try simp only [Act.put, List.setIfInBounds_toArray, List.set_cons_zero, List.set_cons_succ, List.getElem_toArray, List.getElem_cons_zero, List.getElem_cons_succ]
        refine wpAnyH_take (i := 12) (v := ?vb12) rfl (by kernel_rfl) (by kernel_rfl) (by kernel_rfl) (fun _ _ _ h => h) (Or.inl ⟨by rfl, ?hyb12⟩) (by assumption) ?restb12
        case hyb12 => (intro u hu; obtain ⟨_, _, _, _, _, _, _⟩ := hu; go_simp; try with_reducible rfl)
        try simp only [Act.put, List.setIfInBounds_toArray, List.set_cons_zero, List.set_cons_succ, List.getElem_toArray, List.getElem_cons_zero, List.getElem_cons_succ]
        refine wpAnyH_take (i := 13) (v := ?vb13) rfl (by kernel_rfl) (by kernel_rfl) (by kernel_rfl) (fun _ _ _ h => h) (Or.inl ⟨by rfl, ?hyb13⟩) (by assumption) ?restb13
        case hyb13 => (intro u hu; obtain ⟨_, _, _, _, _, _, _⟩ := hu; go_simp; try with_reducible rfl)
        try simp only [Act.put, List.setIfInBounds_toArray, List.set_cons_zero, List.set_cons_succ, List.getElem_toArray, List.getElem_cons_zero, List.getElem_cons_succ]
        refine wpAnyH_take (i := 14) (v := ?vb14) rfl (by kernel_rfl) (by kernel_rfl) (by kernel_rfl) (fun _ _ _ h => h) (Or.inl ⟨by rfl, ?hyb14⟩) (by assumption) ?restb14
        case hyb14 => (intro u hu; obtain ⟨_, _, _, _, _, _, _⟩ := hu; go_simp; try with_reducible rfl)
        try simp only [Act.put, List.setIfInBounds_toArray, List.set_cons_zero, List.set_cons_succ, List.getElem_toArray, List.getElem_cons_zero, List.getElem_cons_succ]
        refine wpAnyH_take (i := 15) (v := ?vb15) rfl (by kernel_rfl) (by kernel_rfl) (by kernel_rfl) (fun _ _ _ h => h) (Or.inl ⟨by rfl, ?hyb15⟩) (by assumption) ?restb15
        case hyb15 => (intro u hu; obtain ⟨_, _, _, _, _, _, _⟩ := hu; go_simp; try with_reducible rfl)
        try simp only [Act.put, List.setIfInBounds_toArray, List.set_cons_zero, List.set_cons_succ, List.getElem_toArray, List.getElem_cons_zero, List.getElem_cons_succ]
        refine wpAnyH_take (i := 16) (v := ?vb16) rfl (by kernel_rfl) (by kernel_rfl) (by kernel_rfl) (fun _ _ _ h => h) (Or.inl ⟨by rfl, ?hyb16⟩) (by assumption) ?restb16
        case hyb16 => (intro u hu; obtain ⟨_, _, _, _, _, _, _⟩ := hu; go_simp; try with_reducible rfl)
        try simp only [Act.put, List.setIfInBounds_toArray, List.set_cons_zero, List.set_cons_succ, List.getElem_toArray, List.getElem_cons_zero, List.getElem_cons_succ]
        refine wpAnyH_take (i := 17) (v := ?vb17) rfl (by kernel_rfl) (by kernel_rfl) (by kernel_rfl) (fun _ _ _ h => h) (Or.inl ⟨by rfl, ?hyb17⟩) (by assumption) ?restb17
        case hyb17 => (intro u hu; obtain ⟨_, _, _, _, _, _, _⟩ := hu; go_simp; try with_reducible rfl)
        try simp only [Act.put, List.setIfInBounds_toArray, List.set_cons_zero, List.set_cons_succ, List.getElem_toArray, List.getElem_cons_zero, List.getElem_cons_succ]
        refine wpAnyH_take (i := 18) (v := ?vb18) rfl (by kernel_rfl) (by kernel_rfl) (by kernel_rfl) (fun _ _ _ h => h) (Or.inl ⟨by rfl, ?hyb18⟩) (by assumption) ?restb18
        case hyb18 => (intro u hu; obtain ⟨_, _, _, _, _, _, _⟩ := hu; go_simp; try with_reducible rfl)
        try simp only [Act.put, List.setIfInBounds_toArray, List.set_cons_zero, List.set_cons_succ, List.getElem_toArray, List.getElem_cons_zero, List.getElem_cons_succ]
        refine wpAnyH_ready (rs := [9]) (by kernel_rfl) (by simp) ?_
        refine AllReadyH.cons rfl (fun K hK => ?_) AllReadyH.nil
        go_simp
        refine (Ahead_as x y _ hr.out).mono ?_
        rintro e w8 ⟨rfl, hb8⟩
        go_wp2_with fail
        refine hK.out _ _ (HS.out (on2 hHeld.1 hb8)) (fun hHeld2 => ?_)
        clear hK K hHeld
        have hHeld := hHeld2
        clear hHeld2
        try simp only [Act.put, List.setIfInBounds_toArray, List.set_cons_zero, List.set_cons_succ, List.getElem_toArray, List.getElem_cons_zero, List.getElem_cons_succ]
        refine wpAnyH_ready (rs := [19]) (by kernel_rfl) (by simp) ?_
        refine AllReadyH.cons rfl (fun K hK => ?_) AllReadyH.nil
        go_simp
        refine (rAhead_as x y _ hr.out).mono ?_
        rintro e w9 ⟨rfl, hb8⟩
        go_wp2_with fail
        refine hK.out _ _ (HS.out (on2 hHeld.1 hb8)) (fun hHeld2 => ?_)
        clear hK K hHeld
        have hHeld := hHeld2
        clear hHeld2
        try simp only [Act.put, List.setIfInBounds_toArray, List.set_cons_zero, List.set_cons_succ, List.getElem_toArray, List.getElem_cons_zero, List.getElem_cons_succ]
        refine wpAnyH_take (i := 20) (v := ?vb20) rfl (by kernel_rfl) (by kernel_rfl) (by kernel_rfl) (fun _ _ _ h => h) (Or.inl ⟨by rfl, ?hyb20⟩) (by assumption) ?restb20
        case hyb20 => (intro u hu; obtain ⟨_, _, _, _, _, _, _⟩ := hu; go_simp; try with_reducible rfl)
        try simp only [Act.put, List.setIfInBounds_toArray, List.set_cons_zero, List.set_cons_succ, List.getElem_toArray, List.getElem_cons_zero, List.getElem_cons_succ]
        refine wpAnyH_done (by kernel_rfl) ?_ _
        refine NoPanic.normal ?_
        have HB : Hid (Below w.heap.size w w9) := hHeld.1
        clear hHeld
        go_wp2_with fail
        go_roundw
        case rel => exact ⟨j1, .inr (by omega), by have := hj1.out; go_num, HB⟩
        case measure => have := hj1.out; simp [intOf]; omega
      · have hj1i : ¬ (j1 : Int) < (300 : Int) := by omega
        go_wp2_with (go_at_call 22; refine (works_calls _).mono ?_; rintro e w8 ⟨rfl, hb8⟩)
        go_ret
        exact ⟨rfl, on2 hbw.out hb8⟩
theorem walk (a : Option Addr) (cap : Nat) (L : List It) (w : World) (h1 : RowAt encI 3 okI w a L) (h2 : L.length * 32 ≤ 140737488351232) (h3 : a = none → cap = 0) (h4 : L.length ≤ cap) :
    Calls Try.prog 4 #[.slice a L.length cap] w fun e w' => e = .returned (.bool true) ∧ Below w.heap.size w w' :=
  core a L.length cap L w rfl h1 h3 h4 (by omega)

theorem reads (os : Os) {H : Type} (enc : TypeId × Value → H) : ∃ places, DataW.whole enc Try.prog ((World.holding Try.prog os ⟨#[], #[], []⟩).forCall (fun _ _ => 0) ⟨#[], #[.slice none 0 0], []⟩).memory Try.f4.params.toList Rows.heapSortsSpec.vars false #[(.slice none 0 0 : Value)].toList 8 = some ([.nil], [], places) :=
  ⟨[], by kernel_rfl⟩

theorem params_ok : ∀ t ∈ Try.f4.params.toList, Try.prog.readableRec t = true ∧ t < Try.prog.types.size := by
  rw [Try.params4]
  have hall : ([25].all fun u => Try.prog.readableRec u && decide (u < Try.prog.types.size)) = true := by kernel_rfl
  intro t ht
  simpa using List.all_eq_true.1 hall t (by simpa using ht)

set_option maxRecDepth 100000 in
theorem contract (H : Type) (enc : TypeId × Value → H) (W : World) (base : Nat) (args : Array Value) (ds gs : List (DataW H)) (before : List MemPlace)
    (hval : ∀ (j : Nat) t v, Try.f4.params[j]? = some t → args[j]? = some v → Value.okWide Try.prog W .any base t v)
    (hW : DataW.Whole enc Try.prog Try.f4.params.toList Rows.heapSortsSpec.vars false W args.toList ds gs before) (hsz : (DataW.weightsEach Try.prog (Try.f4.params.toList ++ Rows.heapSortsSpec.plain.varTypes Try.prog) (ds ++ gs)).all (· ≤ reachBytes) = true) :
    Calls Try.prog 4 args W fun e W' => ∃ v, e = .returned v ∧ Rows.heapSortsSpec.post enc Try.prog Try.f4 false true false false W args v W' := by
  have hW' := hW
  obtain ⟨p, q, hA0, hV, rfl, hfz, hnd⟩ := hW
  have hA : DataW.TrodAll enc Try.prog W 0 (fun _ => true) true Try.f4.params.toList args.toList ds p := hA0
  rw [Try.params4] at hA hval
  obtain ⟨v0, vs0, d0, ds0, p0, q0, hargs, rfl, rfl, h0, r0⟩ := trodAll_cons hA
  obtain ⟨rfl, rfl, rfl⟩ := trodAll_nil r0
  obtain rfl : args = #[v0] := by cases args; simp_all
  obtain ⟨rfl, rfl⟩ := trodVars_none hV
  have l0 := light_arg hsz (j := 0) (t := 25) (by rw [Try.params4]; rfl) rfl
  obtain ⟨x0, y0, z0, e0⟩ := okWide_slice Try.underlying25 (hval 0 25 v0 rfl rfl)
  subst e0
  obtain ⟨fu0, hf0⟩ := h0
  obtain ⟨a0, L0, c0, e0, at0, b0, g0, o0⟩ := open_items (v := .slice x0 y0 z0) hf0 l0
  obtain ⟨rfl, rfl, rfl⟩ : x0 = a0 ∧ y0 = L0.length ∧ z0 = c0 := by simpa using e0
  refine (walk x0 z0 L0 W at0 b0 g0 o0).mono fun e W' ⟨he, hb⟩ => ?_
  subst he
  exact ⟨_, rfl, law_post laidOut params_ok rfl (tb := 4) (by kernel_rfl) Try.underlying4 rfl hW' hb⟩

set_option maxRecDepth 100000 in
theorem lifted (os : Os) (started : os.Started) (H : Type) (enc : TypeId × Value → H) (F : Stop.Interp) :
    ReturnsInHanded {} Try.checked os 4 .any ((OpenSpec.ofChange Rows.heapSortsSpec).preRow enc Try.prog Try.f4 Rows.heapSortsRow.domain false Rows.heapSortsRow.laid) (((OpenSpec.ofChange Rows.heapSortsSpec).at F).post enc Try.prog Try.f4 false true false false) := by
  obtain ⟨places, hx⟩ := reads os enc
  refine returnsInHanded_of_row (C := Try.checked) (s := (OpenSpec.ofChange Rows.heapSortsSpec)) own started (by kernel_rfl) Try.func4
    (witness_row_at (enc := enc) (C := Try.checked) false (World.holding Try.prog os ⟨#[], #[], []⟩) #[.slice none 0 0] rfl (by kernel_rfl) (by kernel_rfl) (by kernel_rfl)
      (OpenSpec.preRow_of_cond 8 hx (by kernel_rfl) (fun k hk => by cases hk) (by kernel_rfl) ⟨[], rfl, List.Pairwise.nil, fun _ _ h => by cases h⟩)) ?_
  intro W base args ds gs before hval hW _ _ hsz _ _ _
  exact contract H enc W base args ds gs before hval hW hsz

theorem said : Rows.HeapSortsSaid :=
  OpenClaim.holds_of_cond 4 Try.f4 rfl rfl rfl rfl rfl rfl rfl ⟨rfl, rfl, rfl, rfl, rfl⟩ rfl rfl rfl rfl rfl (by kernel_rfl) Try.func4 (by kernel_rfl)
    (of_decide_eq_true (by kernel_rfl)) (by unfold Func.isWrapper; first | (rw [if_pos (by decide +kernel)]; kernel_rfl) | (rw [if_neg (by decide +kernel)]; exact ⟨rfl, rfl⟩))
    (fun os started H enc _ F => by rw [OpenClaim.pre_eq_preRow]; exact lifted os started H enc F)
end Go.Proofs.Ytgncpjplofacfaa.heapSorts
namespace Go.Proofs.Ytgncpjplofacfaa
theorem heapSorts_holds : Rows.HeapSortsSaid := heapSorts.said
end Go.Proofs.Ytgncpjplofacfaa
