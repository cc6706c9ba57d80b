/- taint.isValue, isEffect, isTaint, isBear, Check and CheckBears return what the plain functions say, and change nothing that was there, and its like. No condition beyond what each says. -/
import Derived.Test.YtfbnnfpnjjjfcaaGreatS14
import Derived.Test.YtfbnnfpnjjjfcaaGreatS07
namespace Go.Proofs.YtfbnnfpnjjjfcaaGreat.Tn
set_option maxHeartbeats 16000000
set_option maxRecDepth 100000
open Tryz Go.RowKit List
set_option linter.unusedSimpArgs false
theorem isValue_calls (s : ByteArray) (w : World) : Calls prog 132 #[.string s] w fun e w' => e = .returned (.bool (valB s)) ∧ w' = w := by
 have hw := Word_calls s
 by_cases h0 : s.size = 0
 ·
  have HF : Hid (valB s = true) := by simp [Hid, valB, h0]
  have he := empty_of h0
  go_enter func132, ntmps132
  go_wp2
  go_ret
  exact ⟨retb HF.out.symm, rfl⟩
 ·
  have HF : Hid (valB s = wordB s) := by simp [Hid, valB, h0]
  have he := not_empty_of (s := s) (by omega)
  generalize wordB s = b at hw HF
  go_enter func132, ntmps132
  go_wp2_with (go_at_call 97; refine (hw _).mono ?_; rintro e w' ⟨rfl, rfl⟩)
  go_ret
  exact ⟨retb HF.out.symm, rfl⟩
theorem isEffect_calls (n : Int) (w : World) : Calls prog 131 #[.int .i64 n] w fun e w' => e = .returned (.bool (effB n)) ∧ w' = w := by
 have HF : Hid (effB n = ((n == 1) || (n == 2))) := rfl
 generalize effB n = r at HF ⊢
 cases h1 : (n == 1)
 ·
  rw [h1] at HF
  cases h2 : (n == 2) <;> (
   rw [h2] at HF
   go_enter func131, ntmps131
   go_wp2
   go_ret
   exact ⟨retb HF.out.symm, rfl⟩)
 ·
  rw [h1] at HF
  go_enter func131, ntmps131
  go_wp2
  go_ret
  exact ⟨retb HF.out.symm, rfl⟩
theorem isTaint_calls (x : Tnt) (w : World) : Calls prog 184 #[.agg #[.string x.1, .string x.2.1, .int .i64 x.2.2]] w fun e w' => e = .returned (.bool (taintOk x)) ∧ Below w.heap.size w w' := by
 have hW := Word_calls x.1
 have hV := isValue_calls x.2.1
 have hE := isEffect_calls x.2.2
 have HF : Hid (taintOk x = (wordB x.1 && valB x.2.1 && effB x.2.2)) := rfl
 generalize taintOk x = r at HF ⊢
 generalize wordB x.1 = p at hW HF
 generalize valB x.2.1 = q at hV HF
 generalize effB x.2.2 = s at hE HF
 cases p <;> cases q <;> (
  go_enter func184, ntmps184
  go_wp2_with (first | (go_at_call 97; refine (hW _).mono ?_; rintro e w' ⟨rfl, rfl⟩) | (go_at_call 132; refine (hV _).mono ?_; rintro e w' ⟨rfl, rfl⟩) | (go_at_call 131; refine (hE _).mono ?_; rintro e w' ⟨rfl, rfl⟩))
  go_ret
  exact ⟨retb (by rw [HF.out]; rfl), by go_grown⟩)
theorem isBear_calls (b : Bear) (w : World) : Calls prog 118 #[.agg #[.string b.1, .string b.2.1, .bool b.2.2.1, .int .i64 b.2.2.2]] w fun e w' => e = .returned (.bool (bearOk b)) ∧ Below w.heap.size w w' := by
 obtain ⟨bk, bv, ba, be⟩ := b
 have hW := Word_calls bk
 have hK := isValue_calls bk
 have hV := isValue_calls bv
 have hE := isEffect_calls be
 have HF : Hid (bearOk (bk, bv, ba, be) = ((be == 0 || effB be) && (if ba then valB bk && bv.toList.isEmpty else wordB bk && valB bv))) := rfl
 simp only
 generalize bearOk (bk, bv, ba, be) = r at HF ⊢
 obtain ⟨z, hz⟩ : ∃ z, (be == 0) = z := ⟨_, rfl⟩
 have hz' : (be != 0) = !z := by rw [← hz]; rfl
 obtain ⟨y, hy⟩ : ∃ y, bv.toList.isEmpty = y := ⟨_, rfl⟩
 rw [hz, hy] at HF
 generalize wordB bk = p at hW HF
 generalize valB bk = q at hK HF
 generalize valB bv = v at hV HF
 generalize effB be = s at hE HF
 clear hz
 have hP : (z = false ∧ s = false ∧ r = false) ∨ ((z = true ∨ (z = false ∧ s = true)) ∧ ((ba = true ∧ q = false ∧ r = false) ∨ (ba = true ∧ q = true ∧ r = y) ∨ (ba = false ∧ p = false ∧ r = false) ∨ (ba = false ∧ p = true ∧ r = v))) := by
  have := HF.out
  subst this
  cases z <;> cases s <;> cases ba <;> cases q <;> cases p <;> simp
 clear HF
 rcases hP with ⟨rfl, rfl, rfl⟩ | ⟨rfl | ⟨rfl, rfl⟩, hP⟩
 ·
  simp only [Bool.not_false] at hz'
  go_enter func118, ntmps118
  go_wp2_with (go_at_call 131; refine (hE _).mono ?_; rintro e w' ⟨rfl, rfl⟩)
  go_ret
  exact ⟨rfl, by go_grown⟩
 all_goals (
  simp only [Bool.not_false, Bool.not_true] at hz'
  rcases hP with ⟨rfl, rfl, rfl⟩ | ⟨rfl, rfl, rfl⟩ | ⟨rfl, rfl, rfl⟩ | ⟨rfl, rfl, rfl⟩)
 all_goals (
  go_enter func118, ntmps118
  go_wp2_with fail
  try (refine (hE _).mono ?_; rintro e w1 ⟨rfl, rfl⟩; go_wp2_with fail)
  first | (refine (hK _).mono ?_; rintro e w1 ⟨rfl, rfl⟩) | (refine (hW _).mono ?_; rintro e w1 ⟨rfl, rfl⟩)
  go_wp2_with fail
  try (refine (hV _).mono ?_; rintro e w1 ⟨rfl, rfl⟩; go_wp2_with fail)
  go_ret
  exact ⟨rfl, by go_grown⟩)
def TbS (wB : World) (D : Nat) (x : Tnt) (u : World) : Prop :=
 Below wB.heap.size wB u ∧ u.cell? ⟨D, 0, none⟩ = some (.string x.1) ∧ u.cell? ⟨D, 1, none⟩ = some (.string x.2.1) ∧ u.cell? ⟨D, 2, none⟩ = some (.int .i64 x.2.2)
theorem TbS.to {wB u' : World} {D : Nat} {x : Tnt} (h : BoxT wB D x) (hb : Below wB.heap.size wB u') : TbS wB D x u' := by
 obtain ⟨hD, ⟨h1, h2, h3⟩, _⟩ := h
 exact ⟨hb, (hb.cell hD).trans h1, (hb.cell hD).trans h2, (hb.cell hD).trans h3⟩
theorem Check_calls (a : Option Addr) (cap : Nat) (L : List Tnt) (w : World) (hL : Hid (TntsAt w a L)) (hcap : L.length ≤ cap) : Calls prog 183 #[.slice a L.length cap] w fun e w' => e = .returned (.int .i64 (checkT L)) ∧ Below w.heap.size w w' := by
 by_cases h64 : (64 : Int) < (L.length : Int)
 ·
  have HF : Hid (checkT L = 3) := checkT_long (by omega)
  go_enter func183, ntmps183
  go_wp2
  go_ret
  exact ⟨reti HF.out.symm, Below.refl _ _⟩
 go_enter func183, ntmps183
 go_wp2_with fail
 go_loopw [10] (fun i wr => ∃ k : Nat, k ≤ L.length ∧ i = .int .i64 k ∧ Below w.heap.size w wr ∧ Hid (∀ j, j < k → tOk L j = true)) (fun i _ => L.length - (intOf i).toNat)
 case atStart => exact ⟨0, Nat.zero_le _, rfl, Below.refl _ _, fun j hj => absurd hj (Nat.not_lt_zero _)⟩
 case round =>
  obtain ⟨k, hk, rfl, hbel, hall⟩ := hrel
  by_cases hlt : k < L.length
  ·
   obtain ⟨B, off, rfl, hB, d0, d1, d2, ho⟩ := TntsAt.get (hL.out.on hbel) hlt
   clear ho
   have hT := isTaint_calls (L.getD k default)
   have hT2 : Hid (∀ u : World, Below wr.heap.size wr u → Calls prog 185 #[.slice (some ⟨B, off, none⟩) k cap, .agg #[.string (L.getD k default).1, .string (L.getD k default).2.1, .int .i64 (L.getD k default).2.2]] u fun e w' => e = .returned (.bool (twinB (L.take k) (L.getD k default))) ∧ Below u.heap.size u w') := fun u hu => by
    have := hasTwin_calls (L.getD k default) (some ⟨B, off, none⟩) cap (L.take k) u ((hL.out.on (on2 hbel hu)).take k)
    rw [show (L.take k).length = k by rw [List.length_take]; omega] at this
    exact this
   have hbad : Hid (tOk L k = false → checkT L = 30) := fun h => checkT_bad (by omega) hlt h
   have hgo : Hid (tOk L k = true → ∀ j, j < k + 1 → tOk L j = true) := fun h j hj => by
    rcases Nat.lt_succ_iff_lt_or_eq.1 hj with h' | rfl
    ·
     exact hall.out j h'
    ·
     exact h
   have hok : Hid (tOk L k = (taintOk (L.getD k default) && !twinB (L.take k) (L.getD k default))) := rfl
   clear hall
   have hkc : (k : Int) ≤ (cap : Int) := by omega
   have hk0 : (0 : Int) ≤ (k : Int) := by omega
   have hlt' : (k : Int) < (L.length : Int) := by omega
   have hbx : Below wr.heap.size wr (wr.alloc (.cells #[.string (L.getD k default).1, .string (L.getD k default).2.1, .int .i64 (L.getD k default).2.2] 130)) := by go_grown
   have hD := BoxT.new wr 130 (L.getD k default)
   generalize taintOk (L.getD k default) = p at hT hok
   generalize twinB (L.take k) (L.getD k default) = q at hT2 hok
   generalize L.getD k default = x at d0 d1 d2 hT hT2 hbx hD
   cases p
   ·
    have HF : Hid (checkT L = 30) := hbad.out (by rw [hok.out]; rfl)
    clear hbad hgo hok hT2
    go_wp2_with fail
    generalize hwB : wr.alloc (.cells #[.string x.1, .string x.2.1, .int .i64 x.2.2] 130) = wB at hbx hD
    generalize hDD : wr.heap.size = D at hD
    have HS : Hid (∀ {u : World}, Below wB.heap.size wB u → TbS wB D x u) := fun hb => TbS.to hD hb
    rw [hDD] at hbx
    subst hDD
    refine wp_region_noPanic ?_
    refine wp_region_held_drew (S := TbS wB wr.heap.size x) (by kernel_rfl) (HS.out (Below.refl _ _).drew) (fun hH => ?_)
    refine wpAnyH_take (i := 0) (v := ?va0) rfl (by kernel_rfl) (by kernel_rfl) (by kernel_rfl) (fun _ _ _ h => h) (Or.inl ⟨by rfl, ?hya0⟩) (by assumption) ?resta0
    case hya0 => (intro u hu; obtain ⟨_, _, _, _⟩ := hu; go_simp; try with_reducible rfl)
    try simp only [Act.put, setIfInBounds_toArray, set_cons_zero, set_cons_succ, getElem_toArray, getElem_cons_zero, getElem_cons_succ]
    refine wpAnyH_ready (rs := [1]) (by kernel_rfl) (by simp) ?_
    refine AllReadyH.cons rfl (fun K hK => ?_) AllReadyH.nil
    go_simp
    refine (hT _).mono ?_
    rintro e w1 ⟨rfl, hb1⟩
    go_wp2_with fail
    refine hK.out _ _ (HS.out (on2 hH.1 hb1)) (fun hH2 => ?_)
    clear hK K hH
    have hH := hH2
    clear hH2
    try simp only [Act.put, setIfInBounds_toArray, set_cons_zero, set_cons_succ, getElem_toArray, getElem_cons_zero, getElem_cons_succ]
    refine wpAnyH_take (i := 2) (v := ?va2) rfl (by kernel_rfl) (by kernel_rfl) (by kernel_rfl) (fun _ _ _ h => h) (Or.inl ⟨by rfl, ?hya2⟩) (by assumption) ?resta2
    case hya2 => (intro u hu; obtain ⟨_, _, _, _⟩ := hu; go_simp; try with_reducible rfl)
    try simp only [Act.put, setIfInBounds_toArray, set_cons_zero, set_cons_succ, getElem_toArray, getElem_cons_zero, getElem_cons_succ]
    refine wpAnyH_take (i := 3) (v := ?va3) rfl (by kernel_rfl) (by kernel_rfl) (by kernel_rfl) (fun _ _ _ h => h) (Or.inl ⟨by rfl, ?hya3⟩) (by assumption) ?resta3
    case hya3 => (intro u hu; obtain ⟨_, _, _, _⟩ := hu; go_simp; try with_reducible rfl)
    try simp only [Act.put, setIfInBounds_toArray, set_cons_zero, set_cons_succ, getElem_toArray, getElem_cons_zero, getElem_cons_succ]
    refine wpAnyH_take (i := 4) (v := undef) rfl (by kernel_rfl) (by kernel_rfl) (by kernel_rfl) (fun _ _ _ h => h) (Or.inr ⟨by rfl, rfl⟩) (by assumption) ?_
    try simp only [Act.put, setIfInBounds_toArray, set_cons_zero, set_cons_succ, getElem_toArray, getElem_cons_zero, getElem_cons_succ]
    refine wpAnyH_take (i := 5) (v := undef) rfl (by kernel_rfl) (by kernel_rfl) (by kernel_rfl) (fun _ _ _ h => h) (Or.inr ⟨by rfl, rfl⟩) (by assumption) ?_
    try simp only [Act.put, setIfInBounds_toArray, set_cons_zero, set_cons_succ, getElem_toArray, getElem_cons_zero, getElem_cons_succ]
    refine wpAnyH_take (i := 6) (v := undef) rfl (by kernel_rfl) (by kernel_rfl) (by kernel_rfl) (fun _ _ _ h => h) (Or.inr ⟨by rfl, rfl⟩) (by assumption) ?_
    try simp only [Act.put, setIfInBounds_toArray, set_cons_zero, set_cons_succ, getElem_toArray, getElem_cons_zero, getElem_cons_succ]
    refine wpAnyH_take (i := 7) (v := undef) rfl (by kernel_rfl) (by kernel_rfl) (by kernel_rfl) (fun _ _ _ h => h) (Or.inr ⟨by rfl, rfl⟩) (by assumption) ?_
    try simp only [Act.put, setIfInBounds_toArray, set_cons_zero, set_cons_succ, getElem_toArray, getElem_cons_zero, getElem_cons_succ]
    refine wpAnyH_ready (rs := [8]) (by kernel_rfl) (by simp) ?_
    refine AllReadyH.cons rfl (fun K hK => ?_) AllReadyH.nil
    go_simp
    refine hK.out _ _ hH (fun hH2 => ?_)
    clear hK K hH
    have hH := hH2
    clear hH2
    try simp only [Act.put, setIfInBounds_toArray, set_cons_zero, set_cons_succ, getElem_toArray, getElem_cons_zero, getElem_cons_succ]
    refine wpAnyH_take (i := 9) (v := ?va9) rfl (by kernel_rfl) (by kernel_rfl) (by kernel_rfl) (fun _ _ _ h => h) (Or.inl ⟨by rfl, ?hya9⟩) (by assumption) ?resta9
    case hya9 => (intro u hu; obtain ⟨_, _, _, _⟩ := hu; go_simp; try with_reducible rfl)
    try simp only [Act.put, setIfInBounds_toArray, set_cons_zero, set_cons_succ, getElem_toArray, getElem_cons_zero, getElem_cons_succ]
    refine wpAnyH_done (by kernel_rfl) ?_ _
    refine NoPanic.normal ?_
    go_wp2_with fail
    go_ret
    exact ⟨reti HF.out.symm, on2 hbel (on2 hbx hH.1)⟩
   ·
    cases q
    ·
     have HG : Hid (∀ j, j < k + 1 → tOk L j = true) := hgo.out (by rw [hok.out]; rfl)
     clear hbad hgo hok
     go_wp2_with fail
     generalize hwB : wr.alloc (.cells #[.string x.1, .string x.2.1, .int .i64 x.2.2] 130) = wB at hbx hD
     generalize hDD : wr.heap.size = D at hD
     have HS : Hid (∀ {u : World}, Below wB.heap.size wB u → TbS wB D x u) := fun hb => TbS.to hD hb
     subst hDD
     refine wp_region_noPanic ?_
     refine wp_region_held_drew (S := TbS wB wr.heap.size x) (by kernel_rfl) (HS.out (Below.refl _ _).drew) (fun hH => ?_)
     refine wpAnyH_take (i := 0) (v := ?vb0) rfl (by kernel_rfl) (by kernel_rfl) (by kernel_rfl) (fun _ _ _ h => h) (Or.inl ⟨by rfl, ?hyb0⟩) (by assumption) ?restb0
     case hyb0 => (intro u hu; obtain ⟨_, _, _, _⟩ := hu; go_simp; try with_reducible rfl)
     try simp only [Act.put, setIfInBounds_toArray, set_cons_zero, set_cons_succ, getElem_toArray, getElem_cons_zero, getElem_cons_succ]
     refine wpAnyH_ready (rs := [1]) (by kernel_rfl) (by simp) ?_
     refine AllReadyH.cons rfl (fun K hK => ?_) AllReadyH.nil
     go_simp
     refine (hT _).mono ?_
     rintro e w1 ⟨rfl, hb1⟩
     go_wp2_with fail
     refine hK.out _ _ (HS.out (on2 hH.1 hb1)) (fun hH2 => ?_)
     clear hK K hH
     have hH := hH2
     clear hH2
     try simp only [Act.put, setIfInBounds_toArray, set_cons_zero, set_cons_succ, getElem_toArray, getElem_cons_zero, getElem_cons_succ]
     refine wpAnyH_take (i := 2) (v := ?vb2) rfl (by kernel_rfl) (by kernel_rfl) (by kernel_rfl) (fun _ _ _ h => h) (Or.inl ⟨by rfl, ?hyb2⟩) (by assumption) ?restb2
     case hyb2 => (intro u hu; obtain ⟨_, _, _, _⟩ := hu; go_simp; try with_reducible rfl)
     try simp only [Act.put, setIfInBounds_toArray, set_cons_zero, set_cons_succ, getElem_toArray, getElem_cons_zero, getElem_cons_succ]
     refine wpAnyH_take (i := 3) (v := ?vb3) rfl (by kernel_rfl) (by kernel_rfl) (by kernel_rfl) (fun _ _ _ h => h) (Or.inl ⟨by rfl, ?hyb3⟩) (by assumption) ?restb3
     case hyb3 => (intro u hu; obtain ⟨_, _, _, _⟩ := hu; go_simp; try with_reducible rfl)
     try simp only [Act.put, setIfInBounds_toArray, set_cons_zero, set_cons_succ, getElem_toArray, getElem_cons_zero, getElem_cons_succ]
     refine wpAnyH_take (i := 4) (v := ?vb4) rfl (by kernel_rfl) (by kernel_rfl) (by kernel_rfl) (fun _ _ _ h => h) (Or.inl ⟨by rfl, ?hyb4⟩) (by assumption) ?restb4
     case hyb4 => (intro u hu; obtain ⟨_, _, _, _⟩ := hu; go_simp; try with_reducible rfl)
     try simp only [Act.put, setIfInBounds_toArray, set_cons_zero, set_cons_succ, getElem_toArray, getElem_cons_zero, getElem_cons_succ]
     refine wpAnyH_take (i := 5) (v := ?vb5) rfl (by kernel_rfl) (by kernel_rfl) (by kernel_rfl) (fun _ _ _ h => h) (Or.inl ⟨by rfl, ?hyb5⟩) (by assumption) ?restb5
     case hyb5 => (intro u hu; obtain ⟨_, _, _, _⟩ := hu; go_simp; try with_reducible rfl)
     try simp only [Act.put, setIfInBounds_toArray, set_cons_zero, set_cons_succ, getElem_toArray, getElem_cons_zero, getElem_cons_succ]
     refine wpAnyH_take (i := 6) (v := ?vb6) rfl (by kernel_rfl) (by kernel_rfl) (by kernel_rfl) (fun _ _ _ h => h) (Or.inl ⟨by rfl, ?hyb6⟩) (by assumption) ?restb6
     case hyb6 => (intro u hu; obtain ⟨_, _, _, _⟩ := hu; go_simp; try with_reducible rfl)
     try simp only [Act.put, setIfInBounds_toArray, set_cons_zero, set_cons_succ, getElem_toArray, getElem_cons_zero, getElem_cons_succ]
     refine wpAnyH_take (i := 7) (v := ?vb7) rfl (by kernel_rfl) (by kernel_rfl) (by kernel_rfl) (fun _ _ _ h => h) (Or.inl ⟨by rfl, ?hyb7⟩) (by assumption) ?restb7
     case hyb7 => (intro u hu; obtain ⟨_, _, _, _⟩ := hu; go_simp; try with_reducible rfl)
     try simp only [Act.put, setIfInBounds_toArray, set_cons_zero, set_cons_succ, getElem_toArray, getElem_cons_zero, getElem_cons_succ]
     refine wpAnyH_ready (rs := [8]) (by kernel_rfl) (by simp) ?_
     refine AllReadyH.cons rfl (fun K hK => ?_) AllReadyH.nil
     go_simp
     refine (hT2.out _ (on2 hbx hH.1)).mono ?_
     rintro e w2 ⟨rfl, hb1⟩
     go_wp2_with fail
     refine hK.out _ _ (HS.out (on2 hH.1 hb1)) (fun hH2 => ?_)
     clear hK K hH
     have hH := hH2
     clear hH2
     try simp only [Act.put, setIfInBounds_toArray, set_cons_zero, set_cons_succ, getElem_toArray, getElem_cons_zero, getElem_cons_succ]
     refine wpAnyH_take (i := 9) (v := ?vb9) rfl (by kernel_rfl) (by kernel_rfl) (by kernel_rfl) (fun _ _ _ h => h) (Or.inl ⟨by rfl, ?hyb9⟩) (by assumption) ?restb9
     case hyb9 => (intro u hu; obtain ⟨_, _, _, _⟩ := hu; go_simp; try with_reducible rfl)
     try simp only [Act.put, setIfInBounds_toArray, set_cons_zero, set_cons_succ, getElem_toArray, getElem_cons_zero, getElem_cons_succ]
     refine wpAnyH_done (by kernel_rfl) ?_ _
     refine NoPanic.normal ?_
     go_wp2_with fail
     go_roundw
     case rel => exact ⟨k + 1, by omega, by go_num, on2 hbel (on2 hbx hH.1), HG⟩
     case measure => simp [intOf]; omega
    ·
     have HF : Hid (checkT L = 30) := hbad.out (by rw [hok.out]; rfl)
     clear hbad hgo hok
     go_wp2_with fail
     generalize hwB : wr.alloc (.cells #[.string x.1, .string x.2.1, .int .i64 x.2.2] 130) = wB at hbx hD
     generalize hDD : wr.heap.size = D at hD
     have HS : Hid (∀ {u : World}, Below wB.heap.size wB u → TbS wB D x u) := fun hb => TbS.to hD hb
     subst hDD
     refine wp_region_noPanic ?_
     refine wp_region_held_drew (S := TbS wB wr.heap.size x) (by kernel_rfl) (HS.out (Below.refl _ _).drew) (fun hH => ?_)
     refine wpAnyH_take (i := 0) (v := ?vc0) rfl (by kernel_rfl) (by kernel_rfl) (by kernel_rfl) (fun _ _ _ h => h) (Or.inl ⟨by rfl, ?hyc0⟩) (by assumption) ?restc0
     case hyc0 => (intro u hu; obtain ⟨_, _, _, _⟩ := hu; go_simp; try with_reducible rfl)
     try simp only [Act.put, setIfInBounds_toArray, set_cons_zero, set_cons_succ, getElem_toArray, getElem_cons_zero, getElem_cons_succ]
     refine wpAnyH_ready (rs := [1]) (by kernel_rfl) (by simp) ?_
     refine AllReadyH.cons rfl (fun K hK => ?_) AllReadyH.nil
     go_simp
     refine (hT _).mono ?_
     rintro e w1 ⟨rfl, hb1⟩
     go_wp2_with fail
     refine hK.out _ _ (HS.out (on2 hH.1 hb1)) (fun hH2 => ?_)
     clear hK K hH
     have hH := hH2
     clear hH2
     try simp only [Act.put, setIfInBounds_toArray, set_cons_zero, set_cons_succ, getElem_toArray, getElem_cons_zero, getElem_cons_succ]
     refine wpAnyH_take (i := 2) (v := ?vc2) rfl (by kernel_rfl) (by kernel_rfl) (by kernel_rfl) (fun _ _ _ h => h) (Or.inl ⟨by rfl, ?hyc2⟩) (by assumption) ?restc2
     case hyc2 => (intro u hu; obtain ⟨_, _, _, _⟩ := hu; go_simp; try with_reducible rfl)
     try simp only [Act.put, setIfInBounds_toArray, set_cons_zero, set_cons_succ, getElem_toArray, getElem_cons_zero, getElem_cons_succ]
     refine wpAnyH_take (i := 3) (v := ?vc3) rfl (by kernel_rfl) (by kernel_rfl) (by kernel_rfl) (fun _ _ _ h => h) (Or.inl ⟨by rfl, ?hyc3⟩) (by assumption) ?restc3
     case hyc3 => (intro u hu; obtain ⟨_, _, _, _⟩ := hu; go_simp; try with_reducible rfl)
     try simp only [Act.put, setIfInBounds_toArray, set_cons_zero, set_cons_succ, getElem_toArray, getElem_cons_zero, getElem_cons_succ]
     refine wpAnyH_take (i := 4) (v := ?vc4) rfl (by kernel_rfl) (by kernel_rfl) (by kernel_rfl) (fun _ _ _ h => h) (Or.inl ⟨by rfl, ?hyc4⟩) (by assumption) ?restc4
     case hyc4 => (intro u hu; obtain ⟨_, _, _, _⟩ := hu; go_simp; try with_reducible rfl)
     try simp only [Act.put, setIfInBounds_toArray, set_cons_zero, set_cons_succ, getElem_toArray, getElem_cons_zero, getElem_cons_succ]
     refine wpAnyH_take (i := 5) (v := ?vc5) rfl (by kernel_rfl) (by kernel_rfl) (by kernel_rfl) (fun _ _ _ h => h) (Or.inl ⟨by rfl, ?hyc5⟩) (by assumption) ?restc5
     case hyc5 => (intro u hu; obtain ⟨_, _, _, _⟩ := hu; go_simp; try with_reducible rfl)
     try simp only [Act.put, setIfInBounds_toArray, set_cons_zero, set_cons_succ, getElem_toArray, getElem_cons_zero, getElem_cons_succ]
     refine wpAnyH_take (i := 6) (v := ?vc6) rfl (by kernel_rfl) (by kernel_rfl) (by kernel_rfl) (fun _ _ _ h => h) (Or.inl ⟨by rfl, ?hyc6⟩) (by assumption) ?restc6
     case hyc6 => (intro u hu; obtain ⟨_, _, _, _⟩ := hu; go_simp; try with_reducible rfl)
     try simp only [Act.put, setIfInBounds_toArray, set_cons_zero, set_cons_succ, getElem_toArray, getElem_cons_zero, getElem_cons_succ]
     refine wpAnyH_take (i := 7) (v := ?vc7) rfl (by kernel_rfl) (by kernel_rfl) (by kernel_rfl) (fun _ _ _ h => h) (Or.inl ⟨by rfl, ?hyc7⟩) (by assumption) ?restc7
     case hyc7 => (intro u hu; obtain ⟨_, _, _, _⟩ := hu; go_simp; try with_reducible rfl)
     try simp only [Act.put, setIfInBounds_toArray, set_cons_zero, set_cons_succ, getElem_toArray, getElem_cons_zero, getElem_cons_succ]
     refine wpAnyH_ready (rs := [8]) (by kernel_rfl) (by simp) ?_
     refine AllReadyH.cons rfl (fun K hK => ?_) AllReadyH.nil
     go_simp
     refine (hT2.out _ (on2 hbx hH.1)).mono ?_
     rintro e w2 ⟨rfl, hb1⟩
     go_wp2_with fail
     refine hK.out _ _ (HS.out (on2 hH.1 hb1)) (fun hH2 => ?_)
     clear hK K hH
     have hH := hH2
     clear hH2
     try simp only [Act.put, setIfInBounds_toArray, set_cons_zero, set_cons_succ, getElem_toArray, getElem_cons_zero, getElem_cons_succ]
     refine wpAnyH_take (i := 9) (v := ?vc9) rfl (by kernel_rfl) (by kernel_rfl) (by kernel_rfl) (fun _ _ _ h => h) (Or.inl ⟨by rfl, ?hyc9⟩) (by assumption) ?restc9
     case hyc9 => (intro u hu; obtain ⟨_, _, _, _⟩ := hu; go_simp; try with_reducible rfl)
     try simp only [Act.put, setIfInBounds_toArray, set_cons_zero, set_cons_succ, getElem_toArray, getElem_cons_zero, getElem_cons_succ]
     refine wpAnyH_done (by kernel_rfl) ?_ _
     refine NoPanic.normal ?_
     go_wp2_with fail
     go_ret
     exact ⟨reti HF.out.symm, on2 hbel (on2 hbx hH.1)⟩
  ·
   have HF : Hid (checkT L = 0) := checkT_ok (by omega) (fun j hj => hall.out j (by omega))
   clear hall
   go_wp2_with fail
   go_ret
   exact ⟨reti HF.out.symm, hbel⟩
theorem CheckBears_calls (a : Option Addr) (cap : Nat) (L : List Bear) (w : World) (hL : Hid (BearsAt w a L)) : Calls prog 101 #[.slice a L.length cap] w fun e w' => e = .returned (.int .i64 (checkBr L)) ∧ Below w.heap.size w w' := by
 by_cases h64 : (64 : Int) < (L.length : Int)
 ·
  have HF : Hid (checkBr L = 3) := checkBr_long (by omega)
  go_enter func101, ntmps101
  go_wp2
  go_ret
  exact ⟨reti HF.out.symm, Below.refl _ _⟩
 go_enter func101, ntmps101
 go_wp2_with fail
 go_loopw [10] (fun i wr => ∃ k : Nat, k ≤ L.length ∧ i = .int .i64 k ∧ Below w.heap.size w wr ∧ Hid (∀ j, j < k → bearOk (L.getD j default) = true)) (fun i _ => L.length - (intOf i).toNat)
 case atStart => exact ⟨0, Nat.zero_le _, rfl, Below.refl _ _, fun j hj => absurd hj (Nat.not_lt_zero _)⟩
 case round =>
  obtain ⟨k, hk, rfl, hbel, hall⟩ := hrel
  by_cases hlt : k < L.length
  ·
   obtain ⟨B, off, rfl, hB, d0, d1, d2, d3, ho⟩ := BearsAt.get (hL.out.on hbel) hlt
   clear ho
   have hT := isBear_calls (L.getD k default)
   have hbad : Hid (bearOk (L.getD k default) = false → checkBr L = 30) := fun h => checkBr_bad (by omega) hlt h
   have hgo : Hid (bearOk (L.getD k default) = true → ∀ j, j < k + 1 → bearOk (L.getD j default) = true) := fun h j hj => by
    rcases Nat.lt_succ_iff_lt_or_eq.1 hj with h' | rfl
    ·
     exact hall.out j h'
    ·
     exact h
   clear hall
   have hbx : Below wr.heap.size wr (wr.alloc (.cells #[.string (L.getD k default).1, .string (L.getD k default).2.1, .bool (L.getD k default).2.2.1, .int .i64 (L.getD k default).2.2.2] 128)) := by go_grown
   generalize hx : L.getD k default = x at d0 d1 d2 d3 hT hbad hgo hbx
   clear hx
   cases hp : bearOk x
   ·
    have HF : Hid (checkBr L = 30) := hbad.out hp
    rw [hp] at hT
    clear hbad hgo hp
    go_wp2_with fail
    refine (hT _).mono ?_
    rintro e w1 ⟨rfl, hb1⟩
    go_wp2_with fail
    go_ret
    exact ⟨reti HF.out.symm, on2 hbel (on2 hbx hb1)⟩
   ·
    have HG : Hid (∀ j, j < k + 1 → bearOk (L.getD j default) = true) := hgo.out hp
    rw [hp] at hT
    clear hbad hgo hp
    go_wp2_with fail
    refine (hT _).mono ?_
    rintro e w1 ⟨rfl, hb1⟩
    go_wp2_with fail
    go_roundw
    case rel => exact ⟨k + 1, by omega, by go_num, on2 hbel (on2 hbx hb1), HG⟩
    case measure => simp [intOf]; omega
  ·
   have HF : Hid (checkBr L = 0) := checkBr_ok (by omega) (fun j hj => hall.out j (by omega))
   clear hall
   go_wp2_with fail
   go_ret
   exact ⟨reti HF.out.symm, hbel⟩
end Go.Proofs.YtfbnnfpnjjjfcaaGreat.Tn

namespace Go.Proofs.YtfbnnfpnjjjfcaaGreat
set_option maxHeartbeats 16000000
set_option maxRecDepth 100000
open Tryz Go.RowKit
set_option linter.unusedSimpArgs false
theorem labCheck (a : Option Addr) (n cap : Nat) (A : Where) (L : List Lab) (w : World) (h : SlAt RLabel 2 32 A w a n cap L) : Calls prog 99 #[.slice a n cap] w fun e w' => e = .returned (.int .i64 (checkI L)) ∧ Below w.heap.size w w' := by
 have hn := h.1
 subst hn
 exact LCheck_calls a cap L w (labs_of h)
theorem tntCheck (a : Option Addr) (n cap : Nat) (A : Where) (L : List Tnt) (w : World) (h : SlAt RTaint 3 40 A w a n cap L) : Calls prog 183 #[.slice a n cap] w fun e w' => e = .returned (.int .i64 (Tn.checkT L)) ∧ Below w.heap.size w w' := by
 have hn := h.1
 have hc := h.2.1
 subst hn
 exact Tn.Check_calls a cap L w (tnts_of h) hc
theorem bearCheck (a : Option Addr) (n cap : Nat) (A : Where) (L : List Bear) (w : World) (h : SlAt RBear 4 48 A w a n cap L) : Calls prog 101 #[.slice a n cap] w fun e w' => e = .returned (.int .i64 (Tn.checkBr L)) ∧ Below w.heap.size w w' := by
 have hn := h.1
 subst hn
 exact Tn.CheckBears_calls a cap L w (bears_of h)
theorem itPrefer : (prog.info? 108).map (·.size) = some 2 := by kernel_rfl
def PredPrefer (g : Nat) (lb : Array Value) (p : PreferD → Bool) (w : World) : Prop :=
 ∀ (W : World) (cs : List Value) (x : PreferD), Below w.heap.size w W → RPrefer (fun _ => True) W cs x → Calls prog g (#[.agg cs.toArray] ++ lb) W fun e w' => e = .returned (.bool (p x)) ∧ Below W.heap.size W w'
theorem IndexPrefer_calls (a : Option Addr) (n cap : Nat) (A : Where) (L : List PreferD) (w : World) (hL : Hid (SlAt RPrefer 2 32 A w a n cap L)) (p : PreferD → Bool) (g : Nat) (lb : Array Value) (eg : ∀ args w, (callFunc g args).run prog w = .ok (.enter g args) w) (hp : Hid (PredPrefer g lb p w)) :
  Calls prog 146 #[.slice a n cap, .func (.func g) #[] lb] w fun e w' => ((∃ i : Nat, i < L.length ∧ p (L.getD i default) = true ∧ (∀ j, j < i → p (L.getD j default) = false) ∧ e = .returned (.int .i64 i)) ∨ ((∀ j, j < L.length → p (L.getD j default) = false) ∧ e = .returned (.int .i64 (-1)))) ∧ Below w.heap.size w w' := by
 have hlen := hL.out.len (by decide)
 have HN : Hid (L.length = n) := hL.out.1
 go_enter func146, ntmps146
 go_wp2
 go_loopw [8] (fun i wr => ∃ k : Nat, k ≤ n ∧ i = .int .i64 k ∧ Below w.heap.size w wr ∧ Hid (∀ j, j < k → p (L.getD j default) = false)) (fun i _ => n - (intOf i).toNat)
 case atStart => exact ⟨0, Nat.zero_le _, rfl, Below.refl _ _, fun j hj => absurd hj (Nat.not_lt_zero _)⟩
 case round =>
  obtain ⟨k, hk, rfl, hbel, hall⟩ := hrel
  by_cases hlt : k < n
  ·
   obtain ⟨B, off, rfl, hB, _, cs, hr, hv⟩ := (hL.out.on RPrefer.firm hbel).get hlt
   have HV : Hid (wr.rangeAt B (off + k * 2) cs) := hv
   have hi : (prog.info? 108).map (·.size) = some cs.length := by rw [RPrefer.firm.len hr]; exact itPrefer
   have hcall := hp.out wr cs (L.getD k default) hbel (RPrefer.firm.weak hr (fun _ _ _ => trivial))
   clear hv hr
   have HG : Hid (p (L.getD k default) = false → ∀ j, j < k + 1 → p (L.getD j default) = false) := fun h j hj => by
    rcases Nat.lt_succ_iff_lt_or_eq.1 hj with h' | rfl
    ·
     exact hall.out j h'
    ·
     exact h
   have HF : Hid (p (L.getD k default) = true → ∃ i : Nat, i < L.length ∧ p (L.getD i default) = true ∧ (∀ j, j < i → p (L.getD j default) = false) ∧ Ending.returned (.int .i64 k) = .returned (.int .i64 i)) := fun h => ⟨k, by rw [HN.out]; exact hlt, h, hall.out, rfl⟩
   clear hall
   generalize L.getD k default = x at hcall HG HF
   cases hq : p x
   ·
    have HG' : Hid (∀ j, j < k + 1 → p (L.getD j default) = false) := HG.out hq
    rw [hq] at hcall
    clear HG HF hq
    go_wp2_with (first | (refine wpList_load_mid rfl 108 _ rfl B (off + k * 2) rfl cs _ HV.out underlying108 rfl hi ?_) | fail)
    refine hcall.mono ?_
    rintro e w' ⟨rfl, hb'⟩
    go_wp2_with fail
    go_roundw
    case rel => exact ⟨k + 1, by omega, by go_num, on2 hbel hb', HG'⟩
    case measure => simp [intOf]; omega
   ·
    have HF' := HF.out hq
    have HF2 : Hid (∃ i : Nat, i < L.length ∧ p (L.getD i default) = true ∧ (∀ j, j < i → p (L.getD j default) = false) ∧ Ending.returned (.int .i64 k) = .returned (.int .i64 i)) := HF'
    rw [hq] at hcall
    clear HG HF hq HF'
    go_wp2_with (first | (refine wpList_load_mid rfl 108 _ rfl B (off + k * 2) rfl cs _ HV.out underlying108 rfl hi ?_) | fail)
    refine hcall.mono ?_
    rintro e w' ⟨rfl, hb'⟩
    go_wp2_with fail
    go_ret
    exact ⟨.inl HF2.out, on2 hbel hb'⟩
  ·
   have HA : Hid (∀ j, j < L.length → p (L.getD j default) = false) := fun j hj => hall.out j (by rw [HN.out] at hj; omega)
   clear hall
   go_wp2
   go_ret
   exact ⟨.inr ⟨HA.out, rfl⟩, hbel⟩
theorem ContainsPrefer_calls (a : Option Addr) (n cap : Nat) (A : Where) (L : List PreferD) (w : World) (hL : Hid (SlAt RPrefer 2 32 A w a n cap L)) (p : PreferD → Bool) (g : Nat) (lb : Array Value) (eg : ∀ args w, (callFunc g args).run prog w = .ok (.enter g args) w) (hp : Hid (PredPrefer g lb p w)) :
  Calls prog 134 #[.slice a n cap, .func (.func g) #[] lb] w fun e w' => e = .returned (.bool (L.any p)) ∧ Below w.heap.size w w' := by
 have hI := IndexPrefer_calls a n cap A L w hL p g lb eg hp
 go_enter func134, ntmps134
 go_wp2_with fail
 refine hI.mono ?_
 rintro e w1 ⟨⟨i, hi, hy, _, rfl⟩ | ⟨hn, rfl⟩, hb⟩
 ·
  have HA : Hid (L.any p = true) := any_yes hi hy
  clear hy
  go_wp2_with fail
  go_ret
  exact ⟨retb HA.out.symm, hb⟩
 ·
  have HA : Hid (L.any p = false) := any_no hn
  clear hn
  go_wp2_with fail
  go_ret
  exact ⟨retb HA.out.symm, hb⟩
end Go.Proofs.YtfbnnfpnjjjfcaaGreat

