/- object.allRight and rightItems at Prefer, and its like. No condition beyond what each says. -/
import Derived.Shelf.Abstract
import Derived.Test.YtfbnnfpnjjjfcaaGreatS15
namespace Go.Proofs.YtfbnnfpnjjjfcaaGreat
set_option maxHeartbeats 16000000
set_option maxRecDepth 100000
open Tryz Go.RowKit
set_option linter.unusedSimpArgs false
theorem all1Prefer (g : Nat) (eg : ∀ args w, (callFunc g args).run prog w = .ok (.enter g args) w) (p : PreferD → Bool) (D : Nat) (w : World) (hD : D < w.heap.size) (cD : w.cell? ⟨D, 0, none⟩ = some (.func (.func g) #[] #[])) (hp : Hid (PredPrefer g #[] p w)) : PredPrefer 135 #[.pointer (some ⟨D, 0, none⟩)] (fun x => !p x) w := fun W cs x hb hr0 => by
 have hr : Hid (RPrefer (fun _ => True) W cs x) := hr0
 clear hr0
 have HV : Hid ((W.alloc (.cells cs.toArray 108)).rangeAt W.heap.size 0 cs) := range_all rfl
 have hi : (prog.info? 108).map (·.size) = some cs.length := by rw [RPrefer.firm.len hr.out]; exact itPrefer
 have HB0 : Hid (Below w.heap.size w (W.alloc (.cells cs.toArray 108))) := on2 hb (by go_grown)
 have HBW : Hid (Below W.heap.size W (W.alloc (.cells cs.toArray 108))) := by unfold Hid; go_grown
 have hDW : D < W.heap.size := by have := hb.size; omega
 have hne : D ≠ W.heap.size := by omega
 have d0 := (hb.cell (p := ⟨D, 0, none⟩) hD).trans cD
 have hcall := (hp.out (W.alloc (.cells cs.toArray 108)) cs x HB0.out (RPrefer.firm.kept hr.out (Kept.alloc _ _ _)))
 show Calls prog 135 #[.agg cs.toArray, .pointer (some ⟨D, 0, none⟩)] W fun e w' => e = .returned (.bool (!p x)) ∧ Below W.heap.size W w'
 generalize p x = r at hcall ⊢
 clear cD hb hp
 go_enter func135, ntmps135
 go_wp2_with (first | (refine wpList_load_mid rfl 108 _ rfl W.heap.size 0 rfl cs _ HV.out underlying108 rfl hi ?_) | fail)
 refine hcall.mono ?_
 rintro e w1 ⟨rfl, hb1⟩
 go_wp2_with fail
 go_ret
 exact ⟨rfl, on2 HBW.out hb1⟩
theorem entsPrefer : ∀ args w, (callFunc 135 args).run prog w = .ok (.enter 135 args) w := Go.Proofs.enters_of func135 (by kernel_rfl) rfl
theorem not_anyPrefer (L : List PreferD) (p : PreferD → Bool) : (!L.any (fun x => !p x)) = L.all p := by
 rw [Bool.eq_iff_iff]; simp
theorem allRightPrefer_calls (g : Nat) (eg : ∀ args w, (callFunc g args).run prog w = .ok (.enter g args) w) (a : Option Addr) (n cap : Nat) (A : Where) (L : List PreferD) (p : PreferD → Bool) (w : World) (hL : Hid (SlAt RPrefer 2 32 A w a n cap L)) (hp : Hid (PredPrefer g #[] p w)) : Calls prog 120 #[.slice a n cap, .func (.func g) #[] #[]] w fun e w' => e = .returned (.bool (L.all p)) ∧ Below w.heap.size w w' := by
 have hb0 : Below w.heap.size w (w.alloc (.cells #[.func (.func g) #[] #[]] 196)) := by go_grown
 have hC := ContainsPrefer_calls a n cap A L (w.alloc (.cells #[.func (.func g) #[] #[]] 196)) (hL.out.on RPrefer.firm hb0) (fun x => !p x) 135 #[.pointer (some ⟨w.heap.size, 0, none⟩)] entsPrefer (all1Prefer g eg p w.heap.size _ (by simp) (by simp [go_sem]) (fun W cs x hb hr => hp.out W cs x (on2 hb0 hb) hr))
 have HF := not_anyPrefer L p
 generalize L.any (fun x => !p x) = r at hC HF
 have HF2 : Hid ((!r) = L.all p) := HF
 clear HF hL hp
 go_enter func120, ntmps120
 go_wp2_with fail
 refine hC.mono ?_
 rintro e w1 ⟨rfl, hb1⟩
 go_wp2_with fail
 go_ret
 exact ⟨retb HF2.out, on2 hb0 hb1⟩
theorem itemsPrefer_calls (g : Nat) (eg : ∀ args w, (callFunc g args).run prog w = .ok (.enter g args) w) (a : Option Addr) (n cap : Nat) (A : Where) (L : List PreferD) (p : PreferD → Bool) (w : World) (hL : Hid (SlAt RPrefer 2 32 A w a n cap L)) (hp : Hid (PredPrefer g #[] p w)) : Calls prog 103 #[.slice a n cap, .func (.func g) #[] #[]] w fun e w' => e = .returned (.bool (itemsB p L)) ∧ Below w.heap.size w w' := by
 have hC := allRightPrefer_calls g eg a n cap A L p w hL hp
 have hn := hL.out.1
 by_cases h : (n : Int) ≤ 64
 ·
  have HF : Hid (itemsB p L = L.all p) := by rw [Hid, itemsB, hn]; simp; omega
  generalize L.all p = r at hC HF
  clear hn hL hp
  go_enter func103, ntmps103
  go_wp2_with fail
  refine hC.mono ?_
  rintro e w1 ⟨rfl, hb1⟩
  go_wp2_with fail
  go_ret
  exact ⟨retb HF.out.symm, hb1⟩
 ·
  have HF : Hid (itemsB p L = false) := by rw [Hid, itemsB, hn]; simp; omega
  have h2 : decide ((n : Int) ≤ 64) = false := by simp [h]
  clear hC hn hL hp
  go_enter func103, ntmps103
  go_wp2_with fail
  go_ret
  exact ⟨retb HF.out.symm, Below.refl _ _⟩
theorem itTerm : (prog.info? 171).map (·.size) = some 2 := by kernel_rfl
def PredTerm (g : Nat) (lb : Array Value) (p : TermD → Bool) (w : World) : Prop :=
 ∀ (W : World) (cs : List Value) (x : TermD), Below w.heap.size w W → RTerm (fun _ => True) W cs x → Calls prog g (#[.agg cs.toArray] ++ lb) W fun e w' => e = .returned (.bool (p x)) ∧ Below W.heap.size W w'
theorem IndexTerm_calls (a : Option Addr) (n cap : Nat) (A : Where) (L : List TermD) (w : World) (hL : Hid (SlAt RTerm 2 40 A w a n cap L)) (p : TermD → Bool) (g : Nat) (lb : Array Value) (eg : ∀ args w, (callFunc g args).run prog w = .ok (.enter g args) w) (hp : Hid (PredTerm g lb p w)) :
  Calls prog 148 #[.slice a n cap, .func (.func g) #[] lb] w fun e w' => ((∃ i : Nat, i < L.length ∧ p (L.getD i default) = true ∧ (∀ j, j < i → p (L.getD j default) = false) ∧ e = .returned (.int .i64 i)) ∨ ((∀ j, j < L.length → p (L.getD j default) = false) ∧ e = .returned (.int .i64 (-1)))) ∧ Below w.heap.size w w' := by
 have hlen := hL.out.len (by decide)
 have HN : Hid (L.length = n) := hL.out.1
 go_enter func148, ntmps148
 go_wp2
 go_loopw [8] (fun i wr => ∃ k : Nat, k ≤ n ∧ i = .int .i64 k ∧ Below w.heap.size w wr ∧ Hid (∀ j, j < k → p (L.getD j default) = false)) (fun i _ => n - (intOf i).toNat)
 case atStart => exact ⟨0, Nat.zero_le _, rfl, Below.refl _ _, fun j hj => absurd hj (Nat.not_lt_zero _)⟩
 case round =>
  obtain ⟨k, hk, rfl, hbel, hall⟩ := hrel
  by_cases hlt : k < n
  ·
   obtain ⟨B, off, rfl, hB, _, cs, hr, hv⟩ := (hL.out.on RTerm.firm hbel).get hlt
   have HV : Hid (wr.rangeAt B (off + k * 2) cs) := hv
   have hi : (prog.info? 171).map (·.size) = some cs.length := by rw [RTerm.firm.len hr]; exact itTerm
   have hcall := hp.out wr cs (L.getD k default) hbel (RTerm.firm.weak hr (fun _ _ _ => trivial))
   clear hv hr
   have HG : Hid (p (L.getD k default) = false → ∀ j, j < k + 1 → p (L.getD j default) = false) := fun h j hj => by
    rcases Nat.lt_succ_iff_lt_or_eq.1 hj with h' | rfl
    ·
     exact hall.out j h'
    ·
     exact h
   have HF : Hid (p (L.getD k default) = true → ∃ i : Nat, i < L.length ∧ p (L.getD i default) = true ∧ (∀ j, j < i → p (L.getD j default) = false) ∧ Ending.returned (.int .i64 k) = .returned (.int .i64 i)) := fun h => ⟨k, by rw [HN.out]; exact hlt, h, hall.out, rfl⟩
   clear hall
   generalize L.getD k default = x at hcall HG HF
   cases hq : p x
   ·
    have HG' : Hid (∀ j, j < k + 1 → p (L.getD j default) = false) := HG.out hq
    rw [hq] at hcall
    clear HG HF hq
    go_wp2_with (first | (refine wpList_load_mid rfl 171 _ rfl B (off + k * 2) rfl cs _ HV.out underlying171 rfl hi ?_) | fail)
    refine hcall.mono ?_
    rintro e w' ⟨rfl, hb'⟩
    go_wp2_with fail
    go_roundw
    case rel => exact ⟨k + 1, by omega, by go_num, on2 hbel hb', HG'⟩
    case measure => simp [intOf]; omega
   ·
    have HF' := HF.out hq
    have HF2 : Hid (∃ i : Nat, i < L.length ∧ p (L.getD i default) = true ∧ (∀ j, j < i → p (L.getD j default) = false) ∧ Ending.returned (.int .i64 k) = .returned (.int .i64 i)) := HF'
    rw [hq] at hcall
    clear HG HF hq HF'
    go_wp2_with (first | (refine wpList_load_mid rfl 171 _ rfl B (off + k * 2) rfl cs _ HV.out underlying171 rfl hi ?_) | fail)
    refine hcall.mono ?_
    rintro e w' ⟨rfl, hb'⟩
    go_wp2_with fail
    go_ret
    exact ⟨.inl HF2.out, on2 hbel hb'⟩
  ·
   have HA : Hid (∀ j, j < L.length → p (L.getD j default) = false) := fun j hj => hall.out j (by rw [HN.out] at hj; omega)
   clear hall
   go_wp2
   go_ret
   exact ⟨.inr ⟨HA.out, rfl⟩, hbel⟩
theorem ContainsTerm_calls (a : Option Addr) (n cap : Nat) (A : Where) (L : List TermD) (w : World) (hL : Hid (SlAt RTerm 2 40 A w a n cap L)) (p : TermD → Bool) (g : Nat) (lb : Array Value) (eg : ∀ args w, (callFunc g args).run prog w = .ok (.enter g args) w) (hp : Hid (PredTerm g lb p w)) :
  Calls prog 138 #[.slice a n cap, .func (.func g) #[] lb] w fun e w' => e = .returned (.bool (L.any p)) ∧ Below w.heap.size w w' := by
 have hI := IndexTerm_calls a n cap A L w hL p g lb eg hp
 go_enter func138, ntmps138
 go_wp2_with fail
 refine hI.mono ?_
 rintro e w1 ⟨⟨i, hi, hy, _, rfl⟩ | ⟨hn, rfl⟩, hb⟩
 ·
  have HA : Hid (L.any p = true) := any_yes hi hy
  clear hy
  go_wp2_with fail
  go_ret
  exact ⟨retb HA.out.symm, hb⟩
 ·
  have HA : Hid (L.any p = false) := any_no hn
  clear hn
  go_wp2_with fail
  go_ret
  exact ⟨retb HA.out.symm, hb⟩
theorem all1Term (g : Nat) (eg : ∀ args w, (callFunc g args).run prog w = .ok (.enter g args) w) (p : TermD → Bool) (D : Nat) (w : World) (hD : D < w.heap.size) (cD : w.cell? ⟨D, 0, none⟩ = some (.func (.func g) #[] #[])) (hp : Hid (PredTerm g #[] p w)) : PredTerm 139 #[.pointer (some ⟨D, 0, none⟩)] (fun x => !p x) w := fun W cs x hb hr0 => by
 have hr : Hid (RTerm (fun _ => True) W cs x) := hr0
 clear hr0
 have HV : Hid ((W.alloc (.cells cs.toArray 171)).rangeAt W.heap.size 0 cs) := range_all rfl
 have hi : (prog.info? 171).map (·.size) = some cs.length := by rw [RTerm.firm.len hr.out]; exact itTerm
 have HB0 : Hid (Below w.heap.size w (W.alloc (.cells cs.toArray 171))) := on2 hb (by go_grown)
 have HBW : Hid (Below W.heap.size W (W.alloc (.cells cs.toArray 171))) := by unfold Hid; go_grown
 have hDW : D < W.heap.size := by have := hb.size; omega
 have hne : D ≠ W.heap.size := by omega
 have d0 := (hb.cell (p := ⟨D, 0, none⟩) hD).trans cD
 have hcall := (hp.out (W.alloc (.cells cs.toArray 171)) cs x HB0.out (RTerm.firm.kept hr.out (Kept.alloc _ _ _)))
 show Calls prog 139 #[.agg cs.toArray, .pointer (some ⟨D, 0, none⟩)] W fun e w' => e = .returned (.bool (!p x)) ∧ Below W.heap.size W w'
 generalize p x = r at hcall ⊢
 clear cD hb hp
 go_enter func139, ntmps139
 go_wp2_with (first | (refine wpList_load_mid rfl 171 _ rfl W.heap.size 0 rfl cs _ HV.out underlying171 rfl hi ?_) | fail)
 refine hcall.mono ?_
 rintro e w1 ⟨rfl, hb1⟩
 go_wp2_with fail
 go_ret
 exact ⟨rfl, on2 HBW.out hb1⟩
theorem entsTerm : ∀ args w, (callFunc 139 args).run prog w = .ok (.enter 139 args) w := Go.Proofs.enters_of func139 (by kernel_rfl) rfl
theorem not_anyTerm (L : List TermD) (p : TermD → Bool) : (!L.any (fun x => !p x)) = L.all p := by
 rw [Bool.eq_iff_iff]; simp
theorem allRightTerm_calls (g : Nat) (eg : ∀ args w, (callFunc g args).run prog w = .ok (.enter g args) w) (a : Option Addr) (n cap : Nat) (A : Where) (L : List TermD) (p : TermD → Bool) (w : World) (hL : Hid (SlAt RTerm 2 40 A w a n cap L)) (hp : Hid (PredTerm g #[] p w)) : Calls prog 124 #[.slice a n cap, .func (.func g) #[] #[]] w fun e w' => e = .returned (.bool (L.all p)) ∧ Below w.heap.size w w' := by
 have hb0 : Below w.heap.size w (w.alloc (.cells #[.func (.func g) #[] #[]] 200)) := by go_grown
 have hC := ContainsTerm_calls a n cap A L (w.alloc (.cells #[.func (.func g) #[] #[]] 200)) (hL.out.on RTerm.firm hb0) (fun x => !p x) 139 #[.pointer (some ⟨w.heap.size, 0, none⟩)] entsTerm (all1Term g eg p w.heap.size _ (by simp) (by simp [go_sem]) (fun W cs x hb hr => hp.out W cs x (on2 hb0 hb) hr))
 have HF := not_anyTerm L p
 generalize L.any (fun x => !p x) = r at hC HF
 have HF2 : Hid ((!r) = L.all p) := HF
 clear HF hL hp
 go_enter func124, ntmps124
 go_wp2_with fail
 refine hC.mono ?_
 rintro e w1 ⟨rfl, hb1⟩
 go_wp2_with fail
 go_ret
 exact ⟨retb HF2.out, on2 hb0 hb1⟩
theorem itemsTerm_calls (g : Nat) (eg : ∀ args w, (callFunc g args).run prog w = .ok (.enter g args) w) (a : Option Addr) (n cap : Nat) (A : Where) (L : List TermD) (p : TermD → Bool) (w : World) (hL : Hid (SlAt RTerm 2 40 A w a n cap L)) (hp : Hid (PredTerm g #[] p w)) : Calls prog 108 #[.slice a n cap, .func (.func g) #[] #[]] w fun e w' => e = .returned (.bool (itemsB p L)) ∧ Below w.heap.size w w' := by
 have hC := allRightTerm_calls g eg a n cap A L p w hL hp
 have hn := hL.out.1
 by_cases h : (n : Int) ≤ 64
 ·
  have HF : Hid (itemsB p L = L.all p) := by rw [Hid, itemsB, hn]; simp; omega
  generalize L.all p = r at hC HF
  clear hn hL hp
  go_enter func108, ntmps108
  go_wp2_with fail
  refine hC.mono ?_
  rintro e w1 ⟨rfl, hb1⟩
  go_wp2_with fail
  go_ret
  exact ⟨retb HF.out.symm, hb1⟩
 ·
  have HF : Hid (itemsB p L = false) := by rw [Hid, itemsB, hn]; simp; omega
  have h2 : decide ((n : Int) ≤ 64) = false := by simp [h]
  clear hC hn hL hp
  go_enter func108, ntmps108
  go_wp2_with fail
  go_ret
  exact ⟨retb HF.out.symm, Below.refl _ _⟩
theorem itSpread : (prog.info? 112).map (·.size) = some 4 := by kernel_rfl
def PredSpread (g : Nat) (lb : Array Value) (p : SpreadD → Bool) (w : World) : Prop :=
 ∀ (W : World) (cs : List Value) (x : SpreadD), Below w.heap.size w W → RSpread (fun _ => True) W cs x → Calls prog g (#[.agg cs.toArray] ++ lb) W fun e w' => e = .returned (.bool (p x)) ∧ Below W.heap.size W w'
theorem IndexSpread_calls (a : Option Addr) (n cap : Nat) (A : Where) (L : List SpreadD) (w : World) (hL : Hid (SlAt RSpread 4 56 A w a n cap L)) (p : SpreadD → Bool) (g : Nat) (lb : Array Value) (eg : ∀ args w, (callFunc g args).run prog w = .ok (.enter g args) w) (hp : Hid (PredSpread g lb p w)) :
  Calls prog 149 #[.slice a n cap, .func (.func g) #[] lb] w fun e w' => ((∃ i : Nat, i < L.length ∧ p (L.getD i default) = true ∧ (∀ j, j < i → p (L.getD j default) = false) ∧ e = .returned (.int .i64 i)) ∨ ((∀ j, j < L.length → p (L.getD j default) = false) ∧ e = .returned (.int .i64 (-1)))) ∧ Below w.heap.size w w' := by
 have hlen := hL.out.len (by decide)
 have HN : Hid (L.length = n) := hL.out.1
 go_enter func149, ntmps149
 go_wp2
 go_loopw [8] (fun i wr => ∃ k : Nat, k ≤ n ∧ i = .int .i64 k ∧ Below w.heap.size w wr ∧ Hid (∀ j, j < k → p (L.getD j default) = false)) (fun i _ => n - (intOf i).toNat)
 case atStart => exact ⟨0, Nat.zero_le _, rfl, Below.refl _ _, fun j hj => absurd hj (Nat.not_lt_zero _)⟩
 case round =>
  obtain ⟨k, hk, rfl, hbel, hall⟩ := hrel
  by_cases hlt : k < n
  ·
   obtain ⟨B, off, rfl, hB, _, cs, hr, hv⟩ := (hL.out.on RSpread.firm hbel).get hlt
   have HV : Hid (wr.rangeAt B (off + k * 4) cs) := hv
   have hi : (prog.info? 112).map (·.size) = some cs.length := by rw [RSpread.firm.len hr]; exact itSpread
   have hcall := hp.out wr cs (L.getD k default) hbel (RSpread.firm.weak hr (fun _ _ _ => trivial))
   clear hv hr
   have HG : Hid (p (L.getD k default) = false → ∀ j, j < k + 1 → p (L.getD j default) = false) := fun h j hj => by
    rcases Nat.lt_succ_iff_lt_or_eq.1 hj with h' | rfl
    ·
     exact hall.out j h'
    ·
     exact h
   have HF : Hid (p (L.getD k default) = true → ∃ i : Nat, i < L.length ∧ p (L.getD i default) = true ∧ (∀ j, j < i → p (L.getD j default) = false) ∧ Ending.returned (.int .i64 k) = .returned (.int .i64 i)) := fun h => ⟨k, by rw [HN.out]; exact hlt, h, hall.out, rfl⟩
   clear hall
   generalize L.getD k default = x at hcall HG HF
   cases hq : p x
   ·
    have HG' : Hid (∀ j, j < k + 1 → p (L.getD j default) = false) := HG.out hq
    rw [hq] at hcall
    clear HG HF hq
    go_wp2_with (first | (refine wpList_load_mid rfl 112 _ rfl B (off + k * 4) rfl cs _ HV.out underlying112 rfl hi ?_) | fail)
    refine hcall.mono ?_
    rintro e w' ⟨rfl, hb'⟩
    go_wp2_with fail
    go_roundw
    case rel => exact ⟨k + 1, by omega, by go_num, on2 hbel hb', HG'⟩
    case measure => simp [intOf]; omega
   ·
    have HF' := HF.out hq
    have HF2 : Hid (∃ i : Nat, i < L.length ∧ p (L.getD i default) = true ∧ (∀ j, j < i → p (L.getD j default) = false) ∧ Ending.returned (.int .i64 k) = .returned (.int .i64 i)) := HF'
    rw [hq] at hcall
    clear HG HF hq HF'
    go_wp2_with (first | (refine wpList_load_mid rfl 112 _ rfl B (off + k * 4) rfl cs _ HV.out underlying112 rfl hi ?_) | fail)
    refine hcall.mono ?_
    rintro e w' ⟨rfl, hb'⟩
    go_wp2_with fail
    go_ret
    exact ⟨.inl HF2.out, on2 hbel hb'⟩
  ·
   have HA : Hid (∀ j, j < L.length → p (L.getD j default) = false) := fun j hj => hall.out j (by rw [HN.out] at hj; omega)
   clear hall
   go_wp2
   go_ret
   exact ⟨.inr ⟨HA.out, rfl⟩, hbel⟩
theorem ContainsSpread_calls (a : Option Addr) (n cap : Nat) (A : Where) (L : List SpreadD) (w : World) (hL : Hid (SlAt RSpread 4 56 A w a n cap L)) (p : SpreadD → Bool) (g : Nat) (lb : Array Value) (eg : ∀ args w, (callFunc g args).run prog w = .ok (.enter g args) w) (hp : Hid (PredSpread g lb p w)) :
  Calls prog 140 #[.slice a n cap, .func (.func g) #[] lb] w fun e w' => e = .returned (.bool (L.any p)) ∧ Below w.heap.size w w' := by
 have hI := IndexSpread_calls a n cap A L w hL p g lb eg hp
 go_enter func140, ntmps140
 go_wp2_with fail
 refine hI.mono ?_
 rintro e w1 ⟨⟨i, hi, hy, _, rfl⟩ | ⟨hn, rfl⟩, hb⟩
 ·
  have HA : Hid (L.any p = true) := any_yes hi hy
  clear hy
  go_wp2_with fail
  go_ret
  exact ⟨retb HA.out.symm, hb⟩
 ·
  have HA : Hid (L.any p = false) := any_no hn
  clear hn
  go_wp2_with fail
  go_ret
  exact ⟨retb HA.out.symm, hb⟩
theorem all1Spread (g : Nat) (eg : ∀ args w, (callFunc g args).run prog w = .ok (.enter g args) w) (p : SpreadD → Bool) (D : Nat) (w : World) (hD : D < w.heap.size) (cD : w.cell? ⟨D, 0, none⟩ = some (.func (.func g) #[] #[])) (hp : Hid (PredSpread g #[] p w)) : PredSpread 141 #[.pointer (some ⟨D, 0, none⟩)] (fun x => !p x) w := fun W cs x hb hr0 => by
 have hr : Hid (RSpread (fun _ => True) W cs x) := hr0
 clear hr0
 have HV : Hid ((W.alloc (.cells cs.toArray 112)).rangeAt W.heap.size 0 cs) := range_all rfl
 have hi : (prog.info? 112).map (·.size) = some cs.length := by rw [RSpread.firm.len hr.out]; exact itSpread
 have HB0 : Hid (Below w.heap.size w (W.alloc (.cells cs.toArray 112))) := on2 hb (by go_grown)
 have HBW : Hid (Below W.heap.size W (W.alloc (.cells cs.toArray 112))) := by unfold Hid; go_grown
 have hDW : D < W.heap.size := by have := hb.size; omega
 have hne : D ≠ W.heap.size := by omega
 have d0 := (hb.cell (p := ⟨D, 0, none⟩) hD).trans cD
 have hcall := (hp.out (W.alloc (.cells cs.toArray 112)) cs x HB0.out (RSpread.firm.kept hr.out (Kept.alloc _ _ _)))
 show Calls prog 141 #[.agg cs.toArray, .pointer (some ⟨D, 0, none⟩)] W fun e w' => e = .returned (.bool (!p x)) ∧ Below W.heap.size W w'
 generalize p x = r at hcall ⊢
 clear cD hb hp
 go_enter func141, ntmps141
 go_wp2_with (first | (refine wpList_load_mid rfl 112 _ rfl W.heap.size 0 rfl cs _ HV.out underlying112 rfl hi ?_) | fail)
 refine hcall.mono ?_
 rintro e w1 ⟨rfl, hb1⟩
 go_wp2_with fail
 go_ret
 exact ⟨rfl, on2 HBW.out hb1⟩
theorem entsSpread : ∀ args w, (callFunc 141 args).run prog w = .ok (.enter 141 args) w := Go.Proofs.enters_of func141 (by kernel_rfl) rfl
theorem not_anySpread (L : List SpreadD) (p : SpreadD → Bool) : (!L.any (fun x => !p x)) = L.all p := by
 rw [Bool.eq_iff_iff]; simp
theorem allRightSpread_calls (g : Nat) (eg : ∀ args w, (callFunc g args).run prog w = .ok (.enter g args) w) (a : Option Addr) (n cap : Nat) (A : Where) (L : List SpreadD) (p : SpreadD → Bool) (w : World) (hL : Hid (SlAt RSpread 4 56 A w a n cap L)) (hp : Hid (PredSpread g #[] p w)) : Calls prog 125 #[.slice a n cap, .func (.func g) #[] #[]] w fun e w' => e = .returned (.bool (L.all p)) ∧ Below w.heap.size w w' := by
 have hb0 : Below w.heap.size w (w.alloc (.cells #[.func (.func g) #[] #[]] 202)) := by go_grown
 have hC := ContainsSpread_calls a n cap A L (w.alloc (.cells #[.func (.func g) #[] #[]] 202)) (hL.out.on RSpread.firm hb0) (fun x => !p x) 141 #[.pointer (some ⟨w.heap.size, 0, none⟩)] entsSpread (all1Spread g eg p w.heap.size _ (by simp) (by simp [go_sem]) (fun W cs x hb hr => hp.out W cs x (on2 hb0 hb) hr))
 have HF := not_anySpread L p
 generalize L.any (fun x => !p x) = r at hC HF
 have HF2 : Hid ((!r) = L.all p) := HF
 clear HF hL hp
 go_enter func125, ntmps125
 go_wp2_with fail
 refine hC.mono ?_
 rintro e w1 ⟨rfl, hb1⟩
 go_wp2_with fail
 go_ret
 exact ⟨retb HF2.out, on2 hb0 hb1⟩
theorem itemsSpread_calls (g : Nat) (eg : ∀ args w, (callFunc g args).run prog w = .ok (.enter g args) w) (a : Option Addr) (n cap : Nat) (A : Where) (L : List SpreadD) (p : SpreadD → Bool) (w : World) (hL : Hid (SlAt RSpread 4 56 A w a n cap L)) (hp : Hid (PredSpread g #[] p w)) : Calls prog 110 #[.slice a n cap, .func (.func g) #[] #[]] w fun e w' => e = .returned (.bool (itemsB p L)) ∧ Below w.heap.size w w' := by
 have hC := allRightSpread_calls g eg a n cap A L p w hL hp
 have hn := hL.out.1
 by_cases h : (n : Int) ≤ 64
 ·
  have HF : Hid (itemsB p L = L.all p) := by rw [Hid, itemsB, hn]; simp; omega
  generalize L.all p = r at hC HF
  clear hn hL hp
  go_enter func110, ntmps110
  go_wp2_with fail
  refine hC.mono ?_
  rintro e w1 ⟨rfl, hb1⟩
  go_wp2_with fail
  go_ret
  exact ⟨retb HF.out.symm, hb1⟩
 ·
  have HF : Hid (itemsB p L = false) := by rw [Hid, itemsB, hn]; simp; omega
  have h2 : decide ((n : Int) ≤ 64) = false := by simp [h]
  clear hC hn hL hp
  go_enter func110, ntmps110
  go_wp2_with fail
  go_ret
  exact ⟨retb HF.out.symm, Below.refl _ _⟩
def Predint (g : Nat) (lb : Array Value) (p : Int → Bool) (w : World) : Prop :=
 ∀ (W : World) (cs : List Value) (x : Int), Below w.heap.size w W → RInt (fun _ => True) W cs x → Calls prog g (#[.int .i64 x] ++ lb) W fun e w' => e = .returned (.bool (p x)) ∧ Below W.heap.size W w'
theorem Indexint_calls (a : Option Addr) (n cap : Nat) (A : Where) (L : List Int) (w : World) (hL : Hid (SlAt RInt 1 8 A w a n cap L)) (p : Int → Bool) (g : Nat) (lb : Array Value) (eg : ∀ args w, (callFunc g args).run prog w = .ok (.enter g args) w) (hp : Hid (Predint g lb p w)) :
  Calls prog 147 #[.slice a n cap, .func (.func g) #[] lb] w fun e w' => ((∃ i : Nat, i < L.length ∧ p (L.getD i default) = true ∧ (∀ j, j < i → p (L.getD j default) = false) ∧ e = .returned (.int .i64 i)) ∨ ((∀ j, j < L.length → p (L.getD j default) = false) ∧ e = .returned (.int .i64 (-1)))) ∧ Below w.heap.size w w' := by
 have hlen := hL.out.len (by decide)
 have HN : Hid (L.length = n) := hL.out.1
 go_enter func147, ntmps147
 go_wp2
 go_loopw [8] (fun i wr => ∃ k : Nat, k ≤ n ∧ i = .int .i64 k ∧ Below w.heap.size w wr ∧ Hid (∀ j, j < k → p (L.getD j default) = false)) (fun i _ => n - (intOf i).toNat)
 case atStart => exact ⟨0, Nat.zero_le _, rfl, Below.refl _ _, fun j hj => absurd hj (Nat.not_lt_zero _)⟩
 case round =>
  obtain ⟨k, hk, rfl, hbel, hall⟩ := hrel
  by_cases hlt : k < n
  ·
   obtain ⟨B, off, rfl, hB, _, cs, hr, hv⟩ := (hL.out.on RInt.firm hbel).get hlt
   obtain rfl : cs = [.int .i64 (L.getD k default)] := by first | exact hr | exact hr.1
   have hv0 := hv 0 _ rfl
   rw [Nat.add_zero, Nat.mul_one] at hv0
   have hcall := hp.out wr [.int .i64 (L.getD k default)] (L.getD k default) hbel (RInt.firm.weak hr (fun _ _ _ => trivial))
   clear hv hr
   have HG : Hid (p (L.getD k default) = false → ∀ j, j < k + 1 → p (L.getD j default) = false) := fun h j hj => by
    rcases Nat.lt_succ_iff_lt_or_eq.1 hj with h' | rfl
    ·
     exact hall.out j h'
    ·
     exact h
   have HF : Hid (p (L.getD k default) = true → ∃ i : Nat, i < L.length ∧ p (L.getD i default) = true ∧ (∀ j, j < i → p (L.getD j default) = false) ∧ Ending.returned (.int .i64 k) = .returned (.int .i64 i)) := fun h => ⟨k, by rw [HN.out]; exact hlt, h, hall.out, rfl⟩
   clear hall
   generalize L.getD k default = x at hv0 hcall HG HF
   cases hq : p x
   ·
    have HG' : Hid (∀ j, j < k + 1 → p (L.getD j default) = false) := HG.out hq
    rw [hq] at hcall
    clear HG HF hq
    go_wp2_with fail
    refine hcall.mono ?_
    rintro e w' ⟨rfl, hb'⟩
    go_wp2_with fail
    go_roundw
    case rel => exact ⟨k + 1, by omega, by go_num, on2 hbel hb', HG'⟩
    case measure => simp [intOf]; omega
   ·
    have HF' := HF.out hq
    have HF2 : Hid (∃ i : Nat, i < L.length ∧ p (L.getD i default) = true ∧ (∀ j, j < i → p (L.getD j default) = false) ∧ Ending.returned (.int .i64 k) = .returned (.int .i64 i)) := HF'
    rw [hq] at hcall
    clear HG HF hq HF'
    go_wp2_with fail
    refine hcall.mono ?_
    rintro e w' ⟨rfl, hb'⟩
    go_wp2_with fail
    go_ret
    exact ⟨.inl HF2.out, on2 hbel hb'⟩
  ·
   have HA : Hid (∀ j, j < L.length → p (L.getD j default) = false) := fun j hj => hall.out j (by rw [HN.out] at hj; omega)
   clear hall
   go_wp2
   go_ret
   exact ⟨.inr ⟨HA.out, rfl⟩, hbel⟩
theorem Containsint_calls (a : Option Addr) (n cap : Nat) (A : Where) (L : List Int) (w : World) (hL : Hid (SlAt RInt 1 8 A w a n cap L)) (p : Int → Bool) (g : Nat) (lb : Array Value) (eg : ∀ args w, (callFunc g args).run prog w = .ok (.enter g args) w) (hp : Hid (Predint g lb p w)) :
  Calls prog 136 #[.slice a n cap, .func (.func g) #[] lb] w fun e w' => e = .returned (.bool (L.any p)) ∧ Below w.heap.size w w' := by
 have hI := Indexint_calls a n cap A L w hL p g lb eg hp
 go_enter func136, ntmps136
 go_wp2_with fail
 refine hI.mono ?_
 rintro e w1 ⟨⟨i, hi, hy, _, rfl⟩ | ⟨hn, rfl⟩, hb⟩
 ·
  have HA : Hid (L.any p = true) := any_yes hi hy
  clear hy
  go_wp2_with fail
  go_ret
  exact ⟨retb HA.out.symm, hb⟩
 ·
  have HA : Hid (L.any p = false) := any_no hn
  clear hn
  go_wp2_with fail
  go_ret
  exact ⟨retb HA.out.symm, hb⟩
theorem all1int (g : Nat) (eg : ∀ args w, (callFunc g args).run prog w = .ok (.enter g args) w) (p : Int → Bool) (D : Nat) (w : World) (hD : D < w.heap.size) (cD : w.cell? ⟨D, 0, none⟩ = some (.func (.func g) #[] #[])) (hp : Hid (Predint g #[] p w)) : Predint 137 #[.pointer (some ⟨D, 0, none⟩)] (fun x => !p x) w := fun W cs x hb hr => by
 have hDW : D < W.heap.size := by have := hb.size; omega
 have d0 := (hb.cell (p := ⟨D, 0, none⟩) hD).trans cD
 have hcall := hp.out W cs x hb hr
 show Calls prog 137 #[.int .i64 x, .pointer (some ⟨D, 0, none⟩)] W fun e w' => e = .returned (.bool (!p x)) ∧ Below W.heap.size W w'
 generalize p x = r at hcall ⊢
 clear cD hp hb
 go_enter func137, ntmps137
 go_wp2_with fail
 refine hcall.mono ?_
 rintro e w1 ⟨rfl, hb1⟩
 go_wp2_with fail
 go_ret
 exact ⟨rfl, hb1⟩
theorem entsint : ∀ args w, (callFunc 137 args).run prog w = .ok (.enter 137 args) w := Go.Proofs.enters_of func137 (by kernel_rfl) rfl
theorem not_anyint (L : List Int) (p : Int → Bool) : (!L.any (fun x => !p x)) = L.all p := by
 rw [Bool.eq_iff_iff]; simp
theorem allRightint_calls (g : Nat) (eg : ∀ args w, (callFunc g args).run prog w = .ok (.enter g args) w) (a : Option Addr) (n cap : Nat) (A : Where) (L : List Int) (p : Int → Bool) (w : World) (hL : Hid (SlAt RInt 1 8 A w a n cap L)) (hp : Hid (Predint g #[] p w)) : Calls prog 121 #[.slice a n cap, .func (.func g) #[] #[]] w fun e w' => e = .returned (.bool (L.all p)) ∧ Below w.heap.size w w' := by
 have hb0 : Below w.heap.size w (w.alloc (.cells #[.func (.func g) #[] #[]] 121)) := by go_grown
 have hC := Containsint_calls a n cap A L (w.alloc (.cells #[.func (.func g) #[] #[]] 121)) (hL.out.on RInt.firm hb0) (fun x => !p x) 137 #[.pointer (some ⟨w.heap.size, 0, none⟩)] entsint (all1int g eg p w.heap.size _ (by simp) (by simp [go_sem]) (fun W cs x hb hr => hp.out W cs x (on2 hb0 hb) hr))
 have HF := not_anyint L p
 generalize L.any (fun x => !p x) = r at hC HF
 have HF2 : Hid ((!r) = L.all p) := HF
 clear HF hL hp
 go_enter func121, ntmps121
 go_wp2_with fail
 refine hC.mono ?_
 rintro e w1 ⟨rfl, hb1⟩
 go_wp2_with fail
 go_ret
 exact ⟨retb HF2.out, on2 hb0 hb1⟩
theorem itemsint_calls (g : Nat) (eg : ∀ args w, (callFunc g args).run prog w = .ok (.enter g args) w) (a : Option Addr) (n cap : Nat) (A : Where) (L : List Int) (p : Int → Bool) (w : World) (hL : Hid (SlAt RInt 1 8 A w a n cap L)) (hp : Hid (Predint g #[] p w)) : Calls prog 105 #[.slice a n cap, .func (.func g) #[] #[]] w fun e w' => e = .returned (.bool (itemsB p L)) ∧ Below w.heap.size w w' := by
 have hC := allRightint_calls g eg a n cap A L p w hL hp
 have hn := hL.out.1
 by_cases h : (n : Int) ≤ 64
 ·
  have HF : Hid (itemsB p L = L.all p) := by rw [Hid, itemsB, hn]; simp; omega
  generalize L.all p = r at hC HF
  clear hn hL hp
  go_enter func105, ntmps105
  go_wp2_with fail
  refine hC.mono ?_
  rintro e w1 ⟨rfl, hb1⟩
  go_wp2_with fail
  go_ret
  exact ⟨retb HF.out.symm, hb1⟩
 ·
  have HF : Hid (itemsB p L = false) := by rw [Hid, itemsB, hn]; simp; omega
  have h2 : decide ((n : Int) ≤ 64) = false := by simp [h]
  clear hC hn hL hp
  go_enter func105, ntmps105
  go_wp2_with fail
  go_ret
  exact ⟨retb HF.out.symm, Below.refl _ _⟩
end Go.Proofs.YtfbnnfpnjjjfcaaGreat

