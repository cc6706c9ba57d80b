/- slices.IndexFunc and ContainsFunc at int, with whatever function is handed in, and its like. No condition beyond what each says. -/
import Derived.Shelf.Abstract
import Derived.Laws.Cover1
import Derived.Test.YtikncmcceeacmaaGreatQ08
namespace Go.Proofs.YtikncmcceeacmaaGreat
set_option maxHeartbeats 16000000
set_option maxRecDepth 100000
open Tryz Go.RowKit
set_option linter.unusedSimpArgs false
def Predint (g : Nat) (lb : Array Value) (p : Int → Bool) (w : World) : Prop :=
 ∀ (W : World) (cs : List Value) (x : Int), Below w.heap.size w W → RInt (fun _ => True) W cs x → Calls prog g (#[.int .i64 x] ++ lb) W fun e w' => e = .returned (.bool (p x)) ∧ Below W.heap.size W w'
theorem Indexint_calls (a : Option Addr) (n cap : Nat) (A : Where) (L : List Int) (w : World) (hL : Hid (SlAt RInt 1 8 A w a n cap L)) (p : Int → Bool) (g : Nat) (lb : Array Value) (eg : ∀ args w, (callFunc g args).run prog w = .ok (.enter g args) w) (hp : Hid (Predint g lb p w)) :
  Calls prog 147 #[.slice a n cap, .func (.func g) #[] lb] w fun e w' => ((∃ i : Nat, i < L.length ∧ p (L.getD i default) = true ∧ (∀ j, j < i → p (L.getD j default) = false) ∧ e = .returned (.int .i64 i)) ∨ ((∀ j, j < L.length → p (L.getD j default) = false) ∧ e = .returned (.int .i64 (-1)))) ∧ Below w.heap.size w w' := by
 have hlen := hL.out.len (by decide)
 have HN : Hid (L.length = n) := hL.out.1
 go_enter func147, ntmps147
 go_wp2
 go_loopw [8] (fun i wr => ∃ k : Nat, k ≤ n ∧ i = .int .i64 k ∧ Below w.heap.size w wr ∧ Hid (∀ j, j < k → p (L.getD j default) = false)) (fun i _ => n - (intOf i).toNat)
 case atStart => exact ⟨0, Nat.zero_le _, rfl, Below.refl _ _, fun j hj => absurd hj (Nat.not_lt_zero _)⟩
 case round =>
  obtain ⟨k, hk, rfl, hbel, hall⟩ := hrel
  by_cases hlt : k < n
  ·
   obtain ⟨B, off, rfl, hB, _, cs, hr, hv⟩ := (hL.out.on RInt.firm hbel).get hlt
   obtain rfl : cs = [.int .i64 (L.getD k default)] := by first | exact hr | exact hr.1
   have hv0 := hv 0 _ rfl
   rw [Nat.add_zero, Nat.mul_one] at hv0
   have hcall := hp.out wr [.int .i64 (L.getD k default)] (L.getD k default) hbel (RInt.firm.weak hr (fun _ _ _ => trivial))
   clear hv hr
   have HG : Hid (p (L.getD k default) = false → ∀ j, j < k + 1 → p (L.getD j default) = false) := fun h j hj => by
    rcases Nat.lt_succ_iff_lt_or_eq.1 hj with h' | rfl
    ·
     exact hall.out j h'
    ·
     exact h
   have HF : Hid (p (L.getD k default) = true → ∃ i : Nat, i < L.length ∧ p (L.getD i default) = true ∧ (∀ j, j < i → p (L.getD j default) = false) ∧ Ending.returned (.int .i64 k) = .returned (.int .i64 i)) := fun h => ⟨k, by rw [HN.out]; exact hlt, h, hall.out, rfl⟩
   clear hall
   generalize L.getD k default = x at hv0 hcall HG HF
   cases hq : p x
   ·
    have HG' : Hid (∀ j, j < k + 1 → p (L.getD j default) = false) := HG.out hq
    rw [hq] at hcall
    clear HG HF hq
    go_wp2_with fail
    refine hcall.mono ?_
    rintro e w' ⟨rfl, hb'⟩
    go_wp2_with fail
    go_roundw
    case rel => exact ⟨k + 1, by omega, by go_num, on2 hbel hb', HG'⟩
    case measure => simp [intOf]; omega
   ·
    have HF' := HF.out hq
    have HF2 : Hid (∃ i : Nat, i < L.length ∧ p (L.getD i default) = true ∧ (∀ j, j < i → p (L.getD j default) = false) ∧ Ending.returned (.int .i64 k) = .returned (.int .i64 i)) := HF'
    rw [hq] at hcall
    clear HG HF hq HF'
    go_wp2_with fail
    refine hcall.mono ?_
    rintro e w' ⟨rfl, hb'⟩
    go_wp2_with fail
    go_ret
    exact ⟨.inl HF2.out, on2 hbel hb'⟩
  ·
   have HA : Hid (∀ j, j < L.length → p (L.getD j default) = false) := fun j hj => hall.out j (by rw [HN.out] at hj; omega)
   clear hall
   go_wp2
   go_ret
   exact ⟨.inr ⟨HA.out, rfl⟩, hbel⟩
theorem Containsint_calls (a : Option Addr) (n cap : Nat) (A : Where) (L : List Int) (w : World) (hL : Hid (SlAt RInt 1 8 A w a n cap L)) (p : Int → Bool) (g : Nat) (lb : Array Value) (eg : ∀ args w, (callFunc g args).run prog w = .ok (.enter g args) w) (hp : Hid (Predint g lb p w)) :
  Calls prog 136 #[.slice a n cap, .func (.func g) #[] lb] w fun e w' => e = .returned (.bool (L.any p)) ∧ Below w.heap.size w w' := by
 have hI := Indexint_calls a n cap A L w hL p g lb eg hp
 go_enter func136, ntmps136
 go_wp2_with fail
 refine hI.mono ?_
 rintro e w1 ⟨⟨i, hi, hy, _, rfl⟩ | ⟨hn, rfl⟩, hb⟩
 ·
  have HA : Hid (L.any p = true) := any_yes hi hy
  clear hy
  go_wp2_with fail
  go_ret
  exact ⟨retb HA.out.symm, hb⟩
 ·
  have HA : Hid (L.any p = false) := any_no hn
  clear hn
  go_wp2_with fail
  go_ret
  exact ⟨retb HA.out.symm, hb⟩
theorem all1int (g : Nat) (eg : ∀ args w, (callFunc g args).run prog w = .ok (.enter g args) w) (p : Int → Bool) (D : Nat) (w : World) (hD : D < w.heap.size) (cD : w.cell? ⟨D, 0, none⟩ = some (.func (.func g) #[] #[])) (hp : Hid (Predint g #[] p w)) : Predint 137 #[.pointer (some ⟨D, 0, none⟩)] (fun x => !p x) w := fun W cs x hb hr => by
 have hDW : D < W.heap.size := by have := hb.size; omega
 have d0 := (hb.cell (p := ⟨D, 0, none⟩) hD).trans cD
 have hcall := hp.out W cs x hb hr
 show Calls prog 137 #[.int .i64 x, .pointer (some ⟨D, 0, none⟩)] W fun e w' => e = .returned (.bool (!p x)) ∧ Below W.heap.size W w'
 generalize p x = r at hcall ⊢
 clear cD hp hb
 go_enter func137, ntmps137
 go_wp2_with fail
 refine hcall.mono ?_
 rintro e w1 ⟨rfl, hb1⟩
 go_wp2_with fail
 go_ret
 exact ⟨rfl, hb1⟩
theorem entsint : ∀ args w, (callFunc 137 args).run prog w = .ok (.enter 137 args) w := Go.Proofs.enters_of func137 (by kernel_rfl) rfl
theorem not_anyint (L : List Int) (p : Int → Bool) : (!L.any (fun x => !p x)) = L.all p := by
 rw [Bool.eq_iff_iff]; simp
theorem allRightint_calls (g : Nat) (eg : ∀ args w, (callFunc g args).run prog w = .ok (.enter g args) w) (a : Option Addr) (n cap : Nat) (A : Where) (L : List Int) (p : Int → Bool) (w : World) (hL : Hid (SlAt RInt 1 8 A w a n cap L)) (hp : Hid (Predint g #[] p w)) : Calls prog 121 #[.slice a n cap, .func (.func g) #[] #[]] w fun e w' => e = .returned (.bool (L.all p)) ∧ Below w.heap.size w w' := by
 have hb0 : Below w.heap.size w (w.alloc (.cells #[.func (.func g) #[] #[]] 121)) := by go_grown
 have hC := Containsint_calls a n cap A L (w.alloc (.cells #[.func (.func g) #[] #[]] 121)) (hL.out.on RInt.firm hb0) (fun x => !p x) 137 #[.pointer (some ⟨w.heap.size, 0, none⟩)] entsint (all1int g eg p w.heap.size _ (by simp) (by simp [go_sem]) (fun W cs x hb hr => hp.out W cs x (on2 hb0 hb) hr))
 have HF := not_anyint L p
 generalize L.any (fun x => !p x) = r at hC HF
 have HF2 : Hid ((!r) = L.all p) := HF
 clear HF hL hp
 go_enter func121, ntmps121
 go_wp2_with fail
 refine hC.mono ?_
 rintro e w1 ⟨rfl, hb1⟩
 go_wp2_with fail
 go_ret
 exact ⟨retb HF2.out, on2 hb0 hb1⟩
theorem itemsint_calls (g : Nat) (eg : ∀ args w, (callFunc g args).run prog w = .ok (.enter g args) w) (a : Option Addr) (n cap : Nat) (A : Where) (L : List Int) (p : Int → Bool) (w : World) (hL : Hid (SlAt RInt 1 8 A w a n cap L)) (hp : Hid (Predint g #[] p w)) : Calls prog 105 #[.slice a n cap, .func (.func g) #[] #[]] w fun e w' => e = .returned (.bool (itemsB p L)) ∧ Below w.heap.size w w' := by
 have hC := allRightint_calls g eg a n cap A L p w hL hp
 have hn := hL.out.1
 by_cases h : (n : Int) ≤ 64
 ·
  have HF : Hid (itemsB p L = L.all p) := by rw [Hid, itemsB, hn]; simp; omega
  generalize L.all p = r at hC HF
  clear hn hL hp
  go_enter func105, ntmps105
  go_wp2_with fail
  refine hC.mono ?_
  rintro e w1 ⟨rfl, hb1⟩
  go_wp2_with fail
  go_ret
  exact ⟨retb HF.out.symm, hb1⟩
 ·
  have HF : Hid (itemsB p L = false) := by rw [Hid, itemsB, hn]; simp; omega
  have h2 : decide ((n : Int) ≤ 64) = false := by simp [h]
  clear hC hn hL hp
  go_enter func105, ntmps105
  go_wp2_with fail
  go_ret
  exact ⟨retb HF.out.symm, Below.refl _ _⟩
def Predstring (g : Nat) (lb : Array Value) (p : ByteArray → Bool) (w : World) : Prop :=
 ∀ (W : World) (cs : List Value) (x : ByteArray), Below w.heap.size w W → RStr (fun _ => True) W cs x → Calls prog g (#[.string x] ++ lb) W fun e w' => e = .returned (.bool (p x)) ∧ Below W.heap.size W w'
theorem Indexstring_calls (a : Option Addr) (n cap : Nat) (A : Where) (L : List ByteArray) (w : World) (hL : Hid (SlAt RStr 1 16 A w a n cap L)) (p : ByteArray → Bool) (g : Nat) (lb : Array Value) (eg : ∀ args w, (callFunc g args).run prog w = .ok (.enter g args) w) (hp : Hid (Predstring g lb p w)) :
  Calls prog 150 #[.slice a n cap, .func (.func g) #[] lb] w fun e w' => ((∃ i : Nat, i < L.length ∧ p (L.getD i default) = true ∧ (∀ j, j < i → p (L.getD j default) = false) ∧ e = .returned (.int .i64 i)) ∨ ((∀ j, j < L.length → p (L.getD j default) = false) ∧ e = .returned (.int .i64 (-1)))) ∧ Below w.heap.size w w' := by
 have hlen := hL.out.len (by decide)
 have HN : Hid (L.length = n) := hL.out.1
 go_enter func150, ntmps150
 go_wp2
 go_loopw [8] (fun i wr => ∃ k : Nat, k ≤ n ∧ i = .int .i64 k ∧ Below w.heap.size w wr ∧ Hid (∀ j, j < k → p (L.getD j default) = false)) (fun i _ => n - (intOf i).toNat)
 case atStart => exact ⟨0, Nat.zero_le _, rfl, Below.refl _ _, fun j hj => absurd hj (Nat.not_lt_zero _)⟩
 case round =>
  obtain ⟨k, hk, rfl, hbel, hall⟩ := hrel
  by_cases hlt : k < n
  ·
   obtain ⟨B, off, rfl, hB, _, cs, hr, hv⟩ := (hL.out.on RStr.firm hbel).get hlt
   obtain rfl : cs = [.string (L.getD k default)] := by first | exact hr | exact hr.1
   have hv0 := hv 0 _ rfl
   rw [Nat.add_zero, Nat.mul_one] at hv0
   have hcall := hp.out wr [.string (L.getD k default)] (L.getD k default) hbel (RStr.firm.weak hr (fun _ _ _ => trivial))
   clear hv hr
   have HG : Hid (p (L.getD k default) = false → ∀ j, j < k + 1 → p (L.getD j default) = false) := fun h j hj => by
    rcases Nat.lt_succ_iff_lt_or_eq.1 hj with h' | rfl
    ·
     exact hall.out j h'
    ·
     exact h
   have HF : Hid (p (L.getD k default) = true → ∃ i : Nat, i < L.length ∧ p (L.getD i default) = true ∧ (∀ j, j < i → p (L.getD j default) = false) ∧ Ending.returned (.int .i64 k) = .returned (.int .i64 i)) := fun h => ⟨k, by rw [HN.out]; exact hlt, h, hall.out, rfl⟩
   clear hall
   generalize L.getD k default = x at hv0 hcall HG HF
   cases hq : p x
   ·
    have HG' : Hid (∀ j, j < k + 1 → p (L.getD j default) = false) := HG.out hq
    rw [hq] at hcall
    clear HG HF hq
    go_wp2_with fail
    refine hcall.mono ?_
    rintro e w' ⟨rfl, hb'⟩
    go_wp2_with fail
    go_roundw
    case rel => exact ⟨k + 1, by omega, by go_num, on2 hbel hb', HG'⟩
    case measure => simp [intOf]; omega
   ·
    have HF' := HF.out hq
    have HF2 : Hid (∃ i : Nat, i < L.length ∧ p (L.getD i default) = true ∧ (∀ j, j < i → p (L.getD j default) = false) ∧ Ending.returned (.int .i64 k) = .returned (.int .i64 i)) := HF'
    rw [hq] at hcall
    clear HG HF hq HF'
    go_wp2_with fail
    refine hcall.mono ?_
    rintro e w' ⟨rfl, hb'⟩
    go_wp2_with fail
    go_ret
    exact ⟨.inl HF2.out, on2 hbel hb'⟩
  ·
   have HA : Hid (∀ j, j < L.length → p (L.getD j default) = false) := fun j hj => hall.out j (by rw [HN.out] at hj; omega)
   clear hall
   go_wp2
   go_ret
   exact ⟨.inr ⟨HA.out, rfl⟩, hbel⟩
theorem Containsstring_calls (a : Option Addr) (n cap : Nat) (A : Where) (L : List ByteArray) (w : World) (hL : Hid (SlAt RStr 1 16 A w a n cap L)) (p : ByteArray → Bool) (g : Nat) (lb : Array Value) (eg : ∀ args w, (callFunc g args).run prog w = .ok (.enter g args) w) (hp : Hid (Predstring g lb p w)) :
  Calls prog 142 #[.slice a n cap, .func (.func g) #[] lb] w fun e w' => e = .returned (.bool (L.any p)) ∧ Below w.heap.size w w' := by
 have hI := Indexstring_calls a n cap A L w hL p g lb eg hp
 go_enter func142, ntmps142
 go_wp2_with fail
 refine hI.mono ?_
 rintro e w1 ⟨⟨i, hi, hy, _, rfl⟩ | ⟨hn, rfl⟩, hb⟩
 ·
  have HA : Hid (L.any p = true) := any_yes hi hy
  clear hy
  go_wp2_with fail
  go_ret
  exact ⟨retb HA.out.symm, hb⟩
 ·
  have HA : Hid (L.any p = false) := any_no hn
  clear hn
  go_wp2_with fail
  go_ret
  exact ⟨retb HA.out.symm, hb⟩
theorem all1string (g : Nat) (eg : ∀ args w, (callFunc g args).run prog w = .ok (.enter g args) w) (p : ByteArray → Bool) (D : Nat) (w : World) (hD : D < w.heap.size) (cD : w.cell? ⟨D, 0, none⟩ = some (.func (.func g) #[] #[])) (hp : Hid (Predstring g #[] p w)) : Predstring 143 #[.pointer (some ⟨D, 0, none⟩)] (fun x => !p x) w := fun W cs x hb hr => by
 have hDW : D < W.heap.size := by have := hb.size; omega
 have d0 := (hb.cell (p := ⟨D, 0, none⟩) hD).trans cD
 have hcall := hp.out W cs x hb hr
 show Calls prog 143 #[.string x, .pointer (some ⟨D, 0, none⟩)] W fun e w' => e = .returned (.bool (!p x)) ∧ Below W.heap.size W w'
 generalize p x = r at hcall ⊢
 clear cD hp hb
 go_enter func143, ntmps143
 go_wp2_with fail
 refine hcall.mono ?_
 rintro e w1 ⟨rfl, hb1⟩
 go_wp2_with fail
 go_ret
 exact ⟨rfl, hb1⟩
theorem entsstring : ∀ args w, (callFunc 143 args).run prog w = .ok (.enter 143 args) w := Go.Proofs.enters_of func143 (by kernel_rfl) rfl
theorem not_anystring (L : List ByteArray) (p : ByteArray → Bool) : (!L.any (fun x => !p x)) = L.all p := by
 rw [Bool.eq_iff_iff]; simp
theorem allRightstring_calls (g : Nat) (eg : ∀ args w, (callFunc g args).run prog w = .ok (.enter g args) w) (a : Option Addr) (n cap : Nat) (A : Where) (L : List ByteArray) (p : ByteArray → Bool) (w : World) (hL : Hid (SlAt RStr 1 16 A w a n cap L)) (hp : Hid (Predstring g #[] p w)) : Calls prog 126 #[.slice a n cap, .func (.func g) #[] #[]] w fun e w' => e = .returned (.bool (L.all p)) ∧ Below w.heap.size w w' := by
 have hb0 : Below w.heap.size w (w.alloc (.cells #[.func (.func g) #[] #[]] 91)) := by go_grown
 have hC := Containsstring_calls a n cap A L (w.alloc (.cells #[.func (.func g) #[] #[]] 91)) (hL.out.on RStr.firm hb0) (fun x => !p x) 143 #[.pointer (some ⟨w.heap.size, 0, none⟩)] entsstring (all1string g eg p w.heap.size _ (by simp) (by simp [go_sem]) (fun W cs x hb hr => hp.out W cs x (on2 hb0 hb) hr))
 have HF := not_anystring L p
 generalize L.any (fun x => !p x) = r at hC HF
 have HF2 : Hid ((!r) = L.all p) := HF
 clear HF hL hp
 go_enter func126, ntmps126
 go_wp2_with fail
 refine hC.mono ?_
 rintro e w1 ⟨rfl, hb1⟩
 go_wp2_with fail
 go_ret
 exact ⟨retb HF2.out, on2 hb0 hb1⟩
theorem itemsstring_calls (g : Nat) (eg : ∀ args w, (callFunc g args).run prog w = .ok (.enter g args) w) (a : Option Addr) (n cap : Nat) (A : Where) (L : List ByteArray) (p : ByteArray → Bool) (w : World) (hL : Hid (SlAt RStr 1 16 A w a n cap L)) (hp : Hid (Predstring g #[] p w)) : Calls prog 112 #[.slice a n cap, .func (.func g) #[] #[]] w fun e w' => e = .returned (.bool (itemsB p L)) ∧ Below w.heap.size w w' := by
 have hC := allRightstring_calls g eg a n cap A L p w hL hp
 have hn := hL.out.1
 by_cases h : (n : Int) ≤ 64
 ·
  have HF : Hid (itemsB p L = L.all p) := by rw [Hid, itemsB, hn]; simp; omega
  generalize L.all p = r at hC HF
  clear hn hL hp
  go_enter func112, ntmps112
  go_wp2_with fail
  refine hC.mono ?_
  rintro e w1 ⟨rfl, hb1⟩
  go_wp2_with fail
  go_ret
  exact ⟨retb HF.out.symm, hb1⟩
 ·
  have HF : Hid (itemsB p L = false) := by rw [Hid, itemsB, hn]; simp; omega
  have h2 : decide ((n : Int) ≤ 64) = false := by simp [h]
  clear hC hn hL hp
  go_enter func112, ntmps112
  go_wp2_with fail
  go_ret
  exact ⟨retb HF.out.symm, Below.refl _ _⟩
theorem oneint_calls (x : Int) (w : World) : Calls prog 123 #[.int .i64 x] w fun e w' => e = .returned (.int .i64 x) ∧ Below w.heap.size w w' := by
 go_enter func123, ntmps123
 go_wp2
 go_ret
 exact ⟨rfl, Below.refl _ _⟩
theorem risingint_calls  (a : Option Addr) (n cap : Nat) (A : Where) (L : List Int) (w : World) (hL : Hid (SlAt RInt 1 8 A w a n cap L)) : Calls prog 122 #[.slice a n cap, .func (.func 123) #[] #[]] w fun e w' => e = .returned (.bool (risesBy iLt id L)) ∧ Below w.heap.size w w' := by
 have hlen := hL.out.len (by decide)
 have HN : Hid (L.length = n) := hL.out.1
 go_enter func122, ntmps122
 go_wp2
 go_loopw [5] (fun i wr => ∃ k : Nat, 1 ≤ k ∧ (k ≤ n ∨ k = 1) ∧ i = .int .i64 k ∧ Below w.heap.size w wr ∧ Hid (∀ j, j < k → (decide (j = 0) || iLt (id (L.getD (j - 1) default)) (id (L.getD j default))) = true)) (fun i _ => n - (intOf i).toNat)
 case atStart => exact ⟨1, Nat.le_refl _, .inr rfl, rfl, Below.refl _ _, fun j hj => (by have h0 : j = 0 := (by omega); simp [h0])⟩
 case round =>
  obtain ⟨k, hk1, hk, rfl, hbel, hall⟩ := hrel
  by_cases hlt : k < n
  ·
   obtain ⟨m, hm⟩ : ∃ m, Hid (k = m + 1) := ⟨k - 1, by unfold Hid; omega⟩
   have hme := hm.out
   have hmw : IntKind.i64.wrap ((k : Int) - 1) = (m : Int) := by rw [hme]; simp only [Int.natCast_add, Int.cast_ofNat_Int, Int.add_sub_cancel]; simp [IntKind.wrap, IntKind.bits, IntKind.signed]; omega
   have hml : m < n := by omega
   have hkm : k - 1 = m := by omega
   obtain ⟨B, off, ea, hB, _, ds, hrd, hvd⟩ := (hL.out.on RInt.firm hbel).get hlt
   obtain ⟨B', off', ea', _, _, cs, hrc, hvc⟩ := (hL.out.on RInt.firm hbel).get hml
   rw [ea] at ea'
   obtain ⟨rfl, rfl⟩ : B = B' ∧ off = off' := by simpa using ea'
   subst ea
   have HBW : Hid (B < wr.heap.size) := hB
   have hltz : (k : Int) < (n : Int) := by omega
   have hmlz : (m : Int) < (n : Int) := by omega
   obtain rfl : cs = [.int .i64 (L.getD m default)] := by first | exact hrc | exact hrc.1
   obtain rfl : ds = [.int .i64 (L.getD k default)] := by first | exact hrd | exact hrd.1
   have HC : Hid (wr.cell? ⟨B, off + m, none⟩ = some (.int .i64 (L.getD m default))) := by have := hvc 0 _ rfl; simpa [Hid] using this
   have HD : Hid (wr.cell? ⟨B, off + k, none⟩ = some (.int .i64 (L.getD k default))) := by have := hvd 0 _ rfl; simpa [Hid] using this
   have hbad : Hid (iLt (id (L.getD m default)) (id (L.getD k default)) = false → risesBy iLt id L = false) := fun h => allTo_false (k := k) (by rw [HN.out]; exact hlt) (by rw [hkm, h]; simp; omega)
   have hgo : Hid (iLt (id (L.getD m default)) (id (L.getD k default)) = true → ∀ j, j < k + 1 → (decide (j = 0) || iLt (id (L.getD (j - 1) default)) (id (L.getD j default))) = true) := fun h j hj => by
    rcases Nat.lt_succ_iff_lt_or_eq.1 hj with h' | rfl
    ·
     exact hall.out j h'
    ·
     rw [hkm, h]; simp
   clear hall hvc hvd hrc hrd hme hkm ea'
   generalize L.getD m default = x at hbad hgo HC
   generalize L.getD k default = y at hbad hgo HD
   cases hc : iLt (id x) (id y)
   ·
    have HF : Hid (risesBy iLt id L = false) := hbad.out hc
    simp only [iLt, id, decide_eq_false_iff_not, decide_eq_true_eq] at hc
    clear hbad hgo
    go_wp2_with fail
    refine t0 (fun u => Below wr.heap.size wr u ∧ u.cell? ⟨B, off + m, none⟩ = some (.int .i64 x) ∧ u.cell? ⟨B, off + k, none⟩ = some (.int .i64 y)) (⟨(Below.refl _ _).drew, HC.out, HD.out⟩) (fun hH => ?_)
    refine tp 0 ?_; try go_frame
    refine tp 1 ?_; try go_frame
    refine tp 2 ?_; try go_frame
    refine tp 3 ?_; try go_frame
    refine tp 4 ?_; try go_frame
    refine' tk 5 ?_ ?_; rotate_left
    ·
     intro u hu; have hc0 := hu.2.1; go_simp; try with_reducible rfl
    try go_frame
    refine tp 7 ?_; try go_frame
    refine tp 8 ?_; try go_frame
    refine tp 9 ?_; try go_frame
    refine tp 10 ?_; try go_frame
    refine' tk 11 ?_ ?_; rotate_left
    ·
     intro u hu; have hc0 := hu.2.2; go_simp; try with_reducible rfl
    try go_frame
    refine tr 6 (fun K hK => ?_)
    refine want_yes (by rfl) (call_enter (f := 123) (args := #[.int .i64 x]) (by kernel_rfl) (oneint_calls x _) (fun e u1 he => ?_))
    obtain ⟨rfl, hb1⟩ := he
    refine ⟨_, rfl, hK.out _ _ (⟨on2 hH.1 hb1, (hb1.cell (p := ⟨B, off + m, none⟩) (Nat.lt_of_lt_of_le HBW.out hH.1.size)).trans hH.2.1, (hb1.cell (p := ⟨B, off + k, none⟩) (Nat.lt_of_lt_of_le HBW.out hH.1.size)).trans hH.2.2⟩) (fun hH => ?_)⟩
    clear hK K
    try go_frame
    refine tr 12 (fun K hK => ?_)
    refine want_yes (by rfl) (call_enter (f := 123) (args := #[.int .i64 y]) (by kernel_rfl) (oneint_calls y _) (fun e u1 he => ?_))
    obtain ⟨rfl, hb1⟩ := he
    have HB2 : Hid (Below wr.heap.size wr u1) := on2 hH.1 hb1
    refine ⟨_, rfl, hK.out _ _ (⟨on2 hH.1 hb1, (hb1.cell (p := ⟨B, off + m, none⟩) (Nat.lt_of_lt_of_le HBW.out hH.1.size)).trans hH.2.1, (hb1.cell (p := ⟨B, off + k, none⟩) (Nat.lt_of_lt_of_le HBW.out hH.1.size)).trans hH.2.2⟩) (fun hH => ?_)⟩
    clear hK K
    try go_frame
    refine tp 13 ?_; try go_frame
    refine tz ?_
    skip
    go_wp2_with fail
    go_ret
    exact ⟨retb HF.out.symm, on2 hbel HB2.out⟩
   ·
    have HG := hgo.out hc
    have HG2 : Hid (∀ j, j < k + 1 → (decide (j = 0) || iLt (id (L.getD (j - 1) default)) (id (L.getD j default))) = true) := HG
    simp only [iLt, id, decide_eq_false_iff_not, decide_eq_true_eq] at hc
    clear hbad hgo HG
    go_wp2_with fail
    refine t0 (fun u => Below wr.heap.size wr u ∧ u.cell? ⟨B, off + m, none⟩ = some (.int .i64 x) ∧ u.cell? ⟨B, off + k, none⟩ = some (.int .i64 y)) (⟨(Below.refl _ _).drew, HC.out, HD.out⟩) (fun hH => ?_)
    refine tp 0 ?_; try go_frame
    refine tp 1 ?_; try go_frame
    refine tp 2 ?_; try go_frame
    refine tp 3 ?_; try go_frame
    refine tp 4 ?_; try go_frame
    refine' tk 5 ?_ ?_; rotate_left
    ·
     intro u hu; have hc0 := hu.2.1; go_simp; try with_reducible rfl
    try go_frame
    refine tp 7 ?_; try go_frame
    refine tp 8 ?_; try go_frame
    refine tp 9 ?_; try go_frame
    refine tp 10 ?_; try go_frame
    refine' tk 11 ?_ ?_; rotate_left
    ·
     intro u hu; have hc0 := hu.2.2; go_simp; try with_reducible rfl
    try go_frame
    refine tr 6 (fun K hK => ?_)
    refine want_yes (by rfl) (call_enter (f := 123) (args := #[.int .i64 x]) (by kernel_rfl) (oneint_calls x _) (fun e u1 he => ?_))
    obtain ⟨rfl, hb1⟩ := he
    refine ⟨_, rfl, hK.out _ _ (⟨on2 hH.1 hb1, (hb1.cell (p := ⟨B, off + m, none⟩) (Nat.lt_of_lt_of_le HBW.out hH.1.size)).trans hH.2.1, (hb1.cell (p := ⟨B, off + k, none⟩) (Nat.lt_of_lt_of_le HBW.out hH.1.size)).trans hH.2.2⟩) (fun hH => ?_)⟩
    clear hK K
    try go_frame
    refine tr 12 (fun K hK => ?_)
    refine want_yes (by rfl) (call_enter (f := 123) (args := #[.int .i64 y]) (by kernel_rfl) (oneint_calls y _) (fun e u1 he => ?_))
    obtain ⟨rfl, hb1⟩ := he
    have HB2 : Hid (Below wr.heap.size wr u1) := on2 hH.1 hb1
    refine ⟨_, rfl, hK.out _ _ (⟨on2 hH.1 hb1, (hb1.cell (p := ⟨B, off + m, none⟩) (Nat.lt_of_lt_of_le HBW.out hH.1.size)).trans hH.2.1, (hb1.cell (p := ⟨B, off + k, none⟩) (Nat.lt_of_lt_of_le HBW.out hH.1.size)).trans hH.2.2⟩) (fun hH => ?_)⟩
    clear hK K
    try go_frame
    refine tp 13 ?_; try go_frame
    refine tz ?_
    skip
    go_wp2_with fail
    go_roundw
    case rel => exact ⟨k + 1, by omega, .inl (by omega), by go_num, on2 hbel HB2.out, HG2⟩
    case measure => simp [intOf]; omega
  ·
   have HF : Hid (risesBy iLt id L = true) := allTo_true (fun j hj => hall.out j (by rw [HN.out] at hj; omega))
   clear hall
   go_wp2
   go_ret
   exact ⟨retb HF.out.symm, hbel⟩
theorem risesint_calls (a : Option Addr) (n cap : Nat) (A : Where) (L : List Int) (w : World) (hL : Hid (SlAt RInt 1 8 A w a n cap L)) : Calls prog 107 #[.slice a n cap] w fun e w' => e = .returned (.bool (risesBy iLt id L)) ∧ Below w.heap.size w w' := by
 have hC := risingint_calls a n cap A L w hL
 generalize risesBy iLt id L = r at hC ⊢
 go_enter func107, ntmps107
 go_wp2_with fail
 refine hC.mono ?_
 rintro e w1 ⟨rfl, hb1⟩
 go_wp2_with fail
 go_ret
 exact ⟨rfl, hb1⟩
theorem onestring_calls (x : ByteArray) (w : World) : Calls prog 128 #[.string x] w fun e w' => e = .returned (.string x) ∧ Below w.heap.size w w' := by
 go_enter func128, ntmps128
 go_wp2
 go_ret
 exact ⟨rfl, Below.refl _ _⟩
theorem risingstring_calls  (a : Option Addr) (n cap : Nat) (A : Where) (L : List ByteArray) (w : World) (hL : Hid (SlAt RStr 1 16 A w a n cap L)) : Calls prog 127 #[.slice a n cap, .func (.func 128) #[] #[]] w fun e w' => e = .returned (.bool (risesBy sLt id L)) ∧ Below w.heap.size w w' := by
 have hlen := hL.out.len (by decide)
 have HN : Hid (L.length = n) := hL.out.1
 go_enter func127, ntmps127
 go_wp2
 go_loopw [5] (fun i wr => ∃ k : Nat, 1 ≤ k ∧ (k ≤ n ∨ k = 1) ∧ i = .int .i64 k ∧ Below w.heap.size w wr ∧ Hid (∀ j, j < k → (decide (j = 0) || sLt (id (L.getD (j - 1) default)) (id (L.getD j default))) = true)) (fun i _ => n - (intOf i).toNat)
 case atStart => exact ⟨1, Nat.le_refl _, .inr rfl, rfl, Below.refl _ _, fun j hj => (by have h0 : j = 0 := (by omega); simp [h0])⟩
 case round =>
  obtain ⟨k, hk1, hk, rfl, hbel, hall⟩ := hrel
  by_cases hlt : k < n
  ·
   obtain ⟨m, hm⟩ : ∃ m, Hid (k = m + 1) := ⟨k - 1, by unfold Hid; omega⟩
   have hme := hm.out
   have hmw : IntKind.i64.wrap ((k : Int) - 1) = (m : Int) := by rw [hme]; simp only [Int.natCast_add, Int.cast_ofNat_Int, Int.add_sub_cancel]; simp [IntKind.wrap, IntKind.bits, IntKind.signed]; omega
   have hml : m < n := by omega
   have hkm : k - 1 = m := by omega
   obtain ⟨B, off, ea, hB, _, ds, hrd, hvd⟩ := (hL.out.on RStr.firm hbel).get hlt
   obtain ⟨B', off', ea', _, _, cs, hrc, hvc⟩ := (hL.out.on RStr.firm hbel).get hml
   rw [ea] at ea'
   obtain ⟨rfl, rfl⟩ : B = B' ∧ off = off' := by simpa using ea'
   subst ea
   have HBW : Hid (B < wr.heap.size) := hB
   have hltz : (k : Int) < (n : Int) := by omega
   have hmlz : (m : Int) < (n : Int) := by omega
   obtain rfl : cs = [.string (L.getD m default)] := by first | exact hrc | exact hrc.1
   obtain rfl : ds = [.string (L.getD k default)] := by first | exact hrd | exact hrd.1
   have HC : Hid (wr.cell? ⟨B, off + m, none⟩ = some (.string (L.getD m default))) := by have := hvc 0 _ rfl; simpa [Hid] using this
   have HD : Hid (wr.cell? ⟨B, off + k, none⟩ = some (.string (L.getD k default))) := by have := hvd 0 _ rfl; simpa [Hid] using this
   have hbad : Hid (sLt (id (L.getD m default)) (id (L.getD k default)) = false → risesBy sLt id L = false) := fun h => allTo_false (k := k) (by rw [HN.out]; exact hlt) (by rw [hkm, h]; simp; omega)
   have hgo : Hid (sLt (id (L.getD m default)) (id (L.getD k default)) = true → ∀ j, j < k + 1 → (decide (j = 0) || sLt (id (L.getD (j - 1) default)) (id (L.getD j default))) = true) := fun h j hj => by
    rcases Nat.lt_succ_iff_lt_or_eq.1 hj with h' | rfl
    ·
     exact hall.out j h'
    ·
     rw [hkm, h]; simp
   clear hall hvc hvd hrc hrd hme hkm ea'
   generalize L.getD m default = x at hbad hgo HC
   generalize L.getD k default = y at hbad hgo HD
   cases hc : sLt (id x) (id y)
   ·
    have HF : Hid (risesBy sLt id L = false) := hbad.out hc
    simp only [sLt, id] at hc
    clear hbad hgo
    go_wp2_with fail
    refine t0 (fun u => Below wr.heap.size wr u ∧ u.cell? ⟨B, off + m, none⟩ = some (.string x) ∧ u.cell? ⟨B, off + k, none⟩ = some (.string y)) (⟨(Below.refl _ _).drew, HC.out, HD.out⟩) (fun hH => ?_)
    refine tp 0 ?_; try go_frame
    refine tp 1 ?_; try go_frame
    refine tp 2 ?_; try go_frame
    refine tp 3 ?_; try go_frame
    refine tp 4 ?_; try go_frame
    refine' tk 5 ?_ ?_; rotate_left
    ·
     intro u hu; have hc0 := hu.2.1; go_simp; try with_reducible rfl
    try go_frame
    refine tp 7 ?_; try go_frame
    refine tp 8 ?_; try go_frame
    refine tp 9 ?_; try go_frame
    refine tp 10 ?_; try go_frame
    refine' tk 11 ?_ ?_; rotate_left
    ·
     intro u hu; have hc0 := hu.2.2; go_simp; try with_reducible rfl
    try go_frame
    refine tr 6 (fun K hK => ?_)
    refine want_yes (by rfl) (call_enter (f := 128) (args := #[.string x]) (by kernel_rfl) (onestring_calls x _) (fun e u1 he => ?_))
    obtain ⟨rfl, hb1⟩ := he
    refine ⟨_, rfl, hK.out _ _ (⟨on2 hH.1 hb1, (hb1.cell (p := ⟨B, off + m, none⟩) (Nat.lt_of_lt_of_le HBW.out hH.1.size)).trans hH.2.1, (hb1.cell (p := ⟨B, off + k, none⟩) (Nat.lt_of_lt_of_le HBW.out hH.1.size)).trans hH.2.2⟩) (fun hH => ?_)⟩
    clear hK K
    try go_frame
    refine tr 12 (fun K hK => ?_)
    refine want_yes (by rfl) (call_enter (f := 128) (args := #[.string y]) (by kernel_rfl) (onestring_calls y _) (fun e u1 he => ?_))
    obtain ⟨rfl, hb1⟩ := he
    have HB2 : Hid (Below wr.heap.size wr u1) := on2 hH.1 hb1
    refine ⟨_, rfl, hK.out _ _ (⟨on2 hH.1 hb1, (hb1.cell (p := ⟨B, off + m, none⟩) (Nat.lt_of_lt_of_le HBW.out hH.1.size)).trans hH.2.1, (hb1.cell (p := ⟨B, off + k, none⟩) (Nat.lt_of_lt_of_le HBW.out hH.1.size)).trans hH.2.2⟩) (fun hH => ?_)⟩
    clear hK K
    try go_frame
    refine tp 13 ?_; try go_frame
    refine tz ?_
    skip
    go_wp2_with fail
    go_ret
    exact ⟨retb HF.out.symm, on2 hbel HB2.out⟩
   ·
    have HG := hgo.out hc
    have HG2 : Hid (∀ j, j < k + 1 → (decide (j = 0) || sLt (id (L.getD (j - 1) default)) (id (L.getD j default))) = true) := HG
    simp only [sLt, id] at hc
    clear hbad hgo HG
    go_wp2_with fail
    refine t0 (fun u => Below wr.heap.size wr u ∧ u.cell? ⟨B, off + m, none⟩ = some (.string x) ∧ u.cell? ⟨B, off + k, none⟩ = some (.string y)) (⟨(Below.refl _ _).drew, HC.out, HD.out⟩) (fun hH => ?_)
    refine tp 0 ?_; try go_frame
    refine tp 1 ?_; try go_frame
    refine tp 2 ?_; try go_frame
    refine tp 3 ?_; try go_frame
    refine tp 4 ?_; try go_frame
    refine' tk 5 ?_ ?_; rotate_left
    ·
     intro u hu; have hc0 := hu.2.1; go_simp; try with_reducible rfl
    try go_frame
    refine tp 7 ?_; try go_frame
    refine tp 8 ?_; try go_frame
    refine tp 9 ?_; try go_frame
    refine tp 10 ?_; try go_frame
    refine' tk 11 ?_ ?_; rotate_left
    ·
     intro u hu; have hc0 := hu.2.2; go_simp; try with_reducible rfl
    try go_frame
    refine tr 6 (fun K hK => ?_)
    refine want_yes (by rfl) (call_enter (f := 128) (args := #[.string x]) (by kernel_rfl) (onestring_calls x _) (fun e u1 he => ?_))
    obtain ⟨rfl, hb1⟩ := he
    refine ⟨_, rfl, hK.out _ _ (⟨on2 hH.1 hb1, (hb1.cell (p := ⟨B, off + m, none⟩) (Nat.lt_of_lt_of_le HBW.out hH.1.size)).trans hH.2.1, (hb1.cell (p := ⟨B, off + k, none⟩) (Nat.lt_of_lt_of_le HBW.out hH.1.size)).trans hH.2.2⟩) (fun hH => ?_)⟩
    clear hK K
    try go_frame
    refine tr 12 (fun K hK => ?_)
    refine want_yes (by rfl) (call_enter (f := 128) (args := #[.string y]) (by kernel_rfl) (onestring_calls y _) (fun e u1 he => ?_))
    obtain ⟨rfl, hb1⟩ := he
    have HB2 : Hid (Below wr.heap.size wr u1) := on2 hH.1 hb1
    refine ⟨_, rfl, hK.out _ _ (⟨on2 hH.1 hb1, (hb1.cell (p := ⟨B, off + m, none⟩) (Nat.lt_of_lt_of_le HBW.out hH.1.size)).trans hH.2.1, (hb1.cell (p := ⟨B, off + k, none⟩) (Nat.lt_of_lt_of_le HBW.out hH.1.size)).trans hH.2.2⟩) (fun hH => ?_)⟩
    clear hK K
    try go_frame
    refine tp 13 ?_; try go_frame
    refine tz ?_
    skip
    go_wp2_with fail
    go_roundw
    case rel => exact ⟨k + 1, by omega, .inl (by omega), by go_num, on2 hbel HB2.out, HG2⟩
    case measure => simp [intOf]; omega
  ·
   have HF : Hid (risesBy sLt id L = true) := allTo_true (fun j hj => hall.out j (by rw [HN.out] at hj; omega))
   clear hall
   go_wp2
   go_ret
   exact ⟨retb HF.out.symm, hbel⟩
theorem risesstring_calls (a : Option Addr) (n cap : Nat) (A : Where) (L : List ByteArray) (w : World) (hL : Hid (SlAt RStr 1 16 A w a n cap L)) : Calls prog 113 #[.slice a n cap] w fun e w' => e = .returned (.bool (risesBy sLt id L)) ∧ Below w.heap.size w w' := by
 have hC := risingstring_calls a n cap A L w hL
 generalize risesBy sLt id L = r at hC ⊢
 go_enter func113, ntmps113
 go_wp2_with fail
 refine hC.mono ?_
 rintro e w1 ⟨rfl, hb1⟩
 go_wp2_with fail
 go_ret
 exact ⟨rfl, hb1⟩
theorem ents_isPrefer : ∀ args w, (callFunc 104 args).run prog w = .ok (.enter 104 args) w := Go.Proofs.enters_of func104 (by kernel_rfl) rfl
theorem ents_isPort : ∀ args w, (callFunc 106 args).run prog w = .ok (.enter 106 args) w := Go.Proofs.enters_of func106 (by kernel_rfl) rfl
theorem ents_isTerm : ∀ args w, (callFunc 109 args).run prog w = .ok (.enter 109 args) w := Go.Proofs.enters_of func109 (by kernel_rfl) rfl
theorem ents_isSpread : ∀ args w, (callFunc 111 args).run prog w = .ok (.enter 111 args) w := Go.Proofs.enters_of func111 (by kernel_rfl) rfl
theorem ents_Word : ∀ args w, (callFunc 97 args).run prog w = .ok (.enter 97 args) w := Go.Proofs.enters_of func97 (by kernel_rfl) rfl
theorem preferB_pred (w : World) : PredPrefer 104 #[] preferB w := fun W cs x _ hr => isPrefer_calls cs _ x W hr
theorem termB_pred (w : World) : PredTerm 109 #[] termB w := fun W cs x _ hr => isTerm_calls cs _ x W hr
theorem spreadB_pred (w : World) : PredSpread 111 #[] spreadB w := fun W cs x _ hr => isSpread_calls cs _ x W hr
theorem isPort_calls (n : Int) (w : World) : Calls prog 106 #[.int .i64 n] w fun e w' => e = .returned (.bool (portB n)) ∧ w' = w := by
 have hC := within_calls n 1 65535
 change ∀ w, Calls prog 98 _ w fun e w' => e = .returned (.bool (portB n)) ∧ w' = w at hC
 generalize portB n = r at hC ⊢
 go_enter func106, ntmps106
 go_wp2_with fail
 refine (hC _).mono ?_
 rintro e w1 ⟨rfl, rfl⟩
 go_wp2_with fail
 go_ret
 exact ⟨rfl, rfl⟩
theorem portB_pred (w : World) : Predint 106 #[] portB w := fun W _ x _ _ => calls_same (isPort_calls x W)
theorem wordB_pred (w : World) : Predstring 97 #[] wordB w := fun W _ x _ _ => calls_same (Word_calls x W)
theorem Pod_right (c : List Value) (A : Where) (x : PodD) (w : World) (h : Hid (RPod A w c x)) : Calls prog 96 #[.agg #[], .agg c.toArray] w fun e w' => e = .returned (.bool (rightPod x)) ∧ Below w.heap.size w w' := by
 obtain ⟨h2, h6, h7, h8, h9, h10, h11, h12, h13, rfl, _, g2, g6, g7, g8, g9, g10, g11, g12, g13, _⟩ := h.out.out
 have H2 : Hid (SlAt RLabel 2 32 A w h2.1 h2.2.1 h2.2.2 x.2.2.1) := g2
 have H6 : Hid (SlAt RBear 4 48 A w h6.1 h6.2.1 h6.2.2 x.2.2.2.2.1) := g6
 have H7 : Hid (SlAt RReq 3 48 A w h7.1 h7.2.1 h7.2.2 x.2.2.2.2.2.1) := g7
 have H8 : Hid (SlAt RPrefer 2 32 A w h8.1 h8.2.1 h8.2.2 x.2.2.2.2.2.2.1) := g8
 have H9 : Hid (SlAt RInt 1 8 A w h9.1 h9.2.1 h9.2.2 x.2.2.2.2.2.2.2.1) := g9
 have H10 : Hid (SlAt RTerm 2 40 A w h10.1 h10.2.1 h10.2.2 x.2.2.2.2.2.2.2.2.1) := g10
 have H11 : Hid (SlAt RTerm 2 40 A w h11.1 h11.2.1 h11.2.2 x.2.2.2.2.2.2.2.2.2.1) := g11
 have H12 : Hid (SlAt RSpread 4 56 A w h12.1 h12.2.1 h12.2.2 x.2.2.2.2.2.2.2.2.2.2.1) := g12
 have H13 : Hid (SlAt RStr 1 16 A w h13.1 h13.2.1 h13.2.2 x.2.2.2.2.2.2.2.2.2.2.2.1) := g13
 clear h g2 g6 g7 g8 g9 g10 g11 g12 g13
 have HH0 : Hid (Held w [(w.heap.size + 1, [.string x.1, .int .i64 x.2.1, J h2, .int .i64 x.2.2.2.1.1, .int .i64 x.2.2.2.1.2.1, .int .i64 x.2.2.2.1.2.2, J h6, J h7, J h8, J h9, J h10, J h11, J h12, J h13, .string x.2.2.2.2.2.2.2.2.2.2.2.2.1, .string x.2.2.2.2.2.2.2.2.2.2.2.2.2]), (w.heap.size, [])] [] ((w.alloc (.cells #[] 132)).alloc (.cells #[.string x.1, .int .i64 x.2.1, J h2, .int .i64 x.2.2.2.1.1, .int .i64 x.2.2.2.1.2.1, .int .i64 x.2.2.2.1.2.2, J h6, J h7, J h8, J h9, J h10, J h11, J h12, J h13, .string x.2.2.2.2.2.2.2.2.2.2.2.2.1, .string x.2.2.2.2.2.2.2.2.2.2.2.2.2] 33))) := (((Held.start w).push rfl [] 132).push (by simp) [.string x.1, .int .i64 x.2.1, J h2, .int .i64 x.2.2.2.1.1, .int .i64 x.2.2.2.1.2.1, .int .i64 x.2.2.2.1.2.2, J h6, J h7, J h8, J h9, J h10, J h11, J h12, J h13, .string x.2.2.2.2.2.2.2.2.2.2.2.2.1, .string x.2.2.2.2.2.2.2.2.2.2.2.2.2] 33)
 obtain ⟨b0, e0⟩ : ∃ b : Bool, wordB x.1 = b := ⟨_, rfl⟩
 obtain ⟨b1, e1⟩ : ∃ b : Bool, withinB x.2.1 (-1073741824) 1073741824 = b := ⟨_, rfl⟩
 obtain ⟨n2, g2⟩ : ∃ n : Int, checkI x.2.2.1 = n := ⟨_, rfl⟩
 obtain ⟨b2, e2⟩ : ∃ b : Bool, (n2 == 0) = b := ⟨_, rfl⟩
 obtain ⟨b3, e3⟩ : ∃ b : Bool, reqsB x.2.2.2.2.2.1 = b := ⟨_, rfl⟩
 obtain ⟨n4, g4⟩ : ∃ n : Int, Tn.checkBr x.2.2.2.2.1 = n := ⟨_, rfl⟩
 obtain ⟨b4, e4⟩ : ∃ b : Bool, (n4 == 0) = b := ⟨_, rfl⟩
 obtain ⟨b5, e5⟩ : ∃ b : Bool, resB x.2.2.2.1 = b := ⟨_, rfl⟩
 obtain ⟨b6, e6⟩ : ∃ b : Bool, itemsB preferB x.2.2.2.2.2.2.1 = b := ⟨_, rfl⟩
 obtain ⟨b7, e7⟩ : ∃ b : Bool, itemsB portB x.2.2.2.2.2.2.2.1 = b := ⟨_, rfl⟩
 obtain ⟨b8, e8⟩ : ∃ b : Bool, risesBy iLt id x.2.2.2.2.2.2.2.1 = b := ⟨_, rfl⟩
 obtain ⟨b9, e9⟩ : ∃ b : Bool, itemsB termB x.2.2.2.2.2.2.2.2.1 = b := ⟨_, rfl⟩
 obtain ⟨b10, e10⟩ : ∃ b : Bool, itemsB termB x.2.2.2.2.2.2.2.2.2.1 = b := ⟨_, rfl⟩
 obtain ⟨b11, e11⟩ : ∃ b : Bool, itemsB spreadB x.2.2.2.2.2.2.2.2.2.2.1 = b := ⟨_, rfl⟩
 obtain ⟨b12, e12⟩ : ∃ b : Bool, itemsB wordB x.2.2.2.2.2.2.2.2.2.2.2.1 = b := ⟨_, rfl⟩
 obtain ⟨b13, e13⟩ : ∃ b : Bool, risesBy sLt id x.2.2.2.2.2.2.2.2.2.2.2.1 = b := ⟨_, rfl⟩
 obtain ⟨b14, e14⟩ : ∃ b : Bool, nameNone x.2.2.2.2.2.2.2.2.2.2.2.2.1 = b := ⟨_, rfl⟩
 obtain ⟨b15, e15⟩ : ∃ b : Bool, nameNone x.2.2.2.2.2.2.2.2.2.2.2.2.2 = b := ⟨_, rfl⟩
 have HF : Hid (rightPod x = (b0 && b1 && b2 && b3 && b4 && b5 && b6 && b7 && b8 && b9 && b10 && b11 && b12 && b13 && b14 && b15)) := by rw [Hid, ← e0, ← e1, ← e2, ← g2, ← e3, ← e4, ← g4, ← e5, ← e6, ← e7, ← e8, ← e9, ← e10, ← e11, ← e12, ← e13, ← e14, ← e15]; rfl
 have HC0 : Hid (∀ u, Below w.heap.size w u → Calls prog 97 #[.string x.1] u fun e w' => e = .returned (.bool b0) ∧ Below u.heap.size u w') := fun u hu => by rw [← e0]; exact calls_same (Word_calls x.1 _)
 clear e0
 have HC1 : Hid (∀ u, Below w.heap.size w u → Calls prog 98 #[.int .i64 x.2.1, .int .i64 (-1073741824), .int .i64 1073741824] u fun e w' => e = .returned (.bool b1) ∧ Below u.heap.size u w') := fun u hu => by rw [← e1]; exact calls_same (within_calls x.2.1 (-1073741824) 1073741824 _)
 clear e1
 have HC2 : Hid (∀ u, Below w.heap.size w u → Calls prog 99 #[J h2] u fun e w' => e = .returned (.int .i64 n2) ∧ Below u.heap.size u w') := fun u hu => by rw [← g2]; exact labCheck _ _ _ A x.2.2.1 _ (H2.out.kept RLabel.firm (Kept.below hu))
 clear g2
 have HC3 : Hid (∀ u, Below w.heap.size w u → Calls prog 100 #[J h7] u fun e w' => e = .returned (.bool b3) ∧ Below u.heap.size u w') := fun u hu => by rw [← e3]; exact areReqs_calls _ _ _ A x.2.2.2.2.2.1 _ (H7.out.kept RReq.firm (Kept.below hu))
 clear e3
 have HC4 : Hid (∀ u, Below w.heap.size w u → Calls prog 101 #[J h6] u fun e w' => e = .returned (.int .i64 n4) ∧ Below u.heap.size u w') := fun u hu => by rw [← g4]; exact bearCheck _ _ _ A x.2.2.2.2.1 _ (H6.out.kept RBear.firm (Kept.below hu))
 clear g4
 have HC5 : Hid (∀ u, Below w.heap.size w u → Calls prog 102 #[.agg #[.int .i64 x.2.2.2.1.1, .int .i64 x.2.2.2.1.2.1, .int .i64 x.2.2.2.1.2.2]] u fun e w' => e = .returned (.bool b5) ∧ Below u.heap.size u w') := fun u hu => by rw [← e5]; exact areAmounts_calls x.2.2.2.1 _
 clear e5
 have HC6 : Hid (∀ u, Below w.heap.size w u → Calls prog 103 #[J h8, .func (.func 104) #[] #[]] u fun e w' => e = .returned (.bool b6) ∧ Below u.heap.size u w') := fun u hu => by rw [← e6]; exact itemsPrefer_calls 104 ents_isPrefer _ _ _ A x.2.2.2.2.2.2.1 preferB _ (H8.out.kept RPrefer.firm (Kept.below hu)) (preferB_pred _)
 clear e6
 have HC7 : Hid (∀ u, Below w.heap.size w u → Calls prog 105 #[J h9, .func (.func 106) #[] #[]] u fun e w' => e = .returned (.bool b7) ∧ Below u.heap.size u w') := fun u hu => by rw [← e7]; exact itemsint_calls 106 ents_isPort _ _ _ A x.2.2.2.2.2.2.2.1 portB _ (H9.out.kept RInt.firm (Kept.below hu)) (portB_pred _)
 clear e7
 have HC8 : Hid (∀ u, Below w.heap.size w u → Calls prog 107 #[J h9] u fun e w' => e = .returned (.bool b8) ∧ Below u.heap.size u w') := fun u hu => by rw [← e8]; exact risesint_calls _ _ _ A x.2.2.2.2.2.2.2.1 _ (H9.out.kept RInt.firm (Kept.below hu))
 clear e8
 have HC9 : Hid (∀ u, Below w.heap.size w u → Calls prog 108 #[J h10, .func (.func 109) #[] #[]] u fun e w' => e = .returned (.bool b9) ∧ Below u.heap.size u w') := fun u hu => by rw [← e9]; exact itemsTerm_calls 109 ents_isTerm _ _ _ A x.2.2.2.2.2.2.2.2.1 termB _ (H10.out.kept RTerm.firm (Kept.below hu)) (termB_pred _)
 clear e9
 have HC10 : Hid (∀ u, Below w.heap.size w u → Calls prog 108 #[J h11, .func (.func 109) #[] #[]] u fun e w' => e = .returned (.bool b10) ∧ Below u.heap.size u w') := fun u hu => by rw [← e10]; exact itemsTerm_calls 109 ents_isTerm _ _ _ A x.2.2.2.2.2.2.2.2.2.1 termB _ (H11.out.kept RTerm.firm (Kept.below hu)) (termB_pred _)
 clear e10
 have HC11 : Hid (∀ u, Below w.heap.size w u → Calls prog 110 #[J h12, .func (.func 111) #[] #[]] u fun e w' => e = .returned (.bool b11) ∧ Below u.heap.size u w') := fun u hu => by rw [← e11]; exact itemsSpread_calls 111 ents_isSpread _ _ _ A x.2.2.2.2.2.2.2.2.2.2.1 spreadB _ (H12.out.kept RSpread.firm (Kept.below hu)) (spreadB_pred _)
 clear e11
 have HC12 : Hid (∀ u, Below w.heap.size w u → Calls prog 112 #[J h13, .func (.func 97) #[] #[]] u fun e w' => e = .returned (.bool b12) ∧ Below u.heap.size u w') := fun u hu => by rw [← e12]; exact itemsstring_calls 97 ents_Word _ _ _ A x.2.2.2.2.2.2.2.2.2.2.2.1 wordB _ (H13.out.kept RStr.firm (Kept.below hu)) (wordB_pred _)
 clear e12
 have HC13 : Hid (∀ u, Below w.heap.size w u → Calls prog 113 #[J h13] u fun e w' => e = .returned (.bool b13) ∧ Below u.heap.size u w') := fun u hu => by rw [← e13]; exact risesstring_calls _ _ _ A x.2.2.2.2.2.2.2.2.2.2.2.1 _ (H13.out.kept RStr.firm (Kept.below hu))
 clear e13
 have HC14 : Hid (∀ u, Below w.heap.size w u → Calls prog 114 #[.string x.2.2.2.2.2.2.2.2.2.2.2.2.1] u fun e w' => e = .returned (.bool b14) ∧ Below u.heap.size u w') := fun u hu => by rw [← e14]; exact calls_same (isNameOrNone_calls x.2.2.2.2.2.2.2.2.2.2.2.2.1 _)
 clear e14
 have HC15 : Hid (∀ u, Below w.heap.size w u → Calls prog 114 #[.string x.2.2.2.2.2.2.2.2.2.2.2.2.2] u fun e w' => e = .returned (.bool b15) ∧ Below u.heap.size u w') := fun u hu => by rw [← e15]; exact calls_same (isNameOrNone_calls x.2.2.2.2.2.2.2.2.2.2.2.2.2 _)
 clear e15
 go_enter func96, ntmps96
 go_wp2_with fail
 refine (HC0.out _ HH0.out.below).mono ?_
 rintro e u1 ⟨rfl, hb1⟩
 have HH1 : Hid (Held w [(w.heap.size + 1, [.string x.1, .int .i64 x.2.1, J h2, .int .i64 x.2.2.2.1.1, .int .i64 x.2.2.2.1.2.1, .int .i64 x.2.2.2.1.2.2, J h6, J h7, J h8, J h9, J h10, J h11, J h12, J h13, .string x.2.2.2.2.2.2.2.2.2.2.2.2.1, .string x.2.2.2.2.2.2.2.2.2.2.2.2.2]), (w.heap.size, [])] [] u1) := HH0.out.on hb1
 clear hb1 HH0 HC0
 cases b0
 ·
  clear HC1 HC2 HC3 HC4 HC5 HC6 HC7 HC8 HC9 HC10 HC11 HC12 HC13 HC14 HC15
  go_wp2_with fail
  go_ret
  exact ⟨retb (by rw [HF.out] <;> simp), HH1.out.below⟩
 have k0_1 := HH1.out.cell 0 (b := w.heap.size + 1) rfl 1 rfl
 have kl0 := HH1.out.lt 0 rfl
 go_wp2_with fail
 clear k0_1 kl0
 refine (HC1.out _ HH1.out.below).mono ?_
 rintro e u2 ⟨rfl, hb2⟩
 have HH2 : Hid (Held w [(w.heap.size + 1, [.string x.1, .int .i64 x.2.1, J h2, .int .i64 x.2.2.2.1.1, .int .i64 x.2.2.2.1.2.1, .int .i64 x.2.2.2.1.2.2, J h6, J h7, J h8, J h9, J h10, J h11, J h12, J h13, .string x.2.2.2.2.2.2.2.2.2.2.2.2.1, .string x.2.2.2.2.2.2.2.2.2.2.2.2.2]), (w.heap.size, [])] [] u2) := HH1.out.on hb2
 clear hb2 HH1 HC1
 cases b1
 ·
  clear HC2 HC3 HC4 HC5 HC6 HC7 HC8 HC9 HC10 HC11 HC12 HC13 HC14 HC15
  go_wp2_with fail
  go_ret
  exact ⟨retb (by rw [HF.out] <;> simp), HH2.out.below⟩
 have k1_2 := HH2.out.cell 0 (b := w.heap.size + 1) rfl 2 rfl
 have kl1 := HH2.out.lt 0 rfl
 go_wp2_with fail
 clear k1_2 kl1
 refine (HC2.out _ HH2.out.below).mono ?_
 rintro e u3 ⟨rfl, hb3⟩
 have HH3 : Hid (Held w [(w.heap.size + 1, [.string x.1, .int .i64 x.2.1, J h2, .int .i64 x.2.2.2.1.1, .int .i64 x.2.2.2.1.2.1, .int .i64 x.2.2.2.1.2.2, J h6, J h7, J h8, J h9, J h10, J h11, J h12, J h13, .string x.2.2.2.2.2.2.2.2.2.2.2.2.1, .string x.2.2.2.2.2.2.2.2.2.2.2.2.2]), (w.heap.size, [])] [] u3) := HH2.out.on hb3
 clear hb3 HH2 HC2
 cases b2
 ·
  clear HC3 HC4 HC5 HC6 HC7 HC8 HC9 HC10 HC11 HC12 HC13 HC14 HC15
  go_wp2_with fail
  go_ret
  exact ⟨retb (by rw [HF.out] <;> simp), HH3.out.below⟩
 have k2_7 := HH3.out.cell 0 (b := w.heap.size + 1) rfl 7 rfl
 have kl2 := HH3.out.lt 0 rfl
 go_wp2_with fail
 clear k2_7 kl2
 refine (HC3.out _ HH3.out.below).mono ?_
 rintro e u4 ⟨rfl, hb4⟩
 have HH4 : Hid (Held w [(w.heap.size + 1, [.string x.1, .int .i64 x.2.1, J h2, .int .i64 x.2.2.2.1.1, .int .i64 x.2.2.2.1.2.1, .int .i64 x.2.2.2.1.2.2, J h6, J h7, J h8, J h9, J h10, J h11, J h12, J h13, .string x.2.2.2.2.2.2.2.2.2.2.2.2.1, .string x.2.2.2.2.2.2.2.2.2.2.2.2.2]), (w.heap.size, [])] [] u4) := HH3.out.on hb4
 clear hb4 HH3 HC3
 cases b3
 ·
  clear HC4 HC5 HC6 HC7 HC8 HC9 HC10 HC11 HC12 HC13 HC14 HC15
  go_wp2_with fail
  go_ret
  exact ⟨retb (by rw [HF.out] <;> simp), HH4.out.below⟩
 have k3_6 := HH4.out.cell 0 (b := w.heap.size + 1) rfl 6 rfl
 have kl3 := HH4.out.lt 0 rfl
 go_wp2_with fail
 clear k3_6 kl3
 refine (HC4.out _ HH4.out.below).mono ?_
 rintro e u5 ⟨rfl, hb5⟩
 have HH5 : Hid (Held w [(w.heap.size + 1, [.string x.1, .int .i64 x.2.1, J h2, .int .i64 x.2.2.2.1.1, .int .i64 x.2.2.2.1.2.1, .int .i64 x.2.2.2.1.2.2, J h6, J h7, J h8, J h9, J h10, J h11, J h12, J h13, .string x.2.2.2.2.2.2.2.2.2.2.2.2.1, .string x.2.2.2.2.2.2.2.2.2.2.2.2.2]), (w.heap.size, [])] [] u5) := HH4.out.on hb5
 clear hb5 HH4 HC4
 cases b4
 ·
  clear HC5 HC6 HC7 HC8 HC9 HC10 HC11 HC12 HC13 HC14 HC15
  go_wp2_with fail
  go_ret
  exact ⟨retb (by rw [HF.out] <;> simp), HH5.out.below⟩
 have k4_3 := HH5.out.cell 0 (b := w.heap.size + 1) rfl 3 rfl
 have k4_4 := HH5.out.cell 0 (b := w.heap.size + 1) rfl 4 rfl
 have k4_5 := HH5.out.cell 0 (b := w.heap.size + 1) rfl 5 rfl
 have kl4 := HH5.out.lt 0 rfl
 go_wp2_with fail
 clear k4_3 k4_4 k4_5 kl4
 refine (HC5.out _ HH5.out.below).mono ?_
 rintro e u6 ⟨rfl, hb6⟩
 have HH6 : Hid (Held w [(w.heap.size + 1, [.string x.1, .int .i64 x.2.1, J h2, .int .i64 x.2.2.2.1.1, .int .i64 x.2.2.2.1.2.1, .int .i64 x.2.2.2.1.2.2, J h6, J h7, J h8, J h9, J h10, J h11, J h12, J h13, .string x.2.2.2.2.2.2.2.2.2.2.2.2.1, .string x.2.2.2.2.2.2.2.2.2.2.2.2.2]), (w.heap.size, [])] [] u6) := HH5.out.on hb6
 clear hb6 HH5 HC5
 cases b5
 ·
  clear HC6 HC7 HC8 HC9 HC10 HC11 HC12 HC13 HC14 HC15
  go_wp2_with fail
  go_ret
  exact ⟨retb (by rw [HF.out] <;> simp), HH6.out.below⟩
 have k5_8 := HH6.out.cell 0 (b := w.heap.size + 1) rfl 8 rfl
 have kl5 := HH6.out.lt 0 rfl
 go_wp2_with fail
 clear k5_8 kl5
 refine (HC6.out _ HH6.out.below).mono ?_
 rintro e u7 ⟨rfl, hb7⟩
 have HH7 : Hid (Held w [(w.heap.size + 1, [.string x.1, .int .i64 x.2.1, J h2, .int .i64 x.2.2.2.1.1, .int .i64 x.2.2.2.1.2.1, .int .i64 x.2.2.2.1.2.2, J h6, J h7, J h8, J h9, J h10, J h11, J h12, J h13, .string x.2.2.2.2.2.2.2.2.2.2.2.2.1, .string x.2.2.2.2.2.2.2.2.2.2.2.2.2]), (w.heap.size, [])] [] u7) := HH6.out.on hb7
 clear hb7 HH6 HC6
 cases b6
 ·
  clear HC7 HC8 HC9 HC10 HC11 HC12 HC13 HC14 HC15
  go_wp2_with fail
  go_ret
  exact ⟨retb (by rw [HF.out] <;> simp), HH7.out.below⟩
 have k6_9 := HH7.out.cell 0 (b := w.heap.size + 1) rfl 9 rfl
 have kl6 := HH7.out.lt 0 rfl
 go_wp2_with fail
 clear k6_9 kl6
 refine (HC7.out _ HH7.out.below).mono ?_
 rintro e u8 ⟨rfl, hb8⟩
 have HH8 : Hid (Held w [(w.heap.size + 1, [.string x.1, .int .i64 x.2.1, J h2, .int .i64 x.2.2.2.1.1, .int .i64 x.2.2.2.1.2.1, .int .i64 x.2.2.2.1.2.2, J h6, J h7, J h8, J h9, J h10, J h11, J h12, J h13, .string x.2.2.2.2.2.2.2.2.2.2.2.2.1, .string x.2.2.2.2.2.2.2.2.2.2.2.2.2]), (w.heap.size, [])] [] u8) := HH7.out.on hb8
 clear hb8 HH7 HC7
 cases b7
 ·
  clear HC8 HC9 HC10 HC11 HC12 HC13 HC14 HC15
  go_wp2_with fail
  go_ret
  exact ⟨retb (by rw [HF.out] <;> simp), HH8.out.below⟩
 have k7_9 := HH8.out.cell 0 (b := w.heap.size + 1) rfl 9 rfl
 have kl7 := HH8.out.lt 0 rfl
 go_wp2_with fail
 clear k7_9 kl7
 refine (HC8.out _ HH8.out.below).mono ?_
 rintro e u9 ⟨rfl, hb9⟩
 have HH9 : Hid (Held w [(w.heap.size + 1, [.string x.1, .int .i64 x.2.1, J h2, .int .i64 x.2.2.2.1.1, .int .i64 x.2.2.2.1.2.1, .int .i64 x.2.2.2.1.2.2, J h6, J h7, J h8, J h9, J h10, J h11, J h12, J h13, .string x.2.2.2.2.2.2.2.2.2.2.2.2.1, .string x.2.2.2.2.2.2.2.2.2.2.2.2.2]), (w.heap.size, [])] [] u9) := HH8.out.on hb9
 clear hb9 HH8 HC8
 cases b8
 ·
  clear HC9 HC10 HC11 HC12 HC13 HC14 HC15
  go_wp2_with fail
  go_ret
  exact ⟨retb (by rw [HF.out] <;> simp), HH9.out.below⟩
 have k8_10 := HH9.out.cell 0 (b := w.heap.size + 1) rfl 10 rfl
 have kl8 := HH9.out.lt 0 rfl
 go_wp2_with fail
 clear k8_10 kl8
 refine (HC9.out _ HH9.out.below).mono ?_
 rintro e u10 ⟨rfl, hb10⟩
 have HH10 : Hid (Held w [(w.heap.size + 1, [.string x.1, .int .i64 x.2.1, J h2, .int .i64 x.2.2.2.1.1, .int .i64 x.2.2.2.1.2.1, .int .i64 x.2.2.2.1.2.2, J h6, J h7, J h8, J h9, J h10, J h11, J h12, J h13, .string x.2.2.2.2.2.2.2.2.2.2.2.2.1, .string x.2.2.2.2.2.2.2.2.2.2.2.2.2]), (w.heap.size, [])] [] u10) := HH9.out.on hb10
 clear hb10 HH9 HC9
 cases b9
 ·
  clear HC10 HC11 HC12 HC13 HC14 HC15
  go_wp2_with fail
  go_ret
  exact ⟨retb (by rw [HF.out] <;> simp), HH10.out.below⟩
 have k9_11 := HH10.out.cell 0 (b := w.heap.size + 1) rfl 11 rfl
 have kl9 := HH10.out.lt 0 rfl
 go_wp2_with fail
 clear k9_11 kl9
 refine (HC10.out _ HH10.out.below).mono ?_
 rintro e u11 ⟨rfl, hb11⟩
 have HH11 : Hid (Held w [(w.heap.size + 1, [.string x.1, .int .i64 x.2.1, J h2, .int .i64 x.2.2.2.1.1, .int .i64 x.2.2.2.1.2.1, .int .i64 x.2.2.2.1.2.2, J h6, J h7, J h8, J h9, J h10, J h11, J h12, J h13, .string x.2.2.2.2.2.2.2.2.2.2.2.2.1, .string x.2.2.2.2.2.2.2.2.2.2.2.2.2]), (w.heap.size, [])] [] u11) := HH10.out.on hb11
 clear hb11 HH10 HC10
 cases b10
 ·
  clear HC11 HC12 HC13 HC14 HC15
  go_wp2_with fail
  go_ret
  exact ⟨retb (by rw [HF.out] <;> simp), HH11.out.below⟩
 have k10_12 := HH11.out.cell 0 (b := w.heap.size + 1) rfl 12 rfl
 have kl10 := HH11.out.lt 0 rfl
 go_wp2_with fail
 clear k10_12 kl10
 refine (HC11.out _ HH11.out.below).mono ?_
 rintro e u12 ⟨rfl, hb12⟩
 have HH12 : Hid (Held w [(w.heap.size + 1, [.string x.1, .int .i64 x.2.1, J h2, .int .i64 x.2.2.2.1.1, .int .i64 x.2.2.2.1.2.1, .int .i64 x.2.2.2.1.2.2, J h6, J h7, J h8, J h9, J h10, J h11, J h12, J h13, .string x.2.2.2.2.2.2.2.2.2.2.2.2.1, .string x.2.2.2.2.2.2.2.2.2.2.2.2.2]), (w.heap.size, [])] [] u12) := HH11.out.on hb12
 clear hb12 HH11 HC11
 cases b11
 ·
  clear HC12 HC13 HC14 HC15
  go_wp2_with fail
  go_ret
  exact ⟨retb (by rw [HF.out] <;> simp), HH12.out.below⟩
 have k11_13 := HH12.out.cell 0 (b := w.heap.size + 1) rfl 13 rfl
 have kl11 := HH12.out.lt 0 rfl
 go_wp2_with fail
 clear k11_13 kl11
 refine (HC12.out _ HH12.out.below).mono ?_
 rintro e u13 ⟨rfl, hb13⟩
 have HH13 : Hid (Held w [(w.heap.size + 1, [.string x.1, .int .i64 x.2.1, J h2, .int .i64 x.2.2.2.1.1, .int .i64 x.2.2.2.1.2.1, .int .i64 x.2.2.2.1.2.2, J h6, J h7, J h8, J h9, J h10, J h11, J h12, J h13, .string x.2.2.2.2.2.2.2.2.2.2.2.2.1, .string x.2.2.2.2.2.2.2.2.2.2.2.2.2]), (w.heap.size, [])] [] u13) := HH12.out.on hb13
 clear hb13 HH12 HC12
 cases b12
 ·
  clear HC13 HC14 HC15
  go_wp2_with fail
  go_ret
  exact ⟨retb (by rw [HF.out] <;> simp), HH13.out.below⟩
 have k12_13 := HH13.out.cell 0 (b := w.heap.size + 1) rfl 13 rfl
 have kl12 := HH13.out.lt 0 rfl
 go_wp2_with fail
 clear k12_13 kl12
 refine (HC13.out _ HH13.out.below).mono ?_
 rintro e u14 ⟨rfl, hb14⟩
 have HH14 : Hid (Held w [(w.heap.size + 1, [.string x.1, .int .i64 x.2.1, J h2, .int .i64 x.2.2.2.1.1, .int .i64 x.2.2.2.1.2.1, .int .i64 x.2.2.2.1.2.2, J h6, J h7, J h8, J h9, J h10, J h11, J h12, J h13, .string x.2.2.2.2.2.2.2.2.2.2.2.2.1, .string x.2.2.2.2.2.2.2.2.2.2.2.2.2]), (w.heap.size, [])] [] u14) := HH13.out.on hb14
 clear hb14 HH13 HC13
 cases b13
 ·
  clear HC14 HC15
  go_wp2_with fail
  go_ret
  exact ⟨retb (by rw [HF.out] <;> simp), HH14.out.below⟩
 have k13_14 := HH14.out.cell 0 (b := w.heap.size + 1) rfl 14 rfl
 have kl13 := HH14.out.lt 0 rfl
 go_wp2_with fail
 clear k13_14 kl13
 refine (HC14.out _ HH14.out.below).mono ?_
 rintro e u15 ⟨rfl, hb15⟩
 have HH15 : Hid (Held w [(w.heap.size + 1, [.string x.1, .int .i64 x.2.1, J h2, .int .i64 x.2.2.2.1.1, .int .i64 x.2.2.2.1.2.1, .int .i64 x.2.2.2.1.2.2, J h6, J h7, J h8, J h9, J h10, J h11, J h12, J h13, .string x.2.2.2.2.2.2.2.2.2.2.2.2.1, .string x.2.2.2.2.2.2.2.2.2.2.2.2.2]), (w.heap.size, [])] [] u15) := HH14.out.on hb15
 clear hb15 HH14 HC14
 cases b14
 ·
  clear HC15
  go_wp2_with fail
  go_ret
  exact ⟨retb (by rw [HF.out] <;> simp), HH15.out.below⟩
 have k14_15 := HH15.out.cell 0 (b := w.heap.size + 1) rfl 15 rfl
 have kl14 := HH15.out.lt 0 rfl
 go_wp2_with fail
 clear k14_15 kl14
 refine (HC15.out _ HH15.out.below).mono ?_
 rintro e u16 ⟨rfl, hb16⟩
 have HH16 : Hid (Held w [(w.heap.size + 1, [.string x.1, .int .i64 x.2.1, J h2, .int .i64 x.2.2.2.1.1, .int .i64 x.2.2.2.1.2.1, .int .i64 x.2.2.2.1.2.2, J h6, J h7, J h8, J h9, J h10, J h11, J h12, J h13, .string x.2.2.2.2.2.2.2.2.2.2.2.2.1, .string x.2.2.2.2.2.2.2.2.2.2.2.2.2]), (w.heap.size, [])] [] u16) := HH15.out.on hb16
 clear hb16 HH15 HC15
 cases b15
 ·
  skip
  go_wp2_with fail
  go_ret
  exact ⟨retb (by rw [HF.out] <;> simp), HH16.out.below⟩
 go_wp2_with fail
 go_ret
 exact ⟨retb (by rw [HF.out] <;> simp), HH16.out.below⟩
theorem Pod_blank (c : List Value) (A : Where) (x : PodD) (w : World) (h : Hid (RPod A w c x)) : Calls prog 94 #[.agg #[], .agg c.toArray] w fun e w' => e = .returned (.bool (blankPod x)) ∧ Below w.heap.size w w' := by
 obtain ⟨h2, h6, h7, h8, h9, h10, h11, h12, h13, rfl, _, g2, g6, g7, g8, g9, g10, g11, g12, g13, _⟩ := h.out.out
 have l2 := g2.len (by decide)
 have H2 : Hid (SlAt RLabel 2 32 A w h2.1 h2.2.1 h2.2.2 x.2.2.1) := g2
 have l6 := g6.len (by decide)
 have H6 : Hid (SlAt RBear 4 48 A w h6.1 h6.2.1 h6.2.2 x.2.2.2.2.1) := g6
 have l7 := g7.len (by decide)
 have H7 : Hid (SlAt RReq 3 48 A w h7.1 h7.2.1 h7.2.2 x.2.2.2.2.2.1) := g7
 have l8 := g8.len (by decide)
 have H8 : Hid (SlAt RPrefer 2 32 A w h8.1 h8.2.1 h8.2.2 x.2.2.2.2.2.2.1) := g8
 have l9 := g9.len (by decide)
 have H9 : Hid (SlAt RInt 1 8 A w h9.1 h9.2.1 h9.2.2 x.2.2.2.2.2.2.2.1) := g9
 have l10 := g10.len (by decide)
 have H10 : Hid (SlAt RTerm 2 40 A w h10.1 h10.2.1 h10.2.2 x.2.2.2.2.2.2.2.2.1) := g10
 have l11 := g11.len (by decide)
 have H11 : Hid (SlAt RTerm 2 40 A w h11.1 h11.2.1 h11.2.2 x.2.2.2.2.2.2.2.2.2.1) := g11
 have l12 := g12.len (by decide)
 have H12 : Hid (SlAt RSpread 4 56 A w h12.1 h12.2.1 h12.2.2 x.2.2.2.2.2.2.2.2.2.2.1) := g12
 have l13 := g13.len (by decide)
 have H13 : Hid (SlAt RStr 1 16 A w h13.1 h13.2.1 h13.2.2 x.2.2.2.2.2.2.2.2.2.2.2.1) := g13
 clear h g2 g6 g7 g8 g9 g10 g11 g12 g13
 have HB : Hid (Below w.heap.size w ((w.alloc (.cells #[] 132)).alloc (.cells #[.string x.1, .int .i64 x.2.1, J h2, .int .i64 x.2.2.2.1.1, .int .i64 x.2.2.2.1.2.1, .int .i64 x.2.2.2.1.2.2, J h6, J h7, J h8, J h9, J h10, J h11, J h12, J h13, .string x.2.2.2.2.2.2.2.2.2.2.2.2.1, .string x.2.2.2.2.2.2.2.2.2.2.2.2.2] 33))) := by unfold Hid; go_grown
 obtain ⟨b0, e0⟩ : ∃ b : Bool, (emptyL x.2.2.1 && emptyL x.2.2.2.2.1 && emptyL x.2.2.2.2.2.1 && emptyL x.2.2.2.2.2.2.1 && emptyL x.2.2.2.2.2.2.2.1 && emptyL x.2.2.2.2.2.2.2.2.1 && emptyL x.2.2.2.2.2.2.2.2.2.1 && emptyL x.2.2.2.2.2.2.2.2.2.2.1 && emptyL x.2.2.2.2.2.2.2.2.2.2.2.1) = b := ⟨_, rfl⟩
 obtain ⟨b1, e1⟩ : ∃ b : Bool, sNil x.1 = b := ⟨_, rfl⟩
 obtain ⟨b2, e2⟩ : ∃ b : Bool, (x.2.1 == 0) = b := ⟨_, rfl⟩
 obtain ⟨b3, e3⟩ : ∃ b : Bool, resZ x.2.2.2.1 = b := ⟨_, rfl⟩
 obtain ⟨b4, e4⟩ : ∃ b : Bool, sNil x.2.2.2.2.2.2.2.2.2.2.2.2.1 = b := ⟨_, rfl⟩
 obtain ⟨b5, e5⟩ : ∃ b : Bool, sNil x.2.2.2.2.2.2.2.2.2.2.2.2.2 = b := ⟨_, rfl⟩
 have HF : Hid (blankPod x = (b0 && b1 && b2 && b3 && b4 && b5)) := by rw [Hid, ← e0, ← e1, ← e2, ← e3, ← e4, ← e5]; rfl
 have t0 : ((h2.2.1 : Int) + (h6.2.1 : Int) + (h7.2.1 : Int) + (h8.2.1 : Int) + (h9.2.1 : Int) + (h10.2.1 : Int) + (h11.2.1 : Int) + (h12.2.1 : Int) + (h13.2.1 : Int) == 0) = b0 := by rw [← e0]; simp only [emptyL, H2.out.1, H6.out.1, H7.out.1, H8.out.1, H9.out.1, H10.out.1, H11.out.1, H12.out.1, H13.out.1]; rw [Bool.eq_iff_iff]; simp; omega
 clear e0
 have t1 : x.1.toList.isEmpty = b1 := by exact e1
 clear e1
 have t2 : (x.2.1 == 0) = b2 := by exact e2
 clear e2
 have t3 : resZ x.2.2.2.1 = b3 := by exact e3
 clear e3
 have t4 : x.2.2.2.2.2.2.2.2.2.2.2.2.1.toList.isEmpty = b4 := by exact e4
 clear e4
 have t5 : x.2.2.2.2.2.2.2.2.2.2.2.2.2.toList.isEmpty = b5 := by exact e5
 clear e5
 have hE := eqR0 x.2.2.2.1
 have hG := guardR
 cases b0
 ·
  go_enter func94, ntmps94
  go_wp2_with fail
  go_ret
  exact ⟨retb (by rw [HF.out] <;> simp), HB.out⟩
 cases b1
 ·
  go_enter func94, ntmps94
  go_wp2_with fail
  go_ret
  exact ⟨retb (by rw [HF.out] <;> simp), HB.out⟩
 cases b2
 ·
  go_enter func94, ntmps94
  go_wp2_with fail
  go_ret
  exact ⟨retb (by rw [HF.out] <;> simp), HB.out⟩
 cases b3
 ·
  go_enter func94, ntmps94
  go_wp2_with fail
  go_ret
  exact ⟨retb (by rw [HF.out] <;> simp), HB.out⟩
 cases b4
 ·
  go_enter func94, ntmps94
  go_wp2_with fail
  go_ret
  exact ⟨retb (by rw [HF.out] <;> simp), HB.out⟩
 cases b5
 ·
  go_enter func94, ntmps94
  go_wp2_with fail
  go_ret
  exact ⟨retb (by rw [HF.out] <;> simp), HB.out⟩
 go_enter func94, ntmps94
 go_wp2_with fail
 go_ret
 exact ⟨retb (by rw [HF.out] <;> simp), HB.out⟩
end Go.Proofs.YtikncmcceeacmaaGreat

