/- slices.IndexFunc and ContainsFunc at string, with whatever function is handed in, and its like. No condition beyond what each says. -/
import Derived.Shelf.Abstract
import Derived.Laws.Cover1
import Derived.Test.YtfbnnfpnjjjfcaaGreatS16
namespace Go.Proofs.YtfbnnfpnjjjfcaaGreat
set_option maxHeartbeats 16000000
set_option maxRecDepth 100000
open Tryz Go.RowKit
set_option linter.unusedSimpArgs false
def Predstring (g : Nat) (lb : Array Value) (p : ByteArray → Bool) (w : World) : Prop :=
 ∀ (W : World) (cs : List Value) (x : ByteArray), Below w.heap.size w W → RStr (fun _ => True) W cs x → Calls prog g (#[.string x] ++ lb) W fun e w' => e = .returned (.bool (p x)) ∧ Below W.heap.size W w'
theorem Indexstring_calls (a : Option Addr) (n cap : Nat) (A : Where) (L : List ByteArray) (w : World) (hL : Hid (SlAt RStr 1 16 A w a n cap L)) (p : ByteArray → Bool) (g : Nat) (lb : Array Value) (eg : ∀ args w, (callFunc g args).run prog w = .ok (.enter g args) w) (hp : Hid (Predstring g lb p w)) :
  Calls prog 150 #[.slice a n cap, .func (.func g) #[] lb] w fun e w' => ((∃ i : Nat, i < L.length ∧ p (L.getD i default) = true ∧ (∀ j, j < i → p (L.getD j default) = false) ∧ e = .returned (.int .i64 i)) ∨ ((∀ j, j < L.length → p (L.getD j default) = false) ∧ e = .returned (.int .i64 (-1)))) ∧ Below w.heap.size w w' := by
 have hlen := hL.out.len (by decide)
 have HN : Hid (L.length = n) := hL.out.1
 go_enter func150, ntmps150
 go_wp2
 go_loopw [8] (fun i wr => ∃ k : Nat, k ≤ n ∧ i = .int .i64 k ∧ Below w.heap.size w wr ∧ Hid (∀ j, j < k → p (L.getD j default) = false)) (fun i _ => n - (intOf i).toNat)
 case atStart => exact ⟨0, Nat.zero_le _, rfl, Below.refl _ _, fun j hj => absurd hj (Nat.not_lt_zero _)⟩
 case round =>
  obtain ⟨k, hk, rfl, hbel, hall⟩ := hrel
  by_cases hlt : k < n
  ·
   obtain ⟨B, off, rfl, hB, _, cs, hr, hv⟩ := (hL.out.on RStr.firm hbel).get hlt
   obtain rfl : cs = [.string (L.getD k default)] := by first | exact hr | exact hr.1
   have hv0 := hv 0 _ rfl
   rw [Nat.add_zero, Nat.mul_one] at hv0
   have hcall := hp.out wr [.string (L.getD k default)] (L.getD k default) hbel (RStr.firm.weak hr (fun _ _ _ => trivial))
   clear hv hr
   have HG : Hid (p (L.getD k default) = false → ∀ j, j < k + 1 → p (L.getD j default) = false) := fun h j hj => by
    rcases Nat.lt_succ_iff_lt_or_eq.1 hj with h' | rfl
    ·
     exact hall.out j h'
    ·
     exact h
   have HF : Hid (p (L.getD k default) = true → ∃ i : Nat, i < L.length ∧ p (L.getD i default) = true ∧ (∀ j, j < i → p (L.getD j default) = false) ∧ Ending.returned (.int .i64 k) = .returned (.int .i64 i)) := fun h => ⟨k, by rw [HN.out]; exact hlt, h, hall.out, rfl⟩
   clear hall
   generalize L.getD k default = x at hv0 hcall HG HF
   cases hq : p x
   ·
    have HG' : Hid (∀ j, j < k + 1 → p (L.getD j default) = false) := HG.out hq
    rw [hq] at hcall
    clear HG HF hq
    go_wp2_with fail
    refine hcall.mono ?_
    rintro e w' ⟨rfl, hb'⟩
    go_wp2_with fail
    go_roundw
    case rel => exact ⟨k + 1, by omega, by go_num, on2 hbel hb', HG'⟩
    case measure => simp [intOf]; omega
   ·
    have HF' := HF.out hq
    have HF2 : Hid (∃ i : Nat, i < L.length ∧ p (L.getD i default) = true ∧ (∀ j, j < i → p (L.getD j default) = false) ∧ Ending.returned (.int .i64 k) = .returned (.int .i64 i)) := HF'
    rw [hq] at hcall
    clear HG HF hq HF'
    go_wp2_with fail
    refine hcall.mono ?_
    rintro e w' ⟨rfl, hb'⟩
    go_wp2_with fail
    go_ret
    exact ⟨.inl HF2.out, on2 hbel hb'⟩
  ·
   have HA : Hid (∀ j, j < L.length → p (L.getD j default) = false) := fun j hj => hall.out j (by rw [HN.out] at hj; omega)
   clear hall
   go_wp2
   go_ret
   exact ⟨.inr ⟨HA.out, rfl⟩, hbel⟩
theorem Containsstring_calls (a : Option Addr) (n cap : Nat) (A : Where) (L : List ByteArray) (w : World) (hL : Hid (SlAt RStr 1 16 A w a n cap L)) (p : ByteArray → Bool) (g : Nat) (lb : Array Value) (eg : ∀ args w, (callFunc g args).run prog w = .ok (.enter g args) w) (hp : Hid (Predstring g lb p w)) :
  Calls prog 142 #[.slice a n cap, .func (.func g) #[] lb] w fun e w' => e = .returned (.bool (L.any p)) ∧ Below w.heap.size w w' := by
 have hI := Indexstring_calls a n cap A L w hL p g lb eg hp
 go_enter func142, ntmps142
 go_wp2_with fail
 refine hI.mono ?_
 rintro e w1 ⟨⟨i, hi, hy, _, rfl⟩ | ⟨hn, rfl⟩, hb⟩
 ·
  have HA : Hid (L.any p = true) := any_yes hi hy
  clear hy
  go_wp2_with fail
  go_ret
  exact ⟨retb HA.out.symm, hb⟩
 ·
  have HA : Hid (L.any p = false) := any_no hn
  clear hn
  go_wp2_with fail
  go_ret
  exact ⟨retb HA.out.symm, hb⟩
theorem all1string (g : Nat) (eg : ∀ args w, (callFunc g args).run prog w = .ok (.enter g args) w) (p : ByteArray → Bool) (D : Nat) (w : World) (hD : D < w.heap.size) (cD : w.cell? ⟨D, 0, none⟩ = some (.func (.func g) #[] #[])) (hp : Hid (Predstring g #[] p w)) : Predstring 143 #[.pointer (some ⟨D, 0, none⟩)] (fun x => !p x) w := fun W cs x hb hr => by
 have hDW : D < W.heap.size := by have := hb.size; omega
 have d0 := (hb.cell (p := ⟨D, 0, none⟩) hD).trans cD
 have hcall := hp.out W cs x hb hr
 show Calls prog 143 #[.string x, .pointer (some ⟨D, 0, none⟩)] W fun e w' => e = .returned (.bool (!p x)) ∧ Below W.heap.size W w'
 generalize p x = r at hcall ⊢
 clear cD hp hb
 go_enter func143, ntmps143
 go_wp2_with fail
 refine hcall.mono ?_
 rintro e w1 ⟨rfl, hb1⟩
 go_wp2_with fail
 go_ret
 exact ⟨rfl, hb1⟩
theorem entsstring : ∀ args w, (callFunc 143 args).run prog w = .ok (.enter 143 args) w := Go.Proofs.enters_of func143 (by kernel_rfl) rfl
theorem not_anystring (L : List ByteArray) (p : ByteArray → Bool) : (!L.any (fun x => !p x)) = L.all p := by
 rw [Bool.eq_iff_iff]; simp
theorem allRightstring_calls (g : Nat) (eg : ∀ args w, (callFunc g args).run prog w = .ok (.enter g args) w) (a : Option Addr) (n cap : Nat) (A : Where) (L : List ByteArray) (p : ByteArray → Bool) (w : World) (hL : Hid (SlAt RStr 1 16 A w a n cap L)) (hp : Hid (Predstring g #[] p w)) : Calls prog 126 #[.slice a n cap, .func (.func g) #[] #[]] w fun e w' => e = .returned (.bool (L.all p)) ∧ Below w.heap.size w w' := by
 have hb0 : Below w.heap.size w (w.alloc (.cells #[.func (.func g) #[] #[]] 91)) := by go_grown
 have hC := Containsstring_calls a n cap A L (w.alloc (.cells #[.func (.func g) #[] #[]] 91)) (hL.out.on RStr.firm hb0) (fun x => !p x) 143 #[.pointer (some ⟨w.heap.size, 0, none⟩)] entsstring (all1string g eg p w.heap.size _ (by simp) (by simp [go_sem]) (fun W cs x hb hr => hp.out W cs x (on2 hb0 hb) hr))
 have HF := not_anystring L p
 generalize L.any (fun x => !p x) = r at hC HF
 have HF2 : Hid ((!r) = L.all p) := HF
 clear HF hL hp
 go_enter func126, ntmps126
 go_wp2_with fail
 refine hC.mono ?_
 rintro e w1 ⟨rfl, hb1⟩
 go_wp2_with fail
 go_ret
 exact ⟨retb HF2.out, on2 hb0 hb1⟩
theorem itemsstring_calls (g : Nat) (eg : ∀ args w, (callFunc g args).run prog w = .ok (.enter g args) w) (a : Option Addr) (n cap : Nat) (A : Where) (L : List ByteArray) (p : ByteArray → Bool) (w : World) (hL : Hid (SlAt RStr 1 16 A w a n cap L)) (hp : Hid (Predstring g #[] p w)) : Calls prog 112 #[.slice a n cap, .func (.func g) #[] #[]] w fun e w' => e = .returned (.bool (itemsB p L)) ∧ Below w.heap.size w w' := by
 have hC := allRightstring_calls g eg a n cap A L p w hL hp
 have hn := hL.out.1
 by_cases h : (n : Int) ≤ 64
 ·
  have HF : Hid (itemsB p L = L.all p) := by rw [Hid, itemsB, hn]; simp; omega
  generalize L.all p = r at hC HF
  clear hn hL hp
  go_enter func112, ntmps112
  go_wp2_with fail
  refine hC.mono ?_
  rintro e w1 ⟨rfl, hb1⟩
  go_wp2_with fail
  go_ret
  exact ⟨retb HF.out.symm, hb1⟩
 ·
  have HF : Hid (itemsB p L = false) := by rw [Hid, itemsB, hn]; simp; omega
  have h2 : decide ((n : Int) ≤ 64) = false := by simp [h]
  clear hC hn hL hp
  go_enter func112, ntmps112
  go_wp2_with fail
  go_ret
  exact ⟨retb HF.out.symm, Below.refl _ _⟩
theorem oneint_calls (x : Int) (w : World) : Calls prog 123 #[.int .i64 x] w fun e w' => e = .returned (.int .i64 x) ∧ Below w.heap.size w w' := by
 go_enter func123, ntmps123
 go_wp2
 go_ret
 exact ⟨rfl, Below.refl _ _⟩
theorem risingint_calls  (a : Option Addr) (n cap : Nat) (A : Where) (L : List Int) (w : World) (hL : Hid (SlAt RInt 1 8 A w a n cap L)) : Calls prog 122 #[.slice a n cap, .func (.func 123) #[] #[]] w fun e w' => e = .returned (.bool (risesBy iLt id L)) ∧ Below w.heap.size w w' := by
 have hlen := hL.out.len (by decide)
 have HN : Hid (L.length = n) := hL.out.1
 go_enter func122, ntmps122
 go_wp2
 go_loopw [5] (fun i wr => ∃ k : Nat, 1 ≤ k ∧ (k ≤ n ∨ k = 1) ∧ i = .int .i64 k ∧ Below w.heap.size w wr ∧ Hid (∀ j, j < k → (decide (j = 0) || iLt (id (L.getD (j - 1) default)) (id (L.getD j default))) = true)) (fun i _ => n - (intOf i).toNat)
 case atStart => exact ⟨1, Nat.le_refl _, .inr rfl, rfl, Below.refl _ _, fun j hj => (by have h0 : j = 0 := (by omega); simp [h0])⟩
 case round =>
  obtain ⟨k, hk1, hk, rfl, hbel, hall⟩ := hrel
  by_cases hlt : k < n
  ·
   obtain ⟨m, hm⟩ : ∃ m, Hid (k = m + 1) := ⟨k - 1, by unfold Hid; omega⟩
   have hme := hm.out
   have hmw : IntKind.i64.wrap ((k : Int) - 1) = (m : Int) := by rw [hme]; simp only [Int.natCast_add, Int.cast_ofNat_Int, Int.add_sub_cancel]; simp [IntKind.wrap, IntKind.bits, IntKind.signed]; omega
   have hml : m < n := by omega
   have hkm : k - 1 = m := by omega
   obtain ⟨B, off, ea, hB, _, ds, hrd, hvd⟩ := (hL.out.on RInt.firm hbel).get hlt
   obtain ⟨B', off', ea', _, _, cs, hrc, hvc⟩ := (hL.out.on RInt.firm hbel).get hml
   rw [ea] at ea'
   obtain ⟨rfl, rfl⟩ : B = B' ∧ off = off' := by simpa using ea'
   subst ea
   have HBW : Hid (B < wr.heap.size) := hB
   have hltz : (k : Int) < (n : Int) := by omega
   have hmlz : (m : Int) < (n : Int) := by omega
   obtain rfl : cs = [.int .i64 (L.getD m default)] := by first | exact hrc | exact hrc.1
   obtain rfl : ds = [.int .i64 (L.getD k default)] := by first | exact hrd | exact hrd.1
   have HC : Hid (wr.cell? ⟨B, off + m, none⟩ = some (.int .i64 (L.getD m default))) := by have := hvc 0 _ rfl; simpa [Hid] using this
   have HD : Hid (wr.cell? ⟨B, off + k, none⟩ = some (.int .i64 (L.getD k default))) := by have := hvd 0 _ rfl; simpa [Hid] using this
   have hbad : Hid (iLt (id (L.getD m default)) (id (L.getD k default)) = false → risesBy iLt id L = false) := fun h => allTo_false (k := k) (by rw [HN.out]; exact hlt) (by rw [hkm, h]; simp; omega)
   have hgo : Hid (iLt (id (L.getD m default)) (id (L.getD k default)) = true → ∀ j, j < k + 1 → (decide (j = 0) || iLt (id (L.getD (j - 1) default)) (id (L.getD j default))) = true) := fun h j hj => by
    rcases Nat.lt_succ_iff_lt_or_eq.1 hj with h' | rfl
    ·
     exact hall.out j h'
    ·
     rw [hkm, h]; simp
   clear hall hvc hvd hrc hrd hme hkm ea'
   generalize L.getD m default = x at hbad hgo HC
   generalize L.getD k default = y at hbad hgo HD
   cases hc : iLt (id x) (id y)
   ·
    have HF : Hid (risesBy iLt id L = false) := hbad.out hc
    simp only [iLt, id, decide_eq_false_iff_not, decide_eq_true_eq] at hc
    clear hbad hgo
    go_wp2_with fail
    refine t0 (fun u => Below wr.heap.size wr u ∧ u.cell? ⟨B, off + m, none⟩ = some (.int .i64 x) ∧ u.cell? ⟨B, off + k, none⟩ = some (.int .i64 y)) (⟨(Below.refl _ _).drew, HC.out, HD.out⟩) (fun hH => ?_)
    refine tp 0 ?_; try go_frame
    refine tp 1 ?_; try go_frame
    refine tp 2 ?_; try go_frame
    refine tp 3 ?_; try go_frame
    refine tp 4 ?_; try go_frame
    refine' tk 5 ?_ ?_; rotate_left
    ·
     intro u hu; have hc0 := hu.2.1; go_simp; try with_reducible rfl
    try go_frame
    refine tp 7 ?_; try go_frame
    refine tp 8 ?_; try go_frame
    refine tp 9 ?_; try go_frame
    refine tp 10 ?_; try go_frame
    refine' tk 11 ?_ ?_; rotate_left
    ·
     intro u hu; have hc0 := hu.2.2; go_simp; try with_reducible rfl
    try go_frame
    refine tr 6 (fun K hK => ?_)
    refine want_yes (by rfl) (call_enter (f := 123) (args := #[.int .i64 x]) (by kernel_rfl) (oneint_calls x _) (fun e u1 he => ?_))
    obtain ⟨rfl, hb1⟩ := he
    refine ⟨_, rfl, hK.out _ _ (⟨on2 hH.1 hb1, (hb1.cell (p := ⟨B, off + m, none⟩) (Nat.lt_of_lt_of_le HBW.out hH.1.size)).trans hH.2.1, (hb1.cell (p := ⟨B, off + k, none⟩) (Nat.lt_of_lt_of_le HBW.out hH.1.size)).trans hH.2.2⟩) (fun hH => ?_)⟩
    clear hK K
    try go_frame
    refine tr 12 (fun K hK => ?_)
    refine want_yes (by rfl) (call_enter (f := 123) (args := #[.int .i64 y]) (by kernel_rfl) (oneint_calls y _) (fun e u1 he => ?_))
    obtain ⟨rfl, hb1⟩ := he
    have HB2 : Hid (Below wr.heap.size wr u1) := on2 hH.1 hb1
    refine ⟨_, rfl, hK.out _ _ (⟨on2 hH.1 hb1, (hb1.cell (p := ⟨B, off + m, none⟩) (Nat.lt_of_lt_of_le HBW.out hH.1.size)).trans hH.2.1, (hb1.cell (p := ⟨B, off + k, none⟩) (Nat.lt_of_lt_of_le HBW.out hH.1.size)).trans hH.2.2⟩) (fun hH => ?_)⟩
    clear hK K
    try go_frame
    refine tp 13 ?_; try go_frame
    refine tz ?_
    skip
    go_wp2_with fail
    go_ret
    exact ⟨retb HF.out.symm, on2 hbel HB2.out⟩
   ·
    have HG := hgo.out hc
    have HG2 : Hid (∀ j, j < k + 1 → (decide (j = 0) || iLt (id (L.getD (j - 1) default)) (id (L.getD j default))) = true) := HG
    simp only [iLt, id, decide_eq_false_iff_not, decide_eq_true_eq] at hc
    clear hbad hgo HG
    go_wp2_with fail
    refine t0 (fun u => Below wr.heap.size wr u ∧ u.cell? ⟨B, off + m, none⟩ = some (.int .i64 x) ∧ u.cell? ⟨B, off + k, none⟩ = some (.int .i64 y)) (⟨(Below.refl _ _).drew, HC.out, HD.out⟩) (fun hH => ?_)
    refine tp 0 ?_; try go_frame
    refine tp 1 ?_; try go_frame
    refine tp 2 ?_; try go_frame
    refine tp 3 ?_; try go_frame
    refine tp 4 ?_; try go_frame
    refine' tk 5 ?_ ?_; rotate_left
    ·
     intro u hu; have hc0 := hu.2.1; go_simp; try with_reducible rfl
    try go_frame
    refine tp 7 ?_; try go_frame
    refine tp 8 ?_; try go_frame
    refine tp 9 ?_; try go_frame
    refine tp 10 ?_; try go_frame
    refine' tk 11 ?_ ?_; rotate_left
    ·
     intro u hu; have hc0 := hu.2.2; go_simp; try with_reducible rfl
    try go_frame
    refine tr 6 (fun K hK => ?_)
    refine want_yes (by rfl) (call_enter (f := 123) (args := #[.int .i64 x]) (by kernel_rfl) (oneint_calls x _) (fun e u1 he => ?_))
    obtain ⟨rfl, hb1⟩ := he
    refine ⟨_, rfl, hK.out _ _ (⟨on2 hH.1 hb1, (hb1.cell (p := ⟨B, off + m, none⟩) (Nat.lt_of_lt_of_le HBW.out hH.1.size)).trans hH.2.1, (hb1.cell (p := ⟨B, off + k, none⟩) (Nat.lt_of_lt_of_le HBW.out hH.1.size)).trans hH.2.2⟩) (fun hH => ?_)⟩
    clear hK K
    try go_frame
    refine tr 12 (fun K hK => ?_)
    refine want_yes (by rfl) (call_enter (f := 123) (args := #[.int .i64 y]) (by kernel_rfl) (oneint_calls y _) (fun e u1 he => ?_))
    obtain ⟨rfl, hb1⟩ := he
    have HB2 : Hid (Below wr.heap.size wr u1) := on2 hH.1 hb1
    refine ⟨_, rfl, hK.out _ _ (⟨on2 hH.1 hb1, (hb1.cell (p := ⟨B, off + m, none⟩) (Nat.lt_of_lt_of_le HBW.out hH.1.size)).trans hH.2.1, (hb1.cell (p := ⟨B, off + k, none⟩) (Nat.lt_of_lt_of_le HBW.out hH.1.size)).trans hH.2.2⟩) (fun hH => ?_)⟩
    clear hK K
    try go_frame
    refine tp 13 ?_; try go_frame
    refine tz ?_
    skip
    go_wp2_with fail
    go_roundw
    case rel => exact ⟨k + 1, by omega, .inl (by omega), by go_num, on2 hbel HB2.out, HG2⟩
    case measure => simp [intOf]; omega
  ·
   have HF : Hid (risesBy iLt id L = true) := allTo_true (fun j hj => hall.out j (by rw [HN.out] at hj; omega))
   clear hall
   go_wp2
   go_ret
   exact ⟨retb HF.out.symm, hbel⟩
theorem risesint_calls (a : Option Addr) (n cap : Nat) (A : Where) (L : List Int) (w : World) (hL : Hid (SlAt RInt 1 8 A w a n cap L)) : Calls prog 107 #[.slice a n cap] w fun e w' => e = .returned (.bool (risesBy iLt id L)) ∧ Below w.heap.size w w' := by
 have hC := risingint_calls a n cap A L w hL
 generalize risesBy iLt id L = r at hC ⊢
 go_enter func107, ntmps107
 go_wp2_with fail
 refine hC.mono ?_
 rintro e w1 ⟨rfl, hb1⟩
 go_wp2_with fail
 go_ret
 exact ⟨rfl, hb1⟩
theorem onestring_calls (x : ByteArray) (w : World) : Calls prog 128 #[.string x] w fun e w' => e = .returned (.string x) ∧ Below w.heap.size w w' := by
 go_enter func128, ntmps128
 go_wp2
 go_ret
 exact ⟨rfl, Below.refl _ _⟩
theorem risingstring_calls  (a : Option Addr) (n cap : Nat) (A : Where) (L : List ByteArray) (w : World) (hL : Hid (SlAt RStr 1 16 A w a n cap L)) : Calls prog 127 #[.slice a n cap, .func (.func 128) #[] #[]] w fun e w' => e = .returned (.bool (risesBy sLt id L)) ∧ Below w.heap.size w w' := by
 have hlen := hL.out.len (by decide)
 have HN : Hid (L.length = n) := hL.out.1
 go_enter func127, ntmps127
 go_wp2
 go_loopw [5] (fun i wr => ∃ k : Nat, 1 ≤ k ∧ (k ≤ n ∨ k = 1) ∧ i = .int .i64 k ∧ Below w.heap.size w wr ∧ Hid (∀ j, j < k → (decide (j = 0) || sLt (id (L.getD (j - 1) default)) (id (L.getD j default))) = true)) (fun i _ => n - (intOf i).toNat)
 case atStart => exact ⟨1, Nat.le_refl _, .inr rfl, rfl, Below.refl _ _, fun j hj => (by have h0 : j = 0 := (by omega); simp [h0])⟩
 case round =>
  obtain ⟨k, hk1, hk, rfl, hbel, hall⟩ := hrel
  by_cases hlt : k < n
  ·
   obtain ⟨m, hm⟩ : ∃ m, Hid (k = m + 1) := ⟨k - 1, by unfold Hid; omega⟩
   have hme := hm.out
   have hmw : IntKind.i64.wrap ((k : Int) - 1) = (m : Int) := by rw [hme]; simp only [Int.natCast_add, Int.cast_ofNat_Int, Int.add_sub_cancel]; simp [IntKind.wrap, IntKind.bits, IntKind.signed]; omega
   have hml : m < n := by omega
   have hkm : k - 1 = m := by omega
   obtain ⟨B, off, ea, hB, _, ds, hrd, hvd⟩ := (hL.out.on RStr.firm hbel).get hlt
   obtain ⟨B', off', ea', _, _, cs, hrc, hvc⟩ := (hL.out.on RStr.firm hbel).get hml
   rw [ea] at ea'
   obtain ⟨rfl, rfl⟩ : B = B' ∧ off = off' := by simpa using ea'
   subst ea
   have HBW : Hid (B < wr.heap.size) := hB
   have hltz : (k : Int) < (n : Int) := by omega
   have hmlz : (m : Int) < (n : Int) := by omega
   obtain rfl : cs = [.string (L.getD m default)] := by first | exact hrc | exact hrc.1
   obtain rfl : ds = [.string (L.getD k default)] := by first | exact hrd | exact hrd.1
   have HC : Hid (wr.cell? ⟨B, off + m, none⟩ = some (.string (L.getD m default))) := by have := hvc 0 _ rfl; simpa [Hid] using this
   have HD : Hid (wr.cell? ⟨B, off + k, none⟩ = some (.string (L.getD k default))) := by have := hvd 0 _ rfl; simpa [Hid] using this
   have hbad : Hid (sLt (id (L.getD m default)) (id (L.getD k default)) = false → risesBy sLt id L = false) := fun h => allTo_false (k := k) (by rw [HN.out]; exact hlt) (by rw [hkm, h]; simp; omega)
   have hgo : Hid (sLt (id (L.getD m default)) (id (L.getD k default)) = true → ∀ j, j < k + 1 → (decide (j = 0) || sLt (id (L.getD (j - 1) default)) (id (L.getD j default))) = true) := fun h j hj => by
    rcases Nat.lt_succ_iff_lt_or_eq.1 hj with h' | rfl
    ·
     exact hall.out j h'
    ·
     rw [hkm, h]; simp
   clear hall hvc hvd hrc hrd hme hkm ea'
   generalize L.getD m default = x at hbad hgo HC
   generalize L.getD k default = y at hbad hgo HD
   cases hc : sLt (id x) (id y)
   ·
    have HF : Hid (risesBy sLt id L = false) := hbad.out hc
    simp only [sLt, id] at hc
    clear hbad hgo
    go_wp2_with fail
    refine t0 (fun u => Below wr.heap.size wr u ∧ u.cell? ⟨B, off + m, none⟩ = some (.string x) ∧ u.cell? ⟨B, off + k, none⟩ = some (.string y)) (⟨(Below.refl _ _).drew, HC.out, HD.out⟩) (fun hH => ?_)
    refine tp 0 ?_; try go_frame
    refine tp 1 ?_; try go_frame
    refine tp 2 ?_; try go_frame
    refine tp 3 ?_; try go_frame
    refine tp 4 ?_; try go_frame
    refine' tk 5 ?_ ?_; rotate_left
    ·
     intro u hu; have hc0 := hu.2.1; go_simp; try with_reducible rfl
    try go_frame
    refine tp 7 ?_; try go_frame
    refine tp 8 ?_; try go_frame
    refine tp 9 ?_; try go_frame
    refine tp 10 ?_; try go_frame
    refine' tk 11 ?_ ?_; rotate_left
    ·
     intro u hu; have hc0 := hu.2.2; go_simp; try with_reducible rfl
    try go_frame
    refine tr 6 (fun K hK => ?_)
    refine want_yes (by rfl) (call_enter (f := 128) (args := #[.string x]) (by kernel_rfl) (onestring_calls x _) (fun e u1 he => ?_))
    obtain ⟨rfl, hb1⟩ := he
    refine ⟨_, rfl, hK.out _ _ (⟨on2 hH.1 hb1, (hb1.cell (p := ⟨B, off + m, none⟩) (Nat.lt_of_lt_of_le HBW.out hH.1.size)).trans hH.2.1, (hb1.cell (p := ⟨B, off + k, none⟩) (Nat.lt_of_lt_of_le HBW.out hH.1.size)).trans hH.2.2⟩) (fun hH => ?_)⟩
    clear hK K
    try go_frame
    refine tr 12 (fun K hK => ?_)
    refine want_yes (by rfl) (call_enter (f := 128) (args := #[.string y]) (by kernel_rfl) (onestring_calls y _) (fun e u1 he => ?_))
    obtain ⟨rfl, hb1⟩ := he
    have HB2 : Hid (Below wr.heap.size wr u1) := on2 hH.1 hb1
    refine ⟨_, rfl, hK.out _ _ (⟨on2 hH.1 hb1, (hb1.cell (p := ⟨B, off + m, none⟩) (Nat.lt_of_lt_of_le HBW.out hH.1.size)).trans hH.2.1, (hb1.cell (p := ⟨B, off + k, none⟩) (Nat.lt_of_lt_of_le HBW.out hH.1.size)).trans hH.2.2⟩) (fun hH => ?_)⟩
    clear hK K
    try go_frame
    refine tp 13 ?_; try go_frame
    refine tz ?_
    skip
    go_wp2_with fail
    go_ret
    exact ⟨retb HF.out.symm, on2 hbel HB2.out⟩
   ·
    have HG := hgo.out hc
    have HG2 : Hid (∀ j, j < k + 1 → (decide (j = 0) || sLt (id (L.getD (j - 1) default)) (id (L.getD j default))) = true) := HG
    simp only [sLt, id] at hc
    clear hbad hgo HG
    go_wp2_with fail
    refine t0 (fun u => Below wr.heap.size wr u ∧ u.cell? ⟨B, off + m, none⟩ = some (.string x) ∧ u.cell? ⟨B, off + k, none⟩ = some (.string y)) (⟨(Below.refl _ _).drew, HC.out, HD.out⟩) (fun hH => ?_)
    refine tp 0 ?_; try go_frame
    refine tp 1 ?_; try go_frame
    refine tp 2 ?_; try go_frame
    refine tp 3 ?_; try go_frame
    refine tp 4 ?_; try go_frame
    refine' tk 5 ?_ ?_; rotate_left
    ·
     intro u hu; have hc0 := hu.2.1; go_simp; try with_reducible rfl
    try go_frame
    refine tp 7 ?_; try go_frame
    refine tp 8 ?_; try go_frame
    refine tp 9 ?_; try go_frame
    refine tp 10 ?_; try go_frame
    refine' tk 11 ?_ ?_; rotate_left
    ·
     intro u hu; have hc0 := hu.2.2; go_simp; try with_reducible rfl
    try go_frame
    refine tr 6 (fun K hK => ?_)
    refine want_yes (by rfl) (call_enter (f := 128) (args := #[.string x]) (by kernel_rfl) (onestring_calls x _) (fun e u1 he => ?_))
    obtain ⟨rfl, hb1⟩ := he
    refine ⟨_, rfl, hK.out _ _ (⟨on2 hH.1 hb1, (hb1.cell (p := ⟨B, off + m, none⟩) (Nat.lt_of_lt_of_le HBW.out hH.1.size)).trans hH.2.1, (hb1.cell (p := ⟨B, off + k, none⟩) (Nat.lt_of_lt_of_le HBW.out hH.1.size)).trans hH.2.2⟩) (fun hH => ?_)⟩
    clear hK K
    try go_frame
    refine tr 12 (fun K hK => ?_)
    refine want_yes (by rfl) (call_enter (f := 128) (args := #[.string y]) (by kernel_rfl) (onestring_calls y _) (fun e u1 he => ?_))
    obtain ⟨rfl, hb1⟩ := he
    have HB2 : Hid (Below wr.heap.size wr u1) := on2 hH.1 hb1
    refine ⟨_, rfl, hK.out _ _ (⟨on2 hH.1 hb1, (hb1.cell (p := ⟨B, off + m, none⟩) (Nat.lt_of_lt_of_le HBW.out hH.1.size)).trans hH.2.1, (hb1.cell (p := ⟨B, off + k, none⟩) (Nat.lt_of_lt_of_le HBW.out hH.1.size)).trans hH.2.2⟩) (fun hH => ?_)⟩
    clear hK K
    try go_frame
    refine tp 13 ?_; try go_frame
    refine tz ?_
    skip
    go_wp2_with fail
    go_roundw
    case rel => exact ⟨k + 1, by omega, .inl (by omega), by go_num, on2 hbel HB2.out, HG2⟩
    case measure => simp [intOf]; omega
  ·
   have HF : Hid (risesBy sLt id L = true) := allTo_true (fun j hj => hall.out j (by rw [HN.out] at hj; omega))
   clear hall
   go_wp2
   go_ret
   exact ⟨retb HF.out.symm, hbel⟩
theorem risesstring_calls (a : Option Addr) (n cap : Nat) (A : Where) (L : List ByteArray) (w : World) (hL : Hid (SlAt RStr 1 16 A w a n cap L)) : Calls prog 113 #[.slice a n cap] w fun e w' => e = .returned (.bool (risesBy sLt id L)) ∧ Below w.heap.size w w' := by
 have hC := risingstring_calls a n cap A L w hL
 generalize risesBy sLt id L = r at hC ⊢
 go_enter func113, ntmps113
 go_wp2_with fail
 refine hC.mono ?_
 rintro e w1 ⟨rfl, hb1⟩
 go_wp2_with fail
 go_ret
 exact ⟨rfl, hb1⟩
end Go.Proofs.YtfbnnfpnjjjfcaaGreat

