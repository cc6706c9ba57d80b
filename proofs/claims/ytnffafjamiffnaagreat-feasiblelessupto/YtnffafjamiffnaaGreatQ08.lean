/- Functions of the program, each walked under the conditions that its theorem names. -/
import Derived.Test.YtnffafjamiffnaaGreatQ00
import Derived.Laws.StructEq
import Derived.Test.YtnffafjamiffnaaGreatQ07
set_option linter.unusedSimpArgs false
set_option maxRecDepth 100000
set_option maxHeartbeats 32000000
namespace Go.Proofs.YtnffafjamiffnaaGreat
open Go.RowKit
theorem zEG (V : List ByteArray) (s : ByteArray) : Lib.containsS V s = hasL V s := by
 rw [Bool.eq_iff_iff, Lib.containsS_iff, hasL, List.any_eq_true]
 constructor
 ·intro h; exact ⟨s, h, zCQ s⟩
 ·rintro ⟨v, hv, h⟩; rw [<- (zA7 v s).1 h]; exact hv
theorem zDF (a : Option Addr) (cap : Nat) (V : List ByteArray) (s : ByteArray) (w : World) (hV : Hid (StrsAt w a V)) : Calls Tryz.prog 243 #[.slice a V.length cap, .string s] w fun e w' => e = .returned (.bool (hasL V s)) /\ w' = w := by
 by_cases h : V = []
 ·subst h
  exact Tryz.slices_Contains_string_empty a cap s w
 ·obtain ⟨h1, h2, h3⟩ := hV.out
  obtain ⟨B, off, rfl, hB, hc⟩ := h3 h
  have := Tryz.slices_Contains_string B off V.length cap V s w (Nat.le_refl _) (by omega) hc
  rw [List.take_length, zEG] at this
  exact this
theorem zGd (v : ByteArray) (t : Bool) (a : Option Addr) (cap : Nat) (V : List ByteArray) (w : World) (hV : Hid (StrsAt w a V)) : Calls Tryz.prog 229 #[.agg #[.string v, .bool t, .slice a V.length cap]] w fun e w' => e = .returned (.bool (t && hasL V v)) /\ Below w.heap.size w w' := by
 have hb0 : Below w.heap.size w (w.alloc (.cells #[.string v, .bool t, .slice a V.length cap] 311)) := (Below.refl _ _).alloc (Nat.le_refl _) _
 have hc := zDF a cap V v _ (show Hid (StrsAt (w.alloc (.cells #[.string v, .bool t, .slice a V.length cap] 311)) a V) from hV.out.on hb0)
 generalize hasL V v = b at hc
 clear hV
 cases t
 ·go_enter Tryz.func229, Tryz.ntmps229
  go_wp2
  go_ret
  exact ⟨rfl, hb0⟩
 ·go_enter Tryz.func229, Tryz.ntmps229
  go_wp2_with (go_at_call 243; refine hc.mono ?_; rintro e w' ⟨rfl, rfl⟩)
  go_ret
  exact ⟨by simp, hb0⟩
theorem zFY (v : ByteArray) (t : Bool) (a : Option Addr) (n cap : Nat) (w : World) : Calls Tryz.prog 231 #[.agg #[.string v, .bool t, .slice a n cap]] w fun e w' => e = .returned (.bool t) /\ Below w.heap.size w w' := by
 go_enter Tryz.func231, Tryz.ntmps231
 go_wp2
 go_ret
 exact ⟨rfl, by go_grown⟩
theorem zGG (v : ByteArray) (t : Bool) (a : Option Addr) (n cap : Nat) (w : World) : Calls Tryz.prog 232 #[.agg #[.string v, .bool t, .slice a n cap]] w fun e w' => e = .returned (.bool (!t)) /\ Below w.heap.size w w' := by
 go_enter Tryz.func232, Tryz.ntmps232
 go_wp2
 go_ret
 exact ⟨rfl, by go_grown⟩
theorem zFw (v : ByteArray) (t : Bool) (a : Option Addr) (n cap : Nat) (w : World) : Calls Tryz.prog 235 #[.agg #[.string v, .bool t, .slice a n cap]] w fun e w' => e = .returned (.bool false) /\ Below w.heap.size w w' := by
 go_enter Tryz.func235, Tryz.ntmps235
 go_wp2
 go_ret
 exact ⟨rfl, by go_grown⟩
theorem zFf (v : ByteArray) (t : Bool) (a : Option Addr) (cap : Nat) (V : List ByteArray) (w : World) (hV : Hid (StrsAt w a V)) : Calls Tryz.prog 230 #[.agg #[.string v, .bool t, .slice a V.length cap]] w fun e w' => e = .returned (.bool (!(t && hasL V v))) /\ Below w.heap.size w w' := by
 have hb0 : Below w.heap.size w (w.alloc (.cells #[.string v, .bool t, .slice a V.length cap] 311)) := (Below.refl _ _).alloc (Nat.le_refl _) _
 have hc := zGd v t a cap V _ (show Hid (StrsAt (w.alloc (.cells #[.string v, .bool t, .slice a V.length cap] 311)) a V) from hV.out.on hb0)
 generalize (t && hasL V v) = b at hc
 clear hV
 go_enter Tryz.func230, Tryz.ntmps230
 go_wp2_with (go_at_call 229; refine hc.mono ?_; rintro e w' ⟨rfl, hb⟩)
 go_ret
 exact ⟨rfl, on2 hb0 hb⟩
theorem zAT (v : ByteArray) (t : Bool) (a : Option Addr) (cap : Nat) (V : List ByteArray) (w : World) (hV : Hid (StrsAt w a V)) : Calls Tryz.prog 244 #[.agg #[.string v, .bool t, .slice a V.length cap]] w fun e w' => e = .returned (.bool (t && numB v && (decide (V.length = 1) && numB (V.getD 0 default)))) /\ Below w.heap.size w w' := by
 have hb0 : Below w.heap.size w (w.alloc (.cells #[.string v, .bool t, .slice a V.length cap] 311)) := (Below.refl _ _).alloc (Nat.le_refl _) _
 have h1 := zBY v
 have h2 := zD7 a cap V _ (show Hid (StrsAt (w.alloc (.cells #[.string v, .bool t, .slice a V.length cap] 311)) a V) from hV.out.on hb0)
 generalize (decide (V.length = 1) && numB (V.getD 0 default)) = c at h2
 generalize numB v = b at h1
 clear hV
 cases t
 ·go_enter Tryz.func244, Tryz.ntmps244
  go_wp2
  go_ret
  exact ⟨rfl, hb0⟩
 ·cases b
  ·go_enter Tryz.func244, Tryz.ntmps244
   go_wp2_with (go_at_call 252; refine (h1 _).mono ?_; rintro e w' ⟨rfl, rfl⟩)
   go_ret
   exact ⟨rfl, hb0⟩
  ·go_enter Tryz.func244, Tryz.ntmps244
   go_wp2_with (first | (go_at_call 252; refine (h1 _).mono ?_; rintro e w' ⟨rfl, rfl⟩) | (go_at_call 253; refine h2.mono ?_; rintro e w' ⟨rfl, rfl⟩))
   go_ret
   exact ⟨by simp, hb0⟩
def orI (x y : Int) : Int := if x ≠ 0 then x else y
theorem Or_calls (B : Nat) (cap : Nat) (x y : Int) (w : World) (c0 : w.cell? ⟨B, 0, none⟩ = some (.int .i64 x)) (c1 : w.cell? ⟨B, 0 + 1, none⟩ = some (.int .i64 y)) : Calls Tryz.prog 221 #[.slice (some ⟨B, 0, none⟩) 2 cap] w fun e w' => e = .returned (.int .i64 (orI x y)) /\ w' = w := by
 go_enter Tryz.func221, Tryz.ntmps221
 go_wp2
 go_loop [8] (fun i => ∃ k : Nat, k <= 2 /\ i = .int .i64 k /\ Hid (1 <= k -> x = 0) /\ Hid (2 <= k -> y = 0)) (fun i => 2 - (intOf i).toNat)
 case atStart => exact ⟨0, by omega, rfl, fun h => absurd h (by omega), fun h => absurd h (by omega)⟩
 case round =>
  obtain ⟨k, hk, rfl, hx, hy⟩ := hrel
  match k, hk with
  | 0, _ =>
   by_cases h : x = 0
   ·subst h
    go_wp2
    go_round
    case rel => exact ⟨1, by omega, by go_num, by unfold Hid; simp, fun h => absurd h (by omega)⟩
    case measure => simp [intOf]
   ·have h' : (x != 0) = true := bne_iff_ne.2 h
    have HF : Hid (orI x y = x) := if_pos h
    go_wp2
    go_ret
    exact ⟨by rw [HF.out]; rfl, rfl⟩
  | 1, _ =>
   have hx0 := hx.out (by omega)
   subst hx0
   by_cases h : y = 0
   ·subst h
    go_wp2
    go_round
    case rel => exact ⟨2, by omega, by go_num, by unfold Hid; simp, by unfold Hid; simp⟩
    case measure => simp [intOf]
   ·have h' : (y != 0) = true := bne_iff_ne.2 h
    have HF : Hid (orI 0 y = y) := if_neg (by simp)
    go_wp2
    go_ret
    exact ⟨by rw [HF.out]; rfl, rfl⟩
  | 2, _ =>
   have hx0 := hx.out (by omega)
   have hy0 := hy.out (by omega)
   subst hx0 hy0
   go_wp2
   go_ret
   exact ⟨rfl, rfl⟩
theorem zAd (a b : ByteArray) (w : World) : Calls Tryz.prog 245 #[.string a, .string b] w fun e w' => e = .returned (.int .i64 (cmpN a b)) /\ Below w.heap.size w w' := by
 have h1 := Tryz.cmp_Compare_int a.size b.size
 have h2 := Tryz.strings_Compare a b
 have HF : Hid (cmpN a b = orI (Lib.compareInt a.size b.size) (Lib.compareBytes a.data.toList b.data.toList)) := rfl
 generalize Lib.compareInt a.size b.size = x at h1 HF
 generalize Lib.compareBytes a.data.toList b.data.toList = y at h2 HF
 have h3 := Or_calls w.heap.size 2 x y (w.alloc (.cells #[.int .i64 x, .int .i64 y] 3)) (by simp [go_sem]) (by simp [go_sem])
 generalize orI x y = r at h3 HF
 go_enter Tryz.func245, Tryz.ntmps245
 go_wp2_with (first | (go_at_call 222; refine (h1 _).mono ?_; rintro e w' ⟨rfl, rfl⟩) | (go_at_call 223; refine (h2 _).mono ?_; rintro e w' ⟨rfl, rfl⟩) | (go_at_call 221; refine h3.mono ?_; rintro e w' ⟨rfl, rfl⟩))
 go_ret
 exact ⟨by rw [HF.out]; rfl, by go_grown⟩
theorem IndexS (a : Option Addr) (n cap : Nat) (A : Where) (L : List ByteArray) (s : ByteArray) (w : World) (hL : Hid (SlAt RStr 1 16 A w a n cap L)) : Calls Tryz.prog 251 #[.slice a n cap, .string s] w fun e w' => (∃ k : Int, e = .returned (.int .i64 k) /\ hasB sEq L s = decide (0 <= k)) /\ w' = w := by
 have hn : Hid (L.length = n) := hL.out.1
 have hlen := hL.out.len (by decide)
 go_enter Tryz.func251, Tryz.ntmps251
 go_wp2_with fail
 go_loop [8] (fun i => ∃ k : Nat, k <= n /\ i = .int .i64 k /\ Hid (hasB sEq (L.take k) s = false)) (fun i => n - (intOf i).toNat)
 case atStart => exact ⟨0, Nat.zero_le _, rfl, rfl⟩
 case round =>
  obtain ⟨k, hk, rfl, hno⟩ := hrel
  by_cases hlt : k < n
  ·have hltz : (k : Int) < (n : Int) := by omega
   have hkl : k < L.length := by rw [hn.out]; exact hlt
   have HN : Hid (hasB sEq (L.take (k + 1)) s = (hasB sEq (L.take k) s || sEq (L.getD k default) s)) := zFU _ _ _ hkl
   have HF : Hid (sEq (L.getD k default) s = true -> hasB sEq L s = true) := zDj _ _ _ hkl
   obtain ⟨B, off, rfl, hB, _, cs, hr, hv⟩ := hL.out.get hlt
   obtain ⟨rfl, _⟩ := hr
   have d0 := hv 0 _ rfl
   simp only [Nat.mul_one, Nat.add_zero] at d0
   clear hv
   generalize L.getD k default = x at d0 HN HF
   cases he : sEq x s
   ·have he' : (s.toList == x.toList) = false := by rw [BEq.comm]; exact he
    have HN2 : Hid (hasB sEq (L.take (k + 1)) s = false) := by rw [Hid, HN.out, hno.out, he]; rfl
    clear HN HF he
    go_wp2_with fail
    go_round
    case rel => exact ⟨k + 1, by omega, by go_num, HN2⟩
    case measure => simp [intOf]; omega
   ·have he' : (s.toList == x.toList) = true := by rw [BEq.comm]; exact he
    have HT : Hid (hasB sEq L s = true) := HF.out he
    clear HN HF he
    go_wp2_with fail
    go_ret
    exact ⟨⟨k, rfl, by rw [HT.out]; simp⟩, rfl⟩
  ·have hk' : L.take k = L := List.take_of_length_le (by rw [hn.out]; omega)
   rw [hk'] at hno
   have hlz : ¬ ((k : Int) < (n : Int)) := by omega
   go_wp2_with fail
   go_ret
   exact ⟨⟨-1, rfl, by rw [hno.out]; simp⟩, rfl⟩
theorem IndexI (a : Option Addr) (n cap : Nat) (A : Where) (L : List Int) (s : Int) (w : World) (hL : Hid (SlAt RInt 1 8 A w a n cap L)) : Calls Tryz.prog 228 #[.slice a n cap, .int .i64 s] w fun e w' => (∃ k : Int, e = .returned (.int .i64 k) /\ hasB iEq L s = decide (0 <= k)) /\ w' = w := by
 have hn : Hid (L.length = n) := hL.out.1
 have hlen := hL.out.len (by decide)
 go_enter Tryz.func228, Tryz.ntmps228
 go_wp2_with fail
 go_loop [8] (fun i => ∃ k : Nat, k <= n /\ i = .int .i64 k /\ Hid (hasB iEq (L.take k) s = false)) (fun i => n - (intOf i).toNat)
 case atStart => exact ⟨0, Nat.zero_le _, rfl, rfl⟩
 case round =>
  obtain ⟨k, hk, rfl, hno⟩ := hrel
  by_cases hlt : k < n
  ·have hltz : (k : Int) < (n : Int) := by omega
   have hkl : k < L.length := by rw [hn.out]; exact hlt
   have HN : Hid (hasB iEq (L.take (k + 1)) s = (hasB iEq (L.take k) s || iEq (L.getD k default) s)) := zFU _ _ _ hkl
   have HF : Hid (iEq (L.getD k default) s = true -> hasB iEq L s = true) := zDj _ _ _ hkl
   obtain ⟨B, off, rfl, hB, _, cs, hr, hv⟩ := hL.out.get hlt
   obtain rfl := hr
   have d0 := hv 0 _ rfl
   simp only [Nat.mul_one, Nat.add_zero] at d0
   clear hv
   generalize L.getD k default = x at d0 HN HF
   cases he : iEq x s
   ·have he' : ¬ s = x := fun e => by rw [e] at he; simp [iEq] at he
    have HN2 : Hid (hasB iEq (L.take (k + 1)) s = false) := by rw [Hid, HN.out, hno.out, he]; rfl
    clear HN HF he
    go_wp2_with fail
    go_round
    case rel => exact ⟨k + 1, by omega, by go_num, HN2⟩
    case measure => simp [intOf]; omega
   ·obtain rfl : x = s := by simpa [iEq] using he
    have HT : Hid (hasB iEq L x = true) := HF.out he
    clear HN HF he
    go_wp2_with fail
    go_ret
    exact ⟨⟨k, rfl, by rw [HT.out]; simp⟩, rfl⟩
  ·have hk' : L.take k = L := List.take_of_length_le (by rw [hn.out]; omega)
   rw [hk'] at hno
   have hlz : ¬ ((k : Int) < (n : Int)) := by omega
   go_wp2_with fail
   go_ret
   exact ⟨⟨-1, rfl, by rw [hno.out]; simp⟩, rfl⟩
theorem ContainsI (a : Option Addr) (n cap : Nat) (A : Where) (L : List Int) (s : Int) (w : World) (hL : Hid (SlAt RInt 1 8 A w a n cap L)) : Calls Tryz.prog 215 #[.slice a n cap, .int .i64 s] w fun e w' => e = .returned (.bool (hasB iEq L s)) /\ w' = w := by
 have hI := IndexI a n cap A L s w hL
 generalize hasB iEq L s = b at hI |-
 go_enter Tryz.func215, Tryz.ntmps215
 go_wp2_with fail
 refine hI.mono ?_
 rintro e w' ⟨⟨k, rfl, rfl⟩, rfl⟩
 by_cases h0 : 0 <= k
 ·go_wp2_with fail
  go_ret
  exact ⟨by simp [h0], rfl⟩
 ·go_wp2_with fail
  go_ret
  exact ⟨by simp [h0], rfl⟩
def PredI (g : Nat) (lb : Array Value) (p : Int -> Bool) (w : World) : Prop :=
 ∀ (W : World) (x : Int), Below w.heap.size w W -> Calls Tryz.prog g (#[.int .i64 x] ++ lb) W fun e w' => e = .returned (.bool (p x)) /\ Below W.heap.size W w'
theorem any_take (p : Int -> Bool) (L : List Int) {k : Nat} (hk : k < L.length) : (L.take (k + 1)).any p = ((L.take k).any p || p (L.getD k default)) := by
 rw [<- zAo hk]; simp
theorem any_found (p : Int -> Bool) (L : List Int) {k : Nat} (hk : k < L.length) (h : p (L.getD k default) = true) : L.any p = true := by
 rw [List.any_eq_true]
 exact ⟨L.getD k default, by rw [zB5 _ _ hk]; exact List.getElem_mem hk, h⟩
theorem zGt (a : Option Addr) (n cap : Nat) (A : Where) (L : List Int) (w : World) (hL : Hid (SlAt RInt 1 8 A w a n cap L)) (p : Int -> Bool) (g : Nat) (lb : Array Value) (eg : ∀ args w, (callFunc g args).run Tryz.prog w = .ok (.enter g args) w) (hp : Hid (PredI g lb p w)) :
  Calls Tryz.prog 227 #[.slice a n cap, .func (.func g) #[] lb] w fun e w' => (∃ k : Int, e = .returned (.int .i64 k) /\ L.any p = decide (0 <= k)) /\ Below w.heap.size w w' := by
 have hn : Hid (L.length = n) := hL.out.1
 have hlen := hL.out.len (by decide)
 go_enter Tryz.func227, Tryz.ntmps227
 go_wp2_with fail
 go_loopw [8] (fun i wr => ∃ k : Nat, k <= n /\ i = .int .i64 k /\ Below w.heap.size w wr /\ Hid ((L.take k).any p = false)) (fun i _ => n - (intOf i).toNat)
 case atStart => exact ⟨0, Nat.zero_le _, rfl, Below.refl _ _, rfl⟩
 case round =>
  obtain ⟨k, hk, rfl, hbel, hno⟩ := hrel
  by_cases hlt : k < n
  ·have hltz : (k : Int) < (n : Int) := by omega
   have hkl : k < L.length := by rw [hn.out]; exact hlt
   have HN : Hid ((L.take (k + 1)).any p = ((L.take k).any p || p (L.getD k default))) := any_take _ _ hkl
   have HF : Hid (p (L.getD k default) = true -> L.any p = true) := any_found _ _ hkl
   obtain ⟨B, off, rfl, hB, _, cs, hr, hv⟩ := hL.out.get hlt
   obtain rfl := hr
   have d0 := (hbel.cell (p := ⟨B, off + k * 1 + 0, none⟩) hB).trans (hv 0 _ rfl)
   simp only [Nat.mul_one, Nat.add_zero] at d0
   clear hv
   have hcall := hp.out wr (L.getD k default) hbel
   generalize L.getD k default = x at d0 HN HF hcall
   cases he : p x
   ·have HN2 : Hid ((L.take (k + 1)).any p = false) := by rw [Hid, HN.out, hno.out, he]; rfl
    rw [he] at hcall
    clear HN HF he
    go_wp2_with fail
    refine hcall.mono ?_
    rintro e w' ⟨rfl, hb'⟩
    go_wp2_with fail
    go_roundw
    case rel => exact ⟨k + 1, by omega, by go_num, on2 hbel hb', HN2⟩
    case measure => simp [intOf]; omega
   ·have HT : Hid (L.any p = true) := HF.out he
    rw [he] at hcall
    clear HN HF he
    go_wp2_with fail
    refine hcall.mono ?_
    rintro e w' ⟨rfl, hb'⟩
    go_wp2_with fail
    go_ret
    exact ⟨⟨k, rfl, by rw [HT.out]; simp⟩, on2 hbel hb'⟩
  ·have hk' : L.take k = L := List.take_of_length_le (by rw [hn.out]; omega)
   rw [hk'] at hno
   have hlz : ¬ ((k : Int) < (n : Int)) := by omega
   go_wp2_with fail
   go_ret
   exact ⟨⟨-1, rfl, by rw [hno.out]; simp⟩, hbel⟩
theorem zE1 (a : Option Addr) (n cap : Nat) (A : Where) (L : List Int) (w : World) (hL : Hid (SlAt RInt 1 8 A w a n cap L)) (p : Int -> Bool) (g : Nat) (lb : Array Value) (eg : ∀ args w, (callFunc g args).run Tryz.prog w = .ok (.enter g args) w) (hp : Hid (PredI g lb p w)) :
  Calls Tryz.prog 213 #[.slice a n cap, .func (.func g) #[] lb] w fun e w' => e = .returned (.bool (L.any p)) /\ Below w.heap.size w w' := by
 have hI := zGt a n cap A L w hL p g lb eg hp
 generalize L.any p = b at hI |-
 go_enter Tryz.func213, Tryz.ntmps213
 go_wp2_with fail
 refine hI.mono ?_
 rintro e w1 ⟨⟨k, rfl, rfl⟩, hb⟩
 by_cases h0 : 0 <= k
 ·go_wp2_with fail
  go_ret
  exact ⟨by simp [h0], hb⟩
 ·go_wp2_with fail
  go_ret
  exact ⟨by simp [h0], hb⟩
def plusR (a b : ResD) : ResD := (addI a.1 b.1, addI a.2.1 b.2.1, addI a.2.2 b.2.2)
def minusR (a b : ResD) : ResD := (subI a.1 b.1, subI a.2.1 b.2.1, subI a.2.2 b.2.2)
def pWant (p : PodD) : ResD := p.2.2.2.1
def pPorts (p : PodD) : List Int := p.2.2.2.2.2.2.2.1
def pClaims (p : PodD) : List ByteArray := p.2.2.2.2.2.2.2.2.2.2.2.1
def pNode (p : PodD) : ByteArray := p.2.2.2.2.2.2.2.2.2.2.2.2.1
abbrev AccD := List ByteArray × ResD × List Int × List ByteArray
def ofStep (s : AccD) (p : PodD) : AccD := if hasB sEq s.1 p.1 = true then s else (s.1 ++ [p.1], plusR s.2.1 (pWant p), s.2.2.1 ++ pPorts p, s.2.2.2 ++ pClaims p)
def accInfo (n : NodeD) (s : AccD) : InfoD := (n, sortB sLt sEq s.1, s.2.1, sortB iLt iEq s.2.2.1, sortB sLt sEq s.2.2.2)
def freeP (i : InfoD) : ResD := minusR i.1.2.2.2.2.1 i.2.2.1
def clashP (i : InfoD) (p : PodD) : Bool := (pPorts p).any fun q => hasB iEq i.2.2.2.1 q
def sumBy {α : Type} (f : α -> Nat) (L : List α) : Nat := (L.map f).sum
def FitsP (L : List PodD) : Prop := sumBy (fun p => (pPorts p).length) L * 8 <= 140737488351232 /\ sumBy (fun p => (pClaims p).length) L * 16 <= 140737488351232
theorem zB7 {α : Type} (f : α -> Nat) (L M : List α) : sumBy f (L ++ M) = sumBy f L + sumBy f M := by simp [sumBy]
theorem zDr {α : Type} (f : α -> Nat) (L : List α) (k : Nat) : sumBy f (L.take k) <= sumBy f L := by
 have := zB7 f (L.take k) (L.drop k)
 rw [List.take_append_drop] at this
 omega
end Go.Proofs.YtnffafjamiffnaaGreat
namespace Go.Proofs.YtnffafjamiffnaaGreat
abbrev B0 : ByteArray := ⟨#[]⟩
abbrev PickD := ByteArray × ByteArray
abbrev VC := List VolumeD × List ClaimD
abbrev vCl (v : VolumeD) : ByteArray := v.2.2.2.2
abbrev vRq (v : VolumeD) : List Ask := v.2.2.2.1
abbrev cVo (c : ClaimD) : ByteArray := c.2.2.2
def setVo (c : ClaimD) (s : ByteArray) : ClaimD := (c.1, c.2.1, c.2.2.1, s)
def setCl (v : VolumeD) (s : ByteArray) : VolumeD := (v.1, v.2.1, v.2.2.1, v.2.2.2.1, s)
def fI (l : List ByteArray) (nm : ByteArray) : Option Nat := l.findIdx? (fun x => sEq x nm)
abbrev vNs (l : List VolumeD) : List ByteArray := l.map Prod.fst
abbrev cNs (l : List ClaimD) : List ByteArray := l.map Prod.fst
theorem zAD {l : List ByteArray} {nm : ByteArray} {i : Nat} (h : fI l nm = some i) : i < l.length /\ l.getD i default = nm /\ ∀ j, j < i -> l.getD j default ≠ nm := by
 unfold fI at h
 obtain ⟨h1, h2, h3⟩ := List.findIdx?_eq_some_iff_getElem.1 h
 refine ⟨h1, ?_, fun j hj e => ?_⟩
 ·rw [List.getD_eq_getElem?_getD, List.getElem?_eq_getElem h1]; exact (zA7 _ _).1 h2
 ·have hj' : j < l.length := by omega
  rw [List.getD_eq_getElem?_getD, List.getElem?_eq_getElem hj'] at e
  exact h3 j hj ((zA7 _ _).2 e)
theorem fI_none {l : List ByteArray} {nm : ByteArray} (h : fI l nm = none) : nm ∉ l := by
 unfold fI at h
 rw [List.findIdx?_eq_none_iff] at h
 intro hm
 have := h nm hm
 rw [(zA7 nm nm).2 rfl] at this
 cases this
theorem fI_of {l : List ByteArray} {nm : ByteArray} {i : Nat} (h1 : i < l.length) (h2 : l.getD i default = nm) (h3 : ∀ j, j < i -> l.getD j default ≠ nm) : fI l nm = some i := by
 unfold fI
 rw [List.findIdx?_eq_some_iff_getElem]
 refine ⟨h1, ?_, fun j hj e => ?_⟩
 ·rw [List.getD_eq_getElem?_getD, List.getElem?_eq_getElem h1] at h2; exact (zA7 _ _).2 h2
 ·have hj' : j < l.length := by omega
  have := h3 j hj
  rw [List.getD_eq_getElem?_getD, List.getElem?_eq_getElem hj'] at this
  exact this ((zA7 _ _).1 e)
theorem fI_mem {l : List ByteArray} {nm : ByteArray} (h : nm ∈ l) : ∃ i, fI l nm = some i := by
 cases e : fI l nm with
 | none => exact absurd h (fI_none e)
 | some i => exact ⟨i, rfl⟩
theorem zEt {α : Type} [Inhabited α] (f : α -> ByteArray) (l : List α) (i : Nat) (x : α) (h : f x = f (l.getD i default)) (hi : i < l.length) : (l.set i x).map f = l.map f := by
 rw [List.map_set, h]
 apply List.ext_getElem?
 intro j
 rw [List.getElem?_set]
 by_cases e : i = j
 ·subst e
  rw [List.getD_eq_getElem?_getD, List.getElem?_eq_getElem hi]
  simp [hi]
 ·simp [e]
def okA (c : ClaimD) (v : VolumeD) : Bool := sEq (cVo c) B0 && (sEq (vCl v) B0 && (sEq v.2.2.1 c.2.2.1 && !decide (v.2.1 < c.2.1)))
def takeA (st : VC) (c v : Nat) : VC := (st.1.set v (setCl (st.1.getD v default) (st.2.getD c default).1), st.2.set c (setVo (st.2.getD c default) (st.1.getD v default).1))
def stepA (st : VC) (pk : PickD) : Except Int VC :=
 match fI (cNs st.2) pk.1, fI (vNs st.1) pk.2 with
 | some c, some v => if okA (st.2.getD c default) (st.1.getD v default) = true then .ok (takeA st c v) else .error 2
 | _, _ => .error 5
def applyP : VC -> List PickD -> Except Int VC
 | st, [] => .ok st
 | st, pk :: r => match stepA st pk with
  | .ok st' => applyP st' r
  | .error e => .error e
theorem sEq_ne9 {a b : ByteArray} : sEq a b = false ↔ a ≠ b := by
 rw [<- Bool.not_eq_true, zA7]
abbrev nLabs (n : NodeD) : List Lab := n.2.1
abbrev pSpreads (p : PodD) : List SpreadD := p.2.2.2.2.2.2.2.2.2.2.1
abbrev sReqs (s : SpreadD) : List Ask := s.2.2.2
def valsP (key : ByteArray) (nodes : List NodeD) : List ByteArray := (nodes.filter (fun n => (getL (nLabs n) key).2)).map (fun n => (getL (nLabs n) key).1)
def domsP (key : ByteArray) (nodes : List NodeD) : List ByteArray := sortB sLt sEq (valsP key nodes)
def inS (s : SpreadD) (v : ByteArray) (x : PlacedD) : Bool := (getL x.2 s.1).2 && (sEq (getL x.2 s.1).1 v && matchL (pLabs x.1) (sReqs s))
def cntP (s : SpreadD) (v : ByteArray) (l : List PlacedD) : Nat := (l.filter (inS s v)).length
def loP (c : ByteArray -> Nat) : List ByteArray -> Nat
 | [] => 0
 | d :: r => r.foldl (fun a e => min a (c e)) (c d)
def badS (P L : List Lab) (nodes : List NodeD) (l : List PlacedD) (s : SpreadD) : Bool :=
 !(getL L s.1).2 || decide (s.2.1 < ((cntP s (getL L s.1).1 l + (if matchL P (sReqs s) = true then 1 else 0) : Nat) : Int) - (if ((domsP s.1 nodes).length : Int) < s.2.2.1 then 0 else (loP (fun v => cntP s v l) (domsP s.1 nodes) : Int)))
def spreadP (why : Int) (p : PodD) (L : List Lab) (nodes : List NodeD) (all : List PlacedD) : Int := if (pSpreads p).any (badS (pLabs p) L nodes (othersN p.1 all)) = true then why else 0
theorem lo_fold (c : ByteArray -> Nat) : ∀ (r : List ByteArray) (a : Nat), r.foldl (fun a e => min a (c e)) a <= a /\ (∀ e ∈ r, r.foldl (fun a e => min a (c e)) a <= c e) /\ (r.foldl (fun a e => min a (c e)) a = a \/ ∃ e ∈ r, r.foldl (fun a e => min a (c e)) a = c e)
 | [], a => ⟨Nat.le_refl _, (fun _ h => by cases h), .inl rfl⟩
 | e :: r, a => by
  obtain ⟨h1, h2, h3⟩ := lo_fold c r (min a (c e))
  simp only [List.foldl_cons]
  refine ⟨by omega, fun x hx => ?_, ?_⟩
  ·rcases List.mem_cons.1 hx with rfl | hx
   ·omega
   ·exact h2 x hx
  ·rcases h3 with h3 | ⟨x, hx, h3⟩
   ·by_cases hl : a <= c e
    ·left; rw [h3]; omega
    ·right; exact ⟨e, List.mem_cons_self, by rw [h3]; omega⟩
   ·right; exact ⟨x, List.mem_cons_of_mem _ hx, h3⟩
theorem lo_spec (c : ByteArray -> Nat) {D : List ByteArray} (h : D ≠ []) : (∀ d ∈ D, loP c D <= c d) /\ ∃ d ∈ D, loP c D = c d := by
 cases D with
 | nil => exact absurd rfl h
 | cons d r =>
  obtain ⟨h1, h2, h3⟩ := lo_fold c r (c d)
  refine ⟨fun x hx => ?_, ?_⟩
  ·rcases List.mem_cons.1 hx with rfl | hx
   ·exact h1
   ·exact h2 x hx
  ·rcases h3 with h3 | ⟨x, hx, h3⟩
   ·exact ⟨d, List.mem_cons_self, h3⟩
   ·exact ⟨x, List.mem_cons_of_mem _ hx, h3⟩
theorem zD1 (s x : ByteArray) : ∀ L : List ByteArray, x ∈ insB sLt sEq L s ↔ x ∈ L \/ x = s
 | [] => by simp [insB]
 | y :: L => by
  have ih := zD1 s x L
  unfold insB
  split
  ·simp only [List.mem_cons, ih, or_assoc]
  ·split
   ·rename_i _ he
    have := (zA7 y s).1 he
    subst this
    simp only [List.mem_cons]
    constructor
    ·exact fun h => .inl h
    ·rintro (h | h)
     ·exact h
     ·exact .inl h
   ·simp only [List.mem_cons]
    constructor
    ·rintro (h | h | h)
     ·exact .inr h
     ·exact .inl (.inl h)
     ·exact .inl (.inr h)
    ·rintro ((h | h) | h)
     ·exact .inr (.inl h)
     ·exact .inr (.inr h)
     ·exact .inl h
theorem zF0 (x : ByteArray) : ∀ (L M : List ByteArray), x ∈ L.foldl (insB sLt sEq) M ↔ x ∈ M \/ x ∈ L
 | [], M => by simp
 | y :: L, M => by
  rw [List.foldl_cons, zF0 x L, zD1]
  simp only [List.mem_cons, or_assoc]
theorem zBI (x : ByteArray) (L : List ByteArray) : x ∈ sortB sLt sEq L ↔ x ∈ L := by
 unfold sortB; rw [zF0]; simp
abbrev Srt9 (L : List ByteArray) : Prop := L.Pairwise (fun a b => sLt a b = true)
theorem sLt_tot {a b : ByteArray} (h1 : ¬ sLt a b = true) (h2 : ¬ sEq a b = true) : sLt b a = true := by
 rw [zAl] at *
 rcases zEz a.data.toList b.data.toList with ⟨h, h'⟩ | ⟨h, h'⟩ | ⟨h, h'⟩
 ·exact absurd h h1
 ·exact absurd ((zA7 a b).2 (by obtain ⟨⟨a⟩⟩ := a; obtain ⟨⟨b⟩⟩ := b; simp_all)) h2
 ·exact h'
theorem zGl (s : ByteArray) : ∀ L : List ByteArray, Srt9 L -> Srt9 (insB sLt sEq L s)
 | [], _ => by simp [insB]
 | y :: L, h => by
  obtain ⟨h1, h2⟩ := List.pairwise_cons.1 h
  unfold insB
  split
  ·rename_i hl
   refine List.pairwise_cons.2 ⟨fun x hx => ?_, zGl s L h2⟩
   rcases (zD1 s x L).1 hx with hx | rfl
   ·exact h1 x hx
   ·exact hl
  ·split
   ·exact h
   ·rename_i hl he
    have hy := sLt_tot hl he
    refine List.pairwise_cons.2 ⟨fun x hx => ?_, h⟩
    rcases List.mem_cons.1 hx with rfl | hx
    ·exact hy
    ·exact zFF hy (h1 x hx)
theorem zFQ : ∀ (L M : List ByteArray), Srt9 M -> Srt9 (L.foldl (insB sLt sEq) M)
 | [], _, h => h
 | y :: L, M, h => zFQ L _ (zGl y M h)
theorem zCz (L : List ByteArray) : Srt9 (sortB sLt sEq L) := zFQ L [] List.Pairwise.nil
theorem sLt_irr (a : ByteArray) : ¬ sLt a a = true := fun h => by have := sLt_asymm h; rw [h] at this; cases this
theorem zGZ (key v : ByteArray) (nodes : List NodeD) : v ∈ domsP key nodes ↔ ∃ n ∈ nodes, (getL (nLabs n) key).2 = true /\ (getL (nLabs n) key).1 = v := by
 unfold domsP valsP
 rw [zBI, List.mem_map]
 constructor
 ·rintro ⟨n, hn, e⟩
  obtain ⟨h1, h2⟩ := List.mem_filter.1 hn
  exact ⟨n, h1, h2, e⟩
 ·rintro ⟨n, h1, h2, e⟩
  exact ⟨n, List.mem_filter.2 ⟨h1, h2⟩, e⟩
theorem zGe (s : SpreadD) (v : ByteArray) (l : List PlacedD) (x : PlacedD) : cntP s v (l ++ [x]) = cntP s v l + (if inS s v x = true then 1 else 0) := by
 unfold cntP
 rw [List.filter_append, List.length_append]
 cases h : inS s v x <;> simp [h]
end Go.Proofs.YtnffafjamiffnaaGreat
