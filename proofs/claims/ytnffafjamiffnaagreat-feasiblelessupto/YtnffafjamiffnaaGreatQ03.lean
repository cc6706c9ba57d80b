/- Functions of the program, each walked under the conditions that its theorem names. -/
import Derived.Laws.StructEq
import Derived.Test.YtnffafjamiffnaaGreatQ02
set_option linter.unusedSimpArgs false
set_option maxRecDepth 100000
set_option maxHeartbeats 32000000
namespace Go.Proofs.YtnffafjamiffnaaGreat
open Go.RowKit
theorem numB_no {s : ByteArray} (h : ¬(1 <= s.size /\ s.size <= 15)) : numB s = false := by
 have : (decide (1 <= s.size) && decide (s.size <= 15)) = false := by simp; omega
 simp [numB, this]
theorem numB_zero {s : ByteArray} (h : 1 < s.size) (h0 : (byteAt s 0).toNat = 48) : numB s = false := by
 simp [numB, h, h0]
theorem numB_rest {s : ByteArray} (h1 : 1 <= s.size) (h2 : s.size <= 15) (h3 : ¬(1 < s.size /\ (byteAt s 0).toNat = 48)) : numB s = allTo s.size fun i => isDig (byteAt s i) := by
 have : (decide (1 < s.size) && decide ((byteAt s 0).toNat = 48)) = false := by simp; omega
 simp [numB, h1, h2, this]
theorem zBY (s : ByteArray) (w : World) : Calls Tryz.prog 252 #[.string s] w fun e w' => e = .returned (.bool (numB s)) /\ w' = w := by
 by_cases h0 : (s.size : Int) = 0
 ·have HF : Hid (numB s = false) := numB_no (by omega)
  have h0' : ((s.size : Int) == 0) = true := beq_iff_eq.2 h0
  go_enter Tryz.func252, Tryz.ntmps252
  go_wp2
  go_ret
  exact ⟨zDL HF.out.symm, rfl⟩
 have h0' : ((s.size : Int) == 0) = false := beq_eq_false_iff_ne.2 h0
 by_cases h1 : (15 : Int) < (s.size : Int)
 ·have HF : Hid (numB s = false) := numB_no (by omega)
  go_enter Tryz.func252, Tryz.ntmps252
  go_wp2
  go_ret
  exact ⟨zDL HF.out.symm, rfl⟩
 have hp : 0 < s.size := by omega
 have HB : ∃ b c : Bool, ((s[0].toNat : Int) == 48) = b /\ decide ((1 : Int) < (s.size : Int)) = c /\ Hid ((b && c) = true -> numB s = false) /\ Hid ((b && c) = false -> numB s = allTo s.size fun i => isDig (byteAt s i)) := by
  refine ⟨_, _, rfl, rfl, ?_, ?_⟩
  ·intro h
   simp only [Bool.and_eq_true, beq_iff_eq, decide_eq_true_eq] at h
   exact numB_zero (by omega) (by rw [zBQ s 0 hp]; omega)
  ·intro h
   refine numB_rest (by omega) (by omega) ?_
   rintro ⟨x, y⟩
   rw [zBQ s 0 hp] at y
   rw [beq_iff_eq.2 (show (s[0].toNat : Int) = 48 by omega), decide_eq_true (show (1 : Int) < s.size by omega)] at h
   cases h
 obtain ⟨b, c, hb, hc, HT, HN⟩ := HB
 cases b <;> cases c
 case true.true =>
  have HF : Hid (numB s = false) := HT.out rfl
  clear HT HN
  go_enter Tryz.func252, Tryz.ntmps252
  go_wp2
  go_ret
  exact ⟨zDL HF.out.symm, rfl⟩
 all_goals
  have HM : Hid (numB s = allTo s.size fun i => isDig (byteAt s i)) := HN.out rfl
  clear HT HN
  go_enter Tryz.func252, Tryz.ntmps252
  go_wp2
  go_loop [22] (fun i => ∃ k : Nat, k <= s.size /\ i = .int .i64 k /\ Hid (∀ j, j < k -> isDig (byteAt s j) = true)) (fun i => s.size - (intOf i).toNat)
  case atStart => exact ⟨0, Nat.zero_le _, rfl, fun j hj => absurd hj (Nat.not_lt_zero _)⟩
  case round =>
   obtain ⟨k, hk, rfl, hall⟩ := hrel
   by_cases hlt : k < s.size
   ·have hin := zEY s[k]
    cases hc : isDig s[k]
    ·rw [hc] at hin
     have HF : Hid (numB s = false) := HM.out.trans (zD4 hlt (by rw [zBQ s k hlt]; exact hc))
     clear hc
     go_wp2_with (go_at_call 255; refine (hin _).mono ?_; rintro e w' ⟨rfl, rfl⟩)
     go_ret
     exact ⟨zDL HF.out.symm, rfl⟩
    ·rw [hc] at hin
     have HS : Hid (isDig (byteAt s k) = true) := by rw [Hid, zBQ s k hlt]; exact hc
     clear hc
     go_wp2_with (go_at_call 255; refine (hin _).mono ?_; rintro e w' ⟨rfl, rfl⟩)
     go_round
     case rel => exact ⟨k + 1, by omega, by go_num, fun j hj => by rcases Nat.lt_succ_iff_lt_or_eq.1 hj with h | rfl; exact hall.out j h; exact HS.out⟩
     case measure => simp [intOf]; omega
   ·have HF : Hid (numB s = true) := HM.out.trans (zDh (fun j hj => hall.out j (by omega)))
    go_wp2
    go_ret
    exact ⟨zDL HF.out.symm, rfl⟩
def PredT (g : Nat) (lb : Array Value) (p : Tnt -> Bool) (w : World) : Prop :=
 ∀ (W : World) (x : Tnt), Below w.heap.size w W -> Calls Tryz.prog g (#[.agg #[.string x.1, .string x.2.1, .int .i64 x.2.2]] ++ lb) W fun e w' => e = .returned (.bool (p x)) /\ Below W.heap.size W w'
theorem zEg (a : Option Addr) (cap : Nat) (L : List Tnt) (w : World) (hL : Hid (TntsAt w a L)) (p : Tnt -> Bool) (g : Nat) (lb : Array Value) (eg : ∀ args w, (callFunc g args).run Tryz.prog w = .ok (.enter g args) w) (hp : Hid (PredT g lb p w)) :
  Calls Tryz.prog 211 #[.slice a L.length cap, .func (.func g) #[] lb] w fun e w' => ((∃ i : Nat, i < L.length /\ p (L.getD i default) = true /\ (∀ j, j < i -> p (L.getD j default) = false) /\ e = .returned (.int .i64 i)) \/ ((∀ j, j < L.length -> p (L.getD j default) = false) /\ e = .returned (.int .i64 (-1)))) /\ Below w.heap.size w w' := by
 have hlen := hL.out.1
 go_enter Tryz.func211, Tryz.ntmps211
 go_wp2
 go_loopw [8] (fun i wr => ∃ k : Nat, k <= L.length /\ i = .int .i64 k /\ Below w.heap.size w wr /\ Hid (∀ j, j < k -> p (L.getD j default) = false)) (fun i _ => L.length - (intOf i).toNat)
 case atStart => exact ⟨0, Nat.zero_le _, rfl, Below.refl _ _, fun j hj => absurd hj (Nat.not_lt_zero _)⟩
 case round =>
  obtain ⟨k, hk, rfl, hbel, hall⟩ := hrel
  by_cases hlt : k < L.length
  ·obtain ⟨B, off, rfl, hB, c0, c1, c2, ho⟩ := TntsAt.get hL.out hlt
   clear ho
   have d0 := (hbel.cell (p := ⟨B, off + k * 3, none⟩) hB).trans c0
   have d1 := (hbel.cell (p := ⟨B, off + k * 3 + 1, none⟩) hB).trans c1
   have d2 := (hbel.cell (p := ⟨B, off + k * 3 + 2, none⟩) hB).trans c2
   clear c0 c1 c2
   have hcall := hp.out wr (L.getD k default) hbel
   have HG : Hid (p (L.getD k default) = false -> ∀ j, j < k + 1 -> p (L.getD j default) = false) := fun h j hj => by
    rcases Nat.lt_succ_iff_lt_or_eq.1 hj with h' | rfl
    ·exact hall.out j h'
    ·exact h
   have HF : Hid (p (L.getD k default) = true -> ∃ i : Nat, i < L.length /\ p (L.getD i default) = true /\ (∀ j, j < i -> p (L.getD j default) = false) /\ Ending.returned (.int .i64 k) = .returned (.int .i64 i)) := fun h => ⟨k, hlt, h, hall.out, rfl⟩
   clear hall
   generalize L.getD k default = x at d0 d1 d2 hcall HG HF
   cases hq : p x
   ·have HG' : Hid (∀ j, j < k + 1 -> p (L.getD j default) = false) := HG.out hq
    rw [hq] at hcall
    clear HG HF hq
    go_wp2_with fail
    refine hcall.mono ?_
    rintro e w' ⟨rfl, hb'⟩
    go_wp2_with fail
    go_roundw
    case rel => exact ⟨k + 1, by omega, by go_num, on2 hbel hb', HG'⟩
    case measure => simp [intOf]; omega
   ·have HF' := HF.out hq
    have HF2 : Hid (∃ i : Nat, i < L.length /\ p (L.getD i default) = true /\ (∀ j, j < i -> p (L.getD j default) = false) /\ Ending.returned (.int .i64 k) = .returned (.int .i64 i)) := HF'
    rw [hq] at hcall
    clear HG HF hq HF'
    go_wp2_with fail
    refine hcall.mono ?_
    rintro e w' ⟨rfl, hb'⟩
    go_wp2_with fail
    go_ret
    exact ⟨.inl HF2.out, on2 hbel hb'⟩
  ·have HA : Hid (∀ j, j < L.length -> p (L.getD j default) = false) := fun j hj => hall.out j (by omega)
   clear hall
   go_wp2
   go_ret
   exact ⟨.inr ⟨HA.out, rfl⟩, hbel⟩
def PredB (g : Nat) (lb : Array Value) (p : Bear -> Bool) (w : World) : Prop :=
 ∀ (W : World) (x : Bear), Below w.heap.size w W -> Calls Tryz.prog g (#[.agg #[.string x.1, .string x.2.1, .bool x.2.2.1, .int .i64 x.2.2.2]] ++ lb) W fun e w' => e = .returned (.bool (p x)) /\ Below W.heap.size W w'
theorem zFT (a : Option Addr) (cap : Nat) (L : List Bear) (w : World) (hL : Hid (BearsAt w a L)) (p : Bear -> Bool) (g : Nat) (lb : Array Value) (eg : ∀ args w, (callFunc g args).run Tryz.prog w = .ok (.enter g args) w) (hp : Hid (PredB g lb p w)) :
  Calls Tryz.prog 249 #[.slice a L.length cap, .func (.func g) #[] lb] w fun e w' => ((∃ i : Nat, i < L.length /\ p (L.getD i default) = true /\ (∀ j, j < i -> p (L.getD j default) = false) /\ e = .returned (.int .i64 i)) \/ ((∀ j, j < L.length -> p (L.getD j default) = false) /\ e = .returned (.int .i64 (-1)))) /\ Below w.heap.size w w' := by
 have hlen := hL.out.1
 go_enter Tryz.func249, Tryz.ntmps249
 go_wp2
 go_loopw [8] (fun i wr => ∃ k : Nat, k <= L.length /\ i = .int .i64 k /\ Below w.heap.size w wr /\ Hid (∀ j, j < k -> p (L.getD j default) = false)) (fun i _ => L.length - (intOf i).toNat)
 case atStart => exact ⟨0, Nat.zero_le _, rfl, Below.refl _ _, fun j hj => absurd hj (Nat.not_lt_zero _)⟩
 case round =>
  obtain ⟨k, hk, rfl, hbel, hall⟩ := hrel
  by_cases hlt : k < L.length
  ·obtain ⟨B, off, rfl, hB, c0, c1, c2, c3, ho⟩ := BearsAt.get hL.out hlt
   clear ho
   have d0 := (hbel.cell (p := ⟨B, off + k * 4, none⟩) hB).trans c0
   have d1 := (hbel.cell (p := ⟨B, off + k * 4 + 1, none⟩) hB).trans c1
   have d2 := (hbel.cell (p := ⟨B, off + k * 4 + 2, none⟩) hB).trans c2
   have d3 := (hbel.cell (p := ⟨B, off + k * 4 + 3, none⟩) hB).trans c3
   clear c0 c1 c2 c3
   have hcall := hp.out wr (L.getD k default) hbel
   have HG : Hid (p (L.getD k default) = false -> ∀ j, j < k + 1 -> p (L.getD j default) = false) := fun h j hj => by
    rcases Nat.lt_succ_iff_lt_or_eq.1 hj with h' | rfl
    ·exact hall.out j h'
    ·exact h
   have HF : Hid (p (L.getD k default) = true -> ∃ i : Nat, i < L.length /\ p (L.getD i default) = true /\ (∀ j, j < i -> p (L.getD j default) = false) /\ Ending.returned (.int .i64 k) = .returned (.int .i64 i)) := fun h => ⟨k, hlt, h, hall.out, rfl⟩
   clear hall
   generalize L.getD k default = x at d0 d1 d2 d3 hcall HG HF
   cases hq : p x
   ·have HG' : Hid (∀ j, j < k + 1 -> p (L.getD j default) = false) := HG.out hq
    rw [hq] at hcall
    clear HG HF hq
    go_wp2_with fail
    refine hcall.mono ?_
    rintro e w' ⟨rfl, hb'⟩
    go_wp2_with fail
    go_roundw
    case rel => exact ⟨k + 1, by omega, by go_num, on2 hbel hb', HG'⟩
    case measure => simp [intOf]; omega
   ·have HF' := HF.out hq
    have HF2 : Hid (∃ i : Nat, i < L.length /\ p (L.getD i default) = true /\ (∀ j, j < i -> p (L.getD j default) = false) /\ Ending.returned (.int .i64 k) = .returned (.int .i64 i)) := HF'
    rw [hq] at hcall
    clear HG HF hq HF'
    go_wp2_with fail
    refine hcall.mono ?_
    rintro e w' ⟨rfl, hb'⟩
    go_wp2_with fail
    go_ret
    exact ⟨.inl HF2.out, on2 hbel hb'⟩
  ·have HA : Hid (∀ j, j < L.length -> p (L.getD j default) = false) := fun j hj => hall.out j (by omega)
   clear hall
   go_wp2
   go_ret
   exact ⟨.inr ⟨HA.out, rfl⟩, hbel⟩
theorem zCe (a : Option Addr) (cap : Nat) (L : List Bear) (w : World) (hL : Hid (BearsAt w a L)) (p : Bear -> Bool) (g : Nat) (lb : Array Value) (eg : ∀ args w, (callFunc g args).run Tryz.prog w = .ok (.enter g args) w) (hp : Hid (PredB g lb p w)) :
  Calls Tryz.prog 240 #[.slice a L.length cap, .func (.func g) #[] lb] w fun e w' => e = .returned (.bool (L.any p)) /\ Below w.heap.size w w' := by
 have hI := zFT a cap L w hL p g lb eg hp
 go_enter Tryz.func240, Tryz.ntmps240
 go_wp2_with fail
 refine hI.mono ?_
 rintro e w1 ⟨⟨i, hi, hy, _, rfl⟩ | ⟨hn, rfl⟩, hb⟩
 ·have HA : Hid (L.any p = true) := any_yes hi hy
  clear hy
  go_wp2_with fail
  go_ret
  exact ⟨zDL HA.out.symm, hb⟩
 ·have HA : Hid (L.any p = false) := any_no hn
  clear hn
  go_wp2_with fail
  go_ret
  exact ⟨zDL HA.out.symm, hb⟩
theorem zGQ (bk bv : ByteArray) (ba : Bool) (be : Int) (tk tv : ByteArray) (te : Int) (w : World) : Calls Tryz.prog 250 #[.agg #[.string bk, .string bv, .bool ba, .int .i64 be], .agg #[.string tk, .string tv, .int .i64 te]] w fun e w' => e = .returned (.agg #[.string (meantT (bk, bv, ba, be) (tk, tv, te)).1, .string (meantT (bk, bv, ba, be) (tk, tv, te)).2.1, .int .i64 (meantT (bk, bv, ba, be) (tk, tv, te)).2.2]) /\ Below w.heap.size w w' := by
 have HM : Hid (meantT (bk, bv, ba, be) (tk, tv, te) = (if ba && bk.toList.isEmpty then tk else bk, if ba then tv else bv, if be == 0 then te else be)) := rfl
 generalize meantT (bk, bv, ba, be) (tk, tv, te) = m at HM |-
 obtain ⟨n, hn⟩ : ∃ n, bk.toList.isEmpty = n := ⟨_, rfl⟩
 obtain ⟨z, hz⟩ : ∃ z, (be == 0) = z := ⟨_, rfl⟩
 rw [hn, hz] at HM
 cases ba <;> cases n <;> cases z <;> (
  have HM' := HM.out
  simp only [Bool.and_self, Bool.and_true, Bool.and_false, Bool.true_and, Bool.false_and, Bool.false_eq_true, if_true, if_false] at HM'
  subst HM'
  clear HM
  go_enter Tryz.func250, Tryz.ntmps250
  go_wp2
  exact bodyPost_ret (v := .agg #[.string _, .string _, .int .i64 _]) (by simp [results, Tryz.results250, go_sem]) rfl ⟨rfl, by go_grown⟩)
theorem guardT : Tryz.prog.eqGuardType Tryz.prog.depth 156 = false := by kernel_rfl
theorem eqT (x y : Tnt) (w : World) : Sem.run Tryz.prog (binOp .eql 156 (.agg #[.string x.1, .string x.2.1, .int .i64 x.2.2]) (.agg #[.string y.1, .string y.2.1, .int .i64 y.2.2])) w = .ok (.bool (tEq x y)) w := by
 have u3 := Tryz.underlying3
 have a3 := Tryz.isAgg3
 have z3 := Tryz.sizeOf3
 have u9 := Tryz.underlying9
 have a9 := Tryz.isAgg9
 have z9 := Tryz.sizeOf9
 have hS : Tryz.prog.underlying 156 = some (.struct (Tryz.prog.fieldsOf 156)) := by kernel_rfl
 have hp : Tryz.prog.stoodInHeld 156 = false := by kernel_rfl
 rw [run_eql_struct, show (10000 : Nat) = 9999 + 1 from rfl, run_equalIn_agg w 9999 156 _ _ hS hp]
 simp only [Program.fieldsOf, Tryz.underlying156]
 go_simp
 simp only [tEq, sEq]
 by_cases h1 : x.1.toList = y.1.toList <;> by_cases h2 : x.2.1.toList = y.2.1.toList <;> by_cases h3 : x.2.2 = y.2.2 <;> simp [h1, h2, h3]
def BeS (wB : World) (D E : Nat) (bk bv : ByteArray) (ba : Bool) (be : Int) (tk tv : ByteArray) (te : Int) (u : World) : Prop :=
 Below wB.heap.size wB u /\ u.cell? ⟨D, 0, none⟩ = some (.string bk) /\ u.cell? ⟨D, 1, none⟩ = some (.string bv) /\ u.cell? ⟨D, 2, none⟩ = some (.bool ba) /\ u.cell? ⟨D, 3, none⟩ = some (.int .i64 be) /\
  u.cell? ⟨E, 0, none⟩ = some (.string tk) /\ u.cell? ⟨E, 1, none⟩ = some (.string tv) /\ u.cell? ⟨E, 2, none⟩ = some (.int .i64 te)
theorem BeS.to {wB u' : World} {D E : Nat} {bk bv : ByteArray} {ba : Bool} {be : Int} {tk tv : ByteArray} {te : Int} (h : BeS wB D E bk bv ba be tk tv te wB) (hD : D < wB.heap.size) (hE : E < wB.heap.size) (hb : Below wB.heap.size wB u') : BeS wB D E bk bv ba be tk tv te u' := by
 obtain ⟨_, h1, h2, h3, h4, h5, h6, h7⟩ := h
 exact ⟨hb, (hb.cell hD).trans h1, (hb.cell hD).trans h2, (hb.cell hD).trans h3, (hb.cell hD).trans h4, (hb.cell hE).trans h5, (hb.cell hE).trans h6, (hb.cell hE).trans h7⟩
theorem zG1 (bk bv : ByteArray) (ba : Bool) (be : Int) (tk tv : ByteArray) (te : Int) (w : World) : Calls Tryz.prog 242 #[.agg #[.string bk, .string bv, .bool ba, .int .i64 be], .agg #[.string tk, .string tv, .int .i64 te]] w fun e w' => e = .returned (.bool (bearsB (bk, bv, ba, be) (tk, tv, te))) /\ Below w.heap.size w w' := by
 have hS0 : BeS ((w.alloc (.cells #[.string bk, .string bv, .bool ba, .int .i64 be] 154)).alloc (.cells #[.string tk, .string tv, .int .i64 te] 156)) w.heap.size (w.heap.size + 1) bk bv ba be tk tv te ((w.alloc (.cells #[.string bk, .string bv, .bool ba, .int .i64 be] 154)).alloc (.cells #[.string tk, .string tv, .int .i64 te] 156)) :=
  ⟨Below.refl _ _, by simp [go_sem], by simp [go_sem], by simp [go_sem], by simp [go_sem], by simp [go_sem], by simp [go_sem], by simp [go_sem]⟩
 have hb0 : Below w.heap.size w ((w.alloc (.cells #[.string bk, .string bv, .bool ba, .int .i64 be] 154)).alloc (.cells #[.string tk, .string tv, .int .i64 te] 156)) := by go_grown
 have hD : w.heap.size < ((w.alloc (.cells #[.string bk, .string bv, .bool ba, .int .i64 be] 154)).alloc (.cells #[.string tk, .string tv, .int .i64 te] 156)).heap.size := by simp; omega
 have hE : w.heap.size + 1 < ((w.alloc (.cells #[.string bk, .string bv, .bool ba, .int .i64 be] 154)).alloc (.cells #[.string tk, .string tv, .int .i64 te] 156)).heap.size := by simp
 have HS : Hid (∀ {u : World}, Below ((w.alloc (.cells #[.string bk, .string bv, .bool ba, .int .i64 be] 154)).alloc (.cells #[.string tk, .string tv, .int .i64 te] 156)).heap.size ((w.alloc (.cells #[.string bk, .string bv, .bool ba, .int .i64 be] 154)).alloc (.cells #[.string tk, .string tv, .int .i64 te] 156)) u -> BeS ((w.alloc (.cells #[.string bk, .string bv, .bool ba, .int .i64 be] 154)).alloc (.cells #[.string tk, .string tv, .int .i64 te] 156)) w.heap.size (w.heap.size + 1) bk bv ba be tk tv te u) := fun hb => hS0.to hD hE hb
 have HM := zGQ bk bv ba be tk tv te
 have HQ := eqT (meantT (bk, bv, ba, be) (tk, tv, te)) (tk, tv, te)
 have HG := guardT
 rw [zFg] at HQ
 clear hS0
 generalize meantT (bk, bv, ba, be) (tk, tv, te) = m at HM HQ
 generalize bearsB (bk, bv, ba, be) (tk, tv, te) = r at HQ |-
 go_enter Tryz.func242, Tryz.ntmps242
 go_wp2_with fail
 generalize hwB : ((w.alloc (.cells #[.string bk, .string bv, .bool ba, .int .i64 be] 154)).alloc (.cells #[.string tk, .string tv, .int .i64 te] 156)) = wB at HS hb0 hD hE
 refine wp_region_noPanic ?_
 refine wp_region_held_drew (S := BeS wB w.heap.size (w.heap.size + 1) bk bv ba be tk tv te) (by kernel_rfl) (HS.out (Below.refl _ _).drew) (fun gH => ?_)
 refine wpAnyH_take (i := 0) (v := ?v0) rfl (by kernel_rfl) (by kernel_rfl) (by kernel_rfl) (fun _ _ _ h => h) (Or.inl ⟨by rfl, ?hy0⟩) (by assumption) ?rest0
 case hy0 => (intro u hu; obtain ⟨_, _, _, _, _, _, _, _⟩ := hu; go_simp; try with_reducible rfl)
 try simp only [Act.put, List.setIfInBounds_toArray, List.set_cons_zero, List.set_cons_succ, List.getElem_toArray, List.getElem_cons_zero, List.getElem_cons_succ]
 refine wpAnyH_take (i := 1) (v := ?v1) rfl (by kernel_rfl) (by kernel_rfl) (by kernel_rfl) (fun _ _ _ h => h) (Or.inl ⟨by rfl, ?hy1⟩) (by assumption) ?rest1
 case hy1 => (intro u hu; obtain ⟨_, _, _, _, _, _, _, _⟩ := hu; go_simp; try with_reducible rfl)
 try simp only [Act.put, List.setIfInBounds_toArray, List.set_cons_zero, List.set_cons_succ, List.getElem_toArray, List.getElem_cons_zero, List.getElem_cons_succ]
 refine wpAnyH_take (i := 3) (v := ?v3) rfl (by kernel_rfl) (by kernel_rfl) (by kernel_rfl) (fun _ _ _ h => h) (Or.inl ⟨by rfl, ?hy3⟩) (by assumption) ?rest3
 case hy3 => (intro u hu; obtain ⟨_, _, _, _, _, _, _, _⟩ := hu; go_simp; try with_reducible rfl)
 try simp only [Act.put, List.setIfInBounds_toArray, List.set_cons_zero, List.set_cons_succ, List.getElem_toArray, List.getElem_cons_zero, List.getElem_cons_succ]
 refine wpAnyH_ready (rs := [2]) (by kernel_rfl) (by simp) ?_
 refine AllReadyH.cons rfl (fun K hK => ?_) AllReadyH.nil
 go_simp
 refine (HM _).mono ?_
 rintro e w1 ⟨rfl, hb1⟩
 go_wp2_with fail
 refine hK.out _ _ (HS.out (on2 gH.1 hb1)) (fun gI => ?_)
 clear hK K gH
 have gH := gI
 clear gI
 try simp only [Act.put, List.setIfInBounds_toArray, List.set_cons_zero, List.set_cons_succ, List.getElem_toArray, List.getElem_cons_zero, List.getElem_cons_succ]
 refine wpAnyH_take (i := 4) (v := ?v4) rfl (by kernel_rfl) (by kernel_rfl) (by kernel_rfl) (fun _ _ _ h => h) (Or.inl ⟨by rfl, ?hy4⟩) (by assumption) ?rest4
 case hy4 => (intro u hu; obtain ⟨_, _, _, _, _, _, _, _⟩ := hu; go_simp; try with_reducible rfl)
 try simp only [Act.put, List.setIfInBounds_toArray, List.set_cons_zero, List.set_cons_succ, List.getElem_toArray, List.getElem_cons_zero, List.getElem_cons_succ]
 refine wpAnyH_take (i := 5) (v := ?v5) rfl (by kernel_rfl) (by kernel_rfl) (by kernel_rfl) (fun _ _ _ h => h) (Or.inl ⟨by rfl, ?hy5⟩) (by assumption) ?rest5
 case hy5 => (intro u hu; obtain ⟨_, _, _, _, _, _, _, _⟩ := hu; go_simp; try with_reducible rfl)
 try simp only [Act.put, List.setIfInBounds_toArray, List.set_cons_zero, List.set_cons_succ, List.getElem_toArray, List.getElem_cons_zero, List.getElem_cons_succ]
 refine wpAnyH_done (by kernel_rfl) ?_ _
 refine NoPanic.normal ?_
 go_wp2_with fail
 go_ret
 exact ⟨rfl, on2 hb0 gH.1⟩
section
variable {P : Program} {md : Region.Mode} {ops : Array Oper} {Q : Exit -> Act -> World -> Prop} {S : World -> Prop} {oi : Oper} {d fuel : Nat} {listed : Array Bool} {a : Act} {w : World}
theorem t3b (i j q : Nat) {oj oq : Oper} {e f : Nat}
  (h : ∀ K' : Act -> World -> Prop, Shut (∀ v w, S w -> (S w -> wpAnyH P md ops Q S fuel (listed.setIfInBounds i true) (a.put (some d) v) w) -> K' (a.put oi.dst v) w) -> if Region.wanted oi (yielded ops a.tmps) = true then Oper.wp P oi a w K' Q else K' (a.put oi.dst undef) w)
  (h2 : ∀ K' : Act -> World -> Prop, Shut (∀ v w, S w -> (S w -> wpAnyH P md ops Q S fuel (listed.setIfInBounds j true) (a.put (some e) v) w) -> K' (a.put oj.dst v) w) -> if Region.wanted oj (yielded ops a.tmps) = true then Oper.wp P oj a w K' Q else K' (a.put oj.dst undef) w)
  (h3 : ∀ K' : Act -> World -> Prop, Shut (∀ v w, S w -> (S w -> wpAnyH P md ops Q S fuel (listed.setIfInBounds q true) (a.put (some f) v) w) -> K' (a.put oq.dst v) w) -> if Region.wanted oq (yielded ops a.tmps) = true then Oper.wp P oq a w K' Q else K' (a.put oq.dst undef) w)
  (hi : ops[i]? = some oi := by rfl) (hd : oi.dst = some d := by rfl) (hj : ops[j]? = some oj := by rfl) (he : oj.dst = some e := by rfl) (hq : ops[q]? = some oq := by rfl) (hf : oq.dst = some f := by rfl) (hr : Region.ready md ops listed = [i, j, q] := by kernel_rfl) : wpAnyH P md ops Q S (fuel + 1) listed a w :=
 wpAnyH_ready hr (by simp) (AllReadyH.cons hi (fun K' hK => h K' (fun v w h1 h2 => hK.out _ w h1 (fun h3 => hd ▸ h2 h3)))
  (AllReadyH.cons hj (fun K' hK => h2 K' (fun v w h1 h2 => hK.out _ w h1 (fun h3 => he ▸ h2 h3)))
   (AllReadyH.cons hq (fun K' hK => h3 K' (fun v w h1 h2 => hK.out _ w h1 (fun h3 => hf ▸ h2 h3))) AllReadyH.nil)))
end
end Go.Proofs.YtnffafjamiffnaaGreat
namespace Go.Proofs.YtnffafjamiffnaaGreat
open Go.ChangeShapes Go.WideShapes Go.ChangeAt Go.RowKit
def Opens {α : Type} (R : Rep α) (t : TypeId) : Prop :=
 ∀ {H : Type} {enc : TypeId × Value -> H} {W : World} {base n : Nat} {sp : Nat -> Bool} {held : Bool} {cs : List Value} {x : DataW H × List MemPlace},
  DataW.trod enc Tryz.prog W base sp held n t cs = some x -> Light x.1 t -> ∃ y, R (fun _ => True) W cs y
theorem zA8 : Opens RStr 9 := by
 intro H enc W base n sp held cs x h hl
 obtain ⟨s, hs, rfl, _⟩ := DataW.trod_string Tryz.underlying9 h
 refine ⟨s, hs, ?_⟩
 have := hl s.data.toList.length (by simp [DataW.weights])
 simp at this
 omega
theorem zAG : Opens RInt 3 := by
 intro H enc W base n sp held cs x h _
 obtain ⟨e, e1, _, _⟩ := DataW.trod_int Tryz.underlying3 h
 exact ⟨e, e1⟩
theorem zC6 : Opens RBool 4 := by
 intro H enc W base n sp held cs x h _
 obtain ⟨b, b1, _⟩ := DataW.trod_bool Tryz.underlying4 h
 exact ⟨b, b1⟩
theorem zAI {α : Type} [Inhabited α] {R : Rep α} {k bytes : Nat} {t e : TypeId} (hR : Firm R k) (hu : Tryz.prog.underlying t = some (.slice e)) (ck : Tryz.prog.cellsOf e = k) (bk : Tryz.prog.bytesOf e = bytes) (hk0 : 0 < k) (hE : Opens R e) : Opens (RSl R k bytes) t := by
 intro H enc W base n sp held cs x h hl
 rcases Go.Deep.open_slice hu h with ⟨hv, _⟩ | ⟨a, len, cap, m, nn, D, Pl, hv, _, hlc, _, hm, rfl, hel⟩
 ·exact ⟨[], none, 0, 0, hv, SlAt.nil _ _ _ _ (fun _ => rfl)⟩
 ·obtain ⟨w1, w2⟩ := zCW hu hl
  simp only [List.length_map, List.length_range, bk] at w1
  have hml : len <= m := by rw [hm]; split <;> omega
  rw [ck] at hel
  have each : ∀ i, i < len -> ∃ y : α, ∃ cs, R (fun _ => True) W cs y /\ ∀ j u, cs[j]? = some u -> W.cell? ((a.add (i * k)).add j) = some u := fun i hi => by
   obtain ⟨cs', h1, h2⟩ := hel i (by omega)
   obtain ⟨y, hy⟩ := hE h2 (w2 _ (List.mem_map.2 ⟨i, List.mem_range.2 hi, rfl⟩))
   obtain ⟨_, _, hcell⟩ := World.cells?_some h1
   refine ⟨y, cs', hy, fun j u hj => ?_⟩
   have hjk : j < k := by
    have := (List.getElem?_eq_some_iff.1 hj).1
    rwa [hR.len hy] at this
   rw [hcell j hjk, hj]
  obtain ⟨f, hf⟩ := Go.Deep.choose_lt each
  refine ⟨(List.range len).map f, some a, len, cap, hv, by simp, hlc, (fun h => by cases h), w1, fun hpos => ?_⟩
  obtain ⟨B, off, spot⟩ := a
  obtain ⟨cs0, hr0, hc0⟩ := hf 0 hpos
  have hex : ∃ u, cs0[0]? = some u := by
   cases e : cs0 with
   | nil => have := hR.len hr0; rw [e] at this; simp at this; omega
   | cons u r => exact ⟨u, rfl⟩
  obtain ⟨u0, hu0⟩ := hex
  have hc0 := hc0 0 u0 hu0
  have hsp : spot = none := by
   have := World.cell?_spot hc0
   simpa [Addr.add] using this
  subst hsp
  rw [add_lit, add_lit] at hc0
  refine ⟨B, off, rfl, addr_lt hc0, trivial, fun i hi => ?_⟩
  obtain ⟨cs, hr, hc⟩ := hf i hi
  refine ⟨cs, by rw [zDZ f len i hi]; exact hr, fun j u hj => ?_⟩
  have := hc j u hj
  rwa [add_lit, add_lit] at this
def OpensFs {α : Type} (fs : List Field) (off total : Nat) (R : Rep α) : Prop :=
 ∀ {H : Type} {enc : TypeId × Value -> H} {W : World} {base n : Nat} {sp : Nat -> Bool} {held : Bool} {cs : List Value}, cs.length = total ->
  (∀ (j : Nat) (f : Field), fs[j]? = some f -> ∃ d, DataW.trod enc Tryz.prog W base sp held n f.type ((cs.drop f.offset).take (Tryz.prog.cellsOf f.type)) = some d /\ Light d.1 f.type) -> ∃ y, R (fun _ => True) W (cs.drop off) y
theorem zAB {α : Type} {R : Rep α} {f : Field} {off total : Nat} (ho : f.offset = off) (ht : off + Tryz.prog.cellsOf f.type = total) (h : Opens R f.type) : OpensFs [f] off total R := by
 intro H enc W base n sp held cs hl hf
 obtain ⟨d, h1, h2⟩ := hf 0 f rfl
 rw [ho, List.take_of_length_le (by rw [List.length_drop]; omega)] at h1
 exact h h1 h2
theorem zA3 {α β : Type} {R : Rep α} {S : Rep β} {f : Field} {fs : List Field} {off m total : Nat} (ho : f.offset = off) (hm : off + Tryz.prog.cellsOf f.type = m) (h : Opens R f.type) (hs : OpensFs fs m total S) : OpensFs (f :: fs) off total (RPair R S) := by
 intro H enc W base n sp held cs hl hf
 obtain ⟨d, h1, h2⟩ := hf 0 f rfl
 rw [ho] at h1
 obtain ⟨y, hy⟩ := h h1 h2
 obtain ⟨z, hz⟩ := hs (cs := cs) hl (fun j g hg => hf (j + 1) g (by simpa using hg))
 refine ⟨(y, z), (cs.drop off).take (Tryz.prog.cellsOf f.type), cs.drop m, ?_, hy, hz⟩
 rw [<- hm, <- List.drop_drop]
 exact (List.take_append_drop _ _).symm
theorem zAC {α : Type} {R : Rep α} {t : TypeId} {fs : Array Field} {total : Nat} (hu : Tryz.prog.underlying t = some (.struct fs)) (hc : Tryz.prog.cellsOf t = total) (h : OpensFs fs.toList 0 total R) : Opens R t := by
 intro H enc W base n sp held cs x hx hl
 obtain ⟨xs, m, _, rfl, hlen, hxs, hf⟩ := DataW.trod_struct hu hx
 have := h (enc := enc) (W := W) (base := base) (n := m) (sp := sp) (held := held) (cs := cs) (by rw [hlen, hc]) (fun j f hj => by
  have hj' : fs[j]? = some f := by simpa using hj
  have h1 := hf j f hj'
  have hlt : j < xs.length := by
   have := (Array.getElem?_eq_some_iff.1 hj').1
   omega
  have h2 : xs[j]? = some xs[j] := List.getElem?_eq_getElem hlt
  rw [h2] at h1
  refine ⟨xs[j], h1, zCD hu hl (j := j) (by simp [hj']) (by simp [h2])⟩)
 simpa using this
theorem arg_agg {P : Program} {t : TypeId} {fs : Array Field} (hu : P.underlying t = some (.struct fs)) {H : Type} {enc : TypeId × Value -> H} {W : World} {base b0 : Nat} {r : Reach} {sp : Nat -> Bool} {held : Bool} {v : Value} {d : DataW H} {p : List MemPlace}
  (hv : Value.okWide P W r b0 t v) (hd : DataW.Trod enc P W base sp held t v d p) : ∃ (cs : Array Value) (fuel : Nat), v = .agg cs /\ DataW.trod enc P W base sp held fuel t cs.toList = some (d, p) := by
 obtain ⟨cs, rfl, _⟩ := okWide_struct hu hv
 obtain ⟨fuel, hf⟩ := hd
 exact ⟨cs, fuel, rfl, hf⟩
end Go.Proofs.YtnffafjamiffnaaGreat
