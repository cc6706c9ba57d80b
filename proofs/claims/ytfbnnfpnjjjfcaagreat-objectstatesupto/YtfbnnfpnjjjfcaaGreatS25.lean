/- The document's own value, Check and CheckBears return what the plain functions say, and change nothing that was there, and its like. No condition beyond what each says. -/
import Derived.Laws.Cover1
import Derived.Test.YtfbnnfpnjjjfcaaGreatS24
namespace Go.Proofs.YtfbnnfpnjjjfcaaGreat.Tn
set_option maxHeartbeats 16000000
set_option maxRecDepth 100000
open Tryz Go.RowKit
set_option linter.unusedSimpArgs false
theorem rvalue_calls (s : ByteArray) (hs : s.size ≤ 140737488355328) (w : World) : Calls prog 75 #[.string s] w fun e w' => e = .returned (.bool (valB s)) ∧ w' = w := by
 have hw := rWord_calls s hs
 by_cases h0 : s.size = 0
 ·
  have HF : Hid (valB s = true) := by simp [Hid, valB, h0]
  have he := empty_of h0
  go_enter func75, ntmps75
  go_wp2
  go_ret
  exact ⟨retb HF.out.symm, rfl⟩
 ·
  have HF : Hid (valB s = wordB s) := by simp [Hid, valB, h0]
  have he := not_empty_of (s := s) (by omega)
  generalize wordB s = b at hw HF
  go_enter func75, ntmps75
  go_wp2_with (go_at_call 39; refine (hw _).mono ?_; rintro e w' ⟨rfl, rfl⟩)
  go_ret
  exact ⟨retb HF.out.symm, rfl⟩
theorem twin_no {L : List Tnt} {k : Nat} {x : Tnt} (hk : k ≤ L.length) (h : ∀ j, j < k → (sEq (L.getD j default).1 x.1 && ((L.getD j default).2.2 == x.2.2)) = false) : twinB (L.take k) x = false :=
 any_no (L := L.take k) (p := fun (y : Tnt) => sEq y.1 x.1 && (y.2.2 == x.2.2)) (fun j hj => by
  have hj' : j < k := by rw [List.length_take] at hj; omega
  rw [getD_take L k j hj' (by omega)]
  exact h j hj')
theorem twin_yes {L : List Tnt} {k j : Nat} {x : Tnt} (hk : k ≤ L.length) (hj : j < k) (h : (sEq (L.getD j default).1 x.1 && ((L.getD j default).2.2 == x.2.2)) = true) : twinB (L.take k) x = true :=
 any_yes (L := L.take k) (p := fun (y : Tnt) => sEq y.1 x.1 && (y.2.2 == x.2.2)) (k := j) (by rw [List.length_take]; omega) (by rw [getD_take L k j hj (by omega)]; exact h)
theorem rCheck_calls (a : Option Addr) (cap : Nat) (L : List Tnt) (w : World) (hL : Hid (TntsAt w a L)) : Calls prog 61 #[.slice a L.length cap] w fun e w' => e = .returned (.int .i64 (checkT L)) ∧ Below w.heap.size w w' := by
 by_cases h64 : (64 : Int) < (L.length : Int)
 ·
  have HF : Hid (checkT L = 3) := checkT_long (by omega)
  go_enter func61, ntmps61
  go_wp2
  go_ret
  exact ⟨reti HF.out.symm, Below.refl _ _⟩
 go_enter func61, ntmps61
 go_wp2_with fail
 go_loopw [3] (fun i wr => ∃ k : Nat, k ≤ L.length ∧ i = .int .i64 k ∧ Below w.heap.size w wr ∧ Hid (∀ j, j < k → tOk L j = true)) (fun i _ => L.length - (intOf i).toNat)
 case atStart => exact ⟨0, Nat.zero_le _, rfl, Below.refl _ _, fun j hj => absurd hj (Nat.not_lt_zero _)⟩
 case round =>
  obtain ⟨k, hk, rfl, hbel, hall⟩ := hrel
  by_cases hlt : k < L.length
  ·
   obtain ⟨w1, hw1⟩ : ∃ w1, w1 = wr := ⟨_, rfl⟩
   subst hw1
   obtain ⟨B, off, rfl, hB, d0, d1, d2, ho⟩ := TntsAt.get (hL.out.on hbel) hlt
   have hW := rWord_calls (L.getD k default).1 ho.1
   have hV := rvalue_calls (L.getD k default).2.1 ho.2
   have hbad : Hid (tOk L k = false → checkT L = 30) := fun h => checkT_bad (by omega) hlt h
   have hgo : Hid (tOk L k = true → ∀ j, j < k + 1 → tOk L j = true) := fun h j hj => by
    rcases Nat.lt_succ_iff_lt_or_eq.1 hj with h' | rfl
    ·
     exact hall.out j h'
    ·
     exact h
   have hok : Hid (tOk L k = (wordB (L.getD k default).1 && valB (L.getD k default).2.1 && (((L.getD k default).2.2 == 1) || ((L.getD k default).2.2 == 2)) && !twinB (L.take k) (L.getD k default))) := rfl
   have htn : Hid ((∀ j, j < k → (sEq (L.getD j default).1 (L.getD k default).1 && ((L.getD j default).2.2 == (L.getD k default).2.2)) = false) → twinB (L.take k) (L.getD k default) = false) := fun h => twin_no hk h
   have hty : Hid (∀ j, j < k → (sEq (L.getD j default).1 (L.getD k default).1 && ((L.getD j default).2.2 == (L.getD k default).2.2)) = true → twinB (L.take k) (L.getD k default) = true) := fun j hj h => twin_yes hk hj h
   have hlt' : (k : Int) < (L.length : Int) := by omega
   have hBw : B < w1.heap.size := hB
   clear hall ho
   generalize wordB (L.getD k default).1 = p at hW hok
   generalize valB (L.getD k default).2.1 = q at hV hok
   generalize twinB (L.take k) (L.getD k default) = tw at hok htn hty
   generalize L.getD k default = x at d0 d1 d2 hW hV hok htn hty
   obtain ⟨e1, he1⟩ : ∃ e1, (x.2.2 == 1) = e1 := ⟨_, rfl⟩
   obtain ⟨e2, he2⟩ : ∃ e2, (x.2.2 == 2) = e2 := ⟨_, rfl⟩
   rw [he1, he2] at hok
   have he1' : (x.2.2 != 1) = !e1 := by rw [← he1]; rfl
   have he2' : (x.2.2 != 2) = !e2 := by rw [← he2]; rfl
   clear he1 he2
   have HP : (p = false ∨ (p = true ∧ q = false) ∨ (p = true ∧ q = true ∧ e1 = false ∧ e2 = false)) ∧ Hid (checkT L = 30) ∨ (p = true ∧ q = true ∧ (e1 = true ∨ (e1 = false ∧ e2 = true))) ∧ Hid (tOk L k = !tw) := by
    have h := hok.out
    cases p
    ·
     exact .inl ⟨.inl rfl, hbad.out (by rw [h]; rfl)⟩
    cases q
    ·
     exact .inl ⟨.inr (.inl ⟨rfl, rfl⟩), hbad.out (by rw [h]; rfl)⟩
    cases e1
    ·
     cases e2
     ·
      exact .inl ⟨.inr (.inr ⟨rfl, rfl, rfl, rfl⟩), hbad.out (by rw [h]; rfl)⟩
     ·
      exact .inr ⟨⟨rfl, rfl, .inr ⟨rfl, rfl⟩⟩, h⟩
    ·
     exact .inr ⟨⟨rfl, rfl, .inl rfl⟩, by rw [Hid, h]; rfl⟩
   clear hok
   rcases HP with ⟨rfl | ⟨rfl, rfl⟩ | ⟨rfl, rfl, rfl, rfl⟩, HF⟩ | ⟨⟨rfl, rfl, he⟩, hok⟩
   ·
    go_wp2_with fail
    refine (hW _).mono ?_
    rintro e w2 ⟨rfl, rfl⟩
    go_wp2_with fail
    go_ret
    exact ⟨reti HF.out.symm, hbel⟩
   ·
    go_wp2_with fail
    refine (hW _).mono ?_
    rintro e w2 ⟨rfl, rfl⟩
    go_wp2_with fail
    refine (hV _).mono ?_
    rintro e w2 ⟨rfl, rfl⟩
    go_wp2_with fail
    go_ret
    exact ⟨reti HF.out.symm, hbel⟩
   ·
    simp only [Bool.not_false] at he1' he2'
    go_wp2_with fail
    refine (hW _).mono ?_
    rintro e w2 ⟨rfl, rfl⟩
    go_wp2_with fail
    refine (hV _).mono ?_
    rintro e w2 ⟨rfl, rfl⟩
    go_wp2_with fail
    go_ret
    exact ⟨reti HF.out.symm, hbel⟩
   ·
    rcases he with rfl | ⟨rfl, rfl⟩ <;> (
     simp only [Bool.not_false, Bool.not_true] at he1' he2'
     go_wp2_with fail
     refine (hW _).mono ?_
     rintro e w2 ⟨rfl, rfl⟩
     go_wp2_with fail
     refine (hV _).mono ?_
     rintro e w2 ⟨rfl, rfl⟩
     go_wp2_with fail
     clear hW hV
     go_loopw [4] (fun i wr => ∃ m : Nat, m ≤ k ∧ i = .int .i64 m ∧ Below w2.heap.size w2 wr ∧ Hid (∀ j, j < m → (sEq (L.getD j default).1 x.1 && ((L.getD j default).2.2 == x.2.2)) = false)) (fun i _ => k - (intOf i).toNat)
     case atStart => exact ⟨0, Nat.zero_le _, rfl, Below.refl _ _, fun j hj => absurd hj (Nat.not_lt_zero _)⟩
     case round =>
      obtain ⟨m, hm, rfl, hbel2, hall⟩ := hrel
      by_cases hmk : m < k
      ·
       obtain ⟨B', off', e', hB', g0, g1, g2, ho⟩ := TntsAt.get (hL.out.on (on2 hbel hbel2)) (show m < L.length by omega)
       obtain ⟨rfl, rfl⟩ : B = B' ∧ off = off' := by simpa using e'
       clear ho e' g1
       have x0 := (hbel2.cell (p := ⟨B, off + k * 3, none⟩) hBw).trans d0
       have x2 := (hbel2.cell (p := ⟨B, off + k * 3 + 2, none⟩) hBw).trans d2
       have hml' : (m : Int) < (L.length : Int) := by omega
       have HG : Hid ((sEq (L.getD m default).1 x.1 && ((L.getD m default).2.2 == x.2.2)) = false → ∀ j, j < m + 1 → (sEq (L.getD j default).1 x.1 && ((L.getD j default).2.2 == x.2.2)) = false) := fun h j hj => by
        rcases Nat.lt_succ_iff_lt_or_eq.1 hj with h' | rfl
        ·
         exact hall.out j h'
        ·
         exact h
       have HB : Hid ((sEq (L.getD m default).1 x.1 && ((L.getD m default).2.2 == x.2.2)) = true → checkT L = 30) := fun h => hbad.out (by rw [hok.out, hty.out m hmk h]; rfl)
       clear hall
       generalize L.getD m default = y at g0 g2 HG HB
       cases hs : sEq y.1 x.1
       ·
        have HG' := HG.out (by rw [hs]; rfl)
        have HG2 : Hid (∀ j, j < m + 1 → (sEq (L.getD j default).1 x.1 && ((L.getD j default).2.2 == x.2.2)) = false) := HG'
        unfold sEq at hs
        clear HG HB HG' hgo hbad htn hty hok d0 d1 d2
        go_wp2_with fail
        go_quiet (fail)
        go_wp2_with fail
        go_roundw
        case rel => exact ⟨m + 1, by omega, by go_num, on2 hbel2 (below_drewN (by go_grown) _), HG2⟩
        case measure => simp [intOf]; omega
       ·
        cases hi : (y.2.2 == x.2.2)
        ·
         have HG' := HG.out (by rw [hs, hi]; rfl)
         have HG2 : Hid (∀ j, j < m + 1 → (sEq (L.getD j default).1 x.1 && ((L.getD j default).2.2 == x.2.2)) = false) := HG'
         unfold sEq at hs
         clear HG HB HG' hgo hbad htn hty hok d0 d1 d2
         go_wp2_with fail
         go_quiet (fail)
         go_wp2_with fail
         go_roundw
         case rel => exact ⟨m + 1, by omega, by go_num, on2 hbel2 (below_drewN (by go_grown) _), HG2⟩
         case measure => simp [intOf]; omega
        ·
         have HB' : Hid (checkT L = 30) := HB.out (by rw [hs, hi]; rfl)
         unfold sEq at hs
         clear HG HB hgo hbad htn hty hok d0 d1 d2
         go_wp2_with fail
         go_quiet (fail)
         go_wp2_with fail
         go_ret
         exact ⟨reti HB'.out.symm, on2 hbel (on2 hbel2 (below_drewN (by go_grown) _))⟩
      ·
       have HG : Hid (∀ j, j < k + 1 → tOk L j = true) := hgo.out (by rw [hok.out, htn.out (fun j hj => hall.out j (by omega))]; rfl)
       clear hall hgo hbad htn hty hok
       go_wp2_with fail
       go_roundw
       case rel => exact ⟨k + 1, by omega, by go_num, on2 hbel hbel2, HG⟩
       case measure => simp [intOf]; omega)
  ·
   have HF : Hid (checkT L = 0) := checkT_ok (by omega) (fun j hj => hall.out j (by omega))
   clear hall
   go_wp2_with fail
   go_ret
   exact ⟨reti HF.out.symm, hbel⟩
theorem nil_size (s : ByteArray) : sNil s = decide (s.size = 0) := by
 by_cases h : s.size = 0
 ·
  rw [sNil, empty_of h]; simp [h]
 ·
  rw [sNil, not_empty_of (by omega)]; simp [h]
theorem word_val (s : ByteArray) : wordB s = (valB s && !sNil s) := by
 rw [nil_size, valB]
 by_cases h : s.size = 0
 ·
  rw [wordB_no (by omega)]; simp [h]
 ·
  simp [h]
theorem nil_val {s : ByteArray} (h : sNil s = true) : valB s = true := by
 rw [nil_size] at h
 simp only [decide_eq_true_eq] at h
 simp [valB, h]
theorem eff_range (e : Int) : (e == 0 || effB e) = (!decide (e < 0) && !decide (2 < e)) := by
 rw [Bool.eq_iff_iff]
 simp [effB]
 omega
theorem bearOk_ref (b : Bear) : bearOk b = ((!decide (b.2.2.2 < 0) && !decide (2 < b.2.2.2)) && (valB b.1 && valB b.2.1 && !(sNil b.1 && !b.2.2.1) && !(b.2.2.1 && !sNil b.2.1))) := by
 obtain ⟨bk, bv, ba, be⟩ := b
 simp only [bearOk, eff_range, word_val]
 cases ba
 ·
  cases valB bk <;> cases sNil bk <;> cases valB bv <;> cases sNil bv <;> simp
 ·
  cases hn : sNil bv
  ·
   cases valB bk <;> cases sNil bk <;> cases valB bv <;> simp
  ·
   rw [nil_val hn]
   cases valB bk <;> cases sNil bk <;> simp
theorem rb2_paths (g l q v kn ba vn r : Bool) (h : r = ((!g && !l) && (q && v && !(kn && !ba) && !(ba && !vn)))) :
  r = false ∧ (g = true ∨ (g = false ∧ l = true) ∨ (g = false ∧ l = false ∧ q = false) ∨ (g = false ∧ l = false ∧ q = true ∧ v = false) ∨ (g = false ∧ l = false ∧ q = true ∧ v = true ∧ kn = true ∧ ba = false) ∨ (g = false ∧ l = false ∧ q = true ∧ v = true ∧ kn = true ∧ ba = true ∧ vn = false) ∨ (g = false ∧ l = false ∧ q = true ∧ v = true ∧ kn = false ∧ ba = true ∧ vn = false)) ∨
  r = true ∧ (g = false ∧ l = false ∧ q = true ∧ v = true) ∧ ((kn = true ∧ ba = true ∧ vn = true) ∨ (kn = false ∧ ba = false) ∨ (kn = false ∧ ba = true ∧ vn = true)) := by
 subst h
 cases g <;> cases l <;> cases q <;> cases v <;> cases kn <;> cases ba <;> cases vn <;> simp
theorem rCheckBears_calls (a : Option Addr) (cap : Nat) (L : List Bear) (w : World) (hL : Hid (BearsAt w a L)) : Calls prog 57 #[.slice a L.length cap] w fun e w' => e = .returned (.int .i64 (checkBr L)) ∧ Below w.heap.size w w' := by
 by_cases h64 : (64 : Int) < (L.length : Int)
 ·
  have HF : Hid (checkBr L = 3) := checkBr_long (by omega)
  go_enter func57, ntmps57
  go_wp2
  go_ret
  exact ⟨reti HF.out.symm, Below.refl _ _⟩
 go_enter func57, ntmps57
 go_wp2_with fail
 go_loopw [3] (fun i wr => ∃ k : Nat, k ≤ L.length ∧ i = .int .i64 k ∧ Below w.heap.size w wr ∧ Hid (∀ j, j < k → bearOk (L.getD j default) = true)) (fun i _ => L.length - (intOf i).toNat)
 case atStart => exact ⟨0, Nat.zero_le _, rfl, Below.refl _ _, fun j hj => absurd hj (Nat.not_lt_zero _)⟩
 case round =>
  obtain ⟨k, hk, rfl, hbel, hall⟩ := hrel
  by_cases hlt : k < L.length
  ·
   obtain ⟨B, off, rfl, hB, d0, d1, d2, d3, ho⟩ := BearsAt.get (hL.out.on hbel) hlt
   have hK := rvalue_calls (L.getD k default).1 ho.1
   have hV := rvalue_calls (L.getD k default).2.1 ho.2
   have hbad : Hid (bearOk (L.getD k default) = false → checkBr L = 30) := fun h => checkBr_bad (by omega) hlt h
   have hgo : Hid (bearOk (L.getD k default) = true → ∀ j, j < k + 1 → bearOk (L.getD j default) = true) := fun h j hj => by
    rcases Nat.lt_succ_iff_lt_or_eq.1 hj with h' | rfl
    ·
     exact hall.out j h'
    ·
     exact h
   have hok := bearOk_ref (L.getD k default)
   have hlt' : (k : Int) < (L.length : Int) := by omega
   have hbx : Below wr.heap.size wr (wr.alloc (.cells #[.string (L.getD k default).1, .string (L.getD k default).2.1, .bool (L.getD k default).2.2.1, .int .i64 (L.getD k default).2.2.2] 128)) := by go_grown
   clear hall ho
   generalize bearOk (L.getD k default) = r at hbad hgo hok
   generalize valB (L.getD k default).1 = q at hK hok
   generalize valB (L.getD k default).2.1 = v at hV hok
   generalize L.getD k default = x at d0 d1 d2 d3 hK hV hok hbx
   obtain ⟨xk, xv, xa, xe⟩ := x
   simp only at d0 d1 d2 d3 hK hV hok hbx
   obtain ⟨g, hg⟩ : ∃ g, decide (xe < 0) = g := ⟨_, rfl⟩
   obtain ⟨l, hl⟩ : ∃ l, decide (2 < xe) = l := ⟨_, rfl⟩
   obtain ⟨kn, hkn⟩ : ∃ kn, sNil xk = kn := ⟨_, rfl⟩
   obtain ⟨vn, hvn⟩ : ∃ vn, sNil xv = vn := ⟨_, rfl⟩
   rw [hg, hl, hkn, hvn] at hok
   unfold sNil at hkn hvn
   have HP := rb2_paths g l q v kn xa vn r hok
   clear hok
   rcases HP with ⟨rfl, HP⟩ | ⟨rfl, ⟨rfl, rfl, rfl, rfl⟩, HP⟩
   ·
    have HF : Hid (checkBr L = 30) := hbad.out rfl
    clear hbad hgo
    rcases HP with rfl | ⟨rfl, rfl⟩ | ⟨rfl, rfl, rfl⟩ | ⟨rfl, rfl, rfl, rfl⟩ | ⟨rfl, rfl, rfl, rfl, rfl, rfl⟩ | ⟨rfl, rfl, rfl, rfl, rfl, rfl, rfl⟩ | ⟨rfl, rfl, rfl, rfl, rfl, rfl, rfl⟩ <;> (
     go_wp2_with fail
     try (refine (hK _).mono ?_; rintro e w1 ⟨rfl, rfl⟩; go_wp2_with fail)
     try (refine (hV _).mono ?_; rintro e w1 ⟨rfl, rfl⟩; go_wp2_with fail)
     go_ret
     exact ⟨reti HF.out.symm, on2 hbel hbx⟩)
   ·
    have HG : Hid (∀ j, j < k + 1 → bearOk (L.getD j default) = true) := hgo.out rfl
    clear hbad hgo
    rcases HP with ⟨rfl, rfl, rfl⟩ | ⟨rfl, rfl⟩ | ⟨rfl, rfl, rfl⟩ <;> (
     go_wp2_with fail
     refine (hK _).mono ?_
     rintro e w1 ⟨rfl, rfl⟩
     go_wp2_with fail
     refine (hV _).mono ?_
     rintro e w1 ⟨rfl, rfl⟩
     go_wp2_with fail
     go_roundw
     case rel => exact ⟨k + 1, by omega, by go_num, on2 hbel hbx, HG⟩
     case measure => simp [intOf]; omega)
  ·
   have HF : Hid (checkBr L = 0) := checkBr_ok (by omega) (fun j hj => hall.out j (by omega))
   clear hall
   go_wp2_with fail
   go_ret
   exact ⟨reti HF.out.symm, hbel⟩
end Go.Proofs.YtfbnnfpnjjjfcaaGreat.Tn

namespace Go.Proofs.YtfbnnfpnjjjfcaaGreat
set_option maxHeartbeats 16000000
set_option maxRecDepth 100000
open Tryz Go.RowKit
set_option linter.unusedSimpArgs false
theorem rAmount_calls (n : Int) (w : World) : Calls prog 62 #[.int .i64 n] w fun e w' => e = .returned (.bool (amountB n)) ∧ w' = w := by
 by_cases h1 : 0 ≤ n
 ·
  have HF : Hid (amountB n = decide (n ≤ 1125899906842624)) := by simp [Hid, amountB, h1]
  go_enter func62, ntmps62
  go_wp2_with fail
  go_ret
  exact ⟨retb HF.out.symm, rfl⟩
 ·
  have HF : Hid (amountB n = false) := by simp [Hid, amountB, h1]
  have h2 : decide (0 ≤ n) = false := by simp [h1]
  go_enter func62, ntmps62
  go_wp2_with fail
  go_ret
  exact ⟨retb HF.out.symm, rfl⟩
theorem rWithin_calls (n lo hi : Int) (w : World) : Calls prog 54 #[.int .i64 n, .int .i64 lo, .int .i64 hi] w fun e w' => e = .returned (.bool (withinB n lo hi)) ∧ w' = w := by
 by_cases h1 : lo ≤ n
 ·
  have HF : Hid (withinB n lo hi = decide (n ≤ hi)) := by simp [Hid, withinB, h1]
  go_enter func54, ntmps54
  go_wp2_with fail
  go_ret
  exact ⟨retb HF.out.symm, rfl⟩
 ·
  have HF : Hid (withinB n lo hi = false) := by simp [Hid, withinB, h1]
  have h2 : decide (lo ≤ n) = false := by simp [h1]
  go_enter func54, ntmps54
  go_wp2_with fail
  go_ret
  exact ⟨retb HF.out.symm, rfl⟩
theorem rReqs_calls (a : Option Addr) (n cap : Nat) (A : Where) (R : List Ask) (w : World) (h : Hid (SlAt RReq 3 48 A w a n cap R)) : Calls prog 56 #[.slice a n cap] w fun e w' => e = .returned (.bool (reqsB R)) ∧ Below w.heap.size w w' := by
 have hn := h.out.1
 subst hn
 have hC := rCheckReqs_calls a cap R w (asks_of h.out)
 have HF : Hid (reqsB R = (checkR R == 0)) := rfl
 generalize checkR R = c at hC HF
 go_enter func56, ntmps56
 go_wp2_with fail
 refine hC.mono ?_
 rintro e w1 ⟨rfl, hb⟩
 go_wp2_with fail
 go_ret
 exact ⟨retb HF.out.symm, hb⟩
theorem rSome_calls (s : ByteArray) (hz : s.size ≤ 140737488355328) (w : World) : Calls prog 60 #[.string s] w fun e w' => e = .returned (.bool (nameNone s)) ∧ w' = w := by
 have hW := rWord_calls s hz
 clear hz
 cases hs : sNil s
 ·
  have HF : Hid (nameNone s = wordB s) := by simp [Hid, nameNone, hs]
  unfold sNil at hs
  generalize wordB s = b at hW HF
  go_enter func60, ntmps60
  go_wp2_with fail
  refine (hW _).mono ?_
  rintro e w' ⟨rfl, rfl⟩
  go_wp2_with fail
  go_ret
  exact ⟨retb HF.out.symm, rfl⟩
 ·
  have HF : Hid (nameNone s = true) := by simp [Hid, nameNone, hs]
  unfold sNil at hs
  clear hW
  go_enter func60, ntmps60
  go_wp2_with fail
  go_ret
  exact ⟨retb HF.out.symm, rfl⟩
theorem all_to {α : Type} [Inhabited α] (p : α → Bool) {L : List α} (h : ∀ j, j < L.length → p (L.getD j default) = true) : L.all p = true := by
 rw [List.all_eq_true]
 intro x hx
 obtain ⟨i, hi, rfl⟩ := List.mem_iff_getElem.1 hx
 have := h i hi
 rwa [getE _ _ hi] at this
theorem all_bad {α : Type} [Inhabited α] (p : α → Bool) {L : List α} {k : Nat} (hk : k < L.length) (h : p (L.getD k default) = false) : L.all p = false := by
 rw [getE _ _ hk] at h
 rw [Bool.eq_false_iff]
 intro hall
 rw [List.all_eq_true] at hall
 rw [hall _ (List.getElem_mem hk)] at h
 cases h
theorem go_on {P : Nat → Prop} {k : Nat} (h : ∀ j, j < k → P j) (hk : P k) : ∀ j, j < k + 1 → P j := fun j hj => by
 rcases Nat.lt_succ_iff_lt_or_eq.1 hj with h' | rfl
 ·
  exact h j h'
 ·
  exact hk
theorem rRes_calls (r : ResD) (w : World) : Calls prog 58 #[.agg #[.int .i64 r.1, .int .i64 r.2.1, .int .i64 r.2.2]] w fun e w' => e = .returned (.bool (resB r)) ∧ Below w.heap.size w w' := by
 have HH0 : Hid (Held w [(w.heap.size, [.int .i64 r.1, .int .i64 r.2.1, .int .i64 r.2.2])] [] (w.alloc (.cells #[.int .i64 r.1, .int .i64 r.2.1, .int .i64 r.2.2] 24))) := ((Held.start w).push rfl [.int .i64 r.1, .int .i64 r.2.1, .int .i64 r.2.2] 24)
 obtain ⟨b0, e0⟩ : ∃ b : Bool, amountB r.1 = b := ⟨_, rfl⟩
 obtain ⟨b1, e1⟩ : ∃ b : Bool, amountB r.2.1 = b := ⟨_, rfl⟩
 obtain ⟨b2, e2⟩ : ∃ b : Bool, amountB r.2.2 = b := ⟨_, rfl⟩
 have HF : Hid (resB r = (b0 && b1 && b2)) := by rw [Hid, ← e0, ← e1, ← e2]; rfl
 have HC0 : Hid (∀ u, Below w.heap.size w u → Calls prog 62 #[.int .i64 r.1] u fun e w' => e = .returned (.bool b0) ∧ Below u.heap.size u w') := fun u hu => by rw [← e0]; exact calls_same (rAmount_calls r.1 _)
 clear e0
 have HC1 : Hid (∀ u, Below w.heap.size w u → Calls prog 62 #[.int .i64 r.2.1] u fun e w' => e = .returned (.bool b1) ∧ Below u.heap.size u w') := fun u hu => by rw [← e1]; exact calls_same (rAmount_calls r.2.1 _)
 clear e1
 have HC2 : Hid (∀ u, Below w.heap.size w u → Calls prog 62 #[.int .i64 r.2.2] u fun e w' => e = .returned (.bool b2) ∧ Below u.heap.size u w') := fun u hu => by rw [← e2]; exact calls_same (rAmount_calls r.2.2 _)
 clear e2
 go_enter func58, ntmps58
 go_wp2_with fail
 refine (HC0.out _ HH0.out.below).mono ?_
 rintro e u1 ⟨rfl, hb1⟩
 have HH1 : Hid (Held w [(w.heap.size, [.int .i64 r.1, .int .i64 r.2.1, .int .i64 r.2.2])] [] u1) := HH0.out.on hb1
 clear hb1 HH0 HC0
 cases b0
 ·
  clear HC1 HC2
  go_wp2_with fail
  go_ret
  exact ⟨retb (by rw [HF.out] <;> simp), HH1.out.below⟩
 have k0_1 := HH1.out.cell 0 (b := w.heap.size) rfl 1 rfl
 have kl0 := HH1.out.lt 0 rfl
 go_wp2_with fail
 clear k0_1 kl0
 refine (HC1.out _ HH1.out.below).mono ?_
 rintro e u2 ⟨rfl, hb2⟩
 have HH2 : Hid (Held w [(w.heap.size, [.int .i64 r.1, .int .i64 r.2.1, .int .i64 r.2.2])] [] u2) := HH1.out.on hb2
 clear hb2 HH1 HC1
 cases b1
 ·
  clear HC2
  go_wp2_with fail
  go_ret
  exact ⟨retb (by rw [HF.out] <;> simp), HH2.out.below⟩
 have k1_2 := HH2.out.cell 0 (b := w.heap.size) rfl 2 rfl
 have kl1 := HH2.out.lt 0 rfl
 go_wp2_with fail
 clear k1_2 kl1
 refine (HC2.out _ HH2.out.below).mono ?_
 rintro e u3 ⟨rfl, hb3⟩
 have HH3 : Hid (Held w [(w.heap.size, [.int .i64 r.1, .int .i64 r.2.1, .int .i64 r.2.2])] [] u3) := HH2.out.on hb3
 clear hb3 HH2 HC2
 cases b2
 ·
  skip
  go_wp2_with fail
  go_ret
  exact ⟨retb (by rw [HF.out] <;> simp), HH3.out.below⟩
 go_wp2_with fail
 go_ret
 exact ⟨retb (by rw [HF.out] <;> simp), HH3.out.below⟩
end Go.Proofs.YtfbnnfpnjjjfcaaGreat

