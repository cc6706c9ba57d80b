/- The law's log of kinds. Condition: the slice lies as is said of it, and its changes are within what a list may hold. -/
import Derived.Test.YtnlmipgmakmbiaaWBase
import Derived.Test.YtnlmipgmakmbiaaWAm
namespace Go.Proofs.Ytnlmipgmakmbiaa
open Go.RowKit
set_option linter.unusedSimpArgs false
set_option maxRecDepth 100000

theorem src_box13 {α : Type} [Inhabited α] {R : Rep α} {k : Nat} (hR : Firm R k) {A : Where} {u : World} {B : Nat} {cs : List Value} {x : α} (hb : BoxL u B cs) (hr : R A u cs x) : Src R k A u (some ⟨B, 0, none⟩) 1 [x] := by
  refine ⟨rfl, .inr ⟨⟨B, 0, none⟩, cs, rfl, ⟨by rw [hR.len hr]; simp, fun i hi => ?_⟩, fun j y hj => ?_, hR.one hr⟩⟩
  · obtain rfl : i = 0 := by simpa using hi
    exact ⟨cs, hr, fun j _ => by rw [Nat.zero_mul, Nat.zero_add]⟩
  · have := (hb.2 j y hj).1
    by_cases h0 : j = 0
    · subst h0; simpa [Addr.add] using this
    · simpa [Addr.add, h0] using this
theorem wpl_at13 {P : Program} {ops : Array Oper} {Q : Exit → Act → World → Prop} {rest : List Oper} {a : Act} {u W : World} (h : W = u) (k : wpList P ops Q rest a W) : wpList P ops Q rest a u := h ▸ k
theorem take_at13 {α : Type} [Inhabited α] {L : List α} {k : Nat} (h : k < L.length) : L.take k ++ [L.getD k default] = L.take (k + 1) := by
  rw [List.take_succ_eq_append_getElem h, List.getD_eq_getElem?_getD, List.getElem?_eq_getElem h]; rfl
/-- Kinds as the law reads them. -/
abbrev kndP (n : Int) : Int := 1 + (amongP n 6 : Int)
theorem knd_in (n : Int) : 1 ≤ kndP n ∧ kndP n ≤ 6 := by have := among_lt n (m := 6) (by decide); unfold kndP; omega
/-- What logged hands back. -/
def LgOut (w : World) (L : List Ch) (e : Ending) (u : World) : Prop := ∃ v, e = .returned v ∧ Row RCh 42 (fun _ => False) w u 76 v L
set_option maxHeartbeats 8000000 in
theorem logged_calls (a : Option Addr) (n cap : Nat) (A : Where) (L : List Int) (w : World) (hL : Hid (SlAt RInt 1 8 A w a n cap L)) (hb : n * 640 ≤ 140737488351232) : Calls Try.prog 11 #[.slice a n cap] w (LgOut w (logP (L.map kndP) 0)) := by
  have hlen := hL.out.len (by decide)
  have hn : Hid (L.length = n) := hL.out.1
  have HR0 : Hid (Row RCh 42 (fun _ => False) w (w.alloc (.cells #[] 76)) 76 (.slice (some ⟨w.heap.size, 0, none⟩) 0 0) (logP ((L.take 0).map kndP) 0)) := Row.start _ w w _ (Below.refl _ _)
  go_enter Try.func11, Try.ntmps11
  go_wp2_with fail
  go_loopw [3, 4] (fun s i wr => ∃ k : Nat, k ≤ n ∧ i = .int .i64 k ∧ Hid (Row RCh 42 (fun _ => False) w wr 76 s (logP ((L.take k).map kndP) 0))) (fun _ i _ => n - (intOf i).toNat)
  case atStart => exact ⟨0, Nat.zero_le _, rfl, HR0⟩
  case round =>
    obtain ⟨k, hk, rfl, hrow⟩ := hrel
    by_cases hlt : k < n
    · have hltz : (k : Int) < (n : Int) := by omega
      have hkl : Hid (k < L.length) := by rw [Hid, hn.out]; exact hlt
      have hbw : Below w.heap.size w wr := hrow.out.below
      obtain ⟨B, off, rfl, hB, _, cs, hr, hv⟩ := (hL.out.on RInt.firm hbw).get hlt
      obtain rfl : cs = [.int .i64 (L.getD k default)] := hr
      have hd := hv 0 _ rfl
      rw [Nat.mul_one, Nat.add_zero] at hd
      have HT : Hid (logP ((L.take (k + 1)).map kndP) 0 = logP ((L.take k).map kndP) 0 ++ [((k : Int) + 1, kndP (L.getD k default))]) := by
        rw [Hid, ← take_at13 hkl.out, List.map_append, List.map_cons, List.map_nil, log_snoc, List.length_map, List.length_take, Nat.min_eq_left (Nat.le_of_lt hkl.out)]
        rw [Int.zero_add]
      generalize L.getD k default = x at hd HT
      have HC := Among_is x 6 (by decide) (by decide) wr
      have hkn := among_lt x (m := 6) (by decide)
      have HLb : Hid (((logP ((L.take k).map kndP) 0).length + [((k : Int) + 1, kndP x)].length) * 640 ≤ 140737488355328) := by
        rw [Hid, log_len, List.length_map, List.length_take, List.length_singleton, hn.out, Nat.min_eq_left (by omega)]
        omega
      go_wp2_with fail
      --M1
      refine HC.mono ?_
      rintro e w2 ⟨rfl, rfl⟩
      clear HC
      obtain ⟨W3, hW3⟩ : ∃ W, W = w2.alloc (.cells #[.int .i64 ((k : Int) + 1), .int .i64 1, .int .i64 (1 + (amongP x 6 : Int)), .string ⟨#[]⟩, .int .i64 0, .slice none 0 0, .int .i64 0, .int .i64 0, .int .i64 0, .slice none 0 0, .slice none 0 0, .slice none 0 0, .slice none 0 0, .slice none 0 0, .slice none 0 0, .slice none 0 0, .slice none 0 0, .string ⟨#[]⟩, .string ⟨#[]⟩, .string ⟨#[]⟩, .slice none 0 0, .slice none 0 0, .bool false, .int .i64 0, .int .i64 0, .int .i64 0, .int .i64 0, .int .i64 0, .string ⟨#[]⟩, .int .i64 0, .string ⟨#[]⟩, .slice none 0 0, .string ⟨#[]⟩, .string ⟨#[]⟩, .int .i64 0, .string ⟨#[]⟩, .string ⟨#[]⟩, .string ⟨#[]⟩, .bool false, .string ⟨#[]⟩, .slice none 0 0, .int .i64 0] 76) := ⟨_, rfl⟩
      have B3 : Below w2.heap.size w2 W3 := by rw [hW3]; exact (Below.refl _ _).alloc (Nat.le_refl _) _
      have q3 : BoxL W3 w2.heap.size (chC ((k : Int) + 1) (1 + (amongP x 6 : Int))) := by rw [hW3]; exact BoxL.new w2 76 _
      have HR3 : Hid (Row RCh 42 (fun _ => False) w W3 76 u3 (logP ((L.take k).map kndP) 0)) := hrow.out.on RCh.firm B3
      have HSr : Hid (Src RCh 42 (fun b => (fun _ => False) b ∧ u3.ownBlock ≠ some b) W3 (some ⟨w2.heap.size, 0, none⟩) 1 [((k : Int) + 1, kndP x)]) := src_box13 RCh.firm q3 rfl
      have HW3 : Hid (W3 = w2.alloc (.cells #[.int .i64 ((k : Int) + 1), .int .i64 1, .int .i64 (1 + (amongP x 6 : Int)), .string ⟨#[]⟩, .int .i64 0, .slice none 0 0, .int .i64 0, .int .i64 0, .int .i64 0, .slice none 0 0, .slice none 0 0, .slice none 0 0, .slice none 0 0, .slice none 0 0, .slice none 0 0, .slice none 0 0, .slice none 0 0, .string ⟨#[]⟩, .string ⟨#[]⟩, .string ⟨#[]⟩, .slice none 0 0, .slice none 0 0, .bool false, .int .i64 0, .int .i64 0, .int .i64 0, .int .i64 0, .int .i64 0, .string ⟨#[]⟩, .int .i64 0, .string ⟨#[]⟩, .slice none 0 0, .string ⟨#[]⟩, .string ⟨#[]⟩, .int .i64 0, .string ⟨#[]⟩, .string ⟨#[]⟩, .string ⟨#[]⟩, .bool false, .string ⟨#[]⟩, .slice none 0 0, .int .i64 0] 76)) := hW3
      clear hW3 B3 q3 hrow hv hB hd
      go_wp2_with (at_builtin; refine wpl_at13 HW3.out ?_; go_must (refine row_appendP RCh.firm (A := fun _ => False) (w0 := w) rfl _ _ 28 76 rfl _ 640 infoCh Try.underlying28 rfl (by decide) (by decide) u3 _ rfl HR3.out (some ⟨_, 0, none⟩) 1 1 [((k : Int) + 1, kndP x)] rfl HSr.out HLb.out ?_); intro v4 w4 hrow4 hg4 hw4)
      rw [← HT.out] at hrow4
      go_roundw
      case rel => exact ⟨k + 1, by omega, by go_num, hrow4⟩
      case measure => simp [intOf]; omega
    · have hk' : L.take k = L := List.take_of_length_le (by rw [hn.out]; omega)
      rw [hk'] at hrow
      have hltz : ¬ ((k : Int) < (n : Int)) := by omega
      go_wp2_with fail
      go_ret
      exact ⟨_, rfl, hrow.out⟩
end Go.Proofs.Ytnlmipgmakmbiaa
