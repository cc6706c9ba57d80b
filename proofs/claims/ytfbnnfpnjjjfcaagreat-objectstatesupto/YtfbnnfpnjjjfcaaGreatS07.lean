/- base.Texts, Ints, Labels give slices of their own that hold the same, and its like. No condition beyond what each says. -/
import Derived.Test.YtfbnnfpnjjjfcaaGreatS06
namespace Go.Proofs.YtfbnnfpnjjjfcaaGreat
set_option maxHeartbeats 16000000
set_option maxRecDepth 100000
open Tryz Go.RowKit
set_option linter.unusedSimpArgs false
def Flat {α : Type} (R : Rep α) : Prop := ∀ (A A' : Where) (w w' : World) (cs : List Value) (x : α), R A w cs x → R A' w' cs x
theorem RStr.flat : Flat RStr := fun _ _ _ _ _ _ h => h
theorem RInt.flat : Flat RInt := fun _ _ _ _ _ _ h => h
theorem RBool.flat : Flat RBool := fun _ _ _ _ _ _ h => h
theorem Flat.pair {α β : Type} {R : Rep α} {S : Rep β} (hR : Flat R) (hS : Flat S) : Flat (RPair R S) := by
 rintro A A' w w' cs x ⟨c, d, e, h1, h2⟩
 exact ⟨c, d, e, hR _ _ _ _ _ _ h1, hS _ _ _ _ _ _ h2⟩
theorem Chunks.flat {α : Type} [Inhabited α] {R : Rep α} {k : Nat} (hF : Flat R) {A A' : Where} {u u' : World} {xs : List Value} {L : List α} (h : Chunks R k A u xs L) : Chunks R k A' u' xs L :=
 ⟨h.1, fun i hi => by obtain ⟨cs, h1, h2⟩ := h.2 i hi; exact ⟨cs, hF _ _ _ _ _ _ h1, h2⟩⟩
theorem RLabel.flat : Flat RLabel := Flat.pair RStr.flat RStr.flat
theorem RRes.flat : Flat RRes := Flat.pair RInt.flat (Flat.pair RInt.flat RInt.flat)
theorem RTaint.flat : Flat RTaint := Flat.pair RStr.flat (Flat.pair RStr.flat RInt.flat)
theorem RBear.flat : Flat RBear := Flat.pair RStr.flat (Flat.pair RStr.flat (Flat.pair RBool.flat RInt.flat))
theorem RClaim.flat : Flat RClaim := Flat.pair RStr.flat (Flat.pair RInt.flat (Flat.pair RStr.flat RStr.flat))
theorem RClass.flat : Flat RClass := Flat.pair RStr.flat RBool.flat
theorem sl_none {α : Type} [Inhabited α] {R : Rep α} {k bytes : Nat} {A : Where} {w : World} {n cap : Nat} {L : List α} (h : SlAt R k bytes A w none n cap L) : n = 0 ∧ cap = 0 ∧ L = [] := by
 have h0 : cap = 0 := h.2.2.1 rfl
 have h1 := h.2.1
 exact ⟨by omega, h0, List.length_eq_zero_iff.1 (by rw [h.1]; omega)⟩
theorem SlAt.len {α : Type} [Inhabited α] {R : Rep α} {k bytes : Nat} {A : Where} {w : World} {a : Option Addr} {n cap : Nat} {L : List α} (h : SlAt R k bytes A w a n cap L) (hb : 1 ≤ bytes) : n ≤ 140737488351232 := by
 have := h.2.2.2.1
 have h2 : n * 1 ≤ n * bytes := Nat.mul_le_mul_left _ hb
 omega
theorem infostr : (prog.info? 9).map (fun i => (i.zero, i.size, i.bytes)) = some (some (.string ⟨#[]⟩), 1, 16) := by kernel_rfl
theorem infoint : (prog.info? 3).map (fun i => (i.zero, i.size, i.bytes)) = some (some (.int .i64 0), 1, 8) := by kernel_rfl
theorem infoLabel : (prog.info? 173).map (fun i => (i.zero, i.size, i.bytes)) = some (some (.agg #[.string ⟨#[]⟩, .string ⟨#[]⟩]), 2, 32) := by kernel_rfl
theorem Texts_copy (a : Option Addr) (n cap : Nat) (A : Where) (L : List (ByteArray)) (w : World) (hL : Hid (SlAt RStr 1 16 A w a n cap L)) : Calls prog 53 #[.slice a n cap] w fun e w' => ∃ a' cap', e = .returned (.slice a' n cap') ∧ SlAt RStr 1 16 (Fresh w) w' a' n cap' L ∧ Below w.heap.size w w' := by
 have hb0 : Below w.heap.size w (w.alloc (.cells #[] 9)) := by go_grown
 match a with
 | none =>
  obtain ⟨rfl, rfl, rfl⟩ := sl_none hL.out
  go_enter func53, ntmps53
  go_wp2_with fail
  go_ret
  exact ⟨_, _, rfl, SlAt.nil _ _ _ _ (fun h => by cases h), hb0⟩
 | some ad =>
  obtain ⟨xs, hc, hcell, hone⟩ := (hL.out.on RStr.firm hb0).chunks RStr.firm
  have hn := hL.out.1
  have hbb := hL.out.2.2.2.1
  subst hn
  have HR : Hid (Row RStr 1 (Fresh w) w (w.alloc (.cells #[] 9)) 9 (.slice (some ⟨w.heap.size, 0, none⟩) 0 0) []) := Row.start _ w w _ (Below.refl _ _)
  have HC : Hid (Chunks RStr 1 (fun b => Fresh w b ∧ Value.ownBlock (.slice (some ⟨w.heap.size, 0, none⟩) 0 0) ≠ some b) (w.alloc (.cells #[] 9)) xs L) := hc.flat RStr.flat
  have HX : Hid (∀ j y, xs[j]? = some y → (w.alloc (.cells #[] 9)).cell? (ad.add j) = some y) := hcell
  have HO : Hid (∀ y ∈ xs, y.oneCell' = true) := hone
  clear hc hcell hone hL
  go_enter func53, ntmps53
  go_wp2_with (at_builtin; go_must (refine row_append RStr.firm (A := Fresh w) (w0 := w) rfl _ _ 31 9 rfl _ 16 infostr underlying31 rfl (by decide) (by decide) _ [] rfl HR.out ad L.length cap xs L rfl rfl HC.out HX.out HO.out (by simp; omega) ?_); intro v1 w1 hrow1 hg1)
  go_ret
  obtain ⟨a', cap', rfl, h2⟩ := hrow1.slF (bytes := 16) RStr.firm (by simpa using hbb)
  simp only [List.nil_append] at h2 ⊢
  exact ⟨a', cap', rfl, h2, hrow1.below⟩
theorem Ints_copy (a : Option Addr) (n cap : Nat) (A : Where) (L : List (Int)) (w : World) (hL : Hid (SlAt RInt 1 8 A w a n cap L)) : Calls prog 51 #[.slice a n cap] w fun e w' => ∃ a' cap', e = .returned (.slice a' n cap') ∧ SlAt RInt 1 8 (Fresh w) w' a' n cap' L ∧ Below w.heap.size w w' := by
 have hb0 : Below w.heap.size w (w.alloc (.cells #[] 3)) := by go_grown
 match a with
 | none =>
  obtain ⟨rfl, rfl, rfl⟩ := sl_none hL.out
  go_enter func51, ntmps51
  go_wp2_with fail
  go_ret
  exact ⟨_, _, rfl, SlAt.nil _ _ _ _ (fun h => by cases h), hb0⟩
 | some ad =>
  obtain ⟨xs, hc, hcell, hone⟩ := (hL.out.on RInt.firm hb0).chunks RInt.firm
  have hn := hL.out.1
  have hbb := hL.out.2.2.2.1
  subst hn
  have HR : Hid (Row RInt 1 (Fresh w) w (w.alloc (.cells #[] 3)) 3 (.slice (some ⟨w.heap.size, 0, none⟩) 0 0) []) := Row.start _ w w _ (Below.refl _ _)
  have HC : Hid (Chunks RInt 1 (fun b => Fresh w b ∧ Value.ownBlock (.slice (some ⟨w.heap.size, 0, none⟩) 0 0) ≠ some b) (w.alloc (.cells #[] 3)) xs L) := hc.flat RInt.flat
  have HX : Hid (∀ j y, xs[j]? = some y → (w.alloc (.cells #[] 3)).cell? (ad.add j) = some y) := hcell
  have HO : Hid (∀ y ∈ xs, y.oneCell' = true) := hone
  clear hc hcell hone hL
  go_enter func51, ntmps51
  go_wp2_with (at_builtin; go_must (refine row_append RInt.firm (A := Fresh w) (w0 := w) rfl _ _ 28 3 rfl _ 8 infoint underlying28 rfl (by decide) (by decide) _ [] rfl HR.out ad L.length cap xs L rfl rfl HC.out HX.out HO.out (by simp; omega) ?_); intro v1 w1 hrow1 hg1)
  go_ret
  obtain ⟨a', cap', rfl, h2⟩ := hrow1.slF (bytes := 8) RInt.firm (by simpa using hbb)
  simp only [List.nil_append] at h2 ⊢
  exact ⟨a', cap', rfl, h2, hrow1.below⟩
theorem Labels_copy (a : Option Addr) (n cap : Nat) (A : Where) (L : List (Lab)) (w : World) (hL : Hid (SlAt RLabel 2 32 A w a n cap L)) : Calls prog 49 #[.slice a n cap] w fun e w' => ∃ a' cap', e = .returned (.slice a' n cap') ∧ SlAt RLabel 2 32 (Fresh w) w' a' n cap' L ∧ Below w.heap.size w w' := by
 have hb0 : Below w.heap.size w (w.alloc (.cells #[] 173)) := by go_grown
 match a with
 | none =>
  obtain ⟨rfl, rfl, rfl⟩ := sl_none hL.out
  go_enter func49, ntmps49
  go_wp2_with fail
  go_ret
  exact ⟨_, _, rfl, SlAt.nil _ _ _ _ (fun h => by cases h), hb0⟩
 | some ad =>
  obtain ⟨xs, hc, hcell, hone⟩ := (hL.out.on RLabel.firm hb0).chunks RLabel.firm
  have hn := hL.out.1
  have hbb := hL.out.2.2.2.1
  subst hn
  have HR : Hid (Row RLabel 2 (Fresh w) w (w.alloc (.cells #[] 173)) 173 (.slice (some ⟨w.heap.size, 0, none⟩) 0 0) []) := Row.start _ w w _ (Below.refl _ _)
  have HC : Hid (Chunks RLabel 2 (fun b => Fresh w b ∧ Value.ownBlock (.slice (some ⟨w.heap.size, 0, none⟩) 0 0) ≠ some b) (w.alloc (.cells #[] 173)) xs L) := hc.flat RLabel.flat
  have HX : Hid (∀ j y, xs[j]? = some y → (w.alloc (.cells #[] 173)).cell? (ad.add j) = some y) := hcell
  have HO : Hid (∀ y ∈ xs, y.oneCell' = true) := hone
  clear hc hcell hone hL
  go_enter func49, ntmps49
  go_wp2_with (at_builtin; go_must (refine row_append RLabel.firm (A := Fresh w) (w0 := w) rfl _ _ 22 173 rfl _ 32 infoLabel underlying22 rfl (by decide) (by decide) _ [] rfl HR.out ad L.length cap xs L rfl rfl HC.out HX.out HO.out (by simp; omega) ?_); intro v1 w1 hrow1 hg1)
  go_ret
  obtain ⟨a', cap', rfl, h2⟩ := hrow1.slF (bytes := 32) RLabel.firm (by simpa using hbb)
  simp only [List.nil_append] at h2 ⊢
  exact ⟨a', cap', rfl, h2, hrow1.below⟩
end Go.Proofs.YtfbnnfpnjjjfcaaGreat

namespace Go.Proofs.YtfbnnfpnjjjfcaaGreat
set_option maxHeartbeats 16000000
set_option maxRecDepth 100000
open Tryz Go.RowKit
theorem row_of_sl {α : Type} [Inhabited α] {R : Rep α} {enc : α → List Value} {k bytes : Nat} {ok : α → Prop} (hR : ∀ {A w cs x}, R A w cs x → cs = enc x ∧ ok x) (hb : 1 ≤ bytes) {A : Where} {w : World} {a : Option Addr} {n cap : Nat} {L : List α} (h : SlAt R k bytes A w a n cap L) : RowAt enc k ok w a L := by
 have hl := h.len hb
 obtain ⟨hn, h2, h3, h4, h5⟩ := h
 have each : ∀ i, i < n → ok (L.getD i default) := fun i hi => by
  obtain ⟨B, off, _, _, _, hc⟩ := h5 (by omega)
  obtain ⟨cs, hr, _⟩ := hc i hi
  exact (hR hr).2
 refine ⟨by omega, fun x hx => ?_, fun hne => ?_⟩
 ·
  obtain ⟨i, hi, rfl⟩ := List.mem_iff_getElem.1 hx
  have := each i (by omega)
  rwa [getE _ _ hi] at this
 ·
  have hpos : 0 < n := by
   rcases Nat.eq_zero_or_pos n with h0 | h0
   ·
    exact absurd (List.length_eq_zero_iff.1 (by omega)) hne
   ·
    exact h0
  obtain ⟨B, off, e, hB, _, hc⟩ := h5 hpos
  refine ⟨B, off, e, hB, fun i hi j v hj => ?_⟩
  obtain ⟨cs, hr, hv⟩ := hc i (by omega)
  rw [← (hR hr).1] at hj
  exact hv j v hj
theorem tnts_of {A : Where} {w : World} {a : Option Addr} {n cap : Nat} {L : List Tnt} (h : SlAt RTaint 3 40 A w a n cap L) : TntsAt w a L :=
 row_of_sl (fun hr => by obtain ⟨rfl, h1, h2⟩ := RTaint.out hr; exact ⟨rfl, h1, h2⟩) (by decide) h
theorem bears_of {A : Where} {w : World} {a : Option Addr} {n cap : Nat} {L : List Bear} (h : SlAt RBear 4 48 A w a n cap L) : BearsAt w a L :=
 row_of_sl (fun hr => by obtain ⟨rfl, h1, h2⟩ := RBear.out hr; exact ⟨rfl, h1, h2⟩) (by decide) h
end Go.Proofs.YtfbnnfpnjjjfcaaGreat

namespace Go.Proofs.YtfbnnfpnjjjfcaaGreat
set_option maxHeartbeats 16000000
set_option maxRecDepth 100000
open Tryz Go.RowKit
set_option linter.unusedSimpArgs false
theorem calls_same {f : Nat} {args : Array Value} {w : World} {x : Ending} (h : Calls prog f args w fun e w' => e = x ∧ w' = w) : Calls prog f args w fun e w' => e = x ∧ Below w.heap.size w w' := h.mono fun _ _ ⟨h1, h2⟩ => ⟨h1, by subst h2; exact Below.refl _ _⟩
theorem within_calls (n lo hi : Int) (w : World) : Calls prog 98 #[.int .i64 n, .int .i64 lo, .int .i64 hi] w fun e w' => e = .returned (.bool (withinB n lo hi)) ∧ w' = w := by
 by_cases h1 : lo ≤ n
 ·
  have HF : Hid (withinB n lo hi = decide (n ≤ hi)) := by simp [Hid, withinB, h1]
  go_enter func98, ntmps98
  go_wp2_with fail
  go_ret
  exact ⟨retb HF.out.symm, rfl⟩
 ·
  have HF : Hid (withinB n lo hi = false) := by simp [Hid, withinB, h1]
  have h2 : decide (lo ≤ n) = false := by simp [h1]
  go_enter func98, ntmps98
  go_wp2_with fail
  go_ret
  exact ⟨retb HF.out.symm, rfl⟩
theorem clamp_calls (a : Int) (w : World) : Calls prog 133 #[.int .i64 a] w fun e w' => e = .returned (.int .i64 (min (max a 0) 1125899906842624)) ∧ w' = w := by
 go_enter func133, ntmps133
 go_wp2
 all_goals (go_ret; exact ⟨reti (by omega), rfl⟩)
theorem isAmount_calls (n : Int) (w : World) : Calls prog 119 #[.int .i64 n] w fun e w' => e = .returned (.bool (amountB n)) ∧ w' = w := by
 have hC := clamp_calls n
 have HF : Hid (amountB n = (min (max n 0) 1125899906842624 == n)) := by
  rw [Hid, amountB, Bool.eq_iff_iff]
  simp only [Bool.and_eq_true, decide_eq_true_eq, beq_iff_eq]
  omega
 generalize min (max n 0) 1125899906842624 = c at hC HF
 go_enter func119, ntmps119
 go_wp2_with fail
 refine (hC _).mono ?_
 rintro e w' ⟨rfl, rfl⟩
 go_wp2_with fail
 go_ret
 exact ⟨retb HF.out.symm, rfl⟩
theorem strs_of {A : Where} {w : World} {a : Option Addr} {n cap : Nat} {L : List ByteArray} (h : SlAt RStr 1 16 A w a n cap L) : StrsAt w a L := by
 have hl := h.len (by decide)
 obtain ⟨hn, h2, h3, h4, h5⟩ := h
 refine ⟨by omega, fun x hx => ?_, fun hne => ?_⟩
 ·
  obtain ⟨i, hi, rfl⟩ := List.mem_iff_getElem.1 hx
  obtain ⟨B, off, _, _, _, hc⟩ := h5 (by omega)
  obtain ⟨cs, hr, _⟩ := hc i (by omega)
  have := hr.2
  rwa [getE _ _ hi] at this
 ·
  have hpos : 0 < n := by
   rcases Nat.eq_zero_or_pos n with h0 | h0
   ·
    exact absurd (List.length_eq_zero_iff.1 (by omega)) hne
   ·
    exact h0
  obtain ⟨B, off, e, hB, _, hc⟩ := h5 hpos
  refine ⟨B, off, e, hB, fun i hi => ?_⟩
  obtain ⟨cs, hr, hv⟩ := hc i (by omega)
  obtain ⟨rfl, _⟩ := hr
  have := hv 0 _ rfl
  simpa using this
theorem labs_of {A : Where} {w : World} {a : Option Addr} {n cap : Nat} {L : List Lab} (h : SlAt RLabel 2 32 A w a n cap L) : LabsAt w a L := by
 have hl := h.len (by decide)
 obtain ⟨hn, h2, h3, h4, h5⟩ := h
 refine ⟨by omega, fun x hx => ?_, fun hne => ?_⟩
 ·
  obtain ⟨i, hi, rfl⟩ := List.mem_iff_getElem.1 hx
  obtain ⟨B, off, _, _, _, hc⟩ := h5 (by omega)
  obtain ⟨cs, hr, _⟩ := hc i (by omega)
  have := hr.out.2
  rwa [getE _ _ hi] at this
 ·
  have hpos : 0 < n := by
   rcases Nat.eq_zero_or_pos n with h0 | h0
   ·
    exact absurd (List.length_eq_zero_iff.1 (by omega)) hne
   ·
    exact h0
  obtain ⟨B, off, e, hB, _, hc⟩ := h5 hpos
  refine ⟨B, off, e, hB, fun i hi => ?_⟩
  obtain ⟨cs, hr, hv⟩ := hc i (by omega)
  obtain ⟨rfl, _⟩ := hr.out
  exact ⟨by simpa using hv 0 _ rfl, by simpa using hv 1 _ rfl⟩
theorem asks_of {A : Where} {w : World} {a : Option Addr} {n cap : Nat} {L : List Ask} (h : SlAt RReq 3 48 A w a n cap L) : AsksAt w a L := by
 have hl := h.len (by decide)
 obtain ⟨hn, h2, h3, h4, h5⟩ := h
 refine ⟨by omega, fun x hx => ?_, fun hne => ?_⟩
 ·
  obtain ⟨i, hi, rfl⟩ := List.mem_iff_getElem.1 hx
  obtain ⟨B, off, _, _, _, hc⟩ := h5 (by omega)
  obtain ⟨cs, hr, _⟩ := hc i (by omega)
  obtain ⟨_, _, hs, _⟩ := hr.out
  rwa [getE _ _ hi] at hs
 ·
  have hpos : 0 < n := by
   rcases Nat.eq_zero_or_pos n with h0 | h0
   ·
    exact absurd (List.length_eq_zero_iff.1 (by omega)) hne
   ·
    exact h0
  obtain ⟨B, off, e, hB, _, hc⟩ := h5 hpos
  refine ⟨B, off, e, hB, fun i hi => ?_⟩
  obtain ⟨cs, hr, hv⟩ := hc i (by omega)
  obtain ⟨h2, rfl, _, hs⟩ := hr.out
  refine ⟨by simpa using hv 0 _ rfl, by simpa using hv 1 _ rfl, h2.1, h2.2.2, ?_, strs_of hs⟩
  have := hv 2 _ rfl
  rw [← hs.1] at this
  simpa using this
theorem areReqs_calls (a : Option Addr) (n cap : Nat) (A : Where) (R : List Ask) (w : World) (h : Hid (SlAt RReq 3 48 A w a n cap R)) : Calls prog 100 #[.slice a n cap] w fun e w' => e = .returned (.bool (reqsB R)) ∧ Below w.heap.size w w' := by
 have hn := h.out.1
 subst hn
 have hC := CheckReqs_calls a cap R w (asks_of h.out)
 have HF : Hid (reqsB R = (checkR R == 0)) := rfl
 generalize checkR R = c at hC HF
 go_enter func100, ntmps100
 go_wp2_with fail
 refine hC.mono ?_
 rintro e w1 ⟨rfl, hb⟩
 go_wp2_with fail
 go_ret
 exact ⟨retb HF.out.symm, hb⟩
theorem isNameOrNone_calls (s : ByteArray) (w : World) : Calls prog 114 #[.string s] w fun e w' => e = .returned (.bool (nameNone s)) ∧ w' = w := by
 have hW := Word_calls s
 cases hs : sNil s
 ·
  have HF : Hid (nameNone s = wordB s) := by simp [Hid, nameNone, hs]
  unfold sNil at hs
  generalize wordB s = b at hW HF
  go_enter func114, ntmps114
  go_wp2_with fail
  refine (hW _).mono ?_
  rintro e w' ⟨rfl, rfl⟩
  go_wp2_with fail
  go_ret
  exact ⟨retb HF.out.symm, rfl⟩
 ·
  have HF : Hid (nameNone s = true) := by simp [Hid, nameNone, hs]
  unfold sNil at hs
  clear hW
  go_enter func114, ntmps114
  go_wp2_with fail
  go_ret
  exact ⟨retb HF.out.symm, rfl⟩
theorem infoReq : (prog.info? 169).map (fun i => (i.zero, i.size, i.bytes)) = some (some (.agg #[.string ⟨#[]⟩, .int .i64 0, Z]), 3, 48) := by kernel_rfl
theorem Row.apart {α : Type} [Inhabited α] {R : Rep α} {k : Nat} {A : Where} {w0 u u' : World} {e : TypeId} {v : Value} {L : List α} (h : Row R k A w0 u e v L) (hs : u.heap.size ≤ u'.heap.size) : ∀ b, Fresh u' b → Fresh w0 b ∧ v.ownBlock ≠ some b := by
 obtain ⟨xs, h1, _⟩ := h
 intro b hb
 have hb' : u'.heap.size ≤ b := hb
 have := h1.1.size
 refine ⟨show w0.heap.size ≤ b by omega, fun e => ?_⟩
 have := (h1.2.lt b e).2
 omega
theorem take_at {α : Type} [Inhabited α] {L : List α} {k : Nat} (hk : k < L.length) : L.take k ++ [L.getD k default] = L.take (k + 1) := (take_succ hk).symm
theorem bytes_le {n k bytes : Nat} (h : n * bytes ≤ 140737488351232) (hk : k < n) : (k + 1) * bytes ≤ 140737488355328 := by
 have : (k + 1) * bytes ≤ n * bytes := Nat.mul_le_mul_right _ hk
 omega
theorem Reqs_copy (a : Option Addr) (n cap : Nat) (A : Where) (L : List Ask) (w : World) (hL : Hid (SlAt RReq 3 48 A w a n cap L)) : Calls prog 50 #[.slice a n cap] w fun e w' => ∃ a' cap', e = .returned (.slice a' n cap') ∧ SlAt RReq 3 48 (Fresh w) w' a' n cap' L ∧ Below w.heap.size w w' := by
 have hlen := hL.out.len (by decide)
 have hn : Hid (L.length = n) := hL.out.1
 have hbb : Hid (n * 48 ≤ 140737488351232) := hL.out.2.2.2.1
 have HR0 : Hid (Row RReq 3 (Fresh w) w (w.alloc (.cells #[] 169)) 169 (.slice (some ⟨w.heap.size, 0, none⟩) 0 0) (L.take 0)) := Row.start _ w w _ (Below.refl _ _)
 go_enter func50, ntmps50
 go_wp2_with fail
 go_loopw [3, 4] (fun s i wr => ∃ k : Nat, k ≤ n ∧ i = .int .i64 k ∧ Hid (Row RReq 3 (Fresh w) w wr 169 s (L.take k))) (fun _ i _ => n - (intOf i).toNat)
 case atStart => exact ⟨0, Nat.zero_le _, rfl, HR0⟩
 case round =>
  obtain ⟨k, hk, rfl, hrow⟩ := hrel
  by_cases hlt : k < n
  ·
   have hltz : (k : Int) < (n : Int) := by omega
   have hkl : Hid (k < L.length) := by rw [Hid, hn.out]; exact hlt
   obtain ⟨B, off, rfl, hB, hAB, cs, hr, hv⟩ := (hL.out.on RReq.firm hrow.out.below).get hlt
   obtain ⟨h2, rfl, hs, hT⟩ := hr.out
   have d0 := hv 0 _ rfl
   have d1 := hv 1 _ rfl
   have d2 := hv 2 _ rfl
   rw [Nat.add_zero] at d0
   have HT : Hid (L.take k ++ [L.getD k default] = L.take (k + 1)) := take_at hkl.out
   have hbw : Below wr.heap.size wr (wr.alloc (.cells #[.string (L.getD k default).1, .int .i64 (L.getD k default).2.1, J h2] 169)) := by go_grown
   have hTx := Texts_copy h2.1 h2.2.1 h2.2.2 A (L.getD k default).2.2 (wr.alloc (.cells #[.string (L.getD k default).1, .int .i64 (L.getD k default).2.1, J h2] 169)) (hT.on RStr.firm hbw)
   clear hr hT hv hAB
   generalize L.getD k default = x at d0 d1 d2 hs HT hbw hTx
   go_wp2_with fail
   refine hTx.mono ?_
   rintro e w2 ⟨a2, c2, rfl, hS2, hb2⟩
   clear hTx
   have hD : wr.heap.size < (wr.alloc (.cells #[.string x.1, .int .i64 x.2.1, J h2] 169)).heap.size := by simp
   have q0 : w2.cell? ⟨wr.heap.size, 0, none⟩ = some (.string x.1) := (hb2.cell hD).trans (by simp [go_sem])
   have q1 : w2.cell? ⟨wr.heap.size, 1, none⟩ = some (.int .i64 x.2.1) := (hb2.cell hD).trans (by simp [go_sem])
   have q2 : w2.cell? ⟨wr.heap.size, 2, none⟩ = some (J h2) := (hb2.cell hD).trans (by simp [go_sem])
   have f2 : w2.frozen? ⟨wr.heap.size, 2, none⟩ = false := (hb2.frozen hD).trans (by simp [go_sem])
   have hb3 : Below wr.heap.size wr ((w2.setCell ⟨wr.heap.size, 2, none⟩ (.slice a2 h2.2.1 c2)).alloc (.cells #[.string x.1, .int .i64 x.2.1, .slice a2 h2.2.1 c2] 169)) := (((hbw.trans (hb2.mono (by simp))).setCell (Nat.le_refl _) _).alloc (by have := hb2.size; simp at this ⊢; omega) _)
   have HR3 := hrow.out.on RReq.firm hb3
   have HE : RReq (fun b => Fresh w b ∧ Value.ownBlock u3 ≠ some b) ((w2.setCell ⟨wr.heap.size, 2, none⟩ (.slice a2 h2.2.1 c2)).alloc (.cells #[.string x.1, .int .i64 x.2.1, .slice a2 h2.2.1 c2] 169)) [.string x.1, .int .i64 x.2.1, .slice a2 h2.2.1 c2] x := by
    refine RReq.mk (h2 := (a2, h2.2.1, c2)) hs (((hS2.kept RStr.firm (Kept.set (Fresh.not hD) _)).kept RStr.firm (Kept.alloc _ _ _)).weak RStr.firm (fun b _ hb => hrow.out.apart (u' := wr.alloc (.cells #[.string x.1, .int .i64 x.2.1, J h2] 169)) (by simp) b hb))
   have HC : Hid (Chunks RReq 3 (fun b => Fresh w b ∧ Value.ownBlock u3 ≠ some b) ((w2.setCell ⟨wr.heap.size, 2, none⟩ (.slice a2 h2.2.1 c2)).alloc (.cells #[.string x.1, .int .i64 x.2.1, .slice a2 h2.2.1 c2] 169)) [.string x.1, .int .i64 x.2.1, .slice a2 h2.2.1 c2] [x]) := chunk_one RReq.firm HE
   have HX : Hid (∀ j y, [Value.string x.1, .int .i64 x.2.1, .slice a2 h2.2.1 c2][j]? = some y → ((w2.setCell ⟨wr.heap.size, 2, none⟩ (.slice a2 h2.2.1 c2)).alloc (.cells #[.string x.1, .int .i64 x.2.1, .slice a2 h2.2.1 c2] 169)).cell? ((⟨w2.heap.size, 0, none⟩ : Addr).add j) = some y) := by
    have := one_cells (w2.setCell ⟨wr.heap.size, 2, none⟩ (.slice a2 h2.2.1 c2)) [.string x.1, .int .i64 x.2.1, .slice a2 h2.2.1 c2] 169
    unfold Hid
    simpa using this
   have HR3' : Hid (Row RReq 3 (Fresh w) w ((w2.setCell ⟨wr.heap.size, 2, none⟩ (.slice a2 h2.2.1 c2)).alloc (.cells #[.string x.1, .int .i64 x.2.1, .slice a2 h2.2.1 c2] 169)) 169 u3 (L.take k)) := HR3
   have HLb : Hid (((L.take k).length + [x].length) * 48 ≤ 140737488355328) := by
    have := bytes_le hbb.out hlt
    rw [Hid, List.length_take, hn.out, List.length_singleton, Nat.min_eq_left (by omega)]
    exact this
   clear HR3 HE hbw hb3 hS2 hrow
   go_wp2_with (at_builtin; go_must (refine row_append RReq.firm (A := Fresh w) (w0 := w) rfl _ _ 26 169 rfl _ 48 infoReq underlying26 rfl (by decide) (by decide) u3 (L.take k) rfl HR3'.out ⟨w2.heap.size, 0, none⟩ 1 1 _ [x] rfl rfl HC.out HX.out (by simp [Value.oneCell']) HLb.out ?_); intro v4 w4 hrow4 hg4)
   rw [HT.out] at hrow4
   go_roundw
   case rel => exact ⟨k + 1, by omega, by go_num, hrow4⟩
   case measure => simp [intOf]; omega
  ·
   have hk' : L.take k = L := List.take_of_length_le (by rw [hn.out]; omega)
   obtain ⟨a', cap', e1, h2⟩ := hrow.out.slF (bytes := 48) RReq.firm (by rw [hk', hn.out]; exact hbb.out)
   rw [hk', hn.out] at e1 h2
   have hb9 := hrow.out.below
   have h2' : Hid (SlAt RReq 3 48 (Fresh w) wr a' n cap' L) := h2
   clear h2 hrow
   subst e1
   go_wp2_with fail
   go_ret
   exact ⟨a', cap', rfl, h2'.out, hb9⟩
end Go.Proofs.YtfbnnfpnjjjfcaaGreat

