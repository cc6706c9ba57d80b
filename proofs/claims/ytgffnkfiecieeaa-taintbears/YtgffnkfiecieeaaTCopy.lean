/- The law's own copies of taints and of what is borne: slices of their own that hold the same. Condition: the slice holds what is said of it, and is no longer than memory allows. -/
import Derived.Test.YtgffnkfiecieeaaTPlain
namespace Go.Proofs.Ytgffnkfiecieeaa
open Go.RowKit
set_option linter.unusedSimpArgs false

theorem infoT : (Try.prog.info? 32).map (fun i => (i.zero, i.size, i.bytes)) = some (some (.agg #[.string ⟨#[]⟩, .string ⟨#[]⟩, .int .i64 0]), 3, 40) := by kernel_rfl
theorem infoB : (Try.prog.info? 38).map (fun i => (i.zero, i.size, i.bytes)) = some (some (.agg #[.string ⟨#[]⟩, .string ⟨#[]⟩, .bool false, .int .i64 0]), 4, 48) := by kernel_rfl

set_option maxHeartbeats 1000000 in
theorem taints_calls (a : Option Addr) (cap : Nat) (L : List Tnt) (w : World) (hL : Hid (TntsAt w a L)) (hby : L.length * 40 ≤ 140737488355328) : Calls Try.prog 9 #[.slice a L.length cap] w fun e w' => ∃ v, e = .returned v ∧ Own w w' 32 3 v L.length (flatE encT L) := by
  have HO : Hid (Own w (w.alloc (.cells #[] 32)) 32 3 (.slice (some ⟨w.heap.size, 0, none⟩) 0 0) 0 []) := Own.start w w _ _ (Below.refl _ _)
  have hb : Below w.heap.size w (w.alloc (.cells #[] 32)) := by go_grown
  match a with
  | none =>
    obtain rfl := hL.out.none_nil
    simp only [List.length_nil]
    go_enter Try.func9, Try.ntmps9
    go_wp2_with fail
    go_ret
    exact ⟨_, rfl, HO.out⟩
  | some ad =>
    have HN : Hid (∀ j y, (flatE encT L)[j]? = some y → (w.alloc (.cells #[] 32)).cell? (ad.add j) = some y) := flatE_cells encT_len (hL.out.on hb)
    clear hL hb
    go_enter Try.func9, Try.ntmps9
    go_wp2_with (at_builtin; go_must (refine own_append (w0 := w) rfl _ _ 22 32 rfl _ 3 40 infoT Try.underlying22 rfl (by decide) _ 0 [] rfl HO.out ad L.length cap (flatE encT L) rfl (flatE_length encT_len L) HN.out (flatE_one encT_one L) (by unfold maxLen; omega) (by omega) ?_); intro v1 w1 hown1 hnil)
    go_ret
    refine ⟨_, rfl, ?_⟩
    simpa using hown1

set_option maxHeartbeats 1000000 in
theorem bears_calls (a : Option Addr) (cap : Nat) (L : List Bear) (w : World) (hL : Hid (BearsAt w a L)) (hby : L.length * 48 ≤ 140737488355328) : Calls Try.prog 12 #[.slice a L.length cap] w fun e w' => ∃ v, e = .returned v ∧ Own w w' 38 4 v L.length (flatE encB L) := by
  have HO : Hid (Own w (w.alloc (.cells #[] 38)) 38 4 (.slice (some ⟨w.heap.size, 0, none⟩) 0 0) 0 []) := Own.start w w _ _ (Below.refl _ _)
  have hb : Below w.heap.size w (w.alloc (.cells #[] 38)) := by go_grown
  match a with
  | none =>
    obtain rfl := hL.out.none_nil
    simp only [List.length_nil]
    go_enter Try.func12, Try.ntmps12
    go_wp2_with fail
    go_ret
    exact ⟨_, rfl, HO.out⟩
  | some ad =>
    have HN : Hid (∀ j y, (flatE encB L)[j]? = some y → (w.alloc (.cells #[] 38)).cell? (ad.add j) = some y) := flatE_cells encB_len (hL.out.on hb)
    clear hL hb
    go_enter Try.func12, Try.ntmps12
    go_wp2_with (at_builtin; go_must (refine own_append (w0 := w) rfl _ _ 23 38 rfl _ 4 48 infoB Try.underlying23 rfl (by decide) _ 0 [] rfl HO.out ad L.length cap (flatE encB L) rfl (flatE_length encB_len L) HN.out (flatE_one encB_one L) (by unfold maxLen; omega) (by omega) ?_); intro v1 w1 hown1 hnil)
    go_ret
    refine ⟨_, rfl, ?_⟩
    simpa using hown1
end Go.Proofs.Ytgffnkfiecieeaa
