/- The chapter's example comes out. No condition. -/
import Derived.Test.YtgffnkfiecieeaaTCheck
namespace Go.Proofs.Ytgffnkfiecieeaa
open Go.RowKit
set_option linter.unusedSimpArgs false

def gpuT : Tnt := (⟨#[103, 112, 117]⟩, ⟨#[121, 101, 115]⟩, 1)
theorem gpu_calls (w : World) : Calls Try.prog 27 #[] w fun e w' => e = .returned (.agg #[.string ⟨#[103, 112, 117]⟩, .string ⟨#[121, 101, 115]⟩, .int .i64 1]) ∧ Below w.heap.size w w' := by
  go_enter Try.func27, Try.ntmps27
  go_wp2
  exact bodyPost_ret (v := .agg #[.string ⟨#[103, 112, 117]⟩, .string ⟨#[121, 101, 115]⟩, .int .i64 1]) (by simp [results, Try.results27, go_sem]) rfl ⟨rfl, by go_grown⟩
theorem gpu_two (u : World) (t : TypeId) : TntsAt (u.alloc (.cells #[.string ⟨#[103, 112, 117]⟩, .string ⟨#[121, 101, 115]⟩, .int .i64 1, .string ⟨#[103, 112, 117]⟩, .string ⟨#[121, 101, 115]⟩, .int .i64 1] t)) (some ⟨u.heap.size, 0, none⟩) [gpuT, gpuT] := by
  refine ⟨by simp, fun x hx => ?_, fun _ => ⟨u.heap.size, 0, rfl, by simp, fun i hi j v hv => ?_⟩⟩
  · obtain rfl : x = gpuT := by simpa using hx
    exact ⟨by decide, by decide⟩
  · have hi' : i < 2 := by simpa using hi
    match i, hi' with
    | 0, _ =>
      match j, hv with
      | 0, hv => simp [encT, gpuT] at hv; subst hv; simp [go_sem]
      | 1, hv => simp [encT, gpuT] at hv; subst hv; simp [go_sem]
      | 2, hv => simp [encT, gpuT] at hv; subst hv; simp [go_sem]
      | j + 3, hv => simp [encT] at hv
    | 1, _ =>
      match j, hv with
      | 0, hv => simp [encT, gpuT] at hv; subst hv; simp [go_sem]
      | 1, hv => simp [encT, gpuT] at hv; subst hv; simp [go_sem]
      | 2, hv => simp [encT, gpuT] at hv; subst hv; simp [go_sem]
      | j + 3, hv => simp [encT] at hv

theorem bears_at (bk bv : ByteArray) (ba : Bool) (be : Int) (r : Bool) (h : bearsB (bk, bv, ba, be) gpuT = r) (w : World) : Calls Try.prog 19 #[.agg #[.string bk, .string bv, .bool ba, .int .i64 be], .agg #[.string ⟨#[103, 112, 117]⟩, .string ⟨#[121, 101, 115]⟩, .int .i64 1]] w fun e w' => e = .returned (.bool r) ∧ Below w.heap.size w w' := by
  have := Bears_calls bk bv ba be ⟨#[103, 112, 117]⟩ ⟨#[121, 101, 115]⟩ 1 w
  change Calls _ _ _ _ fun e w' => e = .returned (.bool (bearsB (bk, bv, ba, be) gpuT)) ∧ _ at this
  rwa [h] at this

set_option maxHeartbeats 2000000 in
theorem works_calls (w : World) : Calls Try.prog 14 #[] w fun e w' => e = .returned (.bool true) ∧ Below w.heap.size w w' := by
  have b1 := bears_at ⟨#[103, 112, 117]⟩ ⟨#[121, 101, 115]⟩ false 0 true (by decide +kernel)
  have b2 := bears_at ⟨#[103, 112, 117]⟩ ⟨#[]⟩ true 0 true (by decide +kernel)
  have b3 := bears_at ⟨#[]⟩ ⟨#[]⟩ true 0 true (by decide +kernel)
  have b4 := bears_at ⟨#[103, 112, 117]⟩ ⟨#[110, 111]⟩ false 0 false (by decide +kernel)
  have b5 := bears_at ⟨#[103, 112, 117]⟩ ⟨#[]⟩ true 2 false (by decide +kernel)
  have hc : ∀ (u : World), Calls Try.prog 8 #[.slice (some ⟨u.heap.size, 0, none⟩) 2 2] (u.alloc (.cells #[.string ⟨#[103, 112, 117]⟩, .string ⟨#[121, 101, 115]⟩, .int .i64 1, .string ⟨#[103, 112, 117]⟩, .string ⟨#[121, 101, 115]⟩, .int .i64 1] 32)) fun e w' => e = .returned (.int .i64 30) ∧ Below (u.alloc (.cells #[.string ⟨#[103, 112, 117]⟩, .string ⟨#[121, 101, 115]⟩, .int .i64 1, .string ⟨#[103, 112, 117]⟩, .string ⟨#[121, 101, 115]⟩, .int .i64 1] 32)).heap.size (u.alloc (.cells #[.string ⟨#[103, 112, 117]⟩, .string ⟨#[121, 101, 115]⟩, .int .i64 1, .string ⟨#[103, 112, 117]⟩, .string ⟨#[121, 101, 115]⟩, .int .i64 1] 32)) w' := fun u => by
    have := Check_calls (some ⟨u.heap.size, 0, none⟩) 2 [gpuT, gpuT] _ (gpu_two u 32) (by simp)
    rwa [show checkT [gpuT, gpuT] = 30 by decide +kernel] at this
  go_enter Try.func14, Try.ntmps14
  go_wp2_with fail
  refine (gpu_calls _).mono ?_
  rintro e w1 ⟨rfl, hb1⟩
  go_wp2_with fail
  refine (b1 _).mono ?_
  rintro e w2 ⟨rfl, hb⟩
  have hb2 := on2 hb1 hb
  clear hb hb1 b1
  go_wp2_with fail
  refine (gpu_calls _).mono ?_
  rintro e w1 ⟨rfl, hb⟩
  have hb1 := on2 hb2 hb
  clear hb hb2
  go_wp2_with fail
  refine (b2 _).mono ?_
  rintro e w2 ⟨rfl, hb⟩
  have hb2 := on2 hb1 hb
  clear hb hb1 b2
  go_wp2_with fail
  refine (gpu_calls _).mono ?_
  rintro e w1 ⟨rfl, hb⟩
  have hb1 := on2 hb2 hb
  clear hb hb2
  go_wp2_with fail
  refine (b3 _).mono ?_
  rintro e w2 ⟨rfl, hb⟩
  have hb2 := on2 hb1 hb
  clear hb hb1 b3
  go_wp2_with fail
  refine (gpu_calls _).mono ?_
  rintro e w1 ⟨rfl, hb⟩
  have hb1 := on2 hb2 hb
  clear hb hb2
  go_wp2_with fail
  refine (b4 _).mono ?_
  rintro e w2 ⟨rfl, hb⟩
  have hb2 := on2 hb1 hb
  clear hb hb1 b4
  go_wp2_with fail
  refine (gpu_calls _).mono ?_
  rintro e w1 ⟨rfl, hb⟩
  have hb1 := on2 hb2 hb
  clear hb hb2
  go_wp2_with fail
  refine (b5 _).mono ?_
  rintro e w2 ⟨rfl, hb⟩
  have hb2 := on2 hb1 hb
  clear hb hb1 b5
  go_wp2_with fail
  refine (gpu_calls _).mono ?_
  rintro e w1 ⟨rfl, hb⟩
  have hb1 := on2 hb2 hb
  clear hb hb2
  go_wp2_with fail
  refine (gpu_calls _).mono ?_
  rintro e w2 ⟨rfl, hb⟩
  have hb2 := on2 hb1 hb
  clear hb hb1
  go_wp2_with fail
  refine (hc _).mono ?_
  rintro e w3 ⟨rfl, hb⟩
  have hb3 := on2 (on2 hb2 (by go_grown)) hb
  clear hb hb2
  go_wp2_with fail
  go_ret
  exact ⟨rfl, hb3⟩
end Go.Proofs.Ytgffnkfiecieeaa
