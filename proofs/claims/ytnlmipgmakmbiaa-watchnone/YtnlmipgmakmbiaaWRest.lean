/- The document's Rest: the changes of a kind above a version. Condition: the log lies as is said of it. -/
import Derived.Test.YtnlmipgmakmbiaaWSame
namespace Go.Proofs.Ytnlmipgmakmbiaa
open Go.RowKit
set_option linter.unusedSimpArgs false
set_option maxRecDepth 100000

theorem rest_take {L : List Ch} {k v : Int} {j : Nat} (h : j < L.length) : restW k v (L.take (j + 1)) = restW k v (L.take j) ++ (if (decide ((L.getD j default).2 = k) && decide (v < (L.getD j default).1)) = true then [L.getD j default] else []) := by
  unfold restW
  rw [← take_at13 h, List.filter_append, List.filter_cons, List.filter_nil]
theorem rest_len (k v : Int) (L : List Ch) : (restW k v L).length ≤ L.length := List.length_filter_le _ _
set_option maxHeartbeats 8000000 in
theorem rRest_calls (kd v : Int) (a : Option Addr) (n cap : Nat) (A : Where) (L : List Ch) (w : World) (hL : Hid (SlAt RCh 42 640 A w a n cap L)) : Calls Try.prog 23 #[.int .i64 kd, .int .i64 v, .slice a n cap] w (LgOut w (restW kd v L)) := by
  have hlen := hL.out.len (by decide)
  have hn : Hid (L.length = n) := hL.out.1
  have hbb : Hid (n * 640 ≤ 140737488351232) := hL.out.2.2.2.1
  have HR0 : Hid (Row RCh 42 (fun _ => False) w (w.alloc (.cells #[] 76)) 76 (.slice (some ⟨w.heap.size, 0, none⟩) 0 0) (restW kd v (L.take 0))) := Row.start _ w w _ (Below.refl _ _)
  go_enter Try.func23, Try.ntmps23
  go_wp2_with fail
  go_loopw [7, 8] (fun s i wr => ∃ k : Nat, k ≤ n ∧ i = .int .i64 k ∧ Hid (Row RCh 42 (fun _ => False) w wr 76 s (restW kd v (L.take k)))) (fun _ i _ => n - (intOf i).toNat)
  case atStart => exact ⟨0, Nat.zero_le _, rfl, HR0⟩
  case round =>
    obtain ⟨k, hk, rfl, hrow⟩ := hrel
    by_cases hlt : k < n
    · have hltz : (k : Int) < (n : Int) := by omega
      have hkl : Hid (k < L.length) := by rw [Hid, hn.out]; exact hlt
      have hbw : Below w.heap.size w wr := hrow.out.below
      obtain ⟨B, off, rfl, hB, _, cs, hr, hv⟩ := (hL.out.on RCh.firm hbw).get hlt
      obtain rfl : cs = chC (L.getD k default).1 (L.getD k default).2 := hr
      have HT : Hid (restW kd v (L.take (k + 1)) = restW kd v (L.take k) ++ (if (decide ((L.getD k default).2 = kd) && decide (v < (L.getD k default).1)) = true then [L.getD k default] else [])) := rest_take hkl.out
      have HLb : Hid (((restW kd v (L.take k)).length + 1) * 640 ≤ 140737488355328) := by
        have h1 := rest_len kd v (L.take k)
        have h2 := hbb.out
        rw [List.length_take] at h1
        rw [Hid]
        omega
      generalize L.getD k default = x at hv HT
      obtain ⟨x1, x2⟩ := x
      simp only at hv HT
      have d0 := hv 0 _ rfl
      have d2 := hv 2 _ rfl
      rw [Nat.add_zero] at d0
      have HV : Hid (wr.rangeAt B (off + k * 42) [.int .i64 x1, .int .i64 1, .int .i64 x2, .string ⟨#[]⟩, .int .i64 0, .slice none 0 0, .int .i64 0, .int .i64 0, .int .i64 0, .slice none 0 0, .slice none 0 0, .slice none 0 0, .slice none 0 0, .slice none 0 0, .slice none 0 0, .slice none 0 0, .slice none 0 0, .string ⟨#[]⟩, .string ⟨#[]⟩, .string ⟨#[]⟩, .slice none 0 0, .slice none 0 0, .bool false, .int .i64 0, .int .i64 0, .int .i64 0, .int .i64 0, .int .i64 0, .string ⟨#[]⟩, .int .i64 0, .string ⟨#[]⟩, .slice none 0 0, .string ⟨#[]⟩, .string ⟨#[]⟩, .int .i64 0, .string ⟨#[]⟩, .string ⟨#[]⟩, .string ⟨#[]⟩, .bool false, .string ⟨#[]⟩, .slice none 0 0, .int .i64 0]) := hv
      clear hv hB hbw
      by_cases h2 : x2 = kd
      · subst h2
        by_cases h1 : v < x1
        · have HT2 : Hid (restW x2 v (L.take (k + 1)) = restW x2 v (L.take k) ++ [(x1, x2)]) := by rw [Hid, HT.out]; simp [h1]
          clear HT
          obtain ⟨W3, hW3⟩ : ∃ W, W = wr.alloc (.cells #[.int .i64 x1, .int .i64 1, .int .i64 x2, .string ⟨#[]⟩, .int .i64 0, .slice none 0 0, .int .i64 0, .int .i64 0, .int .i64 0, .slice none 0 0, .slice none 0 0, .slice none 0 0, .slice none 0 0, .slice none 0 0, .slice none 0 0, .slice none 0 0, .slice none 0 0, .string ⟨#[]⟩, .string ⟨#[]⟩, .string ⟨#[]⟩, .slice none 0 0, .slice none 0 0, .bool false, .int .i64 0, .int .i64 0, .int .i64 0, .int .i64 0, .int .i64 0, .string ⟨#[]⟩, .int .i64 0, .string ⟨#[]⟩, .slice none 0 0, .string ⟨#[]⟩, .string ⟨#[]⟩, .int .i64 0, .string ⟨#[]⟩, .string ⟨#[]⟩, .string ⟨#[]⟩, .bool false, .string ⟨#[]⟩, .slice none 0 0, .int .i64 0] 76) := ⟨_, rfl⟩
          have B3 : Below wr.heap.size wr W3 := by rw [hW3]; exact (Below.refl _ _).alloc (Nat.le_refl _) _
          have q3 : BoxL W3 wr.heap.size (chC x1 x2) := by rw [hW3]; exact BoxL.new wr 76 _
          have HR3 : Hid (Row RCh 42 (fun _ => False) w W3 76 u7 (restW x2 v (L.take k))) := hrow.out.on RCh.firm B3
          have HSr : Hid (Src RCh 42 (fun b => (fun _ => False) b ∧ u7.ownBlock ≠ some b) W3 (some ⟨wr.heap.size, 0, none⟩) 1 [(x1, x2)]) := src_box13 RCh.firm q3 rfl
          have HW3 : Hid (W3 = wr.alloc (.cells #[.int .i64 x1, .int .i64 1, .int .i64 x2, .string ⟨#[]⟩, .int .i64 0, .slice none 0 0, .int .i64 0, .int .i64 0, .int .i64 0, .slice none 0 0, .slice none 0 0, .slice none 0 0, .slice none 0 0, .slice none 0 0, .slice none 0 0, .slice none 0 0, .slice none 0 0, .string ⟨#[]⟩, .string ⟨#[]⟩, .string ⟨#[]⟩, .slice none 0 0, .slice none 0 0, .bool false, .int .i64 0, .int .i64 0, .int .i64 0, .int .i64 0, .int .i64 0, .string ⟨#[]⟩, .int .i64 0, .string ⟨#[]⟩, .slice none 0 0, .string ⟨#[]⟩, .string ⟨#[]⟩, .int .i64 0, .string ⟨#[]⟩, .string ⟨#[]⟩, .string ⟨#[]⟩, .bool false, .string ⟨#[]⟩, .slice none 0 0, .int .i64 0] 76)) := hW3
          clear hW3 B3 q3 hrow
          go_wp2_with (first | (refine wpList_load_mid rfl 76 _ rfl B (off + k * 42) rfl [.int .i64 x1, .int .i64 1, .int .i64 x2, .string ⟨#[]⟩, .int .i64 0, .slice none 0 0, .int .i64 0, .int .i64 0, .int .i64 0, .slice none 0 0, .slice none 0 0, .slice none 0 0, .slice none 0 0, .slice none 0 0, .slice none 0 0, .slice none 0 0, .slice none 0 0, .string ⟨#[]⟩, .string ⟨#[]⟩, .string ⟨#[]⟩, .slice none 0 0, .slice none 0 0, .bool false, .int .i64 0, .int .i64 0, .int .i64 0, .int .i64 0, .int .i64 0, .string ⟨#[]⟩, .int .i64 0, .string ⟨#[]⟩, .slice none 0 0, .string ⟨#[]⟩, .string ⟨#[]⟩, .int .i64 0, .string ⟨#[]⟩, .string ⟨#[]⟩, .string ⟨#[]⟩, .bool false, .string ⟨#[]⟩, .slice none 0 0, .int .i64 0] _ HV.out Try.underlying76 rfl sizeCh ?_) | (at_builtin; refine wpl_at13 HW3.out ?_; go_must (refine row_appendP RCh.firm (A := fun _ => False) (w0 := w) rfl _ _ 28 76 rfl _ 640 infoCh Try.underlying28 rfl (by decide) (by decide) u7 _ rfl HR3.out (some ⟨_, 0, none⟩) 1 1 [(x1, x2)] rfl HSr.out HLb.out ?_); intro v4 w4 hrow4 hg4 hw4) | fail)
          rw [← HT2.out] at hrow4
          go_roundw
          case rel => exact ⟨k + 1, by omega, by go_num, hrow4⟩
          case measure => simp [intOf]; omega
        · have HT2 : Hid (restW x2 v (L.take (k + 1)) = restW x2 v (L.take k)) := by rw [Hid, HT.out]; simp [h1]
          have HN : Hid (Row RCh 42 (fun _ => False) w wr 76 u7 (restW x2 v (L.take (k + 1)))) := by rw [Hid, HT2.out]; exact hrow.out
          clear HT HT2 hrow HV
          go_wp2_with fail
          go_roundw
          case rel => exact ⟨k + 1, by omega, by go_num, HN⟩
          case measure => simp [intOf]; omega
      · have HT2 : Hid (restW kd v (L.take (k + 1)) = restW kd v (L.take k)) := by rw [Hid, HT.out]; simp [h2]
        have HN : Hid (Row RCh 42 (fun _ => False) w wr 76 u7 (restW kd v (L.take (k + 1)))) := by rw [Hid, HT2.out]; exact hrow.out
        have hd : (x2 == kd) = false := by rw [beq_eq_false_iff_ne]; exact h2
        clear HT HT2 hrow HV
        go_wp2_with fail
        go_roundw
        case rel => exact ⟨k + 1, by omega, by go_num, HN⟩
        case measure => simp [intOf]; omega
    · have hk' : L.take k = L := List.take_of_length_le (by rw [hn.out]; omega)
      rw [hk'] at hrow
      have hltz : ¬ ((k : Int) < (n : Int)) := by omega
      go_wp2_with fail
      go_ret
      exact ⟨_, rfl, hrow.out⟩
end Go.Proofs.Ytnlmipgmakmbiaa
