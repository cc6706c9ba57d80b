/- The document's watcher: New, Cut, List, Next. Conditions: the watcher and the log lie as is said of them. -/
import Derived.Test.YtnlmipgmakmbiaaWRw
import Derived.Test.YtnlmipgmakmbiaaRQ
namespace Go.Proofs.Ytnlmipgmakmbiaa
open Go.RowKit
set_option linter.unusedSimpArgs false
set_option maxRecDepth 100000

theorem infoInt13 : (Try.prog.info? 3).map (fun i => (i.zero, i.size, i.bytes)) = some (some (.int .i64 0), 1, 8) := by kernel_rfl
theorem infoBool13 : (Try.prog.info? 4).map (fun i => (i.zero, i.size, i.bytes)) = some (some (.bool false), 1, 1) := by kernel_rfl
theorem rep_snoc13 {α : Type} (k : Nat) (x : α) : List.replicate k x ++ [x] = List.replicate (k + 1) x := by rw [← List.replicate_append_replicate (n := k) (m := 1)]; rfl
/-- A watcher that a call made. -/
def RwS (w u : World) (p : Nat) (At : List Int) (Off : List Bool) : Prop := ∃ a b, RwE w u p a b At Off
theorem RwS.on {w u : World} {p : Nat} {At : List Int} {Off : List Bool} (h : RwS w u p At Off) {u' : World} (hb : Below u.heap.size u u') : RwS w u' p At Off := by obtain ⟨a, b, h⟩ := h; exact ⟨a, b, h.on hb⟩
set_option maxHeartbeats 8000000 in
theorem rNew_calls (v : Int) (w : World) : Calls Try.prog 10 #[.int .i64 v] w fun e w' => ∃ p, e = .returned (.pointer (some ⟨p, 0, none⟩)) ∧ RwS w w' p (List.replicate 7 (max 0 v)) (List.replicate 7 false) := by
  have B0 : Below w.heap.size w (w.alloc (.cells #[.slice none 0 0, .slice none 0 0] 45)) := (Below.refl _ _).alloc (Nat.le_refl _) _
  have HR0 : Hid (RwS w (w.alloc (.cells #[.slice none 0 0, .slice none 0 0] 45)) w.heap.size (List.replicate 0 (max 0 v)) (List.replicate 0 false)) := ⟨_, _, BoxL.new w 45 _, (Row.nil _ w _).on RInt.firm B0, (Row.nil _ w _).on RBool.firm B0, Nat.le_refl _, (by simp [Value.ownBlock]), (by simp [Value.ownBlock]), (by simp [Value.ownBlock])⟩
  obtain ⟨m, hm⟩ : ∃ m, m = max 0 v := ⟨_, rfl⟩
  have hmx : (if v > 0 then v else 0) = m := by rw [hm]; split <;> omega
  rw [← hm] at HR0 ⊢
  clear hm B0
  go_enter Try.func10, Try.ntmps10
  go_wp2_with fail
  go_loopw [4] (fun i wr => ∃ k : Nat, k ≤ 7 ∧ i = .int .i64 k ∧ Hid (RwS w wr w.heap.size (List.replicate k m) (List.replicate k false))) (fun i _ => 7 - (intOf i).toNat)
  case atStart => exact ⟨0, Nat.zero_le _, rfl, HR0⟩
  case round =>
    obtain ⟨k, hk, rfl, hrun⟩ := hrel
    obtain ⟨a, b, hE⟩ := hrun.out
    clear hrun HR0
    by_cases hlt : k < 7
    · have hltz : (k : Int) < 7 := by omega
      obtain ⟨a0, a1, a2, rfl⟩ := hE.ra.head13
      obtain ⟨b0, b1, b2, rfl⟩ := hE.rb.head13
      have c0 := (hE.box.2 0 _ rfl).1
      --M1
      obtain ⟨W1, hW1⟩ : ∃ W, W = wr.alloc (.cells #[.int .i64 (m)] 3) := ⟨_, rfl⟩
      have B1 : Below wr.heap.size wr W1 := by rw [hW1]; exact (Below.refl _ _).alloc (Nat.le_refl _) _
      have q1 : BoxL W1 wr.heap.size [.int .i64 (m)] := by rw [hW1]; exact BoxL.new wr 3 _
      have HSr : Hid (Src RInt 1 (fun b => (fun _ => False) b ∧ (Value.slice a0 a1 a2).ownBlock ≠ some b) W1 (some ⟨wr.heap.size, 0, none⟩) 1 [m]) := src_box13 RInt.firm q1 rfl
      have HRw : Hid (Row RInt 1 (fun _ => False) w W1 3 (.slice a0 a1 a2) (List.replicate k m)) := hE.ra.on RInt.firm B1
      have HOb : Hid (((List.replicate k m).length + [m].length) * 8 ≤ 140737488355328) := by rw [Hid, List.length_replicate, List.length_singleton]; omega
      have HW1 : Hid (W1 = wr.alloc (.cells #[.int .i64 (m)] 3)) := hW1
      have HE1 : Hid (RwE w wr w.heap.size (.slice a0 a1 a2) (.slice b0 b1 b2) (List.replicate k m) (List.replicate k false) ∧ Below wr.heap.size wr W1) := ⟨hE, B1⟩
      have HG : Hid (∀ u, W1.grownBy u (Value.slice a0 a1 a2).ownBlock → BoxL u w.heap.size [.slice a0 a1 a2, .slice b0 b1 b2]) := fun u hg => (hE.box.on B1).kept (A := fun b => b = w.heap.size) (Kept.grown hg (fun x e hx => hE.na (by rw [e, hx]))) rfl
      clear hW1 B1 q1 hE
      go_upto_region 6 with (first | (at_builtin; refine wpl_at13 HW1.out ?_; refine row_appendP RInt.firm (A := fun _ => False) (w0 := w) rfl _ _ 22 3 rfl _ 8 infoInt13 Try.underlying22 rfl (by decide) (by decide) _ _ rfl HRw.out (some ⟨_, 0, none⟩) 1 1 [m] rfl HSr.out HOb.out ?_; intro v1 u1 hr1 hg1 hw1; obtain ⟨e0, e1, e2, rfl⟩ := hr1.head13; have f0 := ((HG.out u1 hg1).2 0 _ rfl).1; have f1 := ((HG.out u1 hg1).2 0 _ rfl).2) | fail)
      --M2
      obtain ⟨W2, hW2⟩ : ∃ W, W = u1.setCell ⟨w.heap.size, 0, none⟩ (.slice e0 e1 e2) := ⟨_, rfl⟩
      rw [← hW2]
      have hE2 : RwE w W2 w.heap.size (.slice e0 e1 e2) (.slice b0 b1 b2) (List.replicate k m ++ [m]) (List.replicate k false) := by rw [hW2]; exact HE1.out.1.appA HE1.out.2 hg1 hr1 hw1
      clear hW2 f0 f1 HG HE1 HW1 HOb HRw HSr hr1 hg1 hw1 c0
      have c0 := (hE2.box.2 1 _ rfl).1
      obtain ⟨W3, hW3⟩ : ∃ W, W = W2.alloc (.cells #[.bool false] 4) := ⟨_, rfl⟩
      have B1 : Below W2.heap.size W2 W3 := by rw [hW3]; exact (Below.refl _ _).alloc (Nat.le_refl _) _
      have q1 : BoxL W3 W2.heap.size [.bool false] := by rw [hW3]; exact BoxL.new W2 4 _
      have HSr : Hid (Src RBool 1 (fun b => (fun _ => False) b ∧ (Value.slice b0 b1 b2).ownBlock ≠ some b) W3 (some ⟨W2.heap.size, 0, none⟩) 1 [false]) := src_box13 RBool.firm q1 rfl
      have HRw : Hid (Row RBool 1 (fun _ => False) w W3 4 (.slice b0 b1 b2) (List.replicate k false)) := hE2.rb.on RBool.firm B1
      have HOb : Hid (((List.replicate k false).length + [false].length) * 1 ≤ 140737488355328) := by rw [Hid, List.length_replicate, List.length_singleton]; omega
      have HW1 : Hid (W3 = W2.alloc (.cells #[.bool false] 4)) := hW3
      have HE1 : Hid (RwE w W2 w.heap.size (.slice e0 e1 e2) (.slice b0 b1 b2) (List.replicate k m ++ [m]) (List.replicate k false) ∧ Below W2.heap.size W2 W3) := ⟨hE2, B1⟩
      have HG : Hid (∀ u, W3.grownBy u (Value.slice b0 b1 b2).ownBlock → BoxL u w.heap.size [.slice e0 e1 e2, .slice b0 b1 b2]) := fun u hg => (hE2.box.on B1).kept (A := fun b => b = w.heap.size) (Kept.grown hg (fun x e hx => hE2.nb (by rw [e, hx]))) rfl
      clear hW3 B1 q1 hE2
      go_wp2_with (first | (at_builtin; refine wpl_at13 HW1.out ?_; refine row_appendP RBool.firm (A := fun _ => False) (w0 := w) rfl _ _ 43 4 rfl _ 1 infoBool13 Try.underlying43 rfl (by decide) (by decide) _ _ rfl HRw.out (some ⟨_, 0, none⟩) 1 1 [false] rfl HSr.out HOb.out ?_; intro v3 u3 hr3 hg3 hw3; obtain ⟨k0, k1, k2, rfl⟩ := hr3.head13; have f0 := ((HG.out u3 hg3).2 1 _ rfl).1; have f1 := ((HG.out u3 hg3).2 1 _ rfl).2) | fail)
      have HN : Hid (RwS w (u3.setCell ⟨w.heap.size, 1, none⟩ (.slice k0 k1 k2)) w.heap.size (List.replicate (k + 1) m) (List.replicate (k + 1) false)) := by
        rw [Hid, ← rep_snoc13, ← rep_snoc13]
        exact ⟨_, _, HE1.out.1.appB HE1.out.2 hg3 hr3 hw3⟩
      clear f0 f1 HG HE1 HW1 HOb HRw HSr hr3 hg3 hw3 c0
      go_roundw
      case rel => exact ⟨k + 1, by omega, by go_num, HN⟩
      case measure => simp [intOf]; omega
    · obtain rfl : k = 7 := by omega
      have HN : Hid (RwS w wr w.heap.size (List.replicate 7 m) (List.replicate 7 false)) := ⟨a, b, hE⟩
      clear hE
      go_wp2_with fail
      go_ret
      exact ⟨_, rfl, HN.out⟩
end Go.Proofs.Ytnlmipgmakmbiaa
