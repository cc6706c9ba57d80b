/- The program's watcher: New, Cut, List, Seen, Clone. Condition: the watcher lies as is said of it. -/
import Derived.Test.YtnlmipgmakmbiaaWPgA
namespace Go.Proofs.Ytnlmipgmakmbiaa
open Go.RowKit
set_option linter.unusedSimpArgs false
set_option maxRecDepth 100000

def nwA (k : Nat) (M : Int) : List Int := List.replicate k M ++ List.replicate (7 - k) 0
theorem nw_set {k : Nat} (h : k < 7) (M : Int) : (nwA k M).set k M = nwA (k + 1) M := by
  rcases (show k = 0 ∨ k = 1 ∨ k = 2 ∨ k = 3 ∨ k = 4 ∨ k = 5 ∨ k = 6 by omega) with rfl | rfl | rfl | rfl | rfl | rfl | rfl <;> rfl
set_option maxHeartbeats 4000000 in
theorem pNew_calls (v : Int) (w : World) : Calls Try.prog 9 #[.int .i64 v] w fun e w' => e = .returned (.pointer (some ⟨w.heap.size, 0, none⟩)) ∧ PWt w' w.heap.size (List.replicate 7 (max 0 v)) (List.replicate 7 false) ∧ Below w.heap.size w w' := by
  obtain ⟨M, hM⟩ : ∃ M, M = max 0 v := ⟨_, rfl⟩
  have hmx : (if v < 0 then 0 else v) = M := by rw [hM]; split <;> omega
  have hmx2 : (if 0 < v then v else 0) = M := by rw [hM]; split <;> omega
  have h0 : Hid (PWt (w.alloc (.cells #[.bool true, .int .i64 0, .bool false, .int .i64 0, .bool false, .int .i64 0, .bool false, .int .i64 0, .bool false, .int .i64 0, .bool false, .int .i64 0, .bool false, .int .i64 0, .bool false] 82)) w.heap.size (nwA 0 M) (List.replicate 7 false)) := ⟨rfl, rfl, BoxL.new w 82 (.bool true :: curC (List.replicate 7 0) (List.replicate 7 false))⟩
  rw [← hM]
  clear hM
  go_enter Try.func9, Try.ntmps9
  go_wp2_with fail
  go_loopw [7] (fun i wr => ∃ k : Nat, k ≤ 7 ∧ i = .int .i64 k ∧ Hid (PWt wr w.heap.size (nwA k M) (List.replicate 7 false)) ∧ Below w.heap.size w wr) (fun i _ => 7 - (intOf i).toNat)
  case atStart => exact ⟨0, by omega, rfl, h0, by go_grown⟩
  case round =>
    obtain ⟨k, hk, rfl, hp, hb⟩ := hrel
    by_cases hge : 7 ≤ k
    · obtain rfl : k = 7 := by omega
      have HF : Hid (PWt wr w.heap.size (List.replicate 7 M) (List.replicate 7 false)) := hp
      go_wp2_with fail
      go_ret
      exact ⟨rfl, HF.out, hb⟩
    · have hlt : k < 7 := by omega
      have hltz : (k : Int) < 7 := by omega
      obtain ⟨d0, d1⟩ := hp.out.seen hlt
      have hn := hp.out.setA hlt M
      rw [nw_set hlt] at hn
      have hb2 : Below w.heap.size w (wr.setCell ⟨w.heap.size, 1 + k * 2, none⟩ (.int .i64 M)) := hb.setCell (p := ⟨w.heap.size, 1 + k * 2, none⟩) (Nat.le_refl _) _
      have HN : Hid (PWt (wr.setCell ⟨w.heap.size, 1 + k * 2, none⟩ (.int .i64 M)) w.heap.size (nwA (k + 1) M) (List.replicate 7 false) ∧ Below w.heap.size w (wr.setCell ⟨w.heap.size, 1 + k * 2, none⟩ (.int .i64 M))) := ⟨hn, hb2⟩
      clear hn hb2 hp
      go_wp2_with fail
      --M1
      go_roundw
      case rel => exact ⟨k + 1, by omega, by go_num, HN.out.1, HN.out.2⟩
      case measure => simp [intOf]; omega
/-- What a call that writes into the watcher leaves. -/
theorem kept_p13 {u : World} {p o : Nat} (v : Value) : Kept (fun b => b ≠ p) u (u.setCell ⟨p, o, none⟩ v) := Kept.set (p := ⟨p, o, none⟩) (fun h => h rfl) v
set_option maxHeartbeats 4000000 in
theorem pCut_calls (p : Nat) (At : List Int) (Off : List Bool) (k : Int) (u : World) (h : PWt u p At Off) : Calls Try.prog 16 #[.pointer (some ⟨p, 0, none⟩), .int .i64 k] u fun e u' => e = .returned (.int .i64 (cutP Off k).1) ∧ PWt u' p At (cutP Off k).2 ∧ u'.os = u.os ∧ u'.tape = u.tape ∧ u'.output = u.output ∧ Kept (fun b => b ≠ p) u u' := by
  have hC := of_calls13 p u k h.mark
  cases hk : knB k with
  | false =>
    have HR : Hid (cutP Off k = (2, Off)) := by rw [Hid]; unfold cutP; rw [hk]; rfl
    rw [HR.out]
    rw [hk] at hC
    go_enter Try.func16, Try.ntmps16
    go_wp2_with fail
    refine hC.mono ?_
    rintro e u1 ⟨rfl, rfl⟩
    clear hC
    go_wp2_with fail
    go_ret
    exact ⟨rfl, h, rfl, rfl, rfl, Kept.refl _ _⟩
  | true =>
    obtain ⟨k1, k2⟩ := kn_iff.1 hk
    obtain ⟨i, rfl⟩ : ∃ i : Nat, k = (i : Int) := ⟨k.toNat, by omega⟩
    have hi : i < 7 := by omega
    obtain ⟨d0, d1⟩ := h.gone hi
    rw [hk] at hC
    simp only [if_true, Int.toNat_natCast] at hC
    have Hs : Hid (PWt (u.setCell ⟨p, 1 + i * 2 + 1, none⟩ (.bool true)) p At (Off.set i true)) := h.setB hi true
    have Hh : Hid (PWt u p At Off) := h
    cases hb : Off.getD i default with
    | true =>
      have HR : Hid (cutP Off (i : Int) = (130, Off)) := by rw [Hid]; unfold cutP; rw [hk, Int.toNat_natCast, hb]; rfl
      rw [HR.out]
      rw [hb] at d0
      clear h
      go_enter Try.func16, Try.ntmps16
      go_wp2_with fail
      refine hC.mono ?_
      rintro e u1 ⟨rfl, rfl⟩
      clear hC
      go_wp2_with fail
      go_ret
      exact ⟨rfl, Hh.out, rfl, rfl, rfl, Kept.refl _ _⟩
    | false =>
      have HR : Hid (cutP Off (i : Int) = (0, Off.set i true)) := by rw [Hid]; unfold cutP; rw [hk, Int.toNat_natCast, hb]; rfl
      rw [HR.out]
      rw [hb] at d0
      clear h
      go_enter Try.func16, Try.ntmps16
      go_wp2_with fail
      refine hC.mono ?_
      rintro e u1 ⟨rfl, rfl⟩
      clear hC
      go_wp2_with fail
      go_ret
      exact ⟨rfl, Hs.out, rfl, rfl, rfl, kept_p13 _⟩
set_option maxHeartbeats 4000000 in
theorem pSeen_calls (p : Nat) (At : List Int) (Off : List Bool) (k : Int) (u : World) (h : PWt u p At Off) : Calls Try.prog 21 #[.pointer (some ⟨p, 0, none⟩), .int .i64 k] u fun e u' => e = .returned (.tuple #[.int .i64 (if knB k = true then At.getD k.toNat default else 0), .int .i64 (if knB k = true then 0 else 2)]) ∧ u' = u := by
  have hC := of_calls13 p u k h.mark
  cases hk : knB k with
  | false =>
    rw [hk] at hC
    go_enter Try.func21, Try.ntmps21
    go_wp2_with fail
    refine hC.mono ?_
    rintro e u1 ⟨rfl, rfl⟩
    clear hC
    go_wp2_with fail
    go_ret2
    exact ⟨rfl, rfl⟩
  | true =>
    obtain ⟨k1, k2⟩ := kn_iff.1 hk
    obtain ⟨i, rfl⟩ : ∃ i : Nat, k = (i : Int) := ⟨k.toNat, by omega⟩
    have hi : i < 7 := by omega
    obtain ⟨d0, d1⟩ := h.seen hi
    rw [hk] at hC
    simp only [if_true, Int.toNat_natCast] at hC ⊢
    generalize At.getD i default = x at d0 ⊢
    clear h
    go_enter Try.func21, Try.ntmps21
    go_wp2_with fail
    refine hC.mono ?_
    rintro e u1 ⟨rfl, rfl⟩
    clear hC
    go_wp2_with fail
    go_ret2
    exact ⟨rfl, rfl⟩
set_option maxHeartbeats 4000000 in
theorem pList_calls (p : Nat) (At : List Int) (Off : List Bool) (k v : Int) (u : World) (h : PWt u p At Off) : Calls Try.prog 18 #[.pointer (some ⟨p, 0, none⟩), .int .i64 k, .int .i64 v] u fun e u' => e = .returned (.int .i64 (listP At Off k v).1) ∧ PWt u' p (listP At Off k v).2.1 (listP At Off k v).2.2 ∧ u'.os = u.os ∧ u'.tape = u.tape ∧ u'.output = u.output ∧ Kept (fun b => b ≠ p) u u' := by
  have hC := of_calls13 p u k h.mark
  have Hh : Hid (PWt u p At Off) := h
  cases hk : knB k with
  | false =>
    have HR : Hid (listP At Off k v = (2, At, Off)) := by rw [Hid]; unfold listP; rw [hk]; rfl
    rw [HR.out]
    rw [hk] at hC
    clear h
    go_enter Try.func18, Try.ntmps18
    go_wp2_with fail
    refine hC.mono ?_
    rintro e u1 ⟨rfl, rfl⟩
    clear hC
    go_wp2_with fail
    go_ret
    exact ⟨rfl, Hh.out, rfl, rfl, rfl, Kept.refl _ _⟩
  | true =>
    obtain ⟨k1, k2⟩ := kn_iff.1 hk
    obtain ⟨i, rfl⟩ : ∃ i : Nat, k = (i : Int) := ⟨k.toNat, by omega⟩
    have hi : i < 7 := by omega
    rw [hk] at hC
    simp only [if_true, Int.toNat_natCast] at hC
    by_cases hv : v < 0
    · have HR : Hid (listP At Off (i : Int) v = (2, At, Off)) := by rw [Hid]; unfold listP; rw [hk, decide_eq_true hv]; rfl
      rw [HR.out]
      clear h
      go_enter Try.func18, Try.ntmps18
      go_wp2_with fail
      refine hC.mono ?_
      rintro e u1 ⟨rfl, rfl⟩
      clear hC
      go_wp2_with fail
      go_ret
      exact ⟨rfl, Hh.out, rfl, rfl, rfl, Kept.refl _ _⟩
    · have HR : Hid (listP At Off (i : Int) v = (0, At.set i v, Off.set i false)) := by rw [Hid]; unfold listP; rw [hk, decide_eq_false hv, Int.toNat_natCast]; rfl
      rw [HR.out]
      obtain ⟨d0, d1⟩ := h.seen hi
      have h1 := h.setA hi v
      have d2 := h1.gone hi
      have HN : Hid (PWt ((u.setCell ⟨p, 1 + i * 2, none⟩ (.int .i64 v)).setCell ⟨p, 1 + i * 2 + 1, none⟩ (.bool false)) p (At.set i v) (Off.set i false)) := h1.setB hi false
      have HK : Hid (Kept (fun b => b ≠ p) u ((u.setCell ⟨p, 1 + i * 2, none⟩ (.int .i64 v)).setCell ⟨p, 1 + i * 2 + 1, none⟩ (.bool false))) := (kept_p13 _).trans (kept_p13 _)
      obtain ⟨d3, d4⟩ := d2
      obtain ⟨d5, d6⟩ := h.gone hi
      clear h h1
      go_enter Try.func18, Try.ntmps18
      go_wp2_with fail
      refine hC.mono ?_
      rintro e u1 ⟨rfl, rfl⟩
      clear hC
      go_wp2_with fail
      --M2
      go_ret
      exact ⟨rfl, HN.out, rfl, rfl, rfl, HK.out⟩
set_option maxHeartbeats 4000000 in
theorem pClone_calls (p : Nat) (At : List Int) (Off : List Bool) (u : World) (h : PWt u p At Off) : Calls Try.prog 20 #[.pointer (some ⟨p, 0, none⟩)] u fun e u' => e = .returned (.pointer (some ⟨u.heap.size, 0, none⟩)) ∧ PWt u' u.heap.size At Off ∧ Below u.heap.size u u' := by
  have hC := made_calls p u h.mark
  obtain ⟨cs, hcs⟩ : ∃ cs : List Value, cs = .bool true :: curC At Off := ⟨_, rfl⟩
  have HQ : Hid (u.rangeAt p 0 cs) := by rw [hcs]; exact h.box.range
  have hl : cs.length = 15 := by rw [hcs]; exact h.len
  have hsz : cs.toArray.size = cs.length := by simp
  have HI : Hid ((Try.prog.info? 82).map (·.size) = some cs.length) := by rw [Hid, hl]; kernel_rfl
  have HI2 : Hid ((Try.prog.info? 82).map (·.size) = some cs.toArray.size) := by rw [Hid, hsz, hl]; kernel_rfl
  have H1 : Hid (cs.toArray.all (·.oneCell') = true) := by rw [hcs]; exact all_oneCell_toArray (fun v hv => by rcases List.mem_cons.1 hv with rfl | hv; rfl; exact cur_one _ _ v hv)
  obtain ⟨zs, hzs⟩ : ∃ zs : List Value, zs = [.bool false, .int .i64 0, .bool false, .int .i64 0, .bool false, .int .i64 0, .bool false, .int .i64 0, .bool false, .int .i64 0, .bool false, .int .i64 0, .bool false, .int .i64 0, .bool false] := ⟨_, rfl⟩
  have HZ : Hid ((u.alloc (.cells #[.bool false, .int .i64 0, .bool false, .int .i64 0, .bool false, .int .i64 0, .bool false, .int .i64 0, .bool false, .int .i64 0, .bool false, .int .i64 0, .bool false, .int .i64 0, .bool false] 82)).there u.heap.size 0 cs.toArray.size) := by rw [Hid, hsz, hl]; exact (BoxL.new u 82 [.bool false, .int .i64 0, .bool false, .int .i64 0, .bool false, .int .i64 0, .bool false, .int .i64 0, .bool false, .int .i64 0, .bool false, .int .i64 0, .bool false, .int .i64 0, .bool false]).there
  obtain ⟨Y, hY⟩ : ∃ Y, Y = (u.alloc (.cells #[.bool false, .int .i64 0, .bool false, .int .i64 0, .bool false, .int .i64 0, .bool false, .int .i64 0, .bool false, .int .i64 0, .bool false, .int .i64 0, .bool false, .int .i64 0, .bool false] 82)).setCells u.heap.size 0 cs := ⟨_, rfl⟩
  have HY : Hid ((u.alloc (.cells #[.bool false, .int .i64 0, .bool false, .int .i64 0, .bool false, .int .i64 0, .bool false, .int .i64 0, .bool false, .int .i64 0, .bool false, .int .i64 0, .bool false, .int .i64 0, .bool false] 82)).setCells u.heap.size 0 cs.toArray.toList = Y) := hY.symm
  have hBx : BoxL Y u.heap.size cs := by
    have h1 := HZ.out
    rw [hsz] at h1
    have h2 := World.rangeAt_setCells_same _ u.heap.size 0 cs h1
    have h3 := World.there_setCells h1 u.heap.size 0 cs
    rw [← hY] at h2 h3
    have hs : u.heap.size < Y.heap.size := by rw [hY]; exact Nat.lt_of_lt_of_le (by simp) (kept_setCells (A := fun _ => False) (b := u.heap.size) (fun h => h) (vs := cs) (o := 0)).1
    exact ⟨hs, fun i v hi => ⟨by have := h2 i v hi; rwa [Nat.zero_add] at this, by have := (h3 i (List.getElem?_eq_some_iff.1 hi).1).2; rwa [Nat.zero_add] at this⟩⟩
  have HN : Hid (PWt Y u.heap.size At Off ∧ Below u.heap.size u Y) := ⟨⟨h.la, h.lb, by rw [← hcs]; exact hBx⟩, by rw [hY]; exact below_setCells ((Below.refl _ _).alloc (Nat.le_refl _) _) (Nat.le_refl _)⟩
  clear h hcs hl hzs hY hBx hsz
  go_enter Try.func20, Try.ntmps20
  go_wp2_with fail
  refine hC.mono ?_
  rintro e u1 ⟨rfl, rfl⟩
  clear hC
  go_wp2_with (first | (refine wpList_load_mid rfl 82 _ rfl p 0 rfl cs _ HQ.out Try.underlying82 rfl HI.out ?_) | (refine wpList_store_mid rfl 82 _ _ rfl u1.heap.size 0 cs.toArray rfl rfl HZ.out HI2.out H1.out ?_; refine wpl_w13 HY.out ?_) | fail)
  --M3
  go_ret
  exact ⟨rfl, HN.out.1, HN.out.2⟩
end Go.Proofs.Ytnlmipgmakmbiaa
