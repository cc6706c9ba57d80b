/- Package fresh at a list of changes: a list of its own that holds the same. Condition: the list lies as is said of it. -/
import Derived.Test.YtnlmipgmakmbiaaWFrO
namespace Go.Proofs.Ytnlmipgmakmbiaa
open Go.RowKit
set_option linter.unusedSimpArgs false
set_option maxRecDepth 100000

/-- A member of a row: its cells, which may be written. -/
theorem row_mid13 {A : Where} {w0 u : World} {e : TypeId} {g n cap i : Nat} {L : List Ch} (h : Row RCh 42 A w0 u e (.slice (some ⟨g, 0, none⟩) n cap) L) (hi : i < L.length) : u.rangeAt g (i * 42) (chC (L.getD i default).1 (L.getD i default).2) ∧ u.there g (i * 42) 42 := by
  obtain ⟨xs, ⟨hb, hl, ⟨e1, _⟩ | ⟨g', cap', cur, e1, hBg, hg, hcp, hcm, hsz, htk⟩⟩, hch⟩ := h
  · cases e1
  simp only [Value.slice.injEq, Option.some.injEq, Addr.mk.injEq, and_true, true_and] at e1
  obtain ⟨rfl, rfl, rfl⟩ := e1
  obtain ⟨cs, hr, hv⟩ := hch.2 i hi
  obtain rfl : cs = chC (L.getD i default).1 (L.getD i default).2 := hr
  have hrange : u.rangeAt g (i * 42) (chC (L.getD i default).1 (L.getD i default).2) := by
    intro j v hj
    have hj42 : j < 42 := (List.getElem?_eq_some_iff.1 hj).1
    have h1 := hv j hj42
    rw [hj, ← htk, List.getElem?_take] at h1
    split at h1
    · rw [Array.getElem?_toList] at h1
      simp only [World.cell?, hg]
      exact h1
    · cases h1
  refine ⟨hrange, fun j hj => ?_⟩
  have hj' : j < (chC (L.getD i default).1 (L.getD i default).2).length := hj
  obtain ⟨v, hv⟩ : ∃ v, (chC (L.getD i default).1 (L.getD i default).2)[j]? = some v := ⟨_, List.getElem?_eq_getElem hj'⟩
  refine ⟨by rw [hrange j v hv]; rfl, ?_⟩
  simp [World.frozen?, hg]
set_option maxHeartbeats 1000000 in
theorem clone_ch (a : Option Addr) (n cap : Nat) (A : Where) (L : List Ch) (w : World) (hL : SlAt RCh 42 640 A w a n cap L) : Calls Try.prog 37 #[.slice a n cap] w fun e w' => ∃ v, e = .returned v ∧ Row RCh 42 (fun _ => False) w w' 76 v L := by
  have hb0 : Below w.heap.size w (w.alloc (.cells #[] 76)) := by go_grown
  rcases a with _ | ad
  · have hE := fun w => Lib.run_eql_slice_nil (P := Try.prog) w 28 76 none 0 0 0 0 Try.underlying28
    obtain ⟨rfl, rfl, rfl⟩ := sl_none hL
    have HP : Hid (Row RCh 42 (fun _ => False) w w 76 (.slice none 0 0) ([] : List Ch)) := Row.nil _ _ _
    clear hL
    go_enter Try.func37, Try.ntmps37
    go_wp2_with fail
    go_ret
    exact ⟨_, rfl, HP.out⟩
  · have hE := fun w => Lib.run_eql_slice_nil (P := Try.prog) w 28 76 (some ad) n cap 0 0 Try.underlying28
    obtain ⟨xs, hc, hcell, hone⟩ := (hL.on RCh.firm hb0).chunks RCh.firm
    have hn := hL.1
    have hbb := hL.2.2.2.1
    subst hn
    have HR : Hid (Row RCh 42 (fun _ => False) w (w.alloc (.cells #[] 76)) 76 (.slice (some ⟨w.heap.size, 0, none⟩) 0 0) ([] : List Ch)) := Row.start _ w w _ (Below.refl _ _)
    have HC : Hid (Chunks RCh 42 (fun b => (fun _ => False) b ∧ Value.ownBlock (.slice (some ⟨w.heap.size, 0, none⟩) 0 0) ≠ some b) (w.alloc (.cells #[] 76)) xs L) := hc
    have HX : Hid (∀ j y, xs[j]? = some y → (w.alloc (.cells #[] 76)).cell? (ad.add j) = some y) := hcell
    have HO : Hid (∀ y ∈ xs, y.oneCell' = true) := hone
    clear hc hcell hone hL
    go_enter Try.func37, Try.ntmps37
    go_wp2_with (at_builtin; go_must (refine row_append RCh.firm (A := fun _ => False) (w0 := w) rfl _ _ 28 76 rfl _ 640 infoCh Try.underlying28 rfl (by decide) (by decide) _ [] rfl HR.out ad L.length cap xs L rfl rfl HC.out HX.out HO.out (by simp; omega) ?_); intro v1 w1 hrow1 hg1)
    go_ret
    exact ⟨_, rfl, by simpa using hrow1⟩
set_option maxHeartbeats 1000000 in
theorem flat_ch (a : Option Addr) (n cap : Nat) (A : Where) (L : List Ch) (w : World) (hL : SlAt RCh 42 640 A w a n cap L) : Calls Try.prog 35 #[.slice a n cap] w fun e w' => ∃ v, e = .returned v ∧ Row RCh 42 (fun _ => False) w w' 76 v L := by
  have hC := clone_ch a n cap A L w hL
  have hlen := hL.len (by decide)
  by_cases h0 : n = 0
  · subst h0
    have hl : L = [] := List.length_eq_zero_iff.1 hL.1
    have HP : Hid (Row RCh 42 (fun _ => False) w w 76 (.slice none 0 0) L) := by rw [hl]; exact Row.nil _ _ _
    clear hC hL
    go_enter Try.func35, Try.ntmps35
    go_wp2_with fail
    go_ret
    exact ⟨_, rfl, HP.out⟩
  · have h1 : ¬ ((n : Int) = 0) := by omega
    clear hL
    go_enter Try.func35, Try.ntmps35
    go_wp2_with fail
    refine hC.mono ?_
    rintro e w2 ⟨v, rfl, hrow⟩
    clear hC
    go_wp2_with fail
    go_ret
    exact ⟨_, rfl, hrow⟩
abbrev chZ : List Value := .int .i64 0 :: .int .i64 0 :: objC 0
theorem wpl_w13 {P : Program} {ops : Array Oper} {Q : Exit → Act → World → Prop} {rest : List Oper} {a : Act} {u W : World} (h : u = W) (k : wpList P ops Q rest a W) : wpList P ops Q rest a u := h ▸ k
set_option maxHeartbeats 8000000 in
theorem each_ch (a : Option Addr) (n cap : Nat) (A : Where) (L : List Ch) (w : World) (hL : SlAt RCh 42 640 A w a n cap L) : Calls Try.prog 33 #[.slice a n cap, .func (.func 34) #[] #[]] w fun e w' => ∃ v, e = .returned v ∧ Row RCh 42 (fun _ => False) w w' 76 v L := by
  have hC := flat_ch a n cap A L w hL
  have hbb : Hid (L.length * 640 ≤ 140737488351232) := by rw [Hid, hL.1]; exact hL.2.2.2.1
  clear hL
  go_enter Try.func33, Try.ntmps33
  go_wp2_with fail
  refine hC.mono ?_
  rintro e w2 ⟨v, rfl, hrow⟩
  clear hC
  obtain ⟨a2, c2, rfl, s2⟩ := (hrow.wA13 RCh.firm (A' := Fresh w) (fun _ h => h.elim)).slF (bytes := 640) RCh.firm hbb.out
  have hlen := s2.len (by decide)
  have hn0 : Hid (0 < L.length → ∃ g, a2 = some ⟨g, 0, none⟩) := fun h0 => by
    obtain ⟨xs, ⟨hb, hl, ⟨e1, _⟩ | ⟨g', cap', cur, e1, _⟩⟩, _⟩ := hrow
    · simp only [Value.slice.injEq] at e1; omega
    · simp only [Value.slice.injEq] at e1; exact ⟨g', e1.1⟩
  have Hr : Hid (Row RCh 42 (fun _ => False) w w2 76 (.slice a2 L.length c2) L) := hrow
  have hln : L.length < 1000000000000 := by have := hbb.out; omega
  obtain ⟨m, hm⟩ : ∃ m, m = L.length := ⟨_, rfl⟩
  rw [← hm] at Hr hn0 hln hlen ⊢
  have Hm : Hid (m = L.length) := hm
  clear hrow s2 hbb hm
  go_wp2_with fail
  go_loopw [12] (fun i wr => ∃ k : Nat, k ≤ m ∧ i = .int .i64 k ∧ Below w2.heap.size w2 wr) (fun i _ => m - (intOf i).toNat)
  case atStart => exact ⟨0, Nat.zero_le _, rfl, Below.refl _ _⟩
  case round =>
    obtain ⟨k, hk, rfl, hbw⟩ := hrel
    by_cases hge : m ≤ k
    · obtain rfl : k = m := by omega
      have hltz : ¬ ((k : Int) < (k : Int)) := by omega
      have HF : Hid (Row RCh 42 (fun _ => False) w wr 76 (.slice a2 k c2) L) := Hr.out.on RCh.firm hbw
      go_wp2_with fail
      go_ret
      exact ⟨_, rfl, HF.out⟩
    · have hlt : k < m := by omega
      have hltz : (k : Int) < (m : Int) := by omega
      obtain ⟨g, rfl⟩ := hn0.out (by omega)
      obtain ⟨x, hx⟩ : ∃ x, x = L.getD k default := ⟨_, rfl⟩
      have HMid : Hid (∀ z, Below w2.heap.size w2 z → z.rangeAt g (k * 42) (chC x.1 x.2) ∧ z.there g (k * 42) 42) := fun z hz => by rw [hx]; exact row_mid13 (Hr.out.on RCh.firm hz) (by rw [← Hm.out]; exact hlt)
      have HQ : Hid (wr.rangeAt g (k * 42) (chC x.1 x.2)) := (HMid.out wr hbw).1
      have HI : Hid ((Try.prog.info? 76).map (·.size) = some (chC x.1 x.2).length) := sizeCh
      clear hx
      have HI2 : Hid ((Try.prog.info? 76).map (·.size) = some (chC x.1 x.2).toArray.size) := sizeCh
      have HZ3 : Hid ((wr.alloc (.cells chZ.toArray 76)).there wr.heap.size 0 (chC x.1 x.2).toArray.size) := (BoxL.new wr 76 chZ).there
      obtain ⟨W3, hW3⟩ : ∃ W, W = (wr.alloc (.cells chZ.toArray 76)).setCells wr.heap.size 0 (chC x.1 x.2) := ⟨_, rfl⟩
      have B3 : Below wr.heap.size wr W3 := by rw [hW3]; exact below_setCells ((Below.refl _ _).alloc (Nat.le_refl _) _) (Nat.le_refl _)
      have HQ3 : Hid (W3.rangeAt wr.heap.size 0 (chC x.1 x.2)) := by rw [hW3]; exact World.rangeAt_setCells_same _ _ _ _ HZ3.out
      have HW3 : Hid ((wr.alloc (.cells chZ.toArray 76)).setCells wr.heap.size 0 (chC x.1 x.2).toArray.toList = W3) := hW3.symm
      have hb3 : Below w2.heap.size w2 W3 := on2 hbw B3
      have hC := fr_change x.1 x.2 W3
      clear hW3 B3
      go_wp2_with (first | (refine wpList_load_mid rfl 76 _ rfl g (k * 42) (by go_simp) (chC x.1 x.2) _ HQ.out Try.underlying76 rfl HI.out ?_) | (refine wpList_store_mid rfl 76 _ _ rfl wr.heap.size 0 (chC x.1 x.2).toArray rfl rfl HZ3.out HI2.out (by simp [Value.oneCell']) ?_; refine wpl_w13 HW3.out ?_) | (refine wpList_load_mid rfl 76 _ rfl wr.heap.size 0 rfl (chC x.1 x.2) _ HQ3.out Try.underlying76 rfl HI.out ?_) | fail)
      --M1
      refine hC.mono ?_
      rintro e z ⟨rfl, dz⟩
      clear hC HQ HQ3 HW3 HZ3
      have hbz : Below w2.heap.size w2 z := on2 hb3 dz
      have HZ : Hid (z.there g (k * 42) (chC x.1 x.2).toArray.size) := (HMid.out z hbz).2
      have HE : Hid (z.setCells g (k * 42) (chC x.1 x.2).toArray.toList = z) := sets_same13 _ _ _ (HMid.out z hbz).1
      clear HMid hb3 dz
      --M2
      go_wp2_with (first | (refine wpList_store_mid rfl 76 _ _ rfl g (k * 42) (chC x.1 x.2).toArray (by go_simp) rfl HZ.out HI2.out (by simp [Value.oneCell']) ?_; rw [HE.out]) | fail)
      --M3
      go_roundw
      case rel => exact ⟨k + 1, by omega, by go_num, hbz⟩
      case measure => simp [intOf]; omega
theorem changes_calls (a : Option Addr) (n cap : Nat) (A : Where) (L : List Ch) (w : World) (hL : SlAt RCh 42 640 A w a n cap L) : Calls Try.prog 28 #[.slice a n cap] w fun e w' => ∃ v, e = .returned v ∧ Row RCh 42 (fun _ => False) w w' 76 v L := by
  have hC := each_ch a n cap A L w hL
  go_enter Try.func28, Try.ntmps28
  go_wp2_with fail
  refine hC.mono ?_
  rintro e w2 ⟨v, rfl, hrow⟩
  clear hC
  go_wp2_with fail
  go_ret
  exact ⟨_, rfl, hrow⟩
end Go.Proofs.Ytnlmipgmakmbiaa
