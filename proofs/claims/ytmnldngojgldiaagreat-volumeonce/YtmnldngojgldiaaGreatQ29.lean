/- The law's works of layer 10: the chapter's example. Condition: none beyond the program's contract. The law's once: has each claim, and each volume, a name of its own, not empty? Condition: the state lies as is said of it. -/
import Derived.Test.YtmnldngojgldiaaGreatQ28
import Derived.Test.YtmnldngojgldiaaGreatQ16
import Derived.Test.YtmnldngojgldiaaGreatQ20
namespace Go.Proofs.YtmnldngojgldiaaGreat
open Go.RowKit
set_option linter.unusedSimpArgs false
set_option maxRecDepth 100000

def wkS : StateD := ([], [], [(⟨#[97]⟩, 1000, ⟨#[107]⟩, [], B0), (⟨#[98]⟩, 3000, ⟨#[107]⟩, [], B0), (⟨#[100]⟩, 2000, ⟨#[107]⟩, [], B0)], [(⟨#[99]⟩, 2000, ⟨#[107]⟩, B0)], [(⟨#[107]⟩, true)], [])
def wkP : PodD := (⟨#[112]⟩, 0, [], (0, 0, 0), [], [], [], [], [], [], [], [⟨#[99]⟩], B0, B0)
def wkI (d : Int) : InfoD := ((B0, [], [], false, (0, 0, 0), 0, d), [], (0, 0, 0), [], [])
theorem wkN10 : (vNs (sVs wkS)).Nodup ∧ (pClm wkP).Nodup := by decide +kernel
theorem wk101 : planD wkP (wkI 1) wkS = ([(⟨#[99]⟩, ⟨#[100]⟩)], 0) := by kernel_rfl
theorem wk102 : planD wkP (wkI 0) wkS = ([], 15) := by kernel_rfl
theorem sl_nil10 {α : Type} [Inhabited α] {R : Rep α} {k bytes : Nat} (A : Where) (u : World) : SlAt R k bytes A u none 0 0 [] := ⟨rfl, Nat.le_refl _, fun _ => rfl, by omega, fun h => absurd h (Nat.lt_irrefl _)⟩
theorem sl_box10 {α : Type} [Inhabited α] {R : Rep α} {k bytes : Nat} {A : Where} {u : World} {B n : Nat} {cs : List Value} {L : List α} (hb : BoxL u B cs) (hA : A B) (hn : L.length = n) (hby : n * bytes ≤ 140737488351232) (h : ∀ i, i < n → ∃ ds, R A u ds (L.getD i default) ∧ ∀ j v, ds[j]? = some v → cs[i * k + j]? = some v) : SlAt R k bytes A u (some ⟨B, 0, none⟩) n n L :=
  ⟨hn, Nat.le_refl _, (fun e => by cases e), hby, fun _ => ⟨B, 0, rfl, hb.1, hA, fun i hi => by
    obtain ⟨ds, h1, h2⟩ := h i hi
    refine ⟨ds, h1, fun j v hj => ?_⟩
    have := (hb.2 _ _ (h2 j v hj)).1
    rwa [Nat.zero_add]⟩⟩
theorem bz10' (n : UInt8) : (⟨#[n]⟩ : ByteArray).size ≤ 140737488355328 := by show 1 ≤ _; omega
theorem one_str10 {u : World} {b : Nat} {n : UInt8} (q : BoxL u b [.string ⟨#[n]⟩]) : SlAt RStr 1 16 (fun _ => True) u (some ⟨b, 0, none⟩) 1 1 [⟨#[n]⟩] := sl_box10 q trivial rfl (by decide) (fun i hi => by
  obtain rfl : i = 0 := by omega
  exact ⟨_, ⟨rfl, bz10' n⟩, fun j v hj => by rw [Nat.zero_mul, Nat.zero_add]; exact hj⟩)
theorem bz10 (n : UInt8) : (⟨#[n]⟩ : ByteArray).size ≤ 140737488355328 := by show 1 ≤ _; omega
theorem bz0 : (B0 : ByteArray).size ≤ 140737488355328 := by decide
set_option maxHeartbeats 16000000 in
theorem works10_calls (w : World) : Calls Tryz.prog 5 #[] w fun e w' => e = .returned (.bool true) ∧ Below w.heap.size w w' := by
  obtain ⟨W1, hW1⟩ : ∃ W, W = w.alloc (.cells #[.string ⟨#[99]⟩, .int .i64 2000, .string ⟨#[107]⟩, .string ⟨#[]⟩] 44) := ⟨_, rfl⟩
  obtain ⟨W2, hW2⟩ : ∃ W, W = W1.alloc (.cells #[.string ⟨#[107]⟩, .bool true] 46) := ⟨_, rfl⟩
  obtain ⟨W3, hW3⟩ : ∃ W, W = W2.alloc (.cells #[.string ⟨#[97]⟩, .int .i64 1000, .string ⟨#[107]⟩, .slice none 0 0, .string ⟨#[]⟩, .string ⟨#[98]⟩, .int .i64 3000, .string ⟨#[107]⟩, .slice none 0 0, .string ⟨#[]⟩, .string ⟨#[100]⟩, .int .i64 2000, .string ⟨#[107]⟩, .slice none 0 0, .string ⟨#[]⟩] 49) := ⟨_, rfl⟩
  obtain ⟨W4, hW4⟩ : ∃ W, W = W3.alloc (.cells #[.slice none 0 0, .slice none 0 0, .slice (some ⟨w.heap.size + 1 + 1, 0, none⟩) 3 3, .slice (some ⟨w.heap.size, 0, none⟩) 1 1, .slice (some ⟨w.heap.size + 1, 0, none⟩) 1 1, .slice none 0 0] 29) := ⟨_, rfl⟩
  have B1 : Below w.heap.size w W1 := by rw [hW1]; go_grown
  have B2 : Below W1.heap.size W1 W2 := by rw [hW2]; go_grown
  have B3 : Below W2.heap.size W2 W3 := by rw [hW3]; go_grown
  have B4 : Below W3.heap.size W3 W4 := by rw [hW4]; go_grown
  have z1 : W1.heap.size = w.heap.size + 1 := by rw [hW1]; simp
  have z2 : W2.heap.size = w.heap.size + 1 + 1 := by rw [hW2]; simp [z1]
  have z3 : W3.heap.size = w.heap.size + 1 + 1 + 1 := by rw [hW3]; simp [z2]
  have z4 : W4.heap.size = w.heap.size + 1 + 1 + 1 + 1 := by rw [hW4]; simp [z3]
  have q1 : BoxL W4 w.heap.size [.string ⟨#[99]⟩, .int .i64 2000, .string ⟨#[107]⟩, .string ⟨#[]⟩] := by refine BoxL.on (BoxL.on (BoxL.on ?_ B2) B3) B4; rw [hW1]; exact BoxL.new w 44 _
  have q2 : BoxL W4 (w.heap.size + 1) [.string ⟨#[107]⟩, .bool true] := by refine BoxL.on (BoxL.on ?_ B3) B4; rw [← z1, hW2]; exact BoxL.new W1 46 _
  have q3 : BoxL W4 (w.heap.size + 1 + 1) [.string ⟨#[97]⟩, .int .i64 1000, .string ⟨#[107]⟩, .slice none 0 0, .string ⟨#[]⟩, .string ⟨#[98]⟩, .int .i64 3000, .string ⟨#[107]⟩, .slice none 0 0, .string ⟨#[]⟩, .string ⟨#[100]⟩, .int .i64 2000, .string ⟨#[107]⟩, .slice none 0 0, .string ⟨#[]⟩] := by refine BoxL.on ?_ B4; rw [← z2, hW3]; exact BoxL.new W2 49 _
  have q4 : BoxL W4 (w.heap.size + 1 + 1 + 1) [.slice none 0 0, .slice none 0 0, .slice (some ⟨w.heap.size + 1 + 1, 0, none⟩) 3 3, .slice (some ⟨w.heap.size, 0, none⟩) 1 1, .slice (some ⟨w.heap.size + 1, 0, none⟩) 1 1, .slice none 0 0] := by rw [← z3, hW4]; exact BoxL.new W3 29 _
  have BB : Below w.heap.size w W4 := on2 (on2 (on2 B1 B2) B3) B4
  have hv : ∀ n s, RVolume (fun _ => True) W4 [.string ⟨#[n]⟩, .int .i64 s, .string ⟨#[107]⟩, .slice none 0 0, .string ⟨#[]⟩] (⟨#[n]⟩, s, ⟨#[107]⟩, [], B0) := fun n s => RVolume.mk (x := (⟨#[n]⟩, s, ⟨#[107]⟩, [], B0)) (h3 := (none, 0, 0)) (bz10 n) (bz10 _) (sl_nil10 _ _) bz0
  have sV : SlAt RVolume 5 80 (fun _ => True) W4 (some ⟨w.heap.size + 1 + 1, 0, none⟩) 3 3 wkS.2.2.1 := sl_box10 q3 trivial rfl (by decide) (fun i hi => by
    match i, hi with
    | 0, _ => exact ⟨_, hv 97 1000, fun j v hj => by match j, hj with | 0, hj => exact hj | 1, hj => exact hj | 2, hj => exact hj | 3, hj => exact hj | 4, hj => exact hj | _ + 5, hj => simp at hj⟩
    | 1, _ => exact ⟨_, hv 98 3000, fun j v hj => by match j, hj with | 0, hj => exact hj | 1, hj => exact hj | 2, hj => exact hj | 3, hj => exact hj | 4, hj => exact hj | _ + 5, hj => simp at hj⟩
    | 2, _ => exact ⟨_, hv 100 2000, fun j v hj => by match j, hj with | 0, hj => exact hj | 1, hj => exact hj | 2, hj => exact hj | 3, hj => exact hj | 4, hj => exact hj | _ + 5, hj => simp at hj⟩)
  have sC : SlAt RClaim 4 56 (fun _ => True) W4 (some ⟨w.heap.size, 0, none⟩) 1 1 wkS.2.2.2.1 := sl_box10 q1 trivial rfl (by decide) (fun i hi => by
    obtain rfl : i = 0 := by omega
    exact ⟨_, RClaim.mk (x := (⟨#[99]⟩, 2000, ⟨#[107]⟩, B0)) (bz10 _) (bz10 _) bz0, fun j v hj => by rw [Nat.zero_mul, Nat.zero_add]; exact hj⟩)
  have sK : SlAt RClass 2 24 (fun _ => True) W4 (some ⟨w.heap.size + 1, 0, none⟩) 1 1 wkS.2.2.2.2.1 := sl_box10 q2 trivial rfl (by decide) (fun i hi => by
    obtain rfl : i = 0 := by omega
    exact ⟨_, RClass.mk (x := (⟨#[107]⟩, true)) (bz10 _), fun j v hj => by rw [Nat.zero_mul, Nat.zero_add]; exact hj⟩)
  have hS : RState (fun _ => True) W4 [.slice none 0 0, .slice none 0 0, .slice (some ⟨w.heap.size + 1 + 1, 0, none⟩) 3 3, .slice (some ⟨w.heap.size, 0, none⟩) 1 1, .slice (some ⟨w.heap.size + 1, 0, none⟩) 1 1, .slice none 0 0] wkS := RState.mk (x := wkS) (h0 := (none, 0, 0)) (h1 := (none, 0, 0)) (h2 := (some ⟨w.heap.size + 1 + 1, 0, none⟩, 3, 3)) (h3 := (some ⟨w.heap.size, 0, none⟩, 1, 1)) (h4 := (some ⟨w.heap.size + 1, 0, none⟩, 1, 1)) (h5 := (none, 0, 0)) (sl_nil10 _ _) (sl_nil10 _ _) sV sC sK (sl_nil10 _ _)
  have HU : Hid (∀ u, Below W4.heap.size W4 u → RState (fun _ => True) u [.slice none 0 0, .slice none 0 0, .slice (some ⟨w.heap.size + 1 + 1, 0, none⟩) 3 3, .slice (some ⟨w.heap.size, 0, none⟩) 1 1, .slice (some ⟨w.heap.size + 1, 0, none⟩) 1 1, .slice none 0 0] wkS ∧ BoxL u (w.heap.size + 1 + 1 + 1) [.slice none 0 0, .slice none 0 0, .slice (some ⟨w.heap.size + 1 + 1, 0, none⟩) 3 3, .slice (some ⟨w.heap.size, 0, none⟩) 1 1, .slice (some ⟨w.heap.size + 1, 0, none⟩) 1 1, .slice none 0 0] ∧ Below w.heap.size w u) := fun u hb => ⟨RState.firm.kept hS (Kept.below hb), q4.on hb, on2 BB hb⟩
  have HPd : Hid (∀ u b, BoxL u b [.string ⟨#[99]⟩] → RPod (fun _ => True) u [.string ⟨#[112]⟩, .int .i64 0, .slice none 0 0, .int .i64 0, .int .i64 0, .int .i64 0, .slice none 0 0, .slice none 0 0, .slice none 0 0, .slice none 0 0, .slice none 0 0, .slice none 0 0, .slice none 0 0, .slice (some ⟨b, 0, none⟩) 1 1, .string ⟨#[]⟩, .string ⟨#[]⟩] wkP) := fun u b q => RPod.mk (x := wkP) (h2 := (none, 0, 0)) (h6 := (none, 0, 0)) (h7 := (none, 0, 0)) (h8 := (none, 0, 0)) (h9 := (none, 0, 0)) (h10 := (none, 0, 0)) (h11 := (none, 0, 0)) (h12 := (none, 0, 0)) (h13 := (some ⟨b, 0, none⟩, 1, 1)) (bz10 _) (sl_nil10 _ _) (sl_nil10 _ _) (sl_nil10 _ _) (sl_nil10 _ _) (sl_nil10 _ _) (sl_nil10 _ _) (sl_nil10 _ _) (sl_nil10 _ _) (one_str10 q) bz0 bz0
  have HIn : Hid (∀ u d, RInfo (fun _ => True) u [.string ⟨#[]⟩, .slice none 0 0, .slice none 0 0, .bool false, .int .i64 0, .int .i64 0, .int .i64 0, .int .i64 0, .int .i64 d, .slice none 0 0, .int .i64 0, .int .i64 0, .int .i64 0, .slice none 0 0, .slice none 0 0] (wkI d)) := fun u d => RInfo.mk (x := wkI d) (h1 := (none, 0, 0)) (h2 := (none, 0, 0)) (h9 := (none, 0, 0)) (h13 := (none, 0, 0)) (h14 := (none, 0, 0)) bz0 (sl_nil10 _ _) (sl_nil10 _ _) (sl_nil10 _ _) (sl_nil10 _ _) (sl_nil10 _ _)
  clear hv sV sC sK hS q1 q2 q3 q4 B1 B2 B3 B4 BB z1 z2 z3
  go_enter Tryz.func5, Tryz.ntmps5
  go_upto_region 2 with fail
  rw [← hW1, ← hW2, ← hW3, ← hW4]
  clear hW1 hW2 hW3 hW4
  obtain ⟨W5, hW5⟩ : ∃ W, W = W4.alloc (.cells #[.string ⟨#[99]⟩] 9) := ⟨_, rfl⟩
  have B5 : Below W4.heap.size W4 W5 := by rw [hW5]; go_grown
  have q5 : BoxL W5 W4.heap.size [.string ⟨#[99]⟩] := by rw [hW5]; exact BoxL.new W4 9 _
  rw [z4] at q5
  obtain ⟨hS5, qS5, _⟩ := HU.out W5 B5
  have HC1 := pPlan_calls [.string ⟨#[112]⟩, .int .i64 0, .slice none 0 0, .int .i64 0, .int .i64 0, .int .i64 0, .slice none 0 0, .slice none 0 0, .slice none 0 0, .slice none 0 0, .slice none 0 0, .slice none 0 0, .slice none 0 0, .slice (some ⟨(w.heap.size + 1 + 1 + 1 + 1), 0, none⟩) 1 1, .string ⟨#[]⟩, .string ⟨#[]⟩] wkP [.string ⟨#[]⟩, .slice none 0 0, .slice none 0 0, .bool false, .int .i64 0, .int .i64 0, .int .i64 0, .int .i64 0, .int .i64 1, .slice none 0 0, .int .i64 0, .int .i64 0, .int .i64 0, .slice none 0 0, .slice none 0 0] (wkI 1) [.slice none 0 0, .slice none 0 0, .slice (some ⟨w.heap.size + 1 + 1, 0, none⟩) 3 3, .slice (some ⟨w.heap.size, 0, none⟩) 1 1, .slice (some ⟨w.heap.size + 1, 0, none⟩) 1 1, .slice none 0 0] wkS W5 (HPd.out W5 _ q5) (HIn.out W5 1) hS5 wkN10
  rw [wk101] at HC1
  have HW5 : Hid (W5 = W4.alloc (.cells #[.string ⟨#[99]⟩] 9)) := hW5
  have HR5 : Hid (W5.rangeAt (w.heap.size + 1 + 1 + 1) 0 [.slice none 0 0, .slice none 0 0, .slice (some ⟨w.heap.size + 1 + 1, 0, none⟩) 3 3, .slice (some ⟨w.heap.size, 0, none⟩) 1 1, .slice (some ⟨w.heap.size + 1, 0, none⟩) 1 1, .slice none 0 0]) := qS5.range
  have hi6 : (Tryz.prog.info? 29).map (·.size) = some ([.slice none 0 0, .slice none 0 0, .slice (some ⟨w.heap.size + 1 + 1, 0, none⟩) 3 3, .slice (some ⟨w.heap.size, 0, none⟩) 1 1, .slice (some ⟨w.heap.size + 1, 0, none⟩) 1 1, .slice none 0 0] : List Value).length := by kernel_rfl
  have HB5 : Hid (Below W4.heap.size W4 W5) := B5
  clear hS5 qS5 q5 B5 hW5
  go_wp2_with (first | (refine wpl_w8 HW5.out ?_; refine wpList_load_mid rfl 29 _ rfl (w.heap.size + 1 + 1 + 1) 0 rfl [.slice none 0 0, .slice none 0 0, .slice (some ⟨w.heap.size + 1 + 1, 0, none⟩) 3 3, .slice (some ⟨w.heap.size, 0, none⟩) 1 1, .slice (some ⟨w.heap.size + 1, 0, none⟩) 1 1, .slice none 0 0] _ HR5.out Tryz.underlying29 rfl hi6 ?_) | fail)
  refine HC1.mono ?_
  rintro e u1 ⟨p1, p2, p3, rfl, sp, bu1⟩
  clear HC1 HW5 HR5
  have b41 : Below W4.heap.size W4 u1 := on2 HB5.out bu1
  obtain ⟨W6, hW6⟩ : ∃ W, W = u1.alloc (.cells #[.string ⟨#[99]⟩] 9) := ⟨_, rfl⟩
  have B6 : Below u1.heap.size u1 W6 := by rw [hW6]; go_grown
  have q6 : BoxL W6 u1.heap.size [.string ⟨#[99]⟩] := by rw [hW6]; exact BoxL.new u1 9 _
  obtain ⟨hS6, qS6, _⟩ := HU.out W6 (on2 b41 B6)
  have HC2 := pPlan_calls [.string ⟨#[112]⟩, .int .i64 0, .slice none 0 0, .int .i64 0, .int .i64 0, .int .i64 0, .slice none 0 0, .slice none 0 0, .slice none 0 0, .slice none 0 0, .slice none 0 0, .slice none 0 0, .slice none 0 0, .slice (some ⟨u1.heap.size, 0, none⟩) 1 1, .string ⟨#[]⟩, .string ⟨#[]⟩] wkP [.string ⟨#[]⟩, .slice none 0 0, .slice none 0 0, .bool false, .int .i64 0, .int .i64 0, .int .i64 0, .int .i64 0, .int .i64 0, .slice none 0 0, .int .i64 0, .int .i64 0, .int .i64 0, .slice none 0 0, .slice none 0 0] (wkI 0) [.slice none 0 0, .slice none 0 0, .slice (some ⟨w.heap.size + 1 + 1, 0, none⟩) 3 3, .slice (some ⟨w.heap.size, 0, none⟩) 1 1, .slice (some ⟨w.heap.size + 1, 0, none⟩) 1 1, .slice none 0 0] wkS W6 (HPd.out W6 _ q6) (HIn.out W6 0) hS6 wkN10
  rw [wk102] at HC2
  have HW6 : Hid (W6 = u1.alloc (.cells #[.string ⟨#[99]⟩] 9)) := hW6
  have HR6 : Hid (W6.rangeAt (w.heap.size + 1 + 1 + 1) 0 [.slice none 0 0, .slice none 0 0, .slice (some ⟨w.heap.size + 1 + 1, 0, none⟩) 3 3, .slice (some ⟨w.heap.size, 0, none⟩) 1 1, .slice (some ⟨w.heap.size + 1, 0, none⟩) 1 1, .slice none 0 0]) := qS6.range
  have HSp : Hid (∀ u, Below u1.heap.size u1 u → SlAt RLabel 2 32 (fun _ => True) u p1 p2 p3 [(⟨#[99]⟩, ⟨#[100]⟩)] ∧ Below w.heap.size w u) := fun u hb => ⟨sp.on RLabel.firm hb, (HU.out u (on2 b41 hb)).2.2⟩
  have HB6 : Hid (Below u1.heap.size u1 W6) := B6
  clear hS6 qS6 q6 B6 hW6 sp bu1 b41 HB5
  go_wp2_with (first | (refine wpl_w8 HW6.out ?_; refine wpList_load_mid rfl 29 _ rfl (w.heap.size + 1 + 1 + 1) 0 rfl [.slice none 0 0, .slice none 0 0, .slice (some ⟨w.heap.size + 1 + 1, 0, none⟩) 3 3, .slice (some ⟨w.heap.size, 0, none⟩) 1 1, .slice (some ⟨w.heap.size + 1, 0, none⟩) 1 1, .slice none 0 0] _ HR6.out Tryz.underlying29 rfl hi6 ?_) | fail)
  refine HC2.mono ?_
  rintro e u2 ⟨r1, r2, r3, rfl, _, bu2⟩
  clear HC2 HW6 HR6
  obtain ⟨W7, hW7⟩ : ∃ W, W = u2.alloc (.cells #[.string ⟨#[99]⟩, .string ⟨#[100]⟩] 39) := ⟨_, rfl⟩
  have B7 : Below u2.heap.size u2 W7 := by rw [hW7]; go_grown
  have q7 : BoxL W7 u2.heap.size [.string ⟨#[99]⟩, .string ⟨#[100]⟩] := by rw [hW7]; exact BoxL.new u2 39 _
  obtain ⟨s7, b7⟩ := HSp.out W7 (on2 (on2 HB6.out bu2) B7)
  have t7 : SlAt RLabel 2 32 (fun _ => True) W7 (some ⟨u2.heap.size, 0, none⟩) 1 1 [(⟨#[99]⟩, ⟨#[100]⟩)] := sl_box10 q7 trivial rfl (by decide) (fun i hi => by
    obtain rfl : i = 0 := by omega
    exact ⟨_, RLabel.mk (x := (⟨#[99]⟩, ⟨#[100]⟩)) (bz10 _) (bz10 _), fun j v hj => by rw [Nat.zero_mul, Nat.zero_add]; exact hj⟩)
  have HC3 := SamePicks_calls p1 p2 p3 _ _ (some ⟨u2.heap.size, 0, none⟩) 1 1 _ _ W7 s7 t7
  have HB7 : Hid (Below w.heap.size w W7) := b7
  have HW7 : Hid (W7 = u2.alloc (.cells #[.string ⟨#[99]⟩, .string ⟨#[100]⟩] 39)) := hW7
  clear s7 b7 t7 q7 B7 bu2 HB6 HSp
  simp only [decide_true] at HC3
  go_wp2_with fail
  rw [← hW7]
  clear hW7 HW7
  refine HC3.mono ?_
  rintro e u3 ⟨rfl, q, rfl⟩
  clear HC3
  go_wp2_with fail
  go_ret
  exact ⟨rfl, on2 HB7.out (below_drewN9 _ _)⟩
end Go.Proofs.YtmnldngojgldiaaGreat
namespace Go.Proofs.YtmnldngojgldiaaGreat
open Go.RowKit
set_option linter.unusedSimpArgs false
set_option maxRecDepth 100000

/-- Two rows of texts side by side. -/
def TwoS (w0 u : World) (v1 v2 : Value) (l1 l2 : List ByteArray) : Prop :=
  Row RStr 1 (fun _ => False) w0 u 9 v1 l1 ∧ Row RStr 1 (fun _ => False) w0 u 9 v2 l2 ∧ ∀ b, v1.ownBlock = some b → v2.ownBlock ≠ some b
theorem TwoS.on {w0 u u' : World} {v1 v2 : Value} {o l : List ByteArray} (h : TwoS w0 u v1 v2 o l) (hb : Below u.heap.size u u') : TwoS w0 u' v1 v2 o l := ⟨h.1.on RStr.firm hb, h.2.1.on RStr.firm hb, h.2.2⟩
theorem TwoS.start {w0 : World} : TwoS w0 ((w0.alloc (.cells #[] 9)).alloc (.cells #[] 9)) (.slice (some ⟨w0.heap.size, 0, none⟩) 0 0) (.slice (some ⟨w0.heap.size + 1, 0, none⟩) 0 0) [] [] := by
  have h1 : Row RStr 1 (fun _ => False) w0 (w0.alloc (.cells #[] 9)) 9 (.slice (some ⟨w0.heap.size, 0, none⟩) 0 0) [] := Row.start _ w0 w0 _ (Below.refl _ _)
  have h2 : Row RStr 1 (fun _ => False) w0 ((w0.alloc (.cells #[] 9)).alloc (.cells #[] 9)) 9 (.slice (some ⟨(w0.alloc (.cells #[] 9)).heap.size, 0, none⟩) 0 0) [] := Row.start _ w0 _ _ h1.below
  refine ⟨h1.on RStr.firm ((Below.refl _ _).alloc (Nat.le_refl _) _), by simpa using h2, fun b hb hc => ?_⟩
  simp only [Value.ownBlock, Option.some.injEq] at hb hc
  omega
theorem TwoS.fst {w0 u u' : World} {v1 v2 v1' : Value} {o o' l : List ByteArray} (h : TwoS w0 u v1 v2 o l) (hr : Row RStr 1 (fun _ => False) w0 u' 9 v1' o') (hg : u.grownBy u' v1.ownBlock) (hw : v1'.ownBlock = v1.ownBlock ∨ v1'.ownBlock = some u.heap.size) : TwoS w0 u' v1' v2 o' l := by
  obtain ⟨h1, h2, h3⟩ := h
  refine ⟨hr, h2.grown RStr.firm hg (fun b hb => ⟨(h1.lt hb).1, h3 b hb, id⟩), fun b hb => ?_⟩
  rcases hw with hw | hw
  · exact h3 b (hw ▸ hb)
  · rw [hw] at hb
    injection hb with hb
    subst hb
    exact fun e => by have := (h2.lt e).2; omega
theorem TwoS.snd {w0 u u' : World} {v1 v2 v2' : Value} {o l l' : List ByteArray} (h : TwoS w0 u v1 v2 o l) (hr : Row RStr 1 (fun _ => False) w0 u' 9 v2' l') (hg : u.grownBy u' v2.ownBlock) (hw : v2'.ownBlock = v2.ownBlock ∨ v2'.ownBlock = some u.heap.size) : TwoS w0 u' v1 v2' o l' := by
  obtain ⟨h1, h2, h3⟩ := h
  refine ⟨h1.grown RStr.firm hg (fun b hb => ⟨(h2.lt hb).1, fun e => h3 b e hb, id⟩), hr, fun b hb => ?_⟩
  rcases hw with hw | hw
  · rw [hw]; exact h3 b hb
  · rw [hw]
    intro e
    injection e with e
    have := (h1.lt hb).2
    omega
def OnOut (w : World) (st : VC) (e : Ending) (w' : World) : Prop := ∃ b : Bool, e = .returned (.bool b) ∧ (b = true ↔ OnceP st) ∧ Below w.heap.size w w'
set_option maxHeartbeats 16000000 in
theorem once10_calls (cs : List Value) (A : Where) (x : StateD) (w : World) (h : Hid (RState A w cs x)) :
    Calls Tryz.prog 6 #[.agg cs.toArray] w (OnOut w (stVC x)) := by
  obtain ⟨⟨a0, n0, m0⟩, ⟨a1, n1, m1⟩, ⟨a2, n2, m2⟩, ⟨a3, n3, m3⟩, ⟨a4, n4, m4⟩, ⟨a5, n5, m5⟩, rfl, s0, s1, s2, s3, s4, s5⟩ := h.out.out
  simp only at s2 s3
  obtain ⟨W1, hW1⟩ : ∃ W, W = w.alloc (.cells #[.slice a0 n0 m0, .slice a1 n1 m1, .slice a2 n2 m2, .slice a3 n3 m3, .slice a4 n4 m4, .slice a5 n5 m5] 29) := ⟨_, rfl⟩
  have B1 : Below w.heap.size w W1 := by rw [hW1]; go_grown
  have z1 : W1.heap.size = w.heap.size + 1 := by rw [hW1]; simp
  have qx : BoxL W1 w.heap.size [.slice a0 n0 m0, .slice a1 n1 m1, .slice a2 n2 m2, .slice a3 n3 m3, .slice a4 n4 m4, .slice a5 n5 m5] := by rw [hW1]; exact BoxL.new w 29 _
  have hl2 : Hid ((sVs x).length = n2) := s2.1
  have hl3 : Hid ((sCs x).length = n3) := s3.1
  have hb2 : Hid (n2 * 80 ≤ 140737488351232) := s2.2.2.2.1
  have hb3 : Hid (n3 * 56 ≤ 140737488351232) := s3.2.2.2.1
  have hlen2 := s2.len (by decide)
  have hlen3 := s3.len (by decide)
  have HU2 : Hid (∀ u, Below W1.heap.size W1 u → u.cell? ⟨w.heap.size, 2, none⟩ = some (.slice a2 n2 m2) ∧ SlAt RVolume 5 80 A u a2 n2 m2 (sVs x)) := fun u hb => ⟨((qx.on hb).2 2 _ rfl).1, s2.on RVolume.firm (on2 B1 hb)⟩
  have HU3 : Hid (∀ u, Below W1.heap.size W1 u → u.cell? ⟨w.heap.size, 3, none⟩ = some (.slice a3 n3 m3) ∧ SlAt RClaim 4 56 A u a3 n3 m3 (sCs x)) := fun u hb => ⟨((qx.on hb).2 3 _ rfl).1, s3.on RClaim.firm (on2 B1 hb)⟩
  have HB : Hid (Below w.heap.size w W1) := B1
  have HT3 : Hid (TwoS W1 ((W1.alloc (.cells #[] 9)).alloc (.cells #[] 9)) (.slice (some ⟨W1.heap.size, 0, none⟩) 0 0) (.slice (some ⟨W1.heap.size + 1, 0, none⟩) 0 0) [] []) := TwoS.start
  rw [z1] at HT3
  have HSt : Hid (stVC x = (sVs x, sCs x)) := rfl
  clear h s0 s1 s2 s3 s4 s5 qx B1
  obtain ⟨W2, hW2⟩ : ∃ W, W = (W1.alloc (.cells #[] 9)).alloc (.cells #[] 9) := ⟨_, rfl⟩
  rw [← hW2] at HT3
  show Calls Tryz.prog 6 _ w (OnOut w (sVs x, sCs x))
  clear HSt
  generalize sVs x = V at *
  generalize sCs x = C at *
  go_enter Tryz.func6, Tryz.ntmps6
  go_upto_region 1 with fail
  rw [← hW1]
  clear hW1
  go_upto_region 2 with fail
  rw [← hW2]
  clear hW2
  go_wp2_with fail
  go_loopw [3, 5] (fun va j wr => ∃ k : Nat, k ≤ n3 ∧ j = .int .i64 k ∧ Hid (TwoS W1 wr va (.slice (some ⟨w.heap.size + 1 + 1, 0, none⟩) 0 0) ((cNs C).take k) [] ∧ ((cNs C).take k).Nodup ∧ B0 ∉ (cNs C).take k)) (fun _ j _ => n3 - (intOf j).toNat)
  case atStart => exact ⟨0, Nat.zero_le _, rfl, HT3.out, List.nodup_nil, by simp⟩
  case round =>
    obtain ⟨k, hk, rfl, hrun⟩ := hrel
    obtain ⟨htw, hnd, hnb⟩ := hrun.out
    have hbr := htw.1.below
    obtain ⟨y3, yl⟩ := HU3.out wr hbr
    by_cases hlt : k < n3
    · have hltz : (k : Int) < (n3 : Int) := by omega
      have hkl : k < (cNs C).length := by rw [map_len9, hl3.out]; exact hlt
      obtain ⟨B, off, hBe, hB, _, ys, hr, hv⟩ := yl.get hlt
      have hsz : (C.getD k default).1.size ≤ 140737488355328 := by obtain ⟨_, h1, _⟩ := hr.out; exact h1
      have d0 := hv 0 _ hr.four.1
      rw [Nat.add_zero] at d0
      rw [hBe] at y3
      have hnm : (cNs C).getD k default = (C.getD k default).1 := map_getD9 _ (by rw [hl3.out]; exact hlt)
      have hto : (cNs C).take (k + 1) = (cNs C).take k ++ [(C.getD k default).1] := by rw [List.take_succ_eq_append_getElem hkl, ← hnm, List.getD_eq_getElem?_getD, List.getElem?_eq_getElem hkl]; rfl
      have HNo : Hid (((C.getD k default).1 = B0 ∨ (C.getD k default).1 ∈ (cNs C).take k) → ¬ OnceP (V, C)) := fun hq ho => by
        have hmem : (C.getD k default).1 ∈ cNs C := by rw [← hnm, List.getD_eq_getElem?_getD, List.getElem?_eq_getElem hkl]; exact List.getElem_mem hkl
        rcases hq with hq | hq
        · exact ho.2.1 (hq ▸ hmem)
        · have h1 : ((cNs C).take (k + 1)).Nodup := (List.take_sublist _ _).nodup ho.1
          rw [hto, List.nodup_append] at h1
          exact h1.2.2 _ hq _ (by simp) rfl
      have HYes : Hid (¬ ((C.getD k default).1 = B0) → (C.getD k default).1 ∉ (cNs C).take k → ((cNs C).take (k + 1)).Nodup ∧ B0 ∉ (cNs C).take (k + 1)) := fun h1 h2 => by
        rw [hto]
        refine ⟨List.nodup_append.2 ⟨hnd, by simp, fun a ha b hb => by rw [List.mem_singleton] at hb; subst hb; exact fun e => h2 (e ▸ ha)⟩, fun hm => ?_⟩
        rcases List.mem_append.1 hm with hm | hm
        · exact hnb hm
        · rw [List.mem_singleton] at hm; exact h1 hm.symm
      have HTo : Hid ((cNs C).take (k + 1) = (cNs C).take k ++ [(C.getD k default).1]) := hto
      have hob : ((cNs C).take k).length * 16 ≤ 140737488351232 := by rw [List.length_take]; have h1 := hb3.out; omega
      have hol : ((cNs C).take k).length ≤ k := by rw [List.length_take]; omega
      obtain ⟨pa, pl, pcap, hpe, psl⟩ := htw.1.sl10 (bytes := 16) RStr.firm hob
      subst hpe
      have HHas := Has_calls pa pl pcap _ ((cNs C).take k) (C.getD k default).1 wr psl
      have HTw : Hid (TwoS W1 wr (.slice pa pl pcap) (.slice (some ⟨w.heap.size + 1 + 1, 0, none⟩) 0 0) ((cNs C).take k) []) := htw
      have hhas : hasB sEq ((cNs C).take k) (C.getD k default).1 = true ↔ (C.getD k default).1 ∈ (cNs C).take k := by
        unfold hasB
        rw [List.any_eq_true]
        exact ⟨fun ⟨z, hz, he⟩ => (sEq_iff _ _).1 he ▸ hz, fun hz => ⟨_, hz, (sEq_iff _ _).2 rfl⟩⟩
      have HBw : Hid (Below w.heap.size w wr) := on2 HB.out hbr
      clear hrun htw hnd hnb hr hv yl hBe hnm hto hob psl
      generalize (cNs C).take k = Pre at HHas HTw hhas HNo HYes HTo hol
      generalize (C.getD k default).1 = v at d0 HHas hhas HNo HYes HTo hsz
      have hq1 : v.toList.isEmpty = sEq v B0 := isE9 _
      cases he1 : sEq v B0
      case true =>
        rw [he1] at hq1
        have hno := HNo.out (.inl ((sEq_iff _ _).1 he1))
        clear HNo HYes HTo
        go_wp2_with fail
        go_ret
        exact ⟨false, rfl, ⟨fun h => (by cases h), fun h => absurd h hno⟩, HBw.out⟩
      case false =>
        rw [he1] at hq1
        have hne := sEq_ne9.1 he1
        cases he2 : hasB sEq Pre v
        case true =>
          rw [he2] at HHas
          have hno := HNo.out (.inr (hhas.1 he2))
          clear HNo HYes HTo hhas hne
          go_wp2_with fail
          refine HHas.mono ?_
          rintro e u1 ⟨rfl, rfl⟩
          go_wp2_with fail
          go_ret
          exact ⟨false, rfl, ⟨fun h => (by cases h), fun h => absurd h hno⟩, HBw.out⟩
        case false =>
          rw [he2] at HHas
          have hys := HYes.out hne (fun hm => by rw [hhas.2 hm] at he2; cases he2)
          have HYs : Hid (((cNs C).take (k + 1)).Nodup ∧ B0 ∉ (cNs C).take (k + 1)) := hys
          clear HNo HYes hhas hne hys
          have bV : Below wr.heap.size wr (wr.alloc (.cells #[.string v] 9)) := (Below.refl _ _).alloc (Nat.le_refl _) _
          have HTV : Hid (TwoS W1 (wr.alloc (.cells #[.string v] 9)) (.slice pa pl pcap) (.slice (some ⟨w.heap.size + 1 + 1, 0, none⟩) 0 0) Pre []) := HTw.out.on bV
          have HSr : Hid (Src RStr 1 (fun b => (fun _ => False) b ∧ (Value.slice pa pl pcap).ownBlock ≠ some b) (wr.alloc (.cells #[.string v] 9)) (some ⟨wr.heap.size, 0, none⟩) 1 [v]) := src_one10 RStr.firm RStr.flat (BoxL.new wr 9 [.string v]) ⟨rfl, hsz⟩
          have HOb : Hid ((Pre.length + [v].length) * 16 ≤ 140737488355328) := by have h2 := hb3.out; rw [Hid, List.length_singleton]; omega
          clear bV HTw
          go_wp2_with fail
          refine HHas.mono ?_
          rintro e u1 ⟨rfl, rfl⟩
          clear HHas
          go_wp2_with (at_builtin; go_must (refine row_appendP RStr.firm (A := (fun _ => False)) (w0 := W1) rfl _ _ 41 9 rfl _ 16 infoS10 Tryz.underlying41 rfl (by decide) (by decide) (.slice pa pl pcap) Pre rfl HTV.out.1 (some ⟨_, 0, none⟩) 1 1 [v] rfl HSr.out HOb.out ?_); intro v7 u7 hr7 hg7 hw7)
          have HN : Hid (TwoS W1 u7 v7 (.slice (some ⟨w.heap.size + 1 + 1, 0, none⟩) 0 0) ((cNs C).take (k + 1)) [] ∧ ((cNs C).take (k + 1)).Nodup ∧ B0 ∉ (cNs C).take (k + 1)) := ⟨by rw [HTo.out]; exact HTV.out.fst hr7 hg7 hw7, HYs.out⟩
          clear hr7 hg7 hw7 HTV HSr HOb HTo HYs
          go_roundw
          case rel => exact ⟨k + 1, by omega, by go_num, HN⟩
          case measure => simp [intOf]; omega
    · have htk : (cNs C).take k = cNs C := List.take_of_length_le (by rw [map_len9, hl3.out]; omega)
      rw [htk] at htw hnd hnb
      clear hrun htk yl
      have HC3 : Hid ((cNs C).Nodup ∧ B0 ∉ cNs C) := ⟨hnd, hnb⟩
      have HT2 : Hid (TwoS W1 wr u3 (.slice (some ⟨w.heap.size + 1 + 1, 0, none⟩) 0 0) (cNs C) ((vNs V).take 0)) := htw
      clear htw hnd hnb HT3
      go_wp2_with fail
      clear y3
      go_loopw [4, 6] (fun va j wr => ∃ k : Nat, k ≤ n2 ∧ j = .int .i64 k ∧ Hid (TwoS W1 wr u3 va (cNs C) ((vNs V).take k) ∧ ((vNs V).take k).Nodup ∧ B0 ∉ (vNs V).take k)) (fun _ j _ => n2 - (intOf j).toNat)
      case atStart => exact ⟨0, Nat.zero_le _, rfl, HT2.out, List.nodup_nil, by simp⟩
      case round =>
        obtain ⟨k, hk, rfl, hrun⟩ := hrel
        obtain ⟨htw, hnd, hnb⟩ := hrun.out
        have hbr := htw.1.below
        obtain ⟨y2, yl⟩ := HU2.out wr hbr
        by_cases hlt : k < n2
        · have hltz : (k : Int) < (n2 : Int) := by omega
          have hkl : k < (vNs V).length := by rw [map_len9, hl2.out]; exact hlt
          obtain ⟨B, off, hBe, hB, _, ys, hr, hv⟩ := yl.get hlt
          have hsz : (V.getD k default).1.size ≤ 140737488355328 := by obtain ⟨_, _, h1, _⟩ := hr.out; exact h1
          have d0 := hv 0 _ hr.five.1
          rw [Nat.add_zero] at d0
          rw [hBe] at y2
          have hnm : (vNs V).getD k default = (V.getD k default).1 := map_getD9 _ (by rw [hl2.out]; exact hlt)
          have hto : (vNs V).take (k + 1) = (vNs V).take k ++ [(V.getD k default).1] := by rw [List.take_succ_eq_append_getElem hkl, ← hnm, List.getD_eq_getElem?_getD, List.getElem?_eq_getElem hkl]; rfl
          have HNo : Hid (((V.getD k default).1 = B0 ∨ (V.getD k default).1 ∈ (vNs V).take k) → ¬ OnceP (V, C)) := fun hq ho => by
            have hmem : (V.getD k default).1 ∈ vNs V := by rw [← hnm, List.getD_eq_getElem?_getD, List.getElem?_eq_getElem hkl]; exact List.getElem_mem hkl
            rcases hq with hq | hq
            · exact ho.2.2.2 (hq ▸ hmem)
            · have h1 : ((vNs V).take (k + 1)).Nodup := (List.take_sublist _ _).nodup ho.2.2.1
              rw [hto, List.nodup_append] at h1
              exact h1.2.2 _ hq _ (by simp) rfl
          have HYes : Hid (¬ ((V.getD k default).1 = B0) → (V.getD k default).1 ∉ (vNs V).take k → ((vNs V).take (k + 1)).Nodup ∧ B0 ∉ (vNs V).take (k + 1)) := fun h1 h2 => by
            rw [hto]
            refine ⟨List.nodup_append.2 ⟨hnd, by simp, fun a ha b hb => by rw [List.mem_singleton] at hb; subst hb; exact fun e => h2 (e ▸ ha)⟩, fun hm => ?_⟩
            rcases List.mem_append.1 hm with hm | hm
            · exact hnb hm
            · rw [List.mem_singleton] at hm; exact h1 hm.symm
          have HTo : Hid ((vNs V).take (k + 1) = (vNs V).take k ++ [(V.getD k default).1]) := hto
          have hob : ((vNs V).take k).length * 16 ≤ 140737488351232 := by rw [List.length_take]; have h1 := hb2.out; omega
          have hol : ((vNs V).take k).length ≤ k := by rw [List.length_take]; omega
          obtain ⟨pa, pl, pcap, hpe, psl⟩ := htw.2.1.sl10 (bytes := 16) RStr.firm hob
          subst hpe
          have HHas := Has_calls pa pl pcap _ ((vNs V).take k) (V.getD k default).1 wr psl
          have HTw : Hid (TwoS W1 wr u3 (.slice pa pl pcap) (cNs C) ((vNs V).take k)) := htw
          have hhas : hasB sEq ((vNs V).take k) (V.getD k default).1 = true ↔ (V.getD k default).1 ∈ (vNs V).take k := by
            unfold hasB
            rw [List.any_eq_true]
            exact ⟨fun ⟨z, hz, he⟩ => (sEq_iff _ _).1 he ▸ hz, fun hz => ⟨_, hz, (sEq_iff _ _).2 rfl⟩⟩
          have HBw : Hid (Below w.heap.size w wr) := on2 HB.out hbr
          clear hrun htw hnd hnb hr hv yl hBe hnm hto hob psl
          generalize (vNs V).take k = Pre at HHas HTw hhas HNo HYes HTo hol
          generalize (V.getD k default).1 = v at d0 HHas hhas HNo HYes HTo hsz
          have hq1 : v.toList.isEmpty = sEq v B0 := isE9 _
          cases he1 : sEq v B0
          case true =>
            rw [he1] at hq1
            have hno := HNo.out (.inl ((sEq_iff _ _).1 he1))
            clear HNo HYes HTo
            go_wp2_with fail
            go_ret
            exact ⟨false, rfl, ⟨fun h => (by cases h), fun h => absurd h hno⟩, HBw.out⟩
          case false =>
            rw [he1] at hq1
            have hne := sEq_ne9.1 he1
            cases he2 : hasB sEq Pre v
            case true =>
              rw [he2] at HHas
              have hno := HNo.out (.inr (hhas.1 he2))
              clear HNo HYes HTo hhas hne
              go_wp2_with fail
              refine HHas.mono ?_
              rintro e u1 ⟨rfl, rfl⟩
              go_wp2_with fail
              go_ret
              exact ⟨false, rfl, ⟨fun h => (by cases h), fun h => absurd h hno⟩, HBw.out⟩
            case false =>
              rw [he2] at HHas
              have hys := HYes.out hne (fun hm => by rw [hhas.2 hm] at he2; cases he2)
              have HYs : Hid (((vNs V).take (k + 1)).Nodup ∧ B0 ∉ (vNs V).take (k + 1)) := hys
              clear HNo HYes hhas hne hys
              have bV : Below wr.heap.size wr (wr.alloc (.cells #[.string v] 9)) := (Below.refl _ _).alloc (Nat.le_refl _) _
              have HTV : Hid (TwoS W1 (wr.alloc (.cells #[.string v] 9)) u3 (.slice pa pl pcap) (cNs C) Pre) := HTw.out.on bV
              have HSr : Hid (Src RStr 1 (fun b => (fun _ => False) b ∧ (Value.slice pa pl pcap).ownBlock ≠ some b) (wr.alloc (.cells #[.string v] 9)) (some ⟨wr.heap.size, 0, none⟩) 1 [v]) := src_one10 RStr.firm RStr.flat (BoxL.new wr 9 [.string v]) ⟨rfl, hsz⟩
              have HOb : Hid ((Pre.length + [v].length) * 16 ≤ 140737488355328) := by have h2 := hb2.out; rw [Hid, List.length_singleton]; omega
              clear bV HTw
              go_wp2_with fail
              refine HHas.mono ?_
              rintro e u1 ⟨rfl, rfl⟩
              clear HHas
              go_wp2_with (at_builtin; go_must (refine row_appendP RStr.firm (A := (fun _ => False)) (w0 := W1) rfl _ _ 41 9 rfl _ 16 infoS10 Tryz.underlying41 rfl (by decide) (by decide) (.slice pa pl pcap) Pre rfl HTV.out.2.1 (some ⟨_, 0, none⟩) 1 1 [v] rfl HSr.out HOb.out ?_); intro v7 u7 hr7 hg7 hw7)
              have HN : Hid (TwoS W1 u7 u3 v7 (cNs C) ((vNs V).take (k + 1)) ∧ ((vNs V).take (k + 1)).Nodup ∧ B0 ∉ (vNs V).take (k + 1)) := ⟨by rw [HTo.out]; exact HTV.out.snd hr7 hg7 hw7, HYs.out⟩
              clear hr7 hg7 hw7 HTV HSr HOb HTo HYs
              go_roundw
              case rel => exact ⟨k + 1, by omega, by go_num, HN⟩
              case measure => simp [intOf]; omega
        · have htk : (vNs V).take k = vNs V := List.take_of_length_le (by rw [map_len9, hl2.out]; omega)
          rw [htk] at htw hnd hnb
          clear hrun htk yl
          have hon : OnceP (V, C) := ⟨HC3.out.1, HC3.out.2, hnd, hnb⟩
          have HBw : Hid (Below w.heap.size w wr) := on2 HB.out hbr
          clear htw hnd hnb
          go_wp2_with fail
          go_ret
          exact ⟨true, rfl, ⟨fun _ => hon, fun _ => rfl⟩, HBw.out⟩
end Go.Proofs.YtmnldngojgldiaaGreat
