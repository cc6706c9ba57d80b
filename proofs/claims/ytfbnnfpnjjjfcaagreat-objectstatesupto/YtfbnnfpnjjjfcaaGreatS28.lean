/- Objects that are right, as plain functions, and its like. No condition beyond what each says. -/
import Derived.Lib.Overlaps
import Derived.Lib.AppendZerosOnto
import Derived.Lib.SliceRun
import Derived.Lib.JoinLaws
import Derived.Laws.Externs
import Derived.Laws.IdiomCopy
import Derived.Deep.RegionLaw
import Derived.Maps.AppendAt
import Derived.Test.YtfbnnfpnjjjfcaaGreatS23
namespace Go.Proofs.YtfbnnfpnjjjfcaaGreat
set_option maxHeartbeats 16000000
set_option maxRecDepth 100000
open Tryz Go.RowKit
set_option linter.unusedSimpArgs false
def rightO (x : ObjectD) : Bool := if x.1 = 1 then rightPod x.2.1 else if x.1 = 2 then rightNode x.2.2.1 else if x.1 = 3 then rightVolume x.2.2.2.1 else if x.1 = 4 then rightClaim x.2.2.2.2.1 else if x.1 = 5 then rightClass x.2.2.2.2.2.1 else if x.1 = 6 then rightBudget x.2.2.2.2.2.2 else false
def checkO (x : ObjectD) : Int := if 1 ≤ x.1 ∧ x.1 ≤ 6 then (if rightO x && othersB x then 0 else 40) else 2
def nameO (x : ObjectD) : ByteArray := if x.1 = 1 then x.2.1.1 else if x.1 = 2 then x.2.2.1.1 else if x.1 = 3 then x.2.2.2.1.1 else if x.1 = 4 then x.2.2.2.2.1.1 else if x.1 = 5 then x.2.2.2.2.2.1.1 else if x.1 = 6 then x.2.2.2.2.2.2.1 else ⟨#[]⟩
theorem kindOf_Pod (w : World) : Calls prog 33 #[.int .i64 1] w fun e w' => e = .returned (.tuple #[.iface 136 (.agg #[.iface 132 (.agg #[])]), .bool true]) ∧ Below w.heap.size w w' := by
 go_enter func33, ntmps33
 go_wp2_with fail
 refine (kinds_calls _).mono ?_
 rintro e u1 ⟨rfl, rfl⟩
 go_wp2_with fail
 go_ret2
 exact ⟨rfl, by go_grown⟩
theorem kindOf_Node (w : World) : Calls prog 33 #[.int .i64 2] w fun e w' => e = .returned (.tuple #[.iface 141 (.agg #[.iface 137 (.agg #[])]), .bool true]) ∧ Below w.heap.size w w' := by
 go_enter func33, ntmps33
 go_wp2_with fail
 refine (kinds_calls _).mono ?_
 rintro e u1 ⟨rfl, rfl⟩
 go_wp2_with fail
 go_ret2
 exact ⟨rfl, by go_grown⟩
theorem kindOf_Volume (w : World) : Calls prog 33 #[.int .i64 3] w fun e w' => e = .returned (.tuple #[.iface 146 (.agg #[.iface 142 (.agg #[])]), .bool true]) ∧ Below w.heap.size w w' := by
 go_enter func33, ntmps33
 go_wp2_with fail
 refine (kinds_calls _).mono ?_
 rintro e u1 ⟨rfl, rfl⟩
 go_wp2_with fail
 go_ret2
 exact ⟨rfl, by go_grown⟩
theorem kindOf_Claim (w : World) : Calls prog 33 #[.int .i64 4] w fun e w' => e = .returned (.tuple #[.iface 151 (.agg #[.iface 147 (.agg #[])]), .bool true]) ∧ Below w.heap.size w w' := by
 go_enter func33, ntmps33
 go_wp2_with fail
 refine (kinds_calls _).mono ?_
 rintro e u1 ⟨rfl, rfl⟩
 go_wp2_with fail
 go_ret2
 exact ⟨rfl, by go_grown⟩
theorem kindOf_Class (w : World) : Calls prog 33 #[.int .i64 5] w fun e w' => e = .returned (.tuple #[.iface 156 (.agg #[.iface 152 (.agg #[])]), .bool true]) ∧ Below w.heap.size w w' := by
 go_enter func33, ntmps33
 go_wp2_with fail
 refine (kinds_calls _).mono ?_
 rintro e u1 ⟨rfl, rfl⟩
 go_wp2_with fail
 go_ret2
 exact ⟨rfl, by go_grown⟩
theorem kindOf_Budget (w : World) : Calls prog 33 #[.int .i64 6] w fun e w' => e = .returned (.tuple #[.iface 161 (.agg #[.iface 157 (.agg #[])]), .bool true]) ∧ Below w.heap.size w w' := by
 go_enter func33, ntmps33
 go_wp2_with fail
 refine (kinds_calls _).mono ?_
 rintro e u1 ⟨rfl, rfl⟩
 go_wp2_with fail
 go_ret2
 exact ⟨rfl, by go_grown⟩
theorem kindOf_no (n : Int) (w : World) (h : ¬ (1 ≤ n ∧ n ≤ 6)) : Calls prog 33 #[.int .i64 n] w fun e w' => e = .returned (.tuple #[.nilIface, .bool false]) ∧ Below w.heap.size w w' := by
 by_cases h1 : n < 1
 ·
  go_enter func33, ntmps33
  go_wp2_with fail
  go_ret2
  exact ⟨rfl, Below.refl _ _⟩
 ·
  have h2 : (6 : Int) < n := by omega
  have h3 : decide (n < 1) = false := by simp [h1]
  go_enter func33, ntmps33
  go_wp2_with fail
  go_ret2
  exact ⟨rfl, Below.refl _ _⟩
theorem Check_Pod (cs : List Value) (A : Where) (x : ObjectD) (w : World) (h : RObject A w cs x) (hk : x.1 = 1) : Calls prog 9 #[.agg cs.toArray] w fun e w' => e = .returned (.int .i64 (checkO x)) ∧ Below w.heap.size w w' := by
 have hi : (prog.info? 46).map (·.size) = some cs.length := by rw [RObject.firm.len h]; exact infoObj
 have HX : Hid (RObject A w cs x) := h
 have H0 : Hid (cs[0]? = some (.int .i64 1)) := by rw [Hid, obj0 h, hk]
 obtain ⟨r, hr⟩ : ∃ r, rightPod x.2.1 = r := ⟨_, rfl⟩
 obtain ⟨q, hq⟩ : ∃ q, othersB x = q := ⟨_, rfl⟩
 have HF : Hid (checkO x = if r && q then 0 else 40) := by rw [Hid, checkO, if_pos (by rw [hk]; decide), ← hq, ← hr]; simp [rightO, hk]
 have HA : Hid (∀ u, Below w.heap.size w u → Calls prog 159 #[.agg #[.iface 132 (.agg #[])], .agg cs.toArray] u fun e w' => e = .returned (.bool r) ∧ Below u.heap.size u w') := fun u hu => by rw [← hr]; exact Pod_oright cs A x u (RObject.firm.kept h (Kept.below hu))
 have HB : Hid (∀ u, Below w.heap.size w u → Calls prog 34 #[.agg cs.toArray] u fun e w' => e = .returned (.bool q) ∧ Below u.heap.size u w') := fun u hu => by rw [← hq]; exact othersBlank_calls cs A x u (RObject.firm.kept h (Kept.below hu))
 obtain ⟨U0, hU0⟩ : ∃ U0, U0 = w.alloc (.cells cs.toArray 46) := ⟨_, rfl⟩
 have HH0 : Hid (Held w [(w.heap.size, cs)] [] U0) := by rw [Hid, hU0]; exact (Held.start w).push rfl cs _
 have HZ : Hid ((w.alloc (.cells cs.toArray 46)).cell? ⟨w.heap.size, 0, none⟩ = some (.int .i64 1)) := by have := HH0.out.cell 0 (b := w.heap.size) rfl 0 H0.out; rw [hU0] at this; exact this
 have hz := HZ.out
 clear h hk hr hq HX
 go_enter func9, ntmps9
 go_wp2_with fail
 clear hz HZ
 rw [← hU0]
 clear hU0
 refine (kindOf_Pod _).mono ?_
 rintro e u1 ⟨rfl, hb1⟩
 have HH1 : Hid (Held w [(w.heap.size, cs)] [] u1) := HH0.out.on hb1
 have HR1 : Hid (u1.rangeAt w.heap.size 0 cs) := HH1.out.get 0 rfl
 clear HH0 hb1
 go_wp2_with (first | (refine BigFrame.wpList_want rfl (fun _ hKK => wp_load_mid 46 _ rfl w.heap.size 0 rfl cs _ HR1.out underlying46 rfl hi (hKK _ _ ?_))) | fail)
 refine (HA.out _ HH1.out.below).mono ?_
 rintro e u2 ⟨rfl, hb2⟩
 have HH2 : Hid (Held w [(w.heap.size, cs)] [] u2) := HH1.out.on hb2
 have HR2 : Hid (u2.rangeAt w.heap.size 0 cs) := HH2.out.get 0 rfl
 clear HH1 hb2 HA HR1
 cases r
 ·
  clear HB
  go_wp2_with fail
  go_ret
  exact ⟨reti (by rw [HF.out] <;> simp), HH2.out.below⟩
 ·
  go_wp2_with (first | (refine BigFrame.wpList_want rfl (fun _ hKK => wp_load_mid 46 _ rfl w.heap.size 0 rfl cs _ HR2.out underlying46 rfl hi (hKK _ _ ?_))) | fail)
  refine (HB.out _ HH2.out.below).mono ?_
  rintro e u3 ⟨rfl, hb3⟩
  clear HB
  cases q
  ·
   go_wp2_with fail
   go_ret
   exact ⟨reti (by rw [HF.out] <;> simp), on2 HH2.out.below hb3⟩
  ·
   go_wp2_with fail
   go_ret
   exact ⟨reti (by rw [HF.out] <;> simp), on2 HH2.out.below hb3⟩
theorem Check_Node (cs : List Value) (A : Where) (x : ObjectD) (w : World) (h : RObject A w cs x) (hk : x.1 = 2) : Calls prog 9 #[.agg cs.toArray] w fun e w' => e = .returned (.int .i64 (checkO x)) ∧ Below w.heap.size w w' := by
 have hi : (prog.info? 46).map (·.size) = some cs.length := by rw [RObject.firm.len h]; exact infoObj
 have HX : Hid (RObject A w cs x) := h
 have H0 : Hid (cs[0]? = some (.int .i64 2)) := by rw [Hid, obj0 h, hk]
 obtain ⟨r, hr⟩ : ∃ r, rightNode x.2.2.1 = r := ⟨_, rfl⟩
 obtain ⟨q, hq⟩ : ∃ q, othersB x = q := ⟨_, rfl⟩
 have HF : Hid (checkO x = if r && q then 0 else 40) := by rw [Hid, checkO, if_pos (by rw [hk]; decide), ← hq, ← hr]; simp [rightO, hk]
 have HA : Hid (∀ u, Below w.heap.size w u → Calls prog 196 #[.agg #[.iface 137 (.agg #[])], .agg cs.toArray] u fun e w' => e = .returned (.bool r) ∧ Below u.heap.size u w') := fun u hu => by rw [← hr]; exact Node_oright cs A x u (RObject.firm.kept h (Kept.below hu))
 have HB : Hid (∀ u, Below w.heap.size w u → Calls prog 34 #[.agg cs.toArray] u fun e w' => e = .returned (.bool q) ∧ Below u.heap.size u w') := fun u hu => by rw [← hq]; exact othersBlank_calls cs A x u (RObject.firm.kept h (Kept.below hu))
 obtain ⟨U0, hU0⟩ : ∃ U0, U0 = w.alloc (.cells cs.toArray 46) := ⟨_, rfl⟩
 have HH0 : Hid (Held w [(w.heap.size, cs)] [] U0) := by rw [Hid, hU0]; exact (Held.start w).push rfl cs _
 have HZ : Hid ((w.alloc (.cells cs.toArray 46)).cell? ⟨w.heap.size, 0, none⟩ = some (.int .i64 2)) := by have := HH0.out.cell 0 (b := w.heap.size) rfl 0 H0.out; rw [hU0] at this; exact this
 have hz := HZ.out
 clear h hk hr hq HX
 go_enter func9, ntmps9
 go_wp2_with fail
 clear hz HZ
 rw [← hU0]
 clear hU0
 refine (kindOf_Node _).mono ?_
 rintro e u1 ⟨rfl, hb1⟩
 have HH1 : Hid (Held w [(w.heap.size, cs)] [] u1) := HH0.out.on hb1
 have HR1 : Hid (u1.rangeAt w.heap.size 0 cs) := HH1.out.get 0 rfl
 clear HH0 hb1
 go_wp2_with (first | (refine BigFrame.wpList_want rfl (fun _ hKK => wp_load_mid 46 _ rfl w.heap.size 0 rfl cs _ HR1.out underlying46 rfl hi (hKK _ _ ?_))) | fail)
 refine (HA.out _ HH1.out.below).mono ?_
 rintro e u2 ⟨rfl, hb2⟩
 have HH2 : Hid (Held w [(w.heap.size, cs)] [] u2) := HH1.out.on hb2
 have HR2 : Hid (u2.rangeAt w.heap.size 0 cs) := HH2.out.get 0 rfl
 clear HH1 hb2 HA HR1
 cases r
 ·
  clear HB
  go_wp2_with fail
  go_ret
  exact ⟨reti (by rw [HF.out] <;> simp), HH2.out.below⟩
 ·
  go_wp2_with (first | (refine BigFrame.wpList_want rfl (fun _ hKK => wp_load_mid 46 _ rfl w.heap.size 0 rfl cs _ HR2.out underlying46 rfl hi (hKK _ _ ?_))) | fail)
  refine (HB.out _ HH2.out.below).mono ?_
  rintro e u3 ⟨rfl, hb3⟩
  clear HB
  cases q
  ·
   go_wp2_with fail
   go_ret
   exact ⟨reti (by rw [HF.out] <;> simp), on2 HH2.out.below hb3⟩
  ·
   go_wp2_with fail
   go_ret
   exact ⟨reti (by rw [HF.out] <;> simp), on2 HH2.out.below hb3⟩
theorem Check_Volume (cs : List Value) (A : Where) (x : ObjectD) (w : World) (h : RObject A w cs x) (hk : x.1 = 3) : Calls prog 9 #[.agg cs.toArray] w fun e w' => e = .returned (.int .i64 (checkO x)) ∧ Below w.heap.size w w' := by
 have hi : (prog.info? 46).map (·.size) = some cs.length := by rw [RObject.firm.len h]; exact infoObj
 have HX : Hid (RObject A w cs x) := h
 have H0 : Hid (cs[0]? = some (.int .i64 3)) := by rw [Hid, obj0 h, hk]
 obtain ⟨r, hr⟩ : ∃ r, rightVolume x.2.2.2.1 = r := ⟨_, rfl⟩
 obtain ⟨q, hq⟩ : ∃ q, othersB x = q := ⟨_, rfl⟩
 have HF : Hid (checkO x = if r && q then 0 else 40) := by rw [Hid, checkO, if_pos (by rw [hk]; decide), ← hq, ← hr]; simp [rightO, hk]
 have HA : Hid (∀ u, Below w.heap.size w u → Calls prog 227 #[.agg #[.iface 142 (.agg #[])], .agg cs.toArray] u fun e w' => e = .returned (.bool r) ∧ Below u.heap.size u w') := fun u hu => by rw [← hr]; exact Volume_oright cs A x u (RObject.firm.kept h (Kept.below hu))
 have HB : Hid (∀ u, Below w.heap.size w u → Calls prog 34 #[.agg cs.toArray] u fun e w' => e = .returned (.bool q) ∧ Below u.heap.size u w') := fun u hu => by rw [← hq]; exact othersBlank_calls cs A x u (RObject.firm.kept h (Kept.below hu))
 obtain ⟨U0, hU0⟩ : ∃ U0, U0 = w.alloc (.cells cs.toArray 46) := ⟨_, rfl⟩
 have HH0 : Hid (Held w [(w.heap.size, cs)] [] U0) := by rw [Hid, hU0]; exact (Held.start w).push rfl cs _
 have HZ : Hid ((w.alloc (.cells cs.toArray 46)).cell? ⟨w.heap.size, 0, none⟩ = some (.int .i64 3)) := by have := HH0.out.cell 0 (b := w.heap.size) rfl 0 H0.out; rw [hU0] at this; exact this
 have hz := HZ.out
 clear h hk hr hq HX
 go_enter func9, ntmps9
 go_wp2_with fail
 clear hz HZ
 rw [← hU0]
 clear hU0
 refine (kindOf_Volume _).mono ?_
 rintro e u1 ⟨rfl, hb1⟩
 have HH1 : Hid (Held w [(w.heap.size, cs)] [] u1) := HH0.out.on hb1
 have HR1 : Hid (u1.rangeAt w.heap.size 0 cs) := HH1.out.get 0 rfl
 clear HH0 hb1
 go_wp2_with (first | (refine BigFrame.wpList_want rfl (fun _ hKK => wp_load_mid 46 _ rfl w.heap.size 0 rfl cs _ HR1.out underlying46 rfl hi (hKK _ _ ?_))) | fail)
 refine (HA.out _ HH1.out.below).mono ?_
 rintro e u2 ⟨rfl, hb2⟩
 have HH2 : Hid (Held w [(w.heap.size, cs)] [] u2) := HH1.out.on hb2
 have HR2 : Hid (u2.rangeAt w.heap.size 0 cs) := HH2.out.get 0 rfl
 clear HH1 hb2 HA HR1
 cases r
 ·
  clear HB
  go_wp2_with fail
  go_ret
  exact ⟨reti (by rw [HF.out] <;> simp), HH2.out.below⟩
 ·
  go_wp2_with (first | (refine BigFrame.wpList_want rfl (fun _ hKK => wp_load_mid 46 _ rfl w.heap.size 0 rfl cs _ HR2.out underlying46 rfl hi (hKK _ _ ?_))) | fail)
  refine (HB.out _ HH2.out.below).mono ?_
  rintro e u3 ⟨rfl, hb3⟩
  clear HB
  cases q
  ·
   go_wp2_with fail
   go_ret
   exact ⟨reti (by rw [HF.out] <;> simp), on2 HH2.out.below hb3⟩
  ·
   go_wp2_with fail
   go_ret
   exact ⟨reti (by rw [HF.out] <;> simp), on2 HH2.out.below hb3⟩
theorem Check_Claim (cs : List Value) (A : Where) (x : ObjectD) (w : World) (h : RObject A w cs x) (hk : x.1 = 4) : Calls prog 9 #[.agg cs.toArray] w fun e w' => e = .returned (.int .i64 (checkO x)) ∧ Below w.heap.size w w' := by
 have hi : (prog.info? 46).map (·.size) = some cs.length := by rw [RObject.firm.len h]; exact infoObj
 have HX : Hid (RObject A w cs x) := h
 have H0 : Hid (cs[0]? = some (.int .i64 4)) := by rw [Hid, obj0 h, hk]
 obtain ⟨r, hr⟩ : ∃ r, rightClaim x.2.2.2.2.1 = r := ⟨_, rfl⟩
 obtain ⟨q, hq⟩ : ∃ q, othersB x = q := ⟨_, rfl⟩
 have HF : Hid (checkO x = if r && q then 0 else 40) := by rw [Hid, checkO, if_pos (by rw [hk]; decide), ← hq, ← hr]; simp [rightO, hk]
 have HA : Hid (∀ u, Below w.heap.size w u → Calls prog 258 #[.agg #[.iface 147 (.agg #[])], .agg cs.toArray] u fun e w' => e = .returned (.bool r) ∧ Below u.heap.size u w') := fun u hu => by rw [← hr]; exact Claim_oright cs A x u (RObject.firm.kept h (Kept.below hu))
 have HB : Hid (∀ u, Below w.heap.size w u → Calls prog 34 #[.agg cs.toArray] u fun e w' => e = .returned (.bool q) ∧ Below u.heap.size u w') := fun u hu => by rw [← hq]; exact othersBlank_calls cs A x u (RObject.firm.kept h (Kept.below hu))
 obtain ⟨U0, hU0⟩ : ∃ U0, U0 = w.alloc (.cells cs.toArray 46) := ⟨_, rfl⟩
 have HH0 : Hid (Held w [(w.heap.size, cs)] [] U0) := by rw [Hid, hU0]; exact (Held.start w).push rfl cs _
 have HZ : Hid ((w.alloc (.cells cs.toArray 46)).cell? ⟨w.heap.size, 0, none⟩ = some (.int .i64 4)) := by have := HH0.out.cell 0 (b := w.heap.size) rfl 0 H0.out; rw [hU0] at this; exact this
 have hz := HZ.out
 clear h hk hr hq HX
 go_enter func9, ntmps9
 go_wp2_with fail
 clear hz HZ
 rw [← hU0]
 clear hU0
 refine (kindOf_Claim _).mono ?_
 rintro e u1 ⟨rfl, hb1⟩
 have HH1 : Hid (Held w [(w.heap.size, cs)] [] u1) := HH0.out.on hb1
 have HR1 : Hid (u1.rangeAt w.heap.size 0 cs) := HH1.out.get 0 rfl
 clear HH0 hb1
 go_wp2_with (first | (refine BigFrame.wpList_want rfl (fun _ hKK => wp_load_mid 46 _ rfl w.heap.size 0 rfl cs _ HR1.out underlying46 rfl hi (hKK _ _ ?_))) | fail)
 refine (HA.out _ HH1.out.below).mono ?_
 rintro e u2 ⟨rfl, hb2⟩
 have HH2 : Hid (Held w [(w.heap.size, cs)] [] u2) := HH1.out.on hb2
 have HR2 : Hid (u2.rangeAt w.heap.size 0 cs) := HH2.out.get 0 rfl
 clear HH1 hb2 HA HR1
 cases r
 ·
  clear HB
  go_wp2_with fail
  go_ret
  exact ⟨reti (by rw [HF.out] <;> simp), HH2.out.below⟩
 ·
  go_wp2_with (first | (refine BigFrame.wpList_want rfl (fun _ hKK => wp_load_mid 46 _ rfl w.heap.size 0 rfl cs _ HR2.out underlying46 rfl hi (hKK _ _ ?_))) | fail)
  refine (HB.out _ HH2.out.below).mono ?_
  rintro e u3 ⟨rfl, hb3⟩
  clear HB
  cases q
  ·
   go_wp2_with fail
   go_ret
   exact ⟨reti (by rw [HF.out] <;> simp), on2 HH2.out.below hb3⟩
  ·
   go_wp2_with fail
   go_ret
   exact ⟨reti (by rw [HF.out] <;> simp), on2 HH2.out.below hb3⟩
theorem Check_Class (cs : List Value) (A : Where) (x : ObjectD) (w : World) (h : RObject A w cs x) (hk : x.1 = 5) : Calls prog 9 #[.agg cs.toArray] w fun e w' => e = .returned (.int .i64 (checkO x)) ∧ Below w.heap.size w w' := by
 have hi : (prog.info? 46).map (·.size) = some cs.length := by rw [RObject.firm.len h]; exact infoObj
 have HX : Hid (RObject A w cs x) := h
 have H0 : Hid (cs[0]? = some (.int .i64 5)) := by rw [Hid, obj0 h, hk]
 obtain ⟨r, hr⟩ : ∃ r, rightClass x.2.2.2.2.2.1 = r := ⟨_, rfl⟩
 obtain ⟨q, hq⟩ : ∃ q, othersB x = q := ⟨_, rfl⟩
 have HF : Hid (checkO x = if r && q then 0 else 40) := by rw [Hid, checkO, if_pos (by rw [hk]; decide), ← hq, ← hr]; simp [rightO, hk]
 have HA : Hid (∀ u, Below w.heap.size w u → Calls prog 289 #[.agg #[.iface 152 (.agg #[])], .agg cs.toArray] u fun e w' => e = .returned (.bool r) ∧ Below u.heap.size u w') := fun u hu => by rw [← hr]; exact Class_oright cs A x u (RObject.firm.kept h (Kept.below hu))
 have HB : Hid (∀ u, Below w.heap.size w u → Calls prog 34 #[.agg cs.toArray] u fun e w' => e = .returned (.bool q) ∧ Below u.heap.size u w') := fun u hu => by rw [← hq]; exact othersBlank_calls cs A x u (RObject.firm.kept h (Kept.below hu))
 obtain ⟨U0, hU0⟩ : ∃ U0, U0 = w.alloc (.cells cs.toArray 46) := ⟨_, rfl⟩
 have HH0 : Hid (Held w [(w.heap.size, cs)] [] U0) := by rw [Hid, hU0]; exact (Held.start w).push rfl cs _
 have HZ : Hid ((w.alloc (.cells cs.toArray 46)).cell? ⟨w.heap.size, 0, none⟩ = some (.int .i64 5)) := by have := HH0.out.cell 0 (b := w.heap.size) rfl 0 H0.out; rw [hU0] at this; exact this
 have hz := HZ.out
 clear h hk hr hq HX
 go_enter func9, ntmps9
 go_wp2_with fail
 clear hz HZ
 rw [← hU0]
 clear hU0
 refine (kindOf_Class _).mono ?_
 rintro e u1 ⟨rfl, hb1⟩
 have HH1 : Hid (Held w [(w.heap.size, cs)] [] u1) := HH0.out.on hb1
 have HR1 : Hid (u1.rangeAt w.heap.size 0 cs) := HH1.out.get 0 rfl
 clear HH0 hb1
 go_wp2_with (first | (refine BigFrame.wpList_want rfl (fun _ hKK => wp_load_mid 46 _ rfl w.heap.size 0 rfl cs _ HR1.out underlying46 rfl hi (hKK _ _ ?_))) | fail)
 refine (HA.out _ HH1.out.below).mono ?_
 rintro e u2 ⟨rfl, hb2⟩
 have HH2 : Hid (Held w [(w.heap.size, cs)] [] u2) := HH1.out.on hb2
 have HR2 : Hid (u2.rangeAt w.heap.size 0 cs) := HH2.out.get 0 rfl
 clear HH1 hb2 HA HR1
 cases r
 ·
  clear HB
  go_wp2_with fail
  go_ret
  exact ⟨reti (by rw [HF.out] <;> simp), HH2.out.below⟩
 ·
  go_wp2_with (first | (refine BigFrame.wpList_want rfl (fun _ hKK => wp_load_mid 46 _ rfl w.heap.size 0 rfl cs _ HR2.out underlying46 rfl hi (hKK _ _ ?_))) | fail)
  refine (HB.out _ HH2.out.below).mono ?_
  rintro e u3 ⟨rfl, hb3⟩
  clear HB
  cases q
  ·
   go_wp2_with fail
   go_ret
   exact ⟨reti (by rw [HF.out] <;> simp), on2 HH2.out.below hb3⟩
  ·
   go_wp2_with fail
   go_ret
   exact ⟨reti (by rw [HF.out] <;> simp), on2 HH2.out.below hb3⟩
theorem Check_Budget (cs : List Value) (A : Where) (x : ObjectD) (w : World) (h : RObject A w cs x) (hk : x.1 = 6) : Calls prog 9 #[.agg cs.toArray] w fun e w' => e = .returned (.int .i64 (checkO x)) ∧ Below w.heap.size w w' := by
 have hi : (prog.info? 46).map (·.size) = some cs.length := by rw [RObject.firm.len h]; exact infoObj
 have HX : Hid (RObject A w cs x) := h
 have H0 : Hid (cs[0]? = some (.int .i64 6)) := by rw [Hid, obj0 h, hk]
 obtain ⟨r, hr⟩ : ∃ r, rightBudget x.2.2.2.2.2.2 = r := ⟨_, rfl⟩
 obtain ⟨q, hq⟩ : ∃ q, othersB x = q := ⟨_, rfl⟩
 have HF : Hid (checkO x = if r && q then 0 else 40) := by rw [Hid, checkO, if_pos (by rw [hk]; decide), ← hq, ← hr]; simp [rightO, hk]
 have HA : Hid (∀ u, Below w.heap.size w u → Calls prog 320 #[.agg #[.iface 157 (.agg #[])], .agg cs.toArray] u fun e w' => e = .returned (.bool r) ∧ Below u.heap.size u w') := fun u hu => by rw [← hr]; exact Budget_oright cs A x u (RObject.firm.kept h (Kept.below hu))
 have HB : Hid (∀ u, Below w.heap.size w u → Calls prog 34 #[.agg cs.toArray] u fun e w' => e = .returned (.bool q) ∧ Below u.heap.size u w') := fun u hu => by rw [← hq]; exact othersBlank_calls cs A x u (RObject.firm.kept h (Kept.below hu))
 obtain ⟨U0, hU0⟩ : ∃ U0, U0 = w.alloc (.cells cs.toArray 46) := ⟨_, rfl⟩
 have HH0 : Hid (Held w [(w.heap.size, cs)] [] U0) := by rw [Hid, hU0]; exact (Held.start w).push rfl cs _
 have HZ : Hid ((w.alloc (.cells cs.toArray 46)).cell? ⟨w.heap.size, 0, none⟩ = some (.int .i64 6)) := by have := HH0.out.cell 0 (b := w.heap.size) rfl 0 H0.out; rw [hU0] at this; exact this
 have hz := HZ.out
 clear h hk hr hq HX
 go_enter func9, ntmps9
 go_wp2_with fail
 clear hz HZ
 rw [← hU0]
 clear hU0
 refine (kindOf_Budget _).mono ?_
 rintro e u1 ⟨rfl, hb1⟩
 have HH1 : Hid (Held w [(w.heap.size, cs)] [] u1) := HH0.out.on hb1
 have HR1 : Hid (u1.rangeAt w.heap.size 0 cs) := HH1.out.get 0 rfl
 clear HH0 hb1
 go_wp2_with (first | (refine BigFrame.wpList_want rfl (fun _ hKK => wp_load_mid 46 _ rfl w.heap.size 0 rfl cs _ HR1.out underlying46 rfl hi (hKK _ _ ?_))) | fail)
 refine (HA.out _ HH1.out.below).mono ?_
 rintro e u2 ⟨rfl, hb2⟩
 have HH2 : Hid (Held w [(w.heap.size, cs)] [] u2) := HH1.out.on hb2
 have HR2 : Hid (u2.rangeAt w.heap.size 0 cs) := HH2.out.get 0 rfl
 clear HH1 hb2 HA HR1
 cases r
 ·
  clear HB
  go_wp2_with fail
  go_ret
  exact ⟨reti (by rw [HF.out] <;> simp), HH2.out.below⟩
 ·
  go_wp2_with (first | (refine BigFrame.wpList_want rfl (fun _ hKK => wp_load_mid 46 _ rfl w.heap.size 0 rfl cs _ HR2.out underlying46 rfl hi (hKK _ _ ?_))) | fail)
  refine (HB.out _ HH2.out.below).mono ?_
  rintro e u3 ⟨rfl, hb3⟩
  clear HB
  cases q
  ·
   go_wp2_with fail
   go_ret
   exact ⟨reti (by rw [HF.out] <;> simp), on2 HH2.out.below hb3⟩
  ·
   go_wp2_with fail
   go_ret
   exact ⟨reti (by rw [HF.out] <;> simp), on2 HH2.out.below hb3⟩
theorem Check_no (cs : List Value) (A : Where) (x : ObjectD) (w : World) (h : RObject A w cs x) (hk : ¬ (1 ≤ x.1 ∧ x.1 ≤ 6)) : Calls prog 9 #[.agg cs.toArray] w fun e w' => e = .returned (.int .i64 (checkO x)) ∧ Below w.heap.size w w' := by
 have H0 : Hid (cs[0]? = some (.int .i64 x.1)) := obj0 h
 have HF : Hid (checkO x = 2) := by rw [Hid, checkO, if_neg hk]
 obtain ⟨U0, hU0⟩ : ∃ U0, U0 = w.alloc (.cells cs.toArray 46) := ⟨_, rfl⟩
 have HH0 : Hid (Held w [(w.heap.size, cs)] [] U0) := by rw [Hid, hU0]; exact (Held.start w).push rfl cs _
 have HZ : Hid ((w.alloc (.cells cs.toArray 46)).cell? ⟨w.heap.size, 0, none⟩ = some (.int .i64 x.1)) := by have := HH0.out.cell 0 (b := w.heap.size) rfl 0 H0.out; rw [hU0] at this; exact this
 have hz := HZ.out
 clear h
 go_enter func9, ntmps9
 go_wp2_with fail
 clear hz HZ
 rw [← hU0]
 clear hU0
 refine (kindOf_no x.1 _ hk).mono ?_
 rintro e u1 ⟨rfl, hb1⟩
 go_wp2_with fail
 go_ret
 exact ⟨by rw [HF.out] <;> rfl, on2 HH0.out.below hb1⟩
theorem Check_calls (cs : List Value) (A : Where) (x : ObjectD) (w : World) (h : RObject A w cs x) : Calls prog 9 #[.agg cs.toArray] w fun e w' => e = .returned (.int .i64 (checkO x)) ∧ Below w.heap.size w w' := by
 by_cases hk : 1 ≤ x.1 ∧ x.1 ≤ 6
 ·
  have hc : x.1 = 1 ∨ x.1 = 2 ∨ x.1 = 3 ∨ x.1 = 4 ∨ x.1 = 5 ∨ x.1 = 6 := by omega
  rcases hc with hc | hc | hc | hc | hc | hc
  ·
   exact Check_Pod cs A x w h hc
  ·
   exact Check_Node cs A x w h hc
  ·
   exact Check_Volume cs A x w h hc
  ·
   exact Check_Claim cs A x w h hc
  ·
   exact Check_Class cs A x w h hc
  ·
   exact Check_Budget cs A x w h hc
 ·
  exact Check_no cs A x w h hk
theorem run_copy_k {P : Program} (w : World) (dT sT ty elem : TypeId) (k b o dLen dCap : Nat) (a : Addr) (sLen sCap : Nat) (cs : List Value)
  (hu : P.underlying dT = some (.slice elem)) (hs : (P.info? elem).map (·.size) = some k) (hn : cs.length = Nat.min sLen dLen * k)
  (hsrc : ∀ j v, cs[j]? = some v → w.cell? (a.add j) = some v) (hc : ∀ j, j < cs.length → (w.cell? ⟨b, o + j, none⟩).isSome = true) (hf : ∀ j, j < cs.length → w.frozen? ⟨b, o + j, none⟩ = false) (h1 : ∀ v ∈ cs, v.oneCell' = true) :
  (Builtin.copy_ #[dT, sT] ty #[.slice (some ⟨b, o, none⟩) dLen dCap, .slice (some a) sLen sCap]).run P w = .ok (goInt (Nat.min sLen dLen)) (w.setCells b o cs) := by
 have hl := run_loadCells_list (P := P) w a cs hsrc
 have hst := run_storeCells_cells (P := P) b o cs 0 w (by simpa using hc) (by simpa using hf) h1
 cases hq : P.info? elem with
 | none => simp [hq] at hs
 | some i =>
  have hi : i.size = k := by simpa [hq] using hs
  simp [Builtin.copy_, run_underlying hu, Builtin.lenOf, Builtin.firstCells, sizeOf, typeInfo, hq, hi, ← hn, hl, hst]
theorem row_setCells (g : Nat) (T : TypeId) : ∀ (vs : List Value) (o : Nat) (w : World) (cur : Array Value), w.heap[g]? = some (.cells cur T (0, 0)) → o + vs.length ≤ cur.size →
  ∃ cur' : Array Value, (w.setCells g o vs).heap[g]? = some (.cells cur' T (0, 0)) ∧ cur'.size = cur.size ∧ cur'.toList = cur.toList.take o ++ vs ++ cur.toList.drop (o + vs.length)
 | [], o, w, cur, hg, _ => ⟨cur, hg, rfl, by simp⟩
 | v :: r, o, w, cur, hg, hl => by
  simp only [List.length_cons] at hl
  have hg1 := heap_setCell_same w g o cur T v hg
  obtain ⟨cur', h1, h2, h3⟩ := row_setCells g T r (o + 1) _ _ hg1 (by simp; omega)
  refine ⟨cur', h1, by simpa using h2, ?_⟩
  rw [h3]
  have ho : o < cur.toList.length := by simp; omega
  simp only [Array.toList_setIfInBounds, List.length_cons]
  rw [List.take_add_one, List.getElem?_set]
  simp only [ho, if_true]
  rw [List.take_set_of_le (Nat.le_refl _), List.drop_set_of_lt (by omega)]
  simp [Nat.add_assoc, Nat.add_comm 1]
theorem grown_setCells {w : World} {g : Nat} : ∀ (vs : List Value) (o : Nat), w.grownBy (w.setCells g o vs) (some g) := fun vs o =>
 have h : ∀ (vs : List Value) (o : Nat) (u : World), w.grownBy u (some g) → w.grownBy (u.setCells g o vs) (some g) := fun vs => by
  induction vs with
  | nil => intro o u hu; exact hu
  | cons v r ih =>
   intro o u hu
   rw [World.setCells]
   refine ih _ _ ⟨hu.os, hu.tape, hu.output, by simpa using hu.size, fun k hk hne => ?_⟩
   rw [heap_setCell_other u ⟨g, o, none⟩ k v (fun e => hne (by simp [e]))]
   exact hu.block k hk hne
 h vs o w ⟨rfl, rfl, rfl, Nat.le_refl _, fun _ _ _ => rfl⟩
theorem grown_trans {u v w : World} {row : Option Nat} (h : u.grownBy v row) (k : v.grownBy w row) : u.grownBy w row :=
 ⟨k.os.trans h.os, k.tape.trans h.tape, k.output.trans h.output, Nat.le_trans h.size k.size, fun b hb hne => (k.block b (Nat.lt_of_lt_of_le hb h.size) hne).trans (h.block b hb hne)⟩
theorem grown_drew {w : World} {row : Option Nat} : w.grownBy w.drew row := ⟨rfl, rfl, rfl, Nat.le_refl _, fun _ _ _ => rfl⟩
theorem row_cell {w : World} {g j : Nat} {cur : Array Value} {T : TypeId} (hg : w.heap[g]? = some (.cells cur T (0, 0))) : w.cell? ⟨g, j, none⟩ = cur.toList[j]? := by simp [World.cell?, hg]
theorem row_frozen {w : World} {g j : Nat} {cur : Array Value} {T : TypeId} (hg : w.heap[g]? = some (.cells cur T (0, 0))) : w.frozen? ⟨g, j, none⟩ = false := by simp [World.frozen?, hg]
theorem shape_cells {w : World} {g : Nat} {cur : Array Value} {T : TypeId} {fr : Nat × Nat} (hg : w.heap[g]? = some (.cells cur T fr)) : w.shape? g = some (T, cur.size) := by simp [World.shape?, hg]
theorem lt_of_heap {w : World} {g : Nat} {o : Obj} (h : w.heap[g]? = some o) : g < w.heap.size := by
 rcases Nat.lt_or_ge g w.heap.size with h1 | h1
 ·
  exact h1
 ·
  rw [Array.getElem?_eq_none h1] at h; cases h
theorem wp_copy_run {P : Program} (w : World) {o : Oper} {a : Act} {K : Act → World → Prop} {Q : Exit → Act → World → Prop} (d s : Operand) (t t' : TypeId)
  (ho : o.op = .call { callee := .builtin .copy, args := #[d, s], argTypes := #[t, t'] }) (v u : Value) (hd : a.eval d = v) (hs : a.eval s = u) {v' : Value} {w' : World}
  (hr : (Builtin.copy_ #[t, t'] o.type #[v, u]).run P w = .ok v' w') (h : K (a.put o.dst v') w') : o.wp P a w K Q := by
 unfold Oper.wp execOp
 simp only [ho, resolve, invoke, builtin, Sem.run_bind, Sem.run_pure, Result.andThen_ok, List.map_toArray, List.map_cons, List.map_nil, hd, hs, hr]
 exact h
theorem wp_append_run {P : Program} (w : World) {o : Oper} {a : Act} {K : Act → World → Prop} {Q : Exit → Act → World → Prop} (d s : Operand) (t t' : TypeId)
  (ho : o.op = .call { callee := .builtin .append, args := #[d, s], argTypes := #[t, t'] }) (v u : Value) (hd : a.eval d = v) (hs : a.eval s = u) {v' : Value} {w' : World}
  (hr : (Builtin.append_ #[t, t'] o.type #[v, u]).run P w = .ok v' w') (h : K (a.put o.dst v') w') : o.wp P a w K Q := by
 unfold Oper.wp execOp
 simp only [ho, resolve, invoke, builtin, Sem.run_bind, Sem.run_pure, Result.andThen_ok, List.map_toArray, List.map_cons, List.map_nil, hd, hs, hr]
 exact h
theorem wpList_append_run' {P : Program} (w : World) {ops : Array Oper} {rest : List Oper} {o : Oper} {a : Act} {Q : Exit → Act → World → Prop} (hgd : o.guard = none) (d s : Operand) (t t' : TypeId)
  (ho : o.op = .call { callee := .builtin .append, args := #[d, s], argTypes := #[t, t'] }) (v u : Value) (hd : a.eval d = v) (hs : a.eval s = u) {v' : Value} {w' : World}
  (hr : (Builtin.append_ #[t, t'] o.type #[v, u]).run P w = .ok v' w') (h : wpList P ops Q rest (a.put o.dst v') w') : wpList P ops Q (o :: rest) a w :=
 wpList_plain hgd fun _ hK => wp_append_run w d s t t' ho v u hd hs hr (hK _ _ h)
end Go.Proofs.YtfbnnfpnjjjfcaaGreat

