/- Objects that are right, as plain functions, and its like. No condition beyond what each says. -/
import Derived.Test.YtikncmcceeacmaaGreatQ23
import Derived.Test.YtikncmcceeacmaaGreatQ22
namespace Go.Proofs.YtikncmcceeacmaaGreat
set_option maxHeartbeats 16000000
set_option maxRecDepth 100000
open Tryz Go.RowKit
set_option linter.unusedSimpArgs false
def rightO (x : ObjectD) : Bool := if x.1 = 1 then rightPod x.2.1 else if x.1 = 2 then rightNode x.2.2.1 else if x.1 = 3 then rightVolume x.2.2.2.1 else if x.1 = 4 then rightClaim x.2.2.2.2.1 else if x.1 = 5 then rightClass x.2.2.2.2.2.1 else if x.1 = 6 then rightBudget x.2.2.2.2.2.2 else false
def checkO (x : ObjectD) : Int := if 1 ≤ x.1 ∧ x.1 ≤ 6 then (if rightO x && othersB x then 0 else 40) else 2
def nameO (x : ObjectD) : ByteArray := if x.1 = 1 then x.2.1.1 else if x.1 = 2 then x.2.2.1.1 else if x.1 = 3 then x.2.2.2.1.1 else if x.1 = 4 then x.2.2.2.2.1.1 else if x.1 = 5 then x.2.2.2.2.2.1.1 else if x.1 = 6 then x.2.2.2.2.2.2.1 else ⟨#[]⟩
theorem kindOf_Pod (w : World) : Calls prog 33 #[.int .i64 1] w fun e w' => e = .returned (.tuple #[.iface 136 (.agg #[.iface 132 (.agg #[])]), .bool true]) ∧ Below w.heap.size w w' := by
 go_enter func33, ntmps33
 go_wp2_with fail
 refine (kinds_calls _).mono ?_
 rintro e u1 ⟨rfl, rfl⟩
 go_wp2_with fail
 go_ret2
 exact ⟨rfl, by go_grown⟩
theorem kindOf_Node (w : World) : Calls prog 33 #[.int .i64 2] w fun e w' => e = .returned (.tuple #[.iface 141 (.agg #[.iface 137 (.agg #[])]), .bool true]) ∧ Below w.heap.size w w' := by
 go_enter func33, ntmps33
 go_wp2_with fail
 refine (kinds_calls _).mono ?_
 rintro e u1 ⟨rfl, rfl⟩
 go_wp2_with fail
 go_ret2
 exact ⟨rfl, by go_grown⟩
theorem kindOf_Volume (w : World) : Calls prog 33 #[.int .i64 3] w fun e w' => e = .returned (.tuple #[.iface 146 (.agg #[.iface 142 (.agg #[])]), .bool true]) ∧ Below w.heap.size w w' := by
 go_enter func33, ntmps33
 go_wp2_with fail
 refine (kinds_calls _).mono ?_
 rintro e u1 ⟨rfl, rfl⟩
 go_wp2_with fail
 go_ret2
 exact ⟨rfl, by go_grown⟩
theorem kindOf_Claim (w : World) : Calls prog 33 #[.int .i64 4] w fun e w' => e = .returned (.tuple #[.iface 151 (.agg #[.iface 147 (.agg #[])]), .bool true]) ∧ Below w.heap.size w w' := by
 go_enter func33, ntmps33
 go_wp2_with fail
 refine (kinds_calls _).mono ?_
 rintro e u1 ⟨rfl, rfl⟩
 go_wp2_with fail
 go_ret2
 exact ⟨rfl, by go_grown⟩
theorem kindOf_Class (w : World) : Calls prog 33 #[.int .i64 5] w fun e w' => e = .returned (.tuple #[.iface 156 (.agg #[.iface 152 (.agg #[])]), .bool true]) ∧ Below w.heap.size w w' := by
 go_enter func33, ntmps33
 go_wp2_with fail
 refine (kinds_calls _).mono ?_
 rintro e u1 ⟨rfl, rfl⟩
 go_wp2_with fail
 go_ret2
 exact ⟨rfl, by go_grown⟩
theorem kindOf_Budget (w : World) : Calls prog 33 #[.int .i64 6] w fun e w' => e = .returned (.tuple #[.iface 161 (.agg #[.iface 157 (.agg #[])]), .bool true]) ∧ Below w.heap.size w w' := by
 go_enter func33, ntmps33
 go_wp2_with fail
 refine (kinds_calls _).mono ?_
 rintro e u1 ⟨rfl, rfl⟩
 go_wp2_with fail
 go_ret2
 exact ⟨rfl, by go_grown⟩
theorem kindOf_no (n : Int) (w : World) (h : ¬ (1 ≤ n ∧ n ≤ 6)) : Calls prog 33 #[.int .i64 n] w fun e w' => e = .returned (.tuple #[.nilIface, .bool false]) ∧ Below w.heap.size w w' := by
 by_cases h1 : n < 1
 ·
  go_enter func33, ntmps33
  go_wp2_with fail
  go_ret2
  exact ⟨rfl, Below.refl _ _⟩
 ·
  have h2 : (6 : Int) < n := by omega
  have h3 : decide (n < 1) = false := by simp [h1]
  go_enter func33, ntmps33
  go_wp2_with fail
  go_ret2
  exact ⟨rfl, Below.refl _ _⟩
theorem Check_Pod (cs : List Value) (A : Where) (x : ObjectD) (w : World) (h : RObject A w cs x) (hk : x.1 = 1) : Calls prog 9 #[.agg cs.toArray] w fun e w' => e = .returned (.int .i64 (checkO x)) ∧ Below w.heap.size w w' := by
 have hi : (prog.info? 46).map (·.size) = some cs.length := by rw [RObject.firm.len h]; exact infoObj
 have HX : Hid (RObject A w cs x) := h
 have H0 : Hid (cs[0]? = some (.int .i64 1)) := by rw [Hid, obj0 h, hk]
 obtain ⟨r, hr⟩ : ∃ r, rightPod x.2.1 = r := ⟨_, rfl⟩
 obtain ⟨q, hq⟩ : ∃ q, othersB x = q := ⟨_, rfl⟩
 have HF : Hid (checkO x = if r && q then 0 else 40) := by rw [Hid, checkO, if_pos (by rw [hk]; decide), ← hq, ← hr]; simp [rightO, hk]
 have HA : Hid (∀ u, Below w.heap.size w u → Calls prog 159 #[.agg #[.iface 132 (.agg #[])], .agg cs.toArray] u fun e w' => e = .returned (.bool r) ∧ Below u.heap.size u w') := fun u hu => by rw [← hr]; exact Pod_oright cs A x u (RObject.firm.kept h (Kept.below hu))
 have HB : Hid (∀ u, Below w.heap.size w u → Calls prog 34 #[.agg cs.toArray] u fun e w' => e = .returned (.bool q) ∧ Below u.heap.size u w') := fun u hu => by rw [← hq]; exact othersBlank_calls cs A x u (RObject.firm.kept h (Kept.below hu))
 obtain ⟨U0, hU0⟩ : ∃ U0, U0 = w.alloc (.cells cs.toArray 46) := ⟨_, rfl⟩
 have HH0 : Hid (Held w [(w.heap.size, cs)] [] U0) := by rw [Hid, hU0]; exact (Held.start w).push rfl cs _
 have HZ : Hid ((w.alloc (.cells cs.toArray 46)).cell? ⟨w.heap.size, 0, none⟩ = some (.int .i64 1)) := by have := HH0.out.cell 0 (b := w.heap.size) rfl 0 H0.out; rw [hU0] at this; exact this
 have hz := HZ.out
 clear h hk hr hq HX
 go_enter func9, ntmps9
 go_wp2_with fail
 clear hz HZ
 rw [← hU0]
 clear hU0
 refine (kindOf_Pod _).mono ?_
 rintro e u1 ⟨rfl, hb1⟩
 have HH1 : Hid (Held w [(w.heap.size, cs)] [] u1) := HH0.out.on hb1
 have HR1 : Hid (u1.rangeAt w.heap.size 0 cs) := HH1.out.get 0 rfl
 clear HH0 hb1
 go_wp2_with (first | (refine BigFrame.wpList_want rfl (fun _ hKK => wp_load_mid 46 _ rfl w.heap.size 0 rfl cs _ HR1.out underlying46 rfl hi (hKK _ _ ?_))) | fail)
 refine (HA.out _ HH1.out.below).mono ?_
 rintro e u2 ⟨rfl, hb2⟩
 have HH2 : Hid (Held w [(w.heap.size, cs)] [] u2) := HH1.out.on hb2
 have HR2 : Hid (u2.rangeAt w.heap.size 0 cs) := HH2.out.get 0 rfl
 clear HH1 hb2 HA HR1
 cases r
 ·
  clear HB
  go_wp2_with fail
  go_ret
  exact ⟨reti (by rw [HF.out] <;> simp), HH2.out.below⟩
 ·
  go_wp2_with (first | (refine BigFrame.wpList_want rfl (fun _ hKK => wp_load_mid 46 _ rfl w.heap.size 0 rfl cs _ HR2.out underlying46 rfl hi (hKK _ _ ?_))) | fail)
  refine (HB.out _ HH2.out.below).mono ?_
  rintro e u3 ⟨rfl, hb3⟩
  clear HB
  cases q
  ·
   go_wp2_with fail
   go_ret
   exact ⟨reti (by rw [HF.out] <;> simp), on2 HH2.out.below hb3⟩
  ·
   go_wp2_with fail
   go_ret
   exact ⟨reti (by rw [HF.out] <;> simp), on2 HH2.out.below hb3⟩
theorem Name_Pod (cs : List Value) (A : Where) (x : ObjectD) (w : World) (h : RObject A w cs x) (hk : x.1 = 1) : Calls prog 11 #[.agg cs.toArray] w fun e w' => e = .returned (.string (nameO x)) ∧ Below w.heap.size w w' := by
 have hi : (prog.info? 46).map (·.size) = some cs.length := by rw [RObject.firm.len h]; exact infoObj
 have H0 : Hid (cs[0]? = some (.int .i64 1)) := by rw [Hid, obj0 h, hk]
 obtain ⟨r, hr⟩ : ∃ r, nameO x = r := ⟨_, rfl⟩
 have HA : Hid (∀ u, Below w.heap.size w u → Calls prog 156 #[.agg #[.iface 132 (.agg #[])], .agg cs.toArray] u fun e w' => e = .returned (.string r) ∧ Below u.heap.size u w') := fun u hu => by
  have e : r = x.2.1.1 := by rw [← hr]; simp [nameO, hk]
  rw [e]
  exact Pod_oname cs A x u (RObject.firm.kept h (Kept.below hu))
 obtain ⟨U0, hU0⟩ : ∃ U0, U0 = w.alloc (.cells cs.toArray 46) := ⟨_, rfl⟩
 have HH0 : Hid (Held w [(w.heap.size, cs)] [] U0) := by rw [Hid, hU0]; exact (Held.start w).push rfl cs _
 have HZ : Hid ((w.alloc (.cells cs.toArray 46)).cell? ⟨w.heap.size, 0, none⟩ = some (.int .i64 1)) := by have := HH0.out.cell 0 (b := w.heap.size) rfl 0 H0.out; rw [hU0] at this; exact this
 have hz := HZ.out
 rw [hr]
 clear h hk hr
 go_enter func11, ntmps11
 go_wp2_with fail
 clear hz HZ
 rw [← hU0]
 clear hU0
 refine (kindOf_Pod _).mono ?_
 rintro e u1 ⟨rfl, hb1⟩
 have HH1 : Hid (Held w [(w.heap.size, cs)] [] u1) := HH0.out.on hb1
 have HR1 : Hid (u1.rangeAt w.heap.size 0 cs) := HH1.out.get 0 rfl
 clear HH0 hb1
 go_wp2_with (first | (refine BigFrame.wpList_want rfl (fun _ hKK => wp_load_mid 46 _ rfl w.heap.size 0 rfl cs _ HR1.out underlying46 rfl hi (hKK _ _ ?_))) | fail)
 refine (HA.out _ HH1.out.below).mono ?_
 rintro e u2 ⟨rfl, hb2⟩
 go_wp2_with fail
 go_ret
 exact ⟨rfl, on2 HH1.out.below hb2⟩
theorem Check_Node (cs : List Value) (A : Where) (x : ObjectD) (w : World) (h : RObject A w cs x) (hk : x.1 = 2) : Calls prog 9 #[.agg cs.toArray] w fun e w' => e = .returned (.int .i64 (checkO x)) ∧ Below w.heap.size w w' := by
 have hi : (prog.info? 46).map (·.size) = some cs.length := by rw [RObject.firm.len h]; exact infoObj
 have HX : Hid (RObject A w cs x) := h
 have H0 : Hid (cs[0]? = some (.int .i64 2)) := by rw [Hid, obj0 h, hk]
 obtain ⟨r, hr⟩ : ∃ r, rightNode x.2.2.1 = r := ⟨_, rfl⟩
 obtain ⟨q, hq⟩ : ∃ q, othersB x = q := ⟨_, rfl⟩
 have HF : Hid (checkO x = if r && q then 0 else 40) := by rw [Hid, checkO, if_pos (by rw [hk]; decide), ← hq, ← hr]; simp [rightO, hk]
 have HA : Hid (∀ u, Below w.heap.size w u → Calls prog 196 #[.agg #[.iface 137 (.agg #[])], .agg cs.toArray] u fun e w' => e = .returned (.bool r) ∧ Below u.heap.size u w') := fun u hu => by rw [← hr]; exact Node_oright cs A x u (RObject.firm.kept h (Kept.below hu))
 have HB : Hid (∀ u, Below w.heap.size w u → Calls prog 34 #[.agg cs.toArray] u fun e w' => e = .returned (.bool q) ∧ Below u.heap.size u w') := fun u hu => by rw [← hq]; exact othersBlank_calls cs A x u (RObject.firm.kept h (Kept.below hu))
 obtain ⟨U0, hU0⟩ : ∃ U0, U0 = w.alloc (.cells cs.toArray 46) := ⟨_, rfl⟩
 have HH0 : Hid (Held w [(w.heap.size, cs)] [] U0) := by rw [Hid, hU0]; exact (Held.start w).push rfl cs _
 have HZ : Hid ((w.alloc (.cells cs.toArray 46)).cell? ⟨w.heap.size, 0, none⟩ = some (.int .i64 2)) := by have := HH0.out.cell 0 (b := w.heap.size) rfl 0 H0.out; rw [hU0] at this; exact this
 have hz := HZ.out
 clear h hk hr hq HX
 go_enter func9, ntmps9
 go_wp2_with fail
 clear hz HZ
 rw [← hU0]
 clear hU0
 refine (kindOf_Node _).mono ?_
 rintro e u1 ⟨rfl, hb1⟩
 have HH1 : Hid (Held w [(w.heap.size, cs)] [] u1) := HH0.out.on hb1
 have HR1 : Hid (u1.rangeAt w.heap.size 0 cs) := HH1.out.get 0 rfl
 clear HH0 hb1
 go_wp2_with (first | (refine BigFrame.wpList_want rfl (fun _ hKK => wp_load_mid 46 _ rfl w.heap.size 0 rfl cs _ HR1.out underlying46 rfl hi (hKK _ _ ?_))) | fail)
 refine (HA.out _ HH1.out.below).mono ?_
 rintro e u2 ⟨rfl, hb2⟩
 have HH2 : Hid (Held w [(w.heap.size, cs)] [] u2) := HH1.out.on hb2
 have HR2 : Hid (u2.rangeAt w.heap.size 0 cs) := HH2.out.get 0 rfl
 clear HH1 hb2 HA HR1
 cases r
 ·
  clear HB
  go_wp2_with fail
  go_ret
  exact ⟨reti (by rw [HF.out] <;> simp), HH2.out.below⟩
 ·
  go_wp2_with (first | (refine BigFrame.wpList_want rfl (fun _ hKK => wp_load_mid 46 _ rfl w.heap.size 0 rfl cs _ HR2.out underlying46 rfl hi (hKK _ _ ?_))) | fail)
  refine (HB.out _ HH2.out.below).mono ?_
  rintro e u3 ⟨rfl, hb3⟩
  clear HB
  cases q
  ·
   go_wp2_with fail
   go_ret
   exact ⟨reti (by rw [HF.out] <;> simp), on2 HH2.out.below hb3⟩
  ·
   go_wp2_with fail
   go_ret
   exact ⟨reti (by rw [HF.out] <;> simp), on2 HH2.out.below hb3⟩
theorem Name_Node (cs : List Value) (A : Where) (x : ObjectD) (w : World) (h : RObject A w cs x) (hk : x.1 = 2) : Calls prog 11 #[.agg cs.toArray] w fun e w' => e = .returned (.string (nameO x)) ∧ Below w.heap.size w w' := by
 have hi : (prog.info? 46).map (·.size) = some cs.length := by rw [RObject.firm.len h]; exact infoObj
 have H0 : Hid (cs[0]? = some (.int .i64 2)) := by rw [Hid, obj0 h, hk]
 obtain ⟨r, hr⟩ : ∃ r, nameO x = r := ⟨_, rfl⟩
 have HA : Hid (∀ u, Below w.heap.size w u → Calls prog 193 #[.agg #[.iface 137 (.agg #[])], .agg cs.toArray] u fun e w' => e = .returned (.string r) ∧ Below u.heap.size u w') := fun u hu => by
  have e : r = x.2.2.1.1 := by rw [← hr]; simp [nameO, hk]
  rw [e]
  exact Node_oname cs A x u (RObject.firm.kept h (Kept.below hu))
 obtain ⟨U0, hU0⟩ : ∃ U0, U0 = w.alloc (.cells cs.toArray 46) := ⟨_, rfl⟩
 have HH0 : Hid (Held w [(w.heap.size, cs)] [] U0) := by rw [Hid, hU0]; exact (Held.start w).push rfl cs _
 have HZ : Hid ((w.alloc (.cells cs.toArray 46)).cell? ⟨w.heap.size, 0, none⟩ = some (.int .i64 2)) := by have := HH0.out.cell 0 (b := w.heap.size) rfl 0 H0.out; rw [hU0] at this; exact this
 have hz := HZ.out
 rw [hr]
 clear h hk hr
 go_enter func11, ntmps11
 go_wp2_with fail
 clear hz HZ
 rw [← hU0]
 clear hU0
 refine (kindOf_Node _).mono ?_
 rintro e u1 ⟨rfl, hb1⟩
 have HH1 : Hid (Held w [(w.heap.size, cs)] [] u1) := HH0.out.on hb1
 have HR1 : Hid (u1.rangeAt w.heap.size 0 cs) := HH1.out.get 0 rfl
 clear HH0 hb1
 go_wp2_with (first | (refine BigFrame.wpList_want rfl (fun _ hKK => wp_load_mid 46 _ rfl w.heap.size 0 rfl cs _ HR1.out underlying46 rfl hi (hKK _ _ ?_))) | fail)
 refine (HA.out _ HH1.out.below).mono ?_
 rintro e u2 ⟨rfl, hb2⟩
 go_wp2_with fail
 go_ret
 exact ⟨rfl, on2 HH1.out.below hb2⟩
theorem Check_Volume (cs : List Value) (A : Where) (x : ObjectD) (w : World) (h : RObject A w cs x) (hk : x.1 = 3) : Calls prog 9 #[.agg cs.toArray] w fun e w' => e = .returned (.int .i64 (checkO x)) ∧ Below w.heap.size w w' := by
 have hi : (prog.info? 46).map (·.size) = some cs.length := by rw [RObject.firm.len h]; exact infoObj
 have HX : Hid (RObject A w cs x) := h
 have H0 : Hid (cs[0]? = some (.int .i64 3)) := by rw [Hid, obj0 h, hk]
 obtain ⟨r, hr⟩ : ∃ r, rightVolume x.2.2.2.1 = r := ⟨_, rfl⟩
 obtain ⟨q, hq⟩ : ∃ q, othersB x = q := ⟨_, rfl⟩
 have HF : Hid (checkO x = if r && q then 0 else 40) := by rw [Hid, checkO, if_pos (by rw [hk]; decide), ← hq, ← hr]; simp [rightO, hk]
 have HA : Hid (∀ u, Below w.heap.size w u → Calls prog 227 #[.agg #[.iface 142 (.agg #[])], .agg cs.toArray] u fun e w' => e = .returned (.bool r) ∧ Below u.heap.size u w') := fun u hu => by rw [← hr]; exact Volume_oright cs A x u (RObject.firm.kept h (Kept.below hu))
 have HB : Hid (∀ u, Below w.heap.size w u → Calls prog 34 #[.agg cs.toArray] u fun e w' => e = .returned (.bool q) ∧ Below u.heap.size u w') := fun u hu => by rw [← hq]; exact othersBlank_calls cs A x u (RObject.firm.kept h (Kept.below hu))
 obtain ⟨U0, hU0⟩ : ∃ U0, U0 = w.alloc (.cells cs.toArray 46) := ⟨_, rfl⟩
 have HH0 : Hid (Held w [(w.heap.size, cs)] [] U0) := by rw [Hid, hU0]; exact (Held.start w).push rfl cs _
 have HZ : Hid ((w.alloc (.cells cs.toArray 46)).cell? ⟨w.heap.size, 0, none⟩ = some (.int .i64 3)) := by have := HH0.out.cell 0 (b := w.heap.size) rfl 0 H0.out; rw [hU0] at this; exact this
 have hz := HZ.out
 clear h hk hr hq HX
 go_enter func9, ntmps9
 go_wp2_with fail
 clear hz HZ
 rw [← hU0]
 clear hU0
 refine (kindOf_Volume _).mono ?_
 rintro e u1 ⟨rfl, hb1⟩
 have HH1 : Hid (Held w [(w.heap.size, cs)] [] u1) := HH0.out.on hb1
 have HR1 : Hid (u1.rangeAt w.heap.size 0 cs) := HH1.out.get 0 rfl
 clear HH0 hb1
 go_wp2_with (first | (refine BigFrame.wpList_want rfl (fun _ hKK => wp_load_mid 46 _ rfl w.heap.size 0 rfl cs _ HR1.out underlying46 rfl hi (hKK _ _ ?_))) | fail)
 refine (HA.out _ HH1.out.below).mono ?_
 rintro e u2 ⟨rfl, hb2⟩
 have HH2 : Hid (Held w [(w.heap.size, cs)] [] u2) := HH1.out.on hb2
 have HR2 : Hid (u2.rangeAt w.heap.size 0 cs) := HH2.out.get 0 rfl
 clear HH1 hb2 HA HR1
 cases r
 ·
  clear HB
  go_wp2_with fail
  go_ret
  exact ⟨reti (by rw [HF.out] <;> simp), HH2.out.below⟩
 ·
  go_wp2_with (first | (refine BigFrame.wpList_want rfl (fun _ hKK => wp_load_mid 46 _ rfl w.heap.size 0 rfl cs _ HR2.out underlying46 rfl hi (hKK _ _ ?_))) | fail)
  refine (HB.out _ HH2.out.below).mono ?_
  rintro e u3 ⟨rfl, hb3⟩
  clear HB
  cases q
  ·
   go_wp2_with fail
   go_ret
   exact ⟨reti (by rw [HF.out] <;> simp), on2 HH2.out.below hb3⟩
  ·
   go_wp2_with fail
   go_ret
   exact ⟨reti (by rw [HF.out] <;> simp), on2 HH2.out.below hb3⟩
theorem Name_Volume (cs : List Value) (A : Where) (x : ObjectD) (w : World) (h : RObject A w cs x) (hk : x.1 = 3) : Calls prog 11 #[.agg cs.toArray] w fun e w' => e = .returned (.string (nameO x)) ∧ Below w.heap.size w w' := by
 have hi : (prog.info? 46).map (·.size) = some cs.length := by rw [RObject.firm.len h]; exact infoObj
 have H0 : Hid (cs[0]? = some (.int .i64 3)) := by rw [Hid, obj0 h, hk]
 obtain ⟨r, hr⟩ : ∃ r, nameO x = r := ⟨_, rfl⟩
 have HA : Hid (∀ u, Below w.heap.size w u → Calls prog 224 #[.agg #[.iface 142 (.agg #[])], .agg cs.toArray] u fun e w' => e = .returned (.string r) ∧ Below u.heap.size u w') := fun u hu => by
  have e : r = x.2.2.2.1.1 := by rw [← hr]; simp [nameO, hk]
  rw [e]
  exact Volume_oname cs A x u (RObject.firm.kept h (Kept.below hu))
 obtain ⟨U0, hU0⟩ : ∃ U0, U0 = w.alloc (.cells cs.toArray 46) := ⟨_, rfl⟩
 have HH0 : Hid (Held w [(w.heap.size, cs)] [] U0) := by rw [Hid, hU0]; exact (Held.start w).push rfl cs _
 have HZ : Hid ((w.alloc (.cells cs.toArray 46)).cell? ⟨w.heap.size, 0, none⟩ = some (.int .i64 3)) := by have := HH0.out.cell 0 (b := w.heap.size) rfl 0 H0.out; rw [hU0] at this; exact this
 have hz := HZ.out
 rw [hr]
 clear h hk hr
 go_enter func11, ntmps11
 go_wp2_with fail
 clear hz HZ
 rw [← hU0]
 clear hU0
 refine (kindOf_Volume _).mono ?_
 rintro e u1 ⟨rfl, hb1⟩
 have HH1 : Hid (Held w [(w.heap.size, cs)] [] u1) := HH0.out.on hb1
 have HR1 : Hid (u1.rangeAt w.heap.size 0 cs) := HH1.out.get 0 rfl
 clear HH0 hb1
 go_wp2_with (first | (refine BigFrame.wpList_want rfl (fun _ hKK => wp_load_mid 46 _ rfl w.heap.size 0 rfl cs _ HR1.out underlying46 rfl hi (hKK _ _ ?_))) | fail)
 refine (HA.out _ HH1.out.below).mono ?_
 rintro e u2 ⟨rfl, hb2⟩
 go_wp2_with fail
 go_ret
 exact ⟨rfl, on2 HH1.out.below hb2⟩
theorem Check_Claim (cs : List Value) (A : Where) (x : ObjectD) (w : World) (h : RObject A w cs x) (hk : x.1 = 4) : Calls prog 9 #[.agg cs.toArray] w fun e w' => e = .returned (.int .i64 (checkO x)) ∧ Below w.heap.size w w' := by
 have hi : (prog.info? 46).map (·.size) = some cs.length := by rw [RObject.firm.len h]; exact infoObj
 have HX : Hid (RObject A w cs x) := h
 have H0 : Hid (cs[0]? = some (.int .i64 4)) := by rw [Hid, obj0 h, hk]
 obtain ⟨r, hr⟩ : ∃ r, rightClaim x.2.2.2.2.1 = r := ⟨_, rfl⟩
 obtain ⟨q, hq⟩ : ∃ q, othersB x = q := ⟨_, rfl⟩
 have HF : Hid (checkO x = if r && q then 0 else 40) := by rw [Hid, checkO, if_pos (by rw [hk]; decide), ← hq, ← hr]; simp [rightO, hk]
 have HA : Hid (∀ u, Below w.heap.size w u → Calls prog 258 #[.agg #[.iface 147 (.agg #[])], .agg cs.toArray] u fun e w' => e = .returned (.bool r) ∧ Below u.heap.size u w') := fun u hu => by rw [← hr]; exact Claim_oright cs A x u (RObject.firm.kept h (Kept.below hu))
 have HB : Hid (∀ u, Below w.heap.size w u → Calls prog 34 #[.agg cs.toArray] u fun e w' => e = .returned (.bool q) ∧ Below u.heap.size u w') := fun u hu => by rw [← hq]; exact othersBlank_calls cs A x u (RObject.firm.kept h (Kept.below hu))
 obtain ⟨U0, hU0⟩ : ∃ U0, U0 = w.alloc (.cells cs.toArray 46) := ⟨_, rfl⟩
 have HH0 : Hid (Held w [(w.heap.size, cs)] [] U0) := by rw [Hid, hU0]; exact (Held.start w).push rfl cs _
 have HZ : Hid ((w.alloc (.cells cs.toArray 46)).cell? ⟨w.heap.size, 0, none⟩ = some (.int .i64 4)) := by have := HH0.out.cell 0 (b := w.heap.size) rfl 0 H0.out; rw [hU0] at this; exact this
 have hz := HZ.out
 clear h hk hr hq HX
 go_enter func9, ntmps9
 go_wp2_with fail
 clear hz HZ
 rw [← hU0]
 clear hU0
 refine (kindOf_Claim _).mono ?_
 rintro e u1 ⟨rfl, hb1⟩
 have HH1 : Hid (Held w [(w.heap.size, cs)] [] u1) := HH0.out.on hb1
 have HR1 : Hid (u1.rangeAt w.heap.size 0 cs) := HH1.out.get 0 rfl
 clear HH0 hb1
 go_wp2_with (first | (refine BigFrame.wpList_want rfl (fun _ hKK => wp_load_mid 46 _ rfl w.heap.size 0 rfl cs _ HR1.out underlying46 rfl hi (hKK _ _ ?_))) | fail)
 refine (HA.out _ HH1.out.below).mono ?_
 rintro e u2 ⟨rfl, hb2⟩
 have HH2 : Hid (Held w [(w.heap.size, cs)] [] u2) := HH1.out.on hb2
 have HR2 : Hid (u2.rangeAt w.heap.size 0 cs) := HH2.out.get 0 rfl
 clear HH1 hb2 HA HR1
 cases r
 ·
  clear HB
  go_wp2_with fail
  go_ret
  exact ⟨reti (by rw [HF.out] <;> simp), HH2.out.below⟩
 ·
  go_wp2_with (first | (refine BigFrame.wpList_want rfl (fun _ hKK => wp_load_mid 46 _ rfl w.heap.size 0 rfl cs _ HR2.out underlying46 rfl hi (hKK _ _ ?_))) | fail)
  refine (HB.out _ HH2.out.below).mono ?_
  rintro e u3 ⟨rfl, hb3⟩
  clear HB
  cases q
  ·
   go_wp2_with fail
   go_ret
   exact ⟨reti (by rw [HF.out] <;> simp), on2 HH2.out.below hb3⟩
  ·
   go_wp2_with fail
   go_ret
   exact ⟨reti (by rw [HF.out] <;> simp), on2 HH2.out.below hb3⟩
theorem Name_Claim (cs : List Value) (A : Where) (x : ObjectD) (w : World) (h : RObject A w cs x) (hk : x.1 = 4) : Calls prog 11 #[.agg cs.toArray] w fun e w' => e = .returned (.string (nameO x)) ∧ Below w.heap.size w w' := by
 have hi : (prog.info? 46).map (·.size) = some cs.length := by rw [RObject.firm.len h]; exact infoObj
 have H0 : Hid (cs[0]? = some (.int .i64 4)) := by rw [Hid, obj0 h, hk]
 obtain ⟨r, hr⟩ : ∃ r, nameO x = r := ⟨_, rfl⟩
 have HA : Hid (∀ u, Below w.heap.size w u → Calls prog 255 #[.agg #[.iface 147 (.agg #[])], .agg cs.toArray] u fun e w' => e = .returned (.string r) ∧ Below u.heap.size u w') := fun u hu => by
  have e : r = x.2.2.2.2.1.1 := by rw [← hr]; simp [nameO, hk]
  rw [e]
  exact Claim_oname cs A x u (RObject.firm.kept h (Kept.below hu))
 obtain ⟨U0, hU0⟩ : ∃ U0, U0 = w.alloc (.cells cs.toArray 46) := ⟨_, rfl⟩
 have HH0 : Hid (Held w [(w.heap.size, cs)] [] U0) := by rw [Hid, hU0]; exact (Held.start w).push rfl cs _
 have HZ : Hid ((w.alloc (.cells cs.toArray 46)).cell? ⟨w.heap.size, 0, none⟩ = some (.int .i64 4)) := by have := HH0.out.cell 0 (b := w.heap.size) rfl 0 H0.out; rw [hU0] at this; exact this
 have hz := HZ.out
 rw [hr]
 clear h hk hr
 go_enter func11, ntmps11
 go_wp2_with fail
 clear hz HZ
 rw [← hU0]
 clear hU0
 refine (kindOf_Claim _).mono ?_
 rintro e u1 ⟨rfl, hb1⟩
 have HH1 : Hid (Held w [(w.heap.size, cs)] [] u1) := HH0.out.on hb1
 have HR1 : Hid (u1.rangeAt w.heap.size 0 cs) := HH1.out.get 0 rfl
 clear HH0 hb1
 go_wp2_with (first | (refine BigFrame.wpList_want rfl (fun _ hKK => wp_load_mid 46 _ rfl w.heap.size 0 rfl cs _ HR1.out underlying46 rfl hi (hKK _ _ ?_))) | fail)
 refine (HA.out _ HH1.out.below).mono ?_
 rintro e u2 ⟨rfl, hb2⟩
 go_wp2_with fail
 go_ret
 exact ⟨rfl, on2 HH1.out.below hb2⟩
theorem Check_Class (cs : List Value) (A : Where) (x : ObjectD) (w : World) (h : RObject A w cs x) (hk : x.1 = 5) : Calls prog 9 #[.agg cs.toArray] w fun e w' => e = .returned (.int .i64 (checkO x)) ∧ Below w.heap.size w w' := by
 have hi : (prog.info? 46).map (·.size) = some cs.length := by rw [RObject.firm.len h]; exact infoObj
 have HX : Hid (RObject A w cs x) := h
 have H0 : Hid (cs[0]? = some (.int .i64 5)) := by rw [Hid, obj0 h, hk]
 obtain ⟨r, hr⟩ : ∃ r, rightClass x.2.2.2.2.2.1 = r := ⟨_, rfl⟩
 obtain ⟨q, hq⟩ : ∃ q, othersB x = q := ⟨_, rfl⟩
 have HF : Hid (checkO x = if r && q then 0 else 40) := by rw [Hid, checkO, if_pos (by rw [hk]; decide), ← hq, ← hr]; simp [rightO, hk]
 have HA : Hid (∀ u, Below w.heap.size w u → Calls prog 289 #[.agg #[.iface 152 (.agg #[])], .agg cs.toArray] u fun e w' => e = .returned (.bool r) ∧ Below u.heap.size u w') := fun u hu => by rw [← hr]; exact Class_oright cs A x u (RObject.firm.kept h (Kept.below hu))
 have HB : Hid (∀ u, Below w.heap.size w u → Calls prog 34 #[.agg cs.toArray] u fun e w' => e = .returned (.bool q) ∧ Below u.heap.size u w') := fun u hu => by rw [← hq]; exact othersBlank_calls cs A x u (RObject.firm.kept h (Kept.below hu))
 obtain ⟨U0, hU0⟩ : ∃ U0, U0 = w.alloc (.cells cs.toArray 46) := ⟨_, rfl⟩
 have HH0 : Hid (Held w [(w.heap.size, cs)] [] U0) := by rw [Hid, hU0]; exact (Held.start w).push rfl cs _
 have HZ : Hid ((w.alloc (.cells cs.toArray 46)).cell? ⟨w.heap.size, 0, none⟩ = some (.int .i64 5)) := by have := HH0.out.cell 0 (b := w.heap.size) rfl 0 H0.out; rw [hU0] at this; exact this
 have hz := HZ.out
 clear h hk hr hq HX
 go_enter func9, ntmps9
 go_wp2_with fail
 clear hz HZ
 rw [← hU0]
 clear hU0
 refine (kindOf_Class _).mono ?_
 rintro e u1 ⟨rfl, hb1⟩
 have HH1 : Hid (Held w [(w.heap.size, cs)] [] u1) := HH0.out.on hb1
 have HR1 : Hid (u1.rangeAt w.heap.size 0 cs) := HH1.out.get 0 rfl
 clear HH0 hb1
 go_wp2_with (first | (refine BigFrame.wpList_want rfl (fun _ hKK => wp_load_mid 46 _ rfl w.heap.size 0 rfl cs _ HR1.out underlying46 rfl hi (hKK _ _ ?_))) | fail)
 refine (HA.out _ HH1.out.below).mono ?_
 rintro e u2 ⟨rfl, hb2⟩
 have HH2 : Hid (Held w [(w.heap.size, cs)] [] u2) := HH1.out.on hb2
 have HR2 : Hid (u2.rangeAt w.heap.size 0 cs) := HH2.out.get 0 rfl
 clear HH1 hb2 HA HR1
 cases r
 ·
  clear HB
  go_wp2_with fail
  go_ret
  exact ⟨reti (by rw [HF.out] <;> simp), HH2.out.below⟩
 ·
  go_wp2_with (first | (refine BigFrame.wpList_want rfl (fun _ hKK => wp_load_mid 46 _ rfl w.heap.size 0 rfl cs _ HR2.out underlying46 rfl hi (hKK _ _ ?_))) | fail)
  refine (HB.out _ HH2.out.below).mono ?_
  rintro e u3 ⟨rfl, hb3⟩
  clear HB
  cases q
  ·
   go_wp2_with fail
   go_ret
   exact ⟨reti (by rw [HF.out] <;> simp), on2 HH2.out.below hb3⟩
  ·
   go_wp2_with fail
   go_ret
   exact ⟨reti (by rw [HF.out] <;> simp), on2 HH2.out.below hb3⟩
theorem Name_Class (cs : List Value) (A : Where) (x : ObjectD) (w : World) (h : RObject A w cs x) (hk : x.1 = 5) : Calls prog 11 #[.agg cs.toArray] w fun e w' => e = .returned (.string (nameO x)) ∧ Below w.heap.size w w' := by
 have hi : (prog.info? 46).map (·.size) = some cs.length := by rw [RObject.firm.len h]; exact infoObj
 have H0 : Hid (cs[0]? = some (.int .i64 5)) := by rw [Hid, obj0 h, hk]
 obtain ⟨r, hr⟩ : ∃ r, nameO x = r := ⟨_, rfl⟩
 have HA : Hid (∀ u, Below w.heap.size w u → Calls prog 286 #[.agg #[.iface 152 (.agg #[])], .agg cs.toArray] u fun e w' => e = .returned (.string r) ∧ Below u.heap.size u w') := fun u hu => by
  have e : r = x.2.2.2.2.2.1.1 := by rw [← hr]; simp [nameO, hk]
  rw [e]
  exact Class_oname cs A x u (RObject.firm.kept h (Kept.below hu))
 obtain ⟨U0, hU0⟩ : ∃ U0, U0 = w.alloc (.cells cs.toArray 46) := ⟨_, rfl⟩
 have HH0 : Hid (Held w [(w.heap.size, cs)] [] U0) := by rw [Hid, hU0]; exact (Held.start w).push rfl cs _
 have HZ : Hid ((w.alloc (.cells cs.toArray 46)).cell? ⟨w.heap.size, 0, none⟩ = some (.int .i64 5)) := by have := HH0.out.cell 0 (b := w.heap.size) rfl 0 H0.out; rw [hU0] at this; exact this
 have hz := HZ.out
 rw [hr]
 clear h hk hr
 go_enter func11, ntmps11
 go_wp2_with fail
 clear hz HZ
 rw [← hU0]
 clear hU0
 refine (kindOf_Class _).mono ?_
 rintro e u1 ⟨rfl, hb1⟩
 have HH1 : Hid (Held w [(w.heap.size, cs)] [] u1) := HH0.out.on hb1
 have HR1 : Hid (u1.rangeAt w.heap.size 0 cs) := HH1.out.get 0 rfl
 clear HH0 hb1
 go_wp2_with (first | (refine BigFrame.wpList_want rfl (fun _ hKK => wp_load_mid 46 _ rfl w.heap.size 0 rfl cs _ HR1.out underlying46 rfl hi (hKK _ _ ?_))) | fail)
 refine (HA.out _ HH1.out.below).mono ?_
 rintro e u2 ⟨rfl, hb2⟩
 go_wp2_with fail
 go_ret
 exact ⟨rfl, on2 HH1.out.below hb2⟩
theorem Check_Budget (cs : List Value) (A : Where) (x : ObjectD) (w : World) (h : RObject A w cs x) (hk : x.1 = 6) : Calls prog 9 #[.agg cs.toArray] w fun e w' => e = .returned (.int .i64 (checkO x)) ∧ Below w.heap.size w w' := by
 have hi : (prog.info? 46).map (·.size) = some cs.length := by rw [RObject.firm.len h]; exact infoObj
 have HX : Hid (RObject A w cs x) := h
 have H0 : Hid (cs[0]? = some (.int .i64 6)) := by rw [Hid, obj0 h, hk]
 obtain ⟨r, hr⟩ : ∃ r, rightBudget x.2.2.2.2.2.2 = r := ⟨_, rfl⟩
 obtain ⟨q, hq⟩ : ∃ q, othersB x = q := ⟨_, rfl⟩
 have HF : Hid (checkO x = if r && q then 0 else 40) := by rw [Hid, checkO, if_pos (by rw [hk]; decide), ← hq, ← hr]; simp [rightO, hk]
 have HA : Hid (∀ u, Below w.heap.size w u → Calls prog 320 #[.agg #[.iface 157 (.agg #[])], .agg cs.toArray] u fun e w' => e = .returned (.bool r) ∧ Below u.heap.size u w') := fun u hu => by rw [← hr]; exact Budget_oright cs A x u (RObject.firm.kept h (Kept.below hu))
 have HB : Hid (∀ u, Below w.heap.size w u → Calls prog 34 #[.agg cs.toArray] u fun e w' => e = .returned (.bool q) ∧ Below u.heap.size u w') := fun u hu => by rw [← hq]; exact othersBlank_calls cs A x u (RObject.firm.kept h (Kept.below hu))
 obtain ⟨U0, hU0⟩ : ∃ U0, U0 = w.alloc (.cells cs.toArray 46) := ⟨_, rfl⟩
 have HH0 : Hid (Held w [(w.heap.size, cs)] [] U0) := by rw [Hid, hU0]; exact (Held.start w).push rfl cs _
 have HZ : Hid ((w.alloc (.cells cs.toArray 46)).cell? ⟨w.heap.size, 0, none⟩ = some (.int .i64 6)) := by have := HH0.out.cell 0 (b := w.heap.size) rfl 0 H0.out; rw [hU0] at this; exact this
 have hz := HZ.out
 clear h hk hr hq HX
 go_enter func9, ntmps9
 go_wp2_with fail
 clear hz HZ
 rw [← hU0]
 clear hU0
 refine (kindOf_Budget _).mono ?_
 rintro e u1 ⟨rfl, hb1⟩
 have HH1 : Hid (Held w [(w.heap.size, cs)] [] u1) := HH0.out.on hb1
 have HR1 : Hid (u1.rangeAt w.heap.size 0 cs) := HH1.out.get 0 rfl
 clear HH0 hb1
 go_wp2_with (first | (refine BigFrame.wpList_want rfl (fun _ hKK => wp_load_mid 46 _ rfl w.heap.size 0 rfl cs _ HR1.out underlying46 rfl hi (hKK _ _ ?_))) | fail)
 refine (HA.out _ HH1.out.below).mono ?_
 rintro e u2 ⟨rfl, hb2⟩
 have HH2 : Hid (Held w [(w.heap.size, cs)] [] u2) := HH1.out.on hb2
 have HR2 : Hid (u2.rangeAt w.heap.size 0 cs) := HH2.out.get 0 rfl
 clear HH1 hb2 HA HR1
 cases r
 ·
  clear HB
  go_wp2_with fail
  go_ret
  exact ⟨reti (by rw [HF.out] <;> simp), HH2.out.below⟩
 ·
  go_wp2_with (first | (refine BigFrame.wpList_want rfl (fun _ hKK => wp_load_mid 46 _ rfl w.heap.size 0 rfl cs _ HR2.out underlying46 rfl hi (hKK _ _ ?_))) | fail)
  refine (HB.out _ HH2.out.below).mono ?_
  rintro e u3 ⟨rfl, hb3⟩
  clear HB
  cases q
  ·
   go_wp2_with fail
   go_ret
   exact ⟨reti (by rw [HF.out] <;> simp), on2 HH2.out.below hb3⟩
  ·
   go_wp2_with fail
   go_ret
   exact ⟨reti (by rw [HF.out] <;> simp), on2 HH2.out.below hb3⟩
theorem Name_Budget (cs : List Value) (A : Where) (x : ObjectD) (w : World) (h : RObject A w cs x) (hk : x.1 = 6) : Calls prog 11 #[.agg cs.toArray] w fun e w' => e = .returned (.string (nameO x)) ∧ Below w.heap.size w w' := by
 have hi : (prog.info? 46).map (·.size) = some cs.length := by rw [RObject.firm.len h]; exact infoObj
 have H0 : Hid (cs[0]? = some (.int .i64 6)) := by rw [Hid, obj0 h, hk]
 obtain ⟨r, hr⟩ : ∃ r, nameO x = r := ⟨_, rfl⟩
 have HA : Hid (∀ u, Below w.heap.size w u → Calls prog 317 #[.agg #[.iface 157 (.agg #[])], .agg cs.toArray] u fun e w' => e = .returned (.string r) ∧ Below u.heap.size u w') := fun u hu => by
  have e : r = x.2.2.2.2.2.2.1 := by rw [← hr]; simp [nameO, hk]
  rw [e]
  exact Budget_oname cs A x u (RObject.firm.kept h (Kept.below hu))
 obtain ⟨U0, hU0⟩ : ∃ U0, U0 = w.alloc (.cells cs.toArray 46) := ⟨_, rfl⟩
 have HH0 : Hid (Held w [(w.heap.size, cs)] [] U0) := by rw [Hid, hU0]; exact (Held.start w).push rfl cs _
 have HZ : Hid ((w.alloc (.cells cs.toArray 46)).cell? ⟨w.heap.size, 0, none⟩ = some (.int .i64 6)) := by have := HH0.out.cell 0 (b := w.heap.size) rfl 0 H0.out; rw [hU0] at this; exact this
 have hz := HZ.out
 rw [hr]
 clear h hk hr
 go_enter func11, ntmps11
 go_wp2_with fail
 clear hz HZ
 rw [← hU0]
 clear hU0
 refine (kindOf_Budget _).mono ?_
 rintro e u1 ⟨rfl, hb1⟩
 have HH1 : Hid (Held w [(w.heap.size, cs)] [] u1) := HH0.out.on hb1
 have HR1 : Hid (u1.rangeAt w.heap.size 0 cs) := HH1.out.get 0 rfl
 clear HH0 hb1
 go_wp2_with (first | (refine BigFrame.wpList_want rfl (fun _ hKK => wp_load_mid 46 _ rfl w.heap.size 0 rfl cs _ HR1.out underlying46 rfl hi (hKK _ _ ?_))) | fail)
 refine (HA.out _ HH1.out.below).mono ?_
 rintro e u2 ⟨rfl, hb2⟩
 go_wp2_with fail
 go_ret
 exact ⟨rfl, on2 HH1.out.below hb2⟩
theorem Check_no (cs : List Value) (A : Where) (x : ObjectD) (w : World) (h : RObject A w cs x) (hk : ¬ (1 ≤ x.1 ∧ x.1 ≤ 6)) : Calls prog 9 #[.agg cs.toArray] w fun e w' => e = .returned (.int .i64 (checkO x)) ∧ Below w.heap.size w w' := by
 have H0 : Hid (cs[0]? = some (.int .i64 x.1)) := obj0 h
 have HF : Hid (checkO x = 2) := by rw [Hid, checkO, if_neg hk]
 obtain ⟨U0, hU0⟩ : ∃ U0, U0 = w.alloc (.cells cs.toArray 46) := ⟨_, rfl⟩
 have HH0 : Hid (Held w [(w.heap.size, cs)] [] U0) := by rw [Hid, hU0]; exact (Held.start w).push rfl cs _
 have HZ : Hid ((w.alloc (.cells cs.toArray 46)).cell? ⟨w.heap.size, 0, none⟩ = some (.int .i64 x.1)) := by have := HH0.out.cell 0 (b := w.heap.size) rfl 0 H0.out; rw [hU0] at this; exact this
 have hz := HZ.out
 clear h
 go_enter func9, ntmps9
 go_wp2_with fail
 clear hz HZ
 rw [← hU0]
 clear hU0
 refine (kindOf_no x.1 _ hk).mono ?_
 rintro e u1 ⟨rfl, hb1⟩
 go_wp2_with fail
 go_ret
 exact ⟨by rw [HF.out] <;> rfl, on2 HH0.out.below hb1⟩
theorem Check_calls (cs : List Value) (A : Where) (x : ObjectD) (w : World) (h : RObject A w cs x) : Calls prog 9 #[.agg cs.toArray] w fun e w' => e = .returned (.int .i64 (checkO x)) ∧ Below w.heap.size w w' := by
 by_cases hk : 1 ≤ x.1 ∧ x.1 ≤ 6
 ·
  have hc : x.1 = 1 ∨ x.1 = 2 ∨ x.1 = 3 ∨ x.1 = 4 ∨ x.1 = 5 ∨ x.1 = 6 := by omega
  rcases hc with hc | hc | hc | hc | hc | hc
  ·
   exact Check_Pod cs A x w h hc
  ·
   exact Check_Node cs A x w h hc
  ·
   exact Check_Volume cs A x w h hc
  ·
   exact Check_Claim cs A x w h hc
  ·
   exact Check_Class cs A x w h hc
  ·
   exact Check_Budget cs A x w h hc
 ·
  exact Check_no cs A x w h hk
theorem Name_no (cs : List Value) (A : Where) (x : ObjectD) (w : World) (h : RObject A w cs x) (hk : ¬ (1 ≤ x.1 ∧ x.1 ≤ 6)) : Calls prog 11 #[.agg cs.toArray] w fun e w' => e = .returned (.string (nameO x)) ∧ Below w.heap.size w w' := by
 have H0 : Hid (cs[0]? = some (.int .i64 x.1)) := obj0 h
 have HF : Hid (nameO x = ⟨#[]⟩) := by rw [Hid, nameO, if_neg (by omega), if_neg (by omega), if_neg (by omega), if_neg (by omega), if_neg (by omega), if_neg (by omega)]
 obtain ⟨U0, hU0⟩ : ∃ U0, U0 = w.alloc (.cells cs.toArray 46) := ⟨_, rfl⟩
 have HH0 : Hid (Held w [(w.heap.size, cs)] [] U0) := by rw [Hid, hU0]; exact (Held.start w).push rfl cs _
 have HZ : Hid ((w.alloc (.cells cs.toArray 46)).cell? ⟨w.heap.size, 0, none⟩ = some (.int .i64 x.1)) := by have := HH0.out.cell 0 (b := w.heap.size) rfl 0 H0.out; rw [hU0] at this; exact this
 have hz := HZ.out
 clear h
 go_enter func11, ntmps11
 go_wp2_with fail
 clear hz HZ
 rw [← hU0]
 clear hU0
 refine (kindOf_no x.1 _ hk).mono ?_
 rintro e u1 ⟨rfl, hb1⟩
 go_wp2_with fail
 go_ret
 exact ⟨by rw [HF.out] <;> rfl, on2 HH0.out.below hb1⟩
theorem Name_calls (cs : List Value) (A : Where) (x : ObjectD) (w : World) (h : RObject A w cs x) : Calls prog 11 #[.agg cs.toArray] w fun e w' => e = .returned (.string (nameO x)) ∧ Below w.heap.size w w' := by
 by_cases hk : 1 ≤ x.1 ∧ x.1 ≤ 6
 ·
  have hc : x.1 = 1 ∨ x.1 = 2 ∨ x.1 = 3 ∨ x.1 = 4 ∨ x.1 = 5 ∨ x.1 = 6 := by omega
  rcases hc with hc | hc | hc | hc | hc | hc
  ·
   exact Name_Pod cs A x w h hc
  ·
   exact Name_Node cs A x w h hc
  ·
   exact Name_Volume cs A x w h hc
  ·
   exact Name_Claim cs A x w h hc
  ·
   exact Name_Class cs A x w h hc
  ·
   exact Name_Budget cs A x w h hc
 ·
  exact Name_no cs A x w h hk
def StV (A : Where) (w u : World) (gs : List Value) (x : StateD) : Prop := ∃ g0 g1 g2 g3 g4 g5 : Hd, gs = [J g0, J g1, J g2, J g3, J g4, J g5] ∧ OwnSt A w u (J g0) (J g1) (J g2) (J g3) (J g4) (J g5) x
def Fits (x : StateD) : Prop := x.1.length * 296 ≤ 140737488351232 ∧ x.2.1.length * 112 ≤ 140737488351232 ∧ x.2.2.1.length * 80 ≤ 140737488351232 ∧ x.2.2.2.1.length * 56 ≤ 140737488351232 ∧ x.2.2.2.2.1.length * 24 ≤ 140737488351232 ∧ x.2.2.2.2.2.length * 48 ≤ 140737488351232
theorem StTup.st {A : Where} {w w' : World} {r : StateD × Bool × Int} {e : Ending} (h : StTup A w r e w') : ∃ gs, e = .returned (.tuple #[.agg gs.toArray, .bool r.2.1, .int .i64 r.2.2]) ∧ StV (Lo A w) w w' gs r.1 ∧ Below w.heap.size w w' := by
 obtain ⟨g0, g1, g2, g3, g4, g5, rfl, h1, h2⟩ := h
 exact ⟨_, rfl, ⟨g0, g1, g2, g3, g4, g5, rfl, h1⟩, h2⟩
theorem StV.tup {A : Where} {w w' : World} {gs : List Value} {r : StateD × Bool × Int} (h : StV (Lo A w) w w' gs r.1) (hb : Below w.heap.size w w') : StTup A w r (.returned (.tuple #[.agg gs.toArray, .bool r.2.1, .int .i64 r.2.2])) w' := by
 obtain ⟨g0, g1, g2, g3, g4, g5, rfl, h1⟩ := h
 exact ⟨g0, g1, g2, g3, g4, g5, rfl, h1, hb⟩
theorem StTup2.st {A : Where} {w w' : World} {r : StateD × Bool} {e : Ending} (h : StTup2 A w r e w') : ∃ gs, e = .returned (.tuple #[.agg gs.toArray, .bool r.2]) ∧ StV (Lo A w) w w' gs r.1 ∧ Below w.heap.size w w' := by
 obtain ⟨g0, g1, g2, g3, g4, g5, rfl, h1, h2⟩ := h
 exact ⟨_, rfl, ⟨g0, g1, g2, g3, g4, g5, rfl, h1⟩, h2⟩
section
variable {A : Where} {w u u' : World} {gs : List Value} {x : StateD}
theorem StV.len (h : StV A w u gs x) : gs.length = 6 := by obtain ⟨g0, g1, g2, g3, g4, g5, rfl, h1⟩ := h; rfl
theorem StV.one (h : StV A w u gs x) : ∀ y ∈ gs, y.oneCell' = true := by obtain ⟨g0, g1, g2, g3, g4, g5, rfl, h1⟩ := h; simp [Value.oneCell']
theorem StV.on (h : StV A w u gs x) (hb : Below u.heap.size u u') : StV A w u' gs x := by obtain ⟨g0, g1, g2, g3, g4, g5, rfl, h1⟩ := h; exact ⟨g0, g1, g2, g3, g4, g5, rfl, h1.on hb⟩
theorem StV.below (h : StV A w u gs x) : Below w.heap.size w u := by obtain ⟨g0, g1, g2, g3, g4, g5, rfl, h1⟩ := h; exact h1.below
theorem StV.from {w1 : World} {A' : Where} (h : StV A w1 u gs x) (hb : Below w.heap.size w w1) (hA : ∀ b, A b → A' b) : StV A' w u gs x := by obtain ⟨g0, g1, g2, g3, g4, g5, rfl, h1⟩ := h; exact ⟨g0, g1, g2, g3, g4, g5, rfl, h1.from hb hA⟩
theorem StV.wrote {b o : Nat} {cs : List Value} (h : StV (Lo (Lo A w) u) u u' gs x) (hw : Below w.heap.size w u) (hb1 : w.heap.size ≤ b) (hb2 : b < u.heap.size) : StV (Lo A w) w (u'.setCells b o cs) gs x := by
 obtain ⟨g0, g1, g2, g3, g4, g5, rfl, h1⟩ := h
 have h2 := h1.from hw (A' := Lo A w) (fun b h => h.1)
 refine ⟨g0, g1, g2, g3, g4, g5, rfl, h2.kept (below_setCells h2.below hb1) (kept_setCells (fun h => ?_))⟩
 rcases h with h | h
 ·
  exact absurd h.2 (by omega)
 ·
  have := (h1.lt h).1; omega
theorem StV.rstate (h : StV A w u gs x) (hf : Fits x) : RState (fun b => A b ∨ Fresh w b) u gs x := by
 obtain ⟨g0, g1, g2, g3, g4, g5, rfl, h1⟩ := h
 obtain ⟨f0, f1, f2, f3, f4, f5⟩ := hf
 exact RState.mk (h1.r0.slG RPod.firm f0) (h1.r1.slG RNode.firm f1) (h1.r2.slG RVolume.firm f2) (h1.r3.slG RClaim.firm f3) (h1.r4.slG RClass.firm f4) (h1.r5.slG RBudget.firm f5)
theorem StV.empty (hb : Below w.heap.size w u) : StV A w u [Z, Z, Z, Z, Z, Z] noState := ⟨(none, 0, 0), (none, 0, 0), (none, 0, 0), (none, 0, 0), (none, 0, 0), (none, 0, 0), rfl, OwnSt.none hb⟩
theorem noState_rep : RState A w [Z, Z, Z, Z, Z, Z] noState := (StV.empty (A := A) (Below.refl w.heap.size w)).rstate (by simp [Fits, noState]) |> RState.firm.weak <| fun b hb h => by rcases h with h | h; exact h; exact absurd hb (Nat.not_lt.2 h)
end
theorem Pod_oput (ss cs : List Value) (A : Where) (x : StateD) (o : ObjectD) (w : World) (hs : RState A w ss x) (ho : RObject A w cs o) : Calls prog 157 #[.agg #[.iface 132 (.agg #[])], .agg ss.toArray, .agg cs.toArray] w fun e w' => StTup A w (putSPod x o.2.1) e w' := by
 have hl := RObject.firm.len ho
 obtain ⟨p, c, q, rfl, hp, hr⟩ := partPod ho
 obtain ⟨h0, h1, h2, h3, h4, h5, rfl, q0, q1, q2, q3, q4, q5⟩ := RState.out hs
 exact Pod_kput h0 h1 h2 h3 h4 h5 p c q x _ A w q0 q1 q2 q3 q4 q5 hr hp hl
theorem Pod_ocount (ss : List Value) (A : Where) (x : StateD) (w : World) (hs : RState A w ss x) : Calls prog 154 #[.agg #[.iface 132 (.agg #[])], .agg ss.toArray] w fun e w' => e = .returned (.int .i64 (x.1.length)) ∧ Below w.heap.size w w' := by
 obtain ⟨h0, h1, h2, h3, h4, h5, rfl, q0, q1, q2, q3, q4, q5⟩ := RState.out hs
 rw [q0.1]
 exact Pod_kcount h0 h1 h2 h3 h4 h5 w
theorem Pod_orightIn (ss : List Value) (A : Where) (x : StateD) (w : World) (hs : RState A w ss x) : Calls prog 160 #[.agg #[.iface 132 (.agg #[])], .agg ss.toArray] w fun e w' => e = .returned (.bool (x.1.all rightPod && risesBy sLt (fun y => y.1) x.1)) ∧ Below w.heap.size w w' := by
 obtain ⟨h0, h1, h2, h3, h4, h5, rfl, q0, q1, q2, q3, q4, q5⟩ := RState.out hs
 exact Pod_krightIn h0 h1 h2 h3 h4 h5 A _ w q0
theorem Node_oput (ss cs : List Value) (A : Where) (x : StateD) (o : ObjectD) (w : World) (hs : RState A w ss x) (ho : RObject A w cs o) : Calls prog 194 #[.agg #[.iface 137 (.agg #[])], .agg ss.toArray, .agg cs.toArray] w fun e w' => StTup A w (putSNode x o.2.2.1) e w' := by
 have hl := RObject.firm.len ho
 obtain ⟨p, c, q, rfl, hp, hr⟩ := partNode ho
 obtain ⟨h0, h1, h2, h3, h4, h5, rfl, q0, q1, q2, q3, q4, q5⟩ := RState.out hs
 exact Node_kput h0 h1 h2 h3 h4 h5 p c q x _ A w q0 q1 q2 q3 q4 q5 hr hp hl
theorem Node_ocount (ss : List Value) (A : Where) (x : StateD) (w : World) (hs : RState A w ss x) : Calls prog 191 #[.agg #[.iface 137 (.agg #[])], .agg ss.toArray] w fun e w' => e = .returned (.int .i64 (x.2.1.length)) ∧ Below w.heap.size w w' := by
 obtain ⟨h0, h1, h2, h3, h4, h5, rfl, q0, q1, q2, q3, q4, q5⟩ := RState.out hs
 rw [q1.1]
 exact Node_kcount h0 h1 h2 h3 h4 h5 w
theorem Node_orightIn (ss : List Value) (A : Where) (x : StateD) (w : World) (hs : RState A w ss x) : Calls prog 197 #[.agg #[.iface 137 (.agg #[])], .agg ss.toArray] w fun e w' => e = .returned (.bool (x.2.1.all rightNode && risesBy sLt (fun y => y.1) x.2.1)) ∧ Below w.heap.size w w' := by
 obtain ⟨h0, h1, h2, h3, h4, h5, rfl, q0, q1, q2, q3, q4, q5⟩ := RState.out hs
 exact Node_krightIn h0 h1 h2 h3 h4 h5 A _ w q1
theorem Volume_oput (ss cs : List Value) (A : Where) (x : StateD) (o : ObjectD) (w : World) (hs : RState A w ss x) (ho : RObject A w cs o) : Calls prog 225 #[.agg #[.iface 142 (.agg #[])], .agg ss.toArray, .agg cs.toArray] w fun e w' => StTup A w (putSVolume x o.2.2.2.1) e w' := by
 have hl := RObject.firm.len ho
 obtain ⟨p, c, q, rfl, hp, hr⟩ := partVolume ho
 obtain ⟨h0, h1, h2, h3, h4, h5, rfl, q0, q1, q2, q3, q4, q5⟩ := RState.out hs
 exact Volume_kput h0 h1 h2 h3 h4 h5 p c q x _ A w q0 q1 q2 q3 q4 q5 hr hp hl
theorem Volume_ocount (ss : List Value) (A : Where) (x : StateD) (w : World) (hs : RState A w ss x) : Calls prog 222 #[.agg #[.iface 142 (.agg #[])], .agg ss.toArray] w fun e w' => e = .returned (.int .i64 (x.2.2.1.length)) ∧ Below w.heap.size w w' := by
 obtain ⟨h0, h1, h2, h3, h4, h5, rfl, q0, q1, q2, q3, q4, q5⟩ := RState.out hs
 rw [q2.1]
 exact Volume_kcount h0 h1 h2 h3 h4 h5 w
theorem Volume_orightIn (ss : List Value) (A : Where) (x : StateD) (w : World) (hs : RState A w ss x) : Calls prog 228 #[.agg #[.iface 142 (.agg #[])], .agg ss.toArray] w fun e w' => e = .returned (.bool (x.2.2.1.all rightVolume && risesBy sLt (fun y => y.1) x.2.2.1)) ∧ Below w.heap.size w w' := by
 obtain ⟨h0, h1, h2, h3, h4, h5, rfl, q0, q1, q2, q3, q4, q5⟩ := RState.out hs
 exact Volume_krightIn h0 h1 h2 h3 h4 h5 A _ w q2
theorem Claim_oput (ss cs : List Value) (A : Where) (x : StateD) (o : ObjectD) (w : World) (hs : RState A w ss x) (ho : RObject A w cs o) : Calls prog 256 #[.agg #[.iface 147 (.agg #[])], .agg ss.toArray, .agg cs.toArray] w fun e w' => StTup A w (putSClaim x o.2.2.2.2.1) e w' := by
 have hl := RObject.firm.len ho
 obtain ⟨p, c, q, rfl, hp, hr⟩ := partClaim ho
 obtain ⟨h0, h1, h2, h3, h4, h5, rfl, q0, q1, q2, q3, q4, q5⟩ := RState.out hs
 exact Claim_kput h0 h1 h2 h3 h4 h5 p c q x _ A w q0 q1 q2 q3 q4 q5 hr hp hl
theorem Claim_ocount (ss : List Value) (A : Where) (x : StateD) (w : World) (hs : RState A w ss x) : Calls prog 253 #[.agg #[.iface 147 (.agg #[])], .agg ss.toArray] w fun e w' => e = .returned (.int .i64 (x.2.2.2.1.length)) ∧ Below w.heap.size w w' := by
 obtain ⟨h0, h1, h2, h3, h4, h5, rfl, q0, q1, q2, q3, q4, q5⟩ := RState.out hs
 rw [q3.1]
 exact Claim_kcount h0 h1 h2 h3 h4 h5 w
theorem Claim_orightIn (ss : List Value) (A : Where) (x : StateD) (w : World) (hs : RState A w ss x) : Calls prog 259 #[.agg #[.iface 147 (.agg #[])], .agg ss.toArray] w fun e w' => e = .returned (.bool (x.2.2.2.1.all rightClaim && risesBy sLt (fun y => y.1) x.2.2.2.1)) ∧ Below w.heap.size w w' := by
 obtain ⟨h0, h1, h2, h3, h4, h5, rfl, q0, q1, q2, q3, q4, q5⟩ := RState.out hs
 exact Claim_krightIn h0 h1 h2 h3 h4 h5 A _ w q3
theorem Class_oput (ss cs : List Value) (A : Where) (x : StateD) (o : ObjectD) (w : World) (hs : RState A w ss x) (ho : RObject A w cs o) : Calls prog 287 #[.agg #[.iface 152 (.agg #[])], .agg ss.toArray, .agg cs.toArray] w fun e w' => StTup A w (putSClass x o.2.2.2.2.2.1) e w' := by
 have hl := RObject.firm.len ho
 obtain ⟨p, c, q, rfl, hp, hr⟩ := partClass ho
 obtain ⟨h0, h1, h2, h3, h4, h5, rfl, q0, q1, q2, q3, q4, q5⟩ := RState.out hs
 exact Class_kput h0 h1 h2 h3 h4 h5 p c q x _ A w q0 q1 q2 q3 q4 q5 hr hp hl
theorem Class_ocount (ss : List Value) (A : Where) (x : StateD) (w : World) (hs : RState A w ss x) : Calls prog 284 #[.agg #[.iface 152 (.agg #[])], .agg ss.toArray] w fun e w' => e = .returned (.int .i64 (x.2.2.2.2.1.length)) ∧ Below w.heap.size w w' := by
 obtain ⟨h0, h1, h2, h3, h4, h5, rfl, q0, q1, q2, q3, q4, q5⟩ := RState.out hs
 rw [q4.1]
 exact Class_kcount h0 h1 h2 h3 h4 h5 w
theorem Class_orightIn (ss : List Value) (A : Where) (x : StateD) (w : World) (hs : RState A w ss x) : Calls prog 290 #[.agg #[.iface 152 (.agg #[])], .agg ss.toArray] w fun e w' => e = .returned (.bool (x.2.2.2.2.1.all rightClass && risesBy sLt (fun y => y.1) x.2.2.2.2.1)) ∧ Below w.heap.size w w' := by
 obtain ⟨h0, h1, h2, h3, h4, h5, rfl, q0, q1, q2, q3, q4, q5⟩ := RState.out hs
 exact Class_krightIn h0 h1 h2 h3 h4 h5 A _ w q4
theorem Budget_oput (ss cs : List Value) (A : Where) (x : StateD) (o : ObjectD) (w : World) (hs : RState A w ss x) (ho : RObject A w cs o) : Calls prog 318 #[.agg #[.iface 157 (.agg #[])], .agg ss.toArray, .agg cs.toArray] w fun e w' => StTup A w (putSBudget x o.2.2.2.2.2.2) e w' := by
 have hl := RObject.firm.len ho
 obtain ⟨p, c, q, rfl, hp, hr⟩ := partBudget ho
 obtain ⟨h0, h1, h2, h3, h4, h5, rfl, q0, q1, q2, q3, q4, q5⟩ := RState.out hs
 exact Budget_kput h0 h1 h2 h3 h4 h5 p c q x _ A w q0 q1 q2 q3 q4 q5 hr hp hl
theorem Budget_ocount (ss : List Value) (A : Where) (x : StateD) (w : World) (hs : RState A w ss x) : Calls prog 315 #[.agg #[.iface 157 (.agg #[])], .agg ss.toArray] w fun e w' => e = .returned (.int .i64 (x.2.2.2.2.2.length)) ∧ Below w.heap.size w w' := by
 obtain ⟨h0, h1, h2, h3, h4, h5, rfl, q0, q1, q2, q3, q4, q5⟩ := RState.out hs
 rw [q5.1]
 exact Budget_kcount h0 h1 h2 h3 h4 h5 w
theorem Budget_orightIn (ss : List Value) (A : Where) (x : StateD) (w : World) (hs : RState A w ss x) : Calls prog 321 #[.agg #[.iface 157 (.agg #[])], .agg ss.toArray] w fun e w' => e = .returned (.bool (x.2.2.2.2.2.all rightBudget && risesBy sLt (fun y => y.1) x.2.2.2.2.2)) ∧ Below w.heap.size w w' := by
 obtain ⟨h0, h1, h2, h3, h4, h5, rfl, q0, q1, q2, q3, q4, q5⟩ := RState.out hs
 exact Budget_krightIn h0 h1 h2 h3 h4 h5 A _ w q5
end Go.Proofs.YtikncmcceeacmaaGreat

