/- base.SameObject of objects of the same data, and of an object and its bare one, and its like. No condition beyond what each says. -/
import Derived.Test.YtfbnnfpnjjjfcaaGreatS11
import Derived.Test.YtfbnnfpnjjjfcaaGreatS23
namespace Go.Proofs.YtfbnnfpnjjjfcaaGreat
set_option maxHeartbeats 16000000
set_option maxRecDepth 100000
open Tryz Go.RowKit
set_option linter.unusedSimpArgs false
def zPod : List Value := [.string ⟨#[]⟩, .int .i64 0, Z, .int .i64 0, .int .i64 0, .int .i64 0, Z, Z, Z, Z, Z, Z, Z, Z, .string ⟨#[]⟩, .string ⟨#[]⟩]
def zNode : List Value := [.string ⟨#[]⟩, Z, Z, .bool false, .int .i64 0, .int .i64 0, .int .i64 0, .int .i64 0, .int .i64 0]
def zVolume : List Value := [.string ⟨#[]⟩, .int .i64 0, .string ⟨#[]⟩, Z, .string ⟨#[]⟩]
def zClaim : List Value := [.string ⟨#[]⟩, .int .i64 0, .string ⟨#[]⟩, .string ⟨#[]⟩]
def zClass : List Value := [.string ⟨#[]⟩, .bool false]
def zBudget : List Value := [.string ⟨#[]⟩, Z, .int .i64 0]
def zC (k : Int) : List Value := .int .i64 k :: .string ⟨#[]⟩ :: .int .i64 0 :: .slice Option.none 0 0 :: .int .i64 0 :: .int .i64 0 :: .int .i64 0 :: .slice Option.none 0 0 :: .slice Option.none 0 0 :: .slice Option.none 0 0 :: .slice Option.none 0 0 :: .slice Option.none 0 0 :: .slice Option.none 0 0 :: .slice Option.none 0 0 :: .slice Option.none 0 0 :: .string ⟨#[]⟩ :: .string ⟨#[]⟩ :: .string ⟨#[]⟩ :: .slice Option.none 0 0 :: .slice Option.none 0 0 :: .bool false :: .int .i64 0 :: .int .i64 0 :: .int .i64 0 :: .int .i64 0 :: .int .i64 0 :: .string ⟨#[]⟩ :: .int .i64 0 :: .string ⟨#[]⟩ :: .slice Option.none 0 0 :: .string ⟨#[]⟩ :: .string ⟨#[]⟩ :: .int .i64 0 :: .string ⟨#[]⟩ :: .string ⟨#[]⟩ :: .string ⟨#[]⟩ :: .bool false :: .string ⟨#[]⟩ :: .slice Option.none 0 0 :: .int .i64 0 :: []
theorem sNil_iff (s : ByteArray) : sNil s = true ↔ s = ⟨#[]⟩ := by rw [← sNil_eq, sEq_iff]
theorem emptyL_iff {α : Type} (L : List α) : emptyL L = true ↔ L = [] := by cases L <;> simp [emptyL]
theorem blankNode_iff (x : NodeD) : blankNode x = true ↔ x = (⟨#[]⟩, [], [], false, (0, 0, 0), 0, 0) := by
 obtain ⟨s, a, b, f, ⟨c, d, e⟩, g, h⟩ := x
 simp only [blankNode, resZ, Bool.and_eq_true, sNil_iff, emptyL_iff, Bool.not_eq_true', beq_iff_eq, Prod.mk.injEq]
 constructor
 ·
  rintro ⟨⟨⟨⟨⟨⟨h1, h2⟩, h3⟩, h4⟩, h5, h6, h7⟩, h8⟩, h9⟩; exact ⟨h3, h1, h2, h4, ⟨h5, h6, h7⟩, h8, h9⟩
 ·
  rintro ⟨h3, h1, h2, h4, ⟨h5, h6, h7⟩, h8, h9⟩; exact ⟨⟨⟨⟨⟨⟨h1, h2⟩, h3⟩, h4⟩, h5, h6, h7⟩, h8⟩, h9⟩
theorem blankVolume_iff (x : VolumeD) : blankVolume x = true ↔ x = (⟨#[]⟩, 0, ⟨#[]⟩, [], ⟨#[]⟩) := by
 obtain ⟨a, b, c, d, e⟩ := x
 simp only [blankVolume, Bool.and_eq_true, sNil_iff, emptyL_iff, beq_iff_eq, Prod.mk.injEq]
 constructor
 ·
  rintro ⟨⟨⟨⟨h1, h2⟩, h3⟩, h4⟩, h5⟩; exact ⟨h1, h2, h3, h4, h5⟩
 ·
  rintro ⟨h1, h2, h3, h4, h5⟩; exact ⟨⟨⟨⟨h1, h2⟩, h3⟩, h4⟩, h5⟩
theorem blankBudget_iff (x : BudgetD) : blankBudget x = true ↔ x = (⟨#[]⟩, [], 0) := by
 obtain ⟨a, b, c⟩ := x
 simp only [blankBudget, Bool.and_eq_true, sNil_iff, emptyL_iff, beq_iff_eq, Prod.mk.injEq]
 constructor
 ·
  rintro ⟨⟨h1, h2⟩, h3⟩; exact ⟨h1, h2, h3⟩
 ·
  rintro ⟨h1, h2, h3⟩; exact ⟨⟨h1, h2⟩, h3⟩
theorem tells_b {α : Type} {e : Ending} {x y : α} {b : Bool} (h : TellsEq e x y) (hb : b = true ↔ x = y) : e = .returned (.bool b) := by
 obtain ⟨r, rfl, hr⟩ := h
 rw [show r = b from by rw [Bool.eq_iff_iff, hr, hb]]
theorem zNode_rep (A : Where) (w : World) : RNode A w zNode (⟨#[]⟩, [], [], false, (0, 0, 0), 0, 0) := RNode.mk (x := (⟨#[]⟩, [], [], false, (0, 0, 0), 0, 0)) (h1 := (none, 0, 0)) (h2 := (none, 0, 0)) (Nat.zero_le _) (SlAt.nil _ _ none 0 (fun _ => rfl)) (SlAt.nil _ _ none 0 (fun _ => rfl))
theorem zVolume_rep (A : Where) (w : World) : RVolume A w zVolume (⟨#[]⟩, 0, ⟨#[]⟩, [], ⟨#[]⟩) := RVolume.mk (x := (⟨#[]⟩, 0, ⟨#[]⟩, [], ⟨#[]⟩)) (h3 := (none, 0, 0)) (Nat.zero_le _) (Nat.zero_le _) (SlAt.nil _ _ none 0 (fun _ => rfl)) (Nat.zero_le _)
theorem zBudget_rep (A : Where) (w : World) : RBudget A w zBudget (⟨#[]⟩, [], 0) := RBudget.mk (x := (⟨#[]⟩, [], 0)) (h1 := (none, 0, 0)) (Nat.zero_le _) (SlAt.nil _ _ none 0 (fun _ => rfl))
theorem podZ (c : List Value) (A : Where) (x : PodD) (w : World) (h : RPod A w c x) : Calls prog 41 #[.agg c.toArray, .agg zPod.toArray] w fun e w' => e = .returned (.bool (blankPod x)) ∧ Below w.heap.size w w' := by
 cases hs : scal x
 ·
  exact SamePod_zeroa c A x w h hs
 ·
  exact SamePod_zerob c A x w h hs
theorem nodeZ (c : List Value) (A : Where) (x : NodeD) (w : World) (h : RNode A w c x) : Calls prog 42 #[.agg c.toArray, .agg zNode.toArray] w fun e w' => e = .returned (.bool (blankNode x)) ∧ Below w.heap.size w w' := (SameNode_calls c zNode A A x _ w h (zNode_rep A w)).mono fun _ _ ⟨h1, h2⟩ => ⟨tells_b h1 (blankNode_iff x), h2⟩
theorem nodeY (c c' : List Value) (A A' : Where) (x : NodeD) (w : World) (h : RNode A w c x) (h' : RNode A' w c' x) : Calls prog 42 #[.agg c.toArray, .agg c'.toArray] w fun e w' => e = .returned (.bool true) ∧ Below w.heap.size w w' := (SameNode_calls c c' A A' x x w h h').mono fun _ _ ⟨h1, h2⟩ => ⟨tells_b h1 (by simp), h2⟩
theorem volumeZ (c : List Value) (A : Where) (x : VolumeD) (w : World) (h : RVolume A w c x) : Calls prog 43 #[.agg c.toArray, .agg zVolume.toArray] w fun e w' => e = .returned (.bool (blankVolume x)) ∧ Below w.heap.size w w' := (SameVolume_calls c zVolume A A x _ w h (zVolume_rep A w)).mono fun _ _ ⟨h1, h2⟩ => ⟨tells_b h1 (blankVolume_iff x), h2⟩
theorem volumeY (c c' : List Value) (A A' : Where) (x : VolumeD) (w : World) (h : RVolume A w c x) (h' : RVolume A' w c' x) : Calls prog 43 #[.agg c.toArray, .agg c'.toArray] w fun e w' => e = .returned (.bool true) ∧ Below w.heap.size w w' := (SameVolume_calls c c' A A' x x w h h').mono fun _ _ ⟨h1, h2⟩ => ⟨tells_b h1 (by simp), h2⟩
theorem budgetZ (c : List Value) (A : Where) (x : BudgetD) (w : World) (h : RBudget A w c x) : Calls prog 44 #[.agg c.toArray, .agg zBudget.toArray] w fun e w' => e = .returned (.bool (blankBudget x)) ∧ Below w.heap.size w w' := (SameBudget_calls c zBudget A A x _ w h (zBudget_rep A w)).mono fun _ _ ⟨h1, h2⟩ => ⟨tells_b h1 (blankBudget_iff x), h2⟩
theorem budgetY (c c' : List Value) (A A' : Where) (x : BudgetD) (w : World) (h : RBudget A w c x) (h' : RBudget A' w c' x) : Calls prog 44 #[.agg c.toArray, .agg c'.toArray] w fun e w' => e = .returned (.bool true) ∧ Below w.heap.size w w' := (SameBudget_calls c c' A A' x x w h h').mono fun _ _ ⟨h1, h2⟩ => ⟨tells_b h1 (by simp), h2⟩
theorem podY (c c' : List Value) (A A' : Where) (x : PodD) (w : World) (h : RPod A w c x) (h' : RPod A' w c' x) : Calls prog 41 #[.agg c.toArray, .agg c'.toArray] w fun e w' => e = .returned (.bool true) ∧ Below w.heap.size w w' := SamePod_yes c c' A A' x w h h'
theorem classZ (c : List Value) (A : Where) (x : ClassD) (w : World) (h : RClass A w c x) (u : World) : Sem.run prog (binOp .eql 42 (.agg c.toArray) (.agg zClass.toArray)) u = .ok (.bool (blankClass x)) u := by
 obtain ⟨rfl, _⟩ := h.out
 exact eqC0 x u
theorem claimZ (c : List Value) (A : Where) (x : ClaimD) (w : World) (h : RClaim A w c x) (u : World) : Sem.run prog (binOp .eql 40 (.agg c.toArray) (.agg zClaim.toArray)) u = .ok (.bool (blankClaim x)) u := by
 obtain ⟨rfl, _⟩ := h.out
 exact eqM0 x u
theorem classY (c c' : List Value) (A A' : Where) (x : ClassD) (w w1 : World) (h : RClass A w c x) (h' : RClass A' w1 c' x) (u : World) : Sem.run prog (binOp .eql 42 (.agg c.toArray) (.agg c'.toArray)) u = .ok (.bool true) u := by
 obtain ⟨rfl, _⟩ := h.out
 obtain ⟨rfl, _⟩ := h'.out
 have u0 := underlying4
 have a0 := Tryz.isAgg4
 have z0 := Tryz.sizeOf4
 have u1 := underlying9
 have a1 := Tryz.isAgg9
 have z1 := Tryz.sizeOf9
 have hS : prog.underlying 42 = some (.struct (prog.fieldsOf 42)) := by kernel_rfl
 have hp : prog.stoodInHeld 42 = false := by kernel_rfl
 rw [run_eql_struct, show (10000 : Nat) = 9999 + 1 from rfl, run_equalIn_agg u 9999 42 _ _ hS hp]
 simp only [Program.fieldsOf, underlying42]
 go_simp
theorem claimY (c c' : List Value) (A A' : Where) (x : ClaimD) (w w1 : World) (h : RClaim A w c x) (h' : RClaim A' w1 c' x) (u : World) : Sem.run prog (binOp .eql 40 (.agg c.toArray) (.agg c'.toArray)) u = .ok (.bool true) u := by
 obtain ⟨rfl, _⟩ := h.out
 obtain ⟨rfl, _⟩ := h'.out
 have u0 := underlying3
 have a0 := Tryz.isAgg3
 have z0 := Tryz.sizeOf3
 have u1 := underlying9
 have a1 := Tryz.isAgg9
 have z1 := Tryz.sizeOf9
 have hS : prog.underlying 40 = some (.struct (prog.fieldsOf 40)) := by kernel_rfl
 have hp : prog.stoodInHeld 40 = false := by kernel_rfl
 rw [run_eql_struct, show (10000 : Nat) = 9999 + 1 from rfl, run_equalIn_agg u 9999 40 _ _ hS hp]
 simp only [Program.fieldsOf, underlying40]
 go_simp
theorem obj_len {A : Where} {w : World} {x : ObjectD} {p n v m l b : List Value} (hp : RPod A w p x.2.1) (hn : RNode A w n x.2.2.1) (hv : RVolume A w v x.2.2.2.1) (hm : RClaim A w m x.2.2.2.2.1) (hl : RClass A w l x.2.2.2.2.2.1) (hb : RBudget A w b x.2.2.2.2.2.2) : ObjL p n v m l b := ⟨RPod.firm.len hp, RNode.firm.len hn, RVolume.firm.len hv, RClaim.firm.len hm, RClass.firm.len hl, RBudget.firm.len hb⟩
theorem othersPod (x : ObjectD) (hk : x.1 = 1) : othersB x = (true && true && blankNode x.2.2.1 && blankVolume x.2.2.2.1 && blankClaim x.2.2.2.2.1 && blankClass x.2.2.2.2.2.1 && blankBudget x.2.2.2.2.2.2) := by
 have : List.range 6 = [0, 1, 2, 3, 4, 5] := rfl
 rw [othersB, allTo, this]
 simp only [List.all_cons, List.all_nil, okO, hk]
 simp [Bool.and_assoc]
theorem samePod (A : Where) (x : ObjectD) (p n v m l b : List Value) (w : World) (hp : RPod A w p x.2.1) (hn : RNode A w n x.2.2.1) (hv : RVolume A w v x.2.2.2.1) (hm : RClaim A w m x.2.2.2.2.1) (hl : RClass A w l x.2.2.2.2.2.1) (hb : RBudget A w b x.2.2.2.2.2.2) (hk : x.1 = 1) : Calls prog 13 #[.agg ([Value.int .i64 1] ++ (p ++ (n ++ (v ++ (m ++ (l ++ (b))))))).toArray, .agg ([Value.int .i64 1] ++ (p ++ (zNode ++ (zVolume ++ (zClaim ++ (zClass ++ (zBudget))))))).toArray] w fun e w' => e = .returned (.bool (othersB x)) ∧ Below w.heap.size w w' := by
 rw [othersPod x hk]
 exact SameObject_of 1 1 p n v m l b p zNode zVolume zClaim zClass zBudget (obj_len hp hn hv hm hl hb) ⟨RPod.firm.len hp, rfl, rfl, rfl, rfl, rfl⟩ w true true (blankNode x.2.2.1) (blankVolume x.2.2.2.1) (blankClaim x.2.2.2.2.1) (blankClass x.2.2.2.2.2.1) (blankBudget x.2.2.2.2.2.2) (by simp) (fun u hu => podY _ _ A A _ u (RPod.firm.kept hp (Kept.below hu)) (RPod.firm.kept hp (Kept.below hu))) (fun u hu => nodeZ _ A _ u (RNode.firm.kept hn (Kept.below hu))) (fun u hu => volumeZ _ A _ u (RVolume.firm.kept hv (Kept.below hu))) (claimZ _ A _ w hm) (classZ _ A _ w hl) (fun u hu => budgetZ _ A _ u (RBudget.firm.kept hb (Kept.below hu)))
theorem othersNode (x : ObjectD) (hk : x.1 = 2) : othersB x = (true && blankPod x.2.1 && true && blankVolume x.2.2.2.1 && blankClaim x.2.2.2.2.1 && blankClass x.2.2.2.2.2.1 && blankBudget x.2.2.2.2.2.2) := by
 have : List.range 6 = [0, 1, 2, 3, 4, 5] := rfl
 rw [othersB, allTo, this]
 simp only [List.all_cons, List.all_nil, okO, hk]
 simp [Bool.and_assoc]
theorem sameNode (A : Where) (x : ObjectD) (p n v m l b : List Value) (w : World) (hp : RPod A w p x.2.1) (hn : RNode A w n x.2.2.1) (hv : RVolume A w v x.2.2.2.1) (hm : RClaim A w m x.2.2.2.2.1) (hl : RClass A w l x.2.2.2.2.2.1) (hb : RBudget A w b x.2.2.2.2.2.2) (hk : x.1 = 2) : Calls prog 13 #[.agg ([Value.int .i64 2] ++ (p ++ (n ++ (v ++ (m ++ (l ++ (b))))))).toArray, .agg ([Value.int .i64 2] ++ (zPod ++ (n ++ (zVolume ++ (zClaim ++ (zClass ++ (zBudget))))))).toArray] w fun e w' => e = .returned (.bool (othersB x)) ∧ Below w.heap.size w w' := by
 rw [othersNode x hk]
 exact SameObject_of 2 2 p n v m l b zPod n zVolume zClaim zClass zBudget (obj_len hp hn hv hm hl hb) ⟨rfl, RNode.firm.len hn, rfl, rfl, rfl, rfl⟩ w true (blankPod x.2.1) true (blankVolume x.2.2.2.1) (blankClaim x.2.2.2.2.1) (blankClass x.2.2.2.2.2.1) (blankBudget x.2.2.2.2.2.2) (by simp) (fun u hu => podZ _ A _ u (RPod.firm.kept hp (Kept.below hu))) (fun u hu => nodeY _ _ A A _ u (RNode.firm.kept hn (Kept.below hu)) (RNode.firm.kept hn (Kept.below hu))) (fun u hu => volumeZ _ A _ u (RVolume.firm.kept hv (Kept.below hu))) (claimZ _ A _ w hm) (classZ _ A _ w hl) (fun u hu => budgetZ _ A _ u (RBudget.firm.kept hb (Kept.below hu)))
theorem othersVolume (x : ObjectD) (hk : x.1 = 3) : othersB x = (true && blankPod x.2.1 && blankNode x.2.2.1 && true && blankClaim x.2.2.2.2.1 && blankClass x.2.2.2.2.2.1 && blankBudget x.2.2.2.2.2.2) := by
 have : List.range 6 = [0, 1, 2, 3, 4, 5] := rfl
 rw [othersB, allTo, this]
 simp only [List.all_cons, List.all_nil, okO, hk]
 simp [Bool.and_assoc]
theorem sameVolume (A : Where) (x : ObjectD) (p n v m l b : List Value) (w : World) (hp : RPod A w p x.2.1) (hn : RNode A w n x.2.2.1) (hv : RVolume A w v x.2.2.2.1) (hm : RClaim A w m x.2.2.2.2.1) (hl : RClass A w l x.2.2.2.2.2.1) (hb : RBudget A w b x.2.2.2.2.2.2) (hk : x.1 = 3) : Calls prog 13 #[.agg ([Value.int .i64 3] ++ (p ++ (n ++ (v ++ (m ++ (l ++ (b))))))).toArray, .agg ([Value.int .i64 3] ++ (zPod ++ (zNode ++ (v ++ (zClaim ++ (zClass ++ (zBudget))))))).toArray] w fun e w' => e = .returned (.bool (othersB x)) ∧ Below w.heap.size w w' := by
 rw [othersVolume x hk]
 exact SameObject_of 3 3 p n v m l b zPod zNode v zClaim zClass zBudget (obj_len hp hn hv hm hl hb) ⟨rfl, rfl, RVolume.firm.len hv, rfl, rfl, rfl⟩ w true (blankPod x.2.1) (blankNode x.2.2.1) true (blankClaim x.2.2.2.2.1) (blankClass x.2.2.2.2.2.1) (blankBudget x.2.2.2.2.2.2) (by simp) (fun u hu => podZ _ A _ u (RPod.firm.kept hp (Kept.below hu))) (fun u hu => nodeZ _ A _ u (RNode.firm.kept hn (Kept.below hu))) (fun u hu => volumeY _ _ A A _ u (RVolume.firm.kept hv (Kept.below hu)) (RVolume.firm.kept hv (Kept.below hu))) (claimZ _ A _ w hm) (classZ _ A _ w hl) (fun u hu => budgetZ _ A _ u (RBudget.firm.kept hb (Kept.below hu)))
theorem othersClaim (x : ObjectD) (hk : x.1 = 4) : othersB x = (true && blankPod x.2.1 && blankNode x.2.2.1 && blankVolume x.2.2.2.1 && true && blankClass x.2.2.2.2.2.1 && blankBudget x.2.2.2.2.2.2) := by
 have : List.range 6 = [0, 1, 2, 3, 4, 5] := rfl
 rw [othersB, allTo, this]
 simp only [List.all_cons, List.all_nil, okO, hk]
 simp [Bool.and_assoc]
theorem sameClaim (A : Where) (x : ObjectD) (p n v m l b : List Value) (w : World) (hp : RPod A w p x.2.1) (hn : RNode A w n x.2.2.1) (hv : RVolume A w v x.2.2.2.1) (hm : RClaim A w m x.2.2.2.2.1) (hl : RClass A w l x.2.2.2.2.2.1) (hb : RBudget A w b x.2.2.2.2.2.2) (hk : x.1 = 4) : Calls prog 13 #[.agg ([Value.int .i64 4] ++ (p ++ (n ++ (v ++ (m ++ (l ++ (b))))))).toArray, .agg ([Value.int .i64 4] ++ (zPod ++ (zNode ++ (zVolume ++ (m ++ (zClass ++ (zBudget))))))).toArray] w fun e w' => e = .returned (.bool (othersB x)) ∧ Below w.heap.size w w' := by
 rw [othersClaim x hk]
 exact SameObject_of 4 4 p n v m l b zPod zNode zVolume m zClass zBudget (obj_len hp hn hv hm hl hb) ⟨rfl, rfl, rfl, RClaim.firm.len hm, rfl, rfl⟩ w true (blankPod x.2.1) (blankNode x.2.2.1) (blankVolume x.2.2.2.1) true (blankClass x.2.2.2.2.2.1) (blankBudget x.2.2.2.2.2.2) (by simp) (fun u hu => podZ _ A _ u (RPod.firm.kept hp (Kept.below hu))) (fun u hu => nodeZ _ A _ u (RNode.firm.kept hn (Kept.below hu))) (fun u hu => volumeZ _ A _ u (RVolume.firm.kept hv (Kept.below hu))) (claimY _ _ A A _ w w hm hm) (classZ _ A _ w hl) (fun u hu => budgetZ _ A _ u (RBudget.firm.kept hb (Kept.below hu)))
theorem othersClass (x : ObjectD) (hk : x.1 = 5) : othersB x = (true && blankPod x.2.1 && blankNode x.2.2.1 && blankVolume x.2.2.2.1 && blankClaim x.2.2.2.2.1 && true && blankBudget x.2.2.2.2.2.2) := by
 have : List.range 6 = [0, 1, 2, 3, 4, 5] := rfl
 rw [othersB, allTo, this]
 simp only [List.all_cons, List.all_nil, okO, hk]
 simp [Bool.and_assoc]
theorem sameClass (A : Where) (x : ObjectD) (p n v m l b : List Value) (w : World) (hp : RPod A w p x.2.1) (hn : RNode A w n x.2.2.1) (hv : RVolume A w v x.2.2.2.1) (hm : RClaim A w m x.2.2.2.2.1) (hl : RClass A w l x.2.2.2.2.2.1) (hb : RBudget A w b x.2.2.2.2.2.2) (hk : x.1 = 5) : Calls prog 13 #[.agg ([Value.int .i64 5] ++ (p ++ (n ++ (v ++ (m ++ (l ++ (b))))))).toArray, .agg ([Value.int .i64 5] ++ (zPod ++ (zNode ++ (zVolume ++ (zClaim ++ (l ++ (zBudget))))))).toArray] w fun e w' => e = .returned (.bool (othersB x)) ∧ Below w.heap.size w w' := by
 rw [othersClass x hk]
 exact SameObject_of 5 5 p n v m l b zPod zNode zVolume zClaim l zBudget (obj_len hp hn hv hm hl hb) ⟨rfl, rfl, rfl, rfl, RClass.firm.len hl, rfl⟩ w true (blankPod x.2.1) (blankNode x.2.2.1) (blankVolume x.2.2.2.1) (blankClaim x.2.2.2.2.1) true (blankBudget x.2.2.2.2.2.2) (by simp) (fun u hu => podZ _ A _ u (RPod.firm.kept hp (Kept.below hu))) (fun u hu => nodeZ _ A _ u (RNode.firm.kept hn (Kept.below hu))) (fun u hu => volumeZ _ A _ u (RVolume.firm.kept hv (Kept.below hu))) (claimZ _ A _ w hm) (classY _ _ A A _ w w hl hl) (fun u hu => budgetZ _ A _ u (RBudget.firm.kept hb (Kept.below hu)))
theorem othersBudget (x : ObjectD) (hk : x.1 = 6) : othersB x = (true && blankPod x.2.1 && blankNode x.2.2.1 && blankVolume x.2.2.2.1 && blankClaim x.2.2.2.2.1 && blankClass x.2.2.2.2.2.1 && true) := by
 have : List.range 6 = [0, 1, 2, 3, 4, 5] := rfl
 rw [othersB, allTo, this]
 simp only [List.all_cons, List.all_nil, okO, hk]
 simp [Bool.and_assoc]
theorem sameBudget (A : Where) (x : ObjectD) (p n v m l b : List Value) (w : World) (hp : RPod A w p x.2.1) (hn : RNode A w n x.2.2.1) (hv : RVolume A w v x.2.2.2.1) (hm : RClaim A w m x.2.2.2.2.1) (hl : RClass A w l x.2.2.2.2.2.1) (hb : RBudget A w b x.2.2.2.2.2.2) (hk : x.1 = 6) : Calls prog 13 #[.agg ([Value.int .i64 6] ++ (p ++ (n ++ (v ++ (m ++ (l ++ (b))))))).toArray, .agg ([Value.int .i64 6] ++ (zPod ++ (zNode ++ (zVolume ++ (zClaim ++ (zClass ++ (b))))))).toArray] w fun e w' => e = .returned (.bool (othersB x)) ∧ Below w.heap.size w w' := by
 rw [othersBudget x hk]
 exact SameObject_of 6 6 p n v m l b zPod zNode zVolume zClaim zClass b (obj_len hp hn hv hm hl hb) ⟨rfl, rfl, rfl, rfl, rfl, RBudget.firm.len hb⟩ w true (blankPod x.2.1) (blankNode x.2.2.1) (blankVolume x.2.2.2.1) (blankClaim x.2.2.2.2.1) (blankClass x.2.2.2.2.2.1) true (by simp) (fun u hu => podZ _ A _ u (RPod.firm.kept hp (Kept.below hu))) (fun u hu => nodeZ _ A _ u (RNode.firm.kept hn (Kept.below hu))) (fun u hu => volumeZ _ A _ u (RVolume.firm.kept hv (Kept.below hu))) (claimZ _ A _ w hm) (classZ _ A _ w hl) (fun u hu => budgetY _ _ A A _ u (RBudget.firm.kept hb (Kept.below hu)) (RBudget.firm.kept hb (Kept.below hu)))
theorem rWord_as (s : ByteArray) (b : Bool) (h : wordB s = b) (hs : s.size ≤ 140737488355328) (w : World) : Calls prog 39 #[.string s] w fun e w' => e = .returned (.bool b) ∧ w' = w := h ▸ rWord_calls s hs w
theorem rLCheck_calls (a : Option Addr) (cap : Nat) (L : List Lab) (w : World) (hL : Hid (LabsAt w a L)) : Calls prog 55 #[.slice a L.length cap] w fun e w' => e = .returned (.int .i64 (checkI L)) ∧ Below w.heap.size w w' := by
 by_cases h64 : (64 : Int) < (L.length : Int)
 ·
  have HF : Hid (checkI L = 3) := checkI_long (by omega)
  go_enter func55, ntmps55
  go_wp2
  go_ret
  exact ⟨reti HF.out.symm, Below.refl _ _⟩
 go_enter func55, ntmps55
 go_wp2
 go_loopw [3] (fun i wr => ∃ k : Nat, k ≤ L.length ∧ i = .int .i64 k ∧ Below w.heap.size w wr ∧ Hid (∀ j, j < k → labOk L j = true)) (fun i _ => L.length - (intOf i).toNat)
 case atStart => exact ⟨0, Nat.zero_le _, rfl, Below.refl _ _, fun j hj => absurd hj (Nat.not_lt_zero _)⟩
 case round =>
  obtain ⟨k, hk, rfl, hbel, hall⟩ := hrel
  by_cases hlt : k < L.length
  ·
   obtain ⟨B, off, rfl, hB, c0, c1, s0, s1⟩ := hL.out.get hlt
   have d0 := (hbel.cell (p := ⟨B, off + k * 2, none⟩) hB).trans c0
   have d1 := (hbel.cell (p := ⟨B, off + k * 2 + 1, none⟩) hB).trans c1
   clear c0 c1
   have hbad : Hid (labOk L k = false → checkI L = 20) := fun h => checkI_bad (by omega) hlt h
   have hgo : Hid (labOk L k = true → ∀ j, j < k + 1 → labOk L j = true) := fun h j hj => by
    rcases Nat.lt_succ_iff_lt_or_eq.1 hj with h' | rfl
    ·
     exact hall.out j h'
    ·
     exact h
   have hok : Hid (labOk L k = (wordB (L.getD k default).1 && valB (L.getD k default).2 && (decide (k = 0) || sLt (L.getD (k - 1) default).1 (L.getD k default).1))) := rfl
   clear hall
   cases hw : wordB (L.getD k default).1
   ·
    have HF : Hid (checkI L = 20) := hbad.out (by rw [hok.out, hw]; rfl)
    clear hbad hgo hok
    generalize L.getD k default = x at d0 d1 s0 s1 hw
    go_wp2_with fail
    go_big_quiet ((go_at_call 39; exact Calls.quiet_of_same (rWord_as _ _ (by assumption) (by assumption) _)))
    go_wp2_with fail
    go_ret
    exact ⟨reti HF.out.symm, on2 hbel (below_drewN (Below.refl _ _) _)⟩
   ·
    have HV := val_split (L.getD k default).2
    have HK : (Hid (k = 0) ∧ decide (0 < k) = false) ∨ (Hid (0 < k) ∧ decide (0 < k) = true ∧ ∃ m : Nat, Hid (k = m + 1) ∧ IntKind.i64.wrap ((k : Int) - 1) = (m : Int) ∧ m < L.length) := by
     rcases Nat.eq_zero_or_pos k with h0 | h0
     ·
      exact .inl ⟨h0, by simp; omega⟩
     ·
      refine .inr ⟨h0, by simp; omega, k - 1, by unfold Hid; omega, ?_, by omega⟩
      obtain ⟨m, rfl⟩ : ∃ m, k = m + 1 := ⟨k - 1, by omega⟩
      simp only [Int.natCast_add, Int.cast_ofNat_Int, Int.add_sub_cancel, Nat.add_sub_cancel]
      simp [IntKind.wrap, IntKind.bits, IntKind.signed]; omega
    rcases HV with ⟨he, hv⟩ | ⟨he, hv⟩
    ·
     rcases HK with ⟨h0, b0⟩ | ⟨h0, b0, m, hm, hmw, hml⟩
     ·
      have HG : Hid (∀ j, j < k + 1 → labOk L j = true) := hgo.out (by rw [hok.out, hw, hv.out, h0.out]; rfl)
      clear hv hbad hgo hok h0
      generalize L.getD k default = x at d0 d1 s0 s1 hw he
      go_wp2_with fail
      go_big_quiet ((go_at_call 39; exact Calls.quiet_of_same (rWord_as _ _ (by assumption) (by assumption) _)))
      go_wp2_with fail
      go_roundw
      case rel => exact ⟨k + 1, by omega, by go_num, on2 hbel (below_drewN (Below.refl _ _) _), HG⟩
      case measure => simp [intOf]; omega
     ·
      obtain ⟨B', off', e', hB', c0, c1, s0', s1'⟩ := hL.out.get hml
      obtain ⟨rfl, rfl⟩ : B = B' ∧ off = off' := by simpa using e'
      have hBw : B < wr.heap.size := Nat.lt_of_lt_of_le hB hbel.size
      have p0 := (hbel.cell (p := ⟨B, off + m * 2, none⟩) hB).trans c0
      have hkm : k - 1 = m := by have := hm.out; omega
      have hk0 : Hid (decide (k = 0) = false) := by have := h0.out; simp [Hid]; omega
      rw [hkm] at hok
      clear c0 c1 s0' s1' e' hB' hkm h0
      cases hs : sLt (L.getD m default).1 (L.getD k default).1
      ·
       have HF : Hid (checkI L = 20) := hbad.out (by rw [hok.out, hw, hv.out, hs, hk0.out]; rfl)
       unfold sLt at hs
       clear hv hbad hgo hok hk0
       generalize L.getD k default = x at d0 d1 s0 s1 hw he hs
       generalize L.getD m default = y at p0 hs
       go_wp2_with fail
       go_big_quiet ((go_at_call 39; exact Calls.quiet_of_same (rWord_as _ _ (by assumption) (by assumption) _)))
       go_wp2_with fail
       go_ret
       exact ⟨reti HF.out.symm, on2 hbel (below_drewN (Below.refl _ _) _)⟩
      ·
       have HG : Hid (∀ j, j < k + 1 → labOk L j = true) := hgo.out (by rw [hok.out, hw, hv.out, hs, hk0.out]; rfl)
       unfold sLt at hs
       clear hv hbad hgo hok hk0
       generalize L.getD k default = x at d0 d1 s0 s1 hw he hs
       generalize L.getD m default = y at p0 hs
       go_wp2_with fail
       go_big_quiet ((go_at_call 39; exact Calls.quiet_of_same (rWord_as _ _ (by assumption) (by assumption) _)))
       go_wp2_with fail
       go_roundw
       case rel => exact ⟨k + 1, by omega, by go_num, on2 hbel (below_drewN (Below.refl _ _) _), HG⟩
       case measure => simp [intOf]; omega
    ·
     cases hv2 : wordB (L.getD k default).2
     ·
      rw [hv2] at hv
      have HF : Hid (checkI L = 20) := hbad.out (by rw [hok.out, hw, hv.out]; rfl)
      clear hv hbad hgo hok HK
      generalize L.getD k default = x at d0 d1 s0 s1 hw hv2 he
      go_wp2_with fail
      go_big_quiet ((go_at_call 39; exact Calls.quiet_of_same (rWord_as _ _ (by assumption) (by assumption) _)))
      go_wp2_with fail
      go_ret
      exact ⟨reti HF.out.symm, on2 hbel (below_drewN (Below.refl _ _) _)⟩
     ·
      rw [hv2] at hv
      rcases HK with ⟨h0, b0⟩ | ⟨h0, b0, m, hm, hmw, hml⟩
      ·
       have HG : Hid (∀ j, j < k + 1 → labOk L j = true) := hgo.out (by rw [hok.out, hw, hv.out, h0.out]; rfl)
       clear hv hbad hgo hok h0
       generalize L.getD k default = x at d0 d1 s0 s1 hw hv2 he
       go_wp2_with fail
       go_big_quiet ((go_at_call 39; exact Calls.quiet_of_same (rWord_as _ _ (by assumption) (by assumption) _)))
       go_wp2_with fail
       go_roundw
       case rel => exact ⟨k + 1, by omega, by go_num, on2 hbel (below_drewN (Below.refl _ _) _), HG⟩
       case measure => simp [intOf]; omega
      ·
       obtain ⟨B', off', e', hB', c0, c1, s0', s1'⟩ := hL.out.get hml
       obtain ⟨rfl, rfl⟩ : B = B' ∧ off = off' := by simpa using e'
       have hBw : B < wr.heap.size := Nat.lt_of_lt_of_le hB hbel.size
       have p0 := (hbel.cell (p := ⟨B, off + m * 2, none⟩) hB).trans c0
       have hkm : k - 1 = m := by have := hm.out; omega
       have hk0 : Hid (decide (k = 0) = false) := by have := h0.out; simp [Hid]; omega
       rw [hkm] at hok
       clear c0 c1 s0' s1' e' hB' hkm h0
       cases hs : sLt (L.getD m default).1 (L.getD k default).1
       ·
        have HF : Hid (checkI L = 20) := hbad.out (by rw [hok.out, hw, hv.out, hs, hk0.out]; rfl)
        unfold sLt at hs
        clear hv hbad hgo hok hk0
        generalize L.getD k default = x at d0 d1 s0 s1 hw hv2 he hs
        generalize L.getD m default = y at p0 hs
        go_wp2_with fail
        go_big_quiet ((go_at_call 39; exact Calls.quiet_of_same (rWord_as _ _ (by assumption) (by assumption) _)))
        go_wp2_with fail
        go_ret
        exact ⟨reti HF.out.symm, on2 hbel (below_drewN (Below.refl _ _) _)⟩
       ·
        have HG : Hid (∀ j, j < k + 1 → labOk L j = true) := hgo.out (by rw [hok.out, hw, hv.out, hs, hk0.out]; rfl)
        unfold sLt at hs
        clear hv hbad hgo hok hk0
        generalize L.getD k default = x at d0 d1 s0 s1 hw hv2 he hs
        generalize L.getD m default = y at p0 hs
        go_wp2_with fail
        go_big_quiet ((go_at_call 39; exact Calls.quiet_of_same (rWord_as _ _ (by assumption) (by assumption) _)))
        go_wp2_with fail
        go_roundw
        case rel => exact ⟨k + 1, by omega, by go_num, on2 hbel (below_drewN (Below.refl _ _) _), HG⟩
        case measure => simp [intOf]; omega
  ·
   have HF : Hid (checkI L = 0) := checkI_ok (by omega) (fun j hj => hall.out j (by omega))
   go_wp2
   go_ret
   exact ⟨reti HF.out.symm, hbel⟩
end Go.Proofs.YtfbnnfpnjjjfcaaGreat

