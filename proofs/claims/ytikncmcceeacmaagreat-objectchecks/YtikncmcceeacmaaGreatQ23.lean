/- kept.remove at Class, and its like. No condition beyond what each says. -/
import Derived.Laws.Cover1
import Derived.Great.BuildSlice
import Derived.Lib.OwnBridge
import Derived.Lib.AppendIntMem
import Derived.Deep.Slices
import Derived.Deep.Strs
import Derived.SizedLaws
import Derived.Test.YtikncmcceeacmaaGreatQ22
namespace Go.Proofs.YtikncmcceeacmaaGreat
set_option maxHeartbeats 16000000
set_option maxRecDepth 100000
open Tryz Go.RowKit
set_option linter.unusedSimpArgs false
def StV (A : Where) (w u : World) (gs : List Value) (x : StateD) : Prop := ∃ g0 g1 g2 g3 g4 g5 : Hd, gs = [J g0, J g1, J g2, J g3, J g4, J g5] ∧ OwnSt A w u (J g0) (J g1) (J g2) (J g3) (J g4) (J g5) x
def Fits (x : StateD) : Prop := x.1.length * 296 ≤ 140737488351232 ∧ x.2.1.length * 112 ≤ 140737488351232 ∧ x.2.2.1.length * 80 ≤ 140737488351232 ∧ x.2.2.2.1.length * 56 ≤ 140737488351232 ∧ x.2.2.2.2.1.length * 24 ≤ 140737488351232 ∧ x.2.2.2.2.2.length * 48 ≤ 140737488351232
theorem StTup.st {A : Where} {w w' : World} {r : StateD × Bool × Int} {e : Ending} (h : StTup A w r e w') : ∃ gs, e = .returned (.tuple #[.agg gs.toArray, .bool r.2.1, .int .i64 r.2.2]) ∧ StV (Lo A w) w w' gs r.1 ∧ Below w.heap.size w w' := by
 obtain ⟨g0, g1, g2, g3, g4, g5, rfl, h1, h2⟩ := h
 exact ⟨_, rfl, ⟨g0, g1, g2, g3, g4, g5, rfl, h1⟩, h2⟩
theorem StV.tup {A : Where} {w w' : World} {gs : List Value} {r : StateD × Bool × Int} (h : StV (Lo A w) w w' gs r.1) (hb : Below w.heap.size w w') : StTup A w r (.returned (.tuple #[.agg gs.toArray, .bool r.2.1, .int .i64 r.2.2])) w' := by
 obtain ⟨g0, g1, g2, g3, g4, g5, rfl, h1⟩ := h
 exact ⟨g0, g1, g2, g3, g4, g5, rfl, h1, hb⟩
theorem StTup2.st {A : Where} {w w' : World} {r : StateD × Bool} {e : Ending} (h : StTup2 A w r e w') : ∃ gs, e = .returned (.tuple #[.agg gs.toArray, .bool r.2]) ∧ StV (Lo A w) w w' gs r.1 ∧ Below w.heap.size w w' := by
 obtain ⟨g0, g1, g2, g3, g4, g5, rfl, h1, h2⟩ := h
 exact ⟨_, rfl, ⟨g0, g1, g2, g3, g4, g5, rfl, h1⟩, h2⟩
section
variable {A : Where} {w u u' : World} {gs : List Value} {x : StateD}
theorem StV.len (h : StV A w u gs x) : gs.length = 6 := by obtain ⟨g0, g1, g2, g3, g4, g5, rfl, h1⟩ := h; rfl
theorem StV.one (h : StV A w u gs x) : ∀ y ∈ gs, y.oneCell' = true := by obtain ⟨g0, g1, g2, g3, g4, g5, rfl, h1⟩ := h; simp [Value.oneCell']
theorem StV.on (h : StV A w u gs x) (hb : Below u.heap.size u u') : StV A w u' gs x := by obtain ⟨g0, g1, g2, g3, g4, g5, rfl, h1⟩ := h; exact ⟨g0, g1, g2, g3, g4, g5, rfl, h1.on hb⟩
theorem StV.below (h : StV A w u gs x) : Below w.heap.size w u := by obtain ⟨g0, g1, g2, g3, g4, g5, rfl, h1⟩ := h; exact h1.below
theorem StV.from {w1 : World} {A' : Where} (h : StV A w1 u gs x) (hb : Below w.heap.size w w1) (hA : ∀ b, A b → A' b) : StV A' w u gs x := by obtain ⟨g0, g1, g2, g3, g4, g5, rfl, h1⟩ := h; exact ⟨g0, g1, g2, g3, g4, g5, rfl, h1.from hb hA⟩
theorem StV.wrote {b o : Nat} {cs : List Value} (h : StV (Lo (Lo A w) u) u u' gs x) (hw : Below w.heap.size w u) (hb1 : w.heap.size ≤ b) (hb2 : b < u.heap.size) : StV (Lo A w) w (u'.setCells b o cs) gs x := by
 obtain ⟨g0, g1, g2, g3, g4, g5, rfl, h1⟩ := h
 have h2 := h1.from hw (A' := Lo A w) (fun b h => h.1)
 refine ⟨g0, g1, g2, g3, g4, g5, rfl, h2.kept (below_setCells h2.below hb1) (kept_setCells (fun h => ?_))⟩
 rcases h with h | h
 ·
  exact absurd h.2 (by omega)
 ·
  have := (h1.lt h).1; omega
theorem StV.rstate (h : StV A w u gs x) (hf : Fits x) : RState (fun b => A b ∨ Fresh w b) u gs x := by
 obtain ⟨g0, g1, g2, g3, g4, g5, rfl, h1⟩ := h
 obtain ⟨f0, f1, f2, f3, f4, f5⟩ := hf
 exact RState.mk (h1.r0.slG RPod.firm f0) (h1.r1.slG RNode.firm f1) (h1.r2.slG RVolume.firm f2) (h1.r3.slG RClaim.firm f3) (h1.r4.slG RClass.firm f4) (h1.r5.slG RBudget.firm f5)
theorem StV.empty (hb : Below w.heap.size w u) : StV A w u [Z, Z, Z, Z, Z, Z] noState := ⟨(none, 0, 0), (none, 0, 0), (none, 0, 0), (none, 0, 0), (none, 0, 0), (none, 0, 0), rfl, OwnSt.none hb⟩
theorem noState_rep : RState A w [Z, Z, Z, Z, Z, Z] noState := (StV.empty (A := A) (Below.refl w.heap.size w)).rstate (by simp [Fits, noState]) |> RState.firm.weak <| fun b hb h => by rcases h with h | h; exact h; exact absurd hb (Nat.not_lt.2 h)
end
theorem Class_oput (ss cs : List Value) (A : Where) (x : StateD) (o : ObjectD) (w : World) (hs : RState A w ss x) (ho : RObject A w cs o) : Calls prog 287 #[.agg #[.iface 152 (.agg #[])], .agg ss.toArray, .agg cs.toArray] w fun e w' => StTup A w (putSClass x o.2.2.2.2.2.1) e w' := by
 have hl := RObject.firm.len ho
 obtain ⟨p, c, q, rfl, hp, hr⟩ := partClass ho
 obtain ⟨h0, h1, h2, h3, h4, h5, rfl, q0, q1, q2, q3, q4, q5⟩ := RState.out hs
 exact Class_kput h0 h1 h2 h3 h4 h5 p c q x _ A w q0 q1 q2 q3 q4 q5 hr hp hl
theorem Put_Class (ss cs : List Value) (A : Where) (x : StateD) (o : ObjectD) (w : World) (hs : RState A w ss x) (ho : RObject A w cs o) (hk : o.1 = 5) (hc : checkO o = 0) : Calls prog 19 #[.agg ss.toArray, .agg cs.toArray] w fun e w' => StTup A w (putSClass x o.2.2.2.2.2.1) e w' := by
 have his : (prog.info? 61).map (·.size) = some ss.length := by rw [RState.firm.len hs]; exact infoSta
 have hi : (prog.info? 46).map (·.size) = some cs.length := by rw [RObject.firm.len ho]; exact infoObj
 have HS : Hid (RState (Lo A w) w ss x) := RState.firm.weak hs (fun b hb h => ⟨h, hb⟩)
 have HO : Hid (RObject (Lo A w) w cs o) := RObject.firm.weak ho (fun b hb h => ⟨h, hb⟩)
 have H0 : Hid (cs[0]? = some (.int .i64 5)) := by rw [Hid, obj0 ho, hk]
 have HC : Hid (∀ u, Below w.heap.size w u → Calls prog 9 #[.agg cs.toArray] u fun e w' => e = .returned (.int .i64 0) ∧ Below u.heap.size u w') := fun u hu => by
  have := Check_calls cs _ o u (RObject.firm.kept HO.out (Kept.below hu))
  rwa [hc] at this
 obtain ⟨r, hr⟩ : ∃ r, putSClass x o.2.2.2.2.2.1 = r := ⟨_, rfl⟩
 have HP : Hid (∀ u, Below w.heap.size w u → Calls prog 287 #[.agg #[.iface 152 (.agg #[])], .agg ss.toArray, .agg cs.toArray] u fun e w' => ∃ gs, e = .returned (.tuple #[.agg gs.toArray, .bool r.2.1, .int .i64 r.2.2]) ∧ StV (Lo (Lo A w) u) u w' gs r.1 ∧ Below u.heap.size u w') := fun u hu => by
  rw [← hr]
  exact (Class_oput ss cs _ x o u (RState.firm.kept HS.out (Kept.below hu)) (RObject.firm.kept HO.out (Kept.below hu))).mono (fun e w' h => h.st)
 rw [hr]
 clear hr hk hc
 clear hs ho
 obtain ⟨U0, hU0⟩ : ∃ U0, U0 = (((w.alloc (.cells ss.toArray 61)).alloc (.cells cs.toArray 46)).alloc (.cells #[Z, Z, Z, Z, Z, Z] 61)) := ⟨_, rfl⟩
 have HH0 : Hid (Held w [(w.heap.size + 1, cs), (w.heap.size, ss)] [(w.heap.size + 1 + 1, 6)] U0) := by rw [Hid, hU0]; exact (((Held.start w).push rfl ss 61).push (by simp) cs 46).room (by simp) #[Z, Z, Z, Z, Z, Z] 61
 have HU : Hid (U0.heap.size = w.heap.size + 1 + 1 + 1) := by rw [Hid, hU0]; simp
 have HR0 : Hid ((((w.alloc (.cells ss.toArray 61)).alloc (.cells cs.toArray 46)).alloc (.cells #[Z, Z, Z, Z, Z, Z] 61)).rangeAt (w.heap.size + 1) 0 cs) := by have := HH0.out.get 0 (b := w.heap.size + 1) rfl; rw [hU0] at this; exact this
 go_enter func19, ntmps19
 go_wp2_with (first | (refine BigFrame.wpList_want rfl (fun _ hKK => wp_load_mid 46 _ rfl (w.heap.size + 1) 0 rfl cs _ HR0.out underlying46 rfl hi (hKK _ _ ?_))) | fail)
 rw [← hU0]
 clear hU0 HR0
 refine (HC.out _ HH0.out.below).mono ?_
 rintro e u1 ⟨rfl, hb1⟩
 have HH1 : Hid (Held w [(w.heap.size + 1, cs), (w.heap.size, ss)] [(w.heap.size + 1 + 1, 6)] u1) := HH0.out.on hb1
 have HU1 : Hid (w.heap.size + 1 + 1 < u1.heap.size) := by have := hb1.size; rw [HU.out] at this; rw [Hid]; omega
 have hz := HH1.out.cell 0 (b := w.heap.size + 1) rfl 0 H0.out
 have hzl := HH1.out.lt 0 (b := w.heap.size + 1) rfl
 clear HH0 hb1 HC HU
 go_wp2_with fail
 clear hz hzl
 refine (kindOf_Class _).mono ?_
 rintro e u2 ⟨rfl, hb2⟩
 have HH2 : Hid (Held w [(w.heap.size + 1, cs), (w.heap.size, ss)] [(w.heap.size + 1 + 1, 6)] u2) := HH1.out.on hb2
 have HU2 : Hid (w.heap.size + 1 + 1 < u2.heap.size) := Nat.lt_of_lt_of_le HU1.out hb2.size
 clear HH1 HU1 hb2
 have HRS : Hid (u2.rangeAt (w.heap.size) 0 ss) := HH2.out.get 1 rfl
 have HRO : Hid (u2.rangeAt (w.heap.size + 1) 0 cs) := HH2.out.get 0 rfl
 go_wp2_with (first | (refine BigFrame.wpList_want rfl (fun _ hKK => wp_load_mid 61 _ rfl (w.heap.size) 0 rfl ss _ HRS.out underlying61 rfl his (hKK _ _ ?_))) | (refine BigFrame.wpList_want rfl (fun _ hKK => wp_load_mid 46 _ rfl (w.heap.size + 1) 0 rfl cs _ HRO.out underlying46 rfl hi (hKK _ _ ?_))) | fail)
 clear HRS HRO
 refine (HP.out _ HH2.out.below).mono ?_
 rintro e u3 ⟨gs, rfl, hst, hb3⟩
 have HH3 : Hid (Held w [(w.heap.size + 1, cs), (w.heap.size, ss)] [(w.heap.size + 1 + 1, 6)] u3) := HH2.out.on hb3
 have HT : Hid (u3.there (w.heap.size + 1 + 1) 0 6) := HH3.out.there 0 rfl
 have hgl := hst.len
 have hgo := all_oneCell_toArray hst.one
 have hig : (prog.info? 61).map (·.size) = some gs.toArray.size := by simpa [hgl] using infoSta
 have higl : (prog.info? 61).map (·.size) = some gs.length := by rw [hgl]; exact infoSta
 have HT' : Hid (u3.there (w.heap.size + 1 + 1) 0 gs.toArray.size) := by simpa [Hid, hgl] using HT.out
 have HT'' : Hid (u3.there (w.heap.size + 1 + 1) 0 gs.length) := by rw [Hid, hgl]; exact HT.out
 obtain ⟨u4, hu4⟩ : ∃ u4, u4 = u3.setCells (w.heap.size + 1 + 1) 0 gs := ⟨_, rfl⟩
 have HST : Hid (StV (Lo A w) w u4 gs r.1) := by rw [Hid, hu4]; exact hst.wrote HH2.out.below (by omega) HU2.out
 have HRG : Hid (u4.rangeAt (w.heap.size + 1 + 1) 0 gs) := by rw [Hid, hu4]; exact World.rangeAt_setCells_same _ _ _ _ HT''.out
 have HU4 : Hid (u4 = u3.setCells (w.heap.size + 1 + 1) 0 gs) := hu4
 clear hu4 hst HH2 HH3 HP HT HT'' hb3
 go_wp2_with (first | (refine wpList_store_mid rfl 61 _ _ rfl (w.heap.size + 1 + 1) 0 gs.toArray rfl rfl HT'.out hig hgo ?_; refine wpl_at HU4.out ?_) | fail)
 refine bodyPost_ret (v := .tuple #[.agg gs.toArray, .bool r.2.1, .int .i64 r.2.2]) (res_cell3 (p := 4) (q := 5) (r := 6) (ty := 61) rfl _ _ (w.heap.size + 1 + 1) gs _ _ _ rfl rfl rfl HRG.out underlying61 rfl higl) rfl (HST.out.tup HST.out.below)
end Go.Proofs.YtikncmcceeacmaaGreat

namespace Go.Proofs.YtikncmcceeacmaaGreat
set_option maxHeartbeats 16000000
set_option maxRecDepth 100000
set_option linter.unusedSimpArgs false
theorem cb_cons (a b : UInt8) (xs ys : List UInt8) : (a.toNat < b.toNat ∧ Lib.compareBytes (a :: xs) (b :: ys) = -1) ∨ (b.toNat < a.toNat ∧ Lib.compareBytes (a :: xs) (b :: ys) = 1) ∨ (a.toNat = b.toNat ∧ Lib.compareBytes (a :: xs) (b :: ys) = Lib.compareBytes xs ys) := by
 simp only [Lib.compareBytes]
 by_cases h1 : a < b
 ·
  exact .inl ⟨h1, by rw [if_pos h1]⟩
 ·
  by_cases h2 : b < a
  ·
   exact .inr (.inl ⟨h2, by rw [if_neg h1, if_pos h2]⟩)
  ·
   have h1' : ¬ a.toNat < b.toNat := h1
   have h2' : ¬ b.toNat < a.toNat := h2
   exact .inr (.inr ⟨by omega, by rw [if_neg h1, if_neg h2]⟩)
theorem cb_less : ∀ (a b : List UInt8), (Lib.compareBytes a b < 0) ↔ Op.bytesLess a b = true
 | [], [] => by simp [Lib.compareBytes, Op.bytesLess]
 | [], _ :: _ => by simp [Lib.compareBytes, Op.bytesLess]
 | _ :: _, [] => by simp [Lib.compareBytes, Op.bytesLess]
 | a :: xs, b :: ys => by
  have ih := cb_less xs ys
  rcases cb_cons a b xs ys with ⟨h, e⟩ | ⟨h, e⟩ | ⟨h, e⟩ <;> rw [e] <;> simp only [Op.bytesLess, Bool.or_eq_true, Bool.and_eq_true, decide_eq_true_eq, beq_iff_eq]
  ·
   have : a < b := h
   simp [this]
  ·
   have h1 : ¬ a < b := fun x => by have : a.toNat < b.toNat := x; omega
   have h2 : ¬ a = b := fun x => by rw [x] at h; omega
   simp [h1, h2]
  ·
   have h1 : ¬ a < b := fun x => by have : a.toNat < b.toNat := x; omega
   have h2 : a = b := UInt8.toNat_inj.1 h
   simp [h1, h2, ih]
theorem cb_self : ∀ a : List UInt8, Lib.compareBytes a a = 0
 | [] => rfl
 | a :: xs => by rcases cb_cons a a xs xs with ⟨h, _⟩ | ⟨h, _⟩ | ⟨_, e⟩; omega; omega; rw [e]; exact cb_self xs
theorem cb_trans : ∀ (a b c : List UInt8), Lib.compareBytes a b < 0 → Lib.compareBytes b c < 0 → Lib.compareBytes a c < 0
 | [], [], _, h, _ => by simp [Lib.compareBytes] at h
 | _ :: _, [], _, h, _ => by simp [Lib.compareBytes] at h
 | _, _ :: _, [], _, h => by simp [Lib.compareBytes] at h
 | [], _ :: _, _ :: _, _, _ => by simp [Lib.compareBytes]
 | a :: xs, b :: ys, c :: zs, h1, h2 => by
  rcases cb_cons a b xs ys with ⟨p, e⟩ | ⟨p, e⟩ | ⟨p, e⟩ <;> rw [e] at h1 <;> rcases cb_cons b c ys zs with ⟨q, f⟩ | ⟨q, f⟩ | ⟨q, f⟩ <;> rw [f] at h2 <;> rcases cb_cons a c xs zs with ⟨r, g⟩ | ⟨r, g⟩ | ⟨r, g⟩ <;> rw [g] <;> first | omega | exact cb_trans xs ys zs h1 h2
theorem sLt_iff (a b : ByteArray) : sLt a b = true ↔ Lib.compareBytes a.data.toList b.data.toList < 0 := by
 unfold sLt
 rw [ByteArray.toList_eq, ByteArray.toList_eq]
 exact (cb_less _ _).symm
theorem sLt_false (a b : ByteArray) : sLt a b = false ↔ ¬ Lib.compareBytes a.data.toList b.data.toList < 0 := by
 rw [← sLt_iff]; simp
theorem sLt_trans {a b c : ByteArray} (h1 : sLt a b = true) (h2 : sLt b c = true) : sLt a c = true := by
 rw [sLt_iff] at *; exact cb_trans _ _ _ h1 h2
theorem cb_tri : ∀ a b : List UInt8, (Lib.compareBytes a b < 0 ∧ 0 < Lib.compareBytes b a) ∨ (Lib.compareBytes a b = 0 ∧ a = b) ∨ (0 < Lib.compareBytes a b ∧ Lib.compareBytes b a < 0)
 | [], [] => .inr (.inl ⟨rfl, rfl⟩)
 | [], _ :: _ => .inl ⟨by simp [Lib.compareBytes], by simp [Lib.compareBytes]⟩
 | _ :: _, [] => .inr (.inr ⟨by simp [Lib.compareBytes], by simp [Lib.compareBytes]⟩)
 | a :: xs, b :: ys => by
  have ih := cb_tri xs ys
  rcases cb_cons a b xs ys with ⟨h, e⟩ | ⟨h, e⟩ | ⟨h, e⟩ <;> rcases cb_cons b a ys xs with ⟨h', e'⟩ | ⟨h', e'⟩ | ⟨h', e'⟩ <;> rw [e, e'] <;> first | omega | skip
  have : a = b := UInt8.toNat_inj.1 h
  subst this
  rcases ih with h | ⟨h1, h2⟩ | h
  ·
   exact .inl h
  ·
   exact .inr (.inl ⟨h1, by rw [h2]⟩)
  ·
   exact .inr (.inr h)
end Go.Proofs.YtikncmcceeacmaaGreat

namespace Go.Proofs.YtikncmcceeacmaaGreat
set_option maxHeartbeats 16000000
set_option maxRecDepth 100000
open Tryz Go.RowKit
set_option linter.unusedSimpArgs false
set_option linter.unusedSectionVars false
theorem sGt_iff (a b : ByteArray) : sGt a b = true ↔ sLt b a = true := by
 have h3 := cb_tri a.data.toList b.data.toList
 have e1 : sEq a b = true ↔ a = b := sEq_iff a b
 rw [sGt, Bool.and_eq_true, Bool.not_eq_true', Bool.not_eq_true', sLt_iff, sLt_false]
 constructor
 ·
  rintro ⟨h1, h2⟩
  rcases h3 with h | h | h
  ·
   exact absurd h.1 h1
  ·
   have : a = b := by cases a; cases b; simpa using h.2
   rw [e1.2 this] at h2; cases h2
  ·
   exact h.2
 ·
  intro h
  rcases h3 with h' | h' | h'
  ·
   omega
  ·
   have : a = b := by cases a; cases b; simpa using h'.2
   subst this; rw [cb_self] at h; omega
  ·
   refine ⟨by omega, sEq_false (fun e => ?_)⟩
   subst e; rw [cb_self] at h; omega
theorem sLt_of {a b : ByteArray} (h1 : sGt a b = false) (h2 : sEq a b = false) : sLt a b = true := by
 rw [sGt, h2] at h1; simpa using h1
section
variable {α : Type} [Inhabited α] (f : α → ByteArray)
def Up (L : List α) : Prop := L.Pairwise (fun a b => sLt (f a) (f b) = true)
theorem rises_up {L : List α} : risesBy sLt f L = true ↔ Up f L := by
 rw [risesBy, allTo_iff, Up, List.pairwise_iff_getElem]
 constructor
 ·
  intro h
  have h' : ∀ i (hi : i + 1 < L.length), sLt (f L[i]) (f L[i + 1]) = true := fun i hi => by
   have := h (i + 1) hi
   rw [getE _ _ hi, show i + 1 - 1 = i by omega, getE _ _ (by omega)] at this
   simpa using this
  have key : ∀ d i (hd : i + d + 1 < L.length), sLt (f (L[i]'(by omega))) (f L[i + d + 1]) = true := by
   intro d
   induction d with
   | zero => intro i hd; exact h' i hd
   | succ d ih => intro i hd; exact sLt_trans (ih i (by omega)) (h' (i + d + 1) hd)
  intro i j hi hj hij
  have := key (j - i - 1) i (by omega)
  have e : i + (j - i - 1) + 1 = j := by omega
  simpa only [e] using this
 ·
  intro h i hi
  rcases Nat.eq_zero_or_pos i with h0 | h0
  ·
   simp [h0]
  ·
   have := h (i - 1) i (by omega) hi (by omega)
   rw [getE _ _ hi, getE _ _ (by omega)]
   simp [this]
theorem up_replace {L : List α} {o : α} (h : Up f L) {i : Nat} (hi : i < L.length) (he : f L[i] = f o) : Up f (L.take i ++ o :: L.drop (i + 1)) := by
 have e : (L.take i ++ o :: L.drop (i + 1)).map f = L.map f := by
  have e0 : L.take i ++ L[i] :: L.drop (i + 1) = L := by rw [← List.drop_eq_getElem_cons hi, List.take_append_drop]
  calc (L.take i ++ o :: L.drop (i + 1)).map f = (L.take i ++ L[i] :: L.drop (i + 1)).map f := by simp only [List.map_append, List.map_cons, he]
   _ = L.map f := by rw [e0]
 have h1 : (L.map f).Pairwise (fun a b => sLt a b = true) := List.pairwise_map.2 h
 rw [← e] at h1
 exact List.pairwise_map.1 h1
theorem up_insert {L : List α} {o : α} (h : Up f L) (hn : ∀ x ∈ L, sEq (f x) (f o) = false) {i : Nat} (hi : L.findIdx (fun x => sGt (f x) (f o)) = i) : Up f (L.take i ++ o :: L.drop i) := by
 have hs : Up f (L.take i ++ L.drop i) := by rw [List.take_append_drop]; exact h
 obtain ⟨h1, h2, h3⟩ := List.pairwise_append.1 hs
 have hlow : ∀ a ∈ L.take i, sLt (f a) (f o) = true := fun a ha => by
  obtain ⟨j, hj, rfl⟩ := List.mem_iff_getElem.1 ha
  rw [List.length_take] at hj
  have hj' : j < L.findIdx (fun x => sGt (f x) (f o)) := by omega
  have := List.not_of_lt_findIdx hj'
  rw [List.getElem_take]
  exact sLt_of (by simpa using this) (hn _ (List.getElem_mem _))
 have hhigh : ∀ b ∈ L.drop i, sLt (f o) (f b) = true := fun b hb => by
  have hil : i < L.length := by
   rcases Nat.lt_or_ge i L.length with h' | h'
   ·
    exact h'
   ·
    rw [List.drop_eq_nil_of_le h'] at hb; cases hb
  have h0 : sGt (f L[i]) (f o) = true := by
   have := List.findIdx_getElem (xs := L) (p := fun x => sGt (f x) (f o)) (w := by rw [hi]; exact hil)
   simpa only [hi] using this
  have h0' := (sGt_iff _ _).1 h0
  rw [List.drop_eq_getElem_cons hil] at hb h2
  rcases List.mem_cons.1 hb with rfl | hb
  ·
   exact h0'
  ·
   exact sLt_trans h0' ((List.pairwise_cons.1 h2).1 b hb)
 refine List.pairwise_append.2 ⟨h1, List.pairwise_cons.2 ⟨hhigh, h2⟩, fun a ha b hb => ?_⟩
 rcases List.mem_cons.1 hb with rfl | hb
 ·
  exact hlow a ha
 ·
  exact h3 a ha b hb
def ListOK (right : α → Bool) (L : List α) : Prop := L.length ≤ 256 ∧ L.all right = true ∧ risesBy sLt f L = true
variable {f} {right : α → Bool} {L : List α}
theorem ListOK.put {o : α} {r : List α × Bool} (h : ListOK f right L) (ho : right o = true) (hp : putL f L o = some r) : ListOK f right r.1 := by
 obtain ⟨h1, h2, h3⟩ := h
 rw [rises_up] at h3
 rw [List.all_eq_true] at h2
 have hall : ∀ i j, (L.take i ++ o :: L.drop j).all right = true := fun i j => by
  rw [List.all_eq_true]
  intro x hx
  rcases List.mem_append.1 hx with hx | hx
  ·
   exact h2 x (List.mem_of_mem_take hx)
  ·
   rcases List.mem_cons.1 hx with rfl | hx
   ·
    exact ho
   ·
    exact h2 x (List.mem_of_mem_drop hx)
 rw [putL] at hp
 split at hp
 ·
  rename_i hi
  cases hp
  have := List.findIdx_getElem (xs := L) (p := fun x => sEq (f x) (f o)) (w := hi)
  exact ⟨by simp; omega, hall _ _, (rises_up f).2 (up_replace f h3 hi ((sEq_iff _ _).1 this))⟩
 ·
  rename_i hi
  split at hp
  ·
   cases hp
  ·
   rename_i hl
   cases hp
   refine ⟨by simp; omega, hall _ _, (rises_up f).2 (up_insert f h3 (fun x hx => ?_) rfl)⟩
   have he : L.findIdx (fun x => sEq (f x) (f o)) = L.length := Nat.le_antisymm List.findIdx_le_length (Nat.le_of_not_lt hi)
   have := (List.findIdx_eq_length.1 he) x hx
   simpa using this
end
end Go.Proofs.YtikncmcceeacmaaGreat

namespace Go.Proofs.YtikncmcceeacmaaGreat
set_option maxHeartbeats 16000000
set_option maxRecDepth 100000
open Tryz Go.RowKit
set_option linter.unusedSimpArgs false
def clsO (n : Int) (s : ByteArray) : ObjectD := (n, (⟨#[]⟩, 0, [], (0, 0, 0), [], [], [], [], [], [], [], [], ⟨#[]⟩, ⟨#[]⟩), (⟨#[]⟩, [], [], false, (0, 0, 0), 0, 0), (⟨#[]⟩, 0, ⟨#[]⟩, [], ⟨#[]⟩), (⟨#[]⟩, 0, ⟨#[]⟩, ⟨#[]⟩), (s, false), (⟨#[]⟩, [], 0))
def clsC (n : Int) (s : ByteArray) : List Value := .int .i64 n :: .string ⟨#[]⟩ :: .int .i64 0 :: .slice Option.none 0 0 :: .int .i64 0 :: .int .i64 0 :: .int .i64 0 :: .slice Option.none 0 0 :: .slice Option.none 0 0 :: .slice Option.none 0 0 :: .slice Option.none 0 0 :: .slice Option.none 0 0 :: .slice Option.none 0 0 :: .slice Option.none 0 0 :: .slice Option.none 0 0 :: .string ⟨#[]⟩ :: .string ⟨#[]⟩ :: .string ⟨#[]⟩ :: .slice Option.none 0 0 :: .slice Option.none 0 0 :: .bool false :: .int .i64 0 :: .int .i64 0 :: .int .i64 0 :: .int .i64 0 :: .int .i64 0 :: .string ⟨#[]⟩ :: .int .i64 0 :: .string ⟨#[]⟩ :: .slice Option.none 0 0 :: .string ⟨#[]⟩ :: .string ⟨#[]⟩ :: .int .i64 0 :: .string ⟨#[]⟩ :: .string ⟨#[]⟩ :: .string s :: .bool false :: .string ⟨#[]⟩ :: .slice Option.none 0 0 :: .int .i64 0 :: []
theorem cls_rep (A : Where) (w : World) (n : Int) (s : ByteArray) (hs : s.size ≤ 140737488355328) : RObject A w (clsC n s) (clsO n s) :=
 RObject.mk (x := clsO n s) (h3 := (none, 0, 0)) (h7 := (none, 0, 0)) (h8 := (none, 0, 0)) (h9 := (none, 0, 0)) (h10 := (none, 0, 0)) (h11 := (none, 0, 0)) (h12 := (none, 0, 0)) (h13 := (none, 0, 0)) (h14 := (none, 0, 0)) (h18 := (none, 0, 0)) (h19 := (none, 0, 0)) (h29 := (none, 0, 0)) (h38 := (none, 0, 0)) (Nat.zero_le _) (SlAt.nil _ _ none 0 (fun _ => rfl)) (SlAt.nil _ _ none 0 (fun _ => rfl)) (SlAt.nil _ _ none 0 (fun _ => rfl)) (SlAt.nil _ _ none 0 (fun _ => rfl)) (SlAt.nil _ _ none 0 (fun _ => rfl)) (SlAt.nil _ _ none 0 (fun _ => rfl)) (SlAt.nil _ _ none 0 (fun _ => rfl)) (SlAt.nil _ _ none 0 (fun _ => rfl)) (SlAt.nil _ _ none 0 (fun _ => rfl)) (Nat.zero_le _) (Nat.zero_le _) (Nat.zero_le _) (SlAt.nil _ _ none 0 (fun _ => rfl)) (SlAt.nil _ _ none 0 (fun _ => rfl)) (Nat.zero_le _) (Nat.zero_le _) (SlAt.nil _ _ none 0 (fun _ => rfl)) (Nat.zero_le _) (Nat.zero_le _) (Nat.zero_le _) (Nat.zero_le _) hs (Nat.zero_le _) (SlAt.nil _ _ none 0 (fun _ => rfl))
theorem class_calls (s : ByteArray) (w : World) : Calls prog 45 #[.string s] w fun e w' => e = .returned (.agg (clsC 5 s).toArray) ∧ Below w.heap.size w w' := by
 have HT : Hid ((w.alloc (.cells (.int .i64 0 :: .string ⟨#[]⟩ :: .int .i64 0 :: .slice Option.none 0 0 :: .int .i64 0 :: .int .i64 0 :: .int .i64 0 :: .slice Option.none 0 0 :: .slice Option.none 0 0 :: .slice Option.none 0 0 :: .slice Option.none 0 0 :: .slice Option.none 0 0 :: .slice Option.none 0 0 :: .slice Option.none 0 0 :: .slice Option.none 0 0 :: .string ⟨#[]⟩ :: .string ⟨#[]⟩ :: .string ⟨#[]⟩ :: .slice Option.none 0 0 :: .slice Option.none 0 0 :: .bool false :: .int .i64 0 :: .int .i64 0 :: .int .i64 0 :: .int .i64 0 :: .int .i64 0 :: .string ⟨#[]⟩ :: .int .i64 0 :: .string ⟨#[]⟩ :: .slice Option.none 0 0 :: .string ⟨#[]⟩ :: .string ⟨#[]⟩ :: .int .i64 0 :: .string ⟨#[]⟩ :: .string ⟨#[]⟩ :: .string ⟨#[]⟩ :: .bool false :: .string ⟨#[]⟩ :: .slice Option.none 0 0 :: .int .i64 0 :: [] : List Value).toArray 46)).there w.heap.size 0 40) := ((Held.start w).room rfl (.int .i64 0 :: .string ⟨#[]⟩ :: .int .i64 0 :: .slice Option.none 0 0 :: .int .i64 0 :: .int .i64 0 :: .int .i64 0 :: .slice Option.none 0 0 :: .slice Option.none 0 0 :: .slice Option.none 0 0 :: .slice Option.none 0 0 :: .slice Option.none 0 0 :: .slice Option.none 0 0 :: .slice Option.none 0 0 :: .slice Option.none 0 0 :: .string ⟨#[]⟩ :: .string ⟨#[]⟩ :: .string ⟨#[]⟩ :: .slice Option.none 0 0 :: .slice Option.none 0 0 :: .bool false :: .int .i64 0 :: .int .i64 0 :: .int .i64 0 :: .int .i64 0 :: .int .i64 0 :: .string ⟨#[]⟩ :: .int .i64 0 :: .string ⟨#[]⟩ :: .slice Option.none 0 0 :: .string ⟨#[]⟩ :: .string ⟨#[]⟩ :: .int .i64 0 :: .string ⟨#[]⟩ :: .string ⟨#[]⟩ :: .string ⟨#[]⟩ :: .bool false :: .string ⟨#[]⟩ :: .slice Option.none 0 0 :: .int .i64 0 :: [] : List Value).toArray 46).there 0 rfl
 obtain ⟨u4, hu4⟩ : ∃ u4, u4 = (w.alloc (.cells (.int .i64 0 :: .string ⟨#[]⟩ :: .int .i64 0 :: .slice Option.none 0 0 :: .int .i64 0 :: .int .i64 0 :: .int .i64 0 :: .slice Option.none 0 0 :: .slice Option.none 0 0 :: .slice Option.none 0 0 :: .slice Option.none 0 0 :: .slice Option.none 0 0 :: .slice Option.none 0 0 :: .slice Option.none 0 0 :: .slice Option.none 0 0 :: .string ⟨#[]⟩ :: .string ⟨#[]⟩ :: .string ⟨#[]⟩ :: .slice Option.none 0 0 :: .slice Option.none 0 0 :: .bool false :: .int .i64 0 :: .int .i64 0 :: .int .i64 0 :: .int .i64 0 :: .int .i64 0 :: .string ⟨#[]⟩ :: .int .i64 0 :: .string ⟨#[]⟩ :: .slice Option.none 0 0 :: .string ⟨#[]⟩ :: .string ⟨#[]⟩ :: .int .i64 0 :: .string ⟨#[]⟩ :: .string ⟨#[]⟩ :: .string ⟨#[]⟩ :: .bool false :: .string ⟨#[]⟩ :: .slice Option.none 0 0 :: .int .i64 0 :: [] : List Value).toArray 46)).setCells w.heap.size 0 (.int .i64 5 :: .string ⟨#[]⟩ :: .int .i64 0 :: .slice Option.none 0 0 :: .int .i64 0 :: .int .i64 0 :: .int .i64 0 :: .slice Option.none 0 0 :: .slice Option.none 0 0 :: .slice Option.none 0 0 :: .slice Option.none 0 0 :: .slice Option.none 0 0 :: .slice Option.none 0 0 :: .slice Option.none 0 0 :: .slice Option.none 0 0 :: .string ⟨#[]⟩ :: .string ⟨#[]⟩ :: .string ⟨#[]⟩ :: .slice Option.none 0 0 :: .slice Option.none 0 0 :: .bool false :: .int .i64 0 :: .int .i64 0 :: .int .i64 0 :: .int .i64 0 :: .int .i64 0 :: .string ⟨#[]⟩ :: .int .i64 0 :: .string ⟨#[]⟩ :: .slice Option.none 0 0 :: .string ⟨#[]⟩ :: .string ⟨#[]⟩ :: .int .i64 0 :: .string ⟨#[]⟩ :: .string ⟨#[]⟩ :: .string s :: .bool false :: .string ⟨#[]⟩ :: .slice Option.none 0 0 :: .int .i64 0 :: []) := ⟨_, rfl⟩
 have HBE : Hid (Below w.heap.size w u4) := by rw [Hid, hu4]; exact below_setCells ((Below.refl _ w).alloc (Nat.le_refl _) _) (Nat.le_refl _)
 have HRG : Hid (u4.rangeAt w.heap.size 0 (.int .i64 5 :: .string ⟨#[]⟩ :: .int .i64 0 :: .slice Option.none 0 0 :: .int .i64 0 :: .int .i64 0 :: .int .i64 0 :: .slice Option.none 0 0 :: .slice Option.none 0 0 :: .slice Option.none 0 0 :: .slice Option.none 0 0 :: .slice Option.none 0 0 :: .slice Option.none 0 0 :: .slice Option.none 0 0 :: .slice Option.none 0 0 :: .string ⟨#[]⟩ :: .string ⟨#[]⟩ :: .string ⟨#[]⟩ :: .slice Option.none 0 0 :: .slice Option.none 0 0 :: .bool false :: .int .i64 0 :: .int .i64 0 :: .int .i64 0 :: .int .i64 0 :: .int .i64 0 :: .string ⟨#[]⟩ :: .int .i64 0 :: .string ⟨#[]⟩ :: .slice Option.none 0 0 :: .string ⟨#[]⟩ :: .string ⟨#[]⟩ :: .int .i64 0 :: .string ⟨#[]⟩ :: .string ⟨#[]⟩ :: .string s :: .bool false :: .string ⟨#[]⟩ :: .slice Option.none 0 0 :: .int .i64 0 :: [])) := by rw [Hid, hu4]; exact World.rangeAt_setCells_same _ _ _ _ HT.out
 have HU4 : Hid (u4 = (w.alloc (.cells (.int .i64 0 :: .string ⟨#[]⟩ :: .int .i64 0 :: .slice Option.none 0 0 :: .int .i64 0 :: .int .i64 0 :: .int .i64 0 :: .slice Option.none 0 0 :: .slice Option.none 0 0 :: .slice Option.none 0 0 :: .slice Option.none 0 0 :: .slice Option.none 0 0 :: .slice Option.none 0 0 :: .slice Option.none 0 0 :: .slice Option.none 0 0 :: .string ⟨#[]⟩ :: .string ⟨#[]⟩ :: .string ⟨#[]⟩ :: .slice Option.none 0 0 :: .slice Option.none 0 0 :: .bool false :: .int .i64 0 :: .int .i64 0 :: .int .i64 0 :: .int .i64 0 :: .int .i64 0 :: .string ⟨#[]⟩ :: .int .i64 0 :: .string ⟨#[]⟩ :: .slice Option.none 0 0 :: .string ⟨#[]⟩ :: .string ⟨#[]⟩ :: .int .i64 0 :: .string ⟨#[]⟩ :: .string ⟨#[]⟩ :: .string ⟨#[]⟩ :: .bool false :: .string ⟨#[]⟩ :: .slice Option.none 0 0 :: .int .i64 0 :: [] : List Value).toArray 46)).setCells w.heap.size 0 (.int .i64 5 :: .string ⟨#[]⟩ :: .int .i64 0 :: .slice Option.none 0 0 :: .int .i64 0 :: .int .i64 0 :: .int .i64 0 :: .slice Option.none 0 0 :: .slice Option.none 0 0 :: .slice Option.none 0 0 :: .slice Option.none 0 0 :: .slice Option.none 0 0 :: .slice Option.none 0 0 :: .slice Option.none 0 0 :: .slice Option.none 0 0 :: .string ⟨#[]⟩ :: .string ⟨#[]⟩ :: .string ⟨#[]⟩ :: .slice Option.none 0 0 :: .slice Option.none 0 0 :: .bool false :: .int .i64 0 :: .int .i64 0 :: .int .i64 0 :: .int .i64 0 :: .int .i64 0 :: .string ⟨#[]⟩ :: .int .i64 0 :: .string ⟨#[]⟩ :: .slice Option.none 0 0 :: .string ⟨#[]⟩ :: .string ⟨#[]⟩ :: .int .i64 0 :: .string ⟨#[]⟩ :: .string ⟨#[]⟩ :: .string s :: .bool false :: .string ⟨#[]⟩ :: .slice Option.none 0 0 :: .int .i64 0 :: [])) := hu4
 clear hu4
 go_enter func45, ntmps45
 go_wp2_with (first | (refine wpList_store_mid rfl 46 _ _ rfl w.heap.size 0 (.int .i64 5 :: .string ⟨#[]⟩ :: .int .i64 0 :: .slice Option.none 0 0 :: .int .i64 0 :: .int .i64 0 :: .int .i64 0 :: .slice Option.none 0 0 :: .slice Option.none 0 0 :: .slice Option.none 0 0 :: .slice Option.none 0 0 :: .slice Option.none 0 0 :: .slice Option.none 0 0 :: .slice Option.none 0 0 :: .slice Option.none 0 0 :: .string ⟨#[]⟩ :: .string ⟨#[]⟩ :: .string ⟨#[]⟩ :: .slice Option.none 0 0 :: .slice Option.none 0 0 :: .bool false :: .int .i64 0 :: .int .i64 0 :: .int .i64 0 :: .int .i64 0 :: .int .i64 0 :: .string ⟨#[]⟩ :: .int .i64 0 :: .string ⟨#[]⟩ :: .slice Option.none 0 0 :: .string ⟨#[]⟩ :: .string ⟨#[]⟩ :: .int .i64 0 :: .string ⟨#[]⟩ :: .string ⟨#[]⟩ :: .string s :: .bool false :: .string ⟨#[]⟩ :: .slice Option.none 0 0 :: .int .i64 0 :: [] : List Value).toArray rfl rfl HT.out infoObj (by simp [Value.oneCell']) ?_; refine wpl_at HU4.out ?_) | fail)
 refine bodyPost_ret (v := .agg (.int .i64 5 :: .string ⟨#[]⟩ :: .int .i64 0 :: .slice Option.none 0 0 :: .int .i64 0 :: .int .i64 0 :: .int .i64 0 :: .slice Option.none 0 0 :: .slice Option.none 0 0 :: .slice Option.none 0 0 :: .slice Option.none 0 0 :: .slice Option.none 0 0 :: .slice Option.none 0 0 :: .slice Option.none 0 0 :: .slice Option.none 0 0 :: .string ⟨#[]⟩ :: .string ⟨#[]⟩ :: .string ⟨#[]⟩ :: .slice Option.none 0 0 :: .slice Option.none 0 0 :: .bool false :: .int .i64 0 :: .int .i64 0 :: .int .i64 0 :: .int .i64 0 :: .int .i64 0 :: .string ⟨#[]⟩ :: .int .i64 0 :: .string ⟨#[]⟩ :: .slice Option.none 0 0 :: .string ⟨#[]⟩ :: .string ⟨#[]⟩ :: .int .i64 0 :: .string ⟨#[]⟩ :: .string ⟨#[]⟩ :: .string s :: .bool false :: .string ⟨#[]⟩ :: .slice Option.none 0 0 :: .int .i64 0 :: [] : List Value).toArray) (res_cell (p := 2) (ty := 46) rfl _ _ w.heap.size (.int .i64 5 :: .string ⟨#[]⟩ :: .int .i64 0 :: .slice Option.none 0 0 :: .int .i64 0 :: .int .i64 0 :: .int .i64 0 :: .slice Option.none 0 0 :: .slice Option.none 0 0 :: .slice Option.none 0 0 :: .slice Option.none 0 0 :: .slice Option.none 0 0 :: .slice Option.none 0 0 :: .slice Option.none 0 0 :: .slice Option.none 0 0 :: .string ⟨#[]⟩ :: .string ⟨#[]⟩ :: .string ⟨#[]⟩ :: .slice Option.none 0 0 :: .slice Option.none 0 0 :: .bool false :: .int .i64 0 :: .int .i64 0 :: .int .i64 0 :: .int .i64 0 :: .int .i64 0 :: .string ⟨#[]⟩ :: .int .i64 0 :: .string ⟨#[]⟩ :: .slice Option.none 0 0 :: .string ⟨#[]⟩ :: .string ⟨#[]⟩ :: .int .i64 0 :: .string ⟨#[]⟩ :: .string ⟨#[]⟩ :: .string s :: .bool false :: .string ⟨#[]⟩ :: .slice Option.none 0 0 :: .int .i64 0 :: []) _ rfl HRG.out underlying46 rfl infoObj) rfl ⟨rfl, HBE.out⟩
def StAt (w : World) (gs : List Value) (x : StateD) : Prop := RState (fun _ => True) w gs x
def ObAt (w : World) (cs : List Value) (o : ObjectD) : Prop := RObject (fun _ => True) w cs o
theorem StAt.on {w u : World} {gs : List Value} {x : StateD} (h : StAt w gs x) (hb : Below w.heap.size w u) : StAt u gs x := RState.firm.kept h (Kept.below hb)
theorem ObAt.on {w u : World} {gs : List Value} {x : ObjectD} (h : ObAt w gs x) (hb : Below w.heap.size w u) : ObAt u gs x := RObject.firm.kept h (Kept.below hb)
theorem StAt.len {w : World} {gs : List Value} {x : StateD} (h : StAt w gs x) : gs.length = 6 := RState.firm.len h
theorem StAt.one {w : World} {gs : List Value} {x : StateD} (h : StAt w gs x) : ∀ y ∈ gs, y.oneCell' = true := RState.firm.one h
def wst1 : StateD := ([], [], [], [], [(⟨#[98]⟩, false)], [])
def wst2 : StateD := ([], [], [], [], [(⟨#[97]⟩, false), (⟨#[98]⟩, false)], [])
theorem wchk1 : checkO (clsO 5 ⟨#[]⟩) = 40 := by kernel_rfl
theorem wchk2 : checkO (clsO 7 ⟨#[]⟩) = 2 := by kernel_rfl
theorem wfit1 : Fits wst1 := by simp [Fits, wst1]
theorem wfit2 : Fits wst2 := by simp [Fits, wst2]
end Go.Proofs.YtikncmcceeacmaaGreat

namespace Go.Proofs.YtikncmcceeacmaaGreat
set_option maxHeartbeats 16000000
set_option maxRecDepth 100000
open Tryz Go.RowKit List
set_option linter.unusedSimpArgs false
theorem wPut1 (w : World) : Calls prog 19 #[.agg #[Z, Z, Z, Z, Z, Z], .agg (clsC 5 ⟨#[98]⟩).toArray] w fun e w' => ∃ gs, e = .returned (.tuple #[.agg gs.toArray, .bool false, .int .i64 0]) ∧ StAt w' gs wst1 ∧ Below w.heap.size w w' := by
 have := Put_Class [Z, Z, Z, Z, Z, Z] (clsC 5 ⟨#[98]⟩) (fun _ => True) noState (clsO 5 ⟨#[98]⟩) w noState_rep (cls_rep _ _ _ _ (by decide)) rfl (by kernel_rfl)
 rw [show putSClass noState (clsO 5 ⟨#[98]⟩).2.2.2.2.2.1 = (wst1, false, 0) from by kernel_rfl] at this
 refine this.mono fun e w' h => ?_
 obtain ⟨gs, rfl, h1, h2⟩ := h.st
 exact ⟨gs, rfl, RState.firm.weak (h1.rstate wfit1) (fun _ _ _ => trivial), h2⟩
theorem wPut2 (gs : List Value) (D : Nat) (w : World) (h : RState (fun b => b ≠ D) w gs wst1) (hD : D < w.heap.size) : Calls prog 19 #[.agg gs.toArray, .agg (clsC 5 ⟨#[97]⟩).toArray] w fun e w' => ∃ gs2, e = .returned (.tuple #[.agg gs2.toArray, .bool false, .int .i64 0]) ∧ RState (fun b => b ≠ D) w' gs2 wst2 ∧ Below w.heap.size w w' := by
 have := Put_Class gs (clsC 5 ⟨#[97]⟩) _ wst1 (clsO 5 ⟨#[97]⟩) w h (cls_rep _ _ _ _ (by decide)) rfl (by kernel_rfl)
 rw [show putSClass wst1 (clsO 5 ⟨#[97]⟩).2.2.2.2.2.1 = (wst2, false, 0) from by kernel_rfl] at this
 refine this.mono fun e w' h => ?_
 obtain ⟨gs, rfl, h1, h2⟩ := h.st
 refine ⟨gs, rfl, RState.firm.weak (h1.rstate wfit2) (fun b _ hb => ?_), h2⟩
 rcases hb with hb | hb
 ·
  exact hb.1
 ·
  have : w.heap.size ≤ b := hb
  omega
theorem wChk (n k : Int) (h : checkO (clsO n ⟨#[]⟩) = k) (w : World) : Calls prog 9 #[.agg (clsC n ⟨#[]⟩).toArray] w fun e w' => e = .returned (.int .i64 k) ∧ Below w.heap.size w w' := by
 rw [← h]
 exact Check_calls _ (fun _ => True) _ w (cls_rep _ _ _ _ (by decide))
theorem works_calls (w : World) : Calls prog 14 #[] w fun e w' => e = .returned (.bool true) ∧ Below w.heap.size w w' := by
 go_enter func14, ntmps14
 go_wp2_with fail
 refine (class_calls _ _).mono ?_
 rintro e u1 ⟨rfl, hb1⟩
 go_wp2_with fail
 refine (wPut1 _).mono ?_
 rintro e u2 ⟨gs, rfl, hst, hb2⟩
 have hgl := hst.len
 have hgo := all_oneCell_toArray hst.one
 have higa : (prog.info? 61).map (·.size) = some gs.toArray.size := by simpa [hgl] using infoSta
 have hig : (prog.info? 61).map (·.size) = some gs.length := by rw [hgl]; exact infoSta
 have HF : Held w [] [(u2.heap.size, 6)] (u2.alloc (.cells #[Z, Z, Z, Z, Z, Z] 61)) := ((Held.start w).on (on2 hb1 hb2)).room rfl #[Z, Z, Z, Z, Z, Z] 61
 have HT : Hid ((u2.alloc (.cells #[Z, Z, Z, Z, Z, Z] 61)).there u2.heap.size 0 gs.toArray.size) := by have := HF.there 0 (b := u2.heap.size) rfl; simpa [Hid, hgl] using this
 have HT' : Hid ((u2.alloc (.cells #[Z, Z, Z, Z, Z, Z] 61)).there u2.heap.size 0 gs.length) := by have := HF.there 0 (b := u2.heap.size) rfl; rw [Hid, hgl]; exact this
 obtain ⟨u3, hu3⟩ : ∃ u3, u3 = (u2.alloc (.cells #[Z, Z, Z, Z, Z, Z] 61)).setCells u2.heap.size 0 gs := ⟨_, rfl⟩
 have HH3 : Hid (Held w [] [(u2.heap.size, 6)] u3) := by rw [Hid, hu3]; exact HF.wrote 0 rfl (by simp)
 have HRD : Hid (u3.rangeAt u2.heap.size 0 gs) := by rw [Hid, hu3]; exact World.rangeAt_setCells_same _ _ _ _ HT'.out
 have HST : Hid (RState (fun b => b ≠ u2.heap.size) u3 gs wst1) := by
  have h1 : RState (fun b => b ≠ u2.heap.size) u2 gs wst1 := RState.firm.weak hst (fun b hb _ => by omega)
  rw [Hid, hu3]
  exact RState.firm.kept h1 (Kept.below (below_setCells ((Below.refl _ u2).alloc (Nat.le_refl _) _) (Nat.le_refl _)))
 have HU3 : Hid (u3 = (u2.alloc (.cells #[Z, Z, Z, Z, Z, Z] 61)).setCells u2.heap.size 0 gs) := hu3
 clear hu3 HF hst hb1 hb2 HT'
 go_wp2_with (first | (refine wpList_store_mid rfl 61 _ _ rfl u2.heap.size 0 gs.toArray rfl rfl HT.out higa hgo ?_; refine wpl_at HU3.out ?_) | fail)
 clear HT HU3
 generalize u2.heap.size = D at HH3 HRD HST ⊢
 have HRDd : Hid (u3.drew.rangeAt D 0 gs) := range_on HRD.out (Below.refl _ _).drew (HH3.out.ltM 0 rfl)
 have HSTd : Hid (RState (fun b => b ≠ D) u3.drew gs wst1) := RState.firm.kept HST.out (Kept.below (Below.refl _ _).drew)
 clear HRD HST
 have HRD := HRDd
 have HST := HSTd
 clear HRDd HSTd
 refine t0 (Held w [] [(D, 6)]) (HH3.out.drew) (fun hH => ?_)
 generalize u3.drew = y0 at hH HRD HST ⊢
 clear HH3
 refine wpAnyH_ready (rs := [0, 1]) (by kernel_rfl) (by simp) ?_
 refine AllReadyH.cons rfl (fun K hK => ?g25x0) (AllReadyH.cons rfl (fun K hK => ?g25x1) (AllReadyH.nil))
 case' g25x0 =>
  refine want_yes (by rfl) (wp_load_mid 61 _ rfl D 0 rfl gs _ HRD.out underlying61 rfl hig ?_)
  refine hK.out _ _ hH (fun hH => ?_)
  clear hK K
  try simp only [Act.put, setIfInBounds_toArray, set_cons_zero, set_cons_succ, getElem_toArray, getElem_cons_zero, getElem_cons_succ]
  refine tr 1 (fun K hK => ?_)
  refine want_yes (by rfl) (call_enter (f := 45) (args := #[.string ⟨#[97]⟩]) (by kernel_rfl) (class_calls ⟨#[97]⟩ _) (fun e uc he => ?_))
  obtain ⟨rfl, hbc⟩ := he
  have HSn := RState.firm.kept HST.out (Kept.below hbc)
  clear HST
  have HST : Hid (RState (fun b => b ≠ D) _ gs wst1) := HSn
  clear HSn
  have HRn := range_on HRD.out hbc (hH.ltM 0 rfl)
  clear HRD
  have HRD : Hid (World.rangeAt _ D 0 gs) := HRn
  clear HRn
  refine ⟨_, rfl, hK.out _ _ (hH.on hbc) (fun hH => ?_)⟩
  clear hK K
  try go_frame
 case' g25x1 =>
  refine want_yes (by rfl) (call_enter (f := 45) (args := #[.string ⟨#[97]⟩]) (by kernel_rfl) (class_calls ⟨#[97]⟩ _) (fun e uc he => ?_))
  obtain ⟨rfl, hbc⟩ := he
  have HSn := RState.firm.kept HST.out (Kept.below hbc)
  clear HST
  have HST : Hid (RState (fun b => b ≠ D) _ gs wst1) := HSn
  clear HSn
  have HRn := range_on HRD.out hbc (hH.ltM 0 rfl)
  clear HRD
  have HRD : Hid (World.rangeAt _ D 0 gs) := HRn
  clear HRn
  refine ⟨_, rfl, hK.out _ _ (hH.on hbc) (fun hH => ?_)⟩
  clear hK K
  try simp only [Act.put, setIfInBounds_toArray, set_cons_zero, set_cons_succ, getElem_toArray, getElem_cons_zero, getElem_cons_succ]
  first | refine tr 0 (fun K hK => ?_) | refine ts 0 (fun K hK => ?_)
  refine want_yes (by rfl) (wp_load_mid 61 _ rfl D 0 rfl gs _ HRD.out underlying61 rfl hig ?_)
  refine hK.out _ _ hH (fun hH => ?_)
  clear hK K
  try go_frame
 all_goals
  refine tr 2 (fun K hK => ?_)
  refine want_yes (by rfl) (call_enter (f := 19) (args := #[.agg gs.toArray, .agg (clsC 5 ⟨#[97]⟩).toArray]) (by kernel_rfl) (wPut2 gs D _ HST.out (hH.ltM 0 rfl)) (fun e up he => ?_))
  obtain ⟨gs2, rfl, hs2, hbp⟩ := he
  have HS2 : Hid (RState (fun b => b ≠ D) up gs2 wst2) := hs2
  clear hs2 HST HRD
  refine ⟨_, rfl, hK.out _ _ (hH.on hbp) (fun hH => ?_)⟩
  clear hK K
  try go_frame
  refine tp 3 ?_; try go_frame
  refine tp 4 ?_; try go_frame
  refine tp 5 ?_; try go_frame
  refine tp 6 ?_; try go_frame
  first | refine tr 7 (fun K hK => ?_) | refine ts 7 (fun K hK => ?_)
  have hgl2 := RState.firm.len HS2.out
  have hig2 : (prog.info? 61).map (·.size) = some gs2.toArray.size := by simpa [hgl2] using infoSta
  have HT2 : Hid (World.there up D 0 gs2.toArray.size) := by have := hH.there 0 (b := D) rfl; simpa [Hid, hgl2] using this
  have HT3 : Hid (World.there up D 0 gs2.length) := by have := hH.there 0 (b := D) rfl; rw [Hid, hgl2]; exact this
  refine want_yes (by rfl) (wp_store_mid 61 _ _ rfl D 0 gs2.toArray rfl rfl HT2.out hig2 (all_oneCell_toArray (RState.firm.one HS2.out)) ?_)
  obtain ⟨W7, hW7⟩ : ∃ W7, W7 = up.setCells D 0 gs2 := ⟨_, rfl⟩
  have HRG : Hid (W7.rangeAt D 0 gs2) := by rw [Hid, hW7]; exact World.rangeAt_setCells_same _ _ _ _ HT3.out
  have HST7 : Hid (RState (fun b => b ≠ D) W7 gs2 wst2) := by rw [Hid, hW7]; exact RState.firm.kept HS2.out (kept_setCells (fun h => h rfl))
  refine at_world hW7 ?_
  refine hK.out _ _ (by rw [hW7]; exact hH.wrote 0 rfl (by simp)) (fun hH2 => ?_)
  clear hW7 HS2 HT2 HT3
  clear hK K hH; have hH := hH2; clear hH2
  try go_frame
  refine tp 8 ?_; try go_frame
  refine tp 9 ?_; try go_frame
  refine tz ?_
  obtain ⟨h0, h1, h2, h3, ⟨a4, n4, c4⟩, h5, rfl, -, -, -, -, q4, -⟩ := RState.out HST7.out
  simp only [wst2] at q4
  obtain rfl : n4 = 2 := q4.1.symm
  obtain ⟨B4, o4, rfl, hB4, hD4, hq4⟩ := q4.2.2.2.2 (by omega)
  obtain ⟨c40, hr40, hc40⟩ := hq4 0 (by omega)
  obtain ⟨r40, rfl⟩ := headClass hr40
  have HN4 : Hid (W7.cell? ⟨B4, o4 + 0 * 2 + 0, none⟩ = some (.string ⟨#[97]⟩)) := hc40 0 _ rfl
  have HB4 : Hid (B4 < W7.heap.size) := hB4
  clear hq4 hc40 hr40 hB4 hD4 q4 HST7
  have HWB : Hid (Below w.heap.size w W7) := hH.below
  have HDL : Hid (D < W7.heap.size) := hH.ltM 0 rfl
  clear hH
  go_wp2_with fail
  refine (class_calls _ _).mono ?_
  rintro e v1 ⟨rfl, hv1⟩
  go_wp2_with fail
  refine (wChk 5 40 wchk1 _).mono ?_
  rintro e v2 ⟨rfl, hv2⟩
  go_wp2_with fail
  refine (wChk 7 2 wchk2 _).mono ?_
  rintro e v3 ⟨rfl, hv3⟩
  have HV3 : Hid (Below W7.heap.size W7 v3) := on2 (on2 hv1 hv2) hv3
  have hk4 : v3.cell? ⟨D, 4, none⟩ = some (.slice (some ⟨B4, o4, none⟩) 2 c4) := by have := range_on HRG.out HV3.out HDL.out 4 _ rfl; simpa using this
  have hkl : D < v3.heap.size := Nat.lt_of_lt_of_le HDL.out HV3.out.size
  have hn4 : v3.cell? ⟨B4, o4, none⟩ = some (.string ⟨#[97]⟩) := by have := (HV3.out.cell (p := ⟨B4, o4 + 0 * 2 + 0, none⟩) HB4.out).trans HN4.out; simpa using this
  have hnl : B4 < v3.heap.size := Nat.lt_of_lt_of_le HB4.out HV3.out.size
  clear hv1 hv2 hv3 HRG
  go_wp2_with fail
  go_ret
  exact ⟨rfl, on2 HWB.out HV3.out⟩
end Go.Proofs.YtikncmcceeacmaaGreat

namespace Go.Proofs.YtikncmcceeacmaaGreat
set_option maxHeartbeats 16000000
set_option maxRecDepth 100000
open Tryz Go.RowKit
set_option linter.unusedSimpArgs false
theorem checks_walk (cs : List Value) (x : ObjectD) (w : World) (h : RObject (fun _ => True) w cs x) : Calls prog 3 #[.agg cs.toArray] w fun e w' => e = .returned (.bool true) ∧ Below w.heap.size w w' := by
 have hi : (prog.info? 46).map (·.size) = some cs.length := by rw [RObject.firm.len h]; exact infoObj
 have HX : Hid (RObject (fun _ => True) w cs x) := h
 obtain ⟨U0, hU0⟩ : ∃ U0, U0 = w.alloc (.cells cs.toArray 46) := ⟨_, rfl⟩
 have HH0 : Hid (Held w [(w.heap.size, cs)] [] U0) := by rw [Hid, hU0]; exact (Held.start w).push rfl cs _
 have HR0 : Hid (U0.rangeAt w.heap.size 0 cs) := HH0.out.get 0 rfl
 clear h
 go_enter func3, ntmps3
 go_upto_region 1 with fail
 rw [← hU0]
 clear hU0
 go_wp2_with (first | (refine BigFrame.wpList_want rfl (fun _ hKK => wp_load_mid 46 _ rfl (w.heap.size) 0 rfl cs _ HR0.out underlying46 rfl hi (hKK _ _ ?_))) | fail)
 refine (Object_copy cs _ x U0 (RObject.firm.kept HX.out (Kept.below HH0.out.below))).mono ?_
 rintro e u1 ⟨ds, rfl, hd, hb1⟩
 have hid : (prog.info? 46).map (·.size) = some ds.length := by rw [RObject.firm.len hd]; exact infoObj
 have hida : (prog.info? 46).map (·.size) = some ds.toArray.size := by simpa using hid
 have hod : ds.toArray.all (·.oneCell') = true := all_oneCell_toArray (RObject.firm.one hd)
 have HH1 := HH0.out.on hb1
 obtain ⟨U2, hU2⟩ : ∃ U, U = u1.alloc (.cells (zC 0).toArray 46) := ⟨_, rfl⟩
 have HM2 : Held w [(w.heap.size, cs)] [(u1.heap.size, 40)] U2 := by rw [hU2]; exact HH1.room rfl (zC 0).toArray _
 obtain ⟨U3, hU3⟩ : ∃ U, U = U2.setCells u1.heap.size 0 ds := ⟨_, rfl⟩
 have hDw : w.heap.size < u1.heap.size := HH1.lt 0 rfl
 have hl40 := RObject.firm.len hd
 have HH3 : Hid (Held w [(u1.heap.size, ds), (w.heap.size, cs)] [] U3) := by rw [Hid, hU3]; exact HM2.store hl40 (fun z hz => by simp only [List.mem_cons, List.not_mem_nil, or_false] at hz; subst hz; simp; omega)
 have HT : Hid (U2.there u1.heap.size 0 ds.toArray.size) := there_sub (HM2.there 0 rfl) (by simp [hl40])
 have HD3 : Hid (RObject (fun _ => True) U3 ds x) := by
  rw [Hid, hU3, hU2]
  refine RObject.firm.weak (RObject.firm.kept (RObject.firm.weak hd (A' := fun b => b ≠ u1.heap.size) (fun b hb _ => by omega)) (Kept.below (below_setCells ((Below.refl _ u1).alloc (Nat.le_refl _) _) (Nat.le_refl _)))) (fun _ _ _ => trivial)
 have HU3 : Hid (U3 = _) := hU3.trans (by rw [hU2])
 rw [hU2] at HT
 clear hd hb1 HH0 HR0 HH1 HM2 hU2 hU3 hDw hl40
 go_wp2_with (first | (refine wpList_store_mid rfl 46 _ _ rfl u1.heap.size 0 ds.toArray rfl rfl HT.out hida hod ?_; refine wpl_at HU3.out ?_) | fail)
 clear HT HU3
 generalize u1.heap.size = D at HH3 ⊢
 obtain ⟨c, hc⟩ : ∃ c, checkO x = c := ⟨_, rfl⟩
 obtain ⟨s, hs⟩ : ∃ s, nameO x = s := ⟨_, rfl⟩
 have HK : Hid (∀ u, Below U3.heap.size U3 u → Calls prog 9 #[.agg ds.toArray] u fun e w' => e = .returned (.int .i64 c) ∧ Below u.heap.size u w') := fun u hu => by rw [← hc]; exact Check_calls ds _ x u (RObject.firm.kept HD3.out (Kept.below hu))
 have HN : Hid (∀ u, Below U3.heap.size U3 u → Calls prog 11 #[.agg ds.toArray] u fun e w' => e = .returned (.string s) ∧ Below u.heap.size u w') := fun u hu => by rw [← hs]; exact Name_calls ds _ x u (RObject.firm.kept HD3.out (Kept.below hu))
 have HK2 : Hid (∀ u, Below w.heap.size w u → Calls prog 10 #[.agg cs.toArray] u fun e w' => e = .returned (.int .i64 c) ∧ Below u.heap.size u w') := fun u hu => by rw [← hc]; exact rCheck_all cs _ x u (RObject.firm.kept HX.out (Kept.below hu))
 have HN2 : Hid (∀ u, Below w.heap.size w u → Calls prog 12 #[.agg cs.toArray] u fun e w' => e = .returned (.string s) ∧ Below u.heap.size u w') := fun u hu => by rw [← hs]; exact rName_all cs _ x u (RObject.firm.kept HX.out (Kept.below hu))
 have HS : Hid (∀ u, Below w.heap.size w u → Below U3.heap.size U3 u → Calls prog 13 #[.agg ds.toArray, .agg cs.toArray] u fun e w' => e = .returned (.bool true) ∧ Below u.heap.size u w') := fun u hu hu3 => SameObject_yes ds cs _ _ x u (RObject.firm.kept HD3.out (Kept.below hu3)) (RObject.firm.kept HX.out (Kept.below hu))
 clear hc hs HX HD3
 refine t0 ((fun u => Held w [(D, ds), (w.heap.size, cs)] [] u ∧ Below U3.heap.size U3 u)) (⟨HH3.out.drew, (Below.refl _ U3).drew⟩) (fun hH => ?_)
 refine tq 0 (.agg ds.toArray) (yieldsIf_load_mid (by rfl) 46 _ rfl (D) 0 rfl ds _ (fun u hu => Held.get hu.1 0 rfl) underlying46 rfl hid) ?_ (hi := rfl)
 try go_frame
 refine tq 2 (.agg cs.toArray) (yieldsIf_load_mid (by rfl) 46 _ rfl (w.heap.size) 0 rfl cs _ (fun u hu => Held.get hu.1 1 rfl) underlying46 rfl hi) ?_ (hi := rfl)
 try go_frame
 refine tr 1 (fun K hK => ?_)
 refine want_yes (by rfl) (call_enter (f := 9) (args := #[.agg ds.toArray]) (by kernel_rfl) (HK.out _ hH.2) (fun e v1 he => ?_))
 obtain ⟨rfl, hb_v1⟩ := he
 refine ⟨_, rfl, hK.out _ _ (⟨hH.1.on hb_v1, on2 hH.2 hb_v1⟩) (fun hH => ?_)⟩
 clear hK K
 try go_frame
 refine tr 3 (fun K hK => ?_)
 refine want_yes (by rfl) (call_enter (f := 10) (args := #[.agg cs.toArray]) (by kernel_rfl) (HK2.out _ hH.1.below) (fun e v2 he => ?_))
 obtain ⟨rfl, hb_v2⟩ := he
 refine ⟨_, rfl, hK.out _ _ (⟨hH.1.on hb_v2, on2 hH.2 hb_v2⟩) (fun hH => ?_)⟩
 clear hK K
 try go_frame
 refine tp 4 ?_; try go_frame
 refine tp 5 ?_; try go_frame
 refine tq 6 (.agg ds.toArray) (yieldsIf_load_mid (by rfl) 46 _ rfl (D) 0 rfl ds _ (fun u hu => Held.get hu.1 0 rfl) underlying46 rfl hid) ?_ (hi := rfl)
 try go_frame
 refine tq 8 (.agg cs.toArray) (yieldsIf_load_mid (by rfl) 46 _ rfl (w.heap.size) 0 rfl cs _ (fun u hu => Held.get hu.1 1 rfl) underlying46 rfl hi) ?_ (hi := rfl)
 try go_frame
 refine tr 7 (fun K hK => ?_)
 refine want_yes (by rfl) (call_enter (f := 11) (args := #[.agg ds.toArray]) (by kernel_rfl) (HN.out _ hH.2) (fun e v3 he => ?_))
 obtain ⟨rfl, hb_v3⟩ := he
 refine ⟨_, rfl, hK.out _ _ (⟨hH.1.on hb_v3, on2 hH.2 hb_v3⟩) (fun hH => ?_)⟩
 clear hK K
 try go_frame
 refine tr 9 (fun K hK => ?_)
 refine want_yes (by rfl) (call_enter (f := 12) (args := #[.agg cs.toArray]) (by kernel_rfl) (HN2.out _ hH.1.below) (fun e v4 he => ?_))
 obtain ⟨rfl, hb_v4⟩ := he
 refine ⟨_, rfl, hK.out _ _ (⟨hH.1.on hb_v4, on2 hH.2 hb_v4⟩) (fun hH => ?_)⟩
 clear hK K
 try go_frame
 refine tp 10 ?_; try go_frame
 refine tp 11 ?_; try go_frame
 refine tp 12 ?_; try go_frame
 refine tq 13 (.agg ds.toArray) (yieldsIf_load_mid (by rfl) 46 _ rfl (D) 0 rfl ds _ (fun u hu => Held.get hu.1 0 rfl) underlying46 rfl hid) ?_ (hi := rfl)
 try go_frame
 refine tq 14 (.agg cs.toArray) (yieldsIf_load_mid (by rfl) 46 _ rfl (w.heap.size) 0 rfl cs _ (fun u hu => Held.get hu.1 1 rfl) underlying46 rfl hi) ?_ (hi := rfl)
 try go_frame
 refine tr 15 (fun K hK => ?_)
 refine want_yes (by rfl) (call_enter (f := 13) (args := #[.agg ds.toArray, .agg cs.toArray]) (by kernel_rfl) (HS.out _ hH.1.below hH.2) (fun e v5 he => ?_))
 obtain ⟨rfl, hb_v5⟩ := he
 refine ⟨_, rfl, hK.out _ _ (⟨hH.1.on hb_v5, on2 hH.2 hb_v5⟩) (fun hH => ?_)⟩
 clear hK K
 try go_frame
 refine tp 16 ?_; try go_frame
 refine tp 17 ?_; try go_frame
 refine tr 18 (fun K hK => ?_)
 refine want_yes (by rfl) (call_enter (f := 14) (args := #[]) (by kernel_rfl) (works_calls _) (fun e v6 he => ?_))
 obtain ⟨rfl, hb_v6⟩ := he
 refine ⟨_, rfl, hK.out _ _ (⟨hH.1.on hb_v6, on2 hH.2 hb_v6⟩) (fun hH => ?_)⟩
 clear hK K
 try go_frame
 refine tp 19 ?_; try go_frame
 refine tp 20 ?_; try go_frame
 refine tz ?_
 go_wp2_with fail
 go_ret
 exact ⟨rfl, hH.1.below⟩
end Go.Proofs.YtikncmcceeacmaaGreat

namespace Go.Proofs.YtikncmcceeacmaaGreat
set_option maxHeartbeats 16000000
set_option maxRecDepth 100000
open Go.Proofs.Tryz Go.ChangeShapes Go.WideShapes Go.ChangeAt Go.RowKit
def Light {H : Type} (d : DataW H) (t : TypeId) : Prop := ∀ n ∈ d.weights prog t, n ≤ 140737488351232
theorem light_all {H : Type} {e : TypeId} : ∀ {ds : List (DataW H)} {d : DataW H}, d ∈ ds → (∀ n ∈ DataW.weightsAll prog e ds, n ≤ 140737488351232) → Light d e
 | [], _, h, _ => by simp at h
 | x :: ds, d, h, hw => by
  rcases List.mem_cons.1 h with rfl | h
  ·
   intro n hn; exact hw n (by simp [DataW.weightsAll, hn])
  ·
   exact light_all h (fun n hn => hw n (by simp [DataW.weightsAll, hn]))
theorem light_slice {H : Type} {t e : TypeId} {elems spare : List (DataW H)} (hu : prog.underlying t = some (.slice e)) (h : Light (.slice elems spare) t) : elems.length * prog.bytesOf e ≤ 140737488351232 ∧ ∀ d ∈ elems, Light d e := by
 unfold Light at h
 simp only [DataW.weights, hu, List.mem_cons, List.mem_append] at h
 refine ⟨?_, fun d hd => light_all hd (fun n hn => h n (.inr (.inl hn)))⟩
 have := h _ (.inl rfl)
 rw [Nat.add_mul] at this
 omega
theorem light_struct {H : Type} {t : TypeId} {fs : Array Field} {parts : List (DataW H)} (hu : prog.underlying t = some (.struct fs)) (h : Light (.agg parts) t) {j : Nat} {tj : TypeId} {d : DataW H} (ht : (fs.toList.map (·.type))[j]? = some tj) (hd : parts[j]? = some d) : Light d tj := by
 intro n hn
 refine h n ?_
 simp only [DataW.weights, hu]
 exact DataW.weights_mem_each ht hd n hn
theorem light_arg {H : Type} {ts : List TypeId} {ds : List (DataW H)} (h : (DataW.weightsEach prog ts ds).all (· ≤ reachBytes) = true) {j : Nat} {t : TypeId} {d : DataW H} (ht : ts[j]? = some t) (hd : ds[j]? = some d) : Light d t := by
 intro n hn
 have := List.all_eq_true.1 h _ (DataW.weights_mem_each ht hd n hn)
 have hre : reachBytes = 140737488351232 := by decide
 rw [hre] at this
 simpa using this
section
variable {H : Type} {enc : TypeId × Value → H} {W : World} {base n : Nat} {sp : Nat → Bool} {held : Bool}
theorem addr_lt {B off : Nat} {spot : Option _} {v : Value} (h : W.cell? ⟨B, off, spot⟩ = some v) : B < W.heap.size := by
 rcases Nat.lt_or_ge B W.heap.size with h2 | h2
 ·
  exact h2
 ·
  simp [World.cell?, Array.getElem?_eq_none h2] at h
theorem getD_range {α : Type} [Inhabited α] (f : Nat → α) (len i : Nat) (h : i < len) : ((List.range len).map f).getD i default = f i := by
 rw [getE _ _ (by simpa using h)]; simp
end
end Go.Proofs.YtikncmcceeacmaaGreat

