/- object.Put, and its like. No condition beyond what each says. -/
import Derived.Lib.OwnBridge
import Derived.Lib.AppendIntMem
import Derived.Test.YtfbnnfpnjjjfcaaGreatS43
namespace Go.Proofs.YtfbnnfpnjjjfcaaGreat
set_option maxHeartbeats 16000000
set_option maxRecDepth 100000
open Tryz Go.RowKit
set_option linter.unusedSimpArgs false
theorem Put_Class (ss cs : List Value) (A : Where) (x : StateD) (o : ObjectD) (w : World) (hs : RState A w ss x) (ho : RObject A w cs o) (hk : o.1 = 5) (hc : checkO o = 0) : Calls prog 19 #[.agg ss.toArray, .agg cs.toArray] w fun e w' => StTup A w (putSClass x o.2.2.2.2.2.1) e w' := by
 have his : (prog.info? 61).map (·.size) = some ss.length := by rw [RState.firm.len hs]; exact infoSta
 have hi : (prog.info? 46).map (·.size) = some cs.length := by rw [RObject.firm.len ho]; exact infoObj
 have HS : Hid (RState (Lo A w) w ss x) := RState.firm.weak hs (fun b hb h => ⟨h, hb⟩)
 have HO : Hid (RObject (Lo A w) w cs o) := RObject.firm.weak ho (fun b hb h => ⟨h, hb⟩)
 have H0 : Hid (cs[0]? = some (.int .i64 5)) := by rw [Hid, obj0 ho, hk]
 have HC : Hid (∀ u, Below w.heap.size w u → Calls prog 9 #[.agg cs.toArray] u fun e w' => e = .returned (.int .i64 0) ∧ Below u.heap.size u w') := fun u hu => by
  have := Check_calls cs _ o u (RObject.firm.kept HO.out (Kept.below hu))
  rwa [hc] at this
 obtain ⟨r, hr⟩ : ∃ r, putSClass x o.2.2.2.2.2.1 = r := ⟨_, rfl⟩
 have HP : Hid (∀ u, Below w.heap.size w u → Calls prog 287 #[.agg #[.iface 152 (.agg #[])], .agg ss.toArray, .agg cs.toArray] u fun e w' => ∃ gs, e = .returned (.tuple #[.agg gs.toArray, .bool r.2.1, .int .i64 r.2.2]) ∧ StV (Lo (Lo A w) u) u w' gs r.1 ∧ Below u.heap.size u w') := fun u hu => by
  rw [← hr]
  exact (Class_oput ss cs _ x o u (RState.firm.kept HS.out (Kept.below hu)) (RObject.firm.kept HO.out (Kept.below hu))).mono (fun e w' h => h.st)
 rw [hr]
 clear hr hk hc
 clear hs ho
 obtain ⟨U0, hU0⟩ : ∃ U0, U0 = (((w.alloc (.cells ss.toArray 61)).alloc (.cells cs.toArray 46)).alloc (.cells #[Z, Z, Z, Z, Z, Z] 61)) := ⟨_, rfl⟩
 have HH0 : Hid (Held w [(w.heap.size + 1, cs), (w.heap.size, ss)] [(w.heap.size + 1 + 1, 6)] U0) := by rw [Hid, hU0]; exact (((Held.start w).push rfl ss 61).push (by simp) cs 46).room (by simp) #[Z, Z, Z, Z, Z, Z] 61
 have HU : Hid (U0.heap.size = w.heap.size + 1 + 1 + 1) := by rw [Hid, hU0]; simp
 have HR0 : Hid ((((w.alloc (.cells ss.toArray 61)).alloc (.cells cs.toArray 46)).alloc (.cells #[Z, Z, Z, Z, Z, Z] 61)).rangeAt (w.heap.size + 1) 0 cs) := by have := HH0.out.get 0 (b := w.heap.size + 1) rfl; rw [hU0] at this; exact this
 go_enter func19, ntmps19
 go_wp2_with (first | (refine BigFrame.wpList_want rfl (fun _ hKK => wp_load_mid 46 _ rfl (w.heap.size + 1) 0 rfl cs _ HR0.out underlying46 rfl hi (hKK _ _ ?_))) | fail)
 rw [← hU0]
 clear hU0 HR0
 refine (HC.out _ HH0.out.below).mono ?_
 rintro e u1 ⟨rfl, hb1⟩
 have HH1 : Hid (Held w [(w.heap.size + 1, cs), (w.heap.size, ss)] [(w.heap.size + 1 + 1, 6)] u1) := HH0.out.on hb1
 have HU1 : Hid (w.heap.size + 1 + 1 < u1.heap.size) := by have := hb1.size; rw [HU.out] at this; rw [Hid]; omega
 have hz := HH1.out.cell 0 (b := w.heap.size + 1) rfl 0 H0.out
 have hzl := HH1.out.lt 0 (b := w.heap.size + 1) rfl
 clear HH0 hb1 HC HU
 go_wp2_with fail
 clear hz hzl
 refine (kindOf_Class _).mono ?_
 rintro e u2 ⟨rfl, hb2⟩
 have HH2 : Hid (Held w [(w.heap.size + 1, cs), (w.heap.size, ss)] [(w.heap.size + 1 + 1, 6)] u2) := HH1.out.on hb2
 have HU2 : Hid (w.heap.size + 1 + 1 < u2.heap.size) := Nat.lt_of_lt_of_le HU1.out hb2.size
 clear HH1 HU1 hb2
 have HRS : Hid (u2.rangeAt (w.heap.size) 0 ss) := HH2.out.get 1 rfl
 have HRO : Hid (u2.rangeAt (w.heap.size + 1) 0 cs) := HH2.out.get 0 rfl
 go_wp2_with (first | (refine BigFrame.wpList_want rfl (fun _ hKK => wp_load_mid 61 _ rfl (w.heap.size) 0 rfl ss _ HRS.out underlying61 rfl his (hKK _ _ ?_))) | (refine BigFrame.wpList_want rfl (fun _ hKK => wp_load_mid 46 _ rfl (w.heap.size + 1) 0 rfl cs _ HRO.out underlying46 rfl hi (hKK _ _ ?_))) | fail)
 clear HRS HRO
 refine (HP.out _ HH2.out.below).mono ?_
 rintro e u3 ⟨gs, rfl, hst, hb3⟩
 have HH3 : Hid (Held w [(w.heap.size + 1, cs), (w.heap.size, ss)] [(w.heap.size + 1 + 1, 6)] u3) := HH2.out.on hb3
 have HT : Hid (u3.there (w.heap.size + 1 + 1) 0 6) := HH3.out.there 0 rfl
 have hgl := hst.len
 have hgo := all_oneCell_toArray hst.one
 have hig : (prog.info? 61).map (·.size) = some gs.toArray.size := by simpa [hgl] using infoSta
 have higl : (prog.info? 61).map (·.size) = some gs.length := by rw [hgl]; exact infoSta
 have HT' : Hid (u3.there (w.heap.size + 1 + 1) 0 gs.toArray.size) := by simpa [Hid, hgl] using HT.out
 have HT'' : Hid (u3.there (w.heap.size + 1 + 1) 0 gs.length) := by rw [Hid, hgl]; exact HT.out
 obtain ⟨u4, hu4⟩ : ∃ u4, u4 = u3.setCells (w.heap.size + 1 + 1) 0 gs := ⟨_, rfl⟩
 have HST : Hid (StV (Lo A w) w u4 gs r.1) := by rw [Hid, hu4]; exact hst.wrote HH2.out.below (by omega) HU2.out
 have HRG : Hid (u4.rangeAt (w.heap.size + 1 + 1) 0 gs) := by rw [Hid, hu4]; exact World.rangeAt_setCells_same _ _ _ _ HT''.out
 have HU4 : Hid (u4 = u3.setCells (w.heap.size + 1 + 1) 0 gs) := hu4
 clear hu4 hst HH2 HH3 HP HT HT'' hb3
 go_wp2_with (first | (refine wpList_store_mid rfl 61 _ _ rfl (w.heap.size + 1 + 1) 0 gs.toArray rfl rfl HT'.out hig hgo ?_; refine wpl_at HU4.out ?_) | fail)
 refine bodyPost_ret (v := .tuple #[.agg gs.toArray, .bool r.2.1, .int .i64 r.2.2]) (res_cell3 (p := 4) (q := 5) (r := 6) (ty := 61) rfl _ _ (w.heap.size + 1 + 1) gs _ _ _ rfl rfl rfl HRG.out underlying61 rfl higl) rfl (HST.out.tup HST.out.below)
end Go.Proofs.YtfbnnfpnjjjfcaaGreat

namespace Go.Proofs.YtfbnnfpnjjjfcaaGreat
set_option maxHeartbeats 16000000
set_option maxRecDepth 100000
set_option linter.unusedSimpArgs false
theorem cb_cons (a b : UInt8) (xs ys : List UInt8) : (a.toNat < b.toNat ∧ Lib.compareBytes (a :: xs) (b :: ys) = -1) ∨ (b.toNat < a.toNat ∧ Lib.compareBytes (a :: xs) (b :: ys) = 1) ∨ (a.toNat = b.toNat ∧ Lib.compareBytes (a :: xs) (b :: ys) = Lib.compareBytes xs ys) := by
 simp only [Lib.compareBytes]
 by_cases h1 : a < b
 ·
  exact .inl ⟨h1, by rw [if_pos h1]⟩
 ·
  by_cases h2 : b < a
  ·
   exact .inr (.inl ⟨h2, by rw [if_neg h1, if_pos h2]⟩)
  ·
   have h1' : ¬ a.toNat < b.toNat := h1
   have h2' : ¬ b.toNat < a.toNat := h2
   exact .inr (.inr ⟨by omega, by rw [if_neg h1, if_neg h2]⟩)
theorem cb_less : ∀ (a b : List UInt8), (Lib.compareBytes a b < 0) ↔ Op.bytesLess a b = true
 | [], [] => by simp [Lib.compareBytes, Op.bytesLess]
 | [], _ :: _ => by simp [Lib.compareBytes, Op.bytesLess]
 | _ :: _, [] => by simp [Lib.compareBytes, Op.bytesLess]
 | a :: xs, b :: ys => by
  have ih := cb_less xs ys
  rcases cb_cons a b xs ys with ⟨h, e⟩ | ⟨h, e⟩ | ⟨h, e⟩ <;> rw [e] <;> simp only [Op.bytesLess, Bool.or_eq_true, Bool.and_eq_true, decide_eq_true_eq, beq_iff_eq]
  ·
   have : a < b := h
   simp [this]
  ·
   have h1 : ¬ a < b := fun x => by have : a.toNat < b.toNat := x; omega
   have h2 : ¬ a = b := fun x => by rw [x] at h; omega
   simp [h1, h2]
  ·
   have h1 : ¬ a < b := fun x => by have : a.toNat < b.toNat := x; omega
   have h2 : a = b := UInt8.toNat_inj.1 h
   simp [h1, h2, ih]
theorem cb_self : ∀ a : List UInt8, Lib.compareBytes a a = 0
 | [] => rfl
 | a :: xs => by rcases cb_cons a a xs xs with ⟨h, _⟩ | ⟨h, _⟩ | ⟨_, e⟩; omega; omega; rw [e]; exact cb_self xs
theorem cb_trans : ∀ (a b c : List UInt8), Lib.compareBytes a b < 0 → Lib.compareBytes b c < 0 → Lib.compareBytes a c < 0
 | [], [], _, h, _ => by simp [Lib.compareBytes] at h
 | _ :: _, [], _, h, _ => by simp [Lib.compareBytes] at h
 | _, _ :: _, [], _, h => by simp [Lib.compareBytes] at h
 | [], _ :: _, _ :: _, _, _ => by simp [Lib.compareBytes]
 | a :: xs, b :: ys, c :: zs, h1, h2 => by
  rcases cb_cons a b xs ys with ⟨p, e⟩ | ⟨p, e⟩ | ⟨p, e⟩ <;> rw [e] at h1 <;> rcases cb_cons b c ys zs with ⟨q, f⟩ | ⟨q, f⟩ | ⟨q, f⟩ <;> rw [f] at h2 <;> rcases cb_cons a c xs zs with ⟨r, g⟩ | ⟨r, g⟩ | ⟨r, g⟩ <;> rw [g] <;> first | omega | exact cb_trans xs ys zs h1 h2
theorem sLt_iff (a b : ByteArray) : sLt a b = true ↔ Lib.compareBytes a.data.toList b.data.toList < 0 := by
 unfold sLt
 rw [ByteArray.toList_eq, ByteArray.toList_eq]
 exact (cb_less _ _).symm
theorem sLt_false (a b : ByteArray) : sLt a b = false ↔ ¬ Lib.compareBytes a.data.toList b.data.toList < 0 := by
 rw [← sLt_iff]; simp
theorem sLt_trans {a b c : ByteArray} (h1 : sLt a b = true) (h2 : sLt b c = true) : sLt a c = true := by
 rw [sLt_iff] at *; exact cb_trans _ _ _ h1 h2
theorem cb_tri : ∀ a b : List UInt8, (Lib.compareBytes a b < 0 ∧ 0 < Lib.compareBytes b a) ∨ (Lib.compareBytes a b = 0 ∧ a = b) ∨ (0 < Lib.compareBytes a b ∧ Lib.compareBytes b a < 0)
 | [], [] => .inr (.inl ⟨rfl, rfl⟩)
 | [], _ :: _ => .inl ⟨by simp [Lib.compareBytes], by simp [Lib.compareBytes]⟩
 | _ :: _, [] => .inr (.inr ⟨by simp [Lib.compareBytes], by simp [Lib.compareBytes]⟩)
 | a :: xs, b :: ys => by
  have ih := cb_tri xs ys
  rcases cb_cons a b xs ys with ⟨h, e⟩ | ⟨h, e⟩ | ⟨h, e⟩ <;> rcases cb_cons b a ys xs with ⟨h', e'⟩ | ⟨h', e'⟩ | ⟨h', e'⟩ <;> rw [e, e'] <;> first | omega | skip
  have : a = b := UInt8.toNat_inj.1 h
  subst this
  rcases ih with h | ⟨h1, h2⟩ | h
  ·
   exact .inl h
  ·
   exact .inr (.inl ⟨h1, by rw [h2]⟩)
  ·
   exact .inr (.inr h)
end Go.Proofs.YtfbnnfpnjjjfcaaGreat

namespace Go.Proofs.YtfbnnfpnjjjfcaaGreat
set_option maxHeartbeats 16000000
set_option maxRecDepth 100000
open Tryz Go.RowKit
set_option linter.unusedSimpArgs false
set_option linter.unusedSectionVars false
theorem sGt_iff (a b : ByteArray) : sGt a b = true ↔ sLt b a = true := by
 have h3 := cb_tri a.data.toList b.data.toList
 have e1 : sEq a b = true ↔ a = b := sEq_iff a b
 rw [sGt, Bool.and_eq_true, Bool.not_eq_true', Bool.not_eq_true', sLt_iff, sLt_false]
 constructor
 ·
  rintro ⟨h1, h2⟩
  rcases h3 with h | h | h
  ·
   exact absurd h.1 h1
  ·
   have : a = b := by cases a; cases b; simpa using h.2
   rw [e1.2 this] at h2; cases h2
  ·
   exact h.2
 ·
  intro h
  rcases h3 with h' | h' | h'
  ·
   omega
  ·
   have : a = b := by cases a; cases b; simpa using h'.2
   subst this; rw [cb_self] at h; omega
  ·
   refine ⟨by omega, sEq_false (fun e => ?_)⟩
   subst e; rw [cb_self] at h; omega
theorem sLt_of {a b : ByteArray} (h1 : sGt a b = false) (h2 : sEq a b = false) : sLt a b = true := by
 rw [sGt, h2] at h1; simpa using h1
section
variable {α : Type} [Inhabited α] (f : α → ByteArray)
def Up (L : List α) : Prop := L.Pairwise (fun a b => sLt (f a) (f b) = true)
theorem rises_up {L : List α} : risesBy sLt f L = true ↔ Up f L := by
 rw [risesBy, allTo_iff, Up, List.pairwise_iff_getElem]
 constructor
 ·
  intro h
  have h' : ∀ i (hi : i + 1 < L.length), sLt (f L[i]) (f L[i + 1]) = true := fun i hi => by
   have := h (i + 1) hi
   rw [getE _ _ hi, show i + 1 - 1 = i by omega, getE _ _ (by omega)] at this
   simpa using this
  have key : ∀ d i (hd : i + d + 1 < L.length), sLt (f (L[i]'(by omega))) (f L[i + d + 1]) = true := by
   intro d
   induction d with
   | zero => intro i hd; exact h' i hd
   | succ d ih => intro i hd; exact sLt_trans (ih i (by omega)) (h' (i + d + 1) hd)
  intro i j hi hj hij
  have := key (j - i - 1) i (by omega)
  have e : i + (j - i - 1) + 1 = j := by omega
  simpa only [e] using this
 ·
  intro h i hi
  rcases Nat.eq_zero_or_pos i with h0 | h0
  ·
   simp [h0]
  ·
   have := h (i - 1) i (by omega) hi (by omega)
   rw [getE _ _ hi, getE _ _ (by omega)]
   simp [this]
theorem up_replace {L : List α} {o : α} (h : Up f L) {i : Nat} (hi : i < L.length) (he : f L[i] = f o) : Up f (L.take i ++ o :: L.drop (i + 1)) := by
 have e : (L.take i ++ o :: L.drop (i + 1)).map f = L.map f := by
  have e0 : L.take i ++ L[i] :: L.drop (i + 1) = L := by rw [← List.drop_eq_getElem_cons hi, List.take_append_drop]
  calc (L.take i ++ o :: L.drop (i + 1)).map f = (L.take i ++ L[i] :: L.drop (i + 1)).map f := by simp only [List.map_append, List.map_cons, he]
   _ = L.map f := by rw [e0]
 have h1 : (L.map f).Pairwise (fun a b => sLt a b = true) := List.pairwise_map.2 h
 rw [← e] at h1
 exact List.pairwise_map.1 h1
theorem up_insert {L : List α} {o : α} (h : Up f L) (hn : ∀ x ∈ L, sEq (f x) (f o) = false) {i : Nat} (hi : L.findIdx (fun x => sGt (f x) (f o)) = i) : Up f (L.take i ++ o :: L.drop i) := by
 have hs : Up f (L.take i ++ L.drop i) := by rw [List.take_append_drop]; exact h
 obtain ⟨h1, h2, h3⟩ := List.pairwise_append.1 hs
 have hlow : ∀ a ∈ L.take i, sLt (f a) (f o) = true := fun a ha => by
  obtain ⟨j, hj, rfl⟩ := List.mem_iff_getElem.1 ha
  rw [List.length_take] at hj
  have hj' : j < L.findIdx (fun x => sGt (f x) (f o)) := by omega
  have := List.not_of_lt_findIdx hj'
  rw [List.getElem_take]
  exact sLt_of (by simpa using this) (hn _ (List.getElem_mem _))
 have hhigh : ∀ b ∈ L.drop i, sLt (f o) (f b) = true := fun b hb => by
  have hil : i < L.length := by
   rcases Nat.lt_or_ge i L.length with h' | h'
   ·
    exact h'
   ·
    rw [List.drop_eq_nil_of_le h'] at hb; cases hb
  have h0 : sGt (f L[i]) (f o) = true := by
   have := List.findIdx_getElem (xs := L) (p := fun x => sGt (f x) (f o)) (w := by rw [hi]; exact hil)
   simpa only [hi] using this
  have h0' := (sGt_iff _ _).1 h0
  rw [List.drop_eq_getElem_cons hil] at hb h2
  rcases List.mem_cons.1 hb with rfl | hb
  ·
   exact h0'
  ·
   exact sLt_trans h0' ((List.pairwise_cons.1 h2).1 b hb)
 refine List.pairwise_append.2 ⟨h1, List.pairwise_cons.2 ⟨hhigh, h2⟩, fun a ha b hb => ?_⟩
 rcases List.mem_cons.1 hb with rfl | hb
 ·
  exact hlow a ha
 ·
  exact h3 a ha b hb
def ListOK (right : α → Bool) (L : List α) : Prop := L.length ≤ 256 ∧ L.all right = true ∧ risesBy sLt f L = true
variable {f} {right : α → Bool} {L : List α}
theorem ListOK.put {o : α} {r : List α × Bool} (h : ListOK f right L) (ho : right o = true) (hp : putL f L o = some r) : ListOK f right r.1 := by
 obtain ⟨h1, h2, h3⟩ := h
 rw [rises_up] at h3
 rw [List.all_eq_true] at h2
 have hall : ∀ i j, (L.take i ++ o :: L.drop j).all right = true := fun i j => by
  rw [List.all_eq_true]
  intro x hx
  rcases List.mem_append.1 hx with hx | hx
  ·
   exact h2 x (List.mem_of_mem_take hx)
  ·
   rcases List.mem_cons.1 hx with rfl | hx
   ·
    exact ho
   ·
    exact h2 x (List.mem_of_mem_drop hx)
 rw [putL] at hp
 split at hp
 ·
  rename_i hi
  cases hp
  have := List.findIdx_getElem (xs := L) (p := fun x => sEq (f x) (f o)) (w := hi)
  exact ⟨by simp; omega, hall _ _, (rises_up f).2 (up_replace f h3 hi ((sEq_iff _ _).1 this))⟩
 ·
  rename_i hi
  split at hp
  ·
   cases hp
  ·
   rename_i hl
   cases hp
   refine ⟨by simp; omega, hall _ _, (rises_up f).2 (up_insert f h3 (fun x hx => ?_) rfl)⟩
   have he : L.findIdx (fun x => sEq (f x) (f o)) = L.length := Nat.le_antisymm List.findIdx_le_length (Nat.le_of_not_lt hi)
   have := (List.findIdx_eq_length.1 he) x hx
   simpa using this
end
end Go.Proofs.YtfbnnfpnjjjfcaaGreat

namespace Go.Proofs.YtfbnnfpnjjjfcaaGreat
set_option maxHeartbeats 16000000
set_option maxRecDepth 100000
open Tryz Go.RowKit
set_option linter.unusedSimpArgs false
def clsO (n : Int) (s : ByteArray) : ObjectD := (n, (⟨#[]⟩, 0, [], (0, 0, 0), [], [], [], [], [], [], [], [], ⟨#[]⟩, ⟨#[]⟩), (⟨#[]⟩, [], [], false, (0, 0, 0), 0, 0), (⟨#[]⟩, 0, ⟨#[]⟩, [], ⟨#[]⟩), (⟨#[]⟩, 0, ⟨#[]⟩, ⟨#[]⟩), (s, false), (⟨#[]⟩, [], 0))
def clsC (n : Int) (s : ByteArray) : List Value := .int .i64 n :: .string ⟨#[]⟩ :: .int .i64 0 :: .slice Option.none 0 0 :: .int .i64 0 :: .int .i64 0 :: .int .i64 0 :: .slice Option.none 0 0 :: .slice Option.none 0 0 :: .slice Option.none 0 0 :: .slice Option.none 0 0 :: .slice Option.none 0 0 :: .slice Option.none 0 0 :: .slice Option.none 0 0 :: .slice Option.none 0 0 :: .string ⟨#[]⟩ :: .string ⟨#[]⟩ :: .string ⟨#[]⟩ :: .slice Option.none 0 0 :: .slice Option.none 0 0 :: .bool false :: .int .i64 0 :: .int .i64 0 :: .int .i64 0 :: .int .i64 0 :: .int .i64 0 :: .string ⟨#[]⟩ :: .int .i64 0 :: .string ⟨#[]⟩ :: .slice Option.none 0 0 :: .string ⟨#[]⟩ :: .string ⟨#[]⟩ :: .int .i64 0 :: .string ⟨#[]⟩ :: .string ⟨#[]⟩ :: .string s :: .bool false :: .string ⟨#[]⟩ :: .slice Option.none 0 0 :: .int .i64 0 :: []
theorem cls_rep (A : Where) (w : World) (n : Int) (s : ByteArray) (hs : s.size ≤ 140737488355328) : RObject A w (clsC n s) (clsO n s) :=
 RObject.mk (x := clsO n s) (h3 := (none, 0, 0)) (h7 := (none, 0, 0)) (h8 := (none, 0, 0)) (h9 := (none, 0, 0)) (h10 := (none, 0, 0)) (h11 := (none, 0, 0)) (h12 := (none, 0, 0)) (h13 := (none, 0, 0)) (h14 := (none, 0, 0)) (h18 := (none, 0, 0)) (h19 := (none, 0, 0)) (h29 := (none, 0, 0)) (h38 := (none, 0, 0)) (Nat.zero_le _) (SlAt.nil _ _ none 0 (fun _ => rfl)) (SlAt.nil _ _ none 0 (fun _ => rfl)) (SlAt.nil _ _ none 0 (fun _ => rfl)) (SlAt.nil _ _ none 0 (fun _ => rfl)) (SlAt.nil _ _ none 0 (fun _ => rfl)) (SlAt.nil _ _ none 0 (fun _ => rfl)) (SlAt.nil _ _ none 0 (fun _ => rfl)) (SlAt.nil _ _ none 0 (fun _ => rfl)) (SlAt.nil _ _ none 0 (fun _ => rfl)) (Nat.zero_le _) (Nat.zero_le _) (Nat.zero_le _) (SlAt.nil _ _ none 0 (fun _ => rfl)) (SlAt.nil _ _ none 0 (fun _ => rfl)) (Nat.zero_le _) (Nat.zero_le _) (SlAt.nil _ _ none 0 (fun _ => rfl)) (Nat.zero_le _) (Nat.zero_le _) (Nat.zero_le _) (Nat.zero_le _) hs (Nat.zero_le _) (SlAt.nil _ _ none 0 (fun _ => rfl))
theorem class_calls (s : ByteArray) (w : World) : Calls prog 45 #[.string s] w fun e w' => e = .returned (.agg (clsC 5 s).toArray) ∧ Below w.heap.size w w' := by
 have HT : Hid ((w.alloc (.cells (.int .i64 0 :: .string ⟨#[]⟩ :: .int .i64 0 :: .slice Option.none 0 0 :: .int .i64 0 :: .int .i64 0 :: .int .i64 0 :: .slice Option.none 0 0 :: .slice Option.none 0 0 :: .slice Option.none 0 0 :: .slice Option.none 0 0 :: .slice Option.none 0 0 :: .slice Option.none 0 0 :: .slice Option.none 0 0 :: .slice Option.none 0 0 :: .string ⟨#[]⟩ :: .string ⟨#[]⟩ :: .string ⟨#[]⟩ :: .slice Option.none 0 0 :: .slice Option.none 0 0 :: .bool false :: .int .i64 0 :: .int .i64 0 :: .int .i64 0 :: .int .i64 0 :: .int .i64 0 :: .string ⟨#[]⟩ :: .int .i64 0 :: .string ⟨#[]⟩ :: .slice Option.none 0 0 :: .string ⟨#[]⟩ :: .string ⟨#[]⟩ :: .int .i64 0 :: .string ⟨#[]⟩ :: .string ⟨#[]⟩ :: .string ⟨#[]⟩ :: .bool false :: .string ⟨#[]⟩ :: .slice Option.none 0 0 :: .int .i64 0 :: [] : List Value).toArray 46)).there w.heap.size 0 40) := ((Held.start w).room rfl (.int .i64 0 :: .string ⟨#[]⟩ :: .int .i64 0 :: .slice Option.none 0 0 :: .int .i64 0 :: .int .i64 0 :: .int .i64 0 :: .slice Option.none 0 0 :: .slice Option.none 0 0 :: .slice Option.none 0 0 :: .slice Option.none 0 0 :: .slice Option.none 0 0 :: .slice Option.none 0 0 :: .slice Option.none 0 0 :: .slice Option.none 0 0 :: .string ⟨#[]⟩ :: .string ⟨#[]⟩ :: .string ⟨#[]⟩ :: .slice Option.none 0 0 :: .slice Option.none 0 0 :: .bool false :: .int .i64 0 :: .int .i64 0 :: .int .i64 0 :: .int .i64 0 :: .int .i64 0 :: .string ⟨#[]⟩ :: .int .i64 0 :: .string ⟨#[]⟩ :: .slice Option.none 0 0 :: .string ⟨#[]⟩ :: .string ⟨#[]⟩ :: .int .i64 0 :: .string ⟨#[]⟩ :: .string ⟨#[]⟩ :: .string ⟨#[]⟩ :: .bool false :: .string ⟨#[]⟩ :: .slice Option.none 0 0 :: .int .i64 0 :: [] : List Value).toArray 46).there 0 rfl
 obtain ⟨u4, hu4⟩ : ∃ u4, u4 = (w.alloc (.cells (.int .i64 0 :: .string ⟨#[]⟩ :: .int .i64 0 :: .slice Option.none 0 0 :: .int .i64 0 :: .int .i64 0 :: .int .i64 0 :: .slice Option.none 0 0 :: .slice Option.none 0 0 :: .slice Option.none 0 0 :: .slice Option.none 0 0 :: .slice Option.none 0 0 :: .slice Option.none 0 0 :: .slice Option.none 0 0 :: .slice Option.none 0 0 :: .string ⟨#[]⟩ :: .string ⟨#[]⟩ :: .string ⟨#[]⟩ :: .slice Option.none 0 0 :: .slice Option.none 0 0 :: .bool false :: .int .i64 0 :: .int .i64 0 :: .int .i64 0 :: .int .i64 0 :: .int .i64 0 :: .string ⟨#[]⟩ :: .int .i64 0 :: .string ⟨#[]⟩ :: .slice Option.none 0 0 :: .string ⟨#[]⟩ :: .string ⟨#[]⟩ :: .int .i64 0 :: .string ⟨#[]⟩ :: .string ⟨#[]⟩ :: .string ⟨#[]⟩ :: .bool false :: .string ⟨#[]⟩ :: .slice Option.none 0 0 :: .int .i64 0 :: [] : List Value).toArray 46)).setCells w.heap.size 0 (.int .i64 5 :: .string ⟨#[]⟩ :: .int .i64 0 :: .slice Option.none 0 0 :: .int .i64 0 :: .int .i64 0 :: .int .i64 0 :: .slice Option.none 0 0 :: .slice Option.none 0 0 :: .slice Option.none 0 0 :: .slice Option.none 0 0 :: .slice Option.none 0 0 :: .slice Option.none 0 0 :: .slice Option.none 0 0 :: .slice Option.none 0 0 :: .string ⟨#[]⟩ :: .string ⟨#[]⟩ :: .string ⟨#[]⟩ :: .slice Option.none 0 0 :: .slice Option.none 0 0 :: .bool false :: .int .i64 0 :: .int .i64 0 :: .int .i64 0 :: .int .i64 0 :: .int .i64 0 :: .string ⟨#[]⟩ :: .int .i64 0 :: .string ⟨#[]⟩ :: .slice Option.none 0 0 :: .string ⟨#[]⟩ :: .string ⟨#[]⟩ :: .int .i64 0 :: .string ⟨#[]⟩ :: .string ⟨#[]⟩ :: .string s :: .bool false :: .string ⟨#[]⟩ :: .slice Option.none 0 0 :: .int .i64 0 :: []) := ⟨_, rfl⟩
 have HBE : Hid (Below w.heap.size w u4) := by rw [Hid, hu4]; exact below_setCells ((Below.refl _ w).alloc (Nat.le_refl _) _) (Nat.le_refl _)
 have HRG : Hid (u4.rangeAt w.heap.size 0 (.int .i64 5 :: .string ⟨#[]⟩ :: .int .i64 0 :: .slice Option.none 0 0 :: .int .i64 0 :: .int .i64 0 :: .int .i64 0 :: .slice Option.none 0 0 :: .slice Option.none 0 0 :: .slice Option.none 0 0 :: .slice Option.none 0 0 :: .slice Option.none 0 0 :: .slice Option.none 0 0 :: .slice Option.none 0 0 :: .slice Option.none 0 0 :: .string ⟨#[]⟩ :: .string ⟨#[]⟩ :: .string ⟨#[]⟩ :: .slice Option.none 0 0 :: .slice Option.none 0 0 :: .bool false :: .int .i64 0 :: .int .i64 0 :: .int .i64 0 :: .int .i64 0 :: .int .i64 0 :: .string ⟨#[]⟩ :: .int .i64 0 :: .string ⟨#[]⟩ :: .slice Option.none 0 0 :: .string ⟨#[]⟩ :: .string ⟨#[]⟩ :: .int .i64 0 :: .string ⟨#[]⟩ :: .string ⟨#[]⟩ :: .string s :: .bool false :: .string ⟨#[]⟩ :: .slice Option.none 0 0 :: .int .i64 0 :: [])) := by rw [Hid, hu4]; exact World.rangeAt_setCells_same _ _ _ _ HT.out
 have HU4 : Hid (u4 = (w.alloc (.cells (.int .i64 0 :: .string ⟨#[]⟩ :: .int .i64 0 :: .slice Option.none 0 0 :: .int .i64 0 :: .int .i64 0 :: .int .i64 0 :: .slice Option.none 0 0 :: .slice Option.none 0 0 :: .slice Option.none 0 0 :: .slice Option.none 0 0 :: .slice Option.none 0 0 :: .slice Option.none 0 0 :: .slice Option.none 0 0 :: .slice Option.none 0 0 :: .string ⟨#[]⟩ :: .string ⟨#[]⟩ :: .string ⟨#[]⟩ :: .slice Option.none 0 0 :: .slice Option.none 0 0 :: .bool false :: .int .i64 0 :: .int .i64 0 :: .int .i64 0 :: .int .i64 0 :: .int .i64 0 :: .string ⟨#[]⟩ :: .int .i64 0 :: .string ⟨#[]⟩ :: .slice Option.none 0 0 :: .string ⟨#[]⟩ :: .string ⟨#[]⟩ :: .int .i64 0 :: .string ⟨#[]⟩ :: .string ⟨#[]⟩ :: .string ⟨#[]⟩ :: .bool false :: .string ⟨#[]⟩ :: .slice Option.none 0 0 :: .int .i64 0 :: [] : List Value).toArray 46)).setCells w.heap.size 0 (.int .i64 5 :: .string ⟨#[]⟩ :: .int .i64 0 :: .slice Option.none 0 0 :: .int .i64 0 :: .int .i64 0 :: .int .i64 0 :: .slice Option.none 0 0 :: .slice Option.none 0 0 :: .slice Option.none 0 0 :: .slice Option.none 0 0 :: .slice Option.none 0 0 :: .slice Option.none 0 0 :: .slice Option.none 0 0 :: .slice Option.none 0 0 :: .string ⟨#[]⟩ :: .string ⟨#[]⟩ :: .string ⟨#[]⟩ :: .slice Option.none 0 0 :: .slice Option.none 0 0 :: .bool false :: .int .i64 0 :: .int .i64 0 :: .int .i64 0 :: .int .i64 0 :: .int .i64 0 :: .string ⟨#[]⟩ :: .int .i64 0 :: .string ⟨#[]⟩ :: .slice Option.none 0 0 :: .string ⟨#[]⟩ :: .string ⟨#[]⟩ :: .int .i64 0 :: .string ⟨#[]⟩ :: .string ⟨#[]⟩ :: .string s :: .bool false :: .string ⟨#[]⟩ :: .slice Option.none 0 0 :: .int .i64 0 :: [])) := hu4
 clear hu4
 go_enter func45, ntmps45
 go_wp2_with (first | (refine wpList_store_mid rfl 46 _ _ rfl w.heap.size 0 (.int .i64 5 :: .string ⟨#[]⟩ :: .int .i64 0 :: .slice Option.none 0 0 :: .int .i64 0 :: .int .i64 0 :: .int .i64 0 :: .slice Option.none 0 0 :: .slice Option.none 0 0 :: .slice Option.none 0 0 :: .slice Option.none 0 0 :: .slice Option.none 0 0 :: .slice Option.none 0 0 :: .slice Option.none 0 0 :: .slice Option.none 0 0 :: .string ⟨#[]⟩ :: .string ⟨#[]⟩ :: .string ⟨#[]⟩ :: .slice Option.none 0 0 :: .slice Option.none 0 0 :: .bool false :: .int .i64 0 :: .int .i64 0 :: .int .i64 0 :: .int .i64 0 :: .int .i64 0 :: .string ⟨#[]⟩ :: .int .i64 0 :: .string ⟨#[]⟩ :: .slice Option.none 0 0 :: .string ⟨#[]⟩ :: .string ⟨#[]⟩ :: .int .i64 0 :: .string ⟨#[]⟩ :: .string ⟨#[]⟩ :: .string s :: .bool false :: .string ⟨#[]⟩ :: .slice Option.none 0 0 :: .int .i64 0 :: [] : List Value).toArray rfl rfl HT.out infoObj (by simp [Value.oneCell']) ?_; refine wpl_at HU4.out ?_) | fail)
 refine bodyPost_ret (v := .agg (.int .i64 5 :: .string ⟨#[]⟩ :: .int .i64 0 :: .slice Option.none 0 0 :: .int .i64 0 :: .int .i64 0 :: .int .i64 0 :: .slice Option.none 0 0 :: .slice Option.none 0 0 :: .slice Option.none 0 0 :: .slice Option.none 0 0 :: .slice Option.none 0 0 :: .slice Option.none 0 0 :: .slice Option.none 0 0 :: .slice Option.none 0 0 :: .string ⟨#[]⟩ :: .string ⟨#[]⟩ :: .string ⟨#[]⟩ :: .slice Option.none 0 0 :: .slice Option.none 0 0 :: .bool false :: .int .i64 0 :: .int .i64 0 :: .int .i64 0 :: .int .i64 0 :: .int .i64 0 :: .string ⟨#[]⟩ :: .int .i64 0 :: .string ⟨#[]⟩ :: .slice Option.none 0 0 :: .string ⟨#[]⟩ :: .string ⟨#[]⟩ :: .int .i64 0 :: .string ⟨#[]⟩ :: .string ⟨#[]⟩ :: .string s :: .bool false :: .string ⟨#[]⟩ :: .slice Option.none 0 0 :: .int .i64 0 :: [] : List Value).toArray) (res_cell (p := 2) (ty := 46) rfl _ _ w.heap.size (.int .i64 5 :: .string ⟨#[]⟩ :: .int .i64 0 :: .slice Option.none 0 0 :: .int .i64 0 :: .int .i64 0 :: .int .i64 0 :: .slice Option.none 0 0 :: .slice Option.none 0 0 :: .slice Option.none 0 0 :: .slice Option.none 0 0 :: .slice Option.none 0 0 :: .slice Option.none 0 0 :: .slice Option.none 0 0 :: .slice Option.none 0 0 :: .string ⟨#[]⟩ :: .string ⟨#[]⟩ :: .string ⟨#[]⟩ :: .slice Option.none 0 0 :: .slice Option.none 0 0 :: .bool false :: .int .i64 0 :: .int .i64 0 :: .int .i64 0 :: .int .i64 0 :: .int .i64 0 :: .string ⟨#[]⟩ :: .int .i64 0 :: .string ⟨#[]⟩ :: .slice Option.none 0 0 :: .string ⟨#[]⟩ :: .string ⟨#[]⟩ :: .int .i64 0 :: .string ⟨#[]⟩ :: .string ⟨#[]⟩ :: .string s :: .bool false :: .string ⟨#[]⟩ :: .slice Option.none 0 0 :: .int .i64 0 :: []) _ rfl HRG.out underlying46 rfl infoObj) rfl ⟨rfl, HBE.out⟩
def StAt (w : World) (gs : List Value) (x : StateD) : Prop := RState (fun _ => True) w gs x
def ObAt (w : World) (cs : List Value) (o : ObjectD) : Prop := RObject (fun _ => True) w cs o
theorem StAt.on {w u : World} {gs : List Value} {x : StateD} (h : StAt w gs x) (hb : Below w.heap.size w u) : StAt u gs x := RState.firm.kept h (Kept.below hb)
theorem ObAt.on {w u : World} {gs : List Value} {x : ObjectD} (h : ObAt w gs x) (hb : Below w.heap.size w u) : ObAt u gs x := RObject.firm.kept h (Kept.below hb)
theorem StAt.len {w : World} {gs : List Value} {x : StateD} (h : StAt w gs x) : gs.length = 6 := RState.firm.len h
theorem StAt.one {w : World} {gs : List Value} {x : StateD} (h : StAt w gs x) : ∀ y ∈ gs, y.oneCell' = true := RState.firm.one h
def wst1 : StateD := ([], [], [], [], [(⟨#[98]⟩, false)], [])
def wst2 : StateD := ([], [], [], [], [(⟨#[97]⟩, false), (⟨#[98]⟩, false)], [])
theorem wchk1 : checkO (clsO 5 ⟨#[]⟩) = 40 := by kernel_rfl
theorem wchk2 : checkO (clsO 7 ⟨#[]⟩) = 2 := by kernel_rfl
theorem wfit1 : Fits wst1 := by simp [Fits, wst1]
theorem wfit2 : Fits wst2 := by simp [Fits, wst2]
end Go.Proofs.YtfbnnfpnjjjfcaaGreat

