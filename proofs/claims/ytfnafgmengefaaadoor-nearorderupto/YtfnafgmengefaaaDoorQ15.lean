/- A sheet on which a likeness is written: sheet.number, text, flag. Condition: the sheet is the call's own; what is written has room. What is written of each thing, so that no two things are written alike; what a writer does. Plain, and facts on worlds. No condition. -/
import Derived.Test.YtfnafgmengefaaaDoorQ10
import Derived.Test.YtfnafgmengefaaaDoorShelf
import Derived.Lib.AppendIntMem
import Derived.Lib.AppendStr
import Derived.Lib.ItoaLen
import Derived.Lib.OthersKept
import Derived.OneCell
import Derived.Lib.Hide
import Derived.OwnWalk
import Derived.Test.YtfnafgmengefaaaDoorQ04
namespace Go.Proofs.YtfnafgmengefaaaDoor
open Go.RowKit
set_option linter.unusedSimpArgs false
set_option maxRecDepth 100000

theorem infoByte : (Tryd.prog.info? 5).map (fun i => (i.zero, i.size, i.bytes)) = some (some (.int .u8 0), 1, 1) := by kernel_rfl
/-- A sheet in block sb; all that it is made of has come since block B; what is written on it. -/
def SheetAt (B : Nat) (w : World) (sb : Nat) (bs : List UInt8) : Prop := B ≤ sb ∧ ∃ v, w.heap[sb]? = some (.cells #[v] 86 (0, 0)) ∧ w.ownsRow B 5 1 v bs.length (Lib.byteCells bs)
/-- What is turned: the sheet, rows of bytes of the call's own, and what is new. -/
def Fr (B sb : Nat) (w w' : World) : Prop := Below B w w' ∧ Lib.OthersKept 5 (some sb) w w'
theorem Fr.refl (B sb : Nat) (w : World) : Fr B sb w w := ⟨Below.refl _ _, Lib.OthersKept.refl _ _ _⟩
theorem Fr.trans {B sb : Nat} {u v w : World} (h : Fr B sb u v) (k : Fr B sb v w) : Fr B sb u w := ⟨h.1.trans k.1, h.2.trans k.2⟩
theorem Fr.alloc {B sb : Nat} {u v : World} (h : Fr B sb u v) (hB : B ≤ v.heap.size) (o : Obj) : Fr B sb u (v.alloc o) := ⟨h.1.alloc hB o, h.2.alloc o⟩
abbrev TB (B : Nat) (w : World) : Prop := Lib.TabBelow Tryd.prog B w "internal/strconv.uint64pow10" .u64 Lib.pow10Tab
theorem SheetAt.lt {B : Nat} {w : World} {sb : Nat} {bs : List UInt8} (h : SheetAt B w sb bs) : sb < w.heap.size := by
  obtain ⟨_, v, h1, _⟩ := h
  exact (Array.getElem?_eq_some_iff.1 h1).1
theorem SheetAt.le {B : Nat} {w : World} {sb : Nat} {bs : List UInt8} (h : SheetAt B w sb bs) : B ≤ w.heap.size := Nat.le_trans h.1 (Nat.le_of_lt h.lt)
theorem SheetAt.alloc {B : Nat} {w : World} {sb : Nat} {bs : List UInt8} (h : SheetAt B w sb bs) (o : Obj) : SheetAt B (w.alloc o) sb bs := by
  have hl := h.lt
  obtain ⟨h0, v, h1, h2⟩ := h
  exact ⟨h0, v, (((Below.refl _ w).alloc (Nat.le_refl _) o).block sb hl).trans h1, h2.alloc o⟩
theorem SheetAt.drew {B : Nat} {w : World} {sb : Nat} {bs : List UInt8} (h : SheetAt B w sb bs) : SheetAt B w.drew sb bs := h
/-- A box that the call made beside the sheet stays. -/
theorem Fr.box {B sb : Nat} {w w' : World} (h : Fr B sb w w') {D : Nat} {cs : Array Value} {t : TypeId} {fz : Nat × Nat} (hD : w.heap[D]? = some (.cells cs t fz)) (hne : D ≠ sb) (ht : t ≠ 5) : w'.heap[D]? = some (.cells cs t fz) :=
  h.2 D _ hD (fun e => hne (by injection e)) (fun c f e => ht (by injection e))
theorem owns_kind {w : World} {B : Nat} {e : TypeId} {v : Value} {n : Nat} {xs : List Value} (h : w.ownsRow B e 1 v n xs) : ∀ g, v.ownBlock = some g → ∃ c fz, w.heap[g]? = some (.cells c e fz) := fun g hg => by
  obtain ⟨_, ⟨rfl, _⟩ | ⟨g', cap, cur, rfl, _, hh, _⟩⟩ := h
  · simp [Value.ownBlock] at hg
  · obtain rfl : g' = g := by simpa [Value.ownBlock] using hg
    exact ⟨_, _, hh⟩
theorem owns_slice {w : World} {B : Nat} {e : TypeId} {v : Value} {n : Nat} {xs : List Value} (h : w.ownsRow B e 1 v n xs) : ∃ a m c, v = .slice a m c := by
  obtain ⟨_, ⟨rfl, _⟩ | ⟨g', cap, cur, rfl, _⟩⟩ := h
  · exact ⟨_, _, _, rfl⟩
  · exact ⟨_, _, _, rfl⟩
def eN (n : Int) : List UInt8 := Lib.itoa n ++ [32]
def eS (s : ByteArray) : List UInt8 := eN s.size ++ s.data.toList
def eB (b : Bool) : List UInt8 := if b then [116, 114, 117, 101] else [102, 97, 108, 115, 101]
theorem byteCells_append (a b : List UInt8) : Lib.byteCells (a ++ b) = Lib.byteCells a ++ Lib.byteCells b := by simp [Lib.byteCells]
theorem strCells_is (s : ByteArray) : Lib.strCells s = Lib.byteCells s.data.toList := by first | rfl | simp [Lib.strCells, Lib.byteCells]
/-- The sheet is written over. -/
theorem sheet_set {B sb : Nat} {w w1 : World} {v0 v1 : Value} {bs : List UInt8} (hB : B ≤ sb) (hw : w1.heap[sb]? = some (.cells #[v0] 86 (0, 0))) (hown : w1.ownsRow B 5 1 v1 bs.length (Lib.byteCells bs)) (hf : Fr B sb w w1) : SheetAt B (w1.setCell ⟨sb, 0, none⟩ v1) sb bs ∧ Fr B sb w (w1.setCell ⟨sb, 0, none⟩ v1) := by
  refine ⟨⟨hB, v1, one_setCell hw, ?_⟩, hf.1.setCell hB v1, hf.2.setCell _ rfl v1⟩
  have h2 := hown
  obtain ⟨hl, h0 | ⟨g, cap, cur, hv, hb, hh, r⟩⟩ := hown
  · exact ⟨hl, .inl h0⟩
  · refine ⟨hl, .inr ⟨g, cap, cur, hv, hb, ?_, r⟩⟩
    rw [Below.heap_setCell w1 _ v1 g (fun e => ?_)]
    · exact hh
    · simp only at e
      rw [e, hw] at hh
      cases hh
theorem sheet_ne : (86 : TypeId) ≠ 5 := by decide
set_option maxHeartbeats 4000000 in
theorem number_calls {B : Nat} {w : World} {sb : Nat} {bs : List UInt8} (hS : Hid (SheetAt B w sb bs)) (hT : Hid (TB B w)) (n : Int) (h0 : -9223372036854775808 ≤ n) (h1 : n ≤ 9223372036854775807) (hl : bs.length ≤ 70368744177664) :
    Calls Tryd.prog 50 #[.pointer (some ⟨sb, 0, none⟩), .int .i64 n] w fun e w' => e = .returned (.tuple #[]) ∧ SheetAt B w' sb (bs ++ eN n) ∧ Fr B sb w w' := by
  obtain ⟨hB, v, hb, hown⟩ := hS.out
  obtain ⟨i0, hi, hz0, hz1, hz2⟩ := info_parts infoByte
  have c0 : w.cell? ⟨sb, 0, none⟩ = some v := by simp [World.cell?, hb]
  have hBw := hS.out.le
  have la := Lib.itoa_length_le n h0 h1
  have HA := Tryd.strconv_AppendInt_10 B bs.length n h0 h1 v (Lib.byteCells bs) w hown hBw (by omega) hT.out
  have HB : Hid (w.heap[sb]? = some (.cells #[v] 86 (0, 0))) := hb
  clear hS hown hT hb
  go_enter Tryd.func50, Tryd.ntmps50
  go_wp2_with fail
  refine HA.mono ?_
  clear HA
  rintro e w1 ⟨v1, rfl, hown1, hb1, hk1⟩
  have hb1' := hk1 sb _ HB.out (by simp) (fun c fz e => sheet_ne (by injection e))
  have hs1 := hb1.size
  have hk1' : Lib.OthersKept 5 (some sb) w w1 := fun k o hk _ ho => hk1 k o hk (by simp) ho
  have HO1 : Hid (w1.ownsRow B 5 1 v1 (bs.length + (Lib.itoa n).length) (Lib.byteCells bs ++ Lib.byteCells (Lib.itoa n))) := hown1
  have HF1 : Hid (Fr B sb w (w1.alloc (.cells #[.int .u8 32] 5)) ∧ (w1.alloc (.cells #[.int .u8 32] 5)).heap[sb]? = some (.cells #[v] 86 (0, 0))) := ⟨⟨hb1.alloc (by omega) _, hk1'.alloc _⟩, (((Below.refl _ w1).alloc (Nat.le_refl _) _).block sb (Array.getElem?_eq_some_iff.1 hb1').1).trans hb1'⟩
  clear hown1 hb1 hk1 hk1' hb1' HB c0
  go_wp2_with (at_builtin; refine wpList_append_own _ rfl _ _ 84 rfl B 5 i0 (.int .u8 0) 1 1 Tryd.underlying84 hi hz0 hz1 hz2 rfl (by decide) _ _ _ rfl (HO1.out.alloc _) ⟨w1.heap.size, 0, none⟩ 1 1 [Value.int .u8 32] rfl rfl (by intro j u' hj; match j, hj with | 0, hj => simp at hj; subst hj; simp [Addr.add]) (by intro u' hu'; simp at hu'; subst hu'; rfl) (by unfold maxLen; omega) (by omega) (by simp; omega) ?_; intro v2 w2 hown2 hgrow2 _; obtain ⟨ax, mx, cx, rfl⟩ := owns_slice hown2; refine Hid.out ?_)
  refine Lib.hid ?_
  have hf2 : Fr B sb w w2 := ⟨HF1.out.1.1.grown hgrow2 (by simp; omega) (fun k hk => (HO1.out.lt k hk).1), HF1.out.1.2.grown hgrow2 (fun g hg => owns_kind (HO1.out.alloc _) g hg)⟩
  have hb2 : w2.heap[sb]? = some (.cells #[v] 86 (0, 0)) := by
    rw [hgrow2.block sb (Array.getElem?_eq_some_iff.1 HF1.out.2).1 (fun e => ?_)]
    · exact HF1.out.2
    · obtain ⟨c, fz, hc⟩ := owns_kind (HO1.out.alloc _) sb e.symm
      rw [HF1.out.2] at hc
      injection hc with hc
      injection hc with _ h3 _
      exact sheet_ne h3
  have eL : Lib.byteCells bs ++ Lib.byteCells (Lib.itoa n) ++ [Value.int .u8 32] = Lib.byteCells (bs ++ eN n) := by simp [Lib.byteCells, eN]
  have eM : bs.length + (Lib.itoa n).length + 1 = (bs ++ eN n).length := by simp [eN]; omega
  rw [eL, eM] at hown2
  have HE : Hid _ := sheet_set hB hb2 hown2 hf2
  have c2 : w2.cell? ⟨sb, 0, none⟩ = some v := by simp [World.cell?, hb2]
  have f2 : w2.frozen? ⟨sb, 0, none⟩ = false := by simp [World.frozen?, hb2]
  clear hown2 hgrow2 hf2 hb2 eL eM HF1 HO1 la
  go_wp2_with fail
  go_end0
  exact ⟨rfl, HE.out⟩
set_option maxHeartbeats 4000000 in
theorem text_calls {B : Nat} {w : World} {sb : Nat} {bs : List UInt8} (hS : Hid (SheetAt B w sb bs)) (hT : Hid (TB B w)) (s : ByteArray) (hl : bs.length + s.size ≤ 70368744177000) :
    Calls Tryd.prog 49 #[.pointer (some ⟨sb, 0, none⟩), .string s] w fun e w' => e = .returned (.tuple #[]) ∧ SheetAt B w' sb (bs ++ eS s) ∧ Fr B sb w w' := by
  have HN := number_calls hS hT (s.size : Int) (by omega) (by omega) (by omega)
  have la := Lib.itoa_length_le (s.size : Int) (by omega) (by omega)
  obtain ⟨i0, hi, hz0, hz1, hz2⟩ := info_parts infoByte
  clear hS hT
  go_enter Tryd.func49, Tryd.ntmps49
  go_wp2_with fail
  refine HN.mono ?_
  clear HN
  rintro e w1 ⟨rfl, hS1, hf1⟩
  have hBw := hS1.le
  obtain ⟨hB, v, hb, hown⟩ := hS1
  have c0 : w1.cell? ⟨sb, 0, none⟩ = some v := by simp [World.cell?, hb]
  have HB : Hid (w1.heap[sb]? = some (.cells #[v] 86 (0, 0))) := hb
  have HO1 : Hid (w1.ownsRow B 5 1 v (bs ++ eN s.size).length (Lib.byteCells (bs ++ eN s.size))) := hown
  have hln : (bs ++ eN s.size).length + s.size ≤ 140737488355328 := by simp [eN]; omega
  have HF1 : Hid (Fr B sb w w1) := hf1
  clear hown hb hf1
  go_wp2_with (at_builtin; refine Lib.wpList_append_own_string _ rfl _ _ 84 9 rfl B 5 i0 Tryd.underlying84 Tryd.underlying9 hi hz0 hz1 hz2 _ _ _ rfl HO1.out s rfl (by unfold maxLen; omega) hln hBw ?_; intro v2 w2 hown2 hgrow2 _; obtain ⟨ax, mx, cx, rfl⟩ := owns_slice hown2; refine Hid.out ?_)
  refine Lib.hid ?_
  have hf2 : Fr B sb w w2 := ⟨HF1.out.1.grown hgrow2 hBw (fun k hk => (HO1.out.lt k hk).1), HF1.out.2.grown hgrow2 (fun g hg => owns_kind HO1.out g hg)⟩
  have hb2 : w2.heap[sb]? = some (.cells #[v] 86 (0, 0)) := by
    rw [hgrow2.block sb (Array.getElem?_eq_some_iff.1 HB.out).1 (fun e => ?_)]
    · exact HB.out
    · obtain ⟨c, fz, hc⟩ := owns_kind HO1.out sb e.symm
      rw [HB.out] at hc
      injection hc with hc
      injection hc with _ h3 _
      exact sheet_ne h3
  have eL : Lib.byteCells (bs ++ eN s.size) ++ Lib.strCells s = Lib.byteCells (bs ++ eS s) := by rw [strCells_is, ← byteCells_append]; simp [eS]
  have eM : (bs ++ eN s.size).length + s.size = (bs ++ eS s).length := by simp [eS]; omega
  rw [eL, eM] at hown2
  have HE : Hid _ := sheet_set hB hb2 hown2 hf2
  have c2 : w2.cell? ⟨sb, 0, none⟩ = some v := by simp [World.cell?, hb2]
  have f2 : w2.frozen? ⟨sb, 0, none⟩ = false := by simp [World.frozen?, hb2]
  clear hown2 hgrow2 hf2 hb2 eL eM HF1 HO1 HB la c0
  go_wp2_with fail
  go_end0
  exact ⟨rfl, HE.out⟩
end Go.Proofs.YtfnafgmengefaaaDoor
namespace Go.Proofs.YtfnafgmengefaaaDoor
open Go.RowKit
set_option linter.unusedSimpArgs false
set_option maxRecDepth 100000

def eL {α : Type} (f : α → List UInt8) (l : List α) : List UInt8 := eN l.length ++ l.flatMap f
def oN (n : Int) : Prop := -9223372036854775808 ≤ n ∧ n ≤ 9223372036854775807
def eLab (x : Lab) : List UInt8 := eS x.1 ++ eS x.2
def eReq (x : Ask) : List UInt8 := eS x.1 ++ (eN x.2.1 ++ eL eS x.2.2)
def eBear (x : Bear) : List UInt8 := eS x.1 ++ (eS x.2.1 ++ (eB x.2.2.1 ++ eN x.2.2.2))
def ePrefer (x : PreferD) : List UInt8 := eL eReq x.1 ++ eN x.2
def eTerm (x : TermD) : List UInt8 := eL eReq x.1 ++ eS x.2
def eSpread (x : SpreadD) : List UInt8 := eS x.1 ++ (eN x.2.1 ++ (eN x.2.2.1 ++ eL eReq x.2.2.2))
def ePod (p : PodD) : List UInt8 := eS p.1 ++ (eN p.2.1 ++ (eL eLab p.2.2.1 ++ (eN p.2.2.2.1.1 ++ (eN p.2.2.2.1.2.1 ++ (eN p.2.2.2.1.2.2 ++ (eL eBear p.2.2.2.2.1 ++ (eL eReq p.2.2.2.2.2.1 ++ (eL ePrefer p.2.2.2.2.2.2.1 ++ (eL eN p.2.2.2.2.2.2.2.1 ++ (eL eTerm p.2.2.2.2.2.2.2.2.1 ++ (eL eTerm p.2.2.2.2.2.2.2.2.2.1 ++ (eL eSpread p.2.2.2.2.2.2.2.2.2.2.1 ++ (eL eS p.2.2.2.2.2.2.2.2.2.2.2.1 ++ (eS p.2.2.2.2.2.2.2.2.2.2.2.2.1 ++ eS p.2.2.2.2.2.2.2.2.2.2.2.2.2))))))))))))))
def ePlaced (x : PlacedD) : List UInt8 := ePod x.1 ++ eL eLab x.2
def okReq (x : Ask) : Prop := oN x.2.1
def okBear (x : Bear) : Prop := oN x.2.2.2
def okPrefer (x : PreferD) : Prop := (∀ r ∈ x.1, okReq r) ∧ oN x.2
def okTerm (x : TermD) : Prop := ∀ r ∈ x.1, okReq r
def okSpread (x : SpreadD) : Prop := oN x.2.1 ∧ oN x.2.2.1 ∧ ∀ r ∈ x.2.2.2, okReq r
def okPod (p : PodD) : Prop := oN p.2.1 ∧ oN p.2.2.2.1.1 ∧ oN p.2.2.2.1.2.1 ∧ oN p.2.2.2.1.2.2 ∧ (∀ x ∈ p.2.2.2.2.1, okBear x) ∧ (∀ x ∈ p.2.2.2.2.2.1, okReq x) ∧ (∀ x ∈ p.2.2.2.2.2.2.1, okPrefer x) ∧ (∀ x ∈ p.2.2.2.2.2.2.2.1, oN x) ∧ (∀ x ∈ p.2.2.2.2.2.2.2.2.1, okTerm x) ∧ (∀ x ∈ p.2.2.2.2.2.2.2.2.2.1, okTerm x) ∧ ∀ x ∈ p.2.2.2.2.2.2.2.2.2.2.1, okSpread x
def valA (cs : List Value) : Value := .agg cs.toArray
def val1 (cs : List Value) : Value := cs.headD undef
/-- f writes one thing on a sheet. -/
def Writes (f : Nat) {α : Type} (R : Rep α) (val : List Value → Value) (enc : α → List UInt8) (ok : α → Prop) : Prop :=
  ∀ (B sb : Nat) (w : World) (bs : List UInt8) (A : Where) (cs : List Value) (x : α), SheetAt B w sb bs → TB B w → R A w cs x → (∀ b, A b → b < B) → ok x → bs.length + (enc x).length ≤ 70368744170000 →
    Calls Tryd.prog f #[.pointer (some ⟨sb, 0, none⟩), val cs] w fun e w' => e = .returned (.tuple #[]) ∧ SheetAt B w' sb (bs ++ enc x) ∧ Fr B sb w w'
/-- f writes a list on a sheet, each by g. -/
def WritesL (f g : Nat) {α : Type} [Inhabited α] (R : Rep α) (k bytes : Nat) (enc : α → List UInt8) (ok : α → Prop) : Prop :=
  ∀ (B sb : Nat) (w : World) (bs : List UInt8) (A : Where) (a : Option Addr) (n cap : Nat) (L : List α), SheetAt B w sb bs → TB B w → SlAt R k bytes A w a n cap L → (∀ b, A b → b < B) → (∀ x ∈ L, ok x) → bs.length + (eL enc L).length ≤ 70368744170000 →
    Calls Tryd.prog f #[.pointer (some ⟨sb, 0, none⟩), .slice a n cap, .func (.func g) #[.pointer (some ⟨sb, 0, none⟩)] #[]] w fun e w' => e = .returned (.tuple #[]) ∧ SheetAt B w' sb (bs ++ eL enc L) ∧ Fr B sb w w'
/-- f writes a list on a sheet. -/
def WritesS (f : Nat) {α : Type} [Inhabited α] (R : Rep α) (k bytes : Nat) (enc : α → List UInt8) (ok : α → Prop) : Prop :=
  ∀ (B sb : Nat) (w : World) (bs : List UInt8) (A : Where) (a : Option Addr) (n cap : Nat) (L : List α), SheetAt B w sb bs → TB B w → SlAt R k bytes A w a n cap L → (∀ b, A b → b < B) → (∀ x ∈ L, ok x) → bs.length + (eL enc L).length ≤ 70368744170000 →
    Calls Tryd.prog f #[.pointer (some ⟨sb, 0, none⟩), .slice a n cap] w fun e w' => e = .returned (.tuple #[]) ∧ SheetAt B w' sb (bs ++ eL enc L) ∧ Fr B sb w w'
theorem Fr.kept {B sb : Nat} {w w' : World} (h : Fr B sb w w') {A : Where} (hA : ∀ b, A b → b < B) : Kept A w w' := ⟨h.1.size, fun b ha _ => h.1.block b (hA b ha)⟩
theorem TB.on {B sb : Nat} {w w' : World} (h : TB B w) (k : Fr B sb w w') : TB B w' := Lib.TabBelow.on h k.1
theorem TB.alloc {B : Nat} {w : World} (h : TB B w) (hB : B ≤ w.heap.size) (o : Obj) : TB B (w.alloc o) := Lib.TabBelow.on h ((Below.refl _ w).alloc hB o)
theorem number_writes : Writes 50 RInt val1 eN oN := by
  rintro B sb w bs A cs x hS hT rfl hA ok hl
  exact number_calls hS hT x ok.1 ok.2 (by omega)
theorem text_writes : Writes 49 RStr val1 eS (fun _ => True) := by
  rintro B sb w bs A cs x hS hT ⟨rfl, _⟩ hA _ hl
  exact text_calls hS hT x (by simp only [eS, List.length_append, Array.length_toList] at hl; have : x.data.size = x.size := rfl; omega)
theorem appBool_calls (b : Bool) {B : Nat} {w : World} {v : Value} {n : Nat} {xs : List Value} (hown : Hid (w.ownsRow B 5 1 v n xs)) (hBw : B ≤ w.heap.size) (hl : n + 5 ≤ 140737488355328) :
    Calls Tryd.prog 86 #[v, .bool b] w fun e w' => ∃ v', e = .returned v' ∧ w'.ownsRow B 5 1 v' (n + (eB b).length) (xs ++ Lib.byteCells (eB b)) ∧ w.grownBy w' v.ownBlock := by
  obtain ⟨i0, hi, hz0, hz1, hz2⟩ := info_parts infoByte
  cases b
  · go_enter Tryd.func86, Tryd.ntmps86
    go_wp2_with (at_builtin; refine Lib.wpList_append_own_string _ rfl _ _ 84 9 rfl B 5 i0 Tryd.underlying84 Tryd.underlying9 hi hz0 hz1 hz2 _ _ _ rfl hown.out ⟨#[102, 97, 108, 115, 101]⟩ rfl (by unfold maxLen; show n + 5 ≤ _; omega) (by show n + 5 ≤ _; omega) hBw ?_; intro v2 w2 hown2 hgrow2 _)
    go_ret
    exact ⟨v2, rfl, by rw [strCells_is] at hown2; exact hown2, hgrow2⟩
  · go_enter Tryd.func86, Tryd.ntmps86
    go_wp2_with (at_builtin; refine Lib.wpList_append_own_string _ rfl _ _ 84 9 rfl B 5 i0 Tryd.underlying84 Tryd.underlying9 hi hz0 hz1 hz2 _ _ _ rfl hown.out ⟨#[116, 114, 117, 101]⟩ rfl (by unfold maxLen; show n + 4 ≤ _; omega) (by show n + 4 ≤ _; omega) hBw ?_; intro v2 w2 hown2 hgrow2 _)
    go_ret
    exact ⟨v2, rfl, by rw [strCells_is] at hown2; exact hown2, hgrow2⟩
theorem AppendBool_calls (b : Bool) {B : Nat} {w : World} {v : Value} {n : Nat} {xs : List Value} (hown : Hid (w.ownsRow B 5 1 v n xs)) (hBw : B ≤ w.heap.size) (hl : n + 5 ≤ 140737488355328) :
    Calls Tryd.prog 81 #[v, .bool b] w fun e w' => ∃ v', e = .returned v' ∧ w'.ownsRow B 5 1 v' (n + (eB b).length) (xs ++ Lib.byteCells (eB b)) ∧ w.grownBy w' v.ownBlock := by
  have H := appBool_calls b hown hBw hl
  clear hown
  go_enter Tryd.func81, Tryd.ntmps81
  go_wp2_with fail
  refine H.mono ?_
  rintro e w2 ⟨v2, rfl, hown2, hgrow2⟩
  have HO : Hid _ := hown2
  have HG : Hid _ := hgrow2
  clear hown2 hgrow2 H
  go_wp2_with fail
  go_ret
  exact ⟨v2, rfl, HO.out, HG.out⟩
set_option maxHeartbeats 4000000 in
theorem flag_writes : Writes 68 RBool val1 eB (fun _ => True) := by
  rintro B sb w bs A cs x hS hT rfl hA _ hl
  show Calls Tryd.prog 68 #[.pointer (some ⟨sb, 0, none⟩), .bool x] w _
  have hBw := hS.le
  obtain ⟨hB, v, hb, hown⟩ := hS
  have c0 : w.cell? ⟨sb, 0, none⟩ = some v := by simp [World.cell?, hb]
  have HA := AppendBool_calls x (Lib.hid hown) hBw (by omega)
  have HB : Hid (w.heap[sb]? = some (.cells #[v] 86 (0, 0))) := hb
  have HO : Hid (w.ownsRow B 5 1 v bs.length (Lib.byteCells bs)) := hown
  clear hT hown hb
  go_enter Tryd.func68, Tryd.ntmps68
  go_wp2_with fail
  refine HA.mono ?_
  clear HA
  rintro e w2 ⟨v2, rfl, hown2, hgrow2⟩
  obtain ⟨ax, mx, cx, rfl⟩ := owns_slice hown2
  have hf2 : Fr B sb w w2 := ⟨(Below.refl _ w).grown hgrow2 hBw (fun k hk => (HO.out.lt k hk).1), (Lib.OthersKept.refl _ _ w).grown hgrow2 (fun g hg => owns_kind HO.out g hg)⟩
  have hb2 : w2.heap[sb]? = some (.cells #[v] 86 (0, 0)) := by
    rw [hgrow2.block sb (Array.getElem?_eq_some_iff.1 HB.out).1 (fun e => ?_)]
    · exact HB.out
    · obtain ⟨c, fz, hc⟩ := owns_kind HO.out sb e.symm
      rw [HB.out] at hc
      injection hc with hc
      injection hc with _ h3 _
      exact sheet_ne h3
  rw [← byteCells_append, show bs.length + (eB x).length = (bs ++ eB x).length by simp] at hown2
  have HE : Hid _ := sheet_set hB hb2 hown2 hf2
  have c2 : w2.cell? ⟨sb, 0, none⟩ = some v := by simp [World.cell?, hb2]
  have f2 : w2.frozen? ⟨sb, 0, none⟩ = false := by simp [World.frozen?, hb2]
  clear hown2 hgrow2 hf2 hb2 HO HB c0
  go_wp2_with fail
  go_end0
  exact ⟨rfl, HE.out⟩
theorem eL_take {α : Type} [Inhabited α] (f : α → List UInt8) {L : List α} {k : Nat} (h : k < L.length) : (L.take (k + 1)).flatMap f = (L.take k).flatMap f ++ f (L.getD k default) := by
  rw [List.take_add_one, List.getElem?_eq_getElem h, List.flatMap_append, List.getD_eq_getElem?_getD, List.getElem?_eq_getElem h]
  simp
theorem eL_le {α : Type} (f : α → List UInt8) (L : List α) (k : Nat) : ((L.take k).flatMap f).length ≤ (L.flatMap f).length := by
  have : L.flatMap f = (L.take k).flatMap f ++ (L.drop k).flatMap f := by rw [← List.flatMap_append, List.take_append_drop]
  rw [this]; simp
end Go.Proofs.YtfnafgmengefaaaDoor
