/- What is written of each thing, so that no two things are written alike; what a writer does. Plain, and facts on worlds. No condition. -/
import Derived.Test.YtfnafgmengefaaaGreatDoorQ18
import Derived.Test.YtfnafgmengefaaaGreatDoorQ04
namespace Go.Proofs.YtfnafgmengefaaaGreatDoor
open Go.RowKit
set_option linter.unusedSimpArgs false
set_option maxRecDepth 100000

def eL {α : Type} (f : α → List UInt8) (l : List α) : List UInt8 := eN l.length ++ l.flatMap f
def oN (n : Int) : Prop := -9223372036854775808 ≤ n ∧ n ≤ 9223372036854775807
def eLab (x : Lab) : List UInt8 := eS x.1 ++ eS x.2
def eReq (x : Ask) : List UInt8 := eS x.1 ++ (eN x.2.1 ++ eL eS x.2.2)
def eBear (x : Bear) : List UInt8 := eS x.1 ++ (eS x.2.1 ++ (eB x.2.2.1 ++ eN x.2.2.2))
def ePrefer (x : PreferD) : List UInt8 := eL eReq x.1 ++ eN x.2
def eTerm (x : TermD) : List UInt8 := eL eReq x.1 ++ eS x.2
def eSpread (x : SpreadD) : List UInt8 := eS x.1 ++ (eN x.2.1 ++ (eN x.2.2.1 ++ eL eReq x.2.2.2))
def ePod (p : PodD) : List UInt8 := eS p.1 ++ (eN p.2.1 ++ (eL eLab p.2.2.1 ++ (eN p.2.2.2.1.1 ++ (eN p.2.2.2.1.2.1 ++ (eN p.2.2.2.1.2.2 ++ (eL eBear p.2.2.2.2.1 ++ (eL eReq p.2.2.2.2.2.1 ++ (eL ePrefer p.2.2.2.2.2.2.1 ++ (eL eN p.2.2.2.2.2.2.2.1 ++ (eL eTerm p.2.2.2.2.2.2.2.2.1 ++ (eL eTerm p.2.2.2.2.2.2.2.2.2.1 ++ (eL eSpread p.2.2.2.2.2.2.2.2.2.2.1 ++ (eL eS p.2.2.2.2.2.2.2.2.2.2.2.1 ++ (eS p.2.2.2.2.2.2.2.2.2.2.2.2.1 ++ eS p.2.2.2.2.2.2.2.2.2.2.2.2.2))))))))))))))
def ePlaced (x : PlacedD) : List UInt8 := ePod x.1 ++ eL eLab x.2
def okReq (x : Ask) : Prop := oN x.2.1
def okBear (x : Bear) : Prop := oN x.2.2.2
def okPrefer (x : PreferD) : Prop := (∀ r ∈ x.1, okReq r) ∧ oN x.2
def okTerm (x : TermD) : Prop := ∀ r ∈ x.1, okReq r
def okSpread (x : SpreadD) : Prop := oN x.2.1 ∧ oN x.2.2.1 ∧ ∀ r ∈ x.2.2.2, okReq r
def okPod (p : PodD) : Prop := oN p.2.1 ∧ oN p.2.2.2.1.1 ∧ oN p.2.2.2.1.2.1 ∧ oN p.2.2.2.1.2.2 ∧ (∀ x ∈ p.2.2.2.2.1, okBear x) ∧ (∀ x ∈ p.2.2.2.2.2.1, okReq x) ∧ (∀ x ∈ p.2.2.2.2.2.2.1, okPrefer x) ∧ (∀ x ∈ p.2.2.2.2.2.2.2.1, oN x) ∧ (∀ x ∈ p.2.2.2.2.2.2.2.2.1, okTerm x) ∧ (∀ x ∈ p.2.2.2.2.2.2.2.2.2.1, okTerm x) ∧ ∀ x ∈ p.2.2.2.2.2.2.2.2.2.2.1, okSpread x
def valA (cs : List Value) : Value := .agg cs.toArray
def val1 (cs : List Value) : Value := cs.headD undef
/-- f writes one thing on a sheet. -/
def Writes (f : Nat) {α : Type} (R : Rep α) (val : List Value → Value) (enc : α → List UInt8) (ok : α → Prop) : Prop :=
  ∀ (B sb : Nat) (w : World) (bs : List UInt8) (A : Where) (cs : List Value) (x : α), SheetAt B w sb bs → TB B w → R A w cs x → (∀ b, A b → b < B) → ok x → bs.length + (enc x).length ≤ 70368744170000 →
    Calls Tryz.prog f #[.pointer (some ⟨sb, 0, none⟩), val cs] w fun e w' => e = .returned (.tuple #[]) ∧ SheetAt B w' sb (bs ++ enc x) ∧ Fr B sb w w'
/-- f writes a list on a sheet, each by g. -/
def WritesL (f g : Nat) {α : Type} [Inhabited α] (R : Rep α) (k bytes : Nat) (enc : α → List UInt8) (ok : α → Prop) : Prop :=
  ∀ (B sb : Nat) (w : World) (bs : List UInt8) (A : Where) (a : Option Addr) (n cap : Nat) (L : List α), SheetAt B w sb bs → TB B w → SlAt R k bytes A w a n cap L → (∀ b, A b → b < B) → (∀ x ∈ L, ok x) → bs.length + (eL enc L).length ≤ 70368744170000 →
    Calls Tryz.prog f #[.pointer (some ⟨sb, 0, none⟩), .slice a n cap, .func (.func g) #[.pointer (some ⟨sb, 0, none⟩)] #[]] w fun e w' => e = .returned (.tuple #[]) ∧ SheetAt B w' sb (bs ++ eL enc L) ∧ Fr B sb w w'
/-- f writes a list on a sheet. -/
def WritesS (f : Nat) {α : Type} [Inhabited α] (R : Rep α) (k bytes : Nat) (enc : α → List UInt8) (ok : α → Prop) : Prop :=
  ∀ (B sb : Nat) (w : World) (bs : List UInt8) (A : Where) (a : Option Addr) (n cap : Nat) (L : List α), SheetAt B w sb bs → TB B w → SlAt R k bytes A w a n cap L → (∀ b, A b → b < B) → (∀ x ∈ L, ok x) → bs.length + (eL enc L).length ≤ 70368744170000 →
    Calls Tryz.prog f #[.pointer (some ⟨sb, 0, none⟩), .slice a n cap] w fun e w' => e = .returned (.tuple #[]) ∧ SheetAt B w' sb (bs ++ eL enc L) ∧ Fr B sb w w'
theorem Fr.kept {B sb : Nat} {w w' : World} (h : Fr B sb w w') {A : Where} (hA : ∀ b, A b → b < B) : Kept A w w' := ⟨h.1.size, fun b ha _ => h.1.block b (hA b ha)⟩
theorem TB.on {B sb : Nat} {w w' : World} (h : TB B w) (k : Fr B sb w w') : TB B w' := Lib.TabBelow.on h k.1
theorem TB.alloc {B : Nat} {w : World} (h : TB B w) (hB : B ≤ w.heap.size) (o : Obj) : TB B (w.alloc o) := Lib.TabBelow.on h ((Below.refl _ w).alloc hB o)
theorem number_writes : Writes 66 RInt val1 eN oN := by
  rintro B sb w bs A cs x hS hT rfl hA ok hl
  exact number_calls hS hT x ok.1 ok.2 (by omega)
theorem text_writes : Writes 65 RStr val1 eS (fun _ => True) := by
  rintro B sb w bs A cs x hS hT ⟨rfl, _⟩ hA _ hl
  exact text_calls hS hT x (by simp only [eS, List.length_append, Array.length_toList] at hl; have : x.data.size = x.size := rfl; omega)
theorem appBool_calls (b : Bool) {B : Nat} {w : World} {v : Value} {n : Nat} {xs : List Value} (hown : Hid (w.ownsRow B 5 1 v n xs)) (hBw : B ≤ w.heap.size) (hl : n + 5 ≤ 140737488355328) :
    Calls Tryz.prog 101 #[v, .bool b] w fun e w' => ∃ v', e = .returned v' ∧ w'.ownsRow B 5 1 v' (n + (eB b).length) (xs ++ Lib.byteCells (eB b)) ∧ w.grownBy w' v.ownBlock := by
  obtain ⟨i0, hi, hz0, hz1, hz2⟩ := info_parts infoByte
  cases b
  · go_enter Tryz.func101, Tryz.ntmps101
    go_wp2_with (at_builtin; refine Lib.wpList_append_own_string _ rfl _ _ 112 9 rfl B 5 i0 Tryz.underlying112 Tryz.underlying9 hi hz0 hz1 hz2 _ _ _ rfl hown.out ⟨#[102, 97, 108, 115, 101]⟩ rfl (by unfold maxLen; show n + 5 ≤ _; omega) (by show n + 5 ≤ _; omega) hBw ?_; intro v2 w2 hown2 hgrow2 _)
    go_ret
    exact ⟨v2, rfl, by rw [strCells_is] at hown2; exact hown2, hgrow2⟩
  · go_enter Tryz.func101, Tryz.ntmps101
    go_wp2_with (at_builtin; refine Lib.wpList_append_own_string _ rfl _ _ 112 9 rfl B 5 i0 Tryz.underlying112 Tryz.underlying9 hi hz0 hz1 hz2 _ _ _ rfl hown.out ⟨#[116, 114, 117, 101]⟩ rfl (by unfold maxLen; show n + 4 ≤ _; omega) (by show n + 4 ≤ _; omega) hBw ?_; intro v2 w2 hown2 hgrow2 _)
    go_ret
    exact ⟨v2, rfl, by rw [strCells_is] at hown2; exact hown2, hgrow2⟩
theorem AppendBool_calls (b : Bool) {B : Nat} {w : World} {v : Value} {n : Nat} {xs : List Value} (hown : Hid (w.ownsRow B 5 1 v n xs)) (hBw : B ≤ w.heap.size) (hl : n + 5 ≤ 140737488355328) :
    Calls Tryz.prog 96 #[v, .bool b] w fun e w' => ∃ v', e = .returned v' ∧ w'.ownsRow B 5 1 v' (n + (eB b).length) (xs ++ Lib.byteCells (eB b)) ∧ w.grownBy w' v.ownBlock := by
  have H := appBool_calls b hown hBw hl
  clear hown
  go_enter Tryz.func96, Tryz.ntmps96
  go_wp2_with fail
  refine H.mono ?_
  rintro e w2 ⟨v2, rfl, hown2, hgrow2⟩
  have HO : Hid _ := hown2
  have HG : Hid _ := hgrow2
  clear hown2 hgrow2 H
  go_wp2_with fail
  go_ret
  exact ⟨v2, rfl, HO.out, HG.out⟩
set_option maxHeartbeats 4000000 in
theorem flag_writes : Writes 85 RBool val1 eB (fun _ => True) := by
  rintro B sb w bs A cs x hS hT rfl hA _ hl
  show Calls Tryz.prog 85 #[.pointer (some ⟨sb, 0, none⟩), .bool x] w _
  have hBw := hS.le
  obtain ⟨hB, v, hb, hown⟩ := hS
  have c0 : w.cell? ⟨sb, 0, none⟩ = some v := by simp [World.cell?, hb]
  have HA := AppendBool_calls x (Lib.hid hown) hBw (by omega)
  have HB : Hid (w.heap[sb]? = some (.cells #[v] 114 (0, 0))) := hb
  have HO : Hid (w.ownsRow B 5 1 v bs.length (Lib.byteCells bs)) := hown
  clear hT hown hb
  go_enter Tryz.func85, Tryz.ntmps85
  go_wp2_with fail
  refine HA.mono ?_
  clear HA
  rintro e w2 ⟨v2, rfl, hown2, hgrow2⟩
  obtain ⟨ax, mx, cx, rfl⟩ := owns_slice hown2
  have hf2 : Fr B sb w w2 := ⟨(Below.refl _ w).grown hgrow2 hBw (fun k hk => (HO.out.lt k hk).1), (Lib.OthersKept.refl _ _ w).grown hgrow2 (fun g hg => owns_kind HO.out g hg)⟩
  have hb2 : w2.heap[sb]? = some (.cells #[v] 114 (0, 0)) := by
    rw [hgrow2.block sb (Array.getElem?_eq_some_iff.1 HB.out).1 (fun e => ?_)]
    · exact HB.out
    · obtain ⟨c, fz, hc⟩ := owns_kind HO.out sb e.symm
      rw [HB.out] at hc
      injection hc with hc
      injection hc with _ h3 _
      exact sheet_ne h3
  rw [← byteCells_append, show bs.length + (eB x).length = (bs ++ eB x).length by simp] at hown2
  have HE : Hid _ := sheet_set hB hb2 hown2 hf2
  have c2 : w2.cell? ⟨sb, 0, none⟩ = some v := by simp [World.cell?, hb2]
  have f2 : w2.frozen? ⟨sb, 0, none⟩ = false := by simp [World.frozen?, hb2]
  clear hown2 hgrow2 hf2 hb2 HO HB c0
  go_wp2_with fail
  go_end0
  exact ⟨rfl, HE.out⟩
theorem eL_take {α : Type} [Inhabited α] (f : α → List UInt8) {L : List α} {k : Nat} (h : k < L.length) : (L.take (k + 1)).flatMap f = (L.take k).flatMap f ++ f (L.getD k default) := by
  rw [List.take_add_one, List.getElem?_eq_getElem h, List.flatMap_append, List.getD_eq_getElem?_getD, List.getElem?_eq_getElem h]
  simp
theorem eL_le {α : Type} (f : α → List UInt8) (L : List α) (k : Nat) : ((L.take k).flatMap f).length ≤ (L.flatMap f).length := by
  have : L.flatMap f = (L.take k).flatMap f ++ (L.drop k).flatMap f := by rw [← List.flatMap_append, List.take_append_drop]
  rw [this]; simp
end Go.Proofs.YtfnafgmengefaaaGreatDoor
