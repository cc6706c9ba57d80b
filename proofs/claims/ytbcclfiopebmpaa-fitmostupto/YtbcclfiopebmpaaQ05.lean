/- label.Meets, Match and the document's own return what the plain functions say, at every Op; they change nothing that was there. Condition: the slices hold what is said of them. slices.IndexFunc and slices.ContainsFunc at taints and at what is borne, with whatever function is handed in. Condition: the slice holds what is said of it, and the function answers as said. taint.meant, taint.Bears and the document's own Bears return what the plain function says, and change nothing that was there. No condition. What a right taint, and something right to bear, is, as plain functions. No program. No condition. taint.borne, unborne and hasTwin: what is looked for by a function that is handed in comes out as the plain functions say. Condition: the slices hold what is said of them. taint.Kept and taint.Shy return what the plain functions say, and change nothing that was there. Condition: the slices hold what is said of them. The document's own Bears returns what the plain function says, and changes nothing that was there. No condition. The document's own borne, Kept and Shy return what the plain functions say, and change nothing that was there. Condition: the slices hold what is said of them. -/
import Derived.Test.YtbcclfiopebmpaaQ04
import Derived.Test.YtbcclfiopebmpaaQ02
import Derived.Test.YtbcclfiopebmpaaQ01
import Derived.Laws.StructEq
import Derived.Shelf.Abstract
namespace Go.Proofs.Ytbcclfiopebmpaa
open Go.RowKit
set_option linter.unusedSimpArgs false

theorem Meets_calls (a : Option Addr) (cap : Nat) (L : List Lab) (key : ByteArray) (op : Int) (b : Option Addr) (cap' : Nat) (V : List ByteArray) (w : World) (hL : Hid (LabsAt w a L)) (hV : Hid (StrsAt w b V)) : Calls Try.prog 70 #[.slice a L.length cap, .agg #[.string key, .int .i64 op, .slice b V.length cap']] w fun e w' => e = .returned (.bool (meetsL L ⟨key, op, V⟩)) ∧ Below w.heap.size w w' := by
  rcases op_paths op with rfl | rfl | rfl | rfl | rfl | rfl | ⟨h1, h2, h3, h4, h5, h6⟩
  · exact Meets_in a cap L key b cap' V w hL hV
  · exact Meets_notIn a cap L key b cap' V w hL hV
  · exact Meets_exists a cap L key b cap' V w hL hV
  · exact Meets_lacks a cap L key b cap' V w hL hV
  · exact Meets_above a cap L key b cap' V w hL hV
  · exact Meets_below a cap L key b cap' V w hL hV
  · exact Meets_never a cap L key op b cap' V w hL hV h1 h2 h3 h4 h5 h6

theorem rMeets_calls (a : Option Addr) (cap : Nat) (L : List Lab) (key : ByteArray) (op : Int) (b : Option Addr) (cap' : Nat) (V : List ByteArray) (w : World) (hL : Hid (LabsAt w a L)) (hV : Hid (StrsAt w b V)) : Calls Try.prog 51 #[.slice a L.length cap, .agg #[.string key, .int .i64 op, .slice b V.length cap']] w fun e w' => e = .returned (.bool (meetsL L ⟨key, op, V⟩)) ∧ Below w.heap.size w w' := by
  rcases op_paths op with rfl | rfl | rfl | rfl | rfl | rfl | ⟨h1, h2, h3, h4, h5, h6⟩
  · exact rMeets_in a cap L key b cap' V w hL hV
  · exact rMeets_notIn a cap L key b cap' V w hL hV
  · exact rMeets_exists a cap L key b cap' V w hL hV
  · exact rMeets_lacks a cap L key b cap' V w hL hV
  · exact rMeets_above a cap L key b cap' V w hL hV
  · exact rMeets_below a cap L key b cap' V w hL hV
  · exact rMeets_never a cap L key op b cap' V w hL hV h1 h2 h3 h4 h5 h6

set_option maxHeartbeats 1000000 in
theorem Match_calls (a : Option Addr) (cap : Nat) (L : List Lab) (b : Option Addr) (cap' : Nat) (R : List Ask) (w : World) (hL : Hid (LabsAt w a L)) (hR : Hid (AsksAt w b R)) : Calls Try.prog 59 #[.slice a L.length cap, .slice b R.length cap'] w fun e w' => e = .returned (.bool (matchL L R)) ∧ Below w.heap.size w w' := by
  have hlen := hR.out.1
  go_enter Try.func59, Try.ntmps59
  go_wp2
  go_loopw [9] (fun i wr => ∃ k : Nat, k ≤ R.length ∧ i = .int .i64 k ∧ Below w.heap.size w wr ∧ Hid (∀ j, j < k → meetsL L (R.getD j default) = true)) (fun i _ => R.length - (intOf i).toNat)
  case atStart => exact ⟨0, Nat.zero_le _, rfl, Below.refl _ _, fun j hj => absurd hj (Nat.not_lt_zero _)⟩
  case round =>
    obtain ⟨k, hk, rfl, hbel, hall⟩ := hrel
    by_cases hlt : k < R.length
    · obtain ⟨B, off, rfl, hB, c0, c1, ⟨a', capv, c2, hv⟩, s0⟩ := hR.out.get hlt
      have d0 := (hbel.cell (p := ⟨B, off + k * 3, none⟩) hB).trans c0
      have d1 := (hbel.cell (p := ⟨B, off + k * 3 + 1, none⟩) hB).trans c1
      have d2 := (hbel.cell (p := ⟨B, off + k * 3 + 2, none⟩) hB).trans c2
      have HM : Hid (∀ u, Below wr.heap.size wr u → Calls Try.prog 70 #[.slice a L.length cap, .agg #[.string (R.getD k default).key, .int .i64 (R.getD k default).op, .slice a' (R.getD k default).vals.length capv]] u fun e w' => e = .returned (.bool (meetsL L (R.getD k default))) ∧ Below u.heap.size u w') :=
        fun u hu => Meets_calls a cap L _ _ a' capv _ u (hL.out.on (on2 hbel hu)) (hv.on (on2 hbel hu))
      clear c0 c1 c2 hv
      cases hm : meetsL L (R.getD k default)
      · have HF : Hid (matchL L R = false) := allTo_false hlt hm
        rw [hm] at HM
        clear hm hall
        generalize R.getD k default = r at d0 d1 d2 s0 HM
        go_wp2_with fail
        refine (HM.out _ (by go_grown)).mono ?_
        rintro e w1 ⟨rfl, hb⟩
        have hb' := on2 hbel (on2 (by go_grown) hb)
        clear HM d0 d1 d2
        go_wp2_with fail
        go_ret
        exact ⟨retb HF.out.symm, hb'⟩
      · have HG : Hid (∀ j, j < k + 1 → meetsL L (R.getD j default) = true) := fun j hj => by
          rcases Nat.lt_succ_iff_lt_or_eq.1 hj with h | rfl
          · exact hall.out j h
          · exact hm
        rw [hm] at HM
        clear hm hall
        generalize R.getD k default = r at d0 d1 d2 s0 HM
        go_wp2_with fail
        refine (HM.out _ (by go_grown)).mono ?_
        rintro e w1 ⟨rfl, hb⟩
        have hb' := on2 hbel (on2 (by go_grown) hb)
        clear HM d0 d1 d2
        go_wp2_with fail
        go_roundw
        case rel => exact ⟨k + 1, by omega, by go_num, hb', HG⟩
        case measure => simp [intOf]; omega
    · have HF : Hid (matchL L R = true) := allTo_true (fun j hj => hall.out j (by omega))
      go_wp2
      go_ret
      exact ⟨retb HF.out.symm, hbel⟩

set_option maxHeartbeats 1000000 in
theorem rMatch_calls (a : Option Addr) (cap : Nat) (L : List Lab) (b : Option Addr) (cap' : Nat) (R : List Ask) (w : World) (hL : Hid (LabsAt w a L)) (hR : Hid (AsksAt w b R)) : Calls Try.prog 27 #[.slice a L.length cap, .slice b R.length cap'] w fun e w' => e = .returned (.bool (matchL L R)) ∧ Below w.heap.size w w' := by
  have hlen := hR.out.1
  go_enter Try.func27, Try.ntmps27
  go_wp2
  go_loopw [5] (fun i wr => ∃ k : Nat, k ≤ R.length ∧ i = .int .i64 k ∧ Below w.heap.size w wr ∧ Hid (∀ j, j < k → meetsL L (R.getD j default) = true)) (fun i _ => R.length - (intOf i).toNat)
  case atStart => exact ⟨0, Nat.zero_le _, rfl, Below.refl _ _, fun j hj => absurd hj (Nat.not_lt_zero _)⟩
  case round =>
    obtain ⟨k, hk, rfl, hbel, hall⟩ := hrel
    by_cases hlt : k < R.length
    · obtain ⟨B, off, rfl, hB, c0, c1, ⟨a', capv, c2, hv⟩, s0⟩ := hR.out.get hlt
      have d0 := (hbel.cell (p := ⟨B, off + k * 3, none⟩) hB).trans c0
      have d1 := (hbel.cell (p := ⟨B, off + k * 3 + 1, none⟩) hB).trans c1
      have d2 := (hbel.cell (p := ⟨B, off + k * 3 + 2, none⟩) hB).trans c2
      have HM : Hid (∀ u, Below wr.heap.size wr u → Calls Try.prog 51 #[.slice a L.length cap, .agg #[.string (R.getD k default).key, .int .i64 (R.getD k default).op, .slice a' (R.getD k default).vals.length capv]] u fun e w' => e = .returned (.bool (meetsL L (R.getD k default))) ∧ Below u.heap.size u w') :=
        fun u hu => rMeets_calls a cap L _ _ a' capv _ u (hL.out.on (on2 hbel hu)) (hv.on (on2 hbel hu))
      clear c0 c1 c2 hv
      cases hm : meetsL L (R.getD k default)
      · have HF : Hid (matchL L R = false) := allTo_false hlt hm
        rw [hm] at HM
        clear hm hall
        generalize R.getD k default = r at d0 d1 d2 s0 HM
        go_wp2_with fail
        refine (HM.out _ (by go_grown)).mono ?_
        rintro e w1 ⟨rfl, hb⟩
        have hb' := on2 hbel (on2 (by go_grown) hb)
        clear HM d0 d1 d2
        go_wp2_with fail
        go_ret
        exact ⟨retb HF.out.symm, hb'⟩
      · have HG : Hid (∀ j, j < k + 1 → meetsL L (R.getD j default) = true) := fun j hj => by
          rcases Nat.lt_succ_iff_lt_or_eq.1 hj with h | rfl
          · exact hall.out j h
          · exact hm
        rw [hm] at HM
        clear hm hall
        generalize R.getD k default = r at d0 d1 d2 s0 HM
        go_wp2_with fail
        refine (HM.out _ (by go_grown)).mono ?_
        rintro e w1 ⟨rfl, hb⟩
        have hb' := on2 hbel (on2 (by go_grown) hb)
        clear HM d0 d1 d2
        go_wp2_with fail
        go_roundw
        case rel => exact ⟨k + 1, by omega, by go_num, hb', HG⟩
        case measure => simp [intOf]; omega
    · have HF : Hid (matchL L R = true) := allTo_true (fun j hj => hall.out j (by omega))
      go_wp2
      go_ret
      exact ⟨retb HF.out.symm, hbel⟩
end Go.Proofs.Ytbcclfiopebmpaa
namespace Go.Proofs.Ytbcclfiopebmpaa
open Go.RowKit
set_option linter.unusedSimpArgs false

/-- What is asked of a function that tells taints: it answers p, and leaves all that was there. -/
def PredT (g : Nat) (lb : Array Value) (p : Tnt → Bool) (w : World) : Prop :=
  ∀ (W : World) (x : Tnt), Below w.heap.size w W → Calls Try.prog g (#[.agg #[.string x.1, .string x.2.1, .int .i64 x.2.2]] ++ lb) W fun e w' => e = .returned (.bool (p x)) ∧ Below W.heap.size W w'

set_option maxHeartbeats 2000000 in
theorem IndexT_calls (a : Option Addr) (cap : Nat) (L : List Tnt) (w : World) (hL : Hid (TntsAt w a L)) (p : Tnt → Bool) (g : Nat) (lb : Array Value) (eg : ∀ args w, (callFunc g args).run Try.prog w = .ok (.enter g args) w) (hp : Hid (PredT g lb p w)) :
    Calls Try.prog 68 #[.slice a L.length cap, .func (.func g) #[] lb] w fun e w' => ((∃ i : Nat, i < L.length ∧ p (L.getD i default) = true ∧ (∀ j, j < i → p (L.getD j default) = false) ∧ e = .returned (.int .i64 i)) ∨ ((∀ j, j < L.length → p (L.getD j default) = false) ∧ e = .returned (.int .i64 (-1)))) ∧ Below w.heap.size w w' := by
  have hlen := hL.out.1
  go_enter Try.func68, Try.ntmps68
  go_wp2
  go_loopw [8] (fun i wr => ∃ k : Nat, k ≤ L.length ∧ i = .int .i64 k ∧ Below w.heap.size w wr ∧ Hid (∀ j, j < k → p (L.getD j default) = false)) (fun i _ => L.length - (intOf i).toNat)
  case atStart => exact ⟨0, Nat.zero_le _, rfl, Below.refl _ _, fun j hj => absurd hj (Nat.not_lt_zero _)⟩
  case round =>
    obtain ⟨k, hk, rfl, hbel, hall⟩ := hrel
    by_cases hlt : k < L.length
    · obtain ⟨B, off, rfl, hB, c0, c1, c2, ho⟩ := TntsAt.get hL.out hlt
      clear ho
      have d0 := (hbel.cell (p := ⟨B, off + k * 3, none⟩) hB).trans c0
      have d1 := (hbel.cell (p := ⟨B, off + k * 3 + 1, none⟩) hB).trans c1
      have d2 := (hbel.cell (p := ⟨B, off + k * 3 + 2, none⟩) hB).trans c2
      clear c0 c1 c2
      have hcall := hp.out wr (L.getD k default) hbel
      have HG : Hid (p (L.getD k default) = false → ∀ j, j < k + 1 → p (L.getD j default) = false) := fun h j hj => by
        rcases Nat.lt_succ_iff_lt_or_eq.1 hj with h' | rfl
        · exact hall.out j h'
        · exact h
      have HF : Hid (p (L.getD k default) = true → ∃ i : Nat, i < L.length ∧ p (L.getD i default) = true ∧ (∀ j, j < i → p (L.getD j default) = false) ∧ Ending.returned (.int .i64 k) = .returned (.int .i64 i)) := fun h => ⟨k, hlt, h, hall.out, rfl⟩
      clear hall
      generalize L.getD k default = x at d0 d1 d2 hcall HG HF
      cases hq : p x
      · have HG' : Hid (∀ j, j < k + 1 → p (L.getD j default) = false) := HG.out hq
        rw [hq] at hcall
        clear HG HF hq
        go_wp2_with fail
        refine hcall.mono ?_
        rintro e w' ⟨rfl, hb'⟩
        go_wp2_with fail
        go_roundw
        case rel => exact ⟨k + 1, by omega, by go_num, on2 hbel hb', HG'⟩
        case measure => simp [intOf]; omega
      · have HF' := HF.out hq
        have HF2 : Hid (∃ i : Nat, i < L.length ∧ p (L.getD i default) = true ∧ (∀ j, j < i → p (L.getD j default) = false) ∧ Ending.returned (.int .i64 k) = .returned (.int .i64 i)) := HF'
        rw [hq] at hcall
        clear HG HF hq HF'
        go_wp2_with fail
        refine hcall.mono ?_
        rintro e w' ⟨rfl, hb'⟩
        go_wp2_with fail
        go_ret
        exact ⟨.inl HF2.out, on2 hbel hb'⟩
    · have HA : Hid (∀ j, j < L.length → p (L.getD j default) = false) := fun j hj => hall.out j (by omega)
      clear hall
      go_wp2
      go_ret
      exact ⟨.inr ⟨HA.out, rfl⟩, hbel⟩

/-- What is asked of a function that tells what is borne: it answers p, and leaves all that was there. -/
def PredB (g : Nat) (lb : Array Value) (p : Bear → Bool) (w : World) : Prop :=
  ∀ (W : World) (x : Bear), Below w.heap.size w W → Calls Try.prog g (#[.agg #[.string x.1, .string x.2.1, .bool x.2.2.1, .int .i64 x.2.2.2]] ++ lb) W fun e w' => e = .returned (.bool (p x)) ∧ Below W.heap.size W w'

set_option maxHeartbeats 2000000 in
theorem IndexB_calls (a : Option Addr) (cap : Nat) (L : List Bear) (w : World) (hL : Hid (BearsAt w a L)) (p : Bear → Bool) (g : Nat) (lb : Array Value) (eg : ∀ args w, (callFunc g args).run Try.prog w = .ok (.enter g args) w) (hp : Hid (PredB g lb p w)) :
    Calls Try.prog 91 #[.slice a L.length cap, .func (.func g) #[] lb] w fun e w' => ((∃ i : Nat, i < L.length ∧ p (L.getD i default) = true ∧ (∀ j, j < i → p (L.getD j default) = false) ∧ e = .returned (.int .i64 i)) ∨ ((∀ j, j < L.length → p (L.getD j default) = false) ∧ e = .returned (.int .i64 (-1)))) ∧ Below w.heap.size w w' := by
  have hlen := hL.out.1
  go_enter Try.func91, Try.ntmps91
  go_wp2
  go_loopw [8] (fun i wr => ∃ k : Nat, k ≤ L.length ∧ i = .int .i64 k ∧ Below w.heap.size w wr ∧ Hid (∀ j, j < k → p (L.getD j default) = false)) (fun i _ => L.length - (intOf i).toNat)
  case atStart => exact ⟨0, Nat.zero_le _, rfl, Below.refl _ _, fun j hj => absurd hj (Nat.not_lt_zero _)⟩
  case round =>
    obtain ⟨k, hk, rfl, hbel, hall⟩ := hrel
    by_cases hlt : k < L.length
    · obtain ⟨B, off, rfl, hB, c0, c1, c2, c3, ho⟩ := BearsAt.get hL.out hlt
      clear ho
      have d0 := (hbel.cell (p := ⟨B, off + k * 4, none⟩) hB).trans c0
      have d1 := (hbel.cell (p := ⟨B, off + k * 4 + 1, none⟩) hB).trans c1
      have d2 := (hbel.cell (p := ⟨B, off + k * 4 + 2, none⟩) hB).trans c2
      have d3 := (hbel.cell (p := ⟨B, off + k * 4 + 3, none⟩) hB).trans c3
      clear c0 c1 c2 c3
      have hcall := hp.out wr (L.getD k default) hbel
      have HG : Hid (p (L.getD k default) = false → ∀ j, j < k + 1 → p (L.getD j default) = false) := fun h j hj => by
        rcases Nat.lt_succ_iff_lt_or_eq.1 hj with h' | rfl
        · exact hall.out j h'
        · exact h
      have HF : Hid (p (L.getD k default) = true → ∃ i : Nat, i < L.length ∧ p (L.getD i default) = true ∧ (∀ j, j < i → p (L.getD j default) = false) ∧ Ending.returned (.int .i64 k) = .returned (.int .i64 i)) := fun h => ⟨k, hlt, h, hall.out, rfl⟩
      clear hall
      generalize L.getD k default = x at d0 d1 d2 d3 hcall HG HF
      cases hq : p x
      · have HG' : Hid (∀ j, j < k + 1 → p (L.getD j default) = false) := HG.out hq
        rw [hq] at hcall
        clear HG HF hq
        go_wp2_with fail
        refine hcall.mono ?_
        rintro e w' ⟨rfl, hb'⟩
        go_wp2_with fail
        go_roundw
        case rel => exact ⟨k + 1, by omega, by go_num, on2 hbel hb', HG'⟩
        case measure => simp [intOf]; omega
      · have HF' := HF.out hq
        have HF2 : Hid (∃ i : Nat, i < L.length ∧ p (L.getD i default) = true ∧ (∀ j, j < i → p (L.getD j default) = false) ∧ Ending.returned (.int .i64 k) = .returned (.int .i64 i)) := HF'
        rw [hq] at hcall
        clear HG HF hq HF'
        go_wp2_with fail
        refine hcall.mono ?_
        rintro e w' ⟨rfl, hb'⟩
        go_wp2_with fail
        go_ret
        exact ⟨.inl HF2.out, on2 hbel hb'⟩
    · have HA : Hid (∀ j, j < L.length → p (L.getD j default) = false) := fun j hj => hall.out j (by omega)
      clear hall
      go_wp2
      go_ret
      exact ⟨.inr ⟨HA.out, rfl⟩, hbel⟩

theorem ContainsB_calls (a : Option Addr) (cap : Nat) (L : List Bear) (w : World) (hL : Hid (BearsAt w a L)) (p : Bear → Bool) (g : Nat) (lb : Array Value) (eg : ∀ args w, (callFunc g args).run Try.prog w = .ok (.enter g args) w) (hp : Hid (PredB g lb p w)) :
    Calls Try.prog 81 #[.slice a L.length cap, .func (.func g) #[] lb] w fun e w' => e = .returned (.bool (L.any p)) ∧ Below w.heap.size w w' := by
  have hI := IndexB_calls a cap L w hL p g lb eg hp
  go_enter Try.func81, Try.ntmps81
  go_wp2_with fail
  refine hI.mono ?_
  rintro e w1 ⟨⟨i, hi, hy, _, rfl⟩ | ⟨hn, rfl⟩, hb⟩
  · have HA : Hid (L.any p = true) := any_yes hi hy
    clear hy
    go_wp2_with fail
    go_ret
    exact ⟨retb HA.out.symm, hb⟩
  · have HA : Hid (L.any p = false) := any_no hn
    clear hn
    go_wp2_with fail
    go_ret
    exact ⟨retb HA.out.symm, hb⟩
end Go.Proofs.Ytbcclfiopebmpaa
namespace Go.Proofs.Ytbcclfiopebmpaa
open Go.RowKit
set_option linter.unusedSimpArgs false

set_option maxHeartbeats 2000000 in
theorem meant_calls (bk bv : ByteArray) (ba : Bool) (be : Int) (tk tv : ByteArray) (te : Int) (w : World) : Calls Try.prog 92 #[.agg #[.string bk, .string bv, .bool ba, .int .i64 be], .agg #[.string tk, .string tv, .int .i64 te]] w fun e w' => e = .returned (.agg #[.string (meantT (bk, bv, ba, be) (tk, tv, te)).1, .string (meantT (bk, bv, ba, be) (tk, tv, te)).2.1, .int .i64 (meantT (bk, bv, ba, be) (tk, tv, te)).2.2]) ∧ Below w.heap.size w w' := by
  have HM : Hid (meantT (bk, bv, ba, be) (tk, tv, te) = (if ba && bk.toList.isEmpty then tk else bk, if ba then tv else bv, if be == 0 then te else be)) := rfl
  generalize meantT (bk, bv, ba, be) (tk, tv, te) = m at HM ⊢
  obtain ⟨n, hn⟩ : ∃ n, bk.toList.isEmpty = n := ⟨_, rfl⟩
  obtain ⟨z, hz⟩ : ∃ z, (be == 0) = z := ⟨_, rfl⟩
  rw [hn, hz] at HM
  cases ba <;> cases n <;> cases z <;> (
    have HM' := HM.out
    simp only [Bool.and_self, Bool.and_true, Bool.and_false, Bool.true_and, Bool.false_and, Bool.false_eq_true, if_true, if_false] at HM'
    subst HM'
    clear HM
    go_enter Try.func92, Try.ntmps92
    go_wp2
    exact bodyPost_ret (v := .agg #[.string _, .string _, .int .i64 _]) (by simp [results, Try.results92, go_sem]) rfl ⟨rfl, by go_grown⟩)

theorem guardT : Try.prog.eqGuardType Try.prog.depth 70 = false := by kernel_rfl
theorem guardB : Try.prog.eqGuardType Try.prog.depth 81 = false := by kernel_rfl
theorem eqT (x y : Tnt) (w : World) : Sem.run Try.prog (binOp .eql 70 (.agg #[.string x.1, .string x.2.1, .int .i64 x.2.2]) (.agg #[.string y.1, .string y.2.1, .int .i64 y.2.2])) w = .ok (.bool (tEq x y)) w := by
  have u3 := Try.underlying3
  have a3 := Try.isAgg3
  have z3 := Try.sizeOf3
  have u9 := Try.underlying9
  have a9 := Try.isAgg9
  have z9 := Try.sizeOf9
  have hS : Try.prog.underlying 70 = some (.struct (Try.prog.fieldsOf 70)) := by kernel_rfl
  have hp : Try.prog.stoodInHeld 70 = false := by kernel_rfl
  rw [run_eql_struct, show (10000 : Nat) = 9999 + 1 from rfl, run_equalIn_agg w 9999 70 _ _ hS hp]
  simp only [Program.fieldsOf, Try.underlying70]
  go_simp
  simp only [tEq, sEq]
  by_cases h1 : x.1.toList = y.1.toList <;> by_cases h2 : x.2.1.toList = y.2.1.toList <;> by_cases h3 : x.2.2 = y.2.2 <;> simp [h1, h2, h3]
theorem eqB (x y : Bear) (w : World) : Sem.run Try.prog (binOp .eql 81 (.agg #[.string x.1, .string x.2.1, .bool x.2.2.1, .int .i64 x.2.2.2]) (.agg #[.string y.1, .string y.2.1, .bool y.2.2.1, .int .i64 y.2.2.2])) w = .ok (.bool (bEq x y)) w := by
  have u3 := Try.underlying3
  have a3 := Try.isAgg3
  have z3 := Try.sizeOf3
  have u4 := Try.underlying4
  have a4 := Try.isAgg4
  have z4 := Try.sizeOf4
  have u9 := Try.underlying9
  have a9 := Try.isAgg9
  have z9 := Try.sizeOf9
  have hS : Try.prog.underlying 81 = some (.struct (Try.prog.fieldsOf 81)) := by kernel_rfl
  have hp : Try.prog.stoodInHeld 81 = false := by kernel_rfl
  rw [run_eql_struct, show (10000 : Nat) = 9999 + 1 from rfl, run_equalIn_agg w 9999 81 _ _ hS hp]
  simp only [Program.fieldsOf, Try.underlying81]
  go_simp
  simp only [bEq, sEq]
  by_cases h1 : x.1.toList = y.1.toList <;> by_cases h2 : x.2.1.toList = y.2.1.toList <;> by_cases h3 : x.2.2.1 = y.2.2.1 <;> by_cases h4 : x.2.2.2 = y.2.2.2 <;> simp [h1, h2, h3, h4]

/-- The two boxes hold what came in, and nothing that was there has turned. -/
def BeS (wB : World) (D E : Nat) (bk bv : ByteArray) (ba : Bool) (be : Int) (tk tv : ByteArray) (te : Int) (u : World) : Prop :=
  Below wB.heap.size wB u ∧ u.cell? ⟨D, 0, none⟩ = some (.string bk) ∧ u.cell? ⟨D, 1, none⟩ = some (.string bv) ∧ u.cell? ⟨D, 2, none⟩ = some (.bool ba) ∧ u.cell? ⟨D, 3, none⟩ = some (.int .i64 be) ∧
    u.cell? ⟨E, 0, none⟩ = some (.string tk) ∧ u.cell? ⟨E, 1, none⟩ = some (.string tv) ∧ u.cell? ⟨E, 2, none⟩ = some (.int .i64 te)
theorem BeS.to {wB u' : World} {D E : Nat} {bk bv : ByteArray} {ba : Bool} {be : Int} {tk tv : ByteArray} {te : Int} (h : BeS wB D E bk bv ba be tk tv te wB) (hD : D < wB.heap.size) (hE : E < wB.heap.size) (hb : Below wB.heap.size wB u') : BeS wB D E bk bv ba be tk tv te u' := by
  obtain ⟨_, h1, h2, h3, h4, h5, h6, h7⟩ := h
  exact ⟨hb, (hb.cell hD).trans h1, (hb.cell hD).trans h2, (hb.cell hD).trans h3, (hb.cell hD).trans h4, (hb.cell hE).trans h5, (hb.cell hE).trans h6, (hb.cell hE).trans h7⟩

set_option maxHeartbeats 2000000 in
theorem Bears_calls (bk bv : ByteArray) (ba : Bool) (be : Int) (tk tv : ByteArray) (te : Int) (w : World) : Calls Try.prog 83 #[.agg #[.string bk, .string bv, .bool ba, .int .i64 be], .agg #[.string tk, .string tv, .int .i64 te]] w fun e w' => e = .returned (.bool (bearsB (bk, bv, ba, be) (tk, tv, te))) ∧ Below w.heap.size w w' := by
  have hS0 : BeS ((w.alloc (.cells #[.string bk, .string bv, .bool ba, .int .i64 be] 81)).alloc (.cells #[.string tk, .string tv, .int .i64 te] 70)) w.heap.size (w.heap.size + 1) bk bv ba be tk tv te ((w.alloc (.cells #[.string bk, .string bv, .bool ba, .int .i64 be] 81)).alloc (.cells #[.string tk, .string tv, .int .i64 te] 70)) :=
    ⟨Below.refl _ _, by simp [go_sem], by simp [go_sem], by simp [go_sem], by simp [go_sem], by simp [go_sem], by simp [go_sem], by simp [go_sem]⟩
  have hb0 : Below w.heap.size w ((w.alloc (.cells #[.string bk, .string bv, .bool ba, .int .i64 be] 81)).alloc (.cells #[.string tk, .string tv, .int .i64 te] 70)) := by go_grown
  have hD : w.heap.size < ((w.alloc (.cells #[.string bk, .string bv, .bool ba, .int .i64 be] 81)).alloc (.cells #[.string tk, .string tv, .int .i64 te] 70)).heap.size := by simp; omega
  have hE : w.heap.size + 1 < ((w.alloc (.cells #[.string bk, .string bv, .bool ba, .int .i64 be] 81)).alloc (.cells #[.string tk, .string tv, .int .i64 te] 70)).heap.size := by simp
  have HS : Hid (∀ {u : World}, Below ((w.alloc (.cells #[.string bk, .string bv, .bool ba, .int .i64 be] 81)).alloc (.cells #[.string tk, .string tv, .int .i64 te] 70)).heap.size ((w.alloc (.cells #[.string bk, .string bv, .bool ba, .int .i64 be] 81)).alloc (.cells #[.string tk, .string tv, .int .i64 te] 70)) u → BeS ((w.alloc (.cells #[.string bk, .string bv, .bool ba, .int .i64 be] 81)).alloc (.cells #[.string tk, .string tv, .int .i64 te] 70)) w.heap.size (w.heap.size + 1) bk bv ba be tk tv te u) := fun hb => hS0.to hD hE hb
  have HM := meant_calls bk bv ba be tk tv te
  have HQ := eqT (meantT (bk, bv, ba, be) (tk, tv, te)) (tk, tv, te)
  have HG := guardT
  rw [meant_bears] at HQ
  clear hS0
  generalize meantT (bk, bv, ba, be) (tk, tv, te) = m at HM HQ
  generalize bearsB (bk, bv, ba, be) (tk, tv, te) = r at HQ ⊢
  go_enter Try.func83, Try.ntmps83
  go_wp2_with fail
  generalize hwB : ((w.alloc (.cells #[.string bk, .string bv, .bool ba, .int .i64 be] 81)).alloc (.cells #[.string tk, .string tv, .int .i64 te] 70)) = wB at HS hb0 hD hE
  refine wp_region_noPanic ?_
  refine wp_region_held_drew (S := BeS wB w.heap.size (w.heap.size + 1) bk bv ba be tk tv te) (by kernel_rfl) (HS.out (Below.refl _ _).drew) (fun hHeld => ?_)
  refine wpAnyH_take (i := 0) (v := ?v0) rfl (by kernel_rfl) (by kernel_rfl) (by kernel_rfl) (fun _ _ _ h => h) (Or.inl ⟨by rfl, ?hy0⟩) (by assumption) ?rest0
  case hy0 => (intro u hu; obtain ⟨_, _, _, _, _, _, _, _⟩ := hu; go_simp; try with_reducible rfl)
  try simp only [Act.put, List.setIfInBounds_toArray, List.set_cons_zero, List.set_cons_succ, List.getElem_toArray, List.getElem_cons_zero, List.getElem_cons_succ]
  refine wpAnyH_take (i := 1) (v := ?v1) rfl (by kernel_rfl) (by kernel_rfl) (by kernel_rfl) (fun _ _ _ h => h) (Or.inl ⟨by rfl, ?hy1⟩) (by assumption) ?rest1
  case hy1 => (intro u hu; obtain ⟨_, _, _, _, _, _, _, _⟩ := hu; go_simp; try with_reducible rfl)
  try simp only [Act.put, List.setIfInBounds_toArray, List.set_cons_zero, List.set_cons_succ, List.getElem_toArray, List.getElem_cons_zero, List.getElem_cons_succ]
  refine wpAnyH_take (i := 3) (v := ?v3) rfl (by kernel_rfl) (by kernel_rfl) (by kernel_rfl) (fun _ _ _ h => h) (Or.inl ⟨by rfl, ?hy3⟩) (by assumption) ?rest3
  case hy3 => (intro u hu; obtain ⟨_, _, _, _, _, _, _, _⟩ := hu; go_simp; try with_reducible rfl)
  try simp only [Act.put, List.setIfInBounds_toArray, List.set_cons_zero, List.set_cons_succ, List.getElem_toArray, List.getElem_cons_zero, List.getElem_cons_succ]
  refine wpAnyH_ready (rs := [2]) (by kernel_rfl) (by simp) ?_
  refine AllReadyH.cons rfl (fun K hK => ?_) AllReadyH.nil
  go_simp
  refine (HM _).mono ?_
  rintro e w1 ⟨rfl, hb1⟩
  go_wp2_with fail
  refine hK.out _ _ (HS.out (on2 hHeld.1 hb1)) (fun hHeld2 => ?_)
  clear hK K hHeld
  have hHeld := hHeld2
  clear hHeld2
  try simp only [Act.put, List.setIfInBounds_toArray, List.set_cons_zero, List.set_cons_succ, List.getElem_toArray, List.getElem_cons_zero, List.getElem_cons_succ]
  refine wpAnyH_take (i := 4) (v := ?v4) rfl (by kernel_rfl) (by kernel_rfl) (by kernel_rfl) (fun _ _ _ h => h) (Or.inl ⟨by rfl, ?hy4⟩) (by assumption) ?rest4
  case hy4 => (intro u hu; obtain ⟨_, _, _, _, _, _, _, _⟩ := hu; go_simp; try with_reducible rfl)
  try simp only [Act.put, List.setIfInBounds_toArray, List.set_cons_zero, List.set_cons_succ, List.getElem_toArray, List.getElem_cons_zero, List.getElem_cons_succ]
  refine wpAnyH_take (i := 5) (v := ?v5) rfl (by kernel_rfl) (by kernel_rfl) (by kernel_rfl) (fun _ _ _ h => h) (Or.inl ⟨by rfl, ?hy5⟩) (by assumption) ?rest5
  case hy5 => (intro u hu; obtain ⟨_, _, _, _, _, _, _, _⟩ := hu; go_simp; try with_reducible rfl)
  try simp only [Act.put, List.setIfInBounds_toArray, List.set_cons_zero, List.set_cons_succ, List.getElem_toArray, List.getElem_cons_zero, List.getElem_cons_succ]
  refine wpAnyH_done (by kernel_rfl) ?_ _
  refine NoPanic.normal ?_
  go_wp2_with fail
  go_ret
  exact ⟨rfl, on2 hb0 hHeld.1⟩

end Go.Proofs.Ytbcclfiopebmpaa
namespace Go.Proofs.Ytbcclfiopebmpaa
open Go.RowKit

/-- Has one of the list t's key and t's effect? -/
def twinB (L : List Tnt) (t : Tnt) : Bool := L.any fun x => sEq x.1 t.1 && (x.2.2 == t.2.2)
def effB (e : Int) : Bool := (e == 1) || (e == 2)
def taintOk (x : Tnt) : Bool := wordB x.1 && valB x.2.1 && effB x.2.2
def tOk (L : List Tnt) (i : Nat) : Bool := taintOk (L.getD i default) && !twinB (L.take i) (L.getD i default)
def checkT (L : List Tnt) : Int := if 64 < L.length then 3 else if allTo L.length (tOk L) then 0 else 30
def bearOk (b : Bear) : Bool := (b.2.2.2 == 0 || effB b.2.2.2) && (if b.2.2.1 then valB b.1 && sNil b.2.1 else wordB b.1 && valB b.2.1)
def checkBr (L : List Bear) : Int := if 64 < L.length then 3 else if allTo L.length (fun i => bearOk (L.getD i default)) then 0 else 30
theorem reti {a b : Int} (h : a = b) : Ending.returned (.int .i64 a) = .returned (.int .i64 b) := by rw [h]
theorem checkT_long {L : List Tnt} (h : 64 < L.length) : checkT L = 3 := if_pos h
theorem checkT_bad {L : List Tnt} {k : Nat} (h : ¬ 64 < L.length) (hk : k < L.length) (hb : tOk L k = false) : checkT L = 30 := by
  unfold checkT; rw [if_neg h, allTo_false hk hb]; rfl
theorem checkT_ok {L : List Tnt} (h : ¬ 64 < L.length) (hall : ∀ j, j < L.length → tOk L j = true) : checkT L = 0 := by
  unfold checkT; rw [if_neg h, allTo_true hall]; rfl
theorem checkBr_long {L : List Bear} (h : 64 < L.length) : checkBr L = 3 := if_pos h
theorem checkBr_bad {L : List Bear} {k : Nat} (h : ¬ 64 < L.length) (hk : k < L.length) (hb : bearOk (L.getD k default) = false) : checkBr L = 30 := by
  unfold checkBr; rw [if_neg h, allTo_false hk hb]; rfl
theorem checkBr_ok {L : List Bear} (h : ¬ 64 < L.length) (hall : ∀ j, j < L.length → bearOk (L.getD j default) = true) : checkBr L = 0 := by
  unfold checkBr; rw [if_neg h, allTo_true hall]; rfl
theorem getD_take {α : Type} [Inhabited α] (L : List α) (m i : Nat) (h : i < m) (hl : i < L.length) : (L.take m).getD i default = L.getD i default := by
  rw [getE _ _ (by rw [List.length_take]; omega), getE _ _ hl]; simp
end Go.Proofs.Ytbcclfiopebmpaa
namespace Go.Proofs.Ytbcclfiopebmpaa
open Go.RowKit Go.Shelf
set_option linter.unusedSimpArgs false

/-- Block D holds a taint, and may be written. -/
def BoxT (u : World) (D : Nat) (x : Tnt) : Prop :=
  D < u.heap.size ∧ (u.cell? ⟨D, 0, none⟩ = some (.string x.1) ∧ u.cell? ⟨D, 1, none⟩ = some (.string x.2.1) ∧ u.cell? ⟨D, 2, none⟩ = some (.int .i64 x.2.2)) ∧ u.frozen? ⟨D, 0, none⟩ = false ∧ u.frozen? ⟨D, 1, none⟩ = false ∧ u.frozen? ⟨D, 2, none⟩ = false
theorem BoxT.on {u u' : World} {D : Nat} {x : Tnt} (h : BoxT u D x) (hb : Below u.heap.size u u') : BoxT u' D x := by
  obtain ⟨hB, ⟨h0, h1, h2⟩, f0, f1, f2⟩ := h
  exact ⟨Nat.lt_of_lt_of_le hB hb.size, ⟨(hb.cell hB).trans h0, (hb.cell hB).trans h1, (hb.cell hB).trans h2⟩, (hb.frozen hB).trans f0, (hb.frozen hB).trans f1, (hb.frozen hB).trans f2⟩
theorem BoxT.new (u : World) (t : TypeId) (x : Tnt) : BoxT (u.alloc (.cells #[.string x.1, .string x.2.1, .int .i64 x.2.2] t)) u.heap.size x :=
  ⟨by simp, ⟨by simp [go_sem], by simp [go_sem], by simp [go_sem]⟩, by simp [go_sem], by simp [go_sem], by simp [go_sem]⟩

theorem enters41 : ∀ args w, (callFunc 82 args).run Try.prog w = .ok (.enter 82 args) w := enters_of Try.func82 (by kernel_rfl) rfl
theorem enters37 : ∀ args w, (callFunc 75 args).run Try.prog w = .ok (.enter 75 args) w := enters_of Try.func75 (by kernel_rfl) rfl
theorem bornePred (t : Tnt) (D : Nat) (w : World) (hD : BoxT w D t) : PredB 82 #[.pointer (some ⟨D, 0, none⟩)] (fun b => bearsB b t) w := fun W x hb => by
  obtain ⟨hDl, ⟨c0, c1, c2⟩, _⟩ := hD
  have d0 := (hb.cell (p := ⟨D, 0, none⟩) hDl).trans c0
  have d1 := (hb.cell (p := ⟨D, 1, none⟩) hDl).trans c1
  have d2 := (hb.cell (p := ⟨D, 2, none⟩) hDl).trans c2
  have hDW : D < W.heap.size := by have := hb.size; omega
  have hne : D ≠ W.heap.size := by omega
  have HB := Bears_calls x.1 x.2.1 x.2.2.1 x.2.2.2 t.1 t.2.1 t.2.2
  show Calls Try.prog 82 #[.agg #[.string x.1, .string x.2.1, .bool x.2.2.1, .int .i64 x.2.2.2], .pointer (some ⟨D, 0, none⟩)] W fun e w' => e = .returned (.bool (bearsB x t)) ∧ Below W.heap.size W w'
  change ∀ w, Calls Try.prog 83 _ w fun e w' => e = .returned (.bool (bearsB x t)) ∧ Below w.heap.size w w' at HB
  generalize bearsB x t = r at HB ⊢
  clear c0 c1 c2
  go_enter Try.func82, Try.ntmps82
  go_wp2_with fail
  refine (HB _).mono ?_
  rintro e w1 ⟨rfl, hb1⟩
  go_wp2_with fail
  go_ret
  exact ⟨rfl, on2 (by go_grown) hb1⟩

theorem borne_calls (t : Tnt) (a : Option Addr) (cap : Nat) (L : List Bear) (w : World) (hL : Hid (BearsAt w a L)) : Calls Try.prog 76 #[.agg #[.string t.1, .string t.2.1, .int .i64 t.2.2], .slice a L.length cap] w fun e w' => e = .returned (.bool (borneB L t)) ∧ Below w.heap.size w w' := by
  have hb0 : Below w.heap.size w (w.alloc (.cells #[.string t.1, .string t.2.1, .int .i64 t.2.2] 70)) := by go_grown
  have hC := ContainsB_calls a cap L (w.alloc (.cells #[.string t.1, .string t.2.1, .int .i64 t.2.2] 70)) (hL.out.on hb0) (fun b => bearsB b t) 82 #[.pointer (some ⟨w.heap.size, 0, none⟩)] enters41 (bornePred t w.heap.size _ (BoxT.new w _ t))
  change Calls Try.prog _ _ _ fun e w' => e = .returned (.bool (borneB L t)) ∧ _ at hC
  generalize borneB L t = r at hC ⊢
  go_enter Try.func76, Try.ntmps76
  go_wp2_with fail
  refine hC.mono ?_
  rintro e w1 ⟨rfl, hb1⟩
  go_wp2_with fail
  go_ret
  exact ⟨rfl, on2 hb0 hb1⟩

theorem unbornePred (e : Int) (a : Option Addr) (cap : Nat) (L : List Bear) (D E : Nat) (w : World) (hD : D < w.heap.size) (hE : E < w.heap.size) (cD : w.cell? ⟨D, 0, none⟩ = some (.int .i64 e)) (cE : w.cell? ⟨E, 0, none⟩ = some (.slice a L.length cap)) (hL : BearsAt w a L) :
    PredT 75 #[.pointer (some ⟨D, 0, none⟩), .pointer (some ⟨E, 0, none⟩)] (openT e L) w := fun W x hb => by
  have d0 := (hb.cell (p := ⟨D, 0, none⟩) hD).trans cD
  have d1 := (hb.cell (p := ⟨E, 0, none⟩) hE).trans cE
  have hDW : D < W.heap.size := by have := hb.size; omega
  have hEW : E < W.heap.size := by have := hb.size; omega
  have hne : D ≠ W.heap.size := by omega
  have hne' : E ≠ W.heap.size := by omega
  have hb0 : Below W.heap.size W (W.alloc (.cells #[.string x.1, .string x.2.1, .int .i64 x.2.2] 70)) := by go_grown
  have HB := borne_calls x a cap L (W.alloc (.cells #[.string x.1, .string x.2.1, .int .i64 x.2.2] 70)) (hL.on (hb.trans (hb0.mono hb.size)))
  show Calls Try.prog 75 #[.agg #[.string x.1, .string x.2.1, .int .i64 x.2.2], .pointer (some ⟨D, 0, none⟩), .pointer (some ⟨E, 0, none⟩)] W fun r w' => r = .returned (.bool ((x.2.2 == e) && !borneB L x)) ∧ Below W.heap.size W w'
  generalize borneB L x = r at HB ⊢
  clear cD cE
  cases hq : (x.2.2 == e)
  · go_enter Try.func75, Try.ntmps75
    go_wp2_with fail
    go_ret
    exact ⟨rfl, hb0⟩
  · go_enter Try.func75, Try.ntmps75
    go_wp2_with fail
    refine HB.mono ?_
    rintro e w1 ⟨rfl, hb1⟩
    go_wp2_with fail
    go_ret
    exact ⟨rfl, on2 hb0 hb1⟩

theorem unborne_calls (e : Int) (a : Option Addr) (cap : Nat) (L : List Bear) (w : World) (hL : Hid (BearsAt w a L)) : Calls Try.prog 69 #[.int .i64 e, .slice a L.length cap] w fun r w' => ∃ lb, r = .returned (.func (.func 75) #[] lb) ∧ PredT 75 lb (openT e L) w' ∧ Below w.heap.size w w' := by
  have hb0 : Below w.heap.size w ((w.alloc (.cells #[.int .i64 e] 3)).alloc (.cells #[.slice a L.length cap] 25)) := by go_grown
  have HP := unbornePred e a cap L w.heap.size (w.heap.size + 1) ((w.alloc (.cells #[.int .i64 e] 3)).alloc (.cells #[.slice a L.length cap] 25)) (by simp; omega) (by simp) (by simp [go_sem]) (by simp [go_sem]) (hL.out.on hb0)
  have HP' : Hid (PredT 75 #[.pointer (some ⟨w.heap.size, 0, none⟩), .pointer (some ⟨w.heap.size + 1, 0, none⟩)] (openT e L) ((w.alloc (.cells #[.int .i64 e] 3)).alloc (.cells #[.slice a L.length cap] 25))) := HP
  clear HP
  go_enter Try.func69, Try.ntmps69
  go_wp2_with fail
  go_ret
  exact ⟨_, rfl, HP'.out, hb0⟩

theorem twin_eq (x t : Tnt) : tEq (x.1, t.2.1, x.2.2) t = (sEq x.1 t.1 && (x.2.2 == t.2.2)) := by simp [tEq, sEq_self]
end Go.Proofs.Ytbcclfiopebmpaa
namespace Go.Proofs.Ytbcclfiopebmpaa
open Go.RowKit
set_option linter.unusedSimpArgs false

theorem ret_tb {x y : Tnt} {b c : Bool} (h : x = y ∧ b = c) : Ending.returned (.tuple #[.agg #[.string x.1, .string x.2.1, .int .i64 x.2.2], .bool b]) = .returned (.tuple #[.agg #[.string y.1, .string y.2.1, .int .i64 y.2.2], .bool c]) := by rw [h.1, h.2]
theorem keptT_no {L : List Tnt} {B : List Bear} (h : ∀ j, j < L.length → openT 1 B (L.getD j default) = false) : keptT L B = (default, false) := by
  unfold keptT; rw [find_no h]
theorem keptT_yes {L : List Tnt} {B : List Bear} {k : Nat} (hk : k < L.length) (h : ∀ j, j < k → openT 1 B (L.getD j default) = false) (hy : openT 1 B (L.getD k default) = true) : keptT L B = (L.getD k default, true) := by
  unfold keptT; rw [find_yes hk h hy]
theorem wrap_nat {n : Nat} (h : n ≤ 140737488355328) : IntKind.i64.wrap ((n : Int) + 1) = ((n + 1 : Nat) : Int) := by simp [IntKind.wrap, IntKind.bits, IntKind.signed]; omega

set_option maxHeartbeats 2000000 in
theorem Kept_calls (a : Option Addr) (cap : Nat) (L : List Tnt) (b : Option Addr) (capb : Nat) (B : List Bear) (w : World) (hL : Hid (TntsAt w a L)) (hB : Hid (BearsAt w b B)) :
    Calls Try.prog 58 #[.slice a L.length cap, .slice b B.length capb] w fun e w' => e = .returned (.tuple #[.agg #[.string (keptT L B).1.1, .string (keptT L B).1.2.1, .int .i64 (keptT L B).1.2.2], .bool (keptT L B).2]) ∧ Below w.heap.size w w' := by
  have hb0 : Below w.heap.size w (w.alloc (.cells #[.string ⟨#[]⟩, .string ⟨#[]⟩, .int .i64 0] 70)) := by go_grown
  have hD := BoxT.new w 70 (⟨#[]⟩, ⟨#[]⟩, 0)
  have hL' : Hid (∀ {u : World}, Below w.heap.size w u → TntsAt u a L) := fun h => hL.out.on h
  have hU := unborne_calls 1 b capb B (w.alloc (.cells #[.string ⟨#[]⟩, .string ⟨#[]⟩, .int .i64 0] 70)) (hB.out.on hb0)
  clear hL hB
  go_enter Try.func58, Try.ntmps58
  go_wp2_with fail
  refine hU.mono ?_
  rintro e w1 ⟨lb, rfl, hP, hb1⟩
  have hI := IndexT_calls a cap L w1 (hL'.out (on2 hb0 hb1)) (openT 1 B) 75 lb enters37 hP
  clear hU hP
  go_wp2_with fail
  refine hI.mono ?_
  rintro e w2 ⟨h, hb2⟩
  have hb2' := on2 (on2 hb0 hb1) hb2
  obtain ⟨hDl, ⟨c0, c1, c2⟩, f0, f1, f2⟩ := hD.on (on2 hb1 hb2)
  clear hI hb2 hb1 hb0 hD
  rcases h with ⟨i, hi, hy, hn, rfl⟩ | ⟨hn, rfl⟩
  · have HK : Hid (keptT L B = (L.getD i default, true)) := keptT_yes hi hn hy
    obtain ⟨BB, off, rfl, hBB, d0, d1, d2, _⟩ := TntsAt.get (hL'.out hb2') hi
    have hBn : Hid (BB < w.heap.size) := by
      have := TntsAt.get (hL'.out (Below.refl _ w)) hi
      obtain ⟨B2, off2, e2, hB2, _⟩ := this
      obtain ⟨rfl, _⟩ : BB = B2 ∧ off = off2 := by simpa using e2
      exact hB2
    clear hy hn hL'
    generalize L.getD i default = x at HK d0 d1 d2
    have hne : BB ≠ w.heap.size := by have := hBn.out; omega
    go_wp2_with fail
    refine bodyPost_ret (v := .tuple #[.agg #[.string x.1, .string x.2.1, .int .i64 x.2.2], .bool true]) (by simp [results, Try.results58, go_sem, c0, c1, c2, hDl]) rfl ⟨ret_tb (x := x) (by rw [HK.out]; exact ⟨rfl, rfl⟩), ?_⟩
    exact ((hb2'.setCell (Nat.le_refl _) _).setCell (Nat.le_refl _) _).setCell (Nat.le_refl _) _
  · have HK : Hid (keptT L B = (default, false)) := keptT_no hn
    clear hn hL'
    go_wp2_with fail
    refine bodyPost_ret (v := .tuple #[.agg #[.string ⟨#[]⟩, .string ⟨#[]⟩, .int .i64 0], .bool false]) (by simp [results, Try.results58, go_sem, c0, c1, c2, hDl]) rfl ⟨ret_tb (x := (⟨#[]⟩, ⟨#[]⟩, 0)) (by rw [HK.out]; exact ⟨rfl, rfl⟩), ?_⟩
    exact ((hb2'.setCell (Nat.le_refl _) _).setCell (Nat.le_refl _) _).setCell (Nat.le_refl _) _

end Go.Proofs.Ytbcclfiopebmpaa
namespace Go.Proofs.Ytbcclfiopebmpaa
open Go.RowKit
set_option linter.unusedSimpArgs false

theorem rb_paths (z q x n ba y r : Bool) (h : r = ((z || q) && (x || (n && ba)) && (ba || y))) :
    (z = false ∧ q = false ∧ r = false) ∨
    ((z = true ∨ (z = false ∧ q = true)) ∧ ((x = false ∧ n = false ∧ r = false) ∨ (x = false ∧ n = true ∧ ba = false ∧ r = false) ∨ (x = false ∧ n = true ∧ ba = true ∧ r = true) ∨ (x = true ∧ ba = true ∧ r = true) ∨ (x = true ∧ ba = false ∧ r = y))) := by
  subst h
  cases z <;> cases q <;> cases x <;> cases n <;> cases ba <;> simp

set_option maxHeartbeats 4000000 in
theorem rBears_calls (bk bv : ByteArray) (ba : Bool) (be : Int) (tk tv : ByteArray) (te : Int) (w : World) : Calls Try.prog 62 #[.agg #[.string bk, .string bv, .bool ba, .int .i64 be], .agg #[.string tk, .string tv, .int .i64 te]] w fun e w' => e = .returned (.bool (bearsB (bk, bv, ba, be) (tk, tv, te))) ∧ Below w.heap.size w w' := by
  have HM : bearsB (bk, bv, ba, be) (tk, tv, te) = ((be == 0 || be == te) && ((bk.toList == tk.toList) || (bk.toList.isEmpty && ba)) && (ba || (bv.toList == tv.toList))) := rfl
  generalize bearsB (bk, bv, ba, be) (tk, tv, te) = r at HM ⊢
  obtain ⟨n, hn⟩ : ∃ n, bk.toList.isEmpty = n := ⟨_, rfl⟩
  obtain ⟨z, hz⟩ : ∃ z, (be == 0) = z := ⟨_, rfl⟩
  obtain ⟨q, hq⟩ : ∃ q, (be == te) = q := ⟨_, rfl⟩
  obtain ⟨x, hx⟩ : ∃ x, (bk.toList == tk.toList) = x := ⟨_, rfl⟩
  obtain ⟨y, hy⟩ : ∃ y, (bv.toList == tv.toList) = y := ⟨_, rfl⟩
  rw [hn, hz, hq, hx, hy] at HM
  have hz' : (be != 0) = !z := by rw [← hz]; rfl
  have hq' : (be != te) = !q := by rw [← hq]; rfl
  have HP := rb_paths z q x n ba y r HM
  clear HM hz hq
  rcases HP with ⟨rfl, rfl, rfl⟩ | ⟨rfl | ⟨rfl, rfl⟩, ⟨rfl, rfl, rfl⟩ | ⟨rfl, rfl, rfl, rfl⟩ | ⟨rfl, rfl, rfl, rfl⟩ | ⟨rfl, rfl, rfl⟩ | ⟨rfl, rfl, rfl⟩⟩ <;> (
    simp only [Bool.not_true, Bool.not_false] at hz' hq'
    go_enter Try.func62, Try.ntmps62
    go_wp2
    go_ret
    exact ⟨rfl, by go_grown⟩)
end Go.Proofs.Ytbcclfiopebmpaa
namespace Go.Proofs.Ytbcclfiopebmpaa
open Go.RowKit
set_option linter.unusedSimpArgs false

/-- What is borne lies in the row's place, the taint in its box; nothing that was there has turned. -/
def RbS (wB : World) (D E off k : Nat) (b : Bear) (t : Tnt) (u : World) : Prop :=
  Below wB.heap.size wB u ∧ u.cell? ⟨D, off + k * 4, none⟩ = some (.string b.1) ∧ u.cell? ⟨D, off + k * 4 + 1, none⟩ = some (.string b.2.1) ∧ u.cell? ⟨D, off + k * 4 + 2, none⟩ = some (.bool b.2.2.1) ∧ u.cell? ⟨D, off + k * 4 + 3, none⟩ = some (.int .i64 b.2.2.2) ∧
    u.cell? ⟨E, 0, none⟩ = some (.string t.1) ∧ u.cell? ⟨E, 1, none⟩ = some (.string t.2.1) ∧ u.cell? ⟨E, 2, none⟩ = some (.int .i64 t.2.2)
theorem RbS.to {wB u' : World} {D E off k : Nat} {b : Bear} {t : Tnt} (h : RbS wB D E off k b t wB) (hD : D < wB.heap.size) (hE : E < wB.heap.size) (hb : Below wB.heap.size wB u') : RbS wB D E off k b t u' := by
  obtain ⟨_, h1, h2, h3, h4, h5, h6, h7⟩ := h
  exact ⟨hb, (hb.cell hD).trans h1, (hb.cell hD).trans h2, (hb.cell hD).trans h3, (hb.cell hD).trans h4, (hb.cell hE).trans h5, (hb.cell hE).trans h6, (hb.cell hE).trans h7⟩

set_option maxHeartbeats 2000000 in
theorem rborne_calls (t : Tnt) (b : Option Addr) (capb : Nat) (B : List Bear) (w : World) (hB : Hid (BearsAt w b B)) : Calls Try.prog 50 #[.slice b B.length capb, .agg #[.string t.1, .string t.2.1, .int .i64 t.2.2]] w fun e w' => e = .returned (.bool (borneB B t)) ∧ Below w.heap.size w w' := by
  have hlen := hB.out.1
  have hb0 : Below w.heap.size w (w.alloc (.cells #[.string t.1, .string t.2.1, .int .i64 t.2.2] 70)) := by go_grown
  have hD := BoxT.new w 70 t
  have hB' : Hid (BearsAt (w.alloc (.cells #[.string t.1, .string t.2.1, .int .i64 t.2.2] 70)) b B) := hB.out.on hb0
  clear hB
  go_enter Try.func50, Try.ntmps50
  go_wp2_with fail
  generalize hwB : (w.alloc (.cells #[.string t.1, .string t.2.1, .int .i64 t.2.2] 70)) = w0 at hb0 hD hB'
  clear hwB
  generalize w.heap.size = E at hD
  go_loopw [5] (fun i wr => ∃ k : Nat, k ≤ B.length ∧ i = .int .i64 k ∧ Below w0.heap.size w0 wr ∧ Hid (∀ j, j < k → bearsB (B.getD j default) t = false)) (fun i _ => B.length - (intOf i).toNat)
  case atStart => exact ⟨0, Nat.zero_le _, rfl, Below.refl _ _, fun j hj => absurd hj (Nat.not_lt_zero _)⟩
  case round =>
    obtain ⟨k, hk, rfl, hbel, hall⟩ := hrel
    by_cases hlt : k < B.length
    · obtain ⟨D, off, rfl, hDl, c0, c1, c2, c3, ho⟩ := BearsAt.get hB'.out hlt
      clear ho
      have HB := rBears_calls (B.getD k default).1 (B.getD k default).2.1 (B.getD k default).2.2.1 (B.getD k default).2.2.2 t.1 t.2.1 t.2.2
      change ∀ w, Calls Try.prog 62 _ w fun e w' => e = .returned (.bool (bearsB (B.getD k default) t)) ∧ Below w.heap.size w w' at HB
      obtain ⟨wB, hwB⟩ : ∃ wB, wB = wr := ⟨_, rfl⟩
      have hDw : D < wB.heap.size := by rw [hwB]; exact Nat.lt_of_lt_of_le hDl hbel.size
      obtain ⟨hEl, ⟨e0, e1, e2⟩, _⟩ := hD.on hbel
      rw [← hwB] at hEl
      have HS : Hid (∀ {u : World}, Below wB.heap.size wB u → RbS wB D E off k (B.getD k default) t u) := fun hb => by
        refine RbS.to ?_ hDw hEl hb
        rw [hwB]
        exact ⟨Below.refl _ _, (hbel.cell hDl).trans c0, (hbel.cell hDl).trans c1, (hbel.cell hDl).trans c2, (hbel.cell hDl).trans c3, e0, e1, e2⟩
      clear c0 c1 c2 c3 e0 e1 e2
      have HG : Hid (bearsB (B.getD k default) t = false → ∀ j, j < k + 1 → bearsB (B.getD j default) t = false) := fun h j hj => by
        rcases Nat.lt_succ_iff_lt_or_eq.1 hj with h' | rfl
        · exact hall.out j h'
        · exact h
      have HF : Hid (bearsB (B.getD k default) t = true → borneB B t = true) := fun h => any_yes (p := fun b => bearsB b t) hlt h
      clear hall
      subst hwB
      generalize B.getD k default = bx at HB HS HG HF
      obtain ⟨kx, hkx⟩ : ∃ kx, kx = k := ⟨_, rfl⟩
      rw [← hkx] at HS
      cases hq : bearsB bx t
      · have HG' : Hid (∀ j, j < k + 1 → bearsB (B.getD j default) t = false) := HG.out hq
        rw [hq] at HB
        clear HG HF hq
        subst hkx
        go_wp2_with fail
        refine wp_region_noPanic ?_
        refine wp_region_held_drew (S := RbS wB D E off kx bx t) (by kernel_rfl) (HS.out (Below.refl _ _).drew) (fun hHeld => ?_)
        refine wpAnyH_take (i := 0) (v := ?va0) rfl (by kernel_rfl) (by kernel_rfl) (by kernel_rfl) (fun _ _ _ h => h) (Or.inl ⟨by rfl, ?hya0⟩) (by assumption) ?resta0
        case hya0 => (intro u hu; obtain ⟨_, _, _, _, _, _, _, _⟩ := hu; go_simp; try with_reducible rfl)
        try simp only [Act.put, List.setIfInBounds_toArray, List.set_cons_zero, List.set_cons_succ, List.getElem_toArray, List.getElem_cons_zero, List.getElem_cons_succ]
        refine wpAnyH_take (i := 1) (v := ?va1) rfl (by kernel_rfl) (by kernel_rfl) (by kernel_rfl) (fun _ _ _ h => h) (Or.inl ⟨by rfl, ?hya1⟩) (by assumption) ?resta1
        case hya1 => (intro u hu; obtain ⟨_, _, _, _, _, _, _, _⟩ := hu; go_simp; try with_reducible rfl)
        try simp only [Act.put, List.setIfInBounds_toArray, List.set_cons_zero, List.set_cons_succ, List.getElem_toArray, List.getElem_cons_zero, List.getElem_cons_succ]
        refine wpAnyH_take (i := 2) (v := ?va2) rfl (by kernel_rfl) (by kernel_rfl) (by kernel_rfl) (fun _ _ _ h => h) (Or.inl ⟨by rfl, ?hya2⟩) (by assumption) ?resta2
        case hya2 => (intro u hu; obtain ⟨_, _, _, _, _, _, _, _⟩ := hu; go_simp; try with_reducible rfl)
        try simp only [Act.put, List.setIfInBounds_toArray, List.set_cons_zero, List.set_cons_succ, List.getElem_toArray, List.getElem_cons_zero, List.getElem_cons_succ]
        refine wpAnyH_take (i := 3) (v := ?va3) rfl (by kernel_rfl) (by kernel_rfl) (by kernel_rfl) (fun _ _ _ h => h) (Or.inl ⟨by rfl, ?hya3⟩) (by assumption) ?resta3
        case hya3 => (intro u hu; obtain ⟨_, _, _, _, _, _, _, _⟩ := hu; go_simp; try with_reducible rfl)
        try simp only [Act.put, List.setIfInBounds_toArray, List.set_cons_zero, List.set_cons_succ, List.getElem_toArray, List.getElem_cons_zero, List.getElem_cons_succ]
        refine wpAnyH_take (i := 4) (v := ?va4) rfl (by kernel_rfl) (by kernel_rfl) (by kernel_rfl) (fun _ _ _ h => h) (Or.inl ⟨by rfl, ?hya4⟩) (by assumption) ?resta4
        case hya4 => (intro u hu; obtain ⟨_, _, _, _, _, _, _, _⟩ := hu; go_simp; try with_reducible rfl)
        try simp only [Act.put, List.setIfInBounds_toArray, List.set_cons_zero, List.set_cons_succ, List.getElem_toArray, List.getElem_cons_zero, List.getElem_cons_succ]
        refine wpAnyH_ready (rs := [5]) (by kernel_rfl) (by simp) ?_
        refine AllReadyH.cons rfl (fun K hK => ?_) AllReadyH.nil
        go_simp
        refine (HB _).mono ?_
        rintro e w1 ⟨rfl, hb1⟩
        go_wp2_with fail
        refine hK.out _ _ (HS.out (on2 hHeld.1 hb1)) (fun hHeld2 => ?_)
        clear hK K hHeld
        have hHeld := hHeld2
        clear hHeld2
        try simp only [Act.put, List.setIfInBounds_toArray, List.set_cons_zero, List.set_cons_succ, List.getElem_toArray, List.getElem_cons_zero, List.getElem_cons_succ]
        refine wpAnyH_done (by kernel_rfl) ?_ _
        refine NoPanic.normal ?_
        go_wp2_with fail
        go_roundw
        case rel => exact ⟨kx + 1, by omega, by go_num, on2 hbel hHeld.1, HG'⟩
        case measure => simp [intOf]; omega
      · have HF' : Hid (borneB B t = true) := HF.out hq
        rw [hq] at HB
        clear HG HF hq
        subst hkx
        go_wp2_with fail
        refine wp_region_noPanic ?_
        refine wp_region_held_drew (S := RbS wB D E off kx bx t) (by kernel_rfl) (HS.out (Below.refl _ _).drew) (fun hHeld => ?_)
        refine wpAnyH_take (i := 0) (v := ?vb0) rfl (by kernel_rfl) (by kernel_rfl) (by kernel_rfl) (fun _ _ _ h => h) (Or.inl ⟨by rfl, ?hyb0⟩) (by assumption) ?restb0
        case hyb0 => (intro u hu; obtain ⟨_, _, _, _, _, _, _, _⟩ := hu; go_simp; try with_reducible rfl)
        try simp only [Act.put, List.setIfInBounds_toArray, List.set_cons_zero, List.set_cons_succ, List.getElem_toArray, List.getElem_cons_zero, List.getElem_cons_succ]
        refine wpAnyH_take (i := 1) (v := ?vb1) rfl (by kernel_rfl) (by kernel_rfl) (by kernel_rfl) (fun _ _ _ h => h) (Or.inl ⟨by rfl, ?hyb1⟩) (by assumption) ?restb1
        case hyb1 => (intro u hu; obtain ⟨_, _, _, _, _, _, _, _⟩ := hu; go_simp; try with_reducible rfl)
        try simp only [Act.put, List.setIfInBounds_toArray, List.set_cons_zero, List.set_cons_succ, List.getElem_toArray, List.getElem_cons_zero, List.getElem_cons_succ]
        refine wpAnyH_take (i := 2) (v := ?vb2) rfl (by kernel_rfl) (by kernel_rfl) (by kernel_rfl) (fun _ _ _ h => h) (Or.inl ⟨by rfl, ?hyb2⟩) (by assumption) ?restb2
        case hyb2 => (intro u hu; obtain ⟨_, _, _, _, _, _, _, _⟩ := hu; go_simp; try with_reducible rfl)
        try simp only [Act.put, List.setIfInBounds_toArray, List.set_cons_zero, List.set_cons_succ, List.getElem_toArray, List.getElem_cons_zero, List.getElem_cons_succ]
        refine wpAnyH_take (i := 3) (v := ?vb3) rfl (by kernel_rfl) (by kernel_rfl) (by kernel_rfl) (fun _ _ _ h => h) (Or.inl ⟨by rfl, ?hyb3⟩) (by assumption) ?restb3
        case hyb3 => (intro u hu; obtain ⟨_, _, _, _, _, _, _, _⟩ := hu; go_simp; try with_reducible rfl)
        try simp only [Act.put, List.setIfInBounds_toArray, List.set_cons_zero, List.set_cons_succ, List.getElem_toArray, List.getElem_cons_zero, List.getElem_cons_succ]
        refine wpAnyH_take (i := 4) (v := ?vb4) rfl (by kernel_rfl) (by kernel_rfl) (by kernel_rfl) (fun _ _ _ h => h) (Or.inl ⟨by rfl, ?hyb4⟩) (by assumption) ?restb4
        case hyb4 => (intro u hu; obtain ⟨_, _, _, _, _, _, _, _⟩ := hu; go_simp; try with_reducible rfl)
        try simp only [Act.put, List.setIfInBounds_toArray, List.set_cons_zero, List.set_cons_succ, List.getElem_toArray, List.getElem_cons_zero, List.getElem_cons_succ]
        refine wpAnyH_ready (rs := [5]) (by kernel_rfl) (by simp) ?_
        refine AllReadyH.cons rfl (fun K hK => ?_) AllReadyH.nil
        go_simp
        refine (HB _).mono ?_
        rintro e w1 ⟨rfl, hb1⟩
        go_wp2_with fail
        refine hK.out _ _ (HS.out (on2 hHeld.1 hb1)) (fun hHeld2 => ?_)
        clear hK K hHeld
        have hHeld := hHeld2
        clear hHeld2
        try simp only [Act.put, List.setIfInBounds_toArray, List.set_cons_zero, List.set_cons_succ, List.getElem_toArray, List.getElem_cons_zero, List.getElem_cons_succ]
        refine wpAnyH_done (by kernel_rfl) ?_ _
        refine NoPanic.normal ?_
        go_wp2_with fail
        go_ret
        exact ⟨retb HF'.out.symm, on2 hb0 (on2 hbel hHeld.1)⟩
    · have HF : Hid (borneB B t = false) := any_no (p := fun b => bearsB b t) (fun j hj => hall.out j (by omega))
      clear hall
      go_wp2_with fail
      go_ret
      exact ⟨retb HF.out.symm, on2 hb0 hbel⟩

set_option maxHeartbeats 2000000 in
theorem rKept_calls (a : Option Addr) (cap : Nat) (L : List Tnt) (b : Option Addr) (capb : Nat) (B : List Bear) (w : World) (hL : Hid (TntsAt w a L)) (hB : Hid (BearsAt w b B)) :
    Calls Try.prog 26 #[.slice a L.length cap, .slice b B.length capb] w fun e w' => e = .returned (.tuple #[.agg #[.string (keptT L B).1.1, .string (keptT L B).1.2.1, .int .i64 (keptT L B).1.2.2], .bool (keptT L B).2]) ∧ Below w.heap.size w w' := by
  have hlen := hL.out.1
  have hb0 : Below w.heap.size w (w.alloc (.cells #[.string ⟨#[]⟩, .string ⟨#[]⟩, .int .i64 0] 70)) := by go_grown
  have hD := BoxT.new w 70 (⟨#[]⟩, ⟨#[]⟩, 0)
  have hL' : Hid (∀ {u : World}, Below w.heap.size w u → TntsAt u a L) := fun h => hL.out.on h
  have hB' : Hid (∀ {u : World}, Below w.heap.size w u → BearsAt u b B) := fun h => hB.out.on h
  clear hL hB
  go_enter Try.func26, Try.ntmps26
  go_wp2_with fail
  generalize hwB : (w.alloc (.cells #[.string ⟨#[]⟩, .string ⟨#[]⟩, .int .i64 0] 70)) = w0 at hb0 hD
  clear hwB
  go_loopw [6] (fun i wr => ∃ k : Nat, k ≤ L.length ∧ i = .int .i64 k ∧ Below w0.heap.size w0 wr ∧ Hid (∀ j, j < k → openT 1 B (L.getD j default) = false)) (fun i _ => L.length - (intOf i).toNat)
  case atStart => exact ⟨0, Nat.zero_le _, rfl, Below.refl _ _, fun j hj => absurd hj (Nat.not_lt_zero _)⟩
  case round =>
    obtain ⟨k, hk, rfl, hbel, hall⟩ := hrel
    have hbw := on2 hb0 hbel
    by_cases hlt : k < L.length
    · obtain ⟨BB, off, rfl, hBB, d0, d1, d2, ho⟩ := TntsAt.get (hL'.out hbw) hlt
      clear ho
      have hBn : Hid (BB < w.heap.size) := by
        obtain ⟨B2, off2, e2, hB2, _⟩ := TntsAt.get (hL'.out (Below.refl _ w)) hlt
        obtain ⟨rfl, _⟩ : BB = B2 ∧ off = off2 := by simpa using e2
        exact hB2
      have HB := rborne_calls (L.getD k default) b capb B wr (hB'.out hbw)
      have HG : Hid (openT 1 B (L.getD k default) = false → ∀ j, j < k + 1 → openT 1 B (L.getD j default) = false) := fun h j hj => by
        rcases Nat.lt_succ_iff_lt_or_eq.1 hj with h' | rfl
        · exact hall.out j h'
        · exact h
      have HF : Hid (openT 1 B (L.getD k default) = true → keptT L B = (L.getD k default, true)) := fun h => keptT_yes hlt hall.out h
      have HO : Hid (openT 1 B (L.getD k default) = (((L.getD k default).2.2 == 1) && !borneB B (L.getD k default))) := rfl
      clear hall
      generalize L.getD k default = x at d0 d1 d2 HB HG HF HO
      cases hq : (x.2.2 == 1)
      · have HG' : Hid (∀ j, j < k + 1 → openT 1 B (L.getD j default) = false) := HG.out (by rw [HO.out, hq]; rfl)
        clear HG HF HO HB
        go_wp2_with fail
        go_roundw
        case rel => exact ⟨k + 1, by omega, by go_num, hbel, HG'⟩
        case measure => simp [intOf]; omega
      · cases hr : borneB B x
        · have HF' : Hid (keptT L B = (x, true)) := HF.out (by rw [HO.out, hq, hr]; rfl)
          rw [hr] at HB
          clear HG HF HO hr
          go_wp2_with fail
          refine HB.mono ?_
          rintro e w2 ⟨rfl, hb2⟩
          obtain ⟨hDl, ⟨c0, c1, c2⟩, f0, f1, f2⟩ := hD.on (on2 hbel hb2)
          have g0 := (hb2.cell (p := ⟨BB, off + k * 3, none⟩) hBB).trans d0
          have g1 := (hb2.cell (p := ⟨BB, off + k * 3 + 1, none⟩) hBB).trans d1
          have g2 := (hb2.cell (p := ⟨BB, off + k * 3 + 2, none⟩) hBB).trans d2
          have hne : BB ≠ w.heap.size := by have := hBn.out; omega
          clear d0 d1 d2 HB
          go_wp2_with fail
          refine bodyPost_ret (v := .tuple #[.agg #[.string x.1, .string x.2.1, .int .i64 x.2.2], .bool true]) (by simp [results, Try.results26, go_sem, c0, c1, c2, hDl]) rfl ⟨ret_tb (x := x) (by rw [HF'.out]; exact ⟨rfl, rfl⟩), ?_⟩
          exact (((on2 hbw hb2).setCell (Nat.le_refl _) _).setCell (Nat.le_refl _) _).setCell (Nat.le_refl _) _
        · have HG' : Hid (∀ j, j < k + 1 → openT 1 B (L.getD j default) = false) := HG.out (by rw [HO.out, hq, hr]; rfl)
          rw [hr] at HB
          clear HG HF HO hr
          go_wp2_with fail
          refine HB.mono ?_
          rintro e w2 ⟨rfl, hb2⟩
          clear HB
          go_wp2_with fail
          go_roundw
          case rel => exact ⟨k + 1, by omega, by go_num, on2 hbel hb2, HG'⟩
          case measure => simp [intOf]; omega
    · have HK : Hid (keptT L B = (default, false)) := keptT_no (fun j hj => hall.out j (by omega))
      obtain ⟨hDl, ⟨c0, c1, c2⟩, f0, f1, f2⟩ := hD.on hbel
      clear hall
      go_wp2_with fail
      refine bodyPost_ret (v := .tuple #[.agg #[.string ⟨#[]⟩, .string ⟨#[]⟩, .int .i64 0], .bool false]) (by simp [results, Try.results26, go_sem, c0, c1, c2, hDl]) rfl ⟨ret_tb (x := (⟨#[]⟩, ⟨#[]⟩, 0)) (by rw [HK.out]; exact ⟨rfl, rfl⟩), ?_⟩
      exact ((hbw.setCell (Nat.le_refl _) _).setCell (Nat.le_refl _) _).setCell (Nat.le_refl _) _

end Go.Proofs.Ytbcclfiopebmpaa
