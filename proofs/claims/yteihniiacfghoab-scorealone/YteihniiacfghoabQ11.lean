/- taint.borne, unborne and hasTwin: what is looked for by a function that is handed in comes out as the plain functions say. Condition: the slices hold what is said of them. taint.Kept and taint.Shy return what the plain functions say, and change nothing that was there. Condition: the slices hold what is said of them. The document's own Bears returns what the plain function says, and changes nothing that was there. No condition. The document's own borne, Kept and Shy return what the plain functions say, and change nothing that was there. Condition: the slices hold what is said of them. Slices of texts, labels and what is asked, told in the words of layer 2; calls of layers 2 and 3 over them. Plain facts on worlds. No condition. Shy and Match, over lists as they lie in structs. Condition: the lists lie as is said of them. Calm, by the document. Condition: what is handed in lies as is said of it. Liked, by the document. Condition: what is handed in lies as is said of it. shied and liking, by the program. Condition: what is handed in lies as is said of it. each, and the function that it hands back. Condition: what is handed in lies as is said of it, and what is asked of each info answers. slices.Index and slices.Contains at texts and at numbers tell whether it is in a list, and change nothing; slices.IndexFunc and slices.ContainsFunc at numbers, over a function that answers as is said of it. Condition: the slice lies as is said of it. -/
import Derived.Test.YteihniiacfghoabQ10
import Derived.Shelf.Abstract
import Derived.Test.YteihniiacfghoabQ02
import Derived.Test.YteihniiacfghoabQ07
import Derived.Test.YteihniiacfghoabQ04
namespace Go.Proofs.Yteihniiacfghoab
open Go.RowKit Go.Shelf
set_option linter.unusedSimpArgs false

/-- Block D holds a taint, and may be written. -/
def BoxT (u : World) (D : Nat) (x : Tnt) : Prop :=
  D < u.heap.size ∧ (u.cell? ⟨D, 0, none⟩ = some (.string x.1) ∧ u.cell? ⟨D, 1, none⟩ = some (.string x.2.1) ∧ u.cell? ⟨D, 2, none⟩ = some (.int .i64 x.2.2)) ∧ u.frozen? ⟨D, 0, none⟩ = false ∧ u.frozen? ⟨D, 1, none⟩ = false ∧ u.frozen? ⟨D, 2, none⟩ = false
theorem BoxT.on {u u' : World} {D : Nat} {x : Tnt} (h : BoxT u D x) (hb : Below u.heap.size u u') : BoxT u' D x := by
  obtain ⟨hB, ⟨h0, h1, h2⟩, f0, f1, f2⟩ := h
  exact ⟨Nat.lt_of_lt_of_le hB hb.size, ⟨(hb.cell hB).trans h0, (hb.cell hB).trans h1, (hb.cell hB).trans h2⟩, (hb.frozen hB).trans f0, (hb.frozen hB).trans f1, (hb.frozen hB).trans f2⟩
theorem BoxT.new (u : World) (t : TypeId) (x : Tnt) : BoxT (u.alloc (.cells #[.string x.1, .string x.2.1, .int .i64 x.2.2] t)) u.heap.size x :=
  ⟨by simp, ⟨by simp [go_sem], by simp [go_sem], by simp [go_sem]⟩, by simp [go_sem], by simp [go_sem], by simp [go_sem]⟩

theorem enters41 : ∀ args w, (callFunc 44 args).run Try.prog w = .ok (.enter 44 args) w := enters_of Try.func44 (by kernel_rfl) rfl
theorem enters37 : ∀ args w, (callFunc 39 args).run Try.prog w = .ok (.enter 39 args) w := enters_of Try.func39 (by kernel_rfl) rfl
theorem bornePred (t : Tnt) (D : Nat) (w : World) (hD : BoxT w D t) : PredB 44 #[.pointer (some ⟨D, 0, none⟩)] (fun b => bearsB b t) w := fun W x hb => by
  obtain ⟨hDl, ⟨c0, c1, c2⟩, _⟩ := hD
  have d0 := (hb.cell (p := ⟨D, 0, none⟩) hDl).trans c0
  have d1 := (hb.cell (p := ⟨D, 1, none⟩) hDl).trans c1
  have d2 := (hb.cell (p := ⟨D, 2, none⟩) hDl).trans c2
  have hDW : D < W.heap.size := by have := hb.size; omega
  have hne : D ≠ W.heap.size := by omega
  have HB := Bears_calls x.1 x.2.1 x.2.2.1 x.2.2.2 t.1 t.2.1 t.2.2
  show Calls Try.prog 44 #[.agg #[.string x.1, .string x.2.1, .bool x.2.2.1, .int .i64 x.2.2.2], .pointer (some ⟨D, 0, none⟩)] W fun e w' => e = .returned (.bool (bearsB x t)) ∧ Below W.heap.size W w'
  change ∀ w, Calls Try.prog 45 _ w fun e w' => e = .returned (.bool (bearsB x t)) ∧ Below w.heap.size w w' at HB
  generalize bearsB x t = r at HB ⊢
  clear c0 c1 c2
  go_enter Try.func44, Try.ntmps44
  go_wp2_with fail
  refine (HB _).mono ?_
  rintro e w1 ⟨rfl, hb1⟩
  go_wp2_with fail
  go_ret
  exact ⟨rfl, on2 (by go_grown) hb1⟩

theorem borne_calls (t : Tnt) (a : Option Addr) (cap : Nat) (L : List Bear) (w : World) (hL : Hid (BearsAt w a L)) : Calls Try.prog 40 #[.agg #[.string t.1, .string t.2.1, .int .i64 t.2.2], .slice a L.length cap] w fun e w' => e = .returned (.bool (borneB L t)) ∧ Below w.heap.size w w' := by
  have hb0 : Below w.heap.size w (w.alloc (.cells #[.string t.1, .string t.2.1, .int .i64 t.2.2] 77)) := by go_grown
  have hC := ContainsB_calls a cap L (w.alloc (.cells #[.string t.1, .string t.2.1, .int .i64 t.2.2] 77)) (hL.out.on hb0) (fun b => bearsB b t) 44 #[.pointer (some ⟨w.heap.size, 0, none⟩)] enters41 (bornePred t w.heap.size _ (BoxT.new w _ t))
  change Calls Try.prog _ _ _ fun e w' => e = .returned (.bool (borneB L t)) ∧ _ at hC
  generalize borneB L t = r at hC ⊢
  go_enter Try.func40, Try.ntmps40
  go_wp2_with fail
  refine hC.mono ?_
  rintro e w1 ⟨rfl, hb1⟩
  go_wp2_with fail
  go_ret
  exact ⟨rfl, on2 hb0 hb1⟩

theorem unbornePred (e : Int) (a : Option Addr) (cap : Nat) (L : List Bear) (D E : Nat) (w : World) (hD : D < w.heap.size) (hE : E < w.heap.size) (cD : w.cell? ⟨D, 0, none⟩ = some (.int .i64 e)) (cE : w.cell? ⟨E, 0, none⟩ = some (.slice a L.length cap)) (hL : BearsAt w a L) :
    PredT 39 #[.pointer (some ⟨D, 0, none⟩), .pointer (some ⟨E, 0, none⟩)] (openT e L) w := fun W x hb => by
  have d0 := (hb.cell (p := ⟨D, 0, none⟩) hD).trans cD
  have d1 := (hb.cell (p := ⟨E, 0, none⟩) hE).trans cE
  have hDW : D < W.heap.size := by have := hb.size; omega
  have hEW : E < W.heap.size := by have := hb.size; omega
  have hne : D ≠ W.heap.size := by omega
  have hne' : E ≠ W.heap.size := by omega
  have hb0 : Below W.heap.size W (W.alloc (.cells #[.string x.1, .string x.2.1, .int .i64 x.2.2] 77)) := by go_grown
  have HB := borne_calls x a cap L (W.alloc (.cells #[.string x.1, .string x.2.1, .int .i64 x.2.2] 77)) (hL.on (hb.trans (hb0.mono hb.size)))
  show Calls Try.prog 39 #[.agg #[.string x.1, .string x.2.1, .int .i64 x.2.2], .pointer (some ⟨D, 0, none⟩), .pointer (some ⟨E, 0, none⟩)] W fun r w' => r = .returned (.bool ((x.2.2 == e) && !borneB L x)) ∧ Below W.heap.size W w'
  generalize borneB L x = r at HB ⊢
  clear cD cE
  cases hq : (x.2.2 == e)
  · go_enter Try.func39, Try.ntmps39
    go_wp2_with fail
    go_ret
    exact ⟨rfl, hb0⟩
  · go_enter Try.func39, Try.ntmps39
    go_wp2_with fail
    refine HB.mono ?_
    rintro e w1 ⟨rfl, hb1⟩
    go_wp2_with fail
    go_ret
    exact ⟨rfl, on2 hb0 hb1⟩

theorem unborne_calls (e : Int) (a : Option Addr) (cap : Nat) (L : List Bear) (w : World) (hL : Hid (BearsAt w a L)) : Calls Try.prog 33 #[.int .i64 e, .slice a L.length cap] w fun r w' => ∃ lb, r = .returned (.func (.func 39) #[] lb) ∧ PredT 39 lb (openT e L) w' ∧ Below w.heap.size w w' := by
  have hb0 : Below w.heap.size w ((w.alloc (.cells #[.int .i64 e] 3)).alloc (.cells #[.slice a L.length cap] 25)) := by go_grown
  have HP := unbornePred e a cap L w.heap.size (w.heap.size + 1) ((w.alloc (.cells #[.int .i64 e] 3)).alloc (.cells #[.slice a L.length cap] 25)) (by simp; omega) (by simp) (by simp [go_sem]) (by simp [go_sem]) (hL.out.on hb0)
  have HP' : Hid (PredT 39 #[.pointer (some ⟨w.heap.size, 0, none⟩), .pointer (some ⟨w.heap.size + 1, 0, none⟩)] (openT e L) ((w.alloc (.cells #[.int .i64 e] 3)).alloc (.cells #[.slice a L.length cap] 25))) := HP
  clear HP
  go_enter Try.func33, Try.ntmps33
  go_wp2_with fail
  go_ret
  exact ⟨_, rfl, HP'.out, hb0⟩

theorem twin_eq (x t : Tnt) : tEq (x.1, t.2.1, x.2.2) t = (sEq x.1 t.1 && (x.2.2 == t.2.2)) := by simp [tEq, sEq_self]
end Go.Proofs.Yteihniiacfghoab
namespace Go.Proofs.Yteihniiacfghoab
open Go.RowKit
set_option linter.unusedSimpArgs false

theorem ret_tb {x y : Tnt} {b c : Bool} (h : x = y ∧ b = c) : Ending.returned (.tuple #[.agg #[.string x.1, .string x.2.1, .int .i64 x.2.2], .bool b]) = .returned (.tuple #[.agg #[.string y.1, .string y.2.1, .int .i64 y.2.2], .bool c]) := by rw [h.1, h.2]
theorem keptT_no {L : List Tnt} {B : List Bear} (h : ∀ j, j < L.length → openT 1 B (L.getD j default) = false) : keptT L B = (default, false) := by
  unfold keptT; rw [find_no h]
theorem keptT_yes {L : List Tnt} {B : List Bear} {k : Nat} (hk : k < L.length) (h : ∀ j, j < k → openT 1 B (L.getD j default) = false) (hy : openT 1 B (L.getD k default) = true) : keptT L B = (L.getD k default, true) := by
  unfold keptT; rw [find_yes hk h hy]
theorem wrap_nat {n : Nat} (h : n ≤ 140737488355328) : IntKind.i64.wrap ((n : Int) + 1) = ((n + 1 : Nat) : Int) := by simp [IntKind.wrap, IntKind.bits, IntKind.signed]; omega

set_option maxHeartbeats 2000000 in
theorem Shy_calls (a : Option Addr) (cap : Nat) (L : List Tnt) (b : Option Addr) (capb : Nat) (B : List Bear) (w : World) (hL : Hid (TntsAt w a L)) (hB : Hid (BearsAt w b B)) :
    Calls Try.prog 27 #[.slice a L.length cap, .slice b B.length capb] w fun e w' => e = .returned (.int .i64 (shyN L B : Nat)) ∧ Below w.heap.size w w' := by
  have hlen := hL.out.1
  have hU := unborne_calls 2 b capb B w hB
  have eg := enters37
  clear hB
  go_enter Try.func27, Try.ntmps27
  go_wp2_with fail
  refine hU.mono ?_
  rintro e w1 ⟨lb, rfl, hP, hb1⟩
  have hP' : Hid (PredT 39 lb (openT 2 B) w1) := hP
  clear hP hU
  go_wp2_with fail
  go_loopw [6, 13] (fun s i wr => ∃ k : Nat, k ≤ L.length ∧ i = .int .i64 k ∧ s = .int .i64 ((L.take k).countP (openT 2 B) : Nat) ∧ Below w1.heap.size w1 wr) (fun _ i _ => L.length - (intOf i).toNat)
  case atStart => exact ⟨0, Nat.zero_le _, rfl, rfl, Below.refl _ _⟩
  case round =>
    obtain ⟨k, hk, rfl, rfl, hbel⟩ := hrel
    by_cases hlt : k < L.length
    · obtain ⟨BB, off, rfl, hBB, c0, c1, c2, ho⟩ := TntsAt.get hL.out hlt
      clear ho
      have hbw := on2 hb1 hbel
      have d0 := (hbw.cell (p := ⟨BB, off + k * 3, none⟩) hBB).trans c0
      have d1 := (hbw.cell (p := ⟨BB, off + k * 3 + 1, none⟩) hBB).trans c1
      have d2 := (hbw.cell (p := ⟨BB, off + k * 3 + 2, none⟩) hBB).trans c2
      clear c0 c1 c2
      have hcs := count_step (p := openT 2 B) hlt
      have hcl : (L.take k).countP (openT 2 B) ≤ k := count_le
      obtain ⟨m, hm⟩ : ∃ m, (L.take k).countP (openT 2 B) = m := ⟨_, rfl⟩
      have hcall := hP'.out (wr.alloc (.cells #[.string (L.getD k default).1, .string (L.getD k default).2.1, .int .i64 (L.getD k default).2.2] 77)) (L.getD k default) (on2 hbel (by go_grown))
      rw [hm] at hcs hcl ⊢
      have hwr := wrap_nat (n := m) (by omega)
      cases hq : openT 2 B (L.getD k default)
      · rw [hq] at hcs hcall
        have HC : Hid ((L.take (k + 1)).countP (openT 2 B) = m) := hcs
        clear hq hcs hm
        generalize L.getD k default = x at d0 d1 d2 hcall
        go_wp2_with fail
        refine hcall.mono ?_
        rintro e w2 ⟨rfl, hb2⟩
        go_wp2_with fail
        go_roundw
        case rel => exact ⟨k + 1, by omega, by go_num, by rw [HC.out], on2 hbel (on2 (by go_grown) hb2)⟩
        case measure => simp [intOf]; omega
      · rw [hq] at hcs hcall
        have HC : Hid ((L.take (k + 1)).countP (openT 2 B) = m + 1) := hcs
        clear hq hcs hm
        generalize L.getD k default = x at d0 d1 d2 hcall
        go_wp2_with fail
        refine hcall.mono ?_
        rintro e w2 ⟨rfl, hb2⟩
        go_wp2_with fail
        go_roundw
        case rel => exact ⟨k + 1, by omega, by go_num, by rw [HC.out]; rfl, on2 hbel (on2 (by go_grown) hb2)⟩
        case measure => simp [intOf]; omega
    · have HC : Hid ((L.take k).countP (openT 2 B) = shyN L B) := by rw [Hid, shyN, List.take_of_length_le (by omega)]
      rw [HC.out]
      go_wp2_with fail
      go_ret
      exact ⟨rfl, on2 hb1 hbel⟩
end Go.Proofs.Yteihniiacfghoab
namespace Go.Proofs.Yteihniiacfghoab
open Go.RowKit
set_option linter.unusedSimpArgs false

theorem rb_paths (z q x n ba y r : Bool) (h : r = ((z || q) && (x || (n && ba)) && (ba || y))) :
    (z = false ∧ q = false ∧ r = false) ∨
    ((z = true ∨ (z = false ∧ q = true)) ∧ ((x = false ∧ n = false ∧ r = false) ∨ (x = false ∧ n = true ∧ ba = false ∧ r = false) ∨ (x = false ∧ n = true ∧ ba = true ∧ r = true) ∨ (x = true ∧ ba = true ∧ r = true) ∨ (x = true ∧ ba = false ∧ r = y))) := by
  subst h
  cases z <;> cases q <;> cases x <;> cases n <;> cases ba <;> simp

end Go.Proofs.Yteihniiacfghoab
namespace Go.Proofs.Yteihniiacfghoab
open Go.RowKit
set_option linter.unusedSimpArgs false

/-- What is borne lies in the row's place, the taint in its box; nothing that was there has turned. -/
def RbS (wB : World) (D E off k : Nat) (b : Bear) (t : Tnt) (u : World) : Prop :=
  Below wB.heap.size wB u ∧ u.cell? ⟨D, off + k * 4, none⟩ = some (.string b.1) ∧ u.cell? ⟨D, off + k * 4 + 1, none⟩ = some (.string b.2.1) ∧ u.cell? ⟨D, off + k * 4 + 2, none⟩ = some (.bool b.2.2.1) ∧ u.cell? ⟨D, off + k * 4 + 3, none⟩ = some (.int .i64 b.2.2.2) ∧
    u.cell? ⟨E, 0, none⟩ = some (.string t.1) ∧ u.cell? ⟨E, 1, none⟩ = some (.string t.2.1) ∧ u.cell? ⟨E, 2, none⟩ = some (.int .i64 t.2.2)
theorem RbS.to {wB u' : World} {D E off k : Nat} {b : Bear} {t : Tnt} (h : RbS wB D E off k b t wB) (hD : D < wB.heap.size) (hE : E < wB.heap.size) (hb : Below wB.heap.size wB u') : RbS wB D E off k b t u' := by
  obtain ⟨_, h1, h2, h3, h4, h5, h6, h7⟩ := h
  exact ⟨hb, (hb.cell hD).trans h1, (hb.cell hD).trans h2, (hb.cell hD).trans h3, (hb.cell hD).trans h4, (hb.cell hE).trans h5, (hb.cell hE).trans h6, (hb.cell hE).trans h7⟩

end Go.Proofs.Yteihniiacfghoab
namespace Go.Proofs.Yteihniiacfghoab
open Go.RowKit
set_option linter.unusedSimpArgs false
set_option maxRecDepth 100000

theorem strs_of {A : Where} {w : World} {a : Option Addr} {n cap : Nat} {L : List ByteArray} (h : SlAt RStr 1 16 A w a n cap L) : StrsAt w a L := by
  have hl := h.len (by decide)
  obtain ⟨hn, h2, h3, h4, h5⟩ := h
  refine ⟨by omega, fun x hx => ?_, fun hne => ?_⟩
  · obtain ⟨i, hi, rfl⟩ := List.mem_iff_getElem.1 hx
    obtain ⟨B, off, _, _, _, hc⟩ := h5 (by omega)
    obtain ⟨cs, hr, _⟩ := hc i (by omega)
    have := hr.2
    rwa [getE _ _ hi] at this
  · have hpos : 0 < n := by have := List.length_pos_iff.2 hne; omega
    obtain ⟨B, off, e, hB, _, hc⟩ := h5 hpos
    refine ⟨B, off, e, hB, fun i hi => ?_⟩
    obtain ⟨cs, ⟨rfl, _⟩, hv⟩ := hc i (by omega)
    have := hv 0 _ rfl
    simpa using this
theorem labs_of {A : Where} {w : World} {a : Option Addr} {n cap : Nat} {L : List Lab} (h : SlAt RLabel 2 32 A w a n cap L) : LabsAt w a L := by
  have hl := h.len (by decide)
  obtain ⟨hn, h2, h3, h4, h5⟩ := h
  refine ⟨by omega, fun x hx => ?_, fun hne => ?_⟩
  · obtain ⟨i, hi, rfl⟩ := List.mem_iff_getElem.1 hx
    obtain ⟨B, off, _, _, _, hc⟩ := h5 (by omega)
    obtain ⟨cs, hr, _⟩ := hc i (by omega)
    have := hr.out.2
    rwa [getE _ _ hi] at this
  · have hpos : 0 < n := by have := List.length_pos_iff.2 hne; omega
    obtain ⟨B, off, e, hB, _, hc⟩ := h5 hpos
    refine ⟨B, off, e, hB, fun i hi => ?_⟩
    obtain ⟨cs, hr, hv⟩ := hc i (by omega)
    obtain ⟨rfl, _⟩ := hr.out
    exact ⟨hv 0 _ rfl, hv 1 _ rfl⟩
theorem asks_of {A : Where} {w : World} {a : Option Addr} {n cap : Nat} {L : List Ask} (h : SlAt RReq 3 48 A w a n cap L) : AsksAt w a L := by
  have hl := h.len (by decide)
  obtain ⟨hn, h2, h3, h4, h5⟩ := h
  refine ⟨by omega, fun x hx => ?_, fun hne => ?_⟩
  · obtain ⟨i, hi, rfl⟩ := List.mem_iff_getElem.1 hx
    obtain ⟨B, off, _, _, _, hc⟩ := h5 (by omega)
    obtain ⟨cs, hr, _⟩ := hc i (by omega)
    obtain ⟨_, _, this, _⟩ := hr.out
    rwa [getE _ _ hi] at this
  · have hpos : 0 < n := by have := List.length_pos_iff.2 hne; omega
    obtain ⟨B, off, e, hB, _, hc⟩ := h5 hpos
    refine ⟨B, off, e, hB, fun i hi => ?_⟩
    obtain ⟨cs, hr, hv⟩ := hc i (by omega)
    obtain ⟨hd, rfl, _, hs⟩ := hr.out
    refine ⟨hv 0 _ rfl, hv 1 _ rfl, hd.1, hd.2.2, ?_, strs_of hs⟩
    have := hv 2 _ rfl
    rw [← hs.1] at this
    exact this
theorem Match_sl (a : Option Addr) (n cap : Nat) (A : Where) (L : List Lab) (b : Option Addr) (m capb : Nat) (A' : Where) (R : List Ask) (w : World) (hL : Hid (SlAt RLabel 2 32 A w a n cap L)) (hR : Hid (SlAt RReq 3 48 A' w b m capb R)) : Calls Try.prog 28 #[.slice a n cap, .slice b m capb] w fun e w' => e = .returned (.bool (matchL L R)) ∧ Below w.heap.size w w' := by
  have h := Match_calls a cap L b capb R w (labs_of hL.out) (asks_of hR.out)
  rw [hL.out.1, hR.out.1] at h
  exact h
end Go.Proofs.Yteihniiacfghoab
namespace Go.Proofs.Yteihniiacfghoab
open Go.RowKit
set_option linter.unusedSimpArgs false

theorem Shy_sl (a : Option Addr) (n cap : Nat) (A : Where) (L : List Tnt) (b : Option Addr) (m capb : Nat) (A' : Where) (R : List Bear) (w : World) (hL : Hid (SlAt RTaint 3 40 A w a n cap L)) (hR : Hid (SlAt RBear 4 48 A' w b m capb R)) : Calls Try.prog 27 #[.slice a n cap, .slice b m capb] w fun e w' => e = .returned (.int .i64 (shyN L R : Nat)) ∧ Below w.heap.size w w' := by
  have h := Shy_calls a cap L b capb R w (tnts_of hL.out) (bears_of hR.out)
  rw [hL.out.1, hR.out.1] at h
  exact h
end Go.Proofs.Yteihniiacfghoab
namespace Go.Proofs.Yteihniiacfghoab
open Go.RowKit Go.Maps
set_option linter.unusedSimpArgs false
set_option maxRecDepth 100000

end Go.Proofs.Yteihniiacfghoab
namespace Go.Proofs.Yteihniiacfghoab
open Go.RowKit Go.Maps
set_option linter.unusedSimpArgs false
set_option maxRecDepth 100000

theorem like_snoc (L : List Lab) (P : List PreferD) {k : Nat} (hk : k < P.length) : likeS L (P.take (k + 1)) = IntKind.i64.wrap (likeS L (P.take k) + like1 L (P.getD k default)) := by
  rw [← take_at hk]; unfold likeS; rw [List.foldl_append]; rfl
theorem like1_in (L : List Lab) (x : PreferD) : 0 ≤ like1 L x ∧ like1 L x ≤ 1073741824 := by
  unfold like1; split
  · exact ⟨clipZ_ge (by decide) _, clipZ_le (by decide) _⟩
  · omega
theorem likeS_in (L : List Lab) (P : List PreferD) : ∀ k, k ≤ P.length → -9223372036854775808 ≤ likeS L (P.take k) ∧ likeS L (P.take k) ≤ 9223372036854775807
  | 0, _ => by rw [List.take_zero]; exact ⟨(by decide : (-9223372036854775808 : Int) ≤ 0), (by decide : (0 : Int) ≤ 9223372036854775807)⟩
  | k + 1, h => by
    rw [like_snoc L P (by omega)]
    exact Go.wrap_within .i64 _
end Go.Proofs.Yteihniiacfghoab
namespace Go.Proofs.Yteihniiacfghoab
open Go.RowKit Go.Maps
set_option linter.unusedSimpArgs false
set_option maxRecDepth 100000

set_option maxHeartbeats 2000000 in
theorem shied_calls (ps is : List Value) (A A' : Where) (p : PodD) (i : InfoD) (w : World) (hp : Hid (RPod A w ps p)) (hi : Hid (RInfo A' w is i)) : Calls Try.prog 18 #[.agg ps.toArray, .agg is.toArray] w fun e w' => e = .returned (.int .i64 (shyI p i)) ∧ Below w.heap.size w w' := by
  obtain ⟨W2, hW2⟩ : ∃ W2, W2 = (w.alloc (.cells ps.toArray 33)).alloc (.cells is.toArray 49) := ⟨_, rfl⟩
  have hB : PiB w W2 ps is := by rw [hW2]; exact PiB.new w ps is _ _
  have HB : Hid (Below w.heap.size w W2) := hB.b
  have hp1 : RPod A W2 ps p := RPod.firm.kept hp.out (Kept.below hB.b)
  have hi1 : RInfo A' W2 is i := RInfo.firm.kept hi.out (Kept.below hB.b)
  obtain ⟨g2, ⟨ba, bn, bc⟩, g7, g8, g9, g10, g11, g12, g13, eps, _, _, s6, _⟩ := hp1.out
  obtain ⟨h1, ⟨ta, tn, tc⟩, h9, h13, h14, eis, _, _, st, _⟩ := hi1.out
  have c6 : W2.cell? ⟨w.heap.size, 6, none⟩ = some (.slice ba bn bc) := (hB.x.2 6 _ (by rw [eps]; rfl)).1
  have c2 : W2.cell? ⟨w.heap.size + 1, 2, none⟩ = some (.slice ta tn tc) := (hB.y.2 2 _ (by rw [eis]; rfl)).1
  have hA : Calls Try.prog 27 #[.slice ta tn tc, .slice ba bn bc] W2 fun e z' => e = .returned (.int .i64 (shyI p i)) ∧ Below W2.heap.size W2 z' := Shy_sl ta tn tc A' i.1.2.2.1 ba bn bc A (pBears p) W2 st s6
  obtain ⟨sh, hsh⟩ : ∃ s, s = shyI p i := ⟨_, rfl⟩
  rw [← hsh] at hA ⊢
  obtain ⟨P, hP⟩ : ∃ P, P = w.heap.size := ⟨_, rfl⟩
  obtain ⟨I, hI⟩ : ∃ I, I = w.heap.size + 1 := ⟨_, rfl⟩
  rw [← hP] at c6
  rw [← hI] at c2
  have hW2' : (w.alloc (.cells ps.toArray 33)).alloc (.cells is.toArray 49) = W2 := hW2.symm
  have HPI : Hid (w.heap.size = P ∧ w.heap.size + 1 = I) := ⟨hP.symm, hI.symm⟩
  clear hB hp hi hp1 hi1 eps eis s6 st hP hI hW2 hsh
  go_enter Try.func18, Try.ntmps18
  go_upto_region 1 with fail
  rw [HPI.out.2, HPI.out.1]
  clear hW2'
  --M1
  go_wp2_with fail
  refine hA.mono ?_
  rintro e w5 ⟨rfl, b5⟩
  have HE : Hid (Below w.heap.size w w5) := on2 HB.out b5
  clear hA b5
  go_wp2_with fail
  go_ret
  exact ⟨rfl, HE.out⟩
set_option maxHeartbeats 4000000 in
theorem liking_calls (ps is : List Value) (A A' : Where) (p : PodD) (i : InfoD) (w : World) (hp : Hid (RPod A w ps p)) (hi : Hid (RInfo A' w is i)) : Calls Try.prog 19 #[.agg ps.toArray, .agg is.toArray] w fun e w' => e = .returned (.int .i64 (likeI p i)) ∧ Below w.heap.size w w' := by
  obtain ⟨W2, hW2⟩ : ∃ W2, W2 = (w.alloc (.cells ps.toArray 33)).alloc (.cells is.toArray 49) := ⟨_, rfl⟩
  have hB : PiB w W2 ps is := by rw [hW2]; exact PiB.new w ps is _ _
  have HB : Hid (Below w.heap.size w W2) := hB.b
  have hp1 : RPod A W2 ps p := RPod.firm.kept hp.out (Kept.below hB.b)
  have hi1 : RInfo A' W2 is i := RInfo.firm.kept hi.out (Kept.below hB.b)
  obtain ⟨g2, g6, g7, ⟨ba, bn, bc⟩, g9, g10, g11, g12, g13, eps, _, _, _, _, s8, _⟩ := hp1.out
  obtain ⟨⟨ta, tn, tc⟩, h2, h9, h13, h14, eis, _, st, _⟩ := hi1.out
  obtain ⟨PF, hPF⟩ : ∃ PF, PF = pPrefs p := ⟨_, rfl⟩
  obtain ⟨LB, hLB⟩ : ∃ LB, LB = i.1.2.1 := ⟨_, rfl⟩
  have HBe : Hid (SlAt RPrefer 2 32 A W2 ba bn bc PF) := by rw [hPF]; exact s8
  have HTa : Hid (SlAt RLabel 2 32 A' W2 ta tn tc LB) := by rw [hLB]; exact st
  have c8 : W2.cell? ⟨w.heap.size, 8, none⟩ = some (.slice ba bn bc) := (hB.x.2 8 _ (by rw [eps]; rfl)).1
  have HC1 : Hid (∀ z, Below W2.heap.size W2 z → z.cell? ⟨w.heap.size + 1, 1, none⟩ = some (.slice ta tn tc)) := fun z hz => ((hB.y.on hz).2 1 _ (by rw [eis]; rfl)).1
  have hbn : PF.length = bn := HBe.out.1
  have Hbn : Hid (PF.length = bn ∧ bn * 32 ≤ 140737488351232) := ⟨hbn, HBe.out.2.2.2.1⟩
  have hbl : bn < 1000000000000000 := by have := Hbn.out; omega
  have HLI : Hid (likeI p i = likeS LB PF) := by rw [hPF, hLB]; rfl
  have HJ0 : Hid (Below W2.heap.size W2 W2) := Below.refl _ _
  obtain ⟨P, hP⟩ : ∃ P, P = w.heap.size := ⟨_, rfl⟩
  obtain ⟨I, hI⟩ : ∃ I, I = w.heap.size + 1 := ⟨_, rfl⟩
  rw [← hP] at c8
  rw [← hI] at HC1
  have hW2' : (w.alloc (.cells ps.toArray 33)).alloc (.cells is.toArray 49) = W2 := hW2.symm
  have HPI : Hid (w.heap.size = P ∧ w.heap.size + 1 = I) := ⟨hP.symm, hI.symm⟩
  clear hB hp hi hp1 hi1 eps eis s8 st hP hI hW2 hPF hLB hbn
  go_enter Try.func19, Try.ntmps19
  go_upto_region 1 with fail
  rw [HPI.out.2, HPI.out.1]
  clear hW2'
  go_wp2_with fail
  --M1
  clear c8
  go_loopw [5, 11] (fun s i z => ∃ j : Nat, j ≤ bn ∧ i = .int .i64 j ∧ s = .int .i64 (likeS LB (PF.take j)) ∧ Hid (Below W2.heap.size W2 z)) (fun _ i _ => bn - (intOf i).toNat)
  case atStart => exact ⟨0, Nat.zero_le _, rfl, rfl, HJ0⟩
  case round =>
    clear HJ0
    obtain ⟨j, hj, rfl, rfl, HJ⟩ := hrel
    by_cases hjl : j < bn
    · have hjz : (j : Int) < (bn : Int) := by omega
      obtain ⟨E, of2, rfl, hE, _, ds, hrb, hvb⟩ := (HBe.out.on RPrefer.firm HJ.out).get hjl
      obtain ⟨y, hy⟩ : ∃ y, y = PF.getD j default := ⟨_, rfl⟩
      rw [← hy] at hrb
      have HT : Hid (likeS LB (PF.take (j + 1)) = IntKind.i64.wrap (likeS LB (PF.take j) + like1 LB y)) := by rw [Hid, like_snoc LB PF (by rw [Hbn.out.1]; exact hjl), ← hy]
      have HIn := likeS_in LB PF j (by rw [Hbn.out.1]; exact hj)
      obtain ⟨c0, d0, rfl, ⟨ra, rn, rc, rfl, hrq⟩, hd0⟩ := hrb
      obtain rfl : d0 = [.int .i64 y.2] := hd0
      obtain ⟨y1, y2⟩ := y
      have f0 := hvb 0 _ rfl
      have f1 := hvb 1 _ rfl
      rw [Nat.add_zero] at f0
      dsimp only at f1
      obtain ⟨W3, hW3⟩ : ∃ Z, Z = wr.alloc (.cells #[.slice ra rn rc, .int .i64 y2] 67) := ⟨_, rfl⟩
      have b3 : Below wr.heap.size wr W3 := by rw [hW3]; exact (Below.refl _ _).alloc (Nat.le_refl _) _
      have q3 : BoxL W3 wr.heap.size [.slice ra rn rc, .int .i64 y2] := by rw [hW3]; exact BoxL.new wr 67 _
      have HW3 : Hid (wr.alloc (.cells #[.slice ra rn rc, .int .i64 y2] 67) = W3) := hW3.symm
      have hw3 : Below W2.heap.size W2 W3 := on2 HJ.out b3
      have HRq : Hid (SlAt RReq 3 48 A W3 ra rn rc y1) := hrq.on RReq.firm b3
      have c1 : W3.cell? ⟨I, 1, none⟩ = some (.slice ta tn tc) := HC1.out W3 hw3
      have hA : Calls Try.prog 28 #[.slice ta tn tc, .slice ra rn rc] W3 fun e z' => e = .returned (.bool (matchL LB y1)) ∧ Below W3.heap.size W3 z' := Match_sl ta tn tc A' LB ra rn rc A y1 W3 (HTa.out.on RLabel.firm hw3) HRq
      obtain ⟨b, hb⟩ : ∃ b, b = matchL LB y1 := ⟨_, rfl⟩
      rw [← hb] at hA
      have HL1 : Hid (like1 LB (y1, y2) = if b = true then clipZ 1073741824 y2 else 0) := by rw [Hid, hb]; rfl
      obtain ⟨S, hS⟩ : ∃ S, S = likeS LB (PF.take j) := ⟨_, rfl⟩
      rw [← hS] at HIn HT
      rw [← hS]
      have HSb : Hid (-9223372036854775808 ≤ S ∧ S ≤ 9223372036854775807) := HIn
      have HQ3 : Hid (BoxL W3 wr.heap.size [.slice ra rn rc, .int .i64 y2]) := q3
      have HJ3 : Hid (Below W2.heap.size W2 W3) := hw3
      have e0 := (q3.2 0 _ rfl).1
      obtain ⟨B, hB⟩ : ∃ B, B = wr.heap.size := ⟨_, rfl⟩
      have HBB : Hid (wr.heap.size = B) := hB.symm
      rw [← hB] at HQ3 e0
      clear hy hvb hrq hb hS HIn hW3 b3 q3 hw3 HRq HJ hB
      go_upto_region 5 with fail
      --M2
      rw [HW3.out, HBB.out]
      clear f0 f1
      go_wp2_with fail
      refine hA.mono ?_
      rintro e w5 ⟨rfl, b5⟩
      have hx1 : w5.cell? ⟨B, 1, none⟩ = some (.int .i64 y2) := ((HQ3.out.on b5).2 1 _ rfl).1
      have HE : Hid (Below W2.heap.size W2 w5) := on2 HJ3.out b5
      clear hA b5 c1 e0 HW3 HBB HQ3 HJ3
      --M3
      cases b
      · have HF : Hid (S = likeS LB (PF.take (j + 1))) := by rw [Hid, HT.out, HL1.out, if_neg (by decide), Int.add_zero, IntWalk.i64_in _ HSb.out]
        clear HT HL1
        go_wp2_with fail
        go_roundw
        case rel => exact ⟨j + 1, by omega, by go_num, by rw [HF.out], HE⟩
        case measure => simp [intOf]; omega
      · obtain ⟨c, hc⟩ : ∃ c, c = clipZ 1073741824 y2 := ⟨_, rfl⟩
        have hC := between_calls y2 1073741824 (by decide) w5
        have HF : Hid (IntKind.i64.wrap (S + c) = likeS LB (PF.take (j + 1))) := by rw [Hid, HT.out, HL1.out, if_pos rfl, hc]
        rw [← hc] at hC
        clear HT HL1 hc
        go_wp2_with fail
        refine hC.mono ?_
        rintro e w6 ⟨rfl, hw⟩
        obtain rfl := hw.symm
        clear hC hw
        --M4
        go_wp2_with fail
        go_roundw
        case rel => exact ⟨j + 1, by omega, by go_num, by rw [← HF.out]; exact congrArg (Value.int .i64) (by rw [IntKind.wrap_i64]; unfold wrap64; omega), HE⟩
        case measure => simp [intOf]; omega
    · have hjz : ¬ (j : Int) < (bn : Int) := by omega
      have HF : Hid (likeS LB (PF.take j) = likeI p i) := by rw [Hid, HLI.out, List.take_of_length_le (by rw [Hbn.out.1]; omega)]
      have HE : Hid (Below w.heap.size w wr) := on2 HB.out HJ.out
      clear HJ
      go_wp2_with fail
      rw [HF.out]
      go_ret
      exact ⟨rfl, HE.out⟩
end Go.Proofs.Yteihniiacfghoab
namespace Go.Proofs.Yteihniiacfghoab
open Go.RowKit Go.Maps
set_option linter.unusedSimpArgs false
set_option maxRecDepth 100000

theorem sizePodS : (Try.prog.info? 33).map (·.size) = some 16 := by kernel_rfl
theorem sizeInfoS : (Try.prog.info? 49).map (·.size) = some 15 := by kernel_rfl
theorem each_calls (F : Value) (hF : F.oneCell' = true) (w : World) : Calls Try.prog 17 #[F] w fun e w' => e = .returned (.func (.func 26) #[] #[.pointer (some ⟨w.heap.size, 0, none⟩)]) ∧ BoxL w' w.heap.size [F] ∧ Below w.heap.size w w' := by
  obtain ⟨W1, hW1⟩ : ∃ Z, Z = w.alloc (.cells #[F] 50) := ⟨_, rfl⟩
  have HW : Hid (w.alloc (.cells #[F] 50) = W1) := hW1.symm
  have HQ : Hid (BoxL W1 w.heap.size [F] ∧ Below w.heap.size w W1) := ⟨by rw [hW1]; exact BoxL.new w 50 _, by rw [hW1]; exact (Below.refl _ _).alloc (Nat.le_refl _) _⟩
  clear hW1
  go_enter Try.func17, Try.ntmps17
  go_upto_region 1 with fail
  go_wp2_with fail
  go_ret
  have h := HQ.out
  rw [← HW.out] at h
  exact ⟨rfl, h.1, h.2⟩
/-- Function g tells f of a pod and an info. -/
def One (g : Nat) (f : PodD → InfoD → Int) : Prop := (∀ args w, (callFunc g args).run Try.prog w = .ok (.enter g args) w) ∧ ∀ (ps is : List Value) (A A' : Where) (p : PodD) (i : InfoD) (w : World), Hid (RPod A w ps p) → Hid (RInfo A' w is i) → Calls Try.prog g #[.agg ps.toArray, .agg is.toArray] w fun e w' => e = .returned (.int .i64 (f p i)) ∧ Below w.heap.size w w'
def zInfoC : List Value := [.string ⟨#[]⟩, .slice none 0 0, .slice none 0 0, .bool false, .int .i64 0, .int .i64 0, .int .i64 0, .int .i64 0, .int .i64 0, .slice none 0 0, .int .i64 0, .int .i64 0, .int .i64 0, .slice none 0 0, .slice none 0 0]
theorem getD_mapS (f : InfoD → Int) (L : List InfoD) {k : Nat} (hk : k < L.length) : (L.map f).getD k default = f (L.getD k default) := by
  rw [List.getD_eq_getElem?_getD, List.getElem?_map, List.getD_eq_getElem?_getD, List.getElem?_eq_getElem hk]; rfl
set_option maxHeartbeats 4000000 in
theorem eachRun_calls (g : Nat) (f : PodD → InfoD → Int) (hO : One g f) (b : Nat) (ps : List Value) (A A' : Where) (p : PodD) (a : Option Addr) (n cap : Nat) (L : List InfoD) (w : World) (hb : BoxL w b [.func (.func g) #[] #[]]) (hp : Hid (RPod A w ps p)) (hL : Hid (SlAt RInfo 15 208 A' w a n cap L)) : Calls Try.prog 26 #[.agg ps.toArray, .slice a n cap, .pointer (some ⟨b, 0, none⟩)] w fun e w' => ∃ v, e = .returned v ∧ Row RInt 1 (fun _ => False) w w' 3 v (L.map (f p)) := by
  have hn : Hid (L.length = n) := hL.out.1
  have HLn : Hid (n * 208 ≤ 140737488351232) := hL.out.2.2.2.1
  have hml : n < 1000000000000000 := by have := HLn.out; omega
  have hmk : n ≤ maxLen := by unfold maxLen; omega
  have hmb : 8 * n ≤ 281474976710656 := by have := HLn.out; omega
  obtain ⟨ii, hi1, hi2, hi3, hi4⟩ := infoIntE
  have hiP : (Try.prog.info? 33).map (·.size) = some ps.length := by rw [RPod.firm.len hp.out]; exact sizePodS
  obtain ⟨eg, hOc⟩ := hO
  have HO : Hid (∀ (ps is : List Value) (A A' : Where) (p : PodD) (i : InfoD) (w : World), Hid (RPod A w ps p) → Hid (RInfo A' w is i) → Calls Try.prog g #[.agg ps.toArray, .agg is.toArray] w fun e w' => e = .returned (.int .i64 (f p i)) ∧ Below w.heap.size w w') := hOc
  obtain ⟨W1, hW1⟩ : ∃ Z, Z = w.alloc (.cells ps.toArray 33) := ⟨_, rfl⟩
  have b1 : Below w.heap.size w W1 := by rw [hW1]; exact (Below.refl _ _).alloc (Nat.le_refl _) _
  have HB1 : Hid (Below w.heap.size w W1) := b1
  have HX : Hid (BoxL W1 w.heap.size ps) := by rw [hW1]; exact BoxL.new w 33 _
  have HBx : Hid (BoxL W1 b [.func (.func g) #[] #[]]) := hb.on b1
  have hL1 : Hid (SlAt RInfo 15 208 A' W1 a n cap L) := hL.out.on RInfo.firm b1
  have hp1 : Hid (RPod A W1 ps p) := RPod.firm.kept hp.out (Kept.below b1)
  have HW1 : Hid (w.alloc (.cells ps.toArray 33) = W1) := hW1.symm
  obtain ⟨P, hP⟩ : ∃ P, P = w.heap.size := ⟨_, rfl⟩
  have HP : Hid (w.heap.size = P) := hP.symm
  rw [← hP] at HX
  clear hOc b1 hW1 hP hb hL hp
  go_enter Try.func26, Try.ntmps26
  go_upto_region 1 with fail
  rw [HW1.out, HP.out]
  clear HW1
  --M1
  go_wp2_with (first | (refine wpList_make_full W1 rfl _ _ 28 rfl W1.heap.size 3 ii (.int .i64 0) 1 Try.underlying28 hi1 hi2 hi3 .i64 .i64 _ _ n rfl rfl rfl rfl (by rw [hi4]; exact hmb) hmk (Nat.le_refl _) ?_; intro w1 hr1 hg1) | fail)
  have HR0 : Hid (Row RInt 1 (fun _ => False) W1 w1 3 (.slice (some ⟨W1.heap.size, 0, none⟩) n n) (turnL (f p) (fun _ => 0) L 0)) := by
    have h := row_made hr1 (Below.refl _ _) hg1
    have e : turnL (f p) (fun _ => (0 : Int)) L 0 = List.replicate n 0 := by rw [turn_zero, List.map_const', hn.out]
    rw [Hid, e]; exact h
  obtain ⟨q, hq⟩ : ∃ q, q = W1.heap.size := ⟨_, rfl⟩
  rw [← hq] at HR0
  rw [← hq]
  clear hr1 hg1 hq hi1 hi2 hi3 hi4 hmk hmb
  go_wp2_with fail
  --M2
  go_loopw [14] (fun i wr => ∃ k : Nat, k ≤ n ∧ i = .int .i64 k ∧ Hid (Row RInt 1 (fun _ => False) W1 wr 3 (.slice (some ⟨q, 0, none⟩) n n) (turnL (f p) (fun _ => 0) L k))) (fun i _ => n - (intOf i).toNat)
  case atStart => exact ⟨0, Nat.zero_le _, rfl, HR0⟩
  case round =>
    clear HR0
    obtain ⟨k, hk, rfl, hrun⟩ := hrel
    by_cases hlt : k < n
    · have hltz : (k : Int) < (n : Int) := by omega
      have hbw : Below W1.heap.size W1 wr := hrun.out.below
      obtain ⟨D, off, rfl, hD, _, cs, hra, hva⟩ := (hL1.out.on RInfo.firm hbw).get hlt
      have hkl : k < L.length := by rw [hn.out]; exact hlt
      have htl : (turnL (f p) (fun _ => (0 : Int)) L k).length = n := by rw [turn_len, hn.out]
      obtain ⟨x, hx⟩ : ∃ x, x = L.getD k default := ⟨_, rfl⟩
      rw [← hx] at hra
      have hl15 : cs.length = 15 := RInfo.firm.len hra
      have hiI : (Try.prog.info? 49).map (·.size) = some cs.length := by rw [hl15]; exact sizeInfoS
      have hiI' : (Try.prog.info? 49).map (·.size) = some cs.toArray.size := by have e : cs.toArray.size = 15 := (by simp [hl15]); rw [e]; exact sizeInfoS
      have HRg : Hid (wr.rangeAt D (off + k * 15) cs) := hva
      have HOn : Hid (cs.toArray.all (·.oneCell') = true) := all_oneCell_toArray (RInfo.firm.one hra)
      have HT : Hid ((wr.alloc (.cells #[.string ⟨#[]⟩, .slice none 0 0, .slice none 0 0, .bool false, .int .i64 0, .int .i64 0, .int .i64 0, .int .i64 0, .int .i64 0, .slice none 0 0, .int .i64 0, .int .i64 0, .int .i64 0, .slice none 0 0, .slice none 0 0] 49)).there wr.heap.size 0 cs.toArray.size) := by have e : cs.toArray.size = 15 := (by simp [hl15]); rw [Hid, e]; exact (BoxL.new wr 49 [.string ⟨#[]⟩, .slice none 0 0, .slice none 0 0, .bool false, .int .i64 0, .int .i64 0, .int .i64 0, .int .i64 0, .int .i64 0, .slice none 0 0, .int .i64 0, .int .i64 0, .int .i64 0, .slice none 0 0, .slice none 0 0]).there
      obtain ⟨W4, hW4⟩ : ∃ W4, W4 = (wr.alloc (.cells #[.string ⟨#[]⟩, .slice none 0 0, .slice none 0 0, .bool false, .int .i64 0, .int .i64 0, .int .i64 0, .int .i64 0, .int .i64 0, .slice none 0 0, .int .i64 0, .int .i64 0, .int .i64 0, .slice none 0 0, .slice none 0 0] 49)).setCells wr.heap.size 0 cs := ⟨_, rfl⟩
      have HX4 : Hid (BoxL W4 wr.heap.size cs) := by rw [hW4]; exact box_overS (BoxL.new wr 49 [.string ⟨#[]⟩, .slice none 0 0, .slice none 0 0, .bool false, .int .i64 0, .int .i64 0, .int .i64 0, .int .i64 0, .int .i64 0, .slice none 0 0, .int .i64 0, .int .i64 0, .int .i64 0, .slice none 0 0, .slice none 0 0]) (by rw [hl15]; rfl)
      have B4 : Below wr.heap.size wr W4 := by rw [hW4]; exact below_setCells ((Below.refl _ _).alloc (Nat.le_refl _) _) (Nat.le_refl _)
      have HW4 : Hid (W4 = (wr.alloc (.cells #[.string ⟨#[]⟩, .slice none 0 0, .slice none 0 0, .bool false, .int .i64 0, .int .i64 0, .int .i64 0, .int .i64 0, .int .i64 0, .slice none 0 0, .int .i64 0, .int .i64 0, .int .i64 0, .slice none 0 0, .slice none 0 0] 49)).setCells wr.heap.size 0 cs.toArray.toList) := by rw [Hid, hW4]
      have hb4 : Below W1.heap.size W1 W4 := on2 hbw B4
      have c1 : W4.cell? ⟨b, 0, none⟩ = some (.func (.func g) #[] #[]) := ((HBx.out.on hb4).2 0 _ rfl).1
      have HXp : Hid (W4.rangeAt P 0 ps) := (HX.out.on hb4).range
      have hC := HO.out ps cs A A' p x W4 (RPod.firm.kept hp1.out (Kept.below hb4)) (RInfo.firm.kept hra (Kept.below B4))
      obtain ⟨c, hc⟩ : ∃ c, c = f p x := ⟨_, rfl⟩
      rw [← hc] at hC
      have hts : (turnL (f p) (fun _ => (0 : Int)) L k).set k c = turnL (f p) (fun _ => 0) L (k + 1) := by rw [← turn_set (f p) (fun _ => 0) L hkl, hc, hx]
      have HS : Hid (∀ z, Below W4.heap.size W4 z → (Row RInt 1 (fun _ => False) W1 (z.setCell ⟨q, k, none⟩ (.int .i64 c)) 3 (.slice (some ⟨q, 0, none⟩) n n) (turnL (f p) (fun _ => 0) L (k + 1))) ∧ (∃ v, z.cell? ⟨q, k, none⟩ = some v) ∧ z.frozen? ⟨q, k, none⟩ = false) := fun z hz => by
        have hr := hrun.out.on RInt.firm (on2 B4 hz)
        have h1 := rowI_set c hr htl hlt
        rw [hts] at h1
        exact ⟨h1, ⟨_, (rowI_get hr htl hlt).1⟩, (rowI_get hr htl hlt).2⟩
      clear hx hc hra hva hts htl hl15 hW4 hbw hb4 B4 hrun
      --M3
      go_upto_region 5 with (first | (refine wpList_load_mid rfl 49 _ rfl D (off + k * 15) rfl cs _ HRg.out Try.underlying49 rfl hiI ?_) | (refine wpList_store_mid rfl 49 _ _ rfl wr.heap.size 0 cs.toArray rfl rfl HT.out hiI' HOn.out ?_; refine wpl_atG HW4.out ?_) | fail)
      --M4
      obtain ⟨I, hI⟩ : ∃ I, I = wr.heap.size := ⟨_, rfl⟩
      rw [← hI] at HX4 ⊢
      clear hI HT HRg HOn HW4
      go_wp2_with (first | (refine wpList_load_mid rfl 33 _ rfl P 0 rfl ps _ HXp.out Try.underlying33 rfl hiP ?_) | (refine wpList_load_mid rfl 49 _ rfl I 0 rfl cs _ HX4.out.range Try.underlying49 rfl hiI ?_) | (go_at_fn g; refine hC.mono ?_; rintro e w6 ⟨rfl, hb6⟩; obtain ⟨h1, ⟨v1, h2⟩, h3⟩ := HS.out w6 hb6) | fail)
      --M5
      have HE : Hid (Row RInt 1 (fun _ => False) W1 (w6.setCell ⟨q, k, none⟩ (.int .i64 c)) 3 (.slice (some ⟨q, 0, none⟩) n n) (turnL (f p) (fun _ => 0) L (k + 1))) := h1
      clear h1 HS hC hb6 c1 HXp HX4
      go_roundw
      case rel => exact ⟨k + 1, by omega, by go_num, HE⟩
      case measure => simp [intOf]; omega
    · have hltz : ¬ (k : Int) < (n : Int) := by omega
      have hkn : k = n := by omega
      have HE : Hid (Row RInt 1 (fun _ => False) w wr 3 (.slice (some ⟨q, 0, none⟩) n n) (L.map (f p))) := by
        have h := hrun.out
        rw [hkn, ← hn.out, turn_all, hn.out] at h
        exact h.fromG HB1.out
      clear hrun hkn
      go_wp2_with fail
      go_ret
      exact ⟨_, rfl, HE.out⟩
end Go.Proofs.Yteihniiacfghoab
namespace Go.Proofs.Yteihniiacfghoab
open Go.RowKit
set_option linter.unusedSimpArgs false
set_option maxRecDepth 100000

set_option maxHeartbeats 1000000 in
theorem IndexS (a : Option Addr) (n cap : Nat) (A : Where) (L : List ByteArray) (s : ByteArray) (w : World) (hL : Hid (SlAt RStr 1 16 A w a n cap L)) : Calls Try.prog 58 #[.slice a n cap, .string s] w fun e w' => (∃ k : Int, e = .returned (.int .i64 k) ∧ hasB sEq L s = decide (0 ≤ k)) ∧ w' = w := by
  have hn : Hid (L.length = n) := hL.out.1
  have hlen := hL.out.len (by decide)
  go_enter Try.func58, Try.ntmps58
  go_wp2_with fail
  go_loop [8] (fun i => ∃ k : Nat, k ≤ n ∧ i = .int .i64 k ∧ Hid (hasB sEq (L.take k) s = false)) (fun i => n - (intOf i).toNat)
  case atStart => exact ⟨0, Nat.zero_le _, rfl, rfl⟩
  case round =>
    obtain ⟨k, hk, rfl, hno⟩ := hrel
    by_cases hlt : k < n
    · have hltz : (k : Int) < (n : Int) := by omega
      have hkl : k < L.length := by rw [hn.out]; exact hlt
      have HN : Hid (hasB sEq (L.take (k + 1)) s = (hasB sEq (L.take k) s || sEq (L.getD k default) s)) := hasB_succ _ _ _ hkl
      have HF : Hid (sEq (L.getD k default) s = true → hasB sEq L s = true) := hasB_found _ _ _ hkl
      obtain ⟨B, off, rfl, hB, _, cs, hr, hv⟩ := hL.out.get hlt
      obtain ⟨rfl, _⟩ := hr
      have d0 := hv 0 _ rfl
      simp only [Nat.mul_one, Nat.add_zero] at d0
      clear hv
      generalize L.getD k default = x at d0 HN HF
      cases he : sEq x s
      · have he' : (s.toList == x.toList) = false := by rw [BEq.comm]; exact he
        have HN2 : Hid (hasB sEq (L.take (k + 1)) s = false) := by rw [Hid, HN.out, hno.out, he]; rfl
        clear HN HF he
        go_wp2_with fail
        go_round
        case rel => exact ⟨k + 1, by omega, by go_num, HN2⟩
        case measure => simp [intOf]; omega
      · have he' : (s.toList == x.toList) = true := by rw [BEq.comm]; exact he
        have HT : Hid (hasB sEq L s = true) := HF.out he
        clear HN HF he
        go_wp2_with fail
        go_ret
        exact ⟨⟨k, rfl, by rw [HT.out]; simp⟩, rfl⟩
    · have hk' : L.take k = L := List.take_of_length_le (by rw [hn.out]; omega)
      rw [hk'] at hno
      have hlz : ¬ ((k : Int) < (n : Int)) := by omega
      go_wp2_with fail
      go_ret
      exact ⟨⟨-1, rfl, by rw [hno.out]; simp⟩, rfl⟩
set_option maxHeartbeats 1000000 in
theorem ContainsS (a : Option Addr) (n cap : Nat) (A : Where) (L : List ByteArray) (s : ByteArray) (w : World) (hL : Hid (SlAt RStr 1 16 A w a n cap L)) : Calls Try.prog 55 #[.slice a n cap, .string s] w fun e w' => e = .returned (.bool (hasB sEq L s)) ∧ w' = w := by
  have hI := IndexS a n cap A L s w hL
  generalize hasB sEq L s = b at hI ⊢
  go_enter Try.func55, Try.ntmps55
  go_wp2_with fail
  refine hI.mono ?_
  rintro e w' ⟨⟨k, rfl, rfl⟩, rfl⟩
  by_cases h0 : 0 ≤ k
  · go_wp2_with fail
    go_ret
    exact ⟨by simp [h0], rfl⟩
  · go_wp2_with fail
    go_ret
    exact ⟨by simp [h0], rfl⟩
/-- What is asked of a function that tells numbers: it answers p, and leaves all that was there. -/
def PredI (g : Nat) (lb : Array Value) (p : Int → Bool) (w : World) : Prop :=
  ∀ (W : World) (x : Int), Below w.heap.size w W → Calls Try.prog g (#[.int .i64 x] ++ lb) W fun e w' => e = .returned (.bool (p x)) ∧ Below W.heap.size W w'
theorem any_take (p : Int → Bool) (L : List Int) {k : Nat} (hk : k < L.length) : (L.take (k + 1)).any p = ((L.take k).any p || p (L.getD k default)) := by
  rw [← take_at hk]; simp
theorem any_found (p : Int → Bool) (L : List Int) {k : Nat} (hk : k < L.length) (h : p (L.getD k default) = true) : L.any p = true := by
  rw [List.any_eq_true]
  exact ⟨L.getD k default, by rw [getE _ _ hk]; exact List.getElem_mem hk, h⟩
end Go.Proofs.Yteihniiacfghoab
