/- The law TaintBears holds of the program: a taint is borne, kept off by, and shied at, just as the document says, and the lists stay as they were; the chapter's example comes out. For every input; no condition. -/
import Derived.Test.YtgffnkfiecieeaaTKeptR
import Derived.Test.YtgffnkfiecieeaaTWorks
import Derived.Test.YtgffnkfiecieeaaTCopy
import Derived.Test.YtgffnkfiecieeaaTOpen
namespace Go.Proofs.Ytgffnkfiecieeaa.taintBears
open Go.ChangeShapes Go.WideShapes Go.ChangeAt Go.RowKit
set_option linter.unusedSimpArgs false

theorem neqT (x : Tnt) (w : World) : Sem.run Try.prog (binOp .neq 32 (.agg #[.string x.1, .string x.2.1, .int .i64 x.2.2]) (.agg #[.string x.1, .string x.2.1, .int .i64 x.2.2])) w = .ok (.bool false) w := by
  have h := eqT x x w
  rw [tEq_self, run_eql_struct] at h
  rw [run_neq_struct]
  cases hr : Sem.run Try.prog (Op.equalIn 10000 32 (.agg #[.string x.1, .string x.2.1, .int .i64 x.2.2]) (.agg #[.string x.1, .string x.2.1, .int .i64 x.2.2])) w with
  | ok b w' => rw [hr] at h; simp only [Result.andThen_ok] at h ⊢; injection h with h1 h2; subst h2; injection h1 with h1; subst h1; rfl
  | halt y w' => rw [hr] at h; simp [Result.andThen] at h
theorem neqB (x : Bear) (w : World) : Sem.run Try.prog (binOp .neq 38 (.agg #[.string x.1, .string x.2.1, .bool x.2.2.1, .int .i64 x.2.2.2]) (.agg #[.string x.1, .string x.2.1, .bool x.2.2.1, .int .i64 x.2.2.2])) w = .ok (.bool false) w := by
  have h := eqB x x w
  rw [bEq_self, run_eql_struct] at h
  rw [run_neq_struct]
  cases hr : Sem.run Try.prog (Op.equalIn 10000 38 (.agg #[.string x.1, .string x.2.1, .bool x.2.2.1, .int .i64 x.2.2.2]) (.agg #[.string x.1, .string x.2.1, .bool x.2.2.1, .int .i64 x.2.2.2])) w with
  | ok b w' => rw [hr] at h; simp only [Result.andThen_ok] at h ⊢; injection h with h1 h2; subst h2; injection h1 with h1; subst h1; rfl
  | halt y w' => rw [hr] at h; simp [Result.andThen] at h

/-- The four rows hold what they held at those places, and nothing that was there has turned. -/
def LwS (wi : World) (D F X Y od of ox oy i k : Nat) (b : Bear) (t : Tnt) (u : World) : Prop :=
  Below wi.heap.size wi u ∧
    u.cell? ⟨D, od + k * 4, none⟩ = some (.string b.1) ∧ u.cell? ⟨D, od + k * 4 + 1, none⟩ = some (.string b.2.1) ∧ u.cell? ⟨D, od + k * 4 + 2, none⟩ = some (.bool b.2.2.1) ∧ u.cell? ⟨D, od + k * 4 + 3, none⟩ = some (.int .i64 b.2.2.2) ∧
    u.cell? ⟨F, of + i * 3, none⟩ = some (.string t.1) ∧ u.cell? ⟨F, of + i * 3 + 1, none⟩ = some (.string t.2.1) ∧ u.cell? ⟨F, of + i * 3 + 2, none⟩ = some (.int .i64 t.2.2) ∧
    u.cell? ⟨Y, oy + k * 4, none⟩ = some (.string b.1) ∧ u.cell? ⟨Y, oy + k * 4 + 1, none⟩ = some (.string b.2.1) ∧ u.cell? ⟨Y, oy + k * 4 + 2, none⟩ = some (.bool b.2.2.1) ∧ u.cell? ⟨Y, oy + k * 4 + 3, none⟩ = some (.int .i64 b.2.2.2) ∧
    u.cell? ⟨X, ox + i * 3, none⟩ = some (.string t.1) ∧ u.cell? ⟨X, ox + i * 3 + 1, none⟩ = some (.string t.2.1) ∧ u.cell? ⟨X, ox + i * 3 + 2, none⟩ = some (.int .i64 t.2.2)
theorem LwS.to {wi u' : World} {D F X Y od of ox oy i k : Nat} {b : Bear} {t : Tnt} (h : LwS wi D F X Y od of ox oy i k b t wi) (hD : D < wi.heap.size) (hF : F < wi.heap.size) (hX : X < wi.heap.size) (hY : Y < wi.heap.size) (hb : Below wi.heap.size wi u') : LwS wi D F X Y od of ox oy i k b t u' := by
  obtain ⟨_, h1, h2, h3, h4, h5, h6, h7, h8, h9, h10, h11, h12, h13, h14⟩ := h
  exact ⟨hb, (hb.cell hD).trans h1, (hb.cell hD).trans h2, (hb.cell hD).trans h3, (hb.cell hD).trans h4, (hb.cell hF).trans h5, (hb.cell hF).trans h6, (hb.cell hF).trans h7, (hb.cell hY).trans h8, (hb.cell hY).trans h9, (hb.cell hY).trans h10, (hb.cell hY).trans h11, (hb.cell hX).trans h12, (hb.cell hX).trans h13, (hb.cell hX).trans h14⟩

set_option maxHeartbeats 8000000 in
theorem walk (a : Option Addr) (cap : Nat) (L : List Tnt) (b : Option Addr) (capb : Nat) (B : List Bear) (w : World) (hL : Hid (TntsAt w a L)) (hLb : L.length * 40 ≤ 140737488351232) (_hLn : a = none → cap = 0) (_hLc : L.length ≤ cap) (hB : Hid (BearsAt w b B)) (hBb : B.length * 48 ≤ 140737488351232) (_hBn : b = none → capb = 0) (_hBc : B.length ≤ capb) :
    Calls Try.prog 4 #[.slice a L.length cap, .slice b B.length capb] w fun e w' => e = .returned (.bool true) ∧ Below w.heap.size w w' := by
  have hL' : Hid (∀ {u : World}, Below w.heap.size w u → TntsAt u a L) := fun h => hL.out.on h
  have hB' : Hid (∀ {u : World}, Below w.heap.size w u → BearsAt u b B) := fun h => hB.out.on h
  have hLo' : Hid (∀ x ∈ L, okT x) := hL.out.2.1
  have hBo' : Hid (∀ x ∈ B, okB x) := hB.out.2.1
  have hlenL := hL.out.1
  have hlenB := hB.out.1
  have k1 := fun x capx y capy u h h' => Kept_calls x capx L y capy B u h h'
  have k2 := fun u h h' => rKept_calls a cap L b capb B u h h'
  have k3 := fun x capx y capy u h h' => Shy_calls x capx L y capy B u h h'
  have k4 := fun u h h' => rShy_calls a cap L b capb B u h h'
  generalize keptT L B = p at k1 k2
  generalize shyN L B = n at k3 k4
  obtain ⟨⟨p1, p2, p3⟩, pb⟩ := p
  simp only at k1 k2
  have hneq := neqT (p1, p2, p3)
  simp only at hneq
  have hgT := guardT
  have hgB := guardB
  have hpp : (pb != pb) = false := by simp
  have hnn : ((n : Int) != (n : Int)) = false := by simp
  clear hL hB
  go_enter Try.func4, Try.ntmps4
  go_wp2_with fail
  refine (taints_calls a cap L w (hL'.out (Below.refl _ _)) (by omega)).mono ?_
  rintro e w1 ⟨v1, rfl, hO1⟩
  obtain ⟨x, capx, rfl, hx1, _, hcx⟩ := row_of_owns (ok := okT) encT_len hO1.2 hlenL hLo'.out
  have hb1 := hO1.1
  have hx1' : Hid (TntsAt w1 x L) := hx1
  clear hO1 hx1
  go_wp2_with fail
  refine (bears_calls b capb B w1 (hB'.out hb1) (by omega)).mono ?_
  rintro e w2 ⟨v2, rfl, hO2⟩
  obtain ⟨y, capy, rfl, hy2, _, hcy⟩ := row_of_owns (ok := okB) encB_len hO2.2 hlenB hBo'.out
  have hb2 := on2 hb1 hO2.1
  have hx2 : Hid (TntsAt w2 x L) := hx1'.out.on hO2.1
  have hy2' : Hid (BearsAt w2 y B) := hy2
  clear hO2 hy2 hx1' hb1
  go_wp2_with fail
  refine (k1 x capx y capy w2 hx2 hy2').mono ?_
  rintro e w3 ⟨rfl, hb⟩
  have hb3 := on2 hb ((Below.refl _ _).alloc (Nat.le_refl _) (.cells #[.string p1, .string p2, .int .i64 p3] 32))
  have hbx : BoxT (w3.alloc (.cells #[.string p1, .string p2, .int .i64 p3] 32)) w3.heap.size (p1, p2, p3) := BoxT.new w3 32 (p1, p2, p3)
  clear hb k1
  go_wp2_with fail
  generalize hw4 : w3.alloc (.cells #[.string p1, .string p2, .int .i64 p3] 32) = w4 at hb3 hbx ⊢
  generalize w3.heap.size = G at hbx ⊢
  clear hw4
  have hb4 := on2 hb2 hb3
  refine (k2 w4 (hL'.out hb4) (hB'.out hb4)).mono ?_
  rintro e w5 ⟨rfl, hb⟩
  have hb5 := on2 hb ((Below.refl _ _).alloc (Nat.le_refl _) (.cells #[.string p1, .string p2, .int .i64 p3] 32))
  obtain ⟨hGl, ⟨g0, g1, g2⟩, _⟩ := hbx.on hb5
  have hb6 := on2 hb4 hb5
  have hx6 : Hid (TntsAt (w5.alloc (.cells #[.string p1, .string p2, .int .i64 p3] 32)) x L) := hx2.out.on (on2 hb3 hb5)
  have hy6 : Hid (BearsAt (w5.alloc (.cells #[.string p1, .string p2, .int .i64 p3] 32)) y B) := hy2'.out.on (on2 hb3 hb5)
  have hGw : G < w5.heap.size := by have := hbx.1; have := hb.size; omega
  have hGn : G ≠ w5.heap.size := by omega
  obtain ⟨_, ⟨q0, q1, q2⟩, _⟩ := hbx.on hb
  clear hb k2 hbx hb5 hb4 hb3 hx2 hy2' g0 g1 g2
  go_wp2_with fail
  generalize hw6 : w5.alloc (.cells #[.string p1, .string p2, .int .i64 p3] 32) = w6 at hb6 hx6 hy6 ⊢
  clear hw6 q0 q1 q2
  refine (k3 x capx y capy w6 hx6 hy6).mono ?_
  rintro e w7 ⟨rfl, hb⟩
  have hb7 := on2 hb6 hb
  have hx7 : Hid (TntsAt w7 x L) := hx6.out.on hb
  have hy7 : Hid (BearsAt w7 y B) := hy6.out.on hb
  clear hb hb6 hx6 hy6 k3
  go_wp2_with fail
  refine (k4 w7 (hL'.out hb7) (hB'.out hb7)).mono ?_
  rintro e w8 ⟨rfl, hb⟩
  have hb8 := on2 hb7 hb
  have hx8 : Hid (TntsAt w8 x L) := hx7.out.on hb
  have hy8 : Hid (BearsAt w8 y B) := hy7.out.on hb
  clear hb hb7 hx7 hy7 k4 hneq hpp
  go_wp2_with fail
  go_loopw [11] (fun i wr => ∃ i' : Nat, i' ≤ L.length ∧ i = .int .i64 i' ∧ Below w8.heap.size w8 wr) (fun i _ => L.length - (intOf i).toNat)
  case atStart => exact ⟨0, Nat.zero_le _, rfl, Below.refl _ _⟩
  case round =>
    obtain ⟨i, hi, rfl, hbel⟩ := hrel
    by_cases hlt : i < L.length
    · obtain ⟨wo, hwo⟩ : ∃ wo, wo = wr := ⟨_, rfl⟩
      subst hwo
      have hlti : (i : Int) < (L.length : Int) := by omega
      go_wp2_with fail
      go_loopw [12] (fun j wr => ∃ k : Nat, k ≤ B.length ∧ j = .int .i64 k ∧ Below wo.heap.size wo wr) (fun j _ => B.length - (intOf j).toNat)
      case atStart => exact ⟨0, Nat.zero_le _, rfl, Below.refl _ _⟩
      case round =>
        obtain ⟨k, hk, rfl, hbel2⟩ := hrel
        by_cases hltk : k < B.length
        · obtain ⟨wi, hwi⟩ : ∃ wi, wi = wr := ⟨_, rfl⟩
          subst hwi
          have hbi := on2 hb8 (on2 hbel hbel2)
          have hltj : (k : Int) < (B.length : Int) := by omega
          obtain ⟨D, od, rfl, hD, d0, d1, d2, d3, _⟩ := BearsAt.get (hB'.out hbi) hltk
          obtain ⟨F, of, rfl, hF, f0, f1, f2, _⟩ := TntsAt.get (hL'.out hbi) hlt
          obtain ⟨Y, oy, rfl, hY, y0, y1, y2, y3, _⟩ := BearsAt.get (hy8.out.on (on2 hbel hbel2)) hltk
          obtain ⟨X, ox, rfl, hX, x0, x1, x2, _⟩ := TntsAt.get (hx8.out.on (on2 hbel hbel2)) hlt
          have HS : Hid (∀ {u : World}, Below wi.heap.size wi u → LwS wi D F X Y od of ox oy i k (B.getD k default) (L.getD i default) u) := fun hb => LwS.to ⟨Below.refl _ _, d0, d1, d2, d3, f0, f1, f2, y0, y1, y2, y3, x0, x1, x2⟩ hD hF hX hY hb
          have HB := Bears_calls (B.getD k default).1 (B.getD k default).2.1 (B.getD k default).2.2.1 (B.getD k default).2.2.2 (L.getD i default).1 (L.getD i default).2.1 (L.getD i default).2.2
          have HR := rBears_calls (B.getD k default).1 (B.getD k default).2.1 (B.getD k default).2.2.1 (B.getD k default).2.2.2 (L.getD i default).1 (L.getD i default).2.1 (L.getD i default).2.2
          change ∀ w, Calls Try.prog 19 _ w fun e w' => e = .returned (.bool (bearsB (B.getD k default) (L.getD i default))) ∧ Below w.heap.size w w' at HB
          change ∀ w, Calls Try.prog 20 _ w fun e w' => e = .returned (.bool (bearsB (B.getD k default) (L.getD i default))) ∧ Below w.heap.size w w' at HR
          have hnT := neqT (L.getD i default)
          have hnB := neqB (B.getD k default)
          generalize bearsB (B.getD k default) (L.getD i default) = r at HB HR
          have hrr : (r != r) = false := by simp
          clear d0 d1 d2 d3 f0 f1 f2 y0 y1 y2 y3 x0 x1 x2
          generalize B.getD k default = bx at HS HB HR hnB
          generalize L.getD i default = tx at HS HB HR hnT
          clear hx8 hy8 hL' hB' hLo' hBo'
          go_wp2_with fail
          refine wp_region_noPanic ?_
          refine wp_region_held_drew (S := LwS wi D F X Y od of ox oy i k bx tx) (by kernel_rfl) (HS.out (Below.refl _ _).drew) (fun hHeld => ?_)
          refine wpAnyH_take (i := 0) (v := ?va0) rfl (by kernel_rfl) (by kernel_rfl) (by kernel_rfl) (fun _ _ _ h => h) (Or.inl ⟨by rfl, ?hya0⟩) (by assumption) ?resta0
          case hya0 => (intro u hu; obtain ⟨_, _, _, _, _, _, _, _, _, _, _, _, _, _, _⟩ := hu; go_simp; try with_reducible rfl)
          try simp only [Act.put, List.setIfInBounds_toArray, List.set_cons_zero, List.set_cons_succ, List.getElem_toArray, List.getElem_cons_zero, List.getElem_cons_succ]
          refine wpAnyH_take (i := 1) (v := ?va1) rfl (by kernel_rfl) (by kernel_rfl) (by kernel_rfl) (fun _ _ _ h => h) (Or.inl ⟨by rfl, ?hya1⟩) (by assumption) ?resta1
          case hya1 => (intro u hu; obtain ⟨_, _, _, _, _, _, _, _, _, _, _, _, _, _, _⟩ := hu; go_simp; try with_reducible rfl)
          try simp only [Act.put, List.setIfInBounds_toArray, List.set_cons_zero, List.set_cons_succ, List.getElem_toArray, List.getElem_cons_zero, List.getElem_cons_succ]
          refine wpAnyH_take (i := 2) (v := ?va2) rfl (by kernel_rfl) (by kernel_rfl) (by kernel_rfl) (fun _ _ _ h => h) (Or.inl ⟨by rfl, ?hya2⟩) (by assumption) ?resta2
          case hya2 => (intro u hu; obtain ⟨_, _, _, _, _, _, _, _, _, _, _, _, _, _, _⟩ := hu; go_simp; try with_reducible rfl)
          try simp only [Act.put, List.setIfInBounds_toArray, List.set_cons_zero, List.set_cons_succ, List.getElem_toArray, List.getElem_cons_zero, List.getElem_cons_succ]
          refine wpAnyH_take (i := 3) (v := ?va3) rfl (by kernel_rfl) (by kernel_rfl) (by kernel_rfl) (fun _ _ _ h => h) (Or.inl ⟨by rfl, ?hya3⟩) (by assumption) ?resta3
          case hya3 => (intro u hu; obtain ⟨_, _, _, _, _, _, _, _, _, _, _, _, _, _, _⟩ := hu; go_simp; try with_reducible rfl)
          try simp only [Act.put, List.setIfInBounds_toArray, List.set_cons_zero, List.set_cons_succ, List.getElem_toArray, List.getElem_cons_zero, List.getElem_cons_succ]
          refine wpAnyH_take (i := 4) (v := ?va4) rfl (by kernel_rfl) (by kernel_rfl) (by kernel_rfl) (fun _ _ _ h => h) (Or.inl ⟨by rfl, ?hya4⟩) (by assumption) ?resta4
          case hya4 => (intro u hu; obtain ⟨_, _, _, _, _, _, _, _, _, _, _, _, _, _, _⟩ := hu; go_simp; try with_reducible rfl)
          try simp only [Act.put, List.setIfInBounds_toArray, List.set_cons_zero, List.set_cons_succ, List.getElem_toArray, List.getElem_cons_zero, List.getElem_cons_succ]
          refine wpAnyH_take (i := 5) (v := ?va5) rfl (by kernel_rfl) (by kernel_rfl) (by kernel_rfl) (fun _ _ _ h => h) (Or.inl ⟨by rfl, ?hya5⟩) (by assumption) ?resta5
          case hya5 => (intro u hu; obtain ⟨_, _, _, _, _, _, _, _, _, _, _, _, _, _, _⟩ := hu; go_simp; try with_reducible rfl)
          try simp only [Act.put, List.setIfInBounds_toArray, List.set_cons_zero, List.set_cons_succ, List.getElem_toArray, List.getElem_cons_zero, List.getElem_cons_succ]
          refine wpAnyH_take (i := 6) (v := ?va6) rfl (by kernel_rfl) (by kernel_rfl) (by kernel_rfl) (fun _ _ _ h => h) (Or.inl ⟨by rfl, ?hya6⟩) (by assumption) ?resta6
          case hya6 => (intro u hu; obtain ⟨_, _, _, _, _, _, _, _, _, _, _, _, _, _, _⟩ := hu; go_simp; try with_reducible rfl)
          try simp only [Act.put, List.setIfInBounds_toArray, List.set_cons_zero, List.set_cons_succ, List.getElem_toArray, List.getElem_cons_zero, List.getElem_cons_succ]
          refine wpAnyH_take (i := 7) (v := ?va7) rfl (by kernel_rfl) (by kernel_rfl) (by kernel_rfl) (fun _ _ _ h => h) (Or.inl ⟨by rfl, ?hya7⟩) (by assumption) ?resta7
          case hya7 => (intro u hu; obtain ⟨_, _, _, _, _, _, _, _, _, _, _, _, _, _, _⟩ := hu; go_simp; try with_reducible rfl)
          try simp only [Act.put, List.setIfInBounds_toArray, List.set_cons_zero, List.set_cons_succ, List.getElem_toArray, List.getElem_cons_zero, List.getElem_cons_succ]
          refine wpAnyH_take (i := 9) (v := ?va9) rfl (by kernel_rfl) (by kernel_rfl) (by kernel_rfl) (fun _ _ _ h => h) (Or.inl ⟨by rfl, ?hya9⟩) (by assumption) ?resta9
          case hya9 => (intro u hu; obtain ⟨_, _, _, _, _, _, _, _, _, _, _, _, _, _, _⟩ := hu; go_simp; try with_reducible rfl)
          try simp only [Act.put, List.setIfInBounds_toArray, List.set_cons_zero, List.set_cons_succ, List.getElem_toArray, List.getElem_cons_zero, List.getElem_cons_succ]
          refine wpAnyH_take (i := 10) (v := ?va10) rfl (by kernel_rfl) (by kernel_rfl) (by kernel_rfl) (fun _ _ _ h => h) (Or.inl ⟨by rfl, ?hya10⟩) (by assumption) ?resta10
          case hya10 => (intro u hu; obtain ⟨_, _, _, _, _, _, _, _, _, _, _, _, _, _, _⟩ := hu; go_simp; try with_reducible rfl)
          try simp only [Act.put, List.setIfInBounds_toArray, List.set_cons_zero, List.set_cons_succ, List.getElem_toArray, List.getElem_cons_zero, List.getElem_cons_succ]
          refine wpAnyH_take (i := 11) (v := ?va11) rfl (by kernel_rfl) (by kernel_rfl) (by kernel_rfl) (fun _ _ _ h => h) (Or.inl ⟨by rfl, ?hya11⟩) (by assumption) ?resta11
          case hya11 => (intro u hu; obtain ⟨_, _, _, _, _, _, _, _, _, _, _, _, _, _, _⟩ := hu; go_simp; try with_reducible rfl)
          try simp only [Act.put, List.setIfInBounds_toArray, List.set_cons_zero, List.set_cons_succ, List.getElem_toArray, List.getElem_cons_zero, List.getElem_cons_succ]
          refine wpAnyH_take (i := 12) (v := ?va12) rfl (by kernel_rfl) (by kernel_rfl) (by kernel_rfl) (fun _ _ _ h => h) (Or.inl ⟨by rfl, ?hya12⟩) (by assumption) ?resta12
          case hya12 => (intro u hu; obtain ⟨_, _, _, _, _, _, _, _, _, _, _, _, _, _, _⟩ := hu; go_simp; try with_reducible rfl)
          try simp only [Act.put, List.setIfInBounds_toArray, List.set_cons_zero, List.set_cons_succ, List.getElem_toArray, List.getElem_cons_zero, List.getElem_cons_succ]
          refine wpAnyH_take (i := 13) (v := ?va13) rfl (by kernel_rfl) (by kernel_rfl) (by kernel_rfl) (fun _ _ _ h => h) (Or.inl ⟨by rfl, ?hya13⟩) (by assumption) ?resta13
          case hya13 => (intro u hu; obtain ⟨_, _, _, _, _, _, _, _, _, _, _, _, _, _, _⟩ := hu; go_simp; try with_reducible rfl)
          try simp only [Act.put, List.setIfInBounds_toArray, List.set_cons_zero, List.set_cons_succ, List.getElem_toArray, List.getElem_cons_zero, List.getElem_cons_succ]
          refine wpAnyH_take (i := 14) (v := ?va14) rfl (by kernel_rfl) (by kernel_rfl) (by kernel_rfl) (fun _ _ _ h => h) (Or.inl ⟨by rfl, ?hya14⟩) (by assumption) ?resta14
          case hya14 => (intro u hu; obtain ⟨_, _, _, _, _, _, _, _, _, _, _, _, _, _, _⟩ := hu; go_simp; try with_reducible rfl)
          try simp only [Act.put, List.setIfInBounds_toArray, List.set_cons_zero, List.set_cons_succ, List.getElem_toArray, List.getElem_cons_zero, List.getElem_cons_succ]
          refine wpAnyH_take (i := 15) (v := ?va15) rfl (by kernel_rfl) (by kernel_rfl) (by kernel_rfl) (fun _ _ _ h => h) (Or.inl ⟨by rfl, ?hya15⟩) (by assumption) ?resta15
          case hya15 => (intro u hu; obtain ⟨_, _, _, _, _, _, _, _, _, _, _, _, _, _, _⟩ := hu; go_simp; try with_reducible rfl)
          try simp only [Act.put, List.setIfInBounds_toArray, List.set_cons_zero, List.set_cons_succ, List.getElem_toArray, List.getElem_cons_zero, List.getElem_cons_succ]
          refine wpAnyH_take (i := 16) (v := ?va16) rfl (by kernel_rfl) (by kernel_rfl) (by kernel_rfl) (fun _ _ _ h => h) (Or.inl ⟨by rfl, ?hya16⟩) (by assumption) ?resta16
          case hya16 => (intro u hu; obtain ⟨_, _, _, _, _, _, _, _, _, _, _, _, _, _, _⟩ := hu; go_simp; try with_reducible rfl)
          try simp only [Act.put, List.setIfInBounds_toArray, List.set_cons_zero, List.set_cons_succ, List.getElem_toArray, List.getElem_cons_zero, List.getElem_cons_succ]
          refine wpAnyH_ready (rs := [8]) (by kernel_rfl) (by simp) ?_
          refine AllReadyH.cons rfl (fun K hK => ?_) AllReadyH.nil
          go_simp
          refine (HB _).mono ?_
          rintro e w10 ⟨rfl, hbw10⟩
          go_wp2_with fail
          refine hK.out _ _ (HS.out (on2 hHeld.1 hbw10)) (fun hHeld2 => ?_)
          clear hK K hHeld
          have hHeld := hHeld2
          clear hHeld2
          try simp only [Act.put, List.setIfInBounds_toArray, List.set_cons_zero, List.set_cons_succ, List.getElem_toArray, List.getElem_cons_zero, List.getElem_cons_succ]
          refine wpAnyH_ready (rs := [17]) (by kernel_rfl) (by simp) ?_
          refine AllReadyH.cons rfl (fun K hK => ?_) AllReadyH.nil
          go_simp
          refine (HR _).mono ?_
          rintro e w11 ⟨rfl, hbw11⟩
          go_wp2_with fail
          refine hK.out _ _ (HS.out (on2 hHeld.1 hbw11)) (fun hHeld2 => ?_)
          clear hK K hHeld
          have hHeld := hHeld2
          clear hHeld2
          try simp only [Act.put, List.setIfInBounds_toArray, List.set_cons_zero, List.set_cons_succ, List.getElem_toArray, List.getElem_cons_zero, List.getElem_cons_succ]
          refine wpAnyH_take (i := 18) (v := ?vrp18) rfl (by kernel_rfl) (by kernel_rfl) (by kernel_rfl) (fun _ _ _ h => h) (Or.inl ⟨by rfl, ?hyrp18⟩) (by assumption) ?restrp18
          case hyrp18 => (intro u hu; obtain ⟨_, _, _, _, _, _, _, _, _, _, _, _, _, _, _⟩ := hu; go_simp; try with_reducible rfl)
          try simp only [Act.put, List.setIfInBounds_toArray, List.set_cons_zero, List.set_cons_succ, List.getElem_toArray, List.getElem_cons_zero, List.getElem_cons_succ]
          refine wpAnyH_take (i := 19) (v := ?vrp19) rfl (by kernel_rfl) (by kernel_rfl) (by kernel_rfl) (fun _ _ _ h => h) (Or.inl ⟨by rfl, ?hyrp19⟩) (by assumption) ?restrp19
          case hyrp19 => (intro u hu; obtain ⟨_, _, _, _, _, _, _, _, _, _, _, _, _, _, _⟩ := hu; go_simp; try with_reducible rfl)
          try simp only [Act.put, List.setIfInBounds_toArray, List.set_cons_zero, List.set_cons_succ, List.getElem_toArray, List.getElem_cons_zero, List.getElem_cons_succ]
          refine wpAnyH_take (i := 20) (v := ?vrp20) rfl (by kernel_rfl) (by kernel_rfl) (by kernel_rfl) (fun _ _ _ h => h) (Or.inl ⟨by rfl, ?hyrp20⟩) (by assumption) ?restrp20
          case hyrp20 => (intro u hu; obtain ⟨_, _, _, _, _, _, _, _, _, _, _, _, _, _, _⟩ := hu; go_simp; try with_reducible rfl)
          try simp only [Act.put, List.setIfInBounds_toArray, List.set_cons_zero, List.set_cons_succ, List.getElem_toArray, List.getElem_cons_zero, List.getElem_cons_succ]
          refine wpAnyH_take (i := 21) (v := ?vrp21) rfl (by kernel_rfl) (by kernel_rfl) (by kernel_rfl) (fun _ _ _ h => h) (Or.inl ⟨by rfl, ?hyrp21⟩) (by assumption) ?restrp21
          case hyrp21 => (intro u hu; obtain ⟨_, _, _, _, _, _, _, _, _, _, _, _, _, _, _⟩ := hu; go_simp; try with_reducible rfl)
          try simp only [Act.put, List.setIfInBounds_toArray, List.set_cons_zero, List.set_cons_succ, List.getElem_toArray, List.getElem_cons_zero, List.getElem_cons_succ]
          refine wpAnyH_take (i := 22) (v := ?vrp22) rfl (by kernel_rfl) (by kernel_rfl) (by kernel_rfl) (fun _ _ _ h => h) (Or.inl ⟨by rfl, ?hyrp22⟩) (by assumption) ?restrp22
          case hyrp22 => (intro u hu; obtain ⟨_, _, _, _, _, _, _, _, _, _, _, _, _, _, _⟩ := hu; go_simp; try with_reducible rfl)
          try simp only [Act.put, List.setIfInBounds_toArray, List.set_cons_zero, List.set_cons_succ, List.getElem_toArray, List.getElem_cons_zero, List.getElem_cons_succ]
          refine wpAnyH_take (i := 23) (v := ?vrp23) rfl (by kernel_rfl) (by kernel_rfl) (by kernel_rfl) (fun _ _ _ h => h) (Or.inl ⟨by rfl, ?hyrp23⟩) (by assumption) ?restrp23
          case hyrp23 => (intro u hu; obtain ⟨_, _, _, _, _, _, _, _, _, _, _, _, _, _, _⟩ := hu; go_simp; try with_reducible rfl)
          try simp only [Act.put, List.setIfInBounds_toArray, List.set_cons_zero, List.set_cons_succ, List.getElem_toArray, List.getElem_cons_zero, List.getElem_cons_succ]
          refine wpAnyH_take (i := 24) (v := ?vrp24) rfl (by kernel_rfl) (by kernel_rfl) (by kernel_rfl) (fun _ _ _ h => h) (Or.inl ⟨by rfl, ?hyrp24⟩) (by assumption) ?restrp24
          case hyrp24 => (intro u hu; obtain ⟨_, _, _, _, _, _, _, _, _, _, _, _, _, _, _⟩ := hu; go_simp; try with_reducible rfl)
          try simp only [Act.put, List.setIfInBounds_toArray, List.set_cons_zero, List.set_cons_succ, List.getElem_toArray, List.getElem_cons_zero, List.getElem_cons_succ]
          refine wpAnyH_take (i := 25) (v := ?vrp25) rfl (by kernel_rfl) (by kernel_rfl) (by kernel_rfl) (fun _ _ _ h => h) (Or.inl ⟨by rfl, ?hyrp25⟩) (by assumption) ?restrp25
          case hyrp25 => (intro u hu; obtain ⟨_, _, _, _, _, _, _, _, _, _, _, _, _, _, _⟩ := hu; go_simp; try with_reducible rfl)
          try simp only [Act.put, List.setIfInBounds_toArray, List.set_cons_zero, List.set_cons_succ, List.getElem_toArray, List.getElem_cons_zero, List.getElem_cons_succ]
          refine wpAnyH_take (i := 26) (v := ?vrp26) rfl (by kernel_rfl) (by kernel_rfl) (by kernel_rfl) (fun _ _ _ h => h) (Or.inl ⟨by rfl, ?hyrp26⟩) (by assumption) ?restrp26
          case hyrp26 => (intro u hu; obtain ⟨_, _, _, _, _, _, _, _, _, _, _, _, _, _, _⟩ := hu; go_simp; try with_reducible rfl)
          try simp only [Act.put, List.setIfInBounds_toArray, List.set_cons_zero, List.set_cons_succ, List.getElem_toArray, List.getElem_cons_zero, List.getElem_cons_succ]
          refine wpAnyH_take (i := 27) (v := ?vrp27) rfl (by kernel_rfl) (by kernel_rfl) (by kernel_rfl) (fun _ _ _ h => h) (Or.inl ⟨by rfl, ?hyrp27⟩) (by assumption) ?restrp27
          case hyrp27 => (intro u hu; obtain ⟨_, _, _, _, _, _, _, _, _, _, _, _, _, _, _⟩ := hu; go_simp; try with_reducible rfl)
          try simp only [Act.put, List.setIfInBounds_toArray, List.set_cons_zero, List.set_cons_succ, List.getElem_toArray, List.getElem_cons_zero, List.getElem_cons_succ]
          refine wpAnyH_take (i := 28) (v := ?vrp28) rfl (by kernel_rfl) (by kernel_rfl) (by kernel_rfl) (fun _ _ _ h => h) (Or.inl ⟨by rfl, ?hyrp28⟩) (by assumption) ?restrp28
          case hyrp28 => (intro u hu; obtain ⟨_, _, _, _, _, _, _, _, _, _, _, _, _, _, _⟩ := hu; go_simp; try with_reducible rfl)
          try simp only [Act.put, List.setIfInBounds_toArray, List.set_cons_zero, List.set_cons_succ, List.getElem_toArray, List.getElem_cons_zero, List.getElem_cons_succ]
          refine wpAnyH_take (i := 29) (v := ?vrp29) rfl (by kernel_rfl) (by kernel_rfl) (by kernel_rfl) (fun _ _ _ h => h) (Or.inl ⟨by rfl, ?hyrp29⟩) (by assumption) ?restrp29
          case hyrp29 => (intro u hu; obtain ⟨_, _, _, _, _, _, _, _, _, _, _, _, _, _, _⟩ := hu; go_simp; try with_reducible rfl)
          try simp only [Act.put, List.setIfInBounds_toArray, List.set_cons_zero, List.set_cons_succ, List.getElem_toArray, List.getElem_cons_zero, List.getElem_cons_succ]
          refine wpAnyH_take (i := 30) (v := ?vrp30) rfl (by kernel_rfl) (by kernel_rfl) (by kernel_rfl) (fun _ _ _ h => h) (Or.inl ⟨by rfl, ?hyrp30⟩) (by assumption) ?restrp30
          case hyrp30 => (intro u hu; obtain ⟨_, _, _, _, _, _, _, _, _, _, _, _, _, _, _⟩ := hu; go_simp; try with_reducible rfl)
          try simp only [Act.put, List.setIfInBounds_toArray, List.set_cons_zero, List.set_cons_succ, List.getElem_toArray, List.getElem_cons_zero, List.getElem_cons_succ]
          refine wpAnyH_take (i := 31) (v := ?vrp31) rfl (by kernel_rfl) (by kernel_rfl) (by kernel_rfl) (fun _ _ _ h => h) (Or.inl ⟨by rfl, ?hyrp31⟩) (by assumption) ?restrp31
          case hyrp31 => (intro u hu; obtain ⟨_, _, _, _, _, _, _, _, _, _, _, _, _, _, _⟩ := hu; go_simp; try with_reducible rfl)
          try simp only [Act.put, List.setIfInBounds_toArray, List.set_cons_zero, List.set_cons_succ, List.getElem_toArray, List.getElem_cons_zero, List.getElem_cons_succ]
          refine wpAnyH_take (i := 32) (v := ?vrp32) rfl (by kernel_rfl) (by kernel_rfl) (by kernel_rfl) (fun _ _ _ h => h) (Or.inl ⟨by rfl, ?hyrp32⟩) (by assumption) ?restrp32
          case hyrp32 => (intro u hu; obtain ⟨_, _, _, _, _, _, _, _, _, _, _, _, _, _, _⟩ := hu; go_simp; try with_reducible rfl)
          try simp only [Act.put, List.setIfInBounds_toArray, List.set_cons_zero, List.set_cons_succ, List.getElem_toArray, List.getElem_cons_zero, List.getElem_cons_succ]
          refine wpAnyH_take (i := 33) (v := ?vrp33) rfl (by kernel_rfl) (by kernel_rfl) (by kernel_rfl) (fun _ _ _ h => h) (Or.inl ⟨by rfl, ?hyrp33⟩) (by assumption) ?restrp33
          case hyrp33 => (intro u hu; obtain ⟨_, _, _, _, _, _, _, _, _, _, _, _, _, _, _⟩ := hu; go_simp; try with_reducible rfl)
          try simp only [Act.put, List.setIfInBounds_toArray, List.set_cons_zero, List.set_cons_succ, List.getElem_toArray, List.getElem_cons_zero, List.getElem_cons_succ]
          refine wpAnyH_take (i := 34) (v := ?vrp34) rfl (by kernel_rfl) (by kernel_rfl) (by kernel_rfl) (fun _ _ _ h => h) (Or.inl ⟨by rfl, ?hyrp34⟩) (by assumption) ?restrp34
          case hyrp34 => (intro u hu; obtain ⟨_, _, _, _, _, _, _, _, _, _, _, _, _, _, _⟩ := hu; go_simp; try with_reducible rfl)
          try simp only [Act.put, List.setIfInBounds_toArray, List.set_cons_zero, List.set_cons_succ, List.getElem_toArray, List.getElem_cons_zero, List.getElem_cons_succ]
          refine wpAnyH_take (i := 35) (v := ?vrp35) rfl (by kernel_rfl) (by kernel_rfl) (by kernel_rfl) (fun _ _ _ h => h) (Or.inl ⟨by rfl, ?hyrp35⟩) (by assumption) ?restrp35
          case hyrp35 => (intro u hu; obtain ⟨_, _, _, _, _, _, _, _, _, _, _, _, _, _, _⟩ := hu; go_simp; try with_reducible rfl)
          try simp only [Act.put, List.setIfInBounds_toArray, List.set_cons_zero, List.set_cons_succ, List.getElem_toArray, List.getElem_cons_zero, List.getElem_cons_succ]
          refine wpAnyH_take (i := 36) (v := ?vrp36) rfl (by kernel_rfl) (by kernel_rfl) (by kernel_rfl) (fun _ _ _ h => h) (Or.inl ⟨by rfl, ?hyrp36⟩) (by assumption) ?restrp36
          case hyrp36 => (intro u hu; obtain ⟨_, _, _, _, _, _, _, _, _, _, _, _, _, _, _⟩ := hu; go_simp; try with_reducible rfl)
          try simp only [Act.put, List.setIfInBounds_toArray, List.set_cons_zero, List.set_cons_succ, List.getElem_toArray, List.getElem_cons_zero, List.getElem_cons_succ]
          refine wpAnyH_take (i := 37) (v := ?vrp37) rfl (by kernel_rfl) (by kernel_rfl) (by kernel_rfl) (fun _ _ _ h => h) (Or.inl ⟨by rfl, ?hyrp37⟩) (by assumption) ?restrp37
          case hyrp37 => (intro u hu; obtain ⟨_, _, _, _, _, _, _, _, _, _, _, _, _, _, _⟩ := hu; go_simp; try with_reducible rfl)
          try simp only [Act.put, List.setIfInBounds_toArray, List.set_cons_zero, List.set_cons_succ, List.getElem_toArray, List.getElem_cons_zero, List.getElem_cons_succ]
          refine wpAnyH_take (i := 38) (v := ?vrp38) rfl (by kernel_rfl) (by kernel_rfl) (by kernel_rfl) (fun _ _ _ h => h) (Or.inl ⟨by rfl, ?hyrp38⟩) (by assumption) ?restrp38
          case hyrp38 => (intro u hu; obtain ⟨_, _, _, _, _, _, _, _, _, _, _, _, _, _, _⟩ := hu; go_simp; try with_reducible rfl)
          try simp only [Act.put, List.setIfInBounds_toArray, List.set_cons_zero, List.set_cons_succ, List.getElem_toArray, List.getElem_cons_zero, List.getElem_cons_succ]
          refine wpAnyH_take (i := 39) (v := ?vrp39) rfl (by kernel_rfl) (by kernel_rfl) (by kernel_rfl) (fun _ _ _ h => h) (Or.inl ⟨by rfl, ?hyrp39⟩) (by assumption) ?restrp39
          case hyrp39 => (intro u hu; obtain ⟨_, _, _, _, _, _, _, _, _, _, _, _, _, _, _⟩ := hu; go_simp; try with_reducible rfl)
          try simp only [Act.put, List.setIfInBounds_toArray, List.set_cons_zero, List.set_cons_succ, List.getElem_toArray, List.getElem_cons_zero, List.getElem_cons_succ]
          refine wpAnyH_take (i := 40) (v := ?vrp40) rfl (by kernel_rfl) (by kernel_rfl) (by kernel_rfl) (fun _ _ _ h => h) (Or.inl ⟨by rfl, ?hyrp40⟩) (by assumption) ?restrp40
          case hyrp40 => (intro u hu; obtain ⟨_, _, _, _, _, _, _, _, _, _, _, _, _, _, _⟩ := hu; go_simp; try with_reducible rfl)
          try simp only [Act.put, List.setIfInBounds_toArray, List.set_cons_zero, List.set_cons_succ, List.getElem_toArray, List.getElem_cons_zero, List.getElem_cons_succ]
          refine wpAnyH_done (by kernel_rfl) ?_ _
          refine NoPanic.normal ?_
          go_wp2_with fail
          go_roundw
          case rel => exact ⟨k + 1, by omega, by go_num, on2 hbel2 hHeld.1⟩
          case measure => simp [intOf]; omega
        · go_wp2_with fail
          go_roundw
          case rel => exact ⟨i + 1, by omega, by go_num, on2 hbel hbel2⟩
          case measure => simp [intOf]; omega
    · go_wp2_with fail
      refine (works_calls wr).mono ?_
      rintro e w9 ⟨rfl, hb⟩
      go_wp2_with fail
      go_ret
      exact ⟨rfl, on2 hb8 (on2 hbel hb)⟩

theorem reads (os : Os) {H : Type} (enc : TypeId × Value → H) : ∃ places, DataW.whole enc Try.prog ((World.holding Try.prog os ⟨#[], #[], []⟩).forCall (fun _ _ => 0) ⟨#[], #[.slice none 0 0, .slice none 0 0], []⟩).memory Try.f4.params.toList Rows.taintBearsSpec.vars false #[(.slice none 0 0 : Value), (.slice none 0 0 : Value)].toList 8 = some ([.nil, .nil], [], places) :=
  ⟨[], by kernel_rfl⟩

theorem params_ok : ∀ t ∈ Try.f4.params.toList, Try.prog.readableRec t = true ∧ t < Try.prog.types.size := by
  rw [Try.params4]
  have hall : ([22, 23].all fun u => Try.prog.readableRec u && decide (u < Try.prog.types.size)) = true := by kernel_rfl
  intro t ht
  simpa using List.all_eq_true.1 hall t (by simpa using ht)

theorem contract (H : Type) (enc : TypeId × Value → H) (W : World) (base : Nat) (args : Array Value) (ds gs : List (DataW H)) (before : List MemPlace)
    (hval : ∀ (j : Nat) t v, Try.f4.params[j]? = some t → args[j]? = some v → Value.okWide Try.prog W .any base t v)
    (hW : DataW.Whole enc Try.prog Try.f4.params.toList Rows.taintBearsSpec.vars false W args.toList ds gs before) (hsz : (DataW.weightsEach Try.prog (Try.f4.params.toList ++ Rows.taintBearsSpec.plain.varTypes Try.prog) (ds ++ gs)).all (· ≤ reachBytes) = true) :
    Calls Try.prog 4 args W fun e W' => ∃ v, e = .returned v ∧ Rows.taintBearsSpec.post enc Try.prog Try.f4 false true false false W args v W' := by
  have hW' := hW
  obtain ⟨p, q, hA0, hV, rfl, hfz, hnd⟩ := hW
  have hA : DataW.TrodAll enc Try.prog W 0 (fun _ => true) true Try.f4.params.toList args.toList ds p := hA0
  rw [Try.params4] at hA hval
  obtain ⟨v0, vs0, d0, ds0, p0, q0, hargs, rfl, rfl, h0, r0⟩ := trodAll_cons hA
  obtain ⟨v1, vs1, d1, ds1, p1, q1, rfl, rfl, rfl, h1, r1⟩ := trodAll_cons r0
  obtain ⟨rfl, rfl, rfl⟩ := trodAll_nil r1
  obtain rfl : args = #[v0, v1] := by cases args; simp_all
  obtain ⟨rfl, rfl⟩ := trodVars_none hV
  have l0 := light_arg hsz (j := 0) (t := 22) (by rw [Try.params4]; rfl) rfl
  obtain ⟨x0, y0, z0, e0⟩ := okWide_slice Try.underlying22 (hval 0 22 v0 rfl rfl)
  subst e0
  obtain ⟨fu0, hf0⟩ := h0
  obtain ⟨a0, L0, c0, e0, at0, b0, g0, o0⟩ := open_tnts (v := .slice x0 y0 z0) hf0 l0
  obtain ⟨rfl, rfl, rfl⟩ : x0 = a0 ∧ y0 = L0.length ∧ z0 = c0 := by simpa using e0
  have l1 := light_arg hsz (j := 1) (t := 23) (by rw [Try.params4]; rfl) rfl
  obtain ⟨x1, y1, z1, e1⟩ := okWide_slice Try.underlying23 (hval 1 23 v1 rfl rfl)
  subst e1
  obtain ⟨fu1, hf1⟩ := h1
  obtain ⟨a1, L1, c1, e1, at1, b1, g1, o1⟩ := open_bears (v := .slice x1 y1 z1) hf1 l1
  obtain ⟨rfl, rfl, rfl⟩ : x1 = a1 ∧ y1 = L1.length ∧ z1 = c1 := by simpa using e1
  refine (walk x0 z0 L0 x1 z1 L1 W at0 b0 g0 o0 at1 b1 g1 o1).mono fun e W' ⟨he, hb⟩ => ?_
  subst he
  exact ⟨_, rfl, law_post laidOut params_ok rfl (tb := 4) (by kernel_rfl) Try.underlying4 rfl hW' hb⟩

set_option maxRecDepth 100000 in
theorem lifted (os : Os) (started : os.Started) (H : Type) (enc : TypeId × Value → H) (F : Stop.Interp) :
    ReturnsInHanded {} Try.checked os 4 .any ((OpenSpec.ofChange Rows.taintBearsSpec).preRow enc Try.prog Try.f4 Rows.taintBearsRow.domain false Rows.taintBearsRow.laid) (((OpenSpec.ofChange Rows.taintBearsSpec).at F).post enc Try.prog Try.f4 false true false false) := by
  obtain ⟨places, hx⟩ := reads os enc
  refine returnsInHanded_of_row (C := Try.checked) (s := (OpenSpec.ofChange Rows.taintBearsSpec)) own started (by kernel_rfl) Try.func4
    (witness_row_at (enc := enc) (C := Try.checked) false (World.holding Try.prog os ⟨#[], #[], []⟩) #[.slice none 0 0, .slice none 0 0] rfl (by kernel_rfl) (by kernel_rfl) (by kernel_rfl)
      (OpenSpec.preRow_of_cond 8 hx (by kernel_rfl) (fun k hk => by cases hk) (by kernel_rfl) ⟨[], rfl, List.Pairwise.nil, fun _ _ h => by cases h⟩)) ?_
  intro W base args ds gs before hval hW _ _ hsz _ _ _
  exact contract H enc W base args ds gs before hval hW hsz

theorem said : Rows.TaintBearsSaid :=
  OpenClaim.holds_of_cond 4 Try.f4 rfl rfl rfl rfl rfl rfl rfl ⟨rfl, rfl, rfl, rfl, rfl⟩ rfl rfl rfl rfl rfl (by kernel_rfl) Try.func4 (by kernel_rfl)
    (of_decide_eq_true (by kernel_rfl)) (by unfold Func.isWrapper; first | (rw [if_pos (by decide +kernel)]; kernel_rfl) | (rw [if_neg (by decide +kernel)]; exact ⟨rfl, rfl⟩))
    (fun os started H enc _ F => by rw [OpenClaim.pre_eq_preRow]; exact lifted os started H enc F)
end Go.Proofs.Ytgffnkfiecieeaa.taintBears
namespace Go.Proofs.Ytgffnkfiecieeaa
theorem taintBears_holds : Rows.TaintBearsSaid := taintBears.said
end Go.Proofs.Ytgffnkfiecieeaa
