/- The document's watcher: Next. Conditions: the watcher and the log lie as is said of them. -/
import Derived.Test.YtnlmipgmakmbiaaWList
namespace Go.Proofs.Ytnlmipgmakmbiaa
open Go.RowKit
set_option linter.unusedSimpArgs false
set_option maxRecDepth 100000

section
variable {α : Type} [Inhabited α] {R : Rep α} {k : Nat}
theorem Row.wA13 (hR : Firm R k) {A A' : Where} {w0 u : World} {e : TypeId} {v : Value} {L : List α} (h : Row R k A w0 u e v L) (hA : ∀ b, A b → A' b) : Row R k A' w0 u e v L := by
  obtain ⟨xs, h1, h2⟩ := h
  exact ⟨xs, h1, h2.weak hR (fun b _ h => ⟨hA b h.1, h.2⟩)⟩
/-- A beginning of a slice. -/
theorem sl_take13 {bytes : Nat} {A : Where} {w : World} {a : Option Addr} {n cap : Nat} {L : List α} (h : SlAt R k bytes A w a n cap L) {m : Nat} (hm : m ≤ n) : SlAt R k bytes A w a m cap (L.take m) := by
  obtain ⟨h1, h2, h3, h4, h5⟩ := h
  refine ⟨by rw [List.length_take]; omega, by omega, h3, Nat.le_trans (Nat.mul_le_mul_right _ hm) h4, fun h0 => ?_⟩
  obtain ⟨B, off, e, hB, hA, hc⟩ := h5 (by omega)
  refine ⟨B, off, e, hB, hA, fun i hi => ?_⟩
  obtain ⟨cs, hr, hv⟩ := hc i (by omega)
  refine ⟨cs, ?_, hv⟩
  rw [List.getD_eq_getElem?_getD, List.getElem?_take, if_pos hi, ← List.getD_eq_getElem?_getD]
  exact hr
end
/-- What comes, what is answered, where the cursors stand then. -/
def nextP (At : List Int) (Off : List Bool) (k n : Int) (L : List Ch) : List Ch × Int × List Int :=
  if (knB k && !decide (n < 0)) = true then (if Off.getD k.toNat default = true then ([], 130, At) else ((restW k (At.getD k.toNat default) L).take n.toNat, 0, if 0 < ((restW k (At.getD k.toNat default) L).take n.toNat).length then At.set k.toNat (lastV (At.getD k.toNat default) ((restW k (At.getD k.toNat default) L).take n.toNat)) else At)) else ([], 2, At)
/-- What Next hands back. -/
def NxOut (w : World) (p ga ca gb cb : Nat) (Off : List Bool) (r : List Ch × Int × List Int) (u : World) (e : Ending) (u' : World) : Prop := ∃ a n c, e = .returned (.tuple #[.slice a n c, .int .i64 r.2.1]) ∧ SlAt RCh 42 640 (Fresh u) u' a n c r.1 ∧ Rw7 w u' p ga ca gb cb r.2.2 Off ∧ Kept (Oth13 ga gb) u u'
theorem last_at13 (v : Int) {l : List Ch} (h : 0 < l.length) : lastV v l = (l.getD (l.length - 1) default).1 := by
  unfold lastV
  rw [List.getLast?_eq_getElem?, List.getD_eq_getElem?_getD, List.getElem?_eq_getElem (by omega)]
  rfl
set_option maxHeartbeats 16000000 in
theorem rNext_calls (w : World) (p ga ca gb cb : Nat) (At : List Int) (Off : List Bool) (k n : Int) (a : Option Addr) (m cap : Nat) (A : Where) (L : List Ch) (u : World) (h : Rw7 w u p ga ca gb cb At Off) (hL : Hid (SlAt RCh 42 640 A u a m cap L)) : Calls Try.prog 14 #[.pointer (some ⟨p, 0, none⟩), .int .i64 k, .int .i64 n, .slice a m cap] u (NxOut w p ga ca gb cb Off (nextP At Off k n L) u) := by
  have hCk := rkind_calls k u
  have Hh : Hid (Rw7 w u p ga ca gb cb At Off) := h
  have Hbb : Hid (L.length * 640 ≤ 140737488351232) := by rw [Hid, hL.out.1]; exact hL.out.2.2.2.1
  have Hnil : ∀ (u : World), Hid (SlAt RCh 42 640 (Fresh u) u none 0 0 []) := fun u => ⟨rfl, Nat.le_refl _, fun _ => rfl, by omega, fun h => absurd h (Nat.lt_irrefl _)⟩
  cases hk : knB k with
  | false =>
    have HR : Hid (nextP At Off k n L = ([], 2, At)) := by rw [Hid]; unfold nextP; rw [hk]; rfl
    rw [hk] at hCk
    clear h
    go_enter Try.func14, Try.ntmps14
    go_wp2_with fail
    refine hCk.mono ?_
    rintro e u1 ⟨rfl, rfl⟩
    go_wp2_with fail
    go_ret2
    exact ⟨none, 0, 0, by rw [HR.out]; rfl, by rw [HR.out]; exact (Hnil _).out, by rw [HR.out]; exact Hh.out, Kept.refl _ _⟩
  | true =>
  rw [hk] at hCk
  by_cases hv : n < 0
  · have HR : Hid (nextP At Off k n L = ([], 2, At)) := by rw [Hid]; unfold nextP; rw [hk, decide_eq_true hv]; rfl
    clear h
    go_enter Try.func14, Try.ntmps14
    go_wp2_with fail
    refine hCk.mono ?_
    rintro e u1 ⟨rfl, rfl⟩
    go_wp2_with fail
    go_ret2
    exact ⟨none, 0, 0, by rw [HR.out]; rfl, by rw [HR.out]; exact (Hnil _).out, by rw [HR.out]; exact Hh.out, Kept.refl _ _⟩
  · obtain ⟨k1, k2⟩ := kn_iff.1 hk
    obtain ⟨i, rfl⟩ : ∃ i : Nat, k = (i : Int) := ⟨k.toNat, by omega⟩
    obtain ⟨q, rfl⟩ : ∃ q : Nat, n = (q : Int) := ⟨n.toNat, by omega⟩
    have hi : i < 7 := by omega
    have hiz : (i : Int) < 7 := by omega
    obtain ⟨c0, c1⟩ := h.cells
    obtain ⟨d0, _⟩ := h.readB hi
    obtain ⟨d2, _⟩ := h.readA hi
    generalize hb : Off.getD i default = b at d0
    generalize hat : At.getD i default = v at d2
    obtain ⟨l, hl⟩ : ∃ l, l = (restW (i : Int) v L).take q := ⟨_, rfl⟩
    have HR : Hid (nextP At Off (i : Int) (q : Int) L = if b = true then ([], 130, At) else (l, 0, if 0 < l.length then At.set i (lastV v l) else At)) := by
      rw [Hid]; unfold nextP; rw [hk, decide_eq_false hv, Int.toNat_natCast, Int.toNat_natCast, hb, hat, ← hl]; rfl
    have Hl : Hid (l = (restW (i : Int) v L).take q) := hl
    clear h hk hb hl hat
    cases b with
    | true =>
      go_enter Try.func14, Try.ntmps14
      go_wp2_with fail
      refine hCk.mono ?_
      rintro e u1 ⟨rfl, rfl⟩
      go_wp2_with fail
      go_ret2
      exact ⟨none, 0, 0, by rw [HR.out]; rfl, by rw [HR.out]; exact (Hnil _).out, by rw [HR.out]; exact Hh.out, Kept.refl _ _⟩
    | false =>
      have hCr := rRest_calls (i : Int) v a m cap A L u hL
      have HR2 : Hid (nextP At Off (i : Int) (q : Int) L = (l, 0, if 0 < l.length then At.set i (lastV v l) else At)) := HR.out
      clear HR
      go_enter Try.func14, Try.ntmps14
      go_wp2_with fail
      refine hCk.mono ?_
      rintro e u1 ⟨rfl, rfl⟩
      clear hCk
      go_wp2_with fail
      refine hCr.mono ?_
      rintro e u2 ⟨rv, rfl, hrow⟩
      clear hCr
      have b2 : Below u1.heap.size u1 u2 := hrow.below
      obtain ⟨ra, rc, rfl, sr⟩ := (hrow.wA13 RCh.firm (A' := Fresh u1) (fun _ h => h.elim)).slF (bytes := 640) RCh.firm (by have h1 := rest_len (i : Int) v L; have h2 := Hbb.out; omega)
      obtain ⟨rl, hrl⟩ : ∃ rl, rl = (restW (i : Int) v L).length := ⟨_, rfl⟩
      rw [← hrl] at sr ⊢
      have hrc : rl ≤ rc := sr.2.1
      have hrb : rl * 640 ≤ 140737488351232 := sr.2.2.2.1
      obtain ⟨t, ht⟩ : ∃ t, t = min q rl := ⟨_, rfl⟩
      have HT : Hid (SlAt RCh 42 640 (Fresh u1) u2 ra t rc l) := by
        rw [Hid, Hl.out]
        have h1 := sl_take13 sr (m := t) (by omega)
        have e1 : (restW (i : Int) v L).take t = (restW (i : Int) v L).take q := by
          rw [ht, hrl, ← List.take_take, List.take_length]
        rwa [e1] at h1
      have hmn : (if rl < q then (rl : Int) else (q : Int)) = (t : Int) := by rw [ht]; split <;> omega
      have hmn2 : (if (rl : Int) < (q : Int) then (rl : Int) else (q : Int)) = (t : Int) := by rw [ht]; split <;> omega
      have hra : Hid (ra = none → rc = 0) := sr.2.2.1
      have H2 : Hid (Rw7 w u2 p ga ca gb cb At Off ∧ Kept (Oth13 ga gb) u1 u2) := ⟨Hh.out.on b2, Kept.below b2⟩
      have htl : t ≤ rc := by omega
      have ht8 : t * 640 ≤ 140737488351232 := by omega
      have Htn : Hid (l.length = t) := HT.out.1
      clear hrow sr b2 c0 c1 d0 d2 hrl ht hrb Hl
      go_upto_region 7 with fail
      --M1
      by_cases h0 : 0 < t
      · have h0z : (0 : Int) < (t : Int) := by omega
        obtain ⟨B, off, rfl, hB, hBf, hc⟩ := HT.out.2.2.2.2 h0
        obtain ⟨cs, hr, hv⟩ := hc (t - 1) (by omega)
        obtain rfl : cs = chC (l.getD (t - 1) default).1 (l.getD (t - 1) default).2 := hr
        have x0 := hv 0 _ rfl
        rw [Nat.add_zero] at x0
        have hne : B ≠ ga ∧ B ≠ gb := by
          have h1 := (Hh.out.e.ra.lt (b := ga) rfl).2
          have h2 := (Hh.out.e.rb.lt (b := gb) rfl).2
          have h3 : u1.heap.size ≤ B := hBf
          omega
        have Hlast : Hid (lastV v l = (l.getD (t - 1) default).1) := by rw [Hid, last_at13 v (by rw [Htn.out]; exact h0), Htn.out]
        generalize hx : (l.getD (t - 1) default).1 = y at x0 Hlast
        have hwr : IntKind.i64.wrap ((t : Int) - 1) = ((t - 1 : Nat) : Int) := by
          have h9 : (t : Int) - 1 = ((t - 1 : Nat) : Int) := by omega
          rw [h9]
          have h8 : t - 1 < 140737488351232 := by omega
          generalize t - 1 = y at h8
          simp [IntKind.wrap, IntKind.bits, IntKind.signed]
          omega
        have htz : ((t - 1 : Nat) : Int) < (t : Int) := by omega
        have htz2 : t - 1 < t := by omega
        have HQ : Hid (∀ z, ((∃ A, Rw7 w z p ga ca gb cb A Off) ∧ z.cell? ⟨B, off + (t - 1) * 42, none⟩ = some (.int .i64 y)) → z.cell? ⟨p, 0, none⟩ = some (.slice (some ⟨ga, 0, none⟩) 7 ca) ∧ z.cell? ⟨B, off + (t - 1) * 42, none⟩ = some (.int .i64 y)) := fun z hz => by obtain ⟨⟨_, h1⟩, h2⟩ := hz; exact ⟨h1.cells.1, h2⟩
        clear hc hv hx
        go_upto_region 8 with fail
        --M2
        have g0 : Rw7 w u2.drew p ga ca gb cb At Off ∧ Kept (Oth13 ga gb) u1 u2.drew ∧ SlAt RCh 42 640 (Fresh u1) u2.drew (some ⟨B, off, none⟩) t rc l ∧ B < u2.drew.heap.size := ⟨H2.out.1.on (Below.refl _ _).drew, H2.out.2.trans (Kept.below (Below.refl _ _).drew), HT.out.on RCh.firm (Below.refl _ _).drew, hB⟩
        have x1 : u2.drew.cell? ⟨B, off + (t - 1) * 42, none⟩ = some (.int .i64 y) := x0
        refine t0 (fun z => (∃ A, Rw7 w z p ga ca gb cb A Off) ∧ z.cell? ⟨B, off + (t - 1) * 42, none⟩ = some (.int .i64 y)) ⟨⟨At, g0.1⟩, x1⟩ (fun hHeld => ?_)
        generalize hwd : u2.drew = wd at hHeld g0 x1 ⊢
        clear hwd x0
        try go_frame
        refine' tk 0 ?_ ?_; rotate_left
        · intro z hz; obtain ⟨f0, f1⟩ := HQ.out z hz; clear hz; go_simp; try with_reducible rfl
        try go_frame
        refine' tk 1 ?_ ?_; rotate_left
        · intro z hz; obtain ⟨f0, f1⟩ := HQ.out z hz; clear hz; go_simp; try with_reducible rfl
        try go_frame
        refine' tk 2 ?_ ?_; rotate_left
        · intro z hz; obtain ⟨f0, f1⟩ := HQ.out z hz; clear hz; go_simp; try with_reducible rfl
        try go_frame
        refine' tk 3 ?_ ?_; rotate_left
        · intro z hz; obtain ⟨f0, f1⟩ := HQ.out z hz; clear hz; go_simp; try with_reducible rfl
        try go_frame
        refine' tk 4 ?_ ?_; rotate_left
        · intro z hz; obtain ⟨f0, f1⟩ := HQ.out z hz; clear hz; go_simp; try with_reducible rfl
        try go_frame
        refine' tk 5 ?_ ?_; rotate_left
        · intro z hz; obtain ⟨f0, f1⟩ := HQ.out z hz; clear hz; go_simp; try with_reducible rfl
        try go_frame
        refine' tk 6 ?_ ?_; rotate_left
        · intro z hz; obtain ⟨f0, f1⟩ := HQ.out z hz; clear hz; go_simp; try with_reducible rfl
        try go_frame
        refine' tk 7 ?_ ?_; rotate_left
        · intro z hz; obtain ⟨f0, f1⟩ := HQ.out z hz; clear hz; go_simp; try with_reducible rfl
        try go_frame
        refine' tk 8 ?_ ?_; rotate_left
        · intro z hz; obtain ⟨f0, f1⟩ := HQ.out z hz; clear hz; go_simp; try with_reducible rfl
        try go_frame
        refine' tk 9 ?_ ?_; rotate_left
        · intro z hz; obtain ⟨f0, f1⟩ := HQ.out z hz; clear hz; go_simp; try with_reducible rfl
        try go_frame
        refine' tk 10 ?_ ?_; rotate_left
        · intro z hz; obtain ⟨f0, f1⟩ := HQ.out z hz; clear hz; go_simp; try with_reducible rfl
        try go_frame
        refine' tk 11 ?_ ?_; rotate_left
        · intro z hz; obtain ⟨f0, f1⟩ := HQ.out z hz; clear hz; go_simp; try with_reducible rfl
        try go_frame
        refine' tk 12 ?_ ?_; rotate_left
        · intro z hz; obtain ⟨f0, f1⟩ := HQ.out z hz; clear hz; go_simp; try with_reducible rfl
        try go_frame
        --M3
        obtain ⟨d0, d1⟩ := g0.1.readA hi
        have h1 := g0.1.setA hi y
        have k1 : Kept (fun b => b ≠ ga) wd (wd.setCell ⟨ga, i, none⟩ (.int .i64 y)) := Kept.set (p := ⟨ga, i, none⟩) (fun h => h rfl) _
        have x2 : (wd.setCell ⟨ga, i, none⟩ (.int .i64 y)).cell? ⟨B, off + (t - 1) * 42, none⟩ = some (.int .i64 y) := (k1.cell (p := ⟨B, off + (t - 1) * 42, none⟩) hne.1 g0.2.2.2).trans x1
        refine ts 13 (fun K hK => ?_)
        go_simp
        refine hK.out undef _ ⟨⟨_, h1⟩, x2⟩ (fun hHeld2 => ?_)
        clear hK K hHeld; have hHeld := hHeld2; clear hHeld2
        try go_frame
        refine tz ?_
        --M4
        have HF : Hid (NxOut w p ga ca gb cb Off (nextP At Off (i : Int) (q : Int) L) u1 (.returned (.tuple #[.slice (some ⟨B, off, none⟩) t rc, .int .i64 0])) (wd.setCell ⟨ga, i, none⟩ (.int .i64 y))) := by
          rw [Hid, HR2.out, if_pos (by rw [Htn.out]; exact h0), Hlast.out]
          refine ⟨_, _, _, rfl, g0.2.2.1.kept RCh.firm (Kept.set (p := ⟨ga, i, none⟩) (fun h => ?_) _), h1, g0.2.1.trans (Kept.set (p := ⟨ga, i, none⟩) (fun h => h.1 rfl) _)⟩
          have h3 := (Hh.out.e.ra.lt (b := ga) rfl).2
          have h4 : u1.heap.size ≤ ga := h
          omega
        clear g0 h1 k1 x1 x2 d0 d1 hHeld HQ
        go_wp2_with fail
        go_ret2
        exact HF.out
      · obtain rfl : t = 0 := by omega
        have HF : Hid (NxOut w p ga ca gb cb Off (nextP At Off (i : Int) (q : Int) L) u1 (.returned (.tuple #[.slice ra 0 rc, .int .i64 0])) u2) := by
          rw [Hid, HR2.out, if_neg (by rw [Htn.out]; exact h0)]
          exact ⟨_, _, _, rfl, HT.out, H2.out.1, H2.out.2⟩
        go_wp2_with fail
        go_ret2
        exact HF.out
end Go.Proofs.Ytnlmipgmakmbiaa
