/- Further facts for the laws' walks: an info beside others that is written over. Plain facts on worlds. No condition. -/
import Derived.Test.YtddeilhelkfpoaaQ16
namespace Go.Proofs.Ytddeilhelkfpoaa
open Go.RowKit
set_option linter.unusedSimpArgs false

theorem put_none (a : Act) (v : Value) : a.put none v = a := rfl
theorem sizeInfo : (Try.prog.info? 41).map (·.size) = some 15 := by kernel_rfl
theorem sizeNode : (Try.prog.info? 27).map (·.size) = some 9 := by kernel_rfl
/-- Blocks from lo up to hi. -/
def Seg (lo hi : Nat) : Where := fun b => lo ≤ b ∧ b < hi
/-- An info in a block of its own, its lists from lo up to hi, all since w7, and the block none of the lists'. -/
structure Spl (A : Where) (w7 u : World) (D : Nat) (cs : List Value) (lo hi : Nat) (x : InfoD) : Prop where
  box : BoxL u D cs
  inf : InfoAt A (Seg lo hi) u cs x
  thr : ThrL u cs
  bel : Below w7.heap.size w7 u
  glo : w7.heap.size ≤ lo
  ghi : hi ≤ u.heap.size
  gD : w7.heap.size ≤ D
  nD : ¬ Seg lo hi D
theorem ThrL.on {u u' : World} {cs : List Value} (h : ThrL u cs) (hb : Below u.heap.size u u') : ThrL u' cs := fun v hv a n c e => (h v hv a n c e).on hb
theorem Spl.on {A : Where} {w7 u u' : World} {D : Nat} {cs : List Value} {lo hi : Nat} {x : InfoD} (h : Spl A w7 u D cs lo hi x) (hb : Below u.heap.size u u') : Spl A w7 u' D cs lo hi x :=
  ⟨h.box.on hb, h.inf.on hb, h.thr.on hb, on2 h.bel hb, h.glo, Nat.le_trans h.ghi hb.size, h.gD, h.nD⟩
theorem spl_mk {w w7 u : World} {D : Nat} {lst zs : List Value} {lo hi : Nat} {x : InfoD} (hz : BoxL u D zs) (hi0 : InfoAt (fun b => b < w.heap.size) (Seg lo hi) u lst x) (ht : ThrL u lst) (hb : Below w7.heap.size w7 u) (hw : w.heap.size ≤ D) (gD : w7.heap.size ≤ D) (glo : w7.heap.size ≤ lo) (ghi : hi ≤ u.heap.size) (nD : ¬ Seg lo hi D) (hl : zs.length = lst.length) : Spl (fun b => b < w.heap.size) w7 (u.setCells D 0 lst) D lst lo hi x := by
  refine ⟨box_write hz hl, hi0.store (fun b _ h => ?_) 0 lst, fun v hv a n c e => (ht v hv a n c e).cells _ _ _, below_setCells hb gD, glo, Nat.le_trans ghi (kept_setCells (A := fun _ => False) (b := D) (fun h => h) (vs := lst) (o := 0) (u := u)).1, gD, nD⟩
  rcases h with h | h
  · have h1 : b < w.heap.size := h; omega
  · rintro rfl; exact nD h
theorem spl_store {w7 u : World} {D D2 : Nat} {lst : List Value} {lo hi : Nat} {x : InfoD} (h : Spl (fun b => b < w7.heap.size) w7 u D lst lo hi x) (g2 : w7.heap.size ≤ D2) (hne : D2 ≠ D) (n2 : ¬ Seg lo hi D2) (vs : List Value) : Spl (fun b => b < w7.heap.size) w7 (u.setCells D2 0 vs) D lst lo hi x := by
  refine ⟨h.box.kept (A := fun b => b ≠ D2) (kept_setCells (fun h => h rfl)) (fun e => hne e.symm), h.inf.store (fun b _ hb => ?_) 0 vs, fun v hv a n c e => (h.thr v hv a n c e).cells _ _ _, below_setCells h.bel g2, h.glo, Nat.le_trans h.ghi (kept_setCells (A := fun _ => False) (b := D2) (fun h => h) (vs := vs) (o := 0) (u := u)).1, h.gD, h.nD⟩
  rcases hb with hb | hb
  · have h1 : b < w7.heap.size := hb; omega
  · rintro rfl; exact n2 hb
theorem thr_kept {α : Type} [Inhabited α] {R : Rep α} {bytes : Nat} {F : Where} {u u' : World} {a : Option Addr} {n c : Nat} {L : List α} (hs : SlAt R 1 bytes F u a n c L) (h : Thr u a n) (hk : Kept F u u') : Thr u' a n := by
  rcases Nat.eq_zero_or_pos n with rfl | h0
  · exact fun B off e j hj => absurd hj (Nat.not_lt_zero j)
  · obtain ⟨B, off, rfl, _, hA, _⟩ := hs.2.2.2.2 h0
    exact h.kept hk (fun B' off' e => by injection e with e; injection e with e; subst e; exact hA)
theorem ThrL.kept {A F : Where} {u u' : World} {cs : List Value} {x : InfoD} (h : ThrL u cs) (hi : InfoAt A F u cs x) (hk : Kept F u u') : ThrL u' cs := by
  obtain ⟨c, d, rfl, hc, hd⟩ := hi
  obtain ⟨_, _, rfl, _⟩ := hc.out
  obtain ⟨d1, d2, rfl, ⟨a9, n9, m9, rfl, s9⟩, ⟨d3, d4, rfl, hd3, ⟨d5, d6, rfl, ⟨a13, n13, m13, rfl, s13⟩, ⟨a14, n14, m14, rfl, s14⟩⟩⟩⟩ := hd
  have e3 := RRes.out hd3
  subst e3
  exact thrL3 (thr_kept s9 (h (.slice a9 n9 m9) (by simp) _ _ _ rfl) hk) (thr_kept s13 (h (.slice a13 n13 m13) (by simp) _ _ _ rfl) hk) (thr_kept s14 (h (.slice a14 n14 m14) (by simp) _ _ _ rfl) hk)
theorem spoilt_box {u u' : World} {D lo hi : Nat} {cs : List Value} (h : BoxL u D cs) (hk : Turned (Seg lo hi) u u') (hD : ¬ Seg lo hi D) : BoxL u' D cs := h.kept hk.1 hD
theorem spoilt_info {A F : Where} {u u' : World} {cs : List Value} {x : InfoD} {lo hi : Nat} (h : InfoAt A F u cs x) (hk : Turned (Seg lo hi) u u') (hA : ∀ b, A b → b < lo) (hF : ∀ b, F b → b < lo) : InfoAt A F u' cs x :=
  h.kept (hk.1.weak (fun b hb h => absurd h.1 (Nat.not_le.2 (hA b hb)))) (hk.1.weak (fun b hb h => absurd h.1 (Nat.not_le.2 (hF b hb))))
theorem spoilt_all {A : Where} {u u' : World} {D lo2 hi2 lo hi : Nat} {cs : List Value} {x : InfoD} (hb : BoxL u D cs) (hi0 : InfoAt A (Seg lo2 hi2) u cs x) (ht : ThrL u cs) (hk : Turned (Seg lo hi) u u') (hA : ∀ b, A b → b < lo) (hap : hi ≤ lo2) (hD : hi ≤ D) : BoxL u' D cs ∧ InfoAt A (Seg lo2 hi2) u' cs x ∧ ThrL u' cs := by
  have k2 : Kept (Seg lo2 hi2) u u' := hk.1.weak (fun b hb h => by have h1 := hb.1; have h2 := h.2; omega)
  exact ⟨hb.kept hk.1 (fun h => by have h1 := h.2; omega), hi0.kept (hk.1.weak (fun b hb h => absurd h.1 (Nat.not_le.2 (hA b hb)))) k2, ht.kept hi0 k2⟩
end Go.Proofs.Ytddeilhelkfpoaa
