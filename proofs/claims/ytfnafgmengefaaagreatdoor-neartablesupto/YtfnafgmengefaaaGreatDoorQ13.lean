/- A struct variable written over as a whole. Plain facts on worlds. No condition. slices.Clone and maps.Clone: rows and maps of one's own. Condition: what is cloned lies as is said of it. wish.clone gives a term and a map of its own. Condition: the wish lies as is said of it. wish.clone gives a term and a map of its own. Condition: the wish lies as is said of it. -/
import Derived.Test.YtfnafgmengefaaaGreatDoorQ10
import Derived.Test.YtfnafgmengefaaaGreatDoorQ12
import Derived.Shelf.SlMaps.Clone
namespace Go.Proofs.YtfnafgmengefaaaGreatDoor
open Go.RowKit
set_option linter.unusedSimpArgs false

theorem wpl_w8 {P : Program} {ops : Array Oper} {Q : Exit → Act → World → Prop} {rest : List Oper} {a : Act} {u W : World} (h : W = u) (k : wpList P ops Q rest a W) : wpList P ops Q rest a u := h ▸ k
theorem box_over8 {u : World} {D : Nat} {zs cs : List Value} (hb : BoxL u D zs) (hl : zs.length = cs.length) : BoxL (u.setCells D 0 cs) D cs := by
  have hth : u.there D 0 cs.length := hl ▸ hb.there
  have hr := World.rangeAt_setCells_same u D 0 cs hth
  have ht2 := World.there_setCells hth D 0 cs
  refine ⟨Nat.lt_of_lt_of_le hb.1 (kept_setCells (A := fun _ => False) (b := D) (fun h => h) (vs := cs) (o := 0) (u := u)).1, fun j v hj => ?_⟩
  have h1 := hr j v hj
  have h2 := (ht2 j (List.getElem?_eq_some_iff.1 hj).1).2
  rw [Nat.zero_add] at h1 h2
  exact ⟨h1, h2⟩
end Go.Proofs.YtfnafgmengefaaaGreatDoor
namespace Go.Proofs.YtfnafgmengefaaaGreatDoor
open Go.RowKit Go.Maps
set_option linter.unusedSimpArgs false
set_option maxRecDepth 100000

def Lo8 (A : Where) (w : World) : Where := fun b => A b ∧ b < w.heap.size
theorem sl_none8 {α : Type} [Inhabited α] {R : Rep α} {k bytes : Nat} {A : Where} {w : World} {n cap : Nat} {L : List α} (h : SlAt R k bytes A w none n cap L) : n = 0 ∧ cap = 0 ∧ L = [] := by
  obtain ⟨h1, h2, h3, _, _⟩ := h
  have := h3 rfl
  subst this
  obtain rfl : n = 0 := by omega
  exact ⟨rfl, rfl, List.length_eq_zero_iff.1 h1⟩
theorem infkLabel : (Tryz.prog.info? 55).map (fun i => (i.zero, i.size, i.bytes)) = some (some (.agg #[.string ⟨#[]⟩, .string ⟨#[]⟩]), 2, 32) := by kernel_rfl
set_option maxHeartbeats 1000000 in
theorem CloneLabel8 (a : Option Addr) (n cap : Nat) (A : Where) (L : List Lab) (w : World) (hL : SlAt RLabel 2 32 A w a n cap L) : Calls Tryz.prog 52 #[.slice a n cap] w fun e w' => ∃ v, e = .returned v ∧ Row RLabel 2 (fun _ => False) w w' 55 v L := by
  have hb0 : Below w.heap.size w (w.alloc (.cells #[] 55)) := by go_grown
  rcases a with _ | ad
  · have hE := fun w => Lib.run_eql_slice_nil (P := Tryz.prog) w 22 55 none 0 0 0 0 Tryz.underlying22
    obtain ⟨rfl, rfl, rfl⟩ := sl_none8 hL
    have HP : Hid (Row RLabel 2 (fun _ => False) w w 55 (.slice none 0 0) ([] : List Lab)) := Row.nil _ _ _
    clear hL
    go_enter Tryz.func52, Tryz.ntmps52
    go_wp2_with fail
    go_ret
    exact ⟨_, rfl, HP.out⟩
  · have hE := fun w => Lib.run_eql_slice_nil (P := Tryz.prog) w 22 55 (some ad) n cap 0 0 Tryz.underlying22
    have hL' : SlAt RLabel 2 32 (Lo8 A w) w (some ad) n cap L := hL.weak RLabel.firm (fun b hb h => ⟨h, hb⟩)
    obtain ⟨xs, hc, hcell, hone⟩ := (hL'.on RLabel.firm hb0).chunks RLabel.firm
    have hn := hL.1
    have hbb := hL.2.2.2.1
    subst hn
    have HR : Hid (Row RLabel 2 (fun _ => False) w (w.alloc (.cells #[] 55)) 55 (.slice (some ⟨w.heap.size, 0, none⟩) 0 0) ([] : List Lab)) := Row.start _ w w _ (Below.refl _ _)
    have HC : Hid (Chunks RLabel 2 (fun b => False ∧ Value.ownBlock (.slice (some ⟨w.heap.size, 0, none⟩) 0 0) ≠ some b) (w.alloc (.cells #[] 55)) xs L) := ⟨hc.1, fun i hi => by obtain ⟨cs, h1, h2⟩ := hc.2 i hi; exact ⟨cs, h1, h2⟩⟩
    have HX : Hid (∀ j y, xs[j]? = some y → (w.alloc (.cells #[] 55)).cell? (ad.add j) = some y) := hcell
    have HO : Hid (∀ y ∈ xs, y.oneCell' = true) := hone
    clear hc hcell hone hL hL'
    go_enter Tryz.func52, Tryz.ntmps52
    go_wp2_with (at_builtin; go_must (refine row_append RLabel.firm (A := (fun _ => False)) (w0 := w) rfl _ _ 22 55 rfl _ 32 infkLabel Tryz.underlying22 rfl (by decide) (by decide) _ [] rfl HR.out ad L.length cap xs L rfl rfl HC.out HX.out HO.out (by simp; omega) ?_); intro v1 w1 hrow1 hg1)
    go_ret
    exact ⟨_, rfl, by simpa using hrow1⟩
theorem infkReq : (Tryz.prog.info? 108).map (fun i => (i.zero, i.size, i.bytes)) = some (some (.agg #[.string ⟨#[]⟩, .int .i64 0, .slice none 0 0]), 3, 48) := by kernel_rfl
set_option maxHeartbeats 1000000 in
theorem CloneReq8 (a : Option Addr) (n cap : Nat) (A : Where) (L : List Ask) (w : World) (hL : SlAt RReq 3 48 A w a n cap L) : Calls Tryz.prog 82 #[.slice a n cap] w fun e w' => ∃ v, e = .returned v ∧ Row RReq 3 (Lo8 A w) w w' 108 v L := by
  have hb0 : Below w.heap.size w (w.alloc (.cells #[] 108)) := by go_grown
  rcases a with _ | ad
  · have hE := fun w => Lib.run_eql_slice_nil (P := Tryz.prog) w 26 108 none 0 0 0 0 Tryz.underlying26
    obtain ⟨rfl, rfl, rfl⟩ := sl_none8 hL
    have HP : Hid (Row RReq 3 (Lo8 A w) w w 108 (.slice none 0 0) ([] : List Ask)) := Row.nil _ _ _
    clear hL
    go_enter Tryz.func82, Tryz.ntmps82
    go_wp2_with fail
    go_ret
    exact ⟨_, rfl, HP.out⟩
  · have hE := fun w => Lib.run_eql_slice_nil (P := Tryz.prog) w 26 108 (some ad) n cap 0 0 Tryz.underlying26
    have hL' : SlAt RReq 3 48 (Lo8 A w) w (some ad) n cap L := hL.weak RReq.firm (fun b hb h => ⟨h, hb⟩)
    obtain ⟨xs, hc, hcell, hone⟩ := (hL'.on RReq.firm hb0).chunks RReq.firm
    have hn := hL.1
    have hbb := hL.2.2.2.1
    subst hn
    have HR : Hid (Row RReq 3 (Lo8 A w) w (w.alloc (.cells #[] 108)) 108 (.slice (some ⟨w.heap.size, 0, none⟩) 0 0) ([] : List Ask)) := Row.start _ w w _ (Below.refl _ _)
    have HC : Hid (Chunks RReq 3 (fun b => Lo8 A w b ∧ Value.ownBlock (.slice (some ⟨w.heap.size, 0, none⟩) 0 0) ≠ some b) (w.alloc (.cells #[] 108)) xs L) := hc.weak RReq.firm (fun b _ h => ⟨h, by simp only [Value.ownBlock, ne_eq, Option.some.injEq]; have := h.2; omega⟩)
    have HX : Hid (∀ j y, xs[j]? = some y → (w.alloc (.cells #[] 108)).cell? (ad.add j) = some y) := hcell
    have HO : Hid (∀ y ∈ xs, y.oneCell' = true) := hone
    clear hc hcell hone hL hL'
    go_enter Tryz.func82, Tryz.ntmps82
    go_wp2_with (at_builtin; go_must (refine row_append RReq.firm (A := (Lo8 A w)) (w0 := w) rfl _ _ 26 108 rfl _ 48 infkReq Tryz.underlying26 rfl (by decide) (by decide) _ [] rfl HR.out ad L.length cap xs L rfl rfl HC.out HX.out HO.out (by simp; omega) ?_); intro v1 w1 hrow1 hg1)
    go_ret
    exact ⟨_, rfl, by simpa using hrow1⟩
theorem infkStr : (Tryz.prog.info? 9).map (fun i => (i.zero, i.size, i.bytes)) = some (some (.string ⟨#[]⟩), 1, 16) := by kernel_rfl
set_option maxHeartbeats 1000000 in
theorem CloneStr8 (a : Option Addr) (n cap : Nat) (A : Where) (L : List ByteArray) (w : World) (hL : SlAt RStr 1 16 A w a n cap L) : Calls Tryz.prog 83 #[.slice a n cap] w fun e w' => ∃ v, e = .returned v ∧ Row RStr 1 (fun _ => False) w w' 9 v L := by
  have hb0 : Below w.heap.size w (w.alloc (.cells #[] 9)) := by go_grown
  rcases a with _ | ad
  · have hE := fun w => Lib.run_eql_slice_nil (P := Tryz.prog) w 31 9 none 0 0 0 0 Tryz.underlying31
    obtain ⟨rfl, rfl, rfl⟩ := sl_none8 hL
    have HP : Hid (Row RStr 1 (fun _ => False) w w 9 (.slice none 0 0) ([] : List ByteArray)) := Row.nil _ _ _
    clear hL
    go_enter Tryz.func83, Tryz.ntmps83
    go_wp2_with fail
    go_ret
    exact ⟨_, rfl, HP.out⟩
  · have hE := fun w => Lib.run_eql_slice_nil (P := Tryz.prog) w 31 9 (some ad) n cap 0 0 Tryz.underlying31
    have hL' : SlAt RStr 1 16 (Lo8 A w) w (some ad) n cap L := hL.weak RStr.firm (fun b hb h => ⟨h, hb⟩)
    obtain ⟨xs, hc, hcell, hone⟩ := (hL'.on RStr.firm hb0).chunks RStr.firm
    have hn := hL.1
    have hbb := hL.2.2.2.1
    subst hn
    have HR : Hid (Row RStr 1 (fun _ => False) w (w.alloc (.cells #[] 9)) 9 (.slice (some ⟨w.heap.size, 0, none⟩) 0 0) ([] : List ByteArray)) := Row.start _ w w _ (Below.refl _ _)
    have HC : Hid (Chunks RStr 1 (fun b => False ∧ Value.ownBlock (.slice (some ⟨w.heap.size, 0, none⟩) 0 0) ≠ some b) (w.alloc (.cells #[] 9)) xs L) := ⟨hc.1, fun i hi => by obtain ⟨cs, h1, h2⟩ := hc.2 i hi; exact ⟨cs, h1, h2⟩⟩
    have HX : Hid (∀ j y, xs[j]? = some y → (w.alloc (.cells #[] 9)).cell? (ad.add j) = some y) := hcell
    have HO : Hid (∀ y ∈ xs, y.oneCell' = true) := hone
    clear hc hcell hone hL hL'
    go_enter Tryz.func83, Tryz.ntmps83
    go_wp2_with (at_builtin; go_must (refine row_append RStr.firm (A := (fun _ => False)) (w0 := w) rfl _ _ 31 9 rfl _ 16 infkStr Tryz.underlying31 rfl (by decide) (by decide) _ [] rfl HR.out ad L.length cap xs L rfl rfl HC.out HX.out HO.out (by simp; omega) ?_); intro v1 w1 hrow1 hg1)
    go_ret
    exact ⟨_, rfl, by simpa using hrow1⟩
set_option maxHeartbeats 2000000 in
theorem dClone_calls (b : Nat) (es : Array MapEntry) (clock : Nat) (w : World) (hb : w.heap[b]? = some (.map es clock)) :
    Calls Tryz.prog 53 #[.map (some b)] w fun e w' => e = .returned (.map (some w.heap.size)) ∧ w' = w.alloc (.map es clock) := by
  have hq := fun w => run_eql_map_nil_sl (P := Tryz.prog) w 64 _ _ (some b) Tryz.underlying64
  go_enter Tryz.func53, Tryz.ntmps53
  go_wp2
  rw [run_callFunc_extern Tryz.func57 (by kernel_rfl) (by kernel_rfl) (by kernel_rfl) (e := Extern.MapsClone.clone) (by kernel_rfl), run_maps_clone_sl w 64 hb]
  simp only [Result.andThen]
  rw [Oper.upon_value]
  go_wp2
  rw [run_typeAssert_map_sl _ 64 _ _ _ _ Tryz.underlying64]
  simp only [Result.andThen]
  rw [Oper.upon_value]
  go_wp2
  go_ret
  exact ⟨rfl, rfl⟩
/-- A clone of a map tells what the map tells. -/
theorem cClone_calls {w : World} {mb N : Nat} {f : Lab → Int} (h : CntAt w mb N f) : Calls Tryz.prog 53 #[.map (some mb)] w fun e w' => e = .returned (.map (some w.heap.size)) ∧ CntAt w' w.heap.size N f ∧ w'.heap.size = w.heap.size + 1 ∧ Below w.heap.size w w' := by
  obtain ⟨D, ⟨es, ck, h1, h2⟩, h3⟩ := h
  refine (dClone_calls mb es ck w h1).mono ?_
  rintro e w' ⟨rfl, rfl⟩
  exact ⟨rfl, ⟨D, ⟨es, ck, (MapKept.heap_alloc w _).1, h2⟩, h3⟩, by simp, (Below.refl _ w).alloc (Nat.le_refl _) _⟩
end Go.Proofs.YtfnafgmengefaaaGreatDoor
namespace Go.Proofs.YtfnafgmengefaaaGreatDoor
open Go.RowKit Go.Maps
set_option linter.unusedSimpArgs false
set_option maxRecDepth 100000

/-- A row of what is asked, in block g; up to k each one's values are new, from k on they are old. -/
def RqAt (w0 : World) (g : Nat) (u : World) (n k : Nat) (L : List Ask) : Prop :=
  ∀ i, i < n → ∃ h : Hd, (u.cell? ⟨g, i * 3, none⟩ = some (.string (L.getD i default).1) ∧ u.cell? ⟨g, i * 3 + 1, none⟩ = some (.int .i64 (L.getD i default).2.1) ∧ u.cell? ⟨g, i * 3 + 2, none⟩ = some (.slice h.1 h.2.1 h.2.2)) ∧ u.frozen? ⟨g, i * 3 + 2, none⟩ = false ∧
    SlAt RStr 1 16 (if i < k then (fun b => Fresh w0 b ∧ b ≠ g) else (fun b => b < w0.heap.size)) u h.1 h.2.1 h.2.2 (L.getD i default).2.2 ∧ (L.getD i default).1.size ≤ 140737488355328
theorem frozen_on {u u' : World} {B : Nat} (hb : Below B u u') {p : Addr} (hp : p.block < B) : u'.frozen? p = u.frozen? p := by
  unfold World.frozen?
  rw [hb.block p.block hp]
theorem frozen_other {u : World} {p q : Addr} {v : Value} (h : q.block ≠ p.block) : (u.setCell p v).frozen? q = u.frozen? q := by
  unfold World.frozen?
  rw [Below.heap_setCell u p v q.block h]
theorem RqAt.on {w0 u u' : World} {g n k : Nat} {L : List Ask} (h : RqAt w0 g u n k L) (hb : Below u.heap.size u u') (hg : 0 < n → g < u.heap.size) : RqAt w0 g u' n k L := fun i hi => by
  obtain ⟨hd, ⟨c0, c1, c2⟩, f2, s, z⟩ := h i hi
  have hg' := hg (by omega)
  exact ⟨hd, ⟨(hb.cell (p := ⟨g, i * 3, none⟩) hg').trans c0, (hb.cell (p := ⟨g, i * 3 + 1, none⟩) hg').trans c1, (hb.cell (p := ⟨g, i * 3 + 2, none⟩) hg').trans c2⟩, (frozen_on hb (p := ⟨g, i * 3 + 2, none⟩) hg').trans f2, s.on RStr.firm hb, z⟩
theorem RqAt.set {w0 u : World} {g n k : Nat} {L : List Ask} (h : RqAt w0 g u n k L) (hk : k < n) (hg0 : w0.heap.size ≤ g) {a : Option Addr} {m c : Nat} (hs : SlAt RStr 1 16 (fun b => Fresh w0 b ∧ b ≠ g) u a m c (L.getD k default).2.2) : RqAt w0 g (u.setCell ⟨g, k * 3 + 2, none⟩ (.slice a m c)) n (k + 1) L := fun i hi => by
  obtain ⟨hd, ⟨c0, c1, c2⟩, f2, s, z⟩ := h i hi
  have fz : ∀ j, (u.setCell ⟨g, k * 3 + 2, none⟩ (.slice a m c)).frozen? ⟨g, j, none⟩ = u.frozen? ⟨g, j, none⟩ := fun j => World.frozen?_setCell _ _ _ _
  have ce : ∀ j, j ≠ k * 3 + 2 → (u.setCell ⟨g, k * 3 + 2, none⟩ (.slice a m c)).cell? ⟨g, j, none⟩ = u.cell? ⟨g, j, none⟩ := fun j hj => World.cell?_setCell_other (h := fun e => hj (congrArg Addr.off e).symm) ..
  by_cases hik : i = k
  · subst hik
    refine ⟨(a, m, c), ⟨(ce _ (by omega)).trans c0, (ce _ (by omega)).trans c1, World.cell?_setCell_same (h := c2) ..⟩, (fz _).trans f2, ?_, z⟩
    rw [if_pos (Nat.lt_succ_self _)]
    exact hs.kept RStr.firm (Kept.set (fun k => k.2 rfl) _)
  · refine ⟨hd, ⟨(ce _ (by omega)).trans c0, (ce _ (by omega)).trans c1, (ce _ (by omega)).trans c2⟩, (fz _).trans f2, ?_, z⟩
    by_cases h1 : i < k
    · rw [if_pos h1] at s
      rw [if_pos (by omega)]
      exact s.kept RStr.firm (Kept.set (fun k => k.2 rfl) _)
    · rw [if_neg h1] at s
      rw [if_neg (by omega)]
      exact s.kept RStr.firm (Kept.set (p := ⟨g, k * 3 + 2, none⟩) (fun (h : g < w0.heap.size) => absurd h (Nat.not_lt.2 hg0)) _)
theorem RqAt.sl {w0 u : World} {g n cap : Nat} {L : List Ask} (h : RqAt w0 g u n n L) (hl : L.length = n) (hc : n ≤ cap) (hb : n * 48 ≤ 140737488351232) (hg0 : w0.heap.size ≤ g) (hg : g < u.heap.size) : SlAt RReq 3 48 (Fresh w0) u (some ⟨g, 0, none⟩) n cap L := by
  refine ⟨hl, hc, (fun e => by cases e), hb, fun _ => ⟨g, 0, rfl, hg, hg0, fun i hi => ?_⟩⟩
  obtain ⟨hd, ⟨c0, c1, c2⟩, _, s, z⟩ := h i hi
  rw [if_pos hi] at s
  refine ⟨_, RReq.mk (h2 := hd) z (s.weak RStr.firm (fun b _ h => h.1)), fun j v hj => ?_⟩
  rw [Nat.zero_add]
  match j, hj with
  | 0, hj => simp at hj; subst hj; exact c0
  | 1, hj => simp at hj; subst hj; exact c1
  | 2, hj => simp at hj; subst hj; exact c2
theorem rq_of_row {A : Where} {w0 u : World} {g cap : Nat} {L : List Ask} (h : Row RReq 3 (Lo8 A w0) w0 u 108 (.slice (some ⟨g, 0, none⟩) L.length cap) L) : RqAt w0 g u L.length 0 L ∧ w0.heap.size ≤ g ∧ g < u.heap.size ∧ L.length ≤ cap := by
  obtain ⟨xs, h1, hc⟩ := h
  rcases own_cells h1.2 with ⟨e, _⟩ | ⟨g', cap', e, hcp, hB, hg, hcell⟩
  · cases e
  · injection e with e1 e2 e3
    injection e1 with e1
    obtain rfl : g = g' := by injection e1
    subst e3
    refine ⟨fun i hi => ?_, hB, hg, hcp⟩
    obtain ⟨cs, hr, hx⟩ := hc.2 i hi
    obtain ⟨hd, rfl, hz, hs⟩ := hr.out
    have hlt : ∀ j, j < 3 → i * 3 + j < L.length * 3 := fun j hj => by omega
    have e0 := hcell (i * 3) (by have := hlt 0 (by omega); omega)
    have e1' := hcell (i * 3 + 1) (hlt 1 (by omega))
    have e2' := hcell (i * 3 + 2) (hlt 2 (by omega))
    have x0 := hx 0 (by omega)
    rw [Nat.add_zero] at x0
    refine ⟨hd, ⟨e0.1.trans x0, e1'.1.trans (hx 1 (by omega)), e2'.1.trans (hx 2 (by omega))⟩, e2'.2, ?_, hz⟩
    rw [if_neg (Nat.not_lt_zero _)]
    exact hs.weak RStr.firm (fun b _ h => h.1.2)
end Go.Proofs.YtfnafgmengefaaaGreatDoor
namespace Go.Proofs.YtfnafgmengefaaaGreatDoor
open Go.RowKit Go.Maps
set_option linter.unusedSimpArgs false
set_option maxRecDepth 100000

def WcS (D : Nat) (key : ByteArray) (mb : Nat) (u : World) : Prop := u.cell? ⟨D, 1, none⟩ = some (.string key) ∧ u.cell? ⟨D, 2, none⟩ = some (.map (some mb))
set_option maxHeartbeats 8000000 in
theorem wclone_calls {w : World} {cs : List Value} {A : Where} {x : WishD} {N : Nat} {f : Lab → Int} (hx : Hid (RWish A w cs x)) (hc : Hid (CntAt w x.2 N f)) :
    Calls Tryz.prog 64 #[.agg cs.toArray] w fun e w' => ∃ cs' mb', e = .returned (.agg cs'.toArray) ∧ RWish (Fresh w) w' cs' (x.1, mb') ∧ CntAt w' mb' N f ∧ w.heap.size ≤ mb' ∧ Below w.heap.size w w' := by
  obtain ⟨⟨b1, b2, b3⟩, rfl, hs, hk⟩ := hx.out.out
  simp only at hs ⊢
  obtain ⟨W2, hW2⟩ : ∃ W, W = (w.alloc (.cells #[.slice b1 b2 b3, .string x.1.2, .map (some x.2)] 104)).alloc (.cells #[.slice none 0 0, .string ⟨#[]⟩, .map none] 104) := ⟨_, rfl⟩
  have B2 : Below w.heap.size w W2 := by rw [hW2]; go_grown
  have q0 : BoxL W2 w.heap.size [.slice b1 b2 b3, .string x.1.2, .map (some x.2)] := by rw [hW2]; exact (BoxL.new w 104 _).on ((Below.refl _ _).alloc (Nat.le_refl _) _)
  have q1 : BoxL W2 (w.heap.size + 1) [.slice none 0 0, .string ⟨#[]⟩, .map none] := by have h1 := BoxL.new (w.alloc (.cells #[.slice b1 b2 b3, .string x.1.2, .map (some x.2)] 104)) 104 [.slice none 0 0, .string ⟨#[]⟩, .map none]; rw [hW2]; simpa using h1
  have HQ : Hid (∀ u, Below W2.heap.size W2 u → BoxL u w.heap.size [.slice b1 b2 b3, .string x.1.2, .map (some x.2)] ∧ BoxL u (w.heap.size + 1) [.slice none 0 0, .string ⟨#[]⟩, .map none] ∧ CntAt u x.2 N f ∧ Below w.heap.size w u) := fun u hb => ⟨q0.on hb, q1.on hb, (hc.out.on B2).on hb, on2 B2 hb⟩
  have hsz : Hid (W2.heap.size = w.heap.size + 1 + 1) := by rw [Hid, hW2]; simp
  have HCl := CloneReq8 b1 b2 b3 A x.1.1 W2 (hs.on RReq.firm B2)
  have c0 := (q0.2 0 _ rfl).1
  have hlen : Hid (x.1.1.length = b2) := hs.1
  have hbb : Hid (b2 * 48 ≤ 140737488351232) := hs.2.2.2.1
  have hb2n : b2 < 140737488355328 := by have := hs.2.2.2.1; omega
  have HKy : Hid (x.1.2.size ≤ 140737488355328) := hk
  clear hx hc hs q0 q1 B2 hk
  go_enter Tryz.func64, Tryz.ntmps64
  go_upto_region 1 with fail
  rw [← hW2]
  clear hW2
  go_wp2_with fail
  refine HCl.mono ?_
  clear HCl c0
  rintro e u1 ⟨v, rfl, hrow⟩
  have hb1 : Below W2.heap.size W2 u1 := hrow.below
  obtain ⟨a1, c1, rfl, hfin⟩ : ∃ a1 c1, v = .slice a1 b2 c1 ∧ ((b2 = 0 ∧ SlAt RReq 3 48 (Fresh w) u1 a1 b2 c1 x.1.1) ∨ ∃ g, a1 = some ⟨g, 0, none⟩ ∧ 0 < b2 ∧ RqAt W2 g u1 b2 0 x.1.1 ∧ W2.heap.size ≤ g ∧ g < u1.heap.size ∧ b2 ≤ c1) := by
    have hl := hlen.out
    obtain ⟨a1, c1, e1, s1⟩ := hrow.sl (bytes := 48) RReq.firm (by rw [hl]; exact hbb.out)
    rw [hl] at e1 s1
    refine ⟨a1, c1, e1, ?_⟩
    rcases Nat.eq_zero_or_pos b2 with h0 | h0
    · exact .inl ⟨h0, by subst h0; exact ⟨s1.1, s1.2.1, s1.2.2.1, s1.2.2.2.1, fun h => absurd h (Nat.lt_irrefl _)⟩⟩
    · obtain ⟨B, off, ea, _, _, _⟩ := s1.2.2.2.2 h0
      refine .inr ?_
      have hr2 := hrow
      rw [e1, ← hl] at hr2
      have ho : off = 0 := by
        obtain ⟨xs, h1, _⟩ := hr2
        rcases own_cells h1.2 with ⟨e, _⟩ | ⟨g, cp, e, _⟩
        · rw [ea] at e; cases e
        · rw [ea] at e; injection e with e2; injection e2 with e2; injection e2
      subst ho; rw [ea] at hr2
      have h5 := rq_of_row hr2
      rw [hl] at h5
      exact ⟨B, ea, h0, h5⟩
  clear hrow
  rcases hfin with ⟨hz, hs1⟩ | ⟨g, rfl, hpos, hrq, hg0, hg1, hcp⟩
  ·
    subst hz
    have hbw : Hid (Below W2.heap.size W2 u1) := hb1
    have HSl : Hid (SlAt RReq 3 48 (fun b => Fresh w b ∧ b ≠ w.heap.size + 1) u1 a1 0 c1 x.1.1) := ⟨hs1.1, hs1.2.1, hs1.2.2.1, hs1.2.2.2.1, fun h => absurd h (Nat.lt_irrefl _)⟩
    clear hs1 hb1
    go_wp2_with fail
    go_loopw [11] (fun i wr => i = .int .i64 0 ∧ wr = u1) (fun _ _ => 0)
    case atStart => exact ⟨rfl, rfl⟩
    case round =>
      obtain ⟨rfl, rfl⟩ := hrel
      obtain ⟨k0, k1, k2, k3⟩ := HQ.out wr hbw.out
      have HS : Hid (∀ v, Below (wr).heap.size (wr) v → WcS w.heap.size x.1.2 x.2 v) := fun v hb => ⟨((k0.on hb).2 1 _ rfl).1, ((k0.on hb).2 2 _ rfl).1⟩
      have HCm := cClone_calls (w := (wr).drew) k2
      have HFi : Hid (∀ v, Below (wr).heap.size (wr) v → CntAt v (wr).heap.size N f → RWish (fun b => Fresh w b ∧ b ≠ w.heap.size + 1) v [.slice a1 0 c1, .string x.1.2, .map (some (wr).heap.size)] (x.1, (wr).heap.size) ∧ BoxL v (w.heap.size + 1) [.slice none 0 0, .string ⟨#[]⟩, .map none] ∧ w.heap.size + 1 < (wr).heap.size ∧ Below w.heap.size w v) := fun v hb _ => ⟨RWish.mk (x := (x.1, (wr).heap.size)) (h0 := (a1, 0, c1)) (HSl.out.on RReq.firm hb) HKy.out, k1.on hb, k1.1, on2 k3 hb⟩
      clear k0 k1 k2 k3 HQ
      go_upto_region 7 with fail
      refine t0 (WcS w.heap.size x.1.2 x.2) (HS.out _ (Below.refl _ _).drew) (fun hHeld => ?_)
      refine' tk 0 ?_ ?_; rotate_left
      · intro u ⟨_, _⟩; go_simp; try with_reducible rfl
      try go_frame
      refine' tk 1 ?_ ?_; rotate_left
      · intro u ⟨_, _⟩; go_simp; try with_reducible rfl
      try go_frame
      refine' tk 2 ?_ ?_; rotate_left
      · intro u ⟨_, _⟩; go_simp; try with_reducible rfl
      try go_frame
      refine' tk 3 ?_ ?_; rotate_left
      · intro u ⟨_, _⟩; go_simp; try with_reducible rfl
      try go_frame
      refine' tk 4 ?_ ?_; rotate_left
      · intro u ⟨_, _⟩; go_simp; try with_reducible rfl
      try go_frame
      refine' tk 5 ?_ ?_; rotate_left
      · intro u ⟨_, _⟩; go_simp; try with_reducible rfl
      try go_frame
      refine' tk 6 ?_ ?_; rotate_left
      · intro u ⟨_, _⟩; go_simp; try with_reducible rfl
      try go_frame
      refine tr 7 (fun K hK => ?_)
      go_simp
      refine HCm.mono ?_
      rintro e w5 ⟨rfl, hc5, hs5, hb5⟩
      have hb5' : Below (wr).heap.size (wr) w5 := (Below.refl _ _).drew.trans hb5
      go_wp2_with fail
      refine hK.out _ _ (HS.out _ hb5') (fun hHeld2 => ?_)
      clear hK K hHeld; have hHeld := hHeld2; clear hHeld2
      try go_frame
      refine' tk 8 ?_ ?_; rotate_left
      · intro u ⟨_, _⟩; go_simp; try with_reducible rfl
      try go_frame
      obtain ⟨r5, q5, z5, bw5⟩ := HFi.out w5 hb5' hc5
      have hcm : CntAt w5 (wr).heap.size N f := hc5
      have hmm : w.heap.size ≤ (wr).heap.size := by omega
      have hne : (wr).heap.size ≠ w.heap.size + 1 := by omega
      obtain ⟨d0, g0⟩ := q5.2 0 _ rfl
      obtain ⟨d1, g1⟩ := q5.2 1 _ rfl
      obtain ⟨d2, g2⟩ := q5.2 2 _ rfl
      have hdr : (wr).drew.heap.size = (wr).heap.size := rfl
      generalize hmo : (wr).heap.size = mo at r5 hcm hmm hne z5
      refine ts 9 (fun K hK => ?_)
      try simp only [hmo]
      go_simp
      have hq5 := ((q5.set 0 (.slice a1 0 c1) (by simp)).set 1 (.string x.1.2) (by simp)).set 2 (.map (some mo)) (by simp)
      have hb6 := ((bw5.setCell (p := ⟨w.heap.size + 1, 0, none⟩) (Nat.le_succ _) (.slice a1 0 c1)).setCell (p := ⟨w.heap.size + 1, 1, none⟩) (Nat.le_succ _) (.string x.1.2)).setCell (p := ⟨w.heap.size + 1, 2, none⟩) (Nat.le_succ _) (.map (some mo))
      have hr6 : RWish (Fresh w) (((w5.setCell ⟨w.heap.size + 1, 0, none⟩ (.slice a1 0 c1)).setCell ⟨w.heap.size + 1, 1, none⟩ (.string x.1.2)).setCell ⟨w.heap.size + 1, 2, none⟩ (.map (some mo))) [.slice a1 0 c1, .string x.1.2, .map (some mo)] (x.1, mo) := RWish.firm.weak (RWish.firm.kept r5 (((Kept.set (p := ⟨w.heap.size + 1, 0, none⟩) (fun h => h.2 rfl) _).trans (Kept.set (p := ⟨w.heap.size + 1, 1, none⟩) (fun h => h.2 rfl) _)).trans (Kept.set (p := ⟨w.heap.size + 1, 2, none⟩) (fun h => h.2 rfl) _))) (fun b _ h => h.1)
      have hc6 : CntAt (((w5.setCell ⟨w.heap.size + 1, 0, none⟩ (.slice a1 0 c1)).setCell ⟨w.heap.size + 1, 1, none⟩ (.string x.1.2)).setCell ⟨w.heap.size + 1, 2, none⟩ (.map (some mo))) mo N f := hcm.same (by rw [Below.heap_setCell _ _ _ _ hne, Below.heap_setCell _ _ _ _ hne, Below.heap_setCell _ _ _ _ hne])
      have HS6 : ∀ j, (((w5.setCell ⟨w.heap.size + 1, 0, none⟩ (.slice a1 0 c1)).setCell ⟨w.heap.size + 1, 1, none⟩ (.string x.1.2)).setCell ⟨w.heap.size + 1, 2, none⟩ (.map (some mo))).cell? ⟨w.heap.size, j, none⟩ = w5.cell? ⟨w.heap.size, j, none⟩ := fun j => ((cell_other (by simp)).trans (cell_other (by simp))).trans (cell_other (by simp))
      obtain ⟨V, hV⟩ : ∃ V, V = ((w5.setCell ⟨w.heap.size + 1, 0, none⟩ (.slice a1 0 c1)).setCell ⟨w.heap.size + 1, 1, none⟩ (.string x.1.2)).setCell ⟨w.heap.size + 1, 2, none⟩ (.map (some mo)) := ⟨_, rfl⟩
      rw [← hV] at hq5 hb6 hr6 hc6 HS6 ⊢
      obtain ⟨t1, t2⟩ := HS.out _ hb5'
      refine hK.out undef _ ⟨(HS6 1).trans t1, (HS6 2).trans t2⟩ (fun _ => ?_)
      clear hV HS6 t1 t2 hK K hHeld d0 d1 d2 g0 g1 g2 hmo hdr
      refine tz ?_
      have y0 := (hq5.2 0 (.slice a1 0 c1) rfl).1
      have y1 := (hq5.2 1 (.string x.1.2) rfl).1
      have y2 := (hq5.2 2 (.map (some mo)) rfl).1
      go_wp2_with fail
      refine bodyPost_ret (v := .agg #[.slice a1 0 c1, .string x.1.2, .map (some mo)]) (by simp [results, Tryz.results64, go_sem, y0, y1, y2, Result.andThen]) rfl ⟨_, mo, rfl, hr6, hc6, hmm, hb6⟩
  ·
    have HRq : Hid (RqAt W2 g u1 b2 0 x.1.1 ∧ Below W2.heap.size W2 u1 ∧ g < u1.heap.size) := ⟨hrq, hb1, hg1⟩
    have HG0 : Hid (W2.heap.size ≤ g) := hg0
    clear hrq hb1 hg1
    go_wp2_with fail
    go_loopw [11] (fun i wr => ∃ k : Nat, k ≤ b2 ∧ i = .int .i64 k ∧ Hid (RqAt W2 g wr b2 k x.1.1 ∧ Below W2.heap.size W2 wr ∧ g < wr.heap.size)) (fun i _ => b2 - (intOf i).toNat)
    case atStart => exact ⟨0, Nat.zero_le _, rfl, HRq⟩
    case round =>
      obtain ⟨k, hk, rfl, hst⟩ := hrel
      by_cases hlt : k < b2
      ·
        obtain ⟨⟨e1, e2, e3⟩, ⟨_, _, d2⟩, f2, hsl, _⟩ := hst.out.1 k hlt
        rw [if_neg (Nat.lt_irrefl _)] at hsl
        simp only at d2 hsl
        have HCs := CloneStr8 e1 e2 e3 _ _ wr hsl
        clear hsl
        go_wp2_with fail
        refine HCs.mono ?_
        rintro e u2 ⟨v2, rfl, hrow2⟩
        have hb2' : Below wr.heap.size wr u2 := hrow2.below
        have hsb : (x.1.1.getD k default).2.2.length * 16 ≤ 140737488351232 := by obtain ⟨h, _, _, s, _⟩ := hst.out.1 k hlt; have := s.2.2.2.1; rw [s.1]; exact this
        obtain ⟨a2, c2, rfl, s2⟩ := hrow2.sl (bytes := 16) RStr.firm hsb
        generalize hll : (x.1.1.getD k default).2.2.length = ll at s2 hrow2
        have s2' : SlAt RStr 1 16 (fun b => Fresh W2 b ∧ b ≠ g) u2 a2 ll c2 (x.1.1.getD k default).2.2 := s2.weak RStr.firm (fun b _ h => by
          rcases h with h | h
          · exact h.elim
          · have h1 : wr.heap.size ≤ b := h; exact ⟨Nat.le_trans hst.out.2.1.size h1, fun e => by have := hst.out.2.2; omega⟩)
        have hgu : g < u2.heap.size := Nat.lt_of_lt_of_le hst.out.2.2 hb2'.size
        have HN : Hid (RqAt W2 g (u2.setCell ⟨g, k * 3 + 2, none⟩ (.slice a2 ll c2)) b2 (k + 1) x.1.1 ∧ Below W2.heap.size W2 (u2.setCell ⟨g, k * 3 + 2, none⟩ (.slice a2 ll c2)) ∧ g < (u2.setCell ⟨g, k * 3 + 2, none⟩ (.slice a2 ll c2)).heap.size) := ⟨(hst.out.1.on hb2' (fun _ => hst.out.2.2)).set hlt HG0.out s2', (on2 hst.out.2.1 hb2').setCell (by exact HG0.out) _, by simpa using hgu⟩
        have d2' : u2.cell? ⟨g, k * 3 + 2, none⟩ = some (.slice e1 e2 e3) := (hb2'.cell (p := ⟨g, k * 3 + 2, none⟩) hst.out.2.2).trans d2
        have f2' : u2.frozen? ⟨g, k * 3 + 2, none⟩ = false := (frozen_on hb2' (p := ⟨g, k * 3 + 2, none⟩) hst.out.2.2).trans f2
        clear HCs hrow2 s2 s2' hst d2 f2 hb2' hsb hll
        go_wp2_with fail
        go_roundw
        case rel => exact ⟨k + 1, by omega, by go_num, HN⟩
        case measure => simp [intOf]; omega
      ·
        have hkb : k = b2 := by omega
        have HSl : Hid (SlAt RReq 3 48 (fun b => Fresh w b ∧ b ≠ w.heap.size + 1) wr (some ⟨g, 0, none⟩) b2 c1 x.1.1) := by
          have h1 := hst.out.1; rw [hkb] at h1
          exact (h1.sl hlen.out hcp hbb.out HG0.out hst.out.2.2).weak RReq.firm (fun b _ h => by have h2 : W2.heap.size ≤ b := h; have := hsz.out; exact ⟨show w.heap.size ≤ b by omega, by omega⟩)
        have hbw : Hid (Below W2.heap.size W2 wr) := hst.out.2.1
        clear hst hkb
        obtain ⟨k0, k1, k2, k3⟩ := HQ.out wr hbw.out
        have HS : Hid (∀ v, Below (wr).heap.size (wr) v → WcS w.heap.size x.1.2 x.2 v) := fun v hb => ⟨((k0.on hb).2 1 _ rfl).1, ((k0.on hb).2 2 _ rfl).1⟩
        have HCm := cClone_calls (w := (wr).drew) k2
        have HFi : Hid (∀ v, Below (wr).heap.size (wr) v → CntAt v (wr).heap.size N f → RWish (fun b => Fresh w b ∧ b ≠ w.heap.size + 1) v [.slice (some ⟨g, 0, none⟩) b2 c1, .string x.1.2, .map (some (wr).heap.size)] (x.1, (wr).heap.size) ∧ BoxL v (w.heap.size + 1) [.slice none 0 0, .string ⟨#[]⟩, .map none] ∧ w.heap.size + 1 < (wr).heap.size ∧ Below w.heap.size w v) := fun v hb _ => ⟨RWish.mk (x := (x.1, (wr).heap.size)) (h0 := (some ⟨g, 0, none⟩, b2, c1)) (HSl.out.on RReq.firm hb) HKy.out, k1.on hb, k1.1, on2 k3 hb⟩
        clear k0 k1 k2 k3 HQ
        go_upto_region 7 with fail
        refine t0 (WcS w.heap.size x.1.2 x.2) (HS.out _ (Below.refl _ _).drew) (fun hHeld => ?_)
        refine' tk 0 ?_ ?_; rotate_left
        · intro u ⟨_, _⟩; go_simp; try with_reducible rfl
        try go_frame
        refine' tk 1 ?_ ?_; rotate_left
        · intro u ⟨_, _⟩; go_simp; try with_reducible rfl
        try go_frame
        refine' tk 2 ?_ ?_; rotate_left
        · intro u ⟨_, _⟩; go_simp; try with_reducible rfl
        try go_frame
        refine' tk 3 ?_ ?_; rotate_left
        · intro u ⟨_, _⟩; go_simp; try with_reducible rfl
        try go_frame
        refine' tk 4 ?_ ?_; rotate_left
        · intro u ⟨_, _⟩; go_simp; try with_reducible rfl
        try go_frame
        refine' tk 5 ?_ ?_; rotate_left
        · intro u ⟨_, _⟩; go_simp; try with_reducible rfl
        try go_frame
        refine' tk 6 ?_ ?_; rotate_left
        · intro u ⟨_, _⟩; go_simp; try with_reducible rfl
        try go_frame
        refine tr 7 (fun K hK => ?_)
        go_simp
        refine HCm.mono ?_
        rintro e w5 ⟨rfl, hc5, hs5, hb5⟩
        have hb5' : Below (wr).heap.size (wr) w5 := (Below.refl _ _).drew.trans hb5
        go_wp2_with fail
        refine hK.out _ _ (HS.out _ hb5') (fun hHeld2 => ?_)
        clear hK K hHeld; have hHeld := hHeld2; clear hHeld2
        try go_frame
        refine' tk 8 ?_ ?_; rotate_left
        · intro u ⟨_, _⟩; go_simp; try with_reducible rfl
        try go_frame
        obtain ⟨r5, q5, z5, bw5⟩ := HFi.out w5 hb5' hc5
        have hcm : CntAt w5 (wr).heap.size N f := hc5
        have hmm : w.heap.size ≤ (wr).heap.size := by omega
        have hne : (wr).heap.size ≠ w.heap.size + 1 := by omega
        obtain ⟨d0, g0⟩ := q5.2 0 _ rfl
        obtain ⟨d1, g1⟩ := q5.2 1 _ rfl
        obtain ⟨d2, g2⟩ := q5.2 2 _ rfl
        have hdr : (wr).drew.heap.size = (wr).heap.size := rfl
        generalize hmo : (wr).heap.size = mo at r5 hcm hmm hne z5
        refine ts 9 (fun K hK => ?_)
        try simp only [hmo]
        go_simp
        have hq5 := ((q5.set 0 (.slice (some ⟨g, 0, none⟩) b2 c1) (by simp)).set 1 (.string x.1.2) (by simp)).set 2 (.map (some mo)) (by simp)
        have hb6 := ((bw5.setCell (p := ⟨w.heap.size + 1, 0, none⟩) (Nat.le_succ _) (.slice (some ⟨g, 0, none⟩) b2 c1)).setCell (p := ⟨w.heap.size + 1, 1, none⟩) (Nat.le_succ _) (.string x.1.2)).setCell (p := ⟨w.heap.size + 1, 2, none⟩) (Nat.le_succ _) (.map (some mo))
        have hr6 : RWish (Fresh w) (((w5.setCell ⟨w.heap.size + 1, 0, none⟩ (.slice (some ⟨g, 0, none⟩) b2 c1)).setCell ⟨w.heap.size + 1, 1, none⟩ (.string x.1.2)).setCell ⟨w.heap.size + 1, 2, none⟩ (.map (some mo))) [.slice (some ⟨g, 0, none⟩) b2 c1, .string x.1.2, .map (some mo)] (x.1, mo) := RWish.firm.weak (RWish.firm.kept r5 (((Kept.set (p := ⟨w.heap.size + 1, 0, none⟩) (fun h => h.2 rfl) _).trans (Kept.set (p := ⟨w.heap.size + 1, 1, none⟩) (fun h => h.2 rfl) _)).trans (Kept.set (p := ⟨w.heap.size + 1, 2, none⟩) (fun h => h.2 rfl) _))) (fun b _ h => h.1)
        have hc6 : CntAt (((w5.setCell ⟨w.heap.size + 1, 0, none⟩ (.slice (some ⟨g, 0, none⟩) b2 c1)).setCell ⟨w.heap.size + 1, 1, none⟩ (.string x.1.2)).setCell ⟨w.heap.size + 1, 2, none⟩ (.map (some mo))) mo N f := hcm.same (by rw [Below.heap_setCell _ _ _ _ hne, Below.heap_setCell _ _ _ _ hne, Below.heap_setCell _ _ _ _ hne])
        have HS6 : ∀ j, (((w5.setCell ⟨w.heap.size + 1, 0, none⟩ (.slice (some ⟨g, 0, none⟩) b2 c1)).setCell ⟨w.heap.size + 1, 1, none⟩ (.string x.1.2)).setCell ⟨w.heap.size + 1, 2, none⟩ (.map (some mo))).cell? ⟨w.heap.size, j, none⟩ = w5.cell? ⟨w.heap.size, j, none⟩ := fun j => ((cell_other (by simp)).trans (cell_other (by simp))).trans (cell_other (by simp))
        obtain ⟨V, hV⟩ : ∃ V, V = ((w5.setCell ⟨w.heap.size + 1, 0, none⟩ (.slice (some ⟨g, 0, none⟩) b2 c1)).setCell ⟨w.heap.size + 1, 1, none⟩ (.string x.1.2)).setCell ⟨w.heap.size + 1, 2, none⟩ (.map (some mo)) := ⟨_, rfl⟩
        rw [← hV] at hq5 hb6 hr6 hc6 HS6 ⊢
        obtain ⟨t1, t2⟩ := HS.out _ hb5'
        refine hK.out undef _ ⟨(HS6 1).trans t1, (HS6 2).trans t2⟩ (fun _ => ?_)
        clear hV HS6 t1 t2 hK K hHeld d0 d1 d2 g0 g1 g2 hmo hdr
        refine tz ?_
        have y0 := (hq5.2 0 (.slice (some ⟨g, 0, none⟩) b2 c1) rfl).1
        have y1 := (hq5.2 1 (.string x.1.2) rfl).1
        have y2 := (hq5.2 2 (.map (some mo)) rfl).1
        go_wp2_with fail
        refine bodyPost_ret (v := .agg #[.slice (some ⟨g, 0, none⟩) b2 c1, .string x.1.2, .map (some mo)]) (by simp [results, Tryz.results64, go_sem, y0, y1, y2, Result.andThen]) rfl ⟨_, mo, rfl, hr6, hc6, hmm, hb6⟩
end Go.Proofs.YtfnafgmengefaaaGreatDoor
