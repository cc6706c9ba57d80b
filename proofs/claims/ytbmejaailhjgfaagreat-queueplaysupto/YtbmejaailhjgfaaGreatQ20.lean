/- The document's queue: Add. Condition: the queue lies as is said of it; its entries are not too many. The document's queue: without a member. Condition: the queue lies as is said of it; the member is there. The document's order of those that wait. Condition: none. -/
import Derived.Test.YtbmejaailhjgfaaGreatQ19
import Derived.Test.YtbmejaailhjgfaaGreatQ13
import Derived.Test.YtbmejaailhjgfaaGreatQ17
import Derived.Test.YtbmejaailhjgfaaGreatQ01
import Derived.Test.YtbmejaailhjgfaaGreatQ14
import Derived.Test.YtbmejaailhjgfaaGreatQ12
import Derived.Deep.MidRow
namespace Go.Proofs.YtbmejaailhjgfaaGreat
open Go.RowKit
set_option linter.unusedSimpArgs false
set_option maxRecDepth 100000

theorem want_yesQ {c : Prop} [Decidable c] {A B : Prop} (h : c) (k : A) : if c then A else B := by rw [if_pos h]; exact k
abbrev emp : ByteArray := ⟨#[]⟩
/-- What Add answers, and what there is then. -/
def addQ (L : List EnD) (n : Int) (s : ByteArray) (pr : Int) : Int × List EnD × Int :=
  if s.toList.isEmpty = true then (2, L, n) else if (findP L s).isSome = true then (6, L, n) else (0, L ++ [((s, pr, n, 0, 0), 1)], n + 1)
/-- What a call leaves of a queue: entries, number, wishes; nothing else has turned. -/
def QOut (w : World) (p : Nat) (a b : Value) (L : List EnD) (n : Int) (Ws : List WiD) (u u' : World) : Prop := ∃ a' b', RqE w u' p a' b' L n Ws ∧ Kept (fun x => ¬ QS p a b x) u u' ∧ ∀ x, QS p a' b' x → QS p a b x ∨ u.heap.size ≤ x
theorem QOut.same {w u : World} {p : Nat} {a b : Value} {L : List EnD} {n : Int} {Ws : List WiD} (h : RqE w u p a b L n Ws) {u' : World} (hb : Below u.heap.size u u') : QOut w p a b L n Ws u u' := ⟨a, b, h.on hb, Kept.below hb, fun _ h => .inl h⟩
theorem fnd_neg {L : List EnD} {s : ByteArray} (h : (findP L s).isSome = true) : (0 : Int) ≤ fndI (findP L s) := by
  cases e : findP L s with
  | none => rw [e] at h; cases h
  | some i => exact Int.natCast_nonneg i
theorem fnd_none {L : List EnD} {s : ByteArray} (h : (findP L s).isSome = false) : fndI (findP L s) = -1 := by
  cases e : findP L s with
  | none => rfl
  | some i => rw [e] at h; cases h
/-- How many there are, by the slice. -/
theorem RqE.len {w u : World} {p : Nat} {aa : Option Addr} {m cc : Nat} {b : Value} {L : List EnD} {n : Int} {Ws : List WiD} (h : RqE w u p (.slice aa m cc) b L n Ws) : m = L.length := by
  obtain ⟨xs, ⟨_, _, ⟨e1, h0⟩ | ⟨g', cap', cur, e1, _⟩⟩, _⟩ := h.ra
  · simp only [Value.slice.injEq] at e1; omega
  · simp only [Value.slice.injEq] at e1; omega
set_option maxHeartbeats 16000000 in
theorem rAdd_calls (w : World) (p : Nat) (a b : Value) (L : List EnD) (n : Int) (Ws : List WiD) (s : ByteArray) (pr : Int) (u : World) (h : RqE w u p a b L n Ws) (hs : okS s) (hl : (L.length + 1) * 56 ≤ 140737488351232) (hn : 0 ≤ n ∧ n < 1000000000000000) : Calls Tryz.prog 7 #[.pointer (some ⟨p, 0, none⟩), .string s, .int .i64 pr] u fun e u' => e = .returned (.int .i64 (addQ L n s pr).1) ∧ QOut w p a b (addQ L n s pr).2.1 (addQ L n s pr).2.2 Ws u u' := by
  have hC := find_calls w p a b L n Ws s u h (by omega)
  have Hh : Hid (RqE w u p a b L n Ws) := h
  have Hs : Hid (QOut w p a b L n Ws u u) := QOut.same h (Below.refl _ _)
  clear h
  obtain ⟨hn0, hn1⟩ := hn
  cases he : s.toList.isEmpty with
  | true =>
    have HR : Hid (addQ L n s pr = (2, L, n)) := by rw [Hid]; unfold addQ; rw [if_pos he]
    clear hC
    go_enter Tryz.func7, Tryz.ntmps7
    --M1
    go_wp2_with fail
    go_ret
    exact ⟨by rw [HR.out]; rfl, by rw [HR.out]; exact Hs.out⟩
  | false =>
  cases hf : (findP L s).isSome with
  | true =>
    have HR : Hid (addQ L n s pr = (6, L, n)) := by rw [Hid]; unfold addQ; rw [if_neg (by rw [he]; decide), if_pos hf]
    have h0 := fnd_neg hf
    generalize fndI (findP L s) = fi at hC h0
    clear hf
    go_enter Tryz.func7, Tryz.ntmps7
    go_wp2_with fail
    --M2
    refine hC.mono ?_
    rintro e u1 ⟨rfl, rfl⟩
    clear hC
    go_wp2_with fail
    go_ret
    exact ⟨by rw [HR.out]; rfl, by rw [HR.out]; exact Hs.out⟩
  | false =>
    have HR : Hid (addQ L n s pr = (0, L ++ [((s, pr, n, 0, 0), 1)], n + 1)) := by rw [Hid]; unfold addQ; rw [if_neg (by rw [he]; decide), if_neg (by rw [hf]; decide)]
    rw [fnd_none hf] at hC
    obtain ⟨aa, m, cc, rfl⟩ := Hh.out.ra.headG
    have HC : Hid (∀ z, Kept (fun y => y = p) u z → z.cell? ⟨p, 0, none⟩ = some (.slice aa m cc) ∧ z.cell? ⟨p, 1, none⟩ = some (.int .i64 n)) := fun z hz => ⟨((Hh.out.box.kept hz rfl).2 0 _ rfl).1, ((Hh.out.box.kept hz rfl).2 1 _ rfl).1⟩
    have hNA : Hid (∀ k, k = p → (Value.slice aa m cc).ownBlock ≠ some k) := fun k hk e => Hh.out.na (by rw [← hk]; exact e)
    clear hf Hs
    go_enter Tryz.func7, Tryz.ntmps7
    go_wp2_with fail
    refine hC.mono ?_
    rintro e u1 ⟨rfl, rfl⟩
    clear hC
    go_wp2_with fail
    --M3
    have hb0 : Below u1.heap.size u1 u1.drew := (Below.refl _ _).drew
    refine u0 17 (fun z => Kept (fun y => y = p) u1 z) (Kept.below hb0) (fun hHeld => ?_)
    have Hd : Hid (RqE w u1.drew p (.slice aa m cc) b L n Ws ∧ Below u1.heap.size u1 u1.drew) := ⟨Hh.out.on hb0, hb0⟩
    generalize hwd : u1.drew = wd at hHeld Hd ⊢
    clear hwd hb0
    try go_frame
    refine' uk 0 ?_ ?_; rotate_left
    · intro z hz; obtain ⟨f0, f1⟩ := HC.out z hz; clear hz; go_simp; try with_reducible rfl
    try go_frame
    refine' uk 1 ?_ ?_; rotate_left
    · intro z hz; obtain ⟨f0, f1⟩ := HC.out z hz; clear hz; go_simp; try with_reducible rfl
    try go_frame
    refine' uk 2 ?_ ?_; rotate_left
    · intro z hz; obtain ⟨f0, f1⟩ := HC.out z hz; clear hz; go_simp; try with_reducible rfl
    try go_frame
    refine' uk 3 ?_ ?_; rotate_left
    · intro z hz; obtain ⟨f0, f1⟩ := HC.out z hz; clear hz; go_simp; try with_reducible rfl
    try go_frame
    refine' uk 4 ?_ ?_; rotate_left
    · intro z hz; obtain ⟨f0, f1⟩ := HC.out z hz; clear hz; go_simp; try with_reducible rfl
    try go_frame
    refine' uk 5 ?_ ?_; rotate_left
    · intro z hz; obtain ⟨f0, f1⟩ := HC.out z hz; clear hz; go_simp; try with_reducible rfl
    try go_frame
    refine' uk 6 ?_ ?_; rotate_left
    · intro z hz; obtain ⟨f0, f1⟩ := HC.out z hz; clear hz; go_simp; try with_reducible rfl
    try go_frame
    refine' uk 7 ?_ ?_; rotate_left
    · intro z hz; obtain ⟨f0, f1⟩ := HC.out z hz; clear hz; go_simp; try with_reducible rfl
    try go_frame
    refine' uk 8 ?_ ?_; rotate_left
    · intro z hz; obtain ⟨f0, f1⟩ := HC.out z hz; clear hz; go_simp; try with_reducible rfl
    try go_frame
    refine' uk 9 ?_ ?_; rotate_left
    · intro z hz; obtain ⟨f0, f1⟩ := HC.out z hz; clear hz; go_simp; try with_reducible rfl
    try go_frame
    refine' uk 10 ?_ ?_; rotate_left
    · intro z hz; obtain ⟨f0, f1⟩ := HC.out z hz; clear hz; go_simp; try with_reducible rfl
    try go_frame
    refine' uk 11 ?_ ?_; rotate_left
    · intro z hz; obtain ⟨f0, f1⟩ := HC.out z hz; clear hz; go_simp; try with_reducible rfl
    try go_frame
    refine' uk 12 ?_ ?_; rotate_left
    · intro z hz; obtain ⟨f0, f1⟩ := HC.out z hz; clear hz; go_simp; try with_reducible rfl
    try go_frame
    refine ur 13 (fun K hK => ?_)
    go_simp
    obtain ⟨W3, hW3⟩ : ∃ Z, Z = wd.alloc (.cells (enC ((s, pr, n, 0, 0), 1)).toArray 65) := ⟨_, rfl⟩
    have b3 : Below wd.heap.size wd W3 := by rw [hW3]; exact (Below.refl _ _).alloc (Nat.le_refl _) _
    have q3 : BoxL W3 wd.heap.size (enC ((s, pr, n, 0, 0), 1)) := by rw [hW3]; exact BoxL.new wd 65 _
    rw [← hW3]
    clear hW3
    refine hK.out _ _ (hHeld.trans (Kept.below b3)) (fun hHeld2 => ?_)
    clear hK K hHeld; have hHeld := hHeld2; clear hHeld2
    try go_frame
    refine ur 14 (fun K hK => ?_)
    refine want_yesQ (by rfl) (row_appendP_wp REn.firm (A := fun _ => False) (w0 := w) _ _ 26 65 rfl _ 56 infoEn Tryz.underlying26 rfl (by decide) (by decide) (.slice aa m cc) L rfl (Hd.out.1.ra.on REn.firm b3) (some ⟨wd.heap.size, 0, none⟩) 1 1 [((s, pr, n, 0, 0), 1)] rfl (src_boxG REn.firm q3 ⟨rfl, hs⟩) (by rw [List.length_singleton]; omega) ?_)
    intro v4 w4 hrow4 hg4 hw4
    obtain ⟨v4a, v4n, v4c, rfl⟩ := hrow4.headG
    have k4 : Kept (fun y => (Value.slice aa m cc).ownBlock ≠ some y) u1 w4 := (Kept.below Hd.out.2).trans ((Kept.below b3).trans (Kept.grown hg4 (fun k e hk => hk e)))
    refine hK.out _ _ (hHeld.trans (Kept.grown hg4 (fun k e hk => ?_))) (fun hHeld2 => ?_)
    · exact hNA.out k hk e
    clear hK K hHeld; have hHeld := hHeld2; clear hHeld2
    try go_frame
    refine' uk 15 ?_ ?_; rotate_left
    · intro z hz; clear hz; go_simp; try with_reducible rfl
    try go_frame
    refine' uk 16 ?_ ?_; rotate_left
    · intro z hz; clear hz; go_simp; try with_reducible rfl
    try go_frame
    refine uz 17 (fun K hK => ?_)
    have hN := Hh.out.newA k4 hrow4 (hw4.imp id (fun e x hx => by rw [e] at hx; injection hx with hx; have h1 := b3.size; have h2 := Hd.out.2.size; omega))
    obtain ⟨d0, d1⟩ := (Hh.out.box.kept k4 Hh.out.na).2 0 _ rfl
    go_simp
    obtain ⟨W5, hW5⟩ : ∃ Z, Z = w4.setCell ⟨p, 0, none⟩ (.slice v4a v4n v4c) := ⟨_, rfl⟩
    rw [← hW5]
    rw [← hW5] at hN
    have H5 : Hid (RqE w W5 p (.slice v4a v4n v4c) b (L ++ [((s, pr, n, 0, 0), 1)]) n Ws ∧ Kept (fun y => y ≠ p ∧ (Value.slice aa m cc).ownBlock ≠ some y) u1 W5 ∧ ∀ y, (Value.slice v4a v4n v4c).ownBlock = some y → (Value.slice aa m cc).ownBlock = some y ∨ u1.heap.size ≤ y) := ⟨hN, by rw [hW5]; exact (k4.weak (fun y hy => hy.2)).trans (Kept.set (p := ⟨p, 0, none⟩) (fun h => h.1 rfl) _), fun y hy => hw4.imp (fun e => by rw [← e]; exact hy) (fun e => by rw [e] at hy; injection hy with hy; have h1 := b3.size; have h2 := Hd.out.2.size; omega)⟩
    refine hK.out _ (NoPanic.normal ?_)
    clear hK K hHeld hN d0 d1 hW5 k4 hrow4 hg4 hw4 b3 q3 Hd
    --M4
    have hN2 := H5.out.1.num (n + 1)
    obtain ⟨d0, d1⟩ := H5.out.1.box.2 1 _ rfl
    have HF : Hid (QOut w p (.slice aa m cc) b (L ++ [((s, pr, n, 0, 0), 1)]) (n + 1) Ws u1 (W5.setCell ⟨p, 1, none⟩ (.int .i64 (n + 1)))) := ⟨_, b, hN2, (H5.out.2.1.weak (fun y hy => ⟨fun e => hy (.inl e), fun e => hy (.inr (.inl e))⟩)).trans (Kept.set (p := ⟨p, 1, none⟩) (fun e => e (.inl rfl)) _), fun y hy => hy.elim (fun e => .inl (.inl e)) (fun hy => hy.elim (fun e => (H5.out.2.2 y e).imp (fun e => .inr (.inl e)) id) (fun e => .inl (.inr (.inr e))))⟩
    clear hN2 H5
    go_wp2_with fail
    --M5
    go_ret
    exact ⟨by rw [HR.out]; rfl, by rw [HR.out]; exact HF.out⟩
end Go.Proofs.YtbmejaailhjgfaaGreat
namespace Go.Proofs.YtbmejaailhjgfaaGreat
open Go.RowKit
set_option linter.unusedSimpArgs false
set_option maxRecDepth 100000

/-- Where a slice's end begins. -/
def dropG (a : Option Addr) (cap t k : Nat) : Option Addr := match a with | none => none | some ad => if cap = t then some ad else some (ad.add (t * k))
theorem sl_dropG {α : Type} [Inhabited α] {R : Rep α} {k bytes : Nat} {A : Where} {u : World} {a : Option Addr} {n cap t : Nat} {L : List α} (h : SlAt R k bytes A u a n cap L) (ht : t ≤ n) : SlAt R k bytes A u (dropG a cap t k) (n - t) (cap - t) (L.drop t) := by
  have hl := h.1
  by_cases hn : n - t = 0
  · have hd : L.drop t = [] := List.drop_eq_nil_of_le (by omega)
    rw [hn, hd]
    refine SlAt.nil _ _ _ _ (fun e => ?_)
    cases a with
    | none => have := h.2.2.1 rfl; omega
    | some ad => simp only [dropG] at e; split at e <;> cases e
  · obtain ⟨B, off, rfl, _⟩ := h.2.2.2.2 (by omega)
    have hc : ¬ cap = t := by have := h.2.1; omega
    have e : dropG (some ⟨B, off, none⟩) cap t k = some ⟨B, off + t * k, none⟩ := by simp only [dropG, hc, if_false]; rw [add_lit]
    rw [e]
    exact h.drop ht
theorem SlAt.srcF {A B : Where} {u : World} {a : Option Addr} {m c : Nat} {N : List EnD} (h : SlAt REn 6 56 A u a m c N) : Src REn 6 B u a m N := by
  obtain ⟨h1, h2⟩ := h.src REn.firm
  exact ⟨h1, h2⟩
set_option maxHeartbeats 16000000 in
theorem rWithout_calls (w : World) (p : Nat) (a b : Value) (L : List EnD) (n : Int) (Ws : List WiD) (i : Nat) (u : World) (h : RqE w u p a b L n Ws) (hi : i < L.length) (hl : L.length * 56 ≤ 140737488351232) : Calls Tryz.prog 40 #[.pointer (some ⟨p, 0, none⟩), .int .i64 (i : Int)] u fun e u' => (∃ v, e = .returned v) ∧ QOut w p a b (L.eraseIdx i) n Ws u u' := by
  obtain ⟨g, cc, rfl, hg, hx⟩ := h.get hi
  clear hx
  obtain ⟨m, hm⟩ : ∃ m, m = L.length := ⟨_, rfl⟩
  rw [← hm] at h ⊢
  obtain ⟨xa, xc, e0, s0⟩ := (h.ra.wAG REn.firm (A' := Fresh w) (fun _ h => h.elim)).slF (bytes := 56) REn.firm hl
  obtain ⟨e1, e2⟩ : some ⟨g, 0, none⟩ = xa ∧ cc = xc := by simp only [Value.slice.injEq] at e0; exact ⟨e0.1, e0.2.2⟩
  subst e1 e2
  have s1 : SlAt REn 6 56 (Fresh w) u (some ⟨g, 0, none⟩) m cc L := by rw [hm]; exact s0
  have hmc : m ≤ cc := s1.2.1
  have hmb : m * 56 ≤ 140737488351232 := s1.2.2.2.1
  have Hm : Hid (m = L.length) := hm
  have him : i < m := by omega
  have z1 : (0 : Int) ≤ (i : Int) := by omega
  have z2 : (i : Int) ≤ (cc : Int) := by omega
  obtain ⟨t, ht⟩ : ∃ t, t = i + 1 := ⟨_, rfl⟩
  have z3 : (0 : Int) ≤ (t : Int) := by omega
  have z4 : (t : Int) ≤ (m : Int) := by omega
  have z5 : (m : Int) ≤ (cc : Int) := by omega
  have z6 : (t : Int) ≤ (cc : Int) := by omega
  have z7 : ((i : Int) + 1) = (t : Int) := by omega
  have z8 : (cc : Int) - (t : Int) = ((cc - t : Nat) : Int) := by omega
  have Ht : Hid (t = i + 1) := ht
  have z9 : IntKind.i64.wrap (t : Int) = (t : Int) := by
    have h8 : t < 140737488351232 := by omega
    simp [IntKind.wrap, IntKind.bits, IntKind.signed]
    omega
  have Hh : Hid (RqE w u p (.slice (some ⟨g, 0, none⟩) m cc) b L n Ws) := h
  have Hp : Hid (p < u.heap.size) := h.box.1
  have HC : Hid (∀ z, Kept (fun y => y = p) u z → z.cell? ⟨p, 0, none⟩ = some (.slice (some ⟨g, 0, none⟩) m cc)) := fun z hz => ((Hh.out.box.kept hz rfl).2 0 _ rfl).1
  have HT : Hid (∀ {B : Where} (z : World), Below u.heap.size u z → Src REn 6 B z (some ⟨g, 0, none⟩) i (L.take i)) := fun {B} z hz => ((sl_takeG s1 (Nat.le_of_lt him)).on REn.firm hz).srcF
  have HD2 : Hid (∀ {B : Where} (z : World), Kept (fun y => y < u.heap.size) u z → Src REn 6 B z (dropG (some ⟨g, 0, none⟩) cc t 6) (m - t) (L.drop t)) := fun {B} z hz => ((sl_dropG s1 (show t ≤ m by omega)).kept REn.firm ⟨hz.1, fun y _ hy => hz.2 y hy hy⟩).srcF
  clear h s0 s1 e0 hm hi hl ht
  go_enter Tryz.func40, Tryz.ntmps40
  --M1
  go_wp2_with fail
  --M2
  have hb0 : Below u.heap.size u u.drew := (Below.refl _ _).drew
  refine u0 19 (fun z => Kept (fun y => y = p) u z) (Kept.below hb0) (fun hHeld => ?_)
  have Hd : Hid (RqE w u.drew p (.slice (some ⟨g, 0, none⟩) m cc) b L n Ws ∧ Below u.heap.size u u.drew) := ⟨Hh.out.on hb0, hb0⟩
  generalize hwd : u.drew = wd at hHeld Hd ⊢
  clear hwd hb0
  try go_frame
  refine' uk 0 ?_ ?_; rotate_left
  · intro z hz; have f0 := HC.out z hz; clear hz; go_simp; try with_reducible rfl
  try go_frame
  refine' uk 2 ?_ ?_; rotate_left
  · intro z hz; have f0 := HC.out z hz; clear hz; go_simp; try with_reducible rfl
  try go_frame
  refine' uk 3 ?_ ?_; rotate_left
  · intro z hz; have f0 := HC.out z hz; clear hz; go_simp; try with_reducible rfl
  try go_frame
  refine' uk 4 ?_ ?_; rotate_left
  · intro z hz; have f0 := HC.out z hz; clear hz; go_simp; try with_reducible rfl
  try go_frame
  refine' uk 5 ?_ ?_; rotate_left
  · intro z hz; have f0 := HC.out z hz; clear hz; go_simp; try with_reducible rfl
  try go_frame
  refine' uk 6 ?_ ?_; rotate_left
  · intro z hz; have f0 := HC.out z hz; clear hz; go_simp; try with_reducible rfl
  try go_frame
  refine' uq 7 (.slice (some ⟨g, 0, none⟩) i cc) ?_ ?_
  · refine .inl ⟨rfl, fun z _ => ?_⟩
    go_simp
    try with_reducible rfl
  try go_frame
  refine' uk 9 ?_ ?_; rotate_left
  · intro z hz; have f0 := HC.out z hz; clear hz; go_simp; try with_reducible rfl
  try go_frame
  refine' uk 10 ?_ ?_; rotate_left
  · intro z hz; have f0 := HC.out z hz; clear hz; go_simp; try with_reducible rfl
  try go_frame
  refine' uk 11 ?_ ?_; rotate_left
  · intro z hz; have f0 := HC.out z hz; clear hz; go_simp; try with_reducible rfl
  try go_frame
  refine' uk 12 ?_ ?_; rotate_left
  · intro z hz; have f0 := HC.out z hz; clear hz; go_simp; try with_reducible rfl
  try go_frame
  refine' uk 13 ?_ ?_; rotate_left
  · intro z hz; have f0 := HC.out z hz; clear hz; go_simp; try with_reducible rfl
  try go_frame
  refine' uk 14 ?_ ?_; rotate_left
  · intro z hz; have f0 := HC.out z hz; clear hz; go_simp; try with_reducible rfl
  try go_frame
  refine' uq 15 (.slice (dropG (some ⟨g, 0, none⟩) cc t 6) (m - t) (cc - t)) ?_ ?_
  · refine .inl ⟨rfl, fun z _ => ?_⟩
    by_cases hct : cc = t
    · simp only [dropG, hct, if_true]
      go_simp
      try with_reducible rfl
    · simp only [dropG, hct, if_false]
      go_simp
      try with_reducible rfl
  try go_frame
  refine ur 1 (fun K hK => ?_)
  go_simp
  obtain ⟨W3, hW3⟩ : ∃ Z, Z = wd.alloc (.cells #[] 65) := ⟨_, rfl⟩
  have b3 : Below wd.heap.size wd W3 := by rw [hW3]; exact (Below.refl _ _).alloc (Nat.le_refl _) _
  have r3 : Row REn 6 (fun _ => False) wd W3 65 (.slice (some ⟨wd.heap.size, 0, none⟩) 0 0) [] := by rw [hW3]; exact Row.start _ wd wd _ (Below.refl _ _)
  rw [← hW3]
  clear hW3
  refine hK.out _ _ (hHeld.trans (Kept.below b3)) (fun hHeld2 => ?_)
  clear hK K hHeld; have hHeld := hHeld2; clear hHeld2
  try go_frame
  refine ur 8 (fun K hK => ?_)
  refine want_yesQ (by rfl) (row_appendP_wp REn.firm (A := fun _ => False) (w0 := wd) _ _ 26 65 rfl _ 56 infoEn Tryz.underlying26 rfl (by decide) (by decide) (.slice (some ⟨wd.heap.size, 0, none⟩) 0 0) [] rfl r3 (some ⟨g, 0, none⟩) i cc (L.take i) rfl (HT.out _ (on2 Hd.out.2 b3)) (by simp only [List.length_append, List.length_take, List.length_drop, List.length_nil]; have := Hm.out; omega) ?_)
  intro v4 w4 hw4 gw4 ow4
  obtain ⟨v4a, v4n, v4c, rfl⟩ := hw4.headG
  have k4 : Kept (fun y => y < wd.heap.size) wd w4 := (Kept.below b3).trans (Kept.grown gw4 (fun k e hk => by simp only [Value.ownBlock, Option.some.injEq] at e; omega))
  refine hK.out _ _ (hHeld.trans (Kept.grown gw4 (fun k e hk => by simp only [Value.ownBlock, Option.some.injEq] at e; have h1 := Hp.out; have h2 := Hd.out.2.size; omega))) (fun hHeld2 => ?_)
  clear hK K hHeld; have hHeld := hHeld2; clear hHeld2
  try go_frame
  refine ur 16 (fun K hK => ?_)
  refine want_yesQ (by rfl) (row_appendP_wp REn.firm (A := fun _ => False) (w0 := wd) _ _ 26 65 rfl _ 56 infoEn Tryz.underlying26 rfl (by decide) (by decide) (.slice v4a v4n v4c) ([] ++ L.take i) rfl hw4 (dropG (some ⟨g, 0, none⟩) cc t 6) (m - t) (cc - t) (L.drop t) rfl (HD2.out _ ((Kept.below Hd.out.2).trans (k4.weak (fun y hy => Nat.lt_of_lt_of_le hy Hd.out.2.size)))) (by simp only [List.length_append, List.length_take, List.length_drop, List.length_nil]; have := Hm.out; omega) ?_)
  intro v5 w5 hw5 gw5 ow5
  obtain ⟨v5a, v5n, v5c, rfl⟩ := hw5.headG
  have k5 : Kept (fun y => y < wd.heap.size) wd w5 := k4.trans (Kept.grown gw5 (fun k e hk => by have h1 := (hw4.lt e).1; omega))
  refine hK.out _ _ (hHeld.trans (Kept.grown gw5 (fun k e hk => by have h1 := (hw4.lt e).1; have h2 := Hp.out; have h3 := Hd.out.2.size; omega))) (fun hHeld2 => ?_)
  clear hK K hHeld; have hHeld := hHeld2; clear hHeld2
  try go_frame
  refine' uk 17 ?_ ?_; rotate_left
  · intro z hz; clear hz; go_simp; try with_reducible rfl
  try go_frame
  refine' uk 18 ?_ ?_; rotate_left
  · intro z hz; clear hz; go_simp; try with_reducible rfl
  try go_frame
  refine uz 19 (fun K hK => ?_)
  have ke : Kept (fun y => (Value.slice (some ⟨g, 0, none⟩) m cc).ownBlock ≠ some y) u w5 := (Kept.below Hd.out.2).trans ⟨k5.1, fun y _ hy => k5.2 y hy hy⟩
  have hr5 : Row REn 6 (fun _ => False) w w5 65 (.slice v5a v5n v5c) (L.eraseIdx i) := by
    rw [List.eraseIdx_eq_take_drop_succ]
    exact (show Row REn 6 (fun _ => False) wd w5 _ _ (L.take i ++ L.drop (i + 1)) from by rw [← Ht.out]; simpa using hw5).fromG (on2 Hh.out.below Hd.out.2)
  have hf5 : ∀ x, (Value.slice v5a v5n v5c).ownBlock = some x → u.heap.size ≤ x := fun x hx => by have h1 := (hw5.lt hx).1; have h2 := Hd.out.2.size; omega
  have hN := Hh.out.newA ke hr5 (.inr hf5)
  obtain ⟨d0, d1⟩ := (Hh.out.box.kept ke Hh.out.na).2 0 _ rfl
  go_simp
  obtain ⟨W6, hW6⟩ : ∃ Z, Z = w5.setCell ⟨p, 0, none⟩ (.slice v5a v5n v5c) := ⟨_, rfl⟩
  rw [← hW6]
  rw [← hW6] at hN
  have HF : Hid (QOut w p (.slice (some ⟨g, 0, none⟩) m cc) b (L.eraseIdx i) n Ws u W6) := ⟨_, b, hN, by rw [hW6]; exact (ke.weak (fun y hy e => hy (.inr (.inl e)))).trans (Kept.set (p := ⟨p, 0, none⟩) (fun e => e (.inl rfl)) _), fun y hy => hy.elim (fun e => .inl (.inl e)) (fun hy => hy.elim (fun e => .inr (hf5 y e)) (fun e => .inl (.inr (.inr e))))⟩
  refine hK.out _ (NoPanic.normal ?_)
  clear hK K hHeld hN d0 d1 hW6 ke hr5 hf5 k4 k5 hw4 hw5 gw4 gw5 ow4 ow5 b3 r3 Hd
  --M3
  go_wp2_with fail
  --M4
  go_end0
  exact ⟨⟨_, rfl⟩, HF.out⟩
end Go.Proofs.YtbmejaailhjgfaaGreat
namespace Go.Proofs.YtbmejaailhjgfaaGreat
open Go.RowKit
set_option linter.unusedSimpArgs false
set_option maxRecDepth 100000

theorem retbQ {a b : Bool} (h : a = b) : Ending.returned (.bool a) = Ending.returned (.bool b) := by rw [h]
/-- What the heap of chapter 5 knows of one that waits. -/
def itm (x : WtD) : It := (x.1, x.2.1, x.2.2.1)
set_option maxHeartbeats 4000000 in
theorem item_calls (x : WtD) (w : World) : Calls Tryz.prog 61 #[.agg (wtC x).toArray] w fun e w' => e = .returned (vI (itm x)) ∧ Below w.heap.size w w' := by
  go_enter Tryz.func61, Tryz.ntmps61
  go_wp2_with fail
  --M1
  have q : BoxL ((w.alloc (.cells (wtC x).toArray 31)).alloc (.cells #[.string x.1, .int .i64 x.2.1, .int .i64 x.2.2.1] 67)) (w.heap.size + 1) [.string x.1, .int .i64 x.2.1, .int .i64 x.2.2.1] := by have h := BoxL.new (w.alloc (.cells (wtC x).toArray 31)) 67 [.string x.1, .int .i64 x.2.1, .int .i64 x.2.2.1]; rwa [World.size_alloc] at h
  exact bodyPost_ret (v := vI (itm x)) (res_cell (p := 2) (ty := 67) rfl _ _ (w.heap.size + 1) [.string x.1, .int .i64 x.2.1, .int .i64 x.2.2.1] _ rfl q.range Tryz.underlying67 rfl (by kernel_rfl)) rfl ⟨rfl, ((Below.refl _ _).alloc (Nat.le_refl _) _).alloc (by simp) _⟩
set_option maxHeartbeats 4000000 in
theorem rAheadQ_calls (a b : It) (w : World) : Calls Tryz.prog 60 #[vI a, vI b] w fun e w' => e = .returned (.bool (ahead a b)) ∧ Below w.heap.size w w' := by
  obtain ⟨ak, ar, ac⟩ := a
  obtain ⟨bk, br, bc⟩ := b
  go_enter Tryz.func60, Tryz.ntmps60
  by_cases h1 : ar = br
  · by_cases h2 : ac = bc
    · have HF : Hid (ahead (ak, ar, ac) (bk, br, bc) = Op.bytesLess ak.toList bk.toList) := by simp [Hid, ahead, h1, h2]
      go_wp2
      go_ret
      exact ⟨retbQ HF.out.symm, by go_grown⟩
    · have HF : Hid (ahead (ak, ar, ac) (bk, br, bc) = decide (ac < bc)) := by simp [Hid, ahead, h1, h2]
      go_wp2
      go_ret
      exact ⟨retbQ HF.out.symm, by go_grown⟩
  · have HF : Hid (ahead (ak, ar, ac) (bk, br, bc) = decide (br < ar)) := by simp [Hid, ahead, h1]
    go_wp2
    go_ret
    exact ⟨retbQ HF.out.symm, by go_grown⟩
/-- Does one stand ahead of another one, of those at a place? -/
def aheadQ (pl : Int) (a b : WtD) : Bool := if pl = 1 then ahead (itm a) (itm b) else (decide (a.2.2.1 < b.2.2.1) || (decide (a.2.2.1 = b.2.2.1) && Op.bytesLess a.1.toList b.1.toList))
set_option maxHeartbeats 8000000 in
theorem qAhead_calls (pl : Int) (a b : WtD) (w : World) : Calls Tryz.prog 54 #[.int .i64 pl, .agg (wtC a).toArray, .agg (wtC b).toArray] w fun e w' => e = .returned (.bool (aheadQ pl a b)) ∧ Below w.heap.size w w' := by
  obtain ⟨W2, hW2⟩ : ∃ Z, Z = (w.alloc (.cells (wtC a).toArray 31)).alloc (.cells (wtC b).toArray 31) := ⟨_, rfl⟩
  have q1 : BoxL W2 w.heap.size (wtC a) := by rw [hW2]; exact (BoxL.new w 31 (wtC a)).on ((Below.refl _ _).alloc (Nat.le_refl _) _)
  have q2 : BoxL W2 (w.heap.size + 1) (wtC b) := by have h := BoxL.new (w.alloc (.cells (wtC a).toArray 31)) 31 (wtC b); rw [World.size_alloc] at h; rw [hW2]; exact h
  have b2 : Below w.heap.size w W2 := by rw [hW2]; exact ((Below.refl _ _).alloc (Nat.le_refl _) _).alloc (by simp) _
  have HB : Hid (∀ z, Below W2.heap.size W2 z → BoxL z w.heap.size (wtC a) ∧ BoxL z (w.heap.size + 1) (wtC b) ∧ Below w.heap.size w z) := fun z hz => ⟨q1.on hz, q2.on hz, on2 b2 hz⟩
  have HW2 : Hid ((w.alloc (.cells (wtC a).toArray 31)).alloc (.cells (wtC b).toArray 31) = W2) := hW2.symm
  clear hW2 q1 q2 b2
  by_cases hp : pl = 1
  · subst hp
    have HR : Hid (aheadQ 1 a b = ahead (itm a) (itm b)) := by rw [Hid]; unfold aheadQ; rw [if_pos rfl]
    go_enter Tryz.func54, Tryz.ntmps54
    go_upto_region 1 with fail
    rw [HW2.out]
    go_wp2_with fail
    --M2
    have hb0 : Below W2.heap.size W2 W2.drew := (Below.refl _ _).drew
    refine t0 (fun z => Below W2.heap.size W2 z) hb0 (fun hHeld => ?_)
    generalize hwd : W2.drew = wd at hHeld hb0 ⊢
    clear hwd
    try go_frame
    refine tq 0 (.agg (wtC a).toArray) (yieldsIf_load_mid (by rfl) 31 _ rfl w.heap.size 0 rfl (wtC a) _ (fun z hz => (HB.out z hz).1.range) Tryz.underlying31 rfl (by kernel_rfl)) ?_ (hi := rfl)
    try go_frame
    refine tq 2 (.agg (wtC b).toArray) (yieldsIf_load_mid (by rfl) 31 _ rfl (w.heap.size + 1) 0 rfl (wtC b) _ (fun z hz => (HB.out z hz).2.1.range) Tryz.underlying31 rfl (by kernel_rfl)) ?_ (hi := rfl)
    try go_frame
    refine tr 1 (fun K hK => ?_)
    have hC := item_calls a wd
    go_simp
    refine hC.mono ?_
    rintro e z1 ⟨rfl, dz⟩
    have hb1 : Below W2.heap.size W2 z1 := on2 hb0 dz
    clear dz hC
    go_wp2_with fail
    refine hK.out _ _ hb1 (fun hHeld2 => ?_)
    clear hK K hHeld; have hHeld := hHeld2; clear hHeld2
    try go_frame
    refine tr 3 (fun K hK => ?_)
    have hC := item_calls b z1
    go_simp
    refine hC.mono ?_
    rintro e z2 ⟨rfl, dz⟩
    have hb2 : Below W2.heap.size W2 z2 := on2 hb1 dz
    clear dz hC
    go_wp2_with fail
    refine hK.out _ _ hb2 (fun hHeld2 => ?_)
    clear hK K hHeld; have hHeld := hHeld2; clear hHeld2
    try go_frame
    refine tr 4 (fun K hK => ?_)
    have hC := rAheadQ_calls (itm a) (itm b) z2
    go_simp
    refine hC.mono ?_
    rintro e z3 ⟨rfl, dz⟩
    have hb3 : Below W2.heap.size W2 z3 := on2 hb2 dz
    clear dz hC
    go_wp2_with fail
    refine hK.out _ _ hb3 (fun hHeld2 => ?_)
    clear hK K hHeld; have hHeld := hHeld2; clear hHeld2
    try go_frame
    refine' tk 5 ?_ ?_; rotate_left
    · intro z hz; clear hz; go_simp; try with_reducible rfl
    try go_frame
    refine tz ?_
    have HF : Hid (Below w.heap.size w z3) := (HB.out z3 hb3).2.2
    clear hb0 hb1 hb2 hb3 hHeld HB
    go_wp2_with fail
    go_ret
    exact ⟨by rw [HR.out]; rfl, HF.out⟩
  · have HR : Hid (aheadQ pl a b = (decide (a.2.2.1 < b.2.2.1) || (decide (a.2.2.1 = b.2.2.1) && Op.bytesLess a.1.toList b.1.toList))) := by rw [Hid]; unfold aheadQ; rw [if_neg hp]
    obtain ⟨h1, h2, h3⟩ := HB.out W2 (Below.refl _ _)
    have c0 := (h1.2 0 _ rfl).1
    have c2 := (h1.2 2 _ rfl).1
    have e0 := (h2.2 0 _ rfl).1
    have e2 := (h2.2 2 _ rfl).1
    have HF : Hid (Below w.heap.size w W2) := h3
    clear h1 h2 h3 HB
    by_cases hl : a.2.2.1 < b.2.2.1
    · go_enter Tryz.func54, Tryz.ntmps54
      go_upto_region 1 with fail
      rw [HW2.out]
      go_wp2_with fail
      --M3
      go_ret
      exact ⟨by rw [HR.out, decide_eq_true hl]; rfl, HF.out⟩
    · by_cases he : a.2.2.1 = b.2.2.1
      · have He : Hid (a.2.2.1 = b.2.2.1) := he
        generalize a.2.2.1 = x at c2 he hl
        subst he
        cases hx : Op.bytesLess a.1.toList b.1.toList with
        | true =>
          go_enter Tryz.func54, Tryz.ntmps54
          go_upto_region 1 with fail
          rw [HW2.out]
          go_wp2_with fail
          go_ret
          exact ⟨by rw [HR.out, He.out, hx]; simp, HF.out⟩
        | false =>
          go_enter Tryz.func54, Tryz.ntmps54
          go_upto_region 1 with fail
          rw [HW2.out]
          go_wp2_with fail
          go_ret
          exact ⟨by rw [HR.out, He.out, hx]; simp, HF.out⟩
      · have HRF : Hid (aheadQ pl a b = false) := by rw [Hid, HR.out, decide_eq_false hl, decide_eq_false he]; rfl
        clear HR
        go_enter Tryz.func54, Tryz.ntmps54
        go_upto_region 1 with fail
        rw [HW2.out]
        go_wp2_with fail
        go_ret
        exact ⟨by rw [HRF.out]; rfl, HF.out⟩
end Go.Proofs.YtbmejaailhjgfaaGreat
