/- What a heap answers, by a sorted list; the document's Put and Drop, the law's 'found'. Condition: fewer than 1,000,000,000 entries. The queue: an entry is put. Condition: the queue lies as is said of it; no entry has its name. Structs that lie in memory, whatever their cells: read and written whole; results that are structs; what stays. Plain laws of the model's worlds. No condition. The queue: an entry is taken out, or shifted to another place. Condition: the queue lies as is said of it. -/
import Derived.Test.YtbmejaailhjgfaaGreatQ13
import Derived.Test.YtbmejaailhjgfaaGreatQ12
import Derived.Test.YtbmejaailhjgfaaGreatQ03
import Derived.Deep.MidRow
namespace Go.Proofs.YtbmejaailhjgfaaGreat
open Go.RowKit Go.Maps
set_option linter.unusedSimpArgs false

/-- The first entry of a key. -/
def fnd (L : List It) (k : List UInt8) : It × Int := match L.find? (fun x => x.1.toList == k) with
  | some x => (x, 0)
  | none => (zI, 5)
theorem fnd_noneH {L : List It} {k : List UInt8} (h : hasK L k = false) : fnd L k = (zI, 5) := by
  unfold fnd
  have : L.find? (fun x => x.1.toList == k) = none := by
    rw [List.find?_eq_none]
    unfold hasK at h
    rw [List.any_eq_false] at h
    exact h
  rw [this]
theorem fnd_at {L : List It} {k : List UInt8} (hd : DK L) {i : Nat} (hi : i < L.length) (e : (L[i].1.toList == k) = true) : fnd L k = (L[i], 0) := by
  unfold fnd
  cases hf : L.find? (fun x => x.1.toList == k) with
  | none =>
    rw [List.find?_eq_none] at hf
    exact absurd e (hf _ (List.getElem_mem hi))
  | some x =>
    have hx := List.mem_of_find?_eq_some hf
    have hp := List.find?_some hf
    obtain ⟨j, hj, rfl⟩ := List.mem_iff_getElem.1 hx
    have : j = i := by
      have hpw := List.pairwise_iff_getElem.1 hd
      have hk : sameK L[j] L[i] = true := by
        unfold sameK
        rw [beq_iff_eq.1 e, beq_iff_eq.1 hp]; simp
      rcases Nat.lt_trichotomy j i with c | c | c
      · have := hpw j i hj hi c; rw [hk] at this; cases this
      · exact c
      · have := hpw i j hi hj c; rw [sameK_symm, hk] at this; cases this
    subst this
    rfl
theorem hasK_perm {A B : List It} (h : A.Perm B) (k : List UInt8) : hasK A k = hasK B k := by
  unfold hasK
  rw [Bool.eq_iff_iff, List.any_eq_true, List.any_eq_true]
  exact ⟨fun ⟨x, hx, e⟩ => ⟨x, h.mem_iff.1 hx, e⟩, fun ⟨x, hx, e⟩ => ⟨x, h.mem_iff.2 hx, e⟩⟩
theorem fnd_perm {A B : List It} (h : A.Perm B) (hd : DK A) (k : List UInt8) : fnd A k = fnd B k := by
  cases hk : hasK A k with
  | false => rw [fnd_noneH hk, fnd_noneH (by rw [← hasK_perm h]; exact hk)]
  | true =>
    obtain ⟨i, hi, e⟩ := hasK_at hk
    have hm := h.mem_iff.1 (List.getElem_mem hi)
    obtain ⟨j, hj, ej⟩ := List.mem_iff_getElem.1 hm
    rw [fnd_at hd hi e, fnd_at (hd.perm h) hj (by rw [ej]; exact e), ej]
theorem fnd_ok {A : List It} (h : ∀ x ∈ A, okI x) (k : List UInt8) : okI (fnd A k).1 := by
  unfold fnd
  split
  · rename_i x hx; exact h x (List.mem_of_find?_eq_some hx)
  · simp [zI, okI, ByteArray.size]
/-- What comes ahead of all. -/
def hdI (L : List It) : It × Int := if L.length = 0 then (zI, 5) else (at_ L 0, 0)
/-- A sorted list and a heap with the same entries. -/
structure Like (l A : List It) : Prop where
  hh : HeapL A
  pm : l.Perm A
  sr : Srt l 0 l.length
theorem Like.len {l A : List It} (h : Like l A) : l.length = A.length := h.pm.length_eq
theorem Like.stab {l A : List It} (h : Like l A) : stabF A = l := (srt_stab h.pm h.sr).symm
theorem Like.nil : Like [] [] := ⟨fun k h1 h2 => by simp at h2, List.Perm.refl _, fun i j h1 h2 h3 => by simp at h3⟩
theorem Like.head {l A : List It} (h : Like l A) (h0 : 0 < l.length) : at_ l 0 = at_ A 0 := by
  have hA : 0 < A.length := by rw [← h.len]; exact h0
  have m1 : at_ A 0 ∈ l := h.pm.mem_iff.2 (by rw [at_get hA]; exact List.getElem_mem hA)
  have m2 : at_ l 0 ∈ A := h.pm.mem_iff.1 (by rw [at_get h0]; exact List.getElem_mem h0)
  obtain ⟨i, hi, ei⟩ := List.mem_iff_getElem.1 m1
  obtain ⟨j, hj, ej⟩ := List.mem_iff_getElem.1 m2
  have r1 := h.sr 0 i (Nat.le_refl _) (Nat.zero_le _) hi
  have r2 := HeapN.root h.hh (j + 1) j (by omega) hj
  rw [at_get hi, ei] at r1
  rw [at_get hj, ej] at r2
  exact nl_eq r1 r2
theorem Like.hd {l A : List It} (h : Like l A) : hdI l = hdI A := by
  unfold hdI
  rw [h.len]
  split
  · rfl
  · rename_i c; rw [h.head (by rw [h.len]; omega)]
theorem srt_filter {l : List It} (p : It → Bool) (h : Srt l 0 l.length) : Srt (l.filter p) 0 (l.filter p).length := by
  have hs : l.Pairwise nl := by
    rw [List.pairwise_iff_getElem]
    intro i j hi hj hij
    have := h i j (Nat.zero_le _) (by omega) hj
    rwa [at_get hi, at_get hj] at this
  have hf := List.Pairwise.filter p hs
  intro i j _ h2 h3
  rcases Nat.lt_or_ge i j with c | c
  · have := List.pairwise_iff_getElem.1 hf i j (by omega) h3 c
    rwa [at_get (by omega), at_get h3]
  · rw [show i = j by omega]; exact nl_self _
theorem srt_stabF (L : List It) : Srt (stabF L) 0 (stabF L).length := by have := stabF_srt L; rw [stabF_length]; exact this
theorem Like.put {l A A' : List It} (h : Like l A) (y : It) (h1 : HeapL A') (h2 : A'.Perm (putK A y)) : Like (stabF (putK l y)) A' :=
  ⟨h1, (stabF_perm _).trans ((putK_perm h.pm y).trans h2.symm), srt_stabF _⟩
theorem Like.drop {l A A' : List It} (h : Like l A) (k : List UInt8) (h1 : HeapL A') (h2 : A'.Perm (dropK A k)) : Like (dropK l k) A' :=
  ⟨h1, (h.pm.filter _).trans h2.symm, srt_filter _ h.sr⟩
theorem Like.pop {l A A' : List It} (h : Like l A) (h0 : 0 < l.length) (h1 : HeapL A') (h2 : (A' ++ [at_ A 0]).Perm A) : Like (l.drop 1) A' := by
  have e : l = at_ l 0 :: l.drop 1 := by
    rw [at_get h0]
    have := List.drop_eq_getElem_cons (l := l) (i := 0) h0
    simpa using this
  refine ⟨h1, ?_, ?_⟩
  · have p : (at_ l 0 :: l.drop 1).Perm (at_ l 0 :: A') := by
      rw [← e]
      refine h.pm.trans (h2.symm.trans ?_)
      rw [h.head h0]
      exact List.perm_append_comm
    exact (List.perm_cons _).1 p
  · intro i j _ k2 k3
    have hl : (l.drop 1).length = l.length - 1 := by simp
    rw [hl] at k3
    have ea : ∀ t, t < l.length - 1 → at_ (l.drop 1) t = at_ l (1 + t) := fun t ht => by
      rw [at_get (by omega), at_get (by omega), List.getElem_drop]
    rw [ea i (by omega), ea j k3]
    exact h.sr _ _ (Nat.zero_le _) (by omega) (by omega)
theorem putK_length (A : List It) (y : It) : (putK A y).length ≤ A.length + 1 := by
  unfold putK dropK
  rw [List.length_append]
  have := List.length_filter_le (fun x : It => !(x.1.toList == y.1.toList)) A
  simp; omega
theorem dropK_length (A : List It) (k : List UInt8) : (dropK A k).length ≤ A.length := List.length_filter_le _ _

section
variable {w0 u : World} {hb : Nat} {A : List It} {K : Where}
theorem Peek_step (h : Hpk w0 u hb A K) : Calls Tryz.prog 37 #[.pointer (some ⟨hb, 0, none⟩)] u fun e w' => e = .returned (.tuple #[vI (hdI A).1, .int .i64 (hdI A).2]) ∧ Below u.heap.size u w' := by
  obtain ⟨F, k1, _⟩ := h
  unfold hdI
  split
  · rename_i c
    obtain rfl : A = [] := List.length_eq_zero_iff.1 c
    exact Peek_none k1
  · exact Peek_some k1 (by omega)
theorem PopE_step (h : Hpk w0 u hb A K) (hs : w0.heap.size ≤ u.heap.size) (hK : ∀ b, K b → b < u.heap.size) (hL : A.length < 1000000000000) (hh : HeapL A) :
    Calls Tryz.prog 140 #[.pointer (some ⟨hb, 0, none⟩)] u fun e w' => ∃ A', (e = .returned (.tuple #[vI (hdI A).1, .int .i64 (hdI A).2]) ∧ HeapL A' ∧ A'.length ≤ A.length ∧ (A.length = 0 → A' = []) ∧ (0 < A.length → (A' ++ [at_ A 0]).Perm A)) ∧ Hpk w0 w' hb A' K ∧ Turns (fun b => w0.heap.size ≤ b ∧ ¬ K b) u w' := by
  by_cases c : A.length = 0
  · obtain rfl : A = [] := List.length_eq_zero_iff.1 c
    obtain ⟨F, k1, k2⟩ := h
    refine (Pop_none k1).mono ?_
    rintro e w' ⟨rfl, hb'⟩
    exact ⟨[], ⟨by simp [hdI], hh, Nat.le_refl _, fun _ => rfl, fun q => by simp at q⟩, Hpk.grow ⟨F, k1, k2⟩ hb', Turns.below hb'⟩
  · refine (Pop_step h hs hK hL hh (by omega)).mono ?_
    rintro e w' ⟨A', ⟨rfl, q1, q2⟩, q3, q4⟩
    refine ⟨A', ⟨by simp [hdI, c], q1, ?_, fun q => absurd q c, fun _ => q2⟩, q3, q4⟩
    have := q2.length_eq
    simp at this
    omega
theorem Drop_step (h : Hpk w0 u hb A K) (hsz : w0.heap.size ≤ u.heap.size) (hK : ∀ b, K b → b < u.heap.size) (hL : A.length < 1000000000000) (hh : HeapL A) (s : ByteArray) (hs : s.size ≤ 140737488355328) :
    Calls Tryz.prog 59 #[.pointer (some ⟨hb, 0, none⟩), .string s] u fun e w' => ∃ A', (e = .returned (.tuple #[vI (fnd A s.toList).1, .int .i64 (fnd A s.toList).2]) ∧ HeapL A' ∧ A'.Perm (dropK A s.toList)) ∧ Hpk w0 w' hb A' K ∧ Turns (fun b => w0.heap.size ≤ b ∧ ¬ K b) u w' := by
  have hd := h.dk
  cases hk : hasK A s.toList with
  | false =>
    obtain ⟨F, k1, k2⟩ := h
    rw [fnd_noneH hk]
    refine (Drop_none k1 s hs hk).mono ?_
    rintro e w' ⟨rfl, hb'⟩
    exact ⟨A, ⟨rfl, hh, by rw [dropK_none hk]⟩, Hpk.grow ⟨F, k1, k2⟩ hb', Turns.below hb'⟩
  | true =>
    obtain ⟨i, hi, e⟩ := hasK_at hk
    rw [fnd_at hd hi e]
    refine h.call (P := fun e' A' => e' = .returned (.tuple #[vI A[i], .int .i64 0]) ∧ HeapL A' ∧ A'.Perm (dropK A s.toList)) hsz hK (fun F k1 k2 => ?_)
    refine (Drop_some k1 k2 hL s hs i hi e).mono ?_
    rintro e' w' ⟨rfl, q1, q2⟩
    have p := lastL_heap hh hi
    exact ⟨_, ⟨by rw [at_get hi], p.1, drop_dropK hd hi e p.2⟩, q1, q2⟩
theorem PushE_step (h : Hpk w0 u hb A K) (hs : w0.heap.size ≤ u.heap.size) (hK : ∀ b, K b → b < u.heap.size) (hL : A.length < 1000000000000) (hh : HeapL A) (y : It) (hy : okI y) (he : y.1.toList.isEmpty = false) :
    Calls Tryz.prog 56 #[.pointer (some ⟨hb, 0, none⟩), vI y] u fun e w' => ∃ A', (e = .returned (.tuple #[.bool (hasK A y.1.toList), .int .i64 0]) ∧ HeapL A' ∧ A'.Perm (putK A y)) ∧ Hpk w0 w' hb A' K ∧ Turns (fun b => w0.heap.size ≤ b ∧ ¬ K b) u w' :=
  h.call (P := fun e A' => e = .returned (.tuple #[.bool (hasK A y.1.toList), .int .i64 0]) ∧ HeapL A' ∧ A'.Perm (putK A y)) hs hK (fun _ k1 k2 => Push_any k1 k2 hL hh y hy he)
theorem PushN_step (h : Hpk w0 u hb A K) (y : It) (he : y.1.toList.isEmpty = true) :
    Calls Tryz.prog 56 #[.pointer (some ⟨hb, 0, none⟩), vI y] u fun e w' => e = .returned (.tuple #[.bool false, .int .i64 2]) ∧ Below u.heap.size u w' := by
  obtain ⟨F, k1, _⟩ := h
  exact Push_empty k1 y he
theorem Clone_step (h : Hpk w0 u hb A K) (hs : w0.heap.size ≤ u.heap.size) (hK : ∀ b, K b → b < u.heap.size) (hL : A.length < 1000000000) :
    Calls Tryz.prog 47 #[.pointer (some ⟨hb, 0, none⟩)] u fun e w' => ∃ hb', e = .returned (.pointer (some ⟨hb', 0, none⟩)) ∧ (∃ F, HAt F w' hb' A ∧ ∀ b, F b → u.heap.size ≤ b ∧ b < w'.heap.size) ∧ Hpk w0 w' hb' A K ∧ Below u.heap.size u w' := by
  obtain ⟨F, k1, _⟩ := h
  refine (HClone_calls k1 hL).mono ?_
  rintro e w' ⟨hb', rfl, q1, q2⟩
  have q1' := q1.weak (G := fun b => u.heap.size ≤ b ∧ b < w'.heap.size) (fun b h1 h2 => ⟨h2, h1⟩)
  exact ⟨hb', rfl, ⟨_, q1', fun b h => h⟩, ⟨_, q1', fun b h => ⟨Nat.le_trans hs h.1, h.2, fun q => absurd (hK b q) (by omega)⟩⟩, q2⟩
end
theorem dropK_snoc (L : List It) (j : Nat) (hj : j < L.length) (k : List UInt8) : dropK (L.take (j + 1)) k = if ((at_ L j).1.toList == k) = true then dropK (L.take j) k else dropK (L.take j) k ++ [at_ L j] := by
  rw [List.take_succ_eq_append_getElem hj, ← at_get hj]
  unfold dropK
  rw [List.filter_append]
  split
  · rename_i h; simp [h]
  · rename_i h; simp [h]
theorem hasK_snoc (L : List It) (j : Nat) (hj : j < L.length) (k : List UInt8) : hasK (L.take (j + 1)) k = (hasK (L.take j) k || ((at_ L j).1.toList == k)) := by
  rw [List.take_succ_eq_append_getElem hj, ← at_get hj]
  unfold hasK
  simp
theorem own_parts {w w' : World} {e : TypeId} {k g n c : Nat} {xs : List Value} (h : Own w w' e k (.slice (some ⟨g, 0, none⟩) n c) n xs) : w.heap.size ≤ g ∧ g < w'.heap.size ∧ n ≤ c := by
  obtain ⟨_, ⟨e1, _⟩ | ⟨g', c', cur, e1, hB, hg, hcp, _⟩⟩ := h.2
  · cases e1
  · obtain ⟨rfl, rfl⟩ : g = g' ∧ c = c' := by simpa using e1
    exact ⟨hB, block_lt hg, hcp⟩
end Go.Proofs.YtbmejaailhjgfaaGreat
namespace Go.Proofs.YtbmejaailhjgfaaGreat
open Go.RowKit Go.Maps
set_option linter.unusedSimpArgs false
set_option maxRecDepth 100000

theorem upd_wp {o : Oper} {a : Act} {K : Act → World → Prop} {Q : Exit → Act → World → Prop} {w u' : World} {mb : Nat} {kv zv : Value} (m k z : Operand) (t : TypeId) (hop : o.op = Op.mapUpdate t m k z) (hm : a.eval m = .map (some mb)) (hk : a.eval k = kv) (hz : a.eval z = zv)
    (hrun : (Instr.mapUpdate t (.map (some mb)) kv zv).run Tryz.prog w = .ok () u') (hK : K (a.put o.dst undef) u') : o.wp Tryz.prog a w K Q := by
  unfold Oper.wp
  simp [execOp, hop, hm, hk, hz, hrun, Result.andThen]
  exact hK
theorem want_yesY {c : Prop} [Decidable c] {A B : Prop} (h : c) (k : A) : if c then A else B := by rw [if_pos h]; exact k
theorem rdy_hasK {S : List EnD} {s : ByteArray} (h : fndG enN S s = none) : hasK (rdyY S) s.toList = false := by
  unfold hasK rdyY
  rw [List.any_eq_false]
  intro x hx e
  obtain ⟨y, hy, rfl⟩ := List.mem_map.1 hx
  have hy := (List.mem_filter.1 hy).1
  exact fndG_none h y hy ((sEq_iff _ _).1 e)
theorem rdy_snoc (S : List EnD) (x : WtD) : rdyY (S ++ [(x, 1)]) = rdyY S ++ [itY x] := by
  unfold rdyY
  rw [List.filter_append, List.map_append]
  rfl
theorem rdy_snocN (S : List EnD) (x : WtD) {pl : Int} (h : pl ≠ 1) : rdyY (S ++ [(x, pl)]) = rdyY S := by
  unfold rdyY
  rw [List.filter_append, List.map_append]
  simp [h]
theorem othG_none {α : Type} {key : α → ByteArray} {S : List α} {s : ByteArray} (h : fndG key S s = none) : othG key s S = S := by
  unfold othG
  rw [List.filter_eq_self]
  intro x hx
  cases e : sEq (key x) s with
  | true => exact absurd ((sEq_iff _ _).1 e) (fndG_none h x hx)
  | false => rfl
theorem put_perm {A A' : List It} {S : List EnD} {x : WtD} (h : A.Perm (rdyY S)) (hn : fndG enN S x.1 = none) (k : A'.Perm (putK A (itY x))) : A'.Perm (rdyY (S ++ [(x, 1)])) := by
  rw [rdy_snoc]
  have e : hasK A (itY x).1.toList = false := by rw [hasK_perm h]; exact rdy_hasK hn
  unfold putK at k
  rw [dropK_none e] at k
  exact k.trans (h.append_right _)
set_option maxHeartbeats 16000000 in
theorem yput_calls {F : Where} {u : World} {p : Nat} {S : List EnD} {n : Int} {Ws : List WiD} (h : QA F u p S n Ws) (hF : ∀ b, u.heap.size ≤ b → F b) (x : WtD) (pl : Int) (hx : okE (x, pl)) (hn : fndG enN S x.1 = none) (hl : S.length < 1000000000) :
    Calls Tryz.prog 34 #[.pointer (some ⟨p, 0, none⟩), .agg (wtC x).toArray, .int .i64 pl] u fun e w' => e = .returned (.tuple #[]) ∧ QA F w' p (S ++ [(x, pl)]) n Ws ∧ Turns F u w' := by
  obtain ⟨hb, sb, nb, A, h⟩ := h
  obtain ⟨W1, hW1⟩ : ∃ Z, Z = u.alloc (.cells (wtC x).toArray 31) := ⟨_, rfl⟩
  have b1 : Below u.heap.size u W1 := by rw [hW1]; exact (Below.refl _ _).alloc (Nat.le_refl _) _
  have q1 : BoxL W1 u.heap.size (wtC x) := by rw [hW1]; exact BoxL.new u 31 (wtC x)
  have hxs := hx.1
  have hxe := hx.2.1
  have HE : Hid (okE (x, pl)) := hx
  have h1 := (h.weak (G := fun b => F b ∧ b ≠ u.heap.size) (fun b hb hf => ⟨hf, by omega⟩)).on b1
  have HC : Hid (∀ z, Below W1.heap.size W1 z → z.cell? ⟨p, 1, none⟩ = some (.map (some sb)) ∧ z.cell? ⟨u.heap.size, 0, none⟩ = some (.string x.1) ∧ z.rangeAt u.heap.size 0 (wtC x)) := fun z hz => ⟨(h1.on hz).c1, ((q1.on hz).2 0 _ rfl).1, (q1.on hz).range⟩
  have H1 : Hid (QF (fun b => F b ∧ b ≠ u.heap.size) W1 p hb sb nb A S n Ws ∧ BoxL W1 u.heap.size (wtC x) ∧ Turns F u W1 ∧ u.heap.size < W1.heap.size ∧ p < u.heap.size ∧ sb < u.heap.size ∧ nb < u.heap.size) := ⟨h1, q1, Turns.below b1, q1.1, h.lt, h.spots.lt, h.hopes.lt⟩
  have HF : Hid (∀ b, u.heap.size ≤ b → F b) := hF
  have HW1 : Hid (u.alloc (.cells (wtC x).toArray 31) = W1) := hW1.symm
  have HLn : Hid (A.length < 1000000000000) := by
    have e1 := h.pm.length_eq
    have e2 : (rdyY S).length ≤ S.length := by unfold rdyY; rw [List.length_map]; exact List.length_filter_le _ _
    rw [Hid]; omega
  clear hW1 b1 q1 h h1 hF hx
  go_enter Tryz.func34, Tryz.ntmps34
  go_upto_region 1 with fail
  rw [HW1.out]
  --M1
  have hb0 : Below W1.heap.size W1 W1.drew := (Below.refl _ _).drew
  refine u0 9 (fun z => Below W1.heap.size W1 z) hb0 (fun hHeld => ?_)
  generalize hwd : W1.drew = wd at hHeld ⊢
  clear hwd hb0
  try go_frame
  refine' uk 0 ?_ ?_; rotate_left
  · intro z hz; obtain ⟨_, _, f2⟩ := HC.out z hz; clear hz; go_simp; try with_reducible rfl
  try go_frame
  refine' uk 1 ?_ ?_; rotate_left
  · intro z hz; obtain ⟨_, _, f2⟩ := HC.out z hz; clear hz; go_simp; try with_reducible rfl
  try go_frame
  refine' uk 2 ?_ ?_; rotate_left
  · intro z hz; obtain ⟨_, _, f2⟩ := HC.out z hz; clear hz; go_simp; try with_reducible rfl
  try go_frame
  refine' uk 3 ?_ ?_; rotate_left
  · intro z hz; obtain ⟨_, _, f2⟩ := HC.out z hz; clear hz; go_simp; try with_reducible rfl
  try go_frame
  refine' uk 4 ?_ ?_; rotate_left
  · intro z hz; obtain ⟨_, _, f2⟩ := HC.out z hz; clear hz; go_simp; try with_reducible rfl
  try go_frame
  refine' uk 5 ?_ ?_; rotate_left
  · intro z hz; obtain ⟨_, _, f2⟩ := HC.out z hz; clear hz; go_simp; try with_reducible rfl
  try go_frame
  refine' uk 6 ?_ ?_; rotate_left
  · intro z hz; obtain ⟨_, _, f2⟩ := HC.out z hz; clear hz; go_simp; try with_reducible rfl
  try go_frame
  refine uq 7 (.agg (wtC x).toArray) (yieldsIf_load_mid (by rfl) 31 _ rfl u.heap.size 0 (by go_simp) (wtC x) _ (fun z hz => (HC.out z hz).2.2) Tryz.underlying31 rfl (by kernel_rfl)) ?_ (hi := rfl)
  try go_frame
  refine' uk 8 ?_ ?_; rotate_left
  · intro z hz; obtain ⟨_, _, f2⟩ := HC.out z hz; clear hz; go_simp; try with_reducible rfl
  try go_frame
  refine uz 9 (fun K hK => ?_)
  obtain ⟨w2, hrun, hm2, ht2⟩ := (H1.out.1.on hHeld).spots.put 57 78 Tryz.underlying57 (x, pl) hxs (by omega)
  rw [othG_none hn] at hm2
  refine want_yesY (by rfl) (upd_wp (.tmp 9) (.tmp 11) (.tmp 14) 57 rfl (by simp [Act.eval, Act.put]) (by simp [Act.eval, Act.put]) (by simp [Act.eval, Act.put]) hrun ?_)
  refine hK.out _ (NoPanic.normal ?_)
  have G2 : Hid (QG (fun b => F b ∧ b ≠ u.heap.size) w2 p hb sb nb A (rdyY S) (S ++ [(x, pl)]) n Ws) := (H1.out.1.on hHeld).spotted hm2 ht2 (fun e he => by
    rcases List.mem_append.1 he with h | h
    · exact H1.out.1.ok e h
    · rw [List.mem_singleton.1 h]; exact HE.out)
  have HQ : Hid (∀ z : World, (∀ b, (b = p ∨ b = u.heap.size) → z.heap[b]? = W1.heap[b]?) → z.cell? ⟨p, 0, none⟩ = some (.pointer (some ⟨hb, 0, none⟩)) ∧ z.cell? ⟨u.heap.size, 0, none⟩ = some (.string x.1) ∧ z.cell? ⟨u.heap.size, 1, none⟩ = some (.int .i64 x.2.1) ∧ z.cell? ⟨u.heap.size, 2, none⟩ = some (.int .i64 x.2.2.1)) := fun z hz => by
    obtain ⟨g1, g2, g3, g4, g5, g6, g7⟩ := H1.out
    have e1 := hz p (.inl rfl)
    have e2 := hz u.heap.size (.inr rfl)
    have q : ∀ o v, (wtC x)[o]? = some v → z.cell? ⟨u.heap.size, o, none⟩ = some v := fun o v hv => by
      have := (g2.2 o v hv).1
      simp only [World.cell?, e2] at this ⊢
      exact this
    refine ⟨?_, q 0 _ rfl, q 1 _ rfl, q 2 _ rfl⟩
    have := g1.c0
    simp only [World.cell?, e1] at this ⊢
    exact this
  have HN : Hid (p ≠ sb ∧ u.heap.size ≠ sb ∧ p < W1.heap.size ∧ u.heap.size < W1.heap.size) := ⟨H1.out.1.nps, by have := H1.out.2.2.2.2.2.1; omega, by have := H1.out.2.2.2.1; have := H1.out.2.2.2.2.1; omega, H1.out.2.2.2.1⟩
  have HT2 : Hid (Turns F u w2) := H1.out.2.2.1.trans ((Turns.below hHeld).trans (Turns.map ht2 H1.out.1.fs.1))
  have HK2 : Hid (∀ b, (b = p ∨ b = u.heap.size) → w2.heap[b]? = W1.heap[b]?) := fun b hb => by
    obtain ⟨n1, n2, n3, n4⟩ := HN.out
    have hl : b < W1.heap.size := by rcases hb with rfl | rfl <;> assumption
    exact (ht2.grown.block b (Nat.lt_of_lt_of_le hl hHeld.size) (fun e => by have e : b = sb := (by simpa using e); rcases hb with rfl | rfl; exact n1 e; exact n2 e)).trans (hHeld.block b hl)
  have HS2 : Hid (W1.heap.size ≤ w2.heap.size) := Nat.le_trans hHeld.size ht2.grown.size
  have HF2 : Hid (∀ b, w2.heap.size ≤ b → F b) := fun b hb => HF.out b (Nat.le_trans HT2.out.size hb)
  clear hrun hm2 ht2 hHeld hK K HF HC HW1
  by_cases hp1 : pl = 1
  · subst hp1
    go_upto_region 3 with fail
    --M3
    have hb0 : Below w2.heap.size w2 w2.drew := (Below.refl _ _).drew
    refine t0 (fun z => z.cell? ⟨p, 0, none⟩ = some (.pointer (some ⟨hb, 0, none⟩)) ∧ z.cell? ⟨u.heap.size, 0, none⟩ = some (.string x.1) ∧ z.cell? ⟨u.heap.size, 1, none⟩ = some (.int .i64 x.2.1) ∧ z.cell? ⟨u.heap.size, 2, none⟩ = some (.int .i64 x.2.2.1)) (HQ.out _ (fun b hb => HK2.out b hb)) (fun hHeld => ?_)
    have HB0 : Hid (Below w2.heap.size w2 w2.drew) := hb0
    have hE0 : Hid (∀ b, (b = p ∨ b = u.heap.size) → w2.drew.heap[b]? = W1.heap[b]?) := HK2.out
    generalize hwd : w2.drew = wd at hHeld HB0 hE0 ⊢
    clear hwd hb0
    try go_frame
    refine' tk 0 ?_ ?_; rotate_left
    · intro z hz; obtain ⟨_, _, _, _⟩ := hz; go_simp; try with_reducible rfl
    try go_frame
    refine' tk 1 ?_ ?_; rotate_left
    · intro z hz; obtain ⟨_, _, _, _⟩ := hz; go_simp; try with_reducible rfl
    try go_frame
    refine' tk 2 ?_ ?_; rotate_left
    · intro z hz; obtain ⟨_, _, _, _⟩ := hz; go_simp; try with_reducible rfl
    try go_frame
    refine' tk 3 ?_ ?_; rotate_left
    · intro z hz; obtain ⟨_, _, _, _⟩ := hz; go_simp; try with_reducible rfl
    try go_frame
    refine' tk 4 ?_ ?_; rotate_left
    · intro z hz; obtain ⟨_, _, _, _⟩ := hz; go_simp; try with_reducible rfl
    try go_frame
    refine' tk 5 ?_ ?_; rotate_left
    · intro z hz; obtain ⟨_, _, _, _⟩ := hz; go_simp; try with_reducible rfl
    try go_frame
    refine' tk 6 ?_ ?_; rotate_left
    · intro z hz; obtain ⟨_, _, _, _⟩ := hz; go_simp; try with_reducible rfl
    try go_frame
    refine' tk 7 ?_ ?_; rotate_left
    · intro z hz; obtain ⟨_, _, _, _⟩ := hz; go_simp; try with_reducible rfl
    try go_frame
    refine' tk 8 ?_ ?_; rotate_left
    · intro z hz; obtain ⟨_, _, _, _⟩ := hz; go_simp; try with_reducible rfl
    try go_frame
    refine' tk 9 ?_ ?_; rotate_left
    · intro z hz; obtain ⟨_, _, _, _⟩ := hz; go_simp; try with_reducible rfl
    try go_frame
    refine' tk 10 ?_ ?_; rotate_left
    · intro z hz; obtain ⟨_, _, _, _⟩ := hz; go_simp; try with_reducible rfl
    try go_frame
    refine tr 11 (fun K hK => ?_)
    have hsz : W1.heap.size ≤ w2.heap.size := HS2.out
    have hC := Push_any (G2.out.on HB0.out).heap ((G2.out.on HB0.out).hF (fun b hb => ⟨HF2.out b (Nat.le_trans HB0.out.size hb), by have h1 := HN.out.2.2.2; have h3 := HB0.out.size; omega⟩)) HLn.out (G2.out.on HB0.out).hp (itY x) hxs hxe
    clear hsz
    go_simp
    refine hC.mono ?_
    rintro e w3 ⟨A', ⟨rfl, hh, hpm⟩, hA', hT3⟩
    have G3 : Hid (QF (fun b => F b ∧ b ≠ u.heap.size) w3 p hb sb nb A' (S ++ [(x, 1)]) n Ws) := (G2.out.on HB0.out).heaped hA' hh (put_perm H1.out.1.pm hn hpm) hT3
    have HT3 : Hid (Turns F u w3) := HT2.out.trans ((Turns.below HB0.out).trans (hT3.weak (fun b _ hb => hb.1.1)))
    have hS3 : w3.cell? ⟨p, 0, none⟩ = some (.pointer (some ⟨hb, 0, none⟩)) ∧ w3.cell? ⟨u.heap.size, 0, none⟩ = some (.string x.1) ∧ w3.cell? ⟨u.heap.size, 1, none⟩ = some (.int .i64 x.2.1) ∧ w3.cell? ⟨u.heap.size, 2, none⟩ = some (.int .i64 x.2.2.1) := by
      refine HQ.out w3 (fun b hb => ?_)
      have hl : b < wd.heap.size := by have h1 := HB0.out.size; have h2 := HS2.out; obtain ⟨n1, n2, n3, n4⟩ := HN.out; rcases hb with rfl | rfl <;> omega
      exact (hT3.block b hl (fun hf => by rcases hb with rfl | rfl; exact hf.2.1 rfl; exact hf.1.2 rfl)).trans (hE0.out b hb)
    go_wp2_with fail
    refine hK.out _ _ hS3 (fun hHeld2 => ?_)
    clear hK K hHeld; have hHeld := hHeld2; clear hHeld2
    try go_frame
    refine tz ?_
    clear hHeld hS3 hC hA' hT3 hh hpm
    go_wp2_with fail
    --M5
    go_end0
    exact ⟨rfl, ⟨hb, sb, nb, A', G3.out.weak (fun b _ hf => hf.1)⟩, HT3.out⟩
  · have hR : Hid (rdyY S = rdyY (S ++ [(x, pl)])) := (rdy_snocN S x hp1).symm
    go_wp2_with fail
    --M4
    go_end0
    exact ⟨rfl, ⟨hb, sb, nb, A, by have := G2.out.weak (G := F) (fun b _ hf => hf.1); rw [hR.out] at this; exact this⟩, HT2.out⟩
end Go.Proofs.YtbmejaailhjgfaaGreat
namespace Go.Proofs.YtbmejaailhjgfaaGreat
open Go.RowKit
set_option linter.unusedSimpArgs false

theorem range_new {u : World} {T : TypeId} {b o : Nat} {p c q : List Value} (hb : u.heap.size = b) (ho : p.length = o) : (u.alloc (.cells (p ++ (c ++ q)).toArray T)).rangeAt b o c := by
  subst hb ho
  intro j v hj
  have : (u.alloc (.cells (p ++ (c ++ q)).toArray T)).heap[u.heap.size]? = some (.cells (p ++ (c ++ q)).toArray T) := heap_new u _ _ rfl
  generalize u.alloc (.cells (p ++ (c ++ q)).toArray T) = u' at this ⊢
  have hl : j < c.length := (List.getElem?_eq_some_iff.1 hj).1
  simp only [World.cell?, this]
  rw [List.getElem?_toArray, List.getElem?_append_right (by omega), show p.length + j - p.length = j by omega, List.getElem?_append_left hl]
  exact hj
theorem range_all {u : World} {T : TypeId} {b : Nat} {c : List Value} (hb : u.heap.size = b) : (u.alloc (.cells c.toArray T)).rangeAt b 0 c := by
  have := range_new (u := u) (T := T) (p := []) (c := c) (q := []) hb rfl
  simpa using this
theorem there_new {u : World} {T : TypeId} {b n : Nat} {c : Array Value} (hb : u.heap.size = b) (hn : c.size = n) : (u.alloc (.cells c T)).there b 0 n := by
  subst hb hn
  intro j hj
  have : (u.alloc (.cells c T)).heap[u.heap.size]? = some (.cells c T) := heap_new u _ _ rfl
  generalize u.alloc (.cells c T) = u' at this ⊢
  simp [World.cell?, World.frozen?, this, hj]
theorem range_on {w w' : World} {B b o : Nat} {c : List Value} (h : w.rangeAt b o c) (hb : Below B w w') (hB : b < B) : w'.rangeAt b o c := fun j v hj => (hb.cell (p := ⟨b, o + j, none⟩) hB).trans (h j v hj)
theorem there_on {w w' : World} {B b o n : Nat} (h : w.there b o n) (hb : Below B w w') (hB : b < B) : w'.there b o n := fun j hj => by
  rw [hb.cell (p := ⟨b, o + j, none⟩) hB, hb.frozen (p := ⟨b, o + j, none⟩) hB]; exact h j hj
theorem below_setCells {B b : Nat} {a : World} : ∀ {vs : List Value} {o : Nat} {u : World}, Below B a u → B ≤ b → Below B a (u.setCells b o vs)
  | [], _, _, h, _ => h
  | v :: r, o, u, h, hb => by
    rw [World.setCells]
    exact below_setCells (h.setCell (p := ⟨b, o, none⟩) hb v) hb
theorem size_setCells {b : Nat} : ∀ {vs : List Value} {o : Nat} {u : World}, (u.setCells b o vs).heap.size = u.heap.size
  | [], _, _ => rfl
  | v :: r, o, u => by rw [World.setCells, size_setCells]; simp
theorem kept_setCells {A : Where} {b : Nat} (h : ¬ A b) : ∀ {vs : List Value} {o : Nat} {u : World}, Kept A u (u.setCells b o vs)
  | [], _, u => Kept.refl A u
  | v :: r, o, u => by
    rw [World.setCells]
    exact (Kept.set (p := ⟨b, o, none⟩) h v).trans (kept_setCells h)

/-- One result, a struct that lies in memory. -/
theorem res_cell {P : Program} {fn : Func} {p : Tmp} {ty : TypeId} (h : fn.results = #[.cell p ty]) (tmps : Array Value) (w : World) (b : Nat) (cs : List Value) (d : TypeDesc)
    (hp : tmps.getD p undef = .pointer (some ⟨b, 0, none⟩)) (hr : w.rangeAt b 0 cs) (hu : P.underlying ty = some d) (hd : d.isRow = true) (hi : (P.info? ty).map (·.size) = some cs.length) :
    (results fn tmps).run P w = .ok (.agg cs.toArray) w := by
  have hp' : tmps[p]?.getD undef = .pointer (some ⟨b, 0, none⟩) := by simpa using hp
  simp [results, h, hp', asAddr, run_loadVar_mid w b 0 ty cs d hr hu hd hi]
/-- Two results, the first a struct that lies in memory. -/
theorem res_cell2 {P : Program} {fn : Func} {p q : Tmp} {ty : TypeId} (h : fn.results = #[.cell p ty, .tmp q]) (tmps : Array Value) (w : World) (b : Nat) (cs : List Value) (d : TypeDesc) (y : Value)
    (hp : tmps.getD p undef = .pointer (some ⟨b, 0, none⟩)) (hq : tmps.getD q undef = y) (hr : w.rangeAt b 0 cs) (hu : P.underlying ty = some d) (hd : d.isRow = true) (hi : (P.info? ty).map (·.size) = some cs.length) :
    (results fn tmps).run P w = .ok (.tuple #[.agg cs.toArray, y]) w := by
  have hp' : tmps[p]?.getD undef = .pointer (some ⟨b, 0, none⟩) := by simpa using hp
  have hq' : tmps[q]?.getD undef = y := by simpa using hq
  simp [results, h, hp', hq', asAddr, run_loadVar_mid w b 0 ty cs d hr hu hd hi]
/-- Three results, the first a struct that lies in memory. -/
theorem res_cell3 {P : Program} {fn : Func} {p q r : Tmp} {ty : TypeId} (h : fn.results = #[.cell p ty, .tmp q, .tmp r]) (tmps : Array Value) (w : World) (b : Nat) (cs : List Value) (d : TypeDesc) (y z : Value)
    (hp : tmps.getD p undef = .pointer (some ⟨b, 0, none⟩)) (hq : tmps.getD q undef = y) (hz : tmps.getD r undef = z) (hr : w.rangeAt b 0 cs) (hu : P.underlying ty = some d) (hd : d.isRow = true) (hi : (P.info? ty).map (·.size) = some cs.length) :
    (results fn tmps).run P w = .ok (.tuple #[.agg cs.toArray, y, z]) w := by
  have hp' : tmps[p]?.getD undef = .pointer (some ⟨b, 0, none⟩) := by simpa using hp
  have hq' : tmps[q]?.getD undef = y := by simpa using hq
  have hz' : tmps[r]?.getD undef = z := by simpa using hz
  simp [results, h, hp', hq', hz', asAddr, run_loadVar_mid w b 0 ty cs d hr hu hd hi]
end Go.Proofs.YtbmejaailhjgfaaGreat
namespace Go.Proofs.YtbmejaailhjgfaaGreat
open Go.RowKit Go.Maps
set_option linter.unusedSimpArgs false
set_option maxRecDepth 100000

theorem turns_cells {F : Where} {b : Nat} (h : F b) : ∀ {vs : List Value} {o : Nat} {u : World}, Turns F u (u.setCells b o vs)
  | [], _, u => Turns.refl F u
  | v :: r, o, u => by
    rw [World.setCells]
    exact (Turns.set (p := ⟨b, o, none⟩) h v).trans (turns_cells h)
theorem box_overY {u : World} {D : Nat} {zs cs : List Value} (hb : BoxL u D zs) (hl : zs.length = cs.length) : BoxL (u.setCells D 0 cs) D cs := by
  have hth : u.there D 0 cs.length := hl ▸ hb.there
  have hr := World.rangeAt_setCells_same u D 0 cs hth
  have ht2 := World.there_setCells hth D 0 cs
  refine ⟨Nat.lt_of_lt_of_le hb.1 (kept_setCells (A := fun _ => False) (b := D) (fun h => h) (vs := cs) (o := 0) (u := u)).1, fun j v hj => ?_⟩
  have h1 := hr j v hj
  have h2 := (ht2 j (List.getElem?_eq_some_iff.1 hj).1).2
  rw [Nat.zero_add] at h1 h2
  exact ⟨h1, h2⟩
theorem Turns.box {F : Where} {u u' : World} {D : Nat} {cs : List Value} (h : Turns F u u') (hb : BoxL u D cs) (hD : ¬ F D) : BoxL u' D cs := hb.kept (A := fun b => ¬ F b) ⟨h.size, fun b hb hl => h.block b hl hb⟩ hD
/-- 'delete(m, s)'. -/
theorem wpList_delY {α : Type} {key : α → ByteArray} {val : α → Value} {S : List α} {w : World} {ops : Array Oper} {rest : List Oper} {o : Oper} {a : Act} {Q : Exit → Act → World → Prop} {mb : Nat} (hg : o.guard = none) (m x : Operand) (t : TypeId) (hop : o.op = Op.call { callee := Callee.builtin Builtin.delete, args := #[m, x], argTypes := #[t, 9] })
    (e : TypeId) (ht : Tryz.prog.underlying t = some (.map 9 e)) (hm : a.eval m = .map (some mb)) (s : ByteArray) (hs : s.size ≤ 140737488355328) (hx : a.eval x = .string s) (h : MpL w mb key val S)
    (hK : ∀ w', MpL w' mb key val (othG key s S) → w.mapTurned w' mb → wpList Tryz.prog ops Q rest (a.put o.dst (.tuple #[])) w') : wpList Tryz.prog ops Q (o :: rest) a w := by
  refine wpList_plain hg fun K' hK' => ?_
  obtain ⟨w', hrun, r1, r2⟩ := h.drop t e ht s hs o.type
  unfold Oper.wp
  simp [execOp, hop, resolve, invoke, builtin, hm, hx, hrun, Result.andThen]
  exact hK' _ _ (hK w' r1 r2)
theorem rdy_oth (S : List EnD) (s : ByteArray) : rdyY (othG enN s S) = dropK (rdyY S) s.toList := by
  unfold rdyY othG dropK
  rw [List.filter_map, List.filter_filter, List.filter_filter]
  congr 1
  refine List.filter_congr (fun x _ => ?_)
  exact Bool.and_comm _ _
theorem Drop_any {F : Where} {w : World} {hb : Nat} {L : List It} (h : HAt F w hb L) (hF : ∀ b, w.heap.size ≤ b → F b) (hL : L.length < 1000000000000) (hh : HeapL L) (s : ByteArray) (hs : s.size ≤ 140737488355328) :
    Calls Tryz.prog 59 #[.pointer (some ⟨hb, 0, none⟩), .string s] w fun e w' => ∃ L', ((∃ v, e = .returned v) ∧ HeapL L' ∧ L'.Perm (dropK L s.toList)) ∧ HAt F w' hb L' ∧ Turns F w w' := by
  have hd := h.dk
  cases hk : hasK L s.toList with
  | false =>
    refine (Drop_none h s hs hk).mono ?_
    rintro e w' ⟨rfl, hb'⟩
    exact ⟨L, ⟨⟨_, rfl⟩, hh, by rw [dropK_none hk]⟩, h.grow hb', Turns.below hb'⟩
  | true =>
    obtain ⟨i, hi, e⟩ := hasK_at hk
    refine (Drop_some h hF hL s hs i hi e).mono ?_
    rintro e' w' ⟨rfl, q1, q2⟩
    have p := lastL_heap hh hi
    exact ⟨_, ⟨⟨_, rfl⟩, p.1, drop_dropK hd hi e p.2⟩, q1, q2⟩
/-- The entry of a name, or none. -/
def enY (S : List EnD) (s : ByteArray) : WtD := (fndG enN S s).elim zWtY Prod.fst
theorem en_look (S : List EnD) (s : ByteArray) : ∃ pl, (fndG enN S s).elim (Value.agg #[.int .i64 0, .string ⟨#[]⟩, .int .i64 0, .int .i64 0, .int .i64 0, .int .i64 0]) spC = spC (enY S s, pl) := by
  unfold enY
  cases fndG enN S s with
  | none => exact ⟨0, rfl⟩
  | some e => exact ⟨e.2, rfl⟩
set_option maxHeartbeats 16000000 in
theorem ytake_calls {F : Where} {u : World} {p : Nat} {S : List EnD} {n : Int} {Ws : List WiD} (h : QA F u p S n Ws) (hF : ∀ b, u.heap.size ≤ b → F b) (s : ByteArray) (hs : okS s) (hl : S.length < 1000000000) :
    Calls Tryz.prog 38 #[.pointer (some ⟨p, 0, none⟩), .string s] u fun e w' => e = .returned (.agg (wtC (enY S s)).toArray) ∧ QA F w' p (othG enN s S) n Ws ∧ Turns F u w' := by
  obtain ⟨hb, sb, nb, A, h⟩ := h
  obtain ⟨W1, hW1⟩ : ∃ Z, Z = u.alloc (.cells #[.string ⟨#[]⟩, .int .i64 0, .int .i64 0, .int .i64 0, .int .i64 0] 31) := ⟨_, rfl⟩
  have b1 : Below u.heap.size u W1 := by rw [hW1]; exact (Below.refl _ _).alloc (Nat.le_refl _) _
  have q1 : BoxL W1 u.heap.size [.string ⟨#[]⟩, .int .i64 0, .int .i64 0, .int .i64 0, .int .i64 0] := by rw [hW1]; exact BoxL.new u 31 _
  have s1 : W1.heap.size = u.heap.size + 1 := by rw [hW1]; simp
  obtain ⟨pl, hlk⟩ := en_look S s
  have HRx : Hid (enY S s = enY S s) := rfl
  have HN : Hid ((fndG enN S s = none → enY S s = zWtY)) := fun e => by unfold enY; rw [e]; rfl
  obtain ⟨x, hx⟩ : ∃ x, enY S s = x := ⟨_, rfl⟩
  rw [hx] at hlk ⊢
  obtain ⟨W3, hW3⟩ : ∃ Z, Z = W1.alloc (.cells (wtC x).toArray 31) := ⟨_, rfl⟩
  have b2 : Below W1.heap.size W1 W3 := by rw [hW3]; exact (Below.refl _ _).alloc (Nat.le_refl _) _
  have q3 : BoxL W3 W1.heap.size (wtC x) := by rw [hW3]; exact BoxL.new W1 31 _
  have q3a : BoxL W3 u.heap.size [.string ⟨#[]⟩, .int .i64 0, .int .i64 0, .int .i64 0, .int .i64 0] := q1.on b2
  have s3 : W3.heap.size = u.heap.size + 2 := by rw [hW3]; simp [s1]
  have h3 : QF (fun b => F b ∧ b ≠ u.heap.size ∧ b ≠ W1.heap.size) W3 p hb sb nb A S n Ws := ((h.weak (G := fun b => F b ∧ b ≠ u.heap.size ∧ b ≠ W1.heap.size) (fun b hb hf => ⟨hf, by omega, by omega⟩)).on b1).on b2
  have t3 : Turns F u W3 := (Turns.below b1).trans (Turns.below b2)
  have c1 : W1.cell? ⟨p, 1, none⟩ = some (.map (some sb)) := (h.on b1).c1
  have hlw := (h.on b1).spots.look 57 78 Tryz.underlying57 (zeroSp W1) hs
  rw [hlk] at hlw
  have hfd := fldE
  have HW3 : Hid (W1.alloc (.cells (wtC x).toArray 31) = W3) := hW3.symm
  have HW1 : Hid (u.alloc (.cells #[.string ⟨#[]⟩, .int .i64 0, .int .i64 0, .int .i64 0, .int .i64 0] 31) = W1) := hW1.symm
  have HS1 : Hid (W1.heap.size = u.heap.size + 1) := s1
  have H3 : Hid (QF (fun b => F b ∧ b ≠ u.heap.size ∧ b ≠ W1.heap.size) W3 p hb sb nb A S n Ws ∧ BoxL W3 W1.heap.size (wtC x) ∧ BoxL W3 u.heap.size [.string ⟨#[]⟩, .int .i64 0, .int .i64 0, .int .i64 0, .int .i64 0] ∧ Turns F u W3 ∧ W3.heap.size = u.heap.size + 2 ∧ p < u.heap.size ∧ sb < u.heap.size ∧ nb < u.heap.size) := ⟨h3, q3, q3a, t3, s3, h.lt, h.spots.lt, h.hopes.lt⟩
  have HF : Hid (∀ b, u.heap.size ≤ b → F b) := hF
  have HLn : Hid (A.length < 1000000000000) := by
    have e1 := h.pm.length_eq
    have e2 : (rdyY S).length ≤ S.length := by unfold rdyY; rw [List.length_map]; exact List.length_filter_le _ _
    rw [Hid]; omega
  clear hW1 hW3 b1 b2 q1 q3 q3a h3 t3 s1 s3 h hF hlk
  simp only [spC] at hlw
  go_enter Tryz.func38, Tryz.ntmps38
  go_upto_region 1 with fail
  rw [HW1.out]
  go_upto_region 2 with fail
  rw [HW3.out]
  have c3 := H3.out.1.c1
  go_upto_region 3 with (at_delete; refine wpList_delY rfl _ _ 57 rfl 78 Tryz.underlying57 rfl s hs rfl H3.out.1.spots ?_; intro w4 hm4 ht4)
  --M2
  have G4 : Hid (QG (fun b => F b ∧ b ≠ u.heap.size ∧ b ≠ W1.heap.size) w4 p hb sb nb A (rdyY S) (othG enN s S) n Ws) := H3.out.1.spotted hm4 ht4 (fun e he => H3.out.1.ok e (mem_othG.1 he).1)
  have HN3 : Hid (u.heap.size ≠ sb ∧ W1.heap.size ≠ sb) := ⟨by have := H3.out.2.2.2.2.2.2.1; omega, by have := H3.out.2.2.2.2.2.2.1; have := HS1.out; omega⟩
  have HT4 : Hid (Turns F u w4) := H3.out.2.2.2.1.trans (Turns.map ht4 H3.out.1.fs.1)
  have HQ4 : Hid (BoxL w4 W1.heap.size (wtC x) ∧ BoxL w4 u.heap.size [.string ⟨#[]⟩, .int .i64 0, .int .i64 0, .int .i64 0, .int .i64 0]) := ⟨(Turns.map (F := fun b => b = sb) ht4 rfl).box H3.out.2.1 HN3.out.2, (Turns.map (F := fun b => b = sb) ht4 rfl).box H3.out.2.2.1 HN3.out.1⟩
  have HF4 : Hid (∀ b, w4.heap.size ≤ b → HpB (fun b => F b ∧ b ≠ u.heap.size ∧ b ≠ W1.heap.size) p sb nb b) := G4.out.hF (fun b hb => ⟨HF.out b (Nat.le_trans HT4.out.size hb), by have h1 := HQ4.out.2.1; omega, by have h1 := HQ4.out.1.1; omega⟩)
  have c4 := G4.out.c0
  have hC := Drop_any G4.out.heap HF4.out HLn.out G4.out.hp s hs
  clear c1 c3 hlw hm4 ht4
  go_wp2_with fail
  --M3
  refine hC.mono ?_
  rintro e w5 ⟨A', ⟨⟨v5, rfl⟩, hh5, hpm5⟩, hA5, hT5⟩
  have G5 : Hid (QF (fun b => F b ∧ b ≠ u.heap.size ∧ b ≠ W1.heap.size) w5 p hb sb nb A' (othG enN s S) n Ws) := G4.out.heaped hA5 hh5 (by rw [rdy_oth]; exact hpm5.trans (G4.out.pm.filter _)) hT5
  have HT5 : Hid (Turns F u w5) := HT4.out.trans (hT5.weak (fun b _ hb => hb.1.1))
  have q5 : BoxL w5 W1.heap.size (wtC x) := hT5.box HQ4.out.1 (fun hf => hf.1.2.2 rfl)
  have q5a : BoxL w5 u.heap.size [.string ⟨#[]⟩, .int .i64 0, .int .i64 0, .int .i64 0, .int .i64 0] := hT5.box HQ4.out.2 (fun hf => hf.1.2.1 rfl)
  obtain ⟨W6, hW6⟩ : ∃ Z, Z = w5.setCells u.heap.size 0 (wtC x) := ⟨_, rfl⟩
  have HT6 : Hid (Turns F u W6) := by rw [hW6]; exact HT5.out.trans (turns_cells (HF.out _ (Nat.le_refl _)))
  have H6 : Hid (QA F W6 p (othG enN s S) n Ws) := ⟨hb, sb, nb, A', by rw [hW6]; exact (G5.out.kept (fun b hb hf => (kept_setCells (A := fun b => b ≠ u.heap.size) (fun h => h rfl)).2 b hf.2.1 hb)).weak (fun b _ hf => hf.1)⟩
  have HR6 : Hid (W6.rangeAt u.heap.size 0 (wtC x)) := by rw [hW6]; exact World.rangeAt_setCells_same _ _ _ _ q5a.there
  have HTh : Hid (w5.there u.heap.size 0 (wtC x).toArray.size) := q5a.there
  have HW6 : Hid (w5.setCells u.heap.size 0 (wtC x).toArray.toList = W6) := hW6.symm
  have HX5 : Hid (w5.rangeAt W1.heap.size 0 (wtC x)) := q5.range
  clear hC hh5 hpm5 hA5 hT5 q5 q5a hW6 c4
  go_wp2_with (first | (refine wpList_load_mid rfl 31 _ rfl W1.heap.size 0 rfl (wtC x) _ HX5.out Tryz.underlying31 rfl (by kernel_rfl) ?_) | (refine wpList_store_mid rfl 31 _ _ rfl u.heap.size 0 (wtC x).toArray rfl rfl HTh.out (by kernel_rfl) (by simp [Value.oneCell']) ?_; refine wpl_atG HW6.out.symm ?_) | fail)
  --M4
  refine bodyPost_ret (v := .agg (wtC x).toArray) (res_cell (p := 4) (ty := 31) rfl _ _ u.heap.size (wtC x) _ rfl HR6.out Tryz.underlying31 rfl (by kernel_rfl)) rfl ?_
  exact ⟨rfl, H6.out, HT6.out⟩
set_option maxHeartbeats 16000000 in
theorem yshift_calls {F : Where} {u : World} {p : Nat} {S : List EnD} {n : Int} {Ws : List WiD} (h : QA F u p S n Ws) (hF : ∀ b, u.heap.size ≤ b → F b) (x : WtD) (pl : Int) (hx : okE (x, pl)) (hl : S.length < 1000000000) :
    Calls Tryz.prog 45 #[.pointer (some ⟨p, 0, none⟩), .agg (wtC x).toArray, .int .i64 pl] u fun e w' => e = .returned (.tuple #[]) ∧ QA F w' p (othG enN x.1 S ++ [(x, pl)]) n Ws ∧ Turns F u w' := by
  obtain ⟨W1, hW1⟩ : ∃ Z, Z = u.alloc (.cells (wtC x).toArray 31) := ⟨_, rfl⟩
  have b1 : Below u.heap.size u W1 := by rw [hW1]; exact (Below.refl _ _).alloc (Nat.le_refl _) _
  have q1 : BoxL W1 u.heap.size (wtC x) := by rw [hW1]; exact BoxL.new u 31 (wtC x)
  have hp := h.lt
  have h1 := (h.weak (G := fun b => F b ∧ b ≠ u.heap.size) (fun b hb hf => ⟨hf, by omega⟩)).on b1
  have hC1 := ytake_calls h1 (fun b hb => ⟨hF b (Nat.le_trans b1.size hb), by have := q1.1; omega⟩) x.1 hx.1 hl
  have c0 : W1.cell? ⟨u.heap.size, 0, none⟩ = some (.string x.1) := (q1.2 0 _ rfl).1
  have HN : Hid (fndG enN (othG enN x.1 S) x.1 = none) := by
    rw [Hid]
    cases e : fndG enN (othG enN x.1 S) x.1 with
    | none => rfl
    | some y => have h1 := fndG_some e; exact absurd h1.2 (mem_othG.1 h1.1).2
  have HL : Hid ((othG enN x.1 S).length < 1000000000) := Nat.lt_of_le_of_lt (List.length_filter_le _ _) hl
  have HE : Hid (okE (x, pl)) := hx
  have HF : Hid (∀ b, u.heap.size ≤ b → F b) := hF
  have H1 : Hid (BoxL W1 u.heap.size (wtC x) ∧ Below u.heap.size u W1) := ⟨q1, b1⟩
  have HW1 : Hid (u.alloc (.cells (wtC x).toArray 31) = W1) := hW1.symm
  clear hW1 b1 q1 h h1 hF hx hp
  go_enter Tryz.func45, Tryz.ntmps45
  go_upto_region 1 with fail
  rw [HW1.out]
  go_wp2_with fail
  refine hC1.mono ?_
  rintro e w2 ⟨rfl, h2, t2⟩
  have q2 := t2.box H1.out.1 (fun hf => hf.2 rfl)
  have hC2 := yput_calls h2 (fun b hb => ⟨HF.out b (Nat.le_trans H1.out.2.size (Nat.le_trans t2.size hb)), by have := q2.1; omega⟩) x pl HE.out HN.out HL.out
  have HX : Hid (w2.rangeAt u.heap.size 0 (wtC x)) := q2.range
  have HT : Hid (Turns F u w2) := (Turns.below H1.out.2).trans (t2.weak (fun b _ hf => hf.1))
  clear hC1 c0 h2 t2 q2 HW1
  --M5
  go_wp2_with (first | (refine wpList_load_mid rfl 31 _ rfl u.heap.size 0 rfl (wtC x) _ HX.out Tryz.underlying31 rfl (by kernel_rfl) ?_) | fail)
  refine hC2.mono ?_
  rintro e w3 ⟨rfl, h3, t3⟩
  have H3 : Hid (QA F w3 p (othG enN x.1 S ++ [(x, pl)]) n Ws ∧ Turns F u w3) := ⟨h3.weak (fun b _ hf => hf.1), HT.out.trans (t3.weak (fun b _ hf => hf.1))⟩
  clear hC2 h3 t3
  go_wp2_with fail
  go_end0
  exact ⟨rfl, H3.out.1, H3.out.2⟩
end Go.Proofs.YtbmejaailhjgfaaGreat
