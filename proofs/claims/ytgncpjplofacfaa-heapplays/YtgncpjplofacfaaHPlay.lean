/- What a heap answers, by a sorted list; the document's Put and Drop, the law's 'found'. Condition: fewer than 1,000,000,000 entries. -/
import Derived.Test.YtgncpjplofacfaaHClone
namespace Go.Proofs.Ytgncpjplofacfaa
open Go.RowKit Go.Maps
set_option linter.unusedSimpArgs false

/-- The first entry of a key. -/
def fnd (L : List It) (k : List UInt8) : It × Int := match L.find? (fun x => x.1.toList == k) with
  | some x => (x, 0)
  | none => (zI, 5)
theorem fnd_none {L : List It} {k : List UInt8} (h : hasK L k = false) : fnd L k = (zI, 5) := by
  unfold fnd
  have : L.find? (fun x => x.1.toList == k) = none := by
    rw [List.find?_eq_none]
    unfold hasK at h
    rw [List.any_eq_false] at h
    exact h
  rw [this]
theorem fnd_at {L : List It} {k : List UInt8} (hd : DK L) {i : Nat} (hi : i < L.length) (e : (L[i].1.toList == k) = true) : fnd L k = (L[i], 0) := by
  unfold fnd
  cases hf : L.find? (fun x => x.1.toList == k) with
  | none =>
    rw [List.find?_eq_none] at hf
    exact absurd e (hf _ (List.getElem_mem hi))
  | some x =>
    have hx := List.mem_of_find?_eq_some hf
    have hp := List.find?_some hf
    obtain ⟨j, hj, rfl⟩ := List.mem_iff_getElem.1 hx
    have : j = i := by
      have hpw := List.pairwise_iff_getElem.1 hd
      have hk : sameK L[j] L[i] = true := by
        unfold sameK
        rw [beq_iff_eq.1 e, beq_iff_eq.1 hp]; simp
      rcases Nat.lt_trichotomy j i with c | c | c
      · have := hpw j i hj hi c; rw [hk] at this; cases this
      · exact c
      · have := hpw i j hi hj c; rw [sameK_symm, hk] at this; cases this
    subst this
    rfl
theorem hasK_perm {A B : List It} (h : A.Perm B) (k : List UInt8) : hasK A k = hasK B k := by
  unfold hasK
  rw [Bool.eq_iff_iff, List.any_eq_true, List.any_eq_true]
  exact ⟨fun ⟨x, hx, e⟩ => ⟨x, h.mem_iff.1 hx, e⟩, fun ⟨x, hx, e⟩ => ⟨x, h.mem_iff.2 hx, e⟩⟩
theorem fnd_perm {A B : List It} (h : A.Perm B) (hd : DK A) (k : List UInt8) : fnd A k = fnd B k := by
  cases hk : hasK A k with
  | false => rw [fnd_none hk, fnd_none (by rw [← hasK_perm h]; exact hk)]
  | true =>
    obtain ⟨i, hi, e⟩ := hasK_at hk
    have hm := h.mem_iff.1 (List.getElem_mem hi)
    obtain ⟨j, hj, ej⟩ := List.mem_iff_getElem.1 hm
    rw [fnd_at hd hi e, fnd_at (hd.perm h) hj (by rw [ej]; exact e), ej]
theorem fnd_ok {A : List It} (h : ∀ x ∈ A, okI x) (k : List UInt8) : okI (fnd A k).1 := by
  unfold fnd
  split
  · rename_i x hx; exact h x (List.mem_of_find?_eq_some hx)
  · simp [zI, okI, ByteArray.size]
/-- What comes ahead of all. -/
def hdI (L : List It) : It × Int := if L.length = 0 then (zI, 5) else (at_ L 0, 0)
/-- A sorted list and a heap with the same entries. -/
structure Like (l A : List It) : Prop where
  hh : HeapL A
  pm : l.Perm A
  sr : Srt l 0 l.length
theorem Like.len {l A : List It} (h : Like l A) : l.length = A.length := h.pm.length_eq
theorem Like.stab {l A : List It} (h : Like l A) : stabF A = l := (srt_stab h.pm h.sr).symm
theorem Like.nil : Like [] [] := ⟨fun k h1 h2 => by simp at h2, List.Perm.refl _, fun i j h1 h2 h3 => by simp at h3⟩
theorem Like.head {l A : List It} (h : Like l A) (h0 : 0 < l.length) : at_ l 0 = at_ A 0 := by
  have hA : 0 < A.length := by rw [← h.len]; exact h0
  have m1 : at_ A 0 ∈ l := h.pm.mem_iff.2 (by rw [at_get hA]; exact List.getElem_mem hA)
  have m2 : at_ l 0 ∈ A := h.pm.mem_iff.1 (by rw [at_get h0]; exact List.getElem_mem h0)
  obtain ⟨i, hi, ei⟩ := List.mem_iff_getElem.1 m1
  obtain ⟨j, hj, ej⟩ := List.mem_iff_getElem.1 m2
  have r1 := h.sr 0 i (Nat.le_refl _) (Nat.zero_le _) hi
  have r2 := HeapN.root h.hh (j + 1) j (by omega) hj
  rw [at_get hi, ei] at r1
  rw [at_get hj, ej] at r2
  exact nl_eq r1 r2
theorem Like.hd {l A : List It} (h : Like l A) : hdI l = hdI A := by
  unfold hdI
  rw [h.len]
  split
  · rfl
  · rename_i c; rw [h.head (by rw [h.len]; omega)]
theorem srt_filter {l : List It} (p : It → Bool) (h : Srt l 0 l.length) : Srt (l.filter p) 0 (l.filter p).length := by
  have hs : l.Pairwise nl := by
    rw [List.pairwise_iff_getElem]
    intro i j hi hj hij
    have := h i j (Nat.zero_le _) (by omega) hj
    rwa [at_get hi, at_get hj] at this
  have hf := List.Pairwise.filter p hs
  intro i j _ h2 h3
  rcases Nat.lt_or_ge i j with c | c
  · have := List.pairwise_iff_getElem.1 hf i j (by omega) h3 c
    rwa [at_get (by omega), at_get h3]
  · rw [show i = j by omega]; exact nl_self _
theorem srt_stabF (L : List It) : Srt (stabF L) 0 (stabF L).length := by have := stabF_srt L; rw [stabF_length]; exact this
theorem Like.put {l A A' : List It} (h : Like l A) (y : It) (h1 : HeapL A') (h2 : A'.Perm (putK A y)) : Like (stabF (putK l y)) A' :=
  ⟨h1, (stabF_perm _).trans ((putK_perm h.pm y).trans h2.symm), srt_stabF _⟩
theorem Like.drop {l A A' : List It} (h : Like l A) (k : List UInt8) (h1 : HeapL A') (h2 : A'.Perm (dropK A k)) : Like (dropK l k) A' :=
  ⟨h1, (h.pm.filter _).trans h2.symm, srt_filter _ h.sr⟩
theorem Like.pop {l A A' : List It} (h : Like l A) (h0 : 0 < l.length) (h1 : HeapL A') (h2 : (A' ++ [at_ A 0]).Perm A) : Like (l.drop 1) A' := by
  have e : l = at_ l 0 :: l.drop 1 := by
    rw [at_get h0]
    have := List.drop_eq_getElem_cons (l := l) (i := 0) h0
    simpa using this
  refine ⟨h1, ?_, ?_⟩
  · have p : (at_ l 0 :: l.drop 1).Perm (at_ l 0 :: A') := by
      rw [← e]
      refine h.pm.trans (h2.symm.trans ?_)
      rw [h.head h0]
      exact List.perm_append_comm
    exact (List.perm_cons _).1 p
  · intro i j _ k2 k3
    have hl : (l.drop 1).length = l.length - 1 := by simp
    rw [hl] at k3
    have ea : ∀ t, t < l.length - 1 → at_ (l.drop 1) t = at_ l (1 + t) := fun t ht => by
      rw [at_get (by omega), at_get (by omega), List.getElem_drop]
    rw [ea i (by omega), ea j k3]
    exact h.sr _ _ (Nat.zero_le _) (by omega) (by omega)
theorem putK_length (A : List It) (y : It) : (putK A y).length ≤ A.length + 1 := by
  unfold putK dropK
  rw [List.length_append]
  have := List.length_filter_le (fun x : It => !(x.1.toList == y.1.toList)) A
  simp; omega
theorem dropK_length (A : List It) (k : List UInt8) : (dropK A k).length ≤ A.length := List.length_filter_le _ _

section
variable {w0 u : World} {hb : Nat} {A : List It} {K : Where}
theorem Peek_step (h : Hpk w0 u hb A K) : Calls Try.prog 12 #[.pointer (some ⟨hb, 0, none⟩)] u fun e w' => e = .returned (.tuple #[vI (hdI A).1, .int .i64 (hdI A).2]) ∧ Below u.heap.size u w' := by
  obtain ⟨F, k1, _⟩ := h
  unfold hdI
  split
  · rename_i c
    obtain rfl : A = [] := List.length_eq_zero_iff.1 c
    exact Peek_none k1
  · exact Peek_some k1 (by omega)
theorem PopE_step (h : Hpk w0 u hb A K) (hs : w0.heap.size ≤ u.heap.size) (hK : ∀ b, K b → b < u.heap.size) (hL : A.length < 1000000000000) (hh : HeapL A) :
    Calls Try.prog 13 #[.pointer (some ⟨hb, 0, none⟩)] u fun e w' => ∃ A', (e = .returned (.tuple #[vI (hdI A).1, .int .i64 (hdI A).2]) ∧ HeapL A' ∧ A'.length ≤ A.length ∧ (A.length = 0 → A' = []) ∧ (0 < A.length → (A' ++ [at_ A 0]).Perm A)) ∧ Hpk w0 w' hb A' K ∧ Turns (fun b => w0.heap.size ≤ b ∧ ¬ K b) u w' := by
  by_cases c : A.length = 0
  · obtain rfl : A = [] := List.length_eq_zero_iff.1 c
    obtain ⟨F, k1, k2⟩ := h
    refine (Pop_none k1).mono ?_
    rintro e w' ⟨rfl, hb'⟩
    exact ⟨[], ⟨by simp [hdI], hh, Nat.le_refl _, fun _ => rfl, fun q => by simp at q⟩, Hpk.grow ⟨F, k1, k2⟩ hb', Turns.below hb'⟩
  · refine (Pop_step h hs hK hL hh (by omega)).mono ?_
    rintro e w' ⟨A', ⟨rfl, q1, q2⟩, q3, q4⟩
    refine ⟨A', ⟨by simp [hdI, c], q1, ?_, fun q => absurd q c, fun _ => q2⟩, q3, q4⟩
    have := q2.length_eq
    simp at this
    omega
theorem Get_step (h : Hpk w0 u hb A K) (s : ByteArray) (hs : s.size ≤ 140737488355328) : Calls Try.prog 14 #[.pointer (some ⟨hb, 0, none⟩), .string s] u fun e w' => e = .returned (.tuple #[vI (fnd A s.toList).1, .int .i64 (fnd A s.toList).2]) ∧ Below u.heap.size u w' := by
  have hd := h.dk
  obtain ⟨F, k1, _⟩ := h
  cases hk : hasK A s.toList with
  | false => rw [fnd_none hk]; exact Get_none k1 s hs hk
  | true =>
    obtain ⟨i, hi, e⟩ := hasK_at hk
    rw [fnd_at hd hi e]
    exact Get_some k1 s hs i hi e
theorem Drop_step (h : Hpk w0 u hb A K) (hsz : w0.heap.size ≤ u.heap.size) (hK : ∀ b, K b → b < u.heap.size) (hL : A.length < 1000000000000) (hh : HeapL A) (s : ByteArray) (hs : s.size ≤ 140737488355328) :
    Calls Try.prog 15 #[.pointer (some ⟨hb, 0, none⟩), .string s] u fun e w' => ∃ A', (e = .returned (.tuple #[vI (fnd A s.toList).1, .int .i64 (fnd A s.toList).2]) ∧ HeapL A' ∧ A'.Perm (dropK A s.toList)) ∧ Hpk w0 w' hb A' K ∧ Turns (fun b => w0.heap.size ≤ b ∧ ¬ K b) u w' := by
  have hd := h.dk
  cases hk : hasK A s.toList with
  | false =>
    obtain ⟨F, k1, k2⟩ := h
    rw [fnd_none hk]
    refine (Drop_none k1 s hs hk).mono ?_
    rintro e w' ⟨rfl, hb'⟩
    exact ⟨A, ⟨rfl, hh, by rw [dropK_none hk]⟩, Hpk.grow ⟨F, k1, k2⟩ hb', Turns.below hb'⟩
  | true =>
    obtain ⟨i, hi, e⟩ := hasK_at hk
    rw [fnd_at hd hi e]
    refine h.call (P := fun e' A' => e' = .returned (.tuple #[vI A[i], .int .i64 0]) ∧ HeapL A' ∧ A'.Perm (dropK A s.toList)) hsz hK (fun F k1 k2 => ?_)
    refine (Drop_some k1 k2 hL s hs i hi e).mono ?_
    rintro e' w' ⟨rfl, q1, q2⟩
    have p := lastL_heap hh hi
    exact ⟨_, ⟨by rw [at_get hi], p.1, drop_dropK hd hi e p.2⟩, q1, q2⟩
theorem PushE_step (h : Hpk w0 u hb A K) (hs : w0.heap.size ≤ u.heap.size) (hK : ∀ b, K b → b < u.heap.size) (hL : A.length < 1000000000000) (hh : HeapL A) (y : It) (hy : okI y) (he : y.1.toList.isEmpty = false) :
    Calls Try.prog 10 #[.pointer (some ⟨hb, 0, none⟩), vI y] u fun e w' => ∃ A', (e = .returned (.tuple #[.bool (hasK A y.1.toList), .int .i64 0]) ∧ HeapL A' ∧ A'.Perm (putK A y)) ∧ Hpk w0 w' hb A' K ∧ Turns (fun b => w0.heap.size ≤ b ∧ ¬ K b) u w' :=
  h.call (P := fun e A' => e = .returned (.tuple #[.bool (hasK A y.1.toList), .int .i64 0]) ∧ HeapL A' ∧ A'.Perm (putK A y)) hs hK (fun _ k1 k2 => Push_any k1 k2 hL hh y hy he)
theorem PushN_step (h : Hpk w0 u hb A K) (y : It) (he : y.1.toList.isEmpty = true) :
    Calls Try.prog 10 #[.pointer (some ⟨hb, 0, none⟩), vI y] u fun e w' => e = .returned (.tuple #[.bool false, .int .i64 2]) ∧ Below u.heap.size u w' := by
  obtain ⟨F, k1, _⟩ := h
  exact Push_empty k1 y he
theorem Clone_step (h : Hpk w0 u hb A K) (hs : w0.heap.size ≤ u.heap.size) (hK : ∀ b, K b → b < u.heap.size) (hL : A.length < 1000000000) :
    Calls Try.prog 18 #[.pointer (some ⟨hb, 0, none⟩)] u fun e w' => ∃ hb', e = .returned (.pointer (some ⟨hb', 0, none⟩)) ∧ (∃ F, HAt F w' hb' A ∧ ∀ b, F b → u.heap.size ≤ b ∧ b < w'.heap.size) ∧ Hpk w0 w' hb' A K ∧ Below u.heap.size u w' := by
  obtain ⟨F, k1, _⟩ := h
  refine (HClone_calls k1 hL).mono ?_
  rintro e w' ⟨hb', rfl, q1, q2⟩
  have q1' := q1.weak (G := fun b => u.heap.size ≤ b ∧ b < w'.heap.size) (fun b h1 h2 => ⟨h2, h1⟩)
  exact ⟨hb', rfl, ⟨_, q1', fun b h => h⟩, ⟨_, q1', fun b h => ⟨Nat.le_trans hs h.1, h.2, fun q => absurd (hK b q) (by omega)⟩⟩, q2⟩
end
theorem dropK_snoc (L : List It) (j : Nat) (hj : j < L.length) (k : List UInt8) : dropK (L.take (j + 1)) k = if ((at_ L j).1.toList == k) = true then dropK (L.take j) k else dropK (L.take j) k ++ [at_ L j] := by
  rw [List.take_succ_eq_append_getElem hj, ← at_get hj]
  unfold dropK
  rw [List.filter_append]
  split
  · rename_i h; simp [h]
  · rename_i h; simp [h]
theorem hasK_snoc (L : List It) (j : Nat) (hj : j < L.length) (k : List UInt8) : hasK (L.take (j + 1)) k = (hasK (L.take j) k || ((at_ L j).1.toList == k)) := by
  rw [List.take_succ_eq_append_getElem hj, ← at_get hj]
  unfold hasK
  simp
theorem own_parts {w w' : World} {e : TypeId} {k g n c : Nat} {xs : List Value} (h : Own w w' e k (.slice (some ⟨g, 0, none⟩) n c) n xs) : w.heap.size ≤ g ∧ g < w'.heap.size ∧ n ≤ c := by
  obtain ⟨_, ⟨e1, _⟩ | ⟨g', c', cur, e1, hB, hg, hcp, _⟩⟩ := h.2
  · cases e1
  · obtain ⟨rfl, rfl⟩ : g = g' ∧ c = c' := by simpa using e1
    exact ⟨hB, block_lt hg, hcp⟩
set_option maxRecDepth 100000 in
set_option maxHeartbeats 4000000 in
theorem rDrop_calls (a : Option Addr) (n cap : Nat) (L : List It) (s : ByteArray) (w : World) (hn : L.length = n) (hP : Hid (RowAt encI 3 okI w a L)) (hby : n < 1000000000) :
    Calls Try.prog 17 #[.slice a n cap, .string s] w fun e w' => ∃ g c, e = .returned (.tuple #[.slice (some ⟨g, 0, none⟩) (dropK L s.toList).length c, .bool (hasK L s.toList)]) ∧ Own w w' 27 3 (.slice (some ⟨g, 0, none⟩) (dropK L s.toList).length c) (dropK L s.toList).length (flatE encI (dropK L s.toList)) := by
  have HN : Hid (L.length = n) := hn
  clear hn
  go_enter Try.func17, Try.ntmps17
  go_wp2_with fail
  go_loopw [6, 7, 8] (fun o b i wr => ∃ (j : Nat), j ≤ n ∧ i = .int .i64 j ∧ b = .bool (hasK (L.take j) s.toList) ∧ Hid (Own w wr 27 3 o (dropK (L.take j) s.toList).length (flatE encI (dropK (L.take j) s.toList)) ∧ (∃ g c, o = .slice (some ⟨g, 0, none⟩) (dropK (L.take j) s.toList).length c))) (fun _ _ i _ => n - (intOf i).toNat)
  case atStart => exact ⟨0, Nat.zero_le _, rfl, rfl, Own.start w w _ _ (Below.refl _ _), ⟨w.heap.size, 0, rfl⟩⟩
  case round =>
    obtain ⟨j, hjl, rfl, rfl, hrl⟩ := hrel
    obtain ⟨g, c, hu⟩ := hrl.out.2
    subst hu
    by_cases hlt : j < n
    · have hjL : j < L.length := by rw [HN.out]; exact hlt
      obtain ⟨B, off, rfl, hB, c0', c1', c2', hx1⟩ := hP.out.three hjL
      have c0 := (hrl.out.1.1.cell hB).trans c0'
      have c1 := (hrl.out.1.1.cell hB).trans c1'
      have c2 := (hrl.out.1.1.cell hB).trans c2'
      have HD : Hid (dropK (L.take (j + 1)) s.toList = if ((at_ L j).1.toList == s.toList) = true then dropK (L.take j) s.toList else dropK (L.take j) s.toList ++ [at_ L j]) := dropK_snoc L j hjL _
      have HH : Hid (hasK (L.take (j + 1)) s.toList = (hasK (L.take j) s.toList || ((at_ L j).1.toList == s.toList))) := hasK_snoc L j hjL _
      have HTL : Hid ((dropK (L.take j) s.toList).length ≤ j) := Nat.le_trans (dropK_length _ _) (by rw [List.length_take]; omega)
      generalize at_ L j = x at c0 c1 c2 hx1 HD HH
      clear c0' c1' c2'
      have hji : (j : Int) < (n : Int) := by omega
      have hji0 : (0 : Int) ≤ (j : Int) := by omega
      cases hr : (x.1.toList == s.toList) with
      | true =>
        have HD' : Hid (dropK (L.take (j + 1)) s.toList = dropK (L.take j) s.toList) := by rw [Hid, HD.out, hr]; rfl
        have HH' : Hid (hasK (L.take (j + 1)) s.toList = true) := by rw [Hid, HH.out, hr, Bool.or_true]
        clear HD HH
        go_wp2_with fail
        go_roundw
        case rel => exact ⟨j + 1, by omega, by go_num, by rw [HH'.out], by rw [HD'.out]; exact ⟨hrl.out.1, g, c, rfl⟩⟩
        case measure => simp [intOf]; omega
      | false =>
        have HD' : Hid (dropK (L.take (j + 1)) s.toList = dropK (L.take j) s.toList ++ [x]) := by rw [Hid, HD.out, hr]; rfl
        have HH' : Hid (hasK (L.take (j + 1)) s.toList = hasK (L.take j) s.toList) := by rw [Hid, HH.out, hr, Bool.or_false]
        clear HD HH
        go_wp2_with (at_builtin; go_must (refine items_append (w0 := w) rfl _ _ rfl _ (dropK (L.take j) s.toList) rfl (hrl.out.1.on (by go_grown)) (some ⟨wr.heap.size, 0, none⟩) 1 1 [x] rfl rfl (fun h => by cases h) (row_one _ x hx1) (by have := HTL.out; simp; omega) ?_); intro v3 w3 hO3 _; have HO3 : Hid (Own w w3 27 3 v3 (dropK (L.take j) s.toList ++ [x]).length (flatE encI (dropK (L.take j) s.toList ++ [x]))) := hO3; clear hO3)
        go_roundw
        case rel =>
          refine ⟨j + 1, by omega, by go_num, by rw [HH'.out], ?_⟩
          rw [HD'.out]
          refine ⟨HO3.out, ?_⟩
          rcases own_cells HO3.out.2 with ⟨_, h0⟩ | ⟨g', c', e, _⟩
          · simp at h0
          · exact ⟨g', c', e⟩
        case measure => simp [intOf]; omega
    · have hji : ¬ (j : Int) < (n : Int) := by omega
      have HE : Hid (L.take j = L) := List.take_of_length_le (by rw [HN.out]; omega)
      have h := hrl.out.1
      rw [HE.out] at h
      have HO : Hid (Own w wr 27 3 (.slice (some ⟨g, 0, none⟩) (dropK L s.toList).length c) (dropK L s.toList).length (flatE encI (dropK L s.toList))) := h
      clear hrl h
      go_wp2_with fail
      go_ret2
      exact ⟨g, c, by rw [HE.out]; rfl, HO.out⟩
set_option maxHeartbeats 2000000 in
theorem rPut_calls (a : Option Addr) (n cap : Nat) (L : List It) (y : It) (w : World) (hn : L.length = n) (hP : Hid (RowAt encI 3 okI w a L)) (hy : okI y) (hby : n < 100000000) :
    Calls Try.prog 11 #[.slice a n cap, vI y] w fun e w' => ∃ g c, e = .returned (.tuple #[.slice (some ⟨g, 0, none⟩) (putK L y).length c, .bool (hasK L y.1.toList)]) ∧ RowAt encI 3 okI w' (some ⟨g, 0, none⟩) (stabF (putK L y)) ∧ w.heap.size ≤ g ∧ g < w'.heap.size ∧ (putK L y).length ≤ c ∧ Below w.heap.size w w' := by
  have hbW : Below w.heap.size w (w.alloc (.cells #[.string y.1, .int .i64 y.2.1, .int .i64 y.2.2] 27)) := by go_grown
  have HPL : Hid ((dropK L y.1.toList).length ≤ n) := by rw [Hid, ← hn]; exact dropK_length _ _
  have HOK : Hid (∀ x ∈ putK L y, okI x) := by
    intro x hx
    rcases List.mem_append.1 hx with h | h
    · exact hP.out.2.1 x (List.mem_filter.1 h).1
    · rw [List.mem_singleton.1 h]; exact hy
  go_enter Try.func11, Try.ntmps11
  go_wp2_with (first
    | (go_at_call 17; refine (rDrop_calls a n cap L y.1 _ hn (hP.out.on hbW) (by omega)).mono ?_; rintro e w1 ⟨g, c, rfl, hO1⟩; have HO1 : Hid (Own (w.alloc (.cells #[.string y.1, .int .i64 y.2.1, .int .i64 y.2.2] 27)) w1 27 3 (.slice (some ⟨g, 0, none⟩) (dropK L y.1.toList).length c) (dropK L y.1.toList).length (flatE encI (dropK L y.1.toList))) := hO1; have r0 := (hO1.1.cell (p := ⟨w.heap.size, 0, none⟩) (by simp)).trans (show _ = some (Value.string y.1) by simp [go_sem]); have r1 := (hO1.1.cell (p := ⟨w.heap.size, 1, none⟩) (by simp)).trans (show _ = some (Value.int .i64 y.2.1) by simp [go_sem]); have r2 := (hO1.1.cell (p := ⟨w.heap.size, 2, none⟩) (by simp)).trans (show _ = some (Value.int .i64 y.2.2) by simp [go_sem]); clear hO1)
    | (at_builtin; go_must (refine items_append (w0 := w.alloc (.cells #[.string y.1, .int .i64 y.2.1, .int .i64 y.2.2] 27)) rfl _ _ rfl _ (dropK L y.1.toList) rfl (HO1.out.on (by go_grown)) (some ⟨w1.heap.size, 0, none⟩) 1 1 [y] rfl rfl (fun h => by cases h) (row_one _ y hy) (by have := HPL.out; simp; omega) ?_); intro v3 w3 hO3 _; obtain ⟨a3, c3, rfl, R3, HB3⟩ : ∃ a3 c3, v3 = .slice a3 (putK L y).length c3 ∧ Hid (RowAt encI 3 okI w3 a3 (putK L y)) ∧ Hid (Below w.heap.size w w3) := (by obtain ⟨a3, c3, e3, k3, _⟩ := row_of_owns (L := putK L y) (ok := okI) encI_len hO3.2 (by have := HPL.out; unfold putK; simp; omega) HOK.out; exact ⟨a3, c3, e3, k3, on2 hbW hO3.1⟩); clear hO3)
    | (go_at_call 24; refine (rSort_calls a3 (putK L y).length c3 (putK L y) _ rfl R3 (by have := HPL.out; unfold putK; simp; omega)).mono ?_; rintro e w4 ⟨⟨g4, c4, rfl, R4, O4⟩, hb4⟩))
  go_ret2
  have op := own_parts O4
  have := HB3.out.size
  exact ⟨g4, c4, rfl, R4, by omega, op.2.1, op.2.2, on2 HB3.out hb4⟩
set_option maxHeartbeats 2000000 in
theorem found_calls (a : Option Addr) (n cap : Nat) (L : List It) (s : ByteArray) (w : World) (hn : L.length = n) (hP : Hid (RowAt encI 3 okI w a L)) (hby : n < 1000000000) :
    Calls Try.prog 16 #[.slice a n cap, .string s] w fun e w' => e = .returned (.tuple #[vI (fnd L s.toList).1, .int .i64 (fnd L s.toList).2]) ∧ Below w.heap.size w w' := by
  have HN : Hid (L.length = n) := hn
  clear hn
  have hbW : Below w.heap.size w (w.alloc (.cells #[.string ⟨#[]⟩, .int .i64 0, .int .i64 0] 27)) := by go_grown
  go_enter Try.func16, Try.ntmps16
  go_wp2_with fail
  go_loop [6] (fun i => ∃ (j : Nat), j ≤ n ∧ i = .int .i64 j ∧ Hid (hasK (L.take j) s.toList = false)) (fun i => n - (intOf i).toNat)
  case atStart => exact ⟨0, Nat.zero_le _, rfl, rfl⟩
  case round =>
    obtain ⟨j, hjl, rfl, hno⟩ := hrel
    by_cases hlt : j < n
    · have hjL : j < L.length := by rw [HN.out]; exact hlt
      obtain ⟨B, off, rfl, hB, c0', c1', c2', hx1⟩ := hP.out.three hjL
      have c0 := (hbW.cell hB).trans c0'
      have c1 := (hbW.cell hB).trans c1'
      have c2 := (hbW.cell hB).trans c2'
      have hBn : ¬ B = w.heap.size := by omega
      have hBn' : ¬ w.heap.size = B := by omega
      have HH : Hid (hasK (L.take (j + 1)) s.toList = (hasK (L.take j) s.toList || ((at_ L j).1.toList == s.toList))) := hasK_snoc L j hjL _
      have HF : Hid (((at_ L j).1.toList == s.toList) = true → fnd L s.toList = (at_ L j, 0)) := by
        intro e
        unfold fnd
        have : L.find? (fun x => x.1.toList == s.toList) = some (at_ L j) := by
          rw [List.find?_eq_some_iff_getElem]
          refine ⟨e, j, hjL, (at_get hjL).symm, fun t ht => ?_⟩
          have h1 := hno.out
          unfold hasK at h1
          rw [List.any_eq_false] at h1
          have := h1 L[t] (by
            rw [List.mem_iff_getElem]
            exact ⟨t, by rw [List.length_take]; omega, by rw [List.getElem_take]⟩)
          simpa using this
        rw [this]
      generalize at_ L j = x at c0 c1 c2 hx1 HH HF
      clear c0' c1' c2'
      have hji : (j : Int) < (n : Int) := by omega
      have hji0 : (0 : Int) ≤ (j : Int) := by omega
      cases hr : (x.1.toList == s.toList) with
      | true =>
        have HX : Hid (fnd L s.toList = (x, 0)) := HF.out hr
        clear HF HH
        go_wp2_with fail
        refine bodyPost_ret (v := .tuple #[vI x, .int .i64 0]) (by simp [results, Try.results16, go_sem]) rfl ⟨by rw [HX.out], ?_⟩
        go_grown
      | false =>
        have HH' : Hid (hasK (L.take (j + 1)) s.toList = false) := by rw [Hid, HH.out, hr, hno.out]; rfl
        clear HF HH
        go_wp2_with fail
        go_round
        case rel => exact ⟨j + 1, by omega, by go_num, HH'⟩
        case measure => simp [intOf]; omega
    · have hji : ¬ (j : Int) < (n : Int) := by omega
      have HE : Hid (fnd L s.toList = (zI, 5)) := by
        have := hno.out
        rw [List.take_of_length_le (by rw [HN.out]; omega)] at this
        exact fnd_none this
      go_wp2_with fail
      refine bodyPost_ret (v := .tuple #[vI zI, .int .i64 5]) (by simp [results, Try.results16, go_sem, zI]) rfl ⟨by rw [HE.out], ?_⟩
      go_grown
end Go.Proofs.Ytgncpjplofacfaa
