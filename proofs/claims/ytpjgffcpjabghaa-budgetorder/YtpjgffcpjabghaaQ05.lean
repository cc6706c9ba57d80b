/- What the landed budget does, plainly: the first of each name; pods by names, each once; who is broken, pod by pod. No program. No condition. A row of one's own, and the blocks of struct variables beside it; an append of a whole slice, empty or not; facts that stay while a variable's block is written. Plain facts on worlds. No condition. What the program's budget must keep. No condition. Slices of taints and of what is borne, told in the words of layer 3. Plain facts on worlds. No condition. label.isDigit, inWord, Word, isValue, isNumber and the document's own Word, Whole return what the plain functions say, and change nothing. Condition: the text is no longer than a Go string can be. label.isValue, isNumber and the document's own Word, Whole return what the plain functions say, and change nothing. Condition: the text is no longer than a Go string can be. The document's own Whole at 15 digits returns what the plain functions say, and changes nothing. No condition. -/
import Derived.Test.YtpjgffcpjabghaaQ04
import Derived.Test.YtpjgffcpjabghaaQ03
import Derived.Deep.MidRow
import Derived.Test.YtpjgffcpjabghaaQ02
namespace Go.Proofs.Ytpjgffcpjabghaa
open Go.RowKit
set_option linter.unusedSimpArgs false

section
variable {β : Type}
/-- The first one of each name. -/
def fsStep (F : List (ByteArray × β)) (p : ByteArray × β) : List (ByteArray × β) := if hasB sEq (F.map Prod.fst) p.1 = true then F else F ++ [p]
def fsG (L : List (ByteArray × β)) : List (ByteArray × β) := L.foldl fsStep []
theorem fs_snoc (L : List (ByteArray × β)) (p : ByteArray × β) : fsG (L ++ [p]) = fsStep (fsG L) p := by unfold fsG; rw [List.foldl_append]; rfl
theorem fs_mem (L : List (ByteArray × β)) (s : ByteArray) : s ∈ (fsG L).map Prod.fst ↔ s ∈ L.map Prod.fst := by
  have h : ∀ (L F : List (ByteArray × β)), s ∈ (L.foldl fsStep F).map Prod.fst ↔ s ∈ F.map Prod.fst ∨ s ∈ L.map Prod.fst := fun L => by
    induction L with
    | nil => intro F; simp
    | cons p r ih =>
      intro F
      rw [List.foldl_cons, ih]
      unfold fsStep
      split
      · rename_i hc
        have hc := (has_mem _ _).1 hc
        rw [List.map_cons, List.mem_cons]
        constructor
        · rintro (h | h)
          · exact .inl h
          · exact .inr (.inr h)
        · rintro (h | h | h)
          · exact .inl h
          · exact .inl (h ▸ hc)
          · exact .inr h
      · rw [List.map_append, List.mem_append, List.map_cons, List.map_nil, List.mem_singleton, List.map_cons, List.mem_cons, or_assoc]
  have := h L []
  simpa [fsG] using this
theorem fs_nodup (L : List (ByteArray × β)) : ((fsG L).map Prod.fst).Nodup := by
  have h : ∀ (L F : List (ByteArray × β)), (F.map Prod.fst).Nodup → ((L.foldl fsStep F).map Prod.fst).Nodup := fun L => by
    induction L with
    | nil => intro F h; exact h
    | cons p r ih =>
      intro F h
      rw [List.foldl_cons]
      refine ih _ ?_
      unfold fsStep
      split
      · exact h
      · rename_i hc
        have hc : p.1 ∉ F.map Prod.fst := fun x => hc ((has_mem _ _).2 x)
        rw [List.map_append, List.nodup_append]
        refine ⟨h, by simp, fun a ha b hb => ?_⟩
        rw [List.map_cons, List.map_nil, List.mem_singleton] at hb
        rw [hb]; exact fun e => hc (e ▸ ha)
  exact h L [] List.nodup_nil
theorem fs_id {L : List (ByteArray × β)} (h : (L.map Prod.fst).Nodup) : fsG L = L := by
  have k : ∀ (L F : List (ByteArray × β)), ((F ++ L).map Prod.fst).Nodup → L.foldl fsStep F = F ++ L := fun L => by
    induction L with
    | nil => intro F _; simp
    | cons p r ih =>
      intro F h
      rw [List.foldl_cons]
      have hp : p.1 ∉ F.map Prod.fst := fun x => by
        rw [List.map_append, List.nodup_append] at h
        exact h.2.2 _ x _ (by simp) rfl
      have e : fsStep F p = F ++ [p] := by unfold fsStep; rw [if_neg (fun x => hp ((has_mem _ _).1 x))]
      rw [e, ih _ (by rw [List.append_assoc]; exact h), List.append_assoc]; rfl
  have := k L [] (by simpa using h)
  simpa [fsG] using this
theorem find_snoc {F : List (ByteArray × β)} {p : ByteArray × β} (s : ByteArray) : (F ++ [p]).find? (fun q => sEq q.1 s) = (F.find? fun q => sEq q.1 s).or (if sEq p.1 s = true then some p else none) := by
  rw [List.find?_append]
  congr 1
  rw [List.find?_cons]
  cases sEq p.1 s <;> rfl
theorem fsfind_no {F : List (ByteArray × β)} {s : ByteArray} : F.find? (fun q => sEq q.1 s) = none ↔ s ∉ F.map Prod.fst := by
  rw [List.find?_eq_none]
  constructor
  · intro h x
    obtain ⟨q, hq, e⟩ := List.mem_map.1 x
    exact h q hq ((sEq_iff _ _).2 e)
  · intro h q hq e
    exact h (List.mem_map.2 ⟨q, hq, (sEq_iff _ _).1 e⟩)
theorem fs_find (L : List (ByteArray × β)) (s : ByteArray) : (fsG L).find? (fun q => sEq q.1 s) = L.find? fun q => sEq q.1 s := by
  have h : ∀ (L F : List (ByteArray × β)), (L.foldl fsStep F).find? (fun q => sEq q.1 s) = (F ++ L).find? fun q => sEq q.1 s := fun L => by
    induction L with
    | nil => intro F; simp
    | cons p r ih =>
      intro F
      rw [List.foldl_cons, ih]
      unfold fsStep
      split
      · rename_i hc
        rw [List.find?_append, List.find?_append]
        cases e : F.find? fun q => sEq q.1 s with
        | some q => rfl
        | none =>
          have hn := fsfind_no.1 e
          have hne : sEq p.1 s = false := by
            cases e2 : sEq p.1 s with
            | false => rfl
            | true => exact absurd ((sEq_iff _ _).1 e2 ▸ (has_mem _ _).1 hc) hn
          rw [List.find?_cons, hne]
      · rw [List.append_assoc]; rfl
  exact h L []
theorem fs_len (L : List (ByteArray × β)) : (fsG L).length ≤ L.length := by
  have h : ∀ (L F : List (ByteArray × β)), (L.foldl fsStep F).length ≤ F.length + L.length := fun L => by
    induction L with
    | nil => intro F; exact Nat.le_refl _
    | cons p r ih =>
      intro F
      rw [List.foldl_cons, List.length_cons]
      have h1 := ih (fsStep F p)
      have h2 : (fsStep F p).length ≤ F.length + 1 := by unfold fsStep; split <;> simp
      omega
  have := h L []
  simpa [fsG] using this
theorem fs_sub (L : List (ByteArray × β)) {x : ByteArray × β} (h : x ∈ fsG L) : x ∈ L := by
  have k : ∀ (L F : List (ByteArray × β)), x ∈ L.foldl fsStep F → x ∈ F ∨ x ∈ L := fun L => by
    induction L with
    | nil => intro F h; exact .inl h
    | cons p r ih =>
      intro F h
      rw [List.foldl_cons] at h
      rcases ih _ h with h | h
      · unfold fsStep at h
        split at h
        · exact .inl h
        · rcases List.mem_append.1 h with h | h
          · exact .inl h
          · exact .inr (List.mem_cons.2 (.inl (List.mem_singleton.1 h)))
      · exact .inr (List.mem_cons_of_mem _ h)
  rcases k L [] h with h | h
  · cases h
  · exact h
/-- Where the first one of a name stands. -/
def idxG (L : List (ByteArray × β)) (s : ByteArray) : Option Nat := L.findIdx? fun q => sEq q.1 s
theorem idx_snoc (L : List (ByteArray × β)) (p : ByteArray × β) (s : ByteArray) : idxG (L ++ [p]) s = (idxG L s).or (if sEq p.1 s = true then some L.length else none) := by
  unfold idxG
  rw [List.findIdx?_append]
  congr 1
  rw [List.findIdx?_cons]
  cases sEq p.1 s <;> simp
theorem idx_none {L : List (ByteArray × β)} {s : ByteArray} : idxG L s = none ↔ s ∉ L.map Prod.fst := by
  unfold idxG
  rw [List.findIdx?_eq_none_iff]
  constructor
  · intro h x
    obtain ⟨q, hq, e⟩ := List.mem_map.1 x
    have := h q hq
    rw [(sEq_iff _ _).2 e] at this; cases this
  · intro h q hq
    cases e : sEq q.1 s with
    | false => rfl
    | true => exact absurd (List.mem_map.2 ⟨q, hq, (sEq_iff _ _).1 e⟩) h
theorem idx_some [Inhabited β] {L : List (ByteArray × β)} {s : ByteArray} {i : Nat} (h : idxG L s = some i) : i < L.length ∧ L.find? (fun q => sEq q.1 s) = some (L.getD i default) ∧ (∀ j, j < i → sEq (L.getD j default).1 s = false) := by
  unfold idxG at h
  rw [List.findIdx?_eq_some_iff_getElem] at h
  obtain ⟨hi, h1, h2⟩ := h
  have hg : ∀ k (hk : k < L.length), L.getD k default = L[k] := fun k hk => by rw [List.getD_eq_getElem?_getD, List.getElem?_eq_getElem hk]; rfl
  refine ⟨hi, ?_, fun j hj => ?_⟩
  · rw [List.find?_eq_some_iff_getElem]
    refine ⟨by rw [hg i hi]; exact h1, i, hi, (hg i hi).symm, fun j hj => by simpa using h2 j hj⟩
  · rw [hg j (by omega)]; simpa using h2 j hj
/-- Who stands at k is the first of the name just if its place is k. -/
theorem idx_here [Inhabited β] {L : List (ByteArray × β)} {k : Nat} (hk : k < L.length) : ∃ i, idxG L (L.getD k default).1 = some i ∧ i ≤ k ∧ (i = k ↔ hasB sEq ((fsG (L.take k)).map Prod.fst) (L.getD k default).1 = false) := by
  have hg : ∀ k (hk : k < L.length), L.getD k default = L[k] := fun k hk => by rw [List.getD_eq_getElem?_getD, List.getElem?_eq_getElem hk]; rfl
  cases e : idxG L (L.getD k default).1 with
  | none => exact absurd (List.mem_map.2 ⟨_, by rw [hg k hk]; exact List.getElem_mem hk, rfl⟩) (idx_none.1 e)
  | some i =>
    obtain ⟨hi, hf, hl⟩ := idx_some e
    have hn : sEq (L.getD i default).1 (L.getD k default).1 = true := List.find?_some (p := fun q : ByteArray × β => sEq q.1 (L.getD k default).1) hf
    have hik : i ≤ k := by
      rcases Nat.lt_or_ge k i with h | h
      · have h2 := hl k h
        rw [(sEq_iff _ _).2 rfl] at h2; cases h2
      · exact h
    refine ⟨i, rfl, hik, ?_⟩
    rw [has_no, fs_mem]
    constructor
    · rintro rfl x
      obtain ⟨q, hq, e2⟩ := List.mem_map.1 x
      obtain ⟨j, hj, rfl⟩ := List.mem_iff_getElem.1 hq
      rw [List.length_take] at hj
      rw [List.getElem_take] at e2
      have h2 := hl j (by omega)
      rw [hg j (by omega), (sEq_iff _ _).2 e2] at h2; cases h2
    · intro h
      rcases Nat.lt_or_ge i k with h2 | h2
      · refine absurd (List.mem_map.2 ⟨L.getD i default, ?_, (sEq_iff _ _).1 hn⟩) h
        rw [hg i hi]
        exact List.mem_iff_getElem.2 ⟨i, by rw [List.length_take]; omega, by rw [List.getElem_take]⟩
      · omega
end
/-- The bound ones. -/
def bndB (p : PodD) : Bool := !sNil (bNode p)
def boundP (P : List PodD) : List PodD := (fsG P).filter bndB
theorem bound_len (P : List PodD) : (boundP P).length ≤ P.length := Nat.le_trans (List.length_filter_le _ _) (fs_len P)
theorem about_bound (P : List PodD) (b : BudgetD) : ((boundP P).filter fun p => matchL p.2.2.1 b.2.1).map Prod.fst = aboutP (fsG P) b := by
  unfold boundP aboutP
  rw [List.filter_filter]
  congr 1
  refine congrArg (fun f => List.filter f (fsG P)) (funext fun p => ?_)
  unfold aboutB bndB; rw [Bool.and_comm]
/-- Pods by names, each once. -/
def namedStep (P : List PodD) (G : List PodD) (v : ByteArray) : List PodD := if (podOf P v).isSome = true ∧ hasB sEq (G.map Prod.fst) v = false then G ++ [podB P v] else G
def namedP (P : List PodD) (N : List ByteArray) : List PodD := N.foldl (namedStep P) []
theorem pod_fst {P : List PodD} {v : ByteArray} (h : (podOf P v).isSome = true) : (podB P v).1 = v ∧ podB P v ∈ P := by
  unfold podB
  cases e : podOf P v with
  | none => rw [e] at h; cases h
  | some p => exact ⟨(podOf_some e).2, (podOf_some e).1⟩
/-- One step of the victims. -/
def brStep (B : List BudgetD) (st : List ByteArray × List Int) (p : PodD) : List ByteArray × List Int := if bndB p = true then (if hitB B st.2 p = true then st.1 ++ [p.1] else st.1, lessB B st.2 p) else st
theorem br_yes (B : List BudgetD) (st : List ByteArray × List Int) {p : PodD} (h : bndB p = true) : brStep B st p = (if hitB B st.2 p = true then st.1 ++ [p.1] else st.1, lessB B st.2 p) := by unfold brStep; rw [if_pos h]
theorem br_no (B : List BudgetD) (st : List ByteArray × List Int) {p : PodD} (h : bndB p = false) : brStep B st p = st := by unfold brStep; rw [h, if_neg (by decide)]
theorem named_grow (P : List PodD) : ∀ (N : List ByteArray) (G : List PodD), ∃ X, N.foldl (namedStep P) G = G ++ X
  | [], G => ⟨[], by simp⟩
  | v :: r, G => by
    rw [List.foldl_cons]
    obtain ⟨X, hX⟩ := named_grow P r (namedStep P G v)
    rw [hX]
    unfold namedStep
    split
    · exact ⟨podB P v :: X, by simp⟩
    · exact ⟨X, rfl⟩
theorem broken_named (P : List PodD) (B : List BudgetD) : ∀ (V : List ByteArray) (left : List Int) (seen out : List ByteArray) (G X : List PodD), (∀ v p, podOf P v = some p → bndB p = true → hasB sEq seen v = hasB sEq (G.map Prod.fst) v) → V.foldl (namedStep P) G = G ++ X → (X.foldl (brStep B) (out, left)).1 = out ++ brokenL P B V left seen
  | [], left, seen, out, G, X, _, hX => by
    have : X = [] := by simpa using hX
    subst this
    unfold brokenL; simp
  | v :: r, left, seen, out, G, X, hs, hX => by
    rw [List.foldl_cons] at hX
    unfold brokenL
    cases e : podOf P v with
    | none =>
      have hc : countsB P seen v = false := by unfold countsB; rw [e]
      have hn : namedStep P G v = G := by unfold namedStep; rw [e]; rfl
      rw [hn] at hX
      rw [hc, if_neg (by decide)]
      exact broken_named P B r left seen out G X hs hX
    | some p =>
      have hpb : podB P v = p := by unfold podB; rw [e]; rfl
      have hp1 : p.1 = v := (podOf_some e).2
      cases hg : hasB sEq (G.map Prod.fst) v
      · have hn : namedStep P G v = G ++ [p] := by unfold namedStep; rw [if_pos ⟨by rw [e]; rfl, hg⟩, hpb]
        rw [hn] at hX
        obtain ⟨Y, hY⟩ := named_grow P r (G ++ [p])
        rw [hY, List.append_assoc] at hX
        obtain rfl : p :: Y = X := by have := List.append_cancel_left hX; simpa using this
        rw [List.foldl_cons]
        cases hb : bndB p
        · have hc : countsB P seen v = false := by unfold countsB; rw [e]; show (!sNil (bNode p) && !hasB sEq seen v) = false; rw [show (!sNil (bNode p)) = bndB p from rfl, hb]; rfl
          rw [hc, if_neg (by decide), br_no B (out, left) hb]
          refine broken_named P B r left seen out (G ++ [p]) Y (fun v' p' h1 h2 => ?_) hY
          rw [hs v' p' h1 h2, List.map_append]
          by_cases hv : v' = v
          · subst hv; rw [e] at h1; injection h1 with h1; subst h1; rw [hb] at h2; cases h2
          · rw [Bool.eq_iff_iff, has_mem, has_mem, List.mem_append]
            constructor
            · exact .inl
            · rintro (h | h)
              · exact h
              · exact absurd ((List.mem_singleton.1 h).trans hp1) hv
        · have hc : countsB P seen v = true := by
            unfold countsB; rw [e]; show (!sNil (bNode p) && !hasB sEq seen v) = true
            rw [show (!sNil (bNode p)) = bndB p from rfl, hb, hs v p e hb, hg]; rfl
          rw [if_pos hc, br_yes B (out, left) hb, hpb, hp1]
          have ih := broken_named P B r (lessB B left p) (seen ++ [v]) (if hitB B left p = true then out ++ [v] else out) (G ++ [p]) Y (fun v' p' h1 h2 => by
            rw [Bool.eq_iff_iff, has_mem, has_mem, List.map_append, List.mem_append, List.mem_append]
            have h3 := hs v' p' h1 h2
            rw [Bool.eq_iff_iff, has_mem, has_mem] at h3
            rw [h3]
            show _ ∨ v' ∈ [v] ↔ _ ∨ v' ∈ [p.1]
            rw [hp1]) hY
          rw [ih]
          cases hitB B left p <;> simp
      · have hn : namedStep P G v = G := by unfold namedStep; rw [if_neg (fun h => by rw [hg] at h; cases h.2)]
        rw [hn] at hX
        have hc : countsB P seen v = false := by
          unfold countsB; rw [e]; show (!sNil (bNode p) && !hasB sEq seen v) = false
          cases hb : bndB p
          · rw [show (!sNil (bNode p)) = bndB p from rfl, hb]; rfl
          · rw [hs v p e hb, hg]; simp
        rw [hc, if_neg (by decide)]
        exact broken_named P B r left seen out G X hs hX
theorem broken_fold (P : List PodD) (B : List BudgetD) (V : List ByteArray) : ((namedP P V).foldl (brStep B) ([], leftP P B)).1 = brokenP P B V := by
  have := broken_named P B V (leftP P B) [] [] [] (namedP P V) (fun _ _ _ _ => rfl) (by rfl)
  rw [this]; rfl
/-- Names as they were handed in count for the pods of a state just as for the first ones of each name. -/
theorem podOf_fs (P : List PodD) (v : ByteArray) : podOf (fsG P) v = podOf P v := fs_find P v
theorem podB_fs (P : List PodD) (v : ByteArray) : podB (fsG P) v = podB P v := by unfold podB; rw [podOf_fs]
theorem named_fs (P : List PodD) (N : List ByteArray) : namedP (fsG P) N = namedP P N := by
  unfold namedP
  refine congrArg (fun f => List.foldl f [] N) (funext fun G => funext fun v => ?_)
  unfold namedStep; rw [podOf_fs, podB_fs]
theorem named_len (P : List PodD) (N : List ByteArray) : (namedP P N).length ≤ N.length := by
  have h : ∀ (N : List ByteArray) (G : List PodD), (N.foldl (namedStep P) G).length ≤ G.length + N.length := fun N => by
    induction N with
    | nil => intro G; exact Nat.le_refl _
    | cons v r ih =>
      intro G
      rw [List.foldl_cons, List.length_cons]
      have h1 := ih (namedStep P G v)
      have h2 : (namedStep P G v).length ≤ G.length + 1 := by unfold namedStep; split <;> simp
      omega
  have := h N []
  simpa [namedP] using this
theorem named_inv (P : List PodD) : ∀ (N : List ByteArray) (G : List PodD), ((G.map Prod.fst).Nodup ∧ ∀ p ∈ G, podOf P p.1 = some p) → (((N.foldl (namedStep P) G).map Prod.fst).Nodup ∧ (∀ p ∈ N.foldl (namedStep P) G, podOf P p.1 = some p) ∧ ∀ s, s ∈ (N.foldl (namedStep P) G).map Prod.fst ↔ s ∈ G.map Prod.fst ∨ (s ∈ N ∧ (podOf P s).isSome = true))
  | [], G, h => ⟨h.1, h.2, fun s => by simp⟩
  | v :: r, G, h => by
    rw [List.foldl_cons]
    by_cases hc : (podOf P v).isSome = true ∧ hasB sEq (G.map Prod.fst) v = false
    · have e : namedStep P G v = G ++ [podB P v] := by unfold namedStep; exact if_pos hc
      have hv := (pod_fst hc.1).1
      have hpo : podOf P v = some (podB P v) := by
        unfold podB
        cases e2 : podOf P v with
        | none => rw [e2] at hc; cases hc.1
        | some p => rfl
      rw [e]
      have ih := named_inv P r (G ++ [podB P v]) ⟨by
        rw [List.map_append, List.nodup_append]
        refine ⟨h.1, by simp, fun a ha b hb => ?_⟩
        rw [List.map_cons, List.map_nil, List.mem_singleton, hv] at hb
        rw [hb]; exact fun e => (has_no _ _).1 hc.2 (e ▸ ha), fun p hp => by
        rcases List.mem_append.1 hp with hp | hp
        · exact h.2 p hp
        · rw [List.mem_singleton.1 hp, hv]; exact hpo⟩
      refine ⟨ih.1, ih.2.1, fun s => ?_⟩
      rw [ih.2.2, List.map_append, List.mem_append, List.map_cons, List.map_nil, List.mem_singleton, hv, List.mem_cons]
      constructor
      · rintro ((h | h) | h)
        · exact .inl h
        · exact .inr ⟨.inl h, h ▸ hc.1⟩
        · exact .inr ⟨.inr h.1, h.2⟩
      · rintro (h | ⟨h | h, k⟩)
        · exact .inl (.inl h)
        · exact .inl (.inr h)
        · exact .inr ⟨h, k⟩
    · have e : namedStep P G v = G := by unfold namedStep; exact if_neg hc
      rw [e]
      have ih := named_inv P r G h
      refine ⟨ih.1, ih.2.1, fun s => ?_⟩
      rw [ih.2.2, List.mem_cons]
      constructor
      · rintro (h | h)
        · exact .inl h
        · exact .inr ⟨.inr h.1, h.2⟩
      · rintro (h | ⟨h1 | h1, k⟩)
        · exact .inl h
        · subst h1
          refine .inl ?_
          rw [← has_mem]
          cases e2 : hasB sEq (G.map Prod.fst) s with
          | true => rfl
          | false => exact absurd ⟨k, e2⟩ hc
        · exact .inr ⟨h1, k⟩
theorem named_spec (P : List PodD) (N : List ByteArray) : ((namedP P N).map Prod.fst).Nodup ∧ (∀ p ∈ namedP P N, podOf P p.1 = some p) ∧ ∀ s, s ∈ (namedP P N).map Prod.fst ↔ s ∈ N ∧ (podOf P s).isSome = true := by
  obtain ⟨h1, h2, h3⟩ := named_inv P N [] ⟨List.nodup_nil, fun p hp => by cases hp⟩
  exact ⟨h1, h2, fun s => by have := h3 s; unfold namedP; rw [this]; simp⟩
/-- Sorted, the pods by names are the order. -/
theorem order_sorted (P : List PodD) (N : List ByteArray) {Q : List PodD} (hp : Q.Perm (namedP P N)) (hs : Q.Pairwise fun x y => aheadB y x = false) : Q.map Prod.fst = orderP P N := by
  obtain ⟨n1, n2, n3⟩ := named_spec P N
  have hnd : (Q.map Prod.fst).Nodup := (hp.map _).nodup_iff.2 n1
  have hpo : ∀ p ∈ Q, podOf P p.1 = some p := fun p h => n2 p (hp.mem_iff.1 h)
  have hO := order_ord P N [] ⟨fun x h => (by cases h), List.Pairwise.nil⟩
  have hR : (Q.map Prod.fst).Pairwise fun x y => aheadB (podB P x) (podB P y) = true := by
    rw [List.pairwise_map]
    have hq : Q.Pairwise fun x y => x.1 ≠ y.1 := List.pairwise_map.1 hnd
    refine (hs.and hq).imp_of_mem (fun {a b} ha hb h => ?_)
    have ea : podB P a.1 = a := by unfold podB; rw [hpo a ha]; rfl
    have eb : podB P b.1 = b := by unfold podB; rw [hpo b hb]; rfl
    rw [ea, eb]
    exact ahead_tot (Ne.symm h.2) h.1
  have hnd2 : (orderP P N).Nodup := hO.2.imp (fun {a b} h e => by subst e; have := ahead_asymm h; rw [h] at this; cases this)
  have hmem : ∀ s, s ∈ Q.map Prod.fst ↔ s ∈ orderP P N := fun s => by
    rw [(hp.map Prod.fst).mem_iff, n3]
    constructor
    · exact fun h => order_all P N [] s (.inr h)
    · intro h
      rcases order_mem P N [] s h with h | h
      · cases h
      · exact h
  have hperm : (Q.map Prod.fst).Perm (orderP P N) := (List.perm_ext_iff_of_nodup hnd hnd2).2 hmem
  exact hperm.eq_of_pairwise (fun a b _ _ h1 h2 => by have := ahead_asymm h1; rw [h2] at this; cases this) hR hO.2
end Go.Proofs.Ytpjgffcpjabghaa
namespace Go.Proofs.Ytpjgffcpjabghaa
open Go.RowKit
set_option linter.unusedSimpArgs false

/-- The same store in both worlds, below. -/
theorem below_both {w u : World} (h : Below w.heap.size w u) {p : Addr} (hp : p.block < w.heap.size) (x : Value) : Below (w.setCell p x).heap.size (w.setCell p x) (u.setCell p x) := by
  refine ⟨h.os, h.tape, h.output, by simpa using h.size, fun k hk => ?_⟩
  have hk' : k < w.heap.size := by simpa using hk
  by_cases e : k = p.block
  · subst e
    have := h.block p.block hp
    simp only [World.setCell, Array.getElem?_modify, if_true]
    rw [this]
  · rw [Below.heap_setCell _ _ _ _ e, Below.heap_setCell _ _ _ _ e]
    exact h.block k hk'
section
variable {α : Type} [Inhabited α] {R : Rep α} {k : Nat}
theorem Row.both (hR : Firm R k) {A : Where} {w u : World} {e : TypeId} {v : Value} {L : List α} (h : Row R k A w u e v L) {p : Addr} (hp : p.block < w.heap.size) (hA : ¬ A p.block) (x : Value) : Row R k A (w.setCell p x) (u.setCell p x) e v L := by
  obtain ⟨xs, h1, h2⟩ := h
  refine ⟨xs, ⟨below_both h1.1 hp x, ?_⟩, h2.kept hR (Kept.set (fun h => hA h.1) _)⟩
  have := ownsRow_setCell_below h1.2 hp x
  simpa using this
theorem Fresh.setCell (w : World) (p : Addr) (x : Value) : Fresh (w.setCell p x) = Fresh w := by funext b; simp [Fresh]
theorem Row.bothF (hR : Firm R k) {w u : World} {e : TypeId} {v : Value} {L : List α} (h : Row R k (Fresh w) w u e v L) {p : Addr} (hp : p.block < w.heap.size) (x : Value) : Row R k (Fresh (w.setCell p x)) (w.setCell p x) (u.setCell p x) e v L := by
  rw [Fresh.setCell]; exact h.both hR hp (Fresh.not hp) x
/-- What lies in a slice, or in none, ready to be appended. -/
def Src (R : Rep α) (k : Nat) (A : Where) (u : World) (a : Option Addr) (m : Nat) (N : List α) : Prop :=
  N.length = m ∧ ((a = none ∧ N = []) ∨ ∃ ad xs, a = some ad ∧ Chunks R k A u xs N ∧ (∀ j y, xs[j]? = some y → u.cell? (ad.add j) = some y) ∧ ∀ y ∈ xs, y.oneCell' = true)
theorem SlAt.src (hR : Firm R k) {bytes : Nat} {A : Where} {u : World} {a : Option Addr} {m c : Nat} {N : List α} (h : SlAt R k bytes A u a m c N) : Src R k A u a m N := by
  cases a with
  | none => obtain ⟨_, _, h3⟩ := sl_none h; exact ⟨h.1, .inl ⟨rfl, h3⟩⟩
  | some ad => obtain ⟨xs, h1, h2, h3⟩ := h.chunks hR; exact ⟨h.1, .inr ⟨ad, xs, rfl, h1, h2, h3⟩⟩
theorem Src.flat (hF : Flat R) {A A' : Where} {u : World} {a : Option Addr} {m : Nat} {N : List α} (h : Src R k A u a m N) : Src R k A' u a m N := by
  obtain ⟨h1, h2⟩ := h
  refine ⟨h1, ?_⟩
  rcases h2 with h2 | ⟨ad, xs, e, h3, h4, h5⟩
  · exact .inl h2
  · exact .inr ⟨ad, xs, e, h3.flat hF, h4, h5⟩
theorem Src.weak (hR : Firm R k) {A A' : Where} {u : World} {a : Option Addr} {m : Nat} {N : List α} (h : Src R k A u a m N) (hA : ∀ b, b < u.heap.size → A b → A' b) : Src R k A' u a m N := by
  obtain ⟨h1, h2⟩ := h
  refine ⟨h1, ?_⟩
  rcases h2 with h2 | ⟨ad, xs, e, h3, h4, h5⟩
  · exact .inl h2
  · exact .inr ⟨ad, xs, e, h3.weak hR hA, h4, h5⟩
/-- An append of what lies in a slice, or in none, to one's own row, whatever the region. -/
theorem row_appendS_wp (hR : Firm R k) {o : Oper} {a : Act} {K : Act → World → Prop} {Q : Exit → Act → World → Prop} {A : Where} {w0 u : World} (s x : Operand) (t e : TypeId)
    (ho : o.op = .call { callee := .builtin .append, args := #[s, x], argTypes := #[t, t] }) (z : Value) (bytes : Nat) (hinfo : (Try.prog.info? e).map (fun i => (i.zero, i.size, i.bytes)) = some (some z, k, bytes)) (ht : Try.prog.underlying t = some (.slice e)) (hzs : z.cells.size = k) (hk0 : 0 < k) (hby : 1 ≤ bytes)
    (v : Value) (L : List α) (hs : a.eval s = v) (hrow : Row R k A w0 u e v L)
    (ad : Option Addr) (m c : Nat) (N : List α) (hx : a.eval x = .slice ad m c) (hN : Src R k (fun b => A b ∧ v.ownBlock ≠ some b) u ad m N) (hb : (L.length + N.length) * bytes ≤ 140737488355328)
    (h : ∀ v' u', Row R k A w0 u' e v' (L ++ N) → u.grownBy u' v.ownBlock → K (a.put o.dst v') u') : o.wp Try.prog a u K Q := by
  obtain ⟨hm, hN⟩ := hN
  rcases hN with ⟨rfl, rfl⟩ | ⟨ad, xs, rfl, h1, h2, h3⟩
  · obtain rfl : m = 0 := by simpa using hm.symm
    obtain ⟨i0, hi, hz0, hz1, hz2⟩ := info_parts hinfo
    have hr : ∀ ty, (Builtin.append_ #[t, t] ty #[v, .slice none 0 c]).run Try.prog u = .ok v u := by
      intro ty
      obtain ⟨xs, hown, _⟩ := hrow
      rcases hown.2.2 with ⟨rfl, _⟩ | ⟨g, cap, cur, rfl, _, hg, hnc, _⟩
      · simp [Builtin.append_, run_underlying ht, sizeOf, typeInfo, hi, Builtin.lenOf, Builtin.firstCells, loadCells, loadCellsFrom]
      · simp [Builtin.append_, run_underlying ht, sizeOf, typeInfo, hi, Builtin.lenOf, Builtin.firstCells, loadCells, loadCellsFrom, hnc, storeCells]
    unfold Oper.wp execOp
    simp only [ho, resolve, invoke, builtin, Sem.run_bind, Sem.run_pure, Result.andThen_ok, List.map_toArray, List.map_cons, List.map_nil, hs, hx, hr]
    exact h v u (by simpa using hrow) ⟨rfl, rfl, rfl, Nat.le_refl _, fun _ _ _ => rfl⟩
  · exact row_append_wp hR s x t e ho z bytes hinfo ht hzs hk0 hby v L hs hrow ad m c xs N hm hx h1 h2 h3 hb h
theorem row_appendS (hR : Firm R k) {ops : Array Oper} {rest : List Oper} {o : Oper} {a : Act} {Q : Exit → Act → World → Prop} {A : Where} {w0 u : World} (hgd : Region.wanted o (yielded ops a.tmps) = true) (s x : Operand) (t e : TypeId)
    (ho : o.op = .call { callee := .builtin .append, args := #[s, x], argTypes := #[t, t] }) (z : Value) (bytes : Nat) (hinfo : (Try.prog.info? e).map (fun i => (i.zero, i.size, i.bytes)) = some (some z, k, bytes)) (ht : Try.prog.underlying t = some (.slice e)) (hzs : z.cells.size = k) (hk0 : 0 < k) (hby : 1 ≤ bytes)
    (v : Value) (L : List α) (hs : a.eval s = v) (hrow : Row R k A w0 u e v L)
    (ad : Option Addr) (m c : Nat) (N : List α) (hx : a.eval x = .slice ad m c) (hN : Src R k (fun b => A b ∧ v.ownBlock ≠ some b) u ad m N) (hb : (L.length + N.length) * bytes ≤ 140737488355328)
    (h : ∀ v' u', Row R k A w0 u' e v' (L ++ N) → u.grownBy u' v.ownBlock → wpList Try.prog ops Q rest (a.put o.dst v') u') : wpList Try.prog ops Q (o :: rest) a u :=
  BigFrame.wpList_want hgd (fun _ hK => row_appendS_wp hR s x t e ho z bytes hinfo ht hzs hk0 hby v L hs hrow ad m c N hx hN hb (fun v' u' h2 h3 => hK _ _ (h v' u' h2 h3)))
end
theorem BoxL.range {u : World} {D : Nat} {cs : List Value} (h : BoxL u D cs) : u.rangeAt D 0 cs := fun j v hj => by rw [Nat.zero_add]; exact (h.2 j v hj).1
theorem BoxL.there {u : World} {D : Nat} {cs : List Value} (h : BoxL u D cs) : u.there D 0 cs.length := fun j hj => by
  have := h.2 j cs[j] (List.getElem?_eq_getElem hj)
  rw [Nat.zero_add, this.1, this.2]
  exact ⟨rfl, rfl⟩
/-- What stays true while nothing that has come since W is turned. -/
def Stays (W : World) (G : World → Prop) : Prop := ∀ u u', G u → Kept (Fresh W) u u' → G u'
theorem Stays.none (W : World) : Stays W (fun _ => True) := fun _ _ _ _ => trivial
theorem Stays.add {α : Type} [Inhabited α] {R : Rep α} {k bytes : Nat} {W u : World} {G : World → Prop} (hG : Stays W G) (hg : G u) (hR : Firm R k) {a : Option Addr} {n c : Nat} {L : List α} (hs : SlAt R k bytes (Fresh W) u a n c L) :
    ∃ G', Stays W G' ∧ G' u ∧ (∀ v, G' v → G v) ∧ ∀ v, G' v → SlAt R k bytes (Fresh W) v a n c L :=
  ⟨fun v => G v ∧ SlAt R k bytes (Fresh W) v a n c L, fun _ _ h k => ⟨hG _ _ h.1 k, h.2.kept hR k⟩, ⟨hg, hs⟩, fun _ h => h.1, fun _ h => h.2⟩
end Go.Proofs.Ytpjgffcpjabghaa
namespace Go.Proofs.Ytpjgffcpjabghaa
open Go.RowKit Go.Maps
set_option linter.unusedSimpArgs false
set_option maxRecDepth 100000

/-- A number of Go's. -/
def FitQ (n : Int) : Prop := -9223372036854775808 ≤ n ∧ n ≤ 9223372036854775807
/-- The program's budget: what its calls answer. -/
structure BudgetOK : Prop where
  about : ∀ (ss bs : List Value) (A A' : Where) (s : StateD) (b : BudgetD) (w : World), Hid (RState A w ss s) → Hid (RBudget A' w bs b) → Calls Try.prog 10 #[.agg ss.toArray, .agg bs.toArray] w fun e w' => ∃ v, e = .returned v ∧ Row RStr 1 (fun _ => False) w w' 9 v (aboutP (fsG s.1) b)
  allows : ∀ (ss bs : List Value) (A A' : Where) (s : StateD) (b : BudgetD) (w : World), Hid (RState A w ss s) → Hid (RBudget A' w bs b) → FitQ b.2.2 → Calls Try.prog 13 #[.agg ss.toArray, .agg bs.toArray] w fun e w' => e = .returned (.int .i64 (allowsP (fsG s.1) b)) ∧ Below w.heap.size w w'
  broken : ∀ (ss : List Value) (A : Where) (s : StateD) (a : Option Addr) (n cap : Nat) (A' : Where) (V : List ByteArray) (w : World), Hid (RState A w ss s) → Hid (SlAt RStr 1 16 A' w a n cap V) → (∀ b ∈ s.2.2.2.2.2, FitQ b.2.2) → Calls Try.prog 9 #[.agg ss.toArray, .slice a n cap] w fun e w' => ∃ v, e = .returned v ∧ Row RStr 1 (fun _ => False) w w' 9 v (brokenP (fsG s.1) (fsG s.2.2.2.2.2) V)
  order : ∀ (ss : List Value) (A : Where) (s : StateD) (a : Option Addr) (n cap : Nat) (A' : Where) (V : List ByteArray) (w : World), Hid (RState A w ss s) → Hid (SlAt RStr 1 16 A' w a n cap V) → Calls Try.prog 16 #[.agg ss.toArray, .slice a n cap] w fun e w' => ∃ v, e = .returned v ∧ Row RStr 1 (fun _ => False) w w' 9 v (orderP s.1 V)
end Go.Proofs.Ytpjgffcpjabghaa
namespace Go.Proofs.Ytpjgffcpjabghaa
open Go.RowKit

theorem row_of_sl {α : Type} [Inhabited α] {R : Rep α} {enc : α → List Value} {k bytes : Nat} {ok : α → Prop} (hR : ∀ {A w cs x}, R A w cs x → cs = enc x ∧ ok x) (hb : 1 ≤ bytes) {A : Where} {w : World} {a : Option Addr} {n cap : Nat} {L : List α} (h : SlAt R k bytes A w a n cap L) : RowAt enc k ok w a L := by
  have hl := h.len hb
  obtain ⟨hn, h2, h3, h4, h5⟩ := h
  have each : ∀ i, i < n → ok (L.getD i default) := fun i hi => by
    obtain ⟨B, off, _, _, _, hc⟩ := h5 (by omega)
    obtain ⟨cs, hr, _⟩ := hc i hi
    exact (hR hr).2
  refine ⟨by omega, fun x hx => ?_, fun hne => ?_⟩
  · obtain ⟨i, hi, rfl⟩ := List.mem_iff_getElem.1 hx
    have := each i (by omega)
    rwa [getE _ _ hi] at this
  · have hpos : 0 < n := by
      rcases Nat.eq_zero_or_pos n with h0 | h0
      · exact absurd (List.length_eq_zero_iff.1 (by omega)) hne
      · exact h0
    obtain ⟨B, off, e, hB, _, hc⟩ := h5 hpos
    refine ⟨B, off, e, hB, fun i hi j v hj => ?_⟩
    obtain ⟨cs, hr, hv⟩ := hc i (by omega)
    rw [← (hR hr).1] at hj
    exact hv j v hj
theorem tnts_of {A : Where} {w : World} {a : Option Addr} {n cap : Nat} {L : List Tnt} (h : SlAt RTaint 3 40 A w a n cap L) : TntsAt w a L :=
  row_of_sl (fun hr => by obtain ⟨rfl, h1, h2⟩ := RTaint.out hr; exact ⟨rfl, h1, h2⟩) (by decide) h
theorem bears_of {A : Where} {w : World} {a : Option Addr} {n cap : Nat} {L : List Bear} (h : SlAt RBear 4 48 A w a n cap L) : BearsAt w a L :=
  row_of_sl (fun hr => by obtain ⟨rfl, h1, h2⟩ := RBear.out hr; exact ⟨rfl, h1, h2⟩) (by decide) h
end Go.Proofs.Ytpjgffcpjabghaa
namespace Go.Proofs.Ytpjgffcpjabghaa
open Go.RowKit
set_option linter.unusedSimpArgs false

theorem retb {a b : Bool} (h : a = b) : Ending.returned (.bool a) = .returned (.bool b) := by rw [h]
theorem isDig_iff (c : UInt8) : isDig c = true ↔ 48 ≤ c.toNat ∧ c.toNat ≤ 57 := by simp [isDig]
theorem isDig_no {c : UInt8} (h : ¬(48 ≤ c.toNat ∧ c.toNat ≤ 57)) : isDig c = false := by
  cases e : isDig c
  · rfl
  · exact absurd ((isDig_iff c).1 e) h

theorem isDigit_calls (c : UInt8) (w : World) : Calls Try.prog 78 #[.int .u8 (c.toNat : Int)] w fun e w' => e = .returned (.bool (isDig c)) ∧ w' = w := by
  by_cases h1 : (48 : Int) ≤ (c.toNat : Int)
  · by_cases h2 : (c.toNat : Int) ≤ 57
    · have HF : Hid (isDig c = true) := (isDig_iff c).2 ⟨by omega, by omega⟩
      go_enter Try.func78, Try.ntmps78
      go_wp2
      go_ret
      exact ⟨retb HF.out.symm, rfl⟩
    · have HF : Hid (isDig c = false) := isDig_no (by omega)
      go_enter Try.func78, Try.ntmps78
      go_wp2
      go_ret
      exact ⟨retb HF.out.symm, rfl⟩
  · have HF : Hid (isDig c = false) := isDig_no (by omega)
    go_enter Try.func78, Try.ntmps78
    go_wp2
    go_ret
    exact ⟨retb HF.out.symm, rfl⟩

theorem wChar_low {c : UInt8} (h : (97 : Int) ≤ c.toNat) (h2 : (c.toNat : Int) ≤ 122) : wChar c = true := by
  have : decide (97 ≤ c.toNat) = true := by simp; omega
  have h3 : decide (c.toNat ≤ 122) = true := by simp; omega
  simp [wChar, this, h3]
theorem wChar_else {c : UInt8} (h : ¬((97 : Int) ≤ c.toNat ∧ (c.toNat : Int) ≤ 122)) : wChar c = (isDig c || decide (c.toNat = 45) || decide (c.toNat = 46) || decide (c.toNat = 47)) := by
  have : (decide (97 ≤ c.toNat) && decide (c.toNat ≤ 122)) = false := by simp; omega
  simp [wChar, this]

theorem wordB_no {s : ByteArray} (h : ¬(1 ≤ s.size ∧ s.size ≤ 32)) : wordB s = false := by
  have : (decide (1 ≤ s.size) && decide (s.size ≤ 32)) = false := by simp; omega
  simp [wordB, this]
theorem wordB_rest {s : ByteArray} (h1 : 1 ≤ s.size) (h2 : s.size ≤ 32) : wordB s = allTo s.size fun i => wChar (byteAt s i) := by
  simp [wordB, h1, h2]

end Go.Proofs.Ytpjgffcpjabghaa
namespace Go.Proofs.Ytpjgffcpjabghaa
open Go.RowKit
set_option linter.unusedSimpArgs false

theorem empty_of {s : ByteArray} (h : s.size = 0) : s.toList.isEmpty = true := by
  rw [ByteArray.toList_eq, List.isEmpty_iff_length_eq_zero]
  simpa using h
theorem not_empty_of {s : ByteArray} (h : 1 ≤ s.size) : s.toList.isEmpty = false := by
  cases e : s.toList.isEmpty
  · rfl
  · rw [ByteArray.toList_eq, List.isEmpty_iff_length_eq_zero] at e
    have e' : s.size = 0 := by simpa using e
    omega

theorem numB_no {s : ByteArray} (h : ¬(1 ≤ s.size ∧ s.size ≤ 15)) : numB s = false := by
  have : (decide (1 ≤ s.size) && decide (s.size ≤ 15)) = false := by simp; omega
  simp [numB, this]
theorem numB_zero {s : ByteArray} (h : 1 < s.size) (h0 : (byteAt s 0).toNat = 48) : numB s = false := by
  simp [numB, h, h0]
theorem numB_rest {s : ByteArray} (h1 : 1 ≤ s.size) (h2 : s.size ≤ 15) (h3 : ¬(1 < s.size ∧ (byteAt s 0).toNat = 48)) : numB s = allTo s.size fun i => isDig (byteAt s i) := by
  have : (decide (1 < s.size) && decide ((byteAt s 0).toNat = 48)) = false := by simp; omega
  simp [numB, h1, h2, this]

set_option maxHeartbeats 1000000 in
theorem isNumber_calls (s : ByteArray) (w : World) : Calls Try.prog 76 #[.string s] w fun e w' => e = .returned (.bool (numB s)) ∧ w' = w := by
  by_cases h0 : (s.size : Int) = 0
  · have HF : Hid (numB s = false) := numB_no (by omega)
    have h0' : ((s.size : Int) == 0) = true := beq_iff_eq.2 h0
    go_enter Try.func76, Try.ntmps76
    go_wp2
    go_ret
    exact ⟨retb HF.out.symm, rfl⟩
  have h0' : ((s.size : Int) == 0) = false := beq_eq_false_iff_ne.2 h0
  by_cases h1 : (15 : Int) < (s.size : Int)
  · have HF : Hid (numB s = false) := numB_no (by omega)
    go_enter Try.func76, Try.ntmps76
    go_wp2
    go_ret
    exact ⟨retb HF.out.symm, rfl⟩
  have hp : 0 < s.size := by omega
  have HB : ∃ b c : Bool, ((s[0].toNat : Int) == 48) = b ∧ decide ((1 : Int) < (s.size : Int)) = c ∧ Hid ((b && c) = true → numB s = false) ∧ Hid ((b && c) = false → numB s = allTo s.size fun i => isDig (byteAt s i)) := by
    refine ⟨_, _, rfl, rfl, ?_, ?_⟩
    · intro h
      simp only [Bool.and_eq_true, beq_iff_eq, decide_eq_true_eq] at h
      exact numB_zero (by omega) (by rw [byteAt_get s 0 hp]; omega)
    · intro h
      refine numB_rest (by omega) (by omega) ?_
      rintro ⟨x, y⟩
      rw [byteAt_get s 0 hp] at y
      rw [beq_iff_eq.2 (show (s[0].toNat : Int) = 48 by omega), decide_eq_true (show (1 : Int) < s.size by omega)] at h
      cases h
  obtain ⟨b, c, hb, hc, HT, HN⟩ := HB
  cases b <;> cases c
  case true.true =>
    have HF : Hid (numB s = false) := HT.out rfl
    clear HT HN
    go_enter Try.func76, Try.ntmps76
    go_wp2
    go_ret
    exact ⟨retb HF.out.symm, rfl⟩
  all_goals
    have HM : Hid (numB s = allTo s.size fun i => isDig (byteAt s i)) := HN.out rfl
    clear HT HN
    go_enter Try.func76, Try.ntmps76
    go_wp2
    go_loop [22] (fun i => ∃ k : Nat, k ≤ s.size ∧ i = .int .i64 k ∧ Hid (∀ j, j < k → isDig (byteAt s j) = true)) (fun i => s.size - (intOf i).toNat)
    case atStart => exact ⟨0, Nat.zero_le _, rfl, fun j hj => absurd hj (Nat.not_lt_zero _)⟩
    case round =>
      obtain ⟨k, hk, rfl, hall⟩ := hrel
      by_cases hlt : k < s.size
      · have hin := isDigit_calls s[k]
        cases hc : isDig s[k]
        · rw [hc] at hin
          have HF : Hid (numB s = false) := HM.out.trans (allTo_false hlt (by rw [byteAt_get s k hlt]; exact hc))
          clear hc
          go_wp2_with (go_at_call 78; refine (hin _).mono ?_; rintro e w' ⟨rfl, rfl⟩)
          go_ret
          exact ⟨retb HF.out.symm, rfl⟩
        · rw [hc] at hin
          have HS : Hid (isDig (byteAt s k) = true) := by rw [Hid, byteAt_get s k hlt]; exact hc
          clear hc
          go_wp2_with (go_at_call 78; refine (hin _).mono ?_; rintro e w' ⟨rfl, rfl⟩)
          go_round
          case rel => exact ⟨k + 1, by omega, by go_num, fun j hj => by rcases Nat.lt_succ_iff_lt_or_eq.1 hj with h | rfl; exact hall.out j h; exact HS.out⟩
          case measure => simp [intOf]; omega
      · have HF : Hid (numB s = true) := HM.out.trans (allTo_true (fun j hj => hall.out j (by omega)))
        go_wp2
        go_ret
        exact ⟨retb HF.out.symm, rfl⟩

theorem wChar_no {c : UInt8} (h1 : ¬((97 : Int) ≤ c.toNat ∧ (c.toNat : Int) ≤ 122)) (h2 : ¬((48 : Int) ≤ c.toNat ∧ (c.toNat : Int) ≤ 57)) (h3 : (c.toNat : Int) ≠ 45) (h4 : (c.toNat : Int) ≠ 46) (h5 : (c.toNat : Int) ≠ 47) : wChar c = false := by
  rw [wChar_else h1, isDig_no (by omega)]
  simp; omega
theorem wChar_dig {c : UInt8} (h : (48 : Int) ≤ c.toNat ∧ (c.toNat : Int) ≤ 57) : wChar c = true := by
  have := (isDig_iff c).2 (by omega); simp [wChar, this]
theorem wChar_sign {c : UInt8} (h : (c.toNat : Int) = 45 ∨ (c.toNat : Int) = 46 ∨ (c.toNat : Int) = 47) : wChar c = true := by
  have : c.toNat = 45 ∨ c.toNat = 46 ∨ c.toNat = 47 := by omega
  rcases this with h | h | h <;> simp [wChar, h]

/-- The paths through the document's test of one byte. -/
theorem wChar_paths (c : UInt8) : (¬ (c.toNat : Int) < 97 ∧ ¬ (122 : Int) < c.toNat ∧ Hid (wChar c = true)) ∨
    (((c.toNat : Int) < 97 ∨ (¬ (c.toNat : Int) < 97 ∧ (122 : Int) < c.toNat)) ∧
      ((¬ (c.toNat : Int) < 48 ∧ ¬ (57 : Int) < c.toNat ∧ Hid (wChar c = true)) ∨
       (((c.toNat : Int) < 48 ∨ (¬ (c.toNat : Int) < 48 ∧ (57 : Int) < c.toNat)) ∧
        ((((c.toNat : Int) != 45) = false ∧ Hid (wChar c = true)) ∨ (((c.toNat : Int) != 45) = true ∧
         ((((c.toNat : Int) != 46) = false ∧ Hid (wChar c = true)) ∨ (((c.toNat : Int) != 46) = true ∧
          ((((c.toNat : Int) != 47) = false ∧ Hid (wChar c = true)) ∨ (((c.toNat : Int) != 47) = true ∧ Hid (wChar c = false)))))))))) := by
  by_cases h1 : (c.toNat : Int) < 97 ∨ (122 : Int) < c.toNat
  · refine .inr ⟨by omega, ?_⟩
    by_cases h2 : (c.toNat : Int) < 48 ∨ (57 : Int) < c.toNat
    · refine .inr ⟨by omega, ?_⟩
      by_cases h3 : (c.toNat : Int) = 45
      · exact .inl ⟨by rw [h3]; rfl, wChar_sign (.inl h3)⟩
      refine .inr ⟨bne_iff_ne.2 h3, ?_⟩
      by_cases h4 : (c.toNat : Int) = 46
      · exact .inl ⟨by rw [h4]; rfl, wChar_sign (.inr (.inl h4))⟩
      refine .inr ⟨bne_iff_ne.2 h4, ?_⟩
      by_cases h5 : (c.toNat : Int) = 47
      · exact .inl ⟨by rw [h5]; rfl, wChar_sign (.inr (.inr h5))⟩
      exact .inr ⟨bne_iff_ne.2 h5, wChar_no (by omega) (by omega) h3 h4 h5⟩
    · exact .inl ⟨by omega, by omega, wChar_dig (by omega)⟩
  · exact .inl ⟨by omega, by omega, wChar_low (by omega) (by omega)⟩

theorem wordB_bad {s : ByteArray} {k : Nat} (h : k < s.size) (hc : wChar s[k] = false) : wordB s = false := by
  have : allTo s.size (fun i => wChar (byteAt s i)) = false := allTo_false h (by rw [byteAt_get s k h]; exact hc)
  simp [wordB, this]
theorem wordB_good {s : ByteArray} (h : ∀ j, j < s.size → wChar (byteAt s j) = true) : wordB s = (decide (1 ≤ s.size) && decide (s.size ≤ 32)) := by
  have : allTo s.size (fun i => wChar (byteAt s i)) = true := allTo_true h
  simp [wordB, this]

end Go.Proofs.Ytpjgffcpjabghaa
namespace Go.Proofs.Ytpjgffcpjabghaa
open Go.RowKit
set_option linter.unusedSimpArgs false

theorem ret_ib {k : IntKind} {a c : Int} {b d : Bool} (h : a = c ∧ b = d) : Ending.returned (.tuple #[.int k a, .bool b]) = .returned (.tuple #[.int k c, .bool d]) := by rw [h.1, h.2]
def wholeN (s : ByteArray) : Nat := if numB s then numN s else 0
theorem numTo_le (s : ByteArray) : ∀ k, k ≤ s.size → (∀ j, j < k → isDig (byteAt s j) = true) → numTo s k < 10 ^ k
  | 0, _, _ => by simp [numTo]
  | k + 1, hk, h => by
    have ih := numTo_le s k (by omega) (fun j hj => h j (by omega))
    have hd := (isDig_iff _).1 (h k (by omega))
    simp only [numTo, Nat.pow_succ]
    omega
theorem pow15 {k : Nat} (h : k ≤ 15) : 10 ^ k ≤ 1000000000000000 := by
  have := Nat.pow_le_pow_right (n := 10) (by omega) h
  simpa using this

end Go.Proofs.Ytpjgffcpjabghaa
