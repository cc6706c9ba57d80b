/- A heap and what lies beside it; what is pushed, key by key: the last one of each. Plain facts. No condition. -/
import Derived.Test.YtgncpjplofacfaaHMore
import Derived.Test.YtgncpjplofacfaaHSame
namespace Go.Proofs.Ytgncpjplofacfaa
open Go.RowKit Go.Maps
set_option linter.unusedSimpArgs false

theorem HAt.kept {F : Where} {w w' : World} {hb : Nat} {L : List It} (h : HAt F w hb L) (k : ∀ b, b < w.heap.size → F b → w'.heap[b]? = w.heap[b]?) : HAt F w' hb L := by
  obtain ⟨kb, h1, h2, v, mb, D, h3, t⟩ := h
  exact ⟨kb, h1, (k hb (block_lt h2) h1).trans h2, v, mb, D, h3.on (fun b hb hf => k b hb hf.1), t⟩
/-- A heap that has come since w0, and blocks beside it. -/
def Hpk (w0 u : World) (hb : Nat) (L : List It) (K : Where) : Prop := ∃ F, HAt F u hb L ∧ ∀ b, F b → w0.heap.size ≤ b ∧ b < u.heap.size ∧ ¬ K b
section
variable {w0 u u' : World} {hb : Nat} {L : List It} {K : Where}
theorem Hpk.new (h : HAt (Fresh w0) u hb L) (hK : ∀ b, ¬ K b) : Hpk w0 u hb L K :=
  ⟨fun b => Fresh w0 b ∧ b < u.heap.size, h.weak (fun _ h1 h2 => ⟨h2, h1⟩), fun b hb => ⟨hb.1, hb.2, hK b⟩⟩
theorem Hpk.grow (h : Hpk w0 u hb L K) (hw : Below u.heap.size u u') : Hpk w0 u' hb L K := by
  obtain ⟨F, h1, h2⟩ := h
  exact ⟨F, h1.grow hw, fun b hb => ⟨(h2 b hb).1, Nat.lt_of_lt_of_le (h2 b hb).2.1 hw.size, (h2 b hb).2.2⟩⟩
/-- Other blocks are to be kept: some of the elder ones, and new ones. -/
theorem Hpk.keep {K' : Where} (h : Hpk w0 u hb L K) (hk : ∀ b, b < u.heap.size → K' b → K b) : Hpk w0 u hb L K' := by
  obtain ⟨F, h1, h2⟩ := h
  exact ⟨F, h1, fun b hb => ⟨(h2 b hb).1, (h2 b hb).2.1, fun q => (h2 b hb).2.2 (hk b (h2 b hb).2.1 q)⟩⟩
/-- One of the blocks beside it has grown. -/
theorem Hpk.grown {r : Option Nat} (h : Hpk w0 u hb L K) (hg : u.grownBy u' r) (hr : ∀ b, r = some b → K b) : Hpk w0 u' hb L K := by
  obtain ⟨F, h1, h2⟩ := h
  refine ⟨F, h1.kept (fun b hb hf => hg.block b hb (fun e => (h2 b hf).2.2 (hr b e.symm))), fun b hb => ⟨(h2 b hb).1, Nat.lt_of_lt_of_le (h2 b hb).2.1 hg.size, (h2 b hb).2.2⟩⟩
theorem Hpk.dk (h : Hpk w0 u hb L K) : DK L := by obtain ⟨F, h, _⟩ := h; exact h.dk
theorem Hpk.ok (h : Hpk w0 u hb L K) : ∀ x ∈ L, okI x := by obtain ⟨F, h, _⟩ := h; exact h.ok
/-- A call that turns the heap alone. -/
theorem Hpk.call {f : Nat} {args : Array Value} {P : Ending → List It → Prop} (h : Hpk w0 u hb L K) (hs : w0.heap.size ≤ u.heap.size) (hK : ∀ b, K b → b < u.heap.size)
    (hc : ∀ F : Where, HAt F u hb L → (∀ b, u.heap.size ≤ b → F b) → Calls Try.prog f args u fun e w' => ∃ L', P e L' ∧ HAt F w' hb L' ∧ Turns F u w') :
    Calls Try.prog f args u fun e w' => ∃ L', P e L' ∧ Hpk w0 w' hb L' K ∧ Turns (fun b => w0.heap.size ≤ b ∧ ¬ K b) u w' := by
  obtain ⟨F, h1, h2⟩ := h
  refine (hc (fun b => F b ∨ u.heap.size ≤ b) (h1.weak (fun _ _ h => .inl h)) (fun _ h => .inr h)).mono ?_
  rintro e w' ⟨L', p, k1, k2⟩
  have hG : ∀ b, (F b ∨ u.heap.size ≤ b) → w0.heap.size ≤ b ∧ ¬ K b := fun b hb => hb.elim (fun q => ⟨(h2 b q).1, (h2 b q).2.2⟩) (fun q => ⟨Nat.le_trans hs q, fun r => absurd (hK b r) (by omega)⟩)
  exact ⟨L', p, ⟨fun b => (F b ∨ u.heap.size ≤ b) ∧ b < w'.heap.size, k1.weak (fun _ a b => ⟨b, a⟩), fun b hb => ⟨(hG b hb.1).1, hb.2, (hG b hb.1).2⟩⟩, k2.weak (fun b _ hb => hG b hb)⟩
theorem Turns.after (h : Below w0.heap.size w0 u) (k : Turns (fun b => w0.heap.size ≤ b ∧ ¬ K b) u u') : Below w0.heap.size w0 u' := Turns.behind h (k.weak (fun _ _ h => h.1))
/-- A row beside the heap stays. -/
theorem Own.turn {e : TypeId} {size : Nat} {v : Value} {n : Nat} {xs : List Value} (h : Own w0 u e size v n xs) (k : Turns (fun b => w0.heap.size ≤ b ∧ ¬ K b) u u') (hv : ∀ b, v.ownBlock = some b → K b) : Own w0 u' e size v n xs := by
  refine ⟨Turns.after h.1 k, ?_⟩
  obtain ⟨h1, h2 | ⟨g, cap, cur, e1, hB, hg, h3⟩⟩ := h.2
  · exact ⟨h1, .inl h2⟩
  · refine ⟨h1, .inr ⟨g, cap, cur, e1, hB, ?_, h3⟩⟩
    rw [k.block g (block_lt hg) (fun q => q.2 (hv g (by rw [e1]; rfl)))]
    exact hg
theorem Own.blk {e : TypeId} {size : Nat} {v : Value} {n : Nat} {xs : List Value} (h : Own w0 u e size v n xs) {b : Nat} (hb : v.ownBlock = some b) : b < u.heap.size := by
  obtain ⟨h1, ⟨rfl, _⟩ | ⟨g, cap, cur, rfl, hB, hg, h3⟩⟩ := h.2
  · simp [Value.ownBlock] at hb
  · simp [Value.ownBlock] at hb
    subst hb
    exact block_lt hg
theorem Own.other {r : Option Nat} {e : TypeId} {size : Nat} {v : Value} {n : Nat} {xs : List Value} (h : Own w0 u e size v n xs) (hg : u.grownBy u' r) (hb : Below w0.heap.size w0 u') (hv : ∀ b, v.ownBlock = some b → r ≠ some b) : Own w0 u' e size v n xs := by
  refine ⟨hb, ?_⟩
  obtain ⟨h1, h2 | ⟨g, cap, cur, e1, hB, hgc, h3⟩⟩ := h.2
  · exact ⟨h1, .inl h2⟩
  · refine ⟨h1, .inr ⟨g, cap, cur, e1, hB, ?_, h3⟩⟩
    rw [hg.block g (block_lt hgc) (fun e => hv g (by rw [e1]; rfl) e.symm)]
    exact hgc
end
/-- An append to one's own row in the text's order: what it leaves, and where it lies. -/
theorem items_appendL {ops : Array Oper} {rest : List Oper} {o : Oper} {a : Act} {Q : Exit → Act → World → Prop} {w0 u : World} (hgd : Region.wanted o (yielded ops a.tmps) = true) (s x : Operand)
    (ho : o.op = .call { callee := .builtin .append, args := #[s, x], argTypes := #[25, 25] })
    (v : Value) (A : List It) (hs : a.eval s = v) (hown : Own w0 u 27 3 v A.length (flatE encI A))
    (ad : Addr) (n capc : Nat) (N : List It) (hn : N.length = n) (hx : a.eval x = .slice (some ad) n capc) (hN : RowAt encI 3 okI u (some ad) N) (hb : (A.length + N.length) * 32 ≤ 140737488355328)
    (h : ∀ v' u', Own w0 u' 27 3 v' (A ++ N).length (flatE encI (A ++ N)) → u.grownBy u' v.ownBlock → (v'.ownBlock = v.ownBlock ∨ v'.ownBlock = some u.heap.size) → wpList Try.prog ops Q rest (a.put o.dst v') u') : wpList Try.prog ops Q (o :: rest) a u := by
  subst hn
  refine BigFrame.wpList_want hgd (fun K hK => ?_)
  obtain ⟨i0, hi, hz0, hz1, hz2⟩ := info_parts infoI
  obtain ⟨v', u', hr, h2, h3, h4, h5⟩ := run_append_own_at (P := Try.prog) u w0.heap.size 25 o.type 27 i0 _ 3 32 Try.underlying25 hi hz0 hz1 hz2 rfl (by decide) v A.length (flatE encI A) hown.2 ad N.length capc (flatE encI N) (flatE_length encI_len N) (flatE_cells encI_len hN) (flatE_one encI_one N) (by unfold maxLen; omega) hb hown.1.size
  unfold Oper.wp execOp
  simp only [ho, resolve, invoke, builtin, Sem.run_bind, Sem.run_pure, Result.andThen_ok, List.map_toArray, List.map_cons, List.map_nil, hs, hx, hr]
  refine hK _ _ (h v' u' ⟨hown.row h3, ?_⟩ h3 h5)
  rw [List.length_append, flatE_append]
  exact h2

/-- Has the entry at place i no key, or one with its key behind it, ahead of place m? -/
def lat (L : List It) (i m : Nat) : Bool := (at_ L i).1.toList.isEmpty || (List.range m).any (fun t => decide (i < t) && ((at_ L t).1.toList == (at_ L i).1.toList))
def lst (L : List It) (j n : Nat) : List It := ((List.range j).filter (fun i => !lat L i n)).map (at_ L)
theorem lst_succ (L : List It) (j n : Nat) : lst L (j + 1) n = if lat L j n then lst L j n else lst L j n ++ [at_ L j] := by
  unfold lst
  rw [List.range_succ, List.filter_append, List.map_append]
  split
  · rename_i h; simp [h]
  · rename_i h; simp [h]
theorem lat_succ (L : List It) (i m : Nat) (h : i < m) : lat L i (m + 1) = (lat L i m || ((at_ L m).1.toList == (at_ L i).1.toList)) := by
  unfold lat
  rw [List.range_succ, List.any_append]
  simp [h, Bool.or_assoc]
theorem lat_start (L : List It) (i : Nat) : lat L i (i + 1) = (at_ L i).1.toList.isEmpty := by
  unfold lat
  have : (List.range (i + 1)).any (fun t => decide (i < t) && ((at_ L t).1.toList == (at_ L i).1.toList)) = false := by
    rw [List.any_eq_false]
    intro t ht
    have : ¬ i < t := by have := List.mem_range.1 ht; omega
    simp [this]
  rw [this, Bool.or_false]
theorem lst_length (L : List It) (j n : Nat) : (lst L j n).length ≤ j := by
  unfold lst
  rw [List.length_map]
  exact Nat.le_trans (List.length_filter_le _ _) (by simp)
theorem lst_ok {L : List It} {j n : Nat} (hj : j ≤ L.length) (h : ∀ x ∈ L, okI x) : ∀ x ∈ lst L j n, okI x := by
  intro x hx
  unfold lst at hx
  obtain ⟨i, hi, rfl⟩ := List.mem_map.1 hx
  have := List.mem_range.1 (List.mem_filter.1 hi).1
  rw [at_get (by omega)]
  exact h _ (List.getElem_mem _)
/-- What one push makes of the entries. -/
def stepK (A : List It) (y : It) : List It := if y.1.toList.isEmpty then A else putK A y
theorem lst_step (L : List It) (m : Nat) : lst L (m + 1) (m + 1) = stepK (lst L m m) (at_ L m) := by
  have hd : lst L m (m + 1) = dropK (lst L m m) (at_ L m).1.toList ∨ ((at_ L m).1.toList.isEmpty = true ∧ lst L m (m + 1) = lst L m m) := by
    cases he : (at_ L m).1.toList.isEmpty with
    | false =>
      refine .inl ?_
      unfold lst dropK
      rw [List.filter_map, List.filter_filter]
      congr 1
      refine List.filter_congr (fun i hi => ?_)
      rw [lat_succ L i m (List.mem_range.1 hi)]
      have : ((at_ L m).1.toList == (at_ L i).1.toList) = ((at_ L i).1.toList == (at_ L m).1.toList) := sameK_symm (at_ L m) (at_ L i)
      rw [this]
      simp [Bool.and_comm]
    | true =>
      refine .inr ⟨rfl, ?_⟩
      unfold lst
      congr 1
      refine List.filter_congr (fun i hi => ?_)
      rw [lat_succ L i m (List.mem_range.1 hi)]
      cases e : ((at_ L m).1.toList == (at_ L i).1.toList) with
      | false => rw [Bool.or_false]
      | true =>
        have e2 : (at_ L i).1.toList.isEmpty = true := by
          rw [← beq_iff_eq.1 e]; exact he
        have : lat L i m = true := by unfold lat; rw [e2]; rfl
        rw [this]; rfl
  rw [lst_succ, lat_start]
  unfold stepK putK
  rcases hd with h | ⟨h1, h2⟩
  · cases he : (at_ L m).1.toList.isEmpty with
    | false => simp [h]
    | true =>
      simp only [if_true]
      unfold lst
      congr 1
      refine List.filter_congr (fun i hi => ?_)
      rw [lat_succ L i m (List.mem_range.1 hi)]
      cases e : ((at_ L m).1.toList == (at_ L i).1.toList) with
      | false => rw [Bool.or_false]
      | true =>
        have e2 : (at_ L i).1.toList.isEmpty = true := by
          rw [← beq_iff_eq.1 e]; exact he
        have : lat L i m = true := by unfold lat; rw [e2]; rfl
        rw [this]; rfl
  · rw [h1, if_pos rfl, if_pos rfl, h2]
theorem putK_perm {A B : List It} (h : A.Perm B) (y : It) : (putK A y).Perm (putK B y) := List.Perm.append_right _ (h.filter _)
/-- Who comes out of a heap comes ahead of all that stay. -/
theorem pop_ahead {A B : List It} (hh : HeapL A) (hd : DK A) (hp : (B ++ [at_ A 0]).Perm A) : ∀ y ∈ B, ahead (at_ A 0) y = true := by
  intro y hy
  have hyA : y ∈ A := hp.mem_iff.1 (List.mem_append_left _ hy)
  obtain ⟨k, hk, rfl⟩ := List.mem_iff_getElem.1 hyA
  have h1 := HeapN.root hh (k + 1) k (by omega) hk
  rw [at_get hk] at h1
  have hd2 := hd.perm hp.symm
  have hne : at_ A 0 ≠ A[k] := by
    intro e
    have := (List.pairwise_append.1 hd2).2.2 _ hy (at_ A 0) (by simp)
    rw [e, sameK_refl] at this
    cases this
  have := ahead_tot hne
  unfold nl at h1
  rw [h1] at this
  cases hq : ahead (at_ A 0) A[k] with
  | true => rfl
  | false => rw [hq] at this; cases this
theorem srt_snoc {A : List It} {x : It} (h : Srt A 0 A.length) (hx : ∀ y ∈ A, nl y x) : Srt (A ++ [x]) 0 (A ++ [x]).length := by
  intro i j _ h2 h3
  simp at h3
  have e : ∀ k, k < A.length → at_ (A ++ [x]) k = at_ A k := fun k hk => by rw [at_get hk, at_get (by simp; omega), List.getElem_append_left hk]
  have e2 : at_ (A ++ [x]) A.length = x := by rw [at_get (by simp)]; simp
  rcases Nat.lt_or_ge j A.length with c | c
  · rw [e i (by omega), e j c]; exact h i j (Nat.zero_le _) h2 c
  · obtain rfl : j = A.length := by omega
    rcases Nat.lt_or_ge i A.length with d | d
    · rw [e i d, e2, at_get d]; exact hx _ (List.getElem_mem d)
    · obtain rfl : i = A.length := by omega
      exact nl_self _
theorem stepK_perm {A B : List It} (h : A.Perm B) (y : It) : (stepK A y).Perm (stepK B y) := by
  unfold stepK
  split
  · exact h
  · exact putK_perm h y
/-- One push, whatever the key. -/
theorem Push_step {w0 u : World} {hb : Nat} {A : List It} {K : Where} (h : Hpk w0 u hb A K) (hs : w0.heap.size ≤ u.heap.size) (hK : ∀ b, K b → b < u.heap.size) (hL : A.length < 1000000000000) (hh : HeapL A) (y : It) (hy : okI y) :
    Calls Try.prog 10 #[.pointer (some ⟨hb, 0, none⟩), vI y] u fun e w' => ∃ A', (∃ r c, e = .returned (.tuple #[.bool r, .int .i64 c]) ∧ HeapL A' ∧ A'.Perm (stepK A y)) ∧ Hpk w0 w' hb A' K ∧ Turns (fun b => w0.heap.size ≤ b ∧ ¬ K b) u w' := by
  cases he : y.1.toList.isEmpty with
  | false =>
    refine h.call (P := fun e A' => ∃ r c, e = .returned (.tuple #[.bool r, .int .i64 c]) ∧ HeapL A' ∧ A'.Perm (stepK A y)) hs hK (fun F k1 k2 => ?_)
    refine (Push_any k1 k2 hL hh y hy he).mono ?_
    rintro e w' ⟨L', ⟨rfl, q1, q2⟩, q3, q4⟩
    exact ⟨L', ⟨_, _, rfl, q1, by unfold stepK; rw [he]; exact q2⟩, q3, q4⟩
  | true =>
    obtain ⟨F, k1, k2⟩ := h
    refine (Push_empty k1 y he).mono ?_
    rintro e w' ⟨rfl, hb'⟩
    exact ⟨A, ⟨_, _, rfl, hh, by unfold stepK; rw [he]; exact List.Perm.refl _⟩, Hpk.grow ⟨F, k1, k2⟩ hb', Turns.below hb'⟩
theorem Pop_step {w0 u : World} {hb : Nat} {A : List It} {K : Where} (h : Hpk w0 u hb A K) (hs : w0.heap.size ≤ u.heap.size) (hK : ∀ b, K b → b < u.heap.size) (hL : A.length < 1000000000000) (hh : HeapL A) (h0 : 0 < A.length) :
    Calls Try.prog 13 #[.pointer (some ⟨hb, 0, none⟩)] u fun e w' => ∃ A', (e = .returned (.tuple #[vI (at_ A 0), .int .i64 0]) ∧ HeapL A' ∧ (A' ++ [at_ A 0]).Perm A) ∧ Hpk w0 w' hb A' K ∧ Turns (fun b => w0.heap.size ≤ b ∧ ¬ K b) u w' := by
  refine h.call (P := fun e A' => e = .returned (.tuple #[vI (at_ A 0), .int .i64 0]) ∧ HeapL A' ∧ (A' ++ [at_ A 0]).Perm A) hs hK (fun F k1 k2 => ?_)
  refine (HPop_calls k1 k2 hL h0).mono ?_
  rintro e w' ⟨rfl, q1, q2⟩
  have p := lastL_heap hh h0
  exact ⟨_, ⟨rfl, p.1, p.2⟩, q1, q2⟩
theorem Len_step {w0 u : World} {hb : Nat} {A : List It} {K : Where} (h : Hpk w0 u hb A K) : Calls Try.prog 20 #[.pointer (some ⟨hb, 0, none⟩)] u fun e w' => e = .returned (.int .i64 (A.length : Int)) ∧ Below u.heap.size u w' := by
  obtain ⟨F, k1, _⟩ := h
  exact HLen_calls k1
theorem All_step {w0 u : World} {hb : Nat} {A : List It} {K : Where} (h : Hpk w0 u hb A K) (hL : A.length < 1000000000) : Calls Try.prog 19 #[.pointer (some ⟨hb, 0, none⟩)] u fun e w' => SortedRow u w' A.length e (stabF A) := by
  obtain ⟨F, k1, _⟩ := h
  exact All_calls k1 hL
def lenV : Value → Nat
  | .slice _ n _ => n
  | _ => 0
end Go.Proofs.Ytgncpjplofacfaa
