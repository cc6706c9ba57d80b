/- The program's queue and the document's: what they answer is the same. Plain facts on lists. No condition. The law's same at one list; entries against one; a document's queue that is new. Condition: the lists lie as is said of them. Arguments as they come in, whatever their type: read off memory, they lie as said. No condition beyond the row's own reach. Arguments of layer 14 as they come in. No condition beyond the row's own reach. Arguments of the program's struct types, as they come in. No condition beyond the row's own reach. Further structs of the program as plain data, and how each lies in cells. No program. No condition. Amounts as plain integers: what a number counts as, sums, differences, multiples and shares, and the laws of order and grouping. Plain mathematics, no program. No condition. What the document makes of pods: names each once, sums, ports, claims. Plain. No condition. -/
import Derived.Test.YtbmejaailhjgfaaGreatQ17
import Derived.Test.YtbmejaailhjgfaaGreatQ18
import Derived.Test.YtbmejaailhjgfaaGreatQ19
import Derived.Test.YtbmejaailhjgfaaGreatQ20
import Derived.Test.YtbmejaailhjgfaaGreatQ22
import Derived.Test.YtbmejaailhjgfaaGreatQ21
import Derived.Test.YtbmejaailhjgfaaGreatQ23
import Derived.Test.YtbmejaailhjgfaaGreatQ24
import Derived.Test.YtbmejaailhjgfaaGreatQ25
import Derived.BigQuiet
import Derived.Test.YtbmejaailhjgfaaGreatQ01
import Derived.Test.YtbmejaailhjgfaaGreatQ12
import Derived.Test.YtbmejaailhjgfaaGreatQ04
import Derived.Test.YtbmejaailhjgfaaGreatQ03
namespace Go.Proofs.YtbmejaailhjgfaaGreat
open Go.RowKit Go.Maps
set_option linter.unusedSimpArgs false
set_option maxRecDepth 100000

theorem who_nom (nd : ByteArray) (Ws : List WiD) : nomP nd Ws = whoP nd Ws := rfl
theorem oth_hope (s : ByteArray) (Ws : List WiD) : othG Prod.fst s Ws = othP s Ws := rfl
theorem add_dl (t : Int) : delayY t = delayP t := rfl
theorem wh_same (t : Int) : whenY t = whenB t := rfl
theorem fnd_eq {L : List EnD} (hn : (L.map enN).Nodup) (s : ByteArray) : fndG enN L s = (findP L s).map (fun k => L.getD k default) := by
  cases h : findP L s with
  | none =>
    have h1 := List.findIdx?_eq_none_iff.1 h
    show L.find? (fun x => sEq (enN x) s) = none
    rw [List.find?_eq_none]
    intro x hx e
    have := h1 x hx
    rw [show sEq x.1.1 s = true from e] at this
    cases this
  | some k =>
    obtain ⟨hk, e⟩ := find_is h
    have hx : L.getD k default ∈ L := by rw [getD_at hk]; exact List.getElem_mem hk
    have := fndG_of hn hx
    rw [show enN (L.getD k default) = s from e] at this
    exact this
theorem fnd_some_eq {L : List EnD} (hn : (L.map enN).Nodup) (s : ByteArray) : (fndG enN L s).isSome = (findP L s).isSome := by
  rw [fnd_eq hn]; cases findP L s <;> rfl
theorem oth_at : ∀ (L : List EnD) (k : Nat) (hk : k < L.length), (L.map enN).Nodup → othG enN (enN L[k]) L = L.eraseIdx k
  | [], _, hk, _ => absurd hk (Nat.not_lt_zero _)
  | x :: L, 0, hk, hn => by
    rw [List.map_cons, List.nodup_cons] at hn
    show (x :: L).filter (fun y => !sEq (enN y) (enN x)) = L
    rw [List.filter_cons, if_neg (by rw [(sEq_iff _ _).2 rfl]; decide), List.filter_eq_self]
    intro y hy
    cases e : sEq (enN y) (enN x) with
    | false => rfl
    | true => exact absurd (List.mem_map.2 ⟨y, hy, (sEq_iff _ _).1 e⟩) hn.1
  | x :: L, k + 1, hk, hn => by
    rw [List.map_cons, List.nodup_cons] at hn
    have hk' : k < L.length := by simpa using hk
    have ih := oth_at L k hk' hn.2
    show (x :: L).filter (fun y => !sEq (enN y) (enN L[k])) = x :: L.eraseIdx k
    rw [List.filter_cons, if_pos, ← ih]
    · rfl
    · cases e : sEq (enN x) (enN L[k]) with
      | false => rfl
      | true => exact absurd (List.mem_map.2 ⟨L[k], List.getElem_mem hk', ((sEq_iff _ _).1 e).symm⟩) hn.1
theorem oth_erase {L : List EnD} (hn : (L.map enN).Nodup) {s : ByteArray} {k : Nat} (h : findP L s = some k) : othG enN s L = L.eraseIdx k := by
  obtain ⟨hk, e⟩ := find_is h
  rw [getD_at hk] at e
  have := oth_at L k hk hn
  rwa [show enN L[k] = s from e] at this
theorem add_eq {L : List EnD} (hn : (L.map enN).Nodup) (n : Int) (s : ByteArray) (pr : Int) : addQ L n s pr = (agY L s, addL L (agY L s) ((s, pr, n, 0, 0), 1), addN n (agY L s)) := by
  unfold addQ agY
  rw [fnd_some_eq hn]
  by_cases h1 : s.toList.isEmpty = true
  · simp [h1, addL, addN]
  · by_cases h2 : (findP L s).isSome = true
    · simp [h1, h2, addL, addN]
    · simp [h1, h2, addL, addN]
theorem back_eq {L : List EnD} (hn : (L.map enN).Nodup) (x : WtD) (now : Int) (room : Bool) : backP L x now room = (bkY L x.1 now, addL L (bkY L x.1 now) (backE x now room)) := by
  unfold backP bkY agY backE
  rw [fnd_some_eq hn, wh_same, add_dl]
  cases h0 : whenB now
  · simp [addL]
  · by_cases h1 : x.1.toList.isEmpty = true
    · simp [h1, addL]
    · by_cases h2 : (findP L x.1).isSome = true
      · simp [h1, h2, addL]
      · simp [h1, h2, addL]
theorem place_eq {L : List EnD} (hn : (L.map enN).Nodup) (s : ByteArray) : plY L s = placeP L s := by
  unfold plY placeP
  rw [fnd_eq hn]
  cases findP L s <;> rfl
theorem drop_eq {L : List EnD} (hn : (L.map enN).Nodup) (hok : ∀ e ∈ L, okE e) (Ws : List WiD) (s : ByteArray) : dropP L Ws s = (drE L s, othG enN s L, drW L s Ws) := by
  unfold dropP drE drW
  rw [fnd_some_eq hn]
  cases h : findP L s with
  | none =>
    have : othG enN s L = L := by
      have h1 := List.findIdx?_eq_none_iff.1 h
      show L.filter (fun y => !sEq (enN y) s) = L
      rw [List.filter_eq_self]
      intro y hy
      rw [show sEq (enN y) s = false from h1 y hy]; rfl
    simp [this]
  | some k =>
    obtain ⟨hk, e⟩ := find_is h
    have hne : s.toList.isEmpty = false := by
      have := (hok _ (by rw [getD_at hk]; exact List.getElem_mem hk : L.getD k default ∈ L)).2.1
      rwa [e] at this
    simp [oth_erase hn h, hne, hopeP]
    rfl
theorem hope_eq (Ws : List WiD) (s nd : ByteArray) (h : s.toList.isEmpty = false) : hpY Ws s nd = hopeP Ws s nd := by
  unfold hpY hopeP
  rw [if_neg (by rw [h]; decide)]
  rfl
theorem mvN_eq (L : List EnD) (now : Int) : mvN L now = if whenB now = true then (movN now L : Int) else 0 := by
  unfold mvN movN gatP
  rw [wh_same, List.length_map, List.countP_eq_length_filter]
  simp
theorem mvL_eq (L : List EnD) (now : Int) : mvL L now = if whenB now = true then L.map (movE now) else L := rfl
theorem tkN_eq (L : List EnD) (now : Int) : tkN L now = if whenB now = true then (tikN now L : Int) else 0 := by
  unfold tkN tikN gatP dueF
  rw [wh_same, List.length_map, List.countP_eq_length_filter]
  simp [Bool.decide_and]
theorem tkL_eq (L : List EnD) (now : Int) : tkL L now = if whenB now = true then L.map (tikE now) else L := rfl
theorem first_best (L : List EnD) : ∀ i, (firstTo L i = none → ∀ j, j < i → (L.getD j default).2 ≠ 1) ∧ ∀ k, firstTo L i = some k → ∀ j, j < i → (L.getD j default).2 = 1 → ahead (itm (L.getD j default).1) (itm (L.getD k default).1) = false
  | 0 => ⟨fun _ j hj => absurd hj (Nat.not_lt_zero _), fun _ h => by cases h⟩
  | i + 1 => by
    have ih := first_best L i
    unfold firstTo fstStep
    by_cases r : (L.getD i default).2 = 1
    · rw [if_pos r]
      cases hk : firstTo L i with
      | none =>
        refine ⟨fun h => by simp at h, fun k h j hj hr => ?_⟩
        obtain rfl : i = k := by simpa using h
        by_cases e : j = i
        · subst e; exact ahead_self _
        · exact absurd hr (ih.1 hk j (by omega))
      | some j0 =>
        by_cases a : ahead (itm (L.getD i default).1) (itm (L.getD j0 default).1) = true
        · simp only [if_pos a]
          refine ⟨fun h => by simp at h, fun k h j hj hr => ?_⟩
          obtain rfl : i = k := by simpa using h
          by_cases e : j = i
          · subst e; exact ahead_self _
          · have h1 := ih.2 j0 hk j (by omega) hr
            cases h2 : ahead (itm (L.getD j default).1) (itm (L.getD i default).1) with
            | false => rfl
            | true => rw [ahead_trans h2 a] at h1; cases h1
        · simp only [if_neg a]
          refine ⟨fun h => by simp at h, fun k h j hj hr => ?_⟩
          obtain rfl : j0 = k := by simpa using h
          by_cases e : j = i
          · subst e; simpa using a
          · exact ih.2 j0 hk j (by omega) hr
    · rw [if_neg r]
      refine ⟨fun h j hj => ?_, fun k h j hj hr => ?_⟩
      · by_cases e : j = i
        · subst e; exact r
        · exact ih.1 h j (by omega)
      · by_cases e : j = i
        · subst e; exact absurd hr r
        · exact ih.2 k h j (by omega) hr
theorem pop_eq {L : List EnD} (hn : (L.map enN).Nodup) {x : WtD} {er : Int} {S' : List EnD} (h : PopO L x er S') : x = (popP L).1 ∧ er = (popP L).2.1 ∧ S' = (popP L).2.2 := by
  unfold popP firstP
  have hb := first_best L L.length
  rcases h with ⟨h0, rfl, rfl, rfl⟩ | ⟨e, he, h1, h2, rfl, rfl, rfl⟩
  · cases hf : firstTo S' S'.length with
    | none => exact ⟨rfl, rfl, rfl⟩
    | some k =>
      obtain ⟨hk, hr⟩ := first_lt S' _ k hf
      have hm : S'.getD k default ∈ S' := by rw [getD_at hk]; exact List.getElem_mem hk
      have : itY (S'.getD k default).1 ∈ rdyY S' := List.mem_map.2 ⟨_, List.mem_filter.2 ⟨hm, by simpa using hr⟩, rfl⟩
      rw [h0] at this
      cases this
  · obtain ⟨j, hj, ej⟩ := List.getElem_of_mem he
    cases hf : firstTo L L.length with
    | none =>
      have := hb.1 hf j hj
      rw [getD_at hj, ej] at this
      exact absurd h1 this
    | some k =>
      obtain ⟨hk, hr⟩ := first_lt L _ k hf
      have hm : L.getD k default ∈ L := by rw [getD_at hk]; exact List.getElem_mem hk
      have hee : e = L.getD k default := by
        by_cases en : (L.getD k default).1.1 = e.1.1
        · exact nd_one (key := enN) hn he hm en.symm
        · have h3 := h2 _ hm hr en
          have h4 := hb.2 k hf j hj (by rw [getD_at hj, ej]; exact h1)
          rw [getD_at hj, ej] at h4
          rw [show ahead (itm e.1) (itm (L.getD k default).1) = true from h3] at h4
          cases h4
      refine ⟨by show moreY e.1 = more (L.getD k default).1; rw [← hee]; rfl, rfl, ?_⟩
      have := oth_at L k hk hn
      rw [← getD_at hk, ← hee] at this
      exact this
theorem aq_eq (pl : Int) (a b : WtD) : aheadQ pl a b = if pl = 1 then ahead (itY a) (itY b) else lessY a b := rfl
theorem aq_self (pl : Int) (a : WtD) : aheadQ pl a a = false := by
  rw [aq_eq]; split
  · exact ahead_self _
  · exact lessY_irr a
theorem aq_trans {pl : Int} {a b c : WtD} (h1 : aheadQ pl a b = true) (h2 : aheadQ pl b c = true) : aheadQ pl a c = true := by
  rw [aq_eq] at *
  by_cases h : pl = 1
  · simp only [if_pos h] at *; exact ahead_trans h1 h2
  · simp only [if_neg h] at *; exact lessY_trans h1 h2
theorem aq_asym {pl : Int} {a b : WtD} (h : aheadQ pl a b = true) : aheadQ pl b a = false := by
  cases h2 : aheadQ pl b a with
  | false => rfl
  | true => have := aq_trans h h2; rw [aq_self] at this; cases this
theorem aq_nt {pl : Int} {a b c : WtD} (h1 : aheadQ pl a b = false) (h2 : aheadQ pl b c = false) : aheadQ pl a c = false := by
  rw [aq_eq] at *
  by_cases h : pl = 1
  · simp only [if_pos h] at *
    cases h3 : ahead (itY a) (itY c) with
    | false => rfl
    | true =>
      by_cases e : itY a = itY b
      · rw [e, h2] at h3; cases h3
      · have h4 := ahead_tot e
        rw [h1] at h4
        have := ahead_trans h4 h3
        rw [h2] at this; cases this
  · simp only [if_neg h] at *; exact lessY_ntrans h1 h2
theorem aq_one {pl : Int} {a b : WtD} (hne : a.1 ≠ b.1) (h1 : aheadQ pl a b = false) : aheadQ pl b a = true := by
  rw [aq_eq] at *
  by_cases h : pl = 1
  · simp only [if_pos h] at *
    have h4 := ahead_tot (a := itY a) (b := itY b) (fun e => hne (show (itY a).1 = (itY b).1 from congrArg Prod.fst e))
    rw [h1] at h4
    exact h4
  · simp only [if_neg h] at *
    have hb := bl_tot a.1.toList b.1.toList (fun e => hne (toList_inj e))
    unfold lessY at *
    simp only [Bool.or_eq_false_iff, Bool.and_eq_false_iff, decide_eq_false_iff_not, Bool.or_eq_true, Bool.and_eq_true, decide_eq_true_eq] at *
    obtain ⟨p1, p2⟩ := h1
    by_cases e : a.2.2.1 = b.2.2.1
    · refine .inr ⟨e.symm, ?_⟩
      have p3 := p2.resolve_left (fun x => x e)
      rw [p3] at hb
      simpa using hb
    · exact .inl (by omega)
def SrtQ (pl : Int) (O : List WtD) : Prop := O.Pairwise (fun x y => aheadQ pl y x = false)
theorem pos_ge (pl : Int) (x : WtD) (O : List WtD) : ∀ k j, posQ pl x O k ≤ j → j < k → aheadQ pl x (O.getD j default) = true
  | 0, _, _, h => absurd h (Nat.not_lt_zero _)
  | k + 1, j, h1, h2 => by
    unfold posQ at h1
    split at h1
    · rename_i ha
      by_cases e : j = k
      · subst e; exact ha
      · exact pos_ge pl x O k j h1 (by omega)
    · omega
theorem pos_pre (pl : Int) (x : WtD) (O : List WtD) : ∀ k, posQ pl x O k = 0 ∨ aheadQ pl x (O.getD (posQ pl x O k - 1) default) = false
  | 0 => .inl rfl
  | k + 1 => by
    unfold posQ
    split
    · exact pos_pre pl x O k
    · rename_i ha
      exact .inr (by simpa using ha)
theorem insQ_srt {pl : Int} {x : WtD} {O : List WtD} (h : SrtQ pl O) : SrtQ pl (insQ pl x O) := by
  have hle := pos_le pl x O O.length
  have hge := pos_ge pl x O O.length
  have hpre := pos_pre pl x O O.length
  unfold insQ
  generalize posQ pl x O O.length = p at hle hge hpre
  have hs : SrtQ pl (O.take p ++ O.drop p) := by rw [List.take_append_drop]; exact h
  obtain ⟨s1, s2, s3⟩ := List.pairwise_append.1 hs
  refine List.pairwise_append.2 ⟨List.pairwise_append.2 ⟨s1, List.pairwise_singleton _ _, fun a ha b hb => ?_⟩, s2, fun a ha b hb => ?_⟩
  · rw [List.mem_singleton.1 hb]
    obtain ⟨i, hi, rfl⟩ := List.getElem_of_mem ha
    have hip : i < p := by rw [List.length_take] at hi; omega
    rw [List.getElem_take]
    rcases hpre with h0 | hp
    · omega
    · rw [getD_at (by omega)] at hp
      by_cases e : i = p - 1
      · subst e; exact hp
      · exact aq_nt hp (List.pairwise_iff_getElem.1 h i (p - 1) (by omega) (by omega) (by omega))
  · rcases List.mem_append.1 ha with ha | ha
    · exact s3 a ha b hb
    · rw [List.mem_singleton.1 ha]
      obtain ⟨i, hi, rfl⟩ := List.getElem_of_mem hb
      rw [List.getElem_drop]
      have hi2 : p + i < O.length := by rw [List.length_drop] at hi; omega
      have := hge (p + i) (by omega) hi2
      rw [getD_at hi2] at this
      exact aq_asym this
theorem all_srt (pl : Int) (L : List EnD) : ∀ i, SrtQ pl (allToQ pl L i)
  | 0 => List.Pairwise.nil
  | i + 1 => by
    unfold allToQ
    split
    · exact insQ_srt (all_srt pl L i)
    · exact all_srt pl L i
theorem ins_perm (pl : Int) (x : WtD) (O : List WtD) : (insQ pl x O).Perm (O ++ [x]) := by
  unfold insQ
  generalize posQ pl x O O.length = p
  rw [List.append_assoc]
  refine ((List.perm_append_comm (l₁ := [x]) (l₂ := O.drop p)).append_left (O.take p)).trans ?_
  rw [← List.append_assoc, List.take_append_drop]
theorem all_perm (pl : Int) (L : List EnD) : ∀ i, i ≤ L.length → (allToQ pl L i).Perm (gatP pl (fun _ => true) (L.take i))
  | 0, _ => by rw [List.take_zero]; exact List.Perm.refl _
  | i + 1, hi => by
    have ih := all_perm pl L i (by omega)
    rw [← take_atG (by omega), gat_snoc]
    unfold allToQ
    by_cases h : (L.getD i default).2 = pl
    · rw [if_pos h, if_pos (by simpa using h)]
      exact (ins_perm _ _ _).trans (ih.append_right _)
    · rw [if_neg h, if_neg (by simpa using h), List.append_nil]
      exact ih
theorem srt_oneQ {pl : Int} : ∀ l m : List WtD, l.Perm m → SrtQ pl l → SrtQ pl m → (l.map Prod.fst).Nodup → l = m
  | [], m, hp, _, _, _ => hp.nil_eq
  | a :: l, [], hp, _, _, _ => absurd hp.length_eq (by simp)
  | a :: l, b :: m, hp, h1, h2, hn => by
    have ab : a = b := by
      have hb : b ∈ a :: l := hp.mem_iff.2 List.mem_cons_self
      have ha : a ∈ b :: m := hp.mem_iff.1 List.mem_cons_self
      by_cases e : a.1 = b.1
      · exact nd_one (key := Prod.fst) hn List.mem_cons_self hb e
      · rcases List.mem_cons.1 hb with hb | hb
        · exact hb.symm
        · rcases List.mem_cons.1 ha with ha | ha
          · exact ha
          · have k1 := (List.pairwise_cons.1 h1).1 b hb
            have k2 := (List.pairwise_cons.1 h2).1 a ha
            rw [aq_one e k2] at k1
            cases k1
    subst ab
    rw [srt_oneQ l m hp.cons_inv (List.pairwise_cons.1 h1).2 (List.pairwise_cons.1 h2).2 (by rw [List.map_cons, List.nodup_cons] at hn; exact hn.2)]
theorem all_eq {L : List EnD} (hn : (L.map enN).Nodup) {pl : Int} {l : List WtD} (h : AllR L pl l) : l = allQ pl L := by
  obtain ⟨hp, h1, h2⟩ := h
  have hq := all_perm pl L L.length (Nat.le_refl _)
  rw [List.take_length] at hq
  refine srt_oneQ (pl := pl) l (allQ pl L) (hp.trans hq.symm) ?_ (all_srt pl L _) ?_
  · by_cases e : pl = 1
    · refine (h2 e).imp ?_
      intro x y hxy
      rw [aq_eq, if_pos e]
      exact hxy
    · refine (h1 e).imp ?_
      intro x y hxy
      rw [aq_eq, if_neg e]
      exact hxy
  · refine ((hp.map Prod.fst).nodup_iff).2 ?_
    unfold gatP
    rw [List.map_map]
    exact List.Nodup.sublist (List.Sublist.map _ List.filter_sublist) hn
end Go.Proofs.YtbmejaailhjgfaaGreat
namespace Go.Proofs.YtbmejaailhjgfaaGreat
open Go.RowKit Go.Maps
set_option linter.unusedSimpArgs false
set_option maxRecDepth 100000

theorem neqWt_same (x0 : ByteArray) (x1 x2 x3 x4 : Int) (w : World) : Sem.run Tryz.prog (binOp .neq 31 (.agg #[.string x0, .int .i64 x1, .int .i64 x2, .int .i64 x3, .int .i64 x4]) (.agg #[.string x0, .int .i64 x1, .int .i64 x2, .int .i64 x3, .int .i64 x4])) w = .ok (.bool false) w := by
  have u3 := Tryz.underlying3
  have a3 := Tryz.isAgg3
  have z3 := Tryz.sizeOf3
  have u9 := Tryz.underlying9
  have a9 := Tryz.isAgg9
  have z9 := Tryz.sizeOf9
  have hS : Tryz.prog.underlying 31 = some (.struct (Tryz.prog.fieldsOf 31)) := by kernel_rfl
  have hp : Tryz.prog.stoodInHeld 31 = false := by kernel_rfl
  rw [run_neq_struct, show (10000 : Nat) = 9999 + 1 from rfl, run_equalIn_agg w 9999 31 _ _ hS hp]
  simp only [Program.fieldsOf, Tryz.underlying31]
  go_simp
  try simp
theorem eqlWt_same (x0 : ByteArray) (x1 x2 x3 x4 : Int) (w : World) : Sem.run Tryz.prog (binOp .eql 31 (.agg #[.string x0, .int .i64 x1, .int .i64 x2, .int .i64 x3, .int .i64 x4]) (.agg #[.string x0, .int .i64 x1, .int .i64 x2, .int .i64 x3, .int .i64 x4])) w = .ok (.bool true) w := by
  have u3 := Tryz.underlying3
  have a3 := Tryz.isAgg3
  have z3 := Tryz.sizeOf3
  have u9 := Tryz.underlying9
  have a9 := Tryz.isAgg9
  have z9 := Tryz.sizeOf9
  have hS : Tryz.prog.underlying 31 = some (.struct (Tryz.prog.fieldsOf 31)) := by kernel_rfl
  have hp : Tryz.prog.stoodInHeld 31 = false := by kernel_rfl
  rw [run_eql_struct, show (10000 : Nat) = 9999 + 1 from rfl, run_equalIn_agg w 9999 31 _ _ hS hp]
  simp only [Program.fieldsOf, Tryz.underlying31]
  go_simp
  try simp
theorem guardWt : Tryz.prog.eqGuardType Tryz.prog.depth 31 = false := by kernel_rfl
set_option maxHeartbeats 8000000 in
theorem same14_calls (a b : Option Addr) (n cap cap' : Nat) (A A' : Where) (L : List WtD) (w : World) (hn : L.length = n) (hA : Hid (SlAt RWt 5 48 A w a n cap L)) (hB : Hid (SlAt RWt 5 48 A' w b n cap' L)) (hby : n < 1000000000000) :
    Calls Tryz.prog 26 #[.slice a n cap, .slice b n cap'] w fun e w' => e = .returned (.bool true) ∧ Below w.heap.size w w' := by
  have HN : Hid (L.length = n) := hn
  have hne : ((n : Int) != (n : Int)) = false := by simp
  clear hn
  go_enter Tryz.func26, Tryz.ntmps26
  go_wp2_with fail
  go_loopw [5] (fun i wr => ∃ j : Nat, j ≤ n ∧ i = .int .i64 j ∧ Hid (Below w.heap.size w wr)) (fun i _ => n - (intOf i).toNat)
  case atStart => exact ⟨0, Nat.zero_le _, rfl, Below.refl _ _⟩
  case round =>
    obtain ⟨j, hjl, rfl, hbw⟩ := hrel
    by_cases hlt : j < n
    · have hltz : (j : Int) < (n : Int) := by omega
      obtain ⟨B, off, rfl, hBl, _, cs, hra, hva⟩ := (hA.out.on RWt.firm hbw.out).get hlt
      obtain ⟨B', off', rfl, hBl', _, cs', hrb, hvb⟩ := (hB.out.on RWt.firm hbw.out).get hlt
      obtain ⟨rfl, _⟩ := hra
      obtain ⟨rfl, _⟩ := hrb
      obtain ⟨x, hx⟩ : ∃ x, x = L.getD j default := ⟨_, rfl⟩
      rw [← hx] at hva hvb
      obtain ⟨x0, x1, x2, x3, x4⟩ := x
      have d0 := hva 0 _ rfl
      have d1 := hva 1 _ rfl
      have d2 := hva 2 _ rfl
      have d3 := hva 3 _ rfl
      have d4 := hva 4 _ rfl
      have g0 := hvb 0 _ rfl
      have g1 := hvb 1 _ rfl
      have g2 := hvb 2 _ rfl
      have g3 := hvb 3 _ rfl
      have g4 := hvb 4 _ rfl
      rw [Nat.add_zero] at d0 g0
      have HE := neqWt_same x0 x1 x2 x3 x4
      have hgd := guardWt
      have hback : Hid (∀ q, Below w.heap.size w (wr.drewN q)) := fun q => below_drewN hbw.out _
      clear hva hvb hx
      go_wp2_with fail
      go_quiet (fail)
      go_wp2_with fail
      go_roundw
      case rel => exact ⟨j + 1, by omega, by go_num, hback.out _⟩
      case measure => simp [intOf]; omega
    · have hltz : ¬ (j : Int) < (n : Int) := by omega
      go_wp2_with fail
      go_ret
      exact ⟨rfl, hbw.out⟩
/-- A queue of the document that is new. -/
theorem RqE.zero (w u : World) (p : Nat) (hb : Below w.heap.size w u) (hp : w.heap.size ≤ p) (hx : BoxL u p [.slice none 0 0, .int .i64 0, .slice none 0 0]) : RqE w u p (.slice none 0 0) (.slice none 0 0) [] 0 [] :=
  ⟨hx, (Row.nil (fun _ => False) w 65).on REn.firm hb, (Row.nil (fun _ => False) w 82).on RWi.firm hb, hp, (by intro h; cases h), (by intro h; cases h), (by intro x h; cases h)⟩
end Go.Proofs.YtbmejaailhjgfaaGreat
namespace Go.Proofs.YtbmejaailhjgfaaGreat
open Go.ChangeShapes Go.WideShapes Go.ChangeAt Go.RowKit

/-- What is read as of that type lies as said. -/
def Opens {α : Type} (R : Rep α) (t : TypeId) : Prop :=
  ∀ {H : Type} {enc : TypeId × Value → H} {W : World} {base n : Nat} {sp : Nat → Bool} {held : Bool} {cs : List Value} {x : DataW H × List MemPlace},
    DataW.trod enc Tryz.prog W base sp held n t cs = some x → Light x.1 t → ∃ y, R (fun _ => True) W cs y
theorem opens_str : Opens RStr 9 := by
  intro H enc W base n sp held cs x h hl
  obtain ⟨s, hs, rfl, _⟩ := DataW.trod_string Tryz.underlying9 h
  refine ⟨s, hs, ?_⟩
  have := hl s.data.toList.length (by simp [DataW.weights])
  simp at this
  omega
theorem opens_int : Opens RInt 3 := by
  intro H enc W base n sp held cs x h _
  obtain ⟨e, e1, _, _⟩ := DataW.trod_int Tryz.underlying3 h
  exact ⟨e, e1⟩
theorem opens_bool : Opens RBool 4 := by
  intro H enc W base n sp held cs x h _
  obtain ⟨b, b1, _⟩ := DataW.trod_bool Tryz.underlying4 h
  exact ⟨b, b1⟩
theorem opens_slice {α : Type} [Inhabited α] {R : Rep α} {k bytes : Nat} {t e : TypeId} (hR : Firm R k) (hu : Tryz.prog.underlying t = some (.slice e)) (ck : Tryz.prog.cellsOf e = k) (bk : Tryz.prog.bytesOf e = bytes) (hk0 : 0 < k) (hE : Opens R e) : Opens (RSl R k bytes) t := by
  intro H enc W base n sp held cs x h hl
  rcases Go.Deep.open_slice hu h with ⟨hv, _⟩ | ⟨a, len, cap, m, nn, D, Pl, hv, _, hlc, _, hm, rfl, hel⟩
  · exact ⟨[], none, 0, 0, hv, SlAt.nil _ _ _ _ (fun _ => rfl)⟩
  · obtain ⟨w1, w2⟩ := light_slice hu hl
    simp only [List.length_map, List.length_range, bk] at w1
    have hml : len ≤ m := by rw [hm]; split <;> omega
    rw [ck] at hel
    have each : ∀ i, i < len → ∃ y : α, ∃ cs, R (fun _ => True) W cs y ∧ ∀ j u, cs[j]? = some u → W.cell? ((a.add (i * k)).add j) = some u := fun i hi => by
      obtain ⟨cs', h1, h2⟩ := hel i (by omega)
      obtain ⟨y, hy⟩ := hE h2 (w2 _ (List.mem_map.2 ⟨i, List.mem_range.2 hi, rfl⟩))
      obtain ⟨_, _, hcell⟩ := World.cells?_some h1
      refine ⟨y, cs', hy, fun j u hj => ?_⟩
      have hjk : j < k := by
        have := (List.getElem?_eq_some_iff.1 hj).1
        rwa [hR.len hy] at this
      rw [hcell j hjk, hj]
    obtain ⟨f, hf⟩ := Go.Deep.choose_lt each
    refine ⟨(List.range len).map f, some a, len, cap, hv, by simp, hlc, (fun h => by cases h), w1, fun hpos => ?_⟩
    obtain ⟨B, off, spot⟩ := a
    obtain ⟨cs0, hr0, hc0⟩ := hf 0 hpos
    have hex : ∃ u, cs0[0]? = some u := by
      cases e : cs0 with
      | nil => have := hR.len hr0; rw [e] at this; simp at this; omega
      | cons u r => exact ⟨u, rfl⟩
    obtain ⟨u0, hu0⟩ := hex
    have hc0 := hc0 0 u0 hu0
    have hsp : spot = none := by
      have := World.cell?_spot hc0
      simpa [Addr.add] using this
    subst hsp
    rw [add_lit, add_lit] at hc0
    refine ⟨B, off, rfl, addr_lt hc0, trivial, fun i hi => ?_⟩
    obtain ⟨cs, hr, hc⟩ := hf i hi
    refine ⟨cs, by rw [getD_range f len i hi]; exact hr, fun j u hj => ?_⟩
    have := hc j u hj
    rwa [add_lit, add_lit] at this
/-- The same of a struct's fields from a place on. -/
def OpensFs {α : Type} (fs : List Field) (off total : Nat) (R : Rep α) : Prop :=
  ∀ {H : Type} {enc : TypeId × Value → H} {W : World} {base n : Nat} {sp : Nat → Bool} {held : Bool} {cs : List Value}, cs.length = total →
    (∀ (j : Nat) (f : Field), fs[j]? = some f → ∃ d, DataW.trod enc Tryz.prog W base sp held n f.type ((cs.drop f.offset).take (Tryz.prog.cellsOf f.type)) = some d ∧ Light d.1 f.type) → ∃ y, R (fun _ => True) W (cs.drop off) y
theorem opensFs_last {α : Type} {R : Rep α} {f : Field} {off total : Nat} (ho : f.offset = off) (ht : off + Tryz.prog.cellsOf f.type = total) (h : Opens R f.type) : OpensFs [f] off total R := by
  intro H enc W base n sp held cs hl hf
  obtain ⟨d, h1, h2⟩ := hf 0 f rfl
  rw [ho, List.take_of_length_le (by rw [List.length_drop]; omega)] at h1
  exact h h1 h2
theorem opensFs_cons {α β : Type} {R : Rep α} {S : Rep β} {f : Field} {fs : List Field} {off m total : Nat} (ho : f.offset = off) (hm : off + Tryz.prog.cellsOf f.type = m) (h : Opens R f.type) (hs : OpensFs fs m total S) : OpensFs (f :: fs) off total (RPair R S) := by
  intro H enc W base n sp held cs hl hf
  obtain ⟨d, h1, h2⟩ := hf 0 f rfl
  rw [ho] at h1
  obtain ⟨y, hy⟩ := h h1 h2
  obtain ⟨z, hz⟩ := hs (cs := cs) hl (fun j g hg => hf (j + 1) g (by simpa using hg))
  refine ⟨(y, z), (cs.drop off).take (Tryz.prog.cellsOf f.type), cs.drop m, ?_, hy, hz⟩
  rw [← hm, ← List.drop_drop]
  exact (List.take_append_drop _ _).symm
theorem opens_struct {α : Type} {R : Rep α} {t : TypeId} {fs : Array Field} {total : Nat} (hu : Tryz.prog.underlying t = some (.struct fs)) (hc : Tryz.prog.cellsOf t = total) (h : OpensFs fs.toList 0 total R) : Opens R t := by
  intro H enc W base n sp held cs x hx hl
  obtain ⟨xs, m, _, rfl, hlen, hxs, hf⟩ := DataW.trod_struct hu hx
  have := h (enc := enc) (W := W) (base := base) (n := m) (sp := sp) (held := held) (cs := cs) (by rw [hlen, hc]) (fun j f hj => by
    have hj' : fs[j]? = some f := by simpa using hj
    have h1 := hf j f hj'
    have hlt : j < xs.length := by
      have := (Array.getElem?_eq_some_iff.1 hj').1
      omega
    have h2 : xs[j]? = some xs[j] := List.getElem?_eq_getElem hlt
    rw [h2] at h1
    refine ⟨xs[j], h1, light_struct hu hl (j := j) (by simp [hj']) (by simp [h2])⟩)
  simpa using this
theorem arg_agg {P : Program} {t : TypeId} {fs : Array Field} (hu : P.underlying t = some (.struct fs)) {H : Type} {enc : TypeId × Value → H} {W : World} {base b0 : Nat} {r : Reach} {sp : Nat → Bool} {held : Bool} {v : Value} {d : DataW H} {p : List MemPlace}
    (hv : Value.okWide P W r b0 t v) (hd : DataW.Trod enc P W base sp held t v d p) : ∃ (cs : Array Value) (fuel : Nat), v = .agg cs ∧ DataW.trod enc P W base sp held fuel t cs.toList = some (d, p) := by
  obtain ⟨cs, rfl, _⟩ := okWide_struct hu hv
  obtain ⟨fuel, hf⟩ := hd
  exact ⟨cs, fuel, rfl, hf⟩
set_option maxRecDepth 100000 in
/-- A struct that is handed in. -/
theorem opens_arg {α : Type} {R : Rep α} {t : TypeId} {fs : Array Field} (hu : Tryz.prog.underlying t = some (.struct fs)) (h : Opens R t) {H : Type} {enc : TypeId × Value → H} {W : World} {base b0 : Nat} {r : Reach} {sp : Nat → Bool} {held : Bool} {v : Value} {d : DataW H} {p : List MemPlace}
    (hv : Value.okWide Tryz.prog W r b0 t v) (hd : DataW.Trod enc Tryz.prog W base sp held t v d p) (hl : Light d t) : ∃ cs y, v = .agg cs ∧ R (fun _ => True) W cs.toList y := by
  obtain ⟨cs, fuel, e, hf⟩ := arg_agg hu hv hd
  obtain ⟨y, hy⟩ := h hf hl
  exact ⟨cs, y, e, hy⟩
end Go.Proofs.YtbmejaailhjgfaaGreat
namespace Go.Proofs.YtbmejaailhjgfaaGreat
open Go.ChangeShapes Go.WideShapes Go.ChangeAt Go.RowKit
set_option linter.unusedSimpArgs false

/-- A number of Go's. -/
def RIW : Rep Int := fun _ _ cs n => cs = [.int .i64 n] ∧ -9223372036854775808 ≤ n ∧ n ≤ 9223372036854775807
theorem opens_IW : Opens RIW 3 := by
  intro H enc W base n sp held cs x h _
  obtain ⟨e, e1, _, hw⟩ := DataW.trod_int Tryz.underlying3 h
  refine ⟨e, e1, ?_⟩
  simp [Lit.wf, IntKind.max, IntKind.min, IntKind.bits, IntKind.signed] at hw
  omega
def RWtB : Rep WtD := RPair RStr (RPair RInt (RPair RInt (RPair RIW RInt)))
theorem opens_WtB : Opens RWtB 31 := opens_struct (total := 5) Tryz.underlying31 (by kernel_rfl) (opensFs_cons (m := 1) rfl (by kernel_rfl) opens_str (opensFs_cons (m := 2) rfl (by kernel_rfl) opens_int (opensFs_cons (m := 3) rfl (by kernel_rfl) opens_int (opensFs_cons (m := 4) rfl (by kernel_rfl) opens_IW (opensFs_last rfl (by kernel_rfl) opens_int)))))
/-- What waits, as a whole. -/
def WtOk (x : WtD) : Prop := okS x.1 ∧ -9223372036854775808 ≤ x.2.2.2.1 ∧ x.2.2.2.1 ≤ 9223372036854775807
theorem RWtB.all {A : Where} {w : World} {cs : List Value} {x : WtD} (h : RWtB A w cs x) : cs = wtC x ∧ WtOk x := by
  obtain ⟨c0, d0, rfl, ⟨rfl, h0⟩, c1, d1, rfl, rfl, c2, d2, rfl, rfl, c3, d3, rfl, ⟨rfl, h3, h4⟩, h5⟩ := h
  obtain rfl : d3 = [.int .i64 x.2.2.2.2] := h5
  exact ⟨rfl, h0, h3, h4⟩
end Go.Proofs.YtbmejaailhjgfaaGreat
namespace Go.Proofs.YtbmejaailhjgfaaGreat
open Go.ChangeShapes Go.WideShapes Go.ChangeAt Go.RowKit

theorem opens_s_str : Opens (RSl RStr 1 16) 47 := opens_slice RStr.firm Tryz.underlying47 (by kernel_rfl) (by kernel_rfl) (by decide) opens_str
theorem opens_s_int : Opens (RSl RInt 1 8) 120 := opens_slice RInt.firm Tryz.underlying120 (by kernel_rfl) (by kernel_rfl) (by decide) opens_int
end Go.Proofs.YtbmejaailhjgfaaGreat
namespace Go.Proofs.YtbmejaailhjgfaaGreat
open Go.RowKit
set_option linter.unusedSimpArgs false


abbrev InfoD := NodeD × List ByteArray × ResD × List Int × List ByteArray
def RInfo : Rep InfoD := RPair RNode (RPair (RSl RStr 1 16) (RPair RRes (RPair (RSl RInt 1 8) (RSl RStr 1 16))))
theorem RInfo.firm : Firm RInfo 15 := Firm.pair RNode.firm (Firm.pair (RSl.firm RStr.firm) (Firm.pair RRes.firm (Firm.pair (RSl.firm RInt.firm) ((RSl.firm RStr.firm)))))
theorem RInfo.out {A : Where} {w : World} {cs : List Value} {x : InfoD} (h : RInfo A w cs x) : ∃ h1 h2 h9 h13 h14 : Hd, cs = [.string x.1.1, .slice h1.1 h1.2.1 h1.2.2, .slice h2.1 h2.2.1 h2.2.2, .bool x.1.2.2.2.1, .int .i64 x.1.2.2.2.2.1.1, .int .i64 x.1.2.2.2.2.1.2.1, .int .i64 x.1.2.2.2.2.1.2.2, .int .i64 x.1.2.2.2.2.2.1, .int .i64 x.1.2.2.2.2.2.2, .slice h9.1 h9.2.1 h9.2.2, .int .i64 x.2.2.1.1, .int .i64 x.2.2.1.2.1, .int .i64 x.2.2.1.2.2, .slice h13.1 h13.2.1 h13.2.2, .slice h14.1 h14.2.1 h14.2.2] ∧ x.1.1.size ≤ 140737488355328 ∧ SlAt RLabel 2 32 A w h1.1 h1.2.1 h1.2.2 x.1.2.1 ∧ SlAt RTaint 3 40 A w h2.1 h2.2.1 h2.2.2 x.1.2.2.1 ∧ SlAt RStr 1 16 A w h9.1 h9.2.1 h9.2.2 x.2.1 ∧ SlAt RInt 1 8 A w h13.1 h13.2.1 h13.2.2 x.2.2.2.1 ∧ SlAt RStr 1 16 A w h14.1 h14.2.1 h14.2.2 x.2.2.2.2 := by
  obtain ⟨l_0, r_0, q_0, f_0, g_0⟩ := h
  obtain ⟨l_0_0, r_0_0, q_0_0, f_0_0, g_0_0⟩ := f_0
  obtain ⟨e_0_0, s_0_0⟩ := f_0_0
  obtain ⟨l_0_1, r_0_1, q_0_1, f_0_1, g_0_1⟩ := g_0_0
  obtain ⟨a_0_1, n_0_1, c_0_1, e_0_1, s_0_1⟩ := f_0_1
  obtain ⟨l_0_2, r_0_2, q_0_2, f_0_2, g_0_2⟩ := g_0_1
  obtain ⟨a_0_2, n_0_2, c_0_2, e_0_2, s_0_2⟩ := f_0_2
  obtain ⟨l_0_3, r_0_3, q_0_3, f_0_3, g_0_3⟩ := g_0_2
  have e_0_3 := f_0_3
  obtain ⟨l_0_4, r_0_4, q_0_4, f_0_4, g_0_4⟩ := g_0_3
  obtain ⟨l_0_4_0, r_0_4_0, q_0_4_0, f_0_4_0, g_0_4_0⟩ := f_0_4
  have e_0_4_0 := f_0_4_0
  obtain ⟨l_0_4_1, r_0_4_1, q_0_4_1, f_0_4_1, g_0_4_1⟩ := g_0_4_0
  have e_0_4_1 := f_0_4_1
  have e_0_4_2 := g_0_4_1
  obtain ⟨l_0_5, r_0_5, q_0_5, f_0_5, g_0_5⟩ := g_0_4
  have e_0_5 := f_0_5
  have e_0_6 := g_0_5
  obtain ⟨l_1, r_1, q_1, f_1, g_1⟩ := g_0
  obtain ⟨a_1, n_1, c_1, e_1, s_1⟩ := f_1
  obtain ⟨l_2, r_2, q_2, f_2, g_2⟩ := g_1
  obtain ⟨l_2_0, r_2_0, q_2_0, f_2_0, g_2_0⟩ := f_2
  have e_2_0 := f_2_0
  obtain ⟨l_2_1, r_2_1, q_2_1, f_2_1, g_2_1⟩ := g_2_0
  have e_2_1 := f_2_1
  have e_2_2 := g_2_1
  obtain ⟨l_3, r_3, q_3, f_3, g_3⟩ := g_2
  obtain ⟨a_3, n_3, c_3, e_3, s_3⟩ := f_3
  obtain ⟨a_4, n_4, c_4, e_4, s_4⟩ := g_3
  exact ⟨(a_0_1, n_0_1, c_0_1), (a_0_2, n_0_2, c_0_2), (a_1, n_1, c_1), (a_3, n_3, c_3), (a_4, n_4, c_4), by rw [q_0, q_0_0, e_0_0, q_0_1, e_0_1, q_0_2, e_0_2, q_0_3, e_0_3, q_0_4, q_0_4_0, e_0_4_0, q_0_4_1, e_0_4_1, e_0_4_2, q_0_5, e_0_5, e_0_6, q_1, e_1, q_2, q_2_0, e_2_0, q_2_1, e_2_1, e_2_2, q_3, e_3, e_4]; rfl, s_0_0, s_0_1, s_0_2, s_1, s_3, s_4⟩
theorem RInfo.mk {A : Where} {w : World} {x : InfoD} {h1 h2 h9 h13 h14 : Hd} (p0 : x.1.1.size ≤ 140737488355328) (p1 : SlAt RLabel 2 32 A w h1.1 h1.2.1 h1.2.2 x.1.2.1) (p2 : SlAt RTaint 3 40 A w h2.1 h2.2.1 h2.2.2 x.1.2.2.1) (p3 : SlAt RStr 1 16 A w h9.1 h9.2.1 h9.2.2 x.2.1) (p4 : SlAt RInt 1 8 A w h13.1 h13.2.1 h13.2.2 x.2.2.2.1) (p5 : SlAt RStr 1 16 A w h14.1 h14.2.1 h14.2.2 x.2.2.2.2) : RInfo A w [.string x.1.1, .slice h1.1 h1.2.1 h1.2.2, .slice h2.1 h2.2.1 h2.2.2, .bool x.1.2.2.2.1, .int .i64 x.1.2.2.2.2.1.1, .int .i64 x.1.2.2.2.2.1.2.1, .int .i64 x.1.2.2.2.2.1.2.2, .int .i64 x.1.2.2.2.2.2.1, .int .i64 x.1.2.2.2.2.2.2, .slice h9.1 h9.2.1 h9.2.2, .int .i64 x.2.2.1.1, .int .i64 x.2.2.1.2.1, .int .i64 x.2.2.1.2.2, .slice h13.1 h13.2.1 h13.2.2, .slice h14.1 h14.2.1 h14.2.2] x :=
  ⟨_, _, rfl, ⟨_, _, rfl, ⟨rfl, p0⟩, ⟨_, _, rfl, ⟨h1.1, h1.2.1, h1.2.2, rfl, p1⟩, ⟨_, _, rfl, ⟨h2.1, h2.2.1, h2.2.2, rfl, p2⟩, ⟨_, _, rfl, rfl, ⟨_, _, rfl, ⟨_, _, rfl, rfl, ⟨_, _, rfl, rfl, rfl⟩⟩, ⟨_, _, rfl, rfl, rfl⟩⟩⟩⟩⟩⟩, ⟨_, _, rfl, ⟨h9.1, h9.2.1, h9.2.2, rfl, p3⟩, ⟨_, _, rfl, ⟨_, _, rfl, rfl, ⟨_, _, rfl, rfl, rfl⟩⟩, ⟨_, _, rfl, ⟨h13.1, h13.2.1, h13.2.2, rfl, p4⟩, ⟨h14.1, h14.2.1, h14.2.2, rfl, p5⟩⟩⟩⟩⟩
end Go.Proofs.YtbmejaailhjgfaaGreat
namespace Go.Proofs.YtbmejaailhjgfaaGreat

/-- What a number counts as. -/
def clampI (a : Int) : Int := if a < 0 then 0 else if 1125899906842624 < a then 1125899906842624 else a
theorem clampI_ge (a : Int) : 0 ≤ clampI a := by unfold clampI; split <;> (try split) <;> omega
theorem clampI_le (a : Int) : clampI a ≤ 1125899906842624 := by unfold clampI; split <;> (try split) <;> omega
theorem clampI_id {a : Int} (h0 : 0 ≤ a) (h1 : a ≤ 1125899906842624) : clampI a = a := by unfold clampI; rw [if_neg (by omega), if_neg (by omega)]
theorem clampI_neg {a : Int} (h : a < 0) : clampI a = 0 := by unfold clampI; rw [if_pos h]
theorem clampI_big {a : Int} (h : 1125899906842624 < a) : clampI a = 1125899906842624 := by unfold clampI; rw [if_neg (by omega), if_pos h]

def addI (a b : Int) : Int := clampI (clampI a + clampI b)
def subI (a b : Int) : Int := clampI (clampI a - clampI b)
theorem addI_ge (a b : Int) : 0 ≤ addI a b := clampI_ge _
theorem addI_le (a b : Int) : addI a b ≤ 1125899906842624 := clampI_le _
theorem subI_ge (a b : Int) : 0 ≤ subI a b := clampI_ge _
theorem subI_le (a b : Int) : subI a b ≤ 1125899906842624 := clampI_le _
theorem clampI_addI (a b : Int) : clampI (addI a b) = addI a b := clampI_id (addI_ge a b) (addI_le a b)
theorem clampI_subI (a b : Int) : clampI (subI a b) = subI a b := clampI_id (subI_ge a b) (subI_le a b)
theorem clampI_clampI (a : Int) : clampI (clampI a) = clampI a := clampI_id (clampI_ge a) (clampI_le a)
theorem addI_def (a b : Int) : addI a b = if 1125899906842624 < clampI a + clampI b then 1125899906842624 else clampI a + clampI b := by
  have h1 := clampI_ge a; have h2 := clampI_ge b
  unfold addI
  rw [clampI, if_neg (by omega)]
theorem subI_def (a b : Int) : subI a b = if clampI a < clampI b then 0 else clampI a - clampI b := by
  have h1 := clampI_ge a; have h2 := clampI_ge b; have h3 := clampI_le a; have h4 := clampI_le b
  unfold subI
  rw [clampI]
  split <;> rename_i h
  · rw [if_pos (by omega)]
  · rw [if_neg (by omega), if_neg (by omega)]
theorem addI_comm (a b : Int) : addI a b = addI b a := by unfold addI; rw [Int.add_comm]
theorem addI_assoc (a b c : Int) : addI (addI a b) c = addI a (addI b c) := by
  have h1 := clampI_ge a; have h2 := clampI_ge b; have h3 := clampI_ge c
  have h4 := clampI_le a; have h5 := clampI_le b; have h6 := clampI_le c
  rw [addI_def (addI a b) c, addI_def a (addI b c), clampI_addI, clampI_addI, addI_def a b, addI_def b c]
  split <;> split <;> split <;> (try split) <;> omega
theorem subI_addI (a b : Int) (h : addI a b ≠ 1125899906842624) : subI (addI a b) b = clampI a := by
  have h1 := clampI_ge a; have h2 := clampI_ge b; have h4 := clampI_le a
  rw [subI_def, clampI_addI]
  rw [addI_def] at h ⊢
  split at h
  · omega
  · rename_i h0
    rw [if_neg h0, if_neg (by omega)]
    omega

/-- A number, times a number, at most MaxAmount. -/
def timesI (a n : Int) : Int := if 1125899906842624 < clampI a * clampI n then 1125899906842624 else clampI a * clampI n
/-- A share. -/
def scaleI (c : Int) : Int := if c < 0 then 0 else if 1000 < c then 1000 else c
theorem scaleI_ge (a : Int) : 0 ≤ scaleI a := by unfold scaleI; split <;> (try split) <;> omega
theorem scaleI_le (a : Int) : scaleI a ≤ 1000 := by unfold scaleI; split <;> (try split) <;> omega
def shareI (a b c : Int) : Int := if clampI b = 0 then 0 else if scaleI c < clampI a * scaleI c / clampI b then scaleI c else clampI a * scaleI c / clampI b
end Go.Proofs.YtbmejaailhjgfaaGreat
namespace Go.Proofs.YtbmejaailhjgfaaGreat
open Go.RowKit
set_option linter.unusedSimpArgs false

def plusR (a b : ResD) : ResD := (addI a.1 b.1, addI a.2.1 b.2.1, addI a.2.2 b.2.2)
def minusR (a b : ResD) : ResD := (subI a.1 b.1, subI a.2.1 b.2.1, subI a.2.2 b.2.2)
def pWant (p : PodD) : ResD := p.2.2.2.1
def pPorts (p : PodD) : List Int := p.2.2.2.2.2.2.2.1
def pClaims (p : PodD) : List ByteArray := p.2.2.2.2.2.2.2.2.2.2.2.1
def pNode (p : PodD) : ByteArray := p.2.2.2.2.2.2.2.2.2.2.2.2.1
abbrev AccD := List ByteArray × ResD × List Int × List ByteArray
def ofStep (s : AccD) (p : PodD) : AccD := if hasB sEq s.1 p.1 = true then s else (s.1 ++ [p.1], plusR s.2.1 (pWant p), s.2.2.1 ++ pPorts p, s.2.2.2 ++ pClaims p)
def ofAcc (L : List PodD) : AccD := L.foldl ofStep ([], (0, 0, 0), [], [])
def accInfo (n : NodeD) (s : AccD) : InfoD := (n, sortB sLt sEq s.1, s.2.1, sortB iLt iEq s.2.2.1, sortB sLt sEq s.2.2.2)
def ofP (n : NodeD) (L : List PodD) : InfoD := accInfo n (ofAcc L)
def addP (i : InfoD) (p : PodD) : InfoD := (i.1, sortB sLt sEq (i.2.1 ++ [p.1]), plusR i.2.2.1 (pWant p), sortB iLt iEq (i.2.2.2.1 ++ pPorts p), sortB sLt sEq (i.2.2.2.2 ++ pClaims p))
def restP (i : InfoD) (p : PodD) (rest : List PodD) : List PodD := rest.filter fun q => !sEq q.1 p.1 && hasB sEq i.2.1 q.1
def freeP (i : InfoD) : ResD := minusR i.1.2.2.2.2.1 i.2.2.1
def clashP (i : InfoD) (p : PodD) : Bool := (pPorts p).any fun q => hasB iEq i.2.2.2.1 q
def sumBy {α : Type} (f : α → Nat) (L : List α) : Nat := (L.map f).sum
/-- What the pods' ports and claims take together is within what an append may ask. -/
def FitsP (L : List PodD) : Prop := sumBy (fun p => (pPorts p).length) L * 8 ≤ 140737488351232 ∧ sumBy (fun p => (pClaims p).length) L * 16 ≤ 140737488351232
theorem acc_succ (L : List PodD) {k : Nat} (hk : k < L.length) : ofAcc (L.take (k + 1)) = ofStep (ofAcc (L.take k)) (L.getD k default) := by
  rw [← take_at hk]; simp [ofAcc]
theorem sumBy_append {α : Type} (f : α → Nat) (L M : List α) : sumBy f (L ++ M) = sumBy f L + sumBy f M := by simp [sumBy]
theorem sumBy_take {α : Type} (f : α → Nat) (L : List α) (k : Nat) : sumBy f (L.take k) ≤ sumBy f L := by
  have := sumBy_append f (L.take k) (L.drop k)
  rw [List.take_append_drop] at this
  omega
theorem acc_len (L : List PodD) : ∀ k, k ≤ L.length → (ofAcc (L.take k)).1.length ≤ k ∧ (ofAcc (L.take k)).2.2.1.length ≤ sumBy (fun p => (pPorts p).length) (L.take k) ∧ (ofAcc (L.take k)).2.2.2.length ≤ sumBy (fun p => (pClaims p).length) (L.take k) := by
  intro k
  induction k with
  | zero => intro _; simp [ofAcc, sumBy]
  | succ k ih =>
    intro hk
    obtain ⟨h1, h2, h3⟩ := ih (by omega)
    rw [acc_succ L (by omega), ← take_at (show k < L.length by omega), sumBy_append, sumBy_append]
    unfold ofStep
    split
    · exact ⟨by omega, by omega, by omega⟩
    · simp only [List.length_append, List.length_singleton]
      simp only [sumBy, List.map_cons, List.map_nil, List.sum_cons, List.sum_nil] at h2 h3 ⊢
      exact ⟨by omega, by omega, by omega⟩
theorem acc_fits {L : List PodD} (h : FitsP L) {k : Nat} (hk : k < L.length) : ((ofAcc (L.take k)).2.2.1.length + (pPorts (L.getD k default)).length) * 8 ≤ 140737488351232 ∧ ((ofAcc (L.take k)).2.2.2.length + (pClaims (L.getD k default)).length) * 16 ≤ 140737488351232 := by
  obtain ⟨_, h2, h3⟩ := acc_len L k (by omega)
  have e1 := sumBy_take (fun p => (pPorts p).length) L (k + 1)
  have e2 := sumBy_take (fun p => (pClaims p).length) L (k + 1)
  rw [← take_at hk, sumBy_append] at e1 e2
  simp only [sumBy, List.map_cons, List.map_nil, List.sum_cons, List.sum_nil] at e1 e2 h2 h3 h
  obtain ⟨h4, h5⟩ := h
  simp only [sumBy] at h4 h5
  exact ⟨by omega, by omega⟩
theorem acc_fits' {L : List PodD} (h : FitsP L) : (ofAcc L).2.2.1.length * 8 ≤ 140737488351232 ∧ (ofAcc L).2.2.2.length * 16 ≤ 140737488351232 := by
  obtain ⟨_, h2, h3⟩ := acc_len L L.length (Nat.le_refl _)
  rw [List.take_of_length_le (Nat.le_refl _)] at h2 h3
  obtain ⟨h4, h5⟩ := h
  exact ⟨by omega, by omega⟩
end Go.Proofs.YtbmejaailhjgfaaGreat
