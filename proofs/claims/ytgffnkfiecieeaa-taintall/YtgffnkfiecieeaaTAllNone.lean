/- The law TaintAll holds of the program: one that bears all is kept off nowhere, and shies at nothing; the chapter's example comes out. For every input; no condition. -/
import Derived.Test.YtgffnkfiecieeaaTAllBase
namespace Go.Proofs.Ytgffnkfiecieeaa.taintAll
open Go.ChangeShapes Go.WideShapes Go.ChangeAt Go.RowKit
set_option linter.unusedSimpArgs false

set_option maxHeartbeats 4000000 in
theorem walk_none (a : Option Addr) (cap : Nat) (L : List Tnt) (n : Int) (w : World) (hL : Hid (TntsAt w a L)) :
    Calls Try.prog 6 #[.slice a L.length cap, .slice none 0 0, .int .i64 n] w fun e w' => e = .returned (.bool true) ∧ Below w.heap.size w w' := by
  have hAm := Among_calls n 1 (by omega) (by omega)
  have hwk := works_calls w
  have hL' : Hid (∀ {u : World}, Below w.heap.size w u → TntsAt u a L) := fun h => hL.out.on h
  have hq : ∀ u, Sem.run Try.prog (binOp .eql 32 (.agg #[.string ⟨#[]⟩, .string ⟨#[]⟩, .int .i64 0]) (.agg #[.string ⟨#[]⟩, .string ⟨#[]⟩, .int .i64 0])) u = .ok (.bool true) u := fun u => (eqT (⟨#[]⟩, ⟨#[]⟩, 0) (⟨#[]⟩, ⟨#[]⟩, 0) u).trans (by rw [tEq_self])
  have hgd := guardT
  clear hL
  go_enter Try.func6, Try.ntmps6
  go_wp2_with fail
  refine hwk.mono ?_
  rintro e w3 ⟨rfl, hb3⟩
  clear hwk
  go_wp2_with fail
  refine (hAm _).mono ?_
  rintro e w4 ⟨⟨k, rfl, hk⟩, rfl⟩
  clear hAm
  have hb4 := hb3
  go_wp2_with fail
  refine wp_region_noPanic ?_
  have hk2 : (k : Int) ≤ (0 : Int) := by omega
  have hk0 : (0 : Int) ≤ (k : Int) := by omega
  have hkl : Hid (0 * 48 ≤ 140737488351232 ∧ k ≤ 0) := ⟨by omega, by omega⟩
  obtain rfl : k = 0 := by omega
  have HLs : Hid (∀ z ∈ ([] : List Bear), okB z) := fun z hz => by simp at hz
  have HCp : Hid (∀ u, Below w.heap.size w u → Calls Try.prog 12 #[.slice none 0 0] u fun e w' => ∃ v, e = .returned v ∧ Own u w' 38 4 v ([] : List Bear).length (flatE encB ([] : List Bear))) := fun u hu => bears_calls none 0 [] u (RowAt.nil u none) (by simp)
  have HDl : Hid (([] : List Bear).length = 0) := rfl
  have HCap : Hid ((none : Option Addr) = none → (0 : Nat) = 0) := fun _ => rfl
  have HDrop : Hid (∀ {u : World}, Below w.heap.size w u → BearsAt u none ([] : List Bear)) := fun {u} _ => RowAt.nil u none
  have HSz : Hid (∀ z ∈ ([] : List Bear) ++ [allB] ++ ([] : List Bear), okB z) := by
    intro z hz
    simp only [List.mem_append, List.mem_singleton] at hz
    rcases hz with (hz | rfl) | hz
    · exact HLs.out z (hz)
    · exact ⟨by decide, by decide⟩
    · exact HLs.out z (hz)
  have HM1 : Hid (∀ (d : Option Addr) (capd nm : Nat) (u : World), Hid ((([] : List Bear) ++ [allB] ++ ([] : List Bear)).length = nm) → BearsAt u d (([] : List Bear) ++ [allB] ++ ([] : List Bear)) → Below w.heap.size w u → Calls Try.prog 15 #[.slice a L.length cap, .slice d nm capd] u fun e w' => e = .returned (.tuple #[.agg #[.string ⟨#[]⟩, .string ⟨#[]⟩, .int .i64 0], .bool false]) ∧ Below u.heap.size u w') := fun d capd nm u hn h1 h2 => by
    have := Kept_calls a cap L d capd (([] : List Bear) ++ [allB] ++ ([] : List Bear)) u (hL'.out h2) h1
    rw [kept_all, hn.out] at this
    exact this
  have HM2 : Hid (∀ (d : Option Addr) (capd nm : Nat) (u : World), Hid ((([] : List Bear) ++ [allB] ++ ([] : List Bear)).length = nm) → BearsAt u d (([] : List Bear) ++ [allB] ++ ([] : List Bear)) → Below w.heap.size w u → Calls Try.prog 17 #[.slice a L.length cap, .slice d nm capd] u fun e w' => e = .returned (.int .i64 0) ∧ Below u.heap.size u w') := fun d capd nm u hn h1 h2 => by
    have := Shy_calls a cap L d capd (([] : List Bear) ++ [allB] ++ ([] : List Bear)) u (hL'.out h2) h1
    rw [shy_all, hn.out] at this
    exact this
  skip
  refine wp_region_held_drew (S := Below w.heap.size w) (by kernel_rfl) (hb4.drew) (fun hHeld => ?_)
  refine wpAnyH_take (i := 0) (v := ?vaz0) rfl (by kernel_rfl) (by kernel_rfl) (by kernel_rfl) (fun _ _ _ h => h) (Or.inl ⟨by rfl, ?hyaz0⟩) (by assumption) ?restaz0
  case hyaz0 => (intro u hu; skip; go_simp; try with_reducible rfl)
  try simp only [Act.put, List.setIfInBounds_toArray, List.set_cons_zero, List.set_cons_succ, List.getElem_toArray, List.getElem_cons_zero, List.getElem_cons_succ]
  refine wpAnyH_take (i := 1) (v := ?vaz1) rfl (by kernel_rfl) (by kernel_rfl) (by kernel_rfl) (fun _ _ _ h => h) (Or.inl ⟨by rfl, ?hyaz1⟩) (by assumption) ?restaz1
  case hyaz1 => (intro u hu; skip; go_simp; try with_reducible rfl)
  try simp only [Act.put, List.setIfInBounds_toArray, List.set_cons_zero, List.set_cons_succ, List.getElem_toArray, List.getElem_cons_zero, List.getElem_cons_succ]
  refine wpAnyH_take (i := 2) (v := ?vaz2) rfl (by kernel_rfl) (by kernel_rfl) (by kernel_rfl) (fun _ _ _ h => h) (Or.inl ⟨by rfl, ?hyaz2⟩) (by assumption) ?restaz2
  case hyaz2 => (intro u hu; skip; go_simp; try with_reducible rfl)
  try simp only [Act.put, List.setIfInBounds_toArray, List.set_cons_zero, List.set_cons_succ, List.getElem_toArray, List.getElem_cons_zero, List.getElem_cons_succ]
  refine wpAnyH_take (i := 4) (v := ?vaz4) rfl (by kernel_rfl) (by kernel_rfl) (by kernel_rfl) (fun _ _ _ h => h) (Or.inl ⟨by rfl, ?hyaz4⟩) (by assumption) ?restaz4
  case hyaz4 => (intro u hu; skip; go_simp; try with_reducible rfl)
  try simp only [Act.put, List.setIfInBounds_toArray, List.set_cons_zero, List.set_cons_succ, List.getElem_toArray, List.getElem_cons_zero, List.getElem_cons_succ]
  refine wpAnyH_take (i := 7) (v := ?vaz7) rfl (by kernel_rfl) (by kernel_rfl) (by kernel_rfl) (fun _ _ _ h => h) (Or.inl ⟨by rfl, ?hyaz7⟩) (by assumption) ?restaz7
  case hyaz7 => (intro u hu; skip; go_simp; try with_reducible rfl)
  try simp only [Act.put, List.setIfInBounds_toArray, List.set_cons_zero, List.set_cons_succ, List.getElem_toArray, List.getElem_cons_zero, List.getElem_cons_succ]
  refine wpAnyH_take (i := 8) (v := ?vaz8) rfl (by kernel_rfl) (by kernel_rfl) (by kernel_rfl) (fun _ _ _ h => h) (Or.inl ⟨by rfl, ?hyaz8⟩) (by assumption) ?restaz8
  case hyaz8 => (intro u hu; skip; go_simp; try with_reducible rfl)
  try simp only [Act.put, List.setIfInBounds_toArray, List.set_cons_zero, List.set_cons_succ, List.getElem_toArray, List.getElem_cons_zero, List.getElem_cons_succ]
  refine wpAnyH_take (i := 9) (v := ?vaz9) rfl (by kernel_rfl) (by kernel_rfl) (by kernel_rfl) (fun _ _ _ h => h) (Or.inl ⟨by rfl, ?hyaz9⟩) (by assumption) ?restaz9
  case hyaz9 => (intro u hu; skip; go_simp; try with_reducible rfl)
  try simp only [Act.put, List.setIfInBounds_toArray, List.set_cons_zero, List.set_cons_succ, List.getElem_toArray, List.getElem_cons_zero, List.getElem_cons_succ]
  refine wpAnyH_ready (rs := [3, 5]) (by kernel_rfl) (by simp) ?_
  refine AllReadyH.cons rfl (fun K hK => ?_) (AllReadyH.cons rfl (fun K hK => ?_) AllReadyH.nil)
  · go_simp
    refine (HCp.out _ hHeld).mono ?_
    rintro e w6 ⟨v6, rfl, hO6⟩
    have hO6w : Own w w6 38 4 v6 (([] : List Bear)).length (flatE encB (([] : List Bear))) := ⟨on2 hHeld hO6.1, Go.Joins.ownsRow_le hO6.2 hHeld.size⟩
    have hb6 := hO6.1
    clear hO6
    go_wp2_with fail
    refine hK.out _ _ hO6w.1 (fun hHeld2 => ?_)
    clear hK K hHeld
    have hHeld := hHeld2
    clear hHeld2
    try simp only [Act.put, List.setIfInBounds_toArray, List.set_cons_zero, List.set_cons_succ, List.getElem_toArray, List.getElem_cons_zero, List.getElem_cons_succ]
    refine wpAnyH_ready (rs := [5]) (by kernel_rfl) (by simp) ?_
    refine AllReadyH.cons rfl (fun K hK => ?_) AllReadyH.nil
    go_simp
    refine hK.out _ _ (on2 hHeld ((Below.refl _ _).alloc (Nat.le_refl _) _)) (fun hHeld2 => ?_)
    clear hK K hHeld
    have hHeld := hHeld2
    clear hHeld2
    try simp only [Act.put, List.setIfInBounds_toArray, List.set_cons_zero, List.set_cons_succ, List.getElem_toArray, List.getElem_cons_zero, List.getElem_cons_succ]
    refine wpAnyH_ready (rs := [6]) (by kernel_rfl) (by simp) ?_
    refine AllReadyH.cons rfl (fun K hK => ?_) AllReadyH.nil
    refine append_rowO (ok := okB) encB_len encB_one (w0 := w) _ _ 23 38 rfl _ 48 infoB Try.underlying23 rfl (by decide) (by decide) v6 (([] : List Bear)) rfl (hO6w.on (by go_grown)) (some ⟨w6.heap.size, 0, none⟩) 1 1 [allB] rfl rfl (fun h => by cases h) (bear_one _ _) (by simp) ?_
    intro v7 w7 hO7 _
    refine hK.out _ _ hO7.1 (fun hHeld2 => ?_)
    clear hK K hHeld
    have hHeld := hHeld2
    clear hHeld2
    try simp only [Act.put, List.setIfInBounds_toArray, List.set_cons_zero, List.set_cons_succ, List.getElem_toArray, List.getElem_cons_zero, List.getElem_cons_succ]
    refine wpAnyH_ready (rs := [10]) (by kernel_rfl) (by simp) ?_
    refine AllReadyH.cons rfl (fun K hK => ?_) AllReadyH.nil
    refine append_rowO (ok := okB) encB_len encB_one (w0 := w) _ _ 23 38 rfl _ 48 infoB Try.underlying23 rfl (by decide) (by decide) v7 (([] : List Bear) ++ [allB]) rfl hO7 (none) (0) (0) (([] : List Bear)) (HDl.out) rfl (fun h => by first | rfl | cases h) (HDrop.out hO7.1) (by simp) ?_
    intro v8 w8 hO8 _
    refine hK.out _ _ hO8.1 (fun hHeld2 => ?_)
    clear hK K hHeld
    have hHeld := hHeld2
    clear hHeld2
    try simp only [Act.put, List.setIfInBounds_toArray, List.set_cons_zero, List.set_cons_succ, List.getElem_toArray, List.getElem_cons_zero, List.getElem_cons_succ]
    refine wpAnyH_take (i := 11) (v := ?vzpz) rfl (by kernel_rfl) (by kernel_rfl) (by kernel_rfl) (fun _ _ _ h => h) (Or.inl ⟨by rfl, ?hyzpz⟩) (by assumption) ?restzpz
    case hyzpz => (intro u hu; skip; go_simp; try with_reducible rfl)
    try simp only [Act.put, List.setIfInBounds_toArray, List.set_cons_zero, List.set_cons_succ, List.getElem_toArray, List.getElem_cons_zero, List.getElem_cons_succ]
    refine wpAnyH_done (by kernel_rfl) ?_ _
    refine NoPanic.normal ?_
    obtain ⟨d, capd, hv8, hat, _⟩ := row_of_owns (ok := okB) encB_len hO8.2 (by simp) HSz.out
    obtain ⟨nm, hnm⟩ : ∃ nm, Hid ((([] : List Bear) ++ [allB] ++ ([] : List Bear)).length = nm) := ⟨_, rfl⟩
    rw [hnm.out] at hv8
    subst hv8
    have hb8 : Below w.heap.size w w8 := hO8.1
    have hat8 : Hid (BearsAt w8 d (([] : List Bear) ++ [allB] ++ ([] : List Bear))) := hat
    clear hO8 hO7 hHeld hat
    go_wp2_with fail
    refine (HM1.out d capd nm _ hnm hat8.out hb8).mono ?_
    rintro e w10 ⟨rfl, hb10⟩
    have hb11 := on2 hb10 ((Below.refl _ _).alloc (Nat.le_refl _) (.cells #[.string ⟨#[]⟩, .string ⟨#[]⟩, .int .i64 0] 32))
    go_wp2_with fail
    refine (HM2.out d capd nm _ hnm (hat8.out.on hb11) (on2 hb8 hb11)).mono ?_
    rintro e w12 ⟨rfl, hb12⟩
    go_wp2_with fail
    go_ret
    exact ⟨rfl, on2 hb8 (on2 hb11 hb12)⟩
  · go_simp
    refine hK.out _ _ (on2 hHeld ((Below.refl _ _).alloc (Nat.le_refl _) _)) (fun hHeld2 => ?_)
    clear hK K hHeld
    have hHeld := hHeld2
    clear hHeld2
    try simp only [Act.put, List.setIfInBounds_toArray, List.set_cons_zero, List.set_cons_succ, List.getElem_toArray, List.getElem_cons_zero, List.getElem_cons_succ]
    refine wpAnyH_ready (rs := [3]) (by kernel_rfl) (by simp) ?_
    refine AllReadyH.cons rfl (fun K hK => ?_) AllReadyH.nil
    go_simp
    refine (HCp.out _ hHeld).mono ?_
    rintro e w6 ⟨v6, rfl, hO6⟩
    have hO6w : Own w w6 38 4 v6 (([] : List Bear)).length (flatE encB (([] : List Bear))) := ⟨on2 hHeld hO6.1, Go.Joins.ownsRow_le hO6.2 hHeld.size⟩
    have hb6 := hO6.1
    clear hO6
    go_wp2_with fail
    refine hK.out _ _ hO6w.1 (fun hHeld2 => ?_)
    clear hK K hHeld
    have hHeld := hHeld2
    clear hHeld2
    try simp only [Act.put, List.setIfInBounds_toArray, List.set_cons_zero, List.set_cons_succ, List.getElem_toArray, List.getElem_cons_zero, List.getElem_cons_succ]
    refine wpAnyH_ready (rs := [6]) (by kernel_rfl) (by simp) ?_
    refine AllReadyH.cons rfl (fun K hK => ?_) AllReadyH.nil
    refine append_rowO (ok := okB) encB_len encB_one (w0 := w) _ _ 23 38 rfl _ 48 infoB Try.underlying23 rfl (by decide) (by decide) v6 (([] : List Bear)) rfl (hO6w) (some ⟨w4.heap.size, 0, none⟩) 1 1 [allB] rfl rfl (fun h => by cases h) ((bear_one w4.drew 38).on hb6) (by simp) ?_
    intro v7 w7 hO7 _
    refine hK.out _ _ hO7.1 (fun hHeld2 => ?_)
    clear hK K hHeld
    have hHeld := hHeld2
    clear hHeld2
    try simp only [Act.put, List.setIfInBounds_toArray, List.set_cons_zero, List.set_cons_succ, List.getElem_toArray, List.getElem_cons_zero, List.getElem_cons_succ]
    refine wpAnyH_ready (rs := [10]) (by kernel_rfl) (by simp) ?_
    refine AllReadyH.cons rfl (fun K hK => ?_) AllReadyH.nil
    refine append_rowO (ok := okB) encB_len encB_one (w0 := w) _ _ 23 38 rfl _ 48 infoB Try.underlying23 rfl (by decide) (by decide) v7 (([] : List Bear) ++ [allB]) rfl hO7 (none) (0) (0) (([] : List Bear)) (HDl.out) rfl (fun h => by first | rfl | cases h) (HDrop.out hO7.1) (by simp) ?_
    intro v8 w8 hO8 _
    refine hK.out _ _ hO8.1 (fun hHeld2 => ?_)
    clear hK K hHeld
    have hHeld := hHeld2
    clear hHeld2
    try simp only [Act.put, List.setIfInBounds_toArray, List.set_cons_zero, List.set_cons_succ, List.getElem_toArray, List.getElem_cons_zero, List.getElem_cons_succ]
    refine wpAnyH_take (i := 11) (v := ?vzqz) rfl (by kernel_rfl) (by kernel_rfl) (by kernel_rfl) (fun _ _ _ h => h) (Or.inl ⟨by rfl, ?hyzqz⟩) (by assumption) ?restzqz
    case hyzqz => (intro u hu; skip; go_simp; try with_reducible rfl)
    try simp only [Act.put, List.setIfInBounds_toArray, List.set_cons_zero, List.set_cons_succ, List.getElem_toArray, List.getElem_cons_zero, List.getElem_cons_succ]
    refine wpAnyH_done (by kernel_rfl) ?_ _
    refine NoPanic.normal ?_
    obtain ⟨d, capd, hv8, hat, _⟩ := row_of_owns (ok := okB) encB_len hO8.2 (by simp) HSz.out
    obtain ⟨nm, hnm⟩ : ∃ nm, Hid ((([] : List Bear) ++ [allB] ++ ([] : List Bear)).length = nm) := ⟨_, rfl⟩
    rw [hnm.out] at hv8
    subst hv8
    have hb8 : Below w.heap.size w w8 := hO8.1
    have hat8 : Hid (BearsAt w8 d (([] : List Bear) ++ [allB] ++ ([] : List Bear))) := hat
    clear hO8 hO7 hHeld hat
    go_wp2_with fail
    refine (HM1.out d capd nm _ hnm hat8.out hb8).mono ?_
    rintro e w10 ⟨rfl, hb10⟩
    have hb11 := on2 hb10 ((Below.refl _ _).alloc (Nat.le_refl _) (.cells #[.string ⟨#[]⟩, .string ⟨#[]⟩, .int .i64 0] 32))
    go_wp2_with fail
    refine (HM2.out d capd nm _ hnm (hat8.out.on hb11) (on2 hb8 hb11)).mono ?_
    rintro e w12 ⟨rfl, hb12⟩
    go_wp2_with fail
    go_ret
    exact ⟨rfl, on2 hb8 (on2 hb11 hb12)⟩
end Go.Proofs.Ytgffnkfiecieeaa.taintAll
