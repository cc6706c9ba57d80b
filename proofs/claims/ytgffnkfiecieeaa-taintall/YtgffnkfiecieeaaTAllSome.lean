/- The law TaintAll holds of the program: one that bears all is kept off nowhere, and shies at nothing; the chapter's example comes out. For every input; no condition. -/
import Derived.Test.YtgffnkfiecieeaaTAllBase
namespace Go.Proofs.Ytgffnkfiecieeaa.taintAll
open Go.ChangeShapes Go.WideShapes Go.ChangeAt Go.RowKit
set_option linter.unusedSimpArgs false

set_option maxHeartbeats 4000000 in
theorem walk_some (a : Option Addr) (cap : Nat) (L : List Tnt) (ad : Addr) (capb : Nat) (B : List Bear) (n : Int) (w : World) (hL : Hid (TntsAt w a L)) (hB : Hid (BearsAt w (some ad) B)) (hBb : B.length * 48 ≤ 140737488351232) (hcap : B.length ≤ capb) :
    Calls Try.prog 6 #[.slice a L.length cap, .slice (some ad) B.length capb, .int .i64 n] w fun e w' => e = .returned (.bool true) ∧ Below w.heap.size w w' := by
  have hAm := Among_calls n (B.length + 1) (by omega) (by omega)
  have hwk := works_calls w
  have hL' : Hid (∀ {u : World}, Below w.heap.size w u → TntsAt u a L) := fun h => hL.out.on h
  have hB' : Hid (∀ {u : World}, Below w.heap.size w u → BearsAt u (some ad) B) := fun h => hB.out.on h
  have hq : ∀ u, Sem.run Try.prog (binOp .eql 32 (.agg #[.string ⟨#[]⟩, .string ⟨#[]⟩, .int .i64 0]) (.agg #[.string ⟨#[]⟩, .string ⟨#[]⟩, .int .i64 0])) u = .ok (.bool true) u := fun u => (eqT (⟨#[]⟩, ⟨#[]⟩, 0) (⟨#[]⟩, ⟨#[]⟩, 0) u).trans (by rw [tEq_self])
  have hgd := guardT
  clear hL hB
  go_enter Try.func6, Try.ntmps6
  go_wp2_with fail
  refine hwk.mono ?_
  rintro e w3 ⟨rfl, hb3⟩
  clear hwk
  have hlen1 : IntKind.i64.wrap ((B.length : Int) + 1) = ((B.length + 1 : Nat) : Int) := by simp [IntKind.wrap, IntKind.bits, IntKind.signed]; omega
  go_wp2_with fail
  refine (hAm _).mono ?_
  rintro e w4 ⟨⟨k, rfl, hk⟩, rfl⟩
  clear hAm
  have hb4 := hb3
  go_wp2_with fail
  refine wp_region_noPanic ?_
  have hk2 : (k : Int) ≤ (B.length : Int) := by omega
  have hk0 : (0 : Int) ≤ (k : Int) := by omega
  have hkl : Hid (B.length * 48 ≤ 140737488351232 ∧ k ≤ B.length) := ⟨hBb, by omega⟩
  have hk1 : (k : Int) ≤ (capb : Int) := by omega
  have HLs : Hid (∀ z ∈ B, okB z) := (hB'.out (Below.refl _ _)).2.1
  have hl : Hid ((B.take k).length = k) := by rw [Hid, List.length_take]; omega
  have HCp : Hid (∀ u, Below w.heap.size w u → Calls Try.prog 12 #[.slice (some ad) k capb] u fun e w' => ∃ v, e = .returned v ∧ Own u w' 38 4 v (B.take k).length (flatE encB (B.take k))) := fun u hu => by
    have := bears_calls (some ad) capb (B.take k) u ((hB'.out hu).take k) (by rw [hl.out]; omega)
    have e3 : Value.slice (some ad) (B.take k).length capb = .slice (some ad) k capb := by rw [hl.out]
    rw [e3] at this
    exact this
  have HDl : Hid ((B.drop k).length = B.length - k) := by simp [Hid]
  have HCap : Hid ((if capb = k then some ad else some (ad.add (k * 4))) = none → capb - k = 0) := fun h => by split at h <;> cases h
  have HDrop : Hid (∀ {u : World}, Below w.heap.size w u → BearsAt u (if capb = k then some ad else some (ad.add (k * 4))) (B.drop k)) := fun {u} hu => by
    have h1 := (hB'.out hu).drop k
    by_cases hc : capb = k
    · exact h1.any _ (List.drop_eq_nil_of_le (by omega))
    · rw [if_neg hc]; exact h1
  have HSz : Hid (∀ z ∈ (B.take k) ++ [allB] ++ (B.drop k), okB z) := by
    intro z hz
    simp only [List.mem_append, List.mem_singleton] at hz
    rcases hz with (hz | rfl) | hz
    · exact HLs.out z (List.mem_of_mem_take hz)
    · exact ⟨by decide, by decide⟩
    · exact HLs.out z (List.mem_of_mem_drop hz)
  have HM1 : Hid (∀ (d : Option Addr) (capd nm : Nat) (u : World), Hid (((B.take k) ++ [allB] ++ (B.drop k)).length = nm) → BearsAt u d ((B.take k) ++ [allB] ++ (B.drop k)) → Below w.heap.size w u → Calls Try.prog 15 #[.slice a L.length cap, .slice d nm capd] u fun e w' => e = .returned (.tuple #[.agg #[.string ⟨#[]⟩, .string ⟨#[]⟩, .int .i64 0], .bool false]) ∧ Below u.heap.size u w') := fun d capd nm u hn h1 h2 => by
    have := Kept_calls a cap L d capd ((B.take k) ++ [allB] ++ (B.drop k)) u (hL'.out h2) h1
    rw [kept_all, hn.out] at this
    exact this
  have HM2 : Hid (∀ (d : Option Addr) (capd nm : Nat) (u : World), Hid (((B.take k) ++ [allB] ++ (B.drop k)).length = nm) → BearsAt u d ((B.take k) ++ [allB] ++ (B.drop k)) → Below w.heap.size w u → Calls Try.prog 17 #[.slice a L.length cap, .slice d nm capd] u fun e w' => e = .returned (.int .i64 0) ∧ Below u.heap.size u w') := fun d capd nm u hn h1 h2 => by
    have := Shy_calls a cap L d capd ((B.take k) ++ [allB] ++ (B.drop k)) u (hL'.out h2) h1
    rw [shy_all, hn.out] at this
    exact this
  by_cases hck : capb = k
  · obtain rfl : k = capb := hck.symm
    simp only [if_true] at HDrop
    clear HDl HCap
    have HDl : Hid ((B.drop k).length = 0) := by simp [Hid]; omega
    have HCap : Hid (some ad = none → (0 : Nat) = 0) := fun _ => rfl
    skip
    refine wp_region_held_drew (S := Below w.heap.size w) (by kernel_rfl) (hb4.drew) (fun hHeld => ?_)
    refine wpAnyH_take (i := 0) (v := ?vae0) rfl (by kernel_rfl) (by kernel_rfl) (by kernel_rfl) (fun _ _ _ h => h) (Or.inl ⟨by rfl, ?hyae0⟩) (by assumption) ?restae0
    case hyae0 => (intro u hu; skip; go_simp; try with_reducible rfl)
    try simp only [Act.put, List.setIfInBounds_toArray, List.set_cons_zero, List.set_cons_succ, List.getElem_toArray, List.getElem_cons_zero, List.getElem_cons_succ]
    refine wpAnyH_take (i := 1) (v := ?vae1) rfl (by kernel_rfl) (by kernel_rfl) (by kernel_rfl) (fun _ _ _ h => h) (Or.inl ⟨by rfl, ?hyae1⟩) (by assumption) ?restae1
    case hyae1 => (intro u hu; skip; go_simp; try with_reducible rfl)
    try simp only [Act.put, List.setIfInBounds_toArray, List.set_cons_zero, List.set_cons_succ, List.getElem_toArray, List.getElem_cons_zero, List.getElem_cons_succ]
    refine wpAnyH_take (i := 2) (v := ?vae2) rfl (by kernel_rfl) (by kernel_rfl) (by kernel_rfl) (fun _ _ _ h => h) (Or.inl ⟨by rfl, ?hyae2⟩) (by assumption) ?restae2
    case hyae2 => (intro u hu; skip; go_simp; try with_reducible rfl)
    try simp only [Act.put, List.setIfInBounds_toArray, List.set_cons_zero, List.set_cons_succ, List.getElem_toArray, List.getElem_cons_zero, List.getElem_cons_succ]
    refine wpAnyH_take (i := 4) (v := ?vae4) rfl (by kernel_rfl) (by kernel_rfl) (by kernel_rfl) (fun _ _ _ h => h) (Or.inl ⟨by rfl, ?hyae4⟩) (by assumption) ?restae4
    case hyae4 => (intro u hu; skip; go_simp; try with_reducible rfl)
    try simp only [Act.put, List.setIfInBounds_toArray, List.set_cons_zero, List.set_cons_succ, List.getElem_toArray, List.getElem_cons_zero, List.getElem_cons_succ]
    refine wpAnyH_take (i := 7) (v := ?vae7) rfl (by kernel_rfl) (by kernel_rfl) (by kernel_rfl) (fun _ _ _ h => h) (Or.inl ⟨by rfl, ?hyae7⟩) (by assumption) ?restae7
    case hyae7 => (intro u hu; skip; go_simp; try with_reducible rfl)
    try simp only [Act.put, List.setIfInBounds_toArray, List.set_cons_zero, List.set_cons_succ, List.getElem_toArray, List.getElem_cons_zero, List.getElem_cons_succ]
    refine wpAnyH_take (i := 8) (v := ?vae8) rfl (by kernel_rfl) (by kernel_rfl) (by kernel_rfl) (fun _ _ _ h => h) (Or.inl ⟨by rfl, ?hyae8⟩) (by assumption) ?restae8
    case hyae8 => (intro u hu; skip; go_simp; try with_reducible rfl)
    try simp only [Act.put, List.setIfInBounds_toArray, List.set_cons_zero, List.set_cons_succ, List.getElem_toArray, List.getElem_cons_zero, List.getElem_cons_succ]
    refine wpAnyH_take (i := 9) (v := ?vae9) rfl (by kernel_rfl) (by kernel_rfl) (by kernel_rfl) (fun _ _ _ h => h) (Or.inl ⟨by rfl, ?hyae9⟩) (by assumption) ?restae9
    case hyae9 => (intro u hu; skip; go_simp; try with_reducible rfl)
    try simp only [Act.put, List.setIfInBounds_toArray, List.set_cons_zero, List.set_cons_succ, List.getElem_toArray, List.getElem_cons_zero, List.getElem_cons_succ]
    refine wpAnyH_ready (rs := [3, 5]) (by kernel_rfl) (by simp) ?_
    refine AllReadyH.cons rfl (fun K hK => ?_) (AllReadyH.cons rfl (fun K hK => ?_) AllReadyH.nil)
    · go_simp
      refine (HCp.out _ hHeld).mono ?_
      rintro e w6 ⟨v6, rfl, hO6⟩
      have hO6w : Own w w6 38 4 v6 ((B.take k)).length (flatE encB ((B.take k))) := ⟨on2 hHeld hO6.1, Go.Joins.ownsRow_le hO6.2 hHeld.size⟩
      have hb6 := hO6.1
      clear hO6
      go_wp2_with fail
      refine hK.out _ _ hO6w.1 (fun hHeld2 => ?_)
      clear hK K hHeld
      have hHeld := hHeld2
      clear hHeld2
      try simp only [Act.put, List.setIfInBounds_toArray, List.set_cons_zero, List.set_cons_succ, List.getElem_toArray, List.getElem_cons_zero, List.getElem_cons_succ]
      refine wpAnyH_ready (rs := [5]) (by kernel_rfl) (by simp) ?_
      refine AllReadyH.cons rfl (fun K hK => ?_) AllReadyH.nil
      go_simp
      refine hK.out _ _ (on2 hHeld ((Below.refl _ _).alloc (Nat.le_refl _) _)) (fun hHeld2 => ?_)
      clear hK K hHeld
      have hHeld := hHeld2
      clear hHeld2
      try simp only [Act.put, List.setIfInBounds_toArray, List.set_cons_zero, List.set_cons_succ, List.getElem_toArray, List.getElem_cons_zero, List.getElem_cons_succ]
      refine wpAnyH_ready (rs := [6]) (by kernel_rfl) (by simp) ?_
      refine AllReadyH.cons rfl (fun K hK => ?_) AllReadyH.nil
      refine append_rowO (ok := okB) encB_len encB_one (w0 := w) _ _ 23 38 rfl _ 48 infoB Try.underlying23 rfl (by decide) (by decide) v6 ((B.take k)) rfl (hO6w.on (by go_grown)) (some ⟨w6.heap.size, 0, none⟩) 1 1 [allB] rfl rfl (fun h => by cases h) (bear_one _ _) (by have := hkl.out; simp; omega) ?_
      intro v7 w7 hO7 _
      refine hK.out _ _ hO7.1 (fun hHeld2 => ?_)
      clear hK K hHeld
      have hHeld := hHeld2
      clear hHeld2
      try simp only [Act.put, List.setIfInBounds_toArray, List.set_cons_zero, List.set_cons_succ, List.getElem_toArray, List.getElem_cons_zero, List.getElem_cons_succ]
      refine wpAnyH_ready (rs := [10]) (by kernel_rfl) (by simp) ?_
      refine AllReadyH.cons rfl (fun K hK => ?_) AllReadyH.nil
      refine append_rowO (ok := okB) encB_len encB_one (w0 := w) _ _ 23 38 rfl _ 48 infoB Try.underlying23 rfl (by decide) (by decide) v7 ((B.take k) ++ [allB]) rfl hO7 (some ad) (0) (0) ((B.drop k)) (HDl.out) rfl (fun h => by first | rfl | cases h) (HDrop.out hO7.1) (by have := hkl.out; simp; omega) ?_
      intro v8 w8 hO8 _
      refine hK.out _ _ hO8.1 (fun hHeld2 => ?_)
      clear hK K hHeld
      have hHeld := hHeld2
      clear hHeld2
      try simp only [Act.put, List.setIfInBounds_toArray, List.set_cons_zero, List.set_cons_succ, List.getElem_toArray, List.getElem_cons_zero, List.getElem_cons_succ]
      refine wpAnyH_take (i := 11) (v := ?vzpe) rfl (by kernel_rfl) (by kernel_rfl) (by kernel_rfl) (fun _ _ _ h => h) (Or.inl ⟨by rfl, ?hyzpe⟩) (by assumption) ?restzpe
      case hyzpe => (intro u hu; skip; go_simp; try with_reducible rfl)
      try simp only [Act.put, List.setIfInBounds_toArray, List.set_cons_zero, List.set_cons_succ, List.getElem_toArray, List.getElem_cons_zero, List.getElem_cons_succ]
      refine wpAnyH_done (by kernel_rfl) ?_ _
      refine NoPanic.normal ?_
      obtain ⟨d, capd, hv8, hat, _⟩ := row_of_owns (ok := okB) encB_len hO8.2 (by have := hkl.out; simp; omega) HSz.out
      obtain ⟨nm, hnm⟩ : ∃ nm, Hid (((B.take k) ++ [allB] ++ (B.drop k)).length = nm) := ⟨_, rfl⟩
      rw [hnm.out] at hv8
      subst hv8
      have hb8 : Below w.heap.size w w8 := hO8.1
      have hat8 : Hid (BearsAt w8 d ((B.take k) ++ [allB] ++ (B.drop k))) := hat
      clear hO8 hO7 hHeld hat
      go_wp2_with fail
      refine (HM1.out d capd nm _ hnm hat8.out hb8).mono ?_
      rintro e w10 ⟨rfl, hb10⟩
      have hb11 := on2 hb10 ((Below.refl _ _).alloc (Nat.le_refl _) (.cells #[.string ⟨#[]⟩, .string ⟨#[]⟩, .int .i64 0] 32))
      go_wp2_with fail
      refine (HM2.out d capd nm _ hnm (hat8.out.on hb11) (on2 hb8 hb11)).mono ?_
      rintro e w12 ⟨rfl, hb12⟩
      go_wp2_with fail
      go_ret
      exact ⟨rfl, on2 hb8 (on2 hb11 hb12)⟩
    · go_simp
      refine hK.out _ _ (on2 hHeld ((Below.refl _ _).alloc (Nat.le_refl _) _)) (fun hHeld2 => ?_)
      clear hK K hHeld
      have hHeld := hHeld2
      clear hHeld2
      try simp only [Act.put, List.setIfInBounds_toArray, List.set_cons_zero, List.set_cons_succ, List.getElem_toArray, List.getElem_cons_zero, List.getElem_cons_succ]
      refine wpAnyH_ready (rs := [3]) (by kernel_rfl) (by simp) ?_
      refine AllReadyH.cons rfl (fun K hK => ?_) AllReadyH.nil
      go_simp
      refine (HCp.out _ hHeld).mono ?_
      rintro e w6 ⟨v6, rfl, hO6⟩
      have hO6w : Own w w6 38 4 v6 ((B.take k)).length (flatE encB ((B.take k))) := ⟨on2 hHeld hO6.1, Go.Joins.ownsRow_le hO6.2 hHeld.size⟩
      have hb6 := hO6.1
      clear hO6
      go_wp2_with fail
      refine hK.out _ _ hO6w.1 (fun hHeld2 => ?_)
      clear hK K hHeld
      have hHeld := hHeld2
      clear hHeld2
      try simp only [Act.put, List.setIfInBounds_toArray, List.set_cons_zero, List.set_cons_succ, List.getElem_toArray, List.getElem_cons_zero, List.getElem_cons_succ]
      refine wpAnyH_ready (rs := [6]) (by kernel_rfl) (by simp) ?_
      refine AllReadyH.cons rfl (fun K hK => ?_) AllReadyH.nil
      refine append_rowO (ok := okB) encB_len encB_one (w0 := w) _ _ 23 38 rfl _ 48 infoB Try.underlying23 rfl (by decide) (by decide) v6 ((B.take k)) rfl (hO6w) (some ⟨w4.heap.size, 0, none⟩) 1 1 [allB] rfl rfl (fun h => by cases h) ((bear_one w4.drew 38).on hb6) (by have := hkl.out; simp; omega) ?_
      intro v7 w7 hO7 _
      refine hK.out _ _ hO7.1 (fun hHeld2 => ?_)
      clear hK K hHeld
      have hHeld := hHeld2
      clear hHeld2
      try simp only [Act.put, List.setIfInBounds_toArray, List.set_cons_zero, List.set_cons_succ, List.getElem_toArray, List.getElem_cons_zero, List.getElem_cons_succ]
      refine wpAnyH_ready (rs := [10]) (by kernel_rfl) (by simp) ?_
      refine AllReadyH.cons rfl (fun K hK => ?_) AllReadyH.nil
      refine append_rowO (ok := okB) encB_len encB_one (w0 := w) _ _ 23 38 rfl _ 48 infoB Try.underlying23 rfl (by decide) (by decide) v7 ((B.take k) ++ [allB]) rfl hO7 (some ad) (0) (0) ((B.drop k)) (HDl.out) rfl (fun h => by first | rfl | cases h) (HDrop.out hO7.1) (by have := hkl.out; simp; omega) ?_
      intro v8 w8 hO8 _
      refine hK.out _ _ hO8.1 (fun hHeld2 => ?_)
      clear hK K hHeld
      have hHeld := hHeld2
      clear hHeld2
      try simp only [Act.put, List.setIfInBounds_toArray, List.set_cons_zero, List.set_cons_succ, List.getElem_toArray, List.getElem_cons_zero, List.getElem_cons_succ]
      refine wpAnyH_take (i := 11) (v := ?vzqe) rfl (by kernel_rfl) (by kernel_rfl) (by kernel_rfl) (fun _ _ _ h => h) (Or.inl ⟨by rfl, ?hyzqe⟩) (by assumption) ?restzqe
      case hyzqe => (intro u hu; skip; go_simp; try with_reducible rfl)
      try simp only [Act.put, List.setIfInBounds_toArray, List.set_cons_zero, List.set_cons_succ, List.getElem_toArray, List.getElem_cons_zero, List.getElem_cons_succ]
      refine wpAnyH_done (by kernel_rfl) ?_ _
      refine NoPanic.normal ?_
      obtain ⟨d, capd, hv8, hat, _⟩ := row_of_owns (ok := okB) encB_len hO8.2 (by have := hkl.out; simp; omega) HSz.out
      obtain ⟨nm, hnm⟩ : ∃ nm, Hid (((B.take k) ++ [allB] ++ (B.drop k)).length = nm) := ⟨_, rfl⟩
      rw [hnm.out] at hv8
      subst hv8
      have hb8 : Below w.heap.size w w8 := hO8.1
      have hat8 : Hid (BearsAt w8 d ((B.take k) ++ [allB] ++ (B.drop k))) := hat
      clear hO8 hO7 hHeld hat
      go_wp2_with fail
      refine (HM1.out d capd nm _ hnm hat8.out hb8).mono ?_
      rintro e w10 ⟨rfl, hb10⟩
      have hb11 := on2 hb10 ((Below.refl _ _).alloc (Nat.le_refl _) (.cells #[.string ⟨#[]⟩, .string ⟨#[]⟩, .int .i64 0] 32))
      go_wp2_with fail
      refine (HM2.out d capd nm _ hnm (hat8.out.on hb11) (on2 hb8 hb11)).mono ?_
      rintro e w12 ⟨rfl, hb12⟩
      go_wp2_with fail
      go_ret
      exact ⟨rfl, on2 hb8 (on2 hb11 hb12)⟩
  · simp only [hck, if_false] at HCap HDrop
    skip
    refine wp_region_held_drew (S := Below w.heap.size w) (by kernel_rfl) (hb4.drew) (fun hHeld => ?_)
    refine wpAnyH_take (i := 0) (v := ?van0) rfl (by kernel_rfl) (by kernel_rfl) (by kernel_rfl) (fun _ _ _ h => h) (Or.inl ⟨by rfl, ?hyan0⟩) (by assumption) ?restan0
    case hyan0 => (intro u hu; skip; go_simp; try with_reducible rfl)
    try simp only [Act.put, List.setIfInBounds_toArray, List.set_cons_zero, List.set_cons_succ, List.getElem_toArray, List.getElem_cons_zero, List.getElem_cons_succ]
    refine wpAnyH_take (i := 1) (v := ?van1) rfl (by kernel_rfl) (by kernel_rfl) (by kernel_rfl) (fun _ _ _ h => h) (Or.inl ⟨by rfl, ?hyan1⟩) (by assumption) ?restan1
    case hyan1 => (intro u hu; skip; go_simp; try with_reducible rfl)
    try simp only [Act.put, List.setIfInBounds_toArray, List.set_cons_zero, List.set_cons_succ, List.getElem_toArray, List.getElem_cons_zero, List.getElem_cons_succ]
    refine wpAnyH_take (i := 2) (v := ?van2) rfl (by kernel_rfl) (by kernel_rfl) (by kernel_rfl) (fun _ _ _ h => h) (Or.inl ⟨by rfl, ?hyan2⟩) (by assumption) ?restan2
    case hyan2 => (intro u hu; skip; go_simp; try with_reducible rfl)
    try simp only [Act.put, List.setIfInBounds_toArray, List.set_cons_zero, List.set_cons_succ, List.getElem_toArray, List.getElem_cons_zero, List.getElem_cons_succ]
    refine wpAnyH_take (i := 4) (v := ?van4) rfl (by kernel_rfl) (by kernel_rfl) (by kernel_rfl) (fun _ _ _ h => h) (Or.inl ⟨by rfl, ?hyan4⟩) (by assumption) ?restan4
    case hyan4 => (intro u hu; skip; go_simp; try with_reducible rfl)
    try simp only [Act.put, List.setIfInBounds_toArray, List.set_cons_zero, List.set_cons_succ, List.getElem_toArray, List.getElem_cons_zero, List.getElem_cons_succ]
    refine wpAnyH_take (i := 7) (v := ?van7) rfl (by kernel_rfl) (by kernel_rfl) (by kernel_rfl) (fun _ _ _ h => h) (Or.inl ⟨by rfl, ?hyan7⟩) (by assumption) ?restan7
    case hyan7 => (intro u hu; skip; go_simp; try with_reducible rfl)
    try simp only [Act.put, List.setIfInBounds_toArray, List.set_cons_zero, List.set_cons_succ, List.getElem_toArray, List.getElem_cons_zero, List.getElem_cons_succ]
    refine wpAnyH_take (i := 8) (v := ?van8) rfl (by kernel_rfl) (by kernel_rfl) (by kernel_rfl) (fun _ _ _ h => h) (Or.inl ⟨by rfl, ?hyan8⟩) (by assumption) ?restan8
    case hyan8 => (intro u hu; skip; go_simp; try with_reducible rfl)
    try simp only [Act.put, List.setIfInBounds_toArray, List.set_cons_zero, List.set_cons_succ, List.getElem_toArray, List.getElem_cons_zero, List.getElem_cons_succ]
    refine wpAnyH_take (i := 9) (v := ?van9) rfl (by kernel_rfl) (by kernel_rfl) (by kernel_rfl) (fun _ _ _ h => h) (Or.inl ⟨by rfl, ?hyan9⟩) (by assumption) ?restan9
    case hyan9 => (intro u hu; skip; go_simp; try with_reducible rfl)
    try simp only [Act.put, List.setIfInBounds_toArray, List.set_cons_zero, List.set_cons_succ, List.getElem_toArray, List.getElem_cons_zero, List.getElem_cons_succ]
    refine wpAnyH_ready (rs := [3, 5]) (by kernel_rfl) (by simp) ?_
    refine AllReadyH.cons rfl (fun K hK => ?_) (AllReadyH.cons rfl (fun K hK => ?_) AllReadyH.nil)
    · go_simp
      refine (HCp.out _ hHeld).mono ?_
      rintro e w6 ⟨v6, rfl, hO6⟩
      have hO6w : Own w w6 38 4 v6 ((B.take k)).length (flatE encB ((B.take k))) := ⟨on2 hHeld hO6.1, Go.Joins.ownsRow_le hO6.2 hHeld.size⟩
      have hb6 := hO6.1
      clear hO6
      go_wp2_with fail
      refine hK.out _ _ hO6w.1 (fun hHeld2 => ?_)
      clear hK K hHeld
      have hHeld := hHeld2
      clear hHeld2
      try simp only [Act.put, List.setIfInBounds_toArray, List.set_cons_zero, List.set_cons_succ, List.getElem_toArray, List.getElem_cons_zero, List.getElem_cons_succ]
      refine wpAnyH_ready (rs := [5]) (by kernel_rfl) (by simp) ?_
      refine AllReadyH.cons rfl (fun K hK => ?_) AllReadyH.nil
      go_simp
      refine hK.out _ _ (on2 hHeld ((Below.refl _ _).alloc (Nat.le_refl _) _)) (fun hHeld2 => ?_)
      clear hK K hHeld
      have hHeld := hHeld2
      clear hHeld2
      try simp only [Act.put, List.setIfInBounds_toArray, List.set_cons_zero, List.set_cons_succ, List.getElem_toArray, List.getElem_cons_zero, List.getElem_cons_succ]
      refine wpAnyH_ready (rs := [6]) (by kernel_rfl) (by simp) ?_
      refine AllReadyH.cons rfl (fun K hK => ?_) AllReadyH.nil
      refine append_rowO (ok := okB) encB_len encB_one (w0 := w) _ _ 23 38 rfl _ 48 infoB Try.underlying23 rfl (by decide) (by decide) v6 ((B.take k)) rfl (hO6w.on (by go_grown)) (some ⟨w6.heap.size, 0, none⟩) 1 1 [allB] rfl rfl (fun h => by cases h) (bear_one _ _) (by have := hkl.out; simp; omega) ?_
      intro v7 w7 hO7 _
      refine hK.out _ _ hO7.1 (fun hHeld2 => ?_)
      clear hK K hHeld
      have hHeld := hHeld2
      clear hHeld2
      try simp only [Act.put, List.setIfInBounds_toArray, List.set_cons_zero, List.set_cons_succ, List.getElem_toArray, List.getElem_cons_zero, List.getElem_cons_succ]
      refine wpAnyH_ready (rs := [10]) (by kernel_rfl) (by simp) ?_
      refine AllReadyH.cons rfl (fun K hK => ?_) AllReadyH.nil
      refine append_rowO (ok := okB) encB_len encB_one (w0 := w) _ _ 23 38 rfl _ 48 infoB Try.underlying23 rfl (by decide) (by decide) v7 ((B.take k) ++ [allB]) rfl hO7 (some (ad.add (k * 4))) (B.length - k) (capb - k) ((B.drop k)) (HDl.out) rfl (fun h => by first | rfl | cases h) (HDrop.out hO7.1) (by have := hkl.out; simp; omega) ?_
      intro v8 w8 hO8 _
      refine hK.out _ _ hO8.1 (fun hHeld2 => ?_)
      clear hK K hHeld
      have hHeld := hHeld2
      clear hHeld2
      try simp only [Act.put, List.setIfInBounds_toArray, List.set_cons_zero, List.set_cons_succ, List.getElem_toArray, List.getElem_cons_zero, List.getElem_cons_succ]
      refine wpAnyH_take (i := 11) (v := ?vzpn) rfl (by kernel_rfl) (by kernel_rfl) (by kernel_rfl) (fun _ _ _ h => h) (Or.inl ⟨by rfl, ?hyzpn⟩) (by assumption) ?restzpn
      case hyzpn => (intro u hu; skip; go_simp; try with_reducible rfl)
      try simp only [Act.put, List.setIfInBounds_toArray, List.set_cons_zero, List.set_cons_succ, List.getElem_toArray, List.getElem_cons_zero, List.getElem_cons_succ]
      refine wpAnyH_done (by kernel_rfl) ?_ _
      refine NoPanic.normal ?_
      obtain ⟨d, capd, hv8, hat, _⟩ := row_of_owns (ok := okB) encB_len hO8.2 (by have := hkl.out; simp; omega) HSz.out
      obtain ⟨nm, hnm⟩ : ∃ nm, Hid (((B.take k) ++ [allB] ++ (B.drop k)).length = nm) := ⟨_, rfl⟩
      rw [hnm.out] at hv8
      subst hv8
      have hb8 : Below w.heap.size w w8 := hO8.1
      have hat8 : Hid (BearsAt w8 d ((B.take k) ++ [allB] ++ (B.drop k))) := hat
      clear hO8 hO7 hHeld hat
      go_wp2_with fail
      refine (HM1.out d capd nm _ hnm hat8.out hb8).mono ?_
      rintro e w10 ⟨rfl, hb10⟩
      have hb11 := on2 hb10 ((Below.refl _ _).alloc (Nat.le_refl _) (.cells #[.string ⟨#[]⟩, .string ⟨#[]⟩, .int .i64 0] 32))
      go_wp2_with fail
      refine (HM2.out d capd nm _ hnm (hat8.out.on hb11) (on2 hb8 hb11)).mono ?_
      rintro e w12 ⟨rfl, hb12⟩
      go_wp2_with fail
      go_ret
      exact ⟨rfl, on2 hb8 (on2 hb11 hb12)⟩
    · go_simp
      refine hK.out _ _ (on2 hHeld ((Below.refl _ _).alloc (Nat.le_refl _) _)) (fun hHeld2 => ?_)
      clear hK K hHeld
      have hHeld := hHeld2
      clear hHeld2
      try simp only [Act.put, List.setIfInBounds_toArray, List.set_cons_zero, List.set_cons_succ, List.getElem_toArray, List.getElem_cons_zero, List.getElem_cons_succ]
      refine wpAnyH_ready (rs := [3]) (by kernel_rfl) (by simp) ?_
      refine AllReadyH.cons rfl (fun K hK => ?_) AllReadyH.nil
      go_simp
      refine (HCp.out _ hHeld).mono ?_
      rintro e w6 ⟨v6, rfl, hO6⟩
      have hO6w : Own w w6 38 4 v6 ((B.take k)).length (flatE encB ((B.take k))) := ⟨on2 hHeld hO6.1, Go.Joins.ownsRow_le hO6.2 hHeld.size⟩
      have hb6 := hO6.1
      clear hO6
      go_wp2_with fail
      refine hK.out _ _ hO6w.1 (fun hHeld2 => ?_)
      clear hK K hHeld
      have hHeld := hHeld2
      clear hHeld2
      try simp only [Act.put, List.setIfInBounds_toArray, List.set_cons_zero, List.set_cons_succ, List.getElem_toArray, List.getElem_cons_zero, List.getElem_cons_succ]
      refine wpAnyH_ready (rs := [6]) (by kernel_rfl) (by simp) ?_
      refine AllReadyH.cons rfl (fun K hK => ?_) AllReadyH.nil
      refine append_rowO (ok := okB) encB_len encB_one (w0 := w) _ _ 23 38 rfl _ 48 infoB Try.underlying23 rfl (by decide) (by decide) v6 ((B.take k)) rfl (hO6w) (some ⟨w4.heap.size, 0, none⟩) 1 1 [allB] rfl rfl (fun h => by cases h) ((bear_one w4.drew 38).on hb6) (by have := hkl.out; simp; omega) ?_
      intro v7 w7 hO7 _
      refine hK.out _ _ hO7.1 (fun hHeld2 => ?_)
      clear hK K hHeld
      have hHeld := hHeld2
      clear hHeld2
      try simp only [Act.put, List.setIfInBounds_toArray, List.set_cons_zero, List.set_cons_succ, List.getElem_toArray, List.getElem_cons_zero, List.getElem_cons_succ]
      refine wpAnyH_ready (rs := [10]) (by kernel_rfl) (by simp) ?_
      refine AllReadyH.cons rfl (fun K hK => ?_) AllReadyH.nil
      refine append_rowO (ok := okB) encB_len encB_one (w0 := w) _ _ 23 38 rfl _ 48 infoB Try.underlying23 rfl (by decide) (by decide) v7 ((B.take k) ++ [allB]) rfl hO7 (some (ad.add (k * 4))) (B.length - k) (capb - k) ((B.drop k)) (HDl.out) rfl (fun h => by first | rfl | cases h) (HDrop.out hO7.1) (by have := hkl.out; simp; omega) ?_
      intro v8 w8 hO8 _
      refine hK.out _ _ hO8.1 (fun hHeld2 => ?_)
      clear hK K hHeld
      have hHeld := hHeld2
      clear hHeld2
      try simp only [Act.put, List.setIfInBounds_toArray, List.set_cons_zero, List.set_cons_succ, List.getElem_toArray, List.getElem_cons_zero, List.getElem_cons_succ]
      refine wpAnyH_take (i := 11) (v := ?vzqn) rfl (by kernel_rfl) (by kernel_rfl) (by kernel_rfl) (fun _ _ _ h => h) (Or.inl ⟨by rfl, ?hyzqn⟩) (by assumption) ?restzqn
      case hyzqn => (intro u hu; skip; go_simp; try with_reducible rfl)
      try simp only [Act.put, List.setIfInBounds_toArray, List.set_cons_zero, List.set_cons_succ, List.getElem_toArray, List.getElem_cons_zero, List.getElem_cons_succ]
      refine wpAnyH_done (by kernel_rfl) ?_ _
      refine NoPanic.normal ?_
      obtain ⟨d, capd, hv8, hat, _⟩ := row_of_owns (ok := okB) encB_len hO8.2 (by have := hkl.out; simp; omega) HSz.out
      obtain ⟨nm, hnm⟩ : ∃ nm, Hid (((B.take k) ++ [allB] ++ (B.drop k)).length = nm) := ⟨_, rfl⟩
      rw [hnm.out] at hv8
      subst hv8
      have hb8 : Below w.heap.size w w8 := hO8.1
      have hat8 : Hid (BearsAt w8 d ((B.take k) ++ [allB] ++ (B.drop k))) := hat
      clear hO8 hO7 hHeld hat
      go_wp2_with fail
      refine (HM1.out d capd nm _ hnm hat8.out hb8).mono ?_
      rintro e w10 ⟨rfl, hb10⟩
      have hb11 := on2 hb10 ((Below.refl _ _).alloc (Nat.le_refl _) (.cells #[.string ⟨#[]⟩, .string ⟨#[]⟩, .int .i64 0] 32))
      go_wp2_with fail
      refine (HM2.out d capd nm _ hnm (hat8.out.on hb11) (on2 hb8 hb11)).mono ?_
      rintro e w12 ⟨rfl, hb12⟩
      go_wp2_with fail
      go_ret
      exact ⟨rfl, on2 hb8 (on2 hb11 hb12)⟩
end Go.Proofs.Ytgffnkfiecieeaa.taintAll
