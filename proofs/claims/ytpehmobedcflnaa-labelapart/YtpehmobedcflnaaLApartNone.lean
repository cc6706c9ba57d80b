/- The law LabelApart holds of the program: a label of another key changes nothing of what is met; the chapter's example comes out. For every input; no condition. -/
import Derived.Test.YtpehmobedcflnaaLApartSome
namespace Go.Proofs.Ytpehmobedcflnaa.labelApart
open Go.ChangeShapes Go.WideShapes Go.ChangeAt Go.RowKit
set_option linter.unusedSimpArgs false


set_option maxHeartbeats 4000000 in
theorem walk_none (key : ByteArray) (op : Int) (b : Option Addr) (capb : Nat) (V : List ByteArray) (x y : ByteArray) (n : Int) (w : World) (hV : Hid (StrsAt w b V)) (hx : x.size ≤ 140737488355328) (hy : y.size ≤ 140737488355328) (hne : sEq x key = false) :
    Calls Try.prog 8 #[.slice none 0 0, .agg #[.string key, .int .i64 op, .slice b V.length capb], .agg #[.string x, .string y], .int .i64 n] w fun e w' => e = .returned (.bool true) ∧ Below w.heap.size w w' := by
  have hS0 := ApS.start w key op b V.length capb x y
  have hb0 : Below w.heap.size w ((w.alloc (.cells #[.string key, .int .i64 op, .slice b V.length capb] 41)).alloc (.cells #[.string x, .string y] 52)) := by go_grown
  have hne' : (x.toList == key.toList) = false := hne
  have hAm := Among_calls n 1 (by omega) (by omega)
  have hwk := works_calls ((w.alloc (.cells #[.string key, .int .i64 op, .slice b V.length capb] 41)).alloc (.cells #[.string x, .string y] 52))
  have hL' : Hid (∀ {u : World}, Below w.heap.size w u → LabsAt u none ([] : List Lab)) := fun _ => LabsAt.nil _ _
  have hV' : Hid (∀ {u : World}, Below w.heap.size w u → StrsAt u b V) := fun h => hV.out.on h
  have hD : w.heap.size < ((w.alloc (.cells #[.string key, .int .i64 op, .slice b V.length capb] 41)).alloc (.cells #[.string x, .string y] 52)).heap.size := by simp; omega
  have hE : w.heap.size + 1 < ((w.alloc (.cells #[.string key, .int .i64 op, .slice b V.length capb] 41)).alloc (.cells #[.string x, .string y] 52)).heap.size := by simp
  have HS : Hid (∀ {u : World}, Below ((w.alloc (.cells #[.string key, .int .i64 op, .slice b V.length capb] 41)).alloc (.cells #[.string x, .string y] 52)).heap.size ((w.alloc (.cells #[.string key, .int .i64 op, .slice b V.length capb] 41)).alloc (.cells #[.string x, .string y] 52)) u → ApS ((w.alloc (.cells #[.string key, .int .i64 op, .slice b V.length capb] 41)).alloc (.cells #[.string x, .string y] 52)) w.heap.size (w.heap.size + 1) key op (.slice b V.length capb) x y u) := fun hb => hS0.to hD hE hb
  clear hV hS0
  go_enter Try.func8, Try.ntmps8
  go_wp2_with fail
  refine hwk.mono ?_
  rintro e w3 ⟨rfl, hb3⟩
  clear hwk
  generalize hwB : ((w.alloc (.cells #[.string key, .int .i64 op, .slice b V.length capb] 41)).alloc (.cells #[.string x, .string y] 52)) = wB at hb3 HS hb0 hD hE
  obtain ⟨_, c0, c1, c2, c3, c4⟩ := HS.out hb3
  go_wp2_with fail
  refine (hAm _).mono ?_
  rintro e w4 ⟨⟨k, rfl, hk⟩, rfl⟩
  clear hAm c0 c1 c2 c3 c4
  have hb4 := hb3
  go_wp2_with fail
  refine wp_region_noPanic ?_
  have hk2 : (k : Int) ≤ (0 : Int) := by omega
  have hk0 : (0 : Int) ≤ (k : Int) := by omega
  have hkl : Hid (0 * 32 ≤ 140737488351232 ∧ k ≤ 0) := ⟨by omega, by omega⟩
  obtain rfl : k = 0 := by omega
  have HLs : Hid (∀ z ∈ ([] : List Lab), z.1.size ≤ 140737488355328 ∧ z.2.size ≤ 140737488355328) := fun z hz => by simp at hz
  have HLab : Hid (∀ u, Below wB.heap.size wB u → Calls Try.prog 9 #[.slice none 0 0] u fun e w' => ∃ v, e = .returned v ∧ Own u w' 52 2 v ([] : List Lab).length (flatL ([] : List Lab))) := fun u hu => Labels_calls none 0 [] u (LabsAt.nil u none) (by simp)
  have HDl : Hid (([] : List Lab).length = 0) := rfl
  have HCap : Hid ((none : Option Addr) = none → (0 : Nat) = 0) := fun _ => rfl
  have HDrop : Hid (∀ {u : World}, Below wB.heap.size wB u → LabsAt u none ([] : List Lab)) := fun {u} _ => LabsAt.nil u none
  have HSz : Hid (∀ z ∈ ([] : List Lab) ++ [(x, y)] ++ ([] : List Lab), z.1.size ≤ 140737488355328 ∧ z.2.size ≤ 140737488355328) := by
    intro z hz
    simp only [List.mem_append, List.mem_singleton] at hz
    rcases hz with (hz | rfl) | hz
    · exact HLs.out z (hz)
    · exact ⟨hx, hy⟩
    · exact HLs.out z (hz)
  have HEQ : Hid (meetsL (([] : List Lab) ++ [(x, y)] ++ ([] : List Lab)) ⟨key, op, V⟩ = meetsL [] ⟨key, op, V⟩) := by
    rw [Hid, meetsL_apart _ _ (x, y) ⟨key, op, V⟩ hne]
    rfl
  have HM1 : Hid (∀ (d : Option Addr) (capd nm : Nat) (u : World), Hid ((([] : List Lab) ++ [(x, y)] ++ ([] : List Lab)).length = nm) → LabsAt u d (([] : List Lab) ++ [(x, y)] ++ ([] : List Lab)) → Below w.heap.size w u → Calls Try.prog 26 #[.slice d nm capd, .agg #[.string key, .int .i64 op, .slice b V.length capb]] u fun e w' => e = .returned (.bool (meetsL [] ⟨key, op, V⟩)) ∧ Below u.heap.size u w') := fun d capd nm u hn h1 h2 => by
    have := Meets_calls d capd (([] : List Lab) ++ [(x, y)] ++ ([] : List Lab)) key op b capb V u h1 (hV'.out h2)
    rw [HEQ.out, hn.out] at this
    exact this
  have HM2 : Hid (∀ (u : World), Below w.heap.size w u → Calls Try.prog 26 #[.slice none 0 0, .agg #[.string key, .int .i64 op, .slice b V.length capb]] u fun e w' => e = .returned (.bool (meetsL [] ⟨key, op, V⟩)) ∧ Below u.heap.size u w') := fun u h2 => Meets_calls none 0 [] key op b capb V u (hL'.out h2) (hV'.out h2)
  generalize meetsL [] ⟨key, op, V⟩ = tt at HM1 HM2
  have htt : (tt == tt) = true := by simp
  skip
  refine wp_region_held_drew (S := ApS wB w.heap.size (w.heap.size + 1) key op (.slice b V.length capb) x y) (by kernel_rfl) (HS.out hb4.drew) (fun hHeld => ?_)
  refine wpAnyH_take (i := 0) (v := ?vaz0) rfl (by kernel_rfl) (by kernel_rfl) (by kernel_rfl) (fun _ _ _ h => h) (Or.inl ⟨by rfl, ?hyaz0⟩) (by assumption) ?restaz0
  case hyaz0 => (intro u hu; obtain ⟨_, _, _, _, _, _⟩ := hu; go_simp; try with_reducible rfl)
  try simp only [Act.put, List.setIfInBounds_toArray, List.set_cons_zero, List.set_cons_succ, List.getElem_toArray, List.getElem_cons_zero, List.getElem_cons_succ]
  refine wpAnyH_take (i := 1) (v := ?vaz1) rfl (by kernel_rfl) (by kernel_rfl) (by kernel_rfl) (fun _ _ _ h => h) (Or.inl ⟨by rfl, ?hyaz1⟩) (by assumption) ?restaz1
  case hyaz1 => (intro u hu; obtain ⟨_, _, _, _, _, _⟩ := hu; go_simp; try with_reducible rfl)
  try simp only [Act.put, List.setIfInBounds_toArray, List.set_cons_zero, List.set_cons_succ, List.getElem_toArray, List.getElem_cons_zero, List.getElem_cons_succ]
  refine wpAnyH_take (i := 2) (v := ?vaz2) rfl (by kernel_rfl) (by kernel_rfl) (by kernel_rfl) (fun _ _ _ h => h) (Or.inl ⟨by rfl, ?hyaz2⟩) (by assumption) ?restaz2
  case hyaz2 => (intro u hu; obtain ⟨_, _, _, _, _, _⟩ := hu; go_simp; try with_reducible rfl)
  try simp only [Act.put, List.setIfInBounds_toArray, List.set_cons_zero, List.set_cons_succ, List.getElem_toArray, List.getElem_cons_zero, List.getElem_cons_succ]
  refine wpAnyH_take (i := 4) (v := ?vaz4) rfl (by kernel_rfl) (by kernel_rfl) (by kernel_rfl) (fun _ _ _ h => h) (Or.inl ⟨by rfl, ?hyaz4⟩) (by assumption) ?restaz4
  case hyaz4 => (intro u hu; obtain ⟨_, _, _, _, _, _⟩ := hu; go_simp; try with_reducible rfl)
  try simp only [Act.put, List.setIfInBounds_toArray, List.set_cons_zero, List.set_cons_succ, List.getElem_toArray, List.getElem_cons_zero, List.getElem_cons_succ]
  refine wpAnyH_take (i := 7) (v := ?vaz7) rfl (by kernel_rfl) (by kernel_rfl) (by kernel_rfl) (fun _ _ _ h => h) (Or.inl ⟨by rfl, ?hyaz7⟩) (by assumption) ?restaz7
  case hyaz7 => (intro u hu; obtain ⟨_, _, _, _, _, _⟩ := hu; go_simp; try with_reducible rfl)
  try simp only [Act.put, List.setIfInBounds_toArray, List.set_cons_zero, List.set_cons_succ, List.getElem_toArray, List.getElem_cons_zero, List.getElem_cons_succ]
  refine wpAnyH_take (i := 8) (v := ?vaz8) rfl (by kernel_rfl) (by kernel_rfl) (by kernel_rfl) (fun _ _ _ h => h) (Or.inl ⟨by rfl, ?hyaz8⟩) (by assumption) ?restaz8
  case hyaz8 => (intro u hu; obtain ⟨_, _, _, _, _, _⟩ := hu; go_simp; try with_reducible rfl)
  try simp only [Act.put, List.setIfInBounds_toArray, List.set_cons_zero, List.set_cons_succ, List.getElem_toArray, List.getElem_cons_zero, List.getElem_cons_succ]
  refine wpAnyH_take (i := 9) (v := ?vaz9) rfl (by kernel_rfl) (by kernel_rfl) (by kernel_rfl) (fun _ _ _ h => h) (Or.inl ⟨by rfl, ?hyaz9⟩) (by assumption) ?restaz9
  case hyaz9 => (intro u hu; obtain ⟨_, _, _, _, _, _⟩ := hu; go_simp; try with_reducible rfl)
  try simp only [Act.put, List.setIfInBounds_toArray, List.set_cons_zero, List.set_cons_succ, List.getElem_toArray, List.getElem_cons_zero, List.getElem_cons_succ]
  refine wpAnyH_ready (rs := [3, 5]) (by kernel_rfl) (by simp) ?_
  refine AllReadyH.cons rfl (fun K hK => ?_) (AllReadyH.cons rfl (fun K hK => ?_) AllReadyH.nil)
  · go_simp
    refine (HLab.out _ hHeld.1).mono ?_
    rintro e w6 ⟨v6, rfl, hO6⟩
    have hO6w : Own wB w6 52 2 v6 (([] : List Lab)).length (flatL (([] : List Lab))) := ⟨on2 hHeld.1 hO6.1, Go.Joins.ownsRow_le hO6.2 hHeld.1.size⟩
    have hb6 := hO6.1
    clear hO6
    go_wp2_with fail
    refine hK.out _ _ (HS.out hO6w.1) (fun hHeld2 => ?_)
    clear hK K hHeld
    have hHeld := hHeld2
    clear hHeld2
    try simp only [Act.put, List.setIfInBounds_toArray, List.set_cons_zero, List.set_cons_succ, List.getElem_toArray, List.getElem_cons_zero, List.getElem_cons_succ]
    refine wpAnyH_ready (rs := [5]) (by kernel_rfl) (by simp) ?_
    refine AllReadyH.cons rfl (fun K hK => ?_) AllReadyH.nil
    go_simp
    refine hK.out _ _ (HS.out (on2 hHeld.1 ((Below.refl _ _).alloc (Nat.le_refl _) _))) (fun hHeld2 => ?_)
    clear hK K hHeld
    have hHeld := hHeld2
    clear hHeld2
    try simp only [Act.put, List.setIfInBounds_toArray, List.set_cons_zero, List.set_cons_succ, List.getElem_toArray, List.getElem_cons_zero, List.getElem_cons_succ]
    refine wpAnyH_ready (rs := [6]) (by kernel_rfl) (by simp) ?_
    refine AllReadyH.cons rfl (fun K hK => ?_) AllReadyH.nil
    refine append_labsO (w0 := wB) _ _ rfl v6 (([] : List Lab)) rfl (hO6w.on (by go_grown)) (some ⟨w6.heap.size, 0, none⟩) 1 1 [(x, y)] rfl rfl (fun h => by cases h) (labs_one _ _ x y hx hy) (by simp) ?_
    intro v7 w7 hO7
    refine hK.out _ _ (HS.out hO7.1) (fun hHeld2 => ?_)
    clear hK K hHeld
    have hHeld := hHeld2
    clear hHeld2
    try simp only [Act.put, List.setIfInBounds_toArray, List.set_cons_zero, List.set_cons_succ, List.getElem_toArray, List.getElem_cons_zero, List.getElem_cons_succ]
    refine wpAnyH_ready (rs := [10]) (by kernel_rfl) (by simp) ?_
    refine AllReadyH.cons rfl (fun K hK => ?_) AllReadyH.nil
    refine append_labsO (w0 := wB) _ _ rfl v7 (([] : List Lab) ++ [(x, y)]) rfl hO7 (none) (0) (0) (([] : List Lab)) (HDl.out) rfl (fun h => by first | rfl | cases h) (HDrop.out hO7.1) (by simp) ?_
    intro v8 w8 hO8
    refine hK.out _ _ (HS.out hO8.1) (fun hHeld2 => ?_)
    clear hK K hHeld
    have hHeld := hHeld2
    clear hHeld2
    try simp only [Act.put, List.setIfInBounds_toArray, List.set_cons_zero, List.set_cons_succ, List.getElem_toArray, List.getElem_cons_zero, List.getElem_cons_succ]
    refine wpAnyH_take (i := 11) (v := ?vzpz) rfl (by kernel_rfl) (by kernel_rfl) (by kernel_rfl) (fun _ _ _ h => h) (Or.inl ⟨by rfl, ?hyzpz⟩) (by assumption) ?restzpz
    case hyzpz => (intro u hu; obtain ⟨_, _, _, _, _, _⟩ := hu; go_simp; try with_reducible rfl)
    try simp only [Act.put, List.setIfInBounds_toArray, List.set_cons_zero, List.set_cons_succ, List.getElem_toArray, List.getElem_cons_zero, List.getElem_cons_succ]
    refine wpAnyH_done (by kernel_rfl) ?_ _
    refine NoPanic.normal ?_
    obtain ⟨d, capd, hv8, hat⟩ := labs_of_owns hO8.2 (by simp) HSz.out
    obtain ⟨nm, hnm⟩ : ∃ nm, Hid ((([] : List Lab) ++ [(x, y)] ++ ([] : List Lab)).length = nm) := ⟨_, rfl⟩
    rw [hnm.out] at hv8
    subst hv8
    have hb8 := hO8.1
    have hat8 : Hid (LabsAt w8.drew d (([] : List Lab) ++ [(x, y)] ++ ([] : List Lab))) := hat.on (Below.refl _ _).drew
    clear hO8 hO7 hHeld hat
    go_wp2_with fail
    refine wp_region_noPanic ?_
    refine wp_region_held_drew (S := ApS wB w.heap.size (w.heap.size + 1) key op (.slice b V.length capb) x y) (by kernel_rfl) (HS.out hb8.drew) (fun hHeld => ?_)
    refine wpAnyH_take (i := 0) (v := ?vpz0) rfl (by kernel_rfl) (by kernel_rfl) (by kernel_rfl) (fun _ _ _ h => h) (Or.inl ⟨by rfl, ?hypz0⟩) (by assumption) ?restpz0
    case hypz0 => (intro u hu; obtain ⟨_, _, _, _, _, _⟩ := hu; go_simp; try with_reducible rfl)
    try simp only [Act.put, List.setIfInBounds_toArray, List.set_cons_zero, List.set_cons_succ, List.getElem_toArray, List.getElem_cons_zero, List.getElem_cons_succ]
    refine wpAnyH_take (i := 1) (v := ?vpz1) rfl (by kernel_rfl) (by kernel_rfl) (by kernel_rfl) (fun _ _ _ h => h) (Or.inl ⟨by rfl, ?hypz1⟩) (by assumption) ?restpz1
    case hypz1 => (intro u hu; obtain ⟨_, _, _, _, _, _⟩ := hu; go_simp; try with_reducible rfl)
    try simp only [Act.put, List.setIfInBounds_toArray, List.set_cons_zero, List.set_cons_succ, List.getElem_toArray, List.getElem_cons_zero, List.getElem_cons_succ]
    refine wpAnyH_take (i := 3) (v := ?vpz3) rfl (by kernel_rfl) (by kernel_rfl) (by kernel_rfl) (fun _ _ _ h => h) (Or.inl ⟨by rfl, ?hypz3⟩) (by assumption) ?restpz3
    case hypz3 => (intro u hu; obtain ⟨_, _, _, _, _, _⟩ := hu; go_simp; try with_reducible rfl)
    try simp only [Act.put, List.setIfInBounds_toArray, List.set_cons_zero, List.set_cons_succ, List.getElem_toArray, List.getElem_cons_zero, List.getElem_cons_succ]
    refine wpAnyH_take (i := 4) (v := ?vpz4) rfl (by kernel_rfl) (by kernel_rfl) (by kernel_rfl) (fun _ _ _ h => h) (Or.inl ⟨by rfl, ?hypz4⟩) (by assumption) ?restpz4
    case hypz4 => (intro u hu; obtain ⟨_, _, _, _, _, _⟩ := hu; go_simp; try with_reducible rfl)
    try simp only [Act.put, List.setIfInBounds_toArray, List.set_cons_zero, List.set_cons_succ, List.getElem_toArray, List.getElem_cons_zero, List.getElem_cons_succ]
    refine wpAnyH_ready (rs := [2]) (by kernel_rfl) (by simp) ?_
    refine AllReadyH.cons rfl (fun K hK => ?_) AllReadyH.nil
    go_simp
    refine (HM1.out d capd nm _ hnm hat8.out (on2 hb0 hHeld.1)).mono ?_
    rintro e w9 ⟨rfl, hb9⟩
    go_wp2_with fail
    refine hK.out _ _ (HS.out (on2 hHeld.1 hb9)) (fun hHeld2 => ?_)
    clear hK K hHeld
    have hHeld := hHeld2
    clear hHeld2
    try simp only [Act.put, List.setIfInBounds_toArray, List.set_cons_zero, List.set_cons_succ, List.getElem_toArray, List.getElem_cons_zero, List.getElem_cons_succ]
    refine wpAnyH_ready (rs := [5]) (by kernel_rfl) (by simp) ?_
    refine AllReadyH.cons rfl (fun K hK => ?_) AllReadyH.nil
    go_simp
    refine (HM2.out _ (on2 hb0 hHeld.1)).mono ?_
    rintro e w10 ⟨rfl, hb9⟩
    go_wp2_with fail
    refine hK.out _ _ (HS.out (on2 hHeld.1 hb9)) (fun hHeld2 => ?_)
    clear hK K hHeld
    have hHeld := hHeld2
    clear hHeld2
    try simp only [Act.put, List.setIfInBounds_toArray, List.set_cons_zero, List.set_cons_succ, List.getElem_toArray, List.getElem_cons_zero, List.getElem_cons_succ]
    refine wpAnyH_take (i := 6) (v := ?vpz6) rfl (by kernel_rfl) (by kernel_rfl) (by kernel_rfl) (fun _ _ _ h => h) (Or.inl ⟨by rfl, ?hypz6⟩) (by assumption) ?restpz6
    case hypz6 => (intro u hu; obtain ⟨_, _, _, _, _, _⟩ := hu; go_simp; try with_reducible rfl)
    try simp only [Act.put, List.setIfInBounds_toArray, List.set_cons_zero, List.set_cons_succ, List.getElem_toArray, List.getElem_cons_zero, List.getElem_cons_succ]
    refine wpAnyH_take (i := 7) (v := ?vpz7) rfl (by kernel_rfl) (by kernel_rfl) (by kernel_rfl) (fun _ _ _ h => h) (Or.inl ⟨by rfl, ?hypz7⟩) (by assumption) ?restpz7
    case hypz7 => (intro u hu; obtain ⟨_, _, _, _, _, _⟩ := hu; go_simp; try with_reducible rfl)
    try simp only [Act.put, List.setIfInBounds_toArray, List.set_cons_zero, List.set_cons_succ, List.getElem_toArray, List.getElem_cons_zero, List.getElem_cons_succ]
    refine wpAnyH_done (by kernel_rfl) ?_ _
    refine NoPanic.normal ?_
    go_wp2_with fail
    go_ret
    exact ⟨rfl, on2 hb0 hHeld.1⟩
  · go_simp
    refine hK.out _ _ (HS.out (on2 hHeld.1 ((Below.refl _ _).alloc (Nat.le_refl _) _))) (fun hHeld2 => ?_)
    clear hK K hHeld
    have hHeld := hHeld2
    clear hHeld2
    try simp only [Act.put, List.setIfInBounds_toArray, List.set_cons_zero, List.set_cons_succ, List.getElem_toArray, List.getElem_cons_zero, List.getElem_cons_succ]
    refine wpAnyH_ready (rs := [3]) (by kernel_rfl) (by simp) ?_
    refine AllReadyH.cons rfl (fun K hK => ?_) AllReadyH.nil
    go_simp
    refine (HLab.out _ hHeld.1).mono ?_
    rintro e w6 ⟨v6, rfl, hO6⟩
    have hO6w : Own wB w6 52 2 v6 (([] : List Lab)).length (flatL (([] : List Lab))) := ⟨on2 hHeld.1 hO6.1, Go.Joins.ownsRow_le hO6.2 hHeld.1.size⟩
    have hb6 := hO6.1
    clear hO6
    go_wp2_with fail
    refine hK.out _ _ (HS.out hO6w.1) (fun hHeld2 => ?_)
    clear hK K hHeld
    have hHeld := hHeld2
    clear hHeld2
    try simp only [Act.put, List.setIfInBounds_toArray, List.set_cons_zero, List.set_cons_succ, List.getElem_toArray, List.getElem_cons_zero, List.getElem_cons_succ]
    refine wpAnyH_ready (rs := [6]) (by kernel_rfl) (by simp) ?_
    refine AllReadyH.cons rfl (fun K hK => ?_) AllReadyH.nil
    refine append_labsO (w0 := wB) _ _ rfl v6 (([] : List Lab)) rfl (hO6w) (some ⟨w4.heap.size, 0, none⟩) 1 1 [(x, y)] rfl rfl (fun h => by cases h) ((labs_one w4.drew 52 x y hx hy).on hb6) (by simp) ?_
    intro v7 w7 hO7
    refine hK.out _ _ (HS.out hO7.1) (fun hHeld2 => ?_)
    clear hK K hHeld
    have hHeld := hHeld2
    clear hHeld2
    try simp only [Act.put, List.setIfInBounds_toArray, List.set_cons_zero, List.set_cons_succ, List.getElem_toArray, List.getElem_cons_zero, List.getElem_cons_succ]
    refine wpAnyH_ready (rs := [10]) (by kernel_rfl) (by simp) ?_
    refine AllReadyH.cons rfl (fun K hK => ?_) AllReadyH.nil
    refine append_labsO (w0 := wB) _ _ rfl v7 (([] : List Lab) ++ [(x, y)]) rfl hO7 (none) (0) (0) (([] : List Lab)) (HDl.out) rfl (fun h => by first | rfl | cases h) (HDrop.out hO7.1) (by simp) ?_
    intro v8 w8 hO8
    refine hK.out _ _ (HS.out hO8.1) (fun hHeld2 => ?_)
    clear hK K hHeld
    have hHeld := hHeld2
    clear hHeld2
    try simp only [Act.put, List.setIfInBounds_toArray, List.set_cons_zero, List.set_cons_succ, List.getElem_toArray, List.getElem_cons_zero, List.getElem_cons_succ]
    refine wpAnyH_take (i := 11) (v := ?vzqz) rfl (by kernel_rfl) (by kernel_rfl) (by kernel_rfl) (fun _ _ _ h => h) (Or.inl ⟨by rfl, ?hyzqz⟩) (by assumption) ?restzqz
    case hyzqz => (intro u hu; obtain ⟨_, _, _, _, _, _⟩ := hu; go_simp; try with_reducible rfl)
    try simp only [Act.put, List.setIfInBounds_toArray, List.set_cons_zero, List.set_cons_succ, List.getElem_toArray, List.getElem_cons_zero, List.getElem_cons_succ]
    refine wpAnyH_done (by kernel_rfl) ?_ _
    refine NoPanic.normal ?_
    obtain ⟨d, capd, hv8, hat⟩ := labs_of_owns hO8.2 (by simp) HSz.out
    obtain ⟨nm, hnm⟩ : ∃ nm, Hid ((([] : List Lab) ++ [(x, y)] ++ ([] : List Lab)).length = nm) := ⟨_, rfl⟩
    rw [hnm.out] at hv8
    subst hv8
    have hb8 := hO8.1
    have hat8 : Hid (LabsAt w8.drew d (([] : List Lab) ++ [(x, y)] ++ ([] : List Lab))) := hat.on (Below.refl _ _).drew
    clear hO8 hO7 hHeld hat
    go_wp2_with fail
    refine wp_region_noPanic ?_
    refine wp_region_held_drew (S := ApS wB w.heap.size (w.heap.size + 1) key op (.slice b V.length capb) x y) (by kernel_rfl) (HS.out hb8.drew) (fun hHeld => ?_)
    refine wpAnyH_take (i := 0) (v := ?vqz0) rfl (by kernel_rfl) (by kernel_rfl) (by kernel_rfl) (fun _ _ _ h => h) (Or.inl ⟨by rfl, ?hyqz0⟩) (by assumption) ?restqz0
    case hyqz0 => (intro u hu; obtain ⟨_, _, _, _, _, _⟩ := hu; go_simp; try with_reducible rfl)
    try simp only [Act.put, List.setIfInBounds_toArray, List.set_cons_zero, List.set_cons_succ, List.getElem_toArray, List.getElem_cons_zero, List.getElem_cons_succ]
    refine wpAnyH_take (i := 1) (v := ?vqz1) rfl (by kernel_rfl) (by kernel_rfl) (by kernel_rfl) (fun _ _ _ h => h) (Or.inl ⟨by rfl, ?hyqz1⟩) (by assumption) ?restqz1
    case hyqz1 => (intro u hu; obtain ⟨_, _, _, _, _, _⟩ := hu; go_simp; try with_reducible rfl)
    try simp only [Act.put, List.setIfInBounds_toArray, List.set_cons_zero, List.set_cons_succ, List.getElem_toArray, List.getElem_cons_zero, List.getElem_cons_succ]
    refine wpAnyH_take (i := 3) (v := ?vqz3) rfl (by kernel_rfl) (by kernel_rfl) (by kernel_rfl) (fun _ _ _ h => h) (Or.inl ⟨by rfl, ?hyqz3⟩) (by assumption) ?restqz3
    case hyqz3 => (intro u hu; obtain ⟨_, _, _, _, _, _⟩ := hu; go_simp; try with_reducible rfl)
    try simp only [Act.put, List.setIfInBounds_toArray, List.set_cons_zero, List.set_cons_succ, List.getElem_toArray, List.getElem_cons_zero, List.getElem_cons_succ]
    refine wpAnyH_take (i := 4) (v := ?vqz4) rfl (by kernel_rfl) (by kernel_rfl) (by kernel_rfl) (fun _ _ _ h => h) (Or.inl ⟨by rfl, ?hyqz4⟩) (by assumption) ?restqz4
    case hyqz4 => (intro u hu; obtain ⟨_, _, _, _, _, _⟩ := hu; go_simp; try with_reducible rfl)
    try simp only [Act.put, List.setIfInBounds_toArray, List.set_cons_zero, List.set_cons_succ, List.getElem_toArray, List.getElem_cons_zero, List.getElem_cons_succ]
    refine wpAnyH_ready (rs := [2]) (by kernel_rfl) (by simp) ?_
    refine AllReadyH.cons rfl (fun K hK => ?_) AllReadyH.nil
    go_simp
    refine (HM1.out d capd nm _ hnm hat8.out (on2 hb0 hHeld.1)).mono ?_
    rintro e w9 ⟨rfl, hb9⟩
    go_wp2_with fail
    refine hK.out _ _ (HS.out (on2 hHeld.1 hb9)) (fun hHeld2 => ?_)
    clear hK K hHeld
    have hHeld := hHeld2
    clear hHeld2
    try simp only [Act.put, List.setIfInBounds_toArray, List.set_cons_zero, List.set_cons_succ, List.getElem_toArray, List.getElem_cons_zero, List.getElem_cons_succ]
    refine wpAnyH_ready (rs := [5]) (by kernel_rfl) (by simp) ?_
    refine AllReadyH.cons rfl (fun K hK => ?_) AllReadyH.nil
    go_simp
    refine (HM2.out _ (on2 hb0 hHeld.1)).mono ?_
    rintro e w10 ⟨rfl, hb9⟩
    go_wp2_with fail
    refine hK.out _ _ (HS.out (on2 hHeld.1 hb9)) (fun hHeld2 => ?_)
    clear hK K hHeld
    have hHeld := hHeld2
    clear hHeld2
    try simp only [Act.put, List.setIfInBounds_toArray, List.set_cons_zero, List.set_cons_succ, List.getElem_toArray, List.getElem_cons_zero, List.getElem_cons_succ]
    refine wpAnyH_take (i := 6) (v := ?vqz6) rfl (by kernel_rfl) (by kernel_rfl) (by kernel_rfl) (fun _ _ _ h => h) (Or.inl ⟨by rfl, ?hyqz6⟩) (by assumption) ?restqz6
    case hyqz6 => (intro u hu; obtain ⟨_, _, _, _, _, _⟩ := hu; go_simp; try with_reducible rfl)
    try simp only [Act.put, List.setIfInBounds_toArray, List.set_cons_zero, List.set_cons_succ, List.getElem_toArray, List.getElem_cons_zero, List.getElem_cons_succ]
    refine wpAnyH_take (i := 7) (v := ?vqz7) rfl (by kernel_rfl) (by kernel_rfl) (by kernel_rfl) (fun _ _ _ h => h) (Or.inl ⟨by rfl, ?hyqz7⟩) (by assumption) ?restqz7
    case hyqz7 => (intro u hu; obtain ⟨_, _, _, _, _, _⟩ := hu; go_simp; try with_reducible rfl)
    try simp only [Act.put, List.setIfInBounds_toArray, List.set_cons_zero, List.set_cons_succ, List.getElem_toArray, List.getElem_cons_zero, List.getElem_cons_succ]
    refine wpAnyH_done (by kernel_rfl) ?_ _
    refine NoPanic.normal ?_
    go_wp2_with fail
    go_ret
    exact ⟨rfl, on2 hb0 hHeld.1⟩
end Go.Proofs.Ytpehmobedcflnaa.labelApart
