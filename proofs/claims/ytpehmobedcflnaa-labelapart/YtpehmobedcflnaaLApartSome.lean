/- The law LabelApart holds of the program: a label of another key changes nothing of what is met; the chapter's example comes out. For every input; no condition. -/
import Derived.Test.YtpehmobedcflnaaLApartBase
namespace Go.Proofs.Ytpehmobedcflnaa.labelApart
open Go.ChangeShapes Go.WideShapes Go.ChangeAt Go.RowKit
set_option linter.unusedSimpArgs false

/-- The two boxes hold what came in, and nothing that was there has turned. -/
def ApS (wB : World) (D E : Nat) (key : ByteArray) (op : Int) (v : Value) (x y : ByteArray) (u : World) : Prop :=
  Below wB.heap.size wB u ∧ u.cell? ⟨D, 0, none⟩ = some (.string key) ∧ u.cell? ⟨D, 1, none⟩ = some (.int .i64 op) ∧ u.cell? ⟨D, 2, none⟩ = some v ∧ u.cell? ⟨E, 0, none⟩ = some (.string x) ∧ u.cell? ⟨E, 1, none⟩ = some (.string y)
theorem ApS.to {wB u' : World} {D E : Nat} {key : ByteArray} {op : Int} {v : Value} {x y : ByteArray} (h : ApS wB D E key op v x y wB) (hD : D < wB.heap.size) (hE : E < wB.heap.size) (hb : Below wB.heap.size wB u') : ApS wB D E key op v x y u' := by
  obtain ⟨_, h1, h2, h3, h4, h5⟩ := h
  exact ⟨hb, (hb.cell hD).trans h1, (hb.cell hD).trans h2, (hb.cell hD).trans h3, (hb.cell hE).trans h4, (hb.cell hE).trans h5⟩
theorem ApS.start (w : World) (key : ByteArray) (op : Int) (a : Option Addr) (n cap : Nat) (x y : ByteArray) : ApS ((w.alloc (.cells #[.string key, .int .i64 op, .slice a n cap] 41)).alloc (.cells #[.string x, .string y] 52)) w.heap.size (w.heap.size + 1) key op (.slice a n cap) x y ((w.alloc (.cells #[.string key, .int .i64 op, .slice a n cap] 41)).alloc (.cells #[.string x, .string y] 52)) :=
  ⟨Below.refl _ _, by simp [go_sem], by simp [go_sem], by simp [go_sem], by simp [go_sem], by simp [go_sem]⟩

set_option maxHeartbeats 4000000 in
theorem walk_some (ad : Addr) (cap : Nat) (L : List Lab) (key : ByteArray) (op : Int) (b : Option Addr) (capb : Nat) (V : List ByteArray) (x y : ByteArray) (n : Int) (w : World) (hL : Hid (LabsAt w (some ad) L)) (hLb : L.length * 32 ≤ 140737488351232) (hV : Hid (StrsAt w b V)) (hx : x.size ≤ 140737488355328) (hy : y.size ≤ 140737488355328) (hcap : L.length ≤ cap) (hne : sEq x key = false) :
    Calls Try.prog 8 #[.slice (some ad) L.length cap, .agg #[.string key, .int .i64 op, .slice b V.length capb], .agg #[.string x, .string y], .int .i64 n] w fun e w' => e = .returned (.bool true) ∧ Below w.heap.size w w' := by
  have hS0 := ApS.start w key op b V.length capb x y
  have hb0 : Below w.heap.size w ((w.alloc (.cells #[.string key, .int .i64 op, .slice b V.length capb] 41)).alloc (.cells #[.string x, .string y] 52)) := by go_grown
  have hne' : (x.toList == key.toList) = false := hne
  have hAm := Among_calls n (L.length + 1) (by omega) (by omega)
  have hwk := works_calls ((w.alloc (.cells #[.string key, .int .i64 op, .slice b V.length capb] 41)).alloc (.cells #[.string x, .string y] 52))
  have hL' : Hid (∀ {u : World}, Below w.heap.size w u → LabsAt u (some ad) L) := fun h => hL.out.on h
  have hV' : Hid (∀ {u : World}, Below w.heap.size w u → StrsAt u b V) := fun h => hV.out.on h
  have hD : w.heap.size < ((w.alloc (.cells #[.string key, .int .i64 op, .slice b V.length capb] 41)).alloc (.cells #[.string x, .string y] 52)).heap.size := by simp; omega
  have hE : w.heap.size + 1 < ((w.alloc (.cells #[.string key, .int .i64 op, .slice b V.length capb] 41)).alloc (.cells #[.string x, .string y] 52)).heap.size := by simp
  have HS : Hid (∀ {u : World}, Below ((w.alloc (.cells #[.string key, .int .i64 op, .slice b V.length capb] 41)).alloc (.cells #[.string x, .string y] 52)).heap.size ((w.alloc (.cells #[.string key, .int .i64 op, .slice b V.length capb] 41)).alloc (.cells #[.string x, .string y] 52)) u → ApS ((w.alloc (.cells #[.string key, .int .i64 op, .slice b V.length capb] 41)).alloc (.cells #[.string x, .string y] 52)) w.heap.size (w.heap.size + 1) key op (.slice b V.length capb) x y u) := fun hb => hS0.to hD hE hb
  clear hL hV hS0
  go_enter Try.func8, Try.ntmps8
  go_wp2_with fail
  refine hwk.mono ?_
  rintro e w3 ⟨rfl, hb3⟩
  clear hwk
  generalize hwB : ((w.alloc (.cells #[.string key, .int .i64 op, .slice b V.length capb] 41)).alloc (.cells #[.string x, .string y] 52)) = wB at hb3 HS hb0 hD hE
  obtain ⟨_, c0, c1, c2, c3, c4⟩ := HS.out hb3
  have hlen1 : IntKind.i64.wrap ((L.length : Int) + 1) = ((L.length + 1 : Nat) : Int) := by simp [IntKind.wrap, IntKind.bits, IntKind.signed]; omega
  go_wp2_with fail
  refine (hAm _).mono ?_
  rintro e w4 ⟨⟨k, rfl, hk⟩, rfl⟩
  clear hAm c0 c1 c2 c3 c4
  have hb4 := hb3
  go_wp2_with fail
  refine wp_region_noPanic ?_
  have hk2 : (k : Int) ≤ (L.length : Int) := by omega
  have hk0 : (0 : Int) ≤ (k : Int) := by omega
  have hkl : Hid (L.length * 32 ≤ 140737488351232 ∧ k ≤ L.length) := ⟨hLb, by omega⟩
  have hk1 : (k : Int) ≤ (cap : Int) := by omega
  have HLs : Hid (∀ z ∈ L, z.1.size ≤ 140737488355328 ∧ z.2.size ≤ 140737488355328) := (hL'.out (Below.refl _ _)).2.1
  have HLab : Hid (∀ u, Below wB.heap.size wB u → Calls Try.prog 9 #[.slice (some ad) k cap] u fun e w' => ∃ v, e = .returned v ∧ Own u w' 52 2 v (L.take k).length (flatL (L.take k))) := fun u hu => by
    have h1 := hL'.out (on2 hb0 hu)
    have hl : (L.take k).length = k := by rw [List.length_take]; omega
    have h2 : LabsAt u (some ad) (L.take k) := by
      refine ⟨by rw [hl]; omega, fun z hz => HLs.out z (List.mem_of_mem_take hz), fun hn => ?_⟩
      obtain ⟨B, off, e, hB, hc⟩ := h1.2.2 (fun e => hn (by rw [e]; simp))
      refine ⟨B, off, e, hB, fun i hi => ?_⟩
      have hi' : i < k := by rw [hl] at hi; exact hi
      have := hc i (by omega)
      have e2 : (L.take k).getD i default = L.getD i default := by rw [getD_get _ _ hi, getD_get _ _ (show i < L.length by omega)]; simp
      rw [e2]; exact this
    have := Labels_calls (some ad) cap (L.take k) u h2 (by rw [hl]; omega)
    have e3 : Value.slice (some ad) (L.take k).length cap = .slice (some ad) k cap := by rw [hl]
    rw [e3] at this
    exact this
  have HDl : Hid ((L.drop k).length = L.length - k) := by simp [Hid]
  have HCap : Hid ((if cap = k then some ad else some (ad.add (k * 2))) = none → cap - k = 0) := fun h => by split at h <;> cases h
  have HDrop : Hid (∀ {u : World}, Below wB.heap.size wB u → LabsAt u (if cap = k then some ad else some (ad.add (k * 2))) (L.drop k)) := fun {u} hu => by
    have h1 := hL'.out (on2 hb0 hu)
    refine ⟨by simp; omega, fun z hz => HLs.out z (List.mem_of_mem_drop hz), fun hn => ?_⟩
    have hkl : k < L.length := by
      rcases Nat.lt_or_ge k L.length with h | h
      · exact h
      · exact absurd (List.drop_eq_nil_of_le h) hn
    obtain ⟨B, off, e, hB, hc⟩ := h1.2.2 (fun e => by rw [e] at hkl; simp at hkl)
    obtain rfl : ad = ⟨B, off, none⟩ := by simpa using e
    refine ⟨B, off + k * 2, ?_, hB, fun i hi => ?_⟩
    · rw [if_neg (by omega)]
      have ha : (⟨B, off, none⟩ : Addr).add (k * 2) = ⟨B, off + k * 2, none⟩ := by unfold Addr.add; split <;> simp_all
      rw [ha]
    · have hi' : k + i < L.length := by simp at hi; omega
      have e2 : (L.drop k).getD i default = L.getD (k + i) default := by rw [getD_get _ _ hi, getD_get _ _ hi']; simp
      have := hc (k + i) hi'
      rw [e2, show off + k * 2 + i * 2 = off + (k + i) * 2 by omega]
      exact this
  have HSz : Hid (∀ z ∈ (L.take k) ++ [(x, y)] ++ (L.drop k), z.1.size ≤ 140737488355328 ∧ z.2.size ≤ 140737488355328) := by
    intro z hz
    simp only [List.mem_append, List.mem_singleton] at hz
    rcases hz with (hz | rfl) | hz
    · exact HLs.out z (List.mem_of_mem_take hz)
    · exact ⟨hx, hy⟩
    · exact HLs.out z (List.mem_of_mem_drop hz)
  have HEQ : Hid (meetsL ((L.take k) ++ [(x, y)] ++ (L.drop k)) ⟨key, op, V⟩ = meetsL L ⟨key, op, V⟩) := by
    rw [Hid, meetsL_apart _ _ (x, y) ⟨key, op, V⟩ hne]
    rw [List.take_append_drop]
  have HM1 : Hid (∀ (d : Option Addr) (capd nm : Nat) (u : World), Hid (((L.take k) ++ [(x, y)] ++ (L.drop k)).length = nm) → LabsAt u d ((L.take k) ++ [(x, y)] ++ (L.drop k)) → Below w.heap.size w u → Calls Try.prog 26 #[.slice d nm capd, .agg #[.string key, .int .i64 op, .slice b V.length capb]] u fun e w' => e = .returned (.bool (meetsL L ⟨key, op, V⟩)) ∧ Below u.heap.size u w') := fun d capd nm u hn h1 h2 => by
    have := Meets_calls d capd ((L.take k) ++ [(x, y)] ++ (L.drop k)) key op b capb V u h1 (hV'.out h2)
    rw [HEQ.out, hn.out] at this
    exact this
  have HM2 : Hid (∀ (u : World), Below w.heap.size w u → Calls Try.prog 26 #[.slice (some ad) L.length cap, .agg #[.string key, .int .i64 op, .slice b V.length capb]] u fun e w' => e = .returned (.bool (meetsL L ⟨key, op, V⟩)) ∧ Below u.heap.size u w') := fun u h2 => Meets_calls (some ad) cap L key op b capb V u (hL'.out h2) (hV'.out h2)
  generalize meetsL L ⟨key, op, V⟩ = tt at HM1 HM2
  have htt : (tt == tt) = true := by simp
  by_cases hck : cap = k
  · obtain rfl : k = cap := hck.symm
    simp only [if_true] at HDrop
    clear HDl HCap
    have HDl : Hid ((L.drop k).length = 0) := by simp [Hid]; omega
    have HCap : Hid (some ad = none → (0 : Nat) = 0) := fun _ => rfl
    skip
    refine wp_region_held_drew (S := ApS wB w.heap.size (w.heap.size + 1) key op (.slice b V.length capb) x y) (by kernel_rfl) (HS.out hb4.drew) (fun hHeld => ?_)
    refine wpAnyH_take (i := 0) (v := ?vae0) rfl (by kernel_rfl) (by kernel_rfl) (by kernel_rfl) (fun _ _ _ h => h) (Or.inl ⟨by rfl, ?hyae0⟩) (by assumption) ?restae0
    case hyae0 => (intro u hu; obtain ⟨_, _, _, _, _, _⟩ := hu; go_simp; try with_reducible rfl)
    try simp only [Act.put, List.setIfInBounds_toArray, List.set_cons_zero, List.set_cons_succ, List.getElem_toArray, List.getElem_cons_zero, List.getElem_cons_succ]
    refine wpAnyH_take (i := 1) (v := ?vae1) rfl (by kernel_rfl) (by kernel_rfl) (by kernel_rfl) (fun _ _ _ h => h) (Or.inl ⟨by rfl, ?hyae1⟩) (by assumption) ?restae1
    case hyae1 => (intro u hu; obtain ⟨_, _, _, _, _, _⟩ := hu; go_simp; try with_reducible rfl)
    try simp only [Act.put, List.setIfInBounds_toArray, List.set_cons_zero, List.set_cons_succ, List.getElem_toArray, List.getElem_cons_zero, List.getElem_cons_succ]
    refine wpAnyH_take (i := 2) (v := ?vae2) rfl (by kernel_rfl) (by kernel_rfl) (by kernel_rfl) (fun _ _ _ h => h) (Or.inl ⟨by rfl, ?hyae2⟩) (by assumption) ?restae2
    case hyae2 => (intro u hu; obtain ⟨_, _, _, _, _, _⟩ := hu; go_simp; try with_reducible rfl)
    try simp only [Act.put, List.setIfInBounds_toArray, List.set_cons_zero, List.set_cons_succ, List.getElem_toArray, List.getElem_cons_zero, List.getElem_cons_succ]
    refine wpAnyH_take (i := 4) (v := ?vae4) rfl (by kernel_rfl) (by kernel_rfl) (by kernel_rfl) (fun _ _ _ h => h) (Or.inl ⟨by rfl, ?hyae4⟩) (by assumption) ?restae4
    case hyae4 => (intro u hu; obtain ⟨_, _, _, _, _, _⟩ := hu; go_simp; try with_reducible rfl)
    try simp only [Act.put, List.setIfInBounds_toArray, List.set_cons_zero, List.set_cons_succ, List.getElem_toArray, List.getElem_cons_zero, List.getElem_cons_succ]
    refine wpAnyH_take (i := 7) (v := ?vae7) rfl (by kernel_rfl) (by kernel_rfl) (by kernel_rfl) (fun _ _ _ h => h) (Or.inl ⟨by rfl, ?hyae7⟩) (by assumption) ?restae7
    case hyae7 => (intro u hu; obtain ⟨_, _, _, _, _, _⟩ := hu; go_simp; try with_reducible rfl)
    try simp only [Act.put, List.setIfInBounds_toArray, List.set_cons_zero, List.set_cons_succ, List.getElem_toArray, List.getElem_cons_zero, List.getElem_cons_succ]
    refine wpAnyH_take (i := 8) (v := ?vae8) rfl (by kernel_rfl) (by kernel_rfl) (by kernel_rfl) (fun _ _ _ h => h) (Or.inl ⟨by rfl, ?hyae8⟩) (by assumption) ?restae8
    case hyae8 => (intro u hu; obtain ⟨_, _, _, _, _, _⟩ := hu; go_simp; try with_reducible rfl)
    try simp only [Act.put, List.setIfInBounds_toArray, List.set_cons_zero, List.set_cons_succ, List.getElem_toArray, List.getElem_cons_zero, List.getElem_cons_succ]
    refine wpAnyH_take (i := 9) (v := ?vae9) rfl (by kernel_rfl) (by kernel_rfl) (by kernel_rfl) (fun _ _ _ h => h) (Or.inl ⟨by rfl, ?hyae9⟩) (by assumption) ?restae9
    case hyae9 => (intro u hu; obtain ⟨_, _, _, _, _, _⟩ := hu; go_simp; try with_reducible rfl)
    try simp only [Act.put, List.setIfInBounds_toArray, List.set_cons_zero, List.set_cons_succ, List.getElem_toArray, List.getElem_cons_zero, List.getElem_cons_succ]
    refine wpAnyH_ready (rs := [3, 5]) (by kernel_rfl) (by simp) ?_
    refine AllReadyH.cons rfl (fun K hK => ?_) (AllReadyH.cons rfl (fun K hK => ?_) AllReadyH.nil)
    · go_simp
      refine (HLab.out _ hHeld.1).mono ?_
      rintro e w6 ⟨v6, rfl, hO6⟩
      have hO6w : Own wB w6 52 2 v6 ((L.take k)).length (flatL ((L.take k))) := ⟨on2 hHeld.1 hO6.1, Go.Joins.ownsRow_le hO6.2 hHeld.1.size⟩
      have hb6 := hO6.1
      clear hO6
      go_wp2_with fail
      refine hK.out _ _ (HS.out hO6w.1) (fun hHeld2 => ?_)
      clear hK K hHeld
      have hHeld := hHeld2
      clear hHeld2
      try simp only [Act.put, List.setIfInBounds_toArray, List.set_cons_zero, List.set_cons_succ, List.getElem_toArray, List.getElem_cons_zero, List.getElem_cons_succ]
      refine wpAnyH_ready (rs := [5]) (by kernel_rfl) (by simp) ?_
      refine AllReadyH.cons rfl (fun K hK => ?_) AllReadyH.nil
      go_simp
      refine hK.out _ _ (HS.out (on2 hHeld.1 ((Below.refl _ _).alloc (Nat.le_refl _) _))) (fun hHeld2 => ?_)
      clear hK K hHeld
      have hHeld := hHeld2
      clear hHeld2
      try simp only [Act.put, List.setIfInBounds_toArray, List.set_cons_zero, List.set_cons_succ, List.getElem_toArray, List.getElem_cons_zero, List.getElem_cons_succ]
      refine wpAnyH_ready (rs := [6]) (by kernel_rfl) (by simp) ?_
      refine AllReadyH.cons rfl (fun K hK => ?_) AllReadyH.nil
      refine append_labsO (w0 := wB) _ _ rfl v6 ((L.take k)) rfl (hO6w.on (by go_grown)) (some ⟨w6.heap.size, 0, none⟩) 1 1 [(x, y)] rfl rfl (fun h => by cases h) (labs_one _ _ x y hx hy) (by have := hkl.out; simp; omega) ?_
      intro v7 w7 hO7
      refine hK.out _ _ (HS.out hO7.1) (fun hHeld2 => ?_)
      clear hK K hHeld
      have hHeld := hHeld2
      clear hHeld2
      try simp only [Act.put, List.setIfInBounds_toArray, List.set_cons_zero, List.set_cons_succ, List.getElem_toArray, List.getElem_cons_zero, List.getElem_cons_succ]
      refine wpAnyH_ready (rs := [10]) (by kernel_rfl) (by simp) ?_
      refine AllReadyH.cons rfl (fun K hK => ?_) AllReadyH.nil
      refine append_labsO (w0 := wB) _ _ rfl v7 ((L.take k) ++ [(x, y)]) rfl hO7 (some ad) (0) (0) ((L.drop k)) (HDl.out) rfl (fun h => by first | rfl | cases h) (HDrop.out hO7.1) (by have := hkl.out; simp; omega) ?_
      intro v8 w8 hO8
      refine hK.out _ _ (HS.out hO8.1) (fun hHeld2 => ?_)
      clear hK K hHeld
      have hHeld := hHeld2
      clear hHeld2
      try simp only [Act.put, List.setIfInBounds_toArray, List.set_cons_zero, List.set_cons_succ, List.getElem_toArray, List.getElem_cons_zero, List.getElem_cons_succ]
      refine wpAnyH_take (i := 11) (v := ?vzpe) rfl (by kernel_rfl) (by kernel_rfl) (by kernel_rfl) (fun _ _ _ h => h) (Or.inl ⟨by rfl, ?hyzpe⟩) (by assumption) ?restzpe
      case hyzpe => (intro u hu; obtain ⟨_, _, _, _, _, _⟩ := hu; go_simp; try with_reducible rfl)
      try simp only [Act.put, List.setIfInBounds_toArray, List.set_cons_zero, List.set_cons_succ, List.getElem_toArray, List.getElem_cons_zero, List.getElem_cons_succ]
      refine wpAnyH_done (by kernel_rfl) ?_ _
      refine NoPanic.normal ?_
      obtain ⟨d, capd, hv8, hat⟩ := labs_of_owns hO8.2 (by have := hkl.out; simp; omega) HSz.out
      obtain ⟨nm, hnm⟩ : ∃ nm, Hid (((L.take k) ++ [(x, y)] ++ (L.drop k)).length = nm) := ⟨_, rfl⟩
      rw [hnm.out] at hv8
      subst hv8
      have hb8 := hO8.1
      have hat8 : Hid (LabsAt w8.drew d ((L.take k) ++ [(x, y)] ++ (L.drop k))) := hat.on (Below.refl _ _).drew
      clear hO8 hO7 hHeld hat
      go_wp2_with fail
      refine wp_region_noPanic ?_
      refine wp_region_held_drew (S := ApS wB w.heap.size (w.heap.size + 1) key op (.slice b V.length capb) x y) (by kernel_rfl) (HS.out hb8.drew) (fun hHeld => ?_)
      refine wpAnyH_take (i := 0) (v := ?vpe0) rfl (by kernel_rfl) (by kernel_rfl) (by kernel_rfl) (fun _ _ _ h => h) (Or.inl ⟨by rfl, ?hype0⟩) (by assumption) ?restpe0
      case hype0 => (intro u hu; obtain ⟨_, _, _, _, _, _⟩ := hu; go_simp; try with_reducible rfl)
      try simp only [Act.put, List.setIfInBounds_toArray, List.set_cons_zero, List.set_cons_succ, List.getElem_toArray, List.getElem_cons_zero, List.getElem_cons_succ]
      refine wpAnyH_take (i := 1) (v := ?vpe1) rfl (by kernel_rfl) (by kernel_rfl) (by kernel_rfl) (fun _ _ _ h => h) (Or.inl ⟨by rfl, ?hype1⟩) (by assumption) ?restpe1
      case hype1 => (intro u hu; obtain ⟨_, _, _, _, _, _⟩ := hu; go_simp; try with_reducible rfl)
      try simp only [Act.put, List.setIfInBounds_toArray, List.set_cons_zero, List.set_cons_succ, List.getElem_toArray, List.getElem_cons_zero, List.getElem_cons_succ]
      refine wpAnyH_take (i := 3) (v := ?vpe3) rfl (by kernel_rfl) (by kernel_rfl) (by kernel_rfl) (fun _ _ _ h => h) (Or.inl ⟨by rfl, ?hype3⟩) (by assumption) ?restpe3
      case hype3 => (intro u hu; obtain ⟨_, _, _, _, _, _⟩ := hu; go_simp; try with_reducible rfl)
      try simp only [Act.put, List.setIfInBounds_toArray, List.set_cons_zero, List.set_cons_succ, List.getElem_toArray, List.getElem_cons_zero, List.getElem_cons_succ]
      refine wpAnyH_take (i := 4) (v := ?vpe4) rfl (by kernel_rfl) (by kernel_rfl) (by kernel_rfl) (fun _ _ _ h => h) (Or.inl ⟨by rfl, ?hype4⟩) (by assumption) ?restpe4
      case hype4 => (intro u hu; obtain ⟨_, _, _, _, _, _⟩ := hu; go_simp; try with_reducible rfl)
      try simp only [Act.put, List.setIfInBounds_toArray, List.set_cons_zero, List.set_cons_succ, List.getElem_toArray, List.getElem_cons_zero, List.getElem_cons_succ]
      refine wpAnyH_ready (rs := [2]) (by kernel_rfl) (by simp) ?_
      refine AllReadyH.cons rfl (fun K hK => ?_) AllReadyH.nil
      go_simp
      refine (HM1.out d capd nm _ hnm hat8.out (on2 hb0 hHeld.1)).mono ?_
      rintro e w9 ⟨rfl, hb9⟩
      go_wp2_with fail
      refine hK.out _ _ (HS.out (on2 hHeld.1 hb9)) (fun hHeld2 => ?_)
      clear hK K hHeld
      have hHeld := hHeld2
      clear hHeld2
      try simp only [Act.put, List.setIfInBounds_toArray, List.set_cons_zero, List.set_cons_succ, List.getElem_toArray, List.getElem_cons_zero, List.getElem_cons_succ]
      refine wpAnyH_ready (rs := [5]) (by kernel_rfl) (by simp) ?_
      refine AllReadyH.cons rfl (fun K hK => ?_) AllReadyH.nil
      go_simp
      refine (HM2.out _ (on2 hb0 hHeld.1)).mono ?_
      rintro e w10 ⟨rfl, hb9⟩
      go_wp2_with fail
      refine hK.out _ _ (HS.out (on2 hHeld.1 hb9)) (fun hHeld2 => ?_)
      clear hK K hHeld
      have hHeld := hHeld2
      clear hHeld2
      try simp only [Act.put, List.setIfInBounds_toArray, List.set_cons_zero, List.set_cons_succ, List.getElem_toArray, List.getElem_cons_zero, List.getElem_cons_succ]
      refine wpAnyH_take (i := 6) (v := ?vpe6) rfl (by kernel_rfl) (by kernel_rfl) (by kernel_rfl) (fun _ _ _ h => h) (Or.inl ⟨by rfl, ?hype6⟩) (by assumption) ?restpe6
      case hype6 => (intro u hu; obtain ⟨_, _, _, _, _, _⟩ := hu; go_simp; try with_reducible rfl)
      try simp only [Act.put, List.setIfInBounds_toArray, List.set_cons_zero, List.set_cons_succ, List.getElem_toArray, List.getElem_cons_zero, List.getElem_cons_succ]
      refine wpAnyH_take (i := 7) (v := ?vpe7) rfl (by kernel_rfl) (by kernel_rfl) (by kernel_rfl) (fun _ _ _ h => h) (Or.inl ⟨by rfl, ?hype7⟩) (by assumption) ?restpe7
      case hype7 => (intro u hu; obtain ⟨_, _, _, _, _, _⟩ := hu; go_simp; try with_reducible rfl)
      try simp only [Act.put, List.setIfInBounds_toArray, List.set_cons_zero, List.set_cons_succ, List.getElem_toArray, List.getElem_cons_zero, List.getElem_cons_succ]
      refine wpAnyH_done (by kernel_rfl) ?_ _
      refine NoPanic.normal ?_
      go_wp2_with fail
      go_ret
      exact ⟨rfl, on2 hb0 hHeld.1⟩
    · go_simp
      refine hK.out _ _ (HS.out (on2 hHeld.1 ((Below.refl _ _).alloc (Nat.le_refl _) _))) (fun hHeld2 => ?_)
      clear hK K hHeld
      have hHeld := hHeld2
      clear hHeld2
      try simp only [Act.put, List.setIfInBounds_toArray, List.set_cons_zero, List.set_cons_succ, List.getElem_toArray, List.getElem_cons_zero, List.getElem_cons_succ]
      refine wpAnyH_ready (rs := [3]) (by kernel_rfl) (by simp) ?_
      refine AllReadyH.cons rfl (fun K hK => ?_) AllReadyH.nil
      go_simp
      refine (HLab.out _ hHeld.1).mono ?_
      rintro e w6 ⟨v6, rfl, hO6⟩
      have hO6w : Own wB w6 52 2 v6 ((L.take k)).length (flatL ((L.take k))) := ⟨on2 hHeld.1 hO6.1, Go.Joins.ownsRow_le hO6.2 hHeld.1.size⟩
      have hb6 := hO6.1
      clear hO6
      go_wp2_with fail
      refine hK.out _ _ (HS.out hO6w.1) (fun hHeld2 => ?_)
      clear hK K hHeld
      have hHeld := hHeld2
      clear hHeld2
      try simp only [Act.put, List.setIfInBounds_toArray, List.set_cons_zero, List.set_cons_succ, List.getElem_toArray, List.getElem_cons_zero, List.getElem_cons_succ]
      refine wpAnyH_ready (rs := [6]) (by kernel_rfl) (by simp) ?_
      refine AllReadyH.cons rfl (fun K hK => ?_) AllReadyH.nil
      refine append_labsO (w0 := wB) _ _ rfl v6 ((L.take k)) rfl (hO6w) (some ⟨w4.heap.size, 0, none⟩) 1 1 [(x, y)] rfl rfl (fun h => by cases h) ((labs_one w4.drew 52 x y hx hy).on hb6) (by have := hkl.out; simp; omega) ?_
      intro v7 w7 hO7
      refine hK.out _ _ (HS.out hO7.1) (fun hHeld2 => ?_)
      clear hK K hHeld
      have hHeld := hHeld2
      clear hHeld2
      try simp only [Act.put, List.setIfInBounds_toArray, List.set_cons_zero, List.set_cons_succ, List.getElem_toArray, List.getElem_cons_zero, List.getElem_cons_succ]
      refine wpAnyH_ready (rs := [10]) (by kernel_rfl) (by simp) ?_
      refine AllReadyH.cons rfl (fun K hK => ?_) AllReadyH.nil
      refine append_labsO (w0 := wB) _ _ rfl v7 ((L.take k) ++ [(x, y)]) rfl hO7 (some ad) (0) (0) ((L.drop k)) (HDl.out) rfl (fun h => by first | rfl | cases h) (HDrop.out hO7.1) (by have := hkl.out; simp; omega) ?_
      intro v8 w8 hO8
      refine hK.out _ _ (HS.out hO8.1) (fun hHeld2 => ?_)
      clear hK K hHeld
      have hHeld := hHeld2
      clear hHeld2
      try simp only [Act.put, List.setIfInBounds_toArray, List.set_cons_zero, List.set_cons_succ, List.getElem_toArray, List.getElem_cons_zero, List.getElem_cons_succ]
      refine wpAnyH_take (i := 11) (v := ?vzqe) rfl (by kernel_rfl) (by kernel_rfl) (by kernel_rfl) (fun _ _ _ h => h) (Or.inl ⟨by rfl, ?hyzqe⟩) (by assumption) ?restzqe
      case hyzqe => (intro u hu; obtain ⟨_, _, _, _, _, _⟩ := hu; go_simp; try with_reducible rfl)
      try simp only [Act.put, List.setIfInBounds_toArray, List.set_cons_zero, List.set_cons_succ, List.getElem_toArray, List.getElem_cons_zero, List.getElem_cons_succ]
      refine wpAnyH_done (by kernel_rfl) ?_ _
      refine NoPanic.normal ?_
      obtain ⟨d, capd, hv8, hat⟩ := labs_of_owns hO8.2 (by have := hkl.out; simp; omega) HSz.out
      obtain ⟨nm, hnm⟩ : ∃ nm, Hid (((L.take k) ++ [(x, y)] ++ (L.drop k)).length = nm) := ⟨_, rfl⟩
      rw [hnm.out] at hv8
      subst hv8
      have hb8 := hO8.1
      have hat8 : Hid (LabsAt w8.drew d ((L.take k) ++ [(x, y)] ++ (L.drop k))) := hat.on (Below.refl _ _).drew
      clear hO8 hO7 hHeld hat
      go_wp2_with fail
      refine wp_region_noPanic ?_
      refine wp_region_held_drew (S := ApS wB w.heap.size (w.heap.size + 1) key op (.slice b V.length capb) x y) (by kernel_rfl) (HS.out hb8.drew) (fun hHeld => ?_)
      refine wpAnyH_take (i := 0) (v := ?vqe0) rfl (by kernel_rfl) (by kernel_rfl) (by kernel_rfl) (fun _ _ _ h => h) (Or.inl ⟨by rfl, ?hyqe0⟩) (by assumption) ?restqe0
      case hyqe0 => (intro u hu; obtain ⟨_, _, _, _, _, _⟩ := hu; go_simp; try with_reducible rfl)
      try simp only [Act.put, List.setIfInBounds_toArray, List.set_cons_zero, List.set_cons_succ, List.getElem_toArray, List.getElem_cons_zero, List.getElem_cons_succ]
      refine wpAnyH_take (i := 1) (v := ?vqe1) rfl (by kernel_rfl) (by kernel_rfl) (by kernel_rfl) (fun _ _ _ h => h) (Or.inl ⟨by rfl, ?hyqe1⟩) (by assumption) ?restqe1
      case hyqe1 => (intro u hu; obtain ⟨_, _, _, _, _, _⟩ := hu; go_simp; try with_reducible rfl)
      try simp only [Act.put, List.setIfInBounds_toArray, List.set_cons_zero, List.set_cons_succ, List.getElem_toArray, List.getElem_cons_zero, List.getElem_cons_succ]
      refine wpAnyH_take (i := 3) (v := ?vqe3) rfl (by kernel_rfl) (by kernel_rfl) (by kernel_rfl) (fun _ _ _ h => h) (Or.inl ⟨by rfl, ?hyqe3⟩) (by assumption) ?restqe3
      case hyqe3 => (intro u hu; obtain ⟨_, _, _, _, _, _⟩ := hu; go_simp; try with_reducible rfl)
      try simp only [Act.put, List.setIfInBounds_toArray, List.set_cons_zero, List.set_cons_succ, List.getElem_toArray, List.getElem_cons_zero, List.getElem_cons_succ]
      refine wpAnyH_take (i := 4) (v := ?vqe4) rfl (by kernel_rfl) (by kernel_rfl) (by kernel_rfl) (fun _ _ _ h => h) (Or.inl ⟨by rfl, ?hyqe4⟩) (by assumption) ?restqe4
      case hyqe4 => (intro u hu; obtain ⟨_, _, _, _, _, _⟩ := hu; go_simp; try with_reducible rfl)
      try simp only [Act.put, List.setIfInBounds_toArray, List.set_cons_zero, List.set_cons_succ, List.getElem_toArray, List.getElem_cons_zero, List.getElem_cons_succ]
      refine wpAnyH_ready (rs := [2]) (by kernel_rfl) (by simp) ?_
      refine AllReadyH.cons rfl (fun K hK => ?_) AllReadyH.nil
      go_simp
      refine (HM1.out d capd nm _ hnm hat8.out (on2 hb0 hHeld.1)).mono ?_
      rintro e w9 ⟨rfl, hb9⟩
      go_wp2_with fail
      refine hK.out _ _ (HS.out (on2 hHeld.1 hb9)) (fun hHeld2 => ?_)
      clear hK K hHeld
      have hHeld := hHeld2
      clear hHeld2
      try simp only [Act.put, List.setIfInBounds_toArray, List.set_cons_zero, List.set_cons_succ, List.getElem_toArray, List.getElem_cons_zero, List.getElem_cons_succ]
      refine wpAnyH_ready (rs := [5]) (by kernel_rfl) (by simp) ?_
      refine AllReadyH.cons rfl (fun K hK => ?_) AllReadyH.nil
      go_simp
      refine (HM2.out _ (on2 hb0 hHeld.1)).mono ?_
      rintro e w10 ⟨rfl, hb9⟩
      go_wp2_with fail
      refine hK.out _ _ (HS.out (on2 hHeld.1 hb9)) (fun hHeld2 => ?_)
      clear hK K hHeld
      have hHeld := hHeld2
      clear hHeld2
      try simp only [Act.put, List.setIfInBounds_toArray, List.set_cons_zero, List.set_cons_succ, List.getElem_toArray, List.getElem_cons_zero, List.getElem_cons_succ]
      refine wpAnyH_take (i := 6) (v := ?vqe6) rfl (by kernel_rfl) (by kernel_rfl) (by kernel_rfl) (fun _ _ _ h => h) (Or.inl ⟨by rfl, ?hyqe6⟩) (by assumption) ?restqe6
      case hyqe6 => (intro u hu; obtain ⟨_, _, _, _, _, _⟩ := hu; go_simp; try with_reducible rfl)
      try simp only [Act.put, List.setIfInBounds_toArray, List.set_cons_zero, List.set_cons_succ, List.getElem_toArray, List.getElem_cons_zero, List.getElem_cons_succ]
      refine wpAnyH_take (i := 7) (v := ?vqe7) rfl (by kernel_rfl) (by kernel_rfl) (by kernel_rfl) (fun _ _ _ h => h) (Or.inl ⟨by rfl, ?hyqe7⟩) (by assumption) ?restqe7
      case hyqe7 => (intro u hu; obtain ⟨_, _, _, _, _, _⟩ := hu; go_simp; try with_reducible rfl)
      try simp only [Act.put, List.setIfInBounds_toArray, List.set_cons_zero, List.set_cons_succ, List.getElem_toArray, List.getElem_cons_zero, List.getElem_cons_succ]
      refine wpAnyH_done (by kernel_rfl) ?_ _
      refine NoPanic.normal ?_
      go_wp2_with fail
      go_ret
      exact ⟨rfl, on2 hb0 hHeld.1⟩
  · simp only [hck, if_false] at HCap HDrop
    skip
    refine wp_region_held_drew (S := ApS wB w.heap.size (w.heap.size + 1) key op (.slice b V.length capb) x y) (by kernel_rfl) (HS.out hb4.drew) (fun hHeld => ?_)
    refine wpAnyH_take (i := 0) (v := ?van0) rfl (by kernel_rfl) (by kernel_rfl) (by kernel_rfl) (fun _ _ _ h => h) (Or.inl ⟨by rfl, ?hyan0⟩) (by assumption) ?restan0
    case hyan0 => (intro u hu; obtain ⟨_, _, _, _, _, _⟩ := hu; go_simp; try with_reducible rfl)
    try simp only [Act.put, List.setIfInBounds_toArray, List.set_cons_zero, List.set_cons_succ, List.getElem_toArray, List.getElem_cons_zero, List.getElem_cons_succ]
    refine wpAnyH_take (i := 1) (v := ?van1) rfl (by kernel_rfl) (by kernel_rfl) (by kernel_rfl) (fun _ _ _ h => h) (Or.inl ⟨by rfl, ?hyan1⟩) (by assumption) ?restan1
    case hyan1 => (intro u hu; obtain ⟨_, _, _, _, _, _⟩ := hu; go_simp; try with_reducible rfl)
    try simp only [Act.put, List.setIfInBounds_toArray, List.set_cons_zero, List.set_cons_succ, List.getElem_toArray, List.getElem_cons_zero, List.getElem_cons_succ]
    refine wpAnyH_take (i := 2) (v := ?van2) rfl (by kernel_rfl) (by kernel_rfl) (by kernel_rfl) (fun _ _ _ h => h) (Or.inl ⟨by rfl, ?hyan2⟩) (by assumption) ?restan2
    case hyan2 => (intro u hu; obtain ⟨_, _, _, _, _, _⟩ := hu; go_simp; try with_reducible rfl)
    try simp only [Act.put, List.setIfInBounds_toArray, List.set_cons_zero, List.set_cons_succ, List.getElem_toArray, List.getElem_cons_zero, List.getElem_cons_succ]
    refine wpAnyH_take (i := 4) (v := ?van4) rfl (by kernel_rfl) (by kernel_rfl) (by kernel_rfl) (fun _ _ _ h => h) (Or.inl ⟨by rfl, ?hyan4⟩) (by assumption) ?restan4
    case hyan4 => (intro u hu; obtain ⟨_, _, _, _, _, _⟩ := hu; go_simp; try with_reducible rfl)
    try simp only [Act.put, List.setIfInBounds_toArray, List.set_cons_zero, List.set_cons_succ, List.getElem_toArray, List.getElem_cons_zero, List.getElem_cons_succ]
    refine wpAnyH_take (i := 7) (v := ?van7) rfl (by kernel_rfl) (by kernel_rfl) (by kernel_rfl) (fun _ _ _ h => h) (Or.inl ⟨by rfl, ?hyan7⟩) (by assumption) ?restan7
    case hyan7 => (intro u hu; obtain ⟨_, _, _, _, _, _⟩ := hu; go_simp; try with_reducible rfl)
    try simp only [Act.put, List.setIfInBounds_toArray, List.set_cons_zero, List.set_cons_succ, List.getElem_toArray, List.getElem_cons_zero, List.getElem_cons_succ]
    refine wpAnyH_take (i := 8) (v := ?van8) rfl (by kernel_rfl) (by kernel_rfl) (by kernel_rfl) (fun _ _ _ h => h) (Or.inl ⟨by rfl, ?hyan8⟩) (by assumption) ?restan8
    case hyan8 => (intro u hu; obtain ⟨_, _, _, _, _, _⟩ := hu; go_simp; try with_reducible rfl)
    try simp only [Act.put, List.setIfInBounds_toArray, List.set_cons_zero, List.set_cons_succ, List.getElem_toArray, List.getElem_cons_zero, List.getElem_cons_succ]
    refine wpAnyH_take (i := 9) (v := ?van9) rfl (by kernel_rfl) (by kernel_rfl) (by kernel_rfl) (fun _ _ _ h => h) (Or.inl ⟨by rfl, ?hyan9⟩) (by assumption) ?restan9
    case hyan9 => (intro u hu; obtain ⟨_, _, _, _, _, _⟩ := hu; go_simp; try with_reducible rfl)
    try simp only [Act.put, List.setIfInBounds_toArray, List.set_cons_zero, List.set_cons_succ, List.getElem_toArray, List.getElem_cons_zero, List.getElem_cons_succ]
    refine wpAnyH_ready (rs := [3, 5]) (by kernel_rfl) (by simp) ?_
    refine AllReadyH.cons rfl (fun K hK => ?_) (AllReadyH.cons rfl (fun K hK => ?_) AllReadyH.nil)
    · go_simp
      refine (HLab.out _ hHeld.1).mono ?_
      rintro e w6 ⟨v6, rfl, hO6⟩
      have hO6w : Own wB w6 52 2 v6 ((L.take k)).length (flatL ((L.take k))) := ⟨on2 hHeld.1 hO6.1, Go.Joins.ownsRow_le hO6.2 hHeld.1.size⟩
      have hb6 := hO6.1
      clear hO6
      go_wp2_with fail
      refine hK.out _ _ (HS.out hO6w.1) (fun hHeld2 => ?_)
      clear hK K hHeld
      have hHeld := hHeld2
      clear hHeld2
      try simp only [Act.put, List.setIfInBounds_toArray, List.set_cons_zero, List.set_cons_succ, List.getElem_toArray, List.getElem_cons_zero, List.getElem_cons_succ]
      refine wpAnyH_ready (rs := [5]) (by kernel_rfl) (by simp) ?_
      refine AllReadyH.cons rfl (fun K hK => ?_) AllReadyH.nil
      go_simp
      refine hK.out _ _ (HS.out (on2 hHeld.1 ((Below.refl _ _).alloc (Nat.le_refl _) _))) (fun hHeld2 => ?_)
      clear hK K hHeld
      have hHeld := hHeld2
      clear hHeld2
      try simp only [Act.put, List.setIfInBounds_toArray, List.set_cons_zero, List.set_cons_succ, List.getElem_toArray, List.getElem_cons_zero, List.getElem_cons_succ]
      refine wpAnyH_ready (rs := [6]) (by kernel_rfl) (by simp) ?_
      refine AllReadyH.cons rfl (fun K hK => ?_) AllReadyH.nil
      refine append_labsO (w0 := wB) _ _ rfl v6 ((L.take k)) rfl (hO6w.on (by go_grown)) (some ⟨w6.heap.size, 0, none⟩) 1 1 [(x, y)] rfl rfl (fun h => by cases h) (labs_one _ _ x y hx hy) (by have := hkl.out; simp; omega) ?_
      intro v7 w7 hO7
      refine hK.out _ _ (HS.out hO7.1) (fun hHeld2 => ?_)
      clear hK K hHeld
      have hHeld := hHeld2
      clear hHeld2
      try simp only [Act.put, List.setIfInBounds_toArray, List.set_cons_zero, List.set_cons_succ, List.getElem_toArray, List.getElem_cons_zero, List.getElem_cons_succ]
      refine wpAnyH_ready (rs := [10]) (by kernel_rfl) (by simp) ?_
      refine AllReadyH.cons rfl (fun K hK => ?_) AllReadyH.nil
      refine append_labsO (w0 := wB) _ _ rfl v7 ((L.take k) ++ [(x, y)]) rfl hO7 (some (ad.add (k * 2))) (L.length - k) (cap - k) ((L.drop k)) (HDl.out) rfl (fun h => by first | rfl | cases h) (HDrop.out hO7.1) (by have := hkl.out; simp; omega) ?_
      intro v8 w8 hO8
      refine hK.out _ _ (HS.out hO8.1) (fun hHeld2 => ?_)
      clear hK K hHeld
      have hHeld := hHeld2
      clear hHeld2
      try simp only [Act.put, List.setIfInBounds_toArray, List.set_cons_zero, List.set_cons_succ, List.getElem_toArray, List.getElem_cons_zero, List.getElem_cons_succ]
      refine wpAnyH_take (i := 11) (v := ?vzpn) rfl (by kernel_rfl) (by kernel_rfl) (by kernel_rfl) (fun _ _ _ h => h) (Or.inl ⟨by rfl, ?hyzpn⟩) (by assumption) ?restzpn
      case hyzpn => (intro u hu; obtain ⟨_, _, _, _, _, _⟩ := hu; go_simp; try with_reducible rfl)
      try simp only [Act.put, List.setIfInBounds_toArray, List.set_cons_zero, List.set_cons_succ, List.getElem_toArray, List.getElem_cons_zero, List.getElem_cons_succ]
      refine wpAnyH_done (by kernel_rfl) ?_ _
      refine NoPanic.normal ?_
      obtain ⟨d, capd, hv8, hat⟩ := labs_of_owns hO8.2 (by have := hkl.out; simp; omega) HSz.out
      obtain ⟨nm, hnm⟩ : ∃ nm, Hid (((L.take k) ++ [(x, y)] ++ (L.drop k)).length = nm) := ⟨_, rfl⟩
      rw [hnm.out] at hv8
      subst hv8
      have hb8 := hO8.1
      have hat8 : Hid (LabsAt w8.drew d ((L.take k) ++ [(x, y)] ++ (L.drop k))) := hat.on (Below.refl _ _).drew
      clear hO8 hO7 hHeld hat
      go_wp2_with fail
      refine wp_region_noPanic ?_
      refine wp_region_held_drew (S := ApS wB w.heap.size (w.heap.size + 1) key op (.slice b V.length capb) x y) (by kernel_rfl) (HS.out hb8.drew) (fun hHeld => ?_)
      refine wpAnyH_take (i := 0) (v := ?vpn0) rfl (by kernel_rfl) (by kernel_rfl) (by kernel_rfl) (fun _ _ _ h => h) (Or.inl ⟨by rfl, ?hypn0⟩) (by assumption) ?restpn0
      case hypn0 => (intro u hu; obtain ⟨_, _, _, _, _, _⟩ := hu; go_simp; try with_reducible rfl)
      try simp only [Act.put, List.setIfInBounds_toArray, List.set_cons_zero, List.set_cons_succ, List.getElem_toArray, List.getElem_cons_zero, List.getElem_cons_succ]
      refine wpAnyH_take (i := 1) (v := ?vpn1) rfl (by kernel_rfl) (by kernel_rfl) (by kernel_rfl) (fun _ _ _ h => h) (Or.inl ⟨by rfl, ?hypn1⟩) (by assumption) ?restpn1
      case hypn1 => (intro u hu; obtain ⟨_, _, _, _, _, _⟩ := hu; go_simp; try with_reducible rfl)
      try simp only [Act.put, List.setIfInBounds_toArray, List.set_cons_zero, List.set_cons_succ, List.getElem_toArray, List.getElem_cons_zero, List.getElem_cons_succ]
      refine wpAnyH_take (i := 3) (v := ?vpn3) rfl (by kernel_rfl) (by kernel_rfl) (by kernel_rfl) (fun _ _ _ h => h) (Or.inl ⟨by rfl, ?hypn3⟩) (by assumption) ?restpn3
      case hypn3 => (intro u hu; obtain ⟨_, _, _, _, _, _⟩ := hu; go_simp; try with_reducible rfl)
      try simp only [Act.put, List.setIfInBounds_toArray, List.set_cons_zero, List.set_cons_succ, List.getElem_toArray, List.getElem_cons_zero, List.getElem_cons_succ]
      refine wpAnyH_take (i := 4) (v := ?vpn4) rfl (by kernel_rfl) (by kernel_rfl) (by kernel_rfl) (fun _ _ _ h => h) (Or.inl ⟨by rfl, ?hypn4⟩) (by assumption) ?restpn4
      case hypn4 => (intro u hu; obtain ⟨_, _, _, _, _, _⟩ := hu; go_simp; try with_reducible rfl)
      try simp only [Act.put, List.setIfInBounds_toArray, List.set_cons_zero, List.set_cons_succ, List.getElem_toArray, List.getElem_cons_zero, List.getElem_cons_succ]
      refine wpAnyH_ready (rs := [2]) (by kernel_rfl) (by simp) ?_
      refine AllReadyH.cons rfl (fun K hK => ?_) AllReadyH.nil
      go_simp
      refine (HM1.out d capd nm _ hnm hat8.out (on2 hb0 hHeld.1)).mono ?_
      rintro e w9 ⟨rfl, hb9⟩
      go_wp2_with fail
      refine hK.out _ _ (HS.out (on2 hHeld.1 hb9)) (fun hHeld2 => ?_)
      clear hK K hHeld
      have hHeld := hHeld2
      clear hHeld2
      try simp only [Act.put, List.setIfInBounds_toArray, List.set_cons_zero, List.set_cons_succ, List.getElem_toArray, List.getElem_cons_zero, List.getElem_cons_succ]
      refine wpAnyH_ready (rs := [5]) (by kernel_rfl) (by simp) ?_
      refine AllReadyH.cons rfl (fun K hK => ?_) AllReadyH.nil
      go_simp
      refine (HM2.out _ (on2 hb0 hHeld.1)).mono ?_
      rintro e w10 ⟨rfl, hb9⟩
      go_wp2_with fail
      refine hK.out _ _ (HS.out (on2 hHeld.1 hb9)) (fun hHeld2 => ?_)
      clear hK K hHeld
      have hHeld := hHeld2
      clear hHeld2
      try simp only [Act.put, List.setIfInBounds_toArray, List.set_cons_zero, List.set_cons_succ, List.getElem_toArray, List.getElem_cons_zero, List.getElem_cons_succ]
      refine wpAnyH_take (i := 6) (v := ?vpn6) rfl (by kernel_rfl) (by kernel_rfl) (by kernel_rfl) (fun _ _ _ h => h) (Or.inl ⟨by rfl, ?hypn6⟩) (by assumption) ?restpn6
      case hypn6 => (intro u hu; obtain ⟨_, _, _, _, _, _⟩ := hu; go_simp; try with_reducible rfl)
      try simp only [Act.put, List.setIfInBounds_toArray, List.set_cons_zero, List.set_cons_succ, List.getElem_toArray, List.getElem_cons_zero, List.getElem_cons_succ]
      refine wpAnyH_take (i := 7) (v := ?vpn7) rfl (by kernel_rfl) (by kernel_rfl) (by kernel_rfl) (fun _ _ _ h => h) (Or.inl ⟨by rfl, ?hypn7⟩) (by assumption) ?restpn7
      case hypn7 => (intro u hu; obtain ⟨_, _, _, _, _, _⟩ := hu; go_simp; try with_reducible rfl)
      try simp only [Act.put, List.setIfInBounds_toArray, List.set_cons_zero, List.set_cons_succ, List.getElem_toArray, List.getElem_cons_zero, List.getElem_cons_succ]
      refine wpAnyH_done (by kernel_rfl) ?_ _
      refine NoPanic.normal ?_
      go_wp2_with fail
      go_ret
      exact ⟨rfl, on2 hb0 hHeld.1⟩
    · go_simp
      refine hK.out _ _ (HS.out (on2 hHeld.1 ((Below.refl _ _).alloc (Nat.le_refl _) _))) (fun hHeld2 => ?_)
      clear hK K hHeld
      have hHeld := hHeld2
      clear hHeld2
      try simp only [Act.put, List.setIfInBounds_toArray, List.set_cons_zero, List.set_cons_succ, List.getElem_toArray, List.getElem_cons_zero, List.getElem_cons_succ]
      refine wpAnyH_ready (rs := [3]) (by kernel_rfl) (by simp) ?_
      refine AllReadyH.cons rfl (fun K hK => ?_) AllReadyH.nil
      go_simp
      refine (HLab.out _ hHeld.1).mono ?_
      rintro e w6 ⟨v6, rfl, hO6⟩
      have hO6w : Own wB w6 52 2 v6 ((L.take k)).length (flatL ((L.take k))) := ⟨on2 hHeld.1 hO6.1, Go.Joins.ownsRow_le hO6.2 hHeld.1.size⟩
      have hb6 := hO6.1
      clear hO6
      go_wp2_with fail
      refine hK.out _ _ (HS.out hO6w.1) (fun hHeld2 => ?_)
      clear hK K hHeld
      have hHeld := hHeld2
      clear hHeld2
      try simp only [Act.put, List.setIfInBounds_toArray, List.set_cons_zero, List.set_cons_succ, List.getElem_toArray, List.getElem_cons_zero, List.getElem_cons_succ]
      refine wpAnyH_ready (rs := [6]) (by kernel_rfl) (by simp) ?_
      refine AllReadyH.cons rfl (fun K hK => ?_) AllReadyH.nil
      refine append_labsO (w0 := wB) _ _ rfl v6 ((L.take k)) rfl (hO6w) (some ⟨w4.heap.size, 0, none⟩) 1 1 [(x, y)] rfl rfl (fun h => by cases h) ((labs_one w4.drew 52 x y hx hy).on hb6) (by have := hkl.out; simp; omega) ?_
      intro v7 w7 hO7
      refine hK.out _ _ (HS.out hO7.1) (fun hHeld2 => ?_)
      clear hK K hHeld
      have hHeld := hHeld2
      clear hHeld2
      try simp only [Act.put, List.setIfInBounds_toArray, List.set_cons_zero, List.set_cons_succ, List.getElem_toArray, List.getElem_cons_zero, List.getElem_cons_succ]
      refine wpAnyH_ready (rs := [10]) (by kernel_rfl) (by simp) ?_
      refine AllReadyH.cons rfl (fun K hK => ?_) AllReadyH.nil
      refine append_labsO (w0 := wB) _ _ rfl v7 ((L.take k) ++ [(x, y)]) rfl hO7 (some (ad.add (k * 2))) (L.length - k) (cap - k) ((L.drop k)) (HDl.out) rfl (fun h => by first | rfl | cases h) (HDrop.out hO7.1) (by have := hkl.out; simp; omega) ?_
      intro v8 w8 hO8
      refine hK.out _ _ (HS.out hO8.1) (fun hHeld2 => ?_)
      clear hK K hHeld
      have hHeld := hHeld2
      clear hHeld2
      try simp only [Act.put, List.setIfInBounds_toArray, List.set_cons_zero, List.set_cons_succ, List.getElem_toArray, List.getElem_cons_zero, List.getElem_cons_succ]
      refine wpAnyH_take (i := 11) (v := ?vzqn) rfl (by kernel_rfl) (by kernel_rfl) (by kernel_rfl) (fun _ _ _ h => h) (Or.inl ⟨by rfl, ?hyzqn⟩) (by assumption) ?restzqn
      case hyzqn => (intro u hu; obtain ⟨_, _, _, _, _, _⟩ := hu; go_simp; try with_reducible rfl)
      try simp only [Act.put, List.setIfInBounds_toArray, List.set_cons_zero, List.set_cons_succ, List.getElem_toArray, List.getElem_cons_zero, List.getElem_cons_succ]
      refine wpAnyH_done (by kernel_rfl) ?_ _
      refine NoPanic.normal ?_
      obtain ⟨d, capd, hv8, hat⟩ := labs_of_owns hO8.2 (by have := hkl.out; simp; omega) HSz.out
      obtain ⟨nm, hnm⟩ : ∃ nm, Hid (((L.take k) ++ [(x, y)] ++ (L.drop k)).length = nm) := ⟨_, rfl⟩
      rw [hnm.out] at hv8
      subst hv8
      have hb8 := hO8.1
      have hat8 : Hid (LabsAt w8.drew d ((L.take k) ++ [(x, y)] ++ (L.drop k))) := hat.on (Below.refl _ _).drew
      clear hO8 hO7 hHeld hat
      go_wp2_with fail
      refine wp_region_noPanic ?_
      refine wp_region_held_drew (S := ApS wB w.heap.size (w.heap.size + 1) key op (.slice b V.length capb) x y) (by kernel_rfl) (HS.out hb8.drew) (fun hHeld => ?_)
      refine wpAnyH_take (i := 0) (v := ?vqn0) rfl (by kernel_rfl) (by kernel_rfl) (by kernel_rfl) (fun _ _ _ h => h) (Or.inl ⟨by rfl, ?hyqn0⟩) (by assumption) ?restqn0
      case hyqn0 => (intro u hu; obtain ⟨_, _, _, _, _, _⟩ := hu; go_simp; try with_reducible rfl)
      try simp only [Act.put, List.setIfInBounds_toArray, List.set_cons_zero, List.set_cons_succ, List.getElem_toArray, List.getElem_cons_zero, List.getElem_cons_succ]
      refine wpAnyH_take (i := 1) (v := ?vqn1) rfl (by kernel_rfl) (by kernel_rfl) (by kernel_rfl) (fun _ _ _ h => h) (Or.inl ⟨by rfl, ?hyqn1⟩) (by assumption) ?restqn1
      case hyqn1 => (intro u hu; obtain ⟨_, _, _, _, _, _⟩ := hu; go_simp; try with_reducible rfl)
      try simp only [Act.put, List.setIfInBounds_toArray, List.set_cons_zero, List.set_cons_succ, List.getElem_toArray, List.getElem_cons_zero, List.getElem_cons_succ]
      refine wpAnyH_take (i := 3) (v := ?vqn3) rfl (by kernel_rfl) (by kernel_rfl) (by kernel_rfl) (fun _ _ _ h => h) (Or.inl ⟨by rfl, ?hyqn3⟩) (by assumption) ?restqn3
      case hyqn3 => (intro u hu; obtain ⟨_, _, _, _, _, _⟩ := hu; go_simp; try with_reducible rfl)
      try simp only [Act.put, List.setIfInBounds_toArray, List.set_cons_zero, List.set_cons_succ, List.getElem_toArray, List.getElem_cons_zero, List.getElem_cons_succ]
      refine wpAnyH_take (i := 4) (v := ?vqn4) rfl (by kernel_rfl) (by kernel_rfl) (by kernel_rfl) (fun _ _ _ h => h) (Or.inl ⟨by rfl, ?hyqn4⟩) (by assumption) ?restqn4
      case hyqn4 => (intro u hu; obtain ⟨_, _, _, _, _, _⟩ := hu; go_simp; try with_reducible rfl)
      try simp only [Act.put, List.setIfInBounds_toArray, List.set_cons_zero, List.set_cons_succ, List.getElem_toArray, List.getElem_cons_zero, List.getElem_cons_succ]
      refine wpAnyH_ready (rs := [2]) (by kernel_rfl) (by simp) ?_
      refine AllReadyH.cons rfl (fun K hK => ?_) AllReadyH.nil
      go_simp
      refine (HM1.out d capd nm _ hnm hat8.out (on2 hb0 hHeld.1)).mono ?_
      rintro e w9 ⟨rfl, hb9⟩
      go_wp2_with fail
      refine hK.out _ _ (HS.out (on2 hHeld.1 hb9)) (fun hHeld2 => ?_)
      clear hK K hHeld
      have hHeld := hHeld2
      clear hHeld2
      try simp only [Act.put, List.setIfInBounds_toArray, List.set_cons_zero, List.set_cons_succ, List.getElem_toArray, List.getElem_cons_zero, List.getElem_cons_succ]
      refine wpAnyH_ready (rs := [5]) (by kernel_rfl) (by simp) ?_
      refine AllReadyH.cons rfl (fun K hK => ?_) AllReadyH.nil
      go_simp
      refine (HM2.out _ (on2 hb0 hHeld.1)).mono ?_
      rintro e w10 ⟨rfl, hb9⟩
      go_wp2_with fail
      refine hK.out _ _ (HS.out (on2 hHeld.1 hb9)) (fun hHeld2 => ?_)
      clear hK K hHeld
      have hHeld := hHeld2
      clear hHeld2
      try simp only [Act.put, List.setIfInBounds_toArray, List.set_cons_zero, List.set_cons_succ, List.getElem_toArray, List.getElem_cons_zero, List.getElem_cons_succ]
      refine wpAnyH_take (i := 6) (v := ?vqn6) rfl (by kernel_rfl) (by kernel_rfl) (by kernel_rfl) (fun _ _ _ h => h) (Or.inl ⟨by rfl, ?hyqn6⟩) (by assumption) ?restqn6
      case hyqn6 => (intro u hu; obtain ⟨_, _, _, _, _, _⟩ := hu; go_simp; try with_reducible rfl)
      try simp only [Act.put, List.setIfInBounds_toArray, List.set_cons_zero, List.set_cons_succ, List.getElem_toArray, List.getElem_cons_zero, List.getElem_cons_succ]
      refine wpAnyH_take (i := 7) (v := ?vqn7) rfl (by kernel_rfl) (by kernel_rfl) (by kernel_rfl) (fun _ _ _ h => h) (Or.inl ⟨by rfl, ?hyqn7⟩) (by assumption) ?restqn7
      case hyqn7 => (intro u hu; obtain ⟨_, _, _, _, _, _⟩ := hu; go_simp; try with_reducible rfl)
      try simp only [Act.put, List.setIfInBounds_toArray, List.set_cons_zero, List.set_cons_succ, List.getElem_toArray, List.getElem_cons_zero, List.getElem_cons_succ]
      refine wpAnyH_done (by kernel_rfl) ?_ _
      refine NoPanic.normal ?_
      go_wp2_with fail
      go_ret
      exact ⟨rfl, on2 hb0 hHeld.1⟩
end Go.Proofs.Ytpehmobedcflnaa.labelApart
