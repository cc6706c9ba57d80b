/- keyed.Swap: two entries change places, and the map tells it. No condition. keyed.Push: an entry is laid behind the others, and the map tells it. No condition. -/
import Derived.Test.YtbmejaailhjgfaaGreatQ04
import Derived.Deep.RegionLaw
namespace Go.Proofs.YtbmejaailhjgfaaGreat
open Go.RowKit Go.Maps
set_option linter.unusedSimpArgs false
set_option maxRecDepth 100000

/-- What stays while a key's place is told. -/
def KyS (kb mb g i : Nat) (v : Value) (k : ByteArray) (u : World) : Prop := u.cell? ⟨kb, 0, none⟩ = some v ∧ u.cell? ⟨kb, 2, none⟩ = some (.map (some mb)) ∧ u.cell? ⟨g, i * 3, none⟩ = some (.string k)
theorem KAt.kys {F : Where} {w : World} {kb : Nat} {mb n g len cap : Nat} {D : DataW Unit} {L : List It} (h : KAt F w kb (.slice (some ⟨g, 0, none⟩) len cap) mb n D L) {i : Nat} (hi : i < L.length) : KyS kb mb g i (.slice (some ⟨g, 0, none⟩) len cap) L[i].1 w := by
  obtain ⟨g', cap', hv, _, _, _, _, _, hc⟩ := h.sl (by omega)
  obtain ⟨rfl, rfl, rfl⟩ : g = g' ∧ len = L.length ∧ cap = cap' := by simpa using hv
  exact ⟨h.c0, h.c2, (hc i hi).1.1⟩
set_option maxHeartbeats 4000000 in
theorem kSwap_at {F : Where} {w : World} {kb mb g cap n i j : Nat} {D : DataW Unit} {L : List It} (h : KAt F w kb (.slice (some ⟨g, 0, none⟩) L.length cap) mb n D L) (hn : n + 2 < 4611686018427387904) (hL : L.length < 4611686018427387904) (hi : i < L.length) (hj : j < L.length) (hij : ¬ i = j) :
    Calls Tryz.prog 144 #[.pointer (some ⟨kb, 0, none⟩), .int .i64 (i : Int), .int .i64 (j : Int)] w fun e w' => e = .returned (.tuple #[]) ∧
      KAt F w' kb (.slice (some ⟨g, 0, none⟩) L.length cap) mb (n + 2) ((D.put (kl L[j]) (.lit (.int .i64 (i : Int)))).put (kl L[i]) (.lit (.int .i64 (j : Int)))) ((L.set i L[j]).set j L[i]) ∧ Turns F w w' := by
  obtain ⟨g', cap', hv, _, hg, _, _, _, hc⟩ := h.sl (by omega)
  obtain ⟨rfl, rfl⟩ : g = g' ∧ cap = cap' := by simpa using hv
  have c0 := h.c0
  have c1 := h.c1
  have Hsw : Hid (Calls Tryz.prog 145 #[.agg #[.slice (some ⟨g, 0, none⟩) L.length cap, .func (.func 93) #[] #[]], .int .i64 (i : Int), .int .i64 (j : Int)] w fun e w' => e = .returned (.tuple #[]) ∧
      KAt F w' kb (.slice (some ⟨g, 0, none⟩) L.length cap) mb n D ((L.set i L[j]).set j L[i]) ∧ Turns F w w') := by
    refine (lSwap_at g L.length cap i j _ L[i] L[j] w hij (by omega) (by omega) hg (hc i hi).1.1 (hc i hi).1.2.1 (hc i hi).1.2.2 (hc j hj).1.1 (hc j hj).1.2.1 (hc j hj).1.2.2 (hc i hi).2.1 (hc i hi).2.2.1 (hc i hi).2.2.2 (hc j hj).2.1 (hc j hj).2.2.1 (hc j hj).2.2.2).mono ?_
    rintro e w' ⟨rfl, W, hb, rfl⟩
    have k1 := (h.grow hb).items (g := g) rfl hi (h.ok L[j] (List.getElem_mem hj))
    have k2 := k1.1.items (g := g) (i := j) rfl (by simpa using hj) (h.ok L[i] (List.getElem_mem hi))
    exact ⟨rfl, k2.1.drew, ((Turns.below hb).trans (k1.2.trans k2.2)).trans (Turns.drew _ _)⟩
  have ej : ((L.set i L[j]).set j L[i]).length = L.length := by simp
  have gi : ((L.set i L[j]).set j L[i])[i]'(by rw [ej]; exact hi) = L[j] := by rw [List.getElem_set_ne (fun e => hij e.symm), List.getElem_set_self]
  have gj : ((L.set i L[j]).set j L[i])[j]'(by rw [ej]; exact hj) = L[i] := by rw [List.getElem_set_self]
  have oki := h.ok L[i] (List.getElem_mem hi)
  have okj := h.ok L[j] (List.getElem_mem hj)
  generalize hLL : (L.set i L[j]).set j L[i] = LL at *
  generalize hx : L[i] = x at *
  generalize hy : L[j] = y at *
  obtain ⟨v, hv'⟩ : ∃ v, v = Value.slice (some ⟨g, 0, none⟩) L.length cap := ⟨_, rfl⟩
  have hii : (i : Int) < (L.length : Int) := by omega
  have hjj : (j : Int) < (L.length : Int) := by omega
  clear hc h hx hy hLL
  go_enter Tryz.func144, Tryz.ntmps144
  go_wp2_with (go_at_call 145; refine Hsw.out.mono ?_; rintro e w1 ⟨rfl, hk1, ht1⟩)
  have HK1 : Hid (KAt F w1 kb (.slice (some ⟨g, 0, none⟩) L.length cap) mb n D LL ∧ Turns F w w1) := ⟨hk1, ht1⟩
  clear Hsw c0 c1 hk1 ht1
  have HSa0 : Hid (KyS kb mb g i (.slice (some ⟨g, 0, none⟩) L.length cap) y.1 w1.drew) := by
    have := HK1.out.1.drew.kys (i := i) (by rw [ej]; exact hi)
    rw [gi] at this; exact this
  have Owna : Hid (w1.drew.ownsMap Tryz.prog 9 (plainElem Tryz.prog 3) mb n D) := HK1.out.1.drew.map
  have HSa : Hid (∀ {u : World} {D' : DataW Unit}, u.ownsMap Tryz.prog 9 (plainElem Tryz.prog 3) mb (n + 1) D' → w1.drew.mapTurned u mb → KyS kb mb g i (.slice (some ⟨g, 0, none⟩) L.length cap) y.1 u) := by
    intro u D' h1 h2
    have := (HK1.out.1.drew.mapped h1 h2).kys (i := i) (by rw [ej]; exact hi)
    rw [gi] at this; exact this
  refine wp_region_noPanic ?_
  refine wp_region_held_drew (S := KyS kb mb g i (.slice (some ⟨g, 0, none⟩) L.length cap) y.1) (by kernel_rfl) (HSa0.out) (fun hHeld => ?_)
  refine wpAnyH_take (i := 0) (v := ?va0) rfl (by kernel_rfl) (by kernel_rfl) (by kernel_rfl) (fun _ _ _ h => h) (Or.inl ⟨by rfl, ?hya0⟩) (by assumption) ?resta0
  case hya0 => (intro u hu; obtain ⟨_, _, _⟩ := hu; go_simp; try with_reducible rfl)
  try simp only [Act.put, List.setIfInBounds_toArray, List.set_cons_zero, List.set_cons_succ, List.getElem_toArray, List.getElem_cons_zero, List.getElem_cons_succ]
  refine wpAnyH_take (i := 1) (v := ?va1) rfl (by kernel_rfl) (by kernel_rfl) (by kernel_rfl) (fun _ _ _ h => h) (Or.inl ⟨by rfl, ?hya1⟩) (by assumption) ?resta1
  case hya1 => (intro u hu; obtain ⟨_, _, _⟩ := hu; go_simp; try with_reducible rfl)
  try simp only [Act.put, List.setIfInBounds_toArray, List.set_cons_zero, List.set_cons_succ, List.getElem_toArray, List.getElem_cons_zero, List.getElem_cons_succ]
  refine wpAnyH_take (i := 2) (v := ?va2) rfl (by kernel_rfl) (by kernel_rfl) (by kernel_rfl) (fun _ _ _ h => h) (Or.inl ⟨by rfl, ?hya2⟩) (by assumption) ?resta2
  case hya2 => (intro u hu; obtain ⟨_, _, _⟩ := hu; go_simp; try with_reducible rfl)
  try simp only [Act.put, List.setIfInBounds_toArray, List.set_cons_zero, List.set_cons_succ, List.getElem_toArray, List.getElem_cons_zero, List.getElem_cons_succ]
  refine wpAnyH_take (i := 3) (v := ?va3) rfl (by kernel_rfl) (by kernel_rfl) (by kernel_rfl) (fun _ _ _ h => h) (Or.inl ⟨by rfl, ?hya3⟩) (by assumption) ?resta3
  case hya3 => (intro u hu; obtain ⟨_, _, _⟩ := hu; go_simp; try with_reducible rfl)
  try simp only [Act.put, List.setIfInBounds_toArray, List.set_cons_zero, List.set_cons_succ, List.getElem_toArray, List.getElem_cons_zero, List.getElem_cons_succ]
  refine wpAnyH_take (i := 4) (v := ?va4) rfl (by kernel_rfl) (by kernel_rfl) (by kernel_rfl) (fun _ _ _ h => h) (Or.inl ⟨by rfl, ?hya4⟩) (by assumption) ?resta4
  case hya4 => (intro u hu; obtain ⟨_, _, _⟩ := hu; go_simp; try with_reducible rfl)
  try simp only [Act.put, List.setIfInBounds_toArray, List.set_cons_zero, List.set_cons_succ, List.getElem_toArray, List.getElem_cons_zero, List.getElem_cons_succ]
  refine wpAnyH_take (i := 5) (v := ?va5) rfl (by kernel_rfl) (by kernel_rfl) (by kernel_rfl) (fun _ _ _ h => h) (Or.inl ⟨by rfl, ?hya5⟩) (by assumption) ?resta5
  case hya5 => (intro u hu; obtain ⟨_, _, _⟩ := hu; go_simp; try with_reducible rfl)
  try simp only [Act.put, List.setIfInBounds_toArray, List.set_cons_zero, List.set_cons_succ, List.getElem_toArray, List.getElem_cons_zero, List.getElem_cons_succ]
  refine wpAnyH_take (i := 6) (v := ?va6) rfl (by kernel_rfl) (by kernel_rfl) (by kernel_rfl) (fun _ _ _ h => h) (Or.inl ⟨by rfl, ?hya6⟩) (by assumption) ?resta6
  case hya6 => (intro u hu; obtain ⟨_, _, _⟩ := hu; go_simp; try with_reducible rfl)
  try simp only [Act.put, List.setIfInBounds_toArray, List.set_cons_zero, List.set_cons_succ, List.getElem_toArray, List.getElem_cons_zero, List.getElem_cons_succ]
  refine wpAnyH_take (i := 7) (v := ?va7) rfl (by kernel_rfl) (by kernel_rfl) (by kernel_rfl) (fun _ _ _ h => h) (Or.inl ⟨by rfl, ?hya7⟩) (by assumption) ?resta7
  case hya7 => (intro u hu; obtain ⟨_, _, _⟩ := hu; go_simp; try with_reducible rfl)
  try simp only [Act.put, List.setIfInBounds_toArray, List.set_cons_zero, List.set_cons_succ, List.getElem_toArray, List.getElem_cons_zero, List.getElem_cons_succ]
  refine wpAnyH_take (i := 8) (v := ?va8) rfl (by kernel_rfl) (by kernel_rfl) (by kernel_rfl) (fun _ _ _ h => h) (Or.inl ⟨by rfl, ?hya8⟩) (by assumption) ?resta8
  case hya8 => (intro u hu; obtain ⟨_, _, _⟩ := hu; go_simp; try with_reducible rfl)
  try simp only [Act.put, List.setIfInBounds_toArray, List.set_cons_zero, List.set_cons_succ, List.getElem_toArray, List.getElem_cons_zero, List.getElem_cons_succ]
  refine wpAnyH_take (i := 9) (v := ?va9) rfl (by kernel_rfl) (by kernel_rfl) (by kernel_rfl) (fun _ _ _ h => h) (Or.inl ⟨by rfl, ?hya9⟩) (by assumption) ?resta9
  case hya9 => (intro u hu; obtain ⟨_, _, _⟩ := hu; go_simp; try with_reducible rfl)
  try simp only [Act.put, List.setIfInBounds_toArray, List.set_cons_zero, List.set_cons_succ, List.getElem_toArray, List.getElem_cons_zero, List.getElem_cons_succ]
  refine wpAnyH_take (i := 10) (v := ?va10) rfl (by kernel_rfl) (by kernel_rfl) (by kernel_rfl) (fun _ _ _ h => h) (Or.inl ⟨by rfl, ?hya10⟩) (by assumption) ?resta10
  case hya10 => (intro u hu; obtain ⟨_, _, _⟩ := hu; go_simp; try with_reducible rfl)
  try simp only [Act.put, List.setIfInBounds_toArray, List.set_cons_zero, List.set_cons_succ, List.getElem_toArray, List.getElem_cons_zero, List.getElem_cons_succ]
  refine wpAnyH_take (i := 11) (v := ?va11) rfl (by kernel_rfl) (by kernel_rfl) (by kernel_rfl) (fun _ _ _ h => h) (Or.inl ⟨by rfl, ?hya11⟩) (by assumption) ?resta11
  case hya11 => (intro u hu; obtain ⟨_, _, _⟩ := hu; go_simp; try with_reducible rfl)
  try simp only [Act.put, List.setIfInBounds_toArray, List.set_cons_zero, List.set_cons_succ, List.getElem_toArray, List.getElem_cons_zero, List.getElem_cons_succ]
  refine wpAnyH_take (i := 12) (v := ?va12) rfl (by kernel_rfl) (by kernel_rfl) (by kernel_rfl) (fun _ _ _ h => h) (Or.inl ⟨by rfl, ?hya12⟩) (by assumption) ?resta12
  case hya12 => (intro u hu; obtain ⟨_, _, _⟩ := hu; go_simp; try with_reducible rfl)
  try simp only [Act.put, List.setIfInBounds_toArray, List.set_cons_zero, List.set_cons_succ, List.getElem_toArray, List.getElem_cons_zero, List.getElem_cons_succ]
  refine wpAnyH_take (i := 13) (v := ?va13) rfl (by kernel_rfl) (by kernel_rfl) (by kernel_rfl) (fun _ _ _ h => h) (Or.inl ⟨by rfl, ?hya13⟩) (by assumption) ?resta13
  case hya13 => (intro u hu; obtain ⟨_, _, _⟩ := hu; go_simp; try with_reducible rfl)
  try simp only [Act.put, List.setIfInBounds_toArray, List.set_cons_zero, List.set_cons_succ, List.getElem_toArray, List.getElem_cons_zero, List.getElem_cons_succ]
  refine wpAnyH_ready (rs := [14]) (by kernel_rfl) (by simp) ?_
  refine AllReadyH.cons rfl (fun K hK => ?_) AllReadyH.nil
  refine map_put_wp (.tmp 16) (.tmp 25) (.tmp 26) rfl (by simp [Act.eval, Act.put]) y okj (by simp [Act.eval, Act.put]) (i : Int) (WalkArith.wf_i64 (by omega)) (by simp [Act.eval, Act.put]) Owna.out (by unfold maxLen; omega) ?_
  intro wa howna hturna
  refine hK.out _ _ (HSa.out howna hturna) (fun hHeld2 => ?_)
  clear hK K hHeld
  have hHeld := hHeld2
  clear hHeld2
  try simp only [Act.put, List.setIfInBounds_toArray, List.set_cons_zero, List.set_cons_succ, List.getElem_toArray, List.getElem_cons_zero, List.getElem_cons_succ]
  refine wpAnyH_done (by kernel_rfl) ?_ _
  refine NoPanic.normal ?_
  have HK2 : Hid (KAt F wa kb (.slice (some ⟨g, 0, none⟩) L.length cap) mb (n + 1) (D.put (kl y) (.lit (.int .i64 (i : Int)))) LL ∧ Turns F w wa) := ⟨HK1.out.1.drew.mapped howna hturna, (HK1.out.2.trans (Turns.drew _ _)).trans (Turns.map hturna HK1.out.1.fm)⟩
  clear HK1 HSa0 HSa Owna howna hturna hHeld
  go_wp2_with fail
  have HSb0 : Hid (KyS kb mb g j (.slice (some ⟨g, 0, none⟩) L.length cap) x.1 wa.drew) := by
    have := HK2.out.1.drew.kys (i := j) (by rw [ej]; exact hj)
    rw [gj] at this; exact this
  have Ownb : Hid (wa.drew.ownsMap Tryz.prog 9 (plainElem Tryz.prog 3) mb (n + 1) (D.put (kl y) (.lit (.int .i64 (i : Int))))) := HK2.out.1.drew.map
  have HSb : Hid (∀ {u : World} {D' : DataW Unit}, u.ownsMap Tryz.prog 9 (plainElem Tryz.prog 3) mb (n + 1 + 1) D' → wa.drew.mapTurned u mb → KyS kb mb g j (.slice (some ⟨g, 0, none⟩) L.length cap) x.1 u) := by
    intro u D' h1 h2
    have := (HK2.out.1.drew.mapped h1 h2).kys (i := j) (by rw [ej]; exact hj)
    rw [gj] at this; exact this
  refine wp_region_noPanic ?_
  refine wp_region_held_drew (S := KyS kb mb g j (.slice (some ⟨g, 0, none⟩) L.length cap) x.1) (by kernel_rfl) (HSb0.out) (fun hHeld => ?_)
  refine wpAnyH_take (i := 0) (v := ?vb0) rfl (by kernel_rfl) (by kernel_rfl) (by kernel_rfl) (fun _ _ _ h => h) (Or.inl ⟨by rfl, ?hyb0⟩) (by assumption) ?restb0
  case hyb0 => (intro u hu; obtain ⟨_, _, _⟩ := hu; go_simp; try with_reducible rfl)
  try simp only [Act.put, List.setIfInBounds_toArray, List.set_cons_zero, List.set_cons_succ, List.getElem_toArray, List.getElem_cons_zero, List.getElem_cons_succ]
  refine wpAnyH_take (i := 1) (v := ?vb1) rfl (by kernel_rfl) (by kernel_rfl) (by kernel_rfl) (fun _ _ _ h => h) (Or.inl ⟨by rfl, ?hyb1⟩) (by assumption) ?restb1
  case hyb1 => (intro u hu; obtain ⟨_, _, _⟩ := hu; go_simp; try with_reducible rfl)
  try simp only [Act.put, List.setIfInBounds_toArray, List.set_cons_zero, List.set_cons_succ, List.getElem_toArray, List.getElem_cons_zero, List.getElem_cons_succ]
  refine wpAnyH_take (i := 2) (v := ?vb2) rfl (by kernel_rfl) (by kernel_rfl) (by kernel_rfl) (fun _ _ _ h => h) (Or.inl ⟨by rfl, ?hyb2⟩) (by assumption) ?restb2
  case hyb2 => (intro u hu; obtain ⟨_, _, _⟩ := hu; go_simp; try with_reducible rfl)
  try simp only [Act.put, List.setIfInBounds_toArray, List.set_cons_zero, List.set_cons_succ, List.getElem_toArray, List.getElem_cons_zero, List.getElem_cons_succ]
  refine wpAnyH_take (i := 3) (v := ?vb3) rfl (by kernel_rfl) (by kernel_rfl) (by kernel_rfl) (fun _ _ _ h => h) (Or.inl ⟨by rfl, ?hyb3⟩) (by assumption) ?restb3
  case hyb3 => (intro u hu; obtain ⟨_, _, _⟩ := hu; go_simp; try with_reducible rfl)
  try simp only [Act.put, List.setIfInBounds_toArray, List.set_cons_zero, List.set_cons_succ, List.getElem_toArray, List.getElem_cons_zero, List.getElem_cons_succ]
  refine wpAnyH_take (i := 4) (v := ?vb4) rfl (by kernel_rfl) (by kernel_rfl) (by kernel_rfl) (fun _ _ _ h => h) (Or.inl ⟨by rfl, ?hyb4⟩) (by assumption) ?restb4
  case hyb4 => (intro u hu; obtain ⟨_, _, _⟩ := hu; go_simp; try with_reducible rfl)
  try simp only [Act.put, List.setIfInBounds_toArray, List.set_cons_zero, List.set_cons_succ, List.getElem_toArray, List.getElem_cons_zero, List.getElem_cons_succ]
  refine wpAnyH_take (i := 5) (v := ?vb5) rfl (by kernel_rfl) (by kernel_rfl) (by kernel_rfl) (fun _ _ _ h => h) (Or.inl ⟨by rfl, ?hyb5⟩) (by assumption) ?restb5
  case hyb5 => (intro u hu; obtain ⟨_, _, _⟩ := hu; go_simp; try with_reducible rfl)
  try simp only [Act.put, List.setIfInBounds_toArray, List.set_cons_zero, List.set_cons_succ, List.getElem_toArray, List.getElem_cons_zero, List.getElem_cons_succ]
  refine wpAnyH_take (i := 6) (v := ?vb6) rfl (by kernel_rfl) (by kernel_rfl) (by kernel_rfl) (fun _ _ _ h => h) (Or.inl ⟨by rfl, ?hyb6⟩) (by assumption) ?restb6
  case hyb6 => (intro u hu; obtain ⟨_, _, _⟩ := hu; go_simp; try with_reducible rfl)
  try simp only [Act.put, List.setIfInBounds_toArray, List.set_cons_zero, List.set_cons_succ, List.getElem_toArray, List.getElem_cons_zero, List.getElem_cons_succ]
  refine wpAnyH_take (i := 7) (v := ?vb7) rfl (by kernel_rfl) (by kernel_rfl) (by kernel_rfl) (fun _ _ _ h => h) (Or.inl ⟨by rfl, ?hyb7⟩) (by assumption) ?restb7
  case hyb7 => (intro u hu; obtain ⟨_, _, _⟩ := hu; go_simp; try with_reducible rfl)
  try simp only [Act.put, List.setIfInBounds_toArray, List.set_cons_zero, List.set_cons_succ, List.getElem_toArray, List.getElem_cons_zero, List.getElem_cons_succ]
  refine wpAnyH_take (i := 8) (v := ?vb8) rfl (by kernel_rfl) (by kernel_rfl) (by kernel_rfl) (fun _ _ _ h => h) (Or.inl ⟨by rfl, ?hyb8⟩) (by assumption) ?restb8
  case hyb8 => (intro u hu; obtain ⟨_, _, _⟩ := hu; go_simp; try with_reducible rfl)
  try simp only [Act.put, List.setIfInBounds_toArray, List.set_cons_zero, List.set_cons_succ, List.getElem_toArray, List.getElem_cons_zero, List.getElem_cons_succ]
  refine wpAnyH_take (i := 9) (v := ?vb9) rfl (by kernel_rfl) (by kernel_rfl) (by kernel_rfl) (fun _ _ _ h => h) (Or.inl ⟨by rfl, ?hyb9⟩) (by assumption) ?restb9
  case hyb9 => (intro u hu; obtain ⟨_, _, _⟩ := hu; go_simp; try with_reducible rfl)
  try simp only [Act.put, List.setIfInBounds_toArray, List.set_cons_zero, List.set_cons_succ, List.getElem_toArray, List.getElem_cons_zero, List.getElem_cons_succ]
  refine wpAnyH_take (i := 10) (v := ?vb10) rfl (by kernel_rfl) (by kernel_rfl) (by kernel_rfl) (fun _ _ _ h => h) (Or.inl ⟨by rfl, ?hyb10⟩) (by assumption) ?restb10
  case hyb10 => (intro u hu; obtain ⟨_, _, _⟩ := hu; go_simp; try with_reducible rfl)
  try simp only [Act.put, List.setIfInBounds_toArray, List.set_cons_zero, List.set_cons_succ, List.getElem_toArray, List.getElem_cons_zero, List.getElem_cons_succ]
  refine wpAnyH_take (i := 11) (v := ?vb11) rfl (by kernel_rfl) (by kernel_rfl) (by kernel_rfl) (fun _ _ _ h => h) (Or.inl ⟨by rfl, ?hyb11⟩) (by assumption) ?restb11
  case hyb11 => (intro u hu; obtain ⟨_, _, _⟩ := hu; go_simp; try with_reducible rfl)
  try simp only [Act.put, List.setIfInBounds_toArray, List.set_cons_zero, List.set_cons_succ, List.getElem_toArray, List.getElem_cons_zero, List.getElem_cons_succ]
  refine wpAnyH_take (i := 12) (v := ?vb12) rfl (by kernel_rfl) (by kernel_rfl) (by kernel_rfl) (fun _ _ _ h => h) (Or.inl ⟨by rfl, ?hyb12⟩) (by assumption) ?restb12
  case hyb12 => (intro u hu; obtain ⟨_, _, _⟩ := hu; go_simp; try with_reducible rfl)
  try simp only [Act.put, List.setIfInBounds_toArray, List.set_cons_zero, List.set_cons_succ, List.getElem_toArray, List.getElem_cons_zero, List.getElem_cons_succ]
  refine wpAnyH_take (i := 13) (v := ?vb13) rfl (by kernel_rfl) (by kernel_rfl) (by kernel_rfl) (fun _ _ _ h => h) (Or.inl ⟨by rfl, ?hyb13⟩) (by assumption) ?restb13
  case hyb13 => (intro u hu; obtain ⟨_, _, _⟩ := hu; go_simp; try with_reducible rfl)
  try simp only [Act.put, List.setIfInBounds_toArray, List.set_cons_zero, List.set_cons_succ, List.getElem_toArray, List.getElem_cons_zero, List.getElem_cons_succ]
  refine wpAnyH_ready (rs := [14]) (by kernel_rfl) (by simp) ?_
  refine AllReadyH.cons rfl (fun K hK => ?_) AllReadyH.nil
  refine map_put_wp (.tmp 30) (.tmp 39) (.tmp 40) rfl (by simp [Act.eval, Act.put]) x oki (by simp [Act.eval, Act.put]) (j : Int) (WalkArith.wf_i64 (by omega)) (by simp [Act.eval, Act.put]) Ownb.out (by unfold maxLen; omega) ?_
  intro wb hownb hturnb
  refine hK.out _ _ (HSb.out hownb hturnb) (fun hHeld2 => ?_)
  clear hK K hHeld
  have hHeld := hHeld2
  clear hHeld2
  try simp only [Act.put, List.setIfInBounds_toArray, List.set_cons_zero, List.set_cons_succ, List.getElem_toArray, List.getElem_cons_zero, List.getElem_cons_succ]
  refine wpAnyH_done (by kernel_rfl) ?_ _
  refine NoPanic.normal ?_
  go_wp2_with fail
  go_end0
  exact ⟨rfl, HK2.out.1.drew.mapped hownb hturnb, (HK2.out.2.trans (Turns.drew _ _)).trans (Turns.map hturnb HK2.out.1.fm)⟩
theorem kSwap {F : Where} {w : World} {kb i j : Nat} {L : List It} (h : HK F w kb L) (hL : L.length < 1099511627776) (hi : i < L.length) (hj : j < L.length) (hij : ¬ i = j) :
    Calls Tryz.prog 144 #[.pointer (some ⟨kb, 0, none⟩), .int .i64 (i : Int), .int .i64 (j : Int)] w fun e w' => e = .returned (.tuple #[]) ∧ HK F w' kb ((L.set i L[j]).set j L[i]) ∧ Turns F w w' := by
  obtain ⟨v, mb, D, h, t⟩ := h
  obtain ⟨g, cap, rfl, _⟩ := h.sl (by omega)
  refine (kSwap_at h (by omega) (by omega) hi hj hij).mono ?_
  rintro e w' ⟨rfl, h1, h2⟩
  exact ⟨rfl, HK.of (by simpa using h1) (t.swap h.tidy hi hj hij), h2⟩
end Go.Proofs.YtbmejaailhjgfaaGreat
namespace Go.Proofs.YtbmejaailhjgfaaGreat
open Go.RowKit Go.Maps
set_option linter.unusedSimpArgs false
set_option maxRecDepth 100000

section
variable {F : Where} {w u : World} {kb : Nat} {v : Value} {mb n : Nat} {D : DataW Unit} {L : List It}
/-- An entry is appended to the row, whatever the region. -/
theorem items_append_wp {o : Oper} {a : Act} {K : Act → World → Prop} {Q : Exit → Act → World → Prop} (h : KAt F u kb v mb n D L) (s x : Operand)
    (ho : o.op = .call { callee := .builtin .append, args := #[s, x], argTypes := #[88, 88] }) (hs : a.eval s = v) (ad : Addr) (c : Nat) (hx : a.eval x = .slice (some ad) 1 c) (y : It)
    (hcells : ∀ j z, (encI y)[j]? = some z → u.cell? (ad.add j) = some z) (hL : L.length < 1099511627776)
    (hK : ∀ g c' u', u'.ownsRow 0 67 3 (.slice (some ⟨g, 0, none⟩) (L.length + 1) c') (L.length + 1) (flatE encI (L ++ [y])) → u.grownBy u' v.ownBlock → ((Value.slice (some ⟨g, 0, none⟩) (L.length + 1) c').ownBlock = v.ownBlock ∨ (Value.slice (some ⟨g, 0, none⟩) (L.length + 1) c').ownBlock = some u.heap.size) → K (a.put o.dst (.slice (some ⟨g, 0, none⟩) (L.length + 1) c')) u') : o.wp Tryz.prog a u K Q := by
  have hinfo : (Tryz.prog.info? 67).map (fun i => (i.zero, i.size, i.bytes)) = some (some (.agg #[.string ⟨#[]⟩, .int .i64 0, .int .i64 0]), 3, 32) := by kernel_rfl
  obtain ⟨i0, hi, hz0, hz1, hz2⟩ := info_parts hinfo
  obtain ⟨v', u', hr, h2, h3, h4, h5⟩ := run_append_own_at (P := Tryz.prog) u 0 88 o.type 67 i0 _ 3 32 Tryz.underlying88 hi hz0 hz1 hz2 (by rfl) (by omega) v L.length (flatE encI L) h.row ad 1 c (encI y) (by rw [encI_len]) hcells (encI_one y) (by unfold maxLen; omega) (by omega) (Nat.zero_le _)
  unfold Oper.wp execOp
  simp only [ho, resolve, invoke, builtin, Sem.run_bind, Sem.run_pure, Result.andThen_ok, List.map_toArray, List.map_cons, List.map_nil, hs, hx, hr]
  have h2' : u'.ownsRow 0 67 3 v' (L.length + 1) (flatE encI (L ++ [y])) := by
    rw [flatE_append]
    simpa [flatE] using h2
  have hs2 := h2'
  obtain ⟨_, ⟨_, h0⟩ | ⟨g, cap, cur, rfl, _⟩⟩ := hs2
  · omega
  · exact hK g cap u' h2' h3 h5
theorem KAt.kept_cells {u' : World} (h : KAt F u kb v mb n D L) (h2 : u.grownBy u' v.ownBlock) : u'.cell? ⟨kb, 0, none⟩ = some v ∧ u'.frozen? ⟨kb, 0, none⟩ = false := by
  have hk : u'.heap[kb]? = u.heap[kb]? := h2.block kb h.lt (fun e => by
    obtain ⟨_, ⟨rfl, _⟩ | ⟨g, cap, cur, rfl, _, hg, _⟩⟩ := h.row
    · simp [Value.ownBlock] at e
    · obtain rfl : kb = g := by simpa [Value.ownBlock] using e
      rw [h.own] at hg; simp at hg)
  rw [h.own] at hk
  exact ⟨by simp [World.cell?, hk], by simp [World.frozen?, hk]⟩
/-- The struct's slice is the new one. -/
theorem KAt.appended {u' : World} {v' : Value} {y : It} (h : KAt F u kb v mb n D L) (hF : ∀ b, u.heap.size ≤ b → F b) (hy : okI y) (h1 : u'.ownsRow 0 67 3 v' (L.length + 1) (flatE encI (L ++ [y]))) (h2 : u.grownBy u' v.ownBlock) (h3 : v'.ownBlock = v.ownBlock ∨ v'.ownBlock = some u.heap.size) :
    KAt F (u'.setCell ⟨kb, 0, none⟩ v') kb v' mb n D (L ++ [y]) ∧ Turns F u (u'.setCell ⟨kb, 0, none⟩ v') := by
  have hvk : ∀ b, v.ownBlock = some b → b ≠ kb ∧ b ≠ mb := fun b hb => by
    obtain ⟨_, ⟨rfl, _⟩ | ⟨g, cap, cur, rfl, _, hg, _⟩⟩ := h.row
    · simp [Value.ownBlock] at hb
    · obtain rfl : g = b := by simpa [Value.ownBlock] using hb
      refine ⟨fun e => ?_, fun e => ?_⟩
      · rw [e, h.own] at hg; simp at hg
      · obtain ⟨es, c, q1, _⟩ := h.map
        rw [e, q1] at hg; cases hg
  have hk : u'.heap[kb]? = u.heap[kb]? := h2.block kb h.lt (fun e => (hvk kb e.symm).1 rfl)
  have hm : u'.heap[mb]? = u.heap[mb]? := h2.block mb h.map.lt (fun e => (hvk mb e.symm).2 rfl)
  have hfr : ∀ b, v'.ownBlock = some b → F b := fun b hb => by
    rcases h3 with e | e
    · exact h.fr b (by rw [← e]; exact hb)
    · rw [e] at hb
      exact hF b (by simp at hb; omega)
  have hv' : ∀ b, v'.ownBlock = some b → b ≠ kb := fun b hb => by
    rcases h3 with e | e
    · exact (hvk b (by rw [← e]; exact hb)).1
    · rw [e] at hb
      have := h.lt
      simp at hb; omega
  refine ⟨⟨h.fk, h.fm, hfr, ?_, ?_, ?_, ?_⟩, ?_⟩
  · rw [heap_setCell_same u' kb 0 _ _ v' (hk.trans h.own)]; rfl
  · obtain ⟨q1, q2 | ⟨g, cap, cur, hv, hB, hg, q3⟩⟩ := h1
    · exact absurd q2.2 (by omega)
    · refine ⟨by simpa using q1, .inr ⟨g, cap, cur, by simpa using hv, hB, ?_, by simpa using q3⟩⟩
      rw [heap_setCell_other u' ⟨kb, 0, none⟩ g v' (hv' g (by rw [hv]; rfl))]; exact hg
  · obtain ⟨es, c, q1, q2⟩ := h.map
    exact ⟨es, c, by rw [heap_setCell_other u' ⟨kb, 0, none⟩ mb v' h.apart, hm]; exact q1, q2⟩
  · intro z hz
    rcases List.mem_append.1 hz with hz | hz
    · exact h.ok z hz
    · rw [List.mem_singleton.1 hz]; exact hy
  · exact (Turns.grown h2 h.fr).trans (Turns.set h.fk v')
end
/-- What stays while the new entry's place is told. -/
def PuS (kb mb b : Nat) (v : Value) (k : ByteArray) (u : World) : Prop := u.cell? ⟨kb, 0, none⟩ = some v ∧ u.cell? ⟨kb, 2, none⟩ = some (.map (some mb)) ∧ u.cell? ⟨b, 0, none⟩ = some (.string k)
set_option maxHeartbeats 4000000 in
theorem kPush_at {F : Where} {w : World} {kb mb n len cap : Nat} {a : Option Addr} {D : DataW Unit} {L : List It} (h : KAt F w kb (.slice a len cap) mb n D L) (hF : ∀ b, w.heap.size ≤ b → F b) (hlen : len = L.length) (hn : n < 4611686018427387904) (hL : L.length < 1099511627776) (y : It) (hy : okI y) :
    Calls Tryz.prog 143 #[.pointer (some ⟨kb, 0, none⟩), .iface 67 (vI y)] w fun e w' => e = .returned (.tuple #[]) ∧
      (∃ v, KAt F w' kb v mb (n + 1) (D.put (kl y) (.lit (.int .i64 (L.length : Int)))) (L ++ [y])) ∧ Turns F w w' := by
  have hkb := h.lt
  have hmb := h.map.lt
  subst hlen
  have hta : ∀ W, Sem.run Tryz.prog (Instr.typeAssert (.iface 67 (vI y)) 20 67 false) W = .ok (vI y) W := fun _ => by kernel_rfl
  go_enter Tryz.func143, Tryz.ntmps143
  go_wp2_with fail
  have HK0 : Hid (KAt F (w.alloc (.cells #[.string y.1, .int .i64 y.2.1, .int .i64 y.2.2] 67)).drew kb (.slice a L.length cap) mb n D L) := (h.grow (by go_grown)).drew
  have Own1 : Hid ((w.alloc (.cells #[.string y.1, .int .i64 y.2.1, .int .i64 y.2.2] 67)).drew.ownsMap Tryz.prog 9 (plainElem Tryz.prog 3) mb n D) := HK0.out.map
  have HS0 : Hid (PuS kb mb w.heap.size (.slice a L.length cap) y.1 (w.alloc (.cells #[.string y.1, .int .i64 y.2.1, .int .i64 y.2.2] 67)).drew) := ⟨HK0.out.c0, HK0.out.c2, by simp [go_sem]⟩
  have HB : Hid (∀ {u : World}, (w.alloc (.cells #[.string y.1, .int .i64 y.2.1, .int .i64 y.2.2] 67)).drew.mapTurned u mb → u.heap[w.heap.size]? = some (.cells #[.string y.1, .int .i64 y.2.1, .int .i64 y.2.2] 67 (0, 0))) := by
    intro u hu
    rw [hu.grown.block w.heap.size (by simp) (fun e => by simp at e; omega)]
    exact heap_new w _ _ rfl
  have HS2 : Hid (∀ {u : World} {D' : DataW Unit}, u.ownsMap Tryz.prog 9 (plainElem Tryz.prog 3) mb (n + 1) D' → (w.alloc (.cells #[.string y.1, .int .i64 y.2.1, .int .i64 y.2.2] 67)).drew.mapTurned u mb → PuS kb mb w.heap.size (.slice a L.length cap) y.1 u) := by
    intro u D' h1 h2
    have k := HK0.out.mapped h1 h2
    have q := HB.out h2
    exact ⟨k.c0, k.c2, by simp [World.cell?, q]⟩
  have HT0 : Hid (Turns F w (w.alloc (.cells #[.string y.1, .int .i64 y.2.1, .int .i64 y.2.2] 67)).drew) := (Turns.alloc _ _ _).trans (Turns.drew _ _)
  clear h hta
  refine wp_region_noPanic ?_
  refine wp_region_held_drew (S := PuS kb mb w.heap.size (.slice a L.length cap) y.1) (by kernel_rfl) (HS0.out) (fun hHeld => ?_)
  refine wpAnyH_take (i := 0) (v := ?v0) rfl (by kernel_rfl) (by kernel_rfl) (by kernel_rfl) (fun _ _ _ h => h) (Or.inl ⟨by rfl, ?hy0⟩) (by assumption) ?rest0
  case hy0 => (intro u hu; obtain ⟨_, _, _⟩ := hu; go_simp; try with_reducible rfl)
  try simp only [Act.put, List.setIfInBounds_toArray, List.set_cons_zero, List.set_cons_succ, List.getElem_toArray, List.getElem_cons_zero, List.getElem_cons_succ]
  refine wpAnyH_take (i := 1) (v := ?v1) rfl (by kernel_rfl) (by kernel_rfl) (by kernel_rfl) (fun _ _ _ h => h) (Or.inl ⟨by rfl, ?hy1⟩) (by assumption) ?rest1
  case hy1 => (intro u hu; obtain ⟨_, _, _⟩ := hu; go_simp; try with_reducible rfl)
  try simp only [Act.put, List.setIfInBounds_toArray, List.set_cons_zero, List.set_cons_succ, List.getElem_toArray, List.getElem_cons_zero, List.getElem_cons_succ]
  refine wpAnyH_take (i := 2) (v := ?v2) rfl (by kernel_rfl) (by kernel_rfl) (by kernel_rfl) (fun _ _ _ h => h) (Or.inl ⟨by rfl, ?hy2⟩) (by assumption) ?rest2
  case hy2 => (intro u hu; obtain ⟨_, _, _⟩ := hu; go_simp; try with_reducible rfl)
  try simp only [Act.put, List.setIfInBounds_toArray, List.set_cons_zero, List.set_cons_succ, List.getElem_toArray, List.getElem_cons_zero, List.getElem_cons_succ]
  refine wpAnyH_take (i := 3) (v := ?v3) rfl (by kernel_rfl) (by kernel_rfl) (by kernel_rfl) (fun _ _ _ h => h) (Or.inl ⟨by rfl, ?hy3⟩) (by assumption) ?rest3
  case hy3 => (intro u hu; obtain ⟨_, _, _⟩ := hu; go_simp; try with_reducible rfl)
  try simp only [Act.put, List.setIfInBounds_toArray, List.set_cons_zero, List.set_cons_succ, List.getElem_toArray, List.getElem_cons_zero, List.getElem_cons_succ]
  refine wpAnyH_take (i := 4) (v := ?v4) rfl (by kernel_rfl) (by kernel_rfl) (by kernel_rfl) (fun _ _ _ h => h) (Or.inl ⟨by rfl, ?hy4⟩) (by assumption) ?rest4
  case hy4 => (intro u hu; obtain ⟨_, _, _⟩ := hu; go_simp; try with_reducible rfl)
  try simp only [Act.put, List.setIfInBounds_toArray, List.set_cons_zero, List.set_cons_succ, List.getElem_toArray, List.getElem_cons_zero, List.getElem_cons_succ]
  refine wpAnyH_take (i := 5) (v := ?v5) rfl (by kernel_rfl) (by kernel_rfl) (by kernel_rfl) (fun _ _ _ h => h) (Or.inl ⟨by rfl, ?hy5⟩) (by assumption) ?rest5
  case hy5 => (intro u hu; obtain ⟨_, _, _⟩ := hu; go_simp; try with_reducible rfl)
  try simp only [Act.put, List.setIfInBounds_toArray, List.set_cons_zero, List.set_cons_succ, List.getElem_toArray, List.getElem_cons_zero, List.getElem_cons_succ]
  refine wpAnyH_take (i := 6) (v := ?v6) rfl (by kernel_rfl) (by kernel_rfl) (by kernel_rfl) (fun _ _ _ h => h) (Or.inl ⟨by rfl, ?hy6⟩) (by assumption) ?rest6
  case hy6 => (intro u hu; obtain ⟨_, _, _⟩ := hu; go_simp; try with_reducible rfl)
  try simp only [Act.put, List.setIfInBounds_toArray, List.set_cons_zero, List.set_cons_succ, List.getElem_toArray, List.getElem_cons_zero, List.getElem_cons_succ]
  refine wpAnyH_take (i := 7) (v := ?v7) rfl (by kernel_rfl) (by kernel_rfl) (by kernel_rfl) (fun _ _ _ h => h) (Or.inl ⟨by rfl, ?hy7⟩) (by assumption) ?rest7
  case hy7 => (intro u hu; obtain ⟨_, _, _⟩ := hu; go_simp; try with_reducible rfl)
  try simp only [Act.put, List.setIfInBounds_toArray, List.set_cons_zero, List.set_cons_succ, List.getElem_toArray, List.getElem_cons_zero, List.getElem_cons_succ]
  refine wpAnyH_take (i := 8) (v := ?v8) rfl (by kernel_rfl) (by kernel_rfl) (by kernel_rfl) (fun _ _ _ h => h) (Or.inl ⟨by rfl, ?hy8⟩) (by assumption) ?rest8
  case hy8 => (intro u hu; obtain ⟨_, _, _⟩ := hu; go_simp; try with_reducible rfl)
  try simp only [Act.put, List.setIfInBounds_toArray, List.set_cons_zero, List.set_cons_succ, List.getElem_toArray, List.getElem_cons_zero, List.getElem_cons_succ]
  refine wpAnyH_take (i := 9) (v := ?v9) rfl (by kernel_rfl) (by kernel_rfl) (by kernel_rfl) (fun _ _ _ h => h) (Or.inl ⟨by rfl, ?hy9⟩) (by assumption) ?rest9
  case hy9 => (intro u hu; obtain ⟨_, _, _⟩ := hu; go_simp; try with_reducible rfl)
  try simp only [Act.put, List.setIfInBounds_toArray, List.set_cons_zero, List.set_cons_succ, List.getElem_toArray, List.getElem_cons_zero, List.getElem_cons_succ]
  refine wpAnyH_take (i := 10) (v := ?v10) rfl (by kernel_rfl) (by kernel_rfl) (by kernel_rfl) (fun _ _ _ h => h) (Or.inl ⟨by rfl, ?hy10⟩) (by assumption) ?rest10
  case hy10 => (intro u hu; obtain ⟨_, _, _⟩ := hu; go_simp; try with_reducible rfl)
  try simp only [Act.put, List.setIfInBounds_toArray, List.set_cons_zero, List.set_cons_succ, List.getElem_toArray, List.getElem_cons_zero, List.getElem_cons_succ]
  refine wpAnyH_take (i := 11) (v := ?v11) rfl (by kernel_rfl) (by kernel_rfl) (by kernel_rfl) (fun _ _ _ h => h) (Or.inl ⟨by rfl, ?hy11⟩) (by assumption) ?rest11
  case hy11 => (intro u hu; obtain ⟨_, _, _⟩ := hu; go_simp; try with_reducible rfl)
  try simp only [Act.put, List.setIfInBounds_toArray, List.set_cons_zero, List.set_cons_succ, List.getElem_toArray, List.getElem_cons_zero, List.getElem_cons_succ]
  refine wpAnyH_ready (rs := [12]) (by kernel_rfl) (by simp) ?_
  refine AllReadyH.cons rfl (fun K hK => ?_) AllReadyH.nil
  refine map_put_wp (.tmp 10) (.tmp 12) (.tmp 18) rfl (by simp [Act.eval, Act.put]) y hy (by simp [Act.eval, Act.put]) (L.length : Int) (WalkArith.wf_i64 (by omega)) (by simp [Act.eval, Act.put]) Own1.out (by unfold maxLen; omega) ?_
  intro w2 hown2 hturn2
  refine hK.out _ _ (HS2.out hown2 hturn2) (fun hHeld2 => ?_)
  clear hK K hHeld
  have hHeld := hHeld2
  clear hHeld2
  try simp only [Act.put, List.setIfInBounds_toArray, List.set_cons_zero, List.set_cons_succ, List.getElem_toArray, List.getElem_cons_zero, List.getElem_cons_succ]
  refine wpAnyH_done (by kernel_rfl) ?_ _
  refine NoPanic.normal ?_
  have HK2 : Hid (KAt F w2 kb (.slice a L.length cap) mb (n + 1) (D.put (kl y) (.lit (.int .i64 (L.length : Int)))) L) := HK0.out.mapped hown2 hturn2
  have HT2 : Hid (Turns F w w2) := HT0.out.trans (Turns.map hturn2 HK0.out.fm)
  have hbox := HB.out hturn2
  have b0 : w2.cell? ⟨w.heap.size, 0, none⟩ = some (.string y.1) := by simp [World.cell?, hbox]
  have b1 : w2.cell? ⟨w.heap.size, 1, none⟩ = some (.int .i64 y.2.1) := by simp [World.cell?, hbox]
  have b2 : w2.cell? ⟨w.heap.size, 2, none⟩ = some (.int .i64 y.2.2) := by simp [World.cell?, hbox]
  have c0 := HK2.out.c0
  have c0a : (w2.alloc (.cells #[.string y.1, .int .i64 y.2.1, .int .i64 y.2.2] 67)).cell? ⟨kb, 0, none⟩ = some (.slice a L.length cap) := (HK2.out.grow (by go_grown)).c0
  have hF2 : Hid (∀ b, w2.heap.size ≤ b → F b) := fun b hb => hF b (Nat.le_trans HT2.out.size hb)
  clear HK0 Own1 HS0 HB HS2 HT0 hown2 hturn2 hHeld hbox hF
  go_wp2_with fail
  go_region_law (refine items_append_wp (HK2.out.grow (by go_grown)) (.tmp 24) (.tmp 26) rfl (by simp [Act.eval, Act.put]) ⟨w2.heap.size, 0, none⟩ 1 (by simp [Act.eval, Act.put]) y (one_cells w2 (encI y) 67) hL ?_; intro g3 c3 u3 q1 q2 q3; have q4 := KAt.kept_cells (HK2.out.grow (by go_grown)) q2; obtain ⟨q5, q6⟩ := q4)
  all_goals go_end0
  all_goals exact ⟨rfl, ⟨_, (KAt.appended (HK2.out.grow (by go_grown)) (fun b hb => hF2.out b (by simp at hb; omega)) hy q1 q2 q3).1⟩, HT2.out.trans (((Turns.alloc _ _ _).trans (Turns.drew _ _)).trans (KAt.appended (HK2.out.grow (by go_grown)) (fun b hb => hF2.out b (by simp at hb; omega)) hy q1 q2 q3).2)⟩
theorem kPush {F : Where} {w : World} {kb : Nat} {L : List It} (h : HK F w kb L) (hF : ∀ b, w.heap.size ≤ b → F b) (hL : L.length < 1099511627776) (y : It) (hy : okI y) (hnew : ∀ x ∈ L, kl x ≠ kl y) :
    Calls Tryz.prog 143 #[.pointer (some ⟨kb, 0, none⟩), .iface 67 (vI y)] w fun e w' => e = .returned (.tuple #[]) ∧ HK F w' kb (L ++ [y]) ∧ Turns F w w' := by
  obtain ⟨v, mb, D, h, t⟩ := h
  obtain ⟨a, cap, rfl, _⟩ := h.len
  refine (kPush_at h hF rfl (by omega) hL y hy).mono ?_
  rintro e w' ⟨rfl, ⟨v', h1⟩, h2⟩
  refine ⟨rfl, HK.of h1 (t.snoc h.tidy ?_), h2⟩
  cases hh : Maps.has D (kl y)
  · rfl
  · obtain ⟨i, hi, e⟩ := t.2.2 _ hh
    exact absurd e (hnew _ (List.getElem_mem hi))
end Go.Proofs.YtbmejaailhjgfaaGreat
