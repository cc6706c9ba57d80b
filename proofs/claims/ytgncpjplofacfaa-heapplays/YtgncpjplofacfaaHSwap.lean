/- keyed.Swap: two entries change places, and the map tells it. No condition. -/
import Derived.Test.YtgncpjplofacfaaHSwapL
namespace Go.Proofs.Ytgncpjplofacfaa
open Go.RowKit Go.Maps
set_option linter.unusedSimpArgs false

/-- What stays while a key's place is told. -/
def KyS (kb mb g i : Nat) (v : Value) (k : ByteArray) (u : World) : Prop := u.cell? ⟨kb, 0, none⟩ = some v ∧ u.cell? ⟨kb, 2, none⟩ = some (.map (some mb)) ∧ u.cell? ⟨g, i * 3, none⟩ = some (.string k)
theorem KAt.kys {F : Where} {w : World} {kb : Nat} {mb n g len cap : Nat} {D : DataW Unit} {L : List It} (h : KAt F w kb (.slice (some ⟨g, 0, none⟩) len cap) mb n D L) {i : Nat} (hi : i < L.length) : KyS kb mb g i (.slice (some ⟨g, 0, none⟩) len cap) L[i].1 w := by
  obtain ⟨g', cap', hv, _, _, _, _, _, hc⟩ := h.sl (by omega)
  obtain ⟨rfl, rfl, rfl⟩ : g = g' ∧ len = L.length ∧ cap = cap' := by simpa using hv
  exact ⟨h.c0, h.c2, (hc i hi).1.1⟩
set_option maxHeartbeats 4000000 in
theorem kSwap_at {F : Where} {w : World} {kb mb g cap n i j : Nat} {D : DataW Unit} {L : List It} (h : KAt F w kb (.slice (some ⟨g, 0, none⟩) L.length cap) mb n D L) (hn : n + 2 < 4611686018427387904) (hL : L.length < 4611686018427387904) (hi : i < L.length) (hj : j < L.length) (hij : ¬ i = j) :
    Calls Try.prog 69 #[.pointer (some ⟨kb, 0, none⟩), .int .i64 (i : Int), .int .i64 (j : Int)] w fun e w' => e = .returned (.tuple #[]) ∧
      KAt F w' kb (.slice (some ⟨g, 0, none⟩) L.length cap) mb (n + 2) ((D.put (kl L[j]) (.lit (.int .i64 (i : Int)))).put (kl L[i]) (.lit (.int .i64 (j : Int)))) ((L.set i L[j]).set j L[i]) ∧ Turns F w w' := by
  obtain ⟨g', cap', hv, _, hg, _, _, _, hc⟩ := h.sl (by omega)
  obtain ⟨rfl, rfl⟩ : g = g' ∧ cap = cap' := by simpa using hv
  have c0 := h.c0
  have c1 := h.c1
  have Hsw : Hid (Calls Try.prog 70 #[.agg #[.slice (some ⟨g, 0, none⟩) L.length cap, .func (.func 36) #[] #[]], .int .i64 (i : Int), .int .i64 (j : Int)] w fun e w' => e = .returned (.tuple #[]) ∧
      KAt F w' kb (.slice (some ⟨g, 0, none⟩) L.length cap) mb n D ((L.set i L[j]).set j L[i]) ∧ Turns F w w') := by
    refine (lSwap_at g L.length cap i j _ L[i] L[j] w hij (by omega) (by omega) hg (hc i hi).1.1 (hc i hi).1.2.1 (hc i hi).1.2.2 (hc j hj).1.1 (hc j hj).1.2.1 (hc j hj).1.2.2 (hc i hi).2.1 (hc i hi).2.2.1 (hc i hi).2.2.2 (hc j hj).2.1 (hc j hj).2.2.1 (hc j hj).2.2.2).mono ?_
    rintro e w' ⟨rfl, W, hb, rfl⟩
    have k1 := (h.grow hb).items (g := g) rfl hi (h.ok L[j] (List.getElem_mem hj))
    have k2 := k1.1.items (g := g) (i := j) rfl (by simpa using hj) (h.ok L[i] (List.getElem_mem hi))
    exact ⟨rfl, k2.1.drew, ((Turns.below hb).trans (k1.2.trans k2.2)).trans (Turns.drew _ _)⟩
  have ej : ((L.set i L[j]).set j L[i]).length = L.length := by simp
  have gi : ((L.set i L[j]).set j L[i])[i]'(by rw [ej]; exact hi) = L[j] := by rw [List.getElem_set_ne (fun e => hij e.symm), List.getElem_set_self]
  have gj : ((L.set i L[j]).set j L[i])[j]'(by rw [ej]; exact hj) = L[i] := by rw [List.getElem_set_self]
  have oki := h.ok L[i] (List.getElem_mem hi)
  have okj := h.ok L[j] (List.getElem_mem hj)
  generalize hLL : (L.set i L[j]).set j L[i] = LL at *
  generalize hx : L[i] = x at *
  generalize hy : L[j] = y at *
  obtain ⟨v, hv'⟩ : ∃ v, v = Value.slice (some ⟨g, 0, none⟩) L.length cap := ⟨_, rfl⟩
  have hii : (i : Int) < (L.length : Int) := by omega
  have hjj : (j : Int) < (L.length : Int) := by omega
  clear hc h hx hy hLL
  go_enter Try.func69, Try.ntmps69
  go_wp2_with (go_at_call 70; refine Hsw.out.mono ?_; rintro e w1 ⟨rfl, hk1, ht1⟩)
  have HK1 : Hid (KAt F w1 kb (.slice (some ⟨g, 0, none⟩) L.length cap) mb n D LL ∧ Turns F w w1) := ⟨hk1, ht1⟩
  clear Hsw c0 c1 hk1 ht1
  have HSa0 : Hid (KyS kb mb g i (.slice (some ⟨g, 0, none⟩) L.length cap) y.1 w1.drew) := by
    have := HK1.out.1.drew.kys (i := i) (by rw [ej]; exact hi)
    rw [gi] at this; exact this
  have Owna : Hid (w1.drew.ownsMap Try.prog 9 (plainElem Try.prog 3) mb n D) := HK1.out.1.drew.map
  have HSa : Hid (∀ {u : World} {D' : DataW Unit}, u.ownsMap Try.prog 9 (plainElem Try.prog 3) mb (n + 1) D' → w1.drew.mapTurned u mb → KyS kb mb g i (.slice (some ⟨g, 0, none⟩) L.length cap) y.1 u) := by
    intro u D' h1 h2
    have := (HK1.out.1.drew.mapped h1 h2).kys (i := i) (by rw [ej]; exact hi)
    rw [gi] at this; exact this
  refine wp_region_noPanic ?_
  refine wp_region_held_drew (S := KyS kb mb g i (.slice (some ⟨g, 0, none⟩) L.length cap) y.1) (by kernel_rfl) (HSa0.out) (fun hHeld => ?_)
  refine wpAnyH_take (i := 0) (v := ?va0) rfl (by kernel_rfl) (by kernel_rfl) (by kernel_rfl) (fun _ _ _ h => h) (Or.inl ⟨by rfl, ?hya0⟩) (by assumption) ?resta0
  case hya0 => (intro u hu; obtain ⟨_, _, _⟩ := hu; go_simp; try with_reducible rfl)
  try simp only [Act.put, List.setIfInBounds_toArray, List.set_cons_zero, List.set_cons_succ, List.getElem_toArray, List.getElem_cons_zero, List.getElem_cons_succ]
  refine wpAnyH_take (i := 1) (v := ?va1) rfl (by kernel_rfl) (by kernel_rfl) (by kernel_rfl) (fun _ _ _ h => h) (Or.inl ⟨by rfl, ?hya1⟩) (by assumption) ?resta1
  case hya1 => (intro u hu; obtain ⟨_, _, _⟩ := hu; go_simp; try with_reducible rfl)
  try simp only [Act.put, List.setIfInBounds_toArray, List.set_cons_zero, List.set_cons_succ, List.getElem_toArray, List.getElem_cons_zero, List.getElem_cons_succ]
  refine wpAnyH_take (i := 2) (v := ?va2) rfl (by kernel_rfl) (by kernel_rfl) (by kernel_rfl) (fun _ _ _ h => h) (Or.inl ⟨by rfl, ?hya2⟩) (by assumption) ?resta2
  case hya2 => (intro u hu; obtain ⟨_, _, _⟩ := hu; go_simp; try with_reducible rfl)
  try simp only [Act.put, List.setIfInBounds_toArray, List.set_cons_zero, List.set_cons_succ, List.getElem_toArray, List.getElem_cons_zero, List.getElem_cons_succ]
  refine wpAnyH_take (i := 3) (v := ?va3) rfl (by kernel_rfl) (by kernel_rfl) (by kernel_rfl) (fun _ _ _ h => h) (Or.inl ⟨by rfl, ?hya3⟩) (by assumption) ?resta3
  case hya3 => (intro u hu; obtain ⟨_, _, _⟩ := hu; go_simp; try with_reducible rfl)
  try simp only [Act.put, List.setIfInBounds_toArray, List.set_cons_zero, List.set_cons_succ, List.getElem_toArray, List.getElem_cons_zero, List.getElem_cons_succ]
  refine wpAnyH_take (i := 4) (v := ?va4) rfl (by kernel_rfl) (by kernel_rfl) (by kernel_rfl) (fun _ _ _ h => h) (Or.inl ⟨by rfl, ?hya4⟩) (by assumption) ?resta4
  case hya4 => (intro u hu; obtain ⟨_, _, _⟩ := hu; go_simp; try with_reducible rfl)
  try simp only [Act.put, List.setIfInBounds_toArray, List.set_cons_zero, List.set_cons_succ, List.getElem_toArray, List.getElem_cons_zero, List.getElem_cons_succ]
  refine wpAnyH_take (i := 5) (v := ?va5) rfl (by kernel_rfl) (by kernel_rfl) (by kernel_rfl) (fun _ _ _ h => h) (Or.inl ⟨by rfl, ?hya5⟩) (by assumption) ?resta5
  case hya5 => (intro u hu; obtain ⟨_, _, _⟩ := hu; go_simp; try with_reducible rfl)
  try simp only [Act.put, List.setIfInBounds_toArray, List.set_cons_zero, List.set_cons_succ, List.getElem_toArray, List.getElem_cons_zero, List.getElem_cons_succ]
  refine wpAnyH_take (i := 6) (v := ?va6) rfl (by kernel_rfl) (by kernel_rfl) (by kernel_rfl) (fun _ _ _ h => h) (Or.inl ⟨by rfl, ?hya6⟩) (by assumption) ?resta6
  case hya6 => (intro u hu; obtain ⟨_, _, _⟩ := hu; go_simp; try with_reducible rfl)
  try simp only [Act.put, List.setIfInBounds_toArray, List.set_cons_zero, List.set_cons_succ, List.getElem_toArray, List.getElem_cons_zero, List.getElem_cons_succ]
  refine wpAnyH_take (i := 7) (v := ?va7) rfl (by kernel_rfl) (by kernel_rfl) (by kernel_rfl) (fun _ _ _ h => h) (Or.inl ⟨by rfl, ?hya7⟩) (by assumption) ?resta7
  case hya7 => (intro u hu; obtain ⟨_, _, _⟩ := hu; go_simp; try with_reducible rfl)
  try simp only [Act.put, List.setIfInBounds_toArray, List.set_cons_zero, List.set_cons_succ, List.getElem_toArray, List.getElem_cons_zero, List.getElem_cons_succ]
  refine wpAnyH_take (i := 8) (v := ?va8) rfl (by kernel_rfl) (by kernel_rfl) (by kernel_rfl) (fun _ _ _ h => h) (Or.inl ⟨by rfl, ?hya8⟩) (by assumption) ?resta8
  case hya8 => (intro u hu; obtain ⟨_, _, _⟩ := hu; go_simp; try with_reducible rfl)
  try simp only [Act.put, List.setIfInBounds_toArray, List.set_cons_zero, List.set_cons_succ, List.getElem_toArray, List.getElem_cons_zero, List.getElem_cons_succ]
  refine wpAnyH_take (i := 9) (v := ?va9) rfl (by kernel_rfl) (by kernel_rfl) (by kernel_rfl) (fun _ _ _ h => h) (Or.inl ⟨by rfl, ?hya9⟩) (by assumption) ?resta9
  case hya9 => (intro u hu; obtain ⟨_, _, _⟩ := hu; go_simp; try with_reducible rfl)
  try simp only [Act.put, List.setIfInBounds_toArray, List.set_cons_zero, List.set_cons_succ, List.getElem_toArray, List.getElem_cons_zero, List.getElem_cons_succ]
  refine wpAnyH_take (i := 10) (v := ?va10) rfl (by kernel_rfl) (by kernel_rfl) (by kernel_rfl) (fun _ _ _ h => h) (Or.inl ⟨by rfl, ?hya10⟩) (by assumption) ?resta10
  case hya10 => (intro u hu; obtain ⟨_, _, _⟩ := hu; go_simp; try with_reducible rfl)
  try simp only [Act.put, List.setIfInBounds_toArray, List.set_cons_zero, List.set_cons_succ, List.getElem_toArray, List.getElem_cons_zero, List.getElem_cons_succ]
  refine wpAnyH_take (i := 11) (v := ?va11) rfl (by kernel_rfl) (by kernel_rfl) (by kernel_rfl) (fun _ _ _ h => h) (Or.inl ⟨by rfl, ?hya11⟩) (by assumption) ?resta11
  case hya11 => (intro u hu; obtain ⟨_, _, _⟩ := hu; go_simp; try with_reducible rfl)
  try simp only [Act.put, List.setIfInBounds_toArray, List.set_cons_zero, List.set_cons_succ, List.getElem_toArray, List.getElem_cons_zero, List.getElem_cons_succ]
  refine wpAnyH_take (i := 12) (v := ?va12) rfl (by kernel_rfl) (by kernel_rfl) (by kernel_rfl) (fun _ _ _ h => h) (Or.inl ⟨by rfl, ?hya12⟩) (by assumption) ?resta12
  case hya12 => (intro u hu; obtain ⟨_, _, _⟩ := hu; go_simp; try with_reducible rfl)
  try simp only [Act.put, List.setIfInBounds_toArray, List.set_cons_zero, List.set_cons_succ, List.getElem_toArray, List.getElem_cons_zero, List.getElem_cons_succ]
  refine wpAnyH_take (i := 13) (v := ?va13) rfl (by kernel_rfl) (by kernel_rfl) (by kernel_rfl) (fun _ _ _ h => h) (Or.inl ⟨by rfl, ?hya13⟩) (by assumption) ?resta13
  case hya13 => (intro u hu; obtain ⟨_, _, _⟩ := hu; go_simp; try with_reducible rfl)
  try simp only [Act.put, List.setIfInBounds_toArray, List.set_cons_zero, List.set_cons_succ, List.getElem_toArray, List.getElem_cons_zero, List.getElem_cons_succ]
  refine wpAnyH_ready (rs := [14]) (by kernel_rfl) (by simp) ?_
  refine AllReadyH.cons rfl (fun K hK => ?_) AllReadyH.nil
  refine map_put_wp (.tmp 16) (.tmp 25) (.tmp 26) rfl (by simp [Act.eval, Act.put]) y okj (by simp [Act.eval, Act.put]) (i : Int) (WalkArith.wf_i64 (by omega)) (by simp [Act.eval, Act.put]) Owna.out (by unfold maxLen; omega) ?_
  intro wa howna hturna
  refine hK.out _ _ (HSa.out howna hturna) (fun hHeld2 => ?_)
  clear hK K hHeld
  have hHeld := hHeld2
  clear hHeld2
  try simp only [Act.put, List.setIfInBounds_toArray, List.set_cons_zero, List.set_cons_succ, List.getElem_toArray, List.getElem_cons_zero, List.getElem_cons_succ]
  refine wpAnyH_done (by kernel_rfl) ?_ _
  refine NoPanic.normal ?_
  have HK2 : Hid (KAt F wa kb (.slice (some ⟨g, 0, none⟩) L.length cap) mb (n + 1) (D.put (kl y) (.lit (.int .i64 (i : Int)))) LL ∧ Turns F w wa) := ⟨HK1.out.1.drew.mapped howna hturna, (HK1.out.2.trans (Turns.drew _ _)).trans (Turns.map hturna HK1.out.1.fm)⟩
  clear HK1 HSa0 HSa Owna howna hturna hHeld
  go_wp2_with fail
  have HSb0 : Hid (KyS kb mb g j (.slice (some ⟨g, 0, none⟩) L.length cap) x.1 wa.drew) := by
    have := HK2.out.1.drew.kys (i := j) (by rw [ej]; exact hj)
    rw [gj] at this; exact this
  have Ownb : Hid (wa.drew.ownsMap Try.prog 9 (plainElem Try.prog 3) mb (n + 1) (D.put (kl y) (.lit (.int .i64 (i : Int))))) := HK2.out.1.drew.map
  have HSb : Hid (∀ {u : World} {D' : DataW Unit}, u.ownsMap Try.prog 9 (plainElem Try.prog 3) mb (n + 1 + 1) D' → wa.drew.mapTurned u mb → KyS kb mb g j (.slice (some ⟨g, 0, none⟩) L.length cap) x.1 u) := by
    intro u D' h1 h2
    have := (HK2.out.1.drew.mapped h1 h2).kys (i := j) (by rw [ej]; exact hj)
    rw [gj] at this; exact this
  refine wp_region_noPanic ?_
  refine wp_region_held_drew (S := KyS kb mb g j (.slice (some ⟨g, 0, none⟩) L.length cap) x.1) (by kernel_rfl) (HSb0.out) (fun hHeld => ?_)
  refine wpAnyH_take (i := 0) (v := ?vb0) rfl (by kernel_rfl) (by kernel_rfl) (by kernel_rfl) (fun _ _ _ h => h) (Or.inl ⟨by rfl, ?hyb0⟩) (by assumption) ?restb0
  case hyb0 => (intro u hu; obtain ⟨_, _, _⟩ := hu; go_simp; try with_reducible rfl)
  try simp only [Act.put, List.setIfInBounds_toArray, List.set_cons_zero, List.set_cons_succ, List.getElem_toArray, List.getElem_cons_zero, List.getElem_cons_succ]
  refine wpAnyH_take (i := 1) (v := ?vb1) rfl (by kernel_rfl) (by kernel_rfl) (by kernel_rfl) (fun _ _ _ h => h) (Or.inl ⟨by rfl, ?hyb1⟩) (by assumption) ?restb1
  case hyb1 => (intro u hu; obtain ⟨_, _, _⟩ := hu; go_simp; try with_reducible rfl)
  try simp only [Act.put, List.setIfInBounds_toArray, List.set_cons_zero, List.set_cons_succ, List.getElem_toArray, List.getElem_cons_zero, List.getElem_cons_succ]
  refine wpAnyH_take (i := 2) (v := ?vb2) rfl (by kernel_rfl) (by kernel_rfl) (by kernel_rfl) (fun _ _ _ h => h) (Or.inl ⟨by rfl, ?hyb2⟩) (by assumption) ?restb2
  case hyb2 => (intro u hu; obtain ⟨_, _, _⟩ := hu; go_simp; try with_reducible rfl)
  try simp only [Act.put, List.setIfInBounds_toArray, List.set_cons_zero, List.set_cons_succ, List.getElem_toArray, List.getElem_cons_zero, List.getElem_cons_succ]
  refine wpAnyH_take (i := 3) (v := ?vb3) rfl (by kernel_rfl) (by kernel_rfl) (by kernel_rfl) (fun _ _ _ h => h) (Or.inl ⟨by rfl, ?hyb3⟩) (by assumption) ?restb3
  case hyb3 => (intro u hu; obtain ⟨_, _, _⟩ := hu; go_simp; try with_reducible rfl)
  try simp only [Act.put, List.setIfInBounds_toArray, List.set_cons_zero, List.set_cons_succ, List.getElem_toArray, List.getElem_cons_zero, List.getElem_cons_succ]
  refine wpAnyH_take (i := 4) (v := ?vb4) rfl (by kernel_rfl) (by kernel_rfl) (by kernel_rfl) (fun _ _ _ h => h) (Or.inl ⟨by rfl, ?hyb4⟩) (by assumption) ?restb4
  case hyb4 => (intro u hu; obtain ⟨_, _, _⟩ := hu; go_simp; try with_reducible rfl)
  try simp only [Act.put, List.setIfInBounds_toArray, List.set_cons_zero, List.set_cons_succ, List.getElem_toArray, List.getElem_cons_zero, List.getElem_cons_succ]
  refine wpAnyH_take (i := 5) (v := ?vb5) rfl (by kernel_rfl) (by kernel_rfl) (by kernel_rfl) (fun _ _ _ h => h) (Or.inl ⟨by rfl, ?hyb5⟩) (by assumption) ?restb5
  case hyb5 => (intro u hu; obtain ⟨_, _, _⟩ := hu; go_simp; try with_reducible rfl)
  try simp only [Act.put, List.setIfInBounds_toArray, List.set_cons_zero, List.set_cons_succ, List.getElem_toArray, List.getElem_cons_zero, List.getElem_cons_succ]
  refine wpAnyH_take (i := 6) (v := ?vb6) rfl (by kernel_rfl) (by kernel_rfl) (by kernel_rfl) (fun _ _ _ h => h) (Or.inl ⟨by rfl, ?hyb6⟩) (by assumption) ?restb6
  case hyb6 => (intro u hu; obtain ⟨_, _, _⟩ := hu; go_simp; try with_reducible rfl)
  try simp only [Act.put, List.setIfInBounds_toArray, List.set_cons_zero, List.set_cons_succ, List.getElem_toArray, List.getElem_cons_zero, List.getElem_cons_succ]
  refine wpAnyH_take (i := 7) (v := ?vb7) rfl (by kernel_rfl) (by kernel_rfl) (by kernel_rfl) (fun _ _ _ h => h) (Or.inl ⟨by rfl, ?hyb7⟩) (by assumption) ?restb7
  case hyb7 => (intro u hu; obtain ⟨_, _, _⟩ := hu; go_simp; try with_reducible rfl)
  try simp only [Act.put, List.setIfInBounds_toArray, List.set_cons_zero, List.set_cons_succ, List.getElem_toArray, List.getElem_cons_zero, List.getElem_cons_succ]
  refine wpAnyH_take (i := 8) (v := ?vb8) rfl (by kernel_rfl) (by kernel_rfl) (by kernel_rfl) (fun _ _ _ h => h) (Or.inl ⟨by rfl, ?hyb8⟩) (by assumption) ?restb8
  case hyb8 => (intro u hu; obtain ⟨_, _, _⟩ := hu; go_simp; try with_reducible rfl)
  try simp only [Act.put, List.setIfInBounds_toArray, List.set_cons_zero, List.set_cons_succ, List.getElem_toArray, List.getElem_cons_zero, List.getElem_cons_succ]
  refine wpAnyH_take (i := 9) (v := ?vb9) rfl (by kernel_rfl) (by kernel_rfl) (by kernel_rfl) (fun _ _ _ h => h) (Or.inl ⟨by rfl, ?hyb9⟩) (by assumption) ?restb9
  case hyb9 => (intro u hu; obtain ⟨_, _, _⟩ := hu; go_simp; try with_reducible rfl)
  try simp only [Act.put, List.setIfInBounds_toArray, List.set_cons_zero, List.set_cons_succ, List.getElem_toArray, List.getElem_cons_zero, List.getElem_cons_succ]
  refine wpAnyH_take (i := 10) (v := ?vb10) rfl (by kernel_rfl) (by kernel_rfl) (by kernel_rfl) (fun _ _ _ h => h) (Or.inl ⟨by rfl, ?hyb10⟩) (by assumption) ?restb10
  case hyb10 => (intro u hu; obtain ⟨_, _, _⟩ := hu; go_simp; try with_reducible rfl)
  try simp only [Act.put, List.setIfInBounds_toArray, List.set_cons_zero, List.set_cons_succ, List.getElem_toArray, List.getElem_cons_zero, List.getElem_cons_succ]
  refine wpAnyH_take (i := 11) (v := ?vb11) rfl (by kernel_rfl) (by kernel_rfl) (by kernel_rfl) (fun _ _ _ h => h) (Or.inl ⟨by rfl, ?hyb11⟩) (by assumption) ?restb11
  case hyb11 => (intro u hu; obtain ⟨_, _, _⟩ := hu; go_simp; try with_reducible rfl)
  try simp only [Act.put, List.setIfInBounds_toArray, List.set_cons_zero, List.set_cons_succ, List.getElem_toArray, List.getElem_cons_zero, List.getElem_cons_succ]
  refine wpAnyH_take (i := 12) (v := ?vb12) rfl (by kernel_rfl) (by kernel_rfl) (by kernel_rfl) (fun _ _ _ h => h) (Or.inl ⟨by rfl, ?hyb12⟩) (by assumption) ?restb12
  case hyb12 => (intro u hu; obtain ⟨_, _, _⟩ := hu; go_simp; try with_reducible rfl)
  try simp only [Act.put, List.setIfInBounds_toArray, List.set_cons_zero, List.set_cons_succ, List.getElem_toArray, List.getElem_cons_zero, List.getElem_cons_succ]
  refine wpAnyH_take (i := 13) (v := ?vb13) rfl (by kernel_rfl) (by kernel_rfl) (by kernel_rfl) (fun _ _ _ h => h) (Or.inl ⟨by rfl, ?hyb13⟩) (by assumption) ?restb13
  case hyb13 => (intro u hu; obtain ⟨_, _, _⟩ := hu; go_simp; try with_reducible rfl)
  try simp only [Act.put, List.setIfInBounds_toArray, List.set_cons_zero, List.set_cons_succ, List.getElem_toArray, List.getElem_cons_zero, List.getElem_cons_succ]
  refine wpAnyH_ready (rs := [14]) (by kernel_rfl) (by simp) ?_
  refine AllReadyH.cons rfl (fun K hK => ?_) AllReadyH.nil
  refine map_put_wp (.tmp 30) (.tmp 39) (.tmp 40) rfl (by simp [Act.eval, Act.put]) x oki (by simp [Act.eval, Act.put]) (j : Int) (WalkArith.wf_i64 (by omega)) (by simp [Act.eval, Act.put]) Ownb.out (by unfold maxLen; omega) ?_
  intro wb hownb hturnb
  refine hK.out _ _ (HSb.out hownb hturnb) (fun hHeld2 => ?_)
  clear hK K hHeld
  have hHeld := hHeld2
  clear hHeld2
  try simp only [Act.put, List.setIfInBounds_toArray, List.set_cons_zero, List.set_cons_succ, List.getElem_toArray, List.getElem_cons_zero, List.getElem_cons_succ]
  refine wpAnyH_done (by kernel_rfl) ?_ _
  refine NoPanic.normal ?_
  go_wp2_with fail
  go_end0
  exact ⟨rfl, HK2.out.1.drew.mapped hownb hturnb, (HK2.out.2.trans (Turns.drew _ _)).trans (Turns.map hturnb HK2.out.1.fm)⟩
theorem kSwap {F : Where} {w : World} {kb i j : Nat} {L : List It} (h : HK F w kb L) (hL : L.length < 1099511627776) (hi : i < L.length) (hj : j < L.length) (hij : ¬ i = j) :
    Calls Try.prog 69 #[.pointer (some ⟨kb, 0, none⟩), .int .i64 (i : Int), .int .i64 (j : Int)] w fun e w' => e = .returned (.tuple #[]) ∧ HK F w' kb ((L.set i L[j]).set j L[i]) ∧ Turns F w w' := by
  obtain ⟨v, mb, D, h, t⟩ := h
  obtain ⟨g, cap, rfl, _⟩ := h.sl (by omega)
  refine (kSwap_at h (by omega) (by omega) hi hj hij).mono ?_
  rintro e w' ⟨rfl, h1, h2⟩
  exact ⟨rfl, HK.of (by simpa using h1) (t.swap h.tidy hi hj hij), h2⟩
end Go.Proofs.Ytgncpjplofacfaa
