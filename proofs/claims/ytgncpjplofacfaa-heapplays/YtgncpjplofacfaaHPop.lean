/- keyed.Pop: the last entry goes, and the map tells it no more. No condition. -/
import Derived.Test.YtgncpjplofacfaaHPush
namespace Go.Proofs.Ytgncpjplofacfaa
open Go.RowKit Go.Maps
set_option linter.unusedSimpArgs false

theorem KAt.cut {F : Where} {w : World} {kb : Nat} {mb n g cap : Nat} {D : DataW Unit} {M : List It} {y : It} (h : KAt F w kb (.slice (some ⟨g, 0, none⟩) (M.length + 1) cap) mb n D (M ++ [y])) :
    KAt F (w.setCell ⟨kb, 0, none⟩ (.slice (some ⟨g, 0, none⟩) M.length cap)) kb (.slice (some ⟨g, 0, none⟩) M.length cap) mb n D M ∧ Turns F w (w.setCell ⟨kb, 0, none⟩ (.slice (some ⟨g, 0, none⟩) M.length cap)) := by
  obtain ⟨g', cap', hv, _, _, hgk, hgm, _, _⟩ := h.sl (by simp)
  obtain rfl : g = g' := by simp at hv; exact hv.1
  refine ⟨⟨h.fk, h.fm, h.fr, ?_, ?_, ?_, fun z hz => h.ok z (List.mem_append_left _ hz)⟩, Turns.set h.fk _⟩
  · rw [heap_setCell_same w kb 0 _ _ _ h.own]; rfl
  · obtain ⟨q1, q2 | ⟨g', cap', cur, hv, hB, hg, hcp, hmx, hsz, htk⟩⟩ := h.row
    · exact absurd q2.2 (by simp)
    · obtain ⟨rfl, rfl⟩ : g = g' ∧ cap = cap' := by simp at hv; exact hv
      refine ⟨by rw [flatE_length encI_len], .inr ⟨g, cap, cur, rfl, hB, by rw [heap_setCell_other w ⟨kb, 0, none⟩ g _ hgk]; exact hg, by simp at hcp; omega, hmx, hsz, ?_⟩⟩
      have := congrArg (List.take (M.length * 3)) htk
      rw [List.take_take, Nat.min_eq_left (by simp; omega), flatE_append, List.take_left' (flatE_length encI_len M)] at this
      exact this
  · obtain ⟨es, c, q1, q2⟩ := h.map
    exact ⟨es, c, by rw [heap_setCell_other w ⟨kb, 0, none⟩ mb _ h.apart]; exact q1, q2⟩
/-- What stays while the entry's key is struck. -/
def PoS (kb mb b : Nat) (k : ByteArray) (u : World) : Prop := u.cell? ⟨kb, 2, none⟩ = some (.map (some mb)) ∧ u.cell? ⟨b, 0, none⟩ = some (.string k)
set_option maxHeartbeats 4000000 in
theorem kPop_at {F : Where} {w : World} {kb mb n g cap : Nat} {D : DataW Unit} {M : List It} {x : It} (h : KAt F w kb (.slice (some ⟨g, 0, none⟩) (M.length + 1) cap) mb n D (M ++ [x])) (hL : M.length < 1099511627776) :
    Calls Try.prog 67 #[.pointer (some ⟨kb, 0, none⟩)] w fun e w' => e = .returned (.iface 27 (vI x)) ∧
      KAt F w' kb (.slice (some ⟨g, 0, none⟩) M.length cap) mb n (D.del (kl x)) M ∧ Turns F w w' := by
  obtain ⟨g', cap', hv, hcap, hg, hgk, hgm, _, hc⟩ := h.sl (by simp)
  obtain ⟨rfl, rfl⟩ : g = g' ∧ cap = cap' := by simp at hv; exact hv
  have hx : okI x := h.ok x (by simp)
  have hi : M.length < (M ++ [x]).length := by simp
  have ex : (M ++ [x])[M.length] = x := by rw [List.getElem_append_right (Nat.le_refl _)]; simp
  obtain ⟨⟨x0, x1, x2⟩, f0, f1, f2⟩ := hc M.length hi
  rw [ex] at x0 x1 x2
  have c0 := h.c0
  have c2 := h.c2
  have fk := h.f0
  have hkb := h.lt
  have hmb := h.map.lt
  have hkg : ¬ kb = g := fun e => hgk e.symm
  have hgn : ¬ g = w.heap.size := by omega
  have hng : ¬ w.heap.size = g := by omega
  have hkn : ¬ kb = w.heap.size := by omega
  have hnk : ¬ w.heap.size = kb := by omega
  have hml : (M.length : Int) < (M.length : Int) + 1 := by omega
  have hcap' : M.length ≤ cap := by simp at hcap; omega
  have hb : Below w.heap.size w (w.alloc (.cells #[.string x.1, .int .i64 x.2.1, .int .i64 x.2.2] 27)) := by go_grown
  have x0' := (hb.cell (p := ⟨g, M.length * 3, none⟩) hg).trans x0
  have x1' := (hb.cell (p := ⟨g, M.length * 3 + 1, none⟩) hg).trans x1
  have x2' := (hb.cell (p := ⟨g, M.length * 3 + 2, none⟩) hg).trans x2
  have f0' := (hb.frozen (p := ⟨g, M.length * 3, none⟩) hg).trans f0
  have f1' := (hb.frozen (p := ⟨g, M.length * 3 + 1, none⟩) hg).trans f1
  have f2' := (hb.frozen (p := ⟨g, M.length * 3 + 2, none⟩) hg).trans f2
  have c0' := (hb.cell (p := ⟨kb, 0, none⟩) hkb).trans c0
  have fk' := (hb.frozen (p := ⟨kb, 0, none⟩) hkb).trans fk
  clear hc hv
  have HH : Hid (KAt F w kb (.slice (some ⟨g, 0, none⟩) (M.length + 1) cap) mb n D (M ++ [x])) := h
  clear h
  go_enter Try.func67, Try.ntmps67
  go_wp2_with fail
  have ok0 : okI (⟨#[]⟩, 0, 0) := (by show (0 : Nat) ≤ 140737488355328; omega)
  have es : (M ++ [x]).set M.length (⟨#[]⟩, 0, 0) = M ++ [(⟨#[]⟩, 0, 0)] := by rw [List.set_append_right _ _ (Nat.le_refl _)]; simp
  have K1 := HH.out.items (g := g) rfl hi ok0
  rw [es] at K1
  have K2 := KAt.cut K1.1
  have HK3 : Hid (KAt F (((((w.setCell ⟨g, M.length * 3, none⟩ (.string ⟨#[]⟩)).setCell ⟨g, M.length * 3 + 1, none⟩ (.int .i64 0)).setCell ⟨g, M.length * 3 + 2, none⟩ (.int .i64 0)).setCell ⟨kb, 0, none⟩ (.slice (some ⟨g, 0, none⟩) M.length cap)).alloc (.cells #[.string x.1, .int .i64 x.2.1, .int .i64 x.2.2] 27)).drew kb (.slice (some ⟨g, 0, none⟩) M.length cap) mb n D M ∧ Turns F w (((((w.setCell ⟨g, M.length * 3, none⟩ (.string ⟨#[]⟩)).setCell ⟨g, M.length * 3 + 1, none⟩ (.int .i64 0)).setCell ⟨g, M.length * 3 + 2, none⟩ (.int .i64 0)).setCell ⟨kb, 0, none⟩ (.slice (some ⟨g, 0, none⟩) M.length cap)).alloc (.cells #[.string x.1, .int .i64 x.2.1, .int .i64 x.2.2] 27)).drew) := ⟨(K2.1.grow ((Below.refl _ _).alloc (Nat.le_refl _) _)).drew, (K1.2.trans K2.2).trans ((Turns.alloc _ _ _).trans (Turns.drew _ _))⟩
  have Own3 : Hid ((((((w.setCell ⟨g, M.length * 3, none⟩ (.string ⟨#[]⟩)).setCell ⟨g, M.length * 3 + 1, none⟩ (.int .i64 0)).setCell ⟨g, M.length * 3 + 2, none⟩ (.int .i64 0)).setCell ⟨kb, 0, none⟩ (.slice (some ⟨g, 0, none⟩) M.length cap)).alloc (.cells #[.string x.1, .int .i64 x.2.1, .int .i64 x.2.2] 27)).drew.ownsMap Try.prog 9 (plainElem Try.prog 3) mb n D) := HK3.out.1.map
  have HS0 : Hid (PoS kb mb w.heap.size x.1 (((((w.setCell ⟨g, M.length * 3, none⟩ (.string ⟨#[]⟩)).setCell ⟨g, M.length * 3 + 1, none⟩ (.int .i64 0)).setCell ⟨g, M.length * 3 + 2, none⟩ (.int .i64 0)).setCell ⟨kb, 0, none⟩ (.slice (some ⟨g, 0, none⟩) M.length cap)).alloc (.cells #[.string x.1, .int .i64 x.2.1, .int .i64 x.2.2] 27)).drew) := ⟨HK3.out.1.c2, by simp [go_sem]⟩
  have HB : Hid (∀ {u : World}, (((((w.setCell ⟨g, M.length * 3, none⟩ (.string ⟨#[]⟩)).setCell ⟨g, M.length * 3 + 1, none⟩ (.int .i64 0)).setCell ⟨g, M.length * 3 + 2, none⟩ (.int .i64 0)).setCell ⟨kb, 0, none⟩ (.slice (some ⟨g, 0, none⟩) M.length cap)).alloc (.cells #[.string x.1, .int .i64 x.2.1, .int .i64 x.2.2] 27)).drew.mapTurned u mb → u.heap[w.heap.size]? = some (.cells #[.string x.1, .int .i64 x.2.1, .int .i64 x.2.2] 27 (0, 0))) := by
    intro u hu
    rw [hu.grown.block w.heap.size (by simp) (fun e => by simp at e; omega)]
    exact heap_new _ _ _ (by simp)
  have HS4 : Hid (∀ {u : World} {D' : DataW Unit}, u.ownsMap Try.prog 9 (plainElem Try.prog 3) mb n D' → (((((w.setCell ⟨g, M.length * 3, none⟩ (.string ⟨#[]⟩)).setCell ⟨g, M.length * 3 + 1, none⟩ (.int .i64 0)).setCell ⟨g, M.length * 3 + 2, none⟩ (.int .i64 0)).setCell ⟨kb, 0, none⟩ (.slice (some ⟨g, 0, none⟩) M.length cap)).alloc (.cells #[.string x.1, .int .i64 x.2.1, .int .i64 x.2.2] 27)).drew.mapTurned u mb → PoS kb mb w.heap.size x.1 u) := by
    intro u D' h1 h2
    have k := HK3.out.1.mapped h1 h2
    have q := HB.out h2
    exact ⟨k.c2, by simp [World.cell?, q]⟩
  clear K1 K2 HH c0 c2 fk x0 x1 x2 f0 f1 f2 x0' x1' x2' f0' f1' f2' c0' fk' hb
  refine wp_region_noPanic ?_
  refine wp_region_held_drew (S := PoS kb mb w.heap.size x.1) (by kernel_rfl) (HS0.out) (fun hHeld => ?_)
  refine wpAnyH_take (i := 0) (v := ?v0) rfl (by kernel_rfl) (by kernel_rfl) (by kernel_rfl) (fun _ _ _ h => h) (Or.inl ⟨by rfl, ?hy0⟩) (by assumption) ?rest0
  case hy0 => (intro u hu; obtain ⟨_, _⟩ := hu; go_simp; try with_reducible rfl)
  try simp only [Act.put, List.setIfInBounds_toArray, List.set_cons_zero, List.set_cons_succ, List.getElem_toArray, List.getElem_cons_zero, List.getElem_cons_succ]
  refine wpAnyH_take (i := 1) (v := ?v1) rfl (by kernel_rfl) (by kernel_rfl) (by kernel_rfl) (fun _ _ _ h => h) (Or.inl ⟨by rfl, ?hy1⟩) (by assumption) ?rest1
  case hy1 => (intro u hu; obtain ⟨_, _⟩ := hu; go_simp; try with_reducible rfl)
  try simp only [Act.put, List.setIfInBounds_toArray, List.set_cons_zero, List.set_cons_succ, List.getElem_toArray, List.getElem_cons_zero, List.getElem_cons_succ]
  refine wpAnyH_take (i := 2) (v := ?v2) rfl (by kernel_rfl) (by kernel_rfl) (by kernel_rfl) (fun _ _ _ h => h) (Or.inl ⟨by rfl, ?hy2⟩) (by assumption) ?rest2
  case hy2 => (intro u hu; obtain ⟨_, _⟩ := hu; go_simp; try with_reducible rfl)
  try simp only [Act.put, List.setIfInBounds_toArray, List.set_cons_zero, List.set_cons_succ, List.getElem_toArray, List.getElem_cons_zero, List.getElem_cons_succ]
  refine wpAnyH_take (i := 3) (v := ?v3) rfl (by kernel_rfl) (by kernel_rfl) (by kernel_rfl) (fun _ _ _ h => h) (Or.inl ⟨by rfl, ?hy3⟩) (by assumption) ?rest3
  case hy3 => (intro u hu; obtain ⟨_, _⟩ := hu; go_simp; try with_reducible rfl)
  try simp only [Act.put, List.setIfInBounds_toArray, List.set_cons_zero, List.set_cons_succ, List.getElem_toArray, List.getElem_cons_zero, List.getElem_cons_succ]
  refine wpAnyH_take (i := 4) (v := ?v4) rfl (by kernel_rfl) (by kernel_rfl) (by kernel_rfl) (fun _ _ _ h => h) (Or.inl ⟨by rfl, ?hy4⟩) (by assumption) ?rest4
  case hy4 => (intro u hu; obtain ⟨_, _⟩ := hu; go_simp; try with_reducible rfl)
  try simp only [Act.put, List.setIfInBounds_toArray, List.set_cons_zero, List.set_cons_succ, List.getElem_toArray, List.getElem_cons_zero, List.getElem_cons_succ]
  refine wpAnyH_take (i := 5) (v := ?v5) rfl (by kernel_rfl) (by kernel_rfl) (by kernel_rfl) (fun _ _ _ h => h) (Or.inl ⟨by rfl, ?hy5⟩) (by assumption) ?rest5
  case hy5 => (intro u hu; obtain ⟨_, _⟩ := hu; go_simp; try with_reducible rfl)
  try simp only [Act.put, List.setIfInBounds_toArray, List.set_cons_zero, List.set_cons_succ, List.getElem_toArray, List.getElem_cons_zero, List.getElem_cons_succ]
  refine wpAnyH_ready (rs := [6]) (by kernel_rfl) (by simp) ?_
  refine AllReadyH.cons rfl (fun K hK => ?_) AllReadyH.nil
  refine map_del_wp (.tmp 42) (.tmp 44) rfl (by simp [Act.eval, Act.put]) x hx (by simp [Act.eval, Act.put]) Own3.out ?_
  intro w4 hown4 hturn4
  refine hK.out _ _ (HS4.out hown4 hturn4) (fun hHeld2 => ?_)
  clear hK K hHeld
  have hHeld := hHeld2
  clear hHeld2
  try simp only [Act.put, List.setIfInBounds_toArray, List.set_cons_zero, List.set_cons_succ, List.getElem_toArray, List.getElem_cons_zero, List.getElem_cons_succ]
  refine wpAnyH_done (by kernel_rfl) ?_ _
  refine NoPanic.normal ?_
  have q := HB.out hturn4
  have b0 : w4.cell? ⟨w.heap.size, 0, none⟩ = some (.string x.1) := by simp [World.cell?, q]
  have b1 : w4.cell? ⟨w.heap.size, 1, none⟩ = some (.int .i64 x.2.1) := by simp [World.cell?, q]
  have b2 : w4.cell? ⟨w.heap.size, 2, none⟩ = some (.int .i64 x.2.2) := by simp [World.cell?, q]
  go_wp2_with fail
  go_ret
  exact ⟨rfl, HK3.out.1.mapped hown4 hturn4, HK3.out.2.trans (Turns.map hturn4 HK3.out.1.fm)⟩
theorem kPop {F : Where} {w : World} {kb : Nat} {M : List It} {x : It} (h : HK F w kb (M ++ [x])) (hL : M.length < 1099511627776) :
    Calls Try.prog 67 #[.pointer (some ⟨kb, 0, none⟩)] w fun e w' => e = .returned (.iface 27 (vI x)) ∧ HK F w' kb M ∧ Turns F w w' := by
  obtain ⟨v, mb, D, h, t⟩ := h
  obtain ⟨g, cap, hv, _⟩ := h.sl (by simp)
  have hv' : v = .slice (some ⟨g, 0, none⟩) (M.length + 1) cap := by simpa using hv
  subst hv'
  refine (kPop_at h hL).mono ?_
  rintro e w' ⟨rfl, h1, h2⟩
  exact ⟨rfl, HK.of h1 (t.pop h.tidy), h2⟩
end Go.Proofs.Ytgncpjplofacfaa
