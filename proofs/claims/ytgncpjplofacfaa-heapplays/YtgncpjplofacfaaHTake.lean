/- keyed.put at a new key, keyed.take: the plain functions. No condition. -/
import Derived.Test.YtgncpjplofacfaaHGlue
namespace Go.Proofs.Ytgncpjplofacfaa
open Go.RowKit Go.Maps
set_option linter.unusedSimpArgs false

/-- The blocks of the thing itself, and whatever comes behind a world. -/
def Nar (F : Where) (w u : World) : Where := fun b => (F b ∧ b < w.heap.size) ∨ u.heap.size ≤ b
section
variable {F : Where} {w u w' : World} {kb : Nat} {L : List It}
theorem HK.weak {G : Where} (h : HK F w kb L) (k : ∀ b, b < w.heap.size → F b → G b) : HK G w kb L := by
  obtain ⟨v, mb, D, h, t⟩ := h
  exact ⟨v, mb, D, h.weak k, t⟩
theorem HK.drew (h : HK F w kb L) : HK F w.drew kb L := by
  obtain ⟨v, mb, D, h, t⟩ := h
  exact ⟨v, mb, D, h.drew, t⟩
theorem HK.nar (h : HK F w kb L) (hb : Below w.heap.size w u) : HK (Nar F w u) u kb L := (h.weak (fun _ h1 h2 => .inl ⟨h2, h1⟩)).grow hb
theorem HK.wide (hF : ∀ b, w.heap.size ≤ b → F b) (hs : w.heap.size ≤ u.heap.size) (h : HK (Nar F w u) w' kb L) : HK F w' kb L := h.weak (fun b _ hb => hb.elim (fun h => h.1) (fun h => hF b (Nat.le_trans hs h)))
theorem Turns.wide (hF : ∀ b, w.heap.size ≤ b → F b) (hb : Below w.heap.size w u) (h : Turns (Nar F w u) u w') : Turns F w w' :=
  (Turns.below hb).trans (h.weak (fun b _ hb' => hb'.elim (fun h => h.1) (fun h => hF b (Nat.le_trans hb.size h))))
theorem HK.on3 {b : Nat} {p q r : Value} {o1 o2 o3 : Nat} (h : HK F w kb L) (hb : ¬ F b) : HK F (((w.setCell ⟨b, o1, none⟩ p).setCell ⟨b, o2, none⟩ q).setCell ⟨b, o3, none⟩ r) kb L := by
  obtain ⟨v, mb, D, h, t⟩ := h
  refine ⟨v, mb, D, h.on (fun c _ hc => ?_), t⟩
  have hcb : c ≠ b := fun e => hb (e ▸ hc)
  rw [heap_setCell_other _ ⟨b, o3, none⟩ c _ hcb, heap_setCell_other _ ⟨b, o2, none⟩ c _ hcb, heap_setCell_other _ ⟨b, o1, none⟩ c _ hcb]
theorem Turns.between (h : Turns (Nar F w u) u w') {b : Nat} (h1 : w.heap.size ≤ b) (h2 : b < u.heap.size) : w'.heap[b]? = u.heap[b]? :=
  h.block b h2 (fun hn => hn.elim (fun k => by omega) (fun k => by omega))
end
/-- Two boxes that a call has laid stand behind what it calls. -/
theorem two_boxes {F : Where} {w w1 : World} (y : It) (h : Turns (Nar F w ((w.alloc (.cells #[.string ⟨#[]⟩, .int .i64 0, .int .i64 0] 27)).alloc (.cells #[.string y.1, .int .i64 y.2.1, .int .i64 y.2.2] 27))) ((w.alloc (.cells #[.string ⟨#[]⟩, .int .i64 0, .int .i64 0] 27)).alloc (.cells #[.string y.1, .int .i64 y.2.1, .int .i64 y.2.2] 27)) w1) :
    (w1.cell? ⟨w.heap.size + 1, 0, none⟩ = some (.string y.1) ∧ w1.cell? ⟨w.heap.size + 1, 1, none⟩ = some (.int .i64 y.2.1) ∧ w1.cell? ⟨w.heap.size + 1, 2, none⟩ = some (.int .i64 y.2.2)) ∧
    (w1.cell? ⟨w.heap.size, 0, none⟩ = some (.string ⟨#[]⟩) ∧ w1.cell? ⟨w.heap.size, 1, none⟩ = some (.int .i64 0) ∧ w1.cell? ⟨w.heap.size, 2, none⟩ = some (.int .i64 0)) ∧
    (w1.frozen? ⟨w.heap.size, 0, none⟩ = false ∧ w1.frozen? ⟨w.heap.size, 1, none⟩ = false ∧ w1.frozen? ⟨w.heap.size, 2, none⟩ = false) := by
  have b1 : w1.heap[w.heap.size + 1]? = some (.cells #[.string y.1, .int .i64 y.2.1, .int .i64 y.2.2] 27 (0, 0)) := (h.between (by omega) (by simp)).trans (heap_new _ _ _ (by simp))
  have b0 : w1.heap[w.heap.size]? = some (.cells #[.string ⟨#[]⟩, .int .i64 0, .int .i64 0] 27 (0, 0)) :=
    (h.between (by omega) (by simp; omega)).trans ((Below.heap_alloc _ _ _ (by simp)).trans (heap_new w _ _ rfl))
  simp [World.cell?, World.frozen?, b0, b1]
/-- What stays while a key is looked up. -/
def PtS (kb mb b : Nat) (k : ByteArray) (t : Value) (u : World) : Prop := u.cell? ⟨kb, 2, none⟩ = some (.map (some mb)) ∧ u.cell? ⟨b, 0, none⟩ = some (.string k) ∧ Sem.run Try.prog (Instr.lookup 59 (.map (some mb)) (.string k) true) u = .ok t u
theorem zero3 (w : World) : (zeroValue 3).run Try.prog w = .ok (.int .i64 0) w := by kernel_rfl
/-- The key is looked up. -/
theorem KAt.look {F : Where} {w : World} {kb : Nat} {v : Value} {mb n : Nat} {D : DataW Unit} {L : List It} (h : KAt F w kb v mb n D L) (y : It) (hy : okI y) :
    ∃ c : Int, Sem.run Try.prog (Instr.lookup 59 (.map (some mb)) (.string y.1) true) w = .ok (.tuple #[.int .i64 c, .bool (Maps.has D (kl y))]) w ∧ D.atKey (kl y) (.lit (.int .i64 0)) = .lit (.int .i64 c) := by
  obtain ⟨v, ps, h1, h2⟩ := h.map.look_ok law9 Try.underlying59 (zero3 w) (plainElem_int Try.underlying3 (by decide)) (kl_key y hy)
  obtain ⟨a, rfl, e, _⟩ := plainElem_int_inv Try.underlying3 h2
  exact ⟨a, h1, by simpa using congrArg Prod.fst e⟩
set_option maxHeartbeats 2000000 in
theorem put_new {F : Where} {w : World} {kb : Nat} {L : List It} (h : HK F w kb L) (hF : ∀ b, w.heap.size ≤ b → F b) (hL : L.length < 1000000000000) (y : It) (hy : okI y) (hnew : ∀ x ∈ L, kl x ≠ kl y) :
    Calls Try.prog 29 #[.pointer (some ⟨kb, 0, none⟩), vI y] w fun e w' => e = .returned (.bool false) ∧ HK F w' kb (pushL L y) ∧ Turns F w w' := by
  have H0 : Hid (HK F (w.alloc (.cells #[.string y.1, .int .i64 y.2.1, .int .i64 y.2.2] 27)).drew kb L) := (h.grow (by go_grown)).drew
  obtain ⟨v, mb, D, hk, ht⟩ := H0.out
  obtain ⟨c, hlk, _⟩ := hk.look y hy
  have hno : Maps.has D (kl y) = false := by
    cases hh : Maps.has D (kl y)
    · rfl
    · obtain ⟨i, hi, e⟩ := ht.2.2 _ hh
      exact absurd e (hnew _ (List.getElem_mem hi))
  rw [hno] at hlk
  have HS0 : Hid (PtS kb mb w.heap.size y.1 (.tuple #[.int .i64 c, .bool false]) (w.alloc (.cells #[.string y.1, .int .i64 y.2.1, .int .i64 y.2.2] 27)).drew) := ⟨hk.c2, by simp [go_sem], hlk⟩
  have HT0 : Hid (Turns F w (w.alloc (.cells #[.string y.1, .int .i64 y.2.1, .int .i64 y.2.2] 27)).drew) := (Turns.alloc _ _ _).trans (Turns.drew _ _)
  clear h hk ht hlk hno
  go_enter Try.func29, Try.ntmps29
  go_wp2_with fail
  refine wp_region_noPanic ?_
  refine wp_region_held_drew (S := PtS kb mb w.heap.size y.1 (.tuple #[.int .i64 c, .bool false])) (by kernel_rfl) (HS0.out) (fun hHeld => ?_)
  refine wpAnyH_take (i := 0) (v := ?v0) rfl (by kernel_rfl) (by kernel_rfl) (by kernel_rfl) (fun _ _ _ h => h) (Or.inl ⟨by rfl, ?hy0⟩) (by assumption) ?rest0
  case hy0 => (intro u hu; obtain ⟨_, _, _⟩ := hu; go_simp; try with_reducible rfl)
  try simp only [Act.put, List.setIfInBounds_toArray, List.set_cons_zero, List.set_cons_succ, List.getElem_toArray, List.getElem_cons_zero, List.getElem_cons_succ]
  refine wpAnyH_take (i := 1) (v := ?v1) rfl (by kernel_rfl) (by kernel_rfl) (by kernel_rfl) (fun _ _ _ h => h) (Or.inl ⟨by rfl, ?hy1⟩) (by assumption) ?rest1
  case hy1 => (intro u hu; obtain ⟨_, _, _⟩ := hu; go_simp; try with_reducible rfl)
  try simp only [Act.put, List.setIfInBounds_toArray, List.set_cons_zero, List.set_cons_succ, List.getElem_toArray, List.getElem_cons_zero, List.getElem_cons_succ]
  refine wpAnyH_take (i := 2) (v := ?v2) rfl (by kernel_rfl) (by kernel_rfl) (by kernel_rfl) (fun _ _ _ h => h) (Or.inl ⟨by rfl, ?hy2⟩) (by assumption) ?rest2
  case hy2 => (intro u hu; obtain ⟨_, _, _⟩ := hu; go_simp; try with_reducible rfl)
  try simp only [Act.put, List.setIfInBounds_toArray, List.set_cons_zero, List.set_cons_succ, List.getElem_toArray, List.getElem_cons_zero, List.getElem_cons_succ]
  refine wpAnyH_take (i := 3) (v := ?v3) rfl (by kernel_rfl) (by kernel_rfl) (by kernel_rfl) (fun _ _ _ h => h) (Or.inl ⟨by rfl, ?hy3⟩) (by assumption) ?rest3
  case hy3 => (intro u hu; obtain ⟨_, _, _⟩ := hu; go_simp; try with_reducible rfl)
  try simp only [Act.put, List.setIfInBounds_toArray, List.set_cons_zero, List.set_cons_succ, List.getElem_toArray, List.getElem_cons_zero, List.getElem_cons_succ]
  refine wpAnyH_take (i := 4) (v := ?v4) rfl (by kernel_rfl) (by kernel_rfl) (by kernel_rfl) (fun _ _ _ h => h) (Or.inl ⟨by rfl, ?hy4⟩) (by assumption) ?rest4
  case hy4 => (intro u hu; obtain ⟨_, _, _⟩ := hu; go_simp; try with_reducible rfl)
  try simp only [Act.put, List.setIfInBounds_toArray, List.set_cons_zero, List.set_cons_succ, List.getElem_toArray, List.getElem_cons_zero, List.getElem_cons_succ]
  refine wpAnyH_take (i := 5) (v := ?v5) rfl (by kernel_rfl) (by kernel_rfl) (by kernel_rfl) (fun _ _ _ h => h) (Or.inl ⟨by rfl, ?hy5⟩) (by assumption) ?rest5
  case hy5 => (intro u hu; obtain ⟨_, _, _⟩ := hu; go_simp; try with_reducible rfl)
  try simp only [Act.put, List.setIfInBounds_toArray, List.set_cons_zero, List.set_cons_succ, List.getElem_toArray, List.getElem_cons_zero, List.getElem_cons_succ]
  refine wpAnyH_take (i := 6) (v := ?v6) rfl (by kernel_rfl) (by kernel_rfl) (by kernel_rfl) (fun _ _ _ h => h) (Or.inl ⟨by rfl, ?hy6⟩) (by assumption) ?rest6
  case hy6 => (intro u hu; obtain ⟨_, _, _⟩ := hu; go_simp; try with_reducible rfl)
  try simp only [Act.put, List.setIfInBounds_toArray, List.set_cons_zero, List.set_cons_succ, List.getElem_toArray, List.getElem_cons_zero, List.getElem_cons_succ]
  refine wpAnyH_take (i := 7) (v := ?v7) rfl (by kernel_rfl) (by kernel_rfl) (by kernel_rfl) (fun _ _ _ h => h) (Or.inl ⟨by rfl, ?hy7⟩) (by assumption) ?rest7
  case hy7 => (intro u hu; obtain ⟨_, _, _⟩ := hu; go_simp; try with_reducible rfl)
  try simp only [Act.put, List.setIfInBounds_toArray, List.set_cons_zero, List.set_cons_succ, List.getElem_toArray, List.getElem_cons_zero, List.getElem_cons_succ]
  refine wpAnyH_take (i := 8) (v := ?v8) rfl (by kernel_rfl) (by kernel_rfl) (by kernel_rfl) (fun _ _ _ h => h) (Or.inl ⟨by rfl, ?hy8⟩) (by assumption) ?rest8
  case hy8 => (intro u hu; obtain ⟨_, _, _⟩ := hu; go_simp; try with_reducible rfl)
  try simp only [Act.put, List.setIfInBounds_toArray, List.set_cons_zero, List.set_cons_succ, List.getElem_toArray, List.getElem_cons_zero, List.getElem_cons_succ]
  refine wpAnyH_take (i := 9) (v := ?v9) rfl (by kernel_rfl) (by kernel_rfl) (by kernel_rfl) (fun _ _ _ h => h) (Or.inl ⟨by rfl, ?hy9⟩) (by assumption) ?rest9
  case hy9 => (intro u hu; obtain ⟨_, _, _⟩ := hu; go_simp; try with_reducible rfl)
  try simp only [Act.put, List.setIfInBounds_toArray, List.set_cons_zero, List.set_cons_succ, List.getElem_toArray, List.getElem_cons_zero, List.getElem_cons_succ]
  refine wpAnyH_take (i := 10) (v := ?v10) rfl (by kernel_rfl) (by kernel_rfl) (by kernel_rfl) (fun _ _ _ h => h) (Or.inl ⟨by rfl, ?hy10⟩) (by assumption) ?rest10
  case hy10 => (intro u hu; obtain ⟨_, _, _⟩ := hu; go_simp; try with_reducible rfl)
  try simp only [Act.put, List.setIfInBounds_toArray, List.set_cons_zero, List.set_cons_succ, List.getElem_toArray, List.getElem_cons_zero, List.getElem_cons_succ]
  refine wpAnyH_take (i := 11) (v := ?v11) rfl (by kernel_rfl) (by kernel_rfl) (by kernel_rfl) (fun _ _ _ h => h) (Or.inl ⟨by rfl, ?hy11⟩) (by assumption) ?rest11
  case hy11 => (intro u hu; obtain ⟨_, _, _⟩ := hu; go_simp; try with_reducible rfl)
  try simp only [Act.put, List.setIfInBounds_toArray, List.set_cons_zero, List.set_cons_succ, List.getElem_toArray, List.getElem_cons_zero, List.getElem_cons_succ]
  refine wpAnyH_done (by kernel_rfl) ?_ _
  refine NoPanic.normal ?_
  clear hHeld HS0
  go_wp2_with (go_at_call 37; refine (hPush_calls H0.out (fun b hb => hF b (Nat.le_trans HT0.out.size hb)) hL y hy hnew).mono ?_; rintro e w1 ⟨rfl, hk1, ht1⟩)
  go_ret
  exact ⟨rfl, hk1, HT0.out.trans ht1⟩
set_option maxHeartbeats 2000000 in
theorem take_calls {F : Where} {w : World} {kb : Nat} {L : List It} (h : HK F w kb L) (hF : ∀ b, w.heap.size ≤ b → F b) (hL : L.length < 1000000000000) (i : Nat) (hi : i < L.length) :
    Calls Try.prog 31 #[.pointer (some ⟨kb, 0, none⟩), .int .i64 (i : Int)] w fun e w' => e = .returned (vI (at_ L i)) ∧ HK F w' kb (lastL L i).dropLast ∧ Turns F w w' := by
  have H0 : Hid (HK F w kb L) := h
  obtain ⟨v, mb, D, hk, _⟩ := h
  obtain ⟨g, cap, rfl, _, hg, hgk, _, _, hc⟩ := hk.sl (by omega)
  have x0 := (hc i hi).1.1
  have x1 := (hc i hi).1.2.1
  have x2 := (hc i hi).1.2.2
  rw [← at_get hi] at x0 x1 x2
  have c0 := hk.c0
  have hkb := hk.lt
  generalize at_ L i = y at *
  have hgn : ¬ w.heap.size = g := by omega
  have hkn : ¬ w.heap.size = kb := by omega
  have hii : (i : Int) < (L.length : Int) := by omega
  clear hc hk
  go_enter Try.func31, Try.ntmps31
  go_wp2_with (go_at_call 39; refine (Remove_calls (H0.out.nar (by go_grown)) hL i hi).mono ?_; rintro e w1 ⟨rfl, hk1, ht1⟩; obtain ⟨⟨z0, z1, z2⟩, ⟨r0, r1, r2⟩, ⟨f0, f1, f2⟩⟩ := two_boxes y ht1)
  refine bodyPost_ret (v := vI y) (by simp [results, Try.results31, go_sem, r0, r1, r2]) rfl ⟨rfl, HK.wide hF (by simp; omega) (hk1.on3 (fun hn => hn.elim (fun k => by omega) (fun k => by simp at k; omega))), (Turns.wide hF (by go_grown) ht1).trans (((Turns.set (hF _ (Nat.le_refl _)) _).trans (Turns.set (hF _ (Nat.le_refl _)) _)).trans (Turns.set (hF _ (Nat.le_refl _)) _))⟩
end Go.Proofs.Ytgncpjplofacfaa
