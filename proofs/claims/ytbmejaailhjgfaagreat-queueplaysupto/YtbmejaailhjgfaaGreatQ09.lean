/- keyed.put at a new key, keyed.take: the plain functions. No condition. heap.New, and Heap's Push at a new key, Pop, Len: the plain functions. No condition. Heap.Push at a new key, Heap.Pop: the plain functions. No condition. The example of the document's chapter comes out as it says. No condition. The order of entries: of two that are not the same just one comes ahead, and it goes on over a third. Plain mathematics. No condition. -/
import Derived.Test.YtbmejaailhjgfaaGreatQ08
import Derived.Laws.EntriesVeiled
namespace Go.Proofs.YtbmejaailhjgfaaGreat
open Go.RowKit Go.Maps
set_option linter.unusedSimpArgs false
set_option maxRecDepth 100000

/-- The blocks of the thing itself, and whatever comes behind a world. -/
def Nar (F : Where) (w u : World) : Where := fun b => (F b ∧ b < w.heap.size) ∨ u.heap.size ≤ b
section
variable {F : Where} {w u w' : World} {kb : Nat} {L : List It}
theorem HK.weak {G : Where} (h : HK F w kb L) (k : ∀ b, b < w.heap.size → F b → G b) : HK G w kb L := by
  obtain ⟨v, mb, D, h, t⟩ := h
  exact ⟨v, mb, D, h.weak k, t⟩
theorem HK.drew (h : HK F w kb L) : HK F w.drew kb L := by
  obtain ⟨v, mb, D, h, t⟩ := h
  exact ⟨v, mb, D, h.drew, t⟩
theorem HK.nar (h : HK F w kb L) (hb : Below w.heap.size w u) : HK (Nar F w u) u kb L := (h.weak (fun _ h1 h2 => .inl ⟨h2, h1⟩)).grow hb
theorem HK.wide (hF : ∀ b, w.heap.size ≤ b → F b) (hs : w.heap.size ≤ u.heap.size) (h : HK (Nar F w u) w' kb L) : HK F w' kb L := h.weak (fun b _ hb => hb.elim (fun h => h.1) (fun h => hF b (Nat.le_trans hs h)))
theorem Turns.wide (hF : ∀ b, w.heap.size ≤ b → F b) (hb : Below w.heap.size w u) (h : Turns (Nar F w u) u w') : Turns F w w' :=
  (Turns.below hb).trans (h.weak (fun b _ hb' => hb'.elim (fun h => h.1) (fun h => hF b (Nat.le_trans hb.size h))))
theorem HK.on3 {b : Nat} {p q r : Value} {o1 o2 o3 : Nat} (h : HK F w kb L) (hb : ¬ F b) : HK F (((w.setCell ⟨b, o1, none⟩ p).setCell ⟨b, o2, none⟩ q).setCell ⟨b, o3, none⟩ r) kb L := by
  obtain ⟨v, mb, D, h, t⟩ := h
  refine ⟨v, mb, D, h.on (fun c _ hc => ?_), t⟩
  have hcb : c ≠ b := fun e => hb (e ▸ hc)
  rw [heap_setCell_other _ ⟨b, o3, none⟩ c _ hcb, heap_setCell_other _ ⟨b, o2, none⟩ c _ hcb, heap_setCell_other _ ⟨b, o1, none⟩ c _ hcb]
theorem Turns.between (h : Turns (Nar F w u) u w') {b : Nat} (h1 : w.heap.size ≤ b) (h2 : b < u.heap.size) : w'.heap[b]? = u.heap[b]? :=
  h.block b h2 (fun hn => hn.elim (fun k => by omega) (fun k => by omega))
end
/-- Two boxes that a call has laid stand behind what it calls. -/
theorem two_boxes {F : Where} {w w1 : World} (y : It) (h : Turns (Nar F w ((w.alloc (.cells #[.string ⟨#[]⟩, .int .i64 0, .int .i64 0] 67)).alloc (.cells #[.string y.1, .int .i64 y.2.1, .int .i64 y.2.2] 67))) ((w.alloc (.cells #[.string ⟨#[]⟩, .int .i64 0, .int .i64 0] 67)).alloc (.cells #[.string y.1, .int .i64 y.2.1, .int .i64 y.2.2] 67)) w1) :
    (w1.cell? ⟨w.heap.size + 1, 0, none⟩ = some (.string y.1) ∧ w1.cell? ⟨w.heap.size + 1, 1, none⟩ = some (.int .i64 y.2.1) ∧ w1.cell? ⟨w.heap.size + 1, 2, none⟩ = some (.int .i64 y.2.2)) ∧
    (w1.cell? ⟨w.heap.size, 0, none⟩ = some (.string ⟨#[]⟩) ∧ w1.cell? ⟨w.heap.size, 1, none⟩ = some (.int .i64 0) ∧ w1.cell? ⟨w.heap.size, 2, none⟩ = some (.int .i64 0)) ∧
    (w1.frozen? ⟨w.heap.size, 0, none⟩ = false ∧ w1.frozen? ⟨w.heap.size, 1, none⟩ = false ∧ w1.frozen? ⟨w.heap.size, 2, none⟩ = false) := by
  have b1 : w1.heap[w.heap.size + 1]? = some (.cells #[.string y.1, .int .i64 y.2.1, .int .i64 y.2.2] 67 (0, 0)) := (h.between (by omega) (by simp)).trans (heap_new _ _ _ (by simp))
  have b0 : w1.heap[w.heap.size]? = some (.cells #[.string ⟨#[]⟩, .int .i64 0, .int .i64 0] 67 (0, 0)) :=
    (h.between (by omega) (by simp; omega)).trans ((Below.heap_alloc _ _ _ (by simp)).trans (heap_new w _ _ rfl))
  simp [World.cell?, World.frozen?, b0, b1]
/-- What stays while a key is looked up. -/
def PtS (kb mb b : Nat) (k : ByteArray) (t : Value) (u : World) : Prop := u.cell? ⟨kb, 2, none⟩ = some (.map (some mb)) ∧ u.cell? ⟨b, 0, none⟩ = some (.string k) ∧ Sem.run Tryz.prog (Instr.lookup 100 (.map (some mb)) (.string k) true) u = .ok t u
theorem zero3 (w : World) : (zeroValue 3).run Tryz.prog w = .ok (.int .i64 0) w := by kernel_rfl
/-- The key is looked up. -/
theorem KAt.look {F : Where} {w : World} {kb : Nat} {v : Value} {mb n : Nat} {D : DataW Unit} {L : List It} (h : KAt F w kb v mb n D L) (y : It) (hy : okI y) :
    ∃ c : Int, Sem.run Tryz.prog (Instr.lookup 100 (.map (some mb)) (.string y.1) true) w = .ok (.tuple #[.int .i64 c, .bool (Maps.has D (kl y))]) w ∧ D.atKey (kl y) (.lit (.int .i64 0)) = .lit (.int .i64 c) := by
  obtain ⟨v, ps, h1, h2⟩ := h.map.look_ok law9 Tryz.underlying100 (zero3 w) (plainElem_int Tryz.underlying3 (by decide)) (kl_key y hy)
  obtain ⟨a, rfl, e, _⟩ := plainElem_int_inv Tryz.underlying3 h2
  exact ⟨a, h1, by simpa using congrArg Prod.fst e⟩
set_option maxHeartbeats 2000000 in
theorem put_new {F : Where} {w : World} {kb : Nat} {L : List It} (h : HK F w kb L) (hF : ∀ b, w.heap.size ≤ b → F b) (hL : L.length < 1000000000000) (y : It) (hy : okI y) (hnew : ∀ x ∈ L, kl x ≠ kl y) :
    Calls Tryz.prog 74 #[.pointer (some ⟨kb, 0, none⟩), vI y] w fun e w' => e = .returned (.bool false) ∧ HK F w' kb (pushL L y) ∧ Turns F w w' := by
  have H0 : Hid (HK F (w.alloc (.cells #[.string y.1, .int .i64 y.2.1, .int .i64 y.2.2] 67)).drew kb L) := (h.grow (by go_grown)).drew
  obtain ⟨v, mb, D, hk, ht⟩ := H0.out
  obtain ⟨c, hlk, _⟩ := hk.look y hy
  have hno : Maps.has D (kl y) = false := by
    cases hh : Maps.has D (kl y)
    · rfl
    · obtain ⟨i, hi, e⟩ := ht.2.2 _ hh
      exact absurd e (hnew _ (List.getElem_mem hi))
  rw [hno] at hlk
  have HS0 : Hid (PtS kb mb w.heap.size y.1 (.tuple #[.int .i64 c, .bool false]) (w.alloc (.cells #[.string y.1, .int .i64 y.2.1, .int .i64 y.2.2] 67)).drew) := ⟨hk.c2, by simp [go_sem], hlk⟩
  have HT0 : Hid (Turns F w (w.alloc (.cells #[.string y.1, .int .i64 y.2.1, .int .i64 y.2.2] 67)).drew) := (Turns.alloc _ _ _).trans (Turns.drew _ _)
  clear h hk ht hlk hno
  go_enter Tryz.func74, Tryz.ntmps74
  go_wp2_with fail
  refine wp_region_noPanic ?_
  refine wp_region_held_drew (S := PtS kb mb w.heap.size y.1 (.tuple #[.int .i64 c, .bool false])) (by kernel_rfl) (HS0.out) (fun hHeld => ?_)
  refine wpAnyH_take (i := 0) (v := ?v0) rfl (by kernel_rfl) (by kernel_rfl) (by kernel_rfl) (fun _ _ _ h => h) (Or.inl ⟨by rfl, ?hy0⟩) (by assumption) ?rest0
  case hy0 => (intro u hu; obtain ⟨_, _, _⟩ := hu; go_simp; try with_reducible rfl)
  try simp only [Act.put, List.setIfInBounds_toArray, List.set_cons_zero, List.set_cons_succ, List.getElem_toArray, List.getElem_cons_zero, List.getElem_cons_succ]
  refine wpAnyH_take (i := 1) (v := ?v1) rfl (by kernel_rfl) (by kernel_rfl) (by kernel_rfl) (fun _ _ _ h => h) (Or.inl ⟨by rfl, ?hy1⟩) (by assumption) ?rest1
  case hy1 => (intro u hu; obtain ⟨_, _, _⟩ := hu; go_simp; try with_reducible rfl)
  try simp only [Act.put, List.setIfInBounds_toArray, List.set_cons_zero, List.set_cons_succ, List.getElem_toArray, List.getElem_cons_zero, List.getElem_cons_succ]
  refine wpAnyH_take (i := 2) (v := ?v2) rfl (by kernel_rfl) (by kernel_rfl) (by kernel_rfl) (fun _ _ _ h => h) (Or.inl ⟨by rfl, ?hy2⟩) (by assumption) ?rest2
  case hy2 => (intro u hu; obtain ⟨_, _, _⟩ := hu; go_simp; try with_reducible rfl)
  try simp only [Act.put, List.setIfInBounds_toArray, List.set_cons_zero, List.set_cons_succ, List.getElem_toArray, List.getElem_cons_zero, List.getElem_cons_succ]
  refine wpAnyH_take (i := 3) (v := ?v3) rfl (by kernel_rfl) (by kernel_rfl) (by kernel_rfl) (fun _ _ _ h => h) (Or.inl ⟨by rfl, ?hy3⟩) (by assumption) ?rest3
  case hy3 => (intro u hu; obtain ⟨_, _, _⟩ := hu; go_simp; try with_reducible rfl)
  try simp only [Act.put, List.setIfInBounds_toArray, List.set_cons_zero, List.set_cons_succ, List.getElem_toArray, List.getElem_cons_zero, List.getElem_cons_succ]
  refine wpAnyH_take (i := 4) (v := ?v4) rfl (by kernel_rfl) (by kernel_rfl) (by kernel_rfl) (fun _ _ _ h => h) (Or.inl ⟨by rfl, ?hy4⟩) (by assumption) ?rest4
  case hy4 => (intro u hu; obtain ⟨_, _, _⟩ := hu; go_simp; try with_reducible rfl)
  try simp only [Act.put, List.setIfInBounds_toArray, List.set_cons_zero, List.set_cons_succ, List.getElem_toArray, List.getElem_cons_zero, List.getElem_cons_succ]
  refine wpAnyH_take (i := 5) (v := ?v5) rfl (by kernel_rfl) (by kernel_rfl) (by kernel_rfl) (fun _ _ _ h => h) (Or.inl ⟨by rfl, ?hy5⟩) (by assumption) ?rest5
  case hy5 => (intro u hu; obtain ⟨_, _, _⟩ := hu; go_simp; try with_reducible rfl)
  try simp only [Act.put, List.setIfInBounds_toArray, List.set_cons_zero, List.set_cons_succ, List.getElem_toArray, List.getElem_cons_zero, List.getElem_cons_succ]
  refine wpAnyH_take (i := 6) (v := ?v6) rfl (by kernel_rfl) (by kernel_rfl) (by kernel_rfl) (fun _ _ _ h => h) (Or.inl ⟨by rfl, ?hy6⟩) (by assumption) ?rest6
  case hy6 => (intro u hu; obtain ⟨_, _, _⟩ := hu; go_simp; try with_reducible rfl)
  try simp only [Act.put, List.setIfInBounds_toArray, List.set_cons_zero, List.set_cons_succ, List.getElem_toArray, List.getElem_cons_zero, List.getElem_cons_succ]
  refine wpAnyH_take (i := 7) (v := ?v7) rfl (by kernel_rfl) (by kernel_rfl) (by kernel_rfl) (fun _ _ _ h => h) (Or.inl ⟨by rfl, ?hy7⟩) (by assumption) ?rest7
  case hy7 => (intro u hu; obtain ⟨_, _, _⟩ := hu; go_simp; try with_reducible rfl)
  try simp only [Act.put, List.setIfInBounds_toArray, List.set_cons_zero, List.set_cons_succ, List.getElem_toArray, List.getElem_cons_zero, List.getElem_cons_succ]
  refine wpAnyH_take (i := 8) (v := ?v8) rfl (by kernel_rfl) (by kernel_rfl) (by kernel_rfl) (fun _ _ _ h => h) (Or.inl ⟨by rfl, ?hy8⟩) (by assumption) ?rest8
  case hy8 => (intro u hu; obtain ⟨_, _, _⟩ := hu; go_simp; try with_reducible rfl)
  try simp only [Act.put, List.setIfInBounds_toArray, List.set_cons_zero, List.set_cons_succ, List.getElem_toArray, List.getElem_cons_zero, List.getElem_cons_succ]
  refine wpAnyH_take (i := 9) (v := ?v9) rfl (by kernel_rfl) (by kernel_rfl) (by kernel_rfl) (fun _ _ _ h => h) (Or.inl ⟨by rfl, ?hy9⟩) (by assumption) ?rest9
  case hy9 => (intro u hu; obtain ⟨_, _, _⟩ := hu; go_simp; try with_reducible rfl)
  try simp only [Act.put, List.setIfInBounds_toArray, List.set_cons_zero, List.set_cons_succ, List.getElem_toArray, List.getElem_cons_zero, List.getElem_cons_succ]
  refine wpAnyH_take (i := 10) (v := ?v10) rfl (by kernel_rfl) (by kernel_rfl) (by kernel_rfl) (fun _ _ _ h => h) (Or.inl ⟨by rfl, ?hy10⟩) (by assumption) ?rest10
  case hy10 => (intro u hu; obtain ⟨_, _, _⟩ := hu; go_simp; try with_reducible rfl)
  try simp only [Act.put, List.setIfInBounds_toArray, List.set_cons_zero, List.set_cons_succ, List.getElem_toArray, List.getElem_cons_zero, List.getElem_cons_succ]
  refine wpAnyH_take (i := 11) (v := ?v11) rfl (by kernel_rfl) (by kernel_rfl) (by kernel_rfl) (fun _ _ _ h => h) (Or.inl ⟨by rfl, ?hy11⟩) (by assumption) ?rest11
  case hy11 => (intro u hu; obtain ⟨_, _, _⟩ := hu; go_simp; try with_reducible rfl)
  try simp only [Act.put, List.setIfInBounds_toArray, List.set_cons_zero, List.set_cons_succ, List.getElem_toArray, List.getElem_cons_zero, List.getElem_cons_succ]
  refine wpAnyH_done (by kernel_rfl) ?_ _
  refine NoPanic.normal ?_
  clear hHeld HS0
  go_wp2_with (go_at_call 94; refine (hPush_calls H0.out (fun b hb => hF b (Nat.le_trans HT0.out.size hb)) hL y hy hnew).mono ?_; rintro e w1 ⟨rfl, hk1, ht1⟩)
  go_ret
  exact ⟨rfl, hk1, HT0.out.trans ht1⟩
set_option maxHeartbeats 2000000 in
theorem take_calls {F : Where} {w : World} {kb : Nat} {L : List It} (h : HK F w kb L) (hF : ∀ b, w.heap.size ≤ b → F b) (hL : L.length < 1000000000000) (i : Nat) (hi : i < L.length) :
    Calls Tryz.prog 75 #[.pointer (some ⟨kb, 0, none⟩), .int .i64 (i : Int)] w fun e w' => e = .returned (vI (at_ L i)) ∧ HK F w' kb (lastL L i).dropLast ∧ Turns F w w' := by
  have H0 : Hid (HK F w kb L) := h
  obtain ⟨v, mb, D, hk, _⟩ := h
  obtain ⟨g, cap, rfl, _, hg, hgk, _, _, hc⟩ := hk.sl (by omega)
  have x0 := (hc i hi).1.1
  have x1 := (hc i hi).1.2.1
  have x2 := (hc i hi).1.2.2
  rw [← at_get hi] at x0 x1 x2
  have c0 := hk.c0
  have hkb := hk.lt
  generalize at_ L i = y at *
  have hgn : ¬ w.heap.size = g := by omega
  have hkn : ¬ w.heap.size = kb := by omega
  have hii : (i : Int) < (L.length : Int) := by omega
  clear hc hk
  go_enter Tryz.func75, Tryz.ntmps75
  go_wp2_with (go_at_call 96; refine (Remove_calls (H0.out.nar (by go_grown)) hL i hi).mono ?_; rintro e w1 ⟨rfl, hk1, ht1⟩; obtain ⟨⟨z0, z1, z2⟩, ⟨r0, r1, r2⟩, ⟨f0, f1, f2⟩⟩ := two_boxes y ht1)
  refine bodyPost_ret (v := vI y) (by simp [results, Tryz.results75, go_sem, r0, r1, r2]) rfl ⟨rfl, HK.wide hF (by simp; omega) (hk1.on3 (fun hn => hn.elim (fun k => by omega) (fun k => by simp at k; omega))), (Turns.wide hF (by go_grown) ht1).trans (((Turns.set (hF _ (Nat.le_refl _)) _).trans (Turns.set (hF _ (Nat.le_refl _)) _)).trans (Turns.set (hF _ (Nat.le_refl _)) _))⟩
end Go.Proofs.YtbmejaailhjgfaaGreat
namespace Go.Proofs.YtbmejaailhjgfaaGreat
open Go.RowKit Go.Maps
set_option linter.unusedSimpArgs false
set_option maxRecDepth 100000

/-- A heap. -/
def HAt (F : Where) (w : World) (hb : Nat) (L : List It) : Prop := ∃ kb, F hb ∧ w.heap[hb]? = some (.cells #[.pointer (some ⟨kb, 0, none⟩)] 94 (0, 0)) ∧ HK (fun b => F b ∧ b ≠ hb) w kb L
theorem HAt.weak {F G : Where} {w : World} {hb : Nat} {L : List It} (h : HAt F w hb L) (k : ∀ b, b < w.heap.size → F b → G b) : HAt G w hb L := by
  obtain ⟨kb, h1, h2, h3⟩ := h
  exact ⟨kb, k _ (block_lt h2) h1, h2, h3.weak (fun b hb hf => ⟨k b hb hf.1, hf.2⟩)⟩
theorem HAt.grow {F : Where} {w w' : World} {hb : Nat} {L : List It} (h : HAt F w hb L) (hw : Below w.heap.size w w') : HAt F w' hb L := by
  obtain ⟨kb, h1, h2, h3⟩ := h
  exact ⟨kb, h1, (hw.block hb (block_lt h2)).trans h2, h3.grow hw⟩
theorem newList_calls (a : Option Addr) (n c : Nat) (w : World) : Calls Tryz.prog 73 #[.slice a n c] w fun e w' => e = .returned (.agg #[.slice a n c, .func (.func 93) #[] #[]]) ∧ Below w.heap.size w w' := by
  go_enter Tryz.func73, Tryz.ntmps73
  go_wp2
  refine bodyPost_ret (v := .agg #[.slice a n c, .func (.func 93) #[] #[]]) (by simp [results, Tryz.results73, go_sem]) rfl ⟨rfl, by go_grown⟩
theorem newKeyed_calls (w : World) : Calls Tryz.prog 55 #[] w fun e w' => ∃ kb, e = .returned (.pointer (some ⟨kb, 0, none⟩)) ∧ HK (Fresh w) w' kb [] ∧ Below w.heap.size w w' := by
  have hmm := @run_makeMap Tryz.prog
  go_enter Tryz.func55, Tryz.ntmps55
  go_wp2_with (go_at_call 73; refine (newList_calls none 0 0 _).mono ?_; rintro e w1 ⟨rfl, hb1⟩)
  go_ret
  have hs := hb1.size
  refine ⟨_, rfl, ⟨.slice none 0 0, w1.heap.size, .map [], ⟨?_, ?_, ?_, ?_, ?_, ?_, ?_⟩, Tells.nil⟩, on2 hb1 (by go_grown)⟩
  · show w.heap.size ≤ _; omega
  · show w.heap.size ≤ _; omega
  · intro b hb; simp [Value.ownBlock] at hb
  · exact heap_new _ _ _ (by simp)
  · exact ⟨by simp [flatE], .inl ⟨rfl, rfl⟩⟩
  · exact (World.ownsMap_made w1 _ _ _).alloc _
  · intro x hx; simp at hx
theorem New_calls (w : World) : Calls Tryz.prog 32 #[] w fun e w' => ∃ hb, e = .returned (.pointer (some ⟨hb, 0, none⟩)) ∧ HAt (Fresh w) w' hb [] ∧ Below w.heap.size w w' := by
  go_enter Tryz.func32, Tryz.ntmps32
  go_wp2_with (go_at_call 55; refine (newKeyed_calls _).mono ?_; rintro e w1 ⟨kb, rfl, hk1, hb1⟩)
  go_ret
  have hs := hb1.size
  refine ⟨_, rfl, ⟨kb, ?_, heap_new _ _ _ rfl, (hk1.weak (fun b hb hf => ⟨hf, by omega⟩)).grow (by go_grown)⟩, on2 hb1 (by go_grown)⟩
  show w.heap.size ≤ _; omega
theorem made_calls {w : World} {hb : Nat} {v : Value} (h : w.cell? ⟨hb, 0, none⟩ = some v) (hv : ∃ kb, v = .pointer (some ⟨kb, 0, none⟩)) : Calls Tryz.prog 57 #[.pointer (some ⟨hb, 0, none⟩)] w fun e w' => e = .returned (.bool true) ∧ w' = w := by
  obtain ⟨kb, rfl⟩ := hv
  go_enter Tryz.func57, Tryz.ntmps57
  go_wp2
  go_ret
  exact ⟨rfl, rfl⟩
theorem HLen_calls {F : Where} {w : World} {hb : Nat} {L : List It} (h : HAt F w hb L) : Calls Tryz.prog 139 #[.pointer (some ⟨hb, 0, none⟩)] w fun e w' => e = .returned (.int .i64 (L.length : Int)) ∧ Below w.heap.size w w' := by
  obtain ⟨kb, h1, h2, v, mb, D, h3, h4⟩ := h
  obtain ⟨a, cap, rfl, _⟩ := h3.len
  have c0 := h3.c0
  have c1 := h3.c1
  have c : w.cell? ⟨hb, 0, none⟩ = some (.pointer (some ⟨kb, 0, none⟩)) := by simp [World.cell?, h2]
  clear h3 h4 h2 h1
  go_enter Tryz.func139, Tryz.ntmps139
  go_wp2_with (first
    | (go_at_call 57; refine (made_calls c ⟨_, rfl⟩).mono ?_; rintro e w' ⟨rfl, rfl⟩)
    | (go_at_call 58; refine (Len_calls a L.length cap _ _).mono ?_; rintro e w' ⟨rfl, hb1⟩))
  go_ret
  exact ⟨rfl, hb1⟩
end Go.Proofs.YtbmejaailhjgfaaGreat
namespace Go.Proofs.YtbmejaailhjgfaaGreat
open Go.RowKit Go.Maps
set_option linter.unusedSimpArgs false
set_option maxRecDepth 100000

/-- What stays while an entry is put. -/
def HpS (hb kb b : Nat) (y : It) (u : World) : Prop := u.cell? ⟨hb, 0, none⟩ = some (.pointer (some ⟨kb, 0, none⟩)) ∧ u.cell? ⟨b, 0, none⟩ = some (.string y.1) ∧ u.cell? ⟨b, 1, none⟩ = some (.int .i64 y.2.1) ∧ u.cell? ⟨b, 2, none⟩ = some (.int .i64 y.2.2)
set_option maxHeartbeats 2000000 in
theorem Push_new {F : Where} {w : World} {hb : Nat} {L : List It} (h : HAt F w hb L) (hF : ∀ b, w.heap.size ≤ b → F b) (hL : L.length < 1000000000000) (y : It) (hy : okI y) (hne : y.1.toList.isEmpty = false) (hnew : ∀ x ∈ L, kl x ≠ kl y) :
    Calls Tryz.prog 56 #[.pointer (some ⟨hb, 0, none⟩), vI y] w fun e w' => e = .returned (.tuple #[.bool false, .int .i64 0]) ∧ HAt F w' hb (pushL L y) ∧ Turns F w w' := by
  obtain ⟨kb, h1, h2, h3⟩ := h
  have hbl := block_lt h2
  have hG : ∀ b, w.heap.size ≤ b → F b ∧ b ≠ hb := fun b hb' => ⟨hF b hb', by omega⟩
  have H0 : Hid (HK (Nar (fun b => F b ∧ b ≠ hb) w (w.alloc (.cells #[.string y.1, .int .i64 y.2.1, .int .i64 y.2.2] 67))) (w.alloc (.cells #[.string y.1, .int .i64 y.2.1, .int .i64 y.2.2] 67)).drew kb L) := (h3.nar (by go_grown)).drew
  have hbW : Below w.heap.size w (w.alloc (.cells #[.string y.1, .int .i64 y.2.1, .int .i64 y.2.2] 67)) := by go_grown
  have h2' := (hbW.block hb hbl).trans h2
  have HQ : Hid (∀ {u : World}, Turns (Nar (fun b => F b ∧ b ≠ hb) w (w.alloc (.cells #[.string y.1, .int .i64 y.2.1, .int .i64 y.2.2] 67))) (w.alloc (.cells #[.string y.1, .int .i64 y.2.1, .int .i64 y.2.2] 67)).drew u → u.heap[hb]? = some (.cells #[.pointer (some ⟨kb, 0, none⟩)] 94 (0, 0)) ∧ u.heap[w.heap.size]? = some (.cells #[.string y.1, .int .i64 y.2.1, .int .i64 y.2.2] 67 (0, 0))) := by
    intro u hu
    refine ⟨(hu.block hb (Nat.lt_of_lt_of_le hbl hbW.size) (fun hn => hn.elim (fun k => k.1.2 rfl) (fun k => by have := hbW.size; omega))).trans h2', ?_⟩
    exact (hu.block w.heap.size (by simp) (fun hn => hn.elim (fun k => by omega) (fun k => by simp at k; omega))).trans (heap_new w _ _ rfl)
  have HS : Hid (∀ {u : World}, Turns (Nar (fun b => F b ∧ b ≠ hb) w (w.alloc (.cells #[.string y.1, .int .i64 y.2.1, .int .i64 y.2.2] 67))) (w.alloc (.cells #[.string y.1, .int .i64 y.2.1, .int .i64 y.2.2] 67)).drew u → HpS hb kb w.heap.size y u) := by
    intro u hu
    obtain ⟨q1, q2⟩ := HQ.out hu
    exact ⟨by simp [World.cell?, q1], by simp [World.cell?, q2], by simp [World.cell?, q2], by simp [World.cell?, q2]⟩
  have cW : (w.alloc (.cells #[.string y.1, .int .i64 y.2.1, .int .i64 y.2.2] 67)).cell? ⟨hb, 0, none⟩ = some (.pointer (some ⟨kb, 0, none⟩)) := by simp [World.cell?, h2']
  have HW : Hid (Below w.heap.size w (w.alloc (.cells #[.string y.1, .int .i64 y.2.1, .int .i64 y.2.2] 67))) := hbW
  clear h2 h3 h2' hbW
  go_enter Tryz.func56, Tryz.ntmps56
  go_wp2_with (go_at_call 57; refine (made_calls cW ⟨_, rfl⟩).mono ?_; rintro e w' ⟨rfl, rfl⟩)
  refine wp_region_noPanic ?_
  refine wp_region_held_drew (S := HpS hb kb w.heap.size y) (by kernel_rfl) (HS.out (Turns.refl _ _)) (fun hHeld => ?_)
  refine wpAnyH_take (i := 0) (v := ?v0) rfl (by kernel_rfl) (by kernel_rfl) (by kernel_rfl) (fun _ _ _ h => h) (Or.inl ⟨by rfl, ?hy0⟩) (by assumption) ?rest0
  case hy0 => (intro u hu; obtain ⟨_, _, _, _⟩ := hu; go_simp; try with_reducible rfl)
  try simp only [Act.put, List.setIfInBounds_toArray, List.set_cons_zero, List.set_cons_succ, List.getElem_toArray, List.getElem_cons_zero, List.getElem_cons_succ]
  refine wpAnyH_take (i := 1) (v := ?v1) rfl (by kernel_rfl) (by kernel_rfl) (by kernel_rfl) (fun _ _ _ h => h) (Or.inl ⟨by rfl, ?hy1⟩) (by assumption) ?rest1
  case hy1 => (intro u hu; obtain ⟨_, _, _, _⟩ := hu; go_simp; try with_reducible rfl)
  try simp only [Act.put, List.setIfInBounds_toArray, List.set_cons_zero, List.set_cons_succ, List.getElem_toArray, List.getElem_cons_zero, List.getElem_cons_succ]
  refine wpAnyH_take (i := 2) (v := ?v2) rfl (by kernel_rfl) (by kernel_rfl) (by kernel_rfl) (fun _ _ _ h => h) (Or.inl ⟨by rfl, ?hy2⟩) (by assumption) ?rest2
  case hy2 => (intro u hu; obtain ⟨_, _, _, _⟩ := hu; go_simp; try with_reducible rfl)
  try simp only [Act.put, List.setIfInBounds_toArray, List.set_cons_zero, List.set_cons_succ, List.getElem_toArray, List.getElem_cons_zero, List.getElem_cons_succ]
  refine wpAnyH_take (i := 3) (v := ?v3) rfl (by kernel_rfl) (by kernel_rfl) (by kernel_rfl) (fun _ _ _ h => h) (Or.inl ⟨by rfl, ?hy3⟩) (by assumption) ?rest3
  case hy3 => (intro u hu; obtain ⟨_, _, _, _⟩ := hu; go_simp; try with_reducible rfl)
  try simp only [Act.put, List.setIfInBounds_toArray, List.set_cons_zero, List.set_cons_succ, List.getElem_toArray, List.getElem_cons_zero, List.getElem_cons_succ]
  refine wpAnyH_take (i := 4) (v := ?v4) rfl (by kernel_rfl) (by kernel_rfl) (by kernel_rfl) (fun _ _ _ h => h) (Or.inl ⟨by rfl, ?hy4⟩) (by assumption) ?rest4
  case hy4 => (intro u hu; obtain ⟨_, _, _, _⟩ := hu; go_simp; try with_reducible rfl)
  try simp only [Act.put, List.setIfInBounds_toArray, List.set_cons_zero, List.set_cons_succ, List.getElem_toArray, List.getElem_cons_zero, List.getElem_cons_succ]
  refine wpAnyH_ready (rs := [5]) (by kernel_rfl) (by simp) ?_
  refine AllReadyH.cons rfl (fun K hK => ?_) AllReadyH.nil
  go_simp
  refine (put_new H0.out (fun b hb => .inr hb) hL y hy hnew).mono ?_
  rintro e w1 ⟨rfl, hk1, ht1⟩
  go_wp2_with fail
  refine hK.out _ _ (HS.out ht1) (fun hHeld2 => ?_)
  clear hK K hHeld
  have hHeld := hHeld2
  clear hHeld2
  try simp only [Act.put, List.setIfInBounds_toArray, List.set_cons_zero, List.set_cons_succ, List.getElem_toArray, List.getElem_cons_zero, List.getElem_cons_succ]
  refine wpAnyH_take (i := 6) (v := ?v6) rfl (by kernel_rfl) (by kernel_rfl) (by kernel_rfl) (fun _ _ _ h => h) (Or.inl ⟨by rfl, ?hy6⟩) (by assumption) ?rest6
  case hy6 => (intro u hu; obtain ⟨_, _, _, _⟩ := hu; go_simp; try with_reducible rfl)
  try simp only [Act.put, List.setIfInBounds_toArray, List.set_cons_zero, List.set_cons_succ, List.getElem_toArray, List.getElem_cons_zero, List.getElem_cons_succ]
  refine wpAnyH_take (i := 7) (v := ?v7) rfl (by kernel_rfl) (by kernel_rfl) (by kernel_rfl) (fun _ _ _ h => h) (Or.inl ⟨by rfl, ?hy7⟩) (by assumption) ?rest7
  case hy7 => (intro u hu; obtain ⟨_, _, _, _⟩ := hu; go_simp; try with_reducible rfl)
  try simp only [Act.put, List.setIfInBounds_toArray, List.set_cons_zero, List.set_cons_succ, List.getElem_toArray, List.getElem_cons_zero, List.getElem_cons_succ]
  refine wpAnyH_done (by kernel_rfl) ?_ _
  refine NoPanic.normal ?_
  go_wp2_with fail
  go_ret2
  refine ⟨rfl, ⟨kb, h1, (HQ.out ht1).1, hk1.wide hG HW.out.size⟩, ?_⟩
  exact Turns.weak (Turns.wide (u := (w.alloc (.cells #[.string y.1, .int .i64 y.2.1, .int .i64 y.2.2] 67)).drew) hG HW.out.drew ht1) (fun b _ hf => hf.1)

set_option maxHeartbeats 2000000 in
theorem HPop_calls {F : Where} {w : World} {hb : Nat} {L : List It} (h : HAt F w hb L) (hF : ∀ b, w.heap.size ≤ b → F b) (hL : L.length < 1000000000000) (h0 : 0 < L.length) :
    Calls Tryz.prog 140 #[.pointer (some ⟨hb, 0, none⟩)] w fun e w' => e = .returned (.tuple #[vI (at_ L 0), .int .i64 0]) ∧ HAt F w' hb (lastL L 0).dropLast ∧ Turns F w w' := by
  obtain ⟨kb, h1, h2, h3⟩ := h
  have hbl := block_lt h2
  have hG : ∀ b, w.heap.size ≤ b → F b ∧ b ≠ hb := fun b hb' => ⟨hF b hb', by omega⟩
  have H3 : Hid (HK (fun b => F b ∧ b ≠ hb) w kb L) := h3
  have hbW : Below w.heap.size w (w.alloc (.cells #[.string ⟨#[]⟩, .int .i64 0, .int .i64 0] 67)) := by go_grown
  have h2' := (hbW.block hb hbl).trans h2
  obtain ⟨v, mb, D, hk, _⟩ := h3.grow hbW
  obtain ⟨a, cap, rfl, _⟩ := hk.len
  have k0 := hk.c0
  have k1 := hk.c1
  have hkl := hk.lt
  have cW : (w.alloc (.cells #[.string ⟨#[]⟩, .int .i64 0, .int .i64 0] 67)).cell? ⟨hb, 0, none⟩ = some (.pointer (some ⟨kb, 0, none⟩)) := by simp [World.cell?, h2']
  have HQ : Hid (∀ {u w1 : World}, Below (w.alloc (.cells #[.string ⟨#[]⟩, .int .i64 0, .int .i64 0] 67)).heap.size (w.alloc (.cells #[.string ⟨#[]⟩, .int .i64 0, .int .i64 0] 67)) u → Turns (Nar (fun b => F b ∧ b ≠ hb) w u) u w1 → w1.heap[hb]? = some (.cells #[.pointer (some ⟨kb, 0, none⟩)] 94 (0, 0)) ∧ w1.heap[w.heap.size]? = some (.cells #[.string ⟨#[]⟩, .int .i64 0, .int .i64 0] 67 (0, 0))) := by
    intro u w1 hu ht
    have hs := hu.size
    have hsW : (w.alloc (.cells #[.string ⟨#[]⟩, .int .i64 0, .int .i64 0] 67)).heap.size = w.heap.size + 1 := by simp
    refine ⟨(ht.block hb (by omega) (fun hn => hn.elim (fun k => k.1.2 rfl) (fun k => by omega))).trans ((hu.block hb (by omega)).trans h2'), ?_⟩
    exact (ht.block w.heap.size (by omega) (fun hn => hn.elim (fun k => by omega) (fun k => by omega))).trans ((hu.block w.heap.size (by omega)).trans (heap_new w _ _ rfl))
  have hL0 : ¬ (L.length : Int) = 0 := by omega
  have HW : Hid (Below w.heap.size w (w.alloc (.cells #[.string ⟨#[]⟩, .int .i64 0, .int .i64 0] 67))) := hbW
  clear h2 h3 h2' hbW hk
  go_enter Tryz.func140, Tryz.ntmps140
  go_wp2_with (first
    | (go_at_call 57; refine (made_calls cW ⟨_, rfl⟩).mono ?_; rintro e w' ⟨rfl, rfl⟩)
    | (go_at_call 58; refine (Len_calls a L.length cap _ _).mono ?_; rintro e w2 ⟨rfl, hb2⟩; have cW2 := (hb2.cell (p := ⟨hb, 0, none⟩) (by simp; omega)).trans cW)
    | (go_at_call 75; refine (take_calls (H3.out.nar (on2 HW.out hb2)) (fun b hb => .inr hb) hL 0 h0).mono ?_; rintro e w3 ⟨rfl, hk3, ht3⟩; obtain ⟨q1, q2⟩ := HQ.out hb2 ht3; have r0 : w3.cell? ⟨w.heap.size, 0, none⟩ = some (.string ⟨#[]⟩) := (by simp [World.cell?, q2]); have r1 : w3.cell? ⟨w.heap.size, 1, none⟩ = some (.int .i64 0) := (by simp [World.cell?, q2]); have r2 : w3.cell? ⟨w.heap.size, 2, none⟩ = some (.int .i64 0) := (by simp [World.cell?, q2]); have f0 : w3.frozen? ⟨w.heap.size, 0, none⟩ = false := (by simp [World.frozen?, q2]); have f1 : w3.frozen? ⟨w.heap.size, 1, none⟩ = false := (by simp [World.frozen?, q2]); have f2 : w3.frozen? ⟨w.heap.size, 2, none⟩ = false := (by simp [World.frozen?, q2])))
  have hs2 := (on2 HW.out hb2).size
  have hs3 := hb2.size
  have hsW : (w.alloc (.cells #[.string ⟨#[]⟩, .int .i64 0, .int .i64 0] 67)).heap.size = w.heap.size + 1 := by simp
  refine bodyPost_ret (v := .tuple #[vI (at_ L 0), .int .i64 0]) (by simp [results, Tryz.results140, go_sem, r0, r1, r2]) rfl ⟨rfl, ⟨kb, h1, ?_, HK.wide hG hs2 (hk3.on3 (fun hn => hn.elim (fun k => by omega) (fun k => by omega)))⟩, ?_⟩
  · have hne : hb ≠ w.heap.size := by omega
    rw [heap_setCell_other _ ⟨w.heap.size, 2, none⟩ hb _ hne, heap_setCell_other _ ⟨w.heap.size, 1, none⟩ hb _ hne, heap_setCell_other _ ⟨w.heap.size, 0, none⟩ hb _ hne]
    exact q1
  · exact (Turns.weak (Turns.wide hG (on2 HW.out hb2) ht3) (fun b _ hf => hf.1)).trans (((Turns.set (hF _ (Nat.le_refl _)) _).trans (Turns.set (hF _ (Nat.le_refl _)) _)).trans (Turns.set (hF _ (Nat.le_refl _)) _))
end Go.Proofs.YtbmejaailhjgfaaGreat
namespace Go.Proofs.YtbmejaailhjgfaaGreat
open Go.RowKit Go.Maps
set_option linter.unusedSimpArgs false
set_option maxRecDepth 100000

def iA : It := (⟨#[97]⟩, 1, 5)
def iB : It := (⟨#[98]⟩, 2, 9)
def iC : It := (⟨#[99]⟩, 1, 4)
theorem plain1 : pushL [] iA = [iA] := rfl
theorem plain2 : pushL [iA] iB = [iB, iA] := rfl
theorem plain3 : pushL [iB, iA] iC = [iB, iA, iC] := rfl
theorem plain4 : (lastL [iB, iA, iC] 0).dropLast = [iC, iA] := rfl
theorem plain5 : (lastL [iC, iA] 0).dropLast = [iA] := rfl
theorem plain6 : (lastL [iA] 0).dropLast = [] := rfl
theorem okA : okI iA := by unfold okI; decide
theorem okBh : okI iB := by unfold okI; decide
theorem okC : okI iC := by unfold okI; decide
theorem HAt.nar {F : Where} {w u : World} {hb : Nat} {L : List It} (h : HAt F w hb L) (hw : Below w.heap.size w u) : HAt (Nar F w u) u hb L := (h.weak (fun _ h1 h2 => .inl ⟨h2, h1⟩)).grow hw
theorem neA : iA.1.toList.isEmpty = false := by kernel_rfl
theorem neB : iB.1.toList.isEmpty = false := by kernel_rfl
theorem neC : iC.1.toList.isEmpty = false := by kernel_rfl
theorem works_end {w : World} {hb : Nat} (w5 w6 w7 : World) (s5 : w.heap.size ≤ w5.heap.size) (u6 : Turns (Nar (Fresh w) w5 (w5.alloc (.cells #[.string ⟨#[98]⟩, .int .i64 2, .int .i64 9] 67))) (w5.alloc (.cells #[.string ⟨#[98]⟩, .int .i64 2, .int .i64 9] 67)) w6)
    (h7 : HAt (Nar (Nar (Fresh w) w5 (w5.alloc (.cells #[.string ⟨#[98]⟩, .int .i64 2, .int .i64 9] 67))) w6 (w6.alloc (.cells #[.string ⟨#[99]⟩, .int .i64 1, .int .i64 4] 67))) w7 hb []) (u7 : Turns (Nar (Nar (Fresh w) w5 (w5.alloc (.cells #[.string ⟨#[98]⟩, .int .i64 2, .int .i64 9] 67))) w6 (w6.alloc (.cells #[.string ⟨#[99]⟩, .int .i64 1, .int .i64 4] 67))) (w6.alloc (.cells #[.string ⟨#[99]⟩, .int .i64 1, .int .i64 4] 67)) w7) (b5 : Below w.heap.size w w5) :
    Hid (HAt (Nar (Nar (Fresh w) w5 (w5.alloc (.cells #[.string ⟨#[98]⟩, .int .i64 2, .int .i64 9] 67))) w6 (w6.alloc (.cells #[.string ⟨#[99]⟩, .int .i64 1, .int .i64 4] 67))) (w7.alloc (.cells #[.string ⟨#[97]⟩, .int .i64 1, .int .i64 5] 67)) hb []) ∧ (w7.alloc (.cells #[.string ⟨#[97]⟩, .int .i64 1, .int .i64 5] 67)).cell? ⟨w5.heap.size, 0, none⟩ = some (.string ⟨#[98]⟩) ∧ (w7.alloc (.cells #[.string ⟨#[97]⟩, .int .i64 1, .int .i64 5] 67)).cell? ⟨w6.heap.size, 0, none⟩ = some (.string ⟨#[99]⟩) ∧ Below w.heap.size w w7 := by
  have z1 : (w5.alloc (.cells #[.string ⟨#[98]⟩, .int .i64 2, .int .i64 9] 67)).heap.size = w5.heap.size + 1 := by simp
  have z2 : (w6.alloc (.cells #[.string ⟨#[99]⟩, .int .i64 1, .int .i64 4] 67)).heap.size = w6.heap.size + 1 := by simp
  have z6 := u6.size
  have z7 := u7.size
  have q5 : w6.heap[w5.heap.size]? = some (.cells #[.string ⟨#[98]⟩, .int .i64 2, .int .i64 9] 67 (0, 0)) := (u6.between (Nat.le_refl _) (by omega)).trans (heap_new _ _ _ rfl)
  have q5' : w7.heap[w5.heap.size]? = some (.cells #[.string ⟨#[98]⟩, .int .i64 2, .int .i64 9] 67 (0, 0)) :=
    (u7.block _ (by omega) (fun hn => hn.elim (fun k => k.1.elim (fun k => by omega) (fun k => by omega)) (fun k => by omega))).trans ((Below.heap_alloc _ _ _ (by omega)).trans q5)
  have q6 : w7.heap[w6.heap.size]? = some (.cells #[.string ⟨#[99]⟩, .int .i64 1, .int .i64 4] 67 (0, 0)) := (u7.between (Nat.le_refl _) (by omega)).trans (heap_new _ _ _ rfl)
  have hb7 : Below w7.heap.size w7 (w7.alloc (.cells #[.string ⟨#[97]⟩, .int .i64 1, .int .i64 5] 67)) := by go_grown
  refine ⟨h7.grow hb7, ?_, ?_, ?_⟩
  · rw [hb7.cell (by show w5.heap.size < _; omega)]; simp [World.cell?, q5']
  · rw [hb7.cell (by show w6.heap.size < _; omega)]; simp [World.cell?, q6]
  · have k6 := Turns.behind b5 (Turns.wide (fun b hb => Nat.le_trans s5 hb) (by go_grown) u6)
    have k7 := Turns.wide (F := Nar (Fresh w) w5 (w5.alloc (.cells #[.string ⟨#[98]⟩, .int .i64 2, .int .i64 9] 67))) (fun b hb => .inr (by omega)) (by go_grown) u7
    exact Turns.behind k6 (k7.weak (fun b _ hf => hf.elim (fun k => k.1) (fun k => (show w.heap.size ≤ b by omega))))
end Go.Proofs.YtbmejaailhjgfaaGreat
namespace Go.Proofs.YtbmejaailhjgfaaGreat
set_option linter.unusedSimpArgs false
set_option maxRecDepth 100000

theorem bl_irr : ∀ a : List UInt8, Op.bytesLess a a = false
  | [] => rfl
  | a :: x => by simp [Op.bytesLess, bl_irr x]
theorem bl_tot : ∀ a b : List UInt8, a ≠ b → Op.bytesLess b a = !Op.bytesLess a b
  | [], [], h => absurd rfl h
  | [], _ :: _, _ => rfl
  | _ :: _, [], _ => rfl
  | a :: x, b :: y, h => by
    by_cases e : a = b
    · subst e
      have ih := bl_tot x y (fun e => h (by rw [e]))
      simp [Op.bytesLess, ih]
    · have hne : a.toNat ≠ b.toNat := fun h' => e (UInt8.toNat_inj.1 h')
      by_cases hl : a < b
      · have h1 : ¬ b < a := fun h' => by have p : a.toNat < b.toNat := hl; have q : b.toNat < a.toNat := h'; omega
        have e2 : ¬ b = a := fun e' => e e'.symm
        simp [Op.bytesLess, hl, h1, e2]
      · have h1 : b < a := by
          show b.toNat < a.toNat
          have : ¬ a.toNat < b.toNat := hl
          omega
        simp [Op.bytesLess, hl, h1, e]
theorem bl_trans : ∀ a b c : List UInt8, Op.bytesLess a b = true → Op.bytesLess b c = true → Op.bytesLess a c = true
  | _, [], _, h, _ => by simp [Op.bytesLess] at h
  | _, _ :: _, [], _, h => by simp [Op.bytesLess] at h
  | [], _ :: _, _ :: _, _, _ => rfl
  | a :: x, b :: y, c :: z, h1, h2 => by
    simp only [Op.bytesLess, Bool.or_eq_true, Bool.and_eq_true, decide_eq_true_eq, beq_iff_eq] at h1 h2 ⊢
    rcases h1 with h1 | ⟨rfl, h1⟩ <;> rcases h2 with h2 | ⟨rfl, h2⟩
    · exact .inl (UInt8.lt_trans h1 h2)
    · exact .inl h1
    · exact .inl h2
    · exact .inr ⟨rfl, bl_trans x y z h1 h2⟩
theorem ahead_self (a : It) : ahead a a = false := by simp [ahead, bl_irr]
theorem str_ne {a b : ByteArray} (h : a ≠ b) : a.toList ≠ b.toList := fun e => by
  rw [ByteArray.toList_eq, ByteArray.toList_eq] at e
  exact h (by cases a; cases b; simp at e; simp [e])
theorem ahead_tot {a b : It} (h : a ≠ b) : ahead b a = !ahead a b := by
  obtain ⟨ak, ar, ac⟩ := a
  obtain ⟨bk, br, bc⟩ := b
  unfold ahead
  simp only
  by_cases h1 : ar = br
  · by_cases h2 : ac = bc
    · have h3 : ak ≠ bk := fun e => h (by rw [e, h1, h2])
      simp [h1, h2, bl_tot _ _ (str_ne h3)]
    · have e : decide (bc < ac) = !decide (ac < bc) := by
        by_cases hl : ac < bc
        · simp [hl]; omega
        · simp [hl]; omega
      have e2 : ¬ bc = ac := fun e' => h2 e'.symm
      simp [h1, h2, e2, e]
  · have e : decide (ar < br) = !decide (br < ar) := by
      by_cases hl : br < ar
      · simp [hl]; omega
      · simp [hl]; omega
    have e2 : ¬ br = ar := fun e' => h1 e'.symm
    simp [h1, e2, e]
theorem ahead_trans {a b c : It} (h1 : ahead a b = true) (h2 : ahead b c = true) : ahead a c = true := by
  obtain ⟨ak, ar, ac⟩ := a
  obtain ⟨bk, br, bc⟩ := b
  obtain ⟨ck, cr, cc⟩ := c
  unfold ahead at h1 h2 ⊢
  simp only at h1 h2 ⊢
  by_cases p1 : ar = br
  · by_cases p2 : br = cr
    · subst p1 p2
      simp only [ne_eq, not_true_eq_false, if_false] at h1 h2 ⊢
      by_cases q1 : ac = bc
      · by_cases q2 : bc = cc
        · subst q1 q2
          simp only [ne_eq, not_true_eq_false, if_false] at h1 h2 ⊢
          exact bl_trans _ _ _ h1 h2
        · subst q1
          simp [q2] at h2 ⊢
          exact h2
      · by_cases q2 : bc = cc
        · subst q2
          simp [q1] at h1 ⊢
          exact h1
        · simp [q1, q2] at h1 h2
          have q3 : ac ≠ cc := by omega
          simp [q3]; omega
    · subst p1
      simp [p2] at h2 ⊢
      exact h2
  · by_cases p2 : br = cr
    · subst p2
      simp [p1] at h1 ⊢
      exact h1
    · simp [p1, p2] at h1 h2
      have p3 : ar ≠ cr := by omega
      simp [p3]; omega
end Go.Proofs.YtbmejaailhjgfaaGreat
