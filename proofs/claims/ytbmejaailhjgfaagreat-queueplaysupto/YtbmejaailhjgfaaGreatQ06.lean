/- keyed.Pop: the last entry goes, and the map tells it no more. No condition. How container/heap finds the methods of a keyed list behind the interface. No condition. How a list of entries lies in memory; sort.insertionSort and sort.swapRange over it: the plain functions. No condition. sort.insertionSort over a list of entries: the plain function. No condition. sort.rotate over a list of entries: the plain function. No condition. sort.symMerge over a list of entries, where one side is a single entry: the plain function. No condition. -/
import Derived.Test.YtbmejaailhjgfaaGreatQ05
namespace Go.Proofs.YtbmejaailhjgfaaGreat
open Go.RowKit Go.Maps
set_option linter.unusedSimpArgs false
set_option maxRecDepth 100000

theorem KAt.cut {F : Where} {w : World} {kb : Nat} {mb n g cap : Nat} {D : DataW Unit} {M : List It} {y : It} (h : KAt F w kb (.slice (some ⟨g, 0, none⟩) (M.length + 1) cap) mb n D (M ++ [y])) :
    KAt F (w.setCell ⟨kb, 0, none⟩ (.slice (some ⟨g, 0, none⟩) M.length cap)) kb (.slice (some ⟨g, 0, none⟩) M.length cap) mb n D M ∧ Turns F w (w.setCell ⟨kb, 0, none⟩ (.slice (some ⟨g, 0, none⟩) M.length cap)) := by
  obtain ⟨g', cap', hv, _, _, hgk, hgm, _, _⟩ := h.sl (by simp)
  obtain rfl : g = g' := by simp at hv; exact hv.1
  refine ⟨⟨h.fk, h.fm, h.fr, ?_, ?_, ?_, fun z hz => h.ok z (List.mem_append_left _ hz)⟩, Turns.set h.fk _⟩
  · rw [heap_setCell_same w kb 0 _ _ _ h.own]; rfl
  · obtain ⟨q1, q2 | ⟨g', cap', cur, hv, hB, hg, hcp, hmx, hsz, htk⟩⟩ := h.row
    · exact absurd q2.2 (by simp)
    · obtain ⟨rfl, rfl⟩ : g = g' ∧ cap = cap' := by simp at hv; exact hv
      refine ⟨by rw [flatE_length encI_len], .inr ⟨g, cap, cur, rfl, hB, by rw [heap_setCell_other w ⟨kb, 0, none⟩ g _ hgk]; exact hg, by simp at hcp; omega, hmx, hsz, ?_⟩⟩
      have := congrArg (List.take (M.length * 3)) htk
      rw [List.take_take, Nat.min_eq_left (by simp; omega), flatE_append, List.take_left' (flatE_length encI_len M)] at this
      exact this
  · obtain ⟨es, c, q1, q2⟩ := h.map
    exact ⟨es, c, by rw [heap_setCell_other w ⟨kb, 0, none⟩ mb _ h.apart]; exact q1, q2⟩
/-- What stays while the entry's key is struck. -/
def PoS (kb mb b : Nat) (k : ByteArray) (u : World) : Prop := u.cell? ⟨kb, 2, none⟩ = some (.map (some mb)) ∧ u.cell? ⟨b, 0, none⟩ = some (.string k)
set_option maxHeartbeats 4000000 in
theorem kPop_at {F : Where} {w : World} {kb mb n g cap : Nat} {D : DataW Unit} {M : List It} {x : It} (h : KAt F w kb (.slice (some ⟨g, 0, none⟩) (M.length + 1) cap) mb n D (M ++ [x])) (hL : M.length < 1099511627776) :
    Calls Tryz.prog 142 #[.pointer (some ⟨kb, 0, none⟩)] w fun e w' => e = .returned (.iface 67 (vI x)) ∧
      KAt F w' kb (.slice (some ⟨g, 0, none⟩) M.length cap) mb n (D.del (kl x)) M ∧ Turns F w w' := by
  obtain ⟨g', cap', hv, hcap, hg, hgk, hgm, _, hc⟩ := h.sl (by simp)
  obtain ⟨rfl, rfl⟩ : g = g' ∧ cap = cap' := by simp at hv; exact hv
  have hx : okI x := h.ok x (by simp)
  have hi : M.length < (M ++ [x]).length := by simp
  have ex : (M ++ [x])[M.length] = x := by rw [List.getElem_append_right (Nat.le_refl _)]; simp
  obtain ⟨⟨x0, x1, x2⟩, f0, f1, f2⟩ := hc M.length hi
  rw [ex] at x0 x1 x2
  have c0 := h.c0
  have c2 := h.c2
  have fk := h.f0
  have hkb := h.lt
  have hmb := h.map.lt
  have hkg : ¬ kb = g := fun e => hgk e.symm
  have hgn : ¬ g = w.heap.size := by omega
  have hng : ¬ w.heap.size = g := by omega
  have hkn : ¬ kb = w.heap.size := by omega
  have hnk : ¬ w.heap.size = kb := by omega
  have hml : (M.length : Int) < (M.length : Int) + 1 := by omega
  have hcap' : M.length ≤ cap := by simp at hcap; omega
  have hb : Below w.heap.size w (w.alloc (.cells #[.string x.1, .int .i64 x.2.1, .int .i64 x.2.2] 67)) := by go_grown
  have x0' := (hb.cell (p := ⟨g, M.length * 3, none⟩) hg).trans x0
  have x1' := (hb.cell (p := ⟨g, M.length * 3 + 1, none⟩) hg).trans x1
  have x2' := (hb.cell (p := ⟨g, M.length * 3 + 2, none⟩) hg).trans x2
  have f0' := (hb.frozen (p := ⟨g, M.length * 3, none⟩) hg).trans f0
  have f1' := (hb.frozen (p := ⟨g, M.length * 3 + 1, none⟩) hg).trans f1
  have f2' := (hb.frozen (p := ⟨g, M.length * 3 + 2, none⟩) hg).trans f2
  have c0' := (hb.cell (p := ⟨kb, 0, none⟩) hkb).trans c0
  have fk' := (hb.frozen (p := ⟨kb, 0, none⟩) hkb).trans fk
  clear hc hv
  have HH : Hid (KAt F w kb (.slice (some ⟨g, 0, none⟩) (M.length + 1) cap) mb n D (M ++ [x])) := h
  clear h
  go_enter Tryz.func142, Tryz.ntmps142
  go_wp2_with fail
  have ok0 : okI (⟨#[]⟩, 0, 0) := (by show (0 : Nat) ≤ 140737488355328; omega)
  have es : (M ++ [x]).set M.length (⟨#[]⟩, 0, 0) = M ++ [(⟨#[]⟩, 0, 0)] := by rw [List.set_append_right _ _ (Nat.le_refl _)]; simp
  have K1 := HH.out.items (g := g) rfl hi ok0
  rw [es] at K1
  have K2 := KAt.cut K1.1
  have HK3 : Hid (KAt F (((((w.setCell ⟨g, M.length * 3, none⟩ (.string ⟨#[]⟩)).setCell ⟨g, M.length * 3 + 1, none⟩ (.int .i64 0)).setCell ⟨g, M.length * 3 + 2, none⟩ (.int .i64 0)).setCell ⟨kb, 0, none⟩ (.slice (some ⟨g, 0, none⟩) M.length cap)).alloc (.cells #[.string x.1, .int .i64 x.2.1, .int .i64 x.2.2] 67)).drew kb (.slice (some ⟨g, 0, none⟩) M.length cap) mb n D M ∧ Turns F w (((((w.setCell ⟨g, M.length * 3, none⟩ (.string ⟨#[]⟩)).setCell ⟨g, M.length * 3 + 1, none⟩ (.int .i64 0)).setCell ⟨g, M.length * 3 + 2, none⟩ (.int .i64 0)).setCell ⟨kb, 0, none⟩ (.slice (some ⟨g, 0, none⟩) M.length cap)).alloc (.cells #[.string x.1, .int .i64 x.2.1, .int .i64 x.2.2] 67)).drew) := ⟨(K2.1.grow ((Below.refl _ _).alloc (Nat.le_refl _) _)).drew, (K1.2.trans K2.2).trans ((Turns.alloc _ _ _).trans (Turns.drew _ _))⟩
  have Own3 : Hid ((((((w.setCell ⟨g, M.length * 3, none⟩ (.string ⟨#[]⟩)).setCell ⟨g, M.length * 3 + 1, none⟩ (.int .i64 0)).setCell ⟨g, M.length * 3 + 2, none⟩ (.int .i64 0)).setCell ⟨kb, 0, none⟩ (.slice (some ⟨g, 0, none⟩) M.length cap)).alloc (.cells #[.string x.1, .int .i64 x.2.1, .int .i64 x.2.2] 67)).drew.ownsMap Tryz.prog 9 (plainElem Tryz.prog 3) mb n D) := HK3.out.1.map
  have HS0 : Hid (PoS kb mb w.heap.size x.1 (((((w.setCell ⟨g, M.length * 3, none⟩ (.string ⟨#[]⟩)).setCell ⟨g, M.length * 3 + 1, none⟩ (.int .i64 0)).setCell ⟨g, M.length * 3 + 2, none⟩ (.int .i64 0)).setCell ⟨kb, 0, none⟩ (.slice (some ⟨g, 0, none⟩) M.length cap)).alloc (.cells #[.string x.1, .int .i64 x.2.1, .int .i64 x.2.2] 67)).drew) := ⟨HK3.out.1.c2, by simp [go_sem]⟩
  have HB : Hid (∀ {u : World}, (((((w.setCell ⟨g, M.length * 3, none⟩ (.string ⟨#[]⟩)).setCell ⟨g, M.length * 3 + 1, none⟩ (.int .i64 0)).setCell ⟨g, M.length * 3 + 2, none⟩ (.int .i64 0)).setCell ⟨kb, 0, none⟩ (.slice (some ⟨g, 0, none⟩) M.length cap)).alloc (.cells #[.string x.1, .int .i64 x.2.1, .int .i64 x.2.2] 67)).drew.mapTurned u mb → u.heap[w.heap.size]? = some (.cells #[.string x.1, .int .i64 x.2.1, .int .i64 x.2.2] 67 (0, 0))) := by
    intro u hu
    rw [hu.grown.block w.heap.size (by simp) (fun e => by simp at e; omega)]
    exact heap_new _ _ _ (by simp)
  have HS4 : Hid (∀ {u : World} {D' : DataW Unit}, u.ownsMap Tryz.prog 9 (plainElem Tryz.prog 3) mb n D' → (((((w.setCell ⟨g, M.length * 3, none⟩ (.string ⟨#[]⟩)).setCell ⟨g, M.length * 3 + 1, none⟩ (.int .i64 0)).setCell ⟨g, M.length * 3 + 2, none⟩ (.int .i64 0)).setCell ⟨kb, 0, none⟩ (.slice (some ⟨g, 0, none⟩) M.length cap)).alloc (.cells #[.string x.1, .int .i64 x.2.1, .int .i64 x.2.2] 67)).drew.mapTurned u mb → PoS kb mb w.heap.size x.1 u) := by
    intro u D' h1 h2
    have k := HK3.out.1.mapped h1 h2
    have q := HB.out h2
    exact ⟨k.c2, by simp [World.cell?, q]⟩
  clear K1 K2 HH c0 c2 fk x0 x1 x2 f0 f1 f2 x0' x1' x2' f0' f1' f2' c0' fk' hb
  refine wp_region_noPanic ?_
  refine wp_region_held_drew (S := PoS kb mb w.heap.size x.1) (by kernel_rfl) (HS0.out) (fun hHeld => ?_)
  refine wpAnyH_take (i := 0) (v := ?v0) rfl (by kernel_rfl) (by kernel_rfl) (by kernel_rfl) (fun _ _ _ h => h) (Or.inl ⟨by rfl, ?hy0⟩) (by assumption) ?rest0
  case hy0 => (intro u hu; obtain ⟨_, _⟩ := hu; go_simp; try with_reducible rfl)
  try simp only [Act.put, List.setIfInBounds_toArray, List.set_cons_zero, List.set_cons_succ, List.getElem_toArray, List.getElem_cons_zero, List.getElem_cons_succ]
  refine wpAnyH_take (i := 1) (v := ?v1) rfl (by kernel_rfl) (by kernel_rfl) (by kernel_rfl) (fun _ _ _ h => h) (Or.inl ⟨by rfl, ?hy1⟩) (by assumption) ?rest1
  case hy1 => (intro u hu; obtain ⟨_, _⟩ := hu; go_simp; try with_reducible rfl)
  try simp only [Act.put, List.setIfInBounds_toArray, List.set_cons_zero, List.set_cons_succ, List.getElem_toArray, List.getElem_cons_zero, List.getElem_cons_succ]
  refine wpAnyH_take (i := 2) (v := ?v2) rfl (by kernel_rfl) (by kernel_rfl) (by kernel_rfl) (fun _ _ _ h => h) (Or.inl ⟨by rfl, ?hy2⟩) (by assumption) ?rest2
  case hy2 => (intro u hu; obtain ⟨_, _⟩ := hu; go_simp; try with_reducible rfl)
  try simp only [Act.put, List.setIfInBounds_toArray, List.set_cons_zero, List.set_cons_succ, List.getElem_toArray, List.getElem_cons_zero, List.getElem_cons_succ]
  refine wpAnyH_take (i := 3) (v := ?v3) rfl (by kernel_rfl) (by kernel_rfl) (by kernel_rfl) (fun _ _ _ h => h) (Or.inl ⟨by rfl, ?hy3⟩) (by assumption) ?rest3
  case hy3 => (intro u hu; obtain ⟨_, _⟩ := hu; go_simp; try with_reducible rfl)
  try simp only [Act.put, List.setIfInBounds_toArray, List.set_cons_zero, List.set_cons_succ, List.getElem_toArray, List.getElem_cons_zero, List.getElem_cons_succ]
  refine wpAnyH_take (i := 4) (v := ?v4) rfl (by kernel_rfl) (by kernel_rfl) (by kernel_rfl) (fun _ _ _ h => h) (Or.inl ⟨by rfl, ?hy4⟩) (by assumption) ?rest4
  case hy4 => (intro u hu; obtain ⟨_, _⟩ := hu; go_simp; try with_reducible rfl)
  try simp only [Act.put, List.setIfInBounds_toArray, List.set_cons_zero, List.set_cons_succ, List.getElem_toArray, List.getElem_cons_zero, List.getElem_cons_succ]
  refine wpAnyH_take (i := 5) (v := ?v5) rfl (by kernel_rfl) (by kernel_rfl) (by kernel_rfl) (fun _ _ _ h => h) (Or.inl ⟨by rfl, ?hy5⟩) (by assumption) ?rest5
  case hy5 => (intro u hu; obtain ⟨_, _⟩ := hu; go_simp; try with_reducible rfl)
  try simp only [Act.put, List.setIfInBounds_toArray, List.set_cons_zero, List.set_cons_succ, List.getElem_toArray, List.getElem_cons_zero, List.getElem_cons_succ]
  refine wpAnyH_ready (rs := [6]) (by kernel_rfl) (by simp) ?_
  refine AllReadyH.cons rfl (fun K hK => ?_) AllReadyH.nil
  refine map_del_wp (.tmp 42) (.tmp 44) rfl (by simp [Act.eval, Act.put]) x hx (by simp [Act.eval, Act.put]) Own3.out ?_
  intro w4 hown4 hturn4
  refine hK.out _ _ (HS4.out hown4 hturn4) (fun hHeld2 => ?_)
  clear hK K hHeld
  have hHeld := hHeld2
  clear hHeld2
  try simp only [Act.put, List.setIfInBounds_toArray, List.set_cons_zero, List.set_cons_succ, List.getElem_toArray, List.getElem_cons_zero, List.getElem_cons_succ]
  refine wpAnyH_done (by kernel_rfl) ?_ _
  refine NoPanic.normal ?_
  have q := HB.out hturn4
  have b0 : w4.cell? ⟨w.heap.size, 0, none⟩ = some (.string x.1) := by simp [World.cell?, q]
  have b1 : w4.cell? ⟨w.heap.size, 1, none⟩ = some (.int .i64 x.2.1) := by simp [World.cell?, q]
  have b2 : w4.cell? ⟨w.heap.size, 2, none⟩ = some (.int .i64 x.2.2) := by simp [World.cell?, q]
  go_wp2_with fail
  go_ret
  exact ⟨rfl, HK3.out.1.mapped hown4 hturn4, HK3.out.2.trans (Turns.map hturn4 HK3.out.1.fm)⟩
theorem kPop {F : Where} {w : World} {kb : Nat} {M : List It} {x : It} (h : HK F w kb (M ++ [x])) (hL : M.length < 1099511627776) :
    Calls Tryz.prog 142 #[.pointer (some ⟨kb, 0, none⟩)] w fun e w' => e = .returned (.iface 67 (vI x)) ∧ HK F w' kb M ∧ Turns F w w' := by
  obtain ⟨v, mb, D, h, t⟩ := h
  obtain ⟨g, cap, hv, _⟩ := h.sl (by simp)
  have hv' : v = .slice (some ⟨g, 0, none⟩) (M.length + 1) cap := by simpa using hv
  subst hv'
  refine (kPop_at h hL).mono ?_
  rintro e w' ⟨rfl, h1, h2⟩
  exact ⟨rfl, HK.of h1 (t.pop h.tidy), h2⟩
end Go.Proofs.YtbmejaailhjgfaaGreat
namespace Go.Proofs.YtbmejaailhjgfaaGreat
open Go.RowKit Go.Maps
set_option linter.unusedSimpArgs false
set_option maxRecDepth 100000

theorem load_list {w : World} {kb : Nat} {v f : Value} (c0 : w.cell? ⟨kb, 0, none⟩ = some v) (c1 : w.cell? ⟨kb, 1, none⟩ = some f) : Sem.run Tryz.prog (loadVar 99 ⟨kb, 0, none⟩) w = .ok (.agg #[v, f]) w := by
  go_simp
theorem info_Len : (Tryz.prog.info? 91).map (fun i => i.methods.find? (·.name == "Len")) = some (some { name := "Len", sig := 71, path := #[{ struct := 102, index := 0, deref := true }], func := some (58, false) }) := by kernel_rfl
theorem meth_Len {w : World} {kb : Nat} {v f : Value} (c0 : w.cell? ⟨kb, 0, none⟩ = some v) (c1 : w.cell? ⟨kb, 1, none⟩ = some f) : Sem.run Tryz.prog (method 284 91 (.pointer (some ⟨kb, 0, none⟩)) "Len") w = .ok (58, .agg #[v, f]) w := by
  have ht := info_Len
  obtain ⟨n, hn⟩ : ∃ n, 284 = n + 1 := ⟨_, rfl⟩
  rw [hn, method]
  cases hi : Tryz.prog.info? 91 with
  | none => rw [hi] at ht; cases ht
  | some i =>
    rw [hi] at ht
    have h2 : i.methods.find? (·.name == "Len") = some { name := "Len", sig := 71, path := #[{ struct := 102, index := 0, deref := true }], func := some (58, false) } := by simpa using ht
    have h1 : Sem.run Tryz.prog (typeInfo 91) w = .ok i w := by
      simp [typeInfo, hi, go_sem]
    simp only [Sem.run_bind, h1, Result.andThen_ok, h2]
    simp [follow, receiverAt, Place.get, c0, c1, go_sem]
theorem info_Less : (Tryz.prog.info? 91).map (fun i => i.methods.find? (·.name == "Less")) = some (some { name := "Less", sig := 167, path := #[{ struct := 102, index := 0, deref := true }], func := some (141, false) }) := by kernel_rfl
theorem meth_Less {w : World} {kb : Nat} {v f : Value} (c0 : w.cell? ⟨kb, 0, none⟩ = some v) (c1 : w.cell? ⟨kb, 1, none⟩ = some f) : Sem.run Tryz.prog (method 284 91 (.pointer (some ⟨kb, 0, none⟩)) "Less") w = .ok (141, .agg #[v, f]) w := by
  have ht := info_Less
  obtain ⟨n, hn⟩ : ∃ n, 284 = n + 1 := ⟨_, rfl⟩
  rw [hn, method]
  cases hi : Tryz.prog.info? 91 with
  | none => rw [hi] at ht; cases ht
  | some i =>
    rw [hi] at ht
    have h2 : i.methods.find? (·.name == "Less") = some { name := "Less", sig := 167, path := #[{ struct := 102, index := 0, deref := true }], func := some (141, false) } := by simpa using ht
    have h1 : Sem.run Tryz.prog (typeInfo 91) w = .ok i w := by
      simp [typeInfo, hi, go_sem]
    simp only [Sem.run_bind, h1, Result.andThen_ok, h2]
    simp [follow, receiverAt, Place.get, c0, c1, go_sem]
/-- An entry by its place. -/
def at_ (L : List It) (i : Nat) : It := L.getD i default
theorem at_get {L : List It} {i : Nat} (h : i < L.length) : at_ L i = L[i] := getE L i h
def swapL (L : List It) (i j : Nat) : List It := (L.set i (at_ L j)).set j (at_ L i)
theorem swapL_length (L : List It) (i j : Nat) : (swapL L i j).length = L.length := by simp [swapL]
theorem kSwap' {F : Where} {w : World} {kb i j : Nat} {L : List It} (h : HK F w kb L) (hL : L.length < 1099511627776) (hi : i < L.length) (hj : j < L.length) (hij : ¬ i = j) :
    Calls Tryz.prog 144 #[.pointer (some ⟨kb, 0, none⟩), .int .i64 (i : Int), .int .i64 (j : Int)] w fun e w' => e = .returned (.tuple #[]) ∧ HK F w' kb (swapL L i j) ∧ Turns F w w' := by
  have := kSwap h hL hi hj hij
  unfold swapL
  rw [at_get hi, at_get hj]
  exact this
/-- Which of two entries comes ahead, by the interface: how it is found, and what it says. -/
theorem kLess {F : Where} {w : World} {kb : Nat} {L : List It} (h : HK F w kb L) : ∃ r, Sem.run Tryz.prog (method 284 91 (.pointer (some ⟨kb, 0, none⟩)) "Less") w = .ok (141, r) w ∧
    ∀ i j : Nat, i < L.length → j < L.length → Calls Tryz.prog 141 #[r, .int .i64 (i : Int), .int .i64 (j : Int)] w fun e w' => e = .returned (.bool (ahead (at_ L i) (at_ L j))) ∧ Below w.heap.size w w' := by
  obtain ⟨v, mb, D, h, t⟩ := h
  refine ⟨_, meth_Less h.c0 h.c1, fun i j hi hj => ?_⟩
  obtain ⟨g, cap, rfl, _, hg, _, _, _, hc⟩ := h.sl (by omega)
  have := Less_at g L.length cap i j L[i] L[j] w (by omega) (by omega) hg (hc i hi).1.1 (hc i hi).1.2.1 (hc i hi).1.2.2 (hc j hj).1.1 (hc j hj).1.2.1 (hc j hj).1.2.2
  rw [at_get hi, at_get hj]
  exact this
theorem kLen {F : Where} {w : World} {kb : Nat} {L : List It} (h : HK F w kb L) : ∃ r, Sem.run Tryz.prog (method 284 91 (.pointer (some ⟨kb, 0, none⟩)) "Len") w = .ok (58, r) w ∧
    Calls Tryz.prog 58 #[r] w fun e w' => e = .returned (.int .i64 (L.length : Int)) ∧ Below w.heap.size w w' := by
  obtain ⟨v, mb, D, h, t⟩ := h
  refine ⟨_, meth_Len h.c0 h.c1, ?_⟩
  obtain ⟨a, cap, rfl, _⟩ := h.len
  exact Len_calls a L.length cap _ w
end Go.Proofs.YtbmejaailhjgfaaGreat
namespace Go.Proofs.YtbmejaailhjgfaaGreat
open Go.RowKit Go.Maps
set_option linter.unusedSimpArgs false
set_option maxRecDepth 100000

/-- A list of entries, in a row of its own. -/
structure LsAt (F : Where) (w : World) (g cap : Nat) (L : List It) : Prop where
  fg : F g
  row : w.ownsRow 0 67 3 (.slice (some ⟨g, 0, none⟩) L.length cap) L.length (flatE encI L)
  ok : ∀ x ∈ L, okI x
abbrev Lv (g n cap : Nat) : Value := .agg #[.slice (some ⟨g, 0, none⟩) n cap, .func (.func 93) #[] #[]]
section
variable {F : Where} {w w' : World} {g cap : Nat} {L : List It}
theorem LsAt.lt (h : LsAt F w g cap L) : g < w.heap.size := by
  obtain ⟨_, ⟨h0, _⟩ | ⟨g', cap', cur, hv, _, hg, _⟩⟩ := h.row
  · cases h0
  · obtain rfl : g = g' := by simp at hv; exact hv.1
    exact block_lt hg
theorem LsAt.cells (h : LsAt F w g cap L) (i : Nat) (hi : i < L.length) : (w.cell? ⟨g, i * 3, none⟩ = some (.string (at_ L i).1) ∧ w.cell? ⟨g, i * 3 + 1, none⟩ = some (.int .i64 (at_ L i).2.1) ∧ w.cell? ⟨g, i * 3 + 2, none⟩ = some (.int .i64 (at_ L i).2.2)) ∧
      w.frozen? ⟨g, i * 3, none⟩ = false ∧ w.frozen? ⟨g, i * 3 + 1, none⟩ = false ∧ w.frozen? ⟨g, i * 3 + 2, none⟩ = false := by
  rcases own_cells h.row with ⟨h0, _⟩ | ⟨g', cap', hv', _, _, _, hc⟩
  · cases h0
  · obtain ⟨rfl, rfl⟩ : g = g' ∧ cap = cap' := by simpa using hv'
    have e0 := hc (i * 3) (by omega)
    have e1 := hc (i * 3 + 1) (by omega)
    have e2 := hc (i * 3 + 2) (by omega)
    have q0 := flatE_at encI_len L i 0 hi (by omega)
    have q1 := flatE_at encI_len L i 1 hi (by omega)
    have q2 := flatE_at encI_len L i 2 hi (by omega)
    rw [Nat.add_zero] at q0
    exact ⟨⟨e0.1.trans q0, e1.1.trans q1, e2.1.trans q2⟩, e0.2, e1.2, e2.2⟩
theorem LsAt.grow (h : LsAt F w g cap L) (hb : Below w.heap.size w w') : LsAt F w' g cap L := ⟨h.fg, owns_on h.row hb, h.ok⟩
theorem LsAt.drew (h : LsAt F w g cap L) : LsAt F w.drew g cap L := ⟨h.fg, h.row, h.ok⟩
theorem LsAt.put (h : LsAt F w g cap L) {i : Nat} (hi : i < L.length) {x : It} (hx : okI x) : LsAt F (putI w g i x) g cap (L.set i x) ∧ Turns F w (putI w g i x) := by
  have hgr : w.grownBy (putI w g i x) (some g) := grown_setCells _ _
  refine ⟨⟨h.fg, ?_, ?_⟩, Turns.grown hgr (fun b e => by cases e; exact h.fg)⟩
  · obtain ⟨hl, ⟨h0, _⟩ | ⟨g', cap', cur, hv, hB, hg, hcp, hmx, hsz, htk⟩⟩ := h.row
    · cases h0
    · obtain ⟨rfl, rfl⟩ : g = g' ∧ cap = cap' := by simpa using hv
      have hbd : i * 3 + (encI x).length ≤ cur.size := by rw [hsz, encI_len]; omega
      obtain ⟨cur', k1, k2, k3⟩ := row_setCells g _ (encI x) (i * 3) w cur hg hbd
      refine ⟨by rw [flatE_length encI_len], .inr ⟨g, cap, cur', by rw [List.length_set], hB, k1, by rw [List.length_set]; exact hcp, hmx, by rw [k2, hsz], ?_⟩⟩
      have hcl : cur.toList.length = cap * 3 := by simp [hsz]
      rw [k3, flatE_set L i x hi, ← htk, List.length_set, encI_len, List.take_take, Nat.min_eq_left (by omega), List.drop_take, List.append_assoc, List.append_assoc, List.take_append, List.take_append]
      have e1 : (cur.toList.take (i * 3)).length = i * 3 := by rw [List.length_take]; omega
      have e0 : (cur.toList.take (i * 3)).take (L.length * 3) = cur.toList.take (i * 3) := List.take_of_length_le (by rw [e1]; omega)
      have e2 : (encI x).take (L.length * 3 - i * 3) = encI x := List.take_of_length_le (by rw [encI_len]; omega)
      rw [e0, e1, e2, encI_len, show L.length * 3 - i * 3 - 3 = L.length * 3 - (i * 3 + 3) by omega]
  · intro y hy
    rcases List.mem_or_eq_of_mem_set hy with h1 | rfl
    · exact h.ok y h1
    · exact hx
theorem ok_at (h : LsAt F w g cap L) {i : Nat} (hi : i < L.length) : okI (at_ L i) := by rw [at_get hi]; exact h.ok _ (List.getElem_mem hi)
/-- The list's Swap. -/
theorem sSwap (h : LsAt F w g cap L) {i j : Nat} (hi : i < L.length) (hj : j < L.length) (hij : ¬ i = j) :
    Calls Tryz.prog 145 #[Lv g L.length cap, .int .i64 (i : Int), .int .i64 (j : Int)] w fun e w' => e = .returned (.tuple #[]) ∧ LsAt F w' g cap (swapL L i j) ∧ Turns F w w' := by
  have ci := h.cells i hi
  have cj := h.cells j hj
  refine (lSwap_at g L.length cap i j _ (at_ L i) (at_ L j) w hij (by omega) (by omega) h.lt ci.1.1 ci.1.2.1 ci.1.2.2 cj.1.1 cj.1.2.1 cj.1.2.2 ci.2.1 ci.2.2.1 ci.2.2.2 cj.2.1 cj.2.2.1 cj.2.2.2).mono ?_
  rintro e w' ⟨rfl, W, hb, rfl⟩
  have k1 := (h.grow hb).put hi (ok_at h hj)
  have k2 := k1.1.put (i := j) (by simpa using hj) (ok_at h hi)
  exact ⟨rfl, k2.1.drew, ((Turns.below hb).trans (k1.2.trans k2.2)).trans (Turns.drew _ _)⟩
/-- The list's Less. -/
theorem sLess (h : LsAt F w g cap L) {i j : Nat} (hi : i < L.length) (hj : j < L.length) {b : Bool} (e : ahead (at_ L i) (at_ L j) = b) :
    Calls Tryz.prog 141 #[Lv g L.length cap, .int .i64 (i : Int), .int .i64 (j : Int)] w fun e w' => e = .returned (.bool b) ∧ Below w.heap.size w w' := by
  have ci := h.cells i hi
  have cj := h.cells j hj
  subst e
  exact Less_at g L.length cap i j _ _ w (by omega) (by omega) h.lt ci.1.1 ci.1.2.1 ci.1.2.2 cj.1.1 cj.1.2.1 cj.1.2.2
end
/-- Swaps of two stretches. -/
def swR : Nat → Nat → Nat → List It → List It
  | 0, _, _, L => L
  | n + 1, a, b, L => swR n (a + 1) (b + 1) (swapL L a b)
theorem swR_length : ∀ (n a b : Nat) (L : List It), (swR n a b L).length = L.length
  | 0, _, _, _ => rfl
  | n + 1, a, b, L => by rw [swR, swR_length, swapL_length]
set_option maxHeartbeats 4000000 in
theorem swapRange_calls {F : Where} {w : World} {g cap : Nat} {L : List It} (h : LsAt F w g cap L) (hL : L.length < 1099511627776) (a b n : Nat) (ha : a + n ≤ L.length) (hb : b + n ≤ L.length) (hab : ¬ a = b) :
    Calls Tryz.prog 121 #[.iface 99 (Lv g L.length cap), .int .i64 (a : Int), .int .i64 (b : Int), .int .i64 (n : Int)] w fun e w' => e = .returned (.tuple #[]) ∧ LsAt F w' g cap (swR n a b L) ∧ Turns F w w' := by
  have HH : Hid (LsAt F w g cap L) := h
  clear h
  go_enter Tryz.func121, Tryz.ntmps121
  go_wp2_with fail
  go_loopw [8] (fun vi wr => ∃ (i : Nat) (M : List It), vi = .int .i64 (i : Int) ∧ i ≤ n ∧ M.length = L.length ∧ LsAt F wr g cap M ∧ Turns F w wr ∧ swR (n - i) (a + i) (b + i) M = swR n a b L) (fun vi _ => n - (intOf vi).toNat)
  case atStart => exact ⟨0, L, rfl, Nat.zero_le _, rfl, HH.out, Turns.refl _ _, rfl⟩
  case round =>
    obtain ⟨i, M, rfl, hi, hM, h1, h2, h3⟩ := hrel
    have HR : Hid (LsAt F wr g cap M ∧ Turns F w wr ∧ swR (n - i) (a + i) (b + i) M = swR n a b L) := ⟨h1, h2, h3⟩
    clear h1 h2 h3 HH
    by_cases hin : i < n
    · have hin' : (i : Int) < (n : Int) := by omega
      have HS := sSwap HR.out.1 (i := a + i) (j := b + i) (by omega) (by omega) (by omega)
      rw [hM, Int.natCast_add, Int.natCast_add] at HS
      have HSw : Hid (Calls Tryz.prog 145 #[Lv g L.length cap, .int .i64 ((a : Int) + (i : Int)), .int .i64 ((b : Int) + (i : Int))] wr fun e w' => e = .returned (.tuple #[]) ∧ LsAt F w' g cap (swapL M (a + i) (b + i)) ∧ Turns F wr w') := HS
      clear HS
      go_wp2_with (go_at_call 145; refine HSw.out.mono ?_; rintro e w1 ⟨rfl, k1, u1⟩)
      go_roundw
      case rel => exact ⟨i + 1, swapL M (a + i) (b + i), by go_num, by omega, by rw [swapL_length]; exact hM, k1, HR.out.2.1.trans u1, by rw [← HR.out.2.2, show n - i = (n - (i + 1)) + 1 by omega, swR]; rfl⟩
      case measure => simp [intOf]; omega
    · have hin' : ¬ (i : Int) < (n : Int) := by omega
      go_wp2_with fail
      go_end0
      have := HR.out.2.2
      rw [show n - i = 0 by omega] at this
      exact ⟨rfl, this ▸ HR.out.1, HR.out.2.1⟩
end Go.Proofs.YtbmejaailhjgfaaGreat
namespace Go.Proofs.YtbmejaailhjgfaaGreat
open Go.RowKit Go.Maps
set_option linter.unusedSimpArgs false
set_option maxRecDepth 100000

/-- An entry goes down to its place. -/
def insI (a : Nat) : Nat → List It → List It
  | 0, L => L
  | j + 1, L => if a < j + 1 then (if ahead (at_ L (j + 1)) (at_ L j) then insI a j (swapL L (j + 1) j) else L) else L
/-- Entries from i on, n of them. -/
def insO (a : Nat) : Nat → Nat → List It → List It
  | 0, _, L => L
  | n + 1, i, L => insO a n (i + 1) (insI a i L)
theorem insI_length (a : Nat) : ∀ (j : Nat) (L : List It), (insI a j L).length = L.length
  | 0, _ => rfl
  | j + 1, L => by
    unfold insI
    split
    · split
      · rw [insI_length, swapL_length]
      · rfl
    · rfl
theorem insO_length (a : Nat) : ∀ (n i : Nat) (L : List It), (insO a n i L).length = L.length
  | 0, _, _ => rfl
  | n + 1, i, L => by rw [insO, insO_length, insI_length]
theorem insI_stop {a j : Nat} {L : List It} (h : ¬ a < j) : insI a j L = L := by
  cases j with
  | zero => rfl
  | succ j => simp [insI, h]
theorem insI_halt {a j p : Nat} {L : List It} (hp : j = p + 1) (h : ahead (at_ L j) (at_ L p) = false) : insI a j L = L := by
  subst hp
  unfold insI
  split
  · rw [if_neg (by rw [h]; simp)]
  · rfl
theorem insI_go {a j p : Nat} {L : List It} (hp : j = p + 1) (ha : a < j) (h : ahead (at_ L j) (at_ L p) = true) : insI a j L = insI a p (swapL L j p) := by
  subst hp
  rw [insI, if_pos ha, if_pos h]
set_option maxHeartbeats 4000000 in
theorem insertionSort_calls {F : Where} {w : World} {g cap : Nat} {L : List It} (h : LsAt F w g cap L) (hL : L.length < 1099511627776) (a b : Nat) (hab : a ≤ b) (hb : b ≤ L.length) :
    Calls Tryz.prog 117 #[.iface 99 (Lv g L.length cap), .int .i64 (a : Int), .int .i64 (b : Int)] w fun e w' => e = .returned (.tuple #[]) ∧ LsAt F w' g cap (insO a (b - (a + 1)) (a + 1) L) ∧ Turns F w w' := by
  have HH : Hid (LsAt F w g cap L) := h
  clear h
  go_enter Tryz.func117, Tryz.ntmps117
  go_wp2_with fail
  go_loopw [6] (fun vi wr => ∃ (i : Nat) (M : List It), vi = .int .i64 (i : Int) ∧ a < i ∧ i ≤ b + 1 ∧ M.length = L.length ∧ LsAt F wr g cap M ∧ Turns F w wr ∧ insO a (b - i) i M = insO a (b - (a + 1)) (a + 1) L) (fun vi _ => b + 1 - (intOf vi).toNat)
  case atStart => exact ⟨a + 1, L, by go_num, by omega, by omega, rfl, HH.out, Turns.refl _ _, rfl⟩
  case round =>
    obtain ⟨i, M, rfl, hai, hib, hM, h1, h2, h3⟩ := hrel
    have HR : Hid (LsAt F wr g cap M ∧ Turns F w wr ∧ insO a (b - i) i M = insO a (b - (a + 1)) (a + 1) L) := ⟨h1, h2, h3⟩
    clear h1 h2 h3 HH
    by_cases hin : i < b
    · have hin' : (i : Int) < (b : Int) := by omega
      go_wp2_with fail
      go_loopw [7] (fun vj wq => ∃ (j : Nat) (K : List It), vj = .int .i64 (j : Int) ∧ a ≤ j ∧ j ≤ i ∧ K.length = L.length ∧ LsAt F wq g cap K ∧ Turns F w wq ∧ insI a j K = insI a i M) (fun vj _ => (intOf vj).toNat)
      case atStart => exact ⟨i, M, rfl, by omega, Nat.le_refl _, hM, HR.out.1, HR.out.2.1, rfl⟩
      case round =>
        obtain ⟨j, K, rfl, haj, hji, hK, k1, k2, k3⟩ := hrel
        have HQ : Hid (LsAt F wr g cap K ∧ Turns F w wr ∧ insI a j K = insI a i M) := ⟨k1, k2, k3⟩
        clear k1 k2 k3
        have HO : Hid (insO a (b - i) i M = insO a (b - (a + 1)) (a + 1) L) := HR.out.2.2
        clear HR
        by_cases hja : a < j
        · have hja' : (a : Int) < (j : Int) := by omega
          obtain ⟨p, hp⟩ : ∃ p, j = p + 1 := ⟨j - 1, by omega⟩
          have hpe : (j : Int) - 1 = (p : Int) := by omega
          have HP : Hid (j = p + 1) := hp
          have hpj : p < j := by omega
          have hpa : a ≤ p := by omega
          have hjL : j < K.length := by omega
          have hpL : p < K.length := by omega
          clear hp
          cases hah : ahead (at_ K j) (at_ K p) with
          | false =>
            have HLs := sLess HQ.out.1 hjL hpL hah
            rw [hK] at HLs
            have HL : Hid (Calls Tryz.prog 141 #[Lv g L.length cap, .int .i64 (j : Int), .int .i64 (p : Int)] wr fun e w' => e = .returned (.bool false) ∧ Below wr.heap.size wr w') := HLs
            clear HLs
            go_wp2_with (go_at_call 141; refine HL.out.mono ?_; rintro e w1 ⟨rfl, hb1⟩)
            go_roundw
            case rel => exact ⟨i + 1, K, by go_num, by omega, by omega, hK, HQ.out.1.grow hb1, HQ.out.2.1.trans (Turns.below hb1), by rw [← HO.out, show b - i = (b - (i + 1)) + 1 by omega, insO, ← HQ.out.2.2, insI_halt HP.out hah]⟩
            case measure => simp [intOf]; omega
          | true =>
            have HLs := sLess HQ.out.1 hjL hpL hah
            rw [hK] at HLs
            have HL : Hid (Calls Tryz.prog 141 #[Lv g L.length cap, .int .i64 (j : Int), .int .i64 (p : Int)] wr fun e w' => e = .returned (.bool true) ∧ Below wr.heap.size wr w') := HLs
            have HS : Hid (∀ u, Below wr.heap.size wr u → Calls Tryz.prog 145 #[Lv g L.length cap, .int .i64 (j : Int), .int .i64 (p : Int)] u fun e w' => e = .returned (.tuple #[]) ∧ LsAt F w' g cap (swapL K j p) ∧ Turns F u w') := by
              intro u hu
              have := sSwap (HQ.out.1.grow hu) hjL hpL (by omega)
              rw [hK] at this
              exact this
            clear HLs
            go_wp2_with (first | (go_at_call 141; refine HL.out.mono ?_; rintro e w1 ⟨rfl, hb1⟩) | (go_at_call 145; refine (HS.out _ hb1).mono ?_; rintro e w2 ⟨rfl, k2, u2⟩))
            go_roundw
            case rel => exact ⟨p, swapL K j p, by first | rfl | go_num, hpa, by omega, by rw [swapL_length]; exact hK, k2, HQ.out.2.1.trans ((Turns.below hb1).trans u2), by rw [← HQ.out.2.2, insI_go HP.out hja hah]⟩
            case measure => simp [intOf]; omega
        · have hja' : ¬ (a : Int) < (j : Int) := by omega
          go_wp2_with fail
          go_roundw
          case rel => exact ⟨i + 1, K, by go_num, by omega, by omega, hK, HQ.out.1, HQ.out.2.1, by rw [← HO.out, show b - i = (b - (i + 1)) + 1 by omega, insO, ← HQ.out.2.2, insI_stop hja]⟩
          case measure => simp [intOf]; omega
    · have hin' : ¬ (i : Int) < (b : Int) := by omega
      go_wp2_with fail
      go_end0
      have := HR.out.2.2
      rw [show b - i = 0 by omega] at this
      exact ⟨rfl, this ▸ HR.out.1, HR.out.2.1⟩
end Go.Proofs.YtbmejaailhjgfaaGreat
namespace Go.Proofs.YtbmejaailhjgfaaGreat
open Go.RowKit Go.Maps
set_option linter.unusedSimpArgs false
set_option maxRecDepth 100000

def rotF : Nat → Nat → Nat → Nat → List It → List It
  | 0, _, _, _, L => L
  | f + 1, m, i, j, L => if i = j then swR i (m - i) m L else if j < i then rotF f m (i - j) j (swR j (m - i) m L) else rotF f m i (j - i) (swR i (m - i) (m + j - i) L)
theorem rotF_length : ∀ (f m i j : Nat) (L : List It), (rotF f m i j L).length = L.length
  | 0, _, _, _, _ => rfl
  | f + 1, m, i, j, L => by
    unfold rotF
    split
    · rw [swR_length]
    · split
      · rw [rotF_length, swR_length]
      · rw [rotF_length, swR_length]
theorem swapRange_as {F : Where} {w : World} {g cap n0 : Nat} {L : List It} (h : LsAt F w g cap L) (hn : L.length = n0) (hL : n0 < 1099511627776) (a b n : Nat) (ha : a + n ≤ n0) (hb : b + n ≤ n0) (hab : ¬ a = b) :
    Calls Tryz.prog 121 #[.iface 99 (Lv g n0 cap), .int .i64 (a : Int), .int .i64 (b : Int), .int .i64 (n : Int)] w fun e w' => e = .returned (.tuple #[]) ∧ LsAt F w' g cap (swR n a b L) ∧ Turns F w w' := by
  subst hn
  exact swapRange_calls h hL a b n ha hb hab
set_option maxHeartbeats 4000000 in
theorem rotate_calls {F : Where} {w : World} {g cap : Nat} {L : List It} (h : LsAt F w g cap L) (hL : L.length < 1099511627776) (a m b : Nat) (ham : a < m) (hmb : m < b) (hb : b ≤ L.length) :
    Calls Tryz.prog 120 #[.iface 99 (Lv g L.length cap), .int .i64 (a : Int), .int .i64 (m : Int), .int .i64 (b : Int)] w fun e w' => e = .returned (.tuple #[]) ∧ LsAt F w' g cap (rotF (b - a) m (m - a) (b - m) L) ∧ Turns F w w' := by
  have HH : Hid (LsAt F w g cap L) := h
  clear h
  obtain ⟨i0, hi0⟩ : ∃ i0, i0 = m - a := ⟨_, rfl⟩
  obtain ⟨j0, hj0⟩ : ∃ j0, j0 = b - m := ⟨_, rfl⟩
  obtain ⟨f0, hf0⟩ : ∃ f0, f0 = b - a := ⟨_, rfl⟩
  rw [← hi0, ← hj0, ← hf0]
  have e1 : (m : Int) - (a : Int) = (i0 : Int) := by omega
  have e2 : (b : Int) - (m : Int) = (j0 : Int) := by omega
  have hii : 0 < i0 ∧ i0 ≤ m := by omega
  have hjj : 0 < j0 ∧ m + j0 ≤ L.length := by omega
  have hff : i0 + j0 ≤ f0 := by omega
  clear hi0 hj0 hf0
  go_enter Tryz.func120, Tryz.ntmps120
  go_wp2_with fail
  go_loopw [8, 9] (fun vi vj wr => ∃ (i j f : Nat) (M : List It), vi = .int .i64 (i : Int) ∧ vj = .int .i64 (j : Int) ∧ 0 < i ∧ i ≤ m ∧ 0 < j ∧ m + j ≤ L.length ∧ i + j ≤ f ∧ M.length = L.length ∧ LsAt F wr g cap M ∧ Turns F w wr ∧ rotF f m i j M = rotF f0 m i0 j0 L) (fun vi vj _ => (intOf vi).toNat + (intOf vj).toNat)
  case atStart => exact ⟨i0, j0, f0, L, rfl, rfl, hii.1, hii.2, hjj.1, hjj.2, hff, rfl, HH.out, Turns.refl _ _, rfl⟩
  case round =>
    obtain ⟨i, j, f, M, rfl, rfl, hi0, him, hj0, hjm, hf, hM, h1, h2, h3⟩ := hrel
    have HR : Hid (LsAt F wr g cap M ∧ Turns F w wr ∧ rotF f m i j M = rotF f0 m i0 j0 L) := ⟨h1, h2, h3⟩
    clear h1 h2 h3 HH
    obtain ⟨k, hk⟩ : ∃ k, f = k + 1 := ⟨f - 1, by omega⟩
    subst hk
    obtain ⟨p, hp⟩ : ∃ p, p = m - i := ⟨_, rfl⟩
    have hpe : (m : Int) - (i : Int) = (p : Int) := by omega
    have HP : Hid (p = m - i) := hp
    have hpm : p + i = m := by omega
    clear hp
    by_cases hij : i = j
    · have hij' : (i : Int) = (j : Int) := by omega
      have HS := swapRange_as HR.out.1 hM hL p m i (by omega) (by omega) (by omega)
      have HSw : Hid (Calls Tryz.prog 121 #[.iface 99 (Lv g L.length cap), .int .i64 (p : Int), .int .i64 (m : Int), .int .i64 (i : Int)] wr fun e w' => e = .returned (.tuple #[]) ∧ LsAt F w' g cap (rotF f0 m i0 j0 L) ∧ Turns F wr w') := by
        rw [← HR.out.2.2, rotF, if_pos hij, ← HP.out]
        exact HS
      clear HS
      subst hij
      go_wp2_with (go_at_call 121; refine HSw.out.mono ?_; rintro e w1 ⟨rfl, k1, u1⟩)
      go_end0
      exact ⟨rfl, k1, HR.out.2.1.trans u1⟩
    · have hij' : ¬ (i : Int) = (j : Int) := by omega
      by_cases hlt : j < i
      · have hlt' : (j : Int) < (i : Int) := by omega
        obtain ⟨r, hr⟩ : ∃ r, r = i - j := ⟨_, rfl⟩
        have hre : (i : Int) - (j : Int) = (r : Int) := by omega
        have HRr : Hid (r = i - j) := hr
        have hrj : r + j = i := by omega
        clear hr
        have HS := swapRange_as HR.out.1 hM hL p m j (by omega) (by omega) (by omega)
        have HSw : Hid (Calls Tryz.prog 121 #[.iface 99 (Lv g L.length cap), .int .i64 (p : Int), .int .i64 (m : Int), .int .i64 (j : Int)] wr fun e w' => e = .returned (.tuple #[]) ∧ LsAt F w' g cap (swR j p m M) ∧ Turns F wr w') := HS
        clear HS
        go_wp2_with (go_at_call 121; refine HSw.out.mono ?_; rintro e w1 ⟨rfl, k1, u1⟩)
        go_roundw
        case rel => exact ⟨r, j, k, swR j p m M, rfl, rfl, by omega, by omega, hj0, hjm, by omega, by rw [swR_length]; exact hM, k1, HR.out.2.1.trans u1, by rw [← HR.out.2.2, rotF, if_neg hij, if_pos hlt, ← HP.out, ← HRr.out]⟩
        case measure => simp [intOf]; omega
      · have hlt' : ¬ (j : Int) < (i : Int) := by omega
        obtain ⟨r, hr⟩ : ∃ r, r = j - i := ⟨_, rfl⟩
        obtain ⟨q, hq⟩ : ∃ q, q = m + j - i := ⟨_, rfl⟩
        have hre : (j : Int) - (i : Int) = (r : Int) := by omega
        have hqe : (m : Int) + (j : Int) - (i : Int) = (q : Int) := by omega
        have HRr : Hid (r = j - i ∧ q = m + j - i) := ⟨hr, hq⟩
        have hrj : r + i = j := by omega
        have hqj : q + i = m + j := by omega
        clear hr hq
        have HS := swapRange_as HR.out.1 hM hL p q i (by omega) (by omega) (by omega)
        have HSw : Hid (Calls Tryz.prog 121 #[.iface 99 (Lv g L.length cap), .int .i64 (p : Int), .int .i64 (q : Int), .int .i64 (i : Int)] wr fun e w' => e = .returned (.tuple #[]) ∧ LsAt F w' g cap (swR i p q M) ∧ Turns F wr w') := HS
        clear HS
        go_wp2_with (go_at_call 121; refine HSw.out.mono ?_; rintro e w1 ⟨rfl, k1, u1⟩)
        go_roundw
        case rel => exact ⟨i, r, k, swR i p q M, rfl, rfl, hi0, him, by omega, by omega, by omega, by rw [swR_length]; exact hM, k1, HR.out.2.1.trans u1, by rw [← HR.out.2.2, rotF, if_neg hij, if_neg hlt, ← HP.out, ← HRr.out.1, ← HRr.out.2]⟩
        case measure => simp [intOf]; omega
end Go.Proofs.YtbmejaailhjgfaaGreat
namespace Go.Proofs.YtbmejaailhjgfaaGreat
open Go.RowKit Go.Maps
set_option linter.unusedSimpArgs false

/-- A search by halves. -/
def bs (t : Nat → Bool) : Nat → Nat → Nat → Nat
  | 0, i, _ => i
  | f + 1, i, j => if i < j then (if t ((i + j) / 2) then bs t f ((i + j) / 2 + 1) j else bs t f i ((i + j) / 2)) else i
theorem bs_end {t : Nat → Bool} {f i j : Nat} (h : ¬ i < j) : bs t f i j = i := by
  cases f with
  | zero => rfl
  | succ f => simp [bs, h]
theorem bs_yes {t : Nat → Bool} {f i j c : Nat} (hf : 0 < f) (h : i < j) (hc : c = (i + j) / 2) (ht : t c = true) : bs t f i j = bs t (f - 1) (c + 1) j := by
  cases f with
  | zero => omega
  | succ f => subst hc; simp [bs, h, ht]
theorem bs_no {t : Nat → Bool} {f i j c : Nat} (hf : 0 < f) (h : i < j) (hc : c = (i + j) / 2) (ht : t c = false) : bs t f i j = bs t (f - 1) i c := by
  cases f with
  | zero => omega
  | succ f => subst hc; simp [bs, h, ht]
theorem bs_in {t : Nat → Bool} : ∀ (f i j : Nat), i ≤ j → i ≤ bs t f i j ∧ bs t f i j ≤ j
  | 0, i, j, h => ⟨Nat.le_refl _, h⟩
  | f + 1, i, j, h => by
    unfold bs
    split
    · split
      · have := bs_in (t := t) f ((i + j) / 2 + 1) j (by omega)
        omega
      · have := bs_in (t := t) f i ((i + j) / 2) (by omega)
        omega
    · omega
/-- An entry goes up n places, or down. -/
def swU : Nat → Nat → List It → List It
  | 0, _, L => L
  | n + 1, k, L => swU n (k + 1) (swapL L k (k + 1))
def swD : Nat → Nat → List It → List It
  | 0, _, L => L
  | n + 1, k, L => swD n (k - 1) (swapL L k (k - 1))
set_option maxRecDepth 100000 in
set_option maxHeartbeats 4000000 in
theorem sym_one {F : Where} {w : World} {g cap : Nat} {L : List It} (h : LsAt F w g cap L) (hL : L.length < 1099511627776) (a m b : Nat) (ham : m = a + 1) (hmb : m < b) (hb : b ≤ L.length) :
    Calls Tryz.prog 118 #[.iface 99 (Lv g L.length cap), .int .i64 (a : Int), .int .i64 (m : Int), .int .i64 (b : Int)] w fun e w' => e = .returned (.tuple #[]) ∧ LsAt F w' g cap (swU (bs (fun h => ahead (at_ L h) (at_ L a)) (b - m + 1) m b - 1 - a) a L) ∧ Turns F w w' := by
  have HH : Hid (LsAt F w g cap L) := h
  clear h
  have e1 : (m : Int) - (a : Int) = 1 := by omega
  have HA : Hid (m = a + 1) := ham
  have hma : a < m := by omega
  clear ham
  go_enter Tryz.func118, Tryz.ntmps118
  go_wp2_with fail
  go_loopw [8, 9] (fun vi vj wr => ∃ (i j f : Nat), vi = .int .i64 (i : Int) ∧ vj = .int .i64 (j : Int) ∧ m ≤ i ∧ i ≤ j ∧ j ≤ b ∧ j - i < f ∧ Below w.heap.size w wr ∧ bs (fun h => ahead (at_ L h) (at_ L a)) f i j = bs (fun h => ahead (at_ L h) (at_ L a)) (b - m + 1) m b) (fun vi vj _ => (intOf vj).toNat - (intOf vi).toNat)
  case atStart => exact ⟨m, b, b - m + 1, rfl, rfl, Nat.le_refl _, by omega, Nat.le_refl _, by omega, Below.refl _ _, rfl⟩
  case round =>
    obtain ⟨i, j, f, rfl, rfl, hi0, hij, hjb, hf, hbw, h3⟩ := hrel
    have HE : Hid (Below w.heap.size w wr ∧ bs (fun h => ahead (at_ L h) (at_ L a)) f i j = bs (fun h => ahead (at_ L h) (at_ L a)) (b - m + 1) m b) := ⟨hbw, h3⟩
    clear hbw h3
    by_cases hlt : i < j
    · have hlt' : (i : Int) < (j : Int) := by omega
      obtain ⟨c, hc⟩ : ∃ c, c = (i + j) / 2 := ⟨_, rfl⟩
      have hce : ((i : Int) + (j : Int)) / 2 = (c : Int) := by omega
      have HC : Hid (c = (i + j) / 2) := hc
      have hci : i ≤ c ∧ c < j := by omega
      clear hc
      cases hah : ahead (at_ L c) (at_ L a) with
      | true =>
        have HLs := sLess (HH.out.grow HE.out.1) (i := c) (j := a) (by omega) (by omega) hah
        have HL : Hid (Calls Tryz.prog 141 #[Lv g L.length cap, .int .i64 (c : Int), .int .i64 (a : Int)] wr fun e w' => e = .returned (.bool true) ∧ Below wr.heap.size wr w') := HLs
        clear HLs
        go_wp2_with (go_at_call 141; refine HL.out.mono ?_; rintro e w1 ⟨rfl, hb1⟩)
        go_roundw
        case rel => exact ⟨c + 1, j, f - 1, by go_num, rfl, by omega, by omega, hjb, by omega, on2 HE.out.1 hb1, by rw [← HE.out.2, bs_yes (by omega) hlt HC.out (by simp [hah])]⟩
        case measure => simp [intOf]; omega
      | false =>
        have HLs := sLess (HH.out.grow HE.out.1) (i := c) (j := a) (by omega) (by omega) hah
        have HL : Hid (Calls Tryz.prog 141 #[Lv g L.length cap, .int .i64 (c : Int), .int .i64 (a : Int)] wr fun e w' => e = .returned (.bool false) ∧ Below wr.heap.size wr w') := HLs
        clear HLs
        go_wp2_with (go_at_call 141; refine HL.out.mono ?_; rintro e w1 ⟨rfl, hb1⟩)
        go_roundw
        case rel => exact ⟨i, c, f - 1, rfl, rfl, by omega, by omega, by omega, by omega, on2 HE.out.1 hb1, by rw [← HE.out.2, bs_no (by omega) hlt HC.out (by simp [hah])]⟩
        case measure => simp [intOf]; omega
    · have hlt' : ¬ (i : Int) < (j : Int) := by omega
      have HBS : Hid (bs (fun h => ahead (at_ L h) (at_ L a)) (b - m + 1) m b = i) := by
        show _ = _
        rw [← HE.out.2, bs_end hlt]
      obtain ⟨q, hq⟩ : ∃ q, i = q + 1 := ⟨i - 1, by omega⟩
      have hqe : (i : Int) - 1 = (q : Int) := by omega
      have HQ : Hid (i = q + 1) := hq
      have hqa : a ≤ q := by omega
      have hqL : q < L.length := by omega
      have HB : Hid (Below w.heap.size w wr) := HE.out.1
      have HN : Hid (i - 1 - a = q - a) := by show _ = _; omega
      clear HE hq
      go_wp2_with fail
      go_loopw [11] (fun vk wq => ∃ (k : Nat) (M : List It), vk = .int .i64 (k : Int) ∧ a ≤ k ∧ k ≤ q ∧ M.length = L.length ∧ LsAt F wq g cap M ∧ Turns F w wq ∧ swU (q - k) k M = swU (q - a) a L) (fun vk _ => q - (intOf vk).toNat)
      case atStart => exact ⟨a, L, rfl, Nat.le_refl _, hqa, rfl, HH.out.grow HB.out, Turns.below HB.out, rfl⟩
      case round =>
        obtain ⟨k, M, rfl, hak, hkq, hM, k1, k2, k3⟩ := hrel
        have HR : Hid (LsAt F wr g cap M ∧ Turns F w wr ∧ swU (q - k) k M = swU (q - a) a L) := ⟨k1, k2, k3⟩
        clear k1 k2 k3 HH HB
        by_cases hkl : k < q
        · have hkl' : (k : Int) < (q : Int) := by omega
          obtain ⟨s, hs⟩ : ∃ s, s = k + 1 := ⟨_, rfl⟩
          have hse : (k : Int) + 1 = (s : Int) := by omega
          have HS := sSwap HR.out.1 (i := k) (j := s) (by omega) (by omega) (by omega)
          rw [hM] at HS
          have HSw : Hid (Calls Tryz.prog 145 #[Lv g L.length cap, .int .i64 (k : Int), .int .i64 (s : Int)] wr fun e w' => e = .returned (.tuple #[]) ∧ LsAt F w' g cap (swapL M k s) ∧ Turns F wr w') := HS
          have HS2 : Hid (s = k + 1) := hs
          have hsq : s ≤ q := by omega
          have has : a ≤ s := by omega
          clear HS hs
          go_wp2_with (go_at_call 145; refine HSw.out.mono ?_; rintro e w1 ⟨rfl, k1, u1⟩)
          go_roundw
          case rel => exact ⟨s, swapL M k s, by first | rfl | go_num, has, hsq, by rw [swapL_length]; exact hM, k1, HR.out.2.1.trans u1, by have e3 := HS2.out; subst e3; rw [← HR.out.2.2, show q - k = (q - (k + 1)) + 1 by omega, swU]⟩
          case measure => simp [intOf]; omega
        · have hkl' : ¬ (k : Int) < (q : Int) := by omega
          go_wp2_with fail
          refine bodyPost_ret (results_none rfl _ _ _) rfl ?_
          have := HR.out.2.2
          rw [show q - k = 0 by omega] at this
          rw [HBS.out, HN.out]
          exact ⟨rfl, this ▸ HR.out.1, HR.out.2.1⟩
end Go.Proofs.YtbmejaailhjgfaaGreat
