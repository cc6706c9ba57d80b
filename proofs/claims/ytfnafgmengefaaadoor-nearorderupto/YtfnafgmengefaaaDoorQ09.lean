/- Terms of a pod with a map each: near.wishesOf. Condition: the terms lie as is said of them. near.tallyOf: a tally of nothing placed. Condition: the pod lies as is said of it, and has fewer than 1,000,000,000 terms of a kind. near.tallyOf: a tally of nothing placed. Condition: the pod lies as is said of it, and has fewer than 1,000,000,000 terms of a kind. -/
import Derived.Test.YtfnafgmengefaaaDoorQ08
namespace Go.Proofs.YtfnafgmengefaaaDoor
open Go.RowKit Go.Maps
set_option linter.unusedSimpArgs false
set_option maxRecDepth 100000

def RMap : Rep Nat := fun _ _ cs b => cs = [.map (some b)]
theorem RMap.firm : Firm RMap 1 := {
  len := (by rintro A w cs x rfl; rfl),
  one := (by rintro A w cs x rfl u hu; simp at hu; subst hu; rfl),
  kept := fun h _ => h,
  weak := fun h _ => h }
/-- A term, and the block of its map. -/
abbrev WishD := TermD × Nat
def RWish : Rep WishD := RPair RTerm RMap
theorem RWish.firm : Firm RWish 3 := Firm.pair RTerm.firm RMap.firm
theorem RWish.out {A : Where} {w : World} {cs : List Value} {x : WishD} (h : RWish A w cs x) : ∃ h0 : Hd, cs = [.slice h0.1 h0.2.1 h0.2.2, .string x.1.2, .map (some x.2)] ∧ SlAt RReq 3 48 A w h0.1 h0.2.1 h0.2.2 x.1.1 ∧ x.1.2.size ≤ 140737488355328 := by
  obtain ⟨c, d, rfl, h1, rfl⟩ := h
  obtain ⟨h0, rfl, h2, h3⟩ := h1.out
  exact ⟨h0, rfl, h2, h3⟩
theorem RWish.mk {A : Where} {w : World} {x : WishD} {h0 : Hd} (p0 : SlAt RReq 3 48 A w h0.1 h0.2.1 h0.2.2 x.1.1) (p1 : x.1.2.size ≤ 140737488355328) : RWish A w [.slice h0.1 h0.2.1 h0.2.2, .string x.1.2, .map (some x.2)] x :=
  ⟨_, _, rfl, RTerm.mk p0 p1, rfl⟩
theorem infoWish : (Tryd.prog.info? 80).map (fun i => (i.zero, i.size, i.bytes)) = some (some (.agg #[.slice none 0 0, .string ⟨#[]⟩, .map none]), 3, 48) := by kernel_rfl
theorem take_at8 {α : Type} [Inhabited α] {L : List α} {k : Nat} (h : k < L.length) : L.take k ++ [L.getD k default] = L.take (k + 1) := by
  rw [List.take_add_one, List.getD_eq_getElem?_getD, List.getElem?_eq_getElem h]
  rfl
/-- A block that is no map. -/
def NotMap (w : World) (b : Nat) : Prop := ∀ es c, w.heap[b]? ≠ some (.map es c)
theorem CntAt.map {w : World} {mb n : Nat} {f : Lab → Int} (h : CntAt w mb n f) : ¬ NotMap w mb := by
  obtain ⟨D, ⟨es, ck, h1, _⟩, _⟩ := h
  exact fun k => k es ck h1
section
variable {α : Type} [Inhabited α] {R : Rep α} {k : Nat}
theorem Row.notMap {A : Where} {w0 u : World} {e : TypeId} {v : Value} {L : List α} (h : Row R k A w0 u e v L) {b : Nat} (hb : v.ownBlock = some b) : NotMap u b ∧ Fresh w0 b ∧ b < u.heap.size := by
  obtain ⟨xs, h1, h2⟩ := h
  have h3 := h1.2
  obtain ⟨_, ⟨rfl, _⟩ | ⟨g, cap, cur, rfl, hB, hg, _⟩⟩ := h3
  · simp [Value.ownBlock] at hb
  · obtain rfl : g = b := by simpa [Value.ownBlock] using hb
    refine ⟨fun es c hh => ?_, hB, (Array.getElem?_eq_some_iff.1 hg).1⟩
    rw [hh] at hg; cases hg
/-- What a row is in the end: its own block is no map. -/
theorem Row.slN (hR : Firm R k) {bytes : Nat} {A : Where} {w0 u : World} {e : TypeId} {v : Value} {L : List α} (h : Row R k A w0 u e v L) (hb : L.length * bytes ≤ 140737488351232) :
    ∃ a cap, v = .slice a L.length cap ∧ SlAt R k bytes (fun b => A b ∨ (Fresh w0 b ∧ NotMap u b)) u a L.length cap L := by
  have h0 := h
  obtain ⟨xs, h1, h2⟩ := h
  obtain ⟨a, cap, e1, h3⟩ := sl_of_owns (bytes := bytes) hR h1.2 h2 hb
  refine ⟨a, cap, e1, h3.weak hR (fun b _ hb => ?_)⟩
  rcases hb with hb | hb
  · exact .inl hb.1
  · exact .inr ⟨(h0.notMap hb).2.1, (h0.notMap hb).1⟩
end
/-- Maps of nothing, each a block of its own, that have come since w. -/
structure Zeros (w u : World) (L : List WishD) : Prop where
  c : ∀ t ∈ L, CntAt u t.2 0 (fun _ => 0)
  f : ∀ t ∈ L, w.heap.size ≤ t.2
  n : (L.map Prod.snd).Nodup
theorem Zeros.on {w u u' : World} {L : List WishD} (h : Zeros w u L) (hb : ∀ b, b ∈ L.map Prod.snd → b < u.heap.size → u'.heap[b]? = u.heap[b]?) : Zeros w u' L :=
  ⟨fun t ht => (h.c t ht).same (hb t.2 (List.mem_map.2 ⟨t, ht, rfl⟩) (h.c t ht).lt), h.f, h.n⟩
theorem Zeros.snoc {w u : World} {L : List WishD} (h : Zeros w u L) (hw : w.heap.size ≤ u.heap.size) (t : TermD) : Zeros w (u.alloc (.map #[] 0)) (L ++ [(t, u.heap.size)]) := by
  have h1 := h.on (u' := u.alloc (.map #[] 0)) (fun b _ hb => ((Below.refl _ u).alloc (Nat.le_refl _) _).block b hb)
  refine ⟨fun x hx => ?_, fun x hx => ?_, ?_⟩
  · rcases List.mem_append.1 hx with hx | hx
    · exact h1.c x hx
    · obtain rfl : x = (t, u.heap.size) := by simpa using hx
      exact CntAt.made u
  · rcases List.mem_append.1 hx with hx | hx
    · exact h.f x hx
    · obtain rfl : x = (t, u.heap.size) := by simpa using hx
      exact hw
  · rw [List.map_append, List.nodup_append]
    refine ⟨h.n, by simp, fun a ha b hb => ?_⟩
    obtain ⟨x, hx, rfl⟩ := List.mem_map.1 ha
    have := (h.c x hx).lt
    simp at hb
    omega
set_option maxHeartbeats 4000000 in
theorem wishesOf_calls (a : Option Addr) (n cap : Nat) (A : Where) (L : List TermD) (w : World) (hL : Hid (SlAt RTerm 2 40 A w a n cap L)) (hA : ∀ b, A b → b < w.heap.size) (hn : n < 1000000000) :
    Calls Tryd.prog 28 #[.slice a n cap] w fun e w' => ∃ a' c' M, e = .returned (.slice a' n c') ∧ SlAt RWish 3 48 (fun b => A b ∨ (Fresh w b ∧ NotMap w' b)) w' a' n c' M ∧ M.map Prod.fst = L ∧ Zeros w w' M ∧ Below w.heap.size w w' := by
  have hlen : Hid (L.length = n) := hL.out.1
  have hmm := @run_makeMap Tryd.prog
  go_enter Tryd.func28, Tryd.ntmps28
  go_wp2_with fail
  go_loopw [3, 8] (fun o i wr => ∃ (k : Nat) (M : List WishD), k ≤ n ∧ i = .int .i64 k ∧ Hid (Row RWish 3 A w wr 80 o M) ∧ Hid (Zeros w wr M) ∧ Hid (M.map Prod.fst = L.take k)) (fun _ i _ => n - (intOf i).toNat)
  case atStart => exact ⟨0, [], Nat.zero_le _, rfl, Row.nil _ _ _, ⟨fun _ h => (by cases h), fun _ h => (by cases h), List.nodup_nil⟩, rfl⟩
  case round =>
    obtain ⟨k, M, hk, rfl, hrow, hz, hM⟩ := hrel
    have hbel : Below w.heap.size w wr := hrow.out.below
    by_cases hlt : k < n
    · obtain ⟨B, off, rfl, hB, hAB, cs, hr, hv⟩ := hL.out.get hlt
      obtain ⟨⟨b1, b2, b3⟩, rfl, hreq, hkey⟩ := hr.out
      simp only at hreq hkey hv
      have d0 := (hbel.cell (p := ⟨B, off + k * 2 + 0, none⟩) hB).trans (hv 0 _ rfl)
      have d1 := (hbel.cell (p := ⟨B, off + k * 2 + 1, none⟩) hB).trans (hv 1 _ rfl)
      rw [Nat.add_zero] at d0
      clear hr hv
      generalize hx : L.getD k default = x at hreq hkey d0 d1
      have HT : Hid (M.map Prod.fst ++ [x] = L.take (k + 1)) := by rw [Hid, hM.out, ← hx]; exact take_at8 (by rw [hlen.out]; exact hlt)
      have hMl : Hid (M.length = k) := by have := congrArg List.length hM.out; rw [List.length_map, List.length_take, hlen.out, Nat.min_eq_left hk] at this; exact this
      obtain ⟨V, hV⟩ : ∃ V, V = (wr.alloc (.cells #[.slice b1 b2 b3, .string x.2] 44)).alloc (.map #[] 0) := ⟨_, rfl⟩
      have hVs : V.heap.size = wr.heap.size + 1 + 1 := by rw [hV]; simp
      have hbV : Below wr.heap.size wr (V.alloc (.cells #[.slice b1 b2 b3, .string x.2, .map (some (wr.heap.size + 1))] 80)) := by rw [hV]; go_grown
      have HR : Hid (Row RWish 3 A w (V.alloc (.cells #[.slice b1 b2 b3, .string x.2, .map (some (wr.heap.size + 1))] 80)) 80 u3 M) := hrow.out.on RWish.firm hbV
      have HZ : Hid (Zeros w (V.alloc (.cells #[.slice b1 b2 b3, .string x.2, .map (some (wr.heap.size + 1))] 80)) (M ++ [(x, wr.heap.size + 1)])) := by
        have h1 := (hz.out.on (u' := wr.alloc (.cells #[.slice b1 b2 b3, .string x.2] 44)) (fun b _ hb => ((Below.refl _ wr).alloc (Nat.le_refl _) _).block b hb)).snoc (Nat.le_trans hbel.size (by simp)) x
        rw [World.size_alloc] at h1
        rw [← hV] at h1
        exact h1.on (fun b _ hb => ((Below.refl _ V).alloc (Nat.le_refl _) _).block b hb)
      have HCh : Hid (Chunks RWish 3 (fun b => A b ∧ u3.ownBlock ≠ some b) (V.alloc (.cells #[.slice b1 b2 b3, .string x.2, .map (some (wr.heap.size + 1))] 80)) [.slice b1 b2 b3, .string x.2, .map (some (wr.heap.size + 1))] [(x, wr.heap.size + 1)]) :=
        chunk_one RWish.firm (RWish.mk (x := (x, wr.heap.size + 1)) (h0 := (b1, b2, b3)) ((hreq.on RReq.firm (on2 hbel hbV)).weak RReq.firm (fun b _ hb => ⟨hb, fun e => by have h2 : w.heap.size ≤ b := (hrow.out.notMap e).2.1; have := hA b hb; omega⟩)) hkey)
      have HX : Hid (∀ j y, ([.slice b1 b2 b3, .string x.2, .map (some (wr.heap.size + 1))] : List Value)[j]? = some y → (V.alloc (.cells #[.slice b1 b2 b3, .string x.2, .map (some (wr.heap.size + 1))] 80)).cell? ((⟨wr.heap.size + 1 + 1, 0, none⟩ : Addr).add j) = some y) := by have := one_cells V [.slice b1 b2 b3, .string x.2, .map (some (wr.heap.size + 1))] 80; rw [hVs] at this; exact this
      have HB3 : Hid ((M.length + [(x, wr.heap.size + 1)].length) * 48 ≤ 140737488355328) := by rw [Hid, hMl.out]; simp; omega
      have HNZ : Hid (∀ v1 w1, (V.alloc (.cells #[.slice b1 b2 b3, .string x.2, .map (some (wr.heap.size + 1))] 80)).grownBy w1 u3.ownBlock → Row RWish 3 A w w1 80 v1 (M ++ [(x, wr.heap.size + 1)]) → Zeros w w1 (M ++ [(x, wr.heap.size + 1)])) := fun v1 w1 hg _ => HZ.out.on (fun b hb hlt' => hg.block b hlt' (fun e => by
        obtain ⟨t, ht, rfl⟩ := List.mem_map.1 hb
        exact (HZ.out.c t ht).map (HR.out.notMap e.symm).1))
      have HW : Hid (V.alloc (.cells #[.slice b1 b2 b3, .string x.2, .map (some (wr.heap.size + 1))] 80) = ((wr.alloc (.cells #[.slice b1 b2 b3, .string x.2] 44)).alloc (.map #[] 0)).alloc (.cells #[.slice b1 b2 b3, .string x.2, .map (some (wr.heap.size + 1))] 80)) := by rw [Hid, hV]
      clear hrow hz hM hMl hbV hV hVs HZ hreq hL hx hB hAB
      go_wp2_with (at_builtin; rw [← HW.out]; go_must (refine row_append RWish.firm (A := A) (w0 := w) rfl _ _ 47 80 rfl _ 48 infoWish Tryd.underlying47 rfl (by decide) (by decide) _ _ rfl HR.out ⟨wr.heap.size + 1 + 1, 0, none⟩ 1 1 [.slice b1 b2 b3, .string x.2, .map (some (wr.heap.size + 1))] [(x, wr.heap.size + 1)] rfl rfl HCh.out HX.out (by simp [Value.oneCell']) HB3.out ?_); intro v1 w1 hrow1 hg1)
      have HRow1 : Hid (Row RWish 3 A w w1 80 v1 (M ++ [(x, wr.heap.size + 1)])) := hrow1
      have HZ1 := HNZ.out v1 w1 hg1 hrow1
      clear hrow1 hg1 HR HCh HX HB3 HNZ HW
      go_wp2_with fail
      go_roundw
      case rel => exact ⟨k + 1, M ++ [(x, wr.heap.size + 1)], by omega, by go_num, HRow1, HZ1, by rw [Hid, List.map_append]; exact HT.out⟩
      case measure => simp [intOf]; omega
    · obtain rfl : k = n := by omega
      have hMl : M.length = k := by have := congrArg List.length hM.out; rw [List.length_map, List.length_take, hlen.out, Nat.min_self] at this; exact this
      have hML : M.map Prod.fst = L := by rw [hM.out]; exact List.take_of_length_le (by rw [hlen.out]; exact Nat.le_refl _)
      obtain ⟨a', c', rfl, hs⟩ := hrow.out.slN (bytes := 48) RWish.firm (by rw [hMl]; omega)
      rw [hMl] at hs ⊢
      have HE : Hid (SlAt RWish 3 48 (fun b => A b ∨ (Fresh w b ∧ NotMap wr b)) wr a' k c' M ∧ M.map Prod.fst = L ∧ Zeros w wr M ∧ Below w.heap.size w wr) := ⟨hs, hML, hz.out, hbel⟩
      clear hs hML hz hrow hM hMl
      go_wp2_with fail
      go_ret
      exact ⟨a', c', M, rfl, HE.out⟩
end Go.Proofs.YtfnafgmengefaaaDoor
namespace Go.Proofs.YtfnafgmengefaaaDoor
open Go.RowKit Go.Maps
set_option linter.unusedSimpArgs false
set_option maxRecDepth 100000

/-- A tally: name, labels, terms near and apart with their maps' blocks, the map of others. -/
abbrev TalD := ByteArray × List Lab × List WishD × List WishD × Nat
abbrev tNear (T : TalD) : List WishD := T.2.2.1
abbrev tApart (T : TalD) : List WishD := T.2.2.2.1
abbrev tOth (T : TalD) : Nat := T.2.2.2.2
def RTally : Rep TalD := RPair RStr (RPair (RSl RLabel 2 32) (RPair (RSl RWish 3 48) (RPair (RSl RWish 3 48) RMap)))
theorem RTally.firm : Firm RTally 5 := Firm.pair RStr.firm (Firm.pair (RSl.firm RLabel.firm) (Firm.pair (RSl.firm RWish.firm) (Firm.pair (RSl.firm RWish.firm) RMap.firm)))
theorem RTally.out {A : Where} {w : World} {cs : List Value} {x : TalD} (h : RTally A w cs x) : ∃ h1 h2 h3 : Hd, cs = [.string x.1, .slice h1.1 h1.2.1 h1.2.2, .slice h2.1 h2.2.1 h2.2.2, .slice h3.1 h3.2.1 h3.2.2, .map (some x.2.2.2.2)] ∧ x.1.size ≤ 140737488355328 ∧ SlAt RLabel 2 32 A w h1.1 h1.2.1 h1.2.2 x.2.1 ∧ SlAt RWish 3 48 A w h2.1 h2.2.1 h2.2.2 x.2.2.1 ∧ SlAt RWish 3 48 A w h3.1 h3.2.1 h3.2.2 x.2.2.2.1 := by
  obtain ⟨c, d, rfl, ⟨rfl, h0⟩, c1, d1, rfl, ⟨a1, n1, m1, rfl, s1⟩, c2, d2, rfl, ⟨a2, n2, m2, rfl, s2⟩, c3, d3, rfl, ⟨a3, n3, m3, rfl, s3⟩, rfl⟩ := h
  exact ⟨(a1, n1, m1), (a2, n2, m2), (a3, n3, m3), rfl, h0, s1, s2, s3⟩
theorem RTally.mk {A : Where} {w : World} {x : TalD} {h1 h2 h3 : Hd} (p0 : x.1.size ≤ 140737488355328) (p1 : SlAt RLabel 2 32 A w h1.1 h1.2.1 h1.2.2 x.2.1) (p2 : SlAt RWish 3 48 A w h2.1 h2.2.1 h2.2.2 x.2.2.1) (p3 : SlAt RWish 3 48 A w h3.1 h3.2.1 h3.2.2 x.2.2.2.1) : RTally A w [.string x.1, .slice h1.1 h1.2.1 h1.2.2, .slice h2.1 h2.2.1 h2.2.2, .slice h3.1 h3.2.1 h3.2.2, .map (some x.2.2.2.2)] x :=
  ⟨_, _, rfl, ⟨rfl, p0⟩, _, _, rfl, ⟨_, _, _, rfl, p1⟩, _, _, rfl, ⟨_, _, _, rfl, p2⟩, _, _, rfl, ⟨_, _, _, rfl, p3⟩, rfl⟩
theorem sizeTal : (Tryd.prog.info? 51).map (·.size) = some 5 := by kernel_rfl
theorem sizePl : (Tryd.prog.info? 41).map (·.size) = some 17 := by kernel_rfl
theorem sizePo : (Tryd.prog.info? 33).map (·.size) = some 16 := by kernel_rfl
theorem sizeWi : (Tryd.prog.info? 80).map (·.size) = some 3 := by kernel_rfl
/-- The blocks of a tally's maps. -/
def mapsT (T : TalD) : List Nat := (tNear T ++ tApart T).map Prod.snd ++ [tOth T]
abbrev NM (T : TalD) : Where := fun b => b ∉ mapsT T
/-- The maps tell g of each term, and o of those that keep apart. -/
structure MapsAt (u : World) (T : TalD) (N : Nat) (g : TermD → Lab → Int) (o : Lab → Int) : Prop where
  c : ∀ t ∈ tNear T ++ tApart T, CntAt u t.2 N (g t.1)
  o : CntAt u (tOth T) N o
  n : (mapsT T).Nodup
theorem MapsAt.on {u u' : World} {T : TalD} {N : Nat} {g : TermD → Lab → Int} {o : Lab → Int} (h : MapsAt u T N g o) (hb : ∀ b, b ∈ mapsT T → b < u.heap.size → u'.heap[b]? = u.heap[b]?) : MapsAt u' T N g o :=
  ⟨fun t ht => (h.c t ht).same (hb t.2 (by unfold mapsT; exact List.mem_append.2 (.inl (List.mem_map.2 ⟨t, ht, rfl⟩))) (h.c t ht).lt), h.o.same (hb _ (by unfold mapsT; simp) h.o.lt), h.n⟩
theorem MapsAt.below {u u' : World} {T : TalD} {N : Nat} {g : TermD → Lab → Int} {o : Lab → Int} (h : MapsAt u T N g o) (hb : Below u.heap.size u u') : MapsAt u' T N g o := h.on (fun b _ hlt => hb.block b hlt)
theorem MapsAt.lt {u : World} {T : TalD} {N : Nat} {g : TermD → Lab → Int} {o : Lab → Int} (h : MapsAt u T N g o) {b : Nat} (hb : b ∈ mapsT T) : b < u.heap.size := by
  unfold mapsT at hb
  rcases List.mem_append.1 hb with hb | hb
  · obtain ⟨t, ht, rfl⟩ := List.mem_map.1 hb; exact (h.c t ht).lt
  · obtain rfl : b = tOth T := by simpa using hb
    exact h.o.lt
theorem MapsAt.isMap {u : World} {T : TalD} {N : Nat} {g : TermD → Lab → Int} {o : Lab → Int} (h : MapsAt u T N g o) {b : Nat} (hb : b ∈ mapsT T) : ¬ NotMap u b := by
  unfold mapsT at hb
  rcases List.mem_append.1 hb with hb | hb
  · obtain ⟨t, ht, rfl⟩ := List.mem_map.1 hb; exact (h.c t ht).map
  · obtain rfl : b = tOth T := by simpa using hb
    exact h.o.map
/-- What a tally of nothing is. -/
structure Tal0 (X : Where) (w u : World) (ts : List Value) (T : TalD) (p : PodD) : Prop where
  r : RTally (fun b => NM T b ∧ X b) u ts T
  n : T.1 = p.1
  l : T.2.1 = pLabs p
  a : (tNear T).map Prod.fst = pNear p
  b : (tApart T).map Prod.fst = pApart p
  m : MapsAt u T 0 (fun _ _ => 0) (fun _ => 0)
  f : ∀ b ∈ mapsT T, w.heap.size ≤ b
/-- Put together. -/
theorem tal0_mk {w u w1' w2' : World} {p : PodD} {a2 a10 a11 : Option Addr} {n2 m2 n10 m10 n11 m11 : Nat} {M1 M2 : List WishD} {ob : Nat} {u1 u2 : World}
    (hb : Below w.heap.size w u) (p0 : p.1.size ≤ 140737488355328) (s2 : SlAt RLabel 2 32 (fun b => b < w.heap.size) w a2 n2 m2 (pLabs p))
    (h1 : SlAt RWish 3 48 (fun b => b < w.heap.size ∨ (Fresh u1 b ∧ NotMap w1' b)) w1' a10 n10 m10 M1) (e1 : M1.map Prod.fst = pNear p) (z1 : Zeros u1 w1' M1) (b1 : Below w1'.heap.size w1' u) (f1 : w.heap.size ≤ u1.heap.size) (hbw1 : w.heap.size ≤ w1'.heap.size)
    (h2 : SlAt RWish 3 48 (fun b => b < w.heap.size ∨ (Fresh u2 b ∧ NotMap w2' b)) w2' a11 n11 m11 M2) (e2 : M2.map Prod.fst = pApart p) (z2 : Zeros u2 w2' M2) (b2 : Below w2'.heap.size w2' u) (f2 : w1'.heap.size ≤ u2.heap.size)
    (ho : CntAt u ob 0 (fun _ => 0)) (fo : w.heap.size ≤ ob) (d1 : ∀ b, u1.heap.size ≤ b → b < w1'.heap.size → b ≠ ob) (d2 : ∀ b, u2.heap.size ≤ b → b < w2'.heap.size → b ≠ ob) (X : Where) (x0 : ∀ b, b < w.heap.size → X b) (x1 : ∀ b, u1.heap.size ≤ b → X b) (x2 : ∀ b, u2.heap.size ≤ b → X b) :
    Tal0 X w u [.string p.1, .slice a2 n2 m2, .slice a10 n10 m10, .slice a11 n11 m11, .map (some ob)] (p.1, pLabs p, M1, M2, ob) p := by
  have Z1 : Zeros u1 u M1 := z1.on (fun b _ hlt => b1.block b hlt)
  have Z2 : Zeros u2 u M2 := z2.on (fun b _ hlt => b2.block b hlt)
  have hM : MapsAt u (p.1, pLabs p, M1, M2, ob) 0 (fun _ _ => 0) (fun _ => 0) := by
    refine ⟨fun t ht => ?_, ho, ?_⟩
    · rcases List.mem_append.1 ht with ht | ht
      · exact Z1.c t ht
      · exact Z2.c t ht
    · show (((M1 ++ M2).map Prod.snd) ++ [ob]).Nodup
      rw [List.map_append, List.nodup_append, List.nodup_append]
      refine ⟨⟨Z1.n, Z2.n, fun x hx y hy => ?_⟩, by simp, fun x hx y hy => ?_⟩
      · obtain ⟨t, ht, rfl⟩ := List.mem_map.1 hx
        obtain ⟨s, hs, rfl⟩ := List.mem_map.1 hy
        have := (z1.c t ht).lt
        have := z2.f s hs
        omega
      · obtain rfl : y = ob := by simpa using hy
        rcases List.mem_append.1 hx with hx | hx
        · obtain ⟨t, ht, rfl⟩ := List.mem_map.1 hx; exact d1 _ (z1.f t ht) (z1.c t ht).lt
        · obtain ⟨t, ht, rfl⟩ := List.mem_map.1 hx; exact d2 _ (z2.f t ht) (z2.c t ht).lt
  have hF : ∀ b ∈ mapsT (p.1, pLabs p, M1, M2, ob), w.heap.size ≤ b := fun b hb => by
    unfold mapsT at hb
    rcases List.mem_append.1 hb with hb | hb
    · obtain ⟨t, ht, rfl⟩ := List.mem_map.1 hb
      rcases List.mem_append.1 ht with ht | ht
      · exact Nat.le_trans f1 (z1.f t ht)
      · have h3 := z2.f t ht
        exact Nat.le_trans hbw1 (Nat.le_trans f2 h3)
    · obtain rfl : b = ob := by simpa using hb
      exact fo
  refine ⟨RTally.mk (x := (p.1, pLabs p, M1, M2, ob)) (h1 := (a2, n2, m2)) (h2 := (a10, n10, m10)) (h3 := (a11, n11, m11)) p0 ?_ ?_ ?_, rfl, rfl, e1, e2, hM, hF⟩
  · exact (s2.on RLabel.firm hb).weak RLabel.firm (fun b _ h => ⟨fun hm => by have := hF b hm; omega, x0 b h⟩)
  · refine SlAt.weak RWish.firm (A := fun b => b < w.heap.size ∨ (b < w1'.heap.size ∧ NotMap w1' b ∧ X b)) ((h1.weak RWish.firm (fun b hlt h => ?_)).on RWish.firm b1) (fun b _ h => ⟨fun hm => ?_, ?_⟩)
    · rcases h with h | h
      · exact .inl h
      · exact .inr ⟨hlt, h.2, x1 b h.1⟩
    · rcases h with h | h
      · have := hF b hm; omega
      · exact hM.isMap hm (fun es c he => h.2.1 es c (by rw [← b1.block b h.1]; exact he))
    · rcases h with h | h
      · exact x0 b h
      · exact h.2.2
  · refine SlAt.weak RWish.firm (A := fun b => b < w.heap.size ∨ (b < w2'.heap.size ∧ NotMap w2' b ∧ X b)) ((h2.weak RWish.firm (fun b hlt h => ?_)).on RWish.firm b2) (fun b _ h => ⟨fun hm => ?_, ?_⟩)
    · rcases h with h | h
      · exact .inl h
      · exact .inr ⟨hlt, h.2, x2 b h.1⟩
    · rcases h with h | h
      · have := hF b hm; omega
      · exact hM.isMap hm (fun es c he => h.2.1 es c (by rw [← b2.block b h.1]; exact he))
    · rcases h with h | h
      · exact x0 b h
      · exact h.2.2
theorem BoxL.notMap {u : World} {D : Nat} {c : Value} {cs : List Value} (h : BoxL u D (c :: cs)) : NotMap u D := fun es k hh => by
  have h1 := (h.2 0 c rfl).1
  simp [World.cell?, hh] at h1
/-- A tally stays while a variable that it does not lie in is written. -/
theorem Tal0.set {X : Where} {w u : World} {ts : List Value} {T : TalD} {p : PodD} (h : Tal0 X w u ts T p) {q : Addr} (hq : NotMap u q.block) (hX : ¬ X q.block) (v : Value) : Tal0 X w (u.setCell q v) ts T p :=
  ⟨RTally.firm.kept h.r (Kept.set (fun k => hX k.2) v), h.n, h.l, h.a, h.b, h.m.on (fun b hb _ => Below.heap_setCell u q v b (fun e => h.m.isMap hb (e ▸ hq))), h.f⟩
theorem Tal0.any {X : Where} {w u : World} {ts : List Value} {T : TalD} {p : PodD} (h : Tal0 X w u ts T p) : Tal0 (fun _ => True) w u ts T p :=
  ⟨RTally.firm.weak h.r (fun _ _ k => ⟨k.1, trivial⟩), h.n, h.l, h.a, h.b, h.m, h.f⟩
end Go.Proofs.YtfnafgmengefaaaDoor
namespace Go.Proofs.YtfnafgmengefaaaDoor
open Go.RowKit Go.Maps
set_option linter.unusedSimpArgs false
set_option maxRecDepth 100000

def TlS (D : Nat) (nm : ByteArray) (l2 l10 l11 : Value) (u : World) : Prop := u.cell? ⟨D, 0, none⟩ = some (.string nm) ∧ u.cell? ⟨D, 2, none⟩ = some l2 ∧ u.cell? ⟨D, 10, none⟩ = some l10 ∧ u.cell? ⟨D, 11, none⟩ = some l11
theorem cell_other {u : World} {p q : Addr} {v : Value} (h : q.block ≠ p.block) : (u.setCell p v).cell? q = u.cell? q := World.cell?_of_block (w := u) (Below.heap_setCell u p v q.block h)
set_option maxHeartbeats 8000000 in
theorem tallyOf_calls (cs : List Value) (A : Where) (p : PodD) (w : World) (h : Hid (RPod A w cs p)) (hn : (pNear p).length < 1000000000) (hm : (pApart p).length < 1000000000) : Calls Tryd.prog 19 #[.agg cs.toArray] w fun e w' => ∃ ts T, e = .returned (.agg ts.toArray) ∧ Tal0 (fun _ => True) w w' ts T p ∧ Below w.heap.size w w' := by
  have hpo : Hid (RPod (fun b => b < w.heap.size) w cs p) := RPod.firm.weak h.out (fun b hb _ => hb)
  clear h
  obtain ⟨⟨a2, n2, m2⟩, ⟨a6, n6, m6⟩, ⟨a7, n7, m7⟩, ⟨a8, n8, m8⟩, ⟨a9, n9, m9⟩, ⟨a10, n10, m10⟩, ⟨a11, n11, m11⟩, ⟨a12, n12, m12⟩, ⟨a13, n13, m13⟩, rfl, p0, s2, _, _, _, _, s10, s11, _, _, _, _⟩ := hpo.out.out
  simp only at p0 s2 s10 s11 ⊢
  have P0 : Hid (p.1.size ≤ 140737488355328) := p0
  have S2 : Hid (SlAt RLabel 2 32 (fun b => b < w.heap.size) w a2 n2 m2 (pLabs p)) := s2
  have S10 : Hid (SlAt RTerm 2 40 (fun b => b < w.heap.size) w a10 n10 m10 (pNear p)) := s10
  have S11 : Hid (SlAt RTerm 2 40 (fun b => b < w.heap.size) w a11 n11 m11 (pApart p)) := s11
  have hn10 : n10 < 1000000000 := by have : (pNear p).length = n10 := s10.1; omega
  have hn11 : n11 < 1000000000 := by have : (pApart p).length = n11 := s11.1; omega
  clear hpo p0 s2 s10 s11 hn hm
  have hmm := @run_makeMap Tryd.prog
  obtain ⟨W0, hW0⟩ : ∃ W, W = (w.alloc (.cells #[.string p.1, .int .i64 p.2.1, .slice a2 n2 m2, .int .i64 p.2.2.2.1.1, .int .i64 p.2.2.2.1.2.1, .int .i64 p.2.2.2.1.2.2, .slice a6 n6 m6, .slice a7 n7 m7, .slice a8 n8 m8, .slice a9 n9 m9, .slice a10 n10 m10, .slice a11 n11 m11, .slice a12 n12 m12, .slice a13 n13 m13, .string p.2.2.2.2.2.2.2.2.2.2.2.2.1, .string p.2.2.2.2.2.2.2.2.2.2.2.2.2] 33)).alloc (.cells #[.string ⟨#[]⟩, .slice none 0 0, .slice none 0 0, .slice none 0 0, .map none] 51) := ⟨_, rfl⟩
  have B0 : Below w.heap.size w W0 := by rw [hW0]; go_grown
  have q0 : BoxL W0 w.heap.size [.string p.1, .int .i64 p.2.1, .slice a2 n2 m2, .int .i64 p.2.2.2.1.1, .int .i64 p.2.2.2.1.2.1, .int .i64 p.2.2.2.1.2.2, .slice a6 n6 m6, .slice a7 n7 m7, .slice a8 n8 m8, .slice a9 n9 m9, .slice a10 n10 m10, .slice a11 n11 m11, .slice a12 n12 m12, .slice a13 n13 m13, .string p.2.2.2.2.2.2.2.2.2.2.2.2.1, .string p.2.2.2.2.2.2.2.2.2.2.2.2.2] := by rw [hW0]; exact (BoxL.new w 33 [.string p.1, .int .i64 p.2.1, .slice a2 n2 m2, .int .i64 p.2.2.2.1.1, .int .i64 p.2.2.2.1.2.1, .int .i64 p.2.2.2.1.2.2, .slice a6 n6 m6, .slice a7 n7 m7, .slice a8 n8 m8, .slice a9 n9 m9, .slice a10 n10 m10, .slice a11 n11 m11, .slice a12 n12 m12, .slice a13 n13 m13, .string p.2.2.2.2.2.2.2.2.2.2.2.2.1, .string p.2.2.2.2.2.2.2.2.2.2.2.2.2]).on ((Below.refl _ _).alloc (Nat.le_refl _) _)
  have q1 : BoxL W0 (w.heap.size + 1) [.string ⟨#[]⟩, .slice none 0 0, .slice none 0 0, .slice none 0 0, .map none] := by have h1 := BoxL.new (w.alloc (.cells #[.string p.1, .int .i64 p.2.1, .slice a2 n2 m2, .int .i64 p.2.2.2.1.1, .int .i64 p.2.2.2.1.2.1, .int .i64 p.2.2.2.1.2.2, .slice a6 n6 m6, .slice a7 n7 m7, .slice a8 n8 m8, .slice a9 n9 m9, .slice a10 n10 m10, .slice a11 n11 m11, .slice a12 n12 m12, .slice a13 n13 m13, .string p.2.2.2.2.2.2.2.2.2.2.2.2.1, .string p.2.2.2.2.2.2.2.2.2.2.2.2.2] 33)) 51 [.string ⟨#[]⟩, .slice none 0 0, .slice none 0 0, .slice none 0 0, .map none]; rw [hW0]; simpa using h1
  have HS : Hid (∀ u, Below W0.heap.size W0 u → TlS w.heap.size p.1 (.slice a2 n2 m2) (.slice a10 n10 m10) (.slice a11 n11 m11) u) := fun u hb => ⟨((q0.on hb).2 0 _ rfl).1, ((q0.on hb).2 2 _ rfl).1, ((q0.on hb).2 10 _ rfl).1, ((q0.on hb).2 11 _ rfl).1⟩
  have HQ : Hid (∀ u, Below W0.heap.size W0 u → BoxL u (w.heap.size + 1) [.string ⟨#[]⟩, .slice none 0 0, .slice none 0 0, .slice none 0 0, .map none]) := fun u hb => q1.on hb
  have HB0 : Hid (Below w.heap.size w W0) := B0
  have HC1 : Hid (∀ u, Below w.heap.size w u → Calls Tryd.prog 28 #[.slice a10 n10 m10] u fun e w' => ∃ a' c' M, e = .returned (.slice a' n10 c') ∧ SlAt RWish 3 48 (fun b => b < w.heap.size ∨ (Fresh u b ∧ NotMap w' b)) w' a' n10 c' M ∧ M.map Prod.fst = pNear p ∧ Zeros u w' M ∧ Below u.heap.size u w') := fun u hb => wishesOf_calls a10 n10 m10 _ (pNear p) u (S10.out.on RTerm.firm hb) (fun b hb' => Nat.lt_of_lt_of_le hb' hb.size) hn10
  have HC2 : Hid (∀ u, Below w.heap.size w u → Calls Tryd.prog 28 #[.slice a11 n11 m11] u fun e w' => ∃ a' c' M, e = .returned (.slice a' n11 c') ∧ SlAt RWish 3 48 (fun b => b < w.heap.size ∨ (Fresh u b ∧ NotMap w' b)) w' a' n11 c' M ∧ M.map Prod.fst = pApart p ∧ Zeros u w' M ∧ Below u.heap.size u w') := fun u hb => wishesOf_calls a11 n11 m11 _ (pApart p) u (S11.out.on RTerm.firm hb) (fun b hb' => Nat.lt_of_lt_of_le hb' hb.size) hn11
  have hsz : Hid (W0.heap.size = w.heap.size + 1 + 1) := by rw [Hid, hW0]; simp
  clear S10 S11 hn10 hn11 q0 q1 B0
  go_enter Tryd.func19, Tryd.ntmps19
  go_upto_region 1 with fail
  rw [← hW0]
  clear hW0
  refine t0 (TlS w.heap.size p.1 (.slice a2 n2 m2) (.slice a10 n10 m10) (.slice a11 n11 m11)) (HS.out _ (Below.refl _ _).drew) (fun hHeld => ?_)
  refine' tk 0 ?_ ?_; rotate_left
  · intro u ⟨_, _, _, _⟩; go_simp; try with_reducible rfl
  try go_frame
  refine' tk 1 ?_ ?_; rotate_left
  · intro u ⟨_, _, _, _⟩; go_simp; try with_reducible rfl
  try go_frame
  refine' tk 2 ?_ ?_; rotate_left
  · intro u ⟨_, _, _, _⟩; go_simp; try with_reducible rfl
  try go_frame
  refine' tk 3 ?_ ?_; rotate_left
  · intro u ⟨_, _, _, _⟩; go_simp; try with_reducible rfl
  try go_frame
  refine' tk 4 ?_ ?_; rotate_left
  · intro u ⟨_, _, _, _⟩; go_simp; try with_reducible rfl
  try go_frame
  refine' tk 5 ?_ ?_; rotate_left
  · intro u ⟨_, _, _, _⟩; go_simp; try with_reducible rfl
  try go_frame
  refine' tk 7 ?_ ?_; rotate_left
  · intro u ⟨_, _, _, _⟩; go_simp; try with_reducible rfl
  try go_frame
  refine' tk 8 ?_ ?_; rotate_left
  · intro u ⟨_, _, _, _⟩; go_simp; try with_reducible rfl
  try go_frame
  have hBd : Below W0.heap.size W0 W0.drew := (Below.refl _ _).drew
  have hBW0 : Below W0.heap.size W0 W0.drew := (Below.refl _ _).drew
  refine tb 6 10 (fun K hK => ?_) (fun K hK => ?_)
  ·
    go_simp
    refine (HC1.out _ (on2 HB0.out hBd)).mono ?_
    rintro e v1 ⟨a1', c1', M1, rfl, hs1, he1, hz1, hb1⟩
    have hBv1 := on2 hBd hb1
    go_wp2_with fail
    refine hK.out _ _ (HS.out _ hBv1) (fun hHeld2 => ?_)
    clear hK K hHeld; have hHeld := hHeld2; clear hHeld2
    try go_frame
    refine tb 9 10 (fun K hK => ?_) (fun K hK => ?_)
    ·
      go_simp
      refine (HC2.out _ (on2 HB0.out hBv1)).mono ?_
      rintro e v2 ⟨a2', c2', M2, rfl, hs2, he2, hz2, hb2⟩
      have hBv2 := on2 hBv1 hb2
      go_wp2_with fail
      refine hK.out _ _ (HS.out _ hBv2) (fun hHeld2 => ?_)
      clear hK K hHeld; have hHeld := hHeld2; clear hHeld2
      try go_frame
      refine tr 10 (fun K hK => ?_)
      go_simp
      have hBv3 : Below W0.heap.size W0 ((v2).alloc (.map #[] 0)) := hBv2.alloc (hBv2).size _
      refine hK.out _ _ (HS.out _ hBv3) (fun hHeld2 => ?_)
      clear hK K hHeld; have hHeld := hHeld2; clear hHeld2
      try go_frame
      have HT : Hid (Tal0 (fun b => b ≠ w.heap.size + 1) w (v2.alloc (.map #[] 0)) [.string p.1, .slice a2 n2 m2, .slice a1' n10 c1', .slice a2' n11 c2', .map (some (v2).heap.size)] (p.1, pLabs p, M1, M2, (v2).heap.size) p) := by
        have hz := hsz.out; have k1 := hb1.size; have k2 := hb2.size; have kd : W0.drew.heap.size = W0.heap.size := rfl; (try simp only [World.size_alloc] at k1 k2)
        exact tal0_mk (u1 := W0.drew) (u2 := v1) (w1' := v1) (w2' := v2) (on2 HB0.out hBv3) P0.out S2.out hs1 he1 hz1 (on2 hb2 ((Below.refl _ _).alloc (Nat.le_refl _) _)) (by (try simp only [World.size_alloc]); omega) (by omega) hs2 he2 hz2 ((Below.refl _ _).alloc (Nat.le_refl _) _) (Nat.le_refl _) (CntAt.made v2) (by (try simp only [World.size_alloc]); omega) (fun b h1 h2 => by (try simp only [World.size_alloc] at h1 ⊢); omega) (fun b h1 h2 => by (try simp only [World.size_alloc] at h1 ⊢); omega) _ (fun b h1 => by omega) (fun b h1 => by (try simp only [World.size_alloc] at h1); omega) (fun b h1 => by (try simp only [World.size_alloc] at h1); omega)
      obtain ⟨U, hU⟩ : ∃ U, U = (v2.alloc (.map #[] 0)) := ⟨_, rfl⟩
      have hq := HQ.out _ hBv3
      have hBU := hBv3
      rw [← hU] at HT hq hBU
      generalize hmo : (v2).heap.size = mo at HT
      refine' tk 11 ?_ ?_; rotate_left
      · intro u ⟨_, _, _, _⟩; go_simp; try with_reducible rfl
      try go_frame
      refine ts 12 (fun K hK => ?_)
      obtain ⟨c0, f0⟩ := hq.2 0 _ rfl
      obtain ⟨c1, f1⟩ := hq.2 1 _ rfl
      obtain ⟨c2, f2⟩ := hq.2 2 _ rfl
      obtain ⟨c3, f3⟩ := hq.2 3 _ rfl
      obtain ⟨c4, f4⟩ := hq.2 4 _ rfl
      rw [← hU]
      clear hU HC1 HC2
      simp only [hmo]
      go_simp
      have hnm := hq.notMap
      have HT5 := ((((HT.out.set (q := ⟨w.heap.size + 1, 0, none⟩) hnm (fun h => h rfl) (.string p.1)).set (q := ⟨w.heap.size + 1, 1, none⟩) ((hq.set 0 (.string p.1) (by simp)).notMap) (fun h => h rfl) (.slice a2 n2 m2)).set (q := ⟨w.heap.size + 1, 2, none⟩) (((hq.set 0 (.string p.1) (by simp)).set 1 (.slice a2 n2 m2) (by simp)).notMap) (fun h => h rfl) (.slice a1' n10 c1')).set (q := ⟨w.heap.size + 1, 3, none⟩) ((((hq.set 0 (.string p.1) (by simp)).set 1 (.slice a2 n2 m2) (by simp)).set 2 (.slice a1' n10 c1') (by simp)).notMap) (fun h => h rfl) (.slice a2' n11 c2')).set (q := ⟨w.heap.size + 1, 4, none⟩) (((((hq.set 0 (.string p.1) (by simp)).set 1 (.slice a2 n2 m2) (by simp)).set 2 (.slice a1' n10 c1') (by simp)).set 3 (.slice a2' n11 c2') (by simp)).notMap) (fun h => h rfl) (.map (some mo))
      have hq5 := ((((hq.set 0 (.string p.1) (by simp)).set 1 (.slice a2 n2 m2) (by simp)).set 2 (.slice a1' n10 c1') (by simp)).set 3 (.slice a2' n11 c2') (by simp)).set 4 (.map (some mo)) (by simp)
      have hBwU := on2 HB0.out hBU
      have HB5 := ((((hBwU.setCell (p := ⟨w.heap.size + 1, 0, none⟩) (Nat.le_succ _) (.string p.1)).setCell (p := ⟨w.heap.size + 1, 1, none⟩) (Nat.le_succ _) (.slice a2 n2 m2)).setCell (p := ⟨w.heap.size + 1, 2, none⟩) (Nat.le_succ _) (.slice a1' n10 c1')).setCell (p := ⟨w.heap.size + 1, 3, none⟩) (Nat.le_succ _) (.slice a2' n11 c2')).setCell (p := ⟨w.heap.size + 1, 4, none⟩) (Nat.le_succ _) (.map (some mo))
      have HS5 : ∀ j, ((((((U.setCell ⟨w.heap.size + 1, 0, none⟩ (.string p.1)).setCell ⟨w.heap.size + 1, 1, none⟩ (.slice a2 n2 m2)).setCell ⟨w.heap.size + 1, 2, none⟩ (.slice a1' n10 c1')).setCell ⟨w.heap.size + 1, 3, none⟩ (.slice a2' n11 c2')).setCell ⟨w.heap.size + 1, 4, none⟩ (.map (some mo))).cell? ⟨w.heap.size, j, none⟩) = U.cell? ⟨w.heap.size, j, none⟩ := fun j => (((((cell_other (by simp)).trans (cell_other (by simp))).trans (cell_other (by simp))).trans (cell_other (by simp))).trans (cell_other (by simp)))
      obtain ⟨V, hV⟩ : ∃ V, V = ((((U.setCell ⟨w.heap.size + 1, 0, none⟩ (.string p.1)).setCell ⟨w.heap.size + 1, 1, none⟩ (.slice a2 n2 m2)).setCell ⟨w.heap.size + 1, 2, none⟩ (.slice a1' n10 c1')).setCell ⟨w.heap.size + 1, 3, none⟩ (.slice a2' n11 c2')).setCell ⟨w.heap.size + 1, 4, none⟩ (.map (some mo)) := ⟨_, rfl⟩
      rw [← hV] at HT5 hq5 HB5 HS5 ⊢
      obtain ⟨t0, t1, t2, t3⟩ := HS.out _ hBU
      refine hK.out undef _ ⟨(HS5 0).trans t0, (HS5 2).trans t1, (HS5 10).trans t2, (HS5 11).trans t3⟩ (fun _ => ?_)
      clear hV HS5 t0 t1 t2 t3 hBwU hK K hHeld c0 c1 c2 c3 c4 f0 f1 f2 f3 f4 hmo
      refine tz ?_
      have z0 := (hq5.2 0 (.string p.1) rfl).1
      have z1 := (hq5.2 1 (.slice a2 n2 m2) rfl).1
      have z2 := (hq5.2 2 (.slice a1' n10 c1') rfl).1
      have z3 := (hq5.2 3 (.slice a2' n11 c2') rfl).1
      have z4 := (hq5.2 4 (.map (some mo)) rfl).1
      go_wp2_with fail
      refine bodyPost_ret (v := .agg #[.string p.1, .slice a2 n2 m2, .slice a1' n10 c1', .slice a2' n11 c2', .map (some mo)]) (by simp [results, Tryd.results19, go_sem, z0, z1, z2, z3, z4, Result.andThen]) rfl ⟨_, _, rfl, HT5.any, HB5⟩
    ·
      go_simp
      have hBv3 : Below W0.heap.size W0 ((v1).alloc (.map #[] 0)) := hBv1.alloc (hBv1).size _
      refine hK.out _ _ (HS.out _ hBv3) (fun hHeld2 => ?_)
      clear hK K hHeld; have hHeld := hHeld2; clear hHeld2
      try go_frame
      refine tr 9 (fun K hK => ?_)
      go_simp
      refine (HC2.out _ (on2 HB0.out hBv3)).mono ?_
      rintro e v2 ⟨a2', c2', M2, rfl, hs2, he2, hz2, hb2⟩
      have hBv2 := on2 hBv3 hb2
      go_wp2_with fail
      refine hK.out _ _ (HS.out _ hBv2) (fun hHeld2 => ?_)
      clear hK K hHeld; have hHeld := hHeld2; clear hHeld2
      try go_frame
      have HT : Hid (Tal0 (fun b => b ≠ w.heap.size + 1) w v2 [.string p.1, .slice a2 n2 m2, .slice a1' n10 c1', .slice a2' n11 c2', .map (some (v1).heap.size)] (p.1, pLabs p, M1, M2, (v1).heap.size) p) := by
        have hz := hsz.out; have k1 := hb1.size; have k2 := hb2.size; have kd : W0.drew.heap.size = W0.heap.size := rfl; (try simp only [World.size_alloc] at k1 k2)
        exact tal0_mk (u1 := W0.drew) (u2 := (v1.alloc (.map #[] 0))) (w1' := v1) (w2' := v2) (on2 HB0.out hBv2) P0.out S2.out hs1 he1 hz1 (on2 ((Below.refl _ _).alloc (Nat.le_refl _) _) hb2) (by (try simp only [World.size_alloc]); omega) (by omega) hs2 he2 hz2 (Below.refl _ _) (by simp) ((CntAt.made v1).on hb2) (by (try simp only [World.size_alloc]); omega) (fun b h1 h2 => by (try simp only [World.size_alloc] at h1 ⊢); omega) (fun b h1 h2 => by (try simp only [World.size_alloc] at h1 ⊢); omega) _ (fun b h1 => by omega) (fun b h1 => by (try simp only [World.size_alloc] at h1); omega) (fun b h1 => by (try simp only [World.size_alloc] at h1); omega)
      obtain ⟨U, hU⟩ : ∃ U, U = v2 := ⟨_, rfl⟩
      have hq := HQ.out _ hBv2
      have hBU := hBv2
      rw [← hU] at HT hq hBU
      generalize hmo : (v1).heap.size = mo at HT
      refine' tk 11 ?_ ?_; rotate_left
      · intro u ⟨_, _, _, _⟩; go_simp; try with_reducible rfl
      try go_frame
      refine ts 12 (fun K hK => ?_)
      obtain ⟨c0, f0⟩ := hq.2 0 _ rfl
      obtain ⟨c1, f1⟩ := hq.2 1 _ rfl
      obtain ⟨c2, f2⟩ := hq.2 2 _ rfl
      obtain ⟨c3, f3⟩ := hq.2 3 _ rfl
      obtain ⟨c4, f4⟩ := hq.2 4 _ rfl
      rw [← hU]
      clear hU HC1 HC2
      simp only [hmo]
      go_simp
      have hnm := hq.notMap
      have HT5 := ((((HT.out.set (q := ⟨w.heap.size + 1, 0, none⟩) hnm (fun h => h rfl) (.string p.1)).set (q := ⟨w.heap.size + 1, 1, none⟩) ((hq.set 0 (.string p.1) (by simp)).notMap) (fun h => h rfl) (.slice a2 n2 m2)).set (q := ⟨w.heap.size + 1, 2, none⟩) (((hq.set 0 (.string p.1) (by simp)).set 1 (.slice a2 n2 m2) (by simp)).notMap) (fun h => h rfl) (.slice a1' n10 c1')).set (q := ⟨w.heap.size + 1, 3, none⟩) ((((hq.set 0 (.string p.1) (by simp)).set 1 (.slice a2 n2 m2) (by simp)).set 2 (.slice a1' n10 c1') (by simp)).notMap) (fun h => h rfl) (.slice a2' n11 c2')).set (q := ⟨w.heap.size + 1, 4, none⟩) (((((hq.set 0 (.string p.1) (by simp)).set 1 (.slice a2 n2 m2) (by simp)).set 2 (.slice a1' n10 c1') (by simp)).set 3 (.slice a2' n11 c2') (by simp)).notMap) (fun h => h rfl) (.map (some mo))
      have hq5 := ((((hq.set 0 (.string p.1) (by simp)).set 1 (.slice a2 n2 m2) (by simp)).set 2 (.slice a1' n10 c1') (by simp)).set 3 (.slice a2' n11 c2') (by simp)).set 4 (.map (some mo)) (by simp)
      have hBwU := on2 HB0.out hBU
      have HB5 := ((((hBwU.setCell (p := ⟨w.heap.size + 1, 0, none⟩) (Nat.le_succ _) (.string p.1)).setCell (p := ⟨w.heap.size + 1, 1, none⟩) (Nat.le_succ _) (.slice a2 n2 m2)).setCell (p := ⟨w.heap.size + 1, 2, none⟩) (Nat.le_succ _) (.slice a1' n10 c1')).setCell (p := ⟨w.heap.size + 1, 3, none⟩) (Nat.le_succ _) (.slice a2' n11 c2')).setCell (p := ⟨w.heap.size + 1, 4, none⟩) (Nat.le_succ _) (.map (some mo))
      have HS5 : ∀ j, ((((((U.setCell ⟨w.heap.size + 1, 0, none⟩ (.string p.1)).setCell ⟨w.heap.size + 1, 1, none⟩ (.slice a2 n2 m2)).setCell ⟨w.heap.size + 1, 2, none⟩ (.slice a1' n10 c1')).setCell ⟨w.heap.size + 1, 3, none⟩ (.slice a2' n11 c2')).setCell ⟨w.heap.size + 1, 4, none⟩ (.map (some mo))).cell? ⟨w.heap.size, j, none⟩) = U.cell? ⟨w.heap.size, j, none⟩ := fun j => (((((cell_other (by simp)).trans (cell_other (by simp))).trans (cell_other (by simp))).trans (cell_other (by simp))).trans (cell_other (by simp)))
      obtain ⟨V, hV⟩ : ∃ V, V = ((((U.setCell ⟨w.heap.size + 1, 0, none⟩ (.string p.1)).setCell ⟨w.heap.size + 1, 1, none⟩ (.slice a2 n2 m2)).setCell ⟨w.heap.size + 1, 2, none⟩ (.slice a1' n10 c1')).setCell ⟨w.heap.size + 1, 3, none⟩ (.slice a2' n11 c2')).setCell ⟨w.heap.size + 1, 4, none⟩ (.map (some mo)) := ⟨_, rfl⟩
      rw [← hV] at HT5 hq5 HB5 HS5 ⊢
      obtain ⟨t0, t1, t2, t3⟩ := HS.out _ hBU
      refine hK.out undef _ ⟨(HS5 0).trans t0, (HS5 2).trans t1, (HS5 10).trans t2, (HS5 11).trans t3⟩ (fun _ => ?_)
      clear hV HS5 t0 t1 t2 t3 hBwU hK K hHeld c0 c1 c2 c3 c4 f0 f1 f2 f3 f4 hmo
      refine tz ?_
      have z0 := (hq5.2 0 (.string p.1) rfl).1
      have z1 := (hq5.2 1 (.slice a2 n2 m2) rfl).1
      have z2 := (hq5.2 2 (.slice a1' n10 c1') rfl).1
      have z3 := (hq5.2 3 (.slice a2' n11 c2') rfl).1
      have z4 := (hq5.2 4 (.map (some mo)) rfl).1
      go_wp2_with fail
      refine bodyPost_ret (v := .agg #[.string p.1, .slice a2 n2 m2, .slice a1' n10 c1', .slice a2' n11 c2', .map (some mo)]) (by simp [results, Tryd.results19, go_sem, z0, z1, z2, z3, z4, Result.andThen]) rfl ⟨_, _, rfl, HT5.any, HB5⟩
  ·
    go_simp
    have hBv3 : Below W0.heap.size W0 ((W0.drew).alloc (.map #[] 0)) := hBd.alloc (hBd).size _
    refine hK.out _ _ (HS.out _ hBv3) (fun hHeld2 => ?_)
    clear hK K hHeld; have hHeld := hHeld2; clear hHeld2
    try go_frame
    refine tr 6 (fun K hK => ?_)
    go_simp
    refine (HC1.out _ (on2 HB0.out hBv3)).mono ?_
    rintro e v1 ⟨a1', c1', M1, rfl, hs1, he1, hz1, hb1⟩
    have hBv1 := on2 hBv3 hb1
    go_wp2_with fail
    refine hK.out _ _ (HS.out _ hBv1) (fun hHeld2 => ?_)
    clear hK K hHeld; have hHeld := hHeld2; clear hHeld2
    try go_frame
    refine tr 9 (fun K hK => ?_)
    go_simp
    refine (HC2.out _ (on2 HB0.out hBv1)).mono ?_
    rintro e v2 ⟨a2', c2', M2, rfl, hs2, he2, hz2, hb2⟩
    have hBv2 := on2 hBv1 hb2
    go_wp2_with fail
    refine hK.out _ _ (HS.out _ hBv2) (fun hHeld2 => ?_)
    clear hK K hHeld; have hHeld := hHeld2; clear hHeld2
    try go_frame
    have HT : Hid (Tal0 (fun b => b ≠ w.heap.size + 1) w v2 [.string p.1, .slice a2 n2 m2, .slice a1' n10 c1', .slice a2' n11 c2', .map (some (W0).heap.size)] (p.1, pLabs p, M1, M2, (W0).heap.size) p) := by
      have hz := hsz.out; have k1 := hb1.size; have k2 := hb2.size; have kd : W0.drew.heap.size = W0.heap.size := rfl; (try simp only [World.size_alloc] at k1 k2)
      exact tal0_mk (u1 := (W0.drew.alloc (.map #[] 0))) (u2 := v1) (w1' := v1) (w2' := v2) (on2 HB0.out hBv2) P0.out S2.out hs1 he1 hz1 (hb2) (by (try simp only [World.size_alloc]); omega) (by omega) hs2 he2 hz2 (Below.refl _ _) (Nat.le_refl _) (((CntAt.made W0.drew).on hb1).on hb2) (by (try simp only [World.size_alloc]); omega) (fun b h1 h2 => by (try simp only [World.size_alloc] at h1 ⊢); omega) (fun b h1 h2 => by (try simp only [World.size_alloc] at h1 ⊢); omega) _ (fun b h1 => by omega) (fun b h1 => by (try simp only [World.size_alloc] at h1); omega) (fun b h1 => by (try simp only [World.size_alloc] at h1); omega)
    obtain ⟨U, hU⟩ : ∃ U, U = v2 := ⟨_, rfl⟩
    have hq := HQ.out _ hBv2
    have hBU := hBv2
    rw [← hU] at HT hq hBU
    generalize hmo : (W0).heap.size = mo at HT
    refine' tk 11 ?_ ?_; rotate_left
    · intro u ⟨_, _, _, _⟩; go_simp; try with_reducible rfl
    try go_frame
    refine ts 12 (fun K hK => ?_)
    obtain ⟨c0, f0⟩ := hq.2 0 _ rfl
    obtain ⟨c1, f1⟩ := hq.2 1 _ rfl
    obtain ⟨c2, f2⟩ := hq.2 2 _ rfl
    obtain ⟨c3, f3⟩ := hq.2 3 _ rfl
    obtain ⟨c4, f4⟩ := hq.2 4 _ rfl
    rw [← hU]
    clear hU HC1 HC2
    simp only [hmo]
    go_simp
    have hnm := hq.notMap
    have HT5 := ((((HT.out.set (q := ⟨w.heap.size + 1, 0, none⟩) hnm (fun h => h rfl) (.string p.1)).set (q := ⟨w.heap.size + 1, 1, none⟩) ((hq.set 0 (.string p.1) (by simp)).notMap) (fun h => h rfl) (.slice a2 n2 m2)).set (q := ⟨w.heap.size + 1, 2, none⟩) (((hq.set 0 (.string p.1) (by simp)).set 1 (.slice a2 n2 m2) (by simp)).notMap) (fun h => h rfl) (.slice a1' n10 c1')).set (q := ⟨w.heap.size + 1, 3, none⟩) ((((hq.set 0 (.string p.1) (by simp)).set 1 (.slice a2 n2 m2) (by simp)).set 2 (.slice a1' n10 c1') (by simp)).notMap) (fun h => h rfl) (.slice a2' n11 c2')).set (q := ⟨w.heap.size + 1, 4, none⟩) (((((hq.set 0 (.string p.1) (by simp)).set 1 (.slice a2 n2 m2) (by simp)).set 2 (.slice a1' n10 c1') (by simp)).set 3 (.slice a2' n11 c2') (by simp)).notMap) (fun h => h rfl) (.map (some mo))
    have hq5 := ((((hq.set 0 (.string p.1) (by simp)).set 1 (.slice a2 n2 m2) (by simp)).set 2 (.slice a1' n10 c1') (by simp)).set 3 (.slice a2' n11 c2') (by simp)).set 4 (.map (some mo)) (by simp)
    have hBwU := on2 HB0.out hBU
    have HB5 := ((((hBwU.setCell (p := ⟨w.heap.size + 1, 0, none⟩) (Nat.le_succ _) (.string p.1)).setCell (p := ⟨w.heap.size + 1, 1, none⟩) (Nat.le_succ _) (.slice a2 n2 m2)).setCell (p := ⟨w.heap.size + 1, 2, none⟩) (Nat.le_succ _) (.slice a1' n10 c1')).setCell (p := ⟨w.heap.size + 1, 3, none⟩) (Nat.le_succ _) (.slice a2' n11 c2')).setCell (p := ⟨w.heap.size + 1, 4, none⟩) (Nat.le_succ _) (.map (some mo))
    have HS5 : ∀ j, ((((((U.setCell ⟨w.heap.size + 1, 0, none⟩ (.string p.1)).setCell ⟨w.heap.size + 1, 1, none⟩ (.slice a2 n2 m2)).setCell ⟨w.heap.size + 1, 2, none⟩ (.slice a1' n10 c1')).setCell ⟨w.heap.size + 1, 3, none⟩ (.slice a2' n11 c2')).setCell ⟨w.heap.size + 1, 4, none⟩ (.map (some mo))).cell? ⟨w.heap.size, j, none⟩) = U.cell? ⟨w.heap.size, j, none⟩ := fun j => (((((cell_other (by simp)).trans (cell_other (by simp))).trans (cell_other (by simp))).trans (cell_other (by simp))).trans (cell_other (by simp)))
    obtain ⟨V, hV⟩ : ∃ V, V = ((((U.setCell ⟨w.heap.size + 1, 0, none⟩ (.string p.1)).setCell ⟨w.heap.size + 1, 1, none⟩ (.slice a2 n2 m2)).setCell ⟨w.heap.size + 1, 2, none⟩ (.slice a1' n10 c1')).setCell ⟨w.heap.size + 1, 3, none⟩ (.slice a2' n11 c2')).setCell ⟨w.heap.size + 1, 4, none⟩ (.map (some mo)) := ⟨_, rfl⟩
    rw [← hV] at HT5 hq5 HB5 HS5 ⊢
    obtain ⟨t0, t1, t2, t3⟩ := HS.out _ hBU
    refine hK.out undef _ ⟨(HS5 0).trans t0, (HS5 2).trans t1, (HS5 10).trans t2, (HS5 11).trans t3⟩ (fun _ => ?_)
    clear hV HS5 t0 t1 t2 t3 hBwU hK K hHeld c0 c1 c2 c3 c4 f0 f1 f2 f3 f4 hmo
    refine tz ?_
    have z0 := (hq5.2 0 (.string p.1) rfl).1
    have z1 := (hq5.2 1 (.slice a2 n2 m2) rfl).1
    have z2 := (hq5.2 2 (.slice a1' n10 c1') rfl).1
    have z3 := (hq5.2 3 (.slice a2' n11 c2') rfl).1
    have z4 := (hq5.2 4 (.map (some mo)) rfl).1
    go_wp2_with fail
    refine bodyPost_ret (v := .agg #[.string p.1, .slice a2 n2 m2, .slice a1' n10 c1', .slice a2' n11 c2', .map (some mo)]) (by simp [results, Tryd.results19, go_sem, z0, z1, z2, z3, z4, Result.andThen]) rfl ⟨_, _, rfl, HT5.any, HB5⟩
end Go.Proofs.YtfnafgmengefaaaDoor
