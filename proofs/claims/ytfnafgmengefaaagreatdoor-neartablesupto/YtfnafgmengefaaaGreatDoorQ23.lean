/- A table: Table.Add. Condition: the table and what is placed lie as is said of them. near.New makes a table; Table.Check asks it. Condition: the arguments lie as is said of them; few enough terms. The chapter's example works. Condition: the table of powers of ten is laid as the program's text lays it. -/
import Derived.Test.YtfnafgmengefaaaGreatDoorQ22
namespace Go.Proofs.YtfnafgmengefaaaGreatDoor
open Go.RowKit Go.Maps
set_option linter.unusedSimpArgs false
set_option maxRecDepth 100000

theorem law8s : Keyed Tryz.prog 9 := string_keyed Tryz.underlying9
theorem wrap64_sm8 {n : Int} (h0 : 0 ≤ n) (h1 : n < 9223372036854775808) : wrap64 n = n := by unfold wrap64; omega
/-- What a text reads as, as a key. -/
def kS (s : ByteArray) : Lit := .string s.data.toList
theorem kS_key {s : ByteArray} (h : s.size ≤ 140737488355328) : keyOf Tryz.prog 9 (.string s) = some (kS s) := WideMaps.keyOf_string_mk Tryz.underlying9 (Nat.le_trans h maxLen_is)
theorem kS_is (s : ByteArray) : WideAt.IsKeyLit (kS s) := by unfold kS; trivial
theorem kS_inj {s t : ByteArray} (h : kS s = kS t) : s = t := by
  unfold kS at h
  simp only [Lit.string.injEq] at h
  cases s; cases t
  simpa using h
/-- Which are placed: a map by what they have in common, that tells f of each text; at most n entries. -/
def PmAt (w : World) (pm n : Nat) (f : ByteArray → Int) : Prop := ∃ D : DataW Unit, w.ownsMap Tryz.prog 9 (plainElem Tryz.prog 3) pm n D ∧ (∀ s, D.atKey (kS s) (.lit (.int .i64 0)) = .lit (.int .i64 (f s))) ∧ ∀ s, 0 ≤ f s ∧ f s ≤ n
theorem PmAt.lt {w : World} {pm n : Nat} {f : ByteArray → Int} (h : PmAt w pm n f) : pm < w.heap.size := by obtain ⟨D, h, _⟩ := h; exact h.lt
theorem PmAt.same {w w' : World} {pm n : Nat} {f : ByteArray → Int} (h : PmAt w pm n f) (hb : w'.heap[pm]? = w.heap[pm]?) : PmAt w' pm n f := by
  obtain ⟨D, ⟨es, ck, h1, h2⟩, h3⟩ := h
  exact ⟨D, ⟨es, ck, hb.trans h1, h2⟩, h3⟩
theorem PmAt.on {w w' : World} {pm n : Nat} {f : ByteArray → Int} (h : PmAt w pm n f) (hb : Below w.heap.size w w') : PmAt w' pm n f := h.same (hb.block pm h.lt)
theorem PmAt.map {w : World} {pm n : Nat} {f : ByteArray → Int} (h : PmAt w pm n f) : ¬ NotMap w pm := by
  obtain ⟨D, ⟨es, ck, h1, _⟩, _⟩ := h
  exact fun k => k es ck h1
theorem PmAt.made (w : World) : PmAt (w.alloc (.map #[] 0)) w.heap.size 0 (fun _ => 0) := ⟨.map [], World.ownsMap_made _ _ _ _, fun _ => rfl, fun _ => by simp⟩
theorem PmAt.mono {w : World} {pm n n' : Nat} {f : ByteArray → Int} (h : PmAt w pm n f) (hn : n ≤ n') : PmAt w pm n' f := by obtain ⟨D, h, h2, h3⟩ := h; exact ⟨D, h.mono hn, h2, fun s => by have := h3 s; omega⟩
theorem PmAt.as {w : World} {pm n : Nat} {f g : ByteArray → Int} (h : PmAt w pm n f) (e : ∀ s, f s = g s) : PmAt w pm n g := by
  obtain rfl : f = g := funext e
  exact h
/-- How many of B are just like that. -/
def lkN (B : List PlacedD) (s : ByteArray) : Int := ((B.filter (fun y => sEq s (likeT y))).length : Nat)
theorem lkN_nil (s : ByteArray) : lkN [] s = 0 := rfl
theorem lkN_snoc (B : List PlacedD) (x : PlacedD) (s : ByteArray) : lkN (B ++ [x]) s = if sEq s (likeT x) = true then lkN B s + 1 else lkN B s := by
  unfold lkN
  rw [List.filter_append, List.length_append]
  cases h : sEq s (likeT x) <;> simp [h]
/-- The blocks of a table's maps. -/
abbrev mapsP (T : TalD) (pm : Nat) : Where := fun b => b ∈ mapsT T ∨ b = pm
abbrev NP (T : TalD) (pm : Nat) : Where := fun b => ¬ (b ∈ mapsT T ∨ b = pm)
theorem kept_np {T : TalD} {pm : Nat} {w wr : World} (h : Turns (mapsP T pm) w wr) : Kept (NP T pm) w wr := h.kept (fun _ ha _ hf => ha hf)
/-- A table of A, for a pod with the labels P. -/
structure TabAt (w : World) (tb : Nat) (T : TalD) (ts : List Value) (pm : Nat) (P : List Lab) (A : List PlacedD) (N n : Nat) : Prop where
  b : BoxL w tb (ts ++ [.map (some pm)])
  r : RTally (NP T pm) w ts T
  m : MapsAt w T N (fun t => cT t (othersN T.1 A)) (cO P (othersN T.1 A))
  p : PmAt w pm n (lkN A)
  d : pm ∉ mapsT T
  l : T.2.1 = P
theorem TabAt.tb {w : World} {tb : Nat} {T : TalD} {ts : List Value} {pm : Nat} {P : List Lab} {A : List PlacedD} {N n : Nat} (h : TabAt w tb T ts pm P A N n) : NP T pm tb := by
  have hl := RTally.firm.len h.r
  have hn : NotMap w tb := by
    obtain ⟨c, cs, rfl⟩ : ∃ c cs, ts = c :: cs := by
      cases ts with
      | nil => simp at hl
      | cons c cs => exact ⟨c, cs, rfl⟩
    exact (show BoxL w tb (c :: (cs ++ [.map (some pm)])) from h.b).notMap
  rintro (k | k)
  · exact h.m.isMap k hn
  · subst k; exact h.p.map hn
theorem TabAt.on {w w' : World} {tb : Nat} {T : TalD} {ts : List Value} {pm : Nat} {P : List Lab} {A : List PlacedD} {N n : Nat} (h : TabAt w tb T ts pm P A N n) (hb : Below w.heap.size w w') : TabAt w' tb T ts pm P A N n :=
  ⟨h.b.on hb, RTally.firm.kept h.r (Kept.below hb), h.m.below hb, h.p.on hb, h.d, h.l⟩
theorem PmAt.bound {w : World} {pm n : Nat} {f : ByteArray → Int} (h : PmAt w pm n f) (s : ByteArray) : 0 ≤ f s ∧ f s ≤ n := by obtain ⟨D, _, _, h3⟩ := h; exact h3 s
/-- 'm[s]', and 'm[s] = c'. -/
theorem PmAt.look {u : World} {pm n : Nat} {f : ByteArray → Int} (h : PmAt u pm n f) {s : ByteArray} (hs : s.size ≤ 140737488355328) : (Instr.lookup 96 (.map (some pm)) (.string s) false).run Tryz.prog u = .ok (.int .i64 (f s)) u := by
  obtain ⟨D, h, h2, _⟩ := h
  obtain ⟨c, h1, hat, _⟩ := h.lookup_int law8s Tryz.underlying96 Tryz.underlying3 (zeroI8 u) (kS_key hs)
  rw [h2 s] at hat
  obtain rfl : f s = c := by simpa using hat
  exact h1
theorem PmAt.put {u : World} {pm n : Nat} {f : ByteArray → Int} (h : PmAt u pm n f) (hn : n < 140737488355328) {s : ByteArray} (hs : s.size ≤ 140737488355328) {c : Int} (hc : 0 ≤ c ∧ c ≤ n + 1) : ∃ u', (Instr.mapUpdate 96 (.map (some pm)) (.string s) (.int .i64 c)).run Tryz.prog u = .ok () u' ∧ PmAt u' pm (n + 1) (fun t => if sEq t s = true then c else f t) ∧ u.grownBy u' (some pm) := by
  obtain ⟨D, h, h2, h5⟩ := h
  obtain ⟨u', h3, h4, h6⟩ := h.update law8s Tryz.underlying96 (Nat.lt_of_lt_of_le hn maxLen_is) (kS_key hs) (plainElem_int (H := Unit) Tryz.underlying3 (q := .i64) (a := c) (by have : c = IntKind.i64.wrap c := (by rw [IntWalk.i64_left]; exact (wrap64_sm8 (by omega) (by omega)).symm); rw [this, IntWalk.i64_left]; exact wrap64_wf _))
  refine ⟨u', h3, ⟨_, h4, fun t => ?_, fun t => ?_⟩, h6⟩
  · by_cases q : sEq t s = true
    · simp only [if_pos q]; rw [(sEq_iff _ _).1 q, atKey_put_same h.isMap (kS_is _)]
    · simp only [if_neg q]; rw [atKey_put_other (fun e => q ((sEq_iff _ _).2 (kS_inj e)))]
      exact h2 t
  · have := h5 t
    by_cases q : sEq t s = true
    · simp only [if_pos q]; omega
    · simp only [if_neg q]; omega
def AdS (tb D : Nat) (ts cs : List Value) (pm : Nat) (u : World) : Prop := BoxL u tb (ts ++ [.map (some pm)]) ∧ BoxL u D cs
set_option maxHeartbeats 8000000 in
theorem Add_calls {w : World} {tb : Nat} {T : TalD} {ts : List Value} {pm : Nat} {P : List Lab} {A : List PlacedD} {N n : Nat} {cs : List Value} {x : PlacedD} (hT' : Hid (TabAt w tb T ts pm P A N n)) (hx : Hid (RPlaced (NP T pm) w cs x)) (hok : okPod x.1) (htab : Hid (TB w.heap.size w)) (hl : (ePlaced x).length ≤ 70368744170000) (hN : N + 1 + (pApart x.1).length < 70368744177664) (hn : n < 140737488355328) :
    Calls Tryz.prog 16 #[.pointer (some ⟨tb, 0, none⟩), .agg cs.toArray] w fun e w' => e = .returned (.int .i64 0) ∧ TabAt w' tb T ts pm P (A ++ [x]) (N + 1 + (pApart x.1).length) (n + 1) ∧ Turns (mapsP T pm) w w' := by
  have hi17 : (Tryz.prog.info? 41).map (·.size) = some cs.length := by rw [RPlaced.firm.len hx.out]; exact sizePl
  obtain ⟨⟨a1, n1, m1⟩, ⟨a2, n2, m2⟩, ⟨a3, n3, m3⟩, hts, _, _, _, _⟩ := hT'.out.r.out
  simp only at hts
  subst hts
  have hi5 : (Tryz.prog.info? 66).map (·.size) = some ([.string T.1, .slice a1 n1 m1, .slice a2 n2 m2, .slice a3 n3 m3, .map (some T.2.2.2.2)] : List Value).length := sizeTal
  obtain ⟨W1, hW1⟩ : ∃ W, W = w.alloc (.cells cs.toArray 41) := ⟨_, rfl⟩
  have B1 : Below w.heap.size w W1 := by rw [hW1]; go_grown
  have qx : BoxL W1 w.heap.size cs := by rw [hW1]; exact BoxL.new w 41 cs
  have HT : Hid (TabAt W1 tb T [.string T.1, .slice a1 n1 m1, .slice a2 n2 m2, .slice a3 n3 m3, .map (some T.2.2.2.2)] pm P A N n) := hT'.out.on B1
  have HX : Hid (BoxL W1 w.heap.size cs ∧ RPlaced (NP T pm) W1 cs x ∧ Below w.heap.size w W1 ∧ w.heap.size < W1.heap.size) := ⟨qx, RPlaced.firm.kept hx.out (Kept.below B1), B1, qx.1⟩
  have HS : Hid (∀ u, Below W1.heap.size W1 u → AdS tb w.heap.size [.string T.1, .slice a1 n1 m1, .slice a2 n2 m2, .slice a3 n3 m3, .map (some T.2.2.2.2)] cs pm u) := fun u hb => ⟨HT.out.b.on hb, HX.out.1.on hb⟩
  have HTab : Hid (∀ u, Below w.heap.size w u → TB u.heap.size u) := fun u hb w' h => htab.out w' (on2 hb h)
  have hnl : NP T pm w.heap.size := fun k => by
    rcases k with k | k
    · exact absurd (hT'.out.m.lt k) (Nat.lt_irrefl _)
    · exact absurd hT'.out.p.lt (by rw [← k]; exact Nat.lt_irrefl _)
  have HNL : Hid (NP T pm w.heap.size) := hnl
  have c5 := (HT.out.b.2 5 (.map (some pm)) rfl).1
  clear hT' hx htab qx B1 hnl
  go_enter Tryz.func16, Tryz.ntmps16
  go_upto_region 1 with fail
  rw [← hW1]
  clear hW1
  go_wp2_with fail
  refine (made_some W1 tb pm c5).mono ?_
  rintro e w2 ⟨rfl, rfl⟩
  clear c5
  go_upto_region 3 with fail
  have hb0 : Below w2.heap.size w2 w2.drew := (Below.refl _ _).drew
  have HL := likeness_calls cs (NP T pm) x w2.drew (RPlaced.firm.kept HX.out.2.1 (Kept.below hb0)) hok (HTab.out w2.drew (on2 HX.out.2.2.1 hb0)) hl
  have hse : (likeT x).size = (ePlaced x).length := by show (ePlaced x).toArray.size = _; simp
  have hsl : (likeT x).size ≤ 140737488355328 := by omega
  have HLk : Hid (∀ s, (if sEq s (likeT x) = true then lkN A (likeT x) + 1 else lkN A s) = lkN (A ++ [x]) s) := fun s => by
    rw [lkN_snoc]
    by_cases q : sEq s (likeT x) = true
    · rw [if_pos q, if_pos q, (sEq_iff _ _).1 q]
    · rw [if_neg q, if_neg q]
  have hlb := HT.out.p.bound (likeT x)
  clear hse
  generalize likeT x = lk at HL hsl HLk hlb
  refine t0 (AdS tb w.heap.size [.string T.1, .slice a1 n1 m1, .slice a2 n2 m2, .slice a3 n3 m3, .map (some T.2.2.2.2)] cs pm) (HS.out _ hb0) (fun hHeld => ?_)
  refine' tk 0 ?_ ?_; rotate_left
  · intro u hu; clear hu; go_simp; try with_reducible rfl
  try go_frame
  refine' tk 1 ?_ ?_; rotate_left
  · intro u hu; clear hu; go_simp; try with_reducible rfl
  try go_frame
  refine' tk 2 ?_ ?_; rotate_left
  · intro u hu; clear hu; go_simp; try with_reducible rfl
  try go_frame
  refine' tk 3 ?_ ?_; rotate_left
  · intro u hu; have cp5 := (hu.1.2 5 (.map (some pm)) rfl).1; clear hu; go_simp; try with_reducible rfl
  try go_frame
  refine' tq 4 (.agg cs.toArray) ?_ ?_
  · exact yieldsIf_load_mid rfl 41 _ rfl w.heap.size 0 rfl cs _ (fun u hu => hu.2.range) Tryz.underlying41 rfl hi17
  try go_frame
  refine tr 5 (fun K hK => ?_)
  go_simp
  refine HL.mono ?_
  rintro e w4 ⟨rfl, hb4⟩
  have hb4' : Below w2.heap.size w2 w4 := on2 hb0 hb4
  go_wp2_with fail
  refine hK.out _ _ (HS.out _ hb4') (fun hHeld2 => ?_)
  clear hK K hHeld; have hHeld := hHeld2; clear hHeld2
  try go_frame
  have HT4 := HT.out.on hb4'
  have hlk := HT4.p.look hsl
  obtain ⟨w5, hup, hp5, hg5⟩ := HT4.p.put hn hsl (c := lkN A lk + 1) (by omega)
  have hwr : IntKind.i64.wrap (lkN A lk + 1) = lkN A lk + 1 := by rw [IntWalk.i64_left]; exact wrap64_sm8 (by omega) (by omega)
  generalize hcc : lkN A lk = c at hlk hup hp5 hwr HLk hlb
  refine tr 6 (fun K hK => ?_)
  go_simp
  refine hK.out _ _ (HS.out _ hb4') (fun hHeld2 => ?_)
  clear hK K hHeld; have hHeld := hHeld2; clear hHeld2
  try go_frame
  refine' tk 7 ?_ ?_; rotate_left
  · intro u hu; clear hu; go_simp; try with_reducible rfl
  try go_frame
  have hkb : Kept (NP T pm) w4 w5 := Kept.grown hg5 (fun k e h => h (.inr (by injection e with e; exact e.symm)))
  have HS5 : AdS tb w.heap.size [.string T.1, .slice a1 n1 m1, .slice a2 n2 m2, .slice a3 n3 m3, .map (some T.2.2.2.2)] cs pm w5 := ⟨(HS.out _ hb4').1.kept hkb HT4.tb, (HS.out _ hb4').2.kept hkb HNL.out⟩
  refine ts 8 (fun K hK => ?_)
  go_simp
  refine hK.out undef _ HS5 (fun _ => ?_)
  clear hK K hHeld hlk hup
  try go_frame
  refine tz ?_
  have HM5 : MapsAt w5 T N (fun t => cT t (othersN T.1 A)) (cO P (othersN T.1 A)) := HT4.m.on (fun b hb hlt => hg5.block b hlt (fun e => HT4.d (by injection e with e; exact e ▸ hb)))
  have hnm : RTally (NM T) w5 [.string T.1, .slice a1 n1 m1, .slice a2 n2 m2, .slice a3 n3 m3, .map (some T.2.2.2.2)] T := RTally.firm.weak (RTally.firm.kept HT4.r hkb) (fun b _ h k => h (.inl k))
  have hxm : RPlaced (NM T) w5 cs x := RPlaced.firm.weak (RPlaced.firm.kept (RPlaced.firm.kept HX.out.2.1 (Kept.below hb4')) hkb) (fun b _ h k => h (.inl k))
  have HM5d : MapsAt w5.drew T N (fun t => cT t (othersN T.1 A)) (cO P (othersN T.1 A)) := HM5.on (fun _ _ _ => rfl)
  have HTc := tcount_calls (w := w5.drew) (by_ := 1) HM5d (show RTally (NM T) w5.drew _ T from hnm) (show RPlaced (NM T) w5.drew cs x from hxm) hN (.inl rfl)
  rw [HT.out.l, cTo_snoc, cOo_snoc] at HTc
  have HFin : Hid (∀ u, MapsAt u T (N + 1 + (pApart x.1).length) (fun t => cT t (othersN T.1 (A ++ [x]))) (cO P (othersN T.1 (A ++ [x]))) → Turns (fun b => b ∈ mapsT T) w5.drew u → TabAt u tb T [.string T.1, .slice a1 n1 m1, .slice a2 n2 m2, .slice a3 n3 m3, .map (some T.2.2.2.2)] pm P (A ++ [x]) (N + 1 + (pApart x.1).length) (n + 1) ∧ Turns (mapsP T pm) w u) := fun u hm ht => by
    have k := kept_nm (T := T) (show Turns (fun b => b ∈ mapsT T) w5 u from ⟨ht.os, ht.tape, ht.output, ht.size, ht.block⟩)
    have k2 : Kept (NP T pm) w5 u := k.weak (fun b h hb => h (.inl hb))
    refine ⟨⟨HS5.1.kept k2 HT4.tb, RTally.firm.kept (RTally.firm.kept HT4.r hkb) k2, hm, (hp5.as HLk.out).same (ht.block pm hp5.lt HT4.d), HT4.d, HT4.l⟩, ?_⟩
    exact (((Turns.below HX.out.2.2.1).trans (Turns.below hb4')).trans (Turns.grown hg5 (fun b e => .inr (by injection e with e; exact e.symm)))).trans ((Turns.drew _ _).trans (ht.weak (fun b _ h => .inl h)))
  have HS5d : Hid (∀ u, MapsAt u T (N + 1 + (pApart x.1).length) (fun t => cT t (othersN T.1 (A ++ [x]))) (cO P (othersN T.1 (A ++ [x]))) → Turns (fun b => b ∈ mapsT T) w5.drew u → AdS tb w.heap.size [.string T.1, .slice a1 n1 m1, .slice a2 n2 m2, .slice a3 n3 m3, .map (some T.2.2.2.2)] cs pm u) := fun u hm ht => by
    have k := kept_nm (T := T) (show Turns (fun b => b ∈ mapsT T) w5 u from ⟨ht.os, ht.tape, ht.output, ht.size, ht.block⟩)
    exact ⟨HS5.1.kept (k.weak (fun b h hb => h (.inl hb))) HT4.tb, HS5.2.kept (k.weak (fun b h hb => h (.inl hb))) HNL.out⟩
  go_upto_region 4 with fail
  refine t0 (AdS tb w.heap.size [.string T.1, .slice a1 n1 m1, .slice a2 n2 m2, .slice a3 n3 m3, .map (some T.2.2.2.2)] cs pm) HS5 (fun hHeld => ?_)
  refine' tk 0 ?_ ?_; rotate_left
  · intro u hu; clear hu; go_simp; try with_reducible rfl
  try go_frame
  refine' tk 1 ?_ ?_; rotate_left
  · intro u hu; clear hu; go_simp; try with_reducible rfl
  try go_frame
  refine' tk 2 ?_ ?_; rotate_left
  · intro u hu; clear hu; go_simp; try with_reducible rfl
  try go_frame
  refine' tk 3 ?_ ?_; rotate_left
  · intro u hu; have cp0 := (hu.1.2 0 _ rfl).1; have cp1 := (hu.1.2 1 _ rfl).1; have cp2 := (hu.1.2 2 _ rfl).1; have cp3 := (hu.1.2 3 _ rfl).1; have cp4 := (hu.1.2 4 _ rfl).1; clear hu; go_simp; try with_reducible rfl
  try go_frame
  refine' tq 4 (.agg cs.toArray) ?_ ?_
  · exact yieldsIf_load_mid rfl 41 _ rfl w.heap.size 0 rfl cs _ (fun u hu => hu.2.range) Tryz.underlying41 rfl hi17
  try go_frame
  refine tr 5 (fun K hK => ?_)
  go_simp
  refine HTc.mono ?_
  rintro e w6 ⟨rfl, hm6, ht6⟩
  have HE := HFin.out w6 hm6 ht6
  go_wp2_with fail
  refine hK.out _ _ (HS5d.out w6 hm6 ht6) (fun _ => ?_)
  clear hK K hHeld
  try go_frame
  refine tz ?_
  have HE2 : Hid _ := HE
  clear HE hm6 ht6 HTc HFin HS5d HS5 HM5 HM5d hnm hxm hp5 hg5 hkb HT4
  go_wp2_with fail
  go_ret
  exact ⟨rfl, HE2.out⟩
end Go.Proofs.YtfnafgmengefaaaGreatDoor
namespace Go.Proofs.YtfnafgmengefaaaGreatDoor
open Go.RowKit Go.Maps
set_option linter.unusedSimpArgs false
set_option maxRecDepth 100000

/-- The tally's terms are the pod's. -/
def OfPod (T : TalD) (p : PodD) : Prop := T.1 = p.1 ∧ T.2.1 = pLabs p ∧ (tNear T).map Prod.fst = pNear p ∧ (tApart T).map Prod.fst = pApart p
set_option maxHeartbeats 4000000 in
theorem TCheck_calls {w : World} {tb : Nat} {T : TalD} {ts : List Value} {pm : Nat} {p : PodD} {A : List PlacedD} {N n : Nat} {A' : Where} (a : Option Addr) (m cap : Nat) (L : List Lab) (hT' : Hid (TabAt w tb T ts pm (pLabs p) A N n)) (hp : Hid (OfPod T p)) (hA : Hid (∀ x ∈ A, ∀ l ∈ x.2, okL l)) (hL : Hid (SlAt RLabel 2 32 A' w a m cap L)) :
    Calls Tryz.prog 20 #[.pointer (some ⟨tb, 0, none⟩), .slice a m cap] w fun e w' => e = .returned (.tuple #[.int .i64 (whyN (pLabs p) (pNear p) (pApart p) L (othersN p.1 A)), .int .i64 0]) ∧ Below w.heap.size w w' := by
  obtain ⟨⟨a1, n1, m1⟩, ⟨a2, n2, m2⟩, ⟨a3, n3, m3⟩, hts, _, _, s2, _⟩ := hT'.out.r.out
  simp only at hts s2
  subst hts
  have HW := twhy_calls (w := w) (fun t => eT t (othersN T.1 A)) (fun t ht => eT_iff (wish_ok s2 t ht) (fun x hx => hA.out x (others_mem hx))) a m cap L hT'.out.m hT'.out.r hL
  have hw1 : whyN (pLabs p) (pNear p) (pApart p) L (othersN T.1 A) = whyN (pLabs p) (pNear p) (pApart p) L (othersN p.1 A) := by rw [hp.out.1]
  rw [whyG_is T p L (othersN T.1 A) hp.out.2.1 hp.out.2.2.1 hp.out.2.2.2, hw1] at HW
  have c0 := (hT'.out.b.2 0 (.string T.1) rfl).1; have c1 := (hT'.out.b.2 1 (.slice a1 n1 m1) rfl).1; have c2 := (hT'.out.b.2 2 (.slice a2 n2 m2) rfl).1; have c3 := (hT'.out.b.2 3 (.slice a3 n3 m3) rfl).1; have c4 := (hT'.out.b.2 4 (.map (some T.2.2.2.2)) rfl).1; have c5 := (hT'.out.b.2 5 (.map (some pm)) rfl).1
  clear hT' hp hA hL s2 hw1
  generalize whyN (pLabs p) (pNear p) (pApart p) L (othersN p.1 A) = y at HW ⊢
  go_enter Tryz.func20, Tryz.ntmps20
  go_wp2_with fail
  refine (made_some w tb pm c5).mono ?_
  rintro e w2 ⟨rfl, rfl⟩
  go_wp2_with fail
  refine HW.mono ?_
  rintro e w3 ⟨rfl, hb3⟩
  have HB : Hid (Below w2.heap.size w2 w3) := hb3
  clear HW hb3 c0 c1 c2 c3 c4 c5
  go_wp2_with fail
  go_ret2
  exact ⟨rfl, HB.out⟩
set_option maxHeartbeats 8000000 in
theorem New_calls (cs : List Value) (A A'' : Where) (p : PodD) (b : Option Addr) (m capb : Nat) (Pl : List PlacedD) (w : World) (hp : Hid (RPod A w cs p)) (hP : Hid (SlAt RPlaced 17 320 A'' w b m capb Pl)) (hn : (pNear p).length < 1000000000) (hm : (pApart p).length < 1000000000) (hcost : cost Pl < 70368744177000) (hok : Hid (∀ x ∈ Pl, okPod x.1 ∧ (ePlaced x).length ≤ 70368744170000)) (htab : Hid (TB w.heap.size w)) :
    Calls Tryz.prog 13 #[.agg cs.toArray, .slice b m capb] w fun e w' => ∃ tb T ts pm, e = .returned (.pointer (some ⟨tb, 0, none⟩)) ∧ TabAt w' tb T ts pm (pLabs p) Pl (cost Pl) m ∧ OfPod T p ∧ (∀ b, mapsP T pm b → w.heap.size ≤ b) ∧ Below w.heap.size w w' := by
  have hiP : (Tryz.prog.info? 33).map (·.size) = some cs.length := by rw [RPod.firm.len hp.out]; exact sizePo
  obtain ⟨W1, hW1⟩ : ∃ W, W = w.alloc (.cells cs.toArray 33) := ⟨_, rfl⟩
  have B1 : Below w.heap.size w W1 := by rw [hW1]; go_grown
  have HR0 : Hid (W1.rangeAt w.heap.size 0 cs) := by rw [Hid, hW1]; exact (BoxL.new w 33 cs).range
  have HTo := tallyOf_calls cs A p W1 (RPod.firm.kept hp.out (Kept.below B1)) hn hm
  have HPw : Hid (SlAt RPlaced 17 320 (fun b => b < w.heap.size) w b m capb Pl) := hP.out.weak RPlaced.firm (fun b hb _ => hb)
  have hml : Hid (Pl.length = m) := hP.out.1
  have hmb : m < 140737488355328 := by have := hP.out.2.2.2.1; omega
  have HB1 : Hid (Below w.heap.size w W1) := B1
  have HTab : Hid (∀ u, Below w.heap.size w u → TB u.heap.size u) := fun u hb w' h => htab.out w' (on2 hb h)
  have hn9 : Hid ((pNear p).length < 1000000000 ∧ (pApart p).length < 1000000000) := ⟨hn, hm⟩
  have hmm := @run_makeMap Tryz.prog
  clear hp hP hn hm B1 htab
  go_enter Tryz.func13, Tryz.ntmps13
  go_upto_region 1 with fail
  rw [← hW1]
  clear hW1
  go_wp2_with (first | (refine wpList_load_mid rfl 33 _ rfl w.heap.size 0 rfl cs _ HR0.out Tryz.underlying33 rfl hiP ?_) | fail)
  refine HTo.mono ?_
  rintro e w2 ⟨ts0, T0, rfl, h0, hb2⟩
  clear HTo HR0 hiP
  have hlN : (tNear T0).length < 1000000000 := by have := congrArg List.length h0.a; rw [List.length_map] at this; rw [this]; exact hn9.out.1
  have hlA : (tApart T0).length < 1000000000 := by have := congrArg List.length h0.b; rw [List.length_map] at this; rw [this]; exact hn9.out.2
  have HCl := tclone_calls (w := w2) h0.m h0.r hlN hlA
  have hbw2 : Below w.heap.size w w2 := on2 HB1.out hb2
  have HO0 : Hid (OfPod T0 p ∧ Below w.heap.size w w2) := ⟨⟨h0.n, h0.l, h0.a, h0.b⟩, hbw2⟩
  clear h0 hb2 hbw2 hlN hlA
  go_wp2_with fail
  refine HCl.mono ?_
  clear HCl
  rintro e w3 ⟨ts, T, rfl, hC, hb3⟩
  obtain ⟨⟨a1, n1, m1⟩, ⟨a2, n2, m2⟩, ⟨a3, n3, m3⟩, hts, _, _, _, _⟩ := hC.r.out
  simp only at hts
  subst hts
  have bw3 : Below w.heap.size w w3 := on2 HO0.out.2 hb3
  have hof : OfPod T p := ⟨hC.n.trans HO0.out.1.1, hC.l.trans HO0.out.1.2.1, hC.a.trans HO0.out.1.2.2.1, hC.b.trans HO0.out.1.2.2.2⟩
  obtain ⟨W5, hW5⟩ : ∃ W, W = (w3.alloc (.map #[] 0)).alloc (.cells #[.string T.1, .slice a1 n1 m1, .slice a2 n2 m2, .slice a3 n3 m3, .map (some T.2.2.2.2), .map (some w3.heap.size)] 98) := ⟨_, rfl⟩
  have B5 : Below w3.heap.size w3 W5 := by rw [hW5]; go_grown
  have hTab0 : TabAt W5 (w3.heap.size + 1) T [.string T.1, .slice a1 n1 m1, .slice a2 n2 m2, .slice a3 n3 m3, .map (some T.2.2.2.2)] w3.heap.size (pLabs p) (Pl.take 0) (cost (Pl.take 0)) 0 := by
    refine ⟨?_, ?_, hC.m.below B5, ?_, fun k => absurd (hC.m.lt k) (Nat.lt_irrefl _), hof.2.1⟩
    · rw [hW5]; have h1 := BoxL.new (w3.alloc (.map #[] 0)) 98 ([.string T.1, .slice a1 n1 m1, .slice a2 n2 m2, .slice a3 n3 m3, .map (some T.2.2.2.2)] ++ [.map (some w3.heap.size)]); simpa using h1
    · exact RTally.firm.kept (RTally.firm.weak hC.r (fun b hb h k => by rcases k with k | k; exact h.1 k; omega)) (Kept.below B5)
    · rw [hW5]; exact ((PmAt.made w3).as (fun _ => rfl)).on ((Below.refl _ _).alloc (Nat.le_refl _) _)
  have hfm : ∀ b, mapsP T w3.heap.size b → w.heap.size ≤ b := fun b k => by
    rcases k with k | k
    · exact Nat.le_trans HO0.out.2.size (hC.f b k)
    · rw [k]; exact bw3.size
  have bw5 : Below w.heap.size w W5 := on2 bw3 B5
  have HRun : Hid (TabAt W5 (w3.heap.size + 1) T [.string T.1, .slice a1 n1 m1, .slice a2 n2 m2, .slice a3 n3 m3, .map (some T.2.2.2.2)] w3.heap.size (pLabs p) (Pl.take 0) (cost (Pl.take 0)) 0 ∧ Turns (mapsP T w3.heap.size) W5 W5) := ⟨hTab0, Turns.refl _ _⟩
  have HF : Hid ((∀ b, mapsP T w3.heap.size b → w.heap.size ≤ b) ∧ Below w.heap.size w W5 ∧ OfPod T p) := ⟨hfm, bw5, hof⟩
  have HPn : Hid (∀ u, Turns (mapsP T w3.heap.size) W5 u → SlAt RPlaced 17 320 (NP T w3.heap.size) u b m capb Pl ∧ Below w.heap.size w u) := fun u ht => ⟨((HPw.out.on RPlaced.firm bw5).weak RPlaced.firm (fun c _ h k => by have := hfm c k; omega)).kept RPlaced.firm (kept_np ht), Turns.behind bw5 (ht.weak (fun c _ h => hfm c h))⟩
  skip
  clear hC hTab0 hfm bw5 B5 bw3 hof HPw HO0 hb3
  go_upto_region 2 with fail
  rw [← hW5]
  clear hW5
  go_wp2_with fail
  go_loopw [16] (fun i wr => ∃ k : Nat, k ≤ m ∧ i = .int .i64 k ∧ Hid (TabAt wr (w3.heap.size + 1) T [.string T.1, .slice a1 n1 m1, .slice a2 n2 m2, .slice a3 n3 m3, .map (some T.2.2.2.2)] w3.heap.size (pLabs p) (Pl.take k) (cost (Pl.take k)) k ∧ Turns (mapsP T w3.heap.size) W5 wr)) (fun i _ => m - (intOf i).toNat)
  case atStart => exact ⟨0, Nat.zero_le _, rfl, HRun⟩
  case round =>
    obtain ⟨k, hk, rfl, hrun⟩ := hrel
    obtain ⟨k3, k4⟩ := HPn.out wr hrun.out.2
    by_cases hlt : k < m
    ·
      have hkl : k < Pl.length := by rw [hml.out]; exact hlt
      obtain ⟨B, off, rfl, hB, hAB, xs, hr, hv⟩ := k3.get hlt
      have hokx := hok.out _ (getD_mem10 hkl)
      have HT1 : Hid (Pl.take k ++ [Pl.getD k default] = Pl.take (k + 1)) := take_at8 hkl
      have hck := cost_take Pl (k + 1)
      rw [← HT1.out, cost_snoc] at hck
      have HT3 : Hid (cost (Pl.take (k + 1)) = cost (Pl.take k) + (1 + (pApart (Pl.getD k default).1).length)) := by rw [Hid, ← HT1.out]; exact cost_snoc _ _
      generalize Pl.getD k default = x at hr HT1 HT3 hck hokx
      have hl17 : xs.length = 17 := RPlaced.firm.len hr
      have hi17 : (Tryz.prog.info? 41).map (·.size) = some xs.length := by rw [hl17]; exact sizePl
      have hi17a : (Tryz.prog.info? 41).map (·.size) = some xs.toArray.size := by simpa using hi17
      have HO : Hid (xs.toArray.all (·.oneCell') = true) := all_oneCell_toArray (RPlaced.firm.one hr)
      have HV0 : Hid (wr.rangeAt B (off + k * 17) xs) := hv
      have HVz : Hid ((wr.alloc (.cells #[.string ⟨#[]⟩, .int .i64 0, .slice none 0 0, .int .i64 0, .int .i64 0, .int .i64 0, .slice none 0 0, .slice none 0 0, .slice none 0 0, .slice none 0 0, .slice none 0 0, .slice none 0 0, .slice none 0 0, .slice none 0 0, .string ⟨#[]⟩, .string ⟨#[]⟩, .slice none 0 0] 41)).rangeAt B (off + k * 17) xs) := fun j v hj => (((Below.refl _ wr).alloc (Nat.le_refl _) _).cell hB).trans (hv j v hj)
      obtain ⟨V, hV⟩ : ∃ V, V = (wr.alloc (.cells #[.string ⟨#[]⟩, .int .i64 0, .slice none 0 0, .int .i64 0, .int .i64 0, .int .i64 0, .slice none 0 0, .slice none 0 0, .slice none 0 0, .slice none 0 0, .slice none 0 0, .slice none 0 0, .slice none 0 0, .slice none 0 0, .string ⟨#[]⟩, .string ⟨#[]⟩, .slice none 0 0] 41)).setCells wr.heap.size 0 xs := ⟨_, rfl⟩
      have HTh : Hid ((wr.alloc (.cells #[.string ⟨#[]⟩, .int .i64 0, .slice none 0 0, .int .i64 0, .int .i64 0, .int .i64 0, .slice none 0 0, .slice none 0 0, .slice none 0 0, .slice none 0 0, .slice none 0 0, .slice none 0 0, .slice none 0 0, .slice none 0 0, .string ⟨#[]⟩, .string ⟨#[]⟩, .slice none 0 0] 41)).there wr.heap.size 0 xs.toArray.size) := by have e : xs.toArray.size = 17 := (by simp [hl17]); rw [Hid, e]; exact (BoxL.new wr 41 [.string ⟨#[]⟩, .int .i64 0, .slice none 0 0, .int .i64 0, .int .i64 0, .int .i64 0, .slice none 0 0, .slice none 0 0, .slice none 0 0, .slice none 0 0, .slice none 0 0, .slice none 0 0, .slice none 0 0, .slice none 0 0, .string ⟨#[]⟩, .string ⟨#[]⟩, .slice none 0 0]).there
      have bV : Below wr.heap.size wr V := by rw [hV]; exact below_setCells ((Below.refl _ _).alloc (Nat.le_refl _) _) (Nat.le_refl _)
      have qV : BoxL V wr.heap.size xs := by rw [hV]; exact box_over8 (BoxL.new wr 41 [.string ⟨#[]⟩, .int .i64 0, .slice none 0 0, .int .i64 0, .int .i64 0, .int .i64 0, .slice none 0 0, .slice none 0 0, .slice none 0 0, .slice none 0 0, .slice none 0 0, .slice none 0 0, .slice none 0 0, .slice none 0 0, .string ⟨#[]⟩, .string ⟨#[]⟩, .slice none 0 0]) (by rw [hl17]; rfl)
      have HWV : Hid (V = (wr.alloc (.cells #[.string ⟨#[]⟩, .int .i64 0, .slice none 0 0, .int .i64 0, .int .i64 0, .int .i64 0, .slice none 0 0, .slice none 0 0, .slice none 0 0, .slice none 0 0, .slice none 0 0, .slice none 0 0, .slice none 0 0, .slice none 0 0, .string ⟨#[]⟩, .string ⟨#[]⟩, .slice none 0 0] 41)).setCells wr.heap.size 0 xs.toArray.toList) := by rw [Hid, hV]
      have HA := Add_calls (w := V) (hrun.out.1.on bV) (RPlaced.firm.kept hr (Kept.below bV)) hokx.1 (HTab.out V (on2 k4 bV)) hokx.2 (by omega) (by omega)
      rw [HT1.out, show cost (Pl.take k) + 1 + (pApart x.1).length = cost (Pl.take (k + 1)) by rw [HT3.out]; omega] at HA
      have HTu : Hid (Turns (mapsP T w3.heap.size) W5 V) := hrun.out.2.trans (Turns.below bV)
      have HRV : Hid (V.rangeAt wr.heap.size 0 xs) := qV.range
      clear hr hv hrun k3 k4 bV qV hV HT1 HT3 hokx
      go_wp2_with (first | (refine wpList_load_mid rfl 41 _ rfl B (off + k * 17) rfl xs _ HV0.out Tryz.underlying41 rfl hi17 ?_) | (refine wpList_load_mid rfl 41 _ rfl B (off + k * 17) rfl xs _ HVz.out Tryz.underlying41 rfl hi17 ?_) | (refine wpList_store_mid rfl 41 _ _ rfl wr.heap.size 0 xs.toArray rfl rfl HTh.out hi17a HO.out ?_; refine wpl_w8 HWV.out ?_) | (refine wpList_load_mid rfl 41 _ rfl wr.heap.size 0 rfl xs _ HRV.out Tryz.underlying41 rfl hi17 ?_) | fail)
      refine HA.mono ?_
      rintro e w6 ⟨rfl, hm6, ht6⟩
      have HR6 : Hid (TabAt w6 (w3.heap.size + 1) T [.string T.1, .slice a1 n1 m1, .slice a2 n2 m2, .slice a3 n3 m3, .map (some T.2.2.2.2)] w3.heap.size (pLabs p) (Pl.take (k + 1)) (cost (Pl.take (k + 1))) (k + 1) ∧ Turns (mapsP T w3.heap.size) W5 w6) := ⟨hm6, HTu.out.trans ht6⟩
      clear HA hm6 ht6 HRV HVz HV0 HTh HO HWV HTu
      go_wp2_with fail
      go_roundw
      case rel => exact ⟨k + 1, by omega, by go_num, HR6⟩
      case measure => simp [intOf]; omega
    ·
      have htk : Pl.take k = Pl := List.take_of_length_le (by rw [hml.out]; omega)
      have hkm : k = m := by omega
      have HE : Hid (TabAt wr (w3.heap.size + 1) T [.string T.1, .slice a1 n1 m1, .slice a2 n2 m2, .slice a3 n3 m3, .map (some T.2.2.2.2)] w3.heap.size (pLabs p) Pl (cost Pl) m ∧ OfPod T p ∧ (∀ b, mapsP T w3.heap.size b → w.heap.size ≤ b) ∧ Below w.heap.size w wr) := by
        have h := hrun.out.1; rw [htk, hkm] at h; exact ⟨h, HF.out.2.2, HF.out.1, k4⟩
      clear hrun htk hkm k3 k4
      go_wp2_with fail
      go_ret
      exact ⟨_, T, _, _, rfl, HE.out⟩
end Go.Proofs.YtfnafgmengefaaaGreatDoor
namespace Go.Proofs.YtfnafgmengefaaaGreatDoor
open Go.RowKit Go.Maps
set_option linter.unusedSimpArgs false
set_option maxRecDepth 100000

abbrev appD : TermD := ([(⟨#[97, 112, 112]⟩, 1, [⟨#[120]⟩])], ⟨#[122, 111, 110, 101]⟩)
abbrev aPod : PodD := (⟨#[97]⟩, 0, [(⟨#[97, 112, 112]⟩, ⟨#[120]⟩)], (0, 0, 0), [], [], [], [], [], [], [], [], ⟨#[]⟩, ⟨#[]⟩)
abbrev aD : PlacedD := (aPod, [(⟨#[122, 111, 110, 101]⟩, ⟨#[49]⟩)])
abbrev pD : PodD := (⟨#[112]⟩, 0, [], (0, 0, 0), [], [], [], [], [appD], [], [], [], ⟨#[]⟩, ⟨#[]⟩)
abbrev qD : PodD := (⟨#[113]⟩, 0, [], (0, 0, 0), [], [], [], [], [], [appD], [], [], ⟨#[]⟩, ⟨#[]⟩)
theorem wk1 : nearP pD [(⟨#[122, 111, 110, 101]⟩, ⟨#[49]⟩)] [aD] = 0 := by decide +kernel
theorem wk2 : nearP pD [(⟨#[122, 111, 110, 101]⟩, ⟨#[50]⟩)] [aD] = 9 := by decide +kernel
theorem wk3 : nearP qD [(⟨#[122, 111, 110, 101]⟩, ⟨#[49]⟩)] [aD] = 10 := by decide +kernel
theorem wkc : cost [aD] < 70368744177000 := by decide
theorem wkl : (ePlaced aD).length ≤ 70368744170000 := by decide +kernel
theorem wko : okPod aD.1 := by
  refine ⟨?_, ?_, ?_, ?_, fun x h => ?_, fun x h => ?_, fun x h => ?_, fun x h => ?_, fun x h => ?_, fun x h => ?_, fun x h => ?_⟩
  · exact ⟨by decide, by decide⟩
  · exact ⟨by decide, by decide⟩
  · exact ⟨by decide, by decide⟩
  · exact ⟨by decide, by decide⟩
  all_goals cases h
/-- A list of one. -/
theorem sl_one {α : Type} [Inhabited α] {R : Rep α} {k bytes : Nat} {A : Where} {u : World} {B : Nat} {cs : List Value} {x : α} (hb : BoxL u B cs) (hr : R A u cs x) (hA : A B) (hby : bytes ≤ 140737488351232) : SlAt R k bytes A u (some ⟨B, 0, none⟩) 1 1 [x] := by
  refine ⟨rfl, Nat.le_refl _, (fun e => by cases e), by omega, fun _ => ⟨B, 0, rfl, hb.1, hA, fun i hi => ?_⟩⟩
  obtain rfl : i = 0 := by omega
  exact ⟨cs, hr, fun j v hj => by have := (hb.2 j v hj).1; simpa using this⟩
theorem zone_calls (v : ByteArray) (w : World) : Calls Tryz.prog 38 #[.string v] w fun e w' => e = .returned (.slice (some ⟨w.heap.size, 0, none⟩) 1 1) ∧ w' = w.alloc (.cells #[.string ⟨#[122, 111, 110, 101]⟩, .string v] 55) := by
  go_enter Tryz.func38, Tryz.ntmps38
  go_wp2
  go_ret
  exact ⟨rfl, rfl⟩
theorem zone_sl (v : ByteArray) (hv : v.size ≤ 140737488355328) (w : World) : Calls Tryz.prog 38 #[.string v] w fun e w' => e = .returned (.slice (some ⟨w.heap.size, 0, none⟩) 1 1) ∧ SlAt RLabel 2 32 (fun _ => True) w' (some ⟨w.heap.size, 0, none⟩) 1 1 [(⟨#[122, 111, 110, 101]⟩, v)] ∧ Below w.heap.size w w' := by
  refine (zone_calls v w).mono ?_
  rintro e w' ⟨rfl, rfl⟩
  exact ⟨rfl, sl_one (BoxL.new w 55 [.string ⟨#[122, 111, 110, 101]⟩, .string v]) (RLabel.mk (x := (⟨#[122, 111, 110, 101]⟩, v)) (show (4 : Nat) ≤ 140737488355328 by decide) hv) trivial (by decide), (Below.refl _ w).alloc (Nat.le_refl _) _⟩
set_option maxHeartbeats 4000000 in
theorem app_calls (w : World) : Calls Tryz.prog 39 #[] w fun e w' => ∃ r, e = .returned (.agg #[.slice (some ⟨r, 0, none⟩) 1 1, .string ⟨#[122, 111, 110, 101]⟩]) ∧ RTerm (fun _ => True) w' [.slice (some ⟨r, 0, none⟩) 1 1, .string ⟨#[122, 111, 110, 101]⟩] appD ∧ Below w.heap.size w w' := by
  obtain ⟨U, hU⟩ : ∃ U, U = ((w.alloc (.cells #[.slice (some ⟨w.heap.size + 1 + 1, 0, none⟩) 1 1, .string ⟨#[122, 111, 110, 101]⟩] 80)).alloc (.cells #[.string ⟨#[120]⟩] 9)).alloc (.cells #[.string ⟨#[97, 112, 112]⟩, .int .i64 1, .slice (some ⟨w.heap.size + 1, 0, none⟩) 1 1] 108) := ⟨_, rfl⟩
  have hb : Below w.heap.size w U := by rw [hU]; go_grown
  have q0 : BoxL U w.heap.size [.slice (some ⟨w.heap.size + 1 + 1, 0, none⟩) 1 1, .string ⟨#[122, 111, 110, 101]⟩] := by rw [hU]; exact ((BoxL.new w 80 _).on ((Below.refl _ _).alloc (Nat.le_refl _) _)).on ((Below.refl _ _).alloc (Nat.le_refl _) _)
  have q1 : BoxL U (w.heap.size + 1) [.string ⟨#[120]⟩] := by rw [hU]; have h1 := (BoxL.new (w.alloc (.cells #[.slice (some ⟨w.heap.size + 1 + 1, 0, none⟩) 1 1, .string ⟨#[122, 111, 110, 101]⟩] 80)) 9 [.string ⟨#[120]⟩]).on ((Below.refl _ _).alloc (Nat.le_refl _) (.cells #[.string ⟨#[97, 112, 112]⟩, .int .i64 1, .slice (some ⟨w.heap.size + 1, 0, none⟩) 1 1] 108)); simpa using h1
  have q2 : BoxL U (w.heap.size + 1 + 1) [.string ⟨#[97, 112, 112]⟩, .int .i64 1, .slice (some ⟨w.heap.size + 1, 0, none⟩) 1 1] := by rw [hU]; have h1 := BoxL.new ((w.alloc (.cells #[.slice (some ⟨w.heap.size + 1 + 1, 0, none⟩) 1 1, .string ⟨#[122, 111, 110, 101]⟩] 80)).alloc (.cells #[.string ⟨#[120]⟩] 9)) 108 [.string ⟨#[97, 112, 112]⟩, .int .i64 1, .slice (some ⟨w.heap.size + 1, 0, none⟩) 1 1]; simpa using h1
  have hT : RTerm (fun _ => True) U [.slice (some ⟨w.heap.size + 1 + 1, 0, none⟩) 1 1, .string ⟨#[122, 111, 110, 101]⟩] appD := RTerm.mk (x := appD) (h0 := (some ⟨w.heap.size + 1 + 1, 0, none⟩, 1, 1)) (sl_one q2 (RReq.mk (x := (⟨#[97, 112, 112]⟩, 1, [⟨#[120]⟩])) (h2 := (some ⟨w.heap.size + 1, 0, none⟩, 1, 1)) (show (3 : Nat) ≤ 140737488355328 by decide) (sl_one q1 ⟨rfl, show (1 : Nat) ≤ 140737488355328 by decide⟩ trivial (by decide))) trivial (by decide)) (show (4 : Nat) ≤ 140737488355328 by decide)
  have HT : Hid (RTerm (fun _ => True) U [.slice (some ⟨w.heap.size + 1 + 1, 0, none⟩) 1 1, .string ⟨#[122, 111, 110, 101]⟩] appD ∧ Below w.heap.size w U) := ⟨hT, hb⟩
  have z0 := (q0.2 0 (.slice (some ⟨w.heap.size + 1 + 1, 0, none⟩) 1 1) rfl).1
  have z1 := (q0.2 1 (.string ⟨#[122, 111, 110, 101]⟩) rfl).1
  have HU : Hid (U = ((w.alloc (.cells #[.slice (some ⟨w.heap.size + 1 + 1, 0, none⟩) 1 1, .string ⟨#[122, 111, 110, 101]⟩] 80)).alloc (.cells #[.string ⟨#[120]⟩] 9)).alloc (.cells #[.string ⟨#[97, 112, 112]⟩, .int .i64 1, .slice (some ⟨w.heap.size + 1, 0, none⟩) 1 1] 108)) := hU
  clear hT hU q0 q1 q2 hb
  go_enter Tryz.func39, Tryz.ntmps39
  go_wp2_with fail
  rw [← HU.out]
  refine bodyPost_ret (v := .agg #[.slice (some ⟨w.heap.size + 1 + 1, 0, none⟩) 1 1, .string ⟨#[122, 111, 110, 101]⟩]) (by simp [results, Tryz.results39, go_sem, z0, z1, Result.andThen]) rfl ⟨_, rfl, HT.out⟩
end Go.Proofs.YtfnafgmengefaaaGreatDoor
