/- The queue: an entry is put. Condition: the queue lies as is said of it; no entry has its name. Structs that lie in memory, whatever their cells: read and written whole; results that are structs; what stays. Plain laws of the model's worlds. No condition. The queue: an entry is taken out, or shifted to another place. Condition: the queue lies as is said of it. The queue: New, and how long one backs off. No condition. -/
import Derived.Test.YtpombhiffpbedaaQ12
import Derived.Test.YtpombhiffpbedaaQ13
import Derived.Test.YtpombhiffpbedaaQ03
import Derived.Deep.MidRow
namespace Go.Proofs.Ytpombhiffpbedaa
open Go.RowKit Go.Maps
set_option linter.unusedSimpArgs false
set_option maxRecDepth 100000

theorem upd_wp {o : Oper} {a : Act} {K : Act → World → Prop} {Q : Exit → Act → World → Prop} {w u' : World} {mb : Nat} {kv zv : Value} (m k z : Operand) (t : TypeId) (hop : o.op = Op.mapUpdate t m k z) (hm : a.eval m = .map (some mb)) (hk : a.eval k = kv) (hz : a.eval z = zv)
    (hrun : (Instr.mapUpdate t (.map (some mb)) kv zv).run Try.prog w = .ok () u') (hK : K (a.put o.dst undef) u') : o.wp Try.prog a w K Q := by
  unfold Oper.wp
  simp [execOp, hop, hm, hk, hz, hrun, Result.andThen]
  exact hK
theorem want_yesY {c : Prop} [Decidable c] {A B : Prop} (h : c) (k : A) : if c then A else B := by rw [if_pos h]; exact k
theorem rdy_hasK {S : List EnD} {s : ByteArray} (h : fndG enN S s = none) : hasK (rdyY S) s.toList = false := by
  unfold hasK rdyY
  rw [List.any_eq_false]
  intro x hx e
  obtain ⟨y, hy, rfl⟩ := List.mem_map.1 hx
  have hy := (List.mem_filter.1 hy).1
  exact fndG_none h y hy ((sEq_iff _ _).1 e)
theorem rdy_snoc (S : List EnD) (x : WtD) : rdyY (S ++ [(x, 1)]) = rdyY S ++ [itY x] := by
  unfold rdyY
  rw [List.filter_append, List.map_append]
  rfl
theorem rdy_snocN (S : List EnD) (x : WtD) {pl : Int} (h : pl ≠ 1) : rdyY (S ++ [(x, pl)]) = rdyY S := by
  unfold rdyY
  rw [List.filter_append, List.map_append]
  simp [h]
theorem othG_none {α : Type} {key : α → ByteArray} {S : List α} {s : ByteArray} (h : fndG key S s = none) : othG key s S = S := by
  unfold othG
  rw [List.filter_eq_self]
  intro x hx
  cases e : sEq (key x) s with
  | true => exact absurd ((sEq_iff _ _).1 e) (fndG_none h x hx)
  | false => rfl
theorem put_perm {A A' : List It} {S : List EnD} {x : WtD} (h : A.Perm (rdyY S)) (hn : fndG enN S x.1 = none) (k : A'.Perm (putK A (itY x))) : A'.Perm (rdyY (S ++ [(x, 1)])) := by
  rw [rdy_snoc]
  have e : hasK A (itY x).1.toList = false := by rw [hasK_perm h]; exact rdy_hasK hn
  unfold putK at k
  rw [dropK_none e] at k
  exact k.trans (h.append_right _)
set_option maxHeartbeats 16000000 in
theorem yput_calls {F : Where} {u : World} {p : Nat} {S : List EnD} {n : Int} {Ws : List WiD} (h : QA F u p S n Ws) (hF : ∀ b, u.heap.size ≤ b → F b) (x : WtD) (pl : Int) (hx : okE (x, pl)) (hn : fndG enN S x.1 = none) (hl : S.length < 1000000000) :
    Calls Try.prog 24 #[.pointer (some ⟨p, 0, none⟩), .agg (wtC x).toArray, .int .i64 pl] u fun e w' => e = .returned (.tuple #[]) ∧ QA F w' p (S ++ [(x, pl)]) n Ws ∧ Turns F u w' := by
  obtain ⟨hb, sb, nb, A, h⟩ := h
  obtain ⟨W1, hW1⟩ : ∃ Z, Z = u.alloc (.cells (wtC x).toArray 28) := ⟨_, rfl⟩
  have b1 : Below u.heap.size u W1 := by rw [hW1]; exact (Below.refl _ _).alloc (Nat.le_refl _) _
  have q1 : BoxL W1 u.heap.size (wtC x) := by rw [hW1]; exact BoxL.new u 28 (wtC x)
  have hxs := hx.1
  have hxe := hx.2.1
  have HE : Hid (okE (x, pl)) := hx
  have h1 := (h.weak (G := fun b => F b ∧ b ≠ u.heap.size) (fun b hb hf => ⟨hf, by omega⟩)).on b1
  have HC : Hid (∀ z, Below W1.heap.size W1 z → z.cell? ⟨p, 1, none⟩ = some (.map (some sb)) ∧ z.cell? ⟨u.heap.size, 0, none⟩ = some (.string x.1) ∧ z.rangeAt u.heap.size 0 (wtC x)) := fun z hz => ⟨(h1.on hz).c1, ((q1.on hz).2 0 _ rfl).1, (q1.on hz).range⟩
  have H1 : Hid (QF (fun b => F b ∧ b ≠ u.heap.size) W1 p hb sb nb A S n Ws ∧ BoxL W1 u.heap.size (wtC x) ∧ Turns F u W1 ∧ u.heap.size < W1.heap.size ∧ p < u.heap.size ∧ sb < u.heap.size ∧ nb < u.heap.size) := ⟨h1, q1, Turns.below b1, q1.1, h.lt, h.spots.lt, h.hopes.lt⟩
  have HF : Hid (∀ b, u.heap.size ≤ b → F b) := hF
  have HW1 : Hid (u.alloc (.cells (wtC x).toArray 28) = W1) := hW1.symm
  have HLn : Hid (A.length < 1000000000000) := by
    have e1 := h.pm.length_eq
    have e2 : (rdyY S).length ≤ S.length := by unfold rdyY; rw [List.length_map]; exact List.length_filter_le _ _
    rw [Hid]; omega
  clear hW1 b1 q1 h h1 hF hx
  go_enter Try.func24, Try.ntmps24
  go_upto_region 1 with fail
  rw [HW1.out]
  --M1
  have hb0 : Below W1.heap.size W1 W1.drew := (Below.refl _ _).drew
  refine u0 9 (fun z => Below W1.heap.size W1 z) hb0 (fun hHeld => ?_)
  generalize hwd : W1.drew = wd at hHeld ⊢
  clear hwd hb0
  try go_frame
  refine' uk 0 ?_ ?_; rotate_left
  · intro z hz; obtain ⟨_, _, f2⟩ := HC.out z hz; clear hz; go_simp; try with_reducible rfl
  try go_frame
  refine' uk 1 ?_ ?_; rotate_left
  · intro z hz; obtain ⟨_, _, f2⟩ := HC.out z hz; clear hz; go_simp; try with_reducible rfl
  try go_frame
  refine' uk 2 ?_ ?_; rotate_left
  · intro z hz; obtain ⟨_, _, f2⟩ := HC.out z hz; clear hz; go_simp; try with_reducible rfl
  try go_frame
  refine' uk 3 ?_ ?_; rotate_left
  · intro z hz; obtain ⟨_, _, f2⟩ := HC.out z hz; clear hz; go_simp; try with_reducible rfl
  try go_frame
  refine' uk 4 ?_ ?_; rotate_left
  · intro z hz; obtain ⟨_, _, f2⟩ := HC.out z hz; clear hz; go_simp; try with_reducible rfl
  try go_frame
  refine' uk 5 ?_ ?_; rotate_left
  · intro z hz; obtain ⟨_, _, f2⟩ := HC.out z hz; clear hz; go_simp; try with_reducible rfl
  try go_frame
  refine' uk 6 ?_ ?_; rotate_left
  · intro z hz; obtain ⟨_, _, f2⟩ := HC.out z hz; clear hz; go_simp; try with_reducible rfl
  try go_frame
  refine uq 7 (.agg (wtC x).toArray) (yieldsIf_load_mid (by rfl) 28 _ rfl u.heap.size 0 (by go_simp) (wtC x) _ (fun z hz => (HC.out z hz).2.2) Try.underlying28 rfl (by kernel_rfl)) ?_ (hi := rfl)
  try go_frame
  refine' uk 8 ?_ ?_; rotate_left
  · intro z hz; obtain ⟨_, _, f2⟩ := HC.out z hz; clear hz; go_simp; try with_reducible rfl
  try go_frame
  refine uz 9 (fun K hK => ?_)
  obtain ⟨w2, hrun, hm2, ht2⟩ := (H1.out.1.on hHeld).spots.put 55 70 Try.underlying55 (x, pl) hxs (by omega)
  rw [othG_none hn] at hm2
  refine want_yesY (by rfl) (upd_wp (.tmp 9) (.tmp 11) (.tmp 14) 55 rfl (by simp [Act.eval, Act.put]) (by simp [Act.eval, Act.put]) (by simp [Act.eval, Act.put]) hrun ?_)
  refine hK.out _ (NoPanic.normal ?_)
  have G2 : Hid (QG (fun b => F b ∧ b ≠ u.heap.size) w2 p hb sb nb A (rdyY S) (S ++ [(x, pl)]) n Ws) := (H1.out.1.on hHeld).spotted hm2 ht2 (fun e he => by
    rcases List.mem_append.1 he with h | h
    · exact H1.out.1.ok e h
    · rw [List.mem_singleton.1 h]; exact HE.out)
  have HQ : Hid (∀ z : World, (∀ b, (b = p ∨ b = u.heap.size) → z.heap[b]? = W1.heap[b]?) → z.cell? ⟨p, 0, none⟩ = some (.pointer (some ⟨hb, 0, none⟩)) ∧ z.cell? ⟨u.heap.size, 0, none⟩ = some (.string x.1) ∧ z.cell? ⟨u.heap.size, 1, none⟩ = some (.int .i64 x.2.1) ∧ z.cell? ⟨u.heap.size, 2, none⟩ = some (.int .i64 x.2.2.1)) := fun z hz => by
    obtain ⟨g1, g2, g3, g4, g5, g6, g7⟩ := H1.out
    have e1 := hz p (.inl rfl)
    have e2 := hz u.heap.size (.inr rfl)
    have q : ∀ o v, (wtC x)[o]? = some v → z.cell? ⟨u.heap.size, o, none⟩ = some v := fun o v hv => by
      have := (g2.2 o v hv).1
      simp only [World.cell?, e2] at this ⊢
      exact this
    refine ⟨?_, q 0 _ rfl, q 1 _ rfl, q 2 _ rfl⟩
    have := g1.c0
    simp only [World.cell?, e1] at this ⊢
    exact this
  have HN : Hid (p ≠ sb ∧ u.heap.size ≠ sb ∧ p < W1.heap.size ∧ u.heap.size < W1.heap.size) := ⟨H1.out.1.nps, by have := H1.out.2.2.2.2.2.1; omega, by have := H1.out.2.2.2.1; have := H1.out.2.2.2.2.1; omega, H1.out.2.2.2.1⟩
  have HT2 : Hid (Turns F u w2) := H1.out.2.2.1.trans ((Turns.below hHeld).trans (Turns.map ht2 H1.out.1.fs.1))
  have HK2 : Hid (∀ b, (b = p ∨ b = u.heap.size) → w2.heap[b]? = W1.heap[b]?) := fun b hb => by
    obtain ⟨n1, n2, n3, n4⟩ := HN.out
    have hl : b < W1.heap.size := by rcases hb with rfl | rfl <;> assumption
    exact (ht2.grown.block b (Nat.lt_of_lt_of_le hl hHeld.size) (fun e => by have e : b = sb := (by simpa using e); rcases hb with rfl | rfl; exact n1 e; exact n2 e)).trans (hHeld.block b hl)
  have HS2 : Hid (W1.heap.size ≤ w2.heap.size) := Nat.le_trans hHeld.size ht2.grown.size
  have HF2 : Hid (∀ b, w2.heap.size ≤ b → F b) := fun b hb => HF.out b (Nat.le_trans HT2.out.size hb)
  clear hrun hm2 ht2 hHeld hK K HF HC HW1
  by_cases hp1 : pl = 1
  · subst hp1
    go_upto_region 3 with fail
    --M3
    have hb0 : Below w2.heap.size w2 w2.drew := (Below.refl _ _).drew
    refine t0 (fun z => z.cell? ⟨p, 0, none⟩ = some (.pointer (some ⟨hb, 0, none⟩)) ∧ z.cell? ⟨u.heap.size, 0, none⟩ = some (.string x.1) ∧ z.cell? ⟨u.heap.size, 1, none⟩ = some (.int .i64 x.2.1) ∧ z.cell? ⟨u.heap.size, 2, none⟩ = some (.int .i64 x.2.2.1)) (HQ.out _ (fun b hb => HK2.out b hb)) (fun hHeld => ?_)
    have HB0 : Hid (Below w2.heap.size w2 w2.drew) := hb0
    have hE0 : Hid (∀ b, (b = p ∨ b = u.heap.size) → w2.drew.heap[b]? = W1.heap[b]?) := HK2.out
    generalize hwd : w2.drew = wd at hHeld HB0 hE0 ⊢
    clear hwd hb0
    try go_frame
    refine' tk 0 ?_ ?_; rotate_left
    · intro z hz; obtain ⟨_, _, _, _⟩ := hz; go_simp; try with_reducible rfl
    try go_frame
    refine' tk 1 ?_ ?_; rotate_left
    · intro z hz; obtain ⟨_, _, _, _⟩ := hz; go_simp; try with_reducible rfl
    try go_frame
    refine' tk 2 ?_ ?_; rotate_left
    · intro z hz; obtain ⟨_, _, _, _⟩ := hz; go_simp; try with_reducible rfl
    try go_frame
    refine' tk 3 ?_ ?_; rotate_left
    · intro z hz; obtain ⟨_, _, _, _⟩ := hz; go_simp; try with_reducible rfl
    try go_frame
    refine' tk 4 ?_ ?_; rotate_left
    · intro z hz; obtain ⟨_, _, _, _⟩ := hz; go_simp; try with_reducible rfl
    try go_frame
    refine' tk 5 ?_ ?_; rotate_left
    · intro z hz; obtain ⟨_, _, _, _⟩ := hz; go_simp; try with_reducible rfl
    try go_frame
    refine' tk 6 ?_ ?_; rotate_left
    · intro z hz; obtain ⟨_, _, _, _⟩ := hz; go_simp; try with_reducible rfl
    try go_frame
    refine' tk 7 ?_ ?_; rotate_left
    · intro z hz; obtain ⟨_, _, _, _⟩ := hz; go_simp; try with_reducible rfl
    try go_frame
    refine' tk 8 ?_ ?_; rotate_left
    · intro z hz; obtain ⟨_, _, _, _⟩ := hz; go_simp; try with_reducible rfl
    try go_frame
    refine' tk 9 ?_ ?_; rotate_left
    · intro z hz; obtain ⟨_, _, _, _⟩ := hz; go_simp; try with_reducible rfl
    try go_frame
    refine' tk 10 ?_ ?_; rotate_left
    · intro z hz; obtain ⟨_, _, _, _⟩ := hz; go_simp; try with_reducible rfl
    try go_frame
    refine tr 11 (fun K hK => ?_)
    have hsz : W1.heap.size ≤ w2.heap.size := HS2.out
    have hC := Push_any (G2.out.on HB0.out).heap ((G2.out.on HB0.out).hF (fun b hb => ⟨HF2.out b (Nat.le_trans HB0.out.size hb), by have h1 := HN.out.2.2.2; have h3 := HB0.out.size; omega⟩)) HLn.out (G2.out.on HB0.out).hp (itY x) hxs hxe
    clear hsz
    go_simp
    refine hC.mono ?_
    rintro e w3 ⟨A', ⟨rfl, hh, hpm⟩, hA', hT3⟩
    have G3 : Hid (QF (fun b => F b ∧ b ≠ u.heap.size) w3 p hb sb nb A' (S ++ [(x, 1)]) n Ws) := (G2.out.on HB0.out).heaped hA' hh (put_perm H1.out.1.pm hn hpm) hT3
    have HT3 : Hid (Turns F u w3) := HT2.out.trans ((Turns.below HB0.out).trans (hT3.weak (fun b _ hb => hb.1.1)))
    have hS3 : w3.cell? ⟨p, 0, none⟩ = some (.pointer (some ⟨hb, 0, none⟩)) ∧ w3.cell? ⟨u.heap.size, 0, none⟩ = some (.string x.1) ∧ w3.cell? ⟨u.heap.size, 1, none⟩ = some (.int .i64 x.2.1) ∧ w3.cell? ⟨u.heap.size, 2, none⟩ = some (.int .i64 x.2.2.1) := by
      refine HQ.out w3 (fun b hb => ?_)
      have hl : b < wd.heap.size := by have h1 := HB0.out.size; have h2 := HS2.out; obtain ⟨n1, n2, n3, n4⟩ := HN.out; rcases hb with rfl | rfl <;> omega
      exact (hT3.block b hl (fun hf => by rcases hb with rfl | rfl; exact hf.2.1 rfl; exact hf.1.2 rfl)).trans (hE0.out b hb)
    go_wp2_with fail
    refine hK.out _ _ hS3 (fun hHeld2 => ?_)
    clear hK K hHeld; have hHeld := hHeld2; clear hHeld2
    try go_frame
    refine tz ?_
    clear hHeld hS3 hC hA' hT3 hh hpm
    go_wp2_with fail
    --M5
    go_end0
    exact ⟨rfl, ⟨hb, sb, nb, A', G3.out.weak (fun b _ hf => hf.1)⟩, HT3.out⟩
  · have hR : Hid (rdyY S = rdyY (S ++ [(x, pl)])) := (rdy_snocN S x hp1).symm
    go_wp2_with fail
    --M4
    go_end0
    exact ⟨rfl, ⟨hb, sb, nb, A, by have := G2.out.weak (G := F) (fun b _ hf => hf.1); rw [hR.out] at this; exact this⟩, HT2.out⟩
end Go.Proofs.Ytpombhiffpbedaa
namespace Go.Proofs.Ytpombhiffpbedaa
open Go.RowKit
set_option linter.unusedSimpArgs false

theorem range_new {u : World} {T : TypeId} {b o : Nat} {p c q : List Value} (hb : u.heap.size = b) (ho : p.length = o) : (u.alloc (.cells (p ++ (c ++ q)).toArray T)).rangeAt b o c := by
  subst hb ho
  intro j v hj
  have : (u.alloc (.cells (p ++ (c ++ q)).toArray T)).heap[u.heap.size]? = some (.cells (p ++ (c ++ q)).toArray T) := heap_new u _ _ rfl
  generalize u.alloc (.cells (p ++ (c ++ q)).toArray T) = u' at this ⊢
  have hl : j < c.length := (List.getElem?_eq_some_iff.1 hj).1
  simp only [World.cell?, this]
  rw [List.getElem?_toArray, List.getElem?_append_right (by omega), show p.length + j - p.length = j by omega, List.getElem?_append_left hl]
  exact hj
theorem range_all {u : World} {T : TypeId} {b : Nat} {c : List Value} (hb : u.heap.size = b) : (u.alloc (.cells c.toArray T)).rangeAt b 0 c := by
  have := range_new (u := u) (T := T) (p := []) (c := c) (q := []) hb rfl
  simpa using this
theorem there_new {u : World} {T : TypeId} {b n : Nat} {c : Array Value} (hb : u.heap.size = b) (hn : c.size = n) : (u.alloc (.cells c T)).there b 0 n := by
  subst hb hn
  intro j hj
  have : (u.alloc (.cells c T)).heap[u.heap.size]? = some (.cells c T) := heap_new u _ _ rfl
  generalize u.alloc (.cells c T) = u' at this ⊢
  simp [World.cell?, World.frozen?, this, hj]
theorem range_on {w w' : World} {B b o : Nat} {c : List Value} (h : w.rangeAt b o c) (hb : Below B w w') (hB : b < B) : w'.rangeAt b o c := fun j v hj => (hb.cell (p := ⟨b, o + j, none⟩) hB).trans (h j v hj)
theorem there_on {w w' : World} {B b o n : Nat} (h : w.there b o n) (hb : Below B w w') (hB : b < B) : w'.there b o n := fun j hj => by
  rw [hb.cell (p := ⟨b, o + j, none⟩) hB, hb.frozen (p := ⟨b, o + j, none⟩) hB]; exact h j hj
theorem below_setCells {B b : Nat} {a : World} : ∀ {vs : List Value} {o : Nat} {u : World}, Below B a u → B ≤ b → Below B a (u.setCells b o vs)
  | [], _, _, h, _ => h
  | v :: r, o, u, h, hb => by
    rw [World.setCells]
    exact below_setCells (h.setCell (p := ⟨b, o, none⟩) hb v) hb
theorem size_setCells {b : Nat} : ∀ {vs : List Value} {o : Nat} {u : World}, (u.setCells b o vs).heap.size = u.heap.size
  | [], _, _ => rfl
  | v :: r, o, u => by rw [World.setCells, size_setCells]; simp
theorem kept_setCells {A : Where} {b : Nat} (h : ¬ A b) : ∀ {vs : List Value} {o : Nat} {u : World}, Kept A u (u.setCells b o vs)
  | [], _, u => Kept.refl A u
  | v :: r, o, u => by
    rw [World.setCells]
    exact (Kept.set (p := ⟨b, o, none⟩) h v).trans (kept_setCells h)

/-- One result, a struct that lies in memory. -/
theorem res_cell {P : Program} {fn : Func} {p : Tmp} {ty : TypeId} (h : fn.results = #[.cell p ty]) (tmps : Array Value) (w : World) (b : Nat) (cs : List Value) (d : TypeDesc)
    (hp : tmps.getD p undef = .pointer (some ⟨b, 0, none⟩)) (hr : w.rangeAt b 0 cs) (hu : P.underlying ty = some d) (hd : d.isRow = true) (hi : (P.info? ty).map (·.size) = some cs.length) :
    (results fn tmps).run P w = .ok (.agg cs.toArray) w := by
  have hp' : tmps[p]?.getD undef = .pointer (some ⟨b, 0, none⟩) := by simpa using hp
  simp [results, h, hp', asAddr, run_loadVar_mid w b 0 ty cs d hr hu hd hi]
/-- Two results, the first a struct that lies in memory. -/
theorem res_cell2 {P : Program} {fn : Func} {p q : Tmp} {ty : TypeId} (h : fn.results = #[.cell p ty, .tmp q]) (tmps : Array Value) (w : World) (b : Nat) (cs : List Value) (d : TypeDesc) (y : Value)
    (hp : tmps.getD p undef = .pointer (some ⟨b, 0, none⟩)) (hq : tmps.getD q undef = y) (hr : w.rangeAt b 0 cs) (hu : P.underlying ty = some d) (hd : d.isRow = true) (hi : (P.info? ty).map (·.size) = some cs.length) :
    (results fn tmps).run P w = .ok (.tuple #[.agg cs.toArray, y]) w := by
  have hp' : tmps[p]?.getD undef = .pointer (some ⟨b, 0, none⟩) := by simpa using hp
  have hq' : tmps[q]?.getD undef = y := by simpa using hq
  simp [results, h, hp', hq', asAddr, run_loadVar_mid w b 0 ty cs d hr hu hd hi]
/-- Three results, the first a struct that lies in memory. -/
theorem res_cell3 {P : Program} {fn : Func} {p q r : Tmp} {ty : TypeId} (h : fn.results = #[.cell p ty, .tmp q, .tmp r]) (tmps : Array Value) (w : World) (b : Nat) (cs : List Value) (d : TypeDesc) (y z : Value)
    (hp : tmps.getD p undef = .pointer (some ⟨b, 0, none⟩)) (hq : tmps.getD q undef = y) (hz : tmps.getD r undef = z) (hr : w.rangeAt b 0 cs) (hu : P.underlying ty = some d) (hd : d.isRow = true) (hi : (P.info? ty).map (·.size) = some cs.length) :
    (results fn tmps).run P w = .ok (.tuple #[.agg cs.toArray, y, z]) w := by
  have hp' : tmps[p]?.getD undef = .pointer (some ⟨b, 0, none⟩) := by simpa using hp
  have hq' : tmps[q]?.getD undef = y := by simpa using hq
  have hz' : tmps[r]?.getD undef = z := by simpa using hz
  simp [results, h, hp', hq', hz', asAddr, run_loadVar_mid w b 0 ty cs d hr hu hd hi]
end Go.Proofs.Ytpombhiffpbedaa
namespace Go.Proofs.Ytpombhiffpbedaa
open Go.RowKit Go.Maps
set_option linter.unusedSimpArgs false
set_option maxRecDepth 100000

theorem turns_cells {F : Where} {b : Nat} (h : F b) : ∀ {vs : List Value} {o : Nat} {u : World}, Turns F u (u.setCells b o vs)
  | [], _, u => Turns.refl F u
  | v :: r, o, u => by
    rw [World.setCells]
    exact (Turns.set (p := ⟨b, o, none⟩) h v).trans (turns_cells h)
theorem box_overY {u : World} {D : Nat} {zs cs : List Value} (hb : BoxL u D zs) (hl : zs.length = cs.length) : BoxL (u.setCells D 0 cs) D cs := by
  have hth : u.there D 0 cs.length := hl ▸ hb.there
  have hr := World.rangeAt_setCells_same u D 0 cs hth
  have ht2 := World.there_setCells hth D 0 cs
  refine ⟨Nat.lt_of_lt_of_le hb.1 (kept_setCells (A := fun _ => False) (b := D) (fun h => h) (vs := cs) (o := 0) (u := u)).1, fun j v hj => ?_⟩
  have h1 := hr j v hj
  have h2 := (ht2 j (List.getElem?_eq_some_iff.1 hj).1).2
  rw [Nat.zero_add] at h1 h2
  exact ⟨h1, h2⟩
theorem Turns.box {F : Where} {u u' : World} {D : Nat} {cs : List Value} (h : Turns F u u') (hb : BoxL u D cs) (hD : ¬ F D) : BoxL u' D cs := hb.kept (A := fun b => ¬ F b) ⟨h.size, fun b hb hl => h.block b hl hb⟩ hD
/-- 'delete(m, s)'. -/
theorem wpList_delY {α : Type} {key : α → ByteArray} {val : α → Value} {S : List α} {w : World} {ops : Array Oper} {rest : List Oper} {o : Oper} {a : Act} {Q : Exit → Act → World → Prop} {mb : Nat} (hg : o.guard = none) (m x : Operand) (t : TypeId) (hop : o.op = Op.call { callee := Callee.builtin Builtin.delete, args := #[m, x], argTypes := #[t, 9] })
    (e : TypeId) (ht : Try.prog.underlying t = some (.map 9 e)) (hm : a.eval m = .map (some mb)) (s : ByteArray) (hs : s.size ≤ 140737488355328) (hx : a.eval x = .string s) (h : MpL w mb key val S)
    (hK : ∀ w', MpL w' mb key val (othG key s S) → w.mapTurned w' mb → wpList Try.prog ops Q rest (a.put o.dst (.tuple #[])) w') : wpList Try.prog ops Q (o :: rest) a w := by
  refine wpList_plain hg fun K' hK' => ?_
  obtain ⟨w', hrun, r1, r2⟩ := h.drop t e ht s hs o.type
  unfold Oper.wp
  simp [execOp, hop, resolve, invoke, builtin, hm, hx, hrun, Result.andThen]
  exact hK' _ _ (hK w' r1 r2)
theorem rdy_oth (S : List EnD) (s : ByteArray) : rdyY (othG enN s S) = dropK (rdyY S) s.toList := by
  unfold rdyY othG dropK
  rw [List.filter_map, List.filter_filter, List.filter_filter]
  congr 1
  refine List.filter_congr (fun x _ => ?_)
  exact Bool.and_comm _ _
theorem Drop_any {F : Where} {w : World} {hb : Nat} {L : List It} (h : HAt F w hb L) (hF : ∀ b, w.heap.size ≤ b → F b) (hL : L.length < 1000000000000) (hh : HeapL L) (s : ByteArray) (hs : s.size ≤ 140737488355328) :
    Calls Try.prog 39 #[.pointer (some ⟨hb, 0, none⟩), .string s] w fun e w' => ∃ L', ((∃ v, e = .returned v) ∧ HeapL L' ∧ L'.Perm (dropK L s.toList)) ∧ HAt F w' hb L' ∧ Turns F w w' := by
  have hd := h.dk
  cases hk : hasK L s.toList with
  | false =>
    refine (Drop_none h s hs hk).mono ?_
    rintro e w' ⟨rfl, hb'⟩
    exact ⟨L, ⟨⟨_, rfl⟩, hh, by rw [dropK_none hk]⟩, h.grow hb', Turns.below hb'⟩
  | true =>
    obtain ⟨i, hi, e⟩ := hasK_at hk
    refine (Drop_some h hF hL s hs i hi e).mono ?_
    rintro e' w' ⟨rfl, q1, q2⟩
    have p := lastL_heap hh hi
    exact ⟨_, ⟨⟨_, rfl⟩, p.1, drop_dropK hd hi e p.2⟩, q1, q2⟩
/-- The entry of a name, or none. -/
def enY (S : List EnD) (s : ByteArray) : WtD := (fndG enN S s).elim zWtY Prod.fst
theorem en_look (S : List EnD) (s : ByteArray) : ∃ pl, (fndG enN S s).elim (Value.agg #[.int .i64 0, .string ⟨#[]⟩, .int .i64 0, .int .i64 0, .int .i64 0, .int .i64 0]) spC = spC (enY S s, pl) := by
  unfold enY
  cases fndG enN S s with
  | none => exact ⟨0, rfl⟩
  | some e => exact ⟨e.2, rfl⟩
set_option maxHeartbeats 16000000 in
theorem ytake_calls {F : Where} {u : World} {p : Nat} {S : List EnD} {n : Int} {Ws : List WiD} (h : QA F u p S n Ws) (hF : ∀ b, u.heap.size ≤ b → F b) (s : ByteArray) (hs : okS s) (hl : S.length < 1000000000) :
    Calls Try.prog 27 #[.pointer (some ⟨p, 0, none⟩), .string s] u fun e w' => e = .returned (.agg (wtC (enY S s)).toArray) ∧ QA F w' p (othG enN s S) n Ws ∧ Turns F u w' := by
  obtain ⟨hb, sb, nb, A, h⟩ := h
  obtain ⟨W1, hW1⟩ : ∃ Z, Z = u.alloc (.cells #[.string ⟨#[]⟩, .int .i64 0, .int .i64 0, .int .i64 0, .int .i64 0] 28) := ⟨_, rfl⟩
  have b1 : Below u.heap.size u W1 := by rw [hW1]; exact (Below.refl _ _).alloc (Nat.le_refl _) _
  have q1 : BoxL W1 u.heap.size [.string ⟨#[]⟩, .int .i64 0, .int .i64 0, .int .i64 0, .int .i64 0] := by rw [hW1]; exact BoxL.new u 28 _
  have s1 : W1.heap.size = u.heap.size + 1 := by rw [hW1]; simp
  obtain ⟨pl, hlk⟩ := en_look S s
  have HRx : Hid (enY S s = enY S s) := rfl
  have HN : Hid ((fndG enN S s = none → enY S s = zWtY)) := fun e => by unfold enY; rw [e]; rfl
  obtain ⟨x, hx⟩ : ∃ x, enY S s = x := ⟨_, rfl⟩
  rw [hx] at hlk ⊢
  obtain ⟨W3, hW3⟩ : ∃ Z, Z = W1.alloc (.cells (wtC x).toArray 28) := ⟨_, rfl⟩
  have b2 : Below W1.heap.size W1 W3 := by rw [hW3]; exact (Below.refl _ _).alloc (Nat.le_refl _) _
  have q3 : BoxL W3 W1.heap.size (wtC x) := by rw [hW3]; exact BoxL.new W1 28 _
  have q3a : BoxL W3 u.heap.size [.string ⟨#[]⟩, .int .i64 0, .int .i64 0, .int .i64 0, .int .i64 0] := q1.on b2
  have s3 : W3.heap.size = u.heap.size + 2 := by rw [hW3]; simp [s1]
  have h3 : QF (fun b => F b ∧ b ≠ u.heap.size ∧ b ≠ W1.heap.size) W3 p hb sb nb A S n Ws := ((h.weak (G := fun b => F b ∧ b ≠ u.heap.size ∧ b ≠ W1.heap.size) (fun b hb hf => ⟨hf, by omega, by omega⟩)).on b1).on b2
  have t3 : Turns F u W3 := (Turns.below b1).trans (Turns.below b2)
  have c1 : W1.cell? ⟨p, 1, none⟩ = some (.map (some sb)) := (h.on b1).c1
  have hlw := (h.on b1).spots.look 55 70 Try.underlying55 (zeroSp W1) hs
  rw [hlk] at hlw
  have hfd := fldE
  have HW3 : Hid (W1.alloc (.cells (wtC x).toArray 28) = W3) := hW3.symm
  have HW1 : Hid (u.alloc (.cells #[.string ⟨#[]⟩, .int .i64 0, .int .i64 0, .int .i64 0, .int .i64 0] 28) = W1) := hW1.symm
  have HS1 : Hid (W1.heap.size = u.heap.size + 1) := s1
  have H3 : Hid (QF (fun b => F b ∧ b ≠ u.heap.size ∧ b ≠ W1.heap.size) W3 p hb sb nb A S n Ws ∧ BoxL W3 W1.heap.size (wtC x) ∧ BoxL W3 u.heap.size [.string ⟨#[]⟩, .int .i64 0, .int .i64 0, .int .i64 0, .int .i64 0] ∧ Turns F u W3 ∧ W3.heap.size = u.heap.size + 2 ∧ p < u.heap.size ∧ sb < u.heap.size ∧ nb < u.heap.size) := ⟨h3, q3, q3a, t3, s3, h.lt, h.spots.lt, h.hopes.lt⟩
  have HF : Hid (∀ b, u.heap.size ≤ b → F b) := hF
  have HLn : Hid (A.length < 1000000000000) := by
    have e1 := h.pm.length_eq
    have e2 : (rdyY S).length ≤ S.length := by unfold rdyY; rw [List.length_map]; exact List.length_filter_le _ _
    rw [Hid]; omega
  clear hW1 hW3 b1 b2 q1 q3 q3a h3 t3 s1 s3 h hF hlk
  simp only [spC] at hlw
  go_enter Try.func27, Try.ntmps27
  go_upto_region 1 with fail
  rw [HW1.out]
  go_upto_region 2 with fail
  rw [HW3.out]
  have c3 := H3.out.1.c1
  go_upto_region 3 with (at_delete; refine wpList_delY rfl _ _ 55 rfl 70 Try.underlying55 rfl s hs rfl H3.out.1.spots ?_; intro w4 hm4 ht4)
  --M2
  have G4 : Hid (QG (fun b => F b ∧ b ≠ u.heap.size ∧ b ≠ W1.heap.size) w4 p hb sb nb A (rdyY S) (othG enN s S) n Ws) := H3.out.1.spotted hm4 ht4 (fun e he => H3.out.1.ok e (mem_othG.1 he).1)
  have HN3 : Hid (u.heap.size ≠ sb ∧ W1.heap.size ≠ sb) := ⟨by have := H3.out.2.2.2.2.2.2.1; omega, by have := H3.out.2.2.2.2.2.2.1; have := HS1.out; omega⟩
  have HT4 : Hid (Turns F u w4) := H3.out.2.2.2.1.trans (Turns.map ht4 H3.out.1.fs.1)
  have HQ4 : Hid (BoxL w4 W1.heap.size (wtC x) ∧ BoxL w4 u.heap.size [.string ⟨#[]⟩, .int .i64 0, .int .i64 0, .int .i64 0, .int .i64 0]) := ⟨(Turns.map (F := fun b => b = sb) ht4 rfl).box H3.out.2.1 HN3.out.2, (Turns.map (F := fun b => b = sb) ht4 rfl).box H3.out.2.2.1 HN3.out.1⟩
  have HF4 : Hid (∀ b, w4.heap.size ≤ b → HpB (fun b => F b ∧ b ≠ u.heap.size ∧ b ≠ W1.heap.size) p sb nb b) := G4.out.hF (fun b hb => ⟨HF.out b (Nat.le_trans HT4.out.size hb), by have h1 := HQ4.out.2.1; omega, by have h1 := HQ4.out.1.1; omega⟩)
  have c4 := G4.out.c0
  have hC := Drop_any G4.out.heap HF4.out HLn.out G4.out.hp s hs
  clear c1 c3 hlw hm4 ht4
  go_wp2_with fail
  --M3
  refine hC.mono ?_
  rintro e w5 ⟨A', ⟨⟨v5, rfl⟩, hh5, hpm5⟩, hA5, hT5⟩
  have G5 : Hid (QF (fun b => F b ∧ b ≠ u.heap.size ∧ b ≠ W1.heap.size) w5 p hb sb nb A' (othG enN s S) n Ws) := G4.out.heaped hA5 hh5 (by rw [rdy_oth]; exact hpm5.trans (G4.out.pm.filter _)) hT5
  have HT5 : Hid (Turns F u w5) := HT4.out.trans (hT5.weak (fun b _ hb => hb.1.1))
  have q5 : BoxL w5 W1.heap.size (wtC x) := hT5.box HQ4.out.1 (fun hf => hf.1.2.2 rfl)
  have q5a : BoxL w5 u.heap.size [.string ⟨#[]⟩, .int .i64 0, .int .i64 0, .int .i64 0, .int .i64 0] := hT5.box HQ4.out.2 (fun hf => hf.1.2.1 rfl)
  obtain ⟨W6, hW6⟩ : ∃ Z, Z = w5.setCells u.heap.size 0 (wtC x) := ⟨_, rfl⟩
  have HT6 : Hid (Turns F u W6) := by rw [hW6]; exact HT5.out.trans (turns_cells (HF.out _ (Nat.le_refl _)))
  have H6 : Hid (QA F W6 p (othG enN s S) n Ws) := ⟨hb, sb, nb, A', by rw [hW6]; exact (G5.out.kept (fun b hb hf => (kept_setCells (A := fun b => b ≠ u.heap.size) (fun h => h rfl)).2 b hf.2.1 hb)).weak (fun b _ hf => hf.1)⟩
  have HR6 : Hid (W6.rangeAt u.heap.size 0 (wtC x)) := by rw [hW6]; exact World.rangeAt_setCells_same _ _ _ _ q5a.there
  have HTh : Hid (w5.there u.heap.size 0 (wtC x).toArray.size) := q5a.there
  have HW6 : Hid (w5.setCells u.heap.size 0 (wtC x).toArray.toList = W6) := hW6.symm
  have HX5 : Hid (w5.rangeAt W1.heap.size 0 (wtC x)) := q5.range
  clear hC hh5 hpm5 hA5 hT5 q5 q5a hW6 c4
  go_wp2_with (first | (refine wpList_load_mid rfl 28 _ rfl W1.heap.size 0 rfl (wtC x) _ HX5.out Try.underlying28 rfl (by kernel_rfl) ?_) | (refine wpList_store_mid rfl 28 _ _ rfl u.heap.size 0 (wtC x).toArray rfl rfl HTh.out (by kernel_rfl) (by simp [Value.oneCell']) ?_; refine wpl_atG HW6.out.symm ?_) | fail)
  --M4
  refine bodyPost_ret (v := .agg (wtC x).toArray) (res_cell (p := 4) (ty := 28) rfl _ _ u.heap.size (wtC x) _ rfl HR6.out Try.underlying28 rfl (by kernel_rfl)) rfl ?_
  exact ⟨rfl, H6.out, HT6.out⟩
set_option maxHeartbeats 16000000 in
theorem yshift_calls {F : Where} {u : World} {p : Nat} {S : List EnD} {n : Int} {Ws : List WiD} (h : QA F u p S n Ws) (hF : ∀ b, u.heap.size ≤ b → F b) (x : WtD) (pl : Int) (hx : okE (x, pl)) (hl : S.length < 1000000000) :
    Calls Try.prog 31 #[.pointer (some ⟨p, 0, none⟩), .agg (wtC x).toArray, .int .i64 pl] u fun e w' => e = .returned (.tuple #[]) ∧ QA F w' p (othG enN x.1 S ++ [(x, pl)]) n Ws ∧ Turns F u w' := by
  obtain ⟨W1, hW1⟩ : ∃ Z, Z = u.alloc (.cells (wtC x).toArray 28) := ⟨_, rfl⟩
  have b1 : Below u.heap.size u W1 := by rw [hW1]; exact (Below.refl _ _).alloc (Nat.le_refl _) _
  have q1 : BoxL W1 u.heap.size (wtC x) := by rw [hW1]; exact BoxL.new u 28 (wtC x)
  have hp := h.lt
  have h1 := (h.weak (G := fun b => F b ∧ b ≠ u.heap.size) (fun b hb hf => ⟨hf, by omega⟩)).on b1
  have hC1 := ytake_calls h1 (fun b hb => ⟨hF b (Nat.le_trans b1.size hb), by have := q1.1; omega⟩) x.1 hx.1 hl
  have c0 : W1.cell? ⟨u.heap.size, 0, none⟩ = some (.string x.1) := (q1.2 0 _ rfl).1
  have HN : Hid (fndG enN (othG enN x.1 S) x.1 = none) := by
    rw [Hid]
    cases e : fndG enN (othG enN x.1 S) x.1 with
    | none => rfl
    | some y => have h1 := fndG_some e; exact absurd h1.2 (mem_othG.1 h1.1).2
  have HL : Hid ((othG enN x.1 S).length < 1000000000) := Nat.lt_of_le_of_lt (List.length_filter_le _ _) hl
  have HE : Hid (okE (x, pl)) := hx
  have HF : Hid (∀ b, u.heap.size ≤ b → F b) := hF
  have H1 : Hid (BoxL W1 u.heap.size (wtC x) ∧ Below u.heap.size u W1) := ⟨q1, b1⟩
  have HW1 : Hid (u.alloc (.cells (wtC x).toArray 28) = W1) := hW1.symm
  clear hW1 b1 q1 h h1 hF hx hp
  go_enter Try.func31, Try.ntmps31
  go_upto_region 1 with fail
  rw [HW1.out]
  go_wp2_with fail
  refine hC1.mono ?_
  rintro e w2 ⟨rfl, h2, t2⟩
  have q2 := t2.box H1.out.1 (fun hf => hf.2 rfl)
  have hC2 := yput_calls h2 (fun b hb => ⟨HF.out b (Nat.le_trans H1.out.2.size (Nat.le_trans t2.size hb)), by have := q2.1; omega⟩) x pl HE.out HN.out HL.out
  have HX : Hid (w2.rangeAt u.heap.size 0 (wtC x)) := q2.range
  have HT : Hid (Turns F u w2) := (Turns.below H1.out.2).trans (t2.weak (fun b _ hf => hf.1))
  clear hC1 c0 h2 t2 q2 HW1
  --M5
  go_wp2_with (first | (refine wpList_load_mid rfl 28 _ rfl u.heap.size 0 rfl (wtC x) _ HX.out Try.underlying28 rfl (by kernel_rfl) ?_) | fail)
  refine hC2.mono ?_
  rintro e w3 ⟨rfl, h3, t3⟩
  have H3 : Hid (QA F w3 p (othG enN x.1 S ++ [(x, pl)]) n Ws ∧ Turns F u w3) := ⟨h3.weak (fun b _ hf => hf.1), HT.out.trans (t3.weak (fun b _ hf => hf.1))⟩
  clear hC2 h3 t3
  go_wp2_with fail
  go_end0
  exact ⟨rfl, H3.out.1, H3.out.2⟩
end Go.Proofs.Ytpombhiffpbedaa
namespace Go.Proofs.Ytpombhiffpbedaa
open Go.RowKit Go.Maps
set_option linter.unusedSimpArgs false
set_option maxRecDepth 100000

set_option maxHeartbeats 4000000 in
theorem ynew_calls (u : World) : Calls Try.prog 8 #[] u fun e w' => ∃ p, e = .returned (.pointer (some ⟨p, 0, none⟩)) ∧ QA (Fresh u) w' p [] 0 [] ∧ Below u.heap.size u w' := by
  have hmm := @run_makeMap Try.prog
  go_enter Try.func8, Try.ntmps8
  go_wp2_with (go_at_call 22; refine (New_calls _).mono ?_; rintro e w1 ⟨hb, rfl, hk1, hb1⟩)
  --M1
  go_ret
  have hs := hb1.size
  have g1 : Below w1.heap.size w1 (w1.alloc (.map #[] 0)) := (Below.refl _ _).alloc (Nat.le_refl _) _
  have g2 : Below (w1.alloc (.map #[] 0)).heap.size (w1.alloc (.map #[] 0)) ((w1.alloc (.map #[] 0)).alloc (.map #[] 0)) := (Below.refl _ _).alloc (Nat.le_refl _) _
  have m1 : MpL (w1.alloc (.map #[] 0)) w1.heap.size enN spC [] := MpL.made _
  have m2 : MpL ((w1.alloc (.map #[] 0)).alloc (.map #[] 0)) (w1.alloc (.map #[] 0)).heap.size Prod.fst hoC [] := MpL.made _
  have e2 : (w1.alloc (.map #[] 0)).heap.size = w1.heap.size + 1 := by simp
  have e3 : ((w1.alloc (.map #[] 0)).alloc (.map #[] 0)).heap.size = w1.heap.size + 2 := by simp
  rw [e2] at m2
  have hlt : ∀ b, b < w1.heap.size → Fresh u b → Fresh u b ∧ b ≠ w1.heap.size + 2 ∧ b ≠ w1.heap.size ∧ b ≠ w1.heap.size + 1 := fun b hb hf => ⟨hf, by omega, by omega, by omega⟩
  refine ⟨_, rfl, ⟨hb, w1.heap.size, w1.heap.size + 1, [], ⟨heap_new _ _ _ (by simp), ?_, ?_, List.Perm.refl _, ?_, ?_, ?_, ?_, ?_, by omega, fun _ h => absurd h List.not_mem_nil, fun _ h => absurd h List.not_mem_nil⟩⟩, on2 hb1 (by go_grown)⟩
  · exact (hk1.weak hlt).grow (by go_grown)
  · exact fun k h1 h2 => by simp at h2
  · exact (m1.on g2).on (by go_grown)
  · exact m2.on (by go_grown)
  · show u.heap.size ≤ _; omega
  · show u.heap.size ≤ _; omega
  · show u.heap.size ≤ _; omega
/-- How long one backs off. -/
def delayY (t : Int) : Int := if t < 1 then 0 else if t = 1 then 1 else if t = 2 then 2 else if t = 3 then 4 else if t = 4 then 8 else 16
theorem delayY_in (t : Int) : 0 ≤ delayY t ∧ delayY t ≤ 16 := by unfold delayY; repeat' split <;> omega
/-- What is left to do: t more rounds, from d on. -/
def dlF (t d : Int) : Int := if t ≤ 1 then d else if t = 2 then min (2 * d) 16 else if t = 3 then min (4 * d) 16 else if t = 4 then min (8 * d) 16 else 16
set_option maxHeartbeats 4000000 in
theorem ydelay_calls (t : Int) (ht : t ≤ 9223372036854775807) (u : World) : Calls Try.prog 21 #[.int .i64 t] u fun e u' => e = .returned (.int .i64 (delayY t)) ∧ u' = u := by
  by_cases h1 : t ≤ 0
  · have e1 : delayY t = 0 := by unfold delayY; rw [if_pos (by omega)]
    rw [e1]
    go_enter Try.func21, Try.ntmps21
    go_wp2_with fail
    go_ret
    exact ⟨rfl, rfl⟩
  · obtain ⟨r, hr⟩ : ∃ r, r = delayY t := ⟨_, rfl⟩
    have h2 : 1 ≤ t := by omega
    have h3 : r = dlF t 1 ∧ (1 : Int) ≤ 1 := ⟨by rw [hr]; unfold delayY dlF; repeat' split <;> omega, by omega⟩
    rw [← hr]
    clear hr
    go_enter Try.func21, Try.ntmps21
    --M2
    go_wp2_with fail
    go_loop [0, 3] (fun t' d' => ∃ t d : Int, t' = .int .i64 t ∧ d' = .int .i64 d ∧ 1 ≤ t ∧ t ≤ 9223372036854775807 ∧ (d = 1 ∨ d = 2 ∨ d = 4 ∨ d = 8 ∨ d = 16) ∧ Hid (r = dlF t d)) (fun t' _ => (intOf t').toNat)
    case atStart => exact ⟨t, 1, rfl, rfl, h2, ht, .inl rfl, h3.1⟩
    case round =>
      clear h1 h2 h3 ht
      obtain ⟨t, d, rfl, rfl, h1, h2, hd, HR⟩ := hrel
      by_cases ht1 : 1 < t
      · by_cases hd1 : d < 16
        · have HN : Hid (r = dlF (t - 1) (d * 2)) := by
            rw [Hid, HR.out]
            unfold dlF
            rcases hd with rfl | rfl | rfl | rfl | rfl <;> (repeat' split) <;> omega
          have hdn : d * 2 = 1 ∨ d * 2 = 2 ∨ d * 2 = 4 ∨ d * 2 = 8 ∨ d * 2 = 16 := by omega
          clear HR
          go_wp2_with fail
          --M3
          go_round
          case rel => exact ⟨t - 1, d * 2, by go_num, by go_num, by omega, by omega, hdn, HN⟩
          case measure => simp [intOf]; omega
        · have HN : Hid (r = d) := by
            rw [Hid, HR.out]
            unfold dlF
            obtain rfl : d = 16 := by omega
            (repeat' split) <;> omega
          clear HR
          go_wp2_with fail
          go_ret
          exact ⟨by rw [HN.out]; rfl, rfl⟩
      · have HN : Hid (r = d) := by
          rw [Hid, HR.out]
          unfold dlF
          rw [if_pos (by omega)]
        clear HR
        go_wp2_with fail
        go_ret
        exact ⟨by rw [HN.out]; rfl, rfl⟩
end Go.Proofs.Ytpombhiffpbedaa
