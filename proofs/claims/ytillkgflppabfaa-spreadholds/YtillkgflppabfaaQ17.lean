/- Several rows of one's own side by side: an append to one leaves the others. Plain facts on worlds. No condition. The document's Check of layer 9. Condition: the arguments lie as is said of them. -/
import Derived.Test.YtillkgflppabfaaQ06
import Derived.Test.YtillkgflppabfaaQ15
import Derived.Test.YtillkgflppabfaaQ16
namespace Go.Proofs.Ytillkgflppabfaa
open Go.RowKit
set_option linter.unusedSimpArgs false

section
variable {α : Type} [Inhabited α] {R : Rep α} {k : Nat}
theorem Row.lt {A : Where} {w0 u : World} {e : TypeId} {v : Value} {L : List α} (h : Row R k A w0 u e v L) {b : Nat} (hb : v.ownBlock = some b) : w0.heap.size ≤ b ∧ b < u.heap.size := by
  obtain ⟨xs, h1, _⟩ := h
  exact h1.2.lt b hb
theorem Row.grown (hR : Firm R k) {A : Where} {w0 u u' : World} {row : Option Nat} {e : TypeId} {v : Value} {L : List α} (h : Row R k A w0 u e v L) (hg : u.grownBy u' row) (hn : ∀ b, row = some b → w0.heap.size ≤ b ∧ v.ownBlock ≠ some b ∧ ¬ A b) : Row R k A w0 u' e v L := by
  obtain ⟨xs, ⟨h1, h0, h2⟩, h3⟩ := h
  refine ⟨xs, ⟨?_, h0, ?_⟩, h3.kept hR (Kept.grown hg (fun b hb h => (hn b hb).2.2 h.1))⟩
  · exact Below.grown h1 hg h1.size (fun b hb => (hn b hb).1)
  · rcases h2 with h2 | ⟨g, cap, cur, hv, hg0, hh, r⟩
    · exact .inl h2
    · refine .inr ⟨g, cap, cur, hv, hg0, ?_, r⟩
      rw [hg.block g ?_ ?_]
      · exact hh
      · rcases Nat.lt_or_ge g u.heap.size with h | h
        · exact h
        · rw [Array.getElem?_eq_none h] at hh; cases hh
      · intro e1
        have := (hn g e1.symm).2.1
        rw [hv] at this
        exact this rfl
/-- An append of what lies in a slice, or in none, with the place of the new row. -/
theorem row_appendP_wp (hR : Firm R k) {o : Oper} {a : Act} {K : Act → World → Prop} {Q : Exit → Act → World → Prop} {A : Where} {w0 u : World} (s x : Operand) (t e : TypeId)
    (ho : o.op = .call { callee := .builtin .append, args := #[s, x], argTypes := #[t, t] }) (z : Value) (bytes : Nat) (hinfo : (Try.prog.info? e).map (fun i => (i.zero, i.size, i.bytes)) = some (some z, k, bytes)) (ht : Try.prog.underlying t = some (.slice e)) (hzs : z.cells.size = k) (hk0 : 0 < k) (hby : 1 ≤ bytes)
    (v : Value) (L : List α) (hs : a.eval s = v) (hrow : Row R k A w0 u e v L)
    (ad : Option Addr) (m c : Nat) (N : List α) (hx : a.eval x = .slice ad m c) (hN : Src R k (fun b => A b ∧ v.ownBlock ≠ some b) u ad m N) (hb : (L.length + N.length) * bytes ≤ 140737488355328)
    (h : ∀ v' u', Row R k A w0 u' e v' (L ++ N) → u.grownBy u' v.ownBlock → (v'.ownBlock = v.ownBlock ∨ v'.ownBlock = some u.heap.size) → K (a.put o.dst v') u') : o.wp Try.prog a u K Q := by
  obtain ⟨hm, hN⟩ := hN
  rcases hN with ⟨rfl, rfl⟩ | ⟨ad, news, rfl, hN, hcells, h1⟩
  · obtain rfl : m = 0 := by simpa using hm.symm
    obtain ⟨i0, hi, hz0, hz1, hz2⟩ := info_parts hinfo
    have hr : ∀ ty, (Builtin.append_ #[t, t] ty #[v, .slice none 0 c]).run Try.prog u = .ok v u := by
      intro ty
      obtain ⟨xs, hown, _⟩ := hrow
      rcases hown.2.2 with ⟨rfl, _⟩ | ⟨g, cap, cur, rfl, _, hg, hnc, _⟩
      · simp [Builtin.append_, run_underlying ht, sizeOf, typeInfo, hi, Builtin.lenOf, Builtin.firstCells, loadCells, loadCellsFrom]
      · simp [Builtin.append_, run_underlying ht, sizeOf, typeInfo, hi, Builtin.lenOf, Builtin.firstCells, loadCells, loadCellsFrom, hnc, storeCells]
    unfold Oper.wp execOp
    simp only [ho, resolve, invoke, builtin, Sem.run_bind, Sem.run_pure, Result.andThen_ok, List.map_toArray, List.map_cons, List.map_nil, hs, hx, hr]
    exact h v u (by simpa using hrow) ⟨rfl, rfl, rfl, Nat.le_refl _, fun _ _ _ => rfl⟩ (.inl rfl)
  · subst hm
    obtain ⟨i0, hi, hz0, hz1, hz2⟩ := info_parts hinfo
    obtain ⟨xs, hown, hch⟩ := hrow
    have hmul : (L.length + N.length) * 1 ≤ (L.length + N.length) * bytes := Nat.mul_le_mul_left _ hby
    obtain ⟨v', u', hr, h2, h3, h4, h5⟩ := run_append_own_at (P := Try.prog) u w0.heap.size t o.type e i0 z k bytes ht hi hz0 hz1 hz2 hzs hk0 v L.length xs hown.2 ad N.length c news hN.1 hcells h1 (by unfold maxLen; omega) hb hown.1.size
    unfold Oper.wp execOp
    simp only [ho, resolve, invoke, builtin, Sem.run_bind, Sem.run_pure, Result.andThen_ok, List.map_toArray, List.map_cons, List.map_nil, hs, hx, hr]
    refine (h v' u' ⟨xs ++ news, ⟨hown.row h3, by rw [List.length_append]; exact h2⟩, ?_⟩ h3 h5)
    have put : ∀ {ys : List Value} {M : List α}, Chunks R k (fun b => A b ∧ v.ownBlock ≠ some b) u ys M → Chunks R k (fun b => A b ∧ v'.ownBlock ≠ some b) u' ys M := fun {ys M} hc => by
      have c1 := hc.weak hR (A' := fun b => (A b ∧ v.ownBlock ≠ some b) ∧ b < u.heap.size) (fun b hb h => ⟨h, hb⟩)
      have c2 := c1.kept hR (Kept.grown h3 (fun b e => fun h => h.1.2 e))
      refine c2.weak hR (fun b _ h => ⟨h.1.1, fun e => ?_⟩)
      rcases h5 with h5 | h5
      · rw [h5] at e; exact h.1.2 e
      · rw [h5] at e
        have : u.heap.size = b := by simpa using e
        exact absurd h.2 (by omega)
    obtain ⟨l1, c1⟩ := put hch
    obtain ⟨l2, c2⟩ := put hN
    refine ⟨by rw [List.length_append, List.length_append, l1, l2, Nat.add_mul], fun i hi => ?_⟩
    rcases Nat.lt_or_ge i L.length with h' | h'
    · obtain ⟨cs, q1, q2⟩ := c1 i h'
      have e : (L ++ N).getD i default = L.getD i default := by rw [getE _ _ hi, getE _ _ h', List.getElem_append_left h']
      refine ⟨cs, by rw [e]; exact q1, fun j hj => ?_⟩
      rw [List.getElem?_append_left (by have : (i + 1) * k ≤ L.length * k := Nat.mul_le_mul_right k h'; rw [Nat.add_mul] at this; omega)]
      exact q2 j hj
    · have h'' : i - L.length < N.length := by simp at hi; omega
      obtain ⟨cs, q1, q2⟩ := c2 (i - L.length) h''
      have e : (L ++ N).getD i default = N.getD (i - L.length) default := by rw [getE _ _ hi, getE _ _ h'', List.getElem_append_right h']
      refine ⟨cs, by rw [e]; exact q1, fun j hj => ?_⟩
      have hle : L.length * k ≤ i * k := Nat.mul_le_mul_right k h'
      rw [List.getElem?_append_right (by omega), l1, idx_part i L.length k j h', ← q2 j hj]
/-- At a plain region's list of operations. -/
theorem row_appendP (hR : Firm R k) {ops : Array Oper} {rest : List Oper} {o : Oper} {a : Act} {Q : Exit → Act → World → Prop} {A : Where} {w0 u : World} (hgd : Region.wanted o (yielded ops a.tmps) = true) (s x : Operand) (t e : TypeId)
    (ho : o.op = .call { callee := .builtin .append, args := #[s, x], argTypes := #[t, t] }) (z : Value) (bytes : Nat) (hinfo : (Try.prog.info? e).map (fun i => (i.zero, i.size, i.bytes)) = some (some z, k, bytes)) (ht : Try.prog.underlying t = some (.slice e)) (hzs : z.cells.size = k) (hk0 : 0 < k) (hby : 1 ≤ bytes)
    (v : Value) (L : List α) (hs : a.eval s = v) (hrow : Row R k A w0 u e v L)
    (ad : Option Addr) (m c : Nat) (N : List α) (hx : a.eval x = .slice ad m c) (hN : Src R k (fun b => A b ∧ v.ownBlock ≠ some b) u ad m N) (hb : (L.length + N.length) * bytes ≤ 140737488355328)
    (h : ∀ v' u', Row R k A w0 u' e v' (L ++ N) → u.grownBy u' v.ownBlock → (v'.ownBlock = v.ownBlock ∨ v'.ownBlock = some u.heap.size) → wpList Try.prog ops Q rest (a.put o.dst v') u') : wpList Try.prog ops Q (o :: rest) a u :=
  BigFrame.wpList_want hgd (fun _ hK => row_appendP_wp hR s x t e ho z bytes hinfo ht hzs hk0 hby v L hs hrow ad m c N hx hN hb (fun v' u' h2 h3 h4 => hK _ _ (h v' u' h2 h3 h4)))
end
end Go.Proofs.Ytillkgflppabfaa
namespace Go.Proofs.Ytillkgflppabfaa
open Go.RowKit
set_option linter.unusedSimpArgs false
set_option maxRecDepth 100000

theorem RPod.reads9 {A : Where} {w : World} {cs : List Value} {p : PodD} (h : RPod A w cs p) : ∃ h2 h12 : Hd, cs[0]? = some (.string p.1) ∧ cs[2]? = some (.slice h2.1 h2.2.1 h2.2.2) ∧ cs[12]? = some (.slice h12.1 h12.2.1 h12.2.2) ∧ SlAt RLabel 2 32 A w h2.1 h2.2.1 h2.2.2 (pLabs p) ∧ SlAt RSpread 4 56 A w h12.1 h12.2.1 h12.2.2 (pSpreads p) := by
  obtain ⟨h2, h6, h7, h8, h9, h10, h11, h12, h13, rfl, _, s2, _, _, _, _, _, _, s12, _⟩ := h.out
  exact ⟨h2, h12, rfl, rfl, rfl, s2, s12⟩
theorem Row.slO9 {α : Type} [Inhabited α] {R : Rep α} {k : Nat} (hR : Firm R k) {bytes : Nat} {A : Where} {w0 u : World} {e : TypeId} {v : Value} {L : List α} (h : Row R k A w0 u e v L) (hb : L.length * bytes ≤ 140737488351232) :
    ∃ a cap, v = .slice a L.length cap ∧ SlAt R k bytes (fun _ => True) u a L.length cap L := by
  obtain ⟨xs, h1, h2⟩ := h
  obtain ⟨a, cap, e1, h3⟩ := sl_of_owns (bytes := bytes) hR h1.2 h2 hb
  exact ⟨a, cap, e1, h3.weak hR (fun b _ _ => trivial)⟩
theorem any_take9 {α : Type} [Inhabited α] (f : α → Bool) {L : List α} {k : Nat} (h : k < L.length) (h0 : (L.take k).any f = false) (h1 : f (L.getD k default) = false) : (L.take (k + 1)).any f = false := by
  rw [← take_at9 h, List.any_append, h0]
  generalize L.getD k default = y at h1 ⊢
  simp [h1]
theorem any_at9 {α : Type} [Inhabited α] (f : α → Bool) {L : List α} {k : Nat} (h : k < L.length) (h1 : f (L.getD k default) = true) : L.any f = true := by
  rw [List.any_eq_true]
  exact ⟨L.getD k default, by rw [List.getD_eq_getElem?_getD, List.getElem?_eq_getElem h]; exact List.getElem_mem h, h1⟩
/-- What lies behind the calls. -/
def ScAt (w : World) (cs : List Value) (p : PodD) (h2 h12 : Hd) (la : Option Addr) (ln lc : Nat) (Lb : List Lab) (a : Option Addr) (n cap : Nat) (N : List NodeD) (av : Option Addr) (q cv : Nat) (Q : List PlacedD) (u : World) : Prop :=
  BoxL u w.heap.size cs ∧ SlAt RLabel 2 32 (fun _ => True) u h2.1 h2.2.1 h2.2.2 (pLabs p) ∧ SlAt RSpread 4 56 (fun _ => True) u h12.1 h12.2.1 h12.2.2 (pSpreads p) ∧ SlAt RLabel 2 32 (fun _ => True) u la ln lc Lb ∧ SlAt RNode 9 112 (fun _ => True) u a n cap N ∧ SlAt RPlaced 17 320 (fun _ => True) u av q cv Q ∧ Below w.heap.size w u
theorem ScAt.on {w : World} {cs : List Value} {p : PodD} {h2 h12 : Hd} {la : Option Addr} {ln lc : Nat} {Lb : List Lab} {a : Option Addr} {n cap : Nat} {N : List NodeD} {av : Option Addr} {q cv : Nat} {Q : List PlacedD} {u u' : World} (h : ScAt w cs p h2 h12 la ln lc Lb a n cap N av q cv Q u) (hb : Below u.heap.size u u') : ScAt w cs p h2 h12 la ln lc Lb a n cap N av q cv Q u' :=
  ⟨h.1.on hb, h.2.1.on RLabel.firm hb, h.2.2.1.on RSpread.firm hb, h.2.2.2.1.on RLabel.firm hb, h.2.2.2.2.1.on RNode.firm hb, h.2.2.2.2.2.1.on RPlaced.firm hb, on2 h.2.2.2.2.2.2 hb⟩
set_option maxHeartbeats 16000000 in
theorem rSpr_calls (cs : List Value) (p : PodD) (la : Option Addr) (ln lc : Nat) (Lb : List Lab) (a : Option Addr) (n cap : Nat) (N : List NodeD) (b : Option Addr) (m capb : Nat) (Pl : List PlacedD) (w : World) (hp : Hid (RPod (fun _ => True) w cs p)) (hL : Hid (SlAt RLabel 2 32 (fun _ => True) w la ln lc Lb)) (hN : Hid (SlAt RNode 9 112 (fun _ => True) w a n cap N)) (hP : Hid (SlAt RPlaced 17 320 (fun _ => True) w b m capb Pl)) :
    Calls Try.prog 11 #[.agg cs.toArray, .slice la ln lc, .slice a n cap, .slice b m capb] w fun e w' => e = .returned (.int .i64 (spreadP 12 p Lb N Pl)) ∧ Below w.heap.size w w' := by
  obtain ⟨⟨f1, f2, f3⟩, ⟨x1, x2, x3⟩, e0, e2, e12, s2, s12⟩ := hp.out.reads9
  simp only at e2 e12 s2 s12
  have hbb : Hid (m * 320 ≤ 140737488351232) := hP.out.2.2.2.1
  have hmn : Hid (Pl.length = m) := hP.out.1
  obtain ⟨W1, hW1⟩ : ∃ W, W = w.alloc (.cells cs.toArray 33) := ⟨_, rfl⟩
  have B1 : Below w.heap.size w W1 := by rw [hW1]; go_grown
  have qx : BoxL W1 w.heap.size cs := by rw [hW1]; exact BoxL.new w 33 cs
  have c0 := (qx.2 0 _ e0).1
  have HO := Others_calls b m capb _ p.1 Pl W1 (hP.out.on RPlaced.firm B1)
  have HK1 : Hid (∀ u, Below W1.heap.size W1 u → ∀ av q cv Q, SlAt RPlaced 17 320 (fun _ => True) u av q cv Q → ScAt w cs p (f1, f2, f3) (x1, x2, x3) la ln lc Lb a n cap N av q cv Q u) := fun u hb av q cv Q hs => ⟨qx.on hb, s2.on RLabel.firm (on2 B1 hb), s12.on RSpread.firm (on2 B1 hb), hL.out.on RLabel.firm (on2 B1 hb), hN.out.on RNode.firm (on2 B1 hb), hs, on2 B1 hb⟩
  have HF : Hid (spreadP 12 p Lb N Pl = if (pSpreads p).any (badS (pLabs p) Lb N (othersN p.1 Pl)) = true then 12 else 0) := rfl
  have HE : Hid (cs[2]? = some (.slice f1 f2 f3) ∧ cs[12]? = some (.slice x1 x2 x3)) := ⟨e2, e12⟩
  generalize spreadP 12 p Lb N Pl = ans at HF
  clear hp hL hN hP s2 s12 qx B1 e0 e2 e12
  go_enter Try.func11, Try.ntmps11
  go_upto_region 1 with fail
  rw [← hW1]
  clear hW1
  go_wp2_with fail
  refine HO.mono ?_
  clear HO c0
  rintro e w3 ⟨v, rfl, hrow⟩
  have hq1 : (othersN p.1 Pl).length * 320 ≤ 140737488351232 := by have h1 := others_le8 p.1 Pl; rw [hmn.out] at h1; exact Nat.le_trans (Nat.mul_le_mul_right 320 h1) hbb.out
  obtain ⟨av, cv, rfl, sQ⟩ := hrow.slO9 (bytes := 320) RPlaced.firm hq1
  have HC : Hid (ScAt w cs p (f1, f2, f3) (x1, x2, x3) la ln lc Lb a n cap N av (othersN p.1 Pl).length cv (othersN p.1 Pl) w3) := HK1.out w3 hrow.below _ _ _ _ sQ
  clear hrow sQ HK1 hq1 hbb hmn
  generalize othersN p.1 Pl = Q at HC HF
  have hl12 := HC.out.2.2.1.len (by decide)
  have hn12 : Hid ((pSpreads p).length = x2) := HC.out.2.2.1.1
  have hnL : Hid (Lb.length = ln) := HC.out.2.2.2.1.1
  have hlQ : Hid (Q.length ≤ 140737488351232) := HC.out.2.2.2.2.2.1.len (by decide)
  go_wp2_with fail
  go_loopw [10] (fun i wr => ∃ k : Nat, k ≤ x2 ∧ i = .int .i64 k ∧ Hid (Below w3.heap.size w3 wr ∧ ((pSpreads p).take k).any (badS (pLabs p) Lb N Q) = false)) (fun i _ => x2 - (intOf i).toNat)
  case atStart => exact ⟨0, Nat.zero_le _, rfl, Below.refl _ _, rfl⟩
  case round =>
    obtain ⟨k, hk, rfl, hst⟩ := hrel
    have hC := HC.out.on hst.out.1
    have y12 := (hC.1.2 12 _ HE.out.2).1
    by_cases hlt : k < x2
    · have hltz : (k : Int) < (x2 : Int) := by omega
      have hkl : k < (pSpreads p).length := by rw [hn12.out]; exact hlt
      obtain ⟨B, off, rfl, hB, _, xs, hr, hv⟩ := hC.2.2.1.get hlt
      have HBad : Hid (badS (pLabs p) Lb N Q ((pSpreads p).getD k default) = true → ans = 12) := fun h => by rw [HF.out, if_pos (any_at9 _ hkl h)]
      have HGood : Hid (badS (pLabs p) Lb N Q ((pSpreads p).getD k default) = false → ((pSpreads p).take (k + 1)).any (badS (pLabs p) Lb N Q) = false) := fun h => any_take9 _ hkl hst.out.2 h
      generalize (pSpreads p).getD k default = s at hr HBad HGood
      have HBd : Hid (badS (pLabs p) Lb N Q s = (!(getL Lb s.1).2 || decide (s.2.1 < ((cntP s (getL Lb s.1).1 Q + (if matchL (pLabs p) (sReqs s) = true then 1 else 0) : Nat) : Int) - (if ((domsP s.1 N).length : Int) < s.2.2.1 then 0 else (loP (fun v => cntP s v Q) (domsP s.1 N) : Int))))) := rfl
      generalize badS (pLabs p) Lb N Q s = bad at HBd HBad HGood
      obtain ⟨⟨r1, r2, r3⟩, hxs, _, sr⟩ := hr.out
      simp only at hxs sr
      have hl4 : xs.length = 4 := RSpread.firm.len hr
      have hi4 : (Try.prog.info? 45).map (·.size) = some xs.length := by rw [hl4]; exact sizeSp
      have hi4a : (Try.prog.info? 45).map (·.size) = some xs.toArray.size := by simpa using hi4
      have HO4 : Hid (xs.toArray.all (·.oneCell') = true) := all_oneCell_toArray (RSpread.firm.one hr)
      have HV0 : Hid (wr.rangeAt B (off + k * 4) xs) := hv
      have HVz : Hid ((wr.alloc (.cells #[.string ⟨#[]⟩, .int .i64 0, .int .i64 0, .slice none 0 0] 45)).rangeAt B (off + k * 4) xs) := fun j v hj => (((Below.refl _ wr).alloc (Nat.le_refl _) _).cell hB).trans (hv j v hj)
      obtain ⟨V, hV⟩ : ∃ V, V = (wr.alloc (.cells #[.string ⟨#[]⟩, .int .i64 0, .int .i64 0, .slice none 0 0] 45)).setCells wr.heap.size 0 xs := ⟨_, rfl⟩
      have HTh : Hid ((wr.alloc (.cells #[.string ⟨#[]⟩, .int .i64 0, .int .i64 0, .slice none 0 0] 45)).there wr.heap.size 0 xs.toArray.size) := by have e : xs.toArray.size = 4 := (by simp [hl4]); rw [Hid, e]; exact (BoxL.new wr 45 [.string ⟨#[]⟩, .int .i64 0, .int .i64 0, .slice none 0 0]).there
      have bV : Below wr.heap.size wr V := by rw [hV]; exact below_setCells ((Below.refl _ _).alloc (Nat.le_refl _) _) (Nat.le_refl _)
      have qV : BoxL V wr.heap.size xs := by rw [hV]; exact box_over8 (BoxL.new wr 45 [.string ⟨#[]⟩, .int .i64 0, .int .i64 0, .slice none 0 0]) (by rw [hl4]; rfl)
      have HWV : Hid (V = (wr.alloc (.cells #[.string ⟨#[]⟩, .int .i64 0, .int .i64 0, .slice none 0 0] 45)).setCells wr.heap.size 0 xs.toArray.toList) := by rw [Hid, hV]
      have HU : Hid (∀ u, Below V.heap.size V u → BoxL u wr.heap.size xs ∧ RSpread (fun _ => True) u xs s ∧ SlAt RReq 3 48 (fun _ => True) u r1 r2 r3 (sReqs s) ∧ ScAt w cs p (f1, f2, f3) (some ⟨B, off, none⟩, x2, x3) la ln lc Lb a n cap N av Q.length cv Q u ∧ Below w3.heap.size w3 u) := fun u hb => ⟨qV.on hb, RSpread.firm.kept hr (Kept.below (on2 bV hb)), sr.on RReq.firm (on2 bV hb), (hC.on bV).on hb, on2 hst.out.1 (on2 bV hb)⟩
      have HXs : Hid (xs[0]? = some (.string s.1) ∧ xs[1]? = some (.int .i64 s.2.1) ∧ xs[2]? = some (.int .i64 s.2.2.1) ∧ xs[3]? = some (.slice r1 r2 r3)) := by rw [Hid, hxs]; exact ⟨rfl, rfl, rfl, rfl⟩
      have v0 := (qV.2 0 _ HXs.out.1).1
      have HG := rGet_calls la lc Lb s.1 V (labs_of (HU.out V (Below.refl _ _)).2.2.2.1.2.2.2.1)
      rw [hnL.out] at HG
      have hcl := cnt_le s (getL Lb s.1).1 Q
      have hlo := (lo_le (fun v => cntP s v Q) _ (fun d => Nat.le_trans (cnt_le s d Q) hlQ.out) (domsP s.1 N)).1
      have hdl := vals_le s.1 N
      have hdl2 : Hid ((domsP s.1 N).length ≤ 140737488351232) := by have h1 : (domsP s.1 N).length ≤ (valsP s.1 N).length := sortB_len _ _ _; have h2 := hC.2.2.2.2.1.len (by decide); have h3 := hC.2.2.2.2.1.1; rw [Hid]; omega
      clear hst hC hr hv hxs sr bV qV hV hkl hdl
      go_wp2_with (first | (refine wpList_load_mid rfl 45 _ rfl B (off + k * 4) rfl xs _ HV0.out Try.underlying45 rfl hi4 ?_) | (refine wpList_load_mid rfl 45 _ rfl B (off + k * 4) rfl xs _ HVz.out Try.underlying45 rfl hi4 ?_) | (refine wpList_store_mid rfl 45 _ _ rfl wr.heap.size 0 xs.toArray rfl rfl HTh.out hi4a HO4.out ?_; refine wpl_w8 HWV.out ?_) | fail)
      refine HG.mono ?_
      clear HG v0 HV0 HVz HTh HO4 HWV hi4a y12
      rintro e w8 ⟨rfl, hw8⟩
      rw [hw8]
      clear hw8 w8
      generalize getL Lb s.1 = g at HBd hcl
      obtain ⟨gv, gb⟩ := g
      simp only at HBd hcl
      cases gb
      ·
        have hb : bad = true := HBd.out
        have ha : ans = 12 := HBad.out hb
        have HBw : Hid (Below w.heap.size w V) := (HU.out V (Below.refl _ _)).2.2.2.1.2.2.2.2.2.2
        clear HBad HGood HBd HU
        subst ha
        go_wp2_with fail
        go_ret
        exact ⟨rfl, HBw.out⟩
      ·
        replace HBd : Hid (bad = decide (s.2.1 < ((cntP s gv Q + (if matchL (pLabs p) (sReqs s) = true then 1 else 0) : Nat) : Int) - (if ((domsP s.1 N).length : Int) < s.2.2.1 then 0 else (loP (fun v => cntP s v Q) (domsP s.1 N) : Int)))) := HBd
        have v0 := ((HU.out V (Below.refl _ _)).1.2 0 _ HXs.out.1).1
        have HDm := rDom_calls s.1 a n cap _ N V (HU.out V (Below.refl _ _)).2.2.2.1.2.2.2.2.1
        go_wp2_with fail
        refine HDm.mono ?_
        clear HDm v0
        rintro e u1 ⟨a', cap', rfl, sd, b1⟩
        have HEn := rEnds_calls xs _ _ _ s a' (domsP s.1 N).length cap' (domsP s.1 N) av Q.length cv Q u1 (HU.out u1 b1).2.1 sd (HU.out u1 b1).2.2.2.1.2.2.2.2.2.1
        have HR1 : Hid (u1.rangeAt wr.heap.size 0 xs) := (HU.out u1 b1).1.range
        have HU1 : Hid (Below V.heap.size V u1) := b1
        clear sd b1
        generalize hDl : (domsP s.1 N).length = dl at HEn HBd hdl2
        clear hDl
        generalize loP (fun v => cntP s v Q) (domsP s.1 N) = lo at HEn HBd hlo
        generalize hiP (fun v => cntP s v Q) (domsP s.1 N) = hi at HEn
        go_wp2_with (first | (refine wpList_load_mid rfl 45 _ rfl wr.heap.size 0 rfl xs _ HR1.out Try.underlying45 rfl hi4 ?_) | fail)
        refine HEn.mono ?_
        clear HEn HR1
        rintro e u2 ⟨rfl, b2⟩
        have HU2 : Hid (Below V.heap.size V u2) := on2 HU1.out b2
        clear b2 HU1
        have v2 := ((HU.out u2 HU2.out).1.2 2 _ HXs.out.2.2.1).1
        have HCt := rCnt_calls xs _ _ s gv av Q.length cv Q u2 (HU.out u2 HU2.out).2.1 (HU.out u2 HU2.out).2.2.2.1.2.2.2.2.2.1
        have HR2 : Hid (u2.rangeAt wr.heap.size 0 xs) := (HU.out u2 HU2.out).1.range
        have hq3 := hdl2.out
        obtain ⟨l2, hl2⟩ : ∃ l2 : Nat, (l2 : Int) = (if (dl : Int) < s.2.2.1 then 0 else (lo : Int)) := by by_cases h : (dl : Int) < s.2.2.1; exact ⟨0, by rw [if_pos h]; rfl⟩; exact ⟨lo, by rw [if_neg h]⟩
        have HL2 : Hid (l2 ≤ 140737488351232) := by have h1 := hl2; rw [Hid]; split at h1 <;> omega
        rw [← hl2] at HBd
        generalize hcn : cntP s gv Q = c0 at HCt HBd hcl
        clear hcn
        by_cases hls : (dl : Int) < s.2.2.1
        ·
          obtain rfl : l2 = 0 := by rw [if_pos hls] at hl2; omega
          clear hl2
          go_wp2_with (first | (refine wpList_load_mid rfl 45 _ rfl wr.heap.size 0 rfl xs _ HR2.out Try.underlying45 rfl hi4 ?_) | fail)
          refine HCt.mono ?_
          clear HCt HR2 v2
          rintro e u3 ⟨rfl, b3⟩
          have HU3 : Hid (Below V.heap.size V u3) := on2 HU2.out b3
          clear b3 HU2
          have hsc := (HU.out u3 HU3.out).2.2.2.1
          have HMt := rMatch_sl f1 f2 f3 _ (pLabs p) r1 r2 r3 _ (sReqs s) u3 hsc.2.1 (HU.out u3 HU3.out).2.2.1
          have y2 := (hsc.1.2 2 _ HE.out.1).1
          have v3 := ((HU.out u3 HU3.out).1.2 3 _ HXs.out.2.2.2).1
          clear hsc
          generalize matchL (pLabs p) (sReqs s) = mt at HMt HBd
          go_wp2_with fail
          refine HMt.mono ?_
          clear HMt y2 v3
          rintro e u4 ⟨rfl, b4⟩
          have hU4 : Below V.heap.size V u4 := on2 HU3.out b4
          have v1 := ((HU.out u4 hU4).1.2 1 _ HXs.out.2.1).1
          have HBw : Hid (Below w.heap.size w u4 ∧ Below w3.heap.size w3 u4) := ⟨(HU.out u4 hU4).2.2.2.1.2.2.2.2.2.2, (HU.out u4 hU4).2.2.2.2⟩
          clear b4 hU4 HU3 HU
          have hqL := HL2.out
          have hqQ := hlQ.out
          cases mt
          ·
            replace HBd : Hid (bad = decide (s.2.1 < ((c0 + 0 : Nat) : Int) - ((0 : Nat) : Int))) := HBd
            by_cases hgt : s.2.1 < (c0 : Int)
            ·
              have hb : bad = true := by rw [HBd.out]; exact decide_eq_true (by omega)
              have ha : ans = 12 := HBad.out hb
              clear HBad HGood HBd
              subst ha
              go_wp2_with fail
              go_ret
              exact ⟨rfl, HBw.out.1⟩
            ·
              have hb : bad = false := by rw [HBd.out]; exact decide_eq_false (by omega)
              have HNx := HGood.out hb
              clear HBad HGood HBd
              go_wp2_with fail
              go_roundw
              case rel => exact ⟨k + 1, by omega, by go_num, HBw.out.2, HNx⟩
              case measure => simp [intOf]; omega
          ·
            replace HBd : Hid (bad = decide (s.2.1 < ((c0 + 1 : Nat) : Int) - ((0 : Nat) : Int))) := HBd
            by_cases hgt : s.2.1 < (c0 : Int) + 1
            ·
              have hb : bad = true := by rw [HBd.out]; exact decide_eq_true (by omega)
              have ha : ans = 12 := HBad.out hb
              clear HBad HGood HBd
              subst ha
              go_wp2_with fail
              go_ret
              exact ⟨rfl, HBw.out.1⟩
            ·
              have hb : bad = false := by rw [HBd.out]; exact decide_eq_false (by omega)
              have HNx := HGood.out hb
              clear HBad HGood HBd
              go_wp2_with fail
              go_roundw
              case rel => exact ⟨k + 1, by omega, by go_num, HBw.out.2, HNx⟩
              case measure => simp [intOf]; omega
        ·
          have hl3 : lo = l2 := by rw [if_neg hls] at hl2; omega
          clear hl2
          subst hl3
          go_wp2_with (first | (refine wpList_load_mid rfl 45 _ rfl wr.heap.size 0 rfl xs _ HR2.out Try.underlying45 rfl hi4 ?_) | fail)
          refine HCt.mono ?_
          clear HCt HR2 v2
          rintro e u3 ⟨rfl, b3⟩
          have HU3 : Hid (Below V.heap.size V u3) := on2 HU2.out b3
          clear b3 HU2
          have hsc := (HU.out u3 HU3.out).2.2.2.1
          have HMt := rMatch_sl f1 f2 f3 _ (pLabs p) r1 r2 r3 _ (sReqs s) u3 hsc.2.1 (HU.out u3 HU3.out).2.2.1
          have y2 := (hsc.1.2 2 _ HE.out.1).1
          have v3 := ((HU.out u3 HU3.out).1.2 3 _ HXs.out.2.2.2).1
          clear hsc
          generalize matchL (pLabs p) (sReqs s) = mt at HMt HBd
          go_wp2_with fail
          refine HMt.mono ?_
          clear HMt y2 v3
          rintro e u4 ⟨rfl, b4⟩
          have hU4 : Below V.heap.size V u4 := on2 HU3.out b4
          have v1 := ((HU.out u4 hU4).1.2 1 _ HXs.out.2.1).1
          have HBw : Hid (Below w.heap.size w u4 ∧ Below w3.heap.size w3 u4) := ⟨(HU.out u4 hU4).2.2.2.1.2.2.2.2.2.2, (HU.out u4 hU4).2.2.2.2⟩
          clear b4 hU4 HU3 HU
          have hqL := HL2.out
          have hqQ := hlQ.out
          cases mt
          ·
            replace HBd : Hid (bad = decide (s.2.1 < ((c0 + 0 : Nat) : Int) - ((lo : Nat) : Int))) := HBd
            by_cases hgt : s.2.1 < (c0 : Int) - (lo : Int)
            ·
              have hb : bad = true := by rw [HBd.out]; exact decide_eq_true (by omega)
              have ha : ans = 12 := HBad.out hb
              clear HBad HGood HBd
              subst ha
              go_wp2_with fail
              go_ret
              exact ⟨rfl, HBw.out.1⟩
            ·
              have hb : bad = false := by rw [HBd.out]; exact decide_eq_false (by omega)
              have HNx := HGood.out hb
              clear HBad HGood HBd
              go_wp2_with fail
              go_roundw
              case rel => exact ⟨k + 1, by omega, by go_num, HBw.out.2, HNx⟩
              case measure => simp [intOf]; omega
          ·
            replace HBd : Hid (bad = decide (s.2.1 < ((c0 + 1 : Nat) : Int) - ((lo : Nat) : Int))) := HBd
            by_cases hgt : s.2.1 < (c0 : Int) + 1 - (lo : Int)
            ·
              have hb : bad = true := by rw [HBd.out]; exact decide_eq_true (by omega)
              have ha : ans = 12 := HBad.out hb
              clear HBad HGood HBd
              subst ha
              go_wp2_with fail
              go_ret
              exact ⟨rfl, HBw.out.1⟩
            ·
              have hb : bad = false := by rw [HBd.out]; exact decide_eq_false (by omega)
              have HNx := HGood.out hb
              clear HBad HGood HBd
              go_wp2_with fail
              go_roundw
              case rel => exact ⟨k + 1, by omega, by go_num, HBw.out.2, HNx⟩
              case measure => simp [intOf]; omega
    · have hlz : ¬ ((k : Int) < (x2 : Int)) := by omega
      have hk' : (pSpreads p).take k = pSpreads p := List.take_of_length_le (by rw [hn12.out]; omega)
      have ha : ans = 0 := by have h1 := hst.out.2; rw [hk'] at h1; rw [HF.out, h1]; rfl
      have HBw : Hid (Below w.heap.size w wr) := hC.2.2.2.2.2.2
      clear hst hC HF
      subst ha
      go_wp2_with fail
      go_ret
      exact ⟨rfl, HBw.out⟩
end Go.Proofs.Ytillkgflppabfaa
