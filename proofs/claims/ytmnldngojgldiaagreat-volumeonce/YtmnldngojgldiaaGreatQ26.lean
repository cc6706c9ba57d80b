/- plan.add: decided for one claim. Condition: the plan lies as is said of it; each volume has a name of its own. An append to a row that has room: nothing grows. Plain facts on worlds. No condition. all at texts: those that count, in order. Condition: the list and its map lie as is said of them. tableOf at texts: where the first one of each stands. Condition: the list lies as is said of it. -/
import Derived.Test.YtmnldngojgldiaaGreatQ25
import Derived.Test.YtmnldngojgldiaaGreatQ14
import Derived.Laws.OwnMore
import Derived.Test.YtmnldngojgldiaaGreatQ20
import Derived.Test.YtmnldngojgldiaaGreatQ15
namespace Go.Proofs.YtmnldngojgldiaaGreat
open Go.RowKit Go.Maps
set_option linter.unusedSimpArgs false
set_option maxRecDepth 100000

/-- What add hands back. -/
def AdOut (w Wp : World) (X : Nat) (lv0 : Value) (C : List Value) (NL : List Lab) (CL : List ClaimD) (V : List VolumeD) (K : List ClassD) (nm : ByteArray) (out : List PickD) (e : Ending) (u' : World) : Prop :=
  (∃ x, stepP (V, CL) K NL (out.map Prod.snd) nm = .error x ∧ x ≠ 0 ∧ e = .returned (.int .i64 x) ∧ Below w.heap.size w u') ∨
  (∃ lv pv, stepP (V, CL) K NL (out.map Prod.snd) nm = .ok none ∧ e = .returned (.int .i64 0) ∧ PlS w Wp X lv0 C NL V V.length u' lv pv (out.map Prod.snd) out) ∨
  ∃ pk lv pv, stepP (V, CL) K NL (out.map Prod.snd) nm = .ok (some pk) ∧ e = .returned (.int .i64 0) ∧ PlS w Wp X lv0 C NL V V.length u' lv pv ((out ++ [pk]).map Prod.snd) (out ++ [pk])
set_option maxHeartbeats 16000000 in
theorem add_calls (w Wp : World) (X : Nat) (lv0 : Value) (la : Option Addr) (ln lc : Nat) (ca : Option Addr) (cn cc cm : Nat) (va : Option Addr) (vn vc vm : Nat) (ka : Option Addr) (kn kc km : Nat) (NL : List Lab) (CL : List ClaimD) (V : List VolumeD) (K : List ClassD) (lv pv : Value) (out : List PickD) (nm : ByteArray) (u : World) (hp : Hid (PlC w Wp X lv0 la ln lc ca cn cc cm va vn vc vm ka kn kc km NL CL V K)) (hs : Hid (PlS w Wp X lv0 [.slice la ln lc, .slice ca cn cc, .map (some cm), .slice va vn vc, .map (some vm), .slice ka kn kc, .map (some km)] NL V V.length u lv pv (out.map Prod.snd) out)) (hn : (vNs V).Nodup) (hz : nm.size ≤ 140737488355328) :
    Calls Tryz.prog 36 #[.pointer (some ⟨X, 0, none⟩), .string nm] u (AdOut w Wp X lv0 [.slice la ln lc, .slice ca cn cc, .map (some cm), .slice va vn vc, .map (some vm), .slice ka kn kc, .map (some km)] NL CL V K nm out) := by
  obtain ⟨_, sc, _, _, mc, _, _⟩ := hp.out.at hs.out.kp
  have hC := fndClaim_calls ca cn cc _ CL cm nm u sc mc hz
  have c1 := (hs.out.bx.2 1 _ rfl).1
  have c2 := (hs.out.bx.2 2 _ rfl).1
  have HR : Hid (∀ k, fI (cNs CL) nm = some k → stepP (V, CL) K NL (out.map Prod.snd) nm = if sEq (cVo (CL.getD k default)) B0 = true then (if waitsP K (CL.getD k default).2.2.1 = true then (match bestP (CL.getD k default) NL V (out.map Prod.snd) with | none => .error 14 | some j => .ok (some ((CL.getD k default).1, (V.getD j default).1))) else .error 13) else (if keepP V NL (CL.getD k default) = 0 then .ok none else .error (keepP V NL (CL.getD k default)))) := fun k hk => by
    unfold stepP
    simp only
    rw [hk]
    simp only
    split
    · rfl
    · unfold keepP
      cases fI (vNs V) (cVo (CL.getD k default)) with
      | none => rfl
      | some j =>
        simp only
        cases sEq (vCl (V.getD j default)) (CL.getD k default).1 with
        | false => rfl
        | true =>
          cases matchL NL (vRq (V.getD j default)) <;> rfl
  have HR0 : Hid (fI (cNs CL) nm = none → stepP (V, CL) K NL (out.map Prod.snd) nm = .error 13) := fun hk => by
    unfold stepP
    simp only
    rw [hk]
  have HS : Hid (∀ z, Below u.heap.size u z → PlS w Wp X lv0 [.slice la ln lc, .slice ca cn cc, .map (some cm), .slice va vn vc, .map (some vm), .slice ka kn kc, .map (some km)] NL V V.length z lv pv (out.map Prod.snd) out) := fun z hb => hs.out.on hb
  clear sc mc hs
  go_enter Tryz.func36, Tryz.ntmps36
  go_wp2_with fail
  refine hC.mono ?_
  rintro e w1 ⟨rfl, b1⟩
  clear hC c1 c2
  cases hf : fI (cNs CL) nm with
  | none =>
    have hpa : pAt 4 ca none = none := by cases ca <;> rfl
    rw [hpa]
    have HF : Hid (stepP (V, CL) K NL (out.map Prod.snd) nm = .error 13 ∧ Below w.heap.size w w1) := ⟨HR0.out hf, (HS.out w1 b1).bw⟩
    clear hpa HR HR0 HS b1 hf hp
    go_wp2_with fail
    go_ret
    exact .inl ⟨13, HF.out.1, by decide, rfl, HF.out.2⟩
  | some k =>
    have hst := HR.out k hf
    have hs1 := HS.out w1 b1
    obtain ⟨_, sc, _, _, _, _, _⟩ := hp.out.at hs1.kp
    have hk := (fI_some hf).1
    rw [List.length_map, sc.1] at hk
    obtain ⟨B, off, rfl, hB, _, cs, hr, hv⟩ := sc.get hk
    have hlc := RClaim.firm.len hr
    have hic : (Tryz.prog.info? 44).map (·.size) = some cs.length := by rw [hlc]; exact iszClaim
    have hpa : pAt 4 (some ⟨B, off, none⟩) (some k) = some ⟨B, off + k * 4, none⟩ := rfl
    rw [hpa]
    have HV : Hid (∀ z, Below w1.heap.size w1 z → z.rangeAt B (off + k * 4) cs ∧ RClaim (fun b => b < w.heap.size) z cs (CL.getD k default) ∧ PlS w Wp X lv0 [.slice la ln lc, .slice (some ⟨B, off, none⟩) cn cc, .map (some cm), .slice va vn vc, .map (some vm), .slice ka kn kc, .map (some km)] NL V V.length z lv pv (out.map Prod.snd) out) := fun z hb => ⟨fun j v hj => (hb.cell hB).trans (hv j v hj), RClaim.firm.kept hr (Kept.below hb), hs1.on hb⟩
    have Hst : Hid (stepP (V, CL) K NL (out.map Prod.snd) nm = if sEq (cVo (CL.getD k default)) B0 = true then (if waitsP K (CL.getD k default).2.2.1 = true then (match bestP (CL.getD k default) NL V (out.map Prod.snd) with | none => .error 14 | some j => .ok (some ((CL.getD k default).1, (V.getD j default).1))) else .error 13) else (if keepP V NL (CL.getD k default) = 0 then .ok none else .error (keepP V NL (CL.getD k default)))) := hst
    have HRg : Hid (w1.rangeAt B (off + k * 4) cs) := hv
    have hCh := hasVolume_calls cs _ _ w1 hr
    clear hst hs1 sc hr hv hpa HR HR0 HS b1 hf hB
    generalize CL.getD k default = c at HV Hst hCh
    generalize hbb : sEq (cVo c) B0 = b at hCh Hst
    clear hbb
    go_wp2_with (first | (refine wpList_load_mid rfl 44 _ rfl B (off + k * 4) rfl cs _ HRg.out Tryz.underlying44 rfl hic ?_) | fail)
    refine hCh.mono ?_
    rintro e w2 ⟨rfl, b2⟩
    clear hCh HRg
    obtain ⟨rg2, rc2, ps2⟩ := HV.out w2 b2
    have HRg : Hid (w2.rangeAt B (off + k * 4) cs) := rg2
    cases b with
    | false =>
      have hCk := keep_calls w Wp X lv0 la ln lc _ cn cc cm va vn vc vm ka kn kc km NL CL V K lv pv cs _ c w2 hp.out ps2.kp ps2.bx rc2
      have HP : Hid (∀ z, Below w2.heap.size w2 z → PlS w Wp X lv0 [.slice la ln lc, .slice (some ⟨B, off, none⟩) cn cc, .map (some cm), .slice va vn vc, .map (some vm), .slice ka kn kc, .map (some km)] NL V V.length z lv pv (out.map Prod.snd) out) := fun z hb => ps2.on hb
      have Hs2 : Hid (stepP (V, CL) K NL (out.map Prod.snd) nm = if keepP V NL c = 0 then .ok none else .error (keepP V NL c)) := by have h9 := Hst.out; rw [if_neg (by decide)] at h9; exact h9
      clear Hst HV rg2 rc2 ps2 b2 hp
      generalize keepP V NL c = x at hCk Hs2
      go_wp2_with (first | (refine wpList_load_mid rfl 44 _ rfl B (off + k * 4) rfl cs _ HRg.out Tryz.underlying44 rfl hic ?_) | fail)
      refine hCk.mono ?_
      rintro e w3 ⟨rfl, b3⟩
      have p3 := HP.out w3 b3
      have HF : Hid (AdOut w Wp X lv0 [.slice la ln lc, .slice (some ⟨B, off, none⟩) cn cc, .map (some cm), .slice va vn vc, .map (some vm), .slice ka kn kc, .map (some km)] NL CL V K nm out (.returned (.int .i64 x)) w3) := by
        have h9 := Hs2.out
        by_cases hx : x = 0
        · rw [if_pos hx] at h9
          exact .inr (.inl ⟨lv, pv, h9, by rw [hx], p3⟩)
        · rw [if_neg hx] at h9
          exact .inl ⟨x, h9, hx, rfl, p3.bw⟩
      clear hCk HP Hs2 p3 b3 HRg
      go_wp2_with fail
      go_ret
      exact HF.out
    | true =>
      have hCw := waits_calls w Wp X lv0 la ln lc _ cn cc cm va vn vc vm ka kn kc km NL CL V K lv pv cs _ c w2 hp.out ps2.kp ps2.bx rc2
      have HP : Hid (∀ z, Below w2.heap.size w2 z → PlS w Wp X lv0 [.slice la ln lc, .slice (some ⟨B, off, none⟩) cn cc, .map (some cm), .slice va vn vc, .map (some vm), .slice ka kn kc, .map (some km)] NL V V.length z lv pv (out.map Prod.snd) out ∧ RClaim (fun b => b < w.heap.size) z cs c ∧ z.rangeAt B (off + k * 4) cs) := fun z hb => by
        obtain ⟨h1, h2, h3⟩ := HV.out z (on2 b2 hb)
        exact ⟨h3, h2, h1⟩
      have Hs2 : Hid (stepP (V, CL) K NL (out.map Prod.snd) nm = if waitsP K c.2.2.1 = true then (match bestP c NL V (out.map Prod.snd) with | none => .error 14 | some j => .ok (some (c.1, (V.getD j default).1))) else .error 13) := by have h9 := Hst.out; rw [if_pos rfl] at h9; exact h9
      have Hv : Hid (V.length * 80 ≤ 140737488355328) := hp.out.hv
      clear Hst HV rg2 rc2 ps2 b2 hp
      generalize waitsP K c.2.2.1 = x at hCw Hs2
      go_wp2_with (first | (refine wpList_load_mid rfl 44 _ rfl B (off + k * 4) rfl cs _ HRg.out Tryz.underlying44 rfl hic ?_) | fail)
      refine hCw.mono ?_
      rintro e w3 ⟨rfl, b3⟩
      obtain ⟨p3, rc3, rg3⟩ := HP.out w3 b3
      clear hCw HP HRg b3
      cases x with
      | false =>
        have HF : Hid (stepP (V, CL) K NL (out.map Prod.snd) nm = .error 13 ∧ Below w.heap.size w w3) := ⟨by have h9 := Hs2.out; rw [if_neg (by decide)] at h9; exact h9, p3.bw⟩
        clear p3 rc3 rg3 Hs2
        go_wp2_with fail
        go_ret
        exact .inl ⟨13, HF.out.1, by decide, rfl, HF.out.2⟩
      | true =>
        have HRg : Hid (w3.rangeAt B (off + k * 4) cs) := rg3
        have hCp := pick_calls w Wp X lv0 la ln lc _ cn cc cm va vn vc vm ka kn kc km NL V lv pv out cs _ c w3 p3 Hv.out hn rc3
        have Hs3 : Hid (stepP (V, CL) K NL (out.map Prod.snd) nm = match bestP c NL V (out.map Prod.snd) with | none => .error 14 | some j => .ok (some (c.1, (V.getD j default).1))) := by have h9 := Hs2.out; rw [if_pos rfl] at h9; exact h9
        clear p3 rc3 rg3 Hs2
        go_wp2_with (first | (refine wpList_load_mid rfl 44 _ rfl B (off + k * 4) rfl cs _ HRg.out Tryz.underlying44 rfl hic ?_) | fail)
        refine hCp.mono ?_
        intro e w4 h4
        have HF : Hid (AdOut w Wp X lv0 [.slice la ln lc, .slice (some ⟨B, off, none⟩) cn cc, .map (some cm), .slice va vn vc, .map (some vm), .slice ka kn kc, .map (some km)] NL CL V K nm out e w4) := by
          have h9 := Hs3.out
          rcases h4 with ⟨hb, he, h5⟩ | ⟨j, lv', pv', hb, he, h5⟩
          · rw [hb] at h9
            exact .inl ⟨14, h9, by decide, he, h5⟩
          · rw [hb] at h9
            exact .inr (.inr ⟨_, lv', pv', h9, he, h5⟩)
        have he : ∃ y, e = .returned (.int .i64 y) := by
          rcases h4 with ⟨hb, he, h5⟩ | ⟨j, lv', pv', hb, he, h5⟩
          · exact ⟨_, he⟩
          · exact ⟨_, he⟩
        obtain ⟨y, rfl⟩ := he
        clear hCp Hs3 h4 HRg
        go_wp2_with fail
        go_ret
        exact HF.out
end Go.Proofs.YtmnldngojgldiaaGreat
namespace Go.Proofs.YtmnldngojgldiaaGreat
open Go.RowKit
set_option linter.unusedSimpArgs false

/-- The row has room for t in all. -/
def Roomy (v : Value) (n t : Nat) : Prop := (v = .slice none 0 0 ∧ t = 0) ∨ ∃ g cap, v = .slice (some ⟨g, 0, none⟩) n cap ∧ t ≤ cap
section
variable {α : Type} [Inhabited α] {R : Rep α} {k : Nat}
theorem append_none10 (t ty e : TypeId) (i : TypeInfo) (ht : Tryz.prog.underlying t = some (.slice e)) (hi : Tryz.prog.info? e = some i) (ad : Option Addr) (c : Nat) (u : World) : (Builtin.append_ #[t, t] ty #[.slice none 0 0, .slice ad 0 c]).run Tryz.prog u = .ok (.slice none 0 0) u := by
  cases ad with
  | none => simp [Builtin.append_, run_underlying ht, sizeOf, typeInfo, hi, Builtin.lenOf, Builtin.firstCells]
  | some a =>
    have hf := run_firstCells_some (P := Tryz.prog) u i.size 0 a 0 c [] (by simp) (by simp)
    simp [Builtin.append_, run_underlying ht, sizeOf, typeInfo, hi, Builtin.lenOf, hf]
theorem row_appendC_wp (hR : Firm R k) {o : Oper} {a : Act} {K : Act → World → Prop} {Q : Exit → Act → World → Prop} {A : Where} {w0 u : World} (s x : Operand) (t e : TypeId)
    (ho : o.op = .call { callee := .builtin .append, args := #[s, x], argTypes := #[t, t] }) (z : Value) (bytes : Nat) (hinfo : (Tryz.prog.info? e).map (fun i => (i.zero, i.size, i.bytes)) = some (some z, k, bytes)) (ht : Tryz.prog.underlying t = some (.slice e))
    (v : Value) (L : List α) (T : Nat) (hs : a.eval s = v) (hrow : Row R k A w0 u e v L) (hT : Roomy v L.length T)
    (ad : Option Addr) (m c : Nat) (N : List α) (hx : a.eval x = .slice ad m c) (hN : Src R k (fun b => A b ∧ v.ownBlock ≠ some b) u ad m N) (hb : L.length + N.length ≤ T)
    (h : ∀ v' u', Row R k A w0 u' e v' (L ++ N) → u.grownBy u' v.ownBlock → v'.ownBlock = v.ownBlock → Roomy v' (L ++ N).length T → K (a.put o.dst v') u') : o.wp Tryz.prog a u K Q := by
  obtain ⟨i0, hi, hz0, hz1, hz2⟩ := info_parts hinfo
  have stay : ∀ (hNe : N = []) (hr : ∀ ty, (Builtin.append_ #[t, t] ty #[v, .slice ad m c]).run Tryz.prog u = .ok v u), o.wp Tryz.prog a u K Q := fun hNe hr => by
    unfold Oper.wp execOp
    simp only [ho, resolve, invoke, builtin, Sem.run_bind, Sem.run_pure, Result.andThen_ok, List.map_toArray, List.map_cons, List.map_nil, hs, hx, hr]
    exact h v u (by rw [hNe]; simpa using hrow) ⟨rfl, rfl, rfl, Nat.le_refl _, fun _ _ _ => rfl⟩ rfl (by rw [hNe]; simpa using hT)
  obtain ⟨hm, hN⟩ := hN
  rcases hT with ⟨rfl, rfl⟩ | ⟨g, cap, rfl, hcap⟩
  · obtain rfl : N = [] := List.eq_nil_of_length_eq_zero (by omega)
    obtain rfl : m = 0 := by simpa using hm.symm
    exact stay rfl (fun ty => append_none10 t ty e i0 ht hi ad c u)
  · rcases hN with ⟨rfl, rfl⟩ | ⟨ad, news, rfl, hN, hcells, h1⟩
    · obtain rfl : m = 0 := by simpa using hm.symm
      refine stay rfl (fun ty => ?_)
      obtain ⟨xs, hown, _⟩ := hrow
      rcases hown.2.2 with ⟨hv, _⟩ | ⟨g', cap', cur, hv, _, hg, hnc, _⟩
      · cases hv
      · have hv' : g = g' ∧ cap = cap' := by simpa using hv
        obtain ⟨rfl, rfl⟩ := hv'
        simp [Builtin.append_, run_underlying ht, sizeOf, typeInfo, hi, Builtin.lenOf, Builtin.firstCells, loadCells, loadCellsFrom, hnc, storeCells]
    · subst hm
      obtain ⟨xs, hown, hch⟩ := hrow
      obtain ⟨u', hr, h2, h3⟩ := run_append_fits (P := Tryz.prog) u w0.heap.size t o.type e i0 k ht hi hz1 g L.length cap xs hown.2 ad N.length c news hN.1 hcells h1 (by omega)
      unfold Oper.wp execOp
      simp only [ho, resolve, invoke, builtin, Sem.run_bind, Sem.run_pure, Result.andThen_ok, List.map_toArray, List.map_cons, List.map_nil, hs, hx, hr]
      have h3' : u.grownBy u' (Value.slice (some ⟨g, 0, none⟩) L.length cap).ownBlock := h3
      refine h _ u' ⟨xs ++ news, ⟨hown.row h3', by rw [List.length_append]; exact h2⟩, ?_⟩ h3' rfl (.inr ⟨g, cap, by rw [List.length_append], hcap⟩)
      have put : ∀ {ys : List Value} {M : List α}, Chunks R k (fun b => A b ∧ (Value.slice (some ⟨g, 0, none⟩) L.length cap).ownBlock ≠ some b) u ys M → Chunks R k (fun b => A b ∧ (Value.slice (some ⟨g, 0, none⟩) (L.length + N.length) cap).ownBlock ≠ some b) u' ys M := fun {ys M} hc => by
        have c2 := hc.kept hR (Kept.grown h3' (fun b e => fun h => h.2 e))
        exact c2.weak hR (fun b _ h => ⟨h.1, h.2⟩)
      obtain ⟨l1, c1⟩ := put hch
      obtain ⟨l2, c2⟩ := put hN
      refine ⟨by rw [List.length_append, List.length_append, l1, l2, Nat.add_mul], fun i hi => ?_⟩
      rcases Nat.lt_or_ge i L.length with h' | h'
      · obtain ⟨cs, q1, q2⟩ := c1 i h'
        have e : (L ++ N).getD i default = L.getD i default := by rw [getE _ _ hi, getE _ _ h', List.getElem_append_left h']
        refine ⟨cs, by rw [e]; exact q1, fun j hj => ?_⟩
        rw [List.getElem?_append_left (by have : (i + 1) * k ≤ L.length * k := Nat.mul_le_mul_right k h'; rw [Nat.add_mul] at this; omega)]
        exact q2 j hj
      · have h'' : i - L.length < N.length := by simp at hi; omega
        obtain ⟨cs, q1, q2⟩ := c2 (i - L.length) h''
        have e : (L ++ N).getD i default = N.getD (i - L.length) default := by rw [getE _ _ hi, getE _ _ h'', List.getElem_append_right h']
        refine ⟨cs, by rw [e]; exact q1, fun j hj => ?_⟩
        have hle : L.length * k ≤ i * k := Nat.mul_le_mul_right k h'
        rw [List.getElem?_append_right (by omega), l1, idx_part i L.length k j h', ← q2 j hj]
/-- At a plain region's list of operations. -/
theorem row_appendC (hR : Firm R k) {ops : Array Oper} {rest : List Oper} {o : Oper} {a : Act} {Q : Exit → Act → World → Prop} {A : Where} {w0 u : World} (hgd : Region.wanted o (yielded ops a.tmps) = true) (s x : Operand) (t e : TypeId)
    (ho : o.op = .call { callee := .builtin .append, args := #[s, x], argTypes := #[t, t] }) (z : Value) (bytes : Nat) (hinfo : (Tryz.prog.info? e).map (fun i => (i.zero, i.size, i.bytes)) = some (some z, k, bytes)) (ht : Tryz.prog.underlying t = some (.slice e))
    (v : Value) (L : List α) (T : Nat) (hs : a.eval s = v) (hrow : Row R k A w0 u e v L) (hT : Roomy v L.length T)
    (ad : Option Addr) (m c : Nat) (N : List α) (hx : a.eval x = .slice ad m c) (hN : Src R k (fun b => A b ∧ v.ownBlock ≠ some b) u ad m N) (hb : L.length + N.length ≤ T)
    (h : ∀ v' u', Row R k A w0 u' e v' (L ++ N) → u.grownBy u' v.ownBlock → v'.ownBlock = v.ownBlock → Roomy v' (L ++ N).length T → wpList Tryz.prog ops Q rest (a.put o.dst v') u') : wpList Tryz.prog ops Q (o :: rest) a u :=
  BigFrame.wpList_want hgd (fun _ hK => row_appendC_wp hR s x t e ho z bytes hinfo ht v L T hs hrow hT ad m c N hx hN hb (fun v' u' h2 h3 h4 h5 => hK _ _ (h v' u' h2 h3 h4 h5)))
end
end Go.Proofs.YtmnldngojgldiaaGreat
namespace Go.Proofs.YtmnldngojgldiaaGreat
open Go.RowKit Go.Maps
set_option linter.unusedSimpArgs false
set_option maxRecDepth 100000

set_option maxHeartbeats 16000000 in
theorem allS_calls (a : Option Addr) (n cap : Nat) (A : Where) (L : List ByteArray) (mb : Nat) (w : World) (hL : Hid (SlAt RStr 1 8 A w a n cap L)) (hm : Hid (NmAt w mb (L.map id))) :
    Calls Tryz.prog 54 #[.agg #[.slice a n cap, .map (some mb)]] w (AllOut RStr 1 (Lo10 A w) 9 w (allL id L)) := by
  have hnl : Hid (L.length = n) := hL.out.1
  have hbn : Hid (n * 8 ≤ 140737488351232) := hL.out.2.2.2.1
  have hlen := hL.out.len (by decide)
  obtain ⟨W1, hW1⟩ : ∃ W, W = w.alloc (.cells #[.slice a n cap, .map (some mb)] 131) := ⟨_, rfl⟩
  have B1 : Below w.heap.size w W1 := by rw [hW1]; go_grown
  have q1 : BoxL W1 w.heap.size [.slice a n cap, .map (some mb)] := by rw [hW1]; exact BoxL.new w 131 _
  obtain ⟨F, hF⟩ : ∃ F, F = firstsI (L.map id) := ⟨_, rfl⟩
  have hFn : F.length ≤ n := by have := firstsI_len (L.map id); rw [hF, ← hnl.out]; rwa [List.length_map] at this
  have hln := (hm.out.on B1).len
  rw [← hF] at hln
  obtain ⟨i0, hi0, hz0, hz1, hz2⟩ := info_parts infoS10
  obtain ⟨W2, hmk, hown, hg2⟩ := run_make_own (P := Tryz.prog) W1 W1.heap.size 41 9 i0 _ 1 Tryz.underlying41 hi0 hz0 hz1 .i64 .i64 F.length (by rw [hz2]; have := hbn.out; omega) (by have := hbn.out; have := maxLen9; omega) (Nat.le_refl _)
  have B2 : Below W1.heap.size W1 W2 := (Below.refl _ _).grown hg2 (Nat.le_refl _) (fun k e => by cases e)
  have r2 : Row RStr 1 (Lo10 A w) W1 W2 9 (.slice (some ⟨W1.heap.size, 0, none⟩) 0 F.length) ((allL id L).take 0) := ⟨[], ⟨B2, hown⟩, Chunks.nil _ _⟩
  have m2 := hm.out.on (on2 B1 B2)
  have HU : Hid (∀ u, Below W1.heap.size W1 u → BoxL u w.heap.size [.slice a n cap, .map (some mb)] ∧ SlAt RStr 1 8 (Lo10 A w) u a n cap L ∧ Below w.heap.size w u) := fun u hb => ⟨q1.on hb, (hL.out.weak RStr.firm (fun b hb h => ⟨h, hb⟩)).on RStr.firm (on2 B1 hb), on2 B1 hb⟩
  have HA : Hid (∀ k, k < F.length → F.getD k default < n ∧ (allL id L).take (k + 1) = (allL id L).take k ++ [L.getD (F.getD k default) default] ∧ (firstsZ (L.map id)).getD k default = ((F.getD k default : Nat) : Int)) := fun k hk => by rw [hF] at hk ⊢; rw [← hnl.out]; exact allL_at id hk
  have HFl : Hid ((firstsZ (L.map id)).length = F.length) := by rw [Hid, hF]; unfold firstsZ; rw [List.length_map]
  have HAl : Hid ((allL id L).length = F.length) := by rw [Hid, hF]; exact allL_len _ _
  have c1 := (q1.2 1 _ rfl).1
  have c1' := ((q1.on B2).2 1 _ rfl).1
  have hsz1 : W1.heap.size < W2.heap.size := (hown.lt W1.heap.size rfl).2
  have hCv := mVals_calls (some mb) W2
  have hCs := sortedV_calls m2 (by rw [List.length_map, hnl.out]; have := hbn.out; omega)
  have H2 : Hid (Row RStr 1 (Lo10 A w) W1 W2 9 (.slice (some ⟨W1.heap.size, 0, none⟩) 0 F.length) ((allL id L).take 0) ∧ W1.heap.size < W2.heap.size ∧ Below W1.heap.size W1 W2) := ⟨r2, hsz1, B2⟩
  have Hw1 : Hid (w.heap.size < W1.heap.size ∧ Below w.heap.size w W1) := ⟨q1.1, B1⟩
  unfold SrtOut at hCs
  clear hL hm B1 q1 hown hg2 B2 r2 m2 hi0 hz0 hz1 hz2 hF hsz1
  generalize allL id L = M at H2 HA HAl
  generalize firstsZ (L.map id) = Zs at hCs HA HFl
  have HCs : Hid (Calls Tryz.prog 46 #[.func (.func 66) #[] #[.pointer (some ⟨W2.heap.size, 0, none⟩)]] (W2.alloc (.cells #[.map (some mb)] 80)) (fun e w' => ∃ v, e = .returned v ∧ Row RInt 1 (fun _ => False) W2 w' 3 v Zs)) := hCs
  clear hCs
  go_enter Tryz.func54, Tryz.ntmps54
  go_upto_region 1 with fail
  rw [← hW1]
  clear hW1
  go_upto_region 2 with fail
  clear hmk hln c1
  go_wp2_with fail
  refine hCv.mono ?_
  rintro e w3 ⟨rfl, rfl⟩
  clear hCv
  go_wp2_with fail
  refine HCs.out.mono ?_
  rintro e w4 ⟨s, rfl, hrs⟩
  clear HCs c1'
  have b4 : Below W2.heap.size W2 w4 := hrs.below
  have hbs : Beside RStr 1 (Lo10 A w) W1 w4 9 (.slice (some ⟨W1.heap.size, 0, none⟩) 0 F.length) s (M.take 0) Zs := ⟨H2.out.1.on RStr.firm b4, hrs.from RInt.firm H2.out.2.2 (fun _ h => h), fun b hb e => by
    have h1 := (hrs.lt e).1
    have h2 := H2.out.2.1
    simp only [Value.ownBlock, Option.some.injEq] at hb
    omega⟩
  obtain ⟨sa, sn, sc, rfl, ss⟩ := hrs.sl10 (bytes := 8) RInt.firm (by rw [HFl.out]; have := hbn.out; omega)
  have hsn : Hid (sn = F.length) := by rw [Hid, ← ss.1]; exact HFl.out
  have hsnl := ss.len (by decide)
  have HI : Hid (Beside RStr 1 (Lo10 A w) W1 w4 9 (.slice (some ⟨W1.heap.size, 0, none⟩) 0 F.length) (.slice sa sn sc) (M.take 0) Zs ∧ Roomy (.slice (some ⟨W1.heap.size, 0, none⟩) 0 F.length) (M.take 0).length F.length) := ⟨hbs, .inr ⟨W1.heap.size, F.length, by simp, Nat.le_refl _⟩⟩
  clear hrs b4 hbs ss H2
  go_wp2_with fail
  go_loopw [3, 15] (fun o i wr => ∃ k : Nat, k ≤ sn ∧ i = .int .i64 k ∧ Hid (Beside RStr 1 (Lo10 A w) W1 wr 9 o (.slice sa sn sc) (M.take k) Zs ∧ Roomy o (M.take k).length F.length)) (fun _ i _ => sn - (intOf i).toNat)
  case atStart => exact ⟨0, Nat.zero_le _, rfl, HI⟩
  case round =>
    obtain ⟨k, hk, rfl, hrun⟩ := hrel
    obtain ⟨hbs, hro⟩ := hrun.out
    have HRo : Hid (Roomy u3 (M.take k).length F.length) := hro
    clear hrun HI hro
    obtain ⟨hq, hS, hbw⟩ := HU.out wr hbs.below
    by_cases hlt : k < sn
    · have hltz : (k : Int) < (sn : Int) := by omega
      obtain ⟨ja, jb, jc⟩ := HA.out k (by rw [← hsn.out]; exact hlt)
      obtain ⟨j, hj⟩ : ∃ j, j = F.getD k default := ⟨_, rfl⟩
      rw [← hj] at ja jb jc
      clear hj
      have hjz : (j : Int) < (n : Int) := by omega
      obtain ⟨_, _, _, es, ss⟩ := hbs.2.1.sl10 (bytes := 8) RInt.firm (by rw [HFl.out]; have := hbn.out; omega)
      cases es
      obtain ⟨Bs, os, rfl, hBs, _, ys, hys, hyv⟩ := ss.get hlt
      obtain rfl : ys = [.int .i64 (Zs.getD k default)] := hys
      have d0 := hyv 0 _ rfl
      rw [jc, Nat.mul_one, Nat.add_zero] at d0
      obtain ⟨B, off, rfl, hB, hAB, xs, hr, hv⟩ := hS.get ja
      have HT : Hid (M.take (k + 1) = M.take k ++ [L.getD j default]) := jb
      have HLk : Hid ((M.take k).length ≤ k) := by rw [Hid, List.length_take]; omega
      generalize L.getD j default = x at hr HT
      obtain ⟨rfl, hxz⟩ := hr
      have d1 := hv 0 _ rfl
      rw [Nat.mul_one, Nat.add_zero] at d1
      obtain ⟨Wb, hWb⟩ : ∃ W, W = wr.alloc (.cells #[.string x] 9) := ⟨_, rfl⟩
      have bWb : Below wr.heap.size wr Wb := by rw [hWb]; go_grown
      have HB2 : Hid (Beside RStr 1 (Lo10 A w) W1 Wb 9 u3 (.slice (some ⟨Bs, os, none⟩) sn sc) (M.take k) Zs) := hbs.on RStr.firm bWb
      have HSr : Hid (Src RStr 1 (fun b => Lo10 A w b ∧ u3.ownBlock ≠ some b) Wb (some ⟨wr.heap.size, 0, none⟩) 1 [x]) := src_box10 RStr.firm (cs := [.string x]) (by rw [hWb]; exact BoxL.new wr 9 _) ⟨rfl, hxz⟩
      have HWb : Hid (Wb = wr.alloc (.cells #[.string x] 9)) := hWb
      have HOb : Hid ((M.take k).length + [x].length ≤ F.length) := by have h1 := HLk.out; have h3 := hsn.out; rw [Hid, List.length_singleton]; omega
      have c0 := (hq.2 0 _ rfl).1
      have HRw : Hid (Row RStr 1 (Lo10 A w) W1 Wb 9 u3 (M.take k)) := HB2.out.1
      clear hq hS hbw hv hyv ss hbs hWb bWb jb jc HLk hB hAB hBs
      go_wp2_with (first | (at_builtin; refine wpl_w8 HWb.out ?_; go_must (refine row_appendC RStr.firm (A := Lo10 A w) (w0 := W1) rfl _ _ 41 9 rfl _ 16 infoS10 Tryz.underlying41 u3 (M.take k) F.length rfl HRw.out HRo.out (some ⟨wr.heap.size, 0, none⟩) 1 1 [x] rfl HSr.out HOb.out ?_); intro v7 u7 hr7 hg7 hw7 ho7) | fail)
      have HN : Hid (Beside RStr 1 (Lo10 A w) W1 u7 9 v7 (.slice (some ⟨Bs, os, none⟩) sn sc) (M.take (k + 1)) Zs ∧ Roomy v7 (M.take (k + 1)).length F.length) := by rw [Hid, HT.out]; exact ⟨HB2.out.app hr7 hg7 (.inl hw7), ho7⟩
      clear hr7 hg7 hw7 ho7 HRo HB2 HT HSr HOb HRw HWb c0 d0 d1
      go_roundw
      case rel => exact ⟨k + 1, by omega, by go_num, HN⟩
      case measure => simp [intOf]; omega
    · have htk : M.take k = M := List.take_of_length_le (by rw [HAl.out, ← hsn.out]; omega)
      rw [htk] at hbs
      have HF : Hid (Row RStr 1 (Lo10 A w) w wr 9 u3 M) := hbs.1.from RStr.firm Hw1.out.2 (fun _ h => h)
      clear hq hS hbw hbs htk
      go_wp2_with fail
      go_ret
      exact ⟨_, rfl, HF.out⟩
end Go.Proofs.YtmnldngojgldiaaGreat
namespace Go.Proofs.YtmnldngojgldiaaGreat
open Go.RowKit Go.Maps
set_option linter.unusedSimpArgs false
set_option maxRecDepth 100000

theorem nmS_calls (s : ByteArray) (w : World) : Calls Tryz.prog 53 #[.string s] w fun e w' => e = .returned (.string s) ∧ w' = w := by
  go_enter Tryz.func53, Tryz.ntmps53
  go_wp2_with fail
  go_ret
  exact ⟨rfl, rfl⟩
set_option maxHeartbeats 16000000 in
theorem tabS_calls (a : Option Addr) (n cap : Nat) (A : Where) (L : List ByteArray) (w : World) (hL : Hid (SlAt RStr 1 8 A w a n cap L)) :
    Calls Tryz.prog 51 #[.slice a n cap, .func (.func 53) #[] #[]] w (TabOut w (.slice a n cap) (L.map id)) := by
  have hnl : Hid (L.length = n) := hL.out.1
  have hbn : Hid (n * 8 ≤ 140737488351232) := hL.out.2.2.2.1
  have hlen := hL.out.len (by decide)
  have HU : Hid (∀ u, Below w.heap.size w u → SlAt RStr 1 8 A u a n cap L) := fun u hb => hL.out.on RStr.firm hb
  clear hL
  obtain ⟨W1, hW1⟩ : ∃ W, W = w.alloc (.cells #[.slice none 0 0, .map none] 131) := ⟨_, rfl⟩
  have B1 : Below w.heap.size w W1 := by rw [hW1]; go_grown
  have hz1 : W1.heap.size = w.heap.size + 1 := by rw [hW1]; simp
  have q1 : BoxL W1 w.heap.size [.slice none 0 0, .map none] := by rw [hW1]; exact BoxL.new w 131 _
  obtain ⟨W2, hW2⟩ : ∃ W, W = W1.alloc (.map #[] 0) := ⟨_, rfl⟩
  have B2 : Below W1.heap.size W1 W2 := by rw [hW2]; go_grown
  have m2 : NmAt W2 (w.heap.size + 1) ((L.map id).take 0) := by rw [hW2, ← hz1]; exact NmAt.made W1
  have HI : Hid (NmAt W2 (w.heap.size + 1) ((L.map id).take 0) ∧ BoxL W2 w.heap.size [.slice none 0 0, .map none] ∧ Below w.heap.size w W2) := ⟨m2, q1.on B2, on2 B1 B2⟩
  have hmm := makeMap_hint10
  have HZ : Hid (W1.heap.size = w.heap.size + 1) := hz1
  clear B1 q1 B2 m2 hz1
  have eg := enters_of Tryz.func53 (by kernel_rfl) rfl
  go_enter Tryz.func51, Tryz.ntmps51
  go_upto_region 1 with fail
  rw [← hW1]
  clear hW1
  go_upto_region 2 with fail
  rw [← hW2]
  clear hW2
  rw [HZ.out]
  clear hmm HZ
  go_wp2_with fail
  go_loopw [15] (fun i wr => ∃ k : Nat, k ≤ n ∧ i = .int .i64 k ∧ Hid (NmAt wr (w.heap.size + 1) ((L.map id).take k) ∧ BoxL wr w.heap.size [.slice none 0 0, .map none] ∧ Below w.heap.size w wr)) (fun i _ => n - (intOf i).toNat)
  case atStart => exact ⟨0, Nat.zero_le _, rfl, HI⟩
  case round =>
    obtain ⟨k, hk, rfl, hrun⟩ := hrel
    obtain ⟨hm, hq, hbw⟩ := hrun.out
    clear hrun HI
    by_cases hlt : k < n
    · have hltz : (k : Int) < (n : Int) := by omega
      have hkl : k < L.length := by rw [hnl.out]; exact hlt
      obtain ⟨B, off, rfl, hB, hAB, xs, hr, hv⟩ := (HU.out wr hbw).get hlt
      obtain ⟨rfl, hsz⟩ := hr
      have d0 := hv 0 _ rfl
      rw [Nat.mul_one, Nat.add_zero] at d0
      have HT : Hid ((L.map id).take (k + 1) = (L.map id).take k ++ [L.getD k default]) := take_map10 id hkl
      have HL : Hid (((L.map id).take k).length = k) := by rw [Hid, List.length_take, List.length_map]; omega
      have hlk := hm.look 80 Tryz.underlying80 hsz
      have hC := nmS_calls (L.getD k default) wr
      clear hv hB hAB
      generalize (L.getD k default) = x at hC hsz HT d0 hlk
      generalize (L.map id).take k = N at HT HL hm hlk
      go_wp2_with fail
      refine hC.mono ?_
      rintro e w6 ⟨rfl, rfl⟩
      cases hf : fI N x with
      | some j =>
        rw [hf] at hlk
        have HN3 : Hid (NmAt w6 (w.heap.size + 1) ((L.map id).take (k + 1)) ∧ BoxL w6 w.heap.size [.slice none 0 0, .map none] ∧ Below w.heap.size w w6) := ⟨by rw [HT.out]; exact hm.more hf, hq, hbw⟩
        simp only [Option.isSome_some, Option.getD_some] at hlk
        clear hm hq hbw HT HL hf hC
        go_wp2_with fail
        go_roundw
        case rel => exact ⟨k + 1, by omega, by go_num, HN3⟩
        case measure => simp [intOf]; omega
      | none =>
        rw [hf] at hlk
        simp only [Option.isSome_none, Option.getD_none] at hlk
        go_wp2_with fail
        refine hC.mono ?_
        rintro e w7 ⟨rfl, rfl⟩
        obtain ⟨w8, hup, nm8, hg8⟩ := hm.put 80 Tryz.underlying80 hsz hf (by have h1 := hbn.out; have h2 := HL.out; omega)
        have HN3 : Hid (NmAt w8 (w.heap.size + 1) ((L.map id).take (k + 1)) ∧ BoxL w8 w.heap.size [.slice none 0 0, .map none] ∧ Below w.heap.size w w8) := ⟨by rw [HT.out]; exact nm8, hq.grown10 hg8 (by omega), below_grown10 hbw hg8 (by omega)⟩
        rw [HL.out] at hup
        clear hm hq hbw nm8 hg8 HT HL hf hC hlk
        go_wp2_with fail
        go_roundw
        case rel => exact ⟨k + 1, by omega, by go_num, HN3⟩
        case measure => simp [intOf]; omega
    · have htk : (L.map id).take k = L.map id := List.take_of_length_le (by rw [List.length_map, hnl.out]; omega)
      rw [htk] at hm
      obtain ⟨V, hV⟩ : ∃ V, V = wr.setCells w.heap.size 0 [.slice a n cap, .map (some (w.heap.size + 1))] := ⟨_, rfl⟩
      have HTh : Hid (wr.there w.heap.size 0 (#[.slice a n cap, .map (some (w.heap.size + 1))] : Array Value).size) := hq.there
      have HWV : Hid (V = wr.setCells w.heap.size 0 (#[.slice a n cap, .map (some (w.heap.size + 1))] : Array Value).toList) := by rw [Hid, hV]
      have HOc : Hid ((#[.slice a n cap, .map (some (w.heap.size + 1))] : Array Value).all (·.oneCell') = true) := by rw [Hid]; simp [Value.oneCell']
      have kV : Kept (fun b => b ≠ w.heap.size) wr V := by rw [hV]; exact kept_setCells (fun h => h rfl)
      have qV : BoxL V w.heap.size [.slice a n cap, .map (some (w.heap.size + 1))] := by rw [hV]; exact box_over8 hq rfl
      have HOut : Hid (NmAt V (w.heap.size + 1) (L.map id) ∧ w.heap.size ≤ w.heap.size + 1 ∧ Below w.heap.size w V) := ⟨hm.kept kV (by omega), by omega, by rw [hV]; exact below_setCells hbw (by omega)⟩
      have t0 := (qV.2 0 _ rfl).1
      have t1 := (qV.2 1 _ rfl).1
      have hszT : (Tryz.prog.info? 131).map (·.size) = some (#[.slice a n cap, .map (some (w.heap.size + 1))] : Array Value).size := by kernel_rfl
      clear hm hq hbw htk kV qV hV HU
      go_wp2_with (first | (refine wpList_store_mid rfl 131 _ _ rfl w.heap.size 0 #[.slice a n cap, .map (some (w.heap.size + 1))] rfl rfl HTh.out hszT HOc.out ?_; refine wpl_w8 HWV.out ?_) | fail)
      refine bodyPost_ret (v := .agg #[.slice a n cap, .map (some (w.heap.size + 1))]) (by simp [results, Tryz.results51, go_sem, t0, t1, Result.andThen]) rfl ?_
      exact ⟨_, rfl, by have h9 := HOut.out; rw [List.map_id] at h9; exact h9⟩
end Go.Proofs.YtmnldngojgldiaaGreat
