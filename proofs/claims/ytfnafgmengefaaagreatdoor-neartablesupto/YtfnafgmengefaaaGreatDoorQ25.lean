/- base.Reqs gives a slice of its own, its values' texts copied too, that holds the same. Condition: the slice holds what is said of it. base.terms gives a slice of its own, what it asks copied too, that holds the same. Condition: the slice holds what is said of it. -/
import Derived.Test.YtfnafgmengefaaaGreatDoorQ04
namespace Go.Proofs.YtfnafgmengefaaaGreatDoor
open Go.RowKit
set_option linter.unusedSimpArgs false

theorem infoReq : (Tryz.prog.info? 108).map (fun i => (i.zero, i.size, i.bytes)) = some (some (.agg #[.string ⟨#[]⟩, .int .i64 0, .slice none 0 0]), 3, 48) := by kernel_rfl
/-- What has come since a later world is no part of the row. -/
theorem Row.apart {α : Type} [Inhabited α] {R : Rep α} {k : Nat} {A : Where} {w0 u u' : World} {e : TypeId} {v : Value} {L : List α} (h : Row R k A w0 u e v L) (hs : u.heap.size ≤ u'.heap.size) : ∀ b, Fresh u' b → Fresh w0 b ∧ v.ownBlock ≠ some b := by
  obtain ⟨xs, h1, _⟩ := h
  intro b hb
  have hb' : u'.heap.size ≤ b := hb
  have := h1.1.size
  refine ⟨show w0.heap.size ≤ b by omega, fun e => ?_⟩
  have := (h1.2.lt b e).2
  omega
theorem take_at {α : Type} [Inhabited α] {L : List α} {k : Nat} (hk : k < L.length) : L.take k ++ [L.getD k default] = L.take (k + 1) := (take_succ hk).symm
theorem bytes_le {n k bytes : Nat} (h : n * bytes ≤ 140737488351232) (hk : k < n) : (k + 1) * bytes ≤ 140737488355328 := by
  have : (k + 1) * bytes ≤ n * bytes := Nat.mul_le_mul_right _ hk
  omega

set_option maxHeartbeats 2000000 in
theorem Reqs_copy (a : Option Addr) (n cap : Nat) (A : Where) (L : List Ask) (w : World) (hL : Hid (SlAt RReq 3 48 A w a n cap L)) : Calls Tryz.prog 24 #[.slice a n cap] w fun e w' => ∃ a' cap', e = .returned (.slice a' n cap') ∧ SlAt RReq 3 48 (Fresh w) w' a' n cap' L ∧ Below w.heap.size w w' := by
  have hlen := hL.out.len (by decide)
  have hn : Hid (L.length = n) := hL.out.1
  have hbb : Hid (n * 48 ≤ 140737488351232) := hL.out.2.2.2.1
  have HR0 : Hid (Row RReq 3 (Fresh w) w (w.alloc (.cells #[] 108)) 108 (.slice (some ⟨w.heap.size, 0, none⟩) 0 0) (L.take 0)) := Row.start _ w w _ (Below.refl _ _)
  go_enter Tryz.func24, Tryz.ntmps24
  go_wp2_with fail
  go_loopw [3, 4] (fun s i wr => ∃ k : Nat, k ≤ n ∧ i = .int .i64 k ∧ Hid (Row RReq 3 (Fresh w) w wr 108 s (L.take k))) (fun _ i _ => n - (intOf i).toNat)
  case atStart => exact ⟨0, Nat.zero_le _, rfl, HR0⟩
  case round =>
    obtain ⟨k, hk, rfl, hrow⟩ := hrel
    by_cases hlt : k < n
    · have hltz : (k : Int) < (n : Int) := by omega
      have hkl : Hid (k < L.length) := by rw [Hid, hn.out]; exact hlt
      obtain ⟨B, off, rfl, hB, hAB, cs, hr, hv⟩ := (hL.out.on RReq.firm hrow.out.below).get hlt
      obtain ⟨h2, rfl, hs, hT⟩ := hr.out
      have d0 := hv 0 _ rfl
      have d1 := hv 1 _ rfl
      have d2 := hv 2 _ rfl
      rw [Nat.add_zero] at d0
      have HT : Hid (L.take k ++ [L.getD k default] = L.take (k + 1)) := take_at hkl.out
      have hbw : Below wr.heap.size wr (wr.alloc (.cells #[.string (L.getD k default).1, .int .i64 (L.getD k default).2.1, .slice h2.1 h2.2.1 h2.2.2] 108)) := by go_grown
      have hTx := Texts_copy h2.1 h2.2.1 h2.2.2 A (L.getD k default).2.2 (wr.alloc (.cells #[.string (L.getD k default).1, .int .i64 (L.getD k default).2.1, .slice h2.1 h2.2.1 h2.2.2] 108)) (hT.on RStr.firm hbw)
      clear hr hT hv hAB
      generalize L.getD k default = x at d0 d1 d2 hs HT hbw hTx
      go_wp2_with fail
      refine hTx.mono ?_
      rintro e w2 ⟨a2, c2, rfl, hS2, hb2⟩
      clear hTx
      have hD : wr.heap.size < (wr.alloc (.cells #[.string x.1, .int .i64 x.2.1, .slice h2.1 h2.2.1 h2.2.2] 108)).heap.size := by simp
      have q0 : w2.cell? ⟨wr.heap.size, 0, none⟩ = some (.string x.1) := (hb2.cell hD).trans (by simp [go_sem])
      have q1 : w2.cell? ⟨wr.heap.size, 1, none⟩ = some (.int .i64 x.2.1) := (hb2.cell hD).trans (by simp [go_sem])
      have q2 : w2.cell? ⟨wr.heap.size, 2, none⟩ = some (.slice h2.1 h2.2.1 h2.2.2) := (hb2.cell hD).trans (by simp [go_sem])
      have f2 : w2.frozen? ⟨wr.heap.size, 2, none⟩ = false := (hb2.frozen hD).trans (by simp [go_sem])
      have hb3 : Below wr.heap.size wr ((w2.setCell ⟨wr.heap.size, 2, none⟩ (.slice a2 h2.2.1 c2)).alloc (.cells #[.string x.1, .int .i64 x.2.1, .slice a2 h2.2.1 c2] 108)) := (((hbw.trans (hb2.mono (by simp))).setCell (Nat.le_refl _) _).alloc (by have := hb2.size; simp at this ⊢; omega) _)
      have HR3 := hrow.out.on RReq.firm hb3
      have HE : RReq (fun b => Fresh w b ∧ Value.ownBlock u3 ≠ some b) ((w2.setCell ⟨wr.heap.size, 2, none⟩ (.slice a2 h2.2.1 c2)).alloc (.cells #[.string x.1, .int .i64 x.2.1, .slice a2 h2.2.1 c2] 108)) [.string x.1, .int .i64 x.2.1, .slice a2 h2.2.1 c2] x := by
        refine RReq.mk (h2 := (a2, h2.2.1, c2)) hs (((hS2.kept RStr.firm (Kept.set (Fresh.not hD) _)).kept RStr.firm (Kept.alloc _ _ _)).weak RStr.firm (fun b _ hb => hrow.out.apart (u' := wr.alloc (.cells #[.string x.1, .int .i64 x.2.1, .slice h2.1 h2.2.1 h2.2.2] 108)) (by simp) b hb))
      have HC : Hid (Chunks RReq 3 (fun b => Fresh w b ∧ Value.ownBlock u3 ≠ some b) ((w2.setCell ⟨wr.heap.size, 2, none⟩ (.slice a2 h2.2.1 c2)).alloc (.cells #[.string x.1, .int .i64 x.2.1, .slice a2 h2.2.1 c2] 108)) [.string x.1, .int .i64 x.2.1, .slice a2 h2.2.1 c2] [x]) := chunk_one RReq.firm HE
      have HX : Hid (∀ j y, [Value.string x.1, .int .i64 x.2.1, .slice a2 h2.2.1 c2][j]? = some y → ((w2.setCell ⟨wr.heap.size, 2, none⟩ (.slice a2 h2.2.1 c2)).alloc (.cells #[.string x.1, .int .i64 x.2.1, .slice a2 h2.2.1 c2] 108)).cell? ((⟨w2.heap.size, 0, none⟩ : Addr).add j) = some y) := by
        have := one_cells (w2.setCell ⟨wr.heap.size, 2, none⟩ (.slice a2 h2.2.1 c2)) [.string x.1, .int .i64 x.2.1, .slice a2 h2.2.1 c2] 108
        unfold Hid
        simpa using this
      have HR3' : Hid (Row RReq 3 (Fresh w) w ((w2.setCell ⟨wr.heap.size, 2, none⟩ (.slice a2 h2.2.1 c2)).alloc (.cells #[.string x.1, .int .i64 x.2.1, .slice a2 h2.2.1 c2] 108)) 108 u3 (L.take k)) := HR3
      have HLb : Hid (((L.take k).length + [x].length) * 48 ≤ 140737488355328) := by
        have := bytes_le hbb.out hlt
        rw [Hid, List.length_take, hn.out, List.length_singleton, Nat.min_eq_left (by omega)]
        exact this
      clear HR3 HE hbw hb3 hS2 hrow
      go_wp2_with (at_builtin; go_must (refine row_append RReq.firm (A := Fresh w) (w0 := w) rfl _ _ 26 108 rfl _ 48 infoReq Tryz.underlying26 rfl (by decide) (by decide) u3 (L.take k) rfl HR3'.out ⟨w2.heap.size, 0, none⟩ 1 1 _ [x] rfl rfl HC.out HX.out (by simp [Value.oneCell']) HLb.out ?_); intro v4 w4 hrow4 hg4)
      rw [HT.out] at hrow4
      go_roundw
      case rel => exact ⟨k + 1, by omega, by go_num, hrow4⟩
      case measure => simp [intOf]; omega
    · have hk' : L.take k = L := List.take_of_length_le (by rw [hn.out]; omega)
      obtain ⟨a', cap', e1, h2⟩ := hrow.out.slF (bytes := 48) RReq.firm (by rw [hk', hn.out]; exact hbb.out)
      rw [hk', hn.out] at e1 h2
      have hb9 := hrow.out.below
      have h2' : Hid (SlAt RReq 3 48 (Fresh w) wr a' n cap' L) := h2
      clear h2 hrow
      subst e1
      go_wp2_with fail
      go_ret
      exact ⟨a', cap', rfl, h2'.out, hb9⟩
end Go.Proofs.YtfnafgmengefaaaGreatDoor
namespace Go.Proofs.YtfnafgmengefaaaGreatDoor
open Go.RowKit
set_option linter.unusedSimpArgs false

theorem infoTerm : (Tryz.prog.info? 80).map (fun i => (i.zero, i.size, i.bytes)) = some (some (.agg #[.slice none 0 0, .string ⟨#[]⟩]), 2, 40) := by kernel_rfl
/-- The row's place holds what it held, and nothing that was there has turned. -/
def TmS (w : World) (D off k : Nat) (h : Hd) (s : ByteArray) (u : World) : Prop :=
  Below w.heap.size w u ∧ u.cell? ⟨D, off + k * 2, none⟩ = some (.slice h.1 h.2.1 h.2.2) ∧ u.cell? ⟨D, off + k * 2 + 1, none⟩ = some (.string s)

set_option maxHeartbeats 2000000 in
theorem terms_copy (a : Option Addr) (n cap : Nat) (A : Where) (L : List TermD) (w : World) (hL : Hid (SlAt RTerm 2 40 A w a n cap L)) : Calls Tryz.prog 26 #[.slice a n cap] w fun e w' => ∃ a' cap', e = .returned (.slice a' n cap') ∧ SlAt RTerm 2 40 (Fresh w) w' a' n cap' L ∧ Below w.heap.size w w' := by
  have hlen := hL.out.len (by decide)
  have hn : Hid (L.length = n) := hL.out.1
  have hbb : Hid (n * 40 ≤ 140737488351232) := hL.out.2.2.2.1
  have HR0 : Hid (Row RTerm 2 (Fresh w) w (w.alloc (.cells #[] 80)) 80 (.slice (some ⟨w.heap.size, 0, none⟩) 0 0) (L.take 0)) := Row.start _ w w _ (Below.refl _ _)
  go_enter Tryz.func26, Tryz.ntmps26
  go_wp2_with fail
  go_loopw [3, 4] (fun s i wr => ∃ k : Nat, k ≤ n ∧ i = .int .i64 k ∧ Hid (Row RTerm 2 (Fresh w) w wr 80 s (L.take k))) (fun _ i _ => n - (intOf i).toNat)
  case atStart => exact ⟨0, Nat.zero_le _, rfl, HR0⟩
  case round =>
    obtain ⟨k, hk, rfl, hrow⟩ := hrel
    by_cases hlt : k < n
    · have hltz : (k : Int) < (n : Int) := by omega
      have hkl : Hid (k < L.length) := by rw [Hid, hn.out]; exact hlt
      have hbw : Below w.heap.size w wr := hrow.out.below
      obtain ⟨D, off, rfl, hD, _, cs, hr, hv⟩ := hL.out.get hlt
      obtain ⟨h0, rfl, hT, hs⟩ := hr.out
      have d0 := hv 0 _ rfl
      have d1 := hv 1 _ rfl
      rw [Nat.add_zero] at d0
      have HT : Hid (L.take k ++ [L.getD k default] = L.take (k + 1)) := take_at hkl.out
      have HS : Hid (∀ {u : World}, Below w.heap.size w u → TmS w D off k h0 (L.getD k default).2 u) := fun hb => ⟨hb, (hb.cell hD).trans d0, (hb.cell hD).trans d1⟩
      have HC := Reqs_copy h0.1 h0.2.1 h0.2.2 A (L.getD k default).1 wr.drew (hT.on RReq.firm hbw.drew)
      have HLb : Hid (((L.take k).length + 1) * 40 ≤ 140737488355328) := by
        have := bytes_le hbb.out hlt
        rw [Hid, List.length_take, hn.out, Nat.min_eq_left (by omega)]
        exact this
      clear hr hT hv d0 d1
      generalize L.getD k default = x at hs HT HS HC
      go_wp2_with fail
      refine wp_region_noPanic ?_
      refine wp_region_held_drew (S := TmS w D off k h0 x.2) (by kernel_rfl) (HS.out hbw.drew) (fun hHeld => ?_)
      refine wpAnyH_take (i := 0) (v := ?v0) rfl (by kernel_rfl) (by kernel_rfl) (by kernel_rfl) (fun _ _ _ h => h) (Or.inl ⟨by rfl, ?hy0⟩) (by assumption) ?rest0
      case hy0 => (intro u hu; obtain ⟨_, _, _⟩ := hu; go_simp; try with_reducible rfl)
      try simp only [Act.put, List.setIfInBounds_toArray, List.set_cons_zero, List.set_cons_succ, List.getElem_toArray, List.getElem_cons_zero, List.getElem_cons_succ]
      refine wpAnyH_take (i := 1) (v := ?v1) rfl (by kernel_rfl) (by kernel_rfl) (by kernel_rfl) (fun _ _ _ h => h) (Or.inl ⟨by rfl, ?hy1⟩) (by assumption) ?rest1
      case hy1 => (intro u hu; obtain ⟨_, _, _⟩ := hu; go_simp; try with_reducible rfl)
      try simp only [Act.put, List.setIfInBounds_toArray, List.set_cons_zero, List.set_cons_succ, List.getElem_toArray, List.getElem_cons_zero, List.getElem_cons_succ]
      refine wpAnyH_take (i := 2) (v := ?v2) rfl (by kernel_rfl) (by kernel_rfl) (by kernel_rfl) (fun _ _ _ h => h) (Or.inl ⟨by rfl, ?hy2⟩) (by assumption) ?rest2
      case hy2 => (intro u hu; obtain ⟨_, _, _⟩ := hu; go_simp; try with_reducible rfl)
      try simp only [Act.put, List.setIfInBounds_toArray, List.set_cons_zero, List.set_cons_succ, List.getElem_toArray, List.getElem_cons_zero, List.getElem_cons_succ]
      refine wpAnyH_take (i := 3) (v := ?v3) rfl (by kernel_rfl) (by kernel_rfl) (by kernel_rfl) (fun _ _ _ h => h) (Or.inl ⟨by rfl, ?hy3⟩) (by assumption) ?rest3
      case hy3 => (intro u hu; obtain ⟨_, _, _⟩ := hu; go_simp; try with_reducible rfl)
      try simp only [Act.put, List.setIfInBounds_toArray, List.set_cons_zero, List.set_cons_succ, List.getElem_toArray, List.getElem_cons_zero, List.getElem_cons_succ]
      refine wpAnyH_take (i := 4) (v := ?v4) rfl (by kernel_rfl) (by kernel_rfl) (by kernel_rfl) (fun _ _ _ h => h) (Or.inl ⟨by rfl, ?hy4⟩) (by assumption) ?rest4
      case hy4 => (intro u hu; obtain ⟨_, _, _⟩ := hu; go_simp; try with_reducible rfl)
      try simp only [Act.put, List.setIfInBounds_toArray, List.set_cons_zero, List.set_cons_succ, List.getElem_toArray, List.getElem_cons_zero, List.getElem_cons_succ]
      refine wpAnyH_take (i := 5) (v := ?v5) rfl (by kernel_rfl) (by kernel_rfl) (by kernel_rfl) (fun _ _ _ h => h) (Or.inl ⟨by rfl, ?hy5⟩) (by assumption) ?rest5
      case hy5 => (intro u hu; obtain ⟨_, _, _⟩ := hu; go_simp; try with_reducible rfl)
      try simp only [Act.put, List.setIfInBounds_toArray, List.set_cons_zero, List.set_cons_succ, List.getElem_toArray, List.getElem_cons_zero, List.getElem_cons_succ]
      refine wpAnyH_take (i := 7) (v := ?v7) rfl (by kernel_rfl) (by kernel_rfl) (by kernel_rfl) (fun _ _ _ h => h) (Or.inl ⟨by rfl, ?hy7⟩) (by assumption) ?rest7
      case hy7 => (intro u hu; obtain ⟨_, _, _⟩ := hu; go_simp; try with_reducible rfl)
      try simp only [Act.put, List.setIfInBounds_toArray, List.set_cons_zero, List.set_cons_succ, List.getElem_toArray, List.getElem_cons_zero, List.getElem_cons_succ]
      refine wpAnyH_take (i := 8) (v := ?v8) rfl (by kernel_rfl) (by kernel_rfl) (by kernel_rfl) (fun _ _ _ h => h) (Or.inl ⟨by rfl, ?hy8⟩) (by assumption) ?rest8
      case hy8 => (intro u hu; obtain ⟨_, _, _⟩ := hu; go_simp; try with_reducible rfl)
      try simp only [Act.put, List.setIfInBounds_toArray, List.set_cons_zero, List.set_cons_succ, List.getElem_toArray, List.getElem_cons_zero, List.getElem_cons_succ]
      refine wpAnyH_take (i := 9) (v := ?v9) rfl (by kernel_rfl) (by kernel_rfl) (by kernel_rfl) (fun _ _ _ h => h) (Or.inl ⟨by rfl, ?hy9⟩) (by assumption) ?rest9
      case hy9 => (intro u hu; obtain ⟨_, _, _⟩ := hu; go_simp; try with_reducible rfl)
      try simp only [Act.put, List.setIfInBounds_toArray, List.set_cons_zero, List.set_cons_succ, List.getElem_toArray, List.getElem_cons_zero, List.getElem_cons_succ]
      refine wpAnyH_take (i := 10) (v := ?v10) rfl (by kernel_rfl) (by kernel_rfl) (by kernel_rfl) (fun _ _ _ h => h) (Or.inl ⟨by rfl, ?hy10⟩) (by assumption) ?rest10
      case hy10 => (intro u hu; obtain ⟨_, _, _⟩ := hu; go_simp; try with_reducible rfl)
      try simp only [Act.put, List.setIfInBounds_toArray, List.set_cons_zero, List.set_cons_succ, List.getElem_toArray, List.getElem_cons_zero, List.getElem_cons_succ]
      refine wpAnyH_take (i := 11) (v := ?v11) rfl (by kernel_rfl) (by kernel_rfl) (by kernel_rfl) (fun _ _ _ h => h) (Or.inl ⟨by rfl, ?hy11⟩) (by assumption) ?rest11
      case hy11 => (intro u hu; obtain ⟨_, _, _⟩ := hu; go_simp; try with_reducible rfl)
      try simp only [Act.put, List.setIfInBounds_toArray, List.set_cons_zero, List.set_cons_succ, List.getElem_toArray, List.getElem_cons_zero, List.getElem_cons_succ]
      refine wpAnyH_ready (rs := [6]) (by kernel_rfl) (by simp) ?_
      refine AllReadyH.cons rfl (fun K hK => ?_) AllReadyH.nil
      go_simp
      refine (HC).mono ?_
      rintro e w5 ⟨a5, c5, rfl, hS5, hb5⟩
      have hb6 : Below wr.heap.size wr (w5.alloc (.cells #[.slice a5 h0.2.1 c5, .string x.2] 80)) := ((Below.refl _ wr).drew.trans (hb5.mono (Nat.le_refl _))).alloc hb5.size _
      have HR6 := hrow.out.on RTerm.firm hb6
      have HE : RTerm (fun b => Fresh w b ∧ Value.ownBlock u3 ≠ some b) (w5.alloc (.cells #[.slice a5 h0.2.1 c5, .string x.2] 80)) [.slice a5 h0.2.1 c5, .string x.2] x := RTerm.mk (h0 := (a5, h0.2.1, c5)) ((hS5.kept RReq.firm (Kept.alloc _ _ _)).weak RReq.firm (fun b _ hb => hrow.out.apart (u' := wr.drew) (Nat.le_refl _) b hb)) hs
      have HCh := chunk_one RTerm.firm HE
      have HX := one_cells w5 [.slice a5 h0.2.1 c5, .string x.2] 80
      go_wp2_with fail
      refine hK.out _ _ (HS.out (on2 hHeld.1 hb5)) (fun hHeld2 => ?_)
      clear hK K hHeld
      have hHeld := hHeld2
      clear hHeld2
      try simp only [Act.put, List.setIfInBounds_toArray, List.set_cons_zero, List.set_cons_succ, List.getElem_toArray, List.getElem_cons_zero, List.getElem_cons_succ]
      refine wpAnyH_take (i := 12) (v := ?v12) rfl (by kernel_rfl) (by kernel_rfl) (by kernel_rfl) (fun _ _ _ h => h) (Or.inl ⟨by rfl, ?hy12⟩) (by assumption) ?rest12
      case hy12 => (intro u hu; obtain ⟨_, _, _⟩ := hu; go_simp; try with_reducible rfl)
      try simp only [Act.put, List.setIfInBounds_toArray, List.set_cons_zero, List.set_cons_succ, List.getElem_toArray, List.getElem_cons_zero, List.getElem_cons_succ]
      refine wpAnyH_ready (rs := [13]) (by kernel_rfl) (by simp) ?_
      refine AllReadyH.cons rfl (fun K hK => ?_) AllReadyH.nil
      go_simp
      refine hK.out _ _ (HS.out (on2 hHeld.1 ((Below.refl _ _).alloc (Nat.le_refl _) _))) (fun hHeld2 => ?_)
      clear hK K hHeld
      have hHeld := hHeld2
      clear hHeld2
      try simp only [Act.put, List.setIfInBounds_toArray, List.set_cons_zero, List.set_cons_succ, List.getElem_toArray, List.getElem_cons_zero, List.getElem_cons_succ]
      refine wpAnyH_ready (rs := [14]) (by kernel_rfl) (by simp) ?_
      refine AllReadyH.cons rfl (fun K hK => ?_) AllReadyH.nil
      refine row_append_wp RTerm.firm (A := Fresh w) (w0 := w) _ _ 29 80 rfl _ 40 infoTerm Tryz.underlying29 rfl (by decide) (by decide) u3 (L.take k) rfl HR6 ⟨w5.heap.size, 0, none⟩ 1 1 _ [x] rfl rfl HCh HX (by simp [Value.oneCell']) HLb.out ?_
      intro v6 w6 hrow6 hg6
      refine hK.out _ _ (HS.out hrow6.below) (fun hHeld2 => ?_)
      clear hK K hHeld
      have hHeld := hHeld2
      clear hHeld2
      try simp only [Act.put, List.setIfInBounds_toArray, List.set_cons_zero, List.set_cons_succ, List.getElem_toArray, List.getElem_cons_zero, List.getElem_cons_succ]
      refine wpAnyH_take (i := 15) (v := ?v15) rfl (by kernel_rfl) (by kernel_rfl) (by kernel_rfl) (fun _ _ _ h => h) (Or.inl ⟨by rfl, ?hy15⟩) (by assumption) ?rest15
      case hy15 => (intro u hu; obtain ⟨_, _, _⟩ := hu; go_simp; try with_reducible rfl)
      try simp only [Act.put, List.setIfInBounds_toArray, List.set_cons_zero, List.set_cons_succ, List.getElem_toArray, List.getElem_cons_zero, List.getElem_cons_succ]
      refine wpAnyH_done (by kernel_rfl) ?_ _
      refine NoPanic.normal ?_
      rw [HT.out] at hrow6
      have hrow6' : Hid (Row RTerm 2 (Fresh w) w w6 80 v6 (L.take (k + 1))) := hrow6
      go_wp2_with fail
      go_roundw
      case rel => exact ⟨k + 1, by omega, by go_num, hrow6'⟩
      case measure => simp [intOf]; omega
    · have hk' : L.take k = L := List.take_of_length_le (by rw [hn.out]; omega)
      obtain ⟨a', cap', e1, h2⟩ := hrow.out.slF (bytes := 40) RTerm.firm (by rw [hk', hn.out]; exact hbb.out)
      rw [hk', hn.out] at e1 h2
      have hb9 := hrow.out.below
      have h2' : Hid (SlAt RTerm 2 40 (Fresh w) wr a' n cap' L) := h2
      clear h2 hrow
      subst e1
      go_wp2_with fail
      go_ret
      exact ⟨a', cap', rfl, h2'.out, hb9⟩
end Go.Proofs.YtfnafgmengefaaaGreatDoor
