/- InfoOrder's walk: pods that come one by one, in whatever order, come to the info of all. Condition: the arguments lie as is said of them, and hold together no more than the reading's bulk. -/
import Derived.Test.YtddeilhelkfpoaaQ17
namespace Go.Proofs.Ytddeilhelkfpoaa
open Go.RowKit
set_option linter.unusedSimpArgs false
set_option maxRecDepth 100000

def nmL (L : List PodD) : List ByteArray := L.map (·.1)
theorem nm_succ (L : List PodD) {k : Nat} (hk : k < L.length) : nmL (L.take (k + 1)) = nmL (L.take k) ++ [(L.getD k default).1] := by
  rw [← take_at hk]; simp [nmL]
theorem nodup_snoc {V : List ByteArray} {s : ByteArray} (h : V.Nodup) (hs : hasB sEq V s = false) : (V ++ [s]).Nodup := by
  rw [List.nodup_append]
  refine ⟨h, by simp, fun a ha b hb => ?_⟩
  simp only [List.mem_singleton] at hb
  subst hb
  rintro rfl
  rw [(hasS_iff V a).2 ha] at hs
  cases hs
theorem Row.slO {α : Type} [Inhabited α] {R : Rep α} {k : Nat} (hR : Firm R k) {bytes : Nat} {A : Where} {w0 u : World} {e : TypeId} {v : Value} {L : List α} (h : Row R k A w0 u e v L) (hb : L.length * bytes ≤ 140737488351232) :
    ∃ a cap, v = .slice a L.length cap ∧ SlAt R k bytes (fun b => A b ∨ v.ownBlock = some b) u a L.length cap L := by
  obtain ⟨xs, h1, h2⟩ := h
  obtain ⟨a, cap, e1, h3⟩ := sl_of_owns (bytes := bytes) hR h1.2 h2 hb
  exact ⟨a, cap, e1, h3.weak hR (fun b _ hb => by rcases hb with hb | hb; exact .inl hb.1; exact .inr hb)⟩
theorem sl_store {α : Type} [Inhabited α] {R : Rep α} {k bytes : Nat} (hR : Firm R k) {D : Nat} {u : World} {a : Option Addr} {n c : Nat} {L : List α} (h : SlAt R k bytes (fun b => b ≠ D) u a n c L) (o : Nat) (vs : List Value) : SlAt R k bytes (fun b => b ≠ D) (u.setCells D o vs) a n c L := h.kept hR (kept_setCells (fun h => h rfl))
theorem fold_succ (X : InfoD) (P : List PodD) {j : Nat} (hj : j < P.length) : (P.take (j + 1)).foldl addP X = addP ((P.take j).foldl addP X) (P.getD j default) := by
  rw [← take_at hj]; simp
theorem fold_fits (x : NodeD) {P : List PodD} (hs : sumBy mPod P ≤ 1048576) {j : Nat} (hj : j < P.length) : FitsA ((P.take j).foldl addP (ofP x [])) (P.getD j default) := by
  refine fitsA_of (small_fold (n := x) (P.take j) (small_of x [])) _ ?_
  have h1 := sumBy_take mPod P (j + 1)
  rw [← take_at hj, sumBy_append] at h1
  have e1 : sumBy mPod [P.getD j default] = mPod (P.getD j default) := by simp [sumBy]
  have e2 : sumBy mPod ([] : List PodD) = 0 := rfl
  omega
theorem sumBy_perm {P L : List PodD} (h : P.Perm L) : sumBy mPod P = sumBy mPod L := by
  unfold sumBy; exact (h.map mPod).sum_nat
def dropA (a : Option Addr) (cap t : Nat) : Option Addr := match a with | none => none | some ad => if cap = t then some ad else some (ad.add (t * 16))
theorem sl_dropA {A : Where} {u : World} {a : Option Addr} {n cap t : Nat} {L : List PodD} (h : SlAt RPod 16 296 A u a n cap L) (ht : t ≤ n) : SlAt RPod 16 296 A u (dropA a cap t) (n - t) (cap - t) (L.drop t) := by
  have hl := h.1
  by_cases hn : n - t = 0
  · have hd : L.drop t = [] := List.drop_eq_nil_of_le (by omega)
    rw [hn, hd]
    refine SlAt.nil _ _ _ _ (fun e => ?_)
    cases a with
    | none => have := h.2.2.1 rfl; omega
    | some ad => simp only [dropA] at e; split at e <;> cases e
  · obtain ⟨B, off, rfl, _⟩ := h.2.2.2.2 (by omega)
    have hc : ¬ cap = t := by have := h.2.1; omega
    have e : dropA (some ⟨B, off, none⟩) cap t = some ⟨B, off + t * 16, none⟩ := by simp only [dropA, hc, if_false]; rw [add_lit]
    rw [e]
    exact h.drop ht
set_option maxHeartbeats 1000000 in
theorem Among_calls (n : Int) (m : Nat) (hm : 0 < m) (hml : m ≤ 140737488355328) (w : World) : Calls Try.prog 27 #[.int .i64 n, .int .i64 m] w fun e w' => (∃ k : Nat, e = .returned (.int .i64 k) ∧ k < m) ∧ w' = w := by
  have hw : IntKind.u64.wrap (m : Int) = (m : Int) := by simp [IntKind.wrap, IntKind.bits, IntKind.signed]; omega
  have hz : ((m : Int) == 0) = false := by rw [beq_eq_false_iff_ne]; omega
  have hz' : ¬ (m : Int) = 0 := by omega
  generalize hr : IntKind.u64.wrap n = r
  have hr0 : 0 ≤ r := by rw [← hr]; simp [IntKind.wrap, IntKind.bits, IntKind.signed]; omega
  have h1 : 0 ≤ r % (m : Int) := Int.emod_nonneg _ (by omega)
  have h2 : r % (m : Int) < (m : Int) := Int.emod_lt_of_pos _ (by omega)
  have h3 : r.tmod (m : Int) = r % (m : Int) := Int.tmod_eq_emod_of_nonneg hr0
  go_enter Try.func27, Try.ntmps27
  go_wp2
  go_ret
  refine ⟨⟨(r % (m : Int)).toNat, ?_, by omega⟩, rfl⟩
  rw [Int.toNat_of_nonneg h1]
  rfl
set_option maxHeartbeats 32000000 in
theorem order_walk (ns : List Value) (x : NodeD) (a : Option Addr) (n cap : Nat) (L : List PodD) (turn : Int) (w : World) (hN : RNode (fun _ => True) w ns x) (hL : SlAt RPod 16 296 (fun _ => True) w a n cap L) (hS : sumBy mPod L ≤ 1048576) : Calls Try.prog 5 #[.agg ns.toArray, .slice a n cap, .int .i64 turn] w fun e w' => e = .returned (.bool true) ∧ Below w.heap.size w w' := by
  obtain ⟨k0, k1, k2, k3, k4, k5, k6, k7, k8, rfl⟩ := hN.lit
  have HN : Hid (∀ u, Below w.heap.size w u → RNode (fun b => b < w.heap.size) u [k0, k1, k2, k3, k4, k5, k6, k7, k8] x) := fun u hb => RNode.firm.kept (RNode.firm.weak hN (fun b hb _ => hb)) (Kept.below hb)
  have HL : Hid (∀ u, Below w.heap.size w u → SlAt RPod 16 296 (fun b => b < w.heap.size) u a n cap L) := fun u hb => (hL.weak RPod.firm (fun b hb _ => hb)).on RPod.firm hb
  have HF : Hid (FitsP L) := fits_of (by omega)
  have hnl : Hid (L.length = n) := hL.1
  have hlen := hL.len (by decide)
  have hsm : Hid (L.length ≤ 1048576) := by have := len_sum L; rw [Hid]; omega
  have HSm : Hid (sumBy mPod L ≤ 1048576) := hS
  have hiN : (Try.prog.info? 27).map (·.size) = some ([k0, k1, k2, k3, k4, k5, k6, k7, k8] : List Value).length := sizeNode
  have hiR : (Try.prog.info? 25).map (·.size) = some ([.int .i64 0, .int .i64 0, .int .i64 0] : List Value).length := by kernel_rfl
  clear hN hL hS
  obtain ⟨W1, hW1⟩ : ∃ W1, W1 = w.alloc (.cells #[k0, k1, k2, k3, k4, k5, k6, k7, k8] 27) := ⟨_, rfl⟩
  have B1 : Hid (Below w.heap.size w W1) := by rw [Hid, hW1]; exact (Below.refl _ _).alloc (Nat.le_refl _) _
  have HBN : Hid (∀ u, Below W1.heap.size W1 u → BoxL u w.heap.size [k0, k1, k2, k3, k4, k5, k6, k7, k8]) := fun u hb => BoxL.on (by rw [hW1]; exact BoxL.new w 27 [k0, k1, k2, k3, k4, k5, k6, k7, k8]) hb
  go_enter Try.func5, Try.ntmps5
  go_wp2_with fail
  rw [← hW1]
  clear hW1
  refine (works_calls W1).mono ?_
  rintro e w3 ⟨rfl, hb3⟩
  have B3 : Hid (Below W1.heap.size W1 w3) := hb3
  have B03 : Hid (Below w.heap.size w w3) := on2 B1.out hb3
  clear hb3
  obtain ⟨W4, hW4⟩ : ∃ W4, W4 = (w3.alloc (.cells #[.int .i64 0, .int .i64 0, .int .i64 0] 25)).setCells w3.heap.size 0 [.int .i64 0, .int .i64 0, .int .i64 0] := ⟨_, rfl⟩
  have HT4 : Hid ((w3.alloc (.cells #[.int .i64 0, .int .i64 0, .int .i64 0] 25)).there w3.heap.size 0 3) := (BoxL.new w3 25 [.int .i64 0, .int .i64 0, .int .i64 0]).there
  have HI0 : Hid (Below w3.heap.size w3 W4 ∧ BoxL W4 w3.heap.size [.int .i64 0, .int .i64 0, .int .i64 0]) := by rw [hW4]; exact ⟨below_setCells ((Below.refl _ _).alloc (Nat.le_refl _) _) (Nat.le_refl _), box_set w3 25 [.int .i64 0, .int .i64 0, .int .i64 0] [.int .i64 0, .int .i64 0, .int .i64 0] rfl⟩
  have HW4 : Hid (W4 = (w3.alloc (.cells #[.int .i64 0, .int .i64 0, .int .i64 0] 25)).setCells w3.heap.size 0 (([.int .i64 0, .int .i64 0, .int .i64 0] : List Value).toArray).toList) := hW4
  clear hW4
  go_wp2_with (first | (refine wpList_store_mid rfl 25 _ _ rfl w3.heap.size 0 (([.int .i64 0, .int .i64 0, .int .i64 0] : List Value).toArray) rfl rfl HT4.out hiR (by simp [Value.oneCell']) ?_; refine wpl_at HW4.out ?_) | fail)
  clear HT4 HW4
  go_loopw [8] (fun i wr => ∃ (k : Nat) (sa sb sc : Int), k ≤ n ∧ i = .int .i64 k ∧ Hid (Below w3.heap.size w3 wr ∧ BoxL wr w3.heap.size [.int .i64 sa, .int .i64 sb, .int .i64 sc])) (fun i _ => n - (intOf i).toNat)
  case atStart => exact ⟨0, 0, 0, 0, Nat.zero_le _, rfl, HI0⟩
  case round =>
    obtain ⟨k, sa, sb, sc, hk, rfl, hI⟩ := hrel
    by_cases hlt : k < n
    · have hltz : (k : Int) < (n : Int) := by omega
      obtain ⟨D, off, rfl, hD, _, cs, hr, hv⟩ := (HL.out w (Below.refl _ _)).get hlt
      obtain ⟨wa, wb, wc, p3, p4, p5⟩ : ∃ wa wb wc : Int, cs[3]? = some (.int .i64 wa) ∧ cs[4]? = some (.int .i64 wb) ∧ cs[5]? = some (.int .i64 wc) := by
        obtain ⟨_, _, _, _, _, _, _, _, _, rfl, _⟩ := hr.out
        exact ⟨_, _, _, rfl, rfl, rfl⟩
      have d3 := hv 3 _ p3
      have d4 := hv 4 _ p4
      have d5 := hv 5 _ p5
      have HS : Hid (∀ u, Below wr.heap.size wr u → (fun u : World => u.cell? ⟨w3.heap.size, 0, none⟩ = some (.int .i64 sa) ∧ u.cell? ⟨w3.heap.size, 1, none⟩ = some (.int .i64 sb) ∧ u.cell? ⟨w3.heap.size, 2, none⟩ = some (.int .i64 sc) ∧ u.cell? ⟨D, off + k * 16 + 3, none⟩ = some (.int .i64 wa) ∧ u.cell? ⟨D, off + k * 16 + 4, none⟩ = some (.int .i64 wb) ∧ u.cell? ⟨D, off + k * 16 + 5, none⟩ = some (.int .i64 wc)) u) := fun u hb => by
        have hx := hI.out.2.on hb
        have hz := on2 (on2 B03.out hI.out.1) hb
        exact ⟨(hx.2 0 _ rfl).1, (hx.2 1 _ rfl).1, (hx.2 2 _ rfl).1, (hz.cell (p := ⟨D, off + k * 16 + 3, none⟩) hD).trans d3, (hz.cell (p := ⟨D, off + k * 16 + 4, none⟩) hD).trans d4, (hz.cell (p := ⟨D, off + k * 16 + 5, none⟩) hD).trans d5⟩
      clear d3 d4 d5 hr hv p3 p4 p5
      go_upto_region 7 with fail
      refine u0 7 (fun u : World => u.cell? ⟨w3.heap.size, 0, none⟩ = some (.int .i64 sa) ∧ u.cell? ⟨w3.heap.size, 1, none⟩ = some (.int .i64 sb) ∧ u.cell? ⟨w3.heap.size, 2, none⟩ = some (.int .i64 sc) ∧ u.cell? ⟨D, off + k * 16 + 3, none⟩ = some (.int .i64 wa) ∧ u.cell? ⟨D, off + k * 16 + 4, none⟩ = some (.int .i64 wb) ∧ u.cell? ⟨D, off + k * 16 + 5, none⟩ = some (.int .i64 wc)) (HS.out _ (Below.refl _ _).drew) (fun hHeld => ?_)
      refine' uk 0 ?_ ?_; rotate_left
      · intro u ⟨_, _, _, _, _, _⟩; go_simp; try with_reducible rfl
      try go_frame
      refine' uk 1 ?_ ?_; rotate_left
      · intro u ⟨_, _, _, _, _, _⟩; go_simp; try with_reducible rfl
      try go_frame
      refine' uk 2 ?_ ?_; rotate_left
      · intro u ⟨_, _, _, _, _, _⟩; go_simp; try with_reducible rfl
      try go_frame
      refine' uk 3 ?_ ?_; rotate_left
      · intro u ⟨_, _, _, _, _, _⟩; go_simp; try with_reducible rfl
      try go_frame
      refine' uk 4 ?_ ?_; rotate_left
      · intro u ⟨_, _, _, _, _, _⟩; go_simp; try with_reducible rfl
      try go_frame
      refine' uk 5 ?_ ?_; rotate_left
      · intro u ⟨_, _, _, _, _, _⟩; go_simp; try with_reducible rfl
      try go_frame
      refine ur 6 (fun K hK => ?_)
      go_simp
      refine (Plus_calls sa sb sc wa wb wc wr.drew).mono ?_
      rintro e u2 ⟨rfl, hb2⟩
      have hb12 : Below wr.heap.size wr u2 := on2 (Below.refl _ _).drew hb2
      go_wp2_with fail
      refine hK.out _ _ (HS.out _ hb12) (fun hHeld2 => ?_)
      clear hK K hHeld; have hHeld := hHeld2; clear hHeld2
      try go_frame
      have hx2 := hI.out.2.on hb12
      obtain ⟨q0, f0⟩ := hx2.2 0 _ rfl
      obtain ⟨q1, f1⟩ := hx2.2 1 _ rfl
      obtain ⟨q2, f2⟩ := hx2.2 2 _ rfl
      have HI2 : Hid (Below w3.heap.size w3 (((u2.setCell ⟨w3.heap.size, 0, none⟩ (.int .i64 (addI sa wa))).setCell ⟨w3.heap.size, 1, none⟩ (.int .i64 (addI sb wb))).setCell ⟨w3.heap.size, 2, none⟩ (.int .i64 (addI sc wc))) ∧ BoxL (((u2.setCell ⟨w3.heap.size, 0, none⟩ (.int .i64 (addI sa wa))).setCell ⟨w3.heap.size, 1, none⟩ (.int .i64 (addI sb wb))).setCell ⟨w3.heap.size, 2, none⟩ (.int .i64 (addI sc wc))) w3.heap.size [.int .i64 (addI sa wa), .int .i64 (addI sb wb), .int .i64 (addI sc wc)]) :=
        ⟨(((on2 hI.out.1 hb12).setCell (Nat.le_refl _) _).setCell (Nat.le_refl _) _).setCell (Nat.le_refl _) _, ((hx2.set 0 (.int .i64 (addI sa wa)) (by simp)).set 1 (.int .i64 (addI sb wb)) (by simp)).set 2 (.int .i64 (addI sc wc)) (by simp)⟩
      refine uz 7 (fun K hK => ?_)
      go_simp
      refine hK.out _ (NoPanic.normal ?_)
      try go_frame
      clear hx2 q0 f0 q1 f1 q2 f2 hHeld HS hb12 hb2
      go_wp2_with fail
      go_roundw
      case rel => exact ⟨k + 1, _, _, _, by omega, by go_num, HI2⟩
      case measure => simp [intOf]; omega
    · have hlz : ¬ ((k : Int) < (n : Int)) := by omega
      obtain ⟨q0, _⟩ := hI.out.2.2 0 _ rfl
      obtain ⟨q1, _⟩ := hI.out.2.2 1 _ rfl
      obtain ⟨q2, _⟩ := hI.out.2.2 2 _ rfl
      have B0r : Hid (Below w.heap.size w wr) := on2 B03.out hI.out.1
      have B1r : Hid (Below W1.heap.size W1 wr) := on2 B3.out hI.out.1
      clear hI
      by_cases ha : (1125899906842624 : Int) ≤ sa
      · go_wp2_with fail
        go_ret
        exact ⟨rfl, B0r.out⟩
      by_cases hb : (1125899906842624 : Int) ≤ sb
      · go_wp2_with fail
        go_ret
        exact ⟨rfl, B0r.out⟩
      by_cases hc : (1125899906842624 : Int) ≤ sc
      · go_wp2_with fail
        go_ret
        exact ⟨rfl, B0r.out⟩
      obtain ⟨W5, hW5⟩ : ∃ W5, W5 = wr := ⟨_, rfl⟩
      rw [← hW5] at q0 q1 q2 B0r B1r ⊢
      clear hW5
      have HR0 : Hid (Row RStr 1 (fun _ => False) W5 (W5.alloc (.cells #[] 9)) 9 (.slice (some ⟨W5.heap.size, 0, none⟩) 0 0) (nmL (L.take 0)) ∧ (nmL (L.take 0)).Nodup) := ⟨Row.start _ W5 W5 _ (Below.refl _ _), List.nodup_nil⟩
      go_wp2_with fail
      clear q0 q1 q2 ha hb hc
      go_loopw [9, 10] (fun s i wr => ∃ k : Nat, k ≤ n ∧ i = .int .i64 k ∧ Hid (Row RStr 1 (fun _ => False) W5 wr 9 s (nmL (L.take k)) ∧ (nmL (L.take k)).Nodup)) (fun _ i _ => n - (intOf i).toNat)
      case atStart => exact ⟨0, Nat.zero_le _, rfl, HR0⟩
      case round =>
        obtain ⟨k, hk, rfl, hI⟩ := hrel
        have hb5 : Below W5.heap.size W5 wr := hI.out.1.below
        by_cases hlt2 : k < n
        · have hltz : (k : Int) < (n : Int) := by omega
          have hkl : k < L.length := by rw [hnl.out]; exact hlt2
          obtain ⟨D, off, rfl, hD, _, cs, hr, hv⟩ := (HL.out w (Below.refl _ _)).get hlt2
          have HT : Hid (nmL (L.take (k + 1)) = nmL (L.take k) ++ [(L.getD k default).1]) := nm_succ L hkl
          have hnk : (nmL (L.take k)).length ≤ k := by simp [nmL]; omega
          generalize L.getD k default = q at hr HT
          obtain ⟨hsz, v1, v2, v3, v4, v5, v6, v7, v8, v9, v10, v11, v12, v13, v14, v15, rfl⟩ := hr.lit0
          have d0 := ((on2 B0r.out hb5).cell (p := ⟨D, off + k * 16 + 0, none⟩) hD).trans (hv 0 _ rfl)
          rw [Nat.add_zero] at d0
          have d0' : ∀ u, Below wr.heap.size wr u → u.cell? ⟨D, off + k * 16, none⟩ = some (.string q.1) := fun u hb => (hb.cell (p := ⟨D, off + k * 16, none⟩) (Nat.lt_of_lt_of_le hD (on2 B0r.out hb5).size)).trans d0
          clear hr hv
          obtain ⟨b9, c9, e9, s9⟩ := hI.out.1.sl (bytes := 16) RStr.firm (by have h1 := hsm.out; rw [hnl.out] at h1; omega)
          subst e9
          have S9 : Hid (SlAt RStr 1 16 _ wr b9 (nmL (L.take k)).length c9 (nmL (L.take k))) := s9
          clear s9
          generalize hG : nmL (L.take k) = G at hI HT hnk S9
          go_wp2_with fail
          refine (Has_calls b9 G.length c9 _ G q.1 wr S9.out).mono ?_
          rintro e w9 ⟨rfl, hw9⟩
          rw [hw9]
          clear hw9
          cases hh : hasB sEq G q.1
          · have ZS := hI.out.1.on RStr.firm ((Below.refl wr.heap.size wr).alloc (Nat.le_refl _) (.cells #[.string q.1] 9))
            have HZ : Hid (Row RStr 1 (fun _ => False) W5 (wr.alloc (.cells #[.string q.1] 9)) 9 (.slice b9 G.length c9) G) := ZS
            have HNn : Hid (Src RStr 1 (fun b => False ∧ Value.ownBlock (.slice b9 G.length c9) ≠ some b) (wr.alloc (.cells #[.string q.1] 9)) (some ⟨wr.heap.size, 0, none⟩) 1 [q.1]) := ⟨rfl, .inr ⟨_, [.string q.1], rfl, chunk_one RStr.firm ⟨rfl, hsz⟩, one_cells wr [.string q.1] 9, by simp [Value.oneCell']⟩⟩
            have HB6 : Hid ((G.length + [q.1].length) * 16 ≤ 140737488355328) := by have h1 := hsm.out; rw [hnl.out] at h1; simp [Hid]; omega
            have HND : Hid ((G ++ [q.1]).Nodup) := nodup_snoc (hG ▸ hI.out.2) hh
            clear ZS hh
            go_wp2_with (at_builtin; go_must (refine row_appendP RStr.firm (A := (fun _ => False)) (w0 := W5) rfl _ _ 35 9 rfl _ 16 infostr Try.underlying35 rfl (by decide) (by decide) _ G rfl HZ.out (some ⟨wr.heap.size, 0, none⟩) 1 1 [q.1] rfl HNn.out HB6.out ?_); intro v6n u1 hr6 hg6 hp6)
            have HQ : Hid (Row RStr 1 (fun _ => False) W5 u1 9 v6n (nmL (L.take (k + 1))) ∧ (nmL (L.take (k + 1))).Nodup) := by rw [HT.out]; exact ⟨hr6, HND.out⟩
            go_roundw
            case rel => exact ⟨k + 1, by omega, by go_num, HQ⟩
            case measure => simp [intOf]; omega
          · go_wp2_with fail
            go_ret
            exact ⟨rfl, on2 B0r.out hb5⟩
        · have hk9 : L.take k = L := List.take_of_length_le (by rw [hnl.out]; omega)
          have hlz2 : ¬ ((k : Int) < (n : Int)) := by omega
          have HND : Hid ((nmL L).Nodup) := by rw [hk9] at hI; exact hI.out.2
          have B0s : Hid (Below w.heap.size w wr) := on2 B0r.out hb5
          have B1s : Hid (Below W1.heap.size W1 wr) := on2 B1r.out hb5
          clear hI hk9 hb5
          go_wp2_with (refine wpList_load_mid rfl 27 _ rfl w.heap.size 0 rfl [k0, k1, k2, k3, k4, k5, k6, k7, k8] _ (HBN.out wr B1s.out).range Try.underlying27 rfl hiN ?_)
          refine (Of_calls [k0, k1, k2, k3, k4, k5, k6, k7, k8] none 0 0 (fun b => b < w.heap.size) (fun b => b < w.heap.size) x [] wr (HN.out wr B0s.out) (SlAt.nil _ _ _ _ (fun _ => rfl)) ⟨by decide, by decide⟩).mono ?_
          rintro e w7 ⟨fs, rfl, hI7, _, hb7⟩
          have hl7 : fs.length = 15 := hI7.len
          have hi7 : (Try.prog.info? 41).map (·.size) = some fs.toArray.size := by have e : fs.toArray.size = 15 := (by simp [hl7]); rw [e]; exact sizeInfo
          have HO7 : Hid (fs.toArray.all (·.oneCell') = true) := all_oneCell_toArray hI7.one
          obtain ⟨W8, hW8⟩ : ∃ W8, W8 = (w7.alloc (.cells #[.string ⟨#[]⟩, .slice none 0 0, .slice none 0 0, .bool false, .int .i64 0, .int .i64 0, .int .i64 0, .int .i64 0, .int .i64 0, .slice none 0 0, .int .i64 0, .int .i64 0, .int .i64 0, .slice none 0 0, .slice none 0 0] 41)).setCells w7.heap.size 0 fs := ⟨_, rfl⟩
          have HT8 : Hid ((w7.alloc (.cells #[.string ⟨#[]⟩, .slice none 0 0, .slice none 0 0, .bool false, .int .i64 0, .int .i64 0, .int .i64 0, .int .i64 0, .int .i64 0, .slice none 0 0, .int .i64 0, .int .i64 0, .int .i64 0, .slice none 0 0, .slice none 0 0] 41)).there w7.heap.size 0 fs.toArray.size) := by have e : fs.toArray.size = 15 := (by simp [hl7]); rw [Hid, e]; exact (BoxL.new w7 41 [.string ⟨#[]⟩, .slice none 0 0, .slice none 0 0, .bool false, .int .i64 0, .int .i64 0, .int .i64 0, .int .i64 0, .int .i64 0, .slice none 0 0, .int .i64 0, .int .i64 0, .int .i64 0, .slice none 0 0, .slice none 0 0]).there
          have HX8 : Hid (BoxL W8 w7.heap.size fs) := by rw [hW8]; exact box_set w7 41 [.string ⟨#[]⟩, .slice none 0 0, .slice none 0 0, .bool false, .int .i64 0, .int .i64 0, .int .i64 0, .int .i64 0, .int .i64 0, .slice none 0 0, .int .i64 0, .int .i64 0, .int .i64 0, .slice none 0 0, .slice none 0 0] fs (by rw [hl7]; rfl)
          have B78 : Hid (Below w7.heap.size w7 W8) := by rw [Hid, hW8]; exact below_setCells ((Below.refl _ _).alloc (Nat.le_refl _) _) (Nat.le_refl _)
          have HW8 : Hid (W8 = (w7.alloc (.cells #[.string ⟨#[]⟩, .slice none 0 0, .slice none 0 0, .bool false, .int .i64 0, .int .i64 0, .int .i64 0, .int .i64 0, .int .i64 0, .slice none 0 0, .int .i64 0, .int .i64 0, .int .i64 0, .slice none 0 0, .slice none 0 0] 41)).setCells w7.heap.size 0 (fs.toArray).toList) := by simpa [Hid] using hW8
          have HI8 : Hid (InfoAt (fun b => b < w.heap.size) (fun b => b ≠ w7.heap.size) W8 fs (ofP x [])) := (hI7.on B78.out).weak (fun _ _ h => h) (fun b hb h => h) |> fun h => (hI7.weak (A' := (fun b => b < w.heap.size)) (F' := fun b => b ≠ w7.heap.size) (fun _ _ h => h) (fun b hb _ => Nat.ne_of_lt hb)).on B78.out
          have B07 : Hid (Below w.heap.size w w7) := on2 B0s.out hb7
          have B17 : Hid (Below W1.heap.size W1 w7) := on2 B1s.out hb7
          clear hW8 hI7 hb7 hl7 B0s B1s B0r B1r
          have hm1 : n + 1 ≤ 140737488355328 := by have h1 := hsm.out; rw [hnl.out] at h1; omega
          go_wp2_with (first | (refine wpList_store_mid rfl 41 _ _ rfl w7.heap.size 0 fs.toArray rfl rfl HT8.out hi7 HO7.out ?_; refine wpl_at HW8.out ?_) | fail)
          clear HT8 HW8 HO7
          have hAm := Among_calls turn (n + 1) (by omega) hm1 W8
          rw [show (((n + 1 : Nat)) : Int) = (n : Int) + 1 by omega] at hAm
          refine hAm.mono ?_
          clear hAm
          rintro e w8 ⟨⟨t, rfl, ht⟩, hw8⟩
          rw [hw8]
          clear hw8 w8
          have htn : t ≤ n := by omega
          have hcap : Hid ((a = none → cap = 0) ∧ n ≤ cap) := ⟨(HL.out w (Below.refl _ _)).2.2.1, (HL.out w (Below.refl _ _)).2.1⟩
          have HDr : Hid (∀ u, Below w.heap.size w u → SlAt RPod 16 296 (fun b => b < w.heap.size) u (dropA a cap t) (n - t) (cap - t) (L.drop t)) := fun u hb => sl_dropA (HL.out u hb) htn
          have HTk : Hid (∀ u, Below w.heap.size w u → SlAt RPod 16 296 (fun b => b < w.heap.size) u a t cap (L.take t)) := fun u hb => (HL.out u hb).take htn
          have HPl : Hid ((L.drop t ++ L.take t).length = n) := by rw [Hid, List.length_append, List.length_drop, List.length_take, hnl.out]; omega
          go_upto_region 19 with fail
          go_cut [13] (fun p wx => ∃ (pa : Option Addr) (pc : Nat), p = .slice pa n pc ∧ Hid (SlAt RPod 16 296 (fun b => b ≠ w7.heap.size) wx pa n pc (L.drop t ++ L.take t) ∧ Below W8.heap.size W8 wx))
          case first =>
            have B08 : Hid (Below w.heap.size w W8) := on2 B07.out B78.out
            refine wp_region_noPanic ?_
            refine wp_region_held_drew (S := Below W8.heap.size W8) (by kernel_rfl) (Below.refl _ _).drew (fun hHeld => ?_)
            refine' tk 0 ?_ ?_; rotate_left
            · intro u hu; clear hu; go_simp; try with_reducible rfl
            try go_frame
            refine' tk 1 ?_ ?_; rotate_left
            · intro u hu; clear hu; go_simp; try with_reducible rfl
            try go_frame
            refine' tq 2 (.slice (dropA a cap t) (n - t) (cap - t)) ?_ ?_
            · refine .inl ⟨rfl, fun u _ => ?_⟩
              obtain ⟨hc1, hc2⟩ := hcap.out
              have z1 : (0 : Int) ≤ (t : Int) := by omega
              have z2 : (t : Int) ≤ (n : Int) := by omega
              have z3 : (n : Int) ≤ (cap : Int) := by omega
              have z4 : (t : Int) ≤ (cap : Int) := by omega
              have z5 : (cap : Int) - (t : Int) = ((cap - t : Nat) : Int) := by omega
              rcases a with _ | ad
              · obtain rfl := hc1 rfl
                obtain rfl : n = 0 := by omega
                obtain rfl : t = 0 := by omega
                simp only [dropA]
                go_simp
                try with_reducible rfl
              · by_cases hct : cap = t
                · simp only [dropA, hct, if_true]
                  go_simp
                  try with_reducible rfl
                · simp only [dropA, hct, if_false]
                  go_simp
                  try with_reducible rfl
            try go_frame
            refine' tk 4 ?_ ?_; rotate_left
            · intro u hu; clear hu; go_simp; try with_reducible rfl
            try go_frame
            refine' tk 5 ?_ ?_; rotate_left
            · intro u hu; clear hu; go_simp; try with_reducible rfl
            try go_frame
            refine' tq 6 (.slice a t cap) ?_ ?_
            · refine .inl ⟨rfl, fun u _ => ?_⟩
              obtain ⟨hc1, hc2⟩ := hcap.out
              have z1 : (0 : Int) ≤ (t : Int) := by omega
              have z4 : (t : Int) ≤ (cap : Int) := by omega
              rcases a with _ | ad
              · obtain rfl := hc1 rfl
                obtain rfl : n = 0 := by omega
                obtain rfl : t = 0 := by omega
                go_simp
                try with_reducible rfl
              · go_simp
                try with_reducible rfl
            try go_frame
            refine tr 3 (fun K hK => ?_)
            go_simp
            refine (pods_row (dropA a cap t) (n - t) (cap - t) (fun b => b < w.heap.size) (L.drop t) W8.drew (HDr.out _ B08.out.drew)).mono ?_
            rintro e u1 ⟨z1, rfl, r1⟩
            have hb1 : Below W8.heap.size W8 u1 := on2 (Below.refl _ _).drew r1.below
            have hd8 : w7.heap.size < W8.heap.size := HX8.out.1
            have h07 := B07.out.size
            have ro1 : Row RPod 16 (fun b => b ≠ w7.heap.size) w u1 37 z1 (L.drop t) := r1.from RPod.firm B08.out.drew (fun b hb => by have h1 : W8.heap.size ≤ b := hb; show b ≠ w7.heap.size; omega)
            have ow1 : ∀ b, z1.ownBlock = some b → W8.heap.size ≤ b := fun b hb => (r1.lt hb).1
            go_wp2_with fail
            refine hK.out _ _ hb1 (fun hHeld2 => ?_)
            clear hK K hHeld; have hHeld := hHeld2; clear hHeld2
            try go_frame
            have hsrc : Src RPod 16 (fun b => (fun b => b ≠ w7.heap.size) b ∧ z1.ownBlock ≠ some b) u1 a t (L.take t) := ((HTk.out _ (on2 B08.out hb1)).src RPod.firm).weak RPod.firm (fun b _ hb => ⟨by have h2 : b < w.heap.size := hb; show b ≠ w7.heap.size; omega, fun e => by have h1 := (ro1.lt e).1; have h2 : b < w.heap.size := hb; omega⟩)
            refine tr 7 (fun K hK => ?_)
            refine row_appendP_wp RPod.firm (A := (fun b => b ≠ w7.heap.size)) (w0 := w) _ _ 28 37 rfl _ 296 infoPod Try.underlying28 rfl (by decide) (by decide) z1 (L.drop t) rfl ro1 a t cap (L.take t) rfl hsrc (by have h1 := hsm.out; have h2 := HPl.out; rw [List.length_append] at h2; rw [h2, ← hnl.out]; omega) ?_
            intro z2 u2 r2 gr2 hp2
            have hb2 : Below W8.heap.size W8 u2 := Below.grown hb1 gr2 hb1.size (fun b hb => ow1 b hb)
            refine hK.out _ _ hb2 (fun hHeld2 => ?_)
            clear hK K hHeld; have hHeld := hHeld2; clear hHeld2
            try go_frame
            obtain ⟨ra, rc, re, rs⟩ := r2.slO (bytes := 296) RPod.firm (by have h1 := hsm.out; rw [HPl.out, ← hnl.out]; omega)
            have rs2 := rs.weak RPod.firm (A' := (fun b => b ≠ w7.heap.size)) (fun b _ hb => by
              rcases hb with hb | hb
              · exact hb
              · show b ≠ w7.heap.size
                rcases hp2 with h | h
                · have h1 := ow1 b (h ▸ hb); omega
                · rw [h] at hb; injection hb with hb; have h1 := hb1.size; omega)
            clear rs
            subst re
            rw [HPl.out] at rs2 ⊢
            refine' tk 8 ?_ ?_; rotate_left
            · intro u hu; clear hu; go_simp; try with_reducible rfl
            try go_frame
            refine wpAnyH_done (by kernel_rfl) ?_ _
            refine NoPanic.normal ?_
            go_wp2_with fail
            go_meet
            exact ⟨ra, rc, rfl, rs2, hb2⟩
          case rest =>
            obtain ⟨pa, pc, rfl, hD⟩ := hcut
            obtain ⟨W9, hW9⟩ : ∃ W9, W9 = wc := ⟨_, rfl⟩
            rw [← hW9] at hD ⊢
            clear hW9
            have HPm : Hid ((L.drop t ++ L.take t).Perm L) := by
              have h1 : (L.drop t ++ L.take t).Perm (L.take t ++ L.drop t) := List.perm_append_comm
              rwa [List.take_append_drop] at h1
            generalize L.drop t ++ L.take t = P at hD HPl HPm
            have HPs : Hid (sumBy mPod P ≤ 1048576) := by rw [Hid, sumBy_perm HPm.out]; exact HSm.out
            have HPn : Hid ((P.map (·.1)).Nodup) := (List.Perm.nodup_iff (HPm.out.map (fun p : PodD => p.1))).2 HND.out
            have HI0 : Hid (BoxL W9 w7.heap.size fs ∧ InfoAt (fun b => b < w.heap.size) (fun b => b ≠ w7.heap.size) W9 fs ((P.take 0).foldl addP (ofP x [])) ∧ SlAt RPod 16 296 (fun b => b ≠ w7.heap.size) W9 pa n pc P ∧ Below w7.heap.size w7 W9) := ⟨HX8.out.on hD.out.2, HI8.out.on hD.out.2, hD.out.1, on2 B78.out hD.out.2⟩
            clear hD HX8 HI8 B78 HDr HTk hcap
            go_wp2_with fail
            go_loopw [14] (fun i wr => ∃ (j : Nat) (cs : List Value), j ≤ n ∧ i = .int .i64 j ∧ Hid (BoxL wr w7.heap.size cs ∧ InfoAt (fun b => b < w.heap.size) (fun b => b ≠ w7.heap.size) wr cs ((P.take j).foldl addP (ofP x [])) ∧ SlAt RPod 16 296 (fun b => b ≠ w7.heap.size) wr pa n pc P ∧ Below w7.heap.size w7 wr)) (fun i _ => n - (intOf i).toNat)
            case atStart => exact ⟨0, fs, Nat.zero_le _, rfl, HI0⟩
            case round =>
              obtain ⟨j, cs, hj, rfl, hI⟩ := hrel
              have hlc : cs.length = 15 := hI.out.2.1.len
              have hic : (Try.prog.info? 41).map (·.size) = some cs.length := by rw [hlc]; exact sizeInfo
              have hd7 : w7.heap.size < wr.heap.size := hI.out.1.1
              have h07 := B07.out.size
              by_cases hlt3 : j < n
              · have hltz : (j : Int) < (n : Int) := by omega
                have hjl : j < P.length := by rw [HPl.out]; exact hlt3
                have HOK : Hid (hasB sEq ((P.take j).foldl addP (ofP x [])).2.1 (P.getD j default).1 = false) := order_ok x HPn.out hjl
                have HFA : Hid (FitsA ((P.take j).foldl addP (ofP x [])) (P.getD j default)) := fold_fits x HPs.out hjl
                have HXs : Hid ((P.take (j + 1)).foldl addP (ofP x []) = addP ((P.take j).foldl addP (ofP x [])) (P.getD j default)) := fold_succ _ P hjl
                obtain ⟨C, co, rfl, hC, hCA, ps, hr, hv⟩ := hI.out.2.2.1.get hlt3
                have hlp : ps.length = 16 := RPod.firm.len hr
                have hip : (Try.prog.info? 37).map (·.size) = some ps.length := by rw [hlp]; exact sizePod
                generalize P.getD j default = p at HOK HFA HXs hr
                generalize (P.take j).foldl addP (ofP x []) = X at HOK HFA HXs hI
                have HAE : Hid (addE X p = (addP X p, 0)) := by rw [Hid]; simp only [addE, HOK.out]; rfl
                have HS : Hid (∀ u, Below wr.heap.size wr u → (fun u => BoxL u w7.heap.size cs ∧ u.rangeAt C (co + j * 16) ps) u) := fun u hb => ⟨hI.out.1.on hb, fun i v hi => (hb.cell (p := ⟨C, co + j * 16 + i, none⟩) hC).trans (hv i v hi)⟩
                have HPr : Hid (RPod (fun b => b ≠ w7.heap.size) wr ps p) := hr
                clear hr hv HOK hlp
                go_upto_region 23 with fail
                go_cut [15, 16] (fun p1 q1 wx => q1 = .int .i64 0 ∧ ∃ (D : Nat) (rs : List Value) (lo hi : Nat), p1 = .pointer (some ⟨D, 0, none⟩) ∧ Hid (Spl (fun b => b < w.heap.size) wr wx D rs lo hi (addP X p)))
                case first =>
                  refine wp_region_noPanic ?_
                  refine wp_region_held_drew (S := (fun u => BoxL u w7.heap.size cs ∧ u.rangeAt C (co + j * 16) ps)) (by kernel_rfl) (HS.out _ (Below.refl _ _).drew) (fun hHeld => ?_)
                  have hb0 : Below wr.heap.size wr wr.drew := (Below.refl _ _).drew
                  refine' tq 0 (.agg cs.toArray) ?_ ?_
                  · exact yieldsIf_load_mid rfl 41 _ rfl w7.heap.size 0 rfl cs _ (fun u hu => hu.1.range) Try.underlying41 rfl hic
                  try go_frame
                  refine' tk 1 ?_ ?_; rotate_left
                  · intro u hu; clear hu; go_simp; try with_reducible rfl
                  try go_frame
                  refine' tk 2 ?_ ?_; rotate_left
                  · intro u hu; clear hu; go_simp; try with_reducible rfl
                  try go_frame
                  refine' tk 3 ?_ ?_; rotate_left
                  · intro u hu; clear hu; go_simp; try with_reducible rfl
                  try go_frame
                  refine' tq 4 (.agg ps.toArray) ?_ ?_
                  · exact yieldsIf_load_mid rfl 37 _ rfl C (co + j * 16) rfl ps _ (fun u hu => hu.2) Try.underlying37 rfl hip
                  try go_frame
                  refine tb 5 9 (fun K hK => ?_) (fun K hK => ?_)
                  ·
                    have hC1 := Add_calls cs ps (fun b => b < w.heap.size) (fun b => b ≠ w7.heap.size) (fun b => b ≠ w7.heap.size) X p wr.drew (hI.out.2.1.on hb0) (RPod.firm.kept HPr.out (Kept.below hb0)) HFA.out
                    rw [HAE.out] at hC1
                    go_simp
                    refine hC1.mono ?_
                    rintro e u1 ⟨rs, rfl, i1, thr, d1⟩
                    clear hC1
                    have hb1 : Below wr.heap.size wr u1 := on2 hb0 d1
                    have inf := i1.weak (A' := (fun b => b < w.heap.size)) (F' := Seg wr.drew.heap.size u1.heap.size) (fun _ _ h => h) (fun b hb h => ⟨h, hb⟩)
                    have glo1 : wr.heap.size ≤ wr.drew.heap.size := hb0.size
                    have ghi1 : u1.heap.size ≤ u1.heap.size := Nat.le_refl _
                    go_wp2_with fail
                    refine hK.out _ _ (HS.out _ hb1) (fun hHeld2 => ?_)
                    clear hK K hHeld; have hHeld := hHeld2; clear hHeld2
                    try go_frame
                    refine' tk 6 ?_ ?_; rotate_left
                    · intro u hu; clear hu; go_simp; try with_reducible rfl
                    try go_frame
                    refine' tk 7 ?_ ?_; rotate_left
                    · intro u hu; clear hu; go_simp; try with_reducible rfl
                    try go_frame
                    refine' tk 8 ?_ ?_; rotate_left
                    · intro u hu; clear hu; go_simp; try with_reducible rfl
                    try go_frame
                    refine tr 9 (fun K hK => ?_)
                    go_simp
                    have nS2res : ¬ Seg wr.drew.heap.size u1.heap.size (u1.heap.size) := fun h => by have h1 := h.2; have h2 := ghi1; omega
                    obtain ⟨u2, hu2⟩ : ∃ u2, u2 = u1.alloc (.cells #[.string ⟨#[]⟩, .slice none 0 0, .slice none 0 0, .bool false, .int .i64 0, .int .i64 0, .int .i64 0, .int .i64 0, .int .i64 0, .slice none 0 0, .int .i64 0, .int .i64 0, .int .i64 0, .slice none 0 0, .slice none 0 0] 41) := ⟨_, rfl⟩
                    have d2 : Below u1.heap.size u1 u2 := by rw [hu2]; exact (Below.refl _ _).alloc (Nat.le_refl _) _
                    have hb2 : Below wr.heap.size wr u2 := on2 hb1 d2
                    have zb2 : BoxL u2 u1.heap.size [.string ⟨#[]⟩, .slice none 0 0, .slice none 0 0, .bool false, .int .i64 0, .int .i64 0, .int .i64 0, .int .i64 0, .int .i64 0, .slice none 0 0, .int .i64 0, .int .i64 0, .int .i64 0, .slice none 0 0, .slice none 0 0] := by rw [hu2]; exact BoxL.new u1 41 [.string ⟨#[]⟩, .slice none 0 0, .slice none 0 0, .bool false, .int .i64 0, .int .i64 0, .int .i64 0, .int .i64 0, .int .i64 0, .slice none 0 0, .int .i64 0, .int .i64 0, .int .i64 0, .slice none 0 0, .slice none 0 0]
                    have gD2 : wr.heap.size ≤ u1.heap.size := hb1.size
                    have inf := inf.on d2
                    have thr := thr.on d2
                    have ghi1 := Nat.le_trans ghi1 (d2).size
                    refine hK.out _ _ (HS.out _ (hu2 ▸ hb2)) (fun hHeld2 => ?_)
                    rw [← hu2] at hHeld2 ⊢
                    clear hu2
                    clear hK K hHeld; have hHeld := hHeld2; clear hHeld2
                    try go_frame
                    refine ts 10 (fun K hK => ?_)
                    have hq3 : rs.length = 15 := inf.len
                    have hi3 : (Try.prog.info? 41).map (·.size) = some rs.toArray.size := by have e : rs.toArray.size = 15 := (by simp [hq3]); rw [e]; exact sizeInfo
                    have ho3 : rs.toArray.all (·.oneCell') = true := all_oneCell_toArray inf.one
                    have ht3 : u2.there (u1.heap.size) 0 rs.toArray.size := by have e : rs.toArray.size = 15 := (by simp [hq3]); rw [e]; exact zb2.there
                    have hc3 : Below wr.heap.size wr (u2.setCells (u1.heap.size) 0 rs) := below_setCells hb2 gD2
                    have hw3 := spl_mk (w := w) (lst := rs) zb2 inf thr hb2 (by have h1 := gD2; omega) gD2 glo1 ghi1 nS2res (by rw [hq3]; rfl)
                    refine want_yes (by rfl) (wp_store_mid 41 _ _ rfl (u1.heap.size) 0 rs.toArray rfl rfl ht3 hi3 ho3 ?_)
                    refine hK.out undef _ (HS.out _ hc3) (fun hHeld2 => ?_)
                    clear hK K hHeld; have hHeld := hHeld2; clear hHeld2
                    try go_frame
                    refine' tk 11 ?_ ?_; rotate_left
                    · intro u hu; clear hu; go_simp; try with_reducible rfl
                    try go_frame
                    refine wpAnyH_done (by kernel_rfl) ?_ _
                    refine NoPanic.normal ?_
                    go_wp2_with fail
                    go_meet
                    exact ⟨rfl, u1.heap.size, rs, _, _, rfl, hw3⟩
                  ·
                    go_simp
                    obtain ⟨u4, hu4⟩ : ∃ u4, u4 = (wr.alloc (.cells #[.string ⟨#[]⟩, .slice none 0 0, .slice none 0 0, .bool false, .int .i64 0, .int .i64 0, .int .i64 0, .int .i64 0, .int .i64 0, .slice none 0 0, .int .i64 0, .int .i64 0, .int .i64 0, .slice none 0 0, .slice none 0 0] 41)).drew := ⟨_, rfl⟩
                    have d4 : Below wr.heap.size wr u4 := by rw [hu4]; exact ((Below.refl _ _).alloc (Nat.le_refl _) _).drew
                    have hb4 : Below wr.heap.size wr u4 := d4
                    have zb4 : BoxL u4 wr.heap.size [.string ⟨#[]⟩, .slice none 0 0, .slice none 0 0, .bool false, .int .i64 0, .int .i64 0, .int .i64 0, .int .i64 0, .int .i64 0, .slice none 0 0, .int .i64 0, .int .i64 0, .int .i64 0, .slice none 0 0, .slice none 0 0] := by rw [hu4]; exact (BoxL.new wr 41 [.string ⟨#[]⟩, .slice none 0 0, .slice none 0 0, .bool false, .int .i64 0, .int .i64 0, .int .i64 0, .int .i64 0, .int .i64 0, .slice none 0 0, .int .i64 0, .int .i64 0, .int .i64 0, .slice none 0 0, .slice none 0 0]).on (Below.refl _ _).drew
                    have gD4 : wr.heap.size ≤ wr.heap.size := hb0.size
                    refine hK.out _ _ (HS.out _ (hu4 ▸ hb4)) (fun hHeld2 => ?_)
                    rw [← hu4] at hHeld2 ⊢
                    clear hu4
                    clear hK K hHeld; have hHeld := hHeld2; clear hHeld2
                    try go_frame
                    refine tr 5 (fun K hK => ?_)
                    have hC5 := Add_calls cs ps (fun b => b < w.heap.size) (fun b => b ≠ w7.heap.size) (fun b => b ≠ w7.heap.size) X p u4 (hI.out.2.1.on hb4) (RPod.firm.kept HPr.out (Kept.below hb4)) HFA.out
                    have lt5 : wr.heap.size < u4.heap.size := zb4.1
                    rw [HAE.out] at hC5
                    go_simp
                    refine hC5.mono ?_
                    rintro e u5 ⟨rs, rfl, i5, thr, d5⟩
                    clear hC5
                    have hb5 : Below wr.heap.size wr u5 := on2 hb4 d5
                    have zb4 := zb4.on d5
                    have inf := i5.weak (A' := (fun b => b < w.heap.size)) (F' := Seg u4.heap.size u5.heap.size) (fun _ _ h => h) (fun b hb h => ⟨h, hb⟩)
                    have glo5 : wr.heap.size ≤ u4.heap.size := hb4.size
                    have ghi5 : u5.heap.size ≤ u5.heap.size := Nat.le_refl _
                    have ne5 : ¬ Seg u4.heap.size u5.heap.size (wr.heap.size) := fun h => by have h1 := h.1; have h2 := lt5; omega
                    go_wp2_with fail
                    refine hK.out _ _ (HS.out _ hb5) (fun hHeld2 => ?_)
                    clear hK K hHeld; have hHeld := hHeld2; clear hHeld2
                    try go_frame
                    refine' tk 6 ?_ ?_; rotate_left
                    · intro u hu; clear hu; go_simp; try with_reducible rfl
                    try go_frame
                    refine' tk 7 ?_ ?_; rotate_left
                    · intro u hu; clear hu; go_simp; try with_reducible rfl
                    try go_frame
                    refine' tk 8 ?_ ?_; rotate_left
                    · intro u hu; clear hu; go_simp; try with_reducible rfl
                    try go_frame
                    refine ts 10 (fun K hK => ?_)
                    have hq6 : rs.length = 15 := inf.len
                    have hi6 : (Try.prog.info? 41).map (·.size) = some rs.toArray.size := by have e : rs.toArray.size = 15 := (by simp [hq6]); rw [e]; exact sizeInfo
                    have ho6 : rs.toArray.all (·.oneCell') = true := all_oneCell_toArray inf.one
                    have ht6 : u5.there (wr.heap.size) 0 rs.toArray.size := by have e : rs.toArray.size = 15 := (by simp [hq6]); rw [e]; exact zb4.there
                    have hc6 : Below wr.heap.size wr (u5.setCells (wr.heap.size) 0 rs) := below_setCells hb5 gD4
                    have hw6 := spl_mk (w := w) (lst := rs) zb4 inf thr hb5 (by have h1 := gD4; omega) gD4 glo5 ghi5 ne5 (by rw [hq6]; rfl)
                    refine want_yes (by rfl) (wp_store_mid 41 _ _ rfl (wr.heap.size) 0 rs.toArray rfl rfl ht6 hi6 ho6 ?_)
                    refine hK.out undef _ (HS.out _ hc6) (fun hHeld2 => ?_)
                    clear hK K hHeld; have hHeld := hHeld2; clear hHeld2
                    try go_frame
                    refine' tk 11 ?_ ?_; rotate_left
                    · intro u hu; clear hu; go_simp; try with_reducible rfl
                    try go_frame
                    refine wpAnyH_done (by kernel_rfl) ?_ _
                    refine NoPanic.normal ?_
                    go_wp2_with fail
                    go_meet
                    exact ⟨rfl, wr.heap.size, rs, _, _, rfl, hw6⟩
                case rest =>
                  obtain ⟨rfl, D, rs, lo, hi, rfl, hSp⟩ := hcut
                  have HSp : Hid (Spl (fun b => b < w.heap.size) wr wc D rs lo hi (addP X p)) := hSp
                  have hlr : rs.length = 15 := hSp.out.inf.len
                  have hir : (Try.prog.info? 41).map (·.size) = some rs.length := by rw [hlr]; exact sizeInfo
                  have his : (Try.prog.info? 41).map (·.size) = some rs.toArray.size := by have e : rs.toArray.size = rs.length := (by simp); rw [e]; exact hir
                  have HOr : Hid (rs.toArray.all (·.oneCell') = true) := all_oneCell_toArray hSp.out.inf.one
                  have hXc := hI.out.1.on hSp.out.bel
                  have HTr : Hid (wc.there w7.heap.size 0 rs.toArray.size) := by have e : rs.toArray.size = 15 := (by simp [hlr]); rw [Hid, e, ← hlc]; exact hXc.there
                  obtain ⟨Wn, hWn⟩ : ∃ Wn, Wn = wc.setCells w7.heap.size 0 rs := ⟨_, rfl⟩
                  have hlo := hSp.out.glo
                  have HNx : Hid (BoxL Wn w7.heap.size rs ∧ InfoAt (fun b => b < w.heap.size) (fun b => b ≠ w7.heap.size) Wn rs ((P.take (j + 1)).foldl addP (ofP x [])) ∧ SlAt RPod 16 296 (fun b => b ≠ w7.heap.size) Wn (some ⟨C, co, none⟩) n pc P ∧ Below w7.heap.size w7 Wn) := by
                    rw [Hid, hWn, HXs.out]
                    refine ⟨box_write hXc (by rw [hlc, hlr]), (hSp.out.inf.store (D := w7.heap.size) (fun b _ h => ?_) 0 rs).weak (fun _ _ h => h) (fun b _ h => ?_), sl_store RPod.firm (hI.out.2.2.1.on RPod.firm hSp.out.bel) 0 rs, below_setCells (on2 hI.out.2.2.2 hSp.out.bel) (Nat.le_refl _)⟩
                    · rcases h with h | h
                      · have h1 : b < w.heap.size := h; omega
                      · have h1 := h.1; omega
                    · have h1 := h.1; show b ≠ w7.heap.size; omega
                  have HWn : Hid (Wn = wc.setCells w7.heap.size 0 (rs.toArray).toList) := by simpa [Hid] using hWn
                  clear hWn hSp hXc hlr
                  go_wp2_with (first | (refine wpList_load_mid rfl 41 _ rfl D 0 rfl rs _ HSp.out.box.range Try.underlying41 rfl hir ?_) | (refine wpList_store_mid rfl 41 _ _ rfl w7.heap.size 0 rs.toArray rfl rfl HTr.out his HOr.out ?_; refine wpl_at HWn.out ?_))
                  go_roundw
                  case rel => exact ⟨j + 1, rs, by omega, by go_num, HNx⟩
                  case measure => simp [intOf]; omega
              · have hlz3 : ¬ ((j : Int) < (n : Int)) := by omega
                have hj9 : P.take j = P := List.take_of_length_le (by rw [HPl.out]; omega)
                rw [hj9] at hI
                have HOf : Hid (P.foldl addP (ofP x []) = ofP x L) := order_plain x HPm.out HND.out
                rw [HOf.out] at hI
                have B1w : Hid (Below W1.heap.size W1 wr) := on2 B17.out hI.out.2.2.2
                have B0w : Hid (Below w.heap.size w wr) := on2 B07.out hI.out.2.2.2
                have HS : Hid (∀ u, Below wr.heap.size wr u → (fun u => BoxL u w7.heap.size cs ∧ BoxL u w.heap.size [k0, k1, k2, k3, k4, k5, k6, k7, k8]) u) := fun u hb => ⟨hI.out.1.on hb, HBN.out u (on2 B1w.out hb)⟩
                clear hj9
                go_upto_region 27 with fail
                refine wp_region_noPanic ?_
                refine wp_region_held_drew (S := (fun u => BoxL u w7.heap.size cs ∧ BoxL u w.heap.size [k0, k1, k2, k3, k4, k5, k6, k7, k8])) (by kernel_rfl) (HS.out _ (Below.refl _ _).drew) (fun hHeld => ?_)
                refine' tq 0 (.agg cs.toArray) ?_ ?_
                · exact yieldsIf_load_mid rfl 41 _ rfl w7.heap.size 0 rfl cs _ (fun u hu => hu.1.range) Try.underlying41 rfl hic
                try go_frame
                refine' tq 1 (.agg ([k0, k1, k2, k3, k4, k5, k6, k7, k8] : List Value).toArray) ?_ ?_
                · exact yieldsIf_load_mid rfl 27 _ rfl w.heap.size 0 rfl [k0, k1, k2, k3, k4, k5, k6, k7, k8] _ (fun u hu => hu.2.range) Try.underlying27 rfl hiN
                try go_frame
                refine' tk 2 ?_ ?_; rotate_left
                · intro u hu; clear hu; go_simp; try with_reducible rfl
                try go_frame
                refine tr 3 (fun K hK => ?_)
                go_simp
                refine (Of_calls [k0, k1, k2, k3, k4, k5, k6, k7, k8] a n cap (fun b => b < w.heap.size) (fun b => b < w.heap.size) x L wr.drew (HN.out _ B0w.out.drew) (HL.out _ B0w.out.drew) HF.out).mono ?_
                rintro e u1 ⟨es, rfl, i1, _, d1⟩
                have hb1 : Below wr.heap.size wr u1 := on2 (Below.refl _ _).drew d1
                go_wp2_with fail
                refine hK.out _ _ (HS.out _ hb1) (fun hHeld2 => ?_)
                clear hK K hHeld; have hHeld := hHeld2; clear hHeld2
                try go_frame
                refine tr 4 (fun K hK => ?_)
                go_simp
                refine (SameInfo_yes cs es _ _ (ofP x L) u1 (hI.out.2.1.on hb1).info i1.info).mono ?_
                rintro e u2 ⟨rfl, d2⟩
                have hb2 : Below wr.heap.size wr u2 := on2 hb1 d2
                go_wp2_with fail
                refine hK.out _ _ (HS.out _ hb2) (fun hHeld2 => ?_)
                clear hK K hHeld; have hHeld := hHeld2; clear hHeld2
                try go_frame
                refine' tk 5 ?_ ?_; rotate_left
                · intro u hu; clear hu; go_simp; try with_reducible rfl
                try go_frame
                refine wpAnyH_done (by kernel_rfl) ?_ _
                refine NoPanic.normal ?_
                have HBf : Hid (Below w.heap.size w u2) := on2 B0w.out hb2
                clear hHeld HS i1 d1 d2 hb1 hb2
                go_wp2_with fail
                go_ret
                exact ⟨rfl, HBf.out⟩
end Go.Proofs.Ytddeilhelkfpoaa
