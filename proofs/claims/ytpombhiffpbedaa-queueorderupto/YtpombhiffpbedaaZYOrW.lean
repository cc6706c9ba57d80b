/- QueueOrder's walk. Condition: the lists lie as is said of them, and are not too long. -/
import Derived.Test.YtpombhiffpbedaaQ18
namespace Go.Proofs.Ytpombhiffpbedaa
open Go.RowKit Go.Maps
set_option linter.unusedSimpArgs false
set_option maxRecDepth 100000

/-- What was added, and nothing more: all are ready, none was tried, their numbers are their own. -/
structure AddedY (S : List EnD) (n : Int) : Prop where
  fresh : ∀ e ∈ S, e.2 = 1 ∧ e.1.2.2.2.1 = 0
  seqs : (S.map (fun e => e.1.2.2.1)).Nodup
  low : ∀ e ∈ S, e.1.2.2.1 < n
theorem AddedY.nil : AddedY [] 0 := ⟨fun _ h => absurd h List.not_mem_nil, List.nodup_nil, fun _ h => absurd h List.not_mem_nil⟩
theorem AddedY.snoc {S : List EnD} {n : Int} (h : AddedY S n) (s : ByteArray) (pr : Int) : AddedY (S ++ [((s, pr, n, 0, 0), 1)]) (n + 1) := by
  refine ⟨fun e he => ?_, ?_, fun e he => ?_⟩
  · rcases List.mem_append.1 he with he | he
    · exact h.fresh e he
    · rw [List.mem_singleton.1 he]; exact ⟨rfl, rfl⟩
  · rw [List.map_append, List.nodup_append]
    refine ⟨h.seqs, by simp, fun a ha b hb => ?_⟩
    obtain ⟨e, he, rfl⟩ := List.mem_map.1 ha
    have := h.low e he
    simp at hb
    omega
  · rcases List.mem_append.1 he with he | he
    · have := h.low e he; omega
    · rw [List.mem_singleton.1 he]; show n < n + 1; omega
/-- What is left while all are popped: the one that came last is ahead of them all. -/
structure LeftY (S : List EnD) (k : Nat) (x : WtD) : Prop where
  fresh : ∀ e ∈ S, e.2 = 1 ∧ e.1.2.2.2.1 = 0
  seqs : (S.map (fun e => e.1.2.2.1)).Nodup
  last : 0 < k → ∀ e ∈ S, ahead (itY x) (itY e.1) = true ∧ x.2.2.1 ≠ e.1.2.2.1
theorem LeftY.pop {S S' : List EnD} {k : Nat} {x y : WtD} {er : Int} (h : LeftY S k x) (hS : 0 < S.length) (hnd : (S.map enN).Nodup) (hp : PopO S y er S') : er = 0 ∧ y.2.2.2.1 = 1 ∧ LeftY S' (k + 1) y ∧ S'.length + 1 = S.length ∧ (0 < k → ¬ (x.2.1 < y.2.1) ∧ (y.2.1 = x.2.1 → ¬ (y.2.2.1 ≤ x.2.2.1))) := by
  rcases hp with ⟨h0, _⟩ | ⟨e, he, hp, ha, rfl, rfl, rfl⟩
  · exfalso
    cases S with
    | nil => exact absurd hS (Nat.lt_irrefl _)
    | cons e S =>
      unfold rdyY at h0
      rw [List.filter_cons, if_pos (by simp [(h.fresh e List.mem_cons_self).1])] at h0
      cases h0
  · obtain ⟨⟨x0, x1, x2, x3, x4⟩, xp⟩ := e
    have hf := h.fresh _ he
    simp only at hf hp
    obtain ⟨rfl, rfl⟩ := hf
    have hm : moreY (x0, x1, x2, 0, x4) = (x0, x1, x2, 1, x4) := rfl
    rw [hm]
    refine ⟨rfl, rfl, ⟨fun z hz => h.fresh z (mem_othG.1 hz).1, ?_, fun _ z hz => ?_⟩, ?_, fun hk => ?_⟩
    · exact h.seqs.sublist (List.filter_sublist.map _)
    · obtain ⟨hz, hne⟩ := mem_othG.1 hz
      refine ⟨ha z hz (h.fresh z hz).1 hne, fun e2 => ?_⟩
      have := (List.pairwise_map.1 (show (S.map (fun e => e.1.2.2.1)).Pairwise (· ≠ ·) from h.seqs))
      by_cases e3 : z = ((x0, x1, x2, 0, x4), 1)
      · rw [e3] at hne; exact hne rfl
      · rcases List.pairwise_iff_getElem.1 this with hpw
        obtain ⟨i, hi, e4⟩ := List.getElem_of_mem hz
        obtain ⟨j, hj, e5⟩ := List.getElem_of_mem he
        rcases Nat.lt_trichotomy i j with hij | hij | hij
        · exact hpw i j hi hj hij (by rw [e4, e5]; exact e2.symm)
        · subst hij; rw [e4] at e5; exact e3 e5
        · exact hpw j i hj hi hij (by rw [e4, e5]; exact e2)
    · have := othG_len (key := enN) hnd x0
      rw [show fndG enN S x0 = some ((x0, x1, x2, 0, x4), 1) from fndG_of hnd he] at this
      simpa using this
    · obtain ⟨h1, h2⟩ := h.last hk _ he
      unfold ahead itY at h1
      simp only at h1 h2
      by_cases e1 : x.2.1 = x1
      · rw [if_neg (by simpa using e1), if_pos h2] at h1
        have h3 := of_decide_eq_true h1
        exact ⟨by simp only; omega, fun _ => by simp only; omega⟩
      · rw [if_pos e1] at h1
        have h3 := of_decide_eq_true h1
        exact ⟨by simp only; omega, fun e => by simp only at e; omega⟩
set_option maxHeartbeats 32000000 in
theorem order14_walk (x0 : Option Addr) (y0 z0 : Nat) (L0 : List ByteArray) (x1 : Option Addr) (y1 z1 : Nat) (L1 : List Int) (w : World) (h0 : SlAt RStr 1 16 (fun _ => True) w x0 y0 z0 L0) (h1 : SlAt RInt 1 8 (fun _ => True) w x1 y1 z1 L1) (hl : L0.length ≤ 1048576) :
    Calls Try.prog 4 #[.slice x0 y0 z0, .slice x1 y1 z1] w fun e w' => e = .returned (.bool true) ∧ Below w.heap.size w w' := by
  have hW := works14_calls w
  have H0 : Hid (SlAt RStr 1 16 (fun _ => True) w x0 y0 z0 L0) := h0
  have H1 : Hid (SlAt RInt 1 8 (fun _ => True) w x1 y1 z1 L1) := h1
  have hy0 : y0 = L0.length := h0.1.symm
  have hy0l : y0 ≤ 1048576 := by omega
  have Hy0 : Hid (y0 = L0.length ∧ y0 ≤ 1048576) := ⟨hy0, hy0l⟩
  have hy1l : y1 < 1000000000000000 := by have := h1.len (by decide); omega
  clear h0 h1 hl hy0
  go_enter Try.func4, Try.ntmps4
  go_wp2_with fail
  refine hW.mono ?_
  rintro e w1 ⟨rfl, b1⟩
  have hN := ynew_calls w1
  have HB1 : Hid (Below w.heap.size w w1) := b1
  clear hW b1
  go_wp2_with fail
  refine hN.mono ?_
  rintro e w2 ⟨p, rfl, h2, b2⟩
  have HI0 : Hid (QA (Fresh w) w2 p [] 0 [] ∧ Turns (Fresh w) w w2 ∧ AddedY [] 0) := ⟨h2.weak (fun b _ (hf : w1.heap.size ≤ b) => Nat.le_trans HB1.out.size hf), Turns.below (on2 HB1.out b2), AddedY.nil⟩
  clear hN h2 b2
  go_wp2_with fail
  --M1
  go_loopw [6, 7] (fun nv iv wr => ∃ (k : Nat) (n : Int) (S : List EnD), k ≤ y0 ∧ iv = .int .i64 k ∧ nv = .int .i64 n ∧ n = (S.length : Int) ∧ S.length ≤ k ∧ Hid (QA (Fresh w) wr p S n [] ∧ Turns (Fresh w) w wr ∧ AddedY S n)) (fun _ iv _ => y0 - (intOf iv).toNat)
  case atStart => exact ⟨0, 0, [], Nat.zero_le _, rfl, rfl, rfl, Nat.le_refl _, HI0⟩
  case round =>
    clear HI0
    obtain ⟨k, n, S, hk, rfl, rfl, hnS, hSk, HI⟩ := hrel
    have HnS : Hid (n = (S.length : Int)) := hnS
    have hn0 : 0 ≤ n := by omega
    have hn1 : n ≤ 1048576 := by have := Hy0.out.2; omega
    clear hnS
    by_cases hlt : k < y0
    · have hltz : (k : Int) < (y0 : Int) := by omega
      by_cases hlt1 : k < y1
      · have hltz1 : (k : Int) < (y1 : Int) := by omega
        obtain ⟨B, off, rfl, hB, _, xs, hr, hv⟩ := H0.out.get hlt
        obtain ⟨B2, off2, rfl, hB2, _, xs2, hr2, hv2⟩ := H1.out.get hlt1
        obtain ⟨rfl, hs⟩ : xs = [.string (L0.getD k default)] ∧ _ := hr
        obtain rfl : xs2 = [.int .i64 (L1.getD k default)] := hr2
        have d0 := hv 0 _ rfl
        have d1 := hv2 0 _ rfl
        rw [Nat.mul_one, Nat.add_zero] at d0 d1
        generalize L0.getD k default = s at d0 hs
        generalize L1.getD k default = pr at d1
        have HC : Hid (∀ z, Turns (Fresh w) wr z → z.cell? ⟨B, off + k, none⟩ = some (.string s) ∧ z.cell? ⟨B2, off2 + k, none⟩ = some (.int .i64 pr)) := fun z hz => by
          have ht := HI.out.2.1.trans hz
          have e1 := ht.block B hB (fun (hf : w.heap.size ≤ B) => by omega)
          have e2 := ht.block B2 hB2 (fun (hf : w.heap.size ≤ B2) => by omega)
          simp only [World.cell?, e1, e2]
          simp only [World.cell?] at d0 d1
          exact ⟨d0, d1⟩
        have hCall := fun (z : World) (hz : Below wr.heap.size wr z) => yadd_calls (HI.out.1.on hz) (fun b hb => Nat.le_trans HI.out.2.1.size (Nat.le_trans hz.size hb)) s hs pr (by have := Hy0.out.2; omega) ⟨by omega, by have := Hy0.out.2; omega⟩
        have HCall : Hid (∀ z, Below wr.heap.size wr z → Calls Try.prog 10 #[.pointer (some ⟨p, 0, none⟩), .string s, .int .i64 pr] z fun e w' => e = .returned (.int .i64 (agY S s)) ∧ QA (Fresh w) w' p (addL S (agY S s) ((s, pr, n, 0, 0), 1)) (addN n (agY S s)) [] ∧ Turns (Fresh w) z w') := hCall
        clear hCall hv hv2 d0 d1 hs
        go_upto_region 10 with fail
        --M2
        have hb0 : Below wr.heap.size wr wr.drew := (Below.refl _ _).drew
        refine t0 (fun z => Turns (Fresh w) wr z) (Turns.below hb0) (fun hHeld => ?_)
        have Hd : Hid (Below wr.heap.size wr wr.drew) := hb0
        generalize hwd : wr.drew = wd at hHeld Hd ⊢
        clear hwd hb0
        try go_frame
        refine' tk 0 ?_ ?_; rotate_left
        · intro z hz; obtain ⟨f0, f1⟩ := HC.out z hz; clear hz; go_simp; try with_reducible rfl
        try go_frame
        refine' tk 1 ?_ ?_; rotate_left
        · intro z hz; obtain ⟨f0, f1⟩ := HC.out z hz; clear hz; go_simp; try with_reducible rfl
        try go_frame
        refine' tk 2 ?_ ?_; rotate_left
        · intro z hz; obtain ⟨f0, f1⟩ := HC.out z hz; clear hz; go_simp; try with_reducible rfl
        try go_frame
        refine' tk 3 ?_ ?_; rotate_left
        · intro z hz; obtain ⟨f0, f1⟩ := HC.out z hz; clear hz; go_simp; try with_reducible rfl
        try go_frame
        refine' tk 4 ?_ ?_; rotate_left
        · intro z hz; obtain ⟨f0, f1⟩ := HC.out z hz; clear hz; go_simp; try with_reducible rfl
        try go_frame
        refine' tk 5 ?_ ?_; rotate_left
        · intro z hz; obtain ⟨f0, f1⟩ := HC.out z hz; clear hz; go_simp; try with_reducible rfl
        try go_frame
        refine' tk 6 ?_ ?_; rotate_left
        · intro z hz; obtain ⟨f0, f1⟩ := HC.out z hz; clear hz; go_simp; try with_reducible rfl
        try go_frame
        refine' tk 7 ?_ ?_; rotate_left
        · intro z hz; obtain ⟨f0, f1⟩ := HC.out z hz; clear hz; go_simp; try with_reducible rfl
        try go_frame
        refine' tk 8 ?_ ?_; rotate_left
        · intro z hz; obtain ⟨f0, f1⟩ := HC.out z hz; clear hz; go_simp; try with_reducible rfl
        try go_frame
        have HZ : Hid (∀ v, agY S s = v → agY S s = v) := fun _ h => h
        have hCa := HCall.out wd Hd.out
        obtain ⟨ag, hag⟩ : ∃ ag, ag = agY S s := ⟨_, rfl⟩
        rw [← hag] at hCa
        clear hag HZ HCall HC
        refine tr 9 (fun K hK => ?_)
        go_simp
        refine hCa.mono ?_
        rintro e w3 ⟨rfl, h3, k3⟩
        have HN3 : Hid (QA (Fresh w) w3 p (addL S ag ((s, pr, n, 0, 0), 1)) (addN n ag) [] ∧ Turns (Fresh w) wr w3) := ⟨h3, (Turns.below Hd.out).trans k3⟩
        have hS3 : Turns (Fresh w) wr w3 := HN3.out.2
        clear h3 k3 hCa
        go_wp2_with fail
        refine hK.out _ _ hS3 (fun hHeld2 => ?_)
        clear hK K hHeld; have hHeld := hHeld2; clear hHeld2
        try go_frame
        refine' tk 10 ?_ ?_; rotate_left
        · intro z hz; clear hz; go_simp; try with_reducible rfl
        try go_frame
        refine tz ?_
        clear hHeld hS3 Hd
        by_cases hz : ag = 0
        · subst hz
          have HN4 : Hid (QA (Fresh w) w3 p (S ++ [((s, pr, n, 0, 0), 1)]) (n + 1) [] ∧ Turns (Fresh w) w w3 ∧ AddedY (S ++ [((s, pr, n, 0, 0), 1)]) (n + 1)) := ⟨by have h1 := HN3.out.1; rw [addL_0, show addN n 0 = n + 1 from if_pos rfl] at h1; exact h1, HI.out.2.1.trans HN3.out.2, HI.out.2.2.snoc s pr⟩
          clear HN3 HI
          go_wp2_with fail
          go_roundw
          case rel => exact ⟨k + 1, n + 1, S ++ [((s, pr, n, 0, 0), 1)], by omega, by go_num, by go_num, by have := HnS.out; rw [List.length_append, List.length_singleton]; omega, by rw [List.length_append, List.length_singleton]; omega, HN4⟩
          case measure => simp [intOf]; omega
        · have HN4 : Hid (QA (Fresh w) w3 p S n [] ∧ Turns (Fresh w) w w3 ∧ AddedY S n) := ⟨by have h1 := HN3.out.1; rw [addL_no _ _ hz, show addN n ag = n from if_neg hz] at h1; exact h1, HI.out.2.1.trans HN3.out.2, HI.out.2.2⟩
          clear HN3 HI
          go_wp2_with fail
          go_roundw
          case rel => exact ⟨k + 1, n, S, by omega, by go_num, rfl, HnS.out, by omega, HN4⟩
          case measure => simp [intOf]; omega
      · have hltz1 : ¬ ((k : Int) < (y1 : Int)) := by omega
        obtain ⟨W3, hW3⟩ : ∃ Z, Z = wr.alloc (.cells #[.string ⟨#[]⟩, .int .i64 0, .int .i64 0, .int .i64 0, .int .i64 0] 28) := ⟨_, rfl⟩
        have b3 : Below wr.heap.size wr W3 := by rw [hW3]; exact (Below.refl _ _).alloc (Nat.le_refl _) _
        have q3 : BoxL W3 wr.heap.size (wtC zWtY) := by rw [hW3]; exact BoxL.new wr 28 _
        have HW3 : Hid (wr.alloc (.cells #[.string ⟨#[]⟩, .int .i64 0, .int .i64 0, .int .i64 0, .int .i64 0] 28) = W3) := hW3.symm
        obtain ⟨B8, hB8⟩ : ∃ B8, B8 = wr.heap.size := ⟨_, rfl⟩
        have HB8 : Hid (wr.heap.size = B8) := hB8.symm
        rw [← hB8] at q3
        have HJ0 : Hid (QA (fun b => Fresh w b ∧ b ≠ B8) W3 p S n [] ∧ Turns (Fresh w) w W3 ∧ BoxL W3 B8 (wtC zWtY) ∧ LeftY S 0 zWtY) := ⟨(HI.out.1.weak (fun b hb hf => ⟨hf, by omega⟩)).on b3, HI.out.2.1.trans (Turns.below b3), q3, ⟨HI.out.2.2.fresh, HI.out.2.2.seqs, fun h => absurd h (Nat.lt_irrefl _)⟩⟩
        have HF8 : Hid (Fresh w B8) := by rw [Hid, hB8]; exact HI.out.2.1.size
        have HnS0 : Hid (n = ((0 + S.length : Nat) : Int)) := by have := HnS.out; rw [Hid]; omega
        clear hW3 b3 q3 hB8 HI HnS
        go_upto_region 13 with fail
        rw [HW3.out, HB8.out]
        clear HW3 HB8
        go_wp2_with fail
        --M3
        go_loopw [9] (fun iv z => ∃ (j : Nat) (S2 : List EnD) (x : WtD), iv = .int .i64 j ∧ Hid (n = ((j + S2.length : Nat) : Int)) ∧ Hid (QA (fun b => Fresh w b ∧ b ≠ B8) z p S2 n [] ∧ Turns (Fresh w) w z ∧ BoxL z B8 (wtC x) ∧ LeftY S2 j x)) (fun iv _ => n.toNat - (intOf iv).toNat)
        case atStart => exact ⟨0, S, zWtY, rfl, HnS0, HJ0⟩
        case round =>
          clear HJ0 HnS0
          obtain ⟨j, S2, x, rfl, HjS, HJ⟩ := hrel
          have hnd := HJ.out.1.nd
          have hS2 : S2.length < 1000000000 := by have := HjS.out; omega
          have hP := ypop_calls HJ.out.1 (fun b hb => ⟨Nat.le_trans HJ.out.2.1.size hb, by have h1 := HJ.out.2.2.1.1; omega⟩) hS2 (fun e he => by have := (HJ.out.2.2.2.fresh e he).2; omega)
          by_cases hjn : (j : Int) < n
          · have hS0 : 0 < S2.length := by have := HjS.out; omega
            have HLp : Hid (∀ y er S', PopO S2 y er S' → er = 0 ∧ y.2.2.2.1 = 1 ∧ LeftY S' (j + 1) y ∧ S'.length + 1 = S2.length ∧ (0 < j → ¬ (x.2.1 < y.2.1) ∧ (y.2.1 = x.2.1 → ¬ (y.2.2.1 ≤ x.2.2.1)))) := fun y er S' hp => HJ.out.2.2.2.pop hS0 hnd hp
            have HjN : Hid ((j : Int) < n) := hjn
            clear hnd hS2 hS0
            go_wp2_with fail
            --M4
            refine hP.mono ?_
            rintro e z4 ⟨y, er, S', rfl, hpo, h4, k4⟩
            obtain ⟨her, hyt, hlft, hlen, hcmp⟩ := HLp.out y er S' hpo
            subst her
            have q4 := k4.box HJ.out.2.2.1 (fun hf => hf.2 rfl)
            have HT4 : Hid (Turns (Fresh w) w z4) := HJ.out.2.1.trans (k4.weak (fun b _ hf => hf.1))
            have HLf : Hid (LeftY S' (j + 1) y) := hlft
            have HLn : Hid (S'.length + 1 = S2.length) := hlen
            clear hP hpo k4 HJ HLp hlft hlen
            obtain ⟨p0, p1, p2, p3, p4⟩ := y
            obtain ⟨l0, l1, l2, l3, l4⟩ := x
            simp only at hyt hcmp
            subst hyt
            obtain ⟨W5, hW5⟩ : ∃ Z, Z = z4.alloc (.cells #[.string p0, .int .i64 p1, .int .i64 p2, .int .i64 1, .int .i64 p4] 28) := ⟨_, rfl⟩
            have b5 : Below z4.heap.size z4 W5 := by rw [hW5]; exact (Below.refl _ _).alloc (Nat.le_refl _) _
            have q5 : BoxL W5 z4.heap.size (wtC (p0, p1, p2, 1, p4)) := by rw [hW5]; exact BoxL.new z4 28 _
            have q5b : BoxL W5 B8 (wtC (l0, l1, l2, l3, l4)) := q4.on b5
            obtain ⟨W6, hW6⟩ : ∃ Z, Z = W5.setCells B8 0 (wtC (p0, p1, p2, 1, p4)) := ⟨_, rfl⟩
            have HN6 : Hid (QA (fun b => Fresh w b ∧ b ≠ B8) W6 p S' n [] ∧ Turns (Fresh w) w W6 ∧ BoxL W6 B8 (wtC (p0, p1, p2, 1, p4)) ∧ LeftY S' (j + 1) (p0, p1, p2, 1, p4)) := by
              rw [hW6]
              exact ⟨(h4.on b5).kept (fun b hb hf => (kept_setCells (A := fun b => b ≠ B8) (fun h => h rfl)).2 b hf.2 hb), HT4.out.trans ((Turns.below b5).trans (turns_cells HF8.out)), box_overY q5b rfl, HLf.out⟩
            have d1 : W5.cell? ⟨z4.heap.size, 1, none⟩ = some (.int .i64 p1) := (q5.2 1 _ rfl).1
            have d2 : W5.cell? ⟨z4.heap.size, 2, none⟩ = some (.int .i64 p2) := (q5.2 2 _ rfl).1
            have d3 : W5.cell? ⟨z4.heap.size, 3, none⟩ = some (.int .i64 1) := (q5.2 3 _ rfl).1
            have g1 : W5.cell? ⟨B8, 1, none⟩ = some (.int .i64 l1) := (q5b.2 1 _ rfl).1
            have g2 : W5.cell? ⟨B8, 2, none⟩ = some (.int .i64 l2) := (q5b.2 2 _ rfl).1
            have HX5 : Hid (W5.rangeAt z4.heap.size 0 (wtC (p0, p1, p2, 1, p4))) := q5.range
            have HTh : Hid (W5.there B8 0 (wtC (p0, p1, p2, 1, p4)).toArray.size) := q5b.there
            have HW5 : Hid (z4.alloc (.cells #[.string p0, .int .i64 p1, .int .i64 p2, .int .i64 1, .int .i64 p4] 28) = W5) := hW5.symm
            have HW6 : Hid (W5.setCells B8 0 (wtC (p0, p1, p2, 1, p4)).toArray.toList = W6) := hW6.symm
            have HNj : Hid (n = ((j + 1 + S'.length : Nat) : Int)) := by have h1 := HjS.out; have h2 := HLn.out; rw [Hid]; omega
            clear h4 q4 b5 q5 q5b hW5 hW6 HT4 HLf HLn HjS
            go_upto_region 17 with fail
            rw [HW5.out]
            --M5
            by_cases hj0 : j = 0
            · have hjz : ¬ ((0 : Int) < (j : Int)) := by omega
              clear hcmp hj0
              go_upto_region 19 with fail
              go_wp2_with (first | (refine wpList_load_mid rfl 28 _ rfl z4.heap.size 0 rfl (wtC (p0, p1, p2, 1, p4)) _ HX5.out Try.underlying28 rfl (by kernel_rfl) ?_) | (refine wpList_store_mid rfl 28 _ _ rfl B8 0 (wtC (p0, p1, p2, 1, p4)).toArray rfl rfl HTh.out (by kernel_rfl) (by simp [Value.oneCell']) ?_; refine wpl_atG HW6.out.symm ?_) | fail)
              go_roundw
              case rel => exact ⟨j + 1, S', (p0, p1, p2, 1, p4), by go_num, HNj, HN6⟩
              case measure => simp [intOf]; have h1 := HjN.out; omega
            · have hjz : (0 : Int) < (j : Int) := by omega
              obtain ⟨hc1, hc2⟩ := hcmp (by omega)
              by_cases hpe : p1 = l1
              · have hc3 := hc2 hpe
                subst hpe
                clear hcmp hc1 hc2
                go_upto_region 19 with fail
                go_wp2_with (first | (refine wpList_load_mid rfl 28 _ rfl z4.heap.size 0 rfl (wtC (p0, p1, p2, 1, p4)) _ HX5.out Try.underlying28 rfl (by kernel_rfl) ?_) | (refine wpList_store_mid rfl 28 _ _ rfl B8 0 (wtC (p0, p1, p2, 1, p4)).toArray rfl rfl HTh.out (by kernel_rfl) (by simp [Value.oneCell']) ?_; refine wpl_atG HW6.out.symm ?_) | fail)
                go_roundw
                case rel => exact ⟨j + 1, S', (p0, p1, p2, 1, p4), by go_num, HNj, HN6⟩
                case measure => simp [intOf]; have h1 := HjN.out; omega
              · clear hcmp hc2
                go_upto_region 19 with fail
                go_wp2_with (first | (refine wpList_load_mid rfl 28 _ rfl z4.heap.size 0 rfl (wtC (p0, p1, p2, 1, p4)) _ HX5.out Try.underlying28 rfl (by kernel_rfl) ?_) | (refine wpList_store_mid rfl 28 _ _ rfl B8 0 (wtC (p0, p1, p2, 1, p4)).toArray rfl rfl HTh.out (by kernel_rfl) (by simp [Value.oneCell']) ?_; refine wpl_atG HW6.out.symm ?_) | fail)
                go_roundw
                case rel => exact ⟨j + 1, S', (p0, p1, p2, 1, p4), by go_num, HNj, HN6⟩
                case measure => simp [intOf]; have h1 := HjN.out; omega
          · have hS0 : S2.length = 0 := by have := HjS.out; omega
            obtain rfl : S2 = [] := List.length_eq_zero_iff.1 hS0
            have HTz : Hid (Turns (Fresh w) w wr) := HJ.out.2.1
            clear hnd hS2 hS0
            go_wp2_with fail
            refine hP.mono ?_
            rintro e z4 ⟨y, er, S', rfl, hpo, h4, k4⟩
            obtain rfl : er = 5 := by
              rcases hpo with ⟨_, _, h, _⟩ | ⟨e, he, _⟩
              · exact h
              · exact absurd he List.not_mem_nil
            have HT4 : Hid (Turns (Fresh w) w (z4.alloc (.cells (wtC y).toArray 28))) := HTz.out.trans ((k4.weak (fun b _ hf => hf.1)).trans (Turns.alloc _ _ _))
            clear hP hpo h4 k4 HJ HTz
            go_wp2_with fail
            --M6
            go_ret
            exact ⟨rfl, Turns.behind (Below.refl _ _) HT4.out⟩
    · have hltz : ¬ ((k : Int) < (y0 : Int)) := by omega
      obtain ⟨W3, hW3⟩ : ∃ Z, Z = wr.alloc (.cells #[.string ⟨#[]⟩, .int .i64 0, .int .i64 0, .int .i64 0, .int .i64 0] 28) := ⟨_, rfl⟩
      have b3 : Below wr.heap.size wr W3 := by rw [hW3]; exact (Below.refl _ _).alloc (Nat.le_refl _) _
      have q3 : BoxL W3 wr.heap.size (wtC zWtY) := by rw [hW3]; exact BoxL.new wr 28 _
      have HW3 : Hid (wr.alloc (.cells #[.string ⟨#[]⟩, .int .i64 0, .int .i64 0, .int .i64 0, .int .i64 0] 28) = W3) := hW3.symm
      obtain ⟨B8, hB8⟩ : ∃ B8, B8 = wr.heap.size := ⟨_, rfl⟩
      have HB8 : Hid (wr.heap.size = B8) := hB8.symm
      rw [← hB8] at q3
      have HJ0 : Hid (QA (fun b => Fresh w b ∧ b ≠ B8) W3 p S n [] ∧ Turns (Fresh w) w W3 ∧ BoxL W3 B8 (wtC zWtY) ∧ LeftY S 0 zWtY) := ⟨(HI.out.1.weak (fun b hb hf => ⟨hf, by omega⟩)).on b3, HI.out.2.1.trans (Turns.below b3), q3, ⟨HI.out.2.2.fresh, HI.out.2.2.seqs, fun h => absurd h (Nat.lt_irrefl _)⟩⟩
      have HF8 : Hid (Fresh w B8) := by rw [Hid, hB8]; exact HI.out.2.1.size
      have HnS0 : Hid (n = ((0 + S.length : Nat) : Int)) := by have := HnS.out; rw [Hid]; omega
      clear hW3 b3 q3 hB8 HI HnS
      go_upto_region 13 with fail
      rw [HW3.out, HB8.out]
      clear HW3 HB8
      go_wp2_with fail
      --M3
      go_loopw [9] (fun iv z => ∃ (j : Nat) (S2 : List EnD) (x : WtD), iv = .int .i64 j ∧ Hid (n = ((j + S2.length : Nat) : Int)) ∧ Hid (QA (fun b => Fresh w b ∧ b ≠ B8) z p S2 n [] ∧ Turns (Fresh w) w z ∧ BoxL z B8 (wtC x) ∧ LeftY S2 j x)) (fun iv _ => n.toNat - (intOf iv).toNat)
      case atStart => exact ⟨0, S, zWtY, rfl, HnS0, HJ0⟩
      case round =>
        clear HJ0 HnS0
        obtain ⟨j, S2, x, rfl, HjS, HJ⟩ := hrel
        have hnd := HJ.out.1.nd
        have hS2 : S2.length < 1000000000 := by have := HjS.out; omega
        have hP := ypop_calls HJ.out.1 (fun b hb => ⟨Nat.le_trans HJ.out.2.1.size hb, by have h1 := HJ.out.2.2.1.1; omega⟩) hS2 (fun e he => by have := (HJ.out.2.2.2.fresh e he).2; omega)
        by_cases hjn : (j : Int) < n
        · have hS0 : 0 < S2.length := by have := HjS.out; omega
          have HLp : Hid (∀ y er S', PopO S2 y er S' → er = 0 ∧ y.2.2.2.1 = 1 ∧ LeftY S' (j + 1) y ∧ S'.length + 1 = S2.length ∧ (0 < j → ¬ (x.2.1 < y.2.1) ∧ (y.2.1 = x.2.1 → ¬ (y.2.2.1 ≤ x.2.2.1)))) := fun y er S' hp => HJ.out.2.2.2.pop hS0 hnd hp
          have HjN : Hid ((j : Int) < n) := hjn
          clear hnd hS2 hS0
          go_wp2_with fail
          --M4
          refine hP.mono ?_
          rintro e z4 ⟨y, er, S', rfl, hpo, h4, k4⟩
          obtain ⟨her, hyt, hlft, hlen, hcmp⟩ := HLp.out y er S' hpo
          subst her
          have q4 := k4.box HJ.out.2.2.1 (fun hf => hf.2 rfl)
          have HT4 : Hid (Turns (Fresh w) w z4) := HJ.out.2.1.trans (k4.weak (fun b _ hf => hf.1))
          have HLf : Hid (LeftY S' (j + 1) y) := hlft
          have HLn : Hid (S'.length + 1 = S2.length) := hlen
          clear hP hpo k4 HJ HLp hlft hlen
          obtain ⟨p0, p1, p2, p3, p4⟩ := y
          obtain ⟨l0, l1, l2, l3, l4⟩ := x
          simp only at hyt hcmp
          subst hyt
          obtain ⟨W5, hW5⟩ : ∃ Z, Z = z4.alloc (.cells #[.string p0, .int .i64 p1, .int .i64 p2, .int .i64 1, .int .i64 p4] 28) := ⟨_, rfl⟩
          have b5 : Below z4.heap.size z4 W5 := by rw [hW5]; exact (Below.refl _ _).alloc (Nat.le_refl _) _
          have q5 : BoxL W5 z4.heap.size (wtC (p0, p1, p2, 1, p4)) := by rw [hW5]; exact BoxL.new z4 28 _
          have q5b : BoxL W5 B8 (wtC (l0, l1, l2, l3, l4)) := q4.on b5
          obtain ⟨W6, hW6⟩ : ∃ Z, Z = W5.setCells B8 0 (wtC (p0, p1, p2, 1, p4)) := ⟨_, rfl⟩
          have HN6 : Hid (QA (fun b => Fresh w b ∧ b ≠ B8) W6 p S' n [] ∧ Turns (Fresh w) w W6 ∧ BoxL W6 B8 (wtC (p0, p1, p2, 1, p4)) ∧ LeftY S' (j + 1) (p0, p1, p2, 1, p4)) := by
            rw [hW6]
            exact ⟨(h4.on b5).kept (fun b hb hf => (kept_setCells (A := fun b => b ≠ B8) (fun h => h rfl)).2 b hf.2 hb), HT4.out.trans ((Turns.below b5).trans (turns_cells HF8.out)), box_overY q5b rfl, HLf.out⟩
          have d1 : W5.cell? ⟨z4.heap.size, 1, none⟩ = some (.int .i64 p1) := (q5.2 1 _ rfl).1
          have d2 : W5.cell? ⟨z4.heap.size, 2, none⟩ = some (.int .i64 p2) := (q5.2 2 _ rfl).1
          have d3 : W5.cell? ⟨z4.heap.size, 3, none⟩ = some (.int .i64 1) := (q5.2 3 _ rfl).1
          have g1 : W5.cell? ⟨B8, 1, none⟩ = some (.int .i64 l1) := (q5b.2 1 _ rfl).1
          have g2 : W5.cell? ⟨B8, 2, none⟩ = some (.int .i64 l2) := (q5b.2 2 _ rfl).1
          have HX5 : Hid (W5.rangeAt z4.heap.size 0 (wtC (p0, p1, p2, 1, p4))) := q5.range
          have HTh : Hid (W5.there B8 0 (wtC (p0, p1, p2, 1, p4)).toArray.size) := q5b.there
          have HW5 : Hid (z4.alloc (.cells #[.string p0, .int .i64 p1, .int .i64 p2, .int .i64 1, .int .i64 p4] 28) = W5) := hW5.symm
          have HW6 : Hid (W5.setCells B8 0 (wtC (p0, p1, p2, 1, p4)).toArray.toList = W6) := hW6.symm
          have HNj : Hid (n = ((j + 1 + S'.length : Nat) : Int)) := by have h1 := HjS.out; have h2 := HLn.out; rw [Hid]; omega
          clear h4 q4 b5 q5 q5b hW5 hW6 HT4 HLf HLn HjS
          go_upto_region 17 with fail
          rw [HW5.out]
          --M5
          by_cases hj0 : j = 0
          · have hjz : ¬ ((0 : Int) < (j : Int)) := by omega
            clear hcmp hj0
            go_upto_region 19 with fail
            go_wp2_with (first | (refine wpList_load_mid rfl 28 _ rfl z4.heap.size 0 rfl (wtC (p0, p1, p2, 1, p4)) _ HX5.out Try.underlying28 rfl (by kernel_rfl) ?_) | (refine wpList_store_mid rfl 28 _ _ rfl B8 0 (wtC (p0, p1, p2, 1, p4)).toArray rfl rfl HTh.out (by kernel_rfl) (by simp [Value.oneCell']) ?_; refine wpl_atG HW6.out.symm ?_) | fail)
            go_roundw
            case rel => exact ⟨j + 1, S', (p0, p1, p2, 1, p4), by go_num, HNj, HN6⟩
            case measure => simp [intOf]; have h1 := HjN.out; omega
          · have hjz : (0 : Int) < (j : Int) := by omega
            obtain ⟨hc1, hc2⟩ := hcmp (by omega)
            by_cases hpe : p1 = l1
            · have hc3 := hc2 hpe
              subst hpe
              clear hcmp hc1 hc2
              go_upto_region 19 with fail
              go_wp2_with (first | (refine wpList_load_mid rfl 28 _ rfl z4.heap.size 0 rfl (wtC (p0, p1, p2, 1, p4)) _ HX5.out Try.underlying28 rfl (by kernel_rfl) ?_) | (refine wpList_store_mid rfl 28 _ _ rfl B8 0 (wtC (p0, p1, p2, 1, p4)).toArray rfl rfl HTh.out (by kernel_rfl) (by simp [Value.oneCell']) ?_; refine wpl_atG HW6.out.symm ?_) | fail)
              go_roundw
              case rel => exact ⟨j + 1, S', (p0, p1, p2, 1, p4), by go_num, HNj, HN6⟩
              case measure => simp [intOf]; have h1 := HjN.out; omega
            · clear hcmp hc2
              go_upto_region 19 with fail
              go_wp2_with (first | (refine wpList_load_mid rfl 28 _ rfl z4.heap.size 0 rfl (wtC (p0, p1, p2, 1, p4)) _ HX5.out Try.underlying28 rfl (by kernel_rfl) ?_) | (refine wpList_store_mid rfl 28 _ _ rfl B8 0 (wtC (p0, p1, p2, 1, p4)).toArray rfl rfl HTh.out (by kernel_rfl) (by simp [Value.oneCell']) ?_; refine wpl_atG HW6.out.symm ?_) | fail)
              go_roundw
              case rel => exact ⟨j + 1, S', (p0, p1, p2, 1, p4), by go_num, HNj, HN6⟩
              case measure => simp [intOf]; have h1 := HjN.out; omega
        · have hS0 : S2.length = 0 := by have := HjS.out; omega
          obtain rfl : S2 = [] := List.length_eq_zero_iff.1 hS0
          have HTz : Hid (Turns (Fresh w) w wr) := HJ.out.2.1
          clear hnd hS2 hS0
          go_wp2_with fail
          refine hP.mono ?_
          rintro e z4 ⟨y, er, S', rfl, hpo, h4, k4⟩
          obtain rfl : er = 5 := by
            rcases hpo with ⟨_, _, h, _⟩ | ⟨e, he, _⟩
            · exact h
            · exact absurd he List.not_mem_nil
          have HT4 : Hid (Turns (Fresh w) w (z4.alloc (.cells (wtC y).toArray 28))) := HTz.out.trans ((k4.weak (fun b _ hf => hf.1)).trans (Turns.alloc _ _ _))
          clear hP hpo h4 k4 HJ HTz
          go_wp2_with fail
          --M6
          go_ret
          exact ⟨rfl, Turns.behind (Below.refl _ _) HT4.out⟩
end Go.Proofs.Ytpombhiffpbedaa
