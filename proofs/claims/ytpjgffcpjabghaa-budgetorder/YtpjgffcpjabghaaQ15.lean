/- The budget's bound. Condition: a state lies as is said of it. The budget's named. Condition: a state and names lie as is said of them. The budget's About. Condition: a state and a budget lie as is said of them. The budget's Allows. Condition: a state and a budget lie as is said of them; what the budget asks for is a number of Go's. -/
import Derived.Test.YtpjgffcpjabghaaQ14
namespace Go.Proofs.Ytpjgffcpjabghaa
open Go.RowKit Go.Maps
set_option linter.unusedSimpArgs false
set_option maxRecDepth 100000

theorem bound_snoc {P : List PodD} {k : Nat} (hk : k < P.length) : ∃ i : Nat, plc P (P.getD k default).1 = some (i : Int) ∧ i ≤ k ∧ boundP (P.take (k + 1)) = boundP (P.take k) ++ (if i = k ∧ bndB (P.getD k default) = true then [P.getD k default] else []) := by
  obtain ⟨i, e, hik, hh⟩ := idx_here hk
  refine ⟨i, by unfold plc; rw [e]; rfl, hik, ?_⟩
  unfold boundP
  rw [take_snoc18 hk, fs_snoc]
  generalize P.getD k default = p at hh ⊢
  unfold fsStep
  by_cases h : i = k
  · rw [if_neg (by rw [hh.1 h]; decide), List.filter_append]
    congr 1
    cases hb : bndB p <;> simp [h, hb]
  · have h2 : hasB sEq ((fsG (P.take k)).map Prod.fst) p.1 = true := by
      cases e2 : hasB sEq ((fsG (P.take k)).map Prod.fst) p.1 with
      | true => rfl
      | false => exact absurd (hh.2 e2) h
    rw [if_pos h2, if_neg (fun x => h x.1), List.append_nil]
set_option maxHeartbeats 4000000 in
theorem bound_calls (ss : List Value) (A : Where) (s : StateD) (w : World) (hs : Hid (RState A w ss s)) : Calls Try.prog 23 #[.agg ss.toArray] w fun e w' => ∃ v, e = .returned v ∧ Row RPod 16 (fun b => A b ∧ b < w.heap.size) w w' 54 v (boundP s.1) := by
  obtain ⟨W1, hW1⟩ : ∃ Z, Z = w.alloc (.cells ss.toArray 29) := ⟨_, rfl⟩
  have b1 : Below w.heap.size w W1 := by rw [hW1]; exact (Below.refl _ _).alloc (Nat.le_refl _) _
  have q1 : BoxL W1 w.heap.size ss := by rw [hW1]; exact BoxL.new w 29 _
  obtain ⟨⟨a, n, cap⟩, _, _, _, _, _, ess, sp, _⟩ := hs.out.out
  obtain ⟨I, hI⟩ : ∃ I, I = w.heap.size := ⟨_, rfl⟩
  rw [← hI] at q1
  have HI : Hid (w.heap.size = I) := hI.symm
  have HW : Hid (w.alloc (.cells ss.toArray 29) = W1) := hW1.symm
  have HC : Hid (∀ z, Below W1.heap.size W1 z → z.cell? ⟨I, 0, none⟩ = some (.slice a n cap)) := fun z hz => ((q1.on hz).2 0 _ (by rw [ess]; rfl)).1
  obtain ⟨AA, hAA⟩ : ∃ AA, AA = (fun b => A b ∧ b < w.heap.size : Where) := ⟨_, rfl⟩
  have HAA : Hid (∀ b, AA b → b < w.heap.size) := fun b h => by rw [hAA] at h; exact h.2
  rw [← hAA]
  have hS0 : SlAt RPod 16 296 AA w a n cap s.1 := by rw [hAA]; exact sp.weak RPod.firm (fun b hb h => ⟨h, hb⟩)
  obtain ⟨P, hP⟩ : ∃ P, P = s.1 := ⟨_, rfl⟩
  rw [← hP] at hS0 ⊢
  have HS : Hid (∀ z, Below w.heap.size w z → SlAt RPod 16 296 AA z a n cap P) := fun z hz => hS0.on RPod.firm hz
  have HB : Hid (Below w.heap.size w W1) := b1
  have hn : Hid (P.length = n) := hS0.1
  have hml : n * 296 ≤ 140737488351232 := hS0.2.2.2.1
  have hA := places_calls a n cap AA P W1 (HS.out W1 b1)
  have d1 := HC.out W1 (Below.refl _ _)
  clear hW1 b1 q1 ess sp hI hAA hS0 hP hs
  go_enter Try.func23, Try.ntmps23
  go_upto_region 1 with fail
  rw [HW.out, HI.out]
  clear HW
  go_wp2_with fail
  refine hA.mono ?_
  rintro e wm ⟨M, rfl, _, hM, bm⟩
  have d2 := HC.out wm bm
  have HM : Hid (MpI wm M (plc P) n) := hM
  have HBm : Hid (Below w.heap.size w wm) := on2 HB.out bm
  clear hA hM bm d1 HC HB
  go_wp2_with fail
  --M1
  go_loopw [4, 13] (fun v i z => ∃ k : Nat, k ≤ n ∧ i = .int .i64 k ∧ Hid (Row RPod 16 AA wm z 54 v (boundP (P.take k)))) (fun _ i _ => n - (intOf i).toNat)
  case atStart => exact ⟨0, Nat.zero_le _, rfl, Row.nil _ _ _⟩
  case round =>
    obtain ⟨k, hk, rfl, hz⟩ := hrel
    by_cases hlt : k < n
    case neg =>
      have hltz : ¬ (k : Int) < (n : Int) := by omega
      have hr := hz.out
      rw [List.take_of_length_le (by rw [hn.out]; omega)] at hr
      have HE := hr.from RPod.firm HBm.out (fun _ h => h)
      clear hr hz
      go_wp2_with fail
      go_ret
      exact ⟨_, rfl, HE⟩
    have hltz : (k : Int) < (n : Int) := by omega
    have hkl : k < P.length := by rw [hn.out]; exact hlt
    obtain ⟨D, off, rfl, hD, _, ps, hr, hv⟩ := (HS.out wr (on2 HBm.out hz.out.below)).get hlt
    obtain ⟨i, hi, hik, hsn⟩ := bound_snoc hkl
    have hbl := bound_len (P.take k)
    rw [List.length_take] at hbl
    obtain ⟨p, hp⟩ : ∃ p, p = P.getD k default := ⟨_, rfl⟩
    rw [← hp] at hr hi hsn
    obtain ⟨_, _, _, _, _, _, _, _, _, eps, hsz, _⟩ := hr.out
    obtain ⟨Z, X3, hZ, hX3, bX3, qX3, hT, hO, hSz1, hSz2⟩ := box_newQ RPod.firm hr zPodL rfl 54 sizePodQ
    obtain ⟨B, hB⟩ : ∃ B, B = wr.heap.size := ⟨_, rfl⟩
    have HBB : Hid (wr.heap.size = B) := hB.symm
    have HPv : Hid (wr.rangeAt D (off + k * 16) ps) := hv
    have HT : Hid (Z.there wr.heap.size 0 ps.toArray.size) := hT
    have HO : Hid (ps.toArray.all (·.oneCell') = true) := hO
    have HS1 : Hid ((Try.prog.info? 54).map (·.size) = some ps.length ∧ (Try.prog.info? 54).map (·.size) = some ps.toArray.size) := ⟨hSz1, hSz2⟩
    have HZ : Hid (wr.alloc (.cells zPodL.toArray 54) = Z) := hZ.symm
    have HX3 : Hid (X3 = Z.setCells wr.heap.size 0 ps.toArray.toList) := hX3
    rw [← hB] at qX3
    have c0 : X3.cell? ⟨B, 0, none⟩ = some (.string p.1) := (qX3.2 0 _ (by rw [eps]; rfl)).1
    have HR3 : Hid (∀ z, Below X3.heap.size X3 z → z.rangeAt B 0 ps) := fun z hz => (qX3.on hz).range
    have HPr : Hid (RPod AA X3 ps p) := RPod.firm.kept hr (Kept.below bX3)
    have HRw : Hid (Row RPod 16 AA wm X3 54 u4 (boundP (P.take k))) := hz.out.on RPod.firm bX3
    have hlk := (HM.out.on HRw.out.below).look hsz
    rw [hi] at hlk
    have HSN : Hid (boundP (P.take (k + 1)) = boundP (P.take k) ++ (if i = k ∧ bndB p = true then [p] else [])) := hsn
    have HLb : Hid (((boundP (P.take k)).length + [p].length) * 296 ≤ 140737488355328) := by rw [Hid, List.length_singleton]; omega
    have hA := isBound_calls ps AA p X3 HPr.out
    generalize hxp : p.1 = x at c0 hlk hsz
    clear hxp
    clear hp hr hT hO hSz1 hSz2 hZ hX3 bX3 qX3 hB hv hz hi hsn eps hbl
    go_upto_region 6 with (first | (refine wpList_load_mid rfl 54 _ rfl D (off + k * 16) rfl ps _ HPv.out Try.underlying54 rfl HS1.out.1 ?_) | (rw [HZ.out]; refine wpList_store_mid rfl 54 _ _ rfl wr.heap.size 0 ps.toArray rfl rfl HT.out HS1.out.2 HO.out ?_; refine wpl_atG HX3.out ?_; rw [HBB.out]) | fail)
    --M2
    have HS2 : Hid ((Try.prog.info? 54).map (·.size) = some ps.length) := HS1.out.1
    have e3 := HR3.out X3 (Below.refl _ _)
    clear HPv HT HO HS1 HZ HX3 HBB
    by_cases hik2 : i = k
    · have hb : ((i : Int) == (k : Int)) = true := by subst hik2; simp
      have HSM : Hid (boundP (P.take (k + 1)) = boundP (P.take k) ++ (if bndB p = true then [p] else [])) := by rw [Hid, HSN.out]; simp [hik2]
      clear HSN hik2 hik
      generalize hq : bndB p = q at hA HSM
      clear hq
      go_wp2_with (first | (refine load_wQ (by rfl) 54 _ rfl B 0 rfl ps _ e3 Try.underlying54 rfl HS2.out ?_) | fail)
      --M3
      refine hA.mono ?_
      rintro e w5 ⟨rfl, b5⟩
      have HR5 : Hid (Row RPod 16 AA wm w5 54 u4 (boundP (P.take k))) := HRw.out.on RPod.firm b5
      have HP5 : Hid (RPod AA w5 ps p) := RPod.firm.kept HPr.out (Kept.below b5)
      have e5 := HR3.out w5 b5
      clear hA b5 HR3 HRw e3 HPr c0
      cases q
      · have HE : Hid (Row RPod 16 AA wm w5 54 u4 (boundP (P.take (k + 1)))) := by rw [Hid, HSM.out]; simpa using HR5.out
        clear HSM HR5 HP5 HLb
        go_wp2_with fail
        go_roundw
        case rel => exact ⟨k + 1, by omega, by go_num, HE⟩
        case measure => simp [intOf]; omega
      · have HSO : Hid (boundP (P.take (k + 1)) = boundP (P.take k) ++ [p]) := by rw [Hid, HSM.out]; simp
        clear HSM
        go_wp2_with (first | (refine wpList_load_mid rfl 54 _ rfl B 0 rfl ps _ e5 Try.underlying54 rfl HS2.out ?_) | (refine build_pod rfl _ rfl HP5.out rfl ?_; intro W5 hb5 hq5) | (at_builtin; go_must (refine row_appendP RPod.firm (A := AA) (w0 := wm) rfl _ _ 22 54 rfl _ 296 infoPod18 Try.underlying22 rfl (by decide) (by decide) u4 (boundP (P.take k)) rfl (HR5.out.on RPod.firm hb5) (some ⟨w5.heap.size, 0, none⟩) 1 1 [p] rfl (src_boxG RPod.firm hq5 (RPod.firm.weak (RPod.firm.kept HP5.out (Kept.below hb5)) (fun b hb h => ⟨h, HR5.out.far (Nat.lt_of_lt_of_le (HAA.out b h) HBm.out.size)⟩))) HLb.out ?_); intro v7 w7 hrow7 hg7 hw7) | fail)
        --M4
        have HE : Hid (Row RPod 16 AA wm w7 54 v7 (boundP (P.take (k + 1)))) := by rw [HSO.out]; exact hrow7
        clear HSO HR5 HP5 HLb hrow7 hg7 hw7 hb5 hq5
        go_roundw
        case rel => exact ⟨k + 1, by omega, by go_num, HE⟩
        case measure => simp [intOf]; omega
    · have hb : ((i : Int) == (k : Int)) = false := by simp; omega
      have HE : Hid (Row RPod 16 AA wm X3 54 u4 (boundP (P.take (k + 1)))) := by rw [HSN.out, if_neg (fun h => hik2 h.1), List.append_nil]; exact HRw.out
      clear HSN HRw HPr HLb HR3 e3
      go_wp2_with fail
      --M5
      go_roundw
      case rel => exact ⟨k + 1, by omega, by go_num, HE⟩
      case measure => simp [intOf]; omega
end Go.Proofs.Ytpjgffcpjabghaa
namespace Go.Proofs.Ytpjgffcpjabghaa
open Go.RowKit Go.Maps
set_option linter.unusedSimpArgs false
set_option maxRecDepth 100000

/-- Where the first of a name stands, for the names that are not yet taken. -/
def plcN (P G : List PodD) (s : ByteArray) : Option Int := if hasB sEq (G.map Prod.fst) s = true then none else plc P s
theorem nd_len {α : Type} {l m : List α} (h : l.Nodup) (hs : ∀ x ∈ l, x ∈ m) : l.length ≤ m.length := by
  classical
  induction l generalizing m with
  | nil => simp
  | cons a r ih =>
    obtain ⟨h1, h2⟩ := List.nodup_cons.1 h
    have ha : a ∈ m := hs a List.mem_cons_self
    have h3 := ih (m := m.erase a) h2 (fun x hx => (List.mem_erase_of_ne (fun e : x = a => h1 (e ▸ hx))).2 (hs x (List.mem_cons_of_mem _ hx)))
    rw [List.length_erase_of_mem ha] at h3
    have h4 : 0 < m.length := List.length_pos_of_mem ha
    simp only [List.length_cons]; omega
theorem named_lenL (P : List PodD) (N : List ByteArray) : (namedP P N).length ≤ P.length := by
  obtain ⟨h1, _, h3⟩ := named_spec P N
  have := nd_len h1 (m := P.map Prod.fst) (fun x hx => by
    have h := ((h3 x).1 hx).2
    cases e : podOf P x with
    | none => rw [e] at h; cases h
    | some p => have := podOf_some e; rw [← this.2]; exact List.mem_map.2 ⟨p, this.1, rfl⟩)
  simpa using this
theorem named_none {P : List PodD} {N : List ByteArray} {j : Nat} (hj : j < N.length) (h : plcN P (namedP P (N.take j)) (N.getD j default) = none) : namedP P (N.take (j + 1)) = namedP P (N.take j) := by
  have e : namedP P (N.take (j + 1)) = namedStep P (namedP P (N.take j)) (N.getD j default) := by unfold namedP; rw [take_snoc18 hj, List.foldl_append]; rfl
  rw [e]
  generalize namedP P (N.take j) = G at h ⊢
  generalize N.getD j default = v at h ⊢
  unfold namedStep
  refine if_neg (fun k => ?_)
  unfold plcN at h
  rw [if_neg (by rw [k.2]; decide)] at h
  have h2 : idxG P v = none := by unfold plc at h; cases e : idxG P v <;> rw [e] at h <;> simp_all
  have h3 : podOf P v = none := fsfind_no.2 (idx_none.1 h2)
  rw [h3] at k; cases k.1
theorem named_some {P : List PodD} {N : List ByteArray} {j : Nat} (hj : j < N.length) {i : Int} (h : plcN P (namedP P (N.take j)) (N.getD j default) = some i) : ∃ k : Nat, i = k ∧ k < P.length ∧ (P.getD k default).1 = N.getD j default ∧ namedP P (N.take (j + 1)) = namedP P (N.take j) ++ [P.getD k default] := by
  have e : namedP P (N.take (j + 1)) = namedStep P (namedP P (N.take j)) (N.getD j default) := by unfold namedP; rw [take_snoc18 hj, List.foldl_append]; rfl
  rw [e]
  generalize namedP P (N.take j) = G at h ⊢
  generalize N.getD j default = v at h ⊢
  unfold plcN at h
  cases hh : hasB sEq (G.map Prod.fst) v with
  | true => rw [if_pos hh] at h; cases h
  | false =>
    rw [if_neg (by rw [hh]; decide)] at h
    unfold plc at h
    cases e2 : idxG P v with
    | none => rw [e2] at h; cases h
    | some k =>
      rw [e2] at h
      obtain ⟨h1, h2, _⟩ := idx_some e2
      have h3 : podOf P v = some (P.getD k default) := h2
      refine ⟨k, by simpa using h.symm, h1, (podOf_some h3).2, ?_⟩
      unfold namedStep
      rw [if_pos ⟨by rw [h3]; rfl, hh⟩]
      unfold podB; rw [h3]; rfl
theorem plcN_snoc (P G : List PodD) (p : PodD) (s : ByteArray) : plcN P (G ++ [p]) s = if sEq p.1 s = true then none else plcN P G s := by
  have h : hasB sEq ((G ++ [p]).map Prod.fst) s = (hasB sEq (G.map Prod.fst) s || sEq p.1 s) := by
    rw [Bool.eq_iff_iff, has_mem, Bool.or_eq_true, has_mem, sEq_iff, List.map_append, List.mem_append, List.map_cons, List.map_nil, List.mem_singleton]
    exact or_congr_right eq_comm
  unfold plcN
  rw [h]
  cases hasB sEq (G.map Prod.fst) s <;> cases sEq p.1 s <;> rfl
/-- While names are taken. -/
def NmJ (wm : World) (M n : Nat) (AA : Where) (P G : List PodD) (v : Value) (z : World) : Prop := Row RPod 16 AA wm z 54 v G ∧ MpI z M (plcN P G) n ∧ v.ownBlock ≠ some M
set_option maxHeartbeats 4000000 in
theorem named_calls (ss : List Value) (A : Where) (s : StateD) (na : Option Addr) (nn nc : Nat) (A' : Where) (N : List ByteArray) (w : World) (hs : Hid (RState A w ss s)) (hN : Hid (SlAt RStr 1 16 A' w na nn nc N)) : Calls Try.prog 20 #[.agg ss.toArray, .slice na nn nc] w fun e w' => ∃ v, e = .returned v ∧ Row RPod 16 (fun b => A b ∧ b < w.heap.size) w w' 54 v (namedP s.1 N) := by
  obtain ⟨W1, hW1⟩ : ∃ Z, Z = w.alloc (.cells ss.toArray 29) := ⟨_, rfl⟩
  have b1 : Below w.heap.size w W1 := by rw [hW1]; exact (Below.refl _ _).alloc (Nat.le_refl _) _
  have q1 : BoxL W1 w.heap.size ss := by rw [hW1]; exact BoxL.new w 29 _
  obtain ⟨⟨a, n, cap⟩, _, _, _, _, _, ess, sp, _⟩ := hs.out.out
  obtain ⟨I, hI⟩ : ∃ I, I = w.heap.size := ⟨_, rfl⟩
  rw [← hI] at q1
  have HI : Hid (w.heap.size = I) := hI.symm
  have HW : Hid (w.alloc (.cells ss.toArray 29) = W1) := hW1.symm
  have HC : Hid (∀ z, Below W1.heap.size W1 z → z.cell? ⟨I, 0, none⟩ = some (.slice a n cap)) := fun z hz => ((q1.on hz).2 0 _ (by rw [ess]; rfl)).1
  obtain ⟨AA, hAA⟩ : ∃ AA, AA = (fun b => A b ∧ b < w.heap.size : Where) := ⟨_, rfl⟩
  have HAA : Hid (∀ b, AA b → b < w.heap.size) := fun b h => by rw [hAA] at h; exact h.2
  rw [← hAA]
  have hS0 : SlAt RPod 16 296 AA w a n cap s.1 := by rw [hAA]; exact sp.weak RPod.firm (fun b hb h => ⟨h, hb⟩)
  obtain ⟨P, hP⟩ : ∃ P, P = s.1 := ⟨_, rfl⟩
  rw [← hP] at hS0 ⊢
  have HS : Hid (∀ z, Below w.heap.size w z → SlAt RPod 16 296 AA z a n cap P) := fun z hz => hS0.on RPod.firm hz
  have HSN : Hid (∀ z, Below w.heap.size w z → SlAt RStr 1 16 A' z na nn nc N) := fun z hz => hN.out.on RStr.firm hz
  have HB : Hid (Below w.heap.size w W1) := b1
  have hn : Hid (P.length = n) := hS0.1
  have hnn : Hid (N.length = nn) := hN.out.1
  have hml : n * 296 ≤ 140737488351232 := hS0.2.2.2.1
  have hmn : nn * 16 ≤ 140737488351232 := hN.out.2.2.2.1
  have hA := places_calls a n cap AA P W1 (HS.out W1 b1)
  have d1 := HC.out W1 (Below.refl _ _)
  clear hW1 b1 q1 ess sp hI hAA hS0 hP hs hN
  go_enter Try.func20, Try.ntmps20
  go_upto_region 1 with fail
  rw [HW.out, HI.out]
  clear HW
  go_wp2_with fail
  refine hA.mono ?_
  rintro e wm ⟨M, rfl, hMw, hM, bm⟩
  have HBm : Hid (Below w.heap.size w wm) := on2 HB.out bm
  have HMw : Hid (W1.heap.size ≤ M) := hMw
  have H0 : Hid (NmJ W1 M n AA P (namedP P (N.take 0)) (.slice none 0 0) wm) := ⟨(Row.nil _ _ _).on RPod.firm bm, hM.as (fun s => rfl), fun e => by cases e⟩
  clear hA hM bm d1
  go_wp2_with fail
  --M1
  go_loopw [6, 16] (fun v i z => ∃ k : Nat, k ≤ nn ∧ i = .int .i64 k ∧ Hid (NmJ W1 M n AA P (namedP P (N.take k)) v z)) (fun _ i _ => nn - (intOf i).toNat)
  case atStart => exact ⟨0, Nat.zero_le _, rfl, H0⟩
  case round =>
    clear H0
    obtain ⟨k, hk, rfl, hz⟩ := hrel
    by_cases hlt : k < nn
    case neg =>
      have hltz : ¬ (k : Int) < (nn : Int) := by omega
      have hr := hz.out.1
      rw [List.take_of_length_le (by rw [hnn.out]; omega)] at hr
      have HE := hr.from RPod.firm HB.out (fun _ h => h)
      clear hr hz
      go_wp2_with fail
      go_ret
      exact ⟨_, rfl, HE⟩
    have hltz : (k : Int) < (nn : Int) := by omega
    have hkl : k < N.length := by rw [hnn.out]; exact hlt
    have hbz := hz.out.1.below
    obtain ⟨D, off, rfl, hD, _, cs, hr, hv⟩ := (HSN.out wr (on2 HB.out hbz)).get hlt
    obtain ⟨hce, hsz⟩ := hr
    have e0 := hv 0 _ (by rw [hce]; rfl)
    rw [Nat.add_zero, Nat.mul_one] at e0
    have hno := named_none (P := P) hkl
    have hso := fun i => named_some (P := P) hkl (i := i)
    obtain ⟨G, hG⟩ : ∃ G, G = namedP P (N.take k) := ⟨_, rfl⟩
    obtain ⟨x, hx⟩ : ∃ x, x = N.getD k default := ⟨_, rfl⟩
    rw [← hx] at e0 hsz hno hso
    have hzo := hz.out
    rw [← hG] at hzo hno hso
    have HNo : Hid (plcN P G x = none → namedP P (N.take (k + 1)) = G) := hno
    have HSo : Hid (∀ i, plcN P G x = some i → ∃ m : Nat, i = m ∧ m < P.length ∧ (P.getD m default).1 = x ∧ namedP P (N.take (k + 1)) = G ++ [P.getD m default]) := fun i => hso i
    have HJ : Hid (NmJ W1 M n AA P G u6 wr) := hzo
    have hgl : G.length ≤ P.length := by rw [hG]; exact named_lenL P (N.take k)
    have HGl : Hid (G.length ≤ n) := by rw [Hid, ← hn.out]; exact hgl
    have hlk := HJ.out.2.1.lookOk hsz
    clear hno hso hzo hz hG hx hv hce hgl
    cases hf : plcN P G x with
    | none =>
      rw [hf] at hlk
      have HE : Hid (NmJ W1 M n AA P (namedP P (N.take (k + 1))) u6 wr) := by rw [HNo.out hf]; exact HJ.out
      clear HNo HSo hf HJ
      go_wp2_with fail
      --M2
      go_roundw
      case rel => exact ⟨k + 1, by omega, by go_num, HE⟩
      case measure => simp [intOf]; omega
    | some i0 =>
      rw [hf] at hlk
      obtain ⟨m, rfl, hm, hpx, hnx⟩ := HSo.out i0 hf
      have hm1 : m < n := by rw [← hn.out]; exact hm
      have hm2 : (m : Int) < (n : Int) := by omega
      have hm0 : ¬ (m : Int) < 0 := by omega
      have hm3 : (0 : Int) ≤ (m : Int) := by omega
      have HLb : Hid ((G.length + 1) * 296 ≤ 140737488355328) := by have := HGl.out; rw [Hid]; omega
      obtain ⟨F, fo, rfl, hF, _, ps, hpr, hpv⟩ := (HS.out wr (on2 HB.out hbz)).get hm1
      have d2 := HC.out wr hbz
      obtain ⟨p, hp⟩ : ∃ p, p = P.getD m default := ⟨_, rfl⟩
      rw [← hp] at hpr hpx hnx
      have HPr : Hid (RPod AA wr ps p) := hpr
      have HPv : Hid (wr.rangeAt F (fo + m * 16) ps) := hpv
      have HSz : Hid ((Try.prog.info? 54).map (·.size) = some ps.length) := by rw [Hid, RPod.firm.len hpr]; exact sizePodQ
      have HNx : Hid (namedP P (N.take (k + 1)) = G ++ [p] ∧ p.1 = x) := ⟨hnx, hpx⟩
      clear HNo HSo hf hpr hpv hp hpx hnx hbz hm
      go_upto_region 9 with (first | (refine wpList_load_mid rfl 54 _ rfl F (fo + m * 16) rfl ps _ HPv.out Try.underlying54 rfl HSz.out ?_) | (refine build_pod rfl _ rfl HPr.out rfl ?_; intro W5 hb5 hq5) | (at_builtin; go_must (refine row_appendP RPod.firm (A := AA) (w0 := W1) rfl _ _ 22 54 rfl _ 296 infoPod18 Try.underlying22 rfl (by decide) (by decide) u6 G rfl (HJ.out.1.on RPod.firm hb5) (some ⟨wr.heap.size, 0, none⟩) 1 1 [p] rfl (src_boxG RPod.firm hq5 (RPod.firm.weak (RPod.firm.kept HPr.out (Kept.below hb5)) (fun b hb h => ⟨h, HJ.out.1.far (Nat.lt_of_lt_of_le (HAA.out b h) HB.out.size)⟩))) HLb.out ?_); intro v7 w7 hrow7 hg7 hw7) | fail)
      --M3
      have hMlt : M < wr.heap.size := HJ.out.2.1.lt
      have HJ7 : Hid (NmJ W1 M n AA P G v7 w7 ∨ True) := .inr trivial
      have HM7 : Hid (MpI w7 M (plcN P G) n) := (HJ.out.2.1.on hb5).grown hg7 (fun e => HJ.out.2.2 e)
      have HR7 : Hid (Row RPod 16 AA W1 w7 54 v7 (G ++ [p])) := hrow7
      have HV7 : Hid (v7.ownBlock ≠ some M) := by
        rcases hw7 with h | h
        · rw [Hid, h]; exact HJ.out.2.2
        · rw [Hid, h]; intro e; have := hb5.size; injection e with e; omega
      clear HJ hrow7 hg7 hw7 hb5 hq5 HPr HPv HSz HLb hlk d2 HJ7
      go_wp2_with (first | (at_delete; go_must (refine wpList_delI rfl _ _ rfl rfl x hsz rfl HM7.out ?_); intro w8 hm8 ht8) | fail)
      --M4
      have HE : Hid (NmJ W1 M n AA P (namedP P (N.take (k + 1))) v7 w8) := by
        rw [HNx.out.1]
        refine ⟨HR7.out.keptXG RPod.firm ?_ (Kept.grown ht8.grown (fun b e => ?_)), hm8.as (fun t => ?_), HV7.out⟩
        · exact Turns.behind HR7.out.below (Turns.map ht8 (by exact HMw.out))
        · cases e; rintro (h | h)
          · have := HAA.out M h; have := HMw.out; have := HB.out.size; omega
          · exact HV7.out h
        · rw [plcN_snoc, HNx.out.2]
      clear hm8 ht8 HR7 HV7 HM7 HNx
      go_roundw
      case rel => exact ⟨k + 1, by omega, by go_num, HE⟩
      case measure => simp [intOf]; omega
end Go.Proofs.Ytpjgffcpjabghaa
namespace Go.Proofs.Ytpjgffcpjabghaa
open Go.RowKit Go.Maps
set_option linter.unusedSimpArgs false
set_option maxRecDepth 100000

/-- The names of those that a budget is about. -/
def abtN (G : List PodD) (b : BudgetD) : List ByteArray := (G.filter fun p => matchL p.2.2.1 b.2.1).map Prod.fst
theorem abt_snoc {G : List PodD} (b : BudgetD) {k : Nat} (hk : k < G.length) : abtN (G.take (k + 1)) b = abtN (G.take k) b ++ (if matchL (G.getD k default).2.2.1 b.2.1 = true then [(G.getD k default).1] else []) := by
  unfold abtN
  rw [take_snoc18 hk, List.filter_append, List.map_append]
  congr 1
  generalize G.getD k default = y
  cases h : matchL y.2.2.1 b.2.1 <;> simp [h]
theorem abt_len (G : List PodD) (b : BudgetD) : (abtN G b).length ≤ G.length := by unfold abtN; rw [List.length_map]; exact List.length_filter_le _ _
set_option maxHeartbeats 4000000 in
theorem about_calls18 (ss bs : List Value) (A A' : Where) (s : StateD) (b : BudgetD) (w : World) (hs : Hid (RState A w ss s)) (hb : Hid (RBudget A' w bs b)) : Calls Try.prog 10 #[.agg ss.toArray, .agg bs.toArray] w fun e w' => ∃ v, e = .returned v ∧ Row RStr 1 (fun _ => False) w w' 9 v (aboutP (fsG s.1) b) := by
  obtain ⟨W1, hW1⟩ : ∃ Z, Z = w.alloc (.cells ss.toArray 29) := ⟨_, rfl⟩
  have b1 : Below w.heap.size w W1 := by rw [hW1]; exact (Below.refl _ _).alloc (Nat.le_refl _) _
  have q1 : BoxL W1 w.heap.size ss := by rw [hW1]; exact BoxL.new w 29 _
  have s1 : W1.heap.size = w.heap.size + 1 := by rw [hW1]; simp
  obtain ⟨W2, hW2⟩ : ∃ Z, Z = W1.alloc (.cells bs.toArray 37) := ⟨_, rfl⟩
  have b2 : Below W1.heap.size W1 W2 := by rw [hW2]; exact (Below.refl _ _).alloc (Nat.le_refl _) _
  have q2 : BoxL W2 (w.heap.size + 1) bs := by rw [hW2, ← s1]; exact BoxL.new W1 37 _
  have q12 := q1.on b2
  have HB : Hid (Below w.heap.size w W2) := on2 b1 b2
  obtain ⟨I, hI⟩ : ∃ I, I = w.heap.size := ⟨_, rfl⟩
  obtain ⟨J, hJ⟩ : ∃ J, J = w.heap.size + 1 := ⟨_, rfl⟩
  rw [← hI] at q12
  rw [← hJ] at q2
  have hW2' : (w.alloc (.cells ss.toArray 29)).alloc (.cells bs.toArray 37) = W2 := by rw [hW2, hW1]
  have HIJ : Hid (w.heap.size = I ∧ w.heap.size + 1 = J) := ⟨hI.symm, hJ.symm⟩
  have HSs : Hid ((Try.prog.info? 29).map (·.size) = some ss.length) := by rw [Hid, RState.firm.len hs.out]; exact sizeState18
  have HSb : Hid ((Try.prog.info? 37).map (·.size) = some bs.length) := by rw [Hid, RBudget.firm.len hb.out]; exact sizeBudQ
  have HQ : Hid (W2.rangeAt I 0 ss) := q12.range
  have HBu : Hid (∀ z, Below W2.heap.size W2 z → RBudget A' z bs b ∧ z.rangeAt J 0 bs) := fun z hz => ⟨RBudget.firm.kept hb.out (Kept.below (on2 HB.out hz)), (q2.on hz).range⟩
  have hA := bound_calls ss A s W2 (RState.firm.kept hs.out (Kept.below HB.out))
  obtain ⟨⟨a, n, cap⟩, _, _, _, _, _, ess, sp, _⟩ := hs.out.out
  have hn : s.1.length = n := sp.1
  have hml : n * 296 ≤ 140737488351232 := sp.2.2.2.1
  have hbl := bound_len s.1
  rw [hn] at hbl
  have HAb : Hid (aboutP (fsG s.1) b = abtN (boundP s.1) b) := (about_bound s.1 b).symm
  rw [HAb.out]
  clear HAb
  obtain ⟨G, hG⟩ : ∃ G, G = boundP s.1 := ⟨_, rfl⟩
  rw [← hG] at hA hbl ⊢
  clear hW1 hW2 b1 b2 q1 q2 q12 s1 hs hb ess sp hI hJ hG hn
  go_enter Try.func10, Try.ntmps10
  go_upto_region 1 with fail
  rw [HIJ.out.2, HIJ.out.1]
  clear hW2'
  go_wp2_with (first | (refine wpList_load_mid rfl 29 _ rfl I 0 rfl ss _ HQ.out Try.underlying29 rfl HSs.out ?_) | fail)
  refine hA.mono ?_
  rintro e wm ⟨v, rfl, hv⟩
  --M1
  obtain ⟨ga, gc, rfl, hg⟩ := hv.slO18 RPod.firm (bytes := 296) (Nat.le_trans (Nat.mul_le_mul_right _ hbl) hml)
  have bm := hv.below
  have HBm : Hid (Below w.heap.size w wm) := on2 HB.out bm
  obtain ⟨A3, hA3⟩ : ∃ A3, A3 = (fun x => (A x ∧ x < W2.heap.size) ∨ (Value.slice ga G.length gc).ownBlock = some x : Where) := ⟨_, rfl⟩
  rw [← hA3] at hg
  have HS : Hid (∀ z, Below wm.heap.size wm z → SlAt RPod 16 296 A3 z ga G.length gc G) := fun z hz => hg.on RPod.firm hz
  have HBv : Hid (∀ z, Below wm.heap.size wm z → RBudget A' z bs b ∧ z.rangeAt J 0 bs) := fun z hz => HBu.out z (on2 bm hz)
  obtain ⟨n', hn'⟩ : ∃ n', n' = G.length := ⟨_, rfl⟩
  have HL : Hid (G.length = n') := hn'.symm
  have hnb : n' * 296 ≤ 140737488351232 := by have := Nat.mul_le_mul_right 296 hbl; omega
  rw [← hn'] at HS ⊢
  clear hA hv hg hA3 bm hn' HQ HBu hbl hml
  go_wp2_with fail
  --M2
  go_loopw [5, 11] (fun v i z => ∃ k : Nat, k ≤ n' ∧ i = .int .i64 k ∧ Hid (Row RStr 1 (fun _ => False) wm z 9 v (abtN (G.take k) b))) (fun _ i _ => n' - (intOf i).toNat)
  case atStart => exact ⟨0, Nat.zero_le _, rfl, Row.nil _ _ _⟩
  case round =>
    obtain ⟨k, hk, rfl, hz⟩ := hrel
    by_cases hlt : k < n'
    case neg =>
      have hltz : ¬ (k : Int) < (n' : Int) := by omega
      have hr := hz.out
      rw [List.take_of_length_le (by rw [HL.out]; omega)] at hr
      have HE := hr.from RStr.firm HBm.out (fun _ h => h)
      clear hr hz
      go_wp2_with fail
      go_ret
      exact ⟨_, rfl, HE⟩
    have hltz : (k : Int) < (n' : Int) := by omega
    have hkl : k < G.length := by rw [HL.out]; exact hlt
    obtain ⟨D, off, rfl, hD, _, ps, hr, hv⟩ := (HS.out wr hz.out.below).get hlt
    have hsn := abt_snoc b hkl
    have hbl := abt_len (G.take k) b
    rw [List.length_take] at hbl
    obtain ⟨p, hp⟩ : ∃ p, p = G.getD k default := ⟨_, rfl⟩
    rw [← hp] at hr hsn
    obtain ⟨_, _, _, _, _, _, _, _, _, eps, hsz, _⟩ := hr.out
    obtain ⟨Z, X3, hZ, hX3, bX3, qX3, hT, hO, hSz1, hSz2⟩ := box_newQ RPod.firm hr zPodL rfl 54 sizePodQ
    obtain ⟨B, hB⟩ : ∃ B, B = wr.heap.size := ⟨_, rfl⟩
    have HBB : Hid (wr.heap.size = B) := hB.symm
    have HPv : Hid (wr.rangeAt D (off + k * 16) ps) := hv
    have HT : Hid (Z.there wr.heap.size 0 ps.toArray.size) := hT
    have HO : Hid (ps.toArray.all (·.oneCell') = true) := hO
    have HS1 : Hid ((Try.prog.info? 54).map (·.size) = some ps.length ∧ (Try.prog.info? 54).map (·.size) = some ps.toArray.size) := ⟨hSz1, hSz2⟩
    have HZ : Hid (wr.alloc (.cells zPodL.toArray 54) = Z) := hZ.symm
    have HX3 : Hid (X3 = Z.setCells wr.heap.size 0 ps.toArray.toList) := hX3
    rw [← hB] at qX3
    have HR3 : Hid (X3.rangeAt B 0 ps) := qX3.range
    have HC3 : Hid (∀ z, Below X3.heap.size X3 z → z.cell? ⟨B, 0, none⟩ = some (.string p.1)) := fun z hz => ((qX3.on hz).2 0 _ (by rw [eps]; rfl)).1
    have HRw : Hid (Row RStr 1 (fun _ => False) wm X3 9 u5 (abtN (G.take k) b)) := hz.out.on RStr.firm bX3
    have HB3 := HBv.out X3 HRw.out.below
    have HR4 : Hid (X3.rangeAt J 0 bs) := HB3.2
    have hA := isAbout_calls ps bs _ A' p b X3 (RPod.firm.kept hr (Kept.below bX3)) HB3.1
    have HSN : Hid (abtN (G.take (k + 1)) b = abtN (G.take k) b ++ (if matchL p.2.2.1 b.2.1 = true then [p.1] else [])) := hsn
    generalize matchL p.2.2.1 b.2.1 = q at hA HSN
    have HLb : Hid (((abtN (G.take k) b).length + [p.1].length) * 16 ≤ 140737488355328) := by rw [Hid, List.length_singleton]; omega
    obtain ⟨x, hx⟩ : ∃ x, x = p.1 := ⟨_, rfl⟩
    rw [← hx] at HC3 HSN HLb hsz
    clear hp hr hT hO hSz1 hSz2 hZ hX3 bX3 qX3 hB hv hz hsn eps hbl hx HB3
    go_upto_region 5 with (first | (refine wpList_load_mid rfl 54 _ rfl D (off + k * 16) rfl ps _ HPv.out Try.underlying54 rfl HS1.out.1 ?_) | (rw [HZ.out]; refine wpList_store_mid rfl 54 _ _ rfl wr.heap.size 0 ps.toArray rfl rfl HT.out HS1.out.2 HO.out ?_; refine wpl_atG HX3.out ?_; rw [HBB.out]) | fail)
    --M3
    have HS2 : Hid ((Try.prog.info? 54).map (·.size) = some ps.length) := HS1.out.1
    clear HPv HT HO HS1 HZ HX3 HBB
    go_wp2_with (first | (refine wpList_load_mid rfl 37 _ rfl J 0 rfl bs _ HR4.out Try.underlying37 rfl HSb.out ?_) | (refine wpList_load_mid rfl 54 _ rfl B 0 rfl ps _ HR3.out Try.underlying54 rfl HS2.out ?_) | fail)
    refine hA.mono ?_
    rintro e w5 ⟨rfl, b5⟩
    have HR5 : Hid (Row RStr 1 (fun _ => False) wm w5 9 u5 (abtN (G.take k) b)) := HRw.out.on RStr.firm b5
    have c5 := HC3.out w5 b5
    clear hA b5 HR3 HR4 HS2 HRw HC3
    --M4
    cases q
    · have HE : Hid (Row RStr 1 (fun _ => False) wm w5 9 u5 (abtN (G.take (k + 1)) b)) := by rw [Hid, HSN.out]; simpa using HR5.out
      clear HSN HR5 HLb
      go_wp2_with fail
      go_roundw
      case rel => exact ⟨k + 1, by omega, by go_num, HE⟩
      case measure => simp [intOf]; omega
    · have HSO : Hid (abtN (G.take (k + 1)) b = abtN (G.take k) b ++ [x]) := by rw [Hid, HSN.out]; simp
      obtain ⟨W6, hW6⟩ : ∃ Z, Z = w5.alloc (.cells #[.string x] 9) := ⟨_, rfl⟩
      have b6 : Below w5.heap.size w5 W6 := by rw [hW6]; exact (Below.refl _ _).alloc (Nat.le_refl _) _
      have q6 : BoxL W6 w5.heap.size [.string x] := by rw [hW6]; exact BoxL.new w5 9 _
      have HW6 : Hid (W6 = w5.alloc (.cells #[.string x] 9)) := hW6
      have HR6 : Hid (Row RStr 1 (fun _ => False) wm W6 9 u5 (abtN (G.take k) b)) := HR5.out.on RStr.firm b6
      have HSr : Hid (Src RStr 1 (fun b => False ∧ Value.ownBlock u5 ≠ some b) W6 (some ⟨w5.heap.size, 0, none⟩) 1 [x]) := src_boxG RStr.firm q6 ⟨rfl, hsz⟩
      clear HSN HR5 hW6 b6 q6
      go_wp2_with (at_builtin; refine wpl_atG HW6.out ?_; refine row_appendP RStr.firm (A := fun _ => False) (w0 := wm) rfl _ _ 30 9 rfl _ 16 infoStr18 Try.underlying30 rfl (by decide) (by decide) u5 (abtN (G.take k) b) rfl HR6.out (some ⟨w5.heap.size, 0, none⟩) 1 1 [x] rfl HSr.out HLb.out ?_; intro v7 w7 hrow7 hg7 hw7)
      have HE : Hid (Row RStr 1 (fun _ => False) wm w7 9 v7 (abtN (G.take (k + 1)) b)) := by rw [HSO.out]; exact hrow7
      clear hrow7 hg7 hw7 HR6 HSr HLb HW6 HSO
      go_roundw
      case rel => exact ⟨k + 1, by omega, by go_num, HE⟩
      case measure => simp [intOf]; omega
end Go.Proofs.Ytpjgffcpjabghaa
namespace Go.Proofs.Ytpjgffcpjabghaa
open Go.RowKit Go.Maps
set_option linter.unusedSimpArgs false
set_option maxRecDepth 100000

set_option maxHeartbeats 4000000 in
theorem allows_calls18 (ss bs : List Value) (A A' : Where) (s : StateD) (b : BudgetD) (w : World) (hs : Hid (RState A w ss s)) (hb : Hid (RBudget A' w bs b)) (hf : FitQ b.2.2) : Calls Try.prog 13 #[.agg ss.toArray, .agg bs.toArray] w fun e w' => e = .returned (.int .i64 (allowsP (fsG s.1) b)) ∧ Below w.heap.size w w' := by
  obtain ⟨W1, hW1⟩ : ∃ Z, Z = w.alloc (.cells ss.toArray 29) := ⟨_, rfl⟩
  have b1 : Below w.heap.size w W1 := by rw [hW1]; exact (Below.refl _ _).alloc (Nat.le_refl _) _
  have q1 : BoxL W1 w.heap.size ss := by rw [hW1]; exact BoxL.new w 29 _
  have s1 : W1.heap.size = w.heap.size + 1 := by rw [hW1]; simp
  obtain ⟨W2, hW2⟩ : ∃ Z, Z = W1.alloc (.cells bs.toArray 37) := ⟨_, rfl⟩
  have b2 : Below W1.heap.size W1 W2 := by rw [hW2]; exact (Below.refl _ _).alloc (Nat.le_refl _) _
  have q2 : BoxL W2 (w.heap.size + 1) bs := by rw [hW2, ← s1]; exact BoxL.new W1 37 _
  have q12 := q1.on b2
  have HB : Hid (Below w.heap.size w W2) := on2 b1 b2
  obtain ⟨I, hI⟩ : ∃ I, I = w.heap.size := ⟨_, rfl⟩
  obtain ⟨J, hJ⟩ : ∃ J, J = w.heap.size + 1 := ⟨_, rfl⟩
  rw [← hI] at q12
  rw [← hJ] at q2
  have hW2' : (w.alloc (.cells ss.toArray 29)).alloc (.cells bs.toArray 37) = W2 := by rw [hW2, hW1]
  have HIJ : Hid (w.heap.size = I ∧ w.heap.size + 1 = J) := ⟨hI.symm, hJ.symm⟩
  have HSs : Hid ((Try.prog.info? 29).map (·.size) = some ss.length) := by rw [Hid, RState.firm.len hs.out]; exact sizeState18
  have HSb : Hid ((Try.prog.info? 37).map (·.size) = some bs.length) := by rw [Hid, RBudget.firm.len hb.out]; exact sizeBudQ
  have HBu : Hid (∀ z, Below W2.heap.size W2 z → RBudget A' z bs b ∧ z.rangeAt J 0 bs ∧ z.rangeAt I 0 ss) := fun z hz => ⟨RBudget.firm.kept hb.out (Kept.below (on2 HB.out hz)), (q2.on hz).range, (q12.on hz).range⟩
  have HA : Hid (∀ z, Below W2.heap.size W2 z → RState A z ss s) := fun z hz => RState.firm.kept hs.out (Kept.below (on2 HB.out hz))
  obtain ⟨⟨a, n, cap⟩, _, _, _, _, _, ess, sp, _⟩ := hs.out.out
  have hn : s.1.length = n := sp.1
  have hml : n * 296 ≤ 140737488351232 := sp.2.2.2.1
  have hbl := bound_len s.1
  rw [hn] at hbl
  have HLn : Hid ((boundP s.1).length * 296 ≤ 140737488351232) := Nat.le_trans (Nat.mul_le_mul_right _ hbl) hml
  have HAb : Hid (allW (allN (boundP s.1) b) b.2.2 = allowsP (fsG s.1) b) := all_bound s.1 b
  have HF : Hid (FitQ b.2.2) := hf
  rw [← HAb.out]
  clear HAb
  clear hW1 hW2 b1 b2 q1 q2 q12 s1 hs hb ess sp hI hJ hn hf hbl hml
  go_enter Try.func13, Try.ntmps13
  go_upto_region 1 with fail
  rw [HIJ.out.2, HIJ.out.1]
  clear hW2'
  --M1
  refine t0 (fun z => Below W2.heap.size W2 z) (Below.refl _ _).drew (fun hHeld => ?_)
  obtain ⟨wd, hwd⟩ : ∃ Z, Z = W2.drew := ⟨_, rfl⟩
  rw [← hwd] at hHeld ⊢
  clear hwd
  try go_frame
  refine tq 0 (.agg ss.toArray) (yieldsIf_load_mid (by rfl) 29 _ rfl I 0 rfl ss _ (fun z hz => (HBu.out z hz).2.2) Try.underlying29 rfl HSs.out) ?_ (hi := rfl)
  try go_frame
  refine tq 2 (.agg bs.toArray) (yieldsIf_load_mid (by rfl) 37 _ rfl J 0 rfl bs _ (fun z hz => (HBu.out z hz).2.1) Try.underlying37 rfl HSb.out) ?_ (hi := rfl)
  try go_frame
  have hC := bound_calls ss A s wd (HA.out wd hHeld)
  refine tr 1 (fun K hK => ?_)
  go_simp
  refine hC.mono ?_
  rintro e wm ⟨v, rfl, hv⟩
  clear hC
  obtain ⟨ga, gc, rfl, hg⟩ := hv.slO18 RPod.firm (bytes := 296) HLn.out
  have hm := on2 hHeld hv.below
  go_wp2_with fail
  refine hK.out _ _ hm (fun hHeld2 => ?_)
  clear hK K hHeld; have hHeld := hHeld2; clear hHeld2
  try go_frame
  have hC := allowed_calls ga (boundP s.1).length gc bs _ A' (boundP s.1) b wm hg (HBu.out wm hHeld).1 HF
  refine tr 3 (fun K hK => ?_)
  go_simp
  refine hC.mono ?_
  rintro e w5 ⟨rfl, b5⟩
  clear hC
  have h5 := on2 hHeld b5
  go_wp2_with fail
  refine hK.out _ _ h5 (fun hHeld2 => ?_)
  clear hK K hHeld; have hHeld := hHeld2; clear hHeld2
  try go_frame
  refine' tk 4 ?_ ?_; rotate_left
  · intro z hz; clear hz; go_simp; try with_reducible rfl
  try go_frame
  refine tz ?_
  have HE : Hid (Below w.heap.size w w5) := on2 HB.out hHeld
  clear hHeld hv hg
  go_wp2_with fail
  go_ret
  exact ⟨rfl, HE.out⟩
end Go.Proofs.Ytpjgffcpjabghaa
