/- The budget's tallyOf. Condition: a state lies as is said of it; what its budgets ask for are numbers of Go's. The budget's put. Condition: a tally and a bound pod lie as is said of them. -/
import Derived.Test.YtpjgffcpjabghaaQ15
namespace Go.Proofs.Ytpjgffcpjabghaa
open Go.RowKit Go.Maps
set_option linter.unusedSimpArgs false
set_option maxRecDepth 100000

theorem upd_wpQ {o : Oper} {a : Act} {K : Act → World → Prop} {Q : Exit → Act → World → Prop} {w u' : World} {mb : Nat} {kv zv : Value} (m k z : Operand) (t : TypeId) (hop : o.op = Op.mapUpdate t m k z) (hm : a.eval m = .map (some mb)) (hk : a.eval k = kv) (hz : a.eval z = zv)
    (hrun : (Instr.mapUpdate t (.map (some mb)) kv zv).run Try.prog w = .ok () u') (hK : K (a.put o.dst undef) u') : o.wp Try.prog a w K Q := by
  unfold Oper.wp
  simp [execOp, hop, hm, hk, hz, hrun, Result.andThen]
  exact hK
/-- How many more each budget allows, by its name. -/
def tlyF (P : List PodD) (F : List BudgetD) (t : ByteArray) : Option Int := (F.find? fun b => sEq b.1 t).map fun b => allowsP (fsG P) b
theorem tly_snoc {P : List PodD} {F : List BudgetD} {b : BudgetD} (h : (tlyF P F b.1).isSome = false) (t : ByteArray) : (if sEq b.1 t = true then some (allowsP (fsG P) b) else tlyF P F t) = tlyF P (F ++ [b]) t := by
  unfold tlyF at *
  rw [find_snoc]
  cases e : sEq b.1 t with
  | true =>
    have e3 := (sEq_iff _ _).1 e
    rw [e3] at h
    cases e2 : F.find? (fun q => sEq q.1 t) with
    | none => rw [if_pos rfl, if_pos rfl]; rfl
    | some q => rw [e2] at h; cases h
  | false => rw [if_neg (by decide), if_neg (by decide), Option.or_none]
theorem fs_yes18 {P : List PodD} {B : List BudgetD} {k : Nat} (hk : k < B.length) (h : (tlyF P (fsG (B.take k)) (B.getD k default).1).isSome = true) : fsG (B.take (k + 1)) = fsG (B.take k) := by
  rw [take_snoc18 hk, fs_snoc]
  unfold fsStep
  refine if_pos ?_
  rw [has_mem]
  unfold tlyF at h
  cases e : (fsG (B.take k)).find? (fun q => sEq q.1 (B.getD k default).1) with
  | none => rw [e] at h; cases h
  | some q => exact Classical.byContradiction fun x => by rw [fsfind_no.2 x] at e; cases e
theorem fs_no18 {P : List PodD} {B : List BudgetD} {k : Nat} (hk : k < B.length) (h : (tlyF P (fsG (B.take k)) (B.getD k default).1).isSome = false) : fsG (B.take (k + 1)) = fsG (B.take k) ++ [B.getD k default] := by
  rw [take_snoc18 hk, fs_snoc]
  unfold fsStep
  refine if_neg (fun x => ?_)
  rw [has_mem] at x
  unfold tlyF at h
  cases e : (fsG (B.take k)).find? (fun q => sEq q.1 (B.getD k default).1) with
  | none => exact fsfind_no.1 e x
  | some q => rw [e] at h; cases h
/-- What stays while budgets are tallied. -/
def TlS (A A3 : Where) (P : List PodD) (B : List BudgetD) (I Rb : Nat) (ga : Option Addr) (gc : Nat) (ba : Option Addr) (bn bc : Nat) (z : World) : Prop := SlAt RPod 16 296 A3 z ga (boundP P).length gc (boundP P) ∧ SlAt RBudget 3 48 A z ba bn bc B ∧ BoxL z Rb [.slice none 0 0, .map none] ∧ z.cell? ⟨I, 5, none⟩ = some (.slice ba bn bc)
/-- While budgets are tallied. -/
def TlJ (W1 wm : World) (A : Where) (P : List PodD) (F : List BudgetD) (T M k : Nat) (v : Value) (z : World) : Prop := Kept (fun b => b ≠ M ∧ b ≠ T) wm z ∧ Row RBudget 3 A W1 z 37 v F ∧ MpI z M (tlyF P F) k ∧ BoxL z T [v, .map (some M)] ∧ ∀ b, v.ownBlock = some b → wm.heap.size ≤ b
theorem range_kept18 {A : Where} {u u' : World} {D o : Nat} {cs : List Value} (h : u.rangeAt D o cs) (hk : Kept A u u') (hA : A D) (hD : D < u.heap.size) : u'.rangeAt D o cs := fun i v hi => (hk.cell (p := ⟨D, o + i, none⟩) hA hD).trans (h i v hi)
set_option maxHeartbeats 4000000 in
theorem tally_calls (ss : List Value) (A : Where) (s : StateD) (w : World) (hs : Hid (RState A w ss s)) (hf : Hid (∀ b ∈ s.2.2.2.2.2, FitQ b.2.2)) : Calls Try.prog 19 #[.agg ss.toArray] w fun e w' => ∃ ta tc mb, e = .returned (.agg #[.slice ta (fsG s.2.2.2.2.2).length tc, .map (some mb)]) ∧ SlAt RBudget 3 48 (fun b => b ≠ mb) w' ta (fsG s.2.2.2.2.2).length tc (fsG s.2.2.2.2.2) ∧ MpI w' mb (tlyF s.1 (fsG s.2.2.2.2.2)) 140737488355327 ∧ w.heap.size ≤ mb ∧ Below w.heap.size w w' := by
  obtain ⟨W1, hW1⟩ : ∃ Z, Z = w.alloc (.cells ss.toArray 29) := ⟨_, rfl⟩
  have b1 : Below w.heap.size w W1 := by rw [hW1]; exact (Below.refl _ _).alloc (Nat.le_refl _) _
  have q1 : BoxL W1 w.heap.size ss := by rw [hW1]; exact BoxL.new w 29 _
  have s1 : W1.heap.size = w.heap.size + 1 := by rw [hW1]; simp
  have HW1 : Hid (w.alloc (.cells ss.toArray 29) = W1) := hW1.symm
  obtain ⟨W2, hW2⟩ : ∃ Z, Z = W1.alloc (.cells #[.slice none 0 0, .map none] 58) := ⟨_, rfl⟩
  have b2 : Below W1.heap.size W1 W2 := by rw [hW2]; exact (Below.refl _ _).alloc (Nat.le_refl _) _
  have q2 : BoxL W2 (w.heap.size + 1) [.slice none 0 0, .map none] := by rw [hW2, ← s1]; exact BoxL.new W1 58 _
  have s2 : W2.heap.size = w.heap.size + 1 + 1 := by rw [hW2]; simp [s1]
  have HW2 : Hid (W1.alloc (.cells #[.slice none 0 0, .map none] 58) = W2) := hW2.symm
  obtain ⟨W3, hW3⟩ : ∃ Z, Z = W2.alloc (.map #[] 0) := ⟨_, rfl⟩
  have b3 : Below W2.heap.size W2 W3 := by rw [hW3]; exact (Below.refl _ _).alloc (Nat.le_refl _) _
  have s3 : W3.heap.size = w.heap.size + 1 + 1 + 1 := by rw [hW3]; simp [s2]
  have HW3 : Hid (W2.alloc (.map #[] 0) = W3) := hW3.symm
  have m3 : MpI W3 (w.heap.size + 1 + 1) (fun _ => none) 0 := by rw [hW3, ← s2]; exact MpI.made W2
  obtain ⟨W4, hW4⟩ : ∃ Z, Z = W3.alloc (.cells #[.slice none 0 0, .map (some (w.heap.size + 1 + 1))] 58) := ⟨_, rfl⟩
  have b4 : Below W3.heap.size W3 W4 := by rw [hW4]; exact (Below.refl _ _).alloc (Nat.le_refl _) _
  have q4 : BoxL W4 (w.heap.size + 1 + 1 + 1) [.slice none 0 0, .map (some (w.heap.size + 1 + 1))] := by rw [hW4, ← s3]; exact BoxL.new W3 58 _
  have s4 : W4.heap.size = w.heap.size + 1 + 1 + 1 + 1 := by rw [hW4]; simp [s3]
  have HW4 : Hid (W3.alloc (.cells #[.slice none 0 0, .map (some (w.heap.size + 1 + 1))] 58) = W4) := hW4.symm
  obtain ⟨_, _, _, _, _, ⟨ba, bn, bc⟩, ess, sp, _, _, _, _, sb⟩ := hs.out.out
  obtain ⟨AA, hAA⟩ : ∃ AA, AA = (fun b => A b ∧ b < w.heap.size : Where) := ⟨_, rfl⟩
  have HAA : Hid (∀ b, AA b → b < w.heap.size) := fun b h => by rw [hAA] at h; exact h.2
  have hsA : RState AA w ss s := by rw [hAA]; exact RState.firm.weak hs.out (fun b hb h => ⟨h, hb⟩)
  have hsB : SlAt RBudget 3 48 AA w ba bn bc s.2.2.2.2.2 := by rw [hAA]; exact sb.weak RBudget.firm (fun b hb h => ⟨h, hb⟩)
  have HB4 : Hid (Below w.heap.size w W4) := on2 (on2 (on2 b1 b2) b3) b4
  have HB14 : Hid (Below W1.heap.size W1 W4) := on2 (on2 b2 b3) b4
  have HB1 : Hid (Below w.heap.size w W1) := b1
  have hpn : s.1.length * 296 ≤ 140737488351232 := by rw [sp.1]; exact sp.2.2.2.1
  have HLn : Hid ((boundP s.1).length * 296 ≤ 140737488351232) := Nat.le_trans (Nat.mul_le_mul_right _ (bound_len s.1)) hpn
  have hbn : bn * 48 ≤ 140737488351232 := hsB.2.2.2.1
  have HBn : Hid (s.2.2.2.2.2.length = bn) := hsB.1
  have d5 : W2.cell? ⟨w.heap.size, 5, none⟩ = some (.slice ba bn bc) := ((q1.on b2).2 5 _ (by rw [ess]; rfl)).1
  have d54 : W4.cell? ⟨w.heap.size, 5, none⟩ = some (.slice ba bn bc) := ((q1.on HB14.out).2 5 _ (by rw [ess]; rfl)).1
  have hsz4 : W4.heap.size = w.heap.size + 1 + 1 + 1 + 1 := s4
  have hs1 : W1.heap.size = w.heap.size + 1 := s1
  have hsz2 : W2.heap.size = w.heap.size + 1 + 1 := s2
  have H4 : Hid (W4.rangeAt w.heap.size 0 ss ∧ BoxL W4 (w.heap.size + 1) [.slice none 0 0, .map none] ∧ BoxL W4 (w.heap.size + 1 + 1 + 1) [.slice none 0 0, .map (some (w.heap.size + 1 + 1))] ∧ MpI W4 (w.heap.size + 1 + 1) (fun _ => none) 0) := ⟨(q1.on HB14.out).range, q2.on (on2 b3 b4), q4, m3.on b4⟩
  have HSs : Hid ((Try.prog.info? 29).map (·.size) = some ss.length) := by rw [Hid, RState.firm.len hs.out]; exact sizeState18
  have HSt : Hid (∀ z, Below w.heap.size w z → RState AA z ss s ∧ SlAt RBudget 3 48 AA z ba bn bc s.2.2.2.2.2) := fun z hz => ⟨RState.firm.kept hsA (Kept.below hz), hsB.on RBudget.firm hz⟩
  obtain ⟨P, hP⟩ : ∃ P, P = s.1 := ⟨_, rfl⟩
  obtain ⟨B, hBe⟩ : ∃ B, B = s.2.2.2.2.2 := ⟨_, rfl⟩
  have hA := bound_calls ss AA s W4 (HSt.out W4 HB4.out).1
  rw [← hBe] at hf HBn HSt ⊢
  rw [← hP] at HLn hA ⊢
  clear hP hBe
  clear ess hW1 hW2 hW3 hW4 q1 q2 q4 m3 b1 b2 b3 b4 s1 s2 s3 s4 hs sp sb hsA hsB hAA hpn
  go_enter Try.func19, Try.ntmps19
  go_upto_region 1 with fail
  rw [HW1.out, HW2.out]
  have hmm := makeMapI
  go_upto_region 2 with fail
  rw [HW3.out, HW4.out]
  clear hmm HW1 HW2 HW3 HW4 d5
  obtain ⟨I, hI⟩ : ∃ I, I = w.heap.size := ⟨_, rfl⟩
  obtain ⟨Rb, hRb⟩ : ∃ I, I = w.heap.size + 1 := ⟨_, rfl⟩
  obtain ⟨M, hM⟩ : ∃ I, I = w.heap.size + 1 + 1 := ⟨_, rfl⟩
  obtain ⟨T, hT⟩ : ∃ I, I = w.heap.size + 1 + 1 + 1 := ⟨_, rfl⟩
  have HLs : Hid (w.heap.size = I ∧ w.heap.size + 1 = Rb ∧ w.heap.size + 1 + 1 = M ∧ w.heap.size + 1 + 1 + 1 = T) := ⟨hI.symm, hRb.symm, hM.symm, hT.symm⟩
  have HNum : Hid (w.heap.size = I ∧ Rb = I + 1 ∧ M = I + 2 ∧ T = I + 3 ∧ W4.heap.size = I + 4 ∧ W1.heap.size = I + 1) := by refine ⟨hI.symm, ?_, ?_, ?_, ?_, ?_⟩ <;> omega
  rw [← hT, ← hM, ← hRb, ← hI] at H4
  rw [← hI] at d54
  rw [HLs.out.2.2.2, HLs.out.2.2.1, HLs.out.2.1, HLs.out.1]
  clear hI hRb hM hT HLs hsz4 hs1 hsz2
  have HQ : Hid (W4.rangeAt I 0 ss) := H4.out.1
  go_wp2_with (first | (refine wpList_load_mid rfl 29 _ rfl I 0 rfl ss _ HQ.out Try.underlying29 rfl HSs.out ?_) | fail)
  refine hA.mono ?_
  rintro e wm ⟨v, rfl, hv⟩
  clear hA HQ
  --M2
  have bm := hv.below
  have hfar : ∀ b, b < W4.heap.size → v.ownBlock ≠ some b := fun b hb => hv.far hb
  obtain ⟨ga, gc, rfl, hg⟩ := hv.slO18 RPod.firm (bytes := 296) HLn.out
  obtain ⟨A3, hA3⟩ : ∃ A3, A3 = (fun x => (AA x ∧ x < W4.heap.size) ∨ (Value.slice ga (boundP P).length gc).ownBlock = some x : Where) := ⟨_, rfl⟩
  rw [← hA3] at hg
  have HN3 : Hid (∀ b, A3 b → b ≠ M ∧ b ≠ T) := fun b hb => by
    obtain ⟨n1, n2, n3, n4, n5, n6⟩ := HNum.out
    rw [hA3] at hb
    rcases hb with hb | hb
    · have := HAA.out b hb.1; omega
    · exact ⟨fun e => hfar M (by omega) (e ▸ hb), fun e => hfar T (by omega) (e ▸ hb)⟩
  have HX : Hid (∀ z, Kept (fun b => b ≠ M ∧ b ≠ T) wm z → TlS AA A3 P B I Rb ga gc ba bn bc z) := fun z hk => by
    obtain ⟨n1, n2, n3, n4, n5, n6⟩ := HNum.out
    have bq := bm.size
    refine ⟨hg.kept RPod.firm (hk.weak HN3.out), (((HSt.out wm (on2 HB4.out bm)).2).kept RBudget.firm (hk.weak (fun b hb => ?_))), (H4.out.2.1.on bm).kept hk (by omega), ?_⟩
    · have := HAA.out b hb; omega
    · exact (hk.cell (p := ⟨I, 5, none⟩) (show I ≠ M ∧ I ≠ T by omega) (show I < wm.heap.size by omega)).trans ((bm.cell (p := ⟨I, 5, none⟩) (show I < W4.heap.size by omega)).trans d54)
  have H0 : Hid (TlJ W1 wm AA P (fsG (B.take 0)) T M 0 (.slice none 0 0) wm) := ⟨Kept.refl _ _, (Row.nil _ _ _).on RBudget.firm (on2 HB14.out bm), (H4.out.2.2.2.on bm).as (fun s => rfl), H4.out.2.2.1.on bm, fun b e => (by cases e)⟩
  have dm := (HX.out wm (Kept.refl _ _)).2.2.2
  have HWs : Hid (I + 4 ≤ wm.heap.size) := by have := bm.size; have := HNum.out.2.2.2.2.1; rw [Hid]; omega
  have HBm : Hid (Below w.heap.size w wm) := on2 HB4.out bm
  clear hv hfar hg hA3 bm d54 H4 HB4 HSt HSs
  go_wp2_with fail
  --M3
  go_loopw [19] (fun i z => ∃ (k : Nat) (v : Value), k ≤ bn ∧ i = .int .i64 k ∧ Hid (TlJ W1 wm AA P (fsG (B.take k)) T M k v z)) (fun i _ => bn - (intOf i).toNat)
  case atStart => exact ⟨0, _, Nat.zero_le _, rfl, H0⟩
  case round =>
    clear H0 dm
    obtain ⟨k, v, hk, rfl, hz⟩ := hrel
    by_cases hlt : k < bn
    case neg =>
      have hltz : ¬ (k : Int) < (bn : Int) := by omega
      obtain ⟨h1, h2, h3, h4, h5⟩ := hz.out
      rw [List.take_of_length_le (by rw [HBn.out]; omega)] at h2 h3
      have hR := (HX.out wr h1).2.2.1
      obtain ⟨n1, n2, n3, n4, n5, n6⟩ := HNum.out
      have hfl : (fsG B).length * 48 ≤ 140737488351232 := Nat.le_trans (Nat.mul_le_mul_right _ (fs_len B)) (by rw [HBn.out]; exact hbn)
      obtain ⟨ta, tc, rfl, hsl⟩ := h2.slO18 RBudget.firm (bytes := 48) hfl
      have hsl2 : SlAt RBudget 3 48 (fun b => b ≠ M ∧ b ≠ Rb) wr ta (fsG B).length tc (fsG B) := hsl.weak RBudget.firm (fun b _ hb => by
        rcases hb with hb | hb
        · have := HAA.out b hb; omega
        · have := h5 _ hb; have := HWs.out; omega)
      obtain ⟨fs, hfs⟩ : ∃ fs : List Value, fs = [.slice ta (fsG B).length tc, .map (some M)] := ⟨_, rfl⟩
      have HFs : Hid (fs = [.slice ta (fsG B).length tc, .map (some M)]) := hfs
      have hfn : fs.length = 2 := by rw [hfs]; rfl
      rw [← hfs] at h4
      obtain ⟨W9, hW9⟩ : ∃ Z, Z = wr.setCells Rb 0 fs := ⟨_, rfl⟩
      have HT : Hid (wr.rangeAt T 0 fs) := h4.range
      have HTh : Hid (wr.there Rb 0 fs.toArray.size) := by rw [Hid, show fs.toArray.size = 2 by simp [hfn]]; exact hR.there
      have HO : Hid (fs.toArray.all (·.oneCell') = true) := by rw [Hid, hfs]; simp [Value.oneCell']
      have HI : Hid ((Try.prog.info? 58).map (·.size) = some fs.length) := by rw [Hid, hfn]; kernel_rfl
      have HI2 : Hid ((Try.prog.info? 58).map (·.size) = some fs.toArray.size) := by rw [Hid, show fs.toArray.size = 2 by simp [hfn]]; kernel_rfl
      have HRG : Hid (W9.rangeAt Rb 0 fs) := by rw [hW9]; exact World.rangeAt_setCells_same _ _ _ _ (by have h := hR.there; rwa [show ([.slice none 0 0, .map none] : List Value).length = fs.length by rw [hfn]; rfl] at h)
      have HK9 : Hid (Kept (fun b => b ≠ Rb) wr W9) := by rw [hW9]; exact kept_setCells (fun h => h rfl)
      have HE1 : Hid (SlAt RBudget 3 48 (fun b => b ≠ M) W9 ta (fsG B).length tc (fsG B)) := (hsl2.kept RBudget.firm (HK9.out.weak (fun b hb => hb.2))).weak RBudget.firm (fun b _ hb => hb.1)
      have HE2 : Hid (MpI W9 M (tlyF P (fsG B)) 140737488355327) := (h3.same (HK9.out.2 M (show M ≠ Rb by omega) h3.lt)).mono (by omega)
      have HE3 : Hid (Below w.heap.size w W9) := by rw [hW9]; exact below_setCells (on2 HB1.out h2.below) (by omega)
      have HE4 : Hid (w.heap.size ≤ M) := by rw [Hid]; omega
      have HW9 : Hid (wr.setCells Rb 0 fs.toArray.toList = W9) := hW9.symm
      clear h1 h2 h3 h4 h5 hR hsl hsl2 hfs hfn hW9 HK9 hz HX n1 n2 n3 n4 n5 n6
      go_wp2_with (first | (refine wpList_load_mid rfl 58 _ rfl T 0 rfl fs _ HT.out Try.underlying58 rfl HI.out ?_) | (refine wpList_store_mid rfl 58 _ _ rfl Rb 0 fs.toArray rfl rfl HTh.out HI2.out HO.out ?_; rw [HW9.out]) | fail)
      --M4
      refine bodyPost_ret (v := .agg fs.toArray) (res_cell (p := 2) (ty := 58) rfl _ _ Rb fs _ rfl HRG.out Try.underlying58 rfl HI.out) rfl ⟨ta, tc, M, by rw [HFs.out], HE1.out, HE2.out, HE4.out, HE3.out⟩
    have hltz : (k : Int) < (bn : Int) := by omega
    have hkl : k < B.length := by rw [HBn.out]; exact hlt
    obtain ⟨h1, h2, h3, h4, h5⟩ := hz.out
    obtain ⟨xP, xB, xR, xI⟩ := HX.out wr h1
    obtain ⟨D, off, rfl, hD, _, cs, hr, hv⟩ := xB.get hlt
    have hfy := fs_yes18 (P := P) hkl
    have hfn := fs_no18 (P := P) hkl
    have hfb : FitQ (B.getD k default).2.2 := hf.out _ (by rw [List.getD_eq_getElem?_getD, List.getElem?_eq_getElem hkl]; exact List.getElem_mem hkl)
    have hlen : (fsG (B.take k)).length ≤ k := by have h := fs_len (B.take k); rw [List.length_take] at h; omega
    obtain ⟨b, hb⟩ : ∃ b, b = B.getD k default := ⟨_, rfl⟩
    obtain ⟨F, hF⟩ : ∃ F, F = fsG (B.take k) := ⟨_, rfl⟩
    rw [← hb] at hr hfy hfn hfb
    rw [← hF] at hfy hfn hlen h2 h3
    obtain ⟨r1, ebs, hsz, _⟩ := hr.out
    obtain ⟨Z, X3, hZ, hX3, bX3, qX3, hT, hO, hSz1, hSz2⟩ := box_newQ RBudget.firm hr zBudL rfl 37 sizeBudQ
    obtain ⟨N, hN⟩ : ∃ N, N = wr.heap.size := ⟨_, rfl⟩
    have HBB : Hid (wr.heap.size = N) := hN.symm
    have HPv : Hid (wr.rangeAt D (off + k * 3) cs) := hv
    have HT : Hid (Z.there wr.heap.size 0 cs.toArray.size) := hT
    have HO : Hid (cs.toArray.all (·.oneCell') = true) := hO
    have HS1 : Hid ((Try.prog.info? 37).map (·.size) = some cs.length ∧ (Try.prog.info? 37).map (·.size) = some cs.toArray.size) := ⟨hSz1, hSz2⟩
    have HZ : Hid (wr.alloc (.cells zBudL.toArray 37) = Z) := hZ.symm
    have HX3 : Hid (X3 = Z.setCells wr.heap.size 0 cs.toArray.toList) := hX3
    rw [← hN] at qX3
    have HJ : Hid (TlJ W1 wm AA P F T M k v X3) := ⟨h1.trans (Kept.below bX3), h2.on RBudget.firm bX3, h3.on bX3, h4.on bX3, h5⟩
    have HC : Hid (∀ z, Below X3.heap.size X3 z → z.cell? ⟨N, 0, none⟩ = some (.string b.1) ∧ z.rangeAt N 0 cs ∧ z.cell? ⟨T, 1, none⟩ = some (.map (some M)) ∧ z.cell? ⟨T, 0, none⟩ = some v ∧ SlAt RPod 16 296 A3 z ga (boundP P).length gc (boundP P) ∧ RBudget AA z cs b) := fun z hz => ⟨((qX3.on hz).2 0 _ (by rw [ebs]; rfl)).1, (qX3.on hz).range, ((HJ.out.2.2.2.1.on hz).2 1 _ rfl).1, ((HJ.out.2.2.2.1.on hz).2 0 _ rfl).1, (xP.on RPod.firm bX3).on RPod.firm hz, RBudget.firm.kept (RBudget.firm.kept hr (Kept.below bX3)) (Kept.below hz)⟩
    obtain ⟨c0, _, c1, _⟩ := HC.out X3 (Below.refl _ _)
    have hlk := HJ.out.2.2.1.lookOk hsz
    obtain ⟨t, ht⟩ : ∃ t, t = (tlyF P F b.1).isSome := ⟨_, rfl⟩
    rw [← ht] at hlk hfy hfn
    have HTt : Hid ((tlyF P F b.1).isSome = t) := ht.symm
    have HFy : Hid (t = true → fsG (B.take (k + 1)) = F) := hfy
    have HFn : Hid (t = false → fsG (B.take (k + 1)) = F ++ [b]) := hfn
    have HFb : Hid (FitQ b.2.2) := hfb
    have HLn : Hid ((F.length + 1) * 48 ≤ 140737488355328) := by rw [Hid]; omega
    have hNn : N ≠ T ∧ N ≠ M := by have a1 := h4.1; have a2 := h3.lt; omega
    have HNn : Hid (N ≠ T ∧ N ≠ M) := hNn
    have HNn2 : Hid (N < X3.heap.size) := qX3.1
    generalize (tlyF P F b.1).getD 0 = i0 at hlk
    obtain ⟨x, hx⟩ : ∃ x, x = b.1 := ⟨_, rfl⟩
    rw [← hx] at c0 hlk hsz HTt
    have HXe : Hid (b.1 = x) := hx.symm
    clear h1 h2 h3 h4 h5 xP xB xR xI hr hv hfy hfn hfb hlen hb hF ebs hZ hX3 bX3 qX3 hT hO hSz1 hSz2 hN ht hz hNn hx
    go_upto_region 6 with (first | (refine wpList_load_mid rfl 37 _ rfl D (off + k * 3) rfl cs _ HPv.out Try.underlying37 rfl HS1.out.1 ?_) | (rw [HZ.out]; refine wpList_store_mid rfl 37 _ _ rfl wr.heap.size 0 cs.toArray rfl rfl HT.out HS1.out.2 HO.out ?_; refine wpl_atG HX3.out ?_; rw [HBB.out]) | fail)
    --M5
    have HS2 : Hid ((Try.prog.info? 37).map (·.size) = some cs.length) := HS1.out.1
    clear HPv HT HO HS1 HZ HX3 HBB
    cases t
    case true =>
      have HE : Hid (TlJ W1 wm AA P (fsG (B.take (k + 1))) T M (k + 1) v X3) := by rw [HFy.out rfl]; exact ⟨HJ.out.1, HJ.out.2.1, HJ.out.2.2.1.mono (Nat.le_succ k), HJ.out.2.2.2⟩
      clear HJ HC HFy HFn HTt HFb
      go_wp2_with fail
      --M6
      go_roundw
      case rel => exact ⟨k + 1, v, by omega, by go_num, HE⟩
      case measure => simp [intOf]; omega
    case false =>
      have HFE : Hid (fsG (B.take (k + 1)) = F ++ [b]) := HFn.out rfl
      clear HFn HFy
      go_upto_region 8 with fail
      --M7
      refine u0 7 (fun z => Below X3.heap.size X3 z) (Below.refl _ _).drew (fun hHeld => ?_)
      obtain ⟨wd, hwd⟩ : ∃ Z, Z = X3.drew := ⟨_, rfl⟩
      rw [← hwd] at hHeld ⊢
      clear hwd
      try go_frame
      refine' uk 0 ?_ ?_; rotate_left
      · intro z hz; obtain ⟨f0, _, f1, _⟩ := HC.out z hz; clear hz; go_simp; try with_reducible rfl
      try go_frame
      refine' uk 1 ?_ ?_; rotate_left
      · intro z hz; obtain ⟨f0, _, f1, _⟩ := HC.out z hz; clear hz; go_simp; try with_reducible rfl
      try go_frame
      refine' uk 2 ?_ ?_; rotate_left
      · intro z hz; obtain ⟨f0, _, f1, _⟩ := HC.out z hz; clear hz; go_simp; try with_reducible rfl
      try go_frame
      refine' uk 3 ?_ ?_; rotate_left
      · intro z hz; obtain ⟨f0, _, f1, _⟩ := HC.out z hz; clear hz; go_simp; try with_reducible rfl
      try go_frame
      refine' uk 4 ?_ ?_; rotate_left
      · intro z hz; obtain ⟨f0, _, f1, _⟩ := HC.out z hz; clear hz; go_simp; try with_reducible rfl
      try go_frame
      refine uq 5 (.agg cs.toArray) (yieldsIf_load_mid (by rfl) 37 _ rfl N 0 rfl cs _ (fun z hz => (HC.out z hz).2.1) Try.underlying37 rfl HS2.out) ?_ (hi := rfl)
      try go_frame
      have hC := allowed_calls ga (boundP P).length gc cs _ AA (boundP P) b wd (HC.out wd hHeld).2.2.2.2.1 (HC.out wd hHeld).2.2.2.2.2 HFb
      rw [all_bound P b] at hC
      obtain ⟨vl, hvl⟩ : ∃ vl, vl = allowsP (fsG P) b := ⟨_, rfl⟩
      have HVl : Hid (allowsP (fsG P) b = vl) := hvl.symm
      rw [← hvl] at hC
      clear hvl
      refine ur 6 (fun K hK => ?_)
      go_simp
      refine hC.mono ?_
      rintro e w5 ⟨rfl, b5⟩
      clear hC
      have h5 := on2 hHeld b5
      go_wp2_with fail
      refine hK.out _ _ h5 (fun hHeld2 => ?_)
      clear hK K hHeld; have hHeld := hHeld2; clear hHeld2
      try go_frame
      refine uz 7 (fun K hK => ?_)
      obtain ⟨w6, hrun, hm6, ht6⟩ := (HJ.out.2.2.1.on hHeld).put (x, vl) hsz (by omega)
      refine want_yes18 (by rfl) (upd_wpQ (.tmp 33) (.tmp 35) (.tmp 38) 56 rfl (by simp [Act.eval, Act.put]) (by simp [Act.eval, Act.put]; exact HXe.out) (by simp [Act.eval, Act.put]) hrun ?_)
      refine hK.out _ (NoPanic.normal ?_)
      --M8
      have HK6 : Hid (Kept (fun b => b ≠ M) X3 w6) := (Kept.below hHeld).trans (Kept.grown ht6.grown (fun b e => by cases e; exact fun h => h rfl))
      have HM6 : Hid (MpI w6 M (tlyF P (F ++ [b])) (k + 1)) := by
        have h : MpI w6 M (fun t => if sEq x t = true then some vl else tlyF P F t) (if (tlyF P F x).isSome = true then k else k + 1) := hm6
        rw [if_neg (by rw [HTt.out]; decide)] at h
        refine h.as (fun t => ?_)
        have h2 := tly_snoc (P := P) (F := F) (b := b) (by rw [HXe.out]; exact HTt.out) t
        rw [HXe.out, HVl.out] at h2
        exact h2
      have HJ6 : Hid (Kept (fun b => b ≠ M ∧ b ≠ T) wm w6 ∧ Row RBudget 3 AA W1 w6 37 v F ∧ BoxL w6 T [v, .map (some M)] ∧ (∀ b, v.ownBlock = some b → wm.heap.size ≤ b) ∧ RBudget AA w6 cs b ∧ w6.rangeAt N 0 cs ∧ wm.heap.size ≤ w6.heap.size) := by
        obtain ⟨g1, g2, g3, g4, g5⟩ := HJ.out
        obtain ⟨n1, n2, n3, n4, n5, n6⟩ := HNum.out
        have hw := HWs.out
        have hkM : Kept (fun b => b ≠ M) X3 w6 := HK6.out
        refine ⟨g1.trans (hkM.weak (fun b hb => hb.1)), g2.keptXG RBudget.firm (Turns.behind (on2 g2.below hHeld) (Turns.map ht6 (show W1.heap.size ≤ M by omega))) (hkM.weak (fun b hb => ?_)), g4.kept hkM (by omega), g5, RBudget.firm.kept (HC.out X3 (Below.refl _ _)).2.2.2.2.2 (hkM.weak (fun b hb => by have := HAA.out b hb; omega)), ?_, Nat.le_trans g1.1 hkM.1⟩
        · rcases hb with hb | hb
          · have := HAA.out b hb; omega
          · have := g5 b hb; omega
        · exact range_kept18 (HC.out X3 (Below.refl _ _)).2.1 hkM HNn.out.2 HNn2.out
      clear HC HJ HK6 hm6 ht6 hrun hHeld h5 HTt HXe HVl hlk c0 c1
      --M9
      have cT := (HJ6.out.2.2.1.2 0 _ rfl).1
      have HR6 : Hid (w6.rangeAt N 0 cs) := HJ6.out.2.2.2.2.2.1
      have HP6 : Hid (RBudget AA w6 cs b) := HJ6.out.2.2.2.2.1
      have hfar : ∀ b, AA b → v.ownBlock ≠ some b := fun y hy e => by have h1 := HAA.out y hy; have h2 := HJ6.out.2.2.2.1 y e; have h3 := HWs.out; have h4 := HNum.out.1; omega
      have HFr : Hid (∀ b, AA b → v.ownBlock ≠ some b) := hfar
      have HTo : Hid (v.ownBlock ≠ some T ∧ v.ownBlock ≠ some M) := ⟨fun e => by have h2 := HJ6.out.2.2.2.1 _ e; have h3 := HWs.out; have h4 := HNum.out; omega, fun e => by have h2 := HJ6.out.2.2.2.1 _ e; have h3 := HWs.out; have h4 := HNum.out; omega⟩
      clear hfar HFr
      have HFr : Hid (∀ b, AA b → v.ownBlock ≠ some b) := fun y hy e => by have h1 := HAA.out y hy; have h2 := HJ6.out.2.2.2.1 y e; have h3 := HWs.out; have h4 := HNum.out.1; omega
      go_wp2_with (first | (refine wpList_load_mid rfl 37 _ rfl N 0 rfl cs _ HR6.out Try.underlying37 rfl HS2.out ?_) | (refine build_bud rfl _ rfl HP6.out rfl ?_; intro W7 hb7 hq7) | (at_builtin; go_must (refine row_appendP RBudget.firm (A := AA) (w0 := W1) rfl _ _ 27 37 rfl _ 48 infBudQ Try.underlying27 rfl (by decide) (by decide) v F rfl (HJ6.out.2.1.on RBudget.firm hb7) (some ⟨w6.heap.size, 0, none⟩) 1 1 [b] rfl (src_boxG RBudget.firm hq7 (RBudget.firm.weak (RBudget.firm.kept HP6.out (Kept.below hb7)) (fun b hb h => ⟨h, HFr.out b h⟩))) HLn.out ?_); intro v8 w8 hrow8 hg8 hw8; obtain ⟨v8a, v8n, v8c, rfl⟩ := hrow8.headG; have q8 : Hid (BoxL w8 T [v, .map (some M)]) := (HJ6.out.2.2.1.on hb7).kept (A := fun b => b = T) (Kept.grown hg8 (fun b e h => HTo.out.1 (h ▸ e))) rfl; have c8 := (q8.out.2 0 _ rfl).1; have f8 := (q8.out.2 0 _ rfl).2) | fail)
      --MA
      have HE : Hid (TlJ W1 wm AA P (fsG (B.take (k + 1))) T M (k + 1) (.slice v8a v8n v8c) (w8.setCell ⟨T, 0, none⟩ (.slice v8a v8n v8c))) := by
        rw [HFE.out]
        obtain ⟨n1, n2, n3, n4, n5, n6⟩ := HNum.out
        obtain ⟨g1, g2, g3, g4, g5, g6, g7⟩ := HJ6.out
        have hw := HWs.out
        have e1 : Kept (fun b => b ≠ M ∧ b ≠ T) wm w8 := ⟨Nat.le_trans g7 (Nat.le_trans hb7.size hg8.size), fun y hy hl => (hg8.block y (Nat.lt_of_lt_of_le hl (Nat.le_trans g7 hb7.size)) (fun e => by have := g4 y e.symm; omega)).trans ((hb7.block y (Nat.lt_of_lt_of_le hl g7)).trans (g1.2 y hy hl))⟩
        have hown : ∀ y, (Value.slice v8a v8n v8c).ownBlock = some y → wm.heap.size ≤ y := fun y hy => by
          rcases hw8 with h | h
          · rw [h] at hy; exact g4 y hy
          · rw [h] at hy; have h1 := hb7.size; injection hy with hy; omega
        have hT : (Value.slice v8a v8n v8c).ownBlock ≠ some T := fun e => by have := hown T e; omega
        refine ⟨e1.trans (Kept.set (fun h => h.2 rfl) _), hrow8.keptXG RBudget.firm ?_ (Kept.set (fun h => ?_) _), ?_, ?_, hown⟩
        · exact hrow8.below.setCell (p := ⟨T, 0, none⟩) (show W1.heap.size ≤ T by omega) _
        · rcases h with h | h
          · have := HAA.out T h; omega
          · exact hT h
        · exact ((HM6.out.on hb7).grown hg8 HTo.out.2).same (Below.heap_setCell w8 ⟨T, 0, none⟩ _ M (show M ≠ T by omega))
        · exact q8.out.set 0 _ (Nat.zero_lt_succ _)
      clear hrow8 hg8 hw8 q8 c8 f8 hb7 hq7 HJ6 HM6 HTo HFr HFE HP6 HR6
      go_roundw
      case rel => exact ⟨k + 1, _, by omega, by go_num, HE⟩
      case measure => simp [intOf]; omega
end Go.Proofs.Ytpjgffcpjabghaa
namespace Go.Proofs.Ytpjgffcpjabghaa
open Go.RowKit Go.Maps
set_option linter.unusedSimpArgs false
set_option maxRecDepth 100000

/-- What is left of budget j when the first k have been looked at. -/
def lvJ (F : List BudgetD) (left : List Int) (p : PodD) (k j : Nat) : Int := if j < k ∧ matchL p.2.2.1 (F.getD j default).2.1 = true then max 0 (left.getD j default - 1) else left.getD j default
/-- Does one of the first k hit? -/
def htK (F : List BudgetD) (left : List Int) (p : PodD) (k : Nat) : Bool := (List.range k).any fun j => matchL p.2.2.1 (F.getD j default).2.1 && (left.getD j default == 0)
/-- A map tells so much of each budget. -/
def LfM (f : ByteArray → Option Int) (F : List BudgetD) (g : Nat → Int) : Prop := ∀ j, j < F.length → f (F.getD j default).1 = some (g j)
theorem ht_snoc (F : List BudgetD) (left : List Int) (p : PodD) (k : Nat) : htK F left p (k + 1) = (htK F left p k || (matchL p.2.2.1 (F.getD k default).2.1 && (left.getD k default == 0))) := by
  unfold htK
  rw [List.range_succ, List.any_append]
  simp
theorem lv_no {F : List BudgetD} {left : List Int} {p : PodD} {k : Nat} (h : matchL p.2.2.1 (F.getD k default).2.1 = false) (j : Nat) : lvJ F left p (k + 1) j = lvJ F left p k j := by
  unfold lvJ
  by_cases e : j = k
  · subst e; rw [if_neg (fun x => by rw [h] at x; cases x.2), if_neg (fun x => by rw [h] at x; cases x.2)]
  · have : (j < k + 1) ↔ (j < k) := by omega
    simp only [this]
theorem lv_zero {F : List BudgetD} {left : List Int} {p : PodD} {k : Nat} (h : left.getD k default = 0) (j : Nat) : lvJ F left p (k + 1) j = lvJ F left p k j := by
  unfold lvJ
  by_cases e : j = k
  · subst e; rw [h]; have z : max (0 : Int) (0 - 1) = 0 := by omega
    rw [z]; simp
  · have : (j < k + 1) ↔ (j < k) := by omega
    simp only [this]
theorem lv_at (F : List BudgetD) (left : List Int) (p : PodD) (k : Nat) : lvJ F left p k k = left.getD k default := if_neg (fun h => absurd h.1 (Nat.lt_irrefl _))
theorem name_ne {F : List BudgetD} (hn : (F.map Prod.fst).Nodup) {i j : Nat} (hi : i < F.length) (hj : j < F.length) (h : i ≠ j) : (F.getD i default).1 ≠ (F.getD j default).1 := by
  have hw : ∀ i j, i < j → (hi : i < F.length) → (hj : j < F.length) → (F.getD i default).1 ≠ (F.getD j default).1 := fun i j hij hi hj => by
    have h1 := (List.pairwise_iff_getElem.1 hn) i j (by simpa using hi) (by simpa using hj) hij
    rw [List.getD_eq_getElem?_getD, List.getElem?_eq_getElem hi, List.getD_eq_getElem?_getD, List.getElem?_eq_getElem hj]
    simpa using h1
  rcases Nat.lt_or_gt_of_ne h with h | h
  · exact hw i j h hi hj
  · exact fun e => hw j i h hj hi e.symm
theorem lv_put {f : ByteArray → Option Int} {F : List BudgetD} {left : List Int} {p : PodD} {k : Nat} (hL : LfM f F (lvJ F left p k)) (hk : k < F.length) (hn : (F.map Prod.fst).Nodup) (hm : matchL p.2.2.1 (F.getD k default).2.1 = true) (h1 : 1 ≤ left.getD k default) : LfM (fun t => if sEq (F.getD k default).1 t = true then some (left.getD k default - 1) else f t) F (lvJ F left p (k + 1)) := by
  intro j hj
  by_cases e : j = k
  · subst e
    show (if sEq _ _ = true then _ else _) = _
    rw [if_pos (sEq_self _)]
    unfold lvJ
    rw [if_pos ⟨Nat.lt_succ_self _, hm⟩]
    congr 1; omega
  · show (if sEq _ _ = true then _ else _) = _
    rw [if_neg (fun x => name_ne hn hk hj (Ne.symm e) ((sEq_iff _ _).1 x)), hL j hj]
    unfold lvJ
    have : (j < k + 1) ↔ (j < k) := by omega
    simp only [this]
theorem hit_all {F : List BudgetD} {left : List Int} {p : PodD} (hb : bndB p = true) : hitB F left p = htK F left p F.length := by
  unfold hitB htK
  congr 1
  funext j
  have : aboutB (F.getD j default) p = matchL p.2.2.1 (F.getD j default).2.1 := by
    unfold aboutB; unfold bndB at hb; rw [hb]; simp
  rw [this]
theorem less_all {F : List BudgetD} {left : List Int} {p : PodD} (hb : bndB p = true) {j : Nat} (hj : j < F.length) : (lessB F left p).getD j default = lvJ F left p F.length j := by
  unfold lessB lvJ
  rw [List.getD_eq_getElem?_getD, List.getElem?_map, List.getElem?_range hj]
  have : aboutB (F.getD j default) p = matchL p.2.2.1 (F.getD j default).2.1 := by
    unfold aboutB; unfold bndB at hb; rw [hb]; simp
  show (if aboutB (F.getD j default) p = true then _ else _) = _
  rw [this]
  by_cases h : matchL p.2.2.1 (F.getD j default).2.1 = true
  · rw [if_pos h, if_pos ⟨hj, h⟩]
  · rw [if_neg h, if_neg (fun x => h x.2)]
theorem Turns.keptB {F A : Where} {w w' : World} (h : Turns F w w') (hA : ∀ b, A b → ¬ F b) : Kept A w w' := ⟨h.size, fun b hb hl => h.block b hl (hA b hb)⟩
/-- What stays while a pod is put out. -/
def PuS (A' : Where) (F : List BudgetD) (ta : Option Addr) (tc mb I J : Nat) (ps : List Value) (p : PodD) (z : World) : Prop := SlAt RBudget 3 48 (fun b => b ≠ mb) z ta F.length tc F ∧ RPod A' z ps p ∧ z.rangeAt J 0 ps ∧ z.cell? ⟨I, 0, none⟩ = some (.slice ta F.length tc) ∧ z.cell? ⟨I, 1, none⟩ = some (.map (some mb))
set_option maxHeartbeats 4000000 in
theorem put_calls18 (ta : Option Addr) (tc mb n : Nat) (ps : List Value) (A' : Where) (F : List BudgetD) (f : ByteArray → Option Int) (left : List Int) (p : PodD) (w : World) (hg : Hid (SlAt RBudget 3 48 (fun b => b ≠ mb) w ta F.length tc F)) (hm : Hid (MpI w mb f n)) (hp : Hid (RPod A' w ps p)) (hA' : Hid (∀ b, A' b → b ≠ mb)) (hn : Hid ((F.map Prod.fst).Nodup)) (hl : Hid (LfM f F (fun j => left.getD j default))) (h0 : Hid (∀ j, 0 ≤ left.getD j default ∧ left.getD j default ≤ 140737488355328)) (hb : bndB p = true) (hnn : n < 140737488355328) :
    Calls Try.prog 22 #[.agg #[.slice ta F.length tc, .map (some mb)], .agg ps.toArray] w fun e w' => e = .returned (.bool (!hitB F left p)) ∧ ∃ f', MpI w' mb f' n ∧ LfM f' F (fun j => (lessB F left p).getD j default) ∧ Turns (fun b => b = mb) w w' := by
  obtain ⟨W1, hW1⟩ : ∃ Z, Z = w.alloc (.cells #[.slice ta F.length tc, .map (some mb)] 58) := ⟨_, rfl⟩
  have b1 : Below w.heap.size w W1 := by rw [hW1]; exact (Below.refl _ _).alloc (Nat.le_refl _) _
  have q1 : BoxL W1 w.heap.size [.slice ta F.length tc, .map (some mb)] := by rw [hW1]; exact BoxL.new w 58 _
  have s1 : W1.heap.size = w.heap.size + 1 := by rw [hW1]; simp
  obtain ⟨W2, hW2⟩ : ∃ Z, Z = W1.alloc (.cells ps.toArray 54) := ⟨_, rfl⟩
  have b2 : Below W1.heap.size W1 W2 := by rw [hW2]; exact (Below.refl _ _).alloc (Nat.le_refl _) _
  have q2 : BoxL W2 (w.heap.size + 1) ps := by rw [hW2, ← s1]; exact BoxL.new W1 54 _
  have q12 := q1.on b2
  have HB : Hid (Below w.heap.size w W2) := on2 b1 b2
  have hlt := hm.out.lt
  have HM : Hid (MpI W2 mb f n) := hm.out.on HB.out
  have HX : Hid (∀ z, Turns (fun b => b = mb) W2 z → PuS A' F ta tc mb w.heap.size (w.heap.size + 1) ps p z) := fun z hz => by
    have hk : Kept (fun b => b ≠ mb) W2 z := hz.keptB (fun b hb h => hb h)
    have c1 := q12.kept hk (by omega)
    exact ⟨(hg.out.on RBudget.firm HB.out).kept RBudget.firm hk, RPod.firm.kept (RPod.firm.kept hp.out (Kept.below HB.out)) (hk.weak hA'.out), (q2.kept hk (by omega)).range, (c1.2 0 _ rfl).1, (c1.2 1 _ rfl).1⟩
  obtain ⟨I, hI⟩ : ∃ I, I = w.heap.size := ⟨_, rfl⟩
  obtain ⟨J, hJ⟩ : ∃ J, J = w.heap.size + 1 := ⟨_, rfl⟩
  have HMI : Hid (mb < I ∧ I < J ∧ J < W2.heap.size) := ⟨by omega, by omega, by rw [hJ, ← s1, hW2]; simp⟩
  rw [← hJ, ← hI] at HX
  have hW2' : (w.alloc (.cells #[.slice ta F.length tc, .map (some mb)] 58)).alloc (.cells ps.toArray 54) = W2 := by rw [hW2, hW1]
  have HIJ : Hid (w.heap.size = I ∧ w.heap.size + 1 = J) := ⟨hI.symm, hJ.symm⟩
  have HSp : Hid ((Try.prog.info? 54).map (·.size) = some ps.length) := by rw [Hid, RPod.firm.len hp.out]; exact sizePodQ
  have HHit : Hid (hitB F left p = htK F left p F.length) := hit_all hb
  have HLess : Hid (∀ j, j < F.length → (lessB F left p).getD j default = lvJ F left p F.length j) := fun j hj => less_all hb hj
  have HL0 : Hid (LfM f F (lvJ F left p 0)) := fun j hj => by rw [hl.out j hj]; unfold lvJ; rw [if_neg (fun x => absurd x.1 (Nat.not_lt_zero _))]
  have d0 := (HX.out W2 (Turns.refl _ _)).2.2.2.1
  have hfn : F.length * 48 ≤ 140737488351232 := hg.out.2.2.2.1
  clear hW1 hW2 b1 b2 q1 q2 q12 s1 hg hm hp hA' hI hJ hlt hl hb
  obtain ⟨m, hmF⟩ : ∃ m, m = F.length := ⟨_, rfl⟩
  have HF : Hid (F.length = m) := hmF.symm
  rw [← hmF] at hfn d0 hW2' ⊢
  clear hmF
  go_enter Try.func22, Try.ntmps22
  go_upto_region 1 with fail
  rw [HIJ.out.2, HIJ.out.1]
  clear hW2'
  go_wp2_with fail
  --M1
  go_loopw [5, 11] (fun v i z => ∃ (k : Nat) (fk : ByteArray → Option Int), k ≤ m ∧ i = .int .i64 k ∧ v = .bool (!htK F left p k) ∧ Hid (Turns (fun b => b = mb) W2 z ∧ MpI z mb fk n ∧ LfM fk F (lvJ F left p k))) (fun _ i _ => m - (intOf i).toNat)
  case atStart => exact ⟨0, f, Nat.zero_le _, rfl, rfl, Turns.refl _ _, HM.out, HL0.out⟩
  case round =>
    obtain ⟨k, fk, hk, rfl, rfl, hz⟩ := hrel
    clear d0
    by_cases hlt : k < m
    case neg =>
      have hltz : ¬ (k : Int) < (m : Int) := by omega
      obtain rfl : k = m := by omega
      have HE1 : Hid (MpI wr mb fk n) := hz.out.2.1
      have HE2 : Hid (LfM fk F (fun j => (lessB F left p).getD j default)) := fun j hj => (hz.out.2.2 j hj).trans (congrArg some ((HLess.out j hj).trans (by rw [HF.out])).symm)
      have HE3 : Hid (Turns (fun b => b = mb) w wr) := (Turns.below HB.out).trans hz.out.1
      have HH : Hid (hitB F left p = htK F left p k) := by rw [Hid, HHit.out, HF.out]
      obtain ⟨hq, hhq⟩ : ∃ q, q = htK F left p k := ⟨_, rfl⟩
      rw [← hhq] at HH ⊢
      clear hz hhq HHit HLess
      go_wp2_with fail
      go_ret
      exact ⟨by rw [HH.out]; rfl, fk, HE1.out, HE2.out, HE3.out⟩
    have hltz : (k : Int) < (m : Int) := by omega
    have hkl : k < F.length := by rw [HF.out]; exact hlt
    obtain ⟨xB, xP, xJ, x0, x1⟩ := HX.out wr hz.out.1
    rw [HF.out] at xB x0
    obtain ⟨D, off, rfl, hD, _, cs, hr, hv⟩ := xB.get hlt
    have hno := fun h j => lv_no (F := F) (left := left) (p := p) (k := k) h j
    have hze := fun h j => lv_zero (F := F) (left := left) (p := p) (k := k) h j
    have hpu := fun h1 h2 => lv_put hz.out.2.2 hkl hn.out h1 h2
    have hat := hz.out.2.2 k hkl
    rw [lv_at] at hat
    have hsn := ht_snoc F left p k
    obtain ⟨hl0, hl1⟩ := h0.out k
    obtain ⟨b, hb⟩ : ∃ b, b = F.getD k default := ⟨_, rfl⟩
    obtain ⟨l, hle⟩ : ∃ l, l = left.getD k default := ⟨_, rfl⟩
    rw [← hb] at hr hno hpu hat hsn
    rw [← hle] at hze hpu hat hsn hl0 hl1
    obtain ⟨r1, ebs, hsz, _⟩ := hr.out
    obtain ⟨Z, X3, hZ, hX3, bX3, qX3, hT, hO, hSz1, hSz2⟩ := box_newQ RBudget.firm hr zBudL rfl 37 sizeBudQ
    obtain ⟨N, hN⟩ : ∃ N, N = wr.heap.size := ⟨_, rfl⟩
    have HBB : Hid (wr.heap.size = N) := hN.symm
    have HPv : Hid (wr.rangeAt D (off + k * 3) cs) := hv
    have HT : Hid (Z.there wr.heap.size 0 cs.toArray.size) := hT
    have HO : Hid (cs.toArray.all (·.oneCell') = true) := hO
    have HS1 : Hid ((Try.prog.info? 37).map (·.size) = some cs.length ∧ (Try.prog.info? 37).map (·.size) = some cs.toArray.size) := ⟨hSz1, hSz2⟩
    have HZ : Hid (wr.alloc (.cells zBudL.toArray 37) = Z) := hZ.symm
    have HX3 : Hid (X3 = Z.setCells wr.heap.size 0 cs.toArray.toList) := hX3
    rw [← hN] at qX3
    have HB3 : Hid (Below wr.heap.size wr X3) := bX3
    have HTr : Hid (Turns (fun b => b = mb) W2 X3) := hz.out.1.trans (Turns.below bX3)
    have HM3 : Hid (MpI X3 mb fk n) := hz.out.2.1.on bX3
    have HR3 : Hid (X3.rangeAt N 0 cs ∧ X3.rangeAt J 0 ps) := ⟨qX3.range, (HX.out X3 HTr.out).2.2.1⟩
    have HC : Hid (∀ z, Below X3.heap.size X3 z → z.cell? ⟨N, 0, none⟩ = some (.string b.1) ∧ z.cell? ⟨I, 1, none⟩ = some (.map (some mb)) ∧ MpI z mb fk n) := fun z hz2 => ⟨((qX3.on hz2).2 0 _ (by rw [ebs]; rfl)).1, (HX.out z (HTr.out.trans (Turns.below hz2))).2.2.2.2, HM3.out.on hz2⟩
    have hA := isAbout_calls ps cs _ _ p b X3 (HX.out X3 HTr.out).2.1 (RBudget.firm.kept hr (Kept.below bX3))
    have HOld : Hid (LfM fk F (lvJ F left p k)) := hz.out.2.2
    obtain ⟨h1, hh1⟩ : ∃ q, q = htK F left p k := ⟨_, rfl⟩
    rw [← hh1] at hsn ⊢
    have HSN : Hid (htK F left p (k + 1) = (h1 || (matchL p.2.2.1 b.2.1 && (l == 0)))) := hsn
    have HNo : Hid (matchL p.2.2.1 b.2.1 = false → ∀ j, lvJ F left p (k + 1) j = lvJ F left p k j) := hno
    have HZe : Hid (l = 0 → ∀ j, lvJ F left p (k + 1) j = lvJ F left p k j) := hze
    have HPu : Hid (matchL p.2.2.1 b.2.1 = true → 1 ≤ l → LfM (fun t => if sEq b.1 t = true then some (l - 1) else fk t) F (lvJ F left p (k + 1))) := hpu
    have HAt : Hid (fk b.1 = some l) := hat
    generalize matchL p.2.2.1 b.2.1 = q at hA HSN HNo HPu
    obtain ⟨x, hx⟩ : ∃ x, x = b.1 := ⟨_, rfl⟩
    rw [← hx] at hsz HC HPu HAt
    clear xB xP xJ x0 x1 hr hv hno hze hpu hat hsn hb hle ebs hT hO hSz1 hSz2 hZ hX3 bX3 qX3 hN hz hh1 hx
    go_upto_region 5 with (first | (refine wpList_load_mid rfl 37 _ rfl D (off + k * 3) rfl cs _ HPv.out Try.underlying37 rfl HS1.out.1 ?_) | (rw [HZ.out]; refine wpList_store_mid rfl 37 _ _ rfl wr.heap.size 0 cs.toArray rfl rfl HT.out HS1.out.2 HO.out ?_; refine wpl_atG HX3.out ?_; rw [HBB.out]) | fail)
    --M2
    have HS2 : Hid ((Try.prog.info? 37).map (·.size) = some cs.length) := HS1.out.1
    clear HPv HT HO HS1 HZ HX3 HBB
    go_wp2_with (first | (refine wpList_load_mid rfl 37 _ rfl N 0 rfl cs _ HR3.out.1 Try.underlying37 rfl HS2.out ?_) | (refine wpList_load_mid rfl 54 _ rfl J 0 rfl ps _ HR3.out.2 Try.underlying54 rfl HSp.out ?_) | fail)
    refine hA.mono ?_
    rintro e w5 ⟨rfl, b5⟩
    have HT5 : Hid (Turns (fun b => b = mb) W2 w5) := HTr.out.trans (Turns.below b5)
    obtain ⟨c0, c1, hm5⟩ := HC.out w5 b5
    have HM5 : Hid (MpI w5 mb fk n) := hm5
    have hlk := hm5.look hsz
    rw [HAt.out] at hlk
    clear hA b5 HR3 HS2 HC HM3 HB3 HTr hm5
    cases q
    · have HE : Hid (Turns (fun b => b = mb) W2 w5 ∧ MpI w5 mb fk n ∧ LfM fk F (lvJ F left p (k + 1))) := ⟨HT5.out, HM5.out, fun j hj => by rw [HNo.out rfl j]; exact HOld.out j hj⟩
      have HQ : Hid (htK F left p (k + 1) = h1) := by rw [Hid, HSN.out]; simp
      clear HSN HNo HZe HPu HOld HT5 HM5 HAt
      go_wp2_with fail
      --M3
      go_roundw
      case rel => exact ⟨k + 1, fk, by omega, by go_num, by rw [HQ.out], HE⟩
      case measure => simp [intOf]; omega
    · by_cases hl : l = 0
      · have hlb : (l == 0) = true := by subst hl; rfl
        have HE : Hid (Turns (fun b => b = mb) W2 w5 ∧ MpI w5 mb fk n ∧ LfM fk F (lvJ F left p (k + 1))) := ⟨HT5.out, HM5.out, fun j hj => by rw [HZe.out hl j]; exact HOld.out j hj⟩
        have HQ : Hid (htK F left p (k + 1) = true) := by rw [Hid, HSN.out, hlb]; simp
        clear HSN HNo HZe HPu HOld HT5 HM5 HAt hl
        go_wp2_with fail
        --M4
        go_roundw
        case rel => exact ⟨k + 1, fk, by omega, by go_num, by rw [HQ.out]; rfl, HE⟩
        case measure => simp [intOf]; omega
      · have hlb : (l == 0) = false := by simpa using hl
        have HPp : Hid (LfM (fun t => if sEq x t = true then some (l - 1) else fk t) F (lvJ F left p (k + 1))) := HPu.out rfl (by omega)
        have HQ : Hid (htK F left p (k + 1) = h1) := by rw [Hid, HSN.out, hlb]; simp
        have HIs : Hid ((fk x).isSome = true) := by rw [Hid, HAt.out]; rfl
        clear HSN HNo HZe HPu HOld HAt
        go_wp2_with (first | (at_mapUpdate; go_must (refine wpList_updI rfl _ _ _ rfl rfl x (l - 1) hsz rfl rfl HM5.out hnn ?_); intro w6 hm6 ht6) | fail)
        --M5
        have HE : Hid (Turns (fun b => b = mb) W2 w6 ∧ MpI w6 mb (fun t => if sEq x t = true then some (l - 1) else fk t) n ∧ LfM (fun t => if sEq x t = true then some (l - 1) else fk t) F (lvJ F left p (k + 1))) := by
          rw [if_pos HIs.out] at hm6
          exact ⟨HT5.out.trans (Turns.map ht6 rfl), hm6, HPp.out⟩
        clear hm6 ht6 HPp HT5 HM5 HIs
        go_roundw
        case rel => exact ⟨k + 1, _, by omega, by go_num, by rw [HQ.out], HE⟩
        case measure => simp [intOf]; omega
end Go.Proofs.Ytpjgffcpjabghaa
