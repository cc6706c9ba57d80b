/- The victims, one behind the other, plainly: what is left of each budget when the first so many have been put out. No program. No condition. The budget's Broken. Condition: a state and names lie as is said of them; what the state's budgets ask for are numbers of Go's. How pods are compared, and slices.SortFunc over a row of pods of one's own: a permutation, sorted by falling priority and rising name. Condition: the row is the function's own. slices.SortFunc over a row of pods of one's own. Condition: the row is the function's own. -/
import Derived.Test.YtpjgffcpjabghaaQ16
import Derived.Test.YtpjgffcpjabghaaQ14
import Derived.Test.YtpjgffcpjabghaaShelf
import Derived.Lib.OwnBridge
import Derived.Lib.AppendIntMem
import Derived.Shelf.SlSortCmp.NoneTotal
namespace Go.Proofs.Ytpjgffcpjabghaa
open Go.RowKit Go.Maps
set_option linter.unusedSimpArgs false
set_option maxRecDepth 100000

/-- Where one stands behind the first k. -/
def bkS (P : List PodD) (F : List BudgetD) (G : List PodD) (k : Nat) : List ByteArray × List Int := (G.take k).foldl (brStep F) ([], leftP P F)
theorem bkS_snoc (P : List PodD) (F : List BudgetD) {G : List PodD} {k : Nat} (hk : k < G.length) : bkS P F G (k + 1) = brStep F (bkS P F G k) (G.getD k default) := by
  unfold bkS
  rw [take_snoc18 hk, List.foldl_append]; rfl
theorem bkS_all (P : List PodD) (F : List BudgetD) (V : List ByteArray) : (bkS (fsG P) F (namedP P V) (namedP P V).length).1 = brokenP (fsG P) F V := by
  unfold bkS
  rw [List.take_of_length_le (Nat.le_refl _), ← named_fs, broken_fold]
theorem allows_bd (P : List PodD) (b : BudgetD) : 0 ≤ allowsP P b ∧ allowsP P b ≤ (P.length : Int) := by
  have h : (aboutP P b).length ≤ P.length := by unfold aboutP; rw [List.length_map]; exact List.length_filter_le _ _
  unfold allowsP
  split <;> omega
theorem less_bd {F : List BudgetD} {left : List Int} {p : PodD} {m : Int} (hm : 0 ≤ m) (h : ∀ j, 0 ≤ left.getD j default ∧ left.getD j default ≤ m) (j : Nat) : 0 ≤ (lessB F left p).getD j default ∧ (lessB F left p).getD j default ≤ m := by
  unfold lessB
  rw [List.getD_eq_getElem?_getD, List.getElem?_map]
  by_cases hj : j < F.length
  · rw [List.getElem?_range hj]
    show 0 ≤ (if aboutB (F.getD j default) p = true then max 0 (left.getD j default - 1) else left.getD j default) ∧ (if aboutB (F.getD j default) p = true then max 0 (left.getD j default - 1) else left.getD j default) ≤ m
    have := h j
    split <;> omega
  · rw [List.getElem?_eq_none (by simp; omega)]
    exact ⟨Int.le_refl 0, hm⟩
theorem br_bd {F : List BudgetD} {m : Int} (hm : 0 ≤ m) : ∀ (G : List PodD) (st : List ByteArray × List Int), (∀ j, 0 ≤ st.2.getD j default ∧ st.2.getD j default ≤ m) → ∀ j, 0 ≤ (G.foldl (brStep F) st).2.getD j default ∧ (G.foldl (brStep F) st).2.getD j default ≤ m
  | [], st, h => h
  | p :: r, st, h => by
    rw [List.foldl_cons]
    refine br_bd hm r _ ?_
    cases hb : bndB p
    · rw [br_no F st hb]; exact h
    · rw [br_yes F st hb]; exact less_bd hm h
theorem bkS_bd (P : List PodD) (F : List BudgetD) (G : List PodD) (k : Nat) (j : Nat) : 0 ≤ (bkS P F G k).2.getD j default ∧ (bkS P F G k).2.getD j default ≤ (P.length : Int) := by
  unfold bkS
  refine br_bd (by omega) _ _ (fun j => ?_) j
  unfold leftP
  rw [List.getD_eq_getElem?_getD, List.getElem?_map]
  cases F[j]? with
  | none => exact ⟨Int.le_refl 0, by show (0 : Int) ≤ _; omega⟩
  | some b => exact allows_bd P b
theorem br_len {F : List BudgetD} : ∀ (G : List PodD) (st : List ByteArray × List Int), (G.foldl (brStep F) st).1.length ≤ st.1.length + G.length
  | [], st => Nat.le_refl _
  | p :: r, st => by
    rw [List.foldl_cons, List.length_cons]
    have h := br_len (F := F) r (brStep F st p)
    have h2 : (brStep F st p).1.length ≤ st.1.length + 1 := by
      cases hb : bndB p
      · rw [br_no F st hb]; omega
      · rw [br_yes F st hb]
        show (if _ then _ else _ : List ByteArray).length ≤ _
        split
        · rw [List.length_append, List.length_singleton]; omega
        · omega
    omega
theorem bkS_len (P : List PodD) (F : List BudgetD) (G : List PodD) (k : Nat) : (bkS P F G k).1.length ≤ G.length := by
  have h := br_len (F := F) (G.take k) ([], leftP P F)
  rw [List.length_take] at h
  unfold bkS
  have e : (([], leftP P F) : List ByteArray × List Int).1.length = 0 := rfl
  omega
theorem left_lf (P : List PodD) {F : List BudgetD} (hn : (F.map Prod.fst).Nodup) : LfM (tlyF P F) F (fun j => (leftP (fsG P) F).getD j default) := by
  intro j hj
  obtain ⟨i, e, hij, _⟩ := idx_here hj
  obtain ⟨hi, hf, _⟩ := idx_some e
  have hs : sEq (F.getD i default).1 (F.getD j default).1 = true := List.find?_some (p := fun q : BudgetD => sEq q.1 (F.getD j default).1) hf
  have hij2 : i = j := Classical.byContradiction fun h => name_ne hn hi hj h ((sEq_iff _ _).1 hs)
  subst hij2
  unfold tlyF leftP
  rw [hf]
  show some (allowsP (fsG P) (F.getD i default)) = some ((List.map (allowsP (fsG P)) F).getD i default)
  rw [List.getD_eq_getElem?_getD (l := List.map _ _), List.getElem?_map, List.getElem?_eq_getElem hj, List.getD_eq_getElem?_getD, List.getElem?_eq_getElem hj]
  rfl
end Go.Proofs.Ytpjgffcpjabghaa
namespace Go.Proofs.Ytpjgffcpjabghaa
open Go.RowKit Go.Maps
set_option linter.unusedSimpArgs false
set_option maxRecDepth 100000

/-- While victims are put out. -/
def BkJ (W1 wn : World) (mb : Nat) (F : List BudgetD) (st : List ByteArray × List Int) (v : Value) (z : World) : Prop := Turns (fun b => b = mb) wn z ∧ Row RStr 1 (fun _ => False) W1 z 9 v st.1 ∧ (∀ b, v.ownBlock = some b → wn.heap.size ≤ b) ∧ ∃ f, MpI z mb f 140737488355327 ∧ LfM f F (fun j => st.2.getD j default)
/-- What stays meanwhile. -/
def BkK (A3 : Where) (G : List PodD) (ga : Option Addr) (gc : Nat) (ta : Option Addr) (tc mb T : Nat) (fs : List Value) (F : List BudgetD) (z : World) : Prop := SlAt RPod 16 296 A3 z ga G.length gc G ∧ SlAt RBudget 3 48 (fun b => b ≠ mb) z ta F.length tc F ∧ BoxL z T fs
theorem Turns.cut18 {F G : Where} {u v w : World} (h : Turns F u v) (k : Turns G v w) (hG : ∀ b, b < u.heap.size → ¬ G b) : Turns F u w := ⟨k.os.trans h.os, k.tape.trans h.tape, k.output.trans h.output, Nat.le_trans h.size k.size, fun b hb hf => (k.block b (Nat.lt_of_lt_of_le hb h.size) (hG b hb)).trans (h.block b hb hf)⟩
theorem infTlyQ : (Try.prog.info? 58).map (·.size) = some 2 := by kernel_rfl
theorem row_turned {W1 u u' : World} {mb : Nat} {v : Value} {L : List ByteArray} (h : Row RStr 1 (fun _ => False) W1 u 9 v L) (ht : Turns (fun b => b = mb) u u') (hm : W1.heap.size ≤ mb) (hv : v.ownBlock ≠ some mb) : Row RStr 1 (fun _ => False) W1 u' 9 v L :=
  h.keptXG RStr.firm (Turns.behind h.below (ht.weak (fun b _ e => by show W1.heap.size ≤ b; rw [e]; exact hm))) (ht.keptB (fun b hb e => hb.elim id (fun hb => hv (e ▸ hb))))
set_option maxHeartbeats 4000000 in
theorem broken_calls18 (ss : List Value) (A : Where) (s : StateD) (na : Option Addr) (nn nc : Nat) (A' : Where) (V : List ByteArray) (w : World) (hs : Hid (RState A w ss s)) (hV : Hid (SlAt RStr 1 16 A' w na nn nc V)) (hf : Hid (∀ b ∈ s.2.2.2.2.2, FitQ b.2.2)) : Calls Try.prog 9 #[.agg ss.toArray, .slice na nn nc] w fun e w' => ∃ v, e = .returned v ∧ Row RStr 1 (fun _ => False) w w' 9 v (brokenP (fsG s.1) (fsG s.2.2.2.2.2) V) := by
  obtain ⟨W1, hW1⟩ : ∃ Z, Z = w.alloc (.cells ss.toArray 29) := ⟨_, rfl⟩
  have b1 : Below w.heap.size w W1 := by rw [hW1]; exact (Below.refl _ _).alloc (Nat.le_refl _) _
  have q1 : BoxL W1 w.heap.size ss := by rw [hW1]; exact BoxL.new w 29 _
  obtain ⟨I, hI⟩ : ∃ I, I = w.heap.size := ⟨_, rfl⟩
  rw [← hI] at q1
  have HI : Hid (w.heap.size = I) := hI.symm
  have HW : Hid (w.alloc (.cells ss.toArray 29) = W1) := hW1.symm
  have HB : Hid (Below w.heap.size w W1) := b1
  have HQ : Hid (∀ z, Below W1.heap.size W1 z → z.rangeAt I 0 ss) := fun z hz => (q1.on hz).range
  have HSs : Hid ((Try.prog.info? 29).map (·.size) = some ss.length) := by rw [Hid, RState.firm.len hs.out]; exact sizeState18
  obtain ⟨AA, hAA⟩ : ∃ AA, AA = (fun b => A b ∧ b < w.heap.size : Where) := ⟨_, rfl⟩
  have HAA : Hid (∀ b, AA b → b < w.heap.size) := fun b h => by rw [hAA] at h; exact h.2
  have hsA : RState AA w ss s := by rw [hAA]; exact RState.firm.weak hs.out (fun b hb h => ⟨h, hb⟩)
  have HSt : Hid (∀ z, Below w.heap.size w z → RState AA z ss s) := fun z hz => RState.firm.kept hsA (Kept.below hz)
  have HVt : Hid (∀ z, Below w.heap.size w z → SlAt RStr 1 16 A' z na nn nc V) := fun z hz => hV.out.on RStr.firm hz
  have hA := tally_calls ss AA s W1 (HSt.out W1 b1) hf
  have hN : ∀ z, Below w.heap.size w z → _ := fun z hz => named_calls ss AA s na nn nc A' V z (HSt.out z hz) (HVt.out z hz)
  obtain ⟨⟨a, n, cap⟩, _, _, _, _, _, ess, sp, _⟩ := hs.out.out
  have hn : s.1.length = n := sp.1
  have hml : n * 296 ≤ 140737488351232 := sp.2.2.2.1
  have hnl := named_lenL s.1 V
  rw [hn] at hnl
  have hfl := fs_len s.1
  rw [hn] at hfl
  have HRes : Hid (brokenP (fsG s.1) (fsG s.2.2.2.2.2) V = (bkS (fsG s.1) (fsG s.2.2.2.2.2) (namedP s.1 V) (namedP s.1 V).length).1) := (bkS_all s.1 _ V).symm
  have HNd : Hid (((fsG s.2.2.2.2.2).map Prod.fst).Nodup) := fs_nodup _
  have HLf : Hid (LfM (tlyF s.1 (fsG s.2.2.2.2.2)) (fsG s.2.2.2.2.2) (fun j => (leftP (fsG s.1) (fsG s.2.2.2.2.2)).getD j default)) := left_lf s.1 HNd.out
  rw [HRes.out]
  obtain ⟨F, hF⟩ : ∃ F, F = fsG s.2.2.2.2.2 := ⟨_, rfl⟩
  rw [← hF] at hA HNd HLf ⊢
  obtain ⟨f0, hf0⟩ : ∃ f, f = tlyF s.1 F := ⟨_, rfl⟩
  rw [← hf0] at hA HLf
  obtain ⟨G, hG⟩ : ∃ G, G = namedP s.1 V := ⟨_, rfl⟩
  simp only [← hG] at hN hnl ⊢
  obtain ⟨P', hP'⟩ : ∃ G, G = fsG s.1 := ⟨_, rfl⟩
  rw [← hP'] at hfl HLf ⊢
  have HN : Hid (∀ z, Below w.heap.size w z → Calls Try.prog 20 #[.agg ss.toArray, .slice na nn nc] z fun e w' => ∃ v, e = .returned v ∧ Row RPod 16 (fun b => AA b ∧ b < z.heap.size) z w' 54 v G) := hN
  clear hW1 b1 q1 hI hs hV hf ess sp hn hN hF hf0 hG hP' hAA hsA HRes HSt HVt
  go_enter Try.func9, Try.ntmps9
  go_upto_region 1 with fail
  rw [HW.out, HI.out]
  clear HW
  have HQ1 : Hid (W1.rangeAt I 0 ss) := HQ.out W1 (Below.refl _ _)
  go_upto_region 2 with (first | (refine wpList_load_mid rfl 29 _ rfl I 0 rfl ss _ HQ1.out Try.underlying29 rfl HSs.out ?_) | fail)
  refine hA.mono ?_
  rintro e wt ⟨ta, tc, mb, he, hsl, hmp, hmb, bt⟩
  clear hA HQ1
  obtain ⟨fs, hfs⟩ : ∃ fs : List Value, fs = [.slice ta F.length tc, .map (some mb)] := ⟨_, rfl⟩
  have HFs : Hid ((#[.slice ta F.length tc, .map (some mb)] : Array Value) = fs.toArray) := by rw [Hid, hfs]
  rw [HFs.out] at he
  subst he
  have hfn : fs.length = 2 := by rw [hfs]; rfl
  obtain ⟨Z, hZ⟩ : ∃ Z, Z = wt.alloc (.cells #[.slice none 0 0, .map none] 58) := ⟨_, rfl⟩
  have bZ : Below wt.heap.size wt Z := by rw [hZ]; exact (Below.refl _ _).alloc (Nat.le_refl _) _
  have qZ : BoxL Z wt.heap.size [.slice none 0 0, .map none] := by rw [hZ]; exact BoxL.new wt 58 _
  obtain ⟨W5, hW5⟩ : ∃ X, X = Z.setCells wt.heap.size 0 fs.toArray.toList := ⟨_, rfl⟩
  have q5 : BoxL W5 wt.heap.size fs := by rw [hW5]; exact box_over18 qZ (by rw [hfn]; rfl)
  have b5 : Below wt.heap.size wt W5 := by rw [hW5]; exact below_setCells bZ (Nat.le_refl _)
  have HT : Hid (Z.there wt.heap.size 0 fs.toArray.size) := by rw [Hid, show fs.toArray.size = 2 by simp [hfn]]; exact qZ.there
  have HOC : Hid (fs.toArray.all (·.oneCell') = true) := by rw [Hid, hfs]; simp [Value.oneCell']
  have HIt : Hid ((Try.prog.info? 58).map (·.size) = some fs.length) := by rw [Hid, hfn]; exact infTlyQ
  have HIt2 : Hid ((Try.prog.info? 58).map (·.size) = some fs.toArray.size) := by rw [Hid, show fs.toArray.size = 2 by simp [hfn]]; exact infTlyQ
  have HZ : Hid (wt.alloc (.cells #[.slice none 0 0, .map none] 58) = Z) := hZ.symm
  have HW5 : Hid (W5 = Z.setCells wt.heap.size 0 fs.toArray.toList) := hW5
  obtain ⟨T, hT⟩ : ∃ T, T = wt.heap.size := ⟨_, rfl⟩
  have HTe : Hid (wt.heap.size = T) := hT.symm
  rw [← hT] at q5
  have HB15 : Hid (Below W1.heap.size W1 W5) := on2 bt b5
  have HB5 : Hid (Below w.heap.size w W5) := on2 HB.out HB15.out
  have HM5 : Hid (MpI W5 mb f0 140737488355327) := hmp.on b5
  have HS5 : Hid (SlAt RBudget 3 48 (fun b => b ≠ mb) W5 ta F.length tc F) := hsl.on RBudget.firm b5
  have HNum : Hid (w.heap.size ≤ W1.heap.size ∧ W1.heap.size ≤ mb ∧ mb < T ∧ T < W5.heap.size) := ⟨HB.out.size, hmb, by rw [hT]; exact hmp.lt, q5.1⟩
  have HQ5 : Hid (BoxL W5 T fs) := q5
  clear hsl hmp hmb bt hfs hfn hZ bZ qZ hW5 q5 b5 hT
  go_upto_region 2 with (first | (rw [HZ.out]; refine wpList_store_mid rfl 58 _ _ rfl wt.heap.size 0 fs.toArray rfl rfl HT.out HIt2.out HOC.out ?_; refine wpl_atG HW5.out ?_; rw [HTe.out]) | fail)
  --M1
  clear HZ HT HIt2 HOC HW5 HTe
  have HR5 : Hid (W5.rangeAt I 0 ss) := HQ.out W5 HB15.out
  have hA := HN.out W5 HB5.out
  clear HQ HN
  go_wp2_with (first | (refine wpList_load_mid rfl 29 _ rfl I 0 rfl ss _ HR5.out Try.underlying29 rfl HSs.out ?_) | fail)
  refine hA.mono ?_
  rintro e wn ⟨v, rfl, hv⟩
  clear hA HR5 HSs
  --M2
  have bn := hv.below
  have hfar : ∀ b, b < W5.heap.size → v.ownBlock ≠ some b := fun b hb => hv.far hb
  have hgb : G.length * 296 ≤ 140737488351232 := Nat.le_trans (Nat.mul_le_mul_right _ hnl) hml
  obtain ⟨ga, gc, rfl, hg⟩ := hv.slO18 RPod.firm (bytes := 296) hgb
  obtain ⟨A3, hA3⟩ : ∃ A3, A3 = (fun x => (AA x ∧ x < W5.heap.size) ∨ (Value.slice ga G.length gc).ownBlock = some x : Where) := ⟨_, rfl⟩
  rw [← hA3] at hg
  have HA3 : Hid (∀ b, A3 b → b ≠ mb) := fun b hb => by
    obtain ⟨n1, n2, n3, n4⟩ := HNum.out
    rw [hA3] at hb
    rcases hb with hb | hb
    · have := HAA.out b hb.1; omega
    · exact fun e => hfar mb (by omega) (e ▸ hb)
  have HX : Hid (∀ z, Turns (fun b => b = mb) wn z → BkK A3 G ga gc ta tc mb T fs F z) := fun z hz => by
    obtain ⟨n1, n2, n3, n4⟩ := HNum.out
    have hk : Kept (fun b => b ≠ mb) wn z := hz.keptB (fun b hb h => hb h)
    exact ⟨hg.kept RPod.firm (hk.weak HA3.out), (HS5.out.on RBudget.firm bn).kept RBudget.firm hk, (HQ5.out.on bn).kept hk (by omega)⟩
  have H0 : Hid (BkJ W1 wn mb F (bkS P' F G 0) (.slice none 0 0) wn) := ⟨Turns.refl _ _, (Row.nil _ _ _).on RStr.firm (on2 HB15.out bn), fun b e => (by cases e), f0, HM5.out.on bn, HLf.out⟩
  have HWs : Hid (T < wn.heap.size) := by have := bn.size; have := HNum.out.2.2.2; rw [Hid]; omega
  have HMw : Hid (W1.heap.size ≤ mb) := HNum.out.2.1
  have HTm : Hid (mb < T) := HNum.out.2.2.1
  have HBd : Hid (∀ k j, 0 ≤ (bkS P' F G k).2.getD j default ∧ (bkS P' F G k).2.getD j default ≤ 140737488355328) := fun k j => by have h := bkS_bd P' F G k j; omega
  have HBl : Hid (∀ k, ((bkS P' F G k).1.length + 1) * 16 ≤ 140737488355328) := fun k => by have h := bkS_len P' F G k; omega
  obtain ⟨n', hn'⟩ : ∃ n', n' = G.length := ⟨_, rfl⟩
  have HL : Hid (G.length = n') := hn'.symm
  rw [← hn'] at hgb ⊢
  clear hv hfar hg hA3 bn HM5 HS5 HQ5 HLf hnl hfl hml hn' HNum HB15 HB5 HAA
  go_wp2_with fail
  --M3
  go_loopw [6, 15] (fun v i z => ∃ k : Nat, k ≤ n' ∧ i = .int .i64 k ∧ Hid (BkJ W1 wn mb F (bkS P' F G k) v z)) (fun _ i _ => n' - (intOf i).toNat)
  case atStart => exact ⟨0, Nat.zero_le _, rfl, H0⟩
  case round =>
    clear H0
    obtain ⟨k, hk, rfl, hz⟩ := hrel
    by_cases hlt : k < n'
    case neg =>
      have hltz : ¬ (k : Int) < (n' : Int) := by omega
      obtain rfl : k = n' := by omega
      have HE : Hid (Row RStr 1 (fun _ => False) w wr 9 u6 (bkS P' F G G.length).1) := by rw [HL.out]; exact hz.out.2.1.from RStr.firm HB.out (fun _ h => h)
      clear hz
      go_wp2_with fail
      go_ret
      exact ⟨_, rfl, HL.out ▸ HE.out⟩
    have hltz : (k : Int) < (n' : Int) := by omega
    have hkl : k < G.length := by rw [HL.out]; exact hlt
    obtain ⟨y1, y2, y3⟩ := HX.out wr hz.out.1
    rw [HL.out] at y1
    obtain ⟨D, off, rfl, hD, _, ps, hr, hv⟩ := y1.get hlt
    have hsn := bkS_snoc P' F hkl
    obtain ⟨p, hp⟩ : ∃ p, p = G.getD k default := ⟨_, rfl⟩
    obtain ⟨st, hst⟩ : ∃ st, st = bkS P' F G k := ⟨_, rfl⟩
    have HBd1 : Hid (∀ j, 0 ≤ st.2.getD j default ∧ st.2.getD j default ≤ 140737488355328) := by rw [hst]; exact HBd.out k
    have HBl1 : Hid ((st.1.length + [p.1].length) * 16 ≤ 140737488355328) := by rw [hst]; exact HBl.out k
    have hzo := hz.out
    rw [← hp] at hr hsn
    rw [← hst] at hsn hzo
    have HSN : Hid (bkS P' F G (k + 1) = brStep F st p) := hsn
    obtain ⟨_, _, _, _, _, _, _, _, _, eps, hsz, _⟩ := hr.out
    obtain ⟨Z, X3, hZ, hX3, bX3, qX3, hT, hO, hSz1, hSz2⟩ := box_newQ RPod.firm hr zPodL rfl 54 sizePodQ
    obtain ⟨N, hN⟩ : ∃ N, N = wr.heap.size := ⟨_, rfl⟩
    have HBB : Hid (wr.heap.size = N) := hN.symm
    have HPv : Hid (wr.rangeAt D (off + k * 16) ps) := hv
    have HT : Hid (Z.there wr.heap.size 0 ps.toArray.size) := hT
    have HOC : Hid (ps.toArray.all (·.oneCell') = true) := hO
    have HS1 : Hid ((Try.prog.info? 54).map (·.size) = some ps.length ∧ (Try.prog.info? 54).map (·.size) = some ps.toArray.size) := ⟨hSz1, hSz2⟩
    have HZ : Hid (wr.alloc (.cells zPodL.toArray 54) = Z) := hZ.symm
    have HX3 : Hid (X3 = Z.setCells wr.heap.size 0 ps.toArray.toList) := hX3
    have HNn : Hid (N ≠ mb) := by have h1 := hzo.1.size; have h2 := HWs.out; have h3 := HTm.out; rw [Hid]; omega
    rw [← hN] at qX3
    have HJ3 : Hid (BkJ W1 wn mb F st u6 X3) := by
      obtain ⟨g1, g2, g3, f, g4, g5⟩ := hzo
      exact ⟨g1.trans (Turns.below bX3), g2.on RStr.firm bX3, g3, f, g4.on bX3, g5⟩
    have HR3 : Hid (X3.rangeAt N 0 ps) := qX3.range
    have HQ3 : Hid (BoxL X3 N ps ∧ RPod A3 X3 ps p) := ⟨qX3, RPod.firm.kept hr (Kept.below bX3)⟩
    have hA := isBound_calls ps A3 p X3 HQ3.out.2
    have HC0 : Hid (ps[0]? = some (.string p.1)) := by rw [Hid, eps]; rfl
    clear hp hst hr hT hO hSz1 hSz2 hZ hX3 bX3 qX3 hN hv hz hsn eps hzo y1 y2 y3
    go_upto_region 6 with (first | (refine wpList_load_mid rfl 54 _ rfl D (off + k * 16) rfl ps _ HPv.out Try.underlying54 rfl HS1.out.1 ?_) | (rw [HZ.out]; refine wpList_store_mid rfl 54 _ _ rfl wr.heap.size 0 ps.toArray rfl rfl HT.out HS1.out.2 HOC.out ?_; refine wpl_atG HX3.out ?_; rw [HBB.out]) | fail)
    --M4
    have HS2 : Hid ((Try.prog.info? 54).map (·.size) = some ps.length) := HS1.out.1
    clear HPv HT HOC HS1 HZ HX3 HBB
    go_wp2_with (first | (refine wpList_load_mid rfl 54 _ rfl N 0 rfl ps _ HR3.out Try.underlying54 rfl HS2.out ?_) | fail)
    refine hA.mono ?_
    rintro e w6 ⟨rfl, b6⟩
    clear hA HR3
    have HJ6 : Hid (BkJ W1 wn mb F st u6 w6) := by
      obtain ⟨g1, g2, g3, f, g4, g5⟩ := HJ3.out
      exact ⟨g1.trans (Turns.below b6), g2.on RStr.firm b6, g3, f, g4.on b6, g5⟩
    have HQ6 : Hid (BoxL w6 N ps ∧ RPod A3 w6 ps p) := ⟨HQ3.out.1.on b6, RPod.firm.kept HQ3.out.2 (Kept.below b6)⟩
    clear HJ3 HQ3 b6
    --M5
    cases hb : bndB p
    · have HE : Hid (BkJ W1 wn mb F (bkS P' F G (k + 1)) u6 w6) := by rw [HSN.out, br_no F st hb]; exact HJ6.out
      clear HSN HJ6 HQ6 HBd1 HBl1 HC0 hb HS2
      go_wp2_with fail
      --M6
      go_roundw
      case rel => exact ⟨k + 1, by omega, by go_num, HE⟩
      case measure => simp [intOf]; omega
    · have HSB : Hid (bkS P' F G (k + 1) = (if hitB F st.2 p = true then st.1 ++ [p.1] else st.1, lessB F st.2 p)) := by rw [Hid, HSN.out, br_yes F st hb]
      obtain ⟨g1, g2, g3, f, g4, g5⟩ := HJ6.out
      obtain ⟨y1, y2, y3⟩ := HX.out w6 g1
      have HR6 : Hid (w6.rangeAt T 0 fs ∧ w6.rangeAt N 0 ps) := ⟨y3.range, HQ6.out.1.range⟩
      have hC := put_calls18 ta tc mb 140737488355327 ps A3 F f st.2 p w6 y2 g4 HQ6.out.2 HA3 HNd g5 HBd1 hb (by omega)
      rw [HFs.out] at hC
      have HK6 : Hid (∀ w7, Turns (fun b => b = mb) w6 w7 → Turns (fun b => b = mb) wn w7 ∧ Row RStr 1 (fun _ => False) W1 w7 9 u6 st.1 ∧ (∀ b, u6.ownBlock = some b → wn.heap.size ≤ b) ∧ BoxL w7 N ps) := fun w7 ht => ⟨g1.trans ht, row_turned g2 ht HMw.out (fun e => by have h1 := g3 mb e; have h2 := HWs.out; have h3 := HTm.out; omega), g3, HQ6.out.1.kept (ht.keptB (A := fun b => b ≠ mb) (fun b hb h => hb h)) HNn.out⟩
      have HMb : Hid (mb < w6.heap.size) := g4.lt
      obtain ⟨st1, hst1⟩ : ∃ x, x = st.1 := ⟨_, rfl⟩
      obtain ⟨st2, hst2⟩ : ∃ x, x = st.2 := ⟨_, rfl⟩
      rw [← hst1] at HBl1
      rw [← hst1, ← hst2] at HSB
      rw [← hst2] at hC
      rw [← hst1] at HK6
      clear g1 g2 g3 g4 g5 y1 y2 y3 HJ6 HQ6 HBd1 HSN hst1 hst2 hb
      go_wp2_with (first | (refine load_wQ (by rfl) 58 _ rfl T 0 rfl fs _ HR6.out.1 Try.underlying58 rfl HIt.out ?_) | (refine load_wQ (by rfl) 54 _ rfl N 0 rfl ps _ HR6.out.2 Try.underlying54 rfl HS2.out ?_) | fail)
      refine hC.mono ?_
      rintro e w7 ⟨rfl, f', hm7, hl7, ht7⟩
      clear hC HR6
      obtain ⟨k1, k2, k3, k4⟩ := HK6.out w7 ht7
      have HSz7 : Hid (mb < w7.heap.size) := Nat.lt_of_lt_of_le HMb.out ht7.size
      have HM7 : Hid (MpI w7 mb f' 140737488355327 ∧ LfM f' F (fun j => (lessB F st2 p).getD j default)) := ⟨hm7, hl7⟩
      have HJ7 : Hid (Turns (fun b => b = mb) wn w7 ∧ Row RStr 1 (fun _ => False) W1 w7 9 u6 st1 ∧ ∀ b, u6.ownBlock = some b → wn.heap.size ≤ b) := ⟨k1, k2, k3⟩
      have c7 : w7.cell? ⟨N, 0, none⟩ = some (.string p.1) := (k4.2 0 _ HC0.out).1
      clear k1 k2 k3 k4 hm7 hl7 ht7 HK6 HMb HC0 HS2
      --M7
      cases hh : hitB F st2 p
      · have HE : Hid (BkJ W1 wn mb F (bkS P' F G (k + 1)) u6 w7) := by rw [HSB.out, if_neg (by rw [hh]; decide)]; exact ⟨HJ7.out.1, HJ7.out.2.1, HJ7.out.2.2, f', HM7.out.1, HM7.out.2⟩
        clear HSB HJ7 HM7 HBl1 c7
        go_wp2_with fail
        --M8
        go_roundw
        case rel => exact ⟨k + 1, by omega, by go_num, HE⟩
        case measure => simp [intOf]; omega
      · have HSO : Hid (bkS P' F G (k + 1) = (st1 ++ [p.1], lessB F st2 p)) := by rw [Hid, HSB.out, if_pos hh]
        obtain ⟨x, hx⟩ : ∃ x, x = p.1 := ⟨_, rfl⟩
        rw [← hx] at hsz c7 HSO HBl1
        obtain ⟨W8, hW8⟩ : ∃ Z, Z = w7.alloc (.cells #[.string x] 9) := ⟨_, rfl⟩
        have b8 : Below w7.heap.size w7 W8 := by rw [hW8]; exact (Below.refl _ _).alloc (Nat.le_refl _) _
        have q8 : BoxL W8 w7.heap.size [.string x] := by rw [hW8]; exact BoxL.new w7 9 _
        have HW8 : Hid (W8 = w7.alloc (.cells #[.string x] 9)) := hW8
        have HR8 : Hid (Row RStr 1 (fun _ => False) W1 W8 9 u6 st1) := HJ7.out.2.1.on RStr.firm b8
        have HSr : Hid (Src RStr 1 (fun b => False ∧ Value.ownBlock u6 ≠ some b) W8 (some ⟨w7.heap.size, 0, none⟩) 1 [x]) := src_boxG RStr.firm q8 ⟨rfl, hsz⟩
        have HB8 : Hid (Below w7.heap.size w7 W8) := b8
        clear HSB hW8 b8 q8 hx hh
        go_wp2_with (at_builtin; refine wpl_atG HW8.out ?_; refine row_appendP RStr.firm (A := fun _ => False) (w0 := W1) rfl _ _ 30 9 rfl _ 16 infoStr18 Try.underlying30 rfl (by decide) (by decide) u6 st1 rfl HR8.out (some ⟨w7.heap.size, 0, none⟩) 1 1 [x] rfl HSr.out HBl1.out ?_; intro v9 w9 hrow9 hg9 hw9)
        --M9
        have HE : Hid (BkJ W1 wn mb F (bkS P' F G (k + 1)) v9 w9) := by
          rw [HSO.out]
          have hne : u6.ownBlock ≠ some mb := fun e => by have h1 := HJ7.out.2.2 mb e; have h2 := HWs.out; have h3 := HTm.out; omega
          have hz7 := HJ7.out.1.size
          have hz8 := HB8.out.size
          refine ⟨?_, hrow9, fun b e => ?_, f', (HM7.out.1.on HB8.out).grown hg9 hne, HM7.out.2⟩
          · exact (HJ7.out.1.trans (Turns.below HB8.out)).cut18 (Turns.grown hg9 (F := fun b => u6.ownBlock = some b) (fun b e => e)) (fun b hb e => by have := HJ7.out.2.2 b e; omega)
          · rcases hw9 with h | h
            · exact HJ7.out.2.2 b (h ▸ e)
            · rw [h] at e; injection e with e; omega
        clear hrow9 hg9 hw9 HR8 HSr HBl1 HW8 HSO
        go_roundw
        case rel => exact ⟨k + 1, by omega, by go_num, HE⟩
        case measure => simp [intOf]; omega
end Go.Proofs.Ytpjgffcpjabghaa
namespace Go.Proofs.Ytpjgffcpjabghaa
open Go.RowKit Go.Maps Go.Shelf Go.Lib Go.Sort
set_option linter.unusedSimpArgs false
set_option maxRecDepth 100000

/-- The first of two that is not nought. -/
def or2 (x y : Int) : Int := if x = 0 then y else x
theorem or2_calls (x y : Int) (b : Nat) (w : World) (c0 : w.cell? ⟨b, 0, none⟩ = some (.int .i64 x)) (c1 : w.cell? ⟨b, 1, none⟩ = some (.int .i64 y)) : Calls Try.prog 32 #[.slice (some ⟨b, 0, none⟩) 2 2] w fun e w' => e = .returned (.int .i64 (or2 x y)) ∧ w' = w := by
  obtain ⟨r, hr⟩ : ∃ r, r = or2 x y := ⟨_, rfl⟩
  rw [← hr]
  have HR : Hid (r = or2 x y) := hr
  clear hr
  go_enter Try.func32, Try.ntmps32
  go_wp2_with fail
  go_loop [8] (fun i => i = .int .i64 0 ∨ (i = .int .i64 1 ∧ x = 0) ∨ (i = .int .i64 2 ∧ x = 0 ∧ y = 0)) (fun i => 2 - (intOf i).toNat)
  case atStart => exact .inl rfl
  case round =>
    rcases hrel with rfl | ⟨rfl, hx⟩ | ⟨rfl, hx, hy⟩
    · by_cases hx : x = 0
      · subst hx
        go_wp2_with fail
        go_round
        case rel => exact .inr (.inl ⟨by go_num, by simp⟩)
        case measure => simp [intOf]
      · have HN : Hid (r = x) := by rw [Hid, HR.out]; exact if_neg hx
        clear HR
        go_wp2_with fail
        go_ret
        exact ⟨by rw [HN.out]; rfl, rfl⟩
    · subst hx
      have HN : Hid (r = y) := by rw [Hid, HR.out]; exact if_pos rfl
      by_cases hy : y = 0
      · subst hy
        clear HR HN
        go_wp2_with fail
        go_round
        case rel => exact .inr (.inr ⟨by go_num, by simp⟩)
        case measure => simp [intOf]
      · clear HR
        go_wp2_with fail
        go_ret
        exact ⟨by rw [HN.out]; rfl, rfl⟩
    · subst hx
      subst hy
      have HN : Hid (r = 0) := by rw [Hid, HR.out]; exact if_pos rfl
      clear HR
      go_wp2_with fail
      go_ret
      exact ⟨by rw [HN.out]; rfl, rfl⟩
/-- A pod and where its lists lie. -/
abbrev PH := PodD × Hd × Hd × Hd × Hd × Hd × Hd × Hd × Hd × Hd
/-- A pod's cells. -/
abbrev phC (x : PH) : List Value := [.string x.1.1, .int .i64 x.1.2.1, .slice x.2.1.1 x.2.1.2.1 x.2.1.2.2, .int .i64 x.1.2.2.2.1.1, .int .i64 x.1.2.2.2.1.2.1, .int .i64 x.1.2.2.2.1.2.2, .slice x.2.2.1.1 x.2.2.1.2.1 x.2.2.1.2.2, .slice x.2.2.2.1.1 x.2.2.2.1.2.1 x.2.2.2.1.2.2, .slice x.2.2.2.2.1.1 x.2.2.2.2.1.2.1 x.2.2.2.2.1.2.2, .slice x.2.2.2.2.2.1.1 x.2.2.2.2.2.1.2.1 x.2.2.2.2.2.1.2.2, .slice x.2.2.2.2.2.2.1.1 x.2.2.2.2.2.2.1.2.1 x.2.2.2.2.2.2.1.2.2, .slice x.2.2.2.2.2.2.2.1.1 x.2.2.2.2.2.2.2.1.2.1 x.2.2.2.2.2.2.2.1.2.2, .slice x.2.2.2.2.2.2.2.2.1.1 x.2.2.2.2.2.2.2.2.1.2.1 x.2.2.2.2.2.2.2.2.1.2.2, .slice x.2.2.2.2.2.2.2.2.2.1 x.2.2.2.2.2.2.2.2.2.2.1 x.2.2.2.2.2.2.2.2.2.2.2, .string x.1.2.2.2.2.2.2.2.2.2.2.2.2.1, .string x.1.2.2.2.2.2.2.2.2.2.2.2.2.2]
theorem ph_of {A : Where} {u : World} {cs : List Value} {p : PodD} (h : RPod A u cs p) : ∃ x : PH, x.1 = p ∧ phC x = cs := by
  obtain ⟨h2, h6, h7, h8, h9, h10, h11, h12, h13, e, _⟩ := h.out
  exact ⟨(p, h2, h6, h7, h8, h9, h10, h11, h12, h13), rfl, e.symm⟩
theorem ph_list {A : Where} {u : World} {xs : List Value} {L : List PodD} (h : Chunks RPod 16 A u xs L) : ∃ M : List PH, M.map Prod.fst = L ∧ ∀ i, i < M.length → RPod A u (phC (M.getD i default)) (M.getD i default).1 ∧ ∀ j, j < 16 → xs[i * 16 + j]? = (phC (M.getD i default))[j]? := by
  have hx : ∀ i, ∃ x : PH, i < L.length → (x.1 = L.getD i default ∧ RPod A u (phC x) x.1 ∧ ∀ j, j < 16 → xs[i * 16 + j]? = (phC x)[j]?) := fun i => by
    by_cases hi : i < L.length
    · obtain ⟨cs, h1, h2⟩ := h.2 i hi
      obtain ⟨x, e1, e2⟩ := ph_of h1
      exact ⟨x, fun _ => ⟨e1, by rw [e1, e2]; exact h1, fun j hj => by rw [e2]; exact h2 j hj⟩⟩
    · exact ⟨default, fun k => absurd k hi⟩
  obtain ⟨f, hf⟩ := Classical.axiomOfChoice hx
  have hg : ∀ i, i < L.length → ((List.range L.length).map f).getD i default = f i := fun i hi => by
    rw [List.getD_eq_getElem?_getD, List.getElem?_map, List.getElem?_range hi]; rfl
  refine ⟨(List.range L.length).map f, ?_, fun i hi => ?_⟩
  · apply List.ext_getElem
    · simp
    · intro i h1 h2
      have h3 := (hf i h2).1
      rw [List.getD_eq_getElem?_getD, List.getElem?_eq_getElem h2] at h3
      simpa using h3
  · have hi' : i < L.length := by simpa using hi
    rw [hg i hi']
    exact (hf i hi').2
/-- How two pods compare: by falling priority, then by rising name. -/
def cfP (x y : PH) : Int := or2 (Lib.compareInt y.1.2.1 x.1.2.1) (Lib.compareBytes x.1.1.data.toList y.1.1.data.toList)
theorem cfP_less (a b : PH) : ltOf cfP a b = aheadB a.1 b.1 := by
  rw [Bool.eq_iff_iff, ahead_iff, sLt_iff]
  unfold ltOf cfP or2 Lib.compareInt
  rw [decide_eq_true_iff]
  rcases Int.lt_trichotomy b.1.2.1 a.1.2.1 with h | h | h
  · simp [h]
  · simp [h]
  · have h1 : ¬ b.1.2.1 < a.1.2.1 := by omega
    have h2 : ¬ a.1.2.1 = b.1.2.1 := by omega
    simp [h, h1, h2]
theorem ahead_ntrans {a b c : PodD} (h1 : aheadB a b = false) (h2 : aheadB b c = false) : aheadB a c = false := by
  rw [← Bool.not_eq_true, ahead_iff] at *
  rintro (h | ⟨h, k⟩)
  · by_cases e : b.2.1 < a.2.1
    · exact h1 (.inl e)
    · exact h2 (.inl (by omega))
  · have e1 : ¬ b.2.1 < a.2.1 := fun x => h1 (.inl x)
    have e2 : ¬ c.2.1 < b.2.1 := fun x => h2 (.inl x)
    have p : sLt a.1 b.1 = false := by
      cases e : sLt a.1 b.1 with
      | false => rfl
      | true => exact absurd (.inr ⟨by omega, e⟩) h1
    have q : sLt b.1 c.1 = false := by
      cases e : sLt b.1 c.1 with
      | false => rfl
      | true => exact absurd (.inr ⟨by omega, e⟩) h2
    have := sLt_ntrans p q
    rw [this] at k; cases k
theorem ahead_irr (a : PodD) : aheadB a a = false := by
  cases h : aheadB a a with
  | false => rfl
  | true => have := ahead_asymm h; rw [h] at this; cases this
theorem swoP : SWO (ltOf cfP) := {
  irrefl := fun x => by rw [cfP_less]; exact ahead_irr x.1
  trans := fun x y z h1 h2 => by rw [cfP_less] at *; exact ahead_trans h1 h2
  ntrans := fun x y z h1 h2 => by rw [cfP_less] at *; exact ahead_ntrans h1 h2 }
set_option maxHeartbeats 8000000 in
theorem cfP_calls (x y : PH) (W : World) : Calls Try.prog 31 #[.agg (phC x).toArray, .agg (phC y).toArray] W fun e w' => e = .returned (.int .i64 (cfP x y)) ∧ ∃ q os', w' = grow (W.drewN q) os' := by
  obtain ⟨W1, hW1⟩ : ∃ Z, Z = W.alloc (.cells (phC x).toArray 54) := ⟨_, rfl⟩
  have b1 : Below W.heap.size W W1 := by rw [hW1]; exact (Below.refl _ _).alloc (Nat.le_refl _) _
  have q1 : BoxL W1 W.heap.size (phC x) := by rw [hW1]; exact BoxL.new W 54 (phC x)
  obtain ⟨W2, hW2⟩ : ∃ Z, Z = W1.alloc (.cells (phC y).toArray 54) := ⟨_, rfl⟩
  have b2 : Below W1.heap.size W1 W2 := by rw [hW2]; exact (Below.refl _ _).alloc (Nat.le_refl _) _
  have q2 : BoxL W2 W1.heap.size (phC y) := by rw [hW2]; exact BoxL.new W1 54 (phC y)
  have q1a := q1.on b2
  have s1 : W1.heap.size = W.heap.size + 1 := by rw [hW1]; simp
  rw [s1] at q2
  have HW1 : Hid (W.alloc (.cells (phC x).toArray 54) = W1) := hW1.symm
  have HW2 : Hid (W1.alloc (.cells (phC y).toArray 54) = W2) := hW2.symm
  have HZ : Hid (or2 (Lib.compareInt y.1.2.1 x.1.2.1) (Lib.compareBytes x.1.1.data.toList y.1.1.data.toList) = cfP x y) := rfl
  clear hW1 hW2 b1 b2 q1 s1
  generalize cfP x y = cf at HZ
  have HQ0 : Hid (∀ z, Below W2.heap.size W2 z → z.cell? ⟨W.heap.size, 0, none⟩ = some (.string x.1.1) ∧ z.cell? ⟨W.heap.size, 1, none⟩ = some (.int .i64 x.1.2.1) ∧ z.cell? ⟨W.heap.size + 1, 0, none⟩ = some (.string y.1.1) ∧ z.cell? ⟨W.heap.size + 1, 1, none⟩ = some (.int .i64 y.1.2.1)) := fun z hz => ⟨((q1a.on hz).2 0 _ rfl).1, ((q1a.on hz).2 1 _ rfl).1, ((q2.on hz).2 0 _ rfl).1, ((q2.on hz).2 1 _ rfl).1⟩
  have HE : Hid (∀ (k1 k2 : Int) (Z : World), Z = W2.drew → ∃ q os', Z.alloc (.cells #[.int .i64 k1, .int .i64 k2] 3) = grow (W.drewN q) os') := by
    intro k1 k2 Z hZ
    rw [hZ, ← HW2.out, ← HW1.out]
    refine ⟨1, #[.cells (phC x).toArray 54 (0, 0), .cells (phC y).toArray 54 (0, 0), .cells #[.int .i64 k1, .int .i64 k2] 3 (0, 0)], ?_⟩
    rw [alloc_eq_grow, alloc_eq_grow, alloc_eq_grow]
    show grow (grow (grow (W.drewN 1) _) _) _ = _
    rw [grow_grow, grow_grow]
    rfl
  clear q1a q2
  generalize (phC x).toArray = cx at HW1
  generalize (phC y).toArray = cy at HW2
  generalize x.1.1 = x0 at HQ0 HZ
  generalize x.1.2.1 = x1 at HQ0 HZ
  generalize y.1.1 = y0 at HQ0 HZ
  generalize y.1.2.1 = y1 at HQ0 HZ
  have HQ := HQ0
  clear HQ0
  go_enter Try.func31, Try.ntmps31
  go_upto_region 1 with fail
  rw [HW1.out, HW2.out]
  --M2
  refine t0 (fun z => Below W2.heap.size W2 z) (Below.refl _ _).drew (fun hHeld => ?_)
  obtain ⟨wd, hwd⟩ : ∃ Z, Z = W2.drew := ⟨_, rfl⟩
  have HWD : Hid (wd = W2.drew) := hwd
  rw [← hwd] at hHeld ⊢
  clear hwd
  try go_frame
  refine' tk 0 ?_ ?_; rotate_left
  · intro z hz; obtain ⟨f1, f2, f3, f4⟩ := HQ.out z hz; clear hz; go_simp; try with_reducible rfl
  try go_frame
  refine' tk 1 ?_ ?_; rotate_left
  · intro z hz; obtain ⟨f1, f2, f3, f4⟩ := HQ.out z hz; clear hz; go_simp; try with_reducible rfl
  try go_frame
  refine' tk 2 ?_ ?_; rotate_left
  · intro z hz; obtain ⟨f1, f2, f3, f4⟩ := HQ.out z hz; clear hz; go_simp; try with_reducible rfl
  try go_frame
  refine' tk 3 ?_ ?_; rotate_left
  · intro z hz; obtain ⟨f1, f2, f3, f4⟩ := HQ.out z hz; clear hz; go_simp; try with_reducible rfl
  try go_frame
  refine' tk 5 ?_ ?_; rotate_left
  · intro z hz; obtain ⟨f1, f2, f3, f4⟩ := HQ.out z hz; clear hz; go_simp; try with_reducible rfl
  try go_frame
  refine' tk 6 ?_ ?_; rotate_left
  · intro z hz; obtain ⟨f1, f2, f3, f4⟩ := HQ.out z hz; clear hz; go_simp; try with_reducible rfl
  try go_frame
  refine' tk 7 ?_ ?_; rotate_left
  · intro z hz; obtain ⟨f1, f2, f3, f4⟩ := HQ.out z hz; clear hz; go_simp; try with_reducible rfl
  try go_frame
  refine' tk 8 ?_ ?_; rotate_left
  · intro z hz; obtain ⟨f1, f2, f3, f4⟩ := HQ.out z hz; clear hz; go_simp; try with_reducible rfl
  try go_frame
  refine tr 4 (fun K hK => ?_)
  have hC := Try.cmp_Compare_int y1 x1 wd
  go_simp
  refine hC.mono ?_
  rintro e z4 ⟨rfl, hz4⟩
  obtain rfl := hz4.symm
  clear hC
  go_wp2_with fail
  refine hK.out _ _ hHeld (fun hHeld2 => ?_)
  clear hK K hHeld; have hHeld := hHeld2; clear hHeld2
  try go_frame
  refine tr 9 (fun K hK => ?_)
  have hC := Try.strings_Compare x0 y0 wd
  go_simp
  refine hC.mono ?_
  rintro e z9 ⟨rfl, hz9⟩
  obtain rfl := hz9.symm
  clear hC
  go_wp2_with fail
  refine hK.out _ _ hHeld (fun hHeld2 => ?_)
  clear hK K hHeld; have hHeld := hHeld2; clear hHeld2
  try go_frame
  generalize hZ1 : Lib.compareInt y1 x1 = k1
  generalize hZ2 : Lib.compareBytes x0.data.toList y0.data.toList = k2
  refine tr 10 (fun K hK => ?_)
  go_simp
  obtain ⟨W3, hW3⟩ : ∃ Z, Z = wd.alloc (.cells #[.int .i64 k1, .int .i64 k2] 3) := ⟨_, rfl⟩
  have b3 : Below wd.heap.size wd W3 := by rw [hW3]; exact (Below.refl _ _).alloc (Nat.le_refl _) _
  have q3 : BoxL W3 wd.heap.size [.int .i64 k1, .int .i64 k2] := by rw [hW3]; exact BoxL.new wd 3 _
  have HW3 : Hid (W3 = wd.alloc (.cells #[.int .i64 k1, .int .i64 k2] 3)) := hW3
  rw [← hW3]
  clear hW3
  refine hK.out _ _ (on2 hHeld b3) (fun hHeld2 => ?_)
  clear hK K hHeld; have hHeld := hHeld2; clear hHeld2
  try go_frame
  refine tr 11 (fun K hK => ?_)
  have hC := or2_calls k1 k2 wd.heap.size W3 (q3.2 0 _ rfl).1 (q3.2 1 _ rfl).1
  go_simp
  refine hC.mono ?_
  rintro e z11 ⟨rfl, hz11⟩
  obtain rfl := hz11.symm
  clear hC
  go_wp2_with fail
  refine hK.out _ _ hHeld (fun hHeld2 => ?_)
  clear hK K hHeld; have hHeld := hHeld2; clear hHeld2
  try go_frame
  refine' tk 12 ?_ ?_; rotate_left
  · intro z hz; clear hz; go_simp; try with_reducible rfl
  try go_frame
  refine tz ?_
  clear hHeld b3 q3
  go_wp2_with fail
  --M3
  go_ret
  exact ⟨by rw [← HZ.out, hZ1, hZ2]; rfl, by rw [HW3.out]; exact HE.out _ _ _ HWD.out⟩
end Go.Proofs.Ytpjgffcpjabghaa
namespace Go.Proofs.Ytpjgffcpjabghaa
open Go.RowKit Go.Maps Go.Shelf Go.Lib Go.Sort
set_option linter.unusedSimpArgs false
set_option maxRecDepth 100000

theorem cfP_lays (blk off size : Nat) (w : World) : CmpLays Try.prog 31 #[] phC 16 cfP blk off size w := fun _ _ _ _ x y => cfP_calls x y _
theorem isAggP (w : World) : (isAgg 54).run Try.prog w = .ok true w := Try.isAgg54 w
theorem sizeP (w : World) : (Go.sizeOf 54).run Try.prog w = .ok 16 w := Try.sizeOf54 w
/-- A row that has been written over, and blocks behind it. -/
theorem own_put {w0 u : World} {e : TypeId} {g n cap q k : Nat} {xs ys : List Value} (h : Own w0 u e k (.slice (some ⟨g, 0, none⟩) n cap) n xs) (hy : ys.length = n * k) (os : Array Obj) :
    Own w0 (grow (putRow id (Sort.ahead u q) g 0 ys.toArray) os) e k (.slice (some ⟨g, 0, none⟩) n cap) n ys := by
  obtain ⟨hb, hl, ⟨e0, _⟩ | ⟨g', cap', cur, e0, hB, hg, hn, hm, hs, ht⟩⟩ := h
  · cases e0
  · injection e0 with e1 _ e3
    injection e1 with e1
    injection e1 with e1
    subst e1; subst e3
    have h1 : RowKit.Below w0.heap.size w0 (putRow id (Sort.ahead u q) g 0 ys.toArray) := below_putRow hb hB
    have h2 := below_grow (putRow id (Sort.ahead u q) g 0 ys.toArray).heap.size (putRow id (Sort.ahead u q) g 0 ys.toArray) (Nat.le_refl _) 0 os
    have hlt : g < u.heap.size := block_lt hg
    have hlt2 : g < (putRow id (Sort.ahead u q) g 0 ys.toArray).heap.size := by simpa [putRow, mapBlock, Sort.ahead] using hlt
    have hnk : n * k ≤ cap * k := Nat.mul_le_mul_right k hn
    refine ⟨h1.trans (h2.mono h1.size), hy, .inr ⟨g, cap, putCells id 0 ys.toArray cur, rfl, hB, ?_, hn, hm, by simpa [putCells] using hs, ?_⟩⟩
    · refine (h2.block g hlt2).trans ?_
      simp [putRow, mapBlock, Sort.ahead, Array.getElem?_modify, hg, onCells]
    · apply List.ext_getElem?
      intro j
      rw [List.getElem?_take, Array.getElem?_toList]
      by_cases hj : j < n * k
      · have hjc : j < cur.size := by omega
        simp only [if_pos hj, putCells, Array.getElem?_mapIdx, Array.getElem?_eq_getElem hjc, Option.map_some]
        rw [if_pos (by simp; omega), List.getElem?_eq_getElem (by omega)]
        simp [getElem!_pos, show j < ys.length by omega]
      · rw [if_neg hj, List.getElem?_eq_none (by omega)]
theorem toList_getDY {α : Type} [Inhabited α] (d : Array α) (i : Nat) (h : i < d.size) : d.toList.getD i default = d[i]! := by
  rw [List.getD_eq_getElem?_getD, List.getElem?_eq_getElem (by simpa using h), getElem!_pos d i h]
  simp
theorem kept_put {A : Where} {u : World} {g q : Nat} {ys : Array Value} (os : Array Obj) (hA : ¬ A g) : Kept A u (grow (putRow id (Sort.ahead u q) g 0 ys) os) := by
  have h2 := below_grow (putRow id (Sort.ahead u q) g 0 ys).heap.size (putRow id (Sort.ahead u q) g 0 ys) (Nat.le_refl _) 0 os
  have hs : (putRow id (Sort.ahead u q) g 0 ys).heap.size = u.heap.size := by simp [putRow, mapBlock, Sort.ahead]
  refine ⟨by rw [← hs]; exact h2.size, fun b hb hlt => ?_⟩
  have hne : ¬ g = b := fun e => hA (e ▸ hb)
  refine (h2.block b (by rw [hs]; exact hlt)).trans ?_
  simp [putRow, mapBlock, Sort.ahead, Array.getElem?_modify, hne]
set_option maxHeartbeats 1000000 in
theorem psort_calls (A : Where) (w0 u : World) (v : Value) (L : List PodD) (hl : L.length ≤ 140737488355328) (hR : Row RPod 16 A w0 u 54 v L) :
    Calls Try.prog 30 #[v, .func (.func 31) #[] #[]] u fun e w' => e = .returned (.tuple #[]) ∧ ∃ L', L'.Perm L ∧ L'.Pairwise (fun x y => aheadB y x = false) ∧ Row RPod 16 A w0 w' 54 v L' := by
  have hR0 := hR
  obtain ⟨xs, hO, hch⟩ := hR
  rcases own_cells hO.2 with ⟨rfl, h0⟩ | ⟨g, cap, rfl, hcp, hB, hg, hc⟩
  · have : L = [] := List.length_eq_zero_iff.1 h0
    subst this
    refine (show Calls Try.prog 30 #[.slice none 0 0, .func (.func 31) #[] #[]] u (fun e w' => e = .returned (.tuple #[]) ∧ w' = u) from AnyF.slices_SortFunc_none Try.laysSort none 0 _ u).mono ?_
    rintro e w' ⟨rfl, rfl⟩
    exact ⟨rfl, [], List.Perm.refl _, List.Pairwise.nil, hR0⟩
  · obtain ⟨M, hM, hM2⟩ := ph_list hch
    have hml : M.length = L.length := by rw [← hM, List.length_map]
    have hok : ∀ x ∈ M, RPod (fun b => A b ∧ Value.ownBlock (.slice (some ⟨g, 0, none⟩) L.length cap) ≠ some b) u (phC x) x.1 := fun x hx => by
      obtain ⟨i, hi, rfl⟩ := List.getElem_of_mem hx
      have h1 := (hM2 i hi).1
      rwa [List.getD_eq_getElem?_getD, List.getElem?_eq_getElem hi] at h1
    have hH : HoldsK phC 16 u g 0 M.toArray := by
      intro j hj
      simp only [size_flatK, List.size_toArray] at hj
      have h1 := hc j (by rw [← hml]; exact hj)
      rw [get_flatK _ _ _ _ (by simpa using hj), Nat.zero_add]
      refine ⟨h1.1.trans ?_, h1.2⟩
      have hil : j / 16 < M.length := by omega
      have h3 := (hM2 (j / 16) hil).2 (j % 16) (by omega)
      rw [show j / 16 * 16 + j % 16 = j by omega] at h3
      have hx : (M.toArray)[j / 16]! = M.getD (j / 16) default := by rw [← toList_getDY _ _ (by simpa using hil)]
      rw [h3, hx]
      have h5 : j % 16 < (phC (M.getD (j / 16) default)).length := by simp; omega
      rw [List.getElem?_eq_getElem h5, getElem!_pos (phC (M.getD (j / 16) default)) (j % 16) h5]
      rfl
    have eg : ∀ args w, (callFunc 31 args).run Try.prog w = .ok (.enter 31 args) w := enters_of Try.func31 (by kernel_rfl) rfl
    have hcon := AnyQ.slices_SortFunc Try.laysSort 16 isAggP sizeP phC (fun _ => rfl) (fun x v hv => by simp at hv; rcases hv with rfl | rfl | rfl | rfl | rfl | rfl | rfl | rfl | rfl | rfl | rfl | rfl | rfl | rfl | rfl | rfl <;> rfl) cfP swoP 31 #[] g 0 cap M.toArray u eg (cfP_lays g 0 _ u) hH hg (by simp; omega)
    rw [List.size_toArray, hml] at hcon
    refine (show Calls Try.prog 30 #[.slice (some ⟨g, 0, none⟩) L.length cap, .func (.func 31) #[] #[]] u _ from hcon).mono ?_
    rintro e w' ⟨rfl, d', n, os, ⟨hz, _, hperm⟩, hsort, rfl⟩
    have hsz : d'.size = L.length := by rw [← hml]; simpa using hz
    have hperm' : d'.toList.Perm M := by simpa [Array.extract_eq_self_of_le, hsz, hml] using hperm
    have hlen : d'.toList.length = L.length := by simpa using hsz
    refine ⟨rfl, d'.toList.map Prod.fst, by rw [← hM]; exact hperm'.map _, ?_, (flatK phC 16 d').toList, ?_, ?_⟩
    · rw [List.pairwise_map]
      refine List.pairwise_iff_getElem.2 (fun i j hi hj hij => ?_)
      have := hsort i j (Nat.zero_le _) hij (by simpa [hsz] using hj)
      rw [cfP_less] at this
      rwa [getElem!_pos d' j (by simpa using hj), getElem!_pos d' i (by simpa using hi)] at this
    · rw [List.length_map, hlen]
      have h := own_put (q := n) hO (ys := (flatK phC 16 d').toList) (by simp [hsz]) os
      exact h
    · refine ⟨by simp, fun i hi => ?_⟩
      have hi' : i < d'.size := by simpa using hi
      have hil : i < d'.toList.length := by simpa using hi'
      have he : (d'.toList.map Prod.fst).getD i default = (d'.toList.getD i default).1 := by
        rw [List.getD_eq_getElem?_getD, List.getD_eq_getElem?_getD, List.getElem?_map, List.getElem?_eq_getElem hil]; rfl
      rw [he]
      refine ⟨phC (d'.toList.getD i default), ?_, fun j hj => ?_⟩
      · refine RPod.firm.kept (hok _ (hperm'.mem_iff.1 ?_)) (kept_put os (fun h => h.2 rfl))
        rw [List.getD_eq_getElem?_getD, List.getElem?_eq_getElem hil]
        exact List.getElem_mem hil
      · have ht : i * 16 + j < d'.size * 16 := by omega
        have h1 := get_flatK phC 16 d' (i * 16 + j) ht
        rw [show (i * 16 + j) / 16 = i by omega, show (i * 16 + j) % 16 = j by omega] at h1
        rw [Array.getElem?_toList, Array.getElem?_eq_getElem (by simpa using ht), ← getElem!_pos (flatK phC 16 d') (i * 16 + j) (by simpa using ht), h1, toList_getDY _ _ hi']
        have h5 : j < (phC d'[i]!).length := by simpa using hj
        rw [List.getElem?_eq_getElem h5, getElem!_pos (phC d'[i]!) j h5]
end Go.Proofs.Ytpjgffcpjabghaa
