/- The budget's Order. Condition: a state and names lie as is said of them. The program's budget keeps what is said of it. No condition. -/
import Derived.Test.YtpjgffcpjabghaaQ16
import Derived.Test.YtpjgffcpjabghaaQ17
import Derived.Test.YtpjgffcpjabghaaQ05
import Derived.Test.YtpjgffcpjabghaaQ15
namespace Go.Proofs.Ytpjgffcpjabghaa
open Go.RowKit Go.Maps
set_option linter.unusedSimpArgs false
set_option maxRecDepth 100000

theorem names_snoc {G : List PodD} {k : Nat} (hk : k < G.length) : (G.take (k + 1)).map Prod.fst = (G.take k).map Prod.fst ++ [(G.getD k default).1] := by
  rw [take_snoc18 hk, List.map_append]; rfl
set_option maxHeartbeats 4000000 in
theorem order_calls18 (ss : List Value) (A : Where) (s : StateD) (na : Option Addr) (nn nc : Nat) (A' : Where) (V : List ByteArray) (w : World) (hs : Hid (RState A w ss s)) (hV : Hid (SlAt RStr 1 16 A' w na nn nc V)) : Calls Try.prog 16 #[.agg ss.toArray, .slice na nn nc] w fun e w' => ∃ v, e = .returned v ∧ Row RStr 1 (fun _ => False) w w' 9 v (orderP s.1 V) := by
  obtain ⟨W1, hW1⟩ : ∃ Z, Z = w.alloc (.cells ss.toArray 29) := ⟨_, rfl⟩
  have b1 : Below w.heap.size w W1 := by rw [hW1]; exact (Below.refl _ _).alloc (Nat.le_refl _) _
  have q1 : BoxL W1 w.heap.size ss := by rw [hW1]; exact BoxL.new w 29 _
  obtain ⟨I, hI⟩ : ∃ I, I = w.heap.size := ⟨_, rfl⟩
  rw [← hI] at q1
  have HI : Hid (w.heap.size = I) := hI.symm
  have HW : Hid (w.alloc (.cells ss.toArray 29) = W1) := hW1.symm
  have HB : Hid (Below w.heap.size w W1) := b1
  have HQ : Hid (W1.rangeAt I 0 ss) := q1.range
  have HSs : Hid ((Try.prog.info? 29).map (·.size) = some ss.length) := by rw [Hid, RState.firm.len hs.out]; exact sizeState18
  have hA := named_calls ss A s na nn nc A' V W1 (RState.firm.kept hs.out (Kept.below b1)) (hV.out.on RStr.firm b1)
  obtain ⟨⟨a, n, cap⟩, _, _, _, _, _, ess, sp, _⟩ := hs.out.out
  have hn : s.1.length = n := sp.1
  have hml : n * 296 ≤ 140737488351232 := sp.2.2.2.1
  have hnl := named_lenL s.1 V
  rw [hn] at hnl
  have HOr : Hid (∀ Q : List PodD, Q.Perm (namedP s.1 V) → Q.Pairwise (fun x y => aheadB y x = false) → orderP s.1 V = Q.map Prod.fst) := fun Q h1 h2 => (order_sorted s.1 V h1 (by exact h2)).symm
  obtain ⟨N0, hN0⟩ : ∃ G, G = namedP s.1 V := ⟨_, rfl⟩
  obtain ⟨O0, hO0⟩ : ∃ G, G = orderP s.1 V := ⟨_, rfl⟩
  rw [← hN0] at hA hnl HOr
  rw [← hO0] at HOr ⊢
  obtain ⟨AA, hAA⟩ : ∃ AA, AA = (fun b => A b ∧ b < W1.heap.size : Where) := ⟨_, rfl⟩
  rw [← hAA] at hA
  clear hW1 b1 q1 hI hs hV ess sp hn hN0 hO0 hAA
  go_enter Try.func16, Try.ntmps16
  go_upto_region 1 with fail
  rw [HW.out, HI.out]
  clear HW
  go_upto_region 2 with (first | (refine wpList_load_mid rfl 29 _ rfl I 0 rfl ss _ HQ.out Try.underlying29 rfl HSs.out ?_) | fail)
  refine hA.mono ?_
  rintro e wn ⟨v, rfl, hv⟩
  clear hA HQ HSs
  go_upto_region 2 with fail
  --M1
  have hA := psort_calls AA W1 wn v N0 (by omega) hv
  clear hv
  go_wp2_with fail
  refine hA.mono ?_
  rintro e wm ⟨rfl, G, hp, hsr, hv⟩
  clear hA
  --M2
  have hgl : G.length = N0.length := hp.length_eq
  have HO : Hid (O0 = G.map Prod.fst) := HOr.out G hp hsr
  clear HOr hp hsr
  have hgb : G.length * 296 ≤ 140737488351232 := by rw [hgl]; exact Nat.le_trans (Nat.mul_le_mul_right _ hnl) hml
  have HBm : Hid (Below w.heap.size w wm) := on2 HB.out hv.below
  obtain ⟨ga, gc, rfl, hg⟩ := hv.slO18 RPod.firm (bytes := 296) hgb
  obtain ⟨A3, hA3⟩ : ∃ A3, A3 = (fun x => AA x ∨ (Value.slice ga G.length gc).ownBlock = some x : Where) := ⟨_, rfl⟩
  rw [← hA3] at hg
  have HS : Hid (∀ z, Below wm.heap.size wm z → SlAt RPod 16 296 A3 z ga G.length gc G) := fun z hz => hg.on RPod.firm hz
  obtain ⟨n', hn'⟩ : ∃ n', n' = G.length := ⟨_, rfl⟩
  have HL : Hid (G.length = n') := hn'.symm
  rw [← hn'] at hgb HS ⊢
  clear hv hg hA3 hn' hgl hnl hml
  go_wp2_with fail
  --M3
  go_loopw [6, 16] (fun v i z => ∃ k : Nat, k ≤ n' ∧ i = .int .i64 k ∧ Hid (Row RStr 1 (fun _ => False) wm z 9 v ((G.take k).map Prod.fst))) (fun _ i _ => n' - (intOf i).toNat)
  case atStart => exact ⟨0, Nat.zero_le _, rfl, Row.nil _ _ _⟩
  case round =>
    obtain ⟨k, hk, rfl, hz⟩ := hrel
    by_cases hlt : k < n'
    case neg =>
      have hltz : ¬ (k : Int) < (n' : Int) := by omega
      have hr := hz.out
      rw [List.take_of_length_le (by rw [HL.out]; omega), ← HO.out] at hr
      have HE := hr.from RStr.firm HBm.out (fun _ h => h)
      clear hr hz
      go_wp2_with fail
      go_ret
      exact ⟨_, rfl, HE⟩
    have hltz : (k : Int) < (n' : Int) := by omega
    have hkl : k < G.length := by rw [HL.out]; exact hlt
    obtain ⟨D, off, rfl, hD, _, ps, hr, hv⟩ := (HS.out wr hz.out.below).get hlt
    have hsn := names_snoc hkl
    have hbl : ((G.take k).map Prod.fst).length ≤ k := by rw [List.length_map, List.length_take]; omega
    obtain ⟨p, hp⟩ : ∃ p, p = G.getD k default := ⟨_, rfl⟩
    rw [← hp] at hr hsn
    obtain ⟨_, _, _, _, _, _, _, _, _, eps, hsz, _⟩ := hr.out
    obtain ⟨Z, X3, hZ, hX3, bX3, qX3, hT, hO, hSz1, hSz2⟩ := box_newQ RPod.firm hr zPodL rfl 54 sizePodQ
    obtain ⟨B, hB⟩ : ∃ B, B = wr.heap.size := ⟨_, rfl⟩
    have HBB : Hid (wr.heap.size = B) := hB.symm
    have HPv : Hid (wr.rangeAt D (off + k * 16) ps) := hv
    have HT : Hid (Z.there wr.heap.size 0 ps.toArray.size) := hT
    have HOC : Hid (ps.toArray.all (·.oneCell') = true) := hO
    have HS1 : Hid ((Try.prog.info? 54).map (·.size) = some ps.length ∧ (Try.prog.info? 54).map (·.size) = some ps.toArray.size) := ⟨hSz1, hSz2⟩
    have HZ : Hid (wr.alloc (.cells zPodL.toArray 54) = Z) := hZ.symm
    have HX3 : Hid (X3 = Z.setCells wr.heap.size 0 ps.toArray.toList) := hX3
    rw [← hB] at qX3
    have c3 : X3.cell? ⟨B, 0, none⟩ = some (.string p.1) := (qX3.2 0 _ (by rw [eps]; rfl)).1
    have HRw : Hid (Row RStr 1 (fun _ => False) wm X3 9 u6 ((G.take k).map Prod.fst)) := hz.out.on RStr.firm bX3
    have HSN : Hid ((G.take (k + 1)).map Prod.fst = (G.take k).map Prod.fst ++ [p.1]) := hsn
    have HLb : Hid ((((G.take k).map Prod.fst).length + [p.1].length) * 16 ≤ 140737488355328) := by rw [Hid, List.length_singleton]; omega
    obtain ⟨x, hx⟩ : ∃ x, x = p.1 := ⟨_, rfl⟩
    rw [← hx] at c3 HSN HLb hsz
    obtain ⟨W6, hW6⟩ : ∃ Z, Z = X3.alloc (.cells #[.string x] 9) := ⟨_, rfl⟩
    have b6 : Below X3.heap.size X3 W6 := by rw [hW6]; exact (Below.refl _ _).alloc (Nat.le_refl _) _
    have q6 : BoxL W6 X3.heap.size [.string x] := by rw [hW6]; exact BoxL.new X3 9 _
    have HW6 : Hid (W6 = X3.alloc (.cells #[.string x] 9)) := hW6
    have HR6 : Hid (Row RStr 1 (fun _ => False) wm W6 9 u6 ((G.take k).map Prod.fst)) := HRw.out.on RStr.firm b6
    have HSr : Hid (Src RStr 1 (fun b => False ∧ Value.ownBlock u6 ≠ some b) W6 (some ⟨X3.heap.size, 0, none⟩) 1 [x]) := src_boxG RStr.firm q6 ⟨rfl, hsz⟩
    clear hp hr hT hO hSz1 hSz2 hZ hX3 bX3 qX3 hB hv hz hsn eps hbl hx hW6 b6 q6 HRw
    go_upto_region 7 with (first | (refine wpList_load_mid rfl 54 _ rfl D (off + k * 16) rfl ps _ HPv.out Try.underlying54 rfl HS1.out.1 ?_) | (rw [HZ.out]; refine wpList_store_mid rfl 54 _ _ rfl wr.heap.size 0 ps.toArray rfl rfl HT.out HS1.out.2 HOC.out ?_; refine wpl_atG HX3.out ?_; rw [HBB.out]) | fail)
    --M4
    clear HPv HT HOC HS1 HZ HX3 HBB
    go_wp2_with (at_builtin; refine wpl_atG HW6.out ?_; refine row_appendP RStr.firm (A := fun _ => False) (w0 := wm) rfl _ _ 30 9 rfl _ 16 infoStr18 Try.underlying30 rfl (by decide) (by decide) u6 ((G.take k).map Prod.fst) rfl HR6.out (some ⟨X3.heap.size, 0, none⟩) 1 1 [x] rfl HSr.out HLb.out ?_; intro v7 w7 hrow7 hg7 hw7)
    have HE : Hid (Row RStr 1 (fun _ => False) wm w7 9 v7 ((G.take (k + 1)).map Prod.fst)) := by rw [HSN.out]; exact hrow7
    clear hrow7 hg7 hw7 HR6 HSr HLb HW6 HSN
    go_roundw
    case rel => exact ⟨k + 1, by omega, by go_num, HE⟩
    case measure => simp [intOf]; omega
end Go.Proofs.Ytpjgffcpjabghaa
namespace Go.Proofs.Ytpjgffcpjabghaa
open Go.RowKit Go.Maps
set_option linter.unusedSimpArgs false
set_option maxRecDepth 100000

theorem budgetOK : BudgetOK := {
  about := fun ss bs A A' s b w hs hb => about_calls18 ss bs A A' s b w hs hb
  allows := fun ss bs A A' s b w hs hb hf => allows_calls18 ss bs A A' s b w hs hb hf
  broken := fun ss A s a n cap A' V w hs hV hf => broken_calls18 ss A s a n cap A' V w hs hV hf
  order := fun ss A s a n cap A' V w hs hV => order_calls18 ss A s a n cap A' V w hs hV }
end Go.Proofs.Ytpjgffcpjabghaa
