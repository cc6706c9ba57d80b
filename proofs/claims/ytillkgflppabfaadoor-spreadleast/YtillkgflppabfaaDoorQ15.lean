/- The program's spread.Counts. Condition: the arguments lie as is said of them; the table of powers of ten is laid as the program's text lays it. -/
import Derived.Test.YtillkgflppabfaaDoorQ13
import Derived.Lib.AppendIntMem
import Derived.Lib.ItoaLen
namespace Go.Proofs.YtillkgflppabfaaDoor
open Go.RowKit Go.Maps
set_option linter.unusedSimpArgs false
set_option maxRecDepth 100000

abbrev TB9 (B : Nat) (w : World) : Prop := Lib.TabBelow Tryd.prog B w "internal/strconv.uint64pow10" .u64 Lib.pow10Tab
theorem counts_le (s : SpreadD) (N : List NodeD) (l : List PlacedD) : (countsP s N l).length ≤ N.length := by
  have h1 : (domsP s.1 N).length ≤ (valsP s.1 N).length := sortB_len _ _ _
  have h2 := vals_le s.1 N
  unfold countsP
  rw [List.length_map]
  omega
theorem itoa_dig9 (c : Nat) : Lib.itoa (c : Int) = Lib.decDigits c := by unfold Lib.itoa; rw [if_neg (by omega)]; simp
set_option maxHeartbeats 8000000 in
theorem pCts_calls (cs : List Value) (A A' A'' : Where) (s : SpreadD) (a : Option Addr) (n cap : Nat) (N : List NodeD) (b : Option Addr) (m capb : Nat) (Pl : List PlacedD) (w : World) (hs : Hid (RSpread A w cs s)) (hN : Hid (SlAt RNode 9 112 A'' w a n cap N)) (hP : Hid (SlAt RPlaced 17 320 A' w b m capb Pl)) (ht : Hid (TB9 w.heap.size w)) :
    Calls Tryd.prog 6 #[.agg cs.toArray, .slice a n cap, .slice b m capb] w fun e w' => ∃ a' cap', e = .returned (.slice a' (countsP s N Pl).length cap') ∧ SlAt RLabel 2 32 (fun _ => True) w' a' (countsP s N Pl).length cap' (countsP s N Pl) ∧ Below w.heap.size w w' := by
  obtain ⟨⟨r1, r2, r3⟩, rfl, _, sr⟩ := hs.out.out
  simp only at sr
  have hby : Hid ((countsP s N Pl).length * 32 ≤ 140737488351232) := by have h1 := counts_le s N Pl; have h2 := hN.out.1; have h3 := hN.out.2.2.2.1; rw [Hid]; omega
  have HDl : Hid (countsP s N Pl = (domsP s.1 N).map (cntL s Pl) ∧ (domsP s.1 N).length * 112 ≤ 140737488351232) := ⟨rfl, by have h1 := doms_le s.1 N; have h2 := hN.out.1; have h3 := hN.out.2.2.2.1; omega⟩
  have HCle : Hid (∀ v, cntP s v Pl ≤ 140737488351232) := fun v => by have h1 := cnt_le s v Pl; have h2 := hP.out.1; have h3 := hP.out.2.2.2.1; omega
  obtain ⟨W1, hW1⟩ : ∃ W, W = w.alloc (.cells #[.string s.1, .int .i64 s.2.1, .int .i64 s.2.2.1, .slice r1 r2 r3] 35) := ⟨_, rfl⟩
  have B1 : Below w.heap.size w W1 := by rw [hW1]; go_grown
  have qx : BoxL W1 w.heap.size [.string s.1, .int .i64 s.2.1, .int .i64 s.2.2.1, .slice r1 r2 r3] := by rw [hW1]; exact BoxL.new w 35 _
  have c0 := (qx.2 0 _ rfl).1
  have c1 := (qx.2 1 _ rfl).1
  have c2 := (qx.2 2 _ rfl).1
  have c3 := (qx.2 3 _ rfl).1
  have hC := censusOf_calls s r1 r2 r3 a n cap N b m capb 320 Pl (by decide) 11 #[] (fun _ => false) (enters_of Tryd.func11 (by kernel_rfl) rfl) W1 ((sr.weak RReq.firm (fun _ _ _ => trivial)).on RReq.firm B1) ((hN.out.weak RNode.firm (fun _ _ _ => trivial)).on RNode.firm B1) ((hP.out.weak RPlaced.firm (fun _ _ _ => trivial)).on RPlaced.firm B1) (nobody_calls W1)
  rw [left_none] at hC
  have HB : Hid (Below w.heap.size w W1) := B1
  have HTb : Hid (∀ u, Below w.heap.size w u → TB9 w.heap.size u) := fun u hb => Lib.TabBelow.on ht.out hb
  clear hs hN hP sr qx B1 ht
  go_enter Tryd.func6, Tryd.ntmps6
  go_upto_region 1 with fail
  rw [← hW1]
  clear hW1
  go_wp2_with fail
  refine hC.mono ?_
  rintro e w2 ⟨m1, m2, rfl, hcen, hb2⟩
  clear hC c0 c1 c2 c3
  obtain ⟨V0, hV0⟩ : ∃ V, V = w2.alloc (.cells #[.string ⟨#[]⟩, .int .i64 0, .int .i64 0, .slice none 0 0, .map none, .map none] 53) := ⟨_, rfl⟩
  have qv0 : BoxL V0 w2.heap.size Z6 := by rw [hV0]; exact BoxL.new w2 53 _
  obtain ⟨V, hV⟩ : ∃ V, V = V0.setCells w2.heap.size 0 (cenV s r1 r2 r3 m1 m2) := ⟨_, rfl⟩
  have bV : Below w2.heap.size w2 V := by rw [hV, hV0]; exact below_setCells ((Below.refl _ _).alloc (Nat.le_refl _) _) (Nat.le_refl _)
  have qV : BoxL V w2.heap.size (cenV s r1 r2 r3 m1 m2) := by rw [hV]; exact box_over8 qv0 rfl
  have HTh : Hid (V0.there w2.heap.size 0 (#[.string s.1, .int .i64 s.2.1, .int .i64 s.2.2.1, .slice r1 r2 r3, .map (some m1), .map (some m2)] : Array Value).size) := qv0.there
  have HWV : Hid (V = V0.setCells w2.heap.size 0 (#[.string s.1, .int .i64 s.2.1, .int .i64 s.2.2.1, .slice r1 r2 r3, .map (some m1), .map (some m2)] : Array Value).toList) := by rw [Hid, hV]
  have HV0 : Hid (V0 = w2.alloc (.cells #[.string ⟨#[]⟩, .int .i64 0, .int .i64 0, .slice none 0 0, .map none, .map none] 53)) := hV0
  have hsz6 : (Tryd.prog.info? 53).map (·.size) = some (#[.string s.1, .int .i64 s.2.1, .int .i64 s.2.2.1, .slice r1 r2 r3, .map (some m1), .map (some m2)] : Array Value).size := sizeCe
  have HOc : Hid ((#[.string s.1, .int .i64 s.2.1, .int .i64 s.2.2.1, .slice r1 r2 r3, .map (some m1), .map (some m2)] : Array Value).all (·.oneCell') = true) := by rw [Hid]; simp [Value.oneCell']
  obtain ⟨c0, c1, c2, c3, c4, c5⟩ := AdS.of qV
  have hD := domains_calls s r1 r2 r3 m1 m2 N Pl V (hcen.on bV)
  have hbl : (domsP s.1 N).length * 16 ≤ 140737488351232 := hcen.l
  have BwV : Below w.heap.size w V := on2 (on2 HB.out hb2) bV
  have HU : Hid (∀ u, Below V.heap.size V u → u.cell? ⟨w2.heap.size, 5, none⟩ = some (.map (some m2)) ∧ Below w.heap.size w u ∧ ∀ v : ByteArray, v.size ≤ 140737488355328 → (Instr.lookup 51 (.map (some m2)) (.string v) false).run Tryd.prog u = .ok (.int .i64 ((cntP s v Pl : Nat) : Int)) u) := fun u hb => by
    obtain ⟨q, k, h3, _⟩ := hcen.p
    exact ⟨((qV.on hb).2 5 _ rfl).1, on2 BwV hb, fun v hv => (h3.on (on2 bV hb)).look 51 Tryd.underlying51 hv⟩
  clear hcen hb2 qv0 qV bV hV hV0 HB BwV
  go_upto_region 3 with (first | (refine wpl_w8 HV0.out ?_; refine wpList_store_mid rfl 53 _ _ rfl w2.heap.size 0 #[.string s.1, .int .i64 s.2.1, .int .i64 s.2.2.1, .slice r1 r2 r3, .map (some m1), .map (some m2)] rfl rfl HTh.out hsz6 HOc.out ?_; refine wpl_w8 HWV.out ?_) | fail)
  clear HTh HWV HV0 HOc hsz6
  go_wp2_with fail
  refine hD.mono ?_
  rintro e w3 ⟨v, rfl, hr⟩
  obtain ⟨a3, cap3, rfl, sv⟩ := hr.slT (bytes := 16) RStr.firm hbl
  have B3 : Below V.heap.size V w3 := hr.below
  clear hD hr c0 c1 c2 c3 c4 c5
  obtain ⟨D, hD⟩ : ∃ D, D = domsP s.1 N := ⟨_, rfl⟩
  rw [← hD] at sv hbl HDl ⊢
  clear hD
  generalize hn : D.length = dl at sv hbl HDl
  have HN : Hid (D.length = dl) := hn
  clear hn
  have hlen : dl ≤ 9223372036854775807 := by omega
  have HR0 : Hid (Row RLabel 2 (fun _ => False) w3 w3 59 (.slice none 0 0) ((D.take 0).map (cntL s Pl))) := Row.nil (fun _ => False) w3 59
  have HS : Hid (∀ u, Below w3.heap.size w3 u → SlAt RStr 1 16 (fun _ => True) u a3 dl cap3 D ∧ u.cell? ⟨w2.heap.size, 5, none⟩ = some (.map (some m2)) ∧ Below w.heap.size w u ∧ ∀ v : ByteArray, v.size ≤ 140737488355328 → (Instr.lookup 51 (.map (some m2)) (.string v) false).run Tryd.prog u = .ok (.int .i64 ((cntP s v Pl : Nat) : Int)) u) := fun u hb => ⟨sv.on RStr.firm hb, HU.out u (on2 B3 hb)⟩
  clear sv B3 HU
  go_wp2_with fail
  go_loopw [8, 18] (fun t i wr => ∃ k : Nat, k ≤ dl ∧ i = .int .i64 k ∧ Hid (Row RLabel 2 (fun _ => False) w3 wr 59 t ((D.take k).map (cntL s Pl)))) (fun _ i _ => dl - (intOf i).toNat)
  case atStart => exact ⟨0, Nat.zero_le _, rfl, HR0⟩
  case round =>
    obtain ⟨k, hk, rfl, hrow⟩ := hrel
    by_cases hlt : k < dl
    · have hltz : (k : Int) < (dl : Int) := by omega
      have hkl : k < D.length := by rw [HN.out]; exact hlt
      obtain ⟨sv, c5, hbw, hlk⟩ := HS.out wr hrow.out.below
      obtain ⟨B, off, rfl, hB, _, xs, hr, hv⟩ := sv.get hlt
      obtain ⟨rfl, hsz⟩ := hr
      have d0 := hv 0 _ rfl
      rw [Nat.mul_one, Nat.add_zero] at d0
      have hlk' := hlk _ hsz
      have HT : Hid ((D.take k).map (cntL s Pl) ++ [cntL s Pl (D.getD k default)] = (D.take (k + 1)).map (cntL s Pl)) := map_take9 _ hkl
      have HLk : Hid (((D.take k).map (cntL s Pl)).length = k) := by rw [Hid, List.length_map, List.length_take]; omega
      have hcl := HCle.out (D.getD k default)
      have hIt := Tryd.strconv_Itoa ((cntP s (D.getD k default) Pl : Nat) : Int) (by omega) (by omega) wr (HTb.out wr hbw).here
      have hil := Lib.itoa_length_le ((cntP s (D.getD k default) Pl : Nat) : Int) (by omega) (by omega)
      have HTa : Hid (cntL s Pl (D.getD k default) = (D.getD k default, ⟨(Lib.itoa ((cntP s (D.getD k default) Pl : Nat) : Int)).toArray⟩)) := by rw [Hid, itoa_dig9]; rfl
      rw [HTa.out] at HT
      clear sv hlk hv HTa
      generalize D.getD k default = dv at d0 hlk' HT hsz hIt hil
      generalize ((cntP s dv Pl : Nat) : Int) = c at hlk' HT hIt hil
      have hdg : (⟨(Lib.itoa c).toArray⟩ : ByteArray).size ≤ 140737488355328 := by
        have : (⟨(Lib.itoa c).toArray⟩ : ByteArray).size = (Lib.itoa c).length := by simp [ByteArray.size]
        omega
      generalize (⟨(Lib.itoa c).toArray⟩ : ByteArray) = dg at HT hIt hdg
      go_wp2_with fail
      refine hIt.mono ?_
      rintro e w4 ⟨rfl, kk, os, h4⟩
      have b4 : Below wr.heap.size wr w4 := by rw [h4]; exact Lib.below_grow _ _ (Nat.le_refl _) _ _
      have hrow4 := hrow.out.on RLabel.firm b4
      clear h4 hIt hlk' d0 c5 hrow hbw b4 hil
      have hb5 : Below w4.heap.size w4 (w4.alloc (.cells #[.string dv, .string dg] 59)) := (Below.refl _ _).alloc (Nat.le_refl _) _
      have HR5 : Hid (Row RLabel 2 (fun _ => False) w3 (w4.alloc (.cells #[.string dv, .string dg] 59)) 59 u8 ((D.take k).map (cntL s Pl))) := hrow4.on RLabel.firm hb5
      have HE : RLabel (fun b => False ∧ Value.ownBlock u8 ≠ some b) (w4.alloc (.cells #[.string dv, .string dg] 59)) [.string dv, .string dg] (dv, dg) := RLabel.mk (x := (dv, dg)) hsz hdg
      have H1 : Hid (∀ y ∈ [Value.string dv, .string dg], y.oneCell' = true) := RLabel.firm.one HE
      have HCh : Hid (Chunks RLabel 2 (fun b => False ∧ Value.ownBlock u8 ≠ some b) (w4.alloc (.cells #[.string dv, .string dg] 59)) [.string dv, .string dg] [(dv, dg)]) := chunk_one RLabel.firm HE
      have HX : Hid (∀ j y, [Value.string dv, .string dg][j]? = some y → (w4.alloc (.cells #[.string dv, .string dg] 59)).cell? ((⟨w4.heap.size, 0, none⟩ : Addr).add j) = some y) := one_cells w4 _ 59
      have HLb2 : Hid ((((D.take k).map (cntL s Pl)).length + [(dv, dg)].length) * 32 ≤ 140737488355328) := by
        have h2 := HDl.out.2
        rw [Hid, HLk.out, List.length_singleton]; omega
      clear HE hb5 hrow4 HLk
      generalize (D.take k).map (cntL s Pl) = Pre at HT HR5 HLb2
      go_wp2_with (at_builtin; go_must (refine row_append RLabel.firm (A := (fun _ => False)) (w0 := w3) rfl _ _ 22 59 rfl _ 32 infoL9 Tryd.underlying22 rfl (by decide) (by decide) u8 Pre rfl HR5.out ⟨w4.heap.size, 0, none⟩ 1 1 _ [(dv, dg)] rfl rfl HCh.out HX.out H1.out HLb2.out ?_); intro v5 w5 hrow5 hg5)
      have HNx : Hid (Row RLabel 2 (fun _ => False) w3 w5 59 v5 ((D.take (k + 1)).map (cntL s Pl))) := by rw [Hid, ← HT.out]; exact hrow5
      clear hrow5 hg5 HT HR5 HCh HX H1
      go_roundw
      case rel => exact ⟨k + 1, by omega, by go_num, HNx⟩
      case measure => simp [intOf]; omega
    · have hk' : D.take k = D := List.take_of_length_le (by rw [HN.out]; omega)
      rw [hk', ← HDl.out.1] at hrow
      obtain ⟨a', cap', rfl, sv⟩ := hrow.out.slT (bytes := 32) RLabel.firm hby.out
      have HF : Hid (SlAt RLabel 2 32 (fun _ => True) wr a' (countsP s N Pl).length cap' (countsP s N Pl) ∧ Below w.heap.size w wr) := ⟨sv, (HS.out wr hrow.out.below).2.2.1⟩
      clear hrow sv hk'
      go_wp2_with fail
      go_ret
      exact ⟨a', cap', rfl, HF.out⟩
end Go.Proofs.YtillkgflppabfaaDoor
