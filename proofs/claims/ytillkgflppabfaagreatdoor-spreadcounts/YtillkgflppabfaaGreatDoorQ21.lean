/- The document's own Itoa returns the digits, and changes nothing that was there. Condition: an amount. The document's Counts of layer 9. Condition: the arguments lie as is said of them. The program's spread: Skew and Check. Condition: the arguments lie as is said of them. The law's zone of layer 9; two things one behind the other. Condition: the text is no longer than Go lets it. -/
import Derived.Test.YtillkgflppabfaaGreatDoorQ20
import Derived.Lib.ItoaLen
import Derived.Lib.AppendIntMem
import Derived.Test.YtillkgflppabfaaGreatDoorQ17
import Derived.Test.YtillkgflppabfaaGreatDoorQ14
namespace Go.Proofs.YtillkgflppabfaaGreatDoor
open Go.RowKit
set_option maxRecDepth 100000

theorem ret_str {a b : ByteArray} (h : a = b) : Ending.returned (.string a) = .returned (.string b) := by rw [h]
theorem itoa_nat {n : Int} (h : 0 ≤ n) : Lib.itoa n = Lib.decDigits n.toNat := by unfold Lib.itoa; rw [if_neg (by omega)]
def decZ (m : Nat) : List UInt8 := if m = 0 then [] else Lib.decDigits m
theorem decZ_zero : decZ 0 = [] := rfl
theorem decDigits_step (u : Nat) (h : ¬ u < 10) : Lib.decDigits u = Lib.decDigits (u / 10) ++ [UInt8.ofNat (48 + u % 10)] := by
  rw [Lib.decDigits, dif_neg h]
theorem decZ_step (m : Nat) (h : m ≠ 0) : decZ m = decZ (m / 10) ++ [UInt8.ofNat (48 + m % 10)] := by
  unfold decZ
  rw [if_neg h]
  by_cases h10 : m < 10
  · rw [if_pos (by omega), Lib.decDigits_one h10, Nat.mod_eq_of_lt h10]
    rfl
  · rw [if_neg (by omega), decDigits_step m h10]

theorem bytes_cons (c : UInt8) (l : List UInt8) : ({ data := #[c] } ++ { data := l.toArray } : ByteArray) = { data := (c :: l).toArray } := by
  apply ByteArray.ext
  simp
theorem dig_int (m : Nat) : 48 + (m : Int) % 10 = ((UInt8.ofNat (48 + m % 10)).toNat : Int) := by
  rw [UInt8.toNat_ofNat']
  omega

theorem conv_one (w : World) (v : Int) (c : UInt8) (hv : v = (c.toNat : Int)) :
    Sem.run Tryz.prog (convert 86 9 (Value.slice (some { block := w.heap.size, off := 0 }) 1 1)) (w.alloc (Obj.cells #[Value.int IntKind.u8 v] 5)) =
      .ok (.string ⟨#[c]⟩) (w.alloc (Obj.cells #[Value.int IntKind.u8 v] 5)) := by
  refine run_convert_bytes_back _ 86 9 5 ⟨w.heap.size, 0, none⟩ 1 [c] Tryz.underlying86 Tryz.underlying5 Tryz.underlying9 ?_
  intro j hj
  obtain rfl : j = 0 := by simpa using hj
  show (w.alloc _).cell? ⟨w.heap.size, 0, none⟩ = _
  rw [World.cell?_alloc_new, hv]
  rfl

set_option maxHeartbeats 1000000 in
theorem itoa_calls (n : Int) (w : World) (h0 : 0 < n) (h1 : n ≤ 1125899906842624) : Calls Tryz.prog 21 #[.int .i64 n] w fun e w' => e = .returned (.string ⟨(Lib.decDigits n.toNat).toArray⟩) ∧ Below w.heap.size w w' := by
  have e0 : (n == 0) = false := by rw [beq_eq_false_iff_ne]; omega
  have e1 : decide (n < 0) = false := by simp; omega
  have HL : Hid ((Lib.decDigits n.toNat).length ≤ 21) := by
    have h := Lib.itoa_length_le n (by omega) (by omega)
    rw [itoa_nat (by omega)] at h
    exact h
  go_enter Tryz.func21, Tryz.ntmps21
  go_wp2
  go_loopw [0, 3] (fun v s wr => ∃ (m : Nat) (l : List UInt8), v = .int .i64 m ∧ s = .string ⟨l.toArray⟩ ∧ m ≤ 1125899906842624 ∧ Hid (decZ m ++ l = Lib.decDigits n.toNat) ∧ l.length ≤ 21 ∧ Below w.heap.size w wr) (fun v _ _ => (intOf v).toNat)
  case atStart =>
    refine ⟨n.toNat, [], ?_, rfl, by omega, ?_, by simp, Below.refl _ _⟩
    · rw [Int.toNat_of_nonneg (by omega)]
    · unfold Hid decZ
      rw [if_neg (by omega), List.append_nil]
  case round =>
    obtain ⟨m, l, rfl, rfl, hm, hdec, hl, hbel⟩ := hrel
    by_cases hz : m = 0
    · subst hz
      have HD : Hid (l = Lib.decDigits n.toNat) := hdec
      go_wp2
      go_ret
      exact ⟨ret_str (by rw [HD.out]), hbel⟩
    · have z0 : ((m : Int) != 0) = true := by rw [bne_iff_ne]; omega
      obtain ⟨c, Hc, hci⟩ : ∃ c : UInt8, Hid (c = UInt8.ofNat (48 + m % 10)) ∧ 48 + (m : Int) % 10 = (c.toNat : Int) := ⟨_, rfl, dig_int m⟩
      have hc := conv_one wr (48 + (m : Int) % 10) c hci
      clear hci
      have HS : Hid (decZ (m / 10) ++ (c :: l) = Lib.decDigits n.toNat) := by
        have h := hdec.out
        rw [decZ_step m hz, ← Hc.out, List.append_assoc] at h
        exact h
      have hl' : (c :: l).length ≤ 21 := by
        have h := congrArg List.length HS.out
        rw [List.length_append] at h
        have := HL.out
        omega
      go_wp2
      exact ⟨⟨m / 10, c :: l, by go_num, congrArg Value.string (bytes_cons c l), by omega, HS, hl', hbel.alloc hbel.size _⟩, by simp [intOf]; omega⟩

theorem itoa_zero (w : World) : Calls Tryz.prog 21 #[.int .i64 0] w fun e w' => e = .returned (.string ⟨(Lib.decDigits 0).toArray⟩) ∧ w' = w := by
  have HD : Hid (Lib.decDigits 0 = [48]) := Lib.decDigits_one (by omega)
  go_enter Tryz.func21, Tryz.ntmps21
  go_wp2
  go_ret
  exact ⟨ret_str (by rw [HD.out]), rfl⟩
theorem ritoa_calls (n : Int) (w : World) (h0 : 0 ≤ n) (h1 : n ≤ 1125899906842624) : Calls Tryz.prog 21 #[.int .i64 n] w fun e w' => e = .returned (.string ⟨(Lib.decDigits n.toNat).toArray⟩) ∧ Below w.heap.size w w' := by
  by_cases h : n = 0
  · subst h
    exact (itoa_zero w).mono fun e w' ⟨he, hw⟩ => ⟨he, by rw [hw]; exact Below.refl _ _⟩
  · exact itoa_calls n w (by omega) h1

theorem decDigits_le (n : Int) (h0 : 0 ≤ n) (h1 : n ≤ 1125899906842624) : (Lib.decDigits n.toNat).length ≤ 21 := by
  have h := Lib.itoa_length_le n (by omega) (by omega)
  rwa [itoa_nat h0] at h
/-- Any number's text, and that it is short. -/
theorem itoa_any (n : Nat) (w : World) (h1 : n ≤ 1048576) : Calls Tryz.prog 21 #[.int .i64 (n : Int)] w fun e w' => ∃ s : ByteArray, e = .returned (.string s) ∧ s.size ≤ 21 ∧ Below w.heap.size w w' := by
  refine (ritoa_calls (n : Int) w (by omega) (by omega)).mono ?_
  rintro e w' ⟨rfl, hb⟩
  refine ⟨_, rfl, ?_, hb⟩
  have := decDigits_le (n : Int) (by omega) (by omega)
  simpa [ByteArray.size] using this
end Go.Proofs.YtillkgflppabfaaGreatDoor
namespace Go.Proofs.YtillkgflppabfaaGreatDoor
open Go.RowKit
set_option linter.unusedSimpArgs false
set_option maxRecDepth 100000

/-- A domain, with the digits of its count. -/
def cntL (s : SpreadD) (l : List PlacedD) (v : ByteArray) : Lab := (v, ⟨(Lib.decDigits (cntP s v l)).toArray⟩)
def countsP (s : SpreadD) (N : List NodeD) (l : List PlacedD) : List Lab := (domsP s.1 N).map (cntL s l)
theorem map_take9 {α β : Type} [Inhabited α] (f : α → β) {L : List α} {k : Nat} (h : k < L.length) : (L.take k).map f ++ [f (L.getD k default)] = (L.take (k + 1)).map f := by
  rw [← take_at9 h, List.map_append]
  rfl
theorem infoL9 : (Tryz.prog.info? 55).map (fun i => (i.zero, i.size, i.bytes)) = some (some (.agg #[.string ⟨#[]⟩, .string ⟨#[]⟩]), 2, 32) := by kernel_rfl
set_option maxHeartbeats 8000000 in
theorem rCts_calls (cs : List Value) (A A' A'' : Where) (s : SpreadD) (a : Option Addr) (n cap : Nat) (N : List NodeD) (b : Option Addr) (m capb : Nat) (Pl : List PlacedD) (w : World) (hs : Hid (RSpread A w cs s)) (hN : Hid (SlAt RNode 9 112 A'' w a n cap N)) (hP : Hid (SlAt RPlaced 17 320 A' w b m capb Pl)) :
    Calls Tryz.prog 8 #[.agg cs.toArray, .slice a n cap, .slice b m capb] w fun e w' => ∃ v, e = .returned v ∧ Row RLabel 2 (fun _ => False) w w' 55 v (countsP s N Pl) := by
  have hls : cs.length = 4 := RSpread.firm.len hs.out
  have hi4 : (Tryz.prog.info? 24).map (·.size) = some cs.length := by rw [hls]; exact sizeSp
  have hmb : Hid (Pl.length ≤ 140737488351232) := by rw [Hid, hP.out.1]; exact hP.out.len (by decide)
  have hk0 : cs[0]? = some (.string s.1) := by obtain ⟨_, rfl, _⟩ := hs.out.out; rfl
  have hnb : Hid (n * 112 ≤ 140737488351232 ∧ N.length = n) := ⟨hN.out.2.2.2.1, hN.out.1⟩
  obtain ⟨W1, hW1⟩ : ∃ W, W = w.alloc (.cells cs.toArray 24) := ⟨_, rfl⟩
  have B1 : Below w.heap.size w W1 := by rw [hW1]; go_grown
  have qx : BoxL W1 w.heap.size cs := by rw [hW1]; exact BoxL.new w 24 _
  have HU : Hid (∀ u, Below W1.heap.size W1 u → BoxL u w.heap.size cs ∧ RSpread A u cs s ∧ SlAt RNode 9 112 A'' u a n cap N ∧ SlAt RPlaced 17 320 A' u b m capb Pl ∧ Below w.heap.size w u) := fun u hb => ⟨qx.on hb, RSpread.firm.kept hs.out (Kept.below (on2 B1 hb)), hN.out.on RNode.firm (on2 B1 hb), hP.out.on RPlaced.firm (on2 B1 hb), on2 B1 hb⟩
  have hsz1 : Hid (W1.heap.size = w.heap.size + 1) := by rw [Hid, hW1]; simp
  have hlz1 : Hid (w.heap.size < W1.heap.size) := qx.1
  have HB1 : Hid (Below w.heap.size w W1) := B1
  obtain ⟨W2, hW2⟩ : ∃ W, W = W1.alloc (.cells #[] 55) := ⟨_, rfl⟩
  have B2 : Below W1.heap.size W1 W2 := by rw [hW2]; exact (Below.refl _ _).alloc (Nat.le_refl _) _
  have HR0 : Hid (Row RLabel 2 (fun _ => False) W1 W2 55 (.slice (some ⟨W1.heap.size, 0, none⟩) 0 0) ([] : List Lab)) := by rw [Hid, hW2]; exact Row.start _ W1 W1 _ (Below.refl _ _)
  have hs2 : Hid (W2.heap.size = W1.heap.size + 1) := by rw [Hid, hW2]; simp
  have y0 := (((HU.out W2 B2).1).2 0 _ hk0).1
  have HDm := rDom_calls s.1 a n cap _ N W2 (HU.out W2 B2).2.2.1
  have HB2 : Hid (Below W1.heap.size W1 W2) := B2
  clear hs hN hP qx B1 B2 hls hk0
  go_enter Tryz.func8, Tryz.ntmps8
  go_upto_region 1 with fail
  rw [← hW1]
  clear hW1
  go_upto_region 2 with fail
  rw [← hW2]
  clear hW2
  go_wp2_with fail
  refine HDm.mono ?_
  clear HDm y0
  rintro e w3 ⟨a', cap', rfl, sd, b3⟩
  have hDl : Hid ((domsP s.1 N).length * 112 ≤ 140737488351232) := by have h1 : (domsP s.1 N).length ≤ (valsP s.1 N).length := sortB_len _ _ _; have h2 := vals_le s.1 N; have h3 := hnb.out; rw [Hid]; omega
  have hlenD := sd.len (by decide)
  obtain ⟨D, hD⟩ : ∃ D, D = domsP s.1 N := ⟨_, rfl⟩
  have HDd : Hid (countsP s N Pl = D.map (cntL s Pl)) := by rw [Hid, hD]; rfl
  rw [← hD] at sd hDl hlenD ⊢
  clear hD
  have H3 : Hid (Row RLabel 2 (fun _ => False) W1 w3 55 (.slice (some ⟨W1.heap.size, 0, none⟩) 0 0) ((D.take 0).map (cntL s Pl)) ∧ SlAt RStr 1 16 (fun b => (Value.slice (some ⟨W1.heap.size, 0, none⟩) 0 0).ownBlock ≠ some b) w3 a' D.length cap' D) := ⟨HR0.out.on RLabel.firm b3, sd.weak RStr.firm (fun b _ hb e => by simp only [Value.ownBlock, Option.some.injEq] at e; have h1 : W2.heap.size ≤ b := hb; have h2 := hs2.out; omega)⟩
  clear sd b3 HR0
  generalize hdl : D.length = dl at H3 hDl hlenD ⊢
  have HdL : Hid (D.length = dl) := hdl
  clear hdl
  go_wp2_with fail
  go_loopw [7, 9] (fun v i wr => ∃ k : Nat, k ≤ dl ∧ i = .int .i64 k ∧ Hid (Row RLabel 2 (fun _ => False) W1 wr 55 v ((D.take k).map (cntL s Pl)) ∧ SlAt RStr 1 16 (fun b => v.ownBlock ≠ some b) wr a' dl cap' D)) (fun _ i _ => dl - (intOf i).toNat)
  case atStart => exact ⟨0, Nat.zero_le _, rfl, H3⟩
  case round =>
    obtain ⟨k, hk, rfl, hst⟩ := hrel
    by_cases hlt : k < dl
    · have hltz : (k : Int) < (dl : Int) := by omega
      have hkl : k < D.length := by rw [HdL.out]; exact hlt
      obtain ⟨hrow, hsl⟩ := hst.out
      have hbw : Below W1.heap.size W1 wr := hrow.below
      have hsl0 := hsl
      obtain ⟨B, off, rfl, hB, hAB, xs, hr, hv⟩ := hsl.get hlt
      obtain ⟨rfl, hdz⟩ := hr
      have dB := hv 0 _ rfl
      rw [Nat.add_zero, Nat.mul_one] at dB
      have HT : Hid ((D.take k).map (cntL s Pl) ++ [cntL s Pl (D.getD k default)] = (D.take (k + 1)).map (cntL s Pl)) := map_take9 _ hkl
      have hcl := cnt_le s (D.getD k default) Pl
      have hmb2 := hmb.out
      have hlk : ((D.take k).map (cntL s Pl)).length = k := by rw [List.length_map, List.length_take, HdL.out]; omega
      generalize D.getD k default = dv at HT hcl dB hdz
      have hCL : Hid (cntL s Pl dv = (dv, ⟨(Lib.decDigits (cntP s dv Pl)).toArray⟩)) := rfl
      have d0 : Below wr.heap.size wr wr.drew := (Below.refl _ _).drew
      have HCt := rCnt_calls cs _ _ s dv b m capb Pl wr.drew (HU.out _ (on2 hbw d0)).2.1 (HU.out _ (on2 hbw d0)).2.2.2.1
      have HS : Hid (∀ u, Below wr.heap.size wr u → BoxL u w.heap.size cs ∧ u.cell? ⟨B, off + k, none⟩ = some (.string dv)) := fun u hb => ⟨(HU.out _ (on2 hbw hb)).1, (hb.cell (p := ⟨B, _, none⟩) hB).trans dB⟩
      clear hst hv hsl
      go_upto_region 6 with fail
      refine t0 (fun u => BoxL u w.heap.size cs ∧ u.cell? ⟨B, off + k, none⟩ = some (.string dv)) (HS.out _ d0) (fun hHeld => ?_)
      refine' tk 0 ?_ ?_; rotate_left
      · intro u ⟨_, _⟩; go_simp; try with_reducible rfl
      try go_frame
      refine' tk 1 ?_ ?_; rotate_left
      · intro u ⟨_, _⟩; go_simp; try with_reducible rfl
      try go_frame
      refine' tk 2 ?_ ?_; rotate_left
      · intro u ⟨_, _⟩; go_simp; try with_reducible rfl
      try go_frame
      refine' tk 3 ?_ ?_; rotate_left
      · intro u ⟨_, _⟩; go_simp; try with_reducible rfl
      try go_frame
      refine' tk 4 ?_ ?_; rotate_left
      · intro u ⟨_, _⟩; go_simp; try with_reducible rfl
      try go_frame
      refine' tq 5 (.agg cs.toArray) ?_ ?_
      · exact yieldsIf_load_mid rfl 24 _ rfl w.heap.size 0 rfl cs _ (fun u hu => hu.1.range) Tryz.underlying24 rfl hi4
      try go_frame
      refine' tk 6 ?_ ?_; rotate_left
      · intro u ⟨_, _⟩; go_simp; try with_reducible rfl
      try go_frame
      refine' tk 7 ?_ ?_; rotate_left
      · intro u ⟨_, _⟩; go_simp; try with_reducible rfl
      try go_frame
      refine' tk 8 ?_ ?_; rotate_left
      · intro u ⟨_, _⟩; go_simp; try with_reducible rfl
      try go_frame
      refine' tk 9 ?_ ?_; rotate_left
      · intro u ⟨_, _⟩; go_simp; try with_reducible rfl
      try go_frame
      refine' tk 10 ?_ ?_; rotate_left
      · intro u ⟨_, _⟩; go_simp; try with_reducible rfl
      try go_frame
      refine tr 11 (fun K hK => ?_)
      go_simp
      refine HCt.mono ?_
      rintro e u1 ⟨rfl, b1⟩
      have d1 : Below wr.heap.size wr u1 := on2 d0 b1
      go_wp2_with fail
      refine hK.out _ _ (HS.out _ d1) (fun hHeld2 => ?_)
      clear hK K hHeld HCt; have hHeld := hHeld2; clear hHeld2
      try go_frame
      have HIt := ritoa_calls ((cntP s dv Pl : Nat) : Int) u1 (by omega) (by omega)
      have hsx := decDigits_le ((cntP s dv Pl : Nat) : Int) (by omega) (by omega)
      rw [Int.toNat_natCast] at HIt hsx
      generalize hc0 : cntP s dv Pl = c0 at HIt hsx hCL
      refine tr 12 (fun K hK => ?_)
      try rw [hc0]
      go_simp
      refine HIt.mono ?_
      rintro e u2 ⟨rfl, b2⟩
      have d2 : Below wr.heap.size wr u2 := on2 d1 b2
      have htz : (⟨(Lib.decDigits c0).toArray⟩ : ByteArray).size ≤ 140737488355328 := by simp [ByteArray.size]; omega
      generalize (⟨(Lib.decDigits c0).toArray⟩ : ByteArray) = tx at hCL htz
      go_wp2_with fail
      refine hK.out _ _ (HS.out _ d2) (fun hHeld2 => ?_)
      clear hK K hHeld HIt; have hHeld := hHeld2; clear hHeld2
      try go_frame
      refine' tk 13 ?_ ?_; rotate_left
      · intro u ⟨_, _⟩; go_simp; try with_reducible rfl
      try go_frame
      obtain ⟨y2, hy2⟩ : ∃ y, y = u2.alloc (.cells #[.string dv, .string tx] 55) := ⟨_, rfl⟩
      have b3 : Below u2.heap.size u2 y2 := by rw [hy2]; exact (Below.refl _ _).alloc (Nat.le_refl _) _
      have q3 : BoxL y2 u2.heap.size [.string dv, .string tx] := by rw [hy2]; exact BoxL.new u2 55 [.string dv, .string tx]
      have d3 : Below wr.heap.size wr y2 := on2 d2 b3
      have hrow3 : Row RLabel 2 (fun _ => False) W1 y2 55 u7 ((D.take k).map (cntL s Pl)) := hrow.on RLabel.firm d3
      have HEx : RLabel (fun b => False ∧ Value.ownBlock u7 ≠ some b) y2 [.string dv, .string tx] (dv, tx) := ⟨[.string dv], [.string tx], rfl, ⟨rfl, hdz⟩, rfl, htz⟩
      have hSrc : Src RLabel 2 (fun b => False ∧ Value.ownBlock u7 ≠ some b) y2 (some ⟨u2.heap.size, 0, none⟩) 1 [(dv, tx)] := ⟨rfl, .inr ⟨_, [.string dv, .string tx], rfl, chunk_one RLabel.firm HEx, (fun j y hj => by have h1 := (q3.2 j y hj).1; rw [add_lit]; simpa using h1), RLabel.firm.one HEx⟩⟩
      refine tr 14 (fun K hK => ?_)
      go_simp
      rw [← hy2]
      refine hK.out _ _ (HS.out _ d3) (fun hHeld2 => ?_)
      clear hK K hHeld; have hHeld := hHeld2; clear hHeld2
      try go_frame
      refine tr 15 (fun K hK => ?_)
      refine row_appendP_wp RLabel.firm (A := (fun _ => False)) (w0 := W1) _ _ 30 55 rfl _ 32 infoL9 Tryz.underlying30 rfl (by decide) (by decide) u7 ((D.take k).map (cntL s Pl)) rfl hrow3 (some ⟨u2.heap.size, 0, none⟩) 1 1 [(dv, tx)] rfl hSrc (by have h1 := hDl.out; rw [hlk, List.length_singleton]; omega) ?_
      intro z4 y4 r4 gr4 hp4
      have hown : ∀ b, u7.ownBlock = some b → W1.heap.size ≤ b ∧ b < wr.heap.size := fun b e => hrow.lt e
      skip
      have hk4 : Kept (fun b => u7.ownBlock ≠ some b) y2 y4 := Kept.grown gr4 (fun b e h => h e)
      have HS4 : BoxL y4 w.heap.size cs ∧ y4.cell? ⟨B, off + k, none⟩ = some (.string dv) := ⟨(HS.out _ d3).1.kept hk4 (fun e => by have h1 := (hown _ e).1; have h2 := hlz1.out; omega), (hk4.cell (p := ⟨B, _, none⟩) hAB (Nat.lt_of_lt_of_le hB d3.size)).trans (HS.out _ d3).2⟩
      have hsl4 : SlAt RStr 1 16 (fun b => z4.ownBlock ≠ some b) y4 (some ⟨B, off, none⟩) dl cap' D := by
        have h1 : SlAt RStr 1 16 (fun b => u7.ownBlock ≠ some b ∧ b < wr.heap.size) wr (some ⟨B, off, none⟩) dl cap' D := hsl0.weak RStr.firm (fun b hb h => ⟨h, hb⟩)
        have h2 := (h1.on RStr.firm d3).kept RStr.firm (Kept.grown gr4 (fun b e h => h.1 e))
        refine h2.weak RStr.firm (fun b _ h e => ?_)
        rcases hp4 with q | q
        · exact h.1 (q ▸ e)
        · rw [q] at e; injection e with e; have h3 := h.2; have h4 := d3.size; omega
      refine hK.out _ _ HS4 (fun hHeld2 => ?_)
      clear hK K hHeld; have hHeld := hHeld2; clear hHeld2
      try go_frame
      have HN : Hid (Row RLabel 2 (fun _ => False) W1 y4 55 z4 ((D.take (k + 1)).map (cntL s Pl)) ∧ SlAt RStr 1 16 (fun b => z4.ownBlock ≠ some b) y4 (some ⟨B, off, none⟩) dl cap' D) := by refine ⟨?_, hsl4⟩; rw [← HT.out, hCL.out]; exact r4
      clear hrow hrow3 HEx hSrc hy2 b3 q3 d3 b1 b2 d1 d2 gr4 hp4 hk4 HS4 hsl4 hsl0 hown r4 HT hCL HS
      refine' tk 16 ?_ ?_; rotate_left
      · intro u ⟨_, _⟩; go_simp; try with_reducible rfl
      try go_frame
      refine tz ?_
      clear hHeld
      go_wp2_with fail
      go_roundw
      case rel => exact ⟨k + 1, by omega, by go_num, HN⟩
      case measure => simp [intOf]; omega
    · have hk' : D.take k = D := List.take_of_length_le (by rw [HdL.out]; omega)
      have h1 := hst.out.1
      rw [hk', ← HDd.out] at h1
      have h9 : Hid (Row RLabel 2 (fun _ => False) w wr 55 u7 (countsP s N Pl)) := h1.from RLabel.firm HB1.out (fun b h => h)
      clear hst h1
      go_wp2_with fail
      go_ret
      exact ⟨_, rfl, h9.out⟩
end Go.Proofs.YtillkgflppabfaaGreatDoor
namespace Go.Proofs.YtillkgflppabfaaGreatDoor
open Go.RowKit Go.Maps
set_option linter.unusedSimpArgs false
set_option maxRecDepth 100000

theorem hi_le9 (c : ByteArray → Nat) (M : Nat) (hM : ∀ d, c d ≤ M) (D : List ByteArray) : hiP c D ≤ M := by
  by_cases h : D = []
  · subst h; exact Nat.zero_le _
  · obtain ⟨_, d, _, e⟩ := hi_spec c h
    rw [e]; exact hM d
theorem cen_left {w : World} {s : SpreadD} {r1 : Option Addr} {r2 r3 m1 m2 : Nat} {N : List NodeD} {Q Q' : List PlacedD} (h : CenAt w s r1 r2 r3 m1 m2 N Q) (e : Q = Q') : CenAt w s r1 r2 r3 m1 m2 N Q' := e ▸ h
set_option maxHeartbeats 8000000 in
theorem pSkew_calls (cs : List Value) (A A' A'' : Where) (s : SpreadD) (a : Option Addr) (n cap : Nat) (N : List NodeD) (b : Option Addr) (m capb : Nat) (Pl : List PlacedD) (w : World) (hs : Hid (RSpread A w cs s)) (hN : Hid (SlAt RNode 9 112 A'' w a n cap N)) {bp : Nat} (hP : Hid (SlAt RPlaced 17 bp A' w b m capb Pl)) (hbp : 0 < bp := by decide) :
    Calls Tryz.prog 9 #[.agg cs.toArray, .slice a n cap, .slice b m capb] w fun e w' => e = .returned (.int .i64 (skewP s N Pl)) ∧ Below w.heap.size w w' := by
  obtain ⟨⟨r1, r2, r3⟩, rfl, _, sr⟩ := hs.out.out
  simp only at sr
  obtain ⟨W1, hW1⟩ : ∃ W, W = w.alloc (.cells #[.string s.1, .int .i64 s.2.1, .int .i64 s.2.2.1, .slice r1 r2 r3] 24) := ⟨_, rfl⟩
  have B1 : Below w.heap.size w W1 := by rw [hW1]; go_grown
  have qx : BoxL W1 w.heap.size [.string s.1, .int .i64 s.2.1, .int .i64 s.2.2.1, .slice r1 r2 r3] := by rw [hW1]; exact BoxL.new w 24 _
  have c0 := (qx.2 0 _ rfl).1
  have c1 := (qx.2 1 _ rfl).1
  have c2 := (qx.2 2 _ rfl).1
  have c3 := (qx.2 3 _ rfl).1
  have hC := censusOf_calls s r1 r2 r3 a n cap N b m capb bp Pl hbp 17 #[] (fun _ => false) (enters_of Tryz.func17 (by kernel_rfl) rfl) W1 ((sr.weak RReq.firm (fun _ _ _ => trivial)).on RReq.firm B1) ((hN.out.weak RNode.firm (fun _ _ _ => trivial)).on RNode.firm B1) ((hP.out.weak RPlaced.firm (fun _ _ _ => trivial)).on RPlaced.firm B1) (nobody_calls W1)
  rw [left_none] at hC
  have HB : Hid (Below w.heap.size w W1) := B1
  have HCle : Hid (∀ v, cntP s v Pl ≤ 140737488351232) := fun v => by have h1 := cnt_le s v Pl; have h2 := hP.out.1; have h3 := hP.out.2.2.2.1; have h4 := Nat.le_mul_of_pos_right m hbp; omega
  have HK : Hid (skewP s N Pl = (hiP (fun v => cntP s v Pl) (domsP s.1 N) : Int) - (loP (fun v => cntP s v Pl) (domsP s.1 N) : Int)) := rfl
  clear hs hN hP sr qx B1
  generalize skewP s N Pl = ans at HK
  go_enter Tryz.func9, Tryz.ntmps9
  go_upto_region 1 with fail
  rw [← hW1]
  clear hW1
  go_wp2_with fail
  refine hC.mono ?_
  rintro e w2 ⟨m1, m2, rfl, hcen, hb2⟩
  have hCt := counts_calls s r1 r2 r3 m1 m2 N Pl w2 hcen
  have hbl : (cntsL s N Pl).length * 8 ≤ 140737488351232 := by have := hcen.l; unfold cntsL; rw [List.length_map]; omega
  have HB2 : Hid (Below w.heap.size w w2) := on2 HB.out hb2
  clear hC HB hb2 hcen c0 c1 c2 c3
  go_wp2_with fail
  refine hCt.mono ?_
  rintro e w3 ⟨v, rfl, hr⟩
  obtain ⟨a3, cap3, rfl, sv⟩ := hr.slT (bytes := 8) RInt.firm hbl
  have HB3 : Hid (Below w.heap.size w w3) := on2 HB2.out hr.below
  have HMx : Hid (0 < (cntsL s N Pl).length → Calls Tryz.prog 24 #[.slice a3 (cntsL s N Pl).length cap3] w3 fun e w' => e = .returned (.int .i64 (Lib.maxOf (cntsL s N Pl))) ∧ w' = w3) := fun hp => Max_sl sv hp
  have HMn : Hid (0 < (cntsL s N Pl).length → Calls Tryz.prog 25 #[.slice a3 (cntsL s N Pl).length cap3] w3 fun e w' => e = .returned (.int .i64 (Lib.minOf (cntsL s N Pl))) ∧ w' = w3) := fun hp => Min_sl sv hp
  have hlen : (cntsL s N Pl).length ≤ 9223372036854775807 := by omega
  have H0 : Hid ((cntsL s N Pl).length = 0 → ans = 0) := fun hz => by
    unfold cntsL at hz
    rw [List.length_map] at hz
    rw [HK.out, List.length_eq_zero_iff.1 hz]
    rfl
  have HP : Hid (0 < (cntsL s N Pl).length → ans = Lib.maxOf (cntsL s N Pl) - Lib.minOf (cntsL s N Pl) ∧ 0 ≤ Lib.maxOf (cntsL s N Pl) ∧ Lib.maxOf (cntsL s N Pl) ≤ 140737488351232 ∧ 0 ≤ Lib.minOf (cntsL s N Pl) ∧ Lib.minOf (cntsL s N Pl) ≤ 140737488351232) := fun hp => by
    unfold cntsL at hp ⊢
    rw [List.length_map] at hp
    rw [maxOf9 (fun v => cntP s v Pl) hp, minOf9 (fun v => cntP s v Pl) hp]
    have h1 := hi_le9 (fun v => cntP s v Pl) 140737488351232 HCle.out (domsP s.1 N)
    have h2 := lo_le9 (fun v => cntP s v Pl) 140737488351232 HCle.out (domsP s.1 N)
    exact ⟨HK.out, by omega, by omega, by omega, by omega⟩
  clear hCt hr sv hbl HB2 HCle HK
  generalize Lib.maxOf (cntsL s N Pl) = mx at HMx HP
  generalize Lib.minOf (cntsL s N Pl) = mn at HMn HP
  generalize (cntsL s N Pl).length = l at *
  by_cases hz : l = 0
  · subst hz
    have hans := H0.out rfl
    clear H0 HP HMx HMn
    subst hans
    go_wp2_with fail
    go_ret
    exact ⟨rfl, HB3.out⟩
  · have hzb : ((l : Int) == 0) = false := by simp [hz]
    obtain ⟨hans, hp1, hp2, hp3, hp4⟩ := HP.out (by omega)
    have hx := HMx.out (by omega)
    have hn := HMn.out (by omega)
    have HA : Hid (ans = mx - mn) := hans
    clear H0 HP HMx HMn hans
    go_wp2_with fail
    refine hx.mono ?_
    rintro e w4 ⟨rfl, rfl⟩
    go_wp2_with fail
    refine hn.mono ?_
    rintro e w5 ⟨rfl, rfl⟩
    go_wp2_with fail
    go_ret
    exact ⟨by rw [HA.out]; rfl, HB3.out⟩
def PcS (D P : Nat) (s : SpreadD) (r1 : Option Addr) (r2 r3 : Nat) (cs : List Value) (u : World) : Prop :=
  (u.cell? ⟨D, 0, none⟩ = some (.string s.1) ∧ u.cell? ⟨D, 1, none⟩ = some (.int .i64 s.2.1) ∧ u.cell? ⟨D, 2, none⟩ = some (.int .i64 s.2.2.1) ∧ u.cell? ⟨D, 3, none⟩ = some (.slice r1 r2 r3)) ∧ Hid (u.rangeAt P 0 cs)
theorem PcS.of {D P : Nat} {s : SpreadD} {r1 : Option Addr} {r2 r3 : Nat} {cs : List Value} {u : World} (h : BoxL u D [.string s.1, .int .i64 s.2.1, .int .i64 s.2.2.1, .slice r1 r2 r3]) (k : BoxL u P cs) : PcS D P s r1 r2 r3 cs u :=
  ⟨⟨(h.2 0 _ rfl).1, (h.2 1 _ rfl).1, (h.2 2 _ rfl).1, (h.2 3 _ rfl).1⟩, k.range⟩
set_option maxHeartbeats 16000000 in
theorem pChk_calls (cs : List Value) (p : PodD) (la : Option Addr) (ln lc : Nat) (Lb : List Lab) (a : Option Addr) (n cap : Nat) (N : List NodeD) (b : Option Addr) (m capb : Nat) (Pl : List PlacedD) (w : World) (hp : Hid (RPod (fun _ => True) w cs p)) (hL : Hid (SlAt RLabel 2 32 (fun _ => True) w la ln lc Lb)) (hN : Hid (SlAt RNode 9 112 (fun _ => True) w a n cap N)) (hP : Hid (SlAt RPlaced 17 320 (fun _ => True) w b m capb Pl)) :
    Calls Tryz.prog 30 #[.agg cs.toArray, .slice la ln lc, .slice a n cap, .slice b m capb] w fun e w' => e = .returned (.int .i64 (spreadP 12 p Lb N Pl)) ∧ Below w.heap.size w w' := by
  have hi16 : (Tryz.prog.info? 49).map (·.size) = some cs.length := by rw [RPod.firm.len hp.out]; exact sizePo9
  obtain ⟨⟨h1, h2, h3⟩, e12, ssp⟩ : ∃ h : Hd, cs[12]? = some (.slice h.1 h.2.1 h.2.2) ∧ SlAt RSpread 4 56 (fun _ => True) w h.1 h.2.1 h.2.2 (pSpreads p) := by
    obtain ⟨h2, h12, _, _, e, _, s12⟩ := hp.out.reads9
    exact ⟨h12, e, s12⟩
  simp only at e12 ssp
  obtain ⟨W1, hW1⟩ : ∃ W, W = w.alloc (.cells cs.toArray 49) := ⟨_, rfl⟩
  have B1 : Below w.heap.size w W1 := by rw [hW1]; go_grown
  have qp : BoxL W1 w.heap.size cs := by rw [hW1]; exact BoxL.new w 49 _
  have c12 := (qp.2 12 _ e12).1
  have hq2 : Hid ((pSpreads p).length = h2) := ssp.1
  have hlen := ssp.len (by decide)
  have HU : Hid (∀ u, Below W1.heap.size W1 u → BoxL u w.heap.size cs ∧ RPod (fun _ => True) u cs p ∧ SlAt RSpread 4 56 (fun _ => True) u h1 h2 h3 (pSpreads p) ∧ SlAt RLabel 2 32 (fun _ => True) u la ln lc Lb ∧ SlAt RNode 9 112 (fun _ => True) u a n cap N ∧ SlAt RPlaced 17 320 (fun _ => True) u b m capb Pl ∧ Below w.heap.size w u) := fun u hb => ⟨qp.on hb, RPod.firm.kept hp.out (Kept.below (on2 B1 hb)), ssp.on RSpread.firm (on2 B1 hb), hL.out.on RLabel.firm (on2 B1 hb), hN.out.on RNode.firm (on2 B1 hb), hP.out.on RPlaced.firm (on2 B1 hb), on2 B1 hb⟩
  have HAns : Hid (spreadP 12 p Lb N Pl = if (pSpreads p).any (badS (pLabs p) Lb N (othersN p.1 Pl)) = true then 12 else 0) := rfl
  clear hp hL hN hP ssp qp B1 e12
  generalize spreadP 12 p Lb N Pl = ans at HAns
  go_enter Tryz.func30, Tryz.ntmps30
  go_upto_region 1 with fail
  rw [← hW1]
  clear hW1
  go_wp2_with fail
  go_loopw [16] (fun i wr => ∃ k : Nat, k ≤ h2 ∧ i = .int .i64 k ∧ Hid (((pSpreads p).take k).any (badS (pLabs p) Lb N (othersN p.1 Pl)) = false ∧ Below W1.heap.size W1 wr)) (fun i _ => h2 - (intOf i).toNat)
  case atStart => exact ⟨0, Nat.zero_le _, rfl, rfl, Below.refl _ _⟩
  case round =>
    obtain ⟨k, hk, rfl, hst⟩ := hrel
    by_cases hlt : k < h2
    · have hltz : (k : Int) < (h2 : Int) := by omega
      have hkl : k < (pSpreads p).length := by rw [hq2.out]; exact hlt
      obtain ⟨q0, q1, q2, q3, q4, q5, q6⟩ := HU.out wr hst.out.2
      obtain ⟨B, off, rfl, hB, _, xs, hr, hv⟩ := q2.get hlt
      have HNo : Hid (badS (pLabs p) Lb N (othersN p.1 Pl) ((pSpreads p).getD k default) = false → ((pSpreads p).take (k + 1)).any (badS (pLabs p) Lb N (othersN p.1 Pl)) = false) := fun h => any_take9 _ hkl hst.out.1 h
      have HYes : Hid (badS (pLabs p) Lb N (othersN p.1 Pl) ((pSpreads p).getD k default) = true → (pSpreads p).any (badS (pLabs p) Lb N (othersN p.1 Pl)) = true) := fun h => any_at9 _ hkl h
      generalize (pSpreads p).getD k default = s at hr HNo HYes
      obtain ⟨⟨r1, r2, r3⟩, rfl, _, sr⟩ := hr.out
      simp only at sr
      have d0 := hv 0 _ rfl
      have d1 := hv 1 _ rfl
      have d2 := hv 2 _ rfl
      have d3 := hv 3 _ rfl
      rw [Nat.add_zero] at d0
      obtain ⟨V0, hV0⟩ : ∃ V, V = wr.alloc (.cells #[.string ⟨#[]⟩, .int .i64 0, .int .i64 0, .slice none 0 0] 24) := ⟨_, rfl⟩
      have qv0 : BoxL V0 wr.heap.size [.string ⟨#[]⟩, .int .i64 0, .int .i64 0, .slice none 0 0] := by rw [hV0]; exact BoxL.new wr 24 _
      obtain ⟨V, hV⟩ : ∃ V, V = V0.setCells wr.heap.size 0 [.string s.1, .int .i64 s.2.1, .int .i64 s.2.2.1, .slice r1 r2 r3] := ⟨_, rfl⟩
      have bV : Below wr.heap.size wr V := by rw [hV, hV0]; exact below_setCells ((Below.refl _ _).alloc (Nat.le_refl _) _) (Nat.le_refl _)
      have qV : BoxL V wr.heap.size [.string s.1, .int .i64 s.2.1, .int .i64 s.2.2.1, .slice r1 r2 r3] := by rw [hV]; exact box_over8 qv0 rfl
      have HTh : Hid (V0.there wr.heap.size 0 (#[.string s.1, .int .i64 s.2.1, .int .i64 s.2.2.1, .slice r1 r2 r3] : Array Value).size) := qv0.there
      have HWV : Hid (V = V0.setCells wr.heap.size 0 (#[.string s.1, .int .i64 s.2.1, .int .i64 s.2.2.1, .slice r1 r2 r3] : Array Value).toList) := by rw [Hid, hV]
      have HV0 : Hid (V0 = wr.alloc (.cells #[.string ⟨#[]⟩, .int .i64 0, .int .i64 0, .slice none 0 0] 24)) := hV0
      have hsz4 : (Tryz.prog.info? 24).map (·.size) = some (#[.string s.1, .int .i64 s.2.1, .int .i64 s.2.2.1, .slice r1 r2 r3] : Array Value).size := sizeSp
      have HOc : Hid ((#[.string s.1, .int .i64 s.2.1, .int .i64 s.2.2.1, .slice r1 r2 r3] : Array Value).all (·.oneCell') = true) := by rw [Hid]; simp [Value.oneCell']
      have HS : Hid (∀ u, Below V.heap.size V u → PcS wr.heap.size w.heap.size s r1 r2 r3 cs u) := fun u hb => PcS.of (qV.on hb) ((q0.on bV).on hb)
      have hd : Below wr.heap.size wr V.drew := bV.drew
      have hO := own_calls w.heap.size cs p V.drew (q0.on hd) (RPod.firm.kept q1 (Kept.below hd))
      have hC := censusOf_calls s r1 r2 r3 a n cap N b m capb 320 Pl (by decide) 47 #[.pointer (some ⟨w.heap.size, 0, none⟩)] (fun x => sEq x.1 p.1) (enters_of Tryz.func47 (by kernel_rfl) rfl) V.drew (sr.on RReq.firm hd) (q4.on RNode.firm hd) (q5.on RPlaced.firm hd) hO
      rw [left_own] at hC
      have HAd : Hid (∀ u m1 m2, Below V.heap.size V u → CenAt u s r1 r2 r3 m1 m2 N (othersN p.1 Pl) → Calls Tryz.prog 48 #[.agg #[.string s.1, .int .i64 s.2.1, .int .i64 s.2.2.1, .slice r1 r2 r3, .map (some m1), .map (some m2)], .agg cs.toArray, .slice la ln lc] u fun e w' => e = .returned (.bool (!badS (pLabs p) Lb N (othersN p.1 Pl) s)) ∧ Below u.heap.size u w') := fun u m1 m2 hb hc => admits_calls s r1 r2 r3 m1 m2 N (othersN p.1 Pl) cs p la ln lc Lb u hc (RPod.firm.kept q1 (Kept.below (on2 bV hb))) (q3.on RLabel.firm (on2 bV hb))
      have HBV : Hid (Below W1.heap.size W1 V ∧ Below w.heap.size w V) := ⟨on2 hst.out.2 bV, on2 q6 bV⟩
      clear hst hr hv q0 q1 q2 q3 q4 q5 q6 sr qv0 qV bV hV hV0 hO hd
      generalize badS (pLabs p) Lb N (othersN p.1 Pl) s = bad at HNo HYes HAd
      go_upto_region 5 with (first | (refine wpl_w8 HV0.out ?_; refine wpList_store_mid rfl 24 _ _ rfl wr.heap.size 0 #[.string s.1, .int .i64 s.2.1, .int .i64 s.2.2.1, .slice r1 r2 r3] rfl rfl HTh.out hsz4 HOc.out ?_; refine wpl_w8 HWV.out ?_) | fail)
      clear HTh HWV HV0 HOc hsz4 d0 d1 d2 d3
      refine t0 (PcS wr.heap.size w.heap.size s r1 r2 r3 cs) (HS.out _ (Below.refl _ _).drew) (fun hHeld => ?_)
      try go_frame
      refine' tk 0 ?_ ?_; rotate_left
      · rintro u ⟨⟨_, _, _, _⟩, _⟩; go_simp; try with_reducible rfl
      try go_frame
      refine' tk 1 ?_ ?_; rotate_left
      · rintro u ⟨⟨_, _, _, _⟩, _⟩; go_simp; try with_reducible rfl
      try go_frame
      refine' tk 2 ?_ ?_; rotate_left
      · rintro u ⟨⟨_, _, _, _⟩, _⟩; go_simp; try with_reducible rfl
      try go_frame
      refine' tk 3 ?_ ?_; rotate_left
      · rintro u ⟨⟨_, _, _, _⟩, _⟩; go_simp; try with_reducible rfl
      try go_frame
      refine tq 5 (.agg cs.toArray) (yieldsIf_load_mid (by rfl) 49 _ rfl w.heap.size 0 rfl cs _ (fun u hu => hu.2.out) Tryz.underlying49 rfl hi16) ?_ (hi := rfl)
      try go_frame
      refine' tk 6 ?_ ?_; rotate_left
      · rintro u ⟨⟨_, _, _, _⟩, _⟩; go_simp; try with_reducible rfl
      try go_frame
      refine tr 4 (fun K hK => ?_)
      go_simp
      refine hC.mono ?_
      rintro e u1 ⟨m1, m2, rfl, hcen, hu1⟩
      have hd1 : Below V.heap.size V u1 := on2 (Below.refl _ _).drew hu1
      have hAd := HAd.out u1 m1 m2 hd1 hcen
      have HD1 : Hid (Below V.heap.size V u1) := hd1
      clear hcen hu1 hC HAd hd1
      go_wp2_with fail
      refine hK.out _ _ (HS.out _ HD1.out) (fun hHeld2 => ?_)
      clear hK K hHeld; have hHeld := hHeld2; clear hHeld2
      try go_frame
      refine tr 7 (fun K hK => ?_)
      go_simp
      refine hAd.mono ?_
      rintro e u2 ⟨rfl, hu2⟩
      have HD2 : Hid (Below V.heap.size V u2) := on2 HD1.out hu2
      clear hu2 hAd HD1
      go_wp2_with fail
      refine hK.out _ _ (HS.out _ HD2.out) (fun hHeld2 => ?_)
      clear hK K hHeld; have hHeld := hHeld2; clear hHeld2
      try go_frame
      refine' tk 8 ?_ ?_; rotate_left
      · rintro u ⟨⟨_, _, _, _⟩, _⟩; go_simp; try with_reducible rfl
      try go_frame
      refine tz ?_
      clear hHeld HS
      cases bad
      · have HN3 : Hid (((pSpreads p).take (k + 1)).any (badS (pLabs p) Lb N (othersN p.1 Pl)) = false ∧ Below W1.heap.size W1 u2) := ⟨HNo.out rfl, on2 HBV.out.1 HD2.out⟩
        clear HNo HYes HD2
        go_wp2_with fail
        go_roundw
        case rel => exact ⟨k + 1, by omega, by go_num, HN3⟩
        case measure => simp [intOf]; omega
      · have HF : Hid (ans = 12 ∧ Below w.heap.size w u2) := ⟨by rw [HAns.out, if_pos (HYes.out rfl)], on2 HBV.out.2 HD2.out⟩
        clear HNo HYes HD2
        go_wp2_with fail
        go_ret
        exact ⟨by rw [HF.out.1]; rfl, HF.out.2⟩
    · have htk : (pSpreads p).take k = pSpreads p := List.take_of_length_le (by rw [hq2.out]; omega)
      have hal := hst.out.1
      rw [htk] at hal
      have HF : Hid (ans = 0 ∧ Below w.heap.size w wr) := ⟨by rw [HAns.out, hal]; rfl, (HU.out wr hst.out.2).2.2.2.2.2.2⟩
      clear hst htk hal
      go_wp2_with fail
      go_ret
      exact ⟨by rw [HF.out.1]; rfl, HF.out.2⟩
end Go.Proofs.YtillkgflppabfaaGreatDoor
namespace Go.Proofs.YtillkgflppabfaaGreatDoor
open Go.RowKit
set_option linter.unusedSimpArgs false
set_option maxRecDepth 100000

theorem sl_one9 {α : Type} [Inhabited α] {R : Rep α} {k bytes : Nat} {A : Where} {u : World} {B : Nat} {cs : List Value} {x : α} (hb : BoxL u B cs) (hr : R A u cs x) (hA : A B) (hby : bytes ≤ 140737488351232) : SlAt R k bytes A u (some ⟨B, 0, none⟩) 1 1 [x] := by
  refine ⟨rfl, Nat.le_refl _, (fun e => by cases e), by omega, fun _ => ⟨B, 0, rfl, hb.1, hA, fun i hi => ?_⟩⟩
  obtain rfl : i = 0 := by omega
  exact ⟨cs, hr, fun j v hj => by have := (hb.2 j v hj).1; simpa using this⟩
theorem sl_two9 {α : Type} [Inhabited α] {R : Rep α} {k bytes : Nat} {A : Where} {u : World} {B : Nat} {cs ds : List Value} {x y : α} (hb : BoxL u B (cs ++ ds)) (h1 : R A u cs x) (h2 : R A u ds y) (hl : cs.length = k) (hA : A B) (hby : 2 * bytes ≤ 140737488351232) : SlAt R k bytes A u (some ⟨B, 0, none⟩) 2 2 [x, y] := by
  refine ⟨rfl, Nat.le_refl _, (fun e => by cases e), hby, fun _ => ⟨B, 0, rfl, hb.1, hA, fun i hi => ?_⟩⟩
  have hi2 : i = 0 ∨ i = 1 := by omega
  rcases hi2 with rfl | rfl
  · refine ⟨cs, h1, fun j v hj => ?_⟩
    have h3 := (hb.2 j v (by rw [List.getElem?_append_left (List.getElem?_eq_some_iff.1 hj).1]; exact hj)).1
    simpa using h3
  · refine ⟨ds, h2, fun j v hj => ?_⟩
    have h3 := (hb.2 (k + j) v (by rw [← hl, List.getElem?_append_right (by omega), Nat.add_sub_cancel_left]; exact hj)).1
    simpa using h3
def zoneB : ByteArray := ⟨#[122, 111, 110, 101]⟩
def zoneD (v : ByteArray) : NodeD := (v, [(⟨#[122, 111, 110, 101]⟩, v)], [], false, (0, 0, 0), 0, 0)
set_option maxHeartbeats 4000000 in
theorem zone9_calls (v : ByteArray) (hv : v.size ≤ 140737488355328) (w : World) : Calls Tryz.prog 29 #[.string v] w fun e w' => ∃ D, e = .returned (.agg #[.string v, .slice (some ⟨D, 0, none⟩) 1 1, .slice none 0 0, .bool false, .int .i64 0, .int .i64 0, .int .i64 0, .int .i64 0, .int .i64 0]) ∧ RNode (fun _ => True) w' [.string v, .slice (some ⟨D, 0, none⟩) 1 1, .slice none 0 0, .bool false, .int .i64 0, .int .i64 0, .int .i64 0, .int .i64 0, .int .i64 0] (zoneD v) ∧ Below w.heap.size w w' := by
  obtain ⟨U, hU⟩ : ∃ U, U = (w.alloc (.cells #[.string v, .slice (some ⟨w.heap.size + 1, 0, none⟩) 1 1, .slice none 0 0, .bool false, .int .i64 0, .int .i64 0, .int .i64 0, .int .i64 0, .int .i64 0] 40)).alloc (.cells #[.string ⟨#[122, 111, 110, 101]⟩, .string v] 55) := ⟨_, rfl⟩
  have hb : Below w.heap.size w U := by rw [hU]; go_grown
  have q0 : BoxL U w.heap.size [.string v, .slice (some ⟨w.heap.size + 1, 0, none⟩) 1 1, .slice none 0 0, .bool false, .int .i64 0, .int .i64 0, .int .i64 0, .int .i64 0, .int .i64 0] := by rw [hU]; exact (BoxL.new w 40 _).on ((Below.refl _ _).alloc (Nat.le_refl _) _)
  have q1 : BoxL U (w.heap.size + 1) [.string ⟨#[122, 111, 110, 101]⟩, .string v] := by rw [hU]; have h1 := BoxL.new (w.alloc (.cells #[.string v, .slice (some ⟨w.heap.size + 1, 0, none⟩) 1 1, .slice none 0 0, .bool false, .int .i64 0, .int .i64 0, .int .i64 0, .int .i64 0, .int .i64 0] 40)) 55 [.string ⟨#[122, 111, 110, 101]⟩, .string v]; simpa using h1
  have hT : RNode (fun _ => True) U [.string v, .slice (some ⟨w.heap.size + 1, 0, none⟩) 1 1, .slice none 0 0, .bool false, .int .i64 0, .int .i64 0, .int .i64 0, .int .i64 0, .int .i64 0] (zoneD v) := RNode.mk (x := zoneD v) (h1 := (some ⟨w.heap.size + 1, 0, none⟩, 1, 1)) (h2 := (none, 0, 0)) hv (sl_one9 q1 (RLabel.mk (x := (⟨#[122, 111, 110, 101]⟩, v)) (show (4 : Nat) ≤ 140737488355328 by decide) hv) trivial (by decide)) (SlAt.nil _ _ _ _ (fun _ => rfl))
  have HT : Hid (RNode (fun _ => True) U [.string v, .slice (some ⟨w.heap.size + 1, 0, none⟩) 1 1, .slice none 0 0, .bool false, .int .i64 0, .int .i64 0, .int .i64 0, .int .i64 0, .int .i64 0] (zoneD v) ∧ Below w.heap.size w U) := ⟨hT, hb⟩
  have z0 := (q0.2 0 _ rfl).1; have z1 := (q0.2 1 _ rfl).1; have z2 := (q0.2 2 _ rfl).1; have z3 := (q0.2 3 _ rfl).1; have z4 := (q0.2 4 _ rfl).1; have z5 := (q0.2 5 _ rfl).1; have z6 := (q0.2 6 _ rfl).1; have z7 := (q0.2 7 _ rfl).1; have z8 := (q0.2 8 _ rfl).1
  have HU : Hid (U = (w.alloc (.cells #[.string v, .slice (some ⟨w.heap.size + 1, 0, none⟩) 1 1, .slice none 0 0, .bool false, .int .i64 0, .int .i64 0, .int .i64 0, .int .i64 0, .int .i64 0] 40)).alloc (.cells #[.string ⟨#[122, 111, 110, 101]⟩, .string v] 55)) := hU
  clear hT hU q0 q1 hb
  go_enter Tryz.func29, Tryz.ntmps29
  go_wp2_with fail
  rw [← HU.out]
  refine bodyPost_ret (v := .agg #[.string v, .slice (some ⟨w.heap.size + 1, 0, none⟩) 1 1, .slice none 0 0, .bool false, .int .i64 0, .int .i64 0, .int .i64 0, .int .i64 0, .int .i64 0]) (by simp [results, Tryz.results29, go_sem, z0, z1, z2, z3, z4, z5, z6, z7, z8, Result.andThen]) rfl ⟨_, rfl, HT.out⟩
end Go.Proofs.YtillkgflppabfaaGreatDoor
