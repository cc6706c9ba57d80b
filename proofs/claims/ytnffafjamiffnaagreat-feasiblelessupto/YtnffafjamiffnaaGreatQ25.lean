/- Functions of the program, each walked under the conditions that its theorem names. -/
import Derived.Test.YtnffafjamiffnaaGreatQ00
import Derived.BigRegion
import Derived.Test.YtnffafjamiffnaaGreatQ19
import Derived.Test.YtnffafjamiffnaaGreatQ21
set_option linter.unusedSimpArgs false
set_option maxRecDepth 100000
set_option maxHeartbeats 32000000
namespace Go.Proofs.YtnffafjamiffnaaGreat
open Go.RowKit Go.Maps
theorem zCp {w : World} {mb N : Nat} {f : Lab -> Int} (hc : Hid (CntAt w mb N f)) (a : Option Addr) (n cap : Nat) (A : Where) (L : List Lab) (key : ByteArray) (hL : Hid (SlAt RLabel 2 32 A w a n cap L)) (hk : key.size <= 140737488355328) :
  Calls Tryz.prog 197 #[.map (some mb), .slice a n cap, .string key] w fun e w' => e = .returned (.bool ((getL L key).2 && decide (0 < f (domL L key)))) /\ Below w.heap.size w w' := by
 have hD := zBL a n cap A L key w hL
 have HO : Hid ((getL L key).2 = true -> okL (domL L key)) := dom_ok hk (zDg hL.out)
 obtain ⟨b, hb⟩ : ∃ b, decide (0 < f (domL L key)) = b := ⟨_, rfl⟩
 have HBb : Hid (0 < f (domL L key) ↔ b = true) := by rw [Hid, <- hb]; simp
 rw [hb]
 simp only [domL] at HO HBb |-
 clear hL hb
 generalize (getL L key).1 = v at hD HO HBb
 generalize (getL L key).2 = t at hD HO |-
 have HC : Hid (t = true -> ∀ u, Below w.heap.size w u -> (Instr.lookup 214 (.map (some mb)) (.agg #[.string key, .string v]) false).run Tryz.prog u = .ok (.int .i64 (f (key, v))) u) := fun ht u hb => (hc.out.on hb).look _ Tryz.underlying214 (HO.out ht)
 generalize f (key, v) = c at HC HBb
 clear hc HO f
 go_enter Tryz.func197, Tryz.ntmps197
 go_wp2_with fail
 refine hD.mono ?_
 clear hD
 rintro e w1 ⟨rfl, hb1⟩
 cases t
 ·go_wp2_with fail
  go_ret
  exact ⟨rfl, on2 hb1 (by go_grown)⟩
 ·have hlk := HC.out rfl (w1.alloc (.cells #[.string key, .string v] 161)) (on2 hb1 (by go_grown))
  clear HC
  go_wp2_with fail
  go_ret
  have h2 := HBb.out
  exact ⟨by cases b <;> simp_all, on2 hb1 (by go_grown)⟩
theorem RPlaced.reads {A : Where} {w : World} {cs : List Value} {x : PlacedD} (h : RPlaced A w cs x) : ∃ h2 h11 h16 : Hd, cs[0]? = some (.string x.1.1) /\ cs[2]? = some (.slice h2.1 h2.2.1 h2.2.2) /\ cs[11]? = some (.slice h11.1 h11.2.1 h11.2.2) /\ cs[16]? = some (.slice h16.1 h16.2.1 h16.2.2) /\ SlAt RLabel 2 32 A w h2.1 h2.2.1 h2.2.2 (pLabs x.1) /\ SlAt RTerm 2 40 A w h11.1 h11.2.1 h11.2.2 (pApart x.1) /\ SlAt RLabel 2 32 A w h16.1 h16.2.1 h16.2.2 x.2 := by
 obtain ⟨c, d, rfl, h1, ⟨a, n, cap, rfl, h3⟩⟩ := h
 obtain ⟨h2, h6, h7, h8, h9, h10, h11, h12, h13, rfl, _, s2, _, _, _, _, _, s11, _, _, _, _⟩ := h1.out
 exact ⟨h2, h11, (a, n, cap), rfl, rfl, rfl, rfl, s2, s11, h3⟩
theorem zGk {g : Lab -> Int} {b : Bool} {q r : Lab -> Bool} {c : Int} (h : ∀ d, r d = (b && q d)) : (b = true -> addF g q c = addF g r c) /\ (b = false -> ∀ d, g d = addF g r c d) := by
 refine ⟨fun e => ?_, fun e => zEi (fun d => by rw [h d, e]; rfl)⟩
 funext d
 unfold addF
 rw [h d, e]
 rfl
theorem zCG {w : World} {mb N : Nat} {g : Lab -> Int} (hc : Hid (CntAt w mb N g)) (hN : N < 70368744177664) (b1 : Option Addr) (b2 b3 : Nat) (A : Where) (R : List Ask) (key : ByteArray) (cs : List Value) (x : PlacedD) (by_ : Int) (hx : Hid (RPlaced A w cs x)) (hr : Hid (SlAt RReq 3 48 A w b1 b2 b3 R)) (hk : key.size <= 140737488355328) (hby : by_ = 1 \/ by_ = -1) :
  Calls Tryz.prog 161 #[.agg #[.slice b1 b2 b3, .string key, .map (some mb)], .agg cs.toArray, .int .i64 by_] w fun e w' => e = .returned (.tuple #[]) /\ CntAt w' mb (N + 1) (addF g (hT (R, key) x) by_) /\ Turns (fun b => b = mb) w w' := by
 obtain ⟨⟨a2, n2, m2⟩, _, ⟨a16, n16, m16⟩, _, e2, _, e16, s2, _, s16⟩ := hx.out.reads
 simp only at e2 e16 s2 s16
 have HAd := zGk (g := g) (b := matchL (pLabs x.1) R) (q := atD x.2 key) (r := hT (R, key) x) (c := by_) (fun d => rfl)
 obtain ⟨W2, hW2⟩ : ∃ W, W = (w.alloc (.cells #[.slice b1 b2 b3, .string key, .map (some mb)] 254)).alloc (.cells cs.toArray 68) := ⟨_, rfl⟩
 have B2 : Below w.heap.size w W2 := by rw [hW2]; go_grown
 have q0 : BoxL W2 w.heap.size [.slice b1 b2 b3, .string key, .map (some mb)] := by rw [hW2]; exact (BoxL.new w 254 _).on ((Below.refl _ _).alloc (Nat.le_refl _) _)
 have q1 : BoxL W2 (w.heap.size + 1) cs := by have h1 := BoxL.new (w.alloc (.cells #[.slice b1 b2 b3, .string key, .map (some mb)] 254)) 68 cs; rw [hW2]; simpa using h1
 have HM := zB3 a2 n2 m2 A (pLabs x.1) b1 b2 b3 A R W2 (s2.on RLabel.firm B2) (hr.out.on RReq.firm B2)
 have HQ : Hid (∀ u, Below W2.heap.size W2 u -> BoxL u w.heap.size [.slice b1 b2 b3, .string key, .map (some mb)] /\ BoxL u (w.heap.size + 1) cs /\ CntAt u mb N g /\ SlAt RLabel 2 32 A u a16 n16 m16 x.2 /\ Below w.heap.size w u) := fun u hb => ⟨q0.on hb, q1.on hb, (hc.out.on B2).on hb, (s16.on RLabel.firm B2).on RLabel.firm hb, on2 B2 hb⟩
 have c0 := (q0.2 0 _ rfl).1
 have c2 := (q1.2 2 _ e2).1
 have HE : Hid (cs[16]? = some (.slice a16 n16 m16)) := e16
 clear hc hx hr s2 s16 q0 q1 B2 e2 e16
 generalize addF g (hT (R, key) x) by_ = g' at HAd |-
 have HA2 : Hid ((matchL (pLabs x.1) R = true -> addF g (atD x.2 key) by_ = g') /\ (matchL (pLabs x.1) R = false -> ∀ d, g d = g' d)) := HAd
 clear HAd
 generalize matchL (pLabs x.1) R = t at HM HA2
 go_enter Tryz.func161, Tryz.ntmps161
 go_upto_region 1 with fail
 rw [<- hW2]
 clear hW2
 go_wp2_with fail
 refine HM.mono ?_
 clear HM c0 c2
 rintro e w3 ⟨rfl, hb3⟩
 obtain ⟨k0, k1, k2, k3, k4⟩ := HQ.out w3 hb3
 cases t
 ·have HC : Hid (CntAt w3 mb (N + 1) g' /\ Below w.heap.size w w3) := ⟨(k2.mono (Nat.le_succ _)).as (HA2.out.2 rfl), k4⟩
  clear HQ HA2 k0 k1 k2 k3 k4 hb3
  go_wp2_with fail
  go_end0
  exact ⟨rfl, HC.out.1, Turns.below HC.out.2⟩
 ·have HD := zCM (w := w3) k2 hN a16 n16 m16 A x.2 key by_ k3 hk hby
  rw [HA2.out.1 rfl] at HD
  have z1 := (k0.2 1 _ rfl).1
  have z2 := (k0.2 2 _ rfl).1
  have z16 := (k1.2 16 _ HE.out).1
  have HB : Hid (Below w.heap.size w w3) := k4
  clear HQ HA2 k0 k1 k2 k3 k4 hb3 HE
  go_wp2_with fail
  refine HD.mono ?_
  rintro e w4 ⟨rfl, hc4, ht4⟩
  have HC4 : Hid (CntAt w4 mb (N + 1) g' /\ Turns (fun b => b = mb) w w4) := ⟨hc4, (Turns.below HB.out).trans ht4⟩
  clear hc4 ht4 HD
  go_wp2_with fail
  go_end0
  exact ⟨rfl, HC4.out⟩
theorem Row.slT {α : Type} [Inhabited α] {R : Rep α} {k : Nat} (hR : Firm R k) {bytes : Nat} {A : Where} {w0 u : World} {e : TypeId} {v : Value} {L : List α} (h : Row R k A w0 u e v L) (hb : L.length * bytes <= 140737488351232) :
  ∃ a cap, v = .slice a L.length cap /\ SlAt R k bytes (fun _ => True) u a L.length cap L := by
 obtain ⟨xs, h1, h2⟩ := h
 obtain ⟨a, cap, e1, h3⟩ := zAf (bytes := bytes) hR h1.2 h2 hb
 exact ⟨a, cap, e1, h3.weak hR (fun b _ _ => trivial)⟩
structure CenAt (w : World) (s : SpreadD) (r1 : Option Addr) (r2 r3 m1 m2 : Nat) (N : List NodeD) (Q : List PlacedD) : Prop where
 n : ∃ f k, MpAt w m1 k f (qD s.1 N) /\ k * 16 <= 140737488355328
 p : ∃ q k, MpAt w m2 k (fun v => cntP s v Q) q /\ k < 140737488355328
 r : SlAt RReq 3 48 (fun _ => True) w r1 r2 r3 (sReqs s)
 z : ∀ v ∈ domsP s.1 N, v.size <= 140737488355328
 l : (domsP s.1 N).length * 16 <= 140737488351232
theorem CenAt.on {w w' : World} {s : SpreadD} {r1 : Option Addr} {r2 r3 m1 m2 : Nat} {N : List NodeD} {Q : List PlacedD} (h : CenAt w s r1 r2 r3 m1 m2 N Q) (hb : Below w.heap.size w w') : CenAt w' s r1 r2 r3 m1 m2 N Q := by
 obtain ⟨f, k, h1, h2⟩ := h.n
 obtain ⟨q, k', h3, h4⟩ := h.p
 exact ⟨⟨f, k, h1.on hb, h2⟩, ⟨q, k', h3.on hb, h4⟩, h.r.on RReq.firm hb, h.z, h.l⟩
theorem zEK (s : SpreadD) (r1 : Option Addr) (r2 r3 m1 m2 : Nat) (N : List NodeD) (Q : List PlacedD) (w : World) (h : Hid (CenAt w s r1 r2 r3 m1 m2 N Q)) :
  Calls Tryz.prog 217 #[.agg #[.string s.1, .int .i64 s.2.1, .int .i64 s.2.2.1, .slice r1 r2 r3, .map (some m1), .map (some m2)]] w fun e w' => ∃ v, e = .returned v /\ Row RStr 1 (fun _ => False) w w' 9 v (domsP s.1 N) := by
 obtain ⟨W1, hW1⟩ : ∃ W, W = w.alloc (.cells #[.string s.1, .int .i64 s.2.1, .int .i64 s.2.2.1, .slice r1 r2 r3, .map (some m1), .map (some m2)] 221) := ⟨_, rfl⟩
 have B1 : Below w.heap.size w W1 := by rw [hW1]; go_grown
 have qx : BoxL W1 w.heap.size (cenV s r1 r2 r3 m1 m2) := by rw [hW1]; exact BoxL.new w 221 _
 have c4 := (qx.2 4 _ rfl).1
 obtain ⟨f, k, hm, hk⟩ := (h.out.on B1).n
 have hK := zFv (some m1) W1
 have hS := zEo hm hk (zCz _) (mem_qD s.1 N) h.out.z
 have HB : Hid (Below w.heap.size w W1) := B1
 clear h hm hk qx B1
 go_enter Tryz.func217, Tryz.ntmps217
 go_upto_region 1 with fail
 rw [<- hW1]
 clear hW1
 go_wp2_with fail
 refine hK.mono ?_
 rintro e w1 ⟨rfl, rfl⟩
 go_wp2_with fail
 refine hS.mono ?_
 rintro e w2 ⟨v, rfl, hr⟩
 have HR : Hid (Row RStr 1 (fun _ => False) w w2 9 v (domsP s.1 N)) := hr.from RStr.firm HB.out (fun _ h => h)
 clear hS hK hr HB c4
 go_wp2_with fail
 go_ret
 exact ⟨v, rfl, HR.out⟩
def cntsL (s : SpreadD) (N : List NodeD) (Q : List PlacedD) : List Int := (domsP s.1 N).map (fun v => ((cntP s v Q : Nat) : Int))
theorem infoI9 : (Tryz.prog.info? 3).map (fun i => (i.zero, i.size, i.bytes)) = some (some (.int .i64 0), 1, 8) := by kernel_rfl
theorem map_takeC {α β : Type} [Inhabited α] (g : α -> β) {L : List α} {k : Nat} (h : k < L.length) : (L.take (k + 1)).map g = (L.take k).map g ++ [g (L.getD k default)] := by
 rw [<- zCS h, List.map_append]
 rfl
theorem zFP (s : SpreadD) (r1 : Option Addr) (r2 r3 m1 m2 : Nat) (N : List NodeD) (Q : List PlacedD) (w : World) (h : Hid (CenAt w s r1 r2 r3 m1 m2 N Q)) :
  Calls Tryz.prog 198 #[.agg #[.string s.1, .int .i64 s.2.1, .int .i64 s.2.2.1, .slice r1 r2 r3, .map (some m1), .map (some m2)]] w fun e w' => ∃ v, e = .returned v /\ Row RInt 1 (fun _ => False) w w' 3 v (cntsL s N Q) := by
 obtain ⟨W1, hW1⟩ : ∃ W, W = w.alloc (.cells #[.string s.1, .int .i64 s.2.1, .int .i64 s.2.2.1, .slice r1 r2 r3, .map (some m1), .map (some m2)] 221) := ⟨_, rfl⟩
 have B1 : Below w.heap.size w W1 := by rw [hW1]; go_grown
 have qx : BoxL W1 w.heap.size (cenV s r1 r2 r3 m1 m2) := by rw [hW1]; exact BoxL.new w 221 _
 have c0 := (qx.2 0 _ rfl).1
 have c1 := (qx.2 1 _ rfl).1
 have c2 := (qx.2 2 _ rfl).1
 have c3 := (qx.2 3 _ rfl).1
 have c4 := (qx.2 4 _ rfl).1
 have c5 := (qx.2 5 _ rfl).1
 have hD := zEK s r1 r2 r3 m1 m2 N Q W1 (h.out.on B1)
 have hbl : Hid ((domsP s.1 N).length * 16 <= 140737488351232) := h.out.l
 have HU : Hid (∀ u, Below W1.heap.size W1 u -> u.cell? ⟨w.heap.size, 5, none⟩ = some (.map (some m2)) /\ ∀ v : ByteArray, v.size <= 140737488355328 -> (Instr.lookup 165 (.map (some m2)) (.string v) false).run Tryz.prog u = .ok (.int .i64 ((cntP s v Q : Nat) : Int)) u) := fun u hb => by
  obtain ⟨q, k, h3, _⟩ := h.out.p
  exact ⟨((qx.on hb).2 5 _ rfl).1, fun v hv => (h3.on (on2 B1 hb)).look 165 Tryz.underlying165 hv⟩
 have HB : Hid (Below w.heap.size w W1) := B1
 clear h qx B1
 go_enter Tryz.func198, Tryz.ntmps198
 go_upto_region 1 with fail
 rw [<- hW1]
 clear hW1
 go_wp2_with fail
 refine hD.mono ?_
 rintro e w2 ⟨v, rfl, hr⟩
 obtain ⟨a, cap, rfl, sv⟩ := hr.slT (bytes := 16) RStr.firm hbl.out
 have B2 : Below W1.heap.size W1 w2 := hr.below
 clear hD hr c0 c1 c2 c3 c4 c5
 generalize hn : (domsP s.1 N).length = n at sv hbl
 have HN : Hid ((domsP s.1 N).length = n) := hn
 clear hn
 have hlen : n <= 9223372036854775807 := by have := hbl.out; omega
 have HR0 : Hid (Row RInt 1 (fun _ => False) w2 w2 3 (.slice none 0 0) (((domsP s.1 N).take 0).map (fun v => ((cntP s v Q : Nat) : Int)))) := Row.nil (fun _ => False) w2 3
 have HS : Hid (∀ u, Below w2.heap.size w2 u -> SlAt RStr 1 16 (fun _ => True) u a n cap (domsP s.1 N) /\ u.cell? ⟨w.heap.size, 5, none⟩ = some (.map (some m2)) /\ ∀ v : ByteArray, v.size <= 140737488355328 -> (Instr.lookup 165 (.map (some m2)) (.string v) false).run Tryz.prog u = .ok (.int .i64 ((cntP s v Q : Nat) : Int)) u) := fun u hb => ⟨sv.on RStr.firm hb, HU.out u (on2 B2 hb)⟩
 have HB2 : Hid (Below w.heap.size w w2) := on2 HB.out B2
 clear sv B2 HB HU
 go_wp2_with fail
 go_loopw [3, 9] (fun t i wr => ∃ k : Nat, k <= n /\ i = .int .i64 k /\ Hid (Row RInt 1 (fun _ => False) w2 wr 3 t (((domsP s.1 N).take k).map (fun v => ((cntP s v Q : Nat) : Int))))) (fun _ i _ => n - (intOf i).toNat)
 case atStart => exact ⟨0, Nat.zero_le _, rfl, HR0⟩
 case round =>
  obtain ⟨k, hk, rfl, hrow⟩ := hrel
  by_cases hlt : k < n
  ·have hltz : (k : Int) < (n : Int) := by omega
   have hkl : k < (domsP s.1 N).length := by rw [HN.out]; exact hlt
   obtain ⟨sv, c5, hlk⟩ := HS.out wr hrow.out.below
   obtain ⟨B, off, rfl, hB, _, cs, hr, hv⟩ := sv.get hlt
   obtain ⟨rfl, hsz⟩ := hr
   have d0 := hv 0 _ rfl
   rw [Nat.mul_one, Nat.add_zero] at d0
   have hlk' := hlk _ hsz
   have HT : Hid (((domsP s.1 N).take (k + 1)).map (fun v => ((cntP s v Q : Nat) : Int)) = ((domsP s.1 N).take k).map (fun v => ((cntP s v Q : Nat) : Int)) ++ [((cntP s ((domsP s.1 N).getD k default) Q : Nat) : Int)]) := map_takeC _ hkl
   have HLk : Hid ((((domsP s.1 N).take k).map (fun v => ((cntP s v Q : Nat) : Int))).length = k) := by rw [Hid, List.length_map, List.length_take]; omega
   clear sv hlk hv
   generalize (domsP s.1 N).getD k default = dv at d0 hlk' HT hsz
   generalize ((cntP s dv Q : Nat) : Int) = c at hlk' HT
   have hb3 : Below wr.heap.size wr (wr.alloc (.cells #[.int .i64 c] 3)) := (Below.refl _ _).alloc (Nat.le_refl _) _
   have HR3 : Hid (Row RInt 1 (fun _ => False) w2 (wr.alloc (.cells #[.int .i64 c] 3)) 3 u3 (((domsP s.1 N).take k).map (fun v => ((cntP s v Q : Nat) : Int)))) := hrow.out.on RInt.firm hb3
   have HE : RInt (fun b => False /\ Value.ownBlock u3 ≠ some b) (wr.alloc (.cells #[.int .i64 c] 3)) [.int .i64 c] c := rfl
   have H1 : Hid (∀ y ∈ [Value.int .i64 c], y.oneCell' = true) := RInt.firm.one HE
   have HCh : Hid (Chunks RInt 1 (fun b => False /\ Value.ownBlock u3 ≠ some b) (wr.alloc (.cells #[.int .i64 c] 3)) [.int .i64 c] [c]) := zAQ RInt.firm HE
   have HX : Hid (∀ j y, [Value.int .i64 c][j]? = some y -> (wr.alloc (.cells #[.int .i64 c] 3)).cell? ((⟨wr.heap.size, 0, none⟩ : Addr).add j) = some y) := fun j y hj => by
    have h1 := ((BoxL.new wr 3 [.int .i64 c]).2 j y hj).1
    rw [add_lit]; simpa using h1
   have HLb2 : Hid (((((domsP s.1 N).take k).map (fun v => ((cntP s v Q : Nat) : Int))).length + [c].length) * 8 <= 140737488355328) := by
    have h2 := hbl.out
    rw [Hid, HLk.out, List.length_singleton]; omega
   clear HE hb3 hrow HLk
   generalize ((domsP s.1 N).take k).map (fun v => ((cntP s v Q : Nat) : Int)) = Pre at HT HR3 HLb2
   go_wp2_with (at_builtin; go_must (refine zAF RInt.firm (A := (fun _ => False)) (w0 := w2) rfl _ _ 45 3 rfl _ 8 infoI9 Tryz.underlying45 rfl (by decide) (by decide) u3 Pre rfl HR3.out ⟨wr.heap.size, 0, none⟩ 1 1 _ [c] rfl rfl HCh.out HX.out H1.out HLb2.out ?_); intro v4 w4 hrow4 hg4)
   have HNx : Hid (Row RInt 1 (fun _ => False) w2 w4 3 v4 (((domsP s.1 N).take (k + 1)).map (fun v => ((cntP s v Q : Nat) : Int)))) := by rw [Hid, HT.out]; exact hrow4
   clear hrow4 hg4 HT HR3 HCh HX H1
   go_roundw
   case rel => exact ⟨k + 1, by omega, by go_num, HNx⟩
   case measure => simp [intOf]; omega
  ·have hk' : (domsP s.1 N).take k = domsP s.1 N := List.take_of_length_le (by rw [HN.out]; omega)
   have HNx : Hid (Row RInt 1 (fun _ => False) w wr 3 u3 (cntsL s N Q)) := by rw [hk'] at hrow; exact hrow.out.from RInt.firm HB2.out (fun _ h => h)
   clear hrow hk'
   go_wp2_with fail
   go_ret
   exact ⟨u3, rfl, HNx.out⟩
theorem zD6 (a : Option Addr) (n cap : Nat) (A : Where) (L : List VolumeD) (mb : Nat) (w : World) (hL : Hid (SlAt RVolume 5 72 A w a n cap L)) (hm : Hid (NmAt w mb (L.map Prod.fst))) (hrb : n * 80 <= 140737488355328) :
  Calls Tryz.prog 173 #[.agg #[.slice a n cap, .map (some mb)]] w (AllOut RVolume 5 (Lo10 A w) 79 w (allL Prod.fst L)) := by
 have hnl : Hid (L.length = n) := hL.out.1
 have hbn : Hid (n * 72 <= 140737488351232) := hL.out.2.2.2.1
 have hlen := hL.out.len (by decide)
 obtain ⟨W1, hW1⟩ : ∃ W, W = w.alloc (.cells #[.slice a n cap, .map (some mb)] 171) := ⟨_, rfl⟩
 have B1 : Below w.heap.size w W1 := by rw [hW1]; go_grown
 have q1 : BoxL W1 w.heap.size [.slice a n cap, .map (some mb)] := by rw [hW1]; exact BoxL.new w 171 _
 obtain ⟨F, hF⟩ : ∃ F, F = firstsI (L.map Prod.fst) := ⟨_, rfl⟩
 have hFn : F.length <= n := by have := zB4 (L.map Prod.fst); rw [hF, <- hnl.out]; rwa [List.length_map] at this
 have hln := (hm.out.on B1).len
 rw [<- hF] at hln
 obtain ⟨i0, hi0, hz0, hz1, hz2⟩ := info_parts zBR
 obtain ⟨W2, hmk, hown, hg2⟩ := run_make_own (P := Tryz.prog) W1 W1.heap.size 24 79 i0 _ 5 Tryz.underlying24 hi0 hz0 hz1 .i64 .i64 F.length (by rw [hz2]; have := hbn.out; omega) (by have := hbn.out; have := zBg; omega) (Nat.le_refl _)
 have B2 : Below W1.heap.size W1 W2 := (Below.refl _ _).grown hg2 (Nat.le_refl _) (fun k e => by cases e)
 have r2 : Row RVolume 5 (Lo10 A w) W1 W2 79 (.slice (some ⟨W1.heap.size, 0, none⟩) 0 F.length) ((allL Prod.fst L).take 0) := ⟨[], ⟨B2, hown⟩, Chunks.nil _ _⟩
 have m2 := hm.out.on (on2 B1 B2)
 have HU : Hid (∀ u, Below W1.heap.size W1 u -> BoxL u w.heap.size [.slice a n cap, .map (some mb)] /\ SlAt RVolume 5 72 (Lo10 A w) u a n cap L /\ Below w.heap.size w u) := fun u hb => ⟨q1.on hb, (hL.out.weak RVolume.firm (fun b hb h => ⟨h, hb⟩)).on RVolume.firm (on2 B1 hb), on2 B1 hb⟩
 have HA : Hid (∀ k, k < F.length -> F.getD k default < n /\ (allL Prod.fst L).take (k + 1) = (allL Prod.fst L).take k ++ [L.getD (F.getD k default) default] /\ (firstsZ (L.map Prod.fst)).getD k default = ((F.getD k default : Nat) : Int)) := fun k hk => by rw [hF] at hk |-; rw [<- hnl.out]; exact allL_at Prod.fst hk
 have HFl : Hid ((firstsZ (L.map Prod.fst)).length = F.length) := by rw [Hid, hF]; unfold firstsZ; rw [List.length_map]
 have HAl : Hid ((allL Prod.fst L).length = F.length) := by rw [Hid, hF]; exact zCO _ _
 have c1 := (q1.2 1 _ rfl).1
 have c1' := ((q1.on B2).2 1 _ rfl).1
 have hsz1 : W1.heap.size < W2.heap.size := (hown.lt W1.heap.size rfl).2
 have hCv := zCw (some mb) W2
 have hCs := zBs m2 (by rw [List.length_map, hnl.out]; have := hbn.out; omega)
 have H2 : Hid (Row RVolume 5 (Lo10 A w) W1 W2 79 (.slice (some ⟨W1.heap.size, 0, none⟩) 0 F.length) ((allL Prod.fst L).take 0) /\ W1.heap.size < W2.heap.size /\ Below W1.heap.size W1 W2) := ⟨r2, hsz1, B2⟩
 have Hw1 : Hid (w.heap.size < W1.heap.size /\ Below w.heap.size w W1) := ⟨q1.1, B1⟩
 unfold SrtOut at hCs
 clear hL hm B1 q1 hown hg2 B2 r2 m2 hi0 hz0 hz1 hz2 hF hsz1
 generalize allL Prod.fst L = M at H2 HA HAl
 generalize firstsZ (L.map Prod.fst) = Zs at hCs HA HFl
 have HCs : Hid (Calls Tryz.prog 200 #[.func (.func 219) #[] #[.pointer (some ⟨W2.heap.size, 0, none⟩)]] (W2.alloc (.cells #[.map (some mb)] 165)) (fun e w' => ∃ v, e = .returned v /\ Row RInt 1 (fun _ => False) W2 w' 3 v Zs)) := hCs
 clear hCs
 go_enter Tryz.func173, Tryz.ntmps173
 go_upto_region 1 with fail
 rw [<- hW1]
 clear hW1
 go_upto_region 2 with fail
 clear hmk hln c1
 go_wp2_with fail
 refine hCv.mono ?_
 rintro e w3 ⟨rfl, rfl⟩
 clear hCv
 go_wp2_with fail
 refine HCs.out.mono ?_
 rintro e w4 ⟨s, rfl, hrs⟩
 clear HCs c1'
 have b4 : Below W2.heap.size W2 w4 := hrs.below
 have hbs : Beside RVolume 5 (Lo10 A w) W1 w4 79 (.slice (some ⟨W1.heap.size, 0, none⟩) 0 F.length) s (M.take 0) Zs := ⟨H2.out.1.on RVolume.firm b4, hrs.from RInt.firm H2.out.2.2 (fun _ h => h), fun b hb e => by
  have h1 := (hrs.lt e).1
  have h2 := H2.out.2.1
  simp only [Value.ownBlock, Option.some.injEq] at hb
  omega⟩
 obtain ⟨sa, sn, sc, rfl, ss⟩ := hrs.sl10 (bytes := 8) RInt.firm (by rw [HFl.out]; have := hbn.out; omega)
 have hsn : Hid (sn = F.length) := by rw [Hid, <- ss.1]; exact HFl.out
 have hsnl := ss.len (by decide)
 have HI : Hid (Beside RVolume 5 (Lo10 A w) W1 w4 79 (.slice (some ⟨W1.heap.size, 0, none⟩) 0 F.length) (.slice sa sn sc) (M.take 0) Zs) := hbs
 clear hrs b4 hbs ss H2
 go_wp2_with fail
 go_loopw [3, 15] (fun o i wr => ∃ k : Nat, k <= sn /\ i = .int .i64 k /\ Hid (Beside RVolume 5 (Lo10 A w) W1 wr 79 o (.slice sa sn sc) (M.take k) Zs)) (fun _ i _ => sn - (intOf i).toNat)
 case atStart => exact ⟨0, Nat.zero_le _, rfl, HI⟩
 case round =>
  obtain ⟨k, hk, rfl, hrun⟩ := hrel
  have hbs := hrun.out
  clear hrun HI
  obtain ⟨hq, hS, hbw⟩ := HU.out wr hbs.below
  by_cases hlt : k < sn
  ·have hltz : (k : Int) < (sn : Int) := by omega
   obtain ⟨ja, jb, jc⟩ := HA.out k (by rw [<- hsn.out]; exact hlt)
   obtain ⟨j, hj⟩ : ∃ j, j = F.getD k default := ⟨_, rfl⟩
   rw [<- hj] at ja jb jc
   clear hj
   have hjz : (j : Int) < (n : Int) := by omega
   obtain ⟨_, _, _, es, ss⟩ := hbs.2.1.sl10 (bytes := 8) RInt.firm (by rw [HFl.out]; have := hbn.out; omega)
   cases es
   obtain ⟨Bs, os, rfl, hBs, _, ys, hys, hyv⟩ := ss.get hlt
   obtain rfl : ys = [.int .i64 (Zs.getD k default)] := hys
   have d0 := hyv 0 _ rfl
   rw [jc, Nat.mul_one, Nat.add_zero] at d0
   obtain ⟨B, off, rfl, hB, hAB, xs, hr, hv⟩ := hS.get ja
   have HT : Hid (M.take (k + 1) = M.take k ++ [L.getD j default]) := jb
   have HLk : Hid ((M.take k).length <= k) := by rw [Hid, List.length_take]; omega
   generalize L.getD j default = x at hr HT
   obtain ⟨⟨q1, q2, q3⟩, rfl, _⟩ := hr.out
   have HV0 : Hid (wr.rangeAt B (off + j * 5) [.string x.1, .int .i64 x.2.1, .string x.2.2.1, .slice q1 q2 q3, .string (vCl x)]) := hv
   have hi : (Tryz.prog.info? 79).map (·.size) = some ([.string x.1, .int .i64 x.2.1, .string x.2.2.1, .slice q1 q2 q3, .string (vCl x)] : List Value).length := zAa
   obtain ⟨Wb, hWb⟩ : ∃ W, W = wr.alloc (.cells #[.string x.1, .int .i64 x.2.1, .string x.2.2.1, .slice q1 q2 q3, .string (vCl x)] 79) := ⟨_, rfl⟩
   have bWb : Below wr.heap.size wr Wb := by rw [hWb]; go_grown
   have HB2 : Hid (Beside RVolume 5 (Lo10 A w) W1 Wb 79 u3 (.slice (some ⟨Bs, os, none⟩) sn sc) (M.take k) Zs) := hbs.on RVolume.firm bWb
   have HSr : Hid (Src RVolume 5 (fun b => Lo10 A w b /\ u3.ownBlock ≠ some b) Wb (some ⟨wr.heap.size, 0, none⟩) 1 [x]) := zCk RVolume.firm (cs := [.string x.1, .int .i64 x.2.1, .string x.2.2.1, .slice q1 q2 q3, .string (vCl x)]) (by rw [hWb]; exact BoxL.new wr 79 _) (RVolume.firm.weak (RVolume.firm.kept hr (Kept.below bWb)) (fun b _ h => ⟨h, fun e => by have h1 := (hbs.1.lt e).1; have h2 := h.2; have h3 := Hw1.out.1; omega⟩))
   have HWb : Hid (Wb = wr.alloc (.cells #[.string x.1, .int .i64 x.2.1, .string x.2.2.1, .slice q1 q2 q3, .string (vCl x)] 79)) := hWb
   have HOb : Hid (((M.take k).length + [x].length) * 80 <= 140737488355328) := by have h1 := HLk.out; have h2 := hrb; have h3 := hsn.out; rw [Hid, List.length_singleton]; omega
   have c0 := (hq.2 0 _ rfl).1
   have HRw : Hid (Row RVolume 5 (Lo10 A w) W1 Wb 79 u3 (M.take k)) := HB2.out.1
   clear hq hS hbw hr hv hyv ss hbs hWb bWb jb jc HLk hB hAB hBs
   generalize x.1 = p0 at HV0 hi HWb
   generalize x.2.1 = p1 at HV0 hi HWb
   generalize x.2.2.1 = p2 at HV0 hi HWb
   generalize vCl x = p4 at HV0 hi HWb
   go_wp2_with (first | (refine wpList_load_mid rfl 79 _ rfl B (off + j * 5) rfl [.string p0, .int .i64 p1, .string p2, .slice q1 q2 q3, .string p4] _ HV0.out Tryz.underlying79 rfl hi ?_) | (at_builtin; refine zAN HWb.out ?_; go_must (refine zAL RVolume.firm (A := Lo10 A w) (w0 := W1) rfl _ _ 24 79 rfl _ 80 zBR Tryz.underlying24 rfl (by decide) (by decide) u3 (M.take k) rfl HRw.out (some ⟨wr.heap.size, 0, none⟩) 1 1 [x] rfl HSr.out HOb.out ?_); intro v7 u7 hr7 hg7 hw7) | fail)
   have HN : Hid (Beside RVolume 5 (Lo10 A w) W1 u7 79 v7 (.slice (some ⟨Bs, os, none⟩) sn sc) (M.take (k + 1)) Zs) := by rw [Hid, HT.out]; exact HB2.out.app hr7 hg7 hw7
   clear hr7 hg7 hw7 HB2 HT HSr HOb HRw HV0 HWb c0 d0
   go_roundw
   case rel => exact ⟨k + 1, by omega, by go_num, HN⟩
   case measure => simp [intOf]; omega
  ·have htk : M.take k = M := List.take_of_length_le (by rw [HAl.out, <- hsn.out]; omega)
   rw [htk] at hbs
   have HF : Hid (Row RVolume 5 (Lo10 A w) w wr 79 u3 M) := hbs.1.from RVolume.firm Hw1.out.2 (fun _ h => h)
   clear hq hS hbw hbs htk
   go_wp2_with fail
   go_ret
   exact ⟨_, rfl, HF.out⟩
def orP : List Int -> Int
 | [] => 0
 | x :: r => if x = 0 then orP r else x
theorem orP_drop {L : List Int} {k : Nat} (h : k < L.length) : orP (L.drop k) = if L.getD k default = 0 then orP (L.drop (k + 1)) else L.getD k default := by
 rw [List.drop_eq_getElem_cons h, List.getD_eq_getElem?_getD, List.getElem?_eq_getElem h]
 rfl
theorem zGY (a : Option Addr) (n cap : Nat) (A : Where) (L : List Int) (w : World) (hL : Hid (SlAt RInt 1 8 A w a n cap L)) : Calls Tryz.prog 221 #[.slice a n cap] w fun e w' => e = .returned (.int .i64 (orP L)) /\ w' = w := by
 have hnl : Hid (L.length = n) := hL.out.1
 have hlen := hL.out.len (by decide)
 go_enter Tryz.func221, Tryz.ntmps221
 go_wp2_with fail
 go_loopw [8] (fun i wr => ∃ k : Nat, k <= n /\ i = .int .i64 k /\ Hid (orP (L.drop k) = orP L) /\ wr = w) (fun i _ => n - (intOf i).toNat)
 case atStart => exact ⟨0, Nat.zero_le _, rfl, (rfl : orP (L.drop 0) = orP L), rfl⟩
 case round =>
  obtain ⟨k, hk, rfl, ho, rfl⟩ := hrel
  by_cases hlt : k < n
  ·have hltz : (k : Int) < (n : Int) := by omega
   have hst := orP_drop (L := L) (k := k) (by rw [hnl.out]; exact hlt)
   obtain ⟨B, off, rfl, hB, hAB, xs, hr, hv⟩ := hL.out.get hlt
   obtain rfl : xs = [.int .i64 (L.getD k default)] := hr
   have d0 := hv 0 _ rfl
   rw [Nat.mul_one, Nat.add_zero] at d0
   clear hv hB hAB
   have HS : Hid (orP L = if L.getD k default = 0 then orP (L.drop (k + 1)) else L.getD k default) := by rw [Hid, <- ho.out]; exact hst
   clear hst ho
   generalize L.getD k default = z at d0 HS
   by_cases hz : z = 0
   ·subst hz
    have HN : Hid (orP (L.drop (k + 1)) = orP L) := by have := HS.out; rw [if_pos rfl] at this; exact this.symm
    clear HS
    go_wp2_with fail
    go_roundw
    case rel => exact ⟨k + 1, by omega, by go_num, HN, by simp⟩
    case measure => simp [intOf]; omega
   ·have HN : Hid (orP L = z) := by have := HS.out; rwa [if_neg hz] at this
    clear HS
    go_wp2_with fail
    go_ret
    exact ⟨by rw [HN.out]; rfl, rfl⟩
  ·have HN : Hid (orP L = 0) := by
    have := ho.out
    rw [List.drop_of_length_le (by rw [hnl.out]; omega)] at this
    exact this.symm
   clear ho
   go_wp2_with fail
   go_ret
   exact ⟨by rw [HN.out]; rfl, rfl⟩
def cmpZ (v w : VolumeD) : Int := if Lib.compareInt v.2.1 w.2.1 = 0 then Lib.compareBytes v.1.data.toList w.1.data.toList else Lib.compareInt v.2.1 w.2.1
theorem cmpZ_or (v w : VolumeD) : orP [Lib.compareInt v.2.1 w.2.1, Lib.compareBytes v.1.data.toList w.1.data.toList] = cmpZ v w := by
 unfold orP orP orP cmpZ
 split
 ·split
  ·rename_i h; exact h.symm
  ·rfl
 ·rfl
theorem cmpZ_less (v w : VolumeD) : decide (cmpZ v w < 0) = lessV v w := by
 rw [Bool.eq_iff_iff, decide_eq_true_eq, zAq, zAl]
 unfold cmpZ Lib.compareInt
 by_cases h1 : v.2.1 < w.2.1
 ·simp [h1]
 ·by_cases h2 : w.2.1 < v.2.1
  ·simp [h1, h2]
   omega
  ·have : v.2.1 = w.2.1 := by omega
   simp [this]
abbrev asZ (l : List Nat) : List Int := l.map (fun k : Nat => (k : Int))
theorem suit_succ (c : ClaimD) (L : List VolumeD) (k : Nat) : asZ (suitI c L (k + 1)) = asZ (suitI c L k) ++ (if suitP c (L.getD k default) = true then [(k : Int)] else []) := by
 unfold asZ suitI
 rw [List.range_succ, List.filter_append, List.map_append]
 congr 1
 simp only [List.filter_cons, List.filter_nil]
 split <;> rfl
theorem zGr (c : ClaimD) (L : List VolumeD) (k : Nat) : (asZ (suitI c L k)).length <= k := by
 unfold asZ suitI
 rw [List.length_map]
 have := List.length_filter_le (fun i => suitP c (L.getD i default)) (List.range k)
 rwa [List.length_range] at this
theorem infoI10 : (Tryz.prog.info? 3).map (fun i => (i.zero, i.size, i.bytes)) = some (some (.int .i64 0), 1, 8) := by kernel_rfl
def SuiOut (w : World) (l : List Nat) (e : Ending) (w' : World) : Prop := ∃ v, e = .returned v /\ Row RInt 1 (fun _ => False) w w' 3 v (asZ l)
theorem zDv (a : Option Addr) (n cap bp : Nat) (A : Where) (L : List VolumeD) (cs : List Value) (A' : Where) (c : ClaimD) (w : World) (hL : Hid (SlAt RVolume 5 bp A w a n cap L)) (hbn : n * 8 <= 140737488351232) (hc : RClaim A' w cs c) :
  Calls Tryz.prog 205 #[.slice a n cap, .agg cs.toArray] w (SuiOut w (suitI c L n)) := by
 have hnl : Hid (L.length = n) := hL.out.1
 have hlen : n <= 140737488351232 := by omega
 have hlc := RClaim.firm.len hc
 have hic : (Tryz.prog.info? 96).map (·.size) = some cs.length := by rw [hlc]; exact zBi
 obtain ⟨W1, hW1⟩ : ∃ W, W = w.alloc (.cells cs.toArray 96) := ⟨_, rfl⟩
 have B1 : Below w.heap.size w W1 := by rw [hW1]; go_grown
 have q1 : BoxL W1 w.heap.size cs := by rw [hW1]; exact BoxL.new w 96 _
 have HU : Hid (∀ u, Below W1.heap.size W1 u -> BoxL u w.heap.size cs /\ RClaim A' u cs c /\ SlAt RVolume 5 bp A u a n cap L) := fun u hb => ⟨q1.on hb, RClaim.firm.kept hc (Kept.below (on2 B1 hb)), hL.out.on RVolume.firm (on2 B1 hb)⟩
 have HB1 : Hid (Below w.heap.size w W1) := B1
 clear hL hc B1 q1
 have HR0 : Hid (Row RInt 1 (fun _ => False) W1 W1 3 (.slice none 0 0) (asZ (suitI c L 0))) := Row.nil _ _ _
 go_enter Tryz.func205, Tryz.ntmps205
 go_upto_region 1 with fail
 rw [<- hW1]
 clear hW1
 go_wp2_with fail
 go_loopw [5, 10] (fun o i wr => ∃ k : Nat, k <= n /\ i = .int .i64 k /\ Hid (Row RInt 1 (fun _ => False) W1 wr 3 o (asZ (suitI c L k)))) (fun _ i _ => n - (intOf i).toNat)
 case atStart => exact ⟨0, Nat.zero_le _, rfl, HR0⟩
 case round =>
  obtain ⟨k, hk, rfl, hrun⟩ := hrel
  have hrw := hrun.out
  clear hrun HR0
  by_cases hlt : k < n
  ·have hltz : (k : Int) < (n : Int) := by omega
   obtain ⟨hqc, hcc, hS⟩ := HU.out wr hrw.below
   obtain ⟨B, off, rfl, hB, hAB, xs, hr, hv⟩ := hS.get hlt
   have hl : xs.length = 5 := RVolume.firm.len hr
   have hi : (Tryz.prog.info? 79).map (·.size) = some xs.length := by rw [hl]; exact zAa
   have hia : (Tryz.prog.info? 79).map (·.size) = some xs.toArray.size := by simpa using hi
   have HO : Hid (xs.toArray.all (·.oneCell') = true) := zAO (RVolume.firm.one hr)
   have HV0 : Hid (wr.rangeAt B (off + k * 5) xs) := hv
   obtain ⟨V, hV⟩ : ∃ V, V = (wr.alloc (.cells #[.string ⟨#[]⟩, .int .i64 0, .string ⟨#[]⟩, .slice none 0 0, .string ⟨#[]⟩] 79)).setCells wr.heap.size 0 xs := ⟨_, rfl⟩
   have HTh : Hid ((wr.alloc (.cells #[.string ⟨#[]⟩, .int .i64 0, .string ⟨#[]⟩, .slice none 0 0, .string ⟨#[]⟩] 79)).there wr.heap.size 0 xs.toArray.size) := by have e : xs.toArray.size = 5 := (by simp [hl]); rw [Hid, e]; exact (BoxL.new wr 79 [.string ⟨#[]⟩, .int .i64 0, .string ⟨#[]⟩, .slice none 0 0, .string ⟨#[]⟩]).there
   have bV : Below wr.heap.size wr V := by rw [hV]; exact zA0 ((Below.refl _ _).alloc (Nat.le_refl _) _) (Nat.le_refl _)
   have qV : BoxL V wr.heap.size xs := by rw [hV]; exact zA2 (BoxL.new wr 79 [.string ⟨#[]⟩, .int .i64 0, .string ⟨#[]⟩, .slice none 0 0, .string ⟨#[]⟩]) (by rw [hl]; rfl)
   have HWV : Hid (V = (wr.alloc (.cells #[.string ⟨#[]⟩, .int .i64 0, .string ⟨#[]⟩, .slice none 0 0, .string ⟨#[]⟩] 79)).setCells wr.heap.size 0 xs.toArray.toList) := by rw [Hid, hV]
   clear hV
   have hC := zCb xs _ (L.getD k default) cs _ c V (RVolume.firm.kept hr (Kept.below bV)) (RClaim.firm.kept hcc (Kept.below bV))
   have HX0 : Hid (V.rangeAt wr.heap.size 0 xs) := qV.range
   have HXc : Hid (V.rangeAt w.heap.size 0 cs) := (hqc.on bV).range
   have HT : Hid (asZ (suitI c L (k + 1)) = asZ (suitI c L k) ++ (if suitP c (L.getD k default) = true then [(k : Int)] else [])) := suit_succ c L k
   have HLn : Hid ((asZ (suitI c L k)).length <= k) := zGr c L k
   have HRw : Hid (∀ u, Below V.heap.size V u -> Row RInt 1 (fun _ => False) W1 u 3 u5 (asZ (suitI c L k))) := fun u hb => hrw.on RInt.firm (on2 bV hb)
   clear hr hv hrw qV bV hqc hcc hS hB hAB
   generalize suitP c (L.getD k default) = b at hC HT
   generalize asZ (suitI c L k) = N at HT HLn HRw
   go_wp2_with (first | (refine wpList_load_mid rfl 79 _ rfl B (off + k * 5) rfl xs _ HV0.out Tryz.underlying79 rfl hi ?_) | (refine wpList_store_mid rfl 79 _ _ rfl wr.heap.size 0 xs.toArray rfl rfl HTh.out hia HO.out ?_; refine zAN HWV.out ?_) | (refine wpList_load_mid rfl 79 _ rfl wr.heap.size 0 rfl xs _ HX0.out Tryz.underlying79 rfl hi ?_) | (refine wpList_load_mid rfl 96 _ rfl w.heap.size 0 rfl cs _ HXc.out Tryz.underlying96 rfl hic ?_) | fail)
   refine hC.mono ?_
   rintro e w6 ⟨rfl, hb6⟩
   have hr6 := HRw.out w6 hb6
   clear hC HTh HO HV0 HWV HX0 HXc hia HRw hb6
   cases b with
   | false =>
    have HN : Hid (Row RInt 1 (fun _ => False) W1 w6 3 u5 (asZ (suitI c L (k + 1)))) := by rw [Hid, HT.out]; simpa using hr6
    clear hr6 HT HLn
    go_wp2_with fail
    go_roundw
    case rel => exact ⟨k + 1, by omega, by go_num, HN⟩
    case measure => simp [intOf]; omega
   | true =>
    have hb3 : Below w6.heap.size w6 (w6.alloc (.cells #[.int .i64 (k : Int)] 3)) := (Below.refl _ _).alloc (Nat.le_refl _) _
    have HR3 : Hid (Row RInt 1 (fun _ => False) W1 (w6.alloc (.cells #[.int .i64 (k : Int)] 3)) 3 u5 N) := hr6.on RInt.firm hb3
    have HE : RInt (fun b => False /\ Value.ownBlock u5 ≠ some b) (w6.alloc (.cells #[.int .i64 (k : Int)] 3)) [.int .i64 (k : Int)] (k : Int) := rfl
    have H1 : Hid (∀ y ∈ [Value.int .i64 (k : Int)], y.oneCell' = true) := RInt.firm.one HE
    have HCh : Hid (Chunks RInt 1 (fun b => False /\ Value.ownBlock u5 ≠ some b) (w6.alloc (.cells #[.int .i64 (k : Int)] 3)) [.int .i64 (k : Int)] [(k : Int)]) := zAQ RInt.firm HE
    have HX : Hid (∀ j y, [Value.int .i64 (k : Int)][j]? = some y -> (w6.alloc (.cells #[.int .i64 (k : Int)] 3)).cell? ((⟨w6.heap.size, 0, none⟩ : Addr).add j) = some y) := zAV w6 _ 3
    have HLb2 : Hid ((N.length + [(k : Int)].length) * 8 <= 140737488355328) := by have h1 := HLn.out; rw [Hid, List.length_singleton]; omega
    have HT2 : Hid (N ++ [(k : Int)] = asZ (suitI c L (k + 1))) := by rw [Hid, HT.out]; rfl
    clear HE hb3 hr6 HT HLn
    go_wp2_with (at_builtin; go_must (refine zAF RInt.firm (A := (fun _ => False)) (w0 := W1) rfl _ _ 45 3 rfl _ 8 infoI10 Tryz.underlying45 rfl (by decide) (by decide) u5 N rfl HR3.out ⟨w6.heap.size, 0, none⟩ 1 1 _ [(k : Int)] rfl rfl HCh.out HX.out H1.out HLb2.out ?_); intro v4 w4 hrow4 hg4)
    have HN : Hid (Row RInt 1 (fun _ => False) W1 w4 3 v4 (asZ (suitI c L (k + 1)))) := by rw [Hid, <- HT2.out]; exact hrow4
    clear hrow4 hg4 HT2 HR3 HCh HX H1
    go_roundw
    case rel => exact ⟨k + 1, by omega, by go_num, HN⟩
    case measure => simp [intOf]; omega
  ·have hkn : k = n := by omega
   rw [hkn] at hrw
   have HF : Hid (Row RInt 1 (fun _ => False) w wr 3 u5 (asZ (suitI c L n))) := hrw.from RInt.firm HB1.out (fun _ h => h)
   clear hrw hkn
   go_wp2_with fail
   go_ret
   exact ⟨_, rfl, HF.out⟩
end Go.Proofs.YtnffafjamiffnaaGreat
