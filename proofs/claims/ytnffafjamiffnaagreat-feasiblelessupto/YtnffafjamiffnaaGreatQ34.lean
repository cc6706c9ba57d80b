/- censusOf: how many nodes, and how many pods of a spread, each domain has. Condition: the arguments lie as is said of them, and the function that is handed in answers as said. -/
import Derived.Test.YtnffafjamiffnaaGreatQ29
set_option linter.unusedSimpArgs false
set_option maxRecDepth 100000
set_option maxHeartbeats 32000000
namespace Go.Proofs.YtnffafjamiffnaaGreat
open Go.RowKit Go.Maps
theorem zAc {cs : List Value} (h : ∀ v ∈ cs, v.oneCell' = true) : cs.toArray.all (·.oneCell') = true := by
 simp only [List.all_toArray, List.all_eq_true]
 exact h
theorem load_w9 {ops : Array Oper} {rest : List Oper} {op : Oper} {a : Act} {w : World} {Q : Exit -> Act -> World -> Prop} (hgd : Region.wanted op (yielded ops a.tmps) = true) (ty : TypeId) (x : Operand) (ho : op.op = .load ty x)
  (b o : Nat) (hx : a.eval x = .pointer (some ⟨b, o, none⟩)) (cs : List Value) (d : TypeDesc) (hc : w.rangeAt b o cs)
  (hu : Tryz.prog.underlying ty = some d) (hd : d.isRow = true) (hi : (Tryz.prog.info? ty).map (·.size) = some cs.length)
  (h : wpList Tryz.prog ops Q rest (a.put op.dst (.agg cs.toArray)) w) : wpList Tryz.prog ops Q (op :: rest) a w :=
 BigFrame.wpList_want hgd (fun _ hK => wp_load_mid ty x ho b o hx cs d hc hu hd hi (hK _ _ h))
theorem sizeCe : (Tryz.prog.info? 221).map (·.size) = some 6 := by kernel_rfl
theorem sizeNo9 : (Tryz.prog.info? 54).map (·.size) = some 9 := by kernel_rfl
theorem sizePl9 : (Tryz.prog.info? 68).map (·.size) = some 17 := by kernel_rfl
theorem RNode.labs9 {A : Where} {w : World} {cs : List Value} {x : NodeD} (h : RNode A w cs x) : ∃ h1 : Hd, cs[1]? = some (.slice h1.1 h1.2.1 h1.2.2) /\ SlAt RLabel 2 32 A w h1.1 h1.2.1 h1.2.2 (nLabs x) := by
 obtain ⟨⟨c1, c2, c3⟩, _, rfl, _, sl, _⟩ := h.out
 exact ⟨(c1, c2, c3), rfl, sl⟩
theorem RPlaced.cut9 {A : Where} {w : World} {cs : List Value} {x : PlacedD} (h : RPlaced A w cs x) : ∃ (ps : List Value) (h1 : Hd), cs = ps ++ [.slice h1.1 h1.2.1 h1.2.2] /\ ps.length = 16 /\ RPod A w ps x.1 /\ SlAt RLabel 2 32 A w h1.1 h1.2.1 h1.2.2 x.2 := by
 obtain ⟨ps, qs, rfl, h1, a, n, c, rfl, h3⟩ := h
 exact ⟨ps, (a, n, c), rfl, RPod.firm.len h1, h1, h3⟩
abbrev Z6s : List Value := [.string ⟨#[]⟩, .int .i64 0, .int .i64 0, .slice none 0 0, .map none, .map none]
def CoS (w : World) (s : SpreadD) (r1 : Option Addr) (r2 r3 : Nat) (u : World) : Prop := BoxL u (w.heap.size + 1) Z6s /\ BoxL u (w.heap.size + 1 + 1 + 1 + 1) (cenV s r1 r2 r3 (w.heap.size + 1 + 1) (w.heap.size + 1 + 1 + 1))
theorem CoS.turned {w u u' : World} {s : SpreadD} {r1 : Option Addr} {r2 r3 m : Nat} (h : CoS w s r1 r2 r3 u) (ht : Turns (fun b => b = m) u u') (h1 : m ≠ (w.heap.size + 1)) (h2 : m ≠ (w.heap.size + 1 + 1 + 1 + 1)) : CoS w s r1 r2 r3 u' :=
 ⟨h.1.kept (ht.kept (A := fun b => b ≠ m) (fun _ k _ e => k e)) (fun e => h1 e.symm), h.2.kept (ht.kept (A := fun b => b ≠ m) (fun _ k _ e => k e)) (fun e => h2 e.symm)⟩
theorem CoS.on {w u u' : World} {s : SpreadD} {r1 : Option Addr} {r2 r3 : Nat} (h : CoS w s r1 r2 r3 u) (hb : Below u.heap.size u u') : CoS w s r1 r2 r3 u' := ⟨h.1.on hb, h.2.on hb⟩
theorem behind9 {w u u' : World} {m : Nat} (h : Below w.heap.size w u) (ht : Turns (fun b => b = m) u u') (hm : w.heap.size <= m) : Below w.heap.size w u' := Turns.behind h (ht.weak (fun b _ e => by rw [e]; exact hm))
def CofOut (w : World) (s : SpreadD) (r1 : Option Addr) (r2 r3 : Nat) (N : List NodeD) (Q : List PlacedD) (e : Ending) (w' : World) : Prop :=
 ∃ m1 m2, e = .returned (.agg #[.string s.1, .int .i64 s.2.1, .int .i64 s.2.2.1, .slice r1 r2 r3, .map (some m1), .map (some m2)]) /\ CenAt w' s r1 r2 r3 m1 m2 N Q /\ Below w.heap.size w w'
theorem zDH (s : SpreadD) (r1 : Option Addr) (r2 r3 : Nat) (a : Option Addr) (n cap : Nat) (N : List NodeD) (b : Option Addr) (m capb bp : Nat) (Pl : List PlacedD) (hbp : 0 < bp) (g : Nat) (lb : Array Value) (ig : PodD -> Bool) (eg : ∀ args w, (callFunc g args).run Tryz.prog w = .ok (.enter g args) w) (w : World) (hR : Hid (SlAt RReq 3 48 (fun _ => True) w r1 r2 r3 (sReqs s))) (hN : Hid (SlAt RNode 9 112 (fun _ => True) w a n cap N)) (hP : Hid (SlAt RPlaced 17 bp (fun _ => True) w b m capb Pl)) (hI : Hid (PredP g lb ig w)) :
  Calls Tryz.prog 124 #[.agg #[.string s.1, .int .i64 s.2.1, .int .i64 s.2.2.1, .slice r1 r2 r3], .slice a n cap, .slice b m capb, .func (.func g) #[] lb] w (CofOut w s r1 r2 r3 N (left9 ig Pl)) := by
 have hnl : Hid (N.length = n) := hN.out.1
 have hml : Hid (Pl.length = m) := hP.out.1
 have hbn : Hid (n * 112 <= 140737488351232) := hN.out.2.2.2.1
 have hbm : Hid (m <= 140737488351232) := Nat.le_trans (Nat.le_mul_of_pos_right m hbp) hP.out.2.2.2.1
 have hlen := hN.out.len (by decide)
 have hlem := hP.out.len hbp
 have HZ : Hid ((∀ v ∈ domsP s.1 N, v.size <= 140737488355328) /\ (domsP s.1 N).length * 16 <= 140737488351232) := ⟨doms_size hN.out s.1, by have h1 := doms_le s.1 N; have h2 := hbn.out; rw [hnl.out] at h1; omega⟩
 have HU : Hid (∀ u, Below w.heap.size w u -> SlAt RReq 3 48 (fun _ => True) u r1 r2 r3 (sReqs s) /\ SlAt RNode 9 112 (fun _ => True) u a n cap N /\ SlAt RPlaced 17 bp (fun _ => True) u b m capb Pl) := fun u hb => ⟨hR.out.on RReq.firm hb, hN.out.on RNode.firm hb, hP.out.on RPlaced.firm hb⟩
 clear hR hN hP
 obtain ⟨W1, hW1⟩ : ∃ W, W = (w.alloc (.cells #[.string s.1, .int .i64 s.2.1, .int .i64 s.2.2.1, .slice r1 r2 r3] 135)).alloc (.cells #[.string ⟨#[]⟩, .int .i64 0, .int .i64 0, .slice none 0 0, .map none, .map none] 221) := ⟨_, rfl⟩
 have q0 : BoxL W1 w.heap.size [.string s.1, .int .i64 s.2.1, .int .i64 s.2.2.1, .slice r1 r2 r3] := by rw [hW1]; exact (BoxL.new w 135 _).on ((Below.refl _ _).alloc (Nat.le_refl _) _)
 have hz1 : W1.heap.size = w.heap.size + 1 + 1 := by rw [hW1]; simp
 have B1 : Below w.heap.size w W1 := by rw [hW1]; go_grown
 have qr : BoxL W1 (w.heap.size + 1) Z6s := by rw [hW1]; have := BoxL.new (w.alloc (.cells #[.string s.1, .int .i64 s.2.1, .int .i64 s.2.2.1, .slice r1 r2 r3] 135)) 221 Z6s; simpa using this
 obtain ⟨W2, hW2⟩ : ∃ W, W = ((W1.alloc (.map #[] 0)).alloc (.map #[] 0)).alloc (.cells #[.string ⟨#[]⟩, .int .i64 0, .int .i64 0, .slice none 0 0, .map none, .map none] 221) := ⟨_, rfl⟩
 have hz2 : W2.heap.size = w.heap.size + 1 + 1 + 1 + 1 + 1 := by rw [hW2]; simp [hz1]
 have q2 : BoxL W2 (w.heap.size + 1 + 1 + 1 + 1) Z6s := by rw [hW2]; have := BoxL.new ((W1.alloc (.map #[] 0)).alloc (.map #[] 0)) 221 Z6s; simpa [hz1] using this
 have B2 : Below W1.heap.size W1 W2 := by rw [hW2]; go_grown
 have e1 : MpAt W2 (w.heap.size + 1 + 1) 0 (fun _ => 0) (fun _ => false) := by rw [hW2]; have := (MpAt.made W1).on (((Below.refl _ _).alloc (Nat.le_refl _) (.map #[] 0)).alloc (by simp) (.cells #[.string ⟨#[]⟩, .int .i64 0, .int .i64 0, .slice none 0 0, .map none, .map none] 221)); rw [hz1] at this; exact this
 have e2 : MpAt W2 (w.heap.size + 1 + 1 + 1) 0 (fun _ => 0) (fun _ => false) := by rw [hW2]; have := (MpAt.made (W1.alloc (.map #[] 0))).on ((Below.refl _ _).alloc (Nat.le_refl _) (.cells #[.string ⟨#[]⟩, .int .i64 0, .int .i64 0, .slice none 0 0, .map none, .map none] 221)); simpa [hz1] using this
 obtain ⟨W3, hW3⟩ : ∃ W, W = W2.setCells (w.heap.size + 1 + 1 + 1 + 1) 0 (cenV s r1 r2 r3 (w.heap.size + 1 + 1) (w.heap.size + 1 + 1 + 1)) := ⟨_, rfl⟩
 have HWV : Hid (W3 = W2.setCells (w.heap.size + 1 + 1 + 1 + 1) 0 (#[.string s.1, .int .i64 s.2.1, .int .i64 s.2.2.1, .slice r1 r2 r3, .map (some (w.heap.size + 1 + 1)), .map (some (w.heap.size + 1 + 1 + 1))] : Array Value).toList) := by rw [Hid, hW3]
 have HTh : Hid (W2.there (w.heap.size + 1 + 1 + 1 + 1) 0 (#[.string s.1, .int .i64 s.2.1, .int .i64 s.2.2.1, .slice r1 r2 r3, .map (some (w.heap.size + 1 + 1)), .map (some (w.heap.size + 1 + 1 + 1))] : Array Value).size) := q2.there
 have k3 : Kept (fun b => b ≠ (w.heap.size + 1 + 1 + 1 + 1)) W2 W3 := by rw [hW3]; exact zA1 (fun h => h rfl)
 have C3 : CoS w s r1 r2 r3 W3 := ⟨(qr.on B2).kept k3 (by omega), by rw [hW3]; exact zA2 q2 rfl⟩
 have B3 : Below w.heap.size w W3 := by rw [hW3]; exact zA0 (on2 B1 B2) (by omega)
 have f1 : MpAt W3 (w.heap.size + 1 + 1) 0 (fun _ => 0) (fun _ => false) := e1.same (k3.2 _ (by omega) e1.lt)
 have f2 : MpAt W3 (w.heap.size + 1 + 1 + 1) 0 (fun _ => 0) (fun _ => false) := e2.same (k3.2 _ (by omega) e2.lt)
 have c0 := (q0.2 0 _ rfl).1
 have c1 := (q0.2 1 _ rfl).1
 have c2 := (q0.2 2 _ rfl).1
 have c3 := (q0.2 3 _ rfl).1
 have hsz6 : (Tryz.prog.info? 221).map (·.size) = some (#[.string s.1, .int .i64 s.2.1, .int .i64 s.2.2.1, .slice r1 r2 r3, .map (some (w.heap.size + 1 + 1)), .map (some (w.heap.size + 1 + 1 + 1))] : Array Value).size := sizeCe
 have HOc : Hid ((#[.string s.1, .int .i64 s.2.1, .int .i64 s.2.2.1, .slice r1 r2 r3, .map (some (w.heap.size + 1 + 1)), .map (some (w.heap.size + 1 + 1 + 1))] : Array Value).all (·.oneCell') = true) := by rw [Hid]; simp [Value.oneCell']
 have HS3 : Hid (CoS w s r1 r2 r3 W3 /\ Below w.heap.size w W3) := ⟨C3, B3⟩
 have HE1 : Hid (∃ f, MpAt W3 (w.heap.size + 1 + 1) 0 f (qD s.1 (N.take 0))) := ⟨_, f1⟩
 have HE2 : Hid (MpAt W3 (w.heap.size + 1 + 1 + 1) 0 (fun v => cntP s v (left9 ig (Pl.take 0))) (fun _ => false)) := f2
 have hmm := @run_makeMap Tryz.prog
 have HW2 : Hid (W2 = ((W1.alloc (.map #[] 0)).alloc (.map #[] 0)).alloc (.cells #[.string ⟨#[]⟩, .int .i64 0, .int .i64 0, .slice none 0 0, .map none, .map none] 221)) := hW2
 clear q0 qr q2 B1 B2 e1 e2 f1 f2 C3 B3 k3 hW3 hW2 hz2
 go_enter Tryz.func124, Tryz.ntmps124
 go_upto_region 1 with fail
 rw [<- hW1]
 clear hW1
 go_upto_region 2 with (first | (refine zAN HW2.out ?_; refine wpList_store_mid rfl 221 _ _ rfl (w.heap.size + 1 + 1 + 1 + 1) 0 #[.string s.1, .int .i64 s.2.1, .int .i64 s.2.2.1, .slice r1 r2 r3, .map (some (w.heap.size + 1 + 1)), .map (some (w.heap.size + 1 + 1 + 1))] rfl rfl HTh.out hsz6 HOc.out ?_; refine zAN HWV.out ?_) | fail)
 clear HW2 HWV HTh HOc c0 c1 c2 c3 hmm
 have HI1 : Hid ((∃ f, MpAt W3 (w.heap.size + 1 + 1) 0 f (qD s.1 (N.take 0))) /\ MpAt W3 (w.heap.size + 1 + 1 + 1) 0 (fun v => cntP s v (left9 ig (Pl.take 0))) (fun _ => false) /\ CoS w s r1 r2 r3 W3 /\ Below w.heap.size w W3) := ⟨HE1.out, HE2.out, HS3.out⟩
 clear HE1 HE2 HS3
 go_wp2_with fail
 go_loopw [20] (fun i wr => ∃ k : Nat, k <= n /\ i = .int .i64 k /\ Hid ((∃ f, MpAt wr (w.heap.size + 1 + 1) k f (qD s.1 (N.take k))) /\ MpAt wr (w.heap.size + 1 + 1 + 1) 0 (fun v => cntP s v (left9 ig (Pl.take 0))) (fun _ => false) /\ CoS w s r1 r2 r3 wr /\ Below w.heap.size w wr)) (fun i _ => n - (intOf i).toNat)
 case atStart => exact ⟨0, Nat.zero_le _, rfl, HI1⟩
 case round =>
  obtain ⟨k, hk, rfl, hrun⟩ := hrel
  obtain ⟨⟨f, hm1⟩, hm2, hco, hbw⟩ := hrun.out
  clear hrun
  by_cases hlt : k < n
  ·have hltz : (k : Int) < (n : Int) := by omega
   have hkl : k < N.length := by rw [hnl.out]; exact hlt
   obtain ⟨B, off, rfl, hB, hAB, xs, hr, hv⟩ := (HU.out wr hbw).2.1.get hlt
   obtain ⟨⟨g1, g2, g3⟩, e1, sl⟩ := hr.labs9
   simp only at e1 sl
   have HQ : Hid (∀ v, ctQ (qD s.1 (N.take k)) (getL (nLabs (N.getD k default)) s.1) v = qD s.1 (N.take (k + 1)) v) := fun v => qD_take s.1 hkl v
   have hl9 : xs.length = 9 := RNode.firm.len hr
   have hi9 : (Tryz.prog.info? 54).map (·.size) = some xs.length := by rw [hl9]; exact sizeNo9
   have hi9a : (Tryz.prog.info? 54).map (·.size) = some xs.toArray.size := by simpa using hi9
   have HO : Hid (xs.toArray.all (·.oneCell') = true) := zAc (RNode.firm.one hr)
   have HV0 : Hid (wr.rangeAt B (off + k * 9) xs) := hv
   have HVz : Hid ((wr.alloc (.cells #[.string ⟨#[]⟩, .slice none 0 0, .slice none 0 0, .bool false, .int .i64 0, .int .i64 0, .int .i64 0, .int .i64 0, .int .i64 0] 54)).rangeAt B (off + k * 9) xs) := fun j v hj => (((Below.refl _ wr).alloc (Nat.le_refl _) _).cell hB).trans (hv j v hj)
   obtain ⟨V, hV⟩ : ∃ V, V = (wr.alloc (.cells #[.string ⟨#[]⟩, .slice none 0 0, .slice none 0 0, .bool false, .int .i64 0, .int .i64 0, .int .i64 0, .int .i64 0, .int .i64 0] 54)).setCells wr.heap.size 0 xs := ⟨_, rfl⟩
   have HTh : Hid ((wr.alloc (.cells #[.string ⟨#[]⟩, .slice none 0 0, .slice none 0 0, .bool false, .int .i64 0, .int .i64 0, .int .i64 0, .int .i64 0, .int .i64 0] 54)).there wr.heap.size 0 xs.toArray.size) := by have e : xs.toArray.size = 9 := (by simp [hl9]); rw [Hid, e]; exact (BoxL.new wr 54 [.string ⟨#[]⟩, .slice none 0 0, .slice none 0 0, .bool false, .int .i64 0, .int .i64 0, .int .i64 0, .int .i64 0, .int .i64 0]).there
   have bV : Below wr.heap.size wr V := by rw [hV]; exact zA0 ((Below.refl _ _).alloc (Nat.le_refl _) _) (Nat.le_refl _)
   have qV : BoxL V wr.heap.size xs := by rw [hV]; exact zA2 (BoxL.new wr 54 [.string ⟨#[]⟩, .slice none 0 0, .slice none 0 0, .bool false, .int .i64 0, .int .i64 0, .int .i64 0, .int .i64 0, .int .i64 0]) (by rw [hl9]; rfl)
   have HWV : Hid (V = (wr.alloc (.cells #[.string ⟨#[]⟩, .slice none 0 0, .slice none 0 0, .bool false, .int .i64 0, .int .i64 0, .int .i64 0, .int .i64 0, .int .i64 0] 54)).setCells wr.heap.size 0 xs.toArray.toList) := by rw [Hid, hV]
   clear hV
   have hC := zCm s r1 r2 r3 (w.heap.size + 1 + 1) (w.heap.size + 1 + 1 + 1) (w.heap.size + 1 + 1) k f _ g1 g2 g3 _ (nLabs (N.getD k default)) V (hm1.on bV) (by have := hbn.out; omega) (sl.on RLabel.firm bV)
   have n1 := (qV.2 1 _ e1).1
   obtain ⟨c0, c1, c2, c3, c4, c5⟩ := AdSs.of (hco.on bV).2
   have HN1 : Hid (∀ u, MpAt u (w.heap.size + 1 + 1) (k + 1) (ctF f (getL (nLabs (N.getD k default)) s.1)) (ctQ (qD s.1 (N.take k)) (getL (nLabs (N.getD k default)) s.1)) -> Turns (fun b => b = (w.heap.size + 1 + 1)) V u -> (∃ f, MpAt u (w.heap.size + 1 + 1) (k + 1) f (qD s.1 (N.take (k + 1)))) /\ MpAt u (w.heap.size + 1 + 1 + 1) 0 (fun v => cntP s v (left9 ig (Pl.take 0))) (fun _ => false) /\ CoS w s r1 r2 r3 u /\ Below w.heap.size w u) := fun u h1 h2 => ⟨⟨_, h1.as (fun _ => rfl) HQ.out⟩, (hm2.on bV).turned h2 (by omega), (hco.on bV).turned h2 (by omega) (by omega), behind9 (on2 hbw bV) h2 (by omega)⟩
   clear hr hv hm1 hm2 hco hbw sl HQ qV bV e1
   generalize N.getD k default = x at hC HN1
   generalize ctF f (getL (nLabs x) s.1) = f' at hC HN1
   generalize ctQ (qD s.1 (N.take k)) (getL (nLabs x) s.1) = q' at hC HN1
   go_wp2_with (first | (refine wpList_load_mid rfl 54 _ rfl B (off + k * 9) rfl xs _ HV0.out Tryz.underlying54 rfl hi9 ?_) | (refine wpList_load_mid rfl 54 _ rfl B (off + k * 9) rfl xs _ HVz.out Tryz.underlying54 rfl hi9 ?_) | (refine wpList_store_mid rfl 54 _ _ rfl wr.heap.size 0 xs.toArray rfl rfl HTh.out hi9a HO.out ?_; refine zAN HWV.out ?_) | fail)
   refine hC.mono ?_
   rintro e w6 ⟨rfl, hm6, ht6⟩
   have HN2 := HN1.out w6 hm6 ht6
   clear hC hm6 ht6 HN1 c0 c1 c2 c3 c4 c5 n1 HTh HO HV0 HVz HWV
   have HN3 : Hid ((∃ f, MpAt w6 (w.heap.size + 1 + 1) (k + 1) f (qD s.1 (N.take (k + 1)))) /\ MpAt w6 (w.heap.size + 1 + 1 + 1) 0 (fun v => cntP s v (left9 ig (Pl.take 0))) (fun _ => false) /\ CoS w s r1 r2 r3 w6 /\ Below w.heap.size w w6) := HN2
   clear HN2
   go_wp2_with fail
   go_roundw
   case rel => exact ⟨k + 1, by omega, by go_num, HN3⟩
   case measure => simp [intOf]; omega
  ·have htk : N.take k = N := List.take_of_length_le (by rw [hnl.out]; omega)
   have hkn : k = n := by omega
   rw [htk, hkn] at hm1
   obtain ⟨w4, rfl⟩ : ∃ u, u = wr := ⟨_, rfl⟩
   have HI2 : Hid ((∃ q, MpAt w4 (w.heap.size + 1 + 1 + 1) 0 (fun v => cntP s v (left9 ig (Pl.take 0))) q) /\ MpAt w4 (w.heap.size + 1 + 1) n f (qD s.1 N) /\ CoS w s r1 r2 r3 w4 /\ Below w.heap.size w w4) := ⟨⟨_, hm2⟩, hm1, hco, hbw⟩
   clear hm1 hm2 hco hbw htk hkn
   go_wp2_with fail
   go_loopw [33] (fun i wr => ∃ k : Nat, k <= m /\ i = .int .i64 k /\ Hid ((∃ q, MpAt wr (w.heap.size + 1 + 1 + 1) k (fun v => cntP s v (left9 ig (Pl.take k))) q) /\ MpAt wr (w.heap.size + 1 + 1) n f (qD s.1 N) /\ CoS w s r1 r2 r3 wr /\ Below w.heap.size w wr)) (fun i _ => m - (intOf i).toNat)
   case atStart => exact ⟨0, Nat.zero_le _, rfl, HI2⟩
   case round =>
    obtain ⟨k, hk, rfl, hrun⟩ := hrel
    obtain ⟨⟨q, hm2⟩, hm1, hco, hbw⟩ := hrun.out
    clear hrun HI2
    by_cases hlt : k < m
    ·have hltz : (k : Int) < (m : Int) := by omega
     have hkl : k < Pl.length := by rw [hml.out]; exact hlt
     have hkb : k < 140737488355328 := by have := hbm.out; omega
     obtain ⟨B, off, rfl, hB, hAB, xs, hr, hv⟩ := (HU.out wr hbw).2.2.get hlt
     have HNo : Hid (hit9 ig s (Pl.getD k default) = false -> ∀ v, cntP s v (left9 ig (Pl.take k)) = cntP s v (left9 ig (Pl.take (k + 1)))) := fun h v => cnt_no9 ig s hkl h v
     have HYes : Hid (hit9 ig s (Pl.getD k default) = true -> ∀ v, ctF (fun v => cntP s v (left9 ig (Pl.take k))) (getL (Pl.getD k default).2 s.1) v = cntP s v (left9 ig (Pl.take (k + 1)))) := fun h v => cnt_yes9 ig s hkl h v
     generalize hx : Pl.getD k default = x at hr HNo HYes
     clear hx
     have hl17 : xs.length = 17 := RPlaced.firm.len hr
     have hi17 : (Tryz.prog.info? 68).map (·.size) = some xs.length := by rw [hl17]; exact sizePl9
     have hi17a : (Tryz.prog.info? 68).map (·.size) = some xs.toArray.size := by simpa using hi17
     have HO : Hid (xs.toArray.all (·.oneCell') = true) := zAc (RPlaced.firm.one hr)
     have HV0 : Hid (wr.rangeAt B (off + k * 17) xs) := hv
     have HVz : Hid ((wr.alloc (.cells #[.string ⟨#[]⟩, .int .i64 0, .slice none 0 0, .int .i64 0, .int .i64 0, .int .i64 0, .slice none 0 0, .slice none 0 0, .slice none 0 0, .slice none 0 0, .slice none 0 0, .slice none 0 0, .slice none 0 0, .slice none 0 0, .string ⟨#[]⟩, .string ⟨#[]⟩, .slice none 0 0] 68)).rangeAt B (off + k * 17) xs) := fun j v hj => (((Below.refl _ wr).alloc (Nat.le_refl _) _).cell hB).trans (hv j v hj)
     obtain ⟨V, hV⟩ : ∃ V, V = (wr.alloc (.cells #[.string ⟨#[]⟩, .int .i64 0, .slice none 0 0, .int .i64 0, .int .i64 0, .int .i64 0, .slice none 0 0, .slice none 0 0, .slice none 0 0, .slice none 0 0, .slice none 0 0, .slice none 0 0, .slice none 0 0, .slice none 0 0, .string ⟨#[]⟩, .string ⟨#[]⟩, .slice none 0 0] 68)).setCells wr.heap.size 0 xs := ⟨_, rfl⟩
     have HTh : Hid ((wr.alloc (.cells #[.string ⟨#[]⟩, .int .i64 0, .slice none 0 0, .int .i64 0, .int .i64 0, .int .i64 0, .slice none 0 0, .slice none 0 0, .slice none 0 0, .slice none 0 0, .slice none 0 0, .slice none 0 0, .slice none 0 0, .slice none 0 0, .string ⟨#[]⟩, .string ⟨#[]⟩, .slice none 0 0] 68)).there wr.heap.size 0 xs.toArray.size) := by have e : xs.toArray.size = 17 := (by simp [hl17]); rw [Hid, e]; exact (BoxL.new wr 68 [.string ⟨#[]⟩, .int .i64 0, .slice none 0 0, .int .i64 0, .int .i64 0, .int .i64 0, .slice none 0 0, .slice none 0 0, .slice none 0 0, .slice none 0 0, .slice none 0 0, .slice none 0 0, .slice none 0 0, .slice none 0 0, .string ⟨#[]⟩, .string ⟨#[]⟩, .slice none 0 0]).there
     have bV : Below wr.heap.size wr V := by rw [hV]; exact zA0 ((Below.refl _ _).alloc (Nat.le_refl _) _) (Nat.le_refl _)
     have qV : BoxL V wr.heap.size xs := by rw [hV]; exact zA2 (BoxL.new wr 68 [.string ⟨#[]⟩, .int .i64 0, .slice none 0 0, .int .i64 0, .int .i64 0, .int .i64 0, .slice none 0 0, .slice none 0 0, .slice none 0 0, .slice none 0 0, .slice none 0 0, .slice none 0 0, .slice none 0 0, .slice none 0 0, .string ⟨#[]⟩, .string ⟨#[]⟩, .slice none 0 0]) (by rw [hl17]; rfl)
     have HWV : Hid (V = (wr.alloc (.cells #[.string ⟨#[]⟩, .int .i64 0, .slice none 0 0, .int .i64 0, .int .i64 0, .int .i64 0, .slice none 0 0, .slice none 0 0, .slice none 0 0, .slice none 0 0, .slice none 0 0, .slice none 0 0, .slice none 0 0, .slice none 0 0, .string ⟨#[]⟩, .string ⟨#[]⟩, .slice none 0 0] 68)).setCells wr.heap.size 0 xs.toArray.toList) := by rw [Hid, hV]
     clear hV
     obtain ⟨ps, ⟨g1, g2, g3⟩, hxs, hps, hpod, sl⟩ := hr.cut9
     simp only at hxs sl
     have hiP : (Tryz.prog.info? 49).map (·.size) = some ps.length := by rw [hps]; exact zGA
     have r0 : V.rangeAt wr.heap.size 0 ps := fun j v hj => qV.range j v (by rw [hxs, List.getElem?_append_left (List.getElem?_eq_some_iff.1 hj).1]; exact hj)
     have e16 : xs[16]? = some (.slice g1 g2 g3) := by rw [hxs, List.getElem?_append_right (by omega), hps]; rfl
     have bwV : Below w.heap.size w V := on2 hbw bV
     have HX : Hid (∀ u, Below V.heap.size V u -> AdSs (w.heap.size + 1 + 1 + 1 + 1) s r1 r2 r3 (w.heap.size + 1 + 1) (w.heap.size + 1 + 1 + 1) u /\ u.rangeAt wr.heap.size 0 ps /\ u.cell? ⟨wr.heap.size, 16, none⟩ = some (.slice g1 g2 g3) /\ RPod (fun _ => True) u ps x.1 /\ SlAt RLabel 2 32 (fun _ => True) u g1 g2 g3 x.2 /\ SlAt RReq 3 48 (fun _ => True) u r1 r2 r3 (sReqs s)) := fun u hb => by
      refine ⟨AdSs.of (((hco.on bV).on hb).2), fun j v hj => (hb.cell (p := ⟨wr.heap.size, _, none⟩) qV.1).trans (r0 j v hj), ((qV.on hb).2 16 _ e16).1, RPod.firm.kept hpod (Kept.below (on2 bV hb)), sl.on RLabel.firm (on2 bV hb), (HU.out u (on2 bwV hb)).1⟩
     have HM : Hid (∀ u, Below V.heap.size V u -> MpAt u (w.heap.size + 1 + 1 + 1) k (fun v => cntP s v (left9 ig (Pl.take k))) q /\ MpAt u (w.heap.size + 1 + 1) n f (qD s.1 N) /\ CoS w s r1 r2 r3 u /\ Below w.heap.size w u) := fun u hb => ⟨hm2.on (on2 bV hb), hm1.on (on2 bV hb), hco.on (on2 bV hb), on2 bwV hb⟩
     have HE0 : Hid (hit9 ig s x = false -> ∀ u, Below V.heap.size V u -> (∃ q, MpAt u (w.heap.size + 1 + 1 + 1) (k + 1) (fun v => cntP s v (left9 ig (Pl.take (k + 1)))) q) /\ MpAt u (w.heap.size + 1 + 1) n f (qD s.1 N) /\ CoS w s r1 r2 r3 u /\ Below w.heap.size w u) := fun h u hb => by
      obtain ⟨h1, h2⟩ := HM.out u hb
      exact ⟨⟨q, (h1.mono (Nat.le_succ _)).as (HNo.out h) (fun _ => rfl)⟩, h2⟩
     have HE1 : Hid (hit9 ig s x = true -> ∀ u0, Below V.heap.size V u0 -> ∀ u, MpAt u (w.heap.size + 1 + 1 + 1) (k + 1) (ctF (fun v => cntP s v (left9 ig (Pl.take k))) (getL x.2 s.1)) (ctQ q (getL x.2 s.1)) -> Turns (fun b => b = (w.heap.size + 1 + 1 + 1)) u0 u -> (∃ q, MpAt u (w.heap.size + 1 + 1 + 1) (k + 1) (fun v => cntP s v (left9 ig (Pl.take (k + 1)))) q) /\ MpAt u (w.heap.size + 1 + 1) n f (qD s.1 N) /\ CoS w s r1 r2 r3 u /\ Below w.heap.size w u) := fun h u0 hb u hu ht => by
      obtain ⟨_, h2, h3, h4⟩ := HM.out u0 hb
      exact ⟨⟨_, hu.as (HYes.out h) (fun _ => rfl)⟩, h2.turned ht (by omega), h3.turned ht (by omega) (by omega), behind9 h4 ht (by omega)⟩
     have hIg := hI.out V ps x.1 bwV (HX.out V (Below.refl _ _)).2.2.2.1
     have HRp : Hid (V.rangeAt wr.heap.size 0 ps) := r0
     clear hr hv hm1 hm2 hco hbw sl qV bV hpod r0 e16 hxs bwV HNo HYes hAB
     have hh : hit9 ig s x = (!ig x.1 && matchL (pLabs x.1) (sReqs s)) := rfl
     cases hig : ig x.1
     case true =>
      rw [hig] at hIg hh
      have HE := HE0.out (by rw [hh]; rfl)
      clear HE0 HE1 HM HX hh hig
      have HE' : Hid (∀ u, Below V.heap.size V u -> (∃ q, MpAt u (w.heap.size + 1 + 1 + 1) (k + 1) (fun v => cntP s v (left9 ig (Pl.take (k + 1)))) q) /\ MpAt u (w.heap.size + 1 + 1) n f (qD s.1 N) /\ CoS w s r1 r2 r3 u /\ Below w.heap.size w u) := HE
      clear HE
      go_wp2_with (first | (refine wpList_load_mid rfl 68 _ rfl B (off + k * 17) rfl xs _ HV0.out Tryz.underlying68 rfl hi17 ?_) | (refine wpList_load_mid rfl 68 _ rfl B (off + k * 17) rfl xs _ HVz.out Tryz.underlying68 rfl hi17 ?_) | (refine wpList_store_mid rfl 68 _ _ rfl wr.heap.size 0 xs.toArray rfl rfl HTh.out hi17a HO.out ?_; refine zAN HWV.out ?_) | (refine wpList_load_mid rfl 49 _ rfl wr.heap.size 0 rfl ps _ HRp.out Tryz.underlying49 rfl hiP ?_) | fail)
      refine hIg.mono ?_
      rintro e w6 ⟨rfl, hb6⟩
      have HN3 : Hid ((∃ q, MpAt w6 (w.heap.size + 1 + 1 + 1) (k + 1) (fun v => cntP s v (left9 ig (Pl.take (k + 1)))) q) /\ MpAt w6 (w.heap.size + 1 + 1) n f (qD s.1 N) /\ CoS w s r1 r2 r3 w6 /\ Below w.heap.size w w6) := HE'.out w6 hb6
      clear HE' hIg hb6 HRp HTh HO HV0 HVz HWV
      go_wp2_with fail
      go_roundw
      case rel => exact ⟨k + 1, by omega, by go_num, HN3⟩
      case measure => simp [intOf]; omega
     case false =>
      rw [hig] at hIg hh
      simp only [Bool.not_false, Bool.true_and] at hh
      have HE0' : Hid (matchL (pLabs x.1) (sReqs s) = false -> ∀ u, Below V.heap.size V u -> (∃ q, MpAt u (w.heap.size + 1 + 1 + 1) (k + 1) (fun v => cntP s v (left9 ig (Pl.take (k + 1)))) q) /\ MpAt u (w.heap.size + 1 + 1) n f (qD s.1 N) /\ CoS w s r1 r2 r3 u /\ Below w.heap.size w u) := fun h => HE0.out (by rw [hh]; exact h)
      have HE1' : Hid (matchL (pLabs x.1) (sReqs s) = true -> ∀ u0, Below V.heap.size V u0 -> ∀ u, MpAt u (w.heap.size + 1 + 1 + 1) (k + 1) (ctF (fun v => cntP s v (left9 ig (Pl.take k))) (getL x.2 s.1)) (ctQ q (getL x.2 s.1)) -> Turns (fun b => b = (w.heap.size + 1 + 1 + 1)) u0 u -> (∃ q, MpAt u (w.heap.size + 1 + 1 + 1) (k + 1) (fun v => cntP s v (left9 ig (Pl.take (k + 1)))) q) /\ MpAt u (w.heap.size + 1 + 1) n f (qD s.1 N) /\ CoS w s r1 r2 r3 u /\ Below w.heap.size w u) := fun h => HE1.out (by rw [hh]; exact h)
      clear HE0 HE1 hh hig
      have HMk : Hid (∀ u, Below V.heap.size V u -> MpAt u (w.heap.size + 1 + 1 + 1) k (fun v => cntP s v (left9 ig (Pl.take k))) q) := fun u hb => (HM.out u hb).1
      clear HM
      go_wp2_with (first | (refine wpList_load_mid rfl 68 _ rfl B (off + k * 17) rfl xs _ HV0.out Tryz.underlying68 rfl hi17 ?_) | (refine wpList_load_mid rfl 68 _ rfl B (off + k * 17) rfl xs _ HVz.out Tryz.underlying68 rfl hi17 ?_) | (refine wpList_store_mid rfl 68 _ _ rfl wr.heap.size 0 xs.toArray rfl rfl HTh.out hi17a HO.out ?_; refine zAN HWV.out ?_) | (refine wpList_load_mid rfl 49 _ rfl wr.heap.size 0 rfl ps _ HRp.out Tryz.underlying49 rfl hiP ?_) | fail)
      refine hIg.mono ?_
      rintro e w6 ⟨rfl, hb6⟩
      clear hIg HRp HTh HO HV0 HVz HWV
      obtain ⟨⟨c0, c1, c2, c3, c4, c5⟩, hrg, _, hpod, _, hrq⟩ := HX.out w6 hb6
      have HRq : Hid (w6.rangeAt wr.heap.size 0 ps) := hrg
      have hMt := zCV s r1 r2 r3 (w.heap.size + 1 + 1) (w.heap.size + 1 + 1 + 1) _ _ ps x.1 w6 hpod hrq
      have HB6 : Hid (Below V.heap.size V w6) := hb6
      clear hrg hpod hrq hb6
      cases hmt : matchL (pLabs x.1) (sReqs s)
      case false =>
       rw [hmt] at hMt
       have HE : Hid (∀ u, Below V.heap.size V u -> (∃ q, MpAt u (w.heap.size + 1 + 1 + 1) (k + 1) (fun v => cntP s v (left9 ig (Pl.take (k + 1)))) q) /\ MpAt u (w.heap.size + 1 + 1) n f (qD s.1 N) /\ CoS w s r1 r2 r3 u /\ Below w.heap.size w u) := HE0'.out hmt
       clear HE0' HE1' HX HMk hmt
       go_wp2_with (first | (refine load_w9 rfl 49 _ rfl wr.heap.size 0 rfl ps _ HRq.out Tryz.underlying49 rfl hiP ?_) | fail)
       refine hMt.mono ?_
       rintro e w7 ⟨rfl, hb7⟩
       have HN3 : Hid ((∃ q, MpAt w7 (w.heap.size + 1 + 1 + 1) (k + 1) (fun v => cntP s v (left9 ig (Pl.take (k + 1)))) q) /\ MpAt w7 (w.heap.size + 1 + 1) n f (qD s.1 N) /\ CoS w s r1 r2 r3 w7 /\ Below w.heap.size w w7) := HE.out w7 (on2 HB6.out hb7)
       clear HE hMt hb7 HRq HB6 c0 c1 c2 c3 c4 c5
       go_wp2_with fail
       go_roundw
       case rel => exact ⟨k + 1, by omega, by go_num, HN3⟩
       case measure => simp [intOf]; omega
      case true =>
       rw [hmt] at hMt
       have HE : Hid (∀ u0, Below V.heap.size V u0 -> ∀ u, MpAt u (w.heap.size + 1 + 1 + 1) (k + 1) (ctF (fun v => cntP s v (left9 ig (Pl.take k))) (getL x.2 s.1)) (ctQ q (getL x.2 s.1)) -> Turns (fun b => b = (w.heap.size + 1 + 1 + 1)) u0 u -> (∃ q, MpAt u (w.heap.size + 1 + 1 + 1) (k + 1) (fun v => cntP s v (left9 ig (Pl.take (k + 1)))) q) /\ MpAt u (w.heap.size + 1 + 1) n f (qD s.1 N) /\ CoS w s r1 r2 r3 u /\ Below w.heap.size w u) := HE1'.out hmt
       clear HE0' HE1' hmt
       go_wp2_with (first | (refine load_w9 rfl 49 _ rfl wr.heap.size 0 rfl ps _ HRq.out Tryz.underlying49 rfl hiP ?_) | fail)
       refine hMt.mono ?_
       rintro e w7 ⟨rfl, hb7⟩
       have hb7' := on2 HB6.out hb7
       clear hMt HRq c0 c1 c2 c3 c4 c5 hb7 HB6
       obtain ⟨⟨c0, c1, c2, c3, c4, c5⟩, _, n1, _, hlb, _⟩ := HX.out w7 hb7'
       have hC := zCm s r1 r2 r3 (w.heap.size + 1 + 1) (w.heap.size + 1 + 1 + 1) (w.heap.size + 1 + 1 + 1) k (fun v => cntP s v (left9 ig (Pl.take k))) q g1 g2 g3 _ x.2 w7 (HMk.out w7 hb7') hkb hlb
       have HE2 : Hid (∀ u, MpAt u (w.heap.size + 1 + 1 + 1) (k + 1) (ctF (fun v => cntP s v (left9 ig (Pl.take k))) (getL x.2 s.1)) (ctQ q (getL x.2 s.1)) -> Turns (fun b => b = (w.heap.size + 1 + 1 + 1)) w7 u -> (∃ q, MpAt u (w.heap.size + 1 + 1 + 1) (k + 1) (fun v => cntP s v (left9 ig (Pl.take (k + 1)))) q) /\ MpAt u (w.heap.size + 1 + 1) n f (qD s.1 N) /\ CoS w s r1 r2 r3 u /\ Below w.heap.size w u) := HE.out w7 hb7'
       clear HE HX HMk hlb hb7'
       generalize ctF (fun v => cntP s v (left9 ig (Pl.take k))) (getL x.2 s.1) = f' at hC HE2
       generalize ctQ q (getL x.2 s.1) = q' at hC HE2
       go_wp2_with fail
       refine hC.mono ?_
       rintro e w8 ⟨rfl, hm8, ht8⟩
       have HN3 : Hid ((∃ q, MpAt w8 (w.heap.size + 1 + 1 + 1) (k + 1) (fun v => cntP s v (left9 ig (Pl.take (k + 1)))) q) /\ MpAt w8 (w.heap.size + 1 + 1) n f (qD s.1 N) /\ CoS w s r1 r2 r3 w8 /\ Below w.heap.size w w8) := HE2.out w8 hm8 ht8
       clear hC hm8 ht8 HE2 c0 c1 c2 c3 c4 c5 n1
       go_wp2_with fail
       go_roundw
       case rel => exact ⟨k + 1, by omega, by go_num, HN3⟩
       case measure => simp [intOf]; omega
    ·have htk : Pl.take k = Pl := List.take_of_length_le (by rw [hml.out]; omega)
     rw [htk] at hm2
     obtain ⟨c0, c1, c2, c3, c4, c5⟩ := AdSs.of hco.2
     obtain ⟨V, hV⟩ : ∃ V, V = wr.setCells (w.heap.size + 1) 0 (cenV s r1 r2 r3 (w.heap.size + 1 + 1) (w.heap.size + 1 + 1 + 1)) := ⟨_, rfl⟩
     have HTh : Hid (wr.there (w.heap.size + 1) 0 (#[.string s.1, .int .i64 s.2.1, .int .i64 s.2.2.1, .slice r1 r2 r3, .map (some (w.heap.size + 1 + 1)), .map (some (w.heap.size + 1 + 1 + 1))] : Array Value).size) := hco.1.there
     have HWV : Hid (V = wr.setCells (w.heap.size + 1) 0 (#[.string s.1, .int .i64 s.2.1, .int .i64 s.2.2.1, .slice r1 r2 r3, .map (some (w.heap.size + 1 + 1)), .map (some (w.heap.size + 1 + 1 + 1))] : Array Value).toList) := by rw [Hid, hV]
     have HOc : Hid ((#[.string s.1, .int .i64 s.2.1, .int .i64 s.2.2.1, .slice r1 r2 r3, .map (some (w.heap.size + 1 + 1)), .map (some (w.heap.size + 1 + 1 + 1))] : Array Value).all (·.oneCell') = true) := by rw [Hid]; simp [Value.oneCell']
     have kV : Kept (fun b => b ≠ (w.heap.size + 1)) wr V := by rw [hV]; exact zA1 (fun h => h rfl)
     have bV : Below w.heap.size w V := by rw [hV]; exact zA0 hbw (by omega)
     have qV : BoxL V (w.heap.size + 1) (cenV s r1 r2 r3 (w.heap.size + 1 + 1) (w.heap.size + 1 + 1 + 1)) := by rw [hV]; exact zA2 hco.1 rfl
     have HOut : Hid (CenAt V s r1 r2 r3 (w.heap.size + 1 + 1) (w.heap.size + 1 + 1 + 1) N (left9 ig Pl) /\ Below w.heap.size w V) := ⟨⟨⟨f, n, hm1.same (kV.2 _ (by omega) hm1.lt), by have := hbn.out; omega⟩, ⟨q, k, hm2.same (kV.2 _ (by omega) hm2.lt), by have := hbm.out; omega⟩, (HU.out V bV).1, HZ.out.1, HZ.out.2⟩, bV⟩
     obtain ⟨t0', t1', t2', t3', t4', t5'⟩ := AdSs.of qV
     clear hm1 hm2 hco hbw htk kV bV qV hV HU hI HZ
     go_wp2_with (first | (refine wpList_store_mid rfl 221 _ _ rfl (w.heap.size + 1) 0 #[.string s.1, .int .i64 s.2.1, .int .i64 s.2.2.1, .slice r1 r2 r3, .map (some (w.heap.size + 1 + 1)), .map (some (w.heap.size + 1 + 1 + 1))] rfl rfl HTh.out hsz6 HOc.out ?_; refine zAN HWV.out ?_) | fail)
     refine bodyPost_ret (v := .agg #[.string s.1, .int .i64 s.2.1, .int .i64 s.2.2.1, .slice r1 r2 r3, .map (some (w.heap.size + 1 + 1)), .map (some (w.heap.size + 1 + 1 + 1))]) (by simp [results, Tryz.results124, go_sem, t0', t1', t2', t3', t4', t5', Result.andThen]) rfl ?_
     exact ⟨_, _, rfl, HOut.out⟩
end Go.Proofs.YtnffafjamiffnaaGreat
