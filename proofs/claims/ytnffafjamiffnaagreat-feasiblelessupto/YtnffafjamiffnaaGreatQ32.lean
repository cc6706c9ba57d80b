/- Functions of the program, each walked under the conditions that its theorem names. -/
import Derived.Test.YtnffafjamiffnaaGreatQ24
import Derived.Test.YtnffafjamiffnaaGreatQ26
set_option linter.unusedSimpArgs false
set_option maxRecDepth 100000
set_option maxHeartbeats 32000000
namespace Go.Proofs.YtnffafjamiffnaaGreat
open Go.RowKit Go.Maps
def plcI (l : List ByteArray) (s : ByteArray) : Int := match fI l s with | some k => (k : Int) | none => -1
theorem plcI_at {l : List ByteArray} {s : ByteArray} {i : Nat} (h1 : i < l.length) (h2 : sEq (l.getD i default) s = true) (h3 : ∀ j, j < i -> sEq (l.getD j default) s = false) : plcI l s = (i : Int) := by
 unfold plcI
 rw [fI_of h1 ((zA7 _ _).1 h2) (fun j hj e => by have := h3 j hj; rw [(zA7 _ _).2 e] at this; cases this)]
theorem plcI_no {l : List ByteArray} {s : ByteArray} (h : ∀ j, j < l.length -> sEq (l.getD j default) s = false) : plcI l s = -1 := by
 unfold plcI
 rw [fI_not (fun j hj e => by have := h j hj; rw [(zA7 _ _).2 e] at this; cases this)]
theorem zAg {α : Type} [Inhabited α] {f : α -> ByteArray} {L : List α} {j : Nat} (h : j < L.length) : (L.map f).getD j default = f (L.getD j default) := by
 rw [List.getD_eq_getElem?_getD, List.getD_eq_getElem?_getD, List.getElem?_map, List.getElem?_eq_getElem h]; rfl
theorem it12Pod : (Tryz.prog.info? 49).map (·.size) = some 16 := by kernel_rfl
def Pred12Pod (g : Nat) (lb : Array Value) (p : PodD -> Bool) (w : World) : Prop :=
 ∀ (W : World) (cs : List Value) (x : PodD), Below w.heap.size w W -> RPod (fun _ => True) W cs x -> Calls Tryz.prog g (#[.agg cs.toArray] ++ lb) W fun e w' => e = .returned (.bool (p x)) /\ Below W.heap.size W w'
theorem zHD (a : Option Addr) (n cap : Nat) (A : Where) (L : List PodD) (w : World) (hL : Hid (SlAt RPod 16 296 A w a n cap L)) (p : PodD -> Bool) (g : Nat) (lb : Array Value) (eg : ∀ args w, (callFunc g args).run Tryz.prog w = .ok (.enter g args) w) (hp : Hid (Pred12Pod g lb p w)) :
  Calls Tryz.prog 65 #[.slice a n cap, .func (.func g) #[] lb] w fun e w' => ((∃ i : Nat, i < L.length /\ p (L.getD i default) = true /\ (∀ j, j < i -> p (L.getD j default) = false) /\ e = .returned (.int .i64 i)) \/ ((∀ j, j < L.length -> p (L.getD j default) = false) /\ e = .returned (.int .i64 (-1)))) /\ Below w.heap.size w w' := by
 have hlen := hL.out.len (by decide)
 have HN : Hid (L.length = n) := hL.out.1
 go_enter Tryz.func65, Tryz.ntmps65
 go_wp2
 go_loopw [8] (fun i wr => ∃ k : Nat, k <= n /\ i = .int .i64 k /\ Below w.heap.size w wr /\ Hid (∀ j, j < k -> p (L.getD j default) = false)) (fun i _ => n - (intOf i).toNat)
 case atStart => exact ⟨0, Nat.zero_le _, rfl, Below.refl _ _, fun j hj => absurd hj (Nat.not_lt_zero _)⟩
 case round =>
  obtain ⟨k, hk, rfl, hbel, hall⟩ := hrel
  by_cases hlt : k < n
  ·obtain ⟨B, off, rfl, hB, _, cs, hr, hv⟩ := (hL.out.on RPod.firm hbel).get hlt
   have HV : Hid (wr.rangeAt B (off + k * 16) cs) := hv
   have hi : (Tryz.prog.info? 49).map (·.size) = some cs.length := by rw [RPod.firm.len hr]; exact it12Pod
   have hcall := hp.out wr cs (L.getD k default) hbel (RPod.firm.weak hr (fun _ _ _ => trivial))
   clear hv hr
   have HG : Hid (p (L.getD k default) = false -> ∀ j, j < k + 1 -> p (L.getD j default) = false) := fun h j hj => by
    rcases Nat.lt_succ_iff_lt_or_eq.1 hj with h' | rfl
    ·exact hall.out j h'
    ·exact h
   have HF : Hid (p (L.getD k default) = true -> ∃ i : Nat, i < L.length /\ p (L.getD i default) = true /\ (∀ j, j < i -> p (L.getD j default) = false) /\ Ending.returned (.int .i64 k) = .returned (.int .i64 i)) := fun h => ⟨k, by rw [HN.out]; exact hlt, h, hall.out, rfl⟩
   clear hall
   generalize L.getD k default = x at hcall HG HF
   cases hq : p x
   ·have HG' : Hid (∀ j, j < k + 1 -> p (L.getD j default) = false) := HG.out hq
    rw [hq] at hcall
    clear HG HF hq
    go_wp2_with (first | (refine wpList_load_mid rfl 49 _ rfl B (off + k * 16) rfl cs _ HV.out Tryz.underlying49 rfl hi ?_) | fail)
    refine hcall.mono ?_
    rintro e w' ⟨rfl, hb'⟩
    go_wp2_with fail
    go_roundw
    case rel => exact ⟨k + 1, by omega, by go_num, on2 hbel hb', HG'⟩
    case measure => simp [intOf]; omega
   ·have HF' := HF.out hq
    have HF2 : Hid (∃ i : Nat, i < L.length /\ p (L.getD i default) = true /\ (∀ j, j < i -> p (L.getD j default) = false) /\ Ending.returned (.int .i64 k) = .returned (.int .i64 i)) := HF'
    rw [hq] at hcall
    clear HG HF hq HF'
    go_wp2_with (first | (refine wpList_load_mid rfl 49 _ rfl B (off + k * 16) rfl cs _ HV.out Tryz.underlying49 rfl hi ?_) | fail)
    refine hcall.mono ?_
    rintro e w' ⟨rfl, hb'⟩
    go_wp2_with fail
    go_ret
    exact ⟨.inl HF2.out, on2 hbel hb'⟩
  ·have HA : Hid (∀ j, j < L.length -> p (L.getD j default) = false) := fun j hj => hall.out j (by rw [HN.out] at hj; omega)
   clear hall
   go_wp2
   go_ret
   exact ⟨.inr ⟨HA.out, rfl⟩, hbel⟩
theorem zGa : (Tryz.prog.info? 54).map (·.size) = some 9 := by kernel_rfl
def Pred12Node (g : Nat) (lb : Array Value) (p : NodeD -> Bool) (w : World) : Prop :=
 ∀ (W : World) (cs : List Value) (x : NodeD), Below w.heap.size w W -> RNode (fun _ => True) W cs x -> Calls Tryz.prog g (#[.agg cs.toArray] ++ lb) W fun e w' => e = .returned (.bool (p x)) /\ Below W.heap.size W w'
theorem zG8 (a : Option Addr) (n cap : Nat) (A : Where) (L : List NodeD) (w : World) (hL : Hid (SlAt RNode 9 112 A w a n cap L)) (p : NodeD -> Bool) (g : Nat) (lb : Array Value) (eg : ∀ args w, (callFunc g args).run Tryz.prog w = .ok (.enter g args) w) (hp : Hid (Pred12Node g lb p w)) :
  Calls Tryz.prog 67 #[.slice a n cap, .func (.func g) #[] lb] w fun e w' => ((∃ i : Nat, i < L.length /\ p (L.getD i default) = true /\ (∀ j, j < i -> p (L.getD j default) = false) /\ e = .returned (.int .i64 i)) \/ ((∀ j, j < L.length -> p (L.getD j default) = false) /\ e = .returned (.int .i64 (-1)))) /\ Below w.heap.size w w' := by
 have hlen := hL.out.len (by decide)
 have HN : Hid (L.length = n) := hL.out.1
 go_enter Tryz.func67, Tryz.ntmps67
 go_wp2
 go_loopw [8] (fun i wr => ∃ k : Nat, k <= n /\ i = .int .i64 k /\ Below w.heap.size w wr /\ Hid (∀ j, j < k -> p (L.getD j default) = false)) (fun i _ => n - (intOf i).toNat)
 case atStart => exact ⟨0, Nat.zero_le _, rfl, Below.refl _ _, fun j hj => absurd hj (Nat.not_lt_zero _)⟩
 case round =>
  obtain ⟨k, hk, rfl, hbel, hall⟩ := hrel
  by_cases hlt : k < n
  ·obtain ⟨B, off, rfl, hB, _, cs, hr, hv⟩ := (hL.out.on RNode.firm hbel).get hlt
   have HV : Hid (wr.rangeAt B (off + k * 9) cs) := hv
   have hi : (Tryz.prog.info? 54).map (·.size) = some cs.length := by rw [RNode.firm.len hr]; exact zGa
   have hcall := hp.out wr cs (L.getD k default) hbel (RNode.firm.weak hr (fun _ _ _ => trivial))
   clear hv hr
   have HG : Hid (p (L.getD k default) = false -> ∀ j, j < k + 1 -> p (L.getD j default) = false) := fun h j hj => by
    rcases Nat.lt_succ_iff_lt_or_eq.1 hj with h' | rfl
    ·exact hall.out j h'
    ·exact h
   have HF : Hid (p (L.getD k default) = true -> ∃ i : Nat, i < L.length /\ p (L.getD i default) = true /\ (∀ j, j < i -> p (L.getD j default) = false) /\ Ending.returned (.int .i64 k) = .returned (.int .i64 i)) := fun h => ⟨k, by rw [HN.out]; exact hlt, h, hall.out, rfl⟩
   clear hall
   generalize L.getD k default = x at hcall HG HF
   cases hq : p x
   ·have HG' : Hid (∀ j, j < k + 1 -> p (L.getD j default) = false) := HG.out hq
    rw [hq] at hcall
    clear HG HF hq
    go_wp2_with (first | (refine wpList_load_mid rfl 54 _ rfl B (off + k * 9) rfl cs _ HV.out Tryz.underlying54 rfl hi ?_) | fail)
    refine hcall.mono ?_
    rintro e w' ⟨rfl, hb'⟩
    go_wp2_with fail
    go_roundw
    case rel => exact ⟨k + 1, by omega, by go_num, on2 hbel hb', HG'⟩
    case measure => simp [intOf]; omega
   ·have HF' := HF.out hq
    have HF2 : Hid (∃ i : Nat, i < L.length /\ p (L.getD i default) = true /\ (∀ j, j < i -> p (L.getD j default) = false) /\ Ending.returned (.int .i64 k) = .returned (.int .i64 i)) := HF'
    rw [hq] at hcall
    clear HG HF hq HF'
    go_wp2_with (first | (refine wpList_load_mid rfl 54 _ rfl B (off + k * 9) rfl cs _ HV.out Tryz.underlying54 rfl hi ?_) | fail)
    refine hcall.mono ?_
    rintro e w' ⟨rfl, hb'⟩
    go_wp2_with fail
    go_ret
    exact ⟨.inl HF2.out, on2 hbel hb'⟩
  ·have HA : Hid (∀ j, j < L.length -> p (L.getD j default) = false) := fun j hj => hall.out j (by rw [HN.out] at hj; omega)
   clear hall
   go_wp2
   go_ret
   exact ⟨.inr ⟨HA.out, rfl⟩, hbel⟩
theorem plcPod (Bn Bs : Nat) (s : ByteArray) (cs : List Value) (x : PodD) (w : World) (h : Hid (RPod (fun _ => True) w cs x)) (qn : BoxL w Bn [.func (.func 30) #[] #[]]) (qs : BoxL w Bs [.string s]) :
  Calls Tryz.prog 66 #[.agg cs.toArray, .pointer (some ⟨Bn, 0, none⟩), .pointer (some ⟨Bs, 0, none⟩)] w fun e w' => e = .returned (.bool (sEq x.1 s)) /\ Below w.heap.size w w' := by
 have hi : (Tryz.prog.info? 49).map (·.size) = some cs.length := by rw [RPod.firm.len h.out]; exact it12Pod
 obtain ⟨W1, hW1⟩ : ∃ W, W = w.alloc (.cells cs.toArray 49) := ⟨_, rfl⟩
 have B1 : Below w.heap.size w W1 := by rw [hW1]; exact (Below.refl _ _).alloc (Nat.le_refl _) _
 have q1 : BoxL W1 w.heap.size cs := by rw [hW1]; exact BoxL.new w 49 cs
 have HB : Hid (Below w.heap.size w W1) := B1
 have HQ : Hid (∀ u, Below W1.heap.size W1 u -> u.cell? ⟨Bn, 0, none⟩ = some (.func (.func 30) #[] #[]) /\ u.cell? ⟨Bs, 0, none⟩ = some (.string s) /\ Bn < u.heap.size /\ Bs < u.heap.size) := fun u hu => ⟨((qn.on (on2 B1 hu)).2 0 _ rfl).1, ((qs.on (on2 B1 hu)).2 0 _ rfl).1, (qn.on (on2 B1 hu)).1, (qs.on (on2 B1 hu)).1⟩
 have HR : Hid (∀ u, Below W1.heap.size W1 u -> u.rangeAt w.heap.size 0 cs /\ RPod (fun _ => True) u cs x) := fun u hu => ⟨(q1.on hu).range, RPod.firm.kept h.out (Kept.below (on2 B1 hu))⟩
 have eg : ∀ args w, (callFunc 30 args).run Tryz.prog w = .ok (.enter 30 args) w := by intro args w; rfl
 clear h qn qs B1 q1
 go_enter Tryz.func66, Tryz.ntmps66
 go_upto_region 1 with fail
 rw [<- hW1]
 clear hW1
 refine t0 (fun z => Below W1.heap.size W1 z) (Below.refl _ _).drew (fun gH => ?_)
 have hb0 : Below W1.heap.size W1 W1.drew := (Below.refl _ _).drew
 generalize hwd : W1.drew = wd at gH hb0 |-
 clear hwd
 try go_frame
 refine' tk 0 ?_ ?_; rotate_left
 ·intro u hu; obtain ⟨f0, f1, f2, f3⟩ := HQ.out u hu; clear hu; go_simp; try with_reducible rfl
 try go_frame
 refine tq 1 (.agg cs.toArray) (yieldsIf_load_mid (by rfl) 49 _ rfl w.heap.size 0 rfl cs _ (fun u hu => (HR.out u hu).1) Tryz.underlying49 rfl hi) ?_ (hi := rfl)
 try go_frame
 refine' tk 3 ?_ ?_; rotate_left
 ·intro u hu; obtain ⟨f0, f1, f2, f3⟩ := HQ.out u hu; clear hu; go_simp; try with_reducible rfl
 try go_frame
 have hC := zAp cs x _ wd (HR.out wd hb0).2
 refine tr 2 (fun K hK => ?_)
 go_simp
 refine hC.mono ?_
 rintro e u2 ⟨rfl, d2⟩
 clear hC
 have hb2 : Below W1.heap.size W1 u2 := on2 hb0 d2
 go_wp2_with fail
 refine hK.out _ _ hb2 (fun gI => ?_)
 clear hK K gH; have gH := gI; clear gI
 try go_frame
 have hq : (x.1.toList == s.toList) = sEq x.1 s := rfl
 obtain ⟨bo, hbo⟩ : ∃ b, sEq x.1 s = b := ⟨_, rfl⟩
 rw [hbo] at hq
 have HBo : Hid (sEq x.1 s = bo) := hbo
 clear hbo
 refine tp 4 ?_
 try go_frame
 refine tp 5 ?_
 try go_frame
 refine tz ?_
 go_wp2_with fail
 go_ret
 exact ⟨by rw [HBo.out]; rfl, on2 HB.out hb2⟩
theorem zH2 (a : Option Addr) (n cap : Nat) (L : List PodD) (s : ByteArray) (w : World) (hL : Hid (SlAt RPod 16 296 (fun _ => True) w a n cap L)) :
  Calls Tryz.prog 29 #[.slice a n cap, .func (.func 30) #[] #[], .string s] w fun e w' => e = .returned (.int .i64 (plcI (L.map Prod.fst) s)) /\ Below w.heap.size w w' := by
 obtain ⟨W1, hW1⟩ : ∃ W, W = w.alloc (.cells #[.func (.func 30) #[] #[]] 85) := ⟨_, rfl⟩
 obtain ⟨W2, hW2⟩ : ∃ W, W = W1.alloc (.cells #[.string s] 9) := ⟨_, rfl⟩
 have B1 : Below w.heap.size w W1 := by rw [hW1]; exact (Below.refl _ _).alloc (Nat.le_refl _) _
 have B2 : Below W1.heap.size W1 W2 := by rw [hW2]; exact (Below.refl _ _).alloc (Nat.le_refl _) _
 have z1 : W1.heap.size = w.heap.size + 1 := by rw [hW1]; simp
 have q1 : BoxL W2 w.heap.size [.func (.func 30) #[] #[]] := by refine BoxL.on ?_ B2; rw [hW1]; exact BoxL.new w 85 _
 have q2 : BoxL W2 (w.heap.size + 1) [.string s] := by rw [<- z1, hW2]; exact BoxL.new W1 9 [.string s]
 have BB : Below w.heap.size w W2 := on2 B1 B2
 have HB : Hid (Below w.heap.size w W2) := BB
 have hC := zHD a n cap _ L W2 (hL.out.on RPod.firm BB) (fun y => sEq y.1 s) 66 #[.pointer (some ⟨w.heap.size, 0, none⟩), .pointer (some ⟨w.heap.size + 1, 0, none⟩)] (by intro args w; rfl) (fun W cs y hb hr => plcPod _ _ s cs y W hr (q1.on hb) (q2.on hb))
 have l1 := q1.1
 clear hL B1 B2 z1 q1 q2 BB
 go_enter Tryz.func29, Tryz.ntmps29
 go_upto_region 1 with fail
 rw [<- hW1, <- hW2]
 clear hW1 hW2
 go_wp2_with fail
 refine hC.mono ?_
 clear hC
 rintro e u3 ⟨h9, d3⟩
 have HE : Hid (e = .returned (.int .i64 (plcI (L.map Prod.fst) s)) /\ Below w.heap.size w u3) := by
  refine ⟨?_, on2 HB.out d3⟩
  rcases h9 with ⟨i, h1, h2, h3, rfl⟩ | ⟨h1, rfl⟩
  ·rw [plcI_at (i := i) (by rw [List.length_map]; exact h1) (by rw [zAg h1]; exact h2) (fun j hj => by rw [zAg (by omega)]; exact h3 j hj)]
  ·rw [plcI_no (fun j hj => by rw [List.length_map] at hj; rw [zAg hj]; exact h1 j hj)]
 obtain ⟨he, hb⟩ := HE.out
 subst he
 clear h9 HE d3
 obtain ⟨pi, hpi⟩ : ∃ i, plcI (L.map Prod.fst) s = i := ⟨_, rfl⟩
 have HPi : Hid (plcI (L.map Prod.fst) s = pi) := hpi
 rw [hpi]
 clear hpi
 have HB3 : Hid (Below w.heap.size w u3) := hb
 clear hb
 go_wp2_with fail
 go_ret
 exact ⟨by rw [HPi.out]; rfl, HB3.out⟩
theorem plcNode (Bn Bs : Nat) (s : ByteArray) (cs : List Value) (x : NodeD) (w : World) (h : Hid (RNode (fun _ => True) w cs x)) (qn : BoxL w Bn [.func (.func 32) #[] #[]]) (qs : BoxL w Bs [.string s]) :
  Calls Tryz.prog 68 #[.agg cs.toArray, .pointer (some ⟨Bn, 0, none⟩), .pointer (some ⟨Bs, 0, none⟩)] w fun e w' => e = .returned (.bool (sEq x.1 s)) /\ Below w.heap.size w w' := by
 have hi : (Tryz.prog.info? 54).map (·.size) = some cs.length := by rw [RNode.firm.len h.out]; exact zGa
 obtain ⟨W1, hW1⟩ : ∃ W, W = w.alloc (.cells cs.toArray 54) := ⟨_, rfl⟩
 have B1 : Below w.heap.size w W1 := by rw [hW1]; exact (Below.refl _ _).alloc (Nat.le_refl _) _
 have q1 : BoxL W1 w.heap.size cs := by rw [hW1]; exact BoxL.new w 54 cs
 have HB : Hid (Below w.heap.size w W1) := B1
 have HQ : Hid (∀ u, Below W1.heap.size W1 u -> u.cell? ⟨Bn, 0, none⟩ = some (.func (.func 32) #[] #[]) /\ u.cell? ⟨Bs, 0, none⟩ = some (.string s) /\ Bn < u.heap.size /\ Bs < u.heap.size) := fun u hu => ⟨((qn.on (on2 B1 hu)).2 0 _ rfl).1, ((qs.on (on2 B1 hu)).2 0 _ rfl).1, (qn.on (on2 B1 hu)).1, (qs.on (on2 B1 hu)).1⟩
 have HR : Hid (∀ u, Below W1.heap.size W1 u -> u.rangeAt w.heap.size 0 cs /\ RNode (fun _ => True) u cs x) := fun u hu => ⟨(q1.on hu).range, RNode.firm.kept h.out (Kept.below (on2 B1 hu))⟩
 have eg : ∀ args w, (callFunc 32 args).run Tryz.prog w = .ok (.enter 32 args) w := by intro args w; rfl
 clear h qn qs B1 q1
 go_enter Tryz.func68, Tryz.ntmps68
 go_upto_region 1 with fail
 rw [<- hW1]
 clear hW1
 refine t0 (fun z => Below W1.heap.size W1 z) (Below.refl _ _).drew (fun gH => ?_)
 have hb0 : Below W1.heap.size W1 W1.drew := (Below.refl _ _).drew
 generalize hwd : W1.drew = wd at gH hb0 |-
 clear hwd
 try go_frame
 refine' tk 0 ?_ ?_; rotate_left
 ·intro u hu; obtain ⟨f0, f1, f2, f3⟩ := HQ.out u hu; clear hu; go_simp; try with_reducible rfl
 try go_frame
 refine tq 1 (.agg cs.toArray) (yieldsIf_load_mid (by rfl) 54 _ rfl w.heap.size 0 rfl cs _ (fun u hu => (HR.out u hu).1) Tryz.underlying54 rfl hi) ?_ (hi := rfl)
 try go_frame
 refine' tk 3 ?_ ?_; rotate_left
 ·intro u hu; obtain ⟨f0, f1, f2, f3⟩ := HQ.out u hu; clear hu; go_simp; try with_reducible rfl
 try go_frame
 have hC := zAi cs x _ wd (HR.out wd hb0).2
 refine tr 2 (fun K hK => ?_)
 go_simp
 refine hC.mono ?_
 rintro e u2 ⟨rfl, d2⟩
 clear hC
 have hb2 : Below W1.heap.size W1 u2 := on2 hb0 d2
 go_wp2_with fail
 refine hK.out _ _ hb2 (fun gI => ?_)
 clear hK K gH; have gH := gI; clear gI
 try go_frame
 have hq : (x.1.toList == s.toList) = sEq x.1 s := rfl
 obtain ⟨bo, hbo⟩ : ∃ b, sEq x.1 s = b := ⟨_, rfl⟩
 rw [hbo] at hq
 have HBo : Hid (sEq x.1 s = bo) := hbo
 clear hbo
 refine tp 4 ?_
 try go_frame
 refine tp 5 ?_
 try go_frame
 refine tz ?_
 go_wp2_with fail
 go_ret
 exact ⟨by rw [HBo.out]; rfl, on2 HB.out hb2⟩
theorem zFj (a : Option Addr) (n cap : Nat) (L : List NodeD) (s : ByteArray) (w : World) (hL : Hid (SlAt RNode 9 112 (fun _ => True) w a n cap L)) :
  Calls Tryz.prog 31 #[.slice a n cap, .func (.func 32) #[] #[], .string s] w fun e w' => e = .returned (.int .i64 (plcI (L.map Prod.fst) s)) /\ Below w.heap.size w w' := by
 obtain ⟨W1, hW1⟩ : ∃ W, W = w.alloc (.cells #[.func (.func 32) #[] #[]] 87) := ⟨_, rfl⟩
 obtain ⟨W2, hW2⟩ : ∃ W, W = W1.alloc (.cells #[.string s] 9) := ⟨_, rfl⟩
 have B1 : Below w.heap.size w W1 := by rw [hW1]; exact (Below.refl _ _).alloc (Nat.le_refl _) _
 have B2 : Below W1.heap.size W1 W2 := by rw [hW2]; exact (Below.refl _ _).alloc (Nat.le_refl _) _
 have z1 : W1.heap.size = w.heap.size + 1 := by rw [hW1]; simp
 have q1 : BoxL W2 w.heap.size [.func (.func 32) #[] #[]] := by refine BoxL.on ?_ B2; rw [hW1]; exact BoxL.new w 87 _
 have q2 : BoxL W2 (w.heap.size + 1) [.string s] := by rw [<- z1, hW2]; exact BoxL.new W1 9 [.string s]
 have BB : Below w.heap.size w W2 := on2 B1 B2
 have HB : Hid (Below w.heap.size w W2) := BB
 have hC := zG8 a n cap _ L W2 (hL.out.on RNode.firm BB) (fun y => sEq y.1 s) 68 #[.pointer (some ⟨w.heap.size, 0, none⟩), .pointer (some ⟨w.heap.size + 1, 0, none⟩)] (by intro args w; rfl) (fun W cs y hb hr => plcNode _ _ s cs y W hr (q1.on hb) (q2.on hb))
 have l1 := q1.1
 clear hL B1 B2 z1 q1 q2 BB
 go_enter Tryz.func31, Tryz.ntmps31
 go_upto_region 1 with fail
 rw [<- hW1, <- hW2]
 clear hW1 hW2
 go_wp2_with fail
 refine hC.mono ?_
 clear hC
 rintro e u3 ⟨h9, d3⟩
 have HE : Hid (e = .returned (.int .i64 (plcI (L.map Prod.fst) s)) /\ Below w.heap.size w u3) := by
  refine ⟨?_, on2 HB.out d3⟩
  rcases h9 with ⟨i, h1, h2, h3, rfl⟩ | ⟨h1, rfl⟩
  ·rw [plcI_at (i := i) (by rw [List.length_map]; exact h1) (by rw [zAg h1]; exact h2) (fun j hj => by rw [zAg (by omega)]; exact h3 j hj)]
  ·rw [plcI_no (fun j hj => by rw [List.length_map] at hj; rw [zAg hj]; exact h1 j hj)]
 obtain ⟨he, hb⟩ := HE.out
 subst he
 clear h9 HE d3
 obtain ⟨pi, hpi⟩ : ∃ i, plcI (L.map Prod.fst) s = i := ⟨_, rfl⟩
 have HPi : Hid (plcI (L.map Prod.fst) s = pi) := hpi
 rw [hpi]
 clear hpi
 have HB3 : Hid (Below w.heap.size w u3) := hb
 clear hb
 go_wp2_with fail
 go_ret
 exact ⟨by rw [HPi.out]; rfl, HB3.out⟩
end Go.Proofs.YtnffafjamiffnaaGreat
namespace Go.Proofs.YtnffafjamiffnaaGreat
open Go.RowKit
theorem Row.get11 {α : Type} [Inhabited α] {R : Rep α} {k : Nat} (hR : Firm R k) {A : Where} {w0 u : World} {e : TypeId} {v : Value} {L : List α} (h : Row R k A w0 u e v L) {i : Nat} (hi : i < L.length) : ∃ g c cs, v = .slice (some ⟨g, 0, none⟩) L.length c /\ g < u.heap.size /\ w0.heap.size <= g /\ R (fun b => A b /\ v.ownBlock ≠ some b) u cs (L.getD i default) /\ u.rangeAt g (i * k) cs := by
 obtain ⟨xs, h1, h2⟩ := h
 obtain ⟨cs, hr, hc⟩ := h2.2 i hi
 have h12 := h1.2
 obtain ⟨_, ⟨_, h0⟩ | ⟨g, cap, cur, rfl, hg, hh, hnc, _, hcs, htk⟩⟩ := h1.2
 ·omega
 refine ⟨g, cap, cs, rfl, (Array.getElem?_eq_some_iff.1 hh).1, hg, hr, fun j y hj => ?_⟩
 have hjk : j < k := by have := (List.getElem?_eq_some_iff.1 hj).1; rwa [hR.len hr] at this
 have hle : (i + 1) * k <= L.length * k := Nat.mul_le_mul_right k hi
 rw [Nat.add_mul, Nat.one_mul] at hle
 rw [h12.cellAt (i * k + j) (by omega), hc j hjk]
 exact hj
def DnR (m : Where) (w0 u : World) (g2 g3 : Value) (st : VC) : Prop :=
 Row RVolume 5 m w0 u 79 g2 st.1 /\ Row RClaim 4 m w0 u 96 g3 st.2 /\ (∀ b, g2.ownBlock = some b -> g3.ownBlock ≠ some b) /\ (∀ b, m b -> b < w0.heap.size)
theorem DnR.step {m : Where} {w0 u : World} {g2 g3 : Value} {st : VC} (h : DnR m w0 u g2 g3 st) {c v : Nat} (hc : c < st.2.length) (hv : v < st.1.length) :
  ∃ Bc capc Bv capv cs vs A A', g3 = .slice (some ⟨Bc, 0, none⟩) st.2.length capc /\ g2 = .slice (some ⟨Bv, 0, none⟩) st.1.length capv /\
   RClaim A u cs (st.2.getD c default) /\ RVolume A' u vs (st.1.getD v default) /\ u.rangeAt Bc (c * 4) cs /\ u.rangeAt Bv (v * 5) vs /\ Bc < u.heap.size /\ Bv < u.heap.size /\ Bc ≠ Bv /\
   u.frozen? ⟨Bc, c * 4 + 3, none⟩ = false /\ u.frozen? ⟨Bv, v * 5 + 4, none⟩ = false /\ w0.heap.size <= Bc /\ w0.heap.size <= Bv /\
   ∀ z s s', Below u.heap.size u z -> s.size <= 140737488355328 -> s'.size <= 140737488355328 ->
    DnR m w0 ((z.setCell ⟨Bc, c * 4 + 3, none⟩ (.string s)).setCell ⟨Bv, v * 5 + 4, none⟩ (.string s')) g2 g3 (st.1.set v (setCl (st.1.getD v default) s'), st.2.set c (setVo (st.2.getD c default) s)) /\
    Kept (fun b => b ≠ Bc /\ b ≠ Bv) z ((z.setCell ⟨Bc, c * 4 + 3, none⟩ (.string s)).setCell ⟨Bv, v * 5 + 4, none⟩ (.string s')) /\
    Below w0.heap.size w0 ((z.setCell ⟨Bc, c * 4 + 3, none⟩ (.string s)).setCell ⟨Bv, v * 5 + 4, none⟩ (.string s')) := by
 obtain ⟨hV, hC, hne, hm⟩ := h
 obtain ⟨Bc, capc, cs, rfl, lc, wc, rc, gc⟩ := hC.get11 RClaim.firm hc
 obtain ⟨Bv, capv, vs, rfl, lv, wv, rv, gv⟩ := hV.get11 RVolume.firm hv
 have hB : Bc ≠ Bv := fun e => hne Bv rfl (by rw [<- e]; rfl)
 refine ⟨Bc, capc, Bv, capv, cs, vs, _, _, rfl, rfl, rc, rv, gc, gv, lc, lv, hB, hC.melts, hV.melts, wc, wv, fun z s s' hz hs hs' => ?_⟩
 have C1 := (hC.on RClaim.firm hz).set1 RClaim.firm hc (j := 3) (val := .string s) (x := setVo (st.2.getD c default) s) (by omega) (fun B cs h => h.set10 hs)
 have K1 : Kept (fun b => b ≠ Bc) z (z.setCell ⟨Bc, c * 4 + 3, none⟩ (.string s)) := Kept.set (p := ⟨Bc, c * 4 + 3, none⟩) (fun h => h rfl) _
 have V1 := (hV.on RVolume.firm hz).keptX RVolume.firm C1.below (K1.weak (fun b hb => ?_))
 ·have V2 := V1.set1 RVolume.firm hv (j := 4) (val := .string s') (x := setCl (st.1.getD v default) s') (by omega) (fun B cs h => h.set10 hs')
  have K2 : Kept (fun b => b ≠ Bv) (z.setCell ⟨Bc, c * 4 + 3, none⟩ (.string s)) ((z.setCell ⟨Bc, c * 4 + 3, none⟩ (.string s)).setCell ⟨Bv, v * 5 + 4, none⟩ (.string s')) := Kept.set (p := ⟨Bv, v * 5 + 4, none⟩) (fun h => h rfl) _
  refine ⟨⟨by simpa using V2, ?_, hne, hm⟩, (K1.weak (fun b hb => hb.1)).trans (K2.weak (fun b hb => hb.2)), V2.below⟩
  have C2 := C1.keptX RClaim.firm V2.below (K2.weak (fun b hb => ?_))
  ·simpa using C2
  ·rcases hb with hb | hb
   ·intro e; have := hm b hb; omega
   ·simp only [Value.ownBlock, Option.some.injEq] at hb; omega
 ·rcases hb with hb | hb
  ·intro e; have := hm b hb; omega
  ·simp only [Value.ownBlock, Option.some.injEq] at hb; omega
end Go.Proofs.YtnffafjamiffnaaGreat
