/- tally.count counts one that is placed, or one fewer, wherever it is counted. Condition: the arguments lie as is said of them, the maps in blocks of their own; few enough terms. -/
import Derived.Test.YtnffafjamiffnaaGreatQ25
set_option linter.unusedSimpArgs false
set_option maxRecDepth 100000
set_option maxHeartbeats 32000000
namespace Go.Proofs.YtnffafjamiffnaaGreat
open Go.RowKit Go.Maps
abbrev wsT (T : TalD) : List WishD := tNear T ++ tApart T
structure CS (T : TalD) (w0 wr : World) (N : Nat) (g g' : TermD -> Lab -> Int) (o : Lab -> Int) (k : Nat) : Prop where
 d : ∀ i, i < k -> CntAt wr ((wsT T).getD i default).2 (N + 1) (g' ((wsT T).getD i default).1)
 l : ∀ i, k <= i -> i < (wsT T).length -> CntAt wr ((wsT T).getD i default).2 N (g ((wsT T).getD i default).1)
 o : CntAt wr (tOth T) N o
 t : Turns (fun b => b ∈ mapsT T) w0 wr
theorem ws_mem {T : TalD} {i : Nat} (h : i < (wsT T).length) : (wsT T).getD i default ∈ wsT T := by
 rw [List.getD_eq_getElem?_getD, List.getElem?_eq_getElem h]
 exact List.getElem_mem h
theorem maps_ws {T : TalD} {x : WishD} (h : x ∈ wsT T) : x.2 ∈ mapsT T := by unfold mapsT; exact List.mem_append.2 (.inl (List.mem_map.2 ⟨x, h, rfl⟩))
theorem maps_oth (T : TalD) : tOth T ∈ mapsT T := by unfold mapsT; simp
theorem ws_ne {T : TalD} (hn : (mapsT T).Nodup) {i j : Nat} (hi : i < (wsT T).length) (hj : j < (wsT T).length) (h : i ≠ j) : ((wsT T).getD i default).2 ≠ ((wsT T).getD j default).2 := by
 unfold mapsT at hn
 have h1 := (List.nodup_append.1 hn).1
 intro e
 apply h
 rw [List.getD_eq_getElem?_getD, List.getElem?_eq_getElem hi, List.getD_eq_getElem?_getD, List.getElem?_eq_getElem hj] at e
 simp only [Option.getD_some] at e
 rcases Nat.lt_or_gt_of_ne h with h2 | h2
 ·have h3 := List.pairwise_iff_getElem.1 h1 i j (by rw [List.length_map]; exact hi) (by rw [List.length_map]; exact hj) h2
  rw [List.getElem_map, List.getElem_map] at h3
  exact absurd e h3
 ·have h3 := List.pairwise_iff_getElem.1 h1 j i (by rw [List.length_map]; exact hj) (by rw [List.length_map]; exact hi) h2
  rw [List.getElem_map, List.getElem_map] at h3
  exact absurd e.symm h3
theorem oth_ne {T : TalD} (hn : (mapsT T).Nodup) {i : Nat} (hi : i < (wsT T).length) : ((wsT T).getD i default).2 ≠ tOth T := by
 unfold mapsT at hn
 exact (List.nodup_append.1 hn).2.2 _ (List.mem_map.2 ⟨_, ws_mem hi, rfl⟩) _ (by simp)
theorem CS.start {T : TalD} {w : World} {N : Nat} {g g' : TermD -> Lab -> Int} {o : Lab -> Int} (h : MapsAt w T N g o) {u : World} (hb : Below w.heap.size w u) : CS T w u N g g' o 0 :=
 ⟨fun _ hi => absurd hi (Nat.not_lt_zero _), fun _ _ hi => (h.c _ (ws_mem hi)).on hb, h.o.on hb, Turns.below hb⟩
theorem CS.step {T : TalD} {w0 wr v u : World} {N : Nat} {g g' : TermD -> Lab -> Int} {o : Lab -> Int} {k : Nat} (h : CS T w0 wr N g g' o k) (hn : (mapsT T).Nodup) (hk : k < (wsT T).length) (hb : Below wr.heap.size wr v) (ht : Turns (fun b => b = ((wsT T).getD k default).2) v u) (hc : CntAt u ((wsT T).getD k default).2 (N + 1) (g' ((wsT T).getD k default).1)) : CS T w0 u N g g' o (k + 1) := by
 refine ⟨fun i hi => ?_, fun i hi hl => ?_, ?_, (h.t.trans (Turns.below hb)).trans (ht.weak (fun b _ e => e ▸ maps_ws (ws_mem hk)))⟩
 ·rcases Nat.lt_succ_iff_lt_or_eq.1 hi with hi | rfl
  ·exact ((h.d i hi).on hb).turned ht (ws_ne hn (Nat.lt_trans hi hk) hk (by omega))
  ·exact hc
 ·exact ((h.l i (by omega) hl).on hb).turned ht (ws_ne hn hl hk (by omega))
 ·exact (h.o.on hb).turned ht (fun e => oth_ne hn hk e.symm)
structure OS (T : TalD) (w0 wr : World) (N : Nat) (g' : TermD -> Lab -> Int) (o : Lab -> Int) (j : Nat) : Prop where
 d : ∀ t ∈ wsT T, CntAt wr t.2 (N + 1) (g' t.1)
 o : CntAt wr (tOth T) (N + j) o
 t : Turns (fun b => b ∈ mapsT T) w0 wr
theorem CS.done {T : TalD} {w0 wr : World} {N : Nat} {g g' : TermD -> Lab -> Int} {o : Lab -> Int} (h : CS T w0 wr N g g' o (wsT T).length) : OS T w0 wr N g' o 0 :=
 ⟨fun t ht => by
  obtain ⟨i, hi, rfl⟩ := List.mem_iff_getElem.1 ht
  have := h.d i hi
  rwa [List.getD_eq_getElem?_getD, List.getElem?_eq_getElem hi] at this, h.o, h.t⟩
theorem OS.step {T : TalD} {w0 wr v u : World} {N : Nat} {g' : TermD -> Lab -> Int} {o o' : Lab -> Int} {j : Nat} (h : OS T w0 wr N g' o j) (hn : (mapsT T).Nodup) (hb : Below wr.heap.size wr v) (ht : Turns (fun b => b = tOth T) v u) (hc : CntAt u (tOth T) (N + j + 1) o') : OS T w0 u N g' o' (j + 1) :=
 ⟨fun t hm => ((h.d t hm).on hb).turned ht (by
  obtain ⟨i, hi, rfl⟩ := List.mem_iff_getElem.1 hm
  have := oth_ne hn hi
  rwa [List.getD_eq_getElem?_getD, List.getElem?_eq_getElem hi] at this), hc, (h.t.trans (Turns.below hb)).trans (ht.weak (fun b _ e => e ▸ maps_oth T))⟩
theorem OS.stay {T : TalD} {w0 wr v : World} {N : Nat} {g' : TermD -> Lab -> Int} {o o' : Lab -> Int} {j : Nat} (h : OS T w0 wr N g' o j) (hb : Below wr.heap.size wr v) (e : ∀ d, o d = o' d) : OS T w0 v N g' o' (j + 1) :=
 ⟨fun t hm => (h.d t hm).on hb, ((h.o.on hb).mono (Nat.le_succ _)).as e, h.t.trans (Turns.below hb)⟩
theorem OS.maps {T : TalD} {w0 wr : World} {N : Nat} {g' : TermD -> Lab -> Int} {o : Lab -> Int} {j : Nat} (h : OS T w0 wr N g' o j) (hn : (mapsT T).Nodup) : MapsAt wr T (N + 1 + j) g' o :=
 ⟨fun t ht => (h.d t ht).mono (by omega), h.o.mono (by omega), hn⟩
theorem kept_nm {T : TalD} {w wr : World} (h : Turns (fun b => b ∈ mapsT T) w wr) : Kept (NM T) w wr := h.kept (fun _ ha _ hf => ha hf)
theorem cX_take {P : List Lab} {x : PlacedD} {L : List TermD} {k : Nat} (h : k < L.length) (d : Lab) : cX P x (L.take (k + 1)) d = cX P x (L.take k) d + one (hO P x (L.getD k default) d) := by
 rw [<- zEQ h]
 unfold cX
 rw [List.map_append, List.sum_append]
 simp
theorem one_mul8 (b : Bool) (c : Int) : c * one b = if b = true then c else 0 := by unfold one; split <;> simp
theorem zF6 {w : World} {T : TalD} {ts cs : List Value} {N : Nat} {g : TermD -> Lab -> Int} {oF : Lab -> Int} {x : PlacedD} (by_ : Int) (hM : Hid (MapsAt w T N g oF)) (hT' : Hid (RTally (NM T) w ts T)) (hx : Hid (RPlaced (NM T) w cs x)) (hN : N + 1 + (pApart x.1).length < 70368744177664) (hby : by_ = 1 \/ by_ = -1) :
  Calls Tryz.prog 121 #[.agg ts.toArray, .agg cs.toArray, .int .i64 by_] w fun e w' => e = .returned (.tuple #[]) /\ MapsAt w' T (N + 1 + (pApart x.1).length) (if sEq x.1.1 T.1 = true then g else fun t => addF (g t) (hT t x) by_) (if sEq x.1.1 T.1 = true then oF else fun d => oF d + by_ * cX T.2.1 x (pApart x.1) d) /\ Turns (fun b => b ∈ mapsT T) w w' := by
 obtain ⟨⟨a1, n1, m1⟩, ⟨a2, n2, m2⟩, ⟨a3, n3, m3⟩, rfl, _, s1, s2, s3⟩ := hT'.out.out
 obtain ⟨_, ⟨a11, n11, m11⟩, ⟨a16, n16, m16⟩, e0, _, e11, e16, _, s11, s16⟩ := hx.out.reads
 simp only at s1 s2 s3 s11 s16 e11 e16 |-
 have hnd : (mapsT T).Nodup := hM.out.n
 have HND : Hid (mapsT T).Nodup := hnd
 have hi17 : (Tryz.prog.info? 68).map (·.size) = some cs.length := by rw [RPlaced.firm.len hx.out]; exact zGs
 obtain ⟨W2, hW2⟩ : ∃ W, W = (w.alloc (.cells #[.string T.1, .slice a1 n1 m1, .slice a2 n2 m2, .slice a3 n3 m3, .map (some T.2.2.2.2)] 216)).alloc (.cells cs.toArray 68) := ⟨_, rfl⟩
 have B2 : Below w.heap.size w W2 := by rw [hW2]; go_grown
 have q0 : BoxL W2 w.heap.size [.string T.1, .slice a1 n1 m1, .slice a2 n2 m2, .slice a3 n3 m3, .map (some T.2.2.2.2)] := by rw [hW2]; exact (BoxL.new w 216 _).on ((Below.refl _ _).alloc (Nat.le_refl _) _)
 have q1 : BoxL W2 (w.heap.size + 1) cs := by have h1 := BoxL.new (w.alloc (.cells #[.string T.1, .slice a1 n1 m1, .slice a2 n2 m2, .slice a3 n3 m3, .map (some T.2.2.2.2)] 216)) 68 cs; rw [hW2]; simpa using h1
 have nD : NM T w.heap.size := fun h => absurd (hM.out.lt h) (Nat.lt_irrefl _)
 have nE : NM T (w.heap.size + 1) := fun h => absurd (hM.out.lt h) (by omega)
 have hsz : Hid (W2.heap.size = w.heap.size + 1 + 1) := by rw [Hid, hW2]; simp
 have hl2 : Hid ((tNear T).length = n2) := s2.1
 have hb2 : n2 < 140737488355328 := by have := s2.2.2.2.1; omega
 have hb3 : n3 < 140737488355328 := by have := s3.2.2.2.1; omega
 have hb11 : n11 < 140737488355328 := by have := s11.2.2.2.1; omega
 have hl3 : Hid ((tApart T).length = n3) := s3.1
 have hl11 : Hid ((pApart x.1).length = n11) := s11.1
 have HQ : Hid (∀ u, Turns (fun b => b ∈ mapsT T) W2 u -> BoxL u w.heap.size [.string T.1, .slice a1 n1 m1, .slice a2 n2 m2, .slice a3 n3 m3, .map (some T.2.2.2.2)] /\ BoxL u (w.heap.size + 1) cs /\ RPlaced (NM T) u cs x /\ SlAt RWish 3 48 (NM T) u a2 n2 m2 (tNear T) /\ SlAt RWish 3 48 (NM T) u a3 n3 m3 (tApart T) /\ SlAt RLabel 2 32 (NM T) u a1 n1 m1 T.2.1 /\ SlAt RTerm 2 40 (NM T) u a11 n11 m11 (pApart x.1) /\ SlAt RLabel 2 32 (NM T) u a16 n16 m16 x.2) := fun u ht =>
  have k := kept_nm ht
  ⟨q0.kept k nD, q1.kept k nE, RPlaced.firm.kept (RPlaced.firm.kept hx.out (Kept.below B2)) k, (s2.on RWish.firm B2).kept RWish.firm k, (s3.on RWish.firm B2).kept RWish.firm k, (s1.on RLabel.firm B2).kept RLabel.firm k, (s11.on RTerm.firm B2).kept RTerm.firm k, (s16.on RLabel.firm B2).kept RLabel.firm k⟩
 have HE11 : Hid (cs[11]? = some (.slice a11 n11 m11)) := e11
 have HE16 : Hid (cs[16]? = some (.slice a16 n16 m16)) := e16
 have HC0 : Hid (CS T W2 W2 N g (fun t => addF (g t) (hT t x) by_) oF 0) := CS.start (hM.out.below B2) (Below.refl _ _)
 have HB2 : Hid (Below w.heap.size w W2) := B2
 have c2 := (q0.2 2 _ rfl).1
 have c0 := (q0.2 0 _ rfl).1
 have cx0 := (q1.2 0 _ e0).1
 have HM0 : Hid (MapsAt W2 T (N + 1 + (pApart x.1).length) g oF) := by
  have h := hM.out.below B2
  exact ⟨fun t ht => (h.c t ht).mono (by omega), h.o.mono (by omega), h.n⟩
 have hsq : sEq x.1.1 T.1 = (x.1.1.toList == T.1.toList) := rfl
 rw [hsq]
 clear hT' hx s1 s2 s3 s11 s16 e0 e11 e16 q0 q1 B2 nD nE hM hnd hsq
 cases hsq : (x.1.1.toList == T.1.toList)
 case true =>
  simp only [if_true]
  go_enter Tryz.func121, Tryz.ntmps121
  go_upto_region 1 with fail
  rw [<- hW2]
  clear hW2
  go_wp2_with fail
  refine bodyPost_ret (results_none rfl _ _ _) rfl ?_
  exact ⟨rfl, HM0.out, Turns.below HB2.out⟩
 simp only [Bool.false_eq_true, if_false]
 clear HM0
 go_enter Tryz.func121, Tryz.ntmps121
 go_upto_region 1 with fail
 rw [<- hW2]
 clear hW2
 go_wp2_with fail
 clear c0 cx0 hsq
 go_loopw [21] (fun i wr => ∃ k : Nat, k <= n2 /\ i = .int .i64 k /\ Hid (CS T W2 wr N g (fun t => addF (g t) (hT t x) by_) oF (k))) (fun i _ => n2 - (intOf i).toNat)
 case atStart => exact ⟨0, Nat.zero_le _, rfl, HC0⟩
 case round =>
  obtain ⟨k, hk, rfl, hcs⟩ := hrel
  obtain ⟨k0, k1, k2, k3, k4, _, _, _⟩ := HQ.out wr hcs.out.t
  by_cases hlt : k < n2
  ·
   have hws : k < (wsT T).length := by rw [List.length_append, hl2.out, hl3.out]; omega
   have hgd : (wsT T).getD k default = (tNear T).getD k default := by show (tNear T ++ tApart T).getD k default = _; rw [List.getD_eq_getElem?_getD, List.getD_eq_getElem?_getD, List.getElem?_append_left (by rw [hl2.out]; exact hlt)]
   have hcl := hcs.out.l (k) (Nat.le_refl _) hws
   obtain ⟨B, off, rfl, hB, hAB, ws, hr, hv⟩ := k3.get hlt
   rw [<- hgd] at hr
   obtain ⟨⟨b1, b2, b3⟩, rfl, hreq, hkey⟩ := hr.out
   simp only at hreq hkey hv
   have d0 := hv 0 _ rfl
   have d1 := hv 1 _ rfl
   have d2 := hv 2 _ rfl
   rw [Nat.add_zero] at d0
   have HStep : Hid (∀ v u, Below wr.heap.size wr v -> Turns (fun b => b = ((wsT T).getD (k) default).2) v u -> CntAt u ((wsT T).getD (k) default).2 (N + 1) (addF (g ((wsT T).getD (k) default).1) (hT ((wsT T).getD (k) default).1 x) by_) -> CS T W2 u N g (fun t => addF (g t) (hT t x) by_) oF (k + 1)) := fun v u hb ht hc => hcs.out.step HND.out hws hb ht hc
   generalize (wsT T).getD (k) default = t at hcl hreq hkey d0 d1 d2 HStep
   obtain ⟨V, hV⟩ : ∃ V, V = wr.alloc (.cells #[.slice b1 b2 b3, .string t.1.2, .map (some t.2)] 254) := ⟨_, rfl⟩
   have bV : Below wr.heap.size wr V := by rw [hV]; go_grown
   have HW := zCG (w := V) (hcl.on bV) (by omega) b1 b2 b3 (NM T) t.1.1 t.1.2 cs x by_ (RPlaced.firm.kept k2 (Kept.below bV)) (hreq.on RReq.firm bV) hkey hby
   have HR1 : Hid (V.rangeAt (w.heap.size + 1) 0 cs) := (k1.on bV).range
   have HbV : Hid (Below wr.heap.size wr V) := bV
   have HWV : Hid (V = wr.alloc (.cells #[.slice b1 b2 b3, .string t.1.2, .map (some t.2)] 254)) := hV
   clear hcs hr hv hreq hcl k0 k1 k2 k3 k4 bV hgd hV
   go_wp2_with (first | (rw [<- HWV.out]; refine wpList_load_mid rfl 68 _ rfl (w.heap.size + 1) 0 rfl cs _ HR1.out Tryz.underlying68 rfl hi17 ?_) | fail)
   refine HW.mono ?_
   rintro e w4 ⟨rfl, hc4, ht4⟩
   have HN := HStep.out V w4 HbV.out ht4 hc4
   clear hc4 ht4 HW HStep HbV HWV HR1
   go_wp2_with fail
   go_roundw
   case rel => exact ⟨k + 1, by omega, by go_num, HN⟩
   case measure => simp [intOf]; omega
  ·
   have hkn : k = n2 := by omega
   have HC1 : Hid (CS T W2 wr N g (fun t => addF (g t) (hT t x) by_) oF (n2 + 0)) := by rw [<- hkn]; exact hcs.out
   have c3 := (k0.2 3 _ rfl).1
   clear hcs k0 k1 k2 k3 k4 hkn
   go_wp2_with fail
   go_loopw [33] (fun i wr => ∃ k : Nat, k <= n3 /\ i = .int .i64 k /\ Hid (CS T W2 wr N g (fun t => addF (g t) (hT t x) by_) oF (n2 + k))) (fun i _ => n3 - (intOf i).toNat)
   case atStart => exact ⟨0, Nat.zero_le _, rfl, HC1⟩
   case round =>
    obtain ⟨k, hk, rfl, hcs⟩ := hrel
    obtain ⟨k0, k1, k2, k3, k4, _, _, _⟩ := HQ.out wr hcs.out.t
    by_cases hlt : k < n3
    ·
     have hws : n2 + k < (wsT T).length := by rw [List.length_append, hl2.out, hl3.out]; omega
     have hgd : (wsT T).getD (n2 + k) default = (tApart T).getD k default := by show (tNear T ++ tApart T).getD (n2 + k) default = _; rw [List.getD_eq_getElem?_getD, List.getD_eq_getElem?_getD, List.getElem?_append_right (by rw [hl2.out]; omega), hl2.out, Nat.add_sub_cancel_left]
     have hcl := hcs.out.l (n2 + k) (Nat.le_refl _) hws
     obtain ⟨B, off, rfl, hB, hAB, ws, hr, hv⟩ := k4.get hlt
     rw [<- hgd] at hr
     obtain ⟨⟨b1, b2, b3⟩, rfl, hreq, hkey⟩ := hr.out
     simp only at hreq hkey hv
     have d0 := hv 0 _ rfl
     have d1 := hv 1 _ rfl
     have d2 := hv 2 _ rfl
     rw [Nat.add_zero] at d0
     have HStep : Hid (∀ v u, Below wr.heap.size wr v -> Turns (fun b => b = ((wsT T).getD (n2 + k) default).2) v u -> CntAt u ((wsT T).getD (n2 + k) default).2 (N + 1) (addF (g ((wsT T).getD (n2 + k) default).1) (hT ((wsT T).getD (n2 + k) default).1 x) by_) -> CS T W2 u N g (fun t => addF (g t) (hT t x) by_) oF (n2 + k + 1)) := fun v u hb ht hc => hcs.out.step HND.out hws hb ht hc
     generalize (wsT T).getD (n2 + k) default = t at hcl hreq hkey d0 d1 d2 HStep
     obtain ⟨V, hV⟩ : ∃ V, V = wr.alloc (.cells #[.slice b1 b2 b3, .string t.1.2, .map (some t.2)] 254) := ⟨_, rfl⟩
     have bV : Below wr.heap.size wr V := by rw [hV]; go_grown
     have HW := zCG (w := V) (hcl.on bV) (by omega) b1 b2 b3 (NM T) t.1.1 t.1.2 cs x by_ (RPlaced.firm.kept k2 (Kept.below bV)) (hreq.on RReq.firm bV) hkey hby
     have HR1 : Hid (V.rangeAt (w.heap.size + 1) 0 cs) := (k1.on bV).range
     have HbV : Hid (Below wr.heap.size wr V) := bV
     have HWV : Hid (V = wr.alloc (.cells #[.slice b1 b2 b3, .string t.1.2, .map (some t.2)] 254)) := hV
     clear hcs hr hv hreq hcl k0 k1 k2 k3 k4 bV hgd hV
     go_wp2_with (first | (rw [<- HWV.out]; refine wpList_load_mid rfl 68 _ rfl (w.heap.size + 1) 0 rfl cs _ HR1.out Tryz.underlying68 rfl hi17 ?_) | fail)
     refine HW.mono ?_
     rintro e w4 ⟨rfl, hc4, ht4⟩
     have HN := HStep.out V w4 HbV.out ht4 hc4
     clear hc4 ht4 HW HStep HbV HWV HR1
     go_wp2_with fail
     go_roundw
     case rel => exact ⟨k + 1, by omega, by go_num, HN⟩
     case measure => simp [intOf]; omega
    ·
     have hkn : n2 + k = (wsT T).length := by rw [List.length_append, hl2.out, hl3.out]; omega
     have HO0 : Hid (OS T W2 wr N (fun t => addF (g t) (hT t x) by_) (fun d => oF d + by_ * cX T.2.1 x ((pApart x.1).take 0) d) 0) := by
      have h1 := hcs.out; rw [hkn] at h1
      have e1 : (fun d => oF d + by_ * cX T.2.1 x ((pApart x.1).take 0) d) = oF := by funext d; simp [cX]
      rw [Hid, e1]; exact h1.done
     have c11 := (k1.2 11 _ HE11.out).1
     clear hcs k0 k1 k2 k3 k4 hkn
     go_wp2_with fail
     go_loopw [46] (fun i wr => ∃ k : Nat, k <= n11 /\ i = .int .i64 k /\ Hid (OS T W2 wr N (fun t => addF (g t) (hT t x) by_) (fun d => oF d + by_ * cX T.2.1 x ((pApart x.1).take k) d) k)) (fun i _ => n11 - (intOf i).toNat)
     case atStart => exact ⟨0, Nat.zero_le _, rfl, HO0⟩
     case round =>
      obtain ⟨k, hk, rfl, hos⟩ := hrel
      obtain ⟨k0, k1, k2, _, _, k5, k6, k7⟩ := HQ.out wr hos.out.t
      by_cases hlt : k < n11
      ·
       obtain ⟨B, off, rfl, hB, hAB, ws, hr, hv⟩ := k6.get hlt
       obtain ⟨⟨b1, b2, b3⟩, rfl, hreq, hkey⟩ := hr.out
       simp only at hreq hkey hv
       have d0 := hv 0 _ rfl
       have d1 := hv 1 _ rfl
       rw [Nat.add_zero] at d0
       have HTk : Hid (∀ d, cX T.2.1 x ((pApart x.1).take (k + 1)) d = cX T.2.1 x ((pApart x.1).take k) d + one (hO T.2.1 x ((pApart x.1).getD k default) d)) := fun d => cX_take (by rw [hl11.out]; exact hlt) d
       generalize (pApart x.1).getD k default = t at hreq hkey d0 d1 HTk
       obtain ⟨V, hV⟩ : ∃ V, V = wr.alloc (.cells #[.slice b1 b2 b3, .string t.2] 116) := ⟨_, rfl⟩
       have bV : Below wr.heap.size wr V := by rw [hV]; go_grown
       have qt : BoxL V wr.heap.size [.slice b1 b2 b3, .string t.2] := by rw [hV]; exact BoxL.new wr 116 _
       have HMt := zB3 a1 n1 m1 (NM T) T.2.1 b1 b2 b3 (NM T) t.1 V (k5.on RLabel.firm bV) (hreq.on RReq.firm bV)
       have z1 := ((k0.on bV).2 1 _ rfl).1
       have zt := (qt.2 0 _ rfl).1
       have HQ2 : Hid (∀ u, Below V.heap.size V u -> BoxL u w.heap.size [.string T.1, .slice a1 n1 m1, .slice a2 n2 m2, .slice a3 n3 m3, .map (some T.2.2.2.2)] /\ BoxL u (w.heap.size + 1) cs /\ BoxL u wr.heap.size [.slice b1 b2 b3, .string t.2] /\ SlAt RLabel 2 32 (NM T) u a16 n16 m16 x.2 /\ Below wr.heap.size wr u) := fun u hb => ⟨(k0.on bV).on hb, (k1.on bV).on hb, qt.on hb, (k7.on RLabel.firm bV).on RLabel.firm hb, on2 bV hb⟩
       have HNext : Hid (∀ d, oF d + by_ * cX T.2.1 x ((pApart x.1).take (k + 1)) d = addF (fun d => oF d + by_ * cX T.2.1 x ((pApart x.1).take k) d) (hO T.2.1 x t) by_ d) := fun d => by rw [HTk.out d]; unfold addF; rw [Int.mul_add, one_mul8, Int.add_assoc]
       have HAd := zGk (g := fun d => oF d + by_ * cX T.2.1 x ((pApart x.1).take k) d) (b := matchL T.2.1 t.1) (q := atD x.2 t.2) (r := hO T.2.1 x t) (c := by_) (fun d => rfl)
       have HA2 : Hid ((matchL T.2.1 t.1 = true -> addF (fun d => oF d + by_ * cX T.2.1 x ((pApart x.1).take k) d) (atD x.2 t.2) by_ = fun d => oF d + by_ * cX T.2.1 x ((pApart x.1).take (k + 1)) d) /\ (matchL T.2.1 t.1 = false -> ∀ d, oF d + by_ * cX T.2.1 x ((pApart x.1).take k) d = oF d + by_ * cX T.2.1 x ((pApart x.1).take (k + 1)) d)) := ⟨fun e => by rw [HAd.1 e]; funext d; exact (HNext.out d).symm, fun e d => by rw [HNext.out d]; exact HAd.2 e d⟩
       have Hbv : Hid (Below wr.heap.size wr V) := bV
       clear hr hv hreq k0 k1 k2 k5 k6 k7 bV qt HTk HNext HAd
       generalize matchL T.2.1 t.1 = mt at HMt HA2
       skip
       go_upto_region 15 with fail
       rw [<- hV]
       clear hV
       go_wp2_with fail
       refine HMt.mono ?_
       clear HMt z1 zt
       rintro e w3 ⟨rfl, hb3⟩
       obtain ⟨j0, j1, j2, j3, j4⟩ := HQ2.out w3 hb3
       cases mt
       ·
        have HN : Hid (OS T W2 w3 N (fun t => addF (g t) (hT t x) by_) (fun d => oF d + by_ * cX T.2.1 x ((pApart x.1).take (k + 1)) d) (k + 1)) := hos.out.stay j4 (HA2.out.2 rfl)
        clear HQ2 HA2 hos j0 j1 j2 j3 j4 hb3 Hbv
        go_wp2_with fail
        go_roundw
        case rel => exact ⟨k + 1, by omega, by go_num, HN⟩
        case measure => simp [intOf]; omega
       ·
        have HD := zCM (w := w3) (hos.out.o.on j4) (by have := hl11.out; omega) a16 n16 m16 (NM T) x.2 t.2 by_ j3 hkey hby
        rw [HA2.out.1 rfl] at HD
        have y4 := (j0.2 4 _ rfl).1
        have y16 := (j1.2 16 _ HE16.out).1
        have yt := (j2.2 1 _ rfl).1
        have HStep : Hid (∀ u, Turns (fun b => b = tOth T) w3 u -> CntAt u (tOth T) (N + k + 1) (fun d => oF d + by_ * cX T.2.1 x ((pApart x.1).take (k + 1)) d) -> OS T W2 u N (fun t => addF (g t) (hT t x) by_) (fun d => oF d + by_ * cX T.2.1 x ((pApart x.1).take (k + 1)) d) (k + 1)) := fun u ht hc => hos.out.step HND.out j4 ht hc
        clear HQ2 HA2 hos j0 j1 j2 j3 j4 hb3 Hbv
        go_wp2_with fail
        refine HD.mono ?_
        rintro e w4 ⟨rfl, hc4, ht4⟩
        have HN := HStep.out w4 ht4 hc4
        clear HD hc4 ht4 HStep y4 y16 yt
        go_wp2_with fail
        go_roundw
        case rel => exact ⟨k + 1, by omega, by go_num, HN⟩
        case measure => simp [intOf]; omega
      ·
       have hkn : k = n11 := by omega
       have HF : Hid (MapsAt wr T (N + 1 + (pApart x.1).length) (fun t => addF (g t) (hT t x) by_) (fun d => oF d + by_ * cX T.2.1 x (pApart x.1) d) /\ Turns (fun b => b ∈ mapsT T) w wr) := by
        have h1 := hos.out.maps HND.out
        rw [hkn, <- hl11.out, List.take_length] at h1
        exact ⟨h1, (Turns.below HB2.out).trans hos.out.t⟩
       clear hos k0 k1 k2 k5 k6 k7
       go_wp2_with fail
       go_end0
       exact ⟨rfl, HF.out⟩
end Go.Proofs.YtnffafjamiffnaaGreat
