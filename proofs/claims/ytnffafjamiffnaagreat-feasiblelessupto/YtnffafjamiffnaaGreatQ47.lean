/- Functions of the program, each walked under the conditions that its theorem names. -/
import Derived.Test.YtnffafjamiffnaaGreatQ46
import Derived.Test.YtnffafjamiffnaaGreatQ44
set_option linter.unusedSimpArgs false
set_option maxRecDepth 100000
set_option maxHeartbeats 32000000
namespace Go.Proofs.YtnffafjamiffnaaGreat
open Go.RowKit Go.Maps
abbrev stayB (nms : List ByteArray) (q : PodD) : Bool := !hasB sEq nms q.1
theorem zB2 (nms : List ByteArray) : ∀ (L F : List PodD), (L.filter (stayB nms)).foldl fstStep (F.filter (stayB nms)) = (L.foldl fstStep F).filter (stayB nms)
 | [], _ => rfl
 | q :: L, F => by
  rw [List.filter_cons, List.foldl_cons]
  by_cases h : stayB nms q = true
  ·rw [if_pos h, List.foldl_cons, <- zB2 nms L]
   congr 1
   unfold fstStep
   have he : hasB sEq (nameL (F.filter (stayB nms))) q.1 = hasB sEq (nameL F) q.1 := by
    rw [Bool.eq_iff_iff, zE7 zA7, zE7 zA7]
    unfold nameL
    rw [List.mem_map, List.mem_map]
    constructor
    ·rintro ⟨z, hz, e⟩; exact ⟨z, (List.mem_filter.1 hz).1, e⟩
    ·rintro ⟨z, hz, e⟩; exact ⟨z, List.mem_filter.2 ⟨hz, by unfold stayB at h |-; rw [e]; exact h⟩, e⟩
   rw [he]
   split
   ·rfl
   ·rw [List.filter_append, List.filter_cons, if_pos h]; rfl
  ·rw [if_neg h, <- zB2 nms L]
   congr 1
   unfold fstStep
   split
   ·rfl
   ·rw [List.filter_append, List.filter_cons, if_neg h]; simp
theorem zBp (nms : List ByteArray) (L : List PodD) : firstsP (L.filter (stayB nms)) = (firstsP L).filter (stayB nms) := zB2 nms L []
theorem zDO (x : StateD) (nms : List ByteArray) (nm : ByteArray) : aroundP (withoutP x nms) nm = ((aroundP x nm).1.filter (stayB nms), (aroundP x nm).2) := by
 unfold aroundP withoutP
 simp only
 rw [<- zBp, List.filter_filter, List.filter_filter]
 congr 2
 refine List.filter_congr (fun q _ => ?_)
 exact Bool.and_comm _ _
theorem ans_node (y : StateD) (p : PodD) (s : ByteArray) : ansP y p s = match (firstsN y.2.1).find? (fun n : NodeD => sEq n.1 s) with | none => (16, []) | some n => askP y p (allP n (grpP (firstsP y.1) n.1)) := by
 unfold ansP infosP
 rw [List.find?_map]
 rw [show ((fun i : InfoD => sEq i.1.1 s) ∘ fun n : NodeD => allP n (grpP (firstsP y.1) n.1)) = (fun n : NodeD => sEq n.1 s) from rfl]
 cases (firstsN y.2.1).find? (fun n : NodeD => sEq n.1 s) <;> rfl
theorem ask_zero {y : StateD} {p : PodD} {i : InfoD} : (askP y p i).1 = 0 ↔ whyF y p i 0 = 0 /\ whyF y p i 1 = 0 /\ whyF y p i 2 = 0 /\ whyF y p i 3 = 0 := by
 unfold askP
 by_cases h0 : whyF y p i 0 = 0
 ·rw [if_neg (fun h => h h0)]
  by_cases h1 : whyF y p i 1 = 0
  ·rw [if_neg (fun h => h h1)]
   by_cases h2 : whyF y p i 2 = 0
   ·rw [if_neg (fun h => h h2)]
    by_cases h3 : whyF y p i 3 = 0
    ·rw [if_neg (fun h => h h3)]; exact ⟨fun _ => ⟨h0, h1, h2, h3⟩, fun _ => rfl⟩
    ·rw [if_pos h3]; exact ⟨fun h => absurd h h3, fun h => absurd h.2.2.2 h3⟩
   ·rw [if_pos h2]; exact ⟨fun h => absurd h h2, fun h => absurd h.2.2.1 h2⟩
  ·rw [if_pos h1]; exact ⟨fun h => absurd h h1, fun h => absurd h.2.1 h1⟩
 ·rw [if_pos h0]; exact ⟨fun h => absurd h h0, fun h => absurd h.1 h0⟩
theorem yes_zero : ∀ a b c d e f g h : Bool, (yes [(1, a), (2, b), (3, c), (4, d), (5, e), (6, f), (7, g), (8, h)]).headD 0 = 0 ↔ a = false /\ b = false /\ c = false /\ d = false /\ e = false /\ f = false /\ g = false /\ h = false := by
 intro a b c d e f g h
 cases a
 ·cases b
  ·cases c
   ·cases d
    ·cases e
     ·cases f
      ·cases g
       ·cases h <;> simp [yes]
       ·simp [yes]
      ·simp [yes]
     ·simp [yes]
    ·simp [yes]
   ·simp [yes]
  ·simp [yes]
 ·simp [yes]
theorem why1_zero {p : PodD} {i : InfoD} : why1 p i = 0 ↔ offB i = false /\ kepB p i = false /\ askB p i = false /\ clashP i p = false /\ cntB i = false /\ cpuB p i = false /\ memB p i = false /\ dskB p i = false := yes_zero _ _ _ _ _ _ _ _
theorem zEx {α : Type} : ∀ {L M : List α}, L.Nodup -> (∀ x ∈ L, x ∈ M) -> L.length <= M.length
 | [], _, _, _ => Nat.zero_le _
 | a :: L, M, hn, hs => by
  rw [List.nodup_cons] at hn
  obtain ⟨A, B, rfl⟩ := List.append_of_mem (hs a (List.mem_cons_self ..))
  have := zEx (M := A ++ B) hn.2 (fun x hx => by
   have h1 := hs x (List.mem_cons_of_mem _ hx)
   rw [List.mem_append, List.mem_cons] at h1
   rw [List.mem_append]
   rcases h1 with h1 | rfl | h1
   ·exact .inl h1
   ·exact absurd hx hn.1
   ·exact .inr h1)
  simp only [List.length_cons, List.length_append] at this |-
  omega
theorem zFR {L M : List ByteArray} (h : ∀ x ∈ L, x ∈ M) : (sortB sLt sEq L).length <= (sortB sLt sEq M).length :=
 zEx (zCv (zCz L)) (fun x hx => (zBI x M).2 (h x ((zBI x L).1 hx)))
theorem zAv {a b : Int} (h : a <= b) : clampI a <= clampI b := by unfold clampI; split <;> split <;> (try split) <;> (try split) <;> omega
theorem zCZ {a b c : Int} (h : a <= b) : addI a c <= addI b c := zAv (by have := zAv h; omega)
theorem zFy {a c : Int} (h : a <= 1125899906842624) : a <= addI a c := by
 unfold addI
 have h1 := zAm c
 by_cases h0 : a < 0
 ·have := zAm (clampI a + clampI c); omega
 ·have h2 : clampI a = a := zFX (by omega) h
  have h3 : clampI a <= clampI (clampI a + clampI c) := by
   have := zAv (a := a) (b := clampI a + clampI c) (by omega)
   omega
  omega
def leR (a b : ResD) : Prop := a.1 <= b.1 /\ a.2.1 <= b.2.1 /\ a.2.2 <= b.2.2
def topR (a : ResD) : Prop := a.1 <= 1125899906842624 /\ a.2.1 <= 1125899906842624 /\ a.2.2 <= 1125899906842624
theorem zBd (g : PodD -> Bool) : ∀ (L : List PodD) (u v : ResD), leR u v -> topR v -> topR u -> leR (wantSum u (L.filter g)) (wantSum v L)
 | [], u, v, h, _, _ => h
 | q :: L, u, v, h, hv, hu => by
  have hv' : topR (plusR v (pWant q)) := ⟨zCC _ _, zCC _ _, zCC _ _⟩
  have hu' : topR (plusR u (pWant q)) := ⟨zCC _ _, zCC _ _, zCC _ _⟩
  rw [List.filter_cons]
  split
  ·exact zBd g L _ _ ⟨zCZ h.1, zCZ h.2.1, zCZ h.2.2⟩ hv' hu'
  ·refine zBd g L u _ ⟨Int.le_trans h.1 (zFy hv.1), Int.le_trans h.2.1 (zFy hv.2.1), Int.le_trans h.2.2 (zFy hv.2.2)⟩ hv' hu
theorem zCt {a b c : Int} (h : b <= c) : subI a c <= subI a b := zAv (by have := zAv h; omega)
theorem zGO (n : NodeD) (G : List PodD) (g : PodD -> Bool) : leR (freeP (allP n G)) (freeP (allP n (G.filter g))) := by
 have h := zBd g G (0, 0, 0) (0, 0, 0) ⟨Int.le_refl _, Int.le_refl _, Int.le_refl _⟩ ⟨by decide, by decide, by decide⟩ ⟨by decide, by decide, by decide⟩
 exact ⟨zCt h.1, zCt h.2.1, zCt h.2.2⟩
theorem fit_less {p : PodD} {n : NodeD} {G : List PodD} (g : PodD -> Bool) (h : why1 p (allP n G) = 0) : why1 p (allP n (G.filter g)) = 0 := by
 rw [why1_zero] at h |-
 obtain ⟨h1, h2, h3, h4, h5, h6, h7, h8⟩ := h
 obtain ⟨f1, f2, f3⟩ := zGO n G g
 refine ⟨h1, h2, h3, ?_, ?_, ?_, ?_, ?_⟩
 ·rw [<- Bool.not_eq_true] at h4 |-
  refine fun h9 => h4 ?_
  unfold clashP at h9 |-
  rw [List.any_eq_true] at h9 |-
  obtain ⟨q, hq, h9⟩ := h9
  refine ⟨q, hq, ?_⟩
  rw [zE7 zE0] at h9 |-
  have h9' : q ∈ sortB iLt iEq ((G.filter g).flatMap pPorts) := h9
  show q ∈ sortB iLt iEq (G.flatMap pPorts)
  rw [zCT (fun a b e => (zE0 a b).1 e), List.mem_flatMap] at h9' |-
  obtain ⟨z, hz, h9'⟩ := h9'
  exact ⟨z, (List.mem_filter.1 hz).1, h9'⟩
 ·unfold cntB at h5 |-
  rw [decide_eq_false_iff_not] at h5 |-
  have h9 : (sortB sLt sEq ((G.filter g).map (·.1))).length <= (sortB sLt sEq (G.map (·.1))).length := zFR (fun x hx => by
   obtain ⟨z, hz, e⟩ := List.mem_map.1 hx
   exact List.mem_map.2 ⟨z, (List.mem_filter.1 hz).1, e⟩)
  intro h8
  apply h5
  have h8' : n.2.2.2.2.2.1 <= ((sortB sLt sEq ((G.filter g).map (·.1))).length : Int) := h8
  show n.2.2.2.2.2.1 <= ((sortB sLt sEq (G.map (·.1))).length : Int)
  omega
 ·unfold cpuB at h6 |-
  rw [decide_eq_false_iff_not] at h6 |-
  omega
 ·unfold memB at h7 |-
  rw [decide_eq_false_iff_not] at h7 |-
  omega
 ·unfold dskB at h8 |-
  rw [decide_eq_false_iff_not] at h8 |-
  omega
theorem near_less {p : PodD} {L : List Lab} {A A' : List PlacedD} (hp : pNear p = []) (hs : ∀ x ∈ A', x ∈ A) (h : nearP p L A = 0) : nearP p L A' = 0 := by
 unfold nearP at h |-
 have hs' : ∀ x ∈ othersN p.1 A', x ∈ othersN p.1 A := fun x hx => by
  unfold othersN at hx |-
  rw [List.mem_filter] at hx |-
  exact ⟨hs x hx.1, hx.2⟩
 generalize othersN p.1 A = B at h hs'
 generalize othersN p.1 A' = B' at hs' |-
 unfold whyN at h |-
 rw [hp] at h |-
 simp only [List.any_nil, Bool.false_eq_true, if_false] at h |-
 have h1 : (pApart p).any (aparT L B) = false := by
  cases e : (pApart p).any (aparT L B) with
  | false => rfl
  | true => rw [e, if_pos rfl] at h; cases h
 rw [h1, if_neg (by decide)] at h
 have h2 : L.any (othL (pLabs p) L B) = false := by
  cases e : L.any (othL (pLabs p) L B) with
  | false => rfl
  | true => rw [e, if_pos rfl] at h; cases h
 have h3 : (pApart p).any (aparT L B') = false := by
  rw [<- Bool.not_eq_true] at h1 |-
  refine fun h9 => h1 ?_
  rw [List.any_eq_true] at h9 |-
  obtain ⟨t, ht, h9⟩ := h9
  refine ⟨t, ht, ?_⟩
  unfold aparT at h9 |-
  rw [Bool.and_eq_true, decide_eq_true_eq, cT_pos] at h9 |-
  obtain ⟨h9, x, hx, hy⟩ := h9
  exact ⟨h9, x, hs' x hx, hy⟩
 have h4 : L.any (othL (pLabs p) L B') = false := by
  rw [<- Bool.not_eq_true] at h2 |-
  refine fun h9 => h2 ?_
  rw [List.any_eq_true] at h9 |-
  obtain ⟨t, ht, h9⟩ := h9
  refine ⟨t, ht, ?_⟩
  unfold othL at h9 |-
  rw [Bool.and_eq_true, Bool.and_eq_true, decide_eq_true_eq, decide_eq_true_eq, cO_pos, cO_pos] at h9 |-
  obtain ⟨⟨x, hx, hy⟩, h9, z, hz, hw⟩ := h9
  exact ⟨⟨x, hs' x hx, hy⟩, h9, z, hs' z hz, hw⟩
 rw [h3, if_neg (by decide), h4, if_neg (by decide)]
theorem plan_less {p : PodD} {n : NodeD} {G : List PodD} (g : PodD -> Bool) {y y' : StateD} (hy : y'.2 = y.2) (h : (planQ p (allP n G) y).2 = 0) : (planQ p (allP n (G.filter g)) y').2 = 0 := by
 unfold planQ at h |-
 unfold sVs sCs sKs at h |-
 rw [hy]
 unfold planP at h |-
 have e1 : iLabs (allP n (G.filter g)) = iLabs (allP n G) := rfl
 have e2 : iNum (allP n (G.filter g)) = iNum (allP n G) := rfl
 rw [e1, e2]
 cases e : planL (allL Prod.fst y.2.2.1, y.2.2.2.1) y.2.2.2.2.1 (iLabs (allP n G)) (allL id (pClm p)) [] with
 | error x => rw [e] at h; exact h
 | ok out =>
  rw [e] at h
  simp only at h |-
  have h1 : disksP (iDsk (allP n G)) (allL id (pClm p)) (iNum (allP n G)) = false := by
   cases e3 : disksP (iDsk (allP n G)) (allL id (pClm p)) (iNum (allP n G)) with
   | false => rfl
   | true => rw [e3, if_pos rfl] at h; cases h
  have h2 : disksP (iDsk (allP n (G.filter g))) (allL id (pClm p)) (iNum (allP n G)) = false := by
   unfold disksP at h1 |-
   rw [decide_eq_false_iff_not] at h1 |-
   have h9 : (sortB sLt sEq (iDsk (allP n (G.filter g)) ++ allL id (pClm p))).length <= (sortB sLt sEq (iDsk (allP n G) ++ allL id (pClm p))).length := zFR (fun x hx => by
    rw [List.mem_append] at hx |-
    refine hx.imp (fun hx => ?_) id
    have hx' : x ∈ sortB sLt sEq ((G.filter g).flatMap pClaims) := hx
    show x ∈ sortB sLt sEq (G.flatMap pClaims)
    rw [zBI, List.mem_flatMap] at hx' |-
    obtain ⟨z, hz, e⟩ := hx'
    exact ⟨z, (List.mem_filter.1 hz).1, e⟩)
   omega
  rw [h2]
  rfl
theorem zHK {x : StateD} {p : PodD} {s : ByteArray} (nms : List ByteArray) (hn : pNear p = []) (hsp : pSpreads p = []) (h : (ansP (aroundP x p.1) p s).1 = 0) : (ansP (aroundP (withoutP x nms) p.1) p s).1 = 0 := by
 rw [zDO]
 generalize aroundP x p.1 = y at h |-
 rw [ans_node] at h |-
 simp only
 cases e : (firstsN y.2.1).find? (fun n : NodeD => sEq n.1 s) with
 | none => rw [e] at h; exact h
 | some n =>
  rw [e] at h
  simp only at h |-
  rw [ask_zero] at h |-
  obtain ⟨h0, h1, h2, h3⟩ := h
  have eg : grpP (firstsP (y.1.filter (stayB nms))) n.1 = (grpP (firstsP y.1) n.1).filter (stayB nms) := by
   rw [zBp]
   unfold grpP
   rw [List.filter_filter, List.filter_filter]
   exact List.filter_congr (fun q _ => Bool.and_comm _ _)
  rw [eg]
  refine ⟨fit_less _ h0, ?_, ?_, plan_less (y := y) _ rfl h3⟩
  ·refine near_less (A := placedP y) hn (fun z hz => ?_) h1
   unfold placedP at hz |-
   rw [List.mem_map] at hz |-
   obtain ⟨q, hq, e⟩ := hz
   refine ⟨q, ?_, e⟩
   rw [List.mem_filter] at hq |-
   exact ⟨(List.mem_filter.1 hq.1).1, hq.2⟩
  ·show spreadP 12 p _ _ _ = 0
   unfold spreadP
   rw [hsp]
   rfl
end Go.Proofs.YtnffafjamiffnaaGreat
namespace Go.Proofs.YtnffafjamiffnaaGreat
open Go.ChangeShapes Go.WideShapes Go.ChangeAt Go.RowKit
theorem zG3 : OpensM (RSl RInt 1 8) (sumBy (fun _ => 1)) 45 := zAb RInt.firm Tryz.underlying45 (by kernel_rfl) (by kernel_rfl) (by decide) (Opens.m zAG)
theorem zGH : OpensM (RSl RStr 1 16) (sumBy (fun _ => 1)) 31 := zAb RStr.firm Tryz.underlying31 (by kernel_rfl) (by kernel_rfl) (by decide) (Opens.m zA8)
theorem zCE : OpensM (RSl RTerm 2 40) (sumBy (fun _ => 1)) 46 := zAb RTerm.firm Tryz.underlying46 (by kernel_rfl) (by kernel_rfl) (by decide) (Opens.m zGv)
def mPodF (x : PodD) : Nat := 1 + (1 + (1 + (1 + (1 + (1 + (1 + (sumBy (fun _ => 1) (pPorts x) + (sumBy (fun _ => 1) (pNear x) + (sumBy (fun _ => 1) (pApart x) + (1 + (sumBy (fun _ => 1) (pClaims x) + (1 + 1))))))))))))
theorem zCd : OpensM RPod mPodF 49 := by
 intro H enc W base n sp held cs x hx hl
 obtain ⟨y, hy, hm⟩ := (zBt (total := 16) Tryz.underlying49 (by kernel_rfl) (zA5 (mm := 1) rfl (by kernel_rfl) (Opens.m zA8) (zA5 (mm := 2) rfl (by kernel_rfl) (Opens.m zAG) (zA5 (mm := 3) rfl (by kernel_rfl) (Opens.m zBq) (zA5 (mm := 6) rfl (by kernel_rfl) (Opens.m zEs) (zA5 (mm := 7) rfl (by kernel_rfl) (Opens.m zFN) (zA5 (mm := 8) rfl (by kernel_rfl) (Opens.m zAW) (zA5 (mm := 9) rfl (by kernel_rfl) (Opens.m zDU) (zA5 (mm := 10) rfl (by kernel_rfl) zG3 (zA5 (mm := 11) rfl (by kernel_rfl) zCE (zA5 (mm := 12) rfl (by kernel_rfl) zCE (zA5 (mm := 13) rfl (by kernel_rfl) (Opens.m zDS) (zA5 (mm := 14) rfl (by kernel_rfl) zGH (zA5 (mm := 15) rfl (by kernel_rfl) (Opens.m zA8) (zBn rfl (by kernel_rfl) (Opens.m zA8)))))))))))))))) hx hl
 exact ⟨y, hy, hm⟩
def mStateF (x : StateD) : Nat := sumBy mPodF x.1 + (sumBy (fun _ => 1) x.2.1 + (1 + (1 + (1 + 1))))
theorem zEJ : OpensM (RSl RPod 16 296) (sumBy mPodF) 22 := zAb RPod.firm Tryz.underlying22 (by kernel_rfl) (by kernel_rfl) (by decide) zCd
theorem zDR : OpensM (RSl RNode 9 112) (sumBy fun _ => 1) 23 := zAb RNode.firm Tryz.underlying23 (by kernel_rfl) (by kernel_rfl) (by decide) zGw.m
theorem zED : OpensM RState mStateF 29 := by
 intro H enc W base n sp held cs x hx hl
 obtain ⟨y, hy, hm⟩ := (zBt (total := 6) Tryz.underlying29 (by kernel_rfl) (zA5 (mm := 1) rfl (by kernel_rfl) zEJ (zA5 (mm := 2) rfl (by kernel_rfl) zDR (zA5 (mm := 3) rfl (by kernel_rfl) (Opens.m zDC) (zA5 (mm := 4) rfl (by kernel_rfl) (Opens.m zDx) (zA5 (mm := 5) rfl (by kernel_rfl) (Opens.m zEV) (zBn rfl (by kernel_rfl) (Opens.m zDJ)))))))) hx hl
 exact ⟨y, hy, hm⟩
theorem bPod_le (p : PodD) : bPod p <= mPodF p := by unfold bPod mPodF; simp only [zC0]; omega
theorem bState_le (x : StateD) : sumBy bPod x.1 + x.2.1.length <= mStateF x := by
 have h := zC8 bPod_le x.1
 unfold mStateF
 simp only [zC0]
 omega
theorem zDm {α : Type} {R : Rep α} {m : α -> Nat} {t : TypeId} {fs : Array Field} (hu : Tryz.prog.underlying t = some (.struct fs)) (h : OpensM R m t) {H : Type} {enc : TypeId × Value -> H} {W : World} {base b0 : Nat} {r : Reach} {sp : Nat -> Bool} {held : Bool} {v : Value} {d : DataW H} {p : List MemPlace}
  (hv : Value.okWide Tryz.prog W r b0 t v) (hd : DataW.Trod enc Tryz.prog W base sp held t v d p) (hl : Light d t) : ∃ cs y, v = .agg cs /\ R (fun _ => True) W cs.toList y /\ m y <= Rows.uptoBulk d := by
 obtain ⟨cs, fuel, e, hf⟩ := arg_agg hu hv hd
 obtain ⟨y, hy, hm⟩ := h hf hl
 exact ⟨cs, y, e, hy, hm⟩
end Go.Proofs.YtnffafjamiffnaaGreat
namespace Go.Proofs.YtnffafjamiffnaaGreat
open Go.RowKit Go.Maps
def smT : StateD := bindP smD 0 ⟨#[110]⟩
theorem wk111 : ansP (aroundP smD ⟨#[97]⟩) (podS 97 500) ⟨#[110]⟩ = (0, []) := by kernel_rfl
theorem wk112 : ansP (aroundP smT ⟨#[98]⟩) (podS 98 600) ⟨#[110]⟩ = (6, []) := by kernel_rfl
theorem wk113 : ansP (aroundP smD ⟨#[97]⟩) (podS 97 500) ⟨#[120]⟩ = (16, []) := by kernel_rfl
theorem wkf1 : FeFit smD (podS 97 500) := zCP (by decide)
theorem wkf2 : FeFit smT (podS 98 600) := zCP (by decide)
theorem wkb1 : fI (smD.1.map Prod.fst) ⟨#[97]⟩ = some 0 := by kernel_rfl
theorem wkb2 : fI (smD.2.1.map Prod.fst) ⟨#[110]⟩ = some 0 := by kernel_rfl
theorem wkb3 : sEq (pNode (smD.1.getD 0 default)) ⟨#[]⟩ = true := by kernel_rfl
theorem wkb4 : applyP (sVs smD, sCs smD) [] = .ok ([], []) := by kernel_rfl
theorem wk_bound {w u : World} {e : Ending} {cs : List Value} {A : Where} {wz : World} (hR : RState A wz cs smD) (h : BdOut smD ⟨#[97]⟩ ⟨#[110]⟩ [] w e u) : ∃ ds, e = .returned (.tuple #[.agg ds.toArray, .int .i64 0]) /\ RState (fun _ => True) u ds smT /\ ds.length = 6 /\ Below w.heap.size w u := by
 rcases h with ⟨h | h, _⟩ | ⟨k, j, hk, hj, h⟩
 ·rw [wkb1] at h; cases h
 ·rw [wkb2] at h; cases h
 ·rw [wkb1] at hk
  injection hk with hk
  subst hk
  rcases h with ⟨h, _⟩ | ⟨_, ⟨v, st, g0, g1, g2, g3, g4, g5, hv, ha, rfl, r2, r3, _, r0, r1, r4, r5⟩ | ⟨k, ha, _⟩⟩
  ·rw [wkb3] at h; cases h
  ·rw [wkb4] at ha
   injection ha with ha
   subst ha
   exact ⟨[g0, g1, g2, g3, g4, g5], rfl, zDY (x := smT) r0 r1 r2 r3 r4 r5 hR (by decide) (by decide) (by decide) (by decide) (by decide) (by decide), rfl, r0.below⟩
  ·rw [wkb4] at ha; cases ha
theorem zHF {u : World} {B : Nat} {A C : List Value} (h : BoxL u B (A ++ C)) : u.rangeAt B 0 A := fun j v hj => by
 have := h.range j v (by rw [List.getElem?_append_left (List.getElem?_eq_some_iff.1 hj).1]; exact hj)
 exact this
theorem zFo {u : World} {B : Nat} {A C : List Value} (h : BoxL u B (A ++ C)) {n : Nat} (hn : A.length = n) : u.rangeAt B n C := fun j v hj => by
 have := h.range (n + j) v (by rw [List.getElem?_append_right (by omega), show n + j - A.length = j by omega]; exact hj)
 rwa [Nat.zero_add] at this
theorem zEe (b : Nat) : (Tryz.prog.info? 29).map (·.size) = some ([.slice (some ⟨b + 1, 0, none⟩) 2 2, .slice (some ⟨b, 0, none⟩) 1 1, .slice none 0 0, .slice none 0 0, .slice none 0 0, .slice none 0 0] : List Value).length := zAS
theorem zER (w : World) : Calls Tryz.prog 14 #[] w fun e w' => e = .returned (.bool true) /\ Below w.heap.size w w' := by
 have hCs := zGF w
 go_enter Tryz.func14, Tryz.ntmps14
 go_wp2_with fail
 refine hCs.mono ?_
 rintro e w1 ⟨b, rfl, q1, q2, hb, b1⟩
 clear hCs
 go_upto_region 2 with fail
 obtain ⟨W1, hW1⟩ : ∃ W, W = w1.alloc (.cells #[.slice (some ⟨b + 1, 0, none⟩) 2 2, .slice (some ⟨b, 0, none⟩) 1 1, .slice none 0 0, .slice none 0 0, .slice none 0 0, .slice none 0 0] 29) := ⟨_, rfl⟩
 rw [<- hW1]
 have B1 : Below w1.heap.size w1 W1 := by rw [hW1]; exact (Below.refl _ _).alloc (Nat.le_refl _) _
 have qX : BoxL W1 w1.heap.size [.slice (some ⟨b + 1, 0, none⟩) 2 2, .slice (some ⟨b, 0, none⟩) 1 1, .slice none 0 0, .slice none 0 0, .slice none 0 0, .slice none 0 0] := by rw [hW1]; exact BoxL.new w1 29 _
 obtain ⟨X, hX⟩ : ∃ X, X = w1.heap.size := ⟨_, rfl⟩
 rw [<- hX] at qX |-
 have HU : Hid (∀ u, Below W1.heap.size W1 u -> u.cell? ⟨X, 0, none⟩ = some (.slice (some ⟨b + 1, 0, none⟩) 2 2) /\ RState (fun _ => True) u [.slice (some ⟨b + 1, 0, none⟩) 2 2, .slice (some ⟨b, 0, none⟩) 1 1, .slice none 0 0, .slice none 0 0, .slice none 0 0, .slice none 0 0] smD /\ u.rangeAt X 0 [.slice (some ⟨b + 1, 0, none⟩) 2 2, .slice (some ⟨b, 0, none⟩) 1 1, .slice none 0 0, .slice none 0 0, .slice none 0 0, .slice none 0 0] /\ u.rangeAt (b + 1) 0 (podC 97 500) /\ u.rangeAt (b + 1) 16 (podC 98 600) /\ Below w.heap.size w u) := fun u hu => by
  have h2 := q2.on (on2 B1 hu)
  exact ⟨((qX.on hu).2 0 _ rfl).1, sm_at (q1.on (on2 B1 hu)) h2, (qX.on hu).range, zHF h2, zFo h2 rfl, on2 b1 (on2 B1 hu)⟩
 clear hW1 q1 q2 hb b1 B1 qX hX
 refine t0 (fun z => Below W1.heap.size W1 z) (Below.refl _ _).drew (fun gH => ?_)
 generalize hwd : W1.drew = wd at gH |-
 clear hwd
 try go_frame
 refine tq 0 (.agg (List.toArray [.slice (some ⟨b + 1, 0, none⟩) 2 2, .slice (some ⟨b, 0, none⟩) 1 1, .slice none 0 0, .slice none 0 0, .slice none 0 0, .slice none 0 0])) (yieldsIf_load_mid (by rfl) 29 _ rfl X 0 rfl [.slice (some ⟨b + 1, 0, none⟩) 2 2, .slice (some ⟨b, 0, none⟩) 1 1, .slice none 0 0, .slice none 0 0, .slice none 0 0, .slice none 0 0] _ (fun u hu => (HU.out u hu).2.2.1) Tryz.underlying29 rfl (zEe b)) ?_ (hi := rfl)
 try go_frame
 refine tp 1 ?_
 try go_frame
 refine' tk 2 ?_ ?_; rotate_left
 ·intro u hu; have f0 := (HU.out u hu).1; clear hu; go_simp; try with_reducible rfl
 try go_frame
 refine tp 3 ?_
 try go_frame
 refine tq 4 (.agg (List.toArray (podC 97 500))) (yieldsIf_load_mid (by rfl) 49 _ rfl (b + 1) 0 rfl (podC 97 500) _ (fun u hu => (HU.out u hu).2.2.2.1) Tryz.underlying49 rfl zAM) ?_ (hi := rfl)
 try go_frame
 have hC := zB8 [.slice (some ⟨b + 1, 0, none⟩) 2 2, .slice (some ⟨b, 0, none⟩) 1 1, .slice none 0 0, .slice none 0 0, .slice none 0 0, .slice none 0 0] smD (podC 97 500) (podS 97 500) ⟨#[110]⟩ wd (HU.out wd gH).2.1 (zCs _ _ 97 500) wkf1
 rw [show (podS 97 500).1 = ⟨#[97]⟩ from rfl, wk111] at hC
 refine tr 5 (fun K hK => ?_)
 go_simp
 refine hC.mono ?_
 rintro e w2 ⟨aa, nn, cc, rfl, _, b8⟩
 have b9 := on2 gH b8
 go_wp2_with fail
 refine hK.out _ _ b9 (fun gI => ?_)
 clear hK K gH hC; have gH := gI; clear gI
 try go_frame
 refine tp 6 ?_
 try go_frame
 refine tp 7 ?_
 try go_frame
 refine tp 8 ?_
 try go_frame
 refine tp 9 ?_
 try go_frame
 refine tp 10 ?_
 try go_frame
 refine tz ?_
 have b2 : Below W1.heap.size W1 w2 := gH
 have HR2 : Hid (w2.rangeAt X 0 [.slice (some ⟨b + 1, 0, none⟩) 2 2, .slice (some ⟨b, 0, none⟩) 1 1, .slice none 0 0, .slice none 0 0, .slice none 0 0, .slice none 0 0]) := (HU.out w2 b2).2.2.1
 have hB := zH7 [.slice (some ⟨b + 1, 0, none⟩) 2 2, .slice (some ⟨b, 0, none⟩) 1 1, .slice none 0 0, .slice none 0 0, .slice none 0 0, .slice none 0 0] smD ⟨#[97]⟩ ⟨#[110]⟩ none 0 0 [] w2 (HU.out w2 b2).2.1 (bz11 _) (zAJ _ _)
 clear gH b9 b8
 go_wp2_with (first | (refine wpList_load_mid rfl 29 _ rfl X 0 rfl [.slice (some ⟨b + 1, 0, none⟩) 2 2, .slice (some ⟨b, 0, none⟩) 1 1, .slice none 0 0, .slice none 0 0, .slice none 0 0, .slice none 0 0] _ HR2.out Tryz.underlying29 rfl (zEe b) ?_) | fail)
 refine hB.mono ?_
 intro e w3 h3
 obtain ⟨ds, rfl, hT, _, b3⟩ := wk_bound (HU.out w2 b2).2.1 h3
 clear hB h3 HR2
 obtain ⟨⟨a0, n0, m0⟩, ⟨a1, n1, m1⟩, ⟨a2, n2, m2⟩, ⟨a3, n3, m3⟩, ⟨a4, n4, m4⟩, ⟨a5, n5, m5⟩, rfl, -⟩ := hT.out
 simp only at hT |-
 go_upto_region 4 with fail
 obtain ⟨W4, hW4⟩ : ∃ W, W = w3.alloc (.cells #[.slice a0 n0 m0, .slice a1 n1 m1, .slice a2 n2 m2, .slice a3 n3 m3, .slice a4 n4 m4, .slice a5 n5 m5] 29) := ⟨_, rfl⟩
 rw [<- hW4]
 have B4 : Below w3.heap.size w3 W4 := by rw [hW4]; exact (Below.refl _ _).alloc (Nat.le_refl _) _
 have qY : BoxL W4 w3.heap.size [.slice a0 n0 m0, .slice a1 n1 m1, .slice a2 n2 m2, .slice a3 n3 m3, .slice a4 n4 m4, .slice a5 n5 m5] := by rw [hW4]; exact BoxL.new w3 29 _
 obtain ⟨Y, hY⟩ : ∃ Y, Y = w3.heap.size := ⟨_, rfl⟩
 rw [<- hY] at qY |-
 have HV : Hid (∀ u, Below W4.heap.size W4 u -> RState (fun _ => True) u [.slice a0 n0 m0, .slice a1 n1 m1, .slice a2 n2 m2, .slice a3 n3 m3, .slice a4 n4 m4, .slice a5 n5 m5] smT /\ u.rangeAt Y 0 [.slice a0 n0 m0, .slice a1 n1 m1, .slice a2 n2 m2, .slice a3 n3 m3, .slice a4 n4 m4, .slice a5 n5 m5] /\ Below W1.heap.size W1 u) := fun u hu => ⟨RState.firm.kept hT (Kept.below (on2 B4 hu)), (qY.on hu).range, on2 b2 (on2 b3 (on2 B4 hu))⟩
 clear hW4 B4 qY hY hT b3 b2
 refine t0 (fun z => Below W4.heap.size W4 z) (Below.refl _ _).drew (fun gH => ?_)
 generalize hwd : W4.drew = wd at gH |-
 clear hwd
 try go_frame
 refine tq 0 (.agg (List.toArray [.slice a0 n0 m0, .slice a1 n1 m1, .slice a2 n2 m2, .slice a3 n3 m3, .slice a4 n4 m4, .slice a5 n5 m5])) (yieldsIf_load_mid (by rfl) 29 _ rfl Y 0 rfl [.slice a0 n0 m0, .slice a1 n1 m1, .slice a2 n2 m2, .slice a3 n3 m3, .slice a4 n4 m4, .slice a5 n5 m5] _ (fun u hu => (HV.out u hu).2.1) Tryz.underlying29 rfl zAS) ?_ (hi := rfl)
 try go_frame
 refine tp 1 ?_
 try go_frame
 refine' tk 2 ?_ ?_; rotate_left
 ·intro u hu; have f0 := (HU.out u (HV.out u hu).2.2).1; clear hu; go_simp; try with_reducible rfl
 try go_frame
 refine tp 3 ?_
 try go_frame
 refine tq 4 (.agg (List.toArray (podC 98 600))) (yieldsIf_load_mid (by rfl) 49 _ rfl (b + 1) 16 rfl (podC 98 600) _ (fun u hu => (HU.out u (HV.out u hu).2.2).2.2.2.2.1) Tryz.underlying49 rfl zAM) ?_ (hi := rfl)
 try go_frame
 have hC := zB8 [.slice a0 n0 m0, .slice a1 n1 m1, .slice a2 n2 m2, .slice a3 n3 m3, .slice a4 n4 m4, .slice a5 n5 m5] smT (podC 98 600) (podS 98 600) ⟨#[110]⟩ wd (HV.out wd gH).1 (zCs _ _ 98 600) wkf2
 rw [show (podS 98 600).1 = ⟨#[98]⟩ from rfl, wk112] at hC
 refine tr 5 (fun K hK => ?_)
 go_simp
 refine hC.mono ?_
 rintro e w5 ⟨aa, nn, cc, rfl, _, b8⟩
 have b9 := on2 gH b8
 go_wp2_with fail
 refine hK.out _ _ b9 (fun gI => ?_)
 clear hK K gH hC; have gH := gI; clear gI
 try go_frame
 refine tp 6 ?_
 try go_frame
 refine tp 7 ?_
 try go_frame
 refine tp 8 ?_
 try go_frame
 refine tp 9 ?_
 try go_frame
 refine tp 10 ?_
 try go_frame
 refine tz ?_
 have B5 : Below W1.heap.size W1 w5 := (HV.out w5 gH).2.2
 clear HV gH b9 b8
 go_upto_region 5 with fail
 refine t0 (fun z => Below w5.heap.size w5 z) (Below.refl _ _).drew (fun gH => ?_)
 generalize hwd : w5.drew = wd at gH |-
 clear hwd
 try go_frame
 refine tq 0 (.agg (List.toArray [.slice (some ⟨b + 1, 0, none⟩) 2 2, .slice (some ⟨b, 0, none⟩) 1 1, .slice none 0 0, .slice none 0 0, .slice none 0 0, .slice none 0 0])) (yieldsIf_load_mid (by rfl) 29 _ rfl X 0 rfl [.slice (some ⟨b + 1, 0, none⟩) 2 2, .slice (some ⟨b, 0, none⟩) 1 1, .slice none 0 0, .slice none 0 0, .slice none 0 0, .slice none 0 0] _ (fun u hu => (HU.out u (on2 B5 hu)).2.2.1) Tryz.underlying29 rfl (zEe b)) ?_ (hi := rfl)
 try go_frame
 refine tp 1 ?_
 try go_frame
 refine' tk 2 ?_ ?_; rotate_left
 ·intro u hu; have f0 := (HU.out u (on2 B5 hu)).1; clear hu; go_simp; try with_reducible rfl
 try go_frame
 refine tp 3 ?_
 try go_frame
 refine tq 4 (.agg (List.toArray (podC 97 500))) (yieldsIf_load_mid (by rfl) 49 _ rfl (b + 1) 0 rfl (podC 97 500) _ (fun u hu => (HU.out u (on2 B5 hu)).2.2.2.1) Tryz.underlying49 rfl zAM) ?_ (hi := rfl)
 try go_frame
 have hC := zB8 [.slice (some ⟨b + 1, 0, none⟩) 2 2, .slice (some ⟨b, 0, none⟩) 1 1, .slice none 0 0, .slice none 0 0, .slice none 0 0, .slice none 0 0] smD (podC 97 500) (podS 97 500) ⟨#[120]⟩ wd (HU.out wd (on2 B5 gH)).2.1 (zCs _ _ 97 500) wkf1
 rw [show (podS 97 500).1 = ⟨#[97]⟩ from rfl, wk113] at hC
 refine tr 5 (fun K hK => ?_)
 go_simp
 refine hC.mono ?_
 rintro e w6 ⟨aa, nn, cc, rfl, _, b8⟩
 have b9 := on2 gH b8
 go_wp2_with fail
 refine hK.out _ _ b9 (fun gI => ?_)
 clear hK K gH hC; have gH := gI; clear gI
 try go_frame
 refine tp 6 ?_
 try go_frame
 refine tp 7 ?_
 try go_frame
 refine tp 8 ?_
 try go_frame
 refine tp 9 ?_
 try go_frame
 refine tp 10 ?_
 try go_frame
 refine tz ?_
 have HF : Hid (Below w.heap.size w w6) := (HU.out w6 (on2 B5 gH)).2.2.2.2.2
 clear HU B5 gH b9 b8
 go_wp2_with fail
 go_ret
 exact ⟨rfl, HF.out⟩
end Go.Proofs.YtnffafjamiffnaaGreat
