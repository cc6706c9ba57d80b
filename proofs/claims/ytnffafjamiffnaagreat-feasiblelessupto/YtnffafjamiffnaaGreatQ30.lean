/- planOf: the tables, and the volumes that can be had on the node. Condition: the labels and the state's lists lie as is said of them. -/
import Derived.Test.YtnffafjamiffnaaGreatQ20
import Derived.Test.YtnffafjamiffnaaGreatQ25
set_option linter.unusedSimpArgs false
set_option maxRecDepth 100000
set_option maxHeartbeats 32000000
namespace Go.Proofs.YtnffafjamiffnaaGreat
open Go.RowKit Go.Maps
theorem zB0 : (Tryz.prog.info? 228).map (·.size) = some 9 := by kernel_rfl
def PofA (W1 : World) (la : Option Addr) (ln lc : Nat) (ca : Option Addr) (cn cc : Nat) (va : Option Addr) (vn vc : Nat) (ka : Option Addr) (kn kc : Nat) (CL : List ClaimD) (V : List VolumeD) (KL : List ClassD) (X mc mv mk : Nat) (u : World) : Prop :=
 NmAt u mc (CL.map Prod.fst) /\ NmAt u mv (V.map Prod.fst) /\ NmAt u mk (KL.map Prod.fst) /\ X ≠ mc /\ X ≠ mv /\ X ≠ mk /\ BoxL u X [.slice la ln lc, .slice ca cn cc, .map (some mc), .slice va vn vc, .map (some mv), .slice ka kn kc, .map (some mk), .slice none 0 0, .slice none 0 0] /\ Below W1.heap.size W1 u /\ W1.heap.size <= X /\ W1.heap.size <= mc /\ W1.heap.size <= mv /\ W1.heap.size <= mk
theorem zGP {NL : List Lab} {V : List VolumeD} {k : Nat} (h : k < V.length) : leftP NL (V.take (k + 1)) [] = leftP NL (V.take k) [] ++ (if hadV NL (V.getD k default) = true then [V.getD k default] else []) := by
 unfold leftP
 rw [List.take_succ_eq_append_getElem h, List.filter_append, List.getD_eq_getElem?_getD, List.getElem?_eq_getElem h]
 simp only [Option.getD_some]
 generalize V[k] = y
 congr 1
 cases hh : hadV NL y <;> simp [hasB, List.filter_cons, hh]
theorem zFI (NL : List Lab) (V : List VolumeD) (p : List ByteArray) : (leftP NL V p).length <= V.length := List.length_filter_le _ _
theorem Row.get10 {α : Type} [Inhabited α] {R : Rep α} {k : Nat} (hR : Firm R k) {A : Where} {w0 u : World} {e : TypeId} {v : Value} {L : List α} (h : Row R k A w0 u e v L) {i : Nat} (hi : i < L.length) : ∃ g c cs, v = .slice (some ⟨g, 0, none⟩) L.length c /\ g < u.heap.size /\ R (fun b => A b /\ v.ownBlock ≠ some b) u cs (L.getD i default) /\ u.rangeAt g (i * k) cs := by
 obtain ⟨xs, h1, h2⟩ := h
 obtain ⟨cs, hr, hc⟩ := h2.2 i hi
 have h12 := h1.2
 obtain ⟨_, ⟨_, h0⟩ | ⟨g, cap, cur, rfl, hg, hh, hnc, _, hcs, htk⟩⟩ := h1.2
 ·omega
 refine ⟨g, cap, cs, rfl, (Array.getElem?_eq_some_iff.1 hh).1, hr, fun j y hj => ?_⟩
 have hjk : j < k := by have := (List.getElem?_eq_some_iff.1 hj).1; rwa [hR.len hr] at this
 have hle : (i + 1) * k <= L.length * k := Nat.mul_le_mul_right k hi
 rw [Nat.add_mul, Nat.one_mul] at hle
 rw [h12.cellAt (i * k + j) (by omega), hc j hjk]
 exact hj
def PofOut (w : World) (la : Option Addr) (ln lc : Nat) (ca : Option Addr) (cn cc : Nat) (va : Option Addr) (vn vc : Nat) (ka : Option Addr) (kn kc : Nat) (NL : List Lab) (CL : List ClaimD) (V Q : List VolumeD) (KL : List ClassD) (e : Ending) (u : World) : Prop :=
 ∃ mc mv mk a n c, e = .returned (.agg #[.slice la ln lc, .slice ca cn cc, .map (some mc), .slice va vn vc, .map (some mv), .slice ka kn kc, .map (some mk), .slice a n c, .slice none 0 0]) /\
  NmAt u mc (CL.map Prod.fst) /\ NmAt u mv (V.map Prod.fst) /\ NmAt u mk (KL.map Prod.fst) /\ Row RVolume 5 (fun b => b < w.heap.size) w u 79 (.slice a n c) (leftP NL Q []) /\ (∀ b, (Value.slice a n c).ownBlock = some b -> b ≠ mc /\ b ≠ mv /\ b ≠ mk) /\ w.heap.size <= mc /\ w.heap.size <= mv /\ w.heap.size <= mk
theorem zEq (la : Option Addr) (ln lc : Nat) (v0 v1 v5 : Value) (ca : Option Addr) (cn cc : Nat) (va : Option Addr) (vn vc : Nat) (ka : Option Addr) (kn kc : Nat) (NL : List Lab) (CL : List ClaimD) (V : List VolumeD) (KL : List ClassD) (w : World) (hl : SlAt RLabel 2 32 (fun _ => True) w la ln lc NL) (hc : SlAt RClaim 4 56 (fun _ => True) w ca cn cc CL) (hv : SlAt RVolume 5 72 (fun _ => True) w va vn vc V) (hk : SlAt RClass 2 24 (fun _ => True) w ka kn kc KL) (hv8 : V.length * 80 <= 140737488355328) :
  Calls Tryz.prog 126 #[.slice la ln lc, .agg #[v0, v1, .slice va vn vc, .slice ca cn cc, .slice ka kn kc, v5]] w (PofOut w la ln lc ca cn cc va vn vc ka kn kc NL CL V (allL Prod.fst V) KL) := by
 obtain ⟨Q, hQ⟩ : ∃ Q, Q = allL Prod.fst V := ⟨_, rfl⟩
 rw [<- hQ]
 have HQ : Hid (Q = allL Prod.fst V) := hQ
 clear hQ
 obtain ⟨W1, hW1⟩ : ∃ W, W = (w.alloc (.cells #[v0, v1, .slice va vn vc, .slice ca cn cc, .slice ka kn kc, v5] 29)).alloc (.cells #[.slice none 0 0, .slice none 0 0, .map none, .slice none 0 0, .map none, .slice none 0 0, .map none, .slice none 0 0, .slice none 0 0] 228) := ⟨_, rfl⟩
 have B1 : Below w.heap.size w W1 := by rw [hW1]; go_grown
 have q1 : BoxL W1 w.heap.size [v0, v1, .slice va vn vc, .slice ca cn cc, .slice ka kn kc, v5] := by rw [hW1]; exact (BoxL.new w 29 _).on ((Below.refl _ _).alloc (Nat.le_refl _) _)
 have q2 : BoxL W1 (w.heap.size + 1) [.slice none 0 0, .slice none 0 0, .map none, .slice none 0 0, .map none, .slice none 0 0, .map none, .slice none 0 0, .slice none 0 0] := by rw [hW1]; have := BoxL.new (w.alloc (.cells #[v0, v1, .slice va vn vc, .slice ca cn cc, .slice ka kn kc, v5] 29)) 228 [.slice none 0 0, .slice none 0 0, .map none, .slice none 0 0, .map none, .slice none 0 0, .map none, .slice none 0 0, .slice none 0 0]; simpa using this
 have hz1 : W1.heap.size = w.heap.size + 1 + 1 := by rw [hW1]; simp
 have HW : Hid (∀ u, Below w.heap.size w u -> SlAt RLabel 2 32 (fun b => b < w.heap.size) u la ln lc NL /\ SlAt RClaim 4 56 (fun b => b < w.heap.size) u ca cn cc CL /\ SlAt RVolume 5 72 (fun b => b < w.heap.size) u va vn vc V /\ SlAt RClass 2 24 (fun b => b < w.heap.size) u ka kn kc KL) := fun u hb => ⟨(hl.weak RLabel.firm (fun b hb _ => hb)).on RLabel.firm hb, (hc.weak RClaim.firm (fun b hb _ => hb)).on RClaim.firm hb, (hv.weak RVolume.firm (fun b hb _ => hb)).on RVolume.firm hb, (hk.weak RClass.firm (fun b hb _ => hb)).on RClass.firm hb⟩
 have hSc : Hid (∀ u, Below W1.heap.size W1 u -> SlAt RClaim 4 56 (fun b => b < w.heap.size) u ca cn cc CL) := fun u hb => (HW.out u (on2 B1 hb)).2.1
 have hSv : Hid (∀ u, Below W1.heap.size W1 u -> SlAt RVolume 5 72 (fun b => b < w.heap.size) u va vn vc V) := fun u hb => (HW.out u (on2 B1 hb)).2.2.1
 have hSk : Hid (∀ u, Below W1.heap.size W1 u -> SlAt RClass 2 24 (fun b => b < w.heap.size) u ka kn kc KL) := fun u hb => (HW.out u (on2 B1 hb)).2.2.2
 have HQ : Hid (∀ z, Below W1.heap.size W1 z -> z.cell? ⟨w.heap.size, 2, none⟩ = some (.slice va vn vc) /\ z.cell? ⟨w.heap.size, 3, none⟩ = some (.slice ca cn cc) /\ z.cell? ⟨w.heap.size, 4, none⟩ = some (.slice ka kn kc)) := fun z hb => ⟨((q1.on hb).2 2 _ rfl).1, ((q1.on hb).2 3 _ rfl).1, ((q1.on hb).2 4 _ rfl).1⟩
 have HB1 : Hid (Below w.heap.size w W1 /\ BoxL W1 (w.heap.size + 1) [.slice none 0 0, .slice none 0 0, .map none, .slice none 0 0, .map none, .slice none 0 0, .map none, .slice none 0 0, .slice none 0 0] /\ W1.heap.size = w.heap.size + 1 + 1) := ⟨B1, q2, hz1⟩
 have Hvl : Hid (V.length = vn) := hv.1
 have hvl := hv.len (by decide)
 clear hl hc hv hk B1 q1 q2 hz1
 go_enter Tryz.func126, Tryz.ntmps126
 go_upto_region 1 with fail
 rw [<- hW1]
 clear hW1
 go_cut [5, 8, 9, 10, 11, 12, 13, 14, 15, 16, 17, 18] (fun x5 _ _ _ _ _ _ _ _ _ _ _ wx => ∃ X mc mv mk : Nat, x5 = .pointer (some ⟨X, 0, none⟩) /\ Hid (PofA W1 la ln lc ca cn cc va vn vc ka kn kc CL V KL X mc mv mk wx))
 case first =>
  refine t0 (fun z => Below W1.heap.size W1 z) (Below.refl _ _).drew (fun gH => ?_)
  have hb0 : Below W1.heap.size W1 W1.drew := (Below.refl _ _).drew
  generalize hwd : W1.drew = wd at gH hb0 |-
  clear hwd
  try go_frame
  refine' tk 0 ?_ ?_; rotate_left
  ·intro u hu; obtain ⟨f1, f2, f3⟩ := HQ.out u hu; clear hu; go_simp; try with_reducible rfl
  try go_frame
  refine' tk 1 ?_ ?_; rotate_left
  ·intro u hu; obtain ⟨f1, f2, f3⟩ := HQ.out u hu; clear hu; go_simp; try with_reducible rfl
  try go_frame
  refine' tk 2 ?_ ?_; rotate_left
  ·intro u hu; obtain ⟨f1, f2, f3⟩ := HQ.out u hu; clear hu; go_simp; try with_reducible rfl
  try go_frame
  refine' tk 4 ?_ ?_; rotate_left
  ·intro u hu; obtain ⟨f1, f2, f3⟩ := HQ.out u hu; clear hu; go_simp; try with_reducible rfl
  try go_frame
  refine' tk 5 ?_ ?_; rotate_left
  ·intro u hu; obtain ⟨f1, f2, f3⟩ := HQ.out u hu; clear hu; go_simp; try with_reducible rfl
  try go_frame
  refine' tk 7 ?_ ?_; rotate_left
  ·intro u hu; obtain ⟨f1, f2, f3⟩ := HQ.out u hu; clear hu; go_simp; try with_reducible rfl
  try go_frame
  refine' tk 8 ?_ ?_; rotate_left
  ·intro u hu; obtain ⟨f1, f2, f3⟩ := HQ.out u hu; clear hu; go_simp; try with_reducible rfl
  try go_frame
  refine tb 3 11 (fun K hK => ?_) (fun K hK => ?_)
  ·
   have hC := zAK ca cn cc _ CL wd (hSc.out wd hb0)
   go_simp
   refine hC.mono ?_
   rintro e u1 ⟨mc, rfl, nc, loc, d1⟩
   clear hC
   have hb1 : Below W1.heap.size W1 u1 := on2 hb0 d1
   have lbc : W1.heap.size <= mc := Nat.le_trans hb0.size loc
   go_wp2_with fail
   refine hK.out _ _ hb1 (fun gI => ?_)
   clear hK K gH; have gH := gI; clear gI
   try go_frame
   refine tb 6 11 (fun K hK => ?_) (fun K hK => ?_)
   ·
    have hC := zA6 va vn vc _ V u1 (hSv.out u1 hb1)
    go_simp
    refine hC.mono ?_
    rintro e u2 ⟨mv, rfl, nv, lov, d2⟩
    clear hC
    have hb2 : Below W1.heap.size W1 u2 := on2 hb1 d2
    have lbv : W1.heap.size <= mv := Nat.le_trans hb1.size lov
    have nc := nc.on d2
    go_wp2_with fail
    refine hK.out _ _ hb2 (fun gI => ?_)
    clear hK K gH; have gH := gI; clear gI
    try go_frame
    refine tb 9 11 (fun K hK => ?_) (fun K hK => ?_)
    ·
     have hC := zAY ka kn kc _ KL u2 (hSk.out u2 hb2)
     go_simp
     refine hC.mono ?_
     rintro e u3 ⟨mk, rfl, nk, lok, d3⟩
     clear hC
     have hb3 : Below W1.heap.size W1 u3 := on2 hb2 d3
     have lbk : W1.heap.size <= mk := Nat.le_trans hb2.size lok
     have nc := nc.on d3
     have nv := nv.on d3
     go_wp2_with fail
     refine hK.out _ _ hb3 (fun gI => ?_)
     clear hK K gH; have gH := gI; clear gI
     try go_frame
     refine tp 10 ?_
     try go_frame
     refine tr 11 (fun K hK => ?_)
     go_simp
     obtain ⟨u4, hu4⟩ : ∃ u4, u4 = u3.alloc (.cells #[.slice none 0 0, .slice none 0 0, .map none, .slice none 0 0, .map none, .slice none 0 0, .map none, .slice none 0 0, .slice none 0 0] 228) := ⟨_, rfl⟩
     have d4 : Below u3.heap.size u3 u4 := by rw [hu4]; exact (Below.refl _ _).alloc (Nat.le_refl _) _
     have hb4 : Below W1.heap.size W1 u4 := on2 hb3 d4
     have zX0 : BoxL u4 u3.heap.size [.slice none 0 0, .slice none 0 0, .map none, .slice none 0 0, .map none, .slice none 0 0, .map none, .slice none 0 0, .slice none 0 0] := by rw [hu4]; exact BoxL.new u3 228 [.slice none 0 0, .slice none 0 0, .map none, .slice none 0 0, .map none, .slice none 0 0, .map none, .slice none 0 0, .slice none 0 0]
     have xc : u3.heap.size ≠ mc := by have := nc.lt; omega
     have xv : u3.heap.size ≠ mv := by have := nv.lt; omega
     have xk : u3.heap.size ≠ mk := by have := nk.lt; omega
     have hX1 : W1.heap.size <= u3.heap.size := hb3.size
     have nc := nc.on d4
     have nv := nv.on d4
     have nk := nk.on d4
     refine hK.out _ _ (hu4 ▸ hb4) (fun gI => ?_)
     rw [<- hu4] at gI |-
     clear hK K gH; have gH := gI; clear gI
     try go_frame
     clear hu4
     generalize u3.heap.size = X at zX0 hX1 xc xv xk |-
     have zX := zX0
     have zA := BoxL.there zX
     obtain ⟨U, hU⟩ : ∃ U, U = u4.setCells X 0 [.slice la ln lc, .slice ca cn cc, .map (some mc), .slice va vn vc, .map (some mv), .slice ka kn kc, .map (some mk), .slice none 0 0, .slice none 0 0] := ⟨_, rfl⟩
     refine ts 12 (fun K hK => ?_)
     refine zA4 (by rfl) (wp_store_mid 228 _ _ rfl X 0 #[.slice la ln lc, .slice ca cn cc, .map (some mc), .slice va vn vc, .map (some mv), .slice ka kn kc, .map (some mk), .slice none 0 0, .slice none 0 0] rfl rfl zX.there zB0 (by simp [Value.oneCell']) ?_)
     have kU : Kept (fun b => b ≠ X) u4 U := by rw [hU]; exact zA1 (fun h => h rfl)
     have bU : Below W1.heap.size W1 U := by rw [hU]; exact zA0 hb4 hX1
     have qU : BoxL U X [.slice la ln lc, .slice ca cn cc, .map (some mc), .slice va vn vc, .map (some mv), .slice ka kn kc, .map (some mk), .slice none 0 0, .slice none 0 0] := by rw [hU]; exact zA2 zX rfl
     have eU : U = u4.setCells X 0 (#[.slice la ln lc, .slice ca cn cc, .map (some mc), .slice va vn vc, .map (some mv), .slice ka kn kc, .map (some mk), .slice none 0 0, .slice none 0 0] : Array Value).toList := by rw [hU]
     rw [<- eU]
     refine hK.out _ _ bU (fun gI => ?_)
     clear hK K gH; have gH := gI; clear gI
     try go_frame
     refine tz ?_
     have HG : Hid (PofA W1 la ln lc ca cn cc va vn vc ka kn kc CL V KL X mc mv mk U) := ⟨nc.kept kU (fun e => xc e.symm), nv.kept kU (fun e => xv e.symm), nk.kept kU (fun e => xk e.symm), xc, xv, xk, qU, bU, hX1, lbc, lbv, lbk⟩
     clear hU eU zA zX kU qU bU nc nv nk xc xv xk hX1 lbc lbv lbk gH loc lov lok
     go_wp2_with fail
     go_meet
     exact ⟨X, mc, mv, mk, rfl, HG⟩
    ·
     go_simp
     obtain ⟨u5, hu5⟩ : ∃ u5, u5 = u2.alloc (.cells #[.slice none 0 0, .slice none 0 0, .map none, .slice none 0 0, .map none, .slice none 0 0, .map none, .slice none 0 0, .slice none 0 0] 228) := ⟨_, rfl⟩
     have d5 : Below u2.heap.size u2 u5 := by rw [hu5]; exact (Below.refl _ _).alloc (Nat.le_refl _) _
     have hb5 : Below W1.heap.size W1 u5 := on2 hb2 d5
     have zX0 : BoxL u5 u2.heap.size [.slice none 0 0, .slice none 0 0, .map none, .slice none 0 0, .map none, .slice none 0 0, .map none, .slice none 0 0, .slice none 0 0] := by rw [hu5]; exact BoxL.new u2 228 [.slice none 0 0, .slice none 0 0, .map none, .slice none 0 0, .map none, .slice none 0 0, .map none, .slice none 0 0, .slice none 0 0]
     have xc : u2.heap.size ≠ mc := by have := nc.lt; omega
     have xv : u2.heap.size ≠ mv := by have := nv.lt; omega
     have hX1 : W1.heap.size <= u2.heap.size := hb2.size
     have nc := nc.on d5
     have nv := nv.on d5
     refine hK.out _ _ (hu5 ▸ hb5) (fun gI => ?_)
     rw [<- hu5] at gI |-
     clear hK K gH; have gH := gI; clear gI
     try go_frame
     clear hu5
     generalize u2.heap.size = X at zX0 hX1 xc xv |-
     have zX := zX0
     refine tr 9 (fun K hK => ?_)
     have hC := zAY ka kn kc _ KL u5 (hSk.out u5 hb5)
     go_simp
     refine hC.mono ?_
     rintro e u6 ⟨mk, rfl, nk, lok, d6⟩
     clear hC
     have hb6 : Below W1.heap.size W1 u6 := on2 hb5 d6
     have lbk : W1.heap.size <= mk := Nat.le_trans hb5.size lok
     have xk : X ≠ mk := by have := zX.1; omega
     have zX := zX.on d6
     have nc := nc.on d6
     have nv := nv.on d6
     go_wp2_with fail
     refine hK.out _ _ hb6 (fun gI => ?_)
     clear hK K gH; have gH := gI; clear gI
     try go_frame
     refine tp 10 ?_
     try go_frame
     have zA := BoxL.there zX
     obtain ⟨U, hU⟩ : ∃ U, U = u6.setCells X 0 [.slice la ln lc, .slice ca cn cc, .map (some mc), .slice va vn vc, .map (some mv), .slice ka kn kc, .map (some mk), .slice none 0 0, .slice none 0 0] := ⟨_, rfl⟩
     refine ts 12 (fun K hK => ?_)
     refine zA4 (by rfl) (wp_store_mid 228 _ _ rfl X 0 #[.slice la ln lc, .slice ca cn cc, .map (some mc), .slice va vn vc, .map (some mv), .slice ka kn kc, .map (some mk), .slice none 0 0, .slice none 0 0] rfl rfl zX.there zB0 (by simp [Value.oneCell']) ?_)
     have kU : Kept (fun b => b ≠ X) u6 U := by rw [hU]; exact zA1 (fun h => h rfl)
     have bU : Below W1.heap.size W1 U := by rw [hU]; exact zA0 hb6 hX1
     have qU : BoxL U X [.slice la ln lc, .slice ca cn cc, .map (some mc), .slice va vn vc, .map (some mv), .slice ka kn kc, .map (some mk), .slice none 0 0, .slice none 0 0] := by rw [hU]; exact zA2 zX rfl
     have eU : U = u6.setCells X 0 (#[.slice la ln lc, .slice ca cn cc, .map (some mc), .slice va vn vc, .map (some mv), .slice ka kn kc, .map (some mk), .slice none 0 0, .slice none 0 0] : Array Value).toList := by rw [hU]
     rw [<- eU]
     refine hK.out _ _ bU (fun gI => ?_)
     clear hK K gH; have gH := gI; clear gI
     try go_frame
     refine tz ?_
     have HG : Hid (PofA W1 la ln lc ca cn cc va vn vc ka kn kc CL V KL X mc mv mk U) := ⟨nc.kept kU (fun e => xc e.symm), nv.kept kU (fun e => xv e.symm), nk.kept kU (fun e => xk e.symm), xc, xv, xk, qU, bU, hX1, lbc, lbv, lbk⟩
     clear hU eU zA zX kU qU bU nc nv nk xc xv xk hX1 lbc lbv lbk gH loc lov lok
     go_wp2_with fail
     go_meet
     exact ⟨X, mc, mv, mk, rfl, HG⟩
   ·
    go_simp
    obtain ⟨u7, hu7⟩ : ∃ u7, u7 = u1.alloc (.cells #[.slice none 0 0, .slice none 0 0, .map none, .slice none 0 0, .map none, .slice none 0 0, .map none, .slice none 0 0, .slice none 0 0] 228) := ⟨_, rfl⟩
    have d7 : Below u1.heap.size u1 u7 := by rw [hu7]; exact (Below.refl _ _).alloc (Nat.le_refl _) _
    have hb7 : Below W1.heap.size W1 u7 := on2 hb1 d7
    have zX0 : BoxL u7 u1.heap.size [.slice none 0 0, .slice none 0 0, .map none, .slice none 0 0, .map none, .slice none 0 0, .map none, .slice none 0 0, .slice none 0 0] := by rw [hu7]; exact BoxL.new u1 228 [.slice none 0 0, .slice none 0 0, .map none, .slice none 0 0, .map none, .slice none 0 0, .map none, .slice none 0 0, .slice none 0 0]
    have xc : u1.heap.size ≠ mc := by have := nc.lt; omega
    have hX1 : W1.heap.size <= u1.heap.size := hb1.size
    have nc := nc.on d7
    refine hK.out _ _ (hu7 ▸ hb7) (fun gI => ?_)
    rw [<- hu7] at gI |-
    clear hK K gH; have gH := gI; clear gI
    try go_frame
    clear hu7
    generalize u1.heap.size = X at zX0 hX1 xc |-
    have zX := zX0
    refine tr 6 (fun K hK => ?_)
    have hC := zA6 va vn vc _ V u7 (hSv.out u7 hb7)
    go_simp
    refine hC.mono ?_
    rintro e u8 ⟨mv, rfl, nv, lov, d8⟩
    clear hC
    have hb8 : Below W1.heap.size W1 u8 := on2 hb7 d8
    have lbv : W1.heap.size <= mv := Nat.le_trans hb7.size lov
    have xv : X ≠ mv := by have := zX.1; omega
    have zX := zX.on d8
    have nc := nc.on d8
    go_wp2_with fail
    refine hK.out _ _ hb8 (fun gI => ?_)
    clear hK K gH; have gH := gI; clear gI
    try go_frame
    refine tr 9 (fun K hK => ?_)
    have hC := zAY ka kn kc _ KL u8 (hSk.out u8 hb8)
    go_simp
    refine hC.mono ?_
    rintro e u9 ⟨mk, rfl, nk, lok, d9⟩
    clear hC
    have hb9 : Below W1.heap.size W1 u9 := on2 hb8 d9
    have lbk : W1.heap.size <= mk := Nat.le_trans hb8.size lok
    have xk : X ≠ mk := by have := zX.1; omega
    have zX := zX.on d9
    have nc := nc.on d9
    have nv := nv.on d9
    go_wp2_with fail
    refine hK.out _ _ hb9 (fun gI => ?_)
    clear hK K gH; have gH := gI; clear gI
    try go_frame
    refine tp 10 ?_
    try go_frame
    have zA := BoxL.there zX
    obtain ⟨U, hU⟩ : ∃ U, U = u9.setCells X 0 [.slice la ln lc, .slice ca cn cc, .map (some mc), .slice va vn vc, .map (some mv), .slice ka kn kc, .map (some mk), .slice none 0 0, .slice none 0 0] := ⟨_, rfl⟩
    refine ts 12 (fun K hK => ?_)
    refine zA4 (by rfl) (wp_store_mid 228 _ _ rfl X 0 #[.slice la ln lc, .slice ca cn cc, .map (some mc), .slice va vn vc, .map (some mv), .slice ka kn kc, .map (some mk), .slice none 0 0, .slice none 0 0] rfl rfl zX.there zB0 (by simp [Value.oneCell']) ?_)
    have kU : Kept (fun b => b ≠ X) u9 U := by rw [hU]; exact zA1 (fun h => h rfl)
    have bU : Below W1.heap.size W1 U := by rw [hU]; exact zA0 hb9 hX1
    have qU : BoxL U X [.slice la ln lc, .slice ca cn cc, .map (some mc), .slice va vn vc, .map (some mv), .slice ka kn kc, .map (some mk), .slice none 0 0, .slice none 0 0] := by rw [hU]; exact zA2 zX rfl
    have eU : U = u9.setCells X 0 (#[.slice la ln lc, .slice ca cn cc, .map (some mc), .slice va vn vc, .map (some mv), .slice ka kn kc, .map (some mk), .slice none 0 0, .slice none 0 0] : Array Value).toList := by rw [hU]
    rw [<- eU]
    refine hK.out _ _ bU (fun gI => ?_)
    clear hK K gH; have gH := gI; clear gI
    try go_frame
    refine tz ?_
    have HG : Hid (PofA W1 la ln lc ca cn cc va vn vc ka kn kc CL V KL X mc mv mk U) := ⟨nc.kept kU (fun e => xc e.symm), nv.kept kU (fun e => xv e.symm), nk.kept kU (fun e => xk e.symm), xc, xv, xk, qU, bU, hX1, lbc, lbv, lbk⟩
    clear hU eU zA zX kU qU bU nc nv nk xc xv xk hX1 lbc lbv lbk gH loc lov lok
    go_wp2_with fail
    go_meet
    exact ⟨X, mc, mv, mk, rfl, HG⟩
  ·
   go_simp
   obtain ⟨u10, hu10⟩ : ∃ u10, u10 = wd.alloc (.cells #[.slice none 0 0, .slice none 0 0, .map none, .slice none 0 0, .map none, .slice none 0 0, .map none, .slice none 0 0, .slice none 0 0] 228) := ⟨_, rfl⟩
   have d10 : Below wd.heap.size wd u10 := by rw [hu10]; exact (Below.refl _ _).alloc (Nat.le_refl _) _
   have hb10 : Below W1.heap.size W1 u10 := on2 hb0 d10
   have zX0 : BoxL u10 wd.heap.size [.slice none 0 0, .slice none 0 0, .map none, .slice none 0 0, .map none, .slice none 0 0, .map none, .slice none 0 0, .slice none 0 0] := by rw [hu10]; exact BoxL.new wd 228 [.slice none 0 0, .slice none 0 0, .map none, .slice none 0 0, .map none, .slice none 0 0, .map none, .slice none 0 0, .slice none 0 0]
   have hX1 : W1.heap.size <= wd.heap.size := hb0.size
   refine hK.out _ _ (hu10 ▸ hb10) (fun gI => ?_)
   rw [<- hu10] at gI |-
   clear hK K gH; have gH := gI; clear gI
   try go_frame
   clear hu10
   generalize wd.heap.size = X at zX0 hX1  |-
   have zX := zX0
   refine tr 3 (fun K hK => ?_)
   have hC := zAK ca cn cc _ CL u10 (hSc.out u10 hb10)
   go_simp
   refine hC.mono ?_
   rintro e u11 ⟨mc, rfl, nc, loc, d11⟩
   clear hC
   have hb11 : Below W1.heap.size W1 u11 := on2 hb10 d11
   have lbc : W1.heap.size <= mc := Nat.le_trans hb10.size loc
   have xc : X ≠ mc := by have := zX.1; omega
   have zX := zX.on d11
   go_wp2_with fail
   refine hK.out _ _ hb11 (fun gI => ?_)
   clear hK K gH; have gH := gI; clear gI
   try go_frame
   refine tr 6 (fun K hK => ?_)
   have hC := zA6 va vn vc _ V u11 (hSv.out u11 hb11)
   go_simp
   refine hC.mono ?_
   rintro e u12 ⟨mv, rfl, nv, lov, d12⟩
   clear hC
   have hb12 : Below W1.heap.size W1 u12 := on2 hb11 d12
   have lbv : W1.heap.size <= mv := Nat.le_trans hb11.size lov
   have xv : X ≠ mv := by have := zX.1; omega
   have zX := zX.on d12
   have nc := nc.on d12
   go_wp2_with fail
   refine hK.out _ _ hb12 (fun gI => ?_)
   clear hK K gH; have gH := gI; clear gI
   try go_frame
   refine tr 9 (fun K hK => ?_)
   have hC := zAY ka kn kc _ KL u12 (hSk.out u12 hb12)
   go_simp
   refine hC.mono ?_
   rintro e u13 ⟨mk, rfl, nk, lok, d13⟩
   clear hC
   have hb13 : Below W1.heap.size W1 u13 := on2 hb12 d13
   have lbk : W1.heap.size <= mk := Nat.le_trans hb12.size lok
   have xk : X ≠ mk := by have := zX.1; omega
   have zX := zX.on d13
   have nc := nc.on d13
   have nv := nv.on d13
   go_wp2_with fail
   refine hK.out _ _ hb13 (fun gI => ?_)
   clear hK K gH; have gH := gI; clear gI
   try go_frame
   refine tp 10 ?_
   try go_frame
   have zA := BoxL.there zX
   obtain ⟨U, hU⟩ : ∃ U, U = u13.setCells X 0 [.slice la ln lc, .slice ca cn cc, .map (some mc), .slice va vn vc, .map (some mv), .slice ka kn kc, .map (some mk), .slice none 0 0, .slice none 0 0] := ⟨_, rfl⟩
   refine ts 12 (fun K hK => ?_)
   refine zA4 (by rfl) (wp_store_mid 228 _ _ rfl X 0 #[.slice la ln lc, .slice ca cn cc, .map (some mc), .slice va vn vc, .map (some mv), .slice ka kn kc, .map (some mk), .slice none 0 0, .slice none 0 0] rfl rfl zX.there zB0 (by simp [Value.oneCell']) ?_)
   have kU : Kept (fun b => b ≠ X) u13 U := by rw [hU]; exact zA1 (fun h => h rfl)
   have bU : Below W1.heap.size W1 U := by rw [hU]; exact zA0 hb13 hX1
   have qU : BoxL U X [.slice la ln lc, .slice ca cn cc, .map (some mc), .slice va vn vc, .map (some mv), .slice ka kn kc, .map (some mk), .slice none 0 0, .slice none 0 0] := by rw [hU]; exact zA2 zX rfl
   have eU : U = u13.setCells X 0 (#[.slice la ln lc, .slice ca cn cc, .map (some mc), .slice va vn vc, .map (some mv), .slice ka kn kc, .map (some mk), .slice none 0 0, .slice none 0 0] : Array Value).toList := by rw [hU]
   rw [<- eU]
   refine hK.out _ _ bU (fun gI => ?_)
   clear hK K gH; have gH := gI; clear gI
   try go_frame
   refine tz ?_
   have HG : Hid (PofA W1 la ln lc ca cn cc va vn vc ka kn kc CL V KL X mc mv mk U) := ⟨nc.kept kU (fun e => xc e.symm), nv.kept kU (fun e => xv e.symm), nk.kept kU (fun e => xk e.symm), xc, xv, xk, qU, bU, hX1, lbc, lbv, lbk⟩
   clear hU eU zA zX kU qU bU nc nv nk xc xv xk hX1 lbc lbv lbk gH loc lov lok
   go_wp2_with fail
   go_meet
   exact ⟨X, mc, mv, mk, rfl, HG⟩
 case rest =>
  obtain ⟨X, mc, mv, mk, rfl, hpo⟩ := hcut
  obtain ⟨nc, nv, nk, xc, xv, xk, qX, bX, hX1, lbc, lbv, lbk⟩ := hpo.out
  clear hpo hSc hSk HQ
  obtain ⟨wx, rfl⟩ : ∃ u, u = wc := ⟨_, rfl⟩
  have hC := zD6 va vn vc _ V mv wx (hSv.out wx bX) nv (by rw [<- Hvl.out]; exact hv8)
  have hv9 : Q.length * 80 <= 140737488355328 := by have h9 := zD2 Prod.fst V; rw [HQ.out]; omega
  rw [<- HQ.out] at hC
  clear HQ
  have c3 := (qX.2 3 _ rfl).1
  have c4 := (qX.2 4 _ rfl).1
  have H3 : Hid (NmAt wx mc (CL.map Prod.fst) /\ NmAt wx mv (V.map Prod.fst) /\ NmAt wx mk (KL.map Prod.fst) /\ X ≠ mc /\ X ≠ mv /\ X ≠ mk /\ BoxL wx X [.slice la ln lc, .slice ca cn cc, .map (some mc), .slice va vn vc, .map (some mv), .slice ka kn kc, .map (some mk), .slice none 0 0, .slice none 0 0] /\ Below W1.heap.size W1 wx /\ W1.heap.size <= X) := ⟨nc, nv, nk, xc, xv, xk, qX, bX, hX1⟩
  clear nc nv nk xc xv xk qX bX hX1 hSv
  go_upto_region 2 with fail
  go_wp2_with fail
  refine hC.mono ?_
  rintro e w2 ⟨vl, rfl, rl⟩
  clear hC c3 c4
  obtain ⟨nc, nv, nk, xc, xv, xk, qX, bX, hX1⟩ := H3.out
  have b2 : Below wx.heap.size wx w2 := rl.below
  obtain ⟨ba, bn, bc, rfl⟩ := rl.head
  have hbn0 : bn = Q.length := by
   obtain ⟨a', n', c', e', s'⟩ := rl.sl10 (bytes := 72) RVolume.firm (by omega)
   cases e'
   exact s'.1.symm
  have hbn : Hid (Q.length = bn) := hbn0.symm
  have hbl : bn <= 140737488351232 := by rw [hbn0]; omega
  have rlw : Row RVolume 5 (fun b => b < w.heap.size) w w2 79 (.slice ba bn bc) Q := rl.from RVolume.firm (on2 HB1.out.1 bX) (fun b hb => hb.1)
  have hown : ∀ b, (Value.slice ba bn bc).ownBlock = some b -> wx.heap.size <= b /\ b < w2.heap.size := fun b hb => rl.lt hb
  have hw1 := HB1.out.2.2
  have hwx : W1.heap.size <= wx.heap.size := bX.size
  have hXx : X < wx.heap.size := qX.1
  have HK : Hid (∀ z, Below w.heap.size w z -> Kept (fun b => b < w2.heap.size /\ b ≠ X) w2 z -> Row RVolume 5 (fun b => b < w.heap.size) w z 79 (.slice ba bn bc) Q /\ SlAt RLabel 2 32 (fun b => b < w.heap.size) z la ln lc NL /\ NmAt z mc (CL.map Prod.fst) /\ NmAt z mv (V.map Prod.fst) /\ NmAt z mk (KL.map Prod.fst) /\ BoxL z (w.heap.size + 1) [.slice none 0 0, .slice none 0 0, .map none, .slice none 0 0, .map none, .slice none 0 0, .map none, .slice none 0 0, .slice none 0 0]) := fun z hbz hk => by
   have h0 : ∀ b, b < w.heap.size -> b < w2.heap.size /\ b ≠ X := fun b hb => ⟨by have := b2.size; omega, by omega⟩
   refine ⟨rlw.keptX RVolume.firm hbz (hk.weak (fun b hb => ?_)), ((HW.out w2 (on2 HB1.out.1 (on2 bX b2))).1).kept RLabel.firm (hk.weak h0), (nc.on b2).kept hk ⟨by have := nc.lt; have := b2.size; omega, fun e => xc e.symm⟩, (nv.on b2).kept hk ⟨by have := nv.lt; have := b2.size; omega, fun e => xv e.symm⟩, (nk.on b2).kept hk ⟨by have := nk.lt; have := b2.size; omega, fun e => xk e.symm⟩, ((HB1.out.2.1.on bX).on b2).kept hk ⟨by have := b2.size; omega, by omega⟩⟩
   rcases hb with hb | hb
   ·exact h0 b hb
   ·have := hown b hb; exact ⟨this.2, by omega⟩
  have HI : Hid (∃ lv, BoxL w2 X [.slice la ln lc, .slice ca cn cc, .map (some mc), .slice va vn vc, .map (some mv), .slice ka kn kc, .map (some mk), lv, .slice none 0 0] /\ Row RVolume 5 (fun b => b < w.heap.size) w w2 79 lv (leftP NL (Q.take 0) []) /\ (∀ b, lv.ownBlock = some b -> w2.heap.size <= b) /\ Kept (fun b => b < w2.heap.size /\ b ≠ X) w2 w2) := ⟨.slice none 0 0, qX.on b2, (Row.nil _ w 79).on RVolume.firm (on2 HB1.out.1 (on2 bX b2)), (fun b hb => by cases hb), Kept.refl _ _⟩
  have Hs : Hid (w.heap.size <= X /\ X < w2.heap.size /\ w.heap.size <= w2.heap.size /\ w.heap.size + 1 ≠ X /\ mc < w2.heap.size /\ mv < w2.heap.size /\ mk < w2.heap.size) := ⟨by omega, by have := b2.size; omega, by have := b2.size; omega, by omega, by have := nc.lt; have := b2.size; omega, by have := nv.lt; have := b2.size; omega, by have := nk.lt; have := b2.size; omega⟩
  have Hmr : Hid (mc ≠ w.heap.size + 1 /\ mv ≠ w.heap.size + 1 /\ mk ≠ w.heap.size + 1) := ⟨by omega, by omega, by omega⟩
  have Hlow : Hid (X ≠ mc /\ X ≠ mv /\ X ≠ mk) := ⟨xc, xv, xk⟩
  have Hm0 : Hid (w.heap.size <= mc /\ w.heap.size <= mv /\ w.heap.size <= mk) := ⟨by omega, by omega, by omega⟩
  clear hbn0 lbc lbv lbk rlw
  clear rl b2 hown nc nv nk xc xv xk qX bX hX1 H3 hwx hXx hw1
  go_wp2_with fail
  go_loopw [23] (fun i wr => ∃ k : Nat, k <= bn /\ i = .int .i64 k /\ Hid (∃ lv, BoxL wr X [.slice la ln lc, .slice ca cn cc, .map (some mc), .slice va vn vc, .map (some mv), .slice ka kn kc, .map (some mk), lv, .slice none 0 0] /\ Row RVolume 5 (fun b => b < w.heap.size) w wr 79 lv (leftP NL (Q.take k) []) /\ (∀ b, lv.ownBlock = some b -> w2.heap.size <= b) /\ Kept (fun b => b < w2.heap.size /\ b ≠ X) w2 wr)) (fun i _ => bn - (intOf i).toNat)
  case atStart => exact ⟨0, Nat.zero_le _, rfl, HI⟩
  case round =>
   obtain ⟨k, hk, rfl, hrun⟩ := hrel
   obtain ⟨lv, qx, rw_, po, kw⟩ := hrun.out
   clear hrun HI
   obtain ⟨rL, sL, nc, nv, nk, qr⟩ := HK.out wr rw_.below kw
   by_cases hlt : k < bn
   ·have hltz : (k : Int) < (bn : Int) := by omega
    have hkl : k < Q.length := by rw [hbn.out]; exact hlt
    obtain ⟨B, cB, xs, eB, hB, hr, hv⟩ := rL.get10 RVolume.firm hkl
    have eB2 : ba = some ⟨B, 0, none⟩ := by
     have e9 : ba = some ⟨B, 0, none⟩ /\ bn = Q.length /\ bc = cB := by simpa using eB
     exact e9.1
    subst eB2
    clear eB
    have HT : Hid (leftP NL (Q.take (k + 1)) [] = leftP NL (Q.take k) [] ++ (if hadV NL (Q.getD k default) = true then [Q.getD k default] else [])) := zGP hkl
    have HLk : Hid ((leftP NL (Q.take k) []).length <= k) := by have := zFI NL (Q.take k) []; rw [List.length_take] at this; rw [Hid]; omega
    generalize hx : Q.getD k default = x at hr HT
    clear hx
    have hrx : RVolume (fun b => b < w.heap.size) wr xs x := RVolume.firm.weak hr (fun b _ h => h.1)
    obtain ⟨⟨q1, q2, q3⟩, rfl, _, _, sR, _⟩ := hr.out
    simp only at sR
    have HV0 : Hid (wr.rangeAt B (k * 5) [.string x.1, .int .i64 x.2.1, .string x.2.2.1, .slice q1 q2 q3, .string (vCl x)]) := hv
    have hi : (Tryz.prog.info? 79).map (·.size) = some ([.string x.1, .int .i64 x.2.1, .string x.2.2.1, .slice q1 q2 q3, .string (vCl x)] : List Value).length := zAa
    have hia : (Tryz.prog.info? 79).map (·.size) = some (#[.string x.1, .int .i64 x.2.1, .string x.2.2.1, .slice q1 q2 q3, .string (vCl x)] : Array Value).size := zAa
    have HO : Hid ((#[.string x.1, .int .i64 x.2.1, .string x.2.2.1, .slice q1 q2 q3, .string (vCl x)] : Array Value).all (·.oneCell') = true) := by rw [Hid]; simp [Value.oneCell']
    obtain ⟨Vw, hVw⟩ : ∃ Vw, Vw = (wr.alloc (.cells #[.string ⟨#[]⟩, .int .i64 0, .string ⟨#[]⟩, .slice none 0 0, .string ⟨#[]⟩] 79)).setCells wr.heap.size 0 [.string x.1, .int .i64 x.2.1, .string x.2.2.1, .slice q1 q2 q3, .string (vCl x)] := ⟨_, rfl⟩
    have HTh : Hid ((wr.alloc (.cells #[.string ⟨#[]⟩, .int .i64 0, .string ⟨#[]⟩, .slice none 0 0, .string ⟨#[]⟩] 79)).there wr.heap.size 0 (#[.string x.1, .int .i64 x.2.1, .string x.2.2.1, .slice q1 q2 q3, .string (vCl x)] : Array Value).size) := (BoxL.new wr 79 [.string ⟨#[]⟩, .int .i64 0, .string ⟨#[]⟩, .slice none 0 0, .string ⟨#[]⟩]).there
    have bV : Below wr.heap.size wr Vw := by rw [hVw]; exact zA0 ((Below.refl _ _).alloc (Nat.le_refl _) _) (Nat.le_refl _)
    have qV : BoxL Vw wr.heap.size [.string x.1, .int .i64 x.2.1, .string x.2.2.1, .slice q1 q2 q3, .string (vCl x)] := by rw [hVw]; exact zA2 (BoxL.new wr 79 [.string ⟨#[]⟩, .int .i64 0, .string ⟨#[]⟩, .slice none 0 0, .string ⟨#[]⟩]) rfl
    have HWV : Hid (Vw = (wr.alloc (.cells #[.string ⟨#[]⟩, .int .i64 0, .string ⟨#[]⟩, .slice none 0 0, .string ⟨#[]⟩] 79)).setCells wr.heap.size 0 (#[.string x.1, .int .i64 x.2.1, .string x.2.2.1, .slice q1 q2 q3, .string (vCl x)] : Array Value).toList) := by rw [Hid, hVw]
    clear hVw
    have hrV := RVolume.firm.kept hrx (Kept.below bV)
    have hCf := zCJ [.string x.1, .int .i64 x.2.1, .string x.2.2.1, .slice q1 q2 q3, .string (vCl x)] _ x Vw hrV
    have HX0 : Hid (Vw.rangeAt wr.heap.size 0 [.string x.1, .int .i64 x.2.1, .string x.2.2.1, .slice q1 q2 q3, .string (vCl x)]) := qV.range
    have HN : Hid (∀ z, Below Vw.heap.size Vw z -> BoxL z X [.slice la ln lc, .slice ca cn cc, .map (some mc), .slice va vn vc, .map (some mv), .slice ka kn kc, .map (some mk), lv, .slice none 0 0] /\ Row RVolume 5 (fun b => b < w.heap.size) w z 79 lv (leftP NL (Q.take k) []) /\ Kept (fun b => b < w2.heap.size /\ b ≠ X) w2 z /\ BoxL z wr.heap.size [.string x.1, .int .i64 x.2.1, .string x.2.2.1, .slice q1 q2 q3, .string (vCl x)] /\ SlAt RLabel 2 32 (fun b => b < w.heap.size) z la ln lc NL /\ SlAt RReq 3 48 (fun _ => True) z q1 q2 q3 (vRq x) /\ RVolume (fun b => b < w.heap.size) z [.string x.1, .int .i64 x.2.1, .string x.2.2.1, .slice q1 q2 q3, .string (vCl x)] x) := fun z hb => ⟨qx.on (on2 bV hb), rw_.on RVolume.firm (on2 bV hb), kw.trans (Kept.below (on2 bV hb)), qV.on hb, sL.on RLabel.firm (on2 bV hb), (sR.weak RReq.firm (fun _ _ _ => trivial)).on RReq.firm (on2 bV hb), RVolume.firm.kept hrV (Kept.below hb)⟩
    have Hpo : Hid (∀ b, lv.ownBlock = some b -> w2.heap.size <= b) := po
    have Hw2 : Hid (w2.heap.size <= wr.heap.size) := kw.1
    have HLh : Hid (∃ a n c, lv = .slice a n c) := rw_.head
    have Hhd : Hid (hadV NL x = (sEq (vCl x) B0 && matchL NL (vRq x))) := rfl
    clear hr hrx hv qx rw_ po kw rL sL nc nv nk qr qV bV hrV hB sR
    generalize hadV NL x = h at HT Hhd
    generalize hfb : sEq (vCl x) B0 = fb at hCf Hhd
    clear hfb
    go_wp2_with (first | (refine wpList_load_mid rfl 79 _ rfl B (k * 5) rfl [.string x.1, .int .i64 x.2.1, .string x.2.2.1, .slice q1 q2 q3, .string (vCl x)] _ HV0.out Tryz.underlying79 rfl hi ?_) | (refine wpList_store_mid rfl 79 _ _ rfl wr.heap.size 0 #[.string x.1, .int .i64 x.2.1, .string x.2.2.1, .slice q1 q2 q3, .string (vCl x)] rfl rfl HTh.out hia HO.out ?_; refine zAN HWV.out ?_) | (refine wpList_load_mid rfl 79 _ rfl wr.heap.size 0 rfl [.string x.1, .int .i64 x.2.1, .string x.2.2.1, .slice q1 q2 q3, .string (vCl x)] _ HX0.out Tryz.underlying79 rfl hi ?_) | fail)
    refine hCf.mono ?_
    rintro e w6 ⟨rfl, b6⟩
    obtain ⟨qx, rw_, kw, qV, sL, sR, rV⟩ := HN.out w6 b6
    clear hCf HTh HO HV0 HWV HX0 hia
    cases fb with
    | false =>
     have hh : h = false := by rw [Hhd.out]; rfl
     have HN3 : Hid (∃ lv, BoxL w6 X [.slice la ln lc, .slice ca cn cc, .map (some mc), .slice va vn vc, .map (some mv), .slice ka kn kc, .map (some mk), lv, .slice none 0 0] /\ Row RVolume 5 (fun b => b < w.heap.size) w w6 79 lv (leftP NL (Q.take (k + 1)) []) /\ (∀ b, lv.ownBlock = some b -> w2.heap.size <= b) /\ Kept (fun b => b < w2.heap.size /\ b ≠ X) w2 w6) := ⟨lv, qx, by rw [HT.out, hh]; simpa using rw_, Hpo.out, kw⟩
     clear qx rw_ kw qV sL sR rV HN b6 hh Hhd HT HLh Hpo HLk
     go_wp2_with fail
     go_roundw
     case rel => exact ⟨k + 1, by omega, by go_num, HN3⟩
     case measure => simp [intOf]; omega
    | true =>
     have hCm := zB3 la ln lc _ NL q1 q2 q3 _ (vRq x) w6 sL sR
     have c3 := (qV.2 3 _ rfl).1
     have hh : Hid (h = matchL NL (vRq x)) := by rw [Hid, Hhd.out]; rfl
     clear Hhd
     generalize matchL NL (vRq x) = mb at hCm hh
     have HN7 : Hid (∀ z, Below w6.heap.size w6 z -> BoxL z X [.slice la ln lc, .slice ca cn cc, .map (some mc), .slice va vn vc, .map (some mv), .slice ka kn kc, .map (some mk), lv, .slice none 0 0] /\ Row RVolume 5 (fun b => b < w.heap.size) w z 79 lv (leftP NL (Q.take k) []) /\ Kept (fun b => b < w2.heap.size /\ b ≠ X) w2 z /\ BoxL z wr.heap.size [.string x.1, .int .i64 x.2.1, .string x.2.2.1, .slice q1 q2 q3, .string (vCl x)] /\ RVolume (fun b => b < w.heap.size) z [.string x.1, .int .i64 x.2.1, .string x.2.2.1, .slice q1 q2 q3, .string (vCl x)] x) := fun z hb => by
      obtain ⟨h1, h2, h3, h4, _, _, h7⟩ := HN.out z (on2 b6 hb)
      exact ⟨h1, h2, h3, h4, h7⟩
     clear qx rw_ kw qV sL sR rV HN b6
     go_wp2_with fail
     refine hCm.mono ?_
     rintro e w7 ⟨rfl, b7⟩
     obtain ⟨qx, rw_, kw, qV, rV⟩ := HN7.out w7 b7
     clear hCm c3 HN7 b7
     cases mb with
     | false =>
      have HN3 : Hid (∃ lv, BoxL w7 X [.slice la ln lc, .slice ca cn cc, .map (some mc), .slice va vn vc, .map (some mv), .slice ka kn kc, .map (some mk), lv, .slice none 0 0] /\ Row RVolume 5 (fun b => b < w.heap.size) w w7 79 lv (leftP NL (Q.take (k + 1)) []) /\ (∀ b, lv.ownBlock = some b -> w2.heap.size <= b) /\ Kept (fun b => b < w2.heap.size /\ b ≠ X) w2 w7) := ⟨lv, qx, by rw [HT.out, hh.out]; simpa using rw_, Hpo.out, kw⟩
      clear qx rw_ kw qV rV hh HT HLh Hpo HLk
      go_wp2_with fail
      go_roundw
      case rel => exact ⟨k + 1, by omega, by go_num, HN3⟩
      case measure => simp [intOf]; omega
     | true =>
      obtain ⟨a1, n1, k1, rfl⟩ := HLh.out
      have HX0 : Hid (w7.rangeAt wr.heap.size 0 [.string x.1, .int .i64 x.2.1, .string x.2.2.1, .slice q1 q2 q3, .string (vCl x)]) := qV.range
      obtain ⟨Wb, hWb⟩ : ∃ W, W = w7.alloc (.cells #[.string x.1, .int .i64 x.2.1, .string x.2.2.1, .slice q1 q2 q3, .string (vCl x)] 79) := ⟨_, rfl⟩
      have bWb : Below w7.heap.size w7 Wb := by rw [hWb]; go_grown
      have HWb : Hid (Wb = w7.alloc (.cells #[.string x.1, .int .i64 x.2.1, .string x.2.2.1, .slice q1 q2 q3, .string (vCl x)] 79)) := hWb
      have hw7s : w.heap.size <= w7.heap.size := rw_.below.size
      have HRw : Hid (Row RVolume 5 (fun b => b < w.heap.size) w Wb 79 (.slice a1 n1 k1) (leftP NL (Q.take k) [])) := rw_.on RVolume.firm bWb
      have HSr : Hid (Src RVolume 5 (fun b => b < w.heap.size /\ (Value.slice a1 n1 k1).ownBlock ≠ some b) Wb (some ⟨w7.heap.size, 0, none⟩) 1 [x]) := zCk RVolume.firm (cs := [.string x.1, .int .i64 x.2.1, .string x.2.2.1, .slice q1 q2 q3, .string (vCl x)]) (by rw [hWb]; exact BoxL.new w7 79 _) (RVolume.firm.weak (RVolume.firm.kept rV (Kept.below bWb)) (fun b _ hb => ⟨hb, fun e => by have h1 := Hpo.out b e; have h2 := Hs.out.2.2.1; omega⟩))
      have cX := (qx.2 7 _ rfl).1
      have HOb : Hid (((leftP NL (Q.take k) []).length + [x].length) * 80 <= 140737488355328) := by have h1 := HLk.out; have h2 := hbn.out; rw [Hid, List.length_singleton]; omega
      have HQx : Hid (BoxL Wb X [.slice la ln lc, .slice ca cn cc, .map (some mc), .slice va vn vc, .map (some mv), .slice ka kn kc, .map (some mk), .slice a1 n1 k1, .slice none 0 0] /\ Kept (fun b => b < w2.heap.size /\ b ≠ X) w2 Wb) := ⟨qx.on bWb, kw.trans (Kept.below bWb)⟩
      have HT2 : Hid (leftP NL (Q.take k) [] ++ [x] = leftP NL (Q.take (k + 1)) []) := by rw [Hid, HT.out, hh.out]; rfl
      have HX7 : Hid (X < w7.heap.size) := qx.1
      clear qx rw_ kw qV rV hh HT hWb bWb HLk HLh
      generalize leftP NL (Q.take k) [] = N at HRw HOb HT2
      generalize x.1 = p0 at HX0 hi HWb
      generalize x.2.1 = p1 at HX0 hi HWb
      generalize x.2.2.1 = p2 at HX0 hi HWb
      generalize vCl x = p4 at HX0 hi HWb
      go_upto_region 7 with (first | (refine wpList_load_mid rfl 79 _ rfl wr.heap.size 0 rfl [.string p0, .int .i64 p1, .string p2, .slice q1 q2 q3, .string p4] _ HX0.out Tryz.underlying79 rfl hi ?_) | (at_builtin; refine zAN HWb.out ?_; go_must (refine zAL RVolume.firm (A := fun b => b < w.heap.size) (w0 := w) rfl _ _ 226 79 rfl _ 80 zBR Tryz.underlying226 rfl (by decide) (by decide) (.slice a1 n1 k1) N rfl HRw.out (some ⟨w7.heap.size, 0, none⟩) 1 1 [x] rfl HSr.out HOb.out ?_); intro v7 u7 hr7 hg7 hw7; obtain ⟨a7, n7, c7, rfl⟩ := hr7.head; have qz := HQx.out.1.kept (A := fun b => b = X) (Kept.grown hg7 (fun b e h => by have h1 := Hpo.out b e; have h2 := Hs.out.2.1; omega)) rfl; have t7 := (qz.2 7 _ rfl).1; have f7 := (qz.2 7 _ rfl).2; have hlt7 : X < u7.heap.size := qz.1) | fail)
      obtain ⟨Z, hZ⟩ : ∃ Z, Z = u7.setCell ⟨X, 7, none⟩ (.slice a7 n7 c7) := ⟨_, rfl⟩
      rw [<- hZ]
      have hsX := Hs.out
      have HN3 : Hid (∃ lv, BoxL Z X [.slice la ln lc, .slice ca cn cc, .map (some mc), .slice va vn vc, .map (some mv), .slice ka kn kc, .map (some mk), lv, .slice none 0 0] /\ Row RVolume 5 (fun b => b < w.heap.size) w Z 79 lv (leftP NL (Q.take (k + 1)) []) /\ (∀ b, lv.ownBlock = some b -> w2.heap.size <= b) /\ Kept (fun b => b < w2.heap.size /\ b ≠ X) w2 Z) := by
       have hpo7 : ∀ b, (Value.slice a7 n7 c7).ownBlock = some b -> w2.heap.size <= b := fun b hb => by
        rcases hw7 with h7 | h7
        ·exact Hpo.out b (h7 ▸ hb)
        ·rw [h7] at hb
         injection hb with hb
         have h2 := HQx.out.2.1
         omega
       refine ⟨.slice a7 n7 c7, by rw [hZ]; exact qz.set 7 _ (by simp), ?_, hpo7, ?_⟩
       ·rw [<- HT2.out, hZ]
        refine hr7.keptX RVolume.firm (hr7.below.setCell (p := ⟨X, 7, none⟩) hsX.1 _) (Kept.set (p := ⟨X, 7, none⟩) (fun hb => ?_) _)
        rcases hb with hb | hb
        ·have h2 : X < w.heap.size := hb
         omega
        ·have h2 := hpo7 X hb
         omega
       ·rw [hZ]
        refine (HQx.out.2.trans (Kept.grown hg7 (fun b e h => ?_))).trans (Kept.set (p := ⟨X, 7, none⟩) (fun h => h.2 rfl) _)
        have h1 := Hpo.out b e
        have h2 := h.1
        omega
      clear hZ qz t7 f7 hlt7 hr7 hg7 hw7 HRw HSr HOb HQx HT2 HX7 HX0 HWb cX hsX Hpo
      go_wp2_with fail
      go_roundw
      case rel => exact ⟨k + 1, by omega, by go_num, HN3⟩
      case measure => simp [intOf]; omega
   ·have htk : Q.take k = Q := List.take_of_length_le (by rw [hbn.out]; omega)
    rw [htk] at rw_
    obtain ⟨a1, n1, k1, rfl⟩ := rw_.head
    obtain ⟨Z, hZ⟩ : ∃ Z, Z = wr.setCells (w.heap.size + 1) 0 [.slice la ln lc, .slice ca cn cc, .map (some mc), .slice va vn vc, .map (some mv), .slice ka kn kc, .map (some mk), .slice a1 n1 k1, .slice none 0 0] := ⟨_, rfl⟩
    have hsX := Hs.out
    have kZ : Kept (fun b => b ≠ w.heap.size + 1) wr Z := by rw [hZ]; exact zA1 (fun h => h rfl)
    have bZ : Below w.heap.size w Z := by rw [hZ]; exact zA0 rw_.below (by omega)
    have hm0 := Hm0.out
    have hlw := Hlow.out
    have qZ : BoxL Z (w.heap.size + 1) [.slice la ln lc, .slice ca cn cc, .map (some mc), .slice va vn vc, .map (some mv), .slice ka kn kc, .map (some mk), .slice a1 n1 k1, .slice none 0 0] := by rw [hZ]; exact zA2 qr rfl
    have HF : Hid (NmAt Z mc (CL.map Prod.fst) /\ NmAt Z mv (V.map Prod.fst) /\ NmAt Z mk (KL.map Prod.fst) /\ Row RVolume 5 (fun b => b < w.heap.size) w Z 79 (.slice a1 n1 k1) (leftP NL Q []) /\ (∀ b, (Value.slice a1 n1 k1).ownBlock = some b -> b ≠ mc /\ b ≠ mv /\ b ≠ mk) /\ w.heap.size <= mc /\ w.heap.size <= mv /\ w.heap.size <= mk) := ⟨nc.kept kZ Hmr.out.1, nv.kept kZ Hmr.out.2.1, nk.kept kZ Hmr.out.2.2, rw_.keptX RVolume.firm bZ (kZ.weak (fun b hb e => by
     rcases hb with hb | hb
     ·omega
     ·have h2 := po b hb; omega)), fun b hb => by have h2 := po b hb; exact ⟨by omega, by omega, by omega⟩, hm0⟩
    have HRx : Hid (wr.rangeAt X 0 [.slice la ln lc, .slice ca cn cc, .map (some mc), .slice va vn vc, .map (some mv), .slice ka kn kc, .map (some mk), .slice a1 n1 k1, .slice none 0 0]) := qx.range
    have HTh : Hid (wr.there (w.heap.size + 1) 0 (#[.slice la ln lc, .slice ca cn cc, .map (some mc), .slice va vn vc, .map (some mv), .slice ka kn kc, .map (some mk), .slice a1 n1 k1, .slice none 0 0] : Array Value).size) := qr.there
    have HWZ : Hid (Z = wr.setCells (w.heap.size + 1) 0 (#[.slice la ln lc, .slice ca cn cc, .map (some mc), .slice va vn vc, .map (some mv), .slice ka kn kc, .map (some mk), .slice a1 n1 k1, .slice none 0 0] : Array Value).toList) := by rw [Hid, hZ]
    have HOc : Hid ((#[.slice la ln lc, .slice ca cn cc, .map (some mc), .slice va vn vc, .map (some mv), .slice ka kn kc, .map (some mk), .slice a1 n1 k1, .slice none 0 0] : Array Value).all (·.oneCell') = true) := by rw [Hid]; simp [Value.oneCell']
    have t0' := (qZ.2 0 _ rfl).1
    have t1' := (qZ.2 1 _ rfl).1
    have t2' := (qZ.2 2 _ rfl).1
    have t3' := (qZ.2 3 _ rfl).1
    have t4' := (qZ.2 4 _ rfl).1
    have t5' := (qZ.2 5 _ rfl).1
    have t6' := (qZ.2 6 _ rfl).1
    have t7' := (qZ.2 7 _ rfl).1
    have t8' := (qZ.2 8 _ rfl).1
    clear qx rw_ po kw rL sL nc nv nk qr htk kZ bZ qZ hZ hsX hm0 hlw HW HB1 HK Hs Hlow Hm0 Hmr
    go_wp2_with (first | (refine wpList_load_mid rfl 228 _ rfl X 0 rfl [.slice la ln lc, .slice ca cn cc, .map (some mc), .slice va vn vc, .map (some mv), .slice ka kn kc, .map (some mk), .slice a1 n1 k1, .slice none 0 0] _ HRx.out Tryz.underlying228 rfl zB0 ?_) | (refine wpList_store_mid rfl 228 _ _ rfl (w.heap.size + 1) 0 #[.slice la ln lc, .slice ca cn cc, .map (some mc), .slice va vn vc, .map (some mv), .slice ka kn kc, .map (some mk), .slice a1 n1 k1, .slice none 0 0] rfl rfl HTh.out zB0 HOc.out ?_; refine zAN HWZ.out ?_) | fail)
    refine bodyPost_ret (v := .agg #[.slice la ln lc, .slice ca cn cc, .map (some mc), .slice va vn vc, .map (some mv), .slice ka kn kc, .map (some mk), .slice a1 n1 k1, .slice none 0 0]) (by simp [results, Tryz.results126, go_sem, t0', t1', t2', t3', t4', t5', t6', t7', t8', Result.andThen]) rfl ?_
    exact ⟨mc, mv, mk, a1, n1, k1, rfl, HF.out⟩
end Go.Proofs.YtnffafjamiffnaaGreat
