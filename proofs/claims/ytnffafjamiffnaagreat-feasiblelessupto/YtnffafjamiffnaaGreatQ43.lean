/- Functions of the program, each walked under the conditions that its theorem names. -/
import Derived.Test.YtnffafjamiffnaaGreatQ30
import Derived.Test.YtnffafjamiffnaaGreatQ40
import Derived.Test.YtnffafjamiffnaaGreatQ42
set_option linter.unusedSimpArgs false
set_option maxRecDepth 100000
set_option maxHeartbeats 32000000
namespace Go.Proofs.YtnffafjamiffnaaGreat
open Go.RowKit Go.Maps
theorem zCg (L : List ByteArray) (x : ByteArray) : x ∈ allL id L ↔ x ∈ L := by
 unfold allL
 rw [List.mem_map, List.map_id]
 constructor
 ·rintro ⟨k, hk, rfl⟩
  obtain ⟨s, hs⟩ := (zAA L k).1 hk
  exact zAh (zAD hs).1
 ·intro h
  obtain ⟨k, hk⟩ := fI_mem h
  exact ⟨k, (zAA L k).2 ⟨_, hk⟩, (zAD hk).2.1⟩
theorem zG7 (L : List ByteArray) : (allL id L).Nodup := by
 unfold allL
 rw [List.map_id]
 refine List.pairwise_map.2 ((zBS L).imp_of_mem fun {a b} ha hb hab e => ?_)
 obtain ⟨sa, ea⟩ := (zAA L a).1 ha
 obtain ⟨sb, eb⟩ := (zAA L b).1 hb
 rw [(zAD ea).2.1, (zAD eb).2.1] at e
 rw [e, eb] at ea
 injection ea with ea
 omega
theorem zCv {L : List ByteArray} (h : Srt9 L) : L.Nodup := h.imp (fun {a b} hab e => by subst e; exact sLt_irr _ hab)
theorem zH6 (L M : List ByteArray) : (allL id (L ++ M)).length = (sortB sLt sEq (L ++ allL id M)).length :=
 ((List.perm_ext_iff_of_nodup (zG7 _) (zCv (zCz _))).2 (fun x => by rw [zCg, zBI, List.mem_append, List.mem_append, zCg])).length_eq
theorem keep_all (V : List VolumeD) (NL : List Lab) (c : ClaimD) : keepV V NL c = keepV (allL Prod.fst V) NL c := by
 unfold keepV
 rcases allL_fI Prod.fst V (cVo c) with ⟨h1, h2⟩ | ⟨i, j, h1, h2, h3⟩
 ·rw [show fI (vNs V) (cVo c) = none from h1, show fI (vNs (allL Prod.fst V)) (cVo c) = none from h2]
 ·rw [show fI (vNs V) (cVo c) = some i from h1, show fI (vNs (allL Prod.fst V)) (cVo c) = some j from h2]
  simp only
  rw [h3]
theorem one_ss10 {u : World} {A : Where} {a : Option Addr} {n c : Nat} {L : List ByteArray} (h : SlAt RStr 1 16 A u a n c L) (T : TypeId) : SlAt RSs 1 24 (fun _ => True) (u.alloc (.cells #[.slice a n c] T)) (some ⟨u.heap.size, 0, none⟩) 1 1 [L] := by
 have hq := BoxL.new u T [.slice a n c]
 have h' := (h.weak RStr.firm (A' := fun _ => True) (fun _ _ _ => trivial)).on RStr.firm ((Below.refl _ u).alloc (Nat.le_refl _) (.cells #[.slice a n c] T))
 refine ⟨rfl, Nat.le_refl _, (fun h => by cases h), by decide, fun _ => ⟨u.heap.size, 0, rfl, hq.1, trivial, fun i hi => ?_⟩⟩
 obtain rfl : i = 0 := by omega
 exact ⟨[.slice a n c], ⟨a, n, c, rfl, h'⟩, fun j v hj => by
  have h0 : j < 1 := (List.getElem?_eq_some_iff.1 hj).1
  obtain rfl : j = 0 := by omega
  have := (hq.2 0 v hj).1
  simpa using this⟩
theorem two_ss10 {u : World} {A A' : Where} {a b : Option Addr} {n c m d : Nat} {L M : List ByteArray} (h : SlAt RStr 1 16 A u a n c L) (k : SlAt RStr 1 16 A' u b m d M) (T : TypeId) : SlAt RSs 1 24 (fun _ => True) (u.alloc (.cells #[.slice a n c, .slice b m d] T)) (some ⟨u.heap.size, 0, none⟩) 2 2 [L, M] := by
 have hq := BoxL.new u T [.slice a n c, .slice b m d]
 have hb : Below u.heap.size u (u.alloc (.cells #[.slice a n c, .slice b m d] T)) := (Below.refl _ u).alloc (Nat.le_refl _) _
 have h' := (h.weak RStr.firm (A' := fun _ => True) (fun _ _ _ => trivial)).on RStr.firm hb
 have k' := (k.weak RStr.firm (A' := fun _ => True) (fun _ _ _ => trivial)).on RStr.firm hb
 refine ⟨rfl, Nat.le_refl _, (fun h => by cases h), by decide, fun _ => ⟨u.heap.size, 0, rfl, hq.1, trivial, fun i hi => ?_⟩⟩
 rcases (show i = 0 \/ i = 1 by omega) with rfl | rfl
 ·exact ⟨[.slice a n c], ⟨a, n, c, rfl, h'⟩, fun j v hj => by
   have h0 : j < 1 := (List.getElem?_eq_some_iff.1 hj).1
   obtain rfl : j = 0 := by omega
   have : v = .slice a n c := by simpa using hj.symm
   subst this
   exact (hq.2 0 _ rfl).1⟩
 ·exact ⟨[.slice b m d], ⟨b, m, d, rfl, k'⟩, fun j v hj => by
   have h0 : j < 1 := (List.getElem?_eq_some_iff.1 hj).1
   obtain rfl : j = 0 := by omega
   have : v = .slice b m d := by simpa using hj.symm
   subst this
   exact (hq.2 1 _ rfl).1⟩
theorem SlAt.bytes10 {α : Type} [Inhabited α] {R : Rep α} {k b b' : Nat} {A : Where} {w : World} {a : Option Addr} {n cap : Nat} {L : List α} (h : SlAt R k b A w a n cap L) (hb : b' <= b) : SlAt R k b' A w a n cap L := ⟨h.1, h.2.1, h.2.2.1, Nat.le_trans (Nat.mul_le_mul_left n hb) h.2.2.2.1, h.2.2.2.2⟩
def PPl (w : World) (r : List PickD × Int) (e : Ending) (w' : World) : Prop := ∃ a n cap, e = .returned (.tuple #[.slice a n cap, .int .i64 r.2]) /\ SlAt RLabel 2 32 (fun _ => True) w' a n cap r.1 /\ Below w.heap.size w w'
theorem zFq (ps : List Value) (p : PodD) (is : List Value) (i : InfoD) (v0 v1 v5 : Value) (ca : Option Addr) (cn cc : Nat) (va : Option Addr) (vn vc : Nat) (ka : Option Addr) (kn kc : Nat) (CL : List ClaimD) (V : List VolumeD) (KL : List ClassD) (w : World) (hp : Hid (RPod (fun _ => True) w ps p)) (hi : Hid (RInfo (fun _ => True) w is i)) (hc : SlAt RClaim 4 56 (fun _ => True) w ca cn cc CL) (hv : SlAt RVolume 5 72 (fun _ => True) w va vn vc V) (hk : SlAt RClass 2 24 (fun _ => True) w ka kn kc KL) (hv8 : V.length * 80 <= 140737488355328) :
  Calls Tryz.prog 111 #[.agg ps.toArray, .agg is.toArray, .agg #[v0, v1, .slice va vn vc, .slice ca cn cc, .slice ka kn kc, v5]] w (PPl w (planP (allL Prod.fst V, CL) KL (iLabs i) (allL id (pClm p)) (iDsk i) (iNum i))) := by
 obtain ⟨⟨la, ln, lc⟩, ⟨da, dn, dc⟩, i1, i8, i14, sl, sd⟩ := hi.out.labs10
 obtain ⟨⟨pa, pn, pc⟩, p13, sp⟩ := hp.out.clm10
 simp only at i1 i14 sl sd p13 sp
 have hi6 : (Tryz.prog.info? 29).map (·.size) = some ([v0, v1, .slice va vn vc, .slice ca cn cc, .slice ka kn kc, v5] : List Value).length := by kernel_rfl
 obtain ⟨W1, hW1⟩ : ∃ W, W = w.alloc (.cells ps.toArray 49) := ⟨_, rfl⟩
 obtain ⟨W2, hW2⟩ : ∃ W, W = W1.alloc (.cells is.toArray 63) := ⟨_, rfl⟩
 obtain ⟨W3, hW3⟩ : ∃ W, W = W2.alloc (.cells #[v0, v1, .slice va vn vc, .slice ca cn cc, .slice ka kn kc, v5] 29) := ⟨_, rfl⟩
 have B1 : Below w.heap.size w W1 := by rw [hW1]; go_grown
 have B2 : Below W1.heap.size W1 W2 := by rw [hW2]; go_grown
 have B3 : Below W2.heap.size W2 W3 := by rw [hW3]; go_grown
 have z1 : W1.heap.size = w.heap.size + 1 := by rw [hW1]; simp
 have z2 : W2.heap.size = w.heap.size + 1 + 1 := by rw [hW2]; simp [z1]
 have qa : BoxL W3 w.heap.size ps := by refine BoxL.on (BoxL.on ?_ B2) B3; rw [hW1]; exact BoxL.new w 49 _
 have qb : BoxL W3 (w.heap.size + 1) is := by refine BoxL.on ?_ B3; rw [<- z1, hW2]; exact BoxL.new W1 63 _
 have qc : BoxL W3 (w.heap.size + 1 + 1) [v0, v1, .slice va vn vc, .slice ca cn cc, .slice ka kn kc, v5] := by rw [<- z2, hW3]; exact BoxL.new W2 29 _
 have BB : Below w.heap.size w W3 := on2 (on2 B1 B2) B3
 have hCo := zEq la ln lc v0 v1 v5 ca cn cc va vn vc ka kn kc (iLabs i) CL V KL W3 (sl.on RLabel.firm BB) (hc.on RClaim.firm BB) (hv.on RVolume.firm BB) (hk.on RClass.firm BB) hv8
 have c1 := (qb.2 1 _ i1).1
 have HRs : Hid (W3.rangeAt (w.heap.size + 1 + 1) 0 [v0, v1, .slice va vn vc, .slice ca cn cc, .slice ka kn kc, v5]) := qc.range
 have HU : Hid (∀ u, Below W3.heap.size W3 u -> BoxL u w.heap.size ps /\ BoxL u (w.heap.size + 1) is /\ SlAt RLabel 2 32 (fun b => b < W3.heap.size) u la ln lc (iLabs i) /\ SlAt RClaim 4 56 (fun b => b < W3.heap.size) u ca cn cc CL /\ SlAt RVolume 5 72 (fun b => b < W3.heap.size) u va vn vc V /\ SlAt RClass 2 24 (fun b => b < W3.heap.size) u ka kn kc KL /\ SlAt RStr 1 16 (fun _ => True) u pa pn pc (pClm p) /\ SlAt RStr 1 16 (fun _ => True) u da dn dc (iDsk i) /\ Below w.heap.size w u) := fun u hb => by
  have hb' := on2 BB hb
  have hlt : ∀ b, b < w.heap.size -> True -> b < W3.heap.size := fun b h _ => Nat.lt_of_lt_of_le h BB.size
  exact ⟨qa.on hb, qb.on hb, (sl.weak RLabel.firm hlt).on RLabel.firm hb', (hc.weak RClaim.firm hlt).on RClaim.firm hb', (hv.weak RVolume.firm hlt).on RVolume.firm hb', (hk.weak RClass.firm hlt).on RClass.firm hb', sp.on RStr.firm hb', sd.on RStr.firm hb', hb'⟩
 have hpl := sp.1
 have hdl := sd.1
 have hpb := sp.2.2.2.1
 have hdb := sd.2.2.2.1
 have Hpb : Hid ((pClm p).length * 16 <= 140737488351232 /\ (iDsk i).length * 16 <= 140737488351232) := ⟨by rw [hpl]; exact hpb, by rw [hdl]; exact hdb⟩
 have hszp := sp
 clear hp hi hc hv hk sl sd qa qb qc B1 B2 B3 BB z1 z2 hpl hdl hpb hdb hszp
 have Hcz : Hid (∀ x ∈ pClm p, x.size <= 140737488355328) := fun x hx => by
  obtain ⟨q, q1, rfl⟩ := zAu hx
  obtain ⟨_, _, _, _, _, ys, hy, _⟩ := sp.get (i := q) (by rw [<- sp.1]; exact q1)
  exact hy.2
 clear sp
 have Heach : Hid (((allL id (iDsk i ++ pClm p)).length : Int) = ((sortB sLt sEq (iDsk i ++ allL id (pClm p))).length : Int)) := by rw [Hid, zH6]
 have hn : (vNs (allL Prod.fst V)).Nodup := zHH Prod.fst V
 have hk0 : Hid (∀ c, keepV V (iLabs i) c = keepV (allL Prod.fst V) (iLabs i) c) := fun c => keep_all V _ c
 have hv0 : (allL Prod.fst V).length <= V.length := zD2 _ _
 have HclO : Hid (∀ x ∈ allL id (pClm p), x.size <= 140737488355328) := fun x hx => Hcz.out x ((zCg _ _).1 hx)
 have Hcl16 : Hid ((allL id (pClm p)).length * 16 <= 140737488351232) := by have h1 := Hpb.out.1; have h2 := zD2 id (pClm p); rw [Hid]; omega
 clear Hcz
 have Hcz := HclO
 clear HclO
 obtain ⟨cl2, hcl2⟩ : ∃ l, l = allL id (pClm p) := ⟨_, rfl⟩
 have Hcl2 : Hid (cl2 = allL id (pClm p)) := hcl2
 rw [<- hcl2] at Heach Hcz Hcl16 |-
 clear hcl2
 obtain ⟨Q, hQ⟩ : ∃ Q, Q = allL Prod.fst V := ⟨_, rfl⟩
 rw [<- hQ] at hCo hn hk0 hv0 |-
 clear hQ
 obtain ⟨NL, hNL⟩ : ∃ NL, NL = iLabs i := ⟨_, rfl⟩
 rw [<- hNL] at hCo HU hk0 |-
 clear hNL
 generalize pClm p = claims at *
 generalize iDsk i = disks at *
 change is[8]? = some (.int .i64 (iNum i)) at i8
 generalize iNum i = dnum at *
 obtain ⟨r, hr⟩ : ∃ r, r = planP (Q, CL) KL NL cl2 disks dnum := ⟨_, rfl⟩
 rw [<- hr]
 have Hr : Hid (r = planP (Q, CL) KL NL cl2 disks dnum) := hr
 clear hr
 go_enter Tryz.func111, Tryz.ntmps111
 go_upto_region 1 with fail
 rw [<- hW1, <- hW2, <- hW3]
 clear hW1 hW2 hW3
 go_wp2_with (first | (refine wpList_load_mid rfl 29 _ rfl (w.heap.size + 1 + 1) 0 rfl [v0, v1, .slice va vn vc, .slice ca cn cc, .slice ka kn kc, v5] _ HRs.out Tryz.underlying29 rfl hi6 ?_) | fail)
 refine hCo.mono ?_
 rintro e w4 ⟨mc, mv, mk, la0, ln0, lc0, rfl, nc, nv, nk, rl, dl, g1, g2, g3⟩
 clear hCo c1 HRs
 have b4 : Below W3.heap.size W3 w4 := rl.below
 obtain ⟨U, hU⟩ : ∃ U, U = (w4.alloc (.cells #[.slice none 0 0, .slice none 0 0, .map none, .slice none 0 0, .map none, .slice none 0 0, .map none, .slice none 0 0, .slice none 0 0] 228)).setCells w4.heap.size 0 [.slice la ln lc, .slice ca cn cc, .map (some mc), .slice va vn vc, .map (some mv), .slice ka kn kc, .map (some mk), .slice la0 ln0 lc0, .slice none 0 0] := ⟨_, rfl⟩
 have HTh : Hid ((w4.alloc (.cells #[.slice none 0 0, .slice none 0 0, .map none, .slice none 0 0, .map none, .slice none 0 0, .map none, .slice none 0 0, .slice none 0 0] 228)).there w4.heap.size 0 (#[.slice la ln lc, .slice ca cn cc, .map (some mc), .slice va vn vc, .map (some mv), .slice ka kn kc, .map (some mk), .slice la0 ln0 lc0, .slice none 0 0] : Array Value).size) := (BoxL.new w4 228 [.slice none 0 0, .slice none 0 0, .map none, .slice none 0 0, .map none, .slice none 0 0, .map none, .slice none 0 0, .slice none 0 0]).there
 have HWU : Hid (U = (w4.alloc (.cells #[.slice none 0 0, .slice none 0 0, .map none, .slice none 0 0, .map none, .slice none 0 0, .map none, .slice none 0 0, .slice none 0 0] 228)).setCells w4.heap.size 0 (#[.slice la ln lc, .slice ca cn cc, .map (some mc), .slice va vn vc, .map (some mv), .slice ka kn kc, .map (some mk), .slice la0 ln0 lc0, .slice none 0 0] : Array Value).toList) := by rw [Hid, hU]
 have HOc : Hid ((#[.slice la ln lc, .slice ca cn cc, .map (some mc), .slice va vn vc, .map (some mv), .slice ka kn kc, .map (some mk), .slice la0 ln0 lc0, .slice none 0 0] : Array Value).all (·.oneCell') = true) := by rw [Hid]; simp [Value.oneCell']
 have bU : Below w4.heap.size w4 U := by rw [hU]; exact zA0 ((Below.refl _ _).alloc (Nat.le_refl _) _) (Nat.le_refl _)
 have qU : BoxL U w4.heap.size [.slice la ln lc, .slice ca cn cc, .map (some mc), .slice va vn vc, .map (some mv), .slice ka kn kc, .map (some mk), .slice la0 ln0 lc0, .slice none 0 0] := by rw [hU]; exact zA2 (BoxL.new w4 228 [.slice none 0 0, .slice none 0 0, .map none, .slice none 0 0, .map none, .slice none 0 0, .map none, .slice none 0 0, .slice none 0 0]) rfl
 clear hU
 obtain ⟨X, hX⟩ : ∃ X, X = w4.heap.size := ⟨_, rfl⟩
 have H4 : Hid (∀ z, Below U.heap.size U z -> NmAt z mc (CL.map Prod.fst) /\ NmAt z mv (V.map Prod.fst) /\ NmAt z mk (KL.map Prod.fst) /\ Row RVolume 5 (fun b => b < W3.heap.size) W3 z 79 (.slice la0 ln0 lc0) (leftP NL Q []) /\ BoxL z X [.slice la ln lc, .slice ca cn cc, .map (some mc), .slice va vn vc, .map (some mv), .slice ka kn kc, .map (some mk), .slice la0 ln0 lc0, .slice none 0 0] /\ Below W3.heap.size W3 z /\ X < U.heap.size /\ U.heap.size <= z.heap.size) := fun z hb => by
  have h1 := on2 bU hb
  exact ⟨nc.on h1, nv.on h1, nk.on h1, rl.on RVolume.firm h1, by rw [hX]; exact qU.on hb, on2 b4 h1, by rw [hX]; exact qU.1, hb.size⟩
 have H5 : Hid (W3.heap.size <= X /\ mc < X /\ mv < X /\ mk < X /\ (∀ b, (Value.slice la0 ln0 lc0).ownBlock = some b -> W3.heap.size <= b /\ b < X /\ b ≠ mc /\ b ≠ mv /\ b ≠ mk)) := ⟨by rw [hX]; exact b4.size, by rw [hX]; exact nc.lt, by rw [hX]; exact nv.lt, by rw [hX]; exact nk.lt, fun b hb => ⟨(rl.lt hb).1, by rw [hX]; exact (rl.lt hb).2, dl b hb⟩⟩
 rw [<- hX] at HTh HWU
 have HX : Hid (X = w4.heap.size) := hX
 clear nc nv nk rl dl g1 g2 g3 b4 bU qU hX
 go_upto_region 2 with (first | (refine wpList_store_mid rfl 228 _ _ rfl w4.heap.size 0 #[.slice la ln lc, .slice ca cn cc, .map (some mc), .slice va vn vc, .map (some mv), .slice ka kn kc, .map (some mk), .slice la0 ln0 lc0, .slice none 0 0] rfl rfl (HX.out ▸ HTh.out) zB0 HOc.out ?_; refine zAN (HX.out ▸ HWU.out) ?_) | fail)
 rw [<- HX.out]
 clear HTh HWU HOc
 obtain ⟨_, _, _, _, _, bU0, _, _⟩ := H4.out U (Below.refl _ _)
 obtain ⟨qa, _, _, _, _, _, sp, _, _⟩ := HU.out U bU0
 have cP := (qa.2 13 _ p13).1
 obtain ⟨Wb, hWb⟩ : ∃ W, W = U.alloc (.cells #[.slice pa pn pc] 31) := ⟨_, rfl⟩
 have bWb : Below U.heap.size U Wb := by rw [hWb]; go_grown
 have s1 : SlAt RSs 1 24 (fun _ => True) Wb (some ⟨U.heap.size, 0, none⟩) 1 1 [claims] := by rw [hWb]; exact one_ss10 sp 31
 have hCe := zDs _ _ _ _ [claims] Wb s1 (by have h1 := Hpb.out.1; simp only [List.flatten_cons, List.flatten_nil, List.append_nil]; omega)
 simp only [List.flatten_cons, List.flatten_nil, List.append_nil] at hCe
 rw [<- Hcl2.out] at hCe
 have HbW : Hid (Below U.heap.size U Wb) := bWb
 clear bU0 qa sp s1 bWb
 go_wp2_with fail
 rw [<- hWb]
 clear hWb cP
 refine hCe.mono ?_
 rintro e Wp ⟨nv5, rfl, r5⟩
 clear hCe
 have b5 : Below U.heap.size U Wp := on2 HbW.out r5.below
 have hsz5 : U.heap.size <= Wb.heap.size := HbW.out.size
 obtain ⟨na, nn, nb, rfl⟩ := r5.head
 obtain ⟨mN, mV, mK, rl, qX, bW, hXU, hUW⟩ := H4.out Wp b5
 obtain ⟨h51, h52, h53, h54, h55⟩ := H5.out
 obtain ⟨_, _, sl, sc, sv, sk, _, _, _⟩ := HU.out Wp bW
 have sn : SlAt RStr 1 16 (Old10 Wp X (.slice la0 ln0 lc0)) Wp na nn nb cl2 := by
  have hlt := fun b hb => r5.lt (b := b) hb
  obtain ⟨xs, q1, q2⟩ := r5
  obtain ⟨a', c', e', s'⟩ := zAf (bytes := 16) RStr.firm (A := fun _ => False) q1.2 ((q2.flat RStr.flat)) Hcl16.out
  cases e'
  refine s'.weak RStr.firm (fun b _ hb => ?_)
  rcases hb with hb | hb
  ·exact hb.elim
  ·have h1 := hlt b hb
   exact ⟨h1.2, by omega, fun e => by have h2 := (h55 b e).2.1; omega⟩
 have hpc : PlC W3 Wp X (.slice la0 ln0 lc0) la ln lc ca cn cc mc va vn vc mv ka kn kc mk NL CL V KL := {
  bw := bW
  l := sl
  c := sc
  v := sv
  k := sk
  mc := ⟨mN, by omega, by omega, fun e => (h55 _ e).2.2.1 rfl⟩
  mv := ⟨mV, by omega, by omega, fun e => (h55 _ e).2.2.2.1 rfl⟩
  ms := ⟨mK, by omega, by omega, fun e => (h55 _ e).2.2.2.2 rfl⟩
  x := ⟨h51, by omega⟩
  g := fun b hb => ⟨(h55 b hb).1, by have := (h55 b hb).2.1; omega, by have := (h55 b hb).2.1; omega⟩
  hv := hv8 }
 have hps : PlS W3 Wp X (.slice la0 ln0 lc0) [.slice la ln lc, .slice ca cn cc, .map (some mc), .slice va vn vc, .map (some mv), .slice ka kn kc, .map (some mk)] NL Q Q.length Wp (.slice la0 ln0 lc0) (.slice none 0 0) (([] : List PickD).map Prod.snd) [] := {
  kp := Kept.refl _ _
  bw := bW
  bx := qX
  lf := rl
  lo := rfl
  pk := (Row.nil _ W3 _).on RLabel.firm bW
  po := fun b hb => by cases hb
  ln := by rw [List.length_nil, Nat.zero_add]; exact zFI _ _ _
  cl := rfl
  gx := fun b hb => ⟨(h55 b hb).1, by have := (h55 b hb).2.1; omega, by have := (h55 b hb).2.1; omega⟩
  xx := ⟨h51, by omega⟩ }
 have HP : Hid (PlC W3 Wp X (.slice la0 ln0 lc0) la ln lc ca cn cc mc va vn vc mv ka kn kc mk NL CL V KL) := hpc
 have Hsn : Hid (SlAt RStr 1 16 (Old10 Wp X (.slice la0 ln0 lc0)) Wp na nn nb cl2) := sn
 have hnn : Hid (cl2.length = nn) := sn.1
 have hnl := sn.len (by decide)
 have HI : Hid (∃ out lv pv, planL (Q, CL) KL NL (cl2.take 0) [] = .ok out /\ PlS W3 Wp X (.slice la0 ln0 lc0) [.slice la ln lc, .slice ca cn cc, .map (some mc), .slice va vn vc, .map (some mv), .slice ka kn kc, .map (some mk)] NL Q Q.length Wp lv pv (out.map Prod.snd) out) := ⟨[], _, _, by rw [List.take_zero]; rfl, hps⟩
 clear b5 hsz5 mN mV mK rl qX bW hXU hUW h51 h52 h53 h54 h55 sl sc sv sk sn hpc hps r5 H4 H5 HbW
 go_wp2_with fail
 go_loopw [22] (fun i wr => ∃ k : Nat, k <= nn /\ i = .int .i64 k /\ Hid (∃ out lv pv, planL (Q, CL) KL NL (cl2.take k) [] = .ok out /\ PlS W3 Wp X (.slice la0 ln0 lc0) [.slice la ln lc, .slice ca cn cc, .map (some mc), .slice va vn vc, .map (some mv), .slice ka kn kc, .map (some mk)] NL Q Q.length wr lv pv (out.map Prod.snd) out)) (fun i _ => nn - (intOf i).toNat)
 case atStart => exact ⟨0, Nat.zero_le _, rfl, HI⟩
 case round =>
  obtain ⟨k, hk, rfl, hrun⟩ := hrel
  obtain ⟨out, lv, pv, hpl, hps⟩ := hrun.out
  clear hrun HI
  by_cases hlt : k < nn
  ·have hltz : (k : Int) < (nn : Int) := by omega
   have hkl : k < cl2.length := by rw [hnn.out]; exact hlt
   obtain ⟨st1, st2, st3⟩ := plan_step hkl hpl
   have sw := Hsn.out.kept RStr.firm hps.kp
   obtain ⟨B, off, rfl, hB, _, ys, hy, hyv⟩ := sw.get hlt
   obtain ⟨rfl, hnz⟩ := hy
   have d0 := hyv 0 _ rfl
   rw [Nat.mul_one, Nat.add_zero] at d0
   have hCa := zHW W3 Wp X (.slice la0 ln0 lc0) la ln lc ca cn cc mc va vn vc mv ka kn kc mk NL CL V Q KL lv pv out (cl2.getD k default) wr HP hps hn hk0 hv0 hnz
   have Hst : Hid ((∀ e, stepP (Q, CL) KL NL (out.map Prod.snd) (cl2.getD k default) = .error e -> planL (Q, CL) KL NL cl2 [] = .error e) /\ (stepP (Q, CL) KL NL (out.map Prod.snd) (cl2.getD k default) = .ok none -> planL (Q, CL) KL NL (cl2.take (k + 1)) [] = .ok out) /\ ∀ pk, stepP (Q, CL) KL NL (out.map Prod.snd) (cl2.getD k default) = .ok (some pk) -> planL (Q, CL) KL NL (cl2.take (k + 1)) [] = .ok (out ++ [pk])) := ⟨st1, st2, st3⟩
   clear st1 st2 st3 sw hyv hB hps hpl hnz
   generalize cl2.getD k default = nm at d0 hCa Hst
   go_wp2_with fail
   refine hCa.mono ?_
   rintro e w6 (⟨x, hx, hx0, rfl, b6⟩ | ⟨lv', pv', hx, rfl, p6⟩ | ⟨pk, lv', pv', hx, rfl, p6⟩)
   ·have HF : Hid (r = ([], x) /\ Below w.heap.size w w6) := ⟨by rw [Hr.out]; unfold planP; rw [Hst.out.1 x hx], (HU.out w6 b6).2.2.2.2.2.2.2.2⟩
    clear hCa Hst hx b6 d0
    go_wp2_with fail
    go_ret2
    exact ⟨none, 0, 0, by rw [HF.out.1]; rfl, by rw [HF.out.1]; exact SlAt.nil _ _ _ _ (fun _ => rfl), HF.out.2⟩
   ·have HN : Hid (∃ out lv pv, planL (Q, CL) KL NL (cl2.take (k + 1)) [] = .ok out /\ PlS W3 Wp X (.slice la0 ln0 lc0) [.slice la ln lc, .slice ca cn cc, .map (some mc), .slice va vn vc, .map (some mv), .slice ka kn kc, .map (some mk)] NL Q Q.length w6 lv pv (out.map Prod.snd) out) := ⟨out, lv', pv', Hst.out.2.1 hx, p6⟩
    clear hCa Hst hx p6 d0
    go_wp2_with fail
    go_roundw
    case rel => exact ⟨k + 1, by omega, by go_num, HN⟩
    case measure => simp [intOf]; omega
   ·have HN : Hid (∃ out lv pv, planL (Q, CL) KL NL (cl2.take (k + 1)) [] = .ok out /\ PlS W3 Wp X (.slice la0 ln0 lc0) [.slice la ln lc, .slice ca cn cc, .map (some mc), .slice va vn vc, .map (some mv), .slice ka kn kc, .map (some mk)] NL Q Q.length w6 lv pv (out.map Prod.snd) out) := ⟨out ++ [pk], lv', pv', Hst.out.2.2 pk hx, p6⟩
    clear hCa Hst hx p6 d0
    go_wp2_with fail
    go_roundw
    case rel => exact ⟨k + 1, by omega, by go_num, HN⟩
    case measure => simp [intOf]; omega
  ·rw [List.take_of_length_le (by rw [hnn.out]; omega)] at hpl
   have hltz : ¬ ((k : Int) < (nn : Int)) := by omega
   obtain ⟨pa9, pn9, pc9, rfl⟩ := hps.pk.head
   have HZ : Hid (∀ z, Below wr.heap.size wr z -> z.cell? ⟨w.heap.size + 1, 14, none⟩ = some (.slice da dn dc) /\ z.cell? ⟨w.heap.size, 13, none⟩ = some (.slice pa pn pc) /\ z.cell? ⟨w.heap.size + 1, 8, none⟩ = some (.int .i64 dnum)) := fun z hb => by
    obtain ⟨q1, q2, _⟩ := HU.out z (on2 hps.bw hb)
    exact ⟨(q2.2 14 _ i14).1, (q1.2 13 _ p13).1, (q2.2 8 _ i8).1⟩
   have HY : Hid (∀ z, Below wr.heap.size wr z -> SlAt RStr 1 16 (fun _ => True) z pa pn pc claims /\ SlAt RStr 1 16 (fun _ => True) z da dn dc disks /\ Below w.heap.size w z /\ z.cell? ⟨X, 8, none⟩ = some (.slice pa9 pn9 pc9) /\ SlAt RLabel 2 32 (fun _ => True) z pa9 pn9 pc9 out) := fun z hb => by
    obtain ⟨_, _, _, _, _, _, s7, s8, b9⟩ := HU.out z (on2 hps.bw hb)
    have h9 := hps.on hb
    obtain ⟨_, _, _, e9, t9⟩ := h9.pk.sl10 (bytes := 32) RLabel.firm (by have := h9.ln; omega)
    cases e9
    exact ⟨s7, s8, b9, (h9.bx.2 8 _ rfl).1, t9⟩
   have HR : Hid (r = if decide (dnum < ((allL id (disks ++ claims)).length : Int)) = true then ([], 15) else (out, 0)) := by
    rw [Hid, Hr.out]
    unfold planP disksP
    rw [hpl, Heach.out]
   clear hps hpl HP Hsn Hr
   go_upto_region 9 with fail
   refine t0 (fun z => Below wr.heap.size wr z) (Below.refl _ _).drew (fun gH => ?_)
   generalize hwd : wr.drew = wd at gH |-
   clear hwd
   try go_frame
   refine' tk 0 ?_ ?_; rotate_left
   ·intro u hu; obtain ⟨f1, f2, f3⟩ := HZ.out u hu; clear hu; go_simp; try with_reducible rfl
   try go_frame
   refine' tk 1 ?_ ?_; rotate_left
   ·intro u hu; obtain ⟨f1, f2, f3⟩ := HZ.out u hu; clear hu; go_simp; try with_reducible rfl
   try go_frame
   refine' tk 2 ?_ ?_; rotate_left
   ·intro u hu; obtain ⟨f1, f2, f3⟩ := HZ.out u hu; clear hu; go_simp; try with_reducible rfl
   try go_frame
   refine' tk 3 ?_ ?_; rotate_left
   ·intro u hu; obtain ⟨f1, f2, f3⟩ := HZ.out u hu; clear hu; go_simp; try with_reducible rfl
   try go_frame
   refine' tk 7 ?_ ?_; rotate_left
   ·intro u hu; obtain ⟨f1, f2, f3⟩ := HZ.out u hu; clear hu; go_simp; try with_reducible rfl
   try go_frame
   refine' tk 8 ?_ ?_; rotate_left
   ·intro u hu; obtain ⟨f1, f2, f3⟩ := HZ.out u hu; clear hu; go_simp; try with_reducible rfl
   try go_frame
   refine' tk 9 ?_ ?_; rotate_left
   ·intro u hu; obtain ⟨f1, f2, f3⟩ := HZ.out u hu; clear hu; go_simp; try with_reducible rfl
   try go_frame
   obtain ⟨t1, t2, _, _, _⟩ := HY.out wd gH
   obtain ⟨Wc, hWc⟩ : ∃ W, W = wd.alloc (.cells #[.slice da dn dc, .slice pa pn pc] 31) := ⟨_, rfl⟩
   have bWc : Below wr.heap.size wr Wc := by rw [hWc]; exact on2 gH ((Below.refl _ _).alloc (Nat.le_refl _) _)
   have s2 : SlAt RSs 1 24 (fun _ => True) Wc (some ⟨wd.heap.size, 0, none⟩) 2 2 [disks, claims] := by rw [hWc]; exact two_ss10 t2 t1 31
   have hCe := zDs _ _ _ _ [disks, claims] Wc s2 (by have h1 := Hpb.out; simp only [List.flatten_cons, List.flatten_nil, List.append_nil, List.length_append]; omega)
   simp only [List.flatten_cons, List.flatten_nil, List.append_nil] at hCe
   refine tr 4 (fun K hK => ?_)
   go_simp
   refine hK.out _ _ (hWc ▸ bWc) (fun gI => ?_)
   rw [<- hWc] at gI |-
   clear hK K gH; have gH := gI; clear gI
   try go_frame
   clear hWc t1 t2 s2
   refine tr 5 (fun K hK => ?_)
   go_simp
   refine hCe.mono ?_
   rintro e w8 ⟨v8, rfl, r8⟩
   have b8 := on2 gH r8.below
   obtain ⟨e1, e2, e3, rfl, s8⟩ := r8.sl10 (bytes := 8) RStr.firm (by have h1 := Hpb.out; have h2 := zD2 id (disks ++ claims); rw [List.length_append] at h2; omega)
   have he2 : ((allL id (disks ++ claims)).length : Int) = (e2 : Int) := by rw [s8.1]
   have HR2 : Hid (r = if decide (dnum < (e2 : Int)) = true then ([], 15) else (out, 0)) := by rw [Hid, <- he2]; exact HR.out
   go_wp2_with fail
   refine hK.out _ _ b8 (fun gI => ?_)
   clear hK K gH; have gH := gI; clear gI
   try go_frame
   clear r8 s8 he2 HR hCe bWc
   refine tp 6 ?_
   try go_frame
   refine tp 10 ?_
   try go_frame
   refine tz ?_
   obtain ⟨_, _, b9, cX, s9⟩ := HY.out w8 b8
   clear HY HZ gH b8
   by_cases hd : dnum < (e2 : Int)
   ·have HF : Hid (r = ([], 15) /\ Below w.heap.size w w8) := ⟨by rw [HR2.out, if_pos (by simpa using hd)], b9⟩
    clear HR2 cX s9 b9
    go_wp2_with fail
    go_ret2
    exact ⟨none, 0, 0, by rw [HF.out.1]; rfl, by rw [HF.out.1]; exact SlAt.nil _ _ _ _ (fun _ => rfl), HF.out.2⟩
   ·have HF : Hid (r = (out, 0) /\ Below w.heap.size w w8 /\ SlAt RLabel 2 32 (fun _ => True) w8 pa9 pn9 pc9 out) := ⟨by rw [HR2.out, if_neg (by simpa using hd)], b9, s9⟩
    clear HR2 s9 b9
    go_wp2_with fail
    go_ret2
    exact ⟨pa9, pn9, pc9, by rw [HF.out.1]; rfl, by rw [HF.out.1]; exact HF.out.2.2, HF.out.2.1⟩
def planQ (p : PodD) (i : InfoD) (x : StateD) : List PickD × Int := planP (allL Prod.fst (sVs x), sCs x) (sKs x) (iLabs i) (allL id (pClm p)) (iDsk i) (iNum i)
theorem zGJ (ps : List Value) (p : PodD) (is : List Value) (i : InfoD) (cs : List Value) (x : StateD) (w : World) (hp : Hid (RPod (fun _ => True) w ps p)) (hi : Hid (RInfo (fun _ => True) w is i)) (h : Hid (RState (fun _ => True) w cs x)) :
  Calls Tryz.prog 111 #[.agg ps.toArray, .agg is.toArray, .agg cs.toArray] w (PPl w (planQ p i x)) := by
 obtain ⟨⟨a0, n0, m0⟩, ⟨a1, n1, m1⟩, ⟨a2, n2, m2⟩, ⟨a3, n3, m3⟩, ⟨a4, n4, m4⟩, ⟨a5, n5, m5⟩, rfl, s0, s1, s2, s3, s4, s5⟩ := h.out.out
 simp only at s2 s3 s4
 have h80 := s2.2.2.2.1
 have hl := s2.1
 exact zFq ps p is i _ _ _ a3 n3 m3 a2 n2 m2 a4 n4 m4 (sCs x) (sVs x) (sKs x) w hp hi s3 (SlAt.bytes10 s2 (by decide)) s4 (by rw [hl]; omega)
def QOut (why : Int) (picks : List PickD) (w : World) (e : Ending) (w' : World) : Prop := ∃ a n c, e = .returned (.tuple #[.int .i64 why, .slice a n c]) /\ SlAt RLabel 2 32 (fun _ => True) w' a n c picks /\ Below w.heap.size w w'
theorem q1_calls (Bp : Nat) (ps : List Value) (p : PodD) (is : List Value) (i : InfoD) (w : World) (qp : BoxL w Bp ps) (hp : RPod (fun _ => True) w ps p) (hi : RInfo (fun _ => True) w is i)  :
  Calls Tryz.prog 104 #[.agg is.toArray, .pointer (some ⟨Bp, 0, none⟩)] w (QOut (why1 p i) [] w) := by
 have hi16 : (Tryz.prog.info? 49).map (·.size) = some ps.length := by rw [RPod.firm.len hp]; exact zAM
 have hi15 : (Tryz.prog.info? 63).map (·.size) = some is.length := by rw [RInfo.firm.len hi]; exact zBT
 obtain ⟨W1, hW1⟩ : ∃ W, W = w.alloc (.cells is.toArray 63) := ⟨_, rfl⟩
 have B1 : Below w.heap.size w W1 := by rw [hW1]; exact (Below.refl _ _).alloc (Nat.le_refl _) _
 have qi : BoxL W1 w.heap.size is := by rw [hW1]; exact BoxL.new w 63 is
 have HR1 : Hid (W1.rangeAt Bp 0 ps) := (qp.on B1).range
 have HR2 : Hid (W1.rangeAt w.heap.size 0 is) := qi.range
 have HB1 : Hid (Below w.heap.size w W1) := B1
 have lB := (qp.on B1).1
 have lI := qi.1
 have hC := zFS ps is _ p i W1 (RPod.firm.kept hp (Kept.below B1)) (RInfo.firm.kept hi (Kept.below B1))
 clear qp hp hi B1 qi
 go_enter Tryz.func104, Tryz.ntmps104
 go_upto_region 1 with fail
 rw [<- hW1]
 clear hW1
 go_wp2_with (first | (refine wpList_load_mid rfl 49 _ rfl Bp 0 rfl ps _ HR1.out Tryz.underlying49 rfl hi16 ?_) | (refine wpList_load_mid rfl 63 _ rfl w.heap.size 0 rfl is _ HR2.out Tryz.underlying63 rfl hi15 ?_) | fail)
 refine hC.mono ?_
 rintro e u1 ⟨rfl, d1⟩
 have HE : Hid (Below w.heap.size w u1) := on2 HB1.out d1
 clear hC d1
 go_wp2_with fail
 go_ret2
 exact ⟨none, 0, 0, rfl, SlAt.nil _ _ _ _ (fun _ => rfl), HE.out⟩
theorem q2_calls (Bp : Nat) (ps : List Value) (p : PodD) (Bl : Nat) (b : Option Addr) (m c : Nat) (Pl : List PlacedD) (is : List Value) (i : InfoD) (w : World) (qp : BoxL w Bp ps) (hp : RPod (fun _ => True) w ps p) (hi : RInfo (fun _ => True) w is i) (ql : BoxL w Bl [.slice b m c]) (hl : SlAt RPlaced 17 320 (fun _ => True) w b m c Pl) (hn : (pNear p).length < 1000000000) (hm : (pApart p).length < 1000000000) (hcost : cost Pl < 70368744177000) :
  Calls Tryz.prog 106 #[.agg is.toArray, .pointer (some ⟨Bp, 0, none⟩), .pointer (some ⟨Bl, 0, none⟩)] w (QOut (nearP p (iLabs i) Pl) [] w) := by
 have hi16 : (Tryz.prog.info? 49).map (·.size) = some ps.length := by rw [RPod.firm.len hp]; exact zAM
 have hi15 : (Tryz.prog.info? 63).map (·.size) = some is.length := by rw [RInfo.firm.len hi]; exact zBT
 obtain ⟨W1, hW1⟩ : ∃ W, W = w.alloc (.cells is.toArray 63) := ⟨_, rfl⟩
 have B1 : Below w.heap.size w W1 := by rw [hW1]; exact (Below.refl _ _).alloc (Nat.le_refl _) _
 have qi : BoxL W1 w.heap.size is := by rw [hW1]; exact BoxL.new w 63 is
 have HR1 : Hid (W1.rangeAt Bp 0 ps) := (qp.on B1).range
 have HR2 : Hid (W1.rangeAt w.heap.size 0 is) := qi.range
 have HB1 : Hid (Below w.heap.size w W1) := B1
 have lB := (qp.on B1).1
 have lI := qi.1
 obtain ⟨⟨la, ln, lc⟩, _, i1, _, _, sl, _⟩ := hi.labs10
 simp only at i1 sl
 have y1 := (qi.2 1 _ i1).1
 have yl := ((ql.on B1).2 0 _ rfl).1
 have lBl := (ql.on B1).1
 have hC := zF3 ps _ _ _ p la ln lc (iLabs i) b m c Pl W1 (RPod.firm.kept hp (Kept.below B1)) (sl.on RLabel.firm B1) (hl.on RPlaced.firm B1) hn hm hcost
 clear qp hp hi B1 qi
 go_enter Tryz.func106, Tryz.ntmps106
 go_upto_region 1 with fail
 rw [<- hW1]
 clear hW1
 go_wp2_with (first | (refine wpList_load_mid rfl 49 _ rfl Bp 0 rfl ps _ HR1.out Tryz.underlying49 rfl hi16 ?_) | (refine wpList_load_mid rfl 63 _ rfl w.heap.size 0 rfl is _ HR2.out Tryz.underlying63 rfl hi15 ?_) | fail)
 refine hC.mono ?_
 rintro e u1 ⟨rfl, d1⟩
 have HE : Hid (Below w.heap.size w u1) := on2 HB1.out d1
 clear hC d1
 go_wp2_with fail
 go_ret2
 exact ⟨none, 0, 0, rfl, SlAt.nil _ _ _ _ (fun _ => rfl), HE.out⟩
theorem q3_calls (Bp : Nat) (ps : List Value) (p : PodD) (Bs : Nat) (s0 : Value) (na : Option Addr) (nn nc : Nat) (s2 s3 s4 s5 : Value) (N : List NodeD) (Bl : Nat) (b : Option Addr) (m c : Nat) (Pl : List PlacedD) (is : List Value) (i : InfoD) (w : World) (qp : BoxL w Bp ps) (hp : RPod (fun _ => True) w ps p) (hi : RInfo (fun _ => True) w is i) (qs : BoxL w Bs [s0, .slice na nn nc, s2, s3, s4, s5]) (hN : SlAt RNode 9 112 (fun _ => True) w na nn nc N) (ql : BoxL w Bl [.slice b m c]) (hl : SlAt RPlaced 17 320 (fun _ => True) w b m c Pl) :
  Calls Tryz.prog 108 #[.agg is.toArray, .pointer (some ⟨Bp, 0, none⟩), .pointer (some ⟨Bs, 0, none⟩), .pointer (some ⟨Bl, 0, none⟩)] w (QOut (spreadP 12 p (iLabs i) N Pl) [] w) := by
 have hi16 : (Tryz.prog.info? 49).map (·.size) = some ps.length := by rw [RPod.firm.len hp]; exact zAM
 have hi15 : (Tryz.prog.info? 63).map (·.size) = some is.length := by rw [RInfo.firm.len hi]; exact zBT
 obtain ⟨W1, hW1⟩ : ∃ W, W = w.alloc (.cells is.toArray 63) := ⟨_, rfl⟩
 have B1 : Below w.heap.size w W1 := by rw [hW1]; exact (Below.refl _ _).alloc (Nat.le_refl _) _
 have qi : BoxL W1 w.heap.size is := by rw [hW1]; exact BoxL.new w 63 is
 have HR1 : Hid (W1.rangeAt Bp 0 ps) := (qp.on B1).range
 have HR2 : Hid (W1.rangeAt w.heap.size 0 is) := qi.range
 have HB1 : Hid (Below w.heap.size w W1) := B1
 have lB := (qp.on B1).1
 have lI := qi.1
 obtain ⟨⟨la, ln, lc⟩, _, i1, _, _, sl, _⟩ := hi.labs10
 simp only at i1 sl
 have y1 := (qi.2 1 _ i1).1
 have yl := ((ql.on B1).2 0 _ rfl).1
 have lBl := (ql.on B1).1
 have yn := ((qs.on B1).2 1 _ rfl).1
 have lBs := (qs.on B1).1
 have hC := zH3 ps p la ln lc (iLabs i) na nn nc N b m c Pl W1 (RPod.firm.kept hp (Kept.below B1)) (sl.on RLabel.firm B1) (hN.on RNode.firm B1) (hl.on RPlaced.firm B1)
 clear qp hp hi B1 qi
 go_enter Tryz.func108, Tryz.ntmps108
 go_upto_region 1 with fail
 rw [<- hW1]
 clear hW1
 go_wp2_with (first | (refine wpList_load_mid rfl 49 _ rfl Bp 0 rfl ps _ HR1.out Tryz.underlying49 rfl hi16 ?_) | (refine wpList_load_mid rfl 63 _ rfl w.heap.size 0 rfl is _ HR2.out Tryz.underlying63 rfl hi15 ?_) | fail)
 refine hC.mono ?_
 rintro e u1 ⟨rfl, d1⟩
 have HE : Hid (Below w.heap.size w u1) := on2 HB1.out d1
 clear hC d1
 go_wp2_with fail
 go_ret2
 exact ⟨none, 0, 0, rfl, SlAt.nil _ _ _ _ (fun _ => rfl), HE.out⟩
theorem q4_calls (Bp : Nat) (ps : List Value) (p : PodD) (Bs : Nat) (ss : List Value) (x : StateD) (is : List Value) (i : InfoD) (w : World) (qp : BoxL w Bp ps) (hp : RPod (fun _ => True) w ps p) (hi : RInfo (fun _ => True) w is i) (qs : BoxL w Bs ss) (hs : RState (fun _ => True) w ss x) :
  Calls Tryz.prog 110 #[.agg is.toArray, .pointer (some ⟨Bp, 0, none⟩), .pointer (some ⟨Bs, 0, none⟩)] w (QOut (planQ p i x).2 (planQ p i x).1 w) := by
 have hi16 : (Tryz.prog.info? 49).map (·.size) = some ps.length := by rw [RPod.firm.len hp]; exact zAM
 have hi15 : (Tryz.prog.info? 63).map (·.size) = some is.length := by rw [RInfo.firm.len hi]; exact zBT
 obtain ⟨W1, hW1⟩ : ∃ W, W = w.alloc (.cells is.toArray 63) := ⟨_, rfl⟩
 have B1 : Below w.heap.size w W1 := by rw [hW1]; exact (Below.refl _ _).alloc (Nat.le_refl _) _
 have qi : BoxL W1 w.heap.size is := by rw [hW1]; exact BoxL.new w 63 is
 have HR1 : Hid (W1.rangeAt Bp 0 ps) := (qp.on B1).range
 have HR2 : Hid (W1.rangeAt w.heap.size 0 is) := qi.range
 have HB1 : Hid (Below w.heap.size w W1) := B1
 have lB := (qp.on B1).1
 have lI := qi.1
 have hi6 : (Tryz.prog.info? 29).map (·.size) = some ss.length := by rw [RState.firm.len hs]; exact zAS
 have HR3 : Hid (W1.rangeAt Bs 0 ss) := (qs.on B1).range
 have lBs := (qs.on B1).1
 have hC := zGJ ps p is i ss x W1 (RPod.firm.kept hp (Kept.below B1)) (RInfo.firm.kept hi (Kept.below B1)) (RState.firm.kept hs (Kept.below B1))
 clear qp hp hi B1 qi
 go_enter Tryz.func110, Tryz.ntmps110
 go_upto_region 1 with fail
 rw [<- hW1]
 clear hW1
 go_wp2_with (first | (refine wpList_load_mid rfl 49 _ rfl Bp 0 rfl ps _ HR1.out Tryz.underlying49 rfl hi16 ?_) | (refine wpList_load_mid rfl 63 _ rfl w.heap.size 0 rfl is _ HR2.out Tryz.underlying63 rfl hi15 ?_) | (refine wpList_load_mid rfl 29 _ rfl Bs 0 rfl ss _ HR3.out Tryz.underlying29 rfl hi6 ?_) | fail)
 refine hC.mono ?_
 rintro e u1 ⟨a, n, c, rfl, sl, d1⟩
 have HE : Hid (SlAt RLabel 2 32 (fun _ => True) u1 a n c (planQ p i x).1 /\ Below w.heap.size w u1) := ⟨sl, on2 HB1.out d1⟩
 obtain ⟨y, hy⟩ : ∃ y, (planQ p i x).2 = y := ⟨_, rfl⟩
 have HY : Hid ((planQ p i x).2 = y) := hy
 rw [hy]
 clear hC d1 sl hy
 go_wp2_with fail
 go_ret2
 exact ⟨a, n, c, by rw [HY.out]; rfl, HE.out.1, HE.out.2⟩
end Go.Proofs.YtnffafjamiffnaaGreat
