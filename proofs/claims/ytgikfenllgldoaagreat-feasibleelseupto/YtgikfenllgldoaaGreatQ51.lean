/- Functions of the program, each walked under the conditions that its theorem names. -/
import Derived.Test.YtgikfenllgldoaaGreatQ50
set_option linter.unusedSimpArgs false
set_option maxRecDepth 100000
set_option maxHeartbeats 32000000
namespace Go.Proofs.YtgikfenllgldoaaGreat
open Go.Proofs.Tryz
open Go.RowKit Go.Maps
theorem aY.lY {A:Where} {w:World} {cs:List Value} {q:bC} (h:aY A w cs q):q.1.1.size<=140737488355328/\∃ i1 i2 i3 i4 i5 i6 i7 i8 i9 i10 i11 i12 i13 i14:Value,cs=[.string q.1.1,i1,i2,i3,i4,i5,i6,i7,i8,i9,i10,i11,i12,i13,i14]:=by
 obtain ⟨_,_,_,_,_,rfl,hz,_⟩:=h.out
 exact ⟨hz,_,_,_,_,_,_,_,_,_,_,_,_,_,_,rfl⟩
theorem pq.from {n:Nat} {why:Nat->Int} {pk:Nat->List bH} {w v:World} {e:Ending} {w':World} (h:pq n why pk v e w') (hb:Below w.heap.size w v):pq n why pk w e w':=by
 rcases h with ⟨k,h1,h2,h3,h4,h5⟩ | ⟨h1,a,m,c,h2,h3,h4⟩
 ·exact .inl ⟨k,h1,h2,h3,h4,ah hb h5⟩
 ·exact .inr ⟨h1,a,m,c,h2,h3,ah hb h4⟩
def vI (y:aP) (p:aB) (L:List bC) (s:ByteArray) (w:World) (e:Ending) (w':World):Prop :=
 (∃ k,k<L.length/\(∀ j,j<k->ay (L.getD j default).1.1 s=false)/\ay (L.getD k default).1.1 s=true/\pq 4 (whyF y p (L.getD k default)) (zn y p (L.getD k default)) w e w') \/
 ((∀ j,j<L.length->ay (L.getD j default).1.1 s=false)/\e=.returned (.tuple #[.int .i64 16,.slice none 0 0])/\Below w.heap.size w w')
theorem Ju:(prog.info? 67).map (·.size)=some 2:=by kernel_rfl
theorem zEu (ss:List Value) (x:aP) (ps:List Value) (p:aB) (s:ByteArray) (w:World) (hs:aK (fun _=>True) w ss x) (hp:aj (fun _=>True) w ps p) (hF:∀ s,vH (fZ (aS (aR x p.1).1) s)) (hb1:(aZ (aR x p.1).2.1).length*208<=140737488351232) (hb2:(aR x p.1).1.length*320<=140737488351232) (hf:AQ (aR x p.1) p) :
  Calls prog 6 #[.agg ss.toArray,.agg ps.toArray,.string s] w (vI (aR x p.1) p (dw (aR x p.1)) s w):=by
 have mG:(prog.info? 29).map (·.size)=some ss.length:=by rw [aK.ae.len hs];exact oN
 have ma:(prog.info? 41).map (·.size)=some ps.length:=by rw [aj.ae.len hp];exact kY
 obtain ⟨W1,hW1⟩:∃ W,W=w.alloc (.cells ss.toArray 29):=⟨_,rfl⟩
 obtain ⟨W2,hW2⟩:∃ W,W=W1.alloc (.cells ps.toArray 41):=⟨_,rfl⟩
 have B1:Below w.heap.size w W1:=by rw [hW1];exact (Below.refl _ _).alloc (Nat.le_refl _) _
 have B2:Below W1.heap.size W1 W2:=by rw [hW2];exact (Below.refl _ _).alloc (Nat.le_refl _) _
 have z1:W1.heap.size=w.heap.size+1:=by rw [hW1];simp
 have q1:af W2 w.heap.size ss:=by refine af.on ?_ B2;rw [hW1];exact af.new w 29 ss
 have q2:af W2 (w.heap.size+1) ps:=by rw [<- z1,hW2];exact af.new W1 41 ps
 have HR1:Hid (W2.rangeAt w.heap.size 0 ss):=q1.range
 have HR2:Hid (W2.rangeAt (w.heap.size+1) 0 ps):=q2.range
 have l1:=q1.1
 have l2:=q2.1
 have BB:Below w.heap.size w W2:=ah B1 B2
 have HB2:Hid (Below w.heap.size w W2):=BB
 have hC:=zFV ss x ps p W2 (aK.ae.kept hs (Kept.below BB)) (aj.ae.kept hp (Kept.below BB)) hF hb1 hb2
 have HPd:Hid (∀ u,Below W2.heap.size W2 u->aj (fun _=>True) u ps p):=fun u hu=>aj.ae.kept hp (Kept.below (ah BB hu))
 have hil:(dw (aR x p.1)).length*208<=140737488351232:=by unfold dw;rw [List.length_map];exact hb1
 clear hs hp B1 B2 z1 q1 q2 BB hF hb1 hb2
 generalize aR x p.1=y at hC hf hil |-
 go_enter func6,ntmps6
 go_upto_region 1 with fail
 rw [<- hW1,<- hW2]
 clear hW1 hW2
 go_wp2_with (first | (refine wpList_load_mid rfl 29 _ rfl w.heap.size 0 rfl ss _ HR1.out underlying29 rfl mG ?_) | (refine wpList_load_mid rfl 41 _ rfl (w.heap.size+1) 0 rfl ps _ HR2.out underlying41 rfl ma ?_) | fail)
 refine hC.mono ?_
 rintro e u1 ⟨ia,ic,ds,Bs,Bp,Bl,Bq,b,m,c,rfl,si,hds,wS,d1⟩
 clear hC HR1 HR2 l1 l2
 generalize Gr:dw y=L at si hil |-
 have HIL:Hid (dw y=L):=Gr
 clear Gr
 obtain ⟨il,uJ⟩:∃ l,L.length=l:=⟨_,rfl⟩
 have HL:Hid (L.length=il):=uJ
 rw [uJ] at si hil |-
 clear uJ
 obtain ⟨Z,hZ⟩:∃ Z,Z=(u1.alloc (.cells #[.slice none 0 0,.slice none 0 0] 67)).setCells u1.heap.size 0 [.slice ia il ic,.slice (some ⟨Bq,0,none⟩) 4 4]:=⟨_,rfl⟩
 have eD:Hid ((u1.alloc (.cells #[.slice none 0 0,.slice none 0 0] 67)).there u1.heap.size 0 2):=(af.new u1 67 [.slice none 0 0,.slice none 0 0]).there
 have gz:Hid (af Z u1.heap.size [.slice ia il ic,.slice (some ⟨Bq,0,none⟩) 4 4]):=by rw [hZ];exact wH u1 67 [.slice none 0 0,.slice none 0 0] [.slice ia il ic,.slice (some ⟨Bq,0,none⟩) 4 4] rfl
 have HZ:Hid (Z=(u1.alloc (.cells #[.slice none 0 0,.slice none 0 0] 67)).setCells u1.heap.size 0 (([.slice ia il ic,.slice (some ⟨Bq,0,none⟩) 4 4]:List Value).toArray).toList):=hZ
 have H1:Hid ((([.slice ia il ic,.slice (some ⟨Bq,0,none⟩) 4 4]:List Value).toArray).all (·.oneCell')=true):=by simp [Hid,Value.oneCell']
 have d2:Below u1.heap.size u1 Z:=by rw [hZ];exact cu ((Below.refl _ _).alloc (Nat.le_refl _) _) (Nat.le_refl _)
 have hi2:(prog.info? 67).map (·.size)=some ([.slice ia il ic,.slice (some ⟨Bq,0,none⟩) 4 4]:List Value).length:=Ju
 have HZB:Hid (Below w.heap.size w Z):=ah HB2.out (ah d1 d2)
 have HU:Hid (∀ u,Below Z.heap.size Z u->ag aY 15 208 (fun _=>True) u ia il ic L/\aK (fun _=>True) u ds y/\aj (fun _=>True) u ps p/\ll (fun _=>True) ds y ps Bs Bp Bl Bq b m c u/\af u u1.heap.size [.slice ia il ic,.slice (some ⟨Bq,0,none⟩) 4 4]):=fun u hu=>⟨si.on aY.ae (ah d2 hu),aK.ae.kept hds (Kept.below (ah d2 hu)),HPd.out u (ah d1 (ah d2 hu)),wS.on (ah d2 hu),gz.out.on hu⟩
 have f0:=(gz.out.2 0 _ rfl).1
 have lZ:=gz.out.1
 have H0:Hid (Below Z.heap.size Z Z):=Below.refl _ _
 clear si hds wS hZ d1 d2 gz HPd HB2
 go_upto_region 2 with (first | (refine wpList_store_mid rfl 67 _ _ rfl u1.heap.size 0 (([.slice ia il ic,.slice (some ⟨Bq,0,none⟩) 4 4]:List Value).toArray) rfl rfl eD.out hi2 H1.out ?_;refine iJ HZ.out ?_) | fail)
 clear eD HZ H1
 go_wp2_with fail
 go_loopw [17] (fun j wr=>∃ k:Nat,k<=il/\j=.int .i64 k/\Hid (Below Z.heap.size Z wr/\∀ j,j<k->ay (L.getD j default).1.1 s=false)) (fun j _=>il - (intOf j).toNat)
 case atStart=>exact ⟨0,Nat.zero_le _,rfl,H0.out,fun j h=>by omega⟩
 case round =>
  obtain ⟨k,hk,rfl,hst⟩:=hrel
  have hbr:Below Z.heap.size Z wr:=hst.out.1
  obtain ⟨si,hds,R4,wS,qV⟩:=HU.out wr hbr
  by_cases hlt:k<il
  ·have hltz:(k:Int)<(il:Int):=by omega
   obtain ⟨B,off,wU,hBl,wT,xs,hrn,hv⟩:=si.get hlt
   subst wU
   have fK:Hid (k<L.length):=by rw [Hid,HL.out];exact hlt
   generalize F7:L.getD k default=x9 at hrn
   have Az:Hid (L.getD k default=x9):=F7
   clear F7
   obtain ⟨hsx,v1,v2,v3,v4,v5,v6,v7,v8,v9,v10,v11,v12,v13,v14,rfl⟩:=hrn.lY
   have HV:Hid (wr.rangeAt B (off+k*15) [.string x9.1.1,v1,v2,v3,v4,v5,v6,v7,v8,v9,v10,v11,v12,v13,v14]):=hv
   have hi:(prog.info? 70).map (·.size)=some ([.string x9.1.1,v1,v2,v3,v4,v5,v6,v7,v8,v9,v10,v11,v12,v13,v14]:List Value).length:=A9
   have H1:Hid ((([.string x9.1.1,v1,v2,v3,v4,v5,v6,v7,v8,v9,v10,v11,v12,v13,v14]:List Value).toArray).all (·.oneCell')=true):=all_oneCell_toArray (aY.ae.one hrn)
   obtain ⟨wb,hwb⟩:∃ wb,wb=(wr.alloc (.cells #[.string ⟨#[]⟩,.slice none 0 0,.slice none 0 0,.bool false,.int .i64 0,.int .i64 0,.int .i64 0,.int .i64 0,.int .i64 0,.slice none 0 0,.int .i64 0,.int .i64 0,.int .i64 0,.slice none 0 0,.slice none 0 0] 70)).setCells wr.heap.size 0 [.string x9.1.1,v1,v2,v3,v4,v5,v6,v7,v8,v9,v10,v11,v12,v13,v14]:=⟨_,rfl⟩
   have eD:Hid ((wr.alloc (.cells #[.string ⟨#[]⟩,.slice none 0 0,.slice none 0 0,.bool false,.int .i64 0,.int .i64 0,.int .i64 0,.int .i64 0,.int .i64 0,.slice none 0 0,.int .i64 0,.int .i64 0,.int .i64 0,.slice none 0 0,.slice none 0 0] 70)).there wr.heap.size 0 15):=(af.new wr 70 [.string ⟨#[]⟩,.slice none 0 0,.slice none 0 0,.bool false,.int .i64 0,.int .i64 0,.int .i64 0,.int .i64 0,.int .i64 0,.slice none 0 0,.int .i64 0,.int .i64 0,.int .i64 0,.slice none 0 0,.slice none 0 0]).there
   have gz:Hid (af wb wr.heap.size [.string x9.1.1,v1,v2,v3,v4,v5,v6,v7,v8,v9,v10,v11,v12,v13,v14]):=by rw [hwb];exact wH wr 70 [.string ⟨#[]⟩,.slice none 0 0,.slice none 0 0,.bool false,.int .i64 0,.int .i64 0,.int .i64 0,.int .i64 0,.int .i64 0,.slice none 0 0,.int .i64 0,.int .i64 0,.int .i64 0,.slice none 0 0,.slice none 0 0] [.string x9.1.1,v1,v2,v3,v4,v5,v6,v7,v8,v9,v10,v11,v12,v13,v14] rfl
   have hbb:Below wr.heap.size wr wb:=by rw [hwb];exact cu ((Below.refl _ _).alloc (Nat.le_refl _) _) (Nat.le_refl _)
   have eF:Hid (Below wr.heap.size wr wb):=hbb
   have gZ:Hid (wb=(wr.alloc (.cells #[.string ⟨#[]⟩,.slice none 0 0,.slice none 0 0,.bool false,.int .i64 0,.int .i64 0,.int .i64 0,.int .i64 0,.int .i64 0,.slice none 0 0,.int .i64 0,.int .i64 0,.int .i64 0,.slice none 0 0,.slice none 0 0] 70)).setCells wr.heap.size 0 (([.string x9.1.1,v1,v2,v3,v4,v5,v6,v7,v8,v9,v10,v11,v12,v13,v14]:List Value).toArray).toList):=hwb
   clear hwb
   have c0:=(gz.out.2 0 _ rfl).1
   have fE:Hid (wb.rangeAt wr.heap.size 0 [.string x9.1.1,v1,v2,v3,v4,v5,v6,v7,v8,v9,v10,v11,v12,v13,v14]):=gz.out.range
   have NU:Hid (wb.rangeAt u1.heap.size 0 [.slice (some ⟨B,off,none⟩) il ic,.slice (some ⟨Bq,0,none⟩) 4 4]):=(qV.on hbb).range
   have lV:=(qV.on hbb).1
   have hlb:=gz.out.1
   have hC:=zET (.slice (some ⟨B,off,none⟩) il ic) ds y ps p Bs Bp Bl Bq b m c [.string x9.1.1,v1,v2,v3,v4,v5,v6,v7,v8,v9,v10,v11,v12,v13,v14] x9 wb (aK.ae.kept hds (Kept.below hbb)) (aj.ae.kept R4 (Kept.below hbb)) (aY.ae.kept hrn (Kept.below hbb)) (wS.on hbb) hf
   have hq:(x9.1.1.toList == s.toList)=ay x9.1.1 s:=rfl
   obtain ⟨bo,pU⟩:∃ b,ay x9.1.1 s=b:=⟨_,rfl⟩
   rw [pU] at hq
   have vU:Hid (ay x9.1.1 s=bo):=pU
   clear pU hrn hv si hds R4 wS qV hbb gz
   cases bo
   ·go_wp2_with (first | (refine wpList_load_mid rfl 70 _ rfl B (off+k*15) rfl [.string x9.1.1,v1,v2,v3,v4,v5,v6,v7,v8,v9,v10,v11,v12,v13,v14] _ HV.out underlying70 rfl hi ?_) | (refine wpList_store_mid rfl 70 _ _ rfl wr.heap.size 0 (([.string x9.1.1,v1,v2,v3,v4,v5,v6,v7,v8,v9,v10,v11,v12,v13,v14]:List Value).toArray) rfl rfl eD.out hi H1.out ?_;refine iJ gZ.out ?_) | fail)
    clear hC
    have HN:Hid (Below Z.heap.size Z wb/\∀ j,j<k+1->ay (L.getD j default).1.1 s=false):=⟨ah hbr eF.out,fun j hj=>by
     by_cases e:j=k
     ·rw [e,Az.out];exact vU.out
     ·exact hst.out.2 j (by omega)⟩
    go_roundw
    case rel=>exact ⟨k+1,by omega,by go_num,HN⟩
    case measure=>simp [intOf];omega
   ·go_wp2_with (first | (refine wpList_load_mid rfl 70 _ rfl B (off+k*15) rfl [.string x9.1.1,v1,v2,v3,v4,v5,v6,v7,v8,v9,v10,v11,v12,v13,v14] _ HV.out underlying70 rfl hi ?_) | (refine wpList_store_mid rfl 70 _ _ rfl wr.heap.size 0 (([.string x9.1.1,v1,v2,v3,v4,v5,v6,v7,v8,v9,v10,v11,v12,v13,v14]:List Value).toArray) rfl rfl eD.out hi H1.out ?_;refine iJ gZ.out ?_) | (refine wpList_load_mid rfl 67 _ rfl u1.heap.size 0 rfl [.slice (some ⟨B,off,none⟩) il ic,.slice (some ⟨Bq,0,none⟩) 4 4] _ NU.out underlying67 rfl hi2 ?_) | (refine wpList_load_mid rfl 70 _ rfl wr.heap.size 0 rfl [.string x9.1.1,v1,v2,v3,v4,v5,v6,v7,v8,v9,v10,v11,v12,v13,v14] _ fE.out underlying70 rfl hi ?_) | fail)
    have HO:Hid (∀ e w',pq 4 (whyF y p x9) (zn y p x9) wb e w'->vI y p L s w e w'):=fun e w' h=>.inl ⟨k,fK.out,hst.out.2,by rw [Az.out];exact vU.out,by rw [Az.out];exact h.from (ah HZB.out (ah hbr eF.out))⟩
    refine hC.mono ?_
    clear hC
    intro e u5 hak
    have HAK:Hid (vI y p (dw y) s w e u5):=by rw [Hid,HIL.out];exact HO.out e u5 hak
    rcases hak with ⟨kk,_,_,_,rfl,_⟩ | ⟨_,a7,m7,c7,rfl,_,_⟩
    ·--M8
     clear HO
     go_wp2_with fail
     go_ret2
     exact HAK.out
    ·clear HO
     go_wp2_with fail
     go_ret2
     exact HAK.out
  ·obtain rfl:il=k:=by omega
   have HE:Hid (vI y p (dw y) s w (.returned (.tuple #[.int .i64 16,.slice none 0 0])) wr):=by
    rw [Hid,HIL.out]
    exact .inr ⟨by rw [HL.out];exact hst.out.2,rfl,ah HZB.out hbr⟩
   clear hst hbr si hds R4 wS qV
   go_wp2_with fail
   go_ret2
   exact HE.out
def sV (y:aP) (p:aB) (i:bC):Int×List bH :=
 if whyF y p i 0≠0 then (whyF y p i 0,[]) else if whyF y p i 1≠0 then (whyF y p i 1,[]) else if whyF y p i 2≠0 then (whyF y p i 2,[]) else if whyF y p i 3≠0 then (whyF y p i 3,[]) else (0,(iG p i y).1)
def jY (y:aP) (p:aB) (s:ByteArray):Int×List bH :=
 match (dw y).find? (fun i:bC=>ay i.1.1 s) with
 | none=>(16,[])
 | some i=>sV y p i
def UU (r:Int×List bH) (w:World) (e:Ending) (w':World):Prop:=∃ a n c,e=.returned (.tuple #[.int .i64 r.1,.slice a n c])/\ag ak 2 32 (fun _=>True) w' a n c r.2/\Below w.heap.size w w'
theorem pq.ans {y:aP} {p:aB} {i:bC} {w:World} {e:Ending} {w':World} (h:pq 4 (whyF y p i) (zn y p i) w e w'):UU (sV y p i) w e w':=by
 have hno:∀ {j:Nat},whyF y p i j=0->¬ (whyF y p i j≠0):=fun h h2=>h2 h
 rcases h with ⟨k,hk,h0,h1,rfl,hb⟩ | ⟨h0,a,m,c,rfl,hs,hb⟩
 ·have ha:sV y p i=(whyF y p i k,[]):=by
   unfold sV
   rcases (show k=0\/k=1\/k=2\/k=3 by omega) with rfl | rfl | rfl | rfl
   ·rw [if_pos h1]
   ·rw [if_neg (hno (h0 0 (by omega))),if_pos h1]
   ·rw [if_neg (hno (h0 0 (by omega))),if_neg (hno (h0 1 (by omega))),if_pos h1]
   ·rw [if_neg (hno (h0 0 (by omega))),if_neg (hno (h0 1 (by omega))),if_neg (hno (h0 2 (by omega))),if_pos h1]
  rw [ha]
  exact ⟨none,0,0,rfl,ag.nil _ _ _ _ (fun _=>rfl),hb⟩
 ·have ha:sV y p i=(0,(iG p i y).1):=by
   unfold sV
   rw [if_neg (hno (h0 0 (by omega))),if_neg (hno (h0 1 (by omega))),if_neg (hno (h0 2 (by omega))),if_neg (hno (h0 3 (by omega)))]
  rw [ha]
  rw [BN] at hs
  exact ⟨a,m,c,rfl,hs,hb⟩
theorem XY {α:Type} [Inhabited α] {f:α->Bool}:∀ {L:List α} {k:Nat},k<L.length->(∀ j,j<k->f (L.getD j default)=false)->f (L.getD k default)=true->L.find? f=some (L.getD k default)
 | [],k,h,_,_=>by simp at h
 | a :: L,0,_,_,h=>by
  rw [List.getD_cons_zero] at h |-
  rw [List.find?_cons,h]
 | a :: L,k+1,hk,h0,h=>by
  have h1:=h0 0 (by omega)
  rw [List.getD_cons_zero] at h1
  rw [List.getD_cons_succ] at h |-
  rw [List.find?_cons,h1]
  exact XY (by simpa using hk) (fun j hj=>by have:=h0 (j+1) (by omega);rwa [List.getD_cons_succ] at this) h
theorem XX {α:Type} [Inhabited α] {f:α->Bool}:∀ {L:List α},(∀ j,j<L.length->f (L.getD j default)=false)->L.find? f=none
 | [],_=>rfl
 | a :: L,h0=>by
  have h1:=h0 0 (by simp)
  rw [List.getD_cons_zero] at h1
  rw [List.find?_cons,h1]
  exact XX (fun j hj=>by have:=h0 (j+1) (by simpa using hj);rwa [List.getD_cons_succ] at this)
theorem vI.ans {y:aP} {p:aB} {s:ByteArray} {w:World} {e:Ending} {w':World} (h:vI y p (dw y) s w e w'):UU (jY y p s) w e w':=by
 unfold jY
 rcases h with ⟨k,hk,h0,h1,h2⟩ | ⟨h0,rfl,hb⟩
 ·rw [XY (f:=fun i:bC=>ay i.1.1 s) hk h0 h1]
  exact h2.ans
 ·rw [XX (f:=fun i:bC=>ay i.1.1 s) h0]
  exact ⟨none,0,0,rfl,ag.nil _ _ _ _ (fun _=>rfl),hb⟩
structure tF (x:aP) (p:aB):Prop where
 grp:∀ s,vH (fZ (aS (aR x p.1).1) s)
 dK:(aZ (aR x p.1).2.1).length*208<=140737488351232
 pod:(aR x p.1).1.length*320<=140737488351232
 ask:AQ (aR x p.1) p
theorem Be (ss:List Value) (x:aP) (ps:List Value) (p:aB) (s:ByteArray) (w:World) (hs:aK (fun _=>True) w ss x) (hp:aj (fun _=>True) w ps p) (hf:tF x p) :
  Calls prog 6 #[.agg ss.toArray,.agg ps.toArray,.string s] w (UU (jY (aR x p.1) p s) w) :=
 (zEu ss x ps p s w hs hp hf.grp hf.dK hf.pod hf.ask).mono (fun _ _ h=>h.ans)
theorem Me {α:Type} (f:α->Nat) (g:α->Bool):∀ L:List α,bg f (L.filter g)<=bg f L
 | []=>Nat.le_refl _
 | a :: L=>by
  have h:=Me f g L
  rw [List.filter_cons]
  unfold bg at *
  split
  ·simp only [List.map_cons,List.sum_cons];omega
  ·simp only [List.map_cons,List.sum_cons];omega
theorem YO (f:aB->Nat) (L:List aB):bg f (aS L)<=bg f L:=by
 have:=Cq f L []
 unfold aS
 simpa [bg] using this
theorem LU {α:Type} {f g:α->Nat} (h:∀ x,f x<=g x):∀ L:List α,bg f L<=bg g L
 | []=>Nat.le_refl _
 | a :: L=>by
  have:=LU h L
  have:=h a
  unfold bg at *
  simp only [List.map_cons,List.sum_cons]
  omega
theorem P7 {st:VC} {K:List dI} {NL:List aG}:∀ {claims:List ByteArray} {out l:List bH},planL st K NL claims out=.ok l->l.length<=out.length+claims.length
 | [],out,l,h=>by
  unfold planL at h
  cases h
  simp
 | c :: claims,out,l,h=>by
  unfold planL at h
  cases e:gD st K NL (out.map Prod.snd) c with
  | error x=>rw [e] at h;cases h
  | ok o =>
   rw [e] at h
   cases o with
   | none =>
    have:=P7 h
    simp only [List.length_cons]
    omega
   | some pk =>
    have:=P7 h
    simp only [List.length_cons,List.length_append,List.length_nil] at *
    omega
theorem Fj (p:aB) (i:bC) (y:aP):(iG p i y).1.length<=(ky p).length:=by
 unfold iG sH
 cases e:planL (bK Prod.fst (gL y),iR y) (tN y) (iN i) (bK id (ky p)) [] with
 | error x=>simp
 | ok l =>
  have h1:=P7 e
  have h2:=El id (ky p)
  simp only
  split
  ·simp
  ·simp only [List.length_nil] at h1;show l.length<=_;omega
theorem Es {α:Type}:∀ L:List α,bg (fun _=>1) L=L.length
 | []=>rfl
 | _ :: L=>by have:=Es L;simp only [bg,List.map_cons,List.sum_cons,List.length_cons] at this |-;omega
def fH (x:aB):Nat:=1+(iB x).length+(jI x).length+(bB x).length+(iH x).length
theorem zH8 (p:aB):ky p=iH p:=rfl
theorem Ep {x:aP} {p:aB} (h:bg fH x.1+x.2.1.length+fH p<=16777216):tF x p:=by
 have hb:∀ f:aB->Nat,(∀ q,f q<=fH q)->bg f (aR x p.1).1<=bg fH x.1:=fun f hf=>by
  have h1:=YO f (x.1.filter (fun q:aB=>!hasB ay [p.1] q.1))
  have h2:=Me f (fun q:aB=>!hasB ay [p.1] q.1) x.1
  have h3:=LU hf x.1
  show bg f (aS (x.1.filter (fun q:aB=>!hasB ay [p.1] q.1)))<=_
  omega
 have hl:(aR x p.1).1.length<=bg fH x.1:=by
  have h1:=hb (fun _=>1) (fun q=>by unfold fH;omega)
  rw [Es] at h1
  exact h1
 have hn:(aZ (aR x p.1).2.1).length<=x.2.1.length:=Nat.le_trans (ED _) (ED _)
 refine ⟨fun s=>?_,by omega,by omega,?_,?_,?_,fun i=>?_⟩
 ·have h1:∀ f:aB->Nat,(∀ q,f q<=fH q)->bg f (fZ (aS (aR x p.1).1) s)<=bg fH x.1:=fun f hf=>by
   have h1:=Me f (fun q=>ay (aF q) s && !ay (aF q) ⟨#[]⟩) (aS (aR x p.1).1)
   have h2:=YO f (aR x p.1).1
   have h3:=hb f hf
   unfold fZ
   omega
  have p1:=h1 (fun q=>(iB q).length) (fun q=>by unfold fH;omega)
  have p2:=h1 (fun q=>(iH q).length) (fun q=>by unfold fH;omega)
  exact ⟨by omega,by omega⟩
 ·unfold fH at h;omega
 ·unfold fH at h;omega
 ·have h1:cost (dz (aR x p.1))<=bg fH x.1:=by
   have h2:=hb (fun q=>1+(bB q).length) (fun q=>by unfold fH;omega)
   have h3:=Me (fun q:aB=>1+(bB q).length) (fun q=>!ay (aF q) ⟨#[]⟩) (aR x p.1).1
   have h4:cost (dz (aR x p.1))=bg (fun q:aB=>1+(bB q).length) ((aR x p.1).1.filter (fun q=>!ay (aF q) ⟨#[]⟩)):=by
    unfold cost dz bg
    rw [List.map_map]
    rfl
   omega
  omega
 ·have h1:=Fj p i (aR x p.1)
  rw [zH8] at h1
  unfold fH at h
  omega
theorem zHh {A0 A1 A2 A3 A4 A5:Where} {w u:World} {g0 g1 g2 g3 g4 g5:Value} {x:aP} (r0:Row aj 16 A0 w u 41 g0 x.1) (r1:Row av 9 A1 w u 56 g1 x.2.1) (r2:Row ai 5 A2 w u 59 g2 x.2.2.1) (r3:Row aA 4 A3 w u 124 g3 x.2.2.2.1) (r4:Row aH 2 A4 w u 180 g4 x.2.2.2.2.1) (r5:Row aI 3 A5 w u 62 g5 x.2.2.2.2.2) {A:Where} {wz:World} {cs:List Value} {y:aP} (hR:aK A wz cs y) (e0:x.1.length<=y.1.length) (e1:x.2.1.length<=y.2.1.length) (e2:x.2.2.1.length<=y.2.2.1.length) (e3:x.2.2.2.1.length<=y.2.2.2.1.length) (e4:x.2.2.2.2.1.length<=y.2.2.2.2.1.length) (e5:x.2.2.2.2.2.length<=y.2.2.2.2.2.length) :
  aK (fun _=>True) u [g0,g1,g2,g3,g4,g5] x:=by
 obtain ⟨h0,h1,h2,h3,h4,h5,-,s0,s1,s2,s3,s4,s5⟩:=hR.out
 have b0:=s0.2.2.2.1
 have b1:=s1.2.2.2.1
 have b2:=s2.2.2.2.1
 have b3:=s3.2.2.2.1
 have b4:=s4.2.2.2.1
 have b5:=s5.2.2.2.1
 have l0:=s0.1
 have l1:=s1.1
 have l2:=s2.1
 have l3:=s3.1
 have l4:=s4.1
 have l5:=s5.1
 obtain ⟨a0,n0,m0,rfl,t0⟩:=r0.iW (bytes:=296) aj.ae (by omega)
 obtain ⟨a1,n1,m1,rfl,t1⟩:=r1.iW (bytes:=112) av.ae (by omega)
 obtain ⟨a2,n2,m2,rfl,t2⟩:=r2.iW (bytes:=80) ai.ae (by omega)
 obtain ⟨a3,n3,m3,rfl,t3⟩:=r3.iW (bytes:=56) aA.ae (by omega)
 obtain ⟨a4,n4,m4,rfl,t4⟩:=r4.iW (bytes:=24) aH.ae (by omega)
 obtain ⟨a5,n5,m5,rfl,t5⟩:=r5.iW (bytes:=48) aI.ae (by omega)
 exact aK.mk (x:=x) (h0:=(a0,n0,m0)) (h1:=(a1,n1,m1)) (h2:=(a2,n2,m2)) (h3:=(a3,n3,m3)) (h4:=(a4,n4,m4)) (h5:=(a5,n5,m5)) t0 t1 t2 t3 t4 t5
abbrev lX (n:UInt8) (c:Int):aB:=(⟨#[n]⟩,0,[],(c,0,0),[],[],[],[],[],[],[],[],⟨#[]⟩,⟨#[]⟩)
abbrev jD (n:UInt8) (c:Int):List Value:=[.string ⟨#[n]⟩,.int .i64 0,.slice none 0 0,.int .i64 c,.int .i64 0,.int .i64 0,.slice none 0 0,.slice none 0 0,.slice none 0 0,.slice none 0 0,.slice none 0 0,.slice none 0 0,.slice none 0 0,.slice none 0 0,.string ⟨#[]⟩,.string ⟨#[]⟩]
abbrev Dk:List Value:=[.string ⟨#[110]⟩,.slice none 0 0,.slice none 0 0,.bool false,.int .i64 1000,.int .i64 0,.int .i64 0,.int .i64 9,.int .i64 0]
def mP:aP:=([lX 97 500,lX 98 600],[(⟨#[110]⟩,[],[],false,(1000,0,0),9,0)],[],[],[],[])
theorem oO {α:Type} [Inhabited α] {R:bI α} {k bytes:Nat} (A:Where) (u:World):ag R k bytes A u none 0 0 []:=⟨rfl,Nat.le_refl _,fun _=>rfl,by omega,fun h=>absurd h (Nat.lt_irrefl _)⟩
theorem Xd {α:Type} [Inhabited α] {R:bI α} {k bytes:Nat} {A:Where} {u:World} {B n:Nat} {cs:List Value} {L:List α} (hb:af u B cs) (hA:A B) (hn:L.length=n) (hby:n*bytes<=140737488351232) (h:∀ i,i<n->∃ ds,R A u ds (L.getD i default)/\∀ j v,ds[j]?=some v->cs[i*k+j]?=some v):ag R k bytes A u (some ⟨B,0,none⟩) n n L :=
 ⟨hn,Nat.le_refl _,(fun e=>by cases e),hby,fun _=>⟨B,0,rfl,hb.1,hA,fun i hi=>by
  obtain ⟨ds,h1,h2⟩:=h i hi
  refine ⟨ds,h1,fun j v hj=>?_⟩
  have:=(hb.2 _ _ (h2 j v hj)).1
  rwa [Nat.zero_add]⟩⟩
theorem KT (n:UInt8):(⟨#[n]⟩:ByteArray).size<=140737488355328:=by show 1<=_;omega
theorem K5:(⟨#[]⟩:ByteArray).size<=140737488355328:=by decide
theorem Eh (A:Where) (u:World) (n:UInt8) (c:Int):aj A u (jD n c) (lX n c) :=
 aj.mk (x:=lX n c) (h2:=(none,0,0)) (h6:=(none,0,0)) (h7:=(none,0,0)) (h8:=(none,0,0)) (h9:=(none,0,0)) (h10:=(none,0,0)) (h11:=(none,0,0)) (h12:=(none,0,0)) (aO:=(none,0,0)) (KT _) (oO _ _) (oO _ _) (oO _ _) (oO _ _) (oO _ _) (oO _ _) (oO _ _) (oO _ _) (oO _ _) K5 K5
abbrev smC (b:Nat):List Value:=[.slice (some ⟨b+1,0,none⟩) 2 2,.slice (some ⟨b,0,none⟩) 1 1,.slice none 0 0,.slice none 0 0,.slice none 0 0,.slice none 0 0]
theorem sm_at {u:World} {b:Nat} (q1:af u b Dk) (q2:af u (b+1) (jD 97 500++jD 98 600)):aK (fun _=>True) u (smC b) mP:=by
 have sN:ag av 9 112 (fun _=>True) u (some ⟨b,0,none⟩) 1 1 mP.2.1:=Xd q1 trivial rfl (by decide) (fun i hi=>by
  obtain rfl:i=0:=by omega
  exact ⟨_,av.mk (x:=(⟨#[110]⟩,[],[],false,(1000,0,0),9,0)) (h1:=(none,0,0)) (h2:=(none,0,0)) (KT _) (oO _ _) (oO _ _),fun j v hj=>by rw [Nat.zero_mul,Nat.zero_add];exact hj⟩)
 have sP:ag aj 16 296 (fun _=>True) u (some ⟨b+1,0,none⟩) 2 2 mP.1:=Xd q2 trivial rfl (by decide) (fun i hi=>by
  rcases (show i=0\/i=1 by omega) with rfl | rfl
  ·exact ⟨_,Eh _ _ 97 500,fun j v hj=>by
    rw [Nat.zero_mul,Nat.zero_add,List.getElem?_append_left (List.getElem?_eq_some_iff.1 hj).1];exact hj⟩
  ·exact ⟨_,Eh _ _ 98 600,fun j v hj=>by
    rw [List.getElem?_append_right (by show 16<=_;omega)]
    show (jD 98 600)[1*16+j - 16]?=some v
    rw [show 1*16+j - 16=j by omega];exact hj⟩)
 exact aK.mk (x:=mP) (h0:=(some ⟨b+1,0,none⟩,2,2)) (h1:=(some ⟨b,0,none⟩,1,1)) (h2:=(none,0,0)) (h3:=(none,0,0)) (h4:=(none,0,0)) (h5:=(none,0,0)) sP sN (oO _ _) (oO _ _) (oO _ _) (oO _ _)
def WQ (w:World) (e:Ending) (u:World):Prop:=∃ b,e=.returned (.agg #[.slice (some ⟨b+1,0,none⟩) 2 2,.slice (some ⟨b,0,none⟩) 1 1,.slice none 0 0,.slice none 0 0,.slice none 0 0,.slice none 0 0])/\af u b Dk/\af u (b+1) (jD 97 500++jD 98 600)/\w.heap.size<=b/\Below w.heap.size w u
theorem zGK (w:World):Calls prog 8 #[] w (WQ w):=by
 go_enter func8,ntmps8
 go_wp2_with fail
 obtain ⟨W1,hW1⟩:∃ W,W=w.alloc (.cells #[.slice (some ⟨w.heap.size+1+1,0,none⟩) 2 2,.slice (some ⟨w.heap.size+1,0,none⟩) 1 1,.slice none 0 0,.slice none 0 0,.slice none 0 0,.slice none 0 0] 29):=⟨_,rfl⟩
 obtain ⟨W2,hW2⟩:∃ W,W=W1.alloc (.cells #[.string ⟨#[110]⟩,.slice none 0 0,.slice none 0 0,.bool false,.int .i64 1000,.int .i64 0,.int .i64 0,.int .i64 9,.int .i64 0] 56):=⟨_,rfl⟩
 obtain ⟨W3,hW3⟩:∃ W,W=W2.alloc (.cells #[.string ⟨#[97]⟩,.int .i64 0,.slice none 0 0,.int .i64 500,.int .i64 0,.int .i64 0,.slice none 0 0,.slice none 0 0,.slice none 0 0,.slice none 0 0,.slice none 0 0,.slice none 0 0,.slice none 0 0,.slice none 0 0,.string ⟨#[]⟩,.string ⟨#[]⟩,.string ⟨#[98]⟩,.int .i64 0,.slice none 0 0,.int .i64 600,.int .i64 0,.int .i64 0,.slice none 0 0,.slice none 0 0,.slice none 0 0,.slice none 0 0,.slice none 0 0,.slice none 0 0,.slice none 0 0,.slice none 0 0,.string ⟨#[]⟩,.string ⟨#[]⟩] 41):=⟨_,rfl⟩
 rw [<- hW1,<- hW2,<- hW3]
 have B1:Below w.heap.size w W1:=by rw [hW1];exact (Below.refl _ _).alloc (Nat.le_refl _) _
 have B2:Below W1.heap.size W1 W2:=by rw [hW2];exact (Below.refl _ _).alloc (Nat.le_refl _) _
 have B3:Below W2.heap.size W2 W3:=by rw [hW3];exact (Below.refl _ _).alloc (Nat.le_refl _) _
 have z1:W1.heap.size=w.heap.size+1:=by rw [hW1];simp
 have z2:W2.heap.size=w.heap.size+1+1:=by rw [hW2];simp [z1]
 have q0:af W3 w.heap.size [.slice (some ⟨w.heap.size+1+1,0,none⟩) 2 2,.slice (some ⟨w.heap.size+1,0,none⟩) 1 1,.slice none 0 0,.slice none 0 0,.slice none 0 0,.slice none 0 0]:=by refine af.on (af.on ?_ B2) B3;rw [hW1];exact af.new w 29 _
 have q1:af W3 (w.heap.size+1) Dk:=by refine af.on ?_ B3;rw [<- z1,hW2];exact af.new W1 56 _
 have q2:af W3 (w.heap.size+1+1) (jD 97 500++jD 98 600):=by rw [<- z2,hW3];exact af.new W2 41 _
 have HE:Hid (af W3 (w.heap.size+1) Dk/\af W3 (w.heap.size+1+1) (jD 97 500++jD 98 600)/\Below w.heap.size w W3):=⟨q1,q2,ah (ah B1 B2) B3⟩
 have e0:=(q0.2 0 _ rfl).1
 have e1:=(q0.2 1 _ rfl).1
 have e2:=(q0.2 2 _ rfl).1
 have e3:=(q0.2 3 _ rfl).1
 have e4:=(q0.2 4 _ rfl).1
 have e5:=(q0.2 5 _ rfl).1
 clear hW1 hW2 hW3 q0 q1 q2 B1 B2 B3 z1 z2
 refine bodyPost_ret (v:=.agg #[.slice (some ⟨w.heap.size+1+1,0,none⟩) 2 2,.slice (some ⟨w.heap.size+1,0,none⟩) 1 1,.slice none 0 0,.slice none 0 0,.slice none 0 0,.slice none 0 0]) (by simp [results,Tryz.results8,go_sem,e0,e1,e2,e3,e4,e5,Result.andThen]) rfl ?_
 exact ⟨w.heap.size+1,rfl,HE.out.1,HE.out.2.1,by omega,HE.out.2.2⟩
theorem Hf {y y':aP} (h2:dz y'=dz y) (h3:y'.2=y.2) (p:aB) (i:bC):sV y' p i=sV y p i:=by
 have hw:∀ j,whyF y' p i j=whyF y p i j:=fun j=>by
  match j with
  | 0=>rfl
  | 1=>show wP p (iN i) (dz y')=wP p (iN i) (dz y);rw [h2]
  | 2=>show nR 12 p (iN i) y'.2.1 (dz y')=nR 12 p (iN i) y.2.1 (dz y);rw [h2,h3]
  | _+3=>show (iG p i y').2=(iG p i y).2;unfold iG;unfold gL iR tN;rw [h3]
 have hp:(iG p i y').1=(iG p i y).1:=by unfold iG;unfold gL iR tN;rw [h3]
 unfold sV
 rw [hw 0,hw 1,hw 2,hw 3,hp]
theorem Ht {y y':aP} (h1:dw y'=dw y) (h2:dz y'=dz y) (h3:y'.2=y.2) (p:aB) (s:ByteArray):jY y' p s=jY y p s:=by
 unfold jY
 rw [h1]
 cases (dw y).find? (fun i:bC=>ay i.1.1 s) with
 | none=>rfl
 | some i=>exact Hf h2 h3 p i
theorem YF (L:List aB) (q:aB):aS (L++[q])=dD (aS L) q:=by unfold aS;rw [List.foldl_append];rfl
theorem Tw {F:List aB} {q:aB} (hq:aF q=⟨#[]⟩) (s:ByteArray):fZ (dD F q) s=fZ F s:=by
 unfold dD
 split
 ·rfl
 ·unfold fZ
  have h0:ay (aF q) ⟨#[]⟩=true:=(eZ _ _).2 hq
  rw [List.filter_append,List.filter_cons,h0]
  simp
theorem YK (x:aP) (q:aB) (nm:ByteArray):aR (x.1++[q],x.2) nm=if ay nm q.1=true then aR x nm else (dD (aR x nm).1 q,(aR x nm).2):=by
 unfold aR
 have h0:hasB ay [nm] q.1=ay nm q.1:=by unfold hasB;simp
 simp only [List.filter_append,List.filter_cons,List.filter_nil,h0]
 cases ay nm q.1 with
 | true=>simp
 | false=>simp [YF]
theorem Pm (x:aP) (q:aB) (hq:aF q=⟨#[]⟩) (p:aB) (s:ByteArray):jY (aR (x.1++[q],x.2) p.1) p s=jY (aR x p.1) p s:=by
 rw [YK]
 split
 ·rfl
 ·refine Ht (y:=aR x p.1) (y':=(dD (aR x p.1).1 q,(aR x p.1).2)) ?_ ?_ rfl p s
  ·unfold dw
   refine List.map_congr_left (fun n _=>?_)
   congr 1
   show fZ (aS (dD (aR x p.1).1 q)) n.1=_
   have h1:aS (dD (aR x p.1).1 q)=aS (aR x p.1).1\/aS (dD (aR x p.1).1 q)=dD (aS (aR x p.1).1) q:=by
    unfold dD
    split
    ·exact .inl rfl
    ·exact .inr (YF _ _)
   rcases h1 with h1 | h1
   ·rw [h1]
   ·rw [h1,Tw hq]
  ·unfold dz
   congr 1
   show (dD (aR x p.1).1 q).filter _=_
   unfold dD
   split
   ·rfl
   ·rw [List.filter_append,List.filter_cons,(eZ (aF q) ⟨#[]⟩).2 hq]
    simp
theorem Kl (x:aP) (q:aB) (nm:ByteArray) (hq:q.1=nm):aR (x.1++[q],x.2) nm=aR x nm:=by
 rw [YK,if_pos ((eZ _ _).2 hq.symm)]
end Go.Proofs.YtgikfenllgldoaaGreat
