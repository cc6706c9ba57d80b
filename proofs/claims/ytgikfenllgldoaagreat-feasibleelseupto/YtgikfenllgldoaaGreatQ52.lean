/- Functions of the program, each walked under the conditions that its theorem names. -/
import Derived.Test.YtgikfenllgldoaaGreatQ51
import Derived.Test.YtgikfenllgldoaaGreatQ49
set_option linter.unusedSimpArgs false
set_option maxRecDepth 100000
set_option maxHeartbeats 32000000
namespace Go.Proofs.YtgikfenllgldoaaGreat
open Go.Proofs.Tryz
open Go.ChangeShapes Go.WideShapes Go.ChangeAt Go.RowKit
theorem zG6:jB (bN aC 1 8) (bg (fun _=>1)) 36:=EF aC.ae underlying36 (by kernel_rfl) (by kernel_rfl) (by decide) (bY.m oP)
theorem zG7:jB (bN au 1 16) (bg (fun _=>1)) 39:=EF au.ae underlying39 (by kernel_rfl) (by kernel_rfl) (by decide) (bY.m kG)
theorem YQ:jB (bN bT 2 40) (bg (fun _=>1)) 37:=EF bT.ae underlying37 (by kernel_rfl) (by kernel_rfl) (by decide) (bY.m zHX)
def oZ (x:aB):Nat:=1+(1+(1+(1+(1+(1+(1+(bg (fun _=>1) (iB x)+(bg (fun _=>1) (jI x)+(bg (fun _=>1) (bB x)+(1+(bg (fun _=>1) (iH x)+(1+1))))))))))))
theorem Qn:jB aj oZ 41:=by
 intro H enc W base n sp held cs x hx hl
 obtain ⟨y,hy,hm⟩:=(Y0 (total:=16) underlying41 (by kernel_rfl) (nK (mm:=1) rfl (by kernel_rfl) (bY.m kG) (nK (mm:=2) rfl (by kernel_rfl) (bY.m oP) (nK (mm:=3) rfl (by kernel_rfl) (bY.m YZ) (nK (mm:=6) rfl (by kernel_rfl) (bY.m XI) (nK (mm:=7) rfl (by kernel_rfl) (bY.m zFG) (nK (mm:=8) rfl (by kernel_rfl) (bY.m Bi) (nK (mm:=9) rfl (by kernel_rfl) (bY.m zDF) (nK (mm:=10) rfl (by kernel_rfl) zG6 (nK (mm:=11) rfl (by kernel_rfl) YQ (nK (mm:=12) rfl (by kernel_rfl) YQ (nK (mm:=13) rfl (by kernel_rfl) (bY.m zDG) (nK (mm:=14) rfl (by kernel_rfl) zG7 (nK (mm:=15) rfl (by kernel_rfl) (bY.m kG) (Y1 rfl (by kernel_rfl) (bY.m kG)))))))))))))))) hx hl
 exact ⟨y,hy,hm⟩
def rJ (x:aP):Nat:=bg oZ x.1+(bg (fun _=>1) x.2.1+(1+(1+(1+1))))
theorem zEF:jB (bN aj 16 296) (bg oZ) 22:=EF aj.ae underlying22 (by kernel_rfl) (by kernel_rfl) (by decide) Qn
theorem zDD:jB (bN av 9 112) (bg fun _=>1) 23:=EF av.ae underlying23 (by kernel_rfl) (by kernel_rfl) (by decide) zHW.m
theorem zEE:jB aK rJ 29:=by
 intro H enc W base n sp held cs x hx hl
 obtain ⟨y,hy,hm⟩:=(Y0 (total:=6) underlying29 (by kernel_rfl) (nK (mm:=1) rfl (by kernel_rfl) zEF (nK (mm:=2) rfl (by kernel_rfl) zDD (nK (mm:=3) rfl (by kernel_rfl) (bY.m zDH) (nK (mm:=4) rfl (by kernel_rfl) (bY.m zEG) (nK (mm:=5) rfl (by kernel_rfl) (bY.m zEH) (Y1 rfl (by kernel_rfl) (bY.m zDE)))))))) hx hl
 exact ⟨y,hy,hm⟩
theorem PR (p:aB):fH p<=oZ p:=by unfold fH oZ;simp only [Es];omega
theorem He (x:aP):bg fH x.1+x.2.1.length<=rJ x:=by
 have h:=LU PR x.1
 unfold rJ
 simp only [Es]
 omega
theorem Qj {α:Type} {R:bI α} {m:α->Nat} {t:TypeId} {fs:Array Field} (hu:prog.underlying t=some (.struct fs)) (h:jB R m t) {H:Type} {enc:TypeId×Value->H} {W:World} {base b0:Nat} {r:Reach} {sp:Nat->Bool} {held:Bool} {v:Value} {d:DataW H} {p:List MemPlace}
  (hv:Value.okWide prog W r b0 t v) (hd:DataW.Trod enc prog W base sp held t v d p) (hl:Light d t):∃ cs y,v=.agg cs/\R (fun _=>True) W cs.toList y/\m y<=Rows.uptoBulk d:=by
 obtain ⟨cs,fuel,e,hf⟩:=PE hu hv hd
 obtain ⟨y,hy,hm⟩:=h hf hl
 exact ⟨cs,y,e,hy,hm⟩
end Go.Proofs.YtgikfenllgldoaaGreat
namespace Go.Proofs.YtgikfenllgldoaaGreat
open Go.Proofs.Tryz
open Go.RowKit Go.Maps
def BD:aP:=pg mP 0 ⟨#[110]⟩
theorem U9:jY (aR mP ⟨#[97]⟩) (lX 97 500) ⟨#[110]⟩=(0,[]):=by kernel_rfl
theorem U8:jY (aR BD ⟨#[98]⟩) (lX 98 600) ⟨#[110]⟩=(6,[]):=by kernel_rfl
theorem U0:jY (aR mP ⟨#[97]⟩) (lX 97 500) ⟨#[120]⟩=(16,[]):=by kernel_rfl
theorem Qx:tF mP (lX 97 500):=Ep (by decide)
theorem aaa:tF BD (lX 98 600):=Ep (by decide)
theorem Qz:fI (mP.1.map Prod.fst) ⟨#[97]⟩=some 0:=by kernel_rfl
theorem aac:fI (mP.2.1.map Prod.fst) ⟨#[110]⟩=some 0:=by kernel_rfl
theorem aab:ay (aF (mP.1.getD 0 default)) ⟨#[]⟩=true:=by kernel_rfl
theorem Qy:applyP (gL mP,iR mP) []=.ok ([],[]):=by kernel_rfl
theorem IC {w u:World} {e:Ending} {cs:List Value} {A:Where} {wz:World} (hR:aK A wz cs mP) (h:tH mP ⟨#[97]⟩ ⟨#[110]⟩ [] w e u):∃ ds,e=.returned (.tuple #[.agg ds.toArray,.int .i64 0])/\aK (fun _=>True) u ds BD/\ds.length=6/\Below w.heap.size w u:=by
 rcases h with ⟨h | h,_⟩ | ⟨k,j,hk,hj,h⟩
 ·rw [Qz] at h;cases h
 ·rw [aac] at h;cases h
 ·rw [Qz] at hk
  injection hk with hk
  subst hk
  rcases h with ⟨h,_⟩ | ⟨_,⟨v,st,g0,g1,g2,g3,g4,g5,hv,ha,rfl,r2,r3,_,r0,r1,r4,r5⟩ | ⟨k,ha,_⟩⟩
  ·rw [aab] at h;cases h
  ·rw [Qy] at ha
   injection ha with ha
   subst ha
   exact ⟨[g0,g1,g2,g3,g4,g5],rfl,zHh (x:=BD) r0 r1 r2 r3 r4 r5 hR (by decide) (by decide) (by decide) (by decide) (by decide) (by decide),rfl,r0.below⟩
  ·rw [Qy] at ha;cases ha
theorem zH5 {u:World} {B:Nat} {A C:List Value} (h:af u B (A++C)):u.rangeAt B 0 A:=fun j v hj=>by
 have:=h.range j v (by rw [List.getElem?_append_left (List.getElem?_eq_some_iff.1 hj).1];exact hj)
 exact this
theorem zFr {u:World} {B:Nat} {A C:List Value} (h:af u B (A++C)) {n:Nat} (hn:A.length=n):u.rangeAt B n C:=fun j v hj=>by
 have:=h.range (n+j) v (by rw [List.getElem?_append_right (by omega),show n+j - A.length=j by omega];exact hj)
 rwa [Nat.zero_add] at this
theorem PX (b:Nat):(prog.info? 29).map (·.size)=some ([.slice (some ⟨b+1,0,none⟩) 2 2,.slice (some ⟨b,0,none⟩) 1 1,.slice none 0 0,.slice none 0 0,.slice none 0 0,.slice none 0 0]:List Value).length:=oN
theorem zEV (w:World):Calls prog 4 #[] w fun e w'=>e=.returned (.bool true)/\Below w.heap.size w w':=by
 have hCs:=zGK w
 go_enter func4,ntmps4
 go_wp2_with fail
 refine hCs.mono ?_
 rintro e w1 ⟨b,rfl,q1,q2,hb,b1⟩
 clear hCs
 go_upto_region 2 with fail
 obtain ⟨W1,hW1⟩:∃ W,W=w1.alloc (.cells #[.slice (some ⟨b+1,0,none⟩) 2 2,.slice (some ⟨b,0,none⟩) 1 1,.slice none 0 0,.slice none 0 0,.slice none 0 0,.slice none 0 0] 29):=⟨_,rfl⟩
 rw [<- hW1]
 have B1:Below w1.heap.size w1 W1:=by rw [hW1];exact (Below.refl _ _).alloc (Nat.le_refl _) _
 have qX:af W1 w1.heap.size [.slice (some ⟨b+1,0,none⟩) 2 2,.slice (some ⟨b,0,none⟩) 1 1,.slice none 0 0,.slice none 0 0,.slice none 0 0,.slice none 0 0]:=by rw [hW1];exact af.new w1 29 _
 obtain ⟨X,hX⟩:∃ X,X=w1.heap.size:=⟨_,rfl⟩
 rw [<- hX] at qX |-
 have HU:Hid (∀ u,Below W1.heap.size W1 u->u.cell? ⟨X,0,none⟩=some (.slice (some ⟨b+1,0,none⟩) 2 2)/\aK (fun _=>True) u [.slice (some ⟨b+1,0,none⟩) 2 2,.slice (some ⟨b,0,none⟩) 1 1,.slice none 0 0,.slice none 0 0,.slice none 0 0,.slice none 0 0] mP/\u.rangeAt X 0 [.slice (some ⟨b+1,0,none⟩) 2 2,.slice (some ⟨b,0,none⟩) 1 1,.slice none 0 0,.slice none 0 0,.slice none 0 0,.slice none 0 0]/\u.rangeAt (b+1) 0 (jD 97 500)/\u.rangeAt (b+1) 16 (jD 98 600)/\Below w.heap.size w u):=fun u hu=>by
  have h2:=q2.on (ah B1 hu)
  exact ⟨((qX.on hu).2 0 _ rfl).1,sm_at (q1.on (ah B1 hu)) h2,(qX.on hu).range,zH5 h2,zFr h2 rfl,ah b1 (ah B1 hu)⟩
 clear hW1 q1 q2 hb b1 B1 qX hX
 refine t0 (fun z=>Below W1.heap.size W1 z) (Below.refl _ _).drew (fun gH=>?_)
 generalize hwd:W1.drew=wd at gH |-
 clear hwd
 try go_frame
 refine tq 0 (.agg (List.toArray [.slice (some ⟨b+1,0,none⟩) 2 2,.slice (some ⟨b,0,none⟩) 1 1,.slice none 0 0,.slice none 0 0,.slice none 0 0,.slice none 0 0])) (yieldsIf_load_mid (by rfl) 29 _ rfl X 0 rfl [.slice (some ⟨b+1,0,none⟩) 2 2,.slice (some ⟨b,0,none⟩) 1 1,.slice none 0 0,.slice none 0 0,.slice none 0 0,.slice none 0 0] _ (fun u hu=>(HU.out u hu).2.2.1) underlying29 rfl (PX b)) ?_ (hi:=rfl)
 try go_frame
 refine tp 1 ?_
 try go_frame
 refine' tk 2 ?_ ?_;rotate_left
 ·intro u hu;have f0:=(HU.out u hu).1;clear hu;go_simp;try with_reducible rfl
 try go_frame
 refine tp 3 ?_
 try go_frame
 refine tq 4 (.agg (List.toArray (jD 97 500))) (yieldsIf_load_mid (by rfl) 41 _ rfl (b+1) 0 rfl (jD 97 500) _ (fun u hu=>(HU.out u hu).2.2.2.1) underlying41 rfl kY) ?_ (hi:=rfl)
 try go_frame
 have hC:=Be [.slice (some ⟨b+1,0,none⟩) 2 2,.slice (some ⟨b,0,none⟩) 1 1,.slice none 0 0,.slice none 0 0,.slice none 0 0,.slice none 0 0] mP (jD 97 500) (lX 97 500) ⟨#[110]⟩ wd (HU.out wd gH).2.1 (Eh _ _ 97 500) Qx
 rw [show (lX 97 500).1=⟨#[97]⟩ from rfl,U9] at hC
 refine tr 5 (fun K hK=>?_)
 go_simp
 refine hC.mono ?_
 rintro e w2 ⟨aa,nn,cc,rfl,_,b8⟩
 have b9:=ah gH b8
 go_wp2_with fail
 refine hK.out _ _ b9 (fun gI=>?_)
 clear hK K gH hC;have gH:=gI;clear gI
 try go_frame
 refine tp 6 ?_
 try go_frame
 refine tp 7 ?_
 try go_frame
 refine tp 8 ?_
 try go_frame
 refine tp 9 ?_
 try go_frame
 refine tp 10 ?_
 try go_frame
 refine tz ?_
 have b2:Below W1.heap.size W1 w2:=gH
 have HR2:Hid (w2.rangeAt X 0 [.slice (some ⟨b+1,0,none⟩) 2 2,.slice (some ⟨b,0,none⟩) 1 1,.slice none 0 0,.slice none 0 0,.slice none 0 0,.slice none 0 0]):=(HU.out w2 b2).2.2.1
 have hB:=zH4 [.slice (some ⟨b+1,0,none⟩) 2 2,.slice (some ⟨b,0,none⟩) 1 1,.slice none 0 0,.slice none 0 0,.slice none 0 0,.slice none 0 0] mP ⟨#[97]⟩ ⟨#[110]⟩ none 0 0 [] w2 (HU.out w2 b2).2.1 (KT _) (oO _ _)
 clear gH b9 b8
 go_wp2_with (first | (refine wpList_load_mid rfl 29 _ rfl X 0 rfl [.slice (some ⟨b+1,0,none⟩) 2 2,.slice (some ⟨b,0,none⟩) 1 1,.slice none 0 0,.slice none 0 0,.slice none 0 0,.slice none 0 0] _ HR2.out underlying29 rfl (PX b) ?_) | fail)
 refine hB.mono ?_
 intro e w3 h3
 obtain ⟨ds,rfl,hT,_,b3⟩:=IC (HU.out w2 b2).2.1 h3
 clear hB h3 HR2
 obtain ⟨⟨a0,n0,m0⟩,⟨a1,n1,m1⟩,⟨a2,n2,m2⟩,⟨a3,n3,m3⟩,⟨a4,n4,m4⟩,⟨a5,n5,m5⟩,rfl,-⟩:=hT.out
 simp only at hT |-
 go_upto_region 4 with fail
 obtain ⟨W4,lH⟩:∃ W,W=w3.alloc (.cells #[.slice a0 n0 m0,.slice a1 n1 m1,.slice a2 n2 m2,.slice a3 n3 m3,.slice a4 n4 m4,.slice a5 n5 m5] 29):=⟨_,rfl⟩
 rw [<- lH]
 have B4:Below w3.heap.size w3 W4:=by rw [lH];exact (Below.refl _ _).alloc (Nat.le_refl _) _
 have qY:af W4 w3.heap.size [.slice a0 n0 m0,.slice a1 n1 m1,.slice a2 n2 m2,.slice a3 n3 m3,.slice a4 n4 m4,.slice a5 n5 m5]:=by rw [lH];exact af.new w3 29 _
 obtain ⟨Y,hY⟩:∃ Y,Y=w3.heap.size:=⟨_,rfl⟩
 rw [<- hY] at qY |-
 have HV:Hid (∀ u,Below W4.heap.size W4 u->aK (fun _=>True) u [.slice a0 n0 m0,.slice a1 n1 m1,.slice a2 n2 m2,.slice a3 n3 m3,.slice a4 n4 m4,.slice a5 n5 m5] BD/\u.rangeAt Y 0 [.slice a0 n0 m0,.slice a1 n1 m1,.slice a2 n2 m2,.slice a3 n3 m3,.slice a4 n4 m4,.slice a5 n5 m5]/\Below W1.heap.size W1 u):=fun u hu=>⟨aK.ae.kept hT (Kept.below (ah B4 hu)),(qY.on hu).range,ah b2 (ah b3 (ah B4 hu))⟩
 clear lH B4 qY hY hT b3 b2
 refine t0 (fun z=>Below W4.heap.size W4 z) (Below.refl _ _).drew (fun gH=>?_)
 generalize hwd:W4.drew=wd at gH |-
 clear hwd
 try go_frame
 refine tq 0 (.agg (List.toArray [.slice a0 n0 m0,.slice a1 n1 m1,.slice a2 n2 m2,.slice a3 n3 m3,.slice a4 n4 m4,.slice a5 n5 m5])) (yieldsIf_load_mid (by rfl) 29 _ rfl Y 0 rfl [.slice a0 n0 m0,.slice a1 n1 m1,.slice a2 n2 m2,.slice a3 n3 m3,.slice a4 n4 m4,.slice a5 n5 m5] _ (fun u hu=>(HV.out u hu).2.1) underlying29 rfl oN) ?_ (hi:=rfl)
 try go_frame
 refine tp 1 ?_
 try go_frame
 refine' tk 2 ?_ ?_;rotate_left
 ·intro u hu;have f0:=(HU.out u (HV.out u hu).2.2).1;clear hu;go_simp;try with_reducible rfl
 try go_frame
 refine tp 3 ?_
 try go_frame
 refine tq 4 (.agg (List.toArray (jD 98 600))) (yieldsIf_load_mid (by rfl) 41 _ rfl (b+1) 16 rfl (jD 98 600) _ (fun u hu=>(HU.out u (HV.out u hu).2.2).2.2.2.2.1) underlying41 rfl kY) ?_ (hi:=rfl)
 try go_frame
 have hC:=Be [.slice a0 n0 m0,.slice a1 n1 m1,.slice a2 n2 m2,.slice a3 n3 m3,.slice a4 n4 m4,.slice a5 n5 m5] BD (jD 98 600) (lX 98 600) ⟨#[110]⟩ wd (HV.out wd gH).1 (Eh _ _ 98 600) aaa
 rw [show (lX 98 600).1=⟨#[98]⟩ from rfl,U8] at hC
 refine tr 5 (fun K hK=>?_)
 go_simp
 refine hC.mono ?_
 rintro e w5 ⟨aa,nn,cc,rfl,_,b8⟩
 have b9:=ah gH b8
 go_wp2_with fail
 refine hK.out _ _ b9 (fun gI=>?_)
 clear hK K gH hC;have gH:=gI;clear gI
 try go_frame
 refine tp 6 ?_
 try go_frame
 refine tp 7 ?_
 try go_frame
 refine tp 8 ?_
 try go_frame
 refine tp 9 ?_
 try go_frame
 refine tp 10 ?_
 try go_frame
 refine tz ?_
 have B5:Below W1.heap.size W1 w5:=(HV.out w5 gH).2.2
 clear HV gH b9 b8
 go_upto_region 5 with fail
 refine t0 (fun z=>Below w5.heap.size w5 z) (Below.refl _ _).drew (fun gH=>?_)
 generalize hwd:w5.drew=wd at gH |-
 clear hwd
 try go_frame
 refine tq 0 (.agg (List.toArray [.slice (some ⟨b+1,0,none⟩) 2 2,.slice (some ⟨b,0,none⟩) 1 1,.slice none 0 0,.slice none 0 0,.slice none 0 0,.slice none 0 0])) (yieldsIf_load_mid (by rfl) 29 _ rfl X 0 rfl [.slice (some ⟨b+1,0,none⟩) 2 2,.slice (some ⟨b,0,none⟩) 1 1,.slice none 0 0,.slice none 0 0,.slice none 0 0,.slice none 0 0] _ (fun u hu=>(HU.out u (ah B5 hu)).2.2.1) underlying29 rfl (PX b)) ?_ (hi:=rfl)
 try go_frame
 refine tp 1 ?_
 try go_frame
 refine' tk 2 ?_ ?_;rotate_left
 ·intro u hu;have f0:=(HU.out u (ah B5 hu)).1;clear hu;go_simp;try with_reducible rfl
 try go_frame
 refine tp 3 ?_
 try go_frame
 refine tq 4 (.agg (List.toArray (jD 97 500))) (yieldsIf_load_mid (by rfl) 41 _ rfl (b+1) 0 rfl (jD 97 500) _ (fun u hu=>(HU.out u (ah B5 hu)).2.2.2.1) underlying41 rfl kY) ?_ (hi:=rfl)
 try go_frame
 have hC:=Be [.slice (some ⟨b+1,0,none⟩) 2 2,.slice (some ⟨b,0,none⟩) 1 1,.slice none 0 0,.slice none 0 0,.slice none 0 0,.slice none 0 0] mP (jD 97 500) (lX 97 500) ⟨#[120]⟩ wd (HU.out wd (ah B5 gH)).2.1 (Eh _ _ 97 500) Qx
 rw [show (lX 97 500).1=⟨#[97]⟩ from rfl,U0] at hC
 refine tr 5 (fun K hK=>?_)
 go_simp
 refine hC.mono ?_
 rintro e w6 ⟨aa,nn,cc,rfl,_,b8⟩
 have b9:=ah gH b8
 go_wp2_with fail
 refine hK.out _ _ b9 (fun gI=>?_)
 clear hK K gH hC;have gH:=gI;clear gI
 try go_frame
 refine tp 6 ?_
 try go_frame
 refine tp 7 ?_
 try go_frame
 refine tp 8 ?_
 try go_frame
 refine tp 9 ?_
 try go_frame
 refine tp 10 ?_
 try go_frame
 refine tz ?_
 have HF:Hid (Below w.heap.size w w6):=(HU.out w6 (ah B5 gH)).2.2.2.2.2
 clear HU B5 gH b9 b8
 go_wp2_with fail
 go_ret
 exact ⟨rfl,HF.out⟩
end Go.Proofs.YtgikfenllgldoaaGreat
