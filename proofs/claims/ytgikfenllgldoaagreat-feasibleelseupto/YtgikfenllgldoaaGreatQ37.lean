/- Functions of the program, each walked under the conditions that its theorem names. -/
import Derived.Lib.AppendZeros
import Derived.Test.YtgikfenllgldoaaGreatQ31
import Derived.Test.YtgikfenllgldoaaGreatQ32
set_option linter.unusedSimpArgs false
set_option maxRecDepth 100000
set_option maxHeartbeats 32000000
namespace Go.Proofs.YtgikfenllgldoaaGreat
open Go.Proofs.Tryz
open Go.RowKit Go.Maps
theorem X9 (u:World) (x y:Int):ag aC 1 8 (fun _=>True) (u.alloc (.cells #[.int .i64 x,.int .i64 y] 3)) (some ⟨u.heap.size,0,none⟩) 2 2 [x,y]:=by
 have hq:=af.new u 3 [.int .i64 x,.int .i64 y]
 refine ⟨rfl,Nat.le_refl _,(fun h=>by cases h),by decide,fun _=>⟨u.heap.size,0,rfl,hq.1,trivial,fun i hi=>?_⟩⟩
 rcases (show i=0\/i=1 by omega) with rfl | rfl
 ·exact ⟨[.int .i64 x],rfl,fun j v hj=>by
   have h0:j<1:=(List.getElem?_eq_some_iff.1 hj).1
   obtain rfl:j=0:=by omega
   have:v=.int .i64 x:=by simpa using hj.symm
   subst this
   exact (hq.2 0 _ rfl).1⟩
 ·exact ⟨[.int .i64 y],rfl,fun j v hj=>by
   have h0:j<1:=(List.getElem?_eq_some_iff.1 hj).1
   obtain rfl:j=0:=by omega
   have:v=.int .i64 y:=by simpa using hj.symm
   subst this
   exact (hq.2 1 _ rfl).1⟩
theorem zDw (a:Option Addr) (n cap bp:Nat) (A:Where) (L:List aD) (i j:Nat) (w:World) (hL:Hid (ag ai 5 bp A w a n cap L)) (hi:i<n) (hj:j<n) :
  Calls prog 144 #[.slice a n cap,.int .i64 (i:Int),.int .i64 (j:Int)] w fun e w'=>e=.returned (.int .i64 (ry (L.getD i default) (L.getD j default)))/\Below w.heap.size w w':=by
 obtain ⟨B,off,rfl,hB,_,xs,hr,hv⟩:=hL.out.get hi
 obtain ⟨B',off',e',_,_,ys,hr',hv'⟩:=hL.out.get hj
 obtain ⟨rfl,rfl⟩:B=B'/\off=off':=by simpa using e'
 have hlx:=ai.ae.len hr
 have Gh:=ai.ae.len hr'
 have HOx:Hid (xs.toArray.all (·.oneCell')=true):=Bo (ai.ae.one hr)
 have HOy:Hid (ys.toArray.all (·.oneCell')=true):=Bo (ai.ae.one hr')
 have hix:(prog.info? 59).map (·.size)=some xs.length:=by rw [hlx];exact wI
 have ZV:(prog.info? 59).map (·.size)=some ys.length:=by rw [Gh];exact wI
 have Sr:(prog.info? 59).map (·.size)=some xs.toArray.size:=by simpa using hix
 have Sq:(prog.info? 59).map (·.size)=some ys.toArray.size:=by simpa using ZV
 have HS:Hid (∀ u,Below w.heap.size w u->u.rangeAt B (off+i*5) xs/\u.rangeAt B (off+j*5) ys):=fun u hb=>⟨fun k v hk=>(hb.cell hB).trans (hv k v hk),fun k v hk=>(hb.cell hB).trans (hv' k v hk)⟩
 obtain ⟨QD,QC,_⟩:=hr.kE
 obtain ⟨EJ,QB,_⟩:=hr'.kE
 have HZ:Hid (orP [Lib.compareInt (L.getD i default).2.1 (L.getD j default).2.1,Lib.compareBytes (L.getD i default).1.data.toList (L.getD j default).1.data.toList]=ry (L.getD i default) (L.getD j default)):=Pt _ _
 have hiz:(i:Int)<(n:Int):=by omega
 have hjz:(j:Int)<(n:Int):=by omega
 clear hL hr hr' hv hv' hB e'
 generalize ry (L.getD i default) (L.getD j default)=c at HZ
 generalize (L.getD i default).1=p0 at QD HZ
 generalize (L.getD i default).2.1=p1 at QC HZ
 generalize (L.getD j default).1=q0 at EJ HZ
 generalize (L.getD j default).2.1=q1 at QB HZ
 go_enter func144,ntmps144
 go_upto_region 1 with fail
 refine t0 (fun u=>Below w.heap.size w u) (Below.refl _ _).drew (fun gH=>?_)
 generalize hwd:w.drew=wd at gH |-
 have ed:wd.heap.size=w.heap.size:=by rw [<- hwd];rfl
 clear hwd
 try go_frame
 refine tp 0 ?_
 try go_frame
 refine tp 1 ?_
 try go_frame
 refine tp 2 ?_
 try go_frame
 refine tq 3 (.agg xs.toArray) (yieldsIf_load_mid (by rfl) 59 _ rfl B (off+i*5) rfl xs _ (fun u hu=>(HS.out u hu).1) underlying59 rfl hix) ?_ (hi:=rfl)
 try go_frame
 refine tp 4 ?_
 try go_frame
 refine tp 5 ?_
 try go_frame
 refine tp 6 ?_
 try go_frame
 refine tq 7 (.agg ys.toArray) (yieldsIf_load_mid (by rfl) 59 _ rfl B (off+j*5) rfl ys _ (fun u hu=>(HS.out u hu).2) underlying59 rfl ZV) ?_ (hi:=rfl)
 try go_frame
 refine tb 8 9 (fun K hK=>?_) (fun K hK=>?_)
 ·go_simp
  obtain ⟨U1,lK⟩:∃ U1,U1=wd.alloc (.cells #[.string ⟨#[]⟩,.int .i64 0,.string ⟨#[]⟩,.slice none 0 0,.string ⟨#[]⟩] 59):=⟨_,rfl⟩
  have GI:Below wd.heap.size wd U1:=by rw [lK];exact (Below.refl _ _).alloc (Nat.le_refl _) _
  have hb1:Below w.heap.size w U1:=ah gH GI
  have g1:af U1 wd.heap.size [.string ⟨#[]⟩,.int .i64 0,.string ⟨#[]⟩,.slice none 0 0,.string ⟨#[]⟩]:=by rw [lK];exact af.new wd 59 [.string ⟨#[]⟩,.int .i64 0,.string ⟨#[]⟩,.slice none 0 0,.string ⟨#[]⟩]
  refine hK.out _ _ (lK ▸ hb1) (fun gI=>?_)
  rw [<- lK] at gI |-
  clear hK K gH;have gH:=gI;clear gI
  try go_frame
  have gs:U1.heap.size=w.heap.size+1:=by rw [lK];simp [ed]
  clear lK
  refine tr 9 (fun K hK=>?_)
  go_simp
  obtain ⟨U2,lJ⟩:∃ U2,U2=U1.alloc (.cells #[.string ⟨#[]⟩,.int .i64 0,.string ⟨#[]⟩,.slice none 0 0,.string ⟨#[]⟩] 59):=⟨_,rfl⟩
  have Af:Below U1.heap.size U1 U2:=by rw [lJ];exact (Below.refl _ _).alloc (Nat.le_refl _) _
  have hb2:Below w.heap.size w U2:=ah hb1 Af
  have g2:af U2 U1.heap.size [.string ⟨#[]⟩,.int .i64 0,.string ⟨#[]⟩,.slice none 0 0,.string ⟨#[]⟩]:=by rw [lJ];exact af.new U1 59 [.string ⟨#[]⟩,.int .i64 0,.string ⟨#[]⟩,.slice none 0 0,.string ⟨#[]⟩]
  refine hK.out _ _ (lJ ▸ hb2) (fun gI=>?_)
  rw [<- lJ] at gI |-
  clear hK K gH;have gH:=gI;clear gI
  try go_frame
  clear lJ
  have g1:=g1.on Af
  rw [gs] at g2
  rw [ed] at g1
  have z1:=g1
  have z2:=g2
  try rw [gs]
  try rw [ed]
  refine ts 10 (fun K hK=>?_)
  obtain ⟨U3,pX⟩:∃ U3,U3=U2.setCells w.heap.size 0 xs:=⟨_,rfl⟩
  refine fP (by rfl) (wp_store_mid 59 _ _ rfl (w.heap.size) 0 xs.toArray rfl rfl (by rw [show xs.toArray.size=5 by simp [hlx]];exact z1.there) Sr HOx.out ?_)
  have x1:af U3 w.heap.size xs:=by rw [pX];exact dL z1 (by rw [hlx];rfl)
  have x2:af U3 (w.heap.size+1) [.string ⟨#[]⟩,.int .i64 0,.string ⟨#[]⟩,.slice none 0 0,.string ⟨#[]⟩]:=by rw [pX];exact z2.kept (A:=fun b=>b≠w.heap.size) (dP (fun h=>h rfl)) (by omega)
  have b3:Below w.heap.size w U3:=by rw [pX];exact cu hb2 (by omega)
  have e3:U3=U2.setCells w.heap.size 0 xs.toArray.toList:=by rw [pX]
  rw [<- e3]
  refine hK.out _ _ b3 (fun gI=>?_)
  clear hK K gH;have gH:=gI;clear gI
  try go_frame
  clear e3 pX
  refine ts 11 (fun K hK=>?_)
  obtain ⟨U4,uL⟩:∃ U4,U4=U3.setCells (w.heap.size+1) 0 ys:=⟨_,rfl⟩
  refine fP (by rfl) (wp_store_mid 59 _ _ rfl ((w.heap.size+1)) 0 ys.toArray rfl rfl (by rw [show ys.toArray.size=5 by simp [Gh]];exact x2.there) Sq HOy.out ?_)
  have y2:af U4 (w.heap.size+1) ys:=by rw [uL];exact dL x2 (by rw [Gh];rfl)
  have y1:af U4 w.heap.size xs:=by rw [uL];exact x1.kept (A:=fun b=>b≠(w.heap.size+1)) (dP (fun h=>h rfl)) (by omega)
  have b4:Below w.heap.size w U4:=by rw [uL];exact cu b3 (by omega)
  have e4:U4=U3.setCells (w.heap.size+1) 0 ys.toArray.toList:=by rw [uL]
  rw [<- e4]
  refine hK.out _ _ b4 (fun gI=>?_)
  clear hK K gH;have gH:=gI;clear gI
  try go_frame
  clear e4 uL
  refine tz ?_
  have HQ:Hid (∀ u,Below U4.heap.size U4 u->u.cell? ⟨w.heap.size,0,none⟩=some (.string p0)/\u.cell? ⟨w.heap.size,1,none⟩=some (.int .i64 p1)/\u.cell? ⟨(w.heap.size+1),0,none⟩=some (.string q0)/\u.cell? ⟨(w.heap.size+1),1,none⟩=some (.int .i64 q1)):=fun u hb=>⟨((y1.on hb).2 0 _ QD).1,((y1.on hb).2 1 _ QC).1,((y2.on hb).2 0 _ EJ).1,((y2.on hb).2 1 _ QB).1⟩
  have nC:Hid (Below w.heap.size w U4):=b4
  clear gH z1 z2 x1 x2 y1 y2 b3 b4 hb1 hb2 GI Af g1 g2 gs HS
  go_upto_region 2 with fail
  refine t0 (fun u=>Below U4.heap.size U4 u) (Below.refl _ _).drew (fun gH=>?_)
  generalize F8:U4.drew=we at gH |-
  clear F8
  try go_frame
  refine' tk 0 ?_ ?_;rotate_left
  ·intro u hu;obtain ⟨f1,f2,f3,f4⟩:=HQ.out u hu;clear hu;go_simp;try with_reducible rfl
  try go_frame
  refine' tk 1 ?_ ?_;rotate_left
  ·intro u hu;obtain ⟨f1,f2,f3,f4⟩:=HQ.out u hu;clear hu;go_simp;try with_reducible rfl
  try go_frame
  refine' tk 2 ?_ ?_;rotate_left
  ·intro u hu;obtain ⟨f1,f2,f3,f4⟩:=HQ.out u hu;clear hu;go_simp;try with_reducible rfl
  try go_frame
  refine' tk 3 ?_ ?_;rotate_left
  ·intro u hu;obtain ⟨f1,f2,f3,f4⟩:=HQ.out u hu;clear hu;go_simp;try with_reducible rfl
  try go_frame
  refine' tk 5 ?_ ?_;rotate_left
  ·intro u hu;obtain ⟨f1,f2,f3,f4⟩:=HQ.out u hu;clear hu;go_simp;try with_reducible rfl
  try go_frame
  refine' tk 6 ?_ ?_;rotate_left
  ·intro u hu;obtain ⟨f1,f2,f3,f4⟩:=HQ.out u hu;clear hu;go_simp;try with_reducible rfl
  try go_frame
  refine' tk 7 ?_ ?_;rotate_left
  ·intro u hu;obtain ⟨f1,f2,f3,f4⟩:=HQ.out u hu;clear hu;go_simp;try with_reducible rfl
  try go_frame
  refine' tk 8 ?_ ?_;rotate_left
  ·intro u hu;obtain ⟨f1,f2,f3,f4⟩:=HQ.out u hu;clear hu;go_simp;try with_reducible rfl
  try go_frame
  refine tr 4 (fun K hK=>?_)
  go_simp
  refine (Tryz.cmp_Compare_int p1 q1 _).mono ?_
  rintro e wf ⟨rfl,rfl⟩
  go_wp2_with fail
  refine hK.out _ _ gH (fun gI=>?_)
  clear hK K gH;have gH:=gI;clear gI
  try go_frame
  refine tr 9 (fun K hK=>?_)
  go_simp
  refine (Tryz.strings_Compare p0 q0 _).mono ?_
  rintro e wg ⟨rfl,rfl⟩
  go_wp2_with fail
  refine hK.out _ _ gH (fun gI=>?_)
  clear hK K gH;have gH:=gI;clear gI
  try go_frame
  generalize hZ1:Lib.compareInt p1 q1=k1
  generalize hZ2:Lib.compareBytes p0.data.toList q0.data.toList=k2
  refine tr 10 (fun K hK=>?_)
  go_simp
  obtain ⟨U5,ow⟩:∃ U5,U5=wg.alloc (.cells #[.int .i64 k1,.int .i64 k2] 3):=⟨_,rfl⟩
  have b5:Below U4.heap.size U4 U5:=by rw [ow];exact ah gH ((Below.refl _ _).alloc (Nat.le_refl _) _)
  have s5:ag aC 1 8 (fun _=>True) U5 (some ⟨wg.heap.size,0,none⟩) 2 2 [k1,k2]:=by rw [ow];exact X9 wg k1 k2
  refine hK.out _ _ (ow ▸ b5) (fun gI=>?_)
  rw [<- ow] at gI |-
  clear hK K gH;have gH:=gI;clear gI
  try go_frame
  clear ow
  refine tr 11 (fun K hK=>?_)
  go_simp
  refine (Xg _ _ _ _ _ _ s5).mono ?_
  rintro e u ⟨rfl,rfl⟩
  go_wp2_with fail
  refine hK.out _ _ gH (fun gI=>?_)
  clear hK K gH;have gH:=gI;clear gI
  try go_frame
  refine tp 12 ?_
  try go_frame
  refine tz ?_
  go_wp2_with fail
  go_ret
  exact ⟨by rw [<- HZ.out,hZ1,hZ2];rfl,ah nC.out gH⟩
 ·go_simp
  obtain ⟨U1,lK⟩:∃ U1,U1=wd.alloc (.cells #[.string ⟨#[]⟩,.int .i64 0,.string ⟨#[]⟩,.slice none 0 0,.string ⟨#[]⟩] 59):=⟨_,rfl⟩
  have GI:Below wd.heap.size wd U1:=by rw [lK];exact (Below.refl _ _).alloc (Nat.le_refl _) _
  have hb1:Below w.heap.size w U1:=ah gH GI
  have g1:af U1 wd.heap.size [.string ⟨#[]⟩,.int .i64 0,.string ⟨#[]⟩,.slice none 0 0,.string ⟨#[]⟩]:=by rw [lK];exact af.new wd 59 [.string ⟨#[]⟩,.int .i64 0,.string ⟨#[]⟩,.slice none 0 0,.string ⟨#[]⟩]
  refine hK.out _ _ (lK ▸ hb1) (fun gI=>?_)
  rw [<- lK] at gI |-
  clear hK K gH;have gH:=gI;clear gI
  try go_frame
  have gs:U1.heap.size=w.heap.size+1:=by rw [lK];simp [ed]
  clear lK
  refine tr 8 (fun K hK=>?_)
  go_simp
  obtain ⟨U2,lJ⟩:∃ U2,U2=U1.alloc (.cells #[.string ⟨#[]⟩,.int .i64 0,.string ⟨#[]⟩,.slice none 0 0,.string ⟨#[]⟩] 59):=⟨_,rfl⟩
  have Af:Below U1.heap.size U1 U2:=by rw [lJ];exact (Below.refl _ _).alloc (Nat.le_refl _) _
  have hb2:Below w.heap.size w U2:=ah hb1 Af
  have g2:af U2 U1.heap.size [.string ⟨#[]⟩,.int .i64 0,.string ⟨#[]⟩,.slice none 0 0,.string ⟨#[]⟩]:=by rw [lJ];exact af.new U1 59 [.string ⟨#[]⟩,.int .i64 0,.string ⟨#[]⟩,.slice none 0 0,.string ⟨#[]⟩]
  refine hK.out _ _ (lJ ▸ hb2) (fun gI=>?_)
  rw [<- lJ] at gI |-
  clear hK K gH;have gH:=gI;clear gI
  try go_frame
  clear lJ
  have g1:=g1.on Af
  rw [gs] at g2
  rw [ed] at g1
  have z1:=g2
  have z2:=g1
  try rw [gs]
  try rw [ed]
  refine ts 10 (fun K hK=>?_)
  obtain ⟨U3,pX⟩:∃ U3,U3=U2.setCells (w.heap.size+1) 0 xs:=⟨_,rfl⟩
  refine fP (by rfl) (wp_store_mid 59 _ _ rfl ((w.heap.size+1)) 0 xs.toArray rfl rfl (by rw [show xs.toArray.size=5 by simp [hlx]];exact z1.there) Sr HOx.out ?_)
  have x1:af U3 (w.heap.size+1) xs:=by rw [pX];exact dL z1 (by rw [hlx];rfl)
  have x2:af U3 w.heap.size [.string ⟨#[]⟩,.int .i64 0,.string ⟨#[]⟩,.slice none 0 0,.string ⟨#[]⟩]:=by rw [pX];exact z2.kept (A:=fun b=>b≠(w.heap.size+1)) (dP (fun h=>h rfl)) (by omega)
  have b3:Below w.heap.size w U3:=by rw [pX];exact cu hb2 (by omega)
  have e3:U3=U2.setCells (w.heap.size+1) 0 xs.toArray.toList:=by rw [pX]
  rw [<- e3]
  refine hK.out _ _ b3 (fun gI=>?_)
  clear hK K gH;have gH:=gI;clear gI
  try go_frame
  clear e3 pX
  refine ts 11 (fun K hK=>?_)
  obtain ⟨U4,uL⟩:∃ U4,U4=U3.setCells w.heap.size 0 ys:=⟨_,rfl⟩
  refine fP (by rfl) (wp_store_mid 59 _ _ rfl (w.heap.size) 0 ys.toArray rfl rfl (by rw [show ys.toArray.size=5 by simp [Gh]];exact x2.there) Sq HOy.out ?_)
  have y2:af U4 w.heap.size ys:=by rw [uL];exact dL x2 (by rw [Gh];rfl)
  have y1:af U4 (w.heap.size+1) xs:=by rw [uL];exact x1.kept (A:=fun b=>b≠w.heap.size) (dP (fun h=>h rfl)) (by omega)
  have b4:Below w.heap.size w U4:=by rw [uL];exact cu b3 (by omega)
  have e4:U4=U3.setCells w.heap.size 0 ys.toArray.toList:=by rw [uL]
  rw [<- e4]
  refine hK.out _ _ b4 (fun gI=>?_)
  clear hK K gH;have gH:=gI;clear gI
  try go_frame
  clear e4 uL
  refine tz ?_
  have HQ:Hid (∀ u,Below U4.heap.size U4 u->u.cell? ⟨(w.heap.size+1),0,none⟩=some (.string p0)/\u.cell? ⟨(w.heap.size+1),1,none⟩=some (.int .i64 p1)/\u.cell? ⟨w.heap.size,0,none⟩=some (.string q0)/\u.cell? ⟨w.heap.size,1,none⟩=some (.int .i64 q1)):=fun u hb=>⟨((y1.on hb).2 0 _ QD).1,((y1.on hb).2 1 _ QC).1,((y2.on hb).2 0 _ EJ).1,((y2.on hb).2 1 _ QB).1⟩
  have nC:Hid (Below w.heap.size w U4):=b4
  clear gH z1 z2 x1 x2 y1 y2 b3 b4 hb1 hb2 GI Af g1 g2 gs HS
  go_upto_region 2 with fail
  refine t0 (fun u=>Below U4.heap.size U4 u) (Below.refl _ _).drew (fun gH=>?_)
  generalize F8:U4.drew=we at gH |-
  clear F8
  try go_frame
  refine' tk 0 ?_ ?_;rotate_left
  ·intro u hu;obtain ⟨f1,f2,f3,f4⟩:=HQ.out u hu;clear hu;go_simp;try with_reducible rfl
  try go_frame
  refine' tk 1 ?_ ?_;rotate_left
  ·intro u hu;obtain ⟨f1,f2,f3,f4⟩:=HQ.out u hu;clear hu;go_simp;try with_reducible rfl
  try go_frame
  refine' tk 2 ?_ ?_;rotate_left
  ·intro u hu;obtain ⟨f1,f2,f3,f4⟩:=HQ.out u hu;clear hu;go_simp;try with_reducible rfl
  try go_frame
  refine' tk 3 ?_ ?_;rotate_left
  ·intro u hu;obtain ⟨f1,f2,f3,f4⟩:=HQ.out u hu;clear hu;go_simp;try with_reducible rfl
  try go_frame
  refine' tk 5 ?_ ?_;rotate_left
  ·intro u hu;obtain ⟨f1,f2,f3,f4⟩:=HQ.out u hu;clear hu;go_simp;try with_reducible rfl
  try go_frame
  refine' tk 6 ?_ ?_;rotate_left
  ·intro u hu;obtain ⟨f1,f2,f3,f4⟩:=HQ.out u hu;clear hu;go_simp;try with_reducible rfl
  try go_frame
  refine' tk 7 ?_ ?_;rotate_left
  ·intro u hu;obtain ⟨f1,f2,f3,f4⟩:=HQ.out u hu;clear hu;go_simp;try with_reducible rfl
  try go_frame
  refine' tk 8 ?_ ?_;rotate_left
  ·intro u hu;obtain ⟨f1,f2,f3,f4⟩:=HQ.out u hu;clear hu;go_simp;try with_reducible rfl
  try go_frame
  refine tr 4 (fun K hK=>?_)
  go_simp
  refine (Tryz.cmp_Compare_int p1 q1 _).mono ?_
  rintro e wf ⟨rfl,rfl⟩
  go_wp2_with fail
  refine hK.out _ _ gH (fun gI=>?_)
  clear hK K gH;have gH:=gI;clear gI
  try go_frame
  refine tr 9 (fun K hK=>?_)
  go_simp
  refine (Tryz.strings_Compare p0 q0 _).mono ?_
  rintro e wg ⟨rfl,rfl⟩
  go_wp2_with fail
  refine hK.out _ _ gH (fun gI=>?_)
  clear hK K gH;have gH:=gI;clear gI
  try go_frame
  generalize hZ1:Lib.compareInt p1 q1=k1
  generalize hZ2:Lib.compareBytes p0.data.toList q0.data.toList=k2
  refine tr 10 (fun K hK=>?_)
  go_simp
  obtain ⟨U5,ow⟩:∃ U5,U5=wg.alloc (.cells #[.int .i64 k1,.int .i64 k2] 3):=⟨_,rfl⟩
  have b5:Below U4.heap.size U4 U5:=by rw [ow];exact ah gH ((Below.refl _ _).alloc (Nat.le_refl _) _)
  have s5:ag aC 1 8 (fun _=>True) U5 (some ⟨wg.heap.size,0,none⟩) 2 2 [k1,k2]:=by rw [ow];exact X9 wg k1 k2
  refine hK.out _ _ (ow ▸ b5) (fun gI=>?_)
  rw [<- ow] at gI |-
  clear hK K gH;have gH:=gI;clear gI
  try go_frame
  clear ow
  refine tr 11 (fun K hK=>?_)
  go_simp
  refine (Xg _ _ _ _ _ _ s5).mono ?_
  rintro e u ⟨rfl,rfl⟩
  go_wp2_with fail
  refine hK.out _ _ gH (fun gI=>?_)
  clear hK K gH;have gH:=gI;clear gI
  try go_frame
  refine tp 12 ?_
  try go_frame
  refine tz ?_
  go_wp2_with fail
  go_ret
  exact ⟨by rw [<- HZ.out,hZ1,hZ2];rfl,ah nC.out gH⟩
theorem EH {n:Int} (h0:0<=n) (h1:n<9223372036854775808):wrap64 n=n:=by unfold wrap64;omega
def PM (w:World) (n:Nat) (e:Ending) (w':World):Prop:=∃ v,e=.returned v/\Row au 1 (fun _=>False) w w' 9 v []/\Roomy v 0 n
theorem zHI (n:Nat) (w:World) (hn:n*16<=281474976710656):Calls prog 140 #[.slice none 0 0,.int .i64 (n:Int)] w (PM w n):=by
 have h0:¬ ((n:Int)<0):=by omega
 have hw:wrap64 (n:Int)=n:=by unfold wrap64;omega
 cases hz:n with
 | zero =>
  go_enter func140,ntmps140
  go_wp2_with fail
  go_ret
  exact ⟨_,rfl,Row.nil _ _ _,.inl ⟨rfl,rfl⟩⟩
 | succ m =>
  rw [<- hz]
  have hp:(0:Int)<(n:Int):=by omega
  obtain ⟨i0,hi,hz0,hz1,hz2⟩:=info_parts LB
  have hap:=fun ty=>Lib.run_append_nil_zeros (P:=prog) w 39 3 ty 9 i0 _ .i64 .i64 underlying39 underlying3 hi hz0 n (by omega) (by rw [hz1];decide) (by omega) (by rw [hz2];exact hn)
  have hge:=grownCap_ge w n 0 9
  have hle:=grownCap_le_maxLen w n 0 9 (by unfold maxLen;omega)
  obtain ⟨gc,hgc⟩:∃ g,g=grownCap w n 0 9:=⟨_,rfl⟩
  rw [<- hgc] at hge hle hap
  obtain ⟨W,hW⟩:∃ W,W=w.drew.alloc (.cells (Builtin.zeroCells (Value.string ⟨#[]⟩).cells n++Builtin.zeroCells (Value.string ⟨#[]⟩).cells (gc - n)) 9):=⟨_,rfl⟩
  have hr:Row au 1 (fun _=>False) w W 9 (.slice (some ⟨w.heap.size,0,none⟩) 0 gc) []:=by
   have hown:=World.ownsRow_made (base:=w.heap.size) (e:=9) (size:=1) w.drew (Builtin.zeroCells (Value.string ⟨#[]⟩).cells n++Builtin.zeroCells (Value.string ⟨#[]⟩).cells (gc - n)) gc (by simp) hle (by rw [Array.size_append,size_zeroCells,size_zeroCells];simp [Value.cells];omega)
   refine ⟨[],⟨by rw [hW];exact ((Below.refl _ _).drew).alloc (by simp) _,by rw [hW];simpa using hown⟩,aW.nil _ _⟩
  have HF:Hid (Row au 1 (fun _=>False) w W 9 (.slice (some ⟨w.heap.size,0,none⟩) 0 gc) []/\Roomy (.slice (some ⟨w.heap.size,0,none⟩) 0 gc) 0 n):=⟨hr,.inr ⟨w.heap.size,gc,rfl,hge⟩⟩
  rw [<- hW] at hap
  clear hr hgc hi hz0 hz1 hz2 hz hW
  have hn0:¬ ((n:Int)=0):=by omega
  go_enter func140,ntmps140
  go_wp2_with (at_builtin;refine Lib.wpList_append_run _ rfl _ _ _ _ rfl _ _ rfl rfl _ _ (hap _) ?_)
  go_ret
  exact ⟨_,rfl,HF.out⟩
abbrev vR:bI (List ByteArray):=bN au 1 16
theorem vR.ae:aJ vR 1:=bN.ae au.ae
def UW (w:World) (L:List ByteArray) (e:Ending) (w':World):Prop:=∃ v,e=.returned v/\Row au 1 (fun _=>False) w w' 9 v L
theorem zFv {LL:List (List ByteArray)} {k:Nat} (h:k<LL.length):(LL.take (k+1)).flatten=(LL.take k).flatten++LL.getD k default:=by
 rw [List.take_succ_eq_append_getElem h,List.flatten_append,List.getD_eq_getElem?_getD,List.getElem?_eq_getElem h]
 simp
theorem Gw (LL:List (List ByteArray)) (k:Nat):(LL.take k).flatten.length<=LL.flatten.length:=by
 have:=congrArg List.length (congrArg List.flatten (List.take_append_drop k LL))
 rw [List.flatten_append,List.length_append] at this
 omega
theorem zEn (a:Option Addr) (m cap:Nat) (A:Where) (LL:List (List ByteArray)) (w:World) (hL:Hid (ag vR 1 24 A w a m cap LL)) (hb:LL.flatten.length*16<=281474976710656) :
  Calls prog 117 #[.slice a m cap] w (UW w LL.flatten):=by
 have lg:Hid (LL.length=m):=hL.out.1
 have hlen:=hL.out.len (by decide)
 have HG:=zHI LL.flatten.length w hb
 have HU:Hid (∀ u,Below w.heap.size w u->ag vR 1 24 A u a m cap LL):=fun u hb=>hL.out.on vR.ae hb
 have HT:Hid (∀ k,k<m->(LL.take (k+1)).flatten=(LL.take k).flatten++LL.getD k default/\(LL.take (k+1)).flatten.length<=LL.flatten.length):=fun k hk=>⟨zFv (by rw [lg.out];exact hk),Gw LL (k+1)⟩
 have HTm:Hid (LL.take m=LL):=List.take_of_length_le (by rw [lg.out];omega)
 obtain ⟨T,hT⟩:∃ T,T=LL.flatten.length:=⟨_,rfl⟩
 rw [<- hT] at hb HG HT
 clear hL
 go_enter func117,ntmps117
 go_wp2_with fail
 go_loopw [3,11] (fun z i wr=>∃ k c:Nat,k<=m/\i=.int .i64 k/\z=.int .i64 c/\Hid (c=(LL.take k).flatten.length)/\wr=w) (fun _ i _=>m - (intOf i).toNat)
 case atStart=>exact ⟨0,0,Nat.zero_le _,rfl,rfl,(rfl:(0:Nat)=(LL.take 0).flatten.length),rfl⟩
 case round =>
  obtain ⟨k,c,hk,rfl,rfl,hrun,hwr⟩:=hrel
  have hc:=hrun.out
  subst hwr
  clear hrun
  by_cases hlt:k<m
  ·have hltz:(k:Int)<(m:Int):=by omega
   obtain ⟨t1,t2⟩:=HT.out k hlt
   obtain ⟨B,off,rfl,hB,iL,xs,hr,hv⟩:=(HU.out wr (Below.refl _ _)).get hlt
   obtain ⟨b1,b2,b3,rfl,hsl⟩:=hr
   have d0:=hv 0 _ rfl
   rw [Nat.mul_one,Nat.add_zero] at d0
   have hl2:=hsl.1
   rw [t1,List.length_append,hl2,<- hc] at t2
   have hcn:¬ ((c:Int)+(b2:Int)<0):=by omega
   have hwp:wrap64 ((c:Int)+(b2:Int))=(c:Int)+(b2:Int):=EH (by omega) (by omega)
   have HN:Hid (c+b2=(LL.take (k+1)).flatten.length):=by rw [Hid,t1,List.length_append,hl2,<- hc]
   clear hsl hv hl2 t1 t2 hc hB iL
   go_wp2_with fail
   go_roundw
   case rel=>exact ⟨k+1,c+b2,by omega,by go_num,by simp [hwp],HN,by simp⟩
   case measure=>simp [intOf];omega
  ·have zR:k=m:=by omega
   rw [zR,HTm.out,<- hT] at hc
   subst hc
   clear hT zR
   have hltz:¬ ((k:Int)<(m:Int)):=by omega
   go_wp2_with fail
   refine HG.mono ?_
   rintro e w3 ⟨v,rfl,hr3,ho3⟩
   have HI:Hid (Row au 1 (fun _=>False) wr w3 9 v (LL.take 0).flatten/\Roomy v (LL.take 0).flatten.length c):=⟨hr3,ho3⟩
   clear hr3 ho3 HG hlt hltz
   obtain ⟨w4,rfl⟩:∃ u,u=wr:=⟨_,rfl⟩
   go_wp2_with fail
   go_loopw [6,27] (fun o i wr=>∃ k:Nat,k<=m/\i=.int .i64 k/\Hid (Row au 1 (fun _=>False) w4 wr 9 o (LL.take k).flatten/\Roomy o (LL.take k).flatten.length c)) (fun _ i _=>m - (intOf i).toNat)
   case atStart=>exact ⟨0,Nat.zero_le _,rfl,HI⟩
   case round =>
    obtain ⟨k,hk,rfl,hrun⟩:=hrel
    obtain ⟨hrw,hro⟩:=hrun.out
    clear hrun HI
    by_cases hlt:k<m
    ·have hltz:(k:Int)<(m:Int):=by omega
     obtain ⟨t1,t2⟩:=HT.out k hlt
     obtain ⟨B,off,rfl,hB,iL,xs,hr,hv⟩:=(HU.out _ hrw.below).get hlt
     obtain ⟨b1,b2,b3,rfl,hsl⟩:=hr
     have d0:=hv 0 _ rfl
     rw [Nat.mul_one,Nat.add_zero] at d0
     rw [t1,List.length_append] at t2
     have ib:Hid (Row au 1 (fun _=>False) w4 wr 9 u6 (LL.take k).flatten):=hrw
     have CF:Hid (Roomy u6 (LL.take k).flatten.length c):=hro
     have HT1:Hid ((LL.take k).flatten++LL.getD k default=(LL.take (k+1)).flatten):=t1.symm
     have jo:Hid (Src au 1 (fun b=>False/\u6.ownBlock≠some b) wr b1 b2 (LL.getD k default)):=(hsl.src au.ae).flat au.flat
     have jQ:Hid ((LL.take k).flatten.length+(LL.getD k default).length<=c):=t2
     clear hrw hro t1 t2 hsl hv hB iL
     generalize LL.getD k default=M at HT1 jo jQ
     generalize (LL.take k).flatten=N at ib CF HT1 jQ
     go_wp2_with (at_builtin;go_must (refine Yy au.ae (A:=fun _=>False) (w0:=w4) rfl _ _ 39 9 rfl _ 16 LB underlying39 u6 N c rfl ib.out CF.out b1 b2 b3 M rfl jo.out jQ.out ?_);intro v7 u7 jG jR hw7 Gf)
     have HN:Hid (Row au 1 (fun _=>False) w4 u7 9 v7 (LL.take (k+1)).flatten/\Roomy v7 (LL.take (k+1)).flatten.length c):=by rw [Hid,<- HT1.out];exact ⟨jG,Gf⟩
     clear jG jR hw7 Gf ib CF jo jQ HT1 d0
     go_roundw
     case rel=>exact ⟨k+1,by omega,by go_num,HN⟩
     case measure=>simp [intOf];omega
    ·have zR:k=m:=by omega
     rw [zR,HTm.out] at hrw
     have HF:Hid (Row au 1 (fun _=>False) w4 wr 9 u6 LL.flatten):=hrw
     clear hrw hro zR
     go_wp2_with fail
     go_ret
     exact ⟨_,rfl,HF.out⟩
theorem Ym (a:Option Addr) (m cap:Nat) (A:Where) (LL:List (List ByteArray)) (w:World) (hL:Hid (ag vR 1 24 A w a m cap LL)) (hb:LL.flatten.length*8<=140737488351232) :
  Calls prog 79 #[.slice a m cap] w (AR au 1 (fun _=>True) 9 w (bK id LL.flatten)):=by
 have HC:=zEn a m cap A LL w hL (by omega)
 have Hb:Hid (LL.flatten.length*8<=140737488351232):=hb
 clear hL hb
 generalize LL.flatten=L at HC Hb
 go_enter func79,ntmps79
 go_wp2_with fail
 refine HC.mono ?_
 rintro e w1 ⟨v,rfl,hr⟩
 clear HC
 obtain ⟨b1,b2,b3,rfl,sl⟩:=hr.iW (bytes:=8) au.ae Hb.out
 have HB1:Hid (Below w.heap.size w w1):=hr.below
 have HT:=zHl b1 b2 b3 _ L w1 sl
 have HS:Hid (∀ u,Below w1.heap.size w1 u->ag au 1 8 (fun _=>True) u b1 b2 b3 L):=fun u hb=>sl.on au.ae hb
 clear hr sl
 go_wp2_with fail
 refine HT.mono ?_
 rintro e w2 ⟨mb,rfl,hn,_,hb2⟩
 clear HT
 have HA:=zH0 b1 b2 b3 _ L mb w2 (HS.out w2 hb2) hn
 have HB2:Hid (Below w.heap.size w w2):=ah HB1.out hb2
 clear hn hb2 HS HB1
 go_wp2_with fail
 refine HA.mono ?_
 rintro e w3 ⟨v,rfl,hr⟩
 have HF:Hid (Row au 1 (fun _=>True) w w3 9 v (bK id L)):=hr.from au.ae HB2.out (fun _ _=>trivial)
 clear HA hr HB2
 go_wp2_with fail
 go_ret
 exact ⟨_,rfl,HF.out⟩
end Go.Proofs.YtgikfenllgldoaaGreat
