/- base.State copies a state: the copy holds the same, in blocks of its own. Condition: the argument lies as is said of it. -/
import Derived.Great.BuildSlice
import Derived.Test.YtgikfenllgldoaaGreatQ10
import Derived.Test.YtgikfenllgldoaaGreatQ09
set_option linter.unusedSimpArgs false
set_option maxRecDepth 100000
set_option maxHeartbeats 32000000
namespace Go.Proofs.YtgikfenllgldoaaGreat
open Go.Proofs.Tryz
open Go.RowKit
theorem Cb:(prog.info? 41).map (fun i=>(i.zero,i.size,i.bytes))=some (some (.agg Da.toArray),16,296):=by kernel_rfl
theorem VX {A:Where} {w:World} {c:List Value} {y:aB} (h:aj A w c y):Instr.fill (fun i=>some (i*16,16)) ((Array.range (1*16)).map ((Value.agg Da.toArray).cells[· % (Value.agg Da.toArray).cells.size]!)) [(0,.agg c.toArray)]=some c.toArray:=by
 obtain ⟨_,_,_,_,_,_,_,_,_,rfl,_⟩:=h.out
 kernel_rfl
theorem Xp:(prog.info? 56).map (fun i=>(i.zero,i.size,i.bytes))=some (some (.agg yJ.toArray),9,112):=by kernel_rfl
theorem TC {A:Where} {w:World} {c:List Value} {y:aX} (h:av A w c y):Instr.fill (fun i=>some (i*9,9)) ((Array.range (1*9)).map ((Value.agg yJ.toArray).cells[· % (Value.agg yJ.toArray).cells.size]!)) [(0,.agg c.toArray)]=some c.toArray:=by
 obtain ⟨_,_,rfl,_⟩:=h.out
 kernel_rfl
theorem Yi:(prog.info? 59).map (fun i=>(i.zero,i.size,i.bytes))=some (some (.agg jv.toArray),5,80):=by kernel_rfl
theorem J6 {A:Where} {w:World} {c:List Value} {y:aD} (h:ai A w c y):Instr.fill (fun i=>some (i*5,5)) ((Array.range (1*5)).map ((Value.agg jv.toArray).cells[· % (Value.agg jv.toArray).cells.size]!)) [(0,.agg c.toArray)]=some c.toArray:=by
 obtain ⟨_,rfl,_⟩:=h.out
 kernel_rfl
theorem F5:(prog.info? 124).map (fun i=>(i.zero,i.size,i.bytes))=some (some (.agg Ej.toArray),4,56):=by kernel_rfl
theorem F4:(prog.info? 180).map (fun i=>(i.zero,i.size,i.bytes))=some (some (.agg Ei.toArray),2,24):=by kernel_rfl
theorem Yj:(prog.info? 62).map (fun i=>(i.zero,i.size,i.bytes))=some (some (.agg vw.toArray),3,48):=by kernel_rfl
theorem J7 {A:Where} {w:World} {c:List Value} {y:kW} (h:aI A w c y):Instr.fill (fun i=>some (i*3,3)) ((Array.range (1*3)).map ((Value.agg vw.toArray).cells[· % (Value.agg vw.toArray).cells.size]!)) [(0,.agg c.toArray)]=some c.toArray:=by
 obtain ⟨_,rfl,_⟩:=h.out
 kernel_rfl
def yw (w:World) (i:Nat) (hp v:Value) (B o:Nat) (c:List Value) (u:World):Prop:=u.cell? ⟨w.heap.size,i,none⟩=some hp/\u.cell? ⟨w.heap.size+1+1,i,none⟩=some v/\u.frozen? ⟨w.heap.size+1+1,i,none⟩=false/\u.rangeAt B o c
theorem X7 (ss:List Value) (A:Where) (x:aP) (w:World) (h:aK A w ss x):Calls prog 5 #[.agg ss.toArray] w (Nl w x):=by
 obtain ⟨L0,L1,L2,L3,L4,L5⟩:=x
 obtain ⟨⟨a0,n0,m0⟩,⟨a1,n1,m1⟩,⟨a2,n2,m2⟩,⟨a3,n3,m3⟩,⟨a4,n4,m4⟩,⟨a5,n5,m5⟩,rfl,s0,s1,s2,s3,s4,s5⟩:=h.out
 simp only at s0 s1 s2 s3 s4 s5 |-
 clear h
 have S0:Hid (ag aj 16 296 A w a0 n0 m0 L0):=s0
 have yG:Hid (L0.length=n0):=s0.1
 have HB0:Hid (n0*296<=140737488351232):=s0.2.2.2.1
 have hl0:n0<=140737488351232:=S0.out.len (by decide)
 have S1:Hid (ag av 9 112 A w a1 n1 m1 L1):=s1
 have yF:Hid (L1.length=n1):=s1.1
 have HB1:Hid (n1*112<=140737488351232):=s1.2.2.2.1
 have hl1:n1<=140737488351232:=S1.out.len (by decide)
 have S2:Hid (ag ai 5 80 A w a2 n2 m2 L2):=s2
 have HL2:Hid (L2.length=n2):=s2.1
 have HB2:Hid (n2*80<=140737488351232):=s2.2.2.2.1
 have hl2:n2<=140737488351232:=S2.out.len (by decide)
 have S3:Hid (ag aA 4 56 A w a3 n3 m3 L3):=s3
 have CQ:Hid (L3.length=n3):=s3.1
 have HB3:Hid (n3*56<=140737488351232):=s3.2.2.2.1
 have hl3:n3<=140737488351232:=S3.out.len (by decide)
 have S4:Hid (ag aH 2 24 A w a4 n4 m4 L4):=s4
 have CP:Hid (L4.length=n4):=s4.1
 have nC:Hid (n4*24<=140737488351232):=s4.2.2.2.1
 have hl4:n4<=140737488351232:=S4.out.len (by decide)
 have S5:Hid (ag aI 3 48 A w a5 n5 m5 L5):=s5
 have yE:Hid (L5.length=n5):=s5.1
 have sj:Hid (n5*48<=140737488351232):=s5.2.2.2.1
 have hl5:n5<=140737488351232:=S5.out.len (by decide)
 clear s0 s1 s2 s3 s4 s5
 obtain ⟨W3,lJ⟩:∃ U,U=(((w.alloc (.cells #[.slice a0 n0 m0,.slice a1 n1 m1,.slice a2 n2 m2,.slice a3 n3 m3,.slice a4 n4 m4,.slice a5 n5 m5] 29)).alloc (.cells #[.slice none 0 0,.slice none 0 0,.slice none 0 0,.slice none 0 0,.slice none 0 0,.slice none 0 0] 29)).alloc (.cells #[.slice none 0 0,.slice none 0 0,.slice none 0 0,.slice none 0 0,.slice none 0 0,.slice none 0 0] 29)):=⟨_,rfl⟩
 have B2:PB w W3 [.slice a0 n0 m0,.slice a1 n1 m1,.slice a2 n2 m2,.slice a3 n3 m3,.slice a4 n4 m4,.slice a5 n5 m5] [.slice none 0 0,.slice none 0 0,.slice none 0 0,.slice none 0 0,.slice none 0 0,.slice none 0 0] [.slice none 0 0,.slice none 0 0,.slice none 0 0,.slice none 0 0,.slice none 0 0,.slice none 0 0]:=by
  rw [lJ]
  refine ⟨(af.new w 29 [.slice a0 n0 m0,.slice a1 n1 m1,.slice a2 n2 m2,.slice a3 n3 m3,.slice a4 n4 m4,.slice a5 n5 m5]).on (((Below.refl _ _).alloc (Nat.le_refl _) _).alloc (by simp) _),?_,?_,by go_grown⟩
  ·have:=(af.new (w.alloc (.cells #[.slice a0 n0 m0,.slice a1 n1 m1,.slice a2 n2 m2,.slice a3 n3 m3,.slice a4 n4 m4,.slice a5 n5 m5] 29)) 29 [.slice none 0 0,.slice none 0 0,.slice none 0 0,.slice none 0 0,.slice none 0 0,.slice none 0 0]).on ((Below.refl _ _).alloc (Nat.le_refl _) (.cells #[.slice none 0 0,.slice none 0 0,.slice none 0 0,.slice none 0 0,.slice none 0 0,.slice none 0 0] 29))
   simpa using this
  ·have:=af.new ((w.alloc (.cells #[.slice a0 n0 m0,.slice a1 n1 m1,.slice a2 n2 m2,.slice a3 n3 m3,.slice a4 n4 m4,.slice a5 n5 m5] 29)).alloc (.cells #[.slice none 0 0,.slice none 0 0,.slice none 0 0,.slice none 0 0,.slice none 0 0,.slice none 0 0] 29)) 29 [.slice none 0 0,.slice none 0 0,.slice none 0 0,.slice none 0 0,.slice none 0 0,.slice none 0 0]
   simpa using this
 have B3:Hid (PB w W3 [.slice a0 n0 m0,.slice a1 n1 m1,.slice a2 n2 m2,.slice a3 n3 m3,.slice a4 n4 m4,.slice a5 n5 m5] [.slice none 0 0,.slice none 0 0,.slice none 0 0,.slice none 0 0,.slice none 0 0,.slice none 0 0] [.slice none 0 0,.slice none 0 0,.slice none 0 0,.slice none 0 0,.slice none 0 0,.slice none 0 0]):=B2
 have hsz:Hid (W3.heap.size=w.heap.size+1+1+1):=by rw [Hid,lJ];simp
 clear B2
 have sG:Hid (dE W3 (fun _=>True)):=dE.none W3
 go_enter func5,ntmps5
 go_wp2_with fail
 rw [<- lJ]
 clear lJ
 have g0:Hid ((fun _=>True) W3):=trivial
 have jq:Hid (Row aj 16 (az W3) W3 W3 41 (.slice none 0 0) (L0.take 0)):=Row.nil _ _ _
 go_loopw [4] (fun i wr=>∃ (k:Nat) (X:World) (v:Value),k<=n0/\i=.int .i64 k/\Hid (PB w X [.slice a0 n0 m0,.slice a1 n1 m1,.slice a2 n2 m2,.slice a3 n3 m3,.slice a4 n4 m4,.slice a5 n5 m5] [.slice none 0 0,.slice none 0 0,.slice none 0 0,.slice none 0 0,.slice none 0 0,.slice none 0 0] [v,.slice none 0 0,.slice none 0 0,.slice none 0 0,.slice none 0 0,.slice none 0 0])/\Hid (Row aj 16 (az X) X wr 41 v (L0.take k))/\Hid ((fun _=>True) X)) (fun i _=>n0 - (intOf i).toNat)
 case atStart=>exact ⟨0,_,_,Nat.zero_le _,rfl,B3,jq,g0⟩
 case round =>
  obtain ⟨k,X,v,hk,rfl,hB,hrow,hG⟩:=hrel
  clear jq B3 g0
  have hbX:Below X.heap.size X wr:=hrow.out.below
  have hBw:=hB.out.on hbX
  obtain ⟨p0,pf0⟩:=hBw.p.2 0 _ rfl
  by_cases hlt:k<n0
  ·have hltz:(k:Int)<(n0:Int):=by omega
   have hkl:Hid (k<L0.length):=by rw [Hid,yG.out];exact hlt
   obtain ⟨B,off,rfl,hD,_,c,hr,hv⟩:=S0.out.get hlt
   have hic:=LA RI (aj.ae.len hr)
   have HT:Hid (L0.take k++[L0.getD k default]=L0.take (k+1)):=nH hkl.out
   have HS:Hid (∀ u,Below X.heap.size X u->yw w 0 (.slice (some ⟨B,off,none⟩) n0 m0) v B (off+k*16) c u):=fun u hb=>⟨((hB.out.on hb).p.2 0 _ rfl).1,((hB.out.on hb).q.2 0 _ rfl).1,((hB.out.on hb).q.2 0 _ rfl).2,tJ hv (hB.out.on hb).b hD⟩
   have HC:=Li c A (L0.getD k default) wr.drew (aj.ae.kept hr (Kept.below hBw.b.drew))
   have gU:Hid (((L0.take k).length+1)*296<=140737488355328):=by
    have:=qC HB0.out hlt
    rw [Hid,List.length_take,yG.out,Nat.min_eq_left (by omega)]
    exact this
   have lG:=hB.out.sz
   obtain ⟨i0,hi0,hz0,hzs,_⟩:=info_parts Cb
   clear hr hv hBw
   generalize L0.getD k default=y at HT HC
   go_wp2_with fail
   refine u0 11 (yw w 0 (.slice (some ⟨B,off,none⟩) n0 m0) v B (off+k*16) c) (HS.out _ hbX.drew) (fun gH=>?_)
   refine' uk 0 ?_ ?_;rotate_left
   ·intro u ⟨_,_,_,_⟩;go_simp;try with_reducible rfl
   try go_frame
   refine' uk 1 ?_ ?_;rotate_left
   ·intro u ⟨_,_,_,_⟩;go_simp;try with_reducible rfl
   try go_frame
   refine' uk 2 ?_ ?_;rotate_left
   ·intro u ⟨_,_,_,_⟩;go_simp;try with_reducible rfl
   try go_frame
   refine' uk 3 ?_ ?_;rotate_left
   ·intro u ⟨_,_,_,_⟩;go_simp;try with_reducible rfl
   try go_frame
   refine' uk 4 ?_ ?_;rotate_left
   ·intro u ⟨_,_,_,_⟩;go_simp;try with_reducible rfl
   try go_frame
   refine' uk 5 ?_ ?_;rotate_left
   ·intro u ⟨_,_,_,_⟩;go_simp;try with_reducible rfl
   try go_frame
   refine uq 6 (.agg c.toArray) (yieldsIf_load_mid (by rfl) 41 _ rfl B (off+k*16) rfl c _ (fun u hu=>hu.2.2.2) underlying41 rfl hic) ?_ (hi:=rfl)
   try go_frame
   refine ur 7 (fun K hK=>?_)
   go_simp
   refine HC.mono ?_
   rintro e w5 ⟨c5,rfl,hS5,hb5⟩
   have sK:=ah hbX.drew hb5
   go_wp2_with fail
   refine hK.out _ _ (HS.out _ sK) (fun gI=>?_)
   clear hK K gH;have gH:=gI;clear gI
   try go_frame
   have hb6:Below wr.heap.size wr (w5.alloc (.cells c5.toArray 41)):=((Below.refl _ wr).drew.trans (hb5.mono (Nat.le_refl _))).alloc hb5.size _
   have ku:=hrow.out.on aj.ae hb6
   have HE:aj (fun b=>az X b/\Value.ownBlock v≠some b) (w5.alloc (.cells c5.toArray 41)) c5 y:=aj.ae.weak (aj.ae.kept hS5 (Kept.alloc _ _ _)) (fun b _ hb=>hrow.out.apart (u':=wr.drew) (Nat.le_refl _) b hb)
   have gV:=nJ aj.ae HE
   have HX:=nY w5 c5 41
   have h1c:=aj.ae.one HE
   refine ur 8 (fun K hK=>?_)
   refine fP (by rfl) (wp_buildSlice 22 41 1 _ rfl c5.toArray i0 _ underlying22 hi0 hz0 (by rw [hzs];decide) (by rw [hzs];decide) (by rw [hzs];simp only [List.map_toArray];exact VX hS5) ?_)
   refine hK.out _ _ (HS.out _ (ah hbX hb6)) (fun gI=>?_)
   clear hK K gH;have gH:=gI;clear gI
   try go_frame
   refine ur 9 (fun K hK=>?_)
   refine xO aj.ae (A:=az X) (w0:=X) _ _ 22 41 rfl _ 296 Cb underlying22 rfl (by decide) (by decide) v (L0.take k) rfl ku ⟨w5.heap.size,0,none⟩ 1 1 _ [y] rfl rfl gV HX h1c gU.out ?_
   intro v9 w9 dU qJ
   rw [HT.out] at dU
   obtain ⟨e9,c9,rfl,_⟩:=dU.lD (bytes:=296) aj.ae (Nat.le_trans (Nat.mul_le_mul_right 296 (by rw [List.length_take,yG.out];omega)) HB0.out)
   generalize (L0.take (k+1)).length=l9 at dU |-
   refine hK.out _ _ (HS.out _ dU.below) (fun gI=>?_)
   clear hK K gH;have gH:=gI;clear gI
   try go_frame
   refine' uk 10 ?_ ?_;rotate_left
   ·intro u ⟨_,_,_,_⟩;go_simp;try with_reducible rfl
   try go_frame
   have kK:Hid (Row aj 16 (az (X.setCell ⟨w.heap.size+1+1,0,none⟩ (.slice e9 l9 c9))) (X.setCell ⟨w.heap.size+1+1,0,none⟩ (.slice e9 l9 c9)) (w9.setCell ⟨w.heap.size+1+1,0,none⟩ (.slice e9 l9 c9)) 41 (.slice e9 l9 c9) (L0.take (k+1))):=dU.vE aj.ae lG _
   have uQ:Hid (PB w (X.setCell ⟨w.heap.size+1+1,0,none⟩ (.slice e9 l9 c9)) [.slice (some ⟨B,off,none⟩) n0 m0,.slice a1 n1 m1,.slice a2 n2 m2,.slice a3 n3 m3,.slice a4 n4 m4,.slice a5 n5 m5] [.slice none 0 0,.slice none 0 0,.slice none 0 0,.slice none 0 0,.slice none 0 0,.slice none 0 0] [.slice e9 l9 c9,.slice none 0 0,.slice none 0 0,.slice none 0 0,.slice none 0 0,.slice none 0 0]):=hB.out.set 0 _ (by simp)
   have uM:Hid ((fun _=>True) (X.setCell ⟨w.heap.size+1+1,0,none⟩ (.slice e9 l9 c9))):=trivial
   obtain ⟨_,q8,f8,_⟩:=gH
   refine uz 11 (fun K hK=>?_)
   go_simp
   refine hK.out _ (NoPanic.normal ?_)
   try go_frame
   clear hK K
   go_wp2_with fail
   go_roundw
   case rel=>exact ⟨k+1,_,_,by omega,by go_num,uQ,kK,uM⟩
   case measure=>simp [intOf];omega
  ·have hltz:¬ ((k:Int)<(n0:Int)):=by omega
   have uI:L0.take k=L0:=List.take_of_length_le (by rw [yG.out];omega)
   rw [uI] at hrow
   obtain ⟨b0,k0,rfl,hS0⟩:=hrow.out.lD (bytes:=296) aj.ae (by rw [yG.out];exact HB0.out)
   have Ny:=iP.of aj.ae hrow.out
   rw [yG.out] at hS0 hB Ny
   have hlo0:W3.heap.size<=X.heap.size:=hB.out.fr hsz.out X.heap.size (Nat.le_refl _)
   have JJ:X.heap.size<=wr.heap.size:=hbX.size
   obtain ⟨FN,Kt⟩:∃ n,n=X.heap.size:=⟨_,rfl⟩
   obtain ⟨hi0,KC⟩:∃ n,n=wr.heap.size:=⟨_,rfl⟩
   have hhi0:hi0<=wr.heap.size:=Nat.le_of_eq KC
   rw [<- Kt,<- KC] at Ny JJ
   rw [<- Kt] at hlo0
   obtain ⟨G0,EZ,g0,i0,o0⟩:=dE.dX (u:=wr) sG.out (sG.out _ _ hG.out (Kept.below hbX)) aj.ae Ny hlo0 hhi0
   have UE:Hid (W3.heap.size<=FN/\FN<=hi0):=⟨hlo0,JJ⟩
   clear Ny hlo0 JJ hhi0 Kt KC
   replace EZ:Hid (dE W3 G0):=EZ
   replace i0:Hid (∀ v,G0 v->_):=i0
   replace o0:Hid (∀ v,G0 v->_):=o0
   replace g0:Hid (G0 wr):=g0
   have C0:Hid (PB w wr [.slice a0 n0 m0,.slice a1 n1 m1,.slice a2 n2 m2,.slice a3 n3 m3,.slice a4 n4 m4,.slice a5 n5 m5] [.slice none 0 0,.slice none 0 0,.slice none 0 0,.slice none 0 0,.slice none 0 0,.slice none 0 0] [.slice b0 n0 k0,.slice none 0 0,.slice none 0 0,.slice none 0 0,.slice none 0 0,.slice none 0 0]):=hB.out.on hbX
   clear hS0 hrow hB hG hbX hBw uI
   obtain ⟨V0,zV⟩:∃ V,V=wr:=⟨_,rfl⟩
   rw [<- zV] at g0 C0 p0 pf0 |-
   clear zV
   go_wp2_with fail
   have HR1:Hid (Row av 9 (az V0) V0 V0 56 (.slice none 0 0) (L1.take 0)):=Row.nil _ _ _
   go_loopw [5] (fun i wr=>∃ (k:Nat) (X:World) (v:Value),k<=n1/\i=.int .i64 k/\Hid (PB w X [.slice a0 n0 m0,.slice a1 n1 m1,.slice a2 n2 m2,.slice a3 n3 m3,.slice a4 n4 m4,.slice a5 n5 m5] [.slice none 0 0,.slice none 0 0,.slice none 0 0,.slice none 0 0,.slice none 0 0,.slice none 0 0] [.slice b0 n0 k0,v,.slice none 0 0,.slice none 0 0,.slice none 0 0,.slice none 0 0])/\Hid (Row av 9 (az X) X wr 56 v (L1.take k))/\Hid (G0 X)) (fun i _=>n1 - (intOf i).toNat)
   case atStart=>exact ⟨0,_,_,Nat.zero_le _,rfl,C0,HR1,g0⟩
   case round =>
    obtain ⟨k,X,v,hk,rfl,hB,hrow,hG⟩:=hrel
    clear HR1 C0 g0
    have hbX:Below X.heap.size X wr:=hrow.out.below
    have hBw:=hB.out.on hbX
    obtain ⟨p1,pf1⟩:=hBw.p.2 1 _ rfl
    by_cases hlt:k<n1
    ·have hltz:(k:Int)<(n1:Int):=by omega
     have hkl:Hid (k<L1.length):=by rw [Hid,yF.out];exact hlt
     obtain ⟨B,off,rfl,hD,_,c,hr,hv⟩:=S1.out.get hlt
     have hic:=LA O3 (av.ae.len hr)
     have HT:Hid (L1.take k++[L1.getD k default]=L1.take (k+1)):=nH hkl.out
     have HS:Hid (∀ u,Below X.heap.size X u->yw w 1 (.slice (some ⟨B,off,none⟩) n1 m1) v B (off+k*9) c u):=fun u hb=>⟨((hB.out.on hb).p.2 1 _ rfl).1,((hB.out.on hb).q.2 1 _ rfl).1,((hB.out.on hb).q.2 1 _ rfl).2,tJ hv (hB.out.on hb).b hD⟩
     have HC:=Ic c A (L1.getD k default) wr.drew (av.ae.kept hr (Kept.below hBw.b.drew))
     have gU:Hid (((L1.take k).length+1)*112<=140737488355328):=by
      have:=qC HB1.out hlt
      rw [Hid,List.length_take,yF.out,Nat.min_eq_left (by omega)]
      exact this
     have lG:=hB.out.sz
     obtain ⟨i0,hi0,hz0,hzs,_⟩:=info_parts Xp
     clear hr hv hBw
     generalize L1.getD k default=y at HT HC
     go_wp2_with fail
     refine u0 11 (yw w 1 (.slice (some ⟨B,off,none⟩) n1 m1) v B (off+k*9) c) (HS.out _ hbX.drew) (fun gH=>?_)
     refine' uk 0 ?_ ?_;rotate_left
     ·intro u ⟨_,_,_,_⟩;go_simp;try with_reducible rfl
     try go_frame
     refine' uk 1 ?_ ?_;rotate_left
     ·intro u ⟨_,_,_,_⟩;go_simp;try with_reducible rfl
     try go_frame
     refine' uk 2 ?_ ?_;rotate_left
     ·intro u ⟨_,_,_,_⟩;go_simp;try with_reducible rfl
     try go_frame
     refine' uk 3 ?_ ?_;rotate_left
     ·intro u ⟨_,_,_,_⟩;go_simp;try with_reducible rfl
     try go_frame
     refine' uk 4 ?_ ?_;rotate_left
     ·intro u ⟨_,_,_,_⟩;go_simp;try with_reducible rfl
     try go_frame
     refine' uk 5 ?_ ?_;rotate_left
     ·intro u ⟨_,_,_,_⟩;go_simp;try with_reducible rfl
     try go_frame
     refine uq 6 (.agg c.toArray) (yieldsIf_load_mid (by rfl) 56 _ rfl B (off+k*9) rfl c _ (fun u hu=>hu.2.2.2) underlying56 rfl hic) ?_ (hi:=rfl)
     try go_frame
     refine ur 7 (fun K hK=>?_)
     go_simp
     refine HC.mono ?_
     rintro e w5 ⟨c5,rfl,hS5,hb5⟩
     have sK:=ah hbX.drew hb5
     go_wp2_with fail
     refine hK.out _ _ (HS.out _ sK) (fun gI=>?_)
     clear hK K gH;have gH:=gI;clear gI
     try go_frame
     have hb6:Below wr.heap.size wr (w5.alloc (.cells c5.toArray 56)):=((Below.refl _ wr).drew.trans (hb5.mono (Nat.le_refl _))).alloc hb5.size _
     have ku:=hrow.out.on av.ae hb6
     have HE:av (fun b=>az X b/\Value.ownBlock v≠some b) (w5.alloc (.cells c5.toArray 56)) c5 y:=av.ae.weak (av.ae.kept hS5 (Kept.alloc _ _ _)) (fun b _ hb=>hrow.out.apart (u':=wr.drew) (Nat.le_refl _) b hb)
     have gV:=nJ av.ae HE
     have HX:=nY w5 c5 56
     have h1c:=av.ae.one HE
     refine ur 8 (fun K hK=>?_)
     refine fP (by rfl) (wp_buildSlice 23 56 1 _ rfl c5.toArray i0 _ underlying23 hi0 hz0 (by rw [hzs];decide) (by rw [hzs];decide) (by rw [hzs];simp only [List.map_toArray];exact TC hS5) ?_)
     refine hK.out _ _ (HS.out _ (ah hbX hb6)) (fun gI=>?_)
     clear hK K gH;have gH:=gI;clear gI
     try go_frame
     refine ur 9 (fun K hK=>?_)
     refine xO av.ae (A:=az X) (w0:=X) _ _ 23 56 rfl _ 112 Xp underlying23 rfl (by decide) (by decide) v (L1.take k) rfl ku ⟨w5.heap.size,0,none⟩ 1 1 _ [y] rfl rfl gV HX h1c gU.out ?_
     intro v9 w9 dU qJ
     rw [HT.out] at dU
     obtain ⟨e9,c9,rfl,_⟩:=dU.lD (bytes:=112) av.ae (Nat.le_trans (Nat.mul_le_mul_right 112 (by rw [List.length_take,yF.out];omega)) HB1.out)
     generalize (L1.take (k+1)).length=l9 at dU |-
     refine hK.out _ _ (HS.out _ dU.below) (fun gI=>?_)
     clear hK K gH;have gH:=gI;clear gI
     try go_frame
     refine' uk 10 ?_ ?_;rotate_left
     ·intro u ⟨_,_,_,_⟩;go_simp;try with_reducible rfl
     try go_frame
     have kK:Hid (Row av 9 (az (X.setCell ⟨w.heap.size+1+1,1,none⟩ (.slice e9 l9 c9))) (X.setCell ⟨w.heap.size+1+1,1,none⟩ (.slice e9 l9 c9)) (w9.setCell ⟨w.heap.size+1+1,1,none⟩ (.slice e9 l9 c9)) 56 (.slice e9 l9 c9) (L1.take (k+1))):=dU.vE av.ae lG _
     have uQ:Hid (PB w (X.setCell ⟨w.heap.size+1+1,1,none⟩ (.slice e9 l9 c9)) [.slice a0 n0 m0,.slice (some ⟨B,off,none⟩) n1 m1,.slice a2 n2 m2,.slice a3 n3 m3,.slice a4 n4 m4,.slice a5 n5 m5] [.slice none 0 0,.slice none 0 0,.slice none 0 0,.slice none 0 0,.slice none 0 0,.slice none 0 0] [.slice b0 n0 k0,.slice e9 l9 c9,.slice none 0 0,.slice none 0 0,.slice none 0 0,.slice none 0 0]):=hB.out.set 1 _ (by simp)
     have uM:Hid (G0 (X.setCell ⟨w.heap.size+1+1,1,none⟩ (.slice e9 l9 c9))):=EZ.out _ _ hG.out (Kept.set (az.not (by have:=hsz.out;have:=lG;simp;omega)) _)
     obtain ⟨_,q8,f8,_⟩:=gH
     refine uz 11 (fun K hK=>?_)
     go_simp
     refine hK.out _ (NoPanic.normal ?_)
     try go_frame
     clear hK K
     go_wp2_with fail
     go_roundw
     case rel=>exact ⟨k+1,_,_,by omega,by go_num,uQ,kK,uM⟩
     case measure=>simp [intOf];omega
    ·have hltz:¬ ((k:Int)<(n1:Int)):=by omega
     have uI:L1.take k=L1:=List.take_of_length_le (by rw [yF.out];omega)
     rw [uI] at hrow
     obtain ⟨b1,k1,rfl,hS1⟩:=hrow.out.lD (bytes:=112) av.ae (by rw [yF.out];exact HB1.out)
     have Nw:=iP.of av.ae hrow.out
     rw [yF.out] at hS1 hB Nw
     have hlo1:W3.heap.size<=X.heap.size:=hB.out.fr hsz.out X.heap.size (Nat.le_refl _)
     have JI:X.heap.size<=wr.heap.size:=hbX.size
     have JR:hi0<=X.heap.size:=(o0.out X hG.out).2
     obtain ⟨lo1,Kr⟩:∃ n,n=X.heap.size:=⟨_,rfl⟩
     obtain ⟨hi1,Kz⟩:∃ n,n=wr.heap.size:=⟨_,rfl⟩
     have hhi1:hi1<=wr.heap.size:=Nat.le_of_eq Kz
     rw [<- Kr,<- Kz] at Nw JI
     rw [<- Kr] at hlo1 JR
     obtain ⟨G1,EY,g1,i1,o1⟩:=dE.dX (u:=wr) EZ.out (EZ.out _ _ hG.out (Kept.below hbX)) av.ae Nw hlo1 hhi1
     have rZ:Hid (W3.heap.size<=lo1/\lo1<=hi1/\hi0<=lo1):=⟨hlo1,JI,JR⟩
     clear Nw hlo1 JI hhi1 Kr Kz JR
     replace EY:Hid (dE W3 G1):=EY
     replace i1:Hid (∀ v,G1 v->_):=i1
     replace o1:Hid (∀ v,G1 v->_):=o1
     replace g1:Hid (G1 wr):=g1
     have C1:Hid (PB w wr [.slice a0 n0 m0,.slice a1 n1 m1,.slice a2 n2 m2,.slice a3 n3 m3,.slice a4 n4 m4,.slice a5 n5 m5] [.slice none 0 0,.slice none 0 0,.slice none 0 0,.slice none 0 0,.slice none 0 0,.slice none 0 0] [.slice b0 n0 k0,.slice b1 n1 k1,.slice none 0 0,.slice none 0 0,.slice none 0 0,.slice none 0 0]):=hB.out.on hbX
     clear hS1 hrow hB hG hbX hBw uI
     obtain ⟨V1,hV1⟩:∃ V,V=wr:=⟨_,rfl⟩
     rw [<- hV1] at g1 C1 p1 pf1 |-
     clear hV1
     go_wp2_with fail
     have HR2:Hid (Row ai 5 (az V1) V1 V1 59 (.slice none 0 0) (L2.take 0)):=Row.nil _ _ _
     go_loopw [6] (fun i wr=>∃ (k:Nat) (X:World) (v:Value),k<=n2/\i=.int .i64 k/\Hid (PB w X [.slice a0 n0 m0,.slice a1 n1 m1,.slice a2 n2 m2,.slice a3 n3 m3,.slice a4 n4 m4,.slice a5 n5 m5] [.slice none 0 0,.slice none 0 0,.slice none 0 0,.slice none 0 0,.slice none 0 0,.slice none 0 0] [.slice b0 n0 k0,.slice b1 n1 k1,v,.slice none 0 0,.slice none 0 0,.slice none 0 0])/\Hid (Row ai 5 (az X) X wr 59 v (L2.take k))/\Hid (G1 X)) (fun i _=>n2 - (intOf i).toNat)
     case atStart=>exact ⟨0,_,_,Nat.zero_le _,rfl,C1,HR2,g1⟩
     case round =>
      obtain ⟨k,X,v,hk,rfl,hB,hrow,hG⟩:=hrel
      clear HR2 C1 g1
      have hbX:Below X.heap.size X wr:=hrow.out.below
      have hBw:=hB.out.on hbX
      obtain ⟨p2,Zy⟩:=hBw.p.2 2 _ rfl
      by_cases hlt:k<n2
      ·have hltz:(k:Int)<(n2:Int):=by omega
       have hkl:Hid (k<L2.length):=by rw [Hid,HL2.out];exact hlt
       obtain ⟨B,off,rfl,hD,_,c,hr,hv⟩:=S2.out.get hlt
       have hic:=LA wI (ai.ae.len hr)
       have HT:Hid (L2.take k++[L2.getD k default]=L2.take (k+1)):=nH hkl.out
       have HS:Hid (∀ u,Below X.heap.size X u->yw w 2 (.slice (some ⟨B,off,none⟩) n2 m2) v B (off+k*5) c u):=fun u hb=>⟨((hB.out.on hb).p.2 2 _ rfl).1,((hB.out.on hb).q.2 2 _ rfl).1,((hB.out.on hb).q.2 2 _ rfl).2,tJ hv (hB.out.on hb).b hD⟩
       have HC:=zFl c A (L2.getD k default) wr.drew (ai.ae.kept hr (Kept.below hBw.b.drew))
       have gU:Hid (((L2.take k).length+1)*80<=140737488355328):=by
        have:=qC HB2.out hlt
        rw [Hid,List.length_take,HL2.out,Nat.min_eq_left (by omega)]
        exact this
       have lG:=hB.out.sz
       obtain ⟨i0,hi0,hz0,hzs,_⟩:=info_parts Yi
       clear hr hv hBw
       generalize L2.getD k default=y at HT HC
       go_wp2_with fail
       refine u0 11 (yw w 2 (.slice (some ⟨B,off,none⟩) n2 m2) v B (off+k*5) c) (HS.out _ hbX.drew) (fun gH=>?_)
       refine' uk 0 ?_ ?_;rotate_left
       ·intro u ⟨_,_,_,_⟩;go_simp;try with_reducible rfl
       try go_frame
       refine' uk 1 ?_ ?_;rotate_left
       ·intro u ⟨_,_,_,_⟩;go_simp;try with_reducible rfl
       try go_frame
       refine' uk 2 ?_ ?_;rotate_left
       ·intro u ⟨_,_,_,_⟩;go_simp;try with_reducible rfl
       try go_frame
       refine' uk 3 ?_ ?_;rotate_left
       ·intro u ⟨_,_,_,_⟩;go_simp;try with_reducible rfl
       try go_frame
       refine' uk 4 ?_ ?_;rotate_left
       ·intro u ⟨_,_,_,_⟩;go_simp;try with_reducible rfl
       try go_frame
       refine' uk 5 ?_ ?_;rotate_left
       ·intro u ⟨_,_,_,_⟩;go_simp;try with_reducible rfl
       try go_frame
       refine uq 6 (.agg c.toArray) (yieldsIf_load_mid (by rfl) 59 _ rfl B (off+k*5) rfl c _ (fun u hu=>hu.2.2.2) underlying59 rfl hic) ?_ (hi:=rfl)
       try go_frame
       refine ur 7 (fun K hK=>?_)
       go_simp
       refine HC.mono ?_
       rintro e w5 ⟨c5,rfl,hS5,hb5⟩
       have sK:=ah hbX.drew hb5
       go_wp2_with fail
       refine hK.out _ _ (HS.out _ sK) (fun gI=>?_)
       clear hK K gH;have gH:=gI;clear gI
       try go_frame
       have hb6:Below wr.heap.size wr (w5.alloc (.cells c5.toArray 59)):=((Below.refl _ wr).drew.trans (hb5.mono (Nat.le_refl _))).alloc hb5.size _
       have ku:=hrow.out.on ai.ae hb6
       have HE:ai (fun b=>az X b/\Value.ownBlock v≠some b) (w5.alloc (.cells c5.toArray 59)) c5 y:=ai.ae.weak (ai.ae.kept hS5 (Kept.alloc _ _ _)) (fun b _ hb=>hrow.out.apart (u':=wr.drew) (Nat.le_refl _) b hb)
       have gV:=nJ ai.ae HE
       have HX:=nY w5 c5 59
       have h1c:=ai.ae.one HE
       refine ur 8 (fun K hK=>?_)
       refine fP (by rfl) (wp_buildSlice 24 59 1 _ rfl c5.toArray i0 _ underlying24 hi0 hz0 (by rw [hzs];decide) (by rw [hzs];decide) (by rw [hzs];simp only [List.map_toArray];exact J6 hS5) ?_)
       refine hK.out _ _ (HS.out _ (ah hbX hb6)) (fun gI=>?_)
       clear hK K gH;have gH:=gI;clear gI
       try go_frame
       refine ur 9 (fun K hK=>?_)
       refine xO ai.ae (A:=az X) (w0:=X) _ _ 24 59 rfl _ 80 Yi underlying24 rfl (by decide) (by decide) v (L2.take k) rfl ku ⟨w5.heap.size,0,none⟩ 1 1 _ [y] rfl rfl gV HX h1c gU.out ?_
       intro v9 w9 dU qJ
       rw [HT.out] at dU
       obtain ⟨e9,c9,rfl,_⟩:=dU.lD (bytes:=80) ai.ae (Nat.le_trans (Nat.mul_le_mul_right 80 (by rw [List.length_take,HL2.out];omega)) HB2.out)
       generalize (L2.take (k+1)).length=l9 at dU |-
       refine hK.out _ _ (HS.out _ dU.below) (fun gI=>?_)
       clear hK K gH;have gH:=gI;clear gI
       try go_frame
       refine' uk 10 ?_ ?_;rotate_left
       ·intro u ⟨_,_,_,_⟩;go_simp;try with_reducible rfl
       try go_frame
       have kK:Hid (Row ai 5 (az (X.setCell ⟨w.heap.size+1+1,2,none⟩ (.slice e9 l9 c9))) (X.setCell ⟨w.heap.size+1+1,2,none⟩ (.slice e9 l9 c9)) (w9.setCell ⟨w.heap.size+1+1,2,none⟩ (.slice e9 l9 c9)) 59 (.slice e9 l9 c9) (L2.take (k+1))):=dU.vE ai.ae lG _
       have uQ:Hid (PB w (X.setCell ⟨w.heap.size+1+1,2,none⟩ (.slice e9 l9 c9)) [.slice a0 n0 m0,.slice a1 n1 m1,.slice (some ⟨B,off,none⟩) n2 m2,.slice a3 n3 m3,.slice a4 n4 m4,.slice a5 n5 m5] [.slice none 0 0,.slice none 0 0,.slice none 0 0,.slice none 0 0,.slice none 0 0,.slice none 0 0] [.slice b0 n0 k0,.slice b1 n1 k1,.slice e9 l9 c9,.slice none 0 0,.slice none 0 0,.slice none 0 0]):=hB.out.set 2 _ (by simp)
       have uM:Hid (G1 (X.setCell ⟨w.heap.size+1+1,2,none⟩ (.slice e9 l9 c9))):=EY.out _ _ hG.out (Kept.set (az.not (by have:=hsz.out;have:=lG;simp;omega)) _)
       obtain ⟨_,q8,f8,_⟩:=gH
       refine uz 11 (fun K hK=>?_)
       go_simp
       refine hK.out _ (NoPanic.normal ?_)
       try go_frame
       clear hK K
       go_wp2_with fail
       go_roundw
       case rel=>exact ⟨k+1,_,_,by omega,by go_num,uQ,kK,uM⟩
       case measure=>simp [intOf];omega
      ·have hltz:¬ ((k:Int)<(n2:Int)):=by omega
       have uI:L2.take k=L2:=List.take_of_length_le (by rw [HL2.out];omega)
       rw [uI] at hrow
       obtain ⟨b2,k2,rfl,hS2⟩:=hrow.out.lD (bytes:=80) ai.ae (by rw [HL2.out];exact HB2.out)
       have Nv:=iP.of ai.ae hrow.out
       rw [HL2.out] at hS2 hB Nv
       have hlo2:W3.heap.size<=X.heap.size:=hB.out.fr hsz.out X.heap.size (Nat.le_refl _)
       have JH:X.heap.size<=wr.heap.size:=hbX.size
       have JQ:hi1<=X.heap.size:=(o1.out X hG.out).2
       obtain ⟨lo2,Kq⟩:∃ n,n=X.heap.size:=⟨_,rfl⟩
       obtain ⟨hi2,Ky⟩:∃ n,n=wr.heap.size:=⟨_,rfl⟩
       have hhi2:hi2<=wr.heap.size:=Nat.le_of_eq Ky
       rw [<- Kq,<- Ky] at Nv JH
       rw [<- Kq] at hlo2 JQ
       obtain ⟨G2,vL,g2,i2,o2⟩:=dE.dX (u:=wr) EY.out (EY.out _ _ hG.out (Kept.below hbX)) ai.ae Nv hlo2 hhi2
       have tZ:Hid (W3.heap.size<=lo2/\lo2<=hi2/\hi1<=lo2):=⟨hlo2,JH,JQ⟩
       clear Nv hlo2 JH hhi2 Kq Ky JQ
       replace vL:Hid (dE W3 G2):=vL
       replace i2:Hid (∀ v,G2 v->_):=i2
       replace o2:Hid (∀ v,G2 v->_):=o2
       replace g2:Hid (G2 wr):=g2
       have C2:Hid (PB w wr [.slice a0 n0 m0,.slice a1 n1 m1,.slice a2 n2 m2,.slice a3 n3 m3,.slice a4 n4 m4,.slice a5 n5 m5] [.slice none 0 0,.slice none 0 0,.slice none 0 0,.slice none 0 0,.slice none 0 0,.slice none 0 0] [.slice b0 n0 k0,.slice b1 n1 k1,.slice b2 n2 k2,.slice none 0 0,.slice none 0 0,.slice none 0 0]):=hB.out.on hbX
       clear hS2 hrow hB hG hbX hBw uI
       obtain ⟨V2,hV2⟩:∃ V,V=wr:=⟨_,rfl⟩
       rw [<- hV2] at g2 C2 p2 Zy |-
       clear hV2
       go_upto_region 14 with fail
       clear p2 Zy
       have aa6:=C2.out.sz
       have hne0:w.heap.size≠V2.heap.size:=by omega
       have hne1:w.heap.size+1≠V2.heap.size:=by omega
       have hne2:w.heap.size+1+1≠V2.heap.size:=by omega
       have l6:w.heap.size<V2.heap.size:=by omega
       obtain ⟨p3,pf3⟩:=C2.out.p.2 3 _ rfl
       have HR:Hid (Row aA 4 (az V2) V2 (V2.alloc (.cells #[] 124)) 124 (.slice (some ⟨V2.heap.size,0,none⟩) 0 0) []):=Row.start _ _ _ _ (Below.refl _ _)
       have HN:Hid (Src aA 4 (fun b=>az V2 b/\Value.ownBlock (.slice (some ⟨V2.heap.size,0,none⟩) 0 0)≠some b) (V2.alloc (.cells #[] 124)) a3 n3 L3):=((S3.out.on aA.ae (C2.out.b.alloc (by omega) _)).src aA.ae).flat aA.flat
       have HB:Hid ((([]:List aT).length+L3.length)*56<=140737488355328):=by have h1:=HB3.out;rw [Hid,CQ.out];simp;omega
       go_upto_region 15 with (at_builtin;go_must (refine Qm aA.ae (A:=az V2) (w0:=V2) rfl _ _ 25 124 rfl _ 56 F5 underlying25 rfl (by decide) (by decide) _ [] rfl HR.out a3 n3 m3 L3 rfl HN.out HB.out ?_);clear p3 pf3 hne0 hne1 hne2 l6;intro x3 v3 hr3 hg3;rw [List.nil_append] at hr3;obtain ⟨b3,k3,rfl,Ci⟩:=hr3.lD (bytes:=56) aA.ae (by rw [CQ.out];exact HB3.out);have hb3:=hr3.below;have Ov:=C2.out.on hb3;rw [CQ.out] at Ci |-;obtain ⟨q3,qf3⟩:=Ov.q.2 3 _ rfl;have hs4:=Ov.sz)
       have Nu:=iP.of aA.ae hr3
       rw [CQ.out] at Nu
       have hlo3:W3.heap.size<=V2.heap.size:=C2.out.fr hsz.out V2.heap.size (Nat.le_refl _)
       have JG:V2.heap.size<=v3.heap.size:=hb3.size
       have JP:hi2<=V2.heap.size:=(o2.out V2 g2.out).2
       obtain ⟨lo3,Ko⟩:∃ n,n=V2.heap.size:=⟨_,rfl⟩
       obtain ⟨hi3,Kw⟩:∃ n,n=v3.heap.size:=⟨_,rfl⟩
       have hhi3:hi3<=v3.heap.size:=Nat.le_of_eq Kw
       rw [<- Ko,<- Kw] at Nu JG
       rw [<- Ko] at hlo3 JP
       obtain ⟨G3,EX,g3a,i3,o3⟩:=dE.dX (u:=v3) vL.out (vL.out _ _ g2.out (Kept.below hb3)) aA.ae Nu hlo3 hhi3
       have Io:Hid (W3.heap.size<=lo3/\lo3<=hi3/\hi2<=lo3):=⟨hlo3,JG,JP⟩
       clear Nu hlo3 JG hhi3 Ko Kw JP
       replace EX:Hid (dE W3 G3):=EX
       replace i3:Hid (∀ v,G3 v->_):=i3
       replace o3:Hid (∀ v,G3 v->_):=o3
       obtain ⟨V3,MW⟩:∃ V,V=v3.setCell ⟨w.heap.size+1+1,3,none⟩ (.slice b3 n3 k3):=⟨_,rfl⟩
       have C3:Hid (PB w V3 [.slice a0 n0 m0,.slice a1 n1 m1,.slice a2 n2 m2,.slice a3 n3 m3,.slice a4 n4 m4,.slice a5 n5 m5] [.slice none 0 0,.slice none 0 0,.slice none 0 0,.slice none 0 0,.slice none 0 0,.slice none 0 0] [.slice b0 n0 k0,.slice b1 n1 k1,.slice b2 n2 k2,.slice b3 n3 k3,.slice none 0 0,.slice none 0 0]):=by rw [Hid,MW];exact Ov.set 3 _ (by simp)
       have g3:Hid (G3 V3):=by rw [Hid,MW];exact EX.out _ _ g3a (Kept.set (az.not (by have:=hsz.out;simp;omega)) _)
       rw [<- MW]
       clear MW Ov g3a q3 qf3 hs4 hr3 hg3 HR HN HB Ci hb3 aa6 C2 g2
       have aa5:=C3.out.sz
       have hne0:w.heap.size≠V3.heap.size:=by omega
       have hne1:w.heap.size+1≠V3.heap.size:=by omega
       have hne2:w.heap.size+1+1≠V3.heap.size:=by omega
       have l6:w.heap.size<V3.heap.size:=by omega
       obtain ⟨p4,pf4⟩:=C3.out.p.2 4 _ rfl
       have HR:Hid (Row aH 2 (az V3) V3 (V3.alloc (.cells #[] 180)) 180 (.slice (some ⟨V3.heap.size,0,none⟩) 0 0) []):=Row.start _ _ _ _ (Below.refl _ _)
       have HN:Hid (Src aH 2 (fun b=>az V3 b/\Value.ownBlock (.slice (some ⟨V3.heap.size,0,none⟩) 0 0)≠some b) (V3.alloc (.cells #[] 180)) a4 n4 L4):=((S4.out.on aH.ae (C3.out.b.alloc (by omega) _)).src aH.ae).flat aH.flat
       have HB:Hid ((([]:List dI).length+L4.length)*24<=140737488355328):=by have h1:=nC.out;rw [Hid,CP.out];simp;omega
       go_upto_region 16 with (at_builtin;go_must (refine Qm aH.ae (A:=az V3) (w0:=V3) rfl _ _ 26 180 rfl _ 24 F4 underlying26 rfl (by decide) (by decide) _ [] rfl HR.out a4 n4 m4 L4 rfl HN.out HB.out ?_);clear p4 pf4 hne0 hne1 hne2 l6;intro x4 v4 hr4 hg4;rw [List.nil_append] at hr4;obtain ⟨b4,k4,rfl,kD⟩:=hr4.lD (bytes:=24) aH.ae (by rw [CP.out];exact nC.out);have hb4:=hr4.below;have Ou:=C3.out.on hb4;rw [CP.out] at kD |-;obtain ⟨q4,qf4⟩:=Ou.q.2 4 _ rfl;have hs4:=Ou.sz)
       have Nt:=iP.of aH.ae hr4
       rw [CP.out] at Nt
       have Dx:W3.heap.size<=V3.heap.size:=C3.out.fr hsz.out V3.heap.size (Nat.le_refl _)
       have JF:V3.heap.size<=v4.heap.size:=hb4.size
       have JO:hi3<=V3.heap.size:=(o3.out V3 g3.out).2
       obtain ⟨BX,Kn⟩:∃ n,n=V3.heap.size:=⟨_,rfl⟩
       obtain ⟨hi4,Kv⟩:∃ n,n=v4.heap.size:=⟨_,rfl⟩
       have Sy:hi4<=v4.heap.size:=Nat.le_of_eq Kv
       rw [<- Kn,<- Kv] at Nt JF
       rw [<- Kn] at Dx JO
       obtain ⟨G4,BG,g4a,i4,o4⟩:=dE.dX (u:=v4) EX.out (EX.out _ _ g3.out (Kept.below hb4)) aH.ae Nt Dx Sy
       have UD:Hid (W3.heap.size<=BX/\BX<=hi4/\hi3<=BX):=⟨Dx,JF,JO⟩
       clear Nt Dx JF Sy Kn Kv JO
       replace BG:Hid (dE W3 G4):=BG
       replace i4:Hid (∀ v,G4 v->_):=i4
       replace o4:Hid (∀ v,G4 v->_):=o4
       obtain ⟨V4,MV⟩:∃ V,V=v4.setCell ⟨w.heap.size+1+1,4,none⟩ (.slice b4 n4 k4):=⟨_,rfl⟩
       have C4:Hid (PB w V4 [.slice a0 n0 m0,.slice a1 n1 m1,.slice a2 n2 m2,.slice a3 n3 m3,.slice a4 n4 m4,.slice a5 n5 m5] [.slice none 0 0,.slice none 0 0,.slice none 0 0,.slice none 0 0,.slice none 0 0,.slice none 0 0] [.slice b0 n0 k0,.slice b1 n1 k1,.slice b2 n2 k2,.slice b3 n3 k3,.slice b4 n4 k4,.slice none 0 0]):=by rw [Hid,MV];exact Ou.set 4 _ (by simp)
       have g4:Hid (G4 V4):=by rw [Hid,MV];exact BG.out _ _ g4a (Kept.set (az.not (by have:=hsz.out;simp;omega)) _)
       rw [<- MV]
       clear MV Ou g4a q4 qf4 hs4 hr4 hg4 HR HN HB kD hb4 aa5 C3 g3
       go_wp2_with fail
       have Uv:Hid (Row aI 3 (az V4) V4 V4 62 (.slice none 0 0) (L5.take 0)):=Row.nil _ _ _
       go_loopw [7] (fun i wr=>∃ (k:Nat) (X:World) (v:Value),k<=n5/\i=.int .i64 k/\Hid (PB w X [.slice a0 n0 m0,.slice a1 n1 m1,.slice a2 n2 m2,.slice a3 n3 m3,.slice a4 n4 m4,.slice a5 n5 m5] [.slice none 0 0,.slice none 0 0,.slice none 0 0,.slice none 0 0,.slice none 0 0,.slice none 0 0] [.slice b0 n0 k0,.slice b1 n1 k1,.slice b2 n2 k2,.slice b3 n3 k3,.slice b4 n4 k4,v])/\Hid (Row aI 3 (az X) X wr 62 v (L5.take k))/\Hid (G4 X)) (fun i _=>n5 - (intOf i).toNat)
       case atStart=>exact ⟨0,_,_,Nat.zero_le _,rfl,C4,Uv,g4⟩
       case round =>
        obtain ⟨k,X,v,hk,rfl,hB,hrow,hG⟩:=hrel
        clear Uv C4 g4
        have hbX:Below X.heap.size X wr:=hrow.out.below
        have hBw:=hB.out.on hbX
        obtain ⟨p5,pf5⟩:=hBw.p.2 5 _ rfl
        by_cases hlt:k<n5
        ·have hltz:(k:Int)<(n5:Int):=by omega
         have hkl:Hid (k<L5.length):=by rw [Hid,yE.out];exact hlt
         obtain ⟨B,off,rfl,hD,_,c,hr,hv⟩:=S5.out.get hlt
         have hic:=LA FW (aI.ae.len hr)
         have HT:Hid (L5.take k++[L5.getD k default]=L5.take (k+1)):=nH hkl.out
         have HS:Hid (∀ u,Below X.heap.size X u->yw w 5 (.slice (some ⟨B,off,none⟩) n5 m5) v B (off+k*3) c u):=fun u hb=>⟨((hB.out.on hb).p.2 5 _ rfl).1,((hB.out.on hb).q.2 5 _ rfl).1,((hB.out.on hb).q.2 5 _ rfl).2,tJ hv (hB.out.on hb).b hD⟩
         have HC:=zFZ c A (L5.getD k default) wr.drew (aI.ae.kept hr (Kept.below hBw.b.drew))
         have gU:Hid (((L5.take k).length+1)*48<=140737488355328):=by
          have:=qC sj.out hlt
          rw [Hid,List.length_take,yE.out,Nat.min_eq_left (by omega)]
          exact this
         have lG:=hB.out.sz
         obtain ⟨i0,hi0,hz0,hzs,_⟩:=info_parts Yj
         clear hr hv hBw
         generalize L5.getD k default=y at HT HC
         go_wp2_with fail
         refine u0 11 (yw w 5 (.slice (some ⟨B,off,none⟩) n5 m5) v B (off+k*3) c) (HS.out _ hbX.drew) (fun gH=>?_)
         refine' uk 0 ?_ ?_;rotate_left
         ·intro u ⟨_,_,_,_⟩;go_simp;try with_reducible rfl
         try go_frame
         refine' uk 1 ?_ ?_;rotate_left
         ·intro u ⟨_,_,_,_⟩;go_simp;try with_reducible rfl
         try go_frame
         refine' uk 2 ?_ ?_;rotate_left
         ·intro u ⟨_,_,_,_⟩;go_simp;try with_reducible rfl
         try go_frame
         refine' uk 3 ?_ ?_;rotate_left
         ·intro u ⟨_,_,_,_⟩;go_simp;try with_reducible rfl
         try go_frame
         refine' uk 4 ?_ ?_;rotate_left
         ·intro u ⟨_,_,_,_⟩;go_simp;try with_reducible rfl
         try go_frame
         refine' uk 5 ?_ ?_;rotate_left
         ·intro u ⟨_,_,_,_⟩;go_simp;try with_reducible rfl
         try go_frame
         refine uq 6 (.agg c.toArray) (yieldsIf_load_mid (by rfl) 62 _ rfl B (off+k*3) rfl c _ (fun u hu=>hu.2.2.2) underlying62 rfl hic) ?_ (hi:=rfl)
         try go_frame
         refine ur 7 (fun K hK=>?_)
         go_simp
         refine HC.mono ?_
         rintro e w5 ⟨c5,rfl,hS5,hb5⟩
         have sK:=ah hbX.drew hb5
         go_wp2_with fail
         refine hK.out _ _ (HS.out _ sK) (fun gI=>?_)
         clear hK K gH;have gH:=gI;clear gI
         try go_frame
         have hb6:Below wr.heap.size wr (w5.alloc (.cells c5.toArray 62)):=((Below.refl _ wr).drew.trans (hb5.mono (Nat.le_refl _))).alloc hb5.size _
         have ku:=hrow.out.on aI.ae hb6
         have HE:aI (fun b=>az X b/\Value.ownBlock v≠some b) (w5.alloc (.cells c5.toArray 62)) c5 y:=aI.ae.weak (aI.ae.kept hS5 (Kept.alloc _ _ _)) (fun b _ hb=>hrow.out.apart (u':=wr.drew) (Nat.le_refl _) b hb)
         have gV:=nJ aI.ae HE
         have HX:=nY w5 c5 62
         have h1c:=aI.ae.one HE
         refine ur 8 (fun K hK=>?_)
         refine fP (by rfl) (wp_buildSlice 27 62 1 _ rfl c5.toArray i0 _ underlying27 hi0 hz0 (by rw [hzs];decide) (by rw [hzs];decide) (by rw [hzs];simp only [List.map_toArray];exact J7 hS5) ?_)
         refine hK.out _ _ (HS.out _ (ah hbX hb6)) (fun gI=>?_)
         clear hK K gH;have gH:=gI;clear gI
         try go_frame
         refine ur 9 (fun K hK=>?_)
         refine xO aI.ae (A:=az X) (w0:=X) _ _ 27 62 rfl _ 48 Yj underlying27 rfl (by decide) (by decide) v (L5.take k) rfl ku ⟨w5.heap.size,0,none⟩ 1 1 _ [y] rfl rfl gV HX h1c gU.out ?_
         intro v9 w9 dU qJ
         rw [HT.out] at dU
         obtain ⟨e9,c9,rfl,_⟩:=dU.lD (bytes:=48) aI.ae (Nat.le_trans (Nat.mul_le_mul_right 48 (by rw [List.length_take,yE.out];omega)) sj.out)
         generalize (L5.take (k+1)).length=l9 at dU |-
         refine hK.out _ _ (HS.out _ dU.below) (fun gI=>?_)
         clear hK K gH;have gH:=gI;clear gI
         try go_frame
         refine' uk 10 ?_ ?_;rotate_left
         ·intro u ⟨_,_,_,_⟩;go_simp;try with_reducible rfl
         try go_frame
         have kK:Hid (Row aI 3 (az (X.setCell ⟨w.heap.size+1+1,5,none⟩ (.slice e9 l9 c9))) (X.setCell ⟨w.heap.size+1+1,5,none⟩ (.slice e9 l9 c9)) (w9.setCell ⟨w.heap.size+1+1,5,none⟩ (.slice e9 l9 c9)) 62 (.slice e9 l9 c9) (L5.take (k+1))):=dU.vE aI.ae lG _
         have uQ:Hid (PB w (X.setCell ⟨w.heap.size+1+1,5,none⟩ (.slice e9 l9 c9)) [.slice a0 n0 m0,.slice a1 n1 m1,.slice a2 n2 m2,.slice a3 n3 m3,.slice a4 n4 m4,.slice (some ⟨B,off,none⟩) n5 m5] [.slice none 0 0,.slice none 0 0,.slice none 0 0,.slice none 0 0,.slice none 0 0,.slice none 0 0] [.slice b0 n0 k0,.slice b1 n1 k1,.slice b2 n2 k2,.slice b3 n3 k3,.slice b4 n4 k4,.slice e9 l9 c9]):=hB.out.set 5 _ (by simp)
         have uM:Hid (G4 (X.setCell ⟨w.heap.size+1+1,5,none⟩ (.slice e9 l9 c9))):=BG.out _ _ hG.out (Kept.set (az.not (by have:=hsz.out;have:=lG;simp;omega)) _)
         obtain ⟨_,q8,f8,_⟩:=gH
         refine uz 11 (fun K hK=>?_)
         go_simp
         refine hK.out _ (NoPanic.normal ?_)
         try go_frame
         clear hK K
         go_wp2_with fail
         go_roundw
         case rel=>exact ⟨k+1,_,_,by omega,by go_num,uQ,kK,uM⟩
         case measure=>simp [intOf];omega
        ·have hltz:¬ ((k:Int)<(n5:Int)):=by omega
         have uI:L5.take k=L5:=List.take_of_length_le (by rw [yE.out];omega)
         rw [uI] at hrow
         obtain ⟨b5,k5,rfl,hS5⟩:=hrow.out.lD (bytes:=48) aI.ae (by rw [yE.out];exact sj.out)
         have Ns:=iP.of aI.ae hrow.out
         rw [yE.out] at hS5 hB Ns
         have Dw:W3.heap.size<=X.heap.size:=hB.out.fr hsz.out X.heap.size (Nat.le_refl _)
         have JE:X.heap.size<=wr.heap.size:=hbX.size
         have JN:hi4<=X.heap.size:=(o4.out X hG.out).2
         obtain ⟨BV,Km⟩:∃ n,n=X.heap.size:=⟨_,rfl⟩
         obtain ⟨hi5,Ku⟩:∃ n,n=wr.heap.size:=⟨_,rfl⟩
         have Sw:hi5<=wr.heap.size:=Nat.le_of_eq Ku
         rw [<- Km,<- Ku] at Ns JE
         rw [<- Km] at Dw JN
         obtain ⟨G5,QR,g5,i5,o5⟩:=dE.dX (u:=wr) BG.out (BG.out _ _ hG.out (Kept.below hbX)) aI.ae Ns Dw Sw
         have HC5:Hid (W3.heap.size<=BV/\BV<=hi5/\hi4<=BV):=⟨Dw,JE,JN⟩
         clear Ns Dw JE Sw Km Ku JN
         replace QR:Hid (dE W3 G5):=QR
         replace i5:Hid (∀ v,G5 v->_):=i5
         replace o5:Hid (∀ v,G5 v->_):=o5
         replace g5:Hid (G5 wr):=g5
         have C5:Hid (PB w wr [.slice a0 n0 m0,.slice a1 n1 m1,.slice a2 n2 m2,.slice a3 n3 m3,.slice a4 n4 m4,.slice a5 n5 m5] [.slice none 0 0,.slice none 0 0,.slice none 0 0,.slice none 0 0,.slice none 0 0,.slice none 0 0] [.slice b0 n0 k0,.slice b1 n1 k1,.slice b2 n2 k2,.slice b3 n3 k3,.slice b4 n4 k4,.slice b5 n5 k5]):=hB.out.on hbX
         clear hS5 hrow hB hG hbX hBw uI
         obtain ⟨V5,Z9⟩:∃ V,V=wr:=⟨_,rfl⟩
         rw [<- Z9] at g5 C5 p5 pf5 |-
         clear Z9
         have HK:Hid (∀ u,Kept (az W3) V5 u->aK (az w) u [.slice b0 n0 k0,.slice b1 n1 k1,.slice b2 n2 k2,.slice b3 n3 k3,.slice b4 n4 k4,.slice b5 n5 k5] (L0,L1,L2,L3,L4,L5)/\H9 w u FN lo1 lo2 lo3 BX BV hi0 hi1 hi2 hi3 hi4 hi5 (.slice b0 n0 k0) (.slice b1 n1 k1) (.slice b2 n2 k2) (.slice b3 n3 k3) (.slice b4 n4 k4) (.slice b5 n5 k5) (L0,L1,L2,L3,L4,L5)/\hi5<=u.heap.size):=fun u hk=>by
          have Om:=QR.out _ _ g5.out hk
          have UI:=i5.out _ Om
          have UJ:=i4.out _ UI
          have Ir:=i3.out _ UJ
          have UK:=i2.out _ Ir
          have G0v:=i1.out _ UK
          obtain ⟨b0',k0',e0,sl0⟩:=(o0.out _ G0v).1.sl (bytes:=296) aj.ae (by rw [yG.out];exact HB0.out)
          rw [yG.out] at e0 sl0
          obtain ⟨rfl,rfl⟩:b0=b0'/\k0=k0':=by simpa using e0
          obtain ⟨b1',k1',e1,sl1⟩:=(o1.out _ UK).1.sl (bytes:=112) av.ae (by rw [yF.out];exact HB1.out)
          rw [yF.out] at e1 sl1
          obtain ⟨rfl,rfl⟩:b1=b1'/\k1=k1':=by simpa using e1
          obtain ⟨b2',k2',e2,sl2⟩:=(o2.out _ Ir).1.sl (bytes:=80) ai.ae (by rw [HL2.out];exact HB2.out)
          rw [HL2.out] at e2 sl2
          obtain ⟨rfl,rfl⟩:b2=b2'/\k2=k2':=by simpa using e2
          obtain ⟨b3',MH,e3,Zo⟩:=(o3.out _ UJ).1.sl (bytes:=56) aA.ae (by rw [CQ.out];exact HB3.out)
          rw [CQ.out] at e3 Zo
          obtain ⟨rfl,rfl⟩:b3=b3'/\k3=MH:=by simpa using e3
          obtain ⟨vQ,k4',e4,Zn⟩:=(o4.out _ UI).1.sl (bytes:=24) aH.ae (by rw [CP.out];exact nC.out)
          rw [CP.out] at e4 Zn
          obtain ⟨rfl,rfl⟩:b4=vQ/\k4=k4':=by simpa using e4
          obtain ⟨b5',k5',e5,Zm⟩:=(o5.out _ Om).1.sl (bytes:=48) aI.ae (by rw [yE.out];exact sj.out)
          rw [yE.out] at e5 Zm
          obtain ⟨rfl,rfl⟩:b5=b5'/\k5=k5':=by simpa using e5
          have x0:=UE.out;have x1:=rZ.out;have x2:=tZ.out;have x3:=Io.out;have x4:=UD.out;have x5:=HC5.out;have xs:=hsz.out
          exact ⟨aK.mk (x:=(L0,L1,L2,L3,L4,L5)) (h0:=(b0,n0,k0)) (h1:=(b1,n1,k1)) (h2:=(b2,n2,k2)) (h3:=(b3,n3,k3)) (h4:=(b4,n4,k4)) (h5:=(b5,n5,k5)) (sl0.weak aj.ae (fun b _ hb=>show w.heap.size<=b by have hb1:FN<=b:=hb.1;omega)) (sl1.weak av.ae (fun b _ hb=>show w.heap.size<=b by have hb1:lo1<=b:=hb.1;omega)) (sl2.weak ai.ae (fun b _ hb=>show w.heap.size<=b by have hb1:lo2<=b:=hb.1;omega)) (Zo.weak aA.ae (fun b _ hb=>show w.heap.size<=b by have hb1:lo3<=b:=hb.1;omega)) (Zn.weak aH.ae (fun b _ hb=>show w.heap.size<=b by have hb1:BX<=b:=hb.1;omega)) (Zm.weak aI.ae (fun b _ hb=>show w.heap.size<=b by have hb1:BV<=b:=hb.1;omega)),⟨by omega,by omega,(o0.out _ G0v).1,(o1.out _ UK).1,(o2.out _ Ir).1,(o3.out _ UJ).1,(o4.out _ UI).1,(o5.out _ Om).1⟩,(o5.out _ Om).2⟩
         have HI:Hid ((prog.info? 29).map (·.size)=some ([.slice b0 n0 k0,.slice b1 n1 k1,.slice b2 n2 k2,.slice b3 n3 k3,.slice b4 n4 k4,.slice b5 n5 k5]:List Value).length):=oN
         have H1:Hid ((([.slice b0 n0 k0,.slice b1 n1 k1,.slice b2 n2 k2,.slice b3 n3 k3,.slice b4 n4 k4,.slice b5 n5 k5]:List Value).toArray).all (·.oneCell')=true):=all_oneCell_toArray (aK.ae.one (HK.out _ (Kept.refl _ _)).1)
         obtain ⟨fs,hfs⟩:∃ fs:List Value,fs=[.slice b0 n0 k0,.slice b1 n1 k1,.slice b2 n2 k2,.slice b3 n3 k3,.slice b4 n4 k4,.slice b5 n5 k5]:=⟨_,rfl⟩
         rw [<- hfs] at C5 HI H1
         have hfl:fs.length=6:=by rw [hfs];rfl
         have HFS:Hid (fs=[.slice b0 n0 k0,.slice b1 n1 k1,.slice b2 n2 k2,.slice b3 n3 k3,.slice b4 n4 k4,.slice b5 n5 k5]):=hfs
         clear hfs
         have HQ:Hid (V5.rangeAt (w.heap.size+1+1) 0 fs):=C5.out.q.range
         have HZ:Hid (V5.there (w.heap.size+1) 0 fs.toArray.size):=by have e:fs.toArray.size=6:=(by simp [hfl]);rw [Hid,e];exact C5.out.z.there
         have fE:Hid ((V5.setCells (w.heap.size+1) 0 fs).rangeAt (w.heap.size+1) 0 fs):=World.rangeAt_setCells_same _ _ _ _ (by have e:fs.toArray.size=fs.length:=(by simp);have:=HZ.out;rwa [e] at this)
         have HE:=HK.out _ (dP (b:=w.heap.size+1) (o:=0) (vs:=fs) (az.not (by have:=hsz.out;omega)))
         have HE2:Hid (Nl w (L0,L1,L2,L3,L4,L5) (.returned (.agg fs.toArray)) (V5.setCells (w.heap.size+1) 0 fs)):=⟨FN,lo1,lo2,lo3,BX,BV,hi0,hi1,hi2,hi3,hi4,hi5,_,_,_,_,_,_,by rw [HFS.out],HE.2.1,HE.2.2,HE.1,cu C5.out.b (by omega)⟩
         have vk:Hid (Below w.heap.size w (V5.setCells (w.heap.size+1) 0 fs)):=cu C5.out.b (by omega)
         have nz:Hid (fs.length=fs.toArray.size):=by simp [Hid]
         clear C5 HK hfl g5 HE HFS
         go_wp2_with (first | (refine wpList_load_mid rfl 29 _ rfl (w.heap.size+1+1) 0 rfl fs _ HQ.out underlying29 rfl HI.out ?_) | (refine wpList_store_mid rfl 29 _ _ rfl (w.heap.size+1) 0 fs.toArray rfl rfl HZ.out (nz.out ▸ HI.out) H1.out ?_) | fail)
         refine bodyPost_ret (v:=.agg fs.toArray) (En (p:=2) (ty:=29) rfl _ _ (w.heap.size+1) fs _ rfl fE.out underlying29 rfl HI.out) rfl HE2.out
end Go.Proofs.YtgikfenllgldoaaGreat
