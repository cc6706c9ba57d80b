/- Functions of the program, each walked under the conditions that its theorem names. -/
import Derived.Laws.MakeOwn
import Derived.Test.YtgikfenllgldoaaGreatQ41
import Derived.Test.YtgikfenllgldoaaGreatQ42
set_option linter.unusedSimpArgs false
set_option maxRecDepth 100000
set_option maxHeartbeats 32000000
namespace Go.Proofs.YtgikfenllgldoaaGreat
open Go.Proofs.Tryz
open Go.RowKit Go.Maps
def dw (x:aP):List bC:=(aZ x.2.1).map (fun n=>sW n (fZ (aS x.1) n.1))
theorem Xo:(prog.info? 70).map (fun i=>(i.zero,i.size,i.bytes))=some (some (.agg #[.string ⟨#[]⟩,.slice none 0 0,.slice none 0 0,.bool false,.int .i64 0,.int .i64 0,.int .i64 0,.int .i64 0,.int .i64 0,.slice none 0 0,.int .i64 0,.int .i64 0,.int .i64 0,.slice none 0 0,.slice none 0 0]),15,208):=by kernel_rfl
theorem Et {α:Type} [Inhabited α] {R:bI α} {k:Nat} (hR:aJ R k) {A:Where} {u:World} {B:Nat} {cs:List Value} {x:α} (hb:af u B cs) (hr:R A u cs x):Src R k A u (some ⟨B,0,none⟩) 1 [x]:=by
 refine ⟨rfl,.inr ⟨⟨B,0,none⟩,cs,rfl,⟨by rw [hR.len hr];simp,fun i hi=>?_⟩,fun j y hj=>?_,hR.one hr⟩⟩
 ·obtain rfl:i=0:=by simpa using hi
  exact ⟨cs,hr,fun j _=>by rw [Nat.zero_mul,Nat.zero_add]⟩
 ·have:=(hb.2 j y hj).1
  by_cases h0:j=0
  ·subst h0;simpa [Addr.add] using this
  ·simpa [Addr.add,h0] using this
theorem aY.VD {A:Where} {w:World} {cs:List Value} {q:bC} (h:aY A w cs q):∃ i0 i1 i2 i3 i4 i5 i6 i7 i8 i9 i10 i11 i12 i13 i14:Value,cs=[i0,i1,i2,i3,i4,i5,i6,i7,i8,i9,i10,i11,i12,i13,i14]:=by
 obtain ⟨_,_,_,_,_,rfl,_⟩:=h.out
 exact ⟨_,_,_,_,_,_,_,_,_,_,_,_,_,_,_,rfl⟩
theorem A9:(prog.info? 70).map (·.size)=some 15:=by kernel_rfl
theorem zHT {α β:Type} [Inhabited α] (f:α->β) {L:List α} {k:Nat} (h:k<L.length):(L.map f).take (k+1)=(L.map f).take k++[f (L.getD k default)]:=by
 rw [<- List.map_take,<- List.map_take,List.take_succ_eq_append_getElem h,List.map_append,List.getD_eq_getElem?_getD,List.getElem?_eq_getElem h];rfl
def qm (D:Where) (w:World):Where:=fun b=>D b\/w.heap.size<=b
theorem zHK (D:Where) (cs:List Value) (x:aP) (w:World) (h:Hid (aK D w cs x)) (hF:Hid (∀ s,vH (fZ (aS x.1) s))) (hb:(aZ x.2.1).length*208<=140737488351232) :
  Calls prog 29 #[.agg cs.toArray] w fun e w'=>∃ v,e=.returned v/\Row aY 15 (qm D w) w w' 70 v (dw x):=by
 obtain ⟨⟨a0,n0,m0⟩,⟨a1,n1,m1⟩,⟨a2,n2,m2⟩,⟨a3,n3,m3⟩,⟨a4,n4,m4⟩,⟨a5,n5,m5⟩,rfl,s0,s1,_⟩:=h.out.out
 simp only at s0 s1
 have hl0:Hid (x.1.length=n0/\n0*296<=140737488351232):=⟨s0.1,s0.2.2.2.1⟩
 have hl1:Hid (x.2.1.length=n1/\n1*112<=140737488351232):=⟨s1.1,s1.2.2.2.1⟩
 obtain ⟨W1,hW1⟩:∃ W,W=w.alloc (.cells #[.slice a0 n0 m0,.slice a1 n1 m1,.slice a2 n2 m2,.slice a3 n3 m3,.slice a4 n4 m4,.slice a5 n5 m5] 29):=⟨_,rfl⟩
 have B1:Below w.heap.size w W1:=by rw [hW1];go_grown
 have q1:af W1 w.heap.size [.slice a0 n0 m0,.slice a1 n1 m1,.slice a2 n2 m2,.slice a3 n3 m3,.slice a4 n4 m4,.slice a5 n5 m5]:=by rw [hW1];exact af.new w 29 _
 have f0:=(q1.2 0 _ rfl).1
 have hlt1:=q1.1
 have HB1:Hid (Below w.heap.size w W1):=B1
 have NQ:Hid (∀ u,Below W1.heap.size W1 u->ag av 9 112 D u a1 n1 m1 x.2.1/\u.cell? ⟨w.heap.size,1,none⟩=some (.slice a1 n1 m1)/\w.heap.size<u.heap.size):=fun u hu=>⟨s1.on av.ae (ah B1 hu),((q1.on hu).2 1 _ rfl).1,(q1.on hu).1⟩
 have hC:=zEx a0 n0 m0 _ x.1 W1 (s0.on aj.ae B1)
 clear h s0 s1 B1 q1
 go_enter func29,ntmps29
 go_upto_region 1 with fail
 rw [<- hW1]
 clear hW1
 go_wp2_with fail
 refine hC.mono ?_
 rintro e u1 ⟨v,rfl,hr⟩
 clear hC f0
 have d1:Below W1.heap.size W1 u1:=hr.below
 obtain ⟨ga,gc,rfl,sg⟩:=hr.sl (bytes:=296) aj.ae (by have h1:=hl0.out;have h2:=Qc x.1;omega)
 have hC:=zEk ga _ gc _ (aS x.1) u1 sg
 have HI:Hid (dw x=(aZ x.2.1).map (fun n=>sW n (fZ (aS x.1) n.1))):=rfl
 have Te:(aS x.1).length<=n0:=by have h1:=hl0.out;have h2:=Qc x.1;omega
 clear hr sg
 have Gq:Hid ((aS x.1).length<=n0):=Te
 generalize aS x.1=PF at hC HI hF Gq Te |-
 obtain ⟨gl,hgl⟩:∃ l,PF.length=l:=⟨_,rfl⟩
 rw [hgl] at hC Te |-
 clear hgl
 go_wp2_with fail
 refine hC.mono ?_
 rintro e u2 ⟨mb,f,rfl,hg⟩
 clear hC
 have d2:Below u1.heap.size u1 u2:=hg.below
 have lh:Below W1.heap.size W1 u2:=ah d1 d2
 obtain ⟨sN,f1,hlt2⟩:=NQ.out u2 lh
 have hC:=zE0 a1 n1 m1 _ x.2.1 u2 sN
 have HG:Hid (iq (fun b=>((D b/\b<W1.heap.size)\/az W1 b)/\b<u1.heap.size) u1 u2 mb gl f PF):=hg
 clear sN hg d1 d2 NQ
 go_wp2_with fail
 refine hC.mono ?_
 rintro e W3 ⟨v,rfl,hr⟩
 clear hC f1
 have d3:Below u2.heap.size u2 W3:=hr.below
 obtain ⟨na,nc,rfl,sn⟩:=hr.sl (bytes:=112) av.ae (by have h1:=hl1.out;have h2:=ED x.2.1;omega)
 have hnl:(aZ x.2.1).length<=n1:=by have h1:=hl1.out;have h2:=ED x.2.1;omega
 have hnb:n1<=140737488351232:=by have h1:=hl1.out;omega
 have HB3:Hid (Below w.heap.size w W3):=ah (ah HB1.out lh) d3
 have HGr:Hid (iq (fun b=>((D b/\b<W1.heap.size)\/az W1 b)/\b<u1.heap.size) u1 W3 mb gl f PF):=HG.out.on d3
 have hsz2:w.heap.size<=u2.heap.size:=Nat.le_trans HB1.out.size lh.size
 have UA:Hid (ag av 9 112 (fun b=>qm D w b/\b<W3.heap.size) W3 na (aZ x.2.1).length nc (aZ x.2.1)):=sn.weak av.ae (fun b hb ha=>⟨by
  rcases ha with ha | ha
  ·exact .inl ha.1
  ·exact .inr (Nat.le_trans hsz2 ha),hb⟩)
 have HS2:Hid (w.heap.size<=W3.heap.size):=HB3.out.size
 clear hsz2
 have tX:Hid ((aZ x.2.1).length=(aZ x.2.1).length):=rfl
 clear hr sn HG lh hlt2
 generalize hNF:aZ x.2.1=NF at HI UA hb hnl tX |-
 clear hNF
 have hll:Hid (NF.length=NF.length):=rfl
 obtain ⟨nl,JC⟩:∃ l,NF.length=l:=⟨_,rfl⟩
 have HNL:Hid (NF.length=nl):=JC
 rw [JC] at UA hb hnl |-
 clear JC tX hll
 obtain ⟨i0,hi0,hz0,hz1,hz2⟩:=info_parts Xo
 obtain ⟨W4,hmk,hown,hg4⟩:=run_make_own (P:=prog) W3 W3.heap.size 64 70 i0 _ 15 underlying64 hi0 hz0 hz1 .i64 .i64 nl (by rw [hz2];omega) (by unfold maxLen;omega) (Nat.le_refl _)
 have B4:Below W3.heap.size W3 W4:=(Below.refl _ _).grown hg4 (Nat.le_refl _) (fun k e=>by cases e)
 obtain ⟨M,hM⟩:∃ M,NF.map (fun n=>sW n (fZ PF n.1))=M:=⟨_,rfl⟩
 have HM:Hid (∀ k,k<nl->M.take (k+1)=M.take k++[sW (NF.getD k default) (fZ PF (NF.getD k default).1)]):=fun k hk=>by rw [<- hM];exact zHT _ (by rw [HNL.out];exact hk)
 have HML:Hid (M.length=nl):=by rw [Hid,<- hM,List.length_map];exact HNL.out
 rw [hM] at HI
 clear hM
 have H4:Hid (Row aY 15 (qm D w) W3 W4 70 (.slice (some ⟨W3.heap.size,0,none⟩) 0 nl) (M.take 0)):=⟨[],⟨B4,hown⟩,aW.nil _ _⟩
 clear hown hg4 B4 hi0 hz0 hz1 hz2
 go_upto_region 4 with fail
 clear hmk
 go_wp2_with fail
 go_loopw [5,20] (fun o i wr=>∃ k:Nat,k<=nl/\i=.int .i64 k/\Hid (Row aY 15 (qm D w) W3 wr 70 o (M.take k))) (fun _ i _=>nl - (intOf i).toNat)
 case atStart=>exact ⟨0,Nat.zero_le _,rfl,H4⟩
 case round =>
  obtain ⟨k,hk,rfl,hrow⟩:=hrel
  have hbw:Below W3.heap.size W3 wr:=hrow.out.below
  by_cases hlt:k<nl
  ·have hltz:(k:Int)<(nl:Int):=by omega
   obtain ⟨B,off,wU,hBl,wT,xs,hrn,hv⟩:=(UA.out.kept av.ae (Kept.below hbw)).get hlt
   subst wU
   have HT:Hid (M.take (k+1)=M.take k++[sW (NF.getD k default) (fZ PF (NF.getD k default).1)]):=HM.out k hlt
   generalize NF.getD k default=x9 at hrn HT
   obtain ⟨hsz,v1,v2,v3,v4,v5,v6,v7,v8,rfl⟩:=hrn.lY
   have HV:Hid (wr.rangeAt B (off+k*9) [.string x9.1,v1,v2,v3,v4,v5,v6,v7,v8]):=hv
   have hi:(prog.info? 56).map (·.size)=some ([.string x9.1,v1,v2,v3,v4,v5,v6,v7,v8]:List Value).length:=LV
   have H1:Hid ((([.string x9.1,v1,v2,v3,v4,v5,v6,v7,v8]:List Value).toArray).all (·.oneCell')=true):=all_oneCell_toArray (av.ae.one hrn)
   have HA:Hid (av (fun b=>qm D w b/\b<W3.heap.size) wr [.string x9.1,v1,v2,v3,v4,v5,v6,v7,v8] x9):=hrn
   clear hrn hv
   obtain ⟨wb,hwb⟩:∃ wb,wb=(wr.alloc (.cells #[.string ⟨#[]⟩,.slice none 0 0,.slice none 0 0,.bool false,.int .i64 0,.int .i64 0,.int .i64 0,.int .i64 0,.int .i64 0] 56)).setCells wr.heap.size 0 [.string x9.1,v1,v2,v3,v4,v5,v6,v7,v8]:=⟨_,rfl⟩
   have eD:Hid ((wr.alloc (.cells #[.string ⟨#[]⟩,.slice none 0 0,.slice none 0 0,.bool false,.int .i64 0,.int .i64 0,.int .i64 0,.int .i64 0,.int .i64 0] 56)).there wr.heap.size 0 9):=(af.new wr 56 [.string ⟨#[]⟩,.slice none 0 0,.slice none 0 0,.bool false,.int .i64 0,.int .i64 0,.int .i64 0,.int .i64 0,.int .i64 0]).there
   have gz:Hid (af wb wr.heap.size [.string x9.1,v1,v2,v3,v4,v5,v6,v7,v8]):=by rw [hwb];exact wH wr 56 [.string ⟨#[]⟩,.slice none 0 0,.slice none 0 0,.bool false,.int .i64 0,.int .i64 0,.int .i64 0,.int .i64 0,.int .i64 0] [.string x9.1,v1,v2,v3,v4,v5,v6,v7,v8] rfl
   have eF:Hid (Below wr.heap.size wr wb):=by rw [hwb];exact cu ((Below.refl _ _).alloc (Nat.le_refl _) _) (Nat.le_refl _)
   have gZ:Hid (wb=(wr.alloc (.cells #[.string ⟨#[]⟩,.slice none 0 0,.slice none 0 0,.bool false,.int .i64 0,.int .i64 0,.int .i64 0,.int .i64 0,.int .i64 0] 56)).setCells wr.heap.size 0 (([.string x9.1,v1,v2,v3,v4,v5,v6,v7,v8]:List Value).toArray).toList):=hwb
   clear hwb
   have c0:=(gz.out.2 0 _ rfl).1
   have fE:Hid (wb.rangeAt wr.heap.size 0 [.string x9.1,v1,v2,v3,v4,v5,v6,v7,v8]):=gz.out.range
   have g9:iq (fun b=>((D b/\b<W1.heap.size)\/az W1 b)/\b<u1.heap.size) u1 wb mb gl f PF:=HGr.out.on (ah hbw eF.out)
   have hlk:=g9.map.look 109 underlying109 hsz
   obtain ⟨fa,fc,hfe,sf⟩:=(g9.row x9.1).sl (bytes:=296) aj.ae (by have h1:=hl0.out;have h2:(fZ PF x9.1).length<=PF.length:=List.length_filter_le _ _;have h3:=Gq.out;omega)
   rw [hfe] at hlk
   have hC:=Jf [.string x9.1,v1,v2,v3,v4,v5,v6,v7,v8] fa (fZ PF x9.1).length fc (fun b=>qm D w b/\b<W3.heap.size) _ x9 (fZ PF x9.1) wb (av.ae.kept HA.out (Kept.below eF.out)) sf (hF.out x9.1)
   clear g9 sf hfe
   have hlb:=gz.out.1
   generalize sW x9 (fZ PF x9.1)=iv at hC HT
   generalize (fZ PF x9.1).length=fl at hC hlk
   go_wp2_with (first | (refine wpList_load_mid rfl 56 _ rfl B (off+k*9) rfl [.string x9.1,v1,v2,v3,v4,v5,v6,v7,v8] _ HV.out underlying56 rfl hi ?_) | (refine wpList_store_mid rfl 56 _ _ rfl wr.heap.size 0 (([.string x9.1,v1,v2,v3,v4,v5,v6,v7,v8]:List Value).toArray) rfl rfl eD.out hi H1.out ?_;refine iJ gZ.out ?_) | (refine wpList_load_mid rfl 56 _ rfl wr.heap.size 0 rfl [.string x9.1,v1,v2,v3,v4,v5,v6,v7,v8] _ fE.out underlying56 rfl hi ?_) | fail)
   refine hC.mono ?_
   rintro e z5 ⟨is,rfl,hin,_,d5⟩
   clear hC hlk c0 HV eD gZ H1
   have b5:Below wr.heap.size wr z5:=ah eF.out d5
   obtain ⟨i0,i1,i2,i3,i4,i5,i6,i7,i8,i9,i10,i11,i12,i13,i14,rfl⟩:=hin.info.VD
   obtain ⟨z6,MI⟩:∃ z6,z6=z5.alloc (.cells #[i0,i1,i2,i3,i4,i5,i6,i7,i8,i9,i10,i11,i12,i13,i14] 70):=⟨_,rfl⟩
   have d6:Below z5.heap.size z5 z6:=by rw [MI];exact (Below.refl _ _).alloc (Nat.le_refl _) _
   have q6:af z6 z5.heap.size [i0,i1,i2,i3,i4,i5,i6,i7,i8,i9,i10,i11,i12,i13,i14]:=by rw [MI];exact af.new z5 70 [i0,i1,i2,i3,i4,i5,i6,i7,i8,i9,i10,i11,i12,i13,i14]
   have vC:Row aY 15 (qm D w) W3 z6 70 u5 (M.take k):=hrow.out.on aY.ae (ah b5 d6)
   have Su:aY (fun b=>qm D w b/\u5.ownBlock≠some b) z6 [i0,i1,i2,i3,i4,i5,i6,i7,i8,i9,i10,i11,i12,i13,i14] iv:=aY.ae.weak (hin.on d6).info (fun b _ hb=>⟨by
    rcases hb with hb | hb
    ·exact hb.1
    ·exact .inr (Nat.le_trans HS2.out (Nat.le_trans hbw.size (Nat.le_trans eF.out.size hb))),fun e=>by
    have h1:=hrow.out.lt e
    have h2:=eF.out.size
    rcases hb with hb | hb
    ·have h3:b<W3.heap.size:=hb.2;omega
    ·have h3:wb.heap.size<=b:=hb;omega⟩)
   have jo:Hid (Src aY 15 (fun b=>qm D w b/\u5.ownBlock≠some b) z6 (some ⟨z5.heap.size,0,none⟩) 1 [iv]):=Et aY.ae q6 Su
   have ib:Hid (Row aY 15 (qm D w) W3 z6 70 u5 (M.take k)):=vC
   have jQ:Hid (((M.take k).length+[iv].length)*208<=140737488355328):=by rw [Hid,List.length_singleton,List.length_take];omega
   have HZ6:Hid (z6=z5.alloc (.cells #[i0,i1,i2,i3,i4,i5,i6,i7,i8,i9,i10,i11,i12,i13,i14] 70)):=MI
   have H1i:Hid ((([i0,i1,i2,i3,i4,i5,i6,i7,i8,i9,i10,i11,i12,i13,i14]:List Value).toArray).all (·.oneCell')=true):=all_oneCell_toArray hin.one
   clear MI d6 q6 vC Su hin b5 d5 hrow fE gz eF HA hbw
   go_wp2_with (at_builtin;refine iJ HZ6.out ?_;go_must (refine ui aY.ae (A:=qm D w) (w0:=W3) rfl _ _ 64 70 rfl _ 208 Xo underlying64 rfl (by decide) (by decide) u5 (M.take k) rfl ib.out (some ⟨_,0,none⟩) 1 1 [iv] rfl jo.out jQ.out ?_);intro v7 u7 jG jR hw7)
   have HN:Hid (Row aY 15 (qm D w) W3 u7 70 v7 (M.take (k+1))):=by rw [Hid,HT.out];exact jG
   clear jG jR hw7 HT jo ib jQ HZ6 H1i
   go_roundw
   case rel=>exact ⟨k+1,by omega,by go_num,HN⟩
   case measure=>simp [intOf];omega
  ·obtain rfl:nl=k:=by omega
   have htk:M.take nl=M:=List.take_of_length_le (by rw [HML.out];exact Nat.le_refl _)
   rw [htk] at hrow
   have HE:Hid (Row aY 15 (qm D w) w wr 70 u5 (dw x)):=by rw [Hid,HI.out];exact hrow.out.from aY.ae HB3.out (fun _ h=>h)
   clear hrow hbw htk
   go_wp2_with fail
   go_ret
   exact ⟨_,rfl,HE.out⟩
theorem zHn {w:World} {T:eu} {ts:List Value} {A A':Where} {N:Nat} {g:bP->aG->Int} {oF:aG->Int} (z:bP->Bool) (hz:∀ t∈dJ T,(z t.1=true↔∀ d,iY d->g t.1 d=0)) (a:Option Addr) (n cap:Nat) (L:List aG) (hM:Hid (dZ w T N g oF)) (hT':Hid (di A w ts T)) (hL:Hid (ag ak 2 32 A' w a n cap L)) :
  Calls prog 74 #[.agg ts.toArray,.slice a n cap] w fun e w'=>e=.returned (.int .i64 (Dc T L g z oF))/\Below w.heap.size w w':=by
 have oz:Hid (di A w ts T):=hT'
 obtain ⟨⟨a1,n1,m1⟩,⟨a2,n2,m2⟩,⟨a3,n3,m3⟩,rfl,_,_,_,_⟩:=hT'.out.out
 simp only at oz |-
 obtain ⟨W1,hW1⟩:∃ W,W=w.alloc (.cells #[.string T.1,.slice a1 n1 m1,.slice a2 n2 m2,.slice a3 n3 m3,.map (some T.2.2.2.2)] 159):=⟨_,rfl⟩
 have B1:Below w.heap.size w W1:=by rw [hW1];go_grown
 have q0:af W1 w.heap.size [.string T.1,.slice a1 n1 m1,.slice a2 n2 m2,.slice a3 n3 m3,.map (some T.2.2.2.2)]:=by rw [hW1];exact af.new w 159 _
 have HQ:Hid (∀ u,Below W1.heap.size W1 u->af u w.heap.size [.string T.1,.slice a1 n1 m1,.slice a2 n2 m2,.slice a3 n3 m3,.map (some T.2.2.2.2)]/\Below w.heap.size w u):=fun u hb=>⟨q0.on hb,ah B1 hb⟩
 have rZ:Hid (∀ u,Below W1.heap.size W1 u->Calls prog 106 #[.agg #[.string T.1,.slice a1 n1 m1,.slice a2 n2 m2,.slice a3 n3 m3,.map (some T.2.2.2.2)],.slice a n cap] u fun e w'=>e=.returned (.bool ((dJ T).any (fun t=>qI T.2.1 L g z t.1)))/\Below u.heap.size u w'):=fun u hb=>zFT z hz a n cap L (hM.out.below (ah B1 hb)) (di.ae.kept oz.out (Kept.below (ah B1 hb))) (hL.out.on ak.ae (ah B1 hb))
 have tZ:Hid (∀ u,Below W1.heap.size W1 u->Calls prog 107 #[.agg #[.string T.1,.slice a1 n1 m1,.slice a2 n2 m2,.slice a3 n3 m3,.map (some T.2.2.2.2)],.slice a n cap] u fun e w'=>e=.returned (.bool ((dO T).any (fun t=>qM L g t.1)))/\Below u.heap.size u w'):=fun u hb=>zEQ z hz a n cap L (hM.out.below (ah B1 hb)) (di.ae.kept oz.out (Kept.below (ah B1 hb))) (hL.out.on ak.ae (ah B1 hb))
 have Io:Hid (∀ u,Below W1.heap.size W1 u->Calls prog 108 #[.agg #[.string T.1,.slice a1 n1 m1,.slice a2 n2 m2,.slice a3 n3 m3,.map (some T.2.2.2.2)],.slice a n cap] u fun e w'=>e=.returned (.bool (L.any (tO L oF)))/\Below u.heap.size u w'):=fun u hb=>zDP z hz a n cap L (hM.out.below (ah B1 hb)) (di.ae.kept oz.out (Kept.below (ah B1 hb))) (hL.out.on ak.ae (ah B1 hb))
 unfold Dc
 clear hM hT' hL oz q0 hz
 generalize (dJ T).any (fun t=>qI T.2.1 L g z t.1)=x1 at rZ |-
 generalize (dO T).any (fun t=>qM L g t.1)=x2 at tZ |-
 generalize L.any (tO L oF)=x3 at Io |-
 have y0:=((HQ.out W1 (Below.refl _ _)).1.2 0 _ rfl).1;have y1:=((HQ.out W1 (Below.refl _ _)).1.2 1 _ rfl).1;have y2:=((HQ.out W1 (Below.refl _ _)).1.2 2 _ rfl).1;have y3:=((HQ.out W1 (Below.refl _ _)).1.2 3 _ rfl).1;have y4:=((HQ.out W1 (Below.refl _ _)).1.2 4 _ rfl).1
 go_enter func74,ntmps74
 go_upto_region 1 with fail
 rw [<- hW1]
 clear hW1
 go_wp2_with fail
 refine (rZ.out W1 (Below.refl _ _)).mono ?_
 rintro e w2 ⟨rfl,hb2⟩
 clear rZ y0 y1 y2 y3 y4
 cases x1
 ·
  obtain ⟨k0,_⟩:=HQ.out w2 hb2
  have y0:=(k0.2 0 _ rfl).1;have y1:=(k0.2 1 _ rfl).1;have y2:=(k0.2 2 _ rfl).1;have y3:=(k0.2 3 _ rfl).1;have y4:=(k0.2 4 _ rfl).1
  clear k0
  go_wp2_with fail
  refine (tZ.out w2 hb2).mono ?_
  rintro e w3 ⟨rfl,hb3⟩
  have mf:=ah hb2 hb3
  clear tZ y0 y1 y2 y3 y4 hb3
  cases x2
  ·
   obtain ⟨k0,_⟩:=HQ.out w3 mf
   have y0:=(k0.2 0 _ rfl).1;have y1:=(k0.2 1 _ rfl).1;have y2:=(k0.2 2 _ rfl).1;have y3:=(k0.2 3 _ rfl).1;have y4:=(k0.2 4 _ rfl).1
   clear k0
   go_wp2_with fail
   refine (Io.out w3 mf).mono ?_
   rintro e w4 ⟨rfl,hb4⟩
   have HB:Hid (Below w.heap.size w w4):=(HQ.out w4 (ah mf hb4)).2
   clear Io y0 y1 y2 y3 y4 hb4
   cases x3
   ·go_wp2_with fail
    go_ret
    exact ⟨rfl,HB.out⟩
   ·go_wp2_with fail
    go_ret
    exact ⟨rfl,HB.out⟩
  ·have HB:Hid (Below w.heap.size w w3):=(HQ.out w3 mf).2
   go_wp2_with fail
   go_ret
   exact ⟨rfl,HB.out⟩
 ·have HB:Hid (Below w.heap.size w w2):=(HQ.out w2 hb2).2
  go_wp2_with fail
  go_ret
  exact ⟨rfl,HB.out⟩
theorem Px (t:bP) (A:List aM) (x:aM):eQ (cT t A) (hT t x) 1=cT t (A++[x]):=by
 funext d
 unfold eQ cT one
 rw [List.map_append,List.sum_append]
 simp
theorem Py (P:List aG) (A:List aM) (x:aM):(fun d=>cO P A d+1*cX P x (bB x.1) d)=cO P (A++[x]):=by
 funext d
 unfold cO
 rw [List.map_append,List.sum_append]
 simp
def cost (l:List aM):Nat:=(l.map (fun x=>1+(bB x.1).length)).sum
theorem XZ (l:List aM) (x:aM):cost (l++[x])=cost l+(1+(bB x.1).length):=by unfold cost;rw [List.map_append,List.sum_append];simp
theorem GJ (l:List aM) (k:Nat):cost (l.take k)<=cost l:=by
 have:cost l=cost (l.take k)+cost (l.drop k):=by
  unfold cost
  rw [<- List.sum_append,<- List.map_append,List.take_append_drop]
 omega
theorem Yz (name:ByteArray) (l:List aM) (x:aM):bR name (l++[x])=bR name l++(if ay x.1.1 name=true then [] else [x]):=by
 unfold bR
 rw [List.filter_append]
 congr 1
 cases h:ay x.1.1 name <;> simp [h]
theorem KG (nm:ByteArray) (B:List aM) (x:aM):(if ay x.1.1 nm=true then (fun t=>cT t (bR nm B)) else fun t=>eQ (cT t (bR nm B)) (hT t x) 1)=fun t=>cT t (bR nm (B++[x])):=by
 rw [Yz]
 cases ay x.1.1 nm
 ·exact funext (fun t=>Px t _ x)
 ·simp
theorem KH (P:List aG) (nm:ByteArray) (B:List aM) (x:aM):(if ay x.1.1 nm=true then cO P (bR nm B) else fun d=>cO P (bR nm B) d+1*cX P x (bB x.1) d)=cO P (bR nm (B++[x])):=by
 rw [Yz]
 cases ay x.1.1 nm
 ·exact Py P _ x
 ·simp
theorem Oz (T:eu) (p:aB) (L:List aG) (A:List aM) (hl:T.2.1=bG p) (ha:(dJ T).map Prod.fst=jI p) (hb:(dO T).map Prod.fst=bB p):Dc T L (fun t=>cT t A) (fun t=>eT t A) (cO (bG p) A)=IE (bG p) (jI p) (bB p) L A:=by
 unfold Dc IE
 rw [<- ha,<- hb,hl,List.any_map,List.any_map]
 rfl
theorem Fp {A:Where} {w:World} {a:Option Addr} {n cap:Nat} {L:List aM} (h:ag aL 17 320 A w a n cap L):∀ x∈L,∀ l∈x.2,iY l:=fun x hx=>by
 have hl:=h.1
 obtain ⟨i,hi,rfl⟩:=List.mem_iff_getElem.1 hx
 obtain ⟨B,off,_,_,_,cs,hr,_⟩:=h.get (i:=i) (by omega)
 rw [List.getD_eq_getElem?_getD,List.getElem?_eq_getElem hi] at hr
 obtain ⟨_,_,h16,_,_,_,_,_,_,s⟩:=hr.reads
 exact AU s
theorem Oy {A:Where} {w:World} {a:Option Addr} {n cap:Nat} {L:List iO} (h:ag bM 3 48 A w a n cap L):∀ t∈L,t.1.2.size<=140737488355328:=fun x hx=>by
 have hl:=h.1
 obtain ⟨i,hi,rfl⟩:=List.mem_iff_getElem.1 hx
 obtain ⟨B,off,_,_,_,cs,hr,_⟩:=h.get (i:=i) (by omega)
 rw [List.getD_eq_getElem?_getD,List.getElem?_eq_getElem hi] at hr
 obtain ⟨_,_,_,s⟩:=hr.out
 exact s
theorem zHZ {name:ByteArray} {l:List aM} {x:aM} (h:x∈bR name l):x∈l:=(List.mem_filter.1 h).1
structure Run (T:eu) (W wr:World) (ts:List Value) (P:List aG) (A:List aM) (N:Nat):Prop where
 m:dZ wr T N (fun t=>cT t A) (cO P A)
 t:bq (fun b=>b∈dQ T) W wr
theorem zEc (cs:List Value) (A A' A'':Where) (p:aB) (a:Option Addr) (n cap:Nat) (L:List aG) (b:Option Addr) (m gX:Nat) (Pl:List aM) (w:World) (hp:Hid (aj A w cs p)) (hL:Hid (ag ak 2 32 A' w a n cap L)) (hP:Hid (ag aL 17 320 A'' w b m gX Pl)) (hn:(jI p).length<1000000000) (hm:(bB p).length<1000000000) (MR:cost Pl<70368744177000) :
  Calls prog 51 #[.agg cs.toArray,.slice a n cap,.slice b m gX] w fun e w'=>e=.returned (.int .i64 (wP p L Pl))/\Below w.heap.size w w':=by
 have hiP:(prog.info? 41).map (·.size)=some cs.length:=by rw [aj.ae.len hp.out];exact QI
 obtain ⟨W1,hW1⟩:∃ W,W=w.alloc (.cells cs.toArray 41):=⟨_,rfl⟩
 have B1:Below w.heap.size w W1:=by rw [hW1];go_grown
 have jq:Hid (W1.rangeAt w.heap.size 0 cs):=by rw [Hid,hW1];exact (af.new w 41 cs).range
 have HTo:=zEP cs A p W1 (aj.ae.kept hp.out (Kept.below B1)) hn hm
 have HLw:Hid (ag ak 2 32 (fun b=>b<w.heap.size) w a n cap L):=hL.out.weak ak.ae (fun b hb _=>hb)
 have HPw:Hid (ag aL 17 320 (fun b=>b<w.heap.size) w b m gX Pl):=hP.out.weak aL.ae (fun b hb _=>hb)
 have lg:Hid (Pl.length=m):=hP.out.1
 have hmb:m<140737488355328:=by have:=hP.out.2.2.2.1;omega
 have HPO:Hid (∀ x∈Pl,∀ l∈x.2,iY l):=Fp hP.out
 have HB1:Hid (Below w.heap.size w W1):=B1
 clear hp hL hP hn hm B1
 go_enter func51,ntmps51
 go_upto_region 1 with fail
 rw [<- hW1]
 clear hW1
 go_wp2_with (first | (refine wpList_load_mid rfl 41 _ rfl w.heap.size 0 rfl cs _ jq.out underlying41 rfl hiP ?_) | fail)
 refine HTo.mono ?_
 rintro e w2 ⟨ts,T,rfl,h0,hb2⟩
 clear HTo jq hiP
 obtain ⟨⟨a1,n1,m1⟩,⟨a2,n2,m2⟩,⟨a3,n3,m3⟩,rfl,_,s1,s2,s3⟩:=h0.r.out
 simp only at s1 s2 s3
 obtain ⟨W3,hW3⟩:∃ W,W=w2.alloc (.cells #[.string T.1,.slice a1 n1 m1,.slice a2 n2 m2,.slice a3 n3 m3,.map (some T.2.2.2.2)] 159):=⟨_,rfl⟩
 have B3:Below w2.heap.size w2 W3:=by rw [hW3];go_grown
 have q3:af W3 w2.heap.size [.string T.1,.slice a1 n1 m1,.slice a2 n2 m2,.slice a3 n3 m3,.map (some T.2.2.2.2)]:=by rw [hW3];exact af.new w2 159 _
 have M9:Below w.heap.size w W3:=ah (ah HB1.out hb2) B3
 have hfw:∀ b∈dQ T,w.heap.size<=b:=fun b hb=>Nat.le_trans HB1.out.size (h0.f b hb)
 have ZC:NM T w2.heap.size:=fun h=>absurd (h0.m.lt h) (Nat.lt_irrefl _)
 have CB:Hid (∀ t∈dJ T,t.1.2.size<=140737488355328):=Oy s2
 have HQ:Hid (∀ u,bq (fun b=>b∈dQ T) W3 u->af u w2.heap.size [.string T.1,.slice a1 n1 m1,.slice a2 n2 m2,.slice a3 n3 m3,.map (some T.2.2.2.2)]/\di (NM T) u [.string T.1,.slice a1 n1 m1,.slice a2 n2 m2,.slice a3 n3 m3,.map (some T.2.2.2.2)] T/\ag ak 2 32 (NM T) u a n cap L/\ag aL 17 320 (NM T) u b m gX Pl/\Below w.heap.size w u):=fun u ht =>
  have k:=BZ ht
  have nm:∀ b,b<W3.heap.size->b<w.heap.size->NM T b:=fun b _ h1 h2=>by have:=hfw b h2;omega
  ⟨q3.kept k ZC,di.ae.kept (di.ae.kept (di.ae.weak h0.r (fun _ _ h=>h.1)) (Kept.below B3)) k,((HLw.out.on ak.ae M9).weak ak.ae nm).kept ak.ae k,((HPw.out.on aL.ae M9).weak aL.ae nm).kept aL.ae k,bq.behind M9 (ht.weak (fun b _ h=>hfw b h))⟩
 have abP:Hid (Run T W3 W3 [.string T.1,.slice a1 n1 m1,.slice a2 n2 m2,.slice a3 n3 m3,.map (some T.2.2.2.2)] (bG p) (bR p.1 (Pl.take 0)) (cost (Pl.take 0))):=⟨h0.m.below B3,bq.refl _ _⟩
 have CE:Hid (T.1=p.1/\T.2.1=bG p/\(dJ T).map Prod.fst=jI p/\(dO T).map Prod.fst=bB p):=⟨h0.n,h0.l,h0.a,h0.b⟩
 have hszW:Hid (W3.heap.size=w2.heap.size+1):=by rw [Hid,hW3];simp
 clear h0 s1 s2 s3 q3 HLw HPw B3 M9 hb2 hfw ZC HB1
 go_upto_region 2 with fail
 rw [<- hW3]
 clear hW3
 go_wp2_with fail
 go_loopw [14] (fun i wr=>∃ k:Nat,k<=m/\i=.int .i64 k/\Hid (Run T W3 wr [.string T.1,.slice a1 n1 m1,.slice a2 n2 m2,.slice a3 n3 m3,.map (some T.2.2.2.2)] (bG p) (bR p.1 (Pl.take k)) (cost (Pl.take k)))) (fun i _=>m - (intOf i).toNat)
 case atStart=>exact ⟨0,Nat.zero_le _,rfl,abP⟩
 case round =>
  obtain ⟨k,hk,rfl,hrun⟩:=hrel
  obtain ⟨k0,k1,k2,k3,k4⟩:=HQ.out wr hrun.out.t
  by_cases hlt:k<m
  ·
   obtain ⟨B,off,rfl,hB,iL,xs,hr,hv⟩:=k3.get hlt
   have HT1:Hid (Pl.take k++[Pl.getD k default]=Pl.take (k+1)):=PS (by rw [lg.out];exact hlt)
   have hck:=GJ Pl (k+1)
   rw [<- HT1.out,XZ] at hck
   have HT3:Hid (cost (Pl.take (k+1))=cost (Pl.take k)+(1+(bB (Pl.getD k default).1).length)):=by rw [Hid,<- HT1.out];exact XZ _ _
   generalize Pl.getD k default=x at hr HT1 HT3 hck
   have wo:xs.length=17:=aL.ae.len hr
   have kM:(prog.info? 145).map (·.size)=some xs.length:=by rw [wo];exact Ls
   have yQ:(prog.info? 145).map (·.size)=some xs.toArray.size:=by simpa using kM
   have HO:Hid (xs.toArray.all (·.oneCell')=true):=all_oneCell_toArray (aL.ae.one hr)
   have HV:Hid (wr.rangeAt B (off+k*17) xs):=hv
   have mJ:Hid ((wr.alloc (.cells #[.string ⟨#[]⟩,.int .i64 0,.slice none 0 0,.int .i64 0,.int .i64 0,.int .i64 0,.slice none 0 0,.slice none 0 0,.slice none 0 0,.slice none 0 0,.slice none 0 0,.slice none 0 0,.slice none 0 0,.slice none 0 0,.string ⟨#[]⟩,.string ⟨#[]⟩,.slice none 0 0] 145)).rangeAt B (off+k*17) xs):=fun j v hj=>(((Below.refl _ wr).alloc (Nat.le_refl _) _).cell hB).trans (hv j v hj)
   obtain ⟨V,hV⟩:∃ V,V=(wr.alloc (.cells #[.string ⟨#[]⟩,.int .i64 0,.slice none 0 0,.int .i64 0,.int .i64 0,.int .i64 0,.slice none 0 0,.slice none 0 0,.slice none 0 0,.slice none 0 0,.slice none 0 0,.slice none 0 0,.slice none 0 0,.slice none 0 0,.string ⟨#[]⟩,.string ⟨#[]⟩,.slice none 0 0] 145)).setCells wr.heap.size 0 xs:=⟨_,rfl⟩
   have eP:Hid ((wr.alloc (.cells #[.string ⟨#[]⟩,.int .i64 0,.slice none 0 0,.int .i64 0,.int .i64 0,.int .i64 0,.slice none 0 0,.slice none 0 0,.slice none 0 0,.slice none 0 0,.slice none 0 0,.slice none 0 0,.slice none 0 0,.slice none 0 0,.string ⟨#[]⟩,.string ⟨#[]⟩,.slice none 0 0] 145)).there wr.heap.size 0 xs.toArray.size):=by have e:xs.toArray.size=17:=(by simp [wo]);rw [Hid,e];exact (af.new wr 145 [.string ⟨#[]⟩,.int .i64 0,.slice none 0 0,.int .i64 0,.int .i64 0,.int .i64 0,.slice none 0 0,.slice none 0 0,.slice none 0 0,.slice none 0 0,.slice none 0 0,.slice none 0 0,.slice none 0 0,.slice none 0 0,.string ⟨#[]⟩,.string ⟨#[]⟩,.slice none 0 0]).there
   have bV:Below wr.heap.size wr V:=by rw [hV];exact cu ((Below.refl _ _).alloc (Nat.le_refl _) _) (Nat.le_refl _)
   have qV:af V wr.heap.size xs:=by rw [hV];exact dL (af.new wr 145 [.string ⟨#[]⟩,.int .i64 0,.slice none 0 0,.int .i64 0,.int .i64 0,.int .i64 0,.slice none 0 0,.slice none 0 0,.slice none 0 0,.slice none 0 0,.slice none 0 0,.slice none 0 0,.slice none 0 0,.slice none 0 0,.string ⟨#[]⟩,.string ⟨#[]⟩,.slice none 0 0]) (by rw [wo];rfl)
   have fA:Hid (V=(wr.alloc (.cells #[.string ⟨#[]⟩,.int .i64 0,.slice none 0 0,.int .i64 0,.int .i64 0,.int .i64 0,.slice none 0 0,.slice none 0 0,.slice none 0 0,.slice none 0 0,.slice none 0 0,.slice none 0 0,.slice none 0 0,.slice none 0 0,.string ⟨#[]⟩,.string ⟨#[]⟩,.slice none 0 0] 145)).setCells wr.heap.size 0 xs.toArray.toList):=by rw [Hid,hV]
   have Uq:=zFS (w:=V) 1 (hrun.out.m.below bV) (di.ae.kept k1 (Kept.below bV)) (aL.ae.kept hr (Kept.below bV)) (by omega) (.inl rfl)
   have xm:(if ay x.1.1 T.1=true then (fun t=>cT t (bR p.1 (Pl.take k))) else fun t=>eQ (cT t (bR p.1 (Pl.take k))) (hT t x) 1)=fun t=>cT t (bR p.1 (Pl.take (k+1))):=by rw [CE.out.1,KG,HT1.out]
   have HE2:(if ay x.1.1 T.1=true then cO (bG p) (bR p.1 (Pl.take k)) else fun d=>cO (bG p) (bR p.1 (Pl.take k)) d+1*cX T.2.1 x (bB x.1) d)=cO (bG p) (bR p.1 (Pl.take (k+1))):=by rw [CE.out.1,CE.out.2.1,KH,HT1.out]
   rw [xm,HE2] at Uq
   have HN:Hid (∀ u,dZ u T (cost (Pl.take k)+1+(bB x.1).length) (fun t=>cT t (bR p.1 (Pl.take (k+1)))) (cO (bG p) (bR p.1 (Pl.take (k+1))))->bq (fun b=>b∈dQ T) V u->Run T W3 u [.string T.1,.slice a1 n1 m1,.slice a2 n2 m2,.slice a3 n3 m3,.map (some T.2.2.2.2)] (bG p) (bR p.1 (Pl.take (k+1))) (cost (Pl.take (k+1)))):=fun u h1 h2=>by
    rw [HT3.out]
    rw [Nat.add_assoc] at h1
    exact ⟨h1,(hrun.out.t.trans (bq.below bV)).trans h2⟩
   obtain ⟨y0,y1,y2,y3,y4⟩:(V.cell? ⟨w2.heap.size,0,none⟩=some (.string T.1))/\(V.cell? ⟨w2.heap.size,1,none⟩=some (.slice a1 n1 m1))/\(V.cell? ⟨w2.heap.size,2,none⟩=some (.slice a2 n2 m2))/\(V.cell? ⟨w2.heap.size,3,none⟩=some (.slice a3 n3 m3))/\(V.cell? ⟨w2.heap.size,4,none⟩=some (.map (some T.2.2.2.2))):=⟨((k0.on bV).2 0 _ rfl).1,((k0.on bV).2 1 _ rfl).1,((k0.on bV).2 2 _ rfl).1,((k0.on bV).2 3 _ rfl).1,((k0.on bV).2 4 _ rfl).1⟩
   have NU:Hid (V.rangeAt wr.heap.size 0 xs):=qV.range
   clear hr hv hrun k0 k1 k2 k3 k4 bV qV hV HV HT1 HT3 xm HE2
   have iF:Hid (wr.rangeAt B (off+k*17) xs):=fun j v hj=>by have h1:=mJ.out j v hj;rwa [(((Below.refl _ wr).alloc (Nat.le_refl _) _).cell hB)] at h1
   go_wp2_with (first | (refine wpList_load_mid rfl 145 _ rfl B (off+k*17) rfl xs _ iF.out underlying145 rfl kM ?_) | (refine wpList_load_mid rfl 145 _ rfl B (off+k*17) rfl xs _ mJ.out underlying145 rfl kM ?_) | (refine wpList_store_mid rfl 145 _ _ rfl wr.heap.size 0 xs.toArray rfl rfl eP.out yQ HO.out ?_;refine kF fA.out ?_) | (refine wpList_load_mid rfl 145 _ rfl wr.heap.size 0 rfl xs _ NU.out underlying145 rfl kM ?_) | fail)
   refine Uq.mono ?_
   rintro e w6 ⟨rfl,Gg,Gb⟩
   have ku:=HN.out w6 Gg Gb
   clear Uq Gg Gb HN NU mJ iF eP HO fA y0 y1 y2 y3 y4
   go_wp2_with fail
   go_roundw
   case rel=>exact ⟨k+1,by omega,by go_num,ku⟩
   case measure=>simp [intOf];omega
  ·
   have zR:k=m:=by omega
   have htk:Pl.take k=Pl:=List.take_of_length_le (by rw [lg.out];omega)
   rw [htk] at hrun
   have Uk:=zHn (w:=wr) (fun t=>eT t (bR p.1 Pl)) (fun t ht=>TK (CB.out t ht) (fun x hx=>HPO.out x (zHZ hx))) a n cap L hrun.out.m k1 k2
   rw [Oz T p L (bR p.1 Pl) CE.out.2.1 CE.out.2.2.1 CE.out.2.2.2] at Uk
   have HB:Hid (Below w.heap.size w wr):=k4
   have y0:=(k0.2 0 _ rfl).1;have y1:=(k0.2 1 _ rfl).1;have y2:=(k0.2 2 _ rfl).1;have y3:=(k0.2 3 _ rfl).1;have y4:=(k0.2 4 _ rfl).1
   clear k0 k1 k2 k3 k4 hrun htk zR
   go_wp2_with fail
   refine Uk.mono ?_
   rintro e w7 ⟨rfl,iK⟩
   have CV:Hid (Below w.heap.size w w7):=ah HB.out iK
   clear Uk iK y0 y1 y2 y3 y4
   go_wp2_with fail
   go_ret
   exact ⟨rfl,CV.out⟩
end Go.Proofs.YtgikfenllgldoaaGreat
