/- The law FeasibleElse, walked. Condition: the arguments lie as is said of them, and hold little enough. -/
import Derived.Test.YtgikfenllgldoaaGreatQ52
import Derived.Test.YtgikfenllgldoaaGreatQ13
set_option linter.unusedSimpArgs false
set_option maxRecDepth 100000
set_option maxHeartbeats 32000000
namespace Go.Proofs.YtgikfenllgldoaaGreat
open Go.Proofs.Tryz
open Go.RowKit Go.Maps
theorem Row.wA {α:Type} [Inhabited α] {R:bI α} {k:Nat} (hR:aJ R k) {A A':Where} {w0 u:World} {e:TypeId} {v:Value} {L:List α} (h:Row R k A w0 u e v L) (hA:∀ b,A b->A' b):Row R k A' w0 u e v L:=by
 obtain ⟨xs,h1,h2⟩:=h
 exact ⟨xs,h1,h2.weak hR (fun b _ h=>⟨hA b h.1,h.2⟩)⟩
theorem E9 {A0 A1 A2 A3 A4 A5:Where} {w u:World} {g0 g1 g2 g3 g4 g5:Value} {x:aP} {P:List aB} (r0:Row aj 16 A0 w u 41 g0 P) (r1:Row av 9 A1 w u 56 g1 x.2.1) (r2:Row ai 5 A2 w u 59 g2 x.2.2.1) (r3:Row aA 4 A3 w u 124 g3 x.2.2.2.1) (r4:Row aH 2 A4 w u 180 g4 x.2.2.2.2.1) (r5:Row aI 3 A5 w u 62 g5 x.2.2.2.2.2) {A:Where} {wz:World} {cs:List Value} (hR:aK A wz cs x) (b0:P.length*296<=140737488351232) :
  aK (fun _=>True) u [g0,g1,g2,g3,g4,g5] (P,x.2):=by
 obtain ⟨k0,k1,k2,k3,k4,k5,-,s0,s1,s2,s3,s4,s5⟩:=hR.out
 have b1:=s1.2.2.2.1
 have b2:=s2.2.2.2.1
 have b3:=s3.2.2.2.1
 have b4:=s4.2.2.2.1
 have b5:=s5.2.2.2.1
 have l1:=s1.1
 have l2:=s2.1
 have l3:=s3.1
 have l4:=s4.1
 have l5:=s5.1
 obtain ⟨a0,n0,m0,rfl,t0⟩:=r0.iW (bytes:=296) aj.ae (by omega)
 obtain ⟨a1,n1,m1,rfl,t1⟩:=r1.iW (bytes:=112) av.ae (by omega)
 obtain ⟨a2,n2,m2,rfl,t2⟩:=r2.iW (bytes:=80) ai.ae (by omega)
 obtain ⟨a3,n3,m3,rfl,t3⟩:=r3.iW (bytes:=56) aA.ae (by omega)
 obtain ⟨a4,n4,m4,rfl,t4⟩:=r4.iW (bytes:=24) aH.ae (by omega)
 obtain ⟨a5,n5,m5,rfl,t5⟩:=r5.iW (bytes:=48) aI.ae (by omega)
 exact aK.mk (x:=(P,x.2)) (h0:=(a0,n0,m0)) (h1:=(a1,n1,m1)) (h2:=(a2,n2,m2)) (h3:=(a3,n3,m3)) (h4:=(a4,n4,m4)) (h5:=(a5,n5,m5)) t0 t1 t2 t3 t4 t5
theorem Xy (q:aB) (s:ByteArray):fH (setNode q s)=fH q:=rfl
theorem Jg (q:aB) (s:ByteArray):aF (setNode q s)=s:=rfl
theorem Jh (q:aB) (s:ByteArray):(setNode q s).1=q.1:=rfl
theorem X0 {w4 wB w5 u:World} {c0 c1 c2 c3 c4 c5 d0 d1 d2 d3 d4 d5:Nat} {v0 v1 v2 v3 v4 v5 v9:Value} {x:aP} {q:aB} {A0:Where} (ho:H9 w4 w5 c0 c1 c2 c3 c4 c5 d0 d1 d2 d3 d4 d5 v0 v1 v2 v3 v4 v5 x) (hB:wB.heap.size<=c0) (hk:Kept (fun b=>c1<=b/\b<d5) w5 u) (hr:Row aj 16 A0 wB u 41 v9 (x.1++[q])) {A:Where} {wz:World} {cs:List Value} (hR:aK A wz cs x) (b0:(x.1++[q]).length*296<=140737488351232):aK (fun _=>True) u [v9,v1,v2,v3,v4,v5] (x.1++[q],x.2):=by
 have o:=ho.o
 have hb:=hr.below
 have kk:∀ lo hi,c1<=lo->hi<=d5->Kept (CX lo hi) w5 u:=fun lo hi h1 h2=>⟨hk.1,fun b ha hb=>hk.2 b ⟨Nat.le_trans h1 ha.1,Nat.lt_of_lt_of_le ha.2 h2⟩ hb⟩
 exact E9 hr ((ho.n.kept av.ae (kk _ _ (by omega) (by omega))).row hb (by omega)) ((ho.v.kept ai.ae (kk _ _ (by omega) (by omega))).row hb (by omega)) ((ho.c.kept aA.ae (kk _ _ (by omega) (by omega))).row hb (by omega)) ((ho.k.kept aH.ae (kk _ _ (by omega) (by omega))).row hb (by omega)) ((ho.b.kept aI.ae (kk _ _ (by omega) (by omega))).row hb (by omega)) hR b0
theorem Gz (cs:List Value) (x:aP) (ps:List Value) (p:aB) (qs:List Value) (q:aB) (s:ByteArray) (w:World) (hx:aK (fun _=>True) w cs x) (hp:aj (fun _=>True) w ps p) (hq:aj (fun _=>True) w qs q) (hs:s.size<=140737488355328) (hm:bg fH x.1+x.2.1.length+fH p+fH q<=8388608) :
  Calls prog 3 #[.agg cs.toArray,.agg ps.toArray,.agg qs.toArray,.string s] w fun e w'=>e=.returned (.bool true)/\Below w.heap.size w w':=by
 have mG:(prog.info? 29).map (·.size)=some cs.length:=by rw [aK.ae.len hx];exact oN
 have hsum:∀ r:aB,bg fH (x.1++[r])=bg fH x.1+fH r:=fun r=>by rw [Ma];simp [bg]
 have hf1:tF x p:=Ep (by omega)
 have hf2:tF (x.1++[setNode q ⟨#[]⟩],x.2) p:=Ep (by
  have h1:=hsum (setNode q ⟨#[]⟩)
  have h2:=Xy q ⟨#[]⟩
  show bg fH (x.1++[setNode q ⟨#[]⟩])+x.2.1.length+fH p<=_
  omega)
 have hf3:tF (x.1++[setNode p s],x.2) p:=Ep (by
  have h1:=hsum (setNode p s)
  have h2:=Xy p s
  show bg fH (x.1++[setNode p s])+x.2.1.length+fH p<=_
  omega)
 have hlen:Hid (∀ r:aB,(x.1++[r]).length*296<=140737488351232):=fun r=>by
  have h1:=LU (f:=fun _=>1) (g:=fH) (fun q=>by unfold fH;omega) x.1
  rw [Es] at h1
  rw [List.length_append,List.length_singleton]
  omega
 have e2:jY (aR (x.1++[setNode q ⟨#[]⟩],x.2) p.1) p s=jY (aR x p.1) p s:=Pm x _ (Jg _ _) p s
 have e3:jY (aR (x.1++[setNode p s],x.2) p.1) p s=jY (aR x p.1) p s:=by rw [Kl x _ p.1 (Jh _ _)]
 obtain ⟨⟨r1,k1⟩,hr1⟩:∃ r,r=jY (aR x p.1) p s:=⟨_,rfl⟩
 have HR1:Hid (jY (aR x p.1) p s=(r1,k1)):=hr1.symm
 have HR2:Hid (jY (aR (x.1++[setNode q ⟨#[]⟩],x.2) p.1) p s=(r1,k1)):=e2.trans hr1.symm
 have HR3:Hid (jY (aR (x.1++[setNode p s],x.2) p.1) p s=(r1,k1)):=e3.trans hr1.symm
 clear hr1 e2 e3 hsum hm
 obtain ⟨h2,h6,h7,h8,h9,h10,h11,h12,aO,rfl,-⟩:=hp.out
 obtain ⟨g2,g6,g7,g8,g9,g10,g11,g12,g13,rfl,-⟩:=hq.out
 obtain ⟨W1,hW1⟩:∃ W,W=w.alloc (.cells cs.toArray 29):=⟨_,rfl⟩
 obtain ⟨W2,hW2⟩:∃ W,W=W1.alloc (.cells #[.string p.1,.int .i64 p.2.1,.slice h2.1 h2.2.1 h2.2.2,.int .i64 p.2.2.2.1.1,.int .i64 p.2.2.2.1.2.1,.int .i64 p.2.2.2.1.2.2,.slice h6.1 h6.2.1 h6.2.2,.slice h7.1 h7.2.1 h7.2.2,.slice h8.1 h8.2.1 h8.2.2,.slice h9.1 h9.2.1 h9.2.2,.slice h10.1 h10.2.1 h10.2.2,.slice h11.1 h11.2.1 h11.2.2,.slice h12.1 h12.2.1 h12.2.2,.slice aO.1 aO.2.1 aO.2.2,.string p.2.2.2.2.2.2.2.2.2.2.2.2.1,.string p.2.2.2.2.2.2.2.2.2.2.2.2.2] 41):=⟨_,rfl⟩
 obtain ⟨W3,hW3⟩:∃ W,W=W2.alloc (.cells #[.string q.1,.int .i64 q.2.1,.slice g2.1 g2.2.1 g2.2.2,.int .i64 q.2.2.2.1.1,.int .i64 q.2.2.2.1.2.1,.int .i64 q.2.2.2.1.2.2,.slice g6.1 g6.2.1 g6.2.2,.slice g7.1 g7.2.1 g7.2.2,.slice g8.1 g8.2.1 g8.2.2,.slice g9.1 g9.2.1 g9.2.2,.slice g10.1 g10.2.1 g10.2.2,.slice g11.1 g11.2.1 g11.2.2,.slice g12.1 g12.2.1 g12.2.2,.slice g13.1 g13.2.1 g13.2.2,.string q.2.2.2.2.2.2.2.2.2.2.2.2.1,.string q.2.2.2.2.2.2.2.2.2.2.2.2.2] 41):=⟨_,rfl⟩
 have B1:Below w.heap.size w W1:=by rw [hW1];exact (Below.refl _ _).alloc (Nat.le_refl _) _
 have B2:Below W1.heap.size W1 W2:=by rw [hW2];exact (Below.refl _ _).alloc (Nat.le_refl _) _
 have B3:Below W2.heap.size W2 W3:=by rw [hW3];exact (Below.refl _ _).alloc (Nat.le_refl _) _
 have z1:W1.heap.size=w.heap.size+1:=by rw [hW1];simp
 have z2:W2.heap.size=w.heap.size+1+1:=by rw [hW2];simp [z1]
 have z3:W3.heap.size=w.heap.size+1+1+1:=by rw [hW3];simp [z2]
 have qa:af W3 w.heap.size cs:=by refine af.on (af.on ?_ B2) B3;rw [hW1];exact af.new w 29 _
 have qb:af W3 (w.heap.size+1) [.string p.1,.int .i64 p.2.1,.slice h2.1 h2.2.1 h2.2.2,.int .i64 p.2.2.2.1.1,.int .i64 p.2.2.2.1.2.1,.int .i64 p.2.2.2.1.2.2,.slice h6.1 h6.2.1 h6.2.2,.slice h7.1 h7.2.1 h7.2.2,.slice h8.1 h8.2.1 h8.2.2,.slice h9.1 h9.2.1 h9.2.2,.slice h10.1 h10.2.1 h10.2.2,.slice h11.1 h11.2.1 h11.2.2,.slice h12.1 h12.2.1 h12.2.2,.slice aO.1 aO.2.1 aO.2.2,.string p.2.2.2.2.2.2.2.2.2.2.2.2.1,.string p.2.2.2.2.2.2.2.2.2.2.2.2.2]:=by refine af.on ?_ B3;rw [<- z1,hW2];exact af.new W1 41 _
 have qc:af W3 (w.heap.size+1+1) [.string q.1,.int .i64 q.2.1,.slice g2.1 g2.2.1 g2.2.2,.int .i64 q.2.2.2.1.1,.int .i64 q.2.2.2.1.2.1,.int .i64 q.2.2.2.1.2.2,.slice g6.1 g6.2.1 g6.2.2,.slice g7.1 g7.2.1 g7.2.2,.slice g8.1 g8.2.1 g8.2.2,.slice g9.1 g9.2.1 g9.2.2,.slice g10.1 g10.2.1 g10.2.2,.slice g11.1 g11.2.1 g11.2.2,.slice g12.1 g12.2.1 g12.2.2,.slice g13.1 g13.2.1 g13.2.2,.string q.2.2.2.2.2.2.2.2.2.2.2.2.1,.string q.2.2.2.2.2.2.2.2.2.2.2.2.2]:=by rw [<- z2,hW3];exact af.new W2 41 _
 have BB:Below w.heap.size w W3:=ah (ah B1 B2) B3
 have Co:=zEV W3
 have Hz3:Hid (W3.heap.size=w.heap.size+1+1+1):=z3
 have HA:Hid (∀ u,Below W3.heap.size W3 u->aK (fun b=>b<w.heap.size) u cs x/\aj (fun b=>b<w.heap.size) u [.string p.1,.int .i64 p.2.1,.slice h2.1 h2.2.1 h2.2.2,.int .i64 p.2.2.2.1.1,.int .i64 p.2.2.2.1.2.1,.int .i64 p.2.2.2.1.2.2,.slice h6.1 h6.2.1 h6.2.2,.slice h7.1 h7.2.1 h7.2.2,.slice h8.1 h8.2.1 h8.2.2,.slice h9.1 h9.2.1 h9.2.2,.slice h10.1 h10.2.1 h10.2.2,.slice h11.1 h11.2.1 h11.2.2,.slice h12.1 h12.2.1 h12.2.2,.slice aO.1 aO.2.1 aO.2.2,.string p.2.2.2.2.2.2.2.2.2.2.2.2.1,.string p.2.2.2.2.2.2.2.2.2.2.2.2.2] p/\aj (fun b=>b<w.heap.size) u [.string q.1,.int .i64 q.2.1,.slice g2.1 g2.2.1 g2.2.2,.int .i64 q.2.2.2.1.1,.int .i64 q.2.2.2.1.2.1,.int .i64 q.2.2.2.1.2.2,.slice g6.1 g6.2.1 g6.2.2,.slice g7.1 g7.2.1 g7.2.2,.slice g8.1 g8.2.1 g8.2.2,.slice g9.1 g9.2.1 g9.2.2,.slice g10.1 g10.2.1 g10.2.2,.slice g11.1 g11.2.1 g11.2.2,.slice g12.1 g12.2.1 g12.2.2,.slice g13.1 g13.2.1 g13.2.2,.string q.2.2.2.2.2.2.2.2.2.2.2.2.1,.string q.2.2.2.2.2.2.2.2.2.2.2.2.2] q/\af u w.heap.size cs/\af u (w.heap.size+1) [.string p.1,.int .i64 p.2.1,.slice h2.1 h2.2.1 h2.2.2,.int .i64 p.2.2.2.1.1,.int .i64 p.2.2.2.1.2.1,.int .i64 p.2.2.2.1.2.2,.slice h6.1 h6.2.1 h6.2.2,.slice h7.1 h7.2.1 h7.2.2,.slice h8.1 h8.2.1 h8.2.2,.slice h9.1 h9.2.1 h9.2.2,.slice h10.1 h10.2.1 h10.2.2,.slice h11.1 h11.2.1 h11.2.2,.slice h12.1 h12.2.1 h12.2.2,.slice aO.1 aO.2.1 aO.2.2,.string p.2.2.2.2.2.2.2.2.2.2.2.2.1,.string p.2.2.2.2.2.2.2.2.2.2.2.2.2]/\af u (w.heap.size+1+1) [.string q.1,.int .i64 q.2.1,.slice g2.1 g2.2.1 g2.2.2,.int .i64 q.2.2.2.1.1,.int .i64 q.2.2.2.1.2.1,.int .i64 q.2.2.2.1.2.2,.slice g6.1 g6.2.1 g6.2.2,.slice g7.1 g7.2.1 g7.2.2,.slice g8.1 g8.2.1 g8.2.2,.slice g9.1 g9.2.1 g9.2.2,.slice g10.1 g10.2.1 g10.2.2,.slice g11.1 g11.2.1 g11.2.2,.slice g12.1 g12.2.1 g12.2.2,.slice g13.1 g13.2.1 g13.2.2,.string q.2.2.2.2.2.2.2.2.2.2.2.2.1,.string q.2.2.2.2.2.2.2.2.2.2.2.2.2]/\Below w.heap.size w u):=fun u hu=>by
  have hb:=ah BB hu
  exact ⟨aK.ae.kept (aK.ae.weak hx (A':=fun b=>b<w.heap.size) (fun b h _=>h)) (Kept.below hb),aj.ae.kept (aj.ae.weak hp (A':=fun b=>b<w.heap.size) (fun b h _=>h)) (Kept.below hb),aj.ae.kept (aj.ae.weak hq (A':=fun b=>b<w.heap.size) (fun b h _=>h)) (Kept.below hb),qa.on hu,qb.on hu,qc.on hu,hb⟩
 clear hx hp hq qa qb qc B1 B2 B3 z1 z2 z3 BB
 go_enter func3,ntmps3
 go_upto_region 1 with fail
 rw [<- hW1,<- hW2,<- hW3]
 clear hW1 hW2 hW3
 go_wp2_with fail
 refine Co.mono ?_
 rintro e w4 ⟨rfl,b4⟩
 clear Co
 have NK:Hid (w4.rangeAt w.heap.size 0 cs):=(HA.out w4 b4).2.2.2.1.range
 have hS1:=X7 cs _ x w4 (HA.out w4 b4).1
 go_wp2_with (first | (refine wpList_load_mid rfl 29 _ rfl w.heap.size 0 rfl cs _ NK.out underlying29 rfl mG ?_) | fail)
 refine hS1.mono ?_
 rintro e w5 ⟨c0,c1,c2,c3,c4,c5,d0,d1,d2,d3,d4,d5,y0,y1,y2,y3,y4,y5,rfl,ho,hd5,Gc,b5⟩
 clear hS1 NK
 obtain ⟨⟨a0,n0,m0⟩,⟨a1,n1,m1⟩,⟨a2,n2,m2⟩,⟨a3,n3,m3⟩,⟨a4,n4,m4⟩,⟨a5,n5,m5⟩,he,-⟩:=Gc.out
 simp only [List.cons.injEq,and_true] at he
 obtain ⟨rfl,rfl,rfl,rfl,rfl,rfl⟩:=he
 clear Gc
 go_upto_region 4 with fail
 obtain ⟨W6,MS⟩:∃ W,W=w5.alloc (.cells #[.slice a0 n0 m0,.slice a1 n1 m1,.slice a2 n2 m2,.slice a3 n3 m3,.slice a4 n4 m4,.slice a5 n5 m5] 29):=⟨_,rfl⟩
 rw [<- MS]
 have B6:Below w5.heap.size w5 W6:=by rw [MS];exact (Below.refl _ _).alloc (Nat.le_refl _) _
 have qT:af W6 w5.heap.size [.slice a0 n0 m0,.slice a1 n1 m1,.slice a2 n2 m2,.slice a3 n3 m3,.slice a4 n4 m4,.slice a5 n5 m5]:=by rw [MS];exact af.new w5 29 _
 have Nh:Below W3.heap.size W3 W6:=ah b4 (ah b5 B6)
 have qZ:=(HA.out W6 Nh).2.2.2.2.2.1
 have t14:=(qZ.2 14 _ rfl).2
 have c14:=(qZ.2 14 _ rfl).1
 clear MS
 go_upto_region 5 with fail
 obtain ⟨W7,uK⟩:∃ W,W=W6.setCell ⟨w.heap.size+1+1,14,none⟩ (.string ⟨#[]⟩):=⟨_,rfl⟩
 rw [<- uK]
 have hw4:w.heap.size+1+1+1<=w4.heap.size:=by have:=b4.size;rw [Hz3.out] at this;exact this
 have RP:w4.heap.size<=w5.heap.size:=b5.size
 have Zt:af W7 (w.heap.size+1+1) [.string q.1,.int .i64 q.2.1,.slice g2.1 g2.2.1 g2.2.2,.int .i64 q.2.2.2.1.1,.int .i64 q.2.2.2.1.2.1,.int .i64 q.2.2.2.1.2.2,.slice g6.1 g6.2.1 g6.2.2,.slice g7.1 g7.2.1 g7.2.2,.slice g8.1 g8.2.1 g8.2.2,.slice g9.1 g9.2.1 g9.2.2,.slice g10.1 g10.2.1 g10.2.2,.slice g11.1 g11.2.1 g11.2.2,.slice g12.1 g12.2.1 g12.2.2,.slice g13.1 g13.2.1 g13.2.2,.string ⟨#[]⟩,.string q.2.2.2.2.2.2.2.2.2.2.2.2.2]:=by rw [uK];exact qZ.set 14 (.string ⟨#[]⟩) (by simp)
 have xY:∀ {A:Where},¬ A (w.heap.size+1+1)->Kept A W6 W7:=fun {A} h=>by rw [uK];exact Kept.set (p:=⟨w.heap.size+1+1,14,none⟩) h _
 have Mt:af W7 w5.heap.size [.slice a0 n0 m0,.slice a1 n1 m1,.slice a2 n2 m2,.slice a3 n3 m3,.slice a4 n4 m4,.slice a5 n5 m5]:=qT.kept (A:=fun b=>b=w5.heap.size) (xY (by omega)) rfl
 have ZL:aj (fun b=>b<w.heap.size) W7 [.string q.1,.int .i64 q.2.1,.slice g2.1 g2.2.1 g2.2.2,.int .i64 q.2.2.2.1.1,.int .i64 q.2.2.2.1.2.1,.int .i64 q.2.2.2.1.2.2,.slice g6.1 g6.2.1 g6.2.2,.slice g7.1 g7.2.1 g7.2.2,.slice g8.1 g8.2.1 g8.2.2,.slice g9.1 g9.2.1 g9.2.2,.slice g10.1 g10.2.1 g10.2.2,.slice g11.1 g11.2.1 g11.2.2,.slice g12.1 g12.2.1 g12.2.2,.slice g13.1 g13.2.1 g13.2.2,.string ⟨#[]⟩,.string q.2.2.2.2.2.2.2.2.2.2.2.2.2] (setNode q ⟨#[]⟩):=(aj.ae.kept (HA.out W6 Nh).2.2.1 (xY (by omega))).za (s:=⟨#[]⟩) K5
 obtain ⟨wB,MK⟩:∃ W,W=w4.setCell ⟨w.heap.size+1+1,14,none⟩ (.string ⟨#[]⟩):=⟨_,rfl⟩
 have RN:wB.heap.size=w4.heap.size:=by rw [MK];simp
 have Gd:=ho.o
 have hof:=ho.f
 have hown:∀ b,(Value.slice a0 n0 m0).ownBlock=some b->c0<=b/\b<d0:=by
  obtain ⟨_,_,_,h3⟩:=ho.p
  exact fun b hb=>h3 b hb
 have r7:Row aj 16 (fun b=>b≠w5.heap.size) wB W7 41 (.slice a0 n0 m0) x.1:=by
  rw [MK,uK]
  exact (((ho.p.kept aj.ae (Kept.below B6)).row (ah b5 B6) hof).both aj.ae (p:=⟨w.heap.size+1+1,14,none⟩) (by show w.heap.size+1+1<_;omega) (fun h=>by have h1:c0<=w.heap.size+1+1:=h.1;omega) (.string ⟨#[]⟩)).wA aj.ae (fun b hb e=>by have h1:=hb.2;omega)
 obtain ⟨W8,pW⟩:∃ W,W=W7.alloc (.cells #[.string q.1,.int .i64 q.2.1,.slice g2.1 g2.2.1 g2.2.2,.int .i64 q.2.2.2.1.1,.int .i64 q.2.2.2.1.2.1,.int .i64 q.2.2.2.1.2.2,.slice g6.1 g6.2.1 g6.2.2,.slice g7.1 g7.2.1 g7.2.2,.slice g8.1 g8.2.1 g8.2.2,.slice g9.1 g9.2.1 g9.2.2,.slice g10.1 g10.2.1 g10.2.2,.slice g11.1 g11.2.1 g11.2.2,.slice g12.1 g12.2.1 g12.2.2,.slice g13.1 g13.2.1 g13.2.2,.string ⟨#[]⟩,.string q.2.2.2.2.2.2.2.2.2.2.2.2.2] 41):=⟨_,rfl⟩
 have B8:Below W7.heap.size W7 W8:=by rw [pW];exact (Below.refl _ _).alloc (Nat.le_refl _) _
 have q8:af W8 W7.heap.size [.string q.1,.int .i64 q.2.1,.slice g2.1 g2.2.1 g2.2.2,.int .i64 q.2.2.2.1.1,.int .i64 q.2.2.2.1.2.1,.int .i64 q.2.2.2.1.2.2,.slice g6.1 g6.2.1 g6.2.2,.slice g7.1 g7.2.1 g7.2.2,.slice g8.1 g8.2.1 g8.2.2,.slice g9.1 g9.2.1 g9.2.2,.slice g10.1 g10.2.1 g10.2.2,.slice g11.1 g11.2.1 g11.2.2,.slice g12.1 g12.2.1 g12.2.2,.slice g13.1 g13.2.1 g13.2.2,.string ⟨#[]⟩,.string q.2.2.2.2.2.2.2.2.2.2.2.2.2]:=by rw [pW];exact af.new W7 41 _
 have hq8:aj (fun b=>(fun b=>b≠w5.heap.size) b/\(Value.slice a0 n0 m0).ownBlock≠some b) W8 [.string q.1,.int .i64 q.2.1,.slice g2.1 g2.2.1 g2.2.2,.int .i64 q.2.2.2.1.1,.int .i64 q.2.2.2.1.2.1,.int .i64 q.2.2.2.1.2.2,.slice g6.1 g6.2.1 g6.2.2,.slice g7.1 g7.2.1 g7.2.2,.slice g8.1 g8.2.1 g8.2.2,.slice g9.1 g9.2.1 g9.2.2,.slice g10.1 g10.2.1 g10.2.2,.slice g11.1 g11.2.1 g11.2.2,.slice g12.1 g12.2.1 g12.2.2,.slice g13.1 g13.2.1 g13.2.2,.string ⟨#[]⟩,.string q.2.2.2.2.2.2.2.2.2.2.2.2.2] (setNode q ⟨#[]⟩):=aj.ae.weak (aj.ae.kept ZL (Kept.below B8)) (fun b _ hb=>⟨fun e=>by have h2:b<w.heap.size:=hb;omega,fun e=>by have h1:=hown b e;have h2:b<w.heap.size:=hb;omega⟩)
 have jo:Hid (Src aj 16 (fun b=>(fun b=>b≠w5.heap.size) b/\(Value.slice a0 n0 m0).ownBlock≠some b) W8 (some ⟨W7.heap.size,0,none⟩) 1 [setNode q ⟨#[]⟩]):=Et aj.ae q8 hq8
 have ib:Hid (Row aj 16 (fun b=>b≠w5.heap.size) wB W8 41 (.slice a0 n0 m0) x.1):=r7.on aj.ae B8
 have jQ:Hid ((x.1.length+[setNode q ⟨#[]⟩].length)*296<=140737488355328):=by have h1:=hlen.out q;rw [List.length_append,List.length_singleton] at h1;rw [Hid,List.length_singleton];omega
 have HW8:Hid (W8=W7.alloc (.cells #[.string q.1,.int .i64 q.2.1,.slice g2.1 g2.2.1 g2.2.2,.int .i64 q.2.2.2.1.1,.int .i64 q.2.2.2.1.2.1,.int .i64 q.2.2.2.1.2.2,.slice g6.1 g6.2.1 g6.2.2,.slice g7.1 g7.2.1 g7.2.2,.slice g8.1 g8.2.1 g8.2.2,.slice g9.1 g9.2.1 g9.2.2,.slice g10.1 g10.2.1 g10.2.2,.slice g11.1 g11.2.1 g11.2.2,.slice g12.1 g12.2.1 g12.2.2,.slice g13.1 g13.2.1 g13.2.2,.string ⟨#[]⟩,.string q.2.2.2.2.2.2.2.2.2.2.2.2.2] 41)):=pW
 have HG:Hid (∀ u,W8.grownBy u (Value.slice a0 n0 m0).ownBlock->af u w5.heap.size [.slice a0 n0 m0,.slice a1 n1 m1,.slice a2 n2 m2,.slice a3 n3 m3,.slice a4 n4 m4,.slice a5 n5 m5]):=fun u hg=>(Mt.on B8).kept (A:=fun b=>b=w5.heap.size) (Kept.grown hg (fun b e hb=>by have h1:=hown b e;have h2:b=w5.heap.size:=hb;omega)) rfl
 have Ij:Hid (W7.rangeAt (w.heap.size+1+1) 0 [.string q.1,.int .i64 q.2.1,.slice g2.1 g2.2.1 g2.2.2,.int .i64 q.2.2.2.1.1,.int .i64 q.2.2.2.1.2.1,.int .i64 q.2.2.2.1.2.2,.slice g6.1 g6.2.1 g6.2.2,.slice g7.1 g7.2.1 g7.2.2,.slice g8.1 g8.2.1 g8.2.2,.slice g9.1 g9.2.1 g9.2.2,.slice g10.1 g10.2.1 g10.2.2,.slice g11.1 g11.2.1 g11.2.2,.slice g12.1 g12.2.1 g12.2.2,.slice g13.1 g13.2.1 g13.2.2,.string ⟨#[]⟩,.string q.2.2.2.2.2.2.2.2.2.2.2.2.2]):=Zt.range
 have cT:=(Mt.2 0 _ rfl).1
 have HK7:Hid (∀ {A:Where},¬ A (w.heap.size+1+1)->Kept A w5 W8):=fun {A} h=>((Kept.below B6).trans (xY h)).trans (Kept.below B8)
 have Ig:Hid (H9 w4 w5 c0 c1 c2 c3 c4 c5 d0 d1 d2 d3 d4 d5 (.slice a0 n0 m0) (.slice a1 n1 m1) (.slice a2 n2 m2) (.slice a3 n3 m3) (.slice a4 n4 m4) (.slice a5 n5 m5) x/\(∀ b,(Value.slice a0 n0 m0).ownBlock=some b->c0<=b/\b<d0)/\wB.heap.size=w4.heap.size/\w.heap.size+1+1+1<=w4.heap.size/\w4.heap.size<=w5.heap.size/\d5<=w5.heap.size/\Below W3.heap.size W3 w5):=⟨ho,hown,RN,hw4,RP,hd5,ah b4 b5⟩
 have Ol:Hid (Below w.heap.size w W8/\w5.heap.size<W8.heap.size):=by
  have h1:Below w.heap.size w W7:=by rw [uK];exact (HA.out W6 Nh).2.2.2.2.2.2.setCell (p:=⟨w.heap.size+1+1,14,none⟩) (by show w.heap.size<=w.heap.size+1+1;omega) _
  exact ⟨ah h1 B8,Nat.lt_of_lt_of_le Mt.1 B8.size⟩
 clear pW B8 q8 hq8 r7 hown Gd hof RN MK ZL Mt xY Zt uK t14 c14 qZ Nh qT B6 ho hd5 hw4 RP b5 b4
 go_upto_region 6 with (first | (refine wpList_load_mid rfl 41 _ rfl (w.heap.size+1+1) 0 rfl [.string q.1,.int .i64 q.2.1,.slice g2.1 g2.2.1 g2.2.2,.int .i64 q.2.2.2.1.1,.int .i64 q.2.2.2.1.2.1,.int .i64 q.2.2.2.1.2.2,.slice g6.1 g6.2.1 g6.2.2,.slice g7.1 g7.2.1 g7.2.2,.slice g8.1 g8.2.1 g8.2.2,.slice g9.1 g9.2.1 g9.2.2,.slice g10.1 g10.2.1 g10.2.2,.slice g11.1 g11.2.1 g11.2.2,.slice g12.1 g12.2.1 g12.2.2,.slice g13.1 g13.2.1 g13.2.2,.string ⟨#[]⟩,.string q.2.2.2.2.2.2.2.2.2.2.2.2.2] _ Ij.out underlying41 rfl kY ?_) | (at_builtin;refine iJ HW8.out ?_;go_must (refine ui aj.ae (A:=fun b=>b≠w5.heap.size) (w0:=wB) rfl _ _ 22 41 rfl _ 296 AY underlying22 rfl (by decide) (by decide) _ x.1 rfl ib.out (some ⟨_,0,none⟩) 1 1 [setNode q ⟨#[]⟩] rfl jo.out jQ.out ?_);intro v9 u9 zP qJ ZI;obtain ⟨e9,l9,k9,rfl⟩:=zP.head;have fT:=((HG.out u9 qJ).2 0 _ rfl).1;have fU:=((HG.out u9 qJ).2 0 _ rfl).2) | fail)
 obtain ⟨fJ,oI⟩:∃ W,W=u9.setCell ⟨w5.heap.size,0,none⟩ (.slice e9 l9 k9):=⟨_,rfl⟩
 rw [<- oI]
 have HF:Hid (∀ z,Below fJ.heap.size fJ z->aK (fun b=>b<w.heap.size) z cs x/\aj (fun b=>b<w.heap.size) z [.string p.1,.int .i64 p.2.1,.slice h2.1 h2.2.1 h2.2.2,.int .i64 p.2.2.2.1.1,.int .i64 p.2.2.2.1.2.1,.int .i64 p.2.2.2.1.2.2,.slice h6.1 h6.2.1 h6.2.2,.slice h7.1 h7.2.1 h7.2.2,.slice h8.1 h8.2.1 h8.2.2,.slice h9.1 h9.2.1 h9.2.2,.slice h10.1 h10.2.1 h10.2.2,.slice h11.1 h11.2.1 h11.2.2,.slice h12.1 h12.2.1 h12.2.2,.slice aO.1 aO.2.1 aO.2.2,.string p.2.2.2.2.2.2.2.2.2.2.2.2.1,.string p.2.2.2.2.2.2.2.2.2.2.2.2.2] p/\af z w.heap.size cs/\af z (w.heap.size+1) [.string p.1,.int .i64 p.2.1,.slice h2.1 h2.2.1 h2.2.2,.int .i64 p.2.2.2.1.1,.int .i64 p.2.2.2.1.2.1,.int .i64 p.2.2.2.1.2.2,.slice h6.1 h6.2.1 h6.2.2,.slice h7.1 h7.2.1 h7.2.2,.slice h8.1 h8.2.1 h8.2.2,.slice h9.1 h9.2.1 h9.2.2,.slice h10.1 h10.2.1 h10.2.2,.slice h11.1 h11.2.1 h11.2.2,.slice h12.1 h12.2.1 h12.2.2,.slice aO.1 aO.2.1 aO.2.2,.string p.2.2.2.2.2.2.2.2.2.2.2.2.1,.string p.2.2.2.2.2.2.2.2.2.2.2.2.2]/\af z w5.heap.size [.slice e9 l9 k9,.slice a1 n1 m1,.slice a2 n2 m2,.slice a3 n3 m3,.slice a4 n4 m4,.slice a5 n5 m5]/\aK (fun _=>True) z [.slice e9 l9 k9,.slice a1 n1 m1,.slice a2 n2 m2,.slice a3 n3 m3,.slice a4 n4 m4,.slice a5 n5 m5] (x.1++[setNode q ⟨#[]⟩],x.2)/\Below w.heap.size w z/\w.heap.size+1+1+1<=z.heap.size):=by
  obtain ⟨ho,hown,RN,hw4,RP,hd5,hb5⟩:=Ig.out
  obtain ⟨hx5,MO,_,qa,qb,_,bw5⟩:=HA.out w5 hb5
  have Gd:=ho.o
  have hof:=ho.f
  have kk:∀ {A:Where},¬ A (w.heap.size+1+1)->¬ A w5.heap.size->(∀ b,c0<=b->b<d0->¬ A b)->Kept A w5 fJ:=fun {A} h1 h2 h3=>by
   rw [oI]
   exact ((HK7.out h1).trans (Kept.grown qJ (fun b e hb=>h3 b (hown b e).1 (hown b e).2 hb))).trans (Kept.set (p:=⟨w5.heap.size,0,none⟩) h2 _)
  have k1:Kept (fun b=>b<w.heap.size) w5 fJ:=kk (by omega) (by omega) (fun b h1 h2 h3=>by omega)
  have BK:af fJ w5.heap.size [.slice e9 l9 k9,.slice a1 n1 m1,.slice a2 n2 m2,.slice a3 n3 m3,.slice a4 n4 m4,.slice a5 n5 m5]:=by rw [oI];exact (HG.out u9 qJ).set 0 (.slice e9 l9 k9) (by simp)
  have r10:Row aj 16 (fun b=>b≠w5.heap.size) wB fJ 41 (.slice e9 l9 k9) (x.1++[setNode q ⟨#[]⟩]):=by
   refine zP.bO aj.ae ?_ ?_
   ·rw [oI];exact zP.below.setCell (p:=⟨w5.heap.size,0,none⟩) (by show wB.heap.size<=w5.heap.size;omega) _
   ·rw [oI]
    refine Kept.set (p:=⟨w5.heap.size,0,none⟩) (fun h=>?_) _
    rcases h with h | h
    ·exact h rfl
    ·rcases ZI with e | e
     ·have h0:(Value.slice a0 n0 m0).ownBlock=some w5.heap.size:=e.symm.trans h
      have h1:=hown _ h0
      omega
     ·have h0:some W8.heap.size=some w5.heap.size:=e.symm.trans h
      injection h0 with h0
      have h1:=Ol.out.2
      omega
  have hT:=X0 ho (by omega) (kk (by omega) (by omega) (fun b h1 h2 h3=>by omega)) r10 hx5 (hlen.out _)
  have b10:Below w.heap.size w fJ:=by
   rw [oI]
   exact (Ol.out.1.grown qJ Ol.out.1.size (fun b e=>by have h1:=hown b e;omega)).setCell (p:=⟨w5.heap.size,0,none⟩) (by show w.heap.size<=w5.heap.size;omega) _
  intro z hz
  exact ⟨aK.ae.kept (aK.ae.kept hx5 k1) (Kept.below hz),aj.ae.kept (aj.ae.kept MO k1) (Kept.below hz),(qa.kept (A:=fun b=>b=w.heap.size) (kk (by omega) (by omega) (fun b h1 h2 h3=>by omega)) rfl).on hz,(qb.kept (A:=fun b=>b=w.heap.size+1) (kk (by omega) (by omega) (fun b h1 h2 h3=>by omega)) rfl).on hz,BK.on hz,aK.ae.kept hT (Kept.below hz),ah b10 hz,by have h1:=k1.1;have h2:=hz.size;omega⟩
 clear oI zP qJ ZI fT fU jo ib jQ HW8 HG Ij cT HK7 Ig Ol HA
 have Uj:Hid (fJ.rangeAt w.heap.size 0 cs):=(HF.out fJ (Below.refl _ _)).2.2.1.range
 have hS2:=X7 cs _ x fJ (HF.out fJ (Below.refl _ _)).1
 go_wp2_with (first | (refine wpList_load_mid rfl 29 _ rfl w.heap.size 0 rfl cs _ Uj.out underlying29 rfl mG ?_) | fail)
 refine hS2.mono ?_
 rintro e gP ⟨c0,c1,c2,c3,c4,c5,d0,d1,d2,d3,d4,d5,y0,y1,y2,y3,y4,y5,rfl,ho,hd5,Gc,b11⟩
 clear hS2 Uj
 obtain ⟨⟨i0,j0,o0⟩,⟨i1,j1,o1⟩,⟨i2,j2,o2⟩,⟨i3,j3,o3⟩,⟨i4,j4,o4⟩,⟨i5,j5,o5⟩,he,-⟩:=Gc.out
 simp only [List.cons.injEq,and_true] at he
 obtain ⟨rfl,rfl,rfl,rfl,rfl,rfl⟩:=he
 clear Gc
 go_upto_region 7 with fail
 obtain ⟨eX,wy⟩:∃ W,W=gP.alloc (.cells #[.slice i0 j0 o0,.slice i1 j1 o1,.slice i2 j2 o2,.slice i3 j3 o3,.slice i4 j4 o4,.slice i5 j5 o5] 29):=⟨_,rfl⟩
 rw [<- wy]
 have AP:Below gP.heap.size gP eX:=by rw [wy];exact (Below.refl _ _).alloc (Nat.le_refl _) _
 have qT:af eX gP.heap.size [.slice i0 j0 o0,.slice i1 j1 o1,.slice i2 j2 o2,.slice i3 j3 o3,.slice i4 j4 o4,.slice i5 j5 o5]:=by rw [wy];exact af.new gP 29 _
 have b12:Below fJ.heap.size fJ eX:=ah b11 AP
 have HY:Hid (eX.rangeAt (w.heap.size+1) 0 [.string p.1,.int .i64 p.2.1,.slice h2.1 h2.2.1 h2.2.2,.int .i64 p.2.2.2.1.1,.int .i64 p.2.2.2.1.2.1,.int .i64 p.2.2.2.1.2.2,.slice h6.1 h6.2.1 h6.2.2,.slice h7.1 h7.2.1 h7.2.2,.slice h8.1 h8.2.1 h8.2.2,.slice h9.1 h9.2.1 h9.2.2,.slice h10.1 h10.2.1 h10.2.2,.slice h11.1 h11.2.1 h11.2.2,.slice h12.1 h12.2.1 h12.2.2,.slice aO.1 aO.2.1 aO.2.2,.string p.2.2.2.2.2.2.2.2.2.2.2.2.1,.string p.2.2.2.2.2.2.2.2.2.2.2.2.2]):=(HF.out eX b12).2.2.2.1.range
 clear wy
 go_upto_region 8 with (first | (refine wpList_load_mid rfl 41 _ rfl (w.heap.size+1) 0 rfl [.string p.1,.int .i64 p.2.1,.slice h2.1 h2.2.1 h2.2.2,.int .i64 p.2.2.2.1.1,.int .i64 p.2.2.2.1.2.1,.int .i64 p.2.2.2.1.2.2,.slice h6.1 h6.2.1 h6.2.2,.slice h7.1 h7.2.1 h7.2.2,.slice h8.1 h8.2.1 h8.2.2,.slice h9.1 h9.2.1 h9.2.2,.slice h10.1 h10.2.1 h10.2.2,.slice h11.1 h11.2.1 h11.2.2,.slice h12.1 h12.2.1 h12.2.2,.slice aO.1 aO.2.1 aO.2.2,.string p.2.2.2.2.2.2.2.2.2.2.2.2.1,.string p.2.2.2.2.2.2.2.2.2.2.2.2.2] _ HY.out underlying41 rfl kY ?_) | fail)
 obtain ⟨Nj,DT⟩:∃ W,W=eX.alloc (.cells #[.string p.1,.int .i64 p.2.1,.slice h2.1 h2.2.1 h2.2.2,.int .i64 p.2.2.2.1.1,.int .i64 p.2.2.2.1.2.1,.int .i64 p.2.2.2.1.2.2,.slice h6.1 h6.2.1 h6.2.2,.slice h7.1 h7.2.1 h7.2.2,.slice h8.1 h8.2.1 h8.2.2,.slice h9.1 h9.2.1 h9.2.2,.slice h10.1 h10.2.1 h10.2.2,.slice h11.1 h11.2.1 h11.2.2,.slice h12.1 h12.2.1 h12.2.2,.slice aO.1 aO.2.1 aO.2.2,.string p.2.2.2.2.2.2.2.2.2.2.2.2.1,.string p.2.2.2.2.2.2.2.2.2.2.2.2.2] 41):=⟨_,rfl⟩
 rw [<- DT]
 have CZ:Below eX.heap.size eX Nj:=by rw [DT];exact (Below.refl _ _).alloc (Nat.le_refl _) _
 have qR:af Nj eX.heap.size [.string p.1,.int .i64 p.2.1,.slice h2.1 h2.2.1 h2.2.2,.int .i64 p.2.2.2.1.1,.int .i64 p.2.2.2.1.2.1,.int .i64 p.2.2.2.1.2.2,.slice h6.1 h6.2.1 h6.2.2,.slice h7.1 h7.2.1 h7.2.2,.slice h8.1 h8.2.1 h8.2.2,.slice h9.1 h9.2.1 h9.2.2,.slice h10.1 h10.2.1 h10.2.2,.slice h11.1 h11.2.1 h11.2.2,.slice h12.1 h12.2.1 h12.2.2,.slice aO.1 aO.2.1 aO.2.2,.string p.2.2.2.2.2.2.2.2.2.2.2.2.1,.string p.2.2.2.2.2.2.2.2.2.2.2.2.2]:=by rw [DT];exact af.new eX 41 _
 have t14:=(qR.2 14 _ rfl).2
 have c14:=(qR.2 14 _ rfl).1
 clear DT HY
 go_upto_region 9 with fail
 obtain ⟨jU,ru⟩:∃ W,W=Nj.setCell ⟨eX.heap.size,14,none⟩ (.string s):=⟨_,rfl⟩
 rw [<- ru]
 have JB:gP.heap.size<eX.heap.size:=qT.1
 have Dt:fJ.heap.size<=gP.heap.size:=b11.size
 have aa1:=(HF.out fJ (Below.refl _ _)).2.2.2.2.2.2.2
 have Zw:af jU eX.heap.size [.string p.1,.int .i64 p.2.1,.slice h2.1 h2.2.1 h2.2.2,.int .i64 p.2.2.2.1.1,.int .i64 p.2.2.2.1.2.1,.int .i64 p.2.2.2.1.2.2,.slice h6.1 h6.2.1 h6.2.2,.slice h7.1 h7.2.1 h7.2.2,.slice h8.1 h8.2.1 h8.2.2,.slice h9.1 h9.2.1 h9.2.2,.slice h10.1 h10.2.1 h10.2.2,.slice h11.1 h11.2.1 h11.2.2,.slice h12.1 h12.2.1 h12.2.2,.slice aO.1 aO.2.1 aO.2.2,.string s,.string p.2.2.2.2.2.2.2.2.2.2.2.2.2]:=by rw [ru];exact qR.set 14 (.string s) (by simp)
 have RF:∀ {A:Where},¬ A eX.heap.size->Kept A Nj jU:=fun {A} h=>by rw [ru];exact Kept.set (p:=⟨eX.heap.size,14,none⟩) h _
 have Mv:af jU gP.heap.size [.slice i0 j0 o0,.slice i1 j1 o1,.slice i2 j2 o2,.slice i3 j3 o3,.slice i4 j4 o4,.slice i5 j5 o5]:=(qT.on CZ).kept (A:=fun b=>b=gP.heap.size) (RF (by omega)) rfl
 have b14:Below fJ.heap.size fJ jU:=by rw [ru];exact (ah b12 CZ).setCell (p:=⟨eX.heap.size,14,none⟩) (by show fJ.heap.size<=eX.heap.size;omega) _
 have MP:aj (fun b=>b<w.heap.size) jU [.string p.1,.int .i64 p.2.1,.slice h2.1 h2.2.1 h2.2.2,.int .i64 p.2.2.2.1.1,.int .i64 p.2.2.2.1.2.1,.int .i64 p.2.2.2.1.2.2,.slice h6.1 h6.2.1 h6.2.2,.slice h7.1 h7.2.1 h7.2.2,.slice h8.1 h8.2.1 h8.2.2,.slice h9.1 h9.2.1 h9.2.2,.slice h10.1 h10.2.1 h10.2.2,.slice h11.1 h11.2.1 h11.2.2,.slice h12.1 h12.2.1 h12.2.2,.slice aO.1 aO.2.1 aO.2.2,.string s,.string p.2.2.2.2.2.2.2.2.2.2.2.2.2] (setNode p s):=(HF.out jU b14).2.1.za hs
 have Gd:=ho.o
 have hof:=ho.f
 have hown:∀ b,(Value.slice i0 j0 o0).ownBlock=some b->c0<=b/\b<d0:=by
  obtain ⟨_,_,_,h3⟩:=ho.p
  exact fun b hb=>h3 b hb
 have k14:∀ {A:Where},¬ A eX.heap.size->Kept A gP jU:=fun {A} h=>((Kept.below AP).trans (Kept.below CZ)).trans (RF h)
 have xU:Row aj 16 (fun b=>b≠gP.heap.size) fJ jU 41 (.slice i0 j0 o0) x.1:=((ho.p.kept aj.ae (k14 (fun h=>by have h1:=h.2;omega))).row b14 hof).wA aj.ae (fun b hb e=>by have h1:=hb.2;omega)
 obtain ⟨uW,DR⟩:∃ W,W=jU.alloc (.cells #[.string p.1,.int .i64 p.2.1,.slice h2.1 h2.2.1 h2.2.2,.int .i64 p.2.2.2.1.1,.int .i64 p.2.2.2.1.2.1,.int .i64 p.2.2.2.1.2.2,.slice h6.1 h6.2.1 h6.2.2,.slice h7.1 h7.2.1 h7.2.2,.slice h8.1 h8.2.1 h8.2.2,.slice h9.1 h9.2.1 h9.2.2,.slice h10.1 h10.2.1 h10.2.2,.slice h11.1 h11.2.1 h11.2.2,.slice h12.1 h12.2.1 h12.2.2,.slice aO.1 aO.2.1 aO.2.2,.string s,.string p.2.2.2.2.2.2.2.2.2.2.2.2.2] 41):=⟨_,rfl⟩
 have AO:Below jU.heap.size jU uW:=by rw [DR];exact (Below.refl _ _).alloc (Nat.le_refl _) _
 have Zx:af uW jU.heap.size [.string p.1,.int .i64 p.2.1,.slice h2.1 h2.2.1 h2.2.2,.int .i64 p.2.2.2.1.1,.int .i64 p.2.2.2.1.2.1,.int .i64 p.2.2.2.1.2.2,.slice h6.1 h6.2.1 h6.2.2,.slice h7.1 h7.2.1 h7.2.2,.slice h8.1 h8.2.1 h8.2.2,.slice h9.1 h9.2.1 h9.2.2,.slice h10.1 h10.2.1 h10.2.2,.slice h11.1 h11.2.1 h11.2.2,.slice h12.1 h12.2.1 h12.2.2,.slice aO.1 aO.2.1 aO.2.2,.string s,.string p.2.2.2.2.2.2.2.2.2.2.2.2.2]:=by rw [DR];exact af.new jU 41 _
 have MO:aj (fun b=>(fun b=>b≠gP.heap.size) b/\(Value.slice i0 j0 o0).ownBlock≠some b) uW [.string p.1,.int .i64 p.2.1,.slice h2.1 h2.2.1 h2.2.2,.int .i64 p.2.2.2.1.1,.int .i64 p.2.2.2.1.2.1,.int .i64 p.2.2.2.1.2.2,.slice h6.1 h6.2.1 h6.2.2,.slice h7.1 h7.2.1 h7.2.2,.slice h8.1 h8.2.1 h8.2.2,.slice h9.1 h9.2.1 h9.2.2,.slice h10.1 h10.2.1 h10.2.2,.slice h11.1 h11.2.1 h11.2.2,.slice h12.1 h12.2.1 h12.2.2,.slice aO.1 aO.2.1 aO.2.2,.string s,.string p.2.2.2.2.2.2.2.2.2.2.2.2.2] (setNode p s):=aj.ae.weak (aj.ae.kept MP (Kept.below AO)) (fun b _ hb=>⟨fun e=>by have h2:b<w.heap.size:=hb;omega,fun e=>by have h1:=hown b e;have h2:b<w.heap.size:=hb;omega⟩)
 have jo:Hid (Src aj 16 (fun b=>(fun b=>b≠gP.heap.size) b/\(Value.slice i0 j0 o0).ownBlock≠some b) uW (some ⟨jU.heap.size,0,none⟩) 1 [setNode p s]):=Et aj.ae Zx MO
 have ib:Hid (Row aj 16 (fun b=>b≠gP.heap.size) fJ uW 41 (.slice i0 j0 o0) x.1):=xU.on aj.ae AO
 have jQ:Hid ((x.1.length+[setNode p s].length)*296<=140737488355328):=by have h1:=hlen.out p;rw [List.length_append,List.length_singleton] at h1;rw [Hid,List.length_singleton];omega
 have Um:Hid (uW=jU.alloc (.cells #[.string p.1,.int .i64 p.2.1,.slice h2.1 h2.2.1 h2.2.2,.int .i64 p.2.2.2.1.1,.int .i64 p.2.2.2.1.2.1,.int .i64 p.2.2.2.1.2.2,.slice h6.1 h6.2.1 h6.2.2,.slice h7.1 h7.2.1 h7.2.2,.slice h8.1 h8.2.1 h8.2.2,.slice h9.1 h9.2.1 h9.2.2,.slice h10.1 h10.2.1 h10.2.2,.slice h11.1 h11.2.1 h11.2.2,.slice h12.1 h12.2.1 h12.2.2,.slice aO.1 aO.2.1 aO.2.2,.string s,.string p.2.2.2.2.2.2.2.2.2.2.2.2.2] 41)):=DR
 have HG:Hid (∀ u,uW.grownBy u (Value.slice i0 j0 o0).ownBlock->af u gP.heap.size [.slice i0 j0 o0,.slice i1 j1 o1,.slice i2 j2 o2,.slice i3 j3 o3,.slice i4 j4 o4,.slice i5 j5 o5]):=fun u hg=>(Mv.on AO).kept (A:=fun b=>b=gP.heap.size) (Kept.grown hg (fun b e hb=>by have h1:=hown b e;have h2:b=gP.heap.size:=hb;omega)) rfl
 have Ij:Hid (jU.rangeAt eX.heap.size 0 [.string p.1,.int .i64 p.2.1,.slice h2.1 h2.2.1 h2.2.2,.int .i64 p.2.2.2.1.1,.int .i64 p.2.2.2.1.2.1,.int .i64 p.2.2.2.1.2.2,.slice h6.1 h6.2.1 h6.2.2,.slice h7.1 h7.2.1 h7.2.2,.slice h8.1 h8.2.1 h8.2.2,.slice h9.1 h9.2.1 h9.2.2,.slice h10.1 h10.2.1 h10.2.2,.slice h11.1 h11.2.1 h11.2.2,.slice h12.1 h12.2.1 h12.2.2,.slice aO.1 aO.2.1 aO.2.2,.string s,.string p.2.2.2.2.2.2.2.2.2.2.2.2.2]):=Zw.range
 have cT:=(Mv.2 0 _ rfl).1
 have HK4:Hid (∀ {A:Where},¬ A eX.heap.size->Kept A gP uW):=fun {A} h=>(k14 h).trans (Kept.below AO)
 have Ig:Hid (H9 fJ gP c0 c1 c2 c3 c4 c5 d0 d1 d2 d3 d4 d5 (.slice i0 j0 o0) (.slice i1 j1 o1) (.slice i2 j2 o2) (.slice i3 j3 o3) (.slice i4 j4 o4) (.slice i5 j5 o5) x/\(∀ b,(Value.slice i0 j0 o0).ownBlock=some b->c0<=b/\b<d0)/\fJ.heap.size<=gP.heap.size/\d5<=gP.heap.size/\gP.heap.size<eX.heap.size/\gP.heap.size<uW.heap.size/\Below fJ.heap.size fJ uW):=⟨ho,hown,Dt,hd5,JB,Nat.lt_of_lt_of_le Mv.1 AO.size,ah b14 AO⟩
 clear DR AO Zx MO xU hown Gd hof k14 MP b14 Mv RF Zw aa1 Dt JB ru t14 c14 qR CZ b12 qT AP ho hd5 b11
 go_upto_region 10 with (first | (refine wpList_load_mid rfl 41 _ rfl eX.heap.size 0 rfl [.string p.1,.int .i64 p.2.1,.slice h2.1 h2.2.1 h2.2.2,.int .i64 p.2.2.2.1.1,.int .i64 p.2.2.2.1.2.1,.int .i64 p.2.2.2.1.2.2,.slice h6.1 h6.2.1 h6.2.2,.slice h7.1 h7.2.1 h7.2.2,.slice h8.1 h8.2.1 h8.2.2,.slice h9.1 h9.2.1 h9.2.2,.slice h10.1 h10.2.1 h10.2.2,.slice h11.1 h11.2.1 h11.2.2,.slice h12.1 h12.2.1 h12.2.2,.slice aO.1 aO.2.1 aO.2.2,.string s,.string p.2.2.2.2.2.2.2.2.2.2.2.2.2] _ Ij.out underlying41 rfl kY ?_) | (at_builtin;refine iJ Um.out ?_;go_must (refine ui aj.ae (A:=fun b=>b≠gP.heap.size) (w0:=fJ) rfl _ _ 22 41 rfl _ 296 AY underlying22 rfl (by decide) (by decide) _ x.1 rfl ib.out (some ⟨_,0,none⟩) 1 1 [setNode p s] rfl jo.out jQ.out ?_);intro v16 u16 Dv zS hw16;obtain ⟨f9,t9,s9,rfl⟩:=Dv.head;have fT:=((HG.out u16 zS).2 0 _ rfl).1;have fU:=((HG.out u16 zS).2 0 _ rfl).2) | fail)
 obtain ⟨rW,xG⟩:∃ W,W=u16.setCell ⟨gP.heap.size,0,none⟩ (.slice f9 t9 s9):=⟨_,rfl⟩
 rw [<- xG]
 have HN:Hid (∀ z,Below rW.heap.size rW z->aK (fun _=>True) z [.slice f9 t9 s9,.slice i1 j1 o1,.slice i2 j2 o2,.slice i3 j3 o3,.slice i4 j4 o4,.slice i5 j5 o5] (x.1++[setNode p s],x.2)/\af z gP.heap.size [.slice f9 t9 s9,.slice i1 j1 o1,.slice i2 j2 o2,.slice i3 j3 o3,.slice i4 j4 o4,.slice i5 j5 o5]/\Below fJ.heap.size fJ z):=by
  obtain ⟨ho,hown,Dt,hd5,JB,acL,b15⟩:=Ig.out
  have aa0:=(HF.out fJ (Below.refl _ _)).1
  have Gd:=ho.o
  have hof:=ho.f
  have kk:∀ {A:Where},¬ A eX.heap.size->¬ A gP.heap.size->(∀ b,c0<=b->b<d0->¬ A b)->Kept A gP rW:=fun {A} h1 h2 h3=>by
   rw [xG]
   exact ((HK4.out h1).trans (Kept.grown zS (fun b e hb=>h3 b (hown b e).1 (hown b e).2 hb))).trans (Kept.set (p:=⟨gP.heap.size,0,none⟩) h2 _)
  have q17:af rW gP.heap.size [.slice f9 t9 s9,.slice i1 j1 o1,.slice i2 j2 o2,.slice i3 j3 o3,.slice i4 j4 o4,.slice i5 j5 o5]:=by rw [xG];exact (HG.out u16 zS).set 0 (.slice f9 t9 s9) (by simp)
  have b17:Below fJ.heap.size fJ rW:=by rw [xG];exact Dv.below.setCell (p:=⟨gP.heap.size,0,none⟩) Dt _
  have r17:Row aj 16 (fun b=>b≠gP.heap.size) fJ rW 41 (.slice f9 t9 s9) (x.1++[setNode p s]):=by
   refine Dv.bO aj.ae b17 ?_
   rw [xG]
   refine Kept.set (p:=⟨gP.heap.size,0,none⟩) (fun h=>?_) _
   rcases h with h | h
   ·exact h rfl
   ·rcases hw16 with e | e
    ·have h0:(Value.slice i0 j0 o0).ownBlock=some gP.heap.size:=e.symm.trans h
     have h1:=hown _ h0
     omega
    ·have h0:some uW.heap.size=some gP.heap.size:=e.symm.trans h
     injection h0 with h0
     omega
  have hT:=X0 ho (by omega) (kk (fun h=>by have h1:=h.2;omega) (fun h=>by have h1:=h.2;omega) (fun b h1 h2 h3=>by omega)) r17 aa0 (hlen.out _)
  intro z hz
  exact ⟨aK.ae.kept hT (Kept.below hz),q17.on hz,ah b17 hz⟩
 clear xG Dv zS hw16 fT fU jo ib jQ Um HG Ij cT HK4 Ig
 obtain ⟨aa2,aam,b17⟩:=HN.out rW (Below.refl _ _)
 obtain ⟨RO,R9,Re,Rb,_⟩:=HF.out rW b17
 have uZ:Hid (rW.rangeAt w.heap.size 0 cs):=Re.range
 have yz:Hid (rW.rangeAt (w.heap.size+1) 0 [.string p.1,.int .i64 p.2.1,.slice h2.1 h2.2.1 h2.2.2,.int .i64 p.2.2.2.1.1,.int .i64 p.2.2.2.1.2.1,.int .i64 p.2.2.2.1.2.2,.slice h6.1 h6.2.1 h6.2.2,.slice h7.1 h7.2.1 h7.2.2,.slice h8.1 h8.2.1 h8.2.2,.slice h9.1 h9.2.1 h9.2.2,.slice h10.1 h10.2.1 h10.2.2,.slice h11.1 h11.2.1 h11.2.2,.slice h12.1 h12.2.1 h12.2.2,.slice aO.1 aO.2.1 aO.2.2,.string p.2.2.2.2.2.2.2.2.2.2.2.2.1,.string p.2.2.2.2.2.2.2.2.2.2.2.2.2]):=Rb.range
 have uN:=Be cs x [.string p.1,.int .i64 p.2.1,.slice h2.1 h2.2.1 h2.2.2,.int .i64 p.2.2.2.1.1,.int .i64 p.2.2.2.1.2.1,.int .i64 p.2.2.2.1.2.2,.slice h6.1 h6.2.1 h6.2.2,.slice h7.1 h7.2.1 h7.2.2,.slice h8.1 h8.2.1 h8.2.2,.slice h9.1 h9.2.1 h9.2.2,.slice h10.1 h10.2.1 h10.2.2,.slice h11.1 h11.2.1 h11.2.2,.slice h12.1 h12.2.1 h12.2.2,.slice aO.1 aO.2.1 aO.2.2,.string p.2.2.2.2.2.2.2.2.2.2.2.2.1,.string p.2.2.2.2.2.2.2.2.2.2.2.2.2] p s rW (aK.ae.weak RO (fun _ _ _=>trivial)) (aj.ae.weak R9 (fun _ _ _=>trivial)) hf1
 rw [HR1.out] at uN
 clear aa2 aam b17 RO R9 Re Rb
 go_wp2_with (first | (refine wpList_load_mid rfl 29 _ rfl w.heap.size 0 rfl cs _ uZ.out underlying29 rfl mG ?_) | (refine wpList_load_mid rfl 41 _ rfl (w.heap.size+1) 0 rfl [.string p.1,.int .i64 p.2.1,.slice h2.1 h2.2.1 h2.2.2,.int .i64 p.2.2.2.1.1,.int .i64 p.2.2.2.1.2.1,.int .i64 p.2.2.2.1.2.2,.slice h6.1 h6.2.1 h6.2.2,.slice h7.1 h7.2.1 h7.2.2,.slice h8.1 h8.2.1 h8.2.2,.slice h9.1 h9.2.1 h9.2.2,.slice h10.1 h10.2.1 h10.2.2,.slice h11.1 h11.2.1 h11.2.2,.slice h12.1 h12.2.1 h12.2.2,.slice aO.1 aO.2.1 aO.2.2,.string p.2.2.2.2.2.2.2.2.2.2.2.2.1,.string p.2.2.2.2.2.2.2.2.2.2.2.2.2] _ yz.out underlying41 rfl kY ?_) | fail)
 refine uN.mono ?_
 rintro e tK ⟨pa,pn,pc,rfl,sp,b18⟩
 clear uN uZ yz
 go_upto_region 11 with fail
 obtain ⟨_,_,b10⟩:=HN.out tK b18
 obtain ⟨_,R8,_,Ra,Ri,RV,_⟩:=HF.out tK b10
 have uZ:Hid (tK.rangeAt w5.heap.size 0 [.slice e9 l9 k9,.slice a1 n1 m1,.slice a2 n2 m2,.slice a3 n3 m3,.slice a4 n4 m4,.slice a5 n5 m5]):=Ri.range
 have yz:Hid (tK.rangeAt (w.heap.size+1) 0 [.string p.1,.int .i64 p.2.1,.slice h2.1 h2.2.1 h2.2.2,.int .i64 p.2.2.2.1.1,.int .i64 p.2.2.2.1.2.1,.int .i64 p.2.2.2.1.2.2,.slice h6.1 h6.2.1 h6.2.2,.slice h7.1 h7.2.1 h7.2.2,.slice h8.1 h8.2.1 h8.2.2,.slice h9.1 h9.2.1 h9.2.2,.slice h10.1 h10.2.1 h10.2.2,.slice h11.1 h11.2.1 h11.2.2,.slice h12.1 h12.2.1 h12.2.2,.slice aO.1 aO.2.1 aO.2.2,.string p.2.2.2.2.2.2.2.2.2.2.2.2.1,.string p.2.2.2.2.2.2.2.2.2.2.2.2.2]):=Ra.range
 have hC2:=Be [.slice e9 l9 k9,.slice a1 n1 m1,.slice a2 n2 m2,.slice a3 n3 m3,.slice a4 n4 m4,.slice a5 n5 m5] (x.1++[setNode q ⟨#[]⟩],x.2) [.string p.1,.int .i64 p.2.1,.slice h2.1 h2.2.1 h2.2.2,.int .i64 p.2.2.2.1.1,.int .i64 p.2.2.2.1.2.1,.int .i64 p.2.2.2.1.2.2,.slice h6.1 h6.2.1 h6.2.2,.slice h7.1 h7.2.1 h7.2.2,.slice h8.1 h8.2.1 h8.2.2,.slice h9.1 h9.2.1 h9.2.2,.slice h10.1 h10.2.1 h10.2.2,.slice h11.1 h11.2.1 h11.2.2,.slice h12.1 h12.2.1 h12.2.2,.slice aO.1 aO.2.1 aO.2.2,.string p.2.2.2.2.2.2.2.2.2.2.2.2.1,.string p.2.2.2.2.2.2.2.2.2.2.2.2.2] p s tK RV (aj.ae.weak R8 (fun _ _ _=>trivial)) hf2
 rw [HR2.out] at hC2
 have NW:Hid (∀ z,Below tK.heap.size tK z->ag ak 2 32 (fun _=>True) z pa pn pc k1/\Below rW.heap.size rW z):=fun z hz=>⟨sp.on ak.ae hz,ah b18 hz⟩
 clear b10 R8 Ra Ri RV sp b18
 go_wp2_with (first | (refine wpList_load_mid rfl 29 _ rfl w5.heap.size 0 rfl [.slice e9 l9 k9,.slice a1 n1 m1,.slice a2 n2 m2,.slice a3 n3 m3,.slice a4 n4 m4,.slice a5 n5 m5] _ uZ.out underlying29 rfl oN ?_) | (refine wpList_load_mid rfl 41 _ rfl (w.heap.size+1) 0 rfl [.string p.1,.int .i64 p.2.1,.slice h2.1 h2.2.1 h2.2.2,.int .i64 p.2.2.2.1.1,.int .i64 p.2.2.2.1.2.1,.int .i64 p.2.2.2.1.2.2,.slice h6.1 h6.2.1 h6.2.2,.slice h7.1 h7.2.1 h7.2.2,.slice h8.1 h8.2.1 h8.2.2,.slice h9.1 h9.2.1 h9.2.2,.slice h10.1 h10.2.1 h10.2.2,.slice h11.1 h11.2.1 h11.2.2,.slice h12.1 h12.2.1 h12.2.2,.slice aO.1 aO.2.1 aO.2.2,.string p.2.2.2.2.2.2.2.2.2.2.2.2.1,.string p.2.2.2.2.2.2.2.2.2.2.2.2.2] _ yz.out underlying41 rfl kY ?_) | fail)
 refine hC2.mono ?_
 rintro e xP ⟨qa,qn,qc,rfl,sq,b19⟩
 clear hC2 uZ yz
 go_upto_region 12 with fail
 obtain ⟨_,Ni⟩:=NW.out xP b19
 obtain ⟨RS,Rh,b10⟩:=HN.out xP Ni
 obtain ⟨_,R5,_,Q9,_⟩:=HF.out xP b10
 have uZ:Hid (xP.rangeAt gP.heap.size 0 [.slice f9 t9 s9,.slice i1 j1 o1,.slice i2 j2 o2,.slice i3 j3 o3,.slice i4 j4 o4,.slice i5 j5 o5]):=Rh.range
 have yz:Hid (xP.rangeAt (w.heap.size+1) 0 [.string p.1,.int .i64 p.2.1,.slice h2.1 h2.2.1 h2.2.2,.int .i64 p.2.2.2.1.1,.int .i64 p.2.2.2.1.2.1,.int .i64 p.2.2.2.1.2.2,.slice h6.1 h6.2.1 h6.2.2,.slice h7.1 h7.2.1 h7.2.2,.slice h8.1 h8.2.1 h8.2.2,.slice h9.1 h9.2.1 h9.2.2,.slice h10.1 h10.2.1 h10.2.2,.slice h11.1 h11.2.1 h11.2.2,.slice h12.1 h12.2.1 h12.2.2,.slice aO.1 aO.2.1 aO.2.2,.string p.2.2.2.2.2.2.2.2.2.2.2.2.1,.string p.2.2.2.2.2.2.2.2.2.2.2.2.2]):=Q9.range
 have Tn:=Be [.slice f9 t9 s9,.slice i1 j1 o1,.slice i2 j2 o2,.slice i3 j3 o3,.slice i4 j4 o4,.slice i5 j5 o5] (x.1++[setNode p s],x.2) [.string p.1,.int .i64 p.2.1,.slice h2.1 h2.2.1 h2.2.2,.int .i64 p.2.2.2.1.1,.int .i64 p.2.2.2.1.2.1,.int .i64 p.2.2.2.1.2.2,.slice h6.1 h6.2.1 h6.2.2,.slice h7.1 h7.2.1 h7.2.2,.slice h8.1 h8.2.1 h8.2.2,.slice h9.1 h9.2.1 h9.2.2,.slice h10.1 h10.2.1 h10.2.2,.slice h11.1 h11.2.1 h11.2.2,.slice h12.1 h12.2.1 h12.2.2,.slice aO.1 aO.2.1 aO.2.2,.string p.2.2.2.2.2.2.2.2.2.2.2.2.1,.string p.2.2.2.2.2.2.2.2.2.2.2.2.2] p s xP RS (aj.ae.weak R5 (fun _ _ _=>trivial)) hf3
 rw [HR3.out] at Tn
 have HP2:Hid (∀ z,Below xP.heap.size xP z->ag ak 2 32 (fun _=>True) z pa pn pc k1/\ag ak 2 32 (fun _=>True) z qa qn qc k1/\Below w.heap.size w z):=fun z hz=>⟨(NW.out z (ah b19 hz)).1,sq.on ak.ae hz,(HF.out z (HN.out z (NW.out z (ah b19 hz)).2).2.2).2.2.2.2.2.2.1⟩
 clear Ni RS Rh b10 R5 Q9 sq b19 NW
 go_wp2_with (first | (refine wpList_load_mid rfl 29 _ rfl gP.heap.size 0 rfl [.slice f9 t9 s9,.slice i1 j1 o1,.slice i2 j2 o2,.slice i3 j3 o3,.slice i4 j4 o4,.slice i5 j5 o5] _ uZ.out underlying29 rfl oN ?_) | (refine wpList_load_mid rfl 41 _ rfl (w.heap.size+1) 0 rfl [.string p.1,.int .i64 p.2.1,.slice h2.1 h2.2.1 h2.2.2,.int .i64 p.2.2.2.1.1,.int .i64 p.2.2.2.1.2.1,.int .i64 p.2.2.2.1.2.2,.slice h6.1 h6.2.1 h6.2.2,.slice h7.1 h7.2.1 h7.2.2,.slice h8.1 h8.2.1 h8.2.2,.slice h9.1 h9.2.1 h9.2.2,.slice h10.1 h10.2.1 h10.2.2,.slice h11.1 h11.2.1 h11.2.2,.slice h12.1 h12.2.1 h12.2.2,.slice aO.1 aO.2.1 aO.2.2,.string p.2.2.2.2.2.2.2.2.2.2.2.2.1,.string p.2.2.2.2.2.2.2.2.2.2.2.2.2] _ yz.out underlying41 rfl kY ?_) | fail)
 refine Tn.mono ?_
 rintro e Bu ⟨ra,rn,rc,rfl,sr,b20⟩
 clear Tn uZ yz
 go_upto_region 13 with fail
 obtain ⟨sp,sq,TQ⟩:=HP2.out Bu b20
 have Ci:=Zg pa pn pc _ k1 qa qn qc _ k1 Bu sp sq
 have kD:Hid (∀ n,Calls prog 7 #[.slice pa pn pc,.slice ra rn rc] (Bu.drewN n) fun e w'=>e=.returned (.bool true)/\∃ q,w'=(Bu.drewN n).drewN q):=fun n=>by
  have h:=Zg pa pn pc _ k1 ra rn rc _ k1 (Bu.drewN n) (sp.on ak.ae (Bj _ _)) (sr.on ak.ae (Bj _ _))
  rw [decide_eq_true (rfl:k1=k1)] at h
  exact h
 have HE:Hid (Below w.heap.size w Bu):=TQ
 rw [decide_eq_true (rfl:k1=k1)] at Ci
 clear HP2 HN HF sp sq sr b20 TQ HR1 HR2 HR3
 go_wp2_with fail
 refine Ci.mono ?_
 rintro e w21 ⟨rfl,n21,rfl⟩
 have hS5:=kD.out n21
 clear Ci kD
 go_wp2_with fail
 refine hS5.mono ?_
 rintro e w22 ⟨rfl,n22,rfl⟩
 clear hS5
 go_wp2_with fail
 go_ret
 exact ⟨rfl,ah HE.out (Bj _ _)⟩
end Go.Proofs.YtgikfenllgldoaaGreat
