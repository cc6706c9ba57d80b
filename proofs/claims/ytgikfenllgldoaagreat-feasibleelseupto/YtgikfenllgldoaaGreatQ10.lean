/- base.Pod gives a copy of its own. Condition: the argument lies as is said of it. -/
import Derived.Test.YtgikfenllgldoaaGreatQ08
set_option linter.unusedSimpArgs false
set_option maxRecDepth 100000
set_option maxHeartbeats 32000000
namespace Go.Proofs.YtgikfenllgldoaaGreat
open Go.Proofs.Tryz
open Go.RowKit
theorem Jz:(prog.info? 299).map (fun i=>(i.zero,i.size,i.bytes))=some (some (.agg #[.string ⟨#[]⟩,.string ⟨#[]⟩,.bool false,.int .i64 0]),4,48):=by kernel_rfl
theorem zHM:(prog.info? 84).map (fun i=>(i.zero,i.size,i.bytes))=some (some (.agg #[.slice none 0 0,.int .i64 0]),2,32):=by kernel_rfl
theorem zHN:(prog.info? 88).map (fun i=>(i.zero,i.size,i.bytes))=some (some (.agg #[.string ⟨#[]⟩,.int .i64 0,.int .i64 0,.slice none 0 0]),4,56):=by kernel_rfl
structure PB (w u:World) (P Z Q:List Value):Prop where
 p:af u w.heap.size P
 z:af u (w.heap.size+1) Z
 q:af u (w.heap.size+1+1) Q
 b:Below w.heap.size w u
theorem PB.on {w u u':World} {P Z Q:List Value} (h:PB w u P Z Q) (hb:Below u.heap.size u u'):PB w u' P Z Q :=
 ⟨h.p.on hb,h.z.on hb,h.q.on hb,ah h.b hb⟩
theorem PB.set {w u:World} {P Z Q:List Value} (h:PB w u P Z Q) (i:Nat) (v:Value) (hi:i<Q.length):PB w (u.setCell ⟨w.heap.size+1+1,i,none⟩ v) P Z (Q.set i v) :=
 ⟨h.p.other (by simp;omega) v,h.z.other (by simp) v,h.q.set i v hi,h.b.setCell (by simp;omega) v⟩
theorem PB.sz {w u:World} {P Z Q:List Value} (h:PB w u P Z Q):w.heap.size+1+1<u.heap.size:=h.q.1
theorem PB.fr {w u W:World} {P Z Q:List Value} (h:PB w u P Z Q) (hW:W.heap.size=w.heap.size+1+1+1):∀ b,az u b->az W b:=fun b hb=>show W.heap.size<=b by have h1:u.heap.size<=b:=hb;have:=h.sz;omega
def PfS (w:World) (D off k:Nat) (hp v h0 h1:Value) (u:World):Prop :=
 u.cell? ⟨w.heap.size,8,none⟩=some hp/\u.cell? ⟨w.heap.size+1+1,8,none⟩=some v/\u.frozen? ⟨w.heap.size+1+1,8,none⟩=false/\u.cell? ⟨D,off+k*2,none⟩=some h0/\u.cell? ⟨D,off+k*2+1,none⟩=some h1
def TwS (w:World) (h10 h11:Value) (u:World):Prop:=u.cell? ⟨w.heap.size,10,none⟩=some h10/\u.cell? ⟨w.heap.size,11,none⟩=some h11
theorem Li (cs:List Value) (A:Where) (x:aB) (w:World) (h:Hid (aj A w cs x)):Calls prog 10 #[.agg cs.toArray] w fun e w'=>∃ cs',e=.returned (.agg cs'.toArray)/\aj (az w) w' cs' x/\Below w.heap.size w w':=by
 obtain ⟨nm,pri,lab,⟨wa,wb,wc⟩,yu,ask,lF,prt,BQ,Ct,jF,rR,dK,hop⟩:=x
 obtain ⟨⟨a2,n2,m2⟩,⟨a6,n6,m6⟩,⟨a7,n7,m7⟩,⟨a8,n8,m8⟩,⟨a9,n9,m9⟩,⟨eG,n10,m10⟩,⟨dY,n11,m11⟩,⟨a12,n12,m12⟩,⟨df,n13,m13⟩,rfl,p0,s2,s6,s7,s8,s9,s10,s11,s12,s13,ZA,Zz⟩:=h.out.out
 simp only at p0 s2 s6 s7 s8 s9 s10 s11 s12 s13 ZA Zz |-
 clear h
 have S2:Hid (ag ak 2 32 A w a2 n2 m2 lab):=s2
 have S6:Hid (ag eY 4 48 A w a6 n6 m6 yu):=s6
 have S7:Hid (ag aU 3 48 A w a7 n7 m7 ask):=s7
 have S8:Hid (ag dA 2 32 A w a8 n8 m8 lF):=s8
 have S9:Hid (ag aC 1 8 A w a9 n9 m9 prt):=s9
 have Nr:Hid (ag bT 2 40 A w eG n10 m10 BQ):=s10
 have Nq:Hid (ag bT 2 40 A w dY n11 m11 Ct):=s11
 have Np:Hid (ag cK 4 56 A w a12 n12 m12 jF):=s12
 have TW:Hid (ag au 1 16 A w df n13 m13 rR):=s13
 clear s2 s6 s7 s8 s9 s10 s11 s12 s13
 obtain ⟨W3,hW3⟩:∃ W3,W3=(((w.alloc (.cells #[.string nm,.int .i64 pri,.slice a2 n2 m2,.int .i64 wa,.int .i64 wb,.int .i64 wc,.slice a6 n6 m6,.slice a7 n7 m7,.slice a8 n8 m8,.slice a9 n9 m9,.slice eG n10 m10,.slice dY n11 m11,.slice a12 n12 m12,.slice df n13 m13,.string dK,.string hop] 41)).alloc (.cells #[.string ⟨#[]⟩,.int .i64 0,.slice none 0 0,.int .i64 0,.int .i64 0,.int .i64 0,.slice none 0 0,.slice none 0 0,.slice none 0 0,.slice none 0 0,.slice none 0 0,.slice none 0 0,.slice none 0 0,.slice none 0 0,.string ⟨#[]⟩,.string ⟨#[]⟩] 41)).alloc (.cells #[.string nm,.int .i64 pri,.slice a2 n2 m2,.int .i64 wa,.int .i64 wb,.int .i64 wc,.slice a6 n6 m6,.slice a7 n7 m7,.slice a8 n8 m8,.slice a9 n9 m9,.slice eG n10 m10,.slice dY n11 m11,.slice a12 n12 m12,.slice df n13 m13,.string dK,.string hop] 41)):=⟨_,rfl⟩
 have hsz:Hid (W3.heap.size=w.heap.size+1+1+1):=by rw [Hid,hW3];simp
 have B3:Hid (PB w W3 [.string nm,.int .i64 pri,.slice a2 n2 m2,.int .i64 wa,.int .i64 wb,.int .i64 wc,.slice a6 n6 m6,.slice a7 n7 m7,.slice a8 n8 m8,.slice a9 n9 m9,.slice eG n10 m10,.slice dY n11 m11,.slice a12 n12 m12,.slice df n13 m13,.string dK,.string hop] [.string ⟨#[]⟩,.int .i64 0,.slice none 0 0,.int .i64 0,.int .i64 0,.int .i64 0,.slice none 0 0,.slice none 0 0,.slice none 0 0,.slice none 0 0,.slice none 0 0,.slice none 0 0,.slice none 0 0,.slice none 0 0,.string ⟨#[]⟩,.string ⟨#[]⟩] [.string nm,.int .i64 pri,.slice a2 n2 m2,.int .i64 wa,.int .i64 wb,.int .i64 wc,.slice a6 n6 m6,.slice a7 n7 m7,.slice a8 n8 m8,.slice a9 n9 m9,.slice eG n10 m10,.slice dY n11 m11,.slice a12 n12 m12,.slice df n13 m13,.string dK,.string hop]):=by
  rw [hW3]
  refine ⟨(af.new w 41 [.string nm,.int .i64 pri,.slice a2 n2 m2,.int .i64 wa,.int .i64 wb,.int .i64 wc,.slice a6 n6 m6,.slice a7 n7 m7,.slice a8 n8 m8,.slice a9 n9 m9,.slice eG n10 m10,.slice dY n11 m11,.slice a12 n12 m12,.slice df n13 m13,.string dK,.string hop]).on (((Below.refl _ _).alloc (Nat.le_refl _) _).alloc (by simp) _),?_,?_,by go_grown⟩
  ·have:=(af.new (w.alloc (.cells #[.string nm,.int .i64 pri,.slice a2 n2 m2,.int .i64 wa,.int .i64 wb,.int .i64 wc,.slice a6 n6 m6,.slice a7 n7 m7,.slice a8 n8 m8,.slice a9 n9 m9,.slice eG n10 m10,.slice dY n11 m11,.slice a12 n12 m12,.slice df n13 m13,.string dK,.string hop] 41)) 41 [.string ⟨#[]⟩,.int .i64 0,.slice none 0 0,.int .i64 0,.int .i64 0,.int .i64 0,.slice none 0 0,.slice none 0 0,.slice none 0 0,.slice none 0 0,.slice none 0 0,.slice none 0 0,.slice none 0 0,.slice none 0 0,.string ⟨#[]⟩,.string ⟨#[]⟩]).on ((Below.refl _ _).alloc (Nat.le_refl _) (.cells #[.string nm,.int .i64 pri,.slice a2 n2 m2,.int .i64 wa,.int .i64 wb,.int .i64 wc,.slice a6 n6 m6,.slice a7 n7 m7,.slice a8 n8 m8,.slice a9 n9 m9,.slice eG n10 m10,.slice dY n11 m11,.slice a12 n12 m12,.slice df n13 m13,.string dK,.string hop] 41))
   simpa using this
  ·have:=af.new ((w.alloc (.cells #[.string nm,.int .i64 pri,.slice a2 n2 m2,.int .i64 wa,.int .i64 wb,.int .i64 wc,.slice a6 n6 m6,.slice a7 n7 m7,.slice a8 n8 m8,.slice a9 n9 m9,.slice eG n10 m10,.slice dY n11 m11,.slice a12 n12 m12,.slice df n13 m13,.string dK,.string hop] 41)).alloc (.cells #[.string ⟨#[]⟩,.int .i64 0,.slice none 0 0,.int .i64 0,.int .i64 0,.int .i64 0,.slice none 0 0,.slice none 0 0,.slice none 0 0,.slice none 0 0,.slice none 0 0,.slice none 0 0,.slice none 0 0,.slice none 0 0,.string ⟨#[]⟩,.string ⟨#[]⟩] 41)) 41 [.string nm,.int .i64 pri,.slice a2 n2 m2,.int .i64 wa,.int .i64 wb,.int .i64 wc,.slice a6 n6 m6,.slice a7 n7 m7,.slice a8 n8 m8,.slice a9 n9 m9,.slice eG n10 m10,.slice dY n11 m11,.slice a12 n12 m12,.slice df n13 m13,.string dK,.string hop]
   simpa using this
 go_enter func10,ntmps10
 go_wp2_with fail
 rw [<- hW3]
 clear hW3
 refine (YM a2 n2 m2 A lab W3 (S2.out.on ak.ae B3.out.b)).mono ?_
 rintro e v2 ⟨b2,k2,rfl,hS2,hb2⟩
 have C2:=B3.out.on hb2
 obtain ⟨G2,vL,g2,i2,o2⟩:=dE.add (dE.none W3) trivial ak.ae hS2
 replace vL:Hid (dE W3 G2):=vL
 replace i2:Hid (∀ v,G2 v->_):=i2
 replace o2:Hid (∀ v,G2 v->_):=o2
 have hs4:=C2.sz
 have l6:w.heap.size<v2.heap.size:=by omega
 have hne0:w.heap.size≠v2.heap.size:=by omega
 have hne1:w.heap.size+1≠v2.heap.size:=by omega
 have hne2:w.heap.size+1+1≠v2.heap.size:=by omega
 obtain ⟨q2,qf2⟩:=C2.q.2 2 _ rfl
 obtain ⟨p6,pf6⟩:=C2.p.2 6 _ rfl
 obtain ⟨W5,tV⟩:∃ W5,W5=v2.setCell ⟨w.heap.size+1+1,2,none⟩ (.slice b2 n2 k2):=⟨_,rfl⟩
 have B5:Hid (PB w W5 [.string nm,.int .i64 pri,.slice a2 n2 m2,.int .i64 wa,.int .i64 wb,.int .i64 wc,.slice a6 n6 m6,.slice a7 n7 m7,.slice a8 n8 m8,.slice a9 n9 m9,.slice eG n10 m10,.slice dY n11 m11,.slice a12 n12 m12,.slice df n13 m13,.string dK,.string hop] [.string ⟨#[]⟩,.int .i64 0,.slice none 0 0,.int .i64 0,.int .i64 0,.int .i64 0,.slice none 0 0,.slice none 0 0,.slice none 0 0,.slice none 0 0,.slice none 0 0,.slice none 0 0,.slice none 0 0,.slice none 0 0,.string ⟨#[]⟩,.string ⟨#[]⟩] [.string nm,.int .i64 pri,.slice b2 n2 k2,.int .i64 wa,.int .i64 wb,.int .i64 wc,.slice a6 n6 m6,.slice a7 n7 m7,.slice a8 n8 m8,.slice a9 n9 m9,.slice eG n10 m10,.slice dY n11 m11,.slice a12 n12 m12,.slice df n13 m13,.string dK,.string hop]):=by rw [tV];exact C2.set 2 _ (by simp)
 have g2':Hid (G2 W5):=by rw [tV];exact vL.out _ _ g2 (Kept.set (az.not (by have:=hsz.out;simp;omega)) _)
 clear g2 hS2 hb2;have g2:=g2';clear g2'
 have hs5:Hid (W5.heap.size=v2.heap.size):=by rw [Hid,tV];simp
 have HR:Hid (Row eY 4 (az W5) W5 (W5.alloc (.cells #[] 299)) 299 (.slice (some ⟨v2.heap.size,0,none⟩) 0 0) []):=by rw [<- hs5.out];exact Row.start _ _ _ _ (Below.refl _ _)
 have HN:Hid (Src eY 4 (fun b=>az W5 b/\Value.ownBlock (.slice (some ⟨v2.heap.size,0,none⟩) 0 0)≠some b) (W5.alloc (.cells #[] 299)) a6 n6 yu):=((S6.out.on eY.ae (B5.out.b.alloc (by have:=B5.out.sz;omega) _)).src eY.ae).flat eY.flat
 have HB:Hid ((([]:List gN).length+yu.length)*48<=140737488355328):=by have h1:=S6.out.2.2.2.1;have h2:=S6.out.1;rw [Hid,h2];simp;omega
 clear C2
 go_wp2_with (at_builtin;go_must (rw [<- tV]);go_must (refine Qm eY.ae (A:=az W5) (w0:=W5) rfl _ _ 33 299 rfl _ 48 Jz underlying33 rfl (by decide) (by decide) _ [] rfl HR.out a6 n6 m6 yu rfl HN.out HB.out ?_);clear q2 qf2 p6 pf6 hs4 hne0 hne1 hne2 l6 tV;intro x6 v6 tT Gi;rw [List.nil_append] at tT;obtain ⟨b6,k6,rfl,Ch⟩:=tT.lD (bytes:=48) eY.ae (by rw [S6.out.1];exact S6.out.2.2.2.1);have hb6:=tT.below;have C6:=B5.out.on hb6;rw [S6.out.1] at Ch |-;have hs4:=C6.sz;have l6:w.heap.size<v6.heap.size:=(by omega);have hne0:w.heap.size≠v6.heap.size:=(by omega);have hne1:w.heap.size+1≠v6.heap.size:=(by omega);have hne2:w.heap.size+1+1≠v6.heap.size:=(by omega);obtain ⟨q6,qf6⟩:=C6.q.2 6 _ rfl;obtain ⟨p7,pf7⟩:=C6.p.2 7 _ rfl)
 obtain ⟨G6,EW,g6,i6,o6⟩:=dE.add (u:=v6) vL.out (vL.out _ _ g2.out (Kept.below hb6)) eY.ae (Ch.weak eY.ae (fun b _ hb=>B5.out.fr hsz.out b hb))
 replace EW:Hid (dE W3 G6):=EW
 replace i6:Hid (∀ v,G6 v->_):=i6
 replace o6:Hid (∀ v,G6 v->_):=o6
 obtain ⟨W7,uK⟩:∃ W7,W7=v6.setCell ⟨w.heap.size+1+1,6,none⟩ (.slice b6 n6 k6):=⟨_,rfl⟩
 have B7:Hid (PB w W7 [.string nm,.int .i64 pri,.slice a2 n2 m2,.int .i64 wa,.int .i64 wb,.int .i64 wc,.slice a6 n6 m6,.slice a7 n7 m7,.slice a8 n8 m8,.slice a9 n9 m9,.slice eG n10 m10,.slice dY n11 m11,.slice a12 n12 m12,.slice df n13 m13,.string dK,.string hop] [.string ⟨#[]⟩,.int .i64 0,.slice none 0 0,.int .i64 0,.int .i64 0,.int .i64 0,.slice none 0 0,.slice none 0 0,.slice none 0 0,.slice none 0 0,.slice none 0 0,.slice none 0 0,.slice none 0 0,.slice none 0 0,.string ⟨#[]⟩,.string ⟨#[]⟩] [.string nm,.int .i64 pri,.slice b2 n2 k2,.int .i64 wa,.int .i64 wb,.int .i64 wc,.slice b6 n6 k6,.slice a7 n7 m7,.slice a8 n8 m8,.slice a9 n9 m9,.slice eG n10 m10,.slice dY n11 m11,.slice a12 n12 m12,.slice df n13 m13,.string dK,.string hop]):=by rw [uK];exact C6.set 6 _ (by simp)
 have g6':Hid (G6 W7):=by rw [uK];exact EW.out _ _ g6 (Kept.set (az.not (by have:=hsz.out;simp;omega)) _)
 clear g6 Ch hb6;have g6:=g6';clear g6'
 rw [<- uK]
 clear uK C6 q6 qf6 p7 pf7 hs4 l6 hne0 hne1 hne2 tT Gi HR HN HB
 refine (Bf a7 n7 m7 A ask W7 (S7.out.on aU.ae B7.out.b)).mono ?_
 rintro e v7 ⟨b7,k7,rfl,Gp,iK⟩
 have C7:=B7.out.on iK
 obtain ⟨G7,zg,g7,i7,o7⟩:=dE.add (u:=v7) EW.out (EW.out _ _ g6.out (Kept.below iK)) aU.ae (Gp.weak aU.ae (fun b _ hb=>B7.out.fr hsz.out b hb))
 replace zg:Hid (dE W3 G7):=zg
 replace i7:Hid (∀ v,G7 v->_):=i7
 replace o7:Hid (∀ v,G7 v->_):=o7
 have hs4:=C7.sz
 have l6:w.heap.size<v7.heap.size:=(by omega)
 have hne0:w.heap.size≠v7.heap.size:=(by omega)
 have hne1:w.heap.size+1≠v7.heap.size:=(by omega)
 have hne2:w.heap.size+1+1≠v7.heap.size:=(by omega)
 obtain ⟨q7,qf7⟩:=C7.q.2 7 _ rfl
 obtain ⟨q8,qf8⟩:=C7.q.2 8 _ rfl
 obtain ⟨p8,Ro⟩:=C7.p.2 8 _ rfl
 obtain ⟨W8,pW⟩:∃ W8,W8=v7.setCell ⟨w.heap.size+1+1,7,none⟩ (.slice b7 n7 k7):=⟨_,rfl⟩
 have B8:Hid (PB w W8 [.string nm,.int .i64 pri,.slice a2 n2 m2,.int .i64 wa,.int .i64 wb,.int .i64 wc,.slice a6 n6 m6,.slice a7 n7 m7,.slice a8 n8 m8,.slice a9 n9 m9,.slice eG n10 m10,.slice dY n11 m11,.slice a12 n12 m12,.slice df n13 m13,.string dK,.string hop] [.string ⟨#[]⟩,.int .i64 0,.slice none 0 0,.int .i64 0,.int .i64 0,.int .i64 0,.slice none 0 0,.slice none 0 0,.slice none 0 0,.slice none 0 0,.slice none 0 0,.slice none 0 0,.slice none 0 0,.slice none 0 0,.string ⟨#[]⟩,.string ⟨#[]⟩] [.string nm,.int .i64 pri,.slice b2 n2 k2,.int .i64 wa,.int .i64 wb,.int .i64 wc,.slice b6 n6 k6,.slice b7 n7 k7,.slice a8 n8 m8,.slice a9 n9 m9,.slice eG n10 m10,.slice dY n11 m11,.slice a12 n12 m12,.slice df n13 m13,.string dK,.string hop]):=by rw [pW];exact C7.set 7 _ (by simp)
 have g7':Hid (G7 W8):=by rw [pW];exact zg.out _ _ g7 (Kept.set (az.not (by have:=hsz.out;simp;omega)) _)
 clear g7 Gp iK;have g7:=g7';clear g7'
 have hs8:Hid (W8.heap.size=v7.heap.size):=by rw [Hid,pW];simp
 have HR:Hid (Row dA 2 (az (W8.setCell ⟨w.heap.size+1+1,8,none⟩ (.slice (some ⟨v7.heap.size,0,none⟩) 0 0))) (W8.setCell ⟨w.heap.size+1+1,8,none⟩ (.slice (some ⟨v7.heap.size,0,none⟩) 0 0)) ((W8.setCell ⟨w.heap.size+1+1,8,none⟩ (.slice (some ⟨v7.heap.size,0,none⟩) 0 0)).alloc (.cells #[] 84)) 84 (.slice (some ⟨v7.heap.size,0,none⟩) 0 0) (lF.take 0)):=by
  have h1:=Row.start (R:=dA) (k:=2) (az (W8.setCell ⟨w.heap.size+1+1,8,none⟩ (.slice (some ⟨v7.heap.size,0,none⟩) 0 0))) (W8.setCell ⟨w.heap.size+1+1,8,none⟩ (.slice (some ⟨v7.heap.size,0,none⟩) 0 0)) (W8.setCell ⟨w.heap.size+1+1,8,none⟩ (.slice (some ⟨v7.heap.size,0,none⟩) 0 0)) 84 (Below.refl _ _)
  simp only [World.size_setCell,hs8.out] at h1
  exact h1
 have B9:Hid (PB w (W8.setCell ⟨w.heap.size+1+1,8,none⟩ (.slice (some ⟨v7.heap.size,0,none⟩) 0 0)) [.string nm,.int .i64 pri,.slice a2 n2 m2,.int .i64 wa,.int .i64 wb,.int .i64 wc,.slice a6 n6 m6,.slice a7 n7 m7,.slice a8 n8 m8,.slice a9 n9 m9,.slice eG n10 m10,.slice dY n11 m11,.slice a12 n12 m12,.slice df n13 m13,.string dK,.string hop] [.string ⟨#[]⟩,.int .i64 0,.slice none 0 0,.int .i64 0,.int .i64 0,.int .i64 0,.slice none 0 0,.slice none 0 0,.slice none 0 0,.slice none 0 0,.slice none 0 0,.slice none 0 0,.slice none 0 0,.slice none 0 0,.string ⟨#[]⟩,.string ⟨#[]⟩] [.string nm,.int .i64 pri,.slice b2 n2 k2,.int .i64 wa,.int .i64 wb,.int .i64 wc,.slice b6 n6 k6,.slice b7 n7 k7,.slice (some ⟨v7.heap.size,0,none⟩) 0 0,.slice a9 n9 m9,.slice eG n10 m10,.slice dY n11 m11,.slice a12 n12 m12,.slice df n13 m13,.string dK,.string hop]):=B8.out.set 8 _ (by simp)
 have g8:Hid (G7 (W8.setCell ⟨w.heap.size+1+1,8,none⟩ (.slice (some ⟨v7.heap.size,0,none⟩) 0 0))):=zg.out _ _ g7.out (Kept.set (az.not (by have:=hsz.out;have:=B8.out.sz;simp;omega)) _)
 clear C7
 go_wp2_with fail
 rw [<- pW]
 clear pW q7 qf7 q8 qf8 p8 Ro hs4 l6 hne0 hne1 hne2
 go_loopw [4] (fun i wr=>∃ (k:Nat) (X:World) (v:Value),k<=n8/\i=.int .i64 k/\Hid (PB w X [.string nm,.int .i64 pri,.slice a2 n2 m2,.int .i64 wa,.int .i64 wb,.int .i64 wc,.slice a6 n6 m6,.slice a7 n7 m7,.slice a8 n8 m8,.slice a9 n9 m9,.slice eG n10 m10,.slice dY n11 m11,.slice a12 n12 m12,.slice df n13 m13,.string dK,.string hop] [.string ⟨#[]⟩,.int .i64 0,.slice none 0 0,.int .i64 0,.int .i64 0,.int .i64 0,.slice none 0 0,.slice none 0 0,.slice none 0 0,.slice none 0 0,.slice none 0 0,.slice none 0 0,.slice none 0 0,.slice none 0 0,.string ⟨#[]⟩,.string ⟨#[]⟩] [.string nm,.int .i64 pri,.slice b2 n2 k2,.int .i64 wa,.int .i64 wb,.int .i64 wc,.slice b6 n6 k6,.slice b7 n7 k7,v,.slice a9 n9 m9,.slice eG n10 m10,.slice dY n11 m11,.slice a12 n12 m12,.slice df n13 m13,.string dK,.string hop])/\Hid (Row dA 2 (az X) X wr 84 v (lF.take k))/\Hid (G7 X)) (fun i _=>n8 - (intOf i).toNat)
 case atStart=>exact ⟨0,_,_,Nat.zero_le _,rfl,B9,HR,g8⟩
 case round =>
  obtain ⟨k,X,v,hk,rfl,hB,hrow,hG⟩:=hrel
  have hbX:Below X.heap.size X wr:=hrow.out.below
  have hBw:=hB.out.on hbX
  obtain ⟨p8,Ro⟩:=hBw.p.2 8 _ rfl
  have Ce:Hid (lF.length=n8):=S8.out.1
  have JW:Hid (n8*32<=140737488351232):=S8.out.2.2.2.1
  have hl8:=S8.out.len (by decide)
  by_cases hlt:k<n8
  ·have hltz:(k:Int)<(n8:Int):=by omega
   have hkl:Hid (k<lF.length):=by rw [Hid,Ce.out];exact hlt
   obtain ⟨D,off,rfl,hD,_,cs,hr,hv⟩:=S8.out.get hlt
   obtain ⟨⟨c1,c2,c3⟩,rfl,hT⟩:=hr.out
   have d0:=hv 0 _ rfl
   have d1:=hv 1 _ rfl
   rw [Nat.add_zero] at d0
   have HT:Hid (lF.take k++[lF.getD k default]=lF.take (k+1)):=nH hkl.out
   have HS:Hid (∀ {u:World},Below X.heap.size X u->PfS w D off k (.slice (some ⟨D,off,none⟩) n8 m8) v (.slice c1 c2 c3) (.int .i64 (lF.getD k default).2) u):=fun {u} hb=>⟨((hB.out.on hb).p.2 8 _ rfl).1,((hB.out.on hb).q.2 8 _ rfl).1,((hB.out.on hb).q.2 8 _ rfl).2,((hB.out.on hb).b.cell hD).trans d0,((hB.out.on hb).b.cell hD).trans d1⟩
   have HC:=Bf c1 c2 c3 A (lF.getD k default).1 wr.drew (hT.on aU.ae hBw.b.drew)
   have gU:Hid (((lF.take k).length+1)*32<=140737488355328):=by
    have:=qC JW.out hlt
    rw [Hid,List.length_take,Ce.out,Nat.min_eq_left (by omega)]
    exact this
   have lG:=hB.out.sz
   clear hr hT hv d0 d1 hBw
   generalize lF.getD k default=x at HT HS HC
   go_wp2_with fail
   refine u0 19 (PfS w D off k (.slice (some ⟨D,off,none⟩) n8 m8) v (.slice c1 c2 c3) (.int .i64 x.2)) (HS.out hbX.drew) (fun gH=>?_)
   refine' uk 0 ?_ ?_;rotate_left
   ·intro u ⟨_,_,_,_,_⟩;go_simp;try with_reducible rfl
   try go_frame
   refine' uk 1 ?_ ?_;rotate_left
   ·intro u ⟨_,_,_,_,_⟩;go_simp;try with_reducible rfl
   try go_frame
   refine' uk 2 ?_ ?_;rotate_left
   ·intro u ⟨_,_,_,_,_⟩;go_simp;try with_reducible rfl
   try go_frame
   refine' uk 3 ?_ ?_;rotate_left
   ·intro u ⟨_,_,_,_,_⟩;go_simp;try with_reducible rfl
   try go_frame
   refine' uk 4 ?_ ?_;rotate_left
   ·intro u ⟨_,_,_,_,_⟩;go_simp;try with_reducible rfl
   try go_frame
   refine' uk 5 ?_ ?_;rotate_left
   ·intro u ⟨_,_,_,_,_⟩;go_simp;try with_reducible rfl
   try go_frame
   refine' uk 6 ?_ ?_;rotate_left
   ·intro u ⟨_,_,_,_,_⟩;go_simp;try with_reducible rfl
   try go_frame
   refine' uk 7 ?_ ?_;rotate_left
   ·intro u ⟨_,_,_,_,_⟩;go_simp;try with_reducible rfl
   try go_frame
   refine' uk 9 ?_ ?_;rotate_left
   ·intro u ⟨_,_,_,_,_⟩;go_simp;try with_reducible rfl
   try go_frame
   refine' uk 10 ?_ ?_;rotate_left
   ·intro u ⟨_,_,_,_,_⟩;go_simp;try with_reducible rfl
   try go_frame
   refine' uk 11 ?_ ?_;rotate_left
   ·intro u ⟨_,_,_,_,_⟩;go_simp;try with_reducible rfl
   try go_frame
   refine' uk 12 ?_ ?_;rotate_left
   ·intro u ⟨_,_,_,_,_⟩;go_simp;try with_reducible rfl
   try go_frame
   refine' uk 13 ?_ ?_;rotate_left
   ·intro u ⟨_,_,_,_,_⟩;go_simp;try with_reducible rfl
   try go_frame
   refine' uk 14 ?_ ?_;rotate_left
   ·intro u ⟨_,_,_,_,_⟩;go_simp;try with_reducible rfl
   try go_frame
   refine ur 8 (fun K hK=>?_)
   go_simp
   refine HC.mono ?_
   rintro e w5 ⟨a5,c5,rfl,hS5,hb5⟩
   have sK:=ah hbX.drew hb5
   have Uv:=hrow.out.on dA.ae (((Below.refl _ wr).drew.trans (hb5.mono (Nat.le_refl _))))
   go_wp2_with fail
   refine hK.out _ _ (HS.out sK) (fun gI=>?_)
   clear hK K gH;have gH:=gI;clear gI
   try go_frame
   refine' uk 15 ?_ ?_;rotate_left
   ·intro u ⟨_,_,_,_,_⟩;go_simp;try with_reducible rfl
   try go_frame
   have hb6:Below wr.heap.size wr (w5.alloc (.cells #[.slice a5 c2 c5,.int .i64 x.2] 84)):=((Below.refl _ wr).drew.trans (hb5.mono (Nat.le_refl _))).alloc hb5.size _
   have ku:=hrow.out.on dA.ae hb6
   have HE:dA (fun b=>az X b/\Value.ownBlock v≠some b) (w5.alloc (.cells #[.slice a5 c2 c5,.int .i64 x.2] 84)) [.slice a5 c2 c5,.int .i64 x.2] x:=dA.mk (h0:=(a5,c2,c5)) ((hS5.kept aU.ae (Kept.alloc _ _ _)).weak aU.ae (fun b _ hb=>hrow.out.apart (u':=wr.drew) (Nat.le_refl _) b hb))
   have gV:=nJ dA.ae HE
   have HX:=nY w5 [.slice a5 c2 c5,.int .i64 x.2] 84
   refine ur 16 (fun K hK=>?_)
   go_simp
   refine hK.out _ _ (HS.out (ah hbX hb6)) (fun gI=>?_)
   clear hK K gH;have gH:=gI;clear gI
   try go_frame
   refine ur 17 (fun K hK=>?_)
   refine xO dA.ae (A:=az X) (w0:=X) _ _ 35 84 rfl _ 32 zHM underlying35 rfl (by decide) (by decide) v (lF.take k) rfl ku ⟨w5.heap.size,0,none⟩ 1 1 _ [x] rfl rfl gV HX (by simp [Value.oneCell']) gU.out ?_
   intro v9 w9 dU qJ
   rw [HT.out] at dU
   obtain ⟨e9,c9,rfl,_⟩:=dU.lD (bytes:=32) dA.ae (Nat.le_trans (Nat.mul_le_mul_right 32 (by rw [List.length_take,Ce.out];omega)) JW.out)
   generalize (lF.take (k+1)).length=l9 at dU |-
   refine hK.out _ _ (HS.out dU.below) (fun gI=>?_)
   clear hK K gH;have gH:=gI;clear gI
   try go_frame
   refine' uk 18 ?_ ?_;rotate_left
   ·intro u ⟨_,_,_,_,_⟩;go_simp;try with_reducible rfl
   try go_frame
   have kK:Hid (Row dA 2 (az (X.setCell ⟨w.heap.size+1+1,8,none⟩ (.slice e9 l9 c9))) (X.setCell ⟨w.heap.size+1+1,8,none⟩ (.slice e9 l9 c9)) (w9.setCell ⟨w.heap.size+1+1,8,none⟩ (.slice e9 l9 c9)) 84 (.slice e9 l9 c9) (lF.take (k+1))):=dU.vE dA.ae lG _
   have uQ:Hid (PB w (X.setCell ⟨w.heap.size+1+1,8,none⟩ (.slice e9 l9 c9)) [.string nm,.int .i64 pri,.slice a2 n2 m2,.int .i64 wa,.int .i64 wb,.int .i64 wc,.slice a6 n6 m6,.slice a7 n7 m7,.slice (some ⟨D,off,none⟩) n8 m8,.slice a9 n9 m9,.slice eG n10 m10,.slice dY n11 m11,.slice a12 n12 m12,.slice df n13 m13,.string dK,.string hop] [.string ⟨#[]⟩,.int .i64 0,.slice none 0 0,.int .i64 0,.int .i64 0,.int .i64 0,.slice none 0 0,.slice none 0 0,.slice none 0 0,.slice none 0 0,.slice none 0 0,.slice none 0 0,.slice none 0 0,.slice none 0 0,.string ⟨#[]⟩,.string ⟨#[]⟩] [.string nm,.int .i64 pri,.slice b2 n2 k2,.int .i64 wa,.int .i64 wb,.int .i64 wc,.slice b6 n6 k6,.slice b7 n7 k7,.slice e9 l9 c9,.slice a9 n9 m9,.slice eG n10 m10,.slice dY n11 m11,.slice a12 n12 m12,.slice df n13 m13,.string dK,.string hop]):=hB.out.set 8 _ (by simp)
   have uM:Hid (G7 (X.setCell ⟨w.heap.size+1+1,8,none⟩ (.slice e9 l9 c9))):=zg.out _ _ hG.out (Kept.set (az.not (by have:=hsz.out;have:=lG;simp;omega)) _)
   obtain ⟨_,q8,f8,_,_⟩:=gH
   refine uz 19 (fun K hK=>?_)
   go_simp
   refine hK.out _ (NoPanic.normal ?_)
   try go_frame
   clear hK K
   go_wp2_with fail
   go_roundw
   case rel=>exact ⟨k+1,_,_,by omega,by go_num,uQ,kK,uM⟩
   case measure=>simp [intOf];omega
  ·have hk8:lF.take k=lF:=List.take_of_length_le (by rw [Ce.out];omega)
   rw [hk8] at hrow
   obtain ⟨b8,k8,rfl,yg⟩:=hrow.out.lD (bytes:=32) dA.ae (by rw [Ce.out];exact JW.out)
   rw [Ce.out] at yg hB
   obtain ⟨G8,Mo,g8,i8,o8⟩:=dE.add (u:=wr) zg.out (zg.out _ _ hG.out (Kept.below hbX)) dA.ae (yg.weak dA.ae (fun b _ hb=>hB.out.fr hsz.out b hb))
   replace Mo:Hid (dE W3 G8):=Mo
   replace i8:Hid (∀ v,G8 v->_):=i8
   replace o8:Hid (∀ v,G8 v->_):=o8
   replace g8:Hid (G8 wr):=g8
   have C8:Hid (PB w wr [.string nm,.int .i64 pri,.slice a2 n2 m2,.int .i64 wa,.int .i64 wb,.int .i64 wc,.slice a6 n6 m6,.slice a7 n7 m7,.slice a8 n8 m8,.slice a9 n9 m9,.slice eG n10 m10,.slice dY n11 m11,.slice a12 n12 m12,.slice df n13 m13,.string dK,.string hop] [.string ⟨#[]⟩,.int .i64 0,.slice none 0 0,.int .i64 0,.int .i64 0,.int .i64 0,.slice none 0 0,.slice none 0 0,.slice none 0 0,.slice none 0 0,.slice none 0 0,.slice none 0 0,.slice none 0 0,.slice none 0 0,.string ⟨#[]⟩,.string ⟨#[]⟩] [.string nm,.int .i64 pri,.slice b2 n2 k2,.int .i64 wa,.int .i64 wb,.int .i64 wc,.slice b6 n6 k6,.slice b7 n7 k7,.slice b8 n8 k8,.slice a9 n9 m9,.slice eG n10 m10,.slice dY n11 m11,.slice a12 n12 m12,.slice df n13 m13,.string dK,.string hop]):=hB.out.on hbX
   have hlz:¬ ((k:Int)<(n8:Int)):=by omega
   obtain ⟨p9,pf9⟩:=C8.out.p.2 9 _ rfl
   clear yg hrow hB hG hbX hBw
   go_wp2_with fail
   refine (Ie a9 n9 m9 A prt wr (S9.out.on aC.ae C8.out.b)).mono ?_
   rintro e v9 ⟨b9,k9,rfl,hS9,ou⟩
   have C9:=C8.out.on ou
   obtain ⟨G9,EU,g9,i9,o9⟩:=dE.add (u:=v9) Mo.out (Mo.out _ _ g8.out (Kept.below ou)) aC.ae (hS9.weak aC.ae (fun b _ hb=>C8.out.fr hsz.out b hb))
   replace EU:Hid (dE W3 G9):=EU
   replace i9:Hid (∀ v,G9 v->_):=i9
   replace o9:Hid (∀ v,G9 v->_):=o9
   replace g9:Hid (G9 v9):=g9
   have hs4:=C9.sz
   have l6:w.heap.size<v9.heap.size:=(by omega)
   have hne0:w.heap.size≠v9.heap.size:=(by omega)
   have hne1:w.heap.size+1≠v9.heap.size:=(by omega)
   have hne2:w.heap.size+1+1≠v9.heap.size:=(by omega)
   clear p8 Ro p9 pf9
   obtain ⟨q9,qf9⟩:=C9.q.2 9 _ rfl
   obtain ⟨fJ,oI⟩:∃ fJ,fJ=v9.setCell ⟨w.heap.size+1+1,9,none⟩ (.slice b9 n9 k9):=⟨_,rfl⟩
   have B10:Hid (PB w fJ [.string nm,.int .i64 pri,.slice a2 n2 m2,.int .i64 wa,.int .i64 wb,.int .i64 wc,.slice a6 n6 m6,.slice a7 n7 m7,.slice a8 n8 m8,.slice a9 n9 m9,.slice eG n10 m10,.slice dY n11 m11,.slice a12 n12 m12,.slice df n13 m13,.string dK,.string hop] [.string ⟨#[]⟩,.int .i64 0,.slice none 0 0,.int .i64 0,.int .i64 0,.int .i64 0,.slice none 0 0,.slice none 0 0,.slice none 0 0,.slice none 0 0,.slice none 0 0,.slice none 0 0,.slice none 0 0,.slice none 0 0,.string ⟨#[]⟩,.string ⟨#[]⟩] [.string nm,.int .i64 pri,.slice b2 n2 k2,.int .i64 wa,.int .i64 wb,.int .i64 wc,.slice b6 n6 k6,.slice b7 n7 k7,.slice b8 n8 k8,.slice b9 n9 k9,.slice eG n10 m10,.slice dY n11 m11,.slice a12 n12 m12,.slice df n13 m13,.string dK,.string hop]):=by rw [oI];exact C9.set 9 _ (by simp)
   have gg9:Hid (G9 fJ):=by rw [oI];exact EU.out _ _ g9.out (Kept.set (az.not (by have:=hsz.out;simp;omega)) _)
   clear C9 hS9 ou C8
   go_upto_region 11 with fail
   rw [<- oI]
   clear oI q9 qf9 hs4 l6 hne0 hne1 hne2 hlz
   have HS:Hid (∀ {u:World},Below fJ.heap.size fJ u->TwS w (.slice eG n10 m10) (.slice dY n11 m11) u):=fun {u} hb=>⟨((B10.out.on hb).p.2 10 _ rfl).1,((B10.out.on hb).p.2 11 _ rfl).1⟩
   refine wp_region_noPanic ?_
   refine wp_region_held_drew (S:=TwS w (.slice eG n10 m10) (.slice dY n11 m11)) (by kernel_rfl) (HS.out (Below.refl _ _).drew) (fun gH=>?_)
   refine' tk 0 ?_ ?_;rotate_left
   ·intro u ⟨_,_⟩;go_simp;try with_reducible rfl
   try go_frame
   refine' tk 1 ?_ ?_;rotate_left
   ·intro u ⟨_,_⟩;go_simp;try with_reducible rfl
   try go_frame
   refine' tk 3 ?_ ?_;rotate_left
   ·intro u ⟨_,_⟩;go_simp;try with_reducible rfl
   try go_frame
   refine' tk 4 ?_ ?_;rotate_left
   ·intro u ⟨_,_⟩;go_simp;try with_reducible rfl
   try go_frame
   refine tr 2 (fun K hK=>?_)
   go_simp
   refine (Ya eG n10 m10 A BQ fJ.drew (Nr.out.on bT.ae B10.out.b.drew)).mono ?_
   rintro e v10 ⟨b10,k10,rfl,Td,oH⟩
   have xA:Below fJ.heap.size fJ v10:=ah (Below.refl _ _).drew oH
   go_wp2_with fail
   refine hK.out _ _ (HS.out xA) (fun gI=>?_)
   clear hK K gH;have gH:=gI;clear gI
   try go_frame
   refine' tk 6 ?_ ?_;rotate_left
   ·intro u ⟨_,_⟩;go_simp;try with_reducible rfl
   try go_frame
   refine tr 5 (fun K hK=>?_)
   go_simp
   refine (Ya dY n11 m11 A Ct v10 (Nq.out.on bT.ae (ah B10.out.b xA))).mono ?_
   rintro e v11 ⟨b11,k11,rfl,Tc,oG⟩
   have JU:Below fJ.heap.size fJ v11:=ah xA oG
   go_wp2_with fail
   refine hK.out _ _ (HS.out JU) (fun gI=>?_)
   clear hK K gH;have gH:=gI;clear gI
   try go_frame
   obtain ⟨Ot,Di,g10,i10,Rw⟩:=dE.add (u:=v10) EU.out (EU.out _ _ gg9.out (Kept.below xA)) bT.ae (Td.weak bT.ae (fun b _ hb=>B10.out.fr hsz.out b hb))
   replace Di:Hid (dE W3 Ot):=Di
   replace i10:Hid (∀ v,Ot v->_):=i10
   replace Rw:Hid (∀ v,Ot v->_):=Rw
   replace g10:Hid (Ot v10):=g10
   have Sz:=B10.out.on xA
   obtain ⟨yI,vY,g11,i11,Rv⟩:=dE.add (u:=v11) Di.out (Di.out _ _ g10.out (Kept.below oG)) bT.ae (Tc.weak bT.ae (fun b _ hb=>Sz.fr hsz.out b hb))
   replace vY:Hid (dE W3 yI):=vY
   replace i11:Hid (∀ v,yI v->_):=i11
   replace Rv:Hid (∀ v,yI v->_):=Rv
   replace g11:Hid (yI v11):=g11
   have Iz:=B10.out.on JU
   have hs4:=Iz.sz
   obtain ⟨BK,aao⟩:=Iz.q.2 10 _ rfl
   obtain ⟨Fg,aan⟩:=Iz.q.2 11 _ rfl
   have D9:PB w (v11.setCell ⟨w.heap.size+1+1,10,none⟩ (.slice b10 n10 k10)) [.string nm,.int .i64 pri,.slice a2 n2 m2,.int .i64 wa,.int .i64 wb,.int .i64 wc,.slice a6 n6 m6,.slice a7 n7 m7,.slice a8 n8 m8,.slice a9 n9 m9,.slice eG n10 m10,.slice dY n11 m11,.slice a12 n12 m12,.slice df n13 m13,.string dK,.string hop] [.string ⟨#[]⟩,.int .i64 0,.slice none 0 0,.int .i64 0,.int .i64 0,.int .i64 0,.slice none 0 0,.slice none 0 0,.slice none 0 0,.slice none 0 0,.slice none 0 0,.slice none 0 0,.slice none 0 0,.slice none 0 0,.string ⟨#[]⟩,.string ⟨#[]⟩] [.string nm,.int .i64 pri,.slice b2 n2 k2,.int .i64 wa,.int .i64 wb,.int .i64 wc,.slice b6 n6 k6,.slice b7 n7 k7,.slice b8 n8 k8,.slice b9 n9 k9,.slice b10 n10 k10,.slice dY n11 m11,.slice a12 n12 m12,.slice df n13 m13,.string dK,.string hop]:=Iz.set 10 _ (by simp)
   have AL:PB w ((v11.setCell ⟨w.heap.size+1+1,10,none⟩ (.slice b10 n10 k10)).setCell ⟨w.heap.size+1+1,11,none⟩ (.slice b11 n11 k11)) [.string nm,.int .i64 pri,.slice a2 n2 m2,.int .i64 wa,.int .i64 wb,.int .i64 wc,.slice a6 n6 m6,.slice a7 n7 m7,.slice a8 n8 m8,.slice a9 n9 m9,.slice eG n10 m10,.slice dY n11 m11,.slice a12 n12 m12,.slice df n13 m13,.string dK,.string hop] [.string ⟨#[]⟩,.int .i64 0,.slice none 0 0,.int .i64 0,.int .i64 0,.int .i64 0,.slice none 0 0,.slice none 0 0,.slice none 0 0,.slice none 0 0,.slice none 0 0,.slice none 0 0,.slice none 0 0,.slice none 0 0,.string ⟨#[]⟩,.string ⟨#[]⟩] [.string nm,.int .i64 pri,.slice b2 n2 k2,.int .i64 wa,.int .i64 wb,.int .i64 wc,.slice b6 n6 k6,.slice b7 n7 k7,.slice b8 n8 k8,.slice b9 n9 k9,.slice b10 n10 k10,.slice b11 n11 k11,.slice a12 n12 m12,.slice df n13 m13,.string dK,.string hop]:=D9.set 11 _ (by simp)
   have Ty:Hid (yI ((v11.setCell ⟨w.heap.size+1+1,10,none⟩ (.slice b10 n10 k10)).setCell ⟨w.heap.size+1+1,11,none⟩ (.slice b11 n11 k11))):=vY.out _ _ g11.out ((Kept.set (az.not (by have:=hsz.out;simp;omega)) _).trans (Kept.set (az.not (by have:=hsz.out;simp;omega)) _))
   refine ts 7 (fun K hK=>?_)
   go_simp
   refine hK.out undef _ ⟨(D9.p.2 10 _ rfl).1,(D9.p.2 11 _ rfl).1⟩ (fun gI=>?_)
   clear hK K gH;have gH:=gI;clear gI
   try go_frame
   refine' tk 8 ?_ ?_;rotate_left
   ·intro u ⟨_,_⟩;go_simp;try with_reducible rfl
   try go_frame
   refine ts 9 (fun K hK=>?_)
   go_simp
   refine hK.out undef _ ⟨(AL.p.2 10 _ rfl).1,(AL.p.2 11 _ rfl).1⟩ (fun gI=>?_)
   clear hK K gH;have gH:=gI;clear gI
   try go_frame
   refine wpAnyH_done (by kernel_rfl) ?_ _
   refine NoPanic.normal ?_
   obtain ⟨eX,wy⟩:∃ eX,eX=((v11.setCell ⟨w.heap.size+1+1,10,none⟩ (.slice b10 n10 k10)).setCell ⟨w.heap.size+1+1,11,none⟩ (.slice b11 n11 k11)):=⟨_,rfl⟩
   rw [<- wy] at AL Ty |-
   have AP:Hid (PB w eX [.string nm,.int .i64 pri,.slice a2 n2 m2,.int .i64 wa,.int .i64 wb,.int .i64 wc,.slice a6 n6 m6,.slice a7 n7 m7,.slice a8 n8 m8,.slice a9 n9 m9,.slice eG n10 m10,.slice dY n11 m11,.slice a12 n12 m12,.slice df n13 m13,.string dK,.string hop] [.string ⟨#[]⟩,.int .i64 0,.slice none 0 0,.int .i64 0,.int .i64 0,.int .i64 0,.slice none 0 0,.slice none 0 0,.slice none 0 0,.slice none 0 0,.slice none 0 0,.slice none 0 0,.slice none 0 0,.slice none 0 0,.string ⟨#[]⟩,.string ⟨#[]⟩] [.string nm,.int .i64 pri,.slice b2 n2 k2,.int .i64 wa,.int .i64 wb,.int .i64 wc,.slice b6 n6 k6,.slice b7 n7 k7,.slice b8 n8 k8,.slice b9 n9 k9,.slice b10 n10 k10,.slice b11 n11 k11,.slice a12 n12 m12,.slice df n13 m13,.string dK,.string hop]):=AL
   clear wy Iz D9 AL BK aao Fg aan hs4 Sz Td Tc oH oG xA JU gH HS
   have hs4:=AP.out.sz
   have l6:w.heap.size<eX.heap.size:=by omega
   have hne0:w.heap.size≠eX.heap.size:=by omega
   have hne1:w.heap.size+1≠eX.heap.size:=by omega
   have hne2:w.heap.size+1+1≠eX.heap.size:=by omega
   obtain ⟨BJ,Dj⟩:=AP.out.q.2 12 _ rfl
   have HR:Hid (Row cK 4 (az (eX.setCell ⟨w.heap.size+1+1,12,none⟩ (.slice (some ⟨eX.heap.size,0,none⟩) 0 0))) (eX.setCell ⟨w.heap.size+1+1,12,none⟩ (.slice (some ⟨eX.heap.size,0,none⟩) 0 0)) ((eX.setCell ⟨w.heap.size+1+1,12,none⟩ (.slice (some ⟨eX.heap.size,0,none⟩) 0 0)).alloc (.cells #[] 88)) 88 (.slice (some ⟨eX.heap.size,0,none⟩) 0 0) (jF.take 0)):=by
    have h1:=Row.start (R:=cK) (k:=4) (az (eX.setCell ⟨w.heap.size+1+1,12,none⟩ (.slice (some ⟨eX.heap.size,0,none⟩) 0 0))) (eX.setCell ⟨w.heap.size+1+1,12,none⟩ (.slice (some ⟨eX.heap.size,0,none⟩) 0 0)) (eX.setCell ⟨w.heap.size+1+1,12,none⟩ (.slice (some ⟨eX.heap.size,0,none⟩) 0 0)) 88 (Below.refl _ _)
    simp only [World.size_setCell] at h1
    exact h1
   have CZ:Hid (PB w (eX.setCell ⟨w.heap.size+1+1,12,none⟩ (.slice (some ⟨eX.heap.size,0,none⟩) 0 0)) [.string nm,.int .i64 pri,.slice a2 n2 m2,.int .i64 wa,.int .i64 wb,.int .i64 wc,.slice a6 n6 m6,.slice a7 n7 m7,.slice a8 n8 m8,.slice a9 n9 m9,.slice eG n10 m10,.slice dY n11 m11,.slice a12 n12 m12,.slice df n13 m13,.string dK,.string hop] [.string ⟨#[]⟩,.int .i64 0,.slice none 0 0,.int .i64 0,.int .i64 0,.int .i64 0,.slice none 0 0,.slice none 0 0,.slice none 0 0,.slice none 0 0,.slice none 0 0,.slice none 0 0,.slice none 0 0,.slice none 0 0,.string ⟨#[]⟩,.string ⟨#[]⟩] [.string nm,.int .i64 pri,.slice b2 n2 k2,.int .i64 wa,.int .i64 wb,.int .i64 wc,.slice b6 n6 k6,.slice b7 n7 k7,.slice b8 n8 k8,.slice b9 n9 k9,.slice b10 n10 k10,.slice b11 n11 k11,.slice (some ⟨eX.heap.size,0,none⟩) 0 0,.slice df n13 m13,.string dK,.string hop]):=AP.out.set 12 _ (by simp)
   have abk:Hid (yI (eX.setCell ⟨w.heap.size+1+1,12,none⟩ (.slice (some ⟨eX.heap.size,0,none⟩) 0 0))):=vY.out _ _ Ty.out (Kept.set (az.not (by have:=hsz.out;simp;omega)) _)
   go_wp2_with fail
   clear BJ Dj hs4 l6 hne0 hne1 hne2
   go_loopw [5] (fun i wr=>∃ (k:Nat) (X:World) (v:Value),k<=n12/\i=.int .i64 k/\Hid (PB w X [.string nm,.int .i64 pri,.slice a2 n2 m2,.int .i64 wa,.int .i64 wb,.int .i64 wc,.slice a6 n6 m6,.slice a7 n7 m7,.slice a8 n8 m8,.slice a9 n9 m9,.slice eG n10 m10,.slice dY n11 m11,.slice a12 n12 m12,.slice df n13 m13,.string dK,.string hop] [.string ⟨#[]⟩,.int .i64 0,.slice none 0 0,.int .i64 0,.int .i64 0,.int .i64 0,.slice none 0 0,.slice none 0 0,.slice none 0 0,.slice none 0 0,.slice none 0 0,.slice none 0 0,.slice none 0 0,.slice none 0 0,.string ⟨#[]⟩,.string ⟨#[]⟩] [.string nm,.int .i64 pri,.slice b2 n2 k2,.int .i64 wa,.int .i64 wb,.int .i64 wc,.slice b6 n6 k6,.slice b7 n7 k7,.slice b8 n8 k8,.slice b9 n9 k9,.slice b10 n10 k10,.slice b11 n11 k11,v,.slice df n13 m13,.string dK,.string hop])/\Hid (Row cK 4 (az X) X wr 88 v (jF.take k))/\Hid (yI X)) (fun i _=>n12 - (intOf i).toNat)
   case atStart=>exact ⟨0,_,_,Nat.zero_le _,rfl,CZ,HR,abk⟩
   case round =>
    obtain ⟨k,X,v,hk,rfl,hB,hrow,hG⟩:=hrel
    have hbX:Below X.heap.size X wr:=hrow.out.below
    have hBw:=hB.out.on hbX
    obtain ⟨p12,aat⟩:=hBw.p.2 12 _ rfl
    have xw:Hid (jF.length=n12):=Np.out.1
    have Dz:Hid (n12*56<=140737488351232):=Np.out.2.2.2.1
    have hl12:=Np.out.len (by decide)
    by_cases hlt:k<n12
    ·have hltz:(k:Int)<(n12:Int):=by omega
     have hkl:Hid (k<jF.length):=by rw [Hid,xw.out];exact hlt
     obtain ⟨D,off,rfl,hD,_,cs,hr,hv⟩:=Np.out.get hlt
     obtain ⟨⟨c1,c2,c3⟩,rfl,hs,hT⟩:=hr.out
     have d0:=(hBw.b.cell hD).trans (hv 0 _ rfl)
     have d1:=(hBw.b.cell hD).trans (hv 1 _ rfl)
     have d2:=(hBw.b.cell hD).trans (hv 2 _ rfl)
     have d3:=(hBw.b.cell hD).trans (hv 3 _ rfl)
     rw [Nat.add_zero] at d0
     have HT:Hid (jF.take k++[jF.getD k default]=jF.take (k+1)):=nH hkl.out
     have hbw:Below wr.heap.size wr (wr.alloc (.cells #[.string (jF.getD k default).1,.int .i64 (jF.getD k default).2.1,.int .i64 (jF.getD k default).2.2.1,.slice c1 c2 c3] 88)):=by go_grown
     have hTx:=Bf c1 c2 c3 A (jF.getD k default).2.2.2 (wr.alloc (.cells #[.string (jF.getD k default).1,.int .i64 (jF.getD k default).2.1,.int .i64 (jF.getD k default).2.2.1,.slice c1 c2 c3] 88)) (hT.on aU.ae (ah hBw.b hbw))
     have gU:Hid (((jF.take k).length+[jF.getD k default].length)*56<=140737488355328):=by
      have:=qC Dz.out hlt
      rw [Hid,List.length_take,xw.out,List.length_singleton,Nat.min_eq_left (by omega)]
      exact this
     have lG:=hB.out.sz
     have hsw:=hBw.sz
     have hn1:wr.heap.size≠w.heap.size+1+1:=by omega
     have hn2:w.heap.size+1+1≠wr.heap.size:=by omega
     clear hr hT hv
     generalize jF.getD k default=x at d0 d1 d2 d3 hs HT hbw hTx gU
     go_wp2_with fail
     refine hTx.mono ?_
     rintro e w2 ⟨a5,c5,rfl,hS5,hb5⟩
     clear hTx
     have Cn:wr.heap.size<(wr.alloc (.cells #[.string x.1,.int .i64 x.2.1,.int .i64 x.2.2.1,.slice c1 c2 c3] 88)).heap.size:=by simp
     have e0:w2.cell? ⟨wr.heap.size,0,none⟩=some (.string x.1):=(hb5.cell Cn).trans (by simp [go_sem])
     have e1:w2.cell? ⟨wr.heap.size,1,none⟩=some (.int .i64 x.2.1):=(hb5.cell Cn).trans (by simp [go_sem])
     have e2:w2.cell? ⟨wr.heap.size,2,none⟩=some (.int .i64 x.2.2.1):=(hb5.cell Cn).trans (by simp [go_sem])
     have e3:w2.cell? ⟨wr.heap.size,3,none⟩=some (.slice c1 c2 c3):=(hb5.cell Cn).trans (by simp [go_sem])
     have f3:w2.frozen? ⟨wr.heap.size,3,none⟩=false:=(hb5.frozen Cn).trans (by simp [go_sem])
     have hb6:Below wr.heap.size wr ((w2.setCell ⟨wr.heap.size,3,none⟩ (.slice a5 c2 c5)).alloc (.cells #[.string x.1,.int .i64 x.2.1,.int .i64 x.2.2.1,.slice a5 c2 c5] 88)):=(((hbw.trans (hb5.mono (by simp))).setCell (Nat.le_refl _) _).alloc (by have:=hb5.size;simp at this |-;omega) _)
     have ku:=hrow.out.on cK.ae hb6
     have HE:cK (fun b=>az X b/\Value.ownBlock v≠some b) ((w2.setCell ⟨wr.heap.size,3,none⟩ (.slice a5 c2 c5)).alloc (.cells #[.string x.1,.int .i64 x.2.1,.int .i64 x.2.2.1,.slice a5 c2 c5] 88)) [.string x.1,.int .i64 x.2.1,.int .i64 x.2.2.1,.slice a5 c2 c5] x:=by
      refine cK.mk (h3:=(a5,c2,c5)) hs (((hS5.kept aU.ae (Kept.set (az.not Cn) _)).kept aU.ae (Kept.alloc _ _ _)).weak aU.ae (fun b _ hb=>hrow.out.apart (u':=wr.alloc (.cells #[.string x.1,.int .i64 x.2.1,.int .i64 x.2.2.1,.slice c1 c2 c3] 88)) (by simp) b hb))
     have HC:Hid (aW cK 4 (fun b=>az X b/\Value.ownBlock v≠some b) ((w2.setCell ⟨wr.heap.size,3,none⟩ (.slice a5 c2 c5)).alloc (.cells #[.string x.1,.int .i64 x.2.1,.int .i64 x.2.2.1,.slice a5 c2 c5] 88)) [.string x.1,.int .i64 x.2.1,.int .i64 x.2.2.1,.slice a5 c2 c5] [x]):=nJ cK.ae HE
     have HX:Hid (∀ j y,([.string x.1,.int .i64 x.2.1,.int .i64 x.2.2.1,.slice a5 c2 c5]:List Value)[j]?=some y->((w2.setCell ⟨wr.heap.size,3,none⟩ (.slice a5 c2 c5)).alloc (.cells #[.string x.1,.int .i64 x.2.1,.int .i64 x.2.2.1,.slice a5 c2 c5] 88)).cell? ((⟨w2.heap.size,0,none⟩:Addr).add j)=some y):=by
      have:=nY (w2.setCell ⟨wr.heap.size,3,none⟩ (.slice a5 c2 c5)) [.string x.1,.int .i64 x.2.1,.int .i64 x.2.2.1,.slice a5 c2 c5] 88
      unfold Hid
      simpa using this
     have abQ:Hid (Row cK 4 (az X) X ((w2.setCell ⟨wr.heap.size,3,none⟩ (.slice a5 c2 c5)).alloc (.cells #[.string x.1,.int .i64 x.2.1,.int .i64 x.2.2.1,.slice a5 c2 c5] 88)) 88 v (jF.take k)):=ku
     have hd2:=hBw.on (hbw.trans (hb5.mono (by simp)))
     obtain ⟨BJ,Dj⟩:=hd2.q.2 12 _ rfl
     have hs2:wr.heap.size<w2.heap.size:=by have:=hb5.size;simp at this;omega
     have hs3:w.heap.size+1+1≠w2.heap.size:=by omega
     have hs5:wr.heap.size≠w2.heap.size:=by omega
     clear ku HE hbw hS5 hd2 hb6
     go_wp2_with (at_builtin;go_must (refine mh cK.ae (A:=az X) (w0:=X) rfl _ _ 38 88 rfl _ 56 zHN underlying38 rfl (by decide) (by decide) v (jF.take k) rfl abQ.out ⟨w2.heap.size,0,none⟩ 1 1 _ [x] rfl rfl HC.out HX.out (by simp [Value.oneCell']) gU.out ?_);intro v9 w9 dU qJ;rw [HT.out] at dU;obtain ⟨e9,c9,rfl,_⟩:=dU.lD (bytes:=56) cK.ae (Nat.le_trans (Nat.mul_le_mul_right 56 (by rw [List.length_take,xw.out];omega)) Dz.out);generalize (jF.take (k+1)).length=l9 at dU |-;clear BJ Dj;obtain ⟨BJ,Dj⟩:=(hB.out.on dU.below).q.2 12 _ rfl)
     have kK:Hid (Row cK 4 (az (X.setCell ⟨w.heap.size+1+1,12,none⟩ (.slice e9 l9 c9))) (X.setCell ⟨w.heap.size+1+1,12,none⟩ (.slice e9 l9 c9)) (w9.setCell ⟨w.heap.size+1+1,12,none⟩ (.slice e9 l9 c9)) 88 (.slice e9 l9 c9) (jF.take (k+1))):=dU.vE cK.ae lG _
     have uQ:Hid (PB w (X.setCell ⟨w.heap.size+1+1,12,none⟩ (.slice e9 l9 c9)) [.string nm,.int .i64 pri,.slice a2 n2 m2,.int .i64 wa,.int .i64 wb,.int .i64 wc,.slice a6 n6 m6,.slice a7 n7 m7,.slice a8 n8 m8,.slice a9 n9 m9,.slice eG n10 m10,.slice dY n11 m11,.slice (some ⟨D,off,none⟩) n12 m12,.slice df n13 m13,.string dK,.string hop] [.string ⟨#[]⟩,.int .i64 0,.slice none 0 0,.int .i64 0,.int .i64 0,.int .i64 0,.slice none 0 0,.slice none 0 0,.slice none 0 0,.slice none 0 0,.slice none 0 0,.slice none 0 0,.slice none 0 0,.slice none 0 0,.string ⟨#[]⟩,.string ⟨#[]⟩] [.string nm,.int .i64 pri,.slice b2 n2 k2,.int .i64 wa,.int .i64 wb,.int .i64 wc,.slice b6 n6 k6,.slice b7 n7 k7,.slice b8 n8 k8,.slice b9 n9 k9,.slice b10 n10 k10,.slice b11 n11 k11,.slice e9 l9 c9,.slice df n13 m13,.string dK,.string hop]):=hB.out.set 12 _ (by simp)
     have uM:Hid (yI (X.setCell ⟨w.heap.size+1+1,12,none⟩ (.slice e9 l9 c9))):=vY.out _ _ hG.out (Kept.set (az.not (by have:=hsz.out;have:=lG;simp;omega)) _)
     go_roundw
     case rel=>exact ⟨k+1,_,_,by omega,by go_num,uQ,kK,uM⟩
     case measure=>simp [intOf];omega
    ·have abf:jF.take k=jF:=List.take_of_length_le (by rw [xw.out];omega)
     rw [abf] at hrow
     obtain ⟨b12,k12,rfl,J2⟩:=hrow.out.lD (bytes:=56) cK.ae (by rw [xw.out];exact Dz.out)
     rw [xw.out] at J2 hB
     obtain ⟨Oq,Dh,g12,i12,Ru⟩:=dE.add (u:=wr) vY.out (vY.out _ _ hG.out (Kept.below hbX)) cK.ae (J2.weak cK.ae (fun b _ hb=>hB.out.fr hsz.out b hb))
     replace Dh:Hid (dE W3 Oq):=Dh
     replace i12:Hid (∀ v,Oq v->_):=i12
     replace Ru:Hid (∀ v,Oq v->_):=Ru
     replace g12:Hid (Oq wr):=g12
     have Iy:Hid (PB w wr [.string nm,.int .i64 pri,.slice a2 n2 m2,.int .i64 wa,.int .i64 wb,.int .i64 wc,.slice a6 n6 m6,.slice a7 n7 m7,.slice a8 n8 m8,.slice a9 n9 m9,.slice eG n10 m10,.slice dY n11 m11,.slice a12 n12 m12,.slice df n13 m13,.string dK,.string hop] [.string ⟨#[]⟩,.int .i64 0,.slice none 0 0,.int .i64 0,.int .i64 0,.int .i64 0,.slice none 0 0,.slice none 0 0,.slice none 0 0,.slice none 0 0,.slice none 0 0,.slice none 0 0,.slice none 0 0,.slice none 0 0,.string ⟨#[]⟩,.string ⟨#[]⟩] [.string nm,.int .i64 pri,.slice b2 n2 k2,.int .i64 wa,.int .i64 wb,.int .i64 wc,.slice b6 n6 k6,.slice b7 n7 k7,.slice b8 n8 k8,.slice b9 n9 k9,.slice b10 n10 k10,.slice b11 n11 k11,.slice b12 n12 k12,.slice df n13 m13,.string dK,.string hop]):=hB.out.on hbX
     have hlz:¬ ((k:Int)<(n12:Int)):=by omega
     obtain ⟨Fv,aas⟩:=Iy.out.p.2 13 _ rfl
     clear J2 hrow hB hG hbX hBw
     go_wp2_with fail
     refine (Yp df n13 m13 A rR wr (TW.out.on au.ae Iy.out.b)).mono ?_
     rintro e v13 ⟨b13,k13,rfl,Ta,rq⟩
     have Ow:=Iy.out.on rq
     obtain ⟨Oo,I1,g13,i13,Rt⟩:=dE.add (u:=v13) Dh.out (Dh.out _ _ g12.out (Kept.below rq)) au.ae (Ta.weak au.ae (fun b _ hb=>Iy.out.fr hsz.out b hb))
     replace I1:Hid (dE W3 Oo):=I1
     replace i13:Hid (∀ v,Oo v->_):=i13
     replace Rt:Hid (∀ v,Oo v->_):=Rt
     replace g13:Hid (Oo v13):=g13
     clear p12 aat Fv aas Iy rq Ta
     have hs4:=Ow.sz
     have l6:w.heap.size<v13.heap.size:=(by omega)
     have hne0:w.heap.size≠v13.heap.size:=(by omega)
     have hne1:w.heap.size+1≠v13.heap.size:=(by omega)
     have hne2:w.heap.size+1+1≠v13.heap.size:=(by omega)
     obtain ⟨Rm,acH⟩:=Ow.q.2 13 _ rfl
     have HK:Hid (∀ u,Kept (az W3) v13 u->aj (az w) u [.string nm,.int .i64 pri,.slice b2 n2 k2,.int .i64 wa,.int .i64 wb,.int .i64 wc,.slice b6 n6 k6,.slice b7 n7 k7,.slice b8 n8 k8,.slice b9 n9 k9,.slice b10 n10 k10,.slice b11 n11 k11,.slice b12 n12 k12,.slice b13 n13 k13,.string dK,.string hop] (nm,pri,lab,(wa,wb,wc),yu,ask,lF,prt,BQ,Ct,jF,rR,dK,hop)):=fun u hk=>by
      have UL:=I1.out _ _ g13.out hk
      have UM:=i13.out _ UL
      have UN:=i12.out _ UM
      have UO:=i11.out _ UN
      have G9v:=i10.out _ UO
      have G8v:=i9.out _ G9v
      have G7v:=i8.out _ G8v
      have G6v:=i7.out _ G7v
      have Ir:=i6.out _ G6v
      exact aj.mk (x:=(nm,pri,lab,(wa,wb,wc),yu,ask,lF,prt,BQ,Ct,jF,rR,dK,hop)) (h2:=(b2,n2,k2)) (h6:=(b6,n6,k6)) (h7:=(b7,n7,k7)) (h8:=(b8,n8,k8)) (h9:=(b9,n9,k9)) (h10:=(b10,n10,k10)) (h11:=(b11,n11,k11)) (h12:=(b12,n12,k12)) (aO:=(b13,n13,k13)) p0 ((o2.out _ Ir).weak ak.ae (fun b _ hb=>show w.heap.size<=b by have hb1:W3.heap.size<=b:=hb;have:=hsz.out;omega)) ((o6.out _ G6v).weak eY.ae (fun b _ hb=>show w.heap.size<=b by have hb1:W3.heap.size<=b:=hb;have:=hsz.out;omega)) ((o7.out _ G7v).weak aU.ae (fun b _ hb=>show w.heap.size<=b by have hb1:W3.heap.size<=b:=hb;have:=hsz.out;omega)) ((o8.out _ G8v).weak dA.ae (fun b _ hb=>show w.heap.size<=b by have hb1:W3.heap.size<=b:=hb;have:=hsz.out;omega)) ((o9.out _ G9v).weak aC.ae (fun b _ hb=>show w.heap.size<=b by have hb1:W3.heap.size<=b:=hb;have:=hsz.out;omega)) ((Rw.out _ UO).weak bT.ae (fun b _ hb=>show w.heap.size<=b by have hb1:W3.heap.size<=b:=hb;have:=hsz.out;omega)) ((Rv.out _ UN).weak bT.ae (fun b _ hb=>show w.heap.size<=b by have hb1:W3.heap.size<=b:=hb;have:=hsz.out;omega)) ((Ru.out _ UM).weak cK.ae (fun b _ hb=>show w.heap.size<=b by have hb1:W3.heap.size<=b:=hb;have:=hsz.out;omega)) ((Rt.out _ UL).weak au.ae (fun b _ hb=>show w.heap.size<=b by have hb1:W3.heap.size<=b:=hb;have:=hsz.out;omega)) ZA Zz
     obtain ⟨jU,ru⟩:∃ jU,jU=v13.setCell ⟨w.heap.size+1+1,13,none⟩ (.slice b13 n13 k13):=⟨_,rfl⟩
     have IA:PB w jU [.string nm,.int .i64 pri,.slice a2 n2 m2,.int .i64 wa,.int .i64 wb,.int .i64 wc,.slice a6 n6 m6,.slice a7 n7 m7,.slice a8 n8 m8,.slice a9 n9 m9,.slice eG n10 m10,.slice dY n11 m11,.slice a12 n12 m12,.slice df n13 m13,.string dK,.string hop] [.string ⟨#[]⟩,.int .i64 0,.slice none 0 0,.int .i64 0,.int .i64 0,.int .i64 0,.slice none 0 0,.slice none 0 0,.slice none 0 0,.slice none 0 0,.slice none 0 0,.slice none 0 0,.slice none 0 0,.slice none 0 0,.string ⟨#[]⟩,.string ⟨#[]⟩] [.string nm,.int .i64 pri,.slice b2 n2 k2,.int .i64 wa,.int .i64 wb,.int .i64 wc,.slice b6 n6 k6,.slice b7 n7 k7,.slice b8 n8 k8,.slice b9 n9 k9,.slice b10 n10 k10,.slice b11 n11 k11,.slice b12 n12 k12,.slice b13 n13 k13,.string dK,.string hop]:=by rw [ru];exact Ow.set 13 _ (by simp)
     have Sn:Kept (az W3) v13 jU:=by rw [ru];exact Kept.set (az.not (by have:=hsz.out;simp;omega)) _
     clear Ow
     have HI:Hid ((prog.info? 41).map (·.size)=some ([.string nm,.int .i64 pri,.slice b2 n2 k2,.int .i64 wa,.int .i64 wb,.int .i64 wc,.slice b6 n6 k6,.slice b7 n7 k7,.slice b8 n8 k8,.slice b9 n9 k9,.slice b10 n10 k10,.slice b11 n11 k11,.slice b12 n12 k12,.slice b13 n13 k13,.string dK,.string hop]:List Value).length):=by unfold Hid;kernel_rfl
     have H1:Hid ((([.string nm,.int .i64 pri,.slice b2 n2 k2,.int .i64 wa,.int .i64 wb,.int .i64 wc,.slice b6 n6 k6,.slice b7 n7 k7,.slice b8 n8 k8,.slice b9 n9 k9,.slice b10 n10 k10,.slice b11 n11 k11,.slice b12 n12 k12,.slice b13 n13 k13,.string dK,.string hop]:List Value).toArray).all (·.oneCell')=true):=all_oneCell_toArray (aj.ae.one (HK.out _ (Kept.refl _ _)))
     obtain ⟨fs,hfs⟩:∃ fs:List Value,fs=[.string nm,.int .i64 pri,.slice b2 n2 k2,.int .i64 wa,.int .i64 wb,.int .i64 wc,.slice b6 n6 k6,.slice b7 n7 k7,.slice b8 n8 k8,.slice b9 n9 k9,.slice b10 n10 k10,.slice b11 n11 k11,.slice b12 n12 k12,.slice b13 n13 k13,.string dK,.string hop]:=⟨_,rfl⟩
     rw [<- hfs] at HK IA HI H1
     have hfl:fs.length=16:=by rw [hfs];rfl
     clear hfs
     have HQ:Hid (jU.rangeAt (w.heap.size+1+1) 0 fs):=IA.q.range
     have HZ:Hid (jU.there (w.heap.size+1) 0 fs.toArray.size):=by have e:fs.toArray.size=16:=(by simp [hfl]);rw [Hid,e];exact IA.z.there
     have fE:Hid ((jU.setCells (w.heap.size+1) 0 fs).rangeAt (w.heap.size+1) 0 fs):=World.rangeAt_setCells_same _ _ _ _ (by have e:fs.toArray.size=fs.length:=(by simp);have:=HZ.out;rwa [e] at this)
     have HE:Hid (aj (az w) (jU.setCells (w.heap.size+1) 0 fs) fs (nm,pri,lab,(wa,wb,wc),yu,ask,lF,prt,BQ,Ct,jF,rR,dK,hop)):=HK.out _ (Sn.trans (dP (az.not (by have:=hsz.out;omega))))
     have vk:Hid (Below w.heap.size w (jU.setCells (w.heap.size+1) 0 fs)):=cu IA.b (by omega)
     have nz:Hid (fs.length=fs.toArray.size):=by simp [Hid]
     clear IA Sn HK hfl
     go_wp2_with (first | ((rw [<- ru]);(refine wpList_load_mid rfl 41 _ rfl (w.heap.size+1+1) 0 rfl fs _ HQ.out underlying41 rfl HI.out ?_);clear ru) | (refine wpList_store_mid rfl 41 _ _ rfl (w.heap.size+1) 0 fs.toArray rfl rfl HZ.out (nz.out ▸ HI.out) H1.out ?_) | fail)
     refine bodyPost_ret (v:=.agg fs.toArray) (En (p:=2) (ty:=41) rfl _ _ (w.heap.size+1) fs _ rfl fE.out underlying41 rfl HI.out) rfl ⟨fs,rfl,HE.out,vk.out⟩
end Go.Proofs.YtgikfenllgldoaaGreat
