/- Functions of the program, each walked under the conditions that its theorem names. -/
import Derived.Test.YtgikfenllgldoaaGreatQ00
import Derived.Test.YtgikfenllgldoaaGreatQ19
set_option linter.unusedSimpArgs false
set_option maxRecDepth 100000
set_option maxHeartbeats 32000000
namespace Go.Proofs.YtgikfenllgldoaaGreat
open Go.Proofs.Tryz
open Go.RowKit
abbrev mX:=aB×bC×kz×kz
def fu:bI mX:=bf aj (bf aY (bf jh jh))
theorem fu.ae:aJ fu 37:=aJ.pair aj.ae (aJ.pair aY.ae (aJ.pair jh.ae jh.ae))
theorem fu.out {A:Where} {w:World} {cs:List Value} {y:aB} {x:bC} {wa wb wc fa fb fc:Int} (h:fu A w cs (y,x,(wa,wb,wc),(fa,fb,fc))):∃ ds is,cs=ds++(is++[.int .i64 wa,.int .i64 wb,.int .i64 wc,.int .i64 fa,.int .i64 fb,.int .i64 fc])/\aj A w ds y/\aY A w is x:=by
 obtain ⟨ds,r,rfl,hp,is,r2,rfl,hi,r3,r4,rfl,h3,h4⟩:=h
 have e3:=jh.out h3
 have e4:=jh.out h4
 subst e3 e4
 exact ⟨ds,is,rfl,hp,hi⟩
theorem fu.mk {A:Where} {w:World} {ds is:List Value} {y:aB} {x:bC} {wa wb wc fa fb fc:Int} (hp:aj A w ds y) (hi:aY A w is x):fu A w (ds++(is++[.int .i64 wa,.int .i64 wb,.int .i64 wc,.int .i64 fa,.int .i64 fb,.int .i64 fc])) (y,x,(wa,wb,wc),(fa,fb,fc)) :=
 ⟨ds,_,rfl,hp,is,_,rfl,hi,[.int .i64 wa,.int .i64 wb,.int .i64 wc],[.int .i64 fa,.int .i64 fb,.int .i64 fc],rfl,⟨[.int .i64 wa],_,rfl,rfl,[.int .i64 wb],_,rfl,rfl,rfl⟩,⟨[.int .i64 fa],_,rfl,rfl,[.int .i64 fb],_,rfl,rfl,rfl⟩⟩
theorem LJ:(prog.info? 148).map (·.size)=some 37:=by kernel_rfl
theorem FC (cs:List Value) (A:Where) (v:mX) (w:World) (h:Hid (fu A w cs v)):Calls prog 94 #[.agg cs.toArray] w fun e w'=>e=.returned (.bool (Je v.2.1))/\Below w.heap.size w w':=by
 obtain ⟨y,x,⟨wa,wb,wc⟩,⟨fa,fb,fc⟩⟩:=v
 obtain ⟨ds,is,rfl,hp,hi⟩:=h.out.out
 obtain ⟨g2,g6,g7,g8,g9,g10,g11,g12,g13,rfl,_,p2,p6,p7,_⟩:=hp.out
 obtain ⟨h1,h2,h9,aO,fB,rfl,_,i1,i2,i9,_⟩:=hi.out
 simp only [List.cons_append,List.nil_append]
 have hE:Hid (Je x=x.1.2.2.2.1):=rfl
 rw [hE.out]
 clear h hp hi
 go_enter func94,ntmps94
 go_wp2
 go_ret
 exact ⟨rfl,by go_grown⟩
theorem zE8 (cs:List Value) (A:Where) (v:mX) (w:World) (h:Hid (fu A w cs v)):Calls prog 95 #[.agg cs.toArray] w fun e w'=>e=.returned (.bool (Jn v.1 v.2.1))/\Below w.heap.size w w':=by
 obtain ⟨y,x,⟨wa,wb,wc⟩,⟨fa,fb,fc⟩⟩:=v
 obtain ⟨ds,is,rfl,hp,hi⟩:=h.out.out
 obtain ⟨g2,g6,g7,g8,g9,g10,g11,g12,g13,rfl,_,p2,p6,p7,_⟩:=hp.out
 obtain ⟨h1,h2,h9,aO,fB,rfl,_,i1,i2,i9,_⟩:=hi.out
 simp only [List.cons_append,List.nil_append]
 have hb0:Below w.heap.size w (w.alloc (.cells #[.string y.1,.int .i64 y.2.1,.slice g2.1 g2.2.1 g2.2.2,.int .i64 y.2.2.2.1.1,.int .i64 y.2.2.2.1.2.1,.int .i64 y.2.2.2.1.2.2,.slice g6.1 g6.2.1 g6.2.2,.slice g7.1 g7.2.1 g7.2.2,.slice g8.1 g8.2.1 g8.2.2,.slice g9.1 g9.2.1 g9.2.2,.slice g10.1 g10.2.1 g10.2.2,.slice g11.1 g11.2.1 g11.2.2,.slice g12.1 g12.2.1 g12.2.2,.slice g13.1 g13.2.1 g13.2.2,.string y.2.2.2.2.2.2.2.2.2.2.2.2.1,.string y.2.2.2.2.2.2.2.2.2.2.2.2.2,.string x.1.1,.slice h1.1 h1.2.1 h1.2.2,.slice h2.1 h2.2.1 h2.2.2,.bool x.1.2.2.2.1,.int .i64 x.1.2.2.2.2.1.1,.int .i64 x.1.2.2.2.2.1.2.1,.int .i64 x.1.2.2.2.2.1.2.2,.int .i64 x.1.2.2.2.2.2.1,.int .i64 x.1.2.2.2.2.2.2,.slice h9.1 h9.2.1 h9.2.2,.int .i64 x.2.2.1.1,.int .i64 x.2.2.1.2.1,.int .i64 x.2.2.1.2.2,.slice aO.1 aO.2.1 aO.2.2,.slice fB.1 fB.2.1 fB.2.2,.int .i64 wa,.int .i64 wb,.int .i64 wc,.int .i64 fa,.int .i64 fb,.int .i64 fc] 148)):=by go_grown
 have hC:=PL h2.1 h2.2.1 h2.2.2 A x.1.2.2.1 g6.1 g6.2.1 g6.2.2 A (wO y) (w.alloc (.cells #[.string y.1,.int .i64 y.2.1,.slice g2.1 g2.2.1 g2.2.2,.int .i64 y.2.2.2.1.1,.int .i64 y.2.2.2.1.2.1,.int .i64 y.2.2.2.1.2.2,.slice g6.1 g6.2.1 g6.2.2,.slice g7.1 g7.2.1 g7.2.2,.slice g8.1 g8.2.1 g8.2.2,.slice g9.1 g9.2.1 g9.2.2,.slice g10.1 g10.2.1 g10.2.2,.slice g11.1 g11.2.1 g11.2.2,.slice g12.1 g12.2.1 g12.2.2,.slice g13.1 g13.2.1 g13.2.2,.string y.2.2.2.2.2.2.2.2.2.2.2.2.1,.string y.2.2.2.2.2.2.2.2.2.2.2.2.2,.string x.1.1,.slice h1.1 h1.2.1 h1.2.2,.slice h2.1 h2.2.1 h2.2.2,.bool x.1.2.2.2.1,.int .i64 x.1.2.2.2.2.1.1,.int .i64 x.1.2.2.2.2.1.2.1,.int .i64 x.1.2.2.2.2.1.2.2,.int .i64 x.1.2.2.2.2.2.1,.int .i64 x.1.2.2.2.2.2.2,.slice h9.1 h9.2.1 h9.2.2,.int .i64 x.2.2.1.1,.int .i64 x.2.2.1.2.1,.int .i64 x.2.2.1.2.2,.slice aO.1 aO.2.1 aO.2.2,.slice fB.1 fB.2.1 fB.2.2,.int .i64 wa,.int .i64 wb,.int .i64 wc,.int .i64 fa,.int .i64 fb,.int .i64 fc] 148)) (i2.on dH.ae hb0) (p6.on eY.ae hb0)
 have hE:Hid (Jn y x=(jw x.1.2.2.1 (wO y)).2):=rfl
 rw [hE.out]
 generalize jw x.1.2.2.1 (wO y)=kt at hC
 obtain ⟨⟨k1,k2,k3⟩,kb⟩:=kt
 clear h hp hi hE p2 p6 p7 i1 i2 i9
 go_enter func95,ntmps95
 go_wp2_with fail
 refine hC.mono ?_
 rintro e w2 ⟨rfl,hb2⟩
 have hb:=ah hb0 hb2
 clear hC hb2 hb0
 go_wp2_with fail
 go_ret
 exact ⟨rfl,ah hb (by go_grown)⟩
theorem zD5 (cs:List Value) (A:Where) (v:mX) (w:World) (h:Hid (fu A w cs v)):Calls prog 96 #[.agg cs.toArray] w fun e w'=>e=.returned (.bool (K9 v.1 v.2.1))/\Below w.heap.size w w':=by
 obtain ⟨y,x,⟨wa,wb,wc⟩,⟨fa,fb,fc⟩⟩:=v
 obtain ⟨ds,is,rfl,hp,hi⟩:=h.out.out
 obtain ⟨g2,g6,g7,g8,g9,g10,g11,g12,g13,rfl,_,p2,p6,p7,_⟩:=hp.out
 obtain ⟨h1,h2,h9,aO,fB,rfl,_,i1,i2,i9,_⟩:=hi.out
 simp only [List.cons_append,List.nil_append]
 have hb0:Below w.heap.size w (w.alloc (.cells #[.string y.1,.int .i64 y.2.1,.slice g2.1 g2.2.1 g2.2.2,.int .i64 y.2.2.2.1.1,.int .i64 y.2.2.2.1.2.1,.int .i64 y.2.2.2.1.2.2,.slice g6.1 g6.2.1 g6.2.2,.slice g7.1 g7.2.1 g7.2.2,.slice g8.1 g8.2.1 g8.2.2,.slice g9.1 g9.2.1 g9.2.2,.slice g10.1 g10.2.1 g10.2.2,.slice g11.1 g11.2.1 g11.2.2,.slice g12.1 g12.2.1 g12.2.2,.slice g13.1 g13.2.1 g13.2.2,.string y.2.2.2.2.2.2.2.2.2.2.2.2.1,.string y.2.2.2.2.2.2.2.2.2.2.2.2.2,.string x.1.1,.slice h1.1 h1.2.1 h1.2.2,.slice h2.1 h2.2.1 h2.2.2,.bool x.1.2.2.2.1,.int .i64 x.1.2.2.2.2.1.1,.int .i64 x.1.2.2.2.2.1.2.1,.int .i64 x.1.2.2.2.2.1.2.2,.int .i64 x.1.2.2.2.2.2.1,.int .i64 x.1.2.2.2.2.2.2,.slice h9.1 h9.2.1 h9.2.2,.int .i64 x.2.2.1.1,.int .i64 x.2.2.1.2.1,.int .i64 x.2.2.1.2.2,.slice aO.1 aO.2.1 aO.2.2,.slice fB.1 fB.2.1 fB.2.2,.int .i64 wa,.int .i64 wb,.int .i64 wc,.int .i64 fa,.int .i64 fb,.int .i64 fc] 148)):=by go_grown
 have hC:=yY h1.1 h1.2.1 h1.2.2 A x.1.2.1 g7.1 g7.2.1 g7.2.2 A (yN y) (w.alloc (.cells #[.string y.1,.int .i64 y.2.1,.slice g2.1 g2.2.1 g2.2.2,.int .i64 y.2.2.2.1.1,.int .i64 y.2.2.2.1.2.1,.int .i64 y.2.2.2.1.2.2,.slice g6.1 g6.2.1 g6.2.2,.slice g7.1 g7.2.1 g7.2.2,.slice g8.1 g8.2.1 g8.2.2,.slice g9.1 g9.2.1 g9.2.2,.slice g10.1 g10.2.1 g10.2.2,.slice g11.1 g11.2.1 g11.2.2,.slice g12.1 g12.2.1 g12.2.2,.slice g13.1 g13.2.1 g13.2.2,.string y.2.2.2.2.2.2.2.2.2.2.2.2.1,.string y.2.2.2.2.2.2.2.2.2.2.2.2.2,.string x.1.1,.slice h1.1 h1.2.1 h1.2.2,.slice h2.1 h2.2.1 h2.2.2,.bool x.1.2.2.2.1,.int .i64 x.1.2.2.2.2.1.1,.int .i64 x.1.2.2.2.2.1.2.1,.int .i64 x.1.2.2.2.2.1.2.2,.int .i64 x.1.2.2.2.2.2.1,.int .i64 x.1.2.2.2.2.2.2,.slice h9.1 h9.2.1 h9.2.2,.int .i64 x.2.2.1.1,.int .i64 x.2.2.1.2.1,.int .i64 x.2.2.1.2.2,.slice aO.1 aO.2.1 aO.2.2,.slice fB.1 fB.2.1 fB.2.2,.int .i64 wa,.int .i64 wb,.int .i64 wc,.int .i64 fa,.int .i64 fb,.int .i64 fc] 148)) (i1.on ak.ae hb0) (p7.on aU.ae hb0)
 have hE:Hid (K9 y x=!(bE x.1.2.1 (yN y))):=rfl
 rw [hE.out]
 generalize bE x.1.2.1 (yN y)=kt at hC
 clear h hp hi hE p2 p6 p7 i1 i2 i9
 go_enter func96,ntmps96
 go_wp2_with fail
 refine hC.mono ?_
 rintro e w2 ⟨rfl,hb2⟩
 have hb:=ah hb0 hb2
 clear hC hb2 hb0
 go_wp2_with fail
 go_ret
 exact ⟨rfl,hb⟩
theorem zDv (cs:List Value) (A:Where) (v:mX) (w:World) (h:Hid (fu A w cs v)):Calls prog 97 #[.agg cs.toArray] w fun e w'=>e=.returned (.bool (uV v.2.1 v.1))/\Below w.heap.size w w':=by
 obtain ⟨y,x,⟨wa,wb,wc⟩,⟨fa,fb,fc⟩⟩:=v
 obtain ⟨ds,is,rfl,hp,hi⟩:=h.out.out
 obtain ⟨g2,g6,g7,g8,g9,g10,g11,g12,g13,rfl,_,p2,p6,p7,_⟩:=hp.out
 obtain ⟨h1,h2,h9,aO,fB,rfl,_,i1,i2,i9,_⟩:=hi.out
 simp only [List.cons_append,List.nil_append]
 have hb0:Below w.heap.size w (w.alloc (.cells #[.string y.1,.int .i64 y.2.1,.slice g2.1 g2.2.1 g2.2.2,.int .i64 y.2.2.2.1.1,.int .i64 y.2.2.2.1.2.1,.int .i64 y.2.2.2.1.2.2,.slice g6.1 g6.2.1 g6.2.2,.slice g7.1 g7.2.1 g7.2.2,.slice g8.1 g8.2.1 g8.2.2,.slice g9.1 g9.2.1 g9.2.2,.slice g10.1 g10.2.1 g10.2.2,.slice g11.1 g11.2.1 g11.2.2,.slice g12.1 g12.2.1 g12.2.2,.slice g13.1 g13.2.1 g13.2.2,.string y.2.2.2.2.2.2.2.2.2.2.2.2.1,.string y.2.2.2.2.2.2.2.2.2.2.2.2.2,.string x.1.1,.slice h1.1 h1.2.1 h1.2.2,.slice h2.1 h2.2.1 h2.2.2,.bool x.1.2.2.2.1,.int .i64 x.1.2.2.2.2.1.1,.int .i64 x.1.2.2.2.2.1.2.1,.int .i64 x.1.2.2.2.2.1.2.2,.int .i64 x.1.2.2.2.2.2.1,.int .i64 x.1.2.2.2.2.2.2,.slice h9.1 h9.2.1 h9.2.2,.int .i64 x.2.2.1.1,.int .i64 x.2.2.1.2.1,.int .i64 x.2.2.1.2.2,.slice aO.1 aO.2.1 aO.2.2,.slice fB.1 fB.2.1 fB.2.2,.int .i64 wa,.int .i64 wb,.int .i64 wc,.int .i64 fa,.int .i64 fb,.int .i64 fc] 148)):=by go_grown
 have hC:=zFa [.string x.1.1,.slice h1.1 h1.2.1 h1.2.2,.slice h2.1 h2.2.1 h2.2.2,.bool x.1.2.2.2.1,.int .i64 x.1.2.2.2.2.1.1,.int .i64 x.1.2.2.2.2.1.2.1,.int .i64 x.1.2.2.2.2.1.2.2,.int .i64 x.1.2.2.2.2.2.1,.int .i64 x.1.2.2.2.2.2.2,.slice h9.1 h9.2.1 h9.2.2,.int .i64 x.2.2.1.1,.int .i64 x.2.2.1.2.1,.int .i64 x.2.2.1.2.2,.slice aO.1 aO.2.1 aO.2.2,.slice fB.1 fB.2.1 fB.2.2] [.string y.1,.int .i64 y.2.1,.slice g2.1 g2.2.1 g2.2.2,.int .i64 y.2.2.2.1.1,.int .i64 y.2.2.2.1.2.1,.int .i64 y.2.2.2.1.2.2,.slice g6.1 g6.2.1 g6.2.2,.slice g7.1 g7.2.1 g7.2.2,.slice g8.1 g8.2.1 g8.2.2,.slice g9.1 g9.2.1 g9.2.2,.slice g10.1 g10.2.1 g10.2.2,.slice g11.1 g11.2.1 g11.2.2,.slice g12.1 g12.2.1 g12.2.2,.slice g13.1 g13.2.1 g13.2.2,.string y.2.2.2.2.2.2.2.2.2.2.2.2.1,.string y.2.2.2.2.2.2.2.2.2.2.2.2.2] A A x y (w.alloc (.cells #[.string y.1,.int .i64 y.2.1,.slice g2.1 g2.2.1 g2.2.2,.int .i64 y.2.2.2.1.1,.int .i64 y.2.2.2.1.2.1,.int .i64 y.2.2.2.1.2.2,.slice g6.1 g6.2.1 g6.2.2,.slice g7.1 g7.2.1 g7.2.2,.slice g8.1 g8.2.1 g8.2.2,.slice g9.1 g9.2.1 g9.2.2,.slice g10.1 g10.2.1 g10.2.2,.slice g11.1 g11.2.1 g11.2.2,.slice g12.1 g12.2.1 g12.2.2,.slice g13.1 g13.2.1 g13.2.2,.string y.2.2.2.2.2.2.2.2.2.2.2.2.1,.string y.2.2.2.2.2.2.2.2.2.2.2.2.2,.string x.1.1,.slice h1.1 h1.2.1 h1.2.2,.slice h2.1 h2.2.1 h2.2.2,.bool x.1.2.2.2.1,.int .i64 x.1.2.2.2.2.1.1,.int .i64 x.1.2.2.2.2.1.2.1,.int .i64 x.1.2.2.2.2.1.2.2,.int .i64 x.1.2.2.2.2.2.1,.int .i64 x.1.2.2.2.2.2.2,.slice h9.1 h9.2.1 h9.2.2,.int .i64 x.2.2.1.1,.int .i64 x.2.2.1.2.1,.int .i64 x.2.2.1.2.2,.slice aO.1 aO.2.1 aO.2.2,.slice fB.1 fB.2.1 fB.2.2,.int .i64 wa,.int .i64 wb,.int .i64 wc,.int .i64 fa,.int .i64 fb,.int .i64 fc] 148)) (aY.ae.kept hi (Kept.below hb0)) (aj.ae.kept hp (Kept.below hb0))
 generalize uV x y=kt at hC
 clear h hp hi p2 p6 p7 i1 i2 i9
 go_enter func97,ntmps97
 go_wp2_with fail
 refine hC.mono ?_
 rintro e w2 ⟨rfl,hb2⟩
 have hb:=ah hb0 hb2
 clear hC hb2 hb0
 go_wp2_with fail
 go_ret
 exact ⟨rfl,hb⟩
theorem zHG (cs:List Value) (A:Where) (v:mX) (w:World) (h:Hid (fu A w cs v)):Calls prog 98 #[.agg cs.toArray] w fun e w'=>e=.returned (.bool (DV v.2.1))/\Below w.heap.size w w':=by
 obtain ⟨y,x,⟨wa,wb,wc⟩,⟨fa,fb,fc⟩⟩:=v
 obtain ⟨ds,is,rfl,hp,hi⟩:=h.out.out
 obtain ⟨g2,g6,g7,g8,g9,g10,g11,g12,g13,rfl,_,p2,p6,p7,_⟩:=hp.out
 obtain ⟨h1,h2,h9,aO,fB,rfl,_,i1,i2,i9,_⟩:=hi.out
 simp only [List.cons_append,List.nil_append]
 have hE:Hid (DV x=decide (x.1.2.2.2.2.2.1<=(h9.2.1:Int))):=by rw [Hid,DV,i9.1]
 rw [hE.out]
 clear h hp hi p2 p6 p7 i1 i2 i9 hE
 go_enter func98,ntmps98
 go_wp2
 go_ret
 exact ⟨rfl,by go_grown⟩
theorem zDA (cs:List Value) (A:Where) (v:mX) (w:World) (h:Hid (fu A w cs v)):Calls prog 99 #[.agg cs.toArray] w fun e w'=>e=.returned (.bool (decide (v.2.2.2.1<v.2.2.1.1)))/\Below w.heap.size w w':=by
 obtain ⟨y,x,⟨wa,wb,wc⟩,⟨fa,fb,fc⟩⟩:=v
 obtain ⟨ds,is,rfl,hp,hi⟩:=h.out.out
 obtain ⟨g2,g6,g7,g8,g9,g10,g11,g12,g13,rfl,_,p2,p6,p7,_⟩:=hp.out
 obtain ⟨h1,h2,h9,aO,fB,rfl,_,i1,i2,i9,_⟩:=hi.out
 simp only [List.cons_append,List.nil_append]
 clear h hp hi p2 p6 p7 i1 i2 i9
 go_enter func99,ntmps99
 go_wp2
 go_ret
 exact ⟨rfl,by go_grown⟩
theorem zDB (cs:List Value) (A:Where) (v:mX) (w:World) (h:Hid (fu A w cs v)):Calls prog 100 #[.agg cs.toArray] w fun e w'=>e=.returned (.bool (decide (v.2.2.2.2.1<v.2.2.1.2.1)))/\Below w.heap.size w w':=by
 obtain ⟨y,x,⟨wa,wb,wc⟩,⟨fa,fb,fc⟩⟩:=v
 obtain ⟨ds,is,rfl,hp,hi⟩:=h.out.out
 obtain ⟨g2,g6,g7,g8,g9,g10,g11,g12,g13,rfl,_,p2,p6,p7,_⟩:=hp.out
 obtain ⟨h1,h2,h9,aO,fB,rfl,_,i1,i2,i9,_⟩:=hi.out
 simp only [List.cons_append,List.nil_append]
 clear h hp hi p2 p6 p7 i1 i2 i9
 go_enter func100,ntmps100
 go_wp2
 go_ret
 exact ⟨rfl,by go_grown⟩
theorem zCh (cs:List Value) (A:Where) (v:mX) (w:World) (h:Hid (fu A w cs v)):Calls prog 101 #[.agg cs.toArray] w fun e w'=>e=.returned (.bool (decide (v.2.2.2.2.2<v.2.2.1.2.2)))/\Below w.heap.size w w':=by
 obtain ⟨y,x,⟨wa,wb,wc⟩,⟨fa,fb,fc⟩⟩:=v
 obtain ⟨ds,is,rfl,hp,hi⟩:=h.out.out
 obtain ⟨g2,g6,g7,g8,g9,g10,g11,g12,g13,rfl,_,p2,p6,p7,_⟩:=hp.out
 obtain ⟨h1,h2,h9,aO,fB,rfl,_,i1,i2,i9,_⟩:=hi.out
 simp only [List.cons_append,List.nil_append]
 clear h hp hi p2 p6 p7 i1 i2 i9
 go_enter func101,ntmps101
 go_wp2
 go_ret
 exact ⟨rfl,by go_grown⟩
end Go.Proofs.YtgikfenllgldoaaGreat
namespace Go.Proofs.YtgikfenllgldoaaGreat
open Go.Proofs.Tryz
open Go.RowKit Go.Maps Go.Sort Go.Shelf
theorem QG (m:Nat):AnyZ.SortsIn prog Tryz.laysSorted_ren Fence.wide m :=
 ⟨fun blk off cap ss W hH hblk hsz=>callsIn_wide.2 (AnyM.slices_Sort_string Tryz.laysSort blk off cap ss W hH hblk hsz),
  fun p cap W=>callsIn_wide.2 (AnyM.slices_Sort_string_none Tryz.laysSort p cap W)⟩
theorem zG0 (mb:Option Nat) (W:World):Calls prog 204 #[.map mb] W fun e w'=>e=.returned (.func (.func 216) #[] #[.pointer (some ⟨W.heap.size,0,none⟩)])/\w'=W.alloc (.cells #[.map mb] 119) :=
 (callsIn_wide (n:=5)).1 (AnyZ.keys_in Tryz.laysKeys Fence.wide 5 trivial rfl mb W)
theorem zFP {w:World} {mb n:Nat} {f:ByteArray->Nat} {q:ByteArray->Bool} (h:bu w mb n f q) (hn:n*16<=140737488355328) {M:List ByteArray} (hM:uX M) (hq:∀ x,x∈M↔q x=true) (hs:∀ s∈M,s.size<=140737488355328) :
  Calls prog 203 #[.func (.func 216) #[] #[.pointer (some ⟨w.heap.size,0,none⟩)]] (w.alloc (.cells #[.map (some mb)] 119)) fun e w'=>∃ v,e=.returned v/\Row au 1 (fun _=>False) w w' 9 v M:=by
 obtain ⟨D,hown,hle,hsort⟩:=h.keys
 have hbl:=hown.lt
 have hseq:SeqGives Fence.wide 2 prog 216 #[.pointer (some ⟨w.heap.size,0,none⟩)] encStr (fun ss=>ss.Perm (strKeys D)) (Maps.size D) (w.alloc (.cells #[.map (some mb)] 119)) :=
  AnyZ.keys_gives (ρ:=Tryz.laysKeys_ren) { Tryz.laysKeys with } Fence.wide _ trivial rfl (by omega) w.heap.size mb n D _ (by simp) (by simp) (by
   obtain ⟨es,clock,hb,Ft,hs,hD⟩:=hown
   exact ⟨es,clock,(Below.heap_alloc _ _ mb hbl).trans hb,Ft,hs,hD⟩)
 have cS:=AnyZ.sorted_in Tryz.laysSorted Fence.wide 5 trivial trivial trivial trivial rfl (by omega) (QG _) (enters_of func88 (by kernel_rfl) rfl) 216 #[.pointer (some ⟨w.heap.size,0,none⟩)] trivial (enters_of func216 (by kernel_rfl) rfl) _ (Maps.size D) (by have:=yU;omega) (by omega) _ hseq
 change CallsIn _ _ prog 203 _ _ _ at cS
 refine ((callsIn_wide (n:=5)).1 cS).mono ?_
 rintro e w' ⟨v,ss,rfl,hS,hrow,_,hb⟩
 refine ⟨v,rfl,M.map Value.string,⟨((Below.refl _ w).alloc (Nat.le_refl _) _).trans (hb.mono (by simp)),?_⟩,zFs _ _ hs⟩
 have hlen:ss.length=M.length:=by
  have h1:=congrArg List.length (hsort M ss hM hq hS)
  rw [List.length_mergeSort,List.length_map] at h1
  exact h1
 rw [hsort M ss hM hq hS,Kj,hlen] at hrow
 exact Go.Joins.ownsRow_le hrow (by simp)
theorem OG (m:Nat):AnyZI.SortsIn prog Tryz.laysSortedV_ren Fence.wide m :=
 ⟨fun blk off cap ss W hH hblk hsz=>callsIn_wide.2 (AnyM.slices_Sort_int Tryz.laysSortV blk off cap ss W hH hblk hsz),
  fun p cap W=>callsIn_wide.2 (AnyM.slices_Sort_int_none Tryz.laysSortV p cap W)⟩
theorem YB (mb:Option Nat) (W:World):Calls prog 139 #[.map mb] W fun e w'=>e=.returned (.func (.func 176) #[] #[.pointer (some ⟨W.heap.size,0,none⟩)])/\w'=W.alloc (.cells #[.map mb] 119) :=
 (callsIn_wide (n:=5)).1 (AnyY.values_in Tryz.laysValues Fence.wide 5 trivial rfl mb W)
theorem zEm (u:World) (A:Where):∀ L:List Int,aW aC 1 A u (L.map (fun c=>Value.int .i64 c)) L:=fun L=>⟨by simp,fun i hi=>⟨[.int .i64 (L.getD i default)],rfl,fun j hj=>by
 obtain rfl:j=0:=by omega
 rw [Nat.mul_one,Nat.add_zero,List.getElem?_map,List.getD_eq_getElem?_getD,List.getElem?_eq_getElem hi];rfl⟩⟩
abbrev iU (N:List ByteArray):List Int:=(dN N).map (fun k:Nat=>(k:Int))
def Av (w:World) (N:List ByteArray) (e:Ending) (w':World):Prop:=∃ v,e=.returned v/\Row aC 1 (fun _=>False) w w' 3 v (iU N)
theorem YX {w:World} {mb:Nat} {N:List ByteArray} (h:aV w mb N) (hn:N.length*8<=140737488355328) :
  Calls prog 138 #[.func (.func 176) #[] #[.pointer (some ⟨w.heap.size,0,none⟩)]] (w.alloc (.cells #[.map (some mb)] 119)) (Av w N):=by
 obtain ⟨D,hown,hsize,hsort⟩:=h.values
 have hbl:=hown.lt
 have hle:=L9 N
 have hseq:SeqGives Fence.wide 2 prog 176 #[.pointer (some ⟨w.heap.size,0,none⟩)] encZ (fun xs=>∃ ps,AnyY.AllOf D ps/\xs=ps.map (·.2)) (Maps.size D) (w.alloc (.cells #[.map (some mb)] 119)) :=
  (AnyY.values_stops (ρ:=Tryz.laysValues_ren) { Tryz.laysValues with } Fence.wide _ trivial rfl (by omega) w.heap.size mb N.length D _ (by simp) (by simp) (by
   obtain ⟨es,clock,hb,Ft,hs,hD⟩:=hown
   exact ⟨es,clock,(Below.heap_alloc _ _ mb hbl).trans hb,Ft,hs,hD⟩)).gives
 have cS:=AnyZI.sorted_in Tryz.laysSortedV Fence.wide 5 trivial trivial trivial trivial rfl (by omega) (OG _) (enters_of func90 (by kernel_rfl) rfl) 176 #[.pointer (some ⟨w.heap.size,0,none⟩)] trivial (enters_of func176 (by kernel_rfl) rfl) _ (Maps.size D) (by have:=yU;omega) (by omega) _ hseq
 change CallsIn _ _ prog 138 _ _ _ at cS
 refine ((callsIn_wide (n:=5)).1 cS).mono ?_
 rintro e w' ⟨v,ss,rfl,⟨ps,⟨hp1,_,hp3⟩,rfl⟩,hrow,_,hb⟩
 have e1:=hsort ps hp1 (fun p hp=>hp3 p hp)
 have hlen:(ps.map (·.2)).length=(iU N).length:=by
  have:=congrArg List.length e1
  rwa [List.length_mergeSort] at this
 refine ⟨v,rfl,(iU N).map (fun c=>Value.int .i64 c),⟨((Below.refl _ w).alloc (Nat.le_refl _) _).trans (hb.mono (by simp)),?_⟩,zEm _ _ _⟩
 rw [e1,hlen] at hrow
 exact Go.Joins.ownsRow_le hrow (by simp)
end Go.Proofs.YtgikfenllgldoaaGreat
namespace Go.Proofs.YtgikfenllgldoaaGreat
open Go.Proofs.Tryz
open Go.RowKit Go.Maps
abbrev MB (la:Option Addr) (ln lc:Nat) (ca:Option Addr) (cn cc cm:Nat) (va:Option Addr) (vn vc vm:Nat) (ka:Option Addr) (kn kc km:Nat) (lv pv:Value):List Value :=
 [.slice la ln lc,.slice ca cn cc,.map (some cm),.slice va vn vc,.map (some vm),.slice ka kn kc,.map (some km),lv,pv]
abbrev nu (Wp:World) (X:Nat) (dW:Value):Where:=fun b=>b<Wp.heap.size/\b≠X/\dW.ownBlock≠some b
structure wZ (w Wp:World) (X:Nat) (dW:Value) (la:Option Addr) (ln lc:Nat) (ca:Option Addr) (cn cc cm:Nat) (va:Option Addr) (vn vc vm:Nat) (ka:Option Addr) (kn kc km:Nat) (NL:List aG) (CL:List aT) (V:List aD) (K:List dI):Prop where
 bw:Below w.heap.size w Wp
 l:ag ak 2 32 (fun b=>b<w.heap.size) Wp la ln lc NL
 c:ag aA 4 56 (fun b=>b<w.heap.size) Wp ca cn cc CL
 v:ag ai 5 72 (fun b=>b<w.heap.size) Wp va vn vc V
 k:ag aH 2 24 (fun b=>b<w.heap.size) Wp ka kn kc K
 mc:aV Wp cm (qh CL)/\nu Wp X dW cm
 mv:aV Wp vm (jK V)/\nu Wp X dW vm
 ms:aV Wp km (K.map Prod.fst)/\nu Wp X dW km
 x:w.heap.size<=X/\X<Wp.heap.size
 g:∀ b,dW.ownBlock=some b->w.heap.size<=b/\b<Wp.heap.size/\b≠X
 hv:V.length*80<=140737488355328
structure jO (w Wp:World) (X:Nat) (dW:Value) (C:List Value) (NL:List aG) (V:List aD) (M:Nat) (u:World) (lv pv:Value) (off:List ByteArray) (out:List bH):Prop where
 kp:Kept (nu Wp X dW) Wp u
 bw:Below w.heap.size w u
 bx:af u X (C++[lv,pv])
 lf:Row ai 5 (fun b=>b<w.heap.size) w u 59 lv (bJ NL V off)
 lo:lv.ownBlock=dW.ownBlock
 pk:Row ak 2 (fun _=>False) w u 73 pv out
 po:∀ b,pv.ownBlock=some b->Wp.heap.size<=b
 ln:out.length+(bJ NL V off).length<=M
 cl:C.length=7
 gx:∀ b,dW.ownBlock=some b->w.heap.size<=b/\b<Wp.heap.size/\b≠X
 xx:w.heap.size<=X/\X<Wp.heap.size
section
variable {α:Type} [Inhabited α] {R:bI α} {k:Nat}
theorem Row.bO (hR:aJ R k) {A:Where} {w0 u u':World} {e:TypeId} {v:Value} {L:List α} (h:Row R k A w0 u e v L) (hb:Below w0.heap.size w0 u') (hk:Kept (fun b=>A b\/v.ownBlock=some b) u u'):Row R k A w0 u' e v L:=by
 obtain ⟨xs,h1,h2⟩:=h
 refine ⟨xs,⟨hb,?_⟩,h2.kept hR (hk.weak (fun b hb=>.inl hb.1))⟩
 obtain ⟨hl,h0 | ⟨g,cap,cur,rfl,hg,hh,r⟩⟩:=h1.2
 ·exact ⟨hl,.inl h0⟩
 ·exact ⟨hl,.inr ⟨g,cap,cur,rfl,hg,(hk.2 g (.inr rfl) (Array.getElem?_eq_some_iff.1 hh).1).trans hh,r⟩⟩
theorem Row.place {A:Where} {w0 u:World} {e:TypeId} {v:Value} {L:List α} (h:Row R k A w0 u e v L) (h0:0<L.length):∃ g cap,v=.slice (some ⟨g,0,none⟩) L.length cap:=by
 obtain ⟨xs,h1,_⟩:=h
 obtain ⟨_,⟨_,h2⟩ | ⟨g,cap,cur,rfl,_⟩⟩:=h1.2
 ·omega
 ·exact ⟨g,cap,rfl⟩
theorem Row.head {A:Where} {w0 u:World} {e:TypeId} {v:Value} {L:List α} (h:Row R k A w0 u e v L):∃ a n c,v=.slice a n c:=by
 obtain ⟨xs,h1,_⟩:=h
 obtain ⟨_,⟨rfl,_⟩ | ⟨g,cap,cur,rfl,_⟩⟩:=h1.2
 ·exact ⟨_,_,_,rfl⟩
 ·exact ⟨_,_,_,rfl⟩
end
section
variable {w Wp:World} {X:Nat} {dW:Value} {la:Option Addr} {ln lc:Nat} {ca:Option Addr} {cn cc cm:Nat} {va:Option Addr} {vn vc vm:Nat} {ka:Option Addr} {kn kc km:Nat} {NL:List aG} {CL:List aT} {V:List aD} {K:List dI}
theorem wZ.at (h:wZ w Wp X dW la ln lc ca cn cc cm va vn vc vm ka kn kc km NL CL V K) {u:World} (hk:Kept (nu Wp X dW) Wp u) :
  ag ak 2 32 (fun b=>b<w.heap.size) u la ln lc NL/\ag aA 4 56 (fun b=>b<w.heap.size) u ca cn cc CL/\ag ai 5 72 (fun b=>b<w.heap.size) u va vn vc V/\ag aH 2 24 (fun b=>b<w.heap.size) u ka kn kc K/\aV u cm (qh CL)/\aV u vm (jK V)/\aV u km (K.map Prod.fst):=by
 have hk':Kept (fun b=>b<w.heap.size) Wp u:=hk.weak (fun b hb=>⟨Nat.lt_of_lt_of_le hb h.bw.size,by have:=h.x.1;omega,fun e=>by have:=(h.g b e).1;omega⟩)
 exact ⟨h.l.kept ak.ae hk',h.c.kept aA.ae hk',h.v.kept ai.ae hk',h.k.kept aH.ae hk',h.mc.1.kept hk h.mc.2,h.mv.1.kept hk h.mv.2,h.ms.1.kept hk h.ms.2⟩
variable {C:List Value} {u:World} {lv pv:Value} {out:List bH}
theorem jO.on {M:Nat} {off:List ByteArray} (h:jO w Wp X dW C NL V M u lv pv off out) {u':World} (hb:Below u.heap.size u u'):jO w Wp X dW C NL V M u' lv pv off out :=
 ⟨h.kp.trans (Kept.below hb),ah h.bw hb,h.bx.on hb,h.lf.on ai.ae hb,h.lo,h.pk.on ak.ae hb,h.po,h.ln,h.cl,h.gx,h.xx⟩
theorem jO.app {M:Nat} {off:List ByteArray} (h:jO w Wp X dW C NL V M u lv pv off out) {u':World} {pv':Value} {p:bH} (hg:u.grownBy u' pv.ownBlock) (hr:Row ak 2 (fun _=>False) w u' 73 pv' (out++[p])) (hw:pv'.ownBlock=pv.ownBlock\/pv'.ownBlock=some u.heap.size) :
  jO w Wp X dW C NL V (M+1) (u'.setCell ⟨X,8,none⟩ pv') lv pv' off (out++[p]):=by
 have hx:=h.xx
 have hWu:Wp.heap.size<=u.heap.size:=h.kp.1
 have hpo:∀ b,pv'.ownBlock=some b->Wp.heap.size<=b:=fun b hb=>by
  rcases hw with hw | hw
  ·exact h.po b (hw ▸ hb)
  ·rw [hw] at hb;injection hb with hb;omega
 have yo:Below w.heap.size w u':=h.bw.grown hg h.bw.size (fun b e=>by have:=h.po b e;omega)
 refine ⟨(h.kp.trans (Kept.grown hg (fun b e hb=>by have:=h.po b e;have:=hb.1;omega))).trans (Kept.set (p:=⟨X,8,none⟩) (fun hb=>hb.2.1 rfl) _),yo.setCell (p:=⟨X,8,none⟩) hx.1 _,?_,?_,h.lo,?_,hpo,by have:=h.ln;rw [List.length_append,List.length_singleton];omega,h.cl,h.gx,h.xx⟩
 ·have h1:af u' X (C++[lv,pv]):=h.bx.kept (A:=fun b=>b=X) (Kept.grown hg (fun b e hb=>by have:=h.po b e;omega)) rfl
  have h2:=h1.set 8 pv' (by rw [List.length_append,h.cl];simp)
  rwa [show (C++[lv,pv]).set 8 pv'=C++[lv,pv'] by rw [List.set_append_right _ _ (by rw [h.cl];decide),h.cl];rfl] at h2
 ·have h1:Row ai 5 (fun b=>b<w.heap.size) w u' 59 lv (bJ NL V off):=h.lf.grown ai.ae hg (fun b e=>⟨by have:=h.po b e;omega,fun e2=>by rw [h.lo] at e2;have:=(h.gx b e2).2.1;have:=h.po b e;omega,fun hb=>by have:=h.po b e;omega⟩)
  refine h1.bO ai.ae (yo.setCell (p:=⟨X,8,none⟩) hx.1 _) (Kept.set (p:=⟨X,8,none⟩) (fun hb=>?_) _)
  rcases hb with hb | hb
  ·have:X<w.heap.size:=hb;omega
  ·rw [h.lo] at hb;exact (h.gx X hb).2.2 rfl
 ·refine hr.bO ak.ae (yo.setCell (p:=⟨X,8,none⟩) hx.1 _) (Kept.set (p:=⟨X,8,none⟩) (fun hb=>?_) _)
  rcases hb with hb | hb
  ·exact hb
  ·have:=hpo X hb;omega
theorem jO.cut {M:Nat} {off off':List ByteArray} {g n cap n':Nat} (h:jO w Wp X dW C NL V (M+1) u (.slice (some ⟨g,0,none⟩) n cap) pv off out) {u':World} (hk:Kept (fun b=>b≠g) u u') (hr:Row ai 5 (fun b=>b<w.heap.size) w u' 59 (.slice (some ⟨g,0,none⟩) n' cap) (bJ NL V off')) (hl:(bJ NL V off').length+1=(bJ NL V off).length) :
  jO w Wp X dW C NL V M (u'.setCell ⟨X,7,none⟩ (.slice (some ⟨g,0,none⟩) n' cap)) (.slice (some ⟨g,0,none⟩) n' cap) pv off' out:=by
 have hx:=h.xx
 have hg0:dW.ownBlock=some g:=h.lo.symm
 obtain ⟨g1,g2,g3⟩:=h.gx g hg0
 have yo:Below w.heap.size w u':=hr.below
 refine ⟨(h.kp.trans (hk.weak (fun b hb e=>hb.2.2 (by rw [e];exact hg0)))).trans (Kept.set (p:=⟨X,7,none⟩) (fun hb=>hb.2.1 rfl) _),yo.setCell (p:=⟨X,7,none⟩) hx.1 _,?_,?_,hg0.symm,?_,h.po,by have:=h.ln;omega,h.cl,h.gx,h.xx⟩
 ·have h1:af u' X (C++[.slice (some ⟨g,0,none⟩) n cap,pv]):=h.bx.kept hk (fun e=>g3 e.symm)
  have h2:=h1.set 7 (.slice (some ⟨g,0,none⟩) n' cap) (by rw [List.length_append,h.cl];simp)
  rwa [show (C++[.slice (some ⟨g,0,none⟩) n cap,pv]).set 7 (.slice (some ⟨g,0,none⟩) n' cap)=C++[.slice (some ⟨g,0,none⟩) n' cap,pv] by rw [List.set_append_right _ _ (by rw [h.cl];decide),h.cl];rfl] at h2
 ·refine hr.bO ai.ae (yo.setCell (p:=⟨X,7,none⟩) hx.1 _) (Kept.set (p:=⟨X,7,none⟩) (fun hb=>?_) _)
  rcases hb with hb | hb
  ·have:X<w.heap.size:=hb;omega
  ·have:g=X:=by simpa [Value.ownBlock] using hb
   exact g3 this
 ·have h1:Row ak 2 (fun _=>False) w u' 73 pv out:=h.pk.bO ak.ae yo (hk.weak (fun b hb e=>by
   rcases hb with hb | hb
   ·exact hb
   ·have:=h.po b hb;omega))
  refine h1.bO ak.ae (yo.setCell (p:=⟨X,7,none⟩) hx.1 _) (Kept.set (p:=⟨X,7,none⟩) (fun hb=>?_) _)
  rcases hb with hb | hb
  ·exact hb
  ·have:=h.po X hb;omega
end
end Go.Proofs.YtgikfenllgldoaaGreat
