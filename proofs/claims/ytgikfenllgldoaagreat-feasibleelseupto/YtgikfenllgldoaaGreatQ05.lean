/- Functions of the program, each walked under the conditions that its theorem names. -/
import Derived.Shelf.Abstract
import Derived.Deep.MidRow
import Derived.Maps.OwnOps
import Derived.Maps.OwnSet
import Derived.Test.YtgikfenllgldoaaGreatQ03
import Derived.Test.YtgikfenllgldoaaGreatQ04
set_option linter.unusedSimpArgs false
set_option maxRecDepth 100000
set_option maxHeartbeats 32000000
namespace Go.Proofs.YtgikfenllgldoaaGreat
open Go.Proofs.Tryz
open Go.RowKit Go.Shelf
def vv (u:World) (D:Nat) (x:jg):Prop :=
 D<u.heap.size/\(u.cell? ⟨D,0,none⟩=some (.string x.1)/\u.cell? ⟨D,1,none⟩=some (.string x.2.1)/\u.cell? ⟨D,2,none⟩=some (.int .i64 x.2.2))/\u.frozen? ⟨D,0,none⟩=false/\u.frozen? ⟨D,1,none⟩=false/\u.frozen? ⟨D,2,none⟩=false
theorem vv.on {u u':World} {D:Nat} {x:jg} (h:vv u D x) (hb:Below u.heap.size u u'):vv u' D x:=by
 obtain ⟨hB,⟨h0,h1,h2⟩,f0,f1,f2⟩:=h
 exact ⟨Nat.lt_of_lt_of_le hB hb.size,⟨(hb.cell hB).trans h0,(hb.cell hB).trans h1,(hb.cell hB).trans h2⟩,(hb.frozen hB).trans f0,(hb.frozen hB).trans f1,(hb.frozen hB).trans f2⟩
theorem vv.new (u:World) (t:TypeId) (x:jg):vv (u.alloc (.cells #[.string x.1,.string x.2.1,.int .i64 x.2.2] t)) u.heap.size x :=
 ⟨by simp,⟨by simp [go_sem],by simp [go_sem],by simp [go_sem]⟩,by simp [go_sem],by simp [go_sem],by simp [go_sem]⟩
theorem Kh:∀ args w,(callFunc 210 args).run prog w=.ok (.enter 210 args) w:=enters_of func210 (by kernel_rfl) rfl
theorem Ki:∀ args w,(callFunc 192 args).run prog w=.ok (.enter 192 args) w:=enters_of func192 (by kernel_rfl) rfl
theorem GZ (t:jg) (D:Nat) (w:World) (hD:vv w D t):D5 210 #[.pointer (some ⟨D,0,none⟩)] (fun b=>lM b t) w:=fun W x hb=>by
 obtain ⟨hDl,⟨c0,c1,c2⟩,_⟩:=hD
 have d0:=(hb.cell (p:=⟨D,0,none⟩) hDl).trans c0
 have d1:=(hb.cell (p:=⟨D,1,none⟩) hDl).trans c1
 have d2:=(hb.cell (p:=⟨D,2,none⟩) hDl).trans c2
 have hDW:D<W.heap.size:=by have:=hb.size;omega
 have hne:D≠W.heap.size:=by omega
 have HB:=zFY x.1 x.2.1 x.2.2.1 x.2.2.2 t.1 t.2.1 t.2.2
 show Calls prog 210 #[.agg #[.string x.1,.string x.2.1,.bool x.2.2.1,.int .i64 x.2.2.2],.pointer (some ⟨D,0,none⟩)] W fun e w'=>e=.returned (.bool (lM x t))/\Below W.heap.size W w'
 change ∀ w,Calls prog 211 _ w fun e w'=>e=.returned (.bool (lM x t))/\Below w.heap.size w w' at HB
 generalize lM x t=r at HB |-
 clear c0 c1 c2
 go_enter func210,ntmps210
 go_wp2_with fail
 refine (HB _).mono ?_
 rintro e w1 ⟨rfl,hb1⟩
 go_wp2_with fail
 go_ret
 exact ⟨rfl,ah (by go_grown) hb1⟩
theorem zFq (t:jg) (a:Option Addr) (cap:Nat) (L:List gN) (w:World) (hL:Hid (kv w a L)):Calls prog 193 #[.agg #[.string t.1,.string t.2.1,.int .i64 t.2.2],.slice a L.length cap] w fun e w'=>e=.returned (.bool (rT L t))/\Below w.heap.size w w':=by
 have hb0:Below w.heap.size w (w.alloc (.cells #[.string t.1,.string t.2.1,.int .i64 t.2.2] 222)):=by go_grown
 have hC:=zCR a cap L (w.alloc (.cells #[.string t.1,.string t.2.1,.int .i64 t.2.2] 222)) (hL.out.on hb0) (fun b=>lM b t) 210 #[.pointer (some ⟨w.heap.size,0,none⟩)] Kh (GZ t w.heap.size _ (vv.new w _ t))
 change Calls prog _ _ _ fun e w'=>e=.returned (.bool (rT L t))/\_ at hC
 generalize rT L t=r at hC |-
 go_enter func193,ntmps193
 go_wp2_with fail
 refine hC.mono ?_
 rintro e w1 ⟨rfl,hb1⟩
 go_wp2_with fail
 go_ret
 exact ⟨rfl,ah hb0 hb1⟩
theorem zGN (e:Int) (a:Option Addr) (cap:Nat) (L:List gN) (D E:Nat) (w:World) (hD:D<w.heap.size) (hE:E<w.heap.size) (cD:w.cell? ⟨D,0,none⟩=some (.int .i64 e)) (cE:w.cell? ⟨E,0,none⟩=some (.slice a L.length cap)) (hL:kv w a L) :
  yR 192 #[.pointer (some ⟨D,0,none⟩),.pointer (some ⟨E,0,none⟩)] (qH e L) w:=fun W x hb=>by
 have d0:=(hb.cell (p:=⟨D,0,none⟩) hD).trans cD
 have d1:=(hb.cell (p:=⟨E,0,none⟩) hE).trans cE
 have hDW:D<W.heap.size:=by have:=hb.size;omega
 have hEW:E<W.heap.size:=by have:=hb.size;omega
 have hne:D≠W.heap.size:=by omega
 have hne':E≠W.heap.size:=by omega
 have hb0:Below W.heap.size W (W.alloc (.cells #[.string x.1,.string x.2.1,.int .i64 x.2.2] 222)):=by go_grown
 have HB:=zFq x a cap L (W.alloc (.cells #[.string x.1,.string x.2.1,.int .i64 x.2.2] 222)) (hL.on (hb.trans (hb0.mono hb.size)))
 show Calls prog 192 #[.agg #[.string x.1,.string x.2.1,.int .i64 x.2.2],.pointer (some ⟨D,0,none⟩),.pointer (some ⟨E,0,none⟩)] W fun r w'=>r=.returned (.bool ((x.2.2 == e) && !rT L x))/\Below W.heap.size W w'
 generalize rT L x=r at HB |-
 clear cD cE
 cases hq:(x.2.2 == e)
 ·go_enter func192,ntmps192
  go_wp2_with fail
  go_ret
  exact ⟨rfl,hb0⟩
 ·go_enter func192,ntmps192
  go_wp2_with fail
  refine HB.mono ?_
  rintro e w1 ⟨rfl,hb1⟩
  go_wp2_with fail
  go_ret
  exact ⟨rfl,ah hb0 hb1⟩
theorem zER (e:Int) (a:Option Addr) (cap:Nat) (L:List gN) (w:World) (hL:Hid (kv w a L)):Calls prog 169 #[.int .i64 e,.slice a L.length cap] w fun r w'=>∃ lb,r=.returned (.func (.func 192) #[] lb)/\yR 192 lb (qH e L) w'/\Below w.heap.size w w':=by
 have hb0:Below w.heap.size w ((w.alloc (.cells #[.int .i64 e] 3)).alloc (.cells #[.slice a L.length cap] 33)):=by go_grown
 have HP:=zGN e a cap L w.heap.size (w.heap.size+1) ((w.alloc (.cells #[.int .i64 e] 3)).alloc (.cells #[.slice a L.length cap] 33)) (by simp;omega) (by simp) (by simp [go_sem]) (by simp [go_sem]) (hL.out.on hb0)
 have HP':Hid (yR 192 #[.pointer (some ⟨w.heap.size,0,none⟩),.pointer (some ⟨w.heap.size+1,0,none⟩)] (qH e L) ((w.alloc (.cells #[.int .i64 e] 3)).alloc (.cells #[.slice a L.length cap] 33))):=HP
 clear HP
 go_enter func169,ntmps169
 go_wp2_with fail
 go_ret
 exact ⟨_,rfl,HP'.out,hb0⟩
end Go.Proofs.YtgikfenllgldoaaGreat
namespace Go.Proofs.YtgikfenllgldoaaGreat
open Go.Proofs.Tryz
open Go.RowKit
def lu (w:World) (B:Nat) (a b c:Int):Prop :=
 B<w.heap.size/\qo w B a b c/\w.frozen? ⟨B,0,none⟩=false/\w.frozen? ⟨B,1,none⟩=false/\w.frozen? ⟨B,2,none⟩=false
def ze (w:World) (B:Nat) (a b c:Int):World:=((w.setCell ⟨B,0,none⟩ (.int .i64 a)).setCell ⟨B,1,none⟩ (.int .i64 b)).setCell ⟨B,2,none⟩ (.int .i64 c)
theorem pz {w:World} {a b:Addr} {v:Value} (h:a≠b):(w.setCell a v).cell? b=w.cell? b:=World.cell?_setCell_other (h:=h) ..
theorem Qd {w:World} {a:Addr} {v u:Value} (h:w.cell? a=some u):(w.setCell a v).cell? a=some v:=World.cell?_setCell_same (h:=h) ..
theorem lu.on {u u':World} {B:Nat} {a b c:Int} (h:lu u B a b c) (hb:Below u.heap.size u u'):lu u' B a b c:=by
 obtain ⟨hB,⟨h0,h1,h2⟩,f0,f1,f2⟩:=h
 exact ⟨Nat.lt_of_lt_of_le hB hb.size,⟨(hb.cell hB).trans h0,(hb.cell hB).trans h1,(hb.cell hB).trans h2⟩,(hb.frozen hB).trans f0,(hb.frozen hB).trans f1,(hb.frozen hB).trans f2⟩
theorem lu.new (u:World) (t:TypeId) (a b c:Int):lu (u.alloc (.cells #[.int .i64 a,.int .i64 b,.int .i64 c] t)) u.heap.size a b c :=
 ⟨by simp,⟨by simp [go_sem],by simp [go_sem],by simp [go_sem]⟩,by simp [go_sem],by simp [go_sem],by simp [go_sem]⟩
theorem lu.set {u:World} {B:Nat} {a b c:Int} (h:lu u B a b c) (x y z:Int):lu (ze u B x y z) B x y z:=by
 obtain ⟨hB,⟨h0,h1,h2⟩,f0,f1,f2⟩:=h
 have e01:(⟨B,0,none⟩:Addr)≠⟨B,1,none⟩:=by simp
 have e02:(⟨B,0,none⟩:Addr)≠⟨B,2,none⟩:=by simp
 have e12:(⟨B,1,none⟩:Addr)≠⟨B,2,none⟩:=by simp
 unfold ze
 refine ⟨by simpa using hB,⟨?_,?_,?_⟩,by simpa using f0,by simpa using f1,by simpa using f2⟩
 ·rw [pz e02.symm,pz e01.symm]
  exact Qd h0
 ·rw [pz e12.symm]
  exact Qd (by rw [pz e01];exact h1)
 ·exact Qd (by rw [pz e12,pz e02];exact h2)
theorem lu.other {u:World} {B C:Nat} {a b c:Int} (h:lu u C a b c) (hne:B≠C) (x y z:Int):lu (ze u B x y z) C a b c:=by
 obtain ⟨hB,⟨h0,h1,h2⟩,f0,f1,f2⟩:=h
 unfold ze
 have e:∀ i j:Nat,(⟨B,i,none⟩:Addr)≠⟨C,j,none⟩:=fun i j h=>hne (by simpa using congrArg Addr.block h)
 refine ⟨by simpa using hB,⟨?_,?_,?_⟩,by simpa using f0,by simpa using f1,by simpa using f2⟩
 ·rw [pz (e 2 0),pz (e 1 0),pz (e 0 0)];exact h0
 ·rw [pz (e 2 1),pz (e 1 1),pz (e 0 1)];exact h1
 ·rw [pz (e 2 2),pz (e 1 2),pz (e 0 2)];exact h2
theorem zH3 {w u:World} {N B:Nat} (h:Below N w u) (hB:N<=B) (x y z:Int):Below N w (ze u B x y z):=((h.setCell hB _).setCell hB _).setCell hB _
def Flat {α:Type} (R:bI α):Prop:=∀ (A A':Where) (w w':World) (cs:List Value) (x:α),R A w cs x->R A' w' cs x
theorem au.flat:Flat au:=fun _ _ _ _ _ _ h=>h
theorem aC.flat:Flat aC:=fun _ _ _ _ _ _ h=>h
theorem kR.flat:Flat kR:=fun _ _ _ _ _ _ h=>h
theorem Flat.pair {α β:Type} {R:bI α} {S:bI β} (hR:Flat R) (hS:Flat S):Flat (bf R S):=by
 rintro A A' w w' cs x ⟨c,d,e,h1,h2⟩
 exact ⟨c,d,e,hR _ _ _ _ _ _ h1,hS _ _ _ _ _ _ h2⟩
theorem aW.flat {α:Type} [Inhabited α] {R:bI α} {k:Nat} (hF:Flat R) {A A':Where} {u u':World} {xs:List Value} {L:List α} (h:aW R k A u xs L):aW R k A' u' xs L :=
 ⟨h.1,fun i hi=>by obtain ⟨cs,h1,h2⟩:=h.2 i hi;exact ⟨cs,hF _ _ _ _ _ _ h1,h2⟩⟩
theorem ak.flat:Flat ak:=Flat.pair au.flat au.flat
theorem dH.flat:Flat dH:=Flat.pair au.flat (Flat.pair au.flat aC.flat)
theorem eY.flat:Flat eY:=Flat.pair au.flat (Flat.pair au.flat (Flat.pair kR.flat aC.flat))
theorem aA.flat:Flat aA:=Flat.pair au.flat (Flat.pair aC.flat (Flat.pair au.flat au.flat))
theorem aH.flat:Flat aH:=Flat.pair au.flat kR.flat
theorem Ef {α:Type} [Inhabited α] {R:bI α} {k bytes:Nat} {A:Where} {w:World} {n cap:Nat} {L:List α} (h:ag R k bytes A w none n cap L):n=0/\cap=0/\L=[]:=by
 have h0:cap=0:=h.2.2.1 rfl
 have h1:=h.2.1
 exact ⟨by omega,h0,List.length_eq_zero_iff.1 (by rw [h.1];omega)⟩
theorem ag.len {α:Type} [Inhabited α] {R:bI α} {k bytes:Nat} {A:Where} {w:World} {a:Option Addr} {n cap:Nat} {L:List α} (h:ag R k bytes A w a n cap L) (hb:1<=bytes):n<=140737488351232:=by
 have:=h.2.2.2.1
 have h2:n*1<=n*bytes:=Nat.mul_le_mul_left _ hb
 omega
theorem yV:(prog.info? 9).map (fun i=>(i.zero,i.size,i.bytes))=some (some (.string ⟨#[]⟩),1,16):=by kernel_rfl
theorem AX:(prog.info? 3).map (fun i=>(i.zero,i.size,i.bytes))=some (some (.int .i64 0),1,8):=by kernel_rfl
theorem FY:(prog.info? 228).map (fun i=>(i.zero,i.size,i.bytes))=some (some (.agg #[.string ⟨#[]⟩,.string ⟨#[]⟩]),2,32):=by kernel_rfl
theorem Yp (a:Option Addr) (n cap:Nat) (A:Where) (L:List (ByteArray)) (w:World) (hL:Hid (ag au 1 16 A w a n cap L)):Calls prog 27 #[.slice a n cap] w fun e w'=>∃ a' cap',e=.returned (.slice a' n cap')/\ag au 1 16 (az w) w' a' n cap' L/\Below w.heap.size w w':=by
 have hb0:Below w.heap.size w (w.alloc (.cells #[] 9)):=by go_grown
 match a with
 | none =>
  obtain ⟨rfl,rfl,rfl⟩:=Ef hL.out
  go_enter func27,ntmps27
  go_wp2_with fail
  go_ret
  exact ⟨_,_,rfl,ag.nil _ _ _ _ (fun h=>by cases h),hb0⟩
 | some ad =>
  obtain ⟨xs,hc,hcell,hone⟩:=(hL.out.on au.ae hb0).chunks au.ae
  have hn:=hL.out.1
  have hbb:=hL.out.2.2.2.1
  subst hn
  have HR:Hid (Row au 1 (az w) w (w.alloc (.cells #[] 9)) 9 (.slice (some ⟨w.heap.size,0,none⟩) 0 0) []):=Row.start _ w w _ (Below.refl _ _)
  have HC:Hid (aW au 1 (fun b=>az w b/\Value.ownBlock (.slice (some ⟨w.heap.size,0,none⟩) 0 0)≠some b) (w.alloc (.cells #[] 9)) xs L):=hc.flat au.flat
  have HX:Hid (∀ j y,xs[j]?=some y->(w.alloc (.cells #[] 9)).cell? (ad.add j)=some y):=hcell
  have HO:Hid (∀ y∈xs,y.oneCell'=true):=hone
  clear hc hcell hone hL
  go_enter func27,ntmps27
  go_wp2_with (at_builtin;go_must (refine mh au.ae (A:=az w) (w0:=w) rfl _ _ 39 9 rfl _ 16 yV underlying39 rfl (by decide) (by decide) _ [] rfl HR.out ad L.length cap xs L rfl rfl HC.out HX.out HO.out (by simp;omega) ?_);intro v1 w1 fC hg1)
  go_ret
  obtain ⟨a',cap',rfl,h2⟩:=fC.lD (bytes:=16) au.ae (by simpa using hbb)
  simp only [List.nil_append] at h2 |-
  exact ⟨a',cap',rfl,h2,fC.below⟩
theorem Ie (a:Option Addr) (n cap:Nat) (A:Where) (L:List (Int)) (w:World) (hL:Hid (ag aC 1 8 A w a n cap L)):Calls prog 25 #[.slice a n cap] w fun e w'=>∃ a' cap',e=.returned (.slice a' n cap')/\ag aC 1 8 (az w) w' a' n cap' L/\Below w.heap.size w w':=by
 have hb0:Below w.heap.size w (w.alloc (.cells #[] 3)):=by go_grown
 match a with
 | none =>
  obtain ⟨rfl,rfl,rfl⟩:=Ef hL.out
  go_enter func25,ntmps25
  go_wp2_with fail
  go_ret
  exact ⟨_,_,rfl,ag.nil _ _ _ _ (fun h=>by cases h),hb0⟩
 | some ad =>
  obtain ⟨xs,hc,hcell,hone⟩:=(hL.out.on aC.ae hb0).chunks aC.ae
  have hn:=hL.out.1
  have hbb:=hL.out.2.2.2.1
  subst hn
  have HR:Hid (Row aC 1 (az w) w (w.alloc (.cells #[] 3)) 3 (.slice (some ⟨w.heap.size,0,none⟩) 0 0) []):=Row.start _ w w _ (Below.refl _ _)
  have HC:Hid (aW aC 1 (fun b=>az w b/\Value.ownBlock (.slice (some ⟨w.heap.size,0,none⟩) 0 0)≠some b) (w.alloc (.cells #[] 3)) xs L):=hc.flat aC.flat
  have HX:Hid (∀ j y,xs[j]?=some y->(w.alloc (.cells #[] 3)).cell? (ad.add j)=some y):=hcell
  have HO:Hid (∀ y∈xs,y.oneCell'=true):=hone
  clear hc hcell hone hL
  go_enter func25,ntmps25
  go_wp2_with (at_builtin;go_must (refine mh aC.ae (A:=az w) (w0:=w) rfl _ _ 36 3 rfl _ 8 AX underlying36 rfl (by decide) (by decide) _ [] rfl HR.out ad L.length cap xs L rfl rfl HC.out HX.out HO.out (by simp;omega) ?_);intro v1 w1 fC hg1)
  go_ret
  obtain ⟨a',cap',rfl,h2⟩:=fC.lD (bytes:=8) aC.ae (by simpa using hbb)
  simp only [List.nil_append] at h2 |-
  exact ⟨a',cap',rfl,h2,fC.below⟩
theorem YM (a:Option Addr) (n cap:Nat) (A:Where) (L:List (aG)) (w:World) (hL:Hid (ag ak 2 32 A w a n cap L)):Calls prog 23 #[.slice a n cap] w fun e w'=>∃ a' cap',e=.returned (.slice a' n cap')/\ag ak 2 32 (az w) w' a' n cap' L/\Below w.heap.size w w':=by
 have hb0:Below w.heap.size w (w.alloc (.cells #[] 228)):=by go_grown
 match a with
 | none =>
  obtain ⟨rfl,rfl,rfl⟩:=Ef hL.out
  go_enter func23,ntmps23
  go_wp2_with fail
  go_ret
  exact ⟨_,_,rfl,ag.nil _ _ _ _ (fun h=>by cases h),hb0⟩
 | some ad =>
  obtain ⟨xs,hc,hcell,hone⟩:=(hL.out.on ak.ae hb0).chunks ak.ae
  have hn:=hL.out.1
  have hbb:=hL.out.2.2.2.1
  subst hn
  have HR:Hid (Row ak 2 (az w) w (w.alloc (.cells #[] 228)) 228 (.slice (some ⟨w.heap.size,0,none⟩) 0 0) []):=Row.start _ w w _ (Below.refl _ _)
  have HC:Hid (aW ak 2 (fun b=>az w b/\Value.ownBlock (.slice (some ⟨w.heap.size,0,none⟩) 0 0)≠some b) (w.alloc (.cells #[] 228)) xs L):=hc.flat ak.flat
  have HX:Hid (∀ j y,xs[j]?=some y->(w.alloc (.cells #[] 228)).cell? (ad.add j)=some y):=hcell
  have HO:Hid (∀ y∈xs,y.oneCell'=true):=hone
  clear hc hcell hone hL
  go_enter func23,ntmps23
  go_wp2_with (at_builtin;go_must (refine mh ak.ae (A:=az w) (w0:=w) rfl _ _ 30 228 rfl _ 32 FY underlying30 rfl (by decide) (by decide) _ [] rfl HR.out ad L.length cap xs L rfl rfl HC.out HX.out HO.out (by simp;omega) ?_);intro v1 w1 fC hg1)
  go_ret
  obtain ⟨a',cap',rfl,h2⟩:=fC.lD (bytes:=32) ak.ae (by simpa using hbb)
  simp only [List.nil_append] at h2 |-
  exact ⟨a',cap',rfl,h2,fC.below⟩
theorem tJ {w w':World} {B b o:Nat} {c:List Value} (h:w.rangeAt b o c) (hb:Below B w w') (hB:b<B):w'.rangeAt b o c:=fun j v hj=>(hb.cell (p:=⟨b,o+j,none⟩) hB).trans (h j v hj)
theorem cu {B b:Nat} {a:World}:∀ {vs:List Value} {o:Nat} {u:World},Below B a u->B<=b->Below B a (u.setCells b o vs)
 | [],_,_,h,_=>h
 | v :: r,o,u,h,hb=>by
  rw [World.setCells]
  exact cu (h.setCell (p:=⟨b,o,none⟩) hb v) hb
theorem zEL {b:Nat}:∀ {vs:List Value} {o:Nat} {u:World},(u.setCells b o vs).heap.size=u.heap.size
 | [],_,_=>rfl
 | v :: r,o,u=>by rw [World.setCells,zEL];simp
theorem dP {A:Where} {b:Nat} (h:¬ A b):∀ {vs:List Value} {o:Nat} {u:World},Kept A u (u.setCells b o vs)
 | [],_,u=>Kept.refl A u
 | v :: r,o,u=>by
  rw [World.setCells]
  exact (Kept.set (p:=⟨b,o,none⟩) h v).trans (dP h)
theorem En {P:Program} {fn:Func} {p:Tmp} {ty:TypeId} (h:fn.results=#[.cell p ty]) (tmps:Array Value) (w:World) (b:Nat) (cs:List Value) (d:TypeDesc)
  (hp:tmps.getD p undef=.pointer (some ⟨b,0,none⟩)) (hr:w.rangeAt b 0 cs) (hu:P.underlying ty=some d) (hd:d.isRow=true) (hi:(P.info? ty).map (·.size)=some cs.length) :
  (results fn tmps).run P w=.ok (.agg cs.toArray) w:=by
 have hp':tmps[p]?.getD undef=.pointer (some ⟨b,0,none⟩):=by simpa using hp
 simp [results,h,hp',asAddr,run_loadVar_mid w b 0 ty cs d hr hu hd hi]
theorem Ew {P:Program} {fn:Func} {p q:Tmp} {ty:TypeId} (h:fn.results=#[.cell p ty,.tmp q]) (tmps:Array Value) (w:World) (b:Nat) (cs:List Value) (d:TypeDesc) (y:Value)
  (hp:tmps.getD p undef=.pointer (some ⟨b,0,none⟩)) (hq:tmps.getD q undef=y) (hr:w.rangeAt b 0 cs) (hu:P.underlying ty=some d) (hd:d.isRow=true) (hi:(P.info? ty).map (·.size)=some cs.length) :
  (results fn tmps).run P w=.ok (.tuple #[.agg cs.toArray,y]) w:=by
 have hp':tmps[p]?.getD undef=.pointer (some ⟨b,0,none⟩):=by simpa using hp
 have hq':tmps[q]?.getD undef=y:=by simpa using hq
 simp [results,h,hp',hq',asAddr,run_loadVar_mid w b 0 ty cs d hr hu hd hi]
abbrev bC:=aX×List ByteArray×kz×List Int×List ByteArray
def aY:bI bC:=bf av (bf (bN au 1 16) (bf jh (bf (bN aC 1 8) (bN au 1 16))))
theorem aY.ae:aJ aY 15:=aJ.pair av.ae (aJ.pair (bN.ae au.ae) (aJ.pair jh.ae (aJ.pair (bN.ae aC.ae) ((bN.ae au.ae)))))
theorem aY.out {A:Where} {w:World} {cs:List Value} {x:bC} (h:aY A w cs x):∃ h1 h2 h9 aO fB:Hd,cs=[.string x.1.1,.slice h1.1 h1.2.1 h1.2.2,.slice h2.1 h2.2.1 h2.2.2,.bool x.1.2.2.2.1,.int .i64 x.1.2.2.2.2.1.1,.int .i64 x.1.2.2.2.2.1.2.1,.int .i64 x.1.2.2.2.2.1.2.2,.int .i64 x.1.2.2.2.2.2.1,.int .i64 x.1.2.2.2.2.2.2,.slice h9.1 h9.2.1 h9.2.2,.int .i64 x.2.2.1.1,.int .i64 x.2.2.1.2.1,.int .i64 x.2.2.1.2.2,.slice aO.1 aO.2.1 aO.2.2,.slice fB.1 fB.2.1 fB.2.2]/\x.1.1.size<=140737488355328/\ag ak 2 32 A w h1.1 h1.2.1 h1.2.2 x.1.2.1/\ag dH 3 40 A w h2.1 h2.2.1 h2.2.2 x.1.2.2.1/\ag au 1 16 A w h9.1 h9.2.1 h9.2.2 x.2.1/\ag aC 1 8 A w aO.1 aO.2.1 aO.2.2 x.2.2.2.1/\ag au 1 16 A w fB.1 fB.2.1 fB.2.2 x.2.2.2.2:=by
 obtain ⟨pM,pJ,iX,jd,iZ⟩:=h
 obtain ⟨acB,acn,Vy,Wl,VW⟩:=jd
 obtain ⟨WE,Vg⟩:=Wl
 obtain ⟨acA,acm,Vx,Wj,VV⟩:=VW
 obtain ⟨WN,VB,WI,WC,Vf⟩:=Wj
 obtain ⟨acz,ack,Vv,Wi,VU⟩:=VV
 obtain ⟨WM,VA,WH,WB,Ve⟩:=Wi
 obtain ⟨acy,acj,Vu,Wh,VT⟩:=VU
 have WA:=Wh
 obtain ⟨acx,aci,Vt,We,VS⟩:=VT
 obtain ⟨abZ,abX,OV,Ph,Pd⟩:=We
 have Pp:=Ph
 obtain ⟨abY,abW,OU,Pg,Pb⟩:=Pd
 have Po:=Pg
 have Pn:=Pb
 obtain ⟨acw,ach,Vs,Wd,VR⟩:=VS
 have Wz:=Wd
 have Wy:=VR
 obtain ⟨uD,uu,kH,kP,kN⟩:=iZ
 obtain ⟨Au,zy,Aj,je,pI⟩:=kP
 obtain ⟨zB,zi,pK,qf,pY⟩:=kN
 obtain ⟨acv,acg,Vr,V9,VQ⟩:=qf
 have Wx:=V9
 obtain ⟨acu,acf,Vq,V8,VP⟩:=VQ
 have Ww:=V8
 have Wv:=VP
 obtain ⟨MF,Mr,wM,wX,wW⟩:=pY
 obtain ⟨Aq,zw,Ah,rQ,wL⟩:=wX
 obtain ⟨Hz,FI,GN,Ac,zf⟩:=wW
 exact ⟨(WN,VB,WI),(WM,VA,WH),(Au,zy,Aj),(Aq,zw,Ah),(Hz,FI,GN),by rw [iX,Vy,WE,Vx,WC,Vv,WB,Vu,WA,Vt,OV,Pp,OU,Po,Pn,Vs,Wz,Wy,kH,je,pK,Vr,Wx,Vq,Ww,Wv,wM,rQ,Ac];rfl,Vg,Vf,Ve,pI,wL,zf⟩
theorem Yt (a b c x y z:Int) (w:World):Calls prog 67 #[.agg #[.int .i64 a,.int .i64 b,.int .i64 c],.agg #[.int .i64 x,.int .i64 y,.int .i64 z]] w fun e w'=>e=.returned (.agg #[.int .i64 (dX a x),.int .i64 (dX b y),.int .i64 (dX c z)])/\Below w.heap.size w w':=by
 go_enter func67,ntmps67
 go_wp2_with fail
 refine (GA _ _ _ _ _ _ _).mono ?_
 rintro e w1 ⟨rfl,hb⟩
 have r0:w1.cell? ⟨w.heap.size+1+1,0,none⟩=some (.int .i64 0):=(hb.cell (by simp)).trans (by simp [go_sem])
 have r1:w1.cell? ⟨w.heap.size+1+1,1,none⟩=some (.int .i64 0):=(hb.cell (by simp)).trans (by simp [go_sem])
 have r2:w1.cell? ⟨w.heap.size+1+1,2,none⟩=some (.int .i64 0):=(hb.cell (by simp)).trans (by simp [go_sem])
 have f0:w1.frozen? ⟨w.heap.size+1+1,0,none⟩=false:=(hb.frozen (by simp)).trans (by simp [go_sem])
 have f1:w1.frozen? ⟨w.heap.size+1+1,1,none⟩=false:=(hb.frozen (by simp)).trans (by simp [go_sem])
 have f2:w1.frozen? ⟨w.heap.size+1+1,2,none⟩=false:=(hb.frozen (by simp)).trans (by simp [go_sem])
 have hz:Below w.heap.size w w1:=((((Below.refl w.heap.size w).alloc (Nat.le_refl _) _).alloc (by simp) _).alloc (by simp;omega) _).trans (hb.mono (by simp;omega))
 clear hb
 go_wp2_with fail
 exact bodyPost_ret (v:=.agg #[.int .i64 (dX a x),.int .i64 (dX b y),.int .i64 (dX c z)]) (by simp [results,Tryz.results67,go_sem,r0,r1,r2]) rfl ⟨rfl,((hz.setCell (by simp;omega) _).setCell (by simp;omega) _).setCell (by simp;omega) _⟩
theorem zFk (a b c x y z:Int) (w:World):Calls prog 129 #[.agg #[.int .i64 a,.int .i64 b,.int .i64 c],.agg #[.int .i64 x,.int .i64 y,.int .i64 z]] w fun e w'=>e=.returned (.agg #[.int .i64 (jL a x),.int .i64 (jL b y),.int .i64 (jL c z)])/\Below w.heap.size w w':=by
 go_enter func129,ntmps129
 go_wp2_with fail
 refine (zHE _ _ _ _ _ _ _).mono ?_
 rintro e w1 ⟨rfl,hb⟩
 have r0:w1.cell? ⟨w.heap.size+1+1,0,none⟩=some (.int .i64 0):=(hb.cell (by simp)).trans (by simp [go_sem])
 have r1:w1.cell? ⟨w.heap.size+1+1,1,none⟩=some (.int .i64 0):=(hb.cell (by simp)).trans (by simp [go_sem])
 have r2:w1.cell? ⟨w.heap.size+1+1,2,none⟩=some (.int .i64 0):=(hb.cell (by simp)).trans (by simp [go_sem])
 have f0:w1.frozen? ⟨w.heap.size+1+1,0,none⟩=false:=(hb.frozen (by simp)).trans (by simp [go_sem])
 have f1:w1.frozen? ⟨w.heap.size+1+1,1,none⟩=false:=(hb.frozen (by simp)).trans (by simp [go_sem])
 have f2:w1.frozen? ⟨w.heap.size+1+1,2,none⟩=false:=(hb.frozen (by simp)).trans (by simp [go_sem])
 have hz:Below w.heap.size w w1:=((((Below.refl w.heap.size w).alloc (Nat.le_refl _) _).alloc (by simp) _).alloc (by simp;omega) _).trans (hb.mono (by simp;omega))
 clear hb
 go_wp2_with fail
 exact bodyPost_ret (v:=.agg #[.int .i64 (jL a x),.int .i64 (jL b y),.int .i64 (jL c z)]) (by simp [results,Tryz.results129,go_sem,r0,r1,r2]) rfl ⟨rfl,((hz.setCell (by simp;omega) _).setCell (by simp;omega) _).setCell (by simp;omega) _⟩
end Go.Proofs.YtgikfenllgldoaaGreat
namespace Go.Proofs.YtgikfenllgldoaaGreat
open Go.Proofs.Tryz
open Go.RowKit Go.Maps
structure bq (F:Where) (w w':World):Prop where
 os:w'.os=w.os
 tape:w'.tape=w.tape
 output:w'.output=w.output
 size:w.heap.size<=w'.heap.size
 block:∀ b,b<w.heap.size->¬ F b->w'.heap[b]?=w.heap[b]?
theorem bq.refl (F:Where) (w:World):bq F w w:=⟨rfl,rfl,rfl,Nat.le_refl _,fun _ _ _=>rfl⟩
theorem bq.trans {F:Where} {u v w:World} (h:bq F u v) (k:bq F v w):bq F u w :=
 ⟨k.os.trans h.os,k.tape.trans h.tape,k.output.trans h.output,Nat.le_trans h.size k.size,fun b hb hf=>(k.block b (Nat.lt_of_lt_of_le hb h.size) hf).trans (h.block b hb hf)⟩
theorem bq.below {F:Where} {w w':World} (h:Below w.heap.size w w'):bq F w w':=⟨h.os,h.tape,h.output,h.size,fun b hb _=>h.block b hb⟩
theorem bq.grown {F:Where} {w w':World} {row:Option Nat} (hg:w.grownBy w' row) (h:∀ b,row=some b->F b):bq F w w' :=
 ⟨hg.os,hg.tape,hg.output,hg.size,fun b hb hf=>hg.block b hb (fun e=>hf (h b e.symm))⟩
theorem bq.map {F:Where} {w w':World} {b:Nat} (h:w.mapTurned w' b) (hb:F b):bq F w w':=bq.grown h.grown (fun k e=>by cases e;exact hb)
theorem bq.behind {w0 w w':World} (h:Below w0.heap.size w0 w) (k:bq (az w0) w w'):Below w0.heap.size w0 w' :=
 ⟨k.os.trans h.os,k.tape.trans h.tape,k.output.trans h.output,Nat.le_trans h.size k.size,fun b hb=>(k.block b (Nat.lt_of_lt_of_le hb h.size) (az.not hb)).trans (h.block b hb)⟩
theorem bq.weak {F G:Where} {w w':World} (h:bq F w w') (k:∀ b,b<w.heap.size->F b->G b):bq G w w' :=
 ⟨h.os,h.tape,h.output,h.size,fun b hb hg=>h.block b hb (fun hf=>hg (k b hb hf))⟩
theorem bq.kept {F A:Where} {w w':World} (h:bq F w w') (k:∀ b,A b->b<w.heap.size->¬ F b):Kept A w w':=⟨h.size,fun b ha hb=>h.block b hb (k b ha hb)⟩
end Go.Proofs.YtgikfenllgldoaaGreat
namespace Go.Proofs.YtgikfenllgldoaaGreat
open Go.Proofs.Tryz
open Go.RowKit
abbrev aM:=aB×List aG
def aL:bI aM:=bf aj (bN ak 2 32)
theorem aL.ae:aJ aL 17:=aJ.pair aj.ae (bN.ae ak.ae)
abbrev jI (p:aB):List bP:=p.2.2.2.2.2.2.2.2.1
abbrev bB (p:aB):List bP:=p.2.2.2.2.2.2.2.2.2.1
abbrev bG (p:aB):List aG:=p.2.2.1
def iY (d:aG):Prop:=d.1.size<=140737488355328/\d.2.size<=140737488355328
abbrev gG (L:List aG) (key:ByteArray):aG:=(key,(getL L key).1)
def qL (L:List aG) (key:ByteArray) (d:aG):Bool:=(getL L key).2 && (ay d.1 key && ay d.2 (getL L key).1)
def hT (t:bP) (x:aM) (d:aG):Bool:=bE (bG x.1) t.1 && qL x.2 t.2 d
def one (b:Bool):Int:=if b=true then 1 else 0
def cT (t:bP) (A:List aM) (d:aG):Int:=(A.map (fun x=>one (hT t x d))).sum
def hO (P:List aG) (x:aM) (t:bP) (d:aG):Bool:=bE P t.1 && qL x.2 t.2 d
def cX (P:List aG) (x:aM) (T:List bP) (d:aG):Int:=(T.map (fun t=>one (hO P x t d))).sum
def cO (P:List aG) (A:List aM) (d:aG):Int:=(A.map (fun x=>cX P x (bB x.1) d)).sum
def eT (t:bP) (A:List aM):Bool:=!A.any (fun x=>bE (bG x.1) t.1 && (getL x.2 t.2).2)
def VF (P L:List aG) (A:List aM) (t:bP):Bool:=!(getL L t.2).2 || (decide (cT t A (gG L t.2)=0) && !(eT t A && bE P t.1))
def WL (L:List aG) (A:List aM) (t:bP):Bool:=(getL L t.2).2 && decide (0<cT t A (gG L t.2))
def aau (P L:List aG) (A:List aM) (l:aG):Bool:=decide (0<cO P A l) && ((getL L l.1).2 && decide (0<cO P A (gG L l.1)))
def IE (P:List aG) (N M:List bP) (L:List aG) (A:List aM):Int :=
 if N.any (VF P L A)=true then 9 else if M.any (WL L A)=true then 10 else if L.any (aau P L A)=true then 11 else 0
def bR (name:ByteArray) (l:List aM):List aM:=l.filter (fun x=>!ay x.1.1 name)
def wP (p:aB) (L:List aG) (l:List aM):Int:=IE (bG p) (jI p) (bB p) L (bR p.1 l)
theorem Ye (b:Bool):0<=one b:=by unfold one;split <;> omega
theorem Qf:∀ (l:List Int),(∀ x∈l,0<=x)->0<=l.sum
 | [],_=>by simp
 | x :: l,h=>by
  have h1:=h x (by simp)
  have h2:=Qf l (fun y hy=>h y (by simp [hy]))
  simp only [List.sum_cons];omega
theorem Bz:∀ (l:List Int),(∀ x∈l,0<=x)->(0<l.sum↔∃ x∈l,0<x)
 | [],_=>by simp
 | x :: l,h=>by
  have h1:=h x (by simp)
  have h2:=Qf l (fun y hy=>h y (by simp [hy]))
  have h3:=Bz l (fun y hy=>h y (by simp [hy]))
  simp only [List.sum_cons,List.mem_cons,exists_eq_or_imp]
  rw [<- h3]
  omega
theorem one_pos {b:Bool}:0<one b↔b=true:=by unfold one;split <;> simp_all
theorem GU (t:bP) (A:List aM) (d:aG):0<=cT t A d:=Qf _ (fun x hx=>by obtain ⟨y,_,rfl⟩:=List.mem_map.1 hx;exact Ye _)
theorem GR (t:bP) (A:List aM) (d:aG):0<cT t A d↔∃ x∈A,hT t x d=true:=by
 unfold cT
 rw [Bz _ (fun x hx=>by obtain ⟨y,_,rfl⟩:=List.mem_map.1 hx;exact Ye _)]
 constructor
 ·rintro ⟨x,hx,hp⟩
  obtain ⟨y,hy,rfl⟩:=List.mem_map.1 hx
  exact ⟨y,hy,one_pos.1 hp⟩
 ·rintro ⟨y,hy,hp⟩
  exact ⟨_,List.mem_map.2 ⟨y,hy,rfl⟩,one_pos.2 hp⟩
theorem LC {L:List aG} {key:ByteArray} {d:aG}:qL L key d=true↔(getL L key).2=true/\d=gG L key:=by
 unfold qL
 rw [Bool.and_eq_true,Bool.and_eq_true,eZ,eZ]
 constructor
 ·rintro ⟨h1,h2,h3⟩;exact ⟨h1,Prod.ext h2 h3⟩
 ·rintro ⟨h1,rfl⟩;exact ⟨h1,rfl,rfl⟩
theorem Xr {L:List aG} {key:ByteArray} (h:(getL L key).2=true):gG L key∈L:=by
 unfold gG getL at *
 cases e:L.find? (fun x=>ay x.1 key) with
 | none=>rw [e] at h;cases h
 | some x =>
  have h1:=List.find?_some e
  have h2:=List.mem_of_find?_eq_some e
  rw [eZ] at h1
  subst h1
  exact h2
theorem TK {t:bP} {A:List aM} (ht:t.2.size<=140737488355328) (hA:∀ x∈A,∀ l∈x.2,iY l):eT t A=true↔∀ d,iY d->cT t A d=0:=by
 unfold eT
 rw [Bool.not_eq_true',List.any_eq_false]
 constructor
 ·intro h d _
  have h1:=GU t A d
  rcases Int.lt_or_le 0 (cT t A d) with h2 | h2
  ·obtain ⟨x,hx,hh⟩:=(GR _ _ _).1 h2
   unfold hT at hh
   rw [Bool.and_eq_true,LC] at hh
   exact absurd (by rw [Bool.and_eq_true];exact ⟨hh.1,hh.2.1⟩) (h x hx)
  ·omega
 ·intro h x hx hh
  rw [Bool.and_eq_true] at hh
  have h2:0<cT t A (gG x.2 t.2):=(GR _ _ _).2 ⟨x,hx,by unfold hT;rw [Bool.and_eq_true,LC];exact ⟨hh.1,hh.2,rfl⟩⟩
  have h3:=h (gG x.2 t.2) ⟨ht,(hA x hx _ (Xr hh.2)).2⟩
  omega
end Go.Proofs.YtgikfenllgldoaaGreat
