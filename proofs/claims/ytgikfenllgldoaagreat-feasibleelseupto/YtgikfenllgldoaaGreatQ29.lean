/- info.of: what a node has of pods of which no name stands twice. Condition: the arguments lie as is said of them; the pods' ports and claims together are within what an append may ask. -/
import Derived.Test.YtgikfenllgldoaaGreatQ23
set_option linter.unusedSimpArgs false
set_option maxRecDepth 100000
set_option maxHeartbeats 32000000
namespace Go.Proofs.YtgikfenllgldoaaGreat
open Go.Proofs.Tryz
open Go.RowKit
def DY (w:World) (cs:List Value):Prop:=∀ v∈cs.drop 9,∀ a n c,v=.slice a n c->mZ w a n
theorem wH (u:World) (t:TypeId) (zs cs:List Value) (hl:zs.length=cs.length):af ((u.alloc (.cells zs.toArray t)).setCells u.heap.size 0 cs) u.heap.size cs:=by
 have hb:=af.new u t zs
 have hth:(u.alloc (.cells zs.toArray t)).there u.heap.size 0 cs.length:=hl ▸ hb.there
 have hr:=World.rangeAt_setCells_same (u.alloc (.cells zs.toArray t)) u.heap.size 0 cs hth
 have ht2:=World.there_setCells hth u.heap.size 0 cs
 refine ⟨Nat.lt_of_lt_of_le hb.1 (dP (A:=fun _=>False) (b:=u.heap.size) (fun h=>h) (vs:=cs) (o:=0) (u:=u.alloc (.cells zs.toArray t))).1,fun j v hj=>?_⟩
 have h1:=hr j v hj
 have h2:=(ht2 j (List.getElem?_eq_some_iff.1 hj).1).2
 rw [Nat.zero_add] at h1 h2
 exact ⟨h1,h2⟩
theorem mZ.cells {u:World} {a:Option Addr} {n:Nat} (h:mZ u a n) (b o:Nat) (vs:List Value):mZ (u.setCells b o vs) a n:=fun B off e=>World.there_setCells (h B off e) b o vs
theorem Vd {w:World} {c0 c1 c2 c3 c4 c5 c6 c7 c8:Value} {a9 df rU:Option Addr} {n9 m9 n13 m13 n14 m14:Nat} {ua ub uc:Int} (h9:mZ w a9 n9) (aO:mZ w df n13) (fB:mZ w rU n14) :
  DY w [c0,c1,c2,c3,c4,c5,c6,c7,c8,.slice a9 n9 m9,.int .i64 ua,.int .i64 ub,.int .i64 uc,.slice df n13 m13,.slice rU n14 m14]:=by
 intro v hv a n c e
 simp only [List.drop_succ_cons,List.drop_zero,List.mem_cons,List.not_mem_nil,or_false] at hv
 rcases hv with rfl | rfl | rfl | rfl | rfl | rfl
 ·injection e with e1 e2 e3;subst e1 e2;exact h9
 ·cases e
 ·cases e
 ·cases e
 ·injection e with e1 e2 e3;subst e1 e2;exact aO
 ·injection e with e1 e2 e3;subst e1 e2;exact fB
structure ny (w X u:World) (N Z Q:List Value) (s6 s7 s8:Value) (A6:List ByteArray) (A7:List Int) (A8:List ByteArray) (D:Nat) (C:List Value):Prop where
 st:jr w X u N Z Q s6 s7 s8 A6 A7 A8
 bx:af u D C
 hD:w.heap.size+1+1<D
 n6:s6.ownBlock≠some D
 n7:s7.ownBlock≠some D
 n8:s8.ownBlock≠some D
section
variable {w X u:World} {N Z Q:List Value} {s6 s7 s8:Value} {A6:List ByteArray} {A7:List Int} {A8:List ByteArray} {D:Nat} {C:List Value}
theorem ny.on (h:ny w X u N Z Q s6 s7 s8 A6 A7 A8 D C) {u':World} (hb:Below u.heap.size u u'):ny w X u' N Z Q s6 s7 s8 A6 A7 A8 D C :=
 ⟨h.st.on hb,h.bx.on hb,h.hD,h.n6,h.n7,h.n8⟩
theorem ny.new (h:jr w X u N Z Q s6 s7 s8 A6 A7 A8) {u':World} (hb:Below u.heap.size u u') (hx:af u' u.heap.size C):ny w X u' N Z Q s6 s7 s8 A6 A7 A8 u.heap.size C :=
 ⟨h.on hb,hx,h.box.sz,fun e=>Nat.lt_irrefl _ (h.r6.lt e).2,fun e=>Nat.lt_irrefl _ (h.r7.lt e).2,fun e=>Nat.lt_irrefl _ (h.r8.lt e).2⟩
theorem ny.Ld (h:ny w X u N Z Q s6 s7 s8 A6 A7 A8 D C) {u':World} {v:Value} {B:List ByteArray} (hr:Row au 1 (fun _=>False) X u' 9 v B) (hg:u.grownBy u' s6.ownBlock) (hp:v.ownBlock=s6.ownBlock\/v.ownBlock=some u.heap.size):ny w X u' N Z Q v s7 s8 B A7 A8 D C:=by
 refine ⟨h.st.Ld hr hg hp,h.bx.kept (A:=fun b=>s6.ownBlock≠some b) (Kept.grown hg (fun k e h=>h e)) h.n6,h.hD,fun e=>?_,h.n7,h.n8⟩
 rcases hp with hp | hp
 ·exact h.n6 (hp ▸ e)
 ·have:=h.bx.1;rw [hp] at e;injection e with e;omega
theorem ny.Lc (h:ny w X u N Z Q s6 s7 s8 A6 A7 A8 D C) {u':World} {v:Value} {B:List Int} (hr:Row aC 1 (fun _=>False) X u' 3 v B) (hg:u.grownBy u' s7.ownBlock) (hp:v.ownBlock=s7.ownBlock\/v.ownBlock=some u.heap.size):ny w X u' N Z Q s6 v s8 A6 B A8 D C:=by
 refine ⟨h.st.Lc hr hg hp,h.bx.kept (A:=fun b=>s7.ownBlock≠some b) (Kept.grown hg (fun k e h=>h e)) h.n7,h.hD,h.n6,fun e=>?_,h.n8⟩
 rcases hp with hp | hp
 ·exact h.n7 (hp ▸ e)
 ·have:=h.bx.1;rw [hp] at e;injection e with e;omega
theorem ny.La (h:ny w X u N Z Q s6 s7 s8 A6 A7 A8 D C) {u':World} {v:Value} {B:List ByteArray} (hr:Row au 1 (fun _=>False) X u' 9 v B) (hg:u.grownBy u' s8.ownBlock) (hp:v.ownBlock=s8.ownBlock\/v.ownBlock=some u.heap.size):ny w X u' N Z Q s6 s7 v A6 A7 B D C:=by
 refine ⟨h.st.La hr hg hp,h.bx.kept (A:=fun b=>s8.ownBlock≠some b) (Kept.grown hg (fun k e h=>h e)) h.n8,h.hD,h.n6,h.n7,fun e=>?_⟩
 rcases hp with hp | hp
 ·exact h.n8 (hp ▸ e)
 ·have:=h.bx.1;rw [hp] at e;injection e with e;omega
end
def TZ (w:World) (N Q:List Value) (u:World):Prop:=af u w.heap.size N/\af u (w.heap.size+1+1) Q
theorem Jf (ns:List Value) (a:Option Addr) (n cap:Nat) (A A':Where) (x:aX) (L:List aB) (w:World) (hN:Hid (av A w ns x)) (hL:Hid (ag aj 16 296 A' w a n cap L)) (hF:Hid (vH L)):Calls prog 46 #[.agg ns.toArray,.slice a n cap] w fun e w'=>∃ cs',e=.returned (.agg cs'.toArray)/\jP A (az w) w' cs' (sW x L)/\DY w' cs'/\Below w.heap.size w w':=by
 obtain ⟨nn,nl,nt,no,⟨ga,gb,gc⟩,np,nd⟩:=x
 have hN0:=hN
 obtain ⟨⟨a1,n1,m1⟩,⟨a2,n2,m2⟩,rfl,_⟩:=hN.out.out
 simp only at hN0 |-
 clear hN
 have hlen:=hL.out.len (by decide)
 have hn:Hid (L.length=n):=hL.out.1
 have hbb:Hid (n*296<=140737488351232):=hL.out.2.2.2.1
 obtain ⟨W3,hW3⟩:∃ W3,W3=(((w.alloc (.cells #[.string nn,.slice a1 n1 m1,.slice a2 n2 m2,.bool no,.int .i64 ga,.int .i64 gb,.int .i64 gc,.int .i64 np,.int .i64 nd] 56)).alloc (.cells #[.string ⟨#[]⟩,.slice none 0 0,.slice none 0 0,.bool false,.int .i64 0,.int .i64 0,.int .i64 0,.int .i64 0,.int .i64 0,.slice none 0 0,.int .i64 0,.int .i64 0,.int .i64 0,.slice none 0 0,.slice none 0 0] 70)).alloc (.cells #[.int .i64 0,.int .i64 0,.int .i64 0] 32)):=⟨_,rfl⟩
 have B3:Hid (PB w W3 [.string nn,.slice a1 n1 m1,.slice a2 n2 m2,.bool no,.int .i64 ga,.int .i64 gb,.int .i64 gc,.int .i64 np,.int .i64 nd] [.string ⟨#[]⟩,.slice none 0 0,.slice none 0 0,.bool false,.int .i64 0,.int .i64 0,.int .i64 0,.int .i64 0,.int .i64 0,.slice none 0 0,.int .i64 0,.int .i64 0,.int .i64 0,.slice none 0 0,.slice none 0 0] [.int .i64 0,.int .i64 0,.int .i64 0]):=by
  rw [hW3]
  refine ⟨(af.new w 56 [.string nn,.slice a1 n1 m1,.slice a2 n2 m2,.bool no,.int .i64 ga,.int .i64 gb,.int .i64 gc,.int .i64 np,.int .i64 nd]).on (((Below.refl _ _).alloc (Nat.le_refl _) _).alloc (by simp) _),?_,?_,by go_grown⟩
  ·have:=(af.new (w.alloc (.cells #[.string nn,.slice a1 n1 m1,.slice a2 n2 m2,.bool no,.int .i64 ga,.int .i64 gb,.int .i64 gc,.int .i64 np,.int .i64 nd] 56)) 70 [.string ⟨#[]⟩,.slice none 0 0,.slice none 0 0,.bool false,.int .i64 0,.int .i64 0,.int .i64 0,.int .i64 0,.int .i64 0,.slice none 0 0,.int .i64 0,.int .i64 0,.int .i64 0,.slice none 0 0,.slice none 0 0]).on ((Below.refl _ _).alloc (Nat.le_refl _) (.cells #[.int .i64 0,.int .i64 0,.int .i64 0] 32))
   simpa using this
  ·have:=af.new ((w.alloc (.cells #[.string nn,.slice a1 n1 m1,.slice a2 n2 m2,.bool no,.int .i64 ga,.int .i64 gb,.int .i64 gc,.int .i64 np,.int .i64 nd] 56)).alloc (.cells #[.string ⟨#[]⟩,.slice none 0 0,.slice none 0 0,.bool false,.int .i64 0,.int .i64 0,.int .i64 0,.int .i64 0,.int .i64 0,.slice none 0 0,.int .i64 0,.int .i64 0,.int .i64 0,.slice none 0 0,.slice none 0 0] 70)) 32 [.int .i64 0,.int .i64 0,.int .i64 0]
   simpa using this
 have HI0:Hid (jr w W3 W3 [.string nn,.slice a1 n1 m1,.slice a2 n2 m2,.bool no,.int .i64 ga,.int .i64 gb,.int .i64 gc,.int .i64 np,.int .i64 nd] [.string ⟨#[]⟩,.slice none 0 0,.slice none 0 0,.bool false,.int .i64 0,.int .i64 0,.int .i64 0,.int .i64 0,.int .i64 0,.slice none 0 0,.int .i64 0,.int .i64 0,.int .i64 0,.slice none 0 0,.slice none 0 0] [.int .i64 0,.int .i64 0,.int .i64 0] (.slice none 0 0) (.slice none 0 0) (.slice none 0 0) (ek (L.take 0)).1 (ek (L.take 0)).2.2.1 (ek (L.take 0)).2.2.2):=⟨B3.out,Row.nil _ W3 _,Row.nil _ W3 _,Row.nil _ W3 _,fun b h=>by simp [Value.ownBlock] at h,fun b h=>by simp [Value.ownBlock] at h,fun b h=>by simp [Value.ownBlock] at h⟩
 go_enter func46,ntmps46
 go_wp2_with fail
 rw [<- hW3]
 clear hW3
 go_loopw [5,6,7,13] (fun s6 s8 s7 i wr=>∃ (k:Nat) (X:World),k<=n/\i=.int .i64 k/\Hid (jr w X wr [.string nn,.slice a1 n1 m1,.slice a2 n2 m2,.bool no,.int .i64 ga,.int .i64 gb,.int .i64 gc,.int .i64 np,.int .i64 nd] [.string ⟨#[]⟩,.slice none 0 0,.slice none 0 0,.bool false,.int .i64 0,.int .i64 0,.int .i64 0,.int .i64 0,.int .i64 0,.slice none 0 0,.int .i64 0,.int .i64 0,.int .i64 0,.slice none 0 0,.slice none 0 0] [.int .i64 (ek (L.take k)).2.1.1,.int .i64 (ek (L.take k)).2.1.2.1,.int .i64 (ek (L.take k)).2.1.2.2] s6 s7 s8 (ek (L.take k)).1 (ek (L.take k)).2.2.1 (ek (L.take k)).2.2.2)) (fun _ _ _ i _=>n - (intOf i).toNat)
 case atStart=>exact ⟨0,W3,Nat.zero_le _,rfl,HI0⟩
 case round =>
  obtain ⟨k,X,hk,rfl,hI⟩:=hrel
  by_cases hlt:k<n
  ·have hltz:(k:Int)<(n:Int):=by omega
   have hkl:k<L.length:=by rw [hn.out];exact hlt
   obtain ⟨D,off,rfl,hD,_,cs,hr,hv⟩:=hL.out.get hlt
   have HT:Hid _:=IM L hkl
   have HB:Hid _:=IV hF.out hkl
   have HA:Hid ((ek (L.take k)).1.length<=k):=by rw [Hid,(Em _).1,List.length_take];omega
   generalize L.getD k default=p at hr HT HB
   generalize (ek (L.take k))=s at hI HT HB HA
   obtain ⟨gy,⟨ua,ub,uc⟩,pts,nN⟩:=s
   obtain ⟨nm,pri,lab,⟨wa,wb,wc⟩,yu,ask,lF,prt,BQ,Ct,jF,rR,dK,hop⟩:=p
   have hone:=aj.ae.one hr
   obtain ⟨h2,h6,h7,h8,⟨a9,n9,m9⟩,h10,h11,h12,⟨df,n13,m13⟩,rfl,hp0,_,_,_,_,t9,_,_,_,t13,_,_⟩:=hr.out
   simp only at hI HB HA t9 t13 hv HT hone
   have HT2:Hid ((ek (L.take (k+1)))=(gy++[nm],((dX ua wa),(dX ub wb),(dX uc wc)),pts++prt,nN++rR)):=HT.out
   have T9:Hid (ag aC 1 8 A' w a9 n9 m9 prt):=t9
   have T13:Hid (ag au 1 16 A' w df n13 m13 rR):=t13
   have vV:Hid ((pts.length+prt.length)*8<=140737488355328):=by have h1:=HB.out.1;simp only [iB] at h1;rw [Hid];omega
   have UG:Hid ((nN.length+rR.length)*16<=140737488355328):=by have h1:=HB.out.2;simp only [iH] at h1;rw [Hid];omega
   have vW:Hid ((gy.length+[nm].length)*16<=140737488355328):=by have h1:=HA.out;have h2:=hbb.out;simp [Hid];omega
   have hbw:Below w.heap.size w wr:=hI.out.box.b
   have HV:Hid (wr.rangeAt D (off+k*16) [.string nm,.int .i64 pri,.slice h2.1 h2.2.1 h2.2.2,.int .i64 wa,.int .i64 wb,.int .i64 wc,.slice h6.1 h6.2.1 h6.2.2,.slice h7.1 h7.2.1 h7.2.2,.slice h8.1 h8.2.1 h8.2.2,.slice a9 n9 m9,.slice h10.1 h10.2.1 h10.2.2,.slice h11.1 h11.2.1 h11.2.2,.slice h12.1 h12.2.1 h12.2.2,.slice df n13 m13,.string dK,.string hop]):=fun j v hj=>(hbw.cell hD).trans (hv j v hj)
   have hi:(prog.info? 41).map (·.size)=some ([.string nm,.int .i64 pri,.slice h2.1 h2.2.1 h2.2.2,.int .i64 wa,.int .i64 wb,.int .i64 wc,.slice h6.1 h6.2.1 h6.2.2,.slice h7.1 h7.2.1 h7.2.2,.slice h8.1 h8.2.1 h8.2.2,.slice a9 n9 m9,.slice h10.1 h10.2.1 h10.2.2,.slice h11.1 h11.2.1 h11.2.2,.slice h12.1 h12.2.1 h12.2.2,.slice df n13 m13,.string dK,.string hop]:List Value).length:=kY
   have H1:Hid ((([.string nm,.int .i64 pri,.slice h2.1 h2.2.1 h2.2.2,.int .i64 wa,.int .i64 wb,.int .i64 wc,.slice h6.1 h6.2.1 h6.2.2,.slice h7.1 h7.2.1 h7.2.2,.slice h8.1 h8.2.1 h8.2.2,.slice a9 n9 m9,.slice h10.1 h10.2.1 h10.2.2,.slice h11.1 h11.2.1 h11.2.2,.slice h12.1 h12.2.1 h12.2.2,.slice df n13 m13,.string dK,.string hop]:List Value).toArray).all (·.oneCell')=true):=all_oneCell_toArray hone
   clear hr hv t9 t13 HT HB hone
   obtain ⟨vK,hwb⟩:∃ vK,vK=(wr.alloc (.cells #[.string ⟨#[]⟩,.int .i64 0,.slice none 0 0,.int .i64 0,.int .i64 0,.int .i64 0,.slice none 0 0,.slice none 0 0,.slice none 0 0,.slice none 0 0,.slice none 0 0,.slice none 0 0,.slice none 0 0,.slice none 0 0,.string ⟨#[]⟩,.string ⟨#[]⟩] 41)).setCells wr.heap.size 0 [.string nm,.int .i64 pri,.slice h2.1 h2.2.1 h2.2.2,.int .i64 wa,.int .i64 wb,.int .i64 wc,.slice h6.1 h6.2.1 h6.2.2,.slice h7.1 h7.2.1 h7.2.2,.slice h8.1 h8.2.1 h8.2.2,.slice a9 n9 m9,.slice h10.1 h10.2.1 h10.2.2,.slice h11.1 h11.2.1 h11.2.2,.slice h12.1 h12.2.1 h12.2.2,.slice df n13 m13,.string dK,.string hop]:=⟨_,rfl⟩
   have eD:Hid ((wr.alloc (.cells #[.string ⟨#[]⟩,.int .i64 0,.slice none 0 0,.int .i64 0,.int .i64 0,.int .i64 0,.slice none 0 0,.slice none 0 0,.slice none 0 0,.slice none 0 0,.slice none 0 0,.slice none 0 0,.slice none 0 0,.slice none 0 0,.string ⟨#[]⟩,.string ⟨#[]⟩] 41)).there wr.heap.size 0 16):=(af.new wr 41 [.string ⟨#[]⟩,.int .i64 0,.slice none 0 0,.int .i64 0,.int .i64 0,.int .i64 0,.slice none 0 0,.slice none 0 0,.slice none 0 0,.slice none 0 0,.slice none 0 0,.slice none 0 0,.slice none 0 0,.slice none 0 0,.string ⟨#[]⟩,.string ⟨#[]⟩]).there
   have gz:Hid (af vK wr.heap.size [.string nm,.int .i64 pri,.slice h2.1 h2.2.1 h2.2.2,.int .i64 wa,.int .i64 wb,.int .i64 wc,.slice h6.1 h6.2.1 h6.2.2,.slice h7.1 h7.2.1 h7.2.2,.slice h8.1 h8.2.1 h8.2.2,.slice a9 n9 m9,.slice h10.1 h10.2.1 h10.2.2,.slice h11.1 h11.2.1 h11.2.2,.slice h12.1 h12.2.1 h12.2.2,.slice df n13 m13,.string dK,.string hop]):=by rw [hwb];exact wH wr 41 [.string ⟨#[]⟩,.int .i64 0,.slice none 0 0,.int .i64 0,.int .i64 0,.int .i64 0,.slice none 0 0,.slice none 0 0,.slice none 0 0,.slice none 0 0,.slice none 0 0,.slice none 0 0,.slice none 0 0,.slice none 0 0,.string ⟨#[]⟩,.string ⟨#[]⟩] [.string nm,.int .i64 pri,.slice h2.1 h2.2.1 h2.2.2,.int .i64 wa,.int .i64 wb,.int .i64 wc,.slice h6.1 h6.2.1 h6.2.2,.slice h7.1 h7.2.1 h7.2.2,.slice h8.1 h8.2.1 h8.2.2,.slice a9 n9 m9,.slice h10.1 h10.2.1 h10.2.2,.slice h11.1 h11.2.1 h11.2.2,.slice h12.1 h12.2.1 h12.2.2,.slice df n13 m13,.string dK,.string hop] rfl
   have eF:Hid (Below wr.heap.size wr vK):=by rw [hwb];exact cu ((Below.refl _ _).alloc (Nat.le_refl _) _) (Nat.le_refl _)
   have gZ:Hid (vK=(wr.alloc (.cells #[.string ⟨#[]⟩,.int .i64 0,.slice none 0 0,.int .i64 0,.int .i64 0,.int .i64 0,.slice none 0 0,.slice none 0 0,.slice none 0 0,.slice none 0 0,.slice none 0 0,.slice none 0 0,.slice none 0 0,.slice none 0 0,.string ⟨#[]⟩,.string ⟨#[]⟩] 41)).setCells wr.heap.size 0 (([.string nm,.int .i64 pri,.slice h2.1 h2.2.1 h2.2.2,.int .i64 wa,.int .i64 wb,.int .i64 wc,.slice h6.1 h6.2.1 h6.2.2,.slice h7.1 h7.2.1 h7.2.2,.slice h8.1 h8.2.1 h8.2.2,.slice a9 n9 m9,.slice h10.1 h10.2.1 h10.2.2,.slice h11.1 h11.2.1 h11.2.2,.slice h12.1 h12.2.1 h12.2.2,.slice df n13 m13,.string dK,.string hop]:List Value).toArray).toList):=hwb
   clear hwb
   have Uy:Hid (ny w X (vK.alloc (.cells #[.string nm] 9)) [.string nn,.slice a1 n1 m1,.slice a2 n2 m2,.bool no,.int .i64 ga,.int .i64 gb,.int .i64 gc,.int .i64 np,.int .i64 nd] [.string ⟨#[]⟩,.slice none 0 0,.slice none 0 0,.bool false,.int .i64 0,.int .i64 0,.int .i64 0,.int .i64 0,.int .i64 0,.slice none 0 0,.int .i64 0,.int .i64 0,.int .i64 0,.slice none 0 0,.slice none 0 0] [.int .i64 ua,.int .i64 ub,.int .i64 uc] u5 u7 u6 gy pts nN wr.heap.size [.string nm,.int .i64 pri,.slice h2.1 h2.2.1 h2.2.2,.int .i64 wa,.int .i64 wb,.int .i64 wc,.slice h6.1 h6.2.1 h6.2.2,.slice h7.1 h7.2.1 h7.2.2,.slice h8.1 h8.2.1 h8.2.2,.slice a9 n9 m9,.slice h10.1 h10.2.1 h10.2.2,.slice h11.1 h11.2.1 h11.2.2,.slice h12.1 h12.2.1 h12.2.2,.slice df n13 m13,.string dK,.string hop]):=(ny.new hI.out eF.out gz.out).on ((Below.refl _ _).alloc (Nat.le_refl _) _)
   obtain ⟨c0,_⟩:=gz.out.2 0 _ rfl
   have HN:Hid (Src au 1 (fun b=>False/\Value.ownBlock u5≠some b) (vK.alloc (.cells #[.string nm] 9)) (some ⟨vK.heap.size,0,none⟩) 1 [nm]):=⟨rfl,.inr ⟨_,[.string nm],rfl,nJ au.ae ⟨rfl,hp0⟩,nY vK [.string nm] 9,by simp [Value.oneCell']⟩⟩
   go_upto_region 8 with (first | (refine wpList_load_mid rfl 41 _ rfl D (off+k*16) rfl [.string nm,.int .i64 pri,.slice h2.1 h2.2.1 h2.2.2,.int .i64 wa,.int .i64 wb,.int .i64 wc,.slice h6.1 h6.2.1 h6.2.2,.slice h7.1 h7.2.1 h7.2.2,.slice h8.1 h8.2.1 h8.2.2,.slice a9 n9 m9,.slice h10.1 h10.2.1 h10.2.2,.slice h11.1 h11.2.1 h11.2.2,.slice h12.1 h12.2.1 h12.2.2,.slice df n13 m13,.string dK,.string hop] _ HV.out underlying41 rfl hi ?_) | (refine wpList_store_mid rfl 41 _ _ rfl wr.heap.size 0 (([.string nm,.int .i64 pri,.slice h2.1 h2.2.1 h2.2.2,.int .i64 wa,.int .i64 wb,.int .i64 wc,.slice h6.1 h6.2.1 h6.2.2,.slice h7.1 h7.2.1 h7.2.2,.slice h8.1 h8.2.1 h8.2.2,.slice a9 n9 m9,.slice h10.1 h10.2.1 h10.2.2,.slice h11.1 h11.2.1 h11.2.2,.slice h12.1 h12.2.1 h12.2.2,.slice df n13 m13,.string dK,.string hop]:List Value).toArray) rfl rfl eD.out hi H1.out ?_;refine iJ gZ.out ?_) | (at_builtin;go_must (refine ui au.ae (A:=(fun _=>False)) (w0:=X) rfl _ _ 39 9 rfl _ 16 yV underlying39 rfl (by decide) (by decide) _ gy rfl Uy.out.st.r6 (some ⟨vK.heap.size,0,none⟩) 1 1 [nm] rfl HN.out vW.out ?_);intro x6 y1 tT Gi ZO))
   have Il:Hid (ny w X y1 [.string nn,.slice a1 n1 m1,.slice a2 n2 m2,.bool no,.int .i64 ga,.int .i64 gb,.int .i64 gc,.int .i64 np,.int .i64 nd] [.string ⟨#[]⟩,.slice none 0 0,.slice none 0 0,.bool false,.int .i64 0,.int .i64 0,.int .i64 0,.int .i64 0,.int .i64 0,.slice none 0 0,.int .i64 0,.int .i64 0,.int .i64 0,.slice none 0 0,.slice none 0 0] [.int .i64 ua,.int .i64 ub,.int .i64 uc] x6 u7 u6 (gy++[nm]) pts nN wr.heap.size [.string nm,.int .i64 pri,.slice h2.1 h2.2.1 h2.2.2,.int .i64 wa,.int .i64 wb,.int .i64 wc,.slice h6.1 h6.2.1 h6.2.2,.slice h7.1 h7.2.1 h7.2.2,.slice h8.1 h8.2.1 h8.2.2,.slice a9 n9 m9,.slice h10.1 h10.2.1 h10.2.2,.slice h11.1 h11.2.1 h11.2.2,.slice h12.1 h12.2.1 h12.2.2,.slice df n13 m13,.string dK,.string hop]):=Uy.out.Ld tT Gi ZO
   clear tT Gi ZO HN vW Uy c0 HV eD gZ H1 gz
   obtain ⟨c9,_⟩:=Il.out.bx.2 9 _ rfl
   have HN9:Hid (Src aC 1 (fun b=>False/\Value.ownBlock u7≠some b) y1 a9 n9 prt):=(((T9.out.on aC.ae Il.out.st.box.b).src aC.ae).flat aC.flat)
   go_upto_region 9 with (at_builtin;go_must (refine ui aC.ae (A:=(fun _=>False)) (w0:=X) rfl _ _ 36 3 rfl _ 8 AX underlying36 rfl (by decide) (by decide) _ pts rfl Il.out.st.r7 a9 n9 m9 prt rfl HN9.out vV.out ?_);intro x7 y2 jG jR ZN)
   have Ik:Hid (ny w X y2 [.string nn,.slice a1 n1 m1,.slice a2 n2 m2,.bool no,.int .i64 ga,.int .i64 gb,.int .i64 gc,.int .i64 np,.int .i64 nd] [.string ⟨#[]⟩,.slice none 0 0,.slice none 0 0,.bool false,.int .i64 0,.int .i64 0,.int .i64 0,.int .i64 0,.int .i64 0,.slice none 0 0,.int .i64 0,.int .i64 0,.int .i64 0,.slice none 0 0,.slice none 0 0] [.int .i64 ua,.int .i64 ub,.int .i64 uc] x6 x7 u6 (gy++[nm]) (pts++prt) nN wr.heap.size [.string nm,.int .i64 pri,.slice h2.1 h2.2.1 h2.2.2,.int .i64 wa,.int .i64 wb,.int .i64 wc,.slice h6.1 h6.2.1 h6.2.2,.slice h7.1 h7.2.1 h7.2.2,.slice h8.1 h8.2.1 h8.2.2,.slice a9 n9 m9,.slice h10.1 h10.2.1 h10.2.2,.slice h11.1 h11.2.1 h11.2.2,.slice h12.1 h12.2.1 h12.2.2,.slice df n13 m13,.string dK,.string hop]):=Il.out.Lc jG jR ZN
   clear jG jR ZN HN9 vV Il c9
   obtain ⟨c13,_⟩:=Ik.out.bx.2 13 _ rfl
   have UB:Hid (Src au 1 (fun b=>False/\Value.ownBlock u6≠some b) y2 df n13 rR):=(((T13.out.on au.ae Ik.out.st.box.b).src au.ae).flat au.flat)
   go_upto_region 10 with (at_builtin;go_must (refine ui au.ae (A:=(fun _=>False)) (w0:=X) rfl _ _ 39 9 rfl _ 16 yV underlying39 rfl (by decide) (by decide) _ nN rfl Ik.out.st.r8 df n13 m13 rR rfl UB.out UG.out ?_);intro x8 y3 ZK mH ZM)
   have yC:Hid (ny w X y3 [.string nn,.slice a1 n1 m1,.slice a2 n2 m2,.bool no,.int .i64 ga,.int .i64 gb,.int .i64 gc,.int .i64 np,.int .i64 nd] [.string ⟨#[]⟩,.slice none 0 0,.slice none 0 0,.bool false,.int .i64 0,.int .i64 0,.int .i64 0,.int .i64 0,.int .i64 0,.slice none 0 0,.int .i64 0,.int .i64 0,.int .i64 0,.slice none 0 0,.slice none 0 0] [.int .i64 ua,.int .i64 ub,.int .i64 uc] x6 x7 x8 (gy++[nm]) (pts++prt) (nN++rR) wr.heap.size [.string nm,.int .i64 pri,.slice h2.1 h2.2.1 h2.2.2,.int .i64 wa,.int .i64 wb,.int .i64 wc,.slice h6.1 h6.2.1 h6.2.2,.slice h7.1 h7.2.1 h7.2.2,.slice h8.1 h8.2.1 h8.2.2,.slice a9 n9 m9,.slice h10.1 h10.2.1 h10.2.2,.slice h11.1 h11.2.1 h11.2.2,.slice h12.1 h12.2.1 h12.2.2,.slice df n13 m13,.string dK,.string hop]):=Ik.out.La ZK mH ZM
   clear ZK mH ZM UB UG Ik c13
   obtain ⟨c3,_⟩:=yC.out.bx.2 3 _ rfl
   obtain ⟨c4,_⟩:=yC.out.bx.2 4 _ rfl
   obtain ⟨c5,_⟩:=yC.out.bx.2 5 _ rfl
   obtain ⟨q0,_⟩:=yC.out.st.box.q.2 0 _ rfl
   obtain ⟨q1,_⟩:=yC.out.st.box.q.2 1 _ rfl
   obtain ⟨q2,_⟩:=yC.out.st.box.q.2 2 _ rfl
   go_wp2_with fail
   refine (Yt ua ub uc wa wb wc y3).mono ?_
   rintro e y4 ⟨rfl,hb4⟩
   have Gs:=yC.out.st.on hb4
   clear c3 c4 c5 q0 q1 q2 hb4 yC
   obtain ⟨q0,f0⟩:=Gs.box.q.2 0 _ rfl
   obtain ⟨q1,f1⟩:=Gs.box.q.2 1 _ rfl
   obtain ⟨q2,f2⟩:=Gs.box.q.2 2 _ rfl
   have Ti:=((Gs.set 0 (.int .i64 (dX ua wa)) (by simp)).set 1 (.int .i64 (dX ub wb)) (by simp)).set 2 (.int .i64 (dX uc wc)) (by simp)
   obtain ⟨X5,Z5⟩:∃ X5,X5=(((X.setCell ⟨w.heap.size+1+1,0,none⟩ (.int .i64 (dX ua wa))).setCell ⟨w.heap.size+1+1,1,none⟩ (.int .i64 (dX ub wb))).setCell ⟨w.heap.size+1+1,2,none⟩ (.int .i64 (dX uc wc))):=⟨_,rfl⟩
   rw [<- Z5] at Ti
   have HI5:Hid (jr w X5 (((y4.setCell ⟨w.heap.size+1+1,0,none⟩ (.int .i64 (dX ua wa))).setCell ⟨w.heap.size+1+1,1,none⟩ (.int .i64 (dX ub wb))).setCell ⟨w.heap.size+1+1,2,none⟩ (.int .i64 (dX uc wc))) [.string nn,.slice a1 n1 m1,.slice a2 n2 m2,.bool no,.int .i64 ga,.int .i64 gb,.int .i64 gc,.int .i64 np,.int .i64 nd] [.string ⟨#[]⟩,.slice none 0 0,.slice none 0 0,.bool false,.int .i64 0,.int .i64 0,.int .i64 0,.int .i64 0,.int .i64 0,.slice none 0 0,.int .i64 0,.int .i64 0,.int .i64 0,.slice none 0 0,.slice none 0 0] [.int .i64 (dX ua wa),.int .i64 (dX ub wb),.int .i64 (dX uc wc)] x6 x7 x8 (gy++[nm]) (pts++prt) (nN++rR)):=Ti
   clear Z5 Ti Gs
   go_wp2_with fail
   clear q0 q1 q2 f0 f1 f2
   go_roundw
   case rel=>exact ⟨k+1,X5,by omega,by go_num,by rw [HT2.out];exact HI5⟩
   case measure=>simp [intOf];omega
  ·have oo:L.take k=L:=List.take_of_length_le (by rw [hn.out];omega)
   rw [oo] at hI
   have HA:Hid ((ek L).1.length<=n):=by rw [Hid,(Em _).1];exact Nat.le_of_eq hn.out
   have HB:Hid ((ek L).2.2.1.length*8<=140737488351232/\(ek L).2.2.2.length*16<=140737488351232):=by rw [Hid,(Em _).2.1,(Em _).2.2];exact hF.out
   have HE:Hid (sW (nn,nl,nt,no,(ga,gb,gc),np,nd) L=Cw (nn,nl,nt,no,(ga,gb,gc),np,nd) (ek L)):=rfl
   have hlz:¬ ((k:Int)<(n:Int)):=by omega
   generalize ek L=s at hI HA HB HE
   obtain ⟨gy,⟨ua,ub,uc⟩,pts,nN⟩:=s
   simp only at hI HA HB HE
   obtain ⟨b6,c6,e6,Ch⟩:=hI.out.r6.sl (bytes:=16) au.ae (by have h1:=HA.out;have h2:=hbb.out;omega)
   subst e6
   obtain ⟨b7,c7,e7,Gp⟩:=hI.out.r7.sl (bytes:=8) aC.ae HB.out.1
   subst e7
   obtain ⟨b8,c8,e8,yg⟩:=hI.out.r8.sl (bytes:=16) au.ae HB.out.2
   subst e8
   have HS6:Hid (ag au 1 16 _ wr b6 gy.length c6 gy):=Ch
   have HS7:Hid (ag aC 1 8 _ wr b7 pts.length c7 pts):=Gp
   have HS8:Hid (ag au 1 16 _ wr b8 nN.length c8 nN):=yg
   have HB0:Hid (PB w wr [.string nn,.slice a1 n1 m1,.slice a2 n2 m2,.bool no,.int .i64 ga,.int .i64 gb,.int .i64 gc,.int .i64 np,.int .i64 nd] [.string ⟨#[]⟩,.slice none 0 0,.slice none 0 0,.bool false,.int .i64 0,.int .i64 0,.int .i64 0,.int .i64 0,.int .i64 0,.slice none 0 0,.int .i64 0,.int .i64 0,.int .i64 0,.slice none 0 0,.slice none 0 0] [.int .i64 ua,.int .i64 ub,.int .i64 uc]):=hI.out.box
   generalize gy.length=j6 at HS6 HA |-
   clear Ch Gp yg hI oo
   have HS:Hid (∀ u:World,Below wr.heap.size wr u->TZ w [.string nn,.slice a1 n1 m1,.slice a2 n2 m2,.bool no,.int .i64 ga,.int .i64 gb,.int .i64 gc,.int .i64 np,.int .i64 nd] [.int .i64 ua,.int .i64 ub,.int .i64 uc] u):=fun u hb=>⟨(HB0.out.on hb).p,(HB0.out.on hb).q⟩
   go_wp2_with fail
   refine wp_region_noPanic ?_
   refine wp_region_held_drew (S:=TZ w [.string nn,.slice a1 n1 m1,.slice a2 n2 m2,.bool no,.int .i64 ga,.int .i64 gb,.int .i64 gc,.int .i64 np,.int .i64 nd] [.int .i64 ua,.int .i64 ub,.int .i64 uc]) (by kernel_rfl) (HS.out _ (Below.refl _ _).drew) (fun gH=>?_)
   refine' tk 0 ?_ ?_;rotate_left
   ·intro u hu;have cp0:=(hu.1.2 0 _ rfl).1;have cp1:=(hu.1.2 1 _ rfl).1;have cp2:=(hu.1.2 2 _ rfl).1;have cp3:=(hu.1.2 3 _ rfl).1;have cp4:=(hu.1.2 4 _ rfl).1;have cp5:=(hu.1.2 5 _ rfl).1;have cp6:=(hu.1.2 6 _ rfl).1;have cp7:=(hu.1.2 7 _ rfl).1;have cp8:=(hu.1.2 8 _ rfl).1;clear hu;go_simp;try with_reducible rfl
   try go_frame
   refine tp 1 ?_
   try go_frame
   refine' tk 3 ?_ ?_;rotate_left
   ·intro u hu;have cy0:=(hu.2.2 0 _ rfl).1;have cy1:=(hu.2.2 1 _ rfl).1;have cy2:=(hu.2.2 2 _ rfl).1;clear hu;go_simp;try with_reducible rfl
   try go_frame
   refine tp 4 ?_
   try go_frame
   refine tp 6 ?_
   try go_frame
   refine tr 2 (fun K hK=>?_)
   go_simp
   refine (Xj b6 j6 c6 _ gy wr.drew (HS6.out.on au.ae (Below.refl _ _).drew)).mono ?_
   rintro e y1 ⟨g9,k9,rfl,r9,z9,hb1⟩
   have M4:Below wr.heap.size wr y1:=ah (Below.refl _ _).drew hb1
   have r9:=r9.weak (A':=(fun b=>w.heap.size+1+1<b)) au.ae (fun b _ hb=>Nat.lt_of_lt_of_le (HB0.out.on (Below.refl _ _).drew).sz hb)
   generalize Cf:(aN dh ay gy).length=l9 at r9 z9 |-
   clear Cf
   go_wp2_with fail
   refine hK.out _ _ (HS.out _ M4) (fun gI=>?_)
   clear hK K gH;have gH:=gI;clear gI
   try go_frame
   refine tr 5 (fun K hK=>?_)
   go_simp
   refine (Jq b7 pts.length c7 _ pts y1 (HS7.out.on aC.ae M4)).mono ?_
   rintro e y2 ⟨g13,k13,rfl,zk,Br,hb2⟩
   have M3:=ah M4 hb2
   have zk:=zk.weak (A':=(fun b=>w.heap.size+1+1<b)) aC.ae (fun b _ hb=>Nat.lt_of_lt_of_le (HB0.out.on M4).sz hb)
   have r9:=r9.on au.ae hb2
   have z9:=z9.on hb2
   generalize abd:(aN fD dM pts).length=nL at zk Br |-
   clear abd
   go_wp2_with fail
   refine hK.out _ _ (HS.out _ M3) (fun gI=>?_)
   clear hK K gH;have gH:=gI;clear gI
   try go_frame
   refine tr 7 (fun K hK=>?_)
   go_simp
   refine (Xj b8 nN.length c8 _ nN y2 (HS8.out.on au.ae M3)).mono ?_
   rintro e y3 ⟨g14,k14,rfl,xU,Qw,hb3⟩
   have by3:=ah M3 hb3
   have xU:=xU.weak (A':=(fun b=>w.heap.size+1+1<b)) au.ae (fun b _ hb=>Nat.lt_of_lt_of_le (HB0.out.on M3).sz hb)
   have r9:=r9.on au.ae hb3
   have z9:=z9.on hb3
   have zk:=zk.on aC.ae hb3
   have Br:=Br.on hb3
   generalize abb:(aN dh ay nN).length=og at xU Qw |-
   clear abb
   go_wp2_with fail
   refine hK.out _ _ (HS.out _ by3) (fun gI=>?_)
   clear hK K gH;have gH:=gI;clear gI
   try go_frame
   refine tp 8 ?_
   try go_frame
   have C8:=HB0.out.on by3
   have hsz:=C8.sz
   have hgz:¬ (fun b=>w.heap.size+1+1<b) (w.heap.size+1):=fun h=>Nat.lt_irrefl _ (Nat.lt_of_le_of_lt (Nat.le_succ _) h)
   have HK:∀ u,Kept (fun b=>w.heap.size+1+1<b) y3 u->Below w.heap.size w u->jP A (az w) u [.string nn,.slice a1 n1 m1,.slice a2 n2 m2,.bool no,.int .i64 ga,.int .i64 gb,.int .i64 gc,.int .i64 np,.int .i64 nd,.slice g9 l9 k9,.int .i64 ua,.int .i64 ub,.int .i64 uc,.slice g13 nL k13,.slice g14 og k14] (Cw (nn,nl,nt,no,(ga,gb,gc),np,nd) (gy,(ua,ub,uc),pts,nN)):=fun u hk hb=>⟨[.string nn,.slice a1 n1 m1,.slice a2 n2 m2,.bool no,.int .i64 ga,.int .i64 gb,.int .i64 gc,.int .i64 np,.int .i64 nd],[.slice g9 l9 k9,.int .i64 ua,.int .i64 ub,.int .i64 uc,.slice g13 nL k13,.slice g14 og k14],rfl,av.ae.kept hN0.out (Kept.below hb),⟨[.slice g9 l9 k9],_,rfl,⟨g9,l9,k9,rfl,((r9.kept au.ae hk).weak au.ae (fun b _ hb=>show w.heap.size<=b by have h1:w.heap.size+1+1<b:=hb;omega))⟩,⟨[.int .i64 ua,.int .i64 ub,.int .i64 uc],_,rfl,jh.mk (x:=(ua,ub,uc)),⟨[.slice g13 nL k13],_,rfl,⟨g13,nL,k13,rfl,((zk.kept aC.ae hk).weak aC.ae (fun b _ hb=>show w.heap.size<=b by have h1:w.heap.size+1+1<b:=hb;omega))⟩,⟨g14,og,k14,rfl,((xU.kept au.ae hk).weak au.ae (fun b _ hb=>show w.heap.size<=b by have h1:w.heap.size+1+1<b:=hb;omega))⟩⟩⟩⟩⟩
   have hbz:Below w.heap.size w (y3.setCells (w.heap.size+1) 0 [.string nn,.slice a1 n1 m1,.slice a2 n2 m2,.bool no,.int .i64 ga,.int .i64 gb,.int .i64 gc,.int .i64 np,.int .i64 nd,.slice g9 l9 k9,.int .i64 ua,.int .i64 ub,.int .i64 uc,.slice g13 nL k13,.slice g14 og k14]):=cu C8.b (by omega)
   have HE2:=HK _ (dP (vs:=[.string nn,.slice a1 n1 m1,.slice a2 n2 m2,.bool no,.int .i64 ga,.int .i64 gb,.int .i64 gc,.int .i64 np,.int .i64 nd,.slice g9 l9 k9,.int .i64 ua,.int .i64 ub,.int .i64 uc,.slice g13 nL k13,.slice g14 og k14]) (o:=0) hgz) hbz
   have H1:=all_oneCell_toArray (HE2.one)
   have HI:(prog.info? 70).map (·.size)=some (([.string nn,.slice a1 n1 m1,.slice a2 n2 m2,.bool no,.int .i64 ga,.int .i64 gb,.int .i64 gc,.int .i64 np,.int .i64 nd,.slice g9 l9 k9,.int .i64 ua,.int .i64 ub,.int .i64 uc,.slice g13 nL k13,.slice g14 og k14]:List Value).toArray).size:=by kernel_rfl
   have fE:Hid ((y3.setCells (w.heap.size+1) 0 [.string nn,.slice a1 n1 m1,.slice a2 n2 m2,.bool no,.int .i64 ga,.int .i64 gb,.int .i64 gc,.int .i64 np,.int .i64 nd,.slice g9 l9 k9,.int .i64 ua,.int .i64 ub,.int .i64 uc,.slice g13 nL k13,.slice g14 og k14]).rangeAt (w.heap.size+1) 0 [.string nn,.slice a1 n1 m1,.slice a2 n2 m2,.bool no,.int .i64 ga,.int .i64 gb,.int .i64 gc,.int .i64 np,.int .i64 nd,.slice g9 l9 k9,.int .i64 ua,.int .i64 ub,.int .i64 uc,.slice g13 nL k13,.slice g14 og k14]):=World.rangeAt_setCells_same _ _ _ _ C8.z.there
   have Ur:DY (y3.setCells (w.heap.size+1) 0 [.string nn,.slice a1 n1 m1,.slice a2 n2 m2,.bool no,.int .i64 ga,.int .i64 gb,.int .i64 gc,.int .i64 np,.int .i64 nd,.slice g9 l9 k9,.int .i64 ua,.int .i64 ub,.int .i64 uc,.slice g13 nL k13,.slice g14 og k14]) [.string nn,.slice a1 n1 m1,.slice a2 n2 m2,.bool no,.int .i64 ga,.int .i64 gb,.int .i64 gc,.int .i64 np,.int .i64 nd,.slice g9 l9 k9,.int .i64 ua,.int .i64 ub,.int .i64 uc,.slice g13 nL k13,.slice g14 og k14]:=Vd (z9.cells _ _ _) (Br.cells _ _ _) (Qw.cells _ _ _)
   refine ts 9 (fun K hK=>?_)
   refine II (by rfl) (wp_store_mid 70 _ _ rfl (w.heap.size+1) 0 ([.string nn,.slice a1 n1 m1,.slice a2 n2 m2,.bool no,.int .i64 ga,.int .i64 gb,.int .i64 gc,.int .i64 np,.int .i64 nd,.slice g9 l9 k9,.int .i64 ua,.int .i64 ub,.int .i64 uc,.slice g13 nL k13,.slice g14 og k14]:List Value).toArray rfl rfl C8.z.there HI H1 ?_)
   obtain ⟨W8,pW⟩:∃ W8,W8=y3.setCells (w.heap.size+1) 0 [.string nn,.slice a1 n1 m1,.slice a2 n2 m2,.bool no,.int .i64 ga,.int .i64 gb,.int .i64 gc,.int .i64 np,.int .i64 nd,.slice g9 l9 k9,.int .i64 ua,.int .i64 ub,.int .i64 uc,.slice g13 nL k13,.slice g14 og k14]:=⟨_,rfl⟩
   have yg:TZ w [.string nn,.slice a1 n1 m1,.slice a2 n2 m2,.bool no,.int .i64 ga,.int .i64 gb,.int .i64 gc,.int .i64 np,.int .i64 nd] [.int .i64 ua,.int .i64 ub,.int .i64 uc] W8:=by rw [pW];exact ⟨C8.p.kept (A:=fun b=>b≠w.heap.size+1) (dP (fun h=>h rfl)) (by omega),C8.q.kept (A:=fun b=>b≠w.heap.size+1) (dP (fun h=>h rfl)) (by omega)⟩
   rw [<- pW] at fE HE2 hbz Ur
   refine K8 pW ?_
   refine hK.out undef _ yg (fun gI=>?_)
   clear hK K gH;have gH:=gI;clear gI
   try go_frame
   rw [<- HE.out] at HE2
   have HE3:Hid (jP A (az w) W8 [.string nn,.slice a1 n1 m1,.slice a2 n2 m2,.bool no,.int .i64 ga,.int .i64 gb,.int .i64 gc,.int .i64 np,.int .i64 nd,.slice g9 l9 k9,.int .i64 ua,.int .i64 ub,.int .i64 uc,.slice g13 nL k13,.slice g14 og k14] (sW (nn,nl,nt,no,(ga,gb,gc),np,nd) L)):=HE2
   have HB3:Hid (Below w.heap.size w W8):=hbz
   have HT3:Hid (DY W8 [.string nn,.slice a1 n1 m1,.slice a2 n2 m2,.bool no,.int .i64 ga,.int .i64 gb,.int .i64 gc,.int .i64 np,.int .i64 nd,.slice g9 l9 k9,.int .i64 ua,.int .i64 ub,.int .i64 uc,.slice g13 nL k13,.slice g14 og k14]):=Ur
   clear HE2 hbz H1 HK C8 r9 zk xU z9 Br Qw pW Ur
   refine wpAnyH_done (by kernel_rfl) ?_ _
   refine NoPanic.normal ?_
   go_wp2_with fail
   refine bodyPost_ret (v:=.agg ([.string nn,.slice a1 n1 m1,.slice a2 n2 m2,.bool no,.int .i64 ga,.int .i64 gb,.int .i64 gc,.int .i64 np,.int .i64 nd,.slice g9 l9 k9,.int .i64 ua,.int .i64 ub,.int .i64 uc,.slice g13 nL k13,.slice g14 og k14]:List Value).toArray) (En (p:=4) (ty:=70) rfl _ _ (w.heap.size+1) [.string nn,.slice a1 n1 m1,.slice a2 n2 m2,.bool no,.int .i64 ga,.int .i64 gb,.int .i64 gc,.int .i64 np,.int .i64 nd,.slice g9 l9 k9,.int .i64 ua,.int .i64 ub,.int .i64 uc,.slice g13 nL k13,.slice g14 og k14] _ rfl fE.out underlying70 rfl HI) rfl ⟨[.string nn,.slice a1 n1 m1,.slice a2 n2 m2,.bool no,.int .i64 ga,.int .i64 gb,.int .i64 gc,.int .i64 np,.int .i64 nd,.slice g9 l9 k9,.int .i64 ua,.int .i64 ub,.int .i64 uc,.slice g13 nL k13,.slice g14 og k14],rfl,HE3.out,HT3.out,HB3.out⟩
end Go.Proofs.YtgikfenllgldoaaGreat
