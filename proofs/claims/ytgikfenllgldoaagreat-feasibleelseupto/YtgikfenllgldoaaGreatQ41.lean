/- Functions of the program, each walked under the conditions that its theorem names. -/
import Derived.RangeFuncWrites
import Derived.Test.YtgikfenllgldoaaGreatQ37
import Derived.Test.YtgikfenllgldoaaGreatQ38
import Derived.Test.YtgikfenllgldoaaGreatQ28
import Derived.Test.YtgikfenllgldoaaGreatQ26
import Derived.Test.YtgikfenllgldoaaGreatQ39
set_option linter.unusedSimpArgs false
set_option maxRecDepth 100000
set_option maxHeartbeats 32000000
namespace Go.Proofs.YtgikfenllgldoaaGreat
open Go.Proofs.Tryz
open Go.RowKit Go.Maps
theorem TR {l:List Nat} {k:Nat} (h:k<l.length):(jT l).getD k default=((l.getD k default:Nat):Int):=by
 unfold jT
 rw [List.getD_eq_getElem?_getD,List.getElem?_map,List.getD_eq_getElem?_getD,List.getElem?_eq_getElem h]
 rfl
theorem FL (lt:Nat->Nat->Bool) (l:List Nat) {k:Nat} (h:1<=k):minT lt l k=if lt (l.getD k default) (minT lt l (k - 1))=true then l.getD k default else minT lt l (k - 1):=by
 obtain ⟨m,rfl⟩:∃ m,k=m+1:=⟨k - 1,by omega⟩
 rfl
theorem zEB (a:Option Addr) (n cap:Nat) (A:Where) (l:List Nat) (va:Option Addr) (vn vc bp:Nat) (A':Where) (L:List aD) (w:World) (hl:Hid (ag aC 1 8 A w a n cap (jT l))) (hL:Hid (ag ai 5 bp A' w va vn vc L)) (hin:Hid (∀ x∈l,x<vn)) (h0:0<n) :
  Calls prog 177 #[.slice a n cap,.func (.func 144) #[.slice va vn vc] #[]] w fun e w'=>e=.returned (.int .i64 ((minT (fV L) l (n - 1):Nat):Int))/\Below w.heap.size w w':=by
 have hnl:Hid (l.length=n):=by have:=hl.out.1;rw [List.length_map] at this;exact this
 have hlen:=hl.out.len (by decide)
 have HC:Hid (∀ u,Below w.heap.size w u->∀ i j,i∈l->j∈l->Calls prog 144 #[.slice va vn vc,.int .i64 (i:Int),.int .i64 (j:Int)] u fun e w'=>e=.returned (.int .i64 (ry (L.getD i default) (L.getD j default)))/\Below u.heap.size u w'):=fun u hb i j hi hj=>zDw va vn vc bp A' L i j u (hL.out.on ai.ae hb) (hin.out i hi) (hin.out j hj)
 have HU:Hid (∀ u,Below w.heap.size w u->ag aC 1 8 A u a n cap (jT l)):=fun u hb=>hl.out.on aC.ae hb
 have HM:Hid (∀ k,k<n->l.getD k default∈l/\minT (fV L) l k∈l):=fun k hk=>⟨Bh (by rw [hnl.out];exact hk),PV (by rw [hnl.out];exact hk)⟩
 have HA:Hid (∀ k,k<n->(jT l).getD k default=((l.getD k default:Nat):Int)):=fun k hk=>TR (by rw [hnl.out];exact hk)
 obtain ⟨B,off,rfl,hB,_,ys,hr,hv⟩:=hl.out.get h0
 obtain rfl:ys=[.int .i64 ((jT l).getD 0 default)]:=hr
 have d0:=hv 0 _ rfl
 rw [HA.out 0 h0,Nat.mul_one,Nat.add_zero] at d0
 have h0z:¬ ((n:Int)<1):=by omega
 have h0y:(0:Int)<(n:Int):=by omega
 have HI:Hid (minT (fV L) l (1 - 1)=l.getD 0 default):=rfl
 clear hl hL hin hv hB
 generalize l.getD 0 default=z0 at d0 HI
 have eg:=enters_of func144 (by kernel_rfl) rfl
 go_enter func177,ntmps177
 go_wp2_with fail
 clear d0
 go_loopw [5,6] (fun m i wr=>∃ k:Nat,1<=k/\k<=n/\i=.int .i64 k/\m=.int .i64 ((minT (fV L) l (k - 1):Nat):Int)/\Hid (Below w.heap.size w wr)) (fun _ i _=>n - (intOf i).toNat)
 case atStart=>exact ⟨1,Nat.le_refl _,h0,rfl,by rw [HI.out],Below.refl _ _⟩
 case round =>
  obtain ⟨k,hk1,hk,rfl,rfl,hbw⟩:=hrel
  by_cases hlt:k<n
  ·have hltz:(k:Int)<(n:Int):=by omega
   obtain ⟨B',off',e',hB,_,ys,hr,hv⟩:=(HU.out wr hbw.out).get hlt
   obtain ⟨rfl,rfl⟩:B=B'/\off=off':=by simpa using e'
   obtain rfl:ys=[.int .i64 ((jT l).getD k default)]:=hr
   have d0:=hv 0 _ rfl
   rw [HA.out k hlt,Nat.mul_one,Nat.add_zero] at d0
   have hC:=HC.out wr hbw.out _ _ (HM.out k hlt).1 (HM.out (k - 1) (by omega)).2
   have HS:Hid (minT (fV L) l (k+1 - 1)=if iI (L.getD (l.getD k default) default) (L.getD (minT (fV L) l (k - 1)) default)=true then l.getD k default else minT (fV L) l (k - 1)):=FL (fV L) l hk1
   have hcl:=GK (L.getD (l.getD k default) default) (L.getD (minT (fV L) l (k - 1)) default)
   rw [Hid,<- hcl] at HS
   have HS2:Hid (minT (fV L) l (k+1 - 1)=if decide (ry (L.getD (l.getD k default) default) (L.getD (minT (fV L) l (k - 1)) default)<0)=true then l.getD k default else minT (fV L) l (k - 1)):=HS
   clear HS hcl hv e'
   generalize ry (L.getD (l.getD k default) default) (L.getD (minT (fV L) l (k - 1)) default)=c at hC HS2
   generalize l.getD k default=x at d0 hC HS2
   generalize minT (fV L) l (k - 1)=y at hC HS2
   go_wp2_with fail
   refine hC.mono ?_
   rintro e w6 ⟨rfl,hb6⟩
   have vW:Hid (Below w.heap.size w w6):=ah hbw.out hb6
   have d1:=(hb6.cell (p:=⟨B,off+k,none⟩) hB).trans d0
   clear hC hb6 d0 hB
   by_cases hcz:c<0
   ·have HN:Hid (minT (fV L) l (k+1 - 1)=x):=by have:=HS2.out;rwa [if_pos (by simpa using hcz)] at this
    clear HS2
    go_wp2_with fail
    go_roundw
    case rel=>exact ⟨k+1,by omega,by omega,by go_num,by rw [HN.out],vW⟩
    case measure=>simp [intOf];omega
   ·have HN:Hid (minT (fV L) l (k+1 - 1)=y):=by have:=HS2.out;rwa [if_neg (by simpa using hcz)] at this
    clear HS2
    go_wp2_with fail
    go_roundw
    case rel=>exact ⟨k+1,by omega,by omega,by go_num,by rw [HN.out],vW⟩
    case measure=>simp [intOf];omega
  ·have hkn:k=n:=by omega
   have HN:Hid (minT (fV L) l (k - 1)=minT (fV L) l (n - 1)):=by rw [Hid,hkn]
   clear hkn
   generalize minT (fV L) l (k - 1)=y at HN
   go_wp2_with fail
   go_ret
   exact ⟨by rw [<- HN.out];rfl,hbw.out⟩
theorem zDO (a:Option Addr) (n cap:Nat) (A:Where) (l:List Nat) (va:Option Addr) (vn vc bp:Nat) (A':Where) (L:List aD) (w:World) (hl:Hid (ag aC 1 8 A w a n cap (jT l))) (hL:Hid (ag ai 5 bp A' w va vn vc L)) (hin:Hid (∀ x∈l,x<vn)) :
  Calls prog 142 #[.slice a n cap,.func (.func 144) #[.slice va vn vc] #[]] w fun e w'=>e=.returned (.tuple #[.int .i64 (if n=0 then 0 else ((minT (fV L) l (n - 1):Nat):Int)),.bool (!decide (n=0))])/\Below w.heap.size w w':=by
 have hlen:=hl.out.len (by decide)
 by_cases h0:n=0
 ·subst h0
  clear hl hL hin
  go_enter func142,ntmps142
  go_wp2_with fail
  go_ret2
  exact ⟨rfl,Below.refl _ _⟩
 ·have hC:=zEB a n cap A l va vn vc bp A' L w hl hL hin (by omega)
  have h0z:¬ ((n:Int)=0):=by omega
  clear hl hL hin
  rw [if_neg h0]
  generalize minT (fV L) l (n - 1)=y at hC
  have hd:decide (n=0)=false:=by simpa using h0
  rw [hd]
  go_enter func142,ntmps142
  go_wp2_with fail
  refine hC.mono ?_
  rintro e w6 ⟨rfl,hb6⟩
  clear hC
  go_wp2_with fail
  go_ret2
  exact ⟨rfl,hb6⟩
theorem zCx (a:Option Addr) (n cap:Nat) (A:Where) (l:List Nat) (va:Option Addr) (vn vc bp:Nat) (A':Where) (L:List aD) (w:World) (hl:Hid (ag aC 1 8 A w a n cap (jT l))) (hL:Hid (ag ai 5 bp A' w va vn vc L)) (hin:Hid (∀ x∈l,x<vn)) (z:Int) (b:Bool) (hz:Hid (z=if n=0 then 0 else ((minT (fV L) l (n - 1):Nat):Int))) (hb:Hid (b=!decide (n=0))) :
  Calls prog 142 #[.slice a n cap,.func (.func 144) #[.slice va vn vc] #[]] w fun e w'=>e=.returned (.tuple #[.int .i64 z,.bool b])/\Below w.heap.size w w':=by
 rw [hz.out,hb.out]
 exact zDO a n cap A l va vn vc bp A' L w hl hL hin
abbrev Z6:List Value:=[.slice none 0 0,.slice none 0 0,.slice none 0 0,.slice none 0 0,.slice none 0 0,.slice none 0 0]
def xn (w:World) (n2 nV:Nat) (g0 g1 g2 g3 g4 g5:Value) (X Y mc mv:Nat):Prop :=
 (∀ g∈[g0,g1,g2,g3,g4,g5],∀ b,g.ownBlock=some b->w.heap.size+4<=b/\b<n2)/\(∀ b,g2.ownBlock=some b->g0.ownBlock≠some b/\g1.ownBlock≠some b/\g3.ownBlock≠some b/\g4.ownBlock≠some b/\g5.ownBlock≠some b)/\(∀ b,g3.ownBlock=some b->g0.ownBlock≠some b/\g1.ownBlock≠some b/\g2.ownBlock≠some b/\g4.ownBlock≠some b/\g5.ownBlock≠some b)/\w.heap.size+4<=n2/\(n2<=X/\X<nV)/\(n2<=Y/\Y<nV)/\(n2<=mc/\mc<nV)/\(n2<=mv/\mv<nV)
def nQ (m:Where) (w:World) (g0 g1 g2 g3 g4 g5:Value) (x:aP) (X Y mc mv:Nat) (fd:Nat) (st:VC) (W:World):Prop :=
 Iu m w W g2 g3 st/\(Row aj 16 m w W 41 g0 x.1/\Row av 9 m w W 56 g1 x.2.1/\Row aH 2 m w W 180 g4 (tN x)/\Row aI 3 m w W 62 g5 x.2.2.2.2.2) /\
 (aV W mc (qh st.2)/\aV W mv (jK st.1))/\(af W X [g3,.map (some mc)]/\af W Y [g2,.map (some mv)])/\(af W w.heap.size [g0,g1,g2,g3,g4,g5]/\af W (w.heap.size+1) [.func (.func fd) #[] #[]])/\Below w.heap.size w W
def vX (m:Where) (w u:World) (g0 g1 g2 g3 g4 g5:Value) (x:aP) (st:VC):Prop :=
 Iu m w u g2 g3 st/\(Row aj 16 m w u 41 g0 x.1/\Row av 9 m w u 56 g1 x.2.1/\Row aH 2 m w u 180 g4 (tN x)/\Row aI 3 m w u 62 g5 x.2.2.2.2.2)/\Below w.heap.size w u
def uf (w W:World):Prop:=af W (w.heap.size+1+1) Z6/\af W (w.heap.size+1+1+1) [.int .i64 0]
theorem af.cells {u:World} {D:Nat} {c:Value} {cs:List Value} (h:af u D (c :: cs)) {o:Obj} (ho:u.heap[D]?=some o):o.isCells=true:=by
 have h1:=(h.2 0 c rfl).1
 cases o <;> first | rfl | (exfalso;simp [World.cell?,ho] at h1)
section
variable {m:Where} {w W W':World} {n2 nV:Nat} {g0 g1 g2 g3 g4 g5:Value} {x:aP} {X Y mc mv fd:Nat} {st:VC}
theorem xn.lo (F:xn w n2 nV g0 g1 g2 g3 g4 g5 X Y mc mv) (hm:∀ b,m b->b<w.heap.size) {g:Value} (hg:g∈[g0,g1,g2,g3,g4,g5]) {b:Nat} (hb:m b\/g.ownBlock=some b):b<nV:=by
 have h4:=F.2.2.2.1;have hX:=F.2.2.2.2.1
 rcases hb with hb | hb
 ·have:=hm b hb;omega
 ·have:=F.1 g hg b hb;omega
theorem nQ.kept (F:xn w n2 nV g0 g1 g2 g3 g4 g5 X Y mc mv) (h:nQ m w g0 g1 g2 g3 g4 g5 x X Y mc mv fd st W) (hb:Below w.heap.size w W') (hk:Kept (fun b=>b<nV) W W'):nQ m w g0 g1 g2 g3 g4 g5 x X Y mc mv fd st W':=by
 obtain ⟨⟨hV,hC,hne,hm⟩,⟨r0,r1,r4,r5⟩,⟨m1,m2⟩,⟨z1,z2⟩,⟨z3,z4⟩,hB⟩:=h
 have h4:=F.2.2.2.1
 have hX:=F.2.2.2.2.1
 exact ⟨⟨hV.bO ai.ae hb (hk.weak (fun b h=>F.lo hm (by simp) h)),hC.bO aA.ae hb (hk.weak (fun b h=>F.lo hm (by simp) h)),hne,hm⟩,
  ⟨r0.bO aj.ae hb (hk.weak (fun b h=>F.lo hm (by simp) h)),r1.bO av.ae hb (hk.weak (fun b h=>F.lo hm (by simp) h)),r4.bO aH.ae hb (hk.weak (fun b h=>F.lo hm (by simp) h)),r5.bO aI.ae hb (hk.weak (fun b h=>F.lo hm (by simp) h))⟩,
  ⟨m1.kept hk F.2.2.2.2.2.2.1.2,m2.kept hk F.2.2.2.2.2.2.2.2⟩,⟨z1.kept hk hX.2,z2.kept hk F.2.2.2.2.2.1.2⟩,⟨z3.kept hk (by omega),z4.kept hk (by omega)⟩,hb⟩
theorem nQ.on (F:xn w n2 nV g0 g1 g2 g3 g4 g5 X Y mc mv) (h:nQ m w g0 g1 g2 g3 g4 g5 x X Y mc mv fd st W) (hb:Below W.heap.size W W'):nQ m w g0 g1 g2 g3 g4 g5 x X Y mc mv fd st W' :=
 h.kept F (ah h.2.2.2.2.2 hb) (Kept.below hb)
theorem uf.kept (F:xn w n2 nV g0 g1 g2 g3 g4 g5 X Y mc mv) (h:uf w W) (hk:Kept (fun b=>b<nV) W W'):uf w W':=by
 have h4:=F.2.2.2.1
 have hX:=F.2.2.2.2.1
 exact ⟨h.1.kept hk (by omega),h.2.kept hk (by omega)⟩
theorem uf.on (h:uf w W) (hb:Below W.heap.size W W'):uf w W':=⟨h.1.on hb,h.2.on hb⟩
theorem nQ.step (F:xn w n2 nV g0 g1 g2 g3 g4 g5 X Y mc mv) (h:nQ m w g0 g1 g2 g3 g4 g5 x X Y mc mv fd st W) {c v:Nat} (hc:c<st.2.length) (hv:v<st.1.length) :
  ∃ Bc sS Bv oK cs vs A A',g3=.slice (some ⟨Bc,0,none⟩) st.2.length sS/\g2=.slice (some ⟨Bv,0,none⟩) st.1.length oK /\
   aA A W cs (st.2.getD c default)/\ai A' W vs (st.1.getD v default)/\W.rangeAt Bc (c*4) cs/\W.rangeAt Bv (v*5) vs/\Bc<W.heap.size/\Bv<W.heap.size/\Bc≠Bv /\
   W.frozen? ⟨Bc,c*4+3,none⟩=false/\W.frozen? ⟨Bv,v*5+4,none⟩=false/\w.heap.size+4<=Bc/\Bc<nV/\w.heap.size+4<=Bv/\Bv<nV /\
   ∀ z s s',Below W.heap.size W z->s.size<=140737488355328->s'.size<=140737488355328 ->
    nQ m w g0 g1 g2 g3 g4 g5 x X Y mc mv fd (st.1.set v (qG (st.1.getD v default) s'),st.2.set c (qF (st.2.getD c default) s)) ((z.setCell ⟨Bc,c*4+3,none⟩ (.string s)).setCell ⟨Bv,v*5+4,none⟩ (.string s')) /\
    Kept (fun b=>b≠Bc/\b≠Bv) z ((z.setCell ⟨Bc,c*4+3,none⟩ (.string s)).setCell ⟨Bv,v*5+4,none⟩ (.string s')):=by
 have hm:=h.1.2.2.2
 have hz2:∀ z,Below W.heap.size W z->nQ m w g0 g1 g2 g3 g4 g5 x X Y mc mv fd st z:=fun z hz=>h.on F hz
 obtain ⟨hD,_,_,_,_,hB⟩:=h
 obtain ⟨Bc,sS,Bv,oK,cs,vs,A,A',rfl,rfl,q1,q2,q3,q4,q5,q6,q7,q8,q9,BK,Fg,hS⟩:=hD.step hc hv
 have h4:=F.2.2.2.1
 have hX:=F.2.2.2.2.1
 have hY:=F.2.2.2.2.2.1
 have hmc:=F.2.2.2.2.2.2.1
 have hmv:=F.2.2.2.2.2.2.2
 have b3:=F.1 _ (by simp:Value.slice (some ⟨Bc,0,none⟩) st.2.length sS∈_) Bc rfl
 have b2:=F.1 _ (by simp:Value.slice (some ⟨Bv,0,none⟩) st.1.length oK∈_) Bv rfl
 have e2:=F.2.1 Bv rfl
 have e3:=F.2.2.1 Bc rfl
 refine ⟨Bc,sS,Bv,oK,cs,vs,A,A',rfl,rfl,q1,q2,q3,q4,q5,q6,q7,q8,q9,b3.1,by omega,b2.1,by omega,fun z s s' hz hs hs'=>?_⟩
 obtain ⟨t1,t2,t3⟩:=hS z s s' hz hs hs'
 obtain ⟨_,⟨r0,r1,r4,r5⟩,⟨m1,m2⟩,⟨z1,z2⟩,⟨z3,z4⟩,_⟩:=hz2 z hz
 refine ⟨⟨t1,⟨r0.bO aj.ae t3 (t2.weak (fun b h=>?_)),r1.bO av.ae t3 (t2.weak (fun b h=>?_)),r4.bO aH.ae t3 (t2.weak (fun b h=>?_)),r5.bO aI.ae t3 (t2.weak (fun b h=>?_))⟩,⟨?_,?_⟩,⟨z1.kept t2 ⟨by omega,by omega⟩,z2.kept t2 ⟨by omega,by omega⟩⟩,⟨z3.kept t2 ⟨by omega,by omega⟩,z4.kept t2 ⟨by omega,by omega⟩⟩,t3⟩,t2⟩
 ·exact ⟨fun e=>by subst e;exact h.elim (fun h=>by have:=hm b h;omega) e3.1,fun e=>by subst e;exact h.elim (fun h=>by have:=hm b h;omega) e2.1⟩
 ·exact ⟨fun e=>by subst e;exact h.elim (fun h=>by have:=hm b h;omega) e3.2.1,fun e=>by subst e;exact h.elim (fun h=>by have:=hm b h;omega) e2.2.1⟩
 ·exact ⟨fun e=>by subst e;exact h.elim (fun h=>by have:=hm b h;omega) e3.2.2.2.1,fun e=>by subst e;exact h.elim (fun h=>by have:=hm b h;omega) e2.2.2.2.1⟩
 ·exact ⟨fun e=>by subst e;exact h.elim (fun h=>by have:=hm b h;omega) e3.2.2.2.2,fun e=>by subst e;exact h.elim (fun h=>by have:=hm b h;omega) e2.2.2.2.2⟩
 ·rw [show qh (st.2.set c (qF (st.2.getD c default) s))=qh st.2 from XJ Prod.fst _ _ _ rfl hc]
  exact m1.kept t2 ⟨by omega,by omega⟩
 ·rw [show jK (st.1.set v (qG (st.1.getD v default) s'))=jK st.1 from XJ Prod.fst _ _ _ rfl hv]
  exact m2.kept t2 ⟨by omega,by omega⟩
theorem nQ.toS (F:xn w n2 nV g0 g1 g2 g3 g4 g5 X Y mc mv) (h:nQ m w g0 g1 g2 g3 g4 g5 x X Y mc mv fd st W) (hb:Below w.heap.size w W') (hk:Kept (fun b=>(b≠w.heap.size+1+1/\b≠w.heap.size+1+1+1)/\b<nV) W W'):vX m w W' g0 g1 g2 g3 g4 g5 x st:=by
 obtain ⟨⟨hV,hC,hne,hm⟩,⟨r0,r1,r4,r5⟩,_⟩:=h
 have lo:∀ g∈[g0,g1,g2,g3,g4,g5],∀ b,(m b\/g.ownBlock=some b)->(b≠w.heap.size+1+1/\b≠w.heap.size+1+1+1)/\b<nV:=by
  intro g hg b hb
  refine ⟨?_,F.lo hm hg hb⟩
  rcases hb with hb | hb
  ·have:=hm b hb;omega
  ·have:=F.1 g hg b hb;omega
 exact ⟨⟨hV.bO ai.ae hb (hk.weak (lo _ (by simp))),hC.bO aA.ae hb (hk.weak (lo _ (by simp))),hne,hm⟩,
  ⟨r0.bO aj.ae hb (hk.weak (lo _ (by simp))),r1.bO av.ae hb (hk.weak (lo _ (by simp))),r4.bO aH.ae hb (hk.weak (lo _ (by simp))),r5.bO aI.ae hb (hk.weak (lo _ (by simp)))⟩,hb⟩
theorem Y8 {Bc Bv:Nat} (hb:Kept (fun b=>b≠Bc/\b≠Bv) W W') (h1:Bc<nV) (h2:Bv<nV):KeepsFrom nV W W' :=
 ⟨hb.1,fun k _ hk ho _=>(hb.2 k ⟨by omega,by omega⟩ (Array.getElem?_eq_some_iff.1 ho).1).trans ho⟩
theorem Qu (hb:Below W.heap.size W W'):KeepsFrom nV W W' :=
 ⟨hb.size,fun k _ _ ho _=>(hb.block k (Array.getElem?_eq_some_iff.1 ho).1).trans ho⟩
end
def aR (x:aP) (nm:ByteArray):aP:=(aS (x.1.filter (fun q:aB=>!hasB ay [nm] q.1)),aZ x.2.1,x.2.2)
theorem Qc (L:List aB):(aS L).length<=L.length:=by have:=Ql L L.length (Nat.le_refl _);rwa [List.take_length] at this
theorem ED (L:List aX):(aZ L).length<=L.length:=by have:=Qq L L.length (Nat.le_refl _);rwa [List.take_length] at this
theorem IW {A:Where} {u:World} {B:Nat} {s:ByteArray} (hb:af u B [.string s]) (hs:s.size<=140737488355328) (hA:A B):ag au 1 16 A u (some ⟨B,0,none⟩) 1 1 [s]:=by
 refine ⟨rfl,Nat.le_refl _,(fun e=>by cases e),by omega,fun _=>⟨B,0,rfl,hb.1,hA,fun i hi=>?_⟩⟩
 obtain rfl:i=0:=by omega
 exact ⟨_,⟨rfl,hs⟩,fun j v hj=>by have:=(hb.2 j v hj).1;simpa using this⟩
theorem zEi (D:Where) (cs:List Value) (x:aP) (nm:ByteArray) (w:World) (hnm:nm.size<=140737488355328) (h:Hid (aK D w cs x)) :
  Calls prog 28 #[.agg cs.toArray,.string nm] w fun e w'=>∃ ds:List Value,e=.returned (.agg ds.toArray)/\aK (fun b=>(D b/\b<w.heap.size)\/w.heap.size+3<=b) w' ds (aR x nm)/\Below w.heap.size w w':=by
 obtain ⟨⟨a0,n0,m0⟩,⟨a1,n1,m1⟩,⟨a2,n2,m2⟩,⟨a3,n3,m3⟩,⟨a4,n4,m4⟩,⟨a5,n5,m5⟩,rfl,s0,s1,s2,s3,s4,s5⟩:=h.out.out
 simp only at s0 s1 s2 s3 s4 s5
 obtain ⟨W1,hW1⟩:∃ W,W=(w.alloc (.cells #[.slice a0 n0 m0,.slice a1 n1 m1,.slice a2 n2 m2,.slice a3 n3 m3,.slice a4 n4 m4,.slice a5 n5 m5] 29)).alloc (.cells #[.slice none 0 0,.slice none 0 0,.slice none 0 0,.slice none 0 0,.slice none 0 0,.slice none 0 0] 29):=⟨_,rfl⟩
 have B1:Below w.heap.size w W1:=by rw [hW1];go_grown
 have hz1:W1.heap.size=w.heap.size+1+1:=by rw [hW1];simp
 have q1:af W1 w.heap.size [.slice a0 n0 m0,.slice a1 n1 m1,.slice a2 n2 m2,.slice a3 n3 m3,.slice a4 n4 m4,.slice a5 n5 m5]:=by rw [hW1];exact (af.new w 29 _).on ((Below.refl _ _).alloc (Nat.le_refl _) _)
 have q2:af W1 (w.heap.size+1) [.slice none 0 0,.slice none 0 0,.slice none 0 0,.slice none 0 0,.slice none 0 0,.slice none 0 0]:=by rw [hW1];have:=af.new (w.alloc (.cells #[.slice a0 n0 m0,.slice a1 n1 m1,.slice a2 n2 m2,.slice a3 n3 m3,.slice a4 n4 m4,.slice a5 n5 m5] 29)) 29 [.slice none 0 0,.slice none 0 0,.slice none 0 0,.slice none 0 0,.slice none 0 0,.slice none 0 0];simpa using this
 obtain ⟨W2,hW2⟩:∃ W,W=W1.alloc (.cells #[.string nm] 9):=⟨_,rfl⟩
 have B2:Below W1.heap.size W1 W2:=by rw [hW2];exact (Below.refl _ _).alloc (Nat.le_refl _) _
 have qn:af W2 W1.heap.size [.string nm]:=by rw [hW2];exact af.new W1 _ _
 have f0:=(q1.2 0 _ rfl).1
 have hl0:Hid (x.1.length=n0/\n0*296<=140737488351232):=⟨s0.1,s0.2.2.2.1⟩
 have hl1:Hid (x.2.1.length=n1/\n1*112<=140737488351232):=⟨s1.1,s1.2.2.2.1⟩
 have HP:Hid (ag aj 16 296 (fun b=>D b/\b<w.heap.size) W2 a0 n0 m0 x.1):=(s0.weak aj.ae (fun b hb hd=>⟨hd,hb⟩)).on aj.ae (ah B1 B2)
 have HN:Hid (∀ u,Kept (fun b=>b<w.heap.size) w u->ag av 9 112 (fun b=>D b/\b<w.heap.size) u a1 n1 m1 x.2.1):=fun u hu=>(s1.weak av.ae (fun b hb hd=>⟨hd,hb⟩)).kept av.ae (hu.weak (fun b h=>h.2))
 have HO:Hid (∀ u,Kept (fun b=>b<w.heap.size) w u->ag ai 5 80 (fun b=>D b/\b<w.heap.size) u a2 n2 m2 x.2.2.1/\ag aA 4 56 (fun b=>D b/\b<w.heap.size) u a3 n3 m3 x.2.2.2.1/\ag aH 2 24 (fun b=>D b/\b<w.heap.size) u a4 n4 m4 x.2.2.2.2.1/\ag aI 3 48 (fun b=>D b/\b<w.heap.size) u a5 n5 m5 x.2.2.2.2.2):=fun u hu=>⟨(s2.weak ai.ae (fun b hb hd=>⟨hd,hb⟩)).kept ai.ae (hu.weak (fun b h=>h.2)),(s3.weak aA.ae (fun b hb hd=>⟨hd,hb⟩)).kept aA.ae (hu.weak (fun b h=>h.2)),(s4.weak aH.ae (fun b hb hd=>⟨hd,hb⟩)).kept aH.ae (hu.weak (fun b h=>h.2)),(s5.weak aI.ae (fun b hb hd=>⟨hd,hb⟩)).kept aI.ae (hu.weak (fun b h=>h.2))⟩
 have HQ:Hid (af W2 w.heap.size [.slice a0 n0 m0,.slice a1 n1 m1,.slice a2 n2 m2,.slice a3 n3 m3,.slice a4 n4 m4,.slice a5 n5 m5]/\af W2 (w.heap.size+1) [.slice none 0 0,.slice none 0 0,.slice none 0 0,.slice none 0 0,.slice none 0 0,.slice none 0 0]/\Below w.heap.size w W2):=⟨q1.on B2,q2.on B2,ah B1 B2⟩
 have hC:=zES (some ⟨W1.heap.size,0,none⟩) 1 1 (fun _=>True) [nm] a0 n0 m0 _ x.1 W2 (IW qn hnm trivial) HP
 have hz2:W2.heap.size=w.heap.size+1+1+1:=by rw [hW2];simp [hz1]
 have hlt1:w.heap.size<W1.heap.size:=q1.1
 have HW2:Hid (W2=W1.alloc (.cells #[.string nm] 9)):=hW2
 have HZ2:Hid (W2.heap.size=w.heap.size+1+1+1):=hz2
 clear h s0 s1 s2 s3 s4 s5 B1 B2 q1 q2 qn hW2 hz1 hz2
 go_enter func28,ntmps28
 go_upto_region 1 with fail
 rw [<- hW1]
 clear hW1
 go_wp2_with fail
 rw [<- HW2.out]
 refine hC.mono ?_
 rintro e u1 ⟨v,rfl,hr⟩
 clear hC f0 HW2
 have d1:Below W2.heap.size W2 u1:=hr.below
 obtain ⟨ra,rc,rfl,sr⟩:=hr.sl (bytes:=296) aj.ae (by have h1:=hl0.out;have h2:=List.length_filter_le (fun q:aB=>!hasB ay [nm] q.1) x.1;omega)
 have hle:(x.1.filter (fun q:aB=>!hasB ay [nm] q.1)).length<=n0:=by have h1:=hl0.out;have h2:=List.length_filter_le (fun q:aB=>!hasB ay [nm] q.1) x.1;omega
 have hC:=zDz ra _ rc _ _ u1 sr
 have HX:Hid (aR x nm=(aS (x.1.filter (fun q:aB=>!hasB ay [nm] q.1)),aZ x.2.1,x.2.2)):=rfl
 generalize x.1.filter (fun q:aB=>!hasB ay [nm] q.1)=PF at hC hle HX sr hr
 clear sr hr
 have Gq:Hid ((aS PF).length<=n0):=Nat.le_trans (Qc PF) hle
 generalize PF.length=pl at hC |-
 clear hle
 go_wp2_with fail
 refine hC.mono ?_
 rintro e u2 ⟨v,rfl,hr⟩
 clear hC
 have d2:Below u1.heap.size u1 u2:=hr.below
 have lh:Below W2.heap.size W2 u2:=ah d1 d2
 obtain ⟨g1,g3,rfl,sg⟩:=hr.sl (bytes:=296) aj.ae (by have h1:=hl0.out;have h2:=Gq.out;omega)
 have hs1:=d1.size
 have hz2:=HZ2.out
 have HG:Hid (ag aj 16 296 (fun b=>(D b/\b<w.heap.size)\/w.heap.size+3<=b) u2 g1 (aS PF).length g3 (aS PF)):=sg.weak aj.ae (fun b _ hb=>by rcases hb with ⟨⟨hb,_⟩ | hb,_⟩ | hb <;> first | exact .inl hb | (refine .inr ?_;have hb':=hb;unfold az at hb';omega))
 clear hr sg Gq
 generalize (aS PF).length=g2 at HG |-
 have qS:=HQ.out.1.on lh
 have qZ:=HQ.out.2.1.on lh
 obtain ⟨X1,hX1⟩:∃ X,X=u2.setCell ⟨w.heap.size,0,none⟩ (.slice g1 g2 g3):=⟨_,rfl⟩
 have k1:Kept (fun b=>b≠w.heap.size) u2 X1:=by rw [hX1];exact Kept.set (p:=⟨w.heap.size,0,none⟩) (fun h=>h rfl) _
 have Nb:Below w.heap.size w X1:=by rw [hX1];exact (ah HQ.out.2.2 lh).setCell (Nat.le_refl _) _
 have zm:af X1 w.heap.size [.slice g1 g2 g3,.slice a1 n1 m1,.slice a2 n2 m2,.slice a3 n3 m3,.slice a4 n4 m4,.slice a5 n5 m5]:=by rw [hX1];exact qS.set 0 (.slice g1 g2 g3) (by simp)
 have Zu:=qZ.kept k1 (by omega)
 have HG1:Hid (ag aj 16 296 (fun b=>(D b/\b<w.heap.size)\/w.heap.size+3<=b) X1 g1 g2 g3 (aS PF)):=HG.out.kept aj.ae (k1.weak (fun b hb=>by rcases hb with ⟨_,hb⟩ | hb <;> omega))
 have y0:=qS.2 0 _ rfl
 have JD:=qS.1
 have z1:=(zm.2 1 _ rfl).1
 have aa9:=zm.1
 have hC:=zD7 a1 n1 m1 _ x.2.1 X1 (HN.out X1 (Kept.weak (A:=fun b=>b<w.heap.size) ⟨Nb.size,fun b hb _=>Nb.block b hb⟩ (fun b hb=>hb)))
 have uZ:Hid (X1=u2.setCell ⟨w.heap.size,0,none⟩ (.slice g1 g2 g3)):=hX1
 have N9:Hid (af X1 w.heap.size [.slice g1 g2 g3,.slice a1 n1 m1,.slice a2 n2 m2,.slice a3 n3 m3,.slice a4 n4 m4,.slice a5 n5 m5]/\af X1 (w.heap.size+1) [.slice none 0 0,.slice none 0 0,.slice none 0 0,.slice none 0 0,.slice none 0 0,.slice none 0 0]/\Below w.heap.size w X1):=⟨zm,Zu,Nb⟩
 have acZ:w.heap.size+3<=X1.heap.size:=by have:=k1.1;have:=lh.size;omega
 clear hX1 k1 Nb zm Zu qS qZ HG d1 d2 lh HQ hs1 HP HN hz2 HZ2
 go_upto_region 2 with fail
 rw [<- uZ.out]
 clear uZ y0 JD
 go_wp2_with fail
 refine hC.mono ?_
 rintro e u3 ⟨v,rfl,hr⟩
 clear hC z1
 have d3:Below X1.heap.size X1 u3:=hr.below
 obtain ⟨h1,h3,rfl,sn⟩:=hr.sl (bytes:=112) av.ae (by have e1:=hl1.out;have e2:=ED x.2.1;omega)
 have HH:Hid (ag av 9 112 (fun b=>(D b/\b<w.heap.size)\/w.heap.size+3<=b) u3 h1 (aZ x.2.1).length h3 (aZ x.2.1)):=sn.weak av.ae (fun b _ hb=>by rcases hb with ⟨hb,_⟩ | hb <;> first | exact .inl hb | (refine .inr ?_;have hb':=hb;unfold az at hb';omega))
 clear hr sn
 generalize (aZ x.2.1).length=h2 at HH |-
 have qS:=N9.out.1.on d3
 have qZ:=N9.out.2.1.on d3
 obtain ⟨X2,hX2⟩:∃ X,X=u3.setCell ⟨w.heap.size,1,none⟩ (.slice h1 h2 h3):=⟨_,rfl⟩
 have k2:Kept (fun b=>b≠w.heap.size) u3 X2:=by rw [hX2];exact Kept.set (p:=⟨w.heap.size,1,none⟩) (fun h=>h rfl) _
 have vM:af X2 w.heap.size [.slice g1 g2 g3,.slice h1 h2 h3,.slice a2 n2 m2,.slice a3 n3 m3,.slice a4 n4 m4,.slice a5 n5 m5]:=by rw [hX2];exact qS.set 1 (.slice h1 h2 h3) (by simp)
 have bX2:Below w.heap.size w X2:=by rw [hX2];exact (ah N9.out.2.2 d3).setCell (Nat.le_refl _) _
 have xV:=qZ.kept k2 (by omega)
 have HG2:Hid (ag aj 16 296 (fun b=>(D b/\b<w.heap.size)\/w.heap.size+3<=b) X2 g1 g2 g3 (aS PF)):=(HG1.out.on aj.ae d3).kept aj.ae (k2.weak (fun b hb=>by rcases hb with ⟨_,hb⟩ | hb <;> omega))
 have HH2:Hid (ag av 9 112 (fun b=>(D b/\b<w.heap.size)\/w.heap.size+3<=b) X2 h1 h2 h3 (aZ x.2.1)):=HH.out.kept av.ae (k2.weak (fun b hb=>by rcases hb with ⟨_,hb⟩ | hb <;> omega))
 have y1:=qS.2 1 _ rfl
 have JD:=qS.1
 have HX2:Hid (X2=u3.setCell ⟨w.heap.size,1,none⟩ (.slice h1 h2 h3)):=hX2
 clear hX2 k2 qS qZ HH HG1 d3 N9 aa9
 go_upto_region 3 with fail
 rw [<- HX2.out]
 clear HX2 y1 JD
 have e0:=(vM.2 0 _ rfl).1
 have e1:=(vM.2 1 _ rfl).1
 have e2:=(vM.2 2 _ rfl).1
 have e3:=(vM.2 3 _ rfl).1
 have e4:=(vM.2 4 _ rfl).1
 have e5:=(vM.2 5 _ rfl).1
 have t0':=xV.2 0 _ rfl
 have t1':=xV.2 1 _ rfl
 have t2':=xV.2 2 _ rfl
 have rG:=xV.2 3 _ rfl
 have rF:=xV.2 4 _ rfl
 have rE:=xV.2 5 _ rfl
 have hl8:=vM.1
 have Cf:=xV.1
 go_wp2_with fail
 obtain ⟨X3,zU⟩:∃ X,X=X2.setCells (w.heap.size+1) 0 [.slice g1 g2 g3,.slice h1 h2 h3,.slice a2 n2 m2,.slice a3 n3 m3,.slice a4 n4 m4,.slice a5 n5 m5]:=⟨_,rfl⟩
 have eW:((((((X2.setCell ⟨w.heap.size+1,0,none⟩ (.slice g1 g2 g3)).setCell ⟨w.heap.size+1,1,none⟩ (.slice h1 h2 h3)).setCell ⟨w.heap.size+1,2,none⟩ (.slice a2 n2 m2)).setCell ⟨w.heap.size+1,3,none⟩ (.slice a3 n3 m3)).setCell ⟨w.heap.size+1,4,none⟩ (.slice a4 n4 m4)).setCell ⟨w.heap.size+1,5,none⟩ (.slice a5 n5 m5))=X3:=zU.symm
 rw [eW]
 have k3:Kept (fun b=>b≠w.heap.size+1) X2 X3:=by rw [zU];exact dP (fun h=>h rfl)
 have Na:Below w.heap.size w X3:=by rw [zU];exact cu bX2 (by omega)
 have uw:af X3 (w.heap.size+1) [.slice g1 g2 g3,.slice h1 h2 h3,.slice a2 n2 m2,.slice a3 n3 m3,.slice a4 n4 m4,.slice a5 n5 m5]:=by rw [zU];exact dL xV rfl
 clear eW zU e0 e1 e2 e3 e4 e5 t0' t1' t2' rG rF rE
 have e0:=(uw.2 0 _ rfl).1
 have e1:=(uw.2 1 _ rfl).1
 have e2:=(uw.2 2 _ rfl).1
 have e3:=(uw.2 3 _ rfl).1
 have e4:=(uw.2 4 _ rfl).1
 have e5:=(uw.2 5 _ rfl).1
 obtain ⟨o2,o3,o4,o5⟩:=HO.out X3 ⟨Na.size,fun b hb _=>Na.block b hb⟩
 have HE:Hid (aK (fun b=>(D b/\b<w.heap.size)\/w.heap.size+3<=b) X3 [.slice g1 g2 g3,.slice h1 h2 h3,.slice a2 n2 m2,.slice a3 n3 m3,.slice a4 n4 m4,.slice a5 n5 m5] (aR x nm)/\Below w.heap.size w X3):=⟨by
  rw [HX.out]
  exact aK.mk (x:=(aS PF,aZ x.2.1,x.2.2)) (h0:=(g1,g2,g3)) (h1:=(h1,h2,h3)) (h2:=(a2,n2,m2)) (h3:=(a3,n3,m3)) (h4:=(a4,n4,m4)) (h5:=(a5,n5,m5)) (HG2.out.kept aj.ae (k3.weak (fun b hb=>by rcases hb with ⟨_,hb⟩ | hb <;> omega))) (HH2.out.kept av.ae (k3.weak (fun b hb=>by rcases hb with ⟨_,hb⟩ | hb <;> omega))) (o2.weak ai.ae (fun _ _ h=>.inl h)) (o3.weak aA.ae (fun _ _ h=>.inl h)) (o4.weak aH.ae (fun _ _ h=>.inl h)) (o5.weak aI.ae (fun _ _ h=>.inl h)),Na⟩
 clear k3 Na uw o2 o3 o4 o5 HG2 HH2 HX
 refine bodyPost_ret (v:=.agg #[.slice g1 g2 g3,.slice h1 h2 h3,.slice a2 n2 m2,.slice a3 n3 m3,.slice a4 n4 m4,.slice a5 n5 m5]) (by simp [results,Tryz.results28,go_sem,e0,e1,e2,e3,e4,e5,Result.andThen]) rfl ?_
 exact ⟨[.slice g1 g2 g3,.slice h1 h2 h3,.slice a2 n2 m2,.slice a3 n3 m3,.slice a4 n4 m4,.slice a5 n5 m5],rfl,HE.out.1,HE.out.2⟩
end Go.Proofs.YtgikfenllgldoaaGreat
