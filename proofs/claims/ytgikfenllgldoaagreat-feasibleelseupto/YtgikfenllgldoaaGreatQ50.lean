/- Functions of the program, each walked under the conditions that its theorem names. -/
import Derived.Test.YtgikfenllgldoaaGreatQ48
set_option linter.unusedSimpArgs false
set_option maxRecDepth 100000
set_option maxHeartbeats 32000000
namespace Go.Proofs.YtgikfenllgldoaaGreat
open Go.Proofs.Tryz
open Go.RowKit Go.Maps
def pq (n:Nat) (why:Nat->Int) (pk:Nat->List bH) (w:World) (e:Ending) (w':World):Prop :=
 (∃ k,k<n/\(∀ j,j<k->why j=0)/\why k≠0/\e=.returned (.tuple #[.int .i64 (why k),.slice none 0 0])/\Below w.heap.size w w') \/
 ((∀ j,j<n->why j=0)/\∃ a m c,e=.returned (.tuple #[.int .i64 0,.slice a m c])/\ag ak 2 32 (fun _=>True) w' a m c ((List.range n).flatMap pk)/\Below w.heap.size w w')
theorem Jw:(prog.info? 73).map (fun i=>(i.zero,i.size,i.bytes))=some (some (.agg #[.string ⟨#[]⟩,.string ⟨#[]⟩]),2,32):=by kernel_rfl
theorem zHj {A A':Where} {u:World} {a:Option Addr} {m c:Nat} {N:List bH} (h:ag ak 2 32 A u a m c N):Src ak 2 A' u a m N:=by
 obtain ⟨hm,hN⟩:=h.src ak.ae
 refine ⟨hm,hN.imp id ?_⟩
 rintro ⟨ad,news,rfl,hc,hx,h1⟩
 exact ⟨ad,news,rfl,⟨hc.1,fun i hi=>by obtain ⟨cs,hr,hv⟩:=hc.2 i hi;exact ⟨cs,hr,hv⟩⟩,hx,h1⟩
theorem YP (pk:Nat->List bH) (k:Nat):(List.range (k+1)).flatMap pk=(List.range k).flatMap pk++pk k:=by rw [List.range_succ,List.flatMap_append];simp
theorem Zd (pk:Nat->List bH):∀ {k n:Nat},k<=n->((List.range k).flatMap pk).length<=((List.range n).flatMap pk).length
 | k,0,h=>by
  obtain rfl:k=0:=by omega
  exact Nat.le_refl _
 | k,n+1,h=>by
  by_cases e:k=n+1
  ·subst e;exact Nat.le_refl _
  ·rw [YP,List.length_append];have:=Zd pk (k:=k) (n:=n) (by omega);omega
theorem Hm (iv:Value) (Bq:Nat) (n c:Nat) (g:Nat->Nat) (lb:Nat->Array Value) (is:List Value) (i:bC) (why:Nat->Int) (pk:Nat->List bH) (w:World) (hi:aY (fun _=>True) w is i)
  (hq:Hid (∀ u,Below w.heap.size w u->∀ k,k<n->u.cell? ⟨Bq,k,none⟩=some (.func (.func (g k)) #[] (lb k))/\Bq<u.heap.size))
  (hen:Hid (∀ k,k<n->∀ args w,(callFunc (g k) args).run prog w=.ok (.enter (g k) args) w))
  (hC:Hid (∀ u,Below w.heap.size w u->∀ k,k<n->Calls prog (g k) (#[.agg is.toArray]++lb k) u (Aw (why k) (pk k) u)))
  (hb:((List.range n).flatMap pk).length*32<=140737488351232) (hnb:n<=1000000) :
  Calls prog 15 #[.agg #[iv,.slice (some ⟨Bq,0,none⟩) n c],.agg is.toArray] w (pq n why pk w):=by
 have sJ:(prog.info? 70).map (·.size)=some is.length:=by rw [aY.ae.len hi];exact A9
 obtain ⟨W1,hW1⟩:∃ W,W=w.alloc (.cells #[iv,.slice (some ⟨Bq,0,none⟩) n c] 67):=⟨_,rfl⟩
 obtain ⟨W2,hW2⟩:∃ W,W=W1.alloc (.cells is.toArray 70):=⟨_,rfl⟩
 have B1:Below w.heap.size w W1:=by rw [hW1];exact (Below.refl _ _).alloc (Nat.le_refl _) _
 have B2:Below W1.heap.size W1 W2:=by rw [hW2];exact (Below.refl _ _).alloc (Nat.le_refl _) _
 have z1:W1.heap.size=w.heap.size+1:=by rw [hW1];simp
 have q1:af W2 w.heap.size [iv,.slice (some ⟨Bq,0,none⟩) n c]:=by refine af.on ?_ B2;rw [hW1];exact af.new w 67 _
 have q2:af W2 (w.heap.size+1) is:=by rw [<- z1,hW2];exact af.new W1 70 is
 have y1:=(q1.2 1 _ rfl).1
 have l1:=q1.1
 have HB2:Hid (Below w.heap.size w W2):=ah B1 B2
 have HR:Hid (∀ u,Below W2.heap.size W2 u->u.rangeAt (w.heap.size+1) 0 is/\w.heap.size+1<u.heap.size):=fun u hu=>⟨(q2.on hu).range,(q2.on hu).1⟩
 have H0:Hid (Row ak 2 (fun _=>True) W2 W2 73 (.slice none 0 0) ((List.range 0).flatMap pk)):=Row.nil _ _ _
 clear hi B1 B2 z1 q1 q2
 go_enter func15,ntmps15
 go_upto_region 1 with fail
 rw [<- hW1,<- hW2]
 clear hW1 hW2
 go_wp2_with fail
 go_loopw [6,14] (fun o j wr=>∃ k:Nat,k<=n/\j=.int .i64 k/\Hid (Row ak 2 (fun _=>True) W2 wr 73 o ((List.range k).flatMap pk)/\∀ j,j<k->why j=0)) (fun _ j _=>n - (intOf j).toNat)
 case atStart=>exact ⟨0,Nat.zero_le _,rfl,H0,fun j h=>by omega⟩
 case round =>
  obtain ⟨k,hk,rfl,hst⟩:=hrel
  have hbr:Below W2.heap.size W2 wr:=hst.out.1.below
  by_cases hlt:k<n
  ·have hltz:(k:Int)<(n:Int):=by omega
   have ou:=ah HB2.out hbr
   obtain ⟨cq,lq⟩:=hq.out wr ou k hlt
   have ZX:=hen.out k hlt
   have vP:=hC.out wr ou k hlt
   obtain ⟨hr,lr⟩:=HR.out wr hbr
   have NR:Hid (wr.rangeAt (w.heap.size+1) 0 is):=hr
   have HT:Hid ((List.range (k+1)).flatMap pk=(List.range k).flatMap pk++pk k):=YP pk k
   have vT:Hid (((List.range (k+1)).flatMap pk).length<=((List.range n).flatMap pk).length):=Zd pk (by omega)
   have HY:Hid (∀ u,Below wr.heap.size wr u->Below w.heap.size w u):=fun u hu=>ah ou hu
   generalize g k=gk at cq ZX vP
   generalize lb k=lk at cq vP
   generalize hwk:why k=wk at vP
   have CB:Hid (why k=wk):=hwk
   clear hwk hr
   go_wp2_with (first | (refine wpList_load_mid rfl 70 _ rfl (w.heap.size+1) 0 rfl is _ NR.out underlying70 rfl sJ ?_) | fail)
   refine vP.mono ?_
   rintro e z1 ⟨pa,pn,pc,rfl,sp,d1⟩
   clear vP cq ZX NR
   by_cases hz:wk=0
   ·subst hz
    have b1:Below wr.heap.size wr z1:=d1
    have fC:Row ak 2 (fun _=>True) W2 z1 73 u6 ((List.range k).flatMap pk):=hst.out.1.on ak.ae b1
    have HZ:Hid (∀ j,j<k+1->why j=0):=fun j hj=>by
     by_cases e:j=k
     ·subst e;exact CB.out
     ·exact hst.out.2 j (by omega)
    have jo:Hid (Src ak 2 (fun b=>(fun _=>True) b/\u6.ownBlock≠some b) z1 pa pn (pk k)):=zHj sp
    have ib:Hid (Row ak 2 (fun _=>True) W2 z1 73 u6 ((List.range k).flatMap pk)):=fC
    have jQ:Hid ((((List.range k).flatMap pk).length+(pk k).length)*32<=140737488355328):=by have h1:=vT.out;rw [HT.out,List.length_append] at h1;rw [Hid];omega
    clear hst fC sp d1 b1 CB vT
    generalize (List.range k).flatMap pk=G at ib jQ HT
    go_wp2_with (at_builtin;go_must (refine ui ak.ae (A:=(fun _=>True)) (w0:=W2) rfl _ _ 44 73 rfl _ 32 Jw underlying44 rfl (by decide) (by decide) u6 G rfl ib.out pa pn pc (pk k) rfl jo.out jQ.out ?_);intro v7 y7 jG jR hw7)
    have HN:Hid (Row ak 2 (fun _=>True) W2 y7 73 v7 ((List.range (k+1)).flatMap pk)/\∀ j,j<k+1->why j=0):=⟨by rw [HT.out];exact jG,HZ.out⟩
    clear jG jR hw7 HT jo ib jQ HZ
    go_roundw
    case rel=>exact ⟨k+1,by omega,by go_num,HN⟩
    case measure=>simp [intOf];omega
   ·have HE:Hid (k<n/\(∀ j,j<k->why j=0)/\why k=wk/\wk≠0/\Below w.heap.size w z1):=⟨hlt,hst.out.2,CB.out,hz,HY.out z1 d1⟩
    clear hst sp d1 HT vT CB
    go_wp2_with fail
    go_ret2
    exact .inl ⟨k,HE.out.1,HE.out.2.1,by rw [HE.out.2.2.1];exact HE.out.2.2.2.1,by rw [HE.out.2.2.1];rfl,HE.out.2.2.2.2⟩
  ·obtain rfl:n=k:=by omega
   obtain ⟨oa,oc,rfl,so⟩:=hst.out.1.sl (bytes:=32) ak.ae hb
   have HE:Hid ((∀ j,j<n->why j=0)/\ag ak 2 32 (fun _=>True) wr oa ((List.range n).flatMap pk).length oc ((List.range n).flatMap pk)/\Below w.heap.size w wr):=⟨hst.out.2,so.weak ak.ae (fun _ _ _=>trivial),ah HB2.out hbr⟩
   clear hst so hbr
   obtain ⟨ol,hol⟩:∃ l,((List.range n).flatMap pk).length=l:=⟨_,rfl⟩
   rw [hol] at HE hb |-
   clear hol
   go_wp2_with fail
   go_ret2
   exact .inr ⟨HE.out.1,oa,ol,oc,rfl,HE.out.2.1,HE.out.2.2⟩
def ll (A:Where) (ss:List Value) (x:aP) (ps:List Value) (Bs Bp Bl Bq:Nat) (b:Option Addr) (m c:Nat) (w':World):Prop :=
 af w' Bs ss/\af w' Bp ps/\af w' Bl [.slice b m c]/\ag aL 17 320 A w' b m c (dz x)/\af w' Bq [.func (.func 48) #[] #[.pointer (some ⟨Bp,0,none⟩)],.func (.func 50) #[] #[.pointer (some ⟨Bp,0,none⟩),.pointer (some ⟨Bl,0,none⟩)],.func (.func 52) #[] #[.pointer (some ⟨Bp,0,none⟩),.pointer (some ⟨Bs,0,none⟩),.pointer (some ⟨Bl,0,none⟩)],.func (.func 54) #[] #[.pointer (some ⟨Bp,0,none⟩),.pointer (some ⟨Bs,0,none⟩)]]
def WS (D:Where) (ss:List Value) (x:aP) (ps:List Value) (w:World) (e:Ending) (w':World):Prop :=
 ∃ Bs Bp Bl Bq b m c,e=.returned (.slice (some ⟨Bq,0,none⟩) 4 4)/\ll (qm D w) ss x ps Bs Bp Bl Bq b m c w'/\(w.heap.size<=Bs/\w.heap.size<=Bp/\w.heap.size<=Bl/\w.heap.size<=Bq)/\Below w.heap.size w w'
theorem ll.on {A:Where} {ss:List Value} {x:aP} {ps:List Value} {Bs Bp Bl Bq:Nat} {b:Option Addr} {m c:Nat} {w w':World} (h:ll A ss x ps Bs Bp Bl Bq b m c w) (hb:Below w.heap.size w w'):ll A ss x ps Bs Bp Bl Bq b m c w':=⟨h.1.on hb,h.2.1.on hb,h.2.2.1.on hb,h.2.2.2.1.on aL.ae hb,h.2.2.2.2.on hb⟩
theorem ll.kept {A:Where} {ss:List Value} {x:aP} {ps:List Value} {Bs Bp Bl Bq:Nat} {b:Option Addr} {m c:Nat} {w w':World} (h:ll A ss x ps Bs Bp Bl Bq b m c w) (hk:Kept A w w') (h1:A Bs) (h2:A Bp) (h3:A Bl) (h4:A Bq):ll A ss x ps Bs Bp Bl Bq b m c w':=⟨h.1.kept hk h1,h.2.1.kept hk h2,h.2.2.1.kept hk h3,h.2.2.2.1.kept aL.ae hk,h.2.2.2.2.kept hk h4⟩
theorem ll.weak {A A':Where} {ss:List Value} {x:aP} {ps:List Value} {Bs Bp Bl Bq:Nat} {b:Option Addr} {m c:Nat} {w:World} (h:ll A ss x ps Bs Bp Bl Bq b m c w) (hk:∀ b,b<w.heap.size->A b->A' b):ll A' ss x ps Bs Bp Bl Bq b m c w:=⟨h.1,h.2.1,h.2.2.1,h.2.2.2.1.weak aL.ae hk,h.2.2.2.2⟩
theorem zCt (D:Where) (ss:List Value) (x:aP) (ps:List Value) (w:World) (hs:aK D w ss x) (hnd:(x.2.1.map Prod.fst).Nodup) (hb:x.1.length*320<=140737488351232) :
  Calls prog 30 #[.agg ss.toArray,.agg ps.toArray] w (WS D ss x ps w):=by
 have mG:(prog.info? 29).map (·.size)=some ss.length:=by rw [aK.ae.len hs];exact oN
 obtain ⟨W1,hW1⟩:∃ W,W=w.alloc (.cells ss.toArray 29):=⟨_,rfl⟩
 obtain ⟨W2,hW2⟩:∃ W,W=W1.alloc (.cells ps.toArray 41):=⟨_,rfl⟩
 have B1:Below w.heap.size w W1:=by rw [hW1];exact (Below.refl _ _).alloc (Nat.le_refl _) _
 have B2:Below W1.heap.size W1 W2:=by rw [hW2];exact (Below.refl _ _).alloc (Nat.le_refl _) _
 have z1:W1.heap.size=w.heap.size+1:=by rw [hW1];simp
 have q1:af W2 w.heap.size ss:=by refine af.on ?_ B2;rw [hW1];exact af.new w 29 ss
 have q2:af W2 (w.heap.size+1) ps:=by rw [<- z1,hW2];exact af.new W1 41 ps
 have HR:Hid (W2.rangeAt w.heap.size 0 ss):=q1.range
 have l1:=q1.1
 have HQ:Hid (af W2 w.heap.size ss/\af W2 (w.heap.size+1) ps/\Below w.heap.size w W2):=⟨q1,q2,ah B1 B2⟩
 have hC:=zDI ss x W2 D (aK.ae.kept hs (Kept.below (ah B1 B2))) hnd hb
 have hpl:=zHf x
 have hb':(dz x).length*320<=140737488351232:=by omega
 clear hs B1 B2 z1 q1 q2
 go_enter func30,ntmps30
 go_upto_region 1 with fail
 rw [<- hW1,<- hW2]
 clear hW1 hW2
 go_wp2_with (first | (refine wpList_load_mid rfl 29 _ rfl w.heap.size 0 rfl ss _ HR.out underlying29 rfl mG ?_) | fail)
 refine hC.mono ?_
 rintro e u1 ⟨v,rfl,hr⟩
 clear hC HR
 have d1:Below W2.heap.size W2 u1:=hr.below
 obtain ⟨b,c,rfl,sp⟩:=hr.sl (bytes:=320) aL.ae hb'
 obtain ⟨z1,hz1⟩:∃ z,z=u1.alloc (.cells #[.slice b (dz x).length c] 112):=⟨_,rfl⟩
 obtain ⟨z2,hz2⟩:∃ z,z=z1.alloc (.cells #[.func (.func 48) #[] #[.pointer (some ⟨(w.heap.size+1),0,none⟩)],.func (.func 50) #[] #[.pointer (some ⟨(w.heap.size+1),0,none⟩),.pointer (some ⟨u1.heap.size,0,none⟩)],.func (.func 52) #[] #[.pointer (some ⟨(w.heap.size+1),0,none⟩),.pointer (some ⟨w.heap.size,0,none⟩),.pointer (some ⟨u1.heap.size,0,none⟩)],.func (.func 54) #[] #[.pointer (some ⟨(w.heap.size+1),0,none⟩),.pointer (some ⟨w.heap.size,0,none⟩)]] 93):=⟨_,rfl⟩
 have d2:Below u1.heap.size u1 z1:=by rw [hz1];exact (Below.refl _ _).alloc (Nat.le_refl _) _
 have d3:Below z1.heap.size z1 z2:=by rw [hz2];exact (Below.refl _ _).alloc (Nat.le_refl _) _
 have e1:z1.heap.size=u1.heap.size+1:=by rw [hz1];simp
 have ql:af z1 u1.heap.size [.slice b (dz x).length c]:=by rw [hz1];exact af.new u1 112 _
 have qq:af z2 z1.heap.size [.func (.func 48) #[] #[.pointer (some ⟨(w.heap.size+1),0,none⟩)],.func (.func 50) #[] #[.pointer (some ⟨(w.heap.size+1),0,none⟩),.pointer (some ⟨u1.heap.size,0,none⟩)],.func (.func 52) #[] #[.pointer (some ⟨(w.heap.size+1),0,none⟩),.pointer (some ⟨w.heap.size,0,none⟩),.pointer (some ⟨u1.heap.size,0,none⟩)],.func (.func 54) #[] #[.pointer (some ⟨(w.heap.size+1),0,none⟩),.pointer (some ⟨w.heap.size,0,none⟩)]]:=by rw [hz2];exact af.new z1 93 _
 have rO:w.heap.size<=W2.heap.size:=HQ.out.2.2.size
 have RY:w.heap.size<=u1.heap.size:=Nat.le_trans rO d1.size
 have HE:Hid (ll (qm D w) ss x ps w.heap.size (w.heap.size+1) u1.heap.size (u1.heap.size+1) b (dz x).length c z2/\(w.heap.size<=w.heap.size/\w.heap.size<=w.heap.size+1/\w.heap.size<=u1.heap.size/\w.heap.size<=u1.heap.size+1)/\Below w.heap.size w z2):=⟨⟨HQ.out.1.on (ah d1 (ah d2 d3)),HQ.out.2.1.on (ah d1 (ah d2 d3)),ql.on d3,(sp.weak aL.ae (fun b _ ha=>by
  rcases ha with ha | ha
  ·exact .inl ha.1
  ·exact .inr (Nat.le_trans rO ha))).on aL.ae (ah d2 d3),e1 ▸ qq⟩,⟨Nat.le_refl _,Nat.le_succ _,RY,Nat.le_succ_of_le RY⟩,ah HQ.out.2.2 (ah d1 (ah d2 d3))⟩
 clear rO RY
 have HZ:Hid (z2=(u1.alloc (.cells #[.slice b (dz x).length c] 112)).alloc (.cells #[.func (.func 48) #[] #[.pointer (some ⟨(w.heap.size+1),0,none⟩)],.func (.func 50) #[] #[.pointer (some ⟨(w.heap.size+1),0,none⟩),.pointer (some ⟨u1.heap.size,0,none⟩)],.func (.func 52) #[] #[.pointer (some ⟨(w.heap.size+1),0,none⟩),.pointer (some ⟨w.heap.size,0,none⟩),.pointer (some ⟨u1.heap.size,0,none⟩)],.func (.func 54) #[] #[.pointer (some ⟨(w.heap.size+1),0,none⟩),.pointer (some ⟨w.heap.size,0,none⟩)]] 93)):=by rw [Hid,hz2,hz1]
 clear hr sp d1 d2 d3 ql qq hz1 hz2 e1 hpl hb' hb
 generalize (dz x).length=pl at HE HZ |-
 go_wp2_with fail
 go_ret
 rw [<- HZ.out]
 exact ⟨_,_,_,_,_,_,_,by simp,HE.out.1,HE.out.2.1,HE.out.2.2⟩
theorem zHJ {L:List ByteArray} {s:ByteArray} (h:s∈L):hasB ay L s=true:=by
 unfold hasB;rw [List.any_eq_true];exact ⟨s,h,(eZ _ _).2 rfl⟩
theorem zHF (F:List aX) (q:aX) (h:(F.map Prod.fst).Nodup):((gW F q).map Prod.fst).Nodup:=by
 unfold gW
 by_cases e:hasB ay (ik F) q.1=true
 ·rw [if_pos e];exact h
 ·rw [if_neg e,List.map_append,List.nodup_append]
  refine ⟨h,by simp,fun a ha b hb=>?_⟩
  simp only [List.map_cons,List.map_nil,List.mem_singleton] at hb
  subst hb
  exact fun x=>e (zHJ (x ▸ ha))
theorem YE:∀ (L F:List aX),(F.map Prod.fst).Nodup->((L.foldl gW F).map Prod.fst).Nodup
 | [],_,h=>h
 | q :: r,F,h=>by rw [List.foldl_cons];exact YE r _ (zHF F q h)
theorem zE1 (L:List aX):((aZ L).map Prod.fst).Nodup:=YE L [] List.nodup_nil
def WO (y:aP) (ps:List Value) (w:World) (e:Ending) (w':World):Prop :=
 ∃ ia ic ds Bs Bp Bl Bq b m c,e=.returned (.agg #[.slice ia (dw y).length ic,.slice (some ⟨Bq,0,none⟩) 4 4])/\ag aY 15 208 (fun _=>True) w' ia (dw y).length ic (dw y)/\aK (fun _=>True) w' ds y/\ll (fun _=>True) ds y ps Bs Bp Bl Bq b m c w'/\Below w.heap.size w w'
theorem zFV (ss:List Value) (x:aP) (ps:List Value) (p:aB) (w:World) (hs:aK (fun _=>True) w ss x) (hp:aj (fun _=>True) w ps p) (hF:∀ s,vH (fZ (aS (aR x p.1).1) s)) (hb1:(aZ (aR x p.1).2.1).length*208<=140737488351232) (hb2:(aR x p.1).1.length*320<=140737488351232) :
  Calls prog 14 #[.agg ss.toArray,.agg ps.toArray] w (WO (aR x p.1) ps w):=by
 have mG:(prog.info? 29).map (·.size)=some ss.length:=by rw [aK.ae.len hs];exact oN
 have ma:(prog.info? 41).map (·.size)=some ps.length:=by rw [aj.ae.len hp];exact kY
 obtain ⟨hnm,hp0⟩:p.1.size<=140737488355328/\ps[0]?=some (.string p.1):=by obtain ⟨h1,_,_,_,_,_,_,_,_,_,_,_,_,_,_,_,rfl⟩:=hp.lY;exact ⟨h1,rfl⟩
 have hnd:((aR x p.1).2.1.map Prod.fst).Nodup:=zE1 x.2.1
 obtain ⟨W1,hW1⟩:∃ W,W=w.alloc (.cells ss.toArray 29):=⟨_,rfl⟩
 obtain ⟨W2,hW2⟩:∃ W,W=W1.alloc (.cells ps.toArray 41):=⟨_,rfl⟩
 obtain ⟨W3,hW3⟩:∃ W,W=W2.alloc (.cells #[.slice none 0 0,.slice none 0 0] 67):=⟨_,rfl⟩
 have B1:Below w.heap.size w W1:=by rw [hW1];exact (Below.refl _ _).alloc (Nat.le_refl _) _
 have B2:Below W1.heap.size W1 W2:=by rw [hW2];exact (Below.refl _ _).alloc (Nat.le_refl _) _
 have B3:Below W2.heap.size W2 W3:=by rw [hW3];exact (Below.refl _ _).alloc (Nat.le_refl _) _
 have z1:W1.heap.size=w.heap.size+1:=by rw [hW1];simp
 have z2:W2.heap.size=w.heap.size+1+1:=by rw [hW2];simp [z1]
 have q1:af W3 w.heap.size ss:=by refine af.on (af.on ?_ B2) B3;rw [hW1];exact af.new w 29 ss
 have q2:af W3 (w.heap.size+1) ps:=by refine af.on ?_ B3;rw [<- z1,hW2];exact af.new W1 41 ps
 have q3:af W3 (w.heap.size+1+1) [.slice none 0 0,.slice none 0 0]:=by rw [<- z2,hW3];exact af.new W2 67 _
 have HR:Hid (W3.rangeAt w.heap.size 0 ss):=q1.range
 have y0:=(q2.2 0 _ hp0).1
 have l1:=q1.1
 have l2:=q2.1
 have BB:Below w.heap.size w W3:=ah (ah B1 B2) B3
 have HQ:Hid (af W3 w.heap.size ss/\af W3 (w.heap.size+1) ps/\af W3 (w.heap.size+1+1) [.slice none 0 0,.slice none 0 0]/\Below w.heap.size w W3):=⟨q1,q2,q3,BB⟩
 have hC:=zEi (fun b=>b<w.heap.size) ss x p.1 W3 hnm (aK.ae.kept (aK.ae.weak hs (fun b hb _=>hb)) (Kept.below BB))
 have hw3:W3.heap.size=w.heap.size+1+1+1:=by rw [hW3];simp [z2]
 have HW3:Hid (W3.heap.size=w.heap.size+1+1+1):=hw3
 clear hs hp B1 B2 B3 BB z1 z2 q1 q2 q3 hp0 hw3
 generalize aR x p.1=y at hF hb1 hb2 hnd hC |-
 generalize p.1=nm at y0 hC hnm
 go_enter func14,ntmps14
 go_upto_region 1 with fail
 rw [<- hW1,<- hW2,<- hW3]
 clear hW1 hW2 hW3
 go_wp2_with (first | (refine wpList_load_mid rfl 29 _ rfl w.heap.size 0 rfl ss _ HR.out underlying29 rfl mG ?_) | fail)
 refine hC.mono ?_
 rintro e u1 ⟨ds,rfl,hds,d1⟩
 clear hC HR y0
 have Sm:ds.length=6:=aK.ae.len hds
 have JK:ss.length=6:=by have h8:=mG;rw [oN] at h8;injection h8 with h8;exact h8.symm
 have JM:(prog.info? 29).map (·.size)=some ds.length:=by rw [Sm];exact oN
 have Ms:=HQ.out.1.on d1
 obtain ⟨X,hX⟩:∃ X,X=u1.setCells w.heap.size 0 ds:=⟨_,rfl⟩
 have kX:Kept (fun b=>b≠w.heap.size) u1 X:=by rw [hX];exact dP (fun h=>h rfl)
 have bX:Below w.heap.size w X:=by rw [hX];exact cu (ah HQ.out.2.2.2 d1) (Nat.le_refl _)
 have zm:af X w.heap.size ds:=by rw [hX];exact dL Ms (by rw [Sm,JK])
 have vM:=(HQ.out.2.1.on d1).kept kX (by omega)
 have uw:=(HQ.out.2.2.1.on d1).kept kX (by omega)
 have eP:Hid (u1.there w.heap.size 0 ds.toArray.size):=by have e8:ds.toArray.size=ss.length:=List.size_toArray.trans (Sm.trans JK.symm);have h8:=Ms.there;rw [<- e8] at h8;exact h8
 have HO:Hid (ds.toArray.all (·.oneCell')=true):=all_oneCell_toArray (aK.ae.one hds)
 have HX:Hid (X=u1.setCells w.heap.size 0 ds.toArray.toList):=by rw [Hid,hX]
 have hw3:=HW3.out
 obtain ⟨E,hE⟩:∃ E:Where,E=fun b=>b<w.heap.size\/w.heap.size+3<=b:=⟨_,rfl⟩
 have ZZ:aK E X ds y:=aK.ae.weak (aK.ae.kept hds (kX.weak (fun b hb=>by rcases hb with ⟨hb,_⟩ | hb <;> omega))) (fun b _ hb=>by rw [hE];rcases hb with ⟨hb,_⟩ | hb;exact .inl hb;exact .inr (by omega))
 have zU:w.heap.size+3<=X.heap.size:=uw.1
 have yH:Hid (∀ b,X.heap.size<=b->E b):=fun b hb=>by rw [hE];exact .inr (by omega)
 have HEN:Hid (¬ E (w.heap.size+1+1)):=by rw [Hid,hE];omega
 have Oh:Hid (∀ u,Below X.heap.size X u->aK E u ds y):=fun u hu=>aK.ae.kept ZZ (Kept.below hu)
 have HK:Hid (af X w.heap.size ds/\af X (w.heap.size+1) ps/\af X (w.heap.size+1+1) [.slice none 0 0,.slice none 0 0]/\Below w.heap.size w X):=⟨zm,vM,uw,bX⟩
 have l8:=Ms.1
 clear hE zU hX kX bX zm vM uw hds ZZ Ms d1 HQ hw3 HW3 JK l1 l2
 go_upto_region 2 with (first | (refine wpList_store_mid rfl 29 _ _ rfl w.heap.size 0 ds.toArray rfl rfl eP.out (by simpa using JM) HO.out ?_;refine iJ HX.out ?_) | fail)
 clear eP HO HX l8
 refine u0 6 (fun z=>Below X.heap.size X z) (Below.refl _ _).drew (fun gH=>?_)
 have hb0:Below X.heap.size X X.drew:=(Below.refl _ _).drew
 generalize hwd:X.drew=wd at gH hb0 |-
 clear hwd
 try go_frame
 refine uq 0 (.agg ds.toArray) (yieldsIf_load_mid (by rfl) 29 _ rfl w.heap.size 0 rfl ds _ (fun u hu=>(HK.out.1.on hu).range) underlying29 rfl JM) ?_ (hi:=rfl)
 try go_frame
 refine uq 2 (.agg ds.toArray) (yieldsIf_load_mid (by rfl) 29 _ rfl w.heap.size 0 rfl ds _ (fun u hu=>(HK.out.1.on hu).range) underlying29 rfl JM) ?_ (hi:=rfl)
 try go_frame
 refine uq 3 (.agg ps.toArray) (yieldsIf_load_mid (by rfl) 41 _ rfl (w.heap.size+1) 0 rfl ps _ (fun u hu=>(HK.out.2.1.on hu).range) underlying41 rfl ma) ?_ (hi:=rfl)
 try go_frame
 have uN:=zHK E ds y wd (Oh.out wd hb0) hF hb1
 refine ur 1 (fun K hK=>?_)
 go_simp
 refine uN.mono ?_
 rintro e u2 ⟨v,rfl,hr⟩
 have d2:Below wd.heap.size wd u2:=hr.below
 have hb2':Below X.heap.size X u2:=ah hb0 d2
 have hil:(dw y).length*208<=140737488351232:=by unfold dw;rw [List.length_map];exact hb1
 obtain ⟨ia,ic,rfl,si⟩:=hr.sl (bytes:=208) aY.ae hil
 have HSI:Hid (ag aY 15 208 E u2 ia (dw y).length ic (dw y)):=si.weak aY.ae (fun b _ ha=>by
  rcases ha with ha | ha
  ·rcases ha with ha | ha
   ·exact ha
   ·exact yH.out b (Nat.le_trans hb0.size ha)
  ·exact yH.out b (Nat.le_trans hb0.size ha))
 clear uN hr si
 go_wp2_with fail
 refine hK.out _ _ hb2' (fun gI=>?_)
 clear hK K gH;have gH:=gI;clear gI
 try go_frame
 have hC2:=zCt E ds y ps u2 (Oh.out u2 hb2') hnd hb2
 refine ur 4 (fun K hK=>?_)
 go_simp
 refine hC2.mono ?_
 rintro e u3 ⟨Bs,Bp,Bl,Bq,b,m,c,rfl,wS,hbs,d3⟩
 have hb3:Below X.heap.size X u3:=ah hb2' d3
 have Ut:Hid (ag aY 15 208 E u3 ia (dw y).length ic (dw y)):=HSI.out.on aY.ae d3
 have HQS:Hid (ll E ds y ps Bs Bp Bl Bq b m c u3):=wS.weak (fun b _ ha=>by
  rcases ha with ha | ha
  ·exact ha
  ·exact yH.out b (Nat.le_trans hb2'.size ha))
 have Ip:Hid (E Bs/\E Bp/\E Bl/\E Bq):=⟨yH.out _ (Nat.le_trans hb2'.size hbs.1),yH.out _ (Nat.le_trans hb2'.size hbs.2.1),yH.out _ (Nat.le_trans hb2'.size hbs.2.2.1),yH.out _ (Nat.le_trans hb2'.size hbs.2.2.2)⟩
 clear wS hbs HSI
 clear hC2
 go_wp2_with fail
 refine hK.out _ _ hb3 (fun gI=>?_)
 clear hK K gH;have gH:=gI;clear gI
 try go_frame
 refine' uk 5 ?_ ?_;rotate_left
 ·intro u hu;clear hu;go_simp;try with_reducible rfl
 try go_frame
 have qv:=HK.out.2.2.1.on hb3
 obtain ⟨U,hU⟩:∃ U,U=u3.setCells (w.heap.size+1+1) 0 [.slice ia (dw y).length ic,.slice (some ⟨Bq,0,none⟩) 4 4]:=⟨_,rfl⟩
 refine uz 6 (fun K hK=>?_)
 refine fP (by rfl) (wp_store_mid 67 _ _ rfl (w.heap.size+1+1) 0 #[.slice ia (dw y).length ic,.slice (some ⟨Bq,0,none⟩) 4 4] rfl rfl qv.there (by kernel_rfl) (by simp [Value.oneCell']) ?_)
 refine hK.out _ (NoPanic.normal ?_)
 clear hK K
 rw [show (#[.slice ia (dw y).length ic,.slice (some ⟨Bq,0,none⟩) 4 4]:Array Value).toList=[.slice ia (dw y).length ic,.slice (some ⟨Bq,0,none⟩) 4 4] from rfl,<- hU]
 have kU:Kept E u3 U:=by rw [hU];exact dP HEN.out
 have qU:af U (w.heap.size+1+1) [.slice ia (dw y).length ic,.slice (some ⟨Bq,0,none⟩) 4 4]:=by rw [hU];exact dL qv rfl
 have bU:Below w.heap.size w U:=by rw [hU];exact cu (ah HK.out.2.2.2 hb3) (by omega)
 have HE:Hid (ag aY 15 208 (fun _=>True) U ia (dw y).length ic (dw y)/\aK (fun _=>True) U ds y/\ll (fun _=>True) ds y ps Bs Bp Bl Bq b m c U/\Below w.heap.size w U):=⟨(Ut.out.kept aY.ae kU).weak aY.ae (fun _ _ _=>trivial),aK.ae.weak (aK.ae.kept (Oh.out u3 hb3) kU) (fun _ _ _=>trivial),(HQS.out.kept kU Ip.out.1 Ip.out.2.1 Ip.out.2.2.1 Ip.out.2.2.2).weak (fun _ _ _=>trivial),bU⟩
 have Uu:Hid (U.rangeAt (w.heap.size+1+1) 0 [.slice ia (dw y).length ic,.slice (some ⟨Bq,0,none⟩) 4 4]):=qU.range
 have hi2:(prog.info? 67).map (·.size)=some ([.slice ia (dw y).length ic,.slice (some ⟨Bq,0,none⟩) 4 4]:List Value).length:=by kernel_rfl
 have lU:=qU.1
 clear hU kU qU bU qv Ut HQS Ip HEN yH Oh HK hb3
 obtain ⟨il,uJ⟩:∃ l,(dw y).length=l:=⟨_,rfl⟩
 have Gr:Hid ((dw y).length=il):=uJ
 rw [uJ] at HE Uu hi2
 try rw [uJ]
 clear uJ hil
 go_wp2_with (first | (refine wpList_load_mid rfl 67 _ rfl (w.heap.size+1+1) 0 rfl [.slice ia il ic,.slice (some ⟨Bq,0,none⟩) 4 4] _ Uu.out underlying67 rfl hi2 ?_) | fail)
 refine bodyPost_ret (v:=.agg ([.slice ia il ic,.slice (some ⟨Bq,0,none⟩) 4 4]:List Value).toArray) (En (p:=4) (ty:=67) rfl _ _ (w.heap.size+1+1) [.slice ia il ic,.slice (some ⟨Bq,0,none⟩) 4 4] _ rfl Uu.out underlying67 rfl hi2) rfl ?_
 exact ⟨_,_,_,_,_,_,_,_,_,_,by rw [Gr.out],by rw [Gr.out];exact HE.out.1,HE.out.2.1,HE.out.2.2.1,HE.out.2.2.2⟩
def whyF (y:aP) (p:aB) (i:bC):Nat->Int
 | 0=>sD p i
 | 1=>wP p (iN i) (dz y)
 | 2=>nR 12 p (iN i) y.2.1 (dz y)
 | _=>(iG p i y).2
def zn (y:aP) (p:aB) (i:bC):Nat->List bH
 | 0=>[]
 | 1=>[]
 | 2=>[]
 | _=>(iG p i y).1
theorem BN (y:aP) (p:aB) (i:bC):(List.range 4).flatMap (zn y p i)=(iG p i y).1:=by
 rw [show List.range 4=[0,1,2,3] from rfl];simp [zn]
structure AQ (y:aP) (p:aB):Prop where
 near:(jI p).length<1000000000
 apart:(bB p).length<1000000000
 cost:cost (dz y)<70368744177000
 picks:∀ i:bC,(iG p i y).1.length*32<=140737488351232
def gF:Nat->Nat
 | 0=>48
 | 1=>50
 | 2=>52
 | _=>54
def lbF (Bs Bp Bl:Nat):Nat->Array Value
 | 0=>#[.pointer (some ⟨Bp,0,none⟩)]
 | 1=>#[.pointer (some ⟨Bp,0,none⟩),.pointer (some ⟨Bl,0,none⟩)]
 | 2=>#[.pointer (some ⟨Bp,0,none⟩),.pointer (some ⟨Bs,0,none⟩),.pointer (some ⟨Bl,0,none⟩)]
 | _=>#[.pointer (some ⟨Bp,0,none⟩),.pointer (some ⟨Bs,0,none⟩)]
theorem zET (iv:Value) (ds:List Value) (y:aP) (ps:List Value) (p:aB) (Bs Bp Bl Bq:Nat) (b:Option Addr) (m c:Nat) (is:List Value) (i:bC) (w:World) (hs:aK (fun _=>True) w ds y) (hp:aj (fun _=>True) w ps p) (hi:aY (fun _=>True) w is i) (hq:ll (fun _=>True) ds y ps Bs Bp Bl Bq b m c w) (hf:AQ y p) :
  Calls prog 15 #[.agg #[iv,.slice (some ⟨Bq,0,none⟩) 4 4],.agg is.toArray] w (pq 4 (whyF y p i) (zn y p i) w):=by
 refine Hm iv Bq 4 4 gF (lbF Bs Bp Bl) is i (whyF y p i) (zn y p i) w hi (fun u hu k hk=>?_) (fun k hk=>?_) (fun u hu k hk=>?_) ?_ (by decide)
 ·have q:=hq.2.2.2.2.on hu
  rcases k with _ | _ | _ | _ | k
  ·exact ⟨(q.2 0 _ rfl).1,q.1⟩
  ·exact ⟨(q.2 1 _ rfl).1,q.1⟩
  ·exact ⟨(q.2 2 _ rfl).1,q.1⟩
  ·exact ⟨(q.2 3 _ rfl).1,q.1⟩
  ·omega
 ·rcases k with _ | _ | _ | _ | k
  ·exact enters_of func48 (by kernel_rfl) rfl
  ·exact enters_of func50 (by kernel_rfl) rfl
  ·exact enters_of func52 (by kernel_rfl) rfl
  ·exact enters_of func54 (by kernel_rfl) rfl
  ·omega
 ·have qq:=hq.on hu
  have hs':=aK.ae.kept hs (Kept.below hu)
  have hp':=aj.ae.kept hp (Kept.below hu)
  have hi':=aY.ae.kept hi (Kept.below hu)
  rcases k with _ | _ | _ | _ | k
  ·exact I8 Bp ps p is i u qq.2.1 hp' hi'
  ·exact I7 Bp ps p Bl b m c (dz y) is i u qq.2.1 hp' hi' qq.2.2.1 qq.2.2.2.1 hf.near hf.apart hf.cost
  ·obtain ⟨⟨a0,n0,m0⟩,⟨a1,n1,m1⟩,⟨a2,n2,m2⟩,⟨a3,n3,m3⟩,⟨a4,n4,m4⟩,⟨a5,n5,m5⟩,he,s0,s1,_⟩:=hs'.out
   simp only at s0 s1 he
   have q0:=qq.1
   rw [he] at q0
   exact I6 Bp ps p Bs _ a1 n1 m1 _ _ _ _ y.2.1 Bl b m c (dz y) is i u qq.2.1 hp' hi' q0 s1 qq.2.2.1 qq.2.2.2.1
  ·exact I5 Bp ps p Bs ds y is i u qq.2.1 hp' hi' qq.1 hs'
  ·omega
 ·rw [BN];exact hf.picks i
end Go.Proofs.YtgikfenllgldoaaGreat
