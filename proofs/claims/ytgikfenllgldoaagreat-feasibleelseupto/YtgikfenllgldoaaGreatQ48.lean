/- Functions of the program, each walked under the conditions that its theorem names. -/
import Derived.Test.YtgikfenllgldoaaGreatQ36
import Derived.Test.YtgikfenllgldoaaGreatQ46
import Derived.Test.YtgikfenllgldoaaGreatQ47
set_option linter.unusedSimpArgs false
set_option maxRecDepth 100000
set_option maxHeartbeats 32000000
namespace Go.Proofs.YtgikfenllgldoaaGreat
open Go.Proofs.Tryz
open Go.RowKit Go.Maps
theorem P9 (L:List ByteArray) (x:ByteArray):x∈bK id L↔x∈L:=by
 unfold bK
 rw [List.mem_map,List.map_id]
 constructor
 ·rintro ⟨k,hk,rfl⟩
  obtain ⟨s,hs⟩:=(pE L k).1 hk
  exact Bh (jl hs).1
 ·intro h
  obtain ⟨k,hk⟩:=Gy h
  exact ⟨k,(pE L k).2 ⟨_,hk⟩,(jl hk).2.1⟩
theorem zFn (L:List ByteArray):(bK id L).Nodup:=by
 unfold bK
 rw [List.map_id]
 refine List.pairwise_map.2 ((LY L).imp_of_mem fun {a b} ha hb hab e=>?_)
 obtain ⟨sa,ea⟩:=(pE L a).1 ha
 obtain ⟨sb,eb⟩:=(pE L b).1 hb
 rw [(jl ea).2.1,(jl eb).2.1] at e
 rw [e,eb] at ea
 injection ea with ea
 omega
theorem zGL {L:List ByteArray} (h:uX L):L.Nodup:=h.imp (fun {a b} hab e=>by subst e;exact BF _ hab)
theorem zHD (L M:List ByteArray):(bK id (L++M)).length=(aN dh ay (L++bK id M)).length :=
 ((List.perm_ext_iff_of_nodup (zFn _) (zGL (XB _))).2 (fun x=>by rw [P9,XL,List.mem_append,List.mem_append,P9])).length_eq
theorem Jo (V:List aD) (NL:List aG) (c:aT):keepV V NL c=keepV (bK Prod.fst V) NL c:=by
 unfold keepV
 rcases PI Prod.fst V (jS c) with ⟨h1,h2⟩ | ⟨i,j,h1,h2,h3⟩
 ·rw [show fI (jK V) (jS c)=none from h1,show fI (jK (bK Prod.fst V)) (jS c)=none from h2]
 ·rw [show fI (jK V) (jS c)=some i from h1,show fI (jK (bK Prod.fst V)) (jS c)=some j from h2]
  simp only
  rw [h3]
theorem Jc {u:World} {A:Where} {a:Option Addr} {n c:Nat} {L:List ByteArray} (h:ag au 1 16 A u a n c L) (T:TypeId):ag vR 1 24 (fun _=>True) (u.alloc (.cells #[.slice a n c] T)) (some ⟨u.heap.size,0,none⟩) 1 1 [L]:=by
 have hq:=af.new u T [.slice a n c]
 have h':=(h.weak au.ae (A':=fun _=>True) (fun _ _ _=>trivial)).on au.ae ((Below.refl _ u).alloc (Nat.le_refl _) (.cells #[.slice a n c] T))
 refine ⟨rfl,Nat.le_refl _,(fun h=>by cases h),by decide,fun _=>⟨u.heap.size,0,rfl,hq.1,trivial,fun i hi=>?_⟩⟩
 obtain rfl:i=0:=by omega
 exact ⟨[.slice a n c],⟨a,n,c,rfl,h'⟩,fun j v hj=>by
  have h0:j<1:=(List.getElem?_eq_some_iff.1 hj).1
  obtain rfl:j=0:=by omega
  have:=(hq.2 0 v hj).1
  simpa using this⟩
theorem IL {u:World} {A A':Where} {a b:Option Addr} {n c m d:Nat} {L M:List ByteArray} (h:ag au 1 16 A u a n c L) (k:ag au 1 16 A' u b m d M) (T:TypeId):ag vR 1 24 (fun _=>True) (u.alloc (.cells #[.slice a n c,.slice b m d] T)) (some ⟨u.heap.size,0,none⟩) 2 2 [L,M]:=by
 have hq:=af.new u T [.slice a n c,.slice b m d]
 have hb:Below u.heap.size u (u.alloc (.cells #[.slice a n c,.slice b m d] T)):=(Below.refl _ u).alloc (Nat.le_refl _) _
 have h':=(h.weak au.ae (A':=fun _=>True) (fun _ _ _=>trivial)).on au.ae hb
 have k':=(k.weak au.ae (A':=fun _=>True) (fun _ _ _=>trivial)).on au.ae hb
 refine ⟨rfl,Nat.le_refl _,(fun h=>by cases h),by decide,fun _=>⟨u.heap.size,0,rfl,hq.1,trivial,fun i hi=>?_⟩⟩
 rcases (show i=0\/i=1 by omega) with rfl | rfl
 ·exact ⟨[.slice a n c],⟨a,n,c,rfl,h'⟩,fun j v hj=>by
   have h0:j<1:=(List.getElem?_eq_some_iff.1 hj).1
   obtain rfl:j=0:=by omega
   have:v=.slice a n c:=by simpa using hj.symm
   subst this
   exact (hq.2 0 _ rfl).1⟩
 ·exact ⟨[.slice b m d],⟨b,m,d,rfl,k'⟩,fun j v hj=>by
   have h0:j<1:=(List.getElem?_eq_some_iff.1 hj).1
   obtain rfl:j=0:=by omega
   have:v=.slice b m d:=by simpa using hj.symm
   subst this
   exact (hq.2 1 _ rfl).1⟩
theorem ag.Pz {α:Type} [Inhabited α] {R:bI α} {k b b':Nat} {A:Where} {w:World} {a:Option Addr} {n cap:Nat} {L:List α} (h:ag R k b A w a n cap L) (hb:b'<=b):ag R k b' A w a n cap L:=⟨h.1,h.2.1,h.2.2.1,Nat.le_trans (Nat.mul_le_mul_left n hb) h.2.2.2.1,h.2.2.2.2⟩
def PPl (w:World) (r:List bH×Int) (e:Ending) (w':World):Prop:=∃ a n cap,e=.returned (.tuple #[.slice a n cap,.int .i64 r.2])/\ag ak 2 32 (fun _=>True) w' a n cap r.1/\Below w.heap.size w w'
theorem zGG (ps:List Value) (p:aB) (is:List Value) (i:bC) (v0 v1 v5:Value) (ca:Option Addr) (cn cc:Nat) (va:Option Addr) (vn vc:Nat) (ka:Option Addr) (kn kc:Nat) (CL:List aT) (V:List aD) (KL:List dI) (w:World) (hp:Hid (aj (fun _=>True) w ps p)) (hi:Hid (aY (fun _=>True) w is i)) (hc:ag aA 4 56 (fun _=>True) w ca cn cc CL) (hv:ag ai 5 72 (fun _=>True) w va vn vc V) (hk:ag aH 2 24 (fun _=>True) w ka kn kc KL) (MM:V.length*80<=140737488355328) :
  Calls prog 55 #[.agg ps.toArray,.agg is.toArray,.agg #[v0,v1,.slice va vn vc,.slice ca cn cc,.slice ka kn kc,v5]] w (PPl w (sH (bK Prod.fst V,CL) KL (iN i) (bK id (ky p)) (wh i) (Dr i))):=by
 obtain ⟨⟨la,ln,lc⟩,⟨da,dn,dc⟩,i1,i8,i14,sl,sd⟩:=hi.out.zz
 obtain ⟨⟨pa,pn,pc⟩,Fv,sp⟩:=hp.out.WG
 simp only at i1 i14 sl sd Fv sp
 have mG:(prog.info? 29).map (·.size)=some ([v0,v1,.slice va vn vc,.slice ca cn cc,.slice ka kn kc,v5]:List Value).length:=by kernel_rfl
 obtain ⟨W1,hW1⟩:∃ W,W=w.alloc (.cells ps.toArray 41):=⟨_,rfl⟩
 obtain ⟨W2,hW2⟩:∃ W,W=W1.alloc (.cells is.toArray 70):=⟨_,rfl⟩
 obtain ⟨W3,hW3⟩:∃ W,W=W2.alloc (.cells #[v0,v1,.slice va vn vc,.slice ca cn cc,.slice ka kn kc,v5] 29):=⟨_,rfl⟩
 have B1:Below w.heap.size w W1:=by rw [hW1];go_grown
 have B2:Below W1.heap.size W1 W2:=by rw [hW2];go_grown
 have B3:Below W2.heap.size W2 W3:=by rw [hW3];go_grown
 have z1:W1.heap.size=w.heap.size+1:=by rw [hW1];simp
 have z2:W2.heap.size=w.heap.size+1+1:=by rw [hW2];simp [z1]
 have qa:af W3 w.heap.size ps:=by refine af.on (af.on ?_ B2) B3;rw [hW1];exact af.new w 41 _
 have qb:af W3 (w.heap.size+1) is:=by refine af.on ?_ B3;rw [<- z1,hW2];exact af.new W1 70 _
 have qc:af W3 (w.heap.size+1+1) [v0,v1,.slice va vn vc,.slice ca cn cc,.slice ka kn kc,v5]:=by rw [<- z2,hW3];exact af.new W2 29 _
 have BB:Below w.heap.size w W3:=ah (ah B1 B2) B3
 have MX:=zFJ la ln lc v0 v1 v5 ca cn cc va vn vc ka kn kc (iN i) CL V KL W3 (sl.on ak.ae BB) (hc.on aA.ae BB) (hv.on ai.ae BB) (hk.on aH.ae BB) MM
 have c1:=(qb.2 1 _ i1).1
 have HRs:Hid (W3.rangeAt (w.heap.size+1+1) 0 [v0,v1,.slice va vn vc,.slice ca cn cc,.slice ka kn kc,v5]):=qc.range
 have HU:Hid (∀ u,Below W3.heap.size W3 u->af u w.heap.size ps/\af u (w.heap.size+1) is/\ag ak 2 32 (fun b=>b<W3.heap.size) u la ln lc (iN i)/\ag aA 4 56 (fun b=>b<W3.heap.size) u ca cn cc CL/\ag ai 5 72 (fun b=>b<W3.heap.size) u va vn vc V/\ag aH 2 24 (fun b=>b<W3.heap.size) u ka kn kc KL/\ag au 1 16 (fun _=>True) u pa pn pc (ky p)/\ag au 1 16 (fun _=>True) u da dn dc (wh i)/\Below w.heap.size w u):=fun u hb=>by
  have hb':=ah BB hb
  have hlt:∀ b,b<w.heap.size->True->b<W3.heap.size:=fun b h _=>Nat.lt_of_lt_of_le h BB.size
  exact ⟨qa.on hb,qb.on hb,(sl.weak ak.ae hlt).on ak.ae hb',(hc.weak aA.ae hlt).on aA.ae hb',(hv.weak ai.ae hlt).on ai.ae hb',(hk.weak aH.ae hlt).on aH.ae hb',sp.on au.ae hb',sd.on au.ae hb',hb'⟩
 have hpl:=sp.1
 have hdl:=sd.1
 have hpb:=sp.2.2.2.1
 have ZY:=sd.2.2.2.1
 have ND:Hid ((ky p).length*16<=140737488351232/\(wh i).length*16<=140737488351232):=⟨by rw [hpl];exact hpb,by rw [hdl];exact ZY⟩
 have aa3:=sp
 clear hp hi hc hv hk sl sd qa qb qc B1 B2 B3 BB z1 z2 hpl hdl hpb ZY aa3
 have NI:Hid (∀ x∈ky p,x.size<=140737488355328):=fun x hx=>by
  obtain ⟨q,q1,rfl⟩:=EC hx
  obtain ⟨_,_,_,_,_,ys,hy,_⟩:=sp.get (i:=q) (by rw [<- sp.1];exact q1)
  exact hy.2
 clear sp
 have NH:Hid (((bK id (wh i++ky p)).length:Int)=((aN dh ay (wh i++bK id (ky p))).length:Int)):=by rw [Hid,zHD]
 have hn:(jK (bK Prod.fst V)).Nodup:=zGz Prod.fst V
 have hk0:Hid (∀ c,keepV V (iN i) c=keepV (bK Prod.fst V) (iN i) c):=fun c=>Jo V _ c
 have hv0:(bK Prod.fst V).length<=V.length:=El _ _
 have Ug:Hid (∀ x∈bK id (ky p),x.size<=140737488355328):=fun x hx=>NI.out x ((P9 _ _).1 hx)
 have NJ:Hid ((bK id (ky p)).length*16<=140737488351232):=by have h1:=ND.out.1;have h2:=El id (ky p);rw [Hid];omega
 clear NI
 have NI:=Ug
 clear Ug
 obtain ⟨mU,JS⟩:∃ l,l=bK id (ky p):=⟨_,rfl⟩
 have abO:Hid (mU=bK id (ky p)):=JS
 rw [<- JS] at NH NI NJ |-
 clear JS
 obtain ⟨Q,hQ⟩:∃ Q,Q=bK Prod.fst V:=⟨_,rfl⟩
 rw [<- hQ] at MX hn hk0 hv0 |-
 clear hQ
 obtain ⟨NL,yh⟩:∃ NL,NL=iN i:=⟨_,rfl⟩
 rw [<- yh] at MX HU hk0 |-
 clear yh
 generalize ky p=claims at *
 generalize wh i=lN at *
 change is[8]?=some (.int .i64 (Dr i)) at i8
 generalize Dr i=xI at *
 obtain ⟨r,hr⟩:∃ r,r=sH (Q,CL) KL NL mU lN xI:=⟨_,rfl⟩
 rw [<- hr]
 have Hr:Hid (r=sH (Q,CL) KL NL mU lN xI):=hr
 clear hr
 go_enter func55,ntmps55
 go_upto_region 1 with fail
 rw [<- hW1,<- hW2,<- hW3]
 clear hW1 hW2 hW3
 go_wp2_with (first | (refine wpList_load_mid rfl 29 _ rfl (w.heap.size+1+1) 0 rfl [v0,v1,.slice va vn vc,.slice ca cn cc,.slice ka kn kc,v5] _ HRs.out underlying29 rfl mG ?_) | fail)
 refine MX.mono ?_
 rintro e w4 ⟨mc,mv,mk,mE,mr,mD,rfl,nc,nv,nk,rl,dl,g1,g2,g3⟩
 clear MX c1 HRs
 have b4:Below W3.heap.size W3 w4:=rl.below
 obtain ⟨U,hU⟩:∃ U,U=(w4.alloc (.cells #[.slice none 0 0,.slice none 0 0,.map none,.slice none 0 0,.map none,.slice none 0 0,.map none,.slice none 0 0,.slice none 0 0] 171)).setCells w4.heap.size 0 [.slice la ln lc,.slice ca cn cc,.map (some mc),.slice va vn vc,.map (some mv),.slice ka kn kc,.map (some mk),.slice mE mr mD,.slice none 0 0]:=⟨_,rfl⟩
 have eP:Hid ((w4.alloc (.cells #[.slice none 0 0,.slice none 0 0,.map none,.slice none 0 0,.map none,.slice none 0 0,.map none,.slice none 0 0,.slice none 0 0] 171)).there w4.heap.size 0 (#[.slice la ln lc,.slice ca cn cc,.map (some mc),.slice va vn vc,.map (some mv),.slice ka kn kc,.map (some mk),.slice mE mr mD,.slice none 0 0]:Array Value).size):=(af.new w4 171 [.slice none 0 0,.slice none 0 0,.map none,.slice none 0 0,.map none,.slice none 0 0,.map none,.slice none 0 0,.slice none 0 0]).there
 have Ul:Hid (U=(w4.alloc (.cells #[.slice none 0 0,.slice none 0 0,.map none,.slice none 0 0,.map none,.slice none 0 0,.map none,.slice none 0 0,.slice none 0 0] 171)).setCells w4.heap.size 0 (#[.slice la ln lc,.slice ca cn cc,.map (some mc),.slice va vn vc,.map (some mv),.slice ka kn kc,.map (some mk),.slice mE mr mD,.slice none 0 0]:Array Value).toList):=by rw [Hid,hU]
 have mO:Hid ((#[.slice la ln lc,.slice ca cn cc,.map (some mc),.slice va vn vc,.map (some mv),.slice ka kn kc,.map (some mk),.slice mE mr mD,.slice none 0 0]:Array Value).all (·.oneCell')=true):=by rw [Hid];simp [Value.oneCell']
 have bU:Below w4.heap.size w4 U:=by rw [hU];exact cu ((Below.refl _ _).alloc (Nat.le_refl _) _) (Nat.le_refl _)
 have qU:af U w4.heap.size [.slice la ln lc,.slice ca cn cc,.map (some mc),.slice va vn vc,.map (some mv),.slice ka kn kc,.map (some mk),.slice mE mr mD,.slice none 0 0]:=by rw [hU];exact dL (af.new w4 171 [.slice none 0 0,.slice none 0 0,.map none,.slice none 0 0,.map none,.slice none 0 0,.map none,.slice none 0 0,.slice none 0 0]) rfl
 clear hU
 obtain ⟨X,hX⟩:∃ X,X=w4.heap.size:=⟨_,rfl⟩
 have H4:Hid (∀ z,Below U.heap.size U z->aV z mc (CL.map Prod.fst)/\aV z mv (V.map Prod.fst)/\aV z mk (KL.map Prod.fst)/\Row ai 5 (fun b=>b<W3.heap.size) W3 z 59 (.slice mE mr mD) (bJ NL Q [])/\af z X [.slice la ln lc,.slice ca cn cc,.map (some mc),.slice va vn vc,.map (some mv),.slice ka kn kc,.map (some mk),.slice mE mr mD,.slice none 0 0]/\Below W3.heap.size W3 z/\X<U.heap.size/\U.heap.size<=z.heap.size):=fun z hb=>by
  have h1:=ah bU hb
  exact ⟨nc.on h1,nv.on h1,nk.on h1,rl.on ai.ae h1,by rw [hX];exact qU.on hb,ah b4 h1,by rw [hX];exact qU.1,hb.size⟩
 have H5:Hid (W3.heap.size<=X/\mc<X/\mv<X/\mk<X/\(∀ b,(Value.slice mE mr mD).ownBlock=some b->W3.heap.size<=b/\b<X/\b≠mc/\b≠mv/\b≠mk)):=⟨by rw [hX];exact b4.size,by rw [hX];exact nc.lt,by rw [hX];exact nv.lt,by rw [hX];exact nk.lt,fun b hb=>⟨(rl.lt hb).1,by rw [hX];exact (rl.lt hb).2,dl b hb⟩⟩
 rw [<- hX] at eP Ul
 have HX:Hid (X=w4.heap.size):=hX
 clear nc nv nk rl dl g1 g2 g3 b4 bU qU hX
 go_upto_region 2 with (first | (refine wpList_store_mid rfl 171 _ _ rfl w4.heap.size 0 #[.slice la ln lc,.slice ca cn cc,.map (some mc),.slice va vn vc,.map (some mv),.slice ka kn kc,.map (some mk),.slice mE mr mD,.slice none 0 0] rfl rfl (HX.out ▸ eP.out) yX mO.out ?_;refine kF (HX.out ▸ Ul.out) ?_) | fail)
 rw [<- HX.out]
 clear eP Ul mO
 obtain ⟨_,_,_,_,_,bU0,_,_⟩:=H4.out U (Below.refl _ _)
 obtain ⟨qa,_,_,_,_,_,sp,_,_⟩:=HU.out U bU0
 have cP:=(qa.2 13 _ Fv).1
 obtain ⟨Wb,kg⟩:∃ W,W=U.alloc (.cells #[.slice pa pn pc] 39):=⟨_,rfl⟩
 have mI:Below U.heap.size U Wb:=by rw [kg];go_grown
 have s1:ag vR 1 24 (fun _=>True) Wb (some ⟨U.heap.size,0,none⟩) 1 1 [claims]:=by rw [kg];exact Jc sp 39
 have yj:=Ym _ _ _ _ [claims] Wb s1 (by have h1:=ND.out.1;simp only [List.flatten_cons,List.flatten_nil,List.append_nil];omega)
 simp only [List.flatten_cons,List.flatten_nil,List.append_nil] at yj
 rw [<- abO.out] at yj
 have Uh:Hid (Below U.heap.size U Wb):=mI
 clear bU0 qa sp s1 mI
 go_wp2_with fail
 rw [<- kg]
 clear kg cP
 refine yj.mono ?_
 rintro e Wp ⟨nv5,rfl,r5⟩
 clear yj
 have b5:Below U.heap.size U Wp:=ah Uh.out r5.below
 have hsz5:U.heap.size<=Wb.heap.size:=Uh.out.size
 obtain ⟨na,nn,nb,rfl⟩:=r5.head
 obtain ⟨mN,mV,mK,rl,qX,bW,SX,hUW⟩:=H4.out Wp b5
 obtain ⟨Tu,h52,h53,h54,uR⟩:=H5.out
 obtain ⟨_,_,sl,sc,sv,sk,_,_,_⟩:=HU.out Wp bW
 have sn:ag au 1 16 (nu Wp X (.slice mE mr mD)) Wp na nn nb mU:=by
  have hlt:=fun b hb=>r5.lt (b:=b) hb
  obtain ⟨xs,q1,q2⟩:=r5
  obtain ⟨a',c',e',s'⟩:=yZ (bytes:=16) au.ae (A:=fun _=>False) q1.2 ((q2.flat au.flat)) NJ.out
  cases e'
  refine s'.weak au.ae (fun b _ hb=>?_)
  rcases hb with hb | hb
  ·exact hb.elim
  ·have h1:=hlt b hb
   exact ⟨h1.2,by omega,fun e=>by have h2:=(uR b e).2.1;omega⟩
 have hpc:wZ W3 Wp X (.slice mE mr mD) la ln lc ca cn cc mc va vn vc mv ka kn kc mk NL CL V KL:={
  bw:=bW
  l:=sl
  c:=sc
  v:=sv
  k:=sk
  mc:=⟨mN,by omega,by omega,fun e=>(uR _ e).2.2.1 rfl⟩
  mv:=⟨mV,by omega,by omega,fun e=>(uR _ e).2.2.2.1 rfl⟩
  ms:=⟨mK,by omega,by omega,fun e=>(uR _ e).2.2.2.2 rfl⟩
  x:=⟨Tu,by omega⟩
  g:=fun b hb=>⟨(uR b hb).1,by have:=(uR b hb).2.1;omega,by have:=(uR b hb).2.1;omega⟩
  hv:=MM }
 have hps:jO W3 Wp X (.slice mE mr mD) [.slice la ln lc,.slice ca cn cc,.map (some mc),.slice va vn vc,.map (some mv),.slice ka kn kc,.map (some mk)] NL Q Q.length Wp (.slice mE mr mD) (.slice none 0 0) (([]:List bH).map Prod.snd) []:={
  kp:=Kept.refl _ _
  bw:=bW
  bx:=qX
  lf:=rl
  lo:=rfl
  pk:=(Row.nil _ W3 _).on ak.ae bW
  po:=fun b hb=>by cases hb
  ln:=by rw [List.length_nil,Nat.zero_add];exact XT _ _ _
  cl:=rfl
  gx:=fun b hb=>⟨(uR b hb).1,by have:=(uR b hb).2.1;omega,by have:=(uR b hb).2.1;omega⟩
  xx:=⟨Tu,by omega⟩ }
 have HP:Hid (wZ W3 Wp X (.slice mE mr mD) la ln lc ca cn cc mc va vn vc mv ka kn kc mk NL CL V KL):=hpc
 have Hsn:Hid (ag au 1 16 (nu Wp X (.slice mE mr mD)) Wp na nn nb mU):=sn
 have hnn:Hid (mU.length=nn):=sn.1
 have hnl:=sn.len (by decide)
 have HI:Hid (∃ out lv pv,planL (Q,CL) KL NL (mU.take 0) []=.ok out/\jO W3 Wp X (.slice mE mr mD) [.slice la ln lc,.slice ca cn cc,.map (some mc),.slice va vn vc,.map (some mv),.slice ka kn kc,.map (some mk)] NL Q Q.length Wp lv pv (out.map Prod.snd) out):=⟨[],_,_,by rw [List.take_zero];rfl,hps⟩
 clear b5 hsz5 mN mV mK rl qX bW SX hUW Tu h52 h53 h54 uR sl sc sv sk sn hpc hps r5 H4 H5 Uh
 go_wp2_with fail
 go_loopw [22] (fun i wr=>∃ k:Nat,k<=nn/\i=.int .i64 k/\Hid (∃ out lv pv,planL (Q,CL) KL NL (mU.take k) []=.ok out/\jO W3 Wp X (.slice mE mr mD) [.slice la ln lc,.slice ca cn cc,.map (some mc),.slice va vn vc,.map (some mv),.slice ka kn kc,.map (some mk)] NL Q Q.length wr lv pv (out.map Prod.snd) out)) (fun i _=>nn - (intOf i).toNat)
 case atStart=>exact ⟨0,Nat.zero_le _,rfl,HI⟩
 case round =>
  obtain ⟨k,hk,rfl,hrun⟩:=hrel
  obtain ⟨out,lv,pv,hpl,hps⟩:=hrun.out
  clear hrun HI
  by_cases hlt:k<nn
  ·have hltz:(k:Int)<(nn:Int):=by omega
   have hkl:k<mU.length:=by rw [hnn.out];exact hlt
   obtain ⟨st1,st2,Zk⟩:=Fh hkl hpl
   have sw:=Hsn.out.kept au.ae hps.kp
   obtain ⟨B,off,rfl,hB,_,ys,hy,hyv⟩:=sw.get hlt
   obtain ⟨rfl,hnz⟩:=hy
   have d0:=hyv 0 _ rfl
   rw [Nat.mul_one,Nat.add_zero] at d0
   have Gu:=zGy W3 Wp X (.slice mE mr mD) la ln lc ca cn cc mc va vn vc mv ka kn kc mk NL CL V Q KL lv pv out (mU.getD k default) wr HP hps hn hk0 hv0 hnz
   have qN:Hid ((∀ e,gD (Q,CL) KL NL (out.map Prod.snd) (mU.getD k default)=.error e->planL (Q,CL) KL NL mU []=.error e)/\(gD (Q,CL) KL NL (out.map Prod.snd) (mU.getD k default)=.ok none->planL (Q,CL) KL NL (mU.take (k+1)) []=.ok out)/\∀ pk,gD (Q,CL) KL NL (out.map Prod.snd) (mU.getD k default)=.ok (some pk)->planL (Q,CL) KL NL (mU.take (k+1)) []=.ok (out++[pk])):=⟨st1,st2,Zk⟩
   clear st1 st2 Zk sw hyv hB hps hpl hnz
   generalize mU.getD k default=nm at d0 Gu qN
   go_wp2_with fail
   refine Gu.mono ?_
   rintro e w6 (⟨x,hx,hx0,rfl,b6⟩ | ⟨BR,pv',hx,rfl,p6⟩ | ⟨pk,BR,pv',hx,rfl,p6⟩)
   ·have HF:Hid (r=([],x)/\Below w.heap.size w w6):=⟨by rw [Hr.out];unfold sH;rw [qN.out.1 x hx],(HU.out w6 b6).2.2.2.2.2.2.2.2⟩
    clear Gu qN hx b6 d0
    go_wp2_with fail
    go_ret2
    exact ⟨none,0,0,by rw [HF.out.1];rfl,by rw [HF.out.1];exact ag.nil _ _ _ _ (fun _=>rfl),HF.out.2⟩
   ·have HN:Hid (∃ out lv pv,planL (Q,CL) KL NL (mU.take (k+1)) []=.ok out/\jO W3 Wp X (.slice mE mr mD) [.slice la ln lc,.slice ca cn cc,.map (some mc),.slice va vn vc,.map (some mv),.slice ka kn kc,.map (some mk)] NL Q Q.length w6 lv pv (out.map Prod.snd) out):=⟨out,BR,pv',qN.out.2.1 hx,p6⟩
    clear Gu qN hx p6 d0
    go_wp2_with fail
    go_roundw
    case rel=>exact ⟨k+1,by omega,by go_num,HN⟩
    case measure=>simp [intOf];omega
   ·have HN:Hid (∃ out lv pv,planL (Q,CL) KL NL (mU.take (k+1)) []=.ok out/\jO W3 Wp X (.slice mE mr mD) [.slice la ln lc,.slice ca cn cc,.map (some mc),.slice va vn vc,.map (some mv),.slice ka kn kc,.map (some mk)] NL Q Q.length w6 lv pv (out.map Prod.snd) out):=⟨out++[pk],BR,pv',qN.out.2.2 pk hx,p6⟩
    clear Gu qN hx p6 d0
    go_wp2_with fail
    go_roundw
    case rel=>exact ⟨k+1,by omega,by go_num,HN⟩
    case measure=>simp [intOf];omega
  ·rw [List.take_of_length_le (by rw [hnn.out];omega)] at hpl
   have hltz:¬ ((k:Int)<(nn:Int)):=by omega
   obtain ⟨ME,Mx,MC,rfl⟩:=hps.pk.head
   have HZ:Hid (∀ z,Below wr.heap.size wr z->z.cell? ⟨w.heap.size+1,14,none⟩=some (.slice da dn dc)/\z.cell? ⟨w.heap.size,13,none⟩=some (.slice pa pn pc)/\z.cell? ⟨w.heap.size+1,8,none⟩=some (.int .i64 xI)):=fun z hb=>by
    obtain ⟨q1,q2,_⟩:=HU.out z (ah hps.bw hb)
    exact ⟨(q2.2 14 _ i14).1,(q1.2 13 _ Fv).1,(q2.2 8 _ i8).1⟩
   have HY:Hid (∀ z,Below wr.heap.size wr z->ag au 1 16 (fun _=>True) z pa pn pc claims/\ag au 1 16 (fun _=>True) z da dn dc lN/\Below w.heap.size w z/\z.cell? ⟨X,8,none⟩=some (.slice ME Mx MC)/\ag ak 2 32 (fun _=>True) z ME Mx MC out):=fun z hb=>by
    obtain ⟨_,_,_,_,_,_,s7,s8,b9⟩:=HU.out z (ah hps.bw hb)
    have h9:=hps.on hb
    obtain ⟨_,_,_,e9,t9⟩:=h9.pk.iW (bytes:=32) ak.ae (by have:=h9.ln;omega)
    cases e9
    exact ⟨s7,s8,b9,(h9.bx.2 8 _ rfl).1,t9⟩
   have HR:Hid (r=if decide (xI<((bK id (lN++claims)).length:Int))=true then ([],15) else (out,0)):=by
    rw [Hid,Hr.out]
    unfold sH GH
    rw [hpl,NH.out]
   clear hps hpl HP Hsn Hr
   go_upto_region 9 with fail
   refine t0 (fun z=>Below wr.heap.size wr z) (Below.refl _ _).drew (fun gH=>?_)
   generalize hwd:wr.drew=wd at gH |-
   clear hwd
   try go_frame
   refine' tk 0 ?_ ?_;rotate_left
   ·intro u hu;obtain ⟨f1,f2,f3⟩:=HZ.out u hu;clear hu;go_simp;try with_reducible rfl
   try go_frame
   refine' tk 1 ?_ ?_;rotate_left
   ·intro u hu;obtain ⟨f1,f2,f3⟩:=HZ.out u hu;clear hu;go_simp;try with_reducible rfl
   try go_frame
   refine' tk 2 ?_ ?_;rotate_left
   ·intro u hu;obtain ⟨f1,f2,f3⟩:=HZ.out u hu;clear hu;go_simp;try with_reducible rfl
   try go_frame
   refine' tk 3 ?_ ?_;rotate_left
   ·intro u hu;obtain ⟨f1,f2,f3⟩:=HZ.out u hu;clear hu;go_simp;try with_reducible rfl
   try go_frame
   refine' tk 7 ?_ ?_;rotate_left
   ·intro u hu;obtain ⟨f1,f2,f3⟩:=HZ.out u hu;clear hu;go_simp;try with_reducible rfl
   try go_frame
   refine' tk 8 ?_ ?_;rotate_left
   ·intro u hu;obtain ⟨f1,f2,f3⟩:=HZ.out u hu;clear hu;go_simp;try with_reducible rfl
   try go_frame
   refine' tk 9 ?_ ?_;rotate_left
   ·intro u hu;obtain ⟨f1,f2,f3⟩:=HZ.out u hu;clear hu;go_simp;try with_reducible rfl
   try go_frame
   obtain ⟨t1,t2,_,_,_⟩:=HY.out wd gH
   obtain ⟨Wc,hWc⟩:∃ W,W=wd.alloc (.cells #[.slice da dn dc,.slice pa pn pc] 39):=⟨_,rfl⟩
   have bWc:Below wr.heap.size wr Wc:=by rw [hWc];exact ah gH ((Below.refl _ _).alloc (Nat.le_refl _) _)
   have s2:ag vR 1 24 (fun _=>True) Wc (some ⟨wd.heap.size,0,none⟩) 2 2 [lN,claims]:=by rw [hWc];exact IL t2 t1 39
   have yj:=Ym _ _ _ _ [lN,claims] Wc s2 (by have h1:=ND.out;simp only [List.flatten_cons,List.flatten_nil,List.append_nil,List.length_append];omega)
   simp only [List.flatten_cons,List.flatten_nil,List.append_nil] at yj
   refine tr 4 (fun K hK=>?_)
   go_simp
   refine hK.out _ _ (hWc ▸ bWc) (fun gI=>?_)
   rw [<- hWc] at gI |-
   clear hK K gH;have gH:=gI;clear gI
   try go_frame
   clear hWc t1 t2 s2
   refine tr 5 (fun K hK=>?_)
   go_simp
   refine yj.mono ?_
   rintro e w8 ⟨v8,rfl,r8⟩
   have b8:=ah gH r8.below
   obtain ⟨e1,e2,e3,rfl,s8⟩:=r8.iW (bytes:=8) au.ae (by have h1:=ND.out;have h2:=El id (lN++claims);rw [List.length_append] at h2;omega)
   have he2:((bK id (lN++claims)).length:Int)=(e2:Int):=by rw [s8.1]
   have HR2:Hid (r=if decide (xI<(e2:Int))=true then ([],15) else (out,0)):=by rw [Hid,<- he2];exact HR.out
   go_wp2_with fail
   refine hK.out _ _ b8 (fun gI=>?_)
   clear hK K gH;have gH:=gI;clear gI
   try go_frame
   clear r8 s8 he2 HR yj bWc
   refine tp 6 ?_
   try go_frame
   refine tp 10 ?_
   try go_frame
   refine tz ?_
   obtain ⟨_,_,b9,cX,s9⟩:=HY.out w8 b8
   clear HY HZ gH b8
   by_cases hd:xI<(e2:Int)
   ·have HF:Hid (r=([],15)/\Below w.heap.size w w8):=⟨by rw [HR2.out,if_pos (by simpa using hd)],b9⟩
    clear HR2 cX s9 b9
    go_wp2_with fail
    go_ret2
    exact ⟨none,0,0,by rw [HF.out.1];rfl,by rw [HF.out.1];exact ag.nil _ _ _ _ (fun _=>rfl),HF.out.2⟩
   ·have HF:Hid (r=(out,0)/\Below w.heap.size w w8/\ag ak 2 32 (fun _=>True) w8 ME Mx MC out):=⟨by rw [HR2.out,if_neg (by simpa using hd)],b9,s9⟩
    clear HR2 s9 b9
    go_wp2_with fail
    go_ret2
    exact ⟨ME,Mx,MC,by rw [HF.out.1];rfl,by rw [HF.out.1];exact HF.out.2.2,HF.out.2.1⟩
def iG (p:aB) (i:bC) (x:aP):List bH×Int:=sH (bK Prod.fst (gL x),iR x) (tN x) (iN i) (bK id (ky p)) (wh i) (Dr i)
theorem zGD (ps:List Value) (p:aB) (is:List Value) (i:bC) (cs:List Value) (x:aP) (w:World) (hp:Hid (aj (fun _=>True) w ps p)) (hi:Hid (aY (fun _=>True) w is i)) (h:Hid (aK (fun _=>True) w cs x)) :
  Calls prog 55 #[.agg ps.toArray,.agg is.toArray,.agg cs.toArray] w (PPl w (iG p i x)):=by
 obtain ⟨⟨a0,n0,m0⟩,⟨a1,n1,m1⟩,⟨a2,n2,m2⟩,⟨a3,n3,m3⟩,⟨a4,n4,m4⟩,⟨a5,n5,m5⟩,rfl,s0,s1,s2,s3,s4,s5⟩:=h.out.out
 simp only at s2 s3 s4
 have h80:=s2.2.2.2.1
 have hl:=s2.1
 exact zGG ps p is i _ _ _ a3 n3 m3 a2 n2 m2 a4 n4 m4 (iR x) (gL x) (tN x) w hp hi s3 (ag.Pz s2 (by decide)) s4 (by rw [hl];omega)
def Aw (why:Int) (picks:List bH) (w:World) (e:Ending) (w':World):Prop:=∃ a n c,e=.returned (.tuple #[.int .i64 why,.slice a n c])/\ag ak 2 32 (fun _=>True) w' a n c picks/\Below w.heap.size w w'
theorem I8 (Bp:Nat) (ps:List Value) (p:aB) (is:List Value) (i:bC) (w:World) (qp:af w Bp ps) (hp:aj (fun _=>True) w ps p) (hi:aY (fun _=>True) w is i)  :
  Calls prog 48 #[.agg is.toArray,.pointer (some ⟨Bp,0,none⟩)] w (Aw (sD p i) [] w):=by
 have ma:(prog.info? 41).map (·.size)=some ps.length:=by rw [aj.ae.len hp];exact kY
 have sJ:(prog.info? 70).map (·.size)=some is.length:=by rw [aY.ae.len hi];exact A9
 obtain ⟨W1,hW1⟩:∃ W,W=w.alloc (.cells is.toArray 70):=⟨_,rfl⟩
 have B1:Below w.heap.size w W1:=by rw [hW1];exact (Below.refl _ _).alloc (Nat.le_refl _) _
 have qi:af W1 w.heap.size is:=by rw [hW1];exact af.new w 70 is
 have HR1:Hid (W1.rangeAt Bp 0 ps):=(qp.on B1).range
 have HR2:Hid (W1.rangeAt w.heap.size 0 is):=qi.range
 have HB1:Hid (Below w.heap.size w W1):=B1
 have lB:=(qp.on B1).1
 have lI:=qi.1
 have hC:=zEY ps is _ p i W1 (aj.ae.kept hp (Kept.below B1)) (aY.ae.kept hi (Kept.below B1))
 clear qp hp hi B1 qi
 go_enter func48,ntmps48
 go_upto_region 1 with fail
 rw [<- hW1]
 clear hW1
 go_wp2_with (first | (refine wpList_load_mid rfl 41 _ rfl Bp 0 rfl ps _ HR1.out underlying41 rfl ma ?_) | (refine wpList_load_mid rfl 70 _ rfl w.heap.size 0 rfl is _ HR2.out underlying70 rfl sJ ?_) | fail)
 refine hC.mono ?_
 rintro e u1 ⟨rfl,d1⟩
 have HE:Hid (Below w.heap.size w u1):=ah HB1.out d1
 clear hC d1
 go_wp2_with fail
 go_ret2
 exact ⟨none,0,0,rfl,ag.nil _ _ _ _ (fun _=>rfl),HE.out⟩
theorem I7 (Bp:Nat) (ps:List Value) (p:aB) (Bl:Nat) (b:Option Addr) (m c:Nat) (Pl:List aM) (is:List Value) (i:bC) (w:World) (qp:af w Bp ps) (hp:aj (fun _=>True) w ps p) (hi:aY (fun _=>True) w is i) (ql:af w Bl [.slice b m c]) (hl:ag aL 17 320 (fun _=>True) w b m c Pl) (hn:(jI p).length<1000000000) (hm:(bB p).length<1000000000) (MR:cost Pl<70368744177000) :
  Calls prog 50 #[.agg is.toArray,.pointer (some ⟨Bp,0,none⟩),.pointer (some ⟨Bl,0,none⟩)] w (Aw (wP p (iN i) Pl) [] w):=by
 have ma:(prog.info? 41).map (·.size)=some ps.length:=by rw [aj.ae.len hp];exact kY
 have sJ:(prog.info? 70).map (·.size)=some is.length:=by rw [aY.ae.len hi];exact A9
 obtain ⟨W1,hW1⟩:∃ W,W=w.alloc (.cells is.toArray 70):=⟨_,rfl⟩
 have B1:Below w.heap.size w W1:=by rw [hW1];exact (Below.refl _ _).alloc (Nat.le_refl _) _
 have qi:af W1 w.heap.size is:=by rw [hW1];exact af.new w 70 is
 have HR1:Hid (W1.rangeAt Bp 0 ps):=(qp.on B1).range
 have HR2:Hid (W1.rangeAt w.heap.size 0 is):=qi.range
 have HB1:Hid (Below w.heap.size w W1):=B1
 have lB:=(qp.on B1).1
 have lI:=qi.1
 obtain ⟨⟨la,ln,lc⟩,_,i1,_,_,sl,_⟩:=hi.zz
 simp only at i1 sl
 have y1:=(qi.2 1 _ i1).1
 have yl:=((ql.on B1).2 0 _ rfl).1
 have lBl:=(ql.on B1).1
 have hC:=zEc ps _ _ _ p la ln lc (iN i) b m c Pl W1 (aj.ae.kept hp (Kept.below B1)) (sl.on ak.ae B1) (hl.on aL.ae B1) hn hm MR
 clear qp hp hi B1 qi
 go_enter func50,ntmps50
 go_upto_region 1 with fail
 rw [<- hW1]
 clear hW1
 go_wp2_with (first | (refine wpList_load_mid rfl 41 _ rfl Bp 0 rfl ps _ HR1.out underlying41 rfl ma ?_) | (refine wpList_load_mid rfl 70 _ rfl w.heap.size 0 rfl is _ HR2.out underlying70 rfl sJ ?_) | fail)
 refine hC.mono ?_
 rintro e u1 ⟨rfl,d1⟩
 have HE:Hid (Below w.heap.size w u1):=ah HB1.out d1
 clear hC d1
 go_wp2_with fail
 go_ret2
 exact ⟨none,0,0,rfl,ag.nil _ _ _ _ (fun _=>rfl),HE.out⟩
theorem I6 (Bp:Nat) (ps:List Value) (p:aB) (Bs:Nat) (s0:Value) (na:Option Addr) (nn nc:Nat) (s2 s3 s4 s5:Value) (N:List aX) (Bl:Nat) (b:Option Addr) (m c:Nat) (Pl:List aM) (is:List Value) (i:bC) (w:World) (qp:af w Bp ps) (hp:aj (fun _=>True) w ps p) (hi:aY (fun _=>True) w is i) (qs:af w Bs [s0,.slice na nn nc,s2,s3,s4,s5]) (hN:ag av 9 112 (fun _=>True) w na nn nc N) (ql:af w Bl [.slice b m c]) (hl:ag aL 17 320 (fun _=>True) w b m c Pl) :
  Calls prog 52 #[.agg is.toArray,.pointer (some ⟨Bp,0,none⟩),.pointer (some ⟨Bs,0,none⟩),.pointer (some ⟨Bl,0,none⟩)] w (Aw (nR 12 p (iN i) N Pl) [] w):=by
 have ma:(prog.info? 41).map (·.size)=some ps.length:=by rw [aj.ae.len hp];exact kY
 have sJ:(prog.info? 70).map (·.size)=some is.length:=by rw [aY.ae.len hi];exact A9
 obtain ⟨W1,hW1⟩:∃ W,W=w.alloc (.cells is.toArray 70):=⟨_,rfl⟩
 have B1:Below w.heap.size w W1:=by rw [hW1];exact (Below.refl _ _).alloc (Nat.le_refl _) _
 have qi:af W1 w.heap.size is:=by rw [hW1];exact af.new w 70 is
 have HR1:Hid (W1.rangeAt Bp 0 ps):=(qp.on B1).range
 have HR2:Hid (W1.rangeAt w.heap.size 0 is):=qi.range
 have HB1:Hid (Below w.heap.size w W1):=B1
 have lB:=(qp.on B1).1
 have lI:=qi.1
 obtain ⟨⟨la,ln,lc⟩,_,i1,_,_,sl,_⟩:=hi.zz
 simp only at i1 sl
 have y1:=(qi.2 1 _ i1).1
 have yl:=((ql.on B1).2 0 _ rfl).1
 have lBl:=(ql.on B1).1
 have yn:=((qs.on B1).2 1 _ rfl).1
 have lBs:=(qs.on B1).1
 have hC:=zHc ps p la ln lc (iN i) na nn nc N b m c Pl W1 (aj.ae.kept hp (Kept.below B1)) (sl.on ak.ae B1) (hN.on av.ae B1) (hl.on aL.ae B1)
 clear qp hp hi B1 qi
 go_enter func52,ntmps52
 go_upto_region 1 with fail
 rw [<- hW1]
 clear hW1
 go_wp2_with (first | (refine wpList_load_mid rfl 41 _ rfl Bp 0 rfl ps _ HR1.out underlying41 rfl ma ?_) | (refine wpList_load_mid rfl 70 _ rfl w.heap.size 0 rfl is _ HR2.out underlying70 rfl sJ ?_) | fail)
 refine hC.mono ?_
 rintro e u1 ⟨rfl,d1⟩
 have HE:Hid (Below w.heap.size w u1):=ah HB1.out d1
 clear hC d1
 go_wp2_with fail
 go_ret2
 exact ⟨none,0,0,rfl,ag.nil _ _ _ _ (fun _=>rfl),HE.out⟩
theorem I5 (Bp:Nat) (ps:List Value) (p:aB) (Bs:Nat) (ss:List Value) (x:aP) (is:List Value) (i:bC) (w:World) (qp:af w Bp ps) (hp:aj (fun _=>True) w ps p) (hi:aY (fun _=>True) w is i) (qs:af w Bs ss) (hs:aK (fun _=>True) w ss x) :
  Calls prog 54 #[.agg is.toArray,.pointer (some ⟨Bp,0,none⟩),.pointer (some ⟨Bs,0,none⟩)] w (Aw (iG p i x).2 (iG p i x).1 w):=by
 have ma:(prog.info? 41).map (·.size)=some ps.length:=by rw [aj.ae.len hp];exact kY
 have sJ:(prog.info? 70).map (·.size)=some is.length:=by rw [aY.ae.len hi];exact A9
 obtain ⟨W1,hW1⟩:∃ W,W=w.alloc (.cells is.toArray 70):=⟨_,rfl⟩
 have B1:Below w.heap.size w W1:=by rw [hW1];exact (Below.refl _ _).alloc (Nat.le_refl _) _
 have qi:af W1 w.heap.size is:=by rw [hW1];exact af.new w 70 is
 have HR1:Hid (W1.rangeAt Bp 0 ps):=(qp.on B1).range
 have HR2:Hid (W1.rangeAt w.heap.size 0 is):=qi.range
 have HB1:Hid (Below w.heap.size w W1):=B1
 have lB:=(qp.on B1).1
 have lI:=qi.1
 have mG:(prog.info? 29).map (·.size)=some ss.length:=by rw [aK.ae.len hs];exact oN
 have HR3:Hid (W1.rangeAt Bs 0 ss):=(qs.on B1).range
 have lBs:=(qs.on B1).1
 have hC:=zGD ps p is i ss x W1 (aj.ae.kept hp (Kept.below B1)) (aY.ae.kept hi (Kept.below B1)) (aK.ae.kept hs (Kept.below B1))
 clear qp hp hi B1 qi
 go_enter func54,ntmps54
 go_upto_region 1 with fail
 rw [<- hW1]
 clear hW1
 go_wp2_with (first | (refine wpList_load_mid rfl 41 _ rfl Bp 0 rfl ps _ HR1.out underlying41 rfl ma ?_) | (refine wpList_load_mid rfl 70 _ rfl w.heap.size 0 rfl is _ HR2.out underlying70 rfl sJ ?_) | (refine wpList_load_mid rfl 29 _ rfl Bs 0 rfl ss _ HR3.out underlying29 rfl mG ?_) | fail)
 refine hC.mono ?_
 rintro e u1 ⟨a,n,c,rfl,sl,d1⟩
 have HE:Hid (ag ak 2 32 (fun _=>True) u1 a n c (iG p i x).1/\Below w.heap.size w u1):=⟨sl,ah HB1.out d1⟩
 obtain ⟨y,hy⟩:∃ y,(iG p i x).2=y:=⟨_,rfl⟩
 have HY:Hid ((iG p i x).2=y):=hy
 rw [hy]
 clear hC d1 sl hy
 go_wp2_with fail
 go_ret2
 exact ⟨a,n,c,by rw [HY.out];rfl,HE.out.1,HE.out.2⟩
end Go.Proofs.YtgikfenllgldoaaGreat
