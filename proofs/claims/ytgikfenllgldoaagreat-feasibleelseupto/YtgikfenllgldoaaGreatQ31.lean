/- Functions of the program, each walked under the conditions that its theorem names. -/
import Derived.Test.YtgikfenllgldoaaGreatQ00
import Derived.BigRegion
import Derived.Test.YtgikfenllgldoaaGreatQ25
import Derived.Test.YtgikfenllgldoaaGreatQ27
set_option linter.unusedSimpArgs false
set_option maxRecDepth 100000
set_option maxHeartbeats 32000000
namespace Go.Proofs.YtgikfenllgldoaaGreat
open Go.Proofs.Tryz
open Go.RowKit Go.Maps
theorem YG {w:World} {mb N:Nat} {f:aG->Int} (hc:Hid (bF w mb N f)) (a:Option Addr) (n cap:Nat) (A:Where) (L:List aG) (key:ByteArray) (hL:Hid (ag ak 2 32 A w a n cap L)) (hk:key.size<=140737488355328) :
  Calls prog 135 #[.map (some mb),.slice a n cap,.string key] w fun e w'=>e=.returned (.bool ((getL L key).2 && decide (0<f (gG L key))))/\Below w.heap.size w w':=by
 have hD:=Qs a n cap A L key w hL
 have HO:Hid ((getL L key).2=true->iY (gG L key)):=Ae hk (AU hL.out)
 obtain ⟨b,hb⟩:∃ b,decide (0<f (gG L key))=b:=⟨_,rfl⟩
 have Oj:Hid (0<f (gG L key)↔b=true):=by rw [Hid,<- hb];simp
 rw [hb]
 simp only [gG] at HO Oj |-
 clear hL hb
 generalize (getL L key).1=v at hD HO Oj
 generalize (getL L key).2=t at hD HO |-
 have HC:Hid (t=true->∀ u,Below w.heap.size w u->(Instr.lookup 157 (.map (some mb)) (.agg #[.string key,.string v]) false).run prog u=.ok (.int .i64 (f (key,v))) u):=fun ht u hb=>(hc.out.on hb).look _ underlying157 (HO.out ht)
 generalize f (key,v)=c at HC Oj
 clear hc HO f
 go_enter func135,ntmps135
 go_wp2_with fail
 refine hD.mono ?_
 clear hD
 rintro e w1 ⟨rfl,hb1⟩
 cases t
 ·go_wp2_with fail
  go_ret
  exact ⟨rfl,ah hb1 (by go_grown)⟩
 ·have hlk:=HC.out rfl (w1.alloc (.cells #[.string key,.string v] 228)) (ah hb1 (by go_grown))
  clear HC
  go_wp2_with fail
  go_ret
  have h2:=Oj.out
  exact ⟨by cases b <;> simp_all,ah hb1 (by go_grown)⟩
theorem aL.reads {A:Where} {w:World} {cs:List Value} {x:aM} (h:aL A w cs x):∃ h2 h11 h16:Hd,cs[0]?=some (.string x.1.1)/\cs[2]?=some (.slice h2.1 h2.2.1 h2.2.2)/\cs[11]?=some (.slice h11.1 h11.2.1 h11.2.2)/\cs[16]?=some (.slice h16.1 h16.2.1 h16.2.2)/\ag ak 2 32 A w h2.1 h2.2.1 h2.2.2 (bG x.1)/\ag bT 2 40 A w h11.1 h11.2.1 h11.2.2 (bB x.1)/\ag ak 2 32 A w h16.1 h16.2.1 h16.2.2 x.2:=by
 obtain ⟨c,d,rfl,h1,⟨a,n,cap,rfl,h3⟩⟩:=h
 obtain ⟨h2,h6,h7,h8,h9,h10,h11,h12,aO,rfl,_,s2,_,_,_,_,_,s11,_,_,_,_⟩:=h1.out
 exact ⟨h2,h11,(a,n,cap),rfl,rfl,rfl,rfl,s2,s11,h3⟩
theorem Xz {g:aG->Int} {b:Bool} {q r:aG->Bool} {c:Int} (h:∀ d,r d=(b && q d)):(b=true->eQ g q c=eQ g r c)/\(b=false->∀ d,g d=eQ g r c d):=by
 refine ⟨fun e=>?_,fun e=>X6 (fun d=>by rw [h d,e];rfl)⟩
 funext d
 unfold eQ
 rw [h d,e]
 rfl
theorem YN {w:World} {mb N:Nat} {g:aG->Int} (hc:Hid (bF w mb N g)) (hN:N<70368744177664) (b1:Option Addr) (b2 b3:Nat) (A:Where) (R:List Ask) (key:ByteArray) (cs:List Value) (x:aM) (dx:Int) (hx:Hid (aL A w cs x)) (hr:Hid (ag aU 3 48 A w b1 b2 b3 R)) (hk:key.size<=140737488355328) (hby:dx=1\/dx=-1) :
  Calls prog 103 #[.agg #[.slice b1 b2 b3,.string key,.map (some mb)],.agg cs.toArray,.int .i64 dx] w fun e w'=>e=.returned (.tuple #[])/\bF w' mb (N+1) (eQ g (hT (R,key) x) dx)/\bq (fun b=>b=mb) w w':=by
 obtain ⟨⟨a2,n2,m2⟩,_,⟨a16,n16,m16⟩,_,e2,_,e16,s2,_,s16⟩:=hx.out.reads
 simp only at e2 e16 s2 s16
 have vo:=Xz (g:=g) (b:=bE (bG x.1) R) (q:=qL x.2 key) (r:=hT (R,key) x) (c:=dx) (fun d=>rfl)
 obtain ⟨W2,hW2⟩:∃ W,W=(w.alloc (.cells #[.slice b1 b2 b3,.string key,.map (some mb)] 192)).alloc (.cells cs.toArray 145):=⟨_,rfl⟩
 have B2:Below w.heap.size w W2:=by rw [hW2];go_grown
 have q0:af W2 w.heap.size [.slice b1 b2 b3,.string key,.map (some mb)]:=by rw [hW2];exact (af.new w 192 _).on ((Below.refl _ _).alloc (Nat.le_refl _) _)
 have q1:af W2 (w.heap.size+1) cs:=by have h1:=af.new (w.alloc (.cells #[.slice b1 b2 b3,.string key,.map (some mb)] 192)) 145 cs;rw [hW2];simpa using h1
 have HM:=yY a2 n2 m2 A (bG x.1) b1 b2 b3 A R W2 (s2.on ak.ae B2) (hr.out.on aU.ae B2)
 have HQ:Hid (∀ u,Below W2.heap.size W2 u->af u w.heap.size [.slice b1 b2 b3,.string key,.map (some mb)]/\af u (w.heap.size+1) cs/\bF u mb N g/\ag ak 2 32 A u a16 n16 m16 x.2/\Below w.heap.size w u):=fun u hb=>⟨q0.on hb,q1.on hb,(hc.out.on B2).on hb,(s16.on ak.ae B2).on ak.ae hb,ah B2 hb⟩
 have c0:=(q0.2 0 _ rfl).1
 have c2:=(q1.2 2 _ e2).1
 have HE:Hid (cs[16]?=some (.slice a16 n16 m16)):=e16
 clear hc hx hr s2 s16 q0 q1 B2 e2 e16
 generalize eQ g (hT (R,key) x) dx=g' at vo |-
 have HA2:Hid ((bE (bG x.1) R=true->eQ g (qL x.2 key) dx=g')/\(bE (bG x.1) R=false->∀ d,g d=g' d)):=vo
 clear vo
 generalize bE (bG x.1) R=t at HM HA2
 go_enter func103,ntmps103
 go_upto_region 1 with fail
 rw [<- hW2]
 clear hW2
 go_wp2_with fail
 refine HM.mono ?_
 clear HM c0 c2
 rintro e w3 ⟨rfl,hb3⟩
 obtain ⟨k0,k1,k2,k3,k4⟩:=HQ.out w3 hb3
 cases t
 ·have HC:Hid (bF w3 mb (N+1) g'/\Below w.heap.size w w3):=⟨(k2.mono (Nat.le_succ _)).as (HA2.out.2 rfl),k4⟩
  clear HQ HA2 k0 k1 k2 k3 k4 hb3
  go_wp2_with fail
  go_end0
  exact ⟨rfl,HC.out.1,bq.below HC.out.2⟩
 ·have HD:=YU (w:=w3) k2 hN a16 n16 m16 A x.2 key dx k3 hk hby
  rw [HA2.out.1 rfl] at HD
  have z1:=(k0.2 1 _ rfl).1
  have z2:=(k0.2 2 _ rfl).1
  have z16:=(k1.2 16 _ HE.out).1
  have HB:Hid (Below w.heap.size w w3):=k4
  clear HQ HA2 k0 k1 k2 k3 k4 hb3 HE
  go_wp2_with fail
  refine HD.mono ?_
  rintro e w4 ⟨rfl,hc4,uG⟩
  have UD:Hid (bF w4 mb (N+1) g'/\bq (fun b=>b=mb) w w4):=⟨hc4,(bq.below HB.out).trans uG⟩
  clear hc4 uG HD
  go_wp2_with fail
  go_end0
  exact ⟨rfl,UD.out⟩
theorem Row.Zl {α:Type} [Inhabited α] {R:bI α} {k:Nat} (hR:aJ R k) {bytes:Nat} {A:Where} {w0 u:World} {e:TypeId} {v:Value} {L:List α} (h:Row R k A w0 u e v L) (hb:L.length*bytes<=140737488351232) :
  ∃ a cap,v=.slice a L.length cap/\ag R k bytes (fun _=>True) u a L.length cap L:=by
 obtain ⟨xs,h1,h2⟩:=h
 obtain ⟨a,cap,e1,h3⟩:=yZ (bytes:=bytes) hR h1.2 h2 hb
 exact ⟨a,cap,e1,h3.weak hR (fun b _ _=>trivial)⟩
structure lT (w:World) (s:cz) (r1:Option Addr) (r2 r3 m1 m2:Nat) (N:List aX) (Q:List aM):Prop where
 n:∃ f k,bu w m1 k f (qD s.1 N)/\k*16<=140737488355328
 p:∃ q k,bu w m2 k (fun v=>bQ s v Q) q/\k<140737488355328
 r:ag aU 3 48 (fun _=>True) w r1 r2 r3 (jk s)
 z:∀ v∈dG s.1 N,v.size<=140737488355328
 l:(dG s.1 N).length*16<=140737488351232
theorem lT.on {w w':World} {s:cz} {r1:Option Addr} {r2 r3 m1 m2:Nat} {N:List aX} {Q:List aM} (h:lT w s r1 r2 r3 m1 m2 N Q) (hb:Below w.heap.size w w'):lT w' s r1 r2 r3 m1 m2 N Q:=by
 obtain ⟨f,k,h1,h2⟩:=h.n
 obtain ⟨q,k',h3,h4⟩:=h.p
 exact ⟨⟨f,k,h1.on hb,h2⟩,⟨q,k',h3.on hb,h4⟩,h.r.on aU.ae hb,h.z,h.l⟩
theorem zDy (s:cz) (r1:Option Addr) (r2 r3 m1 m2:Nat) (N:List aX) (Q:List aM) (w:World) (h:Hid (lT w s r1 r2 r3 m1 m2 N Q)) :
  Calls prog 174 #[.agg #[.string s.1,.int .i64 s.2.1,.int .i64 s.2.2.1,.slice r1 r2 r3,.map (some m1),.map (some m2)]] w fun e w'=>∃ v,e=.returned v/\Row au 1 (fun _=>False) w w' 9 v (dG s.1 N):=by
 obtain ⟨W1,hW1⟩:∃ W,W=w.alloc (.cells #[.string s.1,.int .i64 s.2.1,.int .i64 s.2.2.1,.slice r1 r2 r3,.map (some m1),.map (some m2)] 164):=⟨_,rfl⟩
 have B1:Below w.heap.size w W1:=by rw [hW1];go_grown
 have qx:af W1 w.heap.size (qg s r1 r2 r3 m1 m2):=by rw [hW1];exact af.new w 164 _
 have c4:=(qx.2 4 _ rfl).1
 obtain ⟨f,k,hm,hk⟩:=(h.out.on B1).n
 have hK:=zG0 (some m1) W1
 have hS:=zFP hm hk (XB _) (RA s.1 N) h.out.z
 have HB:Hid (Below w.heap.size w W1):=B1
 clear h hm hk qx B1
 go_enter func174,ntmps174
 go_upto_region 1 with fail
 rw [<- hW1]
 clear hW1
 go_wp2_with fail
 refine hK.mono ?_
 rintro e w1 ⟨rfl,rfl⟩
 go_wp2_with fail
 refine hS.mono ?_
 rintro e w2 ⟨v,rfl,hr⟩
 have HR:Hid (Row au 1 (fun _=>False) w w2 9 v (dG s.1 N)):=hr.from au.ae HB.out (fun _ h=>h)
 clear hS hK hr HB c4
 go_wp2_with fail
 go_ret
 exact ⟨v,rfl,HR.out⟩
def lQ (s:cz) (N:List aX) (Q:List aM):List Int:=(dG s.1 N).map (fun v=>((bQ s v Q:Nat):Int))
theorem RJ:(prog.info? 3).map (fun i=>(i.zero,i.size,i.bytes))=some (some (.int .i64 0),1,8):=by kernel_rfl
theorem FM {α β:Type} [Inhabited α] (g:α->β) {L:List α} {k:Nat} (h:k<L.length):(L.take (k+1)).map g=(L.take k).map g++[g (L.getD k default)]:=by
 rw [<- LD h,List.map_append]
 rfl
theorem zEp (s:cz) (r1:Option Addr) (r2 r3 m1 m2:Nat) (N:List aX) (Q:List aM) (w:World) (h:Hid (lT w s r1 r2 r3 m1 m2 N Q)) :
  Calls prog 136 #[.agg #[.string s.1,.int .i64 s.2.1,.int .i64 s.2.2.1,.slice r1 r2 r3,.map (some m1),.map (some m2)]] w fun e w'=>∃ v,e=.returned v/\Row aC 1 (fun _=>False) w w' 3 v (lQ s N Q):=by
 obtain ⟨W1,hW1⟩:∃ W,W=w.alloc (.cells #[.string s.1,.int .i64 s.2.1,.int .i64 s.2.2.1,.slice r1 r2 r3,.map (some m1),.map (some m2)] 164):=⟨_,rfl⟩
 have B1:Below w.heap.size w W1:=by rw [hW1];go_grown
 have qx:af W1 w.heap.size (qg s r1 r2 r3 m1 m2):=by rw [hW1];exact af.new w 164 _
 have c0:=(qx.2 0 _ rfl).1
 have c1:=(qx.2 1 _ rfl).1
 have c2:=(qx.2 2 _ rfl).1
 have c3:=(qx.2 3 _ rfl).1
 have c4:=(qx.2 4 _ rfl).1
 have c5:=(qx.2 5 _ rfl).1
 have hD:=zDy s r1 r2 r3 m1 m2 N Q W1 (h.out.on B1)
 have hbl:Hid ((dG s.1 N).length*16<=140737488351232):=h.out.l
 have HU:Hid (∀ u,Below W1.heap.size W1 u->u.cell? ⟨w.heap.size,5,none⟩=some (.map (some m2))/\∀ v:ByteArray,v.size<=140737488355328->(Instr.lookup 119 (.map (some m2)) (.string v) false).run prog u=.ok (.int .i64 ((bQ s v Q:Nat):Int)) u):=fun u hb=>by
  obtain ⟨q,k,h3,_⟩:=h.out.p
  exact ⟨((qx.on hb).2 5 _ rfl).1,fun v hv=>(h3.on (ah B1 hb)).look 119 underlying119 hv⟩
 have HB:Hid (Below w.heap.size w W1):=B1
 clear h qx B1
 go_enter func136,ntmps136
 go_upto_region 1 with fail
 rw [<- hW1]
 clear hW1
 go_wp2_with fail
 refine hD.mono ?_
 rintro e w2 ⟨v,rfl,hr⟩
 obtain ⟨a,cap,rfl,sv⟩:=hr.Zl (bytes:=16) au.ae hbl.out
 have B2:Below W1.heap.size W1 w2:=hr.below
 clear hD hr c0 c1 c2 c3 c4 c5
 generalize hn:(dG s.1 N).length=n at sv hbl
 have HN:Hid ((dG s.1 N).length=n):=hn
 clear hn
 have hlen:n<=9223372036854775807:=by have:=hbl.out;omega
 have jq:Hid (Row aC 1 (fun _=>False) w2 w2 3 (.slice none 0 0) (((dG s.1 N).take 0).map (fun v=>((bQ s v Q:Nat):Int)))):=Row.nil (fun _=>False) w2 3
 have HS:Hid (∀ u,Below w2.heap.size w2 u->ag au 1 16 (fun _=>True) u a n cap (dG s.1 N)/\u.cell? ⟨w.heap.size,5,none⟩=some (.map (some m2))/\∀ v:ByteArray,v.size<=140737488355328->(Instr.lookup 119 (.map (some m2)) (.string v) false).run prog u=.ok (.int .i64 ((bQ s v Q:Nat):Int)) u):=fun u hb=>⟨sv.on au.ae hb,HU.out u (ah B2 hb)⟩
 have HB2:Hid (Below w.heap.size w w2):=ah HB.out B2
 clear sv B2 HB HU
 go_wp2_with fail
 go_loopw [3,9] (fun t i wr=>∃ k:Nat,k<=n/\i=.int .i64 k/\Hid (Row aC 1 (fun _=>False) w2 wr 3 t (((dG s.1 N).take k).map (fun v=>((bQ s v Q:Nat):Int))))) (fun _ i _=>n - (intOf i).toNat)
 case atStart=>exact ⟨0,Nat.zero_le _,rfl,jq⟩
 case round =>
  obtain ⟨k,hk,rfl,hrow⟩:=hrel
  by_cases hlt:k<n
  ·have hltz:(k:Int)<(n:Int):=by omega
   have hkl:k<(dG s.1 N).length:=by rw [HN.out];exact hlt
   obtain ⟨sv,c5,hlk⟩:=HS.out wr hrow.out.below
   obtain ⟨B,off,rfl,hB,_,cs,hr,hv⟩:=sv.get hlt
   obtain ⟨rfl,hsz⟩:=hr
   have d0:=hv 0 _ rfl
   rw [Nat.mul_one,Nat.add_zero] at d0
   have Sl:=hlk _ hsz
   have HT:Hid (((dG s.1 N).take (k+1)).map (fun v=>((bQ s v Q:Nat):Int))=((dG s.1 N).take k).map (fun v=>((bQ s v Q:Nat):Int))++[((bQ s ((dG s.1 N).getD k default) Q:Nat):Int)]):=FM _ hkl
   have fK:Hid ((((dG s.1 N).take k).map (fun v=>((bQ s v Q:Nat):Int))).length=k):=by rw [Hid,List.length_map,List.length_take];omega
   clear sv hlk hv
   generalize (dG s.1 N).getD k default=dv at d0 Sl HT hsz
   generalize ((bQ s dv Q:Nat):Int)=c at Sl HT
   have hb3:Below wr.heap.size wr (wr.alloc (.cells #[.int .i64 c] 3)):=(Below.refl _ _).alloc (Nat.le_refl _) _
   have HR3:Hid (Row aC 1 (fun _=>False) w2 (wr.alloc (.cells #[.int .i64 c] 3)) 3 u3 (((dG s.1 N).take k).map (fun v=>((bQ s v Q:Nat):Int)))):=hrow.out.on aC.ae hb3
   have HE:aC (fun b=>False/\Value.ownBlock u3≠some b) (wr.alloc (.cells #[.int .i64 c] 3)) [.int .i64 c] c:=rfl
   have H1:Hid (∀ y∈[Value.int .i64 c],y.oneCell'=true):=aC.ae.one HE
   have gV:Hid (aW aC 1 (fun b=>False/\Value.ownBlock u3≠some b) (wr.alloc (.cells #[.int .i64 c] 3)) [.int .i64 c] [c]):=nJ aC.ae HE
   have HX:Hid (∀ j y,[Value.int .i64 c][j]?=some y->(wr.alloc (.cells #[.int .i64 c] 3)).cell? ((⟨wr.heap.size,0,none⟩:Addr).add j)=some y):=fun j y hj=>by
    have h1:=((af.new wr 3 [.int .i64 c]).2 j y hj).1
    rw [add_lit];simpa using h1
   have D8:Hid (((((dG s.1 N).take k).map (fun v=>((bQ s v Q:Nat):Int))).length+[c].length)*8<=140737488355328):=by
    have h2:=hbl.out
    rw [Hid,fK.out,List.length_singleton];omega
   clear HE hb3 hrow fK
   generalize ((dG s.1 N).take k).map (fun v=>((bQ s v Q:Nat):Int))=Pre at HT HR3 D8
   go_wp2_with (at_builtin;go_must (refine mh aC.ae (A:=(fun _=>False)) (w0:=w2) rfl _ _ 36 3 rfl _ 8 RJ underlying36 rfl (by decide) (by decide) u3 Pre rfl HR3.out ⟨wr.heap.size,0,none⟩ 1 1 _ [c] rfl rfl gV.out HX.out H1.out D8.out ?_);intro v4 w4 hrow4 hg4)
   have Uz:Hid (Row aC 1 (fun _=>False) w2 w4 3 v4 (((dG s.1 N).take (k+1)).map (fun v=>((bQ s v Q:Nat):Int)))):=by rw [Hid,HT.out];exact hrow4
   clear hrow4 hg4 HT HR3 gV HX H1
   go_roundw
   case rel=>exact ⟨k+1,by omega,by go_num,Uz⟩
   case measure=>simp [intOf];omega
  ·have hk':(dG s.1 N).take k=dG s.1 N:=List.take_of_length_le (by rw [HN.out];omega)
   have Uz:Hid (Row aC 1 (fun _=>False) w wr 3 u3 (lQ s N Q)):=by rw [hk'] at hrow;exact hrow.out.from aC.ae HB2.out (fun _ h=>h)
   clear hrow hk'
   go_wp2_with fail
   go_ret
   exact ⟨u3,rfl,Uz.out⟩
theorem zCV (a:Option Addr) (n cap:Nat) (A:Where) (L:List aD) (mb:Nat) (w:World) (hL:Hid (ag ai 5 72 A w a n cap L)) (hm:Hid (aV w mb (L.map Prod.fst))) (hrb:n*80<=140737488355328) :
  Calls prog 115 #[.agg #[.slice a n cap,.map (some mb)]] w (AR ai 5 (cZ A w) 59 w (bK Prod.fst L)):=by
 have hnl:Hid (L.length=n):=hL.out.1
 have hbn:Hid (n*72<=140737488351232):=hL.out.2.2.2.1
 have hlen:=hL.out.len (by decide)
 obtain ⟨W1,hW1⟩:∃ W,W=w.alloc (.cells #[.slice a n cap,.map (some mb)] 127):=⟨_,rfl⟩
 have B1:Below w.heap.size w W1:=by rw [hW1];go_grown
 have q1:af W1 w.heap.size [.slice a n cap,.map (some mb)]:=by rw [hW1];exact af.new w 127 _
 obtain ⟨F,hF⟩:∃ F,F=dN (L.map Prod.fst):=⟨_,rfl⟩
 have hFn:F.length<=n:=by have:=L9 (L.map Prod.fst);rw [hF,<- hnl.out];rwa [List.length_map] at this
 have hln:=(hm.out.on B1).len
 rw [<- hF] at hln
 obtain ⟨i0,hi0,hz0,hz1,hz2⟩:=info_parts LX
 obtain ⟨W2,hmk,hown,hg2⟩:=run_make_own (P:=prog) W1 W1.heap.size 24 59 i0 _ 5 underlying24 hi0 hz0 hz1 .i64 .i64 F.length (by rw [hz2];have:=hbn.out;omega) (by have:=hbn.out;have:=yU;omega) (Nat.le_refl _)
 have B2:Below W1.heap.size W1 W2:=(Below.refl _ _).grown hg2 (Nat.le_refl _) (fun k e=>by cases e)
 have r2:Row ai 5 (cZ A w) W1 W2 59 (.slice (some ⟨W1.heap.size,0,none⟩) 0 F.length) ((bK Prod.fst L).take 0):=⟨[],⟨B2,hown⟩,aW.nil _ _⟩
 have m2:=hm.out.on (ah B1 B2)
 have HU:Hid (∀ u,Below W1.heap.size W1 u->af u w.heap.size [.slice a n cap,.map (some mb)]/\ag ai 5 72 (cZ A w) u a n cap L/\Below w.heap.size w u):=fun u hb=>⟨q1.on hb,(hL.out.weak ai.ae (fun b hb h=>⟨h,hb⟩)).on ai.ae (ah B1 hb),ah B1 hb⟩
 have HA:Hid (∀ k,k<F.length->F.getD k default<n/\(bK Prod.fst L).take (k+1)=(bK Prod.fst L).take k++[L.getD (F.getD k default) default]/\(iU (L.map Prod.fst)).getD k default=((F.getD k default:Nat):Int)):=fun k hk=>by rw [hF] at hk |-;rw [<- hnl.out];exact Cu Prod.fst hk
 have xg:Hid ((iU (L.map Prod.fst)).length=F.length):=by rw [Hid,hF];unfold iU;rw [List.length_map]
 have Iq:Hid ((bK Prod.fst L).length=F.length):=by rw [Hid,hF];exact LH _ _
 have c1:=(q1.2 1 _ rfl).1
 have c1':=((q1.on B2).2 1 _ rfl).1
 have hsz1:W1.heap.size<W2.heap.size:=(hown.lt W1.heap.size rfl).2
 have Gt:=YB (some mb) W2
 have hCs:=YX m2 (by rw [List.length_map,hnl.out];have:=hbn.out;omega)
 have H2:Hid (Row ai 5 (cZ A w) W1 W2 59 (.slice (some ⟨W1.heap.size,0,none⟩) 0 F.length) ((bK Prod.fst L).take 0)/\W1.heap.size<W2.heap.size/\Below W1.heap.size W1 W2):=⟨r2,hsz1,B2⟩
 have NC:Hid (w.heap.size<W1.heap.size/\Below w.heap.size w W1):=⟨q1.1,B1⟩
 unfold Av at hCs
 clear hL hm B1 q1 hown hg2 B2 r2 m2 hi0 hz0 hz1 hz2 hF hsz1
 generalize bK Prod.fst L=M at H2 HA Iq
 generalize iU (L.map Prod.fst)=Zs at hCs HA xg
 have tY:Hid (Calls prog 138 #[.func (.func 176) #[] #[.pointer (some ⟨W2.heap.size,0,none⟩)]] (W2.alloc (.cells #[.map (some mb)] 119)) (fun e w'=>∃ v,e=.returned v/\Row aC 1 (fun _=>False) W2 w' 3 v Zs)):=hCs
 clear hCs
 go_enter func115,ntmps115
 go_upto_region 1 with fail
 rw [<- hW1]
 clear hW1
 go_upto_region 2 with fail
 clear hmk hln c1
 go_wp2_with fail
 refine Gt.mono ?_
 rintro e w3 ⟨rfl,rfl⟩
 clear Gt
 go_wp2_with fail
 refine tY.out.mono ?_
 rintro e w4 ⟨s,rfl,hrs⟩
 clear tY c1'
 have b4:Below W2.heap.size W2 w4:=hrs.below
 have hbs:Beside ai 5 (cZ A w) W1 w4 59 (.slice (some ⟨W1.heap.size,0,none⟩) 0 F.length) s (M.take 0) Zs:=⟨H2.out.1.on ai.ae b4,hrs.from aC.ae H2.out.2.2 (fun _ h=>h),fun b hb e=>by
  have h1:=(hrs.lt e).1
  have h2:=H2.out.2.1
  simp only [Value.ownBlock,Option.some.injEq] at hb
  omega⟩
 obtain ⟨sa,sn,sc,rfl,ss⟩:=hrs.iW (bytes:=8) aC.ae (by rw [xg.out];have:=hbn.out;omega)
 have hsn:Hid (sn=F.length):=by rw [Hid,<- ss.1];exact xg.out
 have aa4:=ss.len (by decide)
 have HI:Hid (Beside ai 5 (cZ A w) W1 w4 59 (.slice (some ⟨W1.heap.size,0,none⟩) 0 F.length) (.slice sa sn sc) (M.take 0) Zs):=hbs
 clear hrs b4 hbs ss H2
 go_wp2_with fail
 go_loopw [3,15] (fun o i wr=>∃ k:Nat,k<=sn/\i=.int .i64 k/\Hid (Beside ai 5 (cZ A w) W1 wr 59 o (.slice sa sn sc) (M.take k) Zs)) (fun _ i _=>sn - (intOf i).toNat)
 case atStart=>exact ⟨0,Nat.zero_le _,rfl,HI⟩
 case round =>
  obtain ⟨k,hk,rfl,hrun⟩:=hrel
  have hbs:=hrun.out
  clear hrun HI
  obtain ⟨hq,hS,hbw⟩:=HU.out wr hbs.below
  by_cases hlt:k<sn
  ·have hltz:(k:Int)<(sn:Int):=by omega
   obtain ⟨ja,jb,jc⟩:=HA.out k (by rw [<- hsn.out];exact hlt)
   obtain ⟨j,hj⟩:∃ j,j=F.getD k default:=⟨_,rfl⟩
   rw [<- hj] at ja jb jc
   clear hj
   have hjz:(j:Int)<(n:Int):=by omega
   obtain ⟨_,_,_,es,ss⟩:=hbs.2.1.iW (bytes:=8) aC.ae (by rw [xg.out];have:=hbn.out;omega)
   cases es
   obtain ⟨Bs,os,rfl,wT,_,ys,hys,hyv⟩:=ss.get hlt
   obtain rfl:ys=[.int .i64 (Zs.getD k default)]:=hys
   have d0:=hyv 0 _ rfl
   rw [jc,Nat.mul_one,Nat.add_zero] at d0
   obtain ⟨B,off,rfl,hB,iL,xs,hr,hv⟩:=hS.get ja
   have HT:Hid (M.take (k+1)=M.take k++[L.getD j default]):=jb
   have fK:Hid ((M.take k).length<=k):=by rw [Hid,List.length_take];omega
   generalize L.getD j default=x at hr HT
   obtain ⟨⟨q1,q2,q3⟩,rfl,_⟩:=hr.out
   have iF:Hid (wr.rangeAt B (off+j*5) [.string x.1,.int .i64 x.2.1,.string x.2.2.1,.slice q1 q2 q3,.string (eH x)]):=hv
   have hi:(prog.info? 59).map (·.size)=some ([.string x.1,.int .i64 x.2.1,.string x.2.2.1,.slice q1 q2 q3,.string (eH x)]:List Value).length:=wI
   obtain ⟨Wb,kg⟩:∃ W,W=wr.alloc (.cells #[.string x.1,.int .i64 x.2.1,.string x.2.2.1,.slice q1 q2 q3,.string (eH x)] 59):=⟨_,rfl⟩
   have mI:Below wr.heap.size wr Wb:=by rw [kg];go_grown
   have HB2:Hid (Beside ai 5 (cZ A w) W1 Wb 59 u3 (.slice (some ⟨Bs,os,none⟩) sn sc) (M.take k) Zs):=hbs.on ai.ae mI
   have jo:Hid (Src ai 5 (fun b=>cZ A w b/\u3.ownBlock≠some b) Wb (some ⟨wr.heap.size,0,none⟩) 1 [x]):=P6 ai.ae (cs:=[.string x.1,.int .i64 x.2.1,.string x.2.2.1,.slice q1 q2 q3,.string (eH x)]) (by rw [kg];exact af.new wr 59 _) (ai.ae.weak (ai.ae.kept hr (Kept.below mI)) (fun b _ h=>⟨h,fun e=>by have h1:=(hbs.1.lt e).1;have h2:=h.2;have h3:=NC.out.1;omega⟩))
   have oW:Hid (Wb=wr.alloc (.cells #[.string x.1,.int .i64 x.2.1,.string x.2.2.1,.slice q1 q2 q3,.string (eH x)] 59)):=kg
   have jQ:Hid (((M.take k).length+[x].length)*80<=140737488355328):=by have h1:=fK.out;have h2:=hrb;have h3:=hsn.out;rw [Hid,List.length_singleton];omega
   have c0:=(hq.2 0 _ rfl).1
   have ib:Hid (Row ai 5 (cZ A w) W1 Wb 59 u3 (M.take k)):=HB2.out.1
   clear hq hS hbw hr hv hyv ss hbs kg mI jb jc fK hB iL wT
   generalize x.1=p0 at iF hi oW
   generalize x.2.1=p1 at iF hi oW
   generalize x.2.2.1=p2 at iF hi oW
   generalize eH x=p4 at iF hi oW
   go_wp2_with (first | (refine wpList_load_mid rfl 59 _ rfl B (off+j*5) rfl [.string p0,.int .i64 p1,.string p2,.slice q1 q2 q3,.string p4] _ iF.out underlying59 rfl hi ?_) | (at_builtin;refine kF oW.out ?_;go_must (refine ui ai.ae (A:=cZ A w) (w0:=W1) rfl _ _ 24 59 rfl _ 80 LX underlying24 rfl (by decide) (by decide) u3 (M.take k) rfl ib.out (some ⟨wr.heap.size,0,none⟩) 1 1 [x] rfl jo.out jQ.out ?_);intro v7 u7 jG jR hw7) | fail)
   have HN:Hid (Beside ai 5 (cZ A w) W1 u7 59 v7 (.slice (some ⟨Bs,os,none⟩) sn sc) (M.take (k+1)) Zs):=by rw [Hid,HT.out];exact HB2.out.app jG jR hw7
   clear jG jR hw7 HB2 HT jo jQ ib iF oW c0 d0
   go_roundw
   case rel=>exact ⟨k+1,by omega,by go_num,HN⟩
   case measure=>simp [intOf];omega
  ·have htk:M.take k=M:=List.take_of_length_le (by rw [Iq.out,<- hsn.out];omega)
   rw [htk] at hbs
   have HF:Hid (Row ai 5 (cZ A w) w wr 59 u3 M):=hbs.1.from ai.ae NC.out.2 (fun _ h=>h)
   clear hq hS hbw hbs htk
   go_wp2_with fail
   go_ret
   exact ⟨_,rfl,HF.out⟩
def orP:List Int->Int
 | []=>0
 | x :: r=>if x=0 then orP r else x
theorem I9 {L:List Int} {k:Nat} (h:k<L.length):orP (L.drop k)=if L.getD k default=0 then orP (L.drop (k+1)) else L.getD k default:=by
 rw [List.drop_eq_getElem_cons h,List.getD_eq_getElem?_getD,List.getElem?_eq_getElem h]
 rfl
theorem Xg (a:Option Addr) (n cap:Nat) (A:Where) (L:List Int) (w:World) (hL:Hid (ag aC 1 8 A w a n cap L)):Calls prog 178 #[.slice a n cap] w fun e w'=>e=.returned (.int .i64 (orP L))/\w'=w:=by
 have hnl:Hid (L.length=n):=hL.out.1
 have hlen:=hL.out.len (by decide)
 go_enter func178,ntmps178
 go_wp2_with fail
 go_loopw [8] (fun i wr=>∃ k:Nat,k<=n/\i=.int .i64 k/\Hid (orP (L.drop k)=orP L)/\wr=w) (fun i _=>n - (intOf i).toNat)
 case atStart=>exact ⟨0,Nat.zero_le _,rfl,(rfl:orP (L.drop 0)=orP L),rfl⟩
 case round =>
  obtain ⟨k,hk,rfl,ho,rfl⟩:=hrel
  by_cases hlt:k<n
  ·have hltz:(k:Int)<(n:Int):=by omega
   have hst:=I9 (L:=L) (k:=k) (by rw [hnl.out];exact hlt)
   obtain ⟨B,off,rfl,hB,iL,xs,hr,hv⟩:=hL.out.get hlt
   obtain rfl:xs=[.int .i64 (L.getD k default)]:=hr
   have d0:=hv 0 _ rfl
   rw [Nat.mul_one,Nat.add_zero] at d0
   clear hv hB iL
   have HS:Hid (orP L=if L.getD k default=0 then orP (L.drop (k+1)) else L.getD k default):=by rw [Hid,<- ho.out];exact hst
   clear hst ho
   generalize L.getD k default=z at d0 HS
   by_cases hz:z=0
   ·subst hz
    have HN:Hid (orP (L.drop (k+1))=orP L):=by have:=HS.out;rw [if_pos rfl] at this;exact this.symm
    clear HS
    go_wp2_with fail
    go_roundw
    case rel=>exact ⟨k+1,by omega,by go_num,HN,by simp⟩
    case measure=>simp [intOf];omega
   ·have HN:Hid (orP L=z):=by have:=HS.out;rwa [if_neg hz] at this
    clear HS
    go_wp2_with fail
    go_ret
    exact ⟨by rw [HN.out];rfl,rfl⟩
  ·have HN:Hid (orP L=0):=by
    have:=ho.out
    rw [List.drop_of_length_le (by rw [hnl.out];omega)] at this
    exact this.symm
   clear ho
   go_wp2_with fail
   go_ret
   exact ⟨by rw [HN.out];rfl,rfl⟩
def ry (v w:aD):Int:=if Lib.compareInt v.2.1 w.2.1=0 then Lib.compareBytes v.1.data.toList w.1.data.toList else Lib.compareInt v.2.1 w.2.1
theorem Pt (v w:aD):orP [Lib.compareInt v.2.1 w.2.1,Lib.compareBytes v.1.data.toList w.1.data.toList]=ry v w:=by
 unfold orP orP orP ry
 split
 ·split
  ·rename_i h;exact h.symm
  ·rfl
 ·rfl
theorem GK (v w:aD):decide (ry v w<0)=iI v w:=by
 rw [Bool.eq_iff_iff,decide_eq_true_eq,Bb,uh]
 unfold ry Lib.compareInt
 by_cases h1:v.2.1<w.2.1
 ·simp [h1]
 ·by_cases h2:w.2.1<v.2.1
  ·simp [h1,h2]
   omega
  ·have:v.2.1=w.2.1:=by omega
   simp [this]
abbrev jT (l:List Nat):List Int:=l.map (fun k:Nat=>(k:Int))
theorem EL (c:aT) (L:List aD) (k:Nat):jT (fM c L (k+1))=jT (fM c L k)++(if jH c (L.getD k default)=true then [(k:Int)] else []):=by
 unfold jT fM
 rw [List.range_succ,List.filter_append,List.map_append]
 congr 1
 simp only [List.filter_cons,List.filter_nil]
 split <;> rfl
theorem Xa (c:aT) (L:List aD) (k:Nat):(jT (fM c L k)).length<=k:=by
 unfold jT fM
 rw [List.length_map]
 have:=List.length_filter_le (fun i=>jH c (L.getD i default)) (List.range k)
 rwa [List.length_range] at this
theorem O5:(prog.info? 3).map (fun i=>(i.zero,i.size,i.bytes))=some (some (.int .i64 0),1,8):=by kernel_rfl
def TV (w:World) (l:List Nat) (e:Ending) (w':World):Prop:=∃ v,e=.returned v/\Row aC 1 (fun _=>False) w w' 3 v (jT l)
theorem zEM (a:Option Addr) (n cap bp:Nat) (A:Where) (L:List aD) (cs:List Value) (A':Where) (c:aT) (w:World) (hL:Hid (ag ai 5 bp A w a n cap L)) (hbn:n*8<=140737488351232) (hc:aA A' w cs c) :
  Calls prog 143 #[.slice a n cap,.agg cs.toArray] w (TV w (fM c L n)):=by
 have hnl:Hid (L.length=n):=hL.out.1
 have hlen:n<=140737488351232:=by omega
 have hlc:=aA.ae.len hc
 have hic:(prog.info? 124).map (·.size)=some cs.length:=by rw [hlc];exact Eo
 obtain ⟨W1,hW1⟩:∃ W,W=w.alloc (.cells cs.toArray 124):=⟨_,rfl⟩
 have B1:Below w.heap.size w W1:=by rw [hW1];go_grown
 have q1:af W1 w.heap.size cs:=by rw [hW1];exact af.new w 124 _
 have HU:Hid (∀ u,Below W1.heap.size W1 u->af u w.heap.size cs/\aA A' u cs c/\ag ai 5 bp A u a n cap L):=fun u hb=>⟨q1.on hb,aA.ae.kept hc (Kept.below (ah B1 hb)),hL.out.on ai.ae (ah B1 hb)⟩
 have HB1:Hid (Below w.heap.size w W1):=B1
 clear hL hc B1 q1
 have jq:Hid (Row aC 1 (fun _=>False) W1 W1 3 (.slice none 0 0) (jT (fM c L 0))):=Row.nil _ _ _
 go_enter func143,ntmps143
 go_upto_region 1 with fail
 rw [<- hW1]
 clear hW1
 go_wp2_with fail
 go_loopw [5,10] (fun o i wr=>∃ k:Nat,k<=n/\i=.int .i64 k/\Hid (Row aC 1 (fun _=>False) W1 wr 3 o (jT (fM c L k)))) (fun _ i _=>n - (intOf i).toNat)
 case atStart=>exact ⟨0,Nat.zero_le _,rfl,jq⟩
 case round =>
  obtain ⟨k,hk,rfl,hrun⟩:=hrel
  have hrw:=hrun.out
  clear hrun jq
  by_cases hlt:k<n
  ·have hltz:(k:Int)<(n:Int):=by omega
   obtain ⟨hqc,hcc,hS⟩:=HU.out wr hrw.below
   obtain ⟨B,off,rfl,hB,iL,xs,hr,hv⟩:=hS.get hlt
   have hl:xs.length=5:=ai.ae.len hr
   have hi:(prog.info? 59).map (·.size)=some xs.length:=by rw [hl];exact wI
   have hia:(prog.info? 59).map (·.size)=some xs.toArray.size:=by simpa using hi
   have HO:Hid (xs.toArray.all (·.oneCell')=true):=Bo (ai.ae.one hr)
   have iF:Hid (wr.rangeAt B (off+k*5) xs):=hv
   obtain ⟨V,hV⟩:∃ V,V=(wr.alloc (.cells #[.string ⟨#[]⟩,.int .i64 0,.string ⟨#[]⟩,.slice none 0 0,.string ⟨#[]⟩] 59)).setCells wr.heap.size 0 xs:=⟨_,rfl⟩
   have eP:Hid ((wr.alloc (.cells #[.string ⟨#[]⟩,.int .i64 0,.string ⟨#[]⟩,.slice none 0 0,.string ⟨#[]⟩] 59)).there wr.heap.size 0 xs.toArray.size):=by have e:xs.toArray.size=5:=(by simp [hl]);rw [Hid,e];exact (af.new wr 59 [.string ⟨#[]⟩,.int .i64 0,.string ⟨#[]⟩,.slice none 0 0,.string ⟨#[]⟩]).there
   have bV:Below wr.heap.size wr V:=by rw [hV];exact cu ((Below.refl _ _).alloc (Nat.le_refl _) _) (Nat.le_refl _)
   have qV:af V wr.heap.size xs:=by rw [hV];exact dL (af.new wr 59 [.string ⟨#[]⟩,.int .i64 0,.string ⟨#[]⟩,.slice none 0 0,.string ⟨#[]⟩]) (by rw [hl];rfl)
   have fA:Hid (V=(wr.alloc (.cells #[.string ⟨#[]⟩,.int .i64 0,.string ⟨#[]⟩,.slice none 0 0,.string ⟨#[]⟩] 59)).setCells wr.heap.size 0 xs.toArray.toList):=by rw [Hid,hV]
   clear hV
   have hC:=Yw xs _ (L.getD k default) cs _ c V (ai.ae.kept hr (Kept.below bV)) (aA.ae.kept hcc (Kept.below bV))
   have HX0:Hid (V.rangeAt wr.heap.size 0 xs):=qV.range
   have HXc:Hid (V.rangeAt w.heap.size 0 cs):=(hqc.on bV).range
   have HT:Hid (jT (fM c L (k+1))=jT (fM c L k)++(if jH c (L.getD k default)=true then [(k:Int)] else [])):=EL c L k
   have N7:Hid ((jT (fM c L k)).length<=k):=Xa c L k
   have ib:Hid (∀ u,Below V.heap.size V u->Row aC 1 (fun _=>False) W1 u 3 u5 (jT (fM c L k))):=fun u hb=>hrw.on aC.ae (ah bV hb)
   clear hr hv hrw qV bV hqc hcc hS hB iL
   generalize jH c (L.getD k default)=b at hC HT
   generalize jT (fM c L k)=N at HT N7 ib
   go_wp2_with (first | (refine wpList_load_mid rfl 59 _ rfl B (off+k*5) rfl xs _ iF.out underlying59 rfl hi ?_) | (refine wpList_store_mid rfl 59 _ _ rfl wr.heap.size 0 xs.toArray rfl rfl eP.out hia HO.out ?_;refine kF fA.out ?_) | (refine wpList_load_mid rfl 59 _ rfl wr.heap.size 0 rfl xs _ HX0.out underlying59 rfl hi ?_) | (refine wpList_load_mid rfl 124 _ rfl w.heap.size 0 rfl cs _ HXc.out underlying124 rfl hic ?_) | fail)
   refine hC.mono ?_
   rintro e w6 ⟨rfl,hb6⟩
   have tT:=ib.out w6 hb6
   clear hC eP HO iF fA HX0 HXc hia ib hb6
   cases b with
   | false =>
    have HN:Hid (Row aC 1 (fun _=>False) W1 w6 3 u5 (jT (fM c L (k+1)))):=by rw [Hid,HT.out];simpa using tT
    clear tT HT N7
    go_wp2_with fail
    go_roundw
    case rel=>exact ⟨k+1,by omega,by go_num,HN⟩
    case measure=>simp [intOf];omega
   | true =>
    have hb3:Below w6.heap.size w6 (w6.alloc (.cells #[.int .i64 (k:Int)] 3)):=(Below.refl _ _).alloc (Nat.le_refl _) _
    have HR3:Hid (Row aC 1 (fun _=>False) W1 (w6.alloc (.cells #[.int .i64 (k:Int)] 3)) 3 u5 N):=tT.on aC.ae hb3
    have HE:aC (fun b=>False/\Value.ownBlock u5≠some b) (w6.alloc (.cells #[.int .i64 (k:Int)] 3)) [.int .i64 (k:Int)] (k:Int):=rfl
    have H1:Hid (∀ y∈[Value.int .i64 (k:Int)],y.oneCell'=true):=aC.ae.one HE
    have gV:Hid (aW aC 1 (fun b=>False/\Value.ownBlock u5≠some b) (w6.alloc (.cells #[.int .i64 (k:Int)] 3)) [.int .i64 (k:Int)] [(k:Int)]):=nJ aC.ae HE
    have HX:Hid (∀ j y,[Value.int .i64 (k:Int)][j]?=some y->(w6.alloc (.cells #[.int .i64 (k:Int)] 3)).cell? ((⟨w6.heap.size,0,none⟩:Addr).add j)=some y):=nY w6 _ 3
    have D8:Hid ((N.length+[(k:Int)].length)*8<=140737488355328):=by have h1:=N7.out;rw [Hid,List.length_singleton];omega
    have HT2:Hid (N++[(k:Int)]=jT (fM c L (k+1))):=by rw [Hid,HT.out];rfl
    clear HE hb3 tT HT N7
    go_wp2_with (at_builtin;go_must (refine mh aC.ae (A:=(fun _=>False)) (w0:=W1) rfl _ _ 36 3 rfl _ 8 O5 underlying36 rfl (by decide) (by decide) u5 N rfl HR3.out ⟨w6.heap.size,0,none⟩ 1 1 _ [(k:Int)] rfl rfl gV.out HX.out H1.out D8.out ?_);intro v4 w4 hrow4 hg4)
    have HN:Hid (Row aC 1 (fun _=>False) W1 w4 3 v4 (jT (fM c L (k+1)))):=by rw [Hid,<- HT2.out];exact hrow4
    clear hrow4 hg4 HT2 HR3 gV HX H1
    go_roundw
    case rel=>exact ⟨k+1,by omega,by go_num,HN⟩
    case measure=>simp [intOf];omega
  ·have hkn:k=n:=by omega
   rw [hkn] at hrw
   have HF:Hid (Row aC 1 (fun _=>False) w wr 3 u5 (jT (fM c L n))):=hrw.from aC.ae HB1.out (fun _ h=>h)
   clear hrw hkn
   go_wp2_with fail
   go_ret
   exact ⟨_,rfl,HF.out⟩
end Go.Proofs.YtgikfenllgldoaaGreat
