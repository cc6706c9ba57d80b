/- slices.Min, slices.Max at a list of counts; census.least, census.admits. Condition: the census lies as is said of it. -/
import Derived.Test.YtgikfenllgldoaaGreatQ31
set_option linter.unusedSimpArgs false
set_option maxRecDepth 100000
set_option maxHeartbeats 32000000
namespace Go.Proofs.YtgikfenllgldoaaGreat
open Go.Proofs.Tryz
open Go.RowKit Go.Maps
theorem XW (c:ByteArray->Nat):∀ (r:List ByteArray) (a:Nat),(r.map (fun v=>((c v:Nat):Int))).foldl min (a:Int)=((r.foldl (fun a e=>min a (c e)) a:Nat):Int)
 | [],_=>rfl
 | e :: r,a=>by
  rw [List.map_cons,List.foldl_cons,List.foldl_cons,show min (a:Int) ((c e:Nat):Int)=((min a (c e):Nat):Int) by omega]
  exact XW c r _
theorem Rz (c:ByteArray->Nat) {D:List ByteArray} (h:0<D.length):Lib.minOf (D.map (fun v=>((c v:Nat):Int)))=((uC c D:Nat):Int):=by
 cases D with
 | nil=>simp at h
 | cons d r =>
  unfold Lib.minOf uC
  rw [List.map_cons,List.headD_cons,List.foldl_cons,show min ((c d:Nat):Int) ((c d:Nat):Int)=((c d:Nat):Int) by omega]
  exact XW c r (c d)
theorem zFw {A:Where} {w:World} {a:Option Addr} {n cap:Nat} {L:List Int} (h:ag aC 1 8 A w a n cap L) (hn:0<n):∃ b off,a=some ⟨b,off,none⟩/\∀ j,j<L.length->w.cell? ⟨b,off+j,none⟩=some (.int .i64 (L.getD j 0)):=by
 obtain ⟨h1,_,_,_,h5⟩:=h
 obtain ⟨B,off,rfl,_,_,hc⟩:=h5 hn
 refine ⟨B,off,rfl,fun j hj=>?_⟩
 obtain ⟨cs,rfl,hv⟩:=hc j (by omega)
 have:=hv 0 _ rfl
 rw [Nat.mul_one,Nat.add_zero] at this
 exact this
theorem Ua {A:Where} {w:World} {a:Option Addr} {n cap:Nat} {L:List Int} (h:ag aC 1 8 A w a n cap L) (hn:0<n):Calls prog 137 #[.slice a n cap] w fun e w'=>e=.returned (.int .i64 (Lib.minOf L))/\w'=w:=by
 obtain ⟨b,off,rfl,hc⟩:=zFw h hn
 obtain rfl:=h.1
 have h4:=h.2.2.2.1
 have h5:=Tryz.slices_Min_int b off L.length cap L w hn (Nat.le_refl _) (by omega) hc
 rw [List.take_length] at h5
 exact h5
def gQ (s:cz) (N:List aX) (Q:List aM):Int:=if ((dG s.1 N).length:Int)<s.2.2.1 then 0 else (uC (fun v=>bQ s v Q) (dG s.1 N):Int)
theorem zFy (s:cz) (r1:Option Addr) (r2 r3 m1 m2:Nat) (N:List aX) (Q:List aM) (w:World) (h:Hid (lT w s r1 r2 r3 m1 m2 N Q)) :
  Calls prog 112 #[.agg #[.string s.1,.int .i64 s.2.1,.int .i64 s.2.2.1,.slice r1 r2 r3,.map (some m1),.map (some m2)]] w fun e w'=>e=.returned (.int .i64 (gQ s N Q))/\Below w.heap.size w w':=by
 obtain ⟨W1,hW1⟩:∃ W,W=w.alloc (.cells #[.string s.1,.int .i64 s.2.1,.int .i64 s.2.2.1,.slice r1 r2 r3,.map (some m1),.map (some m2)] 164):=⟨_,rfl⟩
 have B1:Below w.heap.size w W1:=by rw [hW1];go_grown
 have qx:af W1 w.heap.size (qg s r1 r2 r3 m1 m2):=by rw [hW1];exact af.new w 164 _
 have c0:=(qx.2 0 _ rfl).1
 have c1:=(qx.2 1 _ rfl).1
 have c2:=(qx.2 2 _ rfl).1
 have c3:=(qx.2 3 _ rfl).1
 have c4:=(qx.2 4 _ rfl).1
 have c5:=(qx.2 5 _ rfl).1
 have hC:=zEp s r1 r2 r3 m1 m2 N Q W1 (h.out.on B1)
 have hbl:(lQ s N Q).length*8<=140737488351232:=by have:=h.out.l;unfold lQ;rw [List.length_map];omega
 have HM:Hid (0<(lQ s N Q).length->Lib.minOf (lQ s N Q)=(uC (fun v=>bQ s v Q) (dG s.1 N):Int)):=fun hp=>by
  unfold lQ at hp |-
  rw [List.length_map] at hp
  exact Rz (fun v=>bQ s v Q) hp
 have HL:Hid (gQ s N Q=if ((lQ s N Q).length:Int)<s.2.2.1 then 0 else (uC (fun v=>bQ s v Q) (dG s.1 N):Int)):=by unfold gQ lQ;rw [Hid,List.length_map]
 have H0:Hid ((lQ s N Q).length=0->(uC (fun v=>bQ s v Q) (dG s.1 N):Int)=0):=fun hz=>by
  unfold lQ at hz
  rw [List.length_map] at hz
  rw [List.length_eq_zero_iff.1 hz]
  rfl
 have HB:Hid (Below w.heap.size w W1):=B1
 have HQ:Hid (∀ u,Below W1.heap.size W1 u->u.cell? ⟨w.heap.size,2,none⟩=some (.int .i64 s.2.2.1)):=fun u hb=>((qx.on hb).2 2 _ rfl).1
 clear h qx B1
 generalize gQ s N Q=ans at HL
 generalize (uC (fun v=>bQ s v Q) (dG s.1 N):Int)=lo at HM HL H0
 generalize lQ s N Q=L at hC hbl HM HL H0
 go_enter func112,ntmps112
 go_upto_region 1 with fail
 rw [<- hW1]
 clear hW1
 go_wp2_with fail
 refine hC.mono ?_
 rintro e w2 ⟨v,rfl,hr⟩
 obtain ⟨a,cap,rfl,sv⟩:=hr.Zl (bytes:=8) aC.ae hbl
 have HB2:Hid (Below w.heap.size w w2):=ah HB.out hr.below
 have d2:=HQ.out w2 hr.below
 have hlen:L.length<=9223372036854775807:=by omega
 have Aa:Hid (0<L.length->Calls prog 137 #[.slice a L.length cap] w2 fun e w'=>e=.returned (.int .i64 (Lib.minOf L))/\w'=w2):=fun hp=>Ua sv hp
 clear hC hr sv c0 c1 c2 c3 c4 c5 HB HQ hbl
 generalize Lib.minOf L=mi at Aa HM
 generalize L.length=n at *
 clear L
 by_cases hz:n=0
 ·subst hz
  have hlo:=H0.out rfl
  have wu:ans=0:=by rw [HL.out,hlo];split <;> rfl
  clear H0 HM HL Aa hlo
  subst wu
  go_wp2_with fail
  go_ret
  exact ⟨rfl,HB2.out⟩
 ·by_cases hl:(n:Int)<s.2.2.1
  ·have wu:ans=0:=by rw [HL.out,if_pos hl]
   clear H0 HM HL Aa
   subst wu
   have hzb:((n:Int) == 0)=false:=by simp [hz]
   have hlb:decide ((n:Int)<s.2.2.1)=true:=decide_eq_true hl
   go_wp2_with fail
   go_ret
   exact ⟨rfl,HB2.out⟩
  ·have wu:ans=mi:=by rw [HL.out,if_neg hl];exact (HM.out (by omega)).symm
   have hc:=Aa.out (by omega)
   have hzb:((n:Int) == 0)=false:=by simp [hz]
   have hlb:decide ((n:Int)<s.2.2.1)=false:=decide_eq_false hl
   clear H0 HM HL Aa
   subst wu
   go_wp2_with fail
   refine hc.mono ?_
   rintro e w3 ⟨rfl,rfl⟩
   go_wp2_with fail
   go_ret
   exact ⟨rfl,HB2.out⟩
theorem RB (c:ByteArray->Nat) (M:Nat) (hM:∀ d,c d<=M) (D:List ByteArray):uC c D<=M:=by
 by_cases h:D=[]
 ·subst h;exact Nat.zero_le _
 ·obtain ⟨_,d,_,e⟩:=O1 c h
  rw [e];exact hM d
theorem PO:(prog.info? 41).map (·.size)=some 16:=by kernel_rfl
theorem Jk {w:World} {s:cz} {r1:Option Addr} {r2 r3 m1 m2:Nat} {N:List aX} {Q:List aM} (h:lT w s r1 r2 r3 m1 m2 N Q):0<=gQ s N Q/\gQ s N Q<=140737488355328:=by
 obtain ⟨q,k,h3,h4⟩:=h.p
 have:=(RB (fun v=>bQ s v Q) 140737488355328 (fun d=>by have:=h3.le d;omega) (dG s.1 N))
 unfold gQ
 split <;> omega
theorem TN (P L:List aG) (N:List aX) (Q:List aM) (s:cz) {v:ByteArray} {t m:Bool} (hg:getL L s.1=(v,t)) (hm:bE P (jk s)=m):(!mW P L N Q s)=(t && decide (((bQ s v Q:Nat):Int)+(if m=true then 1 else 0) - gQ s N Q<=s.2.1)):=by
 unfold mW gQ
 rw [hg,hm]
 cases t
 ·rfl
 ·simp only [Bool.not_true,Bool.false_or,Bool.true_and]
  rw [<- decide_not,decide_eq_decide]
  cases m
  ·simp only [Bool.false_eq_true,if_false]
   rw [Int.not_lt]
   exact Iff.rfl
  ·simp only [if_true]
   rw [Int.not_lt]
   exact Iff.rfl
def oL (D:Nat) (s:cz) (r1:Option Addr) (r2 r3 m1 m2:Nat) (u:World):Prop :=
 u.cell? ⟨D,0,none⟩=some (.string s.1)/\u.cell? ⟨D,1,none⟩=some (.int .i64 s.2.1)/\u.cell? ⟨D,2,none⟩=some (.int .i64 s.2.2.1)/\u.cell? ⟨D,3,none⟩=some (.slice r1 r2 r3)/\u.cell? ⟨D,4,none⟩=some (.map (some m1))/\u.cell? ⟨D,5,none⟩=some (.map (some m2))
theorem oL.of {D:Nat} {s:cz} {r1:Option Addr} {r2 r3 m1 m2:Nat} {u:World} (h:af u D (qg s r1 r2 r3 m1 m2)):oL D s r1 r2 r3 m1 m2 u :=
 ⟨(h.2 0 _ rfl).1,(h.2 1 _ rfl).1,(h.2 2 _ rfl).1,(h.2 3 _ rfl).1,(h.2 4 _ rfl).1,(h.2 5 _ rfl).1⟩
theorem zEf (s:cz) (r1:Option Addr) (r2 r3 m1 m2:Nat) (N:List aX) (Q:List aM) (cs:List Value) (p:aB) (la:Option Addr) (ln lc:Nat) (Lb:List aG) (w:World) (h:Hid (lT w s r1 r2 r3 m1 m2 N Q)) (hp:Hid (aj (fun _=>True) w cs p)) (hL:Hid (ag ak 2 32 (fun _=>True) w la ln lc Lb)) :
  Calls prog 77 #[.agg #[.string s.1,.int .i64 s.2.1,.int .i64 s.2.2.1,.slice r1 r2 r3,.map (some m1),.map (some m2)],.agg cs.toArray,.slice la ln lc] w fun e w'=>e=.returned (.bool (!mW (bG p) Lb N Q s))/\Below w.heap.size w w':=by
 have ma:(prog.info? 41).map (·.size)=some cs.length:=by rw [aj.ae.len hp.out];exact PO
 obtain ⟨W1,hW1⟩:∃ W,W=w.alloc (.cells #[.string s.1,.int .i64 s.2.1,.int .i64 s.2.2.1,.slice r1 r2 r3,.map (some m1),.map (some m2)] 164):=⟨_,rfl⟩
 obtain ⟨W2,hW2⟩:∃ W,W=W1.alloc (.cells cs.toArray 41):=⟨_,rfl⟩
 have B1:Below w.heap.size w W1:=by rw [hW1];go_grown
 have B2:Below W1.heap.size W1 W2:=by rw [hW2];go_grown
 have hz:W1.heap.size=w.heap.size+1:=by rw [hW1];simp
 have qx:af W2 w.heap.size (qg s r1 r2 r3 m1 m2):=by refine af.on ?_ B2;rw [hW1];exact af.new w 164 _
 have qp:af W2 (w.heap.size+1) cs:=by rw [<- hz,hW2];exact af.new W1 41 _
 have HU:Hid (∀ u,Below W2.heap.size W2 u->oL w.heap.size s r1 r2 r3 m1 m2 u/\u.rangeAt (w.heap.size+1) 0 cs/\lT u s r1 r2 r3 m1 m2 N Q/\aj (fun _=>True) u cs p):=fun u hb=>⟨oL.of (qx.on hb),(qp.on hb).range,h.out.on (ah (ah B1 B2) hb),aj.ae.kept hp.out (Kept.below (ah (ah B1 B2) hb))⟩
 have hG:=CW la ln lc _ Lb s.1 W2 (hL.out.on ak.ae (ah B1 B2))
 have hsz:=Qb hL.out s.1
 have HBd:=Jk h.out
 have UF:=fun (v:ByteArray) (t m:Bool) hg hm=>TN (bG p) Lb N Q s (v:=v) (t:=t) (m:=m) hg hm
 have HB:Hid (Below w.heap.size w W2):=ah B1 B2
 have hc0:=(qx.2 0 _ rfl).1
 obtain ⟨qq,kk,hq3,hq4⟩:=h.out.p
 have fK:Hid (∀ u,Below W2.heap.size W2 u->∀ v:ByteArray,v.size<=140737488355328->(Instr.lookup 119 (.map (some m2)) (.string v) false).run prog u=.ok (.int .i64 ((bQ s v Q:Nat):Int)) u):=fun u hb v hv=>(hq3.on (ah (ah B1 B2) hb)).look 119 underlying119 hv
 have vT:Hid (∀ v,bQ s v Q<=140737488355328):=fun v=>by have:=hq3.le v;omega
 clear hq3 hq4 h hp hL qx qp B1 B2 hz
 generalize hg:getL Lb s.1=g at hG hsz
 obtain ⟨v,t⟩:=g
 simp only at hG hsz
 generalize hmm:bE (bG p) (jk s)=m
 have hb:=UF v t m hg hmm
 have CK:Hid (bE (bG p) (jk s)=m):=hmm
 clear UF hg hmm
 generalize (!mW (bG p) Lb N Q s)=ans at hb
 go_enter func77,ntmps77
 go_upto_region 1 with fail
 rw [<- hW1,<- hW2]
 clear hW1 hW2
 go_wp2_with fail
 refine hG.mono ?_
 clear hG hc0
 rintro e w1 ⟨rfl,hb1⟩
 cases t
 ·have HB1:Hid (Below w.heap.size w w1):=ah HB.out hb1
  have wu:ans=false:=by rw [hb];rfl
  clear hb HU fK vT HB hb1
  subst wu
  go_wp2_with fail
  go_ret
  exact ⟨rfl,HB1.out⟩
 ·obtain ⟨⟨c0,c1,c2,c3,c4,c5⟩,hrg,zT,uH⟩:=HU.out w1 hb1
  have hlk:=fK.out w1 hb1 v hsz
  have hle:=vT.out v
  have hM:=YA s r1 r2 r3 m1 m2 _ _ cs p w1 uH zT.r
  rw [CK.out] at hM
  have HR:Hid (w1.rangeAt (w.heap.size+1) 0 cs):=hrg
  have HBW:Hid (Below W2.heap.size W2 w1):=hb1
  have Hb:Hid (ans=decide (((bQ s v Q:Nat):Int)+(if m=true then 1 else 0) - gQ s N Q<=s.2.1)):=by rw [Hid,hb];simp
  clear hb hrg zT uH fK vT CK hb1
  generalize bQ s v Q=c at hlk hle Hb
  go_wp2_with (first | (refine wpList_load_mid rfl 41 _ rfl (w.heap.size+1) 0 rfl cs _ HR.out underlying41 rfl ma ?_) | fail)
  refine hM.mono ?_
  rintro e w3 ⟨rfl,hb3⟩
  have HB3:Hid (Below W2.heap.size W2 w3):=ah HBW.out hb3
  clear hM c0 c1 c2 c3 c4 c5 HR HBW hb3 hlk
  have NP:Hid (∀ u,Below w3.heap.size w3 u->oL w.heap.size s r1 r2 r3 m1 m2 u):=fun u hb=>(HU.out u (ah HB3.out hb)).1
  have NZ:=zFy s r1 r2 r3 m1 m2 N Q w3.drew ((HU.out w3 HB3.out).2.2.1.on (Below.refl _ _).drew)
  clear HU
  cases m
  ·skip
   have Ih:Hid (ans=decide (IntKind.i64.wrap ((c:Int) - gQ s N Q)<=s.2.1)):=by rw [Hid,Hb.out,show IntKind.i64.wrap ((c:Int) - gQ s N Q)=(c:Int) - gQ s N Q from by rw [IntWalk.i64_left];unfold wrap64;omega];simp
   clear Hb
   generalize gQ s N Q=le at NZ HBd Ih
   go_upto_region 7 with fail
   refine t0 (oL w.heap.size s r1 r2 r3 m1 m2) (NP.out _ (Below.refl _ _).drew) (fun gH=>?_)
   try go_frame
   refine' tk 0 ?_ ?_;rotate_left
   ·intro u ⟨_,_,_,_,_,_⟩;go_simp;try with_reducible rfl
   try go_frame
   refine' tk 1 ?_ ?_;rotate_left
   ·intro u ⟨_,_,_,_,_,_⟩;go_simp;try with_reducible rfl
   try go_frame
   refine' tk 4 ?_ ?_;rotate_left
   ·intro u ⟨_,_,_,_,_,_⟩;go_simp;try with_reducible rfl
   try go_frame
   refine' tk 5 ?_ ?_;rotate_left
   ·intro u ⟨_,_,_,_,_,_⟩;go_simp;try with_reducible rfl
   try go_frame
   refine' tk 6 ?_ ?_;rotate_left
   ·intro u ⟨_,_,_,_,_,_⟩;go_simp;try with_reducible rfl
   try go_frame
   refine tr 2 (fun K hK=>?_)
   go_simp
   refine NZ.mono ?_
   rintro e u1 ⟨rfl,hu1⟩
   have hd:Below w3.heap.size w3 u1:=ah (Below.refl _ _).drew hu1
   have nC:Hid (Below w.heap.size w u1):=ah (ah HB.out HB3.out) hd
   go_wp2_with fail
   refine hK.out _ _ (NP.out _ hd) (fun gI=>?_)
   clear hK K gH;have gH:=gI;clear gI
   try go_frame
   refine' tk 3 ?_ ?_;rotate_left
   ·intro u ⟨_,_,_,_,_,_⟩;go_simp;try with_reducible rfl
   try go_frame
   refine' tk 7 ?_ ?_;rotate_left
   ·intro u ⟨_,_,_,_,_,_⟩;go_simp;try with_reducible rfl
   try go_frame
   refine' tk 8 ?_ ?_;rotate_left
   ·intro u ⟨_,_,_,_,_,_⟩;go_simp;try with_reducible rfl
   try go_frame
   refine tz ?_
   go_wp2_with fail
   go_ret
   exact ⟨by rw [Ih.out];rfl,nC.out⟩
  ·skip
   have Ih:Hid (ans=decide (IntKind.i64.wrap ((c:Int)+1 - gQ s N Q)<=s.2.1)):=by rw [Hid,Hb.out,show IntKind.i64.wrap ((c:Int)+1 - gQ s N Q)=(c:Int)+1 - gQ s N Q from by rw [IntWalk.i64_left];unfold wrap64;omega];simp
   clear Hb
   generalize gQ s N Q=le at NZ HBd Ih
   go_upto_region 7 with fail
   refine t0 (oL w.heap.size s r1 r2 r3 m1 m2) (NP.out _ (Below.refl _ _).drew) (fun gH=>?_)
   try go_frame
   refine' tk 0 ?_ ?_;rotate_left
   ·intro u ⟨_,_,_,_,_,_⟩;go_simp;try with_reducible rfl
   try go_frame
   refine' tk 1 ?_ ?_;rotate_left
   ·intro u ⟨_,_,_,_,_,_⟩;go_simp;try with_reducible rfl
   try go_frame
   refine' tk 4 ?_ ?_;rotate_left
   ·intro u ⟨_,_,_,_,_,_⟩;go_simp;try with_reducible rfl
   try go_frame
   refine' tk 5 ?_ ?_;rotate_left
   ·intro u ⟨_,_,_,_,_,_⟩;go_simp;try with_reducible rfl
   try go_frame
   refine' tk 6 ?_ ?_;rotate_left
   ·intro u ⟨_,_,_,_,_,_⟩;go_simp;try with_reducible rfl
   try go_frame
   refine tr 2 (fun K hK=>?_)
   go_simp
   refine NZ.mono ?_
   rintro e u1 ⟨rfl,hu1⟩
   have hd:Below w3.heap.size w3 u1:=ah (Below.refl _ _).drew hu1
   have nC:Hid (Below w.heap.size w u1):=ah (ah HB.out HB3.out) hd
   go_wp2_with fail
   refine hK.out _ _ (NP.out _ hd) (fun gI=>?_)
   clear hK K gH;have gH:=gI;clear gI
   try go_frame
   refine' tk 3 ?_ ?_;rotate_left
   ·intro u ⟨_,_,_,_,_,_⟩;go_simp;try with_reducible rfl
   try go_frame
   refine' tk 7 ?_ ?_;rotate_left
   ·intro u ⟨_,_,_,_,_,_⟩;go_simp;try with_reducible rfl
   try go_frame
   refine' tk 8 ?_ ?_;rotate_left
   ·intro u ⟨_,_,_,_,_,_⟩;go_simp;try with_reducible rfl
   try go_frame
   refine tz ?_
   go_wp2_with fail
   go_ret
   exact ⟨by rw [Ih.out];rfl,nC.out⟩
end Go.Proofs.YtgikfenllgldoaaGreat
