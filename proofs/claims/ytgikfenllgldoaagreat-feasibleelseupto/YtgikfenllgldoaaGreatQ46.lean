/- Functions of the program, each walked under the conditions that its theorem names. -/
import Derived.Test.YtgikfenllgldoaaGreatQ43
import Derived.Test.YtgikfenllgldoaaGreatQ44
set_option linter.unusedSimpArgs false
set_option maxRecDepth 100000
set_option maxHeartbeats 32000000
namespace Go.Proofs.YtgikfenllgldoaaGreat
open Go.Proofs.Tryz
open Go.RowKit Go.Maps
def Ea (w Wp:World) (X:Nat) (dW:Value) (C:List Value) (NL:List aG) (CL:List aT) (V:List aD) (K:List dI) (nm:ByteArray) (out:List bH) (e:Ending) (u':World):Prop :=
 (∃ x,gD (V,CL) K NL (out.map Prod.snd) nm=.error x/\x≠0/\e=.returned (.int .i64 x)/\Below w.heap.size w u') \/
 (∃ lv pv,gD (V,CL) K NL (out.map Prod.snd) nm=.ok none/\e=.returned (.int .i64 0)/\jO w Wp X dW C NL V V.length u' lv pv (out.map Prod.snd) out) \/
 ∃ pk lv pv,gD (V,CL) K NL (out.map Prod.snd) nm=.ok (some pk)/\e=.returned (.int .i64 0)/\jO w Wp X dW C NL V V.length u' lv pv ((out++[pk]).map Prod.snd) (out++[pk])
theorem zGy (w Wp:World) (X:Nat) (dW:Value) (la:Option Addr) (ln lc:Nat) (ca:Option Addr) (cn cc cm:Nat) (va:Option Addr) (vn vc vm:Nat) (ka:Option Addr) (kn kc km:Nat) (NL:List aG) (CL:List aT) (V0 V:List aD) (K:List dI) (lv pv:Value) (out:List bH) (nm:ByteArray) (u:World) (hp:Hid (wZ w Wp X dW la ln lc ca cn cc cm va vn vc vm ka kn kc km NL CL V0 K)) (hs:Hid (jO w Wp X dW [.slice la ln lc,.slice ca cn cc,.map (some cm),.slice va vn vc,.map (some vm),.slice ka kn kc,.map (some km)] NL V V.length u lv pv (out.map Prod.snd) out)) (hn:(jK V).Nodup) (hk0:Hid (∀ c,keepV V0 NL c=keepV V NL c)) (hv0:V.length<=V0.length) (hz:nm.size<=140737488355328) :
  Calls prog 80 #[.pointer (some ⟨X,0,none⟩),.string nm] u (Ea w Wp X dW [.slice la ln lc,.slice ca cn cc,.map (some cm),.slice va vn vc,.map (some vm),.slice ka kn kc,.map (some km)] NL CL V K nm out):=by
 obtain ⟨_,sc,_,_,mc,_,_⟩:=hp.out.at hs.out.kp
 have hC:=Za ca cn cc _ CL cm nm u sc mc hz
 have c1:=(hs.out.bx.2 1 _ rfl).1
 have c2:=(hs.out.bx.2 2 _ rfl).1
 have HR:Hid (∀ k,fI (qh CL) nm=some k->gD (V,CL) K NL (out.map Prod.snd) nm=if ay (jS (CL.getD k default)) B0=true then (if waitsP K (CL.getD k default).2.2.1=true then (match jX (CL.getD k default) NL V (out.map Prod.snd) with | none=>.error 14 | some j=>.ok (some ((CL.getD k default).1,(V.getD j default).1))) else .error 13) else (if keepV V NL (CL.getD k default)=0 then .ok none else .error (keepV V NL (CL.getD k default)))):=fun k hk=>by
  unfold gD
  simp only
  rw [hk]
  simp only
  split
  ·rfl
  ·unfold keepV
   cases fI (jK V) (jS (CL.getD k default)) with
   | none=>rfl
   | some j =>
    simp only
    cases ay (eH (V.getD j default)) (CL.getD k default).1 with
    | false=>rfl
    | true =>
     cases bE NL (oQ (V.getD j default)) <;> rfl
 have jq:Hid (fI (qh CL) nm=none->gD (V,CL) K NL (out.map Prod.snd) nm=.error 13):=fun hk=>by
  unfold gD
  simp only
  rw [hk]
 have HS:Hid (∀ z,Below u.heap.size u z->jO w Wp X dW [.slice la ln lc,.slice ca cn cc,.map (some cm),.slice va vn vc,.map (some vm),.slice ka kn kc,.map (some km)] NL V V.length z lv pv (out.map Prod.snd) out):=fun z hb=>hs.out.on hb
 clear sc mc hs
 go_enter func80,ntmps80
 go_wp2_with fail
 refine hC.mono ?_
 rintro e w1 ⟨rfl,b1⟩
 clear hC c1 c2
 cases hf:fI (qh CL) nm with
 | none =>
  have om:pAt 4 ca none=none:=by cases ca <;> rfl
  rw [om]
  have HF:Hid (gD (V,CL) K NL (out.map Prod.snd) nm=.error 13/\Below w.heap.size w w1):=⟨jq.out hf,(HS.out w1 b1).bw⟩
  clear om HR jq HS b1 hf hp
  go_wp2_with fail
  go_ret
  exact .inl ⟨13,HF.out.1,by decide,rfl,HF.out.2⟩
 | some k =>
  have hst:=HR.out k hf
  have hs1:=HS.out w1 b1
  obtain ⟨_,sc,_,_,_,_,_⟩:=hp.out.at hs1.kp
  have hk:=(jl hf).1
  rw [List.length_map,sc.1] at hk
  obtain ⟨B,off,rfl,hB,_,cs,hr,hv⟩:=sc.get hk
  have hlc:=aA.ae.len hr
  have hic:(prog.info? 124).map (·.size)=some cs.length:=by rw [hlc];exact Eo
  have om:pAt 4 (some ⟨B,off,none⟩) (some k)=some ⟨B,off+k*4,none⟩:=rfl
  rw [om]
  have HV:Hid (∀ z,Below w1.heap.size w1 z->z.rangeAt B (off+k*4) cs/\aA (fun b=>b<w.heap.size) z cs (CL.getD k default)/\jO w Wp X dW [.slice la ln lc,.slice (some ⟨B,off,none⟩) cn cc,.map (some cm),.slice va vn vc,.map (some vm),.slice ka kn kc,.map (some km)] NL V V.length z lv pv (out.map Prod.snd) out):=fun z hb=>⟨fun j v hj=>(hb.cell hB).trans (hv j v hj),aA.ae.kept hr (Kept.below hb),hs1.on hb⟩
  have qN:Hid (gD (V,CL) K NL (out.map Prod.snd) nm=if ay (jS (CL.getD k default)) B0=true then (if waitsP K (CL.getD k default).2.2.1=true then (match jX (CL.getD k default) NL V (out.map Prod.snd) with | none=>.error 14 | some j=>.ok (some ((CL.getD k default).1,(V.getD j default).1))) else .error 13) else (if keepV V NL (CL.getD k default)=0 then .ok none else .error (keepV V NL (CL.getD k default)))):=hst
  have vS:Hid (w1.rangeAt B (off+k*4) cs):=hv
  have MZ:=Ze cs _ _ w1 hr
  clear hst hs1 sc hr hv om HR jq HS b1 hf hB
  generalize CL.getD k default=c at HV qN MZ
  generalize hbb:ay (jS c) B0=b at MZ qN
  clear hbb
  go_wp2_with (first | (refine wpList_load_mid rfl 124 _ rfl B (off+k*4) rfl cs _ vS.out underlying124 rfl hic ?_) | fail)
  refine MZ.mono ?_
  rintro e w2 ⟨rfl,b2⟩
  clear MZ vS
  obtain ⟨QT,Mq,ps2⟩:=HV.out w2 b2
  have vS:Hid (w2.rangeAt B (off+k*4) cs):=QT
  cases b with
  | false =>
   have vP:=zHQ w Wp X dW la ln lc _ cn cc cm va vn vc vm ka kn kc km NL CL V0 K lv pv cs _ c w2 hp.out ps2.kp ps2.bx Mq
   rw [hk0.out c] at vP
   have HP:Hid (∀ z,Below w2.heap.size w2 z->jO w Wp X dW [.slice la ln lc,.slice (some ⟨B,off,none⟩) cn cc,.map (some cm),.slice va vn vc,.map (some vm),.slice ka kn kc,.map (some km)] NL V V.length z lv pv (out.map Prod.snd) out):=fun z hb=>ps2.on hb
   have xe:Hid (gD (V,CL) K NL (out.map Prod.snd) nm=if keepV V NL c=0 then .ok none else .error (keepV V NL c)):=by have h9:=qN.out;rw [if_neg (by decide)] at h9;exact h9
   clear qN HV QT Mq ps2 b2 hp
   generalize keepV V NL c=x at vP xe
   go_wp2_with (first | (refine wpList_load_mid rfl 124 _ rfl B (off+k*4) rfl cs _ vS.out underlying124 rfl hic ?_) | fail)
   refine vP.mono ?_
   rintro e w3 ⟨rfl,b3⟩
   have p3:=HP.out w3 b3
   have HF:Hid (Ea w Wp X dW [.slice la ln lc,.slice (some ⟨B,off,none⟩) cn cc,.map (some cm),.slice va vn vc,.map (some vm),.slice ka kn kc,.map (some km)] NL CL V K nm out (.returned (.int .i64 x)) w3):=by
    have h9:=xe.out
    by_cases hx:x=0
    ·rw [if_pos hx] at h9
     exact .inr (.inl ⟨lv,pv,h9,by rw [hx],p3⟩)
    ·rw [if_neg hx] at h9
     exact .inl ⟨x,h9,hx,rfl,p3.bw⟩
   clear vP HP xe p3 b3 vS
   go_wp2_with fail
   go_ret
   exact HF.out
  | true =>
   have Co:=zGP w Wp X dW la ln lc _ cn cc cm va vn vc vm ka kn kc km NL CL V0 K lv pv cs _ c w2 hp.out ps2.kp ps2.bx Mq
   have HP:Hid (∀ z,Below w2.heap.size w2 z->jO w Wp X dW [.slice la ln lc,.slice (some ⟨B,off,none⟩) cn cc,.map (some cm),.slice va vn vc,.map (some vm),.slice ka kn kc,.map (some km)] NL V V.length z lv pv (out.map Prod.snd) out/\aA (fun b=>b<w.heap.size) z cs c/\z.rangeAt B (off+k*4) cs):=fun z hb=>by
    obtain ⟨h1,h2,h3⟩:=HV.out z (ah b2 hb)
    exact ⟨h3,h2,h1⟩
   have xe:Hid (gD (V,CL) K NL (out.map Prod.snd) nm=if waitsP K c.2.2.1=true then (match jX c NL V (out.map Prod.snd) with | none=>.error 14 | some j=>.ok (some (c.1,(V.getD j default).1))) else .error 13):=by have h9:=qN.out;rw [if_pos rfl] at h9;exact h9
   have Hv:Hid (V.length*80<=140737488355328):=by have h9:=hp.out.hv;rw [Hid];omega
   clear qN HV QT Mq ps2 b2 hp
   generalize waitsP K c.2.2.1=x at Co xe
   go_wp2_with (first | (refine wpList_load_mid rfl 124 _ rfl B (off+k*4) rfl cs _ vS.out underlying124 rfl hic ?_) | fail)
   refine Co.mono ?_
   rintro e w3 ⟨rfl,b3⟩
   obtain ⟨p3,Q8,QS⟩:=HP.out w3 b3
   clear Co HP vS b3
   cases x with
   | false =>
    have HF:Hid (gD (V,CL) K NL (out.map Prod.snd) nm=.error 13/\Below w.heap.size w w3):=⟨by have h9:=xe.out;rw [if_neg (by decide)] at h9;exact h9,p3.bw⟩
    clear p3 Q8 QS xe
    go_wp2_with fail
    go_ret
    exact .inl ⟨13,HF.out.1,by decide,rfl,HF.out.2⟩
   | true =>
    have vS:Hid (w3.rangeAt B (off+k*4) cs):=QS
    have hCp:=zHd w Wp X dW la ln lc _ cn cc cm va vn vc vm ka kn kc km NL V lv pv out cs _ c w3 p3 Hv.out hn Q8
    have Hs3:Hid (gD (V,CL) K NL (out.map Prod.snd) nm=match jX c NL V (out.map Prod.snd) with | none=>.error 14 | some j=>.ok (some (c.1,(V.getD j default).1))):=by have h9:=xe.out;rw [if_pos rfl] at h9;exact h9
    clear p3 Q8 QS xe
    go_wp2_with (first | (refine wpList_load_mid rfl 124 _ rfl B (off+k*4) rfl cs _ vS.out underlying124 rfl hic ?_) | fail)
    refine hCp.mono ?_
    intro e w4 h4
    have HF:Hid (Ea w Wp X dW [.slice la ln lc,.slice (some ⟨B,off,none⟩) cn cc,.map (some cm),.slice va vn vc,.map (some vm),.slice ka kn kc,.map (some km)] NL CL V K nm out e w4):=by
     have h9:=Hs3.out
     rcases h4 with ⟨hb,he,h5⟩ | ⟨j,BR,pv',hb,he,h5⟩
     ·rw [hb] at h9
      exact .inl ⟨14,h9,by decide,he,h5⟩
     ·rw [hb] at h9
      exact .inr (.inr ⟨_,BR,pv',h9,he,h5⟩)
    have he:∃ y,e=.returned (.int .i64 y):=by
     rcases h4 with ⟨hb,he,h5⟩ | ⟨j,BR,pv',hb,he,h5⟩
     ·exact ⟨_,he⟩
     ·exact ⟨_,he⟩
    obtain ⟨y,rfl⟩:=he
    clear hCp Hs3 h4 vS
    go_wp2_with fail
    go_ret
    exact HF.out
end Go.Proofs.YtgikfenllgldoaaGreat
namespace Go.Proofs.YtgikfenllgldoaaGreat
open Go.Proofs.Tryz
open Go.RowKit Go.Shelf Go.Maps
def WZ (D:Where) (r:Except Int VC) (w:World) (x:aP) (e:Ending) (u:World):Prop :=
 (∃ st g0 g1 g2 g3 g4 g5,r=.ok st/\e=.returned (.tuple #[.agg #[g0,g1,g2,g3,g4,g5],.int .i64 0])/\vX (fun b=>D b/\b<w.heap.size) w u g0 g1 g2 g3 g4 g5 x st) \/
 (∃ k,r=.error k/\e=.returned (.tuple #[.agg Z6.toArray,.int .i64 k])/\(k=2\/k=5)/\Below w.heap.size w u)
theorem vX.Q6 {m:Where} {w w1 u u':World} {g0 g1 g2 g3 g4 g5:Value} {x:aP} {st:VC} (h:vX m w1 u g0 g1 g2 g3 g4 g5 x st) (hw:Below w.heap.size w w1) (hm:∀ b,m b->b<w.heap.size) (hb:Below w.heap.size w u') (hk:Kept (fun b=>m b\/w1.heap.size<=b) u u'):vX m w u' g0 g1 g2 g3 g4 g5 x st:=by
 obtain ⟨⟨hV,hC,hne,_⟩,⟨r0,r1,r4,r5⟩,_⟩:=h
 exact ⟨⟨(hV.from ai.ae hw (fun _ h=>h)).bO ai.ae hb (hk.weak (fun b h=>h.imp id (fun h=>(hV.lt h).1))),(hC.from aA.ae hw (fun _ h=>h)).bO aA.ae hb (hk.weak (fun b h=>h.imp id (fun h=>(hC.lt h).1))),hne,hm⟩,⟨(r0.from aj.ae hw (fun _ h=>h)).bO aj.ae hb (hk.weak (fun b h=>h.imp id (fun h=>(r0.lt h).1))),(r1.from av.ae hw (fun _ h=>h)).bO av.ae hb (hk.weak (fun b h=>h.imp id (fun h=>(r1.lt h).1))),(r4.from aH.ae hw (fun _ h=>h)).bO aH.ae hb (hk.weak (fun b h=>h.imp id (fun h=>(r4.lt h).1))),(r5.from aI.ae hw (fun _ h=>h)).bO aI.ae hb (hk.weak (fun b h=>h.imp id (fun h=>(r5.lt h).1)))⟩,hb⟩
theorem IK (L:List jJ):(iA L L.length).map (fun x=>x.2.1)=L.map Subtype.val:=by
 rw [Yv L _ (Nat.le_refl _)];exact List.take_of_length_le (by simp)
theorem zFH (D:Where) (cs:List Value) (x:aP) (a:Option Addr) (n c:Nat) (L:List bH) (w:World) (h:Hid (aK D w cs x)) (hL:Hid (ag ak 2 32 (fun _=>True) w a n c L)) :
  Calls prog 22 #[.agg cs.toArray,.slice a n c] w (WZ D (applyP (gL x,iR x) L) w x):=by
 obtain ⟨⟨a0,n0,m0⟩,⟨a1,n1,m1⟩,⟨a2,n2,m2⟩,⟨a3,n3,m3⟩,⟨a4,n4,m4⟩,⟨a5,n5,m5⟩,rfl,_⟩:=h.out.out
 simp only at h
 obtain ⟨L,rfl⟩:=OY hL.out
 have hlen:Hid (L.length=n):=by have:=hL.out.1;rwa [List.length_map] at this
 obtain ⟨W1,hW1⟩:∃ W,W=(w.alloc (.cells #[.slice a0 n0 m0,.slice a1 n1 m1,.slice a2 n2 m2,.slice a3 n3 m3,.slice a4 n4 m4,.slice a5 n5 m5] 29)).alloc (.cells #[.slice none 0 0,.slice none 0 0,.slice none 0 0,.slice none 0 0,.slice none 0 0,.slice none 0 0] 29):=⟨_,rfl⟩
 have B1:Below w.heap.size w W1:=by rw [hW1];go_grown
 have hz1:W1.heap.size=w.heap.size+1+1:=by rw [hW1];simp
 have q1:af W1 w.heap.size [.slice a0 n0 m0,.slice a1 n1 m1,.slice a2 n2 m2,.slice a3 n3 m3,.slice a4 n4 m4,.slice a5 n5 m5]:=by rw [hW1];exact (af.new w 29 _).on ((Below.refl _ _).alloc (Nat.le_refl _) _)
 have q2:af W1 (w.heap.size+1) Z6:=by rw [hW1];have:=af.new (w.alloc (.cells #[.slice a0 n0 m0,.slice a1 n1 m1,.slice a2 n2 m2,.slice a3 n3 m3,.slice a4 n4 m4,.slice a5 n5 m5] 29)) 29 [.slice none 0 0,.slice none 0 0,.slice none 0 0,.slice none 0 0,.slice none 0 0,.slice none 0 0];simpa using this
 have HQ:Hid (∀ z,Kept (fun b=>b=w.heap.size) W1 z->z.cell? ⟨w.heap.size,0,none⟩=some (.slice a0 n0 m0)/\z.cell? ⟨w.heap.size,1,none⟩=some (.slice a1 n1 m1)/\z.cell? ⟨w.heap.size,2,none⟩=some (.slice a2 n2 m2)/\z.cell? ⟨w.heap.size,3,none⟩=some (.slice a3 n3 m3)/\z.cell? ⟨w.heap.size,4,none⟩=some (.slice a4 n4 m4)/\z.cell? ⟨w.heap.size,5,none⟩=some (.slice a5 n5 m5)):=fun z hb=>⟨((q1.kept hb rfl).2 0 _ rfl).1,((q1.kept hb rfl).2 1 _ rfl).1,((q1.kept hb rfl).2 2 _ rfl).1,((q1.kept hb rfl).2 3 _ rfl).1,((q1.kept hb rfl).2 4 _ rfl).1,((q1.kept hb rfl).2 5 _ rfl).1⟩
 have HS:Hid (∀ z,Below W1.heap.size W1 z->aK (fun b=>D b/\b<w.heap.size) z [.slice a0 n0 m0,.slice a1 n1 m1,.slice a2 n2 m2,.slice a3 n3 m3,.slice a4 n4 m4,.slice a5 n5 m5] x/\ag ak 2 32 (fun b=>b<w.heap.size) z a n c (L.map Subtype.val)/\af z (w.heap.size+1) Z6):=fun z hz=>⟨aK.ae.kept (aK.ae.weak h.out (A':=fun b=>D b/\b<w.heap.size) (fun b hb hd=>⟨hd,hb⟩)) (Kept.below (ah B1 hz)),(hL.out.weak ak.ae (fun b hb _=>hb)).on ak.ae (ah B1 hz),q2.on hz⟩
 have HB1:Hid (Below w.heap.size w W1):=B1
 clear h hL q1 q2 B1
 go_enter func22,ntmps22
 go_upto_region 1 with fail
 rw [<- hW1]
 clear hW1
 refine t0 (fun z=>Kept (fun b=>b=w.heap.size) W1 z) (Kept.drew _ _) (fun gH=>?_)
 have hb0:Below W1.heap.size W1 W1.drew:=(Below.refl _ _).drew
 generalize hwd:W1.drew=wd at gH hb0 |-
 clear hwd
 try go_frame
 refine' tk 0 ?_ ?_;rotate_left
 ·intro u hu;obtain ⟨f0,f1,f2,f3,f4,f5⟩:=HQ.out u hu;clear hu;go_simp;try with_reducible rfl
 try go_frame
 refine' tk 1 ?_ ?_;rotate_left
 ·intro u hu;obtain ⟨f0,f1,f2,f3,f4,f5⟩:=HQ.out u hu;clear hu;go_simp;try with_reducible rfl
 try go_frame
 have hC:=(callsIn_wide (n:=9)).1 (all_in Fence.wide 9 trivial rfl a n c wd)
 refine tr 2 (fun K hK=>?_)
 go_simp
 refine hC.mono ?_
 rintro e u1 ⟨rfl,hu1⟩
 clear hC
 have d1:Below wd.heap.size wd u1:=by rw [hu1];exact (Below.refl _ _).alloc (Nat.le_refl _) _
 have hb1:Below W1.heap.size W1 u1:=ah hb0 d1
 have qb:af u1 wd.heap.size [.slice a n c]:=by rw [hu1];exact af.new wd _ _
 have hwl:w.heap.size<=wd.heap.size:=Nat.le_trans (by omega) hb0.size
 clear hu1
 go_wp2_with fail
 refine hK.out _ _ (Kept.below hb1) (fun gI=>?_)
 clear hK K gH;have gH:=gI;clear gI
 try go_frame
 obtain ⟨s1,s2,s3⟩:=HS.out u1 hb1
 have Si:w.heap.size<=u1.heap.size:=Nat.le_trans hwl d1.size
 have hC:=zHC 63 37 #[.pointer (some ⟨wd.heap.size,0,none⟩)] tQ (fun _ v=>v.1) (fun c _=>c.1) (fun ys=>ys=iA L n) (fun pre=>∃ k,k<=n/\pre=iA L k) n (fun b=>D b/\b<w.heap.size) [.slice a0 n0 m0,.slice a1 n1 m1,.slice a2 n2 m2,.slice a3 n3 m3,.slice a4 n4 m4,.slice a5 n5 m5] x u1 (fun b hb=>Nat.lt_of_lt_of_le hb.2 Si) s1 (enters_of func63 (by kernel_rfl) rfl) (enters_of func37 (by kernel_rfl) rfl)
  (fun W hW=>all_stops Fence.wide 8 trivial rfl (by decide) wd.heap.size u1.heap.size a n c L W (Nat.lt_of_lt_of_le qb.1 hW.size) hW.size ((qb.on hW).2 0 _ rfl).1 ((s2.weak ak.ae (fun b hb _=>hb)).on ak.ae hW)) (fun Bc oc Bv ov cs A c vs A' v u h1 h2 h3 h4 h5 h6 h7 h8 h9=>zHH Bc oc Bv ov cs A c vs A' v u h1 h2 h3 h4 h5 h6 h7 h8 h9) (fun c v h1 h2=>⟨h2,h1⟩)
 refine tr 3 (fun K hK=>?_)
 go_simp
 refine hC.mono ?_
 rintro e u2 hz
 clear hC
 rw [show stepD tQ (fun _ v=>v.1) (fun c _=>c.1)=stepA from rfl] at hz
 rcases hz with ⟨ys,st,g0,g1,g2,g3,g4,g5,rfl,hr,rfl,hd⟩ | ⟨ys,k,⟨j,hj,rfl⟩,hr,rfl,hk,hd⟩
 ·have lh:Below u1.heap.size u1 u2:=hd.2.2
  have GX:Below w.heap.size w u2:=ah (ah HB1.out hb1) lh
  have zb:=s3.on lh
  obtain ⟨b0,k0,c0,rfl⟩:=hd.2.1.1.head
  obtain ⟨b1,k1,c1,rfl⟩:=hd.2.1.2.1.head
  obtain ⟨b2,k2,c2,rfl⟩:=hd.1.1.head
  obtain ⟨b3,k3,c3,rfl⟩:=hd.1.2.1.head
  obtain ⟨b4,k4,c4,rfl⟩:=hd.2.1.2.2.1.head
  obtain ⟨b5,k5,c5,rfl⟩:=hd.2.1.2.2.2.head
  have HR:Hid (applyP (gL x,iR x) (L.map Subtype.val)=.ok st):=by have h8:=hr;rw [<- hlen.out,IK,Qg] at h8;exact h8
  clear hr
  go_wp2_with fail
  refine hK.out _ _ ((Kept.below hb1).trans (Kept.weak (A:=fun b=>b<u1.heap.size) (Kept.below lh) (fun b hb=>by have h8:b=w.heap.size:=hb;have h9:=qb.1;show b<u1.heap.size;omega))) (fun gI=>?_)
  clear hK K gH;have gH:=gI;clear gI
  try go_frame
  refine tp 4 ?_
  try go_frame
  refine tp 5 ?_
  try go_frame
  obtain ⟨U,hU⟩:∃ U,U=u2.setCells (w.heap.size+1) 0 [.slice b0 k0 c0,.slice b1 k1 c1,.slice b2 k2 c2,.slice b3 k3 c3,.slice b4 k4 c4,.slice b5 k5 c5]:=⟨_,rfl⟩
  refine ts 6 (fun K hK=>?_)
  refine fP (by rfl) (wp_store_mid 29 _ _ rfl (w.heap.size+1) 0 #[.slice b0 k0 c0,.slice b1 k1 c1,.slice b2 k2 c2,.slice b3 k3 c3,.slice b4 k4 c4,.slice b5 k5 c5] rfl rfl zb.there oN (by simp [Value.oneCell']) ?_)
  have kU:Kept (fun b=>b≠w.heap.size+1) u2 U:=by rw [hU];exact dP (fun h=>h rfl)
  have bU:Below w.heap.size w U:=by rw [hU];exact cu GX (by omega)
  have qU:af U (w.heap.size+1) [.slice b0 k0 c0,.slice b1 k1 c1,.slice b2 k2 c2,.slice b3 k3 c3,.slice b4 k4 c4,.slice b5 k5 c5]:=by rw [hU];exact dL zb rfl
  have eU:U=u2.setCells (w.heap.size+1) 0 (#[.slice b0 k0 c0,.slice b1 k1 c1,.slice b2 k2 c2,.slice b3 k3 c3,.slice b4 k4 c4,.slice b5 k5 c5]:Array Value).toList:=by rw [hU]
  have HE:Hid (vX (fun b=>D b/\b<w.heap.size) w U (.slice b0 k0 c0) (.slice b1 k1 c1) (.slice b2 k2 c2) (.slice b3 k3 c3) (.slice b4 k4 c4) (.slice b5 k5 c5) x st):=hd.Q6 (ah HB1.out hb1) (fun b hb=>hb.2) bU (kU.weak (fun b hb=>by have:=hb1.size;rcases hb with hb | hb;have:=hb.2;omega;omega))
  rw [<- eU]
  refine hK.out _ _ (((Kept.below hb1).trans (Kept.weak (A:=fun b=>b<u1.heap.size) (Kept.below lh) (fun b hb=>by have h8:b=w.heap.size:=hb;have h9:=qb.1;show b<u1.heap.size;omega))).trans (kU.weak (fun b hb=>by have h8:b=w.heap.size:=hb;show b≠w.heap.size+1;omega))) (fun gI=>?_)
  clear hK K gH;have gH:=gI;clear gI
  try go_frame
  refine tp 7 ?_
  try go_frame
  refine tz ?_
  have t0':=(qU.2 0 _ rfl).1
  have t1':=(qU.2 1 _ rfl).1
  have t2':=(qU.2 2 _ rfl).1
  have rG:=(qU.2 3 _ rfl).1
  have rF:=(qU.2 4 _ rfl).1
  have rE:=(qU.2 5 _ rfl).1
  clear hU eU kU bU qU zb GX
  go_wp2_with fail
  clear hd lh
  refine bodyPost_ret (v:=.tuple #[.agg #[.slice b0 k0 c0,.slice b1 k1 c1,.slice b2 k2 c2,.slice b3 k3 c3,.slice b4 k4 c4,.slice b5 k5 c5],.int .i64 0]) (by simp [results,Tryz.results22,go_sem,t0',t1',t2',rG,rF,rE,Result.andThen]) rfl ?_
  exact .inl ⟨st,_,_,_,_,_,_,HR.out,rfl,HE.out⟩
 ·have lh:Below u1.heap.size u1 u2:=hd
  have GX:Below w.heap.size w u2:=ah (ah HB1.out hb1) lh
  have zb:=s3.on lh
  have HR:Hid (applyP (gL x,iR x) (L.map Subtype.val)=.error k):=by have h8:=hr;rw [Yv L j (by rw [hlen.out];exact hj)] at h8;have h9:=E8 h8;rw [Qg] at h9;exact h9
  clear hr hj
  go_wp2_with fail
  refine hK.out _ _ ((Kept.below hb1).trans (Kept.weak (A:=fun b=>b<u1.heap.size) (Kept.below lh) (fun b hb=>by have h8:b=w.heap.size:=hb;have h9:=qb.1;show b<u1.heap.size;omega))) (fun gI=>?_)
  clear hK K gH;have gH:=gI;clear gI
  try go_frame
  refine tp 4 ?_
  try go_frame
  refine tp 5 ?_
  try go_frame
  obtain ⟨U,hU⟩:∃ U,U=u2.setCells (w.heap.size+1) 0 [.slice none 0 0,.slice none 0 0,.slice none 0 0,.slice none 0 0,.slice none 0 0,.slice none 0 0]:=⟨_,rfl⟩
  refine ts 6 (fun K hK=>?_)
  refine fP (by rfl) (wp_store_mid 29 _ _ rfl (w.heap.size+1) 0 #[.slice none 0 0,.slice none 0 0,.slice none 0 0,.slice none 0 0,.slice none 0 0,.slice none 0 0] rfl rfl zb.there oN (by simp [Value.oneCell']) ?_)
  have kU:Kept (fun b=>b≠w.heap.size+1) u2 U:=by rw [hU];exact dP (fun h=>h rfl)
  have bU:Below w.heap.size w U:=by rw [hU];exact cu GX (by omega)
  have qU:af U (w.heap.size+1) [.slice none 0 0,.slice none 0 0,.slice none 0 0,.slice none 0 0,.slice none 0 0,.slice none 0 0]:=by rw [hU];exact dL zb rfl
  have eU:U=u2.setCells (w.heap.size+1) 0 (#[.slice none 0 0,.slice none 0 0,.slice none 0 0,.slice none 0 0,.slice none 0 0,.slice none 0 0]:Array Value).toList:=by rw [hU]
  have HE:Hid (Below w.heap.size w U):=bU
  rw [<- eU]
  refine hK.out _ _ (((Kept.below hb1).trans (Kept.weak (A:=fun b=>b<u1.heap.size) (Kept.below lh) (fun b hb=>by have h8:b=w.heap.size:=hb;have h9:=qb.1;show b<u1.heap.size;omega))).trans (kU.weak (fun b hb=>by have h8:b=w.heap.size:=hb;show b≠w.heap.size+1;omega))) (fun gI=>?_)
  clear hK K gH;have gH:=gI;clear gI
  try go_frame
  refine tp 7 ?_
  try go_frame
  refine tz ?_
  have t0':=(qU.2 0 _ rfl).1
  have t1':=(qU.2 1 _ rfl).1
  have t2':=(qU.2 2 _ rfl).1
  have rG:=(qU.2 3 _ rfl).1
  have rF:=(qU.2 4 _ rfl).1
  have rE:=(qU.2 5 _ rfl).1
  clear hU eU kU bU qU zb GX
  go_wp2_with fail
  clear hd lh
  refine bodyPost_ret (v:=.tuple #[.agg #[.slice none 0 0,.slice none 0 0,.slice none 0 0,.slice none 0 0,.slice none 0 0,.slice none 0 0],.int .i64 k]) (by simp [results,Tryz.results22,go_sem,t0',t1',t2',rG,rF,rE,Result.andThen]) rfl ?_
  exact .inr ⟨k,HR.out,rfl,hk,HE.out⟩
end Go.Proofs.YtgikfenllgldoaaGreat
