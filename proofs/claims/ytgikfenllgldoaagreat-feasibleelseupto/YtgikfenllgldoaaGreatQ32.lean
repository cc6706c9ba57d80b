/- Functions of the program, each walked under the conditions that its theorem names. -/
import Derived.Test.YtgikfenllgldoaaGreatQ27
set_option linter.unusedSimpArgs false
set_option maxRecDepth 100000
set_option maxHeartbeats 32000000
namespace Go.Proofs.YtgikfenllgldoaaGreat
open Go.Proofs.Tryz
open Go.RowKit Go.Maps
def keepV (V:List aD) (NL:List aG) (c:aT):Int :=
 match fI (jK V) (jS c) with
 | none=>13
 | some j=>if ay (eH (V.getD j default)) c.1=true then (if bE NL (oQ (V.getD j default))=true then 0 else 14) else 13
theorem IJ (K:List dI) (s:ByteArray):waitsP K s=match fI (K.map Prod.fst) s with | none=>false | some j=>(K.getD j default).2:=by
 induction K with
 | nil=>rfl
 | cons a K ih =>
  unfold waitsP fI at *
  rw [List.find?_cons,List.map_cons,List.findIdx?_cons]
  cases h:ay a.1 s with
  | true=>rfl
  | false =>
   simp only [Bool.false_eq_true,if_false]
   rw [ih]
   cases List.findIdx? (fun x=>ay x s) (K.map Prod.fst) <;> rfl
theorem aH.QA {A:Where} {w:World} {cs:List Value} {x:dI} (h:aH A w cs x):cs[1]?=some (.bool x.2):=by
 obtain ⟨rfl,_⟩:=h.out
 rfl
theorem zHQ (w Wp:World) (X:Nat) (dW:Value) (la:Option Addr) (ln lc:Nat) (ca:Option Addr) (cn cc cm:Nat) (va:Option Addr) (vn vc vm:Nat) (ka:Option Addr) (kn kc km:Nat) (NL:List aG) (CL:List aT) (V:List aD) (K:List dI) (lv pv:Value) (cs:List Value) (A:Where) (c:aT) (u:World) (hp:wZ w Wp X dW la ln lc ca cn cc cm va vn vc vm ka kn kc km NL CL V K) (hk:Kept (nu Wp X dW) Wp u) (hx:af u X (MB la ln lc ca cn cc cm va vn vc vm ka kn kc km lv pv)) (hc:aA A u cs c) :
  Calls prog 120 #[.pointer (some ⟨X,0,none⟩),.agg cs.toArray] u fun e u'=>e=.returned (.int .i64 (keepV V NL c))/\Below u.heap.size u u':=by
 obtain ⟨W1,hW1⟩:∃ W,W=u.alloc (.cells cs.toArray 124):=⟨_,rfl⟩
 have B1:Below u.heap.size u W1:=by rw [hW1];go_grown
 have q1:af W1 u.heap.size cs:=by rw [hW1];exact af.new u 124 _
 obtain ⟨e0,e1,e2,e3,z0,z2,z3⟩:=hc.kE
 have HA:Hid (∀ z,Below W1.heap.size W1 z->Kept (nu Wp X dW) Wp z/\af z X (MB la ln lc ca cn cc cm va vn vc vm ka kn kc km lv pv)/\af z u.heap.size cs):=fun z hb=>⟨hk.trans (Kept.below (ah B1 hb)),hx.on (ah B1 hb),q1.on hb⟩
 have HB1:Hid (Below u.heap.size u W1):=B1
 have HP:Hid (wZ w Wp X dW la ln lc ca cn cc cm va vn vc vm ka kn kc km NL CL V K):=hp
 have HQ:Hid (∀ z,Below W1.heap.size W1 z->z.cell? ⟨X,3,none⟩=some (.slice va vn vc)/\z.cell? ⟨X,4,none⟩=some (.map (some vm))/\z.cell? ⟨u.heap.size,3,none⟩=some (.string (jS c))):=fun z hb=>by
  obtain ⟨_,h2,h3⟩:=HA.out z hb
  exact ⟨(h2.2 3 _ rfl).1,(h2.2 4 _ rfl).1,(h3.2 3 _ e3).1⟩
 have HR:Hid (keepV V NL c=match fI (jK V) (jS c) with | none=>13 | some j=>if ay (eH (V.getD j default)) c.1=true then (if bE NL (oQ (V.getD j default))=true then 0 else 14) else 13):=rfl
 clear hp hk hx hc q1 B1
 generalize keepV V NL c=r at HR
 generalize jS c=s at HQ HR z3 e3
 generalize c.1=nm at HR e0
 clear e1 e2 z0 z2
 go_enter func120,ntmps120
 go_upto_region 1 with fail
 rw [<- hW1]
 clear hW1
 refine t0 (fun z=>Below W1.heap.size W1 z) (Below.refl _ _).drew (fun gH=>?_)
 generalize hwd:W1.drew=wd at gH |-
 clear hwd
 try go_frame
 refine' tk 0 ?_ ?_;rotate_left
 ·intro u hu;obtain ⟨f1,f2,f3⟩:=HQ.out u hu;clear hu;go_simp;try with_reducible rfl
 try go_frame
 refine' tk 1 ?_ ?_;rotate_left
 ·intro u hu;obtain ⟨f1,f2,f3⟩:=HQ.out u hu;clear hu;go_simp;try with_reducible rfl
 try go_frame
 refine' tk 2 ?_ ?_;rotate_left
 ·intro u hu;obtain ⟨f1,f2,f3⟩:=HQ.out u hu;clear hu;go_simp;try with_reducible rfl
 try go_frame
 refine' tk 3 ?_ ?_;rotate_left
 ·intro u hu;obtain ⟨f1,f2,f3⟩:=HQ.out u hu;clear hu;go_simp;try with_reducible rfl
 try go_frame
 refine' tk 4 ?_ ?_;rotate_left
 ·intro u hu;obtain ⟨f1,f2,f3⟩:=HQ.out u hu;clear hu;go_simp;try with_reducible rfl
 try go_frame
 refine' tk 5 ?_ ?_;rotate_left
 ·intro u hu;obtain ⟨f1,f2,f3⟩:=HQ.out u hu;clear hu;go_simp;try with_reducible rfl
 try go_frame
 obtain ⟨k6,_,_⟩:=HA.out _ gH
 refine tr 6 (fun K hK=>?_)
 go_simp
 refine (Zf va vn vc _ V vm s _ (HP.out.at k6).2.2.1 (HP.out.at k6).2.2.2.2.2.1 z3).mono ?_
 rintro e w6 ⟨rfl,d6⟩
 have b6:=ah gH d6
 go_wp2_with fail
 refine hK.out _ _ b6 (fun gI=>?_)
 clear hK K gH;have gH:=gI;clear gI
 try go_frame
 refine tp 7 ?_
 try go_frame
 refine tz ?_
 clear gH k6 d6 HQ
 obtain ⟨k6,x6,q6⟩:=HA.out w6 b6
 obtain ⟨sl,_,sv,_,_,_,_⟩:=HP.out.at k6
 have cX0:=(x6.2 0 _ rfl).1
 have cN:=(q6.2 0 _ e0).1
 cases hf:fI (jK V) s with
 | none =>
  have hr:r=13:=by have:=HR.out;rw [hf] at this;exact this
  have om:pAt 5 va none=none:=by cases va <;> rfl
  rw [om]
  have HF:Hid (r=13/\Below u.heap.size u w6):=⟨hr,ah HB1.out b6⟩
  clear HR HA HP k6 x6 q6 sl sv hr b6 hf om
  go_upto_region 2 with fail
  go_quiet (fail)
  go_wp2_with fail
  go_ret
  exact ⟨by rw [HF.out.1];rfl,ah HF.out.2 (Bj _ _)⟩
 | some j =>
  have hj:=(jl hf).1
  rw [List.length_map,sv.1] at hj
  obtain ⟨B,off,rfl,hB,_,ys,hy,hyv⟩:=sv.get hj
  obtain ⟨_,_,_,⟨⟨g1,g2,g3⟩,y3,sR⟩,y4⟩:=hy.kE
  simp only at y3 sR
  have d3:=hyv 3 _ y3
  have d4:=hyv 4 _ y4
  have hr:=HR.out
  rw [hf] at hr
  simp only at hr
  have HM:Hid (∀ z,Below w6.heap.size w6 z->Calls prog 104 #[.slice la ln lc,.slice g1 g2 g3] z fun e z'=>e=.returned (.bool (bE NL (oQ (V.getD j default))))/\Below z.heap.size z z'):=fun z hb=>yY _ _ _ _ _ _ _ _ _ _ _ (sl.on ak.ae hb) (sR.on aU.ae hb)
  have HD:Hid (∀ z,Below w6.heap.size w6 z->z.cell? ⟨X,0,none⟩=some (.slice la ln lc)/\z.cell? ⟨B,off+j*5+3,none⟩=some (.slice g1 g2 g3)):=fun z hb=>⟨((x6.on hb).2 0 _ rfl).1,(hb.cell (p:=⟨B,off+j*5+3,none⟩) hB).trans d3⟩
  have vk:Hid (Below u.heap.size u w6):=ah HB1.out b6
  have Hr:Hid (r=if ay (eH (V.getD j default)) nm=true then (if bE NL (oQ (V.getD j default))=true then 0 else 14) else 13):=hr
  clear HR HA HP k6 x6 q6 sl sv hr b6 hf hy hyv y3 y4 sR hB
  generalize eH (V.getD j default)=QE at d4 Hr
  generalize bE NL (oQ (V.getD j default))=b at HM Hr
  have om:pAt 5 (some ⟨B,off,none⟩) (some j)=some ⟨B,off+j*5,none⟩:=rfl
  rw [om]
  clear om
  have hq:(QE.toList == nm.toList)=ay QE nm:=rfl
  cases hb1:ay QE nm
  ·rw [hb1] at hq Hr
   have hr:Hid (r=13):=by have h9:=Hr.out;rw [Hid];simpa using h9
   clear Hr HM HD hb1
   go_upto_region 2 with fail
   go_quiet (fail)
   go_wp2_with fail
   go_ret
   exact ⟨by rw [hr.out];rfl,ah vk.out (Bj _ _)⟩
  ·rw [hb1] at hq Hr
   have hr:Hid (r=if b=true then 0 else 14):=by have h9:=Hr.out;rw [Hid];simpa using h9
   clear Hr hb1
   go_upto_region 2 with fail
   go_quiet (fail)
   clear d3 d4 cN cX0 hq
   go_upto_region 4 with fail
   refine t0 (fun z=>Below w6.heap.size w6 z) (Below.drew (Bj _ _)) (fun gH=>?_)
   generalize hwd:World.drew _=wd at gH |-
   clear hwd
   try go_frame
   refine' tk 0 ?_ ?_;rotate_left
   ·intro u hu;obtain ⟨f1,f2⟩:=HD.out u hu;clear hu;go_simp;try with_reducible rfl
   try go_frame
   refine' tk 1 ?_ ?_;rotate_left
   ·intro u hu;obtain ⟨f1,f2⟩:=HD.out u hu;clear hu;go_simp;try with_reducible rfl
   try go_frame
   refine' tk 2 ?_ ?_;rotate_left
   ·intro u hu;obtain ⟨f1,f2⟩:=HD.out u hu;clear hu;go_simp;try with_reducible rfl
   try go_frame
   refine' tk 3 ?_ ?_;rotate_left
   ·intro u hu;obtain ⟨f1,f2⟩:=HD.out u hu;clear hu;go_simp;try with_reducible rfl
   try go_frame
   refine' tk 4 ?_ ?_;rotate_left
   ·intro u hu;obtain ⟨f1,f2⟩:=HD.out u hu;clear hu;go_simp;try with_reducible rfl
   try go_frame
   refine' tk 5 ?_ ?_;rotate_left
   ·intro u hu;obtain ⟨f1,f2⟩:=HD.out u hu;clear hu;go_simp;try with_reducible rfl
   try go_frame
   refine' tk 6 ?_ ?_;rotate_left
   ·intro u hu;obtain ⟨f1,f2⟩:=HD.out u hu;clear hu;go_simp;try with_reducible rfl
   try go_frame
   refine' tk 7 ?_ ?_;rotate_left
   ·intro u hu;obtain ⟨f1,f2⟩:=HD.out u hu;clear hu;go_simp;try with_reducible rfl
   try go_frame
   refine tr 8 (fun K hK=>?_)
   go_simp
   refine (HM.out _ gH).mono ?_
   rintro e w8 ⟨rfl,d8⟩
   have b8:=ah gH d8
   go_wp2_with fail
   refine hK.out _ _ b8 (fun gI=>?_)
   clear hK K gH;have gH:=gI;clear gI
   try go_frame
   refine tp 9 ?_
   try go_frame
   refine tz ?_
   have HF:Hid (Below u.heap.size u w8):=ah vk.out b8
   clear gH d8 b8 HM HD
   cases b
   ·go_wp2_with fail
    go_ret
    exact ⟨by rw [hr.out];rfl,HF.out⟩
   ·go_wp2_with fail
    go_ret
    exact ⟨by rw [hr.out];rfl,HF.out⟩
theorem zGP (w Wp:World) (X:Nat) (dW:Value) (la:Option Addr) (ln lc:Nat) (ca:Option Addr) (cn cc cm:Nat) (va:Option Addr) (vn vc vm:Nat) (ka:Option Addr) (kn kc km:Nat) (NL:List aG) (CL:List aT) (V:List aD) (K:List dI) (lv pv:Value) (cs:List Value) (A:Where) (c:aT) (u:World) (hp:wZ w Wp X dW la ln lc ca cn cc cm va vn vc vm ka kn kc km NL CL V K) (hk:Kept (nu Wp X dW) Wp u) (hx:af u X (MB la ln lc ca cn cc cm va vn vc vm ka kn kc km lv pv)) (hc:aA A u cs c) :
  Calls prog 121 #[.pointer (some ⟨X,0,none⟩),.agg cs.toArray] u fun e u'=>e=.returned (.bool (waitsP K c.2.2.1))/\Below u.heap.size u u':=by
 obtain ⟨W1,hW1⟩:∃ W,W=u.alloc (.cells cs.toArray 124):=⟨_,rfl⟩
 have B1:Below u.heap.size u W1:=by rw [hW1];go_grown
 have q1:af W1 u.heap.size cs:=by rw [hW1];exact af.new u 124 _
 obtain ⟨e0,e1,e2,e3,z0,z2,z3⟩:=hc.kE
 have HA:Hid (∀ z,Below W1.heap.size W1 z->Kept (nu Wp X dW) Wp z/\af z X (MB la ln lc ca cn cc cm va vn vc vm ka kn kc km lv pv)/\af z u.heap.size cs):=fun z hb=>⟨hk.trans (Kept.below (ah B1 hb)),hx.on (ah B1 hb),q1.on hb⟩
 have HB1:Hid (Below u.heap.size u W1):=B1
 have HP:Hid (wZ w Wp X dW la ln lc ca cn cc cm va vn vc vm ka kn kc km NL CL V K):=hp
 have HQ:Hid (∀ z,Below W1.heap.size W1 z->z.cell? ⟨X,5,none⟩=some (.slice ka kn kc)/\z.cell? ⟨X,6,none⟩=some (.map (some km))/\z.cell? ⟨u.heap.size,2,none⟩=some (.string c.2.2.1)):=fun z hb=>by
  obtain ⟨_,h2,h3⟩:=HA.out z hb
  exact ⟨(h2.2 5 _ rfl).1,(h2.2 6 _ rfl).1,(h3.2 2 _ e2).1⟩
 have HR:Hid (waitsP K c.2.2.1=match fI (K.map Prod.fst) c.2.2.1 with | none=>false | some j=>(K.getD j default).2):=IJ K c.2.2.1
 clear hp hk hx hc q1 B1
 generalize waitsP K c.2.2.1=r at HR
 generalize c.2.2.1=s at HQ HR z2 e2
 clear e1 e0 e3 z0 z3
 go_enter func121,ntmps121
 go_upto_region 1 with fail
 rw [<- hW1]
 clear hW1
 refine t0 (fun z=>Below W1.heap.size W1 z) (Below.refl _ _).drew (fun gH=>?_)
 generalize hwd:W1.drew=wd at gH |-
 clear hwd
 try go_frame
 refine' tk 0 ?_ ?_;rotate_left
 ·intro u hu;obtain ⟨f1,f2,f3⟩:=HQ.out u hu;clear hu;go_simp;try with_reducible rfl
 try go_frame
 refine' tk 1 ?_ ?_;rotate_left
 ·intro u hu;obtain ⟨f1,f2,f3⟩:=HQ.out u hu;clear hu;go_simp;try with_reducible rfl
 try go_frame
 refine' tk 2 ?_ ?_;rotate_left
 ·intro u hu;obtain ⟨f1,f2,f3⟩:=HQ.out u hu;clear hu;go_simp;try with_reducible rfl
 try go_frame
 refine' tk 3 ?_ ?_;rotate_left
 ·intro u hu;obtain ⟨f1,f2,f3⟩:=HQ.out u hu;clear hu;go_simp;try with_reducible rfl
 try go_frame
 refine' tk 4 ?_ ?_;rotate_left
 ·intro u hu;obtain ⟨f1,f2,f3⟩:=HQ.out u hu;clear hu;go_simp;try with_reducible rfl
 try go_frame
 refine' tk 5 ?_ ?_;rotate_left
 ·intro u hu;obtain ⟨f1,f2,f3⟩:=HQ.out u hu;clear hu;go_simp;try with_reducible rfl
 try go_frame
 obtain ⟨k6,_,_⟩:=HA.out _ gH
 refine tr 6 (fun K hK=>?_)
 go_simp
 refine (zD8 ka kn kc _ _ km s _ (HP.out.at k6).2.2.2.1 (HP.out.at k6).2.2.2.2.2.2 z2).mono ?_
 rintro e w6 ⟨rfl,d6⟩
 have b6:=ah gH d6
 go_wp2_with fail
 refine hK.out _ _ b6 (fun gI=>?_)
 clear hK K gH;have gH:=gI;clear gI
 try go_frame
 refine tp 7 ?_
 try go_frame
 refine tz ?_
 clear gH k6 d6 HQ
 obtain ⟨k6,x6,q6⟩:=HA.out w6 b6
 obtain ⟨_,_,_,sv,_,_,_⟩:=HP.out.at k6
 have HF:Hid (Below u.heap.size u w6):=ah HB1.out b6
 cases hf:fI (K.map Prod.fst) s with
 | none =>
  have hr:r=false:=by have:=HR.out;rw [hf] at this;exact this
  have om:pAt 2 ka none=none:=by cases ka <;> rfl
  rw [om]
  clear HR HA HP k6 x6 q6 sv b6 hf om
  go_wp2_with fail
  go_ret
  exact ⟨by rw [hr];rfl,HF.out⟩
 | some j =>
  have hj:=(jl hf).1
  rw [List.length_map,sv.1] at hj
  obtain ⟨B,off,rfl,hB,_,ys,hy,hyv⟩:=sv.get hj
  have d1:=hyv 1 _ hy.QA
  have hr:r=(K.getD j default).2:=by have:=HR.out;rw [hf] at this;exact this
  clear HR HA HP k6 x6 q6 sv b6 hf hy hyv hB
  generalize (K.getD j default).2=b at d1 hr
  have om:pAt 2 (some ⟨B,off,none⟩) (some j)=some ⟨B,off+j*2,none⟩:=rfl
  rw [om]
  clear om
  have NR:Hid (r=b):=hr
  clear hr
  go_wp2_with fail
  go_ret
  exact ⟨by rw [NR.out];rfl,HF.out⟩
theorem zH0 (a:Option Addr) (n cap:Nat) (A:Where) (L:List ByteArray) (mb:Nat) (w:World) (hL:Hid (ag au 1 8 A w a n cap L)) (hm:Hid (aV w mb (L.map id))) :
  Calls prog 119 #[.agg #[.slice a n cap,.map (some mb)]] w (AR au 1 (cZ A w) 9 w (bK id L)):=by
 have hnl:Hid (L.length=n):=hL.out.1
 have hbn:Hid (n*8<=140737488351232):=hL.out.2.2.2.1
 have hlen:=hL.out.len (by decide)
 obtain ⟨W1,hW1⟩:∃ W,W=w.alloc (.cells #[.slice a n cap,.map (some mb)] 205):=⟨_,rfl⟩
 have B1:Below w.heap.size w W1:=by rw [hW1];go_grown
 have q1:af W1 w.heap.size [.slice a n cap,.map (some mb)]:=by rw [hW1];exact af.new w 205 _
 obtain ⟨F,hF⟩:∃ F,F=dN (L.map id):=⟨_,rfl⟩
 have hFn:F.length<=n:=by have:=L9 (L.map id);rw [hF,<- hnl.out];rwa [List.length_map] at this
 have hln:=(hm.out.on B1).len
 rw [<- hF] at hln
 obtain ⟨i0,hi0,hz0,hz1,hz2⟩:=info_parts LB
 obtain ⟨W2,hmk,hown,hg2⟩:=run_make_own (P:=prog) W1 W1.heap.size 39 9 i0 _ 1 underlying39 hi0 hz0 hz1 .i64 .i64 F.length (by rw [hz2];have:=hbn.out;omega) (by have:=hbn.out;have:=yU;omega) (Nat.le_refl _)
 have B2:Below W1.heap.size W1 W2:=(Below.refl _ _).grown hg2 (Nat.le_refl _) (fun k e=>by cases e)
 have r2:Row au 1 (cZ A w) W1 W2 9 (.slice (some ⟨W1.heap.size,0,none⟩) 0 F.length) ((bK id L).take 0):=⟨[],⟨B2,hown⟩,aW.nil _ _⟩
 have m2:=hm.out.on (ah B1 B2)
 have HU:Hid (∀ u,Below W1.heap.size W1 u->af u w.heap.size [.slice a n cap,.map (some mb)]/\ag au 1 8 (cZ A w) u a n cap L/\Below w.heap.size w u):=fun u hb=>⟨q1.on hb,(hL.out.weak au.ae (fun b hb h=>⟨h,hb⟩)).on au.ae (ah B1 hb),ah B1 hb⟩
 have HA:Hid (∀ k,k<F.length->F.getD k default<n/\(bK id L).take (k+1)=(bK id L).take k++[L.getD (F.getD k default) default]/\(iU (L.map id)).getD k default=((F.getD k default:Nat):Int)):=fun k hk=>by rw [hF] at hk |-;rw [<- hnl.out];exact Cu id hk
 have xg:Hid ((iU (L.map id)).length=F.length):=by rw [Hid,hF];unfold iU;rw [List.length_map]
 have Iq:Hid ((bK id L).length=F.length):=by rw [Hid,hF];exact LH _ _
 have c1:=(q1.2 1 _ rfl).1
 have c1':=((q1.on B2).2 1 _ rfl).1
 have hsz1:W1.heap.size<W2.heap.size:=(hown.lt W1.heap.size rfl).2
 have Gt:=YB (some mb) W2
 have hCs:=YX m2 (by rw [List.length_map,hnl.out];have:=hbn.out;omega)
 have H2:Hid (Row au 1 (cZ A w) W1 W2 9 (.slice (some ⟨W1.heap.size,0,none⟩) 0 F.length) ((bK id L).take 0)/\W1.heap.size<W2.heap.size/\Below W1.heap.size W1 W2):=⟨r2,hsz1,B2⟩
 have NC:Hid (w.heap.size<W1.heap.size/\Below w.heap.size w W1):=⟨q1.1,B1⟩
 unfold Av at hCs
 clear hL hm B1 q1 hown hg2 B2 r2 m2 hi0 hz0 hz1 hz2 hF hsz1
 generalize bK id L=M at H2 HA Iq
 generalize iU (L.map id)=Zs at hCs HA xg
 have tY:Hid (Calls prog 138 #[.func (.func 176) #[] #[.pointer (some ⟨W2.heap.size,0,none⟩)]] (W2.alloc (.cells #[.map (some mb)] 119)) (fun e w'=>∃ v,e=.returned v/\Row aC 1 (fun _=>False) W2 w' 3 v Zs)):=hCs
 clear hCs
 go_enter func119,ntmps119
 go_upto_region 1 with fail
 rw [<- hW1]
 clear hW1
 go_upto_region 2 with fail
 clear hmk hln c1
 go_wp2_with fail
 refine Gt.mono ?_
 rintro e w3 ⟨rfl,rfl⟩
 clear Gt
 go_wp2_with fail
 refine tY.out.mono ?_
 rintro e w4 ⟨s,rfl,hrs⟩
 clear tY c1'
 have b4:Below W2.heap.size W2 w4:=hrs.below
 have hbs:Beside au 1 (cZ A w) W1 w4 9 (.slice (some ⟨W1.heap.size,0,none⟩) 0 F.length) s (M.take 0) Zs:=⟨H2.out.1.on au.ae b4,hrs.from aC.ae H2.out.2.2 (fun _ h=>h),fun b hb e=>by
  have h1:=(hrs.lt e).1
  have h2:=H2.out.2.1
  simp only [Value.ownBlock,Option.some.injEq] at hb
  omega⟩
 obtain ⟨sa,sn,sc,rfl,ss⟩:=hrs.iW (bytes:=8) aC.ae (by rw [xg.out];have:=hbn.out;omega)
 have hsn:Hid (sn=F.length):=by rw [Hid,<- ss.1];exact xg.out
 have aa4:=ss.len (by decide)
 have HI:Hid (Beside au 1 (cZ A w) W1 w4 9 (.slice (some ⟨W1.heap.size,0,none⟩) 0 F.length) (.slice sa sn sc) (M.take 0) Zs/\Roomy (.slice (some ⟨W1.heap.size,0,none⟩) 0 F.length) (M.take 0).length F.length):=⟨hbs,.inr ⟨W1.heap.size,F.length,by simp,Nat.le_refl _⟩⟩
 clear hrs b4 hbs ss H2
 go_wp2_with fail
 go_loopw [3,15] (fun o i wr=>∃ k:Nat,k<=sn/\i=.int .i64 k/\Hid (Beside au 1 (cZ A w) W1 wr 9 o (.slice sa sn sc) (M.take k) Zs/\Roomy o (M.take k).length F.length)) (fun _ i _=>sn - (intOf i).toNat)
 case atStart=>exact ⟨0,Nat.zero_le _,rfl,HI⟩
 case round =>
  obtain ⟨k,hk,rfl,hrun⟩:=hrel
  obtain ⟨hbs,hro⟩:=hrun.out
  have CF:Hid (Roomy u3 (M.take k).length F.length):=hro
  clear hrun HI hro
  obtain ⟨hq,hS,hbw⟩:=HU.out wr hbs.below
  by_cases hlt:k<sn
  ·have hltz:(k:Int)<(sn:Int):=by omega
   obtain ⟨ja,jb,jc⟩:=HA.out k (by rw [<- hsn.out];exact hlt)
   obtain ⟨j,hj⟩:∃ j,j=F.getD k default:=⟨_,rfl⟩
   rw [<- hj] at ja jb jc
   clear hj
   have hjz:(j:Int)<(n:Int):=by omega
   obtain ⟨_,_,_,es,ss⟩:=hbs.2.1.iW (bytes:=8) aC.ae (by rw [xg.out];have:=hbn.out;omega)
   cases es
   obtain ⟨Bs,os,rfl,wT,_,ys,hys,hyv⟩:=ss.get hlt
   obtain rfl:ys=[.int .i64 (Zs.getD k default)]:=hys
   have d0:=hyv 0 _ rfl
   rw [jc,Nat.mul_one,Nat.add_zero] at d0
   obtain ⟨B,off,rfl,hB,iL,xs,hr,hv⟩:=hS.get ja
   have HT:Hid (M.take (k+1)=M.take k++[L.getD j default]):=jb
   have fK:Hid ((M.take k).length<=k):=by rw [Hid,List.length_take];omega
   generalize L.getD j default=x at hr HT
   obtain ⟨rfl,hxz⟩:=hr
   have d1:=hv 0 _ rfl
   rw [Nat.mul_one,Nat.add_zero] at d1
   obtain ⟨Wb,kg⟩:∃ W,W=wr.alloc (.cells #[.string x] 9):=⟨_,rfl⟩
   have mI:Below wr.heap.size wr Wb:=by rw [kg];go_grown
   have HB2:Hid (Beside au 1 (cZ A w) W1 Wb 9 u3 (.slice (some ⟨Bs,os,none⟩) sn sc) (M.take k) Zs):=hbs.on au.ae mI
   have jo:Hid (Src au 1 (fun b=>cZ A w b/\u3.ownBlock≠some b) Wb (some ⟨wr.heap.size,0,none⟩) 1 [x]):=P6 au.ae (cs:=[.string x]) (by rw [kg];exact af.new wr 9 _) ⟨rfl,hxz⟩
   have oW:Hid (Wb=wr.alloc (.cells #[.string x] 9)):=kg
   have jQ:Hid ((M.take k).length+[x].length<=F.length):=by have h1:=fK.out;have h3:=hsn.out;rw [Hid,List.length_singleton];omega
   have c0:=(hq.2 0 _ rfl).1
   have ib:Hid (Row au 1 (cZ A w) W1 Wb 9 u3 (M.take k)):=HB2.out.1
   clear hq hS hbw hv hyv ss hbs kg mI jb jc fK hB iL wT
   go_wp2_with (first | (at_builtin;refine kF oW.out ?_;go_must (refine Yy au.ae (A:=cZ A w) (w0:=W1) rfl _ _ 39 9 rfl _ 16 LB underlying39 u3 (M.take k) F.length rfl ib.out CF.out (some ⟨wr.heap.size,0,none⟩) 1 1 [x] rfl jo.out jQ.out ?_);intro v7 u7 jG jR hw7 Gf) | fail)
   have HN:Hid (Beside au 1 (cZ A w) W1 u7 9 v7 (.slice (some ⟨Bs,os,none⟩) sn sc) (M.take (k+1)) Zs/\Roomy v7 (M.take (k+1)).length F.length):=by rw [Hid,HT.out];exact ⟨HB2.out.app jG jR (.inl hw7),Gf⟩
   clear jG jR hw7 Gf CF HB2 HT jo jQ ib oW c0 d0 d1
   go_roundw
   case rel=>exact ⟨k+1,by omega,by go_num,HN⟩
   case measure=>simp [intOf];omega
  ·have htk:M.take k=M:=List.take_of_length_le (by rw [Iq.out,<- hsn.out];omega)
   rw [htk] at hbs
   have HF:Hid (Row au 1 (cZ A w) w wr 9 u3 M):=hbs.1.from au.ae NC.out.2 (fun _ h=>h)
   clear hq hS hbw hbs htk
   go_wp2_with fail
   go_ret
   exact ⟨_,rfl,HF.out⟩
end Go.Proofs.YtgikfenllgldoaaGreat
namespace Go.Proofs.YtgikfenllgldoaaGreat
open Go.Proofs.Tryz
open Go.RowKit
section
variable {α:Type} [Inhabited α] {R:bI α} {k:Nat}
theorem zD9 {u:World} {g o:Nat} {cur:Array Value} {T:TypeId} {val:Value} (hg:u.heap[g]?=some (.cells cur T (0,0))):(u.setCell ⟨g,o,none⟩ val).heap[g]?=some (.cells (cur.setIfInBounds o val) T (0,0)):=by
 have hlt:g<u.heap.size:=(Array.getElem?_eq_some_iff.1 hg).1
 have hge:u.heap[g]=.cells cur T (0,0):=(Array.getElem?_eq_some_iff.1 hg).2
 simp [World.setCell,hg,hlt,World.putObj,Array.getElem_modify,hge]
theorem Row.set1 (hR:aJ R k) {A:Where} {w0 u:World} {e:TypeId} {g cap i j:Nat} {L:List α} {val:Value} {x:α} (h:Row R k A w0 u e (.slice (some ⟨g,0,none⟩) L.length cap) L) (hi:i<L.length) (hj:j<k)
  (hx:∀ B cs,R B u cs (L.getD i default)->R B u (cs.set j val) x):Row R k A w0 (u.setCell ⟨g,i*k+j,none⟩ val) e (.slice (some ⟨g,0,none⟩) L.length cap) (L.set i x):=by
 obtain ⟨xs,⟨hb,hl,⟨e1,_⟩ | ⟨g',cap',cur,e1,hBg,hg,hcp,hcm,hsz,htk⟩⟩,hch⟩:=h
 ·cases e1
 simp only [Value.slice.injEq,Option.some.injEq,Addr.mk.injEq,and_true,true_and] at e1
 obtain ⟨rfl,rfl⟩:=e1
 have hkn:(i+1)*k<=L.length*k:=Nat.mul_le_mul_right k hi
 have hkc:L.length*k<=cap*k:=Nat.mul_le_mul_right k hcp
 rw [Nat.add_mul,Nat.one_mul] at hkn
 have hxl:xs.length=L.length*k:=hl
 refine ⟨xs.set (i*k+j) val,⟨hb.setCell (p:=⟨g,i*k+j,none⟩) hBg val,?_⟩,?_⟩
 ·rw [List.length_set]
  refine ⟨by rw [List.length_set];exact hl,.inr ⟨g,cap,cur.setIfInBounds (i*k+j) val,rfl,hBg,zD9 hg,hcp,hcm,by simpa using hsz,?_⟩⟩
  rw [Array.toList_setIfInBounds,List.take_set,htk]
 ·have k1:Kept (fun b=>A b/\Value.ownBlock (.slice (some ⟨g,0,none⟩) L.length cap)≠some b) u (u.setCell ⟨g,i*k+j,none⟩ val):=Kept.set (p:=⟨g,i*k+j,none⟩) (fun h=>h.2 rfl) val
  refine ⟨by simp only [List.length_set];exact hxl,fun m hm=>?_⟩
  rw [List.length_set] at hm
  obtain ⟨cs,h1,h2⟩:=hch.2 m hm
  by_cases Sd:m=i
  ·subst Sd
   refine ⟨cs.set j val,?_,fun q hq=>?_⟩
   ·have e3:(L.set m x).getD m default=x:=by simp [List.getD_eq_getElem?_getD,hm]
    rw [e3]
    exact hR.kept (hx _ cs h1) k1
   ·have hcl:=hR.len h1
    rw [List.getElem?_set,List.getElem?_set]
    by_cases hqj:j=q
    ·subst hqj
     rw [if_pos rfl,if_pos rfl,if_pos (by omega),if_pos (by omega)]
    ·rw [if_neg (by omega),if_neg hqj];exact h2 q hq
  ·refine ⟨cs,?_,fun q hq=>?_⟩
   ·have e3:(L.set i x).getD m default=L.getD m default:=by simp [List.getD_eq_getElem?_getD,List.getElem?_set,Ne.symm Sd]
    rw [e3]
    exact hR.kept h1 k1
   ·rw [List.getElem?_set,if_neg]
    ·exact h2 q hq
    ·intro e
     rcases Nat.lt_or_gt_of_ne Sd with hl | hl
     ·have:=Nat.mul_le_mul_right k (show m+1<=i from hl);rw [Nat.add_mul,Nat.one_mul] at this;omega
     ·have:=Nat.mul_le_mul_right k (show i+1<=m from hl);rw [Nat.add_mul,Nat.one_mul] at this;omega
theorem Row.yO {A:Where} {w0 u:World} {e:TypeId} {g n cap o:Nat} {L:List α} (h:Row R k A w0 u e (.slice (some ⟨g,0,none⟩) n cap) L):u.frozen? ⟨g,o,none⟩=false:=by
 obtain ⟨xs,⟨hb,hl,⟨e1,_⟩ | ⟨g',cap',cur,e1,hBg,hg,hcp,hcm,hsz,htk⟩⟩,hch⟩:=h
 ·cases e1
 simp only [Value.slice.injEq,Option.some.injEq,Addr.mk.injEq,and_true,true_and] at e1
 obtain ⟨rfl,_,rfl⟩:=e1
 simp [World.frozen?,hg]
end
theorem aA.Dg {B:Where} {u:World} {cs:List Value} {c:aT} {s:ByteArray} (h:aA B u cs c) (hs:s.size<=140737488355328):aA B u (cs.set 3 (.string s)) (qF c s):=by
 obtain ⟨rfl,h1,h2,h3⟩:=h.out
 exact ⟨[_],_,rfl,⟨rfl,h1⟩,[_],_,rfl,rfl,[_],_,rfl,⟨rfl,h2⟩,rfl,hs⟩
theorem ai.Dg {B:Where} {u:World} {cs:List Value} {v:aD} {s:ByteArray} (h:ai B u cs v) (hs:s.size<=140737488355328):ai B u (cs.set 4 (.string s)) (qG v s):=by
 obtain ⟨⟨a,b,c⟩,rfl,h1,h2,h4,h5⟩:=h.out
 exact ⟨[_],_,rfl,⟨rfl,h1⟩,[_],_,rfl,rfl,[_],_,rfl,⟨rfl,h2⟩,[_],_,rfl,⟨a,b,c,rfl,h4⟩,rfl,hs⟩
end Go.Proofs.YtgikfenllgldoaaGreat
