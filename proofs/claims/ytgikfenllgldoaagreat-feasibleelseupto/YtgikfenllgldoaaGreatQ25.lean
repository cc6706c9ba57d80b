/- Functions of the program, each walked under the conditions that its theorem names. -/
import Derived.Test.YtgikfenllgldoaaGreatQ21
import Derived.Test.YtgikfenllgldoaaGreatQ22
set_option linter.unusedSimpArgs false
set_option maxRecDepth 100000
set_option maxHeartbeats 32000000
namespace Go.Proofs.YtgikfenllgldoaaGreat
open Go.Proofs.Tryz
open Go.RowKit Go.Maps
def TlS (D:Nat) (nm:ByteArray) (l2 l10 l11:Value) (u:World):Prop:=u.cell? ⟨D,0,none⟩=some (.string nm)/\u.cell? ⟨D,2,none⟩=some l2/\u.cell? ⟨D,10,none⟩=some l10/\u.cell? ⟨D,11,none⟩=some l11
theorem pF {u:World} {p q:Addr} {v:Value} (h:q.block≠p.block):(u.setCell p v).cell? q=u.cell? q:=World.cell?_of_block (w:=u) (Below.heap_setCell u p v q.block h)
theorem zEP (cs:List Value) (A:Where) (p:aB) (w:World) (h:Hid (aj A w cs p)) (hn:(jI p).length<1000000000) (hm:(bB p).length<1000000000):Calls prog 72 #[.agg cs.toArray] w fun e w'=>∃ ts T,e=.returned (.agg ts.toArray)/\qj (fun _=>True) w w' ts T p/\Below w.heap.size w w':=by
 have hpo:Hid (aj (fun b=>b<w.heap.size) w cs p):=aj.ae.weak h.out (fun b hb _=>hb)
 clear h
 obtain ⟨⟨a2,n2,m2⟩,⟨a6,n6,m6⟩,⟨a7,n7,m7⟩,⟨a8,n8,m8⟩,⟨a9,n9,m9⟩,⟨eG,n10,m10⟩,⟨dY,n11,m11⟩,⟨a12,n12,m12⟩,⟨df,n13,m13⟩,rfl,p0,s2,_,_,_,_,s10,s11,_,_,_,_⟩:=hpo.out.out
 simp only at p0 s2 s10 s11 |-
 have P0:Hid (p.1.size<=140737488355328):=p0
 have S2:Hid (ag ak 2 32 (fun b=>b<w.heap.size) w a2 n2 m2 (bG p)):=s2
 have Nr:Hid (ag bT 2 40 (fun b=>b<w.heap.size) w eG n10 m10 (jI p)):=s10
 have Nq:Hid (ag bT 2 40 (fun b=>b<w.heap.size) w dY n11 m11 (bB p)):=s11
 have Sc:n10<1000000000:=by have:(jI p).length=n10:=s10.1;omega
 have Sb:n11<1000000000:=by have:(bB p).length=n11:=s11.1;omega
 clear hpo p0 s2 s10 s11 hn hm
 have hmm:=@run_makeMap prog
 obtain ⟨W0,hW0⟩:∃ W,W=(w.alloc (.cells #[.string p.1,.int .i64 p.2.1,.slice a2 n2 m2,.int .i64 p.2.2.2.1.1,.int .i64 p.2.2.2.1.2.1,.int .i64 p.2.2.2.1.2.2,.slice a6 n6 m6,.slice a7 n7 m7,.slice a8 n8 m8,.slice a9 n9 m9,.slice eG n10 m10,.slice dY n11 m11,.slice a12 n12 m12,.slice df n13 m13,.string p.2.2.2.2.2.2.2.2.2.2.2.2.1,.string p.2.2.2.2.2.2.2.2.2.2.2.2.2] 41)).alloc (.cells #[.string ⟨#[]⟩,.slice none 0 0,.slice none 0 0,.slice none 0 0,.map none] 159):=⟨_,rfl⟩
 have B0:Below w.heap.size w W0:=by rw [hW0];go_grown
 have q0:af W0 w.heap.size [.string p.1,.int .i64 p.2.1,.slice a2 n2 m2,.int .i64 p.2.2.2.1.1,.int .i64 p.2.2.2.1.2.1,.int .i64 p.2.2.2.1.2.2,.slice a6 n6 m6,.slice a7 n7 m7,.slice a8 n8 m8,.slice a9 n9 m9,.slice eG n10 m10,.slice dY n11 m11,.slice a12 n12 m12,.slice df n13 m13,.string p.2.2.2.2.2.2.2.2.2.2.2.2.1,.string p.2.2.2.2.2.2.2.2.2.2.2.2.2]:=by rw [hW0];exact (af.new w 41 [.string p.1,.int .i64 p.2.1,.slice a2 n2 m2,.int .i64 p.2.2.2.1.1,.int .i64 p.2.2.2.1.2.1,.int .i64 p.2.2.2.1.2.2,.slice a6 n6 m6,.slice a7 n7 m7,.slice a8 n8 m8,.slice a9 n9 m9,.slice eG n10 m10,.slice dY n11 m11,.slice a12 n12 m12,.slice df n13 m13,.string p.2.2.2.2.2.2.2.2.2.2.2.2.1,.string p.2.2.2.2.2.2.2.2.2.2.2.2.2]).on ((Below.refl _ _).alloc (Nat.le_refl _) _)
 have q1:af W0 (w.heap.size+1) [.string ⟨#[]⟩,.slice none 0 0,.slice none 0 0,.slice none 0 0,.map none]:=by have h1:=af.new (w.alloc (.cells #[.string p.1,.int .i64 p.2.1,.slice a2 n2 m2,.int .i64 p.2.2.2.1.1,.int .i64 p.2.2.2.1.2.1,.int .i64 p.2.2.2.1.2.2,.slice a6 n6 m6,.slice a7 n7 m7,.slice a8 n8 m8,.slice a9 n9 m9,.slice eG n10 m10,.slice dY n11 m11,.slice a12 n12 m12,.slice df n13 m13,.string p.2.2.2.2.2.2.2.2.2.2.2.2.1,.string p.2.2.2.2.2.2.2.2.2.2.2.2.2] 41)) 159 [.string ⟨#[]⟩,.slice none 0 0,.slice none 0 0,.slice none 0 0,.map none];rw [hW0];simpa using h1
 have HS:Hid (∀ u,Below W0.heap.size W0 u->TlS w.heap.size p.1 (.slice a2 n2 m2) (.slice eG n10 m10) (.slice dY n11 m11) u):=fun u hb=>⟨((q0.on hb).2 0 _ rfl).1,((q0.on hb).2 2 _ rfl).1,((q0.on hb).2 10 _ rfl).1,((q0.on hb).2 11 _ rfl).1⟩
 have HQ:Hid (∀ u,Below W0.heap.size W0 u->af u (w.heap.size+1) [.string ⟨#[]⟩,.slice none 0 0,.slice none 0 0,.slice none 0 0,.map none]):=fun u hb=>q1.on hb
 have HB0:Hid (Below w.heap.size w W0):=B0
 have rZ:Hid (∀ u,Below w.heap.size w u->Calls prog 102 #[.slice eG n10 m10] u fun e w'=>∃ a' c' M,e=.returned (.slice a' n10 c')/\ag bM 3 48 (fun b=>b<w.heap.size\/(az u b/\jC w' b)) w' a' n10 c' M/\M.map Prod.fst=jI p/\jA u w' M/\Below u.heap.size u w'):=fun u hb=>Y5 eG n10 m10 _ (jI p) u (Nr.out.on bT.ae hb) (fun b hb'=>Nat.lt_of_lt_of_le hb' hb.size) Sc
 have tZ:Hid (∀ u,Below w.heap.size w u->Calls prog 102 #[.slice dY n11 m11] u fun e w'=>∃ a' c' M,e=.returned (.slice a' n11 c')/\ag bM 3 48 (fun b=>b<w.heap.size\/(az u b/\jC w' b)) w' a' n11 c' M/\M.map Prod.fst=bB p/\jA u w' M/\Below u.heap.size u w'):=fun u hb=>Y5 dY n11 m11 _ (bB p) u (Nq.out.on bT.ae hb) (fun b hb'=>Nat.lt_of_lt_of_le hb' hb.size) Sb
 have hsz:Hid (W0.heap.size=w.heap.size+1+1):=by rw [Hid,hW0];simp
 clear Nr Nq Sc Sb q0 q1 B0
 go_enter func72,ntmps72
 go_upto_region 1 with fail
 rw [<- hW0]
 clear hW0
 refine t0 (TlS w.heap.size p.1 (.slice a2 n2 m2) (.slice eG n10 m10) (.slice dY n11 m11)) (HS.out _ (Below.refl _ _).drew) (fun gH=>?_)
 refine' tk 0 ?_ ?_;rotate_left
 ·intro u ⟨_,_,_,_⟩;go_simp;try with_reducible rfl
 try go_frame
 refine' tk 1 ?_ ?_;rotate_left
 ·intro u ⟨_,_,_,_⟩;go_simp;try with_reducible rfl
 try go_frame
 refine' tk 2 ?_ ?_;rotate_left
 ·intro u ⟨_,_,_,_⟩;go_simp;try with_reducible rfl
 try go_frame
 refine' tk 3 ?_ ?_;rotate_left
 ·intro u ⟨_,_,_,_⟩;go_simp;try with_reducible rfl
 try go_frame
 refine' tk 4 ?_ ?_;rotate_left
 ·intro u ⟨_,_,_,_⟩;go_simp;try with_reducible rfl
 try go_frame
 refine' tk 5 ?_ ?_;rotate_left
 ·intro u ⟨_,_,_,_⟩;go_simp;try with_reducible rfl
 try go_frame
 refine' tk 7 ?_ ?_;rotate_left
 ·intro u ⟨_,_,_,_⟩;go_simp;try with_reducible rfl
 try go_frame
 refine' tk 8 ?_ ?_;rotate_left
 ·intro u ⟨_,_,_,_⟩;go_simp;try with_reducible rfl
 try go_frame
 have hBd:Below W0.heap.size W0 W0.drew:=(Below.refl _ _).drew
 have ac3:Below W0.heap.size W0 W0.drew:=(Below.refl _ _).drew
 refine tb 6 10 (fun K hK=>?_) (fun K hK=>?_)
 ·
  go_simp
  refine (rZ.out _ (ah HB0.out hBd)).mono ?_
  rintro e v1 ⟨a1',c1',M1,rfl,hs1,he1,hz1,hb1⟩
  have sQ:=ah hBd hb1
  go_wp2_with fail
  refine hK.out _ _ (HS.out _ sQ) (fun gI=>?_)
  clear hK K gH;have gH:=gI;clear gI
  try go_frame
  refine tb 9 10 (fun K hK=>?_) (fun K hK=>?_)
  ·
   go_simp
   refine (tZ.out _ (ah HB0.out sQ)).mono ?_
   rintro e v2 ⟨jf,c2',M2,rfl,hs2,he2,hz2,hb2⟩
   have nT:=ah sQ hb2
   go_wp2_with fail
   refine hK.out _ _ (HS.out _ nT) (fun gI=>?_)
   clear hK K gH;have gH:=gI;clear gI
   try go_frame
   refine tr 10 (fun K hK=>?_)
   go_simp
   have oJ:Below W0.heap.size W0 ((v2).alloc (.map #[] 0)):=nT.alloc (nT).size _
   refine hK.out _ _ (HS.out _ oJ) (fun gI=>?_)
   clear hK K gH;have gH:=gI;clear gI
   try go_frame
   have HT:Hid (qj (fun b=>b≠w.heap.size+1) w (v2.alloc (.map #[] 0)) [.string p.1,.slice a2 n2 m2,.slice a1' n10 c1',.slice jf n11 c2',.map (some (v2).heap.size)] (p.1,bG p,M1,M2,(v2).heap.size) p):=by
    have hz:=hsz.out;have k1:=hb1.size;have k2:=hb2.size;have kd:W0.drew.heap.size=W0.heap.size:=rfl;(try simp only [World.size_alloc] at k1 k2)
    exact PN (u1:=W0.drew) (u2:=v1) (w1':=v1) (w2':=v2) (ah HB0.out oJ) P0.out S2.out hs1 he1 hz1 (ah hb2 ((Below.refl _ _).alloc (Nat.le_refl _) _)) (by (try simp only [World.size_alloc]);omega) (by omega) hs2 he2 hz2 ((Below.refl _ _).alloc (Nat.le_refl _) _) (Nat.le_refl _) (bF.made v2) (by (try simp only [World.size_alloc]);omega) (fun b h1 h2=>by (try simp only [World.size_alloc] at h1 |-);omega) (fun b h1 h2=>by (try simp only [World.size_alloc] at h1 |-);omega) _ (fun b h1=>by omega) (fun b h1=>by (try simp only [World.size_alloc] at h1);omega) (fun b h1=>by (try simp only [World.size_alloc] at h1);omega)
   obtain ⟨U,hU⟩:∃ U,U=(v2.alloc (.map #[] 0)):=⟨_,rfl⟩
   have hq:=HQ.out _ oJ
   have uP:=oJ
   rw [<- hU] at HT hq uP
   generalize hmo:(v2).heap.size=mo at HT
   refine' tk 11 ?_ ?_;rotate_left
   ·intro u ⟨_,_,_,_⟩;go_simp;try with_reducible rfl
   try go_frame
   refine ts 12 (fun K hK=>?_)
   obtain ⟨c0,f0⟩:=hq.2 0 _ rfl
   obtain ⟨c1,f1⟩:=hq.2 1 _ rfl
   obtain ⟨c2,f2⟩:=hq.2 2 _ rfl
   obtain ⟨c3,f3⟩:=hq.2 3 _ rfl
   obtain ⟨c4,f4⟩:=hq.2 4 _ rfl
   rw [<- hU]
   clear hU rZ tZ
   simp only [hmo]
   go_simp
   have hnm:=hq.gu
   have yA:=((((HT.out.set (q:=⟨w.heap.size+1,0,none⟩) hnm (fun h=>h rfl) (.string p.1)).set (q:=⟨w.heap.size+1,1,none⟩) ((hq.set 0 (.string p.1) (by simp)).gu) (fun h=>h rfl) (.slice a2 n2 m2)).set (q:=⟨w.heap.size+1,2,none⟩) (((hq.set 0 (.string p.1) (by simp)).set 1 (.slice a2 n2 m2) (by simp)).gu) (fun h=>h rfl) (.slice a1' n10 c1')).set (q:=⟨w.heap.size+1,3,none⟩) ((((hq.set 0 (.string p.1) (by simp)).set 1 (.slice a2 n2 m2) (by simp)).set 2 (.slice a1' n10 c1') (by simp)).gu) (fun h=>h rfl) (.slice jf n11 c2')).set (q:=⟨w.heap.size+1,4,none⟩) (((((hq.set 0 (.string p.1) (by simp)).set 1 (.slice a2 n2 m2) (by simp)).set 2 (.slice a1' n10 c1') (by simp)).set 3 (.slice jf n11 c2') (by simp)).gu) (fun h=>h rfl) (.map (some mo))
   have mF:=((((hq.set 0 (.string p.1) (by simp)).set 1 (.slice a2 n2 m2) (by simp)).set 2 (.slice a1' n10 c1') (by simp)).set 3 (.slice jf n11 c2') (by simp)).set 4 (.map (some mo)) (by simp)
   have uO:=ah HB0.out uP
   have sj:=((((uO.setCell (p:=⟨w.heap.size+1,0,none⟩) (Nat.le_succ _) (.string p.1)).setCell (p:=⟨w.heap.size+1,1,none⟩) (Nat.le_succ _) (.slice a2 n2 m2)).setCell (p:=⟨w.heap.size+1,2,none⟩) (Nat.le_succ _) (.slice a1' n10 c1')).setCell (p:=⟨w.heap.size+1,3,none⟩) (Nat.le_succ _) (.slice jf n11 c2')).setCell (p:=⟨w.heap.size+1,4,none⟩) (Nat.le_succ _) (.map (some mo))
   have mM:∀ j,((((((U.setCell ⟨w.heap.size+1,0,none⟩ (.string p.1)).setCell ⟨w.heap.size+1,1,none⟩ (.slice a2 n2 m2)).setCell ⟨w.heap.size+1,2,none⟩ (.slice a1' n10 c1')).setCell ⟨w.heap.size+1,3,none⟩ (.slice jf n11 c2')).setCell ⟨w.heap.size+1,4,none⟩ (.map (some mo))).cell? ⟨w.heap.size,j,none⟩)=U.cell? ⟨w.heap.size,j,none⟩:=fun j=>(((((pF (by simp)).trans (pF (by simp))).trans (pF (by simp))).trans (pF (by simp))).trans (pF (by simp)))
   obtain ⟨V,hV⟩:∃ V,V=((((U.setCell ⟨w.heap.size+1,0,none⟩ (.string p.1)).setCell ⟨w.heap.size+1,1,none⟩ (.slice a2 n2 m2)).setCell ⟨w.heap.size+1,2,none⟩ (.slice a1' n10 c1')).setCell ⟨w.heap.size+1,3,none⟩ (.slice jf n11 c2')).setCell ⟨w.heap.size+1,4,none⟩ (.map (some mo)):=⟨_,rfl⟩
   rw [<- hV] at yA mF sj mM |-
   obtain ⟨t0,t1,t2,t3⟩:=HS.out _ uP
   refine hK.out undef _ ⟨(mM 0).trans t0,(mM 2).trans t1,(mM 10).trans t2,(mM 11).trans t3⟩ (fun _=>?_)
   clear hV mM t0 t1 t2 t3 uO hK K gH c0 c1 c2 c3 c4 f0 f1 f2 f3 f4 hmo
   refine tz ?_
   have z0:=(mF.2 0 (.string p.1) rfl).1
   have z1:=(mF.2 1 (.slice a2 n2 m2) rfl).1
   have z2:=(mF.2 2 (.slice a1' n10 c1') rfl).1
   have z3:=(mF.2 3 (.slice jf n11 c2') rfl).1
   have z4:=(mF.2 4 (.map (some mo)) rfl).1
   go_wp2_with fail
   refine bodyPost_ret (v:=.agg #[.string p.1,.slice a2 n2 m2,.slice a1' n10 c1',.slice jf n11 c2',.map (some mo)]) (by simp [results,Tryz.results72,go_sem,z0,z1,z2,z3,z4,Result.andThen]) rfl ⟨_,_,rfl,yA.any,sj⟩
  ·
   go_simp
   have oJ:Below W0.heap.size W0 ((v1).alloc (.map #[] 0)):=sQ.alloc (sQ).size _
   refine hK.out _ _ (HS.out _ oJ) (fun gI=>?_)
   clear hK K gH;have gH:=gI;clear gI
   try go_frame
   refine tr 9 (fun K hK=>?_)
   go_simp
   refine (tZ.out _ (ah HB0.out oJ)).mono ?_
   rintro e v2 ⟨jf,c2',M2,rfl,hs2,he2,hz2,hb2⟩
   have nT:=ah oJ hb2
   go_wp2_with fail
   refine hK.out _ _ (HS.out _ nT) (fun gI=>?_)
   clear hK K gH;have gH:=gI;clear gI
   try go_frame
   have HT:Hid (qj (fun b=>b≠w.heap.size+1) w v2 [.string p.1,.slice a2 n2 m2,.slice a1' n10 c1',.slice jf n11 c2',.map (some (v1).heap.size)] (p.1,bG p,M1,M2,(v1).heap.size) p):=by
    have hz:=hsz.out;have k1:=hb1.size;have k2:=hb2.size;have kd:W0.drew.heap.size=W0.heap.size:=rfl;(try simp only [World.size_alloc] at k1 k2)
    exact PN (u1:=W0.drew) (u2:=(v1.alloc (.map #[] 0))) (w1':=v1) (w2':=v2) (ah HB0.out nT) P0.out S2.out hs1 he1 hz1 (ah ((Below.refl _ _).alloc (Nat.le_refl _) _) hb2) (by (try simp only [World.size_alloc]);omega) (by omega) hs2 he2 hz2 (Below.refl _ _) (by simp) ((bF.made v1).on hb2) (by (try simp only [World.size_alloc]);omega) (fun b h1 h2=>by (try simp only [World.size_alloc] at h1 |-);omega) (fun b h1 h2=>by (try simp only [World.size_alloc] at h1 |-);omega) _ (fun b h1=>by omega) (fun b h1=>by (try simp only [World.size_alloc] at h1);omega) (fun b h1=>by (try simp only [World.size_alloc] at h1);omega)
   obtain ⟨U,hU⟩:∃ U,U=v2:=⟨_,rfl⟩
   have hq:=HQ.out _ nT
   have uP:=nT
   rw [<- hU] at HT hq uP
   generalize hmo:(v1).heap.size=mo at HT
   refine' tk 11 ?_ ?_;rotate_left
   ·intro u ⟨_,_,_,_⟩;go_simp;try with_reducible rfl
   try go_frame
   refine ts 12 (fun K hK=>?_)
   obtain ⟨c0,f0⟩:=hq.2 0 _ rfl
   obtain ⟨c1,f1⟩:=hq.2 1 _ rfl
   obtain ⟨c2,f2⟩:=hq.2 2 _ rfl
   obtain ⟨c3,f3⟩:=hq.2 3 _ rfl
   obtain ⟨c4,f4⟩:=hq.2 4 _ rfl
   rw [<- hU]
   clear hU rZ tZ
   simp only [hmo]
   go_simp
   have hnm:=hq.gu
   have yA:=((((HT.out.set (q:=⟨w.heap.size+1,0,none⟩) hnm (fun h=>h rfl) (.string p.1)).set (q:=⟨w.heap.size+1,1,none⟩) ((hq.set 0 (.string p.1) (by simp)).gu) (fun h=>h rfl) (.slice a2 n2 m2)).set (q:=⟨w.heap.size+1,2,none⟩) (((hq.set 0 (.string p.1) (by simp)).set 1 (.slice a2 n2 m2) (by simp)).gu) (fun h=>h rfl) (.slice a1' n10 c1')).set (q:=⟨w.heap.size+1,3,none⟩) ((((hq.set 0 (.string p.1) (by simp)).set 1 (.slice a2 n2 m2) (by simp)).set 2 (.slice a1' n10 c1') (by simp)).gu) (fun h=>h rfl) (.slice jf n11 c2')).set (q:=⟨w.heap.size+1,4,none⟩) (((((hq.set 0 (.string p.1) (by simp)).set 1 (.slice a2 n2 m2) (by simp)).set 2 (.slice a1' n10 c1') (by simp)).set 3 (.slice jf n11 c2') (by simp)).gu) (fun h=>h rfl) (.map (some mo))
   have mF:=((((hq.set 0 (.string p.1) (by simp)).set 1 (.slice a2 n2 m2) (by simp)).set 2 (.slice a1' n10 c1') (by simp)).set 3 (.slice jf n11 c2') (by simp)).set 4 (.map (some mo)) (by simp)
   have uO:=ah HB0.out uP
   have sj:=((((uO.setCell (p:=⟨w.heap.size+1,0,none⟩) (Nat.le_succ _) (.string p.1)).setCell (p:=⟨w.heap.size+1,1,none⟩) (Nat.le_succ _) (.slice a2 n2 m2)).setCell (p:=⟨w.heap.size+1,2,none⟩) (Nat.le_succ _) (.slice a1' n10 c1')).setCell (p:=⟨w.heap.size+1,3,none⟩) (Nat.le_succ _) (.slice jf n11 c2')).setCell (p:=⟨w.heap.size+1,4,none⟩) (Nat.le_succ _) (.map (some mo))
   have mM:∀ j,((((((U.setCell ⟨w.heap.size+1,0,none⟩ (.string p.1)).setCell ⟨w.heap.size+1,1,none⟩ (.slice a2 n2 m2)).setCell ⟨w.heap.size+1,2,none⟩ (.slice a1' n10 c1')).setCell ⟨w.heap.size+1,3,none⟩ (.slice jf n11 c2')).setCell ⟨w.heap.size+1,4,none⟩ (.map (some mo))).cell? ⟨w.heap.size,j,none⟩)=U.cell? ⟨w.heap.size,j,none⟩:=fun j=>(((((pF (by simp)).trans (pF (by simp))).trans (pF (by simp))).trans (pF (by simp))).trans (pF (by simp)))
   obtain ⟨V,hV⟩:∃ V,V=((((U.setCell ⟨w.heap.size+1,0,none⟩ (.string p.1)).setCell ⟨w.heap.size+1,1,none⟩ (.slice a2 n2 m2)).setCell ⟨w.heap.size+1,2,none⟩ (.slice a1' n10 c1')).setCell ⟨w.heap.size+1,3,none⟩ (.slice jf n11 c2')).setCell ⟨w.heap.size+1,4,none⟩ (.map (some mo)):=⟨_,rfl⟩
   rw [<- hV] at yA mF sj mM |-
   obtain ⟨t0,t1,t2,t3⟩:=HS.out _ uP
   refine hK.out undef _ ⟨(mM 0).trans t0,(mM 2).trans t1,(mM 10).trans t2,(mM 11).trans t3⟩ (fun _=>?_)
   clear hV mM t0 t1 t2 t3 uO hK K gH c0 c1 c2 c3 c4 f0 f1 f2 f3 f4 hmo
   refine tz ?_
   have z0:=(mF.2 0 (.string p.1) rfl).1
   have z1:=(mF.2 1 (.slice a2 n2 m2) rfl).1
   have z2:=(mF.2 2 (.slice a1' n10 c1') rfl).1
   have z3:=(mF.2 3 (.slice jf n11 c2') rfl).1
   have z4:=(mF.2 4 (.map (some mo)) rfl).1
   go_wp2_with fail
   refine bodyPost_ret (v:=.agg #[.string p.1,.slice a2 n2 m2,.slice a1' n10 c1',.slice jf n11 c2',.map (some mo)]) (by simp [results,Tryz.results72,go_sem,z0,z1,z2,z3,z4,Result.andThen]) rfl ⟨_,_,rfl,yA.any,sj⟩
 ·
  go_simp
  have oJ:Below W0.heap.size W0 ((W0.drew).alloc (.map #[] 0)):=hBd.alloc (hBd).size _
  refine hK.out _ _ (HS.out _ oJ) (fun gI=>?_)
  clear hK K gH;have gH:=gI;clear gI
  try go_frame
  refine tr 6 (fun K hK=>?_)
  go_simp
  refine (rZ.out _ (ah HB0.out oJ)).mono ?_
  rintro e v1 ⟨a1',c1',M1,rfl,hs1,he1,hz1,hb1⟩
  have sQ:=ah oJ hb1
  go_wp2_with fail
  refine hK.out _ _ (HS.out _ sQ) (fun gI=>?_)
  clear hK K gH;have gH:=gI;clear gI
  try go_frame
  refine tr 9 (fun K hK=>?_)
  go_simp
  refine (tZ.out _ (ah HB0.out sQ)).mono ?_
  rintro e v2 ⟨jf,c2',M2,rfl,hs2,he2,hz2,hb2⟩
  have nT:=ah sQ hb2
  go_wp2_with fail
  refine hK.out _ _ (HS.out _ nT) (fun gI=>?_)
  clear hK K gH;have gH:=gI;clear gI
  try go_frame
  have HT:Hid (qj (fun b=>b≠w.heap.size+1) w v2 [.string p.1,.slice a2 n2 m2,.slice a1' n10 c1',.slice jf n11 c2',.map (some (W0).heap.size)] (p.1,bG p,M1,M2,(W0).heap.size) p):=by
   have hz:=hsz.out;have k1:=hb1.size;have k2:=hb2.size;have kd:W0.drew.heap.size=W0.heap.size:=rfl;(try simp only [World.size_alloc] at k1 k2)
   exact PN (u1:=(W0.drew.alloc (.map #[] 0))) (u2:=v1) (w1':=v1) (w2':=v2) (ah HB0.out nT) P0.out S2.out hs1 he1 hz1 (hb2) (by (try simp only [World.size_alloc]);omega) (by omega) hs2 he2 hz2 (Below.refl _ _) (Nat.le_refl _) (((bF.made W0.drew).on hb1).on hb2) (by (try simp only [World.size_alloc]);omega) (fun b h1 h2=>by (try simp only [World.size_alloc] at h1 |-);omega) (fun b h1 h2=>by (try simp only [World.size_alloc] at h1 |-);omega) _ (fun b h1=>by omega) (fun b h1=>by (try simp only [World.size_alloc] at h1);omega) (fun b h1=>by (try simp only [World.size_alloc] at h1);omega)
  obtain ⟨U,hU⟩:∃ U,U=v2:=⟨_,rfl⟩
  have hq:=HQ.out _ nT
  have uP:=nT
  rw [<- hU] at HT hq uP
  generalize hmo:(W0).heap.size=mo at HT
  refine' tk 11 ?_ ?_;rotate_left
  ·intro u ⟨_,_,_,_⟩;go_simp;try with_reducible rfl
  try go_frame
  refine ts 12 (fun K hK=>?_)
  obtain ⟨c0,f0⟩:=hq.2 0 _ rfl
  obtain ⟨c1,f1⟩:=hq.2 1 _ rfl
  obtain ⟨c2,f2⟩:=hq.2 2 _ rfl
  obtain ⟨c3,f3⟩:=hq.2 3 _ rfl
  obtain ⟨c4,f4⟩:=hq.2 4 _ rfl
  rw [<- hU]
  clear hU rZ tZ
  simp only [hmo]
  go_simp
  have hnm:=hq.gu
  have yA:=((((HT.out.set (q:=⟨w.heap.size+1,0,none⟩) hnm (fun h=>h rfl) (.string p.1)).set (q:=⟨w.heap.size+1,1,none⟩) ((hq.set 0 (.string p.1) (by simp)).gu) (fun h=>h rfl) (.slice a2 n2 m2)).set (q:=⟨w.heap.size+1,2,none⟩) (((hq.set 0 (.string p.1) (by simp)).set 1 (.slice a2 n2 m2) (by simp)).gu) (fun h=>h rfl) (.slice a1' n10 c1')).set (q:=⟨w.heap.size+1,3,none⟩) ((((hq.set 0 (.string p.1) (by simp)).set 1 (.slice a2 n2 m2) (by simp)).set 2 (.slice a1' n10 c1') (by simp)).gu) (fun h=>h rfl) (.slice jf n11 c2')).set (q:=⟨w.heap.size+1,4,none⟩) (((((hq.set 0 (.string p.1) (by simp)).set 1 (.slice a2 n2 m2) (by simp)).set 2 (.slice a1' n10 c1') (by simp)).set 3 (.slice jf n11 c2') (by simp)).gu) (fun h=>h rfl) (.map (some mo))
  have mF:=((((hq.set 0 (.string p.1) (by simp)).set 1 (.slice a2 n2 m2) (by simp)).set 2 (.slice a1' n10 c1') (by simp)).set 3 (.slice jf n11 c2') (by simp)).set 4 (.map (some mo)) (by simp)
  have uO:=ah HB0.out uP
  have sj:=((((uO.setCell (p:=⟨w.heap.size+1,0,none⟩) (Nat.le_succ _) (.string p.1)).setCell (p:=⟨w.heap.size+1,1,none⟩) (Nat.le_succ _) (.slice a2 n2 m2)).setCell (p:=⟨w.heap.size+1,2,none⟩) (Nat.le_succ _) (.slice a1' n10 c1')).setCell (p:=⟨w.heap.size+1,3,none⟩) (Nat.le_succ _) (.slice jf n11 c2')).setCell (p:=⟨w.heap.size+1,4,none⟩) (Nat.le_succ _) (.map (some mo))
  have mM:∀ j,((((((U.setCell ⟨w.heap.size+1,0,none⟩ (.string p.1)).setCell ⟨w.heap.size+1,1,none⟩ (.slice a2 n2 m2)).setCell ⟨w.heap.size+1,2,none⟩ (.slice a1' n10 c1')).setCell ⟨w.heap.size+1,3,none⟩ (.slice jf n11 c2')).setCell ⟨w.heap.size+1,4,none⟩ (.map (some mo))).cell? ⟨w.heap.size,j,none⟩)=U.cell? ⟨w.heap.size,j,none⟩:=fun j=>(((((pF (by simp)).trans (pF (by simp))).trans (pF (by simp))).trans (pF (by simp))).trans (pF (by simp)))
  obtain ⟨V,hV⟩:∃ V,V=((((U.setCell ⟨w.heap.size+1,0,none⟩ (.string p.1)).setCell ⟨w.heap.size+1,1,none⟩ (.slice a2 n2 m2)).setCell ⟨w.heap.size+1,2,none⟩ (.slice a1' n10 c1')).setCell ⟨w.heap.size+1,3,none⟩ (.slice jf n11 c2')).setCell ⟨w.heap.size+1,4,none⟩ (.map (some mo)):=⟨_,rfl⟩
  rw [<- hV] at yA mF sj mM |-
  obtain ⟨t0,t1,t2,t3⟩:=HS.out _ uP
  refine hK.out undef _ ⟨(mM 0).trans t0,(mM 2).trans t1,(mM 10).trans t2,(mM 11).trans t3⟩ (fun _=>?_)
  clear hV mM t0 t1 t2 t3 uO hK K gH c0 c1 c2 c3 c4 f0 f1 f2 f3 f4 hmo
  refine tz ?_
  have z0:=(mF.2 0 (.string p.1) rfl).1
  have z1:=(mF.2 1 (.slice a2 n2 m2) rfl).1
  have z2:=(mF.2 2 (.slice a1' n10 c1') rfl).1
  have z3:=(mF.2 3 (.slice jf n11 c2') rfl).1
  have z4:=(mF.2 4 (.map (some mo)) rfl).1
  go_wp2_with fail
  refine bodyPost_ret (v:=.agg #[.string p.1,.slice a2 n2 m2,.slice a1' n10 c1',.slice jf n11 c2',.map (some mo)]) (by simp [results,Tryz.results72,go_sem,z0,z1,z2,z3,z4,Result.andThen]) rfl ⟨_,_,rfl,yA.any,sj⟩
theorem CW (a:Option Addr) (n cap:Nat) (A:Where) (L:List aG) (key:ByteArray) (w:World) (hL:Hid (ag ak 2 32 A w a n cap L)):Calls prog 111 #[.slice a n cap,.string key] w fun e w'=>e=.returned (.tuple #[.string (getL L key).1,.bool (getL L key).2])/\Below w.heap.size w w':=by
 have h:=wJ a cap L key w (Lx hL.out)
 rw [hL.out.1] at h
 exact h
abbrev qg (s:cz) (r1:Option Addr) (r2 r3 m1 m2:Nat):List Value:=[.string s.1,.int .i64 s.2.1,.int .i64 s.2.2.1,.slice r1 r2 r3,.map (some m1),.map (some m2)]
theorem YH (s:cz) (r1:Option Addr) (r2 r3 m1 m2 mb n:Nat) (f:ByteArray->Nat) (q:ByteArray->Bool) (a:Option Addr) (ln cap:Nat) (A:Where) (L:List aG) (w:World) (hm:Hid (bu w mb n f q)) (hn:n<140737488355328) (hL:Hid (ag ak 2 32 A w a ln cap L)) :
  Calls prog 109 #[.agg #[.string s.1,.int .i64 s.2.1,.int .i64 s.2.2.1,.slice r1 r2 r3,.map (some m1),.map (some m2)],.map (some mb),.slice a ln cap] w fun e w'=>e=.returned (.tuple #[])/\bu w' mb (n+1) (uU f (getL L s.1)) (uT q (getL L s.1))/\bq (fun b=>b=mb) w w':=by
 obtain ⟨W1,hW1⟩:∃ W,W=w.alloc (.cells #[.string s.1,.int .i64 s.2.1,.int .i64 s.2.2.1,.slice r1 r2 r3,.map (some m1),.map (some m2)] 164):=⟨_,rfl⟩
 have B1:Below w.heap.size w W1:=by rw [hW1];go_grown
 have qx:af W1 w.heap.size (qg s r1 r2 r3 m1 m2):=by rw [hW1];exact af.new w 164 _
 have c0:=(qx.2 0 _ rfl).1
 have hG:=CW a ln cap A L s.1 W1 (hL.out.on ak.ae B1)
 have hsz:=Qb hL.out s.1
 have HB:Hid (Below w.heap.size w W1):=B1
 clear hL qx B1
 generalize getL L s.1=g at hG hsz
 obtain ⟨v,t⟩:=g
 simp only at hG hsz
 go_enter func109,ntmps109
 go_upto_region 1 with fail
 rw [<- hW1]
 clear hW1
 go_wp2_with fail
 refine hG.mono ?_
 clear hG c0
 rintro e w1 ⟨rfl,hb1⟩
 have HB1:Hid (Below w.heap.size w w1):=ah HB.out hb1
 clear HB hb1
 cases t
 ·have HC:Hid (bu w1 mb (n+1) f q):=(hm.out.on HB1.out).mono (Nat.le_succ _)
  clear hm
  go_wp2_with fail
  go_end0
  exact ⟨rfl,HC.out,bq.below HB1.out⟩
 ·have hcm:=hm.out.on HB1.out
  have hlk:=hcm.look 119 underlying119 hsz
  have hle:=hcm.le v
  obtain ⟨w',hup,hm',hg'⟩:=hcm.inc 119 underlying119 hsz hn
  have HF:Hid (bu w' mb (n+1) (Bw f v) (EK q v)/\bq (fun b=>b=mb) w w'):=⟨hm',(bq.below HB1.out).trans (bq.grown hg' (fun b e=>by simpa using e.symm))⟩
  clear hm hcm hm' hg'
  generalize f v=c at hlk hup hle
  go_wp2_with fail
  go_end0
  exact ⟨rfl,HF.out⟩
theorem YA (s:cz) (r1:Option Addr) (r2 r3 m1 m2:Nat) (A A':Where) (cs:List Value) (p:aB) (w:World) (hp:Hid (aj A w cs p)) (hR:Hid (ag aU 3 48 A' w r1 r2 r3 (jk s))) :
  Calls prog 110 #[.agg #[.string s.1,.int .i64 s.2.1,.int .i64 s.2.2.1,.slice r1 r2 r3,.map (some m1),.map (some m2)],.agg cs.toArray] w fun e w'=>e=.returned (.bool (bE (bG p) (jk s)))/\Below w.heap.size w w':=by
 obtain ⟨⟨h1,h2,h3⟩,e2,sl⟩:∃ h:Hd,cs[2]?=some (.slice h.1 h.2.1 h.2.2)/\ag ak 2 32 A w h.1 h.2.1 h.2.2 (bG p):=by
  obtain ⟨h2,h6,h7,h8,h9,h10,h11,h12,aO,rfl,_,s2,_⟩:=hp.out.out
  exact ⟨h2,rfl,s2⟩
 simp only at e2 sl
 obtain ⟨W1,hW1⟩:∃ W,W=w.alloc (.cells #[.string s.1,.int .i64 s.2.1,.int .i64 s.2.2.1,.slice r1 r2 r3,.map (some m1),.map (some m2)] 164):=⟨_,rfl⟩
 obtain ⟨W2,hW2⟩:∃ W,W=W1.alloc (.cells cs.toArray 41):=⟨_,rfl⟩
 have B1:Below w.heap.size w W1:=by rw [hW1];go_grown
 have B2:Below W1.heap.size W1 W2:=by rw [hW2];go_grown
 have hz:W1.heap.size=w.heap.size+1:=by rw [hW1];simp
 have qx:af W2 w.heap.size (qg s r1 r2 r3 m1 m2):=by refine af.on ?_ B2;rw [hW1];exact af.new w 164 _
 have qp:af W2 W1.heap.size cs:=by rw [hW2];exact af.new W1 41 _
 have c3:=(qx.2 3 _ rfl).1
 have p2:=(qp.2 2 _ e2).1
 rw [hz] at p2
 have hM:=yY h1 h2 h3 A (bG p) r1 r2 r3 A' (jk s) W2 (sl.on ak.ae (ah B1 B2)) (hR.out.on aU.ae (ah B1 B2))
 have HB:Hid (Below w.heap.size w W2):=ah B1 B2
 clear hp hR sl e2 qx qp B1 B2
 generalize bE (bG p) (jk s)=ans at hM
 go_enter func110,ntmps110
 go_upto_region 1 with fail
 rw [<- hW1,<- hW2]
 clear hW1 hW2
 go_wp2_with fail
 refine hM.mono ?_
 rintro e w1 ⟨rfl,hb1⟩
 have HB1:Hid (Below w.heap.size w w1):=ah HB.out hb1
 clear HB hb1 hM c3 p2
 go_wp2_with fail
 go_ret
 exact ⟨rfl,HB1.out⟩
def Nz (g:Nat) (lb:Array Value) (ig:aB->Bool) (w:World):Prop :=
 ∀ (W:World) (cs:List Value) (x:aB),Below w.heap.size w W->aj (fun _=>True) W cs x->Calls prog g (#[.agg cs.toArray]++lb) W fun e w'=>e=.returned (.bool (ig x))/\Below W.heap.size W w'
theorem zHa (B:Nat) (ps:List Value) (p:aB) (w:World) (q:Hid (af w B ps)) (hp:Hid (aj (fun _=>True) w ps p)):Nz 75 #[.pointer (some ⟨B,0,none⟩)] (fun x=>ay x.1 p.1) w:=by
 intro W cs x hb hx
 have e0:cs[0]?=some (.string x.1):=by
  obtain ⟨h2,h6,h7,h8,h9,h10,h11,h12,aO,rfl,_⟩:=hx.out
  rfl
 have f0:ps[0]?=some (.string p.1):=by
  obtain ⟨h2,h6,h7,h8,h9,h10,h11,h12,aO,rfl,_⟩:=hp.out.out
  rfl
 obtain ⟨W1,hW1⟩:∃ W',W'=W.alloc (.cells cs.toArray 41):=⟨_,rfl⟩
 have B1:Below W.heap.size W W1:=by rw [hW1];go_grown
 have c0:=((show af W1 W.heap.size cs by rw [hW1];exact af.new W 41 _).2 0 _ e0).1
 have d0:=(((q.out.on hb).on B1).2 0 _ f0).1
 have hS:(x.1.toList == p.1.toList)=ay x.1 p.1:=rfl
 have HB:Hid (Below W.heap.size W W1):=B1
 clear hp q hx e0 f0 hb B1
 show Calls prog 75 #[.agg cs.toArray,.pointer (some ⟨B,0,none⟩)] W fun e w'=>e=.returned (.bool (ay x.1 p.1))/\Below W.heap.size W w'
 generalize ay x.1 p.1=ans at hS
 generalize x.1=s1 at c0 hS
 generalize p.1=s2 at d0 hS
 go_enter func75,ntmps75
 go_upto_region 1 with fail
 rw [<- hW1]
 clear hW1
 go_wp2_with fail
 go_ret
 exact ⟨by first | rfl | simp [hS],HB.out⟩
end Go.Proofs.YtgikfenllgldoaaGreat
