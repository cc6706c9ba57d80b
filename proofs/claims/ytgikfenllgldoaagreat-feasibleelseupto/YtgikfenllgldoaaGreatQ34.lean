/- tally.count counts one that is placed, or one fewer, wherever it is counted. Condition: the arguments lie as is said of them, the maps in blocks of their own; few enough terms. -/
import Derived.Test.YtgikfenllgldoaaGreatQ31
set_option linter.unusedSimpArgs false
set_option maxRecDepth 100000
set_option maxHeartbeats 32000000
namespace Go.Proofs.YtgikfenllgldoaaGreat
open Go.Proofs.Tryz
open Go.RowKit Go.Maps
abbrev gY (T:eu):List iO:=dJ T++dO T
structure CS (T:eu) (w0 wr:World) (N:Nat) (g g':bP->aG->Int) (o:aG->Int) (k:Nat):Prop where
 d:∀ i,i<k->bF wr ((gY T).getD i default).2 (N+1) (g' ((gY T).getD i default).1)
 l:∀ i,k<=i->i<(gY T).length->bF wr ((gY T).getD i default).2 N (g ((gY T).getD i default).1)
 o:bF wr (oD T) N o
 t:bq (fun b=>b∈dQ T) w0 wr
theorem y9 {T:eu} {i:Nat} (h:i<(gY T).length):(gY T).getD i default∈gY T:=by
 rw [List.getD_eq_getElem?_getD,List.getElem?_eq_getElem h]
 exact List.getElem_mem h
theorem O0 {T:eu} {x:iO} (h:x∈gY T):x.2∈dQ T:=by unfold dQ;exact List.mem_append.2 (.inl (List.mem_map.2 ⟨x,h,rfl⟩))
theorem Ji (T:eu):oD T∈dQ T:=by unfold dQ;simp
theorem Mh {T:eu} (hn:(dQ T).Nodup) {i j:Nat} (hi:i<(gY T).length) (hj:j<(gY T).length) (h:i≠j):((gY T).getD i default).2≠((gY T).getD j default).2:=by
 unfold dQ at hn
 have h1:=(List.nodup_append.1 hn).1
 intro e
 apply h
 rw [List.getD_eq_getElem?_getD,List.getElem?_eq_getElem hi,List.getD_eq_getElem?_getD,List.getElem?_eq_getElem hj] at e
 simp only [Option.getD_some] at e
 rcases Nat.lt_or_gt_of_ne h with h2 | h2
 ·have h3:=List.pairwise_iff_getElem.1 h1 i j (by rw [List.length_map];exact hi) (by rw [List.length_map];exact hj) h2
  rw [List.getElem_map,List.getElem_map] at h3
  exact absurd e h3
 ·have h3:=List.pairwise_iff_getElem.1 h1 j i (by rw [List.length_map];exact hj) (by rw [List.length_map];exact hi) h2
  rw [List.getElem_map,List.getElem_map] at h3
  exact absurd e.symm h3
theorem Fx {T:eu} (hn:(dQ T).Nodup) {i:Nat} (hi:i<(gY T).length):((gY T).getD i default).2≠oD T:=by
 unfold dQ at hn
 exact (List.nodup_append.1 hn).2.2 _ (List.mem_map.2 ⟨_,y9 hi,rfl⟩) _ (by simp)
theorem CS.start {T:eu} {w:World} {N:Nat} {g g':bP->aG->Int} {o:aG->Int} (h:dZ w T N g o) {u:World} (hb:Below w.heap.size w u):CS T w u N g g' o 0 :=
 ⟨fun _ hi=>absurd hi (Nat.not_lt_zero _),fun _ _ hi=>(h.c _ (y9 hi)).on hb,h.o.on hb,bq.below hb⟩
theorem CS.step {T:eu} {w0 wr v u:World} {N:Nat} {g g':bP->aG->Int} {o:aG->Int} {k:Nat} (h:CS T w0 wr N g g' o k) (hn:(dQ T).Nodup) (hk:k<(gY T).length) (hb:Below wr.heap.size wr v) (ht:bq (fun b=>b=((gY T).getD k default).2) v u) (hc:bF u ((gY T).getD k default).2 (N+1) (g' ((gY T).getD k default).1)):CS T w0 u N g g' o (k+1):=by
 refine ⟨fun i hi=>?_,fun i hi hl=>?_,?_,(h.t.trans (bq.below hb)).trans (ht.weak (fun b _ e=>e ▸ O0 (y9 hk)))⟩
 ·rcases Nat.lt_succ_iff_lt_or_eq.1 hi with hi | rfl
  ·exact ((h.d i hi).on hb).turned ht (Mh hn (Nat.lt_trans hi hk) hk (by omega))
  ·exact hc
 ·exact ((h.l i (by omega) hl).on hb).turned ht (Mh hn hl hk (by omega))
 ·exact (h.o.on hb).turned ht (fun e=>Fx hn hk e.symm)
structure OS (T:eu) (w0 wr:World) (N:Nat) (g':bP->aG->Int) (o:aG->Int) (j:Nat):Prop where
 d:∀ t∈gY T,bF wr t.2 (N+1) (g' t.1)
 o:bF wr (oD T) (N+j) o
 t:bq (fun b=>b∈dQ T) w0 wr
theorem CS.done {T:eu} {w0 wr:World} {N:Nat} {g g':bP->aG->Int} {o:aG->Int} (h:CS T w0 wr N g g' o (gY T).length):OS T w0 wr N g' o 0 :=
 ⟨fun t ht=>by
  obtain ⟨i,hi,rfl⟩:=List.mem_iff_getElem.1 ht
  have:=h.d i hi
  rwa [List.getD_eq_getElem?_getD,List.getElem?_eq_getElem hi] at this,h.o,h.t⟩
theorem OS.step {T:eu} {w0 wr v u:World} {N:Nat} {g':bP->aG->Int} {o o':aG->Int} {j:Nat} (h:OS T w0 wr N g' o j) (hn:(dQ T).Nodup) (hb:Below wr.heap.size wr v) (ht:bq (fun b=>b=oD T) v u) (hc:bF u (oD T) (N+j+1) o'):OS T w0 u N g' o' (j+1) :=
 ⟨fun t hm=>((h.d t hm).on hb).turned ht (by
  obtain ⟨i,hi,rfl⟩:=List.mem_iff_getElem.1 hm
  have:=Fx hn hi
  rwa [List.getD_eq_getElem?_getD,List.getElem?_eq_getElem hi] at this),hc,(h.t.trans (bq.below hb)).trans (ht.weak (fun b _ e=>e ▸ Ji T))⟩
theorem OS.stay {T:eu} {w0 wr v:World} {N:Nat} {g':bP->aG->Int} {o o':aG->Int} {j:Nat} (h:OS T w0 wr N g' o j) (hb:Below wr.heap.size wr v) (e:∀ d,o d=o' d):OS T w0 v N g' o' (j+1) :=
 ⟨fun t hm=>(h.d t hm).on hb,((h.o.on hb).mono (Nat.le_succ _)).as e,h.t.trans (bq.below hb)⟩
theorem OS.maps {T:eu} {w0 wr:World} {N:Nat} {g':bP->aG->Int} {o:aG->Int} {j:Nat} (h:OS T w0 wr N g' o j) (hn:(dQ T).Nodup):dZ wr T (N+1+j) g' o :=
 ⟨fun t ht=>(h.d t ht).mono (by omega),h.o.mono (by omega),hn⟩
theorem BZ {T:eu} {w wr:World} (h:bq (fun b=>b∈dQ T) w wr):Kept (NM T) w wr:=h.kept (fun _ ha _ hf=>ha hf)
theorem Pw {P:List aG} {x:aM} {L:List bP} {k:Nat} (h:k<L.length) (d:aG):cX P x (L.take (k+1)) d=cX P x (L.take k) d+one (hO P x (L.getD k default) d):=by
 rw [<- PS h]
 unfold cX
 rw [List.map_append,List.sum_append]
 simp
theorem Jd (b:Bool) (c:Int):c*one b=if b=true then c else 0:=by unfold one;split <;> simp
theorem zFS {w:World} {T:eu} {ts cs:List Value} {N:Nat} {g:bP->aG->Int} {oF:aG->Int} {x:aM} (dx:Int) (hM:Hid (dZ w T N g oF)) (hT':Hid (di (NM T) w ts T)) (hx:Hid (aL (NM T) w cs x)) (hN:N+1+(bB x.1).length<70368744177664) (hby:dx=1\/dx=-1) :
  Calls prog 73 #[.agg ts.toArray,.agg cs.toArray,.int .i64 dx] w fun e w'=>e=.returned (.tuple #[])/\dZ w' T (N+1+(bB x.1).length) (if ay x.1.1 T.1=true then g else fun t=>eQ (g t) (hT t x) dx) (if ay x.1.1 T.1=true then oF else fun d=>oF d+dx*cX T.2.1 x (bB x.1) d)/\bq (fun b=>b∈dQ T) w w':=by
 obtain ⟨⟨a1,n1,m1⟩,⟨a2,n2,m2⟩,⟨a3,n3,m3⟩,rfl,_,s1,s2,s3⟩:=hT'.out.out
 obtain ⟨_,⟨dY,n11,m11⟩,⟨a16,n16,m16⟩,e0,_,e11,e16,_,s11,s16⟩:=hx.out.reads
 simp only at s1 s2 s3 s11 s16 e11 e16 |-
 have hnd:(dQ T).Nodup:=hM.out.n
 have CJ:Hid (dQ T).Nodup:=hnd
 have kM:(prog.info? 145).map (·.size)=some cs.length:=by rw [aL.ae.len hx.out];exact Ls
 obtain ⟨W2,hW2⟩:∃ W,W=(w.alloc (.cells #[.string T.1,.slice a1 n1 m1,.slice a2 n2 m2,.slice a3 n3 m3,.map (some T.2.2.2.2)] 159)).alloc (.cells cs.toArray 145):=⟨_,rfl⟩
 have B2:Below w.heap.size w W2:=by rw [hW2];go_grown
 have q0:af W2 w.heap.size [.string T.1,.slice a1 n1 m1,.slice a2 n2 m2,.slice a3 n3 m3,.map (some T.2.2.2.2)]:=by rw [hW2];exact (af.new w 159 _).on ((Below.refl _ _).alloc (Nat.le_refl _) _)
 have q1:af W2 (w.heap.size+1) cs:=by have h1:=af.new (w.alloc (.cells #[.string T.1,.slice a1 n1 m1,.slice a2 n2 m2,.slice a3 n3 m3,.map (some T.2.2.2.2)] 159)) 145 cs;rw [hW2];simpa using h1
 have nD:NM T w.heap.size:=fun h=>absurd (hM.out.lt h) (Nat.lt_irrefl _)
 have nE:NM T (w.heap.size+1):=fun h=>absurd (hM.out.lt h) (by omega)
 have hsz:Hid (W2.heap.size=w.heap.size+1+1):=by rw [Hid,hW2];simp
 have hl2:Hid ((dJ T).length=n2):=s2.1
 have hb2:n2<140737488355328:=by have:=s2.2.2.2.1;omega
 have hb3:n3<140737488355328:=by have:=s3.2.2.2.1;omega
 have oG:n11<140737488355328:=by have:=s11.2.2.2.1;omega
 have hl3:Hid ((dO T).length=n3):=s3.1
 have JL:Hid ((bB x.1).length=n11):=s11.1
 have HQ:Hid (∀ u,bq (fun b=>b∈dQ T) W2 u->af u w.heap.size [.string T.1,.slice a1 n1 m1,.slice a2 n2 m2,.slice a3 n3 m3,.map (some T.2.2.2.2)]/\af u (w.heap.size+1) cs/\aL (NM T) u cs x/\ag bM 3 48 (NM T) u a2 n2 m2 (dJ T)/\ag bM 3 48 (NM T) u a3 n3 m3 (dO T)/\ag ak 2 32 (NM T) u a1 n1 m1 T.2.1/\ag bT 2 40 (NM T) u dY n11 m11 (bB x.1)/\ag ak 2 32 (NM T) u a16 n16 m16 x.2):=fun u ht =>
  have k:=BZ ht
  ⟨q0.kept k nD,q1.kept k nE,aL.ae.kept (aL.ae.kept hx.out (Kept.below B2)) k,(s2.on bM.ae B2).kept bM.ae k,(s3.on bM.ae B2).kept bM.ae k,(s1.on ak.ae B2).kept ak.ae k,(s11.on bT.ae B2).kept bT.ae k,(s16.on ak.ae B2).kept ak.ae k⟩
 have abU:Hid (cs[11]?=some (.slice dY n11 m11)):=e11
 have abT:Hid (cs[16]?=some (.slice a16 n16 m16)):=e16
 have UE:Hid (CS T W2 W2 N g (fun t=>eQ (g t) (hT t x) dx) oF 0):=CS.start (hM.out.below B2) (Below.refl _ _)
 have HB2:Hid (Below w.heap.size w W2):=B2
 have c2:=(q0.2 2 _ rfl).1
 have c0:=(q0.2 0 _ rfl).1
 have cx0:=(q1.2 0 _ e0).1
 have HM0:Hid (dZ W2 T (N+1+(bB x.1).length) g oF):=by
  have h:=hM.out.below B2
  exact ⟨fun t ht=>(h.c t ht).mono (by omega),h.o.mono (by omega),h.n⟩
 have xZ:ay x.1.1 T.1=(x.1.1.toList == T.1.toList):=rfl
 rw [xZ]
 clear hT' hx s1 s2 s3 s11 s16 e0 e11 e16 q0 q1 B2 nD nE hM hnd xZ
 cases xZ:(x.1.1.toList == T.1.toList)
 case true =>
  simp only [if_true]
  go_enter func73,ntmps73
  go_upto_region 1 with fail
  rw [<- hW2]
  clear hW2
  go_wp2_with fail
  refine bodyPost_ret (results_none rfl _ _ _) rfl ?_
  exact ⟨rfl,HM0.out,bq.below HB2.out⟩
 simp only [Bool.false_eq_true,if_false]
 clear HM0
 go_enter func73,ntmps73
 go_upto_region 1 with fail
 rw [<- hW2]
 clear hW2
 go_wp2_with fail
 clear c0 cx0 xZ
 go_loopw [21] (fun i wr=>∃ k:Nat,k<=n2/\i=.int .i64 k/\Hid (CS T W2 wr N g (fun t=>eQ (g t) (hT t x) dx) oF (k))) (fun i _=>n2 - (intOf i).toNat)
 case atStart=>exact ⟨0,Nat.zero_le _,rfl,UE⟩
 case round =>
  obtain ⟨k,hk,rfl,hcs⟩:=hrel
  obtain ⟨k0,k1,k2,k3,k4,_,_,_⟩:=HQ.out wr hcs.out.t
  by_cases hlt:k<n2
  ·
   have hws:k<(gY T).length:=by rw [List.length_append,hl2.out,hl3.out];omega
   have hgd:(gY T).getD k default=(dJ T).getD k default:=by show (dJ T++dO T).getD k default=_;rw [List.getD_eq_getElem?_getD,List.getD_eq_getElem?_getD,List.getElem?_append_left (by rw [hl2.out];exact hlt)]
   have hcl:=hcs.out.l (k) (Nat.le_refl _) hws
   obtain ⟨B,off,rfl,hB,iL,ws,hr,hv⟩:=k3.get hlt
   rw [<- hgd] at hr
   obtain ⟨⟨b1,b2,b3⟩,rfl,gM,hkey⟩:=hr.out
   simp only at gM hkey hv
   have d0:=hv 0 _ rfl
   have d1:=hv 1 _ rfl
   have d2:=hv 2 _ rfl
   rw [Nat.add_zero] at d0
   have nW:Hid (∀ v u,Below wr.heap.size wr v->bq (fun b=>b=((gY T).getD (k) default).2) v u->bF u ((gY T).getD (k) default).2 (N+1) (eQ (g ((gY T).getD (k) default).1) (hT ((gY T).getD (k) default).1 x) dx)->CS T W2 u N g (fun t=>eQ (g t) (hT t x) dx) oF (k+1)):=fun v u hb ht hc=>hcs.out.step CJ.out hws hb ht hc
   generalize (gY T).getD (k) default=t at hcl gM hkey d0 d1 d2 nW
   obtain ⟨V,hV⟩:∃ V,V=wr.alloc (.cells #[.slice b1 b2 b3,.string t.1.2,.map (some t.2)] 192):=⟨_,rfl⟩
   have bV:Below wr.heap.size wr V:=by rw [hV];go_grown
   have HW:=YN (w:=V) (hcl.on bV) (by omega) b1 b2 b3 (NM T) t.1.1 t.1.2 cs x dx (aL.ae.kept k2 (Kept.below bV)) (gM.on aU.ae bV) hkey hby
   have HR1:Hid (V.rangeAt (w.heap.size+1) 0 cs):=(k1.on bV).range
   have qO:Hid (Below wr.heap.size wr V):=bV
   have fA:Hid (V=wr.alloc (.cells #[.slice b1 b2 b3,.string t.1.2,.map (some t.2)] 192)):=hV
   clear hcs hr hv gM hcl k0 k1 k2 k3 k4 bV hgd hV
   go_wp2_with (first | (rw [<- fA.out];refine wpList_load_mid rfl 145 _ rfl (w.heap.size+1) 0 rfl cs _ HR1.out underlying145 rfl kM ?_) | fail)
   refine HW.mono ?_
   rintro e w4 ⟨rfl,hc4,uG⟩
   have HN:=nW.out V w4 qO.out uG hc4
   clear hc4 uG HW nW qO fA HR1
   go_wp2_with fail
   go_roundw
   case rel=>exact ⟨k+1,by omega,by go_num,HN⟩
   case measure=>simp [intOf];omega
  ·
   have hkn:k=n2:=by omega
   have rZ:Hid (CS T W2 wr N g (fun t=>eQ (g t) (hT t x) dx) oF (n2+0)):=by rw [<- hkn];exact hcs.out
   have c3:=(k0.2 3 _ rfl).1
   clear hcs k0 k1 k2 k3 k4 hkn
   go_wp2_with fail
   go_loopw [33] (fun i wr=>∃ k:Nat,k<=n3/\i=.int .i64 k/\Hid (CS T W2 wr N g (fun t=>eQ (g t) (hT t x) dx) oF (n2+k))) (fun i _=>n3 - (intOf i).toNat)
   case atStart=>exact ⟨0,Nat.zero_le _,rfl,rZ⟩
   case round =>
    obtain ⟨k,hk,rfl,hcs⟩:=hrel
    obtain ⟨k0,k1,k2,k3,k4,_,_,_⟩:=HQ.out wr hcs.out.t
    by_cases hlt:k<n3
    ·
     have hws:n2+k<(gY T).length:=by rw [List.length_append,hl2.out,hl3.out];omega
     have hgd:(gY T).getD (n2+k) default=(dO T).getD k default:=by show (dJ T++dO T).getD (n2+k) default=_;rw [List.getD_eq_getElem?_getD,List.getD_eq_getElem?_getD,List.getElem?_append_right (by rw [hl2.out];omega),hl2.out,Nat.add_sub_cancel_left]
     have hcl:=hcs.out.l (n2+k) (Nat.le_refl _) hws
     obtain ⟨B,off,rfl,hB,iL,ws,hr,hv⟩:=k4.get hlt
     rw [<- hgd] at hr
     obtain ⟨⟨b1,b2,b3⟩,rfl,gM,hkey⟩:=hr.out
     simp only at gM hkey hv
     have d0:=hv 0 _ rfl
     have d1:=hv 1 _ rfl
     have d2:=hv 2 _ rfl
     rw [Nat.add_zero] at d0
     have nW:Hid (∀ v u,Below wr.heap.size wr v->bq (fun b=>b=((gY T).getD (n2+k) default).2) v u->bF u ((gY T).getD (n2+k) default).2 (N+1) (eQ (g ((gY T).getD (n2+k) default).1) (hT ((gY T).getD (n2+k) default).1 x) dx)->CS T W2 u N g (fun t=>eQ (g t) (hT t x) dx) oF (n2+k+1)):=fun v u hb ht hc=>hcs.out.step CJ.out hws hb ht hc
     generalize (gY T).getD (n2+k) default=t at hcl gM hkey d0 d1 d2 nW
     obtain ⟨V,hV⟩:∃ V,V=wr.alloc (.cells #[.slice b1 b2 b3,.string t.1.2,.map (some t.2)] 192):=⟨_,rfl⟩
     have bV:Below wr.heap.size wr V:=by rw [hV];go_grown
     have HW:=YN (w:=V) (hcl.on bV) (by omega) b1 b2 b3 (NM T) t.1.1 t.1.2 cs x dx (aL.ae.kept k2 (Kept.below bV)) (gM.on aU.ae bV) hkey hby
     have HR1:Hid (V.rangeAt (w.heap.size+1) 0 cs):=(k1.on bV).range
     have qO:Hid (Below wr.heap.size wr V):=bV
     have fA:Hid (V=wr.alloc (.cells #[.slice b1 b2 b3,.string t.1.2,.map (some t.2)] 192)):=hV
     clear hcs hr hv gM hcl k0 k1 k2 k3 k4 bV hgd hV
     go_wp2_with (first | (rw [<- fA.out];refine wpList_load_mid rfl 145 _ rfl (w.heap.size+1) 0 rfl cs _ HR1.out underlying145 rfl kM ?_) | fail)
     refine HW.mono ?_
     rintro e w4 ⟨rfl,hc4,uG⟩
     have HN:=nW.out V w4 qO.out uG hc4
     clear hc4 uG HW nW qO fA HR1
     go_wp2_with fail
     go_roundw
     case rel=>exact ⟨k+1,by omega,by go_num,HN⟩
     case measure=>simp [intOf];omega
    ·
     have hkn:n2+k=(gY T).length:=by rw [List.length_append,hl2.out,hl3.out];omega
     have HO0:Hid (OS T W2 wr N (fun t=>eQ (g t) (hT t x) dx) (fun d=>oF d+dx*cX T.2.1 x ((bB x.1).take 0) d) 0):=by
      have h1:=hcs.out;rw [hkn] at h1
      have e1:(fun d=>oF d+dx*cX T.2.1 x ((bB x.1).take 0) d)=oF:=by funext d;simp [cX]
      rw [Hid,e1];exact h1.done
     have c11:=(k1.2 11 _ abU.out).1
     clear hcs k0 k1 k2 k3 k4 hkn
     go_wp2_with fail
     go_loopw [46] (fun i wr=>∃ k:Nat,k<=n11/\i=.int .i64 k/\Hid (OS T W2 wr N (fun t=>eQ (g t) (hT t x) dx) (fun d=>oF d+dx*cX T.2.1 x ((bB x.1).take k) d) k)) (fun i _=>n11 - (intOf i).toNat)
     case atStart=>exact ⟨0,Nat.zero_le _,rfl,HO0⟩
     case round =>
      obtain ⟨k,hk,rfl,hos⟩:=hrel
      obtain ⟨k0,k1,k2,_,_,k5,k6,k7⟩:=HQ.out wr hos.out.t
      by_cases hlt:k<n11
      ·
       obtain ⟨B,off,rfl,hB,iL,ws,hr,hv⟩:=k6.get hlt
       obtain ⟨⟨b1,b2,b3⟩,rfl,gM,hkey⟩:=hr.out
       simp only at gM hkey hv
       have d0:=hv 0 _ rfl
       have d1:=hv 1 _ rfl
       rw [Nat.add_zero] at d0
       have Uo:Hid (∀ d,cX T.2.1 x ((bB x.1).take (k+1)) d=cX T.2.1 x ((bB x.1).take k) d+one (hO T.2.1 x ((bB x.1).getD k default) d)):=fun d=>Pw (by rw [JL.out];exact hlt) d
       generalize (bB x.1).getD k default=t at gM hkey d0 d1 Uo
       obtain ⟨V,hV⟩:∃ V,V=wr.alloc (.cells #[.slice b1 b2 b3,.string t.2] 105):=⟨_,rfl⟩
       have bV:Below wr.heap.size wr V:=by rw [hV];go_grown
       have qt:af V wr.heap.size [.slice b1 b2 b3,.string t.2]:=by rw [hV];exact af.new wr 105 _
       have CK:=yY a1 n1 m1 (NM T) T.2.1 b1 b2 b3 (NM T) t.1 V (k5.on ak.ae bV) (gM.on aU.ae bV)
       have z1:=((k0.on bV).2 1 _ rfl).1
       have zt:=(qt.2 0 _ rfl).1
       have qQ:Hid (∀ u,Below V.heap.size V u->af u w.heap.size [.string T.1,.slice a1 n1 m1,.slice a2 n2 m2,.slice a3 n3 m3,.map (some T.2.2.2.2)]/\af u (w.heap.size+1) cs/\af u wr.heap.size [.slice b1 b2 b3,.string t.2]/\ag ak 2 32 (NM T) u a16 n16 m16 x.2/\Below wr.heap.size wr u):=fun u hb=>⟨(k0.on bV).on hb,(k1.on bV).on hb,qt.on hb,(k7.on ak.ae bV).on ak.ae hb,ah bV hb⟩
       have D7:Hid (∀ d,oF d+dx*cX T.2.1 x ((bB x.1).take (k+1)) d=eQ (fun d=>oF d+dx*cX T.2.1 x ((bB x.1).take k) d) (hO T.2.1 x t) dx d):=fun d=>by rw [Uo.out d];unfold eQ;rw [Int.mul_add,Jd,Int.add_assoc]
       have vo:=Xz (g:=fun d=>oF d+dx*cX T.2.1 x ((bB x.1).take k) d) (b:=bE T.2.1 t.1) (q:=qL x.2 t.2) (r:=hO T.2.1 x t) (c:=dx) (fun d=>rfl)
       have HA2:Hid ((bE T.2.1 t.1=true->eQ (fun d=>oF d+dx*cX T.2.1 x ((bB x.1).take k) d) (qL x.2 t.2) dx=fun d=>oF d+dx*cX T.2.1 x ((bB x.1).take (k+1)) d)/\(bE T.2.1 t.1=false->∀ d,oF d+dx*cX T.2.1 x ((bB x.1).take k) d=oF d+dx*cX T.2.1 x ((bB x.1).take (k+1)) d)):=⟨fun e=>by rw [vo.1 e];funext d;exact (D7.out d).symm,fun e d=>by rw [D7.out d];exact vo.2 e d⟩
       have Hbv:Hid (Below wr.heap.size wr V):=bV
       clear hr hv gM k0 k1 k2 k5 k6 k7 bV qt Uo D7 vo
       generalize bE T.2.1 t.1=mt at CK HA2
       skip
       go_upto_region 15 with fail
       rw [<- hV]
       clear hV
       go_wp2_with fail
       refine CK.mono ?_
       clear CK z1 zt
       rintro e w3 ⟨rfl,hb3⟩
       obtain ⟨j0,j1,j2,j3,j4⟩:=qQ.out w3 hb3
       cases mt
       ·
        have HN:Hid (OS T W2 w3 N (fun t=>eQ (g t) (hT t x) dx) (fun d=>oF d+dx*cX T.2.1 x ((bB x.1).take (k+1)) d) (k+1)):=hos.out.stay j4 (HA2.out.2 rfl)
        clear qQ HA2 hos j0 j1 j2 j3 j4 hb3 Hbv
        go_wp2_with fail
        go_roundw
        case rel=>exact ⟨k+1,by omega,by go_num,HN⟩
        case measure=>simp [intOf];omega
       ·
        have HD:=YU (w:=w3) (hos.out.o.on j4) (by have:=JL.out;omega) a16 n16 m16 (NM T) x.2 t.2 dx j3 hkey hby
        rw [HA2.out.1 rfl] at HD
        have y4:=(j0.2 4 _ rfl).1
        have y16:=(j1.2 16 _ abT.out).1
        have yt:=(j2.2 1 _ rfl).1
        have nW:Hid (∀ u,bq (fun b=>b=oD T) w3 u->bF u (oD T) (N+k+1) (fun d=>oF d+dx*cX T.2.1 x ((bB x.1).take (k+1)) d)->OS T W2 u N (fun t=>eQ (g t) (hT t x) dx) (fun d=>oF d+dx*cX T.2.1 x ((bB x.1).take (k+1)) d) (k+1)):=fun u ht hc=>hos.out.step CJ.out j4 ht hc
        clear qQ HA2 hos j0 j1 j2 j3 j4 hb3 Hbv
        go_wp2_with fail
        refine HD.mono ?_
        rintro e w4 ⟨rfl,hc4,uG⟩
        have HN:=nW.out w4 uG hc4
        clear HD hc4 uG nW y4 y16 yt
        go_wp2_with fail
        go_roundw
        case rel=>exact ⟨k+1,by omega,by go_num,HN⟩
        case measure=>simp [intOf];omega
      ·
       have hkn:k=n11:=by omega
       have HF:Hid (dZ wr T (N+1+(bB x.1).length) (fun t=>eQ (g t) (hT t x) dx) (fun d=>oF d+dx*cX T.2.1 x (bB x.1) d)/\bq (fun b=>b∈dQ T) w wr):=by
        have h1:=hos.out.maps CJ.out
        rw [hkn,<- JL.out,List.take_length] at h1
        exact ⟨h1,(bq.below HB2.out).trans hos.out.t⟩
       clear hos k0 k1 k2 k5 k6 k7
       go_wp2_with fail
       go_end0
       exact ⟨rfl,HF.out⟩
end Go.Proofs.YtgikfenllgldoaaGreat
