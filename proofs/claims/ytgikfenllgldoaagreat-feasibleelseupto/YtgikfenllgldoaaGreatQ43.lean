/- plan.pick: the smallest volume that suits is taken off the shelf. Condition: the plan and the claim lie as is said of them; each volume has a name of its own. -/
import Derived.Test.YtgikfenllgldoaaGreatQ41
set_option linter.unusedSimpArgs false
set_option maxRecDepth 100000
set_option maxHeartbeats 32000000
namespace Go.Proofs.YtgikfenllgldoaaGreat
open Go.Proofs.Tryz
open Go.RowKit Go.Maps
def WT (w Wp:World) (X:Nat) (dW:Value) (C:List Value) (NL:List aG) (V:List aD) (c:aT) (out:List bH) (e:Ending) (u':World):Prop :=
 (jX c NL V (out.map Prod.snd)=none/\e=.returned (.int .i64 14)/\Below w.heap.size w u') \/
 ∃ j lv pv,jX c NL V (out.map Prod.snd)=some j/\e=.returned (.int .i64 0)/\jO w Wp X dW C NL V V.length u' lv pv ((out++[(c.1,(V.getD j default).1)]).map Prod.snd) (out++[(c.1,(V.getD j default).1)])
theorem zHd (w Wp:World) (X:Nat) (dW:Value) (la:Option Addr) (ln lc:Nat) (ca:Option Addr) (cn cc cm:Nat) (va:Option Addr) (vn vc vm:Nat) (ka:Option Addr) (kn kc km:Nat) (NL:List aG) (V:List aD) (lv pv:Value) (out:List bH) (cs:List Value) (A:Where) (c:aT) (u:World) (hs:jO w Wp X dW [.slice la ln lc,.slice ca cn cc,.map (some cm),.slice va vn vc,.map (some vm),.slice ka kn kc,.map (some km)] NL V V.length u lv pv (out.map Prod.snd) out) (hv:V.length*80<=140737488355328) (hn:(jK V).Nodup) (hc:aA A u cs c) :
  Calls prog 122 #[.pointer (some ⟨X,0,none⟩),.agg cs.toArray] u (WT w Wp X dW [.slice la ln lc,.slice ca cn cc,.map (some cm),.slice va vn vc,.map (some vm),.slice ka kn kc,.map (some km)] NL V c out):=by
 obtain ⟨L,hL⟩:∃ L,L=bJ NL V (out.map Prod.snd):=⟨_,rfl⟩
 have hLl:L.length<=V.length:=by have:=hs.ln;rw [<- hL] at this;omega
 obtain ⟨ga,gn,gc,rfl⟩:=hs.lf.head
 obtain ⟨pa,pn,pc,rfl⟩:=hs.pk.head
 have hgn:gn=L.length:=by
  obtain ⟨_,_,_,e,s⟩:=hs.lf.iW (bytes:=72) ai.ae (by rw [<- hL];omega)
  cases e
  rw [<- s.1,hL]
 have hlc:=aA.ae.len hc
 have hic:(prog.info? 124).map (·.size)=some cs.length:=by rw [hlc];exact Eo
 obtain ⟨W1,hW1⟩:∃ W,W=u.alloc (.cells cs.toArray 124):=⟨_,rfl⟩
 have B1:Below u.heap.size u W1:=by rw [hW1];go_grown
 have q1:af W1 u.heap.size cs:=by rw [hW1];exact af.new u 124 _
 obtain ⟨e0,_⟩:=hc.kE
 have HA:Hid (∀ z,Below W1.heap.size W1 z->jO w Wp X dW [.slice la ln lc,.slice ca cn cc,.map (some cm),.slice va vn vc,.map (some vm),.slice ka kn kc,.map (some km)] NL V V.length z (.slice ga gn gc) (.slice pa pn pc) (out.map Prod.snd) out/\af z u.heap.size cs/\aA A z cs c/\ag ai 5 72 (fun _=>True) z ga gn gc L):=fun z hb=>by
  have h1:=hs.on (ah B1 hb)
  obtain ⟨_,_,_,e,s⟩:=h1.lf.iW (bytes:=72) ai.ae (by rw [<- hL];omega)
  cases e
  exact ⟨h1,q1.on hb,aA.ae.kept hc (Kept.below (ah B1 hb)),by rw [hL];exact s⟩
 have HQ:Hid (∀ z,Below W1.heap.size W1 z->z.cell? ⟨X,7,none⟩=some (.slice ga gn gc)/\z.rangeAt u.heap.size 0 cs):=fun z hb=>by
  obtain ⟨h1,h2,_,_⟩:=HA.out z hb
  exact ⟨(h1.bx.2 7 _ rfl).1,h2.range⟩
 have HD:Hid (Wp.heap.size<=u.heap.size/\Below w.heap.size w W1):=⟨hs.kp.1,ah hs.bw B1⟩
 have Uc:Hid (∀ b,(Value.slice pa pn pc).ownBlock=some b->b<u.heap.size):=fun b hb=>(hs.pk.lt hb).2
 obtain ⟨l,hl⟩:∃ l,l=fM c L gn:=⟨_,rfl⟩
 have Hl:Hid (fM c (bJ NL V (out.map Prod.snd)) (bJ NL V (out.map Prod.snd)).length=l):=by rw [Hid,hl,hgn,hL]
 have Ue:Hid (∀ x∈l,x<gn):=fun x hx=>by rw [hl] at hx;exact (LM.1 hx).1
 have HL:Hid (L=bJ NL V (out.map Prod.snd)):=hL
 have yx:Hid (gn=L.length):=hgn
 have mH:gn*8<=140737488351232:=by omega
 have HLl:Hid (L.length<=V.length):=hLl
 have Hlen:Hid (out.length+L.length<=V.length):=by have:=hs.ln;rw [<- hL] at this;exact this
 clear hs hc B1 q1 hL hgn hLl hl
 go_enter func122,ntmps122
 go_upto_region 1 with fail
 rw [<- hW1]
 clear hW1
 refine t0 (fun z=>Below W1.heap.size W1 z) (Below.refl _ _).drew (fun gH=>?_)
 generalize hwd:W1.drew=wd at gH |-
 clear hwd
 try go_frame
 refine' tk 0 ?_ ?_;rotate_left
 ·intro u hu;obtain ⟨f1,_⟩:=HQ.out u hu;clear hu;go_simp;try with_reducible rfl
 try go_frame
 refine' tk 1 ?_ ?_;rotate_left
 ·intro u hu;obtain ⟨f1,_⟩:=HQ.out u hu;clear hu;go_simp;try with_reducible rfl
 try go_frame
 refine' tk 2 ?_ ?_;rotate_left
 ·intro u hu;obtain ⟨f1,_⟩:=HQ.out u hu;clear hu;go_simp;try with_reducible rfl
 try go_frame
 refine' tk 3 ?_ ?_;rotate_left
 ·intro u hu;obtain ⟨f1,_⟩:=HQ.out u hu;clear hu;go_simp;try with_reducible rfl
 try go_frame
 refine tq 4 (.agg cs.toArray) (yieldsIf_load_mid (by rfl) 124 _ rfl u.heap.size 0 rfl cs _ (fun z hz=>(HQ.out z hz).2) underlying124 rfl hic) ?_ (hi:=rfl)
 try go_frame
 refine' tk 6 ?_ ?_;rotate_left
 ·intro u hu;obtain ⟨f1,_⟩:=HQ.out u hu;clear hu;go_simp;try with_reducible rfl
 try go_frame
 refine' tk 7 ?_ ?_;rotate_left
 ·intro u hu;obtain ⟨f1,_⟩:=HQ.out u hu;clear hu;go_simp;try with_reducible rfl
 try go_frame
 refine' tk 8 ?_ ?_;rotate_left
 ·intro u hu;obtain ⟨f1,_⟩:=HQ.out u hu;clear hu;go_simp;try with_reducible rfl
 try go_frame
 refine' tk 9 ?_ ?_;rotate_left
 ·intro u hu;obtain ⟨f1,_⟩:=HQ.out u hu;clear hu;go_simp;try with_reducible rfl
 try go_frame
 refine' tk 10 ?_ ?_;rotate_left
 ·intro u hu;obtain ⟨f1,_⟩:=HQ.out u hu;clear hu;go_simp;try with_reducible rfl
 try go_frame
 refine tr 5 (fun K hK=>?_)
 go_simp
 refine (zEM ga gn gc 72 _ L cs _ c _ (HA.out _ gH).2.2.2 mH (HA.out _ gH).2.2.1).mono ?_
 rintro e w5 ⟨v5,rfl,r5⟩
 have b5:=ah gH r5.below
 have hll:fM c L gn=l:=by have:=Hl.out;rw [<- HL.out,<- yx.out] at this;exact this
 rw [hll] at r5
 obtain ⟨sa,sn,sc,rfl,s5⟩:=r5.iW (bytes:=8) aC.ae (by rw [<- hll];have:=Xa c L gn;omega)
 go_wp2_with fail
 refine hK.out _ _ b5 (fun gI=>?_)
 clear hK K gH;have gH:=gI;clear gI
 try go_frame
 clear hll r5
 obtain ⟨z5,MJ⟩:∃ z:Int,z=if sn=0 then 0 else ((minT (fV L) l (sn - 1):Nat):Int):=⟨_,rfl⟩
 obtain ⟨Ng,SF⟩:∃ b:Bool,b=!decide (sn=0):=⟨_,rfl⟩
 have NB:Hid (z5=if sn=0 then 0 else ((minT (fV L) l (sn - 1):Nat):Int)):=MJ
 have Hb5:Hid (Ng=!decide (sn=0)):=SF
 clear MJ SF
 refine tr 11 (fun K hK=>?_)
 go_simp
 refine (zCx sa sn sc _ l ga gn gc 72 _ L w5 s5 (HA.out _ gH).2.2.2 Ue z5 Ng NB Hb5).mono ?_
 rintro e w6 ⟨rfl,d6⟩
 have b6:=ah gH d6
 go_wp2_with fail
 refine hK.out _ _ b6 (fun gI=>?_)
 clear hK K gH;have gH:=gI;clear gI
 try go_frame
 refine tp 12 ?_
 try go_frame
 refine tp 13 ?_
 try go_frame
 refine tp 14 ?_
 try go_frame
 refine tp 15 ?_
 try go_frame
 refine tp 16 ?_
 try go_frame
 refine tz ?_
 have hsn:sn=l.length:=by have:=s5.1;rw [List.length_map] at this;exact this.symm
 clear gH d6 s5 b5 HQ
 obtain ⟨ps,qc,rc,sv⟩:=HA.out w6 b6
 by_cases h0:sn=0
 ·have hno:jX c NL V (out.map Prod.snd)=none:=Fs (by rw [Hl.out];exact List.eq_nil_of_length_eq_zero (by omega))
  have HF:Hid (jX c NL V (out.map Prod.snd)=none/\Below w.heap.size w w6):=⟨hno,ps.bw⟩
  have hb5:Ng=false:=by rw [Hb5.out,h0];rfl
  subst hb5
  clear hno ps qc rc sv HA HD Uc Hl Ue HL yx HLl Hlen b6 hsn NB Hb5 h0
  go_wp2_with fail
  go_ret
  exact .inl ⟨HF.out.1,rfl,HF.out.2⟩
 ·obtain ⟨t,ht⟩:∃ t,t=minT (fV L) l (sn - 1):=⟨_,rfl⟩
  have hps:=Fq (l:=l) (at':=t) Hl.out (by omega) (by rw [ht,hsn,HL.out])
  rw [<- HL.out] at hps
  obtain ⟨htl,j,hbj,hnm⟩:=hps
  have hb5:Ng=true:=by rw [Hb5.out];simpa using h0
  have MJ:z5=(t:Int):=by rw [NB.out,if_neg h0,ht]
  subst hb5
  subst MJ
  clear NB Hb5
  have MN:t<gn:=by rw [yx.out];exact htl
  have htz:(t:Int)<(gn:Int):=by omega
  obtain ⟨g,cap,eg⟩:=ps.lf.place (by rw [<- HL.out];omega)
  have hsl:ga=some ⟨g,0,none⟩/\gc=cap:=by
   have e2:ga=some ⟨g,0,none⟩/\gn=(bJ NL V (out.map Prod.snd)).length/\gc=cap:=by simpa using eg
   exact ⟨e2.1,e2.2.2⟩
  obtain ⟨rfl,rfl⟩:=hsl
  clear eg
  obtain ⟨Bq,oq,eq,hBq,_,ys,hy,hyv⟩:=sv.get MN
  obtain ⟨rfl,rfl⟩:g=Bq/\0=oq:=by simpa using eq
  have d0:=hyv 0 _ hy.kE.1
  rw [Nat.add_zero] at d0
  have hz1:(L.getD t default).1.size<=140737488355328:=hy.jZ.2
  have hz0:c.1.size<=140737488355328:=rc.jZ.2
  have cN:=(qc.2 0 _ e0).1
  have cX:=(ps.bx.2 7 _ rfl).1
  have cP:=(ps.bx.2 8 _ rfl).1
  have hxx:=ps.xx
  have hgx:=ps.gx g ps.lo.symm
  have HS:Hid (∀ z,Kept (fun b=>b=X\/b=u.heap.size\/b=g) w6 z->z.cell? ⟨X,8,none⟩=some (.slice pa pn pc)/\z.cell? ⟨X,7,none⟩=some (.slice (some ⟨g,0,none⟩) gn gc)/\z.cell? ⟨u.heap.size,0,none⟩=some (.string c.1)/\z.cell? ⟨g,t*5,none⟩=some (.string (L.getD t default).1)):=fun z hk=>⟨(hk.cell (p:=⟨X,8,none⟩) (.inl rfl) ps.bx.1).trans cP,(hk.cell (p:=⟨X,7,none⟩) (.inl rfl) ps.bx.1).trans cX,(hk.cell (p:=⟨u.heap.size,0,none⟩) (.inr (.inl rfl)) qc.1).trans cN,(hk.cell (p:=⟨g,t*5,none⟩) (.inr (.inr rfl)) hBq).trans (by rw [Nat.zero_add] at d0;exact d0)⟩
  have HPS:Hid (∀ z,Below w6.heap.size w6 z->jO w Wp X dW [.slice la ln lc,.slice ca cn cc,.map (some cm),.slice va vn vc,.map (some vm),.slice ka kn kc,.map (some km)] NL V V.length z (.slice (some ⟨g,0,none⟩) gn gc) (.slice pa pn pc) (out.map Prod.snd) out):=fun z hb=>ps.on hb
  have rX:Hid (∀ b,(Value.slice pa pn pc).ownBlock=some b->¬ (b=X\/b=u.heap.size\/b=g)):=fun b hb e=>by
   have h1:=ps.po b hb
   have h2:=Uc.out b hb
   rcases e with e | e | e
   ·omega
   ·omega
   ·have:=hgx.2.1;omega
  have HX:Hid (X<w6.heap.size):=ps.bx.1
  have Cz:Hid (jX c NL V (out.map Prod.snd)=some j/\(V.getD j default).1=(L.getD t default).1):=⟨hbj,hnm⟩
  clear ps qc rc sv hy hyv d0 cN cX cP HA hbj hnm eq hBq hsn h0 ht htl e0
  generalize hnn:(L.getD t default).1=xQ at HS hz1 Cz
  generalize hcn:c.1=Ag at HS hz0
  have Uf:Hid (c.1=Ag):=hcn
  have Hnn:Hid ((L.getD t default).1=xQ):=hnn
  clear hcn hnn
  go_upto_region 4 with fail
  refine u0 20 (fun z=>z.cell? ⟨X,8,none⟩=some (.slice pa pn pc)/\z.cell? ⟨X,7,none⟩=some (.slice (some ⟨g,0,none⟩) gn gc)/\z.cell? ⟨u.heap.size,0,none⟩=some (.string Ag)/\z.cell? ⟨g,t*5,none⟩=some (.string xQ)) (HS.out _ (Kept.drew _ _)) (fun gH=>?_)
  obtain ⟨w7,hw7⟩:∃ w7,w7=w6.drew:=⟨_,rfl⟩
  have b7:Below w6.heap.size w6 w7:=by rw [hw7];exact (Below.refl _ _).drew
  rw [<- hw7] at gH |-
  clear hw7
  try go_frame
  refine' uk 0 ?_ ?_;rotate_left
  ·intro u ⟨f1,f2,f3,f4⟩;go_simp;try with_reducible rfl
  try go_frame
  refine' uk 1 ?_ ?_;rotate_left
  ·intro u ⟨f1,f2,f3,f4⟩;go_simp;try with_reducible rfl
  try go_frame
  refine' uk 2 ?_ ?_;rotate_left
  ·intro u ⟨f1,f2,f3,f4⟩;go_simp;try with_reducible rfl
  try go_frame
  refine' uk 3 ?_ ?_;rotate_left
  ·intro u ⟨f1,f2,f3,f4⟩;go_simp;try with_reducible rfl
  try go_frame
  refine' uk 4 ?_ ?_;rotate_left
  ·intro u ⟨f1,f2,f3,f4⟩;go_simp;try with_reducible rfl
  try go_frame
  refine' uk 5 ?_ ?_;rotate_left
  ·intro u ⟨f1,f2,f3,f4⟩;go_simp;try with_reducible rfl
  try go_frame
  refine' uk 6 ?_ ?_;rotate_left
  ·intro u ⟨f1,f2,f3,f4⟩;go_simp;try with_reducible rfl
  try go_frame
  refine' uk 7 ?_ ?_;rotate_left
  ·intro u ⟨f1,f2,f3,f4⟩;go_simp;try with_reducible rfl
  try go_frame
  refine' uk 8 ?_ ?_;rotate_left
  ·intro u ⟨f1,f2,f3,f4⟩;go_simp;try with_reducible rfl
  try go_frame
  refine' uk 9 ?_ ?_;rotate_left
  ·intro u ⟨f1,f2,f3,f4⟩;go_simp;try with_reducible rfl
  try go_frame
  refine' uk 10 ?_ ?_;rotate_left
  ·intro u ⟨f1,f2,f3,f4⟩;go_simp;try with_reducible rfl
  try go_frame
  refine' uk 11 ?_ ?_;rotate_left
  ·intro u ⟨f1,f2,f3,f4⟩;go_simp;try with_reducible rfl
  try go_frame
  refine' uk 12 ?_ ?_;rotate_left
  ·intro u ⟨f1,f2,f3,f4⟩;go_simp;try with_reducible rfl
  try go_frame
  refine' uk 13 ?_ ?_;rotate_left
  ·intro u ⟨f1,f2,f3,f4⟩;go_simp;try with_reducible rfl
  try go_frame
  refine' uk 14 ?_ ?_;rotate_left
  ·intro u ⟨f1,f2,f3,f4⟩;go_simp;try with_reducible rfl
  try go_frame
  refine' uk 15 ?_ ?_;rotate_left
  ·intro u ⟨f1,f2,f3,f4⟩;go_simp;try with_reducible rfl
  try go_frame
  obtain ⟨Wb,kg⟩:∃ W,W=w7.alloc (.cells #[.string Ag,.string xQ] 73):=⟨_,rfl⟩
  have mI:Below w7.heap.size w7 Wb:=by rw [kg];go_grown
  have Zv:af Wb w7.heap.size [.string Ag,.string xQ]:=by rw [kg];exact af.new w7 73 _
  have Mw:=HPS.out Wb (ah b7 mI)
  have hSr:Src ak 2 (fun b=>False/\(Value.slice pa pn pc).ownBlock≠some b) Wb (some ⟨w7.heap.size,0,none⟩) 1 [(Ag,xQ)]:=ES ak.ae ak.flat Zv ⟨[.string Ag],[.string xQ],rfl,⟨rfl,hz0⟩,⟨rfl,hz1⟩⟩
  refine ur 16 (fun K hK=>?_)
  go_simp
  refine hK.out _ _ (HS.out _ (kg ▸ Kept.below (ah b7 mI))) (fun gI=>?_)
  rw [<- kg] at gI |-
  clear hK K gH;have gH:=gI;clear gI
  try go_frame
  clear kg
  refine ur 17 (fun K hK=>?_)
  refine fP (by rfl) (Mf ak.ae (A:=fun _=>False) (w0:=w) _ _ 44 73 rfl _ 32 Jy underlying44 rfl (by decide) (by decide) (.slice pa pn pc) out rfl Mw.pk (some ⟨w7.heap.size,0,none⟩) 1 1 [(Ag,xQ)] rfl hSr (by have h1:=Hlen.out;rw [List.length_singleton];omega) ?_)
  intro v9 w9 r9 g9 o9
  obtain ⟨a9,n9,c9,rfl⟩:=r9.head
  refine hK.out _ _ (HS.out _ ((Kept.below (ah b7 mI)).trans (Kept.grown g9 rX.out))) (fun gI=>?_)
  clear hK K gH;have gH:=gI;clear gI
  try go_frame
  refine' uk 18 ?_ ?_;rotate_left
  ·intro u ⟨f1,f2,f3,f4⟩;go_simp;try with_reducible rfl
  try go_frame
  refine' uk 19 ?_ ?_;rotate_left
  ·intro u ⟨f1,f2,f3,f4⟩;go_simp;try with_reducible rfl
  try go_frame
  have p9:=Mw.app g9 r9 o9
  obtain ⟨U,hU⟩:∃ U,U=w9.setCell ⟨X,8,none⟩ (.slice a9 n9 c9):=⟨_,rfl⟩
  rw [<- hU] at p9
  obtain ⟨f8,_,_,_⟩:=gH
  have q8:w9.frozen? ⟨X,8,none⟩=false:=by have h1:af w9 X _:=Mw.bx.kept (A:=fun b=>b=X\/b=u.heap.size\/b=g) (Kept.grown g9 rX.out) (.inl rfl);exact (h1.2 8 _ rfl).2
  refine uz 20 (fun K hK=>?_)
  go_simp
  rw [<- hU]
  refine hK.out _ (NoPanic.normal ?_)
  try go_frame
  clear hK K
  clear hU f8 q8 g9 r9 o9 Mw hSr Zv mI b7 HS rX HPS
  have hrow:Row ai 5 (fun b=>b<w.heap.size) w U 59 (.slice (some ⟨g,0,none⟩) gn gc) L:=by rw [HL.out];exact p9.lf
  obtain ⟨m,hm⟩:∃ m,gn=m+1:=⟨gn - 1,by omega⟩
  have hCd:=zEq _ w g gn gc L t (t+1) m U hrow yx.out.symm MN rfl hm
  have cX:=(p9.bx.2 7 _ rfl).1
  have fX:=(p9.bx.2 7 _ rfl).2
  have SX:=p9.bx.1
  have HP9:Hid (∀ U2,Kept (fun b=>b≠g) U U2->Row ai 5 (fun b=>b<w.heap.size) w U2 59 (.slice (some ⟨g,0,none⟩) m gc) (L.eraseIdx t)->jO w Wp X dW [.slice la ln lc,.slice ca cn cc,.map (some cm),.slice va vn vc,.map (some vm),.slice ka kn kc,.map (some km)] NL V V.length (U2.setCell ⟨X,7,none⟩ (.slice (some ⟨g,0,none⟩) m gc)) (.slice (some ⟨g,0,none⟩) m gc) (.slice a9 n9 c9) ((out++[(c.1,(V.getD j default).1)]).map Prod.snd) (out++[(c.1,(V.getD j default).1)])/\U2.cell? ⟨X,7,none⟩=some (.slice (some ⟨g,0,none⟩) gn gc)/\U2.frozen? ⟨X,7,none⟩=false):=fun U2 hk hr=>by
   have e1:=zHS hn (NL:=NL) (picked:=out.map Prod.snd) (k:=t) (by rw [<- HL.out,<- yx.out];exact MN)
   rw [<- HL.out,Hnn.out] at e1
   have e2:(out++[(c.1,(V.getD j default).1)]).map Prod.snd=out.map Prod.snd++[xQ]:=by rw [List.map_append,Cz.out.2];rfl
   have e3:L.eraseIdx t=bJ NL V ((out++[(c.1,(V.getD j default).1)]).map Prod.snd):=by rw [e2];exact e1
   have b2:af U2 X _:=p9.bx.kept hk hgx.2.2.symm
   refine ⟨?_,(b2.2 7 _ rfl).1,(b2.2 7 _ rfl).2⟩
   have h9:=p9.cut (off':=(out++[(c.1,(V.getD j default).1)]).map Prod.snd) hk (by rw [<- e3];exact hr) (by rw [<- e3,List.length_eraseIdx_of_lt (by rw [<- yx.out];exact MN),<- HL.out,<- yx.out];omega)
   rw [Uf.out,Cz.out.2]
   rw [Uf.out,Cz.out.2] at h9
   exact h9
  have Hbb:Hid (jX c NL V (out.map Prod.snd)=some j):=Cz.out.1
  clear p9 hrow hm Hlen HLl Hl Ue Hnn Uf Cz HD Uc HL yx
  go_wp2_with fail
  refine hCd.mono ?_
  rintro e U2 ⟨rfl,r2,k2⟩
  obtain ⟨zq,cX2,fX2⟩:=HP9.out U2 k2 r2
  have hXl:X<U2.heap.size:=Nat.lt_of_lt_of_le SX k2.1
  obtain ⟨U3,pX⟩:∃ U3,U3=U2.setCell ⟨X,7,none⟩ (.slice (some ⟨g,0,none⟩) m gc):=⟨_,rfl⟩
  rw [<- pX] at zq
  have HF:Hid (jO w Wp X dW [.slice la ln lc,.slice ca cn cc,.map (some cm),.slice va vn vc,.map (some vm),.slice ka kn kc,.map (some km)] NL V V.length U3 (.slice (some ⟨g,0,none⟩) m gc) (.slice a9 n9 c9) ((out++[(c.1,(V.getD j default).1)]).map Prod.snd) (out++[(c.1,(V.getD j default).1)])):=zq
  clear hCd HP9 zq r2 k2 cX fX
  go_wp2_with fail
  try rw [<- pX]
  go_ret
  exact .inr ⟨j,_,_,Hbb.out,rfl,by first | exact HF.out | (rw [<- pX];exact HF.out)⟩
end Go.Proofs.YtgikfenllgldoaaGreat
