/- planOf: the tables, and the volumes that can be had on the node. Condition: the labels and the state's lists lie as is said of them. -/
import Derived.Test.YtgikfenllgldoaaGreatQ26
import Derived.Test.YtgikfenllgldoaaGreatQ31
set_option linter.unusedSimpArgs false
set_option maxRecDepth 100000
set_option maxHeartbeats 32000000
namespace Go.Proofs.YtgikfenllgldoaaGreat
open Go.Proofs.Tryz
open Go.RowKit Go.Maps
theorem yX:(prog.info? 171).map (·.size)=some 9:=by kernel_rfl
def Ay (W1:World) (la:Option Addr) (ln lc:Nat) (ca:Option Addr) (cn cc:Nat) (va:Option Addr) (vn vc:Nat) (ka:Option Addr) (kn kc:Nat) (CL:List aT) (V:List aD) (KL:List dI) (X mc mv mk:Nat) (u:World):Prop :=
 aV u mc (CL.map Prod.fst)/\aV u mv (V.map Prod.fst)/\aV u mk (KL.map Prod.fst)/\X≠mc/\X≠mv/\X≠mk/\af u X [.slice la ln lc,.slice ca cn cc,.map (some mc),.slice va vn vc,.map (some mv),.slice ka kn kc,.map (some mk),.slice none 0 0,.slice none 0 0]/\Below W1.heap.size W1 u/\W1.heap.size<=X/\W1.heap.size<=mc/\W1.heap.size<=mv/\W1.heap.size<=mk
theorem zFz {NL:List aG} {V:List aD} {k:Nat} (h:k<V.length):bJ NL (V.take (k+1)) []=bJ NL (V.take k) []++(if sO NL (V.getD k default)=true then [V.getD k default] else []):=by
 unfold bJ
 rw [List.take_succ_eq_append_getElem h,List.filter_append,List.getD_eq_getElem?_getD,List.getElem?_eq_getElem h]
 simp only [Option.getD_some]
 generalize V[k]=y
 congr 1
 cases hh:sO NL y <;> simp [hasB,List.filter_cons,hh]
theorem XT (NL:List aG) (V:List aD) (p:List ByteArray):(bJ NL V p).length<=V.length:=List.length_filter_le _ _
theorem Row.VK {α:Type} [Inhabited α] {R:bI α} {k:Nat} (hR:aJ R k) {A:Where} {w0 u:World} {e:TypeId} {v:Value} {L:List α} (h:Row R k A w0 u e v L) {i:Nat} (hi:i<L.length):∃ g c cs,v=.slice (some ⟨g,0,none⟩) L.length c/\g<u.heap.size/\R (fun b=>A b/\v.ownBlock≠some b) u cs (L.getD i default)/\u.rangeAt g (i*k) cs:=by
 obtain ⟨xs,h1,h2⟩:=h
 obtain ⟨cs,hr,hc⟩:=h2.2 i hi
 have h12:=h1.2
 obtain ⟨_,⟨_,h0⟩ | ⟨g,cap,cur,rfl,hg,hh,hnc,_,hcs,htk⟩⟩:=h1.2
 ·omega
 refine ⟨g,cap,cs,rfl,(Array.getElem?_eq_some_iff.1 hh).1,hr,fun j y hj=>?_⟩
 have hjk:j<k:=by have:=(List.getElem?_eq_some_iff.1 hj).1;rwa [hR.len hr] at this
 have hle:(i+1)*k<=L.length*k:=Nat.mul_le_mul_right k hi
 rw [Nat.add_mul,Nat.one_mul] at hle
 rw [h12.cellAt (i*k+j) (by omega),hc j hjk]
 exact hj
def TY (w:World) (la:Option Addr) (ln lc:Nat) (ca:Option Addr) (cn cc:Nat) (va:Option Addr) (vn vc:Nat) (ka:Option Addr) (kn kc:Nat) (NL:List aG) (CL:List aT) (V Q:List aD) (KL:List dI) (e:Ending) (u:World):Prop :=
 ∃ mc mv mk a n c,e=.returned (.agg #[.slice la ln lc,.slice ca cn cc,.map (some mc),.slice va vn vc,.map (some mv),.slice ka kn kc,.map (some mk),.slice a n c,.slice none 0 0]) /\
  aV u mc (CL.map Prod.fst)/\aV u mv (V.map Prod.fst)/\aV u mk (KL.map Prod.fst)/\Row ai 5 (fun b=>b<w.heap.size) w u 59 (.slice a n c) (bJ NL Q [])/\(∀ b,(Value.slice a n c).ownBlock=some b->b≠mc/\b≠mv/\b≠mk)/\w.heap.size<=mc/\w.heap.size<=mv/\w.heap.size<=mk
theorem zFJ (la:Option Addr) (ln lc:Nat) (v0 v1 v5:Value) (ca:Option Addr) (cn cc:Nat) (va:Option Addr) (vn vc:Nat) (ka:Option Addr) (kn kc:Nat) (NL:List aG) (CL:List aT) (V:List aD) (KL:List dI) (w:World) (hl:ag ak 2 32 (fun _=>True) w la ln lc NL) (hc:ag aA 4 56 (fun _=>True) w ca cn cc CL) (hv:ag ai 5 72 (fun _=>True) w va vn vc V) (hk:ag aH 2 24 (fun _=>True) w ka kn kc KL) (MM:V.length*80<=140737488355328) :
  Calls prog 78 #[.slice la ln lc,.agg #[v0,v1,.slice va vn vc,.slice ca cn cc,.slice ka kn kc,v5]] w (TY w la ln lc ca cn cc va vn vc ka kn kc NL CL V (bK Prod.fst V) KL):=by
 obtain ⟨Q,hQ⟩:∃ Q,Q=bK Prod.fst V:=⟨_,rfl⟩
 rw [<- hQ]
 have HQ:Hid (Q=bK Prod.fst V):=hQ
 clear hQ
 obtain ⟨W1,hW1⟩:∃ W,W=(w.alloc (.cells #[v0,v1,.slice va vn vc,.slice ca cn cc,.slice ka kn kc,v5] 29)).alloc (.cells #[.slice none 0 0,.slice none 0 0,.map none,.slice none 0 0,.map none,.slice none 0 0,.map none,.slice none 0 0,.slice none 0 0] 171):=⟨_,rfl⟩
 have B1:Below w.heap.size w W1:=by rw [hW1];go_grown
 have q1:af W1 w.heap.size [v0,v1,.slice va vn vc,.slice ca cn cc,.slice ka kn kc,v5]:=by rw [hW1];exact (af.new w 29 _).on ((Below.refl _ _).alloc (Nat.le_refl _) _)
 have q2:af W1 (w.heap.size+1) [.slice none 0 0,.slice none 0 0,.map none,.slice none 0 0,.map none,.slice none 0 0,.map none,.slice none 0 0,.slice none 0 0]:=by rw [hW1];have:=af.new (w.alloc (.cells #[v0,v1,.slice va vn vc,.slice ca cn cc,.slice ka kn kc,v5] 29)) 171 [.slice none 0 0,.slice none 0 0,.map none,.slice none 0 0,.map none,.slice none 0 0,.map none,.slice none 0 0,.slice none 0 0];simpa using this
 have hz1:W1.heap.size=w.heap.size+1+1:=by rw [hW1];simp
 have HW:Hid (∀ u,Below w.heap.size w u->ag ak 2 32 (fun b=>b<w.heap.size) u la ln lc NL/\ag aA 4 56 (fun b=>b<w.heap.size) u ca cn cc CL/\ag ai 5 72 (fun b=>b<w.heap.size) u va vn vc V/\ag aH 2 24 (fun b=>b<w.heap.size) u ka kn kc KL):=fun u hb=>⟨(hl.weak ak.ae (fun b hb _=>hb)).on ak.ae hb,(hc.weak aA.ae (fun b hb _=>hb)).on aA.ae hb,(hv.weak ai.ae (fun b hb _=>hb)).on ai.ae hb,(hk.weak aH.ae (fun b hb _=>hb)).on aH.ae hb⟩
 have vO:Hid (∀ u,Below W1.heap.size W1 u->ag aA 4 56 (fun b=>b<w.heap.size) u ca cn cc CL):=fun u hb=>(HW.out u (ah B1 hb)).2.1
 have nM:Hid (∀ u,Below W1.heap.size W1 u->ag ai 5 72 (fun b=>b<w.heap.size) u va vn vc V):=fun u hb=>(HW.out u (ah B1 hb)).2.2.1
 have Gn:Hid (∀ u,Below W1.heap.size W1 u->ag aH 2 24 (fun b=>b<w.heap.size) u ka kn kc KL):=fun u hb=>(HW.out u (ah B1 hb)).2.2.2
 have HQ:Hid (∀ z,Below W1.heap.size W1 z->z.cell? ⟨w.heap.size,2,none⟩=some (.slice va vn vc)/\z.cell? ⟨w.heap.size,3,none⟩=some (.slice ca cn cc)/\z.cell? ⟨w.heap.size,4,none⟩=some (.slice ka kn kc)):=fun z hb=>⟨((q1.on hb).2 2 _ rfl).1,((q1.on hb).2 3 _ rfl).1,((q1.on hb).2 4 _ rfl).1⟩
 have HB1:Hid (Below w.heap.size w W1/\af W1 (w.heap.size+1) [.slice none 0 0,.slice none 0 0,.map none,.slice none 0 0,.map none,.slice none 0 0,.map none,.slice none 0 0,.slice none 0 0]/\W1.heap.size=w.heap.size+1+1):=⟨B1,q2,hz1⟩
 have Hvl:Hid (V.length=vn):=hv.1
 have hvl:=hv.len (by decide)
 clear hl hc hv hk B1 q1 q2 hz1
 go_enter func78,ntmps78
 go_upto_region 1 with fail
 rw [<- hW1]
 clear hW1
 go_cut [5,8,9,10,11,12,13,14,15,16,17,18] (fun x5 _ _ _ _ _ _ _ _ _ _ _ wx=>∃ X mc mv mk:Nat,x5=.pointer (some ⟨X,0,none⟩)/\Hid (Ay W1 la ln lc ca cn cc va vn vc ka kn kc CL V KL X mc mv mk wx))
 case first =>
  refine t0 (fun z=>Below W1.heap.size W1 z) (Below.refl _ _).drew (fun gH=>?_)
  have hb0:Below W1.heap.size W1 W1.drew:=(Below.refl _ _).drew
  generalize hwd:W1.drew=wd at gH hb0 |-
  clear hwd
  try go_frame
  refine' tk 0 ?_ ?_;rotate_left
  ·intro u hu;obtain ⟨f1,f2,f3⟩:=HQ.out u hu;clear hu;go_simp;try with_reducible rfl
  try go_frame
  refine' tk 1 ?_ ?_;rotate_left
  ·intro u hu;obtain ⟨f1,f2,f3⟩:=HQ.out u hu;clear hu;go_simp;try with_reducible rfl
  try go_frame
  refine' tk 2 ?_ ?_;rotate_left
  ·intro u hu;obtain ⟨f1,f2,f3⟩:=HQ.out u hu;clear hu;go_simp;try with_reducible rfl
  try go_frame
  refine' tk 4 ?_ ?_;rotate_left
  ·intro u hu;obtain ⟨f1,f2,f3⟩:=HQ.out u hu;clear hu;go_simp;try with_reducible rfl
  try go_frame
  refine' tk 5 ?_ ?_;rotate_left
  ·intro u hu;obtain ⟨f1,f2,f3⟩:=HQ.out u hu;clear hu;go_simp;try with_reducible rfl
  try go_frame
  refine' tk 7 ?_ ?_;rotate_left
  ·intro u hu;obtain ⟨f1,f2,f3⟩:=HQ.out u hu;clear hu;go_simp;try with_reducible rfl
  try go_frame
  refine' tk 8 ?_ ?_;rotate_left
  ·intro u hu;obtain ⟨f1,f2,f3⟩:=HQ.out u hu;clear hu;go_simp;try with_reducible rfl
  try go_frame
  refine tb 3 11 (fun K hK=>?_) (fun K hK=>?_)
  ·
   have hC:=y8 ca cn cc _ CL wd (vO.out wd hb0)
   go_simp
   refine hC.mono ?_
   rintro e u1 ⟨mc,rfl,nc,loc,d1⟩
   clear hC
   have hb1:Below W1.heap.size W1 u1:=ah hb0 d1
   have fG:W1.heap.size<=mc:=Nat.le_trans hb0.size loc
   go_wp2_with fail
   refine hK.out _ _ hb1 (fun gI=>?_)
   clear hK K gH;have gH:=gI;clear gI
   try go_frame
   refine tb 6 11 (fun K hK=>?_) (fun K hK=>?_)
   ·
    have hC:=qE va vn vc _ V u1 (nM.out u1 hb1)
    go_simp
    refine hC.mono ?_
    rintro e u2 ⟨mv,rfl,nv,fQ,d2⟩
    clear hC
    have hb2:Below W1.heap.size W1 u2:=ah hb1 d2
    have eO:W1.heap.size<=mv:=Nat.le_trans hb1.size fQ
    have nc:=nc.on d2
    go_wp2_with fail
    refine hK.out _ _ hb2 (fun gI=>?_)
    clear hK K gH;have gH:=gI;clear gI
    try go_frame
    refine tb 9 11 (fun K hK=>?_) (fun K hK=>?_)
    ·
     have hC:=Md ka kn kc _ KL u2 (Gn.out u2 hb2)
     go_simp
     refine hC.mono ?_
     rintro e u3 ⟨mk,rfl,nk,uB,d3⟩
     clear hC
     have hb3:Below W1.heap.size W1 u3:=ah hb2 d3
     have rM:W1.heap.size<=mk:=Nat.le_trans hb2.size uB
     have nc:=nc.on d3
     have nv:=nv.on d3
     go_wp2_with fail
     refine hK.out _ _ hb3 (fun gI=>?_)
     clear hK K gH;have gH:=gI;clear gI
     try go_frame
     refine tp 10 ?_
     try go_frame
     refine tr 11 (fun K hK=>?_)
     go_simp
     obtain ⟨u4,kJ⟩:∃ u4,u4=u3.alloc (.cells #[.slice none 0 0,.slice none 0 0,.map none,.slice none 0 0,.map none,.slice none 0 0,.map none,.slice none 0 0,.slice none 0 0] 171):=⟨_,rfl⟩
     have d4:Below u3.heap.size u3 u4:=by rw [kJ];exact (Below.refl _ _).alloc (Nat.le_refl _) _
     have hb4:Below W1.heap.size W1 u4:=ah hb3 d4
     have ug:af u4 u3.heap.size [.slice none 0 0,.slice none 0 0,.map none,.slice none 0 0,.map none,.slice none 0 0,.map none,.slice none 0 0,.slice none 0 0]:=by rw [kJ];exact af.new u3 171 [.slice none 0 0,.slice none 0 0,.map none,.slice none 0 0,.map none,.slice none 0 0,.map none,.slice none 0 0,.slice none 0 0]
     have xc:u3.heap.size≠mc:=by have:=nc.lt;omega
     have xv:u3.heap.size≠mv:=by have:=nv.lt;omega
     have xk:u3.heap.size≠mk:=by have:=nk.lt;omega
     have hX1:W1.heap.size<=u3.heap.size:=hb3.size
     have nc:=nc.on d4
     have nv:=nv.on d4
     have nk:=nk.on d4
     refine hK.out _ _ (kJ ▸ hb4) (fun gI=>?_)
     rw [<- kJ] at gI |-
     clear hK K gH;have gH:=gI;clear gI
     try go_frame
     clear kJ
     generalize u3.heap.size=X at ug hX1 xc xv xk |-
     have zX:=ug
     have zA:=af.there zX
     obtain ⟨U,hU⟩:∃ U,U=u4.setCells X 0 [.slice la ln lc,.slice ca cn cc,.map (some mc),.slice va vn vc,.map (some mv),.slice ka kn kc,.map (some mk),.slice none 0 0,.slice none 0 0]:=⟨_,rfl⟩
     refine ts 12 (fun K hK=>?_)
     refine fP (by rfl) (wp_store_mid 171 _ _ rfl X 0 #[.slice la ln lc,.slice ca cn cc,.map (some mc),.slice va vn vc,.map (some mv),.slice ka kn kc,.map (some mk),.slice none 0 0,.slice none 0 0] rfl rfl zX.there yX (by simp [Value.oneCell']) ?_)
     have kU:Kept (fun b=>b≠X) u4 U:=by rw [hU];exact dP (fun h=>h rfl)
     have bU:Below W1.heap.size W1 U:=by rw [hU];exact cu hb4 hX1
     have qU:af U X [.slice la ln lc,.slice ca cn cc,.map (some mc),.slice va vn vc,.map (some mv),.slice ka kn kc,.map (some mk),.slice none 0 0,.slice none 0 0]:=by rw [hU];exact dL zX rfl
     have eU:U=u4.setCells X 0 (#[.slice la ln lc,.slice ca cn cc,.map (some mc),.slice va vn vc,.map (some mv),.slice ka kn kc,.map (some mk),.slice none 0 0,.slice none 0 0]:Array Value).toList:=by rw [hU]
     rw [<- eU]
     refine hK.out _ _ bU (fun gI=>?_)
     clear hK K gH;have gH:=gI;clear gI
     try go_frame
     refine tz ?_
     have HG:Hid (Ay W1 la ln lc ca cn cc va vn vc ka kn kc CL V KL X mc mv mk U):=⟨nc.kept kU (fun e=>xc e.symm),nv.kept kU (fun e=>xv e.symm),nk.kept kU (fun e=>xk e.symm),xc,xv,xk,qU,bU,hX1,fG,eO,rM⟩
     clear hU eU zA zX kU qU bU nc nv nk xc xv xk hX1 fG eO rM gH loc fQ uB
     go_wp2_with fail
     go_meet
     exact ⟨X,mc,mv,mk,rfl,HG⟩
    ·
     go_simp
     obtain ⟨u5,uF⟩:∃ u5,u5=u2.alloc (.cells #[.slice none 0 0,.slice none 0 0,.map none,.slice none 0 0,.map none,.slice none 0 0,.map none,.slice none 0 0,.slice none 0 0] 171):=⟨_,rfl⟩
     have d5:Below u2.heap.size u2 u5:=by rw [uF];exact (Below.refl _ _).alloc (Nat.le_refl _) _
     have hb5:Below W1.heap.size W1 u5:=ah hb2 d5
     have ug:af u5 u2.heap.size [.slice none 0 0,.slice none 0 0,.map none,.slice none 0 0,.map none,.slice none 0 0,.map none,.slice none 0 0,.slice none 0 0]:=by rw [uF];exact af.new u2 171 [.slice none 0 0,.slice none 0 0,.map none,.slice none 0 0,.map none,.slice none 0 0,.map none,.slice none 0 0,.slice none 0 0]
     have xc:u2.heap.size≠mc:=by have:=nc.lt;omega
     have xv:u2.heap.size≠mv:=by have:=nv.lt;omega
     have hX1:W1.heap.size<=u2.heap.size:=hb2.size
     have nc:=nc.on d5
     have nv:=nv.on d5
     refine hK.out _ _ (uF ▸ hb5) (fun gI=>?_)
     rw [<- uF] at gI |-
     clear hK K gH;have gH:=gI;clear gI
     try go_frame
     clear uF
     generalize u2.heap.size=X at ug hX1 xc xv |-
     have zX:=ug
     refine tr 9 (fun K hK=>?_)
     have hC:=Md ka kn kc _ KL u5 (Gn.out u5 hb5)
     go_simp
     refine hC.mono ?_
     rintro e u6 ⟨mk,rfl,nk,uB,d6⟩
     clear hC
     have hb6:Below W1.heap.size W1 u6:=ah hb5 d6
     have rM:W1.heap.size<=mk:=Nat.le_trans hb5.size uB
     have xk:X≠mk:=by have:=zX.1;omega
     have zX:=zX.on d6
     have nc:=nc.on d6
     have nv:=nv.on d6
     go_wp2_with fail
     refine hK.out _ _ hb6 (fun gI=>?_)
     clear hK K gH;have gH:=gI;clear gI
     try go_frame
     refine tp 10 ?_
     try go_frame
     have zA:=af.there zX
     obtain ⟨U,hU⟩:∃ U,U=u6.setCells X 0 [.slice la ln lc,.slice ca cn cc,.map (some mc),.slice va vn vc,.map (some mv),.slice ka kn kc,.map (some mk),.slice none 0 0,.slice none 0 0]:=⟨_,rfl⟩
     refine ts 12 (fun K hK=>?_)
     refine fP (by rfl) (wp_store_mid 171 _ _ rfl X 0 #[.slice la ln lc,.slice ca cn cc,.map (some mc),.slice va vn vc,.map (some mv),.slice ka kn kc,.map (some mk),.slice none 0 0,.slice none 0 0] rfl rfl zX.there yX (by simp [Value.oneCell']) ?_)
     have kU:Kept (fun b=>b≠X) u6 U:=by rw [hU];exact dP (fun h=>h rfl)
     have bU:Below W1.heap.size W1 U:=by rw [hU];exact cu hb6 hX1
     have qU:af U X [.slice la ln lc,.slice ca cn cc,.map (some mc),.slice va vn vc,.map (some mv),.slice ka kn kc,.map (some mk),.slice none 0 0,.slice none 0 0]:=by rw [hU];exact dL zX rfl
     have eU:U=u6.setCells X 0 (#[.slice la ln lc,.slice ca cn cc,.map (some mc),.slice va vn vc,.map (some mv),.slice ka kn kc,.map (some mk),.slice none 0 0,.slice none 0 0]:Array Value).toList:=by rw [hU]
     rw [<- eU]
     refine hK.out _ _ bU (fun gI=>?_)
     clear hK K gH;have gH:=gI;clear gI
     try go_frame
     refine tz ?_
     have HG:Hid (Ay W1 la ln lc ca cn cc va vn vc ka kn kc CL V KL X mc mv mk U):=⟨nc.kept kU (fun e=>xc e.symm),nv.kept kU (fun e=>xv e.symm),nk.kept kU (fun e=>xk e.symm),xc,xv,xk,qU,bU,hX1,fG,eO,rM⟩
     clear hU eU zA zX kU qU bU nc nv nk xc xv xk hX1 fG eO rM gH loc fQ uB
     go_wp2_with fail
     go_meet
     exact ⟨X,mc,mv,mk,rfl,HG⟩
   ·
    go_simp
    obtain ⟨u7,uE⟩:∃ u7,u7=u1.alloc (.cells #[.slice none 0 0,.slice none 0 0,.map none,.slice none 0 0,.map none,.slice none 0 0,.map none,.slice none 0 0,.slice none 0 0] 171):=⟨_,rfl⟩
    have d7:Below u1.heap.size u1 u7:=by rw [uE];exact (Below.refl _ _).alloc (Nat.le_refl _) _
    have iK:Below W1.heap.size W1 u7:=ah hb1 d7
    have ug:af u7 u1.heap.size [.slice none 0 0,.slice none 0 0,.map none,.slice none 0 0,.map none,.slice none 0 0,.map none,.slice none 0 0,.slice none 0 0]:=by rw [uE];exact af.new u1 171 [.slice none 0 0,.slice none 0 0,.map none,.slice none 0 0,.map none,.slice none 0 0,.map none,.slice none 0 0,.slice none 0 0]
    have xc:u1.heap.size≠mc:=by have:=nc.lt;omega
    have hX1:W1.heap.size<=u1.heap.size:=hb1.size
    have nc:=nc.on d7
    refine hK.out _ _ (uE ▸ iK) (fun gI=>?_)
    rw [<- uE] at gI |-
    clear hK K gH;have gH:=gI;clear gI
    try go_frame
    clear uE
    generalize u1.heap.size=X at ug hX1 xc |-
    have zX:=ug
    refine tr 6 (fun K hK=>?_)
    have hC:=qE va vn vc _ V u7 (nM.out u7 iK)
    go_simp
    refine hC.mono ?_
    rintro e u8 ⟨mv,rfl,nv,fQ,d8⟩
    clear hC
    have yf:Below W1.heap.size W1 u8:=ah iK d8
    have eO:W1.heap.size<=mv:=Nat.le_trans iK.size fQ
    have xv:X≠mv:=by have:=zX.1;omega
    have zX:=zX.on d8
    have nc:=nc.on d8
    go_wp2_with fail
    refine hK.out _ _ yf (fun gI=>?_)
    clear hK K gH;have gH:=gI;clear gI
    try go_frame
    refine tr 9 (fun K hK=>?_)
    have hC:=Md ka kn kc _ KL u8 (Gn.out u8 yf)
    go_simp
    refine hC.mono ?_
    rintro e u9 ⟨mk,rfl,nk,uB,d9⟩
    clear hC
    have ou:Below W1.heap.size W1 u9:=ah yf d9
    have rM:W1.heap.size<=mk:=Nat.le_trans yf.size uB
    have xk:X≠mk:=by have:=zX.1;omega
    have zX:=zX.on d9
    have nc:=nc.on d9
    have nv:=nv.on d9
    go_wp2_with fail
    refine hK.out _ _ ou (fun gI=>?_)
    clear hK K gH;have gH:=gI;clear gI
    try go_frame
    refine tp 10 ?_
    try go_frame
    have zA:=af.there zX
    obtain ⟨U,hU⟩:∃ U,U=u9.setCells X 0 [.slice la ln lc,.slice ca cn cc,.map (some mc),.slice va vn vc,.map (some mv),.slice ka kn kc,.map (some mk),.slice none 0 0,.slice none 0 0]:=⟨_,rfl⟩
    refine ts 12 (fun K hK=>?_)
    refine fP (by rfl) (wp_store_mid 171 _ _ rfl X 0 #[.slice la ln lc,.slice ca cn cc,.map (some mc),.slice va vn vc,.map (some mv),.slice ka kn kc,.map (some mk),.slice none 0 0,.slice none 0 0] rfl rfl zX.there yX (by simp [Value.oneCell']) ?_)
    have kU:Kept (fun b=>b≠X) u9 U:=by rw [hU];exact dP (fun h=>h rfl)
    have bU:Below W1.heap.size W1 U:=by rw [hU];exact cu ou hX1
    have qU:af U X [.slice la ln lc,.slice ca cn cc,.map (some mc),.slice va vn vc,.map (some mv),.slice ka kn kc,.map (some mk),.slice none 0 0,.slice none 0 0]:=by rw [hU];exact dL zX rfl
    have eU:U=u9.setCells X 0 (#[.slice la ln lc,.slice ca cn cc,.map (some mc),.slice va vn vc,.map (some mv),.slice ka kn kc,.map (some mk),.slice none 0 0,.slice none 0 0]:Array Value).toList:=by rw [hU]
    rw [<- eU]
    refine hK.out _ _ bU (fun gI=>?_)
    clear hK K gH;have gH:=gI;clear gI
    try go_frame
    refine tz ?_
    have HG:Hid (Ay W1 la ln lc ca cn cc va vn vc ka kn kc CL V KL X mc mv mk U):=⟨nc.kept kU (fun e=>xc e.symm),nv.kept kU (fun e=>xv e.symm),nk.kept kU (fun e=>xk e.symm),xc,xv,xk,qU,bU,hX1,fG,eO,rM⟩
    clear hU eU zA zX kU qU bU nc nv nk xc xv xk hX1 fG eO rM gH loc fQ uB
    go_wp2_with fail
    go_meet
    exact ⟨X,mc,mv,mk,rfl,HG⟩
  ·
   go_simp
   obtain ⟨pG,pQ⟩:∃ pG,pG=wd.alloc (.cells #[.slice none 0 0,.slice none 0 0,.map none,.slice none 0 0,.map none,.slice none 0 0,.map none,.slice none 0 0,.slice none 0 0] 171):=⟨_,rfl⟩
   have d10:Below wd.heap.size wd pG:=by rw [pQ];exact (Below.refl _ _).alloc (Nat.le_refl _) _
   have oH:Below W1.heap.size W1 pG:=ah hb0 d10
   have ug:af pG wd.heap.size [.slice none 0 0,.slice none 0 0,.map none,.slice none 0 0,.map none,.slice none 0 0,.map none,.slice none 0 0,.slice none 0 0]:=by rw [pQ];exact af.new wd 171 [.slice none 0 0,.slice none 0 0,.map none,.slice none 0 0,.map none,.slice none 0 0,.map none,.slice none 0 0,.slice none 0 0]
   have hX1:W1.heap.size<=wd.heap.size:=hb0.size
   refine hK.out _ _ (pQ ▸ oH) (fun gI=>?_)
   rw [<- pQ] at gI |-
   clear hK K gH;have gH:=gI;clear gI
   try go_frame
   clear pQ
   generalize wd.heap.size=X at ug hX1  |-
   have zX:=ug
   refine tr 3 (fun K hK=>?_)
   have hC:=y8 ca cn cc _ CL pG (vO.out pG oH)
   go_simp
   refine hC.mono ?_
   rintro e xS ⟨mc,rfl,nc,loc,d11⟩
   clear hC
   have oG:Below W1.heap.size W1 xS:=ah oH d11
   have fG:W1.heap.size<=mc:=Nat.le_trans oH.size loc
   have xc:X≠mc:=by have:=zX.1;omega
   have zX:=zX.on d11
   go_wp2_with fail
   refine hK.out _ _ oG (fun gI=>?_)
   clear hK K gH;have gH:=gI;clear gI
   try go_frame
   refine tr 6 (fun K hK=>?_)
   have hC:=qE va vn vc _ V xS (nM.out xS oG)
   go_simp
   refine hC.mono ?_
   rintro e mq ⟨mv,rfl,nv,fQ,d12⟩
   clear hC
   have pV:Below W1.heap.size W1 mq:=ah oG d12
   have eO:W1.heap.size<=mv:=Nat.le_trans oG.size fQ
   have xv:X≠mv:=by have:=zX.1;omega
   have zX:=zX.on d12
   have nc:=nc.on d12
   go_wp2_with fail
   refine hK.out _ _ pV (fun gI=>?_)
   clear hK K gH;have gH:=gI;clear gI
   try go_frame
   refine tr 9 (fun K hK=>?_)
   have hC:=Md ka kn kc _ KL mq (Gn.out mq pV)
   go_simp
   refine hC.mono ?_
   rintro e oV ⟨mk,rfl,nk,uB,d13⟩
   clear hC
   have rq:Below W1.heap.size W1 oV:=ah pV d13
   have rM:W1.heap.size<=mk:=Nat.le_trans pV.size uB
   have xk:X≠mk:=by have:=zX.1;omega
   have zX:=zX.on d13
   have nc:=nc.on d13
   have nv:=nv.on d13
   go_wp2_with fail
   refine hK.out _ _ rq (fun gI=>?_)
   clear hK K gH;have gH:=gI;clear gI
   try go_frame
   refine tp 10 ?_
   try go_frame
   have zA:=af.there zX
   obtain ⟨U,hU⟩:∃ U,U=oV.setCells X 0 [.slice la ln lc,.slice ca cn cc,.map (some mc),.slice va vn vc,.map (some mv),.slice ka kn kc,.map (some mk),.slice none 0 0,.slice none 0 0]:=⟨_,rfl⟩
   refine ts 12 (fun K hK=>?_)
   refine fP (by rfl) (wp_store_mid 171 _ _ rfl X 0 #[.slice la ln lc,.slice ca cn cc,.map (some mc),.slice va vn vc,.map (some mv),.slice ka kn kc,.map (some mk),.slice none 0 0,.slice none 0 0] rfl rfl zX.there yX (by simp [Value.oneCell']) ?_)
   have kU:Kept (fun b=>b≠X) oV U:=by rw [hU];exact dP (fun h=>h rfl)
   have bU:Below W1.heap.size W1 U:=by rw [hU];exact cu rq hX1
   have qU:af U X [.slice la ln lc,.slice ca cn cc,.map (some mc),.slice va vn vc,.map (some mv),.slice ka kn kc,.map (some mk),.slice none 0 0,.slice none 0 0]:=by rw [hU];exact dL zX rfl
   have eU:U=oV.setCells X 0 (#[.slice la ln lc,.slice ca cn cc,.map (some mc),.slice va vn vc,.map (some mv),.slice ka kn kc,.map (some mk),.slice none 0 0,.slice none 0 0]:Array Value).toList:=by rw [hU]
   rw [<- eU]
   refine hK.out _ _ bU (fun gI=>?_)
   clear hK K gH;have gH:=gI;clear gI
   try go_frame
   refine tz ?_
   have HG:Hid (Ay W1 la ln lc ca cn cc va vn vc ka kn kc CL V KL X mc mv mk U):=⟨nc.kept kU (fun e=>xc e.symm),nv.kept kU (fun e=>xv e.symm),nk.kept kU (fun e=>xk e.symm),xc,xv,xk,qU,bU,hX1,fG,eO,rM⟩
   clear hU eU zA zX kU qU bU nc nv nk xc xv xk hX1 fG eO rM gH loc fQ uB
   go_wp2_with fail
   go_meet
   exact ⟨X,mc,mv,mk,rfl,HG⟩
 case rest =>
  obtain ⟨X,mc,mv,mk,rfl,hpo⟩:=hcut
  obtain ⟨nc,nv,nk,xc,xv,xk,qX,bX,hX1,fG,eO,rM⟩:=hpo.out
  clear hpo vO Gn HQ
  obtain ⟨wx,rfl⟩:∃ u,u=wc:=⟨_,rfl⟩
  have hC:=zCV va vn vc _ V mv wx (nM.out wx bX) nv (by rw [<- Hvl.out];exact MM)
  have ML:Q.length*80<=140737488355328:=by have h9:=El Prod.fst V;rw [HQ.out];omega
  rw [<- HQ.out] at hC
  clear HQ
  have c3:=(qX.2 3 _ rfl).1
  have c4:=(qX.2 4 _ rfl).1
  have H3:Hid (aV wx mc (CL.map Prod.fst)/\aV wx mv (V.map Prod.fst)/\aV wx mk (KL.map Prod.fst)/\X≠mc/\X≠mv/\X≠mk/\af wx X [.slice la ln lc,.slice ca cn cc,.map (some mc),.slice va vn vc,.map (some mv),.slice ka kn kc,.map (some mk),.slice none 0 0,.slice none 0 0]/\Below W1.heap.size W1 wx/\W1.heap.size<=X):=⟨nc,nv,nk,xc,xv,xk,qX,bX,hX1⟩
  clear nc nv nk xc xv xk qX bX hX1 nM
  go_upto_region 2 with fail
  go_wp2_with fail
  refine hC.mono ?_
  rintro e w2 ⟨vl,rfl,rl⟩
  clear hC c3 c4
  obtain ⟨nc,nv,nk,xc,xv,xk,qX,bX,hX1⟩:=H3.out
  have b2:Below wx.heap.size wx w2:=rl.below
  obtain ⟨ba,bn,bc,rfl⟩:=rl.head
  have JV:bn=Q.length:=by
   obtain ⟨a',n',c',e',s'⟩:=rl.iW (bytes:=72) ai.ae (by omega)
   cases e'
   exact s'.1.symm
  have hbn:Hid (Q.length=bn):=JV.symm
  have hbl:bn<=140737488351232:=by rw [JV];omega
  have Zp:Row ai 5 (fun b=>b<w.heap.size) w w2 59 (.slice ba bn bc) Q:=rl.from ai.ae (ah HB1.out.1 bX) (fun b hb=>hb.1)
  have hown:∀ b,(Value.slice ba bn bc).ownBlock=some b->wx.heap.size<=b/\b<w2.heap.size:=fun b hb=>rl.lt hb
  have hw1:=HB1.out.2.2
  have hwx:W1.heap.size<=wx.heap.size:=bX.size
  have hXx:X<wx.heap.size:=qX.1
  have HK:Hid (∀ z,Below w.heap.size w z->Kept (fun b=>b<w2.heap.size/\b≠X) w2 z->Row ai 5 (fun b=>b<w.heap.size) w z 59 (.slice ba bn bc) Q/\ag ak 2 32 (fun b=>b<w.heap.size) z la ln lc NL/\aV z mc (CL.map Prod.fst)/\aV z mv (V.map Prod.fst)/\aV z mk (KL.map Prod.fst)/\af z (w.heap.size+1) [.slice none 0 0,.slice none 0 0,.map none,.slice none 0 0,.map none,.slice none 0 0,.map none,.slice none 0 0,.slice none 0 0]):=fun z hbz hk=>by
   have h0:∀ b,b<w.heap.size->b<w2.heap.size/\b≠X:=fun b hb=>⟨by have:=b2.size;omega,by omega⟩
   refine ⟨Zp.bO ai.ae hbz (hk.weak (fun b hb=>?_)),((HW.out w2 (ah HB1.out.1 (ah bX b2))).1).kept ak.ae (hk.weak h0),(nc.on b2).kept hk ⟨by have:=nc.lt;have:=b2.size;omega,fun e=>xc e.symm⟩,(nv.on b2).kept hk ⟨by have:=nv.lt;have:=b2.size;omega,fun e=>xv e.symm⟩,(nk.on b2).kept hk ⟨by have:=nk.lt;have:=b2.size;omega,fun e=>xk e.symm⟩,((HB1.out.2.1.on bX).on b2).kept hk ⟨by have:=b2.size;omega,by omega⟩⟩
   rcases hb with hb | hb
   ·exact h0 b hb
   ·have:=hown b hb;exact ⟨this.2,by omega⟩
  have HI:Hid (∃ lv,af w2 X [.slice la ln lc,.slice ca cn cc,.map (some mc),.slice va vn vc,.map (some mv),.slice ka kn kc,.map (some mk),lv,.slice none 0 0]/\Row ai 5 (fun b=>b<w.heap.size) w w2 59 lv (bJ NL (Q.take 0) [])/\(∀ b,lv.ownBlock=some b->w2.heap.size<=b)/\Kept (fun b=>b<w2.heap.size/\b≠X) w2 w2):=⟨.slice none 0 0,qX.on b2,(Row.nil _ w 59).on ai.ae (ah HB1.out.1 (ah bX b2)),(fun b hb=>by cases hb),Kept.refl _ _⟩
  have Hs:Hid (w.heap.size<=X/\X<w2.heap.size/\w.heap.size<=w2.heap.size/\w.heap.size+1≠X/\mc<w2.heap.size/\mv<w2.heap.size/\mk<w2.heap.size):=⟨by omega,by have:=b2.size;omega,by have:=b2.size;omega,by omega,by have:=nc.lt;have:=b2.size;omega,by have:=nv.lt;have:=b2.size;omega,by have:=nk.lt;have:=b2.size;omega⟩
  have NG:Hid (mc≠w.heap.size+1/\mv≠w.heap.size+1/\mk≠w.heap.size+1):=⟨by omega,by omega,by omega⟩
  have Ud:Hid (X≠mc/\X≠mv/\X≠mk):=⟨xc,xv,xk⟩
  have Hm0:Hid (w.heap.size<=mc/\w.heap.size<=mv/\w.heap.size<=mk):=⟨by omega,by omega,by omega⟩
  clear JV fG eO rM Zp
  clear rl b2 hown nc nv nk xc xv xk qX bX hX1 H3 hwx hXx hw1
  go_wp2_with fail
  go_loopw [23] (fun i wr=>∃ k:Nat,k<=bn/\i=.int .i64 k/\Hid (∃ lv,af wr X [.slice la ln lc,.slice ca cn cc,.map (some mc),.slice va vn vc,.map (some mv),.slice ka kn kc,.map (some mk),lv,.slice none 0 0]/\Row ai 5 (fun b=>b<w.heap.size) w wr 59 lv (bJ NL (Q.take k) [])/\(∀ b,lv.ownBlock=some b->w2.heap.size<=b)/\Kept (fun b=>b<w2.heap.size/\b≠X) w2 wr)) (fun i _=>bn - (intOf i).toNat)
  case atStart=>exact ⟨0,Nat.zero_le _,rfl,HI⟩
  case round =>
   obtain ⟨k,hk,rfl,hrun⟩:=hrel
   obtain ⟨lv,qx,mQ,po,kw⟩:=hrun.out
   clear hrun HI
   obtain ⟨rL,sL,nc,nv,nk,qr⟩:=HK.out wr mQ.below kw
   by_cases hlt:k<bn
   ·have hltz:(k:Int)<(bn:Int):=by omega
    have hkl:k<Q.length:=by rw [hbn.out];exact hlt
    obtain ⟨B,cB,xs,eB,hB,hr,hv⟩:=rL.VK ai.ae hkl
    have eB2:ba=some ⟨B,0,none⟩:=by
     have e9:ba=some ⟨B,0,none⟩/\bn=Q.length/\bc=cB:=by simpa using eB
     exact e9.1
    subst eB2
    clear eB
    have HT:Hid (bJ NL (Q.take (k+1)) []=bJ NL (Q.take k) []++(if sO NL (Q.getD k default)=true then [Q.getD k default] else [])):=zFz hkl
    have fK:Hid ((bJ NL (Q.take k) []).length<=k):=by have:=XT NL (Q.take k) [];rw [List.length_take] at this;rw [Hid];omega
    generalize hx:Q.getD k default=x at hr HT
    clear hx
    have hrx:ai (fun b=>b<w.heap.size) wr xs x:=ai.ae.weak hr (fun b _ h=>h.1)
    obtain ⟨⟨q1,q2,q3⟩,rfl,_,_,sR,_⟩:=hr.out
    simp only at sR
    have iF:Hid (wr.rangeAt B (k*5) [.string x.1,.int .i64 x.2.1,.string x.2.2.1,.slice q1 q2 q3,.string (eH x)]):=hv
    have hi:(prog.info? 59).map (·.size)=some ([.string x.1,.int .i64 x.2.1,.string x.2.2.1,.slice q1 q2 q3,.string (eH x)]:List Value).length:=wI
    have hia:(prog.info? 59).map (·.size)=some (#[.string x.1,.int .i64 x.2.1,.string x.2.2.1,.slice q1 q2 q3,.string (eH x)]:Array Value).size:=wI
    have HO:Hid ((#[.string x.1,.int .i64 x.2.1,.string x.2.2.1,.slice q1 q2 q3,.string (eH x)]:Array Value).all (·.oneCell')=true):=by rw [Hid];simp [Value.oneCell']
    obtain ⟨Vw,MU⟩:∃ Vw,Vw=(wr.alloc (.cells #[.string ⟨#[]⟩,.int .i64 0,.string ⟨#[]⟩,.slice none 0 0,.string ⟨#[]⟩] 59)).setCells wr.heap.size 0 [.string x.1,.int .i64 x.2.1,.string x.2.2.1,.slice q1 q2 q3,.string (eH x)]:=⟨_,rfl⟩
    have eP:Hid ((wr.alloc (.cells #[.string ⟨#[]⟩,.int .i64 0,.string ⟨#[]⟩,.slice none 0 0,.string ⟨#[]⟩] 59)).there wr.heap.size 0 (#[.string x.1,.int .i64 x.2.1,.string x.2.2.1,.slice q1 q2 q3,.string (eH x)]:Array Value).size):=(af.new wr 59 [.string ⟨#[]⟩,.int .i64 0,.string ⟨#[]⟩,.slice none 0 0,.string ⟨#[]⟩]).there
    have bV:Below wr.heap.size wr Vw:=by rw [MU];exact cu ((Below.refl _ _).alloc (Nat.le_refl _) _) (Nat.le_refl _)
    have qV:af Vw wr.heap.size [.string x.1,.int .i64 x.2.1,.string x.2.2.1,.slice q1 q2 q3,.string (eH x)]:=by rw [MU];exact dL (af.new wr 59 [.string ⟨#[]⟩,.int .i64 0,.string ⟨#[]⟩,.slice none 0 0,.string ⟨#[]⟩]) rfl
    have fA:Hid (Vw=(wr.alloc (.cells #[.string ⟨#[]⟩,.int .i64 0,.string ⟨#[]⟩,.slice none 0 0,.string ⟨#[]⟩] 59)).setCells wr.heap.size 0 (#[.string x.1,.int .i64 x.2.1,.string x.2.2.1,.slice q1 q2 q3,.string (eH x)]:Array Value).toList):=by rw [Hid,MU]
    clear MU
    have pR:=ai.ae.kept hrx (Kept.below bV)
    have Tm:=YS [.string x.1,.int .i64 x.2.1,.string x.2.2.1,.slice q1 q2 q3,.string (eH x)] _ x Vw pR
    have HX0:Hid (Vw.rangeAt wr.heap.size 0 [.string x.1,.int .i64 x.2.1,.string x.2.2.1,.slice q1 q2 q3,.string (eH x)]):=qV.range
    have HN:Hid (∀ z,Below Vw.heap.size Vw z->af z X [.slice la ln lc,.slice ca cn cc,.map (some mc),.slice va vn vc,.map (some mv),.slice ka kn kc,.map (some mk),lv,.slice none 0 0]/\Row ai 5 (fun b=>b<w.heap.size) w z 59 lv (bJ NL (Q.take k) [])/\Kept (fun b=>b<w2.heap.size/\b≠X) w2 z/\af z wr.heap.size [.string x.1,.int .i64 x.2.1,.string x.2.2.1,.slice q1 q2 q3,.string (eH x)]/\ag ak 2 32 (fun b=>b<w.heap.size) z la ln lc NL/\ag aU 3 48 (fun _=>True) z q1 q2 q3 (oQ x)/\ai (fun b=>b<w.heap.size) z [.string x.1,.int .i64 x.2.1,.string x.2.2.1,.slice q1 q2 q3,.string (eH x)] x):=fun z hb=>⟨qx.on (ah bV hb),mQ.on ai.ae (ah bV hb),kw.trans (Kept.below (ah bV hb)),qV.on hb,sL.on ak.ae (ah bV hb),(sR.weak aU.ae (fun _ _ _=>trivial)).on aU.ae (ah bV hb),ai.ae.kept pR (Kept.below hb)⟩
    have rX:Hid (∀ b,lv.ownBlock=some b->w2.heap.size<=b):=po
    have Hw2:Hid (w2.heap.size<=wr.heap.size):=kw.1
    have N8:Hid (∃ a n c,lv=.slice a n c):=mQ.head
    have Cy:Hid (sO NL x=(ay (eH x) B0 && bE NL (oQ x))):=rfl
    clear hr hrx hv qx mQ po kw rL sL nc nv nk qr qV bV pR hB sR
    generalize sO NL x=h at HT Cy
    generalize hfb:ay (eH x) B0=fb at Tm Cy
    clear hfb
    go_wp2_with (first | (refine wpList_load_mid rfl 59 _ rfl B (k*5) rfl [.string x.1,.int .i64 x.2.1,.string x.2.2.1,.slice q1 q2 q3,.string (eH x)] _ iF.out underlying59 rfl hi ?_) | (refine wpList_store_mid rfl 59 _ _ rfl wr.heap.size 0 #[.string x.1,.int .i64 x.2.1,.string x.2.2.1,.slice q1 q2 q3,.string (eH x)] rfl rfl eP.out hia HO.out ?_;refine kF fA.out ?_) | (refine wpList_load_mid rfl 59 _ rfl wr.heap.size 0 rfl [.string x.1,.int .i64 x.2.1,.string x.2.2.1,.slice q1 q2 q3,.string (eH x)] _ HX0.out underlying59 rfl hi ?_) | fail)
    refine Tm.mono ?_
    rintro e w6 ⟨rfl,b6⟩
    obtain ⟨qx,mQ,kw,qV,sL,sR,rV⟩:=HN.out w6 b6
    clear Tm eP HO iF fA HX0 hia
    cases fb with
    | false =>
     have hh:h=false:=by rw [Cy.out];rfl
     have ji:Hid (∃ lv,af w6 X [.slice la ln lc,.slice ca cn cc,.map (some mc),.slice va vn vc,.map (some mv),.slice ka kn kc,.map (some mk),lv,.slice none 0 0]/\Row ai 5 (fun b=>b<w.heap.size) w w6 59 lv (bJ NL (Q.take (k+1)) [])/\(∀ b,lv.ownBlock=some b->w2.heap.size<=b)/\Kept (fun b=>b<w2.heap.size/\b≠X) w2 w6):=⟨lv,qx,by rw [HT.out,hh];simpa using mQ,rX.out,kw⟩
     clear qx mQ kw qV sL sR rV HN b6 hh Cy HT N8 rX fK
     go_wp2_with fail
     go_roundw
     case rel=>exact ⟨k+1,by omega,by go_num,ji⟩
     case measure=>simp [intOf];omega
    | true =>
     have Tk:=yY la ln lc _ NL q1 q2 q3 _ (oQ x) w6 sL sR
     have c3:=(qV.2 3 _ rfl).1
     have hh:Hid (h=bE NL (oQ x)):=by rw [Hid,Cy.out];rfl
     clear Cy
     generalize bE NL (oQ x)=mb at Tk hh
     have HN7:Hid (∀ z,Below w6.heap.size w6 z->af z X [.slice la ln lc,.slice ca cn cc,.map (some mc),.slice va vn vc,.map (some mv),.slice ka kn kc,.map (some mk),lv,.slice none 0 0]/\Row ai 5 (fun b=>b<w.heap.size) w z 59 lv (bJ NL (Q.take k) [])/\Kept (fun b=>b<w2.heap.size/\b≠X) w2 z/\af z wr.heap.size [.string x.1,.int .i64 x.2.1,.string x.2.2.1,.slice q1 q2 q3,.string (eH x)]/\ai (fun b=>b<w.heap.size) z [.string x.1,.int .i64 x.2.1,.string x.2.2.1,.slice q1 q2 q3,.string (eH x)] x):=fun z hb=>by
      obtain ⟨h1,h2,h3,h4,_,_,h7⟩:=HN.out z (ah b6 hb)
      exact ⟨h1,h2,h3,h4,h7⟩
     clear qx mQ kw qV sL sR rV HN b6
     go_wp2_with fail
     refine Tk.mono ?_
     rintro e w7 ⟨rfl,b7⟩
     obtain ⟨qx,mQ,kw,qV,rV⟩:=HN7.out w7 b7
     clear Tk c3 HN7 b7
     cases mb with
     | false =>
      have ji:Hid (∃ lv,af w7 X [.slice la ln lc,.slice ca cn cc,.map (some mc),.slice va vn vc,.map (some mv),.slice ka kn kc,.map (some mk),lv,.slice none 0 0]/\Row ai 5 (fun b=>b<w.heap.size) w w7 59 lv (bJ NL (Q.take (k+1)) [])/\(∀ b,lv.ownBlock=some b->w2.heap.size<=b)/\Kept (fun b=>b<w2.heap.size/\b≠X) w2 w7):=⟨lv,qx,by rw [HT.out,hh.out];simpa using mQ,rX.out,kw⟩
      clear qx mQ kw qV rV hh HT N8 rX fK
      go_wp2_with fail
      go_roundw
      case rel=>exact ⟨k+1,by omega,by go_num,ji⟩
      case measure=>simp [intOf];omega
     | true =>
      obtain ⟨a1,n1,k1,rfl⟩:=N8.out
      have HX0:Hid (w7.rangeAt wr.heap.size 0 [.string x.1,.int .i64 x.2.1,.string x.2.2.1,.slice q1 q2 q3,.string (eH x)]):=qV.range
      obtain ⟨Wb,kg⟩:∃ W,W=w7.alloc (.cells #[.string x.1,.int .i64 x.2.1,.string x.2.2.1,.slice q1 q2 q3,.string (eH x)] 59):=⟨_,rfl⟩
      have mI:Below w7.heap.size w7 Wb:=by rw [kg];go_grown
      have oW:Hid (Wb=w7.alloc (.cells #[.string x.1,.int .i64 x.2.1,.string x.2.2.1,.slice q1 q2 q3,.string (eH x)] 59)):=kg
      have acM:w.heap.size<=w7.heap.size:=mQ.below.size
      have ib:Hid (Row ai 5 (fun b=>b<w.heap.size) w Wb 59 (.slice a1 n1 k1) (bJ NL (Q.take k) [])):=mQ.on ai.ae mI
      have jo:Hid (Src ai 5 (fun b=>b<w.heap.size/\(Value.slice a1 n1 k1).ownBlock≠some b) Wb (some ⟨w7.heap.size,0,none⟩) 1 [x]):=P6 ai.ae (cs:=[.string x.1,.int .i64 x.2.1,.string x.2.2.1,.slice q1 q2 q3,.string (eH x)]) (by rw [kg];exact af.new w7 59 _) (ai.ae.weak (ai.ae.kept rV (Kept.below mI)) (fun b _ hb=>⟨hb,fun e=>by have h1:=rX.out b e;have h2:=Hs.out.2.2.1;omega⟩))
      have cX:=(qx.2 7 _ rfl).1
      have jQ:Hid (((bJ NL (Q.take k) []).length+[x].length)*80<=140737488355328):=by have h1:=fK.out;have h2:=hbn.out;rw [Hid,List.length_singleton];omega
      have NV:Hid (af Wb X [.slice la ln lc,.slice ca cn cc,.map (some mc),.slice va vn vc,.map (some mv),.slice ka kn kc,.map (some mk),.slice a1 n1 k1,.slice none 0 0]/\Kept (fun b=>b<w2.heap.size/\b≠X) w2 Wb):=⟨qx.on mI,kw.trans (Kept.below mI)⟩
      have HT2:Hid (bJ NL (Q.take k) []++[x]=bJ NL (Q.take (k+1)) []):=by rw [Hid,HT.out,hh.out];rfl
      have HX7:Hid (X<w7.heap.size):=qx.1
      clear qx mQ kw qV rV hh HT kg mI fK N8
      generalize bJ NL (Q.take k) []=N at ib jQ HT2
      generalize x.1=p0 at HX0 hi oW
      generalize x.2.1=p1 at HX0 hi oW
      generalize x.2.2.1=p2 at HX0 hi oW
      generalize eH x=p4 at HX0 hi oW
      go_upto_region 7 with (first | (refine wpList_load_mid rfl 59 _ rfl wr.heap.size 0 rfl [.string p0,.int .i64 p1,.string p2,.slice q1 q2 q3,.string p4] _ HX0.out underlying59 rfl hi ?_) | (at_builtin;refine kF oW.out ?_;go_must (refine ui ai.ae (A:=fun b=>b<w.heap.size) (w0:=w) rfl _ _ 169 59 rfl _ 80 LX underlying169 rfl (by decide) (by decide) (.slice a1 n1 k1) N rfl ib.out (some ⟨w7.heap.size,0,none⟩) 1 1 [x] rfl jo.out jQ.out ?_);intro v7 u7 jG jR hw7;obtain ⟨a7,n7,c7,rfl⟩:=jG.head;have qz:=NV.out.1.kept (A:=fun b=>b=X) (Kept.grown jR (fun b e h=>by have h1:=rX.out b e;have h2:=Hs.out.2.1;omega)) rfl;have t7:=(qz.2 7 _ rfl).1;have f7:=(qz.2 7 _ rfl).2;have aba:X<u7.heap.size:=qz.1) | fail)
      obtain ⟨Z,hZ⟩:∃ Z,Z=u7.setCell ⟨X,7,none⟩ (.slice a7 n7 c7):=⟨_,rfl⟩
      rw [<- hZ]
      have lG:=Hs.out
      have ji:Hid (∃ lv,af Z X [.slice la ln lc,.slice ca cn cc,.map (some mc),.slice va vn vc,.map (some mv),.slice ka kn kc,.map (some mk),lv,.slice none 0 0]/\Row ai 5 (fun b=>b<w.heap.size) w Z 59 lv (bJ NL (Q.take (k+1)) [])/\(∀ b,lv.ownBlock=some b->w2.heap.size<=b)/\Kept (fun b=>b<w2.heap.size/\b≠X) w2 Z):=by
       have R3:∀ b,(Value.slice a7 n7 c7).ownBlock=some b->w2.heap.size<=b:=fun b hb=>by
        rcases hw7 with h7 | h7
        ·exact rX.out b (h7 ▸ hb)
        ·rw [h7] at hb
         injection hb with hb
         have h2:=NV.out.2.1
         omega
       refine ⟨.slice a7 n7 c7,by rw [hZ];exact qz.set 7 _ (by simp),?_,R3,?_⟩
       ·rw [<- HT2.out,hZ]
        refine jG.bO ai.ae (jG.below.setCell (p:=⟨X,7,none⟩) lG.1 _) (Kept.set (p:=⟨X,7,none⟩) (fun hb=>?_) _)
        rcases hb with hb | hb
        ·have h2:X<w.heap.size:=hb
         omega
        ·have h2:=R3 X hb
         omega
       ·rw [hZ]
        refine (NV.out.2.trans (Kept.grown jR (fun b e h=>?_))).trans (Kept.set (p:=⟨X,7,none⟩) (fun h=>h.2 rfl) _)
        have h1:=rX.out b e
        have h2:=h.1
        omega
      clear hZ qz t7 f7 aba jG jR hw7 ib jo jQ NV HT2 HX7 HX0 oW cX lG rX
      go_wp2_with fail
      go_roundw
      case rel=>exact ⟨k+1,by omega,by go_num,ji⟩
      case measure=>simp [intOf];omega
   ·have htk:Q.take k=Q:=List.take_of_length_le (by rw [hbn.out];omega)
    rw [htk] at mQ
    obtain ⟨a1,n1,k1,rfl⟩:=mQ.head
    obtain ⟨Z,hZ⟩:∃ Z,Z=wr.setCells (w.heap.size+1) 0 [.slice la ln lc,.slice ca cn cc,.map (some mc),.slice va vn vc,.map (some mv),.slice ka kn kc,.map (some mk),.slice a1 n1 k1,.slice none 0 0]:=⟨_,rfl⟩
    have lG:=Hs.out
    have kZ:Kept (fun b=>b≠w.heap.size+1) wr Z:=by rw [hZ];exact dP (fun h=>h rfl)
    have bZ:Below w.heap.size w Z:=by rw [hZ];exact cu mQ.below (by omega)
    have hm0:=Hm0.out
    have Si:=Ud.out
    have qZ:af Z (w.heap.size+1) [.slice la ln lc,.slice ca cn cc,.map (some mc),.slice va vn vc,.map (some mv),.slice ka kn kc,.map (some mk),.slice a1 n1 k1,.slice none 0 0]:=by rw [hZ];exact dL qr rfl
    have HF:Hid (aV Z mc (CL.map Prod.fst)/\aV Z mv (V.map Prod.fst)/\aV Z mk (KL.map Prod.fst)/\Row ai 5 (fun b=>b<w.heap.size) w Z 59 (.slice a1 n1 k1) (bJ NL Q [])/\(∀ b,(Value.slice a1 n1 k1).ownBlock=some b->b≠mc/\b≠mv/\b≠mk)/\w.heap.size<=mc/\w.heap.size<=mv/\w.heap.size<=mk):=⟨nc.kept kZ NG.out.1,nv.kept kZ NG.out.2.1,nk.kept kZ NG.out.2.2,mQ.bO ai.ae bZ (kZ.weak (fun b hb e=>by
     rcases hb with hb | hb
     ·omega
     ·have h2:=po b hb;omega)),fun b hb=>by have h2:=po b hb;exact ⟨by omega,by omega,by omega⟩,hm0⟩
    have AA:Hid (wr.rangeAt X 0 [.slice la ln lc,.slice ca cn cc,.map (some mc),.slice va vn vc,.map (some mv),.slice ka kn kc,.map (some mk),.slice a1 n1 k1,.slice none 0 0]):=qx.range
    have eP:Hid (wr.there (w.heap.size+1) 0 (#[.slice la ln lc,.slice ca cn cc,.map (some mc),.slice va vn vc,.map (some mv),.slice ka kn kc,.map (some mk),.slice a1 n1 k1,.slice none 0 0]:Array Value).size):=qr.there
    have HWZ:Hid (Z=wr.setCells (w.heap.size+1) 0 (#[.slice la ln lc,.slice ca cn cc,.map (some mc),.slice va vn vc,.map (some mv),.slice ka kn kc,.map (some mk),.slice a1 n1 k1,.slice none 0 0]:Array Value).toList):=by rw [Hid,hZ]
    have mO:Hid ((#[.slice la ln lc,.slice ca cn cc,.map (some mc),.slice va vn vc,.map (some mv),.slice ka kn kc,.map (some mk),.slice a1 n1 k1,.slice none 0 0]:Array Value).all (·.oneCell')=true):=by rw [Hid];simp [Value.oneCell']
    have t0':=(qZ.2 0 _ rfl).1
    have t1':=(qZ.2 1 _ rfl).1
    have t2':=(qZ.2 2 _ rfl).1
    have rG:=(qZ.2 3 _ rfl).1
    have rF:=(qZ.2 4 _ rfl).1
    have rE:=(qZ.2 5 _ rfl).1
    have QF:=(qZ.2 6 _ rfl).1
    have t7':=(qZ.2 7 _ rfl).1
    have t8':=(qZ.2 8 _ rfl).1
    clear qx mQ po kw rL sL nc nv nk qr htk kZ bZ qZ hZ lG hm0 Si HW HB1 HK Hs Ud Hm0 NG
    go_wp2_with (first | (refine wpList_load_mid rfl 171 _ rfl X 0 rfl [.slice la ln lc,.slice ca cn cc,.map (some mc),.slice va vn vc,.map (some mv),.slice ka kn kc,.map (some mk),.slice a1 n1 k1,.slice none 0 0] _ AA.out underlying171 rfl yX ?_) | (refine wpList_store_mid rfl 171 _ _ rfl (w.heap.size+1) 0 #[.slice la ln lc,.slice ca cn cc,.map (some mc),.slice va vn vc,.map (some mv),.slice ka kn kc,.map (some mk),.slice a1 n1 k1,.slice none 0 0] rfl rfl eP.out yX mO.out ?_;refine kF HWZ.out ?_) | fail)
    refine bodyPost_ret (v:=.agg #[.slice la ln lc,.slice ca cn cc,.map (some mc),.slice va vn vc,.map (some mv),.slice ka kn kc,.map (some mk),.slice a1 n1 k1,.slice none 0 0]) (by simp [results,Tryz.results78,go_sem,t0',t1',t2',rG,rF,rE,QF,t7',t8',Result.andThen]) rfl ?_
    exact ⟨mc,mv,mk,a1,n1,k1,rfl,HF.out⟩
end Go.Proofs.YtgikfenllgldoaaGreat
