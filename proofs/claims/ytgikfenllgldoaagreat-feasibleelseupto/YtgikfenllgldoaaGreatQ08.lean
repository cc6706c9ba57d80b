/- Functions of the program, each walked under the conditions that its theorem names. -/
import Derived.Test.YtgikfenllgldoaaGreatQ06
set_option linter.unusedSimpArgs false
set_option maxRecDepth 100000
set_option maxHeartbeats 32000000
namespace Go.Proofs.YtgikfenllgldoaaGreat
open Go.Proofs.Tryz
open Go.RowKit
theorem Jv:(prog.info? 105).map (fun i=>(i.zero,i.size,i.bytes))=some (some (.agg #[.slice none 0 0,.string ⟨#[]⟩]),2,40):=by kernel_rfl
def TmS (w:World) (D off k:Nat) (h:Hd) (s:ByteArray) (u:World):Prop :=
 Below w.heap.size w u/\u.cell? ⟨D,off+k*2,none⟩=some (.slice h.1 h.2.1 h.2.2)/\u.cell? ⟨D,off+k*2+1,none⟩=some (.string s)
theorem Ya (a:Option Addr) (n cap:Nat) (A:Where) (L:List bP) (w:World) (hL:Hid (ag bT 2 40 A w a n cap L)):Calls prog 26 #[.slice a n cap] w fun e w'=>∃ a' cap',e=.returned (.slice a' n cap')/\ag bT 2 40 (az w) w' a' n cap' L/\Below w.heap.size w w':=by
 have hlen:=hL.out.len (by decide)
 have hn:Hid (L.length=n):=hL.out.1
 have hbb:Hid (n*40<=140737488351232):=hL.out.2.2.2.1
 have jq:Hid (Row bT 2 (az w) w (w.alloc (.cells #[] 105)) 105 (.slice (some ⟨w.heap.size,0,none⟩) 0 0) (L.take 0)):=Row.start _ w w _ (Below.refl _ _)
 go_enter func26,ntmps26
 go_wp2_with fail
 go_loopw [3,4] (fun s i wr=>∃ k:Nat,k<=n/\i=.int .i64 k/\Hid (Row bT 2 (az w) w wr 105 s (L.take k))) (fun _ i _=>n - (intOf i).toNat)
 case atStart=>exact ⟨0,Nat.zero_le _,rfl,jq⟩
 case round =>
  obtain ⟨k,hk,rfl,hrow⟩:=hrel
  by_cases hlt:k<n
  ·have hltz:(k:Int)<(n:Int):=by omega
   have hkl:Hid (k<L.length):=by rw [Hid,hn.out];exact hlt
   have hbw:Below w.heap.size w wr:=hrow.out.below
   obtain ⟨D,off,rfl,hD,_,cs,hr,hv⟩:=hL.out.get hlt
   obtain ⟨h0,rfl,hT,hs⟩:=hr.out
   have d0:=hv 0 _ rfl
   have d1:=hv 1 _ rfl
   rw [Nat.add_zero] at d0
   have HT:Hid (L.take k++[L.getD k default]=L.take (k+1)):=nH hkl.out
   have HS:Hid (∀ {u:World},Below w.heap.size w u->TmS w D off k h0 (L.getD k default).2 u):=fun hb=>⟨hb,(hb.cell hD).trans d0,(hb.cell hD).trans d1⟩
   have HC:=Bf h0.1 h0.2.1 h0.2.2 A (L.getD k default).1 wr.drew (hT.on aU.ae hbw.drew)
   have gU:Hid (((L.take k).length+1)*40<=140737488355328):=by
    have:=qC hbb.out hlt
    rw [Hid,List.length_take,hn.out,Nat.min_eq_left (by omega)]
    exact this
   clear hr hT hv d0 d1
   generalize L.getD k default=x at hs HT HS HC
   go_wp2_with fail
   refine wp_region_noPanic ?_
   refine wp_region_held_drew (S:=TmS w D off k h0 x.2) (by kernel_rfl) (HS.out hbw.drew) (fun gH=>?_)
   refine wpAnyH_take (i:=0) (v:=?v0) rfl (by kernel_rfl) (by kernel_rfl) (by kernel_rfl) (fun _ _ _ h=>h) (Or.inl ⟨by rfl,?hy0⟩) (by assumption) ?Vl
   case hy0=>(intro u hu;obtain ⟨_,_,_⟩:=hu;go_simp;try with_reducible rfl)
   try simp only [Act.put,List.setIfInBounds_toArray,List.set_cons_zero,List.set_cons_succ,List.getElem_toArray,List.getElem_cons_zero,List.getElem_cons_succ]
   refine wpAnyH_take (i:=1) (v:=?v1) rfl (by kernel_rfl) (by kernel_rfl) (by kernel_rfl) (fun _ _ _ h=>h) (Or.inl ⟨by rfl,?hy1⟩) (by assumption) ?Vk
   case hy1=>(intro u hu;obtain ⟨_,_,_⟩:=hu;go_simp;try with_reducible rfl)
   try simp only [Act.put,List.setIfInBounds_toArray,List.set_cons_zero,List.set_cons_succ,List.getElem_toArray,List.getElem_cons_zero,List.getElem_cons_succ]
   refine wpAnyH_take (i:=2) (v:=?v2) rfl (by kernel_rfl) (by kernel_rfl) (by kernel_rfl) (fun _ _ _ h=>h) (Or.inl ⟨by rfl,?hy2⟩) (by assumption) ?ab9
   case hy2=>(intro u hu;obtain ⟨_,_,_⟩:=hu;go_simp;try with_reducible rfl)
   try simp only [Act.put,List.setIfInBounds_toArray,List.set_cons_zero,List.set_cons_succ,List.getElem_toArray,List.getElem_cons_zero,List.getElem_cons_succ]
   refine wpAnyH_take (i:=3) (v:=?v3) rfl (by kernel_rfl) (by kernel_rfl) (by kernel_rfl) (fun _ _ _ h=>h) (Or.inl ⟨by rfl,?hy3⟩) (by assumption) ?Vj
   case hy3=>(intro u hu;obtain ⟨_,_,_⟩:=hu;go_simp;try with_reducible rfl)
   try simp only [Act.put,List.setIfInBounds_toArray,List.set_cons_zero,List.set_cons_succ,List.getElem_toArray,List.getElem_cons_zero,List.getElem_cons_succ]
   refine wpAnyH_take (i:=4) (v:=?v4) rfl (by kernel_rfl) (by kernel_rfl) (by kernel_rfl) (fun _ _ _ h=>h) (Or.inl ⟨by rfl,?hy4⟩) (by assumption) ?Vi
   case hy4=>(intro u hu;obtain ⟨_,_,_⟩:=hu;go_simp;try with_reducible rfl)
   try simp only [Act.put,List.setIfInBounds_toArray,List.set_cons_zero,List.set_cons_succ,List.getElem_toArray,List.getElem_cons_zero,List.getElem_cons_succ]
   refine wpAnyH_take (i:=5) (v:=?v5) rfl (by kernel_rfl) (by kernel_rfl) (by kernel_rfl) (fun _ _ _ h=>h) (Or.inl ⟨by rfl,?hy5⟩) (by assumption) ?Vh
   case hy5=>(intro u hu;obtain ⟨_,_,_⟩:=hu;go_simp;try with_reducible rfl)
   try simp only [Act.put,List.setIfInBounds_toArray,List.set_cons_zero,List.set_cons_succ,List.getElem_toArray,List.getElem_cons_zero,List.getElem_cons_succ]
   refine wpAnyH_take (i:=7) (v:=?v7) rfl (by kernel_rfl) (by kernel_rfl) (by kernel_rfl) (fun _ _ _ h=>h) (Or.inl ⟨by rfl,?hy7⟩) (by assumption) ?ab8
   case hy7=>(intro u hu;obtain ⟨_,_,_⟩:=hu;go_simp;try with_reducible rfl)
   try simp only [Act.put,List.setIfInBounds_toArray,List.set_cons_zero,List.set_cons_succ,List.getElem_toArray,List.getElem_cons_zero,List.getElem_cons_succ]
   refine wpAnyH_take (i:=8) (v:=?v8) rfl (by kernel_rfl) (by kernel_rfl) (by kernel_rfl) (fun _ _ _ h=>h) (Or.inl ⟨by rfl,?hy8⟩) (by assumption) ?ab7
   case hy8=>(intro u hu;obtain ⟨_,_,_⟩:=hu;go_simp;try with_reducible rfl)
   try simp only [Act.put,List.setIfInBounds_toArray,List.set_cons_zero,List.set_cons_succ,List.getElem_toArray,List.getElem_cons_zero,List.getElem_cons_succ]
   refine wpAnyH_take (i:=9) (v:=?v9) rfl (by kernel_rfl) (by kernel_rfl) (by kernel_rfl) (fun _ _ _ h=>h) (Or.inl ⟨by rfl,?hy9⟩) (by assumption) ?ab6
   case hy9=>(intro u hu;obtain ⟨_,_,_⟩:=hu;go_simp;try with_reducible rfl)
   try simp only [Act.put,List.setIfInBounds_toArray,List.set_cons_zero,List.set_cons_succ,List.getElem_toArray,List.getElem_cons_zero,List.getElem_cons_succ]
   refine wpAnyH_take (i:=10) (v:=?v10) rfl (by kernel_rfl) (by kernel_rfl) (by kernel_rfl) (fun _ _ _ h=>h) (Or.inl ⟨by rfl,?hy10⟩) (by assumption) ?ab3
   case hy10=>(intro u hu;obtain ⟨_,_,_⟩:=hu;go_simp;try with_reducible rfl)
   try simp only [Act.put,List.setIfInBounds_toArray,List.set_cons_zero,List.set_cons_succ,List.getElem_toArray,List.getElem_cons_zero,List.getElem_cons_succ]
   refine wpAnyH_take (i:=11) (v:=?v11) rfl (by kernel_rfl) (by kernel_rfl) (by kernel_rfl) (fun _ _ _ h=>h) (Or.inl ⟨by rfl,?hy11⟩) (by assumption) ?ab2
   case hy11=>(intro u hu;obtain ⟨_,_,_⟩:=hu;go_simp;try with_reducible rfl)
   try simp only [Act.put,List.setIfInBounds_toArray,List.set_cons_zero,List.set_cons_succ,List.getElem_toArray,List.getElem_cons_zero,List.getElem_cons_succ]
   refine wpAnyH_ready (rs:=[6]) (by kernel_rfl) (by simp) ?_
   refine AllReadyH.cons rfl (fun K hK=>?_) AllReadyH.nil
   go_simp
   refine (HC).mono ?_
   rintro e w5 ⟨a5,c5,rfl,hS5,hb5⟩
   have hb6:Below wr.heap.size wr (w5.alloc (.cells #[.slice a5 h0.2.1 c5,.string x.2] 105)):=((Below.refl _ wr).drew.trans (hb5.mono (Nat.le_refl _))).alloc hb5.size _
   have ku:=hrow.out.on bT.ae hb6
   have HE:bT (fun b=>az w b/\Value.ownBlock u3≠some b) (w5.alloc (.cells #[.slice a5 h0.2.1 c5,.string x.2] 105)) [.slice a5 h0.2.1 c5,.string x.2] x:=bT.mk (h0:=(a5,h0.2.1,c5)) ((hS5.kept aU.ae (Kept.alloc _ _ _)).weak aU.ae (fun b _ hb=>hrow.out.apart (u':=wr.drew) (Nat.le_refl _) b hb)) hs
   have gV:=nJ bT.ae HE
   have HX:=nY w5 [.slice a5 h0.2.1 c5,.string x.2] 105
   go_wp2_with fail
   refine hK.out _ _ (HS.out (ah gH.1 hb5)) (fun gI=>?_)
   clear hK K gH
   have gH:=gI
   clear gI
   try simp only [Act.put,List.setIfInBounds_toArray,List.set_cons_zero,List.set_cons_succ,List.getElem_toArray,List.getElem_cons_zero,List.getElem_cons_succ]
   refine wpAnyH_take (i:=12) (v:=?v12) rfl (by kernel_rfl) (by kernel_rfl) (by kernel_rfl) (fun _ _ _ h=>h) (Or.inl ⟨by rfl,?hy12⟩) (by assumption) ?ab1
   case hy12=>(intro u hu;obtain ⟨_,_,_⟩:=hu;go_simp;try with_reducible rfl)
   try simp only [Act.put,List.setIfInBounds_toArray,List.set_cons_zero,List.set_cons_succ,List.getElem_toArray,List.getElem_cons_zero,List.getElem_cons_succ]
   refine wpAnyH_ready (rs:=[13]) (by kernel_rfl) (by simp) ?_
   refine AllReadyH.cons rfl (fun K hK=>?_) AllReadyH.nil
   go_simp
   refine hK.out _ _ (HS.out (ah gH.1 ((Below.refl _ _).alloc (Nat.le_refl _) _))) (fun gI=>?_)
   clear hK K gH
   have gH:=gI
   clear gI
   try simp only [Act.put,List.setIfInBounds_toArray,List.set_cons_zero,List.set_cons_succ,List.getElem_toArray,List.getElem_cons_zero,List.getElem_cons_succ]
   refine wpAnyH_ready (rs:=[14]) (by kernel_rfl) (by simp) ?_
   refine AllReadyH.cons rfl (fun K hK=>?_) AllReadyH.nil
   refine xO bT.ae (A:=az w) (w0:=w) _ _ 37 105 rfl _ 40 Jv underlying37 rfl (by decide) (by decide) u3 (L.take k) rfl ku ⟨w5.heap.size,0,none⟩ 1 1 _ [x] rfl rfl gV HX (by simp [Value.oneCell']) gU.out ?_
   intro v6 w6 vC Gi
   refine hK.out _ _ (HS.out vC.below) (fun gI=>?_)
   clear hK K gH
   have gH:=gI
   clear gI
   try simp only [Act.put,List.setIfInBounds_toArray,List.set_cons_zero,List.set_cons_succ,List.getElem_toArray,List.getElem_cons_zero,List.getElem_cons_succ]
   refine wpAnyH_take (i:=15) (v:=?v15) rfl (by kernel_rfl) (by kernel_rfl) (by kernel_rfl) (fun _ _ _ h=>h) (Or.inl ⟨by rfl,?hy15⟩) (by assumption) ?ab0
   case hy15=>(intro u hu;obtain ⟨_,_,_⟩:=hu;go_simp;try with_reducible rfl)
   try simp only [Act.put,List.setIfInBounds_toArray,List.set_cons_zero,List.set_cons_succ,List.getElem_toArray,List.getElem_cons_zero,List.getElem_cons_succ]
   refine wpAnyH_done (by kernel_rfl) ?_ _
   refine NoPanic.normal ?_
   rw [HT.out] at vC
   have RZ:Hid (Row bT 2 (az w) w w6 105 v6 (L.take (k+1))):=vC
   go_wp2_with fail
   go_roundw
   case rel=>exact ⟨k+1,by omega,by go_num,RZ⟩
   case measure=>simp [intOf];omega
  ·have hk':L.take k=L:=List.take_of_length_le (by rw [hn.out];omega)
   obtain ⟨a',cap',e1,h2⟩:=hrow.out.lD (bytes:=40) bT.ae (by rw [hk',hn.out];exact hbb.out)
   rw [hk',hn.out] at e1 h2
   have ou:=hrow.out.below
   have h2':Hid (ag bT 2 40 (az w) wr a' n cap' L):=h2
   clear h2 hrow
   subst e1
   go_wp2_with fail
   go_ret
   exact ⟨a',cap',rfl,h2'.out,ou⟩
theorem kF {P:Program} {ops:Array Oper} {Q:Exit->Act->World->Prop} {rest:List Oper} {a:Act} {u W:World} (h:W=u) (k:wpList P ops Q rest a W):wpList P ops Q rest a u:=h ▸ k
theorem dL {u:World} {D:Nat} {zs cs:List Value} (hb:af u D zs) (hl:zs.length=cs.length):af (u.setCells D 0 cs) D cs:=by
 have hth:u.there D 0 cs.length:=hl ▸ hb.there
 have hr:=World.rangeAt_setCells_same u D 0 cs hth
 have ht2:=World.there_setCells hth D 0 cs
 refine ⟨Nat.lt_of_lt_of_le hb.1 (dP (A:=fun _=>False) (b:=D) (fun h=>h) (vs:=cs) (o:=0) (u:=u)).1,fun j v hj=>?_⟩
 have h1:=hr j v hj
 have h2:=(ht2 j (List.getElem?_eq_some_iff.1 hj).1).2
 rw [Nat.zero_add] at h1 h2
 exact ⟨h1,h2⟩
theorem Fb {a c:ByteArray} {b d:Bool} (h:a=c/\b=d):Ending.returned (.tuple #[.string a,.bool b])=.returned (.tuple #[.string c,.bool d]):=by rw [h.1,h.2]
theorem O9 {L:List aG} {key:ByteArray} (h:∀ j,j<L.length->ay (L.getD j default).1 key=false):getL L key=(default,false):=by
 have:L.find? (fun x=>ay x.1 key)=none:=by
  rw [List.find?_eq_none]
  intro x hx
  obtain ⟨j,hj,rfl⟩:=List.mem_iff_getElem.1 hx
  have:=h j hj
  rw [List.getD_eq_getElem?_getD,List.getElem?_eq_getElem hj] at this
  simpa using this
 simp only [getL,this]
theorem J3 {L:List aG} {key:ByteArray} {k:Nat} (hk:k<L.length) (h:∀ j,j<k->ay (L.getD j default).1 key=false) (hy:ay (L.getD k default).1 key=true):getL L key=((L.getD k default).2,true):=by
 have:L.find? (fun x=>ay x.1 key)=some (L.getD k default):=by
  rw [List.getD_eq_getElem?_getD,List.getElem?_eq_getElem hk] at hy |-
  rw [List.find?_eq_some_iff_getElem]
  refine ⟨hy,k,hk,rfl,fun j hj=>?_⟩
  have:=h j hj
  rw [List.getD_eq_getElem?_getD,List.getElem?_eq_getElem (by omega)] at this
  simpa using this
 simp only [getL,this]
theorem wJ (a:Option Addr) (cap:Nat) (L:List aG) (key:ByteArray) (w:World) (hL:Hid (fw w a L)):Calls prog 111 #[.slice a L.length cap,.string key] w fun e w'=>e=.returned (.tuple #[.string (getL L key).1,.bool (getL L key).2])/\Below w.heap.size w w':=by
 have hlen:=hL.out.1
 go_enter func111,ntmps111
 go_wp2
 go_loopw [10] (fun i wr=>∃ k:Nat,k<=L.length/\i=.int .i64 k/\Below w.heap.size w wr/\Hid (∀ j,j<k->ay (L.getD j default).1 key=false)) (fun i _=>L.length - (intOf i).toNat)
 case atStart=>exact ⟨0,Nat.zero_le _,rfl,Below.refl _ _,fun j hj=>absurd hj (Nat.not_lt_zero _)⟩
 case round =>
  obtain ⟨k,hk,rfl,hbel,hall⟩:=hrel
  by_cases hlt:k<L.length
  ·obtain ⟨B,off,rfl,hB,c0,c1,s0,s1⟩:=hL.out.get hlt
   have d0:=(hbel.cell (p:=⟨B,off+k*2,none⟩) hB).trans c0
   have d1:=(hbel.cell (p:=⟨B,off+k*2+1,none⟩) hB).trans c1
   clear c0 c1
   cases hv:ay (L.getD k default).1 key
   ·have HG:Hid (∀ j,j<k+1->ay (L.getD j default).1 key=false):=fun j hj=>by
     rcases Nat.lt_succ_iff_lt_or_eq.1 hj with h | rfl
     ·exact hall.out j h
     ·exact hv
    unfold ay at hv
    clear hall
    generalize L.getD k default=x at hv d0 d1 s0 s1
    go_wp2
    go_roundw
    case rel=>exact ⟨k+1,by omega,by go_num,ah hbel (by go_grown),HG⟩
    case measure=>simp [intOf];omega
   ·have HF:Hid (getL L key=((L.getD k default).2,true)):=J3 hlt hall.out hv
    unfold ay at hv
    clear hall
    generalize L.getD k default=x at hv d0 d1 s0 s1 HF
    go_wp2
    go_ret2
    exact ⟨Fb (by rw [HF.out];exact ⟨rfl,rfl⟩),ah hbel (by go_grown)⟩
  ·have HF:Hid (getL L key=(default,false)):=O9 (fun j hj=>hall.out j (by omega))
   go_wp2
   go_ret2
   exact ⟨Fb (by rw [HF.out];exact ⟨rfl,rfl⟩),hbel⟩
abbrev CX (lo hi:Nat):Where:=fun b=>lo<=b/\b<hi
section
variable {α:Type} [Inhabited α] {R:bI α} {k:Nat}
def iP (R:bI α) (k:Nat) (lo hi:Nat) (u:World) (e:TypeId) (v:Value) (L:List α):Prop :=
 ∃ xs,u.ownsRow lo e k v L.length xs/\aW R k (fun b=>CX lo hi b/\v.ownBlock≠some b) u xs L/\∀ b,v.ownBlock=some b->CX lo hi b
theorem iP.of (hR:aJ R k) {X u:World} {e:TypeId} {v:Value} {L:List α} (h:Row R k (az X) X u e v L):iP R k X.heap.size u.heap.size u e v L:=by
 obtain ⟨xs,h1,h2⟩:=h
 exact ⟨xs,h1.2,h2.weak hR (fun b hb h=>⟨⟨h.1,hb⟩,h.2⟩),fun b hb=>h1.2.lt b hb⟩
theorem iP.kept (hR:aJ R k) {lo hi:Nat} {u u':World} {e:TypeId} {v:Value} {L:List α} (h:iP R k lo hi u e v L) (hk:Kept (CX lo hi) u u'):iP R k lo hi u' e v L:=by
 obtain ⟨xs,h1,h2,h3⟩:=h
 refine ⟨xs,?_,h2.kept hR ⟨hk.1,fun b ha hb=>hk.2 b ha.1 hb⟩,h3⟩
 obtain ⟨hl,h0 | ⟨g,cap,cur,rfl,hg,hh,r⟩⟩:=h1
 ·exact ⟨hl,.inl h0⟩
 ·exact ⟨hl,.inr ⟨g,cap,cur,rfl,hg,(hk.2 g (h3 g rfl) (Array.getElem?_eq_some_iff.1 hh).1).trans hh,r⟩⟩
theorem iP.sl (hR:aJ R k) {bytes lo hi:Nat} {u:World} {e:TypeId} {v:Value} {L:List α} (h:iP R k lo hi u e v L) (hb:L.length*bytes<=140737488351232):∃ a cap,v=.slice a L.length cap/\ag R k bytes (CX lo hi) u a L.length cap L:=by
 obtain ⟨xs,h1,h2,h3⟩:=h
 obtain ⟨a,cap,e1,h4⟩:=yZ (bytes:=bytes) hR h1 h2 hb
 refine ⟨a,cap,e1,h4.weak hR (fun b _ hb=>?_)⟩
 rcases hb with hb | hb
 ·exact hb.1
 ·exact h3 b hb
theorem iP.row {lo hi:Nat} {w0 u:World} {e:TypeId} {v:Value} {L:List α} (h:iP R k lo hi u e v L) (hb:Below w0.heap.size w0 u) (hl:w0.heap.size<=lo):Row R k (CX lo hi) w0 u e v L:=by
 obtain ⟨xs,h1,h2,_⟩:=h
 exact ⟨xs,⟨hb,Go.Joins.ownsRow_le h1 hl⟩,h2⟩
theorem dE.dX {W u:World} {G:World->Prop} (hG:dE W G) (hg:G u) (hR:aJ R k) {lo hi:Nat} {e:TypeId} {v:Value} {L:List α} (h:iP R k lo hi u e v L) (hlo:W.heap.size<=lo) (hhi:hi<=u.heap.size) :
  ∃ G',dE W G'/\G' u/\(∀ z,G' z->G z)/\∀ z,G' z->iP R k lo hi z e v L/\hi<=z.heap.size :=
 ⟨fun z=>G z/\iP R k lo hi z e v L/\hi<=z.heap.size,fun z z' h hk=>⟨hG z z' h.1 hk,h.2.1.kept hR ⟨hk.1,fun b ha hb=>hk.2 b (Nat.le_trans hlo ha.1) hb⟩,Nat.le_trans h.2.2 hk.1⟩,⟨hg,h,hhi⟩,fun _ h=>h.1,fun _ h=>h.2⟩
end
structure H9 (w0 u:World) (c0 c1 c2 c3 c4 c5 d0 d1 d2 d3 d4 d5:Nat) (v0 v1 v2 v3 v4 v5:Value) (x:aP):Prop where
 f:w0.heap.size<=c0
 o:c0<=d0/\d0<=c1/\c1<=d1/\d1<=c2/\c2<=d2/\d2<=c3/\c3<=d3/\d3<=c4/\c4<=d4/\d4<=c5/\c5<=d5
 p:iP aj 16 c0 d0 u 41 v0 x.1
 n:iP av 9 c1 d1 u 56 v1 x.2.1
 v:iP ai 5 c2 d2 u 59 v2 x.2.2.1
 c:iP aA 4 c3 d3 u 124 v3 x.2.2.2.1
 k:iP aH 2 c4 d4 u 180 v4 x.2.2.2.2.1
 b:iP aI 3 c5 d5 u 62 v5 x.2.2.2.2.2
def Nl (w:World) (x:aP) (e:Ending) (w':World):Prop:=∃ c0 c1 c2 c3 c4 c5 d0 d1 d2 d3 d4 d5 v0 v1 v2 v3 v4 v5,e=.returned (.agg #[v0,v1,v2,v3,v4,v5])/\H9 w w' c0 c1 c2 c3 c4 c5 d0 d1 d2 d3 d4 d5 v0 v1 v2 v3 v4 v5 x/\d5<=w'.heap.size/\aK (az w) w' [v0,v1,v2,v3,v4,v5] x/\Below w.heap.size w w'
theorem FX:(prog.info? 222).map (fun i=>(i.zero,i.size,i.bytes))=some (some (.agg #[.string ⟨#[]⟩,.string ⟨#[]⟩,.int .i64 0]),3,40):=by kernel_rfl
theorem Ic (cs:List Value) (A:Where) (x:aX) (w:World) (h:Hid (av A w cs x)):Calls prog 11 #[.agg cs.toArray] w fun e w'=>∃ cs',e=.returned (.agg cs'.toArray)/\av (az w) w' cs' x/\Below w.heap.size w w':=by
 obtain ⟨h1,⟨a2,n2,m2⟩,rfl,p0,p1,p2⟩:=h.out.out
 simp only at p2 |-
 clear h
 have hb0:Below w.heap.size w (((w.alloc (.cells #[.string x.1,.slice h1.1 h1.2.1 h1.2.2,.slice a2 n2 m2,.bool x.2.2.2.1,.int .i64 x.2.2.2.2.1.1,.int .i64 x.2.2.2.2.1.2.1,.int .i64 x.2.2.2.2.1.2.2,.int .i64 x.2.2.2.2.2.1,.int .i64 x.2.2.2.2.2.2] 56)).alloc (.cells #[.string ⟨#[]⟩,.slice none 0 0,.slice none 0 0,.bool false,.int .i64 0,.int .i64 0,.int .i64 0,.int .i64 0,.int .i64 0] 56)).alloc (.cells #[.string x.1,.slice h1.1 h1.2.1 h1.2.2,.slice a2 n2 m2,.bool x.2.2.2.1,.int .i64 x.2.2.2.2.1.1,.int .i64 x.2.2.2.2.1.2.1,.int .i64 x.2.2.2.2.1.2.2,.int .i64 x.2.2.2.2.2.1,.int .i64 x.2.2.2.2.2.2] 56)):=by go_grown
 have hB2:af (((w.alloc (.cells #[.string x.1,.slice h1.1 h1.2.1 h1.2.2,.slice a2 n2 m2,.bool x.2.2.2.1,.int .i64 x.2.2.2.2.1.1,.int .i64 x.2.2.2.2.1.2.1,.int .i64 x.2.2.2.2.1.2.2,.int .i64 x.2.2.2.2.2.1,.int .i64 x.2.2.2.2.2.2] 56)).alloc (.cells #[.string ⟨#[]⟩,.slice none 0 0,.slice none 0 0,.bool false,.int .i64 0,.int .i64 0,.int .i64 0,.int .i64 0,.int .i64 0] 56)).alloc (.cells #[.string x.1,.slice h1.1 h1.2.1 h1.2.2,.slice a2 n2 m2,.bool x.2.2.2.1,.int .i64 x.2.2.2.2.1.1,.int .i64 x.2.2.2.2.1.2.1,.int .i64 x.2.2.2.2.1.2.2,.int .i64 x.2.2.2.2.2.1,.int .i64 x.2.2.2.2.2.2] 56)) (w.heap.size+1) [.string ⟨#[]⟩,.slice none 0 0,.slice none 0 0,.bool false,.int .i64 0,.int .i64 0,.int .i64 0,.int .i64 0,.int .i64 0]:=by
  have:=((af.new (w.alloc (.cells #[.string x.1,.slice h1.1 h1.2.1 h1.2.2,.slice a2 n2 m2,.bool x.2.2.2.1,.int .i64 x.2.2.2.2.1.1,.int .i64 x.2.2.2.2.1.2.1,.int .i64 x.2.2.2.2.1.2.2,.int .i64 x.2.2.2.2.2.1,.int .i64 x.2.2.2.2.2.2] 56)) 56 [.string ⟨#[]⟩,.slice none 0 0,.slice none 0 0,.bool false,.int .i64 0,.int .i64 0,.int .i64 0,.int .i64 0,.int .i64 0]).on ((Below.refl _ _).alloc (Nat.le_refl _) (.cells #[.string x.1,.slice h1.1 h1.2.1 h1.2.2,.slice a2 n2 m2,.bool x.2.2.2.1,.int .i64 x.2.2.2.2.1.1,.int .i64 x.2.2.2.2.1.2.1,.int .i64 x.2.2.2.2.1.2.2,.int .i64 x.2.2.2.2.2.1,.int .i64 x.2.2.2.2.2.2] 56)))
  simpa using this
 have hB3:af (((w.alloc (.cells #[.string x.1,.slice h1.1 h1.2.1 h1.2.2,.slice a2 n2 m2,.bool x.2.2.2.1,.int .i64 x.2.2.2.2.1.1,.int .i64 x.2.2.2.2.1.2.1,.int .i64 x.2.2.2.2.1.2.2,.int .i64 x.2.2.2.2.2.1,.int .i64 x.2.2.2.2.2.2] 56)).alloc (.cells #[.string ⟨#[]⟩,.slice none 0 0,.slice none 0 0,.bool false,.int .i64 0,.int .i64 0,.int .i64 0,.int .i64 0,.int .i64 0] 56)).alloc (.cells #[.string x.1,.slice h1.1 h1.2.1 h1.2.2,.slice a2 n2 m2,.bool x.2.2.2.1,.int .i64 x.2.2.2.2.1.1,.int .i64 x.2.2.2.2.1.2.1,.int .i64 x.2.2.2.2.1.2.2,.int .i64 x.2.2.2.2.2.1,.int .i64 x.2.2.2.2.2.2] 56)) (w.heap.size+1+1) [.string x.1,.slice h1.1 h1.2.1 h1.2.2,.slice a2 n2 m2,.bool x.2.2.2.1,.int .i64 x.2.2.2.2.1.1,.int .i64 x.2.2.2.2.1.2.1,.int .i64 x.2.2.2.2.1.2.2,.int .i64 x.2.2.2.2.2.1,.int .i64 x.2.2.2.2.2.2]:=by
  have:=af.new ((w.alloc (.cells #[.string x.1,.slice h1.1 h1.2.1 h1.2.2,.slice a2 n2 m2,.bool x.2.2.2.1,.int .i64 x.2.2.2.2.1.1,.int .i64 x.2.2.2.2.1.2.1,.int .i64 x.2.2.2.2.1.2.2,.int .i64 x.2.2.2.2.2.1,.int .i64 x.2.2.2.2.2.2] 56)).alloc (.cells #[.string ⟨#[]⟩,.slice none 0 0,.slice none 0 0,.bool false,.int .i64 0,.int .i64 0,.int .i64 0,.int .i64 0,.int .i64 0] 56)) 56 [.string x.1,.slice h1.1 h1.2.1 h1.2.2,.slice a2 n2 m2,.bool x.2.2.2.1,.int .i64 x.2.2.2.2.1.1,.int .i64 x.2.2.2.2.1.2.1,.int .i64 x.2.2.2.2.1.2.2,.int .i64 x.2.2.2.2.2.1,.int .i64 x.2.2.2.2.2.2]
  simpa using this
 have hB1:af (((w.alloc (.cells #[.string x.1,.slice h1.1 h1.2.1 h1.2.2,.slice a2 n2 m2,.bool x.2.2.2.1,.int .i64 x.2.2.2.2.1.1,.int .i64 x.2.2.2.2.1.2.1,.int .i64 x.2.2.2.2.1.2.2,.int .i64 x.2.2.2.2.2.1,.int .i64 x.2.2.2.2.2.2] 56)).alloc (.cells #[.string ⟨#[]⟩,.slice none 0 0,.slice none 0 0,.bool false,.int .i64 0,.int .i64 0,.int .i64 0,.int .i64 0,.int .i64 0] 56)).alloc (.cells #[.string x.1,.slice h1.1 h1.2.1 h1.2.2,.slice a2 n2 m2,.bool x.2.2.2.1,.int .i64 x.2.2.2.2.1.1,.int .i64 x.2.2.2.2.1.2.1,.int .i64 x.2.2.2.2.1.2.2,.int .i64 x.2.2.2.2.2.1,.int .i64 x.2.2.2.2.2.2] 56)) w.heap.size [.string x.1,.slice h1.1 h1.2.1 h1.2.2,.slice a2 n2 m2,.bool x.2.2.2.1,.int .i64 x.2.2.2.2.1.1,.int .i64 x.2.2.2.2.1.2.1,.int .i64 x.2.2.2.2.1.2.2,.int .i64 x.2.2.2.2.2.1,.int .i64 x.2.2.2.2.2.2]:=(af.new w 56 [.string x.1,.slice h1.1 h1.2.1 h1.2.2,.slice a2 n2 m2,.bool x.2.2.2.1,.int .i64 x.2.2.2.2.1.1,.int .i64 x.2.2.2.2.1.2.1,.int .i64 x.2.2.2.2.1.2.2,.int .i64 x.2.2.2.2.2.1,.int .i64 x.2.2.2.2.2.2]).on (((Below.refl _ _).alloc (Nat.le_refl _) (.cells #[.string ⟨#[]⟩,.slice none 0 0,.slice none 0 0,.bool false,.int .i64 0,.int .i64 0,.int .i64 0,.int .i64 0,.int .i64 0] 56)).alloc (by simp) (.cells #[.string x.1,.slice h1.1 h1.2.1 h1.2.2,.slice a2 n2 m2,.bool x.2.2.2.1,.int .i64 x.2.2.2.2.1.1,.int .i64 x.2.2.2.2.1.2.1,.int .i64 x.2.2.2.2.1.2.2,.int .i64 x.2.2.2.2.2.1,.int .i64 x.2.2.2.2.2.2] 56))
 have hC:=YM h1.1 h1.2.1 h1.2.2 A x.2.1 (((w.alloc (.cells #[.string x.1,.slice h1.1 h1.2.1 h1.2.2,.slice a2 n2 m2,.bool x.2.2.2.1,.int .i64 x.2.2.2.2.1.1,.int .i64 x.2.2.2.2.1.2.1,.int .i64 x.2.2.2.2.1.2.2,.int .i64 x.2.2.2.2.2.1,.int .i64 x.2.2.2.2.2.2] 56)).alloc (.cells #[.string ⟨#[]⟩,.slice none 0 0,.slice none 0 0,.bool false,.int .i64 0,.int .i64 0,.int .i64 0,.int .i64 0,.int .i64 0] 56)).alloc (.cells #[.string x.1,.slice h1.1 h1.2.1 h1.2.2,.slice a2 n2 m2,.bool x.2.2.2.1,.int .i64 x.2.2.2.2.1.1,.int .i64 x.2.2.2.2.1.2.1,.int .i64 x.2.2.2.2.1.2.2,.int .i64 x.2.2.2.2.2.1,.int .i64 x.2.2.2.2.2.2] 56)) (ag.on ak.ae p1 hb0)
 obtain ⟨W3,hW3⟩:∃ W3,W3=(((w.alloc (.cells #[.string x.1,.slice h1.1 h1.2.1 h1.2.2,.slice a2 n2 m2,.bool x.2.2.2.1,.int .i64 x.2.2.2.2.1.1,.int .i64 x.2.2.2.2.1.2.1,.int .i64 x.2.2.2.2.1.2.2,.int .i64 x.2.2.2.2.2.1,.int .i64 x.2.2.2.2.2.2] 56)).alloc (.cells #[.string ⟨#[]⟩,.slice none 0 0,.slice none 0 0,.bool false,.int .i64 0,.int .i64 0,.int .i64 0,.int .i64 0,.int .i64 0] 56)).alloc (.cells #[.string x.1,.slice h1.1 h1.2.1 h1.2.2,.slice a2 n2 m2,.bool x.2.2.2.1,.int .i64 x.2.2.2.2.1.1,.int .i64 x.2.2.2.2.1.2.1,.int .i64 x.2.2.2.2.1.2.2,.int .i64 x.2.2.2.2.2.1,.int .i64 x.2.2.2.2.2.2] 56)):=⟨_,rfl⟩
 have hsz:Hid (W3.heap.size=w.heap.size+1+1+1):=by rw [Hid,hW3];simp
 go_enter func11,ntmps11
 go_wp2_with fail
 rw [<- hW3] at hb0 hB1 hB2 hB3 hC |-
 clear hW3
 refine hC.mono ?_
 rintro e w4 ⟨a4,c4,rfl,kD,hb4⟩
 clear hC
 have zO:w.heap.size+1+1+1<=w4.heap.size:=by have:=hb4.size;rw [hsz.out] at this;exact this
 have hne0:w.heap.size≠w4.heap.size:=by omega
 have hne1:w.heap.size+1≠w4.heap.size:=by omega
 have hne2:w.heap.size+1+1≠w4.heap.size:=by omega
 have l6:w.heap.size<w4.heap.size:=by omega
 obtain ⟨ac4,_⟩:=(hB1.on hb4).2 2 _ rfl
 have k2:=hB2.on hb4
 have k3:=hB3.on hb4
 have HW:=hsz
 have xH:Hid (ag ak 2 32 (az W3) w4 a4 h1.2.1 c4 x.2.1):=kD
 clear hsz kD hB1 hB2 hB3
 have k2':af (w4.setCell ⟨w.heap.size+1+1,1,none⟩ (.slice a4 h1.2.1 c4)) (w.heap.size+1) [.string ⟨#[]⟩,.slice none 0 0,.slice none 0 0,.bool false,.int .i64 0,.int .i64 0,.int .i64 0,.int .i64 0,.int .i64 0]:=k2.other (by simp) _
 have MH:af (w4.setCell ⟨w.heap.size+1+1,1,none⟩ (.slice a4 h1.2.1 c4)) (w.heap.size+1+1) [.string x.1,.slice a4 h1.2.1 c4,.slice a2 n2 m2,.bool x.2.2.2.1,.int .i64 x.2.2.2.2.1.1,.int .i64 x.2.2.2.2.1.2.1,.int .i64 x.2.2.2.2.1.2.2,.int .i64 x.2.2.2.2.2.1,.int .i64 x.2.2.2.2.2.2]:=k3.set 1 _ (by simp)
 have K2:Hid (af (w4.setCell ⟨w.heap.size+1+1,1,none⟩ (.slice a4 h1.2.1 c4)) (w.heap.size+1) [.string ⟨#[]⟩,.slice none 0 0,.slice none 0 0,.bool false,.int .i64 0,.int .i64 0,.int .i64 0,.int .i64 0,.int .i64 0]):=k2'
 have K3:Hid (af (w4.setCell ⟨w.heap.size+1+1,1,none⟩ (.slice a4 h1.2.1 c4)) (w.heap.size+1+1) [.string x.1,.slice a4 h1.2.1 c4,.slice a2 n2 m2,.bool x.2.2.2.1,.int .i64 x.2.2.2.2.1.1,.int .i64 x.2.2.2.2.1.2.1,.int .i64 x.2.2.2.2.1.2.2,.int .i64 x.2.2.2.2.2.1,.int .i64 x.2.2.2.2.2.2]):=MH
 have hbU:Below w.heap.size w ((w4.setCell ⟨w.heap.size+1+1,1,none⟩ (.slice a4 h1.2.1 c4)).alloc (.cells #[] 222)):=((ah hb0 hb4).setCell (by simp <;> omega) _).alloc (by simp;omega) _
 obtain ⟨sU,Ab⟩:=k3.2 1 _ rfl
 clear k2 k3 k2' MH
 match a2 with
 | none =>
  obtain ⟨rfl,rfl,hnil⟩:=Ef p2
  have hbn:Below (w4.setCell ⟨w.heap.size+1+1,1,none⟩ (.slice a4 h1.2.1 c4)).heap.size (w4.setCell ⟨w.heap.size+1+1,1,none⟩ (.slice a4 h1.2.1 c4)) ((w4.setCell ⟨w.heap.size+1+1,1,none⟩ (.slice a4 h1.2.1 c4)).alloc (.cells #[] 222)):=(Below.refl _ _).alloc (Nat.le_refl _) _
  have q2:=K2.out.on hbn
  have q3:=K3.out.on hbn
  clear K2 K3
  obtain ⟨wG,Kg⟩:=q2.2 0 _ rfl
  obtain ⟨wF,Ke⟩:=q2.2 1 _ rfl
  obtain ⟨wE,Kc⟩:=q2.2 2 _ rfl
  obtain ⟨Ao,TI⟩:=q2.2 3 _ rfl
  obtain ⟨Am,TH⟩:=q2.2 4 _ rfl
  obtain ⟨KS,abz⟩:=q2.2 5 _ rfl
  obtain ⟨KR,aby⟩:=q2.2 6 _ rfl
  obtain ⟨KQ,abx⟩:=q2.2 7 _ rfl
  obtain ⟨KO,abw⟩:=q2.2 8 _ rfl
  obtain ⟨wD,Kb⟩:=q3.2 0 _ rfl
  obtain ⟨sU,Ab⟩:=q3.2 1 _ rfl
  obtain ⟨wC,Ka⟩:=q3.2 2 _ rfl
  obtain ⟨Al,TG⟩:=q3.2 3 _ rfl
  obtain ⟨Ak,TF⟩:=q3.2 4 _ rfl
  obtain ⟨KN,abv⟩:=q3.2 5 _ rfl
  obtain ⟨KM,abu⟩:=q3.2 6 _ rfl
  obtain ⟨KJ,abt⟩:=q3.2 7 _ rfl
  obtain ⟨KI,abr⟩:=q3.2 8 _ rfl
  clear q2 q3
  have JZ:Hid (ag dH 3 40 (az (w4.setCell ⟨w.heap.size+1+1,1,none⟩ (.slice a4 h1.2.1 c4))) ((w4.setCell ⟨w.heap.size+1+1,1,none⟩ (.slice a4 h1.2.1 c4)).alloc (.cells #[] 222)) (some ⟨w4.heap.size,0,none⟩) 0 0 x.2.2.1):=by rw [hnil];exact ag.nil _ _ _ _ (fun h=>by cases h)
  go_wp2_with fail
  refine bodyPost_ret (v:=.agg #[.string x.1,.slice a4 h1.2.1 c4,.slice (some ⟨w4.heap.size,0,none⟩) 0 0,.bool x.2.2.2.1,.int .i64 x.2.2.2.2.1.1,.int .i64 x.2.2.2.2.1.2.1,.int .i64 x.2.2.2.2.1.2.2,.int .i64 x.2.2.2.2.2.1,.int .i64 x.2.2.2.2.2.2]) (by simp [results,Tryz.results11,go_sem,wG,wF,wE,Ao,Am,KS,KR,KQ,KO,wD,sU,wC,Al,Ak,KN,KM,KJ,KI]) rfl ⟨[.string x.1,.slice a4 h1.2.1 c4,.slice (some ⟨w4.heap.size,0,none⟩) 0 0,.bool x.2.2.2.1,.int .i64 x.2.2.2.2.1.1,.int .i64 x.2.2.2.2.1.2.1,.int .i64 x.2.2.2.2.1.2.2,.int .i64 x.2.2.2.2.2.1,.int .i64 x.2.2.2.2.2.2],rfl,?_,?_⟩
  ·have kD:=xH.out
   have hS5:=JZ.out
   have rO:=HW.out
   refine av.mk (h1:=(a4,h1.2.1,c4)) (h2:=((some ⟨w4.heap.size,0,none⟩:Option Addr),0,0)) p0 (ag.weak ak.ae (A:=az W3) (ag.kept ak.ae kD ?kp) (fun b _ hb=>show w.heap.size<=b by have hb1:W3.heap.size<=b:=hb;have:=hb0.size;omega)) (ag.weak dH.ae (A:=az (w4.setCell ⟨w.heap.size+1+1,1,none⟩ (.slice a4 h1.2.1 c4))) (ag.kept dH.ae hS5 ?kq) (fun b _ hb=>show w.heap.size<=b by have hb1:(w4.setCell ⟨w.heap.size+1+1,1,none⟩ (.slice a4 h1.2.1 c4)).heap.size<=b:=hb;simp at hb1;omega))
   case kp =>
    repeat (refine Kept.trans ?_ (Kept.set (az.not (by simp <;> omega)) _))
    exact (Kept.set (az.not (by simp <;> omega)) _).trans (Kept.below hbn)
   case kq =>
    repeat (refine Kept.trans ?_ (Kept.set (az.not (by simp <;> omega)) _))
    exact Kept.refl _ _
  ·repeat (refine Below.setCell ?_ (by simp <;> omega) _)
   exact ah ((ah hb0 hb4).setCell (by simp <;> omega) _) hbn
 | some ad =>
  obtain ⟨xs,hc,hcell,hone⟩:=(p2.on dH.ae hbU).chunks dH.ae
  have hn:=p2.1
  have hbb:=p2.2.2.2.1
  subst hn
  have HR:Hid (Row dH 3 (az (w4.setCell ⟨w.heap.size+1+1,1,none⟩ (.slice a4 h1.2.1 c4))) (w4.setCell ⟨w.heap.size+1+1,1,none⟩ (.slice a4 h1.2.1 c4)) ((w4.setCell ⟨w.heap.size+1+1,1,none⟩ (.slice a4 h1.2.1 c4)).alloc (.cells #[] 222)) 222 (.slice (some ⟨w4.heap.size,0,none⟩) 0 0) []):=by
   have:=Row.start (R:=dH) (k:=3) (az (w4.setCell ⟨w.heap.size+1+1,1,none⟩ (.slice a4 h1.2.1 c4))) (w4.setCell ⟨w.heap.size+1+1,1,none⟩ (.slice a4 h1.2.1 c4)) (w4.setCell ⟨w.heap.size+1+1,1,none⟩ (.slice a4 h1.2.1 c4)) 222 (Below.refl _ _)
   unfold Hid
   simpa using this
  have HC:Hid (aW dH 3 (fun b=>az (w4.setCell ⟨w.heap.size+1+1,1,none⟩ (.slice a4 h1.2.1 c4)) b/\Value.ownBlock (.slice (some ⟨w4.heap.size,0,none⟩) 0 0)≠some b) ((w4.setCell ⟨w.heap.size+1+1,1,none⟩ (.slice a4 h1.2.1 c4)).alloc (.cells #[] 222)) xs x.2.2.1):=hc.flat dH.flat
  have HX:Hid (∀ j y,xs[j]?=some y->((w4.setCell ⟨w.heap.size+1+1,1,none⟩ (.slice a4 h1.2.1 c4)).alloc (.cells #[] 222)).cell? (ad.add j)=some y):=hcell
  have HO:Hid (∀ y∈xs,y.oneCell'=true):=hone
  clear hc hcell hone
  have eF:Hid (x.2.2.1.length*40<=140737488351232):=hbb
  go_wp2_with (at_builtin;go_must (refine mh dH.ae (A:=az (w4.setCell ⟨w.heap.size+1+1,1,none⟩ (.slice a4 h1.2.1 c4))) (w0:=(w4.setCell ⟨w.heap.size+1+1,1,none⟩ (.slice a4 h1.2.1 c4))) rfl _ _ 54 222 rfl _ 40 FX underlying54 rfl (by decide) (by decide) _ [] rfl HR.out ad x.2.2.1.length m2 xs x.2.2.1 rfl rfl HC.out HX.out HO.out (by have:=eF.out;simp;omega) ?_);intro v5 w5 Du hg5;obtain ⟨a5,c5,rfl,hS5⟩:=Du.lD (bytes:=40) dH.ae (by simpa using eF.out);have hb5:=Du.below;have q2:=K2.out.on hb5;have q3:=K3.out.on hb5;clear sU Ab;obtain ⟨wG,Kg⟩:=q2.2 0 _ rfl;obtain ⟨wF,Ke⟩:=q2.2 1 _ rfl;obtain ⟨wE,Kc⟩:=q2.2 2 _ rfl;obtain ⟨Ao,TI⟩:=q2.2 3 _ rfl;obtain ⟨Am,TH⟩:=q2.2 4 _ rfl;obtain ⟨KS,abz⟩:=q2.2 5 _ rfl;obtain ⟨KR,aby⟩:=q2.2 6 _ rfl;obtain ⟨KQ,abx⟩:=q2.2 7 _ rfl;obtain ⟨KO,abw⟩:=q2.2 8 _ rfl;obtain ⟨wD,Kb⟩:=q3.2 0 _ rfl;obtain ⟨sU,Ab⟩:=q3.2 1 _ rfl;obtain ⟨wC,Ka⟩:=q3.2 2 _ rfl;obtain ⟨Al,TG⟩:=q3.2 3 _ rfl;obtain ⟨Ak,TF⟩:=q3.2 4 _ rfl;obtain ⟨KN,abv⟩:=q3.2 5 _ rfl;obtain ⟨KM,abu⟩:=q3.2 6 _ rfl;obtain ⟨KJ,abt⟩:=q3.2 7 _ rfl;obtain ⟨KI,abr⟩:=q3.2 8 _ rfl;clear q2 q3 Du hg5;simp only [List.nil_append] at hS5 |-)
  have JZ:Hid (ag dH 3 40 (az (w4.setCell ⟨w.heap.size+1+1,1,none⟩ (.slice a4 h1.2.1 c4))) w5 a5 x.2.2.1.length c5 x.2.2.1):=hS5
  clear hS5
  refine bodyPost_ret (v:=.agg #[.string x.1,.slice a4 h1.2.1 c4,.slice a5 x.2.2.1.length c5,.bool x.2.2.2.1,.int .i64 x.2.2.2.2.1.1,.int .i64 x.2.2.2.2.1.2.1,.int .i64 x.2.2.2.2.1.2.2,.int .i64 x.2.2.2.2.2.1,.int .i64 x.2.2.2.2.2.2]) (by simp [results,Tryz.results11,go_sem,wG,wF,wE,Ao,Am,KS,KR,KQ,KO,wD,sU,wC,Al,Ak,KN,KM,KJ,KI]) rfl ⟨[.string x.1,.slice a4 h1.2.1 c4,.slice a5 x.2.2.1.length c5,.bool x.2.2.2.1,.int .i64 x.2.2.2.2.1.1,.int .i64 x.2.2.2.2.1.2.1,.int .i64 x.2.2.2.2.1.2.2,.int .i64 x.2.2.2.2.2.1,.int .i64 x.2.2.2.2.2.2],rfl,?_,?_⟩
  ·have kD:=xH.out
   have hS5:=JZ.out
   have rO:=HW.out
   refine av.mk (h1:=(a4,h1.2.1,c4)) (h2:=(a5,x.2.2.1.length,c5)) p0 (ag.weak ak.ae (A:=az W3) (ag.kept ak.ae kD ?kp) (fun b _ hb=>show w.heap.size<=b by have hb1:W3.heap.size<=b:=hb;have:=hb0.size;omega)) (ag.weak dH.ae (A:=az (w4.setCell ⟨w.heap.size+1+1,1,none⟩ (.slice a4 h1.2.1 c4))) (ag.kept dH.ae hS5 ?kq) (fun b _ hb=>show w.heap.size<=b by have hb1:(w4.setCell ⟨w.heap.size+1+1,1,none⟩ (.slice a4 h1.2.1 c4)).heap.size<=b:=hb;simp at hb1;omega))
   case kp =>
    repeat (refine Kept.trans ?_ (Kept.set (az.not (by simp <;> omega)) _))
    exact (Kept.set (az.not (by simp <;> omega)) _).trans (Kept.below hb5)
   case kq =>
    repeat (refine Kept.trans ?_ (Kept.set (az.not (by simp <;> omega)) _))
    exact Kept.refl _ _
  ·repeat (refine Below.setCell ?_ (by simp <;> omega) _)
   exact ah ((ah hb0 hb4).setCell (by simp <;> omega) _) hb5
end Go.Proofs.YtgikfenllgldoaaGreat
