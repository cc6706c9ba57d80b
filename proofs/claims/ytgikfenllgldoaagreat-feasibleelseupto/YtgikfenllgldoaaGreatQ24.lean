/- Functions of the program, each walked under the conditions that its theorem names. -/
import Derived.Test.YtgikfenllgldoaaGreatQ20
import Derived.Test.YtgikfenllgldoaaGreatQ22
set_option linter.unusedSimpArgs false
set_option maxRecDepth 100000
set_option maxHeartbeats 32000000
namespace Go.Proofs.YtgikfenllgldoaaGreat
open Go.Proofs.Tryz
open Go.RowKit Go.Maps
theorem Qt (cs:List Value) (q:aB) (A:Where) (w:World) (h:Hid (aj A w cs q)):Calls prog 17 #[.agg cs.toArray] w fun e w'=>e=.returned (.string q.1)/\Below w.heap.size w w':=by
 obtain ⟨_,v1,v2,v3,v4,v5,v6,v7,v8,v9,v10,v11,v12,v13,v14,v15,rfl⟩:=h.out.lY
 obtain ⟨W1,hW1⟩:∃ W1,W1=w.alloc (.cells #[.string q.1,v1,v2,v3,v4,v5,v6,v7,v8,v9,v10,v11,v12,v13,v14,v15] 41):=⟨_,rfl⟩
 have HB:Hid (Below w.heap.size w W1):=by rw [hW1];exact (Below.refl _ _).alloc (Nat.le_refl _) _
 have c0:=((af.new w 41 [.string q.1,v1,v2,v3,v4,v5,v6,v7,v8,v9,v10,v11,v12,v13,v14,v15]).2 0 _ rfl).1
 have HW:Hid (W1=w.alloc (.cells #[.string q.1,v1,v2,v3,v4,v5,v6,v7,v8,v9,v10,v11,v12,v13,v14,v15] 41)):=hW1
 rw [show (w.alloc (.cells ([.string q.1,v1,v2,v3,v4,v5,v6,v7,v8,v9,v10,v11,v12,v13,v14,v15]:List Value).toArray 41))=W1 from hW1.symm] at c0
 clear hW1 h
 go_enter func17,ntmps17
 go_wp2_with fail
 go_ret
 exact ⟨by simp,HW.out ▸ HB.out⟩
theorem zDz (a:Option Addr) (n cap:Nat) (A:Where) (L:List aB) (w:World) (hL:Hid (ag aj 16 296 A w a n cap L)):Calls prog 38 #[.slice a n cap,.func (.func 17) #[] #[]] w fun e w'=>∃ v,e=.returned v/\Row aj 16 (fun b=>A b/\b<w.heap.size) w w' 41 v (aS L):=by
 have hmm:=EE
 have hlen:=hL.out.len (by decide)
 have hn:Hid (L.length=n):=hL.out.1
 have hbb:Hid (n*296<=140737488351232):=hL.out.2.2.2.1
 obtain ⟨W1,hW1⟩:∃ W1,W1=w.alloc (.map #[] 0):=⟨_,rfl⟩
 have H0:Hid (nG A w W1 w.heap.size 0 (.slice none 0 0) (aS (L.take 0))):=by
  rw [hW1]
  exact ⟨(bL.made w).as (fun s=>rfl),(Row.nil _ w _).on aj.ae ((Below.refl _ _).alloc (Nat.le_refl _) _)⟩
 go_enter func38,ntmps38
 go_wp2_with fail
 rw [<- hW1]
 clear hW1
 go_loopw [5,16] (fun v i wr=>∃ k:Nat,k<=n/\i=.int .i64 k/\Hid (nG A w wr w.heap.size k v (aS (L.take k)))) (fun _ i _=>n - (intOf i).toNat)
 case atStart=>exact ⟨0,Nat.zero_le _,rfl,H0⟩
 case round =>
  obtain ⟨k,hk,rfl,hst⟩:=hrel
  by_cases hlt:k<n
  ·have hltz:(k:Int)<(n:Int):=by omega
   have hkl:k<L.length:=by rw [hn.out];exact hlt
   have hbw:Below w.heap.size w wr:=hst.out.row.below
   obtain ⟨D,off,rfl,hD,_,cs,hr,hv⟩:=hL.out.get hlt
   have HT:Hid (aS (L.take (k+1))=dD (aS (L.take k)) (L.getD k default)):=Qp L hkl
   have oC:Hid ((aS (L.take k)).length<=k):=Ql L k (by omega)
   generalize L.getD k default=q at hr HT
   generalize aS (L.take k)=G at hst HT oC
   have oh:aj (fun b=>A b/\b<w.heap.size) w cs q:=aj.ae.weak hr (fun b hb h=>⟨h,hb⟩)
   obtain ⟨hsz,v1,v2,v3,v4,v5,v6,v7,v8,v9,v10,v11,v12,v13,v14,v15,rfl⟩:=hr.lY
   have HV:Hid (wr.rangeAt D (off+k*16) [.string q.1,v1,v2,v3,v4,v5,v6,v7,v8,v9,v10,v11,v12,v13,v14,v15]):=fun j v hj=>(hbw.cell hD).trans (hv j v hj)
   have hi:(prog.info? 41).map (·.size)=some ([.string q.1,v1,v2,v3,v4,v5,v6,v7,v8,v9,v10,v11,v12,v13,v14,v15]:List Value).length:=kY
   have H1:Hid ((([.string q.1,v1,v2,v3,v4,v5,v6,v7,v8,v9,v10,v11,v12,v13,v14,v15]:List Value).toArray).all (·.oneCell')=true):=all_oneCell_toArray (aj.ae.one hr)
   have HA:Hid (aj (fun b=>A b/\b<w.heap.size) w [.string q.1,v1,v2,v3,v4,v5,v6,v7,v8,v9,v10,v11,v12,v13,v14,v15] q):=oh
   clear hr hv oh
   obtain ⟨wb,hwb⟩:∃ wb,wb=(wr.alloc (.cells #[.string ⟨#[]⟩,.int .i64 0,.slice none 0 0,.int .i64 0,.int .i64 0,.int .i64 0,.slice none 0 0,.slice none 0 0,.slice none 0 0,.slice none 0 0,.slice none 0 0,.slice none 0 0,.slice none 0 0,.slice none 0 0,.string ⟨#[]⟩,.string ⟨#[]⟩] 41)).setCells wr.heap.size 0 [.string q.1,v1,v2,v3,v4,v5,v6,v7,v8,v9,v10,v11,v12,v13,v14,v15]:=⟨_,rfl⟩
   have eD:Hid ((wr.alloc (.cells #[.string ⟨#[]⟩,.int .i64 0,.slice none 0 0,.int .i64 0,.int .i64 0,.int .i64 0,.slice none 0 0,.slice none 0 0,.slice none 0 0,.slice none 0 0,.slice none 0 0,.slice none 0 0,.slice none 0 0,.slice none 0 0,.string ⟨#[]⟩,.string ⟨#[]⟩] 41)).there wr.heap.size 0 16):=(af.new wr 41 [.string ⟨#[]⟩,.int .i64 0,.slice none 0 0,.int .i64 0,.int .i64 0,.int .i64 0,.slice none 0 0,.slice none 0 0,.slice none 0 0,.slice none 0 0,.slice none 0 0,.slice none 0 0,.slice none 0 0,.slice none 0 0,.string ⟨#[]⟩,.string ⟨#[]⟩]).there
   have fE:Hid (wb.rangeAt wr.heap.size 0 [.string q.1,v1,v2,v3,v4,v5,v6,v7,v8,v9,v10,v11,v12,v13,v14,v15]):=by rw [hwb];exact World.rangeAt_setCells_same _ _ _ _ eD.out
   have eF:Hid (Below wr.heap.size wr wb):=by rw [hwb];exact cu ((Below.refl _ _).alloc (Nat.le_refl _) _) (Nat.le_refl _)
   have nz:Hid (wr.heap.size<wb.heap.size):=World.block_lt_of_cell? wb ⟨wr.heap.size,0+0,none⟩ (fE.out 0 _ rfl)
   have gZ:Hid (wb=(wr.alloc (.cells #[.string ⟨#[]⟩,.int .i64 0,.slice none 0 0,.int .i64 0,.int .i64 0,.int .i64 0,.slice none 0 0,.slice none 0 0,.slice none 0 0,.slice none 0 0,.slice none 0 0,.slice none 0 0,.slice none 0 0,.slice none 0 0,.string ⟨#[]⟩,.string ⟨#[]⟩] 41)).setCells wr.heap.size 0 (([.string q.1,v1,v2,v3,v4,v5,v6,v7,v8,v9,v10,v11,v12,v13,v14,v15]:List Value).toArray).toList):=hwb
   clear hwb
   have HP:Hid (∀ u,Below wb.heap.size wb u->aj (fun b=>A b/\b<w.heap.size) u [.string q.1,v1,v2,v3,v4,v5,v6,v7,v8,v9,v10,v11,v12,v13,v14,v15] q):=fun u hb=>aj.ae.kept HA.out (Kept.below (ah (ah hbw eF.out) hb))
   go_wp2_with (first | (refine wpList_load_mid rfl 41 _ rfl D (off+k*16) rfl [.string q.1,v1,v2,v3,v4,v5,v6,v7,v8,v9,v10,v11,v12,v13,v14,v15] _ HV.out underlying41 rfl hi ?_) | (refine wpList_store_mid rfl 41 _ _ rfl wr.heap.size 0 (([.string q.1,v1,v2,v3,v4,v5,v6,v7,v8,v9,v10,v11,v12,v13,v14,v15]:List Value).toArray) rfl rfl eD.out hi H1.out ?_;refine iJ gZ.out ?_) | (refine wpList_load_mid rfl 41 _ rfl wr.heap.size 0 rfl [.string q.1,v1,v2,v3,v4,v5,v6,v7,v8,v9,v10,v11,v12,v13,v14,v15] _ fE.out underlying41 rfl hi ?_))
   refine (Qt [.string q.1,v1,v2,v3,v4,v5,v6,v7,v8,v9,v10,v11,v12,v13,v14,v15] q _ wb (HP.out wb (Below.refl _ _))).mono ?_
   rintro e wc ⟨rfl,hbc⟩
   have HSc:Hid (bL wc w.heap.size k (fun s=>hasB ay (fO G) s)):=(hst.out.set.on eF.out).on hbc
   cases hq:hasB ay (fO G) q.1
   ·have qy:Hid (∀ u,Below wc.heap.size wc u->bL u w.heap.size k (fun s=>hasB ay (fO G) s)):=fun u hb=>HSc.out.on hb
    have nA:Hid (∀ u,Below wc.heap.size wc u->u.rangeAt wr.heap.size 0 [.string q.1,v1,v2,v3,v4,v5,v6,v7,v8,v9,v10,v11,v12,v13,v14,v15]/\wr.heap.size<u.heap.size):=fun u hb=>⟨tJ (tJ fE.out hbc nz.out) hb (Nat.lt_of_lt_of_le nz.out hbc.size),Nat.lt_of_lt_of_le (Nat.lt_of_lt_of_le nz.out hbc.size) hb.size⟩
    have HQ:Hid (hasB ay (fO G) q.1=false):=hq
    clear hq
    obtain ⟨wd,hwd⟩:∃ wd,wd=wc.alloc (.cells #[] 139):=⟨_,rfl⟩
    have hbd:Below wc.heap.size wc wd:=by rw [hwd];exact (Below.refl _ _).alloc (Nat.le_refl _) _
    have rY:=(nA.out wd hbd).1
    have qA:Hid (wd.rangeAt wr.heap.size 0 [.string q.1,v1,v2,v3,v4,v5,v6,v7,v8,v9,v10,v11,v12,v13,v14,v15]):=rY
    clear rY
    go_wp2_with (first | (at_lookup;refine vJ rfl _ _ 138 rfl underlying138 w.heap.size k _ q.1 hsz rfl HSc.out rfl false HQ.out ?_) | (refine iJ hwd ?_;refine wpList_load_mid rfl 41 _ rfl wr.heap.size 0 rfl [.string q.1,v1,v2,v3,v4,v5,v6,v7,v8,v9,v10,v11,v12,v13,v14,v15] _ qA.out underlying41 rfl hi ?_))
    rw [<- hwd]
    refine (Qt [.string q.1,v1,v2,v3,v4,v5,v6,v7,v8,v9,v10,v11,v12,v13,v14,v15] q _ wd (HP.out wd (ah hbc hbd))).mono ?_
    rintro e we ⟨rfl,hbe⟩
    have hce:Below wc.heap.size wc we:=ah hbd hbe
    have ve:Hid (bL we w.heap.size k (fun s=>hasB ay (fO G) s)):=qy.out we hce
    have hmb:w.heap.size<wr.heap.size:=hst.out.set.lt
    have AB:Hid (∀ wf,we.grownBy wf (some w.heap.size)->wf.rangeAt wr.heap.size 0 [.string q.1,v1,v2,v3,v4,v5,v6,v7,v8,v9,v10,v11,v12,v13,v14,v15]):=fun wf hg=>L6 (nA.out we hce).1 (nA.out we hce).2 hg (fun e=>by injection e with e;omega)
    have hrw:Row aj 16 (fun b=>A b/\b<w.heap.size) w we 41 u5 G:=((hst.out.row.on aj.ae eF.out).on aj.ae hbc).on aj.ae hce
    have hne:Value.ownBlock u5≠some w.heap.size:=hrw.uA ve.out
    have HRW:Hid (∀ wf,we.grownBy wf (some w.heap.size)->Row aj 16 (fun b=>A b/\b<w.heap.size) w wf 41 u5 G):=fun wf hg=>hrw.grown aj.ae hg (fun b hb=>by injection hb with hb;subst hb;exact ⟨Nat.le_refl _,hne,fun h=>Nat.lt_irrefl _ h.2⟩)
    have HR3:Hid (∀ wf,we.grownBy wf (some w.heap.size)->Row aj 16 (fun b=>A b/\b<w.heap.size) w (wf.alloc (.cells #[.string q.1,v1,v2,v3,v4,v5,v6,v7,v8,v9,v10,v11,v12,v13,v14,v15] 41)) 41 u5 G):=fun wf hg=>(HRW.out wf hg).on aj.ae ((Below.refl _ _).alloc (Nat.le_refl _) _)
    have gV:Hid (∀ wf,we.grownBy wf (some w.heap.size)->aW aj 16 (fun b=>(fun b=>A b/\b<w.heap.size) b/\Value.ownBlock u5≠some b) (wf.alloc (.cells #[.string q.1,v1,v2,v3,v4,v5,v6,v7,v8,v9,v10,v11,v12,v13,v14,v15] 41)) [.string q.1,v1,v2,v3,v4,v5,v6,v7,v8,v9,v10,v11,v12,v13,v14,v15] [q]):=fun wf hg=>by
     have h3:=HR3.out wf hg
     exact nJ aj.ae (aj.ae.weak (aj.ae.kept HA.out (Kept.below h3.below)) (fun b _ hb=>⟨hb,fun e=>by have h1:=(h3.lt e).1;have h2:=hb.2;omega⟩))
    have HX:Hid (∀ wf:World,∀ j v,([.string q.1,v1,v2,v3,v4,v5,v6,v7,v8,v9,v10,v11,v12,v13,v14,v15]:List Value)[j]?=some v->(wf.alloc (.cells #[.string q.1,v1,v2,v3,v4,v5,v6,v7,v8,v9,v10,v11,v12,v13,v14,v15] 41)).cell? ((⟨wf.heap.size,0,none⟩:Addr).add j)=some v):=fun wf=>nY wf _ 41
    have HO:Hid (∀ v∈[.string q.1,v1,v2,v3,v4,v5,v6,v7,v8,v9,v10,v11,v12,v13,v14,v15],v.oneCell'=true):=aj.ae.one HA.out
    have gU:Hid ((G.length+[q].length)*296<=140737488355328):=by have h1:=qC hbb.out hlt;have h2:=oC.out;rw [Hid,List.length_singleton];omega
    have hkn:k<140737488355328:=by omega
    have HE:Hid (∀ (wf:World) (vn:Value) (w4:World),bL wf w.heap.size (k+1) (fun t=>hasB ay (fO G) t || ay t q.1)->Row aj 16 (fun b=>A b/\b<w.heap.size) w w4 41 vn (G++[q])->(wf.alloc (.cells #[.string q.1,v1,v2,v3,v4,v5,v6,v7,v8,v9,v10,v11,v12,v13,v14,v15] 41)).grownBy w4 (Value.ownBlock u5)->nG A w w4 w.heap.size (k+1) vn (aS (L.take (k+1)))):=fun wf vn w4 hs hr hg=>by
     have e1:aS (L.take (k+1))=G++[q]:=by rw [HT.out];unfold dD;rw [HQ.out];rfl
     rw [e1]
     exact ⟨((hs.on ((Below.refl _ _).alloc (Nat.le_refl _) _)).grown hg hne).as (fun s=>by rw [show fO (G++[q])=fO G++[q.1] by simp [fO],Ey]),hr⟩
    clear hrw hne nA qy HRW hce hbe hbd hwd qA HV eD gZ H1
    go_wp2_with (first | (at_mapUpdate;go_must (refine Eg rfl _ _ _ 138 rfl underlying138 w.heap.size k _ q.1 hsz hkn rfl ve.out rfl rfl ?_);intro wf wR hgf) | (refine wpList_load_mid rfl 41 _ rfl wr.heap.size 0 rfl [.string q.1,v1,v2,v3,v4,v5,v6,v7,v8,v9,v10,v11,v12,v13,v14,v15] _ (AB.out _ hgf) underlying41 rfl hi ?_) | (at_builtin;go_must (refine mh aj.ae (A:=(fun b=>A b/\b<w.heap.size)) (w0:=w) rfl _ _ 22 41 rfl _ 296 AY underlying22 rfl (by decide) (by decide) u5 G rfl (HR3.out _ hgf) ⟨wf.heap.size,0,none⟩ 1 1 _ [q] rfl rfl (gV.out _ hgf) (HX.out _) HO.out gU.out ?_);intro vn w4 hrow4 hg4))
    have HZ:=HE.out wf vn w4 wR hrow4 hg4
    go_roundw
    case rel=>exact ⟨k+1,by omega,by go_num,HZ⟩
    case measure=>simp [intOf];omega
   ·have HZ:Hid (nG A w (wc.alloc (.cells #[] 139)) w.heap.size (k+1) u5 (aS (L.take (k+1)))):=by
     have e1:aS (L.take (k+1))=G:=by rw [HT.out];unfold dD;rw [hq];rfl
     rw [Hid,e1]
     have h1:=((hst.out.on eF.out).on hbc).on ((Below.refl wc.heap.size wc).alloc (Nat.le_refl _) (.cells #[] 139))
     exact ⟨h1.set.mono (Nat.le_succ _),h1.row⟩
    clear HV eD gZ H1 HT
    go_wp2_with (at_lookup;refine vJ rfl _ _ 138 rfl underlying138 w.heap.size k _ q.1 hsz rfl HSc.out rfl true hq ?_)
    go_roundw
    case rel=>exact ⟨k+1,by omega,by go_num,HZ⟩
    case measure=>simp [intOf];omega
  ·have oo:L.take k=L:=List.take_of_length_le (by rw [hn.out];omega)
   rw [oo] at hst
   have hlz:¬ ((k:Int)<(n:Int)):=by omega
   go_wp2_with fail
   go_ret
   exact ⟨_,rfl,hst.out.row⟩
end Go.Proofs.YtgikfenllgldoaaGreat
namespace Go.Proofs.YtgikfenllgldoaaGreat
open Go.Proofs.Tryz
open Go.RowKit
theorem Xe:(prog.info? 41).map (·.size)=some 16:=by kernel_rfl
theorem XD:(prog.info? 70).map (·.size)=some 15:=by kernel_rfl
theorem Mi {P:Program} {ops:Array Oper} {Q:Exit->Act->World->Prop} {rest:List Oper} {a:Act} {u W:World} (h:W=u) (k:wpList P ops Q rest a W):wpList P ops Q rest a u:=h ▸ k
theorem EI {c:Prop} [Decidable c] {A B:Prop} (h:c) (k:A):if c then A else B:=by rw [if_pos h];exact k
theorem WK {K:Act->World->Prop} {a:Act} {u W:World} (h:W=u) (k:K a W):K a u:=h ▸ k
theorem Xx {u:World} {D:Nat} {zs cs:List Value} (hb:af u D zs) (hl:zs.length=cs.length):af (u.setCells D 0 cs) D cs:=by
 have hth:u.there D 0 cs.length:=hl ▸ hb.there
 have hr:=World.rangeAt_setCells_same u D 0 cs hth
 have ht2:=World.there_setCells hth D 0 cs
 refine ⟨Nat.lt_of_lt_of_le hb.1 (dP (A:=fun _=>False) (b:=D) (fun h=>h) (vs:=cs) (o:=0) (u:=u)).1,fun j v hj=>?_⟩
 have h1:=hr j v hj
 have h2:=(ht2 j (List.getElem?_eq_some_iff.1 hj).1).2
 rw [Nat.zero_add] at h1 h2
 exact ⟨h1,h2⟩
theorem aj.aaA {A:Where} {w:World} {cs:List Value} {q:aB} (h:aj A w cs q):∃ v0 v1 v2 v6 v7 v8 v9 v10 v11 v12 v13 v14 v15:Value,cs=[v0,v1,v2,.int .i64 (kC q).1,.int .i64 (kC q).2.1,.int .i64 (kC q).2.2,v6,v7,v8,v9,v10,v11,v12,v13,v14,v15]:=by
 obtain ⟨_,_,_,_,_,_,_,_,_,rfl,_⟩:=h.out
 exact ⟨_,_,_,_,_,_,_,_,_,_,_,_,_,rfl⟩
theorem aY.aaB {A:Where} {w:World} {cs:List Value} {q:bC} (h:aY A w cs q):∃ f0 f1 f2 f3 f4 f5 f6 f7 f8 f9 f10 f11 f12 f13 f14:Value,cs=[f0,f1,f2,f3,f4,f5,f6,f7,f8,f9,f10,f11,f12,f13,f14]:=by
 obtain ⟨_,_,_,_,_,rfl,_⟩:=h.out
 exact ⟨_,_,_,_,_,_,_,_,_,_,_,_,_,_,_,rfl⟩
theorem PT (a:Int):sumI (fun _=>a) 1=aQ a:=by
 simp only [sumI,dX]
 rw [show aQ 0=0 from rfl,Int.zero_add,zDu]
def TU (w:World) (P I:List Value) (u:World):Prop:=af u w.heap.size P/\af u (w.heap.size+1) I
theorem zEU (ds cs:List Value) (A:Where) (y:aB) (x:bC) (w:World) (h:Hid (aj A w ds y)) (h':Hid (aY A w cs x)):Calls prog 70 #[.agg ds.toArray,.agg cs.toArray] w fun e w'=>∃ vs,e=.returned (.agg vs.toArray)/\fu A w' vs (y,x,sF y,gB x)/\Below w.heap.size w w':=by
 have HP:Hid (∀ u,Below w.heap.size w u->aj A u ds y):=fun u hb=>aj.ae.kept h.out (Kept.below hb)
 have HI:Hid (∀ u,Below w.heap.size w u->aY A u cs x):=fun u hb=>aY.ae.kept h'.out (Kept.below hb)
 have NY:=aj.ae.one h.out
 have HOI:=aY.ae.one h'.out
 obtain ⟨v0,v1,v2,v6,v7,v8,v9,v10,v11,v12,v13,v14,v15,rfl⟩:=h.out.aaA
 obtain ⟨f0,f1,f2,f3,f4,f5,f6,f7,f8,f9,f10,f11,f12,f13,f14,rfl⟩:=h'.out.aaB
 have hwant:Hid (sF y=(aQ (kC y).1,aQ (kC y).2.1,aQ (kC y).2.2)):=rfl
 rw [hwant.out]
 generalize kC y=wt at HP NY
 obtain ⟨wa,wb,wc⟩:=wt
 simp only at HP NY |-
 have hO:Hid ((([v0,v1,v2,.int .i64 wa,.int .i64 wb,.int .i64 wc,v6,v7,v8,v9,v10,v11,v12,v13,v14,v15,f0,f1,f2,f3,f4,f5,f6,f7,f8,f9,f10,f11,f12,f13,f14,.int .i64 (aQ wa),.int .i64 (aQ wb),.int .i64 (aQ wc),.int .i64 (gB x).1,.int .i64 (gB x).2.1,.int .i64 (gB x).2.2]:List Value).toArray).all (·.oneCell')=true):=by
  refine all_oneCell_toArray (fun v hv=>?_)
  rw [show [v0,v1,v2,.int .i64 wa,.int .i64 wb,.int .i64 wc,v6,v7,v8,v9,v10,v11,v12,v13,v14,v15,f0,f1,f2,f3,f4,f5,f6,f7,f8,f9,f10,f11,f12,f13,f14,.int .i64 (aQ wa),.int .i64 (aQ wb),.int .i64 (aQ wc),.int .i64 (gB x).1,.int .i64 (gB x).2.1,.int .i64 (gB x).2.2]=[v0,v1,v2,.int .i64 wa,.int .i64 wb,.int .i64 wc,v6,v7,v8,v9,v10,v11,v12,v13,v14,v15]++([f0,f1,f2,f3,f4,f5,f6,f7,f8,f9,f10,f11,f12,f13,f14]++[.int .i64 (aQ wa),.int .i64 (aQ wb),.int .i64 (aQ wc),.int .i64 (gB x).1,.int .i64 (gB x).2.1,.int .i64 (gB x).2.2]) from rfl] at hv
  rcases List.mem_append.1 hv with hv | hv
  ·exact NY v hv
  ·rcases List.mem_append.1 hv with hv | hv
   ·exact HOI v hv
   ·simp only [List.mem_cons,List.not_mem_nil,or_false] at hv
    rcases hv with rfl | rfl | rfl | rfl | rfl | rfl <;> rfl
 clear h h' NY HOI
 have Ob:=fun u hb=>zGu [f0,f1,f2,f3,f4,f5,f6,f7,f8,f9,f10,f11,f12,f13,f14] A x u (HI.out u hb)
 have HM:Hid (∀ u,Below w.heap.size w u->fu A u [v0,v1,v2,.int .i64 wa,.int .i64 wb,.int .i64 wc,v6,v7,v8,v9,v10,v11,v12,v13,v14,v15,f0,f1,f2,f3,f4,f5,f6,f7,f8,f9,f10,f11,f12,f13,f14,.int .i64 (aQ wa),.int .i64 (aQ wb),.int .i64 (aQ wc),.int .i64 (gB x).1,.int .i64 (gB x).2.1,.int .i64 (gB x).2.2] (y,x,(aQ wa,aQ wb,aQ wc),gB x)):=fun u hb=>fu.mk (HP.out u hb) (HI.out u hb)
 generalize gB x=fr at Ob hO HM
 obtain ⟨fa,fb,fc⟩:=fr
 simp only at Ob hO HM
 have abS:Hid (∀ u,Below w.heap.size w u->Calls prog 93 #[.agg #[f0,f1,f2,f3,f4,f5,f6,f7,f8,f9,f10,f11,f12,f13,f14]] u fun e w'=>e=.returned (.agg #[.int .i64 fa,.int .i64 fb,.int .i64 fc])/\Below u.heap.size u w'):=fun u hb=>Ob u hb
 clear Ob HI HP
 obtain ⟨W3,hW3⟩:∃ W3,W3=((w.alloc (.cells #[v0,v1,v2,.int .i64 wa,.int .i64 wb,.int .i64 wc,v6,v7,v8,v9,v10,v11,v12,v13,v14,v15] 41)).alloc (.cells #[f0,f1,f2,f3,f4,f5,f6,f7,f8,f9,f10,f11,f12,f13,f14] 70)).alloc (.cells #[.string ⟨#[]⟩,.int .i64 0,.slice none 0 0,.int .i64 0,.int .i64 0,.int .i64 0,.slice none 0 0,.slice none 0 0,.slice none 0 0,.slice none 0 0,.slice none 0 0,.slice none 0 0,.slice none 0 0,.slice none 0 0,.string ⟨#[]⟩,.string ⟨#[]⟩,.string ⟨#[]⟩,.slice none 0 0,.slice none 0 0,.bool false,.int .i64 0,.int .i64 0,.int .i64 0,.int .i64 0,.int .i64 0,.slice none 0 0,.int .i64 0,.int .i64 0,.int .i64 0,.slice none 0 0,.slice none 0 0,.int .i64 0,.int .i64 0,.int .i64 0,.int .i64 0,.int .i64 0,.int .i64 0] 148):=⟨_,rfl⟩
 have B3:Hid (Below w.heap.size w W3):=by rw [Hid,hW3];go_grown
 have HS:Hid (∀ u,Below W3.heap.size W3 u->TU w [v0,v1,v2,.int .i64 wa,.int .i64 wb,.int .i64 wc,v6,v7,v8,v9,v10,v11,v12,v13,v14,v15] [f0,f1,f2,f3,f4,f5,f6,f7,f8,f9,f10,f11,f12,f13,f14] u):=fun u hb=>by
  have h1:=((af.new w 41 [v0,v1,v2,.int .i64 wa,.int .i64 wb,.int .i64 wc,v6,v7,v8,v9,v10,v11,v12,v13,v14,v15]).on ((Below.refl _ _).alloc (Nat.le_refl _) (.cells #[f0,f1,f2,f3,f4,f5,f6,f7,f8,f9,f10,f11,f12,f13,f14] 70))).on ((Below.refl _ _).alloc (Nat.le_refl _) (.cells #[.string ⟨#[]⟩,.int .i64 0,.slice none 0 0,.int .i64 0,.int .i64 0,.int .i64 0,.slice none 0 0,.slice none 0 0,.slice none 0 0,.slice none 0 0,.slice none 0 0,.slice none 0 0,.slice none 0 0,.slice none 0 0,.string ⟨#[]⟩,.string ⟨#[]⟩,.string ⟨#[]⟩,.slice none 0 0,.slice none 0 0,.bool false,.int .i64 0,.int .i64 0,.int .i64 0,.int .i64 0,.int .i64 0,.slice none 0 0,.int .i64 0,.int .i64 0,.int .i64 0,.slice none 0 0,.slice none 0 0,.int .i64 0,.int .i64 0,.int .i64 0,.int .i64 0,.int .i64 0,.int .i64 0] 148))
  have h2:=(af.new (w.alloc (.cells #[v0,v1,v2,.int .i64 wa,.int .i64 wb,.int .i64 wc,v6,v7,v8,v9,v10,v11,v12,v13,v14,v15] 41)) 70 [f0,f1,f2,f3,f4,f5,f6,f7,f8,f9,f10,f11,f12,f13,f14]).on ((Below.refl _ _).alloc (Nat.le_refl _) (.cells #[.string ⟨#[]⟩,.int .i64 0,.slice none 0 0,.int .i64 0,.int .i64 0,.int .i64 0,.slice none 0 0,.slice none 0 0,.slice none 0 0,.slice none 0 0,.slice none 0 0,.slice none 0 0,.slice none 0 0,.slice none 0 0,.string ⟨#[]⟩,.string ⟨#[]⟩,.string ⟨#[]⟩,.slice none 0 0,.slice none 0 0,.bool false,.int .i64 0,.int .i64 0,.int .i64 0,.int .i64 0,.int .i64 0,.slice none 0 0,.int .i64 0,.int .i64 0,.int .i64 0,.slice none 0 0,.slice none 0 0,.int .i64 0,.int .i64 0,.int .i64 0,.int .i64 0,.int .i64 0,.int .i64 0] 148))
  rw [hW3] at hb
  exact ⟨h1.on hb,by simpa using h2.on hb⟩
 have HZ:Hid (∀ u,Below W3.heap.size W3 u->af u (w.heap.size+1+1) [.string ⟨#[]⟩,.int .i64 0,.slice none 0 0,.int .i64 0,.int .i64 0,.int .i64 0,.slice none 0 0,.slice none 0 0,.slice none 0 0,.slice none 0 0,.slice none 0 0,.slice none 0 0,.slice none 0 0,.slice none 0 0,.string ⟨#[]⟩,.string ⟨#[]⟩,.string ⟨#[]⟩,.slice none 0 0,.slice none 0 0,.bool false,.int .i64 0,.int .i64 0,.int .i64 0,.int .i64 0,.int .i64 0,.slice none 0 0,.int .i64 0,.int .i64 0,.int .i64 0,.slice none 0 0,.slice none 0 0,.int .i64 0,.int .i64 0,.int .i64 0,.int .i64 0,.int .i64 0,.int .i64 0]):=fun u hb=>by
  have h1:=af.new ((w.alloc (.cells #[v0,v1,v2,.int .i64 wa,.int .i64 wb,.int .i64 wc,v6,v7,v8,v9,v10,v11,v12,v13,v14,v15] 41)).alloc (.cells #[f0,f1,f2,f3,f4,f5,f6,f7,f8,f9,f10,f11,f12,f13,f14] 70)) 148 [.string ⟨#[]⟩,.int .i64 0,.slice none 0 0,.int .i64 0,.int .i64 0,.int .i64 0,.slice none 0 0,.slice none 0 0,.slice none 0 0,.slice none 0 0,.slice none 0 0,.slice none 0 0,.slice none 0 0,.slice none 0 0,.string ⟨#[]⟩,.string ⟨#[]⟩,.string ⟨#[]⟩,.slice none 0 0,.slice none 0 0,.bool false,.int .i64 0,.int .i64 0,.int .i64 0,.int .i64 0,.int .i64 0,.slice none 0 0,.int .i64 0,.int .i64 0,.int .i64 0,.slice none 0 0,.slice none 0 0,.int .i64 0,.int .i64 0,.int .i64 0,.int .i64 0,.int .i64 0,.int .i64 0]
  rw [hW3] at hb
  simpa using h1.on hb
 have hiP:(prog.info? 41).map (·.size)=some ([v0,v1,v2,.int .i64 wa,.int .i64 wb,.int .i64 wc,v6,v7,v8,v9,v10,v11,v12,v13,v14,v15]:List Value).length:=Xe
 have MQ:(prog.info? 70).map (·.size)=some ([f0,f1,f2,f3,f4,f5,f6,f7,f8,f9,f10,f11,f12,f13,f14]:List Value).length:=XD
 have hsz:Hid (w.heap.size+2<W3.heap.size):=by rw [Hid,hW3];simp
 go_enter func70,ntmps70
 go_wp2_with fail
 rw [<- hW3]
 clear hW3
 refine wp_region_noPanic ?_
 refine wp_region_held_drew (S:=TU w [v0,v1,v2,.int .i64 wa,.int .i64 wb,.int .i64 wc,v6,v7,v8,v9,v10,v11,v12,v13,v14,v15] [f0,f1,f2,f3,f4,f5,f6,f7,f8,f9,f10,f11,f12,f13,f14]) (by kernel_rfl) (HS.out _ (Below.refl _ _).drew) (fun gH=>?_)
 refine tq 0 (.agg ([v0,v1,v2,.int .i64 wa,.int .i64 wb,.int .i64 wc,v6,v7,v8,v9,v10,v11,v12,v13,v14,v15]:List Value).toArray) (yieldsIf_load_mid rfl 41 _ rfl w.heap.size 0 rfl [v0,v1,v2,.int .i64 wa,.int .i64 wb,.int .i64 wc,v6,v7,v8,v9,v10,v11,v12,v13,v14,v15] _ (fun u hu=>hu.1.range) underlying41 rfl hiP) ?_
 try go_frame
 refine tq 1 (.agg ([f0,f1,f2,f3,f4,f5,f6,f7,f8,f9,f10,f11,f12,f13,f14]:List Value).toArray) (yieldsIf_load_mid rfl 70 _ rfl (w.heap.size+1) 0 rfl [f0,f1,f2,f3,f4,f5,f6,f7,f8,f9,f10,f11,f12,f13,f14] _ (fun u hu=>hu.2.range) underlying70 rfl MQ) ?_
 try go_frame
 refine tq 6 (.agg ([f0,f1,f2,f3,f4,f5,f6,f7,f8,f9,f10,f11,f12,f13,f14]:List Value).toArray) (yieldsIf_load_mid rfl 70 _ rfl (w.heap.size+1) 0 rfl [f0,f1,f2,f3,f4,f5,f6,f7,f8,f9,f10,f11,f12,f13,f14] _ (fun u hu=>hu.2.range) underlying70 rfl MQ) ?_
 try go_frame
 refine tp 2 ?_
 try go_frame
 refine' tk 3 ?_ ?_;rotate_left
 ·intro u hu;have c3:=(hu.1.2 3 _ rfl).1;have c4:=(hu.1.2 4 _ rfl).1;have c5:=(hu.1.2 5 _ rfl).1;clear hu;go_simp;try with_reducible rfl
 try go_frame
 refine tr 4 (fun K hK=>?_)
 go_simp
 obtain ⟨u1,hu1⟩:∃ u1,u1=(W3.alloc (.cells #[.int .i64 wa,.int .i64 wb,.int .i64 wc] 32)).drew:=⟨_,rfl⟩
 have d1:Below W3.heap.size W3 u1:=by rw [hu1];exact ((Below.refl _ _).alloc (Nat.le_refl _) _).drew
 have hS1:=Lh W3.heap.size 0 1 1 (fun _=>wa) (fun _=>wb) (fun _=>wc) u1 (by decide) (by rw [hu1];simp) (fun i hi=>by
  obtain rfl:i=0:=by omega
  rw [hu1];exact ⟨by simp [go_sem],by simp [go_sem],by simp [go_sem]⟩)
 rw [PT,PT,PT] at hS1
 refine hK.out _ _ (HS.out _ (hu1 ▸ d1)) (fun gI=>?_)
 rw [<- hu1] at gI |-
 clear hu1
 clear hK K gH;have gH:=gI;clear gI
 try go_frame
 refine tr 5 (fun K hK=>?_)
 go_simp
 refine hS1.mono ?_
 rintro e u2 ⟨rfl,hb2⟩
 have d2:=ah d1 hb2
 clear hS1
 go_wp2_with fail
 refine hK.out _ _ (HS.out _ d2) (fun gI=>?_)
 clear hK K gH;have gH:=gI;clear gI
 try go_frame
 refine tr 7 (fun K hK=>?_)
 go_simp
 refine (abS.out u2 (ah B3.out d2)).mono ?_
 rintro e u3 ⟨rfl,hb3⟩
 have d3:=ah d2 hb3
 go_wp2_with fail
 refine hK.out _ _ (HS.out _ d3) (fun gI=>?_)
 clear hK K gH;have gH:=gI;clear gI
 try go_frame
 refine tp 8 ?_
 try go_frame
 have hZ3:=HZ.out u3 d3
 obtain ⟨W4,lH⟩:∃ W4,W4=u3.setCells (w.heap.size+1+1) 0 [v0,v1,v2,.int .i64 wa,.int .i64 wb,.int .i64 wc,v6,v7,v8,v9,v10,v11,v12,v13,v14,v15,f0,f1,f2,f3,f4,f5,f6,f7,f8,f9,f10,f11,f12,f13,f14,.int .i64 (aQ wa),.int .i64 (aQ wb),.int .i64 (aQ wc),.int .i64 fa,.int .i64 fb,.int .i64 fc]:=⟨_,rfl⟩
 have Z7:af W4 (w.heap.size+1+1) [v0,v1,v2,.int .i64 wa,.int .i64 wb,.int .i64 wc,v6,v7,v8,v9,v10,v11,v12,v13,v14,v15,f0,f1,f2,f3,f4,f5,f6,f7,f8,f9,f10,f11,f12,f13,f14,.int .i64 (aQ wa),.int .i64 (aQ wb),.int .i64 (aQ wc),.int .i64 fa,.int .i64 fb,.int .i64 fc]:=by rw [lH];exact Xx hZ3 rfl
 have nC:Hid (Below w.heap.size w W4):=by rw [Hid,lH];exact cu (ah B3.out d3) (by omega)
 have hk4:Kept (fun b=>b≠w.heap.size+1+1) u3 W4:=by rw [lH];exact dP (fun h=>h rfl)
 have Un:Hid (fu A W4 [v0,v1,v2,.int .i64 wa,.int .i64 wb,.int .i64 wc,v6,v7,v8,v9,v10,v11,v12,v13,v14,v15,f0,f1,f2,f3,f4,f5,f6,f7,f8,f9,f10,f11,f12,f13,f14,.int .i64 (aQ wa),.int .i64 (aQ wb),.int .i64 (aQ wc),.int .i64 fa,.int .i64 fb,.int .i64 fc] (y,x,(aQ wa,aQ wb,aQ wc),(fa,fb,fc))):=HM.out _ nC.out
 have kD:TU w [v0,v1,v2,.int .i64 wa,.int .i64 wb,.int .i64 wc,v6,v7,v8,v9,v10,v11,v12,v13,v14,v15] [f0,f1,f2,f3,f4,f5,f6,f7,f8,f9,f10,f11,f12,f13,f14] W4:=⟨(HS.out _ d3).1.kept hk4 (by omega),(HS.out _ d3).2.kept hk4 (by omega)⟩
 have fE:Hid (W4.rangeAt (w.heap.size+1+1) 0 [v0,v1,v2,.int .i64 wa,.int .i64 wb,.int .i64 wc,v6,v7,v8,v9,v10,v11,v12,v13,v14,v15,f0,f1,f2,f3,f4,f5,f6,f7,f8,f9,f10,f11,f12,f13,f14,.int .i64 (aQ wa),.int .i64 (aQ wb),.int .i64 (aQ wc),.int .i64 fa,.int .i64 fb,.int .i64 fc]):=Z7.range
 have hT3:u3.there (w.heap.size+1+1) 0 ([v0,v1,v2,.int .i64 wa,.int .i64 wb,.int .i64 wc,v6,v7,v8,v9,v10,v11,v12,v13,v14,v15,f0,f1,f2,f3,f4,f5,f6,f7,f8,f9,f10,f11,f12,f13,f14,.int .i64 (aQ wa),.int .i64 (aQ wb),.int .i64 (aQ wc),.int .i64 fa,.int .i64 fb,.int .i64 fc]:List Value).toArray.size:=hZ3.there
 have hE4:W4=u3.setCells (w.heap.size+1+1) 0 ([v0,v1,v2,.int .i64 wa,.int .i64 wb,.int .i64 wc,v6,v7,v8,v9,v10,v11,v12,v13,v14,v15,f0,f1,f2,f3,f4,f5,f6,f7,f8,f9,f10,f11,f12,f13,f14,.int .i64 (aQ wa),.int .i64 (aQ wb),.int .i64 (aQ wc),.int .i64 fa,.int .i64 fb,.int .i64 fc]:List Value).toArray.toList:=lH
 clear lH hk4 Z7 hZ3 HM
 refine ts 9 (fun K hK=>?_)
 refine EI (by rfl) (wp_store_mid 148 _ _ rfl (w.heap.size+1+1) 0 ([v0,v1,v2,.int .i64 wa,.int .i64 wb,.int .i64 wc,v6,v7,v8,v9,v10,v11,v12,v13,v14,v15,f0,f1,f2,f3,f4,f5,f6,f7,f8,f9,f10,f11,f12,f13,f14,.int .i64 (aQ wa),.int .i64 (aQ wb),.int .i64 (aQ wc),.int .i64 fa,.int .i64 fb,.int .i64 fc]:List Value).toArray rfl rfl hT3 LJ hO.out ?_)
 refine WK hE4 ?_
 refine hK.out _ _ kD (fun gI=>?_)
 clear hK K gH hE4 hT3
 refine wpAnyH_done (by kernel_rfl) ?_ _
 refine NoPanic.normal ?_
 go_wp2_with fail
 refine bodyPost_ret (v:=.agg ([v0,v1,v2,.int .i64 wa,.int .i64 wb,.int .i64 wc,v6,v7,v8,v9,v10,v11,v12,v13,v14,v15,f0,f1,f2,f3,f4,f5,f6,f7,f8,f9,f10,f11,f12,f13,f14,.int .i64 (aQ wa),.int .i64 (aQ wb),.int .i64 (aQ wc),.int .i64 fa,.int .i64 fb,.int .i64 fc]:List Value).toArray) (En (p:=4) (ty:=148) rfl _ _ (w.heap.size+1+1) [v0,v1,v2,.int .i64 wa,.int .i64 wb,.int .i64 wc,v6,v7,v8,v9,v10,v11,v12,v13,v14,v15,f0,f1,f2,f3,f4,f5,f6,f7,f8,f9,f10,f11,f12,f13,f14,.int .i64 (aQ wa),.int .i64 (aQ wb),.int .i64 (aQ wc),.int .i64 fa,.int .i64 fb,.int .i64 fc] _ rfl fE.out underlying148 rfl LJ) rfl ⟨[v0,v1,v2,.int .i64 wa,.int .i64 wb,.int .i64 wc,v6,v7,v8,v9,v10,v11,v12,v13,v14,v15,f0,f1,f2,f3,f4,f5,f6,f7,f8,f9,f10,f11,f12,f13,f14,.int .i64 (aQ wa),.int .i64 (aQ wb),.int .i64 (aQ wc),.int .i64 fa,.int .i64 fb,.int .i64 fc],rfl,Un.out,nC.out⟩
abbrev xu:List Value:=[.int .i64 1,.func (.func 94) #[] #[],.int .i64 2,.func (.func 95) #[] #[],.int .i64 3,.func (.func 96) #[] #[],.int .i64 4,.func (.func 97) #[] #[],.int .i64 5,.func (.func 98) #[] #[],.int .i64 6,.func (.func 99) #[] #[],.int .i64 7,.func (.func 100) #[] #[],.int .i64 8,.func (.func 101) #[] #[]]
theorem zEJ (w:World):Calls prog 71 #[] w fun e w'=>e=.returned (.slice (some ⟨w.heap.size,0,none⟩) 8 8)/\af w' w.heap.size xu/\Below w.heap.size w w':=by
 have hb:Hid (af (w.alloc (.cells #[.int .i64 1,.func (.func 94) #[] #[],.int .i64 2,.func (.func 95) #[] #[],.int .i64 3,.func (.func 96) #[] #[],.int .i64 4,.func (.func 97) #[] #[],.int .i64 5,.func (.func 98) #[] #[],.int .i64 6,.func (.func 99) #[] #[],.int .i64 7,.func (.func 100) #[] #[],.int .i64 8,.func (.func 101) #[] #[]] 154)) w.heap.size xu):=af.new w 154 xu
 have hg:Hid (Below w.heap.size w (w.alloc (.cells #[.int .i64 1,.func (.func 94) #[] #[],.int .i64 2,.func (.func 95) #[] #[],.int .i64 3,.func (.func 96) #[] #[],.int .i64 4,.func (.func 97) #[] #[],.int .i64 5,.func (.func 98) #[] #[],.int .i64 6,.func (.func 99) #[] #[],.int .i64 7,.func (.func 100) #[] #[],.int .i64 8,.func (.func 101) #[] #[]] 154))):=by rw [Hid];go_grown
 go_enter func71,ntmps71
 go_wp2_with fail
 go_ret
 exact ⟨rfl,hb.out,hg.out⟩
def rf (y:aB) (x:bC) (k:Nat):Bool:=((Db y x).getD k default).2
def WR (k g:Nat):Prop :=
 xu[k*2]?=some (.int .i64 ((k+1:Nat):Int))/\xu[k*2+1]?=some (.func (.func g) #[] #[])/\(∀ args w,(callFunc g args).run prog w=.ok (.enter g args) w) /\
 ∀ (cs:List Value) (A:Where) (y:aB) (x:bC) (u:World),fu A u cs (y,x,sF y,gB x)->Calls prog g #[.agg cs.toArray] u fun e w'=>e=.returned (.bool (rf y x k))/\Below u.heap.size u w'
theorem Fe {k:Nat} (hk:k<8):∃ g,WR k g:=by
 obtain rfl | rfl | rfl | rfl | rfl | rfl | rfl | rfl:k=0\/k=1\/k=2\/k=3\/k=4\/k=5\/k=6\/k=7:=by omega
 ·exact ⟨94,rfl,rfl,enters_of func94 (by kernel_rfl) rfl,fun cs A y x u h=>FC cs A _ u h⟩
 ·exact ⟨95,rfl,rfl,enters_of func95 (by kernel_rfl) rfl,fun cs A y x u h=>zE8 cs A _ u h⟩
 ·exact ⟨96,rfl,rfl,enters_of func96 (by kernel_rfl) rfl,fun cs A y x u h=>zD5 cs A _ u h⟩
 ·exact ⟨97,rfl,rfl,enters_of func97 (by kernel_rfl) rfl,fun cs A y x u h=>zDv cs A _ u h⟩
 ·exact ⟨98,rfl,rfl,enters_of func98 (by kernel_rfl) rfl,fun cs A y x u h=>zHG cs A _ u h⟩
 ·exact ⟨99,rfl,rfl,enters_of func99 (by kernel_rfl) rfl,fun cs A y x u h=>zDA cs A _ u h⟩
 ·exact ⟨100,rfl,rfl,enters_of func100 (by kernel_rfl) rfl,fun cs A y x u h=>zDB cs A _ u h⟩
 ·exact ⟨101,rfl,rfl,enters_of func101 (by kernel_rfl) rfl,fun cs A y x u h=>zCh cs A _ u h⟩
end Go.Proofs.YtgikfenllgldoaaGreat
