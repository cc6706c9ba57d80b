/- Functions of the program, each walked under the conditions that its theorem names. -/
import Derived.Laws.EntriesVeiled
import Derived.Test.YtgikfenllgldoaaGreatQ23
import Derived.Test.YtgikfenllgldoaaGreatQ24
set_option linter.unusedSimpArgs false
set_option maxRecDepth 100000
set_option maxHeartbeats 32000000
namespace Go.Proofs.YtgikfenllgldoaaGreat
open Go.Proofs.Tryz
open Go.RowKit Go.Maps
theorem Y6 (cs:List Value) (q:aX) (A:Where) (w:World) (h:Hid (av A w cs q)):Calls prog 45 #[.agg cs.toArray] w fun e w'=>e=.returned (.string q.1)/\Below w.heap.size w w':=by
 obtain ⟨_,v1,v2,v3,v4,v5,v6,v7,v8,rfl⟩:=h.out.lY
 obtain ⟨W1,hW1⟩:∃ W1,W1=w.alloc (.cells #[.string q.1,v1,v2,v3,v4,v5,v6,v7,v8] 56):=⟨_,rfl⟩
 have HB:Hid (Below w.heap.size w W1):=by rw [hW1];exact (Below.refl _ _).alloc (Nat.le_refl _) _
 have c0:=((af.new w 56 [.string q.1,v1,v2,v3,v4,v5,v6,v7,v8]).2 0 _ rfl).1
 have HW:Hid (W1=w.alloc (.cells #[.string q.1,v1,v2,v3,v4,v5,v6,v7,v8] 56)):=hW1
 rw [show (w.alloc (.cells ([.string q.1,v1,v2,v3,v4,v5,v6,v7,v8]:List Value).toArray 56))=W1 from hW1.symm] at c0
 clear hW1 h
 go_enter func45,ntmps45
 go_wp2_with fail
 go_ret
 exact ⟨by simp,HW.out ▸ HB.out⟩
theorem zE0 (a:Option Addr) (n cap:Nat) (A:Where) (L:List aX) (w:World) (hL:Hid (ag av 9 112 A w a n cap L)):Calls prog 44 #[.slice a n cap,.func (.func 45) #[] #[]] w fun e w'=>∃ v,e=.returned v/\Row av 9 (fun b=>A b/\b<w.heap.size) w w' 56 v (aZ L):=by
 have hmm:=EE
 have hlen:=hL.out.len (by decide)
 have hn:Hid (L.length=n):=hL.out.1
 have hbb:Hid (n*112<=140737488351232):=hL.out.2.2.2.1
 obtain ⟨W1,hW1⟩:∃ W1,W1=w.alloc (.map #[] 0):=⟨_,rfl⟩
 have H0:Hid (kQ A w W1 w.heap.size 0 (.slice none 0 0) (aZ (L.take 0))):=by
  rw [hW1]
  exact ⟨(bL.made w).as (fun s=>rfl),(Row.nil _ w _).on av.ae ((Below.refl _ _).alloc (Nat.le_refl _) _)⟩
 go_enter func44,ntmps44
 go_wp2_with fail
 rw [<- hW1]
 clear hW1
 go_loopw [5,16] (fun v i wr=>∃ k:Nat,k<=n/\i=.int .i64 k/\Hid (kQ A w wr w.heap.size k v (aZ (L.take k)))) (fun _ i _=>n - (intOf i).toNat)
 case atStart=>exact ⟨0,Nat.zero_le _,rfl,H0⟩
 case round =>
  obtain ⟨k,hk,rfl,hst⟩:=hrel
  by_cases hlt:k<n
  ·have hltz:(k:Int)<(n:Int):=by omega
   have hkl:k<L.length:=by rw [hn.out];exact hlt
   have hbw:Below w.heap.size w wr:=hst.out.row.below
   obtain ⟨D,off,rfl,hD,_,cs,hr,hv⟩:=hL.out.get hlt
   have HT:Hid (aZ (L.take (k+1))=gW (aZ (L.take k)) (L.getD k default)):=Qr L hkl
   have oC:Hid ((aZ (L.take k)).length<=k):=Qq L k (by omega)
   generalize L.getD k default=q at hr HT
   generalize aZ (L.take k)=G at hst HT oC
   have oh:av (fun b=>A b/\b<w.heap.size) w cs q:=av.ae.weak hr (fun b hb h=>⟨h,hb⟩)
   obtain ⟨hsz,v1,v2,v3,v4,v5,v6,v7,v8,rfl⟩:=hr.lY
   have HV:Hid (wr.rangeAt D (off+k*9) [.string q.1,v1,v2,v3,v4,v5,v6,v7,v8]):=fun j v hj=>(hbw.cell hD).trans (hv j v hj)
   have hi:(prog.info? 56).map (·.size)=some ([.string q.1,v1,v2,v3,v4,v5,v6,v7,v8]:List Value).length:=LV
   have H1:Hid ((([.string q.1,v1,v2,v3,v4,v5,v6,v7,v8]:List Value).toArray).all (·.oneCell')=true):=all_oneCell_toArray (av.ae.one hr)
   have HA:Hid (av (fun b=>A b/\b<w.heap.size) w [.string q.1,v1,v2,v3,v4,v5,v6,v7,v8] q):=oh
   clear hr hv oh
   obtain ⟨wb,hwb⟩:∃ wb,wb=(wr.alloc (.cells #[.string ⟨#[]⟩,.slice none 0 0,.slice none 0 0,.bool false,.int .i64 0,.int .i64 0,.int .i64 0,.int .i64 0,.int .i64 0] 56)).setCells wr.heap.size 0 [.string q.1,v1,v2,v3,v4,v5,v6,v7,v8]:=⟨_,rfl⟩
   have eD:Hid ((wr.alloc (.cells #[.string ⟨#[]⟩,.slice none 0 0,.slice none 0 0,.bool false,.int .i64 0,.int .i64 0,.int .i64 0,.int .i64 0,.int .i64 0] 56)).there wr.heap.size 0 9):=(af.new wr 56 [.string ⟨#[]⟩,.slice none 0 0,.slice none 0 0,.bool false,.int .i64 0,.int .i64 0,.int .i64 0,.int .i64 0,.int .i64 0]).there
   have fE:Hid (wb.rangeAt wr.heap.size 0 [.string q.1,v1,v2,v3,v4,v5,v6,v7,v8]):=by rw [hwb];exact World.rangeAt_setCells_same _ _ _ _ eD.out
   have eF:Hid (Below wr.heap.size wr wb):=by rw [hwb];exact cu ((Below.refl _ _).alloc (Nat.le_refl _) _) (Nat.le_refl _)
   have nz:Hid (wr.heap.size<wb.heap.size):=World.block_lt_of_cell? wb ⟨wr.heap.size,0+0,none⟩ (fE.out 0 _ rfl)
   have gZ:Hid (wb=(wr.alloc (.cells #[.string ⟨#[]⟩,.slice none 0 0,.slice none 0 0,.bool false,.int .i64 0,.int .i64 0,.int .i64 0,.int .i64 0,.int .i64 0] 56)).setCells wr.heap.size 0 (([.string q.1,v1,v2,v3,v4,v5,v6,v7,v8]:List Value).toArray).toList):=hwb
   clear hwb
   have HP:Hid (∀ u,Below wb.heap.size wb u->av (fun b=>A b/\b<w.heap.size) u [.string q.1,v1,v2,v3,v4,v5,v6,v7,v8] q):=fun u hb=>av.ae.kept HA.out (Kept.below (ah (ah hbw eF.out) hb))
   go_wp2_with (first | (refine wpList_load_mid rfl 56 _ rfl D (off+k*9) rfl [.string q.1,v1,v2,v3,v4,v5,v6,v7,v8] _ HV.out underlying56 rfl hi ?_) | (refine wpList_store_mid rfl 56 _ _ rfl wr.heap.size 0 (([.string q.1,v1,v2,v3,v4,v5,v6,v7,v8]:List Value).toArray) rfl rfl eD.out hi H1.out ?_;refine iJ gZ.out ?_) | (refine wpList_load_mid rfl 56 _ rfl wr.heap.size 0 rfl [.string q.1,v1,v2,v3,v4,v5,v6,v7,v8] _ fE.out underlying56 rfl hi ?_))
   refine (Y6 [.string q.1,v1,v2,v3,v4,v5,v6,v7,v8] q _ wb (HP.out wb (Below.refl _ _))).mono ?_
   rintro e wc ⟨rfl,hbc⟩
   have HSc:Hid (bL wc w.heap.size k (fun s=>hasB ay (ik G) s)):=(hst.out.set.on eF.out).on hbc
   cases hq:hasB ay (ik G) q.1
   ·have qy:Hid (∀ u,Below wc.heap.size wc u->bL u w.heap.size k (fun s=>hasB ay (ik G) s)):=fun u hb=>HSc.out.on hb
    have nA:Hid (∀ u,Below wc.heap.size wc u->u.rangeAt wr.heap.size 0 [.string q.1,v1,v2,v3,v4,v5,v6,v7,v8]/\wr.heap.size<u.heap.size):=fun u hb=>⟨tJ (tJ fE.out hbc nz.out) hb (Nat.lt_of_lt_of_le nz.out hbc.size),Nat.lt_of_lt_of_le (Nat.lt_of_lt_of_le nz.out hbc.size) hb.size⟩
    have HQ:Hid (hasB ay (ik G) q.1=false):=hq
    clear hq
    obtain ⟨wd,hwd⟩:∃ wd,wd=wc.alloc (.cells #[] 139):=⟨_,rfl⟩
    have hbd:Below wc.heap.size wc wd:=by rw [hwd];exact (Below.refl _ _).alloc (Nat.le_refl _) _
    have rY:=(nA.out wd hbd).1
    have qA:Hid (wd.rangeAt wr.heap.size 0 [.string q.1,v1,v2,v3,v4,v5,v6,v7,v8]):=rY
    clear rY
    go_wp2_with (first | (at_lookup;refine vJ rfl _ _ 138 rfl underlying138 w.heap.size k _ q.1 hsz rfl HSc.out rfl false HQ.out ?_) | (refine iJ hwd ?_;refine wpList_load_mid rfl 56 _ rfl wr.heap.size 0 rfl [.string q.1,v1,v2,v3,v4,v5,v6,v7,v8] _ qA.out underlying56 rfl hi ?_))
    rw [<- hwd]
    refine (Y6 [.string q.1,v1,v2,v3,v4,v5,v6,v7,v8] q _ wd (HP.out wd (ah hbc hbd))).mono ?_
    rintro e we ⟨rfl,hbe⟩
    have hce:Below wc.heap.size wc we:=ah hbd hbe
    have ve:Hid (bL we w.heap.size k (fun s=>hasB ay (ik G) s)):=qy.out we hce
    have hmb:w.heap.size<wr.heap.size:=hst.out.set.lt
    have AB:Hid (∀ wf,we.grownBy wf (some w.heap.size)->wf.rangeAt wr.heap.size 0 [.string q.1,v1,v2,v3,v4,v5,v6,v7,v8]):=fun wf hg=>L6 (nA.out we hce).1 (nA.out we hce).2 hg (fun e=>by injection e with e;omega)
    have hrw:Row av 9 (fun b=>A b/\b<w.heap.size) w we 56 u5 G:=((hst.out.row.on av.ae eF.out).on av.ae hbc).on av.ae hce
    have hne:Value.ownBlock u5≠some w.heap.size:=hrw.uA ve.out
    have HRW:Hid (∀ wf,we.grownBy wf (some w.heap.size)->Row av 9 (fun b=>A b/\b<w.heap.size) w wf 56 u5 G):=fun wf hg=>hrw.grown av.ae hg (fun b hb=>by injection hb with hb;subst hb;exact ⟨Nat.le_refl _,hne,fun h=>Nat.lt_irrefl _ h.2⟩)
    have HR3:Hid (∀ wf,we.grownBy wf (some w.heap.size)->Row av 9 (fun b=>A b/\b<w.heap.size) w (wf.alloc (.cells #[.string q.1,v1,v2,v3,v4,v5,v6,v7,v8] 56)) 56 u5 G):=fun wf hg=>(HRW.out wf hg).on av.ae ((Below.refl _ _).alloc (Nat.le_refl _) _)
    have gV:Hid (∀ wf,we.grownBy wf (some w.heap.size)->aW av 9 (fun b=>(fun b=>A b/\b<w.heap.size) b/\Value.ownBlock u5≠some b) (wf.alloc (.cells #[.string q.1,v1,v2,v3,v4,v5,v6,v7,v8] 56)) [.string q.1,v1,v2,v3,v4,v5,v6,v7,v8] [q]):=fun wf hg=>by
     have h3:=HR3.out wf hg
     exact nJ av.ae (av.ae.weak (av.ae.kept HA.out (Kept.below h3.below)) (fun b _ hb=>⟨hb,fun e=>by have h1:=(h3.lt e).1;have h2:=hb.2;omega⟩))
    have HX:Hid (∀ wf:World,∀ j v,([.string q.1,v1,v2,v3,v4,v5,v6,v7,v8]:List Value)[j]?=some v->(wf.alloc (.cells #[.string q.1,v1,v2,v3,v4,v5,v6,v7,v8] 56)).cell? ((⟨wf.heap.size,0,none⟩:Addr).add j)=some v):=fun wf=>nY wf _ 56
    have HO:Hid (∀ v∈[.string q.1,v1,v2,v3,v4,v5,v6,v7,v8],v.oneCell'=true):=av.ae.one HA.out
    have gU:Hid ((G.length+[q].length)*112<=140737488355328):=by have h1:=qC hbb.out hlt;have h2:=oC.out;rw [Hid,List.length_singleton];omega
    have hkn:k<140737488355328:=by omega
    have HE:Hid (∀ (wf:World) (vn:Value) (w4:World),bL wf w.heap.size (k+1) (fun t=>hasB ay (ik G) t || ay t q.1)->Row av 9 (fun b=>A b/\b<w.heap.size) w w4 56 vn (G++[q])->(wf.alloc (.cells #[.string q.1,v1,v2,v3,v4,v5,v6,v7,v8] 56)).grownBy w4 (Value.ownBlock u5)->kQ A w w4 w.heap.size (k+1) vn (aZ (L.take (k+1)))):=fun wf vn w4 hs hr hg=>by
     have e1:aZ (L.take (k+1))=G++[q]:=by rw [HT.out];unfold gW;rw [HQ.out];rfl
     rw [e1]
     exact ⟨((hs.on ((Below.refl _ _).alloc (Nat.le_refl _) _)).grown hg hne).as (fun s=>by rw [show ik (G++[q])=ik G++[q.1] by simp [ik],Ey]),hr⟩
    clear hrw hne nA qy HRW hce hbe hbd hwd qA HV eD gZ H1
    go_wp2_with (first | (at_mapUpdate;go_must (refine Eg rfl _ _ _ 138 rfl underlying138 w.heap.size k _ q.1 hsz hkn rfl ve.out rfl rfl ?_);intro wf wR hgf) | (refine wpList_load_mid rfl 56 _ rfl wr.heap.size 0 rfl [.string q.1,v1,v2,v3,v4,v5,v6,v7,v8] _ (AB.out _ hgf) underlying56 rfl hi ?_) | (at_builtin;go_must (refine mh av.ae (A:=(fun b=>A b/\b<w.heap.size)) (w0:=w) rfl _ _ 23 56 rfl _ 112 Yh underlying23 rfl (by decide) (by decide) u5 G rfl (HR3.out _ hgf) ⟨wf.heap.size,0,none⟩ 1 1 _ [q] rfl rfl (gV.out _ hgf) (HX.out _) HO.out gU.out ?_);intro vn w4 hrow4 hg4))
    have HZ:=HE.out wf vn w4 wR hrow4 hg4
    go_roundw
    case rel=>exact ⟨k+1,by omega,by go_num,HZ⟩
    case measure=>simp [intOf];omega
   ·have HZ:Hid (kQ A w (wc.alloc (.cells #[] 139)) w.heap.size (k+1) u5 (aZ (L.take (k+1)))):=by
     have e1:aZ (L.take (k+1))=G:=by rw [HT.out];unfold gW;rw [hq];rfl
     rw [Hid,e1]
     have h1:=((hst.out.on eF.out).on hbc).on ((Below.refl wc.heap.size wc).alloc (Nat.le_refl _) (.cells #[] 139))
     exact ⟨h1.set.mono (Nat.le_succ _),h1.row⟩
    clear HV eD gZ H1 HT
    go_wp2_with (at_lookup;refine vJ rfl _ _ 138 rfl underlying138 w.heap.size k _ q.1 hsz rfl HSc.out rfl true hq ?_)
    go_roundw
    case rel=>exact ⟨k+1,by omega,by go_num,HZ⟩
    case measure=>simp [intOf];omega
  ·have oo:L.take k=L:=List.take_of_length_le (by rw [hn.out];omega)
   rw [oo] at hst
   have hlz:¬ ((k:Int)<(n:Int)):=by omega
   go_wp2_with fail
   go_ret
   exact ⟨_,rfl,hst.out.row⟩
theorem Qv (cs:List Value) (q:aX) (A:Where) (w:World) (h:Hid (av A w cs q)):Calls prog 19 #[.agg cs.toArray] w fun e w'=>e=.returned (.string q.1)/\Below w.heap.size w w':=by
 obtain ⟨_,v1,v2,v3,v4,v5,v6,v7,v8,rfl⟩:=h.out.lY
 obtain ⟨W1,hW1⟩:∃ W1,W1=w.alloc (.cells #[.string q.1,v1,v2,v3,v4,v5,v6,v7,v8] 56):=⟨_,rfl⟩
 have HB:Hid (Below w.heap.size w W1):=by rw [hW1];exact (Below.refl _ _).alloc (Nat.le_refl _) _
 have c0:=((af.new w 56 [.string q.1,v1,v2,v3,v4,v5,v6,v7,v8]).2 0 _ rfl).1
 have HW:Hid (W1=w.alloc (.cells #[.string q.1,v1,v2,v3,v4,v5,v6,v7,v8] 56)):=hW1
 rw [show (w.alloc (.cells ([.string q.1,v1,v2,v3,v4,v5,v6,v7,v8]:List Value).toArray 56))=W1 from hW1.symm] at c0
 clear hW1 h
 go_enter func19,ntmps19
 go_wp2_with fail
 go_ret
 exact ⟨by simp,HW.out ▸ HB.out⟩
theorem zD7 (a:Option Addr) (n cap:Nat) (A:Where) (L:List aX) (w:World) (hL:Hid (ag av 9 112 A w a n cap L)):Calls prog 40 #[.slice a n cap,.func (.func 19) #[] #[]] w fun e w'=>∃ v,e=.returned v/\Row av 9 (fun b=>A b/\b<w.heap.size) w w' 56 v (aZ L):=by
 have hmm:=EE
 have hlen:=hL.out.len (by decide)
 have hn:Hid (L.length=n):=hL.out.1
 have hbb:Hid (n*112<=140737488351232):=hL.out.2.2.2.1
 obtain ⟨W1,hW1⟩:∃ W1,W1=w.alloc (.map #[] 0):=⟨_,rfl⟩
 have H0:Hid (kQ A w W1 w.heap.size 0 (.slice none 0 0) (aZ (L.take 0))):=by
  rw [hW1]
  exact ⟨(bL.made w).as (fun s=>rfl),(Row.nil _ w _).on av.ae ((Below.refl _ _).alloc (Nat.le_refl _) _)⟩
 go_enter func40,ntmps40
 go_wp2_with fail
 rw [<- hW1]
 clear hW1
 go_loopw [5,16] (fun v i wr=>∃ k:Nat,k<=n/\i=.int .i64 k/\Hid (kQ A w wr w.heap.size k v (aZ (L.take k)))) (fun _ i _=>n - (intOf i).toNat)
 case atStart=>exact ⟨0,Nat.zero_le _,rfl,H0⟩
 case round =>
  obtain ⟨k,hk,rfl,hst⟩:=hrel
  by_cases hlt:k<n
  ·have hltz:(k:Int)<(n:Int):=by omega
   have hkl:k<L.length:=by rw [hn.out];exact hlt
   have hbw:Below w.heap.size w wr:=hst.out.row.below
   obtain ⟨D,off,rfl,hD,_,cs,hr,hv⟩:=hL.out.get hlt
   have HT:Hid (aZ (L.take (k+1))=gW (aZ (L.take k)) (L.getD k default)):=Qr L hkl
   have oC:Hid ((aZ (L.take k)).length<=k):=Qq L k (by omega)
   generalize L.getD k default=q at hr HT
   generalize aZ (L.take k)=G at hst HT oC
   have oh:av (fun b=>A b/\b<w.heap.size) w cs q:=av.ae.weak hr (fun b hb h=>⟨h,hb⟩)
   obtain ⟨hsz,v1,v2,v3,v4,v5,v6,v7,v8,rfl⟩:=hr.lY
   have HV:Hid (wr.rangeAt D (off+k*9) [.string q.1,v1,v2,v3,v4,v5,v6,v7,v8]):=fun j v hj=>(hbw.cell hD).trans (hv j v hj)
   have hi:(prog.info? 56).map (·.size)=some ([.string q.1,v1,v2,v3,v4,v5,v6,v7,v8]:List Value).length:=LV
   have H1:Hid ((([.string q.1,v1,v2,v3,v4,v5,v6,v7,v8]:List Value).toArray).all (·.oneCell')=true):=all_oneCell_toArray (av.ae.one hr)
   have HA:Hid (av (fun b=>A b/\b<w.heap.size) w [.string q.1,v1,v2,v3,v4,v5,v6,v7,v8] q):=oh
   clear hr hv oh
   obtain ⟨wb,hwb⟩:∃ wb,wb=(wr.alloc (.cells #[.string ⟨#[]⟩,.slice none 0 0,.slice none 0 0,.bool false,.int .i64 0,.int .i64 0,.int .i64 0,.int .i64 0,.int .i64 0] 56)).setCells wr.heap.size 0 [.string q.1,v1,v2,v3,v4,v5,v6,v7,v8]:=⟨_,rfl⟩
   have eD:Hid ((wr.alloc (.cells #[.string ⟨#[]⟩,.slice none 0 0,.slice none 0 0,.bool false,.int .i64 0,.int .i64 0,.int .i64 0,.int .i64 0,.int .i64 0] 56)).there wr.heap.size 0 9):=(af.new wr 56 [.string ⟨#[]⟩,.slice none 0 0,.slice none 0 0,.bool false,.int .i64 0,.int .i64 0,.int .i64 0,.int .i64 0,.int .i64 0]).there
   have fE:Hid (wb.rangeAt wr.heap.size 0 [.string q.1,v1,v2,v3,v4,v5,v6,v7,v8]):=by rw [hwb];exact World.rangeAt_setCells_same _ _ _ _ eD.out
   have eF:Hid (Below wr.heap.size wr wb):=by rw [hwb];exact cu ((Below.refl _ _).alloc (Nat.le_refl _) _) (Nat.le_refl _)
   have nz:Hid (wr.heap.size<wb.heap.size):=World.block_lt_of_cell? wb ⟨wr.heap.size,0+0,none⟩ (fE.out 0 _ rfl)
   have gZ:Hid (wb=(wr.alloc (.cells #[.string ⟨#[]⟩,.slice none 0 0,.slice none 0 0,.bool false,.int .i64 0,.int .i64 0,.int .i64 0,.int .i64 0,.int .i64 0] 56)).setCells wr.heap.size 0 (([.string q.1,v1,v2,v3,v4,v5,v6,v7,v8]:List Value).toArray).toList):=hwb
   clear hwb
   have HP:Hid (∀ u,Below wb.heap.size wb u->av (fun b=>A b/\b<w.heap.size) u [.string q.1,v1,v2,v3,v4,v5,v6,v7,v8] q):=fun u hb=>av.ae.kept HA.out (Kept.below (ah (ah hbw eF.out) hb))
   go_wp2_with (first | (refine wpList_load_mid rfl 56 _ rfl D (off+k*9) rfl [.string q.1,v1,v2,v3,v4,v5,v6,v7,v8] _ HV.out underlying56 rfl hi ?_) | (refine wpList_store_mid rfl 56 _ _ rfl wr.heap.size 0 (([.string q.1,v1,v2,v3,v4,v5,v6,v7,v8]:List Value).toArray) rfl rfl eD.out hi H1.out ?_;refine iJ gZ.out ?_) | (refine wpList_load_mid rfl 56 _ rfl wr.heap.size 0 rfl [.string q.1,v1,v2,v3,v4,v5,v6,v7,v8] _ fE.out underlying56 rfl hi ?_))
   refine (Qv [.string q.1,v1,v2,v3,v4,v5,v6,v7,v8] q _ wb (HP.out wb (Below.refl _ _))).mono ?_
   rintro e wc ⟨rfl,hbc⟩
   have HSc:Hid (bL wc w.heap.size k (fun s=>hasB ay (ik G) s)):=(hst.out.set.on eF.out).on hbc
   cases hq:hasB ay (ik G) q.1
   ·have qy:Hid (∀ u,Below wc.heap.size wc u->bL u w.heap.size k (fun s=>hasB ay (ik G) s)):=fun u hb=>HSc.out.on hb
    have nA:Hid (∀ u,Below wc.heap.size wc u->u.rangeAt wr.heap.size 0 [.string q.1,v1,v2,v3,v4,v5,v6,v7,v8]/\wr.heap.size<u.heap.size):=fun u hb=>⟨tJ (tJ fE.out hbc nz.out) hb (Nat.lt_of_lt_of_le nz.out hbc.size),Nat.lt_of_lt_of_le (Nat.lt_of_lt_of_le nz.out hbc.size) hb.size⟩
    have HQ:Hid (hasB ay (ik G) q.1=false):=hq
    clear hq
    obtain ⟨wd,hwd⟩:∃ wd,wd=wc.alloc (.cells #[] 139):=⟨_,rfl⟩
    have hbd:Below wc.heap.size wc wd:=by rw [hwd];exact (Below.refl _ _).alloc (Nat.le_refl _) _
    have rY:=(nA.out wd hbd).1
    have qA:Hid (wd.rangeAt wr.heap.size 0 [.string q.1,v1,v2,v3,v4,v5,v6,v7,v8]):=rY
    clear rY
    go_wp2_with (first | (at_lookup;refine vJ rfl _ _ 138 rfl underlying138 w.heap.size k _ q.1 hsz rfl HSc.out rfl false HQ.out ?_) | (refine iJ hwd ?_;refine wpList_load_mid rfl 56 _ rfl wr.heap.size 0 rfl [.string q.1,v1,v2,v3,v4,v5,v6,v7,v8] _ qA.out underlying56 rfl hi ?_))
    rw [<- hwd]
    refine (Qv [.string q.1,v1,v2,v3,v4,v5,v6,v7,v8] q _ wd (HP.out wd (ah hbc hbd))).mono ?_
    rintro e we ⟨rfl,hbe⟩
    have hce:Below wc.heap.size wc we:=ah hbd hbe
    have ve:Hid (bL we w.heap.size k (fun s=>hasB ay (ik G) s)):=qy.out we hce
    have hmb:w.heap.size<wr.heap.size:=hst.out.set.lt
    have AB:Hid (∀ wf,we.grownBy wf (some w.heap.size)->wf.rangeAt wr.heap.size 0 [.string q.1,v1,v2,v3,v4,v5,v6,v7,v8]):=fun wf hg=>L6 (nA.out we hce).1 (nA.out we hce).2 hg (fun e=>by injection e with e;omega)
    have hrw:Row av 9 (fun b=>A b/\b<w.heap.size) w we 56 u5 G:=((hst.out.row.on av.ae eF.out).on av.ae hbc).on av.ae hce
    have hne:Value.ownBlock u5≠some w.heap.size:=hrw.uA ve.out
    have HRW:Hid (∀ wf,we.grownBy wf (some w.heap.size)->Row av 9 (fun b=>A b/\b<w.heap.size) w wf 56 u5 G):=fun wf hg=>hrw.grown av.ae hg (fun b hb=>by injection hb with hb;subst hb;exact ⟨Nat.le_refl _,hne,fun h=>Nat.lt_irrefl _ h.2⟩)
    have HR3:Hid (∀ wf,we.grownBy wf (some w.heap.size)->Row av 9 (fun b=>A b/\b<w.heap.size) w (wf.alloc (.cells #[.string q.1,v1,v2,v3,v4,v5,v6,v7,v8] 56)) 56 u5 G):=fun wf hg=>(HRW.out wf hg).on av.ae ((Below.refl _ _).alloc (Nat.le_refl _) _)
    have gV:Hid (∀ wf,we.grownBy wf (some w.heap.size)->aW av 9 (fun b=>(fun b=>A b/\b<w.heap.size) b/\Value.ownBlock u5≠some b) (wf.alloc (.cells #[.string q.1,v1,v2,v3,v4,v5,v6,v7,v8] 56)) [.string q.1,v1,v2,v3,v4,v5,v6,v7,v8] [q]):=fun wf hg=>by
     have h3:=HR3.out wf hg
     exact nJ av.ae (av.ae.weak (av.ae.kept HA.out (Kept.below h3.below)) (fun b _ hb=>⟨hb,fun e=>by have h1:=(h3.lt e).1;have h2:=hb.2;omega⟩))
    have HX:Hid (∀ wf:World,∀ j v,([.string q.1,v1,v2,v3,v4,v5,v6,v7,v8]:List Value)[j]?=some v->(wf.alloc (.cells #[.string q.1,v1,v2,v3,v4,v5,v6,v7,v8] 56)).cell? ((⟨wf.heap.size,0,none⟩:Addr).add j)=some v):=fun wf=>nY wf _ 56
    have HO:Hid (∀ v∈[.string q.1,v1,v2,v3,v4,v5,v6,v7,v8],v.oneCell'=true):=av.ae.one HA.out
    have gU:Hid ((G.length+[q].length)*112<=140737488355328):=by have h1:=qC hbb.out hlt;have h2:=oC.out;rw [Hid,List.length_singleton];omega
    have hkn:k<140737488355328:=by omega
    have HE:Hid (∀ (wf:World) (vn:Value) (w4:World),bL wf w.heap.size (k+1) (fun t=>hasB ay (ik G) t || ay t q.1)->Row av 9 (fun b=>A b/\b<w.heap.size) w w4 56 vn (G++[q])->(wf.alloc (.cells #[.string q.1,v1,v2,v3,v4,v5,v6,v7,v8] 56)).grownBy w4 (Value.ownBlock u5)->kQ A w w4 w.heap.size (k+1) vn (aZ (L.take (k+1)))):=fun wf vn w4 hs hr hg=>by
     have e1:aZ (L.take (k+1))=G++[q]:=by rw [HT.out];unfold gW;rw [HQ.out];rfl
     rw [e1]
     exact ⟨((hs.on ((Below.refl _ _).alloc (Nat.le_refl _) _)).grown hg hne).as (fun s=>by rw [show ik (G++[q])=ik G++[q.1] by simp [ik],Ey]),hr⟩
    clear hrw hne nA qy HRW hce hbe hbd hwd qA HV eD gZ H1
    go_wp2_with (first | (at_mapUpdate;go_must (refine Eg rfl _ _ _ 138 rfl underlying138 w.heap.size k _ q.1 hsz hkn rfl ve.out rfl rfl ?_);intro wf wR hgf) | (refine wpList_load_mid rfl 56 _ rfl wr.heap.size 0 rfl [.string q.1,v1,v2,v3,v4,v5,v6,v7,v8] _ (AB.out _ hgf) underlying56 rfl hi ?_) | (at_builtin;go_must (refine mh av.ae (A:=(fun b=>A b/\b<w.heap.size)) (w0:=w) rfl _ _ 23 56 rfl _ 112 Yh underlying23 rfl (by decide) (by decide) u5 G rfl (HR3.out _ hgf) ⟨wf.heap.size,0,none⟩ 1 1 _ [q] rfl rfl (gV.out _ hgf) (HX.out _) HO.out gU.out ?_);intro vn w4 hrow4 hg4))
    have HZ:=HE.out wf vn w4 wR hrow4 hg4
    go_roundw
    case rel=>exact ⟨k+1,by omega,by go_num,HZ⟩
    case measure=>simp [intOf];omega
   ·have HZ:Hid (kQ A w (wc.alloc (.cells #[] 139)) w.heap.size (k+1) u5 (aZ (L.take (k+1)))):=by
     have e1:aZ (L.take (k+1))=G:=by rw [HT.out];unfold gW;rw [hq];rfl
     rw [Hid,e1]
     have h1:=((hst.out.on eF.out).on hbc).on ((Below.refl wc.heap.size wc).alloc (Nat.le_refl _) (.cells #[] 139))
     exact ⟨h1.set.mono (Nat.le_succ _),h1.row⟩
    clear HV eD gZ H1 HT
    go_wp2_with (at_lookup;refine vJ rfl _ _ 138 rfl underlying138 w.heap.size k _ q.1 hsz rfl HSc.out rfl true hq ?_)
    go_roundw
    case rel=>exact ⟨k+1,by omega,by go_num,HZ⟩
    case measure=>simp [intOf];omega
  ·have oo:L.take k=L:=List.take_of_length_le (by rw [hn.out];omega)
   rw [oo] at hst
   have hlz:¬ ((k:Int)<(n:Int)):=by omega
   go_wp2_with fail
   go_ret
   exact ⟨_,rfl,hst.out.row⟩
end Go.Proofs.YtgikfenllgldoaaGreat
namespace Go.Proofs.YtgikfenllgldoaaGreat
open Go.Proofs.Tryz
open Go.RowKit
theorem OB {y:aB} {x:bC} {k:Nat} (hk:k<8) (hn:∀ j,j<k->rf y x j=false) (hy:rf y x k=true):sD y x=((k+1:Nat):Int):=by
 simp only [rf,Db,sD,IG,yes] at *
 obtain rfl | rfl | rfl | rfl | rfl | rfl | rfl | rfl:k=0\/k=1\/k=2\/k=3\/k=4\/k=5\/k=6\/k=7:=by omega
 ·simp at hy;simp [hy]
 ·have n0:=hn 0 (by omega);simp at n0 hy;simp [n0,hy]
 ·have n0:=hn 0 (by omega);have n1:=hn 1 (by omega);simp at n0 n1 hy;simp [n0,n1,hy]
 ·have n0:=hn 0 (by omega);have n1:=hn 1 (by omega);have n2:=hn 2 (by omega);simp at n0 n1 n2 hy;simp [n0,n1,n2,hy]
 ·have n0:=hn 0 (by omega);have n1:=hn 1 (by omega);have n2:=hn 2 (by omega);have n3:=hn 3 (by omega);simp at n0 n1 n2 n3 hy;simp [n0,n1,n2,n3,hy]
 ·have n0:=hn 0 (by omega);have n1:=hn 1 (by omega);have n2:=hn 2 (by omega);have n3:=hn 3 (by omega);have n4:=hn 4 (by omega);simp at n0 n1 n2 n3 n4 hy;simp [n0,n1,n2,n3,n4,hy]
 ·have n0:=hn 0 (by omega);have n1:=hn 1 (by omega);have n2:=hn 2 (by omega);have n3:=hn 3 (by omega);have n4:=hn 4 (by omega);have n5:=hn 5 (by omega);simp at n0 n1 n2 n3 n4 n5 hy;simp [n0,n1,n2,n3,n4,n5,hy]
 ·have n0:=hn 0 (by omega);have n1:=hn 1 (by omega);have n2:=hn 2 (by omega);have n3:=hn 3 (by omega);have n4:=hn 4 (by omega);have n5:=hn 5 (by omega);have n6:=hn 6 (by omega);simp at n0 n1 n2 n3 n4 n5 n6 hy;simp [n0,n1,n2,n3,n4,n5,n6,hy]
theorem OA {y:aB} {x:bC} (hn:∀ j,j<8->rf y x j=false):sD y x=0:=by
 have n0:=hn 0 (by omega);have n1:=hn 1 (by omega);have n2:=hn 2 (by omega);have n3:=hn 3 (by omega);have n4:=hn 4 (by omega);have n5:=hn 5 (by omega);have n6:=hn 6 (by omega);have n7:=hn 7 (by omega)
 simp only [rf,Db,sD,IG,yes] at *
 simp at n0 n1 n2 n3 n4 n5 n6 n7
 simp [n0,n1,n2,n3,n4,n5,n6,n7]
theorem zEY (ds cs:List Value) (A:Where) (y:aB) (x:bC) (w:World) (h:Hid (aj A w ds y)) (h':Hid (aY A w cs x)):Calls prog 49 #[.agg ds.toArray,.agg cs.toArray] w fun e w'=>e=.returned (.int .i64 (sD y x))/\Below w.heap.size w w':=by
 have hiP:(prog.info? 41).map (·.size)=some ds.length:=by rw [aj.ae.len h.out];exact Xe
 have MQ:(prog.info? 70).map (·.size)=some cs.length:=by rw [aY.ae.len h'.out];exact XD
 obtain ⟨W2,hW2⟩:∃ W2,W2=(w.alloc (.cells ds.toArray 41)).alloc (.cells cs.toArray 70):=⟨_,rfl⟩
 have B2:Hid (Below w.heap.size w W2):=by rw [Hid,hW2];go_grown
 have HX:Hid (af W2 w.heap.size ds):=by rw [hW2];exact (af.new w 41 ds).on ((Below.refl _ _).alloc (Nat.le_refl _) _)
 have HY:Hid (af W2 (w.heap.size+1) cs):=by have h1:=af.new (w.alloc (.cells ds.toArray 41)) 70 cs;rw [Hid,hW2];simpa using h1
 have hV:=zEU ds cs A y x W2 (aj.ae.kept h.out (Kept.below B2.out)) (aY.ae.kept h'.out (Kept.below B2.out))
 have HW2:Hid (W2=(w.alloc (.cells ds.toArray 41)).alloc (.cells cs.toArray 70)):=hW2
 clear h h' hW2
 go_enter func49,ntmps49
 go_wp2_with (first | (refine Mi HW2.out ?_;refine wpList_load_mid rfl 41 _ rfl w.heap.size 0 rfl ds _ HX.out.range underlying41 rfl hiP ?_) | (refine wpList_load_mid rfl 70 _ rfl (w.heap.size+1) 0 rfl cs _ HY.out.range underlying70 rfl MQ ?_) | fail)
 clear HW2
 refine hV.mono ?_
 clear hV
 rintro e w3 ⟨vs,rfl,hv,hb3⟩
 have hl:vs.length=37:=fu.ae.len hv
 have hiV:(prog.info? 148).map (·.size)=some vs.toArray.size:=by have e:vs.toArray.size=37:=(by simp [hl]);rw [e];exact LJ
 have Sv:(prog.info? 148).map (·.size)=some vs.length:=by rw [hl];exact LJ
 have HO:Hid (vs.toArray.all (·.oneCell')=true):=all_oneCell_toArray (fu.ae.one hv)
 have HT:Hid ((w3.alloc (.cells #[.string ⟨#[]⟩,.int .i64 0,.slice none 0 0,.int .i64 0,.int .i64 0,.int .i64 0,.slice none 0 0,.slice none 0 0,.slice none 0 0,.slice none 0 0,.slice none 0 0,.slice none 0 0,.slice none 0 0,.slice none 0 0,.string ⟨#[]⟩,.string ⟨#[]⟩,.string ⟨#[]⟩,.slice none 0 0,.slice none 0 0,.bool false,.int .i64 0,.int .i64 0,.int .i64 0,.int .i64 0,.int .i64 0,.slice none 0 0,.int .i64 0,.int .i64 0,.int .i64 0,.slice none 0 0,.slice none 0 0,.int .i64 0,.int .i64 0,.int .i64 0,.int .i64 0,.int .i64 0,.int .i64 0] 148)).there w3.heap.size 0 vs.toArray.size):=by have e:vs.toArray.size=37:=(by simp [hl]);rw [Hid,e];exact (af.new w3 148 [.string ⟨#[]⟩,.int .i64 0,.slice none 0 0,.int .i64 0,.int .i64 0,.int .i64 0,.slice none 0 0,.slice none 0 0,.slice none 0 0,.slice none 0 0,.slice none 0 0,.slice none 0 0,.slice none 0 0,.slice none 0 0,.string ⟨#[]⟩,.string ⟨#[]⟩,.string ⟨#[]⟩,.slice none 0 0,.slice none 0 0,.bool false,.int .i64 0,.int .i64 0,.int .i64 0,.int .i64 0,.int .i64 0,.slice none 0 0,.int .i64 0,.int .i64 0,.int .i64 0,.slice none 0 0,.slice none 0 0,.int .i64 0,.int .i64 0,.int .i64 0,.int .i64 0,.int .i64 0,.int .i64 0]).there
 obtain ⟨W4,lH⟩:∃ W4,W4=(w3.alloc (.cells #[.string ⟨#[]⟩,.int .i64 0,.slice none 0 0,.int .i64 0,.int .i64 0,.int .i64 0,.slice none 0 0,.slice none 0 0,.slice none 0 0,.slice none 0 0,.slice none 0 0,.slice none 0 0,.slice none 0 0,.slice none 0 0,.string ⟨#[]⟩,.string ⟨#[]⟩,.string ⟨#[]⟩,.slice none 0 0,.slice none 0 0,.bool false,.int .i64 0,.int .i64 0,.int .i64 0,.int .i64 0,.int .i64 0,.slice none 0 0,.int .i64 0,.int .i64 0,.int .i64 0,.slice none 0 0,.slice none 0 0,.int .i64 0,.int .i64 0,.int .i64 0,.int .i64 0,.int .i64 0,.int .i64 0] 148)).setCells w3.heap.size 0 vs:=⟨_,rfl⟩
 have NK:Hid (af W4 w3.heap.size vs):=by rw [lH];exact Xx (af.new w3 148 [.string ⟨#[]⟩,.int .i64 0,.slice none 0 0,.int .i64 0,.int .i64 0,.int .i64 0,.slice none 0 0,.slice none 0 0,.slice none 0 0,.slice none 0 0,.slice none 0 0,.slice none 0 0,.slice none 0 0,.slice none 0 0,.string ⟨#[]⟩,.string ⟨#[]⟩,.string ⟨#[]⟩,.slice none 0 0,.slice none 0 0,.bool false,.int .i64 0,.int .i64 0,.int .i64 0,.int .i64 0,.int .i64 0,.slice none 0 0,.int .i64 0,.int .i64 0,.int .i64 0,.slice none 0 0,.slice none 0 0,.int .i64 0,.int .i64 0,.int .i64 0,.int .i64 0,.int .i64 0,.int .i64 0]) (by rw [hl];rfl)
 have B4:Hid (Below w3.heap.size w3 W4):=by rw [Hid,lH];exact cu ((Below.refl _ _).alloc (Nat.le_refl _) _) (Nat.le_refl _)
 have HW4:Hid (W4=(w3.alloc (.cells #[.string ⟨#[]⟩,.int .i64 0,.slice none 0 0,.int .i64 0,.int .i64 0,.int .i64 0,.slice none 0 0,.slice none 0 0,.slice none 0 0,.slice none 0 0,.slice none 0 0,.slice none 0 0,.slice none 0 0,.slice none 0 0,.string ⟨#[]⟩,.string ⟨#[]⟩,.string ⟨#[]⟩,.slice none 0 0,.slice none 0 0,.bool false,.int .i64 0,.int .i64 0,.int .i64 0,.int .i64 0,.int .i64 0,.slice none 0 0,.int .i64 0,.int .i64 0,.int .i64 0,.slice none 0 0,.slice none 0 0,.int .i64 0,.int .i64 0,.int .i64 0,.int .i64 0,.int .i64 0,.int .i64 0] 148)).setCells w3.heap.size 0 vs.toArray.toList):=by rw [Hid,lH]
 have Un:Hid (∀ u,Below W4.heap.size W4 u->fu A u vs (y,x,sF y,gB x)):=fun u hb=>fu.ae.kept hv (Kept.below (ah B4.out hb))
 have B04:Hid (Below w.heap.size w W4):=ah (ah B2.out hb3) B4.out
 clear lH hv hb3 HX HY B2 hl
 go_wp2_with (first | (refine wpList_store_mid rfl 148 _ _ rfl w3.heap.size 0 vs.toArray rfl rfl HT.out hiV HO.out ?_;refine Mi HW4.out ?_) | fail)
 refine (zEJ W4).mono ?_
 rintro e w5 ⟨rfl,hR,hb5⟩
 have B5:Hid (Below W4.heap.size W4 w5):=hb5
 have HR:Hid (af w5 W4.heap.size xu):=hR
 clear hR hb5 HW4 HO HT
 go_wp2_with fail
 go_loopw [13] (fun i wr=>∃ k:Nat,k<=8/\i=.int .i64 k/\Below w5.heap.size w5 wr/\Hid (∀ j,j<k->rf y x j=false)) (fun i _=>8 - (intOf i).toNat)
 case atStart=>exact ⟨0,Nat.zero_le _,rfl,Below.refl _ _,fun j hj=>absurd hj (Nat.not_lt_zero _)⟩
 case round =>
  obtain ⟨k,hk,rfl,hbel,hall⟩:=hrel
  by_cases hlt:k<8
  ·
   obtain ⟨g,hg⟩:=Fe hlt
   obtain ⟨hq0,hq1,hge,hgc⟩:=hg
   have hbw:Below W4.heap.size W4 wr:=ah B5.out hbel
   have HC:Hid (∀ u,Below wr.heap.size wr u->Calls prog g #[.agg vs.toArray] u fun e w'=>e=.returned (.bool (rf y x k))/\Below u.heap.size u w'):=fun u hb=>hgc vs A y x u (Un.out u (ah hbw hb))
   have c0:=((HR.out.on hbel).2 _ _ hq0).1
   have c1:=((HR.out.on hbel).2 _ _ hq1).1
   clear hgc hq0 hq1
   have hbx:Hid (∀ u,Below wr.heap.size wr u->af u w3.heap.size vs):=fun u hb=>(NK.out.on hbw).on hb
   have hne:Hid (W4.heap.size<wr.heap.size):=Nat.lt_of_lt_of_le HR.out.1 hbel.size
   cases hm:rf y x k
   ·have HG:Hid (∀ j,j<k+1->rf y x j=false):=fun j hj=>by
     rcases Nat.lt_succ_iff_lt_or_eq.1 hj with h | rfl
     ·exact hall.out j h
     ·exact hm
    rw [hm] at HC
    clear hm hall
    go_wp2_with (first | (refine wpList_load_mid rfl 148 _ rfl w3.heap.size 0 rfl vs _ (hbx.out _ (by go_grown)).range underlying148 rfl Sv ?_) | fail)
    refine (HC.out _ (by go_grown)).mono ?_
    rintro e w6 ⟨rfl,hb6⟩
    have hb':Below w5.heap.size w5 w6:=ah hbel (ah (by go_grown) hb6)
    clear HC c0 c1 hb6 hbel hbx
    go_wp2_with fail
    go_roundw
    case rel=>exact ⟨k+1,by omega,by go_num,hb',HG⟩
    case measure=>simp [intOf];omega
   ·have HF:Hid (sD y x=((k+1:Nat):Int)):=OB hlt hall.out hm
    rw [hm] at HC
    clear hm hall
    go_wp2_with (first | (refine wpList_load_mid rfl 148 _ rfl w3.heap.size 0 rfl vs _ (hbx.out _ (by go_grown)).range underlying148 rfl Sv ?_) | fail)
    have q0:af (wr.alloc (.cells #[.int .i64 ((k+1:Nat):Int),.func (.func g) #[] #[]] 154)) wr.heap.size [.int .i64 ((k+1:Nat):Int),.func (.func g) #[] #[]]:=af.new wr 154 _
    refine (HC.out _ (by go_grown)).mono ?_
    rintro e w6 ⟨rfl,hb6⟩
    have hb':Below w.heap.size w w6:=ah (ah B04.out B5.out) (ah hbel (ah (by go_grown) hb6))
    have z0:=((q0.on hb6).2 0 _ rfl).1
    clear HC c0 c1 hb6 hbel hbx
    go_wp2_with fail
    go_ret
    exact ⟨PQ HF.out.symm,hb'⟩
  ·have HF:Hid (sD y x=0):=OA (fun j hj=>hall.out j (by omega))
   go_wp2_with fail
   go_ret
   exact ⟨PQ HF.out.symm,ah (ah B04.out B5.out) hbel⟩
end Go.Proofs.YtgikfenllgldoaaGreat
