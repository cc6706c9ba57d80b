/- Functions of the program, each walked under the conditions that its theorem names. -/
import Derived.Test.YtgikfenllgldoaaGreatQ33
import Derived.Test.YtgikfenllgldoaaGreatQ34
set_option linter.unusedSimpArgs false
set_option maxRecDepth 100000
set_option maxHeartbeats 32000000
namespace Go.Proofs.YtgikfenllgldoaaGreat
open Go.Proofs.Tryz
open Go.RowKit Go.Maps
theorem zES (a9:Option Addr) (n9 m9:Nat) (E:Where) (gy:List ByteArray) (a:Option Addr) (n cap:Nat) (A:Where) (L:List aB) (w:World) (Tf:Hid (ag au 1 16 E w a9 n9 m9 gy)) (hL:Hid (ag aj 16 296 A w a n cap L)):Calls prog 39 #[.slice a n cap,.slice a9 n9 m9] w fun e w'=>∃ v,e=.returned v/\Row aj 16 (fun b=>A b/\b<w.heap.size) w w' 41 v (L.filter (fun q:aB=>!hasB ay gy q.1)):=by
 have hmm:=EE
 have hlen:=hL.out.len (by decide)
 have acC:=Tf.out.len (by decide)
 have hn:Hid (L.length=n):=hL.out.1
 have ZP:Hid (gy.length=n9):=Tf.out.1
 have hbb:Hid (n*296<=140737488351232):=hL.out.2.2.2.1
 obtain ⟨W1,hW1⟩:∃ W1,W1=w.alloc (.map #[] 0):=⟨_,rfl⟩
 have H0:Hid (bL W1 w.heap.size 0 (fun s=>hasB ay (gy.take 0) s)/\Below w.heap.size w W1):=by
  rw [hW1]
  exact ⟨(bL.made w).as (fun s=>rfl),(Below.refl _ _).alloc (Nat.le_refl _) _⟩
 go_enter func39,ntmps39
 go_wp2_with fail
 rw [<- hW1]
 clear hW1
 go_loopw [18] (fun i wr=>∃ k:Nat,k<=n9/\i=.int .i64 k/\Hid (bL wr w.heap.size k (fun s=>hasB ay (gy.take k) s)/\Below w.heap.size w wr)) (fun i _=>n9 - (intOf i).toNat)
 case atStart=>exact ⟨0,Nat.zero_le _,rfl,H0⟩
 case round =>
  obtain ⟨k,hk,rfl,hst⟩:=hrel
  by_cases hlt:k<n9
  ·have hltz:(k:Int)<(n9:Int):=by omega
   have hkl:k<gy.length:=by rw [ZP.out];exact hlt
   obtain ⟨D,off,rfl,hD,_,cs,hr,hv⟩:=Tf.out.get hlt
   obtain ⟨rfl,hsz⟩:=hr
   have d0:=(hst.out.2.cell (p:=⟨D,off+k*1+0,none⟩) hD).trans (hv 0 _ rfl)
   simp only [Nat.mul_one,Nat.add_zero] at d0
   clear hv
   have HN:Hid (∀ s,hasB ay (gy.take (k+1)) s=(hasB ay (gy.take k) s || ay s (gy.getD k default))):=fun s=>Gl _ _ hkl
   generalize gy.getD k default=x at d0 HN hsz
   have HS:Hid (bL wr w.heap.size k (fun s=>hasB ay (gy.take k) s)):=hst.out.1
   have vk:Hid (Below w.heap.size w wr):=hst.out.2
   have hkn:k<140737488355328:=by omega
   have HE:Hid (∀ wf,bL wf w.heap.size (k+1) (fun t=>hasB ay (gy.take k) t || ay t x)->wr.grownBy wf (some w.heap.size)->bL wf w.heap.size (k+1) (fun s=>hasB ay (gy.take (k+1)) s)/\Below w.heap.size w wf):=fun wf hs hg=>⟨hs.as (fun s=>(HN.out s).symm),Below.grown vk.out hg vk.out.size (fun j hj=>by cases hj;exact Nat.le_refl _)⟩
   clear hst
   go_wp2_with (at_mapUpdate;go_must (refine Eg rfl _ _ _ 138 rfl underlying138 w.heap.size k _ x hsz hkn rfl HS.out rfl rfl ?_);intro wf wR hgf)
   have HZ:=HE.out wf wR hgf
   go_roundw
   case rel=>exact ⟨k+1,by omega,by go_num,HZ⟩
   case measure=>simp [intOf];omega
  ·have oo:gy.take k=gy:=List.take_of_length_le (by rw [ZP.out];omega)
   rw [oo] at hst
   have hlz:¬ ((k:Int)<(n9:Int)):=by omega
   have HS:Hid (bL wr w.heap.size k (fun s=>hasB ay gy s)):=hst.out.1
   have vk:Hid (Below w.heap.size w wr):=hst.out.2
   have HZ0:Hid (sZ A w wr w.heap.size k (fun s:ByteArray=>hasB ay gy s) (.slice none 0 0) ((L.take 0).filter (fun q:aB=>!hasB ay gy q.1))):=⟨HS.out,(Row.nil _ w _).on aj.ae vk.out⟩
   clear hst oo
   go_wp2_with fail
   clear HS vk
   generalize hkp:(fun q:aB=>!hasB ay gy q.1)=kp at HZ0 |-
   have HKP:Hid (∀ q:aB,kp q=!(fun s:ByteArray=>hasB ay gy s) q.1):=fun q=>by rw [<- hkp]
   generalize hkq:(fun s:ByteArray=>hasB ay gy s)=kq at HZ0 HKP
   have HKE:Hid ((fun q:aB=>!hasB ay gy q.1)=kp):=hkp
   clear hkp hkq
   go_loopw [8,28] (fun v i wr=>∃ j:Nat,j<=n/\i=.int .i64 j/\Hid (sZ A w wr w.heap.size k kq v ((L.take j).filter kp))) (fun _ i _=>n - (intOf i).toNat)
   case atStart=>exact ⟨0,Nat.zero_le _,rfl,HZ0⟩
   case round =>
    obtain ⟨j,hj,rfl,hst⟩:=hrel
    by_cases hlt2:j<n
    ·have hltz:(j:Int)<(n:Int):=by omega
     have hjl:j<L.length:=by rw [hn.out];exact hlt2
     have hbw:Below w.heap.size w wr:=hst.out.row.below
     obtain ⟨D,off,rfl,hD,_,cs,hr,hv⟩:=hL.out.get hlt2
     have HT:Hid ((L.take (j+1)).filter kp=(L.take j).filter kp++(if kp (L.getD j default)=true then [L.getD j default] else [])):=zFt kp L hjl
     have oC:Hid (((L.take j).filter kp).length<=j):=Nat.le_trans (List.length_filter_le _ _) (by rw [List.length_take];omega)
     have HQ:=HKP.out (L.getD j default)
     generalize L.getD j default=q at hr HT HQ
     generalize (L.take j).filter kp=G at hst HT oC
     have oh:aj (fun b=>A b/\b<w.heap.size) w cs q:=aj.ae.weak hr (fun b hb h=>⟨h,hb⟩)
     obtain ⟨hsz,v1,v2,v3,v4,v5,v6,v7,v8,v9,v10,v11,v12,v13,v14,v15,rfl⟩:=hr.lY
     have HV:Hid (wr.rangeAt D (off+j*16) [.string q.1,v1,v2,v3,v4,v5,v6,v7,v8,v9,v10,v11,v12,v13,v14,v15]):=fun i v hi=>(hbw.cell hD).trans (hv i v hi)
     have hi:(prog.info? 41).map (·.size)=some ([.string q.1,v1,v2,v3,v4,v5,v6,v7,v8,v9,v10,v11,v12,v13,v14,v15]:List Value).length:=kY
     have H1:Hid ((([.string q.1,v1,v2,v3,v4,v5,v6,v7,v8,v9,v10,v11,v12,v13,v14,v15]:List Value).toArray).all (·.oneCell')=true):=all_oneCell_toArray (aj.ae.one hr)
     have HA:Hid (aj (fun b=>A b/\b<w.heap.size) w [.string q.1,v1,v2,v3,v4,v5,v6,v7,v8,v9,v10,v11,v12,v13,v14,v15] q):=oh
     clear hr hv oh
     obtain ⟨wb,hwb⟩:∃ wb,wb=(wr.alloc (.cells #[.string ⟨#[]⟩,.int .i64 0,.slice none 0 0,.int .i64 0,.int .i64 0,.int .i64 0,.slice none 0 0,.slice none 0 0,.slice none 0 0,.slice none 0 0,.slice none 0 0,.slice none 0 0,.slice none 0 0,.slice none 0 0,.string ⟨#[]⟩,.string ⟨#[]⟩] 41)).setCells wr.heap.size 0 [.string q.1,v1,v2,v3,v4,v5,v6,v7,v8,v9,v10,v11,v12,v13,v14,v15]:=⟨_,rfl⟩
     have eD:Hid ((wr.alloc (.cells #[.string ⟨#[]⟩,.int .i64 0,.slice none 0 0,.int .i64 0,.int .i64 0,.int .i64 0,.slice none 0 0,.slice none 0 0,.slice none 0 0,.slice none 0 0,.slice none 0 0,.slice none 0 0,.slice none 0 0,.slice none 0 0,.string ⟨#[]⟩,.string ⟨#[]⟩] 41)).there wr.heap.size 0 16):=(af.new wr 41 [.string ⟨#[]⟩,.int .i64 0,.slice none 0 0,.int .i64 0,.int .i64 0,.int .i64 0,.slice none 0 0,.slice none 0 0,.slice none 0 0,.slice none 0 0,.slice none 0 0,.slice none 0 0,.slice none 0 0,.slice none 0 0,.string ⟨#[]⟩,.string ⟨#[]⟩]).there
     have gz:Hid (af wb wr.heap.size [.string q.1,v1,v2,v3,v4,v5,v6,v7,v8,v9,v10,v11,v12,v13,v14,v15]):=by rw [hwb];exact wH wr 41 [.string ⟨#[]⟩,.int .i64 0,.slice none 0 0,.int .i64 0,.int .i64 0,.int .i64 0,.slice none 0 0,.slice none 0 0,.slice none 0 0,.slice none 0 0,.slice none 0 0,.slice none 0 0,.slice none 0 0,.slice none 0 0,.string ⟨#[]⟩,.string ⟨#[]⟩] [.string q.1,v1,v2,v3,v4,v5,v6,v7,v8,v9,v10,v11,v12,v13,v14,v15] rfl
     have eF:Hid (Below wr.heap.size wr wb):=by rw [hwb];exact cu ((Below.refl _ _).alloc (Nat.le_refl _) _) (Nat.le_refl _)
     have gZ:Hid (wb=(wr.alloc (.cells #[.string ⟨#[]⟩,.int .i64 0,.slice none 0 0,.int .i64 0,.int .i64 0,.int .i64 0,.slice none 0 0,.slice none 0 0,.slice none 0 0,.slice none 0 0,.slice none 0 0,.slice none 0 0,.slice none 0 0,.slice none 0 0,.string ⟨#[]⟩,.string ⟨#[]⟩] 41)).setCells wr.heap.size 0 (([.string q.1,v1,v2,v3,v4,v5,v6,v7,v8,v9,v10,v11,v12,v13,v14,v15]:List Value).toArray).toList):=hwb
     clear hwb
     obtain ⟨c0,_⟩:=gz.out.2 0 _ rfl
     have HSc:Hid (bL wb w.heap.size k kq):=hst.out.set.on eF.out
     obtain ⟨wd,hwd⟩:∃ wd,wd=wb.alloc (.cells #[] 139):=⟨_,rfl⟩
     have hbd:Below wb.heap.size wb wd:=by rw [hwd];exact (Below.refl _ _).alloc (Nat.le_refl _) _
     have HWD:Hid (wd=wb.alloc (.cells #[] 139)):=hwd
     clear hwd
     cases hq:kq q.1 with
     | true =>
      rw [hq] at HQ
      have HZ:Hid (sZ A w (wb.alloc (.cells #[] 139)) w.heap.size k kq u8 ((L.take (j+1)).filter kp)):=by
       have e1:(L.take (j+1)).filter kp=G:=by rw [HT.out,HQ];simp
       rw [Hid,e1]
       exact (hst.out.on eF.out).on ((Below.refl wb.heap.size wb).alloc (Nat.le_refl _) (.cells #[] 139))
      clear HT HQ gz hst
      go_wp2_with (first | (refine wpList_load_mid rfl 41 _ rfl D (off+j*16) rfl [.string q.1,v1,v2,v3,v4,v5,v6,v7,v8,v9,v10,v11,v12,v13,v14,v15] _ HV.out underlying41 rfl hi ?_) | (refine wpList_store_mid rfl 41 _ _ rfl wr.heap.size 0 (([.string q.1,v1,v2,v3,v4,v5,v6,v7,v8,v9,v10,v11,v12,v13,v14,v15]:List Value).toArray) rfl rfl eD.out hi H1.out ?_;refine iJ gZ.out ?_) | (at_lookup;go_must (refine vJ rfl _ _ 138 rfl underlying138 w.heap.size k _ q.1 hsz rfl HSc.out rfl true hq ?_)))
      go_roundw
      case rel=>exact ⟨j+1,by omega,by go_num,HZ⟩
      case measure=>simp [intOf];omega
     | false =>
      rw [hq] at HQ
      have rY:Hid (wd.rangeAt wr.heap.size 0 [.string q.1,v1,v2,v3,v4,v5,v6,v7,v8,v9,v10,v11,v12,v13,v14,v15]):=(gz.out.on hbd).range
      have hrw:Row aj 16 (fun b=>A b/\b<w.heap.size) w wd 41 u8 G:=(hst.out.row.on aj.ae eF.out).on aj.ae hbd
      have hsd:bL wd w.heap.size k kq:=HSc.out.on hbd
      have hne:Value.ownBlock u8≠some w.heap.size:=hrw.uA hsd
      have HR3:Hid (Row aj 16 (fun b=>A b/\b<w.heap.size) w (wd.alloc (.cells #[.string q.1,v1,v2,v3,v4,v5,v6,v7,v8,v9,v10,v11,v12,v13,v14,v15] 41)) 41 u8 G):=hrw.on aj.ae ((Below.refl _ _).alloc (Nat.le_refl _) _)
      have gV:Hid (aW aj 16 (fun b=>(fun b=>A b/\b<w.heap.size) b/\Value.ownBlock u8≠some b) (wd.alloc (.cells #[.string q.1,v1,v2,v3,v4,v5,v6,v7,v8,v9,v10,v11,v12,v13,v14,v15] 41)) [.string q.1,v1,v2,v3,v4,v5,v6,v7,v8,v9,v10,v11,v12,v13,v14,v15] [q]):=by
       have h3:=HR3.out
       exact nJ aj.ae (aj.ae.weak (aj.ae.kept HA.out (Kept.below h3.below)) (fun b _ hb=>⟨hb,fun e=>by have h1:=(h3.lt e).1;have h2:=hb.2;omega⟩))
      have HX:Hid (∀ i v,([.string q.1,v1,v2,v3,v4,v5,v6,v7,v8,v9,v10,v11,v12,v13,v14,v15]:List Value)[i]?=some v->(wd.alloc (.cells #[.string q.1,v1,v2,v3,v4,v5,v6,v7,v8,v9,v10,v11,v12,v13,v14,v15] 41)).cell? ((⟨wd.heap.size,0,none⟩:Addr).add i)=some v):=nY wd _ 41
      have HO:Hid (∀ v∈[.string q.1,v1,v2,v3,v4,v5,v6,v7,v8,v9,v10,v11,v12,v13,v14,v15],v.oneCell'=true):=aj.ae.one HA.out
      have gU:Hid ((G.length+[q].length)*296<=140737488355328):=by have h1:=qC hbb.out hlt2;have h2:=oC.out;rw [Hid,List.length_singleton];omega
      have HE:Hid (∀ (vn:Value) (w4:World),Row aj 16 (fun b=>A b/\b<w.heap.size) w w4 41 vn (G++[q])->(wd.alloc (.cells #[.string q.1,v1,v2,v3,v4,v5,v6,v7,v8,v9,v10,v11,v12,v13,v14,v15] 41)).grownBy w4 (Value.ownBlock u8)->sZ A w w4 w.heap.size k kq vn ((L.take (j+1)).filter kp)):=fun vn w4 hr hg=>by
       have e1:(L.take (j+1)).filter kp=G++[q]:=by rw [HT.out,HQ];simp
       rw [e1]
       exact ⟨(hsd.on ((Below.refl _ _).alloc (Nat.le_refl _) _)).grown hg hne,hr⟩
      clear hrw hne hsd HT HQ gz hst hbd
      go_wp2_with (first | (refine wpList_load_mid rfl 41 _ rfl D (off+j*16) rfl [.string q.1,v1,v2,v3,v4,v5,v6,v7,v8,v9,v10,v11,v12,v13,v14,v15] _ HV.out underlying41 rfl hi ?_) | (refine wpList_store_mid rfl 41 _ _ rfl wr.heap.size 0 (([.string q.1,v1,v2,v3,v4,v5,v6,v7,v8,v9,v10,v11,v12,v13,v14,v15]:List Value).toArray) rfl rfl eD.out hi H1.out ?_;refine iJ gZ.out ?_) | (at_lookup;go_must (refine vJ rfl _ _ 138 rfl underlying138 w.heap.size k _ q.1 hsz rfl HSc.out rfl false hq ?_)) | (refine iJ HWD.out ?_;refine wpList_load_mid rfl 41 _ rfl wr.heap.size 0 rfl [.string q.1,v1,v2,v3,v4,v5,v6,v7,v8,v9,v10,v11,v12,v13,v14,v15] _ rY.out underlying41 rfl hi ?_) | (at_builtin;go_must (refine mh aj.ae (A:=(fun b=>A b/\b<w.heap.size)) (w0:=w) rfl _ _ 22 41 rfl _ 296 AY underlying22 rfl (by decide) (by decide) u8 G rfl HR3.out ⟨wd.heap.size,0,none⟩ 1 1 _ [q] rfl rfl gV.out HX.out HO.out gU.out ?_);intro vn w4 hrow4 hg4))
      have HZ:=HE.out vn w4 hrow4 hg4
      go_roundw
      case rel=>exact ⟨j+1,by omega,by go_num,HZ⟩
      case measure=>simp [intOf];omega
    ·have oo:L.take j=L:=List.take_of_length_le (by rw [hn.out];omega)
     rw [oo] at hst
     have aa7:¬ ((j:Int)<(n:Int)):=by omega
     go_wp2_with fail
     go_ret
     exact ⟨_,rfl,by rw [HKE.out];exact hst.out.row⟩
theorem zFu {w:World} {T:eu} {ts:List Value} {A A':Where} {mb N:Nat} {f:aG->Int} (b1:Option Addr) (b2 b3:Nat) (R:List Ask) (key:ByteArray) (z:Bool) (hz:z=true↔∀ d,iY d->f d=0) (hc:Hid (bF w mb N f)) (hT':Hid (di A w ts T)) (hr:Hid (ag aU 3 48 A' w b1 b2 b3 R)) :
  Calls prog 134 #[.agg ts.toArray,.agg #[.slice b1 b2 b3,.string key,.map (some mb)]] w fun e w'=>e=.returned (.bool (z && bE T.2.1 R))/\Below w.heap.size w w':=by
 obtain ⟨⟨a1,n1,m1⟩,⟨a2,n2,m2⟩,⟨a3,n3,m3⟩,rfl,_,s1,_,_⟩:=hT'.out.out
 simp only at s1 |-
 obtain ⟨W2,hW2⟩:∃ W,W=(w.alloc (.cells #[.string T.1,.slice a1 n1 m1,.slice a2 n2 m2,.slice a3 n3 m3,.map (some T.2.2.2.2)] 159)).alloc (.cells #[.slice b1 b2 b3,.string key,.map (some mb)] 192):=⟨_,rfl⟩
 have B2:Below w.heap.size w W2:=by rw [hW2];go_grown
 have q0:af W2 w.heap.size [.string T.1,.slice a1 n1 m1,.slice a2 n2 m2,.slice a3 n3 m3,.map (some T.2.2.2.2)]:=by rw [hW2];exact (af.new w 159 _).on ((Below.refl _ _).alloc (Nat.le_refl _) _)
 have q1:af W2 (w.heap.size+1) [.slice b1 b2 b3,.string key,.map (some mb)]:=by have h1:=af.new (w.alloc (.cells #[.string T.1,.slice a1 n1 m1,.slice a2 n2 m2,.slice a3 n3 m3,.map (some T.2.2.2.2)] 159)) 192 [.slice b1 b2 b3,.string key,.map (some mb)];rw [hW2];simpa using h1
 have c1:=(q0.2 1 _ rfl).1
 have d0:=(q1.2 0 _ rfl).1
 have d2:=(q1.2 2 _ rfl).1
 obtain ⟨c,hlen,hc0⟩:=(hc.out.on B2).len 157 underlying157
 have HM:=yY a1 n1 m1 A T.2.1 b1 b2 b3 A' R W2 (s1.on ak.ae B2) (hr.out.on aU.ae B2)
 have HB2:Hid (Below w.heap.size w W2):=B2
 have hcz:(c == 0)=z:=by rw [Bool.eq_iff_iff,beq_iff_eq,hc0,hz]
 clear q0 q1 s1 hr hc hT' B2 hc0 hz
 generalize bE T.2.1 R=mt at HM |-
 go_enter func134,ntmps134
 go_upto_region 1 with fail
 rw [<- hW2]
 clear hW2
 cases z
 ·go_wp2_with fail
  go_ret
  exact ⟨rfl,HB2.out⟩
 ·go_wp2_with fail
  refine HM.mono ?_
  rintro e w3 ⟨rfl,hb3⟩
  have HB3:Hid (Below w.heap.size w w3):=ah HB2.out hb3
  clear HM hb3 hlen c1 d0 d2
  go_wp2_with fail
  go_ret
  exact ⟨by simp,HB3.out⟩
end Go.Proofs.YtgikfenllgldoaaGreat
