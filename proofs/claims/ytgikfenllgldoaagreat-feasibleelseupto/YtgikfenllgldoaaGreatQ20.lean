/- Functions of the program, each walked under the conditions that its theorem names. -/
import Derived.Lib.AppendZeros
import Derived.Test.YtgikfenllgldoaaGreatQ18
set_option linter.unusedSimpArgs false
set_option maxRecDepth 100000
set_option maxHeartbeats 32000000
namespace Go.Proofs.YtgikfenllgldoaaGreat
open Go.Proofs.Tryz
open Go.RowKit Go.Maps
section
variable {α:Type} [Inhabited α] {R:bI α} {k:Nat}
theorem zEs {L:List α} {i p:Nat}:(L.eraseIdx i).getD p default=if p<i then L.getD p default else L.getD (p+1) default:=by
 rw [List.getD_eq_getElem?_getD,List.getElem?_eraseIdx]
 split <;> simp [List.getD_eq_getElem?_getD]
theorem aW.erase {A:Where} {u:World} {xs:List Value} {L:List α} (h:aW R k A u xs L) {i:Nat} (hi:i<L.length):aW R k A u (xs.take (i*k)++xs.drop ((i+1)*k)) (L.eraseIdx i):=by
 obtain ⟨hl,hc⟩:=h
 have hle:(i+1)*k<=L.length*k:=Nat.mul_le_mul_right k hi
 have acW:i*k+k<=L.length*k:=by rw [Nat.add_mul,Nat.one_mul] at hle;exact hle
 have hlen:(L.eraseIdx i).length=L.length - 1:=List.length_eraseIdx_of_lt hi
 have hsub:(L.length - 1)*k=L.length*k - k:=by rw [Nat.sub_mul,Nat.one_mul]
 have ht:(xs.take (i*k)).length=i*k:=by rw [List.length_take];omega
 refine ⟨?_,fun p hp=>?_⟩
 ·rw [List.length_append,ht,List.length_drop,hl,hlen,hsub,Nat.add_mul,Nat.one_mul];omega
 ·rw [zEs]
  rw [hlen] at hp
  by_cases hpi:p<i
  ·rw [if_pos hpi]
   obtain ⟨cs,h1,h2⟩:=hc p (by omega)
   refine ⟨cs,h1,fun j hj=>?_⟩
   have hq:(p+1)*k<=i*k:=Nat.mul_le_mul_right k hpi
   rw [Nat.add_mul,Nat.one_mul] at hq
   rw [List.getElem?_append_left (by omega),List.getElem?_take,if_pos (by omega)]
   exact h2 j hj
  ·rw [if_neg hpi]
   obtain ⟨cs,h1,h2⟩:=hc (p+1) (by omega)
   refine ⟨cs,h1,fun j hj=>?_⟩
   have hq:i*k<=p*k:=Nat.mul_le_mul_right k (by omega)
   rw [List.getElem?_append_right (by omega),ht,List.getElem?_drop,<- h2 j hj]
   congr 1
   rw [Nat.add_mul,Nat.add_mul]
   omega
end
theorem Y4 (w:World) (g:Nat) (cs:Array Value):Kept (fun b=>b≠g) w (w.setRow g cs):=⟨by simp [World.setRow],fun b hb _=>setRow_other w g b cs hb⟩
theorem Zc {w0 w:World} (h:Below w0.heap.size w0 w) {g:Nat} (hg:w0.heap.size<=g) (cs:Array Value):Below w0.heap.size w0 (w.setRow g cs):=h.grown (row:=some g) ⟨rfl,rfl,rfl,by simp [World.setRow],fun k _ hk=>setRow_other w g k cs (fun e=>hk (by simp [e]))⟩ h.size (fun k e=>by cases e;exact hg)
theorem Ox (w:World):(zeroValue 59).run prog w=.ok (.agg jv.toArray) w:=by kernel_rfl
theorem zHm {a b c:List Value} {n m:Nat} (h:a.length=n) (h2:b.length=m):(a++b++c).take (n+m)=a++b:=by
 rw [<- h,<- h2,<- List.length_append,List.take_left]
def UQ (A:Where) (w0 w:World) (g n cap:Nat) (L:List aD) (e:Ending) (w':World):Prop :=
 e=.returned (.slice (some ⟨g,0,none⟩) n cap)/\Row ai 5 A w0 w' 59 (.slice (some ⟨g,0,none⟩) n cap) L/\Kept (fun b=>b≠g) w w'
theorem zEq (A:Where) (w0:World) (g n cap:Nat) (L:List aD) (i j m:Nat) (w:World) (hrow:Row ai 5 A w0 w 59 (.slice (some ⟨g,0,none⟩) n cap) L) (hn:L.length=n) (hi:i<n) (hj:j=i+1) (hm:n=m+1) :
  Calls prog 145 #[.slice (some ⟨g,0,none⟩) n cap,.int .i64 (i:Int),.int .i64 (j:Int)] w (UQ A w0 w g m cap (L.eraseIdx i)):=by
 obtain ⟨xs,⟨hbl,hl,hrow⟩,hch⟩:=hrow
 rcases hrow with ⟨h0,_⟩ | ⟨g',cap',cur,hv,hbg,hg,hnc,hcm,hcs,htk⟩
 ·cases h0
 obtain ⟨rfl,rfl⟩:g=g'/\cap=cap':=by
  have:g=g'/\L.length=n/\cap=cap':=by simpa [hn] using hv
  exact ⟨this.1,this.2.2⟩
 obtain ⟨i0,hi0,hz0,hz1,hz2⟩:=info_parts (show (prog.info? 59).map (fun i=>(i.zero,i.size,i.bytes))=some (some (.agg jv.toArray),5,80) by kernel_rfl)
 have hxl:xs.length=n*5:=by rw [hl,hn]
 rw [hn] at hnc htk
 have xz:∀ q,q<n*5->cur.toList[q]?=xs[q]?:=fun q hq=>by rw [<- htk,List.getElem?_take,if_pos hq]
 obtain ⟨news,hnews⟩:∃ news,news=xs.drop (j*5):=⟨_,rfl⟩
 have hnl:news.length=(n - j)*5:=by rw [hnews,List.length_drop,hxl,Nat.sub_mul]
 have hone:∀ y∈xs,y.oneCell'=true:=by
  intro y hy
  obtain ⟨q,hq,rfl⟩:=List.mem_iff_getElem.1 hy
  have hql:q / 5<L.length:=by rw [hn];omega
  obtain ⟨cs,h1,h2⟩:=hch.2 (q / 5) hql
  have h3:=h2 (q % 5) (by omega)
  rw [show q / 5*5+q % 5=q by omega,List.getElem?_eq_getElem hq] at h3
  exact ai.ae.one h1 _ (List.mem_of_getElem? h3.symm)
 have hnone:∀ y∈news,y.oneCell'=true:=fun y hy=>hone y (by rw [hnews] at hy;exact List.mem_of_mem_drop hy)
 obtain ⟨Ad,hA,hsrc⟩:∃ Ad:Addr,(if cap=j then some (⟨g,0,none⟩:Addr) else some ⟨g,j*5,none⟩)=some Ad/\∀ (wd:World),wd.heap[g]?=some (.cells cur 59 (0,0))->∀ t u,news[t]?=some u->wd.cell? (Ad.add t)=some u:=by
  by_cases h:cap=j
  ·refine ⟨⟨g,0,none⟩,by simp [h],fun wd _ t u hu=>?_⟩
   have h0:news.length=0:=by rw [hnl,show n - j=0 by omega]
   rw [List.length_eq_zero_iff.1 h0] at hu
   simp at hu
  ·refine ⟨⟨g,j*5,none⟩,by simp [h],fun wd hwd t u hu=>?_⟩
   have ht:=(List.getElem?_eq_some_iff.1 hu).1
   rw [hnl,Nat.sub_mul] at ht
   rw [Addr.add_lit]
   rw [hnews,List.getElem?_drop,<- xz (j*5+t) (by omega)] at hu
   rw [cell_of_row wd g (j*5+t) cur _ (0,0) hwd]
   simpa using hu
 obtain ⟨c1,hc1⟩:∃ c:Array Value,c=(cur.toList.take (i*5)++news++cur.toList.drop (i*5+news.length)).toArray:=⟨_,rfl⟩
 have ZQ:i+(n - j)=m:=by omega
 have Dy:c1.size=cap*5:=by rw [hc1];simp only [List.size_toArray,List.length_append,List.length_take,List.length_drop,Array.length_toList,hnl,hcs];omega
 have SC:c1.toList.take (m*5)=xs.take (i*5)++xs.drop (j*5):=by
  rw [hc1,<- hnews]
  show (cur.toList.take (i*5)++news++cur.toList.drop (i*5+news.length)).take (m*5)=_
  have e1:cur.toList.take (i*5)=xs.take (i*5):=by rw [<- htk,List.take_take];congr 1;omega
  rw [e1,show m*5=i*5+(n - j)*5 by omega]
  exact zHm (by rw [List.length_take,hxl];omega) hnl
 obtain ⟨c2,hc2⟩:∃ c:Array Value,c=(c1.toList.take (m*5)++jv++c1.toList.drop (m*5+jv.length)).toArray:=⟨_,rfl⟩
 have SB:c2.size=cap*5:=by rw [hc2];simp only [List.size_toArray,List.length_append,List.length_take,List.length_drop,Array.length_toList,Dy];show min (m*5) (cap*5)+5+(cap*5 - (m*5+5))=cap*5;omega
 have SA:c2.toList.take (m*5)=xs.take (i*5)++xs.drop (j*5):=by
  rw [hc2,<- SC]
  show (c1.toList.take (m*5)++jv++c1.toList.drop (m*5+jv.length)).take (m*5)=_
  rw [List.append_assoc,List.take_append_of_le_length (by rw [List.length_take,Array.length_toList,Dy];omega),List.take_take]
  congr 1
  omega
 have Hap:Hid (∀ wd:World,wd.heap[g]?=some (.cells cur 59 (0,0))->∀ ty,(Builtin.append_ #[169,169] ty #[.slice (some ⟨g,0,none⟩) i cap,.slice (some Ad) (n - j) (cap - j)]).run prog wd=.ok (.slice (some ⟨g,0,none⟩) m cap) (wd.setRow g c1)):=fun wd hwd ty=>by
  have:=run_append_room (P:=prog) wd 169 ty 59 i0 underlying169 hi0 g i cap cur hwd Ad (n - j) (cap - j) news (by rw [hz1];exact hnl) (hsrc wd hwd) hnone (by omega) (by rw [hz1,hnl,hcs];omega)
  rw [ZQ,hz1,<- hc1] at this
  exact this
 have Hcl:Hid (∀ wd:World,wd.heap[g]?=some (.cells c1 59 (0,0))->∀ ty cc,(Builtin.clear_ #[169] ty #[.slice (some ⟨g,m*5,none⟩) 1 cc]).run prog wd=.ok (.tuple #[]) (wd.setRow g c2)):=fun wd hwd ty cc=>by
  have hst:=run_storeCells_at (P:=prog) g (m*5) 59 jv 0 c1 wd hwd (by rw [Dy];show m*5+0+5<=cap*5;omega) (by decide)
  simp only [Nat.add_zero] at hst
  rw [<- hc2] at hst
  have hzc:(Builtin.zeroCells (Value.agg #[.string ⟨#[]⟩,.int .i64 0,.string ⟨#[]⟩,.slice none 0 0,.string ⟨#[]⟩]).cells 1).toList=jv:=by kernel_rfl
  simp [Builtin.clear_,run_underlying underlying169,Ox,hzc,hst]
 have HF:Hid (∀ wd:World,Below w.heap.size w wd->Row ai 5 A w0 ((wd.setRow g c1).setRow g c2) 59 (.slice (some ⟨g,0,none⟩) m cap) (L.eraseIdx i)/\Kept (fun b=>b≠g) w ((wd.setRow g c1).setRow g c2)):=fun wd hwd=>by
  have hgl:=(Array.getElem?_eq_some_iff.1 hg).1
  have hgd:wd.heap[g]?=some (.cells cur 59 (0,0)):=(hwd.block g hgl).trans hg
  have k2:Kept (fun b=>b≠g) w ((wd.setRow g c1).setRow g c2):=((Kept.below hwd).trans (Y4 _ _ _)).trans (Y4 _ _ _)
  have hel:(L.eraseIdx i).length=m:=by rw [List.length_eraseIdx_of_lt (by omega)];omega
  refine ⟨⟨xs.take (i*5)++xs.drop (j*5),⟨Zc (Zc (ah hbl hwd) hbg _) hbg _,?_,.inr ⟨g,cap,c2,by rw [hel],hbg,setRow_heap _ g c1 c2 _ _ (setRow_heap wd g cur c1 _ _ hgd),by rw [hel];omega,hcm,SB,by rw [hel];exact SA⟩⟩,?_⟩,k2⟩
  ·rw [hel,List.length_append,List.length_take,List.length_drop,hxl];omega
  ·have:=(hch.kept ai.ae (k2.weak (fun b hb e=>hb.2 (by rw [e];rfl)))).erase (i:=i) (by omega)
   rw [<- hj] at this
   exact this.weak ai.ae (fun b _ h=>⟨h.1,h.2⟩)
 have Hg:Hid (∀ wd:World,Below w.heap.size w wd->wd.heap[g]?=some (.cells cur 59 (0,0))):=fun wd hwd=>(hwd.block g (Array.getElem?_eq_some_iff.1 hg).1).trans hg
 have hbc:cap<=9223372036854775807:=by have h:=hcm;unfold maxLen at h;exact h
 clear hbl hl hch hv hbg hg hcm hcs htk hi0 hz0 hz1 hz2 hxl xz hnews hnl hone hnone hsrc hc1 Dy SC hc2 SB SA
 have hic:i<=cap:=by omega
 have hjc:j<=cap:=by omega
 have hjn:j<=n:=by omega
 have hij:¬ ((i:Int)=(j:Int)):=by omega
 have hij':i<=j:=by omega
 obtain ⟨wd,hwd⟩:∃ wd,wd=w.drew:=⟨_,rfl⟩
 have bd:Below w.heap.size w wd:=by rw [hwd];exact (Below.refl _ _).drew
 have hap:=Hap.out wd (Hg.out wd bd)
 have hcl:=Hcl.out (wd.setRow g c1) (setRow_heap wd g cur c1 _ _ (Hg.out wd bd))
 have Oc:=HF.out wd bd
 obtain ⟨W1,hW1⟩:∃ W1,W1=wd.setRow g c1:=⟨_,rfl⟩
 obtain ⟨W2,hW2⟩:∃ W2,W2=W1.setRow g c2:=⟨_,rfl⟩
 rw [<- hW1] at hap hcl Oc
 rw [<- hW2] at hcl Oc
 have HFin:Hid (Row ai 5 A w0 W2 59 (.slice (some ⟨g,0,none⟩) m cap) (L.eraseIdx i)/\Kept (fun b=>b≠g) w W2):=Oc
 have HwD:Hid (wd=w.drew):=hwd
 clear Hap Hcl HF Hg Oc hW1 hW2 hwd bd
 have hmc:m<=cap:=by omega
 have hnn:n - m=1:=by omega
 have acN:m<=n:=by omega
 have hin:i<=n:=by omega
 have HA:Hid ((if cap=j then some (⟨g,0,none⟩:Addr) else some ⟨g,j*5,none⟩)=some Ad):=hA
 have hcl':∀ ty,(Builtin.clear_ #[169] ty #[.slice (some ⟨g,m*5,none⟩) (n - m) (cap - m)]).run prog W1=.ok (.tuple #[]) W2:=fun ty=>by rw [hnn];exact hcl ty _
 have acP:¬ (cap=m):=by omega
 clear hj hm ZQ hA hn hnn hcl
 have hjz:¬ (i=j):=by omega
 go_enter func145,ntmps145
 go_upto_region 5 with fail
 refine t0 (fun _=>True) trivial (fun gH=>?_)
 rw [<- HwD.out]
 try go_frame
 refine tp 0 ?_
 try go_frame
 refine tp 1 ?_
 try go_frame
 refine tp 2 ?_
 try go_frame
 refine tp 3 ?_
 try go_frame
 refine tp 4 ?_
 try go_frame
 refine' tk 5 (v:=.slice (some Ad) (n - j) (cap - j)) ?_ ?_
 ·intro u hu;clear hu;go_simp;try rw [HA.out]
 try go_frame
 refine tr 6 (fun K hK=>?_)
 refine fP (by rfl) (Lib.wp_append_run _ _ _ _ _ rfl _ _ rfl rfl _ _ (hap _) ?_)
 refine hK.out _ _ gH (fun gI=>?_)
 clear hK K gH;have gH:=gI;clear gI
 try go_frame
 refine tp 7 ?_
 try go_frame
 refine tz ?_
 clear hap
 go_wp2_with fail
 go_ret
 exact ⟨rfl,HFin.out⟩
theorem iJ {P:Program} {ops:Array Oper} {Q:Exit->Act->World->Prop} {rest:List Oper} {a:Act} {u W:World} (h:W=u) (k:wpList P ops Q rest a W):wpList P ops Q rest a u:=h ▸ k
theorem L6 {u u':World} {D o:Nat} {cs:List Value} {row:Option Nat} (h:u.rangeAt D o cs) (hD:D<u.heap.size) (hg:u.grownBy u' row) (hr:row≠some D):u'.rangeAt D o cs:=fun j v hj=>(World.cell?_of_block (w:=u) (a:=⟨D,o+j,none⟩) (hg.block D hD (fun e=>hr e.symm))).trans (h j v hj)
theorem aj.lY {A:Where} {w:World} {cs:List Value} {q:aB} (h:aj A w cs q):q.1.size<=140737488355328/\∃ v1 v2 v3 v4 v5 v6 v7 v8 v9 v10 v11 v12 v13 v14 v15:Value,cs=[.string q.1,v1,v2,v3,v4,v5,v6,v7,v8,v9,v10,v11,v12,v13,v14,v15]:=by
 obtain ⟨_,_,_,_,_,_,_,_,_,rfl,hp,_⟩:=h.out
 exact ⟨hp,_,_,_,_,_,_,_,_,_,_,_,_,_,_,_,rfl⟩
theorem YY (cs:List Value) (q:aB) (A:Where) (w:World) (h:Hid (aj A w cs q)):Calls prog 43 #[.agg cs.toArray] w fun e w'=>e=.returned (.string q.1)/\Below w.heap.size w w':=by
 obtain ⟨_,v1,v2,v3,v4,v5,v6,v7,v8,v9,v10,v11,v12,v13,v14,v15,rfl⟩:=h.out.lY
 obtain ⟨W1,hW1⟩:∃ W1,W1=w.alloc (.cells #[.string q.1,v1,v2,v3,v4,v5,v6,v7,v8,v9,v10,v11,v12,v13,v14,v15] 41):=⟨_,rfl⟩
 have HB:Hid (Below w.heap.size w W1):=by rw [hW1];exact (Below.refl _ _).alloc (Nat.le_refl _) _
 have c0:=((af.new w 41 [.string q.1,v1,v2,v3,v4,v5,v6,v7,v8,v9,v10,v11,v12,v13,v14,v15]).2 0 _ rfl).1
 have HW:Hid (W1=w.alloc (.cells #[.string q.1,v1,v2,v3,v4,v5,v6,v7,v8,v9,v10,v11,v12,v13,v14,v15] 41)):=hW1
 rw [show (w.alloc (.cells ([.string q.1,v1,v2,v3,v4,v5,v6,v7,v8,v9,v10,v11,v12,v13,v14,v15]:List Value).toArray 41))=W1 from hW1.symm] at c0
 clear hW1 h
 go_enter func43,ntmps43
 go_wp2_with fail
 go_ret
 exact ⟨by simp,HW.out ▸ HB.out⟩
structure nG (A:Where) (w u:World) (mb n:Nat) (v:Value) (F:List aB):Prop where
 set:bL u mb n (fun s=>hasB ay (fO F) s)
 row:Row aj 16 (fun b=>A b/\b<w.heap.size) w u 41 v F
theorem nG.on {A:Where} {w u u':World} {mb n:Nat} {v:Value} {F:List aB} (h:nG A w u mb n v F) (hb:Below u.heap.size u u'):nG A w u' mb n v F:=⟨h.set.on hb,h.row.on aj.ae hb⟩
theorem Ey (V:List ByteArray) (x s:ByteArray):hasB ay (V++[x]) s=(hasB ay V s || ay s x):=by
 have:ay x s=ay s x:=by unfold ay;rw [BEq.comm]
 simp [hasB,this]
theorem zEx (a:Option Addr) (n cap:Nat) (A:Where) (L:List aB) (w:World) (hL:Hid (ag aj 16 296 A w a n cap L)):Calls prog 42 #[.slice a n cap,.func (.func 43) #[] #[]] w fun e w'=>∃ v,e=.returned v/\Row aj 16 (fun b=>A b/\b<w.heap.size) w w' 41 v (aS L):=by
 have hmm:=EE
 have hlen:=hL.out.len (by decide)
 have hn:Hid (L.length=n):=hL.out.1
 have hbb:Hid (n*296<=140737488351232):=hL.out.2.2.2.1
 obtain ⟨W1,hW1⟩:∃ W1,W1=w.alloc (.map #[] 0):=⟨_,rfl⟩
 have H0:Hid (nG A w W1 w.heap.size 0 (.slice none 0 0) (aS (L.take 0))):=by
  rw [hW1]
  exact ⟨(bL.made w).as (fun s=>rfl),(Row.nil _ w _).on aj.ae ((Below.refl _ _).alloc (Nat.le_refl _) _)⟩
 go_enter func42,ntmps42
 go_wp2_with fail
 rw [<- hW1]
 clear hW1
 go_loopw [5,16] (fun v i wr=>∃ k:Nat,k<=n/\i=.int .i64 k/\Hid (nG A w wr w.heap.size k v (aS (L.take k)))) (fun _ i _=>n - (intOf i).toNat)
 case atStart=>exact ⟨0,Nat.zero_le _,rfl,H0⟩
 case round =>
  obtain ⟨k,hk,rfl,hst⟩:=hrel
  by_cases hlt:k<n
  ·have hltz:(k:Int)<(n:Int):=by omega
   have hkl:k<L.length:=by rw [hn.out];exact hlt
   have hbw:Below w.heap.size w wr:=hst.out.row.below
   obtain ⟨D,off,rfl,hD,_,cs,hr,hv⟩:=hL.out.get hlt
   have HT:Hid (aS (L.take (k+1))=dD (aS (L.take k)) (L.getD k default)):=Qp L hkl
   have oC:Hid ((aS (L.take k)).length<=k):=Ql L k (by omega)
   generalize L.getD k default=q at hr HT
   generalize aS (L.take k)=G at hst HT oC
   have oh:aj (fun b=>A b/\b<w.heap.size) w cs q:=aj.ae.weak hr (fun b hb h=>⟨h,hb⟩)
   obtain ⟨hsz,v1,v2,v3,v4,v5,v6,v7,v8,v9,v10,v11,v12,v13,v14,v15,rfl⟩:=hr.lY
   have HV:Hid (wr.rangeAt D (off+k*16) [.string q.1,v1,v2,v3,v4,v5,v6,v7,v8,v9,v10,v11,v12,v13,v14,v15]):=fun j v hj=>(hbw.cell hD).trans (hv j v hj)
   have hi:(prog.info? 41).map (·.size)=some ([.string q.1,v1,v2,v3,v4,v5,v6,v7,v8,v9,v10,v11,v12,v13,v14,v15]:List Value).length:=kY
   have H1:Hid ((([.string q.1,v1,v2,v3,v4,v5,v6,v7,v8,v9,v10,v11,v12,v13,v14,v15]:List Value).toArray).all (·.oneCell')=true):=all_oneCell_toArray (aj.ae.one hr)
   have HA:Hid (aj (fun b=>A b/\b<w.heap.size) w [.string q.1,v1,v2,v3,v4,v5,v6,v7,v8,v9,v10,v11,v12,v13,v14,v15] q):=oh
   clear hr hv oh
   obtain ⟨wb,hwb⟩:∃ wb,wb=(wr.alloc (.cells #[.string ⟨#[]⟩,.int .i64 0,.slice none 0 0,.int .i64 0,.int .i64 0,.int .i64 0,.slice none 0 0,.slice none 0 0,.slice none 0 0,.slice none 0 0,.slice none 0 0,.slice none 0 0,.slice none 0 0,.slice none 0 0,.string ⟨#[]⟩,.string ⟨#[]⟩] 41)).setCells wr.heap.size 0 [.string q.1,v1,v2,v3,v4,v5,v6,v7,v8,v9,v10,v11,v12,v13,v14,v15]:=⟨_,rfl⟩
   have eD:Hid ((wr.alloc (.cells #[.string ⟨#[]⟩,.int .i64 0,.slice none 0 0,.int .i64 0,.int .i64 0,.int .i64 0,.slice none 0 0,.slice none 0 0,.slice none 0 0,.slice none 0 0,.slice none 0 0,.slice none 0 0,.slice none 0 0,.slice none 0 0,.string ⟨#[]⟩,.string ⟨#[]⟩] 41)).there wr.heap.size 0 16):=(af.new wr 41 [.string ⟨#[]⟩,.int .i64 0,.slice none 0 0,.int .i64 0,.int .i64 0,.int .i64 0,.slice none 0 0,.slice none 0 0,.slice none 0 0,.slice none 0 0,.slice none 0 0,.slice none 0 0,.slice none 0 0,.slice none 0 0,.string ⟨#[]⟩,.string ⟨#[]⟩]).there
   have fE:Hid (wb.rangeAt wr.heap.size 0 [.string q.1,v1,v2,v3,v4,v5,v6,v7,v8,v9,v10,v11,v12,v13,v14,v15]):=by rw [hwb];exact World.rangeAt_setCells_same _ _ _ _ eD.out
   have eF:Hid (Below wr.heap.size wr wb):=by rw [hwb];exact cu ((Below.refl _ _).alloc (Nat.le_refl _) _) (Nat.le_refl _)
   have nz:Hid (wr.heap.size<wb.heap.size):=World.block_lt_of_cell? wb ⟨wr.heap.size,0+0,none⟩ (fE.out 0 _ rfl)
   have gZ:Hid (wb=(wr.alloc (.cells #[.string ⟨#[]⟩,.int .i64 0,.slice none 0 0,.int .i64 0,.int .i64 0,.int .i64 0,.slice none 0 0,.slice none 0 0,.slice none 0 0,.slice none 0 0,.slice none 0 0,.slice none 0 0,.slice none 0 0,.slice none 0 0,.string ⟨#[]⟩,.string ⟨#[]⟩] 41)).setCells wr.heap.size 0 (([.string q.1,v1,v2,v3,v4,v5,v6,v7,v8,v9,v10,v11,v12,v13,v14,v15]:List Value).toArray).toList):=hwb
   clear hwb
   have HP:Hid (∀ u,Below wb.heap.size wb u->aj (fun b=>A b/\b<w.heap.size) u [.string q.1,v1,v2,v3,v4,v5,v6,v7,v8,v9,v10,v11,v12,v13,v14,v15] q):=fun u hb=>aj.ae.kept HA.out (Kept.below (ah (ah hbw eF.out) hb))
   go_wp2_with (first | (refine wpList_load_mid rfl 41 _ rfl D (off+k*16) rfl [.string q.1,v1,v2,v3,v4,v5,v6,v7,v8,v9,v10,v11,v12,v13,v14,v15] _ HV.out underlying41 rfl hi ?_) | (refine wpList_store_mid rfl 41 _ _ rfl wr.heap.size 0 (([.string q.1,v1,v2,v3,v4,v5,v6,v7,v8,v9,v10,v11,v12,v13,v14,v15]:List Value).toArray) rfl rfl eD.out hi H1.out ?_;refine iJ gZ.out ?_) | (refine wpList_load_mid rfl 41 _ rfl wr.heap.size 0 rfl [.string q.1,v1,v2,v3,v4,v5,v6,v7,v8,v9,v10,v11,v12,v13,v14,v15] _ fE.out underlying41 rfl hi ?_))
   refine (YY [.string q.1,v1,v2,v3,v4,v5,v6,v7,v8,v9,v10,v11,v12,v13,v14,v15] q _ wb (HP.out wb (Below.refl _ _))).mono ?_
   rintro e wc ⟨rfl,hbc⟩
   have HSc:Hid (bL wc w.heap.size k (fun s=>hasB ay (fO G) s)):=(hst.out.set.on eF.out).on hbc
   cases hq:hasB ay (fO G) q.1
   ·have qy:Hid (∀ u,Below wc.heap.size wc u->bL u w.heap.size k (fun s=>hasB ay (fO G) s)):=fun u hb=>HSc.out.on hb
    have nA:Hid (∀ u,Below wc.heap.size wc u->u.rangeAt wr.heap.size 0 [.string q.1,v1,v2,v3,v4,v5,v6,v7,v8,v9,v10,v11,v12,v13,v14,v15]/\wr.heap.size<u.heap.size):=fun u hb=>⟨tJ (tJ fE.out hbc nz.out) hb (Nat.lt_of_lt_of_le nz.out hbc.size),Nat.lt_of_lt_of_le (Nat.lt_of_lt_of_le nz.out hbc.size) hb.size⟩
    have HQ:Hid (hasB ay (fO G) q.1=false):=hq
    clear hq
    obtain ⟨wd,hwd⟩:∃ wd,wd=wc.alloc (.cells #[] 139):=⟨_,rfl⟩
    have hbd:Below wc.heap.size wc wd:=by rw [hwd];exact (Below.refl _ _).alloc (Nat.le_refl _) _
    have rY:=(nA.out wd hbd).1
    have qA:Hid (wd.rangeAt wr.heap.size 0 [.string q.1,v1,v2,v3,v4,v5,v6,v7,v8,v9,v10,v11,v12,v13,v14,v15]):=rY
    clear rY
    go_wp2_with (first | (at_lookup;refine vJ rfl _ _ 138 rfl underlying138 w.heap.size k _ q.1 hsz rfl HSc.out rfl false HQ.out ?_) | (refine iJ hwd ?_;refine wpList_load_mid rfl 41 _ rfl wr.heap.size 0 rfl [.string q.1,v1,v2,v3,v4,v5,v6,v7,v8,v9,v10,v11,v12,v13,v14,v15] _ qA.out underlying41 rfl hi ?_))
    rw [<- hwd]
    refine (YY [.string q.1,v1,v2,v3,v4,v5,v6,v7,v8,v9,v10,v11,v12,v13,v14,v15] q _ wd (HP.out wd (ah hbc hbd))).mono ?_
    rintro e we ⟨rfl,hbe⟩
    have hce:Below wc.heap.size wc we:=ah hbd hbe
    have ve:Hid (bL we w.heap.size k (fun s=>hasB ay (fO G) s)):=qy.out we hce
    have hmb:w.heap.size<wr.heap.size:=hst.out.set.lt
    have AB:Hid (∀ wf,we.grownBy wf (some w.heap.size)->wf.rangeAt wr.heap.size 0 [.string q.1,v1,v2,v3,v4,v5,v6,v7,v8,v9,v10,v11,v12,v13,v14,v15]):=fun wf hg=>L6 (nA.out we hce).1 (nA.out we hce).2 hg (fun e=>by injection e with e;omega)
    have hrw:Row aj 16 (fun b=>A b/\b<w.heap.size) w we 41 u5 G:=((hst.out.row.on aj.ae eF.out).on aj.ae hbc).on aj.ae hce
    have hne:Value.ownBlock u5≠some w.heap.size:=hrw.uA ve.out
    have HRW:Hid (∀ wf,we.grownBy wf (some w.heap.size)->Row aj 16 (fun b=>A b/\b<w.heap.size) w wf 41 u5 G):=fun wf hg=>hrw.grown aj.ae hg (fun b hb=>by injection hb with hb;subst hb;exact ⟨Nat.le_refl _,hne,fun h=>Nat.lt_irrefl _ h.2⟩)
    have HR3:Hid (∀ wf,we.grownBy wf (some w.heap.size)->Row aj 16 (fun b=>A b/\b<w.heap.size) w (wf.alloc (.cells #[.string q.1,v1,v2,v3,v4,v5,v6,v7,v8,v9,v10,v11,v12,v13,v14,v15] 41)) 41 u5 G):=fun wf hg=>(HRW.out wf hg).on aj.ae ((Below.refl _ _).alloc (Nat.le_refl _) _)
    have gV:Hid (∀ wf,we.grownBy wf (some w.heap.size)->aW aj 16 (fun b=>(fun b=>A b/\b<w.heap.size) b/\Value.ownBlock u5≠some b) (wf.alloc (.cells #[.string q.1,v1,v2,v3,v4,v5,v6,v7,v8,v9,v10,v11,v12,v13,v14,v15] 41)) [.string q.1,v1,v2,v3,v4,v5,v6,v7,v8,v9,v10,v11,v12,v13,v14,v15] [q]):=fun wf hg=>by
     have h3:=HR3.out wf hg
     exact nJ aj.ae (aj.ae.weak (aj.ae.kept HA.out (Kept.below h3.below)) (fun b _ hb=>⟨hb,fun e=>by have h1:=(h3.lt e).1;have h2:=hb.2;omega⟩))
    have HX:Hid (∀ wf:World,∀ j v,([.string q.1,v1,v2,v3,v4,v5,v6,v7,v8,v9,v10,v11,v12,v13,v14,v15]:List Value)[j]?=some v->(wf.alloc (.cells #[.string q.1,v1,v2,v3,v4,v5,v6,v7,v8,v9,v10,v11,v12,v13,v14,v15] 41)).cell? ((⟨wf.heap.size,0,none⟩:Addr).add j)=some v):=fun wf=>nY wf _ 41
    have HO:Hid (∀ v∈[.string q.1,v1,v2,v3,v4,v5,v6,v7,v8,v9,v10,v11,v12,v13,v14,v15],v.oneCell'=true):=aj.ae.one HA.out
    have gU:Hid ((G.length+[q].length)*296<=140737488355328):=by have h1:=qC hbb.out hlt;have h2:=oC.out;rw [Hid,List.length_singleton];omega
    have hkn:k<140737488355328:=by omega
    have HE:Hid (∀ (wf:World) (vn:Value) (w4:World),bL wf w.heap.size (k+1) (fun t=>hasB ay (fO G) t || ay t q.1)->Row aj 16 (fun b=>A b/\b<w.heap.size) w w4 41 vn (G++[q])->(wf.alloc (.cells #[.string q.1,v1,v2,v3,v4,v5,v6,v7,v8,v9,v10,v11,v12,v13,v14,v15] 41)).grownBy w4 (Value.ownBlock u5)->nG A w w4 w.heap.size (k+1) vn (aS (L.take (k+1)))):=fun wf vn w4 hs hr hg=>by
     have e1:aS (L.take (k+1))=G++[q]:=by rw [HT.out];unfold dD;rw [HQ.out];rfl
     rw [e1]
     exact ⟨((hs.on ((Below.refl _ _).alloc (Nat.le_refl _) _)).grown hg hne).as (fun s=>by rw [show fO (G++[q])=fO G++[q.1] by simp [fO],Ey]),hr⟩
    clear hrw hne nA qy HRW hce hbe hbd hwd qA HV eD gZ H1
    go_wp2_with (first | (at_mapUpdate;go_must (refine Eg rfl _ _ _ 138 rfl underlying138 w.heap.size k _ q.1 hsz hkn rfl ve.out rfl rfl ?_);intro wf wR hgf) | (refine wpList_load_mid rfl 41 _ rfl wr.heap.size 0 rfl [.string q.1,v1,v2,v3,v4,v5,v6,v7,v8,v9,v10,v11,v12,v13,v14,v15] _ (AB.out _ hgf) underlying41 rfl hi ?_) | (at_builtin;go_must (refine mh aj.ae (A:=(fun b=>A b/\b<w.heap.size)) (w0:=w) rfl _ _ 22 41 rfl _ 296 AY underlying22 rfl (by decide) (by decide) u5 G rfl (HR3.out _ hgf) ⟨wf.heap.size,0,none⟩ 1 1 _ [q] rfl rfl (gV.out _ hgf) (HX.out _) HO.out gU.out ?_);intro vn w4 hrow4 hg4))
    have HZ:=HE.out wf vn w4 wR hrow4 hg4
    go_roundw
    case rel=>exact ⟨k+1,by omega,by go_num,HZ⟩
    case measure=>simp [intOf];omega
   ·have HZ:Hid (nG A w (wc.alloc (.cells #[] 139)) w.heap.size (k+1) u5 (aS (L.take (k+1)))):=by
     have e1:aS (L.take (k+1))=G:=by rw [HT.out];unfold dD;rw [hq];rfl
     rw [Hid,e1]
     have h1:=((hst.out.on eF.out).on hbc).on ((Below.refl wc.heap.size wc).alloc (Nat.le_refl _) (.cells #[] 139))
     exact ⟨h1.set.mono (Nat.le_succ _),h1.row⟩
    clear HV eD gZ H1 HT
    go_wp2_with (at_lookup;refine vJ rfl _ _ 138 rfl underlying138 w.heap.size k _ q.1 hsz rfl HSc.out rfl true hq ?_)
    go_roundw
    case rel=>exact ⟨k+1,by omega,by go_num,HZ⟩
    case measure=>simp [intOf];omega
  ·have oo:L.take k=L:=List.take_of_length_le (by rw [hn.out];omega)
   rw [oo] at hst
   have hlz:¬ ((k:Int)<(n:Int)):=by omega
   go_wp2_with fail
   go_ret
   exact ⟨_,rfl,hst.out.row⟩
end Go.Proofs.YtgikfenllgldoaaGreat
namespace Go.Proofs.YtgikfenllgldoaaGreat
open Go.Proofs.Tryz
open Go.RowKit
theorem IQ (F:List aB) (p:aB):ek (F++[p])=((ek F).1++[p.1],yM (ek F).2.1 (kC p),(ek F).2.2.1++iB p,(ek F).2.2.2++iH p):=by
 simp [ek,fO,vz]
theorem IM (L:List aB) {k:Nat} (hk:k<L.length):ek (L.take (k+1))=((ek (L.take k)).1++[(L.getD k default).1],yM (ek (L.take k)).2.1 (kC (L.getD k default)),(ek (L.take k)).2.2.1++iB (L.getD k default),(ek (L.take k)).2.2.2++iH (L.getD k default)):=by
 rw [<- nH hk,IQ]
theorem Xt {β:Type} (f:aB->List β) (F:List aB):(F.flatMap f).length=bg (fun p=>(f p).length) F:=by
 induction F with
 | nil=>rfl
 | cons p F ih=>rw [List.flatMap_cons,List.length_append,ih];simp [bg]
theorem Em (F:List aB):(ek F).1.length=F.length/\(ek F).2.2.1.length=bg (fun p=>(iB p).length) F/\(ek F).2.2.2.length=bg (fun p=>(iH p).length) F :=
 ⟨by simp [ek,fO],Xt _ _,Xt _ _⟩
theorem IV {L:List aB} (h:vH L) {k:Nat} (hk:k<L.length):((ek (L.take k)).2.2.1.length+(iB (L.getD k default)).length)*8<=140737488351232/\((ek (L.take k)).2.2.2.length+(iH (L.getD k default)).length)*16<=140737488351232:=by
 obtain ⟨_,h2,h3⟩:=Em (L.take k)
 have e1:=Yb (fun p=>(iB p).length) L (k+1)
 have e2:=Yb (fun p=>(iH p).length) L (k+1)
 rw [<- nH hk,Ma] at e1 e2
 simp only [bg,List.map_cons,List.map_nil,List.sum_cons,List.sum_nil] at e1 e2 h2 h3 h
 obtain ⟨h4,h5⟩:=h
 simp only [bg] at h4 h5
 exact ⟨by omega,by omega⟩
end Go.Proofs.YtgikfenllgldoaaGreat
