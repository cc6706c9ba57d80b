/- feasible.placedIn: the bound pods of a state, each with the labels of its node. Conditions: the state lies as is said of it, each node has a name of its own; what is placed is no more than memory holds. -/
import Derived.Test.YtgikfenllgldoaaGreatQ45
set_option linter.unusedSimpArgs false
set_option maxRecDepth 100000
set_option maxHeartbeats 32000000
namespace Go.Proofs.YtgikfenllgldoaaGreat
open Go.Proofs.Tryz
open Go.RowKit Go.Maps
def kI (N:List aX) (s:ByteArray):List aG:=match fI (N.map Prod.fst) s with | some k=>(N.getD k default).2.1 | none=>[]
def dz (x:aP):List aM:=(x.1.filter (fun p=>!ay (aF p) ⟨#[]⟩)).map (fun p=>(p,kI x.2.1 (aF p)))
theorem zHf (x:aP):(dz x).length<=x.1.length:=by unfold dz;rw [List.length_map];exact List.length_filter_le _ _
def gJ (N:List aX) (L:List aB) (k:Nat):List aM:=((L.take k).filter (fun p=>!ay (aF p) ⟨#[]⟩)).map (fun p=>(p,kI N (aF p)))
theorem zFI (N:List aX) (L:List aB) {k:Nat} (hk:k<L.length):gJ N L (k+1)=gJ N L k++(if ay (aF (L.getD k default)) ⟨#[]⟩=true then [] else [(L.getD k default,kI N (aF (L.getD k default)))]):=by
 unfold gJ
 rw [List.take_succ_eq_append_getElem hk,List.filter_append,List.map_append,List.getD_eq_getElem?_getD,List.getElem?_eq_getElem hk]
 congr 1
 by_cases h:ay (aF L[k]) ⟨#[]⟩=true
 ·simp [h]
 ·simp [h]
theorem zGF (N:List aX) (L:List aB) (k:Nat):(gJ N L k).length<=k:=by unfold gJ;rw [List.length_map];exact Nat.le_trans (List.length_filter_le _ _) (by rw [List.length_take];omega)
theorem Xn:(prog.info? 145).map (fun i=>(i.zero,i.size,i.bytes))=some (some (.agg #[.string ⟨#[]⟩,.int .i64 0,.slice none 0 0,.int .i64 0,.int .i64 0,.int .i64 0,.slice none 0 0,.slice none 0 0,.slice none 0 0,.slice none 0 0,.slice none 0 0,.slice none 0 0,.slice none 0 0,.slice none 0 0,.string ⟨#[]⟩,.string ⟨#[]⟩,.slice none 0 0]),17,320):=by kernel_rfl
theorem Zb (cs:List Value) (A:Where) (q:aB) (w:World) (h:Hid (aj A w cs q)):Calls prog 20 #[.agg cs.toArray] w fun e w'=>e=.returned (.bool (!ay (aF q) ⟨#[]⟩))/\Below w.heap.size w w':=by
 obtain ⟨_,_,v1,v2,v3,v4,v5,v6,v7,v8,v9,v10,v11,v12,v13,v15,rfl⟩:=h.out.wQ
 obtain ⟨W1,hW1⟩:∃ W1,W1=w.alloc (.cells #[.string q.1,v1,v2,v3,v4,v5,v6,v7,v8,v9,v10,v11,v12,v13,.string (aF q),v15] 41):=⟨_,rfl⟩
 have HB:Hid (Below w.heap.size w W1):=by rw [hW1];exact (Below.refl _ _).alloc (Nat.le_refl _) _
 have c14:W1.cell? ⟨w.heap.size,14,none⟩=some (.string (aF q)):=by rw [hW1];exact ((af.new w 41 [.string q.1,v1,v2,v3,v4,v5,v6,v7,v8,v9,v10,v11,v12,v13,.string (aF q),v15]).2 14 _ rfl).1
 have hq1:(aF q).toList.isEmpty=ay (aF q) ⟨#[]⟩:=Dq _
 clear h
 obtain ⟨b,hb⟩:∃ b,ay (aF q) ⟨#[]⟩=b:=⟨_,rfl⟩
 rw [hb] at hq1 |-
 clear hb
 go_enter func20,ntmps20
 go_upto_region 1 with fail
 rw [<- hW1]
 clear hW1
 go_wp2_with fail
 go_ret
 exact ⟨rfl,HB.out⟩
theorem zDI (cs:List Value) (x:aP) (w:World) (D:Where) (h:Hid (aK D w cs x)) (hnd:(x.2.1.map Prod.fst).Nodup) (hb:x.1.length*320<=140737488351232) :
  Calls prog 47 #[.agg cs.toArray] w fun e w'=>∃ v,e=.returned v/\Row aL 17 (fun b=>D b/\b<w.heap.size) w w' 145 v (dz x):=by
 obtain ⟨⟨a0,n0,m0⟩,⟨a1,n1,m1⟩,⟨a2,n2,m2⟩,⟨a3,n3,m3⟩,⟨a4,n4,m4⟩,⟨a5,n5,m5⟩,rfl,s0,s1,_⟩:=h.out.out
 simp only at s0 s1
 have hl0:Hid (x.1.length=n0):=s0.1
 have hl1:Hid (x.2.1.length=n1):=s1.1
 have acD:=s0.len (by decide)
 have hlen1:=s1.len (by decide)
 have CJ:Hid ((x.2.1.map Prod.fst).Nodup):=hnd
 have vV:Hid (n0*320<=140737488351232):=by rw [Hid,<- hl0.out];exact hb
 obtain ⟨W1,hW1⟩:∃ W,W=w.alloc (.cells #[.slice a0 n0 m0,.slice a1 n1 m1,.slice a2 n2 m2,.slice a3 n3 m3,.slice a4 n4 m4,.slice a5 n5 m5] 29):=⟨_,rfl⟩
 have B1:Below w.heap.size w W1:=by rw [hW1];go_grown
 have q1:af W1 w.heap.size [.slice a0 n0 m0,.slice a1 n1 m1,.slice a2 n2 m2,.slice a3 n3 m3,.slice a4 n4 m4,.slice a5 n5 m5]:=by rw [hW1];exact af.new w 29 _
 have hz1:W1.heap.size=w.heap.size+1:=by rw [hW1];simp
 obtain ⟨W2,hW2⟩:∃ W,W=W1.alloc (.map #[] 0):=⟨_,rfl⟩
 have B2:Below W1.heap.size W1 W2:=by rw [hW2];exact (Below.refl _ _).alloc (Nat.le_refl _) _
 have mN:aV W2 W1.heap.size ((x.2.1.map Prod.fst).take 0):=by rw [hW2];exact aV.made W1
 have f1:=(q1.2 1 _ rfl).1
 have hlt1:=q1.1
 have HU:Hid (∀ u,Kept (fun b=>b<=w.heap.size) W1 u->Below w.heap.size w u->ag aj 16 296 (fun b=>D b/\b<w.heap.size) u a0 n0 m0 x.1/\ag av 9 112 (fun b=>D b/\b<w.heap.size) u a1 n1 m1 x.2.1/\af u w.heap.size [.slice a0 n0 m0,.slice a1 n1 m1,.slice a2 n2 m2,.slice a3 n3 m3,.slice a4 n4 m4,.slice a5 n5 m5]):=fun u hu hbu=>⟨(s0.weak aj.ae (fun b hb hd=>⟨hd,hb⟩)).kept aj.ae ⟨hbu.size,fun b hb _=>hbu.block b hb.2⟩,(s1.weak av.ae (fun b hb hd=>⟨hd,hb⟩)).kept av.ae ⟨hbu.size,fun b hb _=>hbu.block b hb.2⟩,q1.kept hu (Nat.le_refl _)⟩
 have H2:Hid (aV W2 W1.heap.size ((x.2.1.map Prod.fst).take 0)/\Kept (fun b=>b<=w.heap.size) W1 W2/\Below w.heap.size w W2):=⟨mN,Kept.below B2,ah B1 B2⟩
 have hmm:=EG
 have ZH:Hid (W1.heap.size=w.heap.size+1):=hz1
 have HPT:Hid (dz x=gJ x.2.1 x.1 n0):=by unfold dz gJ;rw [List.take_of_length_le (by rw [hl0.out];exact Nat.le_refl _)];rfl
 clear h s0 s1 B1 q1 B2 mN hz1 hnd hb
 generalize Sg:W1.heap.size=mb at *
 have HW2:Hid (W2=W1.alloc (.map #[] 0)):=hW2
 have abN:Hid (W1.heap.size=mb):=Sg
 clear hW2
 go_enter func47,ntmps47
 go_upto_region 1 with fail
 rw [<- hW1]
 clear hW1
 go_upto_region 2 with fail
 rw [<- HW2.out]
 clear HW2 abN Sg hmm f1
 obtain ⟨_,_,xW⟩:=HU.out W2 H2.out.2.1 H2.out.2.2
 have f1:=(xW.2 1 _ rfl).1
 have hlt2:=xW.1
 clear xW
 go_wp2_with fail
 go_loopw [19] (fun i wr=>∃ k:Nat,k<=n1/\i=.int .i64 k/\Hid (aV wr mb ((x.2.1.map Prod.fst).take k)/\Kept (fun b=>b<=w.heap.size) W1 wr/\Below w.heap.size w wr)) (fun i _=>n1 - (intOf i).toNat)
 case atStart=>exact ⟨0,Nat.zero_le _,rfl,H2⟩
 case round =>
  obtain ⟨k,hk,rfl,hst⟩:=hrel
  obtain ⟨hnm,hkp,hbw⟩:=hst.out
  clear hst
  by_cases hlt:k<n1
  ·have hltz:(k:Int)<(n1:Int):=by omega
   have hkl:k<x.2.1.length:=by rw [hl1.out];exact hlt
   obtain ⟨B,off,wU,hBl,_,xs,hrn,hv⟩:=(HU.out wr hkp hbw).2.1.get hlt
   subst wU
   have hlk:((x.2.1.map Prod.fst).take k).length=k:=by rw [List.length_take,List.length_map];omega
   have HT:Hid ((x.2.1.map Prod.fst).take (k+1)=(x.2.1.map Prod.fst).take k++[(x.2.1.getD k default).1]):=EB Prod.fst hkl
   have hno:fI ((x.2.1.map Prod.fst).take k) (x.2.1.getD k default).1=none:=by
    have h8:=CJ.out
    rw [<- List.take_append_drop (k+1) (x.2.1.map Prod.fst),HT.out] at h8
    have h9:=(List.nodup_append.1 (List.nodup_append.1 h8).1).2.2
    cases e:fI ((x.2.1.map Prod.fst).take k) (x.2.1.getD k default).1 with
    | none=>rfl
    | some i =>
     obtain ⟨e1,e2,_⟩:=jl e
     have hm:(x.2.1.getD k default).1∈(x.2.1.map Prod.fst).take k:=by rw [<- e2,List.getD_eq_getElem?_getD,List.getElem?_eq_getElem e1];exact List.getElem_mem e1
     exact absurd rfl (h9 _ hm _ (by simp))
   generalize x.2.1.getD k default=x9 at hrn HT hno
   obtain ⟨hsz,v1,v2,v3,v4,v5,v6,v7,v8,rfl⟩:=hrn.lY
   have HV:Hid (wr.rangeAt B (off+k*9) [.string x9.1,v1,v2,v3,v4,v5,v6,v7,v8]):=hv
   have hi:(prog.info? 56).map (·.size)=some ([.string x9.1,v1,v2,v3,v4,v5,v6,v7,v8]:List Value).length:=LV
   have H1:Hid ((([.string x9.1,v1,v2,v3,v4,v5,v6,v7,v8]:List Value).toArray).all (·.oneCell')=true):=all_oneCell_toArray (av.ae.one hrn)
   clear hrn hv
   obtain ⟨wb,hwb⟩:∃ wb,wb=(wr.alloc (.cells #[.string ⟨#[]⟩,.slice none 0 0,.slice none 0 0,.bool false,.int .i64 0,.int .i64 0,.int .i64 0,.int .i64 0,.int .i64 0] 56)).setCells wr.heap.size 0 [.string x9.1,v1,v2,v3,v4,v5,v6,v7,v8]:=⟨_,rfl⟩
   have eD:Hid ((wr.alloc (.cells #[.string ⟨#[]⟩,.slice none 0 0,.slice none 0 0,.bool false,.int .i64 0,.int .i64 0,.int .i64 0,.int .i64 0,.int .i64 0] 56)).there wr.heap.size 0 9):=(af.new wr 56 [.string ⟨#[]⟩,.slice none 0 0,.slice none 0 0,.bool false,.int .i64 0,.int .i64 0,.int .i64 0,.int .i64 0,.int .i64 0]).there
   have gz:af wb wr.heap.size [.string x9.1,v1,v2,v3,v4,v5,v6,v7,v8]:=by rw [hwb];exact wH wr 56 [.string ⟨#[]⟩,.slice none 0 0,.slice none 0 0,.bool false,.int .i64 0,.int .i64 0,.int .i64 0,.int .i64 0,.int .i64 0] [.string x9.1,v1,v2,v3,v4,v5,v6,v7,v8] rfl
   have eF:Below wr.heap.size wr wb:=by rw [hwb];exact cu ((Below.refl _ _).alloc (Nat.le_refl _) _) (Nat.le_refl _)
   have gZ:Hid (wb=(wr.alloc (.cells #[.string ⟨#[]⟩,.slice none 0 0,.slice none 0 0,.bool false,.int .i64 0,.int .i64 0,.int .i64 0,.int .i64 0,.int .i64 0] 56)).setCells wr.heap.size 0 (([.string x9.1,v1,v2,v3,v4,v5,v6,v7,v8]:List Value).toArray).toList):=hwb
   clear hwb
   have c0:=(gz.2 0 _ rfl).1
   have hlb:=gz.1
   obtain ⟨w7,hrun,Sa,jR⟩:=(hnm.on eF).put 119 underlying119 hsz hno (by omega)
   rw [hlk] at hrun
   have HZ:Hid (aV w7 mb ((x.2.1.map Prod.fst).take (k+1))/\Kept (fun b=>b<=w.heap.size) W1 w7/\Below w.heap.size w w7):=⟨by rw [HT.out];exact Sa,(hkp.trans (Kept.below eF)).trans (Kept.grown jR (fun b e hb=>by cases e;have:=ZH.out;omega)),(ah hbw eF).grown jR (ah hbw eF).size (fun b e=>by cases e;have:=ZH.out;omega)⟩
   clear hnm hkp hbw Sa jR gz eF hno hlk HT
   go_wp2_with (first | (refine wpList_load_mid rfl 56 _ rfl B (off+k*9) rfl [.string x9.1,v1,v2,v3,v4,v5,v6,v7,v8] _ HV.out underlying56 rfl hi ?_) | (refine wpList_store_mid rfl 56 _ _ rfl wr.heap.size 0 (([.string x9.1,v1,v2,v3,v4,v5,v6,v7,v8]:List Value).toArray) rfl rfl eD.out hi H1.out ?_;refine iJ gZ.out ?_) | fail)
   go_roundw
   case rel=>exact ⟨k+1,by omega,by go_num,HZ⟩
   case measure=>simp [intOf];omega
  ·obtain rfl:n1=k:=by omega
   have hte:(x.2.1.map Prod.fst).take n1=x.2.1.map Prod.fst:=List.take_of_length_le (by rw [List.length_map,hl1.out];exact Nat.le_refl _)
   rw [hte] at hnm
   obtain ⟨W5,tV⟩:∃ z,z=wr:=⟨_,rfl⟩
   subst tV
   have f0:=((HU.out W5 hkp hbw).2.2.2 0 _ rfl).1
   have acU:=(HU.out W5 hkp hbw).2.2.1
   have HF:Hid (∀ u,Below W5.heap.size W5 u->ag aj 16 296 (fun b=>D b/\b<w.heap.size) u a0 n0 m0 x.1/\ag av 9 112 (fun b=>D b/\b<w.heap.size) u a1 n1 m1 x.2.1/\af u w.heap.size [.slice a0 n0 m0,.slice a1 n1 m1,.slice a2 n2 m2,.slice a3 n3 m3,.slice a4 n4 m4,.slice a5 n5 m5]/\aV u mb (x.2.1.map Prod.fst)/\Below w.heap.size w u):=fun u hu=>⟨(HU.out W5 hkp hbw).1.on aj.ae hu,(HU.out W5 hkp hbw).2.1.on av.ae hu,(HU.out W5 hkp hbw).2.2.on hu,hnm.on hu,ah hbw hu⟩
   have H5:Hid (Row aL 17 (fun b=>D b/\b<w.heap.size) W5 W5 145 (.slice none 0 0) (gJ x.2.1 x.1 0)):=Row.nil _ _ _
   have hwW:w.heap.size<=W5.heap.size:=hbw.size
   clear hte hnm hkp hbw H2 HU
   go_wp2_with fail
   go_loopw [6,32] (fun o i wr=>∃ j:Nat,j<=n0/\i=.int .i64 j/\Hid (Row aL 17 (fun b=>D b/\b<w.heap.size) W5 wr 145 o (gJ x.2.1 x.1 j))) (fun _ i _=>n0 - (intOf i).toNat)
   case atStart=>exact ⟨0,Nat.zero_le _,rfl,H5⟩
   case round =>
    obtain ⟨j,hj,rfl,hrow⟩:=hrel
    have hbr:Below W5.heap.size W5 wr:=hrow.out.below
    by_cases hlt2:j<n0
    ·have hltz:(j:Int)<(n0:Int):=by omega
     have hjl:j<x.1.length:=by rw [hl0.out];exact hlt2
     obtain ⟨B,off,wU,hBl,_,xs,vN,hv⟩:=(HF.out wr hbr).1.get hlt2
     subst wU
     have HT:Hid (gJ x.2.1 x.1 (j+1)=gJ x.2.1 x.1 j++(if ay (aF (x.1.getD j default)) ⟨#[]⟩=true then [] else [(x.1.getD j default,kI x.2.1 (aF (x.1.getD j default)))])):=zFI _ _ hjl
     have Oi:Hid ((gJ x.2.1 x.1 j).length<=j):=zGF _ _ _
     generalize x.1.getD j default=q at vN HT
     generalize gJ x.2.1 x.1 j=G at hrow HT Oi
     obtain ⟨hsz,hsn,v1,v2,v3,v4,v5,v6,v7,v8,v9,v10,v11,v12,v13,v15,rfl⟩:=vN.wQ
     have HV:Hid (wr.rangeAt B (off+j*16) [.string q.1,v1,v2,v3,v4,v5,v6,v7,v8,v9,v10,v11,v12,v13,.string (aF q),v15]):=hv
     have hi:(prog.info? 41).map (·.size)=some ([.string q.1,v1,v2,v3,v4,v5,v6,v7,v8,v9,v10,v11,v12,v13,.string (aF q),v15]:List Value).length:=kY
     have H1:Hid ((([.string q.1,v1,v2,v3,v4,v5,v6,v7,v8,v9,v10,v11,v12,v13,.string (aF q),v15]:List Value).toArray).all (·.oneCell')=true):=all_oneCell_toArray (aj.ae.one vN)
     have HA:Hid (aj (fun b=>D b/\b<w.heap.size) wr [.string q.1,v1,v2,v3,v4,v5,v6,v7,v8,v9,v10,v11,v12,v13,.string (aF q),v15] q):=vN
     clear vN hv
     obtain ⟨wb,hwb⟩:∃ wb,wb=(wr.alloc (.cells #[.string ⟨#[]⟩,.int .i64 0,.slice none 0 0,.int .i64 0,.int .i64 0,.int .i64 0,.slice none 0 0,.slice none 0 0,.slice none 0 0,.slice none 0 0,.slice none 0 0,.slice none 0 0,.slice none 0 0,.slice none 0 0,.string ⟨#[]⟩,.string ⟨#[]⟩] 41)).setCells wr.heap.size 0 [.string q.1,v1,v2,v3,v4,v5,v6,v7,v8,v9,v10,v11,v12,v13,.string (aF q),v15]:=⟨_,rfl⟩
     have eD:Hid ((wr.alloc (.cells #[.string ⟨#[]⟩,.int .i64 0,.slice none 0 0,.int .i64 0,.int .i64 0,.int .i64 0,.slice none 0 0,.slice none 0 0,.slice none 0 0,.slice none 0 0,.slice none 0 0,.slice none 0 0,.slice none 0 0,.slice none 0 0,.string ⟨#[]⟩,.string ⟨#[]⟩] 41)).there wr.heap.size 0 16):=(af.new wr 41 [.string ⟨#[]⟩,.int .i64 0,.slice none 0 0,.int .i64 0,.int .i64 0,.int .i64 0,.slice none 0 0,.slice none 0 0,.slice none 0 0,.slice none 0 0,.slice none 0 0,.slice none 0 0,.slice none 0 0,.slice none 0 0,.string ⟨#[]⟩,.string ⟨#[]⟩]).there
     have gz:Hid (af wb wr.heap.size [.string q.1,v1,v2,v3,v4,v5,v6,v7,v8,v9,v10,v11,v12,v13,.string (aF q),v15]):=by rw [hwb];exact wH wr 41 [.string ⟨#[]⟩,.int .i64 0,.slice none 0 0,.int .i64 0,.int .i64 0,.int .i64 0,.slice none 0 0,.slice none 0 0,.slice none 0 0,.slice none 0 0,.slice none 0 0,.slice none 0 0,.slice none 0 0,.slice none 0 0,.string ⟨#[]⟩,.string ⟨#[]⟩] [.string q.1,v1,v2,v3,v4,v5,v6,v7,v8,v9,v10,v11,v12,v13,.string (aF q),v15] rfl
     have eF:Hid (Below wr.heap.size wr wb):=by rw [hwb];exact cu ((Below.refl _ _).alloc (Nat.le_refl _) _) (Nat.le_refl _)
     have gZ:Hid (wb=(wr.alloc (.cells #[.string ⟨#[]⟩,.int .i64 0,.slice none 0 0,.int .i64 0,.int .i64 0,.int .i64 0,.slice none 0 0,.slice none 0 0,.slice none 0 0,.slice none 0 0,.slice none 0 0,.slice none 0 0,.slice none 0 0,.slice none 0 0,.string ⟨#[]⟩,.string ⟨#[]⟩] 41)).setCells wr.heap.size 0 (([.string q.1,v1,v2,v3,v4,v5,v6,v7,v8,v9,v10,v11,v12,v13,.string (aF q),v15]:List Value).toArray).toList):=hwb
     clear hwb
     have fE:Hid (wb.rangeAt wr.heap.size 0 [.string q.1,v1,v2,v3,v4,v5,v6,v7,v8,v9,v10,v11,v12,v13,.string (aF q),v15]):=gz.out.range
     have hC:=Zb [.string q.1,v1,v2,v3,v4,v5,v6,v7,v8,v9,v10,v11,v12,v13,.string (aF q),v15] _ q wb (aj.ae.kept HA.out (Kept.below eF.out))
     have hlb:=gz.out.1
     go_wp2_with (first | (refine wpList_load_mid rfl 41 _ rfl B (off+j*16) rfl [.string q.1,v1,v2,v3,v4,v5,v6,v7,v8,v9,v10,v11,v12,v13,.string (aF q),v15] _ HV.out underlying41 rfl hi ?_) | (refine wpList_store_mid rfl 41 _ _ rfl wr.heap.size 0 (([.string q.1,v1,v2,v3,v4,v5,v6,v7,v8,v9,v10,v11,v12,v13,.string (aF q),v15]:List Value).toArray) rfl rfl eD.out hi H1.out ?_;refine iJ gZ.out ?_) | (refine wpList_load_mid rfl 41 _ rfl wr.heap.size 0 rfl [.string q.1,v1,v2,v3,v4,v5,v6,v7,v8,v9,v10,v11,v12,v13,.string (aF q),v15] _ fE.out underlying41 rfl hi ?_) | fail)
     refine hC.mono ?_
     rintro e z1 ⟨rfl,d1⟩
     clear hC HV eD gZ fE
     have b1:Below wr.heap.size wr z1:=ah eF.out d1
     have zl:=gz.out.on d1
     have c14:=(zl.2 14 _ rfl).1
     have abe:=zl.1
     have HR1:Hid (z1.rangeAt wr.heap.size 0 [.string q.1,v1,v2,v3,v4,v5,v6,v7,v8,v9,v10,v11,v12,v13,.string (aF q),v15]):=zl.range
     cases hq:ay (aF q) ⟨#[]⟩ with
     | true =>
      rw [hq,if_pos rfl,List.append_nil] at HT
      have HN:Hid (Row aL 17 (fun b=>D b/\b<w.heap.size) W5 z1 145 u6 (gJ x.2.1 x.1 (j+1))):=by rw [Hid,HT.out];exact hrow.out.on aL.ae b1
      clear HT hrow Oi HA gz eF zl c14 HR1 d1 b1
      go_wp2_with fail
      go_roundw
      case rel=>exact ⟨j+1,by omega,by go_num,HN⟩
      case measure=>simp [intOf];omega
     | false =>
      rw [hq,if_neg (by decide)] at HT
      obtain ⟨z2,hz2⟩:∃ z,z=(z1.alloc (.cells #[.string ⟨#[]⟩,.int .i64 0,.slice none 0 0,.int .i64 0,.int .i64 0,.int .i64 0,.slice none 0 0,.slice none 0 0,.slice none 0 0,.slice none 0 0,.slice none 0 0,.slice none 0 0,.slice none 0 0,.slice none 0 0,.string ⟨#[]⟩,.string ⟨#[]⟩,.slice none 0 0] 145)).setCells z1.heap.size 0 [.string q.1,v1,v2,v3,v4,v5,v6,v7,v8,v9,v10,v11,v12,v13,.string (aF q),v15,.slice none 0 0]:=⟨_,rfl⟩
      have Us:Hid ((z1.alloc (.cells #[.string ⟨#[]⟩,.int .i64 0,.slice none 0 0,.int .i64 0,.int .i64 0,.int .i64 0,.slice none 0 0,.slice none 0 0,.slice none 0 0,.slice none 0 0,.slice none 0 0,.slice none 0 0,.slice none 0 0,.slice none 0 0,.string ⟨#[]⟩,.string ⟨#[]⟩,.slice none 0 0] 145)).there z1.heap.size 0 17):=(af.new z1 145 [.string ⟨#[]⟩,.int .i64 0,.slice none 0 0,.int .i64 0,.int .i64 0,.int .i64 0,.slice none 0 0,.slice none 0 0,.slice none 0 0,.slice none 0 0,.slice none 0 0,.slice none 0 0,.slice none 0 0,.slice none 0 0,.string ⟨#[]⟩,.string ⟨#[]⟩,.slice none 0 0]).there
      have BI:af z2 z1.heap.size [.string q.1,v1,v2,v3,v4,v5,v6,v7,v8,v9,v10,v11,v12,v13,.string (aF q),v15,.slice none 0 0]:=by rw [hz2];exact wH z1 145 [.string ⟨#[]⟩,.int .i64 0,.slice none 0 0,.int .i64 0,.int .i64 0,.int .i64 0,.slice none 0 0,.slice none 0 0,.slice none 0 0,.slice none 0 0,.slice none 0 0,.slice none 0 0,.slice none 0 0,.slice none 0 0,.string ⟨#[]⟩,.string ⟨#[]⟩,.slice none 0 0] [.string q.1,v1,v2,v3,v4,v5,v6,v7,v8,v9,v10,v11,v12,v13,.string (aF q),v15,.slice none 0 0] rfl
      have d2:Below z1.heap.size z1 z2:=by rw [hz2];exact cu ((Below.refl _ _).alloc (Nat.le_refl _) _) (Nat.le_refl _)
      have HZ2:Hid (z2=(z1.alloc (.cells #[.string ⟨#[]⟩,.int .i64 0,.slice none 0 0,.int .i64 0,.int .i64 0,.int .i64 0,.slice none 0 0,.slice none 0 0,.slice none 0 0,.slice none 0 0,.slice none 0 0,.slice none 0 0,.slice none 0 0,.slice none 0 0,.string ⟨#[]⟩,.string ⟨#[]⟩,.slice none 0 0] 145)).setCells z1.heap.size 0 (([.string q.1,v1,v2,v3,v4,v5,v6,v7,v8,v9,v10,v11,v12,v13,.string (aF q),v15,.slice none 0 0]:List Value).toArray).toList):=hz2
      have kM:(prog.info? 145).map (·.size)=some ([.string q.1,v1,v2,v3,v4,v5,v6,v7,v8,v9,v10,v11,v12,v13,.string (aF q),v15,.slice none 0 0]:List Value).length:=Ls
      have H17:Hid ((([.string q.1,v1,v2,v3,v4,v5,v6,v7,v8,v9,v10,v11,v12,v13,.string (aF q),v15,.slice none 0 0]:List Value).toArray).all (·.oneCell')=true):=all_oneCell_toArray (fun v hv=>by
       have h8:∀ u∈[.string q.1,v1,v2,v3,v4,v5,v6,v7,v8,v9,v10,v11,v12,v13,.string (aF q),v15],u.oneCell'=true:=aj.ae.one HA.out
       have h9:v∈[.string q.1,v1,v2,v3,v4,v5,v6,v7,v8,v9,v10,v11,v12,v13,.string (aF q),v15]++[.slice none 0 0]:=hv
       rcases List.mem_append.1 h9 with h9 | h9
       ·exact h8 v h9
       ·rw [List.mem_singleton] at h9;subst h9;rfl)
      have b2:Below wr.heap.size wr z2:=ah b1 d2
      have ac5:=((zl.on d2).2 14 _ rfl).1
      obtain ⟨_,QP,xW,Rx,_⟩:=HF.out z2 (ah hbr b2)
      have hlk:=Rx.look 119 underlying119 hsn
      have HA2:Hid (∀ u,Kept (fun b=>D b/\b<w.heap.size) wr u->aj (fun b=>D b/\b<w.heap.size) u [.string q.1,v1,v2,v3,v4,v5,v6,v7,v8,v9,v10,v11,v12,v13,.string (aF q),v15] q):=fun u hu=>aj.ae.kept HA.out hu
      have aa7:=BI.1
      have acR:wr.heap.size<z2.heap.size:=Nat.lt_of_lt_of_le abe d2.size
      have gU:Hid ((G.length+1)*320<=140737488355328):=by have h1:=vV.out;have h2:=Oi.out;rw [Hid];omega
      have hwz:w.heap.size<=z2.heap.size:=by have:=b2.size;have:=hbr.size;omega
      clear hz2 hq c14 Oi
      cases hfi:fI (x.2.1.map Prod.fst) (aF q) with
      | none =>
       rw [hfi] at hlk
       simp only [Option.isSome_none,Option.getD_none] at hlk
       have yh:kI x.2.1 (aF q)=[]:=by unfold kI;rw [hfi]
       rw [yh] at HT
       have AA:Hid (z2.rangeAt z1.heap.size 0 [.string q.1,v1,v2,v3,v4,v5,v6,v7,v8,v9,v10,v11,v12,v13,.string (aF q),v15,.slice none 0 0]):=BI.range
       obtain ⟨z4,pO⟩:∃ z,z=z2.alloc (.cells #[.string q.1,v1,v2,v3,v4,v5,v6,v7,v8,v9,v10,v11,v12,v13,.string (aF q),v15,.slice none 0 0] 145):=⟨_,rfl⟩
       have d4:Below z2.heap.size z2 z4:=by rw [pO];exact (Below.refl _ _).alloc (Nat.le_refl _) _
       have q4:af z4 z2.heap.size [.string q.1,v1,v2,v3,v4,v5,v6,v7,v8,v9,v10,v11,v12,v13,.string (aF q),v15,.slice none 0 0]:=by rw [pO];exact af.new z2 145 _
       have b4:Below wr.heap.size wr z4:=ah b2 d4
       have hrow4:Row aL 17 (fun b=>D b/\b<w.heap.size) W5 z4 145 u6 G:=hrow.out.on aL.ae b4
       have hpl:aL (fun b=>(fun b=>D b/\b<w.heap.size) b/\u6.ownBlock≠some b) z4 [.string q.1,v1,v2,v3,v4,v5,v6,v7,v8,v9,v10,v11,v12,v13,.string (aF q),v15,.slice none 0 0] (q,[]):=aL.ae.weak (⟨[.string q.1,v1,v2,v3,v4,v5,v6,v7,v8,v9,v10,v11,v12,v13,.string (aF q),v15],[.slice none 0 0],rfl,HA2.out z4 (Kept.below b4),⟨none,0,0,rfl,ag.nil _ _ _ _ (fun _=>rfl)⟩⟩:aL (fun b=>D b/\b<w.heap.size) z4 [.string q.1,v1,v2,v3,v4,v5,v6,v7,v8,v9,v10,v11,v12,v13,.string (aF q),v15,.slice none 0 0] (q,[])) (fun b _ hb=>⟨hb,fun e=>by have h1:=(hrow4.lt e).1;have h2:b<w.heap.size:=hb.2;omega⟩)
       have jo:Hid (Src aL 17 (fun b=>(fun b=>D b/\b<w.heap.size) b/\u6.ownBlock≠some b) z4 (some ⟨z2.heap.size,0,none⟩) 1 [(q,[])]):=Et aL.ae q4 hpl
       have ib:Hid (Row aL 17 (fun b=>D b/\b<w.heap.size) W5 z4 145 u6 G):=hrow4
       have Ii:Hid (z4=z2.alloc (.cells #[.string q.1,v1,v2,v3,v4,v5,v6,v7,v8,v9,v10,v11,v12,v13,.string (aF q),v15,.slice none 0 0] 145)):=pO
       clear pO d4 q4 b4 hrow4 hpl hrow BI QP xW Rx b1 b2 d1 d2 HA HA2 gz eF zl yh
       go_wp2_with (first | (refine wpList_load_mid rfl 41 _ rfl wr.heap.size 0 rfl [.string q.1,v1,v2,v3,v4,v5,v6,v7,v8,v9,v10,v11,v12,v13,.string (aF q),v15] _ HR1.out underlying41 rfl hi ?_) | (refine wpList_store_mid rfl 145 _ _ rfl z1.heap.size 0 (([.string q.1,v1,v2,v3,v4,v5,v6,v7,v8,v9,v10,v11,v12,v13,.string (aF q),v15,.slice none 0 0]:List Value).toArray) rfl rfl Us.out kM H17.out ?_;refine iJ HZ2.out ?_) | (refine wpList_load_mid rfl 145 _ rfl z1.heap.size 0 rfl [.string q.1,v1,v2,v3,v4,v5,v6,v7,v8,v9,v10,v11,v12,v13,.string (aF q),v15,.slice none 0 0] _ AA.out underlying145 rfl kM ?_) | (at_builtin;refine iJ Ii.out ?_;go_must (refine ui aL.ae (A:=(fun b=>D b/\b<w.heap.size)) (w0:=W5) rfl _ _ 112 145 rfl _ 320 Xn underlying112 rfl (by decide) (by decide) u6 G rfl ib.out (some ⟨_,0,none⟩) 1 1 [(q,[])] rfl jo.out gU.out ?_);intro v7 y7 jG jR hw7))
       have HN:Hid (Row aL 17 (fun b=>D b/\b<w.heap.size) W5 y7 145 v7 (gJ x.2.1 x.1 (j+1))):=by rw [Hid,HT.out];exact jG
       clear jG jR hw7 HT jo ib gU Ii HZ2 AA
       go_roundw
       case rel=>exact ⟨j+1,by omega,by go_num,HN⟩
       case measure=>simp [intOf];omega
      | some kk =>
       rw [hfi] at hlk
       simp only [Option.isSome_some,Option.getD_some] at hlk
       have hkk:kk<n1:=by have:=(jl hfi).1;rw [List.length_map,hl1.out] at this;exact this
       have hkz:(kk:Int)<(n1:Int):=by omega
       have yh:kI x.2.1 (aF q)=(x.2.1.getD kk default).2.1:=by unfold kI;rw [hfi]
       obtain ⟨B1,o1,Tq,ac1,ac0,ns,hrn,RQ⟩:=QP.get hkk
       obtain ⟨⟨la,ln,lc⟩,⟨_,_,_⟩,rfl,_,Ml,_⟩:=hrn.out
       simp only at RQ Ml
       have y1:=(xW.2 1 _ rfl).1
       rw [Tq] at y1
       have yL:=RQ 1 _ rfl
       have acX:=xW.1
       rw [yh] at HT
       generalize (x.2.1.getD kk default).2.1=LL at HT Ml
       clear hrn RQ yh
       obtain ⟨z3,hz3⟩:∃ z,z=z2.setCell ⟨z1.heap.size,16,none⟩ (.slice la ln lc):=⟨_,rfl⟩
       have Rc:af z3 z1.heap.size [.string q.1,v1,v2,v3,v4,v5,v6,v7,v8,v9,v10,v11,v12,v13,.string (aF q),v15,.slice la ln lc]:=by rw [hz3];exact BI.set 16 (.slice la ln lc) (by simp)
       have hzw:wr.heap.size<=z1.heap.size:=b1.size
       have b3:Below wr.heap.size wr z3:=by rw [hz3];exact b2.setCell (p:=⟨z1.heap.size,16,none⟩) hzw _
       have hk3:Kept (fun b=>D b/\b<w.heap.size) z2 z3:=by rw [hz3];exact Kept.set (p:=⟨z1.heap.size,16,none⟩) (fun h=>by have h8:z1.heap.size<w.heap.size:=h.2;have:=hbr.size;omega) _
       have AA:Hid (z3.rangeAt z1.heap.size 0 [.string q.1,v1,v2,v3,v4,v5,v6,v7,v8,v9,v10,v11,v12,v13,.string (aF q),v15,.slice la ln lc]):=Rc.range
       have x16:=BI.2 16 _ rfl
       have VJ:(prog.info? 145).map (·.size)=some ([.string q.1,v1,v2,v3,v4,v5,v6,v7,v8,v9,v10,v11,v12,v13,.string (aF q),v15,.slice la ln lc]:List Value).length:=Ls
       obtain ⟨z4,pO⟩:∃ z,z=z3.alloc (.cells #[.string q.1,v1,v2,v3,v4,v5,v6,v7,v8,v9,v10,v11,v12,v13,.string (aF q),v15,.slice la ln lc] 145):=⟨_,rfl⟩
       have d4:Below z3.heap.size z3 z4:=by rw [pO];exact (Below.refl _ _).alloc (Nat.le_refl _) _
       have q4:af z4 z3.heap.size [.string q.1,v1,v2,v3,v4,v5,v6,v7,v8,v9,v10,v11,v12,v13,.string (aF q),v15,.slice la ln lc]:=by rw [pO];exact af.new z3 145 _
       have b4:Below wr.heap.size wr z4:=ah b3 d4
       have hrow4:Row aL 17 (fun b=>D b/\b<w.heap.size) W5 z4 145 u6 G:=hrow.out.on aL.ae b4
       have hpl:aL (fun b=>(fun b=>D b/\b<w.heap.size) b/\u6.ownBlock≠some b) z4 [.string q.1,v1,v2,v3,v4,v5,v6,v7,v8,v9,v10,v11,v12,v13,.string (aF q),v15,.slice la ln lc] (q,LL):=aL.ae.weak (⟨[.string q.1,v1,v2,v3,v4,v5,v6,v7,v8,v9,v10,v11,v12,v13,.string (aF q),v15],[.slice la ln lc],rfl,HA2.out z4 (Kept.below b4),⟨la,ln,lc,rfl,(Ml.kept ak.ae hk3).on ak.ae d4⟩⟩:aL (fun b=>D b/\b<w.heap.size) z4 [.string q.1,v1,v2,v3,v4,v5,v6,v7,v8,v9,v10,v11,v12,v13,.string (aF q),v15,.slice la ln lc] (q,LL)) (fun b _ hb=>⟨hb,fun e=>by have h1:=(hrow4.lt e).1;have h2:b<w.heap.size:=hb.2;omega⟩)
       have jo:Hid (Src aL 17 (fun b=>(fun b=>D b/\b<w.heap.size) b/\u6.ownBlock≠some b) z4 (some ⟨z3.heap.size,0,none⟩) 1 [(q,LL)]):=Et aL.ae q4 hpl
       have ib:Hid (Row aL 17 (fun b=>D b/\b<w.heap.size) W5 z4 145 u6 G):=hrow4
       have Ii:Hid (z4=z3.alloc (.cells #[.string q.1,v1,v2,v3,v4,v5,v6,v7,v8,v9,v10,v11,v12,v13,.string (aF q),v15,.slice la ln lc] 145)):=pO
       have HZ3:Hid (z3=z2.setCell ⟨z1.heap.size,16,none⟩ (.slice la ln lc)):=hz3
       have acQ:z1.heap.size<z3.heap.size:=Rc.1
       clear pO d4 q4 b4 hrow4 hpl hrow BI Rc QP xW Rx b1 b2 b3 d1 d2 HA HA2 gz eF zl hz3 hk3 Ml Tq hfi
       go_upto_region 16 with (first | (refine wpList_load_mid rfl 41 _ rfl wr.heap.size 0 rfl [.string q.1,v1,v2,v3,v4,v5,v6,v7,v8,v9,v10,v11,v12,v13,.string (aF q),v15] _ HR1.out underlying41 rfl hi ?_) | (refine wpList_store_mid rfl 145 _ _ rfl z1.heap.size 0 (([.string q.1,v1,v2,v3,v4,v5,v6,v7,v8,v9,v10,v11,v12,v13,.string (aF q),v15,.slice none 0 0]:List Value).toArray) rfl rfl Us.out kM H17.out ?_;refine iJ HZ2.out ?_) | fail)
       rw [<- HZ3.out]
       clear HZ3 x16 y1 yL hlk HZ2
       go_wp2_with (first | (refine wpList_load_mid rfl 145 _ rfl z1.heap.size 0 rfl [.string q.1,v1,v2,v3,v4,v5,v6,v7,v8,v9,v10,v11,v12,v13,.string (aF q),v15,.slice la ln lc] _ AA.out underlying145 rfl VJ ?_) | (at_builtin;refine iJ Ii.out ?_;go_must (refine ui aL.ae (A:=(fun b=>D b/\b<w.heap.size)) (w0:=W5) rfl _ _ 112 145 rfl _ 320 Xn underlying112 rfl (by decide) (by decide) u6 G rfl ib.out (some ⟨_,0,none⟩) 1 1 [(q,LL)] rfl jo.out gU.out ?_);intro v7 y7 jG jR hw7))
       have HN:Hid (Row aL 17 (fun b=>D b/\b<w.heap.size) W5 y7 145 v7 (gJ x.2.1 x.1 (j+1))):=by rw [Hid,HT.out];exact jG
       clear jG jR hw7 HT jo ib gU Ii AA
       go_roundw
       case rel=>exact ⟨j+1,by omega,by go_num,HN⟩
       case measure=>simp [intOf];omega
    ·obtain rfl:n0=j:=by omega
     have HE:Hid (Row aL 17 (fun b=>D b/\b<w.heap.size) w wr 145 u6 (dz x)):=by rw [Hid,HPT.out];exact hrow.out.from aL.ae (HF.out W5 (Below.refl _ _)).2.2.2.2 (fun _ h=>h)
     clear hrow hbr HPT
     go_wp2_with fail
     go_ret
     exact ⟨_,rfl,HE.out⟩
end Go.Proofs.YtgikfenllgldoaaGreat
