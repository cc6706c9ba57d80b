/- Functions of the program, each walked under the conditions that its theorem names. -/
import Derived.Test.YtgikfenllgldoaaGreatQ27
import Derived.Test.YtgikfenllgldoaaGreatQ29
set_option linter.unusedSimpArgs false
set_option maxRecDepth 100000
set_option maxHeartbeats 32000000
namespace Go.Proofs.YtgikfenllgldoaaGreat
open Go.Proofs.Tryz
open Go.RowKit Go.Maps
theorem YT {u z:World} {B i:Nat} (h:z.heap[B]?=u.heap[B]?):z.frozen? ⟨B,i,none⟩=u.frozen? ⟨B,i,none⟩:=by
 unfold World.frozen?
 simp only [h]
def WW (u:World) (Bc oc Bv ov:Nat) (c:aT) (v:aD) (e:Ending) (u':World):Prop :=
 ∃ z,Below u.heap.size u z/\((tQ c v=false/\e=.returned (.bool false)/\u'=z)\/(tQ c v=true/\e=.returned (.bool true)/\u'=(z.setCell ⟨Bc,oc+3,none⟩ (.string v.1)).setCell ⟨Bv,ov+4,none⟩ (.string c.1)))
theorem FB (c:aT) (v:aD):tQ c v=(ay (jS c) B0 && (ay (eH v) B0 && jH c v)):=by
 unfold tQ jH
 have:(!decide (v.2.1<c.2.1))=decide (c.2.1<=v.2.1):=by
  by_cases h:v.2.1<c.2.1 <;> simp [h] <;> omega
 rw [this]
theorem zHH (Bc oc Bv ov:Nat) (cs:List Value) (A:Where) (c:aT) (vs:List Value) (A':Where) (v:aD) (u:World) (hc:aA A u cs c) (hv:ai A' u vs v) (rc:u.rangeAt Bc oc cs) (rv:u.rangeAt Bv ov vs) (Tt:Bc<u.heap.size) (Tp:Bv<u.heap.size) (hne:Bc≠Bv) (fc:u.frozen? ⟨Bc,oc+3,none⟩=false) (fv:u.frozen? ⟨Bv,ov+4,none⟩=false) :
  Calls prog 37 #[.pointer (some ⟨Bc,oc,none⟩),.pointer (some ⟨Bv,ov,none⟩)] u (WW u Bc oc Bv ov c v):=by
 have hlc:=aA.ae.len hc
 have hlv:=ai.ae.len hv
 have hic:(prog.info? 124).map (·.size)=some cs.length:=by rw [hlc];exact Eo
 have ZW:(prog.info? 59).map (·.size)=some vs.length:=by rw [hlv];exact wI
 obtain ⟨e0,_,_,e3,_⟩:=hc.kE
 obtain ⟨y0,_,_,_,y4⟩:=hv.kE
 have HR:Hid (∀ z,Below u.heap.size u z->z.rangeAt Bc oc cs/\z.rangeAt Bv ov vs):=fun z hb=>⟨fun j w hj=>(hb.cell Tt).trans (rc j w hj),fun j w hj=>(hb.cell Tp).trans (rv j w hj)⟩
 have HC:Hid (∀ z,Below u.heap.size u z->aA A z cs c/\ai A' z vs v):=fun z hb=>⟨aA.ae.kept hc (Kept.below hb),ai.ae.kept hv (Kept.below hb)⟩
 have HF:Hid (∀ z,Below u.heap.size u z->z.cell? ⟨Bc,oc,none⟩=some (.string c.1)/\z.cell? ⟨Bv,ov,none⟩=some (.string v.1)/\z.cell? ⟨Bc,oc+3,none⟩=some (.string (jS c))/\z.cell? ⟨Bv,ov+4,none⟩=some (.string (eH v))/\z.frozen? ⟨Bc,oc+3,none⟩=false/\z.frozen? ⟨Bv,ov+4,none⟩=false/\Bc<z.heap.size/\Bv<z.heap.size):=fun z hb=>by
  obtain ⟨h1,h2⟩:=HR.out z hb
  refine ⟨by have:=h1 0 _ e0;simpa using this,by have:=h2 0 _ y0;simpa using this,h1 3 _ e3,h2 4 _ y4,?_,?_,Nat.lt_of_lt_of_le Tt hb.size,Nat.lt_of_lt_of_le Tp hb.size⟩
  ·rw [YT (hb.block Bc Tt)];exact fc
  ·rw [YT (hb.block Bv Tp)];exact fv
 have uY:Hid (tQ c v=(ay (jS c) B0 && (ay (eH v) B0 && jH c v))):=FB c v
 have gV:Hid (∀ z,Below u.heap.size u z->Calls prog 64 #[.agg cs.toArray] z fun e w'=>e=.returned (.bool (!ay (jS c) B0))/\Below z.heap.size z w'):=fun z hb=>Ze cs _ c z (HC.out z hb).1
 have CU:Hid (∀ z,Below u.heap.size u z->Calls prog 65 #[.agg vs.toArray] z fun e w'=>e=.returned (.bool (ay (eH v) B0))/\Below z.heap.size z w'):=fun z hb=>YS vs _ v z (HC.out z hb).2
 have tY:Hid (∀ z,Below u.heap.size u z->Calls prog 66 #[.agg vs.toArray,.agg cs.toArray] z fun e w'=>e=.returned (.bool (jH c v))/\Below z.heap.size z w'):=fun z hb=>Yw vs _ v cs _ c z (HC.out z hb).2 (HC.out z hb).1
 clear hc hv rc rv fc fv e0 e3 y0 y4 HC
 generalize ay (jS c) B0=p1 at uY gV
 generalize ay (eH v) B0=p2 at uY CU
 generalize jH c v=p3 at uY tY
 go_enter func37,ntmps37
 go_upto_region 1 with fail
 refine t0 (fun z=>Below u.heap.size u z) (Below.refl _ _).drew (fun gH=>?_)
 generalize hwd:u.drew=wd at gH |-
 clear hwd
 try go_frame
 refine tp 0 ?_
 try go_frame
 refine tp 1 ?_
 try go_frame
 refine tq 2 (.agg cs.toArray) (yieldsIf_load_mid (by rfl) 124 _ rfl Bc oc rfl cs _ (fun z hz=>(HR.out z hz).1) underlying124 rfl hic) ?_ (hi:=rfl)
 try go_frame
 refine tr 3 (fun K hK=>?_)
 go_simp
 refine (gV.out _ gH).mono ?_
 rintro e w3 ⟨rfl,d3⟩
 have b3:=ah gH d3
 go_wp2_with fail
 refine hK.out _ _ b3 (fun gI=>?_)
 clear hK K gH;have gH:=gI;clear gI
 try go_frame
 cases p1 with
 | false =>
  refine tp 4 ?_
  try go_frame
  refine tn 5 ?_
  try go_frame
  refine tn 6 ?_
  try go_frame
  refine tn 7 ?_
  try go_frame
  refine tn 8 ?_
  try go_frame
  refine tn 9 ?_
  try go_frame
  refine tp 10 ?_
  try go_frame
  refine tp 11 ?_
  try go_frame
  refine tn 12 ?_
  try go_frame
  refine tn 13 ?_
  try go_frame
  refine tn 14 ?_
  try go_frame
  refine tn 15 ?_
  try go_frame
  refine tn 16 ?_
  try go_frame
  refine tn 17 ?_
  try go_frame
  refine tn 18 ?_
  try go_frame
  refine tn 19 ?_
  try go_frame
  refine tp 20 ?_
  try go_frame
  refine tz ?_
  have HE:Hid (tQ c v=false/\Below u.heap.size u w3):=⟨by rw [uY.out];simp,gH⟩
  clear uY gV CU tY HR HF gH
  go_wp2_with fail
  go_ret
  exact ⟨_,HE.out.2,.inl ⟨HE.out.1,rfl,rfl⟩⟩
 | true =>
  refine tp 4 ?_
  try go_frame
  refine tp 5 ?_
  try go_frame
  refine tp 6 ?_
  try go_frame
  refine tq 7 (.agg vs.toArray) (yieldsIf_load_mid (by rfl) 59 _ rfl Bv ov rfl vs _ (fun z hz=>(HR.out z hz).2) underlying59 rfl ZW) ?_ (hi:=rfl)
  try go_frame
  refine tr 8 (fun K hK=>?_)
  go_simp
  refine (CU.out _ gH).mono ?_
  rintro e w8 ⟨rfl,d8⟩
  have b8:=ah gH d8
  go_wp2_with fail
  refine hK.out _ _ b8 (fun gI=>?_)
  clear hK K gH;have gH:=gI;clear gI
  try go_frame
  cases p2 with
  | false =>
   refine tp 9 ?_
   try go_frame
   refine tp 10 ?_
   try go_frame
   refine tp 11 ?_
   try go_frame
   refine tn 12 ?_
   try go_frame
   refine tn 13 ?_
   try go_frame
   refine tn 14 ?_
   try go_frame
   refine tn 15 ?_
   try go_frame
   refine tn 16 ?_
   try go_frame
   refine tn 17 ?_
   try go_frame
   refine tn 18 ?_
   try go_frame
   refine tn 19 ?_
   try go_frame
   refine tp 20 ?_
   try go_frame
   refine tz ?_
   have HE:Hid (tQ c v=false/\Below u.heap.size u w8):=⟨by rw [uY.out];simp,gH⟩
   clear uY gV CU tY HR HF gH
   go_wp2_with fail
   go_ret
   exact ⟨_,HE.out.2,.inl ⟨HE.out.1,rfl,rfl⟩⟩
  | true =>
   refine tp 9 ?_
   try go_frame
   refine tp 10 ?_
   try go_frame
   refine tp 11 ?_
   try go_frame
   refine tp 12 ?_
   try go_frame
   refine tp 13 ?_
   try go_frame
   refine tq 14 (.agg vs.toArray) (yieldsIf_load_mid (by rfl) 59 _ rfl Bv ov rfl vs _ (fun z hz=>(HR.out z hz).2) underlying59 rfl ZW) ?_ (hi:=rfl)
   try go_frame
   refine tp 15 ?_
   try go_frame
   refine tp 16 ?_
   try go_frame
   refine tq 17 (.agg cs.toArray) (yieldsIf_load_mid (by rfl) 124 _ rfl Bc oc rfl cs _ (fun z hz=>(HR.out z hz).1) underlying124 rfl hic) ?_ (hi:=rfl)
   try go_frame
   refine tr 18 (fun K hK=>?_)
   go_simp
   refine (tY.out _ gH).mono ?_
   rintro e tK ⟨rfl,d18⟩
   have b18:=ah gH d18
   go_wp2_with fail
   refine hK.out _ _ b18 (fun gI=>?_)
   clear hK K gH;have gH:=gI;clear gI
   try go_frame
   cases p3 with
   | false =>
    refine tp 19 ?_
    try go_frame
    refine tp 20 ?_
    try go_frame
    refine tz ?_
    have HE:Hid (tQ c v=false/\Below u.heap.size u tK):=⟨by rw [uY.out];simp,gH⟩
    clear uY gV CU tY HR HF gH
    go_wp2_with fail
    go_ret
    exact ⟨_,HE.out.2,.inl ⟨HE.out.1,rfl,rfl⟩⟩
   | true =>
    refine tp 19 ?_
    try go_frame
    refine tp 20 ?_
    try go_frame
    refine tz ?_
    have HE:Hid (tQ c v=true):=by rw [Hid,uY.out];rfl
    have Hb:Hid (Below u.heap.size u tK):=gH
    clear uY gV CU tY HR gH b3 d3 b8 d8 b18 d18
    go_upto_region 3 with fail
    have bD:Below u.heap.size u tK.drew:=Hb.out.drew
    obtain ⟨g1,g2,g3,g4,g5,g6,g7,g8⟩:=HF.out _ bD
    refine t0 (fun z=>z.cell? ⟨Bc,oc,none⟩=some (.string c.1)/\z.cell? ⟨Bv,ov,none⟩=some (.string v.1)) ⟨g1,g2⟩ (fun gH=>?_)
    generalize F8:tK.drew=we at *
    clear F8
    try go_frame
    refine' tk 0 ?_ ?_;rotate_left
    ·intro u hu;have f1:=hu.1;have f2:=hu.2;clear hu;go_simp;try with_reducible rfl
    try go_frame
    refine' tk 1 ?_ ?_;rotate_left
    ·intro u hu;have f1:=hu.1;have f2:=hu.2;clear hu;go_simp;try with_reducible rfl
    try go_frame
    refine' tk 2 ?_ ?_;rotate_left
    ·intro u hu;have f1:=hu.1;have f2:=hu.2;clear hu;go_simp;try with_reducible rfl
    try go_frame
    refine' tk 3 ?_ ?_;rotate_left
    ·intro u hu;have f1:=hu.1;have f2:=hu.2;clear hu;go_simp;try with_reducible rfl
    try go_frame
    refine' tk 4 ?_ ?_;rotate_left
    ·intro u hu;have f1:=hu.1;have f2:=hu.2;clear hu;go_simp;try with_reducible rfl
    try go_frame
    refine' tk 5 ?_ ?_;rotate_left
    ·intro u hu;have f1:=hu.1;have f2:=hu.2;clear hu;go_simp;try with_reducible rfl
    try go_frame
    refine' tk 6 ?_ ?_;rotate_left
    ·intro u hu;have f1:=hu.1;have f2:=hu.2;clear hu;go_simp;try with_reducible rfl
    try go_frame
    refine' tk 7 ?_ ?_;rotate_left
    ·intro u hu;have f1:=hu.1;have f2:=hu.2;clear hu;go_simp;try with_reducible rfl
    try go_frame
    refine' tk 8 ?_ ?_;rotate_left
    ·intro u hu;have f1:=hu.1;have f2:=hu.2;clear hu;go_simp;try with_reducible rfl
    try go_frame
    refine' tk 9 ?_ ?_;rotate_left
    ·intro u hu;have f1:=hu.1;have f2:=hu.2;clear hu;go_simp;try with_reducible rfl
    try go_frame
    refine' tk 10 ?_ ?_;rotate_left
    ·intro u hu;have f1:=hu.1;have f2:=hu.2;clear hu;go_simp;try with_reducible rfl
    try go_frame
    refine' tk 11 ?_ ?_;rotate_left
    ·intro u hu;have f1:=hu.1;have f2:=hu.2;clear hu;go_simp;try with_reducible rfl
    try go_frame
    obtain ⟨U1,lK⟩:∃ U1,U1=we.setCell ⟨Bc,oc+3,none⟩ (.string v.1):=⟨_,rfl⟩
    have k1:U1.cell? ⟨Bc,oc,none⟩=some (.string c.1)/\U1.cell? ⟨Bv,ov,none⟩=some (.string v.1):=by rw [lK];exact ⟨(World.cell?_setCell_other _ _ _ _ (fun e=>by have:=congrArg Addr.off e;simp at this)).trans g1,(World.cell?_setCell_far _ _ _ _ hne).trans g2⟩
    have k4:U1.cell? ⟨Bv,ov+4,none⟩=some (.string (eH v)):=by rw [lK];exact (World.cell?_setCell_far _ _ _ _ hne).trans g4
    have k6:U1.frozen? ⟨Bv,ov+4,none⟩=false:=by rw [lK,World.frozen?_setCell];exact g6
    have k8:Bv<U1.heap.size:=by rw [lK];simpa using g8
    refine ts 12 (fun K hK=>?_)
    go_simp
    rw [<- lK]
    refine hK.out undef _ k1 (fun gI=>?_)
    clear hK K gH;have gH:=gI;clear gI
    try go_frame
    refine tp 13 ?_
    try go_frame
    refine tp 14 ?_
    try go_frame
    obtain ⟨U2,lJ⟩:∃ U2,U2=U1.setCell ⟨Bv,ov+4,none⟩ (.string c.1):=⟨_,rfl⟩
    have k2:U2.cell? ⟨Bc,oc,none⟩=some (.string c.1)/\U2.cell? ⟨Bv,ov,none⟩=some (.string v.1):=by rw [lJ];exact ⟨(World.cell?_setCell_far _ _ _ _ (Ne.symm hne)).trans k1.1,(World.cell?_setCell_other _ _ _ _ (fun e=>by have:=congrArg Addr.off e;simp at this)).trans k1.2⟩
    have HW:Hid (U2=(we.setCell ⟨Bc,oc+3,none⟩ (.string v.1)).setCell ⟨Bv,ov+4,none⟩ (.string c.1)):=by rw [Hid,lJ,lK]
    clear lK
    refine ts 15 (fun K hK=>?_)
    go_simp
    rw [<- lJ]
    refine hK.out undef _ k2 (fun gI=>?_)
    clear hK K gH;have gH:=gI;clear gI
    try go_frame
    clear lJ
    refine tz ?_
    clear k1 k2 k4 k6 k8 g1 g2 g3 g4 g5 g6 g7 g8 gH HF
    go_wp2_with fail
    go_ret
    exact ⟨we,bD,.inr ⟨HE.out,rfl,HW.out⟩⟩
theorem aj.wQ {A:Where} {w:World} {cs:List Value} {q:aB} (h:aj A w cs q):q.1.size<=140737488355328/\(aF q).size<=140737488355328/\∃ v1 v2 v3 v4 v5 v6 v7 v8 v9 v10 v11 v12 v13 v15:Value,cs=[.string q.1,v1,v2,v3,v4,v5,v6,v7,v8,v9,v10,v11,v12,v13,.string (aF q),v15]:=by
 obtain ⟨_,_,_,_,_,_,_,_,_,rfl,hp,_,_,_,_,_,_,_,_,_,hn,_⟩:=h.out
 exact ⟨hp,hn,_,_,_,_,_,_,_,_,_,_,_,_,_,_,rfl⟩
theorem zGI (w:World):(Instr.makeMap 109 none).run prog w=.ok (.map (some w.heap.size)) (w.alloc (.map #[] 0)):=by
 simp [Instr.makeMap,run_underlying underlying109,asInt,newObj,asIntOf,Result.andThen]
 rfl
theorem iQ.mono {w:World} {mb n n':Nat} {f:ByteArray->Value} (h:iQ w mb n f) (hn:n<=n'):iQ w mb n' f:=by obtain ⟨D,h1,h2⟩:=h;exact ⟨D,h1.mono hn,h2⟩
theorem iq.skip {A:Where} {w u:World} {mb n:Nat} {f:ByteArray->Value} {L:List aB} {q:aB} (h:iq A w u mb n f L) (hq:ay (aF q) ⟨#[]⟩=true):iq A w u mb (n+1) f (L++[q]):=by
 refine ⟨h.map.mono (Nat.le_succ _),fun s=>?_,h.own,h.low⟩
 have:fZ (L++[q]) s=fZ L s:=by unfold fZ;rw [List.filter_append];simp [hq]
 rw [this]
 exact h.row s
theorem zEk (a:Option Addr) (n cap:Nat) (A:Where) (L:List aB) (w:World) (hL:Hid (ag aj 16 296 A w a n cap L)):Calls prog 41 #[.slice a n cap] w fun e w'=>∃ mb f,e=.returned (.map (some mb))/\iq (fun b=>A b/\b<w.heap.size) w w' mb n f L:=by
 have hmm:=zGI
 have hlen:=hL.out.len (by decide)
 have hn:Hid (L.length=n):=hL.out.1
 have hbb:Hid (n*296<=140737488351232):=hL.out.2.2.2.1
 obtain ⟨W1,hW1⟩:∃ W1,W1=w.alloc (.map #[] 0):=⟨_,rfl⟩
 have H0:Hid (∃ f,iq (fun b=>A b/\b<w.heap.size) w W1 w.heap.size 0 f (L.take 0)):=by
  rw [hW1]
  exact ⟨_,iQ.made w,fun s=>(Row.nil _ w _).on aj.ae ((Below.refl _ _).alloc (Nat.le_refl _) _),fun s t b _ h=>(by cases h),Nat.le_refl _⟩
 go_enter func41,ntmps41
 go_wp2_with fail
 rw [<- hW1]
 clear hW1
 go_loopw [9] (fun i wr=>∃ k:Nat,k<=n/\i=.int .i64 k/\Hid (∃ f,iq (fun b=>A b/\b<w.heap.size) w wr w.heap.size k f (L.take k))) (fun i _=>n - (intOf i).toNat)
 case atStart=>exact ⟨0,Nat.zero_le _,rfl,H0⟩
 case round =>
  obtain ⟨k,hk,rfl,hst⟩:=hrel
  by_cases hlt:k<n
  ·have hltz:(k:Int)<(n:Int):=by omega
   have hkl:k<L.length:=by rw [hn.out];exact hlt
   obtain ⟨f,hst⟩:=hst.out
   have hbw:Below w.heap.size w wr:=hst.below
   obtain ⟨D,off,rfl,hD,_,cs,hr,hv⟩:=hL.out.get hlt
   have HT:Hid (L.take k++[L.getD k default]=L.take (k+1)):=nH hkl
   have oC:Hid (∀ s,(fZ (L.take k) s).length<=k):=fun s=>O8 L s k
   generalize L.getD k default=q at hr HT
   have oh:aj (fun b=>A b/\b<w.heap.size) w cs q:=aj.ae.weak hr (fun b hb h=>⟨h,hb⟩)
   obtain ⟨hsz,hsn,v1,v2,v3,v4,v5,v6,v7,v8,v9,v10,v11,v12,v13,v15,rfl⟩:=hr.wQ
   have HV:Hid (wr.rangeAt D (off+k*16) [.string q.1,v1,v2,v3,v4,v5,v6,v7,v8,v9,v10,v11,v12,v13,.string (aF q),v15]):=fun j v hj=>(hbw.cell hD).trans (hv j v hj)
   have hi:(prog.info? 41).map (·.size)=some ([.string q.1,v1,v2,v3,v4,v5,v6,v7,v8,v9,v10,v11,v12,v13,.string (aF q),v15]:List Value).length:=kY
   have H1:Hid ((([.string q.1,v1,v2,v3,v4,v5,v6,v7,v8,v9,v10,v11,v12,v13,.string (aF q),v15]:List Value).toArray).all (·.oneCell')=true):=all_oneCell_toArray (aj.ae.one hr)
   have HA:Hid (aj (fun b=>A b/\b<w.heap.size) w [.string q.1,v1,v2,v3,v4,v5,v6,v7,v8,v9,v10,v11,v12,v13,.string (aF q),v15] q):=oh
   clear hr hv oh
   obtain ⟨wb,hwb⟩:∃ wb,wb=(wr.alloc (.cells #[.string ⟨#[]⟩,.int .i64 0,.slice none 0 0,.int .i64 0,.int .i64 0,.int .i64 0,.slice none 0 0,.slice none 0 0,.slice none 0 0,.slice none 0 0,.slice none 0 0,.slice none 0 0,.slice none 0 0,.slice none 0 0,.string ⟨#[]⟩,.string ⟨#[]⟩] 41)).setCells wr.heap.size 0 [.string q.1,v1,v2,v3,v4,v5,v6,v7,v8,v9,v10,v11,v12,v13,.string (aF q),v15]:=⟨_,rfl⟩
   have eD:Hid ((wr.alloc (.cells #[.string ⟨#[]⟩,.int .i64 0,.slice none 0 0,.int .i64 0,.int .i64 0,.int .i64 0,.slice none 0 0,.slice none 0 0,.slice none 0 0,.slice none 0 0,.slice none 0 0,.slice none 0 0,.slice none 0 0,.slice none 0 0,.string ⟨#[]⟩,.string ⟨#[]⟩] 41)).there wr.heap.size 0 16):=(af.new wr 41 [.string ⟨#[]⟩,.int .i64 0,.slice none 0 0,.int .i64 0,.int .i64 0,.int .i64 0,.slice none 0 0,.slice none 0 0,.slice none 0 0,.slice none 0 0,.slice none 0 0,.slice none 0 0,.slice none 0 0,.slice none 0 0,.string ⟨#[]⟩,.string ⟨#[]⟩]).there
   have gz:Hid (af wb wr.heap.size [.string q.1,v1,v2,v3,v4,v5,v6,v7,v8,v9,v10,v11,v12,v13,.string (aF q),v15]):=by rw [hwb];exact wH wr 41 [.string ⟨#[]⟩,.int .i64 0,.slice none 0 0,.int .i64 0,.int .i64 0,.int .i64 0,.slice none 0 0,.slice none 0 0,.slice none 0 0,.slice none 0 0,.slice none 0 0,.slice none 0 0,.slice none 0 0,.slice none 0 0,.string ⟨#[]⟩,.string ⟨#[]⟩] [.string q.1,v1,v2,v3,v4,v5,v6,v7,v8,v9,v10,v11,v12,v13,.string (aF q),v15] rfl
   have eF:Hid (Below wr.heap.size wr wb):=by rw [hwb];exact cu ((Below.refl _ _).alloc (Nat.le_refl _) _) (Nat.le_refl _)
   have gZ:Hid (wb=(wr.alloc (.cells #[.string ⟨#[]⟩,.int .i64 0,.slice none 0 0,.int .i64 0,.int .i64 0,.int .i64 0,.slice none 0 0,.slice none 0 0,.slice none 0 0,.slice none 0 0,.slice none 0 0,.slice none 0 0,.slice none 0 0,.slice none 0 0,.string ⟨#[]⟩,.string ⟨#[]⟩] 41)).setCells wr.heap.size 0 (([.string q.1,v1,v2,v3,v4,v5,v6,v7,v8,v9,v10,v11,v12,v13,.string (aF q),v15]:List Value).toArray).toList):=hwb
   clear hwb
   have c14:=(gz.out.2 14 _ rfl).1
   have acT:=gz.out.1
   have HG:Hid (iq (fun b=>A b/\b<w.heap.size) w wb w.heap.size k f (L.take k)):=hst.on eF.out
   have acO:w.heap.size<wr.heap.size:=hst.map.lt
   have VH:=hst.row
   clear hst
   have hq1:(aF q).toList.isEmpty=ay (aF q) ⟨#[]⟩:=Dq _
   cases hq:ay (aF q) ⟨#[]⟩ with
   | true =>
    rw [hq] at hq1
    have HZ:Hid (∃ f,iq (fun b=>A b/\b<w.heap.size) w wb w.heap.size (k+1) f (L.take (k+1))):=⟨f,by rw [<- HT.out];exact HG.out.skip hq⟩
    clear HG HT hq gz
    go_wp2_with (first | (refine wpList_load_mid rfl 41 _ rfl D (off+k*16) rfl [.string q.1,v1,v2,v3,v4,v5,v6,v7,v8,v9,v10,v11,v12,v13,.string (aF q),v15] _ HV.out underlying41 rfl hi ?_) | (refine wpList_store_mid rfl 41 _ _ rfl wr.heap.size 0 (([.string q.1,v1,v2,v3,v4,v5,v6,v7,v8,v9,v10,v11,v12,v13,.string (aF q),v15]:List Value).toArray) rfl rfl eD.out hi H1.out ?_;refine iJ gZ.out ?_))
    go_roundw
    case rel=>exact ⟨k+1,by omega,by go_num,HZ⟩
    case measure=>simp [intOf];omega
   | false =>
    rw [hq] at hq1
    obtain ⟨fv,rP⟩:∃ v,f (aF q)=v:=⟨_,rfl⟩
    have Oe:Hid (f (aF q)=fv):=rP
    have HF:Hid (∀ u,Kept (fun b=>b=wr.heap.size\/b=w.heap.size) wb u->u.cell? ⟨wr.heap.size,14,none⟩=some (.string (aF q))/\(Instr.lookup 109 (.map (some w.heap.size)) (.string (aF q)) false).run prog u=.ok fv u):=fun u hu=>⟨((gz.out.kept hu (.inl rfl)).2 14 _ rfl).1,by rw [<- rP];exact (HG.out.map.same (hu.2 _ (.inr rfl) HG.out.map.lt)).look 109 underlying109 hsn⟩
    have fE:Hid (∀ u,Kept (fun b=>b=wr.heap.size\/b=w.heap.size) wb u->u.rangeAt wr.heap.size 0 [.string q.1,v1,v2,v3,v4,v5,v6,v7,v8,v9,v10,v11,v12,v13,.string (aF q),v15]):=fun u hu=>(gz.out.kept hu (.inl rfl)).range
    have HQ:Hid (ay (aF q) ⟨#[]⟩=false):=hq
    have HNB:Hid (fv.ownBlock≠some wr.heap.size):=fun e=>by have h8:=VH (aF q);rw [rP] at h8;have:=(h8.lt e).2;omega
    clear rP hq
    go_upto_region 6 with (first | (refine wpList_load_mid rfl 41 _ rfl D (off+k*16) rfl [.string q.1,v1,v2,v3,v4,v5,v6,v7,v8,v9,v10,v11,v12,v13,.string (aF q),v15] _ HV.out underlying41 rfl hi ?_) | (refine wpList_store_mid rfl 41 _ _ rfl wr.heap.size 0 (([.string q.1,v1,v2,v3,v4,v5,v6,v7,v8,v9,v10,v11,v12,v13,.string (aF q),v15]:List Value).toArray) rfl rfl eD.out hi H1.out ?_;refine iJ gZ.out ?_))
    clear HV eD gZ H1 c14
    refine u0 10 (fun z=>Kept (fun b=>b=wr.heap.size\/b=w.heap.size) wb z) (Kept.drew _ _) (fun gH=>?_)
    have hb0:Below wb.heap.size wb wb.drew:=(Below.refl _ _).drew
    generalize hwd:wb.drew=wd at gH hb0 |-
    clear hwd
    try go_frame
    refine' uk 0 ?_ ?_;rotate_left
    ·intro u hu;obtain ⟨c14,hlk⟩:=HF.out u hu;clear hu;go_simp;try with_reducible rfl
    try go_frame
    refine' uk 1 ?_ ?_;rotate_left
    ·intro u hu;obtain ⟨c14,hlk⟩:=HF.out u hu;clear hu;go_simp;try with_reducible rfl
    try go_frame
    refine' uk 2 ?_ ?_;rotate_left
    ·intro u hu;obtain ⟨c14,hlk⟩:=HF.out u hu;clear hu;go_simp;try with_reducible rfl
    try go_frame
    refine' uk 3 ?_ ?_;rotate_left
    ·intro u hu;obtain ⟨c14,hlk⟩:=HF.out u hu;clear hu;go_simp;try with_reducible rfl
    try go_frame
    refine' uk 4 ?_ ?_;rotate_left
    ·intro u hu;obtain ⟨c14,hlk⟩:=HF.out u hu;clear hu;go_simp;try with_reducible rfl
    try go_frame
    refine' uk 5 ?_ ?_;rotate_left
    ·intro u hu;obtain ⟨c14,hlk⟩:=HF.out u hu;clear hu;go_simp;try with_reducible rfl
    try go_frame
    refine' uk 6 ?_ ?_;rotate_left
    ·intro u hu;obtain ⟨c14,hlk⟩:=HF.out u hu;clear hu;go_simp;try with_reducible rfl
    try go_frame
    refine uq 7 (.agg #[.string q.1,v1,v2,v3,v4,v5,v6,v7,v8,v9,v10,v11,v12,v13,.string (aF q),v15]) (yieldsIf_load_mid (by rfl) 41 _ rfl wr.heap.size 0 rfl [.string q.1,v1,v2,v3,v4,v5,v6,v7,v8,v9,v10,v11,v12,v13,.string (aF q),v15] _ (fun u hu=>fE.out u hu) underlying41 rfl hi) ?_ (hi:=rfl)
    try go_frame
    refine ur 8 (fun K hK=>?_)
    go_simp
    obtain ⟨u1,hu1⟩:∃ u1,u1=wd.alloc (.cells #[.string q.1,v1,v2,v3,v4,v5,v6,v7,v8,v9,v10,v11,v12,v13,.string (aF q),v15] 41):=⟨_,rfl⟩
    have d1:Below wd.heap.size wd u1:=by rw [hu1];exact (Below.refl _ _).alloc (Nat.le_refl _) _
    have hb1:Below wb.heap.size wb u1:=ah hb0 d1
    have hX:∀ i v,([.string q.1,v1,v2,v3,v4,v5,v6,v7,v8,v9,v10,v11,v12,v13,.string (aF q),v15]:List Value)[i]?=some v->u1.cell? ((⟨wd.heap.size,0,none⟩:Addr).add i)=some v:=by rw [hu1];exact nY wd _ 41
    refine hK.out _ _ (hu1 ▸ Kept.below hb1) (fun gI=>?_)
    rw [<- hu1] at gI |-
    clear hu1
    clear hK K gH;have gH:=gI;clear gI
    try go_frame
    have g1:iq (fun b=>A b/\b<w.heap.size) w u1 w.heap.size k f (L.take k):=HG.out.on hb1
    have r1:=g1.row (aF q)
    rw [Oe.out] at r1
    have hsrc:Src aj 16 (fun b=>(fun b=>A b/\b<w.heap.size) b/\fv.ownBlock≠some b) u1 (some ⟨wd.heap.size,0,none⟩) 1 [q]:=⟨rfl,.inr ⟨_,[.string q.1,v1,v2,v3,v4,v5,v6,v7,v8,v9,v10,v11,v12,v13,.string (aF q),v15],rfl,nJ aj.ae (aj.ae.weak (aj.ae.kept HA.out (Kept.below r1.below)) (fun b _ hb=>⟨hb,fun e=>by have h1:=(r1.lt e).1;have h2:=hb.2;omega⟩)),hX,aj.ae.one HA.out⟩⟩
    refine ur 9 (fun K hK=>?_)
    refine Mf aj.ae (A:=(fun b=>A b/\b<w.heap.size)) (w0:=w) _ _ 22 41 rfl _ 296 AY underlying22 rfl (by decide) (by decide) fv (fZ (L.take k) (aF q)) rfl r1 (some ⟨wd.heap.size,0,none⟩) 1 1 [q] rfl hsrc (by have h1:=qC hbb.out hlt;have h2:=oC.out (aF q);rw [List.length_singleton];omega) ?_
    intro v2 u2 r2 Tx hp2
    have hk2:Kept (fun b=>b=wr.heap.size\/b=w.heap.size) u1 u2:=Kept.grown Tx (fun b hb hx=>by
     rcases hx with rfl | rfl
     ·exact absurd hb HNB.out
     ·exact absurd hb (r1.Dm g1.map))
    refine hK.out _ _ (gH.trans hk2) (fun gI=>?_)
    clear hK K gH;have gH:=gI;clear gI
    try go_frame
    obtain ⟨u3,hrun,ZU,hg3⟩:=(g1.map.same (hk2.2 _ (.inr rfl) g1.map.lt)).put 109 underlying109 hsn (by omega) v2
    have HZ:Hid (∃ f,iq (fun b=>A b/\b<w.heap.size) w u3 w.heap.size (k+1) f (L.take (k+1))):=⟨_,by rw [<- HT.out];exact g1.step (fun b hb=>hb.2) HQ.out r2 (by rw [Oe.out];exact Tx) (by rw [Oe.out];exact hp2.imp id (fun h=>⟨_,h,Nat.le_refl _⟩)) ZU hg3⟩
    refine uz 10 (fun K hK=>?_)
    go_simp
    refine hK.out _ (NoPanic.normal ?_)
    try go_frame
    clear hK K
    clear hrun ZU hg3 g1 r1 hsrc r2 Tx hp2 hk2 gH hX hb0 hb1 d1 HF fE HG HT Oe oC HA gz
    go_wp2_with fail
    go_roundw
    case rel=>exact ⟨k+1,by omega,by go_num,HZ⟩
    case measure=>simp [intOf];omega
  ·have oo:L.take k=L:=List.take_of_length_le (by rw [hn.out];omega)
   rw [oo] at hst
   obtain rfl:n=k:=by omega
   go_wp2_with fail
   go_ret
   obtain ⟨f,h9⟩:=hst.out
   exact ⟨_,f,rfl,h9⟩
structure sZ (A:Where) (w u:World) (mb n:Nat) (q:ByteArray->Bool) (v:Value) (F:List aB):Prop where
 set:bL u mb n q
 row:Row aj 16 (fun b=>A b/\b<w.heap.size) w u 41 v F
theorem sZ.on {A:Where} {w u u':World} {mb n:Nat} {q:ByteArray->Bool} {v:Value} {F:List aB} (h:sZ A w u mb n q v F) (hb:Below u.heap.size u u'):sZ A w u' mb n q v F:=⟨h.set.on hb,h.row.on aj.ae hb⟩
theorem Gl (L:List ByteArray) (s:ByteArray) {k:Nat} (hk:k<L.length):hasB ay (L.take (k+1)) s=(hasB ay (L.take k) s || ay s (L.getD k default)):=by
 rw [<- nH hk,Ey]
end Go.Proofs.YtgikfenllgldoaaGreat
