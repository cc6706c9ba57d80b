/- Functions of the program, each walked under the conditions that its theorem names. -/
import Derived.Sort.OwnSortedInts
import Derived.Lib.OwnBridge
import Derived.Test.YtgikfenllgldoaaGreatQ19
set_option linter.unusedSimpArgs false
set_option maxRecDepth 100000
set_option maxHeartbeats 32000000
namespace Go.Proofs.YtgikfenllgldoaaGreat
open Go.Proofs.Tryz
open Go.RowKit Go.Sort Go.Lib
section
variable {α:Type} [Inhabited α] {R:bI α} {k:Nat}
def ni (R:bI α) (k:Nat) (w0 u:World) (e:TypeId) (v:Value) (L:List α):Prop :=
 (L=[]/\(∃ b,v=.slice b 0 0)/\Below w0.heap.size w0 u)\/Row R k (fun _=>False) w0 u e v L
theorem ni.below {w0 u:World} {e:TypeId} {v:Value} {L:List α} (h:ni R k w0 u e v L):Below w0.heap.size w0 u:=by
 rcases h with ⟨_,_,h⟩ | h
 ·exact h
 ·exact h.below
theorem ni.nil (w:World) (e:TypeId) (b:Option Addr):ni R k w w e (.slice b 0 0) ([]:List α):=.inl ⟨rfl,⟨b,rfl⟩,Below.refl _ _⟩
theorem zH1 (hR:aJ R k) (hF:Flat R) {o:Oper} {a:Act} {K:Act->World->Prop} {Q:Exit->Act->World->Prop} {A:Where} {w0 u:World} (s x:Operand) (t e:TypeId)
  (ho:o.op=.call { callee:=.builtin .append,args:=#[s,x],argTypes:=#[t,t] }) (z:Value) (bytes:Nat) (hinfo:(prog.info? e).map (fun i=>(i.zero,i.size,i.bytes))=some (some z,k,bytes)) (ht:prog.underlying t=some (.slice e)) (hzs:z.cells.size=k) (hk0:0<k) (hby:1<=bytes)
  (v:Value) (L:List α) (hs:a.eval s=v) (hrow:ni R k w0 u e v L)
  (ad:Option Addr) (m c:Nat) (N:List α) (hx:a.eval x=.slice ad m c) (hN:Src R k A u ad m N) (hb:(L.length+N.length)*bytes<=140737488355328)
  (h:∀ v' u',ni R k w0 u' e v' (L++N)->K (a.put o.dst v') u'):o.wp prog a u K Q:=by
 rcases hrow with ⟨rfl,⟨b,rfl⟩,hbel⟩ | hrow
 ·obtain ⟨hm,hN⟩:=hN
  obtain ⟨i0,hi,hz0,hz1,hz2⟩:=info_parts hinfo
  by_cases hN0:N=[]
  ·subst hN0
   obtain rfl:m=0:=by simpa using hm.symm
   have hr:∀ ty,(Builtin.append_ #[t,t] ty #[.slice b 0 0,.slice ad 0 c]).run prog u=.ok (.slice b 0 0) u:=by
    intro ty
    cases ad <;> cases b <;> simp [Builtin.append_,run_underlying ht,sizeOf,typeInfo,hi,Builtin.lenOf,Builtin.firstCells,loadCells,loadCellsFrom,storeCells]
   unfold Oper.wp execOp
   simp only [ho,resolve,invoke,builtin,Sem.run_bind,Sem.run_pure,Result.andThen_ok,List.map_toArray,List.map_cons,List.map_nil,hs,hx,hr]
   exact h _ _ (.inl ⟨rfl,⟨b,rfl⟩,hbel⟩)
  ·rcases hN with ⟨_,e0⟩ | ⟨ad,news,rfl,hN,hcells,h1⟩
   ·exact absurd e0 hN0
   ·subst hm
    have hpos:0<N.length:=List.length_pos_iff.2 hN0
    have hmul:N.length*1<=N.length*bytes:=Nat.mul_le_mul_left _ hby
    simp only [List.length_nil,Nat.zero_add] at hb
    obtain ⟨v',u',hr,h2,h3,h4,h5⟩:=run_append_own_at (P:=prog) u w0.heap.size t o.type e i0 z k bytes ht hi hz0 hz1 hz2 hzs hk0 (.slice none 0 0) 0 [] ⟨by simp,.inl ⟨rfl,rfl⟩⟩ ad N.length c news hN.1 hcells h1 (by unfold maxLen;omega) (by simpa using hb) hbel.size
    have hr2:(Builtin.append_ #[t,t] o.type #[.slice b 0 0,.slice (some ad) N.length c]).run prog u=.ok v' u':=by
     cases b with
     | none=>exact hr
     | some bd =>
      have e1:=run_append_nil (P:=prog) u t o.type e i0 z ht hi hz0 ad N.length c news (by rw [hz1];exact hN.1) hcells (by omega) (by omega) (by rw [hz2];omega)
      have e2:=run_append_grow (P:=prog) u t o.type e i0 z ht hi hz0 bd 0 0 [] (by simp) (by simp) ad N.length c news (by rw [hz1];exact hN.1) hcells (by omega) (by omega) (growslice_fits (by omega) (by rw [hz2];simpa using hb))
      rw [<- hr,e1,e2]
      simp
    unfold Oper.wp execOp
    simp only [ho,resolve,invoke,builtin,Sem.run_bind,Sem.run_pure,Result.andThen_ok,List.map_toArray,List.map_cons,List.map_nil,hs,hx,hr2]
    refine h v' u' (.inr ⟨news,⟨Below.grown hbel h3 hbel.size (fun j hj=>by cases hj),by simpa using h2⟩,?_⟩)
    exact hN.flat hF
 ·refine Mf hR (A:=fun _=>False) (w0:=w0) s x t e ho z bytes hinfo ht hzs hk0 hby v L hs hrow ad m c N hx (hN.flat hF) hb (fun v' u' h1 _ _=>h v' u' (.inr h1))
theorem xN (hR:aJ R k) (hF:Flat R) {ops:Array Oper} {rest:List Oper} {o:Oper} {a:Act} {Q:Exit->Act->World->Prop} {A:Where} {w0 u:World} (hgd:Region.wanted o (yielded ops a.tmps)=true) (s x:Operand) (t e:TypeId)
  (ho:o.op=.call { callee:=.builtin .append,args:=#[s,x],argTypes:=#[t,t] }) (z:Value) (bytes:Nat) (hinfo:(prog.info? e).map (fun i=>(i.zero,i.size,i.bytes))=some (some z,k,bytes)) (ht:prog.underlying t=some (.slice e)) (hzs:z.cells.size=k) (hk0:0<k) (hby:1<=bytes)
  (v:Value) (L:List α) (hs:a.eval s=v) (hrow:ni R k w0 u e v L)
  (ad:Option Addr) (m c:Nat) (N:List α) (hx:a.eval x=.slice ad m c) (hN:Src R k A u ad m N) (hb:(L.length+N.length)*bytes<=140737488355328)
  (h:∀ v' u',ni R k w0 u' e v' (L++N)->wpList prog ops Q rest (a.put o.dst v') u'):wpList prog ops Q (o :: rest) a u :=
 BigFrame.wpList_want hgd (fun _ hK=>zH1 hR hF s x t e ho z bytes hinfo ht hzs hk0 hby v L hs hrow ad m c N hx hN hb (fun v' u' h2=>hK _ _ (h v' u' h2)))
theorem ni.empty {w0 u:World} {e:TypeId} {v:Value} (h:ni R k w0 u e v ([]:List α)):∃ b c,v=.slice b 0 c/\(b=none->c=0):=by
 rcases h with ⟨_,⟨b,rfl⟩,_⟩ | ⟨xs,h1,_⟩
 ·exact ⟨b,0,rfl,fun _=>rfl⟩
 ·rcases h1.2.2 with ⟨rfl,_⟩ | ⟨g,cap,cur,rfl,_⟩
  ·exact ⟨none,0,rfl,fun _=>rfl⟩
  ·exact ⟨_,_,rfl,fun h=>by cases h⟩
end
theorem zH7 {A:Where} {u:World} {xs:List Value} {L:List ByteArray} (h:aW au 1 A u xs L):xs=(L.map ByteArray.toList).map encStr/\∀ s∈L,s.size<=140737488355328:=by
 refine ⟨List.ext_getElem? (fun i=>?_),fun s hs=>?_⟩
 ·by_cases hi:i<L.length
  ·obtain ⟨cs,⟨e,_⟩,h2⟩:=h.2 i hi
   have:=h2 0 (by decide)
   rw [Nat.mul_one,Nat.add_zero,e] at this
   rw [this,List.getElem?_map,List.getElem?_map,List.getElem?_eq_getElem hi,gK _ _ hi]
   simp [encStr,ByteArray.toList_eq]
  ·rw [List.getElem?_eq_none (by rw [h.1];omega),List.getElem?_eq_none (by simp;omega)]
 ·obtain ⟨i,hi,rfl⟩:=List.getElem_of_mem hs
  obtain ⟨cs,⟨_,e⟩,_⟩:=h.2 i hi
  rwa [gK _ _ hi] at e
theorem zHk (A:Where) (u:World) {L:List ByteArray} (hs:∀ s∈L,s.size<=140737488355328):aW au 1 A u ((L.map ByteArray.toList).map encStr) L:=by
 refine ⟨by simp,fun i hi=>⟨[.string (L.getD i default)],⟨rfl,?_⟩,fun j hj=>?_⟩⟩
 ·rw [gK _ _ hi];exact hs _ (List.getElem_mem hi)
 ·obtain rfl:j=0:=by omega
  rw [Nat.mul_one,Nat.add_zero,List.getElem?_map,List.getElem?_map,List.getElem?_eq_getElem hi,gK _ _ hi]
  simp [encStr,ByteArray.toList_eq]
theorem zH6 {A:Where} {u:World} {xs:List Value} {L:List Int} (h:aW aC 1 A u xs L):xs=L.map (Value.int .i64):=by
 refine List.ext_getElem? (fun i=>?_)
 by_cases hi:i<L.length
 ·obtain ⟨cs,e,h2⟩:=h.2 i hi
  have:=h2 0 (by decide)
  rw [Nat.mul_one,Nat.add_zero,e] at this
  rw [this,List.getElem?_map,List.getElem?_eq_getElem hi,gK _ _ hi]
  simp
 ·rw [List.getElem?_eq_none (by rw [h.1];omega),List.getElem?_eq_none (by simp;omega)]
theorem zHO (A:Where) (u:World) (L:List Int):aW aC 1 A u (L.map (Value.int .i64)) L:=by
 refine ⟨by simp,fun i hi=>⟨[.int .i64 (L.getD i default)],rfl,fun j hj=>?_⟩⟩
 obtain rfl:j=0:=by omega
 rw [Nat.mul_one,Nat.add_zero,List.getElem?_map,List.getElem?_eq_getElem hi,gK _ _ hi]
 simp
theorem BA {w u:World} {e:TypeId} {v:Value} {N:List ByteArray} (hN:N≠[]) (h:Row au 1 (fun _=>False) w u e v N) :
  ∃ g cap,v=.slice (some ⟨g,0,none⟩) N.length cap/\g<u.heap.size/\N.length<=cap/\Holds encStr u g 0 (N.map ByteArray.toList).toArray /\
   ∀ n os,Holds encStr (grow (putRow encStr (Sort.ahead u n) g 0 ((N.map ByteArray.toList).mergeSort fun x y=>decide (x<=y)).toArray) os) g 0 ((N.map ByteArray.toList).mergeSort fun x y=>decide (x<=y)).toArray /\
    ∀ q,Row au 1 (fun _=>False) w (putRow encStr (Sort.ahead (grow (putRow encStr (Sort.ahead u n) g 0 ((N.map ByteArray.toList).mergeSort fun x y=>decide (x<=y)).toArray) os) q) g 0 (Lib.compact ((N.map ByteArray.toList).mergeSort fun x y=>decide (x<=y))++List.replicate (((N.map ByteArray.toList).mergeSort fun x y=>decide (x<=y)).length - (Lib.compact ((N.map ByteArray.toList).mergeSort fun x y=>decide (x<=y))).length) []).toArray) e (.slice (some ⟨g,0,none⟩) (aN dh ay N).length cap) (aN dh ay N):=by
 obtain ⟨xs,⟨hb,hown⟩,hch⟩:=h
 have hx:=zH7 hch
 obtain ⟨hx,hsz⟩:=hx
 subst hx
 have hne:v≠.slice none 0 0:=by
  rintro rfl
  rcases hown.2 with ⟨_,h0⟩ | ⟨g,cap,cur,h0,_⟩
  ·exact hN (List.length_eq_zero_iff.1 h0)
  ·cases h0
 obtain ⟨g,cap,rfl,hbg,hg,hnc,hcm,hl,hH⟩:=holds_of_ownsRow hown hne
 have hl2:((N.map ByteArray.toList).mergeSort fun x y=>decide (x<=y)).length=N.length:=by rw [List.length_mergeSort];simp
 have hcl:(Lib.compact ((N.map ByteArray.toList).mergeSort fun x y=>decide (x<=y))).length<=N.length:=by rw [<- hl2];exact Lib.compact_length_le _
 have hS:Lib.compact ((N.map ByteArray.toList).mergeSort fun x y=>decide (x<=y))=((aN dh ay N).map ByteArray.toList):=De N
 have SY:(aN dh ay N).length=(Lib.compact ((N.map ByteArray.toList).mergeSort fun x y=>decide (x<=y))).length:=by rw [hS];simp
 refine ⟨g,cap,rfl,hg,hnc,hH,fun n os=>?_⟩
 rcases hown.2 with ⟨h0,_⟩ | ⟨g',cap',cur,hv,hbase,xz,h1,h2,h3,h4⟩
 ·cases h0
 cases hv
 have hs:=ownsRow_sorted (n:=n) (os:=os) (ts:=((N.map ByteArray.toList).mergeSort fun x y=>decide (x<=y))) (ss:=(N.map ByteArray.toList)) (base:=w.heap.size) (by rw [hl2];simp) hbase xz (by simpa using h1) h2 h3
 have eN:(N.map ByteArray.toList).length=N.length:=by simp
 rw [eN] at hs
 obtain ⟨g2,c2,e2,_,_,_,_,_,hH2⟩:=holds_of_ownsRow hs (by intro h;cases h)
 injection e2 with e2 _ _
 injection e2 with e2
 injection e2 with e2
 subst e2
 refine ⟨hH2,fun q=>?_⟩
 have hc:=Lib.ownsRow_putRow (q:=q) (k:=(Lib.compact ((N.map ByteArray.toList).mergeSort fun x y=>decide (x<=y))).length) (ys:=Lib.compact ((N.map ByteArray.toList).mergeSort fun x y=>decide (x<=y))++List.replicate (((N.map ByteArray.toList).mergeSort fun x y=>decide (x<=y)).length - (Lib.compact ((N.map ByteArray.toList).mergeSort fun x y=>decide (x<=y))).length) []) hs (by rw [List.length_append,List.length_replicate,hl2];omega) hcl
 rw [List.take_left] at hc
 refine ⟨_,⟨Lib.below_putRow (hb.grown (grownBy_sorted _) hb.size (fun j hj=>by cases hj;exact hbase)) hbase,by rw [SY];exact hc⟩,?_⟩
 rw [hS]
 exact zHk _ _ (fun s hs=>hsz s ((mem_sorted s N).1 hs))
theorem BC {w u:World} {e:TypeId} {v:Value} {N:List Int} (hN:N≠[]) (h:Row aC 1 (fun _=>False) w u e v N) :
  ∃ g cap,v=.slice (some ⟨g,0,none⟩) N.length cap/\g<u.heap.size/\N.length<=cap/\Holds (Value.int .i64) u g 0 N.toArray /\
   ∀ n os,Holds (Value.int .i64) (grow (putRow (Value.int .i64) (Sort.ahead u n) g 0 (N.mergeSort fun x y=>decide (x<=y)).toArray) os) g 0 (N.mergeSort fun x y=>decide (x<=y)).toArray /\
    ∀ q,Row aC 1 (fun _=>False) w (putRow (Value.int .i64) (Sort.ahead (grow (putRow (Value.int .i64) (Sort.ahead u n) g 0 (N.mergeSort fun x y=>decide (x<=y)).toArray) os) q) g 0 (Lib.compact (N.mergeSort fun x y=>decide (x<=y))++List.replicate ((N.mergeSort fun x y=>decide (x<=y)).length - (Lib.compact (N.mergeSort fun x y=>decide (x<=y))).length) 0).toArray) e (.slice (some ⟨g,0,none⟩) (aN fD dM N).length cap) (aN fD dM N):=by
 obtain ⟨xs,⟨hb,hown⟩,hch⟩:=h
 have hx:=zH6 hch
 subst hx
 have hne:v≠.slice none 0 0:=by
  rintro rfl
  rcases hown.2 with ⟨_,h0⟩ | ⟨g,cap,cur,h0,_⟩
  ·exact hN (List.length_eq_zero_iff.1 h0)
  ·cases h0
 obtain ⟨g,cap,rfl,hbg,hg,hnc,hcm,hl,hH⟩:=holds_of_ownsRow hown hne
 have hl2:(N.mergeSort fun x y=>decide (x<=y)).length=N.length:=by rw [List.length_mergeSort]
 have hcl:(Lib.compact (N.mergeSort fun x y=>decide (x<=y))).length<=N.length:=by rw [<- hl2];exact Lib.compact_length_le _
 have hS:Lib.compact (N.mergeSort fun x y=>decide (x<=y))=(aN fD dM N):=Df N
 have SY:(aN fD dM N).length=(Lib.compact (N.mergeSort fun x y=>decide (x<=y))).length:=by rw [hS]
 refine ⟨g,cap,rfl,hg,hnc,hH,fun n os=>?_⟩
 rcases hown.2 with ⟨h0,_⟩ | ⟨g',cap',cur,hv,hbase,xz,h1,h2,h3,h4⟩
 ·cases h0
 cases hv
 have hs:=ownsRow_sortedI (n:=n) (os:=os) (ts:=(N.mergeSort fun x y=>decide (x<=y))) (ss:=N) (base:=w.heap.size) (by rw [hl2]) hbase xz (by simpa using h1) h2 h3
 have eN:N.length=N.length:=by simp
 rw [eN] at hs
 obtain ⟨g2,c2,e2,_,_,_,_,_,hH2⟩:=holds_of_ownsRow hs (by intro h;cases h)
 injection e2 with e2 _ _
 injection e2 with e2
 injection e2 with e2
 subst e2
 refine ⟨hH2,fun q=>?_⟩
 have hc:=Lib.ownsRow_putRow (q:=q) (k:=(Lib.compact (N.mergeSort fun x y=>decide (x<=y))).length) (ys:=Lib.compact (N.mergeSort fun x y=>decide (x<=y))++List.replicate ((N.mergeSort fun x y=>decide (x<=y)).length - (Lib.compact (N.mergeSort fun x y=>decide (x<=y))).length) 0) hs (by rw [List.length_append,List.length_replicate,hl2];omega) hcl
 rw [List.take_left] at hc
 refine ⟨_,⟨Lib.below_putRow (hb.grown (grownBy_sortedI _) hb.size (fun j hj=>by cases hj;exact hbase)) hbase,by rw [SY];exact hc⟩,?_⟩
 rw [hS]
 exact zHO _ _ _
end Go.Proofs.YtgikfenllgldoaaGreat
namespace Go.Proofs.YtgikfenllgldoaaGreat
open Go.Proofs.Tryz
open Go.RowKit Go.Maps
theorem EG (n:Nat) (w:World):(Instr.makeMap 119 (some (.int .i64 (n:Int)))).run prog w=.ok (.map (some w.heap.size)) (w.alloc (.map #[] 0)):=by
 simp [Instr.makeMap,run_underlying underlying119,asInt,asIntOf,Result.andThen]
theorem Bo {cs:List Value} (h:∀ v∈cs,v.oneCell'=true):cs.toArray.all (·.oneCell')=true:=by
 simp only [List.all_toArray,List.all_eq_true]
 exact h
def wY (w:World) (s:Value) (N:List ByteArray) (e:Ending) (w':World):Prop:=∃ mb,e=.returned (.agg #[s,.map (some mb)])/\aV w' mb N/\w.heap.size<=mb/\Below w.heap.size w w'
theorem aA.jZ {A:Where} {w:World} {cs:List Value} {x:aT} (h:aA A w cs x):cs[0]?=some (.string x.1)/\x.1.size<=140737488355328:=by
 obtain ⟨rfl,h1,_⟩:=h.out
 exact ⟨rfl,h1⟩
theorem ai.jZ {A:Where} {w:World} {cs:List Value} {x:aD} (h:ai A w cs x):cs[0]?=some (.string x.1)/\x.1.size<=140737488355328:=by
 obtain ⟨_,rfl,h1,_⟩:=h.out
 exact ⟨rfl,h1⟩
theorem aH.jZ {A:Where} {w:World} {cs:List Value} {x:dI} (h:aH A w cs x):cs[0]?=some (.string x.1)/\x.1.size<=140737488355328:=by
 obtain ⟨rfl,h1⟩:=h.out
 exact ⟨rfl,h1⟩
theorem EB {α:Type} [Inhabited α] (f:α->ByteArray) {L:List α} {k:Nat} (h:k<L.length):(L.map f).take (k+1)=(L.map f).take k++[f (L.getD k default)]:=by
 rw [List.take_succ_eq_append_getElem (by rw [List.length_map];exact h),List.getElem_map,List.getD_eq_getElem?_getD,List.getElem?_eq_getElem h]
 rfl
theorem af.vD {u u':World} {D m:Nat} {cs:List Value} (h:af u D cs) (hg:u.grownBy u' (some m)) (hm:D≠m):af u' D cs:=h.kept (A:=fun b=>b≠m) (Kept.grown hg (fun k e hk=>hk (by simpa using e.symm))) hm
theorem Mc {w u u':World} {m:Nat} (h:Below w.heap.size w u) (hg:u.grownBy u' (some m)) (hm:w.heap.size<=m):Below w.heap.size w u':=h.grown hg h.size (fun k e=>by cases e;exact hm)
abbrev eu:=ByteArray×List aG×List iO×List iO×Nat
abbrev dJ (T:eu):List iO:=T.2.2.1
abbrev dO (T:eu):List iO:=T.2.2.2.1
abbrev oD (T:eu):Nat:=T.2.2.2.2
def di:bI eu:=bf au (bf (bN ak 2 32) (bf (bN bM 3 48) (bf (bN bM 3 48) xJ)))
theorem di.ae:aJ di 5:=aJ.pair au.ae (aJ.pair (bN.ae ak.ae) (aJ.pair (bN.ae bM.ae) (aJ.pair (bN.ae bM.ae) xJ.ae)))
theorem di.out {A:Where} {w:World} {cs:List Value} {x:eu} (h:di A w cs x):∃ h1 h2 h3:Hd,cs=[.string x.1,.slice h1.1 h1.2.1 h1.2.2,.slice h2.1 h2.2.1 h2.2.2,.slice h3.1 h3.2.1 h3.2.2,.map (some x.2.2.2.2)]/\x.1.size<=140737488355328/\ag ak 2 32 A w h1.1 h1.2.1 h1.2.2 x.2.1/\ag bM 3 48 A w h2.1 h2.2.1 h2.2.2 x.2.2.1/\ag bM 3 48 A w h3.1 h3.2.1 h3.2.2 x.2.2.2.1:=by
 obtain ⟨c,d,rfl,⟨rfl,h0⟩,c1,d1,rfl,⟨a1,n1,m1,rfl,s1⟩,c2,d2,rfl,⟨a2,n2,m2,rfl,s2⟩,c3,d3,rfl,⟨a3,n3,m3,rfl,s3⟩,rfl⟩:=h
 exact ⟨(a1,n1,m1),(a2,n2,m2),(a3,n3,m3),rfl,h0,s1,s2,s3⟩
theorem di.mk {A:Where} {w:World} {x:eu} {h1 h2 h3:Hd} (p0:x.1.size<=140737488355328) (p1:ag ak 2 32 A w h1.1 h1.2.1 h1.2.2 x.2.1) (p2:ag bM 3 48 A w h2.1 h2.2.1 h2.2.2 x.2.2.1) (p3:ag bM 3 48 A w h3.1 h3.2.1 h3.2.2 x.2.2.2.1):di A w [.string x.1,.slice h1.1 h1.2.1 h1.2.2,.slice h2.1 h2.2.1 h2.2.2,.slice h3.1 h3.2.1 h3.2.2,.map (some x.2.2.2.2)] x :=
 ⟨_,_,rfl,⟨rfl,p0⟩,_,_,rfl,⟨_,_,_,rfl,p1⟩,_,_,rfl,⟨_,_,_,rfl,p2⟩,_,_,rfl,⟨_,_,_,rfl,p3⟩,rfl⟩
theorem Ls:(prog.info? 145).map (·.size)=some 17:=by kernel_rfl
theorem QI:(prog.info? 41).map (·.size)=some 16:=by kernel_rfl
def dQ (T:eu):List Nat:=(dJ T++dO T).map Prod.snd++[oD T]
abbrev NM (T:eu):Where:=fun b=>b ∉ dQ T
structure dZ (u:World) (T:eu) (N:Nat) (g:bP->aG->Int) (o:aG->Int):Prop where
 c:∀ t∈dJ T++dO T,bF u t.2 N (g t.1)
 o:bF u (oD T) N o
 n:(dQ T).Nodup
theorem dZ.on {u u':World} {T:eu} {N:Nat} {g:bP->aG->Int} {o:aG->Int} (h:dZ u T N g o) (hb:∀ b,b∈dQ T->b<u.heap.size->u'.heap[b]?=u.heap[b]?):dZ u' T N g o :=
 ⟨fun t ht=>(h.c t ht).same (hb t.2 (by unfold dQ;exact List.mem_append.2 (.inl (List.mem_map.2 ⟨t,ht,rfl⟩))) (h.c t ht).lt),h.o.same (hb _ (by unfold dQ;simp) h.o.lt),h.n⟩
theorem dZ.below {u u':World} {T:eu} {N:Nat} {g:bP->aG->Int} {o:aG->Int} (h:dZ u T N g o) (hb:Below u.heap.size u u'):dZ u' T N g o:=h.on (fun b _ hlt=>hb.block b hlt)
theorem dZ.lt {u:World} {T:eu} {N:Nat} {g:bP->aG->Int} {o:aG->Int} (h:dZ u T N g o) {b:Nat} (hb:b∈dQ T):b<u.heap.size:=by
 unfold dQ at hb
 rcases List.mem_append.1 hb with hb | hb
 ·obtain ⟨t,ht,rfl⟩:=List.mem_map.1 hb;exact (h.c t ht).lt
 ·obtain rfl:b=oD T:=by simpa using hb
  exact h.o.lt
theorem dZ.isMap {u:World} {T:eu} {N:Nat} {g:bP->aG->Int} {o:aG->Int} (h:dZ u T N g o) {b:Nat} (hb:b∈dQ T):¬ jC u b:=by
 unfold dQ at hb
 rcases List.mem_append.1 hb with hb | hb
 ·obtain ⟨t,ht,rfl⟩:=List.mem_map.1 hb;exact (h.c t ht).map
 ·obtain rfl:b=oD T:=by simpa using hb
  exact h.o.map
structure qj (X:Where) (w u:World) (ts:List Value) (T:eu) (p:aB):Prop where
 r:di (fun b=>NM T b/\X b) u ts T
 n:T.1=p.1
 l:T.2.1=bG p
 a:(dJ T).map Prod.fst=jI p
 b:(dO T).map Prod.fst=bB p
 m:dZ u T 0 (fun _ _=>0) (fun _=>0)
 f:∀ b∈dQ T,w.heap.size<=b
theorem PN {w u w1' w2':World} {p:aB} {a2 eG dY:Option Addr} {n2 m2 n10 m10 n11 m11:Nat} {M1 M2:List iO} {ob:Nat} {u1 u2:World}
  (hb:Below w.heap.size w u) (p0:p.1.size<=140737488355328) (s2:ag ak 2 32 (fun b=>b<w.heap.size) w a2 n2 m2 (bG p))
  (h1:ag bM 3 48 (fun b=>b<w.heap.size\/(az u1 b/\jC w1' b)) w1' eG n10 m10 M1) (e1:M1.map Prod.fst=jI p) (z1:jA u1 w1' M1) (b1:Below w1'.heap.size w1' u) (f1:w.heap.size<=u1.heap.size) (abh:w.heap.size<=w1'.heap.size)
  (h2:ag bM 3 48 (fun b=>b<w.heap.size\/(az u2 b/\jC w2' b)) w2' dY n11 m11 M2) (e2:M2.map Prod.fst=bB p) (z2:jA u2 w2' M2) (b2:Below w2'.heap.size w2' u) (f2:w1'.heap.size<=u2.heap.size)
  (ho:bF u ob 0 (fun _=>0)) (fo:w.heap.size<=ob) (d1:∀ b,u1.heap.size<=b->b<w1'.heap.size->b≠ob) (d2:∀ b,u2.heap.size<=b->b<w2'.heap.size->b≠ob) (X:Where) (x0:∀ b,b<w.heap.size->X b) (x1:∀ b,u1.heap.size<=b->X b) (x2:∀ b,u2.heap.size<=b->X b) :
  qj X w u [.string p.1,.slice a2 n2 m2,.slice eG n10 m10,.slice dY n11 m11,.map (some ob)] (p.1,bG p,M1,M2,ob) p:=by
 have Z1:jA u1 u M1:=z1.on (fun b _ hlt=>b1.block b hlt)
 have Z2:jA u2 u M2:=z2.on (fun b _ hlt=>b2.block b hlt)
 have hM:dZ u (p.1,bG p,M1,M2,ob) 0 (fun _ _=>0) (fun _=>0):=by
  refine ⟨fun t ht=>?_,ho,?_⟩
  ·rcases List.mem_append.1 ht with ht | ht
   ·exact Z1.c t ht
   ·exact Z2.c t ht
  ·show (((M1++M2).map Prod.snd)++[ob]).Nodup
   rw [List.map_append,List.nodup_append,List.nodup_append]
   refine ⟨⟨Z1.n,Z2.n,fun x hx y hy=>?_⟩,by simp,fun x hx y hy=>?_⟩
   ·obtain ⟨t,ht,rfl⟩:=List.mem_map.1 hx
    obtain ⟨s,hs,rfl⟩:=List.mem_map.1 hy
    have:=(z1.c t ht).lt
    have:=z2.f s hs
    omega
   ·obtain rfl:y=ob:=by simpa using hy
    rcases List.mem_append.1 hx with hx | hx
    ·obtain ⟨t,ht,rfl⟩:=List.mem_map.1 hx;exact d1 _ (z1.f t ht) (z1.c t ht).lt
    ·obtain ⟨t,ht,rfl⟩:=List.mem_map.1 hx;exact d2 _ (z2.f t ht) (z2.c t ht).lt
 have hF:∀ b∈dQ (p.1,bG p,M1,M2,ob),w.heap.size<=b:=fun b hb=>by
  unfold dQ at hb
  rcases List.mem_append.1 hb with hb | hb
  ·obtain ⟨t,ht,rfl⟩:=List.mem_map.1 hb
   rcases List.mem_append.1 ht with ht | ht
   ·exact Nat.le_trans f1 (z1.f t ht)
   ·have h3:=z2.f t ht
    exact Nat.le_trans abh (Nat.le_trans f2 h3)
  ·obtain rfl:b=ob:=by simpa using hb
   exact fo
 refine ⟨di.mk (x:=(p.1,bG p,M1,M2,ob)) (h1:=(a2,n2,m2)) (h2:=(eG,n10,m10)) (h3:=(dY,n11,m11)) p0 ?_ ?_ ?_,rfl,rfl,e1,e2,hM,hF⟩
 ·exact (s2.on ak.ae hb).weak ak.ae (fun b _ h=>⟨fun hm=>by have:=hF b hm;omega,x0 b h⟩)
 ·refine ag.weak bM.ae (A:=fun b=>b<w.heap.size\/(b<w1'.heap.size/\jC w1' b/\X b)) ((h1.weak bM.ae (fun b hlt h=>?_)).on bM.ae b1) (fun b _ h=>⟨fun hm=>?_,?_⟩)
  ·rcases h with h | h
   ·exact .inl h
   ·exact .inr ⟨hlt,h.2,x1 b h.1⟩
  ·rcases h with h | h
   ·have:=hF b hm;omega
   ·exact hM.isMap hm (fun es c he=>h.2.1 es c (by rw [<- b1.block b h.1];exact he))
  ·rcases h with h | h
   ·exact x0 b h
   ·exact h.2.2
 ·refine ag.weak bM.ae (A:=fun b=>b<w.heap.size\/(b<w2'.heap.size/\jC w2' b/\X b)) ((h2.weak bM.ae (fun b hlt h=>?_)).on bM.ae b2) (fun b _ h=>⟨fun hm=>?_,?_⟩)
  ·rcases h with h | h
   ·exact .inl h
   ·exact .inr ⟨hlt,h.2,x2 b h.1⟩
  ·rcases h with h | h
   ·have:=hF b hm;omega
   ·exact hM.isMap hm (fun es c he=>h.2.1 es c (by rw [<- b2.block b h.1];exact he))
  ·rcases h with h | h
   ·exact x0 b h
   ·exact h.2.2
theorem af.gu {u:World} {D:Nat} {c:Value} {cs:List Value} (h:af u D (c :: cs)):jC u D:=fun es k hh=>by
 have h1:=(h.2 0 c rfl).1
 simp [World.cell?,hh] at h1
theorem qj.set {X:Where} {w u:World} {ts:List Value} {T:eu} {p:aB} (h:qj X w u ts T p) {q:Addr} (hq:jC u q.block) (hX:¬ X q.block) (v:Value):qj X w (u.setCell q v) ts T p :=
 ⟨di.ae.kept h.r (Kept.set (fun k=>hX k.2) v),h.n,h.l,h.a,h.b,h.m.on (fun b hb _=>Below.heap_setCell u q v b (fun e=>h.m.isMap hb (e ▸ hq))),h.f⟩
theorem qj.any {X:Where} {w u:World} {ts:List Value} {T:eu} {p:aB} (h:qj X w u ts T p):qj (fun _=>True) w u ts T p :=
 ⟨di.ae.weak h.r (fun _ _ k=>⟨k.1,trivial⟩),h.n,h.l,h.a,h.b,h.m,h.f⟩
end Go.Proofs.YtgikfenllgldoaaGreat
