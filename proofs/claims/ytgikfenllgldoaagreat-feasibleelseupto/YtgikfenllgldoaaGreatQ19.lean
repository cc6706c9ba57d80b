/- Functions of the program, each walked under the conditions that its theorem names. -/
import Derived.Lib.SlicesCompact
import Derived.Test.YtgikfenllgldoaaGreatQ18
set_option linter.unusedSimpArgs false
set_option maxRecDepth 100000
set_option maxHeartbeats 32000000
namespace Go.Proofs.YtgikfenllgldoaaGreat
open Go.Proofs.Tryz
open Go.RowKit
theorem zHB {α:Type} [DecidableEq α] [Inhabited α] {lt:α->α->Prop} (tr:∀ a b c,lt a b->lt b c->lt a c) (d:Array α) (hs:∀ i j,i<j->j<d.size->d[i]! = d[j]! \/ lt d[i]! d[j]!) :
  ∀ m,m<=d.size->(Lib.compactUpTo d m).Pairwise lt/\∀ x,x∈Lib.compactUpTo d m↔∃ j,j<m/\d[j]! = x:=by
 intro m
 induction m with
 | zero=>intro _;exact ⟨by simp [Lib.compactUpTo],fun x=>by simp [Lib.compactUpTo]⟩
 | succ m ih =>
  intro hm
  obtain ⟨h1,h2⟩:=ih (by omega)
  rw [Lib.compactUpTo_succ]
  cases hk:Lib.keeps d m with
  | false =>
   have hd:0<m/\d[m]! = d[m - 1]! := by
    simp only [Lib.keeps,decide_eq_false_iff_not] at hk
    refine ⟨by omega,?_⟩
    by_cases e:d[m]! = d[m - 1]!
    ·exact e
    ·exact absurd (Or.inr e) hk
   simp only [Bool.false_eq_true,if_false,List.append_nil]
   refine ⟨h1,fun x=>?_⟩
   rw [h2]
   constructor
   ·rintro ⟨j,hj,e⟩;exact ⟨j,by omega,e⟩
   ·rintro ⟨j,hj,e⟩
    by_cases e1:j=m
    ·subst e1;exact ⟨j - 1,by omega,hd.2 ▸ e⟩
    ·exact ⟨j,by omega,e⟩
  | true =>
   have hd:m=0\/d[m]! ≠ d[m - 1]! := by simpa [Lib.keeps] using hk
   simp only [if_true]
   refine ⟨?_,fun x=>?_⟩
   ·rw [List.pairwise_append]
    refine ⟨h1,by simp,fun x hx y hy=>?_⟩
    simp only [List.mem_singleton] at hy
    subst hy
    obtain ⟨j,hj,rfl⟩:=(h2 x).1 hx
    rcases hd with hd | hd
    ·omega
    have hlast:lt d[m - 1]! d[m]! := by
     rcases hs (m - 1) m (by omega) (by omega) with h | h
     ·exact absurd h.symm hd
     ·exact h
    by_cases e:j=m - 1
    ·subst e;exact hlast
    ·rcases hs j (m - 1) (by omega) (by omega) with h | h
     ·rw [h];exact hlast
     ·exact tr _ _ _ h hlast
   ·rw [List.mem_append,h2,List.mem_singleton]
    constructor
    ·rintro (⟨j,hj,e⟩ | e)
     ·exact ⟨j,by omega,e⟩
     ·exact ⟨m,by omega,e.symm⟩
    ·rintro ⟨j,hj,e⟩
     by_cases e1:j=m
     ·subst e1;exact .inr e.symm
     ·exact .inl ⟨j,by omega,e⟩
theorem YV {α:Type} [DecidableEq α] [Inhabited α] {lt:α->α->Prop} (tr:∀ a b c,lt a b->lt b c->lt a c) (zs:List α) (hs:zs.Pairwise (fun a b=>a=b\/lt a b)) :
  (Lib.compact zs).Pairwise lt/\∀ x,x∈Lib.compact zs↔x∈zs:=by
 have:=zHB tr zs.toArray (fun i j hij hj=>by
  have hj':j<zs.length:=by simpa using hj
  have h:=List.pairwise_iff_getElem.1 hs i j (by omega) hj' hij
  simpa [show i<zs.length by omega,hj'] using h) zs.length (by simp)
 refine ⟨this.1,fun x=>?_⟩
 rw [show Lib.compact zs=Lib.compactUpTo zs.toArray zs.length from rfl,this.2]
 constructor
 ·rintro ⟨j,hj,rfl⟩
  simp [hj]
 ·intro h
  obtain ⟨j,hj,rfl⟩:=List.getElem_of_mem h
  exact ⟨j,hj,by simp [hj]⟩
theorem Df (zs:List Int):Lib.compact (zs.mergeSort fun x y=>decide (x<=y))=aN fD dM zs:=by
 have hs:(zs.mergeSort fun x y=>decide (x<=y)).Pairwise (fun a b=>a=b\/a<b):=by
  refine (List.pairwise_mergeSort (le:=fun x y:Int=>decide (x<=y)) ?_ ?_ zs).imp ?_
  ·intro a b c;simp only [decide_eq_true_eq];omega
  ·intro a b;simp only [Bool.or_eq_true,decide_eq_true_eq];omega
  ·intro a b;simp only [decide_eq_true_eq];omega
 obtain ⟨h1,h2⟩:=YV (lt:=fun a b:Int=>a<b) (by intro a b c;omega) _ hs
 refine nO.one Rs _ _ (h1.imp (by intro a b;simp [fD])) (nO.sort Rs zs) (fun x=>?_)
 rw [h2,List.mem_mergeSort,XK (fun a b h=>(Cc a b).1 h)]
theorem xL:∀ (x y:List UInt8),Op.bytesLess x y=true↔x<y
 | [],[]=>by simp [Op.bytesLess]
 | _ :: _,[]=>by simp [Op.bytesLess]
 | [],_ :: _=>by simp [Op.bytesLess]
 | a :: x,b :: y=>by
  have ih:=xL x y
  rw [Op.bytesLess,List.cons_lt_cons_iff,<- ih]
  simp
theorem Rq:xK Op.bytesLess (fun a b:List UInt8=>a == b):=⟨fun a b=>by simp,Lv,Er,fun a b h=>by
 have:=Ap a b h
 cases h1:Op.bytesLess a b
 ·right;rw [this,h1];rfl
 ·left;rfl⟩
theorem VE (a b:List UInt8):a<=b↔a=b\/a<b:=by
 rw [<- xL]
 constructor
 ·intro h
  by_cases e:a=b
  ·exact .inl e
  ·rcases Rq.tot a b e with h1 | h1
   ·exact .inr h1
   ·exact absurd ((xL b a).1 h1) (List.not_lt.2 h)
 ·rintro (rfl | h)
  ·exact List.le_refl a
  ·refine List.not_lt.1 (fun k=>?_)
   have k1:=(xL b a).2 k
   have:=Er a b a h k1
   rw [Lv] at this
   cases this
theorem De (L:List ByteArray):Lib.compact ((L.map ByteArray.toList).mergeSort fun x y=>decide (x<=y))=(aN dh ay L).map ByteArray.toList:=by
 have hs:((L.map ByteArray.toList).mergeSort fun x y=>decide (x<=y)).Pairwise (fun a b=>a=b\/a<b):=by
  refine (List.pairwise_mergeSort (le:=fun x y:List UInt8=>decide (x<=y)) ?_ ?_ _).imp ?_
  ·intro a b c;simp only [decide_eq_true_eq];exact List.le_trans
  ·intro a b;simp only [Bool.or_eq_true,decide_eq_true_eq];exact List.le_total a b
  ·intro a b;simp only [decide_eq_true_eq];exact (VE a b).1
 obtain ⟨h1,h2⟩:=YV (lt:=fun a b:List UInt8=>a<b) (fun a b c h k=>(xL a c).1 (Er a b c ((xL a b).2 h) ((xL b c).2 k))) _ hs
 refine nO.one Rq _ _ (h1.imp (fun {a b} h=>(xL a b).2 h)) ?_ (fun x=>?_)
 ·exact List.pairwise_map.2 (nO.sort aav L)
 ·rw [h2,List.mem_mergeSort,List.mem_map,List.mem_map]
  constructor
  ·rintro ⟨a,ha,e⟩;exact ⟨a,(mem_sorted a L).2 ha,e⟩
  ·rintro ⟨a,ha,e⟩;exact ⟨a,(mem_sorted a L).1 ha,e⟩
end Go.Proofs.YtgikfenllgldoaaGreat
namespace Go.Proofs.YtgikfenllgldoaaGreat
open Go.Proofs.Tryz
open Go.RowKit Go.Maps
def aV (w:World) (mb:Nat) (N:List ByteArray):Prop :=
 ∃ D:DataW Unit,yS w mb N.length D/\∀ s,Maps.has D (kT s)=(fI N s).isSome/\D.atKey (kT s) (.lit (.int .i64 0))=.lit (.int .i64 (((fI N s).getD 0:Nat):Int))
theorem aV.lt {w:World} {mb:Nat} {N:List ByteArray} (h:aV w mb N):mb<w.heap.size:=by obtain ⟨D,h1,_⟩:=h;exact h1.lt
theorem aV.same {w w':World} {mb:Nat} {N:List ByteArray} (h:aV w mb N) (hb:w'.heap[mb]?=w.heap[mb]?):aV w' mb N:=by
 obtain ⟨D,⟨es,ck,h1,h2⟩,h3⟩:=h
 exact ⟨D,⟨es,ck,hb.trans h1,h2⟩,h3⟩
theorem aV.on {w w':World} {mb:Nat} {N:List ByteArray} (h:aV w mb N) (hb:Below w.heap.size w w'):aV w' mb N:=h.same (hb.block mb h.lt)
theorem aV.kept {w w':World} {mb:Nat} {N:List ByteArray} {A:Where} (h:aV w mb N) (hb:Kept A w w') (hA:A mb):aV w' mb N:=h.same (hb.2 mb hA h.lt)
theorem aV.made (w:World):aV (w.alloc (.map #[] 0)) w.heap.size [] :=
 ⟨.map [],World.ownsMap_made _ _ _ _,fun _=>⟨rfl,rfl⟩⟩
theorem fI_snoc (N:List ByteArray) (x s:ByteArray):fI (N++[x]) s=match fI N s with | some k=>some k | none=>if ay x s=true then some N.length else none:=by
 unfold fI
 rw [List.findIdx?_append]
 cases h:List.findIdx? (fun x=>ay x s) N with
 | some k=>rfl
 | none =>
  simp only [List.findIdx?_cons,List.findIdx?_nil]
  cases ay x s <;> simp
theorem aV.look {w:World} {mb:Nat} {N:List ByteArray} (h:aV w mb N) (t:TypeId) (ht:prog.underlying t=some (.map 9 3)) {s:ByteArray} (hs:s.size<=140737488355328) :
  (Instr.lookup t (.map (some mb)) (.string s) true).run prog w=.ok (.tuple #[.int .i64 (((fI N s).getD 0:Nat):Int),.bool (fI N s).isSome]) w:=by
 obtain ⟨D,h1,h2⟩:=h
 obtain ⟨v,ps,hrun,hv⟩:=h1.look_ok vZ ht (Ec w) (plainElem_int (H:=Unit) underlying3 (q:=.i64) (a:=0) (by decide)) (Lt hs)
 rw [(h2 s).1] at hrun
 rw [(h2 s).2] at hv
 obtain ⟨c,rfl,hc,_⟩:=plainElem_int_inv underlying3 hv
 have:=congrArg Prod.fst hc
 obtain rfl:(((fI N s).getD 0:Nat):Int)=c:=by simpa using this
 exact hrun
theorem aV.put {w:World} {mb:Nat} {N:List ByteArray} (h:aV w mb N) (t:TypeId) (ht:prog.underlying t=some (.map 9 3)) {s:ByteArray} (hs:s.size<=140737488355328) (hno:fI N s=none) (hn:N.length<140737488355328) :
  ∃ w':World,(Instr.mapUpdate t (.map (some mb)) (.string s) (.int .i64 (N.length:Int))).run prog w=.ok () w'/\aV w' mb (N++[s])/\w.grownBy w' (some mb):=by
 obtain ⟨D,h1,h2⟩:=h
 obtain ⟨w',hes,hown,hg'⟩:=h1.update vZ ht (Nat.lt_of_lt_of_le hn yU) (Lt hs) (plainElem_int (H:=Unit) underlying3 (q:=.i64) (a:=(N.length:Int)) (WalkArith.wf_i64 (by omega)))
 refine ⟨w',hes,⟨_,by rw [List.length_append,List.length_singleton];exact hown,fun t=>?_⟩,hg'⟩
 rw [fI_snoc]
 by_cases e:ay s t=true
 ·obtain rfl:=(eZ _ _).1 e
  rw [has_put_same h1.isMap (yP _),atKey_put_same h1.isMap (yP _),hno]
  simp only [if_pos e]
  exact ⟨by simp,by simp⟩
 ·have hne:kT t≠kT s:=fun x=>e ((eZ _ _).2 (FT x).symm)
  rw [has_put_other hne,atKey_put_other hne,(h2 t).1,(h2 t).2]
  simp only [if_neg e]
  cases fI N t <;> exact ⟨by simp,by simp⟩
theorem aV.more {w:World} {mb:Nat} {N:List ByteArray} (h:aV w mb N) {s:ByteArray} {k:Nat} (hs:fI N s=some k):aV w mb (N++[s]):=by
 obtain ⟨D,h1,h2⟩:=h
 refine ⟨D,h1.mono (by simp),fun t=>?_⟩
 rw [fI_snoc,(h2 t).1,(h2 t).2]
 cases hf:fI N t with
 | some k=>exact ⟨by simp,by simp⟩
 | none =>
  have e:¬ ay s t=true:=fun e=>by rw [(eZ _ _).1 e,hf] at hs;cases hs
  simp only [if_neg e]
  exact ⟨by simp,by simp⟩
def dN (N:List ByteArray):List Nat:=(List.range N.length).filter (fun k=>decide (fI N (N.getD k default)=some k))
theorem pE (N:List ByteArray) (k:Nat):k∈dN N↔∃ s,fI N s=some k:=by
 unfold dN
 rw [List.mem_filter,List.mem_range,decide_eq_true_eq]
 constructor
 ·rintro ⟨_,h⟩;exact ⟨_,h⟩
 ·rintro ⟨s,h⟩
  obtain ⟨h1,h2,_⟩:=jl h
  exact ⟨h1,by rw [h2];exact h⟩
theorem LY (N:List ByteArray):(dN N).Pairwise (·<·):=List.Pairwise.filter _ List.pairwise_lt_range
theorem L9 (N:List ByteArray):(dN N).length<=N.length:=by
 unfold dN
 have:=List.length_filter_le (fun k=>decide (fI N (N.getD k default)=some k)) (List.range N.length)
 rwa [List.length_range] at this
theorem aV.values {w:World} {mb:Nat} {N:List ByteArray} (h:aV w mb N):∃ D:DataW Unit,yS w mb N.length D/\Maps.size D=(dN N).length /\
  ∀ ps:List (List UInt8×Int),(ps.map (·.1)).Perm (strKeys D)->(∀ p∈ps,∀ zd,D.atKey (.string p.1) zd=.lit (.int .i64 p.2))->(ps.map (·.2)).mergeSort (fun x y=>decide (x<=y))=(dN N).map (fun k:Nat=>(k:Int)):=by
 obtain ⟨D,h1,h2⟩:=h
 have hk:∀ x:List UInt8,kT ⟨x.toArray⟩=.string x:=fun x=>by simp [kT]
 have abj:((dN N).map (fun k=>(N.getD k default).data.toList)).Nodup:=by
  refine List.pairwise_map.2 ((LY N).imp_of_mem fun {a b} ha hb hab e=>?_)
  obtain ⟨sa,ea⟩:=(pE N a).1 ha
  obtain ⟨sb,eb⟩:=(pE N b).1 hb
  have e1:N.getD a default=N.getD b default:=by
   generalize N.getD a default=p at e
   generalize N.getD b default=q at e
   cases p;cases q;simpa using e
  rw [(jl ea).2.1,(jl eb).2.1] at e1
  rw [e1,eb] at ea
  injection ea with ea
  omega
 have hperm:((dN N).map (fun k=>(N.getD k default).data.toList)).Perm (strKeys D):=by
  obtain ⟨es,hD,hpw,_⟩:=h1.entries vZ
  obtain ⟨es',hD',hko⟩:=h1.keysOf
  obtain rfl:es=es':=by rw [hD] at hD';simpa using hD'
  subst hD
  refine perm_strKeys hpw (fun p hp=>by obtain ⟨v,hv⟩:=hko p hp;obtain ⟨x,_,hx,_⟩:=Maps.keyOf_str underlying9 hv;exact ⟨x,hx⟩) abj (fun x=>?_)
  have e:=(h2 ⟨x.toArray⟩).1
  rw [hk] at e
  rw [e,List.mem_map]
  constructor
  ·rintro ⟨k,hk1,rfl⟩
   obtain ⟨s,hs⟩:=(pE N k).1 hk1
   rw [show (⟨(N.getD k default).data.toList.toArray⟩:ByteArray)=N.getD k default by simp,(jl hs).2.1,hs]
   rfl
  ·intro hx
   obtain ⟨k,hk1⟩:=Option.isSome_iff_exists.1 hx
   exact ⟨k,(pE N k).2 ⟨_,hk1⟩,by rw [(jl hk1).2.1]⟩
 have hval:∀ (x:List UInt8) (k:Nat),fI N ⟨x.toArray⟩=some k->∀ (y:Int),(∀ zd,D.atKey (.string x) zd=.lit (.int .i64 y))->y=k:=fun x k hx y hy=>by
  have e:=(h2 ⟨x.toArray⟩).2
  rw [hk,hy,hx] at e
  simpa using e
 refine ⟨D,h1,?_,fun ps hps hv=>?_⟩
 ·have:=hperm.length_eq
  rw [List.length_map] at this
  rw [this]
  obtain ⟨es,hD,_,_⟩:=h1.entries vZ
  subst hD
  simp [Maps.size,strKeys]
 ·have hp2:(ps.map (·.1)).Perm ((dN N).map (fun k=>(N.getD k default).data.toList)):=hps.trans hperm.symm
  have hfk:∀ p∈ps,p.2=(((fI N ⟨p.1.toArray⟩).getD 0:Nat):Int):=fun p hp=>by
   have hm:p.1∈(dN N).map (fun k=>(N.getD k default).data.toList):=hp2.mem_iff.1 (List.mem_map.2 ⟨p,hp,rfl⟩)
   obtain ⟨k,hk1,hk2⟩:=List.mem_map.1 hm
   obtain ⟨s,hs⟩:=(pE N k).1 hk1
   have e1:fI N ⟨p.1.toArray⟩=some k:=by
    rw [<- hk2,show (⟨(N.getD k default).data.toList.toArray⟩:ByteArray)=N.getD k default by simp,(jl hs).2.1]
    exact hs
   rw [e1]
   exact hval _ _ e1 _ (hv p hp)
  have e3:ps.map (·.2)=(ps.map (·.1)).map (fun x=>(((fI N ⟨x.toArray⟩).getD 0:Nat):Int)):=by
   rw [List.map_map]
   exact List.map_congr_left (fun p hp=>hfk p hp)
  have MP:(ps.map (·.2)).Perm ((dN N).map (fun k:Nat=>(k:Int))):=by
   rw [e3]
   refine (hp2.map _).trans ?_
   rw [List.map_map]
   refine List.Perm.of_eq (List.map_congr_left (fun k hk1=>?_))
   obtain ⟨s,hs⟩:=(pE N k).1 hk1
   show (((fI N ⟨(N.getD k default).data.toList.toArray⟩).getD 0:Nat):Int)=k
   rw [show (⟨(N.getD k default).data.toList.toArray⟩:ByteArray)=N.getD k default by simp,(jl hs).2.1,hs]
   rfl
  have htr:∀ a b c:Int,decide (a<=b)=true->decide (b<=c)=true->decide (a<=c)=true:=fun a b c h1 h2=>by simp at *;omega
  have htot:∀ a b:Int,(decide (a<=b) || decide (b<=a))=true:=fun a b=>by simp;omega
  refine List.Perm.eq_of_pairwise (le:=fun a b:Int=>a<=b) (fun a b _ _ h1 h2=>Int.le_antisymm h1 h2) ?_ ?_ ((List.mergeSort_perm _ _).trans MP)
  ·exact (List.pairwise_mergeSort htr htot _).imp (fun h=>by simpa using h)
  ·refine List.pairwise_map.2 ((LY N).imp (fun h=>by omega))
def xJ:bI Nat:=fun _ _ cs b=>cs=[.map (some b)]
theorem xJ.ae:aJ xJ 1:={
 len:=(by rintro A w cs x rfl;rfl),
 one:=(by rintro A w cs x rfl u hu;simp at hu;subst hu;rfl),
 kept:=fun h _=>h,
 weak:=fun h _=>h }
abbrev iO:=bP×Nat
def bM:bI iO:=bf bT xJ
theorem bM.ae:aJ bM 3:=aJ.pair bT.ae xJ.ae
theorem bM.out {A:Where} {w:World} {cs:List Value} {x:iO} (h:bM A w cs x):∃ h0:Hd,cs=[.slice h0.1 h0.2.1 h0.2.2,.string x.1.2,.map (some x.2)]/\ag aU 3 48 A w h0.1 h0.2.1 h0.2.2 x.1.1/\x.1.2.size<=140737488355328:=by
 obtain ⟨c,d,rfl,h1,rfl⟩:=h
 obtain ⟨h0,rfl,h2,h3⟩:=h1.out
 exact ⟨h0,rfl,h2,h3⟩
theorem bM.mk {A:Where} {w:World} {x:iO} {h0:Hd} (p0:ag aU 3 48 A w h0.1 h0.2.1 h0.2.2 x.1.1) (p1:x.1.2.size<=140737488355328):bM A w [.slice h0.1 h0.2.1 h0.2.2,.string x.1.2,.map (some x.2)] x :=
 ⟨_,_,rfl,bT.mk p0 p1,rfl⟩
theorem Jt:(prog.info? 192).map (fun i=>(i.zero,i.size,i.bytes))=some (some (.agg #[.slice none 0 0,.string ⟨#[]⟩,.map none]),3,48):=by kernel_rfl
theorem PS {α:Type} [Inhabited α] {L:List α} {k:Nat} (h:k<L.length):L.take k++[L.getD k default]=L.take (k+1):=by
 rw [List.take_add_one,List.getD_eq_getElem?_getD,List.getElem?_eq_getElem h]
 rfl
def jC (w:World) (b:Nat):Prop:=∀ es c,w.heap[b]?≠some (.map es c)
theorem bF.map {w:World} {mb n:Nat} {f:aG->Int} (h:bF w mb n f):¬ jC w mb:=by
 obtain ⟨D,⟨es,ck,h1,_⟩,_⟩:=h
 exact fun k=>k es ck h1
section
variable {α:Type} [Inhabited α] {R:bI α} {k:Nat}
theorem Row.gu {A:Where} {w0 u:World} {e:TypeId} {v:Value} {L:List α} (h:Row R k A w0 u e v L) {b:Nat} (hb:v.ownBlock=some b):jC u b/\az w0 b/\b<u.heap.size:=by
 obtain ⟨xs,h1,h2⟩:=h
 have h3:=h1.2
 obtain ⟨_,⟨rfl,_⟩ | ⟨g,cap,cur,rfl,hB,hg,_⟩⟩:=h3
 ·simp [Value.ownBlock] at hb
 ·obtain rfl:g=b:=by simpa [Value.ownBlock] using hb
  refine ⟨fun es c hh=>?_,hB,(Array.getElem?_eq_some_iff.1 hg).1⟩
  rw [hh] at hg;cases hg
theorem Row.slN (hR:aJ R k) {bytes:Nat} {A:Where} {w0 u:World} {e:TypeId} {v:Value} {L:List α} (h:Row R k A w0 u e v L) (hb:L.length*bytes<=140737488351232) :
  ∃ a cap,v=.slice a L.length cap/\ag R k bytes (fun b=>A b\/(az w0 b/\jC u b)) u a L.length cap L:=by
 have h0:=h
 obtain ⟨xs,h1,h2⟩:=h
 obtain ⟨a,cap,e1,h3⟩:=yZ (bytes:=bytes) hR h1.2 h2 hb
 refine ⟨a,cap,e1,h3.weak hR (fun b _ hb=>?_)⟩
 rcases hb with hb | hb
 ·exact .inl hb.1
 ·exact .inr ⟨(h0.gu hb).2.1,(h0.gu hb).1⟩
end
structure jA (w u:World) (L:List iO):Prop where
 c:∀ t∈L,bF u t.2 0 (fun _=>0)
 f:∀ t∈L,w.heap.size<=t.2
 n:(L.map Prod.snd).Nodup
theorem jA.on {w u u':World} {L:List iO} (h:jA w u L) (hb:∀ b,b∈L.map Prod.snd->b<u.heap.size->u'.heap[b]?=u.heap[b]?):jA w u' L :=
 ⟨fun t ht=>(h.c t ht).same (hb t.2 (List.mem_map.2 ⟨t,ht,rfl⟩) (h.c t ht).lt),h.f,h.n⟩
theorem jA.snoc {w u:World} {L:List iO} (h:jA w u L) (hw:w.heap.size<=u.heap.size) (t:bP):jA w (u.alloc (.map #[] 0)) (L++[(t,u.heap.size)]):=by
 have h1:=h.on (u':=u.alloc (.map #[] 0)) (fun b _ hb=>((Below.refl _ u).alloc (Nat.le_refl _) _).block b hb)
 refine ⟨fun x hx=>?_,fun x hx=>?_,?_⟩
 ·rcases List.mem_append.1 hx with hx | hx
  ·exact h1.c x hx
  ·obtain rfl:x=(t,u.heap.size):=by simpa using hx
   exact bF.made u
 ·rcases List.mem_append.1 hx with hx | hx
  ·exact h.f x hx
  ·obtain rfl:x=(t,u.heap.size):=by simpa using hx
   exact hw
 ·rw [List.map_append,List.nodup_append]
  refine ⟨h.n,by simp,fun a ha b hb=>?_⟩
  obtain ⟨x,hx,rfl⟩:=List.mem_map.1 ha
  have:=(h.c x hx).lt
  simp at hb
  omega
theorem Y5 (a:Option Addr) (n cap:Nat) (A:Where) (L:List bP) (w:World) (hL:Hid (ag bT 2 40 A w a n cap L)) (hA:∀ b,A b->b<w.heap.size) (hn:n<1000000000) :
  Calls prog 102 #[.slice a n cap] w fun e w'=>∃ a' c' M,e=.returned (.slice a' n c')/\ag bM 3 48 (fun b=>A b\/(az w b/\jC w' b)) w' a' n c' M/\M.map Prod.fst=L/\jA w w' M/\Below w.heap.size w w':=by
 have hlen:Hid (L.length=n):=hL.out.1
 have hmm:=@run_makeMap prog
 go_enter func102,ntmps102
 go_wp2_with fail
 go_loopw [3,8] (fun o i wr=>∃ (k:Nat) (M:List iO),k<=n/\i=.int .i64 k/\Hid (Row bM 3 A w wr 192 o M)/\Hid (jA w wr M)/\Hid (M.map Prod.fst=L.take k)) (fun _ i _=>n - (intOf i).toNat)
 case atStart=>exact ⟨0,[],Nat.zero_le _,rfl,Row.nil _ _ _,⟨fun _ h=>(by cases h),fun _ h=>(by cases h),List.nodup_nil⟩,rfl⟩
 case round =>
  obtain ⟨k,M,hk,rfl,hrow,hz,hM⟩:=hrel
  have hbel:Below w.heap.size w wr:=hrow.out.below
  by_cases hlt:k<n
  ·obtain ⟨B,off,rfl,hB,iL,cs,hr,hv⟩:=hL.out.get hlt
   obtain ⟨⟨b1,b2,b3⟩,rfl,gM,hkey⟩:=hr.out
   simp only at gM hkey hv
   have d0:=(hbel.cell (p:=⟨B,off+k*2+0,none⟩) hB).trans (hv 0 _ rfl)
   have d1:=(hbel.cell (p:=⟨B,off+k*2+1,none⟩) hB).trans (hv 1 _ rfl)
   rw [Nat.add_zero] at d0
   clear hr hv
   generalize hx:L.getD k default=x at gM hkey d0 d1
   have HT:Hid (M.map Prod.fst++[x]=L.take (k+1)):=by rw [Hid,hM.out,<- hx];exact PS (by rw [hlen.out];exact hlt)
   have Cj:Hid (M.length=k):=by have:=congrArg List.length hM.out;rw [List.length_map,List.length_take,hlen.out,Nat.min_eq_left hk] at this;exact this
   obtain ⟨V,hV⟩:∃ V,V=(wr.alloc (.cells #[.slice b1 b2 b3,.string x.2] 105)).alloc (.map #[] 0):=⟨_,rfl⟩
   have Z8:V.heap.size=wr.heap.size+1+1:=by rw [hV];simp
   have SE:Below wr.heap.size wr (V.alloc (.cells #[.slice b1 b2 b3,.string x.2,.map (some (wr.heap.size+1))] 192)):=by rw [hV];go_grown
   have HR:Hid (Row bM 3 A w (V.alloc (.cells #[.slice b1 b2 b3,.string x.2,.map (some (wr.heap.size+1))] 192)) 192 u3 M):=hrow.out.on bM.ae SE
   have HZ:Hid (jA w (V.alloc (.cells #[.slice b1 b2 b3,.string x.2,.map (some (wr.heap.size+1))] 192)) (M++[(x,wr.heap.size+1)])):=by
    have h1:=(hz.out.on (u':=wr.alloc (.cells #[.slice b1 b2 b3,.string x.2] 105)) (fun b _ hb=>((Below.refl _ wr).alloc (Nat.le_refl _) _).block b hb)).snoc (Nat.le_trans hbel.size (by simp)) x
    rw [World.size_alloc] at h1
    rw [<- hV] at h1
    exact h1.on (fun b _ hb=>((Below.refl _ V).alloc (Nat.le_refl _) _).block b hb)
   have gV:Hid (aW bM 3 (fun b=>A b/\u3.ownBlock≠some b) (V.alloc (.cells #[.slice b1 b2 b3,.string x.2,.map (some (wr.heap.size+1))] 192)) [.slice b1 b2 b3,.string x.2,.map (some (wr.heap.size+1))] [(x,wr.heap.size+1)]) :=
    nJ bM.ae (bM.mk (x:=(x,wr.heap.size+1)) (h0:=(b1,b2,b3)) ((gM.on aU.ae (ah hbel SE)).weak aU.ae (fun b _ hb=>⟨hb,fun e=>by have h2:w.heap.size<=b:=(hrow.out.gu e).2.1;have:=hA b hb;omega⟩)) hkey)
   have HX:Hid (∀ j y,([.slice b1 b2 b3,.string x.2,.map (some (wr.heap.size+1))]:List Value)[j]?=some y->(V.alloc (.cells #[.slice b1 b2 b3,.string x.2,.map (some (wr.heap.size+1))] 192)).cell? ((⟨wr.heap.size+1+1,0,none⟩:Addr).add j)=some y):=by have:=nY V [.slice b1 b2 b3,.string x.2,.map (some (wr.heap.size+1))] 192;rw [Z8] at this;exact this
   have HB3:Hid ((M.length+[(x,wr.heap.size+1)].length)*48<=140737488355328):=by rw [Hid,Cj.out];simp;omega
   have HNZ:Hid (∀ v1 w1,(V.alloc (.cells #[.slice b1 b2 b3,.string x.2,.map (some (wr.heap.size+1))] 192)).grownBy w1 u3.ownBlock->Row bM 3 A w w1 192 v1 (M++[(x,wr.heap.size+1)])->jA w w1 (M++[(x,wr.heap.size+1)])):=fun v1 w1 hg _=>HZ.out.on (fun b hb hlt'=>hg.block b hlt' (fun e=>by
    obtain ⟨t,ht,rfl⟩:=List.mem_map.1 hb
    exact (HZ.out.c t ht).map (HR.out.gu e.symm).1))
   have HW:Hid (V.alloc (.cells #[.slice b1 b2 b3,.string x.2,.map (some (wr.heap.size+1))] 192)=((wr.alloc (.cells #[.slice b1 b2 b3,.string x.2] 105)).alloc (.map #[] 0)).alloc (.cells #[.slice b1 b2 b3,.string x.2,.map (some (wr.heap.size+1))] 192)):=by rw [Hid,hV]
   clear hrow hz hM Cj SE hV Z8 HZ gM hL hx hB iL
   go_wp2_with (at_builtin;rw [<- HW.out];go_must (refine mh bM.ae (A:=A) (w0:=w) rfl _ _ 155 192 rfl _ 48 Jt underlying155 rfl (by decide) (by decide) _ _ rfl HR.out ⟨wr.heap.size+1+1,0,none⟩ 1 1 [.slice b1 b2 b3,.string x.2,.map (some (wr.heap.size+1))] [(x,wr.heap.size+1)] rfl rfl gV.out HX.out (by simp [Value.oneCell']) HB3.out ?_);intro v1 w1 fC hg1)
   have WV:Hid (Row bM 3 A w w1 192 v1 (M++[(x,wr.heap.size+1)])):=fC
   have HZ1:=HNZ.out v1 w1 hg1 fC
   clear fC hg1 HR gV HX HB3 HNZ HW
   go_wp2_with fail
   go_roundw
   case rel=>exact ⟨k+1,M++[(x,wr.heap.size+1)],by omega,by go_num,WV,HZ1,by rw [Hid,List.map_append];exact HT.out⟩
   case measure=>simp [intOf];omega
  ·obtain rfl:k=n:=by omega
   have Cj:M.length=k:=by have:=congrArg List.length hM.out;rw [List.length_map,List.length_take,hlen.out,Nat.min_self] at this;exact this
   have hML:M.map Prod.fst=L:=by rw [hM.out];exact List.take_of_length_le (by rw [hlen.out];exact Nat.le_refl _)
   obtain ⟨a',c',rfl,hs⟩:=hrow.out.slN (bytes:=48) bM.ae (by rw [Cj];omega)
   rw [Cj] at hs |-
   have HE:Hid (ag bM 3 48 (fun b=>A b\/(az w b/\jC wr b)) wr a' k c' M/\M.map Prod.fst=L/\jA w wr M/\Below w.heap.size w wr):=⟨hs,hML,hz.out,hbel⟩
   clear hs hML hz hrow hM Cj
   go_wp2_with fail
   go_ret
   exact ⟨a',c',M,rfl,HE.out⟩
end Go.Proofs.YtgikfenllgldoaaGreat
namespace Go.Proofs.YtgikfenllgldoaaGreat
open Go.Proofs.Tryz
open Go.RowKit
def wO (p:aB):List gN:=p.2.2.2.2.1
def yN (p:aB):List Ask:=p.2.2.2.2.2.1
def sF (p:aB):kz:=(aQ (kC p).1,aQ (kC p).2.1,aQ (kC p).2.2)
def Je (i:bC):Bool:=i.1.2.2.2.1
def Jn (p:aB) (i:bC):Bool:=(jw i.1.2.2.1 (wO p)).2
def K9 (p:aB) (i:bC):Bool:=!bE i.1.2.1 (yN p)
def DV (i:bC):Bool:=decide (i.1.2.2.2.2.2.1<=(i.2.1.length:Int))
def abI (p:aB) (i:bC):Bool:=decide ((gB i).1<(sF p).1)
def aaz (p:aB) (i:bC):Bool:=decide ((gB i).2.1<(sF p).2.1)
def abG (p:aB) (i:bC):Bool:=decide ((gB i).2.2<(sF p).2.2)
def Db (p:aB) (i:bC):List (Int×Bool) :=
 [(1,Je i),(2,Jn p i),(3,K9 p i),(4,uV i p),(5,DV i),(6,abI p i),(7,aaz p i),(8,abG p i)]
def yes (l:List (Int×Bool)):List Int:=(l.filter (·.2)).map (·.1)
def IG (p:aB) (i:bC):List Int:=yes (Db p i)
def sD (p:aB) (i:bC):Int:=(IG p i).headD 0
end Go.Proofs.YtgikfenllgldoaaGreat
namespace Go.Proofs.YtgikfenllgldoaaGreat
open Go.Proofs.Tryz
open Go.RowKit Go.Maps
theorem E5 (a b:ByteArray):ay a b=ay b a:=by
 rw [Bool.eq_iff_iff,eZ,eZ]
 exact ⟨Eq.symm,Eq.symm⟩
def qD (key:ByteArray) (N:List aX) (v:ByteArray):Bool:=N.any (fun n=>(getL (jW n) key).2 && ay v (getL (jW n) key).1)
theorem RA (key:ByteArray) (N:List aX) (v:ByteArray):v∈dG key N↔qD key N v=true:=by
 rw [Xh]
 unfold qD
 rw [List.any_eq_true]
 constructor
 ·rintro ⟨n,hn,h1,h2⟩
  exact ⟨n,hn,by rw [h1,Bool.true_and,eZ];exact h2.symm⟩
 ·rintro ⟨n,hn,h⟩
  rw [Bool.and_eq_true,eZ] at h
  exact ⟨n,hn,h.1,h.2.symm⟩
def uU (f:ByteArray->Nat) (g:ByteArray×Bool):ByteArray->Nat:=if g.2=true then Bw f g.1 else f
def uT (q:ByteArray->Bool) (g:ByteArray×Bool):ByteArray->Bool:=if g.2=true then EK q g.1 else q
theorem OW (key:ByteArray) {N:List aX} {k:Nat} (h:k<N.length) (v:ByteArray):uT (qD key (N.take k)) (getL (jW (N.getD k default)) key) v=qD key (N.take (k+1)) v:=by
 unfold qD
 rw [<- LD h,List.any_append]
 generalize N.getD k default=x
 simp only [List.any_cons,List.any_nil,Bool.or_false]
 unfold uT EK
 cases (getL (jW x) key).2 <;> simp
def dF (ig:aB->Bool) (l:List aM):List aM:=l.filter (fun x=>!ig x.1)
theorem Jj (name:ByteArray) (l:List aM):dF (fun p=>ay p.1 name) l=bR name l:=rfl
theorem XR (ig:aB->Bool) {L:List aM} {k:Nat} (h:k<L.length):dF ig (L.take (k+1))=dF ig (L.take k)++(if ig (L.getD k default).1=true then [] else [L.getD k default]):=by
 unfold dF
 rw [<- LD h,List.filter_append]
 generalize L.getD k default=x
 cases hx:ig x.1 <;> simp [hx]
def sI (ig:aB->Bool) (s:cz) (x:aM):Bool:=!ig x.1 && bE (bG x.1) (jk s)
theorem Ps (ig:aB->Bool) (s:cz) {L:List aM} {k:Nat} (h:k<L.length) (hx:sI ig s (L.getD k default)=false) (v:ByteArray):bQ s v (dF ig (L.take k))=bQ s v (dF ig (L.take (k+1))):=by
 rw [XR ig h]
 generalize L.getD k default=x at hx |-
 unfold sI at hx
 cases hi:ig x.1
 ·rw [hi] at hx
  simp only [Bool.not_false,Bool.true_and] at hx
  simp only [Bool.false_eq_true,if_false]
  rw [Xu]
  unfold F6
  rw [hx]
  simp
 ·simp
theorem KD (ig:aB->Bool) (s:cz) {L:List aM} {k:Nat} (h:k<L.length) (hx:sI ig s (L.getD k default)=true) (v:ByteArray):uU (fun v=>bQ s v (dF ig (L.take k))) (getL (L.getD k default).2 s.1) v=bQ s v (dF ig (L.take (k+1))):=by
 rw [XR ig h]
 generalize L.getD k default=x at hx |-
 unfold sI at hx
 rw [Bool.and_eq_true] at hx
 obtain ⟨hi,hm⟩:=hx
 have hi':ig x.1=false:=by simpa using hi
 rw [hi']
 simp only [Bool.false_eq_true,if_false]
 rw [Xu]
 unfold F6 uU Bw
 rw [hm,E5]
 cases (getL x.2 s.1).2 <;> simp
 split <;> rfl
theorem zFs (A:Where) (u:World) {M:List ByteArray} (h:∀ s∈M,s.size<=140737488355328):aW au 1 A u (M.map Value.string) M:=by
 refine ⟨by simp,fun i hi=>⟨[.string (M.getD i default)],⟨rfl,?_⟩,fun j hj=>?_⟩⟩
 ·rw [List.getD_eq_getElem?_getD,List.getElem?_eq_getElem hi]
  exact h _ (List.getElem_mem hi)
 ·obtain rfl:j=0:=by omega
  rw [Nat.mul_one,Nat.add_zero,List.getElem?_map,List.getElem?_eq_getElem hi,List.getD_eq_getElem?_getD,List.getElem?_eq_getElem hi]
  rfl
theorem Kj (M:List ByteArray):(M.map (fun s=>s.data.toList)).map encStr=M.map Value.string:=by
 rw [List.map_map]
 refine List.map_congr_left (fun s _=>?_)
 simp [encStr]
theorem GG {A:Where} {w:World} {a:Option Addr} {n cap:Nat} {N:List aX} (h:ag av 9 112 A w a n cap N) (key:ByteArray):∀ v∈dG key N,v.size<=140737488355328:=by
 intro v hv
 obtain ⟨x,hx,h1,rfl⟩:=(Xh key v N).1 hv
 obtain ⟨i,hi,rfl⟩:=List.getElem_of_mem hx
 have hin:i<n:=by rw [<- h.1];exact hi
 obtain ⟨B,off,_,_,_,cs,hr,_⟩:=h.get hin
 obtain ⟨⟨c1,c2,c3⟩,_,_,_,sl,_⟩:=hr.out
 rw [List.getD_eq_getElem?_getD,List.getElem?_eq_getElem hi] at sl
 exact Qb sl key
theorem Pq (key:ByteArray) (N:List aX):(dG key N).length<=N.length:=Nat.le_trans (Eu _ _ _) (OC key N)
end Go.Proofs.YtgikfenllgldoaaGreat
