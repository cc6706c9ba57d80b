/- Functions of the program, each walked under the conditions that its theorem names. -/
import Derived.Laws.MakeOwn
import Derived.Test.YtgikfenllgldoaaGreatQ22
import Derived.Test.YtgikfenllgldoaaGreatQ21
set_option linter.unusedSimpArgs false
set_option maxRecDepth 100000
set_option maxHeartbeats 32000000
namespace Go.Proofs.YtgikfenllgldoaaGreat
open Go.Proofs.Tryz
open Go.RowKit Go.Maps
def bK {α:Type} [Inhabited α] (f:α->ByteArray) (L:List α):List α:=(dN (L.map f)).map (fun k=>L.getD k default)
theorem LH {α:Type} [Inhabited α] (f:α->ByteArray) (L:List α):(bK f L).length=(dN (L.map f)).length:=by unfold bK;rw [List.length_map]
theorem El {α:Type} [Inhabited α] (f:α->ByteArray) (L:List α):(bK f L).length<=L.length:=by have:=L9 (L.map f);rw [LH];rwa [List.length_map] at this
theorem Cu {α:Type} [Inhabited α] (f:α->ByteArray) {L:List α} {k:Nat} (h:k<(dN (L.map f)).length):(dN (L.map f)).getD k default<L.length/\(bK f L).take (k+1)=(bK f L).take k++[L.getD ((dN (L.map f)).getD k default) default]/\(iU (L.map f)).getD k default=(((dN (L.map f)).getD k default:Nat):Int):=by
 have hm:(dN (L.map f)).getD k default∈dN (L.map f):=by rw [List.getD_eq_getElem?_getD,List.getElem?_eq_getElem h];exact List.getElem_mem h
 obtain ⟨s,hs⟩:=(pE _ _).1 hm
 have h1:=(jl hs).1
 rw [List.length_map] at h1
 refine ⟨h1,?_,?_⟩
 ·have h2:k<(bK f L).length:=by rw [LH];exact h
  have e:(bK f L)[k]?=some (L.getD ((dN (L.map f)).getD k default) default):=by
   unfold bK
   rw [List.getElem?_map,List.getD_eq_getElem?_getD (l:=dN (L.map f)),List.getElem?_eq_getElem h]
   rfl
  rw [List.take_add_one,e]
  rfl
 ·unfold iU
  rw [List.getD_eq_getElem?_getD,List.getElem?_map,List.getD_eq_getElem?_getD,List.getElem?_eq_getElem h]
  rfl
theorem PI {α:Type} [Inhabited α] (f:α->ByteArray) (L:List α) (nm:ByteArray):(fI (L.map f) nm=none/\fI ((bK f L).map f) nm=none)\/∃ i j,fI (L.map f) nm=some i/\fI ((bK f L).map f) nm=some j/\(bK f L).getD j default=L.getD i default:=by
 have hmem:∀ x,x∈bK f L->∃ s i,fI (L.map f) s=some i/\x=L.getD i default/\f x=s:=fun x hx=>by
  unfold bK at hx
  obtain ⟨i,hi,rfl⟩:=List.mem_map.1 hx
  obtain ⟨s,hs⟩:=(pE _ _).1 hi
  have h2:=jl hs
  have h1:=h2.1
  rw [List.length_map] at h1
  refine ⟨s,i,hs,rfl,?_⟩
  have h3:=h2.2.1
  rw [List.getD_eq_getElem?_getD,List.getElem?_map,List.getElem?_eq_getElem h1] at h3
  rw [List.getD_eq_getElem?_getD,List.getElem?_eq_getElem h1]
  exact h3
 cases e:fI (L.map f) nm with
 | none =>
  refine .inl ⟨rfl,?_⟩
  cases e2:fI ((bK f L).map f) nm with
  | none=>rfl
  | some j =>
   exfalso
   have h2:=jl e2
   have h1:=h2.1
   rw [List.length_map] at h1
   have hx:(bK f L).getD j default∈bK f L:=by rw [List.getD_eq_getElem?_getD,List.getElem?_eq_getElem h1];exact List.getElem_mem h1
   obtain ⟨s,i,hs,_,hf⟩:=hmem _ hx
   have h3:=h2.2.1
   rw [List.getD_eq_getElem?_getD,List.getElem?_map,List.getElem?_eq_getElem h1] at h3
   rw [List.getD_eq_getElem?_getD,List.getElem?_eq_getElem h1] at hf
   have h4:s=nm:=hf.symm.trans h3
   rw [h4,e] at hs
   cases hs
 | some i =>
  have hin:L.getD i default∈bK f L:=by
   unfold bK
   exact List.mem_map.2 ⟨i,(pE _ _).2 ⟨nm,e⟩,rfl⟩
  have hfn:f (L.getD i default)=nm:=by
   have h2:=jl e
   have h1:=h2.1
   rw [List.length_map] at h1
   have h3:=h2.2.1
   rw [List.getD_eq_getElem?_getD,List.getElem?_map,List.getElem?_eq_getElem h1] at h3
   rw [List.getD_eq_getElem?_getD,List.getElem?_eq_getElem h1]
   exact h3
  obtain ⟨j,hj⟩:=Gy (l:=(bK f L).map f) (nm:=nm) (List.mem_map.2 ⟨_,hin,hfn⟩)
  refine .inr ⟨i,j,rfl,hj,?_⟩
  have h2:=jl hj
  have h1:=h2.1
  rw [List.length_map] at h1
  have hx:(bK f L).getD j default∈bK f L:=by rw [List.getD_eq_getElem?_getD,List.getElem?_eq_getElem h1];exact List.getElem_mem h1
  obtain ⟨s,i',hs,he,hf⟩:=hmem _ hx
  have h3:=h2.2.1
  rw [List.getD_eq_getElem?_getD,List.getElem?_map,List.getElem?_eq_getElem h1] at h3
  have h4:s=nm:=by
   rw [<- hf,List.getD_eq_getElem?_getD,List.getElem?_eq_getElem h1]
   exact h3
  rw [h4,e] at hs
  injection hs with hs
  rw [he,hs]
theorem zGz {α:Type} [Inhabited α] (f:α->ByteArray) (L:List α):((bK f L).map f).Nodup:=by
 unfold bK
 rw [List.map_map]
 refine List.pairwise_map.2 ((LY (L.map f)).imp_of_mem fun {a b} ha hb hab e=>?_)
 obtain ⟨sa,ea⟩:=(pE (L.map f) a).1 ha
 obtain ⟨sb,eb⟩:=(pE (L.map f) b).1 hb
 have ha2:=jl ea
 have hb2:=jl eb
 have ha1:=ha2.1
 have hb1:=hb2.1
 rw [List.length_map] at ha1 hb1
 have Z4:=ha2.2.1
 have hb3:=hb2.2.1
 rw [List.getD_eq_getElem?_getD,List.getElem?_map,List.getElem?_eq_getElem ha1] at Z4
 rw [List.getD_eq_getElem?_getD,List.getElem?_map,List.getElem?_eq_getElem hb1] at hb3
 simp only [Function.comp,List.getD_eq_getElem?_getD,List.getElem?_eq_getElem ha1,List.getElem?_eq_getElem hb1,Option.getD_some] at e
 have e2:sa=sb:=Z4.symm.trans (e.trans hb3)
 rw [e2,eb] at ea
 injection ea with ea
 omega
theorem aV.len {w:World} {mb:Nat} {N:List ByteArray} (h:aV w mb N) (ty:TypeId):(Builtin.len_ #[119] ty #[.map (some mb)]).run prog w=.ok (.int .i64 ((dN N).length:Int)) w:=by
 obtain ⟨D,h1,h2,_⟩:=h.values
 have:=h1.len underlying119 ty
 rw [h2] at this
 exact this
section
variable {α:Type} [Inhabited α] {R:bI α} {k:Nat}
theorem P6 (hR:aJ R k) {A:Where} {u:World} {B:Nat} {cs:List Value} {x:α} (hb:af u B cs) (hr:R A u cs x):Src R k A u (some ⟨B,0,none⟩) 1 [x]:=by
 refine ⟨rfl,.inr ⟨⟨B,0,none⟩,cs,rfl,⟨by rw [hR.len hr];simp,fun i hi=>?_⟩,fun j y hj=>?_,hR.one hr⟩⟩
 ·obtain rfl:i=0:=by simpa using hi
  exact ⟨cs,hr,fun j _=>by rw [Nat.zero_mul,Nat.zero_add]⟩
 ·have:=(hb.2 j y hj).1
  by_cases h0:j=0
  ·subst h0;simpa [Addr.add] using this
  ·simpa [Addr.add,h0] using this
def Beside (R:bI α) (k:Nat) (A:Where) (w u:World) (e:TypeId) (v s:Value) (L:List α) (Z:List Int):Prop :=
 Row R k A w u e v L/\Row aC 1 (fun _=>False) w u 3 s Z/\∀ b,v.ownBlock=some b->s.ownBlock≠some b
theorem Beside.below {A:Where} {w u:World} {e:TypeId} {v s:Value} {L:List α} {Z:List Int} (h:Beside R k A w u e v s L Z):Below w.heap.size w u:=h.1.below
theorem Beside.on (hR:aJ R k) {A:Where} {w u u':World} {e:TypeId} {v s:Value} {L:List α} {Z:List Int} (h:Beside R k A w u e v s L Z) (hb:Below u.heap.size u u'):Beside R k A w u' e v s L Z:=⟨h.1.on hR hb,h.2.1.on aC.ae hb,h.2.2⟩
theorem Beside.app {A:Where} {w u u':World} {e:TypeId} {v v' s:Value} {L L':List α} {Z:List Int} (h:Beside R k A w u e v s L Z) (hr:Row R k A w u' e v' L') (hg:u.grownBy u' v.ownBlock) (hw:v'.ownBlock=v.ownBlock\/v'.ownBlock=some u.heap.size):Beside R k A w u' e v' s L' Z:=by
 obtain ⟨h1,h2,h3⟩:=h
 refine ⟨hr,h2.grown aC.ae hg (fun b hb=>⟨(h1.lt hb).1,h3 b hb,id⟩),fun b hb=>?_⟩
 rcases hw with hw | hw
 ·exact h3 b (hw ▸ hb)
 ·rw [hw] at hb
  injection hb with hb
  subst hb
  exact fun e=>by have:=(h2.lt e).2;omega
end
def AR {α:Type} [Inhabited α] (R:bI α) (k:Nat) (A:Where) (ty:TypeId) (w:World) (L:List α) (e:Ending) (w':World):Prop:=∃ v,e=.returned v/\Row R k A w w' ty v L
theorem ai.kE {A:Where} {w:World} {cs:List Value} {v:aD} (h:ai A w cs v):cs[0]?=some (.string v.1)/\cs[1]?=some (.int .i64 v.2.1)/\cs[2]?=some (.string v.2.2.1)/\(∃ h3:Hd,cs[3]?=some (.slice h3.1 h3.2.1 h3.2.2)/\ag aU 3 48 A w h3.1 h3.2.1 h3.2.2 (oQ v))/\cs[4]?=some (.string (eH v)):=by
 obtain ⟨⟨a,b,c⟩,rfl,_,_,h4,_⟩:=h.out
 exact ⟨rfl,rfl,rfl,⟨(a,b,c),rfl,h4⟩,rfl⟩
theorem aA.kE {A:Where} {w:World} {cs:List Value} {c:aT} (h:aA A w cs c):cs[0]?=some (.string c.1)/\cs[1]?=some (.int .i64 c.2.1)/\cs[2]?=some (.string c.2.2.1)/\cs[3]?=some (.string (jS c))/\c.1.size<=140737488355328/\c.2.2.1.size<=140737488355328/\(jS c).size<=140737488355328:=by
 obtain ⟨rfl,h1,h2,h3⟩:=h.out
 exact ⟨rfl,rfl,rfl,rfl,h1,h2,h3⟩
theorem YS (cs:List Value) (A:Where) (v:aD) (w:World) (h:ai A w cs v):Calls prog 65 #[.agg cs.toArray] w fun e w'=>e=.returned (.bool (ay (eH v) B0))/\Below w.heap.size w w':=by
 obtain ⟨W1,hW1⟩:∃ W,W=w.alloc (.cells cs.toArray 59):=⟨_,rfl⟩
 have B1:Below w.heap.size w W1:=by rw [hW1];go_grown
 have c4:W1.cell? ⟨w.heap.size,4,none⟩=some (.string (eH v)):=by rw [hW1];exact ((af.new w 59 cs).2 4 _ h.kE.2.2.2.2).1
 clear h
 generalize eH v=s at c4
 have hq:s.toList.isEmpty=ay s B0:=Dq s
 generalize ay s B0=b at hq
 go_enter func65,ntmps65
 go_upto_region 1 with fail
 rw [<- hW1]
 clear hW1
 go_wp2_with fail
 go_ret
 exact ⟨by simp [hq],B1⟩
theorem Ze (cs:List Value) (A:Where) (c:aT) (w:World) (h:aA A w cs c):Calls prog 64 #[.agg cs.toArray] w fun e w'=>e=.returned (.bool (!ay (jS c) B0))/\Below w.heap.size w w':=by
 obtain ⟨W1,hW1⟩:∃ W,W=w.alloc (.cells cs.toArray 124):=⟨_,rfl⟩
 have B1:Below w.heap.size w W1:=by rw [hW1];go_grown
 have c4:W1.cell? ⟨w.heap.size,3,none⟩=some (.string (jS c)):=by rw [hW1];exact ((af.new w 124 cs).2 3 _ h.kE.2.2.2.1).1
 clear h
 generalize jS c=s at c4
 have hq:s.toList.isEmpty=ay s B0:=Dq s
 generalize ay s B0=b at hq
 go_enter func64,ntmps64
 go_upto_region 1 with fail
 rw [<- hW1]
 clear hW1
 go_wp2_with fail
 go_ret
 exact ⟨by simp [hq],B1⟩
theorem Yw (vs:List Value) (A:Where) (v:aD) (cs:List Value) (A':Where) (c:aT) (w:World) (h:ai A w vs v) (hc:aA A' w cs c):Calls prog 66 #[.agg vs.toArray,.agg cs.toArray] w fun e w'=>e=.returned (.bool (jH c v))/\Below w.heap.size w w':=by
 obtain ⟨W1,hW1⟩:∃ W,W=(w.alloc (.cells vs.toArray 59)).alloc (.cells cs.toArray 124):=⟨_,rfl⟩
 have B1:Below w.heap.size w W1:=by rw [hW1];go_grown
 have q1:af W1 w.heap.size vs:=by rw [hW1];exact (af.new w 59 vs).on ((Below.refl _ _).alloc (Nat.le_refl _) _)
 have q2:af W1 (w.heap.size+1) cs:=by rw [hW1];have:=af.new (w.alloc (.cells vs.toArray 59)) 124 cs;simpa using this
 obtain ⟨_,v1,v2,_,_⟩:=h.kE
 obtain ⟨_,c1,c2,_,_⟩:=hc.kE
 have d1:=(q1.2 1 _ v1).1
 have d2:=(q1.2 2 _ v2).1
 have e1:=(q2.2 1 _ c1).1
 have e2:=(q2.2 2 _ c2).1
 have hS:Hid (jH c v=(ay v.2.2.1 c.2.2.1 && decide (c.2.1<=v.2.1))):=rfl
 clear h hc q1 q2 v1 v2 c1 c2
 generalize jH c v=r at hS
 generalize v.2.2.1=s at d2 hS
 generalize c.2.2.1=t at e2 hS
 generalize v.2.1=x at d1 hS
 generalize c.2.1=y at e1 hS
 have hq:(s.toList == t.toList)=ay s t:=rfl
 cases hb:ay s t
 ·rw [hb] at hq hS
  obtain rfl:r=false:=by simpa using hS.out
  go_enter func66,ntmps66
  go_upto_region 1 with fail
  rw [<- hW1]
  clear hW1
  go_wp2_with fail
  go_ret
  exact ⟨rfl,B1⟩
 ·rw [hb] at hq hS
  have hr:r=decide (y<=x):=by simpa using hS.out
  clear hS
  go_enter func66,ntmps66
  go_upto_region 1 with fail
  rw [<- hW1]
  clear hW1
  go_wp2_with fail
  go_ret
  exact ⟨by rw [hr];rfl,B1⟩
def pAt (k:Nat):Option Addr->Option Nat->Option Addr
 | some ⟨B,off,p⟩,some i=>some ⟨B,off+i*k,p⟩
 | _,_=>none
theorem Za (a:Option Addr) (n cap:Nat) (A:Where) (L:List aT) (mb:Nat) (s:ByteArray) (w:World) (hL:Hid (ag aA 4 56 A w a n cap L)) (hm:Hid (aV w mb (L.map Prod.fst))) (hs:s.size<=140737488355328) :
  Calls prog 61 #[.agg #[.slice a n cap,.map (some mb)],.string s] w fun e w'=>e=.returned (.pointer (pAt 4 a (fI (L.map Prod.fst) s)))/\Below w.heap.size w w':=by
 obtain ⟨W1,hW1⟩:∃ W,W=w.alloc (.cells #[.slice a n cap,.map (some mb)] 121):=⟨_,rfl⟩
 have B1:Below w.heap.size w W1:=by rw [hW1];go_grown
 have q1:af W1 w.heap.size [.slice a n cap,.map (some mb)]:=by rw [hW1];exact af.new w 121 _
 have c0:=(q1.2 0 _ rfl).1
 have c1:=(q1.2 1 _ rfl).1
 have hlk:=(hm.out.on B1).look 119 underlying119 hs
 have hnl:Hid (L.length=n):=hL.out.1
 have hlen:=hL.out.len (by decide)
 have HB:Hid (Below w.heap.size w W1):=B1
 cases hf:fI (L.map Prod.fst) s with
 | none =>
  rw [hf] at hlk
  simp only [Option.isSome_none,Option.getD_none] at hlk
  clear hL hm q1 B1
  go_enter func61,ntmps61
  go_upto_region 1 with fail
  rw [<- hW1]
  clear hW1
  go_wp2_with fail
  go_ret
  exact ⟨by cases a <;> rfl,HB.out⟩
 | some i =>
  rw [hf] at hlk
  simp only [Option.isSome_some,Option.getD_some] at hlk
  have hi:=(jl hf).1
  rw [List.length_map,hnl.out] at hi
  have hiz:(i:Int)<(n:Int):=by omega
  obtain ⟨B,off,rfl,_⟩:=hL.out.get hi
  clear hL hm q1 B1
  go_enter func61,ntmps61
  go_upto_region 1 with fail
  rw [<- hW1]
  clear hW1
  go_wp2_with fail
  go_ret
  exact ⟨rfl,HB.out⟩
theorem Zf (a:Option Addr) (n cap:Nat) (A:Where) (L:List aD) (mb:Nat) (s:ByteArray) (w:World) (hL:Hid (ag ai 5 72 A w a n cap L)) (hm:Hid (aV w mb (L.map Prod.fst))) (hs:s.size<=140737488355328) :
  Calls prog 62 #[.agg #[.slice a n cap,.map (some mb)],.string s] w fun e w'=>e=.returned (.pointer (pAt 5 a (fI (L.map Prod.fst) s)))/\Below w.heap.size w w':=by
 obtain ⟨W1,hW1⟩:∃ W,W=w.alloc (.cells #[.slice a n cap,.map (some mb)] 127):=⟨_,rfl⟩
 have B1:Below w.heap.size w W1:=by rw [hW1];go_grown
 have q1:af W1 w.heap.size [.slice a n cap,.map (some mb)]:=by rw [hW1];exact af.new w 127 _
 have c0:=(q1.2 0 _ rfl).1
 have c1:=(q1.2 1 _ rfl).1
 have hlk:=(hm.out.on B1).look 119 underlying119 hs
 have hnl:Hid (L.length=n):=hL.out.1
 have hlen:=hL.out.len (by decide)
 have HB:Hid (Below w.heap.size w W1):=B1
 cases hf:fI (L.map Prod.fst) s with
 | none =>
  rw [hf] at hlk
  simp only [Option.isSome_none,Option.getD_none] at hlk
  clear hL hm q1 B1
  go_enter func62,ntmps62
  go_upto_region 1 with fail
  rw [<- hW1]
  clear hW1
  go_wp2_with fail
  go_ret
  exact ⟨by cases a <;> rfl,HB.out⟩
 | some i =>
  rw [hf] at hlk
  simp only [Option.isSome_some,Option.getD_some] at hlk
  have hi:=(jl hf).1
  rw [List.length_map,hnl.out] at hi
  have hiz:(i:Int)<(n:Int):=by omega
  obtain ⟨B,off,rfl,_⟩:=hL.out.get hi
  clear hL hm q1 B1
  go_enter func62,ntmps62
  go_upto_region 1 with fail
  rw [<- hW1]
  clear hW1
  go_wp2_with fail
  go_ret
  exact ⟨rfl,HB.out⟩
theorem zD8 (a:Option Addr) (n cap:Nat) (A:Where) (L:List dI) (mb:Nat) (s:ByteArray) (w:World) (hL:Hid (ag aH 2 24 A w a n cap L)) (hm:Hid (aV w mb (L.map Prod.fst))) (hs:s.size<=140737488355328) :
  Calls prog 141 #[.agg #[.slice a n cap,.map (some mb)],.string s] w fun e w'=>e=.returned (.pointer (pAt 2 a (fI (L.map Prod.fst) s)))/\Below w.heap.size w w':=by
 obtain ⟨W1,hW1⟩:∃ W,W=w.alloc (.cells #[.slice a n cap,.map (some mb)] 168):=⟨_,rfl⟩
 have B1:Below w.heap.size w W1:=by rw [hW1];go_grown
 have q1:af W1 w.heap.size [.slice a n cap,.map (some mb)]:=by rw [hW1];exact af.new w 168 _
 have c0:=(q1.2 0 _ rfl).1
 have c1:=(q1.2 1 _ rfl).1
 have hlk:=(hm.out.on B1).look 119 underlying119 hs
 have hnl:Hid (L.length=n):=hL.out.1
 have hlen:=hL.out.len (by decide)
 have HB:Hid (Below w.heap.size w W1):=B1
 cases hf:fI (L.map Prod.fst) s with
 | none =>
  rw [hf] at hlk
  simp only [Option.isSome_none,Option.getD_none] at hlk
  clear hL hm q1 B1
  go_enter func141,ntmps141
  go_upto_region 1 with fail
  rw [<- hW1]
  clear hW1
  go_wp2_with fail
  go_ret
  exact ⟨by cases a <;> rfl,HB.out⟩
 | some i =>
  rw [hf] at hlk
  simp only [Option.isSome_some,Option.getD_some] at hlk
  have hi:=(jl hf).1
  rw [List.length_map,hnl.out] at hi
  have hiz:(i:Int)<(n:Int):=by omega
  obtain ⟨B,off,rfl,_⟩:=hL.out.get hi
  clear hL hm q1 B1
  go_enter func141,ntmps141
  go_upto_region 1 with fail
  rw [<- hW1]
  clear hW1
  go_wp2_with fail
  go_ret
  exact ⟨rfl,HB.out⟩
theorem FH (s:ByteArray) (w:World):Calls prog 118 #[.string s] w fun e w'=>e=.returned (.string s)/\w'=w:=by
 go_enter func118,ntmps118
 go_wp2_with fail
 go_ret
 exact ⟨rfl,rfl⟩
theorem zHl (a:Option Addr) (n cap:Nat) (A:Where) (L:List ByteArray) (w:World) (hL:Hid (ag au 1 8 A w a n cap L)) :
  Calls prog 116 #[.slice a n cap,.func (.func 118) #[] #[]] w (wY w (.slice a n cap) (L.map id)):=by
 have hnl:Hid (L.length=n):=hL.out.1
 have hbn:Hid (n*8<=140737488351232):=hL.out.2.2.2.1
 have hlen:=hL.out.len (by decide)
 have HU:Hid (∀ u,Below w.heap.size w u->ag au 1 8 A u a n cap L):=fun u hb=>hL.out.on au.ae hb
 clear hL
 obtain ⟨W1,hW1⟩:∃ W,W=w.alloc (.cells #[.slice none 0 0,.map none] 205):=⟨_,rfl⟩
 have B1:Below w.heap.size w W1:=by rw [hW1];go_grown
 have hz1:W1.heap.size=w.heap.size+1:=by rw [hW1];simp
 have q1:af W1 w.heap.size [.slice none 0 0,.map none]:=by rw [hW1];exact af.new w 205 _
 obtain ⟨W2,hW2⟩:∃ W,W=W1.alloc (.map #[] 0):=⟨_,rfl⟩
 have B2:Below W1.heap.size W1 W2:=by rw [hW2];go_grown
 have m2:aV W2 (w.heap.size+1) ((L.map id).take 0):=by rw [hW2,<- hz1];exact aV.made W1
 have HI:Hid (aV W2 (w.heap.size+1) ((L.map id).take 0)/\af W2 w.heap.size [.slice none 0 0,.map none]/\Below w.heap.size w W2):=⟨m2,q1.on B2,ah B1 B2⟩
 have hmm:=EG
 have HZ:Hid (W1.heap.size=w.heap.size+1):=hz1
 clear B1 q1 B2 m2 hz1
 have eg:=enters_of func118 (by kernel_rfl) rfl
 go_enter func116,ntmps116
 go_upto_region 1 with fail
 rw [<- hW1]
 clear hW1
 go_upto_region 2 with fail
 rw [<- hW2]
 clear hW2
 rw [HZ.out]
 clear hmm HZ
 go_wp2_with fail
 go_loopw [15] (fun i wr=>∃ k:Nat,k<=n/\i=.int .i64 k/\Hid (aV wr (w.heap.size+1) ((L.map id).take k)/\af wr w.heap.size [.slice none 0 0,.map none]/\Below w.heap.size w wr)) (fun i _=>n - (intOf i).toNat)
 case atStart=>exact ⟨0,Nat.zero_le _,rfl,HI⟩
 case round =>
  obtain ⟨k,hk,rfl,hrun⟩:=hrel
  obtain ⟨hm,hq,hbw⟩:=hrun.out
  clear hrun HI
  by_cases hlt:k<n
  ·have hltz:(k:Int)<(n:Int):=by omega
   have hkl:k<L.length:=by rw [hnl.out];exact hlt
   obtain ⟨B,off,rfl,hB,iL,xs,hr,hv⟩:=(HU.out wr hbw).get hlt
   obtain ⟨rfl,hsz⟩:=hr
   have d0:=hv 0 _ rfl
   rw [Nat.mul_one,Nat.add_zero] at d0
   have HT:Hid ((L.map id).take (k+1)=(L.map id).take k++[L.getD k default]):=EB id hkl
   have HL:Hid (((L.map id).take k).length=k):=by rw [Hid,List.length_take,List.length_map];omega
   have hlk:=hm.look 119 underlying119 hsz
   have hC:=FH (L.getD k default) wr
   clear hv hB iL
   generalize (L.getD k default)=x at hC hsz HT d0 hlk
   generalize (L.map id).take k=N at HT HL hm hlk
   go_wp2_with fail
   refine hC.mono ?_
   rintro e w6 ⟨rfl,rfl⟩
   cases hf:fI N x with
   | some j =>
    rw [hf] at hlk
    have ji:Hid (aV w6 (w.heap.size+1) ((L.map id).take (k+1))/\af w6 w.heap.size [.slice none 0 0,.map none]/\Below w.heap.size w w6):=⟨by rw [HT.out];exact hm.more hf,hq,hbw⟩
    simp only [Option.isSome_some,Option.getD_some] at hlk
    clear hm hq hbw HT HL hf hC
    go_wp2_with fail
    go_roundw
    case rel=>exact ⟨k+1,by omega,by go_num,ji⟩
    case measure=>simp [intOf];omega
   | none =>
    rw [hf] at hlk
    simp only [Option.isSome_none,Option.getD_none] at hlk
    go_wp2_with fail
    refine hC.mono ?_
    rintro e w7 ⟨rfl,rfl⟩
    obtain ⟨w8,hup,uy,mH⟩:=hm.put 119 underlying119 hsz hf (by have h1:=hbn.out;have h2:=HL.out;omega)
    have ji:Hid (aV w8 (w.heap.size+1) ((L.map id).take (k+1))/\af w8 w.heap.size [.slice none 0 0,.map none]/\Below w.heap.size w w8):=⟨by rw [HT.out];exact uy,hq.vD mH (by omega),Mc hbw mH (by omega)⟩
    rw [HL.out] at hup
    clear hm hq hbw uy mH HT HL hf hC hlk
    go_wp2_with fail
    go_roundw
    case rel=>exact ⟨k+1,by omega,by go_num,ji⟩
    case measure=>simp [intOf];omega
  ·have htk:(L.map id).take k=L.map id:=List.take_of_length_le (by rw [List.length_map,hnl.out];omega)
   rw [htk] at hm
   obtain ⟨V,hV⟩:∃ V,V=wr.setCells w.heap.size 0 [.slice a n cap,.map (some (w.heap.size+1))]:=⟨_,rfl⟩
   have eP:Hid (wr.there w.heap.size 0 (#[.slice a n cap,.map (some (w.heap.size+1))]:Array Value).size):=hq.there
   have fA:Hid (V=wr.setCells w.heap.size 0 (#[.slice a n cap,.map (some (w.heap.size+1))]:Array Value).toList):=by rw [Hid,hV]
   have mO:Hid ((#[.slice a n cap,.map (some (w.heap.size+1))]:Array Value).all (·.oneCell')=true):=by rw [Hid];simp [Value.oneCell']
   have kV:Kept (fun b=>b≠w.heap.size) wr V:=by rw [hV];exact dP (fun h=>h rfl)
   have qV:af V w.heap.size [.slice a n cap,.map (some (w.heap.size+1))]:=by rw [hV];exact dL hq rfl
   have tC:Hid (aV V (w.heap.size+1) (L.map id)/\w.heap.size<=w.heap.size+1/\Below w.heap.size w V):=⟨hm.kept kV (by omega),by omega,by rw [hV];exact cu hbw (by omega)⟩
   have t0:=(qV.2 0 _ rfl).1
   have t1:=(qV.2 1 _ rfl).1
   have wm:(prog.info? 205).map (·.size)=some (#[.slice a n cap,.map (some (w.heap.size+1))]:Array Value).size:=by kernel_rfl
   clear hm hq hbw htk kV qV hV HU
   go_wp2_with (first | (refine wpList_store_mid rfl 205 _ _ rfl w.heap.size 0 #[.slice a n cap,.map (some (w.heap.size+1))] rfl rfl eP.out wm mO.out ?_;refine kF fA.out ?_) | fail)
   refine bodyPost_ret (v:=.agg #[.slice a n cap,.map (some (w.heap.size+1))]) (by simp [results,Tryz.results116,go_sem,t0,t1,Result.andThen]) rfl ?_
   exact ⟨_,rfl,by have h9:=tC.out;rw [List.map_id] at h9;exact h9⟩
end Go.Proofs.YtgikfenllgldoaaGreat
