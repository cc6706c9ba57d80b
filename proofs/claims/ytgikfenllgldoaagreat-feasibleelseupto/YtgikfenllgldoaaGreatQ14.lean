/- Functions of the program, each walked under the conditions that its theorem names. -/
import Derived.Test.YtgikfenllgldoaaGreatQ11
set_option linter.unusedSimpArgs false
set_option maxRecDepth 100000
set_option maxHeartbeats 32000000
namespace Go.Proofs.YtgikfenllgldoaaGreat
open Go.Proofs.Tryz
open Go.RowKit
def yM (a b:kz):kz:=(dX a.1 b.1,dX a.2.1 b.2.1,dX a.2.2 b.2.2)
def FK (a b:kz):kz:=(jL a.1 b.1,jL a.2.1 b.2.1,jL a.2.2 b.2.2)
def kC (p:aB):kz:=p.2.2.2.1
def iB (p:aB):List Int:=p.2.2.2.2.2.2.2.1
def iH (p:aB):List ByteArray:=p.2.2.2.2.2.2.2.2.2.2.2.1
def aF (p:aB):ByteArray:=p.2.2.2.2.2.2.2.2.2.2.2.2.1
abbrev Eb:=List ByteArray×kz×List Int×List ByteArray
def zu (s:Eb) (p:aB):Eb:=if hasB ay s.1 p.1=true then s else (s.1++[p.1],yM s.2.1 (kC p),s.2.2.1++iB p,s.2.2.2++iH p)
def Cw (n:aX) (s:Eb):bC:=(n,aN dh ay s.1,s.2.1,aN fD dM s.2.2.1,aN dh ay s.2.2.2)
def gB (i:bC):kz:=FK i.1.2.2.2.2.1 i.2.2.1
def uV (i:bC) (p:aB):Bool:=(iB p).any fun q=>hasB dM i.2.2.2.1 q
def bg {α:Type} (f:α->Nat) (L:List α):Nat:=(L.map f).sum
def vH (L:List aB):Prop:=bg (fun p=>(iB p).length) L*8<=140737488351232/\bg (fun p=>(iH p).length) L*16<=140737488351232
theorem Ma {α:Type} (f:α->Nat) (L M:List α):bg f (L++M)=bg f L+bg f M:=by simp [bg]
theorem Yb {α:Type} (f:α->Nat) (L:List α) (k:Nat):bg f (L.take k)<=bg f L:=by
 have:=Ma f (L.take k) (L.drop k)
 rw [List.take_append_drop] at this
 omega
end Go.Proofs.YtgikfenllgldoaaGreat
namespace Go.Proofs.YtgikfenllgldoaaGreat
open Go.Proofs.Tryz
abbrev B0:ByteArray:=⟨#[]⟩
abbrev bH:=ByteArray×ByteArray
abbrev VC:=List aD×List aT
abbrev eH (v:aD):ByteArray:=v.2.2.2.2
abbrev oQ (v:aD):List Ask:=v.2.2.2.1
abbrev jS (c:aT):ByteArray:=c.2.2.2
def qF (c:aT) (s:ByteArray):aT:=(c.1,c.2.1,c.2.2.1,s)
def qG (v:aD) (s:ByteArray):aD:=(v.1,v.2.1,v.2.2.1,v.2.2.2.1,s)
def fI (l:List ByteArray) (nm:ByteArray):Option Nat:=l.findIdx? (fun x=>ay x nm)
abbrev jK (l:List aD):List ByteArray:=l.map Prod.fst
abbrev qh (l:List aT):List ByteArray:=l.map Prod.fst
theorem jl {l:List ByteArray} {nm:ByteArray} {i:Nat} (h:fI l nm=some i):i<l.length/\l.getD i default=nm/\∀ j,j<i->l.getD j default≠nm:=by
 unfold fI at h
 obtain ⟨h1,h2,h3⟩:=List.findIdx?_eq_some_iff_getElem.1 h
 refine ⟨h1,?_,fun j hj e=>?_⟩
 ·rw [List.getD_eq_getElem?_getD,List.getElem?_eq_getElem h1];exact (eZ _ _).1 h2
 ·have hj':j<l.length:=by omega
  rw [List.getD_eq_getElem?_getD,List.getElem?_eq_getElem hj'] at e
  exact h3 j hj ((eZ _ _).2 e)
theorem Pj {l:List ByteArray} {nm:ByteArray} (h:fI l nm=none):nm ∉ l:=by
 unfold fI at h
 rw [List.findIdx?_eq_none_iff] at h
 intro hm
 have:=h nm hm
 rw [(eZ nm nm).2 rfl] at this
 cases this
theorem Wm {l:List ByteArray} {nm:ByteArray} {i:Nat} (h1:i<l.length) (h2:l.getD i default=nm) (h3:∀ j,j<i->l.getD j default≠nm):fI l nm=some i:=by
 unfold fI
 rw [List.findIdx?_eq_some_iff_getElem]
 refine ⟨h1,?_,fun j hj e=>?_⟩
 ·rw [List.getD_eq_getElem?_getD,List.getElem?_eq_getElem h1] at h2;exact (eZ _ _).2 h2
 ·have hj':j<l.length:=by omega
  have:=h3 j hj
  rw [List.getD_eq_getElem?_getD,List.getElem?_eq_getElem hj'] at this
  exact this ((eZ _ _).1 e)
theorem Gy {l:List ByteArray} {nm:ByteArray} (h:nm∈l):∃ i,fI l nm=some i:=by
 cases e:fI l nm with
 | none=>exact absurd h (Pj e)
 | some i=>exact ⟨i,rfl⟩
theorem XJ {α:Type} [Inhabited α] (f:α->ByteArray) (l:List α) (i:Nat) (x:α) (h:f x=f (l.getD i default)) (hi:i<l.length):(l.set i x).map f=l.map f:=by
 rw [List.map_set,h]
 apply List.ext_getElem?
 intro j
 rw [List.getElem?_set]
 by_cases e:i=j
 ·subst e
  rw [List.getD_eq_getElem?_getD,List.getElem?_eq_getElem hi]
  simp [hi]
 ·simp [e]
def tQ (c:aT) (v:aD):Bool:=ay (jS c) B0 && (ay (eH v) B0 && (ay v.2.2.1 c.2.2.1 && !decide (v.2.1<c.2.1)))
def takeA (st:VC) (c v:Nat):VC:=(st.1.set v (qG (st.1.getD v default) (st.2.getD c default).1),st.2.set c (qF (st.2.getD c default) (st.1.getD v default).1))
def stepA (st:VC) (pk:bH):Except Int VC :=
 match fI (qh st.2) pk.1,fI (jK st.1) pk.2 with
 | some c,some v=>if tQ (st.2.getD c default) (st.1.getD v default)=true then .ok (takeA st c v) else .error 2
 | _,_=>.error 5
def applyP:VC->List bH->Except Int VC
 | st,[]=>.ok st
 | st,pk :: r=>match stepA st pk with
  | .ok st'=>applyP st' r
  | .error e=>.error e
theorem BH {a b:ByteArray}:ay a b=false↔a≠b:=by
 rw [<- Bool.not_eq_true,eZ]
abbrev jW (n:aX):List aG:=n.2.1
abbrev fF (p:aB):List cz:=p.2.2.2.2.2.2.2.2.2.2.1
abbrev jk (s:cz):List Ask:=s.2.2.2
def yK (key:ByteArray) (nodes:List aX):List ByteArray:=(nodes.filter (fun n=>(getL (jW n) key).2)).map (fun n=>(getL (jW n) key).1)
def dG (key:ByteArray) (nodes:List aX):List ByteArray:=aN dh ay (yK key nodes)
def F6 (s:cz) (v:ByteArray) (x:aM):Bool:=(getL x.2 s.1).2 && (ay (getL x.2 s.1).1 v && bE (bG x.1) (jk s))
def bQ (s:cz) (v:ByteArray) (l:List aM):Nat:=(l.filter (F6 s v)).length
def uC (c:ByteArray->Nat):List ByteArray->Nat
 | []=>0
 | d :: r=>r.foldl (fun a e=>min a (c e)) (c d)
def mW (P L:List aG) (nodes:List aX) (l:List aM) (s:cz):Bool :=
 !(getL L s.1).2 || decide (s.2.1<((bQ s (getL L s.1).1 l+(if bE P (jk s)=true then 1 else 0):Nat):Int) - (if ((dG s.1 nodes).length:Int)<s.2.2.1 then 0 else (uC (fun v=>bQ s v l) (dG s.1 nodes):Int)))
def nR (why:Int) (p:aB) (L:List aG) (nodes:List aX) (all:List aM):Int:=if (fF p).any (mW (bG p) L nodes (bR p.1 all))=true then why else 0
theorem BU (c:ByteArray->Nat):∀ (r:List ByteArray) (a:Nat),r.foldl (fun a e=>min a (c e)) a<=a/\(∀ e∈r,r.foldl (fun a e=>min a (c e)) a<=c e)/\(r.foldl (fun a e=>min a (c e)) a=a\/∃ e∈r,r.foldl (fun a e=>min a (c e)) a=c e)
 | [],a=>⟨Nat.le_refl _,(fun _ h=>by cases h),.inl rfl⟩
 | e :: r,a=>by
  obtain ⟨h1,h2,h3⟩:=BU c r (min a (c e))
  simp only [List.foldl_cons]
  refine ⟨by omega,fun x hx=>?_,?_⟩
  ·rcases List.mem_cons.1 hx with rfl | hx
   ·omega
   ·exact h2 x hx
  ·rcases h3 with h3 | ⟨x,hx,h3⟩
   ·by_cases hl:a<=c e
    ·left;rw [h3];omega
    ·right;exact ⟨e,List.mem_cons_self,by rw [h3];omega⟩
   ·right;exact ⟨x,List.mem_cons_of_mem _ hx,h3⟩
theorem O1 (c:ByteArray->Nat) {D:List ByteArray} (h:D≠[]):(∀ d∈D,uC c D<=c d)/\∃ d∈D,uC c D=c d:=by
 cases D with
 | nil=>exact absurd rfl h
 | cons d r =>
  obtain ⟨h1,h2,h3⟩:=BU c r (c d)
  refine ⟨fun x hx=>?_,?_⟩
  ·rcases List.mem_cons.1 hx with rfl | hx
   ·exact h1
   ·exact h2 x hx
  ·rcases h3 with h3 | ⟨x,hx,h3⟩
   ·exact ⟨d,List.mem_cons_self,h3⟩
   ·exact ⟨x,List.mem_cons_of_mem _ hx,h3⟩
theorem P8 (s x:ByteArray):∀ L:List ByteArray,x∈insB dh ay L s↔x∈L\/x=s
 | []=>by simp [insB]
 | y :: L=>by
  have ih:=P8 s x L
  unfold insB
  split
  ·simp only [List.mem_cons,ih,or_assoc]
  ·split
   ·rename_i _ he
    have:=(eZ y s).1 he
    subst this
    simp only [List.mem_cons]
    constructor
    ·exact fun h=>.inl h
    ·rintro (h | h)
     ·exact h
     ·exact .inl h
   ·simp only [List.mem_cons]
    constructor
    ·rintro (h | h | h)
     ·exact .inr h
     ·exact .inl (.inl h)
     ·exact .inl (.inr h)
    ·rintro ((h | h) | h)
     ·exact .inr (.inl h)
     ·exact .inr (.inr h)
     ·exact .inl h
theorem XN (x:ByteArray):∀ (L M:List ByteArray),x∈L.foldl (insB dh ay) M↔x∈M\/x∈L
 | [],M=>by simp
 | y :: L,M=>by
  rw [List.foldl_cons,XN x L,P8]
  simp only [List.mem_cons,or_assoc]
theorem XL (x:ByteArray) (L:List ByteArray):x∈aN dh ay L↔x∈L:=by
 unfold aN;rw [XN];simp
abbrev uX (L:List ByteArray):Prop:=L.Pairwise (fun a b=>dh a b=true)
theorem OL {a b:ByteArray} (h1:¬ dh a b=true) (h2:¬ ay a b=true):dh b a=true:=by
 rw [uh] at *
 rcases Ed a.data.toList b.data.toList with ⟨h,h'⟩ | ⟨h,h'⟩ | ⟨h,h'⟩
 ·exact absurd h h1
 ·exact absurd ((eZ a b).2 (by obtain ⟨⟨a⟩⟩:=a;obtain ⟨⟨b⟩⟩:=b;simp_all)) h2
 ·exact h'
theorem Xc (s:ByteArray):∀ L:List ByteArray,uX L->uX (insB dh ay L s)
 | [],_=>by simp [insB]
 | y :: L,h=>by
  obtain ⟨h1,h2⟩:=List.pairwise_cons.1 h
  unfold insB
  split
  ·rename_i hl
   refine List.pairwise_cons.2 ⟨fun x hx=>?_,Xc s L h2⟩
   rcases (P8 s x L).1 hx with hx | rfl
   ·exact h1 x hx
   ·exact hl
  ·split
   ·exact h
   ·rename_i hl he
    have hy:=OL hl he
    refine List.pairwise_cons.2 ⟨fun x hx=>?_,h⟩
    rcases List.mem_cons.1 hx with rfl | hx
    ·exact hy
    ·exact XE hy (h1 x hx)
theorem XC:∀ (L M:List ByteArray),uX M->uX (L.foldl (insB dh ay) M)
 | [],_,h=>h
 | y :: L,M,h=>XC L _ (Xc y M h)
theorem XB (L:List ByteArray):uX (aN dh ay L):=XC L [] List.Pairwise.nil
theorem BF (a:ByteArray):¬ dh a a=true:=fun h=>by have:=ET h;rw [h] at this;cases this
theorem Xh (key v:ByteArray) (nodes:List aX):v∈dG key nodes↔∃ n∈nodes,(getL (jW n) key).2=true/\(getL (jW n) key).1=v:=by
 unfold dG yK
 rw [XL,List.mem_map]
 constructor
 ·rintro ⟨n,hn,e⟩
  obtain ⟨h1,h2⟩:=List.mem_filter.1 hn
  exact ⟨n,h1,h2,e⟩
 ·rintro ⟨n,h1,h2,e⟩
  exact ⟨n,List.mem_filter.2 ⟨h1,h2⟩,e⟩
theorem Xu (s:cz) (v:ByteArray) (l:List aM) (x:aM):bQ s v (l++[x])=bQ s v l+(if F6 s v x=true then 1 else 0):=by
 unfold bQ
 rw [List.filter_append,List.length_append]
 cases h:F6 s v x <;> simp [h]
end Go.Proofs.YtgikfenllgldoaaGreat
