/- Functions of the program, each walked under the conditions that its theorem names. -/
import Derived.Deep.CutBlock
import Derived.BigQuiet
import Derived.Deep.QuietTactic
import Derived.Test.YtgikfenllgldoaaGreatQ16
import Derived.Test.YtgikfenllgldoaaGreatQ12
set_option linter.unusedSimpArgs false
set_option maxRecDepth 100000
set_option maxHeartbeats 32000000
namespace Go.Proofs.YtgikfenllgldoaaGreat
open Go.Proofs.Tryz
open Go.RowKit
theorem TE {l:List ByteArray} {nm:ByteArray} (h:∀ j,j<l.length->l.getD j default≠nm):fI l nm=none:=by
 cases e:fI l nm with
 | none=>rfl
 | some i=>obtain ⟨h1,h2,_⟩:=jl e;exact absurd h2 (h i h1)
abbrev gL (x:aP):List aD:=x.2.2.1
abbrev iR (x:aP):List aT:=x.2.2.2.1
abbrev tN (x:aP):List dI:=x.2.2.2.2.1
end Go.Proofs.YtgikfenllgldoaaGreat
namespace Go.Proofs.YtgikfenllgldoaaGreat
open Go.Proofs.Tryz
theorem Vb {a b:ByteArray} (h1:dh a b=false) (h2:dh b a=false):a=b:=by
 rw [Ev] at h1 h2
 rcases Ed a.data.toList b.data.toList with ⟨p,_⟩ | ⟨_,e⟩ | ⟨_,p⟩
 ·exact absurd p h1
 ·cases a;cases b;simpa using e
 ·exact absurd p h2
theorem Bb {v w:aD}:iI v w=true↔v.2.1<w.2.1\/(v.2.1=w.2.1/\dh v.1 w.1=true):=by
 unfold iI
 simp
theorem YD {u v w:aD} (h1:iI u v=true) (h2:iI v w=true):iI u w=true:=by
 rw [Bb] at *
 rcases h1 with h1 | ⟨h1,h1'⟩ <;> rcases h2 with h2 | ⟨h2,h2'⟩
 ·exact .inl (by omega)
 ·exact .inl (by omega)
 ·exact .inl (by omega)
 ·exact .inr ⟨by omega,XE h1' h2'⟩
theorem FO {v w:aD} (h1:iI v w=false) (h2:iI w v=false):v.1=w.1:=by
 rw [<- Bool.not_eq_true,Bb] at h1 h2
 simp only [not_or,not_and,Bool.not_eq_true] at h1 h2
 have e:v.2.1=w.2.1:=by omega
 exact Vb (h1.2 e) (h2.2 e.symm)
theorem P5 {fit:aD->Bool} {V:List aD}:∀ {k b:Nat},bestF fit V k=some b->∀ j,j<k->fit (V.getD j default)=true->iI (V.getD j default) (V.getD b default)=false
 | 0,b,h,_,_,_=>by cases h
 | k+1,b,h,j,hj,hf=>by
  unfold bestF at h
  by_cases hk:fit (V.getD k default)=true
  ·rw [if_pos hk] at h
   cases e:bestF fit V k with
   | none =>
    rw [e] at h
    simp only [Option.some.injEq] at h
    subst h
    rcases Nat.lt_succ_iff_lt_or_eq.1 hj with h1 | rfl
    ·rw [Qe e j h1] at hf;cases hf
    ·cases hl:iI (V.getD j default) (V.getD j default) with
     | false=>rfl
     | true =>
      rw [Bb] at hl
      rcases hl with hl | ⟨_,hl⟩
      ·omega
      ·rw [uh,AZ] at hl;omega
   | some a =>
    rw [e] at h
    simp only at h
    have hm:=P5 e
    by_cases hl:iI (V.getD k default) (V.getD a default)=true
    ·rw [if_pos hl] at h
     simp only [Option.some.injEq] at h
     subst h
     rcases Nat.lt_succ_iff_lt_or_eq.1 hj with h1 | rfl
     ·have h2:=hm j h1 hf
      cases h3:iI (V.getD j default) (V.getD k default) with
      | false=>rfl
      | true=>rw [YD h3 hl] at h2;cases h2
     ·cases h3:iI (V.getD j default) (V.getD j default) with
      | false=>rfl
      | true =>
       rw [Bb] at h3
       rcases h3 with h3 | ⟨_,h3⟩
       ·omega
       ·rw [uh,AZ] at h3;omega
    ·rw [if_neg hl] at h
     simp only [Option.some.injEq] at h
     subst h
     rcases Nat.lt_succ_iff_lt_or_eq.1 hj with h1 | rfl
     ·exact hm j h1 hf
     ·simpa using hl
  ·rw [if_neg hk] at h
   rcases Nat.lt_succ_iff_lt_or_eq.1 hj with h1 | rfl
   ·exact P5 h j h1 hf
   ·exact absurd hf hk
def sO (NL:List aG) (v:aD):Bool:=ay (eH v) B0 && bE NL (oQ v)
def bJ (NL:List aG) (V:List aD) (picked:List ByteArray):List aD:=V.filter (fun v=>sO NL v && !hasB ay picked v.1)
def jH (c:aT) (v:aD):Bool:=ay v.2.2.1 c.2.2.1 && decide (c.2.1<=v.2.1)
def fM (c:aT) (L:List aD) (k:Nat):List Nat:=(List.range k).filter (fun i=>jH c (L.getD i default))
def minT (lt:Nat->Nat->Bool) (l:List Nat):Nat->Nat
 | 0=>l.getD 0 default
 | k+1=>if lt (l.getD (k+1) default) (minT lt l k)=true then l.getD (k+1) default else minT lt l k
abbrev fV (L:List aD) (a b:Nat):Bool:=iI (L.getD a default) (L.getD b default)
theorem PV {lt:Nat->Nat->Bool} {l:List Nat}:∀ {k:Nat},k<l.length->minT lt l k∈l
 | 0,h=>by
  unfold minT
  rw [List.getD_eq_getElem?_getD,List.getElem?_eq_getElem h]
  exact List.getElem_mem h
 | k+1,h=>by
  unfold minT
  split
  ·rw [List.getD_eq_getElem?_getD,List.getElem?_eq_getElem h]
   exact List.getElem_mem h
  ·exact PV (by omega)
theorem XQ (v:aD):iI v v=false:=by
 cases h:iI v v with
 | false=>rfl
 | true =>
  rw [Bb] at h
  rcases h with h | ⟨_,h⟩
  ·omega
  ·rw [uh,AZ] at h;omega
theorem PU {L:List aD} {l:List Nat}:∀ {k:Nat},∀ j,j<=k->fV L (l.getD j default) (minT (fV L) l k)=false
 | 0,j,hj=>by
  obtain rfl:j=0:=by omega
  exact XQ _
 | k+1,j,hj=>by
  unfold minT
  split
  ·rename_i hl
   rcases Nat.lt_or_ge j (k+1) with h1 | h1
   ·have h2:=PU (L:=L) (l:=l) (k:=k) j (by omega)
    cases h3:fV L (l.getD j default) (l.getD (k+1) default) with
    | false=>rfl
    | true=>rw [show fV L (l.getD j default) (minT (fV L) l k)=true from YD h3 hl] at h2;cases h2
   ·obtain rfl:j=k+1:=by omega
    exact XQ _
  ·rename_i hl
   rcases Nat.lt_or_ge j (k+1) with h1 | h1
   ·exact PU j (by omega)
   ·obtain rfl:j=k+1:=by omega
    simpa using hl
theorem LM {c:aT} {L:List aD} {k i:Nat}:i∈fM c L k↔i<k/\jH c (L.getD i default)=true:=by
 unfold fM
 rw [List.mem_filter,List.mem_range]
theorem LG (c:aT) (NL:List aG) (picked:List ByteArray) (v:aD):J8 c NL picked v=((sO NL v && !hasB ay picked v.1) && jH c v):=by
 unfold J8 sO jH
 have:(!decide (v.2.1<c.2.1))=decide (c.2.1<=v.2.1):=by
  by_cases h:v.2.1<c.2.1 <;> simp [h] <;> omega
 rw [this]
 cases ay (eH v) B0 <;> cases hasB ay picked v.1 <;> cases ay v.2.2.1 c.2.2.1 <;> cases decide (c.2.1<=v.2.1) <;> cases bE NL (oQ v) <;> rfl
theorem Bh {α:Type} [Inhabited α] {l:List α} {i:Nat} (h:i<l.length):l.getD i default∈l:=by
 rw [List.getD_eq_getElem?_getD,List.getElem?_eq_getElem h]
 exact List.getElem_mem h
theorem EC {α:Type} [Inhabited α] {l:List α} {x:α} (h:x∈l):∃ i,i<l.length/\l.getD i default=x:=by
 obtain ⟨i,h1,h2⟩:=List.mem_iff_getElem.1 h
 exact ⟨i,h1,by rw [List.getD_eq_getElem?_getD,List.getElem?_eq_getElem h1];exact h2⟩
theorem Fs {c:aT} {NL:List aG} {V:List aD} {picked:List ByteArray} (h:fM c (bJ NL V picked) (bJ NL V picked).length=[]):jX c NL V picked=none:=by
 cases e:jX c NL V picked with
 | none=>rfl
 | some j =>
  exfalso
  obtain ⟨h1,h2⟩:=LQ e
  rw [LG,Bool.and_eq_true] at h2
  have hm:V.getD j default∈bJ NL V picked:=List.mem_filter.2 ⟨Bh h1,h2.1⟩
  obtain ⟨i,i1,i2⟩:=EC hm
  have:i∈fM c (bJ NL V picked) (bJ NL V picked).length:=LM.2 ⟨i1,by rw [i2];exact h2.2⟩
  rw [h] at this
  cases this
theorem Fq {c:aT} {NL:List aG} {V:List aD} {picked:List ByteArray} {l:List Nat} (hl:fM c (bJ NL V picked) (bJ NL V picked).length=l) (hne:0<l.length) {at':Nat} (ha:at'=minT (fV (bJ NL V picked)) l (l.length - 1)) :
  at'<(bJ NL V picked).length/\∃ j,jX c NL V picked=some j/\(V.getD j default).1=((bJ NL V picked).getD at' default).1:=by
 have hin:at'∈l:=by rw [ha];exact PV (by omega)
 have hin':=hin
 rw [<- hl,LM] at hin'
 obtain ⟨h1,h2⟩:=hin'
 refine ⟨h1,?_⟩
 have hm:=Bh h1
 obtain ⟨m1,m2⟩:=List.mem_filter.1 hm
 obtain ⟨jm,ZF,RG⟩:=EC m1
 cases e:jX c NL V picked with
 | none =>
  exfalso
  have:=Qe e jm ZF
  rw [RG,LG,m2,h2] at this
  cases this
 | some j =>
  refine ⟨j,rfl,?_⟩
  obtain ⟨b1,b2⟩:=LQ e
  have x1:iI ((bJ NL V picked).getD at' default) (V.getD j default)=false:=by
   have:=P5 e jm ZF (by rw [RG,LG,m2,h2];rfl)
   rwa [RG] at this
  have x2:iI (V.getD j default) ((bJ NL V picked).getD at' default)=false:=by
   rw [LG,Bool.and_eq_true] at b2
   have hm2:V.getD j default∈bJ NL V picked:=List.mem_filter.2 ⟨Bh b1,b2.1⟩
   obtain ⟨i,i1,i2⟩:=EC hm2
   have hil:i∈l:=by rw [<- hl];exact LM.2 ⟨i1,by rw [i2];exact b2.2⟩
   obtain ⟨q,q1,q2⟩:=EC hil
   have:=PU (L:=bJ NL V picked) (l:=l) (k:=l.length - 1) q (by omega)
   rw [q2,<- ha] at this
   rw [<- i2]
   exact this
  exact FO x2 x1
theorem zEr {L:List aD} (hn:(jK L).Nodup):∀ {k:Nat},k<L.length->L.eraseIdx k=L.filter (fun v=>!ay (L.getD k default).1 v.1):=by
 induction L with
 | nil=>intro k h;simp at h
 | cons a L ih =>
  intro k h
  rw [show jK (a :: L)=a.1 :: jK L from rfl,List.nodup_cons] at hn
  cases k with
  | zero =>
   rw [List.eraseIdx_cons_zero,List.getD_cons_zero,List.filter_cons]
   rw [(eZ a.1 a.1).2 rfl]
   simp only [Bool.not_true,Bool.false_eq_true,if_false]
   symm
   rw [List.filter_eq_self]
   intro v hv
   rw [Bool.not_eq_true',BH]
   exact fun e=>hn.1 (e ▸ List.mem_map.2 ⟨v,hv,rfl⟩)
  | succ k =>
   have h':k<L.length:=by simpa using h
   rw [List.eraseIdx_cons_succ,List.getD_cons_succ,List.filter_cons,ih hn.2 h']
   have:ay (L.getD k default).1 a.1=false:=by
    rw [BH]
    exact fun e=>hn.1 (e ▸ List.mem_map.2 ⟨_,Bh h',rfl⟩)
   rw [this]
   rfl
theorem zHS {NL:List aG} {V:List aD} (hn:(jK V).Nodup) {picked:List ByteArray} {k:Nat} (h:k<(bJ NL V picked).length) :
  (bJ NL V picked).eraseIdx k=bJ NL V (picked++[((bJ NL V picked).getD k default).1]):=by
 have hs:(jK (bJ NL V picked)).Nodup:=List.Nodup.sublist (List.Sublist.map _ List.filter_sublist) hn
 rw [zEr hs h]
 generalize ((bJ NL V picked).getD k default).1=s
 unfold bJ
 rw [List.filter_filter]
 congr 1
 funext v
 unfold hasB
 rw [List.any_append]
 simp only [List.any_cons,List.any_nil,Bool.or_false,Bool.not_or]
 cases sO NL v <;> cases picked.any (fun w=>ay w v.1) <;> cases ay s v.1 <;> rfl
end Go.Proofs.YtgikfenllgldoaaGreat
namespace Go.Proofs.YtgikfenllgldoaaGreat
open Go.Proofs.Tryz
open Go.RowKit
structure jr (w X u:World) (N Z Q:List Value) (s6 s7 s8:Value) (A6:List ByteArray) (A7:List Int) (A8:List ByteArray):Prop where
 b:PB w X N Z Q
 r6:Row au 1 (fun _=>False) X u 9 s6 A6
 r7:Row aC 1 (fun _=>False) X u 3 s7 A7
 r8:Row au 1 (fun _=>False) X u 9 s8 A8
 d67:∀ b,s6.ownBlock=some b->s7.ownBlock≠some b
 d68:∀ b,s6.ownBlock=some b->s8.ownBlock≠some b
 d78:∀ b,s7.ownBlock=some b->s8.ownBlock≠some b
section
variable {w X u:World} {N Z Q:List Value} {s6 s7 s8:Value} {A6:List ByteArray} {A7:List Int} {A8:List ByteArray}
theorem jr.on (h:jr w X u N Z Q s6 s7 s8 A6 A7 A8) {u':World} (hb:Below u.heap.size u u'):jr w X u' N Z Q s6 s7 s8 A6 A7 A8 :=
 ⟨h.b,h.r6.on au.ae hb,h.r7.on aC.ae hb,h.r8.on au.ae hb,h.d67,h.d68,h.d78⟩
theorem jr.box (h:jr w X u N Z Q s6 s7 s8 A6 A7 A8):PB w u N Z Q:=h.b.on h.r6.below
theorem jr.Ld (h:jr w X u N Z Q s6 s7 s8 A6 A7 A8) {u':World} {v:Value} {B:List ByteArray} (hr:Row au 1 (fun _=>False) X u' 9 v B) (hg:u.grownBy u' s6.ownBlock) (hp:v.ownBlock=s6.ownBlock\/v.ownBlock=some u.heap.size):jr w X u' N Z Q v s7 s8 B A7 A8:=by
 refine ⟨h.b,hr,h.r7.grown aC.ae hg (fun b hb=>⟨(h.r6.lt hb).1,h.d67 b hb,id⟩),h.r8.grown au.ae hg (fun b hb=>⟨(h.r6.lt hb).1,h.d68 b hb,id⟩),fun b hb=>?_,fun b hb=>?_,h.d78⟩
 ·rcases hp with hp | hp
  ·exact h.d67 b (hp ▸ hb)
  ·intro h7;have:=(h.r7.lt h7).2;rw [hp] at hb;injection hb with hb;omega
 ·rcases hp with hp | hp
  ·exact h.d68 b (hp ▸ hb)
  ·intro h7;have:=(h.r8.lt h7).2;rw [hp] at hb;injection hb with hb;omega
theorem jr.Lc (h:jr w X u N Z Q s6 s7 s8 A6 A7 A8) {u':World} {v:Value} {B:List Int} (hr:Row aC 1 (fun _=>False) X u' 3 v B) (hg:u.grownBy u' s7.ownBlock) (hp:v.ownBlock=s7.ownBlock\/v.ownBlock=some u.heap.size):jr w X u' N Z Q s6 v s8 A6 B A8:=by
 refine ⟨h.b,h.r6.grown au.ae hg (fun b hb=>⟨(h.r7.lt hb).1,fun e=>h.d67 b e hb,id⟩),hr,h.r8.grown au.ae hg (fun b hb=>⟨(h.r7.lt hb).1,h.d78 b hb,id⟩),fun b hb h7=>?_,h.d68,fun b hb=>?_⟩
 ·rcases hp with hp | hp
  ·exact h.d67 b hb (hp ▸ h7)
  ·have:=(h.r6.lt hb).2;rw [hp] at h7;injection h7 with h7;omega
 ·rcases hp with hp | hp
  ·exact h.d78 b (hp ▸ hb)
  ·intro h7;have:=(h.r8.lt h7).2;rw [hp] at hb;injection hb with hb;omega
theorem jr.La (h:jr w X u N Z Q s6 s7 s8 A6 A7 A8) {u':World} {v:Value} {B:List ByteArray} (hr:Row au 1 (fun _=>False) X u' 9 v B) (hg:u.grownBy u' s8.ownBlock) (hp:v.ownBlock=s8.ownBlock\/v.ownBlock=some u.heap.size):jr w X u' N Z Q s6 s7 v A6 A7 B:=by
 refine ⟨h.b,h.r6.grown au.ae hg (fun b hb=>⟨(h.r8.lt hb).1,fun e=>h.d68 b e hb,id⟩),h.r7.grown aC.ae hg (fun b hb=>⟨(h.r8.lt hb).1,fun e=>h.d78 b e hb,id⟩),hr,h.d67,fun b hb h7=>?_,fun b hb h7=>?_⟩
 ·rcases hp with hp | hp
  ·exact h.d68 b hb (hp ▸ h7)
  ·have:=(h.r6.lt hb).2;rw [hp] at h7;injection h7 with h7;omega
 ·rcases hp with hp | hp
  ·exact h.d78 b hb (hp ▸ h7)
  ·have:=(h.r7.lt hb).2;rw [hp] at h7;injection h7 with h7;omega
theorem jr.set (h:jr w X u N Z Q s6 s7 s8 A6 A7 A8) (i:Nat) (v:Value) (hi:i<Q.length):jr w (X.setCell ⟨w.heap.size+1+1,i,none⟩ v) (u.setCell ⟨w.heap.size+1+1,i,none⟩ v) N Z (Q.set i v) s6 s7 s8 A6 A7 A8 :=
 ⟨h.b.set i v hi,h.r6.both au.ae h.b.sz id v,h.r7.both aC.ae h.b.sz id v,h.r8.both au.ae h.b.sz id v,h.d67,h.d68,h.d78⟩
end
def mZ (u:World) (a:Option Addr) (n:Nat):Prop:=∀ B off,a=some ⟨B,off,none⟩->u.there B off n
theorem mZ.on {u u':World} {a:Option Addr} {n:Nat} (h:mZ u a n) (hb:Below u.heap.size u u'):mZ u' a n:=fun B off e j hj=>by
 have h1:=h B off e j hj
 obtain ⟨v,hv⟩:=Option.isSome_iff_exists.1 h1.1
 have hB:B<u.heap.size:=World.block_lt_of_cell? u ⟨B,off+j,none⟩ hv
 rw [hb.cell (p:=⟨B,off+j,none⟩) hB,hb.frozen (p:=⟨B,off+j,none⟩) hB]
 exact h1
theorem Row.Mj {α:Type} [Inhabited α] {R:bI α} {A:Where} {w0 u:World} {e:TypeId} {a:Option Addr} {n c:Nat} {L:List α} (h:Row R 1 A w0 u e (.slice a n c) L):mZ u a n:=by
 obtain ⟨xs,h1,_⟩:=h
 intro B off ea j hj
 rcases h1.2.2 with ⟨e1,_⟩ | ⟨g,cap,cur,e1,_,hg,hnc,_,hcs,_⟩
 ·injection e1 with e1 e2;subst e2;omega
 ·injection e1 with e1 e2 e3
  subst e2 e3
  rw [e1] at ea
  injection ea with ea
  injection ea with ea eo
  subst ea eo
  have hl:j<cur.size:=by rw [hcs];omega
  simp [World.cell?,World.frozen?,hg,hl]
theorem Bj (u:World) (n:Nat):Below u.heap.size u (u.drewN n):=⟨rfl,rfl,rfl,Nat.le_refl _,fun _ _=>rfl⟩
theorem Dq (a:ByteArray):a.toList.isEmpty=ay a B0:=by
 unfold ay
 rw [show (B0:ByteArray).toList=[] by rw [ByteArray.toList_eq]]
 cases a.toList <;> rfl
theorem zFg (a:Option Addr) (cap:Nat) (L:List aG) (key:ByteArray) (op:Int) (b:Option Addr) (cap':Nat) (V:List ByteArray) (w:World) (hL:Hid (fw w a L)) (hV:Hid (bS w b V)):Calls prog 132 #[.slice a L.length cap,.agg #[.string key,.int .i64 op,.slice b V.length cap']] w fun e w'=>e=.returned (.bool (rH L ⟨key,op,V⟩))/\Below w.heap.size w w':=by
 rcases Jb op with rfl | rfl | rfl | rfl | rfl | rfl | ⟨h1,h2,h3,h4,h5,h6⟩
 ·exact Ll a cap L key b cap' V w hL hV
 ·exact zFj a cap L key b cap' V w hL hV
 ·exact zEb a cap L key b cap' V w hL hV
 ·exact zFh a cap L key b cap' V w hL hV
 ·exact zFe a cap L key b cap' V w hL hV
 ·exact zFf a cap L key b cap' V w hL hV
 ·exact zFi a cap L key op b cap' V w hL hV h1 h2 h3 h4 h5 h6
theorem zFd (a:Option Addr) (cap:Nat) (L:List aG) (b:Option Addr) (cap':Nat) (R:List Ask) (w:World) (hL:Hid (fw w a L)) (hR:Hid (xq w b R)):Calls prog 104 #[.slice a L.length cap,.slice b R.length cap'] w fun e w'=>e=.returned (.bool (bE L R))/\Below w.heap.size w w':=by
 have hlen:=hR.out.1
 go_enter func104,ntmps104
 go_wp2
 go_loopw [9] (fun i wr=>∃ k:Nat,k<=R.length/\i=.int .i64 k/\Below w.heap.size w wr/\Hid (∀ j,j<k->rH L (R.getD j default)=true)) (fun i _=>R.length - (intOf i).toNat)
 case atStart=>exact ⟨0,Nat.zero_le _,rfl,Below.refl _ _,fun j hj=>absurd hj (Nat.not_lt_zero _)⟩
 case round =>
  obtain ⟨k,hk,rfl,hbel,hall⟩:=hrel
  by_cases hlt:k<R.length
  ·obtain ⟨B,off,rfl,hB,c0,c1,⟨a',oK,c2,hv⟩,s0⟩:=hR.out.get hlt
   have d0:=(hbel.cell (p:=⟨B,off+k*3,none⟩) hB).trans c0
   have d1:=(hbel.cell (p:=⟨B,off+k*3+1,none⟩) hB).trans c1
   have d2:=(hbel.cell (p:=⟨B,off+k*3+2,none⟩) hB).trans c2
   have HM:Hid (∀ u,Below wr.heap.size wr u->Calls prog 132 #[.slice a L.length cap,.agg #[.string (R.getD k default).key,.int .i64 (R.getD k default).op,.slice a' (R.getD k default).vals.length oK]] u fun e w'=>e=.returned (.bool (rH L (R.getD k default)))/\Below u.heap.size u w') :=
    fun u hu=>zFg a cap L _ _ a' oK _ u (hL.out.on (ah hbel hu)) (hv.on (ah hbel hu))
   clear c0 c1 c2 hv
   cases hm:rH L (R.getD k default)
   ·have HF:Hid (bE L R=false):=YL hlt hm
    rw [hm] at HM
    clear hm hall
    generalize R.getD k default=r at d0 d1 d2 s0 HM
    go_wp2_with fail
    refine (HM.out _ (by go_grown)).mono ?_
    rintro e w1 ⟨rfl,hb⟩
    have hb':=ah hbel (ah (by go_grown) hb)
    clear HM d0 d1 d2
    go_wp2_with fail
    go_ret
    exact ⟨lC HF.out.symm,hb'⟩
   ·have HG:Hid (∀ j,j<k+1->rH L (R.getD j default)=true):=fun j hj=>by
     rcases Nat.lt_succ_iff_lt_or_eq.1 hj with h | rfl
     ·exact hall.out j h
     ·exact hm
    rw [hm] at HM
    clear hm hall
    generalize R.getD k default=r at d0 d1 d2 s0 HM
    go_wp2_with fail
    refine (HM.out _ (by go_grown)).mono ?_
    rintro e w1 ⟨rfl,hb⟩
    have hb':=ah hbel (ah (by go_grown) hb)
    clear HM d0 d1 d2
    go_wp2_with fail
    go_roundw
    case rel=>exact ⟨k+1,by omega,by go_num,hb',HG⟩
    case measure=>simp [intOf];omega
  ·have HF:Hid (bE L R=true):=Yo (fun j hj=>hall.out j (by omega))
   go_wp2
   go_ret
   exact ⟨lC HF.out.symm,hbel⟩
theorem zFt {α:Type} [Inhabited α] (p:α->Bool) (L:List α) {k:Nat} (hk:k<L.length):(L.take (k+1)).filter p=(L.take k).filter p++(if p (L.getD k default)=true then [L.getD k default] else []):=by
 rw [<- nH hk,List.filter_append]
 congr 1
 simp only [List.filter_cons,List.filter_nil]
theorem OE {A:Where} {w:World} {a:Option Addr} {n cap:Nat} {L:List ByteArray} (h:ag au 1 16 A w a n cap L):bS w a L:=by
 have hl:=h.len (by decide)
 obtain ⟨hn,h2,h3,h4,h5⟩:=h
 refine ⟨by omega,fun x hx=>?_,fun hne=>?_⟩
 ·obtain ⟨i,hi,rfl⟩:=List.mem_iff_getElem.1 hx
  obtain ⟨B,off,_,_,_,hc⟩:=h5 (by omega)
  obtain ⟨cs,hr,_⟩:=hc i (by omega)
  have:=hr.2
  rwa [gK _ _ hi] at this
 ·have hpos:0<n:=by have:=List.length_pos_iff.2 hne;omega
  obtain ⟨B,off,e,hB,_,hc⟩:=h5 hpos
  refine ⟨B,off,e,hB,fun i hi=>?_⟩
  obtain ⟨cs,⟨rfl,_⟩,hv⟩:=hc i (by omega)
  have:=hv 0 _ rfl
  simpa using this
theorem Lx {A:Where} {w:World} {a:Option Addr} {n cap:Nat} {L:List aG} (h:ag ak 2 32 A w a n cap L):fw w a L:=by
 have hl:=h.len (by decide)
 obtain ⟨hn,h2,h3,h4,h5⟩:=h
 refine ⟨by omega,fun x hx=>?_,fun hne=>?_⟩
 ·obtain ⟨i,hi,rfl⟩:=List.mem_iff_getElem.1 hx
  obtain ⟨B,off,_,_,_,hc⟩:=h5 (by omega)
  obtain ⟨cs,hr,_⟩:=hc i (by omega)
  have:=hr.out.2
  rwa [gK _ _ hi] at this
 ·have hpos:0<n:=by have:=List.length_pos_iff.2 hne;omega
  obtain ⟨B,off,e,hB,_,hc⟩:=h5 hpos
  refine ⟨B,off,e,hB,fun i hi=>?_⟩
  obtain ⟨cs,hr,hv⟩:=hc i (by omega)
  obtain ⟨rfl,_⟩:=hr.out
  exact ⟨hv 0 _ rfl,hv 1 _ rfl⟩
theorem PD {A:Where} {w:World} {a:Option Addr} {n cap:Nat} {L:List Ask} (h:ag aU 3 48 A w a n cap L):xq w a L:=by
 have hl:=h.len (by decide)
 obtain ⟨hn,h2,h3,h4,h5⟩:=h
 refine ⟨by omega,fun x hx=>?_,fun hne=>?_⟩
 ·obtain ⟨i,hi,rfl⟩:=List.mem_iff_getElem.1 hx
  obtain ⟨B,off,_,_,_,hc⟩:=h5 (by omega)
  obtain ⟨cs,hr,_⟩:=hc i (by omega)
  obtain ⟨_,_,this,_⟩:=hr.out
  rwa [gK _ _ hi] at this
 ·have hpos:0<n:=by have:=List.length_pos_iff.2 hne;omega
  obtain ⟨B,off,e,hB,_,hc⟩:=h5 hpos
  refine ⟨B,off,e,hB,fun i hi=>?_⟩
  obtain ⟨cs,hr,hv⟩:=hc i (by omega)
  obtain ⟨hd,rfl,_,hs⟩:=hr.out
  refine ⟨hv 0 _ rfl,hv 1 _ rfl,hd.1,hd.2.2,?_,OE hs⟩
  have:=hv 2 _ rfl
  rw [<- hs.1] at this
  exact this
theorem yY (a:Option Addr) (n cap:Nat) (A:Where) (L:List aG) (b:Option Addr) (m gX:Nat) (A':Where) (R:List Ask) (w:World) (hL:Hid (ag ak 2 32 A w a n cap L)) (hR:Hid (ag aU 3 48 A' w b m gX R)):Calls prog 104 #[.slice a n cap,.slice b m gX] w fun e w'=>e=.returned (.bool (bE L R))/\Below w.heap.size w w':=by
 have h:=zFd a cap L b gX R w (Lx hL.out) (PD hR.out)
 rw [hL.out.1,hR.out.1] at h
 exact h
theorem PL (a:Option Addr) (n cap:Nat) (A:Where) (L:List jg) (b:Option Addr) (m gX:Nat) (A':Where) (R:List gN) (w:World) (hL:Hid (ag dH 3 40 A w a n cap L)) (hR:Hid (ag eY 4 48 A' w b m gX R)):Calls prog 130 #[.slice a n cap,.slice b m gX] w fun e w'=>e=.returned (.tuple #[.agg #[.string (jw L R).1.1,.string (jw L R).1.2.1,.int .i64 (jw L R).1.2.2],.bool (jw L R).2])/\Below w.heap.size w w':=by
 have h:=zGx a cap L b gX R w (OD hL.out) (K7 hR.out)
 rw [hL.out.1,hR.out.1] at h
 exact h
theorem zGu (cs:List Value) (A:Where) (x:bC) (w:World) (h:Hid (aY A w cs x)):Calls prog 93 #[.agg cs.toArray] w fun e w'=>e=.returned (.agg #[.int .i64 (gB x).1,.int .i64 (gB x).2.1,.int .i64 (gB x).2.2])/\Below w.heap.size w w':=by
 obtain ⟨⟨nn,nl,nt,no,⟨ga,gb,gc⟩,np,nd⟩,gy,⟨ua,ub,uc⟩,pts,nN⟩:=x
 obtain ⟨⟨a1,n1,m1⟩,⟨a2,n2,m2⟩,⟨a9,n9,m9⟩,⟨df,n13,m13⟩,⟨rU,n14,m14⟩,rfl,_⟩:=h.out.out
 simp only [gB,FK]
 clear h
 obtain ⟨W2,hW2⟩:∃ W2,W2=(w.alloc (.cells #[.string nn,.slice a1 n1 m1,.slice a2 n2 m2,.bool no,.int .i64 ga,.int .i64 gb,.int .i64 gc,.int .i64 np,.int .i64 nd,.slice a9 n9 m9,.int .i64 ua,.int .i64 ub,.int .i64 uc,.slice df n13 m13,.slice rU n14 m14] 70)).alloc (.cells #[.int .i64 0,.int .i64 0,.int .i64 0] 32):=⟨_,rfl⟩
 have B2:Cx w W2 [.string nn,.slice a1 n1 m1,.slice a2 n2 m2,.bool no,.int .i64 ga,.int .i64 gb,.int .i64 gc,.int .i64 np,.int .i64 nd,.slice a9 n9 m9,.int .i64 ua,.int .i64 ub,.int .i64 uc,.slice df n13 m13,.slice rU n14 m14] [.int .i64 0,.int .i64 0,.int .i64 0]:=by
  rw [hW2]
  refine ⟨(af.new w 70 [.string nn,.slice a1 n1 m1,.slice a2 n2 m2,.bool no,.int .i64 ga,.int .i64 gb,.int .i64 gc,.int .i64 np,.int .i64 nd,.slice a9 n9 m9,.int .i64 ua,.int .i64 ub,.int .i64 uc,.slice df n13 m13,.slice rU n14 m14]).on ((Below.refl _ _).alloc (Nat.le_refl _) _),?_,by go_grown⟩
  have:=af.new (w.alloc (.cells #[.string nn,.slice a1 n1 m1,.slice a2 n2 m2,.bool no,.int .i64 ga,.int .i64 gb,.int .i64 gc,.int .i64 np,.int .i64 nd,.slice a9 n9 m9,.int .i64 ua,.int .i64 ub,.int .i64 uc,.slice df n13 m13,.slice rU n14 m14] 70)) 32 [.int .i64 0,.int .i64 0,.int .i64 0]
  simpa using this
 have HB2:Hid (Cx w W2 [.string nn,.slice a1 n1 m1,.slice a2 n2 m2,.bool no,.int .i64 ga,.int .i64 gb,.int .i64 gc,.int .i64 np,.int .i64 nd,.slice a9 n9 m9,.int .i64 ua,.int .i64 ub,.int .i64 uc,.slice df n13 m13,.slice rU n14 m14] [.int .i64 0,.int .i64 0,.int .i64 0]):=B2
 clear B2
 go_enter func93,ntmps93
 go_wp2_with fail
 rw [<- hW2]
 clear hW2
 refine (zFk ga gb gc ua ub uc W2).mono ?_
 rintro e w3 ⟨rfl,hb3⟩
 have C:=HB2.out.on hb3
 obtain ⟨z0,f0⟩:=C.y.2 0 _ rfl
 obtain ⟨z1,f1⟩:=C.y.2 1 _ rfl
 obtain ⟨z2,f2⟩:=C.y.2 2 _ rfl
 have hb:Hid (Below w.heap.size w w3):=C.b
 clear C HB2 hb3
 go_wp2_with fail
 refine bodyPost_ret (v:=.agg #[.int .i64 (jL ga ua),.int .i64 (jL gb ub),.int .i64 (jL gc uc)]) (by simp [results,Tryz.results93,go_sem,z0,z1,z2]) rfl ⟨rfl,?_⟩
 exact ((hb.out.setCell (by simp) _).setCell (by simp) _).setCell (by simp) _
theorem Pv (D:Nat) (a:Option Addr) (n cap:Nat) (A:Where) (V:List Int) (p:Int) (w:World) (hc:w.cell? ⟨D,13,none⟩=some (.slice a n cap)) (hV:Hid (ag aC 1 8 A w a n cap V)):Calls prog 171 (#[.int .i64 p]++#[.pointer (some ⟨D,0,none⟩)]) w fun e w'=>e=.returned (.bool (hasB dM V p))/\Below w.heap.size w w':=by
 show Calls prog 171 #[.int .i64 p,.pointer (some ⟨D,0,none⟩)] w _
 go_enter func171,ntmps171
 go_wp2_with fail
 refine (Iw a n cap A V p w hV).mono ?_
 rintro e w1 ⟨rfl,rfl⟩
 go_wp2_with fail
 go_ret
 exact ⟨rfl,Below.refl _ _⟩
theorem zFa (cs ds:List Value) (A A':Where) (x:bC) (y:aB) (w:World) (h:Hid (aY A w cs x)) (h':Hid (aj A' w ds y)):Calls prog 131 #[.agg cs.toArray,.agg ds.toArray] w fun e w'=>e=.returned (.bool (uV x y))/\Below w.heap.size w w':=by
 obtain ⟨⟨nn,nl,nt,no,⟨ga,gb,gc⟩,np,nd⟩,gy,⟨ua,ub,uc⟩,pts,nN⟩:=x
 obtain ⟨⟨a1,n1,m1⟩,⟨a2,n2,m2⟩,⟨a9,n9,m9⟩,⟨df,n13,m13⟩,⟨rU,n14,m14⟩,rfl,_,_,_,_,s13,_⟩:=h.out.out
 obtain ⟨g2,g6,g7,g8,⟨b9,l9,k9⟩,g10,g11,g12,g13,rfl,_,_,_,_,_,t9,_⟩:=h'.out.out
 simp only at s13 t9
 have TW:Hid (ag aC 1 8 A w df n13 m13 pts):=s13
 have T9:Hid (ag aC 1 8 A' w b9 l9 k9 (iB y)):=t9
 have hE:Hid (uV ((nn,nl,nt,no,(ga,gb,gc),np,nd),gy,(ua,ub,uc),pts,nN) y=(iB y).any (fun q=>hasB dM pts q)):=rfl
 rw [hE.out]
 generalize hpp:iB y=prt at T9
 have hlen:=T9.out.len (by decide)
 have hn:Hid (prt.length=l9):=T9.out.1
 clear h h' s13 t9 hE hpp
 obtain ⟨W2,hW2⟩:∃ W2,W2=(w.alloc (.cells #[.string nn,.slice a1 n1 m1,.slice a2 n2 m2,.bool no,.int .i64 ga,.int .i64 gb,.int .i64 gc,.int .i64 np,.int .i64 nd,.slice a9 n9 m9,.int .i64 ua,.int .i64 ub,.int .i64 uc,.slice df n13 m13,.slice rU n14 m14] 70)).alloc (.cells #[.string y.1,.int .i64 y.2.1,.slice g2.1 g2.2.1 g2.2.2,.int .i64 y.2.2.2.1.1,.int .i64 y.2.2.2.1.2.1,.int .i64 y.2.2.2.1.2.2,.slice g6.1 g6.2.1 g6.2.2,.slice g7.1 g7.2.1 g7.2.2,.slice g8.1 g8.2.1 g8.2.2,.slice b9 l9 k9,.slice g10.1 g10.2.1 g10.2.2,.slice g11.1 g11.2.1 g11.2.2,.slice g12.1 g12.2.1 g12.2.2,.slice g13.1 g13.2.1 g13.2.2,.string y.2.2.2.2.2.2.2.2.2.2.2.2.1,.string y.2.2.2.2.2.2.2.2.2.2.2.2.2] 41):=⟨_,rfl⟩
 have B2:Hid (Cx w W2 [.string nn,.slice a1 n1 m1,.slice a2 n2 m2,.bool no,.int .i64 ga,.int .i64 gb,.int .i64 gc,.int .i64 np,.int .i64 nd,.slice a9 n9 m9,.int .i64 ua,.int .i64 ub,.int .i64 uc,.slice df n13 m13,.slice rU n14 m14] [.string y.1,.int .i64 y.2.1,.slice g2.1 g2.2.1 g2.2.2,.int .i64 y.2.2.2.1.1,.int .i64 y.2.2.2.1.2.1,.int .i64 y.2.2.2.1.2.2,.slice g6.1 g6.2.1 g6.2.2,.slice g7.1 g7.2.1 g7.2.2,.slice g8.1 g8.2.1 g8.2.2,.slice b9 l9 k9,.slice g10.1 g10.2.1 g10.2.2,.slice g11.1 g11.2.1 g11.2.2,.slice g12.1 g12.2.1 g12.2.2,.slice g13.1 g13.2.1 g13.2.2,.string y.2.2.2.2.2.2.2.2.2.2.2.2.1,.string y.2.2.2.2.2.2.2.2.2.2.2.2.2]):=by
  rw [hW2]
  refine ⟨(af.new w 70 [.string nn,.slice a1 n1 m1,.slice a2 n2 m2,.bool no,.int .i64 ga,.int .i64 gb,.int .i64 gc,.int .i64 np,.int .i64 nd,.slice a9 n9 m9,.int .i64 ua,.int .i64 ub,.int .i64 uc,.slice df n13 m13,.slice rU n14 m14]).on ((Below.refl _ _).alloc (Nat.le_refl _) _),?_,by go_grown⟩
  have:=af.new (w.alloc (.cells #[.string nn,.slice a1 n1 m1,.slice a2 n2 m2,.bool no,.int .i64 ga,.int .i64 gb,.int .i64 gc,.int .i64 np,.int .i64 nd,.slice a9 n9 m9,.int .i64 ua,.int .i64 ub,.int .i64 uc,.slice df n13 m13,.slice rU n14 m14] 70)) 41 [.string y.1,.int .i64 y.2.1,.slice g2.1 g2.2.1 g2.2.2,.int .i64 y.2.2.2.1.1,.int .i64 y.2.2.2.1.2.1,.int .i64 y.2.2.2.1.2.2,.slice g6.1 g6.2.1 g6.2.2,.slice g7.1 g7.2.1 g7.2.2,.slice g8.1 g8.2.1 g8.2.2,.slice b9 l9 k9,.slice g10.1 g10.2.1 g10.2.2,.slice g11.1 g11.2.1 g11.2.2,.slice g12.1 g12.2.1 g12.2.2,.slice g13.1 g13.2.1 g13.2.2,.string y.2.2.2.2.2.2.2.2.2.2.2.2.1,.string y.2.2.2.2.2.2.2.2.2.2.2.2.2]
  simpa using this
 have HP:Hid (DZ 171 #[.pointer (some ⟨w.heap.size,0,none⟩)] (fun q=>hasB dM pts q) W2):=fun W p hb=>Pv w.heap.size df n13 m13 A pts p W ((B2.out.on hb).p.2 13 _ rfl).1 (TW.out.on aC.ae (B2.out.on hb).b)
 have eg:∀ args w,(callFunc 171 args).run prog w=.ok (.enter 171 args) w:=by intro args w;rfl
 obtain ⟨p9,_⟩:=B2.out.y.2 9 _ rfl
 have hb2:Hid (Below w.heap.size w W2):=B2.out.b
 rw [hW2] at p9
 have HW:Hid (W2=_):=hW2
 clear hW2
 go_enter func131,ntmps131
 go_wp2_with fail
 rw [<- HW.out]
 refine (zDq b9 l9 k9 A' prt W2 (T9.out.on aC.ae hb2.out) (fun q=>hasB dM pts q) 171 #[.pointer (some ⟨w.heap.size,0,none⟩)] eg HP).mono ?_
 rintro e w3 ⟨rfl,hb3⟩
 go_wp2_with fail
 go_ret
 exact ⟨rfl,ah hb2.out hb3⟩
theorem LB:(prog.info? 9).map (fun i=>(i.zero,i.size,i.bytes))=some (some (.string ⟨#[]⟩),1,16):=by kernel_rfl
theorem II {c:Prop} [Decidable c] {A B:Prop} (h:c) (k:A):if c then A else B:=by rw [if_pos h];exact k
theorem K8 {K:Act->World->Prop} {a:Act} {u W:World} (h:W=u) (k:K a W):K a u:=h ▸ k
theorem LD {α:Type} [Inhabited α] {L:List α} {k:Nat} (h:k<L.length):L.take k++[L.getD k default]=L.take (k+1):=by
 rw [List.getD_eq_getElem?_getD,List.getElem?_eq_getElem h]
 simp
theorem OC (key:ByteArray) (N:List aX):(yK key N).length<=N.length:=by
 unfold yK
 rw [List.length_map]
 exact List.length_filter_le _ _
theorem Qb {A:Where} {w:World} {a:Option Addr} {n cap:Nat} {L:List aG} (h:ag ak 2 32 A w a n cap L) (key:ByteArray):(getL L key).1.size<=140737488355328:=by
 unfold getL
 split
 ·rename_i x hx
  have hm:=List.mem_of_find?_eq_some hx
  obtain ⟨i,hi,rfl⟩:=List.mem_iff_getElem.1 hm
  have hl:=h.1
  obtain ⟨B,off,_,_,_,cs,hr,_⟩:=h.get (i:=i) (by omega)
  rw [List.getD_eq_getElem?_getD,List.getElem?_eq_getElem hi] at hr
  obtain ⟨_,_,_,_,hz⟩:=hr
  exact hz.2
 ·exact Nat.zero_le _
theorem UH (a:Option Addr) (n cap:Nat) (A:Where) (L:List aG) (key:ByteArray) (w:World) (hL:Hid (ag ak 2 32 A w a n cap L)):Calls prog 111 #[.slice a n cap,.string key] w fun e w'=>e=.returned (.tuple #[.string (getL L key).1,.bool (getL L key).2])/\Below w.heap.size w w':=by
 have h:=wJ a cap L key w (Lx hL.out)
 rw [hL.out.1] at h
 exact h
theorem Qs (a:Option Addr) (n cap:Nat) (A:Where) (L:List aG) (key:ByteArray) (w:World) (hL:Hid (ag ak 2 32 A w a n cap L)):Calls prog 133 #[.slice a n cap,.string key] w fun e w'=>e=.returned (.tuple #[.agg #[.string key,.string (getL L key).1],.bool (getL L key).2])/\Below w.heap.size w w':=by
 have HG:Hid (∀ u,Below w.heap.size w u->Calls prog 111 #[.slice a n cap,.string key] u fun e w'=>e=.returned (.tuple #[.string (getL L key).1,.bool (getL L key).2])/\Below u.heap.size u w'):=fun u hb=>UH a n cap A L key u (hL.out.on ak.ae hb)
 clear hL
 generalize (getL L key).1=v at HG
 generalize (getL L key).2=t at HG
 go_enter func133,ntmps133
 go_wp2_with fail
 refine (HG.out _ (by go_grown)).mono ?_
 rintro e w1 ⟨rfl,hb1⟩
 have hb:Below w.heap.size w w1:=ah (by go_grown) hb1
 have q:=(af.new w 228 [.string ⟨#[]⟩,.string ⟨#[]⟩]).on hb1
 have c0:=q.2 0 _ rfl
 have c1:=q.2 1 _ rfl
 have hlt:w.heap.size<w1.heap.size:=q.1
 have q1:=q.set 0 (.string key) (by simp)
 have q2:=q1.set 1 (.string v) (by simp)
 have E0:Hid _:=((q1.2 0 (.string key) rfl).1)
 have E1:Hid _:=((q2.2 1 (.string v) rfl).1)
 clear q1 q2
 obtain ⟨c0,f0⟩:=c0
 obtain ⟨c1,f1⟩:=c1
 clear HG q hb1
 go_wp2_with fail
 refine bodyPost_ret (v:=.tuple #[.agg #[.string key,.string v],.bool t]) (by simp [results,Tryz.results133,go_sem,hlt,E0.out,E1.out,Result.andThen]) rfl ⟨rfl,?_⟩
 exact (hb.setCell (Nat.le_refl _) _).setCell (Nat.le_refl _) _
abbrev iN (i:bC):List aG:=i.1.2.1
theorem aY.zz {A:Where} {w:World} {cs:List Value} {i:bC} (h:aY A w cs i):∃ h1 fB:Hd,cs[1]?=some (.slice h1.1 h1.2.1 h1.2.2)/\cs[8]?=some (.int .i64 i.1.2.2.2.2.2.2)/\cs[14]?=some (.slice fB.1 fB.2.1 fB.2.2)/\ag ak 2 32 A w h1.1 h1.2.1 h1.2.2 (iN i)/\ag au 1 16 A w fB.1 fB.2.1 fB.2.2 i.2.2.2.2:=by
 obtain ⟨h1,h2,h9,aO,fB,rfl,_,s1,_,_,_,s14⟩:=h.out
 exact ⟨h1,fB,rfl,rfl,rfl,s1,s14⟩
end Go.Proofs.YtgikfenllgldoaaGreat
