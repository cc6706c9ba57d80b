/- Functions of the program, each walked under the conditions that its theorem names. -/
import Derived.WideKeyEntry
import Derived.Maps.Range
import Derived.Maps.OwnSet
import Derived.Sort.KeysCollected
import Derived.Great.BuildSlice
import Derived.Deep.CutBlock
import Derived.Test.YtgikfenllgldoaaGreatQ17
set_option linter.unusedSimpArgs false
set_option maxRecDepth 100000
set_option maxHeartbeats 32000000
namespace Go.Proofs.YtgikfenllgldoaaGreat
open Go.Proofs.Tryz
open Go.RowKit
theorem PW {α:Type} {lt eq:α->α->Bool} (he:∀ a b,eq a b=true->a=b) (s x:α):∀ L:List α,x∈insB lt eq L s↔x∈L\/x=s
 | []=>by simp [insB]
 | y :: L=>by
  have ih:=PW (lt:=lt) he s x L
  unfold insB
  split
  ·simp only [List.mem_cons,ih]
   constructor
   ·rintro (h | h | h)
    ·exact .inl (.inl h)
    ·exact .inl (.inr h)
    ·exact .inr h
   ·rintro ((h | h) | h)
    ·exact .inl h
    ·exact .inr (.inl h)
    ·exact .inr (.inr h)
  ·split
   ·rename_i h1 h2
    have:=he _ _ h2
    subst this
    simp only [List.mem_cons]
    constructor
    ·intro h;exact .inl h
    ·rintro (h | h)
     ·exact h
     ·exact .inl h
   ·simp only [List.mem_cons]
    constructor
    ·rintro (h | h | h)
     ·exact .inr h
     ·exact .inl (.inl h)
     ·exact .inl (.inr h)
    ·rintro ((h | h) | h)
     ·exact .inr (.inl h)
     ·exact .inr (.inr h)
     ·exact .inl h
theorem XM {α:Type} {lt eq:α->α->Bool} (he:∀ a b,eq a b=true->a=b) (x:α):∀ (L M:List α),x∈L.foldl (insB lt eq) M↔x∈M\/x∈L
 | [],M=>by simp
 | y :: L,M=>by
  rw [List.foldl_cons,XM he x L (insB lt eq M y),PW he]
  simp only [List.mem_cons]
  constructor
  ·rintro ((h | h) | h)
   ·exact .inl h
   ·exact .inr (.inl h)
   ·exact .inr (.inr h)
  ·rintro (h | h | h)
   ·exact .inl (.inl h)
   ·exact .inl (.inr h)
   ·exact .inr h
theorem XK {α:Type} {lt eq:α->α->Bool} (he:∀ a b,eq a b=true->a=b) (x:α) (L:List α):x∈aN lt eq L↔x∈L:=by
 unfold aN;rw [XM he];simp
theorem Cc (a b:Int):dM a b=true↔a=b:=by simp [dM]
theorem mem_sorted (x:ByteArray) (L:List ByteArray):x∈aN dh ay L↔x∈L:=XK (fun a b h=>(eZ a b).1 h) x L
end Go.Proofs.YtgikfenllgldoaaGreat
namespace Go.Proofs.YtgikfenllgldoaaGreat
open Go.Proofs.Tryz
open Go.RowKit Go.Maps Go.ChangeMaps
theorem aaC:WideMaps.KeyLaw prog 228:=deep_law_laid Xi (m:=2) (by omega) zh (by kernel_rfl) Bt
theorem zEK {w:World} {b:Nat} {o:Obj} (h:w.heap[b]?=some o):setBlock w b o=w:=by
 unfold setBlock
 have e:w.heap.setIfInBounds b o=w.heap:=by
  apply Array.ext_getElem?
  intro i
  by_cases hi:b=i
  ·subst hi
   rw [h]
   have:=(Array.getElem?_eq_some_iff.1 h).1
   simp [this]
  ·simp [Array.getElem?_setIfInBounds,hi]
 rw [e]
theorem zDN (w:World) (b:Nat) (o p:Obj):setBlock (setBlock w b o) b p=setBlock w b p:=by simp [setBlock]
theorem zDM {w:World} {b:Nat} {es:Array MapEntry} {ck:Nat} (hb:w.heap[b]?=some (.map es ck)) (es':Array MapEntry) (ck':Nat):w.grownBy (setBlock w b (.map es' ck')) (some b) :=
 World.mapTurned.grown ⟨es,ck,es',ck',hb,rfl⟩
abbrev NA (w:World) (mb n:Nat) (D:DataW Unit):Prop:=w.ownsMap prog 228 (plainElem prog 3) mb n D
theorem Pk {w:World} {mb n:Nat} {D:DataW Unit} (h:NA w mb n D) (t:TypeId) (ht:prog.underlying t=some (.map 228 3)) {K:Value} {kl:Lit} (hk:keyOf prog 228 K=some kl) {c0:Int} (hat:D.atKey kl (.lit (.int .i64 0))=.lit (.int .i64 c0)) (hn:n<140737488355328) :
  ∃ (v0:Value) (st:Int) (u1:World),(Instr.mapEntry t (.map (some mb)) K).run prog w=.ok (.tuple #[v0,.int .i64 st]) u1/\w.grownBy u1 (some mb) /\
   (Instr.lookup t (.map (some mb)) K false).run prog u1=.ok (.int .i64 c0) u1 /\
   ∀ c,(Lit.int .i64 c).wf=true->∃ w',(Instr.entryStore t (.map (some mb)) (.int .i64 st) (.int .i64 c)).run prog u1=.ok () w'/\NA w' mb (n+1) (D.put kl (.lit (.int .i64 c)))/\w.grownBy w' (some mb):=by
 have hown:=h
 have hnm:n<maxLen:=Nat.lt_of_lt_of_le hn Qa
 obtain ⟨c1,hrun,SV,_⟩:=hown.lookup_int oM ht underlying3 (yT w) hk
 obtain rfl:c0=c1:=by rw [hat] at SV;simpa using SV
 obtain ⟨es,clock,hb,F,hs,hD⟩:=h
 obtain ⟨v0,st,es1,clock1,hme,_,hst⟩:=WideElems.entry_then_store aaC ht (fun u=>yT u) hb F hk
 have hu1:(setBlock w mb (.map es1 clock1)).heap[mb]?=some (.map es1 clock1):=heap_setBlock_same hb _
 refine ⟨v0,st,setBlock w mb (.map es1 clock1),hme,zDM hb _ _,?_,fun c hc=>?_⟩
 ·rcases oM.find w hk es.toList F.keys with ⟨h1,h2⟩ | ⟨j,e0,h1,h2,h3⟩
  ·have zQ:(Instr.mapEntry t (.map (some mb)) K).run prog w=.ok (.tuple #[.int .i64 0,goInt clock]) (setBlock w mb (.map (es.push ⟨K,.int .i64 0,clock⟩) (clock+1))):=by
    simp [Instr.mapEntry,run_underlying ht,MapKept.run_getObj_map hb,oM.check w false hk,h1,yT,MapKept.run_setObj_map _ hb,Result.andThen,setBlock]
   have hup:(Instr.mapUpdate t (.map (some mb)) K (.int .i64 0)).run prog w=.ok () (setBlock w mb (.map (es.push ⟨K,.int .i64 0,clock⟩) (clock+1))):=by
    simp [Instr.mapUpdate,run_underlying ht,MapKept.run_getObj_map hb,oM.check w false hk,h1,MapKept.run_setObj_map _ hb,Result.andThen,setBlock]
   have hlk:(Instr.lookup t (.map (some mb)) K false).run prog w=.ok (.int .i64 0) w:=by
    simp [Instr.lookup,run_underlying ht,MapKept.run_getObj_map hb,oM.check w _ hk,h1,yT,Result.andThen]
   rw [hlk] at hrun
   obtain rfl:(0:Int)=c0:=by simpa using hrun
   rw [hme] at zQ
   have hw:setBlock w mb (.map es1 clock1)=setBlock w mb (.map (es.push ⟨K,.int .i64 0,clock⟩) (clock+1)):=by
    injection zQ
   obtain ⟨w',hu',hown',_⟩:=hown.update oM ht hnm hk (plainElem_int (H:=Unit) underlying3 (q:=.i64) (a:=0) (by decide))
   rw [hup] at hu'
   have hw':setBlock w mb (.map (es.push ⟨K,.int .i64 0,clock⟩) (clock+1))=w':=by injection hu'
   rw [hw,hw']
   obtain ⟨c2,hr2,ha2,_⟩:=hown'.lookup_int oM ht underlying3 (yT w') hk
   rw [atKey_put_same hown.isMap (oM.key hk)] at ha2
   obtain rfl:(0:Int)=c2:=by simpa using ha2
   exact hr2
  ·have hj:es[j]?=some e0:=by simpa using h2
   have hsame:es.modify j (fun e=>{ e with key:=K })=es:=by
    apply Array.ext'
    rw [Array.toList_modify,modify_eq_set _ _ _ _ h2]
    have:({ e0 with key:=K }:MapEntry)=e0:=by rw [<- h3]
    rw [this]
    exact WideElems.set_self _ _ _ h2
   have zQ:(Instr.mapEntry t (.map (some mb)) K).run prog w=.ok (.tuple #[e0.val,goInt e0.born]) (setBlock w mb (.map es clock)):=by
    simp [Instr.mapEntry,run_underlying ht,MapKept.run_getObj_map hb,oM.check w false hk,h1,hj,h3,oM.stays w hk,hsame,MapKept.run_setObj_map _ hb,Result.andThen,setBlock]
   rw [hme] at zQ
   have hw:setBlock w mb (.map es1 clock1)=setBlock w mb (.map es clock):=by injection zQ
   rw [hw,zEK hb]
   exact hrun
 ·obtain ⟨es',clock',he,hu⟩:=hst _ (.int .i64 c) hu1
  obtain ⟨w',hu',hown',hg'⟩:=hown.update oM ht hnm hk (plainElem_int (H:=Unit) underlying3 hc)
  rw [hu] at hu'
  have hw':setBlock w mb (.map es' clock')=w':=by injection hu'
  rw [zDN,hw'] at he
  exact ⟨w',he,hown',hg'⟩
def qW (f:aG->Int) (d:aG) (c:Int):aG->Int:=fun e=>if ay e.1 d.1 && ay e.2 d.2 then c else f e
theorem eqF {e d:aG}:(ay e.1 d.1 && ay e.2 d.2)=true↔e=d:=by
 rw [Bool.and_eq_true,eZ,eZ]
 exact ⟨fun h=>Prod.ext h.1 h.2,fun h=>by subst h;exact ⟨rfl,rfl⟩⟩
theorem LK (f:aG->Int) (d:aG) (c:Int):qW f d c d=c:=by unfold qW;rw [if_pos (eqF.2 rfl)]
theorem LW {f:aG->Int} {d e:aG} {c:Int} (h:e≠d):qW f d c e=f e:=by unfold qW;rw [if_neg (fun k=>h (eqF.1 k))]
theorem ng.put {D:DataW Unit} {f:aG->Int} (hm:IsMap D) (h:ng D f) {d:aG} (hd:iY d) {c:Int} (hc:c≠0):ng (D.put (kL d) (.lit (.int .i64 c))) (qW f d c):=by
 refine ⟨fun e he=>?_,fun k hk=>?_⟩
 ·by_cases q:e=d
  ·subst q;rw [has_put_same hm (Dp _),atKey_put_same hm (Dp _),LK];simp [hc]
  ·have hne:kL e≠kL d:=fun x=>q (FV he hd x)
   rw [has_put_other hne,atKey_put_other hne,LW q]
   exact h.1 e he
 ·by_cases q:k=kL d
  ·exact ⟨d,hd,q.symm⟩
  ·rw [has_put_other q] at hk;exact h.2 k hk
theorem ng.del {D:DataW Unit} {f:aG->Int} (h:ng D f) {d:aG} (hd:iY d) (c:DataW Unit):ng ((D.put (kL d) c).del (kL d)) (qW f d 0):=by
 refine ⟨fun e he=>?_,fun k hk=>?_⟩
 ·by_cases q:e=d
  ·subst q;rw [has_del_same,atKey_del_same,LK];simp
  ·have hne:kL e≠kL d:=fun x=>q (FV he hd x)
   rw [has_del_other hne,atKey_del_other hne,has_put_other hne,atKey_put_other hne,LW q]
   exact h.1 e he
 ·by_cases q:k=kL d
  ·exact ⟨d,hd,q.symm⟩
  ·rw [has_del_other q,has_put_other q] at hk;exact h.2 k hk
end Go.Proofs.YtgikfenllgldoaaGreat
namespace Go.Proofs.YtgikfenllgldoaaGreat
open Go.Proofs.Tryz
open Go.RowKit
theorem ES {α:Type} [Inhabited α] {R:bI α} {k:Nat} (hR:aJ R k) (hF:Flat R) {A:Where} {u:World} {B:Nat} {cs:List Value} {x:α} (hb:af u B cs) (hr:R (fun _=>True) u cs x):Src R k A u (some ⟨B,0,none⟩) 1 [x]:=by
 have h:ag R k 1 (fun _=>True) u (some ⟨B,0,none⟩) 1 1 [x]:=by
  refine ⟨rfl,Nat.le_refl _,(fun h=>by cases h),by decide,fun _=>⟨B,0,rfl,hb.1,trivial,fun i hi=>?_⟩⟩
  obtain rfl:i=0:=by omega
  refine ⟨cs,hr,fun j v hj=>?_⟩
  have:=(hb.2 j v hj).1
  simpa using this
 exact (h.src hR).flat hF
theorem Yd (st:VC) (K:List dI) (NL:List aG) (nm:ByteArray) (r:List ByteArray) (out:List bH):planL st K NL (nm :: r) out=match gD st K NL (out.map Prod.snd) nm with | .error e=>.error e | .ok none=>planL st K NL r out | .ok (some pk)=>planL st K NL r (out++[pk]):=rfl
theorem L8 {st:VC} {K:List dI} {NL:List aG}:∀ (P Q:List ByteArray) (out:List bH),planL st K NL (P++Q) out=match planL st K NL P out with | .error e=>.error e | .ok o=>planL st K NL Q o
 | [],Q,out=>rfl
 | nm :: P,Q,out=>by
  rw [List.cons_append,Yd,Yd]
  cases gD st K NL (out.map Prod.snd) nm with
  | error e=>rfl
  | ok o =>
   cases o with
   | none=>exact L8 P Q out
   | some pk=>exact L8 P Q (out++[pk])
theorem Fh {st:VC} {K:List dI} {NL:List aG} {L:List ByteArray} {k:Nat} {out:List bH} (hk:k<L.length) (h:planL st K NL (L.take k) []=.ok out) :
  (∀ e,gD st K NL (out.map Prod.snd) (L.getD k default)=.error e->planL st K NL L []=.error e)/\(gD st K NL (out.map Prod.snd) (L.getD k default)=.ok none->planL st K NL (L.take (k+1)) []=.ok out)/\∀ pk,gD st K NL (out.map Prod.snd) (L.getD k default)=.ok (some pk)->planL st K NL (L.take (k+1)) []=.ok (out++[pk]):=by
 have e1:L.take (k+1)=L.take k++[L.getD k default]:=by rw [List.take_succ_eq_append_getElem hk,List.getD_eq_getElem?_getD,List.getElem?_eq_getElem hk];rfl
 have e2:planL st K NL (L.take (k+1)) []=planL st K NL [L.getD k default] out:=by rw [e1,L8,h]
 refine ⟨fun e he=>?_,fun he=>?_,fun pk he=>?_⟩
 ·rw [<- List.take_append_drop (k+1) L,L8,e2]
  unfold planL
  rw [he]
 ·rw [e2]
  unfold planL
  rw [he]
  rfl
 ·rw [e2]
  unfold planL
  rw [he]
  rfl
theorem Lv:∀ a:List UInt8,Op.bytesLess a a=false
 | []=>rfl
 | a :: x=>by simp [Op.bytesLess,Lv x]
theorem Ap:∀ a b:List UInt8,a≠b->Op.bytesLess b a=!Op.bytesLess a b
 | [],[],h=>absurd rfl h
 | [],_ :: _,_=>rfl
 | _ :: _,[],_=>rfl
 | a :: x,b :: y,h=>by
  by_cases e:a=b
  ·subst e
   have ih:=Ap x y (fun e=>h (by rw [e]))
   simp [Op.bytesLess,ih]
  ·have hne:a.toNat≠b.toNat:=fun h'=>e (UInt8.toNat_inj.1 h')
   by_cases hl:a<b
   ·have h1:¬ b<a:=fun h'=>by have p:a.toNat<b.toNat:=hl;have q:b.toNat<a.toNat:=h';omega
    have e2:¬ b=a:=fun e'=>e e'.symm
    simp [Op.bytesLess,hl,h1,e2]
   ·have h1:b<a:=by
     show b.toNat<a.toNat
     have:¬ a.toNat<b.toNat:=hl
     omega
    simp [Op.bytesLess,hl,h1,e]
theorem Er:∀ a b c:List UInt8,Op.bytesLess a b=true->Op.bytesLess b c=true->Op.bytesLess a c=true
 | _,[],_,h,_=>by simp [Op.bytesLess] at h
 | _,_ :: _,[],_,h=>by simp [Op.bytesLess] at h
 | [],_ :: _,_ :: _,_,_=>rfl
 | a :: x,b :: y,c :: z,h1,h2=>by
  simp only [Op.bytesLess,Bool.or_eq_true,Bool.and_eq_true,decide_eq_true_eq,beq_iff_eq] at h1 h2 |-
  rcases h1 with h1 | ⟨rfl,h1⟩ <;> rcases h2 with h2 | ⟨rfl,h2⟩
  ·exact .inl (UInt8.lt_trans h1 h2)
  ·exact .inl h1
  ·exact .inl h2
  ·exact .inr ⟨rfl,Er x y z h1 h2⟩
section
variable {α:Type} {lt eq:α->α->Bool}
structure xK (lt eq:α->α->Bool):Prop where
 eqi:∀ a b,eq a b=true↔a=b
 ZG:∀ a,lt a a=false
 tr:∀ a b c,lt a b=true->lt b c=true->lt a c=true
 tot:∀ a b,a≠b->lt a b=true\/lt b a=true
def nO (lt:α->α->Bool) (L:List α):Prop:=L.Pairwise (fun a b=>lt a b=true)
theorem nO.ins (h:xK lt eq) (s:α):∀ L:List α,nO lt L->nO lt (insB lt eq L s)
 | [],_=>by simp [insB,nO]
 | x :: xs,hL=>by
  obtain ⟨h1,h2⟩:=List.pairwise_cons.1 hL
  unfold insB
  split
  ·rename_i h3
   refine List.pairwise_cons.2 ⟨fun y hy=>?_,nO.ins h s xs h2⟩
   rcases (PW (fun a b e=>(h.eqi a b).1 e) s y xs).1 hy with h4 | h4
   ·exact h1 y h4
   ·rw [h4];exact h3
  ·split
   ·exact hL
   ·rename_i h3 h4
    have hne:x≠s:=fun e=>h4 ((h.eqi x s).2 e)
    have hlt:lt s x=true:=(h.tot x s hne).resolve_left h3
    refine List.pairwise_cons.2 ⟨fun y hy=>?_,hL⟩
    rcases List.mem_cons.1 hy with h5 | h5
    ·rw [h5];exact hlt
    ·exact h.tr s x y hlt (h1 y h5)
theorem nO.sort (h:xK lt eq) (L:List α):nO lt (aN lt eq L):=by
 unfold aN
 suffices H:∀ (L M:List α),nO lt M->nO lt (L.foldl (insB lt eq) M) from H L [] List.Pairwise.nil
 intro L
 induction L with
 | nil=>intro M hM;exact hM
 | cons x L ih=>intro M hM;exact ih _ (nO.ins h x M hM)
theorem nO.one (h:xK lt eq):∀ L M:List α,nO lt L->nO lt M->(∀ x,x∈L↔x∈M)->L=M
 | [],[],_,_,_=>rfl
 | [],y :: ys,_,_,hm=>absurd ((hm y).2 List.mem_cons_self) (by simp)
 | x :: xs,[],_,_,hm=>absurd ((hm x).1 List.mem_cons_self) (by simp)
 | x :: xs,y :: ys,hL,hM,hm=>by
  obtain ⟨a1,a2⟩:=List.pairwise_cons.1 hL
  obtain ⟨b1,b2⟩:=List.pairwise_cons.1 hM
  have e:x=y:=by
   rcases List.mem_cons.1 ((hm x).1 List.mem_cons_self) with h1 | h1
   ·exact h1
   ·rcases List.mem_cons.1 ((hm y).2 List.mem_cons_self) with h2 | h2
    ·exact h2.symm
    ·have:=h.tr x y x (a1 y h2) (b1 x h1)
     rw [h.ZG] at this
     cases this
  subst e
  have ne:∀ z,lt x z=true->z≠x:=fun z hz e=>by rw [e,h.ZG] at hz;cases hz
  rw [nO.one h xs ys a2 b2 (fun z=>⟨fun hz=>?_,fun hz=>?_⟩)]
  ·exact (List.mem_cons.1 ((hm z).1 (List.mem_cons_of_mem _ hz))).resolve_left (ne z (a1 z hz))
  ·exact (List.mem_cons.1 ((hm z).2 (List.mem_cons_of_mem _ hz))).resolve_left (ne z (b1 z hz))
end
theorem Rs:xK fD dM:=⟨Cc,by simp [fD],by simp only [fD,decide_eq_true_eq];omega,by simp only [fD,decide_eq_true_eq];omega⟩
theorem toList_inj {a b:ByteArray} (h:a.toList=b.toList):a=b:=(eZ a b).1 (by simp [ay,h])
theorem aav:xK dh ay:=⟨eZ,fun a=>Lv _,fun a b c h1 h2=>Er _ _ _ h1 h2,fun a b h=>by
 have:=Ap a.toList b.toList (fun e=>h (toList_inj e))
 unfold dh
 cases h1:Op.bytesLess a.toList b.toList
 ·right;rw [this,h1];rfl
 ·left;rfl⟩
def vz (u:kz) (L:List aB):kz:=L.foldl (fun u p=>yM u (kC p)) u
def sW (n:aX) (L:List aB):bC:=(n,aN dh ay (L.map (·.1)),vz (0,0,0) L,aN fD dM (L.flatMap iB),aN dh ay (L.flatMap iH))
end Go.Proofs.YtgikfenllgldoaaGreat
namespace Go.Proofs.YtgikfenllgldoaaGreat
open Go.Proofs.Tryz
open Go.RowKit Go.Maps Go.ChangeMaps
theorem vZ:Keyed prog 9:=string_keyed underlying9
theorem yU:(140737488355328:Nat)<=maxLen:=by decide
theorem Ec (w:World):(zeroValue 3).run prog w=.ok (.int .i64 0) w:=by kernel_rfl
def kT (s:ByteArray):Lit:=.string s.data.toList
theorem Lt {s:ByteArray} (h:s.size<=140737488355328):keyOf prog 9 (.string s)=some (kT s):=WideMaps.keyOf_string_mk underlying9 (Nat.le_trans h yU)
theorem yP (s:ByteArray):WideAt.IsKeyLit (kT s):=by unfold kT;trivial
theorem FT {s t:ByteArray} (h:kT s=kT t):s=t:=by
 unfold kT at h
 simp only [Lit.string.injEq] at h
 cases s;cases t
 simpa using h
abbrev yS (w:World) (mb n:Nat) (D:DataW Unit):Prop:=w.ownsMap prog 9 (plainElem prog 3) mb n D
def bu (w:World) (mb n:Nat) (f:ByteArray->Nat) (q:ByteArray->Bool):Prop :=
 ∃ D:DataW Unit,yS w mb n D/\(∀ s,Maps.has D (kT s)=q s/\D.atKey (kT s) (.lit (.int .i64 0))=.lit (.int .i64 (f s:Int)))/\∀ s,f s<=n
theorem bu.lt {w:World} {mb n:Nat} {f:ByteArray->Nat} {q:ByteArray->Bool} (h:bu w mb n f q):mb<w.heap.size:=by obtain ⟨D,h1,_⟩:=h;exact h1.lt
theorem bu.same {w w':World} {mb n:Nat} {f:ByteArray->Nat} {q:ByteArray->Bool} (h:bu w mb n f q) (hb:w'.heap[mb]?=w.heap[mb]?):bu w' mb n f q:=by
 obtain ⟨D,⟨es,ck,h1,h2⟩,h3⟩:=h
 exact ⟨D,⟨es,ck,hb.trans h1,h2⟩,h3⟩
theorem bu.on {w w':World} {mb n:Nat} {f:ByteArray->Nat} {q:ByteArray->Bool} (h:bu w mb n f q) (hb:Below w.heap.size w w'):bu w' mb n f q:=h.same (hb.block mb h.lt)
theorem bu.turned {w w':World} {mb n:Nat} {f:ByteArray->Nat} {q:ByteArray->Bool} {F:Where} (h:bu w mb n f q) (ht:bq F w w') (hF:¬ F mb):bu w' mb n f q:=h.same (ht.block mb h.lt hF)
theorem bu.made (w:World):bu (w.alloc (.map #[] 0)) w.heap.size 0 (fun _=>0) (fun _=>false) :=
 ⟨.map [],World.ownsMap_made _ _ _ _,fun _=>⟨rfl,rfl⟩,fun _=>Nat.le_refl _⟩
theorem bu.mono {w:World} {mb n n':Nat} {f:ByteArray->Nat} {q:ByteArray->Bool} (h:bu w mb n f q) (hn:n<=n'):bu w mb n' f q:=by
 obtain ⟨D,h1,h2,h3⟩:=h
 exact ⟨D,h1.mono hn,h2,fun s=>Nat.le_trans (h3 s) hn⟩
theorem bu.as {w:World} {mb n:Nat} {f g:ByteArray->Nat} {q r:ByteArray->Bool} (h:bu w mb n f q) (e:∀ s,f s=g s) (e':∀ s,q s=r s):bu w mb n g r:=by
 obtain rfl:f=g:=funext e
 obtain rfl:q=r:=funext e'
 exact h
theorem bu.le {w:World} {mb n:Nat} {f:ByteArray->Nat} {q:ByteArray->Bool} (h:bu w mb n f q) (s:ByteArray):f s<=n:=by obtain ⟨_,_,_,h3⟩:=h;exact h3 s
theorem bu.look {w:World} {mb n:Nat} {f:ByteArray->Nat} {q:ByteArray->Bool} (h:bu w mb n f q) (t:TypeId) (ht:prog.underlying t=some (.map 9 3)) {s:ByteArray} (hs:s.size<=140737488355328) :
  (Instr.lookup t (.map (some mb)) (.string s) false).run prog w=.ok (.int .i64 (f s:Int)) w:=by
 obtain ⟨D,h1,h2,_⟩:=h
 obtain ⟨c,hrun,hat,_⟩:=h1.lookup_int vZ ht underlying3 (Ec w) (Lt hs)
 rw [(h2 s).2] at hat
 obtain rfl:(f s:Int)=c:=by simpa using hat
 exact hrun
def Bw (f:ByteArray->Nat) (s:ByteArray):ByteArray->Nat:=fun t=>if ay t s=true then f t+1 else f t
def EK (q:ByteArray->Bool) (s:ByteArray):ByteArray->Bool:=fun t=>q t || ay t s
theorem bu.inc {w:World} {mb n:Nat} {f:ByteArray->Nat} {q:ByteArray->Bool} (h:bu w mb n f q) (t:TypeId) (ht:prog.underlying t=some (.map 9 3)) {s:ByteArray} (hs:s.size<=140737488355328) (hn:n<140737488355328) :
  ∃ w':World,(Instr.mapUpdate t (.map (some mb)) (.string s) (.int .i64 ((f s:Int)+1))).run prog w=.ok () w'/\bu w' mb (n+1) (Bw f s) (EK q s)/\w.grownBy w' (some mb):=by
 obtain ⟨D,h1,h2,h3⟩:=h
 have hle:=h3 s
 obtain ⟨w',hes,hown,hg'⟩:=h1.update vZ ht (Nat.lt_of_lt_of_le hn yU) (Lt hs) (plainElem_int (H:=Unit) underlying3 (q:=.i64) (a:=(f s:Int)+1) (WalkArith.wf_i64 (by omega)))
 refine ⟨w',hes,⟨_,hown,fun t=>?_,fun t=>?_⟩,hg'⟩
 ·unfold Bw EK
  by_cases e:ay t s=true
  ·rw [if_pos e,e,(eZ _ _).1 e,has_put_same h1.isMap (yP _),atKey_put_same h1.isMap (yP _)]
   exact ⟨by simp,by simp⟩
  ·have hne:kT t≠kT s:=fun x=>e ((eZ _ _).2 (FT x))
   rw [if_neg e,has_put_other hne,atKey_put_other hne,(h2 t).1,(h2 t).2]
   simp only [Bool.not_eq_true] at e
   rw [e]
   exact ⟨by simp,rfl⟩
 ·have:=h3 t
  unfold Bw
  split <;> omega
theorem GM:∀ a b:List UInt8,Lib.compareBytes a b<0->a<=b
 | [],_,_=>List.nil_le _
 | _ :: _,[],h=>by simp [Lib.compareBytes] at h
 | a :: xs,b :: ys,h=>by
  rw [List.cons_le_cons_iff]
  rcases xM a b xs ys with ⟨p,e⟩ | ⟨p,e⟩ | ⟨p,e⟩
  ·exact .inl (UInt8.lt_iff_toNat_lt.2 p)
  ·rw [e] at h;omega
  ·rw [e] at h;exact .inr ⟨UInt8.toNat_inj.1 p,GM xs ys h⟩
theorem FP {a b:ByteArray} (h:dh a b=true):a.data.toList<=b.data.toList:=GM _ _ ((uh a b).1 h)
theorem bu.keys {w:World} {mb n:Nat} {f:ByteArray->Nat} {q:ByteArray->Bool} (h:bu w mb n f q):∃ D:DataW Unit,yS w mb n D/\Maps.size D<=n /\
  ∀ (M:List ByteArray) (ss:List (List UInt8)),uX M->(∀ x,x∈M↔q x=true)->ss.Perm (strKeys D)->ss.mergeSort (fun x y=>decide (x<=y))=M.map (fun s=>s.data.toList):=by
 obtain ⟨D,h1,h2,h3⟩:=h
 refine ⟨D,h1,h1.size_le,fun M ss hM hq hp=>?_⟩
 have hnd:(M.map (fun s:ByteArray=>s.data.toList)).Nodup:=by
  refine List.pairwise_map.2 (hM.imp fun {a b} hab e=>?_)
  have:a=b:=by cases a;cases b;simpa using e
  subst this
  exact BF a hab
 have hperm:(M.map (fun s:ByteArray=>s.data.toList)).Perm (strKeys D):=by
  obtain ⟨es,hD,hpw,_⟩:=h1.entries vZ
  obtain ⟨es',hD',hko⟩:=h1.keysOf
  obtain rfl:es=es':=by rw [hD] at hD';simpa using hD'
  subst hD
  refine perm_strKeys hpw (fun p hp=>by obtain ⟨v,hv⟩:=hko p hp;obtain ⟨x,_,hx,_⟩:=Maps.keyOf_str underlying9 hv;exact ⟨x,hx⟩) hnd (fun x=>?_)
  have e:=(h2 ⟨x.toArray⟩).1
  rw [show kT ⟨x.toArray⟩=.string x from by simp [kT]] at e
  rw [e,<- hq,List.mem_map]
  constructor
  ·rintro ⟨s,hs,rfl⟩;simpa using hs
  ·intro hx;exact ⟨_,hx,by simp⟩
 have e1:=mergeSort_of_perm (hp.trans hperm.symm)
 rw [show (fun x y:List UInt8=>decide (x<=y))=leB from rfl,e1]
 refine List.mergeSort_of_pairwise (List.pairwise_map.2 (hM.imp fun {a b} hab=>?_))
 simpa [leB] using FP hab
end Go.Proofs.YtgikfenllgldoaaGreat
namespace Go.Proofs.YtgikfenllgldoaaGreat
open Go.Proofs.Tryz
open Go.RowKit Go.Maps
def eQ (f:aG->Int) (q:aG->Bool) (c:Int):aG->Int:=fun d=>f d+(if q d=true then c else 0)
theorem X6 {f:aG->Int} {q:aG->Bool} {c:Int} (h:∀ d,q d=false):∀ d,f d=eQ f q c d:=fun d=>by unfold eQ;rw [h d];simp
theorem Lf {f:aG->Int} {L:List aG} {key:ByteArray} {c:Int} (h:(getL L key).2=true):∀ e,qW f (gG L key) (f (gG L key)+c) e=eQ f (qL L key) c e:=fun e=>by
 by_cases q:e=gG L key
 ·subst q;unfold eQ;rw [LK,if_pos (LC.2 ⟨h,rfl⟩)]
 ·unfold eQ;rw [LW q,if_neg (fun k=>q (LC.1 k).2)];simp
theorem AU {A:Where} {w:World} {a:Option Addr} {n cap:Nat} {L:List aG} (h:ag ak 2 32 A w a n cap L):∀ l∈L,iY l:=(Lx h).2.1
theorem Ae {L:List aG} {key:ByteArray} (hk:key.size<=140737488355328) (hL:∀ l∈L,iY l) (h:(getL L key).2=true):iY (gG L key):=⟨hk,(hL _ (Xr h)).2⟩
def UR (B mb:Nat) (key v:ByteArray) (c:Int) (u:World):Prop:=u.cell? ⟨B,0,none⟩=some (.string key)/\u.cell? ⟨B,1,none⟩=some (.string v)/\(Instr.lookup 157 (.map (some mb)) (.agg #[.string key,.string v]) false).run prog u=.ok (.int .i64 c) u
theorem YU {w:World} {mb N:Nat} {f:aG->Int} (hc:Hid (bF w mb N f)) (hN:N<70368744177664) (a:Option Addr) (n cap:Nat) (A:Where) (L:List aG) (key:ByteArray) (dx:Int) (hL:Hid (ag ak 2 32 A w a n cap L)) (hk:key.size<=140737488355328) (hby:dx=1\/dx=-1) :
  Calls prog 105 #[.map (some mb),.slice a n cap,.string key,.int .i64 dx] w fun e w'=>e=.returned (.tuple #[])/\bF w' mb (N+1) (eQ f (qL L key) dx)/\bq (fun b=>b=mb) w w':=by
 have hD:=Qs a n cap A L key w hL
 have HO:Hid ((getL L key).2=true->iY (gG L key)):=Ae hk (AU hL.out)
 have HF:Hid ((getL L key).2=false->∀ d,f d=eQ f (qL L key) dx d):=fun h=>X6 (fun d=>by unfold qL;rw [h];rfl)
 have HA:Hid ((getL L key).2=true->∀ e,qW f (key,(getL L key).1) (f (key,(getL L key).1)+dx) e=eQ f (qL L key) dx e):=fun h=>Lf h
 have HB:=hc.out.le (gG L key)
 simp only [gG] at HO HB
 clear hL
 generalize hg:eQ f (qL L key) dx=g at HF HA |-
 clear hg
 generalize (getL L key).1=v at hD HO HA HB
 generalize (getL L key).2=t at hD HO HF HA
 go_enter func105,ntmps105
 go_wp2_with fail
 refine hD.mono ?_
 clear hD
 rintro e w1 ⟨rfl,hb1⟩
 cases t
 ·have HC:Hid (bF w1 mb (N+1) g):=((hc.out.on hb1).mono (Nat.le_succ _)).as (HF.out rfl)
  clear HO HF HA HB hc
  go_wp2_with fail
  refine bodyPost_ret (results_none rfl _ _ _) rfl ?_
  exact ⟨rfl,HC.out.on (by go_grown),bq.below (ah hb1 (by go_grown))⟩
 ·have hok:=HO.out rfl
  have hA:=HA.out rfl
  clear HF HO HA
  obtain ⟨W2,hW2⟩:∃ W,W=w1.alloc (.cells #[.string key,.string v] 228):=⟨_,rfl⟩
  have B2:Below w.heap.size w W2:=by rw [hW2];exact ah hb1 (by go_grown)
  have q:af W2 w1.heap.size [.string key,.string v]:=by rw [hW2];exact af.new w1 228 [.string key,.string v]
  have hcm:=hc.out.on B2
  have hne:w1.heap.size≠mb:=fun e=>by have h1:=hc.out.lt;have h2:=hb1.size;omega
  obtain ⟨D,hown,hT,hle⟩:=hcm
  obtain ⟨v0,st,u1,hme,hg1,Sj,hst⟩:=Pk hown.drew 157 underlying157 (AV hok) (hT.1 _ hok).2 (by omega)
  have hwf:(Lit.int .i64 (f (key,v)+dx)).wf=true:=WalkArith.wf_i64 (by omega)
  obtain ⟨w',hes,hown',hg'⟩:=hst _ hwf
  have Sk:(Instr.lookup 157 (.map (some mb)) (.agg #[.string key,.string v]) false).run prog W2.drew=.ok (.int .i64 (f (key,v))) W2.drew:=bF.look ⟨D,hown.drew,hT,hle⟩ _ underlying157 hok
  have HS0:Hid (UR w1.heap.size mb key v (f (key,v)) W2.drew):=⟨(q.2 0 _ rfl).1,(q.2 1 _ rfl).1,Sk⟩
  have hc1:∀ j,u1.cell? ⟨w1.heap.size,j,none⟩=W2.cell? ⟨w1.heap.size,j,none⟩:=fun j=>World.cell?_of_block (w:=W2.drew) (hg1.block _ q.1 (by simpa using hne))
  have NQ:Hid (UR w1.heap.size mb key v (f (key,v)) u1):=⟨(hc1 0).trans (q.2 0 _ rfl).1,(hc1 1).trans (q.2 1 _ rfl).1,Sj⟩
  have hc2:∀ j,w'.cell? ⟨w1.heap.size,j,none⟩=W2.cell? ⟨w1.heap.size,j,none⟩:=fun j=>World.cell?_of_block (w:=W2.drew) (hg'.block _ q.1 (by simpa using hne))
  have e0:=(hc2 0).trans (q.2 0 _ rfl).1
  have e1:=(hc2 1).trans (q.2 1 _ rfl).1
  have HT2:Hid (bq (fun b=>b=mb) w w'):=(bq.below B2.drew).trans (bq.grown hg' (fun b e=>by simpa using e.symm))
  have hm:IsMap D:=hown.isMap
  obtain ⟨c2,hlk2,ha2,_⟩:=hown'.lookup_int oM underlying157 underlying3 (yT w') (AV hok)
  rw [atKey_put_same hm (Dp _)] at ha2
  obtain rfl:f (key,v)+dx=c2:=by simpa using ha2
  have vT:Hid (∀ e,-((N+1:Nat):Int)<=g e/\g e<=((N+1:Nat):Int)):=fun e=>by
   rw [<- hA e]
   by_cases qe:e=(key,v)
   ·subst qe;rw [LK];omega
   ·rw [LW qe];have:=hle e;omega
  have HP:Hid (f (key,v)+dx≠0->ng (D.put (kL (key,v)) (.lit (.int .i64 (f (key,v)+dx)))) g):=fun hz=>by
   have:=hT.put hm hok hz
   rwa [show qW f (key,v) (f (key,v)+dx)=g from funext hA] at this
  have HQ:Hid (f (key,v)+dx=0->ng ((D.put (kL (key,v)) (.lit (.int .i64 (f (key,v)+dx)))).del (kL (key,v))) g):=fun hz=>by
   have h1:=hT.del hok (.lit (.int .i64 (f (key,v)+dx)))
   have h2:=funext hA
   rw [hz] at h2
   rwa [show qW f (key,v) 0=g from h2] at h1
  clear hA hT ha2 hm
  have hsum:-9223372036854775808<=f (key,v)+dx/\f (key,v)+dx<=9223372036854775807:=by omega
  have hwr:IntKind.i64.wrap (f (key,v)+dx)=f (key,v)+dx:=IntWalk.i64_in _ hsum
  generalize hfc:f (key,v)=c at *
  clear Sk Sj hst hg1 hg' hc1 hc2 q B2 hb1 hwf hown hle hc hN HB hfc f
  go_upto_region 2 with fail
  rw [<- hW2]
  clear hW2
  refine u0 7 (UR w1.heap.size mb key v c) HS0.out (fun gH=>?_)
  refine' uk 0 ?_ ?_;rotate_left
  ·intro u ⟨_,_,_⟩;go_simp;try with_reducible rfl
  try go_frame
  refine' uk 1 ?_ ?_;rotate_left
  ·intro u ⟨_,_,_⟩;go_simp;try with_reducible rfl
  try go_frame
  refine' uk 3 ?_ ?_;rotate_left
  ·intro u ⟨_,_,_⟩;go_simp;try with_reducible rfl
  try go_frame
  refine' uk 2 ?_ ?_;rotate_left
  ·intro u ⟨_,_,_⟩;go_simp;try with_reducible rfl
  try go_frame
  refine' uk 4 ?_ ?_;rotate_left
  ·intro u ⟨_,_,_⟩;go_simp;try with_reducible rfl
  try go_frame
  refine ur 5 (fun K hK=>?_)
  go_simp
  refine hK.out _ _ NQ.out (fun gI=>?_)
  clear hK K gH;have gH:=gI;clear gI
  try go_frame
  refine' uk 6 ?_ ?_;rotate_left
  ·intro u ⟨_,_,_⟩;go_simp;try with_reducible rfl
  try go_frame
  refine uz 7 (fun K hK=>?_)
  go_simp
  refine hK.out _ (NoPanic.normal ?_)
  try go_frame
  clear hK K gH
  by_cases hz:c+dx=0
  ·have HE:=HQ.out hz
   have hz':(c+dx == 0)=true:=by simpa using hz
   have hzr:Hid (c+dx=0):=hz
   clear hz HP HQ
   go_wp2_with (first | (at_delete;refine wpList_delete_own _ rfl _ _ 157 228 rfl 3 oM underlying157 _ mb (N+1) _ rfl hown' _ _ rfl (AV hok) ?_;intro w3 hown3 RU) | fail)
   go_end0
   exact ⟨rfl,⟨_,hown3,HE,vT.out⟩,HT2.out.trans (bq.map RU rfl)⟩
  ·have HE:=HP.out hz
   have hz':(c+dx == 0)=false:=by simpa using hz
   clear hz HP HQ
   go_wp2_with fail
   go_end0
   exact ⟨rfl,⟨_,hown',HE,vT.out⟩,HT2.out⟩
end Go.Proofs.YtgikfenllgldoaaGreat
namespace Go.Proofs.YtgikfenllgldoaaGreat
open Go.Proofs.Tryz
open Go.RowKit
abbrev ky (p:aB):List ByteArray:=p.2.2.2.2.2.2.2.2.2.2.2.1
abbrev wh (i:bC):List ByteArray:=i.2.2.2.2
abbrev Dr (i:bC):Int:=i.1.2.2.2.2.2.2
theorem aj.WG {A:Where} {w:World} {cs:List Value} {p:aB} (h:aj A w cs p):∃ aO:Hd,cs[13]?=some (.slice aO.1 aO.2.1 aO.2.2)/\ag au 1 16 A w aO.1 aO.2.1 aO.2.2 (ky p):=by
 obtain ⟨h2,h6,h7,h8,h9,h10,h11,h12,aO,rfl,_,_,_,_,_,_,_,_,_,s13,_⟩:=h.out
 exact ⟨aO,rfl,s13⟩
theorem Row.iW {α:Type} [Inhabited α] {R:bI α} {k:Nat} (hR:aJ R k) {bytes:Nat} {A:Where} {w0 u:World} {e:TypeId} {v:Value} {L:List α} (h:Row R k A w0 u e v L) (hb:L.length*bytes<=140737488351232) :
  ∃ a n cap,v=.slice a n cap/\ag R k bytes (fun _=>True) u a n cap L:=by
 obtain ⟨xs,h1,h2⟩:=h
 obtain ⟨a,cap,e1,h3⟩:=yZ (bytes:=bytes) hR h1.2 h2 hb
 exact ⟨a,_,cap,e1,h3.weak hR (fun b _ _=>trivial)⟩
theorem Jy:(prog.info? 73).map (fun i=>(i.zero,i.size,i.bytes))=some (some (.agg #[.string ⟨#[]⟩,.string ⟨#[]⟩]),2,32):=by kernel_rfl
def fO (F:List aB):List ByteArray:=F.map (·.1)
def dD (F:List aB) (p:aB):List aB:=if hasB ay (fO F) p.1=true then F else F++[p]
def aS (L:List aB):List aB:=L.foldl dD []
def ek (F:List aB):Eb:=(fO F,vz (0,0,0) F,F.flatMap iB,F.flatMap iH)
theorem IP (F:List aB) (p:aB):zu (ek F) p=ek (dD F p):=by
 unfold zu dD
 show (if hasB ay (fO F) p.1=true then ek F else _)=_
 split
 ·rfl
 ·simp [ek,fO,vz]
theorem IU:∀ (L F:List aB),L.foldl zu (ek F)=ek (L.foldl dD F)
 | [],_=>rfl
 | p :: L,F=>by rw [List.foldl_cons,List.foldl_cons,IP,IU]
theorem Qp (L:List aB) {k:Nat} (hk:k<L.length):aS (L.take (k+1))=dD (aS (L.take k)) (L.getD k default):=by
 rw [<- nH hk];simp [aS]
theorem Pe (F:List aB) (p:aB):(dD F p).length<=F.length+1:=by unfold dD;split <;> simp
theorem Ql (L:List aB):∀ k,k<=L.length->(aS (L.take k)).length<=k:=by
 intro k
 induction k with
 | zero=>intro _;simp [aS]
 | succ k ih =>
  intro hk
  rw [Qp L (by omega)]
  have:=Pe (aS (L.take k)) (L.getD k default)
  have:=ih (by omega)
  omega
theorem Cq (f:aB->Nat):∀ (L F:List aB),bg f (L.foldl dD F)<=bg f F+bg f L
 | [],F=>by simp [bg]
 | p :: L,F=>by
  rw [List.foldl_cons]
  have h:=Cq f L (dD F p)
  have h1:bg f (dD F p)<=bg f F+f p:=by
   unfold dD
   split
   ·omega
   ·rw [Ma];simp [bg]
  have h2:bg f (p :: L)=f p+bg f L:=by simp [bg]
  omega
end Go.Proofs.YtgikfenllgldoaaGreat
