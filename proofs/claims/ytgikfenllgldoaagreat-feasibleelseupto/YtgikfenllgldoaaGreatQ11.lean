/- Functions of the program, each walked under the conditions that its theorem names. -/
import Derived.Lib.Small
import Derived.Laws.OwnMore
import Derived.Maps.OwnSet
import Derived.Test.YtgikfenllgldoaaGreatQ00
import Derived.Test.YtgikfenllgldoaaGreatQ09
import Derived.Test.YtgikfenllgldoaaGreatQ10
set_option linter.unusedSimpArgs false
set_option maxRecDepth 100000
set_option maxHeartbeats 32000000
namespace Go.Proofs.YtgikfenllgldoaaGreat
open Go.Proofs.Tryz
def valL:List UInt8->Nat
 | []=>0
 | c :: cs=>(c.toNat - 48)*10 ^ cs.length+valL cs
theorem XA:∀ (l:List UInt8) (c:UInt8),valL (l++[c])=10*valL l+(c.toNat - 48)
 | [],c=>by simp [valL]
 | x :: l,c=>by
  simp only [List.cons_append,valL,XA l c,List.length_append,List.length_singleton,Nat.pow_succ]
  rw [Nat.mul_add,<- Nat.mul_assoc,Nat.mul_comm _ 10]
  omega
theorem Yf (s:ByteArray):∀ k,k<=s.size->numTo s k=valL (s.data.toList.take k)
 | 0,_=>by simp [numTo,valL]
 | k+1,h=>by
  have hk:k<s.data.toList.length:=by simp;omega
  rw [numTo,Yf s k (by omega),List.take_add_one,List.getElem?_eq_getElem hk,Option.toList_some,XA]
  congr 2
  unfold gT
  rw [List.getD_eq_getElem?_getD,List.getElem?_eq_getElem hk]
  rfl
theorem Ex (s:ByteArray):jE s=valL s.data.toList:=by
 rw [jE,Yf s s.size (Nat.le_refl _),List.take_of_length_le (by simp)]
theorem Ee:∀ (l:List UInt8),(∀ c∈l,iM c=true)->valL l<10 ^ l.length
 | [],_=>by simp [valL]
 | c :: l,h=>by
  have ih:=Ee l (fun x hx=>h x (by simp [hx]))
  have hd:=(Bd c).1 (h c (by simp))
  simp only [valL,List.length_cons,Nat.pow_succ]
  have:(c.toNat - 48)*10 ^ l.length<=9*10 ^ l.length:=Nat.mul_le_mul_right _ (by omega)
  omega
theorem Xv:∀ (l m:List UInt8),l.length=m.length->(∀ c∈l,iM c=true)->(∀ c∈m,iM c=true) ->
  (Lib.compareBytes l m=-1/\valL l<valL m)\/(Lib.compareBytes l m=0/\valL l=valL m)\/(Lib.compareBytes l m=1/\valL m<valL l)
 | [],[],_,_,_=>.inr (.inl ⟨rfl,rfl⟩)
 | [],_ :: _,h,_,_=>by simp at h
 | _ :: _,[],h,_,_=>by simp at h
 | a :: l,b :: m,h,hl,hm=>by
  have hlen:l.length=m.length:=by simpa using h
  have ih:=Xv l m hlen (fun x hx=>hl x (by simp [hx])) (fun x hx=>hm x (by simp [hx]))
  have b1:=Ee l (fun x hx=>hl x (by simp [hx]))
  have b2:=Ee m (fun x hx=>hm x (by simp [hx]))
  have ha:=(Bd a).1 (hl a (by simp))
  have hb:=(Bd b).1 (hm b (by simp))
  simp only [Lib.compareBytes,valL]
  rw [hlen] at b1 |-
  have key:∀ x y:Nat,x<y->x*10 ^ m.length+10 ^ m.length<=y*10 ^ m.length:=fun x y hxy=>by
   have:=Nat.mul_le_mul_right (10 ^ m.length) (show x+1<=y from hxy)
   rw [Nat.add_mul,Nat.one_mul] at this
   exact this
  by_cases h1:a<b
  ·have h1':a.toNat<b.toNat:=h1
   have:=key (a.toNat - 48) (b.toNat - 48) (by omega)
   rw [if_pos h1]
   exact .inl ⟨rfl,by omega⟩
  ·rw [if_neg h1]
   by_cases h2:b<a
   ·have h2':b.toNat<a.toNat:=h2
    have:=key (b.toNat - 48) (a.toNat - 48) (by omega)
    rw [if_pos h2]
    exact .inr (.inr ⟨rfl,by omega⟩)
   ·rw [if_neg h2]
    have h1':¬ a.toNat<b.toNat:=h1
    have h2':¬ b.toNat<a.toNat:=h2
    have:a.toNat=b.toNat:=by omega
    rw [this]
    rcases ih with ⟨e,hh⟩ | ⟨e,hh⟩ | ⟨e,hh⟩
    ·exact .inl ⟨e,by omega⟩
    ·exact .inr (.inl ⟨e,by omega⟩)
    ·exact .inr (.inr ⟨e,by omega⟩)
theorem Qk {s:ByteArray} (h:dm s=true):1<=s.size/\s.size<=15/\¬(1<s.size/\(gT s 0).toNat=48)/\∀ c∈s.data.toList,iM c=true:=by
 simp only [dm,Bool.and_eq_true,decide_eq_true_eq,Bool.not_eq_true',Bool.and_eq_false_iff,decide_eq_false_iff_not] at h
 obtain ⟨⟨⟨h1,h2⟩,h3⟩,h4⟩:=h
 refine ⟨h1,h2,by omega,fun c hc=>?_⟩
 obtain ⟨j,hj,rfl⟩:=List.mem_iff_getElem.1 hc
 have:=Hu.1 h4 j (by simpa using hj)
 unfold gT at this
 rwa [List.getD_eq_getElem?_getD,List.getElem?_eq_getElem hj] at this
theorem XO {s:ByteArray} (h:dm s=true) (h1:1<s.size):10 ^ (s.size - 1)<=jE s:=by
 obtain ⟨_,_,h3,h4⟩:=Qk h
 have h0:(gT s 0).toNat≠48:=fun e=>h3 ⟨h1,e⟩
 rw [Ex]
 have hl:s.data.toList.length=s.size:=by simp
 unfold gT at h0
 generalize s.data.toList=l at *
 match l,hl with
 | [],hl=>simp at hl;omega
 | c :: cs,hl =>
  have hd:=(Bd c).1 (h4 c (by simp))
  simp only [List.getD_cons_zero] at h0
  have e:s.size - 1=cs.length:=by simp at hl;omega
  rw [e,valL]
  have:=Nat.mul_le_mul_right (10 ^ cs.length) (show 1<=c.toNat - 48 by omega)
  omega
def rz (a b:ByteArray):Int:=if Lib.compareInt a.size b.size≠0 then Lib.compareInt a.size b.size else Lib.compareBytes a.data.toList b.data.toList
theorem Yn {a b:ByteArray} (ha:dm a=true) (hb:dm b=true):(rz a b<0/\jE a<jE b)\/(rz a b=0/\jE a=jE b)\/(0<rz a b/\jE b<jE a):=by
 obtain ⟨a1,a2,a3,a4⟩:=Qk ha
 obtain ⟨b1,b2,b3,b4⟩:=Qk hb
 have la:a.data.toList.length=a.size:=by simp
 have lb:b.data.toList.length=b.size:=by simp
 have va:=Ee _ a4
 have vb:=Ee _ b4
 rw [<- Ex,la] at va
 rw [<- Ex,lb] at vb
 unfold rz Lib.compareInt
 by_cases h1:(a.size:Int)<b.size
 ·have:=XO hb (by omega)
  have h2:=Nat.pow_le_pow_right (n:=10) (by omega) (show a.size<=b.size - 1 by omega)
  simp only [h1,if_true]
  exact .inl ⟨by simp,by omega⟩
 ·by_cases h2:(a.size:Int) > b.size
  ·have:=XO ha (by omega)
   have h3:=Nat.pow_le_pow_right (n:=10) (by omega) (show b.size<=a.size - 1 by omega)
   simp only [h1,if_false,h2,if_true]
   exact .inr (.inr ⟨by simp,by omega⟩)
  ·simp only [h1,h2,if_false,ne_eq,not_true]
   rw [Ex,Ex]
   rcases Xv _ _ (by omega) a4 b4 with ⟨e,h⟩ | ⟨e,h⟩ | ⟨e,h⟩ <;> rw [e] <;> simp [h]
theorem zH9 {a b:ByteArray} (ha:dm a=true) (hb:dm b=true):decide (0<rz a b)=decide (jE b<jE a):=by
 rcases Yn ha hb with h | h | h <;> (rw [Bool.eq_iff_iff];simp;omega)
theorem zHA {a b:ByteArray} (ha:dm a=true) (hb:dm b=true):decide (rz a b<0)=decide (jE a<jE b):=by
 rcases Yn ha hb with h | h | h <;> (rw [Bool.eq_iff_iff];simp;omega)
end Go.Proofs.YtgikfenllgldoaaGreat
namespace Go.Proofs.YtgikfenllgldoaaGreat
open Go.Proofs.Tryz
open Go.RowKit
def Roomy (v:Value) (n t:Nat):Prop:=(v=.slice none 0 0/\t=0)\/∃ g cap,v=.slice (some ⟨g,0,none⟩) n cap/\t<=cap
section
variable {α:Type} [Inhabited α] {R:bI α} {k:Nat}
theorem zDr (t ty e:TypeId) (i:TypeInfo) (ht:prog.underlying t=some (.slice e)) (hi:prog.info? e=some i) (ad:Option Addr) (c:Nat) (u:World):(Builtin.append_ #[t,t] ty #[.slice none 0 0,.slice ad 0 c]).run prog u=.ok (.slice none 0 0) u:=by
 cases ad with
 | none=>simp [Builtin.append_,run_underlying ht,sizeOf,typeInfo,hi,Builtin.lenOf,Builtin.firstCells]
 | some a =>
  have hf:=run_firstCells_some (P:=prog) u i.size 0 a 0 c [] (by simp) (by simp)
  simp [Builtin.append_,run_underlying ht,sizeOf,typeInfo,hi,Builtin.lenOf,hf]
theorem zDK (hR:aJ R k) {o:Oper} {a:Act} {K:Act->World->Prop} {Q:Exit->Act->World->Prop} {A:Where} {w0 u:World} (s x:Operand) (t e:TypeId)
  (ho:o.op=.call { callee:=.builtin .append,args:=#[s,x],argTypes:=#[t,t] }) (z:Value) (bytes:Nat) (hinfo:(prog.info? e).map (fun i=>(i.zero,i.size,i.bytes))=some (some z,k,bytes)) (ht:prog.underlying t=some (.slice e))
  (v:Value) (L:List α) (T:Nat) (hs:a.eval s=v) (hrow:Row R k A w0 u e v L) (hT:Roomy v L.length T)
  (ad:Option Addr) (m c:Nat) (N:List α) (hx:a.eval x=.slice ad m c) (hN:Src R k (fun b=>A b/\v.ownBlock≠some b) u ad m N) (hb:L.length+N.length<=T)
  (h:∀ v' u',Row R k A w0 u' e v' (L++N)->u.grownBy u' v.ownBlock->v'.ownBlock=v.ownBlock->Roomy v' (L++N).length T->K (a.put o.dst v') u'):o.wp prog a u K Q:=by
 obtain ⟨i0,hi,hz0,hz1,hz2⟩:=info_parts hinfo
 have stay:∀ (Tg:N=[]) (hr:∀ ty,(Builtin.append_ #[t,t] ty #[v,.slice ad m c]).run prog u=.ok v u),o.wp prog a u K Q:=fun Tg hr=>by
  unfold Oper.wp execOp
  simp only [ho,resolve,invoke,builtin,Sem.run_bind,Sem.run_pure,Result.andThen_ok,List.map_toArray,List.map_cons,List.map_nil,hs,hx,hr]
  exact h v u (by rw [Tg];simpa using hrow) ⟨rfl,rfl,rfl,Nat.le_refl _,fun _ _ _=>rfl⟩ rfl (by rw [Tg];simpa using hT)
 obtain ⟨hm,hN⟩:=hN
 rcases hT with ⟨rfl,rfl⟩ | ⟨g,cap,rfl,hcap⟩
 ·obtain rfl:N=[]:=List.eq_nil_of_length_eq_zero (by omega)
  obtain rfl:m=0:=by simpa using hm.symm
  exact stay rfl (fun ty=>zDr t ty e i0 ht hi ad c u)
 ·rcases hN with ⟨rfl,rfl⟩ | ⟨ad,news,rfl,hN,hcells,h1⟩
  ·obtain rfl:m=0:=by simpa using hm.symm
   refine stay rfl (fun ty=>?_)
   obtain ⟨xs,hown,_⟩:=hrow
   rcases hown.2.2 with ⟨hv,_⟩ | ⟨g',cap',cur,hv,_,hg,hnc,_⟩
   ·cases hv
   ·have hv':g=g'/\cap=cap':=by simpa using hv
    obtain ⟨rfl,rfl⟩:=hv'
    simp [Builtin.append_,run_underlying ht,sizeOf,typeInfo,hi,Builtin.lenOf,Builtin.firstCells,loadCells,loadCellsFrom,hnc,storeCells]
  ·subst hm
   obtain ⟨xs,hown,hch⟩:=hrow
   obtain ⟨u',hr,h2,h3⟩:=run_append_fits (P:=prog) u w0.heap.size t o.type e i0 k ht hi hz1 g L.length cap xs hown.2 ad N.length c news hN.1 hcells h1 (by omega)
   unfold Oper.wp execOp
   simp only [ho,resolve,invoke,builtin,Sem.run_bind,Sem.run_pure,Result.andThen_ok,List.map_toArray,List.map_cons,List.map_nil,hs,hx,hr]
   have h3':u.grownBy u' (Value.slice (some ⟨g,0,none⟩) L.length cap).ownBlock:=h3
   refine h _ u' ⟨xs++news,⟨hown.row h3',by rw [List.length_append];exact h2⟩,?_⟩ h3' rfl (.inr ⟨g,cap,by rw [List.length_append],hcap⟩)
   have put:∀ {ys:List Value} {M:List α},aW R k (fun b=>A b/\(Value.slice (some ⟨g,0,none⟩) L.length cap).ownBlock≠some b) u ys M->aW R k (fun b=>A b/\(Value.slice (some ⟨g,0,none⟩) (L.length+N.length) cap).ownBlock≠some b) u' ys M:=fun {ys M} hc=>by
    have c2:=hc.kept hR (Kept.grown h3' (fun b e=>fun h=>h.2 e))
    exact c2.weak hR (fun b _ h=>⟨h.1,h.2⟩)
   obtain ⟨l1,c1⟩:=put hch
   obtain ⟨l2,c2⟩:=put hN
   refine ⟨by rw [List.length_append,List.length_append,l1,l2,Nat.add_mul],fun i hi=>?_⟩
   rcases Nat.lt_or_ge i L.length with h' | h'
   ·obtain ⟨cs,q1,q2⟩:=c1 i h'
    have e:(L++N).getD i default=L.getD i default:=by rw [gK _ _ hi,gK _ _ h',List.getElem_append_left h']
    refine ⟨cs,by rw [e];exact q1,fun j hj=>?_⟩
    rw [List.getElem?_append_left (by have:(i+1)*k<=L.length*k:=Nat.mul_le_mul_right k h';rw [Nat.add_mul] at this;omega)]
    exact q2 j hj
   ·have h'':i - L.length<N.length:=by simp at hi;omega
    obtain ⟨cs,q1,q2⟩:=c2 (i - L.length) h''
    have e:(L++N).getD i default=N.getD (i - L.length) default:=by rw [gK _ _ hi,gK _ _ h'',List.getElem_append_right h']
    refine ⟨cs,by rw [e];exact q1,fun j hj=>?_⟩
    have hle:L.length*k<=i*k:=Nat.mul_le_mul_right k h'
    rw [List.getElem?_append_right (by omega),l1,PY i L.length k j h',<- q2 j hj]
theorem Yy (hR:aJ R k) {ops:Array Oper} {rest:List Oper} {o:Oper} {a:Act} {Q:Exit->Act->World->Prop} {A:Where} {w0 u:World} (hgd:Region.wanted o (yielded ops a.tmps)=true) (s x:Operand) (t e:TypeId)
  (ho:o.op=.call { callee:=.builtin .append,args:=#[s,x],argTypes:=#[t,t] }) (z:Value) (bytes:Nat) (hinfo:(prog.info? e).map (fun i=>(i.zero,i.size,i.bytes))=some (some z,k,bytes)) (ht:prog.underlying t=some (.slice e))
  (v:Value) (L:List α) (T:Nat) (hs:a.eval s=v) (hrow:Row R k A w0 u e v L) (hT:Roomy v L.length T)
  (ad:Option Addr) (m c:Nat) (N:List α) (hx:a.eval x=.slice ad m c) (hN:Src R k (fun b=>A b/\v.ownBlock≠some b) u ad m N) (hb:L.length+N.length<=T)
  (h:∀ v' u',Row R k A w0 u' e v' (L++N)->u.grownBy u' v.ownBlock->v'.ownBlock=v.ownBlock->Roomy v' (L++N).length T->wpList prog ops Q rest (a.put o.dst v') u'):wpList prog ops Q (o :: rest) a u :=
 BigFrame.wpList_want hgd (fun _ hK=>zDK hR s x t e ho z bytes hinfo ht v L T hs hrow hT ad m c N hx hN hb (fun v' u' h2 h3 h4 h5=>hK _ _ (h v' u' h2 h3 h4 h5)))
end
theorem O7:prog.eqGuardType prog.depth 73=false:=by kernel_rfl
theorem Vz (x y:aG) (w:World):Sem.run prog (binOp .neq 73 (.agg #[.string x.1,.string x.2]) (.agg #[.string y.1,.string y.2])) w=.ok (.bool (!(ay x.1 y.1 && ay x.2 y.2))) w:=by
 have u9:=underlying9
 have a9:=Tryz.isAgg9
 have z9:=Tryz.sizeOf9
 have hS:prog.underlying 73=some (.struct (prog.fieldsOf 73)):=by kernel_rfl
 have hp:prog.stoodInHeld 73=false:=by kernel_rfl
 rw [run_neq_struct,show (10000:Nat)=9999+1 from rfl,run_equalIn_agg w 9999 73 _ _ hS hp]
 simp only [Program.fieldsOf,underlying73]
 go_simp
 simp only [ay]
 by_cases h1:x.1.toList=y.1.toList <;> by_cases h2:x.2.toList=y.2.toList <;> simp [h1,h2]
theorem Zg (a:Option Addr) (n cap:Nat) (A:Where) (L:List (aG)) (b:Option Addr) (m gX:Nat) (A':Where) (M:List (aG)) (w:World) (hA:Hid (ag ak 2 32 A w a n cap L)) (hB:Hid (ag ak 2 32 A' w b m gX M)):Calls prog 7 #[.slice a n cap,.slice b m gX] w fun e w'=>e=.returned (.bool (decide (L=M)))/\∃ q,w'=w.drewN q:=by
 have hn:Hid (L.length=n):=hA.out.1
 have hm:Hid (M.length=m):=hB.out.1
 have hlen:=hA.out.len (by decide)
 by_cases hnm:n=m
 case neg =>
  have HF:Hid (decide (L=M)=false):=IY (by rw [hn.out,hm.out];exact hnm)
  have hne:((n:Int) != (m:Int))=true:=by rw [bne_iff_ne];omega
  go_enter func7,ntmps7
  go_wp2
  go_ret
  exact ⟨I4 HF.out.symm,0,rfl⟩
 subst hnm
 have hne:((n:Int) != (n:Int))=false:=by simp
 go_enter func7,ntmps7
 go_wp2
 go_loopw [5] (fun i wr=>∃ k:Nat,k<=n/\i=.int .i64 k/\Hid (∃ q,wr=w.drewN q)/\Hid (∀ j,j<k->L.getD j default=M.getD j default)) (fun i _=>n - (intOf i).toNat)
 case atStart=>exact ⟨0,Nat.zero_le _,rfl,⟨0,rfl⟩,fun j hj=>absurd hj (Nat.not_lt_zero _)⟩
 case round =>
  obtain ⟨k,hk,rfl,hwr,hall⟩:=hrel
  have hbel:Below w.heap.size w wr:=by obtain ⟨q,rfl⟩:=hwr.out;exact below_drewN (Below.refl _ _) _
  have hback:Hid (∀ q,∃ q',wr.drewN q=w.drewN q'):=by obtain ⟨q0,rfl⟩:=hwr.out;exact fun q=>⟨_,World.drewN_drewN _ _ _⟩
  by_cases hlt:k<n
  ·have hltz:(k:Int)<(n:Int):=by omega
   obtain ⟨B,off,rfl,hBl,_,cs,hra,hva⟩:=(hA.out.on ak.ae hbel).get hlt
   obtain ⟨B',off',rfl,ac2,_,cs',hrb,hvb⟩:=(hB.out.on ak.ae hbel).get hlt
   obtain ⟨rfl,_,_⟩:=hra.out
   obtain ⟨rfl,_,_⟩:=hrb.out
   have d0:=hva 0 _ rfl
   have g0:=hvb 0 _ rfl
   have d1:=hva 1 _ rfl
   have g1:=hvb 1 _ rfl
   rw [Nat.add_zero] at d0 g0
   have HG:Hid (decide (L.getD k default=M.getD k default)=true->∀ j,j<k+1->L.getD j default=M.getD j default):=fun h j hj=>by
    rcases Nat.lt_succ_iff_lt_or_eq.1 hj with h' | rfl
    ·exact hall.out j h'
    ·exact of_decide_eq_true h
   have HF:Hid (decide (L.getD k default=M.getD k default)=false->decide (L=M)=false):=fun h=>OJ (of_decide_eq_false h)
   clear hall hva hvb
   have HE:∀ w,Sem.run prog (binOp .neq 73 (.agg #[.string (L.getD k default).1,.string (L.getD k default).2]) (.agg #[.string (M.getD k default).1,.string (M.getD k default).2])) w=.ok (.bool (!decide (L.getD k default=M.getD k default))) w:=fun w=>by rw [Vz,RD]
   have hgd:=O7
   generalize L.getD k default=x at d0 d1 HE HG HF
   generalize M.getD k default=y at g0 g1 HE HG HF
   cases hd:decide (x=y)
   ·have xh:Hid (decide (L=M)=false):=HF.out hd
    rw [hd] at HE
    clear HG HF hd
    go_wp2_with fail
    go_quiet (fail)
    go_wp2_with fail
    go_ret
    exact ⟨I4 xh.out.symm,hback.out _⟩
   ·have HG2:Hid (∀ j,j<k+1->L.getD j default=M.getD j default):=HG.out hd
    rw [hd] at HE
    clear HG HF hd
    go_wp2_with fail
    go_quiet (fail)
    go_wp2_with fail
    go_roundw
    case rel=>exact ⟨k+1,by omega,by go_num,hback.out _,HG2⟩
    case measure=>simp [intOf];omega
  ·have HT:Hid (decide (L=M)=true):=IX (by rw [hn.out,hm.out]) (fun j hj=>hall.out j (by rw [hn.out] at hj;omega))
   clear hall
   go_wp2
   go_ret
   exact ⟨I4 HT.out.symm,hwr.out⟩
end Go.Proofs.YtgikfenllgldoaaGreat
namespace Go.Proofs.YtgikfenllgldoaaGreat
open Go.Proofs.Tryz
open Go.RowKit Go.Maps
def kS (s:ByteArray):Lit:=.string s.data.toList
theorem Lu {s:ByteArray} (h:s.size<=140737488355328):keyOf prog 9 (.string s)=some (kS s):=WideMaps.keyOf_string_mk underlying9 (Nat.le_trans h (by unfold maxLen;omega))
theorem MG (s:ByteArray):WideAt.IsKeyLit (kS s):=by unfold kS;trivial
theorem FU {s t:ByteArray} (h:kS s=kS t):s=t:=by
 unfold kS at h
 injection h with h
 cases s;cases t
 simp only [ByteArray.mk.injEq] at h |-
 exact Array.toList_inj.1 h
theorem EE (n:Int) (w:World):(Instr.makeMap 138 (some (.int .i64 n))).run prog w=.ok (.map (some w.heap.size)) (w.alloc (.map #[] 0)):=by
 simp [Instr.makeMap,run_underlying underlying138,asInt,newObj,asIntOf,Result.andThen]
 rfl
theorem Dn:Keyed prog 9:=string_keyed underlying9
theorem UZ (w:World):(zeroValue 139).run prog w=.ok (.agg #[]) w:=by kernel_rfl
def bL (w:World) (mb n:Nat) (q:ByteArray->Bool):Prop :=
 ∃ D:DataW Unit,w.ownsMap prog 9 unitElem mb n D/\∀ s,Maps.has D (kS s)=q s
theorem bL.lt {w:World} {mb n:Nat} {q:ByteArray->Bool} (h:bL w mb n q):mb<w.heap.size:=by
 obtain ⟨D,⟨es,ck,hb,_⟩,_⟩:=h
 rcases Nat.lt_or_ge mb w.heap.size with h | h
 ·exact h
 ·rw [Array.getElem?_eq_none h] at hb;cases hb
theorem bL.same {w w':World} {mb n:Nat} {q:ByteArray->Bool} (h:bL w mb n q) (hb:w'.heap[mb]?=w.heap[mb]?):bL w' mb n q:=by
 obtain ⟨D,⟨es,ck,h1,h2⟩,h3⟩:=h
 exact ⟨D,⟨es,ck,hb.trans h1,h2⟩,h3⟩
theorem bL.on {w w':World} {mb n:Nat} {q:ByteArray->Bool} (h:bL w mb n q) (hb:Below w.heap.size w w'):bL w' mb n q:=h.same (hb.block mb h.lt)
theorem bL.grown {w w':World} {mb n:Nat} {q:ByteArray->Bool} {row:Option Nat} (h:bL w mb n q) (hg:w.grownBy w' row) (hr:row≠some mb):bL w' mb n q:=h.same (hg.block mb h.lt (fun e=>hr e.symm))
theorem bL.made (w:World):bL (w.alloc (.map #[] 0)) w.heap.size 0 (fun _=>false):=⟨.map [],World.ownsMap_made _ _ _ _,fun _=>rfl⟩
theorem bL.mono {w:World} {mb n n':Nat} {q:ByteArray->Bool} (h:bL w mb n q) (hn:n<=n'):bL w mb n' q:=by
 obtain ⟨D,h1,h2⟩:=h
 exact ⟨D,h1.mono hn,h2⟩
theorem bL.as {w:World} {mb n:Nat} {q q':ByteArray->Bool} (h:bL w mb n q) (e:∀ s,q s=q' s):bL w mb n q':=by
 obtain ⟨D,h1,h2⟩:=h
 exact ⟨D,h1,fun s=>(h2 s).trans (e s)⟩
section
variable {α:Type} [Inhabited α] {R:bI α} {k:Nat}
theorem Row.uA {A:Where} {w0 u:World} {e:TypeId} {v:Value} {L:List α} (h:Row R k A w0 u e v L) {mb n:Nat} {q:ByteArray->Bool} (hs:bL u mb n q):v.ownBlock≠some mb:=by
 intro hv
 obtain ⟨xs,⟨_,_,h2⟩,_⟩:=h
 obtain ⟨D,⟨es,ck,h3,_⟩,_⟩:=hs
 rcases h2 with ⟨rfl,_⟩ | ⟨g,cap,cur,rfl,_,hg,_⟩
 ·simp [Value.ownBlock] at hv
 ·have e:g=mb:=by simpa [Value.ownBlock] using hv
  subst e
  rw [hg] at h3
  cases h3
end
section
variable {ops:Array Oper} {rest:List Oper} {o:Oper} {a:Act} {Q:Exit->Act->World->Prop} {w:World}
theorem vJ (hg:o.guard=none) (m x:Operand) (t:TypeId) (hop:o.op=Op.lookup t m x true) (ht:prog.underlying t=some (.map 9 139)) (mb n:Nat) (q:ByteArray->Bool) (s:ByteArray) (hsz:s.size<=140737488355328)
  (hm:a.eval m=.map (some mb)) (hown:bL w mb n q) (hx:a.eval x=.string s) (b:Bool) (hq:q s=b) (hK:wpList prog ops Q rest (a.put o.dst (.tuple #[.agg #[],.bool b])) w):wpList prog ops Q (o :: rest) a w:=by
 subst hq
 obtain ⟨D,h1,h2⟩:=hown
 refine wpList_lookup_own_unit (H:=Unit) w hg m x t hop 9 139 Dn ht (UZ _) mb n D hm h1 _ (kS s) hx (Lu hsz) ?_
 rw [h2]
 exact hK
theorem Eg (hg:o.guard=none) (m x v:Operand) (t:TypeId) (hop:o.op=Op.mapUpdate t m x v) (ht:prog.underlying t=some (.map 9 139)) (mb n:Nat) (q:ByteArray->Bool) (s:ByteArray) (hsz:s.size<=140737488355328) (hn:n<140737488355328)
  (hm:a.eval m=.map (some mb)) (hown:bL w mb n q) (hx:a.eval x=.string s) (hv:a.eval v=.agg #[])
  (hK:∀ w',bL w' mb (n+1) (fun t=>q t || ay t s)->w.grownBy w' (some mb)->wpList prog ops Q rest (a.put o.dst undef) w'):wpList prog ops Q (o :: rest) a w:=by
 obtain ⟨D,h1,h2⟩:=hown
 refine wpList_mapUpdate_in (H:=Unit) w hg m x v t hop 9 139 Dn ht unitElem mb n D hm h1 (by unfold maxLen;omega) _ _ (kS s) hx hv (Lu hsz) _ _ unitElem_mk ?_
 intro w' h3 h4
 refine hK w' ⟨_,h3,fun t=>?_⟩ h4.grown
 by_cases e:t=s
 ·subst e;rw [has_put_same h1.isMap (MG _)];simp [LF]
 ·rw [has_put_other (fun h=>e (FU h)),h2];simp [XF e]
end
end Go.Proofs.YtgikfenllgldoaaGreat
namespace Go.Proofs.YtgikfenllgldoaaGreat
open Go.Proofs.Tryz
open Go.RowKit
theorem AY:(prog.info? 41).map (fun i=>(i.zero,i.size,i.bytes))=some (some (.agg #[.string ⟨#[]⟩,.int .i64 0,.slice none 0 0,.int .i64 0,.int .i64 0,.int .i64 0,.slice none 0 0,.slice none 0 0,.slice none 0 0,.slice none 0 0,.slice none 0 0,.slice none 0 0,.slice none 0 0,.slice none 0 0,.string ⟨#[]⟩,.string ⟨#[]⟩]),16,296):=by kernel_rfl
theorem kY:(prog.info? 41).map (·.size)=some 16:=by kernel_rfl
def insB {α:Type} (lt eq:α->α->Bool):List α->α->List α
 | [],s=>[s]
 | x :: xs,s=>if lt x s=true then x :: insB lt eq xs s else if eq x s=true then x :: xs else s :: x :: xs
def aN {α:Type} (lt eq:α->α->Bool) (L:List α):List α:=L.foldl (insB lt eq) []
def fD (a b:Int):Bool:=decide (a<b)
theorem Xm {α:Type} (lt eq:α->α->Bool) (s:α):∀ L:List α,(insB lt eq L s).length<=L.length+1
 | []=>by simp [insB]
 | x :: xs=>by
  have:=Xm lt eq s xs
  unfold insB
  split
  ·simp;omega
  ·split <;> simp
section
variable {α:Type} [Inhabited α] (lt eq:α->α->Bool)
theorem zHi (L:List α) {k:Nat} (hk:k<L.length):aN lt eq (L.take (k+1))=insB lt eq (aN lt eq (L.take k)) (L.getD k default):=by
 rw [<- nH hk];simp [aN]
theorem Eu:∀ (L:List α),(aN lt eq L).length<=L.length:=by
 intro L
 suffices H:∀ k,k<=L.length->(aN lt eq (L.take k)).length<=k by
  have:=H L.length (Nat.le_refl _)
  rwa [List.take_of_length_le (Nat.le_refl _)] at this
 intro k
 induction k with
 | zero=>intro _;simp [aN]
 | succ k ih =>
  intro hk
  rw [zHi lt eq L (by omega)]
  have:=Xm lt eq (L.getD k default) (aN lt eq (L.take k))
  have:=ih (by omega)
  omega
end
theorem zDx (V:List ByteArray) (s:ByteArray):Lib.containsS V s=sM V s:=by
 rw [Bool.eq_iff_iff,Lib.containsS_iff,sM,List.any_eq_true]
 constructor
 ·intro h;exact ⟨s,h,LF s⟩
 ·rintro ⟨v,hv,h⟩;rw [<- (eZ v s).1 h];exact hv
theorem zD4 (a:Option Addr) (cap:Nat) (V:List ByteArray) (s:ByteArray) (w:World) (hV:Hid (bS w a V)):Calls prog 212 #[.slice a V.length cap,.string s] w fun e w'=>e=.returned (.bool (sM V s))/\w'=w:=by
 by_cases h:V=[]
 ·subst h
  exact Tryz.slices_Contains_string_empty a cap s w
 ·obtain ⟨h1,h2,h3⟩:=hV.out
  obtain ⟨B,off,rfl,hB,hc⟩:=h3 h
  have:=Tryz.slices_Contains_string B off V.length cap V s w (Nat.le_refl _) (by omega) hc
  rw [List.take_length,zDx] at this
  exact this
theorem Xq (v:ByteArray) (t:Bool) (a:Option Addr) (cap:Nat) (V:List ByteArray) (w:World) (hV:Hid (bS w a V)):Calls prog 196 #[.agg #[.string v,.bool t,.slice a V.length cap]] w fun e w'=>e=.returned (.bool (t && sM V v))/\Below w.heap.size w w':=by
 have hb0:Below w.heap.size w (w.alloc (.cells #[.string v,.bool t,.slice a V.length cap] 271)):=(Below.refl _ _).alloc (Nat.le_refl _) _
 have hc:=zD4 a cap V v _ (show Hid (bS (w.alloc (.cells #[.string v,.bool t,.slice a V.length cap] 271)) a V) from hV.out.on hb0)
 generalize sM V v=b at hc
 clear hV
 cases t
 ·go_enter func196,ntmps196
  go_wp2
  go_ret
  exact ⟨rfl,hb0⟩
 ·go_enter func196,ntmps196
  go_wp2_with (go_at_call 212;refine hc.mono ?_;rintro e w' ⟨rfl,rfl⟩)
  go_ret
  exact ⟨by simp,hb0⟩
theorem zEt (v:ByteArray) (t:Bool) (a:Option Addr) (n cap:Nat) (w:World):Calls prog 198 #[.agg #[.string v,.bool t,.slice a n cap]] w fun e w'=>e=.returned (.bool t)/\Below w.heap.size w w':=by
 go_enter func198,ntmps198
 go_wp2
 go_ret
 exact ⟨rfl,by go_grown⟩
theorem zFx (v:ByteArray) (t:Bool) (a:Option Addr) (n cap:Nat) (w:World):Calls prog 199 #[.agg #[.string v,.bool t,.slice a n cap]] w fun e w'=>e=.returned (.bool (!t))/\Below w.heap.size w w':=by
 go_enter func199,ntmps199
 go_wp2
 go_ret
 exact ⟨rfl,by go_grown⟩
theorem zG4 (v:ByteArray) (t:Bool) (a:Option Addr) (n cap:Nat) (w:World):Calls prog 202 #[.agg #[.string v,.bool t,.slice a n cap]] w fun e w'=>e=.returned (.bool false)/\Below w.heap.size w w':=by
 go_enter func202,ntmps202
 go_wp2
 go_ret
 exact ⟨rfl,by go_grown⟩
theorem zG5 (v:ByteArray) (t:Bool) (a:Option Addr) (cap:Nat) (V:List ByteArray) (w:World) (hV:Hid (bS w a V)):Calls prog 197 #[.agg #[.string v,.bool t,.slice a V.length cap]] w fun e w'=>e=.returned (.bool (!(t && sM V v)))/\Below w.heap.size w w':=by
 have hb0:Below w.heap.size w (w.alloc (.cells #[.string v,.bool t,.slice a V.length cap] 271)):=(Below.refl _ _).alloc (Nat.le_refl _) _
 have hc:=Xq v t a cap V _ (show Hid (bS (w.alloc (.cells #[.string v,.bool t,.slice a V.length cap] 271)) a V) from hV.out.on hb0)
 generalize (t && sM V v)=b at hc
 clear hV
 go_enter func197,ntmps197
 go_wp2_with (go_at_call 196;refine hc.mono ?_;rintro e w' ⟨rfl,hb⟩)
 go_ret
 exact ⟨rfl,ah hb0 hb⟩
theorem Mg (v:ByteArray) (t:Bool) (a:Option Addr) (cap:Nat) (V:List ByteArray) (w:World) (hV:Hid (bS w a V)):Calls prog 213 #[.agg #[.string v,.bool t,.slice a V.length cap]] w fun e w'=>e=.returned (.bool (t && dm v && (decide (V.length=1) && dm (V.getD 0 default))))/\Below w.heap.size w w':=by
 have hb0:Below w.heap.size w (w.alloc (.cells #[.string v,.bool t,.slice a V.length cap] 271)):=(Below.refl _ _).alloc (Nat.le_refl _) _
 have h1:=Y9 v
 have h2:=zCp a cap V _ (show Hid (bS (w.alloc (.cells #[.string v,.bool t,.slice a V.length cap] 271)) a V) from hV.out.on hb0)
 generalize (decide (V.length=1) && dm (V.getD 0 default))=c at h2
 generalize dm v=b at h1
 clear hV
 cases t
 ·go_enter func213,ntmps213
  go_wp2
  go_ret
  exact ⟨rfl,hb0⟩
 ·cases b
  ·go_enter func213,ntmps213
   go_wp2_with (go_at_call 221;refine (h1 _).mono ?_;rintro e w' ⟨rfl,rfl⟩)
   go_ret
   exact ⟨rfl,hb0⟩
  ·go_enter func213,ntmps213
   go_wp2_with (first | (go_at_call 221;refine (h1 _).mono ?_;rintro e w' ⟨rfl,rfl⟩) | (go_at_call 222;refine h2.mono ?_;rintro e w' ⟨rfl,rfl⟩))
   go_ret
   exact ⟨by simp,hb0⟩
def Fy (x y:Int):Int:=if x≠0 then x else y
theorem Lj (B:Nat) (cap:Nat) (x y:Int) (w:World) (c0:w.cell? ⟨B,0,none⟩=some (.int .i64 x)) (c1:w.cell? ⟨B,0+1,none⟩=some (.int .i64 y)):Calls prog 178 #[.slice (some ⟨B,0,none⟩) 2 cap] w fun e w'=>e=.returned (.int .i64 (Fy x y))/\w'=w:=by
 go_enter func178,ntmps178
 go_wp2
 go_loop [8] (fun i=>∃ k:Nat,k<=2/\i=.int .i64 k/\Hid (1<=k->x=0)/\Hid (2<=k->y=0)) (fun i=>2 - (intOf i).toNat)
 case atStart=>exact ⟨0,by omega,rfl,fun h=>absurd h (by omega),fun h=>absurd h (by omega)⟩
 case round =>
  obtain ⟨k,hk,rfl,hx,hy⟩:=hrel
  match k,hk with
  | 0,_ =>
   by_cases h:x=0
   ·subst h
    go_wp2
    go_round
    case rel=>exact ⟨1,by omega,by go_num,by unfold Hid;simp,fun h=>absurd h (by omega)⟩
    case measure=>simp [intOf]
   ·have h':(x != 0)=true:=bne_iff_ne.2 h
    have HF:Hid (Fy x y=x):=if_pos h
    go_wp2
    go_ret
    exact ⟨by rw [HF.out];rfl,rfl⟩
  | 1,_ =>
   have hx0:=hx.out (by omega)
   subst hx0
   by_cases h:y=0
   ·subst h
    go_wp2
    go_round
    case rel=>exact ⟨2,by omega,by go_num,by unfold Hid;simp,by unfold Hid;simp⟩
    case measure=>simp [intOf]
   ·have h':(y != 0)=true:=bne_iff_ne.2 h
    have HF:Hid (Fy 0 y=y):=if_neg (by simp)
    go_wp2
    go_ret
    exact ⟨by rw [HF.out];rfl,rfl⟩
  | 2,_ =>
   have hx0:=hx.out (by omega)
   have hy0:=hy.out (by omega)
   subst hx0 hy0
   go_wp2
   go_ret
   exact ⟨rfl,rfl⟩
theorem Zh (a b:ByteArray) (w:World):Calls prog 214 #[.string a,.string b] w fun e w'=>e=.returned (.int .i64 (rz a b))/\Below w.heap.size w w':=by
 have h1:=Tryz.cmp_Compare_int a.size b.size
 have h2:=Tryz.strings_Compare a b
 have HF:Hid (rz a b=Fy (Lib.compareInt a.size b.size) (Lib.compareBytes a.data.toList b.data.toList)):=rfl
 generalize Lib.compareInt a.size b.size=x at h1 HF
 generalize Lib.compareBytes a.data.toList b.data.toList=y at h2 HF
 have h3:=Lj w.heap.size 2 x y (w.alloc (.cells #[.int .i64 x,.int .i64 y] 3)) (by simp [go_sem]) (by simp [go_sem])
 generalize Fy x y=r at h3 HF
 go_enter func214,ntmps214
 go_wp2_with (first | (go_at_call 179;refine (h1 _).mono ?_;rintro e w' ⟨rfl,rfl⟩) | (go_at_call 180;refine (h2 _).mono ?_;rintro e w' ⟨rfl,rfl⟩) | (go_at_call 178;refine h3.mono ?_;rintro e w' ⟨rfl,rfl⟩))
 go_ret
 exact ⟨by rw [HF.out];rfl,by go_grown⟩
end Go.Proofs.YtgikfenllgldoaaGreat
