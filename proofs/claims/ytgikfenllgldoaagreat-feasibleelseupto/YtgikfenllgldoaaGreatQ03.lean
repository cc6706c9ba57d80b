/- Functions of the program, each walked under the conditions that its theorem names. -/
import Derived.Laws.StructEq
import Derived.Test.YtgikfenllgldoaaGreatQ02
set_option linter.unusedSimpArgs false
set_option maxRecDepth 100000
set_option maxHeartbeats 32000000
namespace Go.Proofs.YtgikfenllgldoaaGreat
open Go.Proofs.Tryz
open Go.RowKit
theorem BO {s:ByteArray} (h:¬(1<=s.size/\s.size<=15)):dm s=false:=by
 have:(decide (1<=s.size) && decide (s.size<=15))=false:=by simp;omega
 simp [dm,this]
theorem FD {s:ByteArray} (h:1<s.size) (h0:(gT s 0).toNat=48):dm s=false:=by
 simp [dm,h,h0]
theorem FE {s:ByteArray} (h1:1<=s.size) (h2:s.size<=15) (h3:¬(1<s.size/\(gT s 0).toNat=48)):dm s=lS s.size fun i=>iM (gT s i):=by
 have:(decide (1<s.size) && decide ((gT s 0).toNat=48))=false:=by simp;omega
 simp [dm,h1,h2,this]
theorem Y9 (s:ByteArray) (w:World):Calls prog 221 #[.string s] w fun e w'=>e=.returned (.bool (dm s))/\w'=w:=by
 by_cases h0:(s.size:Int)=0
 ·have HF:Hid (dm s=false):=BO (by omega)
  have h0':((s.size:Int) == 0)=true:=beq_iff_eq.2 h0
  go_enter func221,ntmps221
  go_wp2
  go_ret
  exact ⟨lC HF.out.symm,rfl⟩
 have h0':((s.size:Int) == 0)=false:=beq_eq_false_iff_ne.2 h0
 by_cases h1:(15:Int)<(s.size:Int)
 ·have HF:Hid (dm s=false):=BO (by omega)
  go_enter func221,ntmps221
  go_wp2
  go_ret
  exact ⟨lC HF.out.symm,rfl⟩
 have hp:0<s.size:=by omega
 have HB:∃ b c:Bool,((s[0].toNat:Int) == 48)=b/\decide ((1:Int)<(s.size:Int))=c/\Hid ((b && c)=true->dm s=false)/\Hid ((b && c)=false->dm s=lS s.size fun i=>iM (gT s i)):=by
  refine ⟨_,_,rfl,rfl,?_,?_⟩
  ·intro h
   simp only [Bool.and_eq_true,beq_iff_eq,decide_eq_true_eq] at h
   exact FD (by omega) (by rw [LZ s 0 hp];omega)
  ·intro h
   refine FE (by omega) (by omega) ?_
   rintro ⟨x,y⟩
   rw [LZ s 0 hp] at y
   rw [beq_iff_eq.2 (show (s[0].toNat:Int)=48 by omega),decide_eq_true (show (1:Int)<s.size by omega)] at h
   cases h
 obtain ⟨b,c,hb,hc,HT,HN⟩:=HB
 cases b <;> cases c
 case true.true =>
  have HF:Hid (dm s=false):=HT.out rfl
  clear HT HN
  go_enter func221,ntmps221
  go_wp2
  go_ret
  exact ⟨lC HF.out.symm,rfl⟩
 all_goals
  have HM:Hid (dm s=lS s.size fun i=>iM (gT s i)):=HN.out rfl
  clear HT HN
  go_enter func221,ntmps221
  go_wp2
  go_loop [22] (fun i=>∃ k:Nat,k<=s.size/\i=.int .i64 k/\Hid (∀ j,j<k->iM (gT s j)=true)) (fun i=>s.size - (intOf i).toNat)
  case atStart=>exact ⟨0,Nat.zero_le _,rfl,fun j hj=>absurd hj (Nat.not_lt_zero _)⟩
  case round =>
   obtain ⟨k,hk,rfl,hall⟩:=hrel
   by_cases hlt:k<s.size
   ·have hin:=zE7 s[k]
    cases hc:iM s[k]
    ·rw [hc] at hin
     have HF:Hid (dm s=false):=HM.out.trans (YL hlt (by rw [LZ s k hlt];exact hc))
     clear hc
     go_wp2_with (go_at_call 224;refine (hin _).mono ?_;rintro e w' ⟨rfl,rfl⟩)
     go_ret
     exact ⟨lC HF.out.symm,rfl⟩
    ·rw [hc] at hin
     have HS:Hid (iM (gT s k)=true):=by rw [Hid,LZ s k hlt];exact hc
     clear hc
     go_wp2_with (go_at_call 224;refine (hin _).mono ?_;rintro e w' ⟨rfl,rfl⟩)
     go_round
     case rel=>exact ⟨k+1,by omega,by go_num,fun j hj=>by rcases Nat.lt_succ_iff_lt_or_eq.1 hj with h | rfl;exact hall.out j h;exact HS.out⟩
     case measure=>simp [intOf];omega
   ·have HF:Hid (dm s=true):=HM.out.trans (Yo (fun j hj=>hall.out j (by omega)))
    go_wp2
    go_ret
    exact ⟨lC HF.out.symm,rfl⟩
def yR (g:Nat) (lb:Array Value) (p:jg->Bool) (w:World):Prop :=
 ∀ (W:World) (x:jg),Below w.heap.size w W->Calls prog g (#[.agg #[.string x.1,.string x.2.1,.int .i64 x.2.2]]++lb) W fun e w'=>e=.returned (.bool (p x))/\Below W.heap.size W w'
theorem zEa (a:Option Addr) (cap:Nat) (L:List jg) (w:World) (hL:Hid (mY w a L)) (p:jg->Bool) (g:Nat) (lb:Array Value) (eg:∀ args w,(callFunc g args).run prog w=.ok (.enter g args) w) (hp:Hid (yR g lb p w)) :
  Calls prog 168 #[.slice a L.length cap,.func (.func g) #[] lb] w fun e w'=>((∃ i:Nat,i<L.length/\p (L.getD i default)=true/\(∀ j,j<i->p (L.getD j default)=false)/\e=.returned (.int .i64 i))\/((∀ j,j<L.length->p (L.getD j default)=false)/\e=.returned (.int .i64 (-1))))/\Below w.heap.size w w':=by
 have hlen:=hL.out.1
 go_enter func168,ntmps168
 go_wp2
 go_loopw [8] (fun i wr=>∃ k:Nat,k<=L.length/\i=.int .i64 k/\Below w.heap.size w wr/\Hid (∀ j,j<k->p (L.getD j default)=false)) (fun i _=>L.length - (intOf i).toNat)
 case atStart=>exact ⟨0,Nat.zero_le _,rfl,Below.refl _ _,fun j hj=>absurd hj (Nat.not_lt_zero _)⟩
 case round =>
  obtain ⟨k,hk,rfl,hbel,hall⟩:=hrel
  by_cases hlt:k<L.length
  ·obtain ⟨B,off,rfl,hB,c0,c1,c2,ho⟩:=mY.get hL.out hlt
   clear ho
   have d0:=(hbel.cell (p:=⟨B,off+k*3,none⟩) hB).trans c0
   have d1:=(hbel.cell (p:=⟨B,off+k*3+1,none⟩) hB).trans c1
   have d2:=(hbel.cell (p:=⟨B,off+k*3+2,none⟩) hB).trans c2
   clear c0 c1 c2
   have hcall:=hp.out wr (L.getD k default) hbel
   have HG:Hid (p (L.getD k default)=false->∀ j,j<k+1->p (L.getD j default)=false):=fun h j hj=>by
    rcases Nat.lt_succ_iff_lt_or_eq.1 hj with h' | rfl
    ·exact hall.out j h'
    ·exact h
   have HF:Hid (p (L.getD k default)=true->∃ i:Nat,i<L.length/\p (L.getD i default)=true/\(∀ j,j<i->p (L.getD j default)=false)/\Ending.returned (.int .i64 k)=.returned (.int .i64 i)):=fun h=>⟨k,hlt,h,hall.out,rfl⟩
   clear hall
   generalize L.getD k default=x at d0 d1 d2 hcall HG HF
   cases hq:p x
   ·have AJ:Hid (∀ j,j<k+1->p (L.getD j default)=false):=HG.out hq
    rw [hq] at hcall
    clear HG HF hq
    go_wp2_with fail
    refine hcall.mono ?_
    rintro e w' ⟨rfl,hb'⟩
    go_wp2_with fail
    go_roundw
    case rel=>exact ⟨k+1,by omega,by go_num,ah hbel hb',AJ⟩
    case measure=>simp [intOf];omega
   ·have vg:=HF.out hq
    have xh:Hid (∃ i:Nat,i<L.length/\p (L.getD i default)=true/\(∀ j,j<i->p (L.getD j default)=false)/\Ending.returned (.int .i64 k)=.returned (.int .i64 i)):=vg
    rw [hq] at hcall
    clear HG HF hq vg
    go_wp2_with fail
    refine hcall.mono ?_
    rintro e w' ⟨rfl,hb'⟩
    go_wp2_with fail
    go_ret
    exact ⟨.inl xh.out,ah hbel hb'⟩
  ·have HA:Hid (∀ j,j<L.length->p (L.getD j default)=false):=fun j hj=>hall.out j (by omega)
   clear hall
   go_wp2
   go_ret
   exact ⟨.inr ⟨HA.out,rfl⟩,hbel⟩
def D5 (g:Nat) (lb:Array Value) (p:gN->Bool) (w:World):Prop :=
 ∀ (W:World) (x:gN),Below w.heap.size w W->Calls prog g (#[.agg #[.string x.1,.string x.2.1,.bool x.2.2.1,.int .i64 x.2.2.2]]++lb) W fun e w'=>e=.returned (.bool (p x))/\Below W.heap.size W w'
theorem zEZ (a:Option Addr) (cap:Nat) (L:List gN) (w:World) (hL:Hid (kv w a L)) (p:gN->Bool) (g:Nat) (lb:Array Value) (eg:∀ args w,(callFunc g args).run prog w=.ok (.enter g args) w) (hp:Hid (D5 g lb p w)) :
  Calls prog 218 #[.slice a L.length cap,.func (.func g) #[] lb] w fun e w'=>((∃ i:Nat,i<L.length/\p (L.getD i default)=true/\(∀ j,j<i->p (L.getD j default)=false)/\e=.returned (.int .i64 i))\/((∀ j,j<L.length->p (L.getD j default)=false)/\e=.returned (.int .i64 (-1))))/\Below w.heap.size w w':=by
 have hlen:=hL.out.1
 go_enter func218,ntmps218
 go_wp2
 go_loopw [8] (fun i wr=>∃ k:Nat,k<=L.length/\i=.int .i64 k/\Below w.heap.size w wr/\Hid (∀ j,j<k->p (L.getD j default)=false)) (fun i _=>L.length - (intOf i).toNat)
 case atStart=>exact ⟨0,Nat.zero_le _,rfl,Below.refl _ _,fun j hj=>absurd hj (Nat.not_lt_zero _)⟩
 case round =>
  obtain ⟨k,hk,rfl,hbel,hall⟩:=hrel
  by_cases hlt:k<L.length
  ·obtain ⟨B,off,rfl,hB,c0,c1,c2,c3,ho⟩:=kv.get hL.out hlt
   clear ho
   have d0:=(hbel.cell (p:=⟨B,off+k*4,none⟩) hB).trans c0
   have d1:=(hbel.cell (p:=⟨B,off+k*4+1,none⟩) hB).trans c1
   have d2:=(hbel.cell (p:=⟨B,off+k*4+2,none⟩) hB).trans c2
   have d3:=(hbel.cell (p:=⟨B,off+k*4+3,none⟩) hB).trans c3
   clear c0 c1 c2 c3
   have hcall:=hp.out wr (L.getD k default) hbel
   have HG:Hid (p (L.getD k default)=false->∀ j,j<k+1->p (L.getD j default)=false):=fun h j hj=>by
    rcases Nat.lt_succ_iff_lt_or_eq.1 hj with h' | rfl
    ·exact hall.out j h'
    ·exact h
   have HF:Hid (p (L.getD k default)=true->∃ i:Nat,i<L.length/\p (L.getD i default)=true/\(∀ j,j<i->p (L.getD j default)=false)/\Ending.returned (.int .i64 k)=.returned (.int .i64 i)):=fun h=>⟨k,hlt,h,hall.out,rfl⟩
   clear hall
   generalize L.getD k default=x at d0 d1 d2 d3 hcall HG HF
   cases hq:p x
   ·have AJ:Hid (∀ j,j<k+1->p (L.getD j default)=false):=HG.out hq
    rw [hq] at hcall
    clear HG HF hq
    go_wp2_with fail
    refine hcall.mono ?_
    rintro e w' ⟨rfl,hb'⟩
    go_wp2_with fail
    go_roundw
    case rel=>exact ⟨k+1,by omega,by go_num,ah hbel hb',AJ⟩
    case measure=>simp [intOf];omega
   ·have vg:=HF.out hq
    have xh:Hid (∃ i:Nat,i<L.length/\p (L.getD i default)=true/\(∀ j,j<i->p (L.getD j default)=false)/\Ending.returned (.int .i64 k)=.returned (.int .i64 i)):=vg
    rw [hq] at hcall
    clear HG HF hq vg
    go_wp2_with fail
    refine hcall.mono ?_
    rintro e w' ⟨rfl,hb'⟩
    go_wp2_with fail
    go_ret
    exact ⟨.inl xh.out,ah hbel hb'⟩
  ·have HA:Hid (∀ j,j<L.length->p (L.getD j default)=false):=fun j hj=>hall.out j (by omega)
   clear hall
   go_wp2
   go_ret
   exact ⟨.inr ⟨HA.out,rfl⟩,hbel⟩
theorem zCR (a:Option Addr) (cap:Nat) (L:List gN) (w:World) (hL:Hid (kv w a L)) (p:gN->Bool) (g:Nat) (lb:Array Value) (eg:∀ args w,(callFunc g args).run prog w=.ok (.enter g args) w) (hp:Hid (D5 g lb p w)) :
  Calls prog 209 #[.slice a L.length cap,.func (.func g) #[] lb] w fun e w'=>e=.returned (.bool (L.any p))/\Below w.heap.size w w':=by
 have hI:=zEZ a cap L w hL p g lb eg hp
 go_enter func209,ntmps209
 go_wp2_with fail
 refine hI.mono ?_
 rintro e w1 ⟨⟨i,hi,hy,_,rfl⟩ | ⟨hn,rfl⟩,hb⟩
 ·have HA:Hid (L.any p=true):=PG hi hy
  clear hy
  go_wp2_with fail
  go_ret
  exact ⟨lC HA.out.symm,hb⟩
 ·have HA:Hid (L.any p=false):=TS hn
  clear hn
  go_wp2_with fail
  go_ret
  exact ⟨lC HA.out.symm,hb⟩
theorem zG2 (bk bv:ByteArray) (ba:Bool) (be:Int) (tk tv:ByteArray) (te:Int) (w:World):Calls prog 219 #[.agg #[.string bk,.string bv,.bool ba,.int .i64 be],.agg #[.string tk,.string tv,.int .i64 te]] w fun e w'=>e=.returned (.agg #[.string (mR (bk,bv,ba,be) (tk,tv,te)).1,.string (mR (bk,bv,ba,be) (tk,tv,te)).2.1,.int .i64 (mR (bk,bv,ba,be) (tk,tv,te)).2.2])/\Below w.heap.size w w':=by
 have HM:Hid (mR (bk,bv,ba,be) (tk,tv,te)=(if ba && bk.toList.isEmpty then tk else bk,if ba then tv else bv,if be == 0 then te else be)):=rfl
 generalize mR (bk,bv,ba,be) (tk,tv,te)=m at HM |-
 obtain ⟨n,hn⟩:∃ n,bk.toList.isEmpty=n:=⟨_,rfl⟩
 obtain ⟨z,hz⟩:∃ z,(be == 0)=z:=⟨_,rfl⟩
 rw [hn,hz] at HM
 cases ba <;> cases n <;> cases z <;> (
  have HM':=HM.out
  simp only [Bool.and_self,Bool.and_true,Bool.and_false,Bool.true_and,Bool.false_and,Bool.false_eq_true,if_true,if_false] at HM'
  subst HM'
  clear HM
  go_enter func219,ntmps219
  go_wp2
  exact bodyPost_ret (v:=.agg #[.string _,.string _,.int .i64 _]) (by simp [results,Tryz.results219,go_sem]) rfl ⟨rfl,by go_grown⟩)
theorem Tv:prog.eqGuardType prog.depth 222=false:=by kernel_rfl
theorem eqT (x y:jg) (w:World):Sem.run prog (binOp .eql 222 (.agg #[.string x.1,.string x.2.1,.int .i64 x.2.2]) (.agg #[.string y.1,.string y.2.1,.int .i64 y.2.2])) w=.ok (.bool (Mk x y)) w:=by
 have u3:=underlying3
 have a3:=Tryz.isAgg3
 have z3:=Tryz.sizeOf3
 have u9:=underlying9
 have a9:=Tryz.isAgg9
 have z9:=Tryz.sizeOf9
 have hS:prog.underlying 222=some (.struct (prog.fieldsOf 222)):=by kernel_rfl
 have hp:prog.stoodInHeld 222=false:=by kernel_rfl
 rw [run_eql_struct,show (10000:Nat)=9999+1 from rfl,run_equalIn_agg w 9999 222 _ _ hS hp]
 simp only [Program.fieldsOf,underlying222]
 go_simp
 simp only [Mk,ay]
 by_cases h1:x.1.toList=y.1.toList <;> by_cases h2:x.2.1.toList=y.2.1.toList <;> by_cases h3:x.2.2=y.2.2 <;> simp [h1,h2,h3]
def CY (wB:World) (D E:Nat) (bk bv:ByteArray) (ba:Bool) (be:Int) (tk tv:ByteArray) (te:Int) (u:World):Prop :=
 Below wB.heap.size wB u/\u.cell? ⟨D,0,none⟩=some (.string bk)/\u.cell? ⟨D,1,none⟩=some (.string bv)/\u.cell? ⟨D,2,none⟩=some (.bool ba)/\u.cell? ⟨D,3,none⟩=some (.int .i64 be) /\
  u.cell? ⟨E,0,none⟩=some (.string tk)/\u.cell? ⟨E,1,none⟩=some (.string tv)/\u.cell? ⟨E,2,none⟩=some (.int .i64 te)
theorem CY.to {wB u':World} {D E:Nat} {bk bv:ByteArray} {ba:Bool} {be:Int} {tk tv:ByteArray} {te:Int} (h:CY wB D E bk bv ba be tk tv te wB) (hD:D<wB.heap.size) (hE:E<wB.heap.size) (hb:Below wB.heap.size wB u'):CY wB D E bk bv ba be tk tv te u':=by
 obtain ⟨_,h1,h2,h3,h4,h5,h6,h7⟩:=h
 exact ⟨hb,(hb.cell hD).trans h1,(hb.cell hD).trans h2,(hb.cell hD).trans h3,(hb.cell hD).trans h4,(hb.cell hE).trans h5,(hb.cell hE).trans h6,(hb.cell hE).trans h7⟩
theorem zFY (bk bv:ByteArray) (ba:Bool) (be:Int) (tk tv:ByteArray) (te:Int) (w:World):Calls prog 211 #[.agg #[.string bk,.string bv,.bool ba,.int .i64 be],.agg #[.string tk,.string tv,.int .i64 te]] w fun e w'=>e=.returned (.bool (lM (bk,bv,ba,be) (tk,tv,te)))/\Below w.heap.size w w':=by
 have hS0:CY ((w.alloc (.cells #[.string bk,.string bv,.bool ba,.int .i64 be] 299)).alloc (.cells #[.string tk,.string tv,.int .i64 te] 222)) w.heap.size (w.heap.size+1) bk bv ba be tk tv te ((w.alloc (.cells #[.string bk,.string bv,.bool ba,.int .i64 be] 299)).alloc (.cells #[.string tk,.string tv,.int .i64 te] 222)) :=
  ⟨Below.refl _ _,by simp [go_sem],by simp [go_sem],by simp [go_sem],by simp [go_sem],by simp [go_sem],by simp [go_sem],by simp [go_sem]⟩
 have hb0:Below w.heap.size w ((w.alloc (.cells #[.string bk,.string bv,.bool ba,.int .i64 be] 299)).alloc (.cells #[.string tk,.string tv,.int .i64 te] 222)):=by go_grown
 have hD:w.heap.size<((w.alloc (.cells #[.string bk,.string bv,.bool ba,.int .i64 be] 299)).alloc (.cells #[.string tk,.string tv,.int .i64 te] 222)).heap.size:=by simp;omega
 have hE:w.heap.size+1<((w.alloc (.cells #[.string bk,.string bv,.bool ba,.int .i64 be] 299)).alloc (.cells #[.string tk,.string tv,.int .i64 te] 222)).heap.size:=by simp
 have HS:Hid (∀ {u:World},Below ((w.alloc (.cells #[.string bk,.string bv,.bool ba,.int .i64 be] 299)).alloc (.cells #[.string tk,.string tv,.int .i64 te] 222)).heap.size ((w.alloc (.cells #[.string bk,.string bv,.bool ba,.int .i64 be] 299)).alloc (.cells #[.string tk,.string tv,.int .i64 te] 222)) u->CY ((w.alloc (.cells #[.string bk,.string bv,.bool ba,.int .i64 be] 299)).alloc (.cells #[.string tk,.string tv,.int .i64 te] 222)) w.heap.size (w.heap.size+1) bk bv ba be tk tv te u):=fun hb=>hS0.to hD hE hb
 have HM:=zG2 bk bv ba be tk tv te
 have HQ:=eqT (mR (bk,bv,ba,be) (tk,tv,te)) (tk,tv,te)
 have HG:=Tv
 rw [zG1] at HQ
 clear hS0
 generalize mR (bk,bv,ba,be) (tk,tv,te)=m at HM HQ
 generalize lM (bk,bv,ba,be) (tk,tv,te)=r at HQ |-
 go_enter func211,ntmps211
 go_wp2_with fail
 generalize MK:((w.alloc (.cells #[.string bk,.string bv,.bool ba,.int .i64 be] 299)).alloc (.cells #[.string tk,.string tv,.int .i64 te] 222))=wB at HS hb0 hD hE
 refine wp_region_noPanic ?_
 refine wp_region_held_drew (S:=CY wB w.heap.size (w.heap.size+1) bk bv ba be tk tv te) (by kernel_rfl) (HS.out (Below.refl _ _).drew) (fun gH=>?_)
 refine wpAnyH_take (i:=0) (v:=?v0) rfl (by kernel_rfl) (by kernel_rfl) (by kernel_rfl) (fun _ _ _ h=>h) (Or.inl ⟨by rfl,?hy0⟩) (by assumption) ?Vl
 case hy0=>(intro u hu;obtain ⟨_,_,_,_,_,_,_,_⟩:=hu;go_simp;try with_reducible rfl)
 try simp only [Act.put,List.setIfInBounds_toArray,List.set_cons_zero,List.set_cons_succ,List.getElem_toArray,List.getElem_cons_zero,List.getElem_cons_succ]
 refine wpAnyH_take (i:=1) (v:=?v1) rfl (by kernel_rfl) (by kernel_rfl) (by kernel_rfl) (fun _ _ _ h=>h) (Or.inl ⟨by rfl,?hy1⟩) (by assumption) ?Vk
 case hy1=>(intro u hu;obtain ⟨_,_,_,_,_,_,_,_⟩:=hu;go_simp;try with_reducible rfl)
 try simp only [Act.put,List.setIfInBounds_toArray,List.set_cons_zero,List.set_cons_succ,List.getElem_toArray,List.getElem_cons_zero,List.getElem_cons_succ]
 refine wpAnyH_take (i:=3) (v:=?v3) rfl (by kernel_rfl) (by kernel_rfl) (by kernel_rfl) (fun _ _ _ h=>h) (Or.inl ⟨by rfl,?hy3⟩) (by assumption) ?Vj
 case hy3=>(intro u hu;obtain ⟨_,_,_,_,_,_,_,_⟩:=hu;go_simp;try with_reducible rfl)
 try simp only [Act.put,List.setIfInBounds_toArray,List.set_cons_zero,List.set_cons_succ,List.getElem_toArray,List.getElem_cons_zero,List.getElem_cons_succ]
 refine wpAnyH_ready (rs:=[2]) (by kernel_rfl) (by simp) ?_
 refine AllReadyH.cons rfl (fun K hK=>?_) AllReadyH.nil
 go_simp
 refine (HM _).mono ?_
 rintro e w1 ⟨rfl,hb1⟩
 go_wp2_with fail
 refine hK.out _ _ (HS.out (ah gH.1 hb1)) (fun gI=>?_)
 clear hK K gH
 have gH:=gI
 clear gI
 try simp only [Act.put,List.setIfInBounds_toArray,List.set_cons_zero,List.set_cons_succ,List.getElem_toArray,List.getElem_cons_zero,List.getElem_cons_succ]
 refine wpAnyH_take (i:=4) (v:=?v4) rfl (by kernel_rfl) (by kernel_rfl) (by kernel_rfl) (fun _ _ _ h=>h) (Or.inl ⟨by rfl,?hy4⟩) (by assumption) ?Vi
 case hy4=>(intro u hu;obtain ⟨_,_,_,_,_,_,_,_⟩:=hu;go_simp;try with_reducible rfl)
 try simp only [Act.put,List.setIfInBounds_toArray,List.set_cons_zero,List.set_cons_succ,List.getElem_toArray,List.getElem_cons_zero,List.getElem_cons_succ]
 refine wpAnyH_take (i:=5) (v:=?v5) rfl (by kernel_rfl) (by kernel_rfl) (by kernel_rfl) (fun _ _ _ h=>h) (Or.inl ⟨by rfl,?hy5⟩) (by assumption) ?Vh
 case hy5=>(intro u hu;obtain ⟨_,_,_,_,_,_,_,_⟩:=hu;go_simp;try with_reducible rfl)
 try simp only [Act.put,List.setIfInBounds_toArray,List.set_cons_zero,List.set_cons_succ,List.getElem_toArray,List.getElem_cons_zero,List.getElem_cons_succ]
 refine wpAnyH_done (by kernel_rfl) ?_ _
 refine NoPanic.normal ?_
 go_wp2_with fail
 go_ret
 exact ⟨rfl,ah hb0 gH.1⟩
section
variable {P:Program} {md:Region.Mode} {ops:Array Oper} {Q:Exit->Act->World->Prop} {S:World->Prop} {oi:Oper} {d fuel:Nat} {listed:Array Bool} {a:Act} {w:World}
theorem Zj (i j q:Nat) {oj oq:Oper} {e f:Nat}
  (h:∀ K':Act->World->Prop,Shut (∀ v w,S w->(S w->wpAnyH P md ops Q S fuel (listed.setIfInBounds i true) (a.put (some d) v) w)->K' (a.put oi.dst v) w)->if Region.wanted oi (yielded ops a.tmps)=true then Oper.wp P oi a w K' Q else K' (a.put oi.dst undef) w)
  (h2:∀ K':Act->World->Prop,Shut (∀ v w,S w->(S w->wpAnyH P md ops Q S fuel (listed.setIfInBounds j true) (a.put (some e) v) w)->K' (a.put oj.dst v) w)->if Region.wanted oj (yielded ops a.tmps)=true then Oper.wp P oj a w K' Q else K' (a.put oj.dst undef) w)
  (h3:∀ K':Act->World->Prop,Shut (∀ v w,S w->(S w->wpAnyH P md ops Q S fuel (listed.setIfInBounds q true) (a.put (some f) v) w)->K' (a.put oq.dst v) w)->if Region.wanted oq (yielded ops a.tmps)=true then Oper.wp P oq a w K' Q else K' (a.put oq.dst undef) w)
  (hi:ops[i]?=some oi:=by rfl) (hd:oi.dst=some d:=by rfl) (hj:ops[j]?=some oj:=by rfl) (he:oj.dst=some e:=by rfl) (hq:ops[q]?=some oq:=by rfl) (hf:oq.dst=some f:=by rfl) (hr:Region.ready md ops listed=[i,j,q]:=by kernel_rfl):wpAnyH P md ops Q S (fuel+1) listed a w :=
 wpAnyH_ready hr (by simp) (AllReadyH.cons hi (fun K' hK=>h K' (fun v w h1 h2=>hK.out _ w h1 (fun h3=>hd ▸ h2 h3)))
  (AllReadyH.cons hj (fun K' hK=>h2 K' (fun v w h1 h2=>hK.out _ w h1 (fun h3=>he ▸ h2 h3)))
   (AllReadyH.cons hq (fun K' hK=>h3 K' (fun v w h1 h2=>hK.out _ w h1 (fun h3=>hf ▸ h2 h3))) AllReadyH.nil)))
end
end Go.Proofs.YtgikfenllgldoaaGreat
namespace Go.Proofs.YtgikfenllgldoaaGreat
open Go.Proofs.Tryz
open Go.ChangeShapes Go.WideShapes Go.ChangeAt Go.RowKit
def bY {α:Type} (R:bI α) (t:TypeId):Prop :=
 ∀ {H:Type} {enc:TypeId×Value->H} {W:World} {base n:Nat} {sp:Nat->Bool} {held:Bool} {cs:List Value} {x:DataW H×List MemPlace},
  DataW.trod enc prog W base sp held n t cs=some x->Light x.1 t->∃ y,R (fun _=>True) W cs y
theorem kG:bY au 9:=by
 intro H enc W base n sp held cs x h hl
 obtain ⟨s,hs,rfl,_⟩:=DataW.trod_string underlying9 h
 refine ⟨s,hs,?_⟩
 have:=hl s.data.toList.length (by simp [DataW.weights])
 simp at this
 omega
theorem oP:bY aC 3:=by
 intro H enc W base n sp held cs x h _
 obtain ⟨e,e1,_,_⟩:=DataW.trod_int underlying3 h
 exact ⟨e,e1⟩
theorem Qi:bY kR 4:=by
 intro H enc W base n sp held cs x h _
 obtain ⟨b,b1,_⟩:=DataW.trod_bool underlying4 h
 exact ⟨b,b1⟩
theorem uj {α:Type} [Inhabited α] {R:bI α} {k bytes:Nat} {t e:TypeId} (hR:aJ R k) (hu:prog.underlying t=some (.slice e)) (ck:prog.cellsOf e=k) (bk:prog.bytesOf e=bytes) (hk0:0<k) (hE:bY R e):bY (bN R k bytes) t:=by
 intro H enc W base n sp held cs x h hl
 rcases Go.Deep.open_slice hu h with ⟨hv,_⟩ | ⟨a,len,cap,m,nn,D,Pl,hv,_,hlc,_,hm,rfl,hel⟩
 ·exact ⟨[],none,0,0,hv,ag.nil _ _ _ _ (fun _=>rfl)⟩
 ·obtain ⟨w1,w2⟩:=YC hu hl
  simp only [List.length_map,List.length_range,bk] at w1
  have lg:len<=m:=by rw [hm];split <;> omega
  rw [ck] at hel
  have each:∀ i,i<len->∃ y:α,∃ cs,R (fun _=>True) W cs y/\∀ j u,cs[j]?=some u->W.cell? ((a.add (i*k)).add j)=some u:=fun i hi=>by
   obtain ⟨cs',h1,h2⟩:=hel i (by omega)
   obtain ⟨y,hy⟩:=hE h2 (w2 _ (List.mem_map.2 ⟨i,List.mem_range.2 hi,rfl⟩))
   obtain ⟨_,_,hcell⟩:=World.cells?_some h1
   refine ⟨y,cs',hy,fun j u hj=>?_⟩
   have hjk:j<k:=by
    have:=(List.getElem?_eq_some_iff.1 hj).1
    rwa [hR.len hy] at this
   rw [hcell j hjk,hj]
  obtain ⟨f,hf⟩:=Go.Deep.choose_lt each
  refine ⟨(List.range len).map f,some a,len,cap,hv,by simp,hlc,(fun h=>by cases h),w1,fun hpos=>?_⟩
  obtain ⟨B,off,spot⟩:=a
  obtain ⟨cs0,hr0,hc0⟩:=hf 0 hpos
  have hex:∃ u,cs0[0]?=some u:=by
   cases e:cs0 with
   | nil=>have:=hR.len hr0;rw [e] at this;simp at this;omega
   | cons u r=>exact ⟨u,rfl⟩
  obtain ⟨u0,hu0⟩:=hex
  have hc0:=hc0 0 u0 hu0
  have hsp:spot=none:=by
   have:=World.cell?_spot hc0
   simpa [Addr.add] using this
  subst hsp
  rw [add_lit,add_lit] at hc0
  refine ⟨B,off,rfl,Cv hc0,trivial,fun i hi=>?_⟩
  obtain ⟨cs,hr,hc⟩:=hf i hi
  refine ⟨cs,by rw [Yl f len i hi];exact hr,fun j u hj=>?_⟩
  have:=hc j u hj
  rwa [add_lit,add_lit] at this
def vG {α:Type} (fs:List Field) (off total:Nat) (R:bI α):Prop :=
 ∀ {H:Type} {enc:TypeId×Value->H} {W:World} {base n:Nat} {sp:Nat->Bool} {held:Bool} {cs:List Value},cs.length=total ->
  (∀ (j:Nat) (f:Field),fs[j]?=some f->∃ d,DataW.trod enc prog W base sp held n f.type ((cs.drop f.offset).take (prog.cellsOf f.type))=some d/\Light d.1 f.type)->∃ y,R (fun _=>True) W (cs.drop off) y
theorem rC {α:Type} {R:bI α} {f:Field} {off total:Nat} (ho:f.offset=off) (ht:off+prog.cellsOf f.type=total) (h:bY R f.type):vG [f] off total R:=by
 intro H enc W base n sp held cs hl hf
 obtain ⟨d,h1,h2⟩:=hf 0 f rfl
 rw [ho,List.take_of_length_le (by rw [List.length_drop];omega)] at h1
 exact h h1 h2
theorem iV {α β:Type} {R:bI α} {S:bI β} {f:Field} {fs:List Field} {off m total:Nat} (ho:f.offset=off) (hm:off+prog.cellsOf f.type=m) (h:bY R f.type) (hs:vG fs m total S):vG (f :: fs) off total (bf R S):=by
 intro H enc W base n sp held cs hl hf
 obtain ⟨d,h1,h2⟩:=hf 0 f rfl
 rw [ho] at h1
 obtain ⟨y,hy⟩:=h h1 h2
 obtain ⟨z,hz⟩:=hs (cs:=cs) hl (fun j g hg=>hf (j+1) g (by simpa using hg))
 refine ⟨(y,z),(cs.drop off).take (prog.cellsOf f.type),cs.drop m,?_,hy,hz⟩
 rw [<- hm,<- List.drop_drop]
 exact (List.take_append_drop _ _).symm
theorem rA {α:Type} {R:bI α} {t:TypeId} {fs:Array Field} {total:Nat} (hu:prog.underlying t=some (.struct fs)) (hc:prog.cellsOf t=total) (h:vG fs.toList 0 total R):bY R t:=by
 intro H enc W base n sp held cs x hx hl
 obtain ⟨xs,m,_,rfl,hlen,hxs,hf⟩:=DataW.trod_struct hu hx
 have:=h (enc:=enc) (W:=W) (base:=base) (n:=m) (sp:=sp) (held:=held) (cs:=cs) (by rw [hlen,hc]) (fun j f hj=>by
  have hj':fs[j]?=some f:=by simpa using hj
  have h1:=hf j f hj'
  have hlt:j<xs.length:=by
   have:=(Array.getElem?_eq_some_iff.1 hj').1
   omega
  have h2:xs[j]?=some xs[j]:=List.getElem?_eq_getElem hlt
  rw [h2] at h1
  refine ⟨xs[j],h1,YR hu hl (j:=j) (by simp [hj']) (by simp [h2])⟩)
 simpa using this
theorem PE {P:Program} {t:TypeId} {fs:Array Field} (hu:P.underlying t=some (.struct fs)) {H:Type} {enc:TypeId×Value->H} {W:World} {base b0:Nat} {r:Reach} {sp:Nat->Bool} {held:Bool} {v:Value} {d:DataW H} {p:List MemPlace}
  (hv:Value.okWide P W r b0 t v) (hd:DataW.Trod enc P W base sp held t v d p):∃ (cs:Array Value) (fuel:Nat),v=.agg cs/\DataW.trod enc P W base sp held fuel t cs.toList=some (d,p):=by
 obtain ⟨cs,rfl,_⟩:=okWide_struct hu hv
 obtain ⟨fuel,hf⟩:=hd
 exact ⟨cs,fuel,rfl,hf⟩
end Go.Proofs.YtgikfenllgldoaaGreat
