/- Functions of the program, each walked under the conditions that its theorem names. -/
import Derived.Test.YtgikfenllgldoaaGreatQ30
import Derived.Test.YtgikfenllgldoaaGreatQ32
set_option linter.unusedSimpArgs false
set_option maxRecDepth 100000
set_option maxHeartbeats 32000000
namespace Go.Proofs.YtgikfenllgldoaaGreat
open Go.Proofs.Tryz
open Go.RowKit Go.Maps
def jN (l:List ByteArray) (s:ByteArray):Int:=match fI l s with | some k=>(k:Int) | none=>-1
theorem BM {l:List ByteArray} {s:ByteArray} {i:Nat} (h1:i<l.length) (h2:ay (l.getD i default) s=true) (h3:∀ j,j<i->ay (l.getD j default) s=false):jN l s=(i:Int):=by
 unfold jN
 rw [Wm h1 ((eZ _ _).1 h2) (fun j hj e=>by have:=h3 j hj;rw [(eZ _ _).2 e] at this;cases this)]
theorem BL {l:List ByteArray} {s:ByteArray} (h:∀ j,j<l.length->ay (l.getD j default) s=false):jN l s=-1:=by
 unfold jN
 rw [TE (fun j hj e=>by have:=h j hj;rw [(eZ _ _).2 e] at this;cases this)]
theorem Bg {α:Type} [Inhabited α] {f:α->ByteArray} {L:List α} {j:Nat} (h:j<L.length):(L.map f).getD j default=f (L.getD j default):=by
 rw [List.getD_eq_getElem?_getD,List.getD_eq_getElem?_getD,List.getElem?_map,List.getElem?_eq_getElem h];rfl
theorem Ca:(prog.info? 41).map (·.size)=some 16:=by kernel_rfl
def Ia (g:Nat) (lb:Array Value) (p:aB->Bool) (w:World):Prop :=
 ∀ (W:World) (cs:List Value) (x:aB),Below w.heap.size w W->aj (fun _=>True) W cs x->Calls prog g (#[.agg cs.toArray]++lb) W fun e w'=>e=.returned (.bool (p x))/\Below W.heap.size W w'
theorem zGv (a:Option Addr) (n cap:Nat) (A:Where) (L:List aB) (w:World) (hL:Hid (ag aj 16 296 A w a n cap L)) (p:aB->Bool) (g:Nat) (lb:Array Value) (eg:∀ args w,(callFunc g args).run prog w=.ok (.enter g args) w) (hp:Hid (Ia g lb p w)) :
  Calls prog 31 #[.slice a n cap,.func (.func g) #[] lb] w fun e w'=>((∃ i:Nat,i<L.length/\p (L.getD i default)=true/\(∀ j,j<i->p (L.getD j default)=false)/\e=.returned (.int .i64 i))\/((∀ j,j<L.length->p (L.getD j default)=false)/\e=.returned (.int .i64 (-1))))/\Below w.heap.size w w':=by
 have hlen:=hL.out.len (by decide)
 have HN:Hid (L.length=n):=hL.out.1
 go_enter func31,ntmps31
 go_wp2
 go_loopw [8] (fun i wr=>∃ k:Nat,k<=n/\i=.int .i64 k/\Below w.heap.size w wr/\Hid (∀ j,j<k->p (L.getD j default)=false)) (fun i _=>n - (intOf i).toNat)
 case atStart=>exact ⟨0,Nat.zero_le _,rfl,Below.refl _ _,fun j hj=>absurd hj (Nat.not_lt_zero _)⟩
 case round =>
  obtain ⟨k,hk,rfl,hbel,hall⟩:=hrel
  by_cases hlt:k<n
  ·obtain ⟨B,off,rfl,hB,_,cs,hr,hv⟩:=(hL.out.on aj.ae hbel).get hlt
   have HV:Hid (wr.rangeAt B (off+k*16) cs):=hv
   have hi:(prog.info? 41).map (·.size)=some cs.length:=by rw [aj.ae.len hr];exact Ca
   have hcall:=hp.out wr cs (L.getD k default) hbel (aj.ae.weak hr (fun _ _ _=>trivial))
   clear hv hr
   have HG:Hid (p (L.getD k default)=false->∀ j,j<k+1->p (L.getD j default)=false):=fun h j hj=>by
    rcases Nat.lt_succ_iff_lt_or_eq.1 hj with h' | rfl
    ·exact hall.out j h'
    ·exact h
   have HF:Hid (p (L.getD k default)=true->∃ i:Nat,i<L.length/\p (L.getD i default)=true/\(∀ j,j<i->p (L.getD j default)=false)/\Ending.returned (.int .i64 k)=.returned (.int .i64 i)):=fun h=>⟨k,by rw [HN.out];exact hlt,h,hall.out,rfl⟩
   clear hall
   generalize L.getD k default=x at hcall HG HF
   cases hq:p x
   ·have AJ:Hid (∀ j,j<k+1->p (L.getD j default)=false):=HG.out hq
    rw [hq] at hcall
    clear HG HF hq
    go_wp2_with (first | (refine wpList_load_mid rfl 41 _ rfl B (off+k*16) rfl cs _ HV.out underlying41 rfl hi ?_) | fail)
    refine hcall.mono ?_
    rintro e w' ⟨rfl,hb'⟩
    go_wp2_with fail
    go_roundw
    case rel=>exact ⟨k+1,by omega,by go_num,ah hbel hb',AJ⟩
    case measure=>simp [intOf];omega
   ·have vg:=HF.out hq
    have xh:Hid (∃ i:Nat,i<L.length/\p (L.getD i default)=true/\(∀ j,j<i->p (L.getD j default)=false)/\Ending.returned (.int .i64 k)=.returned (.int .i64 i)):=vg
    rw [hq] at hcall
    clear HG HF hq vg
    go_wp2_with (first | (refine wpList_load_mid rfl 41 _ rfl B (off+k*16) rfl cs _ HV.out underlying41 rfl hi ?_) | fail)
    refine hcall.mono ?_
    rintro e w' ⟨rfl,hb'⟩
    go_wp2_with fail
    go_ret
    exact ⟨.inl xh.out,ah hbel hb'⟩
  ·have HA:Hid (∀ j,j<L.length->p (L.getD j default)=false):=fun j hj=>hall.out j (by rw [HN.out] at hj;omega)
   clear hall
   go_wp2
   go_ret
   exact ⟨.inr ⟨HA.out,rfl⟩,hbel⟩
theorem Xk:(prog.info? 56).map (·.size)=some 9:=by kernel_rfl
def D6 (g:Nat) (lb:Array Value) (p:aX->Bool) (w:World):Prop :=
 ∀ (W:World) (cs:List Value) (x:aX),Below w.heap.size w W->av (fun _=>True) W cs x->Calls prog g (#[.agg cs.toArray]++lb) W fun e w'=>e=.returned (.bool (p x))/\Below W.heap.size W w'
theorem zFc (a:Option Addr) (n cap:Nat) (A:Where) (L:List aX) (w:World) (hL:Hid (ag av 9 112 A w a n cap L)) (p:aX->Bool) (g:Nat) (lb:Array Value) (eg:∀ args w,(callFunc g args).run prog w=.ok (.enter g args) w) (hp:Hid (D6 g lb p w)) :
  Calls prog 33 #[.slice a n cap,.func (.func g) #[] lb] w fun e w'=>((∃ i:Nat,i<L.length/\p (L.getD i default)=true/\(∀ j,j<i->p (L.getD j default)=false)/\e=.returned (.int .i64 i))\/((∀ j,j<L.length->p (L.getD j default)=false)/\e=.returned (.int .i64 (-1))))/\Below w.heap.size w w':=by
 have hlen:=hL.out.len (by decide)
 have HN:Hid (L.length=n):=hL.out.1
 go_enter func33,ntmps33
 go_wp2
 go_loopw [8] (fun i wr=>∃ k:Nat,k<=n/\i=.int .i64 k/\Below w.heap.size w wr/\Hid (∀ j,j<k->p (L.getD j default)=false)) (fun i _=>n - (intOf i).toNat)
 case atStart=>exact ⟨0,Nat.zero_le _,rfl,Below.refl _ _,fun j hj=>absurd hj (Nat.not_lt_zero _)⟩
 case round =>
  obtain ⟨k,hk,rfl,hbel,hall⟩:=hrel
  by_cases hlt:k<n
  ·obtain ⟨B,off,rfl,hB,_,cs,hr,hv⟩:=(hL.out.on av.ae hbel).get hlt
   have HV:Hid (wr.rangeAt B (off+k*9) cs):=hv
   have hi:(prog.info? 56).map (·.size)=some cs.length:=by rw [av.ae.len hr];exact Xk
   have hcall:=hp.out wr cs (L.getD k default) hbel (av.ae.weak hr (fun _ _ _=>trivial))
   clear hv hr
   have HG:Hid (p (L.getD k default)=false->∀ j,j<k+1->p (L.getD j default)=false):=fun h j hj=>by
    rcases Nat.lt_succ_iff_lt_or_eq.1 hj with h' | rfl
    ·exact hall.out j h'
    ·exact h
   have HF:Hid (p (L.getD k default)=true->∃ i:Nat,i<L.length/\p (L.getD i default)=true/\(∀ j,j<i->p (L.getD j default)=false)/\Ending.returned (.int .i64 k)=.returned (.int .i64 i)):=fun h=>⟨k,by rw [HN.out];exact hlt,h,hall.out,rfl⟩
   clear hall
   generalize L.getD k default=x at hcall HG HF
   cases hq:p x
   ·have AJ:Hid (∀ j,j<k+1->p (L.getD j default)=false):=HG.out hq
    rw [hq] at hcall
    clear HG HF hq
    go_wp2_with (first | (refine wpList_load_mid rfl 56 _ rfl B (off+k*9) rfl cs _ HV.out underlying56 rfl hi ?_) | fail)
    refine hcall.mono ?_
    rintro e w' ⟨rfl,hb'⟩
    go_wp2_with fail
    go_roundw
    case rel=>exact ⟨k+1,by omega,by go_num,ah hbel hb',AJ⟩
    case measure=>simp [intOf];omega
   ·have vg:=HF.out hq
    have xh:Hid (∃ i:Nat,i<L.length/\p (L.getD i default)=true/\(∀ j,j<i->p (L.getD j default)=false)/\Ending.returned (.int .i64 k)=.returned (.int .i64 i)):=vg
    rw [hq] at hcall
    clear HG HF hq vg
    go_wp2_with (first | (refine wpList_load_mid rfl 56 _ rfl B (off+k*9) rfl cs _ HV.out underlying56 rfl hi ?_) | fail)
    refine hcall.mono ?_
    rintro e w' ⟨rfl,hb'⟩
    go_wp2_with fail
    go_ret
    exact ⟨.inl xh.out,ah hbel hb'⟩
  ·have HA:Hid (∀ j,j<L.length->p (L.getD j default)=false):=fun j hj=>hall.out j (by rw [HN.out] at hj;omega)
   clear hall
   go_wp2
   go_ret
   exact ⟨.inr ⟨HA.out,rfl⟩,hbel⟩
theorem Rn (Bn Bs:Nat) (s:ByteArray) (cs:List Value) (x:aB) (w:World) (h:Hid (aj (fun _=>True) w cs x)) (qn:af w Bn [.func (.func 17) #[] #[]]) (qs:af w Bs [.string s]) :
  Calls prog 32 #[.agg cs.toArray,.pointer (some ⟨Bn,0,none⟩),.pointer (some ⟨Bs,0,none⟩)] w fun e w'=>e=.returned (.bool (ay x.1 s))/\Below w.heap.size w w':=by
 have hi:(prog.info? 41).map (·.size)=some cs.length:=by rw [aj.ae.len h.out];exact Ca
 obtain ⟨W1,hW1⟩:∃ W,W=w.alloc (.cells cs.toArray 41):=⟨_,rfl⟩
 have B1:Below w.heap.size w W1:=by rw [hW1];exact (Below.refl _ _).alloc (Nat.le_refl _) _
 have q1:af W1 w.heap.size cs:=by rw [hW1];exact af.new w 41 cs
 have HB:Hid (Below w.heap.size w W1):=B1
 have HQ:Hid (∀ u,Below W1.heap.size W1 u->u.cell? ⟨Bn,0,none⟩=some (.func (.func 17) #[] #[])/\u.cell? ⟨Bs,0,none⟩=some (.string s)/\Bn<u.heap.size/\Bs<u.heap.size):=fun u hu=>⟨((qn.on (ah B1 hu)).2 0 _ rfl).1,((qs.on (ah B1 hu)).2 0 _ rfl).1,(qn.on (ah B1 hu)).1,(qs.on (ah B1 hu)).1⟩
 have HR:Hid (∀ u,Below W1.heap.size W1 u->u.rangeAt w.heap.size 0 cs/\aj (fun _=>True) u cs x):=fun u hu=>⟨(q1.on hu).range,aj.ae.kept h.out (Kept.below (ah B1 hu))⟩
 have eg:∀ args w,(callFunc 17 args).run prog w=.ok (.enter 17 args) w:=by intro args w;rfl
 clear h qn qs B1 q1
 go_enter func32,ntmps32
 go_upto_region 1 with fail
 rw [<- hW1]
 clear hW1
 refine t0 (fun z=>Below W1.heap.size W1 z) (Below.refl _ _).drew (fun gH=>?_)
 have hb0:Below W1.heap.size W1 W1.drew:=(Below.refl _ _).drew
 generalize hwd:W1.drew=wd at gH hb0 |-
 clear hwd
 try go_frame
 refine' tk 0 ?_ ?_;rotate_left
 ·intro u hu;obtain ⟨f0,f1,f2,f3⟩:=HQ.out u hu;clear hu;go_simp;try with_reducible rfl
 try go_frame
 refine tq 1 (.agg cs.toArray) (yieldsIf_load_mid (by rfl) 41 _ rfl w.heap.size 0 rfl cs _ (fun u hu=>(HR.out u hu).1) underlying41 rfl hi) ?_ (hi:=rfl)
 try go_frame
 refine' tk 3 ?_ ?_;rotate_left
 ·intro u hu;obtain ⟨f0,f1,f2,f3⟩:=HQ.out u hu;clear hu;go_simp;try with_reducible rfl
 try go_frame
 have hC:=Qt cs x _ wd (HR.out wd hb0).2
 refine tr 2 (fun K hK=>?_)
 go_simp
 refine hC.mono ?_
 rintro e u2 ⟨rfl,d2⟩
 clear hC
 have hb2:Below W1.heap.size W1 u2:=ah hb0 d2
 go_wp2_with fail
 refine hK.out _ _ hb2 (fun gI=>?_)
 clear hK K gH;have gH:=gI;clear gI
 try go_frame
 have hq:(x.1.toList == s.toList)=ay x.1 s:=rfl
 obtain ⟨bo,pU⟩:∃ b,ay x.1 s=b:=⟨_,rfl⟩
 rw [pU] at hq
 have vU:Hid (ay x.1 s=bo):=pU
 clear pU
 refine tp 4 ?_
 try go_frame
 refine tp 5 ?_
 try go_frame
 refine tz ?_
 go_wp2_with fail
 go_ret
 exact ⟨by rw [vU.out];rfl,ah HB.out hb2⟩
theorem zHe (a:Option Addr) (n cap:Nat) (L:List aB) (s:ByteArray) (w:World) (hL:Hid (ag aj 16 296 (fun _=>True) w a n cap L)) :
  Calls prog 16 #[.slice a n cap,.func (.func 17) #[] #[],.string s] w fun e w'=>e=.returned (.int .i64 (jN (L.map Prod.fst) s))/\Below w.heap.size w w':=by
 obtain ⟨W1,hW1⟩:∃ W,W=w.alloc (.cells #[.func (.func 17) #[] #[]] 75):=⟨_,rfl⟩
 obtain ⟨W2,hW2⟩:∃ W,W=W1.alloc (.cells #[.string s] 9):=⟨_,rfl⟩
 have B1:Below w.heap.size w W1:=by rw [hW1];exact (Below.refl _ _).alloc (Nat.le_refl _) _
 have B2:Below W1.heap.size W1 W2:=by rw [hW2];exact (Below.refl _ _).alloc (Nat.le_refl _) _
 have z1:W1.heap.size=w.heap.size+1:=by rw [hW1];simp
 have q1:af W2 w.heap.size [.func (.func 17) #[] #[]]:=by refine af.on ?_ B2;rw [hW1];exact af.new w 75 _
 have q2:af W2 (w.heap.size+1) [.string s]:=by rw [<- z1,hW2];exact af.new W1 9 [.string s]
 have BB:Below w.heap.size w W2:=ah B1 B2
 have HB:Hid (Below w.heap.size w W2):=BB
 have hC:=zGv a n cap _ L W2 (hL.out.on aj.ae BB) (fun y=>ay y.1 s) 32 #[.pointer (some ⟨w.heap.size,0,none⟩),.pointer (some ⟨w.heap.size+1,0,none⟩)] (by intro args w;rfl) (fun W cs y hb hr=>Rn _ _ s cs y W hr (q1.on hb) (q2.on hb))
 have l1:=q1.1
 clear hL B1 B2 z1 q1 q2 BB
 go_enter func16,ntmps16
 go_upto_region 1 with fail
 rw [<- hW1,<- hW2]
 clear hW1 hW2
 go_wp2_with fail
 refine hC.mono ?_
 clear hC
 rintro e u3 ⟨h9,d3⟩
 have HE:Hid (e=.returned (.int .i64 (jN (L.map Prod.fst) s))/\Below w.heap.size w u3):=by
  refine ⟨?_,ah HB.out d3⟩
  rcases h9 with ⟨i,h1,h2,h3,rfl⟩ | ⟨h1,rfl⟩
  ·rw [BM (i:=i) (by rw [List.length_map];exact h1) (by rw [Bg h1];exact h2) (fun j hj=>by rw [Bg (by omega)];exact h3 j hj)]
  ·rw [BL (fun j hj=>by rw [List.length_map] at hj;rw [Bg hj];exact h1 j hj)]
 obtain ⟨he,hb⟩:=HE.out
 subst he
 clear h9 HE d3
 obtain ⟨pi,hpi⟩:∃ i,jN (L.map Prod.fst) s=i:=⟨_,rfl⟩
 have Uw:Hid (jN (L.map Prod.fst) s=pi):=hpi
 rw [hpi]
 clear hpi
 have HB3:Hid (Below w.heap.size w u3):=hb
 clear hb
 go_wp2_with fail
 go_ret
 exact ⟨by rw [Uw.out];rfl,HB3.out⟩
theorem OX (Bn Bs:Nat) (s:ByteArray) (cs:List Value) (x:aX) (w:World) (h:Hid (av (fun _=>True) w cs x)) (qn:af w Bn [.func (.func 19) #[] #[]]) (qs:af w Bs [.string s]) :
  Calls prog 34 #[.agg cs.toArray,.pointer (some ⟨Bn,0,none⟩),.pointer (some ⟨Bs,0,none⟩)] w fun e w'=>e=.returned (.bool (ay x.1 s))/\Below w.heap.size w w':=by
 have hi:(prog.info? 56).map (·.size)=some cs.length:=by rw [av.ae.len h.out];exact Xk
 obtain ⟨W1,hW1⟩:∃ W,W=w.alloc (.cells cs.toArray 56):=⟨_,rfl⟩
 have B1:Below w.heap.size w W1:=by rw [hW1];exact (Below.refl _ _).alloc (Nat.le_refl _) _
 have q1:af W1 w.heap.size cs:=by rw [hW1];exact af.new w 56 cs
 have HB:Hid (Below w.heap.size w W1):=B1
 have HQ:Hid (∀ u,Below W1.heap.size W1 u->u.cell? ⟨Bn,0,none⟩=some (.func (.func 19) #[] #[])/\u.cell? ⟨Bs,0,none⟩=some (.string s)/\Bn<u.heap.size/\Bs<u.heap.size):=fun u hu=>⟨((qn.on (ah B1 hu)).2 0 _ rfl).1,((qs.on (ah B1 hu)).2 0 _ rfl).1,(qn.on (ah B1 hu)).1,(qs.on (ah B1 hu)).1⟩
 have HR:Hid (∀ u,Below W1.heap.size W1 u->u.rangeAt w.heap.size 0 cs/\av (fun _=>True) u cs x):=fun u hu=>⟨(q1.on hu).range,av.ae.kept h.out (Kept.below (ah B1 hu))⟩
 have eg:∀ args w,(callFunc 19 args).run prog w=.ok (.enter 19 args) w:=by intro args w;rfl
 clear h qn qs B1 q1
 go_enter func34,ntmps34
 go_upto_region 1 with fail
 rw [<- hW1]
 clear hW1
 refine t0 (fun z=>Below W1.heap.size W1 z) (Below.refl _ _).drew (fun gH=>?_)
 have hb0:Below W1.heap.size W1 W1.drew:=(Below.refl _ _).drew
 generalize hwd:W1.drew=wd at gH hb0 |-
 clear hwd
 try go_frame
 refine' tk 0 ?_ ?_;rotate_left
 ·intro u hu;obtain ⟨f0,f1,f2,f3⟩:=HQ.out u hu;clear hu;go_simp;try with_reducible rfl
 try go_frame
 refine tq 1 (.agg cs.toArray) (yieldsIf_load_mid (by rfl) 56 _ rfl w.heap.size 0 rfl cs _ (fun u hu=>(HR.out u hu).1) underlying56 rfl hi) ?_ (hi:=rfl)
 try go_frame
 refine' tk 3 ?_ ?_;rotate_left
 ·intro u hu;obtain ⟨f0,f1,f2,f3⟩:=HQ.out u hu;clear hu;go_simp;try with_reducible rfl
 try go_frame
 have hC:=Qv cs x _ wd (HR.out wd hb0).2
 refine tr 2 (fun K hK=>?_)
 go_simp
 refine hC.mono ?_
 rintro e u2 ⟨rfl,d2⟩
 clear hC
 have hb2:Below W1.heap.size W1 u2:=ah hb0 d2
 go_wp2_with fail
 refine hK.out _ _ hb2 (fun gI=>?_)
 clear hK K gH;have gH:=gI;clear gI
 try go_frame
 have hq:(x.1.toList == s.toList)=ay x.1 s:=rfl
 obtain ⟨bo,pU⟩:∃ b,ay x.1 s=b:=⟨_,rfl⟩
 rw [pU] at hq
 have vU:Hid (ay x.1 s=bo):=pU
 clear pU
 refine tp 4 ?_
 try go_frame
 refine tp 5 ?_
 try go_frame
 refine tz ?_
 go_wp2_with fail
 go_ret
 exact ⟨by rw [vU.out];rfl,ah HB.out hb2⟩
theorem zGE (a:Option Addr) (n cap:Nat) (L:List aX) (s:ByteArray) (w:World) (hL:Hid (ag av 9 112 (fun _=>True) w a n cap L)) :
  Calls prog 18 #[.slice a n cap,.func (.func 19) #[] #[],.string s] w fun e w'=>e=.returned (.int .i64 (jN (L.map Prod.fst) s))/\Below w.heap.size w w':=by
 obtain ⟨W1,hW1⟩:∃ W,W=w.alloc (.cells #[.func (.func 19) #[] #[]] 77):=⟨_,rfl⟩
 obtain ⟨W2,hW2⟩:∃ W,W=W1.alloc (.cells #[.string s] 9):=⟨_,rfl⟩
 have B1:Below w.heap.size w W1:=by rw [hW1];exact (Below.refl _ _).alloc (Nat.le_refl _) _
 have B2:Below W1.heap.size W1 W2:=by rw [hW2];exact (Below.refl _ _).alloc (Nat.le_refl _) _
 have z1:W1.heap.size=w.heap.size+1:=by rw [hW1];simp
 have q1:af W2 w.heap.size [.func (.func 19) #[] #[]]:=by refine af.on ?_ B2;rw [hW1];exact af.new w 77 _
 have q2:af W2 (w.heap.size+1) [.string s]:=by rw [<- z1,hW2];exact af.new W1 9 [.string s]
 have BB:Below w.heap.size w W2:=ah B1 B2
 have HB:Hid (Below w.heap.size w W2):=BB
 have hC:=zFc a n cap _ L W2 (hL.out.on av.ae BB) (fun y=>ay y.1 s) 34 #[.pointer (some ⟨w.heap.size,0,none⟩),.pointer (some ⟨w.heap.size+1,0,none⟩)] (by intro args w;rfl) (fun W cs y hb hr=>OX _ _ s cs y W hr (q1.on hb) (q2.on hb))
 have l1:=q1.1
 clear hL B1 B2 z1 q1 q2 BB
 go_enter func18,ntmps18
 go_upto_region 1 with fail
 rw [<- hW1,<- hW2]
 clear hW1 hW2
 go_wp2_with fail
 refine hC.mono ?_
 clear hC
 rintro e u3 ⟨h9,d3⟩
 have HE:Hid (e=.returned (.int .i64 (jN (L.map Prod.fst) s))/\Below w.heap.size w u3):=by
  refine ⟨?_,ah HB.out d3⟩
  rcases h9 with ⟨i,h1,h2,h3,rfl⟩ | ⟨h1,rfl⟩
  ·rw [BM (i:=i) (by rw [List.length_map];exact h1) (by rw [Bg h1];exact h2) (fun j hj=>by rw [Bg (by omega)];exact h3 j hj)]
  ·rw [BL (fun j hj=>by rw [List.length_map] at hj;rw [Bg hj];exact h1 j hj)]
 obtain ⟨he,hb⟩:=HE.out
 subst he
 clear h9 HE d3
 obtain ⟨pi,hpi⟩:∃ i,jN (L.map Prod.fst) s=i:=⟨_,rfl⟩
 have Uw:Hid (jN (L.map Prod.fst) s=pi):=hpi
 rw [hpi]
 clear hpi
 have HB3:Hid (Below w.heap.size w u3):=hb
 clear hb
 go_wp2_with fail
 go_ret
 exact ⟨by rw [Uw.out];rfl,HB3.out⟩
end Go.Proofs.YtgikfenllgldoaaGreat
namespace Go.Proofs.YtgikfenllgldoaaGreat
open Go.Proofs.Tryz
open Go.RowKit
theorem Row.wV {α:Type} [Inhabited α] {R:bI α} {k:Nat} (hR:aJ R k) {A:Where} {w0 u:World} {e:TypeId} {v:Value} {L:List α} (h:Row R k A w0 u e v L) {i:Nat} (hi:i<L.length):∃ g c cs,v=.slice (some ⟨g,0,none⟩) L.length c/\g<u.heap.size/\w0.heap.size<=g/\R (fun b=>A b/\v.ownBlock≠some b) u cs (L.getD i default)/\u.rangeAt g (i*k) cs:=by
 obtain ⟨xs,h1,h2⟩:=h
 obtain ⟨cs,hr,hc⟩:=h2.2 i hi
 have h12:=h1.2
 obtain ⟨_,⟨_,h0⟩ | ⟨g,cap,cur,rfl,hg,hh,hnc,_,hcs,htk⟩⟩:=h1.2
 ·omega
 refine ⟨g,cap,cs,rfl,(Array.getElem?_eq_some_iff.1 hh).1,hg,hr,fun j y hj=>?_⟩
 have hjk:j<k:=by have:=(List.getElem?_eq_some_iff.1 hj).1;rwa [hR.len hr] at this
 have hle:(i+1)*k<=L.length*k:=Nat.mul_le_mul_right k hi
 rw [Nat.add_mul,Nat.one_mul] at hle
 rw [h12.cellAt (i*k+j) (by omega),hc j hjk]
 exact hj
def Iu (m:Where) (w0 u:World) (g2 g3:Value) (st:VC):Prop :=
 Row ai 5 m w0 u 59 g2 st.1/\Row aA 4 m w0 u 124 g3 st.2/\(∀ b,g2.ownBlock=some b->g3.ownBlock≠some b)/\(∀ b,m b->b<w0.heap.size)
theorem Iu.step {m:Where} {w0 u:World} {g2 g3:Value} {st:VC} (h:Iu m w0 u g2 g3 st) {c v:Nat} (hc:c<st.2.length) (hv:v<st.1.length) :
  ∃ Bc sS Bv oK cs vs A A',g3=.slice (some ⟨Bc,0,none⟩) st.2.length sS/\g2=.slice (some ⟨Bv,0,none⟩) st.1.length oK /\
   aA A u cs (st.2.getD c default)/\ai A' u vs (st.1.getD v default)/\u.rangeAt Bc (c*4) cs/\u.rangeAt Bv (v*5) vs/\Bc<u.heap.size/\Bv<u.heap.size/\Bc≠Bv /\
   u.frozen? ⟨Bc,c*4+3,none⟩=false/\u.frozen? ⟨Bv,v*5+4,none⟩=false/\w0.heap.size<=Bc/\w0.heap.size<=Bv /\
   ∀ z s s',Below u.heap.size u z->s.size<=140737488355328->s'.size<=140737488355328 ->
    Iu m w0 ((z.setCell ⟨Bc,c*4+3,none⟩ (.string s)).setCell ⟨Bv,v*5+4,none⟩ (.string s')) g2 g3 (st.1.set v (qG (st.1.getD v default) s'),st.2.set c (qF (st.2.getD c default) s)) /\
    Kept (fun b=>b≠Bc/\b≠Bv) z ((z.setCell ⟨Bc,c*4+3,none⟩ (.string s)).setCell ⟨Bv,v*5+4,none⟩ (.string s')) /\
    Below w0.heap.size w0 ((z.setCell ⟨Bc,c*4+3,none⟩ (.string s)).setCell ⟨Bv,v*5+4,none⟩ (.string s')):=by
 obtain ⟨hV,hC,hne,hm⟩:=h
 obtain ⟨Bc,sS,cs,rfl,lc,wc,rc,gc⟩:=hC.wV aA.ae hc
 obtain ⟨Bv,oK,vs,rfl,lv,wv,rv,gv⟩:=hV.wV ai.ae hv
 have hB:Bc≠Bv:=fun e=>hne Bv rfl (by rw [<- e];rfl)
 refine ⟨Bc,sS,Bv,oK,cs,vs,_,_,rfl,rfl,rc,rv,gc,gv,lc,lv,hB,hC.yO,hV.yO,wc,wv,fun z s s' hz hs hs'=>?_⟩
 have C1:=(hC.on aA.ae hz).set1 aA.ae hc (j:=3) (val:=.string s) (x:=qF (st.2.getD c default) s) (by omega) (fun B cs h=>h.Dg hs)
 have K1:Kept (fun b=>b≠Bc) z (z.setCell ⟨Bc,c*4+3,none⟩ (.string s)):=Kept.set (p:=⟨Bc,c*4+3,none⟩) (fun h=>h rfl) _
 have V1:=(hV.on ai.ae hz).bO ai.ae C1.below (K1.weak (fun b hb=>?_))
 ·have V2:=V1.set1 ai.ae hv (j:=4) (val:=.string s') (x:=qG (st.1.getD v default) s') (by omega) (fun B cs h=>h.Dg hs')
  have K2:Kept (fun b=>b≠Bv) (z.setCell ⟨Bc,c*4+3,none⟩ (.string s)) ((z.setCell ⟨Bc,c*4+3,none⟩ (.string s)).setCell ⟨Bv,v*5+4,none⟩ (.string s')):=Kept.set (p:=⟨Bv,v*5+4,none⟩) (fun h=>h rfl) _
  refine ⟨⟨by simpa using V2,?_,hne,hm⟩,(K1.weak (fun b hb=>hb.1)).trans (K2.weak (fun b hb=>hb.2)),V2.below⟩
  have C2:=C1.bO aA.ae V2.below (K2.weak (fun b hb=>?_))
  ·simpa using C2
  ·rcases hb with hb | hb
   ·intro e;have:=hm b hb;omega
   ·simp only [Value.ownBlock,Option.some.injEq] at hb;omega
 ·rcases hb with hb | hb
  ·intro e;have:=hm b hb;omega
  ·simp only [Value.ownBlock,Option.some.injEq] at hb;omega
end Go.Proofs.YtgikfenllgldoaaGreat
