/- Functions of the program, each walked under the conditions that its theorem names. -/
import Derived.Test.YtgikfenllgldoaaGreatQ39
import Derived.Test.YtgikfenllgldoaaGreatQ40
set_option linter.unusedSimpArgs false
set_option maxRecDepth 100000
set_option maxHeartbeats 32000000
namespace Go.Proofs.YtgikfenllgldoaaGreat
open Go.Proofs.Tryz
open Go.RowKit Go.Maps
theorem DX {α:Type} [Inhabited α] {L:List α} {f:α->Bool} (h:∀ j,j<L.length->f (L.getD j default)=false):L.any f=false:=by
 rw [List.any_eq_false]
 intro x hx
 obtain ⟨i,hi,rfl⟩:=List.mem_iff_getElem.1 hx
 have:=h i hi
 rw [List.getD_eq_getElem?_getD,List.getElem?_eq_getElem hi] at this
 simpa using this
theorem DW {α:Type} [Inhabited α] {L:List α} {f:α->Bool} {k:Nat} (hk:k<L.length) (h:f (L.getD k default)=true):L.any f=true:=by
 rw [List.any_eq_true]
 refine ⟨_,List.getElem_mem hk,?_⟩
 rwa [List.getD_eq_getElem?_getD,List.getElem?_eq_getElem hk] at h
theorem XV {α:Type} [Inhabited α] {L:List α} {k:Nat} (hk:k<L.length):L.getD k default∈L:=by
 rw [List.getD_eq_getElem?_getD,List.getElem?_eq_getElem hk];exact List.getElem_mem hk
def qI (P L:List aG) (g:bP->aG->Int) (z:bP->Bool) (t:bP):Bool:=!(getL L t.2).2 || (decide (g t (gG L t.2)=0) && !(z t && bE P t.1))
def qM (L:List aG) (g:bP->aG->Int) (t:bP):Bool:=(getL L t.2).2 && decide (0<g t (gG L t.2))
def tO (L:List aG) (o:aG->Int) (l:aG):Bool:=decide (0<o l) && ((getL L l.1).2 && decide (0<o (gG L l.1)))
def Dc (T:eu) (L:List aG) (g:bP->aG->Int) (z:bP->Bool) (o:aG->Int):Int :=
 if (dJ T).any (fun t=>qI T.2.1 L g z t.1)=true then 9 else if (dO T).any (fun t=>qM L g t.1)=true then 10 else if L.any (tO L o)=true then 11 else 0
theorem zFT {w:World} {T:eu} {ts:List Value} {A A':Where} {N:Nat} {g:bP->aG->Int} {oF:aG->Int} (z:bP->Bool) (hz:∀ t∈dJ T,(z t.1=true↔∀ d,iY d->g t.1 d=0)) (a:Option Addr) (n cap:Nat) (L:List aG) (hM:Hid (dZ w T N g oF)) (hT':Hid (di A w ts T)) (hL:Hid (ag ak 2 32 A' w a n cap L)) :
  Calls prog 106 #[.agg ts.toArray,.slice a n cap] w fun e w'=>e=.returned (.bool ((dJ T).any (fun t=>qI T.2.1 L g z t.1)))/\Below w.heap.size w w':=by
 have oz:Hid (di A w ts T):=hT'
 obtain ⟨⟨a1,n1,m1⟩,⟨a2,n2,m2⟩,⟨a3,n3,m3⟩,rfl,_,s1,s2,s3⟩:=hT'.out.out
 simp only at s1 s2 s3 oz |-
 obtain ⟨W1,hW1⟩:∃ W,W=w.alloc (.cells #[.string T.1,.slice a1 n1 m1,.slice a2 n2 m2,.slice a3 n3 m3,.map (some T.2.2.2.2)] 159):=⟨_,rfl⟩
 have B1:Below w.heap.size w W1:=by rw [hW1];go_grown
 have q0:af W1 w.heap.size [.string T.1,.slice a1 n1 m1,.slice a2 n2 m2,.slice a3 n3 m3,.map (some T.2.2.2.2)]:=by rw [hW1];exact af.new w 159 _
 have hl2:Hid ((dJ T).length=n2):=s2.1
 have hl3:Hid ((dO T).length=n3):=s3.1
 have hll:Hid (L.length=n):=hL.out.1
 have hb2:n2<140737488355328:=by have:=s2.2.2.2.1;omega
 have hb3:n3<140737488355328:=by have:=s3.2.2.2.1;omega
 have hbn:n<140737488355328:=by have:=hL.out.2.2.2.1;omega
 have HQ:Hid (∀ u,Below W1.heap.size W1 u->af u w.heap.size [.string T.1,.slice a1 n1 m1,.slice a2 n2 m2,.slice a3 n3 m3,.map (some T.2.2.2.2)]/\dZ u T N g oF/\di A u [.string T.1,.slice a1 n1 m1,.slice a2 n2 m2,.slice a3 n3 m3,.map (some T.2.2.2.2)] T/\ag bM 3 48 A u a2 n2 m2 (dJ T)/\ag bM 3 48 A u a3 n3 m3 (dO T)/\ag ak 2 32 A' u a n cap L/\Below w.heap.size w u):=fun u hb =>
  have k:=ah B1 hb
  ⟨q0.on hb,hM.out.below k,di.ae.kept oz.out (Kept.below k),s2.on bM.ae k,s3.on bM.ae k,hL.out.on ak.ae k,k⟩
 have HZ:Hid (∀ t∈dJ T,(z t.1=true↔∀ d,iY d->g t.1 d=0)):=hz
 have Ux:Hid (∀ l∈L,iY l):=AU hL.out
 have c2:=(q0.2 2 _ rfl).1
 clear hM hT' hL s1 s2 s3 q0 oz hz
 go_enter func106,ntmps106
 go_upto_region 1 with fail
 rw [<- hW1]
 clear hW1
 go_wp2_with fail
 go_loopw [12] (fun i wr=>∃ k:Nat,k<=n2/\i=.int .i64 k/\Below W1.heap.size W1 wr/\Hid (∀ j,j<k->qI T.2.1 L g z ((dJ T).getD j default).1=false)) (fun i _=>n2 - (intOf i).toNat)
 case atStart=>exact ⟨0,Nat.zero_le _,rfl,Below.refl _ _,fun j hj=>absurd hj (Nat.not_lt_zero _)⟩
 case round =>
  obtain ⟨k,hk,rfl,hbel,hall⟩:=hrel
  obtain ⟨k0,k1,k2,k3,_,k5,k6⟩:=HQ.out wr hbel
  by_cases hlt:k<n2
  ·
   have hin:(dJ T).getD k default∈dJ T:=XV (by rw [hl2.out];exact hlt)
   have hcl:=k1.c _ (List.mem_append.2 (.inl hin))
   have RL:=HZ.out _ hin
   obtain ⟨B,off,rfl,hB,iL,ws,hr,hv⟩:=k3.get hlt
   obtain ⟨⟨b1,b2,b3⟩,rfl,gM,hkey⟩:=hr.out
   simp only at gM hkey hv
   have d0:=hv 0 _ rfl
   have d1:=hv 1 _ rfl
   have d2:=hv 2 _ rfl
   rw [Nat.add_zero] at d0
   have iT:Hid (qI T.2.1 L g z ((dJ T).getD k default).1=false->∀ j,j<k+1->qI T.2.1 L g z ((dJ T).getD j default).1=false):=fun h j hj=>by
    rcases Nat.lt_succ_iff_lt_or_eq.1 hj with h1 | rfl
    ·exact hall.out j h1
    ·exact h
   have gp:Hid (qI T.2.1 L g z ((dJ T).getD k default).1=true->(dJ T).any (fun t=>qI T.2.1 L g z t.1)=true):=fun h=>DW (f:=fun (t:iO)=>qI T.2.1 L g z t.1) (by rw [hl2.out];exact hlt) h
   generalize (dJ T).getD k default=t at hcl RL gM hkey d0 d1 d2 iT gp
   obtain ⟨V,hV⟩:∃ V,V=wr.alloc (.cells #[.slice b1 b2 b3,.string t.1.2,.map (some t.2)] 192):=⟨_,rfl⟩
   have bV:Below wr.heap.size wr V:=by rw [hV];go_grown
   have qw:af V wr.heap.size [.slice b1 b2 b3,.string t.1.2,.map (some t.2)]:=by rw [hV];exact af.new wr 192 _
   have HD:=Qs a n cap A' L t.1.2 V (k5.on ak.ae bV)
   have z1:=(qw.2 1 _ rfl).1
   have qQ:Hid (∀ u,Below V.heap.size V u->af u w.heap.size [.string T.1,.slice a1 n1 m1,.slice (some ⟨B,off,none⟩) n2 m2,.slice a3 n3 m3,.map (some T.2.2.2.2)]/\af u wr.heap.size [.slice b1 b2 b3,.string t.1.2,.map (some t.2)]/\bF u t.2 N (g t.1)/\di A u [.string T.1,.slice a1 n1 m1,.slice (some ⟨B,off,none⟩) n2 m2,.slice a3 n3 m3,.map (some T.2.2.2.2)] T/\ag aU 3 48 A u b1 b2 b3 t.1.1/\Below W1.heap.size W1 u):=fun u hb=>⟨(k0.on bV).on hb,qw.on hb,(hcl.on bV).on hb,di.ae.kept (di.ae.kept k2 (Kept.below bV)) (Kept.below hb),(gM.on aU.ae bV).on aU.ae hb,ah (ah hbel bV) hb⟩
   have CG:Hid ((getL L t.1.2).2=true->iY (gG L t.1.2)):=Ae hkey Ux.out
   have fK:Hid (qI T.2.1 L g z t.1=(!(getL L t.1.2).2 || (decide (g t.1 (gG L t.1.2)=0) && !(z t.1 && bE T.2.1 t.1.1)))):=rfl
   have Ui:Hid (z t.1=true↔∀ d,iY d->g t.1 d=0):=RL
   clear hr hv gM hcl k0 k1 k2 k3 k5 k6 bV qw RL hall
   generalize qI T.2.1 L g z t.1=lk at iT gp fK
   go_upto_region 4 with fail
   rw [<- hV]
   clear hV
   go_wp2_with fail
   refine HD.mono ?_
   clear HD z1 d0 d1 d2
   rintro e w3 ⟨rfl,mf⟩
   simp only [gG] at CG fK
   skip
   cases ht:(getL L t.1.2).2
   ·
    rw [ht] at fK CG
    have hlk:lk=true:=by rw [fK.out];rfl
    have HR:=gp.out hlk
    have HB:Hid (Below w.heap.size w w3):=ah B1 (qQ.out w3 mf).2.2.2.2.2
    clear qQ fK CG iT gp mf Ui ht hlk
    generalize (getL L t.1.2).1=v
    go_wp2_with fail
    go_ret
    exact ⟨(by rw [HR];try rfl),ah HB.out (by go_grown)⟩
   ·
    rw [ht] at fK CG
    have hok:=CG.out rfl
    obtain ⟨W4,lH⟩:∃ W,W=w3.alloc (.cells #[.string t.1.2,.string (getL L t.1.2).1] 228):=⟨_,rfl⟩
    have b4:Below V.heap.size V W4:=by rw [lH];exact ah mf (by go_grown)
    have ql:af W4 w3.heap.size [.string t.1.2,.string (getL L t.1.2).1]:=by rw [lH];exact af.new w3 228 _
    obtain ⟨j0,j1,j2,j3,j4,j5⟩:=qQ.out W4 b4
    have hlk:=j2.look 157 underlying157 hok
    have y0:=(j0.2 0 _ rfl).1;have y1:=(j0.2 1 _ rfl).1;have y2:=(j0.2 2 _ rfl).1;have y3:=(j0.2 3 _ rfl).1;have y4:=(j0.2 4 _ rfl).1
    have x0:=(j1.2 0 _ rfl).1;have x1:=(j1.2 1 _ rfl).1;have x2:=(j1.2 2 _ rfl).1
    have l0:=(ql.2 0 _ rfl).1;have l1:=(ql.2 1 _ rfl).1
    have Od:=zFu b1 b2 b3 t.1.1 t.1.2 (z t.1) Ui.out j2 j3 j4
    have nC:Hid (Below W1.heap.size W1 W4):=j5
    clear qQ CG j0 j1 j2 j3 j4 j5 ql b4 mf Ui ht hok
    simp only [Bool.not_true,Bool.false_or] at fK
    have CO:Hid (g t.1 (t.1.2,(getL L t.1.2).1)=0->lk=!(z t.1 && bE T.2.1 t.1.1)):=fun h=>by rw [fK.out];simp [h]
    have gU:Hid (¬ g t.1 (t.1.2,(getL L t.1.2).1)=0->lk=false):=fun h=>by rw [fK.out];simp [h]
    clear fK
    generalize (getL L t.1.2).1=v at lH hlk CO gU l1 |-
    generalize g t.1 (t.1.2,v)=c at hlk CO gU
    generalize (z t.1 && bE T.2.1 t.1.1)=fb at Od CO
    go_upto_region 5 with fail
    rw [<- lH]
    clear lH
    by_cases hc0:c=0
    ·
     have hc1:(c == 0)=true:=by simpa using hc0
     have HL2:Hid (lk=!fb):=CO.out hc0
     clear CO gU hc0
     go_wp2_with fail
     refine Od.mono ?_
     rintro e w5 ⟨rfl,hb5⟩
     have hbw:Below W1.heap.size W1 w5:=ah nC.out hb5
     clear Od hlk y0 y1 y2 y3 y4 x0 x1 x2 l0 l1 hb5
     cases fb
     ·
      have HR:=gp.out HL2.out
      have HB:Hid (Below w.heap.size w w5):=ah B1 hbw
      clear HL2 iT gp nC
      go_wp2_with fail
      go_ret
      exact ⟨(by rw [HR];try rfl),HB.out⟩
     ·
      have HN:=iT.out HL2.out
      clear HL2 iT gp nC
      go_wp2_with fail
      go_roundw
      case rel=>exact ⟨k+1,by omega,by go_num,hbw,HN⟩
      case measure=>simp [intOf];omega
    ·
     have hc1:(c == 0)=false:=by simpa using hc0
     have HN:=iT.out (gU.out hc0)
     clear CO gU hc0 iT gp Od
     have hbw:=nC.out
     go_wp2_with fail
     go_roundw
     case rel=>exact ⟨k+1,by omega,by go_num,hbw,HN⟩
     case measure=>simp [intOf];omega
  ·
   have HR:Hid ((dJ T).any (fun t=>qI T.2.1 L g z t.1)=false):=DX (f:=fun (t:iO)=>qI T.2.1 L g z t.1) (fun j hj=>hall.out j (by have:=hl2.out;omega))
   have HB:Hid (Below w.heap.size w wr):=k6
   clear k0 k1 k2 k3 k5 k6 hall
   go_wp2_with fail
   go_ret
   exact ⟨(by rw [HR.out];try rfl),HB.out⟩
theorem zEQ {w:World} {T:eu} {ts:List Value} {A A':Where} {N:Nat} {g:bP->aG->Int} {oF:aG->Int} (z:bP->Bool) (hz:∀ t∈dJ T,(z t.1=true↔∀ d,iY d->g t.1 d=0)) (a:Option Addr) (n cap:Nat) (L:List aG) (hM:Hid (dZ w T N g oF)) (hT':Hid (di A w ts T)) (hL:Hid (ag ak 2 32 A' w a n cap L)) :
  Calls prog 107 #[.agg ts.toArray,.slice a n cap] w fun e w'=>e=.returned (.bool ((dO T).any (fun t=>qM L g t.1)))/\Below w.heap.size w w':=by
 have oz:Hid (di A w ts T):=hT'
 obtain ⟨⟨a1,n1,m1⟩,⟨a2,n2,m2⟩,⟨a3,n3,m3⟩,rfl,_,s1,s2,s3⟩:=hT'.out.out
 simp only at s1 s2 s3 oz |-
 obtain ⟨W1,hW1⟩:∃ W,W=w.alloc (.cells #[.string T.1,.slice a1 n1 m1,.slice a2 n2 m2,.slice a3 n3 m3,.map (some T.2.2.2.2)] 159):=⟨_,rfl⟩
 have B1:Below w.heap.size w W1:=by rw [hW1];go_grown
 have q0:af W1 w.heap.size [.string T.1,.slice a1 n1 m1,.slice a2 n2 m2,.slice a3 n3 m3,.map (some T.2.2.2.2)]:=by rw [hW1];exact af.new w 159 _
 have hl2:Hid ((dJ T).length=n2):=s2.1
 have hl3:Hid ((dO T).length=n3):=s3.1
 have hll:Hid (L.length=n):=hL.out.1
 have hb2:n2<140737488355328:=by have:=s2.2.2.2.1;omega
 have hb3:n3<140737488355328:=by have:=s3.2.2.2.1;omega
 have hbn:n<140737488355328:=by have:=hL.out.2.2.2.1;omega
 have HQ:Hid (∀ u,Below W1.heap.size W1 u->af u w.heap.size [.string T.1,.slice a1 n1 m1,.slice a2 n2 m2,.slice a3 n3 m3,.map (some T.2.2.2.2)]/\dZ u T N g oF/\di A u [.string T.1,.slice a1 n1 m1,.slice a2 n2 m2,.slice a3 n3 m3,.map (some T.2.2.2.2)] T/\ag bM 3 48 A u a2 n2 m2 (dJ T)/\ag bM 3 48 A u a3 n3 m3 (dO T)/\ag ak 2 32 A' u a n cap L/\Below w.heap.size w u):=fun u hb =>
  have k:=ah B1 hb
  ⟨q0.on hb,hM.out.below k,di.ae.kept oz.out (Kept.below k),s2.on bM.ae k,s3.on bM.ae k,hL.out.on ak.ae k,k⟩
 have HZ:Hid (∀ t∈dJ T,(z t.1=true↔∀ d,iY d->g t.1 d=0)):=hz
 have Ux:Hid (∀ l∈L,iY l):=AU hL.out
 have c3:=(q0.2 3 _ rfl).1
 clear hM hT' hL s1 s2 s3 q0 oz hz HZ
 go_enter func107,ntmps107
 go_upto_region 1 with fail
 rw [<- hW1]
 clear hW1
 go_wp2_with fail
 go_loopw [10] (fun i wr=>∃ k:Nat,k<=n3/\i=.int .i64 k/\Below W1.heap.size W1 wr/\Hid (∀ j,j<k->qM L g ((dO T).getD j default).1=false)) (fun i _=>n3 - (intOf i).toNat)
 case atStart=>exact ⟨0,Nat.zero_le _,rfl,Below.refl _ _,fun j hj=>absurd hj (Nat.not_lt_zero _)⟩
 case round =>
  obtain ⟨k,hk,rfl,hbel,hall⟩:=hrel
  obtain ⟨k0,k1,k2,_,k3,k5,k6⟩:=HQ.out wr hbel
  by_cases hlt:k<n3
  ·
   have hin:(dO T).getD k default∈dO T:=XV (by rw [hl3.out];exact hlt)
   have hcl:=k1.c _ (List.mem_append.2 (.inr hin))
   obtain ⟨B,off,rfl,hB,iL,ws,hr,hv⟩:=k3.get hlt
   obtain ⟨⟨b1,b2,b3⟩,rfl,gM,hkey⟩:=hr.out
   simp only at gM hkey hv
   have d0:=hv 0 _ rfl
   have d1:=hv 1 _ rfl
   have d2:=hv 2 _ rfl
   rw [Nat.add_zero] at d0
   have iT:Hid (qM L g ((dO T).getD k default).1=false->∀ j,j<k+1->qM L g ((dO T).getD j default).1=false):=fun h j hj=>by
    rcases Nat.lt_succ_iff_lt_or_eq.1 hj with h1 | rfl
    ·exact hall.out j h1
    ·exact h
   have gp:Hid (qM L g ((dO T).getD k default).1=true->(dO T).any (fun t=>qM L g t.1)=true):=fun h=>DW (f:=fun (t:iO)=>qM L g t.1) (by rw [hl3.out];exact hlt) h
   generalize (dO T).getD k default=t at hcl gM hkey d0 d1 d2 iT gp
   obtain ⟨V,hV⟩:∃ V,V=wr.alloc (.cells #[.slice b1 b2 b3,.string t.1.2,.map (some t.2)] 192):=⟨_,rfl⟩
   have bV:Below wr.heap.size wr V:=by rw [hV];go_grown
   have qw:af V wr.heap.size [.slice b1 b2 b3,.string t.1.2,.map (some t.2)]:=by rw [hV];exact af.new wr 192 _
   have HD:=YG (hcl.on bV) a n cap A' L t.1.2 (k5.on ak.ae bV) hkey
   have z1:=(qw.2 1 _ rfl).1
   have z2:=(qw.2 2 _ rfl).1
   have qO:Hid (Below W1.heap.size W1 V):=ah hbel bV
   have fK:Hid (qM L g t.1=((getL L t.1.2).2 && decide (0<g t.1 (gG L t.1.2)))):=rfl
   rw [<- fK.out] at HD
   clear hr hv gM hcl k0 k1 k2 k3 k5 k6 bV qw hall fK
   generalize qM L g t.1=lk at iT gp HD
   go_upto_region 4 with fail
   rw [<- hV]
   clear hV
   go_wp2_with fail
   refine HD.mono ?_
   clear HD z1 z2 d0 d1 d2
   rintro e w3 ⟨rfl,mf⟩
   have hbw:Below W1.heap.size W1 w3:=ah qO.out mf
   clear mf
   cases lk
   ·
    have HN:=iT.out rfl
    clear iT gp qO
    go_wp2_with fail
    go_roundw
    case rel=>exact ⟨k+1,by omega,by go_num,hbw,HN⟩
    case measure=>simp [intOf];omega
   ·
    have HR:=gp.out rfl
    have HB:Hid (Below w.heap.size w w3):=ah B1 hbw
    clear iT gp qO
    go_wp2_with fail
    go_ret
    exact ⟨(by rw [HR];try rfl),HB.out⟩
  ·
   have HR:Hid ((dO T).any (fun t=>qM L g t.1)=false):=DX (f:=fun (t:iO)=>qM L g t.1) (fun j hj=>hall.out j (by have:=hl3.out;omega))
   have HB:Hid (Below w.heap.size w wr):=k6
   clear k0 k1 k2 k3 k5 k6 hall
   go_wp2_with fail
   go_ret
   exact ⟨(by rw [HR.out];try rfl),HB.out⟩
theorem zDP {w:World} {T:eu} {ts:List Value} {A A':Where} {N:Nat} {g:bP->aG->Int} {oF:aG->Int} (z:bP->Bool) (hz:∀ t∈dJ T,(z t.1=true↔∀ d,iY d->g t.1 d=0)) (a:Option Addr) (n cap:Nat) (L:List aG) (hM:Hid (dZ w T N g oF)) (hT':Hid (di A w ts T)) (hL:Hid (ag ak 2 32 A' w a n cap L)) :
  Calls prog 108 #[.agg ts.toArray,.slice a n cap] w fun e w'=>e=.returned (.bool (L.any (tO L oF)))/\Below w.heap.size w w':=by
 have oz:Hid (di A w ts T):=hT'
 obtain ⟨⟨a1,n1,m1⟩,⟨a2,n2,m2⟩,⟨a3,n3,m3⟩,rfl,_,s1,s2,s3⟩:=hT'.out.out
 simp only at s1 s2 s3 oz |-
 obtain ⟨W1,hW1⟩:∃ W,W=w.alloc (.cells #[.string T.1,.slice a1 n1 m1,.slice a2 n2 m2,.slice a3 n3 m3,.map (some T.2.2.2.2)] 159):=⟨_,rfl⟩
 have B1:Below w.heap.size w W1:=by rw [hW1];go_grown
 have q0:af W1 w.heap.size [.string T.1,.slice a1 n1 m1,.slice a2 n2 m2,.slice a3 n3 m3,.map (some T.2.2.2.2)]:=by rw [hW1];exact af.new w 159 _
 have hl2:Hid ((dJ T).length=n2):=s2.1
 have hl3:Hid ((dO T).length=n3):=s3.1
 have hll:Hid (L.length=n):=hL.out.1
 have hb2:n2<140737488355328:=by have:=s2.2.2.2.1;omega
 have hb3:n3<140737488355328:=by have:=s3.2.2.2.1;omega
 have hbn:n<140737488355328:=by have:=hL.out.2.2.2.1;omega
 have HQ:Hid (∀ u,Below W1.heap.size W1 u->af u w.heap.size [.string T.1,.slice a1 n1 m1,.slice a2 n2 m2,.slice a3 n3 m3,.map (some T.2.2.2.2)]/\dZ u T N g oF/\di A u [.string T.1,.slice a1 n1 m1,.slice a2 n2 m2,.slice a3 n3 m3,.map (some T.2.2.2.2)] T/\ag bM 3 48 A u a2 n2 m2 (dJ T)/\ag bM 3 48 A u a3 n3 m3 (dO T)/\ag ak 2 32 A' u a n cap L/\Below w.heap.size w u):=fun u hb =>
  have k:=ah B1 hb
  ⟨q0.on hb,hM.out.below k,di.ae.kept oz.out (Kept.below k),s2.on bM.ae k,s3.on bM.ae k,hL.out.on ak.ae k,k⟩
 have HZ:Hid (∀ t∈dJ T,(z t.1=true↔∀ d,iY d->g t.1 d=0)):=hz
 have Ux:Hid (∀ l∈L,iY l):=AU hL.out
 clear hM hT' hL s1 s2 s3 q0 oz hz HZ
 go_enter func108,ntmps108
 go_upto_region 1 with fail
 rw [<- hW1]
 clear hW1
 go_wp2_with fail
 go_loopw [9] (fun i wr=>∃ k:Nat,k<=n/\i=.int .i64 k/\Below W1.heap.size W1 wr/\Hid (∀ j,j<k->tO L oF (L.getD j default)=false)) (fun i _=>n - (intOf i).toNat)
 case atStart=>exact ⟨0,Nat.zero_le _,rfl,Below.refl _ _,fun j hj=>absurd hj (Nat.not_lt_zero _)⟩
 case round =>
  obtain ⟨k,hk,rfl,hbel,hall⟩:=hrel
  obtain ⟨k0,k1,k2,_,_,k5,k6⟩:=HQ.out wr hbel
  by_cases hlt:k<n
  ·
   obtain ⟨B,off,rfl,hB,iL,ws,hr,hv⟩:=k5.get hlt
   obtain ⟨rfl,hok1,hok2⟩:=hr.out
   have d0:=hv 0 _ rfl
   have d1:=hv 1 _ rfl
   rw [Nat.add_zero] at d0
   have iT:Hid (tO L oF (L.getD k default)=false->∀ j,j<k+1->tO L oF (L.getD j default)=false):=fun h j hj=>by
    rcases Nat.lt_succ_iff_lt_or_eq.1 hj with h1 | rfl
    ·exact hall.out j h1
    ·exact h
   have gp:Hid (tO L oF (L.getD k default)=true->L.any (tO L oF)=true):=fun h=>DW (by rw [hll.out];exact hlt) h
   generalize L.getD k default=l at hok1 hok2 d0 d1 iT gp
   obtain ⟨V,hV⟩:∃ V,V=wr.alloc (.cells #[.string l.1,.string l.2] 228):=⟨_,rfl⟩
   have bV:Below wr.heap.size wr V:=by rw [hV];go_grown
   have qw:af V wr.heap.size [.string l.1,.string l.2]:=by rw [hV];exact af.new wr 228 _
   have HD:=YG (k1.o.on bV) _ n cap A' L l.1 (k5.on ak.ae bV) hok1
   have hlk:=(k1.o.on bV).look 157 underlying157 (d:=l) ⟨hok1,hok2⟩
   have z0:=(qw.2 0 _ rfl).1
   have z1:=(qw.2 1 _ rfl).1
   have y4:=((k0.on bV).2 4 _ rfl).1
   have qO:Hid (Below W1.heap.size W1 V):=ah hbel bV
   have fK:Hid (tO L oF l=(decide (0<oF l) && ((getL L l.1).2 && decide (0<oF (gG L l.1))))):=rfl
   clear hr hv k0 k1 k2 k5 k6 bV qw hall
   generalize tO L oF l=lk at iT gp fK
   generalize ((getL L l.1).2 && decide (0<oF (gG L l.1)))=hb at HD fK
   obtain ⟨pb,hpb⟩:∃ pb,decide (0<oF l)=pb:=⟨_,rfl⟩
   rw [hpb] at fK
   generalize hoc:oF l=c at hlk hpb
   clear hoc
   go_upto_region 4 with fail
   rw [<- hV]
   clear hV
   cases pb
   ·
    have HN:=iT.out (by rw [fK.out];rfl)
    have hbw:=qO.out
    clear iT gp fK HD
    go_wp2_with fail
    go_roundw
    case rel=>exact ⟨k+1,by omega,by go_num,hbw,HN⟩
    case measure=>simp [intOf];omega
   ·
    go_wp2_with fail
    refine HD.mono ?_
    clear HD hlk z0 z1 y4 d0 d1
    rintro e w3 ⟨rfl,mf⟩
    have hbw:Below W1.heap.size W1 w3:=ah qO.out mf
    clear mf
    cases hb
    ·
     have HN:=iT.out (by rw [fK.out];rfl)
     clear iT gp qO fK
     go_wp2_with fail
     go_roundw
     case rel=>exact ⟨k+1,by omega,by go_num,hbw,HN⟩
     case measure=>simp [intOf];omega
    ·
     have HR:=gp.out (by rw [fK.out];rfl)
     have HB:Hid (Below w.heap.size w w3):=ah B1 hbw
     clear iT gp qO fK
     go_wp2_with fail
     go_ret
     exact ⟨(by rw [HR];try rfl),HB.out⟩
  ·
   have HR:Hid (L.any (tO L oF)=false):=DX (fun j hj=>hall.out j (by have:=hll.out;omega))
   have HB:Hid (Below w.heap.size w wr):=k6
   clear k0 k1 k2 k5 k6 hall
   go_wp2_with fail
   go_ret
   exact ⟨(by rw [HR.out];try rfl),HB.out⟩
theorem aj.Q7 {A:Where} {w:World} {cs:List Value} {p:aB} (h:aj A w cs p):∃ h2 h12:Hd,cs[0]?=some (.string p.1)/\cs[2]?=some (.slice h2.1 h2.2.1 h2.2.2)/\cs[12]?=some (.slice h12.1 h12.2.1 h12.2.2)/\ag ak 2 32 A w h2.1 h2.2.1 h2.2.2 (bG p)/\ag cK 4 56 A w h12.1 h12.2.1 h12.2.2 (fF p):=by
 obtain ⟨h2,h6,h7,h8,h9,h10,h11,h12,aO,rfl,_,s2,_,_,_,_,_,_,s12,_⟩:=h.out
 exact ⟨h2,h12,rfl,rfl,rfl,s2,s12⟩
theorem Ho {α:Type} [Inhabited α] (f:α->Bool) {L:List α} {k:Nat} (h:k<L.length) (h0:(L.take k).any f=false) (h1:f (L.getD k default)=false):(L.take (k+1)).any f=false:=by
 rw [<- LD h,List.any_append,h0]
 generalize L.getD k default=y at h1 |-
 simp [h1]
theorem PH {α:Type} [Inhabited α] (f:α->Bool) {L:List α} {k:Nat} (h:k<L.length) (h1:f (L.getD k default)=true):L.any f=true:=by
 rw [List.any_eq_true]
 exact ⟨L.getD k default,by rw [List.getD_eq_getElem?_getD,List.getElem?_eq_getElem h];exact List.getElem_mem h,h1⟩
theorem QH:(prog.info? 88).map (·.size)=some 4:=by kernel_rfl
def Ib (D P:Nat) (s:cz) (r1:Option Addr) (r2 r3:Nat) (cs:List Value) (u:World):Prop :=
 (u.cell? ⟨D,0,none⟩=some (.string s.1)/\u.cell? ⟨D,1,none⟩=some (.int .i64 s.2.1)/\u.cell? ⟨D,2,none⟩=some (.int .i64 s.2.2.1)/\u.cell? ⟨D,3,none⟩=some (.slice r1 r2 r3))/\Hid (u.rangeAt P 0 cs)
theorem Ib.of {D P:Nat} {s:cz} {r1:Option Addr} {r2 r3:Nat} {cs:List Value} {u:World} (h:af u D [.string s.1,.int .i64 s.2.1,.int .i64 s.2.2.1,.slice r1 r2 r3]) (k:af u P cs):Ib D P s r1 r2 r3 cs u :=
 ⟨⟨(h.2 0 _ rfl).1,(h.2 1 _ rfl).1,(h.2 2 _ rfl).1,(h.2 3 _ rfl).1⟩,k.range⟩
theorem zHc (cs:List Value) (p:aB) (la:Option Addr) (ln lc:Nat) (Lb:List aG) (a:Option Addr) (n cap:Nat) (N:List aX) (b:Option Addr) (m gX:Nat) (Pl:List aM) (w:World) (hp:Hid (aj (fun _=>True) w cs p)) (hL:Hid (ag ak 2 32 (fun _=>True) w la ln lc Lb)) (hN:Hid (ag av 9 112 (fun _=>True) w a n cap N)) (hP:Hid (ag aL 17 320 (fun _=>True) w b m gX Pl)) :
  Calls prog 53 #[.agg cs.toArray,.slice la ln lc,.slice a n cap,.slice b m gX] w fun e w'=>e=.returned (.int .i64 (nR 12 p Lb N Pl))/\Below w.heap.size w w':=by
 have ma:(prog.info? 41).map (·.size)=some cs.length:=by rw [aj.ae.len hp.out];exact PO
 obtain ⟨⟨h1,h2,h3⟩,e12,ER⟩:∃ h:Hd,cs[12]?=some (.slice h.1 h.2.1 h.2.2)/\ag cK 4 56 (fun _=>True) w h.1 h.2.1 h.2.2 (fF p):=by
  obtain ⟨h2,h12,_,_,e,_,s12⟩:=hp.out.Q7
  exact ⟨h12,e,s12⟩
 simp only at e12 ER
 obtain ⟨W1,hW1⟩:∃ W,W=w.alloc (.cells cs.toArray 41):=⟨_,rfl⟩
 have B1:Below w.heap.size w W1:=by rw [hW1];go_grown
 have qp:af W1 w.heap.size cs:=by rw [hW1];exact af.new w 41 _
 have c12:=(qp.2 12 _ e12).1
 have hq2:Hid ((fF p).length=h2):=ER.1
 have hlen:=ER.len (by decide)
 have HU:Hid (∀ u,Below W1.heap.size W1 u->af u w.heap.size cs/\aj (fun _=>True) u cs p/\ag cK 4 56 (fun _=>True) u h1 h2 h3 (fF p)/\ag ak 2 32 (fun _=>True) u la ln lc Lb/\ag av 9 112 (fun _=>True) u a n cap N/\ag aL 17 320 (fun _=>True) u b m gX Pl/\Below w.heap.size w u):=fun u hb=>⟨qp.on hb,aj.ae.kept hp.out (Kept.below (ah B1 hb)),ER.on cK.ae (ah B1 hb),hL.out.on ak.ae (ah B1 hb),hN.out.on av.ae (ah B1 hb),hP.out.on aL.ae (ah B1 hb),ah B1 hb⟩
 have Lr:Hid (nR 12 p Lb N Pl=if (fF p).any (mW (bG p) Lb N (bR p.1 Pl))=true then 12 else 0):=rfl
 clear hp hL hN hP ER qp B1 e12
 generalize nR 12 p Lb N Pl=ans at Lr
 go_enter func53,ntmps53
 go_upto_region 1 with fail
 rw [<- hW1]
 clear hW1
 go_wp2_with fail
 go_loopw [16] (fun i wr=>∃ k:Nat,k<=h2/\i=.int .i64 k/\Hid (((fF p).take k).any (mW (bG p) Lb N (bR p.1 Pl))=false/\Below W1.heap.size W1 wr)) (fun i _=>h2 - (intOf i).toNat)
 case atStart=>exact ⟨0,Nat.zero_le _,rfl,rfl,Below.refl _ _⟩
 case round =>
  obtain ⟨k,hk,rfl,hst⟩:=hrel
  by_cases hlt:k<h2
  ·have hltz:(k:Int)<(h2:Int):=by omega
   have hkl:k<(fF p).length:=by rw [hq2.out];exact hlt
   obtain ⟨q0,q1,q2,q3,q4,q5,q6⟩:=HU.out wr hst.out.2
   obtain ⟨B,off,rfl,hB,_,xs,hr,hv⟩:=q2.get hlt
   have iT:Hid (mW (bG p) Lb N (bR p.1 Pl) ((fF p).getD k default)=false->((fF p).take (k+1)).any (mW (bG p) Lb N (bR p.1 Pl))=false):=fun h=>Ho _ hkl hst.out.1 h
   have gp:Hid (mW (bG p) Lb N (bR p.1 Pl) ((fF p).getD k default)=true->(fF p).any (mW (bG p) Lb N (bR p.1 Pl))=true):=fun h=>PH _ hkl h
   generalize (fF p).getD k default=s at hr iT gp
   obtain ⟨⟨r1,r2,r3⟩,rfl,_,sr⟩:=hr.out
   simp only at sr
   have d0:=hv 0 _ rfl
   have d1:=hv 1 _ rfl
   have d2:=hv 2 _ rfl
   have d3:=hv 3 _ rfl
   rw [Nat.add_zero] at d0
   obtain ⟨V0,zV⟩:∃ V,V=wr.alloc (.cells #[.string ⟨#[]⟩,.int .i64 0,.int .i64 0,.slice none 0 0] 88):=⟨_,rfl⟩
   have Rf:af V0 wr.heap.size [.string ⟨#[]⟩,.int .i64 0,.int .i64 0,.slice none 0 0]:=by rw [zV];exact af.new wr 88 _
   obtain ⟨V,hV⟩:∃ V,V=V0.setCells wr.heap.size 0 [.string s.1,.int .i64 s.2.1,.int .i64 s.2.2.1,.slice r1 r2 r3]:=⟨_,rfl⟩
   have bV:Below wr.heap.size wr V:=by rw [hV,zV];exact cu ((Below.refl _ _).alloc (Nat.le_refl _) _) (Nat.le_refl _)
   have qV:af V wr.heap.size [.string s.1,.int .i64 s.2.1,.int .i64 s.2.2.1,.slice r1 r2 r3]:=by rw [hV];exact dL Rf rfl
   have eP:Hid (V0.there wr.heap.size 0 (#[.string s.1,.int .i64 s.2.1,.int .i64 s.2.2.1,.slice r1 r2 r3]:Array Value).size):=Rf.there
   have fA:Hid (V=V0.setCells wr.heap.size 0 (#[.string s.1,.int .i64 s.2.1,.int .i64 s.2.2.1,.slice r1 r2 r3]:Array Value).toList):=by rw [Hid,hV]
   have iF:Hid (V0=wr.alloc (.cells #[.string ⟨#[]⟩,.int .i64 0,.int .i64 0,.slice none 0 0] 88)):=zV
   have zO:(prog.info? 88).map (·.size)=some (#[.string s.1,.int .i64 s.2.1,.int .i64 s.2.2.1,.slice r1 r2 r3]:Array Value).size:=QH
   have mO:Hid ((#[.string s.1,.int .i64 s.2.1,.int .i64 s.2.2.1,.slice r1 r2 r3]:Array Value).all (·.oneCell')=true):=by rw [Hid];simp [Value.oneCell']
   have HS:Hid (∀ u,Below V.heap.size V u->Ib wr.heap.size w.heap.size s r1 r2 r3 cs u):=fun u hb=>Ib.of (qV.on hb) ((q0.on bV).on hb)
   have hd:Below wr.heap.size wr V.drew:=bV.drew
   have hO:=zHa w.heap.size cs p V.drew (q0.on hd) (aj.ae.kept q1 (Kept.below hd))
   have hC:=zD6 s r1 r2 r3 a n cap N b m gX 320 Pl (by decide) 75 #[.pointer (some ⟨w.heap.size,0,none⟩)] (fun x=>ay x.1 p.1) (enters_of func75 (by kernel_rfl) rfl) V.drew (sr.on aU.ae hd) (q4.on av.ae hd) (q5.on aL.ae hd) hO
   rw [Jj] at hC
   have vo:Hid (∀ u m1 m2,Below V.heap.size V u->lT u s r1 r2 r3 m1 m2 N (bR p.1 Pl)->Calls prog 77 #[.agg #[.string s.1,.int .i64 s.2.1,.int .i64 s.2.2.1,.slice r1 r2 r3,.map (some m1),.map (some m2)],.agg cs.toArray,.slice la ln lc] u fun e w'=>e=.returned (.bool (!mW (bG p) Lb N (bR p.1 Pl) s))/\Below u.heap.size u w'):=fun u m1 m2 hb hc=>zEf s r1 r2 r3 m1 m2 N (bR p.1 Pl) cs p la ln lc Lb u hc (aj.ae.kept q1 (Kept.below (ah bV hb))) (q3.on ak.ae (ah bV hb))
   have HBV:Hid (Below W1.heap.size W1 V/\Below w.heap.size w V):=⟨ah hst.out.2 bV,ah q6 bV⟩
   clear hst hr hv q0 q1 q2 q3 q4 q5 q6 sr Rf qV bV hV zV hO hd
   generalize mW (bG p) Lb N (bR p.1 Pl) s=bad at iT gp vo
   go_upto_region 5 with (first | (refine kF iF.out ?_;refine wpList_store_mid rfl 88 _ _ rfl wr.heap.size 0 #[.string s.1,.int .i64 s.2.1,.int .i64 s.2.2.1,.slice r1 r2 r3] rfl rfl eP.out zO mO.out ?_;refine kF fA.out ?_) | fail)
   clear eP fA iF mO zO d0 d1 d2 d3
   refine t0 (Ib wr.heap.size w.heap.size s r1 r2 r3 cs) (HS.out _ (Below.refl _ _).drew) (fun gH=>?_)
   try go_frame
   refine' tk 0 ?_ ?_;rotate_left
   ·rintro u ⟨⟨_,_,_,_⟩,_⟩;go_simp;try with_reducible rfl
   try go_frame
   refine' tk 1 ?_ ?_;rotate_left
   ·rintro u ⟨⟨_,_,_,_⟩,_⟩;go_simp;try with_reducible rfl
   try go_frame
   refine' tk 2 ?_ ?_;rotate_left
   ·rintro u ⟨⟨_,_,_,_⟩,_⟩;go_simp;try with_reducible rfl
   try go_frame
   refine' tk 3 ?_ ?_;rotate_left
   ·rintro u ⟨⟨_,_,_,_⟩,_⟩;go_simp;try with_reducible rfl
   try go_frame
   refine tq 5 (.agg cs.toArray) (yieldsIf_load_mid (by rfl) 41 _ rfl w.heap.size 0 rfl cs _ (fun u hu=>hu.2.out) underlying41 rfl ma) ?_ (hi:=rfl)
   try go_frame
   refine' tk 6 ?_ ?_;rotate_left
   ·rintro u ⟨⟨_,_,_,_⟩,_⟩;go_simp;try with_reducible rfl
   try go_frame
   refine tr 4 (fun K hK=>?_)
   go_simp
   refine hC.mono ?_
   rintro e u1 ⟨m1,m2,rfl,zT,hu1⟩
   have hd1:Below V.heap.size V u1:=ah (Below.refl _ _).drew hu1
   have hAd:=vo.out u1 m1 m2 hd1 zT
   have HD1:Hid (Below V.heap.size V u1):=hd1
   clear zT hu1 hC vo hd1
   go_wp2_with fail
   refine hK.out _ _ (HS.out _ HD1.out) (fun gI=>?_)
   clear hK K gH;have gH:=gI;clear gI
   try go_frame
   refine tr 7 (fun K hK=>?_)
   go_simp
   refine hAd.mono ?_
   rintro e u2 ⟨rfl,hu2⟩
   have HD2:Hid (Below V.heap.size V u2):=ah HD1.out hu2
   clear hu2 hAd HD1
   go_wp2_with fail
   refine hK.out _ _ (HS.out _ HD2.out) (fun gI=>?_)
   clear hK K gH;have gH:=gI;clear gI
   try go_frame
   refine' tk 8 ?_ ?_;rotate_left
   ·rintro u ⟨⟨_,_,_,_⟩,_⟩;go_simp;try with_reducible rfl
   try go_frame
   refine tz ?_
   clear gH HS
   cases bad
   ·have ji:Hid (((fF p).take (k+1)).any (mW (bG p) Lb N (bR p.1 Pl))=false/\Below W1.heap.size W1 u2):=⟨iT.out rfl,ah HBV.out.1 HD2.out⟩
    clear iT gp HD2
    go_wp2_with fail
    go_roundw
    case rel=>exact ⟨k+1,by omega,by go_num,ji⟩
    case measure=>simp [intOf];omega
   ·have HF:Hid (ans=12/\Below w.heap.size w u2):=⟨by rw [Lr.out,if_pos (gp.out rfl)],ah HBV.out.2 HD2.out⟩
    clear iT gp HD2
    go_wp2_with fail
    go_ret
    exact ⟨by rw [HF.out.1];rfl,HF.out.2⟩
  ·have htk:(fF p).take k=fF p:=List.take_of_length_le (by rw [hq2.out];omega)
   have hal:=hst.out.1
   rw [htk] at hal
   have HF:Hid (ans=0/\Below w.heap.size w wr):=⟨by rw [Lr.out,hal];rfl,(HU.out wr hst.out.2).2.2.2.2.2.2⟩
   clear hst htk hal
   go_wp2_with fail
   go_ret
   exact ⟨by rw [HF.out.1];rfl,HF.out.2⟩
end Go.Proofs.YtgikfenllgldoaaGreat
