/- Functions of the program, each walked under the conditions that its theorem names. -/
import Derived.Test.YtgikfenllgldoaaGreatQ07
set_option linter.unusedSimpArgs false
set_option maxRecDepth 100000
set_option maxHeartbeats 32000000
namespace Go.Proofs.YtgikfenllgldoaaGreat
open Go.Proofs.Tryz
open Go.RowKit
theorem zFl (cs:List Value) (A:Where) (x:aD) (w:World) (h:Hid (ai A w cs x)):Calls prog 12 #[.agg cs.toArray] w fun e w'=>∃ cs',e=.returned (.agg cs'.toArray)/\ai (az w) w' cs' x/\Below w.heap.size w w':=by
 obtain ⟨h3,rfl,p0,p1,p2,p3⟩:=h.out.out
 clear h
 have hb0:Below w.heap.size w (((w.alloc (.cells #[.string x.1,.int .i64 x.2.1,.string x.2.2.1,.slice h3.1 h3.2.1 h3.2.2,.string x.2.2.2.2] 59)).alloc (.cells #[.string ⟨#[]⟩,.int .i64 0,.string ⟨#[]⟩,.slice none 0 0,.string ⟨#[]⟩] 59)).alloc (.cells #[.string x.1,.int .i64 x.2.1,.string x.2.2.1,.slice h3.1 h3.2.1 h3.2.2,.string x.2.2.2.2] 59)):=by go_grown
 have hB2:af (((w.alloc (.cells #[.string x.1,.int .i64 x.2.1,.string x.2.2.1,.slice h3.1 h3.2.1 h3.2.2,.string x.2.2.2.2] 59)).alloc (.cells #[.string ⟨#[]⟩,.int .i64 0,.string ⟨#[]⟩,.slice none 0 0,.string ⟨#[]⟩] 59)).alloc (.cells #[.string x.1,.int .i64 x.2.1,.string x.2.2.1,.slice h3.1 h3.2.1 h3.2.2,.string x.2.2.2.2] 59)) (w.heap.size+1) [.string ⟨#[]⟩,.int .i64 0,.string ⟨#[]⟩,.slice none 0 0,.string ⟨#[]⟩]:=by
  have:=((af.new (w.alloc (.cells #[.string x.1,.int .i64 x.2.1,.string x.2.2.1,.slice h3.1 h3.2.1 h3.2.2,.string x.2.2.2.2] 59)) 59 [.string ⟨#[]⟩,.int .i64 0,.string ⟨#[]⟩,.slice none 0 0,.string ⟨#[]⟩]).on ((Below.refl _ _).alloc (Nat.le_refl _) (.cells #[.string x.1,.int .i64 x.2.1,.string x.2.2.1,.slice h3.1 h3.2.1 h3.2.2,.string x.2.2.2.2] 59)))
  simpa using this
 have hB3:af (((w.alloc (.cells #[.string x.1,.int .i64 x.2.1,.string x.2.2.1,.slice h3.1 h3.2.1 h3.2.2,.string x.2.2.2.2] 59)).alloc (.cells #[.string ⟨#[]⟩,.int .i64 0,.string ⟨#[]⟩,.slice none 0 0,.string ⟨#[]⟩] 59)).alloc (.cells #[.string x.1,.int .i64 x.2.1,.string x.2.2.1,.slice h3.1 h3.2.1 h3.2.2,.string x.2.2.2.2] 59)) (w.heap.size+1+1) [.string x.1,.int .i64 x.2.1,.string x.2.2.1,.slice h3.1 h3.2.1 h3.2.2,.string x.2.2.2.2]:=by
  have:=af.new ((w.alloc (.cells #[.string x.1,.int .i64 x.2.1,.string x.2.2.1,.slice h3.1 h3.2.1 h3.2.2,.string x.2.2.2.2] 59)).alloc (.cells #[.string ⟨#[]⟩,.int .i64 0,.string ⟨#[]⟩,.slice none 0 0,.string ⟨#[]⟩] 59)) 59 [.string x.1,.int .i64 x.2.1,.string x.2.2.1,.slice h3.1 h3.2.1 h3.2.2,.string x.2.2.2.2]
  simpa using this
 have hC:=Bf h3.1 h3.2.1 h3.2.2 A x.2.2.2.1 (((w.alloc (.cells #[.string x.1,.int .i64 x.2.1,.string x.2.2.1,.slice h3.1 h3.2.1 h3.2.2,.string x.2.2.2.2] 59)).alloc (.cells #[.string ⟨#[]⟩,.int .i64 0,.string ⟨#[]⟩,.slice none 0 0,.string ⟨#[]⟩] 59)).alloc (.cells #[.string x.1,.int .i64 x.2.1,.string x.2.2.1,.slice h3.1 h3.2.1 h3.2.2,.string x.2.2.2.2] 59)) (ag.on aU.ae p2 hb0)
 obtain ⟨W3,hW3⟩:∃ W3,W3=(((w.alloc (.cells #[.string x.1,.int .i64 x.2.1,.string x.2.2.1,.slice h3.1 h3.2.1 h3.2.2,.string x.2.2.2.2] 59)).alloc (.cells #[.string ⟨#[]⟩,.int .i64 0,.string ⟨#[]⟩,.slice none 0 0,.string ⟨#[]⟩] 59)).alloc (.cells #[.string x.1,.int .i64 x.2.1,.string x.2.2.1,.slice h3.1 h3.2.1 h3.2.2,.string x.2.2.2.2] 59)):=⟨_,rfl⟩
 have hsz:Hid (W3.heap.size=w.heap.size+1+1+1):=by rw [Hid,hW3];simp
 go_enter func12,ntmps12
 go_wp2_with fail
 rw [<- hW3] at hb0 hB2 hB3 hC |-
 clear hW3
 refine hC.mono ?_
 rintro e w4 ⟨a4,c4,rfl,kD,hb4⟩
 clear hC
 have zO:w.heap.size+1+1+1<=w4.heap.size:=by have:=hb4.size;rw [hsz.out] at this;exact this
 have k2:=hB2.on hb4
 have k3:=hB3.on hb4
 have hl2:=k2.1
 have hl3:=k3.1
 obtain ⟨wG,Kg⟩:=k2.2 0 _ rfl
 obtain ⟨wD,Kb⟩:=k3.2 0 _ rfl
 obtain ⟨wF,Ke⟩:=k2.2 1 _ rfl
 obtain ⟨sU,Ab⟩:=k3.2 1 _ rfl
 obtain ⟨wE,Kc⟩:=k2.2 2 _ rfl
 obtain ⟨wC,Ka⟩:=k3.2 2 _ rfl
 obtain ⟨Ao,TI⟩:=k2.2 3 _ rfl
 obtain ⟨Al,TG⟩:=k3.2 3 _ rfl
 obtain ⟨Am,TH⟩:=k2.2 4 _ rfl
 obtain ⟨Ak,TF⟩:=k3.2 4 _ rfl
 clear k2 k3 hB2 hB3
 have rO:=hsz.out
 clear hsz
 have xH:Hid (ag aU 3 48 (az W3) w4 a4 h3.2.1 c4 x.2.2.2.1):=kD
 clear kD
 have HW:Hid (W3.heap.size=w.heap.size+1+1+1):=rO
 clear rO
 go_wp2_with fail
 refine bodyPost_ret (v:=.agg #[.string x.1,.int .i64 x.2.1,.string x.2.2.1,.slice a4 h3.2.1 c4,.string x.2.2.2.2]) (by simp [results,Tryz.results12,go_sem,wG,wF,wE,Ao,Am,wD,sU,wC,Al,Ak]) rfl ⟨[.string x.1,.int .i64 x.2.1,.string x.2.2.1,.slice a4 h3.2.1 c4,.string x.2.2.2.2],rfl,?_,?_⟩
 ·have kD:=xH.out
  have rO:=HW.out
  refine ai.mk (h3:=(a4,h3.2.1,c4)) p0 p1 (ag.weak aU.ae (A:=az W3) (ag.kept aU.ae kD ?kp) (fun b _ hb=>show w.heap.size<=b by have hb1:W3.heap.size<=b:=hb;have:=hb0.size;omega)) p3
  case kp =>
   repeat (refine Kept.trans ?_ (Kept.set (az.not (by simp <;> omega)) _))
   exact Kept.refl _ _
 ·repeat (refine Below.setCell ?_ (by simp <;> omega) _)
  exact ah hb0 hb4
theorem zFZ (cs:List Value) (A:Where) (x:kW) (w:World) (h:Hid (aI A w cs x)):Calls prog 13 #[.agg cs.toArray] w fun e w'=>∃ cs',e=.returned (.agg cs'.toArray)/\aI (az w) w' cs' x/\Below w.heap.size w w':=by
 obtain ⟨h1,rfl,p0,p1⟩:=h.out.out
 clear h
 have hb0:Below w.heap.size w (((w.alloc (.cells #[.string x.1,.slice h1.1 h1.2.1 h1.2.2,.int .i64 x.2.2] 62)).alloc (.cells #[.string ⟨#[]⟩,.slice none 0 0,.int .i64 0] 62)).alloc (.cells #[.string x.1,.slice h1.1 h1.2.1 h1.2.2,.int .i64 x.2.2] 62)):=by go_grown
 have hB2:af (((w.alloc (.cells #[.string x.1,.slice h1.1 h1.2.1 h1.2.2,.int .i64 x.2.2] 62)).alloc (.cells #[.string ⟨#[]⟩,.slice none 0 0,.int .i64 0] 62)).alloc (.cells #[.string x.1,.slice h1.1 h1.2.1 h1.2.2,.int .i64 x.2.2] 62)) (w.heap.size+1) [.string ⟨#[]⟩,.slice none 0 0,.int .i64 0]:=by
  have:=((af.new (w.alloc (.cells #[.string x.1,.slice h1.1 h1.2.1 h1.2.2,.int .i64 x.2.2] 62)) 62 [.string ⟨#[]⟩,.slice none 0 0,.int .i64 0]).on ((Below.refl _ _).alloc (Nat.le_refl _) (.cells #[.string x.1,.slice h1.1 h1.2.1 h1.2.2,.int .i64 x.2.2] 62)))
  simpa using this
 have hB3:af (((w.alloc (.cells #[.string x.1,.slice h1.1 h1.2.1 h1.2.2,.int .i64 x.2.2] 62)).alloc (.cells #[.string ⟨#[]⟩,.slice none 0 0,.int .i64 0] 62)).alloc (.cells #[.string x.1,.slice h1.1 h1.2.1 h1.2.2,.int .i64 x.2.2] 62)) (w.heap.size+1+1) [.string x.1,.slice h1.1 h1.2.1 h1.2.2,.int .i64 x.2.2]:=by
  have:=af.new ((w.alloc (.cells #[.string x.1,.slice h1.1 h1.2.1 h1.2.2,.int .i64 x.2.2] 62)).alloc (.cells #[.string ⟨#[]⟩,.slice none 0 0,.int .i64 0] 62)) 62 [.string x.1,.slice h1.1 h1.2.1 h1.2.2,.int .i64 x.2.2]
  simpa using this
 have hC:=Bf h1.1 h1.2.1 h1.2.2 A x.2.1 (((w.alloc (.cells #[.string x.1,.slice h1.1 h1.2.1 h1.2.2,.int .i64 x.2.2] 62)).alloc (.cells #[.string ⟨#[]⟩,.slice none 0 0,.int .i64 0] 62)).alloc (.cells #[.string x.1,.slice h1.1 h1.2.1 h1.2.2,.int .i64 x.2.2] 62)) (ag.on aU.ae p1 hb0)
 obtain ⟨W3,hW3⟩:∃ W3,W3=(((w.alloc (.cells #[.string x.1,.slice h1.1 h1.2.1 h1.2.2,.int .i64 x.2.2] 62)).alloc (.cells #[.string ⟨#[]⟩,.slice none 0 0,.int .i64 0] 62)).alloc (.cells #[.string x.1,.slice h1.1 h1.2.1 h1.2.2,.int .i64 x.2.2] 62)):=⟨_,rfl⟩
 have hsz:Hid (W3.heap.size=w.heap.size+1+1+1):=by rw [Hid,hW3];simp
 go_enter func13,ntmps13
 go_wp2_with fail
 rw [<- hW3] at hb0 hB2 hB3 hC |-
 clear hW3
 refine hC.mono ?_
 rintro e w4 ⟨a4,c4,rfl,kD,hb4⟩
 clear hC
 have zO:w.heap.size+1+1+1<=w4.heap.size:=by have:=hb4.size;rw [hsz.out] at this;exact this
 have k2:=hB2.on hb4
 have k3:=hB3.on hb4
 have hl2:=k2.1
 have hl3:=k3.1
 obtain ⟨wG,Kg⟩:=k2.2 0 _ rfl
 obtain ⟨wD,Kb⟩:=k3.2 0 _ rfl
 obtain ⟨wF,Ke⟩:=k2.2 1 _ rfl
 obtain ⟨sU,Ab⟩:=k3.2 1 _ rfl
 obtain ⟨wE,Kc⟩:=k2.2 2 _ rfl
 obtain ⟨wC,Ka⟩:=k3.2 2 _ rfl
 clear k2 k3 hB2 hB3
 have rO:=hsz.out
 clear hsz
 have xH:Hid (ag aU 3 48 (az W3) w4 a4 h1.2.1 c4 x.2.1):=kD
 clear kD
 have HW:Hid (W3.heap.size=w.heap.size+1+1+1):=rO
 clear rO
 go_wp2_with fail
 refine bodyPost_ret (v:=.agg #[.string x.1,.slice a4 h1.2.1 c4,.int .i64 x.2.2]) (by simp [results,Tryz.results13,go_sem,wG,wF,wE,wD,sU,wC]) rfl ⟨[.string x.1,.slice a4 h1.2.1 c4,.int .i64 x.2.2],rfl,?_,?_⟩
 ·have kD:=xH.out
  have rO:=HW.out
  refine aI.mk (h1:=(a4,h1.2.1,c4)) p0 (ag.weak aU.ae (A:=az W3) (ag.kept aU.ae kD ?kp) (fun b _ hb=>show w.heap.size<=b by have hb1:W3.heap.size<=b:=hb;have:=hb0.size;omega))
  case kp =>
   repeat (refine Kept.trans ?_ (Kept.set (az.not (by simp <;> omega)) _))
   exact Kept.refl _ _
 ·repeat (refine Below.setCell ?_ (by simp <;> omega) _)
  exact ah hb0 hb4
def hasB {α:Type} (eq:α->α->Bool) (V:List α) (s:α):Bool:=V.any fun v=>eq v s
theorem XU {α:Type} [Inhabited α] (eq:α->α->Bool) (L:List α) (s:α) {k:Nat} (hk:k<L.length):hasB eq (L.take (k+1)) s=(hasB eq (L.take k) s || eq (L.getD k default) s):=by
 rw [<- nH hk];simp [hasB]
theorem Yk {α:Type} [Inhabited α] (eq:α->α->Bool) (L:List α) (s:α) {k:Nat} (hk:k<L.length) (h:eq (L.getD k default) s=true):hasB eq L s=true:=by
 simp only [hasB,List.any_eq_true]
 exact ⟨L.getD k default,by rw [gK _ _ hk];exact List.getElem_mem hk,h⟩
def dM (a b:Int):Bool:=a == b
end Go.Proofs.YtgikfenllgldoaaGreat
