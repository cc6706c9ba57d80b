/- Functions of the program, each walked under the conditions that its theorem names. -/
import Derived.RangeFuncNested
import Derived.RangeFuncBound
import Derived.RangeFuncCalls
import Derived.RangeFuncLeaves
import Derived.RangeFuncWrites
import Derived.Shelf.Abstract
import Derived.Shelf.RegionOpen
import Derived.WalkKit
import Derived.OwnWalkIn
import Derived.TacticsInMore
import Derived.LoopNIn
import Derived.LoopIn
import Derived.Test.YtgikfenllgldoaaGreatRows
import Derived.Test.YtgikfenllgldoaaGreatQ15
set_option linter.unusedSimpArgs false
set_option maxRecDepth 100000
set_option maxHeartbeats 32000000
namespace Go.Proofs.YtgikfenllgldoaaGreat
open Go.Proofs.Tryz
open Go.RowKit
theorem Jb (op:Int):op=1\/op=2\/op=3\/op=4\/op=5\/op=6\/((op == 1)=false/\(op == 2)=false/\(op == 3)=false/\(op == 4)=false/\(op == 5)=false/\(op == 6)=false):=by
 simp only [beq_eq_false_iff_ne,ne_eq]
 omega
theorem zG3 {v:ByteArray} {t:Bool} {op:Int} {V:List ByteArray} (h1:(op == 1)=false) (h2:(op == 2)=false) (h3:(op == 3)=false) (h4:(op == 4)=false) (h5:(op == 5)=false) (h6:(op == 6)=false):iC v t op V=false:=by
 simp only [beq_eq_false_iff_ne,ne_eq] at h1 h2 h3 h4 h5 h6
 simp [iC,h1,h2,h3,h4,h5,h6]
def kr (D:Nat) (key:ByteArray) (op:Int) (a:Option Addr) (n cap:Nat) (u:World):Prop:=D<u.heap.size/\u.cell? ⟨D,0,none⟩=some (.string key)/\u.cell? ⟨D,1,none⟩=some (.int .i64 op)/\u.cell? ⟨D,2,none⟩=some (.slice a n cap)
theorem kr.on {D:Nat} {key:ByteArray} {op:Int} {a:Option Addr} {n cap:Nat} {u u':World} (h:kr D key op a n cap u) (hb:Below u.heap.size u u'):kr D key op a n cap u' :=
 ⟨Nat.lt_of_lt_of_le h.1 hb.size,(hb.cell h.1).trans h.2.1,(hb.cell h.1).trans h.2.2.1,(hb.cell h.1).trans h.2.2.2⟩
theorem kr.new (w:World) (key:ByteArray) (op:Int) (a:Option Addr) (n cap:Nat):kr w.heap.size key op a n cap (w.alloc (.cells #[.string key,.int .i64 op,.slice a n cap] 103)) :=
 ⟨by simp,by simp [go_sem],by simp [go_sem],by simp [go_sem]⟩
theorem WJ (v:ByteArray) (t:Bool) (a:Option Addr) (n cap:Nat) (w:World)  : Calls prog 173 #[.agg #[.string v,.bool t,.slice a n cap],.int .i64 1] w fun e w'=>e=.returned (.func (.func 196) #[.agg #[.string v,.bool t,.slice a n cap]] #[])/\Below w.heap.size w w':=by
 go_enter func173,ntmps173
 go_wp2
 go_ret
 exact ⟨rfl,by go_grown⟩
theorem Ll (a:Option Addr) (cap:Nat) (L:List aG) (key:ByteArray) (b:Option Addr) (cap':Nat) (V:List ByteArray) (w:World) (hL:Hid (fw w a L)) (hV:Hid (bS w b V))  : Calls prog 132 #[.slice a L.length cap,.agg #[.string key,.int .i64 1,.slice b V.length cap']] w fun e w'=>e=.returned (.bool (iC (getL L key).1 (getL L key).2 1 V))/\Below w.heap.size w w':=by
 have hb0:Below w.heap.size w (w.alloc (.cells #[.string key,.int .i64 1,.slice b V.length cap'] 103)):=(Below.refl _ _).alloc (Nat.le_refl _) _
 have q0:=kr.new w key 1 b V.length cap'
 have hg:=wJ a cap L key _ (show Hid (fw (w.alloc (.cells #[.string key,.int .i64 1,.slice b V.length cap'] 103)) a L) from hL.out.on hb0)
 have ko:∀ {u:World},Below w.heap.size w u->Hid (bS u b V):=fun hb=>hV.out.on hb
 generalize getL L key=x at hg
 obtain ⟨x,t⟩:=x
 skip
 clear hL hV
 go_enter func132,ntmps132
 go_wp2_with fail
 refine hg.mono ?_
 rintro e w1 ⟨rfl,hb1⟩
 have hb:=ah hb0 hb1
 obtain ⟨qa,qb,qc,qd⟩:=q0.on hb1
 clear hg hb1 hb0 q0
 go_wp2_with fail
 refine (WJ _ _ _ _ _ _).mono ?_
 rintro e w2 ⟨rfl,hb2⟩
 have hbb:=ah hb hb2
 clear hb qa qb qc qd hb2
 go_wp2_with fail
 refine (Xq _ _ _ _ V _ (ko hbb)).mono ?_
 rintro e w3 ⟨rfl,hb3⟩
 have hbc:=ah hbb hb3
 clear hbb hb3 ko
 go_wp2_with fail
 go_ret
 exact ⟨lC (by simp [iC]),hbc⟩
theorem KU (v:ByteArray) (t:Bool) (a:Option Addr) (n cap:Nat) (w:World)  : Calls prog 173 #[.agg #[.string v,.bool t,.slice a n cap],.int .i64 2] w fun e w'=>e=.returned (.func (.func 197) #[.agg #[.string v,.bool t,.slice a n cap]] #[])/\Below w.heap.size w w':=by
 go_enter func173,ntmps173
 go_wp2
 go_ret
 exact ⟨rfl,by go_grown⟩
theorem zFj (a:Option Addr) (cap:Nat) (L:List aG) (key:ByteArray) (b:Option Addr) (cap':Nat) (V:List ByteArray) (w:World) (hL:Hid (fw w a L)) (hV:Hid (bS w b V))  : Calls prog 132 #[.slice a L.length cap,.agg #[.string key,.int .i64 2,.slice b V.length cap']] w fun e w'=>e=.returned (.bool (iC (getL L key).1 (getL L key).2 2 V))/\Below w.heap.size w w':=by
 have hb0:Below w.heap.size w (w.alloc (.cells #[.string key,.int .i64 2,.slice b V.length cap'] 103)):=(Below.refl _ _).alloc (Nat.le_refl _) _
 have q0:=kr.new w key 2 b V.length cap'
 have hg:=wJ a cap L key _ (show Hid (fw (w.alloc (.cells #[.string key,.int .i64 2,.slice b V.length cap'] 103)) a L) from hL.out.on hb0)
 have ko:∀ {u:World},Below w.heap.size w u->Hid (bS u b V):=fun hb=>hV.out.on hb
 generalize getL L key=x at hg
 obtain ⟨x,t⟩:=x
 skip
 clear hL hV
 go_enter func132,ntmps132
 go_wp2_with fail
 refine hg.mono ?_
 rintro e w1 ⟨rfl,hb1⟩
 have hb:=ah hb0 hb1
 obtain ⟨qa,qb,qc,qd⟩:=q0.on hb1
 clear hg hb1 hb0 q0
 go_wp2_with fail
 refine (KU _ _ _ _ _ _).mono ?_
 rintro e w2 ⟨rfl,hb2⟩
 have hbb:=ah hb hb2
 clear hb qa qb qc qd hb2
 go_wp2_with fail
 refine (zG5 _ _ _ _ V _ (ko hbb)).mono ?_
 rintro e w3 ⟨rfl,hb3⟩
 have hbc:=ah hbb hb3
 clear hbb hb3 ko
 go_wp2_with fail
 go_ret
 exact ⟨lC (by simp [iC]),hbc⟩
theorem GV (v:ByteArray) (t:Bool) (a:Option Addr) (n cap:Nat) (w:World)  : Calls prog 173 #[.agg #[.string v,.bool t,.slice a n cap],.int .i64 3] w fun e w'=>e=.returned (.func (.func 198) #[.agg #[.string v,.bool t,.slice a n cap]] #[])/\Below w.heap.size w w':=by
 go_enter func173,ntmps173
 go_wp2
 go_ret
 exact ⟨rfl,by go_grown⟩
theorem zEb (a:Option Addr) (cap:Nat) (L:List aG) (key:ByteArray) (b:Option Addr) (cap':Nat) (V:List ByteArray) (w:World) (hL:Hid (fw w a L)) (hV:Hid (bS w b V))  : Calls prog 132 #[.slice a L.length cap,.agg #[.string key,.int .i64 3,.slice b V.length cap']] w fun e w'=>e=.returned (.bool (iC (getL L key).1 (getL L key).2 3 V))/\Below w.heap.size w w':=by
 have hb0:Below w.heap.size w (w.alloc (.cells #[.string key,.int .i64 3,.slice b V.length cap'] 103)):=(Below.refl _ _).alloc (Nat.le_refl _) _
 have q0:=kr.new w key 3 b V.length cap'
 have hg:=wJ a cap L key _ (show Hid (fw (w.alloc (.cells #[.string key,.int .i64 3,.slice b V.length cap'] 103)) a L) from hL.out.on hb0)
 have ko:∀ {u:World},Below w.heap.size w u->Hid (bS u b V):=fun hb=>hV.out.on hb
 generalize getL L key=x at hg
 obtain ⟨x,t⟩:=x
 skip
 clear hL hV
 go_enter func132,ntmps132
 go_wp2_with fail
 refine hg.mono ?_
 rintro e w1 ⟨rfl,hb1⟩
 have hb:=ah hb0 hb1
 obtain ⟨qa,qb,qc,qd⟩:=q0.on hb1
 clear hg hb1 hb0 q0
 go_wp2_with fail
 refine (GV _ _ _ _ _ _).mono ?_
 rintro e w2 ⟨rfl,hb2⟩
 have hbb:=ah hb hb2
 clear hb qa qb qc qd hb2
 go_wp2_with fail
 refine (zEt _ _ _ _ _ _).mono ?_
 rintro e w3 ⟨rfl,hb3⟩
 have hbc:=ah hbb hb3
 clear hbb hb3 ko
 go_wp2_with fail
 go_ret
 exact ⟨lC (by simp [iC]),hbc⟩
theorem KX (v:ByteArray) (t:Bool) (a:Option Addr) (n cap:Nat) (w:World)  : Calls prog 173 #[.agg #[.string v,.bool t,.slice a n cap],.int .i64 4] w fun e w'=>e=.returned (.func (.func 199) #[.agg #[.string v,.bool t,.slice a n cap]] #[])/\Below w.heap.size w w':=by
 go_enter func173,ntmps173
 go_wp2
 go_ret
 exact ⟨rfl,by go_grown⟩
theorem zFh (a:Option Addr) (cap:Nat) (L:List aG) (key:ByteArray) (b:Option Addr) (cap':Nat) (V:List ByteArray) (w:World) (hL:Hid (fw w a L)) (hV:Hid (bS w b V))  : Calls prog 132 #[.slice a L.length cap,.agg #[.string key,.int .i64 4,.slice b V.length cap']] w fun e w'=>e=.returned (.bool (iC (getL L key).1 (getL L key).2 4 V))/\Below w.heap.size w w':=by
 have hb0:Below w.heap.size w (w.alloc (.cells #[.string key,.int .i64 4,.slice b V.length cap'] 103)):=(Below.refl _ _).alloc (Nat.le_refl _) _
 have q0:=kr.new w key 4 b V.length cap'
 have hg:=wJ a cap L key _ (show Hid (fw (w.alloc (.cells #[.string key,.int .i64 4,.slice b V.length cap'] 103)) a L) from hL.out.on hb0)
 have ko:∀ {u:World},Below w.heap.size w u->Hid (bS u b V):=fun hb=>hV.out.on hb
 generalize getL L key=x at hg
 obtain ⟨x,t⟩:=x
 skip
 clear hL hV
 go_enter func132,ntmps132
 go_wp2_with fail
 refine hg.mono ?_
 rintro e w1 ⟨rfl,hb1⟩
 have hb:=ah hb0 hb1
 obtain ⟨qa,qb,qc,qd⟩:=q0.on hb1
 clear hg hb1 hb0 q0
 go_wp2_with fail
 refine (KX _ _ _ _ _ _).mono ?_
 rintro e w2 ⟨rfl,hb2⟩
 have hbb:=ah hb hb2
 clear hb qa qb qc qd hb2
 go_wp2_with fail
 refine (zFx _ _ _ _ _ _).mono ?_
 rintro e w3 ⟨rfl,hb3⟩
 have hbc:=ah hbb hb3
 clear hbb hb3 ko
 go_wp2_with fail
 go_ret
 exact ⟨lC (by simp [iC]),hbc⟩
theorem KZ (v:ByteArray) (t:Bool) (a:Option Addr) (n cap:Nat) (w:World)  : Calls prog 173 #[.agg #[.string v,.bool t,.slice a n cap],.int .i64 5] w fun e w'=>e=.returned (.func (.func 200) #[.agg #[.string v,.bool t,.slice a n cap]] #[])/\Below w.heap.size w w':=by
 go_enter func173,ntmps173
 go_wp2
 go_ret
 exact ⟨rfl,by go_grown⟩
theorem zFe (a:Option Addr) (cap:Nat) (L:List aG) (key:ByteArray) (b:Option Addr) (cap':Nat) (V:List ByteArray) (w:World) (hL:Hid (fw w a L)) (hV:Hid (bS w b V))  : Calls prog 132 #[.slice a L.length cap,.agg #[.string key,.int .i64 5,.slice b V.length cap']] w fun e w'=>e=.returned (.bool (iC (getL L key).1 (getL L key).2 5 V))/\Below w.heap.size w w':=by
 have hb0:Below w.heap.size w (w.alloc (.cells #[.string key,.int .i64 5,.slice b V.length cap'] 103)):=(Below.refl _ _).alloc (Nat.le_refl _) _
 have q0:=kr.new w key 5 b V.length cap'
 have hg:=wJ a cap L key _ (show Hid (fw (w.alloc (.cells #[.string key,.int .i64 5,.slice b V.length cap'] 103)) a L) from hL.out.on hb0)
 have ko:∀ {u:World},Below w.heap.size w u->Hid (bS u b V):=fun hb=>hV.out.on hb
 generalize getL L key=x at hg
 obtain ⟨x,t⟩:=x
 skip
 clear hL hV
 go_enter func132,ntmps132
 go_wp2_with fail
 refine hg.mono ?_
 rintro e w1 ⟨rfl,hb1⟩
 have hb:=ah hb0 hb1
 obtain ⟨qa,qb,qc,qd⟩:=q0.on hb1
 clear hg hb1 hb0 q0
 go_wp2_with fail
 refine (KZ _ _ _ _ _ _).mono ?_
 rintro e w2 ⟨rfl,hb2⟩
 have hbb:=ah hb hb2
 clear hb qa qb qc qd hb2
 go_wp2_with fail
 refine (zFm _ _ _ _ V _ (ko hbb)).mono ?_
 rintro e w3 ⟨rfl,hb3⟩
 have hbc:=ah hbb hb3
 clear hbb hb3 ko
 go_wp2_with fail
 go_ret
 exact ⟨lC (by simp [iC]),hbc⟩
theorem KY (v:ByteArray) (t:Bool) (a:Option Addr) (n cap:Nat) (w:World)  : Calls prog 173 #[.agg #[.string v,.bool t,.slice a n cap],.int .i64 6] w fun e w'=>e=.returned (.func (.func 201) #[.agg #[.string v,.bool t,.slice a n cap]] #[])/\Below w.heap.size w w':=by
 go_enter func173,ntmps173
 go_wp2
 go_ret
 exact ⟨rfl,by go_grown⟩
theorem zFf (a:Option Addr) (cap:Nat) (L:List aG) (key:ByteArray) (b:Option Addr) (cap':Nat) (V:List ByteArray) (w:World) (hL:Hid (fw w a L)) (hV:Hid (bS w b V))  : Calls prog 132 #[.slice a L.length cap,.agg #[.string key,.int .i64 6,.slice b V.length cap']] w fun e w'=>e=.returned (.bool (iC (getL L key).1 (getL L key).2 6 V))/\Below w.heap.size w w':=by
 have hb0:Below w.heap.size w (w.alloc (.cells #[.string key,.int .i64 6,.slice b V.length cap'] 103)):=(Below.refl _ _).alloc (Nat.le_refl _) _
 have q0:=kr.new w key 6 b V.length cap'
 have hg:=wJ a cap L key _ (show Hid (fw (w.alloc (.cells #[.string key,.int .i64 6,.slice b V.length cap'] 103)) a L) from hL.out.on hb0)
 have ko:∀ {u:World},Below w.heap.size w u->Hid (bS u b V):=fun hb=>hV.out.on hb
 generalize getL L key=x at hg
 obtain ⟨x,t⟩:=x
 skip
 clear hL hV
 go_enter func132,ntmps132
 go_wp2_with fail
 refine hg.mono ?_
 rintro e w1 ⟨rfl,hb1⟩
 have hb:=ah hb0 hb1
 obtain ⟨qa,qb,qc,qd⟩:=q0.on hb1
 clear hg hb1 hb0 q0
 go_wp2_with fail
 refine (KY _ _ _ _ _ _).mono ?_
 rintro e w2 ⟨rfl,hb2⟩
 have hbb:=ah hb hb2
 clear hb qa qb qc qd hb2
 go_wp2_with fail
 refine (zFp _ _ _ _ V _ (ko hbb)).mono ?_
 rintro e w3 ⟨rfl,hb3⟩
 have hbc:=ah hbb hb3
 clear hbb hb3 ko
 go_wp2_with fail
 go_ret
 exact ⟨lC (by simp [iC]),hbc⟩
theorem KV (v:ByteArray) (t:Bool) (a:Option Addr) (n cap:Nat) (op:Int) (w:World) (h1:(op == 1)=false) (h2:(op == 2)=false) (h3:(op == 3)=false) (h4:(op == 4)=false) (h5:(op == 5)=false) (h6:(op == 6)=false):Calls prog 173 #[.agg #[.string v,.bool t,.slice a n cap],.int .i64 op] w fun e w'=>e=.returned (.func (.func 202) #[.agg #[.string v,.bool t,.slice a n cap]] #[])/\Below w.heap.size w w':=by
 go_enter func173,ntmps173
 go_wp2
 go_ret
 exact ⟨rfl,by go_grown⟩
theorem zFi (a:Option Addr) (cap:Nat) (L:List aG) (key:ByteArray) (op:Int) (b:Option Addr) (cap':Nat) (V:List ByteArray) (w:World) (hL:Hid (fw w a L)) (hV:Hid (bS w b V)) (h1:(op == 1)=false) (h2:(op == 2)=false) (h3:(op == 3)=false) (h4:(op == 4)=false) (h5:(op == 5)=false) (h6:(op == 6)=false):Calls prog 132 #[.slice a L.length cap,.agg #[.string key,.int .i64 op,.slice b V.length cap']] w fun e w'=>e=.returned (.bool (iC (getL L key).1 (getL L key).2 op V))/\Below w.heap.size w w':=by
 have hb0:Below w.heap.size w (w.alloc (.cells #[.string key,.int .i64 op,.slice b V.length cap'] 103)):=(Below.refl _ _).alloc (Nat.le_refl _) _
 have q0:=kr.new w key op b V.length cap'
 have hg:=wJ a cap L key _ (show Hid (fw (w.alloc (.cells #[.string key,.int .i64 op,.slice b V.length cap'] 103)) a L) from hL.out.on hb0)
 have ko:∀ {u:World},Below w.heap.size w u->Hid (bS u b V):=fun hb=>hV.out.on hb
 generalize getL L key=x at hg
 obtain ⟨x,t⟩:=x
 have HF:Hid (iC x t op V=false):=zG3 h1 h2 h3 h4 h5 h6
 clear hL hV
 go_enter func132,ntmps132
 go_wp2_with fail
 refine hg.mono ?_
 rintro e w1 ⟨rfl,hb1⟩
 have hb:=ah hb0 hb1
 obtain ⟨qa,qb,qc,qd⟩:=q0.on hb1
 clear hg hb1 hb0 q0
 go_wp2_with fail
 refine (KV _ _ _ _ _ op _ h1 h2 h3 h4 h5 h6).mono ?_
 rintro e w2 ⟨rfl,hb2⟩
 have hbb:=ah hb hb2
 clear hb qa qb qc qd hb2
 go_wp2_with fail
 refine (zG4 _ _ _ _ _ _).mono ?_
 rintro e w3 ⟨rfl,hb3⟩
 have hbc:=ah hbb hb3
 clear hbb hb3 ko
 go_wp2_with fail
 go_ret
 exact ⟨lC HF.out.symm,hbc⟩
def setNode (q:aB) (s:ByteArray):aB:=match q with | (a,b,c,d,e,f,g,h,i,j,k,l,_,o)=>(a,b,c,d,e,f,g,h,i,j,k,l,s,o)
def vB (q:aB) (s:ByteArray):aB:=match q with | (a,b,c,d,e,f,g,h,i,j,k,l,n,_)=>(a,b,c,d,e,f,g,h,i,j,k,l,n,s)
theorem aj.za {B:Where} {u:World} {cs:List Value} {q:aB} {s:ByteArray} (h:aj B u cs q) (hs:s.size<=140737488355328):aj B u (cs.set 14 (.string s)) (setNode q s):=by
 obtain ⟨h2,h6,h7,h8,h9,h10,h11,h12,aO,rfl,p0,p1,p2,p3,p4,p5,p6,p7,p8,p9,_,Rp⟩:=h.out
 exact aj.mk (x:=setNode q s) p0 p1 p2 p3 p4 p5 p6 p7 p8 p9 hs Rp
theorem aj.QN {B:Where} {u:World} {cs:List Value} {q:aB} {s:ByteArray} (h:aj B u cs q) (hs:s.size<=140737488355328):aj B u (cs.set 15 (.string s)) (vB q s):=by
 obtain ⟨h2,h6,h7,h8,h9,h10,h11,h12,aO,rfl,p0,p1,p2,p3,p4,p5,p6,p7,p8,p9,zq,_⟩:=h.out
 exact aj.mk (x:=vB q s) p0 p1 p2 p3 p4 p5 p6 p7 p8 p9 zq hs
def pg (x:aP) (k:Nat) (s:ByteArray):aP:=(x.1.set k (vB (setNode (x.1.getD k default) s) ⟨#[]⟩),x.2)
end Go.Proofs.YtgikfenllgldoaaGreat
namespace Go.Proofs.YtgikfenllgldoaaGreat
open Go.Proofs.Tryz
open Go.RowKit Go.Shelf Go.Maps
attribute [local go_sem] Oper.semAt_some
abbrev jJ:={p:bH // p.1.size<=140737488355328/\p.2.size<=140737488355328}
def zo:jJ:=⟨(⟨#[]⟩,⟨#[]⟩),by simp [ByteArray.size]⟩
theorem J4 (L:List jJ) {k:Nat} (h:k<L.length):(L.map Subtype.val).getD k default=(L.getD k zo).1:=by
 rw [List.getD_eq_getElem?_getD,List.getD_eq_getElem?_getD,List.getElem?_map,List.getElem?_eq_getElem h];rfl
def iA (L:List jJ) (k:Nat):List (Nat×jJ):=(List.range k).map (fun j=>(j,L.getD j zo))
theorem zGO (L:List jJ) (k:Nat):iA L (k+1)=iA L k++[(k,L.getD k zo)]:=by simp [iA,List.range_succ]
theorem zHo (L:List jJ) (k:Nat):(iA L k).length=k:=by simp [iA]
abbrev Kk (x:Nat×jJ):Array Value:=#[.int .i64 (x.1:Int),.agg #[.string x.2.1.1,.string x.2.1.2]]
theorem ak.Va {A:Where} {w:World} {cs:List Value} {x:bH} (h:ak A w cs x):cs=[.string x.1,.string x.2]:=by
 obtain ⟨a,b,rfl,h1,h2⟩:=h
 rw [h1.1,h2.1];rfl
theorem PK (F:Fence) (n:Nat) (h8:F.fn 63) (hro:F.round=none) (hn:1<=n) (l Bs n₀:Nat) (a:Option Addr) (len cap:Nat) (L:List jJ) (J Jx:List (Nat×jJ)->World->Prop)
  (hY:∀ pre x W,J pre W->pre.length<len->YieldAt F (n - 1) prog l (Kk x) W fun e W' =>
   (e=.returned (.bool true)/\J (pre++[x]) W'/\Below n₀ W W')\/(e=.returned (.bool false)/\Jx (pre++[x]) W'))
  (W:World) (hn₀:n₀<=W.heap.size) (hJ:AbidesFrom W.heap.size J) (wT:W.cell? ⟨Bs,0,none⟩=some (.slice a len cap)) (hL:ag ak 2 32 (fun b=>b<n₀) W a len cap (L.map Subtype.val)) (h0:J [] W) :
  CallsIn F n prog 63 #[.func (.yield l) #[] #[],.pointer (some ⟨Bs,0,none⟩)] W fun e W'=>(∃ v,e=.returned v) /\
   ((∃ ys,ys=iA L len/\J ys W')\/(∃ pre,(∃ k,k<=len/\pre=iA L k)/\Jx pre W')):=by
 have hlen:=hL.len (by decide)
 refine callsIn_of_wp func63 rfl h8 ?_ hro
 simp only [ntmps63,List.size_toArray,List.length_cons,List.length_nil,Nat.reduceAdd,Nat.reduceSub,Array.replicate_succ,Array.replicate_zero,List.push_toArray,List.append_toArray,List.nil_append,List.cons_append]
 gi_wp2
 gi_loopw [7] (fun i wr=>∃ k:Nat,k<=len/\i=.int .i64 k/\J (iA L k) wr/\Below n₀ W wr/\W.heap.size<=wr.heap.size)
  (fun i _=>len - (intOf i).toNat)
 case atStart=>exact ⟨0,Nat.zero_le _,rfl,h0,Below.refl _ _,Nat.le_refl _⟩
 case round =>
  obtain ⟨k,hk,rfl,hJs,hnx,hsw⟩:=hrel
  by_cases hlt:k<len
  ·obtain ⟨B,off,rfl,hB,M0,cs,hr,hv⟩:=hL.get hlt
   rw [J4 L (by have:=hL.1;rw [List.length_map] at this;omega)] at hr
   have e2:=hr.Va
   subst e2
   have d0:wr.cell? ⟨B,off+k*2,none⟩=some (.string (L.getD k zo).1.1):=(hnx.cell (p:=⟨B,off+k*2,none⟩) M0).trans (hv 0 _ rfl)
   have d1:wr.cell? ⟨B,off+k*2+1,none⟩=some (.string (L.getD k zo).1.2):=(hnx.cell (p:=⟨B,off+k*2+1,none⟩) M0).trans (hv 1 _ rfl)
   have HU:Hid (iA L (k+1)=iA L k++[(k,L.getD k zo)]):=zGO L k
   generalize L.getD k zo=x at d0 d1 HU
   have hBw:B<wr.heap.size:=by omega
   have bV:Below wr.heap.size wr (wr.alloc (.cells #[.string x.1.1,.string x.1.2] 73)):=(Below.refl _ _).alloc (Nat.le_refl _) _
   have hJV:=hJ _ wr (wr.alloc (.cells #[.string x.1.1,.string x.1.2] 73)) none hJs (World.grownBy_alloc wr _ none) (fun r e=>by cases e)
   obtain ⟨fn,tmps,assign,body,hy,hR⟩:=hY _ (k,x) _ hJV (by rw [zHo];exact hlt)
   have hwn:n₀<=wr.heap.size:=Nat.le_trans hn₀ hsw
   gi_wp2
   refine hR.mono ?_
   rintro e W3 (⟨rfl,hJ3,hk3⟩ | ⟨rfl,hJx3⟩)
   ·gi_wp2
    go_roundw
    case rel=>exact ⟨k+1,by omega,by simp,by rw [HU.out];exact hJ3,hnx.trans ((bV.mono hwn).trans hk3),Nat.le_trans hsw (Nat.le_trans bV.size hk3.size)⟩
    case measure=>simp [intOf];omega
   ·gi_wp2
    refine bodyPost_ret (results_none rfl _ _ _) rfl ?_
    exact ⟨⟨_,rfl⟩,.inr ⟨_,⟨k+1,by omega,HU.out.symm⟩,hJx3⟩⟩
  ·obtain rfl:k=len:=by omega
   gi_wp2
   go_end0
   exact ⟨⟨_,rfl⟩,.inl ⟨_,rfl,hJs⟩⟩
theorem all_in (F:Fence) (n:Nat) (h5:F.fn 36) (hro:F.round=none) (a:Option Addr) (len cap:Nat) (w:World) :
  CallsIn F n prog 36 #[.slice a len cap] w fun e w'=>e=.returned (.func (.func 63) #[] #[.pointer (some ⟨w.heap.size,0,none⟩)])/\w'=w.alloc (.cells #[.slice a len cap] 44):=by
 refine callsIn_of_wp func36 rfl h5 ?_ hro
 simp only [ntmps36,List.size_toArray,List.length_cons,List.length_nil,Nat.reduceAdd,Nat.reduceSub,Array.replicate_succ,Array.replicate_zero,List.push_toArray,List.append_toArray,List.nil_append,List.cons_append]
 gi_wp2
 go_ret
 exact ⟨rfl,rfl⟩
theorem all_stops (F:Fence) (n:Nat) (h8:F.fn 63) (hro:F.round=none) (hn:1<=n) (Bs n₀:Nat) (a:Option Addr) (len cap:Nat) (L:List jJ) (w:World) (wT:Bs<w.heap.size) (hn₀:n₀<=w.heap.size)
  (hc:w.cell? ⟨Bs,0,none⟩=some (.slice a len cap)) (hL:ag ak 2 32 (fun b=>b<n₀) w a len cap (L.map Subtype.val)) :
  SeqStopsK F n prog 63 #[.pointer (some ⟨Bs,0,none⟩)] Kk (Below n₀) (fun ys=>ys=iA L len) (fun pre=>∃ k,k<=len/\pre=iA L k) len w:=fun l J Jx W hW hJ _ hY h0=>by
 have hc':=(hW.cell (p:=⟨Bs,0,none⟩) wT).trans hc
 exact PK F n h8 hro hn l Bs n₀ a len cap L J Jx hY W (Nat.le_trans hn₀ hW.size) hJ hc' (hL.on ak.ae hW) h0
theorem OY {A:Where} {w:World} {a:Option Addr} {n c:Nat} {L:List bH} (h:ag ak 2 32 A w a n c L):∃ L':List jJ,L'.map Subtype.val=L:=by
 have hm:∀ p∈L,p.1.size<=140737488355328/\p.2.size<=140737488355328:=by
  intro p hp
  obtain ⟨i,hi,rfl⟩:=List.getElem_of_mem hp
  obtain ⟨B,off,_,_,_,cs,hr,_⟩:=h.get (i:=i) (by have:=h.1;omega)
  obtain ⟨a,b,rfl,h1,h2⟩:=hr
  have e:L.getD i default=L[i]:=by rw [List.getD_eq_getElem?_getD,List.getElem?_eq_getElem hi];rfl
  rw [e] at h1 h2
  exact ⟨h1.2,h2.2⟩
 exact ⟨L.attach.map (fun p=>⟨p.1,hm p.1 p.2⟩),by simp only [List.map_map,Function.comp_def];exact List.attach_map_subtype_val L⟩
theorem Yv (L:List jJ) (k:Nat) (hk:k<=L.length):(iA L k).map (fun x=>x.2.1)=(L.map Subtype.val).take k:=by
 apply List.ext_getElem?
 intro j
 unfold iA
 rw [List.map_map,List.getElem?_map,List.getElem?_take]
 by_cases hj:j<k
 ·have:j<L.length:=by omega
  simp [hj,this]
 ·simp [hj]
end Go.Proofs.YtgikfenllgldoaaGreat
namespace Go.Proofs.YtgikfenllgldoaaGreat
open Go.Proofs.Tryz
def stepD (ok:aT->aD->Bool) (tc tv:aT->aD->ByteArray) (st:VC) (pk:bH):Except Int VC :=
 match fI (qh st.2) pk.1,fI (jK st.1) pk.2 with
 | some c,some v=>if ok (st.2.getD c default) (st.1.getD v default)=true then .ok (st.1.set v (qG (st.1.getD v default) (tv (st.2.getD c default) (st.1.getD v default))),st.2.set c (qF (st.2.getD c default) (tc (st.2.getD c default) (st.1.getD v default)))) else .error 2
 | _,_=>.error 5
def runD (f:VC->bH->Except Int VC):VC->List bH->Except Int VC
 | st,[]=>.ok st
 | st,pk :: r=>match f st pk with
  | .ok st'=>runD f st' r
  | .error e=>.error e
theorem XG (f:VC->bH->Except Int VC) (p:bH):∀ (L:List bH) (st:VC),runD f st (L++[p])=match runD f st L with | .ok st'=>f st' p | .error e=>.error e
 | [],st=>by simp only [List.nil_append,runD];cases f st p <;> rfl
 | q :: r,st=>by
  simp only [List.cons_append,runD]
  cases f st q with
  | ok st'=>exact XG f p r st'
  | error e=>rfl
theorem Yc (f:VC->bH->Except Int VC) (M:List bH) {e:Int}:∀ (L:List bH) (st:VC),runD f st L=.error e->runD f st (L++M)=.error e
 | [],st,h=>by cases h
 | q :: r,st,h=>by
  simp only [List.cons_append,runD] at h |-
  cases hq:f st q with
  | ok st'=>rw [hq] at h;exact Yc f M r st' h
  | error e'=>rw [hq] at h;exact h
theorem E8 {f:VC->bH->Except Int VC} {L:List bH} {st:VC} {e:Int} {k:Nat} (h:runD f st (L.take k)=.error e):runD f st L=.error e:=by
 have:=Yc f (L.drop k) _ _ h
 rwa [List.take_append_drop] at this
theorem Qg:∀ (L:List bH) (st:VC),runD stepA st L=applyP st L
 | [],_=>rfl
 | q :: r,st=>by
  simp only [runD,applyP]
  cases stepA st q with
  | ok st'=>exact Qg r st'
  | error e=>rfl
theorem Xb {ok:aT->aD->Bool} {tc tv:aT->aD->ByteArray} {st:VC} {pk:bH} (h:fI (qh st.2) pk.1=none\/fI (jK st.1) pk.2=none):stepD ok tc tv st pk=.error 5:=by
 unfold stepD
 rcases h with h | h
 ·rw [h]
 ·rw [h];cases fI (qh st.2) pk.1 <;> rfl
theorem EO {ok:aT->aD->Bool} {tc tv:aT->aD->ByteArray} {st:VC} {pk:bH} {c v:Nat} (h1:fI (qh st.2) pk.1=some c) (h2:fI (jK st.1) pk.2=some v) (h3:ok (st.2.getD c default) (st.1.getD v default)=false):stepD ok tc tv st pk=.error 2:=by
 unfold stepD
 rw [h1,h2]
 simp only [h3]
 rfl
theorem EN {ok:aT->aD->Bool} {tc tv:aT->aD->ByteArray} {st:VC} {pk:bH} {c v:Nat} (h1:fI (qh st.2) pk.1=some c) (h2:fI (jK st.1) pk.2=some v) (h3:ok (st.2.getD c default) (st.1.getD v default)=true):stepD ok tc tv st pk=.ok (st.1.set v (qG (st.1.getD v default) (tv (st.2.getD c default) (st.1.getD v default))),st.2.set c (qF (st.2.getD c default) (tc (st.2.getD c default) (st.1.getD v default)))):=by
 unfold stepD
 rw [h1,h2]
 simp only [h3]
 rfl
theorem EP {ok:aT->aD->Bool} {tc tv:aT->aD->ByteArray} {st st':VC} {pk:bH} (h:stepD ok tc tv st pk=.ok st'):st'.1.length=st.1.length/\st'.2.length=st.2.length:=by
 unfold stepD at h
 split at h
 ·split at h
  ·injection h with h
   subst h
   simp
  ·cases h
 ·cases h
theorem Xf {ok:aT->aD->Bool} {tc tv:aT->aD->ByteArray}:∀ {L:List bH} {st st':VC},runD (stepD ok tc tv) st L=.ok st'->st'.1.length=st.1.length/\st'.2.length=st.2.length
 | [],st,st',h=>by injection h with h;subst h;exact ⟨rfl,rfl⟩
 | p :: r,st,st',h=>by
  simp only [runD] at h
  cases hq:stepD ok tc tv st p with
  | ok s=>rw [hq] at h;have h1:=Xf h;have h2:=EP hq;exact ⟨h1.1.trans h2.1,h1.2.trans h2.2⟩
  | error e=>rw [hq] at h;cases h
end Go.Proofs.YtgikfenllgldoaaGreat
namespace Go.Proofs.YtgikfenllgldoaaGreat
open Go.Proofs.Tryz
open Go.ChangeShapes Go.WideShapes Go.ChangeAt Go.RowKit
def jB {α:Type} (R:bI α) (m:α->Nat) (t:TypeId):Prop :=
 ∀ {H:Type} {enc:TypeId×Value->H} {W:World} {base n:Nat} {sp:Nat->Bool} {held:Bool} {cs:List Value} {x:DataW H×List MemPlace},
  DataW.trod enc prog W base sp held n t cs=some x->Light x.1 t->∃ y,R (fun _=>True) W cs y/\m y<=Rows.uptoBulk x.1
theorem K4 {H:Type} (d:DataW H):1<=Rows.uptoBulk d:=by
 match d with
 | .lit l=>cases l <;> simp [Rows.uptoBulk]
 | .nil=>simp [Rows.uptoBulk]
 | .ptr _=>simp [Rows.uptoBulk]
 | .slice _ _=>simp [Rows.uptoBulk]
 | .agg _=>simp [Rows.uptoBulk]
 | .iface _ _=>simp [Rows.uptoBulk]
 | .map _=>simp [Rows.uptoBulk]
 | .held _=>simp [Rows.uptoBulk]
theorem bY.m {α:Type} {R:bI α} {t:TypeId} (h:bY R t):jB R (fun _=>1) t:=by
 intro H enc W base n sp held cs x hx hl
 obtain ⟨y,hy⟩:=h hx hl
 exact ⟨y,hy,K4 _⟩
theorem W9 {α H:Type} (m:α->Nat) (f:Nat->α) (D:Nat->DataW H):∀ l:List Nat,(∀ i∈l,m (f i)<=Rows.uptoBulk (D i))->bg m (l.map f)<=Rows.uptoBulkAll (l.map D)
 | [],_=>by simp [bg,Rows.uptoBulkAll]
 | i :: l,h=>by
  have:=W9 m f D l (fun j hj=>h j (List.mem_cons_of_mem _ hj))
  have h0:=h i List.mem_cons_self
  simp only [bg,List.map_cons,List.sum_cons,Rows.uptoBulkAll] at this |-
  omega
theorem EF {α:Type} [Inhabited α] {R:bI α} {m:α->Nat} {k bytes:Nat} {t e:TypeId} (hR:aJ R k) (hu:prog.underlying t=some (.slice e)) (ck:prog.cellsOf e=k) (bk:prog.bytesOf e=bytes) (hk0:0<k) (hE:jB R m e):jB (bN R k bytes) (bg m) t:=by
 intro H enc W base n sp held cs x h hl
 rcases Go.Deep.open_slice hu h with ⟨hv,_⟩ | ⟨a,len,cap,mm,nn,D,Pl,hv,_,hlc,_,hm,rfl,hel⟩
 ·exact ⟨[],⟨none,0,0,hv,ag.nil _ _ _ _ (fun _=>rfl)⟩,by simp [bg]⟩
 ·obtain ⟨w1,w2⟩:=YC hu hl
  simp only [List.length_map,List.length_range,bk] at w1
  have lg:len<=mm:=by rw [hm];split <;> omega
  rw [ck] at hel
  have each:∀ i,i<len->∃ y:α,(∃ cs,R (fun _=>True) W cs y/\∀ j u,cs[j]?=some u->W.cell? ((a.add (i*k)).add j)=some u)/\m y<=Rows.uptoBulk (D i):=fun i hi=>by
   obtain ⟨cs',h1,h2⟩:=hel i (by omega)
   obtain ⟨y,hy,hm⟩:=hE h2 (w2 _ (List.mem_map.2 ⟨i,List.mem_range.2 hi,rfl⟩))
   obtain ⟨_,_,hcell⟩:=World.cells?_some h1
   refine ⟨y,⟨cs',hy,fun j u hj=>?_⟩,hm⟩
   have hjk:j<k:=by
    have:=(List.getElem?_eq_some_iff.1 hj).1
    rwa [hR.len hy] at this
   rw [hcell j hjk,hj]
  obtain ⟨f,hf⟩:=Go.Deep.choose_lt each
  refine ⟨(List.range len).map f,⟨some a,len,cap,hv,by simp,hlc,(fun h=>by cases h),w1,fun hpos=>?_⟩,?_⟩
  ·obtain ⟨B,off,spot⟩:=a
   obtain ⟨cs0,hr0,hc0⟩:=(hf 0 hpos).1
   have hex:∃ u,cs0[0]?=some u:=by
    cases e:cs0 with
    | nil=>have:=hR.len hr0;rw [e] at this;simp at this;omega
    | cons u r=>exact ⟨u,rfl⟩
   obtain ⟨u0,hu0⟩:=hex
   have hc0:=hc0 0 u0 hu0
   have hsp:spot=none:=by
    have:=World.cell?_spot hc0
    simpa [Addr.add] using this
   subst hsp
   rw [add_lit,add_lit] at hc0
   refine ⟨B,off,rfl,Cv hc0,trivial,fun i hi=>?_⟩
   obtain ⟨cs,hr,hc⟩:=(hf i hi).1
   refine ⟨cs,by rw [Yl f len i hi];exact hr,fun j u hj=>?_⟩
   have:=hc j u hj
   rwa [add_lit,add_lit] at this
  ·have:=W9 m f D (List.range len) (fun i hi=>(hf i (List.mem_range.1 hi)).2)
   simp only [Rows.uptoBulk]
   omega
def tu {α:Type} (fs:List Field) (off total:Nat) (R:bI α) (m:α->Nat):Prop :=
 ∀ {H:Type} {enc:TypeId×Value->H} {W:World} {base n:Nat} {sp:Nat->Bool} {held:Bool} {cs:List Value} {ds:List (DataW H)},cs.length=total->ds.length=fs.length ->
  (∀ (j:Nat) (f:Field),fs[j]?=some f->∃ d,DataW.trod enc prog W base sp held n f.type ((cs.drop f.offset).take (prog.cellsOf f.type))=some d/\Light d.1 f.type/\ds[j]?=some d.1)->∃ y,R (fun _=>True) W (cs.drop off) y/\m y<=Rows.uptoBulkAll ds
theorem Y1 {α:Type} {R:bI α} {m:α->Nat} {f:Field} {off total:Nat} (ho:f.offset=off) (ht:off+prog.cellsOf f.type=total) (h:jB R m f.type):tu [f] off total R m:=by
 intro H enc W base n sp held cs ds hl hd hf
 obtain ⟨d,h1,h2,h3⟩:=hf 0 f rfl
 rw [ho,List.take_of_length_le (by rw [List.length_drop];omega)] at h1
 obtain ⟨y,hy,hm⟩:=h h1 h2
 refine ⟨y,hy,?_⟩
 cases ds with
 | nil=>simp at hd
 | cons d0 r=>simp at h3;subst h3;simp only [Rows.uptoBulkAll];omega
theorem nK {α β:Type} {R:bI α} {S:bI β} {m1:α->Nat} {m2:β->Nat} {f:Field} {fs:List Field} {off mm total:Nat} (ho:f.offset=off) (hm:off+prog.cellsOf f.type=mm) (h:jB R m1 f.type) (hs:tu fs mm total S m2):tu (f :: fs) off total (bf R S) (fun x=>m1 x.1+m2 x.2):=by
 intro H enc W base n sp held cs ds hl hd hf
 obtain ⟨d,h1,h2,h3⟩:=hf 0 f rfl
 rw [ho] at h1
 obtain ⟨y,hy,hm1⟩:=h h1 h2
 cases ds with
 | nil=>simp at hd
 | cons d0 r =>
  obtain ⟨z,hz,hm2⟩:=hs (cs:=cs) (ds:=r) hl (by simpa using hd) (fun j g hg=>by have:=hf (j+1) g (by simpa using hg);simpa using this)
  refine ⟨(y,z),⟨(cs.drop off).take (prog.cellsOf f.type),cs.drop mm,?_,hy,hz⟩,?_⟩
  ·rw [<- hm,<- List.drop_drop]
   exact (List.take_append_drop _ _).symm
  ·simp at h3;subst h3;simp only [Rows.uptoBulkAll];omega
theorem Y0 {α:Type} {R:bI α} {m:α->Nat} {t:TypeId} {fs:Array Field} {total:Nat} (hu:prog.underlying t=some (.struct fs)) (hc:prog.cellsOf t=total) (h:tu fs.toList 0 total R m):jB R m t:=by
 intro H enc W base n sp held cs x hx hl
 obtain ⟨xs,mm,_,rfl,hlen,hxs,hf⟩:=DataW.trod_struct hu hx
 have:=h (enc:=enc) (W:=W) (base:=base) (n:=mm) (sp:=sp) (held:=held) (cs:=cs) (ds:=xs.map (·.1)) (by rw [hlen,hc]) (by simp [hxs]) (fun j f hj=>by
  have hj':fs[j]?=some f:=by simpa using hj
  have h1:=hf j f hj'
  have hlt:j<xs.length:=by
   have:=(Array.getElem?_eq_some_iff.1 hj').1
   omega
  have h2:xs[j]?=some xs[j]:=List.getElem?_eq_getElem hlt
  rw [h2] at h1
  refine ⟨xs[j],h1,YR hu hl (j:=j) (by simp [hj']) (by simp [h2]),by simp [h2]⟩)
 obtain ⟨y,hy,hm⟩:=this
 refine ⟨y,by simpa using hy,?_⟩
 simp only [Rows.uptoBulk]
 omega
end Go.Proofs.YtgikfenllgldoaaGreat
namespace Go.Proofs.YtgikfenllgldoaaGreat
open Go.Proofs.Tryz
open Go.RowKit
def jP (A F:Where) (w:World) (cs:List Value) (x:bC):Prop :=
 ∃ c d,cs=c++d/\av A w c x.1/\bf (bN au 1 16) (bf jh (bf (bN aC 1 8) (bN au 1 16))) F w d x.2
theorem jP.info {A F:Where} {w:World} {cs:List Value} {x:bC} (h:jP A F w cs x):aY (fun b=>A b\/F b) w cs x:=by
 obtain ⟨c,d,e,h1,h2⟩:=h
 exact ⟨c,d,e,av.ae.weak h1 (fun _ _ h=>.inl h),(aJ.pair (bN.ae au.ae) (aJ.pair jh.ae (aJ.pair (bN.ae aC.ae) (bN.ae au.ae)))).weak h2 (fun _ _ h=>.inr h)⟩
theorem jP.kept {A F:Where} {w w':World} {cs:List Value} {x:bC} (h:jP A F w cs x) (hA:Kept A w w') (hF:Kept F w w'):jP A F w' cs x:=by
 obtain ⟨c,d,e,h1,h2⟩:=h
 exact ⟨c,d,e,av.ae.kept h1 hA,(aJ.pair (bN.ae au.ae) (aJ.pair jh.ae (aJ.pair (bN.ae aC.ae) (bN.ae au.ae)))).kept h2 hF⟩
theorem jP.on {A F:Where} {w w':World} {cs:List Value} {x:bC} (h:jP A F w cs x) (hb:Below w.heap.size w w'):jP A F w' cs x:=h.kept (Kept.below hb) (Kept.below hb)
theorem jP.one {A F:Where} {w:World} {cs:List Value} {x:bC} (h:jP A F w cs x):∀ u∈cs,u.oneCell'=true:=aY.ae.one h.info
end Go.Proofs.YtgikfenllgldoaaGreat
