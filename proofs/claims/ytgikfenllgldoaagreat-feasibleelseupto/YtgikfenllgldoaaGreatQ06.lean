/- Functions of the program, each walked under the conditions that its theorem names. -/
import Derived.Deep.MidRow
import Derived.Test.YtgikfenllgldoaaGreatQ05
set_option linter.unusedSimpArgs false
set_option maxRecDepth 100000
set_option maxHeartbeats 32000000
namespace Go.Proofs.YtgikfenllgldoaaGreat
open Go.Proofs.Tryz
open Go.RowKit
def bS (w:World) (a:Option Addr) (V:List ByteArray):Prop :=
 V.length<=140737488355328/\(∀ s∈V,s.size<=140737488355328)/\(V≠[]->∃ B off,a=some ⟨B,off,none⟩/\B<w.heap.size/\∀ i,i<V.length->w.cell? ⟨B,off+i,none⟩=some (.string (V.getD i default)))
def fw (w:World) (a:Option Addr) (L:List aG):Prop :=
 L.length<=140737488355328/\(∀ x∈L,x.1.size<=140737488355328/\x.2.size<=140737488355328)/\(L≠[]->∃ B off,a=some ⟨B,off,none⟩/\B<w.heap.size/\∀ i,i<L.length->w.cell? ⟨B,off+i*2,none⟩=some (.string (L.getD i default).1)/\w.cell? ⟨B,off+i*2+1,none⟩=some (.string (L.getD i default).2))
def xq (w:World) (a:Option Addr) (R:List Ask):Prop :=
 R.length<=140737488355328/\(∀ x∈R,x.key.size<=140737488355328)/\(R≠[]->∃ B off,a=some ⟨B,off,none⟩/\B<w.heap.size/\∀ i,i<R.length->w.cell? ⟨B,off+i*3,none⟩=some (.string (R.getD i default).key)/\w.cell? ⟨B,off+i*3+1,none⟩=some (.int .i64 (R.getD i default).op) /\
  ∃ a' cap',w.cell? ⟨B,off+i*3+2,none⟩=some (.slice a' (R.getD i default).vals.length cap')/\bS w a' (R.getD i default).vals)
theorem bS.on {w w':World} {a:Option Addr} {V:List ByteArray} (h:bS w a V) (hb:Below w.heap.size w w'):bS w' a V:=by
 obtain ⟨h1,h2,h3⟩:=h
 refine ⟨h1,h2,fun hn=>?_⟩
 obtain ⟨B,off,rfl,hB,hc⟩:=h3 hn
 exact ⟨B,off,rfl,Nat.lt_of_lt_of_le hB hb.size,fun i hi=>(hb.cell hB).trans (hc i hi)⟩
theorem fw.on {w w':World} {a:Option Addr} {L:List aG} (h:fw w a L) (hb:Below w.heap.size w w'):fw w' a L:=by
 obtain ⟨h1,h2,h3⟩:=h
 refine ⟨h1,h2,fun hn=>?_⟩
 obtain ⟨B,off,rfl,hB,hc⟩:=h3 hn
 exact ⟨B,off,rfl,Nat.lt_of_lt_of_le hB hb.size,fun i hi=>⟨(hb.cell hB).trans (hc i hi).1,(hb.cell hB).trans (hc i hi).2⟩⟩
theorem bS.get {w:World} {a:Option Addr} {V:List ByteArray} (h:bS w a V) {k:Nat} (hk:k<V.length):∃ B off,a=some ⟨B,off,none⟩/\B<w.heap.size/\w.cell? ⟨B,off+k,none⟩=some (.string (V.getD k default))/\(V.getD k default).size<=140737488355328:=by
 obtain ⟨h1,h2,h3⟩:=h
 obtain ⟨B,off,rfl,hB,hc⟩:=h3 (by intro e;rw [e] at hk;simp at hk)
 refine ⟨B,off,rfl,hB,hc k hk,h2 _ ?_⟩
 rw [List.getD_eq_getElem?_getD,List.getElem?_eq_getElem hk]
 exact List.getElem_mem hk
theorem fw.get {w:World} {a:Option Addr} {L:List aG} (h:fw w a L) {k:Nat} (hk:k<L.length):∃ B off,a=some ⟨B,off,none⟩/\B<w.heap.size/\w.cell? ⟨B,off+k*2,none⟩=some (.string (L.getD k default).1)/\w.cell? ⟨B,off+k*2+1,none⟩=some (.string (L.getD k default).2)/\(L.getD k default).1.size<=140737488355328/\(L.getD k default).2.size<=140737488355328:=by
 obtain ⟨h1,h2,h3⟩:=h
 obtain ⟨B,off,rfl,hB,hc⟩:=h3 (by intro e;rw [e] at hk;simp at hk)
 refine ⟨B,off,rfl,hB,(hc k hk).1,(hc k hk).2,h2 _ ?_⟩
 rw [List.getD_eq_getElem?_getD,List.getElem?_eq_getElem hk]
 exact List.getElem_mem hk
theorem xq.get {w:World} {a:Option Addr} {R:List Ask} (h:xq w a R) {k:Nat} (hk:k<R.length):∃ B off,a=some ⟨B,off,none⟩/\B<w.heap.size/\w.cell? ⟨B,off+k*3,none⟩=some (.string (R.getD k default).key)/\w.cell? ⟨B,off+k*3+1,none⟩=some (.int .i64 (R.getD k default).op) /\
  (∃ a' cap',w.cell? ⟨B,off+k*3+2,none⟩=some (.slice a' (R.getD k default).vals.length cap')/\bS w a' (R.getD k default).vals)/\(R.getD k default).key.size<=140737488355328:=by
 obtain ⟨h1,h2,h3⟩:=h
 obtain ⟨B,off,rfl,hB,hc⟩:=h3 (by intro e;rw [e] at hk;simp at hk)
 refine ⟨B,off,rfl,hB,(hc k hk).1,(hc k hk).2.1,(hc k hk).2.2,h2 _ ?_⟩
 rw [List.getD_eq_getElem?_getD,List.getElem?_eq_getElem hk]
 exact List.getElem_mem hk
theorem Fa {x y:jg} {b c:Bool} (h:x=y/\b=c):Ending.returned (.tuple #[.agg #[.string x.1,.string x.2.1,.int .i64 x.2.2],.bool b])=.returned (.tuple #[.agg #[.string y.1,.string y.2.1,.int .i64 y.2.2],.bool c]):=by rw [h.1,h.2]
theorem Jm {L:List jg} {B:List gN} (h:∀ j,j<L.length->qH 1 B (L.getD j default)=false):jw L B=(default,false):=by
 unfold jw;rw [Pf h]
theorem FR {L:List jg} {B:List gN} {k:Nat} (hk:k<L.length) (h:∀ j,j<k->qH 1 B (L.getD j default)=false) (hy:qH 1 B (L.getD k default)=true):jw L B=(L.getD k default,true):=by
 unfold jw;rw [J9 hk h hy]
theorem zGx (a:Option Addr) (cap:Nat) (L:List jg) (b:Option Addr) (gX:Nat) (B:List gN) (w:World) (hL:Hid (mY w a L)) (hB:Hid (kv w b B)) :
  Calls prog 130 #[.slice a L.length cap,.slice b B.length gX] w fun e w'=>e=.returned (.tuple #[.agg #[.string (jw L B).1.1,.string (jw L B).1.2.1,.int .i64 (jw L B).1.2.2],.bool (jw L B).2])/\Below w.heap.size w w':=by
 have hb0:Below w.heap.size w (w.alloc (.cells #[.string ⟨#[]⟩,.string ⟨#[]⟩,.int .i64 0] 222)):=by go_grown
 have hD:=vv.new w 222 (⟨#[]⟩,⟨#[]⟩,0)
 have hL':Hid (∀ {u:World},Below w.heap.size w u->mY u a L):=fun h=>hL.out.on h
 have hU:=zER 1 b gX B (w.alloc (.cells #[.string ⟨#[]⟩,.string ⟨#[]⟩,.int .i64 0] 222)) (hB.out.on hb0)
 clear hL hB
 go_enter func130,ntmps130
 go_wp2_with fail
 refine hU.mono ?_
 rintro e w1 ⟨lb,rfl,hP,hb1⟩
 have hI:=zEa a cap L w1 (hL'.out (ah hb0 hb1)) (qH 1 B) 192 lb Ki hP
 clear hU hP
 go_wp2_with fail
 refine hI.mono ?_
 rintro e w2 ⟨h,hb2⟩
 have hb2':=ah (ah hb0 hb1) hb2
 obtain ⟨hDl,⟨c0,c1,c2⟩,f0,f1,f2⟩:=hD.on (ah hb1 hb2)
 clear hI hb2 hb1 hb0 hD
 rcases h with ⟨i,hi,hy,hn,rfl⟩ | ⟨hn,rfl⟩
 ·have HK:Hid (jw L B=(L.getD i default,true)):=FR hi hn hy
  obtain ⟨BB,off,rfl,hBB,d0,d1,d2,_⟩:=mY.get (hL'.out hb2') hi
  have M0:Hid (BB<w.heap.size):=by
   have:=mY.get (hL'.out (Below.refl _ w)) hi
   obtain ⟨B2,aaw,e2,hB2,_⟩:=this
   obtain ⟨rfl,_⟩:BB=B2/\off=aaw:=by simpa using e2
   exact hB2
  clear hy hn hL'
  generalize L.getD i default=x at HK d0 d1 d2
  have hne:BB≠w.heap.size:=by have:=M0.out;omega
  go_wp2_with fail
  refine bodyPost_ret (v:=.tuple #[.agg #[.string x.1,.string x.2.1,.int .i64 x.2.2],.bool true]) (by simp [results,Tryz.results130,go_sem,c0,c1,c2,hDl]) rfl ⟨Fa (x:=x) (by rw [HK.out];exact ⟨rfl,rfl⟩),?_⟩
  exact ((hb2'.setCell (Nat.le_refl _) _).setCell (Nat.le_refl _) _).setCell (Nat.le_refl _) _
 ·have HK:Hid (jw L B=(default,false)):=Jm hn
  clear hn hL'
  go_wp2_with fail
  refine bodyPost_ret (v:=.tuple #[.agg #[.string ⟨#[]⟩,.string ⟨#[]⟩,.int .i64 0],.bool false]) (by simp [results,Tryz.results130,go_sem,c0,c1,c2,hDl]) rfl ⟨Fa (x:=(⟨#[]⟩,⟨#[]⟩,0)) (by rw [HK.out];exact ⟨rfl,rfl⟩),?_⟩
  exact ((hb2'.setCell (Nat.le_refl _) _).setCell (Nat.le_refl _) _).setCell (Nat.le_refl _) _
def Da:List Value:=[.string ⟨#[]⟩,.int .i64 0,.slice none 0 0,.int .i64 0,.int .i64 0,.int .i64 0,.slice none 0 0,.slice none 0 0,.slice none 0 0,.slice none 0 0,.slice none 0 0,.slice none 0 0,.slice none 0 0,.slice none 0 0,.string ⟨#[]⟩,.string ⟨#[]⟩]
def yJ:List Value:=[.string ⟨#[]⟩,.slice none 0 0,.slice none 0 0,.bool false,.int .i64 0,.int .i64 0,.int .i64 0,.int .i64 0,.int .i64 0]
def jv:List Value:=[.string ⟨#[]⟩,.int .i64 0,.string ⟨#[]⟩,.slice none 0 0,.string ⟨#[]⟩]
def Ej:List Value:=[.string ⟨#[]⟩,.int .i64 0,.string ⟨#[]⟩,.string ⟨#[]⟩]
def Ei:List Value:=[.string ⟨#[]⟩,.bool false]
def vw:List Value:=[.string ⟨#[]⟩,.slice none 0 0,.int .i64 0]
theorem LA {T:TypeId} {n:Nat} {c:List Value} (h:(prog.info? T).map (·.size)=some n) (hc:c.length=n):(prog.info? T).map (·.size)=some c.length:=by rw [hc];exact h
theorem RI:(prog.info? 41).map (·.size)=some 16:=by kernel_rfl
theorem O3:(prog.info? 56).map (·.size)=some 9:=by kernel_rfl
theorem wI:(prog.info? 59).map (·.size)=some 5:=by kernel_rfl
theorem Eo:(prog.info? 124).map (·.size)=some 4:=by kernel_rfl
theorem Js:(prog.info? 180).map (·.size)=some 2:=by kernel_rfl
theorem FW:(prog.info? 62).map (·.size)=some 3:=by kernel_rfl
theorem oN:(prog.info? 29).map (·.size)=some 6:=by kernel_rfl
theorem fP {c:Prop} [Decidable c] {A B:Prop} (h:c) (k:A):if c then A else B:=by rw [if_pos h];exact k
end Go.Proofs.YtgikfenllgldoaaGreat
namespace Go.Proofs.YtgikfenllgldoaaGreat
open Go.Proofs.Tryz
open Go.ChangeShapes Go.WideShapes Go.ChangeAt Go.RowKit
theorem zGA:bY ak 228:=rA (total:=2) underlying228 (by kernel_rfl) (iV (m:=1) rfl (by kernel_rfl) kG (rC rfl (by kernel_rfl) kG))
theorem zGC:bY (bN au 1 16) 39:=uj au.ae underlying39 (by kernel_rfl) (by kernel_rfl) (by decide) kG
theorem Fz:bY aU 103:=rA (total:=3) underlying103 (by kernel_rfl) (iV (m:=1) rfl (by kernel_rfl) kG (iV (m:=2) rfl (by kernel_rfl) oP (rC rfl (by kernel_rfl) zGC)))
theorem XI:bY jh 32:=rA (total:=3) underlying32 (by kernel_rfl) (iV (m:=1) rfl (by kernel_rfl) oP (iV (m:=2) rfl (by kernel_rfl) oP (rC rfl (by kernel_rfl) oP)))
theorem zGB:bY dH 222:=rA (total:=3) underlying222 (by kernel_rfl) (iV (m:=1) rfl (by kernel_rfl) kG (iV (m:=2) rfl (by kernel_rfl) kG (rC rfl (by kernel_rfl) oP)))
theorem zHV:bY eY 299:=rA (total:=4) underlying299 (by kernel_rfl) (iV (m:=1) rfl (by kernel_rfl) kG (iV (m:=2) rfl (by kernel_rfl) kG (iV (m:=3) rfl (by kernel_rfl) Qi (rC rfl (by kernel_rfl) oP))))
theorem Bi:bY (bN aU 3 48) 34:=uj aU.ae underlying34 (by kernel_rfl) (by kernel_rfl) (by decide) Fz
theorem zHX:bY bT 105:=rA (total:=2) underlying105 (by kernel_rfl) (iV (m:=1) rfl (by kernel_rfl) Bi (rC rfl (by kernel_rfl) kG))
theorem zFC:bY dA 84:=rA (total:=2) underlying84 (by kernel_rfl) (iV (m:=1) rfl (by kernel_rfl) Bi (rC rfl (by kernel_rfl) oP))
theorem zFE:bY cK 88:=rA (total:=4) underlying88 (by kernel_rfl) (iV (m:=1) rfl (by kernel_rfl) kG (iV (m:=2) rfl (by kernel_rfl) oP (iV (m:=3) rfl (by kernel_rfl) oP (rC rfl (by kernel_rfl) Bi))))
theorem YZ:bY (bN ak 2 32) 30:=uj ak.ae underlying30 (by kernel_rfl) (by kernel_rfl) (by decide) zGA
theorem zFG:bY (bN eY 4 48) 33:=uj eY.ae underlying33 (by kernel_rfl) (by kernel_rfl) (by decide) zHV
theorem zDF:bY (bN dA 2 32) 35:=uj dA.ae underlying35 (by kernel_rfl) (by kernel_rfl) (by decide) zFC
theorem zDG:bY (bN cK 4 56) 38:=uj cK.ae underlying38 (by kernel_rfl) (by kernel_rfl) (by decide) zFE
theorem zEI:bY (bN dH 3 40) 54:=uj dH.ae underlying54 (by kernel_rfl) (by kernel_rfl) (by decide) zGB
theorem zHW:bY av 56:=rA (total:=9) underlying56 (by kernel_rfl) (iV (m:=1) rfl (by kernel_rfl) kG (iV (m:=2) rfl (by kernel_rfl) YZ (iV (m:=3) rfl (by kernel_rfl) zEI (iV (m:=4) rfl (by kernel_rfl) Qi (iV (m:=7) rfl (by kernel_rfl) XI (iV (m:=8) rfl (by kernel_rfl) oP (rC rfl (by kernel_rfl) oP)))))))
theorem zFF:bY ai 59:=rA (total:=5) underlying59 (by kernel_rfl) (iV (m:=1) rfl (by kernel_rfl) kG (iV (m:=2) rfl (by kernel_rfl) oP (iV (m:=3) rfl (by kernel_rfl) kG (iV (m:=4) rfl (by kernel_rfl) Bi (rC rfl (by kernel_rfl) kG)))))
theorem zG8:bY aA 124:=rA (total:=4) underlying124 (by kernel_rfl) (iV (m:=1) rfl (by kernel_rfl) kG (iV (m:=2) rfl (by kernel_rfl) oP (iV (m:=3) rfl (by kernel_rfl) kG (rC rfl (by kernel_rfl) kG))))
theorem zG9:bY aH 180:=rA (total:=2) underlying180 (by kernel_rfl) (iV (m:=1) rfl (by kernel_rfl) kG (rC rfl (by kernel_rfl) Qi))
theorem zFB:bY aI 62:=rA (total:=3) underlying62 (by kernel_rfl) (iV (m:=1) rfl (by kernel_rfl) kG (iV (m:=2) rfl (by kernel_rfl) Bi (rC rfl (by kernel_rfl) oP)))
theorem zDH:bY (bN ai 5 80) 24:=uj ai.ae underlying24 (by kernel_rfl) (by kernel_rfl) (by decide) zFF
theorem zEG:bY (bN aA 4 56) 25:=uj aA.ae underlying25 (by kernel_rfl) (by kernel_rfl) (by decide) zG8
theorem zEH:bY (bN aH 2 24) 26:=uj aH.ae underlying26 (by kernel_rfl) (by kernel_rfl) (by decide) zG9
theorem zDE:bY (bN aI 3 48) 27:=uj aI.ae underlying27 (by kernel_rfl) (by kernel_rfl) (by decide) zFB
end Go.Proofs.YtgikfenllgldoaaGreat
namespace Go.Proofs.YtgikfenllgldoaaGreat
open Go.Proofs.Tryz
open Go.RowKit
theorem zH2 {w u:World} (h:Below w.heap.size w u) {p:Addr} (hp:p.block<w.heap.size) (x:Value):Below (w.setCell p x).heap.size (w.setCell p x) (u.setCell p x):=by
 refine ⟨h.os,h.tape,h.output,by simpa using h.size,fun k hk=>?_⟩
 have hk':k<w.heap.size:=by simpa using hk
 by_cases e:k=p.block
 ·subst e
  have:=h.block p.block hp
  simp only [World.setCell,Array.getElem?_modify,if_true]
  rw [this]
 ·rw [Below.heap_setCell _ _ _ _ e,Below.heap_setCell _ _ _ _ e]
  exact h.block k hk'
section
variable {α:Type} [Inhabited α] {R:bI α} {k:Nat}
theorem Row.both (hR:aJ R k) {A:Where} {w u:World} {e:TypeId} {v:Value} {L:List α} (h:Row R k A w u e v L) {p:Addr} (hp:p.block<w.heap.size) (hA:¬ A p.block) (x:Value):Row R k A (w.setCell p x) (u.setCell p x) e v L:=by
 obtain ⟨xs,h1,h2⟩:=h
 refine ⟨xs,⟨zH2 h1.1 hp x,?_⟩,h2.kept hR (Kept.set (fun h=>hA h.1) _)⟩
 have:=ownsRow_setCell_below h1.2 hp x
 simpa using this
theorem az.setCell (w:World) (p:Addr) (x:Value):az (w.setCell p x)=az w:=by funext b;simp [az]
theorem Row.vE (hR:aJ R k) {w u:World} {e:TypeId} {v:Value} {L:List α} (h:Row R k (az w) w u e v L) {p:Addr} (hp:p.block<w.heap.size) (x:Value):Row R k (az (w.setCell p x)) (w.setCell p x) (u.setCell p x) e v L:=by
 rw [az.setCell];exact h.both hR hp (az.not hp) x
def Src (R:bI α) (k:Nat) (A:Where) (u:World) (a:Option Addr) (m:Nat) (N:List α):Prop :=
 N.length=m/\((a=none/\N=[])\/∃ ad xs,a=some ad/\aW R k A u xs N/\(∀ j y,xs[j]?=some y->u.cell? (ad.add j)=some y)/\∀ y∈xs,y.oneCell'=true)
theorem ag.src (hR:aJ R k) {bytes:Nat} {A:Where} {u:World} {a:Option Addr} {m c:Nat} {N:List α} (h:ag R k bytes A u a m c N):Src R k A u a m N:=by
 cases a with
 | none=>obtain ⟨_,_,h3⟩:=Ef h;exact ⟨h.1,.inl ⟨rfl,h3⟩⟩
 | some ad=>obtain ⟨xs,h1,h2,h3⟩:=h.chunks hR;exact ⟨h.1,.inr ⟨ad,xs,rfl,h1,h2,h3⟩⟩
theorem Src.flat (hF:Flat R) {A A':Where} {u:World} {a:Option Addr} {m:Nat} {N:List α} (h:Src R k A u a m N):Src R k A' u a m N:=by
 obtain ⟨h1,h2⟩:=h
 refine ⟨h1,?_⟩
 rcases h2 with h2 | ⟨ad,xs,e,h3,h4,h5⟩
 ·exact .inl h2
 ·exact .inr ⟨ad,xs,e,h3.flat hF,h4,h5⟩
theorem zDL (hR:aJ R k) {o:Oper} {a:Act} {K:Act->World->Prop} {Q:Exit->Act->World->Prop} {A:Where} {w0 u:World} (s x:Operand) (t e:TypeId)
  (ho:o.op=.call { callee:=.builtin .append,args:=#[s,x],argTypes:=#[t,t] }) (z:Value) (bytes:Nat) (hinfo:(prog.info? e).map (fun i=>(i.zero,i.size,i.bytes))=some (some z,k,bytes)) (ht:prog.underlying t=some (.slice e)) (hzs:z.cells.size=k) (hk0:0<k) (hby:1<=bytes)
  (v:Value) (L:List α) (hs:a.eval s=v) (hrow:Row R k A w0 u e v L)
  (ad:Option Addr) (m c:Nat) (N:List α) (hx:a.eval x=.slice ad m c) (hN:Src R k (fun b=>A b/\v.ownBlock≠some b) u ad m N) (hb:(L.length+N.length)*bytes<=140737488355328)
  (h:∀ v' u',Row R k A w0 u' e v' (L++N)->u.grownBy u' v.ownBlock->K (a.put o.dst v') u'):o.wp prog a u K Q:=by
 obtain ⟨hm,hN⟩:=hN
 rcases hN with ⟨rfl,rfl⟩ | ⟨ad,xs,rfl,h1,h2,h3⟩
 ·obtain rfl:m=0:=by simpa using hm.symm
  obtain ⟨i0,hi,hz0,hz1,hz2⟩:=info_parts hinfo
  have hr:∀ ty,(Builtin.append_ #[t,t] ty #[v,.slice none 0 c]).run prog u=.ok v u:=by
   intro ty
   obtain ⟨xs,hown,_⟩:=hrow
   rcases hown.2.2 with ⟨rfl,_⟩ | ⟨g,cap,cur,rfl,_,hg,hnc,_⟩
   ·simp [Builtin.append_,run_underlying ht,sizeOf,typeInfo,hi,Builtin.lenOf,Builtin.firstCells,loadCells,loadCellsFrom]
   ·simp [Builtin.append_,run_underlying ht,sizeOf,typeInfo,hi,Builtin.lenOf,Builtin.firstCells,loadCells,loadCellsFrom,hnc,storeCells]
  unfold Oper.wp execOp
  simp only [ho,resolve,invoke,builtin,Sem.run_bind,Sem.run_pure,Result.andThen_ok,List.map_toArray,List.map_cons,List.map_nil,hs,hx,hr]
  exact h v u (by simpa using hrow) ⟨rfl,rfl,rfl,Nat.le_refl _,fun _ _ _=>rfl⟩
 ·exact xO hR s x t e ho z bytes hinfo ht hzs hk0 hby v L hs hrow ad m c xs N hm hx h1 h2 h3 hb h
theorem Qm (hR:aJ R k) {ops:Array Oper} {rest:List Oper} {o:Oper} {a:Act} {Q:Exit->Act->World->Prop} {A:Where} {w0 u:World} (hgd:Region.wanted o (yielded ops a.tmps)=true) (s x:Operand) (t e:TypeId)
  (ho:o.op=.call { callee:=.builtin .append,args:=#[s,x],argTypes:=#[t,t] }) (z:Value) (bytes:Nat) (hinfo:(prog.info? e).map (fun i=>(i.zero,i.size,i.bytes))=some (some z,k,bytes)) (ht:prog.underlying t=some (.slice e)) (hzs:z.cells.size=k) (hk0:0<k) (hby:1<=bytes)
  (v:Value) (L:List α) (hs:a.eval s=v) (hrow:Row R k A w0 u e v L)
  (ad:Option Addr) (m c:Nat) (N:List α) (hx:a.eval x=.slice ad m c) (hN:Src R k (fun b=>A b/\v.ownBlock≠some b) u ad m N) (hb:(L.length+N.length)*bytes<=140737488355328)
  (h:∀ v' u',Row R k A w0 u' e v' (L++N)->u.grownBy u' v.ownBlock->wpList prog ops Q rest (a.put o.dst v') u'):wpList prog ops Q (o :: rest) a u :=
 BigFrame.wpList_want hgd (fun _ hK=>zDL hR s x t e ho z bytes hinfo ht hzs hk0 hby v L hs hrow ad m c N hx hN hb (fun v' u' h2 h3=>hK _ _ (h v' u' h2 h3)))
end
theorem af.range {u:World} {D:Nat} {cs:List Value} (h:af u D cs):u.rangeAt D 0 cs:=fun j v hj=>by rw [Nat.zero_add];exact (h.2 j v hj).1
theorem af.there {u:World} {D:Nat} {cs:List Value} (h:af u D cs):u.there D 0 cs.length:=fun j hj=>by
 have:=h.2 j cs[j] (List.getElem?_eq_getElem hj)
 rw [Nat.zero_add,this.1,this.2]
 exact ⟨rfl,rfl⟩
def dE (W:World) (G:World->Prop):Prop:=∀ u u',G u->Kept (az W) u u'->G u'
theorem dE.none (W:World):dE W (fun _=>True):=fun _ _ _ _=>trivial
theorem dE.add {α:Type} [Inhabited α] {R:bI α} {k bytes:Nat} {W u:World} {G:World->Prop} (hG:dE W G) (hg:G u) (hR:aJ R k) {a:Option Addr} {n c:Nat} {L:List α} (hs:ag R k bytes (az W) u a n c L) :
  ∃ G',dE W G'/\G' u/\(∀ v,G' v->G v)/\∀ v,G' v->ag R k bytes (az W) v a n c L :=
 ⟨fun v=>G v/\ag R k bytes (az W) v a n c L,fun _ _ h k=>⟨hG _ _ h.1 k,h.2.kept hR k⟩,⟨hg,hs⟩,fun _ h=>h.1,fun _ h=>h.2⟩
theorem O4:(prog.info? 103).map (fun i=>(i.zero,i.size,i.bytes))=some (some (.agg #[.string ⟨#[]⟩,.int .i64 0,.slice none 0 0]),3,48):=by kernel_rfl
theorem Row.apart {α:Type} [Inhabited α] {R:bI α} {k:Nat} {A:Where} {w0 u u':World} {e:TypeId} {v:Value} {L:List α} (h:Row R k A w0 u e v L) (hs:u.heap.size<=u'.heap.size):∀ b,az u' b->az w0 b/\v.ownBlock≠some b:=by
 obtain ⟨xs,h1,_⟩:=h
 intro b hb
 have hb':u'.heap.size<=b:=hb
 have:=h1.1.size
 refine ⟨show w0.heap.size<=b by omega,fun e=>?_⟩
 have:=(h1.2.lt b e).2
 omega
theorem nH {α:Type} [Inhabited α] {L:List α} {k:Nat} (hk:k<L.length):L.take k++[L.getD k default]=L.take (k+1):=(take_succ hk).symm
theorem qC {n k bytes:Nat} (h:n*bytes<=140737488351232) (hk:k<n):(k+1)*bytes<=140737488355328:=by
 have:(k+1)*bytes<=n*bytes:=Nat.mul_le_mul_right _ hk
 omega
theorem Bf (a:Option Addr) (n cap:Nat) (A:Where) (L:List Ask) (w:World) (hL:Hid (ag aU 3 48 A w a n cap L)):Calls prog 24 #[.slice a n cap] w fun e w'=>∃ a' cap',e=.returned (.slice a' n cap')/\ag aU 3 48 (az w) w' a' n cap' L/\Below w.heap.size w w':=by
 have hlen:=hL.out.len (by decide)
 have hn:Hid (L.length=n):=hL.out.1
 have hbb:Hid (n*48<=140737488351232):=hL.out.2.2.2.1
 have jq:Hid (Row aU 3 (az w) w (w.alloc (.cells #[] 103)) 103 (.slice (some ⟨w.heap.size,0,none⟩) 0 0) (L.take 0)):=Row.start _ w w _ (Below.refl _ _)
 go_enter func24,ntmps24
 go_wp2_with fail
 go_loopw [3,4] (fun s i wr=>∃ k:Nat,k<=n/\i=.int .i64 k/\Hid (Row aU 3 (az w) w wr 103 s (L.take k))) (fun _ i _=>n - (intOf i).toNat)
 case atStart=>exact ⟨0,Nat.zero_le _,rfl,jq⟩
 case round =>
  obtain ⟨k,hk,rfl,hrow⟩:=hrel
  by_cases hlt:k<n
  ·have hltz:(k:Int)<(n:Int):=by omega
   have hkl:Hid (k<L.length):=by rw [Hid,hn.out];exact hlt
   obtain ⟨B,off,rfl,hB,iL,cs,hr,hv⟩:=(hL.out.on aU.ae hrow.out.below).get hlt
   obtain ⟨h2,rfl,hs,hT⟩:=hr.out
   have d0:=hv 0 _ rfl
   have d1:=hv 1 _ rfl
   have d2:=hv 2 _ rfl
   rw [Nat.add_zero] at d0
   have HT:Hid (L.take k++[L.getD k default]=L.take (k+1)):=nH hkl.out
   have hbw:Below wr.heap.size wr (wr.alloc (.cells #[.string (L.getD k default).1,.int .i64 (L.getD k default).2.1,.slice h2.1 h2.2.1 h2.2.2] 103)):=by go_grown
   have hTx:=Yp h2.1 h2.2.1 h2.2.2 A (L.getD k default).2.2 (wr.alloc (.cells #[.string (L.getD k default).1,.int .i64 (L.getD k default).2.1,.slice h2.1 h2.2.1 h2.2.2] 103)) (hT.on au.ae hbw)
   clear hr hT hv iL
   generalize L.getD k default=x at d0 d1 d2 hs HT hbw hTx
   go_wp2_with fail
   refine hTx.mono ?_
   rintro e w2 ⟨a2,c2,rfl,hS2,hb2⟩
   clear hTx
   have hD:wr.heap.size<(wr.alloc (.cells #[.string x.1,.int .i64 x.2.1,.slice h2.1 h2.2.1 h2.2.2] 103)).heap.size:=by simp
   have q0:w2.cell? ⟨wr.heap.size,0,none⟩=some (.string x.1):=(hb2.cell hD).trans (by simp [go_sem])
   have q1:w2.cell? ⟨wr.heap.size,1,none⟩=some (.int .i64 x.2.1):=(hb2.cell hD).trans (by simp [go_sem])
   have q2:w2.cell? ⟨wr.heap.size,2,none⟩=some (.slice h2.1 h2.2.1 h2.2.2):=(hb2.cell hD).trans (by simp [go_sem])
   have f2:w2.frozen? ⟨wr.heap.size,2,none⟩=false:=(hb2.frozen hD).trans (by simp [go_sem])
   have hb3:Below wr.heap.size wr ((w2.setCell ⟨wr.heap.size,2,none⟩ (.slice a2 h2.2.1 c2)).alloc (.cells #[.string x.1,.int .i64 x.2.1,.slice a2 h2.2.1 c2] 103)):=(((hbw.trans (hb2.mono (by simp))).setCell (Nat.le_refl _) _).alloc (by have:=hb2.size;simp at this |-;omega) _)
   have HR3:=hrow.out.on aU.ae hb3
   have HE:aU (fun b=>az w b/\Value.ownBlock u3≠some b) ((w2.setCell ⟨wr.heap.size,2,none⟩ (.slice a2 h2.2.1 c2)).alloc (.cells #[.string x.1,.int .i64 x.2.1,.slice a2 h2.2.1 c2] 103)) [.string x.1,.int .i64 x.2.1,.slice a2 h2.2.1 c2] x:=by
    refine aU.mk (h2:=(a2,h2.2.1,c2)) hs (((hS2.kept au.ae (Kept.set (az.not hD) _)).kept au.ae (Kept.alloc _ _ _)).weak au.ae (fun b _ hb=>hrow.out.apart (u':=wr.alloc (.cells #[.string x.1,.int .i64 x.2.1,.slice h2.1 h2.2.1 h2.2.2] 103)) (by simp) b hb))
   have HC:Hid (aW aU 3 (fun b=>az w b/\Value.ownBlock u3≠some b) ((w2.setCell ⟨wr.heap.size,2,none⟩ (.slice a2 h2.2.1 c2)).alloc (.cells #[.string x.1,.int .i64 x.2.1,.slice a2 h2.2.1 c2] 103)) [.string x.1,.int .i64 x.2.1,.slice a2 h2.2.1 c2] [x]):=nJ aU.ae HE
   have HX:Hid (∀ j y,[Value.string x.1,.int .i64 x.2.1,.slice a2 h2.2.1 c2][j]?=some y->((w2.setCell ⟨wr.heap.size,2,none⟩ (.slice a2 h2.2.1 c2)).alloc (.cells #[.string x.1,.int .i64 x.2.1,.slice a2 h2.2.1 c2] 103)).cell? ((⟨w2.heap.size,0,none⟩:Addr).add j)=some y):=by
    have:=nY (w2.setCell ⟨wr.heap.size,2,none⟩ (.slice a2 h2.2.1 c2)) [.string x.1,.int .i64 x.2.1,.slice a2 h2.2.1 c2] 103
    unfold Hid
    simpa using this
   have abR:Hid (Row aU 3 (az w) w ((w2.setCell ⟨wr.heap.size,2,none⟩ (.slice a2 h2.2.1 c2)).alloc (.cells #[.string x.1,.int .i64 x.2.1,.slice a2 h2.2.1 c2] 103)) 103 u3 (L.take k)):=HR3
   have gU:Hid (((L.take k).length+[x].length)*48<=140737488355328):=by
    have:=qC hbb.out hlt
    rw [Hid,List.length_take,hn.out,List.length_singleton,Nat.min_eq_left (by omega)]
    exact this
   clear HR3 HE hbw hb3 hS2 hrow
   go_wp2_with (at_builtin;go_must (refine mh aU.ae (A:=az w) (w0:=w) rfl _ _ 34 103 rfl _ 48 O4 underlying34 rfl (by decide) (by decide) u3 (L.take k) rfl abR.out ⟨w2.heap.size,0,none⟩ 1 1 _ [x] rfl rfl HC.out HX.out (by simp [Value.oneCell']) gU.out ?_);intro v4 w4 hrow4 hg4)
   rw [HT.out] at hrow4
   go_roundw
   case rel=>exact ⟨k+1,by omega,by go_num,hrow4⟩
   case measure=>simp [intOf];omega
  ·have hk':L.take k=L:=List.take_of_length_le (by rw [hn.out];omega)
   obtain ⟨a',cap',e1,h2⟩:=hrow.out.lD (bytes:=48) aU.ae (by rw [hk',hn.out];exact hbb.out)
   rw [hk',hn.out] at e1 h2
   have ou:=hrow.out.below
   have h2':Hid (ag aU 3 48 (az w) wr a' n cap' L):=h2
   clear h2 hrow
   subst e1
   go_wp2_with fail
   go_ret
   exact ⟨a',cap',rfl,h2'.out,ou⟩
theorem XH {α:Type} [Inhabited α] {R:bI α} {enc:α->List Value} {k bytes:Nat} {ok:α->Prop} (hR:∀ {A w cs x},R A w cs x->cs=enc x/\ok x) (hb:1<=bytes) {A:Where} {w:World} {a:Option Addr} {n cap:Nat} {L:List α} (h:ag R k bytes A w a n cap L):nU enc k ok w a L:=by
 have hl:=h.len hb
 obtain ⟨hn,h2,h3,h4,h5⟩:=h
 have each:∀ i,i<n->ok (L.getD i default):=fun i hi=>by
  obtain ⟨B,off,_,_,_,hc⟩:=h5 (by omega)
  obtain ⟨cs,hr,_⟩:=hc i hi
  exact (hR hr).2
 refine ⟨by omega,fun x hx=>?_,fun hne=>?_⟩
 ·obtain ⟨i,hi,rfl⟩:=List.mem_iff_getElem.1 hx
  have:=each i (by omega)
  rwa [gK _ _ hi] at this
 ·have hpos:0<n:=by
   rcases Nat.eq_zero_or_pos n with h0 | h0
   ·exact absurd (List.length_eq_zero_iff.1 (by omega)) hne
   ·exact h0
  obtain ⟨B,off,e,hB,_,hc⟩:=h5 hpos
  refine ⟨B,off,e,hB,fun i hi j v hj=>?_⟩
  obtain ⟨cs,hr,hv⟩:=hc i (by omega)
  rw [<- (hR hr).1] at hj
  exact hv j v hj
theorem OD {A:Where} {w:World} {a:Option Addr} {n cap:Nat} {L:List jg} (h:ag dH 3 40 A w a n cap L):mY w a L :=
 XH (fun hr=>by obtain ⟨rfl,h1,h2⟩:=dH.out hr;exact ⟨rfl,h1,h2⟩) (by decide) h
theorem K7 {A:Where} {w:World} {a:Option Addr} {n cap:Nat} {L:List gN} (h:ag eY 4 48 A w a n cap L):kv w a L :=
 XH (fun hr=>by obtain ⟨rfl,h1,h2⟩:=eY.out hr;exact ⟨rfl,h1,h2⟩) (by decide) h
theorem zCp (a:Option Addr) (cap:Nat) (V:List ByteArray) (w:World) (hV:Hid (bS w a V)):Calls prog 222 #[.slice a V.length cap] w fun e w'=>e=.returned (.bool (decide (V.length=1) && dm (V.getD 0 default)))/\w'=w:=by
 by_cases h1:(V.length:Int)=1
 ·have h1':((V.length:Int) == 1)=true:=beq_iff_eq.2 h1
  obtain ⟨B,off,rfl,hB,hc,hs⟩:=hV.out.get (k:=0) (by omega)
  have hin:=Y9 (V.getD 0 default)
  have HF:Hid ((decide (V.length=1) && dm (V.getD 0 default))=dm (V.getD 0 default)):=by simp [Hid,show V.length=1 by omega]
  rw [Nat.add_zero] at hc
  generalize V.getD 0 default=s at hin hc hs HF
  generalize dm s=b at hin HF
  go_enter func222,ntmps222
  go_wp2_with (go_at_call 221;refine (hin _).mono ?_;rintro e w' ⟨rfl,rfl⟩)
  go_ret
  exact ⟨lC HF.out.symm,rfl⟩
 ·have h1':((V.length:Int) == 1)=false:=beq_eq_false_iff_ne.2 h1
  have HF:Hid ((decide (V.length=1) && dm (V.getD 0 default))=false):=by simp [Hid];omega
  go_enter func222,ntmps222
  go_wp2
  go_ret
  exact ⟨lC HF.out.symm,rfl⟩
end Go.Proofs.YtgikfenllgldoaaGreat
