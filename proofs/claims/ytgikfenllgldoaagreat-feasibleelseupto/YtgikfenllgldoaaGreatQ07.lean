/- Functions of the program, each walked under the conditions that its theorem names. -/
import Derived.DeepKeys4
import Derived.Maps.Range
import Derived.Laws.StructEq
import Derived.Test.YtgikfenllgldoaaGreatQ06
set_option linter.unusedSimpArgs false
set_option maxRecDepth 100000
set_option maxHeartbeats 32000000
namespace Go.Proofs.YtgikfenllgldoaaGreat
open Go.Proofs.Tryz
open Go.RowKit Go.Maps
theorem Xi:laidOutB prog=true:=by kernel_rfl
theorem zh:(228:TypeId)<prog.types.size:=of_decide_eq_true (by kernel_rfl)
theorem Bt:(match prog.underlying 228 with | some (.array _ _) | some (.struct _)=>true | _=>false)=true:=by kernel_rfl
theorem oM:Keyed prog 228:=Keyed.of_law (deep_law_laid Xi (m:=2) (by omega) zh (by kernel_rfl) Bt)
theorem zHR:prog.keyType 228=true:=by kernel_rfl
theorem KF:prog.cellsOf 228=2:=by kernel_rfl
theorem KE:prog.cellsOf 9=1:=by kernel_rfl
def kL (d:aG):Lit:=.string (keyBytes [.string d.1.data.toList,.string d.2.data.toList])
theorem FQ {P:Program} {k s:TypeId} {fs:Array Field} {f0 f1:Field} (hk:P.underlying k=some (.struct fs)) (hfs:fs=#[f0,f1]) (hs:P.underlying s=some .string) (hkt:P.keyType k=true) (hc:P.cellsOf k=2) (hcs:P.cellsOf s=1)
  (hn:fs.all (fun f=>f.name != "_")=true) (ht0:f0.type=s) (ht1:f1.type=s) (ho0:f0.offset=0) (ho1:f1.offset=1) (hrow:k<P.types.size) {d:aG} (h1:d.1.size<=maxLen) (h2:d.2.size<=maxLen) :
  keyOf P k (.agg #[.string d.1,.string d.2])=some (kL d):=by
 obtain ⟨m,hm⟩:∃ m,P.types.size+1=m+2:=⟨P.types.size - 1,by have h0:0<P.types.size:=Nat.lt_of_le_of_lt (Nat.zero_le k) hrow;omega⟩
 have hf:(Value.agg #[.string d.1,.string d.2]).formed P k=true:=by simp [Value.formed,hk,hc]
 have hl:P.keyLits (m+2) k [.string d.1,.string d.2]=some [.string d.1.data.toList,.string d.2.data.toList]:=by
  unfold Program.keyLits
  rw [hk]
  simp only [hc,hn,List.length_cons,List.length_nil,and_self,if_true]
  subst hfs
  simp [ht0,ht1,ho0,ho1,hcs,Program.keyLits,hs,h1,h2]
 unfold keyOf
 rw [hk]
 simp only [hkt,hf,Bool.and_self,if_true,hm]
 have hcl:(Value.agg #[.string d.1,.string d.2]).cells.toList=[.string d.1,.string d.2]:=rfl
 rw [hcl,hl]
 rfl
theorem Qa:(140737488355328:Nat)<=maxLen:=by decide
theorem AV {d:aG} (h:iY d):keyOf prog 228 (.agg #[.string d.1,.string d.2])=some (kL d) :=
 FQ underlying228 rfl underlying9 zHR KF KE (by kernel_rfl) rfl rfl rfl rfl zh (Nat.le_trans h.1 Qa) (Nat.le_trans h.2 Qa)
theorem Dp (d:aG):WideAt.IsKeyLit (kL d):=by unfold kL;trivial
theorem FV {d e:aG} (hd:iY d) (he:iY e) (h:kL d=kL e):d=e:=by
 have h1:=oM.inj (AV hd) (h ▸ AV he)
 simp only [Value.agg.injEq,Array.mk.injEq,List.cons.injEq,Value.string.injEq,and_true] at h1
 exact Prod.ext h1.1 h1.2
theorem yT (w:World):(zeroValue 3).run prog w=.ok (.int .i64 0) w:=by kernel_rfl
def ng (D:DataW Unit) (f:aG->Int):Prop :=
 (∀ d,iY d->Maps.has D (kL d)=decide (f d≠0)/\D.atKey (kL d) (.lit (.int .i64 0))=.lit (.int .i64 (f d)))/\∀ k,Maps.has D k=true->∃ d,iY d/\kL d=k
def bF (w:World) (mb n:Nat) (f:aG->Int):Prop :=
 ∃ D:DataW Unit,w.ownsMap prog 228 (plainElem prog 3) mb n D/\ng D f/\∀ d,-(n:Int)<=f d/\f d<=n
theorem bF.lt {w:World} {mb n:Nat} {f:aG->Int} (h:bF w mb n f):mb<w.heap.size:=by
 obtain ⟨D,h1,_⟩:=h
 exact h1.lt
theorem bF.same {w w':World} {mb n:Nat} {f:aG->Int} (h:bF w mb n f) (hb:w'.heap[mb]?=w.heap[mb]?):bF w' mb n f:=by
 obtain ⟨D,⟨es,ck,h1,h2⟩,h3⟩:=h
 exact ⟨D,⟨es,ck,hb.trans h1,h2⟩,h3⟩
theorem bF.on {w w':World} {mb n:Nat} {f:aG->Int} (h:bF w mb n f) (hb:Below w.heap.size w w'):bF w' mb n f:=h.same (hb.block mb h.lt)
theorem bF.turned {w w':World} {mb n:Nat} {f:aG->Int} {F:Where} (h:bF w mb n f) (ht:bq F w w') (hF:¬ F mb):bF w' mb n f:=h.same (ht.block mb h.lt hF)
theorem bF.made (w:World):bF (w.alloc (.map #[] 0)) w.heap.size 0 (fun _=>0) :=
 ⟨.map [],World.ownsMap_made _ _ _ _,⟨fun _ _=>⟨rfl,rfl⟩,fun _ h=>(by cases h)⟩,fun _=>(by simp)⟩
theorem bF.mono {w:World} {mb n n':Nat} {f:aG->Int} (h:bF w mb n f) (hn:n<=n'):bF w mb n' f:=by
 obtain ⟨D,h1,h2,h4⟩:=h
 exact ⟨D,h1.mono hn,h2,fun d=>by have:=h4 d;omega⟩
theorem bF.as {w:World} {mb n:Nat} {f g:aG->Int} (h:bF w mb n f) (e:∀ d,f d=g d):bF w mb n g:=by
 obtain rfl:f=g:=funext e
 exact h
theorem bF.le {w:World} {mb n:Nat} {f:aG->Int} (h:bF w mb n f) (d:aG):-(n:Int)<=f d/\f d<=n:=by
 obtain ⟨D,_,_,h4⟩:=h
 exact h4 d
theorem bF.look {w:World} {mb n:Nat} {f:aG->Int} (h:bF w mb n f) (t:TypeId) (ht:prog.underlying t=some (.map 228 3)) {d:aG} (hd:iY d) :
  (Instr.lookup t (.map (some mb)) (.agg #[.string d.1,.string d.2]) false).run prog w=.ok (.int .i64 (f d)) w:=by
 obtain ⟨D,h1,⟨h2,_⟩,_⟩:=h
 obtain ⟨c,hrun,hat,_⟩:=h1.lookup_int oM ht underlying3 (yT w) (AV hd)
 rw [(h2 d hd).2] at hat
 obtain rfl:f d=c:=by simpa using hat
 exact hrun
theorem bF.len {w:World} {mb n:Nat} {f:aG->Int} (h:bF w mb n f) (t:TypeId) (ht:prog.underlying t=some (.map 228 3)) :
  ∃ c:Int,(∀ ty,(Builtin.len_ #[t] ty #[.map (some mb)]).run prog w=.ok (.int .i64 c) w)/\(c=0↔∀ d,iY d->f d=0):=by
 obtain ⟨D,h1,⟨h2,h3⟩,_⟩:=h
 refine ⟨Maps.size D,fun ty=>h1.len ht ty,?_⟩
 constructor
 ·intro hc d hd
  have h4:=(h2 d hd).1
  obtain ⟨es,rfl⟩:=h1.isMap
  have:es=[]:=by
   rw [size_eq] at hc
   exact List.length_eq_zero_iff.1 (by omega)
  subst this
  have h5:Maps.has (DataW.map []:DataW Unit) (kL d)=false:=rfl
  rw [h5] at h4
  by_cases e:f d=0
  ·exact e
  ·simp [e] at h4
 ·intro hf
  obtain ⟨es,rfl⟩:=h1.isMap
  rw [size_eq]
  cases es with
  | nil=>rfl
  | cons p es =>
   exfalso
   obtain ⟨es0,ck,_,F,_,he⟩:=h1
   have hk:∃ v,keyOf prog 228 v=some p.1:=by
    have hkeys:=fit_keys F
    have hm:p∈(es0.toList.map (WideElems.rg prog 228 (plainElem prog 3))).foldr DataW.insert []:=by
     have:DataW.map (p :: es)=DataW.map ((es0.toList.map (WideElems.rg prog 228 (plainElem prog 3))).foldr DataW.insert []):=he
     injection this with this
     rw [<- this];simp
    exact hkeys p (mem_sorted.1 hm)
   obtain ⟨v,hv⟩:=hk
   have hh:Maps.has (DataW.map (p :: es):DataW Unit) p.1=true:=by
    rw [has_eq,List.any_cons]
    have:p.1.sameKey p.1=true:=WideAt.sameKey_self (oM.key hv)
    rw [this];rfl
   obtain ⟨d,hd,hdk⟩:=h3 _ hh
   have h6:=(h2 d hd).1
   rw [hdk,hh,hf d hd] at h6
   simp at h6
end Go.Proofs.YtgikfenllgldoaaGreat
namespace Go.Proofs.YtgikfenllgldoaaGreat
open Go.Proofs.Tryz
open Go.RowKit
def sumI (f:Nat->Int):Nat->Int
 | 0=>0
 | k+1=>dX (sumI f k) (f k)
theorem GY (w:World):lu ((w.alloc (.cells #[.int .i64 0,.int .i64 0,.int .i64 0] 32)).alloc (.cells #[.int .i64 0,.int .i64 0,.int .i64 0] 32)) (w.heap.size+1) 0 0 0:=by
 have q:=lu.new (w.alloc (.cells #[.int .i64 0,.int .i64 0,.int .i64 0] 32)) 32 0 0 0
 rwa [World.size_alloc] at q
theorem Lh (B off cap len:Nat) (f g h:Nat->Int) (w:World) (hlen:len<=140737488355328) (hB:B<w.heap.size)
  (hc:Hid (∀ i,i<len->w.cell? ⟨B,off+i*3,none⟩=some (.int .i64 (f i))/\w.cell? ⟨B,off+i*3+1,none⟩=some (.int .i64 (g i))/\w.cell? ⟨B,off+i*3+2,none⟩=some (.int .i64 (h i)))) :
  Calls prog 92 #[.slice (some ⟨B,off,none⟩) len cap] w fun e w'=>e=.returned (.agg #[.int .i64 (sumI f len),.int .i64 (sumI g len),.int .i64 (sumI h len)])/\Below w.heap.size w w':=by
 go_enter func92,ntmps92
 go_wp2_with fail
 go_loopw [8] (fun i wr=>∃ k:Nat,k<=len/\i=.int .i64 k/\lu wr (w.heap.size+1) (sumI f k) (sumI g k) (sumI h k)/\lu wr w.heap.size 0 0 0/\Below w.heap.size w wr) (fun i _=>len - (intOf i).toNat)
 case atStart=>exact ⟨0,Nat.zero_le _,rfl,GY w,(lu.new w 32 0 0 0).on ((Below.refl _ _).alloc (Nat.le_refl _) _),((Below.refl _ _).alloc (Nat.le_refl _) _).alloc (by simp) _⟩
 case round =>
  obtain ⟨k,hk,rfl,hX,hR,hbel⟩:=hrel
  by_cases hkl:k<len
  ·obtain ⟨c0,c1,c2⟩:=hc.out k hkl
   have d0:=(hbel.cell (p:=⟨B,off+k*3,none⟩) hB).trans c0
   have d1:=(hbel.cell (p:=⟨B,off+k*3+1,none⟩) hB).trans c1
   have d2:=(hbel.cell (p:=⟨B,off+k*3+2,none⟩) hB).trans c2
   clear c0 c1 c2
   obtain ⟨hlt,⟨s0,s1,s2⟩,QM,QL,QK⟩:=id hX
   go_wp2_with fail
   refine (Yt _ _ _ _ _ _ _).mono ?_
   rintro e w1 ⟨rfl,hb⟩
   have hb':Below wr.heap.size wr w1:=((Below.refl wr.heap.size wr).alloc (Nat.le_refl _) _).trans (hb.mono (by simp))
   have hX1:=hX.on hb'
   have zZ:=hR.on hb'
   have hb1:=hbel.trans (hb'.mono hbel.size)
   clear hb hb' s0 s1 s2 QM QL QK d0 d1 d2 hX hR
   obtain ⟨hlt1,⟨s0,s1,s2⟩,QM,QL,QK⟩:=id hX1
   go_wp2_with fail
   go_roundw
   case rel=>exact ⟨k+1,by omega,by go_num,hX1.set _ _ _,zZ.other (by omega) _ _ _,zH3 hb1 (by omega) _ _ _⟩
   case measure=>simp [intOf];omega
  ·obtain rfl:k=len:=by omega
   obtain ⟨hlt,⟨s0,s1,s2⟩,QM,QL,QK⟩:=id hX
   obtain ⟨rlt,⟨r0,r1,r2⟩,rf0,rf1,rf2⟩:=id hR
   clear hX hR
   go_wp2_with fail
   exact bodyPost_ret (v:=.agg #[.int .i64 (sumI f k),.int .i64 (sumI g k),.int .i64 (sumI h k)]) (by simp [results,Tryz.results92,go_sem,r0,r1,r2]) rfl ⟨rfl,((hbel.setCell (by simp) _).setCell (by simp) _).setCell (by simp) _⟩
end Go.Proofs.YtgikfenllgldoaaGreat
namespace Go.Proofs.YtgikfenllgldoaaGreat
open Go.Proofs.Tryz
open Go.RowKit Go.Maps
def cZ (A:Where) (w:World):Where:=fun b=>A b/\b<w.heap.size
theorem Ba {α:Type} [Inhabited α] {R:bI α} {k bytes:Nat} {A:Where} {w:World} {n cap:Nat} {L:List α} (h:ag R k bytes A w none n cap L):n=0/\cap=0/\L=[]:=by
 obtain ⟨h1,h2,h3,_,_⟩:=h
 have:=h3 rfl
 subst this
 obtain rfl:n=0:=by omega
 exact ⟨rfl,rfl,List.length_eq_zero_iff.1 h1⟩
theorem O6:(prog.info? 41).map (fun i=>(i.zero,i.size,i.bytes))=some (some (.agg Da.toArray),16,296):=by kernel_rfl
theorem Yu (a:Option Addr) (n cap:Nat) (A:Where) (L:List aB) (w:World) (hL:ag aj 16 296 A w a n cap L):Calls prog 21 #[.slice a n cap] w fun e w'=>∃ v,e=.returned v/\Row aj 16 (cZ A w) w w' 41 v L:=by
 have hb0:Below w.heap.size w (w.alloc (.cells #[] 41)):=by go_grown
 rcases a with _ | ad
 ·have hE:=fun w=>Lib.run_eql_slice_nil (P:=prog) w 22 41 none 0 0 0 0 underlying22
  obtain ⟨rfl,rfl,rfl⟩:=Ba hL
  have HP:Hid (Row aj 16 (cZ A w) w w 41 (.slice none 0 0) ([]:List aB)):=Row.nil _ _ _
  clear hL
  go_enter func21,ntmps21
  go_wp2_with fail
  go_ret
  exact ⟨_,rfl,HP.out⟩
 ·have hE:=fun w=>Lib.run_eql_slice_nil (P:=prog) w 22 41 (some ad) n cap 0 0 underlying22
  have hL':ag aj 16 296 (cZ A w) w (some ad) n cap L:=hL.weak aj.ae (fun b hb h=>⟨h,hb⟩)
  obtain ⟨xs,hc,hcell,hone⟩:=(hL'.on aj.ae hb0).chunks aj.ae
  have hn:=hL.1
  have hbb:=hL.2.2.2.1
  subst hn
  have HR:Hid (Row aj 16 (cZ A w) w (w.alloc (.cells #[] 41)) 41 (.slice (some ⟨w.heap.size,0,none⟩) 0 0) ([]:List aB)):=Row.start _ w w _ (Below.refl _ _)
  have HC:Hid (aW aj 16 (fun b=>cZ A w b/\Value.ownBlock (.slice (some ⟨w.heap.size,0,none⟩) 0 0)≠some b) (w.alloc (.cells #[] 41)) xs L):=hc.weak aj.ae (fun b _ h=>⟨h,by simp only [Value.ownBlock,ne_eq,Option.some.injEq];have:=h.2;omega⟩)
  have HX:Hid (∀ j y,xs[j]?=some y->(w.alloc (.cells #[] 41)).cell? (ad.add j)=some y):=hcell
  have HO:Hid (∀ y∈xs,y.oneCell'=true):=hone
  clear hc hcell hone hL hL'
  go_enter func21,ntmps21
  go_wp2_with (at_builtin;go_must (refine mh aj.ae (A:=(cZ A w)) (w0:=w) rfl _ _ 22 41 rfl _ 296 O6 underlying22 rfl (by decide) (by decide) _ [] rfl HR.out ad L.length cap xs L rfl rfl HC.out HX.out HO.out (by simp;omega) ?_);intro v1 w1 fC hg1)
  go_ret
  exact ⟨_,rfl,by simpa using fC⟩
theorem JA:(prog.info? 56).map (fun i=>(i.zero,i.size,i.bytes))=some (some (.agg yJ.toArray),9,112):=by kernel_rfl
theorem zFb (a:Option Addr) (n cap:Nat) (A:Where) (L:List aX) (w:World) (hL:ag av 9 112 A w a n cap L):Calls prog 81 #[.slice a n cap] w fun e w'=>∃ v,e=.returned v/\Row av 9 (cZ A w) w w' 56 v L:=by
 have hb0:Below w.heap.size w (w.alloc (.cells #[] 56)):=by go_grown
 rcases a with _ | ad
 ·have hE:=fun w=>Lib.run_eql_slice_nil (P:=prog) w 23 56 none 0 0 0 0 underlying23
  obtain ⟨rfl,rfl,rfl⟩:=Ba hL
  have HP:Hid (Row av 9 (cZ A w) w w 56 (.slice none 0 0) ([]:List aX)):=Row.nil _ _ _
  clear hL
  go_enter func81,ntmps81
  go_wp2_with fail
  go_ret
  exact ⟨_,rfl,HP.out⟩
 ·have hE:=fun w=>Lib.run_eql_slice_nil (P:=prog) w 23 56 (some ad) n cap 0 0 underlying23
  have hL':ag av 9 112 (cZ A w) w (some ad) n cap L:=hL.weak av.ae (fun b hb h=>⟨h,hb⟩)
  obtain ⟨xs,hc,hcell,hone⟩:=(hL'.on av.ae hb0).chunks av.ae
  have hn:=hL.1
  have hbb:=hL.2.2.2.1
  subst hn
  have HR:Hid (Row av 9 (cZ A w) w (w.alloc (.cells #[] 56)) 56 (.slice (some ⟨w.heap.size,0,none⟩) 0 0) ([]:List aX)):=Row.start _ w w _ (Below.refl _ _)
  have HC:Hid (aW av 9 (fun b=>cZ A w b/\Value.ownBlock (.slice (some ⟨w.heap.size,0,none⟩) 0 0)≠some b) (w.alloc (.cells #[] 56)) xs L):=hc.weak av.ae (fun b _ h=>⟨h,by simp only [Value.ownBlock,ne_eq,Option.some.injEq];have:=h.2;omega⟩)
  have HX:Hid (∀ j y,xs[j]?=some y->(w.alloc (.cells #[] 56)).cell? (ad.add j)=some y):=hcell
  have HO:Hid (∀ y∈xs,y.oneCell'=true):=hone
  clear hc hcell hone hL hL'
  go_enter func81,ntmps81
  go_wp2_with (at_builtin;go_must (refine mh av.ae (A:=(cZ A w)) (w0:=w) rfl _ _ 23 56 rfl _ 112 JA underlying23 rfl (by decide) (by decide) _ [] rfl HR.out ad L.length cap xs L rfl rfl HC.out HX.out HO.out (by simp;omega) ?_);intro v1 w1 fC hg1)
  go_ret
  exact ⟨_,rfl,by simpa using fC⟩
theorem LX:(prog.info? 59).map (fun i=>(i.zero,i.size,i.bytes))=some (some (.agg jv.toArray),5,80):=by kernel_rfl
theorem zDp (a:Option Addr) (n cap:Nat) (A:Where) (L:List aD) (w:World) (hL:ag ai 5 80 A w a n cap L):Calls prog 82 #[.slice a n cap] w fun e w'=>∃ v,e=.returned v/\Row ai 5 (cZ A w) w w' 59 v L:=by
 have hb0:Below w.heap.size w (w.alloc (.cells #[] 59)):=by go_grown
 rcases a with _ | ad
 ·have hE:=fun w=>Lib.run_eql_slice_nil (P:=prog) w 24 59 none 0 0 0 0 underlying24
  obtain ⟨rfl,rfl,rfl⟩:=Ba hL
  have HP:Hid (Row ai 5 (cZ A w) w w 59 (.slice none 0 0) ([]:List aD)):=Row.nil _ _ _
  clear hL
  go_enter func82,ntmps82
  go_wp2_with fail
  go_ret
  exact ⟨_,rfl,HP.out⟩
 ·have hE:=fun w=>Lib.run_eql_slice_nil (P:=prog) w 24 59 (some ad) n cap 0 0 underlying24
  have hL':ag ai 5 80 (cZ A w) w (some ad) n cap L:=hL.weak ai.ae (fun b hb h=>⟨h,hb⟩)
  obtain ⟨xs,hc,hcell,hone⟩:=(hL'.on ai.ae hb0).chunks ai.ae
  have hn:=hL.1
  have hbb:=hL.2.2.2.1
  subst hn
  have HR:Hid (Row ai 5 (cZ A w) w (w.alloc (.cells #[] 59)) 59 (.slice (some ⟨w.heap.size,0,none⟩) 0 0) ([]:List aD)):=Row.start _ w w _ (Below.refl _ _)
  have HC:Hid (aW ai 5 (fun b=>cZ A w b/\Value.ownBlock (.slice (some ⟨w.heap.size,0,none⟩) 0 0)≠some b) (w.alloc (.cells #[] 59)) xs L):=hc.weak ai.ae (fun b _ h=>⟨h,by simp only [Value.ownBlock,ne_eq,Option.some.injEq];have:=h.2;omega⟩)
  have HX:Hid (∀ j y,xs[j]?=some y->(w.alloc (.cells #[] 59)).cell? (ad.add j)=some y):=hcell
  have HO:Hid (∀ y∈xs,y.oneCell'=true):=hone
  clear hc hcell hone hL hL'
  go_enter func82,ntmps82
  go_wp2_with (at_builtin;go_must (refine mh ai.ae (A:=(cZ A w)) (w0:=w) rfl _ _ 24 59 rfl _ 80 LX underlying24 rfl (by decide) (by decide) _ [] rfl HR.out ad L.length cap xs L rfl rfl HC.out HX.out HO.out (by simp;omega) ?_);intro v1 w1 fC hg1)
  go_ret
  exact ⟨_,rfl,by simpa using fC⟩
theorem F3:(prog.info? 124).map (fun i=>(i.zero,i.size,i.bytes))=some (some (.agg Ej.toArray),4,56):=by kernel_rfl
theorem zEW (a:Option Addr) (n cap:Nat) (A:Where) (L:List aT) (w:World) (hL:ag aA 4 56 A w a n cap L):Calls prog 83 #[.slice a n cap] w fun e w'=>∃ v,e=.returned v/\Row aA 4 (cZ A w) w w' 124 v L:=by
 have hb0:Below w.heap.size w (w.alloc (.cells #[] 124)):=by go_grown
 rcases a with _ | ad
 ·have hE:=fun w=>Lib.run_eql_slice_nil (P:=prog) w 25 124 none 0 0 0 0 underlying25
  obtain ⟨rfl,rfl,rfl⟩:=Ba hL
  have HP:Hid (Row aA 4 (cZ A w) w w 124 (.slice none 0 0) ([]:List aT)):=Row.nil _ _ _
  clear hL
  go_enter func83,ntmps83
  go_wp2_with fail
  go_ret
  exact ⟨_,rfl,HP.out⟩
 ·have hE:=fun w=>Lib.run_eql_slice_nil (P:=prog) w 25 124 (some ad) n cap 0 0 underlying25
  have hL':ag aA 4 56 (cZ A w) w (some ad) n cap L:=hL.weak aA.ae (fun b hb h=>⟨h,hb⟩)
  obtain ⟨xs,hc,hcell,hone⟩:=(hL'.on aA.ae hb0).chunks aA.ae
  have hn:=hL.1
  have hbb:=hL.2.2.2.1
  subst hn
  have HR:Hid (Row aA 4 (cZ A w) w (w.alloc (.cells #[] 124)) 124 (.slice (some ⟨w.heap.size,0,none⟩) 0 0) ([]:List aT)):=Row.start _ w w _ (Below.refl _ _)
  have HC:Hid (aW aA 4 (fun b=>cZ A w b/\Value.ownBlock (.slice (some ⟨w.heap.size,0,none⟩) 0 0)≠some b) (w.alloc (.cells #[] 124)) xs L):=hc.weak aA.ae (fun b _ h=>⟨h,by simp only [Value.ownBlock,ne_eq,Option.some.injEq];have:=h.2;omega⟩)
  have HX:Hid (∀ j y,xs[j]?=some y->(w.alloc (.cells #[] 124)).cell? (ad.add j)=some y):=hcell
  have HO:Hid (∀ y∈xs,y.oneCell'=true):=hone
  clear hc hcell hone hL hL'
  go_enter func83,ntmps83
  go_wp2_with (at_builtin;go_must (refine mh aA.ae (A:=(cZ A w)) (w0:=w) rfl _ _ 25 124 rfl _ 56 F3 underlying25 rfl (by decide) (by decide) _ [] rfl HR.out ad L.length cap xs L rfl rfl HC.out HX.out HO.out (by simp;omega) ?_);intro v1 w1 fC hg1)
  go_ret
  exact ⟨_,rfl,by simpa using fC⟩
theorem FZ:(prog.info? 180).map (fun i=>(i.zero,i.size,i.bytes))=some (some (.agg Ei.toArray),2,24):=by kernel_rfl
theorem zEX (a:Option Addr) (n cap:Nat) (A:Where) (L:List dI) (w:World) (hL:ag aH 2 24 A w a n cap L):Calls prog 84 #[.slice a n cap] w fun e w'=>∃ v,e=.returned v/\Row aH 2 (cZ A w) w w' 180 v L:=by
 have hb0:Below w.heap.size w (w.alloc (.cells #[] 180)):=by go_grown
 rcases a with _ | ad
 ·have hE:=fun w=>Lib.run_eql_slice_nil (P:=prog) w 26 180 none 0 0 0 0 underlying26
  obtain ⟨rfl,rfl,rfl⟩:=Ba hL
  have HP:Hid (Row aH 2 (cZ A w) w w 180 (.slice none 0 0) ([]:List dI)):=Row.nil _ _ _
  clear hL
  go_enter func84,ntmps84
  go_wp2_with fail
  go_ret
  exact ⟨_,rfl,HP.out⟩
 ·have hE:=fun w=>Lib.run_eql_slice_nil (P:=prog) w 26 180 (some ad) n cap 0 0 underlying26
  have hL':ag aH 2 24 (cZ A w) w (some ad) n cap L:=hL.weak aH.ae (fun b hb h=>⟨h,hb⟩)
  obtain ⟨xs,hc,hcell,hone⟩:=(hL'.on aH.ae hb0).chunks aH.ae
  have hn:=hL.1
  have hbb:=hL.2.2.2.1
  subst hn
  have HR:Hid (Row aH 2 (cZ A w) w (w.alloc (.cells #[] 180)) 180 (.slice (some ⟨w.heap.size,0,none⟩) 0 0) ([]:List dI)):=Row.start _ w w _ (Below.refl _ _)
  have HC:Hid (aW aH 2 (fun b=>cZ A w b/\Value.ownBlock (.slice (some ⟨w.heap.size,0,none⟩) 0 0)≠some b) (w.alloc (.cells #[] 180)) xs L):=hc.weak aH.ae (fun b _ h=>⟨h,by simp only [Value.ownBlock,ne_eq,Option.some.injEq];have:=h.2;omega⟩)
  have HX:Hid (∀ j y,xs[j]?=some y->(w.alloc (.cells #[] 180)).cell? (ad.add j)=some y):=hcell
  have HO:Hid (∀ y∈xs,y.oneCell'=true):=hone
  clear hc hcell hone hL hL'
  go_enter func84,ntmps84
  go_wp2_with (at_builtin;go_must (refine mh aH.ae (A:=(cZ A w)) (w0:=w) rfl _ _ 26 180 rfl _ 24 FZ underlying26 rfl (by decide) (by decide) _ [] rfl HR.out ad L.length cap xs L rfl rfl HC.out HX.out HO.out (by simp;omega) ?_);intro v1 w1 fC hg1)
  go_ret
  exact ⟨_,rfl,by simpa using fC⟩
theorem zHL:(prog.info? 62).map (fun i=>(i.zero,i.size,i.bytes))=some (some (.agg vw.toArray),3,48):=by kernel_rfl
theorem zDo (a:Option Addr) (n cap:Nat) (A:Where) (L:List kW) (w:World) (hL:ag aI 3 48 A w a n cap L):Calls prog 85 #[.slice a n cap] w fun e w'=>∃ v,e=.returned v/\Row aI 3 (cZ A w) w w' 62 v L:=by
 have hb0:Below w.heap.size w (w.alloc (.cells #[] 62)):=by go_grown
 rcases a with _ | ad
 ·have hE:=fun w=>Lib.run_eql_slice_nil (P:=prog) w 27 62 none 0 0 0 0 underlying27
  obtain ⟨rfl,rfl,rfl⟩:=Ba hL
  have HP:Hid (Row aI 3 (cZ A w) w w 62 (.slice none 0 0) ([]:List kW)):=Row.nil _ _ _
  clear hL
  go_enter func85,ntmps85
  go_wp2_with fail
  go_ret
  exact ⟨_,rfl,HP.out⟩
 ·have hE:=fun w=>Lib.run_eql_slice_nil (P:=prog) w 27 62 (some ad) n cap 0 0 underlying27
  have hL':ag aI 3 48 (cZ A w) w (some ad) n cap L:=hL.weak aI.ae (fun b hb h=>⟨h,hb⟩)
  obtain ⟨xs,hc,hcell,hone⟩:=(hL'.on aI.ae hb0).chunks aI.ae
  have hn:=hL.1
  have hbb:=hL.2.2.2.1
  subst hn
  have HR:Hid (Row aI 3 (cZ A w) w (w.alloc (.cells #[] 62)) 62 (.slice (some ⟨w.heap.size,0,none⟩) 0 0) ([]:List kW)):=Row.start _ w w _ (Below.refl _ _)
  have HC:Hid (aW aI 3 (fun b=>cZ A w b/\Value.ownBlock (.slice (some ⟨w.heap.size,0,none⟩) 0 0)≠some b) (w.alloc (.cells #[] 62)) xs L):=hc.weak aI.ae (fun b _ h=>⟨h,by simp only [Value.ownBlock,ne_eq,Option.some.injEq];have:=h.2;omega⟩)
  have HX:Hid (∀ j y,xs[j]?=some y->(w.alloc (.cells #[] 62)).cell? (ad.add j)=some y):=hcell
  have HO:Hid (∀ y∈xs,y.oneCell'=true):=hone
  clear hc hcell hone hL hL'
  go_enter func85,ntmps85
  go_wp2_with (at_builtin;go_must (refine mh aI.ae (A:=(cZ A w)) (w0:=w) rfl _ _ 27 62 rfl _ 48 zHL underlying27 rfl (by decide) (by decide) _ [] rfl HR.out ad L.length cap xs L rfl rfl HC.out HX.out HO.out (by simp;omega) ?_);intro v1 w1 fC hg1)
  go_ret
  exact ⟨_,rfl,by simpa using fC⟩
end Go.Proofs.YtgikfenllgldoaaGreat
namespace Go.Proofs.YtgikfenllgldoaaGreat
open Go.Proofs.Tryz
open Go.RowKit
section
variable {α:Type} [Inhabited α] {R:bI α} {k:Nat}
theorem Row.lt {A:Where} {w0 u:World} {e:TypeId} {v:Value} {L:List α} (h:Row R k A w0 u e v L) {b:Nat} (hb:v.ownBlock=some b):w0.heap.size<=b/\b<u.heap.size:=by
 obtain ⟨xs,h1,_⟩:=h
 exact h1.2.lt b hb
theorem Row.grown (hR:aJ R k) {A:Where} {w0 u u':World} {row:Option Nat} {e:TypeId} {v:Value} {L:List α} (h:Row R k A w0 u e v L) (hg:u.grownBy u' row) (hn:∀ b,row=some b->w0.heap.size<=b/\v.ownBlock≠some b/\¬ A b):Row R k A w0 u' e v L:=by
 obtain ⟨xs,⟨h1,h0,h2⟩,h3⟩:=h
 refine ⟨xs,⟨?_,h0,?_⟩,h3.kept hR (Kept.grown hg (fun b hb h=>(hn b hb).2.2 h.1))⟩
 ·exact Below.grown h1 hg h1.size (fun b hb=>(hn b hb).1)
 ·rcases h2 with h2 | ⟨g,cap,cur,hv,hg0,hh,r⟩
  ·exact .inl h2
  ·refine .inr ⟨g,cap,cur,hv,hg0,?_,r⟩
   rw [hg.block g ?_ ?_]
   ·exact hh
   ·rcases Nat.lt_or_ge g u.heap.size with h | h
    ·exact h
    ·rw [Array.getElem?_eq_none h] at hh;cases hh
   ·intro e1
    have:=(hn g e1.symm).2.1
    rw [hv] at this
    exact this rfl
theorem Mf (hR:aJ R k) {o:Oper} {a:Act} {K:Act->World->Prop} {Q:Exit->Act->World->Prop} {A:Where} {w0 u:World} (s x:Operand) (t e:TypeId)
  (ho:o.op=.call { callee:=.builtin .append,args:=#[s,x],argTypes:=#[t,t] }) (z:Value) (bytes:Nat) (hinfo:(prog.info? e).map (fun i=>(i.zero,i.size,i.bytes))=some (some z,k,bytes)) (ht:prog.underlying t=some (.slice e)) (hzs:z.cells.size=k) (hk0:0<k) (hby:1<=bytes)
  (v:Value) (L:List α) (hs:a.eval s=v) (hrow:Row R k A w0 u e v L)
  (ad:Option Addr) (m c:Nat) (N:List α) (hx:a.eval x=.slice ad m c) (hN:Src R k (fun b=>A b/\v.ownBlock≠some b) u ad m N) (hb:(L.length+N.length)*bytes<=140737488355328)
  (h:∀ v' u',Row R k A w0 u' e v' (L++N)->u.grownBy u' v.ownBlock->(v'.ownBlock=v.ownBlock\/v'.ownBlock=some u.heap.size)->K (a.put o.dst v') u'):o.wp prog a u K Q:=by
 obtain ⟨hm,hN⟩:=hN
 rcases hN with ⟨rfl,rfl⟩ | ⟨ad,news,rfl,hN,hcells,h1⟩
 ·obtain rfl:m=0:=by simpa using hm.symm
  obtain ⟨i0,hi,hz0,hz1,hz2⟩:=info_parts hinfo
  have hr:∀ ty,(Builtin.append_ #[t,t] ty #[v,.slice none 0 c]).run prog u=.ok v u:=by
   intro ty
   obtain ⟨xs,hown,_⟩:=hrow
   rcases hown.2.2 with ⟨rfl,_⟩ | ⟨g,cap,cur,rfl,_,hg,hnc,_⟩
   ·simp [Builtin.append_,run_underlying ht,sizeOf,typeInfo,hi,Builtin.lenOf,Builtin.firstCells,loadCells,loadCellsFrom]
   ·simp [Builtin.append_,run_underlying ht,sizeOf,typeInfo,hi,Builtin.lenOf,Builtin.firstCells,loadCells,loadCellsFrom,hnc,storeCells]
  unfold Oper.wp execOp
  simp only [ho,resolve,invoke,builtin,Sem.run_bind,Sem.run_pure,Result.andThen_ok,List.map_toArray,List.map_cons,List.map_nil,hs,hx,hr]
  exact h v u (by simpa using hrow) ⟨rfl,rfl,rfl,Nat.le_refl _,fun _ _ _=>rfl⟩ (.inl rfl)
 ·subst hm
  obtain ⟨i0,hi,hz0,hz1,hz2⟩:=info_parts hinfo
  obtain ⟨xs,hown,hch⟩:=hrow
  have hmul:(L.length+N.length)*1<=(L.length+N.length)*bytes:=Nat.mul_le_mul_left _ hby
  obtain ⟨v',u',hr,h2,h3,h4,h5⟩:=run_append_own_at (P:=prog) u w0.heap.size t o.type e i0 z k bytes ht hi hz0 hz1 hz2 hzs hk0 v L.length xs hown.2 ad N.length c news hN.1 hcells h1 (by unfold maxLen;omega) hb hown.1.size
  unfold Oper.wp execOp
  simp only [ho,resolve,invoke,builtin,Sem.run_bind,Sem.run_pure,Result.andThen_ok,List.map_toArray,List.map_cons,List.map_nil,hs,hx,hr]
  refine (h v' u' ⟨xs++news,⟨hown.row h3,by rw [List.length_append];exact h2⟩,?_⟩ h3 h5)
  have put:∀ {ys:List Value} {M:List α},aW R k (fun b=>A b/\v.ownBlock≠some b) u ys M->aW R k (fun b=>A b/\v'.ownBlock≠some b) u' ys M:=fun {ys M} hc=>by
   have c1:=hc.weak hR (A':=fun b=>(A b/\v.ownBlock≠some b)/\b<u.heap.size) (fun b hb h=>⟨h,hb⟩)
   have c2:=c1.kept hR (Kept.grown h3 (fun b e=>fun h=>h.1.2 e))
   refine c2.weak hR (fun b _ h=>⟨h.1.1,fun e=>?_⟩)
   rcases h5 with h5 | h5
   ·rw [h5] at e;exact h.1.2 e
   ·rw [h5] at e
    have:u.heap.size=b:=by simpa using e
    exact absurd h.2 (by omega)
  obtain ⟨l1,c1⟩:=put hch
  obtain ⟨l2,c2⟩:=put hN
  refine ⟨by rw [List.length_append,List.length_append,l1,l2,Nat.add_mul],fun i hi=>?_⟩
  rcases Nat.lt_or_ge i L.length with h' | h'
  ·obtain ⟨cs,q1,q2⟩:=c1 i h'
   have e:(L++N).getD i default=L.getD i default:=by rw [gK _ _ hi,gK _ _ h',List.getElem_append_left h']
   refine ⟨cs,by rw [e];exact q1,fun j hj=>?_⟩
   rw [List.getElem?_append_left (by have:(i+1)*k<=L.length*k:=Nat.mul_le_mul_right k h';rw [Nat.add_mul] at this;omega)]
   exact q2 j hj
  ·have h'':i - L.length<N.length:=by simp at hi;omega
   obtain ⟨cs,q1,q2⟩:=c2 (i - L.length) h''
   have e:(L++N).getD i default=N.getD (i - L.length) default:=by rw [gK _ _ hi,gK _ _ h'',List.getElem_append_right h']
   refine ⟨cs,by rw [e];exact q1,fun j hj=>?_⟩
   have hle:L.length*k<=i*k:=Nat.mul_le_mul_right k h'
   rw [List.getElem?_append_right (by omega),l1,PY i L.length k j h',<- q2 j hj]
theorem ui (hR:aJ R k) {ops:Array Oper} {rest:List Oper} {o:Oper} {a:Act} {Q:Exit->Act->World->Prop} {A:Where} {w0 u:World} (hgd:Region.wanted o (yielded ops a.tmps)=true) (s x:Operand) (t e:TypeId)
  (ho:o.op=.call { callee:=.builtin .append,args:=#[s,x],argTypes:=#[t,t] }) (z:Value) (bytes:Nat) (hinfo:(prog.info? e).map (fun i=>(i.zero,i.size,i.bytes))=some (some z,k,bytes)) (ht:prog.underlying t=some (.slice e)) (hzs:z.cells.size=k) (hk0:0<k) (hby:1<=bytes)
  (v:Value) (L:List α) (hs:a.eval s=v) (hrow:Row R k A w0 u e v L)
  (ad:Option Addr) (m c:Nat) (N:List α) (hx:a.eval x=.slice ad m c) (hN:Src R k (fun b=>A b/\v.ownBlock≠some b) u ad m N) (hb:(L.length+N.length)*bytes<=140737488355328)
  (h:∀ v' u',Row R k A w0 u' e v' (L++N)->u.grownBy u' v.ownBlock->(v'.ownBlock=v.ownBlock\/v'.ownBlock=some u.heap.size)->wpList prog ops Q rest (a.put o.dst v') u'):wpList prog ops Q (o :: rest) a u :=
 BigFrame.wpList_want hgd (fun _ hK=>Mf hR s x t e ho z bytes hinfo ht hzs hk0 hby v L hs hrow ad m c N hx hN hb (fun v' u' h2 h3 h4=>hK _ _ (h v' u' h2 h3 h4)))
end
theorem I4 {a b:Bool} (h:a=b):Ending.returned (.bool a)=.returned (.bool b):=by rw [h]
theorem IY {α:Type} [DecidableEq α] {L M:List α} (h:L.length≠M.length):decide (L=M)=false:=by
 rw [decide_eq_false_iff_not];intro e;exact h (by rw [e])
section
variable {α:Type} [Inhabited α] [DecidableEq α] {L M:List α}
theorem OJ {k:Nat} (h:L.getD k default≠M.getD k default):decide (L=M)=false:=by
 rw [decide_eq_false_iff_not];intro e;exact h (by rw [e])
theorem IX (hl:L.length=M.length) (h:∀ j,j<L.length->L.getD j default=M.getD j default):decide (L=M)=true:=by
 rw [decide_eq_true_iff]
 apply List.ext_getElem hl
 intro i h1 h2
 have:=h i h1
 rwa [gK _ _ h1,gK _ _ h2] at this
end
theorem RD (x y:aG):(ay x.1 y.1 && ay x.2 y.2)=decide (x=y):=by
 rw [Bool.eq_iff_iff,Bool.and_eq_true,eZ,eZ,decide_eq_true_iff,Prod.ext_iff]
end Go.Proofs.YtgikfenllgldoaaGreat
