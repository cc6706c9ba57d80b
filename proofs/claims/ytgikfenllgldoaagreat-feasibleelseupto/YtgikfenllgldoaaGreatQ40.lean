/- censusOf: how many nodes, and how many pods of a spread, each domain has. Condition: the arguments lie as is said of them, and the function that is handed in answers as said. -/
import Derived.Test.YtgikfenllgldoaaGreatQ35
set_option linter.unusedSimpArgs false
set_option maxRecDepth 100000
set_option maxHeartbeats 32000000
namespace Go.Proofs.YtgikfenllgldoaaGreat
open Go.Proofs.Tryz
open Go.RowKit Go.Maps
theorem Zi {cs:List Value} (h:∀ v∈cs,v.oneCell'=true):cs.toArray.all (·.oneCell')=true:=by
 simp only [List.all_toArray,List.all_eq_true]
 exact h
theorem BS {ops:Array Oper} {rest:List Oper} {op:Oper} {a:Act} {w:World} {Q:Exit->Act->World->Prop} (hgd:Region.wanted op (yielded ops a.tmps)=true) (ty:TypeId) (x:Operand) (ho:op.op=.load ty x)
  (b o:Nat) (hx:a.eval x=.pointer (some ⟨b,o,none⟩)) (cs:List Value) (d:TypeDesc) (hc:w.rangeAt b o cs)
  (hu:prog.underlying ty=some d) (hd:d.isRow=true) (hi:(prog.info? ty).map (·.size)=some cs.length)
  (h:wpList prog ops Q rest (a.put op.dst (.agg cs.toArray)) w):wpList prog ops Q (op :: rest) a w :=
 BigFrame.wpList_want hgd (fun _ hK=>wp_load_mid ty x ho b o hx cs d hc hu hd hi (hK _ _ h))
theorem QJ:(prog.info? 164).map (·.size)=some 6:=by kernel_rfl
theorem OI:(prog.info? 56).map (·.size)=some 9:=by kernel_rfl
theorem OH:(prog.info? 145).map (·.size)=some 17:=by kernel_rfl
theorem av.VG {A:Where} {w:World} {cs:List Value} {x:aX} (h:av A w cs x):∃ h1:Hd,cs[1]?=some (.slice h1.1 h1.2.1 h1.2.2)/\ag ak 2 32 A w h1.1 h1.2.1 h1.2.2 (jW x):=by
 obtain ⟨⟨c1,c2,c3⟩,_,rfl,_,sl,_⟩:=h.out
 exact ⟨(c1,c2,c3),rfl,sl⟩
theorem aL.abH {A:Where} {w:World} {cs:List Value} {x:aM} (h:aL A w cs x):∃ (ps:List Value) (h1:Hd),cs=ps++[.slice h1.1 h1.2.1 h1.2.2]/\ps.length=16/\aj A w ps x.1/\ag ak 2 32 A w h1.1 h1.2.1 h1.2.2 x.2:=by
 obtain ⟨ps,qs,rfl,h1,a,n,c,rfl,h3⟩:=h
 exact ⟨ps,(a,n,c),rfl,aj.ae.len h1,h1,h3⟩
abbrev H8:List Value:=[.string ⟨#[]⟩,.int .i64 0,.int .i64 0,.slice none 0 0,.map none,.map none]
def jV (w:World) (s:cz) (r1:Option Addr) (r2 r3:Nat) (u:World):Prop:=af u (w.heap.size+1) H8/\af u (w.heap.size+1+1+1+1) (qg s r1 r2 r3 (w.heap.size+1+1) (w.heap.size+1+1+1))
theorem jV.turned {w u u':World} {s:cz} {r1:Option Addr} {r2 r3 m:Nat} (h:jV w s r1 r2 r3 u) (ht:bq (fun b=>b=m) u u') (h1:m≠(w.heap.size+1)) (h2:m≠(w.heap.size+1+1+1+1)):jV w s r1 r2 r3 u' :=
 ⟨h.1.kept (ht.kept (A:=fun b=>b≠m) (fun _ k _ e=>k e)) (fun e=>h1 e.symm),h.2.kept (ht.kept (A:=fun b=>b≠m) (fun _ k _ e=>k e)) (fun e=>h2 e.symm)⟩
theorem jV.on {w u u':World} {s:cz} {r1:Option Addr} {r2 r3:Nat} (h:jV w s r1 r2 r3 u) (hb:Below u.heap.size u u'):jV w s r1 r2 r3 u':=⟨h.1.on hb,h.2.on hb⟩
theorem Cs {w u u':World} {m:Nat} (h:Below w.heap.size w u) (ht:bq (fun b=>b=m) u u') (hm:w.heap.size<=m):Below w.heap.size w u':=bq.behind h (ht.weak (fun b _ e=>by rw [e];exact hm))
def UT (w:World) (s:cz) (r1:Option Addr) (r2 r3:Nat) (N:List aX) (Q:List aM) (e:Ending) (w':World):Prop :=
 ∃ m1 m2,e=.returned (.agg #[.string s.1,.int .i64 s.2.1,.int .i64 s.2.2.1,.slice r1 r2 r3,.map (some m1),.map (some m2)])/\lT w' s r1 r2 r3 m1 m2 N Q/\Below w.heap.size w w'
theorem zD6 (s:cz) (r1:Option Addr) (r2 r3:Nat) (a:Option Addr) (n cap:Nat) (N:List aX) (b:Option Addr) (m gX bp:Nat) (Pl:List aM) (hbp:0<bp) (g:Nat) (lb:Array Value) (ig:aB->Bool) (eg:∀ args w,(callFunc g args).run prog w=.ok (.enter g args) w) (w:World) (hR:Hid (ag aU 3 48 (fun _=>True) w r1 r2 r3 (jk s))) (hN:Hid (ag av 9 112 (fun _=>True) w a n cap N)) (hP:Hid (ag aL 17 bp (fun _=>True) w b m gX Pl)) (hI:Hid (Nz g lb ig w)) :
  Calls prog 76 #[.agg #[.string s.1,.int .i64 s.2.1,.int .i64 s.2.2.1,.slice r1 r2 r3],.slice a n cap,.slice b m gX,.func (.func g) #[] lb] w (UT w s r1 r2 r3 N (dF ig Pl)):=by
 have hnl:Hid (N.length=n):=hN.out.1
 have lg:Hid (Pl.length=m):=hP.out.1
 have hbn:Hid (n*112<=140737488351232):=hN.out.2.2.2.1
 have Z0:Hid (m<=140737488351232):=Nat.le_trans (Nat.le_mul_of_pos_right m hbp) hP.out.2.2.2.1
 have hlen:=hN.out.len (by decide)
 have acV:=hP.out.len hbp
 have HZ:Hid ((∀ v∈dG s.1 N,v.size<=140737488355328)/\(dG s.1 N).length*16<=140737488351232):=⟨GG hN.out s.1,by have h1:=Pq s.1 N;have h2:=hbn.out;rw [hnl.out] at h1;omega⟩
 have HU:Hid (∀ u,Below w.heap.size w u->ag aU 3 48 (fun _=>True) u r1 r2 r3 (jk s)/\ag av 9 112 (fun _=>True) u a n cap N/\ag aL 17 bp (fun _=>True) u b m gX Pl):=fun u hb=>⟨hR.out.on aU.ae hb,hN.out.on av.ae hb,hP.out.on aL.ae hb⟩
 clear hR hN hP
 obtain ⟨W1,hW1⟩:∃ W,W=(w.alloc (.cells #[.string s.1,.int .i64 s.2.1,.int .i64 s.2.2.1,.slice r1 r2 r3] 88)).alloc (.cells #[.string ⟨#[]⟩,.int .i64 0,.int .i64 0,.slice none 0 0,.map none,.map none] 164):=⟨_,rfl⟩
 have q0:af W1 w.heap.size [.string s.1,.int .i64 s.2.1,.int .i64 s.2.2.1,.slice r1 r2 r3]:=by rw [hW1];exact (af.new w 88 _).on ((Below.refl _ _).alloc (Nat.le_refl _) _)
 have hz1:W1.heap.size=w.heap.size+1+1:=by rw [hW1];simp
 have B1:Below w.heap.size w W1:=by rw [hW1];go_grown
 have qr:af W1 (w.heap.size+1) H8:=by rw [hW1];have:=af.new (w.alloc (.cells #[.string s.1,.int .i64 s.2.1,.int .i64 s.2.2.1,.slice r1 r2 r3] 88)) 164 H8;simpa using this
 obtain ⟨W2,hW2⟩:∃ W,W=((W1.alloc (.map #[] 0)).alloc (.map #[] 0)).alloc (.cells #[.string ⟨#[]⟩,.int .i64 0,.int .i64 0,.slice none 0 0,.map none,.map none] 164):=⟨_,rfl⟩
 have hz2:W2.heap.size=w.heap.size+1+1+1+1+1:=by rw [hW2];simp [hz1]
 have q2:af W2 (w.heap.size+1+1+1+1) H8:=by rw [hW2];have:=af.new ((W1.alloc (.map #[] 0)).alloc (.map #[] 0)) 164 H8;simpa [hz1] using this
 have B2:Below W1.heap.size W1 W2:=by rw [hW2];go_grown
 have e1:bu W2 (w.heap.size+1+1) 0 (fun _=>0) (fun _=>false):=by rw [hW2];have:=(bu.made W1).on (((Below.refl _ _).alloc (Nat.le_refl _) (.map #[] 0)).alloc (by simp) (.cells #[.string ⟨#[]⟩,.int .i64 0,.int .i64 0,.slice none 0 0,.map none,.map none] 164));rw [hz1] at this;exact this
 have e2:bu W2 (w.heap.size+1+1+1) 0 (fun _=>0) (fun _=>false):=by rw [hW2];have:=(bu.made (W1.alloc (.map #[] 0))).on ((Below.refl _ _).alloc (Nat.le_refl _) (.cells #[.string ⟨#[]⟩,.int .i64 0,.int .i64 0,.slice none 0 0,.map none,.map none] 164));simpa [hz1] using this
 obtain ⟨W3,hW3⟩:∃ W,W=W2.setCells (w.heap.size+1+1+1+1) 0 (qg s r1 r2 r3 (w.heap.size+1+1) (w.heap.size+1+1+1)):=⟨_,rfl⟩
 have fA:Hid (W3=W2.setCells (w.heap.size+1+1+1+1) 0 (#[.string s.1,.int .i64 s.2.1,.int .i64 s.2.2.1,.slice r1 r2 r3,.map (some (w.heap.size+1+1)),.map (some (w.heap.size+1+1+1))]:Array Value).toList):=by rw [Hid,hW3]
 have eP:Hid (W2.there (w.heap.size+1+1+1+1) 0 (#[.string s.1,.int .i64 s.2.1,.int .i64 s.2.2.1,.slice r1 r2 r3,.map (some (w.heap.size+1+1)),.map (some (w.heap.size+1+1+1))]:Array Value).size):=q2.there
 have k3:Kept (fun b=>b≠(w.heap.size+1+1+1+1)) W2 W3:=by rw [hW3];exact dP (fun h=>h rfl)
 have C3:jV w s r1 r2 r3 W3:=⟨(qr.on B2).kept k3 (by omega),by rw [hW3];exact dL q2 rfl⟩
 have B3:Below w.heap.size w W3:=by rw [hW3];exact cu (ah B1 B2) (by omega)
 have f1:bu W3 (w.heap.size+1+1) 0 (fun _=>0) (fun _=>false):=e1.same (k3.2 _ (by omega) e1.lt)
 have f2:bu W3 (w.heap.size+1+1+1) 0 (fun _=>0) (fun _=>false):=e2.same (k3.2 _ (by omega) e2.lt)
 have c0:=(q0.2 0 _ rfl).1
 have c1:=(q0.2 1 _ rfl).1
 have c2:=(q0.2 2 _ rfl).1
 have c3:=(q0.2 3 _ rfl).1
 have RX:(prog.info? 164).map (·.size)=some (#[.string s.1,.int .i64 s.2.1,.int .i64 s.2.2.1,.slice r1 r2 r3,.map (some (w.heap.size+1+1)),.map (some (w.heap.size+1+1+1))]:Array Value).size:=QJ
 have mO:Hid ((#[.string s.1,.int .i64 s.2.1,.int .i64 s.2.2.1,.slice r1 r2 r3,.map (some (w.heap.size+1+1)),.map (some (w.heap.size+1+1+1))]:Array Value).all (·.oneCell')=true):=by rw [Hid];simp [Value.oneCell']
 have HS3:Hid (jV w s r1 r2 r3 W3/\Below w.heap.size w W3):=⟨C3,B3⟩
 have xm:Hid (∃ f,bu W3 (w.heap.size+1+1) 0 f (qD s.1 (N.take 0))):=⟨_,f1⟩
 have HE2:Hid (bu W3 (w.heap.size+1+1+1) 0 (fun v=>bQ s v (dF ig (Pl.take 0))) (fun _=>false)):=f2
 have hmm:=@run_makeMap prog
 have HW2:Hid (W2=((W1.alloc (.map #[] 0)).alloc (.map #[] 0)).alloc (.cells #[.string ⟨#[]⟩,.int .i64 0,.int .i64 0,.slice none 0 0,.map none,.map none] 164)):=hW2
 clear q0 qr q2 B1 B2 e1 e2 f1 f2 C3 B3 k3 hW3 hW2 hz2
 go_enter func76,ntmps76
 go_upto_region 1 with fail
 rw [<- hW1]
 clear hW1
 go_upto_region 2 with (first | (refine kF HW2.out ?_;refine wpList_store_mid rfl 164 _ _ rfl (w.heap.size+1+1+1+1) 0 #[.string s.1,.int .i64 s.2.1,.int .i64 s.2.2.1,.slice r1 r2 r3,.map (some (w.heap.size+1+1)),.map (some (w.heap.size+1+1+1))] rfl rfl eP.out RX mO.out ?_;refine kF fA.out ?_) | fail)
 clear HW2 fA eP mO c0 c1 c2 c3 hmm
 have HI1:Hid ((∃ f,bu W3 (w.heap.size+1+1) 0 f (qD s.1 (N.take 0)))/\bu W3 (w.heap.size+1+1+1) 0 (fun v=>bQ s v (dF ig (Pl.take 0))) (fun _=>false)/\jV w s r1 r2 r3 W3/\Below w.heap.size w W3):=⟨xm.out,HE2.out,HS3.out⟩
 clear xm HE2 HS3
 go_wp2_with fail
 go_loopw [20] (fun i wr=>∃ k:Nat,k<=n/\i=.int .i64 k/\Hid ((∃ f,bu wr (w.heap.size+1+1) k f (qD s.1 (N.take k)))/\bu wr (w.heap.size+1+1+1) 0 (fun v=>bQ s v (dF ig (Pl.take 0))) (fun _=>false)/\jV w s r1 r2 r3 wr/\Below w.heap.size w wr)) (fun i _=>n - (intOf i).toNat)
 case atStart=>exact ⟨0,Nat.zero_le _,rfl,HI1⟩
 case round =>
  obtain ⟨k,hk,rfl,hrun⟩:=hrel
  obtain ⟨⟨f,hm1⟩,hm2,hco,hbw⟩:=hrun.out
  clear hrun
  by_cases hlt:k<n
  ·have hltz:(k:Int)<(n:Int):=by omega
   have hkl:k<N.length:=by rw [hnl.out];exact hlt
   obtain ⟨B,off,rfl,hB,iL,xs,hr,hv⟩:=(HU.out wr hbw).2.1.get hlt
   obtain ⟨⟨g1,g2,g3⟩,e1,sl⟩:=hr.VG
   simp only at e1 sl
   have HQ:Hid (∀ v,uT (qD s.1 (N.take k)) (getL (jW (N.getD k default)) s.1) v=qD s.1 (N.take (k+1)) v):=fun v=>OW s.1 hkl v
   have Cf:xs.length=9:=av.ae.len hr
   have hi9:(prog.info? 56).map (·.size)=some xs.length:=by rw [Cf];exact OI
   have abg:(prog.info? 56).map (·.size)=some xs.toArray.size:=by simpa using hi9
   have HO:Hid (xs.toArray.all (·.oneCell')=true):=Zi (av.ae.one hr)
   have iF:Hid (wr.rangeAt B (off+k*9) xs):=hv
   have mJ:Hid ((wr.alloc (.cells #[.string ⟨#[]⟩,.slice none 0 0,.slice none 0 0,.bool false,.int .i64 0,.int .i64 0,.int .i64 0,.int .i64 0,.int .i64 0] 56)).rangeAt B (off+k*9) xs):=fun j v hj=>(((Below.refl _ wr).alloc (Nat.le_refl _) _).cell hB).trans (hv j v hj)
   obtain ⟨V,hV⟩:∃ V,V=(wr.alloc (.cells #[.string ⟨#[]⟩,.slice none 0 0,.slice none 0 0,.bool false,.int .i64 0,.int .i64 0,.int .i64 0,.int .i64 0,.int .i64 0] 56)).setCells wr.heap.size 0 xs:=⟨_,rfl⟩
   have eP:Hid ((wr.alloc (.cells #[.string ⟨#[]⟩,.slice none 0 0,.slice none 0 0,.bool false,.int .i64 0,.int .i64 0,.int .i64 0,.int .i64 0,.int .i64 0] 56)).there wr.heap.size 0 xs.toArray.size):=by have e:xs.toArray.size=9:=(by simp [Cf]);rw [Hid,e];exact (af.new wr 56 [.string ⟨#[]⟩,.slice none 0 0,.slice none 0 0,.bool false,.int .i64 0,.int .i64 0,.int .i64 0,.int .i64 0,.int .i64 0]).there
   have bV:Below wr.heap.size wr V:=by rw [hV];exact cu ((Below.refl _ _).alloc (Nat.le_refl _) _) (Nat.le_refl _)
   have qV:af V wr.heap.size xs:=by rw [hV];exact dL (af.new wr 56 [.string ⟨#[]⟩,.slice none 0 0,.slice none 0 0,.bool false,.int .i64 0,.int .i64 0,.int .i64 0,.int .i64 0,.int .i64 0]) (by rw [Cf];rfl)
   have fA:Hid (V=(wr.alloc (.cells #[.string ⟨#[]⟩,.slice none 0 0,.slice none 0 0,.bool false,.int .i64 0,.int .i64 0,.int .i64 0,.int .i64 0,.int .i64 0] 56)).setCells wr.heap.size 0 xs.toArray.toList):=by rw [Hid,hV]
   clear hV
   have hC:=YH s r1 r2 r3 (w.heap.size+1+1) (w.heap.size+1+1+1) (w.heap.size+1+1) k f _ g1 g2 g3 _ (jW (N.getD k default)) V (hm1.on bV) (by have:=hbn.out;omega) (sl.on ak.ae bV)
   have n1:=(qV.2 1 _ e1).1
   obtain ⟨c0,c1,c2,c3,c4,c5⟩:=oL.of (hco.on bV).2
   have qB:Hid (∀ u,bu u (w.heap.size+1+1) (k+1) (uU f (getL (jW (N.getD k default)) s.1)) (uT (qD s.1 (N.take k)) (getL (jW (N.getD k default)) s.1))->bq (fun b=>b=(w.heap.size+1+1)) V u->(∃ f,bu u (w.heap.size+1+1) (k+1) f (qD s.1 (N.take (k+1))))/\bu u (w.heap.size+1+1+1) 0 (fun v=>bQ s v (dF ig (Pl.take 0))) (fun _=>false)/\jV w s r1 r2 r3 u/\Below w.heap.size w u):=fun u h1 h2=>⟨⟨_,h1.as (fun _=>rfl) HQ.out⟩,(hm2.on bV).turned h2 (by omega),(hco.on bV).turned h2 (by omega) (by omega),Cs (ah hbw bV) h2 (by omega)⟩
   clear hr hv hm1 hm2 hco hbw sl HQ qV bV e1
   generalize N.getD k default=x at hC qB
   generalize uU f (getL (jW x) s.1)=f' at hC qB
   generalize uT (qD s.1 (N.take k)) (getL (jW x) s.1)=q' at hC qB
   go_wp2_with (first | (refine wpList_load_mid rfl 56 _ rfl B (off+k*9) rfl xs _ iF.out underlying56 rfl hi9 ?_) | (refine wpList_load_mid rfl 56 _ rfl B (off+k*9) rfl xs _ mJ.out underlying56 rfl hi9 ?_) | (refine wpList_store_mid rfl 56 _ _ rfl wr.heap.size 0 xs.toArray rfl rfl eP.out abg HO.out ?_;refine kF fA.out ?_) | fail)
   refine hC.mono ?_
   rintro e w6 ⟨rfl,Gg,Gb⟩
   have nP:=qB.out w6 Gg Gb
   clear hC Gg Gb qB c0 c1 c2 c3 c4 c5 n1 eP HO iF mJ fA
   have ji:Hid ((∃ f,bu w6 (w.heap.size+1+1) (k+1) f (qD s.1 (N.take (k+1))))/\bu w6 (w.heap.size+1+1+1) 0 (fun v=>bQ s v (dF ig (Pl.take 0))) (fun _=>false)/\jV w s r1 r2 r3 w6/\Below w.heap.size w w6):=nP
   clear nP
   go_wp2_with fail
   go_roundw
   case rel=>exact ⟨k+1,by omega,by go_num,ji⟩
   case measure=>simp [intOf];omega
  ·have htk:N.take k=N:=List.take_of_length_le (by rw [hnl.out];omega)
   have hkn:k=n:=by omega
   rw [htk,hkn] at hm1
   obtain ⟨w4,rfl⟩:∃ u,u=wr:=⟨_,rfl⟩
   have HI2:Hid ((∃ q,bu w4 (w.heap.size+1+1+1) 0 (fun v=>bQ s v (dF ig (Pl.take 0))) q)/\bu w4 (w.heap.size+1+1) n f (qD s.1 N)/\jV w s r1 r2 r3 w4/\Below w.heap.size w w4):=⟨⟨_,hm2⟩,hm1,hco,hbw⟩
   clear hm1 hm2 hco hbw htk hkn
   go_wp2_with fail
   go_loopw [33] (fun i wr=>∃ k:Nat,k<=m/\i=.int .i64 k/\Hid ((∃ q,bu wr (w.heap.size+1+1+1) k (fun v=>bQ s v (dF ig (Pl.take k))) q)/\bu wr (w.heap.size+1+1) n f (qD s.1 N)/\jV w s r1 r2 r3 wr/\Below w.heap.size w wr)) (fun i _=>m - (intOf i).toNat)
   case atStart=>exact ⟨0,Nat.zero_le _,rfl,HI2⟩
   case round =>
    obtain ⟨k,hk,rfl,hrun⟩:=hrel
    obtain ⟨⟨q,hm2⟩,hm1,hco,hbw⟩:=hrun.out
    clear hrun HI2
    by_cases hlt:k<m
    ·have hltz:(k:Int)<(m:Int):=by omega
     have hkl:k<Pl.length:=by rw [lg.out];exact hlt
     have hkb:k<140737488355328:=by have:=Z0.out;omega
     obtain ⟨B,off,rfl,hB,iL,xs,hr,hv⟩:=(HU.out wr hbw).2.2.get hlt
     have iT:Hid (sI ig s (Pl.getD k default)=false->∀ v,bQ s v (dF ig (Pl.take k))=bQ s v (dF ig (Pl.take (k+1)))):=fun h v=>Ps ig s hkl h v
     have gp:Hid (sI ig s (Pl.getD k default)=true->∀ v,uU (fun v=>bQ s v (dF ig (Pl.take k))) (getL (Pl.getD k default).2 s.1) v=bQ s v (dF ig (Pl.take (k+1)))):=fun h v=>KD ig s hkl h v
     generalize hx:Pl.getD k default=x at hr iT gp
     clear hx
     have wo:xs.length=17:=aL.ae.len hr
     have kM:(prog.info? 145).map (·.size)=some xs.length:=by rw [wo];exact OH
     have yQ:(prog.info? 145).map (·.size)=some xs.toArray.size:=by simpa using kM
     have HO:Hid (xs.toArray.all (·.oneCell')=true):=Zi (aL.ae.one hr)
     have iF:Hid (wr.rangeAt B (off+k*17) xs):=hv
     have mJ:Hid ((wr.alloc (.cells #[.string ⟨#[]⟩,.int .i64 0,.slice none 0 0,.int .i64 0,.int .i64 0,.int .i64 0,.slice none 0 0,.slice none 0 0,.slice none 0 0,.slice none 0 0,.slice none 0 0,.slice none 0 0,.slice none 0 0,.slice none 0 0,.string ⟨#[]⟩,.string ⟨#[]⟩,.slice none 0 0] 145)).rangeAt B (off+k*17) xs):=fun j v hj=>(((Below.refl _ wr).alloc (Nat.le_refl _) _).cell hB).trans (hv j v hj)
     obtain ⟨V,hV⟩:∃ V,V=(wr.alloc (.cells #[.string ⟨#[]⟩,.int .i64 0,.slice none 0 0,.int .i64 0,.int .i64 0,.int .i64 0,.slice none 0 0,.slice none 0 0,.slice none 0 0,.slice none 0 0,.slice none 0 0,.slice none 0 0,.slice none 0 0,.slice none 0 0,.string ⟨#[]⟩,.string ⟨#[]⟩,.slice none 0 0] 145)).setCells wr.heap.size 0 xs:=⟨_,rfl⟩
     have eP:Hid ((wr.alloc (.cells #[.string ⟨#[]⟩,.int .i64 0,.slice none 0 0,.int .i64 0,.int .i64 0,.int .i64 0,.slice none 0 0,.slice none 0 0,.slice none 0 0,.slice none 0 0,.slice none 0 0,.slice none 0 0,.slice none 0 0,.slice none 0 0,.string ⟨#[]⟩,.string ⟨#[]⟩,.slice none 0 0] 145)).there wr.heap.size 0 xs.toArray.size):=by have e:xs.toArray.size=17:=(by simp [wo]);rw [Hid,e];exact (af.new wr 145 [.string ⟨#[]⟩,.int .i64 0,.slice none 0 0,.int .i64 0,.int .i64 0,.int .i64 0,.slice none 0 0,.slice none 0 0,.slice none 0 0,.slice none 0 0,.slice none 0 0,.slice none 0 0,.slice none 0 0,.slice none 0 0,.string ⟨#[]⟩,.string ⟨#[]⟩,.slice none 0 0]).there
     have bV:Below wr.heap.size wr V:=by rw [hV];exact cu ((Below.refl _ _).alloc (Nat.le_refl _) _) (Nat.le_refl _)
     have qV:af V wr.heap.size xs:=by rw [hV];exact dL (af.new wr 145 [.string ⟨#[]⟩,.int .i64 0,.slice none 0 0,.int .i64 0,.int .i64 0,.int .i64 0,.slice none 0 0,.slice none 0 0,.slice none 0 0,.slice none 0 0,.slice none 0 0,.slice none 0 0,.slice none 0 0,.slice none 0 0,.string ⟨#[]⟩,.string ⟨#[]⟩,.slice none 0 0]) (by rw [wo];rfl)
     have fA:Hid (V=(wr.alloc (.cells #[.string ⟨#[]⟩,.int .i64 0,.slice none 0 0,.int .i64 0,.int .i64 0,.int .i64 0,.slice none 0 0,.slice none 0 0,.slice none 0 0,.slice none 0 0,.slice none 0 0,.slice none 0 0,.slice none 0 0,.slice none 0 0,.string ⟨#[]⟩,.string ⟨#[]⟩,.slice none 0 0] 145)).setCells wr.heap.size 0 xs.toArray.toList):=by rw [Hid,hV]
     clear hV
     obtain ⟨ps,⟨g1,g2,g3⟩,hxs,hps,uH,sl⟩:=hr.abH
     simp only at hxs sl
     have hiP:(prog.info? 41).map (·.size)=some ps.length:=by rw [hps];exact PO
     have r0:V.rangeAt wr.heap.size 0 ps:=fun j v hj=>qV.range j v (by rw [hxs,List.getElem?_append_left (List.getElem?_eq_some_iff.1 hj).1];exact hj)
     have e16:xs[16]?=some (.slice g1 g2 g3):=by rw [hxs,List.getElem?_append_right (by omega),hps];rfl
     have M5:Below w.heap.size w V:=ah hbw bV
     have HX:Hid (∀ u,Below V.heap.size V u->oL (w.heap.size+1+1+1+1) s r1 r2 r3 (w.heap.size+1+1) (w.heap.size+1+1+1) u/\u.rangeAt wr.heap.size 0 ps/\u.cell? ⟨wr.heap.size,16,none⟩=some (.slice g1 g2 g3)/\aj (fun _=>True) u ps x.1/\ag ak 2 32 (fun _=>True) u g1 g2 g3 x.2/\ag aU 3 48 (fun _=>True) u r1 r2 r3 (jk s)):=fun u hb=>by
      refine ⟨oL.of (((hco.on bV).on hb).2),fun j v hj=>(hb.cell (p:=⟨wr.heap.size,_,none⟩) qV.1).trans (r0 j v hj),((qV.on hb).2 16 _ e16).1,aj.ae.kept uH (Kept.below (ah bV hb)),sl.on ak.ae (ah bV hb),(HU.out u (ah M5 hb)).1⟩
     have HM:Hid (∀ u,Below V.heap.size V u->bu u (w.heap.size+1+1+1) k (fun v=>bQ s v (dF ig (Pl.take k))) q/\bu u (w.heap.size+1+1) n f (qD s.1 N)/\jV w s r1 r2 r3 u/\Below w.heap.size w u):=fun u hb=>⟨hm2.on (ah bV hb),hm1.on (ah bV hb),hco.on (ah bV hb),ah M5 hb⟩
     have Og:Hid (sI ig s x=false->∀ u,Below V.heap.size V u->(∃ q,bu u (w.heap.size+1+1+1) (k+1) (fun v=>bQ s v (dF ig (Pl.take (k+1)))) q)/\bu u (w.heap.size+1+1) n f (qD s.1 N)/\jV w s r1 r2 r3 u/\Below w.heap.size w u):=fun h u hb=>by
      obtain ⟨h1,h2⟩:=HM.out u hb
      exact ⟨⟨q,(h1.mono (Nat.le_succ _)).as (iT.out h) (fun _=>rfl)⟩,h2⟩
     have xm:Hid (sI ig s x=true->∀ u0,Below V.heap.size V u0->∀ u,bu u (w.heap.size+1+1+1) (k+1) (uU (fun v=>bQ s v (dF ig (Pl.take k))) (getL x.2 s.1)) (uT q (getL x.2 s.1))->bq (fun b=>b=(w.heap.size+1+1+1)) u0 u->(∃ q,bu u (w.heap.size+1+1+1) (k+1) (fun v=>bQ s v (dF ig (Pl.take (k+1)))) q)/\bu u (w.heap.size+1+1) n f (qD s.1 N)/\jV w s r1 r2 r3 u/\Below w.heap.size w u):=fun h u0 hb u hu ht=>by
      obtain ⟨_,h2,h3,h4⟩:=HM.out u0 hb
      exact ⟨⟨_,hu.as (gp.out h) (fun _=>rfl)⟩,h2.turned ht (by omega),h3.turned ht (by omega) (by omega),Cs h4 ht (by omega)⟩
     have Ck:=hI.out V ps x.1 M5 (HX.out V (Below.refl _ _)).2.2.2.1
     have NT:Hid (V.rangeAt wr.heap.size 0 ps):=r0
     clear hr hv hm1 hm2 hco hbw sl qV bV uH r0 e16 hxs M5 iT gp iL
     have hh:sI ig s x=(!ig x.1 && bE (bG x.1) (jk s)):=rfl
     cases hig:ig x.1
     case true =>
      rw [hig] at Ck hh
      have HE:=Og.out (by rw [hh];rfl)
      clear Og xm HM HX hh hig
      have HE':Hid (∀ u,Below V.heap.size V u->(∃ q,bu u (w.heap.size+1+1+1) (k+1) (fun v=>bQ s v (dF ig (Pl.take (k+1)))) q)/\bu u (w.heap.size+1+1) n f (qD s.1 N)/\jV w s r1 r2 r3 u/\Below w.heap.size w u):=HE
      clear HE
      go_wp2_with (first | (refine wpList_load_mid rfl 145 _ rfl B (off+k*17) rfl xs _ iF.out underlying145 rfl kM ?_) | (refine wpList_load_mid rfl 145 _ rfl B (off+k*17) rfl xs _ mJ.out underlying145 rfl kM ?_) | (refine wpList_store_mid rfl 145 _ _ rfl wr.heap.size 0 xs.toArray rfl rfl eP.out yQ HO.out ?_;refine kF fA.out ?_) | (refine wpList_load_mid rfl 41 _ rfl wr.heap.size 0 rfl ps _ NT.out underlying41 rfl hiP ?_) | fail)
      refine Ck.mono ?_
      rintro e w6 ⟨rfl,hb6⟩
      have ji:Hid ((∃ q,bu w6 (w.heap.size+1+1+1) (k+1) (fun v=>bQ s v (dF ig (Pl.take (k+1)))) q)/\bu w6 (w.heap.size+1+1) n f (qD s.1 N)/\jV w s r1 r2 r3 w6/\Below w.heap.size w w6):=HE'.out w6 hb6
      clear HE' Ck hb6 NT eP HO iF mJ fA
      go_wp2_with fail
      go_roundw
      case rel=>exact ⟨k+1,by omega,by go_num,ji⟩
      case measure=>simp [intOf];omega
     case false =>
      rw [hig] at Ck hh
      simp only [Bool.not_false,Bool.true_and] at hh
      have Lp:Hid (bE (bG x.1) (jk s)=false->∀ u,Below V.heap.size V u->(∃ q,bu u (w.heap.size+1+1+1) (k+1) (fun v=>bQ s v (dF ig (Pl.take (k+1)))) q)/\bu u (w.heap.size+1+1) n f (qD s.1 N)/\jV w s r1 r2 r3 u/\Below w.heap.size w u):=fun h=>Og.out (by rw [hh];exact h)
      have Lm:Hid (bE (bG x.1) (jk s)=true->∀ u0,Below V.heap.size V u0->∀ u,bu u (w.heap.size+1+1+1) (k+1) (uU (fun v=>bQ s v (dF ig (Pl.take k))) (getL x.2 s.1)) (uT q (getL x.2 s.1))->bq (fun b=>b=(w.heap.size+1+1+1)) u0 u->(∃ q,bu u (w.heap.size+1+1+1) (k+1) (fun v=>bQ s v (dF ig (Pl.take (k+1)))) q)/\bu u (w.heap.size+1+1) n f (qD s.1 N)/\jV w s r1 r2 r3 u/\Below w.heap.size w u):=fun h=>xm.out (by rw [hh];exact h)
      clear Og xm hh hig
      have UC:Hid (∀ u,Below V.heap.size V u->bu u (w.heap.size+1+1+1) k (fun v=>bQ s v (dF ig (Pl.take k))) q):=fun u hb=>(HM.out u hb).1
      clear HM
      go_wp2_with (first | (refine wpList_load_mid rfl 145 _ rfl B (off+k*17) rfl xs _ iF.out underlying145 rfl kM ?_) | (refine wpList_load_mid rfl 145 _ rfl B (off+k*17) rfl xs _ mJ.out underlying145 rfl kM ?_) | (refine wpList_store_mid rfl 145 _ _ rfl wr.heap.size 0 xs.toArray rfl rfl eP.out yQ HO.out ?_;refine kF fA.out ?_) | (refine wpList_load_mid rfl 41 _ rfl wr.heap.size 0 rfl ps _ NT.out underlying41 rfl hiP ?_) | fail)
      refine Ck.mono ?_
      rintro e w6 ⟨rfl,hb6⟩
      clear Ck NT eP HO iF mJ fA
      obtain ⟨⟨c0,c1,c2,c3,c4,c5⟩,hrg,_,uH,_,hrq⟩:=HX.out w6 hb6
      have NS:Hid (w6.rangeAt wr.heap.size 0 ps):=hrg
      have hMt:=YA s r1 r2 r3 (w.heap.size+1+1) (w.heap.size+1+1+1) _ _ ps x.1 w6 uH hrq
      have vW:Hid (Below V.heap.size V w6):=hb6
      clear hrg uH hrq hb6
      cases hmt:bE (bG x.1) (jk s)
      case false =>
       rw [hmt] at hMt
       have HE:Hid (∀ u,Below V.heap.size V u->(∃ q,bu u (w.heap.size+1+1+1) (k+1) (fun v=>bQ s v (dF ig (Pl.take (k+1)))) q)/\bu u (w.heap.size+1+1) n f (qD s.1 N)/\jV w s r1 r2 r3 u/\Below w.heap.size w u):=Lp.out hmt
       clear Lp Lm HX UC hmt
       go_wp2_with (first | (refine BS rfl 41 _ rfl wr.heap.size 0 rfl ps _ NS.out underlying41 rfl hiP ?_) | fail)
       refine hMt.mono ?_
       rintro e w7 ⟨rfl,iK⟩
       have ji:Hid ((∃ q,bu w7 (w.heap.size+1+1+1) (k+1) (fun v=>bQ s v (dF ig (Pl.take (k+1)))) q)/\bu w7 (w.heap.size+1+1) n f (qD s.1 N)/\jV w s r1 r2 r3 w7/\Below w.heap.size w w7):=HE.out w7 (ah vW.out iK)
       clear HE hMt iK NS vW c0 c1 c2 c3 c4 c5
       go_wp2_with fail
       go_roundw
       case rel=>exact ⟨k+1,by omega,by go_num,ji⟩
       case measure=>simp [intOf];omega
      case true =>
       rw [hmt] at hMt
       have HE:Hid (∀ u0,Below V.heap.size V u0->∀ u,bu u (w.heap.size+1+1+1) (k+1) (uU (fun v=>bQ s v (dF ig (Pl.take k))) (getL x.2 s.1)) (uT q (getL x.2 s.1))->bq (fun b=>b=(w.heap.size+1+1+1)) u0 u->(∃ q,bu u (w.heap.size+1+1+1) (k+1) (fun v=>bQ s v (dF ig (Pl.take (k+1)))) q)/\bu u (w.heap.size+1+1) n f (qD s.1 N)/\jV w s r1 r2 r3 u/\Below w.heap.size w u):=Lm.out hmt
       clear Lp Lm hmt
       go_wp2_with (first | (refine BS rfl 41 _ rfl wr.heap.size 0 rfl ps _ NS.out underlying41 rfl hiP ?_) | fail)
       refine hMt.mono ?_
       rintro e w7 ⟨rfl,iK⟩
       have DC:=ah vW.out iK
       clear hMt NS c0 c1 c2 c3 c4 c5 iK vW
       obtain ⟨⟨c0,c1,c2,c3,c4,c5⟩,_,n1,_,hlb,_⟩:=HX.out w7 DC
       have hC:=YH s r1 r2 r3 (w.heap.size+1+1) (w.heap.size+1+1+1) (w.heap.size+1+1+1) k (fun v=>bQ s v (dF ig (Pl.take k))) q g1 g2 g3 _ x.2 w7 (UC.out w7 DC) hkb hlb
       have HE2:Hid (∀ u,bu u (w.heap.size+1+1+1) (k+1) (uU (fun v=>bQ s v (dF ig (Pl.take k))) (getL x.2 s.1)) (uT q (getL x.2 s.1))->bq (fun b=>b=(w.heap.size+1+1+1)) w7 u->(∃ q,bu u (w.heap.size+1+1+1) (k+1) (fun v=>bQ s v (dF ig (Pl.take (k+1)))) q)/\bu u (w.heap.size+1+1) n f (qD s.1 N)/\jV w s r1 r2 r3 u/\Below w.heap.size w u):=HE.out w7 DC
       clear HE HX UC hlb DC
       generalize uU (fun v=>bQ s v (dF ig (Pl.take k))) (getL x.2 s.1)=f' at hC HE2
       generalize uT q (getL x.2 s.1)=q' at hC HE2
       go_wp2_with fail
       refine hC.mono ?_
       rintro e w8 ⟨rfl,ZT,ZJ⟩
       have ji:Hid ((∃ q,bu w8 (w.heap.size+1+1+1) (k+1) (fun v=>bQ s v (dF ig (Pl.take (k+1)))) q)/\bu w8 (w.heap.size+1+1) n f (qD s.1 N)/\jV w s r1 r2 r3 w8/\Below w.heap.size w w8):=HE2.out w8 ZT ZJ
       clear hC ZT ZJ HE2 c0 c1 c2 c3 c4 c5 n1
       go_wp2_with fail
       go_roundw
       case rel=>exact ⟨k+1,by omega,by go_num,ji⟩
       case measure=>simp [intOf];omega
    ·have htk:Pl.take k=Pl:=List.take_of_length_le (by rw [lg.out];omega)
     rw [htk] at hm2
     obtain ⟨c0,c1,c2,c3,c4,c5⟩:=oL.of hco.2
     obtain ⟨V,hV⟩:∃ V,V=wr.setCells (w.heap.size+1) 0 (qg s r1 r2 r3 (w.heap.size+1+1) (w.heap.size+1+1+1)):=⟨_,rfl⟩
     have eP:Hid (wr.there (w.heap.size+1) 0 (#[.string s.1,.int .i64 s.2.1,.int .i64 s.2.2.1,.slice r1 r2 r3,.map (some (w.heap.size+1+1)),.map (some (w.heap.size+1+1+1))]:Array Value).size):=hco.1.there
     have fA:Hid (V=wr.setCells (w.heap.size+1) 0 (#[.string s.1,.int .i64 s.2.1,.int .i64 s.2.2.1,.slice r1 r2 r3,.map (some (w.heap.size+1+1)),.map (some (w.heap.size+1+1+1))]:Array Value).toList):=by rw [Hid,hV]
     have mO:Hid ((#[.string s.1,.int .i64 s.2.1,.int .i64 s.2.2.1,.slice r1 r2 r3,.map (some (w.heap.size+1+1)),.map (some (w.heap.size+1+1+1))]:Array Value).all (·.oneCell')=true):=by rw [Hid];simp [Value.oneCell']
     have kV:Kept (fun b=>b≠(w.heap.size+1)) wr V:=by rw [hV];exact dP (fun h=>h rfl)
     have bV:Below w.heap.size w V:=by rw [hV];exact cu hbw (by omega)
     have qV:af V (w.heap.size+1) (qg s r1 r2 r3 (w.heap.size+1+1) (w.heap.size+1+1+1)):=by rw [hV];exact dL hco.1 rfl
     have tC:Hid (lT V s r1 r2 r3 (w.heap.size+1+1) (w.heap.size+1+1+1) N (dF ig Pl)/\Below w.heap.size w V):=⟨⟨⟨f,n,hm1.same (kV.2 _ (by omega) hm1.lt),by have:=hbn.out;omega⟩,⟨q,k,hm2.same (kV.2 _ (by omega) hm2.lt),by have:=Z0.out;omega⟩,(HU.out V bV).1,HZ.out.1,HZ.out.2⟩,bV⟩
     obtain ⟨t0',t1',t2',rG,rF,rE⟩:=oL.of qV
     clear hm1 hm2 hco hbw htk kV bV qV hV HU hI HZ
     go_wp2_with (first | (refine wpList_store_mid rfl 164 _ _ rfl (w.heap.size+1) 0 #[.string s.1,.int .i64 s.2.1,.int .i64 s.2.2.1,.slice r1 r2 r3,.map (some (w.heap.size+1+1)),.map (some (w.heap.size+1+1+1))] rfl rfl eP.out RX mO.out ?_;refine kF fA.out ?_) | fail)
     refine bodyPost_ret (v:=.agg #[.string s.1,.int .i64 s.2.1,.int .i64 s.2.2.1,.slice r1 r2 r3,.map (some (w.heap.size+1+1)),.map (some (w.heap.size+1+1+1))]) (by simp [results,Tryz.results76,go_sem,t0',t1',t2',rG,rF,rE,Result.andThen]) rfl ?_
     exact ⟨_,_,rfl,tC.out⟩
end Go.Proofs.YtgikfenllgldoaaGreat
