/- Functions of the program, each walked under the conditions that its theorem names. -/
import Derived.Test.YtgikfenllgldoaaGreatQ21
set_option linter.unusedSimpArgs false
set_option maxRecDepth 100000
set_option maxHeartbeats 32000000
namespace Go.Proofs.YtgikfenllgldoaaGreat
open Go.Proofs.Tryz
open Go.RowKit Go.Maps
theorem Y3 (cs:List Value) (A:Where) (x:aT) (w:World) (h:aA A w cs x):Calls prog 58 #[.agg cs.toArray] w fun e w'=>e=.returned (.string x.1)/\Below w.heap.size w w':=by
 obtain ⟨W1,hW1⟩:∃ W,W=w.alloc (.cells cs.toArray 124):=⟨_,rfl⟩
 have B1:Below w.heap.size w W1:=by rw [hW1];go_grown
 have c0:W1.cell? ⟨w.heap.size,0,none⟩=some (.string x.1):=by rw [hW1];exact ((af.new w 124 cs).2 0 _ h.jZ.1).1
 clear h
 go_enter func58,ntmps58
 go_upto_region 1 with fail
 rw [<- hW1]
 clear hW1
 go_wp2_with fail
 go_ret
 exact ⟨rfl,B1⟩
theorem y8 (a:Option Addr) (n cap:Nat) (A:Where) (L:List aT) (w:World) (hL:Hid (ag aA 4 56 A w a n cap L)) :
  Calls prog 57 #[.slice a n cap,.func (.func 58) #[] #[]] w (wY w (.slice a n cap) (L.map Prod.fst)):=by
 have hnl:Hid (L.length=n):=hL.out.1
 have hbn:Hid (n*56<=140737488351232):=hL.out.2.2.2.1
 have hlen:=hL.out.len (by decide)
 have HU:Hid (∀ u,Below w.heap.size w u->ag aA 4 56 A u a n cap L):=fun u hb=>hL.out.on aA.ae hb
 clear hL
 obtain ⟨W1,hW1⟩:∃ W,W=w.alloc (.cells #[.slice none 0 0,.map none] 121):=⟨_,rfl⟩
 have B1:Below w.heap.size w W1:=by rw [hW1];go_grown
 have hz1:W1.heap.size=w.heap.size+1:=by rw [hW1];simp
 have q1:af W1 w.heap.size [.slice none 0 0,.map none]:=by rw [hW1];exact af.new w 121 _
 obtain ⟨W2,hW2⟩:∃ W,W=W1.alloc (.map #[] 0):=⟨_,rfl⟩
 have B2:Below W1.heap.size W1 W2:=by rw [hW2];go_grown
 have m2:aV W2 (w.heap.size+1) ((L.map Prod.fst).take 0):=by rw [hW2,<- hz1];exact aV.made W1
 have HI:Hid (aV W2 (w.heap.size+1) ((L.map Prod.fst).take 0)/\af W2 w.heap.size [.slice none 0 0,.map none]/\Below w.heap.size w W2):=⟨m2,q1.on B2,ah B1 B2⟩
 have hmm:=EG
 have HZ:Hid (W1.heap.size=w.heap.size+1):=hz1
 clear B1 q1 B2 m2 hz1
 have eg:=enters_of func58 (by kernel_rfl) rfl
 go_enter func57,ntmps57
 go_upto_region 1 with fail
 rw [<- hW1]
 clear hW1
 go_upto_region 2 with fail
 rw [<- hW2]
 clear hW2
 rw [HZ.out]
 clear hmm HZ
 go_wp2_with fail
 go_loopw [15] (fun i wr=>∃ k:Nat,k<=n/\i=.int .i64 k/\Hid (aV wr (w.heap.size+1) ((L.map Prod.fst).take k)/\af wr w.heap.size [.slice none 0 0,.map none]/\Below w.heap.size w wr)) (fun i _=>n - (intOf i).toNat)
 case atStart=>exact ⟨0,Nat.zero_le _,rfl,HI⟩
 case round =>
  obtain ⟨k,hk,rfl,hrun⟩:=hrel
  obtain ⟨hm,hq,hbw⟩:=hrun.out
  clear hrun HI
  by_cases hlt:k<n
  ·have hltz:(k:Int)<(n:Int):=by omega
   have hkl:k<L.length:=by rw [hnl.out];exact hlt
   obtain ⟨B,off,rfl,hB,iL,xs,hr,hv⟩:=(HU.out wr hbw).get hlt
   have hl:xs.length=4:=aA.ae.len hr
   have hi:(prog.info? 124).map (·.size)=some xs.length:=by rw [hl];exact Eo
   have hia:(prog.info? 124).map (·.size)=some xs.toArray.size:=by simpa using hi
   have HO:Hid (xs.toArray.all (·.oneCell')=true):=Bo (aA.ae.one hr)
   have iF:Hid (wr.rangeAt B (off+k*4) xs):=hv
   have mJ:Hid ((wr.alloc (.cells #[.string ⟨#[]⟩,.int .i64 0,.string ⟨#[]⟩,.string ⟨#[]⟩] 124)).rangeAt B (off+k*4) xs):=fun j v hj=>(((Below.refl _ wr).alloc (Nat.le_refl _) _).cell hB).trans (hv j v hj)
   obtain ⟨V,hV⟩:∃ V,V=(wr.alloc (.cells #[.string ⟨#[]⟩,.int .i64 0,.string ⟨#[]⟩,.string ⟨#[]⟩] 124)).setCells wr.heap.size 0 xs:=⟨_,rfl⟩
   have eP:Hid ((wr.alloc (.cells #[.string ⟨#[]⟩,.int .i64 0,.string ⟨#[]⟩,.string ⟨#[]⟩] 124)).there wr.heap.size 0 xs.toArray.size):=by have e:xs.toArray.size=4:=(by simp [hl]);rw [Hid,e];exact (af.new wr 124 [.string ⟨#[]⟩,.int .i64 0,.string ⟨#[]⟩,.string ⟨#[]⟩]).there
   have bV:Below wr.heap.size wr V:=by rw [hV];exact cu ((Below.refl _ _).alloc (Nat.le_refl _) _) (Nat.le_refl _)
   have qV:af V wr.heap.size xs:=by rw [hV];exact dL (af.new wr 124 [.string ⟨#[]⟩,.int .i64 0,.string ⟨#[]⟩,.string ⟨#[]⟩]) (by rw [hl];rfl)
   have fA:Hid (V=(wr.alloc (.cells #[.string ⟨#[]⟩,.int .i64 0,.string ⟨#[]⟩,.string ⟨#[]⟩] 124)).setCells wr.heap.size 0 xs.toArray.toList):=by rw [Hid,hV]
   clear hV
   have pR:=aA.ae.kept hr (Kept.below bV)
   have hC:=Y3 xs A (L.getD k default) V pR
   have hsz:(L.getD k default).1.size<=140737488355328:=hr.jZ.2
   have HT:Hid ((L.map Prod.fst).take (k+1)=(L.map Prod.fst).take k++[(L.getD k default).1]):=EB Prod.fst hkl
   have HL:Hid (((L.map Prod.fst).take k).length=k):=by rw [Hid,List.length_take,List.length_map];omega
   have HN:Hid (∀ u,Below V.heap.size V u->Below w.heap.size w u/\aV u (w.heap.size+1) ((L.map Prod.fst).take k)/\af u w.heap.size [.slice none 0 0,.map none]/\u.rangeAt wr.heap.size 0 xs/\aA A u xs (L.getD k default)):=fun u hb=>⟨ah (ah hbw bV) hb,hm.on (ah bV hb),hq.on (ah bV hb),(qV.on hb).range,aA.ae.kept pR (Kept.below hb)⟩
   have HX0:Hid (V.rangeAt wr.heap.size 0 xs):=qV.range
   clear hr hv hm hq hbw qV bV pR hB iL
   generalize (L.getD k default)=x at hC hsz HT HN
   generalize (L.map Prod.fst).take k=N at HT HL HN
   go_wp2_with (first | (refine wpList_load_mid rfl 124 _ rfl B (off+k*4) rfl xs _ iF.out underlying124 rfl hi ?_) | (refine wpList_load_mid rfl 124 _ rfl B (off+k*4) rfl xs _ mJ.out underlying124 rfl hi ?_) | (refine wpList_store_mid rfl 124 _ _ rfl wr.heap.size 0 xs.toArray rfl rfl eP.out hia HO.out ?_;refine kF fA.out ?_) | (refine wpList_load_mid rfl 124 _ rfl wr.heap.size 0 rfl xs _ HX0.out underlying124 rfl hi ?_) | fail)
   refine hC.mono ?_
   rintro e w6 ⟨rfl,hb6⟩
   obtain ⟨qK,nZ,q6,r6,R6⟩:=HN.out w6 hb6
   clear hC eP HO iF mJ fA HX0 hia
   have hlk:=nZ.look 119 underlying119 hsz
   cases hf:fI N x.1 with
   | some j =>
    rw [hf] at hlk
    have ji:Hid (aV w6 (w.heap.size+1) ((L.map Prod.fst).take (k+1))/\af w6 w.heap.size [.slice none 0 0,.map none]/\Below w.heap.size w w6):=⟨by rw [HT.out];exact nZ.more hf,q6,qK⟩
    simp only [Option.isSome_some,Option.getD_some] at hlk
    clear nZ q6 qK r6 R6 HN HT HL hf hb6
    go_wp2_with fail
    go_roundw
    case rel=>exact ⟨k+1,by omega,by go_num,ji⟩
    case measure=>simp [intOf];omega
   | none =>
    rw [hf] at hlk
    simp only [Option.isSome_none,Option.getD_none] at hlk
    have hC:=Y3 xs A x w6 R6
    have ku:Hid (w6.rangeAt wr.heap.size 0 xs):=r6
    have yD:Hid (∀ u,Below w6.heap.size w6 u->Below w.heap.size w u/\aV u (w.heap.size+1) N/\af u w.heap.size [.slice none 0 0,.map none]):=fun u hb=>⟨ah qK hb,nZ.on hb,q6.on hb⟩
    clear nZ q6 qK r6 R6 HN hb6
    go_wp2_with (first | (refine wpList_load_mid rfl 124 _ rfl wr.heap.size 0 rfl xs _ ku.out underlying124 rfl hi ?_) | fail)
    refine hC.mono ?_
    rintro e w7 ⟨rfl,iK⟩
    obtain ⟨ym,xX,q7⟩:=yD.out w7 iK
    obtain ⟨w8,hup,uy,mH⟩:=xX.put 119 underlying119 hsz hf (by have h1:=hbn.out;have h2:=HL.out;omega)
    have ji:Hid (aV w8 (w.heap.size+1) ((L.map Prod.fst).take (k+1))/\af w8 w.heap.size [.slice none 0 0,.map none]/\Below w.heap.size w w8):=⟨by rw [HT.out];exact uy,q7.vD mH (by omega),Mc ym mH (by omega)⟩
    rw [HL.out] at hup
    clear xX q7 ym uy mH yD HT HL hf iK hC ku hlk
    go_wp2_with fail
    go_roundw
    case rel=>exact ⟨k+1,by omega,by go_num,ji⟩
    case measure=>simp [intOf];omega
  ·have htk:(L.map Prod.fst).take k=L.map Prod.fst:=List.take_of_length_le (by rw [List.length_map,hnl.out];omega)
   rw [htk] at hm
   obtain ⟨V,hV⟩:∃ V,V=wr.setCells w.heap.size 0 [.slice a n cap,.map (some (w.heap.size+1))]:=⟨_,rfl⟩
   have eP:Hid (wr.there w.heap.size 0 (#[.slice a n cap,.map (some (w.heap.size+1))]:Array Value).size):=hq.there
   have fA:Hid (V=wr.setCells w.heap.size 0 (#[.slice a n cap,.map (some (w.heap.size+1))]:Array Value).toList):=by rw [Hid,hV]
   have mO:Hid ((#[.slice a n cap,.map (some (w.heap.size+1))]:Array Value).all (·.oneCell')=true):=by rw [Hid];simp [Value.oneCell']
   have kV:Kept (fun b=>b≠w.heap.size) wr V:=by rw [hV];exact dP (fun h=>h rfl)
   have qV:af V w.heap.size [.slice a n cap,.map (some (w.heap.size+1))]:=by rw [hV];exact dL hq rfl
   have tC:Hid (aV V (w.heap.size+1) (L.map Prod.fst)/\w.heap.size<=w.heap.size+1/\Below w.heap.size w V):=⟨hm.kept kV (by omega),by omega,by rw [hV];exact cu hbw (by omega)⟩
   have t0:=(qV.2 0 _ rfl).1
   have t1:=(qV.2 1 _ rfl).1
   have wm:(prog.info? 121).map (·.size)=some (#[.slice a n cap,.map (some (w.heap.size+1))]:Array Value).size:=by kernel_rfl
   clear hm hq hbw htk kV qV hV HU
   go_wp2_with (first | (refine wpList_store_mid rfl 121 _ _ rfl w.heap.size 0 #[.slice a n cap,.map (some (w.heap.size+1))] rfl rfl eP.out wm mO.out ?_;refine kF fA.out ?_) | fail)
   refine bodyPost_ret (v:=.agg #[.slice a n cap,.map (some (w.heap.size+1))]) (by simp [results,Tryz.results57,go_sem,t0,t1,Result.andThen]) rfl ?_
   exact ⟨_,rfl,tC.out⟩
theorem Y7 (cs:List Value) (A:Where) (x:aD) (w:World) (h:ai A w cs x):Calls prog 60 #[.agg cs.toArray] w fun e w'=>e=.returned (.string x.1)/\Below w.heap.size w w':=by
 obtain ⟨W1,hW1⟩:∃ W,W=w.alloc (.cells cs.toArray 59):=⟨_,rfl⟩
 have B1:Below w.heap.size w W1:=by rw [hW1];go_grown
 have c0:W1.cell? ⟨w.heap.size,0,none⟩=some (.string x.1):=by rw [hW1];exact ((af.new w 59 cs).2 0 _ h.jZ.1).1
 clear h
 go_enter func60,ntmps60
 go_upto_region 1 with fail
 rw [<- hW1]
 clear hW1
 go_wp2_with fail
 go_ret
 exact ⟨rfl,B1⟩
theorem qE (a:Option Addr) (n cap:Nat) (A:Where) (L:List aD) (w:World) (hL:Hid (ag ai 5 72 A w a n cap L)) :
  Calls prog 59 #[.slice a n cap,.func (.func 60) #[] #[]] w (wY w (.slice a n cap) (L.map Prod.fst)):=by
 have hnl:Hid (L.length=n):=hL.out.1
 have hbn:Hid (n*72<=140737488351232):=hL.out.2.2.2.1
 have hlen:=hL.out.len (by decide)
 have HU:Hid (∀ u,Below w.heap.size w u->ag ai 5 72 A u a n cap L):=fun u hb=>hL.out.on ai.ae hb
 clear hL
 obtain ⟨W1,hW1⟩:∃ W,W=w.alloc (.cells #[.slice none 0 0,.map none] 127):=⟨_,rfl⟩
 have B1:Below w.heap.size w W1:=by rw [hW1];go_grown
 have hz1:W1.heap.size=w.heap.size+1:=by rw [hW1];simp
 have q1:af W1 w.heap.size [.slice none 0 0,.map none]:=by rw [hW1];exact af.new w 127 _
 obtain ⟨W2,hW2⟩:∃ W,W=W1.alloc (.map #[] 0):=⟨_,rfl⟩
 have B2:Below W1.heap.size W1 W2:=by rw [hW2];go_grown
 have m2:aV W2 (w.heap.size+1) ((L.map Prod.fst).take 0):=by rw [hW2,<- hz1];exact aV.made W1
 have HI:Hid (aV W2 (w.heap.size+1) ((L.map Prod.fst).take 0)/\af W2 w.heap.size [.slice none 0 0,.map none]/\Below w.heap.size w W2):=⟨m2,q1.on B2,ah B1 B2⟩
 have hmm:=EG
 have HZ:Hid (W1.heap.size=w.heap.size+1):=hz1
 clear B1 q1 B2 m2 hz1
 have eg:=enters_of func60 (by kernel_rfl) rfl
 go_enter func59,ntmps59
 go_upto_region 1 with fail
 rw [<- hW1]
 clear hW1
 go_upto_region 2 with fail
 rw [<- hW2]
 clear hW2
 rw [HZ.out]
 clear hmm HZ
 go_wp2_with fail
 go_loopw [15] (fun i wr=>∃ k:Nat,k<=n/\i=.int .i64 k/\Hid (aV wr (w.heap.size+1) ((L.map Prod.fst).take k)/\af wr w.heap.size [.slice none 0 0,.map none]/\Below w.heap.size w wr)) (fun i _=>n - (intOf i).toNat)
 case atStart=>exact ⟨0,Nat.zero_le _,rfl,HI⟩
 case round =>
  obtain ⟨k,hk,rfl,hrun⟩:=hrel
  obtain ⟨hm,hq,hbw⟩:=hrun.out
  clear hrun HI
  by_cases hlt:k<n
  ·have hltz:(k:Int)<(n:Int):=by omega
   have hkl:k<L.length:=by rw [hnl.out];exact hlt
   obtain ⟨B,off,rfl,hB,iL,xs,hr,hv⟩:=(HU.out wr hbw).get hlt
   have hl:xs.length=5:=ai.ae.len hr
   have hi:(prog.info? 59).map (·.size)=some xs.length:=by rw [hl];exact wI
   have hia:(prog.info? 59).map (·.size)=some xs.toArray.size:=by simpa using hi
   have HO:Hid (xs.toArray.all (·.oneCell')=true):=Bo (ai.ae.one hr)
   have iF:Hid (wr.rangeAt B (off+k*5) xs):=hv
   have mJ:Hid ((wr.alloc (.cells #[.string ⟨#[]⟩,.int .i64 0,.string ⟨#[]⟩,.slice none 0 0,.string ⟨#[]⟩] 59)).rangeAt B (off+k*5) xs):=fun j v hj=>(((Below.refl _ wr).alloc (Nat.le_refl _) _).cell hB).trans (hv j v hj)
   obtain ⟨V,hV⟩:∃ V,V=(wr.alloc (.cells #[.string ⟨#[]⟩,.int .i64 0,.string ⟨#[]⟩,.slice none 0 0,.string ⟨#[]⟩] 59)).setCells wr.heap.size 0 xs:=⟨_,rfl⟩
   have eP:Hid ((wr.alloc (.cells #[.string ⟨#[]⟩,.int .i64 0,.string ⟨#[]⟩,.slice none 0 0,.string ⟨#[]⟩] 59)).there wr.heap.size 0 xs.toArray.size):=by have e:xs.toArray.size=5:=(by simp [hl]);rw [Hid,e];exact (af.new wr 59 [.string ⟨#[]⟩,.int .i64 0,.string ⟨#[]⟩,.slice none 0 0,.string ⟨#[]⟩]).there
   have bV:Below wr.heap.size wr V:=by rw [hV];exact cu ((Below.refl _ _).alloc (Nat.le_refl _) _) (Nat.le_refl _)
   have qV:af V wr.heap.size xs:=by rw [hV];exact dL (af.new wr 59 [.string ⟨#[]⟩,.int .i64 0,.string ⟨#[]⟩,.slice none 0 0,.string ⟨#[]⟩]) (by rw [hl];rfl)
   have fA:Hid (V=(wr.alloc (.cells #[.string ⟨#[]⟩,.int .i64 0,.string ⟨#[]⟩,.slice none 0 0,.string ⟨#[]⟩] 59)).setCells wr.heap.size 0 xs.toArray.toList):=by rw [Hid,hV]
   clear hV
   have pR:=ai.ae.kept hr (Kept.below bV)
   have hC:=Y7 xs A (L.getD k default) V pR
   have hsz:(L.getD k default).1.size<=140737488355328:=hr.jZ.2
   have HT:Hid ((L.map Prod.fst).take (k+1)=(L.map Prod.fst).take k++[(L.getD k default).1]):=EB Prod.fst hkl
   have HL:Hid (((L.map Prod.fst).take k).length=k):=by rw [Hid,List.length_take,List.length_map];omega
   have HN:Hid (∀ u,Below V.heap.size V u->Below w.heap.size w u/\aV u (w.heap.size+1) ((L.map Prod.fst).take k)/\af u w.heap.size [.slice none 0 0,.map none]/\u.rangeAt wr.heap.size 0 xs/\ai A u xs (L.getD k default)):=fun u hb=>⟨ah (ah hbw bV) hb,hm.on (ah bV hb),hq.on (ah bV hb),(qV.on hb).range,ai.ae.kept pR (Kept.below hb)⟩
   have HX0:Hid (V.rangeAt wr.heap.size 0 xs):=qV.range
   clear hr hv hm hq hbw qV bV pR hB iL
   generalize (L.getD k default)=x at hC hsz HT HN
   generalize (L.map Prod.fst).take k=N at HT HL HN
   go_wp2_with (first | (refine wpList_load_mid rfl 59 _ rfl B (off+k*5) rfl xs _ iF.out underlying59 rfl hi ?_) | (refine wpList_load_mid rfl 59 _ rfl B (off+k*5) rfl xs _ mJ.out underlying59 rfl hi ?_) | (refine wpList_store_mid rfl 59 _ _ rfl wr.heap.size 0 xs.toArray rfl rfl eP.out hia HO.out ?_;refine kF fA.out ?_) | (refine wpList_load_mid rfl 59 _ rfl wr.heap.size 0 rfl xs _ HX0.out underlying59 rfl hi ?_) | fail)
   refine hC.mono ?_
   rintro e w6 ⟨rfl,hb6⟩
   obtain ⟨qK,nZ,q6,r6,R6⟩:=HN.out w6 hb6
   clear hC eP HO iF mJ fA HX0 hia
   have hlk:=nZ.look 119 underlying119 hsz
   cases hf:fI N x.1 with
   | some j =>
    rw [hf] at hlk
    have ji:Hid (aV w6 (w.heap.size+1) ((L.map Prod.fst).take (k+1))/\af w6 w.heap.size [.slice none 0 0,.map none]/\Below w.heap.size w w6):=⟨by rw [HT.out];exact nZ.more hf,q6,qK⟩
    simp only [Option.isSome_some,Option.getD_some] at hlk
    clear nZ q6 qK r6 R6 HN HT HL hf hb6
    go_wp2_with fail
    go_roundw
    case rel=>exact ⟨k+1,by omega,by go_num,ji⟩
    case measure=>simp [intOf];omega
   | none =>
    rw [hf] at hlk
    simp only [Option.isSome_none,Option.getD_none] at hlk
    have hC:=Y7 xs A x w6 R6
    have ku:Hid (w6.rangeAt wr.heap.size 0 xs):=r6
    have yD:Hid (∀ u,Below w6.heap.size w6 u->Below w.heap.size w u/\aV u (w.heap.size+1) N/\af u w.heap.size [.slice none 0 0,.map none]):=fun u hb=>⟨ah qK hb,nZ.on hb,q6.on hb⟩
    clear nZ q6 qK r6 R6 HN hb6
    go_wp2_with (first | (refine wpList_load_mid rfl 59 _ rfl wr.heap.size 0 rfl xs _ ku.out underlying59 rfl hi ?_) | fail)
    refine hC.mono ?_
    rintro e w7 ⟨rfl,iK⟩
    obtain ⟨ym,xX,q7⟩:=yD.out w7 iK
    obtain ⟨w8,hup,uy,mH⟩:=xX.put 119 underlying119 hsz hf (by have h1:=hbn.out;have h2:=HL.out;omega)
    have ji:Hid (aV w8 (w.heap.size+1) ((L.map Prod.fst).take (k+1))/\af w8 w.heap.size [.slice none 0 0,.map none]/\Below w.heap.size w w8):=⟨by rw [HT.out];exact uy,q7.vD mH (by omega),Mc ym mH (by omega)⟩
    rw [HL.out] at hup
    clear xX q7 ym uy mH yD HT HL hf iK hC ku hlk
    go_wp2_with fail
    go_roundw
    case rel=>exact ⟨k+1,by omega,by go_num,ji⟩
    case measure=>simp [intOf];omega
  ·have htk:(L.map Prod.fst).take k=L.map Prod.fst:=List.take_of_length_le (by rw [List.length_map,hnl.out];omega)
   rw [htk] at hm
   obtain ⟨V,hV⟩:∃ V,V=wr.setCells w.heap.size 0 [.slice a n cap,.map (some (w.heap.size+1))]:=⟨_,rfl⟩
   have eP:Hid (wr.there w.heap.size 0 (#[.slice a n cap,.map (some (w.heap.size+1))]:Array Value).size):=hq.there
   have fA:Hid (V=wr.setCells w.heap.size 0 (#[.slice a n cap,.map (some (w.heap.size+1))]:Array Value).toList):=by rw [Hid,hV]
   have mO:Hid ((#[.slice a n cap,.map (some (w.heap.size+1))]:Array Value).all (·.oneCell')=true):=by rw [Hid];simp [Value.oneCell']
   have kV:Kept (fun b=>b≠w.heap.size) wr V:=by rw [hV];exact dP (fun h=>h rfl)
   have qV:af V w.heap.size [.slice a n cap,.map (some (w.heap.size+1))]:=by rw [hV];exact dL hq rfl
   have tC:Hid (aV V (w.heap.size+1) (L.map Prod.fst)/\w.heap.size<=w.heap.size+1/\Below w.heap.size w V):=⟨hm.kept kV (by omega),by omega,by rw [hV];exact cu hbw (by omega)⟩
   have t0:=(qV.2 0 _ rfl).1
   have t1:=(qV.2 1 _ rfl).1
   have wm:(prog.info? 127).map (·.size)=some (#[.slice a n cap,.map (some (w.heap.size+1))]:Array Value).size:=by kernel_rfl
   clear hm hq hbw htk kV qV hV HU
   go_wp2_with (first | (refine wpList_store_mid rfl 127 _ _ rfl w.heap.size 0 #[.slice a n cap,.map (some (w.heap.size+1))] rfl rfl eP.out wm mO.out ?_;refine kF fA.out ?_) | fail)
   refine bodyPost_ret (v:=.agg #[.slice a n cap,.map (some (w.heap.size+1))]) (by simp [results,Tryz.results59,go_sem,t0,t1,Result.andThen]) rfl ?_
   exact ⟨_,rfl,tC.out⟩
theorem Y2 (cs:List Value) (A:Where) (x:dI) (w:World) (h:aH A w cs x):Calls prog 114 #[.agg cs.toArray] w fun e w'=>e=.returned (.string x.1)/\Below w.heap.size w w':=by
 obtain ⟨W1,hW1⟩:∃ W,W=w.alloc (.cells cs.toArray 180):=⟨_,rfl⟩
 have B1:Below w.heap.size w W1:=by rw [hW1];go_grown
 have c0:W1.cell? ⟨w.heap.size,0,none⟩=some (.string x.1):=by rw [hW1];exact ((af.new w 180 cs).2 0 _ h.jZ.1).1
 clear h
 go_enter func114,ntmps114
 go_upto_region 1 with fail
 rw [<- hW1]
 clear hW1
 go_wp2_with fail
 go_ret
 exact ⟨rfl,B1⟩
theorem Md (a:Option Addr) (n cap:Nat) (A:Where) (L:List dI) (w:World) (hL:Hid (ag aH 2 24 A w a n cap L)) :
  Calls prog 113 #[.slice a n cap,.func (.func 114) #[] #[]] w (wY w (.slice a n cap) (L.map Prod.fst)):=by
 have hnl:Hid (L.length=n):=hL.out.1
 have hbn:Hid (n*24<=140737488351232):=hL.out.2.2.2.1
 have hlen:=hL.out.len (by decide)
 have HU:Hid (∀ u,Below w.heap.size w u->ag aH 2 24 A u a n cap L):=fun u hb=>hL.out.on aH.ae hb
 clear hL
 obtain ⟨W1,hW1⟩:∃ W,W=w.alloc (.cells #[.slice none 0 0,.map none] 168):=⟨_,rfl⟩
 have B1:Below w.heap.size w W1:=by rw [hW1];go_grown
 have hz1:W1.heap.size=w.heap.size+1:=by rw [hW1];simp
 have q1:af W1 w.heap.size [.slice none 0 0,.map none]:=by rw [hW1];exact af.new w 168 _
 obtain ⟨W2,hW2⟩:∃ W,W=W1.alloc (.map #[] 0):=⟨_,rfl⟩
 have B2:Below W1.heap.size W1 W2:=by rw [hW2];go_grown
 have m2:aV W2 (w.heap.size+1) ((L.map Prod.fst).take 0):=by rw [hW2,<- hz1];exact aV.made W1
 have HI:Hid (aV W2 (w.heap.size+1) ((L.map Prod.fst).take 0)/\af W2 w.heap.size [.slice none 0 0,.map none]/\Below w.heap.size w W2):=⟨m2,q1.on B2,ah B1 B2⟩
 have hmm:=EG
 have HZ:Hid (W1.heap.size=w.heap.size+1):=hz1
 clear B1 q1 B2 m2 hz1
 have eg:=enters_of func114 (by kernel_rfl) rfl
 go_enter func113,ntmps113
 go_upto_region 1 with fail
 rw [<- hW1]
 clear hW1
 go_upto_region 2 with fail
 rw [<- hW2]
 clear hW2
 rw [HZ.out]
 clear hmm HZ
 go_wp2_with fail
 go_loopw [15] (fun i wr=>∃ k:Nat,k<=n/\i=.int .i64 k/\Hid (aV wr (w.heap.size+1) ((L.map Prod.fst).take k)/\af wr w.heap.size [.slice none 0 0,.map none]/\Below w.heap.size w wr)) (fun i _=>n - (intOf i).toNat)
 case atStart=>exact ⟨0,Nat.zero_le _,rfl,HI⟩
 case round =>
  obtain ⟨k,hk,rfl,hrun⟩:=hrel
  obtain ⟨hm,hq,hbw⟩:=hrun.out
  clear hrun HI
  by_cases hlt:k<n
  ·have hltz:(k:Int)<(n:Int):=by omega
   have hkl:k<L.length:=by rw [hnl.out];exact hlt
   obtain ⟨B,off,rfl,hB,iL,xs,hr,hv⟩:=(HU.out wr hbw).get hlt
   have hl:xs.length=2:=aH.ae.len hr
   have hi:(prog.info? 180).map (·.size)=some xs.length:=by rw [hl];exact Js
   have hia:(prog.info? 180).map (·.size)=some xs.toArray.size:=by simpa using hi
   have HO:Hid (xs.toArray.all (·.oneCell')=true):=Bo (aH.ae.one hr)
   have iF:Hid (wr.rangeAt B (off+k*2) xs):=hv
   have mJ:Hid ((wr.alloc (.cells #[.string ⟨#[]⟩,.bool false] 180)).rangeAt B (off+k*2) xs):=fun j v hj=>(((Below.refl _ wr).alloc (Nat.le_refl _) _).cell hB).trans (hv j v hj)
   obtain ⟨V,hV⟩:∃ V,V=(wr.alloc (.cells #[.string ⟨#[]⟩,.bool false] 180)).setCells wr.heap.size 0 xs:=⟨_,rfl⟩
   have eP:Hid ((wr.alloc (.cells #[.string ⟨#[]⟩,.bool false] 180)).there wr.heap.size 0 xs.toArray.size):=by have e:xs.toArray.size=2:=(by simp [hl]);rw [Hid,e];exact (af.new wr 180 [.string ⟨#[]⟩,.bool false]).there
   have bV:Below wr.heap.size wr V:=by rw [hV];exact cu ((Below.refl _ _).alloc (Nat.le_refl _) _) (Nat.le_refl _)
   have qV:af V wr.heap.size xs:=by rw [hV];exact dL (af.new wr 180 [.string ⟨#[]⟩,.bool false]) (by rw [hl];rfl)
   have fA:Hid (V=(wr.alloc (.cells #[.string ⟨#[]⟩,.bool false] 180)).setCells wr.heap.size 0 xs.toArray.toList):=by rw [Hid,hV]
   clear hV
   have pR:=aH.ae.kept hr (Kept.below bV)
   have hC:=Y2 xs A (L.getD k default) V pR
   have hsz:(L.getD k default).1.size<=140737488355328:=hr.jZ.2
   have HT:Hid ((L.map Prod.fst).take (k+1)=(L.map Prod.fst).take k++[(L.getD k default).1]):=EB Prod.fst hkl
   have HL:Hid (((L.map Prod.fst).take k).length=k):=by rw [Hid,List.length_take,List.length_map];omega
   have HN:Hid (∀ u,Below V.heap.size V u->Below w.heap.size w u/\aV u (w.heap.size+1) ((L.map Prod.fst).take k)/\af u w.heap.size [.slice none 0 0,.map none]/\u.rangeAt wr.heap.size 0 xs/\aH A u xs (L.getD k default)):=fun u hb=>⟨ah (ah hbw bV) hb,hm.on (ah bV hb),hq.on (ah bV hb),(qV.on hb).range,aH.ae.kept pR (Kept.below hb)⟩
   have HX0:Hid (V.rangeAt wr.heap.size 0 xs):=qV.range
   clear hr hv hm hq hbw qV bV pR hB iL
   generalize (L.getD k default)=x at hC hsz HT HN
   generalize (L.map Prod.fst).take k=N at HT HL HN
   go_wp2_with (first | (refine wpList_load_mid rfl 180 _ rfl B (off+k*2) rfl xs _ iF.out underlying180 rfl hi ?_) | (refine wpList_load_mid rfl 180 _ rfl B (off+k*2) rfl xs _ mJ.out underlying180 rfl hi ?_) | (refine wpList_store_mid rfl 180 _ _ rfl wr.heap.size 0 xs.toArray rfl rfl eP.out hia HO.out ?_;refine kF fA.out ?_) | (refine wpList_load_mid rfl 180 _ rfl wr.heap.size 0 rfl xs _ HX0.out underlying180 rfl hi ?_) | fail)
   refine hC.mono ?_
   rintro e w6 ⟨rfl,hb6⟩
   obtain ⟨qK,nZ,q6,r6,R6⟩:=HN.out w6 hb6
   clear hC eP HO iF mJ fA HX0 hia
   have hlk:=nZ.look 119 underlying119 hsz
   cases hf:fI N x.1 with
   | some j =>
    rw [hf] at hlk
    have ji:Hid (aV w6 (w.heap.size+1) ((L.map Prod.fst).take (k+1))/\af w6 w.heap.size [.slice none 0 0,.map none]/\Below w.heap.size w w6):=⟨by rw [HT.out];exact nZ.more hf,q6,qK⟩
    simp only [Option.isSome_some,Option.getD_some] at hlk
    clear nZ q6 qK r6 R6 HN HT HL hf hb6
    go_wp2_with fail
    go_roundw
    case rel=>exact ⟨k+1,by omega,by go_num,ji⟩
    case measure=>simp [intOf];omega
   | none =>
    rw [hf] at hlk
    simp only [Option.isSome_none,Option.getD_none] at hlk
    have hC:=Y2 xs A x w6 R6
    have ku:Hid (w6.rangeAt wr.heap.size 0 xs):=r6
    have yD:Hid (∀ u,Below w6.heap.size w6 u->Below w.heap.size w u/\aV u (w.heap.size+1) N/\af u w.heap.size [.slice none 0 0,.map none]):=fun u hb=>⟨ah qK hb,nZ.on hb,q6.on hb⟩
    clear nZ q6 qK r6 R6 HN hb6
    go_wp2_with (first | (refine wpList_load_mid rfl 180 _ rfl wr.heap.size 0 rfl xs _ ku.out underlying180 rfl hi ?_) | fail)
    refine hC.mono ?_
    rintro e w7 ⟨rfl,iK⟩
    obtain ⟨ym,xX,q7⟩:=yD.out w7 iK
    obtain ⟨w8,hup,uy,mH⟩:=xX.put 119 underlying119 hsz hf (by have h1:=hbn.out;have h2:=HL.out;omega)
    have ji:Hid (aV w8 (w.heap.size+1) ((L.map Prod.fst).take (k+1))/\af w8 w.heap.size [.slice none 0 0,.map none]/\Below w.heap.size w w8):=⟨by rw [HT.out];exact uy,q7.vD mH (by omega),Mc ym mH (by omega)⟩
    rw [HL.out] at hup
    clear xX q7 ym uy mH yD HT HL hf iK hC ku hlk
    go_wp2_with fail
    go_roundw
    case rel=>exact ⟨k+1,by omega,by go_num,ji⟩
    case measure=>simp [intOf];omega
  ·have htk:(L.map Prod.fst).take k=L.map Prod.fst:=List.take_of_length_le (by rw [List.length_map,hnl.out];omega)
   rw [htk] at hm
   obtain ⟨V,hV⟩:∃ V,V=wr.setCells w.heap.size 0 [.slice a n cap,.map (some (w.heap.size+1))]:=⟨_,rfl⟩
   have eP:Hid (wr.there w.heap.size 0 (#[.slice a n cap,.map (some (w.heap.size+1))]:Array Value).size):=hq.there
   have fA:Hid (V=wr.setCells w.heap.size 0 (#[.slice a n cap,.map (some (w.heap.size+1))]:Array Value).toList):=by rw [Hid,hV]
   have mO:Hid ((#[.slice a n cap,.map (some (w.heap.size+1))]:Array Value).all (·.oneCell')=true):=by rw [Hid];simp [Value.oneCell']
   have kV:Kept (fun b=>b≠w.heap.size) wr V:=by rw [hV];exact dP (fun h=>h rfl)
   have qV:af V w.heap.size [.slice a n cap,.map (some (w.heap.size+1))]:=by rw [hV];exact dL hq rfl
   have tC:Hid (aV V (w.heap.size+1) (L.map Prod.fst)/\w.heap.size<=w.heap.size+1/\Below w.heap.size w V):=⟨hm.kept kV (by omega),by omega,by rw [hV];exact cu hbw (by omega)⟩
   have t0:=(qV.2 0 _ rfl).1
   have t1:=(qV.2 1 _ rfl).1
   have wm:(prog.info? 168).map (·.size)=some (#[.slice a n cap,.map (some (w.heap.size+1))]:Array Value).size:=by kernel_rfl
   clear hm hq hbw htk kV qV hV HU
   go_wp2_with (first | (refine wpList_store_mid rfl 168 _ _ rfl w.heap.size 0 #[.slice a n cap,.map (some (w.heap.size+1))] rfl rfl eP.out wm mO.out ?_;refine kF fA.out ?_) | fail)
   refine bodyPost_ret (v:=.agg #[.slice a n cap,.map (some (w.heap.size+1))]) (by simp [results,Tryz.results113,go_sem,t0,t1,Result.andThen]) rfl ?_
   exact ⟨_,rfl,tC.out⟩
end Go.Proofs.YtgikfenllgldoaaGreat
