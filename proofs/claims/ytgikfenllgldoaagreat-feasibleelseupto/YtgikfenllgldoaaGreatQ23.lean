/- Functions of the program, each walked under the conditions that its theorem names. -/
import Derived.Test.YtgikfenllgldoaaGreatQ20
import Derived.Test.YtgikfenllgldoaaGreatQ21
set_option linter.unusedSimpArgs false
set_option maxRecDepth 100000
set_option maxHeartbeats 32000000
namespace Go.Proofs.YtgikfenllgldoaaGreat
open Go.Proofs.Tryz
open Go.RowKit Go.Maps
def RH (v:Value):Option (DataW Value×List MemPlace):=some (.held v,[])
abbrev Dl:Value:=.slice none 0 0
def iQ (w:World) (mb n:Nat) (f:ByteArray->Value):Prop :=
 ∃ D:DataW Value,w.ownsMap prog 9 RH mb n D/\∀ s,D.atKey (kS s) (.held Dl)=.held (f s)
theorem iQ.lt {w:World} {mb n:Nat} {f:ByteArray->Value} (h:iQ w mb n f):mb<w.heap.size:=by obtain ⟨D,h1,_⟩:=h;exact h1.lt
theorem iQ.same {w w':World} {mb n:Nat} {f:ByteArray->Value} (h:iQ w mb n f) (hb:w'.heap[mb]?=w.heap[mb]?):iQ w' mb n f:=by
 obtain ⟨D,⟨es,ck,h1,h2⟩,h3⟩:=h
 exact ⟨D,⟨es,ck,hb.trans h1,h2⟩,h3⟩
theorem iQ.on {w w':World} {mb n:Nat} {f:ByteArray->Value} (h:iQ w mb n f) (hb:Below w.heap.size w w'):iQ w' mb n f:=h.same (hb.block mb h.lt)
theorem iQ.made (w:World):iQ (w.alloc (.map #[] 0)) w.heap.size 0 (fun _=>Dl):=⟨.map [],World.ownsMap_made _ _ _ _,fun _=>rfl⟩
theorem iQ.isMap {w:World} {mb n:Nat} {f:ByteArray->Value} (h:iQ w mb n f):∃ es ck,w.heap[mb]?=some (.map es ck):=by obtain ⟨D,⟨es,ck,h1,_⟩,_⟩:=h;exact ⟨es,ck,h1⟩
theorem IB (w:World):(zeroValue 22).run prog w=.ok Dl w:=by kernel_rfl
theorem iQ.look {w:World} {mb n:Nat} {f:ByteArray->Value} (h:iQ w mb n f) (t:TypeId) (ht:prog.underlying t=some (.map 9 22)) {s:ByteArray} (hs:s.size<=140737488355328) :
  (Instr.lookup t (.map (some mb)) (.string s) false).run prog w=.ok (f s) w:=by
 obtain ⟨D,h1,h2⟩:=h
 obtain ⟨v,ps,hrun,hv⟩:=h1.lookup Dn ht (IB w) (zd:=.held Dl) (zp:=[]) rfl (Lu hs)
 rw [h2 s] at hv
 simp only [RH,Option.some.injEq,Prod.mk.injEq,DataW.held.injEq] at hv
 rw [hrun,hv.1]
theorem iQ.put {w:World} {mb n:Nat} {f:ByteArray->Value} (h:iQ w mb n f) (t:TypeId) (ht:prog.underlying t=some (.map 9 22)) {s:ByteArray} (hs:s.size<=140737488355328) (hn:n<140737488355328) (v:Value) :
  ∃ w':World,(Instr.mapUpdate t (.map (some mb)) (.string s) v).run prog w=.ok () w'/\iQ w' mb (n+1) (fun t=>if ay t s=true then v else f t)/\w.grownBy w' (some mb):=by
 obtain ⟨D,h1,h2⟩:=h
 obtain ⟨w',hes,hown,hg'⟩:=h1.update Dn ht (Nat.lt_of_lt_of_le hn (by unfold maxLen;omega)) (val:=v) (Lu hs) rfl
 refine ⟨w',hes,⟨_,hown,fun t=>?_⟩,hg'⟩
 show _=DataW.held (if ay t s=true then v else f t)
 by_cases e:ay t s=true
 ·obtain rfl:=(eZ _ _).1 e
  rw [atKey_put_same h1.isMap (MG _),if_pos e]
 ·have hne:kS t≠kS s:=fun x=>e ((eZ _ _).2 (FU x))
  rw [atKey_put_other hne,h2 t,if_neg e]
def fZ (L:List aB) (s:ByteArray):List aB:=L.filter (fun p=>ay (aF p) s && !ay (aF p) ⟨#[]⟩)
structure iq (A:Where) (w u:World) (mb n:Nat) (f:ByteArray->Value) (L:List aB):Prop where
 map:iQ u mb n f
 row:∀ s,Row aj 16 A w u 41 (f s) (fZ L s)
 own:∀ s t b,s≠t->(f s).ownBlock=some b->(f t).ownBlock≠some b
 low:w.heap.size<=mb
theorem iq.below {A:Where} {w u:World} {mb n:Nat} {f:ByteArray->Value} {L:List aB} (h:iq A w u mb n f L):Below w.heap.size w u:=(h.row ⟨#[]⟩).below
theorem iq.on {A:Where} {w u u':World} {mb n:Nat} {f:ByteArray->Value} {L:List aB} (h:iq A w u mb n f L) (hb:Below u.heap.size u u'):iq A w u' mb n f L:=⟨h.map.on hb,fun s=>(h.row s).on aj.ae hb,h.own,h.low⟩
theorem Row.Dm {α:Type} [Inhabited α] {R:bI α} {k:Nat} {A:Where} {w0 u:World} {e:TypeId} {v:Value} {L:List α} (h:Row R k A w0 u e v L) {mb n:Nat} {f:ByteArray->Value} (hs:iQ u mb n f):v.ownBlock≠some mb:=by
 intro e
 obtain ⟨es,ck,hm⟩:=hs.isMap
 obtain ⟨xs,h1,_⟩:=h
 obtain ⟨_,⟨rfl,_⟩ | ⟨g,cap,cur,rfl,_,hh,_⟩⟩:=h1.2
 ·cases e
 ·simp only [Value.ownBlock,Option.some.injEq] at e
  subst e
  rw [hm] at hh
  cases hh
theorem O8 (L:List aB) (s:ByteArray) (k:Nat):(fZ (L.take k) s).length<=k:=Nat.le_trans (List.length_filter_le _ _) (by rw [List.length_take];omega)
theorem iq.step {A:Where} {w u u1 u2:World} {mb n:Nat} {f:ByteArray->Value} {L:List aB} {q:aB} {v:Value} (hA:∀ b,A b->b<w.heap.size) (h:iq A w u mb n f L) (hne:ay (aF q) ⟨#[]⟩=false) (hr:Row aj 16 A w u1 41 v (fZ L (aF q)++[q])) (hg:u.grownBy u1 (f (aF q)).ownBlock) (hw:v.ownBlock=(f (aF q)).ownBlock\/∃ b,v.ownBlock=some b/\u.heap.size<=b)
  (hm:iQ u2 mb (n+1) (fun t=>if ay t (aF q)=true then v else f t)) (hg2:u1.grownBy u2 (some mb)):iq A w u2 mb (n+1) (fun t=>if ay t (aF q)=true then v else f t) (L++[q]):=by
 have hmb:=h.map.lt
 have hf:=h.row (aF q)
 have hvm:v.ownBlock≠some mb:=by
  rcases hw with hw | ⟨b,hb,hl⟩
  ·rw [hw];exact hf.Dm h.map
  ·rw [hb];intro e;injection e with e;omega
 have gq:∀ s,fZ (L++[q]) s=fZ L s++(if ay (aF q) s=true then [q] else []):=fun s=>by
  unfold fZ
  rw [List.filter_append]
  congr 1
  by_cases e:ay (aF q) s=true
  ·simp [e,hne]
  ·simp [e]
 refine ⟨hm,fun s=>?_,fun s t b hst hs=>?_,h.low⟩
 ·rw [gq]
  by_cases e:ay s (aF q)=true
  ·have e':=(eZ _ _).1 e
   subst e'
   rw [if_pos e,if_pos e]
   exact hr.grown aj.ae hg2 (fun b hb=>by injection hb with hb;subst hb;exact ⟨h.low,hvm,fun hx=>by have:=hA _ hx;have:=h.low;omega⟩)
  ·have e2:¬ ay (aF q) s=true:=fun x=>e ((eZ _ _).2 ((eZ _ _).1 x).symm)
   rw [if_neg e,if_neg e2,List.append_nil]
   have hne2:s≠aF q:=fun x=>e ((eZ _ _).2 x)
   have r1:=(h.row s).grown aj.ae hg (fun b hb=>⟨(hf.lt hb).1,fun x=>h.own s (aF q) b hne2 x hb,fun hx=>by have:=hA _ hx;have:=(hf.lt hb).1;omega⟩)
   exact r1.grown aj.ae hg2 (fun b hb=>by injection hb with hb;subst hb;exact ⟨h.low,(h.row s).Dm h.map,fun hx=>by have:=hA _ hx;have:=h.low;omega⟩)
 ·have key:∀ s,¬ ay s (aF q)=true->∀ b,v.ownBlock=some b->(f s).ownBlock≠some b:=fun s hs b hb x=>by
   have hne2:s≠aF q:=fun y=>hs ((eZ _ _).2 y)
   rcases hw with hw | ⟨b',hb',hl⟩
   ·exact h.own s (aF q) b hne2 x (hw ▸ hb)
   ·rw [hb] at hb';injection hb' with hb';have:=((h.row s).lt x).2;omega
  by_cases e1:ay s (aF q)=true
  ·rw [if_pos e1] at hs
   by_cases e2:ay t (aF q)=true
   ·exact absurd (((eZ _ _).1 e1).trans ((eZ _ _).1 e2).symm) hst
   ·rw [if_neg e2];exact key t e2 b hs
  ·rw [if_neg e1] at hs
   by_cases e2:ay t (aF q)=true
   ·rw [if_pos e2];exact fun x=>key s e1 b x hs
   ·rw [if_neg e2];exact h.own s t b hst hs
end Go.Proofs.YtgikfenllgldoaaGreat
namespace Go.Proofs.YtgikfenllgldoaaGreat
open Go.Proofs.Tryz
open Go.RowKit Go.Sort Go.Lib
theorem Jp (a:Option Addr) (n cap:Nat) (A:Where) (L:List ByteArray) (a':Option Addr) (n' cap':Nat) (A':Where) (M N:List ByteArray) (hN:N=L++M) (w:World) (hL:Hid (ag au 1 16 A w a n cap L)) (hM:Hid (ag au 1 16 A' w a' n' cap' M)) (hF:Hid ((L.length+M.length)*16<=140737488351232)):Calls prog 68 #[.slice a n cap,.slice a' n' cap'] w fun e w'=>∃ b c,e=.returned (.slice b (aN dh ay N).length c)/\ag au 1 16 (az w) w' b (aN dh ay N).length c (aN dh ay N)/\mZ w' b (aN dh ay N).length/\Below w.heap.size w w':=by
 have qB:Hid (Src au 1 A w a n L):=hL.out.src au.ae
 have nP:Hid (∀ u,Below w.heap.size w u->Src au 1 A' u a' n' M):=fun u hb=>(hM.out.on au.ae hb).src au.ae
 have HB1:Hid ((([]:List ByteArray).length+L.length)*16<=140737488355328):=by have h1:=hF.out;rw [Hid];simp only [List.length_nil];omega
 have HB2:Hid ((L.length+M.length)*16<=140737488355328):=by have h1:=hF.out;rw [Hid];omega
 have tX:Hid (N.length*16<=140737488351232):=by rw [Hid,hN,List.length_append];exact hF.out
 have hcap:a=none->cap=0:=hL.out.2.2.1
 clear hL hM hF
 rcases a with _ | ad
 ·obtain rfl:=hcap rfl
  clear hcap
  go_enter func68,ntmps68
  go_wp2_with (at_builtin;first | (refine xN au.ae au.flat (w0:=w) rfl _ _ 39 9 rfl _ 16 yV underlying39 rfl (by decide) (by decide) _ [] rfl (ni.nil w 9 none) none n 0 L rfl qB.out HB1.out ?_;intro v1 u1 hr1;rw [List.nil_append] at hr1) | (go_must (refine xN au.ae au.flat (w0:=w) rfl _ _ 39 9 rfl _ 16 yV underlying39 rfl (by decide) (by decide) _ L rfl hr1 a' n' cap' M rfl (nP.out u1 hr1.below) HB2.out ?_);intro v2 u2 hr2))
  clear hr1 qB nP HB1 HB2
  rw [<- hN] at hr2
  clear hN
  by_cases hE:N=[]
  ·subst hE
   obtain ⟨b,c,rfl,hbc⟩:=hr2.empty
   have hbel:Hid (Below w.heap.size w u2):=hr2.below
   have hbc2:Hid (b=none->c=0):=hbc
   clear hr2 hbc
   refine (Yq b c u2).mono ?_
   rintro e w' ⟨rfl,rfl⟩
   go_wp2_with fail
   refine (Tryz.slices_Compact_string_empty b c w').mono ?_
   rintro e w2 ⟨rfl,rfl⟩
   go_wp2_with fail
   go_ret
   exact ⟨b,c,rfl,ag.nil _ _ _ _ hbc2.out,fun B off _ j hj=>absurd hj (Nat.not_lt_zero j),hbel.out⟩
  ·have hrow:Row au 1 (fun _=>False) w u2 9 v2 N:=by
    rcases hr2 with ⟨h0,_⟩ | h
    ·exact absurd h0 hE
    ·exact h
   clear hr2
   obtain ⟨g,c,rfl,hg,hnc,hH,hrest⟩:=BA hE hrow
   clear hrow
   have hlen:N.length<=140737488351232:=by have:=tX.out;omega
   have hS:=Nn g 0 c (N.map ByteArray.toList) u2 hH hg (by rw [List.length_map];omega)
   rw [List.length_map] at hS
   have lg:((N.map ByteArray.toList).mergeSort fun x y=>decide (x<=y)).length=N.length:=by rw [List.length_mergeSort,List.length_map]
   have hcl:(Lib.compact ((N.map ByteArray.toList).mergeSort fun x y=>decide (x<=y))).length=(aN dh ay N).length:=by rw [De,List.length_map]
   clear hH
   have jq:Hid (∀ n os,Holds encStr (grow (putRow encStr (Sort.ahead u2 n) g 0 ((N.map ByteArray.toList).mergeSort fun x y=>decide (x<=y)).toArray) os) g 0 ((N.map ByteArray.toList).mergeSort fun x y=>decide (x<=y)).toArray/\∀ q,Row au 1 (fun _=>False) w (putRow encStr (Sort.ahead (grow (putRow encStr (Sort.ahead u2 n) g 0 ((N.map ByteArray.toList).mergeSort fun x y=>decide (x<=y)).toArray) os) q) g 0 (Lib.compact ((N.map ByteArray.toList).mergeSort fun x y=>decide (x<=y))++List.replicate (((N.map ByteArray.toList).mergeSort fun x y=>decide (x<=y)).length - (Lib.compact ((N.map ByteArray.toList).mergeSort fun x y=>decide (x<=y))).length) []).toArray) 9 (.slice (some ⟨g,0,none⟩) (aN dh ay N).length c) (aN dh ay N)):=hrest
   clear hrest
   have HM:Hid (((N.map ByteArray.toList).mergeSort fun x y=>decide (x<=y)).length=N.length):=lg
   have HC:Hid ((Lib.compact ((N.map ByteArray.toList).mergeSort fun x y=>decide (x<=y))).length=(aN dh ay N).length):=hcl
   clear lg hcl
   refine hS.mono ?_
   rintro e u3 ⟨rfl,k,os,hu3⟩
   have HU:Hid (u3=grow (putRow encStr (Sort.ahead u2 k) g 0 ((N.map ByteArray.toList).mergeSort fun x y=>decide (x<=y)).toArray) os):=hu3
   clear hS hu3
   go_wp2_with fail
   have hu3:=HU.out
   obtain ⟨H2,H3⟩:=jq.out k os
   rw [<- hu3] at H2 H3
   clear jq hu3 HU
   have hC:=Tryz.slices_Compact_string g 0 c ((N.map ByteArray.toList).mergeSort fun x y=>decide (x<=y)) u3 H2 (by rw [HM.out];omega) (by rw [HM.out];omega)
   rw [HM.out] at hC
   have H4:Hid (∀ q,Row au 1 (fun _=>False) w (putRow encStr (Sort.ahead u3 q) g 0 (Lib.compact ((N.map ByteArray.toList).mergeSort fun x y=>decide (x<=y))++List.replicate (N.length - (Lib.compact ((N.map ByteArray.toList).mergeSort fun x y=>decide (x<=y))).length) []).toArray) 9 (.slice (some ⟨g,0,none⟩) (aN dh ay N).length c) (aN dh ay N)):=fun q=>by have:=H3 q;rw [HM.out] at this;exact this
   clear H2 H3
   refine hC.mono ?_
   rintro e u4 ⟨he,q,kJ⟩
   rw [HC.out] at he
   subst he
   have H5:Row au 1 (fun _=>False) w u4 9 (.slice (some ⟨g,0,none⟩) (aN dh ay N).length c) (aN dh ay N):=by rw [kJ];exact H4.out q
   have H6:Hid (ag au 1 16 (az w) u4 (some ⟨g,0,none⟩) (aN dh ay N).length c (aN dh ay N)/\mZ u4 (some ⟨g,0,none⟩) (aN dh ay N).length/\Below w.heap.size w u4):=by
    obtain ⟨a2,c2,e2,s2⟩:=H5.sl (bytes:=16) au.ae (by have h1:=Eu dh ay N;have h2:=tX.out;exact Nat.le_trans (Nat.mul_le_mul_right 16 h1) h2)
    injection e2 with e3 e4 e5
    subst e3 e5
    exact ⟨s2.weak au.ae (fun b _ h=>by rcases h with h | h;exact absurd h id;exact h),H5.Mj,H5.below⟩
   clear H5 H4 hC kJ
   go_wp2_with fail
   go_ret
   exact ⟨_,_,rfl,H6.out.1,H6.out.2.1,H6.out.2.2⟩
 ·clear hcap
  go_enter func68,ntmps68
  go_wp2_with (at_builtin;first | (refine xN au.ae au.flat (w0:=w) rfl _ _ 39 9 rfl _ 16 yV underlying39 rfl (by decide) (by decide) _ [] rfl (ni.nil w 9 (some ad)) (some ad) n cap L rfl qB.out HB1.out ?_;intro v1 u1 hr1;rw [List.nil_append] at hr1) | (go_must (refine xN au.ae au.flat (w0:=w) rfl _ _ 39 9 rfl _ 16 yV underlying39 rfl (by decide) (by decide) _ L rfl hr1 a' n' cap' M rfl (nP.out u1 hr1.below) HB2.out ?_);intro v2 u2 hr2))
  clear hr1 qB nP HB1 HB2
  rw [<- hN] at hr2
  clear hN
  by_cases hE:N=[]
  ·subst hE
   obtain ⟨b,c,rfl,hbc⟩:=hr2.empty
   have hbel:Hid (Below w.heap.size w u2):=hr2.below
   have hbc2:Hid (b=none->c=0):=hbc
   clear hr2 hbc
   refine (Yq b c u2).mono ?_
   rintro e w' ⟨rfl,rfl⟩
   go_wp2_with fail
   refine (Tryz.slices_Compact_string_empty b c w').mono ?_
   rintro e w2 ⟨rfl,rfl⟩
   go_wp2_with fail
   go_ret
   exact ⟨b,c,rfl,ag.nil _ _ _ _ hbc2.out,fun B off _ j hj=>absurd hj (Nat.not_lt_zero j),hbel.out⟩
  ·have hrow:Row au 1 (fun _=>False) w u2 9 v2 N:=by
    rcases hr2 with ⟨h0,_⟩ | h
    ·exact absurd h0 hE
    ·exact h
   clear hr2
   obtain ⟨g,c,rfl,hg,hnc,hH,hrest⟩:=BA hE hrow
   clear hrow
   have hlen:N.length<=140737488351232:=by have:=tX.out;omega
   have hS:=Nn g 0 c (N.map ByteArray.toList) u2 hH hg (by rw [List.length_map];omega)
   rw [List.length_map] at hS
   have lg:((N.map ByteArray.toList).mergeSort fun x y=>decide (x<=y)).length=N.length:=by rw [List.length_mergeSort,List.length_map]
   have hcl:(Lib.compact ((N.map ByteArray.toList).mergeSort fun x y=>decide (x<=y))).length=(aN dh ay N).length:=by rw [De,List.length_map]
   clear hH
   have jq:Hid (∀ n os,Holds encStr (grow (putRow encStr (Sort.ahead u2 n) g 0 ((N.map ByteArray.toList).mergeSort fun x y=>decide (x<=y)).toArray) os) g 0 ((N.map ByteArray.toList).mergeSort fun x y=>decide (x<=y)).toArray/\∀ q,Row au 1 (fun _=>False) w (putRow encStr (Sort.ahead (grow (putRow encStr (Sort.ahead u2 n) g 0 ((N.map ByteArray.toList).mergeSort fun x y=>decide (x<=y)).toArray) os) q) g 0 (Lib.compact ((N.map ByteArray.toList).mergeSort fun x y=>decide (x<=y))++List.replicate (((N.map ByteArray.toList).mergeSort fun x y=>decide (x<=y)).length - (Lib.compact ((N.map ByteArray.toList).mergeSort fun x y=>decide (x<=y))).length) []).toArray) 9 (.slice (some ⟨g,0,none⟩) (aN dh ay N).length c) (aN dh ay N)):=hrest
   clear hrest
   have HM:Hid (((N.map ByteArray.toList).mergeSort fun x y=>decide (x<=y)).length=N.length):=lg
   have HC:Hid ((Lib.compact ((N.map ByteArray.toList).mergeSort fun x y=>decide (x<=y))).length=(aN dh ay N).length):=hcl
   clear lg hcl
   refine hS.mono ?_
   rintro e u3 ⟨rfl,k,os,hu3⟩
   have HU:Hid (u3=grow (putRow encStr (Sort.ahead u2 k) g 0 ((N.map ByteArray.toList).mergeSort fun x y=>decide (x<=y)).toArray) os):=hu3
   clear hS hu3
   go_wp2_with fail
   have hu3:=HU.out
   obtain ⟨H2,H3⟩:=jq.out k os
   rw [<- hu3] at H2 H3
   clear jq hu3 HU
   have hC:=Tryz.slices_Compact_string g 0 c ((N.map ByteArray.toList).mergeSort fun x y=>decide (x<=y)) u3 H2 (by rw [HM.out];omega) (by rw [HM.out];omega)
   rw [HM.out] at hC
   have H4:Hid (∀ q,Row au 1 (fun _=>False) w (putRow encStr (Sort.ahead u3 q) g 0 (Lib.compact ((N.map ByteArray.toList).mergeSort fun x y=>decide (x<=y))++List.replicate (N.length - (Lib.compact ((N.map ByteArray.toList).mergeSort fun x y=>decide (x<=y))).length) []).toArray) 9 (.slice (some ⟨g,0,none⟩) (aN dh ay N).length c) (aN dh ay N)):=fun q=>by have:=H3 q;rw [HM.out] at this;exact this
   clear H2 H3
   refine hC.mono ?_
   rintro e u4 ⟨he,q,kJ⟩
   rw [HC.out] at he
   subst he
   have H5:Row au 1 (fun _=>False) w u4 9 (.slice (some ⟨g,0,none⟩) (aN dh ay N).length c) (aN dh ay N):=by rw [kJ];exact H4.out q
   have H6:Hid (ag au 1 16 (az w) u4 (some ⟨g,0,none⟩) (aN dh ay N).length c (aN dh ay N)/\mZ u4 (some ⟨g,0,none⟩) (aN dh ay N).length/\Below w.heap.size w u4):=by
    obtain ⟨a2,c2,e2,s2⟩:=H5.sl (bytes:=16) au.ae (by have h1:=Eu dh ay N;have h2:=tX.out;exact Nat.le_trans (Nat.mul_le_mul_right 16 h1) h2)
    injection e2 with e3 e4 e5
    subst e3 e5
    exact ⟨s2.weak au.ae (fun b _ h=>by rcases h with h | h;exact absurd h id;exact h),H5.Mj,H5.below⟩
   clear H5 H4 hC kJ
   go_wp2_with fail
   go_ret
   exact ⟨_,_,rfl,H6.out.1,H6.out.2.1,H6.out.2.2⟩
theorem Jr (a:Option Addr) (n cap:Nat) (A:Where) (L:List Int) (a':Option Addr) (n' cap':Nat) (A':Where) (M N:List Int) (hN:N=L++M) (w:World) (hL:Hid (ag aC 1 8 A w a n cap L)) (hM:Hid (ag aC 1 8 A' w a' n' cap' M)) (hF:Hid ((L.length+M.length)*8<=140737488351232)):Calls prog 69 #[.slice a n cap,.slice a' n' cap'] w fun e w'=>∃ b c,e=.returned (.slice b (aN fD dM N).length c)/\ag aC 1 8 (az w) w' b (aN fD dM N).length c (aN fD dM N)/\mZ w' b (aN fD dM N).length/\Below w.heap.size w w':=by
 have qB:Hid (Src aC 1 A w a n L):=hL.out.src aC.ae
 have nP:Hid (∀ u,Below w.heap.size w u->Src aC 1 A' u a' n' M):=fun u hb=>(hM.out.on aC.ae hb).src aC.ae
 have HB1:Hid ((([]:List Int).length+L.length)*8<=140737488355328):=by have h1:=hF.out;rw [Hid];simp only [List.length_nil];omega
 have HB2:Hid ((L.length+M.length)*8<=140737488355328):=by have h1:=hF.out;rw [Hid];omega
 have tX:Hid (N.length*8<=140737488351232):=by rw [Hid,hN,List.length_append];exact hF.out
 have hcap:a=none->cap=0:=hL.out.2.2.1
 clear hL hM hF
 rcases a with _ | ad
 ·obtain rfl:=hcap rfl
  clear hcap
  go_enter func69,ntmps69
  go_wp2_with (at_builtin;first | (refine xN aC.ae aC.flat (w0:=w) rfl _ _ 36 3 rfl _ 8 AX underlying36 rfl (by decide) (by decide) _ [] rfl (ni.nil w 3 none) none n 0 L rfl qB.out HB1.out ?_;intro v1 u1 hr1;rw [List.nil_append] at hr1) | (go_must (refine xN aC.ae aC.flat (w0:=w) rfl _ _ 36 3 rfl _ 8 AX underlying36 rfl (by decide) (by decide) _ L rfl hr1 a' n' cap' M rfl (nP.out u1 hr1.below) HB2.out ?_);intro v2 u2 hr2))
  clear hr1 qB nP HB1 HB2
  rw [<- hN] at hr2
  clear hN
  by_cases hE:N=[]
  ·subst hE
   obtain ⟨b,c,rfl,hbc⟩:=hr2.empty
   have hbel:Hid (Below w.heap.size w u2):=hr2.below
   have hbc2:Hid (b=none->c=0):=hbc
   clear hr2 hbc
   refine (Yr b c u2).mono ?_
   rintro e w' ⟨rfl,rfl⟩
   go_wp2_with fail
   refine (Tryz.slices_Compact_int_empty b c w').mono ?_
   rintro e w2 ⟨rfl,rfl⟩
   go_wp2_with fail
   go_ret
   exact ⟨b,c,rfl,ag.nil _ _ _ _ hbc2.out,fun B off _ j hj=>absurd hj (Nat.not_lt_zero j),hbel.out⟩
  ·have hrow:Row aC 1 (fun _=>False) w u2 3 v2 N:=by
    rcases hr2 with ⟨h0,_⟩ | h
    ·exact absurd h0 hE
    ·exact h
   clear hr2
   obtain ⟨g,c,rfl,hg,hnc,hH,hrest⟩:=BC hE hrow
   clear hrow
   have hlen:N.length<=140737488351232:=by have:=tX.out;omega
   have hS:=SortI g 0 c N u2 hH hg (by omega)
   have lg:(N.mergeSort fun x y=>decide (x<=y)).length=N.length:=by rw [List.length_mergeSort]
   have hcl:(Lib.compact (N.mergeSort fun x y=>decide (x<=y))).length=(aN fD dM N).length:=by rw [Df]
   clear hH
   have jq:Hid (∀ n os,Holds (Value.int .i64) (grow (putRow (Value.int .i64) (Sort.ahead u2 n) g 0 (N.mergeSort fun x y=>decide (x<=y)).toArray) os) g 0 (N.mergeSort fun x y=>decide (x<=y)).toArray/\∀ q,Row aC 1 (fun _=>False) w (putRow (Value.int .i64) (Sort.ahead (grow (putRow (Value.int .i64) (Sort.ahead u2 n) g 0 (N.mergeSort fun x y=>decide (x<=y)).toArray) os) q) g 0 (Lib.compact (N.mergeSort fun x y=>decide (x<=y))++List.replicate ((N.mergeSort fun x y=>decide (x<=y)).length - (Lib.compact (N.mergeSort fun x y=>decide (x<=y))).length) 0).toArray) 3 (.slice (some ⟨g,0,none⟩) (aN fD dM N).length c) (aN fD dM N)):=hrest
   clear hrest
   have HM:Hid ((N.mergeSort fun x y=>decide (x<=y)).length=N.length):=lg
   have HC:Hid ((Lib.compact (N.mergeSort fun x y=>decide (x<=y))).length=(aN fD dM N).length):=hcl
   clear lg hcl
   refine hS.mono ?_
   rintro e u3 ⟨rfl,k,os,hu3⟩
   have HU:Hid (u3=grow (putRow (Value.int .i64) (Sort.ahead u2 k) g 0 (N.mergeSort fun x y=>decide (x<=y)).toArray) os):=hu3
   clear hS hu3
   go_wp2_with fail
   have hu3:=HU.out
   obtain ⟨H2,H3⟩:=jq.out k os
   rw [<- hu3] at H2 H3
   clear jq hu3 HU
   have hC:=Tryz.slices_Compact_int g 0 c (N.mergeSort fun x y=>decide (x<=y)) u3 H2 (by rw [HM.out];omega) (by rw [HM.out];omega)
   rw [HM.out] at hC
   have H4:Hid (∀ q,Row aC 1 (fun _=>False) w (putRow (Value.int .i64) (Sort.ahead u3 q) g 0 (Lib.compact (N.mergeSort fun x y=>decide (x<=y))++List.replicate (N.length - (Lib.compact (N.mergeSort fun x y=>decide (x<=y))).length) 0).toArray) 3 (.slice (some ⟨g,0,none⟩) (aN fD dM N).length c) (aN fD dM N)):=fun q=>by have:=H3 q;rw [HM.out] at this;exact this
   clear H2 H3
   refine hC.mono ?_
   rintro e u4 ⟨he,q,kJ⟩
   rw [HC.out] at he
   subst he
   have H5:Row aC 1 (fun _=>False) w u4 3 (.slice (some ⟨g,0,none⟩) (aN fD dM N).length c) (aN fD dM N):=by rw [kJ];exact H4.out q
   have H6:Hid (ag aC 1 8 (az w) u4 (some ⟨g,0,none⟩) (aN fD dM N).length c (aN fD dM N)/\mZ u4 (some ⟨g,0,none⟩) (aN fD dM N).length/\Below w.heap.size w u4):=by
    obtain ⟨a2,c2,e2,s2⟩:=H5.sl (bytes:=8) aC.ae (by have h1:=Eu fD dM N;have h2:=tX.out;exact Nat.le_trans (Nat.mul_le_mul_right 8 h1) h2)
    injection e2 with e3 e4 e5
    subst e3 e5
    exact ⟨s2.weak aC.ae (fun b _ h=>by rcases h with h | h;exact absurd h id;exact h),H5.Mj,H5.below⟩
   clear H5 H4 hC kJ
   go_wp2_with fail
   go_ret
   exact ⟨_,_,rfl,H6.out.1,H6.out.2.1,H6.out.2.2⟩
 ·clear hcap
  go_enter func69,ntmps69
  go_wp2_with (at_builtin;first | (refine xN aC.ae aC.flat (w0:=w) rfl _ _ 36 3 rfl _ 8 AX underlying36 rfl (by decide) (by decide) _ [] rfl (ni.nil w 3 (some ad)) (some ad) n cap L rfl qB.out HB1.out ?_;intro v1 u1 hr1;rw [List.nil_append] at hr1) | (go_must (refine xN aC.ae aC.flat (w0:=w) rfl _ _ 36 3 rfl _ 8 AX underlying36 rfl (by decide) (by decide) _ L rfl hr1 a' n' cap' M rfl (nP.out u1 hr1.below) HB2.out ?_);intro v2 u2 hr2))
  clear hr1 qB nP HB1 HB2
  rw [<- hN] at hr2
  clear hN
  by_cases hE:N=[]
  ·subst hE
   obtain ⟨b,c,rfl,hbc⟩:=hr2.empty
   have hbel:Hid (Below w.heap.size w u2):=hr2.below
   have hbc2:Hid (b=none->c=0):=hbc
   clear hr2 hbc
   refine (Yr b c u2).mono ?_
   rintro e w' ⟨rfl,rfl⟩
   go_wp2_with fail
   refine (Tryz.slices_Compact_int_empty b c w').mono ?_
   rintro e w2 ⟨rfl,rfl⟩
   go_wp2_with fail
   go_ret
   exact ⟨b,c,rfl,ag.nil _ _ _ _ hbc2.out,fun B off _ j hj=>absurd hj (Nat.not_lt_zero j),hbel.out⟩
  ·have hrow:Row aC 1 (fun _=>False) w u2 3 v2 N:=by
    rcases hr2 with ⟨h0,_⟩ | h
    ·exact absurd h0 hE
    ·exact h
   clear hr2
   obtain ⟨g,c,rfl,hg,hnc,hH,hrest⟩:=BC hE hrow
   clear hrow
   have hlen:N.length<=140737488351232:=by have:=tX.out;omega
   have hS:=SortI g 0 c N u2 hH hg (by omega)
   have lg:(N.mergeSort fun x y=>decide (x<=y)).length=N.length:=by rw [List.length_mergeSort]
   have hcl:(Lib.compact (N.mergeSort fun x y=>decide (x<=y))).length=(aN fD dM N).length:=by rw [Df]
   clear hH
   have jq:Hid (∀ n os,Holds (Value.int .i64) (grow (putRow (Value.int .i64) (Sort.ahead u2 n) g 0 (N.mergeSort fun x y=>decide (x<=y)).toArray) os) g 0 (N.mergeSort fun x y=>decide (x<=y)).toArray/\∀ q,Row aC 1 (fun _=>False) w (putRow (Value.int .i64) (Sort.ahead (grow (putRow (Value.int .i64) (Sort.ahead u2 n) g 0 (N.mergeSort fun x y=>decide (x<=y)).toArray) os) q) g 0 (Lib.compact (N.mergeSort fun x y=>decide (x<=y))++List.replicate ((N.mergeSort fun x y=>decide (x<=y)).length - (Lib.compact (N.mergeSort fun x y=>decide (x<=y))).length) 0).toArray) 3 (.slice (some ⟨g,0,none⟩) (aN fD dM N).length c) (aN fD dM N)):=hrest
   clear hrest
   have HM:Hid ((N.mergeSort fun x y=>decide (x<=y)).length=N.length):=lg
   have HC:Hid ((Lib.compact (N.mergeSort fun x y=>decide (x<=y))).length=(aN fD dM N).length):=hcl
   clear lg hcl
   refine hS.mono ?_
   rintro e u3 ⟨rfl,k,os,hu3⟩
   have HU:Hid (u3=grow (putRow (Value.int .i64) (Sort.ahead u2 k) g 0 (N.mergeSort fun x y=>decide (x<=y)).toArray) os):=hu3
   clear hS hu3
   go_wp2_with fail
   have hu3:=HU.out
   obtain ⟨H2,H3⟩:=jq.out k os
   rw [<- hu3] at H2 H3
   clear jq hu3 HU
   have hC:=Tryz.slices_Compact_int g 0 c (N.mergeSort fun x y=>decide (x<=y)) u3 H2 (by rw [HM.out];omega) (by rw [HM.out];omega)
   rw [HM.out] at hC
   have H4:Hid (∀ q,Row aC 1 (fun _=>False) w (putRow (Value.int .i64) (Sort.ahead u3 q) g 0 (Lib.compact (N.mergeSort fun x y=>decide (x<=y))++List.replicate (N.length - (Lib.compact (N.mergeSort fun x y=>decide (x<=y))).length) 0).toArray) 3 (.slice (some ⟨g,0,none⟩) (aN fD dM N).length c) (aN fD dM N)):=fun q=>by have:=H3 q;rw [HM.out] at this;exact this
   clear H2 H3
   refine hC.mono ?_
   rintro e u4 ⟨he,q,kJ⟩
   rw [HC.out] at he
   subst he
   have H5:Row aC 1 (fun _=>False) w u4 3 (.slice (some ⟨g,0,none⟩) (aN fD dM N).length c) (aN fD dM N):=by rw [kJ];exact H4.out q
   have H6:Hid (ag aC 1 8 (az w) u4 (some ⟨g,0,none⟩) (aN fD dM N).length c (aN fD dM N)/\mZ u4 (some ⟨g,0,none⟩) (aN fD dM N).length/\Below w.heap.size w u4):=by
    obtain ⟨a2,c2,e2,s2⟩:=H5.sl (bytes:=8) aC.ae (by have h1:=Eu fD dM N;have h2:=tX.out;exact Nat.le_trans (Nat.mul_le_mul_right 8 h1) h2)
    injection e2 with e3 e4 e5
    subst e3 e5
    exact ⟨s2.weak aC.ae (fun b _ h=>by rcases h with h | h;exact absurd h id;exact h),H5.Mj,H5.below⟩
   clear H5 H4 hC kJ
   go_wp2_with fail
   go_ret
   exact ⟨_,_,rfl,H6.out.1,H6.out.2.1,H6.out.2.2⟩
theorem Xj (a:Option Addr) (n cap:Nat) (A:Where) (L:List ByteArray) (w:World) (hL:Hid (ag au 1 16 A w a n cap L)):Calls prog 68 #[.slice a n cap,.slice none 0 0] w fun e w'=>∃ b c,e=.returned (.slice b (aN dh ay L).length c)/\ag au 1 16 (az w) w' b (aN dh ay L).length c (aN dh ay L)/\mZ w' b (aN dh ay L).length/\Below w.heap.size w w' :=
 Jp a n cap A L none 0 0 A [] L (by simp) w hL (ag.nil _ _ _ _ (fun _=>rfl)) (by have h1:=hL.out.1;have h2:=hL.out.2.2.2.1;rw [Hid,h1];simpa using h2)
theorem Jq (a:Option Addr) (n cap:Nat) (A:Where) (L:List Int) (w:World) (hL:Hid (ag aC 1 8 A w a n cap L)):Calls prog 69 #[.slice a n cap,.slice none 0 0] w fun e w'=>∃ b c,e=.returned (.slice b (aN fD dM L).length c)/\ag aC 1 8 (az w) w' b (aN fD dM L).length c (aN fD dM L)/\mZ w' b (aN fD dM L).length/\Below w.heap.size w w' :=
 Jr a n cap A L none 0 0 A [] L (by simp) w hL (ag.nil _ _ _ _ (fun _=>rfl)) (by have h1:=hL.out.1;have h2:=hL.out.2.2.2.1;rw [Hid,h1];simpa using h2)
end Go.Proofs.YtgikfenllgldoaaGreat
namespace Go.Proofs.YtgikfenllgldoaaGreat
open Go.Proofs.Tryz
open Go.RowKit
def ik (F:List aX):List ByteArray:=F.map (·.1)
def gW (F:List aX) (p:aX):List aX:=if hasB ay (ik F) p.1=true then F else F++[p]
def aZ (L:List aX):List aX:=L.foldl gW []
theorem Qr (L:List aX) {k:Nat} (hk:k<L.length):aZ (L.take (k+1))=gW (aZ (L.take k)) (L.getD k default):=by
 rw [<- nH hk];simp [aZ]
theorem J5 (F:List aX) (p:aX):(gW F p).length<=F.length+1:=by unfold gW;split <;> simp
theorem Qq (L:List aX):∀ k,k<=L.length->(aZ (L.take k)).length<=k:=by
 intro k
 induction k with
 | zero=>intro _;simp [aZ]
 | succ k ih =>
  intro hk
  rw [Qr L (by omega)]
  have:=J5 (aZ (L.take k)) (L.getD k default)
  have:=ih (by omega)
  omega
theorem Yh:(prog.info? 56).map (fun i=>(i.zero,i.size,i.bytes))=some (some (.agg #[.string ⟨#[]⟩,.slice none 0 0,.slice none 0 0,.bool false,.int .i64 0,.int .i64 0,.int .i64 0,.int .i64 0,.int .i64 0]),9,112):=by kernel_rfl
theorem LV:(prog.info? 56).map (·.size)=some 9:=by kernel_rfl
theorem av.lY {A:Where} {w:World} {cs:List Value} {q:aX} (h:av A w cs q):q.1.size<=140737488355328/\∃ v1 v2 v3 v4 v5 v6 v7 v8:Value,cs=[.string q.1,v1,v2,v3,v4,v5,v6,v7,v8]:=by
 obtain ⟨_,_,rfl,hp,_⟩:=h.out
 exact ⟨hp,_,_,_,_,_,_,_,_,rfl⟩
structure kQ (A:Where) (w u:World) (mb n:Nat) (v:Value) (F:List aX):Prop where
 set:bL u mb n (fun s=>hasB ay (ik F) s)
 row:Row av 9 (fun b=>A b/\b<w.heap.size) w u 56 v F
theorem kQ.on {A:Where} {w u u':World} {mb n:Nat} {v:Value} {F:List aX} (h:kQ A w u mb n v F) (hb:Below u.heap.size u u'):kQ A w u' mb n v F:=⟨h.set.on hb,h.row.on av.ae hb⟩
end Go.Proofs.YtgikfenllgldoaaGreat
