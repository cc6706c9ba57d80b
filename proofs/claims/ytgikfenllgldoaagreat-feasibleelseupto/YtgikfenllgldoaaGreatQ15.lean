/- Functions of the program, each walked under the conditions that its theorem names. -/
import Derived.Test.YtgikfenllgldoaaGreatQ14
set_option linter.unusedSimpArgs false
set_option maxRecDepth 100000
set_option maxHeartbeats 32000000
namespace Go.Proofs.YtgikfenllgldoaaGreat
open Go.Proofs.Tryz
open Go.RowKit
def mg (w:World) (v:ByteArray) (t:Bool) (a:Option Addr) (n cap:Nat) (u:World):Prop :=
 Below w.heap.size w u/\w.heap.size<u.heap.size/\u.cell? ⟨w.heap.size,0,none⟩=some (.string v)/\u.cell? ⟨w.heap.size,1,none⟩=some (.bool t)/\u.cell? ⟨w.heap.size,2,none⟩=some (.slice a n cap)
theorem mg.on {w u u':World} {v:ByteArray} {t:Bool} {a:Option Addr} {n cap:Nat} (h:mg w v t a n cap u) (hb:Below u.heap.size u u'):mg w v t a n cap u':=by
 obtain ⟨h0,h1,h2,h3,h4⟩:=h
 exact ⟨ah h0 hb,Nat.lt_of_lt_of_le h1 hb.size,(hb.cell h1).trans h2,(hb.cell h1).trans h3,(hb.cell h1).trans h4⟩
theorem mg.drew {w u:World} {v:ByteArray} {t:Bool} {a:Option Addr} {n cap:Nat} (h:mg w v t a n cap u):mg w v t a n cap u.drew:=⟨h.1.drew,h.2⟩
theorem mg.start (w:World) (v:ByteArray) (t:Bool) (a:Option Addr) (n cap:Nat):mg w v t a n cap (w.alloc (.cells #[.string v,.bool t,.slice a n cap] 271)) :=
 ⟨by go_grown,by simp,by simp [go_sem],by simp [go_sem],by simp [go_sem]⟩
def nX (w:World) (v:ByteArray) (t:Bool) (B off n cap:Nat) (x:ByteArray) (u:World):Prop:=mg w v t (some ⟨B,off,none⟩) n cap u/\u.cell? ⟨B,off,none⟩=some (.string x)
theorem nX.on {w u u':World} {v:ByteArray} {t:Bool} {B off n cap:Nat} {x:ByteArray} (hB:B<w.heap.size) (h:nX w v t B off n cap x u) (hb:Below u.heap.size u u'):nX w v t B off n cap x u' :=
 ⟨h.1.on hb,(hb.cell (Nat.lt_of_lt_of_le hB h.1.1.size)).trans h.2⟩
theorem nX.drew {w u:World} {v:ByteArray} {t:Bool} {B off n cap:Nat} {x:ByteArray} (h:nX w v t B off n cap x u):nX w v t B off n cap x u.drew:=⟨h.1.drew,h.2⟩
theorem Lg (v:ByteArray) (t:Bool) (a:Option Addr) (cap:Nat) (V:List ByteArray) (w:World) (hV:Hid (bS w a V)) (hn:Hid ((t && dm v && (decide (V.length=1) && dm (V.getD 0 default)))=false)):Calls prog 200 #[.agg #[.string v,.bool t,.slice a V.length cap]] w fun e w'=>e=.returned (.bool false)/\Below w.heap.size w w':=by
 have hS:=mg.start w v t a V.length cap
 have ko:∀ {u:World},Below w.heap.size w u->Hid (bS u a V):=fun hb=>hV.out.on hb
 have hin:=fun u h=>Mg v t a cap V u h
 rw [hn.out] at hin
 clear hn hV
 go_enter func200,ntmps200
 go_wp2_with fail
 refine wp_region_noPanic ?_
 refine wp_region_held_drew (S:=mg w v t a V.length cap) (by kernel_rfl) (hS.drew) (fun gH=>?_)
 refine wpAnyH_take (i:=0) (v:=?vn0) rfl (by kernel_rfl) (by kernel_rfl) (by kernel_rfl) (fun _ _ _ h=>h) (Or.inl ⟨by rfl,?hyn0⟩) (by assumption) ?Q5
 case hyn0=>(intro u hu;obtain ⟨_,_,_,_,_⟩:=hu;go_simp;try with_reducible rfl)
 try simp only [Act.put,List.setIfInBounds_toArray,List.set_cons_zero,List.set_cons_succ,List.getElem_toArray,List.getElem_cons_zero,List.getElem_cons_succ]
 refine wpAnyH_ready (rs:=[1]) (by kernel_rfl) (by simp) ?_
 refine AllReadyH.cons rfl (fun K hK=>?_) AllReadyH.nil
 go_simp
 refine (hin _ (ko gH.1)).mono ?_
 rintro e w1 ⟨rfl,hb2⟩
 go_wp2_with fail
 refine hK.out _ _ (gH.on hb2) (fun gI=>?_)
 clear hK K gH
 have gH:=gI
 clear gI
 try simp only [Act.put,List.setIfInBounds_toArray,List.set_cons_zero,List.set_cons_succ,List.getElem_toArray,List.getElem_cons_zero,List.getElem_cons_succ]
 refine wpAnyH_take (i:=2) (v:=?vn2) rfl (by kernel_rfl) (by kernel_rfl) (by kernel_rfl) (fun _ _ _ h=>h) (Or.inl ⟨by rfl,?hyn2⟩) (by assumption) ?Q4
 case hyn2=>(intro u hu;obtain ⟨_,_,_,_,_⟩:=hu;go_simp;try with_reducible rfl)
 try simp only [Act.put,List.setIfInBounds_toArray,List.set_cons_zero,List.set_cons_succ,List.getElem_toArray,List.getElem_cons_zero,List.getElem_cons_succ]
 refine wpAnyH_take (i:=3) (v:=undef) rfl (by kernel_rfl) (by kernel_rfl) (by kernel_rfl) (fun _ _ _ h=>h) (Or.inr ⟨by rfl,rfl⟩) (by assumption) ?_
 try simp only [Act.put,List.setIfInBounds_toArray,List.set_cons_zero,List.set_cons_succ,List.getElem_toArray,List.getElem_cons_zero,List.getElem_cons_succ]
 refine wpAnyH_take (i:=4) (v:=undef) rfl (by kernel_rfl) (by kernel_rfl) (by kernel_rfl) (fun _ _ _ h=>h) (Or.inr ⟨by rfl,rfl⟩) (by assumption) ?_
 try simp only [Act.put,List.setIfInBounds_toArray,List.set_cons_zero,List.set_cons_succ,List.getElem_toArray,List.getElem_cons_zero,List.getElem_cons_succ]
 refine wpAnyH_take (i:=5) (v:=undef) rfl (by kernel_rfl) (by kernel_rfl) (by kernel_rfl) (fun _ _ _ h=>h) (Or.inr ⟨by rfl,rfl⟩) (by assumption) ?_
 try simp only [Act.put,List.setIfInBounds_toArray,List.set_cons_zero,List.set_cons_succ,List.getElem_toArray,List.getElem_cons_zero,List.getElem_cons_succ]
 refine wpAnyH_take (i:=6) (v:=undef) rfl (by kernel_rfl) (by kernel_rfl) (by kernel_rfl) (fun _ _ _ h=>h) (Or.inr ⟨by rfl,rfl⟩) (by assumption) ?_
 try simp only [Act.put,List.setIfInBounds_toArray,List.set_cons_zero,List.set_cons_succ,List.getElem_toArray,List.getElem_cons_zero,List.getElem_cons_succ]
 refine wpAnyH_take (i:=7) (v:=undef) rfl (by kernel_rfl) (by kernel_rfl) (by kernel_rfl) (fun _ _ _ h=>h) (Or.inr ⟨by rfl,rfl⟩) (by assumption) ?_
 try simp only [Act.put,List.setIfInBounds_toArray,List.set_cons_zero,List.set_cons_succ,List.getElem_toArray,List.getElem_cons_zero,List.getElem_cons_succ]
 refine wpAnyH_take (i:=8) (v:=undef) rfl (by kernel_rfl) (by kernel_rfl) (by kernel_rfl) (fun _ _ _ h=>h) (Or.inr ⟨by rfl,rfl⟩) (by assumption) ?_
 try simp only [Act.put,List.setIfInBounds_toArray,List.set_cons_zero,List.set_cons_succ,List.getElem_toArray,List.getElem_cons_zero,List.getElem_cons_succ]
 refine wpAnyH_take (i:=9) (v:=undef) rfl (by kernel_rfl) (by kernel_rfl) (by kernel_rfl) (fun _ _ _ h=>h) (Or.inr ⟨by rfl,rfl⟩) (by assumption) ?_
 try simp only [Act.put,List.setIfInBounds_toArray,List.set_cons_zero,List.set_cons_succ,List.getElem_toArray,List.getElem_cons_zero,List.getElem_cons_succ]
 refine wpAnyH_take (i:=10) (v:=undef) rfl (by kernel_rfl) (by kernel_rfl) (by kernel_rfl) (fun _ _ _ h=>h) (Or.inr ⟨by rfl,rfl⟩) (by assumption) ?_
 try simp only [Act.put,List.setIfInBounds_toArray,List.set_cons_zero,List.set_cons_succ,List.getElem_toArray,List.getElem_cons_zero,List.getElem_cons_succ]
 refine wpAnyH_take (i:=11) (v:=?aah) rfl (by kernel_rfl) (by kernel_rfl) (by kernel_rfl) (fun _ _ _ h=>h) (Or.inl ⟨by rfl,?hyn11⟩) (by assumption) ?OT
 case hyn11=>(intro u hu;obtain ⟨_,_,_,_,_⟩:=hu;go_simp;try with_reducible rfl)
 try simp only [Act.put,List.setIfInBounds_toArray,List.set_cons_zero,List.set_cons_succ,List.getElem_toArray,List.getElem_cons_zero,List.getElem_cons_succ]
 refine wpAnyH_take (i:=12) (v:=?aag) rfl (by kernel_rfl) (by kernel_rfl) (by kernel_rfl) (fun _ _ _ h=>h) (Or.inl ⟨by rfl,?hyn12⟩) (by assumption) ?OQ
 case hyn12=>(intro u hu;obtain ⟨_,_,_,_,_⟩:=hu;go_simp;try with_reducible rfl)
 try simp only [Act.put,List.setIfInBounds_toArray,List.set_cons_zero,List.set_cons_succ,List.getElem_toArray,List.getElem_cons_zero,List.getElem_cons_succ]
 refine wpAnyH_done (by kernel_rfl) ?_ _
 refine NoPanic.normal ?_
 go_wp2_with fail
 go_ret
 exact ⟨rfl,gH.1⟩
theorem Hy (v:ByteArray) (t:Bool) (B off cap:Nat) (x:ByteArray) (w:World) (hB:B<w.heap.size) (hx:w.cell? ⟨B,off,none⟩=some (.string x)) (hV:Hid (bS w (some ⟨B,off,none⟩) [x])) (hn:Hid ((t && dm v && (decide ([x].length=1) && dm ([x].getD 0 default)))=true)):Calls prog 200 #[.agg #[.string v,.bool t,.slice (some ⟨B,off,none⟩) 1 cap]] w fun e w'=>e=.returned (.bool (decide (0<rz v x)))/\Below w.heap.size w w':=by
 have hS:nX w v t B off 1 cap x (w.alloc (.cells #[.string v,.bool t,.slice (some ⟨B,off,none⟩) 1 cap] 271)):=⟨mg.start w v t (some ⟨B,off,none⟩) 1 cap,(((Below.refl _ _).alloc (Nat.le_refl _) _).cell hB).trans hx⟩
 have ko:∀ {u:World},Below w.heap.size w u->Hid (bS u (some ⟨B,off,none⟩) [x]):=fun hb=>hV.out.on hb
 have hin:∀ u,Hid (bS u (some ⟨B,off,none⟩) [x])->Calls prog 213 #[.agg #[.string v,.bool t,.slice (some ⟨B,off,none⟩) 1 cap]] u fun e w'=>e=.returned (.bool true)/\Below u.heap.size u w':=fun u h=>by
  have h':=Mg v t (some ⟨B,off,none⟩) cap [x] u h
  rw [hn.out] at h'
  exact h'
 clear hn hV
 clear hx
 go_enter func200,ntmps200
 go_wp2_with fail
 refine wp_region_noPanic ?_
 refine wp_region_held_drew (S:=nX w v t B off 1 cap x) (by kernel_rfl) (hS.drew) (fun gH=>?_)
 refine wpAnyH_take (i:=0) (v:=?EJ) rfl (by kernel_rfl) (by kernel_rfl) (by kernel_rfl) (fun _ _ _ h=>h) (Or.inl ⟨by rfl,?hyy0⟩) (by assumption) ?Q3
 case hyy0=>(intro u hu;obtain ⟨⟨_,_,_,_,_⟩,_⟩:=hu;go_simp;try with_reducible rfl)
 try simp only [Act.put,List.setIfInBounds_toArray,List.set_cons_zero,List.set_cons_succ,List.getElem_toArray,List.getElem_cons_zero,List.getElem_cons_succ]
 refine wpAnyH_ready (rs:=[1]) (by kernel_rfl) (by simp) ?_
 refine AllReadyH.cons rfl (fun K hK=>?_) AllReadyH.nil
 go_simp
 refine (hin _ (ko gH.1.1)).mono ?_
 rintro e w1 ⟨rfl,hb2⟩
 go_wp2_with fail
 refine hK.out _ _ (gH.on hB hb2) (fun gI=>?_)
 clear hK K gH
 have gH:=gI
 clear gI
 try simp only [Act.put,List.setIfInBounds_toArray,List.set_cons_zero,List.set_cons_succ,List.getElem_toArray,List.getElem_cons_zero,List.getElem_cons_succ]
 refine wpAnyH_take (i:=2) (v:=?vy2) rfl (by kernel_rfl) (by kernel_rfl) (by kernel_rfl) (fun _ _ _ h=>h) (Or.inl ⟨by rfl,?hyy2⟩) (by assumption) ?Q0
 case hyy2=>(intro u hu;obtain ⟨⟨_,_,_,_,_⟩,_⟩:=hu;go_simp;try with_reducible rfl)
 try simp only [Act.put,List.setIfInBounds_toArray,List.set_cons_zero,List.set_cons_succ,List.getElem_toArray,List.getElem_cons_zero,List.getElem_cons_succ]
 refine wpAnyH_take (i:=3) (v:=?vy3) rfl (by kernel_rfl) (by kernel_rfl) (by kernel_rfl) (fun _ _ _ h=>h) (Or.inl ⟨by rfl,?hyy3⟩) (by assumption) ?QZ
 case hyy3=>(intro u hu;obtain ⟨⟨_,_,_,_,_⟩,_⟩:=hu;go_simp;try with_reducible rfl)
 try simp only [Act.put,List.setIfInBounds_toArray,List.set_cons_zero,List.set_cons_succ,List.getElem_toArray,List.getElem_cons_zero,List.getElem_cons_succ]
 refine wpAnyH_take (i:=4) (v:=?vy4) rfl (by kernel_rfl) (by kernel_rfl) (by kernel_rfl) (fun _ _ _ h=>h) (Or.inl ⟨by rfl,?hyy4⟩) (by assumption) ?QY
 case hyy4=>(intro u hu;obtain ⟨⟨_,_,_,_,_⟩,_⟩:=hu;go_simp;try with_reducible rfl)
 try simp only [Act.put,List.setIfInBounds_toArray,List.set_cons_zero,List.set_cons_succ,List.getElem_toArray,List.getElem_cons_zero,List.getElem_cons_succ]
 refine wpAnyH_take (i:=5) (v:=?vy5) rfl (by kernel_rfl) (by kernel_rfl) (by kernel_rfl) (fun _ _ _ h=>h) (Or.inl ⟨by rfl,?hyy5⟩) (by assumption) ?QX
 case hyy5=>(intro u hu;obtain ⟨⟨_,_,_,_,_⟩,_⟩:=hu;go_simp;try with_reducible rfl)
 try simp only [Act.put,List.setIfInBounds_toArray,List.set_cons_zero,List.set_cons_succ,List.getElem_toArray,List.getElem_cons_zero,List.getElem_cons_succ]
 refine wpAnyH_take (i:=6) (v:=?vy6) rfl (by kernel_rfl) (by kernel_rfl) (by kernel_rfl) (fun _ _ _ h=>h) (Or.inl ⟨by rfl,?hyy6⟩) (by assumption) ?QW
 case hyy6=>(intro u hu;obtain ⟨⟨_,_,_,_,_⟩,_⟩:=hu;go_simp;try with_reducible rfl)
 try simp only [Act.put,List.setIfInBounds_toArray,List.set_cons_zero,List.set_cons_succ,List.getElem_toArray,List.getElem_cons_zero,List.getElem_cons_succ]
 refine wpAnyH_take (i:=7) (v:=?vy7) rfl (by kernel_rfl) (by kernel_rfl) (by kernel_rfl) (fun _ _ _ h=>h) (Or.inl ⟨by rfl,?hyy7⟩) (by assumption) ?QV
 case hyy7=>(intro u hu;obtain ⟨⟨_,_,_,_,_⟩,_⟩:=hu;go_simp;try with_reducible rfl)
 try simp only [Act.put,List.setIfInBounds_toArray,List.set_cons_zero,List.set_cons_succ,List.getElem_toArray,List.getElem_cons_zero,List.getElem_cons_succ]
 refine wpAnyH_take (i:=8) (v:=?vy8) rfl (by kernel_rfl) (by kernel_rfl) (by kernel_rfl) (fun _ _ _ h=>h) (Or.inl ⟨by rfl,?hyy8⟩) (by assumption) ?QU
 case hyy8=>(intro u hu;obtain ⟨⟨_,_,_,_,_⟩,_⟩:=hu;go_simp;try with_reducible rfl)
 try simp only [Act.put,List.setIfInBounds_toArray,List.set_cons_zero,List.set_cons_succ,List.getElem_toArray,List.getElem_cons_zero,List.getElem_cons_succ]
 refine wpAnyH_ready (rs:=[9]) (by kernel_rfl) (by simp) ?_
 refine AllReadyH.cons rfl (fun K hK=>?_) AllReadyH.nil
 go_simp
 refine (Zh _ _ _).mono ?_
 rintro e w2 ⟨rfl,hb2⟩
 go_wp2_with fail
 refine hK.out _ _ (gH.on hB hb2) (fun gI=>?_)
 clear hK K gH
 have gH:=gI
 clear gI
 try simp only [Act.put,List.setIfInBounds_toArray,List.set_cons_zero,List.set_cons_succ,List.getElem_toArray,List.getElem_cons_zero,List.getElem_cons_succ]
 refine wpAnyH_take (i:=10) (v:=?aaf) rfl (by kernel_rfl) (by kernel_rfl) (by kernel_rfl) (fun _ _ _ h=>h) (Or.inl ⟨by rfl,?hyy10⟩) (by assumption) ?OP
 case hyy10=>(intro u hu;obtain ⟨⟨_,_,_,_,_⟩,_⟩:=hu;go_simp;try with_reducible rfl)
 try simp only [Act.put,List.setIfInBounds_toArray,List.set_cons_zero,List.set_cons_succ,List.getElem_toArray,List.getElem_cons_zero,List.getElem_cons_succ]
 refine wpAnyH_take (i:=11) (v:=?aae) rfl (by kernel_rfl) (by kernel_rfl) (by kernel_rfl) (fun _ _ _ h=>h) (Or.inl ⟨by rfl,?hyy11⟩) (by assumption) ?OO
 case hyy11=>(intro u hu;obtain ⟨⟨_,_,_,_,_⟩,_⟩:=hu;go_simp;try with_reducible rfl)
 try simp only [Act.put,List.setIfInBounds_toArray,List.set_cons_zero,List.set_cons_succ,List.getElem_toArray,List.getElem_cons_zero,List.getElem_cons_succ]
 refine wpAnyH_take (i:=12) (v:=?aad) rfl (by kernel_rfl) (by kernel_rfl) (by kernel_rfl) (fun _ _ _ h=>h) (Or.inl ⟨by rfl,?hyy12⟩) (by assumption) ?OM
 case hyy12=>(intro u hu;obtain ⟨⟨_,_,_,_,_⟩,_⟩:=hu;go_simp;try with_reducible rfl)
 try simp only [Act.put,List.setIfInBounds_toArray,List.set_cons_zero,List.set_cons_succ,List.getElem_toArray,List.getElem_cons_zero,List.getElem_cons_succ]
 refine wpAnyH_done (by kernel_rfl) ?_ _
 refine NoPanic.normal ?_
 go_wp2_with fail
 go_ret
 exact ⟨rfl,gH.1.1⟩
theorem zFm (v:ByteArray) (t:Bool) (a:Option Addr) (cap:Nat) (V:List ByteArray) (w:World) (hV:Hid (bS w a V)):Calls prog 200 #[.agg #[.string v,.bool t,.slice a V.length cap]] w fun e w'=>e=.returned (.bool (t && dm v && (decide (V.length=1) && dm (V.getD 0 default)) && decide (jE (V.getD 0 default)<jE v)))/\Below w.heap.size w w':=by
 cases hn:(t && dm v && (decide (V.length=1) && dm (V.getD 0 default)))
 ·simp only [Bool.false_and]
  exact Lg v t a cap V w hV hn
 ·have hn':=hn
  simp only [Bool.and_eq_true,decide_eq_true_eq] at hn'
  obtain ⟨⟨rfl,hv⟩,h1,hx⟩:=hn'
  obtain ⟨x,rfl⟩:=List.length_eq_one_iff.1 h1
  obtain ⟨B,off,rfl,hB,hc,_⟩:=hV.out.get (k:=0) (by simp)
  refine (Hy v true B off cap x w hB hc hV hn).mono fun e w' ⟨he,hb⟩=>⟨?_,hb⟩
  rw [he,zH9 hv (show dm x=true from hx)]
  simp
theorem K6 (v:ByteArray) (t:Bool) (a:Option Addr) (cap:Nat) (V:List ByteArray) (w:World) (hV:Hid (bS w a V)) (hn:Hid ((t && dm v && (decide (V.length=1) && dm (V.getD 0 default)))=false)):Calls prog 201 #[.agg #[.string v,.bool t,.slice a V.length cap]] w fun e w'=>e=.returned (.bool false)/\Below w.heap.size w w':=by
 have hS:=mg.start w v t a V.length cap
 have ko:∀ {u:World},Below w.heap.size w u->Hid (bS u a V):=fun hb=>hV.out.on hb
 have hin:=fun u h=>Mg v t a cap V u h
 rw [hn.out] at hin
 clear hn hV
 go_enter func201,ntmps201
 go_wp2_with fail
 refine wp_region_noPanic ?_
 refine wp_region_held_drew (S:=mg w v t a V.length cap) (by kernel_rfl) (hS.drew) (fun gH=>?_)
 refine wpAnyH_take (i:=0) (v:=?vn0) rfl (by kernel_rfl) (by kernel_rfl) (by kernel_rfl) (fun _ _ _ h=>h) (Or.inl ⟨by rfl,?hyn0⟩) (by assumption) ?Q5
 case hyn0=>(intro u hu;obtain ⟨_,_,_,_,_⟩:=hu;go_simp;try with_reducible rfl)
 try simp only [Act.put,List.setIfInBounds_toArray,List.set_cons_zero,List.set_cons_succ,List.getElem_toArray,List.getElem_cons_zero,List.getElem_cons_succ]
 refine wpAnyH_ready (rs:=[1]) (by kernel_rfl) (by simp) ?_
 refine AllReadyH.cons rfl (fun K hK=>?_) AllReadyH.nil
 go_simp
 refine (hin _ (ko gH.1)).mono ?_
 rintro e w1 ⟨rfl,hb2⟩
 go_wp2_with fail
 refine hK.out _ _ (gH.on hb2) (fun gI=>?_)
 clear hK K gH
 have gH:=gI
 clear gI
 try simp only [Act.put,List.setIfInBounds_toArray,List.set_cons_zero,List.set_cons_succ,List.getElem_toArray,List.getElem_cons_zero,List.getElem_cons_succ]
 refine wpAnyH_take (i:=2) (v:=?vn2) rfl (by kernel_rfl) (by kernel_rfl) (by kernel_rfl) (fun _ _ _ h=>h) (Or.inl ⟨by rfl,?hyn2⟩) (by assumption) ?Q4
 case hyn2=>(intro u hu;obtain ⟨_,_,_,_,_⟩:=hu;go_simp;try with_reducible rfl)
 try simp only [Act.put,List.setIfInBounds_toArray,List.set_cons_zero,List.set_cons_succ,List.getElem_toArray,List.getElem_cons_zero,List.getElem_cons_succ]
 refine wpAnyH_take (i:=3) (v:=undef) rfl (by kernel_rfl) (by kernel_rfl) (by kernel_rfl) (fun _ _ _ h=>h) (Or.inr ⟨by rfl,rfl⟩) (by assumption) ?_
 try simp only [Act.put,List.setIfInBounds_toArray,List.set_cons_zero,List.set_cons_succ,List.getElem_toArray,List.getElem_cons_zero,List.getElem_cons_succ]
 refine wpAnyH_take (i:=4) (v:=undef) rfl (by kernel_rfl) (by kernel_rfl) (by kernel_rfl) (fun _ _ _ h=>h) (Or.inr ⟨by rfl,rfl⟩) (by assumption) ?_
 try simp only [Act.put,List.setIfInBounds_toArray,List.set_cons_zero,List.set_cons_succ,List.getElem_toArray,List.getElem_cons_zero,List.getElem_cons_succ]
 refine wpAnyH_take (i:=5) (v:=undef) rfl (by kernel_rfl) (by kernel_rfl) (by kernel_rfl) (fun _ _ _ h=>h) (Or.inr ⟨by rfl,rfl⟩) (by assumption) ?_
 try simp only [Act.put,List.setIfInBounds_toArray,List.set_cons_zero,List.set_cons_succ,List.getElem_toArray,List.getElem_cons_zero,List.getElem_cons_succ]
 refine wpAnyH_take (i:=6) (v:=undef) rfl (by kernel_rfl) (by kernel_rfl) (by kernel_rfl) (fun _ _ _ h=>h) (Or.inr ⟨by rfl,rfl⟩) (by assumption) ?_
 try simp only [Act.put,List.setIfInBounds_toArray,List.set_cons_zero,List.set_cons_succ,List.getElem_toArray,List.getElem_cons_zero,List.getElem_cons_succ]
 refine wpAnyH_take (i:=7) (v:=undef) rfl (by kernel_rfl) (by kernel_rfl) (by kernel_rfl) (fun _ _ _ h=>h) (Or.inr ⟨by rfl,rfl⟩) (by assumption) ?_
 try simp only [Act.put,List.setIfInBounds_toArray,List.set_cons_zero,List.set_cons_succ,List.getElem_toArray,List.getElem_cons_zero,List.getElem_cons_succ]
 refine wpAnyH_take (i:=8) (v:=undef) rfl (by kernel_rfl) (by kernel_rfl) (by kernel_rfl) (fun _ _ _ h=>h) (Or.inr ⟨by rfl,rfl⟩) (by assumption) ?_
 try simp only [Act.put,List.setIfInBounds_toArray,List.set_cons_zero,List.set_cons_succ,List.getElem_toArray,List.getElem_cons_zero,List.getElem_cons_succ]
 refine wpAnyH_take (i:=9) (v:=undef) rfl (by kernel_rfl) (by kernel_rfl) (by kernel_rfl) (fun _ _ _ h=>h) (Or.inr ⟨by rfl,rfl⟩) (by assumption) ?_
 try simp only [Act.put,List.setIfInBounds_toArray,List.set_cons_zero,List.set_cons_succ,List.getElem_toArray,List.getElem_cons_zero,List.getElem_cons_succ]
 refine wpAnyH_take (i:=10) (v:=undef) rfl (by kernel_rfl) (by kernel_rfl) (by kernel_rfl) (fun _ _ _ h=>h) (Or.inr ⟨by rfl,rfl⟩) (by assumption) ?_
 try simp only [Act.put,List.setIfInBounds_toArray,List.set_cons_zero,List.set_cons_succ,List.getElem_toArray,List.getElem_cons_zero,List.getElem_cons_succ]
 refine wpAnyH_take (i:=11) (v:=?aah) rfl (by kernel_rfl) (by kernel_rfl) (by kernel_rfl) (fun _ _ _ h=>h) (Or.inl ⟨by rfl,?hyn11⟩) (by assumption) ?OT
 case hyn11=>(intro u hu;obtain ⟨_,_,_,_,_⟩:=hu;go_simp;try with_reducible rfl)
 try simp only [Act.put,List.setIfInBounds_toArray,List.set_cons_zero,List.set_cons_succ,List.getElem_toArray,List.getElem_cons_zero,List.getElem_cons_succ]
 refine wpAnyH_take (i:=12) (v:=?aag) rfl (by kernel_rfl) (by kernel_rfl) (by kernel_rfl) (fun _ _ _ h=>h) (Or.inl ⟨by rfl,?hyn12⟩) (by assumption) ?OQ
 case hyn12=>(intro u hu;obtain ⟨_,_,_,_,_⟩:=hu;go_simp;try with_reducible rfl)
 try simp only [Act.put,List.setIfInBounds_toArray,List.set_cons_zero,List.set_cons_succ,List.getElem_toArray,List.getElem_cons_zero,List.getElem_cons_succ]
 refine wpAnyH_done (by kernel_rfl) ?_ _
 refine NoPanic.normal ?_
 go_wp2_with fail
 go_ret
 exact ⟨rfl,gH.1⟩
theorem Ha (v:ByteArray) (t:Bool) (B off cap:Nat) (x:ByteArray) (w:World) (hB:B<w.heap.size) (hx:w.cell? ⟨B,off,none⟩=some (.string x)) (hV:Hid (bS w (some ⟨B,off,none⟩) [x])) (hn:Hid ((t && dm v && (decide ([x].length=1) && dm ([x].getD 0 default)))=true)):Calls prog 201 #[.agg #[.string v,.bool t,.slice (some ⟨B,off,none⟩) 1 cap]] w fun e w'=>e=.returned (.bool (decide (rz v x<0)))/\Below w.heap.size w w':=by
 have hS:nX w v t B off 1 cap x (w.alloc (.cells #[.string v,.bool t,.slice (some ⟨B,off,none⟩) 1 cap] 271)):=⟨mg.start w v t (some ⟨B,off,none⟩) 1 cap,(((Below.refl _ _).alloc (Nat.le_refl _) _).cell hB).trans hx⟩
 have ko:∀ {u:World},Below w.heap.size w u->Hid (bS u (some ⟨B,off,none⟩) [x]):=fun hb=>hV.out.on hb
 have hin:∀ u,Hid (bS u (some ⟨B,off,none⟩) [x])->Calls prog 213 #[.agg #[.string v,.bool t,.slice (some ⟨B,off,none⟩) 1 cap]] u fun e w'=>e=.returned (.bool true)/\Below u.heap.size u w':=fun u h=>by
  have h':=Mg v t (some ⟨B,off,none⟩) cap [x] u h
  rw [hn.out] at h'
  exact h'
 clear hn hV
 clear hx
 go_enter func201,ntmps201
 go_wp2_with fail
 refine wp_region_noPanic ?_
 refine wp_region_held_drew (S:=nX w v t B off 1 cap x) (by kernel_rfl) (hS.drew) (fun gH=>?_)
 refine wpAnyH_take (i:=0) (v:=?EJ) rfl (by kernel_rfl) (by kernel_rfl) (by kernel_rfl) (fun _ _ _ h=>h) (Or.inl ⟨by rfl,?hyy0⟩) (by assumption) ?Q3
 case hyy0=>(intro u hu;obtain ⟨⟨_,_,_,_,_⟩,_⟩:=hu;go_simp;try with_reducible rfl)
 try simp only [Act.put,List.setIfInBounds_toArray,List.set_cons_zero,List.set_cons_succ,List.getElem_toArray,List.getElem_cons_zero,List.getElem_cons_succ]
 refine wpAnyH_ready (rs:=[1]) (by kernel_rfl) (by simp) ?_
 refine AllReadyH.cons rfl (fun K hK=>?_) AllReadyH.nil
 go_simp
 refine (hin _ (ko gH.1.1)).mono ?_
 rintro e w1 ⟨rfl,hb2⟩
 go_wp2_with fail
 refine hK.out _ _ (gH.on hB hb2) (fun gI=>?_)
 clear hK K gH
 have gH:=gI
 clear gI
 try simp only [Act.put,List.setIfInBounds_toArray,List.set_cons_zero,List.set_cons_succ,List.getElem_toArray,List.getElem_cons_zero,List.getElem_cons_succ]
 refine wpAnyH_take (i:=2) (v:=?vy2) rfl (by kernel_rfl) (by kernel_rfl) (by kernel_rfl) (fun _ _ _ h=>h) (Or.inl ⟨by rfl,?hyy2⟩) (by assumption) ?Q0
 case hyy2=>(intro u hu;obtain ⟨⟨_,_,_,_,_⟩,_⟩:=hu;go_simp;try with_reducible rfl)
 try simp only [Act.put,List.setIfInBounds_toArray,List.set_cons_zero,List.set_cons_succ,List.getElem_toArray,List.getElem_cons_zero,List.getElem_cons_succ]
 refine wpAnyH_take (i:=3) (v:=?vy3) rfl (by kernel_rfl) (by kernel_rfl) (by kernel_rfl) (fun _ _ _ h=>h) (Or.inl ⟨by rfl,?hyy3⟩) (by assumption) ?QZ
 case hyy3=>(intro u hu;obtain ⟨⟨_,_,_,_,_⟩,_⟩:=hu;go_simp;try with_reducible rfl)
 try simp only [Act.put,List.setIfInBounds_toArray,List.set_cons_zero,List.set_cons_succ,List.getElem_toArray,List.getElem_cons_zero,List.getElem_cons_succ]
 refine wpAnyH_take (i:=4) (v:=?vy4) rfl (by kernel_rfl) (by kernel_rfl) (by kernel_rfl) (fun _ _ _ h=>h) (Or.inl ⟨by rfl,?hyy4⟩) (by assumption) ?QY
 case hyy4=>(intro u hu;obtain ⟨⟨_,_,_,_,_⟩,_⟩:=hu;go_simp;try with_reducible rfl)
 try simp only [Act.put,List.setIfInBounds_toArray,List.set_cons_zero,List.set_cons_succ,List.getElem_toArray,List.getElem_cons_zero,List.getElem_cons_succ]
 refine wpAnyH_take (i:=5) (v:=?vy5) rfl (by kernel_rfl) (by kernel_rfl) (by kernel_rfl) (fun _ _ _ h=>h) (Or.inl ⟨by rfl,?hyy5⟩) (by assumption) ?QX
 case hyy5=>(intro u hu;obtain ⟨⟨_,_,_,_,_⟩,_⟩:=hu;go_simp;try with_reducible rfl)
 try simp only [Act.put,List.setIfInBounds_toArray,List.set_cons_zero,List.set_cons_succ,List.getElem_toArray,List.getElem_cons_zero,List.getElem_cons_succ]
 refine wpAnyH_take (i:=6) (v:=?vy6) rfl (by kernel_rfl) (by kernel_rfl) (by kernel_rfl) (fun _ _ _ h=>h) (Or.inl ⟨by rfl,?hyy6⟩) (by assumption) ?QW
 case hyy6=>(intro u hu;obtain ⟨⟨_,_,_,_,_⟩,_⟩:=hu;go_simp;try with_reducible rfl)
 try simp only [Act.put,List.setIfInBounds_toArray,List.set_cons_zero,List.set_cons_succ,List.getElem_toArray,List.getElem_cons_zero,List.getElem_cons_succ]
 refine wpAnyH_take (i:=7) (v:=?vy7) rfl (by kernel_rfl) (by kernel_rfl) (by kernel_rfl) (fun _ _ _ h=>h) (Or.inl ⟨by rfl,?hyy7⟩) (by assumption) ?QV
 case hyy7=>(intro u hu;obtain ⟨⟨_,_,_,_,_⟩,_⟩:=hu;go_simp;try with_reducible rfl)
 try simp only [Act.put,List.setIfInBounds_toArray,List.set_cons_zero,List.set_cons_succ,List.getElem_toArray,List.getElem_cons_zero,List.getElem_cons_succ]
 refine wpAnyH_take (i:=8) (v:=?vy8) rfl (by kernel_rfl) (by kernel_rfl) (by kernel_rfl) (fun _ _ _ h=>h) (Or.inl ⟨by rfl,?hyy8⟩) (by assumption) ?QU
 case hyy8=>(intro u hu;obtain ⟨⟨_,_,_,_,_⟩,_⟩:=hu;go_simp;try with_reducible rfl)
 try simp only [Act.put,List.setIfInBounds_toArray,List.set_cons_zero,List.set_cons_succ,List.getElem_toArray,List.getElem_cons_zero,List.getElem_cons_succ]
 refine wpAnyH_ready (rs:=[9]) (by kernel_rfl) (by simp) ?_
 refine AllReadyH.cons rfl (fun K hK=>?_) AllReadyH.nil
 go_simp
 refine (Zh _ _ _).mono ?_
 rintro e w2 ⟨rfl,hb2⟩
 go_wp2_with fail
 refine hK.out _ _ (gH.on hB hb2) (fun gI=>?_)
 clear hK K gH
 have gH:=gI
 clear gI
 try simp only [Act.put,List.setIfInBounds_toArray,List.set_cons_zero,List.set_cons_succ,List.getElem_toArray,List.getElem_cons_zero,List.getElem_cons_succ]
 refine wpAnyH_take (i:=10) (v:=?aaf) rfl (by kernel_rfl) (by kernel_rfl) (by kernel_rfl) (fun _ _ _ h=>h) (Or.inl ⟨by rfl,?hyy10⟩) (by assumption) ?OP
 case hyy10=>(intro u hu;obtain ⟨⟨_,_,_,_,_⟩,_⟩:=hu;go_simp;try with_reducible rfl)
 try simp only [Act.put,List.setIfInBounds_toArray,List.set_cons_zero,List.set_cons_succ,List.getElem_toArray,List.getElem_cons_zero,List.getElem_cons_succ]
 refine wpAnyH_take (i:=11) (v:=?aae) rfl (by kernel_rfl) (by kernel_rfl) (by kernel_rfl) (fun _ _ _ h=>h) (Or.inl ⟨by rfl,?hyy11⟩) (by assumption) ?OO
 case hyy11=>(intro u hu;obtain ⟨⟨_,_,_,_,_⟩,_⟩:=hu;go_simp;try with_reducible rfl)
 try simp only [Act.put,List.setIfInBounds_toArray,List.set_cons_zero,List.set_cons_succ,List.getElem_toArray,List.getElem_cons_zero,List.getElem_cons_succ]
 refine wpAnyH_take (i:=12) (v:=?aad) rfl (by kernel_rfl) (by kernel_rfl) (by kernel_rfl) (fun _ _ _ h=>h) (Or.inl ⟨by rfl,?hyy12⟩) (by assumption) ?OM
 case hyy12=>(intro u hu;obtain ⟨⟨_,_,_,_,_⟩,_⟩:=hu;go_simp;try with_reducible rfl)
 try simp only [Act.put,List.setIfInBounds_toArray,List.set_cons_zero,List.set_cons_succ,List.getElem_toArray,List.getElem_cons_zero,List.getElem_cons_succ]
 refine wpAnyH_done (by kernel_rfl) ?_ _
 refine NoPanic.normal ?_
 go_wp2_with fail
 go_ret
 exact ⟨rfl,gH.1.1⟩
theorem zFp (v:ByteArray) (t:Bool) (a:Option Addr) (cap:Nat) (V:List ByteArray) (w:World) (hV:Hid (bS w a V)):Calls prog 201 #[.agg #[.string v,.bool t,.slice a V.length cap]] w fun e w'=>e=.returned (.bool (t && dm v && (decide (V.length=1) && dm (V.getD 0 default)) && decide (jE v<jE (V.getD 0 default))))/\Below w.heap.size w w':=by
 cases hn:(t && dm v && (decide (V.length=1) && dm (V.getD 0 default)))
 ·simp only [Bool.false_and]
  exact K6 v t a cap V w hV hn
 ·have hn':=hn
  simp only [Bool.and_eq_true,decide_eq_true_eq] at hn'
  obtain ⟨⟨rfl,hv⟩,h1,hx⟩:=hn'
  obtain ⟨x,rfl⟩:=List.length_eq_one_iff.1 h1
  obtain ⟨B,off,rfl,hB,hc,_⟩:=hV.out.get (k:=0) (by simp)
  refine (Ha v true B off cap x w hB hc hV hn).mono fun e w' ⟨he,hb⟩=>⟨?_,hb⟩
  rw [he,zHA hv (show dm x=true from hx)]
  simp
structure Cx (w u:World) (P Y:List Value):Prop where
 p:af u w.heap.size P
 y:af u (w.heap.size+1) Y
 b:Below w.heap.size w u
theorem Cx.on {w u u':World} {P Y:List Value} (h:Cx w u P Y) (hb:Below u.heap.size u u'):Cx w u' P Y:=⟨h.p.on hb,h.y.on hb,ah h.b hb⟩
end Go.Proofs.YtgikfenllgldoaaGreat
namespace Go.Proofs.YtgikfenllgldoaaGreat
open Go.Proofs.Tryz
def waitsP (l:List dI) (cl:ByteArray):Bool:=match l.find? (fun k=>ay k.1 cl) with | some k=>k.2 | none=>false
def J8 (c:aT) (NL:List aG) (picked:List ByteArray) (v:aD):Bool:=ay (eH v) B0 && (!hasB ay picked v.1 && (ay v.2.2.1 c.2.2.1 && (!decide (v.2.1<c.2.1) && bE NL (oQ v))))
def iI (v w:aD):Bool:=decide (v.2.1<w.2.1) || (v.2.1 == w.2.1 && dh v.1 w.1)
def bestF (fit:aD->Bool) (V:List aD):Nat->Option Nat
 | 0=>none
 | k+1=>if fit (V.getD k default)=true then (match bestF fit V k with | none=>some k | some b=>if iI (V.getD k default) (V.getD b default)=true then some k else some b) else bestF fit V k
def jX (c:aT) (NL:List aG) (V:List aD) (picked:List ByteArray):Option Nat:=bestF (J8 c NL picked) V V.length
theorem LQ {fit:aD->Bool} {V:List aD}:∀ {k b:Nat},bestF fit V k=some b->b<k/\fit (V.getD b default)=true
 | 0,b,h=>by cases h
 | k+1,b,h=>by
  unfold bestF at h
  split at h
  ·rename_i hf
   cases e:bestF fit V k with
   | none=>rw [e] at h;injection h with h;subst h;exact ⟨Nat.lt_succ_self _,hf⟩
   | some a =>
    rw [e] at h
    simp only at h
    obtain ⟨h1,h2⟩:=LQ e
    split at h
    ·injection h with h;subst h;exact ⟨Nat.lt_succ_self _,hf⟩
    ·injection h with h;subst h;exact ⟨by omega,h2⟩
  ·obtain ⟨h1,h2⟩:=LQ h
   exact ⟨by omega,h2⟩
theorem Qe {fit:aD->Bool} {V:List aD}:∀ {k:Nat},bestF fit V k=none->∀ j,j<k->fit (V.getD j default)=false
 | 0,_,j,hj=>absurd hj (Nat.not_lt_zero _)
 | k+1,h,j,hj=>by
  unfold bestF at h
  split at h
  ·cases e:bestF fit V k with
   | none=>rw [e] at h;cases h
   | some a =>
    rw [e] at h
    simp only at h
    split at h <;> cases h
  ·rename_i hf
   rcases Nat.lt_succ_iff_lt_or_eq.1 hj with h1 | rfl
   ·exact Qe h j h1
   ·simpa using hf
def gD (st:VC) (K:List dI) (NL:List aG) (picked:List ByteArray) (nm:ByteArray):Except Int (Option bH) :=
 match fI (qh st.2) nm with
 | none=>.error 13
 | some k =>
  if ay (jS (st.2.getD k default)) B0=true then
   if waitsP K (st.2.getD k default).2.2.1=true then
    match jX (st.2.getD k default) NL st.1 picked with
    | none=>.error 14
    | some j=>.ok (some ((st.2.getD k default).1,(st.1.getD j default).1))
   else .error 13
  else
   match fI (jK st.1) (jS (st.2.getD k default)) with
   | none=>.error 13
   | some j=>if ay (eH (st.1.getD j default)) (st.2.getD k default).1=true then (if bE NL (oQ (st.1.getD j default))=true then .ok none else .error 14) else .error 13
def planL (st:VC) (K:List dI) (NL:List aG):List ByteArray->List bH->Except Int (List bH)
 | [],out=>.ok out
 | nm :: r,out=>match gD st K NL (out.map Prod.snd) nm with
  | .error e=>.error e
  | .ok none=>planL st K NL r out
  | .ok (some pk)=>planL st K NL r (out++[pk])
def GH (lN claims:List ByteArray) (d:Int):Bool:=decide (d<((aN dh ay (lN++claims)).length:Int))
def sH (st:VC) (K:List dI) (NL:List aG) (claims lN:List ByteArray) (d:Int):List bH×Int :=
 match planL st K NL claims [] with
 | .error e=>([],e)
 | .ok out=>if GH lN claims d=true then ([],15) else (out,0)
end Go.Proofs.YtgikfenllgldoaaGreat
