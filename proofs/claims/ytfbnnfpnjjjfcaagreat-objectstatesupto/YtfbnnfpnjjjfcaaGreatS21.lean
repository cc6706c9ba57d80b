/- object.allRight at Claim, by what the kind says of one, and its like. No condition beyond what each says. -/
import Derived.Shelf.Abstract
import Derived.Test.YtfbnnfpnjjjfcaaGreatS20
namespace Go.Proofs.YtfbnnfpnjjjfcaaGreat
set_option maxHeartbeats 16000000
set_option maxRecDepth 100000
open Tryz Go.RowKit
set_option linter.unusedSimpArgs false
theorem all1Claim (s : String) (hm : ∀ w, (method 406 147 (.agg #[]) s).run prog w = .ok (249, .agg #[]) w) (p : ClaimD → Bool) (D : Nat) (w : World) (hD : D < w.heap.size) (cD : w.cell? ⟨D, 0, none⟩ = some (.func (.method s) #[.iface 147 (.agg #[])] #[])) (hpr : p = rightClaim) : PredClaim 272 #[.pointer (some ⟨D, 0, none⟩)] (fun x => !p x) w := fun W cs x hb hr0 => by
 have hr : Hid (RClaim (fun _ => True) W cs x) := hr0
 clear hr0
 have HV : Hid ((W.alloc (.cells cs.toArray 40)).rangeAt W.heap.size 0 cs) := range_all rfl
 have hi : (prog.info? 40).map (·.size) = some cs.length := by rw [RClaim.firm.len hr.out]; exact itClaim
 have HB0 : Hid (Below w.heap.size w (W.alloc (.cells cs.toArray 40))) := on2 hb (by go_grown)
 have HBW : Hid (Below W.heap.size W (W.alloc (.cells cs.toArray 40))) := by unfold Hid; go_grown
 have hDW : D < W.heap.size := by have := hb.size; omega
 have hne : D ≠ W.heap.size := by omega
 have d0 := (hb.cell (p := ⟨D, 0, none⟩) hD).trans cD
 subst hpr
 have hcall := (Claim_right cs _ x (W.alloc (.cells cs.toArray 40)) (RClaim.firm.kept hr.out (Kept.alloc _ _ _)))
 show Calls prog 272 #[.agg cs.toArray, .pointer (some ⟨D, 0, none⟩)] W fun e w' => e = .returned (.bool (!rightClaim x)) ∧ Below W.heap.size W w'
 generalize rightClaim x = r at hcall ⊢
 clear cD hb
 go_enter func272, ntmps272
 go_wp2_with (first | (refine wpList_load_mid rfl 40 _ rfl W.heap.size 0 rfl cs _ HV.out underlying40 rfl hi ?_) | fail)
 refine hcall.mono ?_
 rintro e w1 ⟨rfl, hb1⟩
 go_wp2_with fail
 go_ret
 exact ⟨rfl, on2 HBW.out hb1⟩
theorem entsClaim : ∀ args w, (callFunc 272 args).run prog w = .ok (.enter 272 args) w := Go.Proofs.enters_of func272 (by kernel_rfl) rfl
theorem not_anyClaim (L : List ClaimD) (p : ClaimD → Bool) : (!L.any (fun x => !p x)) = L.all p := by
 rw [Bool.eq_iff_iff]; simp
theorem allRightClaim_calls (s : String) (hm : ∀ w, (method 406 147 (.agg #[]) s).run prog w = .ok (249, .agg #[]) w) (a : Option Addr) (n cap : Nat) (A : Where) (L : List ClaimD) (w : World) (hL : Hid (SlAt RClaim 4 56 A w a n cap L)) : Calls prog 264 #[.slice a n cap, .func (.method s) #[.iface 147 (.agg #[])] #[]] w fun e w' => e = .returned (.bool (L.all rightClaim)) ∧ Below w.heap.size w w' := by
 have hb0 : Below w.heap.size w (w.alloc (.cells #[.func (.method s) #[.iface 147 (.agg #[])] #[]] 90)) := by go_grown
 have hC := ContainsClaim_calls a n cap A L (w.alloc (.cells #[.func (.method s) #[.iface 147 (.agg #[])] #[]] 90)) (hL.out.on RClaim.firm hb0) (fun x => !rightClaim x) 272 #[.pointer (some ⟨w.heap.size, 0, none⟩)] entsClaim (all1Claim s hm rightClaim w.heap.size _ (by simp) (by simp [go_sem]) rfl)
 have HF := not_anyClaim L rightClaim
 generalize L.any (fun x => !rightClaim x) = r at hC HF
 have HF2 : Hid ((!r) = L.all rightClaim) := HF
 clear HF hL
 go_enter func264, ntmps264
 go_wp2_with fail
 refine hC.mono ?_
 rintro e w1 ⟨rfl, hb1⟩
 go_wp2_with fail
 go_ret
 exact ⟨retb HF2.out, on2 hb0 hb1⟩
theorem Claim_kright (p c q : List Value) (x : ClaimD) (A : Where) (w : World) (h : Hid (RClaim A w c x)) (hp : p.length = 31) (hall : (p ++ (c ++ q)).length = 40) : Calls prog 258 #[.agg #[.iface 147 (.agg #[])], .agg (p ++ (c ++ q)).toArray] w fun e w' => e = .returned (.bool (rightClaim x)) ∧ Below w.heap.size w w' := by
 have hi : (prog.info? 46).map (·.size) = some (p ++ (c ++ q)).length := by rw [hall]; exact infoObj
 have HH : Hid (Held w [(w.heap.size + 1, p ++ (c ++ q)), (w.heap.size, [.iface 147 (.agg #[])])] [] ((w.alloc (.cells #[.iface 147 (.agg #[])] 151)).alloc (.cells (p ++ (c ++ q)).toArray 46))) := ((Held.start w).push rfl [.iface 147 (.agg #[])] 151).push (by simp) (p ++ (c ++ q)) 46
 have hc := RClaim.firm.len h.out
 have h1 := RClaim.firm.one h.out
 go_enter func258, ntmps258
 go_wp2_with fail
 refine t0 (Held w [(w.heap.size + 1, p ++ (c ++ q)), (w.heap.size, [.iface 147 (.agg #[])])] []) (HH.out.drew) (fun hH => ?_)
 refine tp 0 ?_; try go_frame
 refine' tk 1 ?_ ?_; rotate_left
 ·
  intro u hu; have hc0 := Held.cell hu 1 rfl 0 rfl; clear hu; go_simp; try with_reducible rfl
 try go_frame
 refine tp 2 ?_; try go_frame
 refine' tk 3 ?_ ?_; rotate_left
 ·
  intro u hu; have hc0 := Held.cell hu 1 rfl 0 rfl; clear hu; go_simp; try with_reducible rfl
 try go_frame
 refine tq 4 (.agg (p ++ (c ++ q)).toArray) (yieldsIf_load_mid (by rfl) 46 _ rfl (w.heap.size + 1) 0 rfl (p ++ (c ++ q)) _ (fun u hu => Held.get hu 0 rfl) underlying46 rfl hi) ?_ (hi := rfl)
 try go_frame
 refine tp 6 ?_; try go_frame
 refine tp 7 ?_; try go_frame
 refine tr 5 (fun K hK => ?_)
 refine want_yes (by rfl) (call_enter (f := 246) (args := #[.agg #[], .agg (p ++ (c ++ q)).toArray]) (by kernel_rfl) (Claim_member p c q hp hc h1 _) (fun e u1 he => ?_))
 obtain ⟨rfl, hb1⟩ := he
 have HB1 : Hid (Below w.heap.size w u1) := on2 hH.below hb1
 refine ⟨_, rfl, hK.out _ _ (hH.on hb1) (fun hH => ?_)⟩
 clear hK K
 try go_frame
 refine tr 8 (fun K hK => ?_)
 refine want_yes (by rfl) (call_enter (f := 249) (args := #[.agg #[], .agg c.toArray]) (by kernel_rfl) (Claim_right c A x _ (RClaim.firm.kept h.out (Kept.below HB1.out))) (fun e u1 he => ?_))
 obtain ⟨rfl, hb2⟩ := he
 have HB2 : Hid (Below w.heap.size w u1) := on2 hH.below hb2
 refine ⟨_, rfl, hK.out _ _ (hH.on hb2) (fun hH => ?_)⟩
 clear hK K
 try go_frame
 refine tp 9 ?_; try go_frame
 refine tz ?_
 go_wp2_with fail
 go_ret
 exact ⟨rfl, HB2.out⟩
theorem Claim_kblank (p c q : List Value) (x : ClaimD) (A : Where) (w : World) (h : Hid (RClaim A w c x)) (hp : p.length = 31) (hall : (p ++ (c ++ q)).length = 40) : Calls prog 252 #[.agg #[.iface 147 (.agg #[])], .agg (p ++ (c ++ q)).toArray] w fun e w' => e = .returned (.bool (blankClaim x)) ∧ Below w.heap.size w w' := by
 have hi : (prog.info? 46).map (·.size) = some (p ++ (c ++ q)).length := by rw [hall]; exact infoObj
 have HH : Hid (Held w [(w.heap.size + 1, p ++ (c ++ q)), (w.heap.size, [.iface 147 (.agg #[])])] [] ((w.alloc (.cells #[.iface 147 (.agg #[])] 151)).alloc (.cells (p ++ (c ++ q)).toArray 46))) := ((Held.start w).push rfl [.iface 147 (.agg #[])] 151).push (by simp) (p ++ (c ++ q)) 46
 have hc := RClaim.firm.len h.out
 have h1 := RClaim.firm.one h.out
 go_enter func252, ntmps252
 go_wp2_with fail
 refine t0 (Held w [(w.heap.size + 1, p ++ (c ++ q)), (w.heap.size, [.iface 147 (.agg #[])])] []) (HH.out.drew) (fun hH => ?_)
 refine tp 0 ?_; try go_frame
 refine' tk 1 ?_ ?_; rotate_left
 ·
  intro u hu; have hc0 := Held.cell hu 1 rfl 0 rfl; clear hu; go_simp; try with_reducible rfl
 try go_frame
 refine tp 2 ?_; try go_frame
 refine' tk 3 ?_ ?_; rotate_left
 ·
  intro u hu; have hc0 := Held.cell hu 1 rfl 0 rfl; clear hu; go_simp; try with_reducible rfl
 try go_frame
 refine tq 4 (.agg (p ++ (c ++ q)).toArray) (yieldsIf_load_mid (by rfl) 46 _ rfl (w.heap.size + 1) 0 rfl (p ++ (c ++ q)) _ (fun u hu => Held.get hu 0 rfl) underlying46 rfl hi) ?_ (hi := rfl)
 try go_frame
 refine tp 6 ?_; try go_frame
 refine tp 7 ?_; try go_frame
 refine tr 5 (fun K hK => ?_)
 refine want_yes (by rfl) (call_enter (f := 246) (args := #[.agg #[], .agg (p ++ (c ++ q)).toArray]) (by kernel_rfl) (Claim_member p c q hp hc h1 _) (fun e u1 he => ?_))
 obtain ⟨rfl, hb1⟩ := he
 have HB1 : Hid (Below w.heap.size w u1) := on2 hH.below hb1
 refine ⟨_, rfl, hK.out _ _ (hH.on hb1) (fun hH => ?_)⟩
 clear hK K
 try go_frame
 refine tr 8 (fun K hK => ?_)
 refine want_yes (by rfl) (call_enter (f := 244) (args := #[.agg #[], .agg c.toArray]) (by kernel_rfl) (Claim_blank c A x _ (RClaim.firm.kept h.out (Kept.below HB1.out))) (fun e u1 he => ?_))
 obtain ⟨rfl, hb2⟩ := he
 have HB2 : Hid (Below w.heap.size w u1) := on2 hH.below hb2
 refine ⟨_, rfl, hK.out _ _ (hH.on hb2) (fun hH => ?_)⟩
 clear hK K
 try go_frame
 refine tp 9 ?_; try go_frame
 refine tz ?_
 go_wp2_with fail
 go_ret
 exact ⟨rfl, HB2.out⟩
theorem headClaim {A : Where} {w : World} {c : List Value} {x : ClaimD} (h : RClaim A w c x) : ∃ r, c = .string x.1 :: r := by
 obtain ⟨c1, d, rfl, ⟨rfl, _⟩, _⟩ := h
 exact ⟨d, rfl⟩
theorem Claim_named (c : List Value) (A : Where) (x : ClaimD) (w : World) (h : RClaim A w c x) : Calls prog 247 #[.agg #[], .agg c.toArray] w fun e w' => e = .returned (.string x.1) ∧ Below w.heap.size w w' := by
 obtain ⟨r, rfl⟩ := headClaim h
 exact Claim_name x.1 r w
theorem Claim_kcount (h0 h1 h2 h3 h4 h5 : Hd) (w : World) : Calls prog 253 #[.agg #[.iface 147 (.agg #[])], .agg #[J h0, J h1, J h2, J h3, J h4, J h5]] w fun e w' => e = .returned (.int .i64 (h3.2.1 : Nat)) ∧ Below w.heap.size w w' := by
 have hL := Claim_list (J h0) (J h1) (J h2) (J h3) (J h4) (J h5)
 go_enter func253, ntmps253
 go_wp2_with fail
 refine (hL _).mono ?_
 rintro e w1 ⟨rfl, hb1⟩
 go_wp2_with fail
 go_ret
 exact ⟨rfl, on2 (by go_grown) hb1⟩
theorem sizClass : (prog.info? 42).map (·.size) = some 2 := by kernel_rfl
theorem Class_member (p c q : List Value) (hp : p.length = 35) (hc : c.length = 2) (h1 : ∀ v ∈ c, v.oneCell' = true) (w : World) : Calls prog 277 #[.agg #[], .agg (p ++ (c ++ q)).toArray] w fun e w' => e = .returned (.agg c.toArray) ∧ Below w.heap.size w w' := by
 have hi : (prog.info? 42).map (·.size) = some c.length := by rw [hc]; exact sizClass
 have Hr : ∀ T z, Hid ((((w.alloc (.cells #[] T)).alloc (.cells (p ++ (c ++ q)).toArray 46)).alloc (.cells z 42)).rangeAt (w.heap.size + 1) 35 c) := fun T z => World.rangeAt_alloc (range_new (by simp) hp) _
 have Ht : ∀ T z, z.size = 2 → Hid ((((w.alloc (.cells #[] T)).alloc (.cells (p ++ (c ++ q)).toArray 46)).alloc (.cells z 42)).there (w.heap.size + 1 + 1) 0 c.toArray.size) := fun T z hz => there_new (by simp) (by simp [hc, hz])
 have h1' := all_oneCell_toArray h1
 have HE : Hid (c.toArray.size = 2) := by simp [Hid, hc]
 clear hp hc h1
 go_enter func277, ntmps277
 go_wp2_with (first | (refine wpList_load_mid rfl 42 _ rfl (w.heap.size + 1) 35 rfl c _ (Hr _ _).out underlying42 rfl hi ?_) | (refine wpList_store_mid rfl 42 _ _ rfl (w.heap.size + 1 + 1) 0 c.toArray rfl rfl (Ht _ _ rfl).out (by simpa using hi) h1' ?_))
 have HT := (Ht 152 #[.string ⟨#[]⟩, .bool false] rfl).out
 refine bodyPost_ret (v := .agg c.toArray) (res_cell (p := 4) (ty := 42) rfl _ _ (w.heap.size + 1 + 1) c _ rfl (World.rangeAt_setCells_same _ _ _ _ (by simpa using HT)) underlying42 rfl hi) rfl ⟨rfl, below_setCells (by go_grown) (by omega)⟩
theorem Class_with (h0 h1 h2 h3 h4 h5 h : Hd) (w : World) : Calls prog 281 #[.agg #[], .agg #[J h0, J h1, J h2, J h3, J h4, J h5], J h] w fun e w' => e = .returned (.agg #[J h0, J h1, J h2, J h3, J h, J h5]) ∧ Below w.heap.size w w' := by
 go_enter func281, ntmps281
 go_wp2_with fail
 refine bodyPost_ret (v := .agg #[J h0, J h1, J h2, J h3, J h, J h5]) (by simp [results, results281, go_sem]) rfl ⟨rfl, by go_grown⟩
theorem itClass : (prog.info? 42).map (·.size) = some 2 := by kernel_rfl
def PredClass (g : Nat) (lb : Array Value) (p : ClassD → Bool) (w : World) : Prop :=
 ∀ (W : World) (cs : List Value) (x : ClassD), Below w.heap.size w W → RClass (fun _ => True) W cs x → Calls prog g (#[.agg cs.toArray] ++ lb) W fun e w' => e = .returned (.bool (p x)) ∧ Below W.heap.size W w'
theorem IndexClass_calls (a : Option Addr) (n cap : Nat) (A : Where) (L : List ClassD) (w : World) (hL : Hid (SlAt RClass 2 24 A w a n cap L)) (p : ClassD → Bool) (g : Nat) (lb : Array Value) (eg : ∀ args w, (callFunc g args).run prog w = .ok (.enter g args) w) (hp : Hid (PredClass g lb p w)) :
  Calls prog 297 #[.slice a n cap, .func (.func g) #[] lb] w fun e w' => ((∃ i : Nat, i < L.length ∧ p (L.getD i default) = true ∧ (∀ j, j < i → p (L.getD j default) = false) ∧ e = .returned (.int .i64 i)) ∨ ((∀ j, j < L.length → p (L.getD j default) = false) ∧ e = .returned (.int .i64 (-1)))) ∧ Below w.heap.size w w' := by
 have hlen := hL.out.len (by decide)
 have HN : Hid (L.length = n) := hL.out.1
 go_enter func297, ntmps297
 go_wp2
 go_loopw [8] (fun i wr => ∃ k : Nat, k ≤ n ∧ i = .int .i64 k ∧ Below w.heap.size w wr ∧ Hid (∀ j, j < k → p (L.getD j default) = false)) (fun i _ => n - (intOf i).toNat)
 case atStart => exact ⟨0, Nat.zero_le _, rfl, Below.refl _ _, fun j hj => absurd hj (Nat.not_lt_zero _)⟩
 case round =>
  obtain ⟨k, hk, rfl, hbel, hall⟩ := hrel
  by_cases hlt : k < n
  ·
   obtain ⟨B, off, rfl, hB, _, cs, hr, hv⟩ := (hL.out.on RClass.firm hbel).get hlt
   have HV : Hid (wr.rangeAt B (off + k * 2) cs) := hv
   have hi : (prog.info? 42).map (·.size) = some cs.length := by rw [RClass.firm.len hr]; exact itClass
   have hcall := hp.out wr cs (L.getD k default) hbel (RClass.firm.weak hr (fun _ _ _ => trivial))
   clear hv hr
   have HG : Hid (p (L.getD k default) = false → ∀ j, j < k + 1 → p (L.getD j default) = false) := fun h j hj => by
    rcases Nat.lt_succ_iff_lt_or_eq.1 hj with h' | rfl
    ·
     exact hall.out j h'
    ·
     exact h
   have HF : Hid (p (L.getD k default) = true → ∃ i : Nat, i < L.length ∧ p (L.getD i default) = true ∧ (∀ j, j < i → p (L.getD j default) = false) ∧ Ending.returned (.int .i64 k) = .returned (.int .i64 i)) := fun h => ⟨k, by rw [HN.out]; exact hlt, h, hall.out, rfl⟩
   clear hall
   generalize L.getD k default = x at hcall HG HF
   cases hq : p x
   ·
    have HG' : Hid (∀ j, j < k + 1 → p (L.getD j default) = false) := HG.out hq
    rw [hq] at hcall
    clear HG HF hq
    go_wp2_with (first | (refine wpList_load_mid rfl 42 _ rfl B (off + k * 2) rfl cs _ HV.out underlying42 rfl hi ?_) | fail)
    refine hcall.mono ?_
    rintro e w' ⟨rfl, hb'⟩
    go_wp2_with fail
    go_roundw
    case rel => exact ⟨k + 1, by omega, by go_num, on2 hbel hb', HG'⟩
    case measure => simp [intOf]; omega
   ·
    have HF' := HF.out hq
    have HF2 : Hid (∃ i : Nat, i < L.length ∧ p (L.getD i default) = true ∧ (∀ j, j < i → p (L.getD j default) = false) ∧ Ending.returned (.int .i64 k) = .returned (.int .i64 i)) := HF'
    rw [hq] at hcall
    clear HG HF hq HF'
    go_wp2_with (first | (refine wpList_load_mid rfl 42 _ rfl B (off + k * 2) rfl cs _ HV.out underlying42 rfl hi ?_) | fail)
    refine hcall.mono ?_
    rintro e w' ⟨rfl, hb'⟩
    go_wp2_with fail
    go_ret
    exact ⟨.inl HF2.out, on2 hbel hb'⟩
  ·
   have HA : Hid (∀ j, j < L.length → p (L.getD j default) = false) := fun j hj => hall.out j (by rw [HN.out] at hj; omega)
   clear hall
   go_wp2
   go_ret
   exact ⟨.inr ⟨HA.out, rfl⟩, hbel⟩
theorem ContainsClass_calls (a : Option Addr) (n cap : Nat) (A : Where) (L : List ClassD) (w : World) (hL : Hid (SlAt RClass 2 24 A w a n cap L)) (p : ClassD → Bool) (g : Nat) (lb : Array Value) (eg : ∀ args w, (callFunc g args).run prog w = .ok (.enter g args) w) (hp : Hid (PredClass g lb p w)) :
  Calls prog 302 #[.slice a n cap, .func (.func g) #[] lb] w fun e w' => e = .returned (.bool (L.any p)) ∧ Below w.heap.size w w' := by
 have hI := IndexClass_calls a n cap A L w hL p g lb eg hp
 go_enter func302, ntmps302
 go_wp2_with fail
 refine hI.mono ?_
 rintro e w1 ⟨⟨i, hi, hy, _, rfl⟩ | ⟨hn, rfl⟩, hb⟩
 ·
  have HA : Hid (L.any p = true) := any_yes hi hy
  clear hy
  go_wp2_with fail
  go_ret
  exact ⟨retb HA.out.symm, hb⟩
 ·
  have HA : Hid (L.any p = false) := any_no hn
  clear hn
  go_wp2_with fail
  go_ret
  exact ⟨retb HA.out.symm, hb⟩
theorem all1Class (s : String) (hm : ∀ w, (method 406 152 (.agg #[]) s).run prog w = .ok (280, .agg #[]) w) (p : ClassD → Bool) (D : Nat) (w : World) (hD : D < w.heap.size) (cD : w.cell? ⟨D, 0, none⟩ = some (.func (.method s) #[.iface 152 (.agg #[])] #[])) (hpr : p = rightClass) : PredClass 303 #[.pointer (some ⟨D, 0, none⟩)] (fun x => !p x) w := fun W cs x hb hr0 => by
 have hr : Hid (RClass (fun _ => True) W cs x) := hr0
 clear hr0
 have HV : Hid ((W.alloc (.cells cs.toArray 42)).rangeAt W.heap.size 0 cs) := range_all rfl
 have hi : (prog.info? 42).map (·.size) = some cs.length := by rw [RClass.firm.len hr.out]; exact itClass
 have HB0 : Hid (Below w.heap.size w (W.alloc (.cells cs.toArray 42))) := on2 hb (by go_grown)
 have HBW : Hid (Below W.heap.size W (W.alloc (.cells cs.toArray 42))) := by unfold Hid; go_grown
 have hDW : D < W.heap.size := by have := hb.size; omega
 have hne : D ≠ W.heap.size := by omega
 have d0 := (hb.cell (p := ⟨D, 0, none⟩) hD).trans cD
 subst hpr
 have hcall := (Class_right cs _ x (W.alloc (.cells cs.toArray 42)) (RClass.firm.kept hr.out (Kept.alloc _ _ _)))
 show Calls prog 303 #[.agg cs.toArray, .pointer (some ⟨D, 0, none⟩)] W fun e w' => e = .returned (.bool (!rightClass x)) ∧ Below W.heap.size W w'
 generalize rightClass x = r at hcall ⊢
 clear cD hb
 go_enter func303, ntmps303
 go_wp2_with (first | (refine wpList_load_mid rfl 42 _ rfl W.heap.size 0 rfl cs _ HV.out underlying42 rfl hi ?_) | fail)
 refine hcall.mono ?_
 rintro e w1 ⟨rfl, hb1⟩
 go_wp2_with fail
 go_ret
 exact ⟨rfl, on2 HBW.out hb1⟩
theorem entsClass : ∀ args w, (callFunc 303 args).run prog w = .ok (.enter 303 args) w := Go.Proofs.enters_of func303 (by kernel_rfl) rfl
theorem not_anyClass (L : List ClassD) (p : ClassD → Bool) : (!L.any (fun x => !p x)) = L.all p := by
 rw [Bool.eq_iff_iff]; simp
theorem allRightClass_calls (s : String) (hm : ∀ w, (method 406 152 (.agg #[]) s).run prog w = .ok (280, .agg #[]) w) (a : Option Addr) (n cap : Nat) (A : Where) (L : List ClassD) (w : World) (hL : Hid (SlAt RClass 2 24 A w a n cap L)) : Calls prog 295 #[.slice a n cap, .func (.method s) #[.iface 152 (.agg #[])] #[]] w fun e w' => e = .returned (.bool (L.all rightClass)) ∧ Below w.heap.size w w' := by
 have hb0 : Below w.heap.size w (w.alloc (.cells #[.func (.method s) #[.iface 152 (.agg #[])] #[]] 276)) := by go_grown
 have hC := ContainsClass_calls a n cap A L (w.alloc (.cells #[.func (.method s) #[.iface 152 (.agg #[])] #[]] 276)) (hL.out.on RClass.firm hb0) (fun x => !rightClass x) 303 #[.pointer (some ⟨w.heap.size, 0, none⟩)] entsClass (all1Class s hm rightClass w.heap.size _ (by simp) (by simp [go_sem]) rfl)
 have HF := not_anyClass L rightClass
 generalize L.any (fun x => !rightClass x) = r at hC HF
 have HF2 : Hid ((!r) = L.all rightClass) := HF
 clear HF hL
 go_enter func295, ntmps295
 go_wp2_with fail
 refine hC.mono ?_
 rintro e w1 ⟨rfl, hb1⟩
 go_wp2_with fail
 go_ret
 exact ⟨retb HF2.out, on2 hb0 hb1⟩
theorem Class_kright (p c q : List Value) (x : ClassD) (A : Where) (w : World) (h : Hid (RClass A w c x)) (hp : p.length = 35) (hall : (p ++ (c ++ q)).length = 40) : Calls prog 289 #[.agg #[.iface 152 (.agg #[])], .agg (p ++ (c ++ q)).toArray] w fun e w' => e = .returned (.bool (rightClass x)) ∧ Below w.heap.size w w' := by
 have hi : (prog.info? 46).map (·.size) = some (p ++ (c ++ q)).length := by rw [hall]; exact infoObj
 have HH : Hid (Held w [(w.heap.size + 1, p ++ (c ++ q)), (w.heap.size, [.iface 152 (.agg #[])])] [] ((w.alloc (.cells #[.iface 152 (.agg #[])] 156)).alloc (.cells (p ++ (c ++ q)).toArray 46))) := ((Held.start w).push rfl [.iface 152 (.agg #[])] 156).push (by simp) (p ++ (c ++ q)) 46
 have hc := RClass.firm.len h.out
 have h1 := RClass.firm.one h.out
 go_enter func289, ntmps289
 go_wp2_with fail
 refine t0 (Held w [(w.heap.size + 1, p ++ (c ++ q)), (w.heap.size, [.iface 152 (.agg #[])])] []) (HH.out.drew) (fun hH => ?_)
 refine tp 0 ?_; try go_frame
 refine' tk 1 ?_ ?_; rotate_left
 ·
  intro u hu; have hc0 := Held.cell hu 1 rfl 0 rfl; clear hu; go_simp; try with_reducible rfl
 try go_frame
 refine tp 2 ?_; try go_frame
 refine' tk 3 ?_ ?_; rotate_left
 ·
  intro u hu; have hc0 := Held.cell hu 1 rfl 0 rfl; clear hu; go_simp; try with_reducible rfl
 try go_frame
 refine tq 4 (.agg (p ++ (c ++ q)).toArray) (yieldsIf_load_mid (by rfl) 46 _ rfl (w.heap.size + 1) 0 rfl (p ++ (c ++ q)) _ (fun u hu => Held.get hu 0 rfl) underlying46 rfl hi) ?_ (hi := rfl)
 try go_frame
 refine tp 6 ?_; try go_frame
 refine tp 7 ?_; try go_frame
 refine tr 5 (fun K hK => ?_)
 refine want_yes (by rfl) (call_enter (f := 277) (args := #[.agg #[], .agg (p ++ (c ++ q)).toArray]) (by kernel_rfl) (Class_member p c q hp hc h1 _) (fun e u1 he => ?_))
 obtain ⟨rfl, hb1⟩ := he
 have HB1 : Hid (Below w.heap.size w u1) := on2 hH.below hb1
 refine ⟨_, rfl, hK.out _ _ (hH.on hb1) (fun hH => ?_)⟩
 clear hK K
 try go_frame
 refine tr 8 (fun K hK => ?_)
 refine want_yes (by rfl) (call_enter (f := 280) (args := #[.agg #[], .agg c.toArray]) (by kernel_rfl) (Class_right c A x _ (RClass.firm.kept h.out (Kept.below HB1.out))) (fun e u1 he => ?_))
 obtain ⟨rfl, hb2⟩ := he
 have HB2 : Hid (Below w.heap.size w u1) := on2 hH.below hb2
 refine ⟨_, rfl, hK.out _ _ (hH.on hb2) (fun hH => ?_)⟩
 clear hK K
 try go_frame
 refine tp 9 ?_; try go_frame
 refine tz ?_
 go_wp2_with fail
 go_ret
 exact ⟨rfl, HB2.out⟩
theorem Class_kblank (p c q : List Value) (x : ClassD) (A : Where) (w : World) (h : Hid (RClass A w c x)) (hp : p.length = 35) (hall : (p ++ (c ++ q)).length = 40) : Calls prog 283 #[.agg #[.iface 152 (.agg #[])], .agg (p ++ (c ++ q)).toArray] w fun e w' => e = .returned (.bool (blankClass x)) ∧ Below w.heap.size w w' := by
 have hi : (prog.info? 46).map (·.size) = some (p ++ (c ++ q)).length := by rw [hall]; exact infoObj
 have HH : Hid (Held w [(w.heap.size + 1, p ++ (c ++ q)), (w.heap.size, [.iface 152 (.agg #[])])] [] ((w.alloc (.cells #[.iface 152 (.agg #[])] 156)).alloc (.cells (p ++ (c ++ q)).toArray 46))) := ((Held.start w).push rfl [.iface 152 (.agg #[])] 156).push (by simp) (p ++ (c ++ q)) 46
 have hc := RClass.firm.len h.out
 have h1 := RClass.firm.one h.out
 go_enter func283, ntmps283
 go_wp2_with fail
 refine t0 (Held w [(w.heap.size + 1, p ++ (c ++ q)), (w.heap.size, [.iface 152 (.agg #[])])] []) (HH.out.drew) (fun hH => ?_)
 refine tp 0 ?_; try go_frame
 refine' tk 1 ?_ ?_; rotate_left
 ·
  intro u hu; have hc0 := Held.cell hu 1 rfl 0 rfl; clear hu; go_simp; try with_reducible rfl
 try go_frame
 refine tp 2 ?_; try go_frame
 refine' tk 3 ?_ ?_; rotate_left
 ·
  intro u hu; have hc0 := Held.cell hu 1 rfl 0 rfl; clear hu; go_simp; try with_reducible rfl
 try go_frame
 refine tq 4 (.agg (p ++ (c ++ q)).toArray) (yieldsIf_load_mid (by rfl) 46 _ rfl (w.heap.size + 1) 0 rfl (p ++ (c ++ q)) _ (fun u hu => Held.get hu 0 rfl) underlying46 rfl hi) ?_ (hi := rfl)
 try go_frame
 refine tp 6 ?_; try go_frame
 refine tp 7 ?_; try go_frame
 refine tr 5 (fun K hK => ?_)
 refine want_yes (by rfl) (call_enter (f := 277) (args := #[.agg #[], .agg (p ++ (c ++ q)).toArray]) (by kernel_rfl) (Class_member p c q hp hc h1 _) (fun e u1 he => ?_))
 obtain ⟨rfl, hb1⟩ := he
 have HB1 : Hid (Below w.heap.size w u1) := on2 hH.below hb1
 refine ⟨_, rfl, hK.out _ _ (hH.on hb1) (fun hH => ?_)⟩
 clear hK K
 try go_frame
 refine tr 8 (fun K hK => ?_)
 refine want_yes (by rfl) (call_enter (f := 275) (args := #[.agg #[], .agg c.toArray]) (by kernel_rfl) (Class_blank c A x _ (RClass.firm.kept h.out (Kept.below HB1.out))) (fun e u1 he => ?_))
 obtain ⟨rfl, hb2⟩ := he
 have HB2 : Hid (Below w.heap.size w u1) := on2 hH.below hb2
 refine ⟨_, rfl, hK.out _ _ (hH.on hb2) (fun hH => ?_)⟩
 clear hK K
 try go_frame
 refine tp 9 ?_; try go_frame
 refine tz ?_
 go_wp2_with fail
 go_ret
 exact ⟨rfl, HB2.out⟩
theorem headClass {A : Where} {w : World} {c : List Value} {x : ClassD} (h : RClass A w c x) : ∃ r, c = .string x.1 :: r := by
 obtain ⟨c1, d, rfl, ⟨rfl, _⟩, _⟩ := h
 exact ⟨d, rfl⟩
theorem Class_named (c : List Value) (A : Where) (x : ClassD) (w : World) (h : RClass A w c x) : Calls prog 278 #[.agg #[], .agg c.toArray] w fun e w' => e = .returned (.string x.1) ∧ Below w.heap.size w w' := by
 obtain ⟨r, rfl⟩ := headClass h
 exact Class_name x.1 r w
theorem Class_kcount (h0 h1 h2 h3 h4 h5 : Hd) (w : World) : Calls prog 284 #[.agg #[.iface 152 (.agg #[])], .agg #[J h0, J h1, J h2, J h3, J h4, J h5]] w fun e w' => e = .returned (.int .i64 (h4.2.1 : Nat)) ∧ Below w.heap.size w w' := by
 have hL := Class_list (J h0) (J h1) (J h2) (J h3) (J h4) (J h5)
 go_enter func284, ntmps284
 go_wp2_with fail
 refine (hL _).mono ?_
 rintro e w1 ⟨rfl, hb1⟩
 go_wp2_with fail
 go_ret
 exact ⟨rfl, on2 (by go_grown) hb1⟩
theorem sizBudget : (prog.info? 44).map (·.size) = some 3 := by kernel_rfl
theorem Budget_member (p c q : List Value) (hp : p.length = 37) (hc : c.length = 3) (h1 : ∀ v ∈ c, v.oneCell' = true) (w : World) : Calls prog 308 #[.agg #[], .agg (p ++ (c ++ q)).toArray] w fun e w' => e = .returned (.agg c.toArray) ∧ Below w.heap.size w w' := by
 have hi : (prog.info? 44).map (·.size) = some c.length := by rw [hc]; exact sizBudget
 have Hr : ∀ T z, Hid ((((w.alloc (.cells #[] T)).alloc (.cells (p ++ (c ++ q)).toArray 46)).alloc (.cells z 44)).rangeAt (w.heap.size + 1) 37 c) := fun T z => World.rangeAt_alloc (range_new (by simp) hp) _
 have Ht : ∀ T z, z.size = 3 → Hid ((((w.alloc (.cells #[] T)).alloc (.cells (p ++ (c ++ q)).toArray 46)).alloc (.cells z 44)).there (w.heap.size + 1 + 1) 0 c.toArray.size) := fun T z hz => there_new (by simp) (by simp [hc, hz])
 have h1' := all_oneCell_toArray h1
 have HE : Hid (c.toArray.size = 3) := by simp [Hid, hc]
 clear hp hc h1
 go_enter func308, ntmps308
 go_wp2_with (first | (refine wpList_load_mid rfl 44 _ rfl (w.heap.size + 1) 37 rfl c _ (Hr _ _).out underlying44 rfl hi ?_) | (refine wpList_store_mid rfl 44 _ _ rfl (w.heap.size + 1 + 1) 0 c.toArray rfl rfl (Ht _ _ rfl).out (by simpa using hi) h1' ?_))
 have HT := (Ht 157 #[.string ⟨#[]⟩, Z, .int .i64 0] rfl).out
 refine bodyPost_ret (v := .agg c.toArray) (res_cell (p := 4) (ty := 44) rfl _ _ (w.heap.size + 1 + 1) c _ rfl (World.rangeAt_setCells_same _ _ _ _ (by simpa using HT)) underlying44 rfl hi) rfl ⟨rfl, below_setCells (by go_grown) (by omega)⟩
end Go.Proofs.YtfbnnfpnjjjfcaaGreat

