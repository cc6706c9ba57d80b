/- slices.IndexFunc and ContainsFunc at Pod, with whatever function is handed in, and its like. No condition beyond what each says. -/
import Derived.Test.YtfbnnfpnjjjfcaaGreatS07
namespace Go.Proofs.YtfbnnfpnjjjfcaaGreat
set_option maxHeartbeats 16000000
set_option maxRecDepth 100000
open Tryz Go.RowKit
set_option linter.unusedSimpArgs false
theorem itPod : (prog.info? 33).map (·.size) = some 16 := by kernel_rfl
def PredPod (g : Nat) (lb : Array Value) (p : PodD → Bool) (w : World) : Prop :=
 ∀ (W : World) (cs : List Value) (x : PodD), Below w.heap.size w W → RPod (fun _ => True) W cs x → Calls prog g (#[.agg cs.toArray] ++ lb) W fun e w' => e = .returned (.bool (p x)) ∧ Below W.heap.size W w'
theorem IndexPod_calls (a : Option Addr) (n cap : Nat) (A : Where) (L : List PodD) (w : World) (hL : Hid (SlAt RPod 16 296 A w a n cap L)) (p : PodD → Bool) (g : Nat) (lb : Array Value) (eg : ∀ args w, (callFunc g args).run prog w = .ok (.enter g args) w) (hp : Hid (PredPod g lb p w)) :
  Calls prog 167 #[.slice a n cap, .func (.func g) #[] lb] w fun e w' => ((∃ i : Nat, i < L.length ∧ p (L.getD i default) = true ∧ (∀ j, j < i → p (L.getD j default) = false) ∧ e = .returned (.int .i64 i)) ∨ ((∀ j, j < L.length → p (L.getD j default) = false) ∧ e = .returned (.int .i64 (-1)))) ∧ Below w.heap.size w w' := by
 have hlen := hL.out.len (by decide)
 have HN : Hid (L.length = n) := hL.out.1
 go_enter func167, ntmps167
 go_wp2
 go_loopw [8] (fun i wr => ∃ k : Nat, k ≤ n ∧ i = .int .i64 k ∧ Below w.heap.size w wr ∧ Hid (∀ j, j < k → p (L.getD j default) = false)) (fun i _ => n - (intOf i).toNat)
 case atStart => exact ⟨0, Nat.zero_le _, rfl, Below.refl _ _, fun j hj => absurd hj (Nat.not_lt_zero _)⟩
 case round =>
  obtain ⟨k, hk, rfl, hbel, hall⟩ := hrel
  by_cases hlt : k < n
  ·
   obtain ⟨B, off, rfl, hB, _, cs, hr, hv⟩ := (hL.out.on RPod.firm hbel).get hlt
   have HV : Hid (wr.rangeAt B (off + k * 16) cs) := hv
   have hi : (prog.info? 33).map (·.size) = some cs.length := by rw [RPod.firm.len hr]; exact itPod
   have hcall := hp.out wr cs (L.getD k default) hbel (RPod.firm.weak hr (fun _ _ _ => trivial))
   clear hv hr
   have HG : Hid (p (L.getD k default) = false → ∀ j, j < k + 1 → p (L.getD j default) = false) := fun h j hj => by
    rcases Nat.lt_succ_iff_lt_or_eq.1 hj with h' | rfl
    ·
     exact hall.out j h'
    ·
     exact h
   have HF : Hid (p (L.getD k default) = true → ∃ i : Nat, i < L.length ∧ p (L.getD i default) = true ∧ (∀ j, j < i → p (L.getD j default) = false) ∧ Ending.returned (.int .i64 k) = .returned (.int .i64 i)) := fun h => ⟨k, by rw [HN.out]; exact hlt, h, hall.out, rfl⟩
   clear hall
   generalize L.getD k default = x at hcall HG HF
   cases hq : p x
   ·
    have HG' : Hid (∀ j, j < k + 1 → p (L.getD j default) = false) := HG.out hq
    rw [hq] at hcall
    clear HG HF hq
    go_wp2_with (first | (refine wpList_load_mid rfl 33 _ rfl B (off + k * 16) rfl cs _ HV.out underlying33 rfl hi ?_) | fail)
    refine hcall.mono ?_
    rintro e w' ⟨rfl, hb'⟩
    go_wp2_with fail
    go_roundw
    case rel => exact ⟨k + 1, by omega, by go_num, on2 hbel hb', HG'⟩
    case measure => simp [intOf]; omega
   ·
    have HF' := HF.out hq
    have HF2 : Hid (∃ i : Nat, i < L.length ∧ p (L.getD i default) = true ∧ (∀ j, j < i → p (L.getD j default) = false) ∧ Ending.returned (.int .i64 k) = .returned (.int .i64 i)) := HF'
    rw [hq] at hcall
    clear HG HF hq HF'
    go_wp2_with (first | (refine wpList_load_mid rfl 33 _ rfl B (off + k * 16) rfl cs _ HV.out underlying33 rfl hi ?_) | fail)
    refine hcall.mono ?_
    rintro e w' ⟨rfl, hb'⟩
    go_wp2_with fail
    go_ret
    exact ⟨.inl HF2.out, on2 hbel hb'⟩
  ·
   have HA : Hid (∀ j, j < L.length → p (L.getD j default) = false) := fun j hj => hall.out j (by rw [HN.out] at hj; omega)
   clear hall
   go_wp2
   go_ret
   exact ⟨.inr ⟨HA.out, rfl⟩, hbel⟩
theorem ContainsPod_calls (a : Option Addr) (n cap : Nat) (A : Where) (L : List PodD) (w : World) (hL : Hid (SlAt RPod 16 296 A w a n cap L)) (p : PodD → Bool) (g : Nat) (lb : Array Value) (eg : ∀ args w, (callFunc g args).run prog w = .ok (.enter g args) w) (hp : Hid (PredPod g lb p w)) :
  Calls prog 172 #[.slice a n cap, .func (.func g) #[] lb] w fun e w' => e = .returned (.bool (L.any p)) ∧ Below w.heap.size w w' := by
 have hI := IndexPod_calls a n cap A L w hL p g lb eg hp
 go_enter func172, ntmps172
 go_wp2_with fail
 refine hI.mono ?_
 rintro e w1 ⟨⟨i, hi, hy, _, rfl⟩ | ⟨hn, rfl⟩, hb⟩
 ·
  have HA : Hid (L.any p = true) := any_yes hi hy
  clear hy
  go_wp2_with fail
  go_ret
  exact ⟨retb HA.out.symm, hb⟩
 ·
  have HA : Hid (L.any p = false) := any_no hn
  clear hn
  go_wp2_with fail
  go_ret
  exact ⟨retb HA.out.symm, hb⟩
theorem areAmounts_calls (r : ResD) (w : World) : Calls prog 102 #[.agg #[.int .i64 r.1, .int .i64 r.2.1, .int .i64 r.2.2]] w fun e w' => e = .returned (.bool (resB r)) ∧ Below w.heap.size w w' := by
 have HH0 : Hid (Held w [(w.heap.size, [.int .i64 r.1, .int .i64 r.2.1, .int .i64 r.2.2])] [] (w.alloc (.cells #[.int .i64 r.1, .int .i64 r.2.1, .int .i64 r.2.2] 24))) := ((Held.start w).push rfl [.int .i64 r.1, .int .i64 r.2.1, .int .i64 r.2.2] 24)
 obtain ⟨b0, e0⟩ : ∃ b : Bool, amountB r.1 = b := ⟨_, rfl⟩
 obtain ⟨b1, e1⟩ : ∃ b : Bool, amountB r.2.1 = b := ⟨_, rfl⟩
 obtain ⟨b2, e2⟩ : ∃ b : Bool, amountB r.2.2 = b := ⟨_, rfl⟩
 have HF : Hid (resB r = (b0 && b1 && b2)) := by rw [Hid, ← e0, ← e1, ← e2]; rfl
 have HC0 : Hid (∀ u, Below w.heap.size w u → Calls prog 119 #[.int .i64 r.1] u fun e w' => e = .returned (.bool b0) ∧ Below u.heap.size u w') := fun u hu => by rw [← e0]; exact calls_same (isAmount_calls r.1 _)
 clear e0
 have HC1 : Hid (∀ u, Below w.heap.size w u → Calls prog 119 #[.int .i64 r.2.1] u fun e w' => e = .returned (.bool b1) ∧ Below u.heap.size u w') := fun u hu => by rw [← e1]; exact calls_same (isAmount_calls r.2.1 _)
 clear e1
 have HC2 : Hid (∀ u, Below w.heap.size w u → Calls prog 119 #[.int .i64 r.2.2] u fun e w' => e = .returned (.bool b2) ∧ Below u.heap.size u w') := fun u hu => by rw [← e2]; exact calls_same (isAmount_calls r.2.2 _)
 clear e2
 go_enter func102, ntmps102
 go_wp2_with fail
 refine (HC0.out _ HH0.out.below).mono ?_
 rintro e u1 ⟨rfl, hb1⟩
 have HH1 : Hid (Held w [(w.heap.size, [.int .i64 r.1, .int .i64 r.2.1, .int .i64 r.2.2])] [] u1) := HH0.out.on hb1
 clear hb1 HH0 HC0
 cases b0
 ·
  clear HC1 HC2
  go_wp2_with fail
  go_ret
  exact ⟨retb (by rw [HF.out] <;> simp), HH1.out.below⟩
 have k0_1 := HH1.out.cell 0 (b := w.heap.size) rfl 1 rfl
 have kl0 := HH1.out.lt 0 rfl
 go_wp2_with fail
 clear k0_1 kl0
 refine (HC1.out _ HH1.out.below).mono ?_
 rintro e u2 ⟨rfl, hb2⟩
 have HH2 : Hid (Held w [(w.heap.size, [.int .i64 r.1, .int .i64 r.2.1, .int .i64 r.2.2])] [] u2) := HH1.out.on hb2
 clear hb2 HH1 HC1
 cases b1
 ·
  clear HC2
  go_wp2_with fail
  go_ret
  exact ⟨retb (by rw [HF.out] <;> simp), HH2.out.below⟩
 have k1_2 := HH2.out.cell 0 (b := w.heap.size) rfl 2 rfl
 have kl1 := HH2.out.lt 0 rfl
 go_wp2_with fail
 clear k1_2 kl1
 refine (HC2.out _ HH2.out.below).mono ?_
 rintro e u3 ⟨rfl, hb3⟩
 have HH3 : Hid (Held w [(w.heap.size, [.int .i64 r.1, .int .i64 r.2.1, .int .i64 r.2.2])] [] u3) := HH2.out.on hb3
 clear hb3 HH2 HC2
 cases b2
 ·
  skip
  go_wp2_with fail
  go_ret
  exact ⟨retb (by rw [HF.out] <;> simp), HH3.out.below⟩
 go_wp2_with fail
 go_ret
 exact ⟨retb (by rw [HF.out] <;> simp), HH3.out.below⟩
theorem isPrefer_calls (c : List Value) (A : Where) (x : PreferD) (w : World) (h : Hid (RPrefer A w c x)) : Calls prog 104 #[.agg c.toArray] w fun e w' => e = .returned (.bool (preferB x)) ∧ Below w.heap.size w w' := by
 obtain ⟨h0, rfl, hs⟩ := h.out.out
 have HS : Hid (SlAt RReq 3 48 A w h0.1 h0.2.1 h0.2.2 x.1) := hs
 clear h hs
 have HH0 : Hid (Held w [(w.heap.size, [J h0, .int .i64 x.2])] [] (w.alloc (.cells #[J h0, .int .i64 x.2] 108))) := ((Held.start w).push rfl [J h0, .int .i64 x.2] 108)
 obtain ⟨b0, e0⟩ : ∃ b : Bool, reqsB x.1 = b := ⟨_, rfl⟩
 obtain ⟨b1, e1⟩ : ∃ b : Bool, withinB x.2 1 100 = b := ⟨_, rfl⟩
 have HF : Hid (preferB x = (b0 && b1)) := by rw [Hid, ← e0, ← e1]; rfl
 have HC0 : Hid (∀ u, Below w.heap.size w u → Calls prog 100 #[J h0] u fun e w' => e = .returned (.bool b0) ∧ Below u.heap.size u w') := fun u hu => by rw [← e0]; exact areReqs_calls _ _ _ A x.1 _ (HS.out.kept RReq.firm (Kept.below hu))
 clear e0
 have HC1 : Hid (∀ u, Below w.heap.size w u → Calls prog 98 #[.int .i64 x.2, .int .i64 1, .int .i64 100] u fun e w' => e = .returned (.bool b1) ∧ Below u.heap.size u w') := fun u hu => by rw [← e1]; exact calls_same (within_calls x.2 1 100 _)
 clear e1
 go_enter func104, ntmps104
 go_wp2_with fail
 refine (HC0.out _ HH0.out.below).mono ?_
 rintro e u1 ⟨rfl, hb1⟩
 have HH1 : Hid (Held w [(w.heap.size, [J h0, .int .i64 x.2])] [] u1) := HH0.out.on hb1
 clear hb1 HH0 HC0
 cases b0
 ·
  clear HC1
  go_wp2_with fail
  go_ret
  exact ⟨retb (by rw [HF.out] <;> simp), HH1.out.below⟩
 have k0_1 := HH1.out.cell 0 (b := w.heap.size) rfl 1 rfl
 have kl0 := HH1.out.lt 0 rfl
 go_wp2_with fail
 clear k0_1 kl0
 refine (HC1.out _ HH1.out.below).mono ?_
 rintro e u2 ⟨rfl, hb2⟩
 have HH2 : Hid (Held w [(w.heap.size, [J h0, .int .i64 x.2])] [] u2) := HH1.out.on hb2
 clear hb2 HH1 HC1
 cases b1
 ·
  skip
  go_wp2_with fail
  go_ret
  exact ⟨retb (by rw [HF.out] <;> simp), HH2.out.below⟩
 go_wp2_with fail
 go_ret
 exact ⟨retb (by rw [HF.out] <;> simp), HH2.out.below⟩
theorem isTerm_calls (c : List Value) (A : Where) (x : TermD) (w : World) (h : Hid (RTerm A w c x)) : Calls prog 109 #[.agg c.toArray] w fun e w' => e = .returned (.bool (termB x)) ∧ Below w.heap.size w w' := by
 obtain ⟨h0, rfl, hs, _⟩ := h.out.out
 have HS : Hid (SlAt RReq 3 48 A w h0.1 h0.2.1 h0.2.2 x.1) := hs
 clear h hs
 have HH0 : Hid (Held w [(w.heap.size, [J h0, .string x.2])] [] (w.alloc (.cells #[J h0, .string x.2] 171))) := ((Held.start w).push rfl [J h0, .string x.2] 171)
 obtain ⟨b0, e0⟩ : ∃ b : Bool, reqsB x.1 = b := ⟨_, rfl⟩
 obtain ⟨b1, e1⟩ : ∃ b : Bool, wordB x.2 = b := ⟨_, rfl⟩
 have HF : Hid (termB x = (b0 && b1)) := by rw [Hid, ← e0, ← e1]; rfl
 have HC0 : Hid (∀ u, Below w.heap.size w u → Calls prog 100 #[J h0] u fun e w' => e = .returned (.bool b0) ∧ Below u.heap.size u w') := fun u hu => by rw [← e0]; exact areReqs_calls _ _ _ A x.1 _ (HS.out.kept RReq.firm (Kept.below hu))
 clear e0
 have HC1 : Hid (∀ u, Below w.heap.size w u → Calls prog 97 #[.string x.2] u fun e w' => e = .returned (.bool b1) ∧ Below u.heap.size u w') := fun u hu => by rw [← e1]; exact calls_same (Word_calls x.2 _)
 clear e1
 go_enter func109, ntmps109
 go_wp2_with fail
 refine (HC0.out _ HH0.out.below).mono ?_
 rintro e u1 ⟨rfl, hb1⟩
 have HH1 : Hid (Held w [(w.heap.size, [J h0, .string x.2])] [] u1) := HH0.out.on hb1
 clear hb1 HH0 HC0
 cases b0
 ·
  clear HC1
  go_wp2_with fail
  go_ret
  exact ⟨retb (by rw [HF.out] <;> simp), HH1.out.below⟩
 have k0_1 := HH1.out.cell 0 (b := w.heap.size) rfl 1 rfl
 have kl0 := HH1.out.lt 0 rfl
 go_wp2_with fail
 clear k0_1 kl0
 refine (HC1.out _ HH1.out.below).mono ?_
 rintro e u2 ⟨rfl, hb2⟩
 have HH2 : Hid (Held w [(w.heap.size, [J h0, .string x.2])] [] u2) := HH1.out.on hb2
 clear hb2 HH1 HC1
 cases b1
 ·
  skip
  go_wp2_with fail
  go_ret
  exact ⟨retb (by rw [HF.out] <;> simp), HH2.out.below⟩
 go_wp2_with fail
 go_ret
 exact ⟨retb (by rw [HF.out] <;> simp), HH2.out.below⟩
theorem isSpread_calls (c : List Value) (A : Where) (x : SpreadD) (w : World) (h : Hid (RSpread A w c x)) : Calls prog 111 #[.agg c.toArray] w fun e w' => e = .returned (.bool (spreadB x)) ∧ Below w.heap.size w w' := by
 obtain ⟨h3, rfl, _, hs⟩ := h.out.out
 have HS : Hid (SlAt RReq 3 48 A w h3.1 h3.2.1 h3.2.2 x.2.2.2) := hs
 clear h hs
 have HH0 : Hid (Held w [(w.heap.size, [.string x.1, .int .i64 x.2.1, .int .i64 x.2.2.1, J h3])] [] (w.alloc (.cells #[.string x.1, .int .i64 x.2.1, .int .i64 x.2.2.1, J h3] 112))) := ((Held.start w).push rfl [.string x.1, .int .i64 x.2.1, .int .i64 x.2.2.1, J h3] 112)
 obtain ⟨b0, e0⟩ : ∃ b : Bool, wordB x.1 = b := ⟨_, rfl⟩
 obtain ⟨b1, e1⟩ : ∃ b : Bool, withinB x.2.1 1 1000 = b := ⟨_, rfl⟩
 obtain ⟨b2, e2⟩ : ∃ b : Bool, withinB x.2.2.1 0 1000 = b := ⟨_, rfl⟩
 obtain ⟨b3, e3⟩ : ∃ b : Bool, reqsB x.2.2.2 = b := ⟨_, rfl⟩
 have HF : Hid (spreadB x = (b0 && b1 && b2 && b3)) := by rw [Hid, ← e0, ← e1, ← e2, ← e3]; rfl
 have HC0 : Hid (∀ u, Below w.heap.size w u → Calls prog 97 #[.string x.1] u fun e w' => e = .returned (.bool b0) ∧ Below u.heap.size u w') := fun u hu => by rw [← e0]; exact calls_same (Word_calls x.1 _)
 clear e0
 have HC1 : Hid (∀ u, Below w.heap.size w u → Calls prog 98 #[.int .i64 x.2.1, .int .i64 1, .int .i64 1000] u fun e w' => e = .returned (.bool b1) ∧ Below u.heap.size u w') := fun u hu => by rw [← e1]; exact calls_same (within_calls x.2.1 1 1000 _)
 clear e1
 have HC2 : Hid (∀ u, Below w.heap.size w u → Calls prog 98 #[.int .i64 x.2.2.1, .int .i64 0, .int .i64 1000] u fun e w' => e = .returned (.bool b2) ∧ Below u.heap.size u w') := fun u hu => by rw [← e2]; exact calls_same (within_calls x.2.2.1 0 1000 _)
 clear e2
 have HC3 : Hid (∀ u, Below w.heap.size w u → Calls prog 100 #[J h3] u fun e w' => e = .returned (.bool b3) ∧ Below u.heap.size u w') := fun u hu => by rw [← e3]; exact areReqs_calls _ _ _ A x.2.2.2 _ (HS.out.kept RReq.firm (Kept.below hu))
 clear e3
 go_enter func111, ntmps111
 go_wp2_with fail
 refine (HC0.out _ HH0.out.below).mono ?_
 rintro e u1 ⟨rfl, hb1⟩
 have HH1 : Hid (Held w [(w.heap.size, [.string x.1, .int .i64 x.2.1, .int .i64 x.2.2.1, J h3])] [] u1) := HH0.out.on hb1
 clear hb1 HH0 HC0
 cases b0
 ·
  clear HC1 HC2 HC3
  go_wp2_with fail
  go_ret
  exact ⟨retb (by rw [HF.out] <;> simp), HH1.out.below⟩
 have k0_1 := HH1.out.cell 0 (b := w.heap.size) rfl 1 rfl
 have kl0 := HH1.out.lt 0 rfl
 go_wp2_with fail
 clear k0_1 kl0
 refine (HC1.out _ HH1.out.below).mono ?_
 rintro e u2 ⟨rfl, hb2⟩
 have HH2 : Hid (Held w [(w.heap.size, [.string x.1, .int .i64 x.2.1, .int .i64 x.2.2.1, J h3])] [] u2) := HH1.out.on hb2
 clear hb2 HH1 HC1
 cases b1
 ·
  clear HC2 HC3
  go_wp2_with fail
  go_ret
  exact ⟨retb (by rw [HF.out] <;> simp), HH2.out.below⟩
 have k1_2 := HH2.out.cell 0 (b := w.heap.size) rfl 2 rfl
 have kl1 := HH2.out.lt 0 rfl
 go_wp2_with fail
 clear k1_2 kl1
 refine (HC2.out _ HH2.out.below).mono ?_
 rintro e u3 ⟨rfl, hb3⟩
 have HH3 : Hid (Held w [(w.heap.size, [.string x.1, .int .i64 x.2.1, .int .i64 x.2.2.1, J h3])] [] u3) := HH2.out.on hb3
 clear hb3 HH2 HC2
 cases b2
 ·
  clear HC3
  go_wp2_with fail
  go_ret
  exact ⟨retb (by rw [HF.out] <;> simp), HH3.out.below⟩
 have k2_3 := HH3.out.cell 0 (b := w.heap.size) rfl 3 rfl
 have kl2 := HH3.out.lt 0 rfl
 go_wp2_with fail
 clear k2_3 kl2
 refine (HC3.out _ HH3.out.below).mono ?_
 rintro e u4 ⟨rfl, hb4⟩
 have HH4 : Hid (Held w [(w.heap.size, [.string x.1, .int .i64 x.2.1, .int .i64 x.2.2.1, J h3])] [] u4) := HH3.out.on hb4
 clear hb4 HH3 HC3
 cases b3
 ·
  skip
  go_wp2_with fail
  go_ret
  exact ⟨retb (by rw [HF.out] <;> simp), HH4.out.below⟩
 go_wp2_with fail
 go_ret
 exact ⟨retb (by rw [HF.out] <;> simp), HH4.out.below⟩
theorem Class_right (c : List Value) (A : Where) (x : ClassD) (w : World) (h : Hid (RClass A w c x)) : Calls prog 280 #[.agg #[], .agg c.toArray] w fun e w' => e = .returned (.bool (rightClass x)) ∧ Below w.heap.size w w' := by
 obtain ⟨rfl, _⟩ := h.out.out
 clear h
 have HH0 : Hid (Held w [(w.heap.size + 1, [.string x.1, .bool x.2]), (w.heap.size, [])] [] ((w.alloc (.cells #[] 152)).alloc (.cells #[.string x.1, .bool x.2] 42))) := (((Held.start w).push rfl [] 152).push (by simp) [.string x.1, .bool x.2] 42)
 obtain ⟨b0, e0⟩ : ∃ b : Bool, wordB x.1 = b := ⟨_, rfl⟩
 have HF : Hid (rightClass x = (b0)) := by rw [Hid, ← e0]; rfl
 have HC0 : Hid (∀ u, Below w.heap.size w u → Calls prog 97 #[.string x.1] u fun e w' => e = .returned (.bool b0) ∧ Below u.heap.size u w') := fun u hu => by rw [← e0]; exact calls_same (Word_calls x.1 _)
 clear e0
 go_enter func280, ntmps280
 go_wp2_with fail
 refine (HC0.out _ HH0.out.below).mono ?_
 rintro e u1 ⟨rfl, hb1⟩
 have HH1 : Hid (Held w [(w.heap.size + 1, [.string x.1, .bool x.2]), (w.heap.size, [])] [] u1) := HH0.out.on hb1
 clear hb1 HH0 HC0
 cases b0
 ·
  skip
  go_wp2_with fail
  go_ret
  exact ⟨retb (by rw [HF.out] <;> simp), HH1.out.below⟩
 go_wp2_with fail
 go_ret
 exact ⟨retb (by rw [HF.out] <;> simp), HH1.out.below⟩
theorem Claim_right (c : List Value) (A : Where) (x : ClaimD) (w : World) (h : Hid (RClaim A w c x)) : Calls prog 249 #[.agg #[], .agg c.toArray] w fun e w' => e = .returned (.bool (rightClaim x)) ∧ Below w.heap.size w w' := by
 obtain ⟨rfl, _⟩ := h.out.out
 clear h
 have HH0 : Hid (Held w [(w.heap.size + 1, [.string x.1, .int .i64 x.2.1, .string x.2.2.1, .string x.2.2.2]), (w.heap.size, [])] [] ((w.alloc (.cells #[] 147)).alloc (.cells #[.string x.1, .int .i64 x.2.1, .string x.2.2.1, .string x.2.2.2] 40))) := (((Held.start w).push rfl [] 147).push (by simp) [.string x.1, .int .i64 x.2.1, .string x.2.2.1, .string x.2.2.2] 40)
 obtain ⟨b0, e0⟩ : ∃ b : Bool, wordB x.1 = b := ⟨_, rfl⟩
 obtain ⟨b1, e1⟩ : ∃ b : Bool, amountB x.2.1 = b := ⟨_, rfl⟩
 obtain ⟨b2, e2⟩ : ∃ b : Bool, wordB x.2.2.1 = b := ⟨_, rfl⟩
 obtain ⟨b3, e3⟩ : ∃ b : Bool, nameNone x.2.2.2 = b := ⟨_, rfl⟩
 have HF : Hid (rightClaim x = (b0 && b1 && b2 && b3)) := by rw [Hid, ← e0, ← e1, ← e2, ← e3]; rfl
 have HC0 : Hid (∀ u, Below w.heap.size w u → Calls prog 97 #[.string x.1] u fun e w' => e = .returned (.bool b0) ∧ Below u.heap.size u w') := fun u hu => by rw [← e0]; exact calls_same (Word_calls x.1 _)
 clear e0
 have HC1 : Hid (∀ u, Below w.heap.size w u → Calls prog 119 #[.int .i64 x.2.1] u fun e w' => e = .returned (.bool b1) ∧ Below u.heap.size u w') := fun u hu => by rw [← e1]; exact calls_same (isAmount_calls x.2.1 _)
 clear e1
 have HC2 : Hid (∀ u, Below w.heap.size w u → Calls prog 97 #[.string x.2.2.1] u fun e w' => e = .returned (.bool b2) ∧ Below u.heap.size u w') := fun u hu => by rw [← e2]; exact calls_same (Word_calls x.2.2.1 _)
 clear e2
 have HC3 : Hid (∀ u, Below w.heap.size w u → Calls prog 114 #[.string x.2.2.2] u fun e w' => e = .returned (.bool b3) ∧ Below u.heap.size u w') := fun u hu => by rw [← e3]; exact calls_same (isNameOrNone_calls x.2.2.2 _)
 clear e3
 go_enter func249, ntmps249
 go_wp2_with fail
 refine (HC0.out _ HH0.out.below).mono ?_
 rintro e u1 ⟨rfl, hb1⟩
 have HH1 : Hid (Held w [(w.heap.size + 1, [.string x.1, .int .i64 x.2.1, .string x.2.2.1, .string x.2.2.2]), (w.heap.size, [])] [] u1) := HH0.out.on hb1
 clear hb1 HH0 HC0
 cases b0
 ·
  clear HC1 HC2 HC3
  go_wp2_with fail
  go_ret
  exact ⟨retb (by rw [HF.out] <;> simp), HH1.out.below⟩
 have k0_1 := HH1.out.cell 0 (b := w.heap.size + 1) rfl 1 rfl
 have kl0 := HH1.out.lt 0 rfl
 go_wp2_with fail
 clear k0_1 kl0
 refine (HC1.out _ HH1.out.below).mono ?_
 rintro e u2 ⟨rfl, hb2⟩
 have HH2 : Hid (Held w [(w.heap.size + 1, [.string x.1, .int .i64 x.2.1, .string x.2.2.1, .string x.2.2.2]), (w.heap.size, [])] [] u2) := HH1.out.on hb2
 clear hb2 HH1 HC1
 cases b1
 ·
  clear HC2 HC3
  go_wp2_with fail
  go_ret
  exact ⟨retb (by rw [HF.out] <;> simp), HH2.out.below⟩
 have k1_2 := HH2.out.cell 0 (b := w.heap.size + 1) rfl 2 rfl
 have kl1 := HH2.out.lt 0 rfl
 go_wp2_with fail
 clear k1_2 kl1
 refine (HC2.out _ HH2.out.below).mono ?_
 rintro e u3 ⟨rfl, hb3⟩
 have HH3 : Hid (Held w [(w.heap.size + 1, [.string x.1, .int .i64 x.2.1, .string x.2.2.1, .string x.2.2.2]), (w.heap.size, [])] [] u3) := HH2.out.on hb3
 clear hb3 HH2 HC2
 cases b2
 ·
  clear HC3
  go_wp2_with fail
  go_ret
  exact ⟨retb (by rw [HF.out] <;> simp), HH3.out.below⟩
 have k2_3 := HH3.out.cell 0 (b := w.heap.size + 1) rfl 3 rfl
 have kl2 := HH3.out.lt 0 rfl
 go_wp2_with fail
 clear k2_3 kl2
 refine (HC3.out _ HH3.out.below).mono ?_
 rintro e u4 ⟨rfl, hb4⟩
 have HH4 : Hid (Held w [(w.heap.size + 1, [.string x.1, .int .i64 x.2.1, .string x.2.2.1, .string x.2.2.2]), (w.heap.size, [])] [] u4) := HH3.out.on hb4
 clear hb4 HH3 HC3
 cases b3
 ·
  skip
  go_wp2_with fail
  go_ret
  exact ⟨retb (by rw [HF.out] <;> simp), HH4.out.below⟩
 go_wp2_with fail
 go_ret
 exact ⟨retb (by rw [HF.out] <;> simp), HH4.out.below⟩
theorem Volume_right (c : List Value) (A : Where) (x : VolumeD) (w : World) (h : Hid (RVolume A w c x)) : Calls prog 218 #[.agg #[], .agg c.toArray] w fun e w' => e = .returned (.bool (rightVolume x)) ∧ Below w.heap.size w w' := by
 obtain ⟨h3, rfl, _, _, hs, _⟩ := h.out.out
 have HS : Hid (SlAt RReq 3 48 A w h3.1 h3.2.1 h3.2.2 x.2.2.2.1) := hs
 clear h hs
 have HH0 : Hid (Held w [(w.heap.size + 1, [.string x.1, .int .i64 x.2.1, .string x.2.2.1, J h3, .string x.2.2.2.2]), (w.heap.size, [])] [] ((w.alloc (.cells #[] 142)).alloc (.cells #[.string x.1, .int .i64 x.2.1, .string x.2.2.1, J h3, .string x.2.2.2.2] 38))) := (((Held.start w).push rfl [] 142).push (by simp) [.string x.1, .int .i64 x.2.1, .string x.2.2.1, J h3, .string x.2.2.2.2] 38)
 obtain ⟨b0, e0⟩ : ∃ b : Bool, wordB x.1 = b := ⟨_, rfl⟩
 obtain ⟨b1, e1⟩ : ∃ b : Bool, amountB x.2.1 = b := ⟨_, rfl⟩
 obtain ⟨b2, e2⟩ : ∃ b : Bool, wordB x.2.2.1 = b := ⟨_, rfl⟩
 obtain ⟨b3, e3⟩ : ∃ b : Bool, reqsB x.2.2.2.1 = b := ⟨_, rfl⟩
 obtain ⟨b4, e4⟩ : ∃ b : Bool, nameNone x.2.2.2.2 = b := ⟨_, rfl⟩
 have HF : Hid (rightVolume x = (b0 && b1 && b2 && b3 && b4)) := by rw [Hid, ← e0, ← e1, ← e2, ← e3, ← e4]; rfl
 have HC0 : Hid (∀ u, Below w.heap.size w u → Calls prog 97 #[.string x.1] u fun e w' => e = .returned (.bool b0) ∧ Below u.heap.size u w') := fun u hu => by rw [← e0]; exact calls_same (Word_calls x.1 _)
 clear e0
 have HC1 : Hid (∀ u, Below w.heap.size w u → Calls prog 119 #[.int .i64 x.2.1] u fun e w' => e = .returned (.bool b1) ∧ Below u.heap.size u w') := fun u hu => by rw [← e1]; exact calls_same (isAmount_calls x.2.1 _)
 clear e1
 have HC2 : Hid (∀ u, Below w.heap.size w u → Calls prog 97 #[.string x.2.2.1] u fun e w' => e = .returned (.bool b2) ∧ Below u.heap.size u w') := fun u hu => by rw [← e2]; exact calls_same (Word_calls x.2.2.1 _)
 clear e2
 have HC3 : Hid (∀ u, Below w.heap.size w u → Calls prog 100 #[J h3] u fun e w' => e = .returned (.bool b3) ∧ Below u.heap.size u w') := fun u hu => by rw [← e3]; exact areReqs_calls _ _ _ A x.2.2.2.1 _ (HS.out.kept RReq.firm (Kept.below hu))
 clear e3
 have HC4 : Hid (∀ u, Below w.heap.size w u → Calls prog 114 #[.string x.2.2.2.2] u fun e w' => e = .returned (.bool b4) ∧ Below u.heap.size u w') := fun u hu => by rw [← e4]; exact calls_same (isNameOrNone_calls x.2.2.2.2 _)
 clear e4
 go_enter func218, ntmps218
 go_wp2_with fail
 refine (HC0.out _ HH0.out.below).mono ?_
 rintro e u1 ⟨rfl, hb1⟩
 have HH1 : Hid (Held w [(w.heap.size + 1, [.string x.1, .int .i64 x.2.1, .string x.2.2.1, J h3, .string x.2.2.2.2]), (w.heap.size, [])] [] u1) := HH0.out.on hb1
 clear hb1 HH0 HC0
 cases b0
 ·
  clear HC1 HC2 HC3 HC4
  go_wp2_with fail
  go_ret
  exact ⟨retb (by rw [HF.out] <;> simp), HH1.out.below⟩
 have k0_1 := HH1.out.cell 0 (b := w.heap.size + 1) rfl 1 rfl
 have kl0 := HH1.out.lt 0 rfl
 go_wp2_with fail
 clear k0_1 kl0
 refine (HC1.out _ HH1.out.below).mono ?_
 rintro e u2 ⟨rfl, hb2⟩
 have HH2 : Hid (Held w [(w.heap.size + 1, [.string x.1, .int .i64 x.2.1, .string x.2.2.1, J h3, .string x.2.2.2.2]), (w.heap.size, [])] [] u2) := HH1.out.on hb2
 clear hb2 HH1 HC1
 cases b1
 ·
  clear HC2 HC3 HC4
  go_wp2_with fail
  go_ret
  exact ⟨retb (by rw [HF.out] <;> simp), HH2.out.below⟩
 have k1_2 := HH2.out.cell 0 (b := w.heap.size + 1) rfl 2 rfl
 have kl1 := HH2.out.lt 0 rfl
 go_wp2_with fail
 clear k1_2 kl1
 refine (HC2.out _ HH2.out.below).mono ?_
 rintro e u3 ⟨rfl, hb3⟩
 have HH3 : Hid (Held w [(w.heap.size + 1, [.string x.1, .int .i64 x.2.1, .string x.2.2.1, J h3, .string x.2.2.2.2]), (w.heap.size, [])] [] u3) := HH2.out.on hb3
 clear hb3 HH2 HC2
 cases b2
 ·
  clear HC3 HC4
  go_wp2_with fail
  go_ret
  exact ⟨retb (by rw [HF.out] <;> simp), HH3.out.below⟩
 have k2_3 := HH3.out.cell 0 (b := w.heap.size + 1) rfl 3 rfl
 have kl2 := HH3.out.lt 0 rfl
 go_wp2_with fail
 clear k2_3 kl2
 refine (HC3.out _ HH3.out.below).mono ?_
 rintro e u4 ⟨rfl, hb4⟩
 have HH4 : Hid (Held w [(w.heap.size + 1, [.string x.1, .int .i64 x.2.1, .string x.2.2.1, J h3, .string x.2.2.2.2]), (w.heap.size, [])] [] u4) := HH3.out.on hb4
 clear hb4 HH3 HC3
 cases b3
 ·
  clear HC4
  go_wp2_with fail
  go_ret
  exact ⟨retb (by rw [HF.out] <;> simp), HH4.out.below⟩
 have k3_4 := HH4.out.cell 0 (b := w.heap.size + 1) rfl 4 rfl
 have kl3 := HH4.out.lt 0 rfl
 go_wp2_with fail
 clear k3_4 kl3
 refine (HC4.out _ HH4.out.below).mono ?_
 rintro e u5 ⟨rfl, hb5⟩
 have HH5 : Hid (Held w [(w.heap.size + 1, [.string x.1, .int .i64 x.2.1, .string x.2.2.1, J h3, .string x.2.2.2.2]), (w.heap.size, [])] [] u5) := HH4.out.on hb5
 clear hb5 HH4 HC4
 cases b4
 ·
  skip
  go_wp2_with fail
  go_ret
  exact ⟨retb (by rw [HF.out] <;> simp), HH5.out.below⟩
 go_wp2_with fail
 go_ret
 exact ⟨retb (by rw [HF.out] <;> simp), HH5.out.below⟩
theorem Budget_right (c : List Value) (A : Where) (x : BudgetD) (w : World) (h : Hid (RBudget A w c x)) : Calls prog 311 #[.agg #[], .agg c.toArray] w fun e w' => e = .returned (.bool (rightBudget x)) ∧ Below w.heap.size w w' := by
 obtain ⟨h1, rfl, _, hs⟩ := h.out.out
 have HS : Hid (SlAt RReq 3 48 A w h1.1 h1.2.1 h1.2.2 x.2.1) := hs
 clear h hs
 have HH0 : Hid (Held w [(w.heap.size + 1, [.string x.1, J h1, .int .i64 x.2.2]), (w.heap.size, [])] [] ((w.alloc (.cells #[] 157)).alloc (.cells #[.string x.1, J h1, .int .i64 x.2.2] 44))) := (((Held.start w).push rfl [] 157).push (by simp) [.string x.1, J h1, .int .i64 x.2.2] 44)
 obtain ⟨b0, e0⟩ : ∃ b : Bool, wordB x.1 = b := ⟨_, rfl⟩
 obtain ⟨b1, e1⟩ : ∃ b : Bool, reqsB x.2.1 = b := ⟨_, rfl⟩
 obtain ⟨b2, e2⟩ : ∃ b : Bool, withinB x.2.2 0 1000 = b := ⟨_, rfl⟩
 have HF : Hid (rightBudget x = (b0 && b1 && b2)) := by rw [Hid, ← e0, ← e1, ← e2]; rfl
 have HC0 : Hid (∀ u, Below w.heap.size w u → Calls prog 97 #[.string x.1] u fun e w' => e = .returned (.bool b0) ∧ Below u.heap.size u w') := fun u hu => by rw [← e0]; exact calls_same (Word_calls x.1 _)
 clear e0
 have HC1 : Hid (∀ u, Below w.heap.size w u → Calls prog 100 #[J h1] u fun e w' => e = .returned (.bool b1) ∧ Below u.heap.size u w') := fun u hu => by rw [← e1]; exact areReqs_calls _ _ _ A x.2.1 _ (HS.out.kept RReq.firm (Kept.below hu))
 clear e1
 have HC2 : Hid (∀ u, Below w.heap.size w u → Calls prog 98 #[.int .i64 x.2.2, .int .i64 0, .int .i64 1000] u fun e w' => e = .returned (.bool b2) ∧ Below u.heap.size u w') := fun u hu => by rw [← e2]; exact calls_same (within_calls x.2.2 0 1000 _)
 clear e2
 go_enter func311, ntmps311
 go_wp2_with fail
 refine (HC0.out _ HH0.out.below).mono ?_
 rintro e u1 ⟨rfl, hb1⟩
 have HH1 : Hid (Held w [(w.heap.size + 1, [.string x.1, J h1, .int .i64 x.2.2]), (w.heap.size, [])] [] u1) := HH0.out.on hb1
 clear hb1 HH0 HC0
 cases b0
 ·
  clear HC1 HC2
  go_wp2_with fail
  go_ret
  exact ⟨retb (by rw [HF.out] <;> simp), HH1.out.below⟩
 have k0_1 := HH1.out.cell 0 (b := w.heap.size + 1) rfl 1 rfl
 have kl0 := HH1.out.lt 0 rfl
 go_wp2_with fail
 clear k0_1 kl0
 refine (HC1.out _ HH1.out.below).mono ?_
 rintro e u2 ⟨rfl, hb2⟩
 have HH2 : Hid (Held w [(w.heap.size + 1, [.string x.1, J h1, .int .i64 x.2.2]), (w.heap.size, [])] [] u2) := HH1.out.on hb2
 clear hb2 HH1 HC1
 cases b1
 ·
  clear HC2
  go_wp2_with fail
  go_ret
  exact ⟨retb (by rw [HF.out] <;> simp), HH2.out.below⟩
 have k1_2 := HH2.out.cell 0 (b := w.heap.size + 1) rfl 2 rfl
 have kl1 := HH2.out.lt 0 rfl
 go_wp2_with fail
 clear k1_2 kl1
 refine (HC2.out _ HH2.out.below).mono ?_
 rintro e u3 ⟨rfl, hb3⟩
 have HH3 : Hid (Held w [(w.heap.size + 1, [.string x.1, J h1, .int .i64 x.2.2]), (w.heap.size, [])] [] u3) := HH2.out.on hb3
 clear hb3 HH2 HC2
 cases b2
 ·
  skip
  go_wp2_with fail
  go_ret
  exact ⟨retb (by rw [HF.out] <;> simp), HH3.out.below⟩
 go_wp2_with fail
 go_ret
 exact ⟨retb (by rw [HF.out] <;> simp), HH3.out.below⟩
end Go.Proofs.YtfbnnfpnjjjfcaaGreat

