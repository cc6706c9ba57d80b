/- kept.right, blank, name, count at Pod, and its like. No condition beyond what each says. -/
import Derived.Shelf.Abstract
import Derived.Test.YtfbnnfpnjjjfcaaGreatS12
import Derived.Test.YtfbnnfpnjjjfcaaGreatS18
namespace Go.Proofs.YtfbnnfpnjjjfcaaGreat
set_option maxHeartbeats 16000000
set_option maxRecDepth 100000
open Tryz Go.RowKit
set_option linter.unusedSimpArgs false
theorem Pod_kright (p c q : List Value) (x : PodD) (A : Where) (w : World) (h : Hid (RPod A w c x)) (hp : p.length = 1) (hall : (p ++ (c ++ q)).length = 40) : Calls prog 159 #[.agg #[.iface 132 (.agg #[])], .agg (p ++ (c ++ q)).toArray] w fun e w' => e = .returned (.bool (rightPod x)) ∧ Below w.heap.size w w' := by
 have hi : (prog.info? 46).map (·.size) = some (p ++ (c ++ q)).length := by rw [hall]; exact infoObj
 have HH : Hid (Held w [(w.heap.size + 1, p ++ (c ++ q)), (w.heap.size, [.iface 132 (.agg #[])])] [] ((w.alloc (.cells #[.iface 132 (.agg #[])] 136)).alloc (.cells (p ++ (c ++ q)).toArray 46))) := ((Held.start w).push rfl [.iface 132 (.agg #[])] 136).push (by simp) (p ++ (c ++ q)) 46
 have hc := RPod.firm.len h.out
 have h1 := RPod.firm.one h.out
 go_enter func159, ntmps159
 go_wp2_with fail
 refine t0 (Held w [(w.heap.size + 1, p ++ (c ++ q)), (w.heap.size, [.iface 132 (.agg #[])])] []) (HH.out.drew) (fun hH => ?_)
 refine tp 0 ?_; try go_frame
 refine' tk 1 ?_ ?_; rotate_left
 ·
  intro u hu; have hc0 := Held.cell hu 1 rfl 0 rfl; clear hu; go_simp; try with_reducible rfl
 try go_frame
 refine tp 2 ?_; try go_frame
 refine' tk 3 ?_ ?_; rotate_left
 ·
  intro u hu; have hc0 := Held.cell hu 1 rfl 0 rfl; clear hu; go_simp; try with_reducible rfl
 try go_frame
 refine tq 4 (.agg (p ++ (c ++ q)).toArray) (yieldsIf_load_mid (by rfl) 46 _ rfl (w.heap.size + 1) 0 rfl (p ++ (c ++ q)) _ (fun u hu => Held.get hu 0 rfl) underlying46 rfl hi) ?_ (hi := rfl)
 try go_frame
 refine tp 6 ?_; try go_frame
 refine tp 7 ?_; try go_frame
 refine tr 5 (fun K hK => ?_)
 refine want_yes (by rfl) (call_enter (f := 339) (args := #[.agg #[], .agg (p ++ (c ++ q)).toArray]) (by kernel_rfl) (Pod_member p c q hp hc h1 _) (fun e u1 he => ?_))
 obtain ⟨rfl, hb1⟩ := he
 have HB1 : Hid (Below w.heap.size w u1) := on2 hH.below hb1
 refine ⟨_, rfl, hK.out _ _ (hH.on hb1) (fun hH => ?_)⟩
 clear hK K
 try go_frame
 refine tr 8 (fun K hK => ?_)
 refine want_yes (by rfl) (call_enter (f := 96) (args := #[.agg #[], .agg c.toArray]) (by kernel_rfl) (Pod_right c A x _ (RPod.firm.kept h.out (Kept.below HB1.out))) (fun e u1 he => ?_))
 obtain ⟨rfl, hb2⟩ := he
 have HB2 : Hid (Below w.heap.size w u1) := on2 hH.below hb2
 refine ⟨_, rfl, hK.out _ _ (hH.on hb2) (fun hH => ?_)⟩
 clear hK K
 try go_frame
 refine tp 9 ?_; try go_frame
 refine tz ?_
 go_wp2_with fail
 go_ret
 exact ⟨rfl, HB2.out⟩
theorem Pod_kblank (p c q : List Value) (x : PodD) (A : Where) (w : World) (h : Hid (RPod A w c x)) (hp : p.length = 1) (hall : (p ++ (c ++ q)).length = 40) : Calls prog 153 #[.agg #[.iface 132 (.agg #[])], .agg (p ++ (c ++ q)).toArray] w fun e w' => e = .returned (.bool (blankPod x)) ∧ Below w.heap.size w w' := by
 have hi : (prog.info? 46).map (·.size) = some (p ++ (c ++ q)).length := by rw [hall]; exact infoObj
 have HH : Hid (Held w [(w.heap.size + 1, p ++ (c ++ q)), (w.heap.size, [.iface 132 (.agg #[])])] [] ((w.alloc (.cells #[.iface 132 (.agg #[])] 136)).alloc (.cells (p ++ (c ++ q)).toArray 46))) := ((Held.start w).push rfl [.iface 132 (.agg #[])] 136).push (by simp) (p ++ (c ++ q)) 46
 have hc := RPod.firm.len h.out
 have h1 := RPod.firm.one h.out
 go_enter func153, ntmps153
 go_wp2_with fail
 refine t0 (Held w [(w.heap.size + 1, p ++ (c ++ q)), (w.heap.size, [.iface 132 (.agg #[])])] []) (HH.out.drew) (fun hH => ?_)
 refine tp 0 ?_; try go_frame
 refine' tk 1 ?_ ?_; rotate_left
 ·
  intro u hu; have hc0 := Held.cell hu 1 rfl 0 rfl; clear hu; go_simp; try with_reducible rfl
 try go_frame
 refine tp 2 ?_; try go_frame
 refine' tk 3 ?_ ?_; rotate_left
 ·
  intro u hu; have hc0 := Held.cell hu 1 rfl 0 rfl; clear hu; go_simp; try with_reducible rfl
 try go_frame
 refine tq 4 (.agg (p ++ (c ++ q)).toArray) (yieldsIf_load_mid (by rfl) 46 _ rfl (w.heap.size + 1) 0 rfl (p ++ (c ++ q)) _ (fun u hu => Held.get hu 0 rfl) underlying46 rfl hi) ?_ (hi := rfl)
 try go_frame
 refine tp 6 ?_; try go_frame
 refine tp 7 ?_; try go_frame
 refine tr 5 (fun K hK => ?_)
 refine want_yes (by rfl) (call_enter (f := 339) (args := #[.agg #[], .agg (p ++ (c ++ q)).toArray]) (by kernel_rfl) (Pod_member p c q hp hc h1 _) (fun e u1 he => ?_))
 obtain ⟨rfl, hb1⟩ := he
 have HB1 : Hid (Below w.heap.size w u1) := on2 hH.below hb1
 refine ⟨_, rfl, hK.out _ _ (hH.on hb1) (fun hH => ?_)⟩
 clear hK K
 try go_frame
 refine tr 8 (fun K hK => ?_)
 refine want_yes (by rfl) (call_enter (f := 94) (args := #[.agg #[], .agg c.toArray]) (by kernel_rfl) (Pod_blank c A x _ (RPod.firm.kept h.out (Kept.below HB1.out))) (fun e u1 he => ?_))
 obtain ⟨rfl, hb2⟩ := he
 have HB2 : Hid (Below w.heap.size w u1) := on2 hH.below hb2
 refine ⟨_, rfl, hK.out _ _ (hH.on hb2) (fun hH => ?_)⟩
 clear hK K
 try go_frame
 refine tp 9 ?_; try go_frame
 refine tz ?_
 go_wp2_with fail
 go_ret
 exact ⟨rfl, HB2.out⟩
theorem headPod {A : Where} {w : World} {c : List Value} {x : PodD} (h : RPod A w c x) : ∃ r, c = .string x.1 :: r := by
 obtain ⟨c1, d, rfl, ⟨rfl, _⟩, _⟩ := h
 exact ⟨d, rfl⟩
theorem Pod_named (c : List Value) (A : Where) (x : PodD) (w : World) (h : RPod A w c x) : Calls prog 95 #[.agg #[], .agg c.toArray] w fun e w' => e = .returned (.string x.1) ∧ Below w.heap.size w w' := by
 obtain ⟨r, rfl⟩ := headPod h
 exact Pod_name x.1 r w
theorem Pod_kcount (h0 h1 h2 h3 h4 h5 : Hd) (w : World) : Calls prog 154 #[.agg #[.iface 132 (.agg #[])], .agg #[J h0, J h1, J h2, J h3, J h4, J h5]] w fun e w' => e = .returned (.int .i64 (h0.2.1 : Nat)) ∧ Below w.heap.size w w' := by
 have hL := Pod_list (J h0) (J h1) (J h2) (J h3) (J h4) (J h5)
 go_enter func154, ntmps154
 go_wp2_with fail
 refine (hL _).mono ?_
 rintro e w1 ⟨rfl, hb1⟩
 go_wp2_with fail
 go_ret
 exact ⟨rfl, on2 (by go_grown) hb1⟩
theorem sizNode : (prog.info? 36).map (·.size) = some 9 := by kernel_rfl
theorem Node_member (p c q : List Value) (hp : p.length = 17) (hc : c.length = 9) (h1 : ∀ v ∈ c, v.oneCell' = true) (w : World) : Calls prog 178 #[.agg #[], .agg (p ++ (c ++ q)).toArray] w fun e w' => e = .returned (.agg c.toArray) ∧ Below w.heap.size w w' := by
 have hi : (prog.info? 36).map (·.size) = some c.length := by rw [hc]; exact sizNode
 have Hr : ∀ T z, Hid ((((w.alloc (.cells #[] T)).alloc (.cells (p ++ (c ++ q)).toArray 46)).alloc (.cells z 36)).rangeAt (w.heap.size + 1) 17 c) := fun T z => World.rangeAt_alloc (range_new (by simp) hp) _
 have Ht : ∀ T z, z.size = 9 → Hid ((((w.alloc (.cells #[] T)).alloc (.cells (p ++ (c ++ q)).toArray 46)).alloc (.cells z 36)).there (w.heap.size + 1 + 1) 0 c.toArray.size) := fun T z hz => there_new (by simp) (by simp [hc, hz])
 have h1' := all_oneCell_toArray h1
 have HE : Hid (c.toArray.size = 9) := by simp [Hid, hc]
 clear hp hc h1
 go_enter func178, ntmps178
 go_wp2_with (first | (refine wpList_load_mid rfl 36 _ rfl (w.heap.size + 1) 17 rfl c _ (Hr _ _).out underlying36 rfl hi ?_) | (refine wpList_store_mid rfl 36 _ _ rfl (w.heap.size + 1 + 1) 0 c.toArray rfl rfl (Ht _ _ rfl).out (by simpa using hi) h1' ?_))
 have HT := (Ht 137 #[.string ⟨#[]⟩, Z, Z, .bool false, .int .i64 0, .int .i64 0, .int .i64 0, .int .i64 0, .int .i64 0] rfl).out
 refine bodyPost_ret (v := .agg c.toArray) (res_cell (p := 4) (ty := 36) rfl _ _ (w.heap.size + 1 + 1) c _ rfl (World.rangeAt_setCells_same _ _ _ _ (by simpa using HT)) underlying36 rfl hi) rfl ⟨rfl, below_setCells (by go_grown) (by omega)⟩
theorem itNode : (prog.info? 36).map (·.size) = some 9 := by kernel_rfl
def PredNode (g : Nat) (lb : Array Value) (p : NodeD → Bool) (w : World) : Prop :=
 ∀ (W : World) (cs : List Value) (x : NodeD), Below w.heap.size w W → RNode (fun _ => True) W cs x → Calls prog g (#[.agg cs.toArray] ++ lb) W fun e w' => e = .returned (.bool (p x)) ∧ Below W.heap.size W w'
theorem IndexNode_calls (a : Option Addr) (n cap : Nat) (A : Where) (L : List NodeD) (w : World) (hL : Hid (SlAt RNode 9 112 A w a n cap L)) (p : NodeD → Bool) (g : Nat) (lb : Array Value) (eg : ∀ args w, (callFunc g args).run prog w = .ok (.enter g args) w) (hp : Hid (PredNode g lb p w)) :
  Calls prog 204 #[.slice a n cap, .func (.func g) #[] lb] w fun e w' => ((∃ i : Nat, i < L.length ∧ p (L.getD i default) = true ∧ (∀ j, j < i → p (L.getD j default) = false) ∧ e = .returned (.int .i64 i)) ∨ ((∀ j, j < L.length → p (L.getD j default) = false) ∧ e = .returned (.int .i64 (-1)))) ∧ Below w.heap.size w w' := by
 have hlen := hL.out.len (by decide)
 have HN : Hid (L.length = n) := hL.out.1
 go_enter func204, ntmps204
 go_wp2
 go_loopw [8] (fun i wr => ∃ k : Nat, k ≤ n ∧ i = .int .i64 k ∧ Below w.heap.size w wr ∧ Hid (∀ j, j < k → p (L.getD j default) = false)) (fun i _ => n - (intOf i).toNat)
 case atStart => exact ⟨0, Nat.zero_le _, rfl, Below.refl _ _, fun j hj => absurd hj (Nat.not_lt_zero _)⟩
 case round =>
  obtain ⟨k, hk, rfl, hbel, hall⟩ := hrel
  by_cases hlt : k < n
  ·
   obtain ⟨B, off, rfl, hB, _, cs, hr, hv⟩ := (hL.out.on RNode.firm hbel).get hlt
   have HV : Hid (wr.rangeAt B (off + k * 9) cs) := hv
   have hi : (prog.info? 36).map (·.size) = some cs.length := by rw [RNode.firm.len hr]; exact itNode
   have hcall := hp.out wr cs (L.getD k default) hbel (RNode.firm.weak hr (fun _ _ _ => trivial))
   clear hv hr
   have HG : Hid (p (L.getD k default) = false → ∀ j, j < k + 1 → p (L.getD j default) = false) := fun h j hj => by
    rcases Nat.lt_succ_iff_lt_or_eq.1 hj with h' | rfl
    ·
     exact hall.out j h'
    ·
     exact h
   have HF : Hid (p (L.getD k default) = true → ∃ i : Nat, i < L.length ∧ p (L.getD i default) = true ∧ (∀ j, j < i → p (L.getD j default) = false) ∧ Ending.returned (.int .i64 k) = .returned (.int .i64 i)) := fun h => ⟨k, by rw [HN.out]; exact hlt, h, hall.out, rfl⟩
   clear hall
   generalize L.getD k default = x at hcall HG HF
   cases hq : p x
   ·
    have HG' : Hid (∀ j, j < k + 1 → p (L.getD j default) = false) := HG.out hq
    rw [hq] at hcall
    clear HG HF hq
    go_wp2_with (first | (refine wpList_load_mid rfl 36 _ rfl B (off + k * 9) rfl cs _ HV.out underlying36 rfl hi ?_) | fail)
    refine hcall.mono ?_
    rintro e w' ⟨rfl, hb'⟩
    go_wp2_with fail
    go_roundw
    case rel => exact ⟨k + 1, by omega, by go_num, on2 hbel hb', HG'⟩
    case measure => simp [intOf]; omega
   ·
    have HF' := HF.out hq
    have HF2 : Hid (∃ i : Nat, i < L.length ∧ p (L.getD i default) = true ∧ (∀ j, j < i → p (L.getD j default) = false) ∧ Ending.returned (.int .i64 k) = .returned (.int .i64 i)) := HF'
    rw [hq] at hcall
    clear HG HF hq HF'
    go_wp2_with (first | (refine wpList_load_mid rfl 36 _ rfl B (off + k * 9) rfl cs _ HV.out underlying36 rfl hi ?_) | fail)
    refine hcall.mono ?_
    rintro e w' ⟨rfl, hb'⟩
    go_wp2_with fail
    go_ret
    exact ⟨.inl HF2.out, on2 hbel hb'⟩
  ·
   have HA : Hid (∀ j, j < L.length → p (L.getD j default) = false) := fun j hj => hall.out j (by rw [HN.out] at hj; omega)
   clear hall
   go_wp2
   go_ret
   exact ⟨.inr ⟨HA.out, rfl⟩, hbel⟩
theorem ContainsNode_calls (a : Option Addr) (n cap : Nat) (A : Where) (L : List NodeD) (w : World) (hL : Hid (SlAt RNode 9 112 A w a n cap L)) (p : NodeD → Bool) (g : Nat) (lb : Array Value) (eg : ∀ args w, (callFunc g args).run prog w = .ok (.enter g args) w) (hp : Hid (PredNode g lb p w)) :
  Calls prog 209 #[.slice a n cap, .func (.func g) #[] lb] w fun e w' => e = .returned (.bool (L.any p)) ∧ Below w.heap.size w w' := by
 have hI := IndexNode_calls a n cap A L w hL p g lb eg hp
 go_enter func209, ntmps209
 go_wp2_with fail
 refine hI.mono ?_
 rintro e w1 ⟨⟨i, hi, hy, _, rfl⟩ | ⟨hn, rfl⟩, hb⟩
 ·
  have HA : Hid (L.any p = true) := any_yes hi hy
  clear hy
  go_wp2_with fail
  go_ret
  exact ⟨retb HA.out.symm, hb⟩
 ·
  have HA : Hid (L.any p = false) := any_no hn
  clear hn
  go_wp2_with fail
  go_ret
  exact ⟨retb HA.out.symm, hb⟩
theorem Node_right (c : List Value) (A : Where) (x : NodeD) (w : World) (h : Hid (RNode A w c x)) : Calls prog 181 #[.agg #[], .agg c.toArray] w fun e w' => e = .returned (.bool (rightNode x)) ∧ Below w.heap.size w w' := by
 obtain ⟨h1, h2, rfl, _, hl, ht⟩ := h.out.out
 have HL : Hid (SlAt RLabel 2 32 A w h1.1 h1.2.1 h1.2.2 x.2.1) := hl
 have HT : Hid (SlAt RTaint 3 40 A w h2.1 h2.2.1 h2.2.2 x.2.2.1) := ht
 clear h hl ht
 have HH0 : Hid (Held w [(w.heap.size + 1, [.string x.1, J h1, J h2, .bool x.2.2.2.1, .int .i64 x.2.2.2.2.1.1, .int .i64 x.2.2.2.2.1.2.1, .int .i64 x.2.2.2.2.1.2.2, .int .i64 x.2.2.2.2.2.1, .int .i64 x.2.2.2.2.2.2]), (w.heap.size, [])] [] ((w.alloc (.cells #[] 137)).alloc (.cells #[.string x.1, J h1, J h2, .bool x.2.2.2.1, .int .i64 x.2.2.2.2.1.1, .int .i64 x.2.2.2.2.1.2.1, .int .i64 x.2.2.2.2.1.2.2, .int .i64 x.2.2.2.2.2.1, .int .i64 x.2.2.2.2.2.2] 36))) := (((Held.start w).push rfl [] 137).push (by simp) [.string x.1, J h1, J h2, .bool x.2.2.2.1, .int .i64 x.2.2.2.2.1.1, .int .i64 x.2.2.2.2.1.2.1, .int .i64 x.2.2.2.2.1.2.2, .int .i64 x.2.2.2.2.2.1, .int .i64 x.2.2.2.2.2.2] 36)
 obtain ⟨b0, e0⟩ : ∃ b : Bool, wordB x.1 = b := ⟨_, rfl⟩
 obtain ⟨n1, g1⟩ : ∃ n : Int, checkI x.2.1 = n := ⟨_, rfl⟩
 obtain ⟨b1, e1⟩ : ∃ b : Bool, (n1 == 0) = b := ⟨_, rfl⟩
 obtain ⟨n2, g2⟩ : ∃ n : Int, Tn.checkT x.2.2.1 = n := ⟨_, rfl⟩
 obtain ⟨b2, e2⟩ : ∃ b : Bool, (n2 == 0) = b := ⟨_, rfl⟩
 obtain ⟨b3, e3⟩ : ∃ b : Bool, resB x.2.2.2.2.1 = b := ⟨_, rfl⟩
 obtain ⟨b4, e4⟩ : ∃ b : Bool, withinB x.2.2.2.2.2.1 0 1000 = b := ⟨_, rfl⟩
 obtain ⟨b5, e5⟩ : ∃ b : Bool, withinB x.2.2.2.2.2.2 0 1000 = b := ⟨_, rfl⟩
 have HF : Hid (rightNode x = (b0 && b1 && b2 && b3 && b4 && b5)) := by rw [Hid, ← e0, ← e1, ← g1, ← e2, ← g2, ← e3, ← e4, ← e5]; rfl
 have HC0 : Hid (∀ u, Below w.heap.size w u → Calls prog 97 #[.string x.1] u fun e w' => e = .returned (.bool b0) ∧ Below u.heap.size u w') := fun u hu => by rw [← e0]; exact calls_same (Word_calls x.1 _)
 clear e0
 have HC1 : Hid (∀ u, Below w.heap.size w u → Calls prog 99 #[J h1] u fun e w' => e = .returned (.int .i64 n1) ∧ Below u.heap.size u w') := fun u hu => by rw [← g1]; exact labCheck _ _ _ A x.2.1 _ (HL.out.kept RLabel.firm (Kept.below hu))
 clear g1
 have HC2 : Hid (∀ u, Below w.heap.size w u → Calls prog 183 #[J h2] u fun e w' => e = .returned (.int .i64 n2) ∧ Below u.heap.size u w') := fun u hu => by rw [← g2]; exact tntCheck _ _ _ A x.2.2.1 _ (HT.out.kept RTaint.firm (Kept.below hu))
 clear g2
 have HC3 : Hid (∀ u, Below w.heap.size w u → Calls prog 102 #[.agg #[.int .i64 x.2.2.2.2.1.1, .int .i64 x.2.2.2.2.1.2.1, .int .i64 x.2.2.2.2.1.2.2]] u fun e w' => e = .returned (.bool b3) ∧ Below u.heap.size u w') := fun u hu => by rw [← e3]; exact areAmounts_calls x.2.2.2.2.1 _
 clear e3
 have HC4 : Hid (∀ u, Below w.heap.size w u → Calls prog 98 #[.int .i64 x.2.2.2.2.2.1, .int .i64 0, .int .i64 1000] u fun e w' => e = .returned (.bool b4) ∧ Below u.heap.size u w') := fun u hu => by rw [← e4]; exact calls_same (within_calls x.2.2.2.2.2.1 0 1000 _)
 clear e4
 have HC5 : Hid (∀ u, Below w.heap.size w u → Calls prog 98 #[.int .i64 x.2.2.2.2.2.2, .int .i64 0, .int .i64 1000] u fun e w' => e = .returned (.bool b5) ∧ Below u.heap.size u w') := fun u hu => by rw [← e5]; exact calls_same (within_calls x.2.2.2.2.2.2 0 1000 _)
 clear e5
 go_enter func181, ntmps181
 go_wp2_with fail
 refine (HC0.out _ HH0.out.below).mono ?_
 rintro e u1 ⟨rfl, hb1⟩
 have HH1 : Hid (Held w [(w.heap.size + 1, [.string x.1, J h1, J h2, .bool x.2.2.2.1, .int .i64 x.2.2.2.2.1.1, .int .i64 x.2.2.2.2.1.2.1, .int .i64 x.2.2.2.2.1.2.2, .int .i64 x.2.2.2.2.2.1, .int .i64 x.2.2.2.2.2.2]), (w.heap.size, [])] [] u1) := HH0.out.on hb1
 clear hb1 HH0 HC0
 cases b0
 ·
  clear HC1 HC2 HC3 HC4 HC5
  go_wp2_with fail
  go_ret
  exact ⟨retb (by rw [HF.out] <;> simp), HH1.out.below⟩
 have k0_1 := HH1.out.cell 0 (b := w.heap.size + 1) rfl 1 rfl
 have kl0 := HH1.out.lt 0 rfl
 go_wp2_with fail
 clear k0_1 kl0
 refine (HC1.out _ HH1.out.below).mono ?_
 rintro e u2 ⟨rfl, hb2⟩
 have HH2 : Hid (Held w [(w.heap.size + 1, [.string x.1, J h1, J h2, .bool x.2.2.2.1, .int .i64 x.2.2.2.2.1.1, .int .i64 x.2.2.2.2.1.2.1, .int .i64 x.2.2.2.2.1.2.2, .int .i64 x.2.2.2.2.2.1, .int .i64 x.2.2.2.2.2.2]), (w.heap.size, [])] [] u2) := HH1.out.on hb2
 clear hb2 HH1 HC1
 cases b1
 ·
  clear HC2 HC3 HC4 HC5
  go_wp2_with fail
  go_ret
  exact ⟨retb (by rw [HF.out] <;> simp), HH2.out.below⟩
 have k1_2 := HH2.out.cell 0 (b := w.heap.size + 1) rfl 2 rfl
 have kl1 := HH2.out.lt 0 rfl
 go_wp2_with fail
 clear k1_2 kl1
 refine (HC2.out _ HH2.out.below).mono ?_
 rintro e u3 ⟨rfl, hb3⟩
 have HH3 : Hid (Held w [(w.heap.size + 1, [.string x.1, J h1, J h2, .bool x.2.2.2.1, .int .i64 x.2.2.2.2.1.1, .int .i64 x.2.2.2.2.1.2.1, .int .i64 x.2.2.2.2.1.2.2, .int .i64 x.2.2.2.2.2.1, .int .i64 x.2.2.2.2.2.2]), (w.heap.size, [])] [] u3) := HH2.out.on hb3
 clear hb3 HH2 HC2
 cases b2
 ·
  clear HC3 HC4 HC5
  go_wp2_with fail
  go_ret
  exact ⟨retb (by rw [HF.out] <;> simp), HH3.out.below⟩
 have k2_4 := HH3.out.cell 0 (b := w.heap.size + 1) rfl 4 rfl
 have k2_5 := HH3.out.cell 0 (b := w.heap.size + 1) rfl 5 rfl
 have k2_6 := HH3.out.cell 0 (b := w.heap.size + 1) rfl 6 rfl
 have kl2 := HH3.out.lt 0 rfl
 go_wp2_with fail
 clear k2_4 k2_5 k2_6 kl2
 refine (HC3.out _ HH3.out.below).mono ?_
 rintro e u4 ⟨rfl, hb4⟩
 have HH4 : Hid (Held w [(w.heap.size + 1, [.string x.1, J h1, J h2, .bool x.2.2.2.1, .int .i64 x.2.2.2.2.1.1, .int .i64 x.2.2.2.2.1.2.1, .int .i64 x.2.2.2.2.1.2.2, .int .i64 x.2.2.2.2.2.1, .int .i64 x.2.2.2.2.2.2]), (w.heap.size, [])] [] u4) := HH3.out.on hb4
 clear hb4 HH3 HC3
 cases b3
 ·
  clear HC4 HC5
  go_wp2_with fail
  go_ret
  exact ⟨retb (by rw [HF.out] <;> simp), HH4.out.below⟩
 have k3_7 := HH4.out.cell 0 (b := w.heap.size + 1) rfl 7 rfl
 have kl3 := HH4.out.lt 0 rfl
 go_wp2_with fail
 clear k3_7 kl3
 refine (HC4.out _ HH4.out.below).mono ?_
 rintro e u5 ⟨rfl, hb5⟩
 have HH5 : Hid (Held w [(w.heap.size + 1, [.string x.1, J h1, J h2, .bool x.2.2.2.1, .int .i64 x.2.2.2.2.1.1, .int .i64 x.2.2.2.2.1.2.1, .int .i64 x.2.2.2.2.1.2.2, .int .i64 x.2.2.2.2.2.1, .int .i64 x.2.2.2.2.2.2]), (w.heap.size, [])] [] u5) := HH4.out.on hb5
 clear hb5 HH4 HC4
 cases b4
 ·
  clear HC5
  go_wp2_with fail
  go_ret
  exact ⟨retb (by rw [HF.out] <;> simp), HH5.out.below⟩
 have k4_8 := HH5.out.cell 0 (b := w.heap.size + 1) rfl 8 rfl
 have kl4 := HH5.out.lt 0 rfl
 go_wp2_with fail
 clear k4_8 kl4
 refine (HC5.out _ HH5.out.below).mono ?_
 rintro e u6 ⟨rfl, hb6⟩
 have HH6 : Hid (Held w [(w.heap.size + 1, [.string x.1, J h1, J h2, .bool x.2.2.2.1, .int .i64 x.2.2.2.2.1.1, .int .i64 x.2.2.2.2.1.2.1, .int .i64 x.2.2.2.2.1.2.2, .int .i64 x.2.2.2.2.2.1, .int .i64 x.2.2.2.2.2.2]), (w.heap.size, [])] [] u6) := HH5.out.on hb6
 clear hb6 HH5 HC5
 cases b5
 ·
  skip
  go_wp2_with fail
  go_ret
  exact ⟨retb (by rw [HF.out] <;> simp), HH6.out.below⟩
 go_wp2_with fail
 go_ret
 exact ⟨retb (by rw [HF.out] <;> simp), HH6.out.below⟩
theorem all1Node (s : String) (hm : ∀ w, (method 406 137 (.agg #[]) s).run prog w = .ok (181, .agg #[]) w) (p : NodeD → Bool) (D : Nat) (w : World) (hD : D < w.heap.size) (cD : w.cell? ⟨D, 0, none⟩ = some (.func (.method s) #[.iface 137 (.agg #[])] #[])) (hpr : p = rightNode) : PredNode 210 #[.pointer (some ⟨D, 0, none⟩)] (fun x => !p x) w := fun W cs x hb hr0 => by
 have hr : Hid (RNode (fun _ => True) W cs x) := hr0
 clear hr0
 have HV : Hid ((W.alloc (.cells cs.toArray 36)).rangeAt W.heap.size 0 cs) := range_all rfl
 have hi : (prog.info? 36).map (·.size) = some cs.length := by rw [RNode.firm.len hr.out]; exact itNode
 have HB0 : Hid (Below w.heap.size w (W.alloc (.cells cs.toArray 36))) := on2 hb (by go_grown)
 have HBW : Hid (Below W.heap.size W (W.alloc (.cells cs.toArray 36))) := by unfold Hid; go_grown
 have hDW : D < W.heap.size := by have := hb.size; omega
 have hne : D ≠ W.heap.size := by omega
 have d0 := (hb.cell (p := ⟨D, 0, none⟩) hD).trans cD
 subst hpr
 have hcall := (Node_right cs _ x (W.alloc (.cells cs.toArray 36)) (RNode.firm.kept hr.out (Kept.alloc _ _ _)))
 show Calls prog 210 #[.agg cs.toArray, .pointer (some ⟨D, 0, none⟩)] W fun e w' => e = .returned (.bool (!rightNode x)) ∧ Below W.heap.size W w'
 generalize rightNode x = r at hcall ⊢
 clear cD hb
 go_enter func210, ntmps210
 go_wp2_with (first | (refine wpList_load_mid rfl 36 _ rfl W.heap.size 0 rfl cs _ HV.out underlying36 rfl hi ?_) | fail)
 refine hcall.mono ?_
 rintro e w1 ⟨rfl, hb1⟩
 go_wp2_with fail
 go_ret
 exact ⟨rfl, on2 HBW.out hb1⟩
theorem entsNode : ∀ args w, (callFunc 210 args).run prog w = .ok (.enter 210 args) w := Go.Proofs.enters_of func210 (by kernel_rfl) rfl
theorem not_anyNode (L : List NodeD) (p : NodeD → Bool) : (!L.any (fun x => !p x)) = L.all p := by
 rw [Bool.eq_iff_iff]; simp
theorem allRightNode_calls (s : String) (hm : ∀ w, (method 406 137 (.agg #[]) s).run prog w = .ok (181, .agg #[]) w) (a : Option Addr) (n cap : Nat) (A : Where) (L : List NodeD) (w : World) (hL : Hid (SlAt RNode 9 112 A w a n cap L)) : Calls prog 202 #[.slice a n cap, .func (.method s) #[.iface 137 (.agg #[])] #[]] w fun e w' => e = .returned (.bool (L.all rightNode)) ∧ Below w.heap.size w w' := by
 have hb0 : Below w.heap.size w (w.alloc (.cells #[.func (.method s) #[.iface 137 (.agg #[])] #[]] 88)) := by go_grown
 have hC := ContainsNode_calls a n cap A L (w.alloc (.cells #[.func (.method s) #[.iface 137 (.agg #[])] #[]] 88)) (hL.out.on RNode.firm hb0) (fun x => !rightNode x) 210 #[.pointer (some ⟨w.heap.size, 0, none⟩)] entsNode (all1Node s hm rightNode w.heap.size _ (by simp) (by simp [go_sem]) rfl)
 have HF := not_anyNode L rightNode
 generalize L.any (fun x => !rightNode x) = r at hC HF
 have HF2 : Hid ((!r) = L.all rightNode) := HF
 clear HF hL
 go_enter func202, ntmps202
 go_wp2_with fail
 refine hC.mono ?_
 rintro e w1 ⟨rfl, hb1⟩
 go_wp2_with fail
 go_ret
 exact ⟨retb HF2.out, on2 hb0 hb1⟩
theorem Node_blank (c : List Value) (A : Where) (x : NodeD) (w : World) (h : Hid (RNode A w c x)) : Calls prog 176 #[.agg #[], .agg c.toArray] w fun e w' => e = .returned (.bool (blankNode x)) ∧ Below w.heap.size w w' := by
 obtain ⟨h1, h2, rfl, _, g1, g2⟩ := h.out.out
 have l1 := g1.len (by decide)
 have l2 := g2.len (by decide)
 have H1 : Hid (SlAt RLabel 2 32 A w h1.1 h1.2.1 h1.2.2 x.2.1) := g1
 have H2 : Hid (SlAt RTaint 3 40 A w h2.1 h2.2.1 h2.2.2 x.2.2.1) := g2
 clear h g1 g2
 have HB : Hid (Below w.heap.size w ((w.alloc (.cells #[] 137)).alloc (.cells #[.string x.1, J h1, J h2, .bool x.2.2.2.1, .int .i64 x.2.2.2.2.1.1, .int .i64 x.2.2.2.2.1.2.1, .int .i64 x.2.2.2.2.1.2.2, .int .i64 x.2.2.2.2.2.1, .int .i64 x.2.2.2.2.2.2] 36))) := by unfold Hid; go_grown
 obtain ⟨b0, e0⟩ : ∃ b : Bool, (emptyL x.2.1 && emptyL x.2.2.1) = b := ⟨_, rfl⟩
 obtain ⟨b1, e1⟩ : ∃ b : Bool, sNil x.1 = b := ⟨_, rfl⟩
 obtain ⟨b2, e2⟩ : ∃ b : Bool, (!x.2.2.2.1) = b := ⟨_, rfl⟩
 obtain ⟨b3, e3⟩ : ∃ b : Bool, resZ x.2.2.2.2.1 = b := ⟨_, rfl⟩
 obtain ⟨b4, e4⟩ : ∃ b : Bool, (x.2.2.2.2.2.1 == 0) = b := ⟨_, rfl⟩
 obtain ⟨b5, e5⟩ : ∃ b : Bool, (x.2.2.2.2.2.2 == 0) = b := ⟨_, rfl⟩
 have HF : Hid (blankNode x = (b0 && b1 && b2 && b3 && b4 && b5)) := by rw [Hid, ← e0, ← e1, ← e2, ← e3, ← e4, ← e5]; rfl
 have t0 : ((h1.2.1 : Int) + (h2.2.1 : Int) == 0) = b0 := by rw [← e0]; simp only [emptyL, H1.out.1, H2.out.1]; rw [Bool.eq_iff_iff]; simp; omega
 clear e0
 have t1 : x.1.toList.isEmpty = b1 := by exact e1
 clear e1
 have t2 : (!x.2.2.2.1) = b2 := by exact e2
 clear e2
 have t3 : resZ x.2.2.2.2.1 = b3 := by exact e3
 clear e3
 have t4 : (x.2.2.2.2.2.1 == 0) = b4 := by exact e4
 clear e4
 have t5 : (x.2.2.2.2.2.2 == 0) = b5 := by exact e5
 clear e5
 have hE := eqR0 x.2.2.2.2.1
 have hG := guardR
 cases b0
 ·
  go_enter func176, ntmps176
  go_wp2_with fail
  go_ret
  exact ⟨retb (by rw [HF.out] <;> simp), HB.out⟩
 cases b1
 ·
  go_enter func176, ntmps176
  go_wp2_with fail
  go_ret
  exact ⟨retb (by rw [HF.out] <;> simp), HB.out⟩
 cases b2
 ·
  go_enter func176, ntmps176
  go_wp2_with fail
  go_ret
  exact ⟨retb (by rw [HF.out] <;> simp), HB.out⟩
 cases b3
 ·
  go_enter func176, ntmps176
  go_wp2_with fail
  go_ret
  exact ⟨retb (by rw [HF.out] <;> simp), HB.out⟩
 cases b4
 ·
  go_enter func176, ntmps176
  go_wp2_with fail
  go_ret
  exact ⟨retb (by rw [HF.out] <;> simp), HB.out⟩
 cases b5
 ·
  go_enter func176, ntmps176
  go_wp2_with fail
  go_ret
  exact ⟨retb (by rw [HF.out] <;> simp), HB.out⟩
 go_enter func176, ntmps176
 go_wp2_with fail
 go_ret
 exact ⟨retb (by rw [HF.out] <;> simp), HB.out⟩
end Go.Proofs.YtfbnnfpnjjjfcaaGreat

