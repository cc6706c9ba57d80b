/- kept.right, blank, name, count at Pod, and its like. No condition beyond what each says. -/
import Derived.Laws.Cover1
import Derived.Test.YtikncmcceeacmaaGreatQ08
namespace Go.Proofs.YtikncmcceeacmaaGreat
set_option maxHeartbeats 16000000
set_option maxRecDepth 100000
open Tryz Go.RowKit
set_option linter.unusedSimpArgs false
theorem Pod_kright (p c q : List Value) (x : PodD) (A : Where) (w : World) (h : Hid (RPod A w c x)) (hp : p.length = 1) (hall : (p ++ (c ++ q)).length = 40) : Calls prog 159 #[.agg #[.iface 132 (.agg #[])], .agg (p ++ (c ++ q)).toArray] w fun e w' => e = .returned (.bool (rightPod x)) ∧ Below w.heap.size w w' := by
 have hi : (prog.info? 46).map (·.size) = some (p ++ (c ++ q)).length := by rw [hall]; exact infoObj
 have HH : Hid (Held w [(w.heap.size + 1, p ++ (c ++ q)), (w.heap.size, [.iface 132 (.agg #[])])] [] ((w.alloc (.cells #[.iface 132 (.agg #[])] 136)).alloc (.cells (p ++ (c ++ q)).toArray 46))) := ((Held.start w).push rfl [.iface 132 (.agg #[])] 136).push (by simp) (p ++ (c ++ q)) 46
 have hc := RPod.firm.len h.out
 have h1 := RPod.firm.one h.out
 go_enter func159, ntmps159
 go_wp2_with fail
 refine t0 (Held w [(w.heap.size + 1, p ++ (c ++ q)), (w.heap.size, [.iface 132 (.agg #[])])] []) (HH.out.drew) (fun hH => ?_)
 refine tp 0 ?_; try go_frame
 refine' tk 1 ?_ ?_; rotate_left
 ·
  intro u hu; have hc0 := Held.cell hu 1 rfl 0 rfl; clear hu; go_simp; try with_reducible rfl
 try go_frame
 refine tp 2 ?_; try go_frame
 refine' tk 3 ?_ ?_; rotate_left
 ·
  intro u hu; have hc0 := Held.cell hu 1 rfl 0 rfl; clear hu; go_simp; try with_reducible rfl
 try go_frame
 refine tq 4 (.agg (p ++ (c ++ q)).toArray) (yieldsIf_load_mid (by rfl) 46 _ rfl (w.heap.size + 1) 0 rfl (p ++ (c ++ q)) _ (fun u hu => Held.get hu 0 rfl) underlying46 rfl hi) ?_ (hi := rfl)
 try go_frame
 refine tp 6 ?_; try go_frame
 refine tp 7 ?_; try go_frame
 refine tr 5 (fun K hK => ?_)
 refine want_yes (by rfl) (call_enter (f := 339) (args := #[.agg #[], .agg (p ++ (c ++ q)).toArray]) (by kernel_rfl) (Pod_member p c q hp hc h1 _) (fun e u1 he => ?_))
 obtain ⟨rfl, hb1⟩ := he
 have HB1 : Hid (Below w.heap.size w u1) := on2 hH.below hb1
 refine ⟨_, rfl, hK.out _ _ (hH.on hb1) (fun hH => ?_)⟩
 clear hK K
 try go_frame
 refine tr 8 (fun K hK => ?_)
 refine want_yes (by rfl) (call_enter (f := 96) (args := #[.agg #[], .agg c.toArray]) (by kernel_rfl) (Pod_right c A x _ (RPod.firm.kept h.out (Kept.below HB1.out))) (fun e u1 he => ?_))
 obtain ⟨rfl, hb2⟩ := he
 have HB2 : Hid (Below w.heap.size w u1) := on2 hH.below hb2
 refine ⟨_, rfl, hK.out _ _ (hH.on hb2) (fun hH => ?_)⟩
 clear hK K
 try go_frame
 refine tp 9 ?_; try go_frame
 refine tz ?_
 go_wp2_with fail
 go_ret
 exact ⟨rfl, HB2.out⟩
theorem Pod_kblank (p c q : List Value) (x : PodD) (A : Where) (w : World) (h : Hid (RPod A w c x)) (hp : p.length = 1) (hall : (p ++ (c ++ q)).length = 40) : Calls prog 153 #[.agg #[.iface 132 (.agg #[])], .agg (p ++ (c ++ q)).toArray] w fun e w' => e = .returned (.bool (blankPod x)) ∧ Below w.heap.size w w' := by
 have hi : (prog.info? 46).map (·.size) = some (p ++ (c ++ q)).length := by rw [hall]; exact infoObj
 have HH : Hid (Held w [(w.heap.size + 1, p ++ (c ++ q)), (w.heap.size, [.iface 132 (.agg #[])])] [] ((w.alloc (.cells #[.iface 132 (.agg #[])] 136)).alloc (.cells (p ++ (c ++ q)).toArray 46))) := ((Held.start w).push rfl [.iface 132 (.agg #[])] 136).push (by simp) (p ++ (c ++ q)) 46
 have hc := RPod.firm.len h.out
 have h1 := RPod.firm.one h.out
 go_enter func153, ntmps153
 go_wp2_with fail
 refine t0 (Held w [(w.heap.size + 1, p ++ (c ++ q)), (w.heap.size, [.iface 132 (.agg #[])])] []) (HH.out.drew) (fun hH => ?_)
 refine tp 0 ?_; try go_frame
 refine' tk 1 ?_ ?_; rotate_left
 ·
  intro u hu; have hc0 := Held.cell hu 1 rfl 0 rfl; clear hu; go_simp; try with_reducible rfl
 try go_frame
 refine tp 2 ?_; try go_frame
 refine' tk 3 ?_ ?_; rotate_left
 ·
  intro u hu; have hc0 := Held.cell hu 1 rfl 0 rfl; clear hu; go_simp; try with_reducible rfl
 try go_frame
 refine tq 4 (.agg (p ++ (c ++ q)).toArray) (yieldsIf_load_mid (by rfl) 46 _ rfl (w.heap.size + 1) 0 rfl (p ++ (c ++ q)) _ (fun u hu => Held.get hu 0 rfl) underlying46 rfl hi) ?_ (hi := rfl)
 try go_frame
 refine tp 6 ?_; try go_frame
 refine tp 7 ?_; try go_frame
 refine tr 5 (fun K hK => ?_)
 refine want_yes (by rfl) (call_enter (f := 339) (args := #[.agg #[], .agg (p ++ (c ++ q)).toArray]) (by kernel_rfl) (Pod_member p c q hp hc h1 _) (fun e u1 he => ?_))
 obtain ⟨rfl, hb1⟩ := he
 have HB1 : Hid (Below w.heap.size w u1) := on2 hH.below hb1
 refine ⟨_, rfl, hK.out _ _ (hH.on hb1) (fun hH => ?_)⟩
 clear hK K
 try go_frame
 refine tr 8 (fun K hK => ?_)
 refine want_yes (by rfl) (call_enter (f := 94) (args := #[.agg #[], .agg c.toArray]) (by kernel_rfl) (Pod_blank c A x _ (RPod.firm.kept h.out (Kept.below HB1.out))) (fun e u1 he => ?_))
 obtain ⟨rfl, hb2⟩ := he
 have HB2 : Hid (Below w.heap.size w u1) := on2 hH.below hb2
 refine ⟨_, rfl, hK.out _ _ (hH.on hb2) (fun hH => ?_)⟩
 clear hK K
 try go_frame
 refine tp 9 ?_; try go_frame
 refine tz ?_
 go_wp2_with fail
 go_ret
 exact ⟨rfl, HB2.out⟩
theorem headPod {A : Where} {w : World} {c : List Value} {x : PodD} (h : RPod A w c x) : ∃ r, c = .string x.1 :: r := by
 obtain ⟨c1, d, rfl, ⟨rfl, _⟩, _⟩ := h
 exact ⟨d, rfl⟩
theorem Pod_named (c : List Value) (A : Where) (x : PodD) (w : World) (h : RPod A w c x) : Calls prog 95 #[.agg #[], .agg c.toArray] w fun e w' => e = .returned (.string x.1) ∧ Below w.heap.size w w' := by
 obtain ⟨r, rfl⟩ := headPod h
 exact Pod_name x.1 r w
theorem Pod_kname (p c q : List Value) (x : PodD) (A : Where) (w : World) (h : Hid (RPod A w c x)) (hp : p.length = 1) (hall : (p ++ (c ++ q)).length = 40) : Calls prog 156 #[.agg #[.iface 132 (.agg #[])], .agg (p ++ (c ++ q)).toArray] w fun e w' => e = .returned (.string x.1) ∧ Below w.heap.size w w' := by
 have hi : (prog.info? 46).map (·.size) = some (p ++ (c ++ q)).length := by rw [hall]; exact infoObj
 have HH : Hid (Held w [(w.heap.size + 1, p ++ (c ++ q)), (w.heap.size, [.iface 132 (.agg #[])])] [] ((w.alloc (.cells #[.iface 132 (.agg #[])] 136)).alloc (.cells (p ++ (c ++ q)).toArray 46))) := ((Held.start w).push rfl [.iface 132 (.agg #[])] 136).push (by simp) (p ++ (c ++ q)) 46
 have hc := RPod.firm.len h.out
 have h1 := RPod.firm.one h.out
 go_enter func156, ntmps156
 go_wp2_with fail
 refine t0 (Held w [(w.heap.size + 1, p ++ (c ++ q)), (w.heap.size, [.iface 132 (.agg #[])])] []) (HH.out.drew) (fun hH => ?_)
 refine tp 0 ?_; try go_frame
 refine' tk 1 ?_ ?_; rotate_left
 ·
  intro u hu; have hc0 := Held.cell hu 1 rfl 0 rfl; clear hu; go_simp; try with_reducible rfl
 try go_frame
 refine tp 2 ?_; try go_frame
 refine' tk 3 ?_ ?_; rotate_left
 ·
  intro u hu; have hc0 := Held.cell hu 1 rfl 0 rfl; clear hu; go_simp; try with_reducible rfl
 try go_frame
 refine tq 4 (.agg (p ++ (c ++ q)).toArray) (yieldsIf_load_mid (by rfl) 46 _ rfl (w.heap.size + 1) 0 rfl (p ++ (c ++ q)) _ (fun u hu => Held.get hu 0 rfl) underlying46 rfl hi) ?_ (hi := rfl)
 try go_frame
 refine tp 6 ?_; try go_frame
 refine tp 7 ?_; try go_frame
 refine tr 5 (fun K hK => ?_)
 refine want_yes (by rfl) (call_enter (f := 339) (args := #[.agg #[], .agg (p ++ (c ++ q)).toArray]) (by kernel_rfl) (Pod_member p c q hp hc h1 _) (fun e u1 he => ?_))
 obtain ⟨rfl, hb1⟩ := he
 have HB1 : Hid (Below w.heap.size w u1) := on2 hH.below hb1
 refine ⟨_, rfl, hK.out _ _ (hH.on hb1) (fun hH => ?_)⟩
 clear hK K
 try go_frame
 refine tr 8 (fun K hK => ?_)
 refine want_yes (by rfl) (call_enter (f := 95) (args := #[.agg #[], .agg c.toArray]) (by kernel_rfl) (Pod_named c A x _ (RPod.firm.kept h.out (Kept.below HB1.out))) (fun e u1 he => ?_))
 obtain ⟨rfl, hb2⟩ := he
 have HB2 : Hid (Below w.heap.size w u1) := on2 hH.below hb2
 refine ⟨_, rfl, hK.out _ _ (hH.on hb2) (fun hH => ?_)⟩
 clear hK K
 try go_frame
 refine tp 9 ?_; try go_frame
 refine tz ?_
 go_wp2_with fail
 go_ret
 exact ⟨rfl, HB2.out⟩
theorem Pod_kcount (h0 h1 h2 h3 h4 h5 : Hd) (w : World) : Calls prog 154 #[.agg #[.iface 132 (.agg #[])], .agg #[J h0, J h1, J h2, J h3, J h4, J h5]] w fun e w' => e = .returned (.int .i64 (h0.2.1 : Nat)) ∧ Below w.heap.size w w' := by
 have hL := Pod_list (J h0) (J h1) (J h2) (J h3) (J h4) (J h5)
 go_enter func154, ntmps154
 go_wp2_with fail
 refine (hL _).mono ?_
 rintro e w1 ⟨rfl, hb1⟩
 go_wp2_with fail
 go_ret
 exact ⟨rfl, on2 (by go_grown) hb1⟩
theorem find1Pod (s : ByteArray) (D E : Nat) (w : World) (hD : D < w.heap.size) (hE : E < w.heap.size) (cD : w.cell? ⟨D, 0, none⟩ = some (.iface 132 (.agg #[]))) (cE : w.cell? ⟨E, 0, none⟩ = some (.string s)) : PredPod 168 #[.pointer (some ⟨D, 0, none⟩), .pointer (some ⟨E, 0, none⟩)] (fun x => sEq x.1 s) w := fun W cs x hb hr0 => by
 have hr : Hid (RPod (fun _ => True) W cs x) := hr0
 have hi : (prog.info? 33).map (·.size) = some cs.length := by rw [RPod.firm.len hr0]; exact itPod
 have HH : Hid (Held W [(W.heap.size, cs)] [] (W.alloc (.cells cs.toArray 33))) := (Held.start W).push rfl cs 33
 have hDW : D < W.heap.size := Nat.lt_of_lt_of_le hD hb.size
 have hEW : E < W.heap.size := Nat.lt_of_lt_of_le hE hb.size
 have HD : Hid (W.cell? ⟨D, 0, none⟩ = some (.iface 132 (.agg #[]))) := (hb.cell (p := ⟨D, 0, none⟩) hD).trans cD
 have HE : Hid (W.cell? ⟨E, 0, none⟩ = some (.string s)) := (hb.cell (p := ⟨E, 0, none⟩) hE).trans cE
 show Calls prog 168 #[.agg cs.toArray, .pointer (some ⟨D, 0, none⟩), .pointer (some ⟨E, 0, none⟩)] W fun e w' => e = .returned (.bool (sEq x.1 s)) ∧ Below W.heap.size W w'
 clear cD cE hb hD hE hr0
 go_enter func168, ntmps168
 go_wp2_with fail
 refine t0 (Held W [(W.heap.size, cs)] []) (HH.out.drew) (fun hH => ?_)
 refine' tk 0 ?_ ?_; rotate_left
 ·
  intro u hu; have hc0 := (hu.below.cell (p := ⟨D, 0, none⟩) hDW).trans HD.out; clear hu; go_simp; try with_reducible rfl
 try go_frame
 refine tq 1 (.agg (cs).toArray) (yieldsIf_load_mid (by rfl) 33 _ rfl (W.heap.size) 0 rfl (cs) _ (fun u hu => Held.get hu 0 rfl) underlying33 rfl hi) ?_ (hi := rfl)
 try go_frame
 refine' tk 3 ?_ ?_; rotate_left
 ·
  intro u hu; have hc0 := (hu.below.cell (p := ⟨E, 0, none⟩) hEW).trans HE.out; clear hu; go_simp; try with_reducible rfl
 try go_frame
 refine tr 2 (fun K hK => ?_)
 refine want_yes (by rfl) (call_enter (f := 95) (args := #[.agg #[], .agg cs.toArray]) (by kernel_rfl) (Pod_named cs _ x _ (RPod.firm.kept hr.out (Kept.below hH.below))) (fun e u1 he => ?_))
 obtain ⟨rfl, hb1⟩ := he
 have HB1 : Hid (Below W.heap.size W u1) := on2 hH.below hb1
 refine ⟨_, rfl, hK.out _ _ (hH.on hb1) (fun hH => ?_)⟩
 clear hK K
 try go_frame
 refine tp 4 ?_; try go_frame
 refine tp 5 ?_; try go_frame
 refine tz ?_
 go_wp2_with fail
 go_ret
 exact ⟨retb (by simp only [sEq]), HB1.out⟩
theorem ent_findPod : ∀ args w, (callFunc 168 args).run prog w = .ok (.enter 168 args) w := Go.Proofs.enters_of func168 (by kernel_rfl) rfl
theorem place1Pod (s : ByteArray) (D E : Nat) (w : World) (hD : D < w.heap.size) (hE : E < w.heap.size) (cD : w.cell? ⟨D, 0, none⟩ = some (.iface 132 (.agg #[]))) (cE : w.cell? ⟨E, 0, none⟩ = some (.string s)) : PredPod 171 #[.pointer (some ⟨D, 0, none⟩), .pointer (some ⟨E, 0, none⟩)] (fun x => sGt x.1 s) w := fun W cs x hb hr0 => by
 have hr : Hid (RPod (fun _ => True) W cs x) := hr0
 have hi : (prog.info? 33).map (·.size) = some cs.length := by rw [RPod.firm.len hr0]; exact itPod
 have HH : Hid (Held W [(W.heap.size, cs)] [] (W.alloc (.cells cs.toArray 33))) := (Held.start W).push rfl cs 33
 have hDW : D < W.heap.size := Nat.lt_of_lt_of_le hD hb.size
 have hEW : E < W.heap.size := Nat.lt_of_lt_of_le hE hb.size
 have HD : Hid (W.cell? ⟨D, 0, none⟩ = some (.iface 132 (.agg #[]))) := (hb.cell (p := ⟨D, 0, none⟩) hD).trans cD
 have HE : Hid (W.cell? ⟨E, 0, none⟩ = some (.string s)) := (hb.cell (p := ⟨E, 0, none⟩) hE).trans cE
 show Calls prog 171 #[.agg cs.toArray, .pointer (some ⟨D, 0, none⟩), .pointer (some ⟨E, 0, none⟩)] W fun e w' => e = .returned (.bool (sGt x.1 s)) ∧ Below W.heap.size W w'
 clear cD cE hb hD hE hr0
 go_enter func171, ntmps171
 go_wp2_with fail
 refine t0 (Held W [(W.heap.size, cs)] []) (HH.out.drew) (fun hH => ?_)
 refine' tk 0 ?_ ?_; rotate_left
 ·
  intro u hu; have hc0 := (hu.below.cell (p := ⟨D, 0, none⟩) hDW).trans HD.out; clear hu; go_simp; try with_reducible rfl
 try go_frame
 refine tq 1 (.agg (cs).toArray) (yieldsIf_load_mid (by rfl) 33 _ rfl (W.heap.size) 0 rfl (cs) _ (fun u hu => Held.get hu 0 rfl) underlying33 rfl hi) ?_ (hi := rfl)
 try go_frame
 refine' tk 3 ?_ ?_; rotate_left
 ·
  intro u hu; have hc0 := (hu.below.cell (p := ⟨E, 0, none⟩) hEW).trans HE.out; clear hu; go_simp; try with_reducible rfl
 try go_frame
 refine tr 2 (fun K hK => ?_)
 refine want_yes (by rfl) (call_enter (f := 95) (args := #[.agg #[], .agg cs.toArray]) (by kernel_rfl) (Pod_named cs _ x _ (RPod.firm.kept hr.out (Kept.below hH.below))) (fun e u1 he => ?_))
 obtain ⟨rfl, hb1⟩ := he
 have HB1 : Hid (Below W.heap.size W u1) := on2 hH.below hb1
 refine ⟨_, rfl, hK.out _ _ (hH.on hb1) (fun hH => ?_)⟩
 clear hK K
 try go_frame
 refine tp 4 ?_; try go_frame
 refine tp 5 ?_; try go_frame
 refine tz ?_
 go_wp2_with fail
 go_ret
 exact ⟨retb (by simp only [sGt, sLt, sEq]), HB1.out⟩
theorem ent_placePod : ∀ args w, (callFunc 171 args).run prog w = .ok (.enter 171 args) w := Go.Proofs.enters_of func171 (by kernel_rfl) rfl
theorem findPod_calls (a : Option Addr) (n cap : Nat) (A : Where) (L : List PodD) (s : ByteArray) (w : World) (hL : SlAt RPod 16 296 A w a n cap L) : Calls prog 161 #[.iface 132 (.agg #[]), .slice a n cap, .string s] w fun e w' => ((∃ i : Nat, i < L.length ∧ sEq (L.getD i default).1 s = true ∧ (∀ j, j < i → sEq (L.getD j default).1 s = false) ∧ e = .returned (.int .i64 i)) ∨ ((∀ j, j < L.length → sEq (L.getD j default).1 s = false) ∧ e = .returned (.int .i64 (-1)))) ∧ Below w.heap.size w w' := by
 have hb0 : Below w.heap.size w ((w.alloc (.cells #[.iface 132 (.agg #[])] 134)).alloc (.cells #[.string s] 9)) := by go_grown
 have hI := IndexPod_calls a n cap A L _ (hL.on RPod.firm hb0) (fun x => sEq x.1 s) 168 #[.pointer (some ⟨w.heap.size, 0, none⟩), .pointer (some ⟨w.heap.size + 1, 0, none⟩)] ent_findPod (find1Pod s w.heap.size (w.heap.size + 1) _ (by simp; omega) (by simp) (by simp [go_sem]) (by simp [go_sem]))
 go_enter func161, ntmps161
 go_wp2_with fail
 refine hI.mono ?_
 rintro e w1 ⟨⟨i, hi, hy, hn, rfl⟩ | ⟨hn, rfl⟩, hb⟩
 ·
  have HA : Hid (∃ i' : Nat, i' < L.length ∧ sEq (L.getD i' default).1 s = true ∧ (∀ j, j < i' → sEq (L.getD j default).1 s = false) ∧ Ending.returned (.int .i64 i) = .returned (.int .i64 i')) := ⟨i, hi, hy, hn, rfl⟩
  clear hy hn hI hL
  go_wp2_with fail
  go_ret
  exact ⟨.inl HA.out, on2 hb0 hb⟩
 ·
  have HA : Hid (∀ j, j < L.length → sEq (L.getD j default).1 s = false) := hn
  clear hn hI hL
  go_wp2_with fail
  go_ret
  exact ⟨.inr ⟨HA.out, rfl⟩, on2 hb0 hb⟩
theorem placePod_calls (a : Option Addr) (n cap : Nat) (A : Where) (L : List PodD) (s : ByteArray) (w : World) (hL : SlAt RPod 16 296 A w a n cap L) : Calls prog 163 #[.iface 132 (.agg #[]), .slice a n cap, .string s] w fun e w' => (∃ i : Nat, i ≤ L.length ∧ (∀ j, j < i → sGt (L.getD j default).1 s = false) ∧ (i < L.length → sGt (L.getD i default).1 s = true) ∧ e = .returned (.int .i64 i)) ∧ Below w.heap.size w w' := by
 have hb0 : Below w.heap.size w ((w.alloc (.cells #[.iface 132 (.agg #[])] 134)).alloc (.cells #[.string s] 9)) := by go_grown
 have hI := IndexPod_calls a n cap A L _ (hL.on RPod.firm hb0) (fun x => sGt x.1 s) 171 #[.pointer (some ⟨w.heap.size, 0, none⟩), .pointer (some ⟨w.heap.size + 1, 0, none⟩)] ent_placePod (place1Pod s w.heap.size (w.heap.size + 1) _ (by simp; omega) (by simp) (by simp [go_sem]) (by simp [go_sem]))
 have HN : Hid (L.length = n) := hL.1
 go_enter func163, ntmps163
 go_wp2_with fail
 refine hI.mono ?_
 rintro e w1 ⟨⟨i, hi, hy, hn, rfl⟩ | ⟨hn, rfl⟩, hb⟩
 ·
  have HA : Hid (∃ i' : Nat, i' ≤ L.length ∧ (∀ j, j < i' → sGt (L.getD j default).1 s = false) ∧ (i' < L.length → sGt (L.getD i' default).1 s = true) ∧ Ending.returned (.int .i64 i) = .returned (.int .i64 i')) := ⟨i, Nat.le_of_lt hi, hn, fun _ => hy, rfl⟩
  clear hy hn hI hL
  go_wp2_with fail
  go_ret
  exact ⟨HA.out, on2 hb0 hb⟩
 ·
  have HA : Hid (∃ i' : Nat, i' ≤ L.length ∧ (∀ j, j < i' → sGt (L.getD j default).1 s = false) ∧ (i' < L.length → sGt (L.getD i' default).1 s = true) ∧ Ending.returned (.int .i64 n) = .returned (.int .i64 i')) := ⟨n, Nat.le_of_eq HN.out.symm, fun j hj => hn j (by rw [HN.out]; exact hj), fun h => by rw [HN.out] at h; omega, rfl⟩
  clear hn hI hL
  go_wp2_with fail
  go_ret
  exact ⟨HA.out, on2 hb0 hb⟩
end Go.Proofs.YtikncmcceeacmaaGreat

