/- kept.right, blank, name, count at Node, and its like. No condition beyond what each says. -/
import Derived.Shelf.Abstract
import Derived.Test.YtfbnnfpnjjjfcaaGreatS19
namespace Go.Proofs.YtfbnnfpnjjjfcaaGreat
set_option maxHeartbeats 16000000
set_option maxRecDepth 100000
open Tryz Go.RowKit
set_option linter.unusedSimpArgs false
theorem Node_kright (p c q : List Value) (x : NodeD) (A : Where) (w : World) (h : Hid (RNode A w c x)) (hp : p.length = 17) (hall : (p ++ (c ++ q)).length = 40) : Calls prog 196 #[.agg #[.iface 137 (.agg #[])], .agg (p ++ (c ++ q)).toArray] w fun e w' => e = .returned (.bool (rightNode x)) ∧ Below w.heap.size w w' := by
 have hi : (prog.info? 46).map (·.size) = some (p ++ (c ++ q)).length := by rw [hall]; exact infoObj
 have HH : Hid (Held w [(w.heap.size + 1, p ++ (c ++ q)), (w.heap.size, [.iface 137 (.agg #[])])] [] ((w.alloc (.cells #[.iface 137 (.agg #[])] 141)).alloc (.cells (p ++ (c ++ q)).toArray 46))) := ((Held.start w).push rfl [.iface 137 (.agg #[])] 141).push (by simp) (p ++ (c ++ q)) 46
 have hc := RNode.firm.len h.out
 have h1 := RNode.firm.one h.out
 go_enter func196, ntmps196
 go_wp2_with fail
 refine t0 (Held w [(w.heap.size + 1, p ++ (c ++ q)), (w.heap.size, [.iface 137 (.agg #[])])] []) (HH.out.drew) (fun hH => ?_)
 refine tp 0 ?_; try go_frame
 refine' tk 1 ?_ ?_; rotate_left
 ·
  intro u hu; have hc0 := Held.cell hu 1 rfl 0 rfl; clear hu; go_simp; try with_reducible rfl
 try go_frame
 refine tp 2 ?_; try go_frame
 refine' tk 3 ?_ ?_; rotate_left
 ·
  intro u hu; have hc0 := Held.cell hu 1 rfl 0 rfl; clear hu; go_simp; try with_reducible rfl
 try go_frame
 refine tq 4 (.agg (p ++ (c ++ q)).toArray) (yieldsIf_load_mid (by rfl) 46 _ rfl (w.heap.size + 1) 0 rfl (p ++ (c ++ q)) _ (fun u hu => Held.get hu 0 rfl) underlying46 rfl hi) ?_ (hi := rfl)
 try go_frame
 refine tp 6 ?_; try go_frame
 refine tp 7 ?_; try go_frame
 refine tr 5 (fun K hK => ?_)
 refine want_yes (by rfl) (call_enter (f := 178) (args := #[.agg #[], .agg (p ++ (c ++ q)).toArray]) (by kernel_rfl) (Node_member p c q hp hc h1 _) (fun e u1 he => ?_))
 obtain ⟨rfl, hb1⟩ := he
 have HB1 : Hid (Below w.heap.size w u1) := on2 hH.below hb1
 refine ⟨_, rfl, hK.out _ _ (hH.on hb1) (fun hH => ?_)⟩
 clear hK K
 try go_frame
 refine tr 8 (fun K hK => ?_)
 refine want_yes (by rfl) (call_enter (f := 181) (args := #[.agg #[], .agg c.toArray]) (by kernel_rfl) (Node_right c A x _ (RNode.firm.kept h.out (Kept.below HB1.out))) (fun e u1 he => ?_))
 obtain ⟨rfl, hb2⟩ := he
 have HB2 : Hid (Below w.heap.size w u1) := on2 hH.below hb2
 refine ⟨_, rfl, hK.out _ _ (hH.on hb2) (fun hH => ?_)⟩
 clear hK K
 try go_frame
 refine tp 9 ?_; try go_frame
 refine tz ?_
 go_wp2_with fail
 go_ret
 exact ⟨rfl, HB2.out⟩
theorem Node_kblank (p c q : List Value) (x : NodeD) (A : Where) (w : World) (h : Hid (RNode A w c x)) (hp : p.length = 17) (hall : (p ++ (c ++ q)).length = 40) : Calls prog 190 #[.agg #[.iface 137 (.agg #[])], .agg (p ++ (c ++ q)).toArray] w fun e w' => e = .returned (.bool (blankNode x)) ∧ Below w.heap.size w w' := by
 have hi : (prog.info? 46).map (·.size) = some (p ++ (c ++ q)).length := by rw [hall]; exact infoObj
 have HH : Hid (Held w [(w.heap.size + 1, p ++ (c ++ q)), (w.heap.size, [.iface 137 (.agg #[])])] [] ((w.alloc (.cells #[.iface 137 (.agg #[])] 141)).alloc (.cells (p ++ (c ++ q)).toArray 46))) := ((Held.start w).push rfl [.iface 137 (.agg #[])] 141).push (by simp) (p ++ (c ++ q)) 46
 have hc := RNode.firm.len h.out
 have h1 := RNode.firm.one h.out
 go_enter func190, ntmps190
 go_wp2_with fail
 refine t0 (Held w [(w.heap.size + 1, p ++ (c ++ q)), (w.heap.size, [.iface 137 (.agg #[])])] []) (HH.out.drew) (fun hH => ?_)
 refine tp 0 ?_; try go_frame
 refine' tk 1 ?_ ?_; rotate_left
 ·
  intro u hu; have hc0 := Held.cell hu 1 rfl 0 rfl; clear hu; go_simp; try with_reducible rfl
 try go_frame
 refine tp 2 ?_; try go_frame
 refine' tk 3 ?_ ?_; rotate_left
 ·
  intro u hu; have hc0 := Held.cell hu 1 rfl 0 rfl; clear hu; go_simp; try with_reducible rfl
 try go_frame
 refine tq 4 (.agg (p ++ (c ++ q)).toArray) (yieldsIf_load_mid (by rfl) 46 _ rfl (w.heap.size + 1) 0 rfl (p ++ (c ++ q)) _ (fun u hu => Held.get hu 0 rfl) underlying46 rfl hi) ?_ (hi := rfl)
 try go_frame
 refine tp 6 ?_; try go_frame
 refine tp 7 ?_; try go_frame
 refine tr 5 (fun K hK => ?_)
 refine want_yes (by rfl) (call_enter (f := 178) (args := #[.agg #[], .agg (p ++ (c ++ q)).toArray]) (by kernel_rfl) (Node_member p c q hp hc h1 _) (fun e u1 he => ?_))
 obtain ⟨rfl, hb1⟩ := he
 have HB1 : Hid (Below w.heap.size w u1) := on2 hH.below hb1
 refine ⟨_, rfl, hK.out _ _ (hH.on hb1) (fun hH => ?_)⟩
 clear hK K
 try go_frame
 refine tr 8 (fun K hK => ?_)
 refine want_yes (by rfl) (call_enter (f := 176) (args := #[.agg #[], .agg c.toArray]) (by kernel_rfl) (Node_blank c A x _ (RNode.firm.kept h.out (Kept.below HB1.out))) (fun e u1 he => ?_))
 obtain ⟨rfl, hb2⟩ := he
 have HB2 : Hid (Below w.heap.size w u1) := on2 hH.below hb2
 refine ⟨_, rfl, hK.out _ _ (hH.on hb2) (fun hH => ?_)⟩
 clear hK K
 try go_frame
 refine tp 9 ?_; try go_frame
 refine tz ?_
 go_wp2_with fail
 go_ret
 exact ⟨rfl, HB2.out⟩
theorem headNode {A : Where} {w : World} {c : List Value} {x : NodeD} (h : RNode A w c x) : ∃ r, c = .string x.1 :: r := by
 obtain ⟨c1, d, rfl, ⟨rfl, _⟩, _⟩ := h
 exact ⟨d, rfl⟩
theorem Node_named (c : List Value) (A : Where) (x : NodeD) (w : World) (h : RNode A w c x) : Calls prog 179 #[.agg #[], .agg c.toArray] w fun e w' => e = .returned (.string x.1) ∧ Below w.heap.size w w' := by
 obtain ⟨r, rfl⟩ := headNode h
 exact Node_name x.1 r w
theorem Node_kcount (h0 h1 h2 h3 h4 h5 : Hd) (w : World) : Calls prog 191 #[.agg #[.iface 137 (.agg #[])], .agg #[J h0, J h1, J h2, J h3, J h4, J h5]] w fun e w' => e = .returned (.int .i64 (h1.2.1 : Nat)) ∧ Below w.heap.size w w' := by
 have hL := Node_list (J h0) (J h1) (J h2) (J h3) (J h4) (J h5)
 go_enter func191, ntmps191
 go_wp2_with fail
 refine (hL _).mono ?_
 rintro e w1 ⟨rfl, hb1⟩
 go_wp2_with fail
 go_ret
 exact ⟨rfl, on2 (by go_grown) hb1⟩
theorem sizVolume : (prog.info? 38).map (·.size) = some 5 := by kernel_rfl
theorem Volume_member (p c q : List Value) (hp : p.length = 26) (hc : c.length = 5) (h1 : ∀ v ∈ c, v.oneCell' = true) (w : World) : Calls prog 215 #[.agg #[], .agg (p ++ (c ++ q)).toArray] w fun e w' => e = .returned (.agg c.toArray) ∧ Below w.heap.size w w' := by
 have hi : (prog.info? 38).map (·.size) = some c.length := by rw [hc]; exact sizVolume
 have Hr : ∀ T z, Hid ((((w.alloc (.cells #[] T)).alloc (.cells (p ++ (c ++ q)).toArray 46)).alloc (.cells z 38)).rangeAt (w.heap.size + 1) 26 c) := fun T z => World.rangeAt_alloc (range_new (by simp) hp) _
 have Ht : ∀ T z, z.size = 5 → Hid ((((w.alloc (.cells #[] T)).alloc (.cells (p ++ (c ++ q)).toArray 46)).alloc (.cells z 38)).there (w.heap.size + 1 + 1) 0 c.toArray.size) := fun T z hz => there_new (by simp) (by simp [hc, hz])
 have h1' := all_oneCell_toArray h1
 have HE : Hid (c.toArray.size = 5) := by simp [Hid, hc]
 clear hp hc h1
 go_enter func215, ntmps215
 go_wp2_with (first | (refine wpList_load_mid rfl 38 _ rfl (w.heap.size + 1) 26 rfl c _ (Hr _ _).out underlying38 rfl hi ?_) | (refine wpList_store_mid rfl 38 _ _ rfl (w.heap.size + 1 + 1) 0 c.toArray rfl rfl (Ht _ _ rfl).out (by simpa using hi) h1' ?_))
 have HT := (Ht 142 #[.string ⟨#[]⟩, .int .i64 0, .string ⟨#[]⟩, Z, .string ⟨#[]⟩] rfl).out
 refine bodyPost_ret (v := .agg c.toArray) (res_cell (p := 4) (ty := 38) rfl _ _ (w.heap.size + 1 + 1) c _ rfl (World.rangeAt_setCells_same _ _ _ _ (by simpa using HT)) underlying38 rfl hi) rfl ⟨rfl, below_setCells (by go_grown) (by omega)⟩
theorem itVolume : (prog.info? 38).map (·.size) = some 5 := by kernel_rfl
def PredVolume (g : Nat) (lb : Array Value) (p : VolumeD → Bool) (w : World) : Prop :=
 ∀ (W : World) (cs : List Value) (x : VolumeD), Below w.heap.size w W → RVolume (fun _ => True) W cs x → Calls prog g (#[.agg cs.toArray] ++ lb) W fun e w' => e = .returned (.bool (p x)) ∧ Below W.heap.size W w'
theorem IndexVolume_calls (a : Option Addr) (n cap : Nat) (A : Where) (L : List VolumeD) (w : World) (hL : Hid (SlAt RVolume 5 80 A w a n cap L)) (p : VolumeD → Bool) (g : Nat) (lb : Array Value) (eg : ∀ args w, (callFunc g args).run prog w = .ok (.enter g args) w) (hp : Hid (PredVolume g lb p w)) :
  Calls prog 235 #[.slice a n cap, .func (.func g) #[] lb] w fun e w' => ((∃ i : Nat, i < L.length ∧ p (L.getD i default) = true ∧ (∀ j, j < i → p (L.getD j default) = false) ∧ e = .returned (.int .i64 i)) ∨ ((∀ j, j < L.length → p (L.getD j default) = false) ∧ e = .returned (.int .i64 (-1)))) ∧ Below w.heap.size w w' := by
 have hlen := hL.out.len (by decide)
 have HN : Hid (L.length = n) := hL.out.1
 go_enter func235, ntmps235
 go_wp2
 go_loopw [8] (fun i wr => ∃ k : Nat, k ≤ n ∧ i = .int .i64 k ∧ Below w.heap.size w wr ∧ Hid (∀ j, j < k → p (L.getD j default) = false)) (fun i _ => n - (intOf i).toNat)
 case atStart => exact ⟨0, Nat.zero_le _, rfl, Below.refl _ _, fun j hj => absurd hj (Nat.not_lt_zero _)⟩
 case round =>
  obtain ⟨k, hk, rfl, hbel, hall⟩ := hrel
  by_cases hlt : k < n
  ·
   obtain ⟨B, off, rfl, hB, _, cs, hr, hv⟩ := (hL.out.on RVolume.firm hbel).get hlt
   have HV : Hid (wr.rangeAt B (off + k * 5) cs) := hv
   have hi : (prog.info? 38).map (·.size) = some cs.length := by rw [RVolume.firm.len hr]; exact itVolume
   have hcall := hp.out wr cs (L.getD k default) hbel (RVolume.firm.weak hr (fun _ _ _ => trivial))
   clear hv hr
   have HG : Hid (p (L.getD k default) = false → ∀ j, j < k + 1 → p (L.getD j default) = false) := fun h j hj => by
    rcases Nat.lt_succ_iff_lt_or_eq.1 hj with h' | rfl
    ·
     exact hall.out j h'
    ·
     exact h
   have HF : Hid (p (L.getD k default) = true → ∃ i : Nat, i < L.length ∧ p (L.getD i default) = true ∧ (∀ j, j < i → p (L.getD j default) = false) ∧ Ending.returned (.int .i64 k) = .returned (.int .i64 i)) := fun h => ⟨k, by rw [HN.out]; exact hlt, h, hall.out, rfl⟩
   clear hall
   generalize L.getD k default = x at hcall HG HF
   cases hq : p x
   ·
    have HG' : Hid (∀ j, j < k + 1 → p (L.getD j default) = false) := HG.out hq
    rw [hq] at hcall
    clear HG HF hq
    go_wp2_with (first | (refine wpList_load_mid rfl 38 _ rfl B (off + k * 5) rfl cs _ HV.out underlying38 rfl hi ?_) | fail)
    refine hcall.mono ?_
    rintro e w' ⟨rfl, hb'⟩
    go_wp2_with fail
    go_roundw
    case rel => exact ⟨k + 1, by omega, by go_num, on2 hbel hb', HG'⟩
    case measure => simp [intOf]; omega
   ·
    have HF' := HF.out hq
    have HF2 : Hid (∃ i : Nat, i < L.length ∧ p (L.getD i default) = true ∧ (∀ j, j < i → p (L.getD j default) = false) ∧ Ending.returned (.int .i64 k) = .returned (.int .i64 i)) := HF'
    rw [hq] at hcall
    clear HG HF hq HF'
    go_wp2_with (first | (refine wpList_load_mid rfl 38 _ rfl B (off + k * 5) rfl cs _ HV.out underlying38 rfl hi ?_) | fail)
    refine hcall.mono ?_
    rintro e w' ⟨rfl, hb'⟩
    go_wp2_with fail
    go_ret
    exact ⟨.inl HF2.out, on2 hbel hb'⟩
  ·
   have HA : Hid (∀ j, j < L.length → p (L.getD j default) = false) := fun j hj => hall.out j (by rw [HN.out] at hj; omega)
   clear hall
   go_wp2
   go_ret
   exact ⟨.inr ⟨HA.out, rfl⟩, hbel⟩
theorem ContainsVolume_calls (a : Option Addr) (n cap : Nat) (A : Where) (L : List VolumeD) (w : World) (hL : Hid (SlAt RVolume 5 80 A w a n cap L)) (p : VolumeD → Bool) (g : Nat) (lb : Array Value) (eg : ∀ args w, (callFunc g args).run prog w = .ok (.enter g args) w) (hp : Hid (PredVolume g lb p w)) :
  Calls prog 240 #[.slice a n cap, .func (.func g) #[] lb] w fun e w' => e = .returned (.bool (L.any p)) ∧ Below w.heap.size w w' := by
 have hI := IndexVolume_calls a n cap A L w hL p g lb eg hp
 go_enter func240, ntmps240
 go_wp2_with fail
 refine hI.mono ?_
 rintro e w1 ⟨⟨i, hi, hy, _, rfl⟩ | ⟨hn, rfl⟩, hb⟩
 ·
  have HA : Hid (L.any p = true) := any_yes hi hy
  clear hy
  go_wp2_with fail
  go_ret
  exact ⟨retb HA.out.symm, hb⟩
 ·
  have HA : Hid (L.any p = false) := any_no hn
  clear hn
  go_wp2_with fail
  go_ret
  exact ⟨retb HA.out.symm, hb⟩
theorem all1Volume (s : String) (hm : ∀ w, (method 406 142 (.agg #[]) s).run prog w = .ok (218, .agg #[]) w) (p : VolumeD → Bool) (D : Nat) (w : World) (hD : D < w.heap.size) (cD : w.cell? ⟨D, 0, none⟩ = some (.func (.method s) #[.iface 142 (.agg #[])] #[])) (hpr : p = rightVolume) : PredVolume 241 #[.pointer (some ⟨D, 0, none⟩)] (fun x => !p x) w := fun W cs x hb hr0 => by
 have hr : Hid (RVolume (fun _ => True) W cs x) := hr0
 clear hr0
 have HV : Hid ((W.alloc (.cells cs.toArray 38)).rangeAt W.heap.size 0 cs) := range_all rfl
 have hi : (prog.info? 38).map (·.size) = some cs.length := by rw [RVolume.firm.len hr.out]; exact itVolume
 have HB0 : Hid (Below w.heap.size w (W.alloc (.cells cs.toArray 38))) := on2 hb (by go_grown)
 have HBW : Hid (Below W.heap.size W (W.alloc (.cells cs.toArray 38))) := by unfold Hid; go_grown
 have hDW : D < W.heap.size := by have := hb.size; omega
 have hne : D ≠ W.heap.size := by omega
 have d0 := (hb.cell (p := ⟨D, 0, none⟩) hD).trans cD
 subst hpr
 have hcall := (Volume_right cs _ x (W.alloc (.cells cs.toArray 38)) (RVolume.firm.kept hr.out (Kept.alloc _ _ _)))
 show Calls prog 241 #[.agg cs.toArray, .pointer (some ⟨D, 0, none⟩)] W fun e w' => e = .returned (.bool (!rightVolume x)) ∧ Below W.heap.size W w'
 generalize rightVolume x = r at hcall ⊢
 clear cD hb
 go_enter func241, ntmps241
 go_wp2_with (first | (refine wpList_load_mid rfl 38 _ rfl W.heap.size 0 rfl cs _ HV.out underlying38 rfl hi ?_) | fail)
 refine hcall.mono ?_
 rintro e w1 ⟨rfl, hb1⟩
 go_wp2_with fail
 go_ret
 exact ⟨rfl, on2 HBW.out hb1⟩
theorem entsVolume : ∀ args w, (callFunc 241 args).run prog w = .ok (.enter 241 args) w := Go.Proofs.enters_of func241 (by kernel_rfl) rfl
theorem not_anyVolume (L : List VolumeD) (p : VolumeD → Bool) : (!L.any (fun x => !p x)) = L.all p := by
 rw [Bool.eq_iff_iff]; simp
theorem allRightVolume_calls (s : String) (hm : ∀ w, (method 406 142 (.agg #[]) s).run prog w = .ok (218, .agg #[]) w) (a : Option Addr) (n cap : Nat) (A : Where) (L : List VolumeD) (w : World) (hL : Hid (SlAt RVolume 5 80 A w a n cap L)) : Calls prog 233 #[.slice a n cap, .func (.method s) #[.iface 142 (.agg #[])] #[]] w fun e w' => e = .returned (.bool (L.all rightVolume)) ∧ Below w.heap.size w w' := by
 have hb0 : Below w.heap.size w (w.alloc (.cells #[.func (.method s) #[.iface 142 (.agg #[])] #[]] 89)) := by go_grown
 have hC := ContainsVolume_calls a n cap A L (w.alloc (.cells #[.func (.method s) #[.iface 142 (.agg #[])] #[]] 89)) (hL.out.on RVolume.firm hb0) (fun x => !rightVolume x) 241 #[.pointer (some ⟨w.heap.size, 0, none⟩)] entsVolume (all1Volume s hm rightVolume w.heap.size _ (by simp) (by simp [go_sem]) rfl)
 have HF := not_anyVolume L rightVolume
 generalize L.any (fun x => !rightVolume x) = r at hC HF
 have HF2 : Hid ((!r) = L.all rightVolume) := HF
 clear HF hL
 go_enter func233, ntmps233
 go_wp2_with fail
 refine hC.mono ?_
 rintro e w1 ⟨rfl, hb1⟩
 go_wp2_with fail
 go_ret
 exact ⟨retb HF2.out, on2 hb0 hb1⟩
theorem Volume_kright (p c q : List Value) (x : VolumeD) (A : Where) (w : World) (h : Hid (RVolume A w c x)) (hp : p.length = 26) (hall : (p ++ (c ++ q)).length = 40) : Calls prog 227 #[.agg #[.iface 142 (.agg #[])], .agg (p ++ (c ++ q)).toArray] w fun e w' => e = .returned (.bool (rightVolume x)) ∧ Below w.heap.size w w' := by
 have hi : (prog.info? 46).map (·.size) = some (p ++ (c ++ q)).length := by rw [hall]; exact infoObj
 have HH : Hid (Held w [(w.heap.size + 1, p ++ (c ++ q)), (w.heap.size, [.iface 142 (.agg #[])])] [] ((w.alloc (.cells #[.iface 142 (.agg #[])] 146)).alloc (.cells (p ++ (c ++ q)).toArray 46))) := ((Held.start w).push rfl [.iface 142 (.agg #[])] 146).push (by simp) (p ++ (c ++ q)) 46
 have hc := RVolume.firm.len h.out
 have h1 := RVolume.firm.one h.out
 go_enter func227, ntmps227
 go_wp2_with fail
 refine t0 (Held w [(w.heap.size + 1, p ++ (c ++ q)), (w.heap.size, [.iface 142 (.agg #[])])] []) (HH.out.drew) (fun hH => ?_)
 refine tp 0 ?_; try go_frame
 refine' tk 1 ?_ ?_; rotate_left
 ·
  intro u hu; have hc0 := Held.cell hu 1 rfl 0 rfl; clear hu; go_simp; try with_reducible rfl
 try go_frame
 refine tp 2 ?_; try go_frame
 refine' tk 3 ?_ ?_; rotate_left
 ·
  intro u hu; have hc0 := Held.cell hu 1 rfl 0 rfl; clear hu; go_simp; try with_reducible rfl
 try go_frame
 refine tq 4 (.agg (p ++ (c ++ q)).toArray) (yieldsIf_load_mid (by rfl) 46 _ rfl (w.heap.size + 1) 0 rfl (p ++ (c ++ q)) _ (fun u hu => Held.get hu 0 rfl) underlying46 rfl hi) ?_ (hi := rfl)
 try go_frame
 refine tp 6 ?_; try go_frame
 refine tp 7 ?_; try go_frame
 refine tr 5 (fun K hK => ?_)
 refine want_yes (by rfl) (call_enter (f := 215) (args := #[.agg #[], .agg (p ++ (c ++ q)).toArray]) (by kernel_rfl) (Volume_member p c q hp hc h1 _) (fun e u1 he => ?_))
 obtain ⟨rfl, hb1⟩ := he
 have HB1 : Hid (Below w.heap.size w u1) := on2 hH.below hb1
 refine ⟨_, rfl, hK.out _ _ (hH.on hb1) (fun hH => ?_)⟩
 clear hK K
 try go_frame
 refine tr 8 (fun K hK => ?_)
 refine want_yes (by rfl) (call_enter (f := 218) (args := #[.agg #[], .agg c.toArray]) (by kernel_rfl) (Volume_right c A x _ (RVolume.firm.kept h.out (Kept.below HB1.out))) (fun e u1 he => ?_))
 obtain ⟨rfl, hb2⟩ := he
 have HB2 : Hid (Below w.heap.size w u1) := on2 hH.below hb2
 refine ⟨_, rfl, hK.out _ _ (hH.on hb2) (fun hH => ?_)⟩
 clear hK K
 try go_frame
 refine tp 9 ?_; try go_frame
 refine tz ?_
 go_wp2_with fail
 go_ret
 exact ⟨rfl, HB2.out⟩
theorem Volume_kblank (p c q : List Value) (x : VolumeD) (A : Where) (w : World) (h : Hid (RVolume A w c x)) (hp : p.length = 26) (hall : (p ++ (c ++ q)).length = 40) : Calls prog 221 #[.agg #[.iface 142 (.agg #[])], .agg (p ++ (c ++ q)).toArray] w fun e w' => e = .returned (.bool (blankVolume x)) ∧ Below w.heap.size w w' := by
 have hi : (prog.info? 46).map (·.size) = some (p ++ (c ++ q)).length := by rw [hall]; exact infoObj
 have HH : Hid (Held w [(w.heap.size + 1, p ++ (c ++ q)), (w.heap.size, [.iface 142 (.agg #[])])] [] ((w.alloc (.cells #[.iface 142 (.agg #[])] 146)).alloc (.cells (p ++ (c ++ q)).toArray 46))) := ((Held.start w).push rfl [.iface 142 (.agg #[])] 146).push (by simp) (p ++ (c ++ q)) 46
 have hc := RVolume.firm.len h.out
 have h1 := RVolume.firm.one h.out
 go_enter func221, ntmps221
 go_wp2_with fail
 refine t0 (Held w [(w.heap.size + 1, p ++ (c ++ q)), (w.heap.size, [.iface 142 (.agg #[])])] []) (HH.out.drew) (fun hH => ?_)
 refine tp 0 ?_; try go_frame
 refine' tk 1 ?_ ?_; rotate_left
 ·
  intro u hu; have hc0 := Held.cell hu 1 rfl 0 rfl; clear hu; go_simp; try with_reducible rfl
 try go_frame
 refine tp 2 ?_; try go_frame
 refine' tk 3 ?_ ?_; rotate_left
 ·
  intro u hu; have hc0 := Held.cell hu 1 rfl 0 rfl; clear hu; go_simp; try with_reducible rfl
 try go_frame
 refine tq 4 (.agg (p ++ (c ++ q)).toArray) (yieldsIf_load_mid (by rfl) 46 _ rfl (w.heap.size + 1) 0 rfl (p ++ (c ++ q)) _ (fun u hu => Held.get hu 0 rfl) underlying46 rfl hi) ?_ (hi := rfl)
 try go_frame
 refine tp 6 ?_; try go_frame
 refine tp 7 ?_; try go_frame
 refine tr 5 (fun K hK => ?_)
 refine want_yes (by rfl) (call_enter (f := 215) (args := #[.agg #[], .agg (p ++ (c ++ q)).toArray]) (by kernel_rfl) (Volume_member p c q hp hc h1 _) (fun e u1 he => ?_))
 obtain ⟨rfl, hb1⟩ := he
 have HB1 : Hid (Below w.heap.size w u1) := on2 hH.below hb1
 refine ⟨_, rfl, hK.out _ _ (hH.on hb1) (fun hH => ?_)⟩
 clear hK K
 try go_frame
 refine tr 8 (fun K hK => ?_)
 refine want_yes (by rfl) (call_enter (f := 213) (args := #[.agg #[], .agg c.toArray]) (by kernel_rfl) (Volume_blank c A x _ (RVolume.firm.kept h.out (Kept.below HB1.out))) (fun e u1 he => ?_))
 obtain ⟨rfl, hb2⟩ := he
 have HB2 : Hid (Below w.heap.size w u1) := on2 hH.below hb2
 refine ⟨_, rfl, hK.out _ _ (hH.on hb2) (fun hH => ?_)⟩
 clear hK K
 try go_frame
 refine tp 9 ?_; try go_frame
 refine tz ?_
 go_wp2_with fail
 go_ret
 exact ⟨rfl, HB2.out⟩
theorem headVolume {A : Where} {w : World} {c : List Value} {x : VolumeD} (h : RVolume A w c x) : ∃ r, c = .string x.1 :: r := by
 obtain ⟨c1, d, rfl, ⟨rfl, _⟩, _⟩ := h
 exact ⟨d, rfl⟩
theorem Volume_named (c : List Value) (A : Where) (x : VolumeD) (w : World) (h : RVolume A w c x) : Calls prog 216 #[.agg #[], .agg c.toArray] w fun e w' => e = .returned (.string x.1) ∧ Below w.heap.size w w' := by
 obtain ⟨r, rfl⟩ := headVolume h
 exact Volume_name x.1 r w
theorem Volume_kcount (h0 h1 h2 h3 h4 h5 : Hd) (w : World) : Calls prog 222 #[.agg #[.iface 142 (.agg #[])], .agg #[J h0, J h1, J h2, J h3, J h4, J h5]] w fun e w' => e = .returned (.int .i64 (h2.2.1 : Nat)) ∧ Below w.heap.size w w' := by
 have hL := Volume_list (J h0) (J h1) (J h2) (J h3) (J h4) (J h5)
 go_enter func222, ntmps222
 go_wp2_with fail
 refine (hL _).mono ?_
 rintro e w1 ⟨rfl, hb1⟩
 go_wp2_with fail
 go_ret
 exact ⟨rfl, on2 (by go_grown) hb1⟩
theorem sizClaim : (prog.info? 40).map (·.size) = some 4 := by kernel_rfl
theorem Claim_member (p c q : List Value) (hp : p.length = 31) (hc : c.length = 4) (h1 : ∀ v ∈ c, v.oneCell' = true) (w : World) : Calls prog 246 #[.agg #[], .agg (p ++ (c ++ q)).toArray] w fun e w' => e = .returned (.agg c.toArray) ∧ Below w.heap.size w w' := by
 have hi : (prog.info? 40).map (·.size) = some c.length := by rw [hc]; exact sizClaim
 have Hr : ∀ T z, Hid ((((w.alloc (.cells #[] T)).alloc (.cells (p ++ (c ++ q)).toArray 46)).alloc (.cells z 40)).rangeAt (w.heap.size + 1) 31 c) := fun T z => World.rangeAt_alloc (range_new (by simp) hp) _
 have Ht : ∀ T z, z.size = 4 → Hid ((((w.alloc (.cells #[] T)).alloc (.cells (p ++ (c ++ q)).toArray 46)).alloc (.cells z 40)).there (w.heap.size + 1 + 1) 0 c.toArray.size) := fun T z hz => there_new (by simp) (by simp [hc, hz])
 have h1' := all_oneCell_toArray h1
 have HE : Hid (c.toArray.size = 4) := by simp [Hid, hc]
 clear hp hc h1
 go_enter func246, ntmps246
 go_wp2_with (first | (refine wpList_load_mid rfl 40 _ rfl (w.heap.size + 1) 31 rfl c _ (Hr _ _).out underlying40 rfl hi ?_) | (refine wpList_store_mid rfl 40 _ _ rfl (w.heap.size + 1 + 1) 0 c.toArray rfl rfl (Ht _ _ rfl).out (by simpa using hi) h1' ?_))
 have HT := (Ht 147 #[.string ⟨#[]⟩, .int .i64 0, .string ⟨#[]⟩, .string ⟨#[]⟩] rfl).out
 refine bodyPost_ret (v := .agg c.toArray) (res_cell (p := 4) (ty := 40) rfl _ _ (w.heap.size + 1 + 1) c _ rfl (World.rangeAt_setCells_same _ _ _ _ (by simpa using HT)) underlying40 rfl hi) rfl ⟨rfl, below_setCells (by go_grown) (by omega)⟩
theorem itClaim : (prog.info? 40).map (·.size) = some 4 := by kernel_rfl
def PredClaim (g : Nat) (lb : Array Value) (p : ClaimD → Bool) (w : World) : Prop :=
 ∀ (W : World) (cs : List Value) (x : ClaimD), Below w.heap.size w W → RClaim (fun _ => True) W cs x → Calls prog g (#[.agg cs.toArray] ++ lb) W fun e w' => e = .returned (.bool (p x)) ∧ Below W.heap.size W w'
theorem IndexClaim_calls (a : Option Addr) (n cap : Nat) (A : Where) (L : List ClaimD) (w : World) (hL : Hid (SlAt RClaim 4 56 A w a n cap L)) (p : ClaimD → Bool) (g : Nat) (lb : Array Value) (eg : ∀ args w, (callFunc g args).run prog w = .ok (.enter g args) w) (hp : Hid (PredClaim g lb p w)) :
  Calls prog 266 #[.slice a n cap, .func (.func g) #[] lb] w fun e w' => ((∃ i : Nat, i < L.length ∧ p (L.getD i default) = true ∧ (∀ j, j < i → p (L.getD j default) = false) ∧ e = .returned (.int .i64 i)) ∨ ((∀ j, j < L.length → p (L.getD j default) = false) ∧ e = .returned (.int .i64 (-1)))) ∧ Below w.heap.size w w' := by
 have hlen := hL.out.len (by decide)
 have HN : Hid (L.length = n) := hL.out.1
 go_enter func266, ntmps266
 go_wp2
 go_loopw [8] (fun i wr => ∃ k : Nat, k ≤ n ∧ i = .int .i64 k ∧ Below w.heap.size w wr ∧ Hid (∀ j, j < k → p (L.getD j default) = false)) (fun i _ => n - (intOf i).toNat)
 case atStart => exact ⟨0, Nat.zero_le _, rfl, Below.refl _ _, fun j hj => absurd hj (Nat.not_lt_zero _)⟩
 case round =>
  obtain ⟨k, hk, rfl, hbel, hall⟩ := hrel
  by_cases hlt : k < n
  ·
   obtain ⟨B, off, rfl, hB, _, cs, hr, hv⟩ := (hL.out.on RClaim.firm hbel).get hlt
   have HV : Hid (wr.rangeAt B (off + k * 4) cs) := hv
   have hi : (prog.info? 40).map (·.size) = some cs.length := by rw [RClaim.firm.len hr]; exact itClaim
   have hcall := hp.out wr cs (L.getD k default) hbel (RClaim.firm.weak hr (fun _ _ _ => trivial))
   clear hv hr
   have HG : Hid (p (L.getD k default) = false → ∀ j, j < k + 1 → p (L.getD j default) = false) := fun h j hj => by
    rcases Nat.lt_succ_iff_lt_or_eq.1 hj with h' | rfl
    ·
     exact hall.out j h'
    ·
     exact h
   have HF : Hid (p (L.getD k default) = true → ∃ i : Nat, i < L.length ∧ p (L.getD i default) = true ∧ (∀ j, j < i → p (L.getD j default) = false) ∧ Ending.returned (.int .i64 k) = .returned (.int .i64 i)) := fun h => ⟨k, by rw [HN.out]; exact hlt, h, hall.out, rfl⟩
   clear hall
   generalize L.getD k default = x at hcall HG HF
   cases hq : p x
   ·
    have HG' : Hid (∀ j, j < k + 1 → p (L.getD j default) = false) := HG.out hq
    rw [hq] at hcall
    clear HG HF hq
    go_wp2_with (first | (refine wpList_load_mid rfl 40 _ rfl B (off + k * 4) rfl cs _ HV.out underlying40 rfl hi ?_) | fail)
    refine hcall.mono ?_
    rintro e w' ⟨rfl, hb'⟩
    go_wp2_with fail
    go_roundw
    case rel => exact ⟨k + 1, by omega, by go_num, on2 hbel hb', HG'⟩
    case measure => simp [intOf]; omega
   ·
    have HF' := HF.out hq
    have HF2 : Hid (∃ i : Nat, i < L.length ∧ p (L.getD i default) = true ∧ (∀ j, j < i → p (L.getD j default) = false) ∧ Ending.returned (.int .i64 k) = .returned (.int .i64 i)) := HF'
    rw [hq] at hcall
    clear HG HF hq HF'
    go_wp2_with (first | (refine wpList_load_mid rfl 40 _ rfl B (off + k * 4) rfl cs _ HV.out underlying40 rfl hi ?_) | fail)
    refine hcall.mono ?_
    rintro e w' ⟨rfl, hb'⟩
    go_wp2_with fail
    go_ret
    exact ⟨.inl HF2.out, on2 hbel hb'⟩
  ·
   have HA : Hid (∀ j, j < L.length → p (L.getD j default) = false) := fun j hj => hall.out j (by rw [HN.out] at hj; omega)
   clear hall
   go_wp2
   go_ret
   exact ⟨.inr ⟨HA.out, rfl⟩, hbel⟩
theorem ContainsClaim_calls (a : Option Addr) (n cap : Nat) (A : Where) (L : List ClaimD) (w : World) (hL : Hid (SlAt RClaim 4 56 A w a n cap L)) (p : ClaimD → Bool) (g : Nat) (lb : Array Value) (eg : ∀ args w, (callFunc g args).run prog w = .ok (.enter g args) w) (hp : Hid (PredClaim g lb p w)) :
  Calls prog 271 #[.slice a n cap, .func (.func g) #[] lb] w fun e w' => e = .returned (.bool (L.any p)) ∧ Below w.heap.size w w' := by
 have hI := IndexClaim_calls a n cap A L w hL p g lb eg hp
 go_enter func271, ntmps271
 go_wp2_with fail
 refine hI.mono ?_
 rintro e w1 ⟨⟨i, hi, hy, _, rfl⟩ | ⟨hn, rfl⟩, hb⟩
 ·
  have HA : Hid (L.any p = true) := any_yes hi hy
  clear hy
  go_wp2_with fail
  go_ret
  exact ⟨retb HA.out.symm, hb⟩
 ·
  have HA : Hid (L.any p = false) := any_no hn
  clear hn
  go_wp2_with fail
  go_ret
  exact ⟨retb HA.out.symm, hb⟩
end Go.Proofs.YtfbnnfpnjjjfcaaGreat

