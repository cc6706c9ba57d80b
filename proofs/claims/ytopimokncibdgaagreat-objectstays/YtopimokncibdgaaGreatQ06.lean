/- The small functions on which an object's rightness rests, and its like. No condition beyond what each says. -/
import Derived.Test.YtopimokncibdgaaGreatQ04
import Derived.Test.YtopimokncibdgaaGreatQ05
namespace Go.Proofs.YtopimokncibdgaaGreat
set_option maxHeartbeats 16000000
set_option maxRecDepth 100000
open Tryz Go.RowKit
set_option linter.unusedSimpArgs false
theorem calls_same {f : Nat} {args : Array Value} {w : World} {x : Ending} (h : Calls prog f args w fun e w' => e = x ∧ w' = w) : Calls prog f args w fun e w' => e = x ∧ Below w.heap.size w w' := h.mono fun _ _ ⟨h1, h2⟩ => ⟨h1, by subst h2; exact Below.refl _ _⟩
theorem within_calls (n lo hi : Int) (w : World) : Calls prog 99 #[.int .i64 n, .int .i64 lo, .int .i64 hi] w fun e w' => e = .returned (.bool (withinB n lo hi)) ∧ w' = w := by
 by_cases h1 : lo ≤ n
 ·
  have HF : Hid (withinB n lo hi = decide (n ≤ hi)) := by simp [Hid, withinB, h1]
  go_enter func99, ntmps99
  go_wp2_with fail
  go_ret
  exact ⟨retb HF.out.symm, rfl⟩
 ·
  have HF : Hid (withinB n lo hi = false) := by simp [Hid, withinB, h1]
  have h2 : decide (lo ≤ n) = false := by simp [h1]
  go_enter func99, ntmps99
  go_wp2_with fail
  go_ret
  exact ⟨retb HF.out.symm, rfl⟩
theorem clamp_calls (a : Int) (w : World) : Calls prog 134 #[.int .i64 a] w fun e w' => e = .returned (.int .i64 (min (max a 0) 1125899906842624)) ∧ w' = w := by
 go_enter func134, ntmps134
 go_wp2
 all_goals (go_ret; exact ⟨reti (by omega), rfl⟩)
theorem isAmount_calls (n : Int) (w : World) : Calls prog 120 #[.int .i64 n] w fun e w' => e = .returned (.bool (amountB n)) ∧ w' = w := by
 have hC := clamp_calls n
 have HF : Hid (amountB n = (min (max n 0) 1125899906842624 == n)) := by
  rw [Hid, amountB, Bool.eq_iff_iff]
  simp only [Bool.and_eq_true, decide_eq_true_eq, beq_iff_eq]
  omega
 generalize min (max n 0) 1125899906842624 = c at hC HF
 go_enter func120, ntmps120
 go_wp2_with fail
 refine (hC _).mono ?_
 rintro e w' ⟨rfl, rfl⟩
 go_wp2_with fail
 go_ret
 exact ⟨retb HF.out.symm, rfl⟩
theorem strs_of {A : Where} {w : World} {a : Option Addr} {n cap : Nat} {L : List ByteArray} (h : SlAt RStr 1 16 A w a n cap L) : StrsAt w a L := by
 have hl := h.len (by decide)
 obtain ⟨hn, h2, h3, h4, h5⟩ := h
 refine ⟨by omega, fun x hx => ?_, fun hne => ?_⟩
 ·
  obtain ⟨i, hi, rfl⟩ := List.mem_iff_getElem.1 hx
  obtain ⟨B, off, _, _, _, hc⟩ := h5 (by omega)
  obtain ⟨cs, hr, _⟩ := hc i (by omega)
  have := hr.2
  rwa [getE _ _ hi] at this
 ·
  have hpos : 0 < n := by
   rcases Nat.eq_zero_or_pos n with h0 | h0
   ·
    exact absurd (List.length_eq_zero_iff.1 (by omega)) hne
   ·
    exact h0
  obtain ⟨B, off, e, hB, _, hc⟩ := h5 hpos
  refine ⟨B, off, e, hB, fun i hi => ?_⟩
  obtain ⟨cs, hr, hv⟩ := hc i (by omega)
  obtain ⟨rfl, _⟩ := hr
  have := hv 0 _ rfl
  simpa using this
theorem labs_of {A : Where} {w : World} {a : Option Addr} {n cap : Nat} {L : List Lab} (h : SlAt RLabel 2 32 A w a n cap L) : LabsAt w a L := by
 have hl := h.len (by decide)
 obtain ⟨hn, h2, h3, h4, h5⟩ := h
 refine ⟨by omega, fun x hx => ?_, fun hne => ?_⟩
 ·
  obtain ⟨i, hi, rfl⟩ := List.mem_iff_getElem.1 hx
  obtain ⟨B, off, _, _, _, hc⟩ := h5 (by omega)
  obtain ⟨cs, hr, _⟩ := hc i (by omega)
  have := hr.out.2
  rwa [getE _ _ hi] at this
 ·
  have hpos : 0 < n := by
   rcases Nat.eq_zero_or_pos n with h0 | h0
   ·
    exact absurd (List.length_eq_zero_iff.1 (by omega)) hne
   ·
    exact h0
  obtain ⟨B, off, e, hB, _, hc⟩ := h5 hpos
  refine ⟨B, off, e, hB, fun i hi => ?_⟩
  obtain ⟨cs, hr, hv⟩ := hc i (by omega)
  obtain ⟨rfl, _⟩ := hr.out
  exact ⟨by simpa using hv 0 _ rfl, by simpa using hv 1 _ rfl⟩
theorem asks_of {A : Where} {w : World} {a : Option Addr} {n cap : Nat} {L : List Ask} (h : SlAt RReq 3 48 A w a n cap L) : AsksAt w a L := by
 have hl := h.len (by decide)
 obtain ⟨hn, h2, h3, h4, h5⟩ := h
 refine ⟨by omega, fun x hx => ?_, fun hne => ?_⟩
 ·
  obtain ⟨i, hi, rfl⟩ := List.mem_iff_getElem.1 hx
  obtain ⟨B, off, _, _, _, hc⟩ := h5 (by omega)
  obtain ⟨cs, hr, _⟩ := hc i (by omega)
  obtain ⟨_, _, hs, _⟩ := hr.out
  rwa [getE _ _ hi] at hs
 ·
  have hpos : 0 < n := by
   rcases Nat.eq_zero_or_pos n with h0 | h0
   ·
    exact absurd (List.length_eq_zero_iff.1 (by omega)) hne
   ·
    exact h0
  obtain ⟨B, off, e, hB, _, hc⟩ := h5 hpos
  refine ⟨B, off, e, hB, fun i hi => ?_⟩
  obtain ⟨cs, hr, hv⟩ := hc i (by omega)
  obtain ⟨h2, rfl, _, hs⟩ := hr.out
  refine ⟨by simpa using hv 0 _ rfl, by simpa using hv 1 _ rfl, h2.1, h2.2.2, ?_, strs_of hs⟩
  have := hv 2 _ rfl
  rw [← hs.1] at this
  simpa using this
theorem areReqs_calls (a : Option Addr) (n cap : Nat) (A : Where) (R : List Ask) (w : World) (h : Hid (SlAt RReq 3 48 A w a n cap R)) : Calls prog 101 #[.slice a n cap] w fun e w' => e = .returned (.bool (reqsB R)) ∧ Below w.heap.size w w' := by
 have hn := h.out.1
 subst hn
 have hC := CheckReqs_calls a cap R w (asks_of h.out)
 have HF : Hid (reqsB R = (checkR R == 0)) := rfl
 generalize checkR R = c at hC HF
 go_enter func101, ntmps101
 go_wp2_with fail
 refine hC.mono ?_
 rintro e w1 ⟨rfl, hb⟩
 go_wp2_with fail
 go_ret
 exact ⟨retb HF.out.symm, hb⟩
theorem isNameOrNone_calls (s : ByteArray) (w : World) : Calls prog 115 #[.string s] w fun e w' => e = .returned (.bool (nameNone s)) ∧ w' = w := by
 have hW := Word_calls s
 cases hs : sNil s
 ·
  have HF : Hid (nameNone s = wordB s) := by simp [Hid, nameNone, hs]
  unfold sNil at hs
  generalize wordB s = b at hW HF
  go_enter func115, ntmps115
  go_wp2_with fail
  refine (hW _).mono ?_
  rintro e w' ⟨rfl, rfl⟩
  go_wp2_with fail
  go_ret
  exact ⟨retb HF.out.symm, rfl⟩
 ·
  have HF : Hid (nameNone s = true) := by simp [Hid, nameNone, hs]
  unfold sNil at hs
  clear hW
  go_enter func115, ntmps115
  go_wp2_with fail
  go_ret
  exact ⟨retb HF.out.symm, rfl⟩
theorem itPod : (prog.info? 33).map (·.size) = some 16 := by kernel_rfl
def PredPod (g : Nat) (lb : Array Value) (p : PodD → Bool) (w : World) : Prop :=
 ∀ (W : World) (cs : List Value) (x : PodD), Below w.heap.size w W → RPod (fun _ => True) W cs x → Calls prog g (#[.agg cs.toArray] ++ lb) W fun e w' => e = .returned (.bool (p x)) ∧ Below W.heap.size W w'
theorem IndexPod_calls (a : Option Addr) (n cap : Nat) (A : Where) (L : List PodD) (w : World) (hL : Hid (SlAt RPod 16 296 A w a n cap L)) (p : PodD → Bool) (g : Nat) (lb : Array Value) (eg : ∀ args w, (callFunc g args).run prog w = .ok (.enter g args) w) (hp : Hid (PredPod g lb p w)) :
  Calls prog 168 #[.slice a n cap, .func (.func g) #[] lb] w fun e w' => ((∃ i : Nat, i < L.length ∧ p (L.getD i default) = true ∧ (∀ j, j < i → p (L.getD j default) = false) ∧ e = .returned (.int .i64 i)) ∨ ((∀ j, j < L.length → p (L.getD j default) = false) ∧ e = .returned (.int .i64 (-1)))) ∧ Below w.heap.size w w' := by
 have hlen := hL.out.len (by decide)
 have HN : Hid (L.length = n) := hL.out.1
 go_enter func168, ntmps168
 go_wp2
 go_loopw [8] (fun i wr => ∃ k : Nat, k ≤ n ∧ i = .int .i64 k ∧ Below w.heap.size w wr ∧ Hid (∀ j, j < k → p (L.getD j default) = false)) (fun i _ => n - (intOf i).toNat)
 case atStart => exact ⟨0, Nat.zero_le _, rfl, Below.refl _ _, fun j hj => absurd hj (Nat.not_lt_zero _)⟩
 case round =>
  obtain ⟨k, hk, rfl, hbel, hall⟩ := hrel
  by_cases hlt : k < n
  ·
   obtain ⟨B, off, rfl, hB, _, cs, hr, hv⟩ := (hL.out.on RPod.firm hbel).get hlt
   have HV : Hid (wr.rangeAt B (off + k * 16) cs) := hv
   have hi : (prog.info? 33).map (·.size) = some cs.length := by rw [RPod.firm.len hr]; exact itPod
   have hcall := hp.out wr cs (L.getD k default) hbel (RPod.firm.weak hr (fun _ _ _ => trivial))
   clear hv hr
   have HG : Hid (p (L.getD k default) = false → ∀ j, j < k + 1 → p (L.getD j default) = false) := fun h j hj => by
    rcases Nat.lt_succ_iff_lt_or_eq.1 hj with h' | rfl
    ·
     exact hall.out j h'
    ·
     exact h
   have HF : Hid (p (L.getD k default) = true → ∃ i : Nat, i < L.length ∧ p (L.getD i default) = true ∧ (∀ j, j < i → p (L.getD j default) = false) ∧ Ending.returned (.int .i64 k) = .returned (.int .i64 i)) := fun h => ⟨k, by rw [HN.out]; exact hlt, h, hall.out, rfl⟩
   clear hall
   generalize L.getD k default = x at hcall HG HF
   cases hq : p x
   ·
    have HG' : Hid (∀ j, j < k + 1 → p (L.getD j default) = false) := HG.out hq
    rw [hq] at hcall
    clear HG HF hq
    go_wp2_with (first | (refine wpList_load_mid rfl 33 _ rfl B (off + k * 16) rfl cs _ HV.out underlying33 rfl hi ?_) | fail)
    refine hcall.mono ?_
    rintro e w' ⟨rfl, hb'⟩
    go_wp2_with fail
    go_roundw
    case rel => exact ⟨k + 1, by omega, by go_num, on2 hbel hb', HG'⟩
    case measure => simp [intOf]; omega
   ·
    have HF' := HF.out hq
    have HF2 : Hid (∃ i : Nat, i < L.length ∧ p (L.getD i default) = true ∧ (∀ j, j < i → p (L.getD j default) = false) ∧ Ending.returned (.int .i64 k) = .returned (.int .i64 i)) := HF'
    rw [hq] at hcall
    clear HG HF hq HF'
    go_wp2_with (first | (refine wpList_load_mid rfl 33 _ rfl B (off + k * 16) rfl cs _ HV.out underlying33 rfl hi ?_) | fail)
    refine hcall.mono ?_
    rintro e w' ⟨rfl, hb'⟩
    go_wp2_with fail
    go_ret
    exact ⟨.inl HF2.out, on2 hbel hb'⟩
  ·
   have HA : Hid (∀ j, j < L.length → p (L.getD j default) = false) := fun j hj => hall.out j (by rw [HN.out] at hj; omega)
   clear hall
   go_wp2
   go_ret
   exact ⟨.inr ⟨HA.out, rfl⟩, hbel⟩
theorem ContainsPod_calls (a : Option Addr) (n cap : Nat) (A : Where) (L : List PodD) (w : World) (hL : Hid (SlAt RPod 16 296 A w a n cap L)) (p : PodD → Bool) (g : Nat) (lb : Array Value) (eg : ∀ args w, (callFunc g args).run prog w = .ok (.enter g args) w) (hp : Hid (PredPod g lb p w)) :
  Calls prog 173 #[.slice a n cap, .func (.func g) #[] lb] w fun e w' => e = .returned (.bool (L.any p)) ∧ Below w.heap.size w w' := by
 have hI := IndexPod_calls a n cap A L w hL p g lb eg hp
 go_enter func173, ntmps173
 go_wp2_with fail
 refine hI.mono ?_
 rintro e w1 ⟨⟨i, hi, hy, _, rfl⟩ | ⟨hn, rfl⟩, hb⟩
 ·
  have HA : Hid (L.any p = true) := any_yes hi hy
  clear hy
  go_wp2_with fail
  go_ret
  exact ⟨retb HA.out.symm, hb⟩
 ·
  have HA : Hid (L.any p = false) := any_no hn
  clear hn
  go_wp2_with fail
  go_ret
  exact ⟨retb HA.out.symm, hb⟩
theorem infPod : (prog.info? 33).map (fun i => (i.zero, i.size, i.bytes)) = some (some (.agg #[.string ⟨#[]⟩, .int .i64 0, Z, .int .i64 0, .int .i64 0, .int .i64 0, Z, Z, Z, Z, Z, Z, Z, Z, .string ⟨#[]⟩, .string ⟨#[]⟩]), 16, 296) := by kernel_rfl
theorem InsEndPod (B n vb : Nat) (v : Value) (xs vs : List Value) (w : World) (hown : Hid (w.ownsRow B 33 16 v n xs)) (hB : B ≤ w.heap.size) (hvs : Hid (w.rangeAt vb 0 vs)) (hvl : vs.length = 16) (h1v : ∀ u ∈ vs, u.oneCell' = true) (hbig : (n + 1) * 296 ≤ 140737488355328) :
  Calls prog 163 #[v, .int .i64 n, .slice (some ⟨vb, 0, none⟩) 1 1] w fun e w' => ∃ v', e = .returned v' ∧ w'.ownsRow B 33 16 v' (n + 1) (xs ++ vs) ∧ w.grownBy w' v.ownBlock ∧ (v'.ownBlock = v.ownBlock ∨ v'.ownBlock = some w.heap.size) := by
 obtain ⟨i0, hi0, hz0, hzs, hzb⟩ := info_parts infPod
 obtain ⟨v', w', hr, h2, h3, _, h5⟩ := run_append_own_at (P := prog) w B 54 54 33 i0 _ 16 296 underlying54 hi0 hz0 hzs hzb rfl (by decide) v n xs hown.out ⟨vb, 0, none⟩ 1 1 vs (by rw [hvl]) (fun j u hj => by rw [add_lit]; exact hvs.out j u hj) h1v (by unfold maxLen; omega) hbig hB
 have HR : Hid ((Builtin.append_ #[54, 54] 54 #[v, .slice (some ⟨vb, 0, none⟩) 1 1]).run prog w = .ok v' w') := hr
 have HP : Hid (w'.ownsRow B 33 16 v' (n + 1) (xs ++ vs) ∧ w.grownBy w' v.ownBlock ∧ (v'.ownBlock = v.ownBlock ∨ v'.ownBlock = some w.heap.size)) := ⟨h2, h3, h5⟩
 clear hr h2 h3 h5 hvs h1v hi0 hz0 hzs hzb
 obtain ⟨_, ⟨rfl, rfl⟩ | ⟨g, cap, cur, rfl, _, _, hcp, hcm, _⟩⟩ := hown.out
 ·
  clear hown
  go_enter func163, ntmps163
  go_wp2_with (at_builtin; refine wpList_append_run' _ rfl _ _ 54 54 rfl _ _ rfl rfl HR.out ?_)
  all_goals (go_ret; exact ⟨_, rfl, HP.out⟩)
 ·
  clear hown
  unfold maxLen at hcm
  go_enter func163, ntmps163
  go_wp2_with (at_builtin; refine wpList_append_run' _ rfl _ _ 54 54 rfl _ _ rfl rfl HR.out ?_)
  all_goals (go_ret; exact ⟨_, rfl, HP.out⟩)
theorem InsShiftPod (g cap n i vb : Nat) (cur : Array Value) (xs vs : List Value) (w : World) (hi : i < n) (hroom : n + 1 ≤ cap) (hcm : cap ≤ 9223372036854775807) (hvb : vb ≠ g)
  (hg : w.heap[g]? = some (.cells cur 33 (0, 0))) (hsz : cur.size = cap * 16) (htk : cur.toList.take (n * 16) = xs) (h1c : ∀ u ∈ xs, u.oneCell' = true)
  (hvs : w.heap[vb]? = some (.cells vs.toArray 33 (0, 0))) (hvl : vs.length = 16) (h1v : ∀ u ∈ vs, u.oneCell' = true) :
  Calls prog 163 #[.slice (some ⟨g, 0, none⟩) n cap, .int .i64 i, .slice (some ⟨vb, 0, none⟩) 1 1] w fun e w' => e = .returned (.slice (some ⟨g, 0, none⟩) (n + 1) cap) ∧ w' = (w.drew.setCells g ((i + 1) * 16) (xs.drop (i * 16))).setCells g (i * 16) vs := by
 have hz2 : ¬ ((i : Int) = (n : Int)) := by omega
 have hw1 : IntKind.i64.wrap ((i : Int) + 1) = (i : Int) + 1 := by rw [IntKind.wrap_i64]; omega
 have hb1 : (0 : Int) ≤ (i : Int) + 1 := by omega
 have hin : i ≤ n := by omega
 have htn : ((i : Int) + 1).toNat = i + 1 := by omega
 have hb2 : ¬ (cap = i + 1) := by omega
 have hb3 : (i : Int) ≤ (n : Int) + 1 := by omega
 have hb4 : ¬ (cap = i) := by omega
 have hkn : (i + 1) * 16 ≤ n * 16 := Nat.mul_le_mul_right _ hi
 have hkc : (n + 1) * 16 ≤ cap * 16 := Nat.mul_le_mul_right _ hroom
 have hxl : xs.length = n * 16 := by rw [← htk, List.length_take, Array.length_toList, hsz]; omega
 have hdl : (xs.drop (i * 16)).length = (n - i) * 16 := by rw [List.length_drop, hxl, Nat.sub_mul]
 have HOV : Hid (∀ lb cb, (callFunc 170 #[.slice (some ⟨vb, 0, none⟩) 1 1, .slice (some ⟨g, (i + 1) * 16, none⟩) lb cb]).run prog w = .ok (.value (.bool false)) w) := fun lb cb => by
  rw [run_callFunc_extern func170 (by kernel_rfl) (by kernel_rfl) (by kernel_rfl) (e := Extern.SlicesOverlaps.overlaps #[54, 54] #[4]) (by kernel_rfl),
   Lib.run_overlaps_apart w 54 4 33 underlying54 16 Tryz.sizeOf33 ⟨vb, 0, none⟩ ⟨g, (i + 1) * 16, none⟩ 1 1 lb cb hvb _ _ _ _ (shape_cells hvs) (shape_cells hg) (by rw [hsz]; omega) (row_frozen hvs) (row_frozen hvs)]
  rfl
 have hcell : ∀ j, j < cap * 16 → (w.cell? ⟨g, j, none⟩).isSome = true := fun j hj => by
  rw [row_cell hg, List.getElem?_eq_getElem (by simp; omega)]; rfl
 have hxs : ∀ j u, xs[j]? = some u → w.cell? ⟨g, j, none⟩ = some u := fun j u hj => by
  have hjl : j < n * 16 := by
   have := (List.getElem?_eq_some_iff.1 hj).1
   omega
  rw [row_cell hg, ← hj, ← htk, List.getElem?_take, if_pos hjl]
 have HC1 : Hid (∀ ty dc sc, (Builtin.copy_ #[54, 54] ty #[.slice (some ⟨g, (i + 1) * 16, none⟩) (n - i) dc, .slice (some ⟨g, i * 16, none⟩) (n + 1 - i) sc]).run prog w.drew = .ok (goInt (Nat.min (n + 1 - i) (n - i))) (w.drew.setCells g ((i + 1) * 16) (xs.drop (i * 16)))) := fun ty dc sc =>
  run_copy_k w.drew _ _ ty 33 16 g ((i + 1) * 16) (n - i) dc ⟨g, i * 16, none⟩ (n + 1 - i) sc (xs.drop (i * 16)) underlying54 itPod (by rw [hdl]; simp only [Nat.min_def]; split <;> omega)
   (fun j u hj => by rw [add_lit]; exact hxs _ u (by rwa [List.getElem?_drop] at hj))
   (fun j hj => hcell _ (by rw [hdl] at hj; rw [Nat.sub_mul] at hj; rw [Nat.add_mul] at hkc ⊢; omega)) (fun j _ => row_frozen (w := w.drew) hg) (fun u hu => h1c u (List.mem_of_mem_drop hu))
 obtain ⟨W1, hW1⟩ : ∃ W1, W1 = w.drew.setCells g ((i + 1) * 16) (xs.drop (i * 16)) := ⟨_, rfl⟩
 obtain ⟨cur1, hg1, hs1, _⟩ := row_setCells g 33 (xs.drop (i * 16)) ((i + 1) * 16) w.drew cur hg (by rw [hdl, hsz, Nat.sub_mul, Nat.add_mul]; rw [Nat.add_mul] at hkc hkn; omega)
 have hvs1 : W1.heap[vb]? = some (.cells vs.toArray 33 (0, 0)) := by
  rw [hW1, (grown_setCells (w := w.drew) (g := g) _ _).block vb (lt_of_heap hvs) (by simpa using hvb)]
  exact hvs
 rw [← hW1] at hg1
 have HC2 : Hid (∀ ty dc, (Builtin.copy_ #[54, 54] ty #[.slice (some ⟨g, i * 16, none⟩) (n + 1 - i) dc, .slice (some ⟨vb, 0, none⟩) 1 1]).run prog W1 = .ok (goInt (Nat.min 1 (n + 1 - i))) (W1.setCells g (i * 16) vs)) := fun ty dc =>
  run_copy_k W1 _ _ ty 33 16 g (i * 16) (n + 1 - i) dc ⟨vb, 0, none⟩ 1 1 vs underlying54 itPod (by rw [hvl]; simp only [Nat.min_def]; split <;> omega)
   (fun j u hj => by rw [add_lit, row_cell hvs1]; simpa using hj)
   (fun j hj => by rw [row_cell hg1, List.getElem?_eq_getElem (by rw [hvl] at hj; rw [Array.length_toList, hs1, hsz]; rw [Nat.add_mul] at hkn; omega)]; rfl) (fun j _ => row_frozen hg1) h1v
 have HW : Hid (W1 = w.drew.setCells g ((i + 1) * 16) (xs.drop (i * 16))) := hW1
 have HC1' : Hid (∀ ty dc sc, (Builtin.copy_ #[54, 54] ty #[.slice (some ⟨g, (i + 1) * 16, none⟩) (n - i) dc, .slice (some ⟨g, i * 16, none⟩) (n + 1 - i) sc]).run prog w.drew = .ok (goInt (Nat.min (n + 1 - i) (n - i))) W1) := by
  intro ty dc sc; rw [hW1]; exact HC1.out ty dc sc
 rw [← hW1]
 clear hg hsz htk h1c hvs hvl h1v hkn hkc hxl hdl hcell hxs HC1 hW1 hg1 hs1 hvs1
 go_enter func163, ntmps163
 go_wp2_with fail
 simp only [HOV.out]
 go_wp2_with fail
 refine wp_region_noPanic ?_
 refine wp_region_held_drew (S := fun _ => True) (by kernel_rfl) (trivial) (fun hH => ?_)
 refine tp 0 ?_
 try go_frame
 refine tp 1 ?_
 try go_frame
 refine tp 2 ?_
 try go_frame
 refine tp 3 ?_
 try go_frame
 refine tp 4 ?_
 try go_frame
 refine tp 5 ?_
 try go_frame
 refine tp 6 ?_
 try go_frame
 refine tp 7 ?_
 try go_frame
 first | refine tr 8 (fun K hK => ?_) | refine ts 8 (fun K hK => ?_)
 refine want_yes (by rfl) (wp_copy_run _ _ _ 54 54 rfl _ _ rfl rfl (HC1'.out _ _ _) ?_)
 refine hK.out _ _ trivial (fun hH => ?_)
 clear hK K
 try go_frame
 refine wpAnyH_done (by kernel_rfl) ?_ _
 refine NoPanic.normal ?_
 go_wp2_with fail
 rw [HC2.out]
 go_wp2_with fail
 go_ret
 exact ⟨rfl, rfl⟩
theorem InsGrowPod (g cap n i vb : Nat) (cur : Array Value) (xs vs : List Value) (w : World) (hi : i < n) (hnc : n ≤ cap) (hroom : cap < n + 1) (hbig : (n + 1) * 296 ≤ 140737488355328)
  (hg : w.heap[g]? = some (.cells cur 33 (0, 0))) (hsz : cur.size = cap * 16) (htk : cur.toList.take (n * 16) = xs) (h1c : ∀ u ∈ xs, u.oneCell' = true)
  (hvs : w.heap[vb]? = some (.cells vs.toArray 33 (0, 0))) (hvl : vs.length = 16) (h1v : ∀ u ∈ vs, u.oneCell' = true) :
  Calls prog 163 #[.slice (some ⟨g, 0, none⟩) n cap, .int .i64 i, .slice (some ⟨vb, 0, none⟩) 1 1] w fun e w' => ∃ G, n + 1 ≤ G ∧ G ≤ maxLen ∧ e = .returned (.slice (some ⟨w.heap.size, 0, none⟩) (n + 1) G) ∧ ∃ row : Array Value, row.size = G * 16 ∧ row.toList.take ((n + 1) * 16) = xs.take (i * 16) ++ vs ++ xs.drop (i * 16) ∧ w'.heap[w.heap.size]? = some (.cells row 33 (0, 0)) ∧ w.grownBy w' none := by
 obtain ⟨i0, hi0, hz0, hzs, hzb⟩ := info_parts infPod
 have hz2 : ¬ ((i : Int) = (n : Int)) := by omega
 have hz3 : (cap : Int) < (n : Int) + 1 := by omega
 have hw1 : IntKind.i64.wrap ((i : Int) + 1) = (i : Int) + 1 := by rw [IntKind.wrap_i64]; omega
 have hb1 : (0 : Int) ≤ (i : Int) + 1 := by omega
 have hin : i ≤ n := by omega
 have htn : ((i : Int) + 1).toNat = i + 1 := by omega
 have hb3 : (i : Int) ≤ (n : Int) := by omega
 have hci : ¬ (cap = i) := by omega
 have hkn : (i + 1) * 16 ≤ n * 16 := Nat.mul_le_mul_right _ hi
 have hkc : n * 16 ≤ cap * 16 := Nat.mul_le_mul_right _ hnc
 have hxl : xs.length = n * 16 := by rw [← htk, List.length_take, Array.length_toList, hsz]; omega
 have hdl : (xs.drop (i * 16)).length = (n - i) * 16 := by rw [List.length_drop, hxl, Nat.sub_mul]
 have hxs : ∀ j u, xs[j]? = some u → w.cell? ⟨g, j, none⟩ = some u := fun j u hj => by
  have hjl : j < n * 16 := by
   have := (List.getElem?_eq_some_iff.1 hj).1
   omega
  rw [row_cell hg, ← hj, ← htk, List.getElem?_take, if_pos hjl]
 have hold : (Builtin.firstCells i0.size i (.slice (some ⟨g, 0, none⟩) i cap)).run prog w.drew = .ok (xs.take (i * 16)).toArray w.drew := by
  rw [hzs]
  exact run_firstCells_some w.drew 16 i ⟨g, 0, none⟩ i cap (xs.take (i * 16)) (by rw [List.length_take, hxl]; omega) (fun j u hj => by
   rw [add_lit, Nat.zero_add]
   rw [List.getElem?_take] at hj
   split at hj
   ·
    exact hxs j u hj
   ·
    cases hj)
 have hkk : (n : Int) + 1 - (i : Int) = ((n + 1 - i : Nat) : Int) := by omega
 have hik : i + (n + 1 - i) = n + 1 := by omega
 have hrz : ∀ ty, (Builtin.append_ #[54, 3] ty #[.slice (some ⟨g, 0, none⟩) i cap, .int .i64 ((n : Int) + 1 - (i : Int))]).run prog w =
   .ok (.slice (some ⟨w.heap.size, 0, none⟩) (n + 1) (grownCap w (n + 1) cap 33)) (w.drew.alloc (.cells ((xs.take (i * 16)).toArray ++ Builtin.zeroCells (Value.agg #[.string ⟨#[]⟩, .int .i64 0, Z, .int .i64 0, .int .i64 0, .int .i64 0, Z, Z, Z, Z, Z, Z, Z, Z, .string ⟨#[]⟩, .string ⟨#[]⟩]).cells (n + 1 - i) ++ Builtin.zeroCells (Value.agg #[.string ⟨#[]⟩, .int .i64 0, Z, .int .i64 0, .int .i64 0, .int .i64 0, Z, Z, Z, Z, Z, Z, Z, Z, .string ⟨#[]⟩, .string ⟨#[]⟩]).cells (grownCap w (n + 1) cap 33 - (n + 1))) 33)) := fun ty => by
  have h := Lib.run_append_grow_zeros w 54 3 ty 33 i0 _ .i64 .i64 underlying54 underlying3 hi0 hz0 (some ⟨g, 0, none⟩) i cap (xs.take (i * 16)) hold (n + 1 - i) (by omega) (by omega) (by omega) (by omega) (by rw [hzb]; omega) (by rw [hzb, hik]; exact growslice_fits hroom hbig)
  rw [hik] at h
  rw [hkk]
  exact h
 obtain ⟨G, hG⟩ : ∃ G, G = grownCap w (n + 1) cap 33 := ⟨_, rfl⟩
 have hGn : n + 1 ≤ G := by rw [hG]; exact grownCap_ge w _ _ _
 have hGm : G ≤ maxLen := by rw [hG]; exact grownCap_le_maxLen w (n + 1) cap 33 (by unfold maxLen; omega)
 obtain ⟨ROW, hROW⟩ : ∃ ROW : Array Value, ROW = (xs.take (i * 16)).toArray ++ Builtin.zeroCells (Value.agg #[.string ⟨#[]⟩, .int .i64 0, Z, .int .i64 0, .int .i64 0, .int .i64 0, Z, Z, Z, Z, Z, Z, Z, Z, .string ⟨#[]⟩, .string ⟨#[]⟩]).cells (n + 1 - i) ++ Builtin.zeroCells (Value.agg #[.string ⟨#[]⟩, .int .i64 0, Z, .int .i64 0, .int .i64 0, .int .i64 0, Z, Z, Z, Z, Z, Z, Z, Z, .string ⟨#[]⟩, .string ⟨#[]⟩]).cells (G - (n + 1)) := ⟨_, rfl⟩
 rw [← hG] at hrz
 rw [← hROW] at hrz
 have hRl : ROW.size = G * 16 := by
  rw [hROW]
  simp only [Array.size_append, List.size_toArray, size_zeroCells, List.length_take, hxl, Value.cells]
  simp only [List.size_toArray, List.length_cons, List.length_nil]
  omega
 have hRt : ROW.toList.take (i * 16) = xs.take (i * 16) := by
  rw [hROW, Array.toList_append, Array.toList_append, List.toList_toArray, List.append_assoc, List.take_append_of_le_length (by rw [List.length_take, hxl]; omega), List.take_take, Nat.min_self]
 obtain ⟨W1, hW1⟩ : ∃ W1, W1 = w.drew.alloc (.cells ROW 33) := ⟨_, rfl⟩
 rw [← hW1] at hrz
 have hn1 : W1.heap[w.heap.size]? = some (.cells ROW 33 (0, 0)) := by rw [hW1]; exact heap_new w.drew _ _ rfl
 have hg1 : W1.heap[g]? = some (.cells cur 33 (0, 0)) := by rw [hW1, Below.heap_alloc w.drew _ g (lt_of_heap hg)]; exact hg
 have hv1 : W1.heap[vb]? = some (.cells vs.toArray 33 (0, 0)) := by rw [hW1, Below.heap_alloc w.drew _ vb (lt_of_heap hvs)]; exact hvs
 have hgr1 : w.grownBy W1 none := ⟨by rw [hW1]; rfl, by rw [hW1]; rfl, by rw [hW1]; rfl, by rw [hW1]; simp, fun k hk _ => by rw [hW1]; exact Below.heap_alloc w.drew _ k hk⟩
 obtain ⟨row2, hn2, hs2, ht2⟩ := row_setCells w.heap.size 33 vs (i * 16) W1 ROW hn1 (by rw [hvl, hRl]; omega)
 obtain ⟨W2, hW2⟩ : ∃ W2, W2 = W1.setCells w.heap.size (i * 16) vs := ⟨_, rfl⟩
 rw [← hW2] at hn2
 have hgN : g ≠ w.heap.size := Nat.ne_of_lt (lt_of_heap hg)
 have hg2 : W2.heap[g]? = some (.cells cur 33 (0, 0)) := by
  rw [hW2, (grown_setCells (w := W1) (g := w.heap.size) _ _).block g (lt_of_heap hg1) (by simpa using hgN)]; exact hg1
 obtain ⟨row3, hn3, hs3, ht3⟩ := row_setCells w.heap.size 33 (xs.drop (i * 16)) ((i + 1) * 16) W2.drew row2 hn2 (by rw [hdl, hs2, hRl]; omega)
 obtain ⟨W3, hW3⟩ : ∃ W3, W3 = W2.drew.setCells w.heap.size ((i + 1) * 16) (xs.drop (i * 16)) := ⟨_, rfl⟩
 rw [← hW3] at hn3
 have HCA : Hid (∀ ty dc, (Builtin.copy_ #[54, 54] ty #[.slice (some ⟨w.heap.size, i * 16, none⟩) (n + 1 - i) dc, .slice (some ⟨vb, 0, none⟩) 1 1]).run prog W1 = .ok (goInt (Nat.min 1 (n + 1 - i))) W2) := fun ty dc => by
  rw [hW2]
  exact run_copy_k W1 _ _ ty 33 16 w.heap.size (i * 16) (n + 1 - i) dc ⟨vb, 0, none⟩ 1 1 vs underlying54 itPod (by rw [hvl]; simp only [Nat.min_def]; split <;> omega)
   (fun j u hj => by rw [add_lit, row_cell hv1]; simpa using hj)
   (fun j hj => by rw [row_cell hn1, List.getElem?_eq_getElem (by rw [hvl] at hj; rw [Array.length_toList, hRl]; omega)]; rfl) (fun j _ => row_frozen hn1) h1v
 have HCB : Hid (∀ ty dc sc, (Builtin.copy_ #[54, 54] ty #[.slice (some ⟨w.heap.size, (i + 1) * 16, none⟩) (n - i) dc, .slice (some ⟨g, i * 16, none⟩) (n - i) sc]).run prog W2.drew = .ok (goInt (Nat.min (n - i) (n - i))) W3) := fun ty dc sc => by
  rw [hW3]
  exact run_copy_k W2.drew _ _ ty 33 16 w.heap.size ((i + 1) * 16) (n - i) dc ⟨g, i * 16, none⟩ (n - i) sc (xs.drop (i * 16)) underlying54 itPod (by rw [hdl]; simp only [Nat.min_def]; split <;> omega)
   (fun j u hj => by
    rw [add_lit, row_cell (w := W2.drew) hg2]
    have := hxs (i * 16 + j) u (by rwa [List.getElem?_drop] at hj)
    rwa [row_cell hg] at this)
   (fun j hj => by rw [row_cell (w := W2.drew) hn2, List.getElem?_eq_getElem (by rw [hdl] at hj; rw [Array.length_toList, hs2, hRl]; omega)]; rfl) (fun j _ => row_frozen (w := W2.drew) hn2) (fun u hu => h1c u (List.mem_of_mem_drop hu))
 have HRZ : Hid (∀ ty, (Builtin.append_ #[54, 3] ty #[.slice (some ⟨g, 0, none⟩) i cap, .int .i64 ((n : Int) + 1 - (i : Int))]).run prog w = .ok (.slice (some ⟨w.heap.size, 0, none⟩) (n + 1) G) W1) := hrz
 have HP : Hid (∃ row : Array Value, row.size = G * 16 ∧ row.toList.take ((n + 1) * 16) = xs.take (i * 16) ++ vs ++ xs.drop (i * 16) ∧ W3.heap[w.heap.size]? = some (.cells row 33 (0, 0)) ∧ w.grownBy W3 none) := by
  refine ⟨row3, by rw [hs3, hs2, hRl], ?_, hn3, ?_⟩
  ·
   have e2 : row2.toList.take ((i + 1) * 16) = xs.take (i * 16) ++ vs := by
    rw [ht2, hRt]
    rw [List.take_append_of_le_length (by simp only [List.length_append, List.length_take, hxl, hvl]; omega), List.take_of_length_le (by simp only [List.length_append, List.length_take, hxl, hvl]; omega)]
   rw [ht3, e2, List.take_append_of_le_length (by simp only [List.length_append, List.length_take, hxl, hvl, hdl]; omega), List.take_of_length_le (by simp only [List.length_append, List.length_take, hxl, hvl, hdl]; omega)]
  ·
   have s1 : w.heap.size < W1.heap.size := lt_of_heap hn1
   refine ⟨?_, ?_, ?_, ?_, fun k hk _ => ?_⟩
   ·
    rw [hW3, (grown_setCells (w := W2.drew) (g := w.heap.size) _ _).os]; show W2.os = _; rw [hW2, (grown_setCells (w := W1) (g := w.heap.size) _ _).os]; exact hgr1.os
   ·
    rw [hW3, (grown_setCells (w := W2.drew) (g := w.heap.size) _ _).tape]; show W2.tape = _; rw [hW2, (grown_setCells (w := W1) (g := w.heap.size) _ _).tape]; exact hgr1.tape
   ·
    rw [hW3, (grown_setCells (w := W2.drew) (g := w.heap.size) _ _).output]; show W2.output = _; rw [hW2, (grown_setCells (w := W1) (g := w.heap.size) _ _).output]; exact hgr1.output
   ·
    rw [hW3, size_setCells]; show _ ≤ W2.heap.size; rw [hW2, size_setCells]; exact hgr1.size
   ·
    have hne : some k ≠ some w.heap.size := by simp; omega
    rw [hW3, (grown_setCells (w := W2.drew) (g := w.heap.size) _ _).block k (by show k < W2.heap.size; rw [hW2, size_setCells]; omega) hne]
    show W2.heap[k]? = _
    rw [hW2, (grown_setCells (w := W1) (g := w.heap.size) _ _).block k (by omega) hne]
    exact hgr1.block k hk (by simp)
 have hGi : ¬ (G = i) := by omega
 have hGim : ¬ (G = i + 1) := by omega
 have hG63 : G ≤ 9223372036854775807 := by unfold maxLen at hGm; exact hGm
 have HG1 : Hid (n + 1 ≤ G ∧ G ≤ maxLen) := ⟨hGn, hGm⟩
 have HW1 : Hid (W1.heap.size = W1.heap.size) := rfl
 clear hrz hold hROW hG hRl hRt hn1 hg1 hv1 hgr1 hn2 hs2 ht2 hW2 hg2 hn3 hs3 ht3 hW3 hW1 hxs hdl hxl hkn hkc hg hsz htk h1c hvs hvl h1v hi0 hz0 hzs hzb hkk hik hGm hgN HW1
 go_enter func163, ntmps163
 go_wp2_with (at_builtin; refine wpList_append_run' _ rfl _ _ 54 3 rfl _ _ rfl rfl (HRZ.out _) ?_)
 rw [HCA.out]
 go_wp2_with fail
 refine wp_region_noPanic ?_
 refine wp_region_held_drew (S := fun _ => True) (by kernel_rfl) (trivial) (fun hH => ?_)
 refine tp 0 ?_
 try go_frame
 refine tp 1 ?_
 try go_frame
 refine tp 2 ?_
 try go_frame
 refine tp 3 ?_
 try go_frame
 refine tp 4 ?_
 try go_frame
 refine tp 5 ?_
 try go_frame
 refine tp 6 ?_
 try go_frame
 refine tp 7 ?_
 try go_frame
 first | refine tr 8 (fun K hK => ?_) | refine ts 8 (fun K hK => ?_)
 refine want_yes (by rfl) (wp_copy_run _ _ _ 54 54 rfl _ _ rfl rfl (HCB.out _ _ _) ?_)
 refine hK.out _ _ trivial (fun hH => ?_)
 clear hK K
 try go_frame
 refine wpAnyH_done (by kernel_rfl) ?_ _
 refine NoPanic.normal ?_
 go_wp2_with fail
 go_ret
 exact ⟨G, HG1.out.1, HG1.out.2, rfl, HP.out⟩
theorem InsPod (B n i vb : Nat) (v : Value) (xs vs : List Value) (w : World) (hown : w.ownsRow B 33 16 v n xs) (hB : B ≤ w.heap.size) (hvs : w.heap[vb]? = some (.cells vs.toArray 33 (0, 0))) (hvo : v.ownBlock ≠ some vb) (hvl : vs.length = 16) (h1c : ∀ u ∈ xs, u.oneCell' = true) (h1v : ∀ u ∈ vs, u.oneCell' = true) (hi : i ≤ n) (hbig : (n + 1) * 296 ≤ 140737488355328) :
  Calls prog 163 #[v, .int .i64 i, .slice (some ⟨vb, 0, none⟩) 1 1] w fun e w' => ∃ v', e = .returned v' ∧ w'.ownsRow B 33 16 v' (n + 1) (xs.take (i * 16) ++ vs ++ xs.drop (i * 16)) ∧ w.grownBy w' v.ownBlock ∧ (v'.ownBlock = v.ownBlock ∨ v'.ownBlock = some w.heap.size) := by
 have hxl := hown.1
 rcases Nat.lt_or_ge i n with h | h
 ·
  obtain ⟨_, ⟨rfl, h0⟩ | ⟨g, cap, cur, rfl, hBg, hg, hcp, hcm, hsz, htk⟩⟩ := hown
  ·
   omega
  ·
   have hvb : vb ≠ g := fun e => hvo (by rw [e]; rfl)
   rcases Nat.lt_or_ge cap (n + 1) with hr | hr
   ·
    refine (InsGrowPod g cap n i vb cur xs vs w h hcp hr hbig hg hsz htk h1c hvs hvl h1v).mono ?_
    rintro e w' ⟨G, hG1, hG2, rfl, row, hr1, hr2, hr3, hgr⟩
    refine ⟨_, rfl, ⟨by simp only [List.length_append, List.length_take, List.length_drop, hvl, hxl]; omega, .inr ⟨w.heap.size, G, row, rfl, hB, hr3, hG1, hG2, hr1, hr2⟩⟩, ⟨hgr.os, hgr.tape, hgr.output, hgr.size, fun k hk _ => hgr.block k hk (by simp)⟩, .inr rfl⟩
   ·
    refine (InsShiftPod g cap n i vb cur xs vs w h hr (by unfold maxLen at hcm; exact hcm) hvb hg hsz htk h1c hvs hvl h1v).mono ?_
    rintro e w' ⟨rfl, rfl⟩
    have hkn : (i + 1) * 16 ≤ n * 16 := Nat.mul_le_mul_right _ h
    have hkc : (n + 1) * 16 ≤ cap * 16 := Nat.mul_le_mul_right _ hr
    have hdl : (xs.drop (i * 16)).length = (n - i) * 16 := by rw [List.length_drop, hxl, Nat.sub_mul]
    obtain ⟨cur1, hg1, hs1, ht1⟩ := row_setCells g 33 (xs.drop (i * 16)) ((i + 1) * 16) w.drew cur hg (by rw [hdl, hsz]; omega)
    obtain ⟨cur2, hg2, hs2, ht2⟩ := row_setCells g 33 vs (i * 16) _ cur1 hg1 (by rw [hvl, hs1, hsz]; omega)
    refine ⟨_, rfl, ⟨by simp only [List.length_append, List.length_take, List.length_drop, hvl, hxl]; omega, .inr ⟨g, cap, cur2, rfl, hBg, hg2, by omega, hcm, by rw [hs2, hs1, hsz], ?_⟩⟩, grown_trans grown_drew (grown_trans (grown_setCells _ _) (grown_setCells _ _)), .inl rfl⟩
    have hcl : cur.toList.length = cap * 16 := by rw [Array.length_toList, hsz]
    have e0 : cur.toList.take (i * 16) = xs.take (i * 16) := by rw [← htk, List.take_take]; congr 1; omega
    have e1 : cur1.toList.take (i * 16) = xs.take (i * 16) := by
     rw [ht1, List.append_assoc, List.take_append_of_le_length (by rw [List.length_take, hcl]; omega), List.take_take, show min (i * 16) ((i + 1) * 16) = i * 16 by omega, e0]
    have e2 : cur1.toList.drop (i * 16 + 16) = xs.drop (i * 16) ++ cur.toList.drop ((i + 1) * 16 + (n - i) * 16) := by
     have hl0 : (cur.toList.take ((i + 1) * 16)).length = i * 16 + 16 := by rw [List.length_take, hcl]; omega
     rw [ht1, List.append_assoc, List.drop_append_of_le_length (by omega), List.drop_of_length_le (by omega), List.nil_append, hdl]
    rw [ht2, hvl, e1, e2, ← List.append_assoc, List.take_append_of_le_length (by simp only [List.length_append, List.length_take, List.length_drop, hvl, hxl]; omega), List.take_of_length_le (by simp only [List.length_append, List.length_take, List.length_drop, hvl, hxl]; omega)]
 ·
  obtain rfl : i = n := by omega
  refine (InsEndPod B i vb v xs vs w hown hB (fun j u hj => ?_) hvl h1v hbig).mono ?_
  ·
   rw [row_cell hvs, Nat.zero_add]; simpa using hj
  ·
   rintro e w' ⟨v', rfl, h2, h3, h5⟩
   refine ⟨v', rfl, ?_, h3, h5⟩
   rw [List.take_of_length_le (by omega), List.drop_of_length_le (by omega), List.append_nil]
   exact h2
theorem zcelPod : (Builtin.zeroCells (Value.agg #[.string ⟨#[]⟩, .int .i64 0, Z, .int .i64 0, .int .i64 0, .int .i64 0, Z, Z, Z, Z, Z, Z, Z, Z, .string ⟨#[]⟩, .string ⟨#[]⟩]).cells 1).toList = [.string ⟨#[]⟩, .int .i64 0, Z, .int .i64 0, .int .i64 0, .int .i64 0, Z, Z, Z, Z, Z, Z, Z, Z, .string ⟨#[]⟩, .string ⟨#[]⟩] := by kernel_rfl
theorem zlenPod : (Builtin.zeroCells (Value.agg #[.string ⟨#[]⟩, .int .i64 0, Z, .int .i64 0, .int .i64 0, .int .i64 0, Z, Z, Z, Z, Z, Z, Z, Z, .string ⟨#[]⟩, .string ⟨#[]⟩]).cells 1).toList.length = 16 := by rw [zcelPod]; rfl
theorem zonePod : ∀ v ∈ (Builtin.zeroCells (Value.agg #[.string ⟨#[]⟩, .int .i64 0, Z, .int .i64 0, .int .i64 0, .int .i64 0, Z, Z, Z, Z, Z, Z, Z, Z, .string ⟨#[]⟩, .string ⟨#[]⟩]).cells 1).toList, v.oneCell' = true := by rw [zcelPod]; simp [Value.oneCell']
theorem DelAtPod (g cap i r : Nat) (cur : Array Value) (xs : List Value) (w : World) (hnc : i + 1 + r ≤ cap) (hcm : cap ≤ 9223372036854775807)
  (hg : w.heap[g]? = some (.cells cur 33 (0, 0))) (hsz : cur.size = cap * 16) (htk : cur.toList.take ((i + 1 + r) * 16) = xs) (h1c : ∀ u ∈ xs, u.oneCell' = true) :
  Calls prog 165 #[.slice (some ⟨g, 0, none⟩) (i + 1 + r) cap, .int .i64 i, .int .i64 ((i : Int) + 1)] w fun e w' => e = .returned (.slice (some ⟨g, 0, none⟩) (i + r) cap) ∧ w' = (w.drew.setCells g (i * 16) (xs.drop ((i + 1) * 16))).setCells g ((i + r) * 16) (Builtin.zeroCells (Value.agg #[.string ⟨#[]⟩, .int .i64 0, Z, .int .i64 0, .int .i64 0, .int .i64 0, Z, Z, Z, Z, Z, Z, Z, Z, .string ⟨#[]⟩, .string ⟨#[]⟩]).cells 1).toList := by
 have hw1 : IntKind.i64.wrap ((i : Int) + 1) = (i : Int) + 1 := by rw [IntKind.wrap_i64]; omega
 have hb1 : (0 : Int) ≤ (i : Int) + 1 := by omega
 have htn : ((i : Int) + 1).toNat = i + 1 := by omega
 have hic : i ≤ cap := by omega
 have hjc : i + 1 ≤ cap := by omega
 have hic2 : ¬ (cap = i) := by omega
 have hij : ((i : Int) == (i : Int) + 1) = false := by rw [beq_eq_false_iff_ne]; omega
 have hb5 : (i : Int) + 1 ≤ (i : Int) + 1 + (r : Int) := by omega
 have hb6 : (i : Int) + (r : Int) ≤ (i : Int) + 1 + (r : Int) := by omega
 have hb7 : (i : Int) + 1 + (r : Int) ≤ (cap : Int) := by omega
 obtain ⟨i0, hi0, hz0, hzs, hzb⟩ := info_parts infPod
 have hkc : (i + 1 + r) * 16 ≤ cap * 16 := Nat.mul_le_mul_right _ hnc
 have hxl : xs.length = (i + 1 + r) * 16 := by rw [← htk, List.length_take, Array.length_toList, hsz]; omega
 have hdl : (xs.drop ((i + 1) * 16)).length = r * 16 := by rw [List.length_drop, hxl]; omega
 have hxs : ∀ j u, xs[j]? = some u → w.cell? ⟨g, j, none⟩ = some u := fun j u hj => by
  have hjl : j < (i + 1 + r) * 16 := by
   have := (List.getElem?_eq_some_iff.1 hj).1
   omega
  rw [row_cell hg, ← hj, ← htk, List.getElem?_take, if_pos hjl]
 obtain ⟨A, hA, hsrc⟩ : ∃ A : Addr, (if cap = i + 1 then some (⟨g, 0, none⟩ : Addr) else some ⟨g, (i + 1) * 16, none⟩) = some A ∧ Hid (∀ j u, (xs.drop ((i + 1) * 16))[j]? = some u → w.drew.cell? (A.add j) = some u) := by
  by_cases h : cap = i + 1
  ·
   refine ⟨⟨g, 0, none⟩, by simp [h], fun j u hj => ?_⟩
   have := (List.getElem?_eq_some_iff.1 hj).1
   omega
  ·
   refine ⟨⟨g, (i + 1) * 16, none⟩, by simp [h], fun j u hj => ?_⟩
   rw [add_lit]
   exact hxs _ u (by rwa [List.getElem?_drop] at hj)
 have hS : ∀ c, Src prog i0.size 54 (.slice (some A) r c) r (xs.drop ((i + 1) * 16)) w.drew := fun c => by
  rw [hzs]
  exact Src.ofSlice w.drew underlying54 A r c _ hdl hsrc.out (fun u hu => h1c u (List.mem_of_mem_drop hu))
 obtain ⟨W1, hW1⟩ : ∃ W1, W1 = w.drew.setCells g (i * 16) (xs.drop ((i + 1) * 16)) := ⟨_, rfl⟩
 have HA : Hid (∀ ty c, (Builtin.append_ #[54, 54] ty #[.slice (some ⟨g, 0, none⟩) i cap, .slice (some A) r c]).run prog w.drew = .ok (.slice (some ⟨g, 0, none⟩) (i + r) cap) W1) := fun ty c => by
  have := run_append_room_src (P := prog) (w := w.drew) 54 54 ty 33 i0 underlying54 hi0 g 0 i cap (.slice (some A) r c) r (xs.drop ((i + 1) * 16)) (hS c) (by omega)
   (fun j hj => by rw [hzs, row_cell (w := w.drew) hg, List.getElem?_eq_getElem (by rw [hdl] at hj; rw [Array.length_toList, hsz]; omega)]; rfl) (fun j _ => row_frozen (w := w.drew) hg)
  rw [hzs, Nat.zero_add] at this
  rw [hW1]
  exact this
 obtain ⟨cur1, hg1, hs1, _⟩ := row_setCells g 33 (xs.drop ((i + 1) * 16)) (i * 16) w.drew cur hg (by rw [hdl, hsz]; omega)
 rw [← hW1] at hg1
 have HCL : Hid (∀ ty c, (Builtin.clear_ #[54] ty #[.slice (some ⟨g, (i + r) * 16, none⟩) 1 c]).run prog W1 = .ok (.tuple #[]) (W1.setCells g ((i + r) * 16) (Builtin.zeroCells (Value.agg #[.string ⟨#[]⟩, .int .i64 0, Z, .int .i64 0, .int .i64 0, .int .i64 0, Z, Z, Z, Z, Z, Z, Z, Z, .string ⟨#[]⟩, .string ⟨#[]⟩]).cells 1).toList)) := fun ty c =>
  run_clear_k W1 54 33 ty _ underlying54 Tryz.zeroValue33 zonePod g ((i + r) * 16) c
   (fun j hj => by rw [row_cell hg1, List.getElem?_eq_getElem (by rw [zlenPod] at hj; rw [Array.length_toList, hs1, hsz]; omega)]; rfl) (fun j _ => row_frozen hg1)
 have hcr : ¬ (cap = i + r) := by omega
 have hlr : i + 1 + r - (i + r) = 1 := by omega
 rw [← hW1]
 clear hi0 hz0 hzs hzb hkc hxl hdl hxs hsrc hS hW1 hg1 hs1 hg hsz htk h1c
 go_enter func165, ntmps165
 go_wp2_with fail
 refine wp_region_noPanic ?_
 refine wp_region_held_drew (S := fun _ => True) (by kernel_rfl) (trivial) (fun hH => ?_)
 refine tp 0 ?_
 try go_frame
 refine tp 1 ?_
 try go_frame
 refine tp 2 ?_
 try go_frame
 refine tp 3 ?_
 try go_frame
 refine tp 4 ?_
 try go_frame
 refine tp 5 ?_
 try go_frame
 first | refine tr 6 (fun K hK => ?_) | refine ts 6 (fun K hK => ?_)
 refine want_yes (by rfl) (wp_append_run _ _ _ 54 54 rfl _ _ rfl rfl (HA.out _ _) ?_)
 refine hK.out _ _ trivial (fun hH => ?_)
 clear hK K
 try go_frame
 refine tp 7 ?_
 try go_frame
 refine wpAnyH_done (by kernel_rfl) ?_ _
 refine NoPanic.normal ?_
 go_wp2_with fail
 rw [HCL.out]
 go_wp2_with fail
 go_ret
 exact ⟨rfl, rfl⟩
theorem DelPod (B n i : Nat) (v : Value) (xs : List Value) (w : World) (hown : w.ownsRow B 33 16 v n xs) (h1c : ∀ u ∈ xs, u.oneCell' = true) (hi : i < n) :
  Calls prog 165 #[v, .int .i64 i, .int .i64 ((i : Int) + 1)] w fun e w' => ∃ v', e = .returned v' ∧ w'.ownsRow B 33 16 v' (n - 1) (xs.take (i * 16) ++ xs.drop ((i + 1) * 16)) ∧ w.grownBy w' v.ownBlock ∧ v'.ownBlock = v.ownBlock := by
 have hxl := hown.1
 obtain ⟨_, ⟨rfl, h0⟩ | ⟨g, cap, cur, rfl, hBg, hg, hcp, hcm, hsz, htk⟩⟩ := hown
 ·
  omega
 obtain ⟨r, rfl⟩ : ∃ r, n = i + 1 + r := ⟨n - (i + 1), by omega⟩
 refine (DelAtPod g cap i r cur xs w hcp (by unfold maxLen at hcm; exact hcm) hg hsz htk h1c).mono ?_
 rintro e w' ⟨rfl, rfl⟩
 have hkc : (i + 1 + r) * 16 ≤ cap * 16 := Nat.mul_le_mul_right _ hcp
 have hdl : (xs.drop ((i + 1) * 16)).length = r * 16 := by rw [List.length_drop, hxl]; omega
 have hcl : cur.toList.length = cap * 16 := by rw [Array.length_toList, hsz]
 obtain ⟨cur1, hg1, hs1, ht1⟩ := row_setCells g 33 (xs.drop ((i + 1) * 16)) (i * 16) w.drew cur hg (by rw [hdl, hsz]; omega)
 obtain ⟨cur2, hg2, hs2, ht2⟩ := row_setCells g 33 (Builtin.zeroCells (Value.agg #[.string ⟨#[]⟩, .int .i64 0, Z, .int .i64 0, .int .i64 0, .int .i64 0, Z, Z, Z, Z, Z, Z, Z, Z, .string ⟨#[]⟩, .string ⟨#[]⟩]).cells 1).toList ((i + r) * 16) _ cur1 hg1 (by rw [zlenPod, hs1, hsz]; omega)
 refine ⟨_, rfl, ?_, grown_trans grown_drew (grown_trans (grown_setCells _ _) (grown_setCells _ _)), rfl⟩
 have hn : i + 1 + r - 1 = i + r := by omega
 rw [hn]
 refine ⟨by simp only [List.length_append, List.length_take, hdl, hxl]; omega, .inr ⟨g, cap, cur2, rfl, hBg, hg2, by omega, hcm, by rw [hs2, hs1, hsz], ?_⟩⟩
 have e0 : cur.toList.take (i * 16) = xs.take (i * 16) := by rw [← htk, List.take_take]; congr 1; omega
 rw [ht2, List.append_assoc, List.take_append_of_le_length (by rw [List.length_take, Array.length_toList, hs1, hsz]; omega), List.take_take, Nat.min_self, ht1, e0]
 rw [List.take_append_of_le_length (by simp only [List.length_append, List.length_take, hdl, hxl]; omega), List.take_of_length_le (by simp only [List.length_append, List.length_take, hdl, hxl]; omega)]
end Go.Proofs.YtopimokncibdgaaGreat

