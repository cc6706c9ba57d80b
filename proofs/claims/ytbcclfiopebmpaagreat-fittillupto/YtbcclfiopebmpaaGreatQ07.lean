/- slices.Index and slices.Contains at texts and at numbers tell whether it is in a list, and change nothing; slices.IndexFunc and slices.ContainsFunc at numbers, over a function that answers as is said of it. Condition: the slice lies as is said of it. quant.each with the method plus adds member by member, and changes nothing that was there. No condition. quant.each with the method minus takes away member by member, and changes nothing that was there. No condition. quant.Plus, quant.Minus and quant.Fits over amounts of several things: what they return, and that they change nothing that was there. No condition. info.Free and info.Clash. Condition: the arguments lie as is said of them. What fit's visit is, and its methods. Condition: the argument lies as is said of it. Boxes of three numbers in memory: what stays, what a store of all three leaves. Plain facts on worlds. No condition. quant.Sum, and the document's own, add up all members; they change nothing that was there. Condition: the slice holds what is said of it, and is no longer than memory allows. -/
import Derived.Test.YtbcclfiopebmpaaGreatQ05
import Derived.Test.YtbcclfiopebmpaaGreatQ06
import Derived.Test.YtbcclfiopebmpaaGreatQ04
namespace Go.Proofs.YtbcclfiopebmpaaGreat
open Go.RowKit
set_option linter.unusedSimpArgs false
set_option maxRecDepth 100000

set_option maxHeartbeats 1000000 in
theorem IndexS (a : Option Addr) (n cap : Nat) (A : Where) (L : List ByteArray) (s : ByteArray) (w : World) (hL : Hid (SlAt RStr 1 16 A w a n cap L)) : Calls Tryz.prog 37 #[.slice a n cap, .string s] w fun e w' => (∃ k : Int, e = .returned (.int .i64 k) ∧ hasB sEq L s = decide (0 ≤ k)) ∧ w' = w := by
  have hn : Hid (L.length = n) := hL.out.1
  have hlen := hL.out.len (by decide)
  go_enter Tryz.func37, Tryz.ntmps37
  go_wp2_with fail
  go_loop [8] (fun i => ∃ k : Nat, k ≤ n ∧ i = .int .i64 k ∧ Hid (hasB sEq (L.take k) s = false)) (fun i => n - (intOf i).toNat)
  case atStart => exact ⟨0, Nat.zero_le _, rfl, rfl⟩
  case round =>
    obtain ⟨k, hk, rfl, hno⟩ := hrel
    by_cases hlt : k < n
    · have hltz : (k : Int) < (n : Int) := by omega
      have hkl : k < L.length := by rw [hn.out]; exact hlt
      have HN : Hid (hasB sEq (L.take (k + 1)) s = (hasB sEq (L.take k) s || sEq (L.getD k default) s)) := hasB_succ _ _ _ hkl
      have HF : Hid (sEq (L.getD k default) s = true → hasB sEq L s = true) := hasB_found _ _ _ hkl
      obtain ⟨B, off, rfl, hB, _, cs, hr, hv⟩ := hL.out.get hlt
      obtain ⟨rfl, _⟩ := hr
      have d0 := hv 0 _ rfl
      simp only [Nat.mul_one, Nat.add_zero] at d0
      clear hv
      generalize L.getD k default = x at d0 HN HF
      cases he : sEq x s
      · have he' : (s.toList == x.toList) = false := by rw [BEq.comm]; exact he
        have HN2 : Hid (hasB sEq (L.take (k + 1)) s = false) := by rw [Hid, HN.out, hno.out, he]; rfl
        clear HN HF he
        go_wp2_with fail
        go_round
        case rel => exact ⟨k + 1, by omega, by go_num, HN2⟩
        case measure => simp [intOf]; omega
      · have he' : (s.toList == x.toList) = true := by rw [BEq.comm]; exact he
        have HT : Hid (hasB sEq L s = true) := HF.out he
        clear HN HF he
        go_wp2_with fail
        go_ret
        exact ⟨⟨k, rfl, by rw [HT.out]; simp⟩, rfl⟩
    · have hk' : L.take k = L := List.take_of_length_le (by rw [hn.out]; omega)
      rw [hk'] at hno
      have hlz : ¬ ((k : Int) < (n : Int)) := by omega
      go_wp2_with fail
      go_ret
      exact ⟨⟨-1, rfl, by rw [hno.out]; simp⟩, rfl⟩
set_option maxHeartbeats 1000000 in
theorem ContainsS (a : Option Addr) (n cap : Nat) (A : Where) (L : List ByteArray) (s : ByteArray) (w : World) (hL : Hid (SlAt RStr 1 16 A w a n cap L)) : Calls Tryz.prog 22 #[.slice a n cap, .string s] w fun e w' => e = .returned (.bool (hasB sEq L s)) ∧ w' = w := by
  have hI := IndexS a n cap A L s w hL
  generalize hasB sEq L s = b at hI ⊢
  go_enter Tryz.func22, Tryz.ntmps22
  go_wp2_with fail
  refine hI.mono ?_
  rintro e w' ⟨⟨k, rfl, rfl⟩, rfl⟩
  by_cases h0 : 0 ≤ k
  · go_wp2_with fail
    go_ret
    exact ⟨by simp [h0], rfl⟩
  · go_wp2_with fail
    go_ret
    exact ⟨by simp [h0], rfl⟩
set_option maxHeartbeats 1000000 in
theorem IndexI (a : Option Addr) (n cap : Nat) (A : Where) (L : List Int) (s : Int) (w : World) (hL : Hid (SlAt RInt 1 8 A w a n cap L)) : Calls Tryz.prog 88 #[.slice a n cap, .int .i64 s] w fun e w' => (∃ k : Int, e = .returned (.int .i64 k) ∧ hasB iEq L s = decide (0 ≤ k)) ∧ w' = w := by
  have hn : Hid (L.length = n) := hL.out.1
  have hlen := hL.out.len (by decide)
  go_enter Tryz.func88, Tryz.ntmps88
  go_wp2_with fail
  go_loop [8] (fun i => ∃ k : Nat, k ≤ n ∧ i = .int .i64 k ∧ Hid (hasB iEq (L.take k) s = false)) (fun i => n - (intOf i).toNat)
  case atStart => exact ⟨0, Nat.zero_le _, rfl, rfl⟩
  case round =>
    obtain ⟨k, hk, rfl, hno⟩ := hrel
    by_cases hlt : k < n
    · have hltz : (k : Int) < (n : Int) := by omega
      have hkl : k < L.length := by rw [hn.out]; exact hlt
      have HN : Hid (hasB iEq (L.take (k + 1)) s = (hasB iEq (L.take k) s || iEq (L.getD k default) s)) := hasB_succ _ _ _ hkl
      have HF : Hid (iEq (L.getD k default) s = true → hasB iEq L s = true) := hasB_found _ _ _ hkl
      obtain ⟨B, off, rfl, hB, _, cs, hr, hv⟩ := hL.out.get hlt
      obtain rfl := hr
      have d0 := hv 0 _ rfl
      simp only [Nat.mul_one, Nat.add_zero] at d0
      clear hv
      generalize L.getD k default = x at d0 HN HF
      cases he : iEq x s
      · have he' : ¬ s = x := fun e => by rw [e] at he; simp [iEq] at he
        have HN2 : Hid (hasB iEq (L.take (k + 1)) s = false) := by rw [Hid, HN.out, hno.out, he]; rfl
        clear HN HF he
        go_wp2_with fail
        go_round
        case rel => exact ⟨k + 1, by omega, by go_num, HN2⟩
        case measure => simp [intOf]; omega
      · obtain rfl : x = s := by simpa [iEq] using he
        have HT : Hid (hasB iEq L x = true) := HF.out he
        clear HN HF he
        go_wp2_with fail
        go_ret
        exact ⟨⟨k, rfl, by rw [HT.out]; simp⟩, rfl⟩
    · have hk' : L.take k = L := List.take_of_length_le (by rw [hn.out]; omega)
      rw [hk'] at hno
      have hlz : ¬ ((k : Int) < (n : Int)) := by omega
      go_wp2_with fail
      go_ret
      exact ⟨⟨-1, rfl, by rw [hno.out]; simp⟩, rfl⟩
set_option maxHeartbeats 1000000 in
theorem ContainsI (a : Option Addr) (n cap : Nat) (A : Where) (L : List Int) (s : Int) (w : World) (hL : Hid (SlAt RInt 1 8 A w a n cap L)) : Calls Tryz.prog 60 #[.slice a n cap, .int .i64 s] w fun e w' => e = .returned (.bool (hasB iEq L s)) ∧ w' = w := by
  have hI := IndexI a n cap A L s w hL
  generalize hasB iEq L s = b at hI ⊢
  go_enter Tryz.func60, Tryz.ntmps60
  go_wp2_with fail
  refine hI.mono ?_
  rintro e w' ⟨⟨k, rfl, rfl⟩, rfl⟩
  by_cases h0 : 0 ≤ k
  · go_wp2_with fail
    go_ret
    exact ⟨by simp [h0], rfl⟩
  · go_wp2_with fail
    go_ret
    exact ⟨by simp [h0], rfl⟩
/-- What is asked of a function that tells numbers: it answers p, and leaves all that was there. -/
def PredI (g : Nat) (lb : Array Value) (p : Int → Bool) (w : World) : Prop :=
  ∀ (W : World) (x : Int), Below w.heap.size w W → Calls Tryz.prog g (#[.int .i64 x] ++ lb) W fun e w' => e = .returned (.bool (p x)) ∧ Below W.heap.size W w'
theorem any_take (p : Int → Bool) (L : List Int) {k : Nat} (hk : k < L.length) : (L.take (k + 1)).any p = ((L.take k).any p || p (L.getD k default)) := by
  rw [← take_at hk]; simp
theorem any_found (p : Int → Bool) (L : List Int) {k : Nat} (hk : k < L.length) (h : p (L.getD k default) = true) : L.any p = true := by
  rw [List.any_eq_true]
  exact ⟨L.getD k default, by rw [getE _ _ hk]; exact List.getElem_mem hk, h⟩
set_option maxHeartbeats 2000000 in
theorem IndexFuncI (a : Option Addr) (n cap : Nat) (A : Where) (L : List Int) (w : World) (hL : Hid (SlAt RInt 1 8 A w a n cap L)) (p : Int → Bool) (g : Nat) (lb : Array Value) (eg : ∀ args w, (callFunc g args).run Tryz.prog w = .ok (.enter g args) w) (hp : Hid (PredI g lb p w)) :
    Calls Tryz.prog 87 #[.slice a n cap, .func (.func g) #[] lb] w fun e w' => (∃ k : Int, e = .returned (.int .i64 k) ∧ L.any p = decide (0 ≤ k)) ∧ Below w.heap.size w w' := by
  have hn : Hid (L.length = n) := hL.out.1
  have hlen := hL.out.len (by decide)
  go_enter Tryz.func87, Tryz.ntmps87
  go_wp2_with fail
  go_loopw [8] (fun i wr => ∃ k : Nat, k ≤ n ∧ i = .int .i64 k ∧ Below w.heap.size w wr ∧ Hid ((L.take k).any p = false)) (fun i _ => n - (intOf i).toNat)
  case atStart => exact ⟨0, Nat.zero_le _, rfl, Below.refl _ _, rfl⟩
  case round =>
    obtain ⟨k, hk, rfl, hbel, hno⟩ := hrel
    by_cases hlt : k < n
    · have hltz : (k : Int) < (n : Int) := by omega
      have hkl : k < L.length := by rw [hn.out]; exact hlt
      have HN : Hid ((L.take (k + 1)).any p = ((L.take k).any p || p (L.getD k default))) := any_take _ _ hkl
      have HF : Hid (p (L.getD k default) = true → L.any p = true) := any_found _ _ hkl
      obtain ⟨B, off, rfl, hB, _, cs, hr, hv⟩ := hL.out.get hlt
      obtain rfl := hr
      have d0 := (hbel.cell (p := ⟨B, off + k * 1 + 0, none⟩) hB).trans (hv 0 _ rfl)
      simp only [Nat.mul_one, Nat.add_zero] at d0
      clear hv
      have hcall := hp.out wr (L.getD k default) hbel
      generalize L.getD k default = x at d0 HN HF hcall
      cases he : p x
      · have HN2 : Hid ((L.take (k + 1)).any p = false) := by rw [Hid, HN.out, hno.out, he]; rfl
        rw [he] at hcall
        clear HN HF he
        go_wp2_with fail
        refine hcall.mono ?_
        rintro e w' ⟨rfl, hb'⟩
        go_wp2_with fail
        go_roundw
        case rel => exact ⟨k + 1, by omega, by go_num, on2 hbel hb', HN2⟩
        case measure => simp [intOf]; omega
      · have HT : Hid (L.any p = true) := HF.out he
        rw [he] at hcall
        clear HN HF he
        go_wp2_with fail
        refine hcall.mono ?_
        rintro e w' ⟨rfl, hb'⟩
        go_wp2_with fail
        go_ret
        exact ⟨⟨k, rfl, by rw [HT.out]; simp⟩, on2 hbel hb'⟩
    · have hk' : L.take k = L := List.take_of_length_le (by rw [hn.out]; omega)
      rw [hk'] at hno
      have hlz : ¬ ((k : Int) < (n : Int)) := by omega
      go_wp2_with fail
      go_ret
      exact ⟨⟨-1, rfl, by rw [hno.out]; simp⟩, hbel⟩
set_option maxHeartbeats 1000000 in
theorem ContainsFuncI (a : Option Addr) (n cap : Nat) (A : Where) (L : List Int) (w : World) (hL : Hid (SlAt RInt 1 8 A w a n cap L)) (p : Int → Bool) (g : Nat) (lb : Array Value) (eg : ∀ args w, (callFunc g args).run Tryz.prog w = .ok (.enter g args) w) (hp : Hid (PredI g lb p w)) :
    Calls Tryz.prog 58 #[.slice a n cap, .func (.func g) #[] lb] w fun e w' => e = .returned (.bool (L.any p)) ∧ Below w.heap.size w w' := by
  have hI := IndexFuncI a n cap A L w hL p g lb eg hp
  generalize L.any p = b at hI ⊢
  go_enter Tryz.func58, Tryz.ntmps58
  go_wp2_with fail
  refine hI.mono ?_
  rintro e w1 ⟨⟨k, rfl, rfl⟩, hb⟩
  by_cases h0 : 0 ≤ k
  · go_wp2_with fail
    go_ret
    exact ⟨by simp [h0], hb⟩
  · go_wp2_with fail
    go_ret
    exact ⟨by simp [h0], hb⟩
end Go.Proofs.YtbcclfiopebmpaaGreat
namespace Go.Proofs.YtbcclfiopebmpaaGreat
open Go.RowKit
set_option maxRecDepth 100000

set_option maxHeartbeats 4000000 in
theorem each_plus (a b c x y z : Int) (w : World) : Calls Tryz.prog 40 #[.func (.func 41) #[] #[], .agg #[.int .i64 a, .int .i64 b, .int .i64 c], .agg #[.int .i64 x, .int .i64 y, .int .i64 z]] w fun e w' => e = .returned (.agg #[.int .i64 (addI a x), .int .i64 (addI b y), .int .i64 (addI c z)]) ∧ Below w.heap.size w w' := by
  go_enter Tryz.func40, Tryz.ntmps40
  go_upto_region 1 with fail
  go_cut [7, 8] (fun p q wx => ∃ B C : Nat, p = .pointer (some ⟨B, 0, none⟩) ∧ q = .pointer (some ⟨C, 0, none⟩) ∧ w.heap.size + 1 + 1 < B ∧ w.heap.size + 1 + 1 < C ∧ B < wx.heap.size ∧ C < wx.heap.size ∧ Holds3 wx B a b c ∧ Holds3 wx C x y z ∧ Holds3 wx (w.heap.size + 1 + 1) 0 0 0 ∧ wx.frozen? ⟨w.heap.size + 1 + 1, 0, none⟩ = false ∧ wx.frozen? ⟨w.heap.size + 1 + 1, 1, none⟩ = false ∧ wx.frozen? ⟨w.heap.size + 1 + 1, 2, none⟩ = false ∧ Below w.heap.size w wx)
  case first =>
    go_region_held3 (fun w' => w'.cell? ⟨w.heap.size, 0, none⟩ = some (.int .i64 a) ∧ w'.cell? ⟨w.heap.size, 1, none⟩ = some (.int .i64 b) ∧ w'.cell? ⟨w.heap.size, 2, none⟩ = some (.int .i64 c) ∧ w'.cell? ⟨w.heap.size + 1, 0, none⟩ = some (.int .i64 x) ∧ w'.cell? ⟨w.heap.size + 1, 1, none⟩ = some (.int .i64 y) ∧ w'.cell? ⟨w.heap.size + 1, 2, none⟩ = some (.int .i64 z)) ((refine ⟨?_, ?_, ?_, ?_, ?_, ?_⟩) <;> (simp [go_sem]; done))
      (first | (go_at_call 50; refine (split_calls _ _ _ _).mono ?_; rintro e w' ⟨rfl, rfl⟩))
    all_goals
      go_wp2_with fail
      go_meet
      refine ⟨_, _, rfl, rfl, ?_, ?_, ?_, ?_, ⟨?_, ?_, ?_⟩, ⟨?_, ?_, ?_⟩, ⟨?_, ?_, ?_⟩, ?_, ?_, ?_, ?_⟩
      all_goals first | omega | (simp [go_sem]; done) | (simp [go_sem]; omega) | go_grown
  case rest =>
    obtain ⟨B, C, rfl, rfl, hB, hC, hBl, hCl, ⟨hB0, hB1, hB2⟩, ⟨hC0, hC1, hC2⟩, ⟨hR0, hR1, hR2⟩, hf0, hf1, hf2, hbel⟩ := hcut
    have hRl : w.heap.size + 1 + 1 < wc.heap.size := by omega
    go_wp2_with fail
    refine wp_loop_rounds 4 ?_
    rw [rounds_succ]
    go_wp2_with fail
    go_region_held3 (fun w' => w'.cell? ⟨B, 0, none⟩ = some (.int .i64 a) ∧ w'.cell? ⟨B, 1, none⟩ = some (.int .i64 b) ∧ w'.cell? ⟨B, 2, none⟩ = some (.int .i64 c) ∧ w'.cell? ⟨C, 0, none⟩ = some (.int .i64 x) ∧ w'.cell? ⟨C, 1, none⟩ = some (.int .i64 y) ∧ w'.cell? ⟨C, 2, none⟩ = some (.int .i64 z)) ((refine ⟨?_, ?_, ?_, ?_, ?_, ?_⟩) <;> (simp [*, go_sem]; done))
      (first | (go_at_call 41; refine (plus_calls _ _ _).mono ?_; rintro e w' ⟨rfl, rfl⟩))
    rename_i hHeld1
    clear hHeld1
    go_wp2_with fail
    rw [rounds_succ]
    go_wp2_with fail
    go_region_held3 (fun w' => w'.cell? ⟨B, 0, none⟩ = some (.int .i64 a) ∧ w'.cell? ⟨B, 1, none⟩ = some (.int .i64 b) ∧ w'.cell? ⟨B, 2, none⟩ = some (.int .i64 c) ∧ w'.cell? ⟨C, 0, none⟩ = some (.int .i64 x) ∧ w'.cell? ⟨C, 1, none⟩ = some (.int .i64 y) ∧ w'.cell? ⟨C, 2, none⟩ = some (.int .i64 z)) ((refine ⟨?_, ?_, ?_, ?_, ?_, ?_⟩) <;> (simp [*, go_sem]; done))
      (first | (go_at_call 41; refine (plus_calls _ _ _).mono ?_; rintro e w' ⟨rfl, rfl⟩))
    rename_i hHeld1
    clear hHeld1
    go_wp2_with fail
    rw [rounds_succ]
    go_wp2_with fail
    go_region_held3 (fun w' => w'.cell? ⟨B, 0, none⟩ = some (.int .i64 a) ∧ w'.cell? ⟨B, 1, none⟩ = some (.int .i64 b) ∧ w'.cell? ⟨B, 2, none⟩ = some (.int .i64 c) ∧ w'.cell? ⟨C, 0, none⟩ = some (.int .i64 x) ∧ w'.cell? ⟨C, 1, none⟩ = some (.int .i64 y) ∧ w'.cell? ⟨C, 2, none⟩ = some (.int .i64 z)) ((refine ⟨?_, ?_, ?_, ?_, ?_, ?_⟩) <;> (simp [*, go_sem]; done))
      (first | (go_at_call 41; refine (plus_calls _ _ _).mono ?_; rintro e w' ⟨rfl, rfl⟩))
    rename_i hHeld1
    clear hHeld1
    go_wp2_with fail
    rw [rounds_succ]
    go_wp2_with fail
    refine (join_below _ _ _ _).mono ?_
    rintro e w1 ⟨rfl, hb⟩
    have hb' : Below wc.heap.size wc w1 := (((((Below.refl wc.heap.size wc).alloc (Nat.le_refl _) _).drew).drew).drew).trans (hb.mono (by simp))
    have r0 := (hb'.cell (p := ⟨w.heap.size + 1 + 1, 0, none⟩) hRl).trans hR0
    have r1 := (hb'.cell (p := ⟨w.heap.size + 1 + 1, 1, none⟩) hRl).trans hR1
    have r2 := (hb'.cell (p := ⟨w.heap.size + 1 + 1, 2, none⟩) hRl).trans hR2
    have f0 := (hb'.frozen (p := ⟨w.heap.size + 1 + 1, 0, none⟩) hRl).trans hf0
    have f1 := (hb'.frozen (p := ⟨w.heap.size + 1 + 1, 1, none⟩) hRl).trans hf1
    have f2 := (hb'.frozen (p := ⟨w.heap.size + 1 + 1, 2, none⟩) hRl).trans hf2
    have hz : Below w.heap.size w w1 := hbel.trans (hb'.mono hbel.size)
    clear hb hb' hR0 hR1 hR2 hf0 hf1 hf2
    go_wp2_with fail
    exact bodyPost_ret (v := .agg #[.int .i64 (addI a x), .int .i64 (addI b y), .int .i64 (addI c z)]) (by simp [results, Tryz.results40, go_sem, r0, r1, r2]) rfl ⟨rfl, ((hz.setCell (by simp; omega) _).setCell (by simp; omega) _).setCell (by simp; omega) _⟩
end Go.Proofs.YtbcclfiopebmpaaGreat
namespace Go.Proofs.YtbcclfiopebmpaaGreat
open Go.RowKit
set_option maxRecDepth 100000

set_option maxHeartbeats 4000000 in
theorem each_minus (a b c x y z : Int) (w : World) : Calls Tryz.prog 40 #[.func (.func 54) #[] #[], .agg #[.int .i64 a, .int .i64 b, .int .i64 c], .agg #[.int .i64 x, .int .i64 y, .int .i64 z]] w fun e w' => e = .returned (.agg #[.int .i64 (subI a x), .int .i64 (subI b y), .int .i64 (subI c z)]) ∧ Below w.heap.size w w' := by
  go_enter Tryz.func40, Tryz.ntmps40
  go_upto_region 1 with fail
  go_cut [7, 8] (fun p q wx => ∃ B C : Nat, p = .pointer (some ⟨B, 0, none⟩) ∧ q = .pointer (some ⟨C, 0, none⟩) ∧ w.heap.size + 1 + 1 < B ∧ w.heap.size + 1 + 1 < C ∧ B < wx.heap.size ∧ C < wx.heap.size ∧ Holds3 wx B a b c ∧ Holds3 wx C x y z ∧ Holds3 wx (w.heap.size + 1 + 1) 0 0 0 ∧ wx.frozen? ⟨w.heap.size + 1 + 1, 0, none⟩ = false ∧ wx.frozen? ⟨w.heap.size + 1 + 1, 1, none⟩ = false ∧ wx.frozen? ⟨w.heap.size + 1 + 1, 2, none⟩ = false ∧ Below w.heap.size w wx)
  case first =>
    go_region_held3 (fun w' => w'.cell? ⟨w.heap.size, 0, none⟩ = some (.int .i64 a) ∧ w'.cell? ⟨w.heap.size, 1, none⟩ = some (.int .i64 b) ∧ w'.cell? ⟨w.heap.size, 2, none⟩ = some (.int .i64 c) ∧ w'.cell? ⟨w.heap.size + 1, 0, none⟩ = some (.int .i64 x) ∧ w'.cell? ⟨w.heap.size + 1, 1, none⟩ = some (.int .i64 y) ∧ w'.cell? ⟨w.heap.size + 1, 2, none⟩ = some (.int .i64 z)) ((refine ⟨?_, ?_, ?_, ?_, ?_, ?_⟩) <;> (simp [go_sem]; done))
      (first | (go_at_call 50; refine (split_calls _ _ _ _).mono ?_; rintro e w' ⟨rfl, rfl⟩))
    all_goals
      go_wp2_with fail
      go_meet
      refine ⟨_, _, rfl, rfl, ?_, ?_, ?_, ?_, ⟨?_, ?_, ?_⟩, ⟨?_, ?_, ?_⟩, ⟨?_, ?_, ?_⟩, ?_, ?_, ?_, ?_⟩
      all_goals first | omega | (simp [go_sem]; done) | (simp [go_sem]; omega) | go_grown
  case rest =>
    obtain ⟨B, C, rfl, rfl, hB, hC, hBl, hCl, ⟨hB0, hB1, hB2⟩, ⟨hC0, hC1, hC2⟩, ⟨hR0, hR1, hR2⟩, hf0, hf1, hf2, hbel⟩ := hcut
    have hRl : w.heap.size + 1 + 1 < wc.heap.size := by omega
    go_wp2_with fail
    refine wp_loop_rounds 4 ?_
    rw [rounds_succ]
    go_wp2_with fail
    go_region_held3 (fun w' => w'.cell? ⟨B, 0, none⟩ = some (.int .i64 a) ∧ w'.cell? ⟨B, 1, none⟩ = some (.int .i64 b) ∧ w'.cell? ⟨B, 2, none⟩ = some (.int .i64 c) ∧ w'.cell? ⟨C, 0, none⟩ = some (.int .i64 x) ∧ w'.cell? ⟨C, 1, none⟩ = some (.int .i64 y) ∧ w'.cell? ⟨C, 2, none⟩ = some (.int .i64 z)) ((refine ⟨?_, ?_, ?_, ?_, ?_, ?_⟩) <;> (simp [*, go_sem]; done))
      (first | (go_at_call 54; refine (minus_calls _ _ _).mono ?_; rintro e w' ⟨rfl, rfl⟩))
    rename_i hHeld1
    clear hHeld1
    go_wp2_with fail
    rw [rounds_succ]
    go_wp2_with fail
    go_region_held3 (fun w' => w'.cell? ⟨B, 0, none⟩ = some (.int .i64 a) ∧ w'.cell? ⟨B, 1, none⟩ = some (.int .i64 b) ∧ w'.cell? ⟨B, 2, none⟩ = some (.int .i64 c) ∧ w'.cell? ⟨C, 0, none⟩ = some (.int .i64 x) ∧ w'.cell? ⟨C, 1, none⟩ = some (.int .i64 y) ∧ w'.cell? ⟨C, 2, none⟩ = some (.int .i64 z)) ((refine ⟨?_, ?_, ?_, ?_, ?_, ?_⟩) <;> (simp [*, go_sem]; done))
      (first | (go_at_call 54; refine (minus_calls _ _ _).mono ?_; rintro e w' ⟨rfl, rfl⟩))
    rename_i hHeld1
    clear hHeld1
    go_wp2_with fail
    rw [rounds_succ]
    go_wp2_with fail
    go_region_held3 (fun w' => w'.cell? ⟨B, 0, none⟩ = some (.int .i64 a) ∧ w'.cell? ⟨B, 1, none⟩ = some (.int .i64 b) ∧ w'.cell? ⟨B, 2, none⟩ = some (.int .i64 c) ∧ w'.cell? ⟨C, 0, none⟩ = some (.int .i64 x) ∧ w'.cell? ⟨C, 1, none⟩ = some (.int .i64 y) ∧ w'.cell? ⟨C, 2, none⟩ = some (.int .i64 z)) ((refine ⟨?_, ?_, ?_, ?_, ?_, ?_⟩) <;> (simp [*, go_sem]; done))
      (first | (go_at_call 54; refine (minus_calls _ _ _).mono ?_; rintro e w' ⟨rfl, rfl⟩))
    rename_i hHeld1
    clear hHeld1
    go_wp2_with fail
    rw [rounds_succ]
    go_wp2_with fail
    refine (join_below _ _ _ _).mono ?_
    rintro e w1 ⟨rfl, hb⟩
    have hb' : Below wc.heap.size wc w1 := (((((Below.refl wc.heap.size wc).alloc (Nat.le_refl _) _).drew).drew).drew).trans (hb.mono (by simp))
    have r0 := (hb'.cell (p := ⟨w.heap.size + 1 + 1, 0, none⟩) hRl).trans hR0
    have r1 := (hb'.cell (p := ⟨w.heap.size + 1 + 1, 1, none⟩) hRl).trans hR1
    have r2 := (hb'.cell (p := ⟨w.heap.size + 1 + 1, 2, none⟩) hRl).trans hR2
    have f0 := (hb'.frozen (p := ⟨w.heap.size + 1 + 1, 0, none⟩) hRl).trans hf0
    have f1 := (hb'.frozen (p := ⟨w.heap.size + 1 + 1, 1, none⟩) hRl).trans hf1
    have f2 := (hb'.frozen (p := ⟨w.heap.size + 1 + 1, 2, none⟩) hRl).trans hf2
    have hz : Below w.heap.size w w1 := hbel.trans (hb'.mono hbel.size)
    clear hb hb' hR0 hR1 hR2 hf0 hf1 hf2
    go_wp2_with fail
    exact bodyPost_ret (v := .agg #[.int .i64 (subI a x), .int .i64 (subI b y), .int .i64 (subI c z)]) (by simp [results, Tryz.results40, go_sem, r0, r1, r2]) rfl ⟨rfl, ((hz.setCell (by simp; omega) _).setCell (by simp; omega) _).setCell (by simp; omega) _⟩
end Go.Proofs.YtbcclfiopebmpaaGreat
namespace Go.Proofs.YtbcclfiopebmpaaGreat
open Go.RowKit
set_option maxRecDepth 100000

set_option maxHeartbeats 1000000 in
theorem Plus_calls (a b c x y z : Int) (w : World) : Calls Tryz.prog 24 #[.agg #[.int .i64 a, .int .i64 b, .int .i64 c], .agg #[.int .i64 x, .int .i64 y, .int .i64 z]] w fun e w' => e = .returned (.agg #[.int .i64 (addI a x), .int .i64 (addI b y), .int .i64 (addI c z)]) ∧ Below w.heap.size w w' := by
  go_enter Tryz.func24, Tryz.ntmps24
  go_wp2_with fail
  refine (each_plus _ _ _ _ _ _ _).mono ?_
  rintro e w1 ⟨rfl, hb⟩
  have r0 : w1.cell? ⟨w.heap.size + 1 + 1, 0, none⟩ = some (.int .i64 0) := (hb.cell (by simp)).trans (by simp [go_sem])
  have r1 : w1.cell? ⟨w.heap.size + 1 + 1, 1, none⟩ = some (.int .i64 0) := (hb.cell (by simp)).trans (by simp [go_sem])
  have r2 : w1.cell? ⟨w.heap.size + 1 + 1, 2, none⟩ = some (.int .i64 0) := (hb.cell (by simp)).trans (by simp [go_sem])
  have f0 : w1.frozen? ⟨w.heap.size + 1 + 1, 0, none⟩ = false := (hb.frozen (by simp)).trans (by simp [go_sem])
  have f1 : w1.frozen? ⟨w.heap.size + 1 + 1, 1, none⟩ = false := (hb.frozen (by simp)).trans (by simp [go_sem])
  have f2 : w1.frozen? ⟨w.heap.size + 1 + 1, 2, none⟩ = false := (hb.frozen (by simp)).trans (by simp [go_sem])
  have hz : Below w.heap.size w w1 := ((((Below.refl w.heap.size w).alloc (Nat.le_refl _) _).alloc (by simp) _).alloc (by simp; omega) _).trans (hb.mono (by simp; omega))
  clear hb
  go_wp2_with fail
  exact bodyPost_ret (v := .agg #[.int .i64 (addI a x), .int .i64 (addI b y), .int .i64 (addI c z)]) (by simp [results, Tryz.results24, go_sem, r0, r1, r2]) rfl ⟨rfl, ((hz.setCell (by simp; omega) _).setCell (by simp; omega) _).setCell (by simp; omega) _⟩
set_option maxHeartbeats 1000000 in
theorem Minus_calls (a b c x y z : Int) (w : World) : Calls Tryz.prog 44 #[.agg #[.int .i64 a, .int .i64 b, .int .i64 c], .agg #[.int .i64 x, .int .i64 y, .int .i64 z]] w fun e w' => e = .returned (.agg #[.int .i64 (subI a x), .int .i64 (subI b y), .int .i64 (subI c z)]) ∧ Below w.heap.size w w' := by
  go_enter Tryz.func44, Tryz.ntmps44
  go_wp2_with fail
  refine (each_minus _ _ _ _ _ _ _).mono ?_
  rintro e w1 ⟨rfl, hb⟩
  have r0 : w1.cell? ⟨w.heap.size + 1 + 1, 0, none⟩ = some (.int .i64 0) := (hb.cell (by simp)).trans (by simp [go_sem])
  have r1 : w1.cell? ⟨w.heap.size + 1 + 1, 1, none⟩ = some (.int .i64 0) := (hb.cell (by simp)).trans (by simp [go_sem])
  have r2 : w1.cell? ⟨w.heap.size + 1 + 1, 2, none⟩ = some (.int .i64 0) := (hb.cell (by simp)).trans (by simp [go_sem])
  have f0 : w1.frozen? ⟨w.heap.size + 1 + 1, 0, none⟩ = false := (hb.frozen (by simp)).trans (by simp [go_sem])
  have f1 : w1.frozen? ⟨w.heap.size + 1 + 1, 1, none⟩ = false := (hb.frozen (by simp)).trans (by simp [go_sem])
  have f2 : w1.frozen? ⟨w.heap.size + 1 + 1, 2, none⟩ = false := (hb.frozen (by simp)).trans (by simp [go_sem])
  have hz : Below w.heap.size w w1 := ((((Below.refl w.heap.size w).alloc (Nat.le_refl _) _).alloc (by simp) _).alloc (by simp; omega) _).trans (hb.mono (by simp; omega))
  clear hb
  go_wp2_with fail
  exact bodyPost_ret (v := .agg #[.int .i64 (subI a x), .int .i64 (subI b y), .int .i64 (subI c z)]) (by simp [results, Tryz.results44, go_sem, r0, r1, r2]) rfl ⟨rfl, ((hz.setCell (by simp; omega) _).setCell (by simp; omega) _).setCell (by simp; omega) _⟩

theorem subI_zero (a x : Int) : subI a x = 0 ↔ clampI a ≤ clampI x := by
  rw [subI_def]
  split <;> omega
theorem fits_eq (a b c x y z : Int) : fitsB a b c x y z = (decide (subI a x = 0) && decide (subI b y = 0) && decide (subI c z = 0)) := by
  unfold fitsB
  simp only [subI_zero]

end Go.Proofs.YtbcclfiopebmpaaGreat
namespace Go.Proofs.YtbcclfiopebmpaaGreat
open Go.RowKit
set_option linter.unusedSimpArgs false
set_option maxRecDepth 100000

set_option maxHeartbeats 2000000 in
theorem Free_calls (cs : List Value) (A : Where) (x : InfoD) (w : World) (h : Hid (RInfo A w cs x)) : Calls Tryz.prog 27 #[.agg cs.toArray] w fun e w' => e = .returned (.agg #[.int .i64 (freeP x).1, .int .i64 (freeP x).2.1, .int .i64 (freeP x).2.2]) ∧ Below w.heap.size w w' := by
  obtain ⟨⟨nn, nl, nt, no, ⟨ga, gb, gc⟩, np, nd⟩, nms, ⟨ua, ub, uc⟩, pts, dks⟩ := x
  obtain ⟨⟨a1, n1, m1⟩, ⟨a2, n2, m2⟩, ⟨a9, n9, m9⟩, ⟨a13, n13, m13⟩, ⟨a14, n14, m14⟩, rfl, _⟩ := h.out.out
  simp only [freeP, minusR]
  clear h
  obtain ⟨W2, hW2⟩ : ∃ W2, W2 = (w.alloc (.cells #[.string nn, .slice a1 n1 m1, .slice a2 n2 m2, .bool no, .int .i64 ga, .int .i64 gb, .int .i64 gc, .int .i64 np, .int .i64 nd, .slice a9 n9 m9, .int .i64 ua, .int .i64 ub, .int .i64 uc, .slice a13 n13 m13, .slice a14 n14 m14] 44)).alloc (.cells #[.int .i64 0, .int .i64 0, .int .i64 0] 24) := ⟨_, rfl⟩
  have B2 : PB2 w W2 [.string nn, .slice a1 n1 m1, .slice a2 n2 m2, .bool no, .int .i64 ga, .int .i64 gb, .int .i64 gc, .int .i64 np, .int .i64 nd, .slice a9 n9 m9, .int .i64 ua, .int .i64 ub, .int .i64 uc, .slice a13 n13 m13, .slice a14 n14 m14] [.int .i64 0, .int .i64 0, .int .i64 0] := by
    rw [hW2]
    refine ⟨(BoxL.new w 44 [.string nn, .slice a1 n1 m1, .slice a2 n2 m2, .bool no, .int .i64 ga, .int .i64 gb, .int .i64 gc, .int .i64 np, .int .i64 nd, .slice a9 n9 m9, .int .i64 ua, .int .i64 ub, .int .i64 uc, .slice a13 n13 m13, .slice a14 n14 m14]).on ((Below.refl _ _).alloc (Nat.le_refl _) _), ?_, by go_grown⟩
    have := BoxL.new (w.alloc (.cells #[.string nn, .slice a1 n1 m1, .slice a2 n2 m2, .bool no, .int .i64 ga, .int .i64 gb, .int .i64 gc, .int .i64 np, .int .i64 nd, .slice a9 n9 m9, .int .i64 ua, .int .i64 ub, .int .i64 uc, .slice a13 n13 m13, .slice a14 n14 m14] 44)) 24 [.int .i64 0, .int .i64 0, .int .i64 0]
    simpa using this
  have HB2 : Hid (PB2 w W2 [.string nn, .slice a1 n1 m1, .slice a2 n2 m2, .bool no, .int .i64 ga, .int .i64 gb, .int .i64 gc, .int .i64 np, .int .i64 nd, .slice a9 n9 m9, .int .i64 ua, .int .i64 ub, .int .i64 uc, .slice a13 n13 m13, .slice a14 n14 m14] [.int .i64 0, .int .i64 0, .int .i64 0]) := B2
  clear B2
  go_enter Tryz.func27, Tryz.ntmps27
  go_wp2_with fail
  rw [← hW2]
  clear hW2
  refine (Minus_calls ga gb gc ua ub uc W2).mono ?_
  rintro e w3 ⟨rfl, hb3⟩
  have C := HB2.out.on hb3
  obtain ⟨z0, f0⟩ := C.y.2 0 _ rfl
  obtain ⟨z1, f1⟩ := C.y.2 1 _ rfl
  obtain ⟨z2, f2⟩ := C.y.2 2 _ rfl
  have hb : Hid (Below w.heap.size w w3) := C.b
  clear C HB2 hb3
  go_wp2_with fail
  refine bodyPost_ret (v := .agg #[.int .i64 (subI ga ua), .int .i64 (subI gb ub), .int .i64 (subI gc uc)]) (by simp [results, Tryz.results27, go_sem, z0, z1, z2]) rfl ⟨rfl, ?_⟩
  exact ((hb.out.setCell (by simp) _).setCell (by simp) _).setCell (by simp) _
set_option maxHeartbeats 1000000 in
theorem clashFn (D : Nat) (a : Option Addr) (n cap : Nat) (A : Where) (V : List Int) (p : Int) (w : World) (hc : w.cell? ⟨D, 13, none⟩ = some (.slice a n cap)) (hV : Hid (SlAt RInt 1 8 A w a n cap V)) : Calls Tryz.prog 59 (#[.int .i64 p] ++ #[.pointer (some ⟨D, 0, none⟩)]) w fun e w' => e = .returned (.bool (hasB iEq V p)) ∧ Below w.heap.size w w' := by
  show Calls Tryz.prog 59 #[.int .i64 p, .pointer (some ⟨D, 0, none⟩)] w _
  go_enter Tryz.func59, Tryz.ntmps59
  go_wp2_with fail
  refine (ContainsI a n cap A V p w hV).mono ?_
  rintro e w1 ⟨rfl, rfl⟩
  go_wp2_with fail
  go_ret
  exact ⟨rfl, Below.refl _ _⟩
set_option maxHeartbeats 2000000 in
theorem Clash_calls (cs ds : List Value) (A A' : Where) (x : InfoD) (y : PodD) (w : World) (h : Hid (RInfo A w cs x)) (h' : Hid (RPod A' w ds y)) : Calls Tryz.prog 47 #[.agg cs.toArray, .agg ds.toArray] w fun e w' => e = .returned (.bool (clashP x y)) ∧ Below w.heap.size w w' := by
  obtain ⟨⟨nn, nl, nt, no, ⟨ga, gb, gc⟩, np, nd⟩, nms, ⟨ua, ub, uc⟩, pts, dks⟩ := x
  obtain ⟨⟨a1, n1, m1⟩, ⟨a2, n2, m2⟩, ⟨a9, n9, m9⟩, ⟨a13, n13, m13⟩, ⟨a14, n14, m14⟩, rfl, _, _, _, _, s13, _⟩ := h.out.out
  obtain ⟨g2, g6, g7, g8, ⟨b9, l9, k9⟩, g10, g11, g12, g13, rfl, _, _, _, _, _, t9, _⟩ := h'.out.out
  simp only at s13 t9
  have S13 : Hid (SlAt RInt 1 8 A w a13 n13 m13 pts) := s13
  have T9 : Hid (SlAt RInt 1 8 A' w b9 l9 k9 (pPorts y)) := t9
  have hE : Hid (clashP ((nn, nl, nt, no, (ga, gb, gc), np, nd), nms, (ua, ub, uc), pts, dks) y = (pPorts y).any (fun q => hasB iEq pts q)) := rfl
  rw [hE.out]
  generalize hpp : pPorts y = prt at T9
  have hlen := T9.out.len (by decide)
  have hn : Hid (prt.length = l9) := T9.out.1
  clear h h' s13 t9 hE hpp

  obtain ⟨W2, hW2⟩ : ∃ W2, W2 = (w.alloc (.cells #[.string nn, .slice a1 n1 m1, .slice a2 n2 m2, .bool no, .int .i64 ga, .int .i64 gb, .int .i64 gc, .int .i64 np, .int .i64 nd, .slice a9 n9 m9, .int .i64 ua, .int .i64 ub, .int .i64 uc, .slice a13 n13 m13, .slice a14 n14 m14] 44)).alloc (.cells #[.string y.1, .int .i64 y.2.1, .slice g2.1 g2.2.1 g2.2.2, .int .i64 y.2.2.2.1.1, .int .i64 y.2.2.2.1.2.1, .int .i64 y.2.2.2.1.2.2, .slice g6.1 g6.2.1 g6.2.2, .slice g7.1 g7.2.1 g7.2.2, .slice g8.1 g8.2.1 g8.2.2, .slice b9 l9 k9, .slice g10.1 g10.2.1 g10.2.2, .slice g11.1 g11.2.1 g11.2.2, .slice g12.1 g12.2.1 g12.2.2, .slice g13.1 g13.2.1 g13.2.2, .string y.2.2.2.2.2.2.2.2.2.2.2.2.1, .string y.2.2.2.2.2.2.2.2.2.2.2.2.2] 33) := ⟨_, rfl⟩
  have B2 : Hid (PB2 w W2 [.string nn, .slice a1 n1 m1, .slice a2 n2 m2, .bool no, .int .i64 ga, .int .i64 gb, .int .i64 gc, .int .i64 np, .int .i64 nd, .slice a9 n9 m9, .int .i64 ua, .int .i64 ub, .int .i64 uc, .slice a13 n13 m13, .slice a14 n14 m14] [.string y.1, .int .i64 y.2.1, .slice g2.1 g2.2.1 g2.2.2, .int .i64 y.2.2.2.1.1, .int .i64 y.2.2.2.1.2.1, .int .i64 y.2.2.2.1.2.2, .slice g6.1 g6.2.1 g6.2.2, .slice g7.1 g7.2.1 g7.2.2, .slice g8.1 g8.2.1 g8.2.2, .slice b9 l9 k9, .slice g10.1 g10.2.1 g10.2.2, .slice g11.1 g11.2.1 g11.2.2, .slice g12.1 g12.2.1 g12.2.2, .slice g13.1 g13.2.1 g13.2.2, .string y.2.2.2.2.2.2.2.2.2.2.2.2.1, .string y.2.2.2.2.2.2.2.2.2.2.2.2.2]) := by
    rw [hW2]
    refine ⟨(BoxL.new w 44 [.string nn, .slice a1 n1 m1, .slice a2 n2 m2, .bool no, .int .i64 ga, .int .i64 gb, .int .i64 gc, .int .i64 np, .int .i64 nd, .slice a9 n9 m9, .int .i64 ua, .int .i64 ub, .int .i64 uc, .slice a13 n13 m13, .slice a14 n14 m14]).on ((Below.refl _ _).alloc (Nat.le_refl _) _), ?_, by go_grown⟩
    have := BoxL.new (w.alloc (.cells #[.string nn, .slice a1 n1 m1, .slice a2 n2 m2, .bool no, .int .i64 ga, .int .i64 gb, .int .i64 gc, .int .i64 np, .int .i64 nd, .slice a9 n9 m9, .int .i64 ua, .int .i64 ub, .int .i64 uc, .slice a13 n13 m13, .slice a14 n14 m14] 44)) 33 [.string y.1, .int .i64 y.2.1, .slice g2.1 g2.2.1 g2.2.2, .int .i64 y.2.2.2.1.1, .int .i64 y.2.2.2.1.2.1, .int .i64 y.2.2.2.1.2.2, .slice g6.1 g6.2.1 g6.2.2, .slice g7.1 g7.2.1 g7.2.2, .slice g8.1 g8.2.1 g8.2.2, .slice b9 l9 k9, .slice g10.1 g10.2.1 g10.2.2, .slice g11.1 g11.2.1 g11.2.2, .slice g12.1 g12.2.1 g12.2.2, .slice g13.1 g13.2.1 g13.2.2, .string y.2.2.2.2.2.2.2.2.2.2.2.2.1, .string y.2.2.2.2.2.2.2.2.2.2.2.2.2]
    simpa using this
  have HP : Hid (PredI 59 #[.pointer (some ⟨w.heap.size, 0, none⟩)] (fun q => hasB iEq pts q) W2) := fun W p hb => clashFn w.heap.size a13 n13 m13 A pts p W ((B2.out.on hb).p.2 13 _ rfl).1 (S13.out.on RInt.firm (B2.out.on hb).b)
  have eg : ∀ args w, (callFunc 59 args).run Tryz.prog w = .ok (.enter 59 args) w := by intro args w; rfl
  obtain ⟨p9, _⟩ := B2.out.y.2 9 _ rfl
  have hb2 : Hid (Below w.heap.size w W2) := B2.out.b
  rw [hW2] at p9
  have HW : Hid (W2 = _) := hW2
  clear hW2
  go_enter Tryz.func47, Tryz.ntmps47
  go_wp2_with fail
  rw [← HW.out]
  refine (ContainsFuncI b9 l9 k9 A' prt W2 (T9.out.on RInt.firm hb2.out) (fun q => hasB iEq pts q) 59 #[.pointer (some ⟨w.heap.size, 0, none⟩)] eg HP).mono ?_
  rintro e w3 ⟨rfl, hb3⟩
  go_wp2_with fail
  go_ret
  exact ⟨rfl, on2 hb2.out hb3⟩
end Go.Proofs.YtbcclfiopebmpaaGreat
namespace Go.Proofs.YtbcclfiopebmpaaGreat
open Go.RowKit
set_option linter.unusedSimpArgs false
set_option maxRecDepth 100000

abbrev VisitD := PodD × InfoD × ResD × ResD
def RVisit : Rep VisitD := RPair RPod (RPair RInfo (RPair RRes RRes))
theorem RVisit.firm : Firm RVisit 37 := Firm.pair RPod.firm (Firm.pair RInfo.firm (Firm.pair RRes.firm RRes.firm))
theorem RVisit.out {A : Where} {w : World} {cs : List Value} {y : PodD} {x : InfoD} {wa wb wc fa fb fc : Int} (h : RVisit A w cs (y, x, (wa, wb, wc), (fa, fb, fc))) : ∃ ds is, cs = ds ++ (is ++ [.int .i64 wa, .int .i64 wb, .int .i64 wc, .int .i64 fa, .int .i64 fb, .int .i64 fc]) ∧ RPod A w ds y ∧ RInfo A w is x := by
  obtain ⟨ds, r, rfl, hp, is, r2, rfl, hi, r3, r4, rfl, h3, h4⟩ := h
  have e3 := RRes.out h3
  have e4 := RRes.out h4
  subst e3 e4
  exact ⟨ds, is, rfl, hp, hi⟩
theorem RVisit.mk {A : Where} {w : World} {ds is : List Value} {y : PodD} {x : InfoD} {wa wb wc fa fb fc : Int} (hp : RPod A w ds y) (hi : RInfo A w is x) : RVisit A w (ds ++ (is ++ [.int .i64 wa, .int .i64 wb, .int .i64 wc, .int .i64 fa, .int .i64 fb, .int .i64 fc])) (y, x, (wa, wb, wc), (fa, fb, fc)) :=
  ⟨ds, _, rfl, hp, is, _, rfl, hi, [.int .i64 wa, .int .i64 wb, .int .i64 wc], [.int .i64 fa, .int .i64 fb, .int .i64 fc], rfl, ⟨[.int .i64 wa], _, rfl, rfl, [.int .i64 wb], _, rfl, rfl, rfl⟩, ⟨[.int .i64 fa], _, rfl, rfl, [.int .i64 fb], _, rfl, rfl, rfl⟩⟩
theorem sizeVisit : (Tryz.prog.info? 57).map (·.size) = some 37 := by kernel_rfl
set_option maxHeartbeats 2000000 in
theorem off_calls (cs : List Value) (A : Where) (v : VisitD) (w : World) (h : Hid (RVisit A w cs v)) : Calls Tryz.prog 28 #[.agg cs.toArray] w fun e w' => e = .returned (.bool (offB v.2.1)) ∧ Below w.heap.size w w' := by
  obtain ⟨y, x, ⟨wa, wb, wc⟩, ⟨fa, fb, fc⟩⟩ := v
  obtain ⟨ds, is, rfl, hp, hi⟩ := h.out.out
  obtain ⟨g2, g6, g7, g8, g9, g10, g11, g12, g13, rfl, _, p2, p6, p7, _⟩ := hp.out
  obtain ⟨h1, h2, h9, h13, h14, rfl, _, i1, i2, i9, _⟩ := hi.out
  simp only [List.cons_append, List.nil_append]
  have hE : Hid (offB x = x.1.2.2.2.1) := rfl
  rw [hE.out]
  clear h hp hi
  go_enter Tryz.func28, Tryz.ntmps28
  go_wp2
  go_ret
  exact ⟨rfl, by go_grown⟩
set_option maxHeartbeats 2000000 in
theorem keptOff_calls (cs : List Value) (A : Where) (v : VisitD) (w : World) (h : Hid (RVisit A w cs v)) : Calls Tryz.prog 29 #[.agg cs.toArray] w fun e w' => e = .returned (.bool (kepB v.1 v.2.1)) ∧ Below w.heap.size w w' := by
  obtain ⟨y, x, ⟨wa, wb, wc⟩, ⟨fa, fb, fc⟩⟩ := v
  obtain ⟨ds, is, rfl, hp, hi⟩ := h.out.out
  obtain ⟨g2, g6, g7, g8, g9, g10, g11, g12, g13, rfl, _, p2, p6, p7, _⟩ := hp.out
  obtain ⟨h1, h2, h9, h13, h14, rfl, _, i1, i2, i9, _⟩ := hi.out
  simp only [List.cons_append, List.nil_append]
  have hb0 : Below w.heap.size w (w.alloc (.cells #[.string y.1, .int .i64 y.2.1, .slice g2.1 g2.2.1 g2.2.2, .int .i64 y.2.2.2.1.1, .int .i64 y.2.2.2.1.2.1, .int .i64 y.2.2.2.1.2.2, .slice g6.1 g6.2.1 g6.2.2, .slice g7.1 g7.2.1 g7.2.2, .slice g8.1 g8.2.1 g8.2.2, .slice g9.1 g9.2.1 g9.2.2, .slice g10.1 g10.2.1 g10.2.2, .slice g11.1 g11.2.1 g11.2.2, .slice g12.1 g12.2.1 g12.2.2, .slice g13.1 g13.2.1 g13.2.2, .string y.2.2.2.2.2.2.2.2.2.2.2.2.1, .string y.2.2.2.2.2.2.2.2.2.2.2.2.2, .string x.1.1, .slice h1.1 h1.2.1 h1.2.2, .slice h2.1 h2.2.1 h2.2.2, .bool x.1.2.2.2.1, .int .i64 x.1.2.2.2.2.1.1, .int .i64 x.1.2.2.2.2.1.2.1, .int .i64 x.1.2.2.2.2.1.2.2, .int .i64 x.1.2.2.2.2.2.1, .int .i64 x.1.2.2.2.2.2.2, .slice h9.1 h9.2.1 h9.2.2, .int .i64 x.2.2.1.1, .int .i64 x.2.2.1.2.1, .int .i64 x.2.2.1.2.2, .slice h13.1 h13.2.1 h13.2.2, .slice h14.1 h14.2.1 h14.2.2, .int .i64 wa, .int .i64 wb, .int .i64 wc, .int .i64 fa, .int .i64 fb, .int .i64 fc] 57)) := by go_grown
  have hC := Kept_sl h2.1 h2.2.1 h2.2.2 A x.1.2.2.1 g6.1 g6.2.1 g6.2.2 A (pBears y) (w.alloc (.cells #[.string y.1, .int .i64 y.2.1, .slice g2.1 g2.2.1 g2.2.2, .int .i64 y.2.2.2.1.1, .int .i64 y.2.2.2.1.2.1, .int .i64 y.2.2.2.1.2.2, .slice g6.1 g6.2.1 g6.2.2, .slice g7.1 g7.2.1 g7.2.2, .slice g8.1 g8.2.1 g8.2.2, .slice g9.1 g9.2.1 g9.2.2, .slice g10.1 g10.2.1 g10.2.2, .slice g11.1 g11.2.1 g11.2.2, .slice g12.1 g12.2.1 g12.2.2, .slice g13.1 g13.2.1 g13.2.2, .string y.2.2.2.2.2.2.2.2.2.2.2.2.1, .string y.2.2.2.2.2.2.2.2.2.2.2.2.2, .string x.1.1, .slice h1.1 h1.2.1 h1.2.2, .slice h2.1 h2.2.1 h2.2.2, .bool x.1.2.2.2.1, .int .i64 x.1.2.2.2.2.1.1, .int .i64 x.1.2.2.2.2.1.2.1, .int .i64 x.1.2.2.2.2.1.2.2, .int .i64 x.1.2.2.2.2.2.1, .int .i64 x.1.2.2.2.2.2.2, .slice h9.1 h9.2.1 h9.2.2, .int .i64 x.2.2.1.1, .int .i64 x.2.2.1.2.1, .int .i64 x.2.2.1.2.2, .slice h13.1 h13.2.1 h13.2.2, .slice h14.1 h14.2.1 h14.2.2, .int .i64 wa, .int .i64 wb, .int .i64 wc, .int .i64 fa, .int .i64 fb, .int .i64 fc] 57)) (i2.on RTaint.firm hb0) (p6.on RBear.firm hb0)
  have hE : Hid (kepB y x = (keptT x.1.2.2.1 (pBears y)).2) := rfl
  rw [hE.out]
  generalize keptT x.1.2.2.1 (pBears y) = kt at hC
  obtain ⟨⟨k1, k2, k3⟩, kb⟩ := kt
  clear h hp hi hE p2 p6 p7 i1 i2 i9
  go_enter Tryz.func29, Tryz.ntmps29
  go_wp2_with fail
  refine hC.mono ?_
  rintro e w2 ⟨rfl, hb2⟩
  have hb := on2 hb0 hb2
  clear hC hb2 hb0
  go_wp2_with fail
  go_ret
  exact ⟨rfl, on2 hb (by go_grown)⟩
set_option maxHeartbeats 2000000 in
theorem asksElse_calls (cs : List Value) (A : Where) (v : VisitD) (w : World) (h : Hid (RVisit A w cs v)) : Calls Tryz.prog 30 #[.agg cs.toArray] w fun e w' => e = .returned (.bool (askB v.1 v.2.1)) ∧ Below w.heap.size w w' := by
  obtain ⟨y, x, ⟨wa, wb, wc⟩, ⟨fa, fb, fc⟩⟩ := v
  obtain ⟨ds, is, rfl, hp, hi⟩ := h.out.out
  obtain ⟨g2, g6, g7, g8, g9, g10, g11, g12, g13, rfl, _, p2, p6, p7, _⟩ := hp.out
  obtain ⟨h1, h2, h9, h13, h14, rfl, _, i1, i2, i9, _⟩ := hi.out
  simp only [List.cons_append, List.nil_append]
  have hb0 : Below w.heap.size w (w.alloc (.cells #[.string y.1, .int .i64 y.2.1, .slice g2.1 g2.2.1 g2.2.2, .int .i64 y.2.2.2.1.1, .int .i64 y.2.2.2.1.2.1, .int .i64 y.2.2.2.1.2.2, .slice g6.1 g6.2.1 g6.2.2, .slice g7.1 g7.2.1 g7.2.2, .slice g8.1 g8.2.1 g8.2.2, .slice g9.1 g9.2.1 g9.2.2, .slice g10.1 g10.2.1 g10.2.2, .slice g11.1 g11.2.1 g11.2.2, .slice g12.1 g12.2.1 g12.2.2, .slice g13.1 g13.2.1 g13.2.2, .string y.2.2.2.2.2.2.2.2.2.2.2.2.1, .string y.2.2.2.2.2.2.2.2.2.2.2.2.2, .string x.1.1, .slice h1.1 h1.2.1 h1.2.2, .slice h2.1 h2.2.1 h2.2.2, .bool x.1.2.2.2.1, .int .i64 x.1.2.2.2.2.1.1, .int .i64 x.1.2.2.2.2.1.2.1, .int .i64 x.1.2.2.2.2.1.2.2, .int .i64 x.1.2.2.2.2.2.1, .int .i64 x.1.2.2.2.2.2.2, .slice h9.1 h9.2.1 h9.2.2, .int .i64 x.2.2.1.1, .int .i64 x.2.2.1.2.1, .int .i64 x.2.2.1.2.2, .slice h13.1 h13.2.1 h13.2.2, .slice h14.1 h14.2.1 h14.2.2, .int .i64 wa, .int .i64 wb, .int .i64 wc, .int .i64 fa, .int .i64 fb, .int .i64 fc] 57)) := by go_grown
  have hC := Match_sl h1.1 h1.2.1 h1.2.2 A x.1.2.1 g7.1 g7.2.1 g7.2.2 A (pAsks y) (w.alloc (.cells #[.string y.1, .int .i64 y.2.1, .slice g2.1 g2.2.1 g2.2.2, .int .i64 y.2.2.2.1.1, .int .i64 y.2.2.2.1.2.1, .int .i64 y.2.2.2.1.2.2, .slice g6.1 g6.2.1 g6.2.2, .slice g7.1 g7.2.1 g7.2.2, .slice g8.1 g8.2.1 g8.2.2, .slice g9.1 g9.2.1 g9.2.2, .slice g10.1 g10.2.1 g10.2.2, .slice g11.1 g11.2.1 g11.2.2, .slice g12.1 g12.2.1 g12.2.2, .slice g13.1 g13.2.1 g13.2.2, .string y.2.2.2.2.2.2.2.2.2.2.2.2.1, .string y.2.2.2.2.2.2.2.2.2.2.2.2.2, .string x.1.1, .slice h1.1 h1.2.1 h1.2.2, .slice h2.1 h2.2.1 h2.2.2, .bool x.1.2.2.2.1, .int .i64 x.1.2.2.2.2.1.1, .int .i64 x.1.2.2.2.2.1.2.1, .int .i64 x.1.2.2.2.2.1.2.2, .int .i64 x.1.2.2.2.2.2.1, .int .i64 x.1.2.2.2.2.2.2, .slice h9.1 h9.2.1 h9.2.2, .int .i64 x.2.2.1.1, .int .i64 x.2.2.1.2.1, .int .i64 x.2.2.1.2.2, .slice h13.1 h13.2.1 h13.2.2, .slice h14.1 h14.2.1 h14.2.2, .int .i64 wa, .int .i64 wb, .int .i64 wc, .int .i64 fa, .int .i64 fb, .int .i64 fc] 57)) (i1.on RLabel.firm hb0) (p7.on RReq.firm hb0)
  have hE : Hid (askB y x = !(matchL x.1.2.1 (pAsks y))) := rfl
  rw [hE.out]
  generalize matchL x.1.2.1 (pAsks y) = kt at hC
  clear h hp hi hE p2 p6 p7 i1 i2 i9
  go_enter Tryz.func30, Tryz.ntmps30
  go_wp2_with fail
  refine hC.mono ?_
  rintro e w2 ⟨rfl, hb2⟩
  have hb := on2 hb0 hb2
  clear hC hb2 hb0
  go_wp2_with fail
  go_ret
  exact ⟨rfl, hb⟩
set_option maxHeartbeats 2000000 in
theorem clashes_calls (cs : List Value) (A : Where) (v : VisitD) (w : World) (h : Hid (RVisit A w cs v)) : Calls Tryz.prog 31 #[.agg cs.toArray] w fun e w' => e = .returned (.bool (clashP v.2.1 v.1)) ∧ Below w.heap.size w w' := by
  obtain ⟨y, x, ⟨wa, wb, wc⟩, ⟨fa, fb, fc⟩⟩ := v
  obtain ⟨ds, is, rfl, hp, hi⟩ := h.out.out
  obtain ⟨g2, g6, g7, g8, g9, g10, g11, g12, g13, rfl, _, p2, p6, p7, _⟩ := hp.out
  obtain ⟨h1, h2, h9, h13, h14, rfl, _, i1, i2, i9, _⟩ := hi.out
  simp only [List.cons_append, List.nil_append]
  have hb0 : Below w.heap.size w (w.alloc (.cells #[.string y.1, .int .i64 y.2.1, .slice g2.1 g2.2.1 g2.2.2, .int .i64 y.2.2.2.1.1, .int .i64 y.2.2.2.1.2.1, .int .i64 y.2.2.2.1.2.2, .slice g6.1 g6.2.1 g6.2.2, .slice g7.1 g7.2.1 g7.2.2, .slice g8.1 g8.2.1 g8.2.2, .slice g9.1 g9.2.1 g9.2.2, .slice g10.1 g10.2.1 g10.2.2, .slice g11.1 g11.2.1 g11.2.2, .slice g12.1 g12.2.1 g12.2.2, .slice g13.1 g13.2.1 g13.2.2, .string y.2.2.2.2.2.2.2.2.2.2.2.2.1, .string y.2.2.2.2.2.2.2.2.2.2.2.2.2, .string x.1.1, .slice h1.1 h1.2.1 h1.2.2, .slice h2.1 h2.2.1 h2.2.2, .bool x.1.2.2.2.1, .int .i64 x.1.2.2.2.2.1.1, .int .i64 x.1.2.2.2.2.1.2.1, .int .i64 x.1.2.2.2.2.1.2.2, .int .i64 x.1.2.2.2.2.2.1, .int .i64 x.1.2.2.2.2.2.2, .slice h9.1 h9.2.1 h9.2.2, .int .i64 x.2.2.1.1, .int .i64 x.2.2.1.2.1, .int .i64 x.2.2.1.2.2, .slice h13.1 h13.2.1 h13.2.2, .slice h14.1 h14.2.1 h14.2.2, .int .i64 wa, .int .i64 wb, .int .i64 wc, .int .i64 fa, .int .i64 fb, .int .i64 fc] 57)) := by go_grown
  have hC := Clash_calls [.string x.1.1, .slice h1.1 h1.2.1 h1.2.2, .slice h2.1 h2.2.1 h2.2.2, .bool x.1.2.2.2.1, .int .i64 x.1.2.2.2.2.1.1, .int .i64 x.1.2.2.2.2.1.2.1, .int .i64 x.1.2.2.2.2.1.2.2, .int .i64 x.1.2.2.2.2.2.1, .int .i64 x.1.2.2.2.2.2.2, .slice h9.1 h9.2.1 h9.2.2, .int .i64 x.2.2.1.1, .int .i64 x.2.2.1.2.1, .int .i64 x.2.2.1.2.2, .slice h13.1 h13.2.1 h13.2.2, .slice h14.1 h14.2.1 h14.2.2] [.string y.1, .int .i64 y.2.1, .slice g2.1 g2.2.1 g2.2.2, .int .i64 y.2.2.2.1.1, .int .i64 y.2.2.2.1.2.1, .int .i64 y.2.2.2.1.2.2, .slice g6.1 g6.2.1 g6.2.2, .slice g7.1 g7.2.1 g7.2.2, .slice g8.1 g8.2.1 g8.2.2, .slice g9.1 g9.2.1 g9.2.2, .slice g10.1 g10.2.1 g10.2.2, .slice g11.1 g11.2.1 g11.2.2, .slice g12.1 g12.2.1 g12.2.2, .slice g13.1 g13.2.1 g13.2.2, .string y.2.2.2.2.2.2.2.2.2.2.2.2.1, .string y.2.2.2.2.2.2.2.2.2.2.2.2.2] A A x y (w.alloc (.cells #[.string y.1, .int .i64 y.2.1, .slice g2.1 g2.2.1 g2.2.2, .int .i64 y.2.2.2.1.1, .int .i64 y.2.2.2.1.2.1, .int .i64 y.2.2.2.1.2.2, .slice g6.1 g6.2.1 g6.2.2, .slice g7.1 g7.2.1 g7.2.2, .slice g8.1 g8.2.1 g8.2.2, .slice g9.1 g9.2.1 g9.2.2, .slice g10.1 g10.2.1 g10.2.2, .slice g11.1 g11.2.1 g11.2.2, .slice g12.1 g12.2.1 g12.2.2, .slice g13.1 g13.2.1 g13.2.2, .string y.2.2.2.2.2.2.2.2.2.2.2.2.1, .string y.2.2.2.2.2.2.2.2.2.2.2.2.2, .string x.1.1, .slice h1.1 h1.2.1 h1.2.2, .slice h2.1 h2.2.1 h2.2.2, .bool x.1.2.2.2.1, .int .i64 x.1.2.2.2.2.1.1, .int .i64 x.1.2.2.2.2.1.2.1, .int .i64 x.1.2.2.2.2.1.2.2, .int .i64 x.1.2.2.2.2.2.1, .int .i64 x.1.2.2.2.2.2.2, .slice h9.1 h9.2.1 h9.2.2, .int .i64 x.2.2.1.1, .int .i64 x.2.2.1.2.1, .int .i64 x.2.2.1.2.2, .slice h13.1 h13.2.1 h13.2.2, .slice h14.1 h14.2.1 h14.2.2, .int .i64 wa, .int .i64 wb, .int .i64 wc, .int .i64 fa, .int .i64 fb, .int .i64 fc] 57)) (RInfo.firm.kept hi (Kept.below hb0)) (RPod.firm.kept hp (Kept.below hb0))
  generalize clashP x y = kt at hC
  clear h hp hi p2 p6 p7 i1 i2 i9
  go_enter Tryz.func31, Tryz.ntmps31
  go_wp2_with fail
  refine hC.mono ?_
  rintro e w2 ⟨rfl, hb2⟩
  have hb := on2 hb0 hb2
  clear hC hb2 hb0
  go_wp2_with fail
  go_ret
  exact ⟨rfl, hb⟩
set_option maxHeartbeats 2000000 in
theorem full_calls (cs : List Value) (A : Where) (v : VisitD) (w : World) (h : Hid (RVisit A w cs v)) : Calls Tryz.prog 32 #[.agg cs.toArray] w fun e w' => e = .returned (.bool (cntB v.2.1)) ∧ Below w.heap.size w w' := by
  obtain ⟨y, x, ⟨wa, wb, wc⟩, ⟨fa, fb, fc⟩⟩ := v
  obtain ⟨ds, is, rfl, hp, hi⟩ := h.out.out
  obtain ⟨g2, g6, g7, g8, g9, g10, g11, g12, g13, rfl, _, p2, p6, p7, _⟩ := hp.out
  obtain ⟨h1, h2, h9, h13, h14, rfl, _, i1, i2, i9, _⟩ := hi.out
  simp only [List.cons_append, List.nil_append]
  have hE : Hid (cntB x = decide (x.1.2.2.2.2.2.1 ≤ (h9.2.1 : Int))) := by rw [Hid, cntB, i9.1]
  rw [hE.out]
  clear h hp hi p2 p6 p7 i1 i2 i9 hE
  go_enter Tryz.func32, Tryz.ntmps32
  go_wp2
  go_ret
  exact ⟨rfl, by go_grown⟩
set_option maxHeartbeats 2000000 in
theorem lacksCPU_calls (cs : List Value) (A : Where) (v : VisitD) (w : World) (h : Hid (RVisit A w cs v)) : Calls Tryz.prog 33 #[.agg cs.toArray] w fun e w' => e = .returned (.bool (decide (v.2.2.2.1 < v.2.2.1.1))) ∧ Below w.heap.size w w' := by
  obtain ⟨y, x, ⟨wa, wb, wc⟩, ⟨fa, fb, fc⟩⟩ := v
  obtain ⟨ds, is, rfl, hp, hi⟩ := h.out.out
  obtain ⟨g2, g6, g7, g8, g9, g10, g11, g12, g13, rfl, _, p2, p6, p7, _⟩ := hp.out
  obtain ⟨h1, h2, h9, h13, h14, rfl, _, i1, i2, i9, _⟩ := hi.out
  simp only [List.cons_append, List.nil_append]
  clear h hp hi p2 p6 p7 i1 i2 i9
  go_enter Tryz.func33, Tryz.ntmps33
  go_wp2
  go_ret
  exact ⟨rfl, by go_grown⟩
set_option maxHeartbeats 2000000 in
theorem lacksMem_calls (cs : List Value) (A : Where) (v : VisitD) (w : World) (h : Hid (RVisit A w cs v)) : Calls Tryz.prog 34 #[.agg cs.toArray] w fun e w' => e = .returned (.bool (decide (v.2.2.2.2.1 < v.2.2.1.2.1))) ∧ Below w.heap.size w w' := by
  obtain ⟨y, x, ⟨wa, wb, wc⟩, ⟨fa, fb, fc⟩⟩ := v
  obtain ⟨ds, is, rfl, hp, hi⟩ := h.out.out
  obtain ⟨g2, g6, g7, g8, g9, g10, g11, g12, g13, rfl, _, p2, p6, p7, _⟩ := hp.out
  obtain ⟨h1, h2, h9, h13, h14, rfl, _, i1, i2, i9, _⟩ := hi.out
  simp only [List.cons_append, List.nil_append]
  clear h hp hi p2 p6 p7 i1 i2 i9
  go_enter Tryz.func34, Tryz.ntmps34
  go_wp2
  go_ret
  exact ⟨rfl, by go_grown⟩
set_option maxHeartbeats 2000000 in
theorem lacksDisk_calls (cs : List Value) (A : Where) (v : VisitD) (w : World) (h : Hid (RVisit A w cs v)) : Calls Tryz.prog 35 #[.agg cs.toArray] w fun e w' => e = .returned (.bool (decide (v.2.2.2.2.2 < v.2.2.1.2.2))) ∧ Below w.heap.size w w' := by
  obtain ⟨y, x, ⟨wa, wb, wc⟩, ⟨fa, fb, fc⟩⟩ := v
  obtain ⟨ds, is, rfl, hp, hi⟩ := h.out.out
  obtain ⟨g2, g6, g7, g8, g9, g10, g11, g12, g13, rfl, _, p2, p6, p7, _⟩ := hp.out
  obtain ⟨h1, h2, h9, h13, h14, rfl, _, i1, i2, i9, _⟩ := hi.out
  simp only [List.cons_append, List.nil_append]
  clear h hp hi p2 p6 p7 i1 i2 i9
  go_enter Tryz.func35, Tryz.ntmps35
  go_wp2
  go_ret
  exact ⟨rfl, by go_grown⟩
end Go.Proofs.YtbcclfiopebmpaaGreat
namespace Go.Proofs.YtbcclfiopebmpaaGreat
open Go.RowKit

/-- Block B is there, holds the three numbers, and may be written. -/
def Box3 (w : World) (B : Nat) (a b c : Int) : Prop :=
  B < w.heap.size ∧ Holds3 w B a b c ∧ w.frozen? ⟨B, 0, none⟩ = false ∧ w.frozen? ⟨B, 1, none⟩ = false ∧ w.frozen? ⟨B, 2, none⟩ = false
/-- All three stored. -/
def set3 (w : World) (B : Nat) (a b c : Int) : World := ((w.setCell ⟨B, 0, none⟩ (.int .i64 a)).setCell ⟨B, 1, none⟩ (.int .i64 b)).setCell ⟨B, 2, none⟩ (.int .i64 c)

theorem cell_other {w : World} {a b : Addr} {v : Value} (h : a ≠ b) : (w.setCell a v).cell? b = w.cell? b := World.cell?_setCell_other (h := h) ..
theorem cell_same {w : World} {a : Addr} {v u : Value} (h : w.cell? a = some u) : (w.setCell a v).cell? a = some v := World.cell?_setCell_same (h := h) ..

theorem Box3.on {u u' : World} {B : Nat} {a b c : Int} (h : Box3 u B a b c) (hb : Below u.heap.size u u') : Box3 u' B a b c := by
  obtain ⟨hB, ⟨h0, h1, h2⟩, f0, f1, f2⟩ := h
  exact ⟨Nat.lt_of_lt_of_le hB hb.size, ⟨(hb.cell hB).trans h0, (hb.cell hB).trans h1, (hb.cell hB).trans h2⟩, (hb.frozen hB).trans f0, (hb.frozen hB).trans f1, (hb.frozen hB).trans f2⟩
theorem Box3.new (u : World) (t : TypeId) (a b c : Int) : Box3 (u.alloc (.cells #[.int .i64 a, .int .i64 b, .int .i64 c] t)) u.heap.size a b c :=
  ⟨by simp, ⟨by simp [go_sem], by simp [go_sem], by simp [go_sem]⟩, by simp [go_sem], by simp [go_sem], by simp [go_sem]⟩
theorem Box3.set {u : World} {B : Nat} {a b c : Int} (h : Box3 u B a b c) (x y z : Int) : Box3 (set3 u B x y z) B x y z := by
  obtain ⟨hB, ⟨h0, h1, h2⟩, f0, f1, f2⟩ := h
  have e01 : (⟨B, 0, none⟩ : Addr) ≠ ⟨B, 1, none⟩ := by simp
  have e02 : (⟨B, 0, none⟩ : Addr) ≠ ⟨B, 2, none⟩ := by simp
  have e12 : (⟨B, 1, none⟩ : Addr) ≠ ⟨B, 2, none⟩ := by simp
  unfold set3
  refine ⟨by simpa using hB, ⟨?_, ?_, ?_⟩, by simpa using f0, by simpa using f1, by simpa using f2⟩
  · rw [cell_other e02.symm, cell_other e01.symm]
    exact cell_same h0
  · rw [cell_other e12.symm]
    exact cell_same (by rw [cell_other e01]; exact h1)
  · exact cell_same (by rw [cell_other e12, cell_other e02]; exact h2)
theorem Box3.other {u : World} {B C : Nat} {a b c : Int} (h : Box3 u C a b c) (hne : B ≠ C) (x y z : Int) : Box3 (set3 u B x y z) C a b c := by
  obtain ⟨hB, ⟨h0, h1, h2⟩, f0, f1, f2⟩ := h
  unfold set3
  have e : ∀ i j : Nat, (⟨B, i, none⟩ : Addr) ≠ ⟨C, j, none⟩ := fun i j h => hne (by simpa using congrArg Addr.block h)
  refine ⟨by simpa using hB, ⟨?_, ?_, ?_⟩, by simpa using f0, by simpa using f1, by simpa using f2⟩
  · rw [cell_other (e 2 0), cell_other (e 1 0), cell_other (e 0 0)]; exact h0
  · rw [cell_other (e 2 1), cell_other (e 1 1), cell_other (e 0 1)]; exact h1
  · rw [cell_other (e 2 2), cell_other (e 1 2), cell_other (e 0 2)]; exact h2
theorem below_set3 {w u : World} {N B : Nat} (h : Below N w u) (hB : N ≤ B) (x y z : Int) : Below N w (set3 u B x y z) := ((h.setCell hB _).setCell hB _).setCell hB _
end Go.Proofs.YtbcclfiopebmpaaGreat
namespace Go.Proofs.YtbcclfiopebmpaaGreat
open Go.RowKit
set_option linter.unusedSimpArgs false

/-- A slice of amounts that lies below: nil, or from an address on; member by member what the functions tell. -/
def ResAt (w : World) (v : Value) (len : Nat) (f g h : Nat → Int) : Prop :=
  (v = .slice none 0 0 ∧ len = 0) ∨ ∃ B off cap, v = .slice (some ⟨B, off, none⟩) len cap ∧ B < w.heap.size ∧
    ∀ i, i < len → w.cell? ⟨B, off + i * 3, none⟩ = some (.int .i64 (f i)) ∧ w.cell? ⟨B, off + i * 3 + 1, none⟩ = some (.int .i64 (g i)) ∧ w.cell? ⟨B, off + i * 3 + 2, none⟩ = some (.int .i64 (h i))

def sumI (f : Nat → Int) : Nat → Int
  | 0 => 0
  | k + 1 => addI (sumI f k) (f k)


theorem box_start (w : World) : Box3 ((w.alloc (.cells #[.int .i64 0, .int .i64 0, .int .i64 0] 24)).alloc (.cells #[.int .i64 0, .int .i64 0, .int .i64 0] 24)) (w.heap.size + 1) 0 0 0 := by
  have q := Box3.new (w.alloc (.cells #[.int .i64 0, .int .i64 0, .int .i64 0] 24)) 24 0 0 0
  rwa [World.size_alloc] at q

set_option maxHeartbeats 2000000 in
theorem Sum_some (B off cap len : Nat) (f g h : Nat → Int) (w : World) (hlen : len ≤ 140737488355328) (hB : B < w.heap.size)
    (hc : Hid (∀ i, i < len → w.cell? ⟨B, off + i * 3, none⟩ = some (.int .i64 (f i)) ∧ w.cell? ⟨B, off + i * 3 + 1, none⟩ = some (.int .i64 (g i)) ∧ w.cell? ⟨B, off + i * 3 + 2, none⟩ = some (.int .i64 (h i)))) :
    Calls Tryz.prog 26 #[.slice (some ⟨B, off, none⟩) len cap] w fun e w' => e = .returned (.agg #[.int .i64 (sumI f len), .int .i64 (sumI g len), .int .i64 (sumI h len)]) ∧ Below w.heap.size w w' := by
  go_enter Tryz.func26, Tryz.ntmps26
  go_wp2_with fail
  go_loopw [8] (fun i wr => ∃ k : Nat, k ≤ len ∧ i = .int .i64 k ∧ Box3 wr (w.heap.size + 1) (sumI f k) (sumI g k) (sumI h k) ∧ Box3 wr w.heap.size 0 0 0 ∧ Below w.heap.size w wr) (fun i _ => len - (intOf i).toNat)
  case atStart => exact ⟨0, Nat.zero_le _, rfl, box_start w, (Box3.new w 24 0 0 0).on ((Below.refl _ _).alloc (Nat.le_refl _) _), ((Below.refl _ _).alloc (Nat.le_refl _) _).alloc (by simp) _⟩
  case round =>
    obtain ⟨k, hk, rfl, hX, hR, hbel⟩ := hrel
    by_cases hkl : k < len
    · obtain ⟨c0, c1, c2⟩ := hc.out k hkl
      have d0 := (hbel.cell (p := ⟨B, off + k * 3, none⟩) hB).trans c0
      have d1 := (hbel.cell (p := ⟨B, off + k * 3 + 1, none⟩) hB).trans c1
      have d2 := (hbel.cell (p := ⟨B, off + k * 3 + 2, none⟩) hB).trans c2
      clear c0 c1 c2
      obtain ⟨hlt, ⟨s0, s1, s2⟩, sf0, sf1, sf2⟩ := id hX
      go_wp2_with fail
      refine (Plus_calls _ _ _ _ _ _ _).mono ?_
      rintro e w1 ⟨rfl, hb⟩
      have hb' : Below wr.heap.size wr w1 := ((Below.refl wr.heap.size wr).alloc (Nat.le_refl _) _).trans (hb.mono (by simp))
      have hX1 := hX.on hb'
      have hR1 := hR.on hb'
      have hb1 := hbel.trans (hb'.mono hbel.size)
      clear hb hb' s0 s1 s2 sf0 sf1 sf2 d0 d1 d2 hX hR
      obtain ⟨hlt1, ⟨s0, s1, s2⟩, sf0, sf1, sf2⟩ := id hX1
      go_wp2_with fail
      go_roundw
      case rel => exact ⟨k + 1, by omega, by go_num, hX1.set _ _ _, hR1.other (by omega) _ _ _, below_set3 hb1 (by omega) _ _ _⟩
      case measure => simp [intOf]; omega
    · obtain rfl : k = len := by omega
      obtain ⟨hlt, ⟨s0, s1, s2⟩, sf0, sf1, sf2⟩ := id hX
      obtain ⟨rlt, ⟨r0, r1, r2⟩, rf0, rf1, rf2⟩ := id hR
      clear hX hR
      go_wp2_with fail
      exact bodyPost_ret (v := .agg #[.int .i64 (sumI f k), .int .i64 (sumI g k), .int .i64 (sumI h k)]) (by simp [results, Tryz.results26, go_sem, r0, r1, r2]) rfl ⟨rfl, ((hbel.setCell (by simp) _).setCell (by simp) _).setCell (by simp) _⟩

/-- what the round of the document's Sum keeps -/
def SR (w : World) (B o : Nat) (a b c : Int) (u : World) : Prop := Below w.heap.size w u ∧ u.cell? ⟨B, o, none⟩ = some (.int .i64 a) ∧ u.cell? ⟨B, o + 1, none⟩ = some (.int .i64 b) ∧ u.cell? ⟨B, o + 2, none⟩ = some (.int .i64 c)
theorem SR.on {w u u' : World} {B o : Nat} {a b c : Int} (h : SR w B o a b c u) (hb : Below u.heap.size u u') (hB : B < w.heap.size) : SR w B o a b c u' := by
  obtain ⟨h0, h1, h2, h3⟩ := h
  have hs := h0.size
  exact ⟨h0.trans (hb.mono hs), (hb.cell (by show B < u.heap.size; omega)).trans h1, (hb.cell (by show B < u.heap.size; omega)).trans h2, (hb.cell (by show B < u.heap.size; omega)).trans h3⟩
theorem SR.drew {w u : World} {B o : Nat} {a b c : Int} (h : SR w B o a b c u) : SR w B o a b c u.drew := ⟨h.1.drew, h.2⟩
theorem SR.set3 {w u : World} {B o N : Nat} {a b c x y z : Int} (h : SR w B o a b c u) (hB : B < w.heap.size) (hN : w.heap.size ≤ N) : SR w B o a b c (set3 u N x y z) := by
  obtain ⟨h0, h1, h2, h3⟩ := h
  have e : ∀ i j : Nat, (⟨N, i, none⟩ : Addr) ≠ ⟨B, j, none⟩ := fun i j h => by have := congrArg Addr.block h; simp at this; omega
  refine ⟨below_set3 h0 hN _ _ _, ?_, ?_, ?_⟩
  · unfold Go.Proofs.YtbcclfiopebmpaaGreat.set3; rw [cell_other (e 2 _), cell_other (e 1 _), cell_other (e 0 _)]; exact h1
  · unfold Go.Proofs.YtbcclfiopebmpaaGreat.set3; rw [cell_other (e 2 _), cell_other (e 1 _), cell_other (e 0 _)]; exact h2
  · unfold Go.Proofs.YtbcclfiopebmpaaGreat.set3; rw [cell_other (e 2 _), cell_other (e 1 _), cell_other (e 0 _)]; exact h3

end Go.Proofs.YtbcclfiopebmpaaGreat
