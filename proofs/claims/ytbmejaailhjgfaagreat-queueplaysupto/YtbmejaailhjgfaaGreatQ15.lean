/- The queue: New, and how long one backs off. No condition. The queue: Add, Back. Condition: the queue lies as is said of it, and is not too long. The queue: Drop, Place. Condition: the queue lies as is said of it, and is not too long. The queue: Pop. Condition: the queue lies as is said of it, and is not too long. -/
import Derived.Test.YtbmejaailhjgfaaGreatQ14
namespace Go.Proofs.YtbmejaailhjgfaaGreat
open Go.RowKit Go.Maps
set_option linter.unusedSimpArgs false
set_option maxRecDepth 100000

set_option maxHeartbeats 4000000 in
theorem ynew_calls (u : World) : Calls Tryz.prog 4 #[] u fun e w' => ∃ p, e = .returned (.pointer (some ⟨p, 0, none⟩)) ∧ QA (Fresh u) w' p [] 0 [] ∧ Below u.heap.size u w' := by
  have hmm := @run_makeMap Tryz.prog
  go_enter Tryz.func4, Tryz.ntmps4
  go_wp2_with (go_at_call 32; refine (New_calls _).mono ?_; rintro e w1 ⟨hb, rfl, hk1, hb1⟩)
  --M1
  go_ret
  have hs := hb1.size
  have g1 : Below w1.heap.size w1 (w1.alloc (.map #[] 0)) := (Below.refl _ _).alloc (Nat.le_refl _) _
  have g2 : Below (w1.alloc (.map #[] 0)).heap.size (w1.alloc (.map #[] 0)) ((w1.alloc (.map #[] 0)).alloc (.map #[] 0)) := (Below.refl _ _).alloc (Nat.le_refl _) _
  have m1 : MpL (w1.alloc (.map #[] 0)) w1.heap.size enN spC [] := MpL.made _
  have m2 : MpL ((w1.alloc (.map #[] 0)).alloc (.map #[] 0)) (w1.alloc (.map #[] 0)).heap.size Prod.fst hoC [] := MpL.made _
  have e2 : (w1.alloc (.map #[] 0)).heap.size = w1.heap.size + 1 := by simp
  have e3 : ((w1.alloc (.map #[] 0)).alloc (.map #[] 0)).heap.size = w1.heap.size + 2 := by simp
  rw [e2] at m2
  have hlt : ∀ b, b < w1.heap.size → Fresh u b → Fresh u b ∧ b ≠ w1.heap.size + 2 ∧ b ≠ w1.heap.size ∧ b ≠ w1.heap.size + 1 := fun b hb hf => ⟨hf, by omega, by omega, by omega⟩
  refine ⟨_, rfl, ⟨hb, w1.heap.size, w1.heap.size + 1, [], ⟨heap_new _ _ _ (by simp), ?_, ?_, List.Perm.refl _, ?_, ?_, ?_, ?_, ?_, by omega, fun _ h => absurd h List.not_mem_nil, fun _ h => absurd h List.not_mem_nil⟩⟩, on2 hb1 (by go_grown)⟩
  · exact (hk1.weak hlt).grow (by go_grown)
  · exact fun k h1 h2 => by simp at h2
  · exact (m1.on g2).on (by go_grown)
  · exact m2.on (by go_grown)
  · show u.heap.size ≤ _; omega
  · show u.heap.size ≤ _; omega
  · show u.heap.size ≤ _; omega
/-- How long one backs off. -/
def delayY (t : Int) : Int := if t < 1 then 0 else if t = 1 then 1 else if t = 2 then 2 else if t = 3 then 4 else if t = 4 then 8 else 16
theorem delayY_in (t : Int) : 0 ≤ delayY t ∧ delayY t ≤ 16 := by unfold delayY; repeat' split <;> omega
/-- What is left to do: t more rounds, from d on. -/
def dlF (t d : Int) : Int := if t ≤ 1 then d else if t = 2 then min (2 * d) 16 else if t = 3 then min (4 * d) 16 else if t = 4 then min (8 * d) 16 else 16
set_option maxHeartbeats 4000000 in
theorem ydelay_calls (t : Int) (ht : t ≤ 9223372036854775807) (u : World) : Calls Tryz.prog 29 #[.int .i64 t] u fun e u' => e = .returned (.int .i64 (delayY t)) ∧ u' = u := by
  by_cases h1 : t ≤ 0
  · have e1 : delayY t = 0 := by unfold delayY; rw [if_pos (by omega)]
    rw [e1]
    go_enter Tryz.func29, Tryz.ntmps29
    go_wp2_with fail
    go_ret
    exact ⟨rfl, rfl⟩
  · obtain ⟨r, hr⟩ : ∃ r, r = delayY t := ⟨_, rfl⟩
    have h2 : 1 ≤ t := by omega
    have h3 : r = dlF t 1 ∧ (1 : Int) ≤ 1 := ⟨by rw [hr]; unfold delayY dlF; repeat' split <;> omega, by omega⟩
    rw [← hr]
    clear hr
    go_enter Tryz.func29, Tryz.ntmps29
    --M2
    go_wp2_with fail
    go_loop [0, 3] (fun t' d' => ∃ t d : Int, t' = .int .i64 t ∧ d' = .int .i64 d ∧ 1 ≤ t ∧ t ≤ 9223372036854775807 ∧ (d = 1 ∨ d = 2 ∨ d = 4 ∨ d = 8 ∨ d = 16) ∧ Hid (r = dlF t d)) (fun t' _ => (intOf t').toNat)
    case atStart => exact ⟨t, 1, rfl, rfl, h2, ht, .inl rfl, h3.1⟩
    case round =>
      clear h1 h2 h3 ht
      obtain ⟨t, d, rfl, rfl, h1, h2, hd, HR⟩ := hrel
      by_cases ht1 : 1 < t
      · by_cases hd1 : d < 16
        · have HN : Hid (r = dlF (t - 1) (d * 2)) := by
            rw [Hid, HR.out]
            unfold dlF
            rcases hd with rfl | rfl | rfl | rfl | rfl <;> (repeat' split) <;> omega
          have hdn : d * 2 = 1 ∨ d * 2 = 2 ∨ d * 2 = 4 ∨ d * 2 = 8 ∨ d * 2 = 16 := by omega
          clear HR
          go_wp2_with fail
          --M3
          go_round
          case rel => exact ⟨t - 1, d * 2, by go_num, by go_num, by omega, by omega, hdn, HN⟩
          case measure => simp [intOf]; omega
        · have HN : Hid (r = d) := by
            rw [Hid, HR.out]
            unfold dlF
            obtain rfl : d = 16 := by omega
            (repeat' split) <;> omega
          clear HR
          go_wp2_with fail
          go_ret
          exact ⟨by rw [HN.out]; rfl, rfl⟩
      · have HN : Hid (r = d) := by
          rw [Hid, HR.out]
          unfold dlF
          rw [if_pos (by omega)]
        clear HR
        go_wp2_with fail
        go_ret
        exact ⟨by rw [HN.out]; rfl, rfl⟩
end Go.Proofs.YtbmejaailhjgfaaGreat
namespace Go.Proofs.YtbmejaailhjgfaaGreat
open Go.RowKit Go.Maps
set_option linter.unusedSimpArgs false
set_option maxRecDepth 100000

theorem QG.num {F : Where} {u : World} {p hb sb nb : Nat} {A R : List It} {S : List EnD} {n : Int} {Ws : List WiD} (h : QG F u p hb sb nb A R S n Ws) (m : Int) : QG F (u.setCell ⟨p, 3, none⟩ (.int .i64 m)) p hb sb nb A R S m Ws := by
  have k : Kept (fun b => b ≠ p) u (u.setCell ⟨p, 3, none⟩ (.int .i64 m)) := Kept.set (p := ⟨p, 3, none⟩) (fun h => h rfl) _
  refine ⟨?_, h.heap.kept (fun b hb hf => k.2 b hf.2.1 hb), h.hp, h.pm, h.spots.same (k.2 sb (fun e => h.nps e.symm) h.spots.lt), h.hopes.same (k.2 nb (fun e => h.npn e.symm) h.hopes.lt), h.fp, h.fs, h.fn, h.ns, h.ok, h.okw⟩
  exact heap_setCellG h.box
/-- One entry more, unless something is against it. -/
def addL (S : List EnD) (z : Int) (e : EnD) : List EnD := if z = 0 then S ++ [e] else S
def addN (n z : Int) : Int := if z = 0 then n + 1 else n
theorem addL_0 (S : List EnD) (e : EnD) : addL S 0 e = S ++ [e] := if_pos rfl
theorem addL_no (S : List EnD) (e : EnD) {z : Int} (h : z ≠ 0) : addL S z e = S := if_neg h
set_option maxHeartbeats 8000000 in
theorem yadd_calls {F : Where} {u : World} {p : Nat} {S : List EnD} {n : Int} {Ws : List WiD} (h : QA F u p S n Ws) (hF : ∀ b, u.heap.size ≤ b → F b) (s : ByteArray) (hs : okS s) (pr : Int) (hl : S.length < 1000000000) (hn : 0 ≤ n ∧ n < 1000000000000000) :
    Calls Tryz.prog 6 #[.pointer (some ⟨p, 0, none⟩), .string s, .int .i64 pr] u fun e w' => e = .returned (.int .i64 (agY S s)) ∧ QA F w' p (addL S (agY S s) ((s, pr, n, 0, 0), 1)) (addN n (agY S s)) Ws ∧ Turns F u w' := by
  have hq := h
  obtain ⟨hb, sb, nb, A, h⟩ := h
  have hC := yagainst_calls h s hs
  obtain ⟨hn0, hn1⟩ := hn
  by_cases hz : agY S s = 0
  · have hfn : fndG enN S s = none ∧ s.toList.isEmpty = false := by
      unfold agY at hz
      cases e1 : s.toList.isEmpty with
      | true => rw [if_pos e1] at hz; cases hz
      | false =>
        rw [if_neg (by rw [e1]; decide)] at hz
        cases e2 : fndG enN S s with
        | none => exact ⟨rfl, rfl⟩
        | some y => rw [e2] at hz; cases hz
    have hC2 := yput_calls hq hF (s, pr, n, 0, 0) 1 ⟨hs, hfn.2, .inl rfl⟩ hfn.1 hl
    have c3 := h.c3
    rw [hz] at hC ⊢
    rw [addL_0, show addN n 0 = n + 1 from if_pos rfl]
    clear hz hfn hq h
    go_enter Tryz.func6, Tryz.ntmps6
    go_wp2_with fail
    refine hC.mono ?_
    rintro e u ⟨rfl, rfl⟩
    clear hC
    go_wp2_with fail
    refine hC2.mono ?_
    rintro e w2 ⟨rfl, ⟨hb, sb, nb, A, h2⟩, t2⟩
    have c2 := h2.c3
    have f2 := h2.f3
    have H3 : Hid (QA F (w2.setCell ⟨p, 3, none⟩ (.int .i64 (n + 1))) p (S ++ [((s, pr, n, 0, 0), 1)]) (n + 1) Ws ∧ Turns F u (w2.setCell ⟨p, 3, none⟩ (.int .i64 (n + 1)))) := ⟨⟨hb, sb, nb, A, h2.num (n + 1)⟩, t2.trans (Turns.set (p := ⟨p, 3, none⟩) h2.fp _)⟩
    clear hC2 c3 h2 t2
    go_wp2_with fail
    --M1
    go_ret
    exact ⟨rfl, H3.out.1, H3.out.2⟩
  · rw [addL_no _ _ hz, show addN n (agY S s) = n from if_neg hz]
    have HQ : Hid (QA F u p S n Ws) := hq
    clear hq h hF
    generalize agY S s = z at hC hz ⊢
    go_enter Tryz.func6, Tryz.ntmps6
    go_wp2_with fail
    refine hC.mono ?_
    rintro e w2 ⟨rfl, rfl⟩
    clear hC
    go_wp2_with fail
    go_ret
    exact ⟨rfl, HQ.out, Turns.refl _ _⟩
/-- What is against an entry's coming back. -/
def bkY (S : List EnD) (s : ByteArray) (now : Int) : Int := if whenY now = true then agY S s else 2
/-- The entry that is back. -/
def backE (x : WtD) (now : Int) (room : Bool) : EnD := ((x.1, x.2.1, x.2.2.1, x.2.2.2.1, now + delayY x.2.2.2.1), if room = true then 2 else 3)
set_option maxHeartbeats 16000000 in
theorem yback_calls {F : Where} {u : World} {p : Nat} {S : List EnD} {n : Int} {Ws : List WiD} (h : QA F u p S n Ws) (hF : ∀ b, u.heap.size ≤ b → F b) (x : WtD) (hs : okS x.1) (hx : x.2.2.2.1 ≤ 9223372036854775807) (now : Int) (room : Bool) (hl : S.length < 1000000000) :
    Calls Tryz.prog 10 #[.pointer (some ⟨p, 0, none⟩), .agg (wtC x).toArray, .int .i64 now, .bool room] u fun e w' => e = .returned (.int .i64 (bkY S x.1 now)) ∧ QA F w' p (addL S (bkY S x.1 now) (backE x now room)) n Ws ∧ Turns F u w' := by
  obtain ⟨W1, hW1⟩ : ∃ Z, Z = u.alloc (.cells (wtC x).toArray 31) := ⟨_, rfl⟩
  have b1 : Below u.heap.size u W1 := by rw [hW1]; exact (Below.refl _ _).alloc (Nat.le_refl _) _
  have q1 : BoxL W1 u.heap.size (wtC x) := by rw [hW1]; exact BoxL.new u 31 (wtC x)
  have hlt := h.lt
  have HQ : Hid (QA F W1 p S n Ws) := h.on b1
  obtain ⟨hb, sb, nb, A, h⟩ := h
  have h1 := (h.weak (G := fun b => F b ∧ b ≠ u.heap.size) (fun b hb hf => ⟨hf, by omega⟩)).on b1
  have hCn := yagNow_calls h1.c0 now
  have HT1 : Hid (Turns F u W1) := Turns.below b1
  have HW1 : Hid (u.alloc (.cells (wtC x).toArray 31) = W1) := hW1.symm
  cases hw : whenY now with
  | false =>
    have HB : Hid (bkY S x.1 now = 2) := by rw [Hid]; unfold bkY; rw [if_neg (by rw [hw]; decide)]
    rw [hw] at hCn
    clear hW1 b1 q1 h h1 hw hF hlt
    go_enter Tryz.func10, Tryz.ntmps10
    go_upto_region 1 with fail
    rw [HW1.out]
    go_wp2_with fail
    refine hCn.mono ?_
    rintro e w2 ⟨rfl, rfl⟩
    clear hCn
    go_wp2_with fail
    go_ret
    exact ⟨by rw [HB.out]; rfl, by rw [HB.out, addL_no _ _ (by decide)]; exact HQ.out, HT1.out⟩
  | true =>
    rw [hw] at hCn
    have hC := yagainst_calls h1 x.1 hs
    have c0 : W1.cell? ⟨u.heap.size, 0, none⟩ = some (.string x.1) := (q1.2 0 _ rfl).1
    by_cases hz : agY S x.1 = 0
    · have hfn : fndG enN S x.1 = none ∧ x.1.toList.isEmpty = false := by
        unfold agY at hz
        cases e1 : x.1.toList.isEmpty with
        | true => rw [if_pos e1] at hz; cases hz
        | false =>
          rw [if_neg (by rw [e1]; decide)] at hz
          cases e2 : fndG enN S x.1 with
          | none => exact ⟨rfl, rfl⟩
          | some y => rw [e2] at hz; cases hz
      have HB : Hid (bkY S x.1 now = 0) := by rw [Hid]; unfold bkY; rw [if_pos hw, hz]
      rw [hz] at hC
      obtain ⟨d, hd⟩ : ∃ d, d = delayY x.2.2.2.1 := ⟨_, rfl⟩
      have hdi := delayY_in x.2.2.2.1
      rw [← hd] at hdi
      obtain ⟨hd0, hd1⟩ := hdi
      have hnow : 0 ≤ now ∧ now ≤ 1099511627712 := by unfold whenY at hw; simpa using hw
      obtain ⟨hn0, hn1⟩ := hnow
      have hCd := ydelay_calls x.2.2.2.1 hx W1
      rw [← hd] at hCd
      obtain ⟨W2, hW2⟩ : ∃ Z, Z = W1.setCell ⟨u.heap.size, 4, none⟩ (.int .i64 (now + d)) := ⟨_, rfl⟩
      have q2 : BoxL W2 u.heap.size (wtC (x.1, x.2.1, x.2.2.1, x.2.2.2.1, now + d)) := by rw [hW2]; exact q1.set 4 _ (by simp)
      have k2 : Kept (fun b => b ≠ u.heap.size) W1 W2 := by rw [hW2]; exact Kept.set (p := ⟨u.heap.size, 4, none⟩) (fun h => h rfl) _
      have h2 : QA (fun b => F b ∧ b ≠ u.heap.size) W2 p S n Ws := ⟨hb, sb, nb, A, h1.kept (fun b hb hf => k2.2 b hf.2 hb)⟩
      have hC2 := fun pl (hpl : pl = 2 ∨ pl = 3) => yput_calls h2 (fun b hb => ⟨hF b (Nat.le_trans b1.size (Nat.le_trans k2.1 hb)), by have := q2.1; omega⟩) (x.1, x.2.1, x.2.2.1, x.2.2.2.1, now + d) pl ⟨hs, hfn.2, .inr hpl⟩ hfn.1 hl
      have c3 : W1.cell? ⟨u.heap.size, 3, none⟩ = some (.int .i64 x.2.2.2.1) := (q1.2 3 _ rfl).1
      have c4 : W1.cell? ⟨u.heap.size, 4, none⟩ = some (.int .i64 x.2.2.2.2) := (q1.2 4 _ rfl).1
      have f4 : W1.frozen? ⟨u.heap.size, 4, none⟩ = false := (q1.2 4 _ rfl).2
      have HT2 : Hid (Turns F u W2) := by rw [hW2]; exact HT1.out.trans (Turns.set (p := ⟨u.heap.size, 4, none⟩) (hF _ (Nat.le_refl _)) _)
      have HX2 : Hid (W2.rangeAt u.heap.size 0 (wtC (x.1, x.2.1, x.2.2.1, x.2.2.2.1, now + d))) := q2.range
      have HW2 : Hid (W1.setCell ⟨u.heap.size, 4, none⟩ (.int .i64 (now + d)) = W2) := hW2.symm
      have HBE : Hid (backE x now room = ((x.1, x.2.1, x.2.2.1, x.2.2.2.1, now + d), if room = true then 2 else 3)) := by rw [hd]; rfl
      have hC3 := hC2 3 (.inr rfl)
      have hC2 := hC2 2 (.inl rfl)
      clear hW1 b1 q1 h h1 hw hF hlt hz hfn hd q2 k2 h2 hW2 HQ
      go_enter Tryz.func10, Tryz.ntmps10
      go_upto_region 1 with fail
      rw [HW1.out]
      go_wp2_with fail
      refine hCn.mono ?_
      rintro e w2 ⟨rfl, rfl⟩
      clear hCn
      go_wp2_with fail
      refine hC.mono ?_
      rintro e w2 ⟨rfl, rfl⟩
      clear hC
      go_wp2_with fail
      refine hCd.mono ?_
      rintro e w2 ⟨rfl, rfl⟩
      clear hCd
      go_upto_region 8 with fail
      rw [HW2.out]
      clear c0 c3 c4 f4
      --M1
      cases room with
      | true =>
        clear hC3
        go_wp2_with (first | (refine wpList_load_mid rfl 31 _ rfl u.heap.size 0 rfl (wtC (x.1, x.2.1, x.2.2.1, x.2.2.2.1, now + d)) _ HX2.out Tryz.underlying31 rfl (by kernel_rfl) ?_) | fail)
        refine hC2.mono ?_
        rintro e w3 ⟨rfl, h3, t3⟩
        have H3 : Hid (QA F w3 p (S ++ [((x.1, x.2.1, x.2.2.1, x.2.2.2.1, now + d), 2)]) n Ws ∧ Turns F u w3) := ⟨h3.weak (fun b _ hf => hf.1), HT2.out.trans (t3.weak (fun b _ hf => hf.1))⟩
        clear hC2 h3 t3
        go_wp2_with fail
        go_ret
        exact ⟨by rw [HB.out]; rfl, by rw [HB.out, addL_0, HBE.out]; exact H3.out.1, H3.out.2⟩
      | false =>
        clear hC2
        go_wp2_with (first | (refine wpList_load_mid rfl 31 _ rfl u.heap.size 0 rfl (wtC (x.1, x.2.1, x.2.2.1, x.2.2.2.1, now + d)) _ HX2.out Tryz.underlying31 rfl (by kernel_rfl) ?_) | fail)
        refine hC3.mono ?_
        rintro e w3 ⟨rfl, h3, t3⟩
        have H3 : Hid (QA F w3 p (S ++ [((x.1, x.2.1, x.2.2.1, x.2.2.2.1, now + d), 3)]) n Ws ∧ Turns F u w3) := ⟨h3.weak (fun b _ hf => hf.1), HT2.out.trans (t3.weak (fun b _ hf => hf.1))⟩
        clear hC3 h3 t3
        go_wp2_with fail
        go_ret
        exact ⟨by rw [HB.out]; rfl, by rw [HB.out, addL_0, HBE.out]; exact H3.out.1, H3.out.2⟩
    · have HB : Hid (bkY S x.1 now = agY S x.1) := by rw [Hid]; unfold bkY; rw [if_pos hw]
      have HZ : Hid (agY S x.1 ≠ 0) := hz
      generalize agY S x.1 = z at hC hz HB HZ
      clear hW1 b1 q1 h h1 hw hF hlt
      go_enter Tryz.func10, Tryz.ntmps10
      go_upto_region 1 with fail
      rw [HW1.out]
      go_wp2_with fail
      refine hCn.mono ?_
      rintro e w2 ⟨rfl, rfl⟩
      clear hCn
      go_wp2_with fail
      refine hC.mono ?_
      rintro e w2 ⟨rfl, rfl⟩
      clear hC
      go_wp2_with fail
      go_ret
      exact ⟨by rw [HB.out]; rfl, by rw [HB.out, addL_no _ _ HZ.out]; exact HQ.out, HT1.out⟩
end Go.Proofs.YtbmejaailhjgfaaGreat
namespace Go.Proofs.YtbmejaailhjgfaaGreat
open Go.RowKit Go.Maps
set_option linter.unusedSimpArgs false
set_option maxRecDepth 100000

theorem res_tctY {P : Program} {fn : Func} {p q r : Tmp} {ty : TypeId} (h : fn.results = #[.tmp q, .cell p ty, .tmp r]) (tmps : Array Value) (w : World) (b : Nat) (cs : List Value) (d : TypeDesc) (y z : Value)
    (hp : tmps.getD p undef = .pointer (some ⟨b, 0, none⟩)) (hq : tmps.getD q undef = y) (hz : tmps.getD r undef = z) (hr : w.rangeAt b 0 cs) (hu : P.underlying ty = some d) (hd : d.isRow = true) (hi : (P.info? ty).map (·.size) = some cs.length) :
    (results fn tmps).run P w = .ok (.tuple #[y, .agg cs.toArray, z]) w := by
  have hp' : tmps[p]?.getD undef = .pointer (some ⟨b, 0, none⟩) := by simpa using hp
  have hq' : tmps[q]?.getD undef = y := by simpa using hq
  have hz' : tmps[r]?.getD undef = z := by simpa using hz
  simp [results, h, hp', hq', hz', asAddr, run_loadVar_mid w b 0 ty cs d hr hu hd hi]
/-- What Drop answers; the wishes then. -/
def drE (S : List EnD) (s : ByteArray) : Int := if (fndG enN S s).isSome = true then 0 else 5
def drW (S : List EnD) (s : ByteArray) (Ws : List WiD) : List WiD := if (fndG enN S s).isSome = true then othG Prod.fst s Ws else Ws
set_option maxHeartbeats 8000000 in
theorem ydrop_calls {F : Where} {u : World} {p : Nat} {S : List EnD} {n : Int} {Ws : List WiD} (h : QA F u p S n Ws) (hF : ∀ b, u.heap.size ≤ b → F b) (s : ByteArray) (hs : okS s) (hl : S.length < 1000000000) :
    Calls Tryz.prog 16 #[.pointer (some ⟨p, 0, none⟩), .string s] u fun e w' => e = .returned (.int .i64 (drE S s)) ∧ QA F w' p (othG enN s S) n (drW S s Ws) ∧ Turns F u w' := by
  have hC := ytake_calls h hF s hs hl
  have HQ : Hid (QA F u p S n Ws) := h
  obtain ⟨hb, sb, nb, A, h⟩ := h
  have c0 := h.c0
  have c1 := h.c1
  have hM := ymade_calls c0 ⟨_, rfl⟩
  have hl2 := h.spots.look 57 78 Tryz.underlying57 (zeroSp u) hs
  have hfd := fldP
  cases hf : fndG enN S s with
  | none =>
    have HR : Hid (drE S s = 5 ∧ drW S s Ws = Ws ∧ othG enN s S = S) := ⟨by unfold drE; rw [hf]; rfl, by unfold drW; rw [hf]; rfl, othG_none hf⟩
    rw [hf] at hl2
    simp only [Option.elim_none] at hl2
    clear hf hC h
    go_enter Tryz.func16, Tryz.ntmps16
    go_wp2_with (go_at_call 36; refine hM.mono ?_; rintro e w' ⟨rfl, hw'⟩; obtain rfl := hw'.symm)
    go_ret
    exact ⟨by rw [HR.out.1]; rfl, by rw [HR.out.2.1, HR.out.2.2]; exact HQ.out, Turns.refl _ _⟩
  | some x =>
    have HR : Hid (drE S s = 0 ∧ drW S s Ws = othG Prod.fst s Ws) := ⟨by unfold drE; rw [hf]; rfl, by unfold drW; rw [hf]; rfl⟩
    have hx := place_pos h.ok hf
    rw [hf] at hl2
    obtain ⟨x, pl⟩ := x
    simp only [Option.elim_some, spC] at hx hl2
    clear hf h
    go_enter Tryz.func16, Tryz.ntmps16
    go_wp2_with (first | (go_at_call 36; refine hM.mono ?_; rintro e w' ⟨rfl, hw'⟩; obtain rfl := hw'.symm) | fail)
    refine hC.mono ?_
    rintro e w2 ⟨rfl, ⟨hb, sb, nb, A, h2⟩, t2⟩
    have c2 := h2.c2
    have HG : Hid (QF F w2 p hb sb nb A (othG enN s S) n Ws ∧ Turns F u w2) := ⟨h2, t2⟩
    clear hC h2 t2 c0 c1 hM hl2 hfd
    go_wp2_with (at_delete; refine wpList_delY rfl _ _ 58 rfl 80 Tryz.underlying58 rfl s hs rfl HG.out.1.hopes ?_; intro w4 hm4 ht4)
    --M1
    go_ret
    exact ⟨by rw [HR.out.1]; rfl, ⟨hb, sb, nb, A, by rw [HR.out.2]; exact HG.out.1.hoped hm4 ht4 (fun y hy => HG.out.1.okw y (mem_othG.1 hy).1)⟩, HG.out.2.trans (Turns.map ht4 HG.out.1.fn)⟩
/-- Where a name is, its entry, an error. -/
def plY (S : List EnD) (s : ByteArray) : Int × WtD × Int := match fndG enN S s with | none => (0, zWtY, 5) | some e => (e.2, e.1, 0)
set_option maxHeartbeats 16000000 in
theorem yplace_calls {F : Where} {u : World} {p : Nat} {S : List EnD} {n : Int} {Ws : List WiD} (h : QA F u p S n Ws) (s : ByteArray) (hs : okS s) :
    Calls Tryz.prog 21 #[.pointer (some ⟨p, 0, none⟩), .string s] u fun e w' => e = .returned (.tuple #[.int .i64 (plY S s).1, .agg (wtC (plY S s).2.1).toArray, .int .i64 (plY S s).2.2]) ∧ Below u.heap.size u w' := by
  obtain ⟨W1, hW1⟩ : ∃ Z, Z = u.alloc (.cells #[.string ⟨#[]⟩, .int .i64 0, .int .i64 0, .int .i64 0, .int .i64 0] 31) := ⟨_, rfl⟩
  have b1 : Below u.heap.size u W1 := by rw [hW1]; exact (Below.refl _ _).alloc (Nat.le_refl _) _
  have q1 : BoxL W1 u.heap.size (wtC zWtY) := by rw [hW1]; exact BoxL.new u 31 _
  obtain ⟨hb, sb, nb, A, h⟩ := h
  have h1 := h.on b1
  have c0 := h1.c0
  have c1 := h1.c1
  have hM := ymade_calls c0 ⟨_, rfl⟩
  have hl2 := h1.spots.lookOk 57 78 Tryz.underlying57 (zeroSp W1) hs
  have HW1 : Hid (u.alloc (.cells #[.string ⟨#[]⟩, .int .i64 0, .int .i64 0, .int .i64 0, .int .i64 0] 31) = W1) := hW1.symm
  have H1 : Hid (BoxL W1 u.heap.size (wtC zWtY) ∧ Below u.heap.size u W1) := ⟨q1, b1⟩
  cases hf : fndG enN S s with
  | none =>
    have HR : Hid (plY S s = (0, zWtY, 5)) := by rw [Hid]; unfold plY; rw [hf]
    rw [hf] at hl2
    simp only [Option.elim_none, Option.isSome_none] at hl2
    obtain ⟨W2, hW2⟩ : ∃ Z, Z = W1.alloc (.cells #[.int .i64 0, .string ⟨#[]⟩, .int .i64 0, .int .i64 0, .int .i64 0, .int .i64 0] 78) := ⟨_, rfl⟩
    have b2 : Below W1.heap.size W1 W2 := by rw [hW2]; exact (Below.refl _ _).alloc (Nat.le_refl _) _
    obtain ⟨W3, hW3⟩ : ∃ Z, Z = W2.setCells u.heap.size 0 (wtC zWtY) := ⟨_, rfl⟩
    have HTh : Hid (W2.there u.heap.size 0 (wtC zWtY).toArray.size) := (q1.on b2).there
    have HW2 : Hid (W1.alloc (.cells #[.int .i64 0, .string ⟨#[]⟩, .int .i64 0, .int .i64 0, .int .i64 0, .int .i64 0] 78) = W2) := hW2.symm
    have HW3 : Hid (W2.setCells u.heap.size 0 (wtC zWtY).toArray.toList = W3) := hW3.symm
    have HQ : Hid (W3.rangeAt u.heap.size 0 (wtC zWtY)) := by rw [hW3]; exact World.rangeAt_setCells_same _ _ _ _ (q1.on b2).there
    have HF : Hid (Below u.heap.size u W3) := by rw [hW3]; exact below_setCells (on2 b1 b2) (Nat.le_refl _)
    clear hf h h1 hW1 b1 q1 b2 hW2 hW3
    go_enter Tryz.func21, Tryz.ntmps21
    go_upto_region 1 with fail
    rw [HW1.out]
    go_upto_region 4 with (go_at_call 36; refine hM.mono ?_; rintro e w' ⟨rfl, hw'⟩; obtain rfl := hw'.symm)
    rw [HW2.out]
    go_wp2_with (first | (refine wpList_store_mid rfl 31 _ _ rfl u.heap.size 0 (wtC zWtY).toArray rfl rfl HTh.out (by kernel_rfl) (by simp [Value.oneCell']) ?_; refine wpl_atG HW3.out.symm ?_) | fail)
    --M2
    refine bodyPost_ret (v := .tuple #[.int .i64 0, .agg (wtC zWtY).toArray, .int .i64 5]) (res_tctY (p := 5) (q := 4) (r := 6) (ty := 31) rfl _ _ u.heap.size (wtC zWtY) _ _ _ rfl rfl rfl HQ.out Tryz.underlying31 rfl (by kernel_rfl)) rfl ?_
    exact ⟨by rw [HR.out], HF.out⟩
  | some x =>
    obtain ⟨x, pl⟩ := x
    have HR : Hid (plY S s = (pl, x, 0)) := by rw [Hid]; unfold plY; rw [hf]
    rw [hf] at hl2
    simp only [Option.elim_some, Option.isSome_some, spC] at hl2
    obtain ⟨W2, hW2⟩ : ∃ Z, Z = W1.alloc (.cells (Value.int .i64 pl :: wtC x).toArray 78) := ⟨_, rfl⟩
    have b2 : Below W1.heap.size W1 W2 := by rw [hW2]; exact (Below.refl _ _).alloc (Nat.le_refl _) _
    have q2 : BoxL W2 W1.heap.size (Value.int .i64 pl :: wtC x) := by rw [hW2]; exact BoxL.new W1 78 _
    have HN : Hid (W1.heap.size ≠ u.heap.size) := by have := q1.1; rw [Hid]; omega
    have HC : Hid (∀ z, Kept (fun b => b ≠ u.heap.size) W2 z → z.cell? ⟨W1.heap.size, 0, none⟩ = some (.int .i64 pl)) := fun z hz => ((q2.kept hz HN.out).2 0 _ rfl).1
    have HC1 : Hid (∀ z, Kept (fun b => b ≠ u.heap.size) W2 z → z.rangeAt W1.heap.size 1 (wtC x)) := fun z hz j v hj => by
      have := ((q2.kept hz HN.out).2 (j + 1) v (by simpa using hj)).1
      rwa [Nat.add_comm 1 j]
    have HW2 : Hid (W1.alloc (.cells (Value.int .i64 pl :: wtC x).toArray 78) = W2) := hW2.symm
    have H2 : Hid (BoxL W2 u.heap.size (wtC zWtY) ∧ Below u.heap.size u W2) := ⟨q1.on b2, on2 b1 b2⟩
    clear hf h h1 hW1 b1 q1 b2 hW2 q2 H1
    go_enter Tryz.func21, Tryz.ntmps21
    go_upto_region 1 with fail
    rw [HW1.out]
    go_upto_region 4 with (go_at_call 36; refine hM.mono ?_; rintro e w' ⟨rfl, hw'⟩; obtain rfl := hw'.symm)
    rw [HW2.out]
    clear c0 c1 hM hl2 HW1 HW2
    go_upto_region 6 with fail
    --M3
    have hb0 : Below W2.heap.size W2 W2.drew := (Below.refl _ _).drew
    refine t0 (fun z => Kept (fun b => b ≠ u.heap.size) W2 z) (Kept.below hb0) (fun hHeld => ?_)
    have Hd : Hid (Below W2.heap.size W2 W2.drew) := hb0
    generalize hwd : W2.drew = wd at hHeld Hd ⊢
    clear hwd hb0
    try go_frame
    refine' tk 0 ?_ ?_; rotate_left
    · intro z hz; have f0 := HC.out z hz; clear hz; go_simp; try with_reducible rfl
    try go_frame
    refine' tk 1 ?_ ?_; rotate_left
    · intro z hz; have f0 := HC.out z hz; clear hz; go_simp; try with_reducible rfl
    try go_frame
    refine' tk 2 ?_ ?_; rotate_left
    · intro z hz; have f0 := HC.out z hz; clear hz; go_simp; try with_reducible rfl
    try go_frame
    refine tq 3 (.agg (wtC x).toArray) (yieldsIf_load_mid (by rfl) 31 _ rfl W1.heap.size 1 (by go_simp) (wtC x) _ (fun z hz => (HC1.out z hz)) Tryz.underlying31 rfl (by kernel_rfl)) ?_ (hi := rfl)
    try go_frame
    refine' tk 4 ?_ ?_; rotate_left
    · intro z hz; have f0 := HC.out z hz; clear hz; go_simp; try with_reducible rfl
    try go_frame
    refine ts 5 (fun K hK => ?_)
    refine want_yesY (by rfl) (wp_store_mid 31 _ _ rfl u.heap.size 0 (wtC x).toArray rfl rfl (H2.out.1.on Hd.out).there (by kernel_rfl) (by simp [Value.oneCell']) ?_)
    obtain ⟨Y, hY⟩ : ∃ Z, Z = wd.setCells u.heap.size 0 (wtC x) := ⟨_, rfl⟩
    have eY : wd.setCells u.heap.size 0 (wtC x).toArray.toList = Y := hY.symm
    rw [eY]
    have HY : Hid (Y.rangeAt u.heap.size 0 (wtC x) ∧ Below u.heap.size u Y) := ⟨by rw [hY]; exact World.rangeAt_setCells_same _ _ _ _ (H2.out.1.on Hd.out).there, by rw [hY]; exact below_setCells (on2 H2.out.2 Hd.out) (Nat.le_refl _)⟩
    refine hK.out undef _ (hHeld.trans (by rw [hY]; exact kept_setCells (fun h => h rfl))) (fun hHeld2 => ?_)
    clear hY eY
    clear hK K hHeld; have hHeld := hHeld2; clear hHeld2
    try go_frame
    refine' tk 6 ?_ ?_; rotate_left
    · intro z hz; clear hz; go_simp; try with_reducible rfl
    try go_frame
    refine tz ?_
    clear hHeld
    go_wp2_with fail
    --M4
    refine bodyPost_ret (v := .tuple #[.int .i64 pl, .agg (wtC x).toArray, .int .i64 0]) (res_tctY (p := 5) (q := 4) (r := 6) (ty := 31) rfl _ _ u.heap.size (wtC x) _ _ _ rfl rfl rfl HY.out.1 Tryz.underlying31 rfl (by kernel_rfl)) rfl ?_
    exact ⟨by rw [HR.out], HY.out.2⟩
end Go.Proofs.YtbmejaailhjgfaaGreat
namespace Go.Proofs.YtbmejaailhjgfaaGreat
open Go.RowKit Go.Maps
set_option linter.unusedSimpArgs false
set_option maxRecDepth 100000

/-- One more try. -/
def moreY (x : WtD) : WtD := if x.2.2.2.1 < 1073741824 then (x.1, x.2.1, x.2.2.1, x.2.2.2.1 + 1, x.2.2.2.2) else x
/-- What Pop answers, and what is left. -/
def PopO (S : List EnD) (x : WtD) (er : Int) (S' : List EnD) : Prop := (rdyY S = [] ∧ x = zWtY ∧ er = 5 ∧ S' = S) ∨ ∃ e ∈ S, e.2 = 1 ∧ (∀ y ∈ S, y.2 = 1 → y.1.1 ≠ e.1.1 → ahead (itY e.1) (itY y.1) = true) ∧ x = moreY e.1 ∧ er = 0 ∧ S' = othG enN e.1.1 S
theorem pop_of {F : Where} {u : World} {p hb sb nb : Nat} {A : List It} {S : List EnD} {n : Int} {Ws : List WiD} (h : QF F u p hb sb nb A S n Ws) (h0 : 0 < A.length) : ∃ e ∈ S, e.2 = 1 ∧ at_ A 0 = itY e.1 ∧ enY S e.1.1 = e.1 ∧ (∀ y ∈ S, y.2 = 1 → y.1.1 ≠ e.1.1 → ahead (itY e.1) (itY y.1) = true) := by
  have hm : at_ A 0 ∈ A := by rw [at_get h0]; exact List.getElem_mem h0
  obtain ⟨e, he, e2⟩ := List.mem_map.1 (h.pm.mem_iff.1 hm)
  obtain ⟨he, hp⟩ := List.mem_filter.1 he
  have hp : e.2 = 1 := by simpa using hp
  refine ⟨e, he, hp, e2.symm, ?_, fun y hy hp2 hne => ?_⟩
  · unfold enY
    rw [fndG_of (key := enN) h.spots.nd he]
    rfl
  · obtain ⟨a, B, rfl⟩ : ∃ a B, A = a :: B := by
      cases A with
      | nil => exact absurd h0 (Nat.lt_irrefl _)
      | cons a B => exact ⟨a, B, rfl⟩
    have ha : at_ (a :: B) 0 = a := rfl
    have hy2 : itY y.1 ∈ a :: B := h.pm.mem_iff.2 (List.mem_map.2 ⟨y, List.mem_filter.2 ⟨hy, by simpa using hp2⟩, rfl⟩)
    have hyB : itY y.1 ∈ B := by
      rcases List.mem_cons.1 hy2 with e3 | e3
      · rw [ha] at e2
        have : itY y.1 = itY e.1 := by rw [e3, e2]
        exact absurd (congrArg Prod.fst this) hne
      · exact e3
    have := pop_ahead (A := a :: B) (B := B) h.hp h.heap.dk (by rw [ha]; exact List.perm_append_comm (l₁ := B) (l₂ := [a])) _ hyB
    rw [← e2] at this
    exact this
/-- What Pop leaves. -/
def PopR (F : Where) (u : World) (p : Nat) (S : List EnD) (n : Int) (Ws : List WiD) (e : Ending) (w' : World) : Prop := ∃ x er S', e = .returned (.tuple #[.agg (wtC x).toArray, .int .i64 er]) ∧ PopO S x er S' ∧ QA F w' p S' n Ws ∧ Turns F u w'
set_option maxHeartbeats 16000000 in
theorem ypop_calls {F : Where} {u : World} {p : Nat} {S : List EnD} {n : Int} {Ws : List WiD} (h : QA F u p S n Ws) (hF : ∀ b, u.heap.size ≤ b → F b) (hl : S.length < 1000000000) (ht : ∀ e ∈ S, -9223372036854775808 ≤ e.1.2.2.2.1) :
    Calls Tryz.prog 8 #[.pointer (some ⟨p, 0, none⟩)] u (PopR F u p S n Ws) := by
  obtain ⟨W1, hW1⟩ : ∃ Z, Z = u.alloc (.cells #[.string ⟨#[]⟩, .int .i64 0, .int .i64 0, .int .i64 0, .int .i64 0] 31) := ⟨_, rfl⟩
  have b1 : Below u.heap.size u W1 := by rw [hW1]; exact (Below.refl _ _).alloc (Nat.le_refl _) _
  have q1 : BoxL W1 u.heap.size (wtC zWtY) := by rw [hW1]; exact BoxL.new u 31 _
  have hlt := h.lt
  obtain ⟨hb, sb, nb, A, h⟩ := h
  have h1 := (h.weak (G := fun b => F b ∧ b ≠ u.heap.size) (fun b hb hf => ⟨hf, by omega⟩)).on b1
  have c0 := h1.c0
  have hM := ymade_calls c0 ⟨_, rfl⟩
  have HW1 : Hid (u.alloc (.cells #[.string ⟨#[]⟩, .int .i64 0, .int .i64 0, .int .i64 0, .int .i64 0] 31) = W1) := hW1.symm
  have HF : Hid (∀ b, u.heap.size ≤ b → F b) := hF
  by_cases hA0 : A.length = 0
  · obtain rfl : A = [] := List.length_eq_zero_iff.1 hA0
    have hR : Hid (PopO S zWtY 5 S) := .inl ⟨List.Perm.nil_eq h.pm |>.symm, rfl, rfl, rfl⟩
    have hP := Peek_none h1.heap
    simp only [vI, zI] at hP
    have HQ1 : Hid (QA (fun b => F b ∧ b ≠ u.heap.size) W1 p S n Ws) := ⟨hb, sb, nb, [], h1⟩
    have H1 : Hid (QF F W1 p hb sb nb [] S n Ws ∧ BoxL W1 u.heap.size (wtC zWtY) ∧ Below u.heap.size u W1) := ⟨h.on b1, q1, b1⟩
    clear hW1 h h1 b1 q1 hF
    go_enter Tryz.func8, Tryz.ntmps8
    go_upto_region 1 with fail
    rw [HW1.out]
    go_upto_region 3 with (go_at_call 36; refine hM.mono ?_; rintro e w' ⟨rfl, hw'⟩; obtain rfl := hw'.symm)
    go_wp2_with fail
    refine hP.mono ?_
    rintro e w2 ⟨rfl, hb2⟩
    obtain ⟨W3, hW3⟩ : ∃ Z, Z = w2.alloc (.cells #[.string ⟨#[]⟩, .int .i64 0, .int .i64 0] 67) := ⟨_, rfl⟩
    have b3 : Below W1.heap.size W1 W3 := by rw [hW3]; exact on2 hb2 ((Below.refl _ _).alloc (Nat.le_refl _) _)
    have q3 := H1.out.2.1.on b3
    obtain ⟨W4, hW4⟩ : ∃ Z, Z = W3.setCells u.heap.size 0 (wtC zWtY) := ⟨_, rfl⟩
    have HTh : Hid (W3.there u.heap.size 0 (wtC zWtY).toArray.size) := q3.there
    have HW3 : Hid (w2.alloc (.cells #[.string ⟨#[]⟩, .int .i64 0, .int .i64 0] 67) = W3) := hW3.symm
    have HW4 : Hid (W3.setCells u.heap.size 0 (wtC zWtY).toArray.toList = W4) := hW4.symm
    have HQ : Hid (W4.rangeAt u.heap.size 0 (wtC zWtY)) := by rw [hW4]; exact World.rangeAt_setCells_same _ _ _ _ q3.there
    have B4 : Below u.heap.size u W4 := by rw [hW4]; exact below_setCells (on2 H1.out.2.2 b3) (Nat.le_refl _)
    have HB4 : Hid (Below u.heap.size u W4) := B4
    have HQ4 : Hid (QA F W4 p S n Ws) := by rw [hW4]; exact ((HQ1.out.on b3).kept (fun b hb hf => (kept_setCells (A := fun b => b ≠ u.heap.size) (fun h => h rfl)).2 b hf.2 hb)).weak (fun b _ hf => hf.1)
    clear hM c0 hP hb2 hW3 hW4 b3 q3 B4
    go_upto_region 4 with fail
    rw [HW3.out]
    --M1
    go_wp2_with (first | (refine wpList_store_mid rfl 31 _ _ rfl u.heap.size 0 (wtC zWtY).toArray rfl rfl HTh.out (by kernel_rfl) (by simp [Value.oneCell']) ?_; refine wpl_atG HW4.out.symm ?_) | fail)
    refine bodyPost_ret (v := .tuple #[.agg (wtC zWtY).toArray, .int .i64 5]) (res_cell2 (p := 2) (q := 3) (ty := 31) rfl _ _ u.heap.size (wtC zWtY) _ _ rfl rfl HQ.out Tryz.underlying31 rfl (by kernel_rfl)) rfl ?_
    exact ⟨zWtY, 5, S, rfl, hR.out, HQ4.out, Turns.below HB4.out⟩
  · obtain ⟨e0, he0, hp0, hat, hen, hah⟩ := pop_of h (by omega)
    have hP := Peek_some h1.heap (by omega)
    rw [hat] at hP
    obtain ⟨x, pl⟩ := e0
    simp only at hat hen hah hp0
    have hR : Hid (∀ y, y = moreY x → PopO S y 0 (othG enN x.1 S)) := fun y hy => .inr ⟨(x, pl), he0, hp0, hah, hy, rfl, rfl⟩
    have hxs := (h.ok _ he0).1
    have hxt := ht _ he0
    simp only at hxs hxt
    have H1 : Hid (QA (fun b => F b ∧ b ≠ u.heap.size) W1 p S n Ws ∧ BoxL W1 u.heap.size (wtC zWtY) ∧ Below u.heap.size u W1) := ⟨⟨hb, sb, nb, A, h1⟩, q1, b1⟩
    have Hen : Hid (enY S x.1 = x) := hen
    have Hm : Hid (∀ z : Int, x.2.2.2.1 < 1073741824 → moreY x = (x.1, x.2.1, x.2.2.1, x.2.2.2.1 + 1, x.2.2.2.2)) := fun _ hz => if_pos hz
    have Hm2 : Hid (¬ x.2.2.2.1 < 1073741824 → moreY x = x) := fun hz => if_neg hz
    clear hW1 h h1 b1 q1 hF hat hen hah he0 hp0 ht
    obtain ⟨s, x1, x2, x3, x4⟩ := x
    simp only at hxs hxt
    simp only [vI, itY] at hP
    go_enter Tryz.func8, Tryz.ntmps8
    go_upto_region 1 with fail
    rw [HW1.out]
    go_upto_region 3 with (go_at_call 36; refine hM.mono ?_; rintro e w' ⟨rfl, hw'⟩; obtain rfl := hw'.symm)
    go_wp2_with fail
    refine hP.mono ?_
    rintro e w2 ⟨rfl, hb2⟩
    obtain ⟨W3, hW3⟩ : ∃ Z, Z = w2.alloc (.cells #[.string s, .int .i64 x1, .int .i64 x2] 67) := ⟨_, rfl⟩
    have b3 : Below W1.heap.size W1 W3 := by rw [hW3]; exact on2 hb2 ((Below.refl _ _).alloc (Nat.le_refl _) _)
    have q3 : BoxL W3 w2.heap.size [.string s, .int .i64 x1, .int .i64 x2] := by rw [hW3]; exact BoxL.new w2 67 _
    have c3 : W3.cell? ⟨w2.heap.size, 0, none⟩ = some (.string s) := (q3.2 0 _ rfl).1
    have hT := ytake_calls (H1.out.1.on b3) (fun b hb => ⟨HF.out b (Nat.le_trans (on2 H1.out.2.2 b3).size hb), by have h1 := H1.out.2.1.1; have h2 := b3.size; omega⟩) s hxs hl
    rw [Hen.out] at hT
    have HW3 : Hid (w2.alloc (.cells #[.string s, .int .i64 x1, .int .i64 x2] 67) = W3) := hW3.symm
    have HB3 : Hid (Below W1.heap.size W1 W3) := b3
    clear hM c0 hP hb2 hW3 b3 q3
    go_upto_region 4 with fail
    rw [HW3.out]
    go_wp2_with fail
    refine hT.mono ?_
    rintro e w4 ⟨rfl, h4, t4⟩
    have q4 := t4.box (H1.out.2.1.on HB3.out) (fun hf => hf.2 rfl)
    obtain ⟨W5, hW5⟩ : ∃ Z, Z = w4.alloc (.cells #[.string s, .int .i64 x1, .int .i64 x2, .int .i64 x3, .int .i64 x4] 31) := ⟨_, rfl⟩
    have b5 : Below w4.heap.size w4 W5 := by rw [hW5]; exact (Below.refl _ _).alloc (Nat.le_refl _) _
    have q5 : BoxL W5 w4.heap.size [.string s, .int .i64 x1, .int .i64 x2, .int .i64 x3, .int .i64 x4] := by rw [hW5]; exact BoxL.new w4 31 _
    have H5 : Hid (QA (fun b => F b ∧ b ≠ u.heap.size ∧ b ≠ w4.heap.size) W5 p (othG enN s S) n Ws ∧ Turns F u W5) := ⟨(h4.weak (fun b hb hf => ⟨hf.1, hf.2, by omega⟩)).on b5, (Turns.below (on2 H1.out.2.2 HB3.out)).trans ((t4.weak (fun b _ hf => hf.1)).trans (Turns.below b5))⟩
    have hle : u.heap.size ≤ w4.heap.size := Nat.le_trans H1.out.2.2.size (Nat.le_trans HB3.out.size t4.size)
    have HL4 : Hid (u.heap.size ≤ w4.heap.size) := hle
    have HW5 : Hid (w4.alloc (.cells #[.string s, .int .i64 x1, .int .i64 x2, .int .i64 x3, .int .i64 x4] 31) = W5) := hW5.symm
    have d3 : W5.cell? ⟨w4.heap.size, 3, none⟩ = some (.int .i64 x3) := (q5.2 3 _ rfl).1
    have g3 : W5.frozen? ⟨w4.heap.size, 3, none⟩ = false := (q5.2 3 _ rfl).2
    have H45 : Hid (BoxL W5 u.heap.size (wtC zWtY) ∧ BoxL W5 w4.heap.size [.string s, .int .i64 x1, .int .i64 x2, .int .i64 x3, .int .i64 x4] ∧ w4.heap.size ≠ u.heap.size) := ⟨q4.on b5, q5, by have := q4.1; omega⟩
    have HFS : Hid (∀ (Z : World) (y : WtD), QA (fun b => F b ∧ b ≠ u.heap.size ∧ b ≠ w4.heap.size) Z p (othG enN s S) n Ws → Turns F u Z → QA F (Z.setCells u.heap.size 0 (wtC y)) p (othG enN s S) n Ws ∧ Turns F u (Z.setCells u.heap.size 0 (wtC y))) := fun Z y hq hz =>
      ⟨(hq.kept (fun b hb hf => (kept_setCells (A := fun b => b ≠ u.heap.size) (fun h => h rfl)).2 b hf.2.1 hb)).weak (fun b _ hf => hf.1), hz.trans (turns_cells (HF.out _ (Nat.le_refl _)))⟩
    clear hT t4 h4 q4 hW5 b5 q5 c3 hle
    go_upto_region 7 with fail
    rw [HW5.out]
    clear HW5 HW3
    by_cases hx3 : x3 < 1073741824
    · have hmo : moreY (s, x1, x2, x3, x4) = (s, x1, x2, x3 + 1, x4) := if_pos hx3
      obtain ⟨W6, hW6⟩ : ∃ Z, Z = W5.setCell ⟨w4.heap.size, 3, none⟩ (.int .i64 (x3 + 1)) := ⟨_, rfl⟩
      have k6 : Kept (fun b => b ≠ w4.heap.size) W5 W6 := by rw [hW6]; exact Kept.set (p := ⟨w4.heap.size, 3, none⟩) (fun h => h rfl) _
      have q6 : BoxL W6 w4.heap.size (wtC (s, x1, x2, x3 + 1, x4)) := by rw [hW6]; exact H45.out.2.1.set 3 _ (by simp)
      have q6a : BoxL W6 u.heap.size (wtC zWtY) := H45.out.1.kept k6 (fun e => H45.out.2.2 e.symm)
      have h6 := HFS.out W6 (s, x1, x2, x3 + 1, x4) (H5.out.1.kept (fun b hb hf => k6.2 b hf.2.2 hb)) (by rw [hW6]; exact H5.out.2.trans (Turns.set (p := ⟨w4.heap.size, 3, none⟩) (HF.out _ HL4.out) _))
      obtain ⟨W7, hW7⟩ : ∃ Z, Z = W6.setCells u.heap.size 0 (wtC (s, x1, x2, x3 + 1, x4)) := ⟨_, rfl⟩
      have HX6 : Hid (W6.rangeAt w4.heap.size 0 (wtC (s, x1, x2, x3 + 1, x4))) := q6.range
      have HTh : Hid (W6.there u.heap.size 0 (wtC (s, x1, x2, x3 + 1, x4)).toArray.size) := q6a.there
      have HQ : Hid (W7.rangeAt u.heap.size 0 (wtC (s, x1, x2, x3 + 1, x4))) := by rw [hW7]; exact World.rangeAt_setCells_same _ _ _ _ q6a.there
      rw [← hW7] at h6
      have H6 : Hid (QA F W7 p (othG enN s S) n Ws ∧ Turns F u W7) := h6
      have HW6 : Hid (W5.setCell ⟨w4.heap.size, 3, none⟩ (.int .i64 (x3 + 1)) = W6) := hW6.symm
      have HW7 : Hid (W6.setCells u.heap.size 0 (wtC (s, x1, x2, x3 + 1, x4)).toArray.toList = W7) := hW7.symm
      have HR : Hid (PopO S (s, x1, x2, x3 + 1, x4) 0 (othG enN s S)) := hR.out _ hmo.symm
      clear hW6 hW7 k6 q6 q6a h6 hmo Hm2 Hm
      go_upto_region 9 with fail
      rw [HW6.out]
      --M2
      go_wp2_with (first | (refine wpList_load_mid rfl 31 _ rfl w4.heap.size 0 rfl (wtC (s, x1, x2, x3 + 1, x4)) _ HX6.out Tryz.underlying31 rfl (by kernel_rfl) ?_) | (refine wpList_store_mid rfl 31 _ _ rfl u.heap.size 0 (wtC (s, x1, x2, x3 + 1, x4)).toArray rfl rfl HTh.out (by kernel_rfl) (by simp [Value.oneCell']) ?_; refine wpl_atG HW7.out.symm ?_) | fail)
      refine bodyPost_ret (v := .tuple #[.agg (wtC (s, x1, x2, x3 + 1, x4)).toArray, .int .i64 0]) (res_cell2 (p := 2) (q := 3) (ty := 31) rfl _ _ u.heap.size (wtC (s, x1, x2, x3 + 1, x4)) _ _ rfl rfl HQ.out Tryz.underlying31 rfl (by kernel_rfl)) rfl ?_
      exact ⟨_, _, _, rfl, HR.out, H6.out.1, H6.out.2⟩
    · have hmo : moreY (s, x1, x2, x3, x4) = (s, x1, x2, x3, x4) := if_neg hx3
      have h6 := HFS.out W5 (s, x1, x2, x3, x4) H5.out.1 H5.out.2
      obtain ⟨W7, hW7⟩ : ∃ Z, Z = W5.setCells u.heap.size 0 (wtC (s, x1, x2, x3, x4)) := ⟨_, rfl⟩
      have HX6 : Hid (W5.rangeAt w4.heap.size 0 (wtC (s, x1, x2, x3, x4))) := H45.out.2.1.range
      have HTh : Hid (W5.there u.heap.size 0 (wtC (s, x1, x2, x3, x4)).toArray.size) := H45.out.1.there
      have HQ : Hid (W7.rangeAt u.heap.size 0 (wtC (s, x1, x2, x3, x4))) := by rw [hW7]; exact World.rangeAt_setCells_same _ _ _ _ H45.out.1.there
      rw [← hW7] at h6
      have H6 : Hid (QA F W7 p (othG enN s S) n Ws ∧ Turns F u W7) := h6
      have HW7 : Hid (W5.setCells u.heap.size 0 (wtC (s, x1, x2, x3, x4)).toArray.toList = W7) := hW7.symm
      have HR : Hid (PopO S (s, x1, x2, x3, x4) 0 (othG enN s S)) := hR.out _ hmo.symm
      clear hW7 h6 hmo Hm2 Hm
      go_wp2_with (first | (refine wpList_load_mid rfl 31 _ rfl w4.heap.size 0 rfl (wtC (s, x1, x2, x3, x4)) _ HX6.out Tryz.underlying31 rfl (by kernel_rfl) ?_) | (refine wpList_store_mid rfl 31 _ _ rfl u.heap.size 0 (wtC (s, x1, x2, x3, x4)).toArray rfl rfl HTh.out (by kernel_rfl) (by simp [Value.oneCell']) ?_; refine wpl_atG HW7.out.symm ?_) | fail)
      refine bodyPost_ret (v := .tuple #[.agg (wtC (s, x1, x2, x3, x4)).toArray, .int .i64 0]) (res_cell2 (p := 2) (q := 3) (ty := 31) rfl _ _ u.heap.size (wtC (s, x1, x2, x3, x4)) _ _ rfl rfl HQ.out Tryz.underlying31 rfl (by kernel_rfl)) rfl ?_
      exact ⟨_, _, _, rfl, HR.out, H6.out.1, H6.out.2⟩
end Go.Proofs.YtbmejaailhjgfaaGreat
