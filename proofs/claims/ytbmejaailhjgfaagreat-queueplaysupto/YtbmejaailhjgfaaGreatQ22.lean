/- The document's queue: Move, Tick. Condition: the queue lies as is said of it. The document's queue: Back. Condition: the queue lies as is said of it; its entries are not too many. -/
import Derived.Test.YtbmejaailhjgfaaGreatQ21
namespace Go.Proofs.YtbmejaailhjgfaaGreat
open Go.RowKit
set_option linter.unusedSimpArgs false
set_option maxRecDepth 100000

/-- The first so many are turned. -/
def upTo (f : EnD → EnD) (L : List EnD) (i : Nat) : List EnD := (L.take i).map f ++ L.drop i
section
variable {f : EnD → EnD} {L : List EnD} {i : Nat}
theorem up_len (f : EnD → EnD) (L : List EnD) (i : Nat) : (upTo f L i).length = L.length := by unfold upTo; rw [List.length_append, List.length_map, ← List.length_append, List.take_append_drop]
theorem up_at (f : EnD → EnD) (h : i < L.length) : (upTo f L i).getD i default = L.getD i default := by
  have h1 : ((L.take i).map f).length = i := by rw [List.length_map, List.length_take]; omega
  unfold upTo
  rw [List.getD_eq_getElem?_getD, List.getElem?_append_right (by omega), h1, Nat.sub_self, List.getElem?_drop, Nat.add_zero, ← List.getD_eq_getElem?_getD]
theorem up_succ (f : EnD → EnD) (h : i < L.length) : upTo f L (i + 1) = (upTo f L i).set i (f (L.getD i default)) := by
  have h1 : ((L.take i).map f).length = i := by rw [List.length_map, List.length_take]; omega
  unfold upTo
  rw [← take_atG h, List.map_append, List.map_cons, List.map_nil, List.set_append_right _ _ (by omega), h1, Nat.sub_self, List.append_assoc]
  congr 1
  rw [List.drop_eq_getElem_cons h, List.set_cons_zero]
  rfl
theorem set_self (h : i < L.length) : L.set i (L.getD i default) = L := by rw [getD_at h]; exact List.set_getElem_self h
theorem getD_set_same {x : EnD} (h : i < L.length) : (L.set i x).getD i default = x := by rw [getD_at (by rw [List.length_set]; exact h)]; simp
end
def movE (now : Int) (e : EnD) : EnD := if e.2 = 3 then (e.1, if e.1.2.2.2.2 ≤ now then 1 else 2) else e
def movN (_now : Int) (L : List EnD) : Nat := L.countP (fun e => decide (e.2 = 3))
def tikE (now : Int) (e : EnD) : EnD := if e.2 = 2 ∧ e.1.2.2.2.2 ≤ now then (e.1, 1) else e
def tikN (now : Int) (L : List EnD) : Nat := L.countP (fun e => decide (e.2 = 2 ∧ e.1.2.2.2.2 ≤ now))
theorem movN_le (now : Int) (L : List EnD) (i : Nat) : movN now (L.take i) ≤ i := Nat.le_trans List.countP_le_length (by rw [List.length_take]; omega)
theorem tikN_le (now : Int) (L : List EnD) (i : Nat) : tikN now (L.take i) ≤ i := Nat.le_trans List.countP_le_length (by rw [List.length_take]; omega)
theorem movN_succ (now : Int) {L : List EnD} {i : Nat} (h : i < L.length) : movN now (L.take (i + 1)) = movN now (L.take i) + if (L.getD i default).2 = 3 then 1 else 0 := by unfold movN; rw [← take_atG h, List.countP_append, List.countP_singleton]; simp
theorem tikN_succ (now : Int) {L : List EnD} {i : Nat} (h : i < L.length) : tikN now (L.take (i + 1)) = tikN now (L.take i) + if (L.getD i default).2 = 2 ∧ (L.getD i default).1.2.2.2.2 ≤ now then 1 else 0 := by unfold tikN; rw [← take_atG h, List.countP_append, List.countP_singleton]; simp
theorem when_calls (t : Int) (u : World) : Calls Tryz.prog 42 #[.int .i64 t] u fun e u' => e = .returned (.bool (whenB t)) ∧ u' = u := by
  by_cases h0 : 0 ≤ t
  · by_cases h1 : t ≤ 1099511627712
    · have e1 : whenB t = true := by unfold whenB; rw [decide_eq_true h0, decide_eq_true h1]; rfl
      rw [e1]
      go_enter Tryz.func42, Tryz.ntmps42
      go_wp2_with fail
      go_ret
      exact ⟨rfl, rfl⟩
    · have e1 : whenB t = false := by unfold whenB; rw [decide_eq_true h0, decide_eq_false h1]; rfl
      rw [e1]
      go_enter Tryz.func42, Tryz.ntmps42
      go_wp2_with fail
      go_ret
      exact ⟨rfl, rfl⟩
  · have e1 : whenB t = false := by unfold whenB; rw [decide_eq_false h0]; rfl
    rw [e1]
    go_enter Tryz.func42, Tryz.ntmps42
    go_wp2_with fail
    go_ret
    exact ⟨rfl, rfl⟩
set_option maxHeartbeats 16000000 in
theorem rMove_calls (w : World) (p : Nat) (a b : Value) (L : List EnD) (n : Int) (Ws : List WiD) (now : Int) (u : World) (h : RqE w u p a b L n Ws) (hl : L.length * 56 ≤ 140737488351232) : Calls Tryz.prog 13 #[.pointer (some ⟨p, 0, none⟩), .int .i64 now] u fun e u' => e = .returned (.tuple #[.int .i64 (if whenB now = true then (movN now L : Int) else 0), .int .i64 (if whenB now = true then 0 else 2)]) ∧ QOut w p a b (if whenB now = true then L.map (movE now) else L) n Ws u u' := by
  have hC := when_calls now u
  have Hh : Hid (RqE w u p a b L n Ws) := h
  cases hw : whenB now with
  | false =>
    rw [hw] at hC
    have HF : Hid (QOut w p a b L n Ws u u) := QOut.same h (Below.refl _ _)
    clear h
    go_enter Tryz.func13, Tryz.ntmps13
    go_wp2_with fail
    refine hC.mono ?_
    rintro e u1 ⟨rfl, rfl⟩
    clear hC
    go_wp2_with fail
    go_ret2
    exact ⟨rfl, HF.out⟩
  | true =>
    rw [hw] at hC
    obtain ⟨aa, m, cc, rfl⟩ := h.ra.headG
    have hm := h.len
    have hml : m < 1000000000000000 := by omega
    have Hm : Hid (m = L.length) := hm
    have HI : Hid (RqE w u p (.slice aa m cc) b (upTo (movE now) L 0) n Ws ∧ Kept (fun x => (Value.slice aa m cc).ownBlock ≠ some x) u u) := ⟨h, Kept.refl _ _⟩
    clear h hm hl hw
    go_enter Tryz.func13, Tryz.ntmps13
    go_wp2_with fail
    refine hC.mono ?_
    rintro e u1 ⟨rfl, rfl⟩
    clear hC
    go_wp2_with fail
    --M1
    go_loopw [6, 7] (fun cv iv wr => ∃ i : Nat, i ≤ m ∧ iv = .int .i64 i ∧ cv = .int .i64 (movN now (L.take i) : Int) ∧ Hid (RqE w wr p (.slice aa m cc) b (upTo (movE now) L i) n Ws ∧ Kept (fun x => (Value.slice aa m cc).ownBlock ≠ some x) u1 wr)) (fun _ iv _ => m - (intOf iv).toNat)
    case atStart => exact ⟨0, Nat.zero_le _, rfl, rfl, HI⟩
    case round =>
      obtain ⟨i, him, rfl, rfl, hrow⟩ := hrel
      clear HI
      have c0 := (hrow.out.1.box.2 0 _ rfl).1
      have hcb : movN now (L.take i) ≤ i := movN_le now L i
      by_cases hge : m ≤ i
      · obtain rfl : i = m := by omega
        have hltz : ¬ ((i : Int) < (i : Int)) := by omega
        have e1 : L.take i = L := List.take_of_length_le (by rw [Hm.out]; omega)
        have e2 : upTo (movE now) L i = L.map (movE now) := by unfold upTo; rw [e1, List.drop_of_length_le (by rw [Hm.out]; omega), List.append_nil]
        rw [e1]
        rw [e2] at hrow
        have HF : Hid (QOut w p (.slice aa i cc) b (L.map (movE now)) n Ws u1 wr) := ⟨_, b, hrow.out.1, hrow.out.2.weak (fun x hx e => hx (.inr (.inl e))), fun x hx => .inl hx⟩
        obtain ⟨q, hq⟩ : ∃ q, q = movN now L := ⟨_, rfl⟩
        have Hq : Hid (movN now L = q) := hq.symm
        rw [← hq]
        clear hrow e1 e2 hcb hq
        go_wp2_with fail
        go_ret2
        exact ⟨by rw [Hq.out]; rfl, HF.out⟩
      · have hlt : i < m := by omega
        have hltz : (i : Int) < (m : Int) := by omega
        have hiL : i < L.length := by rw [← Hm.out]; exact hlt
        obtain ⟨g, c, e0, hg, ok, hr, hfz⟩ := hrow.out.1.get (i := i) (by rw [up_len]; exact hiL)
        obtain ⟨rfl, rfl⟩ : aa = some ⟨g, 0, none⟩ ∧ cc = c := by simp only [Value.slice.injEq] at e0; exact ⟨e0.1, e0.2.2⟩
        rw [up_at _ hiL] at hr
        obtain ⟨e, he⟩ : ∃ e, e = L.getD i default := ⟨_, rfl⟩
        rw [← he] at hr
        have d4 := hr 4 _ rfl
        have d5 := hr 5 _ rfl
        have z5 := hfz (i * 6 + 5)
        have HS : Hid (upTo (movE now) L (i + 1) = (upTo (movE now) L i).set i (movE now e)) := by rw [Hid, he]; exact up_succ _ hiL
        have HN : Hid (movN now (L.take (i + 1)) = movN now (L.take i) + if e.2 = 3 then 1 else 0) := by rw [Hid, he]; exact movN_succ now hiL
        have HU : Hid ((upTo (movE now) L i).getD i default = e) := by rw [Hid, up_at _ hiL, he]
        have HL : Hid (i < (upTo (movE now) L i).length ∧ (upTo (movE now) L i).length = m) := ⟨by rw [up_len]; exact hiL, by rw [up_len, Hm.out]⟩
        have HK : Hid (∀ v : Value, Kept (fun x => (Value.slice (some ⟨g, 0, none⟩) m cc).ownBlock ≠ some x) wr (wr.setCell ⟨g, i * 6 + 5, none⟩ v)) := fun v => Kept.set (p := ⟨g, i * 6 + 5, none⟩) (fun h => h rfl) v
        generalize movN now (L.take i) = q at hcb HN
        obtain ⟨⟨en, e1, e2, e3, tl⟩, pl⟩ := e
        simp only at d4 d5
        clear hr e0 he hfz ok
        by_cases hp : pl = 3
        · subst hp
          by_cases ht : tl ≤ now
          · have Ht : Hid (tl ≤ now) := ht
            have hN0 := hrow.out.1.setP HL.out.2 hlt 2
            have hN1 := hN0.setP (by rw [List.length_set]; exact HL.out.2) hlt 1
            rw [List.set_set, getD_set_same HL.out.1] at hN1
            have d6 := ((hN0.get (i := i) (by rw [List.length_set]; exact HL.out.1)))
            rw [HU.out] at hN1
            have HN2 : Hid ((movN now (L.take (i + 1)) : Int) = (q : Int) + 1) := by rw [Hid, HN.out, if_pos rfl]; simp
            have HR2 : Hid (RqE w ((wr.setCell ⟨g, i * 6 + 5, none⟩ (.int .i64 2)).setCell ⟨g, i * 6 + 5, none⟩ (.int .i64 1)) p (.slice (some ⟨g, 0, none⟩) m cc) b (upTo (movE now) L (i + 1)) n Ws) := by
              rw [Hid, HS.out]
              have h1 : movE now ((en, e1, e2, e3, tl), 3) = ((en, e1, e2, e3, tl), 1) := by unfold movE; simp [Ht.out]
              rw [h1]; exact hN1
            have HKK : Hid (Kept (fun x => (Value.slice (some ⟨g, 0, none⟩) m cc).ownBlock ≠ some x) u1 ((wr.setCell ⟨g, i * 6 + 5, none⟩ (.int .i64 2)).setCell ⟨g, i * 6 + 5, none⟩ (.int .i64 1))) := (hrow.out.2.trans (HK.out _)).trans (Kept.set (p := ⟨g, i * 6 + 5, none⟩) (fun h => h rfl) _)
            obtain ⟨g7, c7, e7, _, _, r7, z7⟩ := d6
            obtain rfl : g = g7 := by simp only [Value.slice.injEq, Option.some.injEq, Addr.mk.injEq, and_true] at e7; exact e7.1
            rw [getD_set_same HL.out.1, HU.out] at r7
            have x4 := r7 4 _ rfl
            have x5 := r7 5 _ rfl
            have x6 := z7 (i * 6 + 5)
            have hc0 := (hN0.box.2 0 _ rfl).1
            clear r7 z7 e7 hN0
            clear hrow HS HN HU HK hN1
            go_wp2_with fail
            go_roundw
            case rel => exact ⟨i + 1, by omega, by go_num, by rw [HN2.out], HR2.out, HKK.out⟩
            case measure => simp [intOf]; omega
          · have Ht : Hid (¬ tl ≤ now) := ht
            have hN1 := hrow.out.1.setP HL.out.2 hlt 2
            rw [HU.out] at hN1
            have HN2 : Hid ((movN now (L.take (i + 1)) : Int) = (q : Int) + 1) := by rw [Hid, HN.out, if_pos rfl]; simp
            have HR2 : Hid (RqE w (wr.setCell ⟨g, i * 6 + 5, none⟩ (.int .i64 2)) p (.slice (some ⟨g, 0, none⟩) m cc) b (upTo (movE now) L (i + 1)) n Ws) := by
              rw [Hid, HS.out]
              have h1 : movE now ((en, e1, e2, e3, tl), 3) = ((en, e1, e2, e3, tl), 2) := by unfold movE; simp [Ht.out]
              rw [h1]; exact hN1
            have HKK : Hid (Kept (fun x => (Value.slice (some ⟨g, 0, none⟩) m cc).ownBlock ≠ some x) u1 (wr.setCell ⟨g, i * 6 + 5, none⟩ (.int .i64 2))) := hrow.out.2.trans (HK.out _)
            have hc0 := (hN1.box.2 0 _ rfl).1
            obtain ⟨g7, c7, e7, _, _, r7, z7⟩ := hN1.get (i := i) (by rw [List.length_set]; exact HL.out.1)
            obtain rfl : g = g7 := by simp only [Value.slice.injEq, Option.some.injEq, Addr.mk.injEq, and_true] at e7; exact e7.1
            rw [getD_set_same HL.out.1] at r7
            have x4 := r7 4 _ rfl
            clear r7 z7 e7
            clear hrow HS HN HU HK hN1
            go_wp2_with fail
            go_roundw
            case rel => exact ⟨i + 1, by omega, by go_num, by rw [HN2.out], HR2.out, HKK.out⟩
            case measure => simp [intOf]; omega
        · have hpb : (pl == 3) = false := by simpa using hp
          have hpc : (pl != 3) = true := by simpa using hp
          have HN2 : Hid ((movN now (L.take (i + 1)) : Int) = (q : Int)) := by rw [Hid, HN.out, if_neg hp]; simp
          have HR2 : Hid (RqE w wr p (.slice (some ⟨g, 0, none⟩) m cc) b (upTo (movE now) L (i + 1)) n Ws) := by
            rw [Hid, HS.out]
            have h1 : movE now ((en, e1, e2, e3, tl), pl) = (upTo (movE now) L i).getD i default := by rw [HU.out]; unfold movE; simp [hp]
            rw [h1, set_self HL.out.1]
            exact hrow.out.1
          have HKK : Hid (Kept (fun x => (Value.slice (some ⟨g, 0, none⟩) m cc).ownBlock ≠ some x) u1 wr) := hrow.out.2
          clear hrow HS HN HU HK
          go_wp2_with fail
          go_roundw
          case rel => exact ⟨i + 1, by omega, by go_num, by rw [HN2.out], HR2.out, HKK.out⟩
          case measure => simp [intOf]; omega
set_option maxHeartbeats 16000000 in
theorem rTick_calls (w : World) (p : Nat) (a b : Value) (L : List EnD) (n : Int) (Ws : List WiD) (now : Int) (u : World) (h : RqE w u p a b L n Ws) (hl : L.length * 56 ≤ 140737488351232) : Calls Tryz.prog 15 #[.pointer (some ⟨p, 0, none⟩), .int .i64 now] u fun e u' => e = .returned (.tuple #[.int .i64 (if whenB now = true then (tikN now L : Int) else 0), .int .i64 (if whenB now = true then 0 else 2)]) ∧ QOut w p a b (if whenB now = true then L.map (tikE now) else L) n Ws u u' := by
  have hC := when_calls now u
  have Hh : Hid (RqE w u p a b L n Ws) := h
  cases hw : whenB now with
  | false =>
    rw [hw] at hC
    have HF : Hid (QOut w p a b L n Ws u u) := QOut.same h (Below.refl _ _)
    clear h
    go_enter Tryz.func15, Tryz.ntmps15
    go_wp2_with fail
    refine hC.mono ?_
    rintro e u1 ⟨rfl, rfl⟩
    clear hC
    go_wp2_with fail
    go_ret2
    exact ⟨rfl, HF.out⟩
  | true =>
    rw [hw] at hC
    obtain ⟨aa, m, cc, rfl⟩ := h.ra.headG
    have hm := h.len
    have hml : m < 1000000000000000 := by omega
    have Hm : Hid (m = L.length) := hm
    have HI : Hid (RqE w u p (.slice aa m cc) b (upTo (tikE now) L 0) n Ws ∧ Kept (fun x => (Value.slice aa m cc).ownBlock ≠ some x) u u) := ⟨h, Kept.refl _ _⟩
    clear h hm hl hw
    go_enter Tryz.func15, Tryz.ntmps15
    go_wp2_with fail
    refine hC.mono ?_
    rintro e u1 ⟨rfl, rfl⟩
    clear hC
    go_wp2_with fail
    --M1
    go_loopw [6, 7] (fun cv iv wr => ∃ i : Nat, i ≤ m ∧ iv = .int .i64 i ∧ cv = .int .i64 (tikN now (L.take i) : Int) ∧ Hid (RqE w wr p (.slice aa m cc) b (upTo (tikE now) L i) n Ws ∧ Kept (fun x => (Value.slice aa m cc).ownBlock ≠ some x) u1 wr)) (fun _ iv _ => m - (intOf iv).toNat)
    case atStart => exact ⟨0, Nat.zero_le _, rfl, rfl, HI⟩
    case round =>
      obtain ⟨i, him, rfl, rfl, hrow⟩ := hrel
      clear HI
      have c0 := (hrow.out.1.box.2 0 _ rfl).1
      have hcb : tikN now (L.take i) ≤ i := tikN_le now L i
      by_cases hge : m ≤ i
      · obtain rfl : i = m := by omega
        have hltz : ¬ ((i : Int) < (i : Int)) := by omega
        have e1 : L.take i = L := List.take_of_length_le (by rw [Hm.out]; omega)
        have e2 : upTo (tikE now) L i = L.map (tikE now) := by unfold upTo; rw [e1, List.drop_of_length_le (by rw [Hm.out]; omega), List.append_nil]
        rw [e1]
        rw [e2] at hrow
        have HF : Hid (QOut w p (.slice aa i cc) b (L.map (tikE now)) n Ws u1 wr) := ⟨_, b, hrow.out.1, hrow.out.2.weak (fun x hx e => hx (.inr (.inl e))), fun x hx => .inl hx⟩
        obtain ⟨q, hq⟩ : ∃ q, q = tikN now L := ⟨_, rfl⟩
        have Hq : Hid (tikN now L = q) := hq.symm
        rw [← hq]
        clear hrow e1 e2 hcb hq
        go_wp2_with fail
        go_ret2
        exact ⟨by rw [Hq.out]; rfl, HF.out⟩
      · have hlt : i < m := by omega
        have hltz : (i : Int) < (m : Int) := by omega
        have hiL : i < L.length := by rw [← Hm.out]; exact hlt
        obtain ⟨g, c, e0, hg, ok, hr, hfz⟩ := hrow.out.1.get (i := i) (by rw [up_len]; exact hiL)
        obtain ⟨rfl, rfl⟩ : aa = some ⟨g, 0, none⟩ ∧ cc = c := by simp only [Value.slice.injEq] at e0; exact ⟨e0.1, e0.2.2⟩
        rw [up_at _ hiL] at hr
        obtain ⟨e, he⟩ : ∃ e, e = L.getD i default := ⟨_, rfl⟩
        rw [← he] at hr
        have d4 := hr 4 _ rfl
        have d5 := hr 5 _ rfl
        have z5 := hfz (i * 6 + 5)
        have HS : Hid (upTo (tikE now) L (i + 1) = (upTo (tikE now) L i).set i (tikE now e)) := by rw [Hid, he]; exact up_succ _ hiL
        have HN : Hid (tikN now (L.take (i + 1)) = tikN now (L.take i) + if e.2 = 2 ∧ e.1.2.2.2.2 ≤ now then 1 else 0) := by rw [Hid, he]; exact tikN_succ now hiL
        have HU : Hid ((upTo (tikE now) L i).getD i default = e) := by rw [Hid, up_at _ hiL, he]
        have HL : Hid (i < (upTo (tikE now) L i).length ∧ (upTo (tikE now) L i).length = m) := ⟨by rw [up_len]; exact hiL, by rw [up_len, Hm.out]⟩
        have HK : Hid (∀ v : Value, Kept (fun x => (Value.slice (some ⟨g, 0, none⟩) m cc).ownBlock ≠ some x) wr (wr.setCell ⟨g, i * 6 + 5, none⟩ v)) := fun v => Kept.set (p := ⟨g, i * 6 + 5, none⟩) (fun h => h rfl) v
        generalize tikN now (L.take i) = q at hcb HN
        obtain ⟨⟨en, e1, e2, e3, tl⟩, pl⟩ := e
        simp only at d4 d5
        clear hr e0 he hfz ok
        by_cases hp : pl = 2
        · subst hp
          by_cases ht : tl ≤ now
          · have Ht : Hid (tl ≤ now) := ht
            have hN1 := hrow.out.1.setP HL.out.2 hlt 1
            rw [HU.out] at hN1
            have HN2 : Hid ((tikN now (L.take (i + 1)) : Int) = (q : Int) + 1) := by rw [Hid, HN.out, if_pos ⟨rfl, ht⟩]; simp
            have HR2 : Hid (RqE w (wr.setCell ⟨g, i * 6 + 5, none⟩ (.int .i64 1)) p (.slice (some ⟨g, 0, none⟩) m cc) b (upTo (tikE now) L (i + 1)) n Ws) := by
              rw [Hid, HS.out]
              have h1 : tikE now ((en, e1, e2, e3, tl), 2) = ((en, e1, e2, e3, tl), 1) := by unfold tikE; simp [Ht.out]
              rw [h1]; exact hN1
            have HKK : Hid (Kept (fun x => (Value.slice (some ⟨g, 0, none⟩) m cc).ownBlock ≠ some x) u1 (wr.setCell ⟨g, i * 6 + 5, none⟩ (.int .i64 1))) := hrow.out.2.trans (HK.out _)
            have hc0 := (hN1.box.2 0 _ rfl).1
            obtain ⟨g7, c7, e7, _, _, r7, z7⟩ := hN1.get (i := i) (by rw [List.length_set]; exact HL.out.1)
            obtain rfl : g = g7 := by simp only [Value.slice.injEq, Option.some.injEq, Addr.mk.injEq, and_true] at e7; exact e7.1
            rw [getD_set_same HL.out.1] at r7
            have x4 := r7 4 _ rfl
            clear r7 z7 e7
            clear hrow HS HN HU HK hN1
            go_wp2_with fail
            go_roundw
            case rel => exact ⟨i + 1, by omega, by go_num, by rw [HN2.out], HR2.out, HKK.out⟩
            case measure => simp [intOf]; omega
          · have Ht : Hid (¬ tl ≤ now) := ht
            have HN2 : Hid ((tikN now (L.take (i + 1)) : Int) = (q : Int)) := by rw [Hid, HN.out, if_neg (fun h => ht h.2)]; simp
            have HR2 : Hid (RqE w wr p (.slice (some ⟨g, 0, none⟩) m cc) b (upTo (tikE now) L (i + 1)) n Ws) := by
              rw [Hid, HS.out]
              have h1 : tikE now ((en, e1, e2, e3, tl), 2) = (upTo (tikE now) L i).getD i default := by rw [HU.out]; unfold tikE; simp [Ht.out]
              rw [h1, set_self HL.out.1]
              exact hrow.out.1
            have HKK : Hid (Kept (fun x => (Value.slice (some ⟨g, 0, none⟩) m cc).ownBlock ≠ some x) u1 wr) := hrow.out.2
            clear hrow HS HN HU HK
            go_wp2_with fail
            go_roundw
            case rel => exact ⟨i + 1, by omega, by go_num, by rw [HN2.out], HR2.out, HKK.out⟩
            case measure => simp [intOf]; omega
        · have hpb : (pl == 2) = false := by simpa using hp
          have HN2 : Hid ((tikN now (L.take (i + 1)) : Int) = (q : Int)) := by rw [Hid, HN.out, if_neg (fun h => hp h.1)]; simp
          have HR2 : Hid (RqE w wr p (.slice (some ⟨g, 0, none⟩) m cc) b (upTo (tikE now) L (i + 1)) n Ws) := by
            rw [Hid, HS.out]
            have h1 : tikE now ((en, e1, e2, e3, tl), pl) = (upTo (tikE now) L i).getD i default := by rw [HU.out]; unfold tikE; simp [hp]
            rw [h1, set_self HL.out.1]
            exact hrow.out.1
          have HKK : Hid (Kept (fun x => (Value.slice (some ⟨g, 0, none⟩) m cc).ownBlock ≠ some x) u1 wr) := hrow.out.2
          clear hrow HS HN HU HK
          go_wp2_with fail
          go_roundw
          case rel => exact ⟨i + 1, by omega, by go_num, by rw [HN2.out], HR2.out, HKK.out⟩
          case measure => simp [intOf]; omega
end Go.Proofs.YtbmejaailhjgfaaGreat
namespace Go.Proofs.YtbmejaailhjgfaaGreat
open Go.RowKit
set_option linter.unusedSimpArgs false
set_option maxRecDepth 100000

/-- What Back answers, and what there is then. -/
def backP (L : List EnD) (x : WtD) (now : Int) (room : Bool) : Int × List EnD :=
  if (x.1.toList.isEmpty || !whenB now) = true then (2, L) else if (findP L x.1).isSome = true then (6, L) else (0, L ++ [((x.1, x.2.1, x.2.2.1, x.2.2.2.1, now + delayP x.2.2.2.1), if room = true then 2 else 3)])
set_option maxHeartbeats 16000000 in
theorem rBack_calls (w : World) (p : Nat) (a b : Value) (L : List EnD) (n : Int) (Ws : List WiD) (x : WtD) (now : Int) (room : Bool) (u : World) (h : RqE w u p a b L n Ws) (hs : okS x.1) (hl : (L.length + 1) * 56 ≤ 140737488351232) : Calls Tryz.prog 11 #[.pointer (some ⟨p, 0, none⟩), .agg (wtC x).toArray, .int .i64 now, .bool room] u fun e u' => e = .returned (.int .i64 (backP L x now room).1) ∧ QOut w p a b (backP L x now room).2 n Ws u u' := by
  obtain ⟨W1, hW1⟩ : ∃ Z, Z = u.alloc (.cells (wtC x).toArray 31) := ⟨_, rfl⟩
  have b1 : Below u.heap.size u W1 := by rw [hW1]; exact (Below.refl _ _).alloc (Nat.le_refl _) _
  have q1 : BoxL W1 u.heap.size (wtC x) := by rw [hW1]; exact BoxL.new u 31 (wtC x)
  have s1 : W1.heap.size = u.heap.size + 1 := by rw [hW1, World.size_alloc]
  have hC := find_calls w p a b L n Ws x.1 W1 (h.on b1) (by omega)
  have hCw := when_calls now W1
  have HU : Hid (RqE w u p a b L n Ws) := h
  have HS : Hid (QOut w p a b L n Ws u W1) := QOut.same h b1
  have H1 : Hid (RqE w W1 p a b L n Ws ∧ Below u.heap.size u W1 ∧ BoxL W1 u.heap.size (wtC x) ∧ W1.heap.size = u.heap.size + 1) := ⟨h.on b1, b1, q1, s1⟩
  have HW1 : Hid (u.alloc (.cells (wtC x).toArray 31) = W1) := hW1.symm
  have c0 := (q1.2 0 _ rfl).1
  clear h hW1 b1 q1 s1
  cases he : x.1.toList.isEmpty with
  | true =>
    have HR : Hid (backP L x now room = (2, L)) := by rw [Hid]; unfold backP; rw [he]; rfl
    clear hC hCw
    go_enter Tryz.func11, Tryz.ntmps11
    go_upto_region 1 with fail
    rw [HW1.out]
    go_wp2_with fail
    go_ret
    exact ⟨by rw [HR.out]; rfl, by rw [HR.out]; exact HS.out⟩
  | false =>
  cases hw : whenB now with
  | false =>
    have HR : Hid (backP L x now room = (2, L)) := by rw [Hid]; unfold backP; rw [he, hw]; rfl
    rw [hw] at hCw
    clear hC
    go_enter Tryz.func11, Tryz.ntmps11
    go_upto_region 1 with fail
    rw [HW1.out]
    go_wp2_with fail
    refine hCw.mono ?_
    rintro e z ⟨rfl, rfl⟩
    clear hCw
    go_wp2_with fail
    go_ret
    exact ⟨by rw [HR.out]; rfl, by rw [HR.out]; exact HS.out⟩
  | true =>
  rw [hw] at hCw
  have hn0 : 0 ≤ now ∧ now ≤ 1099511627712 := by unfold whenB at hw; simp only [Bool.and_eq_true, decide_eq_true_eq] at hw; exact hw
  obtain ⟨hn1, hn2⟩ := hn0
  cases hf : (findP L x.1).isSome with
  | true =>
    have HR : Hid (backP L x now room = (6, L)) := by rw [Hid]; unfold backP; rw [he, hw, if_neg (by decide), if_pos hf]
    have h0 := fnd_neg hf
    generalize fndI (findP L x.1) = fi at hC h0
    clear hf
    go_enter Tryz.func11, Tryz.ntmps11
    go_upto_region 1 with fail
    rw [HW1.out]
    go_wp2_with fail
    refine hCw.mono ?_
    rintro e z ⟨rfl, rfl⟩
    clear hCw
    go_wp2_with fail
    refine hC.mono ?_
    rintro e z ⟨rfl, rfl⟩
    clear hC
    go_wp2_with fail
    go_ret
    exact ⟨by rw [HR.out]; rfl, by rw [HR.out]; exact HS.out⟩
  | false =>
    have HR : Hid (backP L x now room = (0, L ++ [((x.1, x.2.1, x.2.2.1, x.2.2.2.1, now + delayP x.2.2.2.1), if room = true then 2 else 3)])) := by rw [Hid]; unfold backP; rw [he, hw, if_neg (by decide), if_neg (by rw [hf]; decide)]
    rw [fnd_none hf] at hC
    obtain ⟨aa, m, cc, rfl⟩ := HU.out.ra.headG
    have c3 := (H1.out.2.2.1.2 3 _ rfl).1
    have c4 := H1.out.2.2.1.2 4 _ rfl
    obtain ⟨c40, c41⟩ := c4
    have hCd := rDelay_calls x.2.2.2.1 W1
    have hdl := delay_in x.2.2.2.1
    obtain ⟨hd0, hd1⟩ := hdl
    obtain ⟨y, hy⟩ : ∃ y : WtD, y = (x.1, x.2.1, x.2.2.1, x.2.2.2.1, now + delayP x.2.2.2.1) := ⟨_, rfl⟩
    obtain ⟨dl, hdl⟩ : ∃ d, d = delayP x.2.2.2.1 := ⟨_, rfl⟩
    rw [← hdl] at hCd hy hd0 hd1
    obtain ⟨W4, hW4⟩ : ∃ Z, Z = W1.setCell ⟨u.heap.size, 4, none⟩ (.int .i64 (now + dl)) := ⟨_, rfl⟩
    have q4 : BoxL W4 u.heap.size (wtC y) := by rw [hW4, hy]; exact H1.out.2.2.1.set 4 _ (by simp)
    have k4 : Kept (fun b => b ≠ u.heap.size) W1 W4 := by rw [hW4]; exact Kept.set (p := ⟨u.heap.size, 4, none⟩) (fun h => h rfl) _
    have b4 : Below u.heap.size u W4 := by rw [hW4]; exact H1.out.2.1.setCell (p := ⟨u.heap.size, 4, none⟩) (Nat.le_refl _) _
    have Hh : Hid (RqE w W4 p (.slice aa m cc) b L n Ws) := H1.out.1.keptX (on2 HU.out.below b4) (k4.weak (fun z hz e => by have h1 := (HU.out.lt hz).2; omega))
    have HC : Hid (∀ z, Kept (fun y => y = p ∨ y = u.heap.size) W4 z → z.cell? ⟨p, 0, none⟩ = some (.slice aa m cc) ∧ z.rangeAt u.heap.size 0 (wtC y)) := fun z hz => ⟨((Hh.out.box.kept hz (.inl rfl)).2 0 _ rfl).1, (q4.kept hz (.inr rfl)).range⟩
    have hNA : Hid (∀ k, (k = p ∨ k = u.heap.size) → (Value.slice aa m cc).ownBlock ≠ some k) := fun k hk e => by
      rcases hk with rfl | rfl
      · exact HU.out.na e
      · have h1 := (HU.out.ra.lt e).2; omega
    have H4 : Hid (Below u.heap.size u W4) := b4
    have HW4 : Hid (W1.setCell ⟨u.heap.size, 4, none⟩ (.int .i64 (now + dl)) = W4) := hW4.symm
    have hs' : okS y.1 := by rw [hy]; exact hs
    have hs := hs'
    rw [hdl] at hy
    clear hf HS H1 hW4 q4 k4 b4 hs' hdl
    go_enter Tryz.func11, Tryz.ntmps11
    go_upto_region 1 with fail
    rw [HW1.out]
    go_wp2_with fail
    refine hCw.mono ?_
    rintro e z ⟨rfl, rfl⟩
    clear hCw
    go_wp2_with fail
    refine hC.mono ?_
    rintro e z ⟨rfl, rfl⟩
    clear hC
    go_wp2_with fail
    refine hCd.mono ?_
    rintro e z ⟨rfl, rfl⟩
    clear hCd
    go_upto_region 6 with fail
    rw [HW4.out]
    --M3
    cases room with
    | true =>
      have HR2 : Hid (backP L x now true = (0, L ++ [(y, 2)])) := by rw [Hid, HR.out, hy]; rfl
      clear HR hy
      go_wp2_with fail
      --R2
      have hb0 : Below W4.heap.size W4 W4.drew := (Below.refl _ _).drew
      refine u0 12 (fun z => Kept (fun y => y = p ∨ y = u.heap.size) W4 z) (Kept.below hb0) (fun hHeld => ?_)
      have Hd : Hid (RqE w W4.drew p (.slice aa m cc) b L n Ws ∧ Below W4.heap.size W4 W4.drew) := ⟨Hh.out.on hb0, hb0⟩
      generalize hwd : W4.drew = wd at hHeld Hd ⊢
      clear hwd hb0
      try go_frame
      refine' uk 0 ?_ ?_; rotate_left
      · intro z hz; obtain ⟨f0, f1⟩ := HC.out z hz; clear hz; go_simp; try with_reducible rfl
      try go_frame
      refine' uk 1 ?_ ?_; rotate_left
      · intro z hz; obtain ⟨f0, f1⟩ := HC.out z hz; clear hz; go_simp; try with_reducible rfl
      try go_frame
      refine' uk 2 ?_ ?_; rotate_left
      · intro z hz; obtain ⟨f0, f1⟩ := HC.out z hz; clear hz; go_simp; try with_reducible rfl
      try go_frame
      refine' uk 3 ?_ ?_; rotate_left
      · intro z hz; obtain ⟨f0, f1⟩ := HC.out z hz; clear hz; go_simp; try with_reducible rfl
      try go_frame
      refine' uk 4 ?_ ?_; rotate_left
      · intro z hz; obtain ⟨f0, f1⟩ := HC.out z hz; clear hz; go_simp; try with_reducible rfl
      try go_frame
      refine uq 5 (.agg (wtC y).toArray) (yieldsIf_load_mid (by rfl) 31 _ rfl u.heap.size 0 rfl (wtC y) _ (fun z hz => (HC.out z hz).2) Tryz.underlying31 rfl (by kernel_rfl)) ?_ (hi := rfl)
      try go_frame
      refine' uk 6 ?_ ?_; rotate_left
      · intro z hz; obtain ⟨f0, f1⟩ := HC.out z hz; clear hz; go_simp; try with_reducible rfl
      try go_frame
      refine' uk 7 ?_ ?_; rotate_left
      · intro z hz; obtain ⟨f0, f1⟩ := HC.out z hz; clear hz; go_simp; try with_reducible rfl
      try go_frame
      refine ur 8 (fun K hK => ?_)
      go_simp
      obtain ⟨W3, hW3⟩ : ∃ Z, Z = wd.alloc (.cells (enC (y, 2)).toArray 65) := ⟨_, rfl⟩
      have b3 : Below wd.heap.size wd W3 := by rw [hW3]; exact (Below.refl _ _).alloc (Nat.le_refl _) _
      have q3 : BoxL W3 wd.heap.size (enC (y, 2)) := by rw [hW3]; exact BoxL.new wd 65 _
      rw [← hW3]
      clear hW3
      refine hK.out _ _ (hHeld.trans (Kept.below b3)) (fun hHeld2 => ?_)
      clear hK K hHeld; have hHeld := hHeld2; clear hHeld2
      try go_frame
      refine ur 9 (fun K hK => ?_)
      refine want_yesQ (by rfl) (row_appendP_wp REn.firm (A := fun _ => False) (w0 := w) _ _ 26 65 rfl _ 56 infoEn Tryz.underlying26 rfl (by decide) (by decide) (.slice aa m cc) L rfl (Hd.out.1.ra.on REn.firm b3) (some ⟨wd.heap.size, 0, none⟩) 1 1 [(y, 2)] rfl (src_boxG REn.firm q3 ⟨rfl, hs⟩) (by rw [List.length_singleton]; omega) ?_)
      intro v4 w4 hrow4 hg4 hw4
      obtain ⟨v4a, v4n, v4c, rfl⟩ := hrow4.headG
      have k4 : Kept (fun y => (Value.slice aa m cc).ownBlock ≠ some y) W4 w4 := (Kept.below Hd.out.2).trans ((Kept.below b3).trans (Kept.grown hg4 (fun k e hk => hk e)))
      refine hK.out _ _ (hHeld.trans (Kept.grown hg4 (fun k e hk => ?_))) (fun hHeld2 => ?_)
      · exact hNA.out k hk e
      clear hK K hHeld; have hHeld := hHeld2; clear hHeld2
      try go_frame
      refine' uk 10 ?_ ?_; rotate_left
      · intro z hz; clear hz; go_simp; try with_reducible rfl
      try go_frame
      refine' uk 11 ?_ ?_; rotate_left
      · intro z hz; clear hz; go_simp; try with_reducible rfl
      try go_frame
      refine uz 12 (fun K hK => ?_)
      have hN := Hh.out.newA k4 hrow4 (hw4.imp id (fun e x hx => by rw [e] at hx; injection hx with hx; have h1 := b3.size; have h2 := Hd.out.2.size; omega))
      obtain ⟨d0, d1⟩ := (Hh.out.box.kept k4 Hh.out.na).2 0 _ rfl
      go_simp
      obtain ⟨W5, hW5⟩ : ∃ Z, Z = w4.setCell ⟨p, 0, none⟩ (.slice v4a v4n v4c) := ⟨_, rfl⟩
      rw [← hW5]
      rw [← hW5] at hN
      have H5 : Hid (RqE w W5 p (.slice v4a v4n v4c) b (L ++ [(y, 2)]) n Ws ∧ Kept (fun y => y ≠ p ∧ (Value.slice aa m cc).ownBlock ≠ some y) W4 W5 ∧ ∀ y, (Value.slice v4a v4n v4c).ownBlock = some y → (Value.slice aa m cc).ownBlock = some y ∨ W4.heap.size ≤ y) := ⟨hN, by rw [hW5]; exact (k4.weak (fun y hy => hy.2)).trans (Kept.set (p := ⟨p, 0, none⟩) (fun h => h.1 rfl) _), fun y hy => hw4.imp (fun e => by rw [← e]; exact hy) (fun e => by rw [e] at hy; injection hy with hy; have h1 := b3.size; have h2 := Hd.out.2.size; omega)⟩
      refine hK.out _ (NoPanic.normal ?_)
      clear hK K hHeld hN d0 d1 hW5 k4 hrow4 hg4 hw4 b3 q3 Hd
      have HF : Hid (QOut w p (.slice aa m cc) b (L ++ [(y, 2)]) n Ws u W5) := by
        refine QOut.write HU.out H4.out ⟨_, b, H5.out.1, H5.out.2.1.weak (fun y hy => ⟨fun e => hy (.inl e), fun e => hy (.inr (.inl e))⟩), fun y hy => hy.elim (fun e => .inl (.inl e)) (fun hy => hy.elim (fun e => (H5.out.2.2 y e).imp (fun e => .inr (.inl e)) id) (fun e => .inl (.inr (.inr e))))⟩ (Kept.refl _ _) H5.out.1.below
      clear H5
      go_wp2_with fail
      go_ret
      exact ⟨by rw [HR2.out]; rfl, by rw [HR2.out]; exact HF.out⟩
    | false =>
      have HR2 : Hid (backP L x now false = (0, L ++ [(y, 3)])) := by rw [Hid, HR.out, hy]; rfl
      clear HR hy
      go_wp2_with fail
      --R3
      have hb0 : Below W4.heap.size W4 W4.drew := (Below.refl _ _).drew
      refine u0 12 (fun z => Kept (fun y => y = p ∨ y = u.heap.size) W4 z) (Kept.below hb0) (fun hHeld => ?_)
      have Hd : Hid (RqE w W4.drew p (.slice aa m cc) b L n Ws ∧ Below W4.heap.size W4 W4.drew) := ⟨Hh.out.on hb0, hb0⟩
      generalize hwd : W4.drew = wd at hHeld Hd ⊢
      clear hwd hb0
      try go_frame
      refine' uk 0 ?_ ?_; rotate_left
      · intro z hz; obtain ⟨f0, f1⟩ := HC.out z hz; clear hz; go_simp; try with_reducible rfl
      try go_frame
      refine' uk 1 ?_ ?_; rotate_left
      · intro z hz; obtain ⟨f0, f1⟩ := HC.out z hz; clear hz; go_simp; try with_reducible rfl
      try go_frame
      refine' uk 2 ?_ ?_; rotate_left
      · intro z hz; obtain ⟨f0, f1⟩ := HC.out z hz; clear hz; go_simp; try with_reducible rfl
      try go_frame
      refine' uk 3 ?_ ?_; rotate_left
      · intro z hz; obtain ⟨f0, f1⟩ := HC.out z hz; clear hz; go_simp; try with_reducible rfl
      try go_frame
      refine' uk 4 ?_ ?_; rotate_left
      · intro z hz; obtain ⟨f0, f1⟩ := HC.out z hz; clear hz; go_simp; try with_reducible rfl
      try go_frame
      refine uq 5 (.agg (wtC y).toArray) (yieldsIf_load_mid (by rfl) 31 _ rfl u.heap.size 0 rfl (wtC y) _ (fun z hz => (HC.out z hz).2) Tryz.underlying31 rfl (by kernel_rfl)) ?_ (hi := rfl)
      try go_frame
      refine' uk 6 ?_ ?_; rotate_left
      · intro z hz; obtain ⟨f0, f1⟩ := HC.out z hz; clear hz; go_simp; try with_reducible rfl
      try go_frame
      refine' uk 7 ?_ ?_; rotate_left
      · intro z hz; obtain ⟨f0, f1⟩ := HC.out z hz; clear hz; go_simp; try with_reducible rfl
      try go_frame
      refine ur 8 (fun K hK => ?_)
      go_simp
      obtain ⟨W3, hW3⟩ : ∃ Z, Z = wd.alloc (.cells (enC (y, 3)).toArray 65) := ⟨_, rfl⟩
      have b3 : Below wd.heap.size wd W3 := by rw [hW3]; exact (Below.refl _ _).alloc (Nat.le_refl _) _
      have q3 : BoxL W3 wd.heap.size (enC (y, 3)) := by rw [hW3]; exact BoxL.new wd 65 _
      rw [← hW3]
      clear hW3
      refine hK.out _ _ (hHeld.trans (Kept.below b3)) (fun hHeld2 => ?_)
      clear hK K hHeld; have hHeld := hHeld2; clear hHeld2
      try go_frame
      refine ur 9 (fun K hK => ?_)
      refine want_yesQ (by rfl) (row_appendP_wp REn.firm (A := fun _ => False) (w0 := w) _ _ 26 65 rfl _ 56 infoEn Tryz.underlying26 rfl (by decide) (by decide) (.slice aa m cc) L rfl (Hd.out.1.ra.on REn.firm b3) (some ⟨wd.heap.size, 0, none⟩) 1 1 [(y, 3)] rfl (src_boxG REn.firm q3 ⟨rfl, hs⟩) (by rw [List.length_singleton]; omega) ?_)
      intro v4 w4 hrow4 hg4 hw4
      obtain ⟨v4a, v4n, v4c, rfl⟩ := hrow4.headG
      have k4 : Kept (fun y => (Value.slice aa m cc).ownBlock ≠ some y) W4 w4 := (Kept.below Hd.out.2).trans ((Kept.below b3).trans (Kept.grown hg4 (fun k e hk => hk e)))
      refine hK.out _ _ (hHeld.trans (Kept.grown hg4 (fun k e hk => ?_))) (fun hHeld2 => ?_)
      · exact hNA.out k hk e
      clear hK K hHeld; have hHeld := hHeld2; clear hHeld2
      try go_frame
      refine' uk 10 ?_ ?_; rotate_left
      · intro z hz; clear hz; go_simp; try with_reducible rfl
      try go_frame
      refine' uk 11 ?_ ?_; rotate_left
      · intro z hz; clear hz; go_simp; try with_reducible rfl
      try go_frame
      refine uz 12 (fun K hK => ?_)
      have hN := Hh.out.newA k4 hrow4 (hw4.imp id (fun e x hx => by rw [e] at hx; injection hx with hx; have h1 := b3.size; have h2 := Hd.out.2.size; omega))
      obtain ⟨d0, d1⟩ := (Hh.out.box.kept k4 Hh.out.na).2 0 _ rfl
      go_simp
      obtain ⟨W5, hW5⟩ : ∃ Z, Z = w4.setCell ⟨p, 0, none⟩ (.slice v4a v4n v4c) := ⟨_, rfl⟩
      rw [← hW5]
      rw [← hW5] at hN
      have H5 : Hid (RqE w W5 p (.slice v4a v4n v4c) b (L ++ [(y, 3)]) n Ws ∧ Kept (fun y => y ≠ p ∧ (Value.slice aa m cc).ownBlock ≠ some y) W4 W5 ∧ ∀ y, (Value.slice v4a v4n v4c).ownBlock = some y → (Value.slice aa m cc).ownBlock = some y ∨ W4.heap.size ≤ y) := ⟨hN, by rw [hW5]; exact (k4.weak (fun y hy => hy.2)).trans (Kept.set (p := ⟨p, 0, none⟩) (fun h => h.1 rfl) _), fun y hy => hw4.imp (fun e => by rw [← e]; exact hy) (fun e => by rw [e] at hy; injection hy with hy; have h1 := b3.size; have h2 := Hd.out.2.size; omega)⟩
      refine hK.out _ (NoPanic.normal ?_)
      clear hK K hHeld hN d0 d1 hW5 k4 hrow4 hg4 hw4 b3 q3 Hd
      have HF : Hid (QOut w p (.slice aa m cc) b (L ++ [(y, 3)]) n Ws u W5) := by
        refine QOut.write HU.out H4.out ⟨_, b, H5.out.1, H5.out.2.1.weak (fun y hy => ⟨fun e => hy (.inl e), fun e => hy (.inr (.inl e))⟩), fun y hy => hy.elim (fun e => .inl (.inl e)) (fun hy => hy.elim (fun e => (H5.out.2.2 y e).imp (fun e => .inr (.inl e)) id) (fun e => .inl (.inr (.inr e))))⟩ (Kept.refl _ _) H5.out.1.below
      clear H5
      go_wp2_with fail
      go_ret
      exact ⟨by rw [HR2.out]; rfl, by rw [HR2.out]; exact HF.out⟩
end Go.Proofs.YtbmejaailhjgfaaGreat
