/- The document's queue: which one is first of those that are ready. Condition: the queue lies as is said of it. The document's queue over calls that write elsewhere. Plain facts on worlds. No condition. The document's queue: Pop. Condition: the queue lies as is said of it. -/
import Derived.Test.YtbmejaailhjgfaaGreatQ20
namespace Go.Proofs.YtbmejaailhjgfaaGreat
open Go.RowKit
set_option linter.unusedSimpArgs false
set_option maxRecDepth 100000

/-- One more is looked at. -/
def fstStep (L : List EnD) (k : Option Nat) (i : Nat) : Option Nat :=
  if (L.getD i default).2 = 1 then (match k with | none => some i | some j => if ahead (itm (L.getD i default).1) (itm (L.getD j default).1) = true then some i else some j) else k
/-- The first one of those that are ready, among the first so many. -/
def firstTo (L : List EnD) : Nat → Option Nat
  | 0 => none
  | i + 1 => fstStep L (firstTo L i) i
def firstP (L : List EnD) : Option Nat := firstTo L L.length
theorem first_lt (L : List EnD) : ∀ i k, firstTo L i = some k → k < i ∧ (L.getD k default).2 = 1
  | 0, _, h => by cases h
  | i + 1, k, h => by
    unfold firstTo fstStep at h
    have ih := first_lt L i
    split at h
    · rename_i hp
      split at h
      · injection h with h; subst h; exact ⟨by omega, hp⟩
      · rename_i j hj
        split at h
        · injection h with h; subst h; exact ⟨by omega, hp⟩
        · injection h with h; subst h; have := ih _ hj; exact ⟨by omega, this.2⟩
    · have := ih _ h; exact ⟨by omega, this.2⟩
theorem wt_range {u : World} {g o : Nat} {e : EnD} (h : u.rangeAt g o (enC e)) : u.rangeAt g o (wtC e.1) := fun j v hj => h j v (by
  have h5 : j < 5 := (List.getElem?_eq_some_iff.1 hj).1
  rcases (show j = 0 ∨ j = 1 ∨ j = 2 ∨ j = 3 ∨ j = 4 by omega) with rfl | rfl | rfl | rfl | rfl <;> exact hj)
theorem i64_iff (k : Option Nat) : (fndI k < 0) ↔ k = none := by
  cases k with
  | none => simp [fndI]
  | some i => simp [fndI]
set_option maxHeartbeats 16000000 in
theorem rFirst_calls (w : World) (p : Nat) (a b : Value) (L : List EnD) (n : Int) (Ws : List WiD) (u : World) (h : RqE w u p a b L n Ws) (hl : L.length * 56 ≤ 140737488351232) : Calls Tryz.prog 39 #[.pointer (some ⟨p, 0, none⟩)] u fun e u' => e = .returned (.int .i64 (fndI (firstP L))) ∧ Below u.heap.size u u' := by
  obtain ⟨aa, m, cc, rfl⟩ := h.ra.headG
  have hm := h.len
  have Hh : Hid (RqE w u p (.slice aa m cc) b L n Ws) := h
  have hml : m < 1000000000000000 := by omega
  have Hm : Hid (m = L.length) := hm
  have HC0 : Hid (∀ z, Below u.heap.size u z → z.cell? ⟨p, 0, none⟩ = some (.slice aa m cc)) := fun z hz => ((h.box.on hz).2 0 _ rfl).1
  clear h hm hl
  go_enter Tryz.func39, Tryz.ntmps39
  go_wp2_with fail
  go_loopw [3, 4] (fun kv iv wr => ∃ i : Nat, i ≤ m ∧ iv = .int .i64 i ∧ kv = .int .i64 (fndI (firstTo L i)) ∧ Hid (Below u.heap.size u wr)) (fun _ iv _ => m - (intOf iv).toNat)
  case atStart => exact ⟨0, Nat.zero_le _, rfl, rfl, Below.refl _ _⟩
  case round =>
    obtain ⟨i, him, rfl, rfl, hbw⟩ := hrel
    have hbw := hbw.out
    have c0 := HC0.out wr hbw
    by_cases hge : m ≤ i
    · obtain rfl : i = m := by omega
      have hltz : ¬ ((i : Int) < (i : Int)) := by omega
      have HF : Hid (fndI (firstP L) = fndI (firstTo L i)) := by rw [Hid, firstP, ← Hm.out]
      have HB : Hid (Below u.heap.size u wr) := hbw
      generalize fndI (firstTo L i) = fi at HF
      clear hbw
      go_wp2_with fail
      go_ret
      exact ⟨by rw [HF.out]; rfl, HB.out⟩
    · have hlt : i < m := by omega
      have hltz : (i : Int) < (m : Int) := by omega
      obtain ⟨g, c, e0, hg, ok, hr, _⟩ := Hh.out.get (i := i) (by rw [← Hm.out]; exact hlt)
      obtain ⟨rfl, rfl⟩ : aa = some ⟨g, 0, none⟩ ∧ cc = c := by simp only [Value.slice.injEq] at e0; exact ⟨e0.1, e0.2.2⟩
      obtain ⟨e, he⟩ : ∃ e, e = L.getD i default := ⟨_, rfl⟩
      have HE : Hid (∀ z, Below u.heap.size u z → z.rangeAt g (i * 6) (wtC e.1)) := fun z hz => wt_range (fun j v hj => (hz.cell (p := ⟨g, i * 6 + j, none⟩) hg).trans (hr j v (by rw [← he]; exact hj)))
      have HC : Hid (∀ z, Below u.heap.size u z → z.cell? ⟨p, 0, none⟩ = some (.slice (some ⟨g, 0, none⟩) m cc) ∧ z.cell? ⟨g, i * 6 + 5, none⟩ = some (.int .i64 e.2)) := fun z hz => ⟨HC0.out z hz, (hz.cell (p := ⟨g, i * 6 + 5, none⟩) hg).trans (hr 5 _ (by rw [he]; rfl))⟩
      have HS : Hid (firstTo L (i + 1) = if e.2 = 1 then (match firstTo L i with | none => some i | some j => if ahead (itm e.1) (itm (L.getD j default).1) = true then some i else some j) else firstTo L i) := by rw [Hid, he]; rfl
      have HL : Hid (∀ j, firstTo L i = some j → j < i) := fun j hj => (first_lt L i j hj).1
      clear he hr e0 ok
      by_cases hp : e.2 = 1
      case neg =>
        have HN : Hid (firstTo L (i + 1) = firstTo L i) := by rw [Hid, HS.out, if_neg hp]
        obtain ⟨fi, hfi⟩ : ∃ f, f = fndI (firstTo L i) := ⟨_, rfl⟩
        have Hfi : Hid (fi = fndI (firstTo L i)) := hfi
        rw [← hfi]
        clear hfi
        generalize e.2 = pl at hp HC
        have hpb : (pl == 1) = false := by simpa using hp
        clear HS HL HE hp
        go_upto_region 5 with fail
        --A
        have hb0 : Below u.heap.size u wr.drew := on2 hbw (Below.refl _ _).drew
        refine t0 (fun z => Below u.heap.size u z) hb0 (fun hHeld => ?_)
        generalize hwd : wr.drew = wd at hHeld hb0 ⊢
        clear hwd
        try go_frame
        refine' tk 0 ?_ ?_; rotate_left
        · intro z hz; obtain ⟨f0, f1⟩ := HC.out z hz; clear hz; go_simp; try with_reducible rfl
        try go_frame
        refine' tk 1 ?_ ?_; rotate_left
        · intro z hz; obtain ⟨f0, f1⟩ := HC.out z hz; clear hz; go_simp; try with_reducible rfl
        try go_frame
        refine' tk 2 ?_ ?_; rotate_left
        · intro z hz; obtain ⟨f0, f1⟩ := HC.out z hz; clear hz; go_simp; try with_reducible rfl
        try go_frame
        refine' tk 3 ?_ ?_; rotate_left
        · intro z hz; obtain ⟨f0, f1⟩ := HC.out z hz; clear hz; go_simp; try with_reducible rfl
        try go_frame
        refine' tk 4 ?_ ?_; rotate_left
        · intro z hz; obtain ⟨f0, f1⟩ := HC.out z hz; clear hz; go_simp; try with_reducible rfl
        try go_frame
        refine' tk 5 ?_ ?_; rotate_left
        · intro z hz; obtain ⟨f0, f1⟩ := HC.out z hz; clear hz; go_simp; try with_reducible rfl
        try go_frame
        refine' tk 6 ?_ ?_; rotate_left
        · intro z hz; obtain ⟨f0, f1⟩ := HC.out z hz; clear hz; go_simp; try with_reducible rfl
        try go_frame
        refine' tk 7 ?_ ?_; rotate_left
        · intro z hz; obtain ⟨f0, f1⟩ := HC.out z hz; clear hz; go_simp; try with_reducible rfl
        try go_frame
        refine' tk 8 ?_ ?_; rotate_left
        · intro z hz; obtain ⟨f0, f1⟩ := HC.out z hz; clear hz; go_simp; try with_reducible rfl
        try go_frame
        refine' tk 9 ?_ ?_; rotate_left
        · intro z hz; obtain ⟨f0, f1⟩ := HC.out z hz; clear hz; go_simp; try with_reducible rfl
        try go_frame
        refine tn 10 ?_
        try go_frame
        refine tn 11 ?_
        try go_frame
        refine tn 12 ?_
        try go_frame
        refine tn 13 ?_
        try go_frame
        refine tn 14 ?_
        try go_frame
        refine tn 15 ?_
        try go_frame
        refine tn 16 ?_
        try go_frame
        refine tn 17 ?_
        try go_frame
        refine tn 18 ?_
        try go_frame
        refine tn 19 ?_
        try go_frame
        refine tn 20 ?_
        try go_frame
        refine tn 21 ?_
        try go_frame
        refine tn 22 ?_
        try go_frame
        refine tn 23 ?_
        try go_frame
        refine tn 24 ?_
        try go_frame
        refine tn 25 ?_
        try go_frame
        refine tn 26 ?_
        try go_frame
        refine tn 27 ?_
        try go_frame
        refine tn 28 ?_
        try go_frame
        refine tn 29 ?_
        try go_frame
        refine tn 30 ?_
        try go_frame
        refine tn 31 ?_
        try go_frame
        refine tn 32 ?_
        try go_frame
        refine' tk 33 ?_ ?_; rotate_left
        · intro z hz; obtain ⟨f0, f1⟩ := HC.out z hz; clear hz; go_simp; try with_reducible rfl
        try go_frame
        refine tz ?_
        have HB : Hid (Below u.heap.size u wd) := hb0
        clear hHeld hb0 hbw
        go_wp2_with fail
        --A2
        go_roundw
        case rel => exact ⟨i + 1, by omega, by go_num, by rw [HN.out, ← Hfi.out], HB.out⟩
        case measure => simp [intOf]; omega
      case pos =>
        cases hk : firstTo L i with
        | none =>
          have HN : Hid (firstTo L (i + 1) = some i) := by rw [Hid, HS.out, if_pos hp, hk]
          have hfn : fndI none < 0 := by decide
          generalize fndI none = fi at hfn
          generalize e.2 = pl at hp HC
          subst hp
          clear HS HL HE hk
          go_upto_region 5 with fail
          --B
          have hb0 : Below u.heap.size u wr.drew := on2 hbw (Below.refl _ _).drew
          refine t0 (fun z => Below u.heap.size u z) hb0 (fun hHeld => ?_)
          generalize hwd : wr.drew = wd at hHeld hb0 ⊢
          clear hwd
          try go_frame
          refine' tk 0 ?_ ?_; rotate_left
          · intro z hz; obtain ⟨f0, f1⟩ := HC.out z hz; clear hz; go_simp; try with_reducible rfl
          try go_frame
          refine' tk 1 ?_ ?_; rotate_left
          · intro z hz; obtain ⟨f0, f1⟩ := HC.out z hz; clear hz; go_simp; try with_reducible rfl
          try go_frame
          refine' tk 2 ?_ ?_; rotate_left
          · intro z hz; obtain ⟨f0, f1⟩ := HC.out z hz; clear hz; go_simp; try with_reducible rfl
          try go_frame
          refine' tk 3 ?_ ?_; rotate_left
          · intro z hz; obtain ⟨f0, f1⟩ := HC.out z hz; clear hz; go_simp; try with_reducible rfl
          try go_frame
          refine' tk 4 ?_ ?_; rotate_left
          · intro z hz; obtain ⟨f0, f1⟩ := HC.out z hz; clear hz; go_simp; try with_reducible rfl
          try go_frame
          refine' tk 5 ?_ ?_; rotate_left
          · intro z hz; obtain ⟨f0, f1⟩ := HC.out z hz; clear hz; go_simp; try with_reducible rfl
          try go_frame
          refine' tk 6 ?_ ?_; rotate_left
          · intro z hz; obtain ⟨f0, f1⟩ := HC.out z hz; clear hz; go_simp; try with_reducible rfl
          try go_frame
          refine' tk 7 ?_ ?_; rotate_left
          · intro z hz; obtain ⟨f0, f1⟩ := HC.out z hz; clear hz; go_simp; try with_reducible rfl
          try go_frame
          refine' tk 8 ?_ ?_; rotate_left
          · intro z hz; obtain ⟨f0, f1⟩ := HC.out z hz; clear hz; go_simp; try with_reducible rfl
          try go_frame
          refine' tk 9 ?_ ?_; rotate_left
          · intro z hz; obtain ⟨f0, f1⟩ := HC.out z hz; clear hz; go_simp; try with_reducible rfl
          try go_frame
          refine' tk 10 ?_ ?_; rotate_left
          · intro z hz; obtain ⟨f0, f1⟩ := HC.out z hz; clear hz; go_simp; try with_reducible rfl
          try go_frame
          refine' tk 11 ?_ ?_; rotate_left
          · intro z hz; obtain ⟨f0, f1⟩ := HC.out z hz; clear hz; go_simp; try with_reducible rfl
          try go_frame
          refine' tk 12 ?_ ?_; rotate_left
          · intro z hz; obtain ⟨f0, f1⟩ := HC.out z hz; clear hz; go_simp; try with_reducible rfl
          try go_frame
          refine tn 13 ?_
          try go_frame
          refine tn 14 ?_
          try go_frame
          refine tn 15 ?_
          try go_frame
          refine tn 16 ?_
          try go_frame
          refine tn 17 ?_
          try go_frame
          refine tn 18 ?_
          try go_frame
          refine tn 19 ?_
          try go_frame
          refine tn 20 ?_
          try go_frame
          refine tn 21 ?_
          try go_frame
          refine tn 22 ?_
          try go_frame
          refine tn 23 ?_
          try go_frame
          refine tn 24 ?_
          try go_frame
          refine tn 25 ?_
          try go_frame
          refine tn 26 ?_
          try go_frame
          refine tn 27 ?_
          try go_frame
          refine tn 28 ?_
          try go_frame
          refine tn 29 ?_
          try go_frame
          refine tn 30 ?_
          try go_frame
          refine tn 31 ?_
          try go_frame
          refine' tk 32 ?_ ?_; rotate_left
          · intro z hz; obtain ⟨f0, f1⟩ := HC.out z hz; clear hz; go_simp; try with_reducible rfl
          try go_frame
          refine' tk 33 ?_ ?_; rotate_left
          · intro z hz; obtain ⟨f0, f1⟩ := HC.out z hz; clear hz; go_simp; try with_reducible rfl
          try go_frame
          refine tz ?_
          have HB : Hid (Below u.heap.size u wd) := hb0
          clear hHeld hb0 hbw
          go_wp2_with fail
          --B2
          go_roundw
          case rel => exact ⟨i + 1, by omega, by go_num, by rw [HN.out]; rfl, HB.out⟩
          case measure => simp [intOf]; omega
        | some k =>
          have hki := HL.out k hk
          obtain ⟨g2, c2, e2, _, _, hr2, _⟩ := Hh.out.get (i := k) (by rw [← Hm.out]; omega)
          obtain rfl : g = g2 := by simp only [Value.slice.injEq, Option.some.injEq, Addr.mk.injEq, and_true] at e2; exact e2.1
          obtain ⟨ek, hek⟩ : ∃ e, e = L.getD k default := ⟨_, rfl⟩
          have HEk : Hid (∀ z, Below u.heap.size u z → z.rangeAt g (k * 6) (wtC ek.1)) := fun z hz => wt_range (fun j v hj => (hz.cell (p := ⟨g, k * 6 + j, none⟩) hg).trans (hr2 j v (by rw [← hek]; exact hj)))
          have HN : Hid (firstTo L (i + 1) = if ahead (itm e.1) (itm ek.1) = true then some i else some k) := by rw [Hid, HS.out, if_pos hp, hk, hek]
          have hfk : fndI (some k) = (k : Int) := rfl
          have hkz : ¬ ((k : Int) < 0) := by omega
          have hkm : (k : Int) < (m : Int) := by omega
          have hkm2 : k < m := by omega
          rw [hfk]
          obtain ⟨e1, pl⟩ := e
          simp only at hp HC HE HN
          subst hp
          clear HS HL hk hek hr2 e2 hfk
          go_upto_region 5 with fail
          --C
          have hb0 : Below u.heap.size u wr.drew := on2 hbw (Below.refl _ _).drew
          refine t0 (fun z => Below u.heap.size u z) hb0 (fun hHeld => ?_)
          generalize hwd : wr.drew = wd at hHeld hb0 ⊢
          clear hwd
          try go_frame
          refine' tk 0 ?_ ?_; rotate_left
          · intro z hz; obtain ⟨f0, f1⟩ := HC.out z hz; clear hz; go_simp; try with_reducible rfl
          try go_frame
          refine' tk 1 ?_ ?_; rotate_left
          · intro z hz; obtain ⟨f0, f1⟩ := HC.out z hz; clear hz; go_simp; try with_reducible rfl
          try go_frame
          refine' tk 2 ?_ ?_; rotate_left
          · intro z hz; obtain ⟨f0, f1⟩ := HC.out z hz; clear hz; go_simp; try with_reducible rfl
          try go_frame
          refine' tk 3 ?_ ?_; rotate_left
          · intro z hz; obtain ⟨f0, f1⟩ := HC.out z hz; clear hz; go_simp; try with_reducible rfl
          try go_frame
          refine' tk 4 ?_ ?_; rotate_left
          · intro z hz; obtain ⟨f0, f1⟩ := HC.out z hz; clear hz; go_simp; try with_reducible rfl
          try go_frame
          refine' tk 5 ?_ ?_; rotate_left
          · intro z hz; obtain ⟨f0, f1⟩ := HC.out z hz; clear hz; go_simp; try with_reducible rfl
          try go_frame
          refine' tk 6 ?_ ?_; rotate_left
          · intro z hz; obtain ⟨f0, f1⟩ := HC.out z hz; clear hz; go_simp; try with_reducible rfl
          try go_frame
          refine' tk 7 ?_ ?_; rotate_left
          · intro z hz; obtain ⟨f0, f1⟩ := HC.out z hz; clear hz; go_simp; try with_reducible rfl
          try go_frame
          refine' tk 8 ?_ ?_; rotate_left
          · intro z hz; obtain ⟨f0, f1⟩ := HC.out z hz; clear hz; go_simp; try with_reducible rfl
          try go_frame
          refine' tk 9 ?_ ?_; rotate_left
          · intro z hz; obtain ⟨f0, f1⟩ := HC.out z hz; clear hz; go_simp; try with_reducible rfl
          try go_frame
          refine' tk 10 ?_ ?_; rotate_left
          · intro z hz; obtain ⟨f0, f1⟩ := HC.out z hz; clear hz; go_simp; try with_reducible rfl
          try go_frame
          refine' tk 11 ?_ ?_; rotate_left
          · intro z hz; obtain ⟨f0, f1⟩ := HC.out z hz; clear hz; go_simp; try with_reducible rfl
          try go_frame
          refine' tk 12 ?_ ?_; rotate_left
          · intro z hz; obtain ⟨f0, f1⟩ := HC.out z hz; clear hz; go_simp; try with_reducible rfl
          try go_frame
          refine' tk 13 ?_ ?_; rotate_left
          · intro z hz; obtain ⟨f0, f1⟩ := HC.out z hz; clear hz; go_simp; try with_reducible rfl
          try go_frame
          refine' tk 14 ?_ ?_; rotate_left
          · intro z hz; obtain ⟨f0, f1⟩ := HC.out z hz; clear hz; go_simp; try with_reducible rfl
          try go_frame
          refine' tk 15 ?_ ?_; rotate_left
          · intro z hz; obtain ⟨f0, f1⟩ := HC.out z hz; clear hz; go_simp; try with_reducible rfl
          try go_frame
          refine' tk 16 ?_ ?_; rotate_left
          · intro z hz; obtain ⟨f0, f1⟩ := HC.out z hz; clear hz; go_simp; try with_reducible rfl
          try go_frame
          refine' tk 17 ?_ ?_; rotate_left
          · intro z hz; obtain ⟨f0, f1⟩ := HC.out z hz; clear hz; go_simp; try with_reducible rfl
          try go_frame
          refine' tk 18 ?_ ?_; rotate_left
          · intro z hz; obtain ⟨f0, f1⟩ := HC.out z hz; clear hz; go_simp; try with_reducible rfl
          try go_frame
          refine' tk 19 ?_ ?_; rotate_left
          · intro z hz; obtain ⟨f0, f1⟩ := HC.out z hz; clear hz; go_simp; try with_reducible rfl
          try go_frame
          refine tq 20 (.agg (wtC e1).toArray) (yieldsIf_load_mid (by rfl) 31 _ rfl g (i * 6) (by go_simp) (wtC e1) _ (fun z hz => (HE.out z hz)) Tryz.underlying31 rfl (by kernel_rfl)) ?_ (hi := rfl)
          try go_frame
          refine' tk 22 ?_ ?_; rotate_left
          · intro z hz; obtain ⟨f0, f1⟩ := HC.out z hz; clear hz; go_simp; try with_reducible rfl
          try go_frame
          refine' tk 23 ?_ ?_; rotate_left
          · intro z hz; obtain ⟨f0, f1⟩ := HC.out z hz; clear hz; go_simp; try with_reducible rfl
          try go_frame
          refine' tk 24 ?_ ?_; rotate_left
          · intro z hz; obtain ⟨f0, f1⟩ := HC.out z hz; clear hz; go_simp; try with_reducible rfl
          try go_frame
          refine' tk 25 ?_ ?_; rotate_left
          · intro z hz; obtain ⟨f0, f1⟩ := HC.out z hz; clear hz; go_simp; try with_reducible rfl
          try go_frame
          refine' tk 26 ?_ ?_; rotate_left
          · intro z hz; obtain ⟨f0, f1⟩ := HC.out z hz; clear hz; go_simp; try with_reducible rfl
          try go_frame
          refine' tk 27 ?_ ?_; rotate_left
          · intro z hz; obtain ⟨f0, f1⟩ := HC.out z hz; clear hz; go_simp; try with_reducible rfl
          try go_frame
          refine' tk 28 ?_ ?_; rotate_left
          · intro z hz; obtain ⟨f0, f1⟩ := HC.out z hz; clear hz; go_simp; try with_reducible rfl
          try go_frame
          refine tq 29 (.agg (wtC ek.1).toArray) (yieldsIf_load_mid (by rfl) 31 _ rfl g (k * 6) (by go_simp) (wtC ek.1) _ (fun z hz => (HEk.out z hz)) Tryz.underlying31 rfl (by kernel_rfl)) ?_ (hi := rfl)
          try go_frame
          refine tr 21 (fun K hK => ?_)
          have hC := item_calls e1 wd
          go_simp
          refine hC.mono ?_
          rintro e1 z1 ⟨rfl, dz⟩
          have hb1 : Below u.heap.size u z1 := on2 hb0 dz
          clear dz hC
          go_wp2_with fail
          refine hK.out _ _ hb1 (fun hHeld2 => ?_)
          clear hK K hHeld; have hHeld := hHeld2; clear hHeld2
          try go_frame
          refine tr 30 (fun K hK => ?_)
          have hC := item_calls ek.1 z1
          go_simp
          refine hC.mono ?_
          rintro e2 z2 ⟨rfl, dz⟩
          have hb2 : Below u.heap.size u z2 := on2 hb1 dz
          clear dz hC
          go_wp2_with fail
          refine hK.out _ _ hb2 (fun hHeld2 => ?_)
          clear hK K hHeld; have hHeld := hHeld2; clear hHeld2
          try go_frame
          refine tr 31 (fun K hK => ?_)
          have hC := rAheadQ_calls (itm e1) (itm ek.1) z2
          go_simp
          refine hC.mono ?_
          rintro e3 z3 ⟨rfl, dz⟩
          have hb3 : Below u.heap.size u z3 := on2 hb2 dz
          clear dz hC
          go_wp2_with fail
          refine hK.out _ _ hb3 (fun hHeld2 => ?_)
          clear hK K hHeld; have hHeld := hHeld2; clear hHeld2
          try go_frame
          refine' tk 32 ?_ ?_; rotate_left
          · intro z hz; obtain ⟨f0, f1⟩ := HC.out z hz; clear hz; go_simp; try with_reducible rfl
          try go_frame
          refine' tk 33 ?_ ?_; rotate_left
          · intro z hz; obtain ⟨f0, f1⟩ := HC.out z hz; clear hz; go_simp; try with_reducible rfl
          try go_frame
          refine tz ?_
          cases hah : ahead (itm e1) (itm ek.1) with
          | true =>
            have HN2 : Hid (firstTo L (i + 1) = some i) := by rw [Hid, HN.out, if_pos hah]
            have HB : Hid (Below u.heap.size u z3) := hb3
            clear hHeld hb0 hb1 hb2 hb3 hbw HN hah
            go_wp2_with fail
            go_roundw
            case rel => exact ⟨i + 1, by omega, by go_num, by rw [HN2.out]; rfl, HB.out⟩
            case measure => simp [intOf]; omega
          | false =>
            have HN2 : Hid (firstTo L (i + 1) = some k) := by rw [Hid, HN.out, if_neg (by rw [hah]; decide)]
            have HB : Hid (Below u.heap.size u z3) := hb3
            clear hHeld hb0 hb1 hb2 hb3 hbw HN hah
            go_wp2_with fail
            go_roundw
            case rel => exact ⟨i + 1, by omega, by go_num, by rw [HN2.out]; rfl, HB.out⟩
            case measure => simp [intOf]; omega
end Go.Proofs.YtbmejaailhjgfaaGreat
namespace Go.Proofs.YtbmejaailhjgfaaGreat
open Go.RowKit
set_option linter.unusedSimpArgs false
set_option maxRecDepth 100000

section
variable {w u : World} {p : Nat} {a b : Value} {L : List EnD} {n : Int} {Ws : List WiD}
theorem RqE.keptX (h : RqE w u p a b L n Ws) {u' : World} (hb : Below w.heap.size w u') (hk : Kept (QS p a b) u u') : RqE w u' p a b L n Ws :=
  ⟨h.box.kept hk (.inl rfl), h.ra.keptXG REn.firm hb (hk.weak (fun _ e => e.elim False.elim (fun e => .inr (.inl e)))), h.rb.keptXG RWi.firm hb (hk.weak (fun _ e => e.elim False.elim (fun e => .inr (.inr e)))), h.lo, h.na, h.nb, h.ne⟩
theorem RqE.lt (h : RqE w u p a b L n Ws) {x : Nat} (hx : QS p a b x) : w.heap.size ≤ x ∧ x < u.heap.size := by
  rcases hx with rfl | hx | hx
  · exact ⟨h.lo, h.box.1⟩
  · exact h.ra.lt hx
  · exact h.rb.lt hx
/-- A call between, made memory of its own; what it wrote there does not count. -/
theorem QOut.write {L0 : List EnD} {n0 : Int} {Ws0 : List WiD} (hq : RqE w u p a b L0 n0 Ws0) {u2 u3 u4 : World} (h1 : Below u.heap.size u u2) (h : QOut w p a b L n Ws u2 u3) (hk : Kept (fun x => ¬ (u.heap.size ≤ x ∧ x < u2.heap.size)) u3 u4) (hb : Below w.heap.size w u4) : QOut w p a b L n Ws u u4 := by
  obtain ⟨a', b', h2, h3, h4⟩ := h
  refine ⟨a', b', h2.keptX hb (hk.weak (fun x hx hn => ?_)), ⟨Nat.le_trans h1.size (Nat.le_trans h3.1 hk.1), fun x hx hlt => ?_⟩, fun x hx => (h4 x hx).imp id (fun h => Nat.le_trans h1.size h)⟩
  · rcases h4 x hx with h5 | h5
    · have := (hq.lt h5).2; omega
    · omega
  · have e1 := hk.2 x (by omega) (Nat.lt_of_lt_of_le hlt (Nat.le_trans h1.size h3.1))
    have e2 := h3.2 x hx (Nat.lt_of_lt_of_le hlt h1.size)
    exact e1.trans (e2.trans (h1.block x hlt))
end
end Go.Proofs.YtbmejaailhjgfaaGreat
namespace Go.Proofs.YtbmejaailhjgfaaGreat
open Go.RowKit
set_option linter.unusedSimpArgs false
set_option maxRecDepth 100000

def zWt : WtD := (⟨#[]⟩, 0, 0, 0, 0)
/-- Tried once more. -/
def more (x : WtD) : WtD := if x.2.2.2.1 < 1073741824 then (x.1, x.2.1, x.2.2.1, x.2.2.2.1 + 1, x.2.2.2.2) else x
/-- What Pop answers, and what there is then. -/
def popP (L : List EnD) : WtD × Int × List EnD := match firstP L with | none => (zWt, 5, L) | some k => (more (L.getD k default).1, 0, L.eraseIdx k)
/-- Numbers as they are kept: within what the machine's numbers are. -/
def okTr (x : WtD) : Prop := -9223372036854775808 ≤ x.2.2.2.1 ∧ x.2.2.2.1 < 9223372036854775808
set_option maxHeartbeats 16000000 in
theorem rPop_calls (w : World) (p : Nat) (a b : Value) (L : List EnD) (n : Int) (Ws : List WiD) (u : World) (h : RqE w u p a b L n Ws) (hl : L.length * 56 ≤ 140737488351232) (ht : ∀ e ∈ L, okTr e.1) : Calls Tryz.prog 9 #[.pointer (some ⟨p, 0, none⟩)] u fun e u' => e = .returned (.tuple #[.agg (wtC (popP L).1).toArray, .int .i64 (popP L).2.1]) ∧ QOut w p a b (popP L).2.2 n Ws u u' := by
  obtain ⟨W1, hW1⟩ : ∃ Z, Z = u.alloc (.cells #[.string ⟨#[]⟩, .int .i64 0, .int .i64 0, .int .i64 0, .int .i64 0] 31) := ⟨_, rfl⟩
  have b1 : Below u.heap.size u W1 := by rw [hW1]; exact (Below.refl _ _).alloc (Nat.le_refl _) _
  have s1 : W1.heap.size = u.heap.size + 1 := by rw [hW1, World.size_alloc]
  have q1 : BoxL W1 u.heap.size (wtC zWt) := by rw [hW1]; exact BoxL.new u 31 (wtC zWt)
  have hC := rFirst_calls w p a b L n Ws W1 (h.on b1) hl
  have Hh : Hid (RqE w u p a b L n Ws) := h
  have H1 : Hid (Below u.heap.size u W1 ∧ BoxL W1 u.heap.size (wtC zWt) ∧ W1.heap.size = u.heap.size + 1) := ⟨b1, q1, s1⟩
  have HW1 : Hid (u.alloc (.cells #[.string ⟨#[]⟩, .int .i64 0, .int .i64 0, .int .i64 0, .int .i64 0] 31) = W1) := hW1.symm
  clear hW1 b1 q1 s1 h
  cases hf : firstP L with
  | none =>
    have HR : Hid (popP L = (zWt, 5, L)) := by rw [Hid]; unfold popP; rw [hf]
    rw [hf] at hC
    have hfn : fndI none < 0 := by decide
    generalize fndI none = fi at hfn hC
    clear hf
    go_enter Tryz.func9, Tryz.ntmps9
    go_upto_region 1 with fail
    rw [HW1.out]
    go_wp2_with fail
    refine hC.mono ?_
    rintro e z1 ⟨rfl, d1⟩
    clear hC
    have q2 : BoxL z1 u.heap.size (wtC zWt) := H1.out.2.1.on d1
    have HZ : Hid (z1.there u.heap.size 0 (wtC zWt).toArray.size) := q2.there
    obtain ⟨Y, hY⟩ : ∃ Z, Z = z1.setCells u.heap.size 0 (wtC zWt) := ⟨_, rfl⟩
    have HY : Hid (z1.setCells u.heap.size 0 (wtC zWt).toArray.toList = Y) := hY.symm
    have HQ : Hid (Y.rangeAt u.heap.size 0 (wtC zWt)) := by rw [hY]; exact World.rangeAt_setCells_same _ _ _ _ q2.there
    have bz : Below u.heap.size u z1 := on2 H1.out.1 d1
    have bY : Below u.heap.size u Y := by rw [hY]; exact below_setCells bz (Nat.le_refl _)
    have HF : Hid (QOut w p a b L n Ws u Y) := QOut.same Hh.out bY
    clear hY q2 bz bY d1
    go_wp2_with (first | (refine wpList_store_mid rfl 31 _ _ rfl u.heap.size 0 (wtC zWt).toArray rfl rfl HZ.out (by kernel_rfl) (by simp [Value.oneCell']) ?_; refine wpl_atG HY.out.symm ?_) | fail)
    --M1
    refine bodyPost_ret (v := .tuple #[.agg (wtC zWt).toArray, .int .i64 5]) (res_cell2 (p := 2) (q := 3) (ty := 31) rfl _ _ u.heap.size (wtC zWt) _ _ rfl rfl HQ.out Tryz.underlying31 rfl (by kernel_rfl)) rfl ?_
    exact ⟨by rw [HR.out], by rw [HR.out]; exact HF.out⟩
  | some k =>
    have HR : Hid (popP L = (more (L.getD k default).1, 0, L.eraseIdx k)) := by rw [Hid]; unfold popP; rw [hf]
    have hkL : k < L.length := (first_lt L _ k hf).1
    rw [hf] at hC
    have hfk : fndI (some k) = (k : Int) := rfl
    rw [hfk] at hC
    obtain ⟨g, cc, rfl, hg, hok, hr, _⟩ := Hh.out.get hkL
    have hot : okTr (L.getD k default).1 := ht _ (by rw [getD_at hkL]; exact List.getElem_mem hkL)
    obtain ⟨x, hx⟩ : ∃ x, x = (L.getD k default).1 := ⟨_, rfl⟩
    rw [← hx] at HR hot hok
    obtain ⟨m, hm⟩ : ∃ m, m = L.length := ⟨_, rfl⟩
    rw [← hm] at Hh ⊢
    have hkz : ¬ ((k : Int) < 0) := by omega
    have hkm : (k : Int) < (m : Int) := by omega
    have hkm2 : k < m := by omega
    have HX : Hid (∀ z, Below u.heap.size u z → z.cell? ⟨p, 0, none⟩ = some (.slice (some ⟨g, 0, none⟩) m cc) ∧ z.rangeAt g (k * 6) (wtC x)) := fun z hz => ⟨((Hh.out.box.on hz).2 0 _ rfl).1, by rw [hx]; exact wt_range (fun j v hj => (hz.cell (p := ⟨g, k * 6 + j, none⟩) hg).trans (hr j v hj))⟩
    have Hlm : Hid (k < L.length ∧ L.length * 56 ≤ 140737488351232) := ⟨hkL, hl⟩
    have hml : m < 1000000000000000 := by omega
    clear hf hr hx hm ht hl hkL hfk
    go_enter Tryz.func9, Tryz.ntmps9
    go_upto_region 1 with fail
    rw [HW1.out]
    go_wp2_with fail
    refine hC.mono ?_
    rintro e z1 ⟨rfl, d1⟩
    clear hC
    obtain ⟨c0, hrx⟩ := HX.out z1 (on2 H1.out.1 d1)
    have HQ1 : Hid (z1.rangeAt g (k * 6) (wtC x)) := hrx
    obtain ⟨W2, hW2⟩ : ∃ Z, Z = z1.alloc (.cells (wtC x).toArray 31) := ⟨_, rfl⟩
    have b2 : Below z1.heap.size z1 W2 := by rw [hW2]; exact (Below.refl _ _).alloc (Nat.le_refl _) _
    have q2 : BoxL W2 z1.heap.size (wtC x) := by rw [hW2]; exact BoxL.new z1 31 (wtC x)
    have HW2 : Hid (z1.alloc (.cells (wtC x).toArray 31) = W2) := hW2.symm
    have bu2 : Below u.heap.size u W2 := on2 H1.out.1 (on2 d1 b2)
    have s2 : W2.heap.size = z1.heap.size + 1 := by rw [hW2, World.size_alloc]
    have H2 : Hid (Below u.heap.size u W2 ∧ BoxL W2 z1.heap.size (wtC x) ∧ BoxL W2 u.heap.size (wtC zWt) ∧ W2.heap.size = z1.heap.size + 1 ∧ u.heap.size + 1 ≤ z1.heap.size) := ⟨bu2, q2, H1.out.2.1.on (on2 d1 b2), s2, by have h1 := d1.size; rw [H1.out.2.2] at h1; exact h1⟩
    have hC := rWithout_calls w p (.slice (some ⟨g, 0, none⟩) m cc) b L n Ws k W2 (Hh.out.on bu2) Hlm.out.1 Hlm.out.2
    clear hW2 b2 q2 bu2 s2 d1 hrx
    go_upto_region 5 with (first | (refine wpList_load_mid rfl 31 _ rfl g (k * 6) (by go_simp) (wtC x) _ HQ1.out Tryz.underlying31 rfl (by kernel_rfl) ?_) | fail)
    rw [HW2.out]
    go_wp2_with fail
    --M2
    refine hC.mono ?_
    rintro e u3 ⟨⟨v3, rfl⟩, hq3⟩
    clear hC
    have hns : ∀ y, u.heap.size ≤ y → ¬ QS p (.slice (some ⟨g, 0, none⟩) m cc) b y := fun y hy hq => by have h1 := (Hh.out.lt hq).2; omega
    have k3 : Kept (fun y => u.heap.size ≤ y) W2 u3 := by obtain ⟨_, _, _, h3, _⟩ := hq3; exact h3.weak hns
    have qx := H2.out.2.1.kept k3 (by have h1 := H2.out.2.2.2.2; omega)
    have qz := H2.out.2.2.1.kept k3 (Nat.le_refl _)
    have H3 : Hid (QOut w p (.slice (some ⟨g, 0, none⟩) m cc) b (L.eraseIdx k) n Ws W2 u3 ∧ BoxL u3 z1.heap.size (wtC x) ∧ BoxL u3 u.heap.size (wtC zWt)) := ⟨hq3, qx, qz⟩
    obtain ⟨t0, t1⟩ := qx.2 3 _ rfl
    have hne : u.heap.size ≠ z1.heap.size := by have h1 := H2.out.2.2.2.2; omega
    have HEnd : Hid (∀ (W4 : World) (y : WtD), Kept (fun b => b ≠ z1.heap.size) u3 W4 → BoxL W4 z1.heap.size (wtC y) → Below w.heap.size w W4 → BoxL W4 u.heap.size (wtC zWt) ∧ (W4.setCells u.heap.size 0 (wtC y)).rangeAt u.heap.size 0 (wtC y) ∧ QOut w p (.slice (some ⟨g, 0, none⟩) m cc) b (L.eraseIdx k) n Ws u (W4.setCells u.heap.size 0 (wtC y))) := fun W4 y k4 _ b4 => by
      have q4 := H3.out.2.2.kept k4 hne
      refine ⟨q4, World.rangeAt_setCells_same _ _ _ _ q4.there, QOut.write Hh.out H2.out.1 H3.out.1 ?_ (below_setCells b4 Hh.out.below.size)⟩
      have h1 := H2.out.2.2.2
      exact (k4.weak (fun b hb e => hb ⟨by rw [e]; omega, by rw [e]; omega⟩)).trans (kept_setCells (fun hb => hb ⟨Nat.le_refl _, by omega⟩))
    have bw3 : Below w.heap.size w u3 := by obtain ⟨_, _, h2, _⟩ := hq3; exact h2.below
    have Hb3 : Hid (Below w.heap.size w u3) := bw3
    clear hq3 k3 qx qz hns bw3
    have Hot : Hid (okTr x) := hot
    by_cases htr : x.2.2.2.1 < 1073741824
    · have Hmo : Hid (more x = (x.1, x.2.1, x.2.2.1, x.2.2.2.1 + 1, x.2.2.2.2)) := by rw [Hid]; unfold more; rw [if_pos htr]
      have hlo : -9223372036854775808 ≤ x.2.2.2.1 := Hot.out.1
      obtain ⟨y, hy⟩ : ∃ y : WtD, y = (x.1, x.2.1, x.2.2.1, x.2.2.2.1 + 1, x.2.2.2.2) := ⟨_, rfl⟩
      obtain ⟨W4, hW4⟩ : ∃ Z, Z = u3.setCell ⟨z1.heap.size, 3, none⟩ (.int .i64 (x.2.2.2.1 + 1)) := ⟨_, rfl⟩
      have q4 : BoxL W4 z1.heap.size (wtC y) := by rw [hW4, hy]; exact H3.out.2.1.set 3 _ (by simp)
      obtain ⟨e1, e2, e3⟩ := HEnd.out W4 y (by rw [hW4]; exact Kept.set (p := ⟨z1.heap.size, 3, none⟩) (fun h => h rfl) _) q4 (by rw [hW4]; exact Hb3.out.setCell (p := ⟨z1.heap.size, 3, none⟩) (by have h1 := Hh.out.below.size; have h2 := H2.out.2.2.2.2; show w.heap.size ≤ z1.heap.size; omega) _)
      have HW4 : Hid (u3.setCell ⟨z1.heap.size, 3, none⟩ (.int .i64 (x.2.2.2.1 + 1)) = W4) := hW4.symm
      have HQ4 : Hid (W4.rangeAt z1.heap.size 0 (wtC y)) := q4.range
      have HZ4 : Hid (W4.there u.heap.size 0 (wtC y).toArray.size) := e1.there
      obtain ⟨Y, hY⟩ : ∃ Z, Z = W4.setCells u.heap.size 0 (wtC y) := ⟨_, rfl⟩
      have HY : Hid (W4.setCells u.heap.size 0 (wtC y).toArray.toList = Y) := hY.symm
      rw [← hY] at e2 e3
      have HE : Hid (Y.rangeAt u.heap.size 0 (wtC y) ∧ QOut w p (.slice (some ⟨g, 0, none⟩) m cc) b (L.eraseIdx k) n Ws u Y) := ⟨e2, e3⟩
      have HR2 : Hid (popP L = (y, 0, L.eraseIdx k)) := by rw [Hid, HR.out, Hmo.out, hy]
      clear hY hW4 q4 e1 e2 e3 hy HEnd HR Hmo H3 Hb3 HX H2 hot
      --M3
      go_upto_region 8 with fail
      rw [HW4.out]
      go_wp2_with (first | (refine wpList_load_mid rfl 31 _ rfl z1.heap.size 0 rfl (wtC y) _ HQ4.out Tryz.underlying31 rfl (by kernel_rfl) ?_) | (refine wpList_store_mid rfl 31 _ _ rfl u.heap.size 0 (wtC y).toArray rfl rfl HZ4.out (by kernel_rfl) (by simp [Value.oneCell']) ?_; refine wpl_atG HY.out.symm ?_) | fail)
      --M4
      refine bodyPost_ret (v := .tuple #[.agg (wtC y).toArray, .int .i64 0]) (res_cell2 (p := 2) (q := 3) (ty := 31) rfl _ _ u.heap.size (wtC y) _ _ rfl rfl HE.out.1 Tryz.underlying31 rfl (by kernel_rfl)) rfl ?_
      exact ⟨by rw [HR2.out], by rw [HR2.out]; exact HE.out.2⟩
    · have HR2 : Hid (popP L = (x, 0, L.eraseIdx k)) := by rw [Hid, HR.out]; unfold more; rw [if_neg htr]
      obtain ⟨e1, e2, e3⟩ := HEnd.out u3 x (Kept.refl _ _) H3.out.2.1 Hb3.out
      have HQ4 : Hid (u3.rangeAt z1.heap.size 0 (wtC x)) := H3.out.2.1.range
      have HZ4 : Hid (u3.there u.heap.size 0 (wtC x).toArray.size) := e1.there
      obtain ⟨Y, hY⟩ : ∃ Z, Z = u3.setCells u.heap.size 0 (wtC x) := ⟨_, rfl⟩
      have HY : Hid (u3.setCells u.heap.size 0 (wtC x).toArray.toList = Y) := hY.symm
      rw [← hY] at e2 e3
      have HE : Hid (Y.rangeAt u.heap.size 0 (wtC x) ∧ QOut w p (.slice (some ⟨g, 0, none⟩) m cc) b (L.eraseIdx k) n Ws u Y) := ⟨e2, e3⟩
      clear hY e1 e2 e3 HEnd HR H3 Hb3 HX H2 hot
      go_wp2_with (first | (refine wpList_load_mid rfl 31 _ rfl z1.heap.size 0 rfl (wtC x) _ HQ4.out Tryz.underlying31 rfl (by kernel_rfl) ?_) | (refine wpList_store_mid rfl 31 _ _ rfl u.heap.size 0 (wtC x).toArray rfl rfl HZ4.out (by kernel_rfl) (by simp [Value.oneCell']) ?_; refine wpl_atG HY.out.symm ?_) | fail)
      --M5
      refine bodyPost_ret (v := .tuple #[.agg (wtC x).toArray, .int .i64 0]) (res_cell2 (p := 2) (q := 3) (ty := 31) rfl _ _ u.heap.size (wtC x) _ _ rfl rfl HE.out.1 Tryz.underlying31 rfl (by kernel_rfl)) rfl ?_
      exact ⟨by rw [HR2.out], by rw [HR2.out]; exact HE.out.2⟩
end Go.Proofs.YtbmejaailhjgfaaGreat
