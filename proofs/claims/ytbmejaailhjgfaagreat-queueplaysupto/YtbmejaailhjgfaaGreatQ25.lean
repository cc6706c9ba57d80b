/- The document's queue: All. Condition: the queue lies as is said of it. -/
import Derived.Test.YtbmejaailhjgfaaGreatQ24
namespace Go.Proofs.YtbmejaailhjgfaaGreat
open Go.RowKit
set_option linter.unusedSimpArgs false
set_option maxRecDepth 100000

/-- Where one comes in, from the end. -/
def posQ (pl : Int) (x : WtD) (O : List WtD) : Nat → Nat
  | 0 => 0
  | k + 1 => if aheadQ pl x (O.getD k default) = true then posQ pl x O k else k + 1
theorem pos_le (pl : Int) (x : WtD) (O : List WtD) : ∀ k, posQ pl x O k ≤ k
  | 0 => Nat.le_refl _
  | k + 1 => by unfold posQ; split; exact Nat.le_succ_of_le (pos_le pl x O k); exact Nat.le_refl _
/-- One comes in. -/
def insQ (pl : Int) (x : WtD) (O : List WtD) : List WtD := O.take (posQ pl x O O.length) ++ [x] ++ O.drop (posQ pl x O O.length)
/-- Those at a place, among the first so many. -/
def allToQ (pl : Int) (L : List EnD) : Nat → List WtD
  | 0 => []
  | i + 1 => if (L.getD i default).2 = pl then insQ pl (L.getD i default).1 (allToQ pl L i) else allToQ pl L i
def allQ (pl : Int) (L : List EnD) : List WtD := allToQ pl L L.length
theorem ins_len (pl : Int) (x : WtD) (O : List WtD) : (insQ pl x O).length = O.length + 1 := by
  have h := pos_le pl x O O.length
  unfold insQ
  rw [List.length_append, List.length_append, List.length_take, List.length_drop, List.length_singleton]
  omega
theorem all_len (pl : Int) (L : List EnD) : ∀ i, (allToQ pl L i).length ≤ i
  | 0 => Nat.le_refl _
  | i + 1 => by
    have h := all_len pl L i
    unfold allToQ
    split
    · rw [ins_len]; omega
    · omega
set_option maxHeartbeats 16000000 in
theorem rAll_calls (w : World) (p : Nat) (a b : Value) (L : List EnD) (n : Int) (Ws : List WiD) (pl : Int) (u : World) (h : RqE w u p a b L n Ws) (hl : L.length * 56 ≤ 140737488351232) : Calls Tryz.prog 28 #[.pointer (some ⟨p, 0, none⟩), .int .i64 pl] u fun e u' => ∃ v, e = .returned v ∧ Row RWt 5 (fun _ => False) u u' 31 v (allQ pl L) := by
  obtain ⟨aa, m, cc, rfl⟩ := h.ra.headG
  have hm := h.len
  have Hh : Hid (RqE w u p (.slice aa m cc) b L n Ws) := h
  have hml : m < 1000000000000000 := by omega
  have Hm : Hid (m = L.length ∧ L.length * 56 ≤ 140737488351232) := ⟨hm, hl⟩
  have HC0 : Hid (∀ z, Below u.heap.size u z → z.cell? ⟨p, 0, none⟩ = some (.slice aa m cc)) := fun z hz => ((h.box.on hz).2 0 _ rfl).1
  have HR0 : Hid (Row RWt 5 (fun _ => False) u (u.alloc (.cells #[] 31)) 31 (.slice (some ⟨u.heap.size, 0, none⟩) 0 0) (allToQ pl L 0)) := Row.start _ u u _ (Below.refl _ _)
  clear h hm hl
  go_enter Tryz.func28, Tryz.ntmps28
  go_wp2_with fail
  go_loopw [5, 6] (fun v iv wr => ∃ i : Nat, i ≤ m ∧ iv = .int .i64 i ∧ Hid (Row RWt 5 (fun _ => False) u wr 31 v (allToQ pl L i))) (fun _ iv _ => m - (intOf iv).toNat)
  case atStart => exact ⟨0, Nat.zero_le _, rfl, HR0⟩
  case round =>
    obtain ⟨i, him, rfl, hrow⟩ := hrel
    clear HR0
    have hbw : Below u.heap.size u wr := hrow.out.below
    have c0 := HC0.out wr hbw
    by_cases hge : m ≤ i
    · obtain rfl : i = m := by omega
      have hltz : ¬ ((i : Int) < (i : Int)) := by omega
      have HF : Hid (Row RWt 5 (fun _ => False) u wr 31 u5 (allQ pl L)) := by rw [Hid, allQ, ← Hm.out.1]; exact hrow.out
      clear hrow hbw
      go_wp2_with fail
      go_ret
      exact ⟨_, rfl, HF.out⟩
    · have hlt : i < m := by omega
      have hltz : (i : Int) < (m : Int) := by omega
      obtain ⟨g, c, e0, hg, ok, hr, _⟩ := Hh.out.get (i := i) (by rw [← Hm.out.1]; exact hlt)
      obtain ⟨rfl, rfl⟩ : aa = some ⟨g, 0, none⟩ ∧ cc = c := by simp only [Value.slice.injEq] at e0; exact ⟨e0.1, e0.2.2⟩
      obtain ⟨e, he⟩ : ∃ e, e = L.getD i default := ⟨_, rfl⟩
      rw [← he] at hr ok
      have HR : Hid (∀ z, Below u.heap.size u z → z.rangeAt g (i * 6) (enC e)) := fun z hz j v hj => (hz.cell (p := ⟨g, i * 6 + j, none⟩) hg).trans (hr j v hj)
      have d5 := HR.out wr hbw 5 _ rfl
      have HS : Hid (allToQ pl L (i + 1) = if e.2 = pl then insQ pl e.1 (allToQ pl L i) else allToQ pl L i) := by rw [Hid, he]; rfl
      have Hok : Hid (okS e.1.1) := ok
      clear he hr e0 ok
      by_cases hp : e.2 = pl
      case neg =>
        have HN : Hid (allToQ pl L (i + 1) = allToQ pl L i) := by rw [Hid, HS.out, if_neg hp]
        generalize e.2 = q at hp d5
        have hpb : (q == pl) = false := by simpa using hp
        have hpc : (q != pl) = true := by simpa using hp
        clear HS HR hp
        go_wp2_with fail
        go_roundw
        case rel => exact ⟨i + 1, by omega, by go_num, by rw [HN.out]; exact hrow.out⟩
        case measure => simp [intOf]; omega
      case pos =>
        have HN : Hid (allToQ pl L (i + 1) = insQ pl e.1 (allToQ pl L i)) := by rw [Hid, HS.out, if_pos hp]
        rw [hp] at d5
        have hol := all_len pl L i
        obtain ⟨O, hO⟩ : ∃ O, O = allToQ pl L i := ⟨_, rfl⟩
        rw [← hO] at hrow HN hol
        obtain ⟨va, vc, rfl, sv⟩ := (hrow.out.wAG RWt.firm (A' := Fresh u) (fun _ h => h.elim)).slF (bytes := 48) RWt.firm (by have h1 := Hm.out; omega)
        obtain ⟨ol, hol2⟩ : ∃ o, o = O.length := ⟨_, rfl⟩
        have Hol : Hid (ol = O.length) := hol2
        have Hsv : Hid (SlAt RWt 5 48 (Fresh u) wr va ol vc O) := by rw [Hid, hol2]; exact sv
        rw [← hol2] at hol ⊢
        have HC : Hid (∀ z, Below wr.heap.size wr z → z.cell? ⟨p, 0, none⟩ = some (.slice (some ⟨g, 0, none⟩) m cc)) := fun z hz => HC0.out z (on2 hbw hz)
        have HE : Hid (∀ z, Below wr.heap.size wr z → z.rangeAt g (i * 6) (wtC e.1)) := fun z hz => wt_range (HR.out z (on2 hbw hz))
        have hoz : ol < 1000000000000000 := by omega
        have Hbw : Hid (Below u.heap.size u wr) := hbw
        clear HS HR hp hO sv hol2 hrow hbw
        go_wp2_with fail
        --M1
        obtain ⟨w1, hw1⟩ : ∃ W, W = wr := ⟨_, rfl⟩
        subst hw1
        have HTk : Hid (∀ {B : Where} {k : Nat} (z : World), Below w1.heap.size w1 z → k ≤ ol → Src RWt 5 B z va k (O.take k)) := fun {B k} z hz hk => by obtain ⟨h1, h2⟩ := ((sl_takeG Hsv.out hk).on RWt.firm hz).src RWt.firm; exact ⟨h1, h2⟩
        have HDr : Hid (∀ {B : Where} {k : Nat} (z : World), Below w1.heap.size w1 z → k ≤ ol → Src RWt 5 B z (dropG va vc k 5) (ol - k) (O.drop k)) := fun {B k} z hz hk => by obtain ⟨h1, h2⟩ := ((sl_dropG Hsv.out hk).on RWt.firm hz).src RWt.firm; exact ⟨h1, h2⟩
        have hov : ol ≤ vc := Hsv.out.2.1
        go_loopw [7] (fun kv wz => ∃ k : Nat, k ≤ ol ∧ kv = .int .i64 k ∧ Hid (posQ pl e.1 O ol = posQ pl e.1 O k) ∧ Hid (Below w1.heap.size w1 wz)) (fun kv _ => (intOf kv).toNat)
        case atStart => exact ⟨ol, Nat.le_refl _, rfl, rfl, Below.refl _ _⟩
        case round =>
          obtain ⟨k, hk, rfl, hpos, hbz0⟩ := hrel
          have hbz := hbz0.out
          have hvz : (k : Int) ≤ (vc : Int) := by omega
          have hkz0 : (0 : Int) ≤ (k : Int) := by omega
          have hkol : (k : Int) ≤ (ol : Int) := by omega
          have hovz : (ol : Int) ≤ (vc : Int) := by omega
          have Hnil : Hid (va = none → k = 0 ∧ vc = 0 ∧ ol = 0) := fun e1 => by have h1 := Hsv.out.2.2.1 e1; exact ⟨by omega, h1, by omega⟩
          by_cases hk0 : k = 0
          · have Hpk : Hid (posQ pl e.1 O ol = k) := by rw [Hid, hpos.out, hk0]; rfl
            have hkf : ¬ ((0 : Int) < (k : Int)) := by omega
            have hkf2 : ¬ (0 < k) := by omega
            clear hk0
            go_upto_region 7 with fail
            --A
            have hb0 : Below w1.heap.size w1 wr.drew := on2 hbz (Below.refl _ _).drew
            refine t0 (fun z => Below w1.heap.size w1 z) hb0 (fun hHeld => ?_)
            generalize hwd : wr.drew = wd at hHeld hb0 ⊢
            clear hwd
            try go_frame
            refine' tk 0 ?_ ?_; rotate_left
            · intro z hz; have f0 := HC.out z hz; clear hz; go_simp; try with_reducible rfl
            try go_frame
            refine' tk 1 ?_ ?_; rotate_left
            · intro z hz; have f0 := HC.out z hz; clear hz; go_simp; try with_reducible rfl
            try go_frame
            refine' tk 2 ?_ ?_; rotate_left
            · intro z hz; have f0 := HC.out z hz; clear hz; go_simp; try with_reducible rfl
            try go_frame
            refine tn 3 ?_
            try go_frame
            refine tn 4 ?_
            try go_frame
            refine tn 5 ?_
            try go_frame
            refine tn 6 ?_
            try go_frame
            refine tn 7 ?_
            try go_frame
            refine tn 8 ?_
            try go_frame
            refine tn 9 ?_
            try go_frame
            refine tn 10 ?_
            try go_frame
            refine tn 11 ?_
            try go_frame
            refine tn 12 ?_
            try go_frame
            refine tn 13 ?_
            try go_frame
            refine tn 14 ?_
            try go_frame
            refine tn 15 ?_
            try go_frame
            refine tn 16 ?_
            try go_frame
            refine tn 17 ?_
            try go_frame
            refine' tk 18 ?_ ?_; rotate_left
            · intro z hz; have f0 := HC.out z hz; clear hz; go_simp; try with_reducible rfl
            try go_frame
            refine tz ?_
            have hbd := hb0
            clear hHeld hb0 hbz
            go_upto_region 9 with fail
            --A9
            have hb0 : Below w1.heap.size w1 wd.drew := on2 hbd (Below.refl _ _).drew
            refine t0 (fun z => Below w1.heap.size w1 z) hb0 (fun hHeld => ?_)
            generalize hwd : wd.drew = wd at hHeld hb0 ⊢
            clear hwd
            try go_frame
            refine' tk 1 ?_ ?_; rotate_left
            · intro z hz; have f0 := HC.out z hz; clear hz; go_simp; try with_reducible rfl
            try go_frame
            refine' tk 2 ?_ ?_; rotate_left
            · intro z hz; have f0 := HC.out z hz; clear hz; go_simp; try with_reducible rfl
            try go_frame
            refine' tq 3 (.slice va k vc) ?_ ?_
            · refine .inl ⟨rfl, fun z _ => ?_⟩
              rcases va with _ | ad
              · obtain ⟨rfl, rfl, rfl⟩ := Hnil.out rfl
                go_simp
                try with_reducible rfl
              · go_simp
                try with_reducible rfl
            try go_frame
            refine' tk 5 ?_ ?_; rotate_left
            · intro z hz; have f0 := HC.out z hz; clear hz; go_simp; try with_reducible rfl
            try go_frame
            refine' tk 6 ?_ ?_; rotate_left
            · intro z hz; have f0 := HC.out z hz; clear hz; go_simp; try with_reducible rfl
            try go_frame
            refine' tk 7 ?_ ?_; rotate_left
            · intro z hz; have f0 := HC.out z hz; clear hz; go_simp; try with_reducible rfl
            try go_frame
            refine' tk 8 ?_ ?_; rotate_left
            · intro z hz; have f0 := HC.out z hz; clear hz; go_simp; try with_reducible rfl
            try go_frame
            refine' tk 9 ?_ ?_; rotate_left
            · intro z hz; have f0 := HC.out z hz; clear hz; go_simp; try with_reducible rfl
            try go_frame
            refine' tk 10 ?_ ?_; rotate_left
            · intro z hz; have f0 := HC.out z hz; clear hz; go_simp; try with_reducible rfl
            try go_frame
            refine' tk 11 ?_ ?_; rotate_left
            · intro z hz; have f0 := HC.out z hz; clear hz; go_simp; try with_reducible rfl
            try go_frame
            refine tq 12 (.agg (wtC e.1).toArray) (yieldsIf_load_mid (by rfl) 31 _ rfl g (i * 6) (by go_simp) (wtC e.1) _ (fun z hz => HE.out z hz) Tryz.underlying31 rfl (by kernel_rfl)) ?_ (hi := rfl)
            try go_frame
            refine' tk 15 ?_ ?_; rotate_left
            · intro z hz; have f0 := HC.out z hz; clear hz; go_simp; try with_reducible rfl
            try go_frame
            refine' tk 16 ?_ ?_; rotate_left
            · intro z hz; have f0 := HC.out z hz; clear hz; go_simp; try with_reducible rfl
            try go_frame
            refine' tq 17 (.slice (dropG va vc k 5) (ol - k) (vc - k)) ?_ ?_
            · refine .inl ⟨rfl, fun z _ => ?_⟩
              rcases va with _ | ad
              · obtain ⟨rfl, rfl, rfl⟩ := Hnil.out rfl
                simp only [dropG]
                go_simp
                try with_reducible rfl
              · by_cases hct : vc = k
                · simp only [dropG, hct, if_true]
                  go_simp
                  try with_reducible rfl
                · simp only [dropG, hct, if_false]
                  go_simp
                  try with_reducible rfl
            try go_frame
            refine tb 0 13 (fun K hK => ?_) (fun K hK => ?_)
            · go_simp
              obtain ⟨w2, hw2⟩ : ∃ Z, Z = wd.alloc (.cells #[] 31) := ⟨_, rfl⟩
              have bw2 : Below wd.heap.size wd w2 := by rw [hw2]; exact (Below.refl _ _).alloc (Nat.le_refl _) _
              have rw2 : Row RWt 5 (fun _ => False) wd w2 31 (.slice (some ⟨wd.heap.size, 0, none⟩) 0 0) ([]) := by rw [hw2]; exact Row.start _ wd wd _ (Below.refl _ _)
              have sw2 : Hid (w2.heap.size = wd.heap.size + 1) := by rw [hw2, Hid, World.size_alloc]
              rw [← hw2]
              clear hw2
              have h2 : Below wd.heap.size wd w2 := on2 (Below.refl _ _) bw2
              refine hK.out _ _ (on2 hb0 h2) (fun hHeld2 => ?_)
              clear hK K hHeld; have hHeld := hHeld2; clear hHeld2
              try go_frame
              refine tb 4 13 (fun K hK => ?_) (fun K hK => ?_)
              · refine want_yesQ (by rfl) (row_appendP_wp RWt.firm (A := fun _ => False) (w0 := wd) _ _ 50 31 rfl _ 48 infoWt Tryz.underlying50 rfl (by decide) (by decide) (.slice (some ⟨wd.heap.size, 0, none⟩) 0 0) [] rfl rw2 va k vc (O.take k) rfl (HTk.out _ (on2 hb0 h2) hk) (by have h1 := Hm.out; have h2 := Hol.out; simp only [List.length_append, List.length_take, List.length_drop, List.length_nil, List.length_singleton]; omega) ?_)
                intro v4 w4 hw4 gw4 ow4
                obtain ⟨v4a, v4n, v4c, rfl⟩ := hw4.headG
                have h4 : Below wd.heap.size wd w4 := hw4.below
                refine hK.out _ _ (on2 hb0 h4) (fun hHeld2 => ?_)
                clear hK K hHeld; have hHeld := hHeld2; clear hHeld2
                try go_frame
                refine tr 13 (fun K hK => ?_)
                go_simp
                obtain ⟨w5, hw5⟩ : ∃ Z, Z = w4.alloc (.cells (wtC e.1).toArray 31) := ⟨_, rfl⟩
                have bw5 : Below w4.heap.size w4 w5 := by rw [hw5]; exact (Below.refl _ _).alloc (Nat.le_refl _) _
                have qw5 : BoxL w5 w4.heap.size (wtC e.1) := by rw [hw5]; exact BoxL.new w4 31 _
                have sw5 : Hid (w5.heap.size = w4.heap.size + 1) := by rw [hw5, Hid, World.size_alloc]
                rw [← hw5]
                clear hw5
                have h5 : Below wd.heap.size wd w5 := on2 h4 bw5
                refine hK.out _ _ (on2 hb0 h5) (fun hHeld2 => ?_)
                clear hK K hHeld; have hHeld := hHeld2; clear hHeld2
                try go_frame
                refine tr 14 (fun K hK => ?_)
                refine want_yesQ (by rfl) (row_appendP_wp RWt.firm (A := fun _ => False) (w0 := wd) _ _ 50 31 rfl _ 48 infoWt Tryz.underlying50 rfl (by decide) (by decide) (.slice v4a v4n v4c) ([] ++ O.take k) rfl (hw4.on RWt.firm bw5) (some ⟨w4.heap.size, 0, none⟩) 1 1 ([e.1]) rfl (src_boxG RWt.firm qw5 ⟨rfl, Hok.out⟩) (by have h1 := Hm.out; have h2 := Hol.out; simp only [List.length_append, List.length_take, List.length_drop, List.length_nil, List.length_singleton]; omega) ?_)
                intro v6 w6 hw6 gw6 ow6
                obtain ⟨v6a, v6n, v6c, rfl⟩ := hw6.headG
                have h6 : Below wd.heap.size wd w6 := hw6.below
                refine hK.out _ _ (on2 hb0 h6) (fun hHeld2 => ?_)
                clear hK K hHeld; have hHeld := hHeld2; clear hHeld2
                try go_frame
                refine tr 18 (fun K hK => ?_)
                refine want_yesQ (by rfl) (row_appendP_wp RWt.firm (A := fun _ => False) (w0 := wd) _ _ 50 31 rfl _ 48 infoWt Tryz.underlying50 rfl (by decide) (by decide) (.slice v6a v6n v6c) ([] ++ O.take k ++ [e.1]) rfl hw6 (dropG va vc k 5) (ol - k) (vc - k) (O.drop k) rfl (HDr.out _ (on2 hb0 h6) hk) (by have h1 := Hm.out; have h2 := Hol.out; simp only [List.length_append, List.length_take, List.length_drop, List.length_nil, List.length_singleton]; omega) ?_)
                intro v7 w7 hw7 gw7 ow7
                obtain ⟨v7a, v7n, v7c, rfl⟩ := hw7.headG
                have h7 : Below wd.heap.size wd w7 := hw7.below
                refine hK.out _ _ (on2 hb0 h7) (fun hHeld2 => ?_)
                clear hK K hHeld; have hHeld := hHeld2; clear hHeld2
                try go_frame
                refine' tk 19 ?_ ?_; rotate_left
                · intro z hz; clear hz; go_simp; try with_reducible rfl
                try go_frame
                refine tz ?_
                have HF : Hid (Row RWt 5 (fun _ => False) u w7 31 (.slice v7a v7n v7c) (allToQ pl L (i + 1))) := by
                  rw [Hid, HN.out]
                  have e1 : insQ pl e.1 O = [] ++ O.take k ++ [e.1] ++ O.drop k := by unfold insQ; rw [← Hol.out, Hpk.out]; simp
                  rw [e1]
                  exact hw7.fromG (on2 Hbw.out hb0)
                clear hHeld
                go_wp2_with fail
                go_roundw
                case rel => exact ⟨i + 1, by omega, by go_num, HF.out⟩
                case measure => simp [intOf]; omega
              · go_simp
                obtain ⟨w5, hw5⟩ : ∃ Z, Z = w2.alloc (.cells (wtC e.1).toArray 31) := ⟨_, rfl⟩
                have bw5 : Below w2.heap.size w2 w5 := by rw [hw5]; exact (Below.refl _ _).alloc (Nat.le_refl _) _
                have qw5 : BoxL w5 w2.heap.size (wtC e.1) := by rw [hw5]; exact BoxL.new w2 31 _
                have sw5 : Hid (w5.heap.size = w2.heap.size + 1) := by rw [hw5, Hid, World.size_alloc]
                rw [← hw5]
                clear hw5
                have h5 : Below wd.heap.size wd w5 := on2 h2 bw5
                refine hK.out _ _ (on2 hb0 h5) (fun hHeld2 => ?_)
                clear hK K hHeld; have hHeld := hHeld2; clear hHeld2
                try go_frame
                refine tr 4 (fun K hK => ?_)
                refine want_yesQ (by rfl) (row_appendP_wp RWt.firm (A := fun _ => False) (w0 := wd) _ _ 50 31 rfl _ 48 infoWt Tryz.underlying50 rfl (by decide) (by decide) (.slice (some ⟨wd.heap.size, 0, none⟩) 0 0) [] rfl (rw2.on RWt.firm bw5) va k vc (O.take k) rfl (HTk.out _ (on2 hb0 h5) hk) (by have h1 := Hm.out; have h2 := Hol.out; simp only [List.length_append, List.length_take, List.length_drop, List.length_nil, List.length_singleton]; omega) ?_)
                intro v4 w4 hw4 gw4 ow4
                obtain ⟨v4a, v4n, v4c, rfl⟩ := hw4.headG
                have h4 : Below wd.heap.size wd w4 := hw4.below
                refine hK.out _ _ (on2 hb0 h4) (fun hHeld2 => ?_)
                clear hK K hHeld; have hHeld := hHeld2; clear hHeld2
                try go_frame
                refine tr 14 (fun K hK => ?_)
                refine want_yesQ (by rfl) (row_appendP_wp RWt.firm (A := fun _ => False) (w0 := wd) _ _ 50 31 rfl _ 48 infoWt Tryz.underlying50 rfl (by decide) (by decide) (.slice v4a v4n v4c) ([] ++ O.take k) rfl hw4 (some ⟨w2.heap.size, 0, none⟩) 1 1 ([e.1]) rfl (src_boxG RWt.firm (qw5.kept (A := fun y => y = w2.heap.size) (Kept.grown gw4 (fun y e2 hy => by simp only [Value.ownBlock, Option.some.injEq] at e2; have h8 := sw2.out; omega)) rfl) ⟨rfl, Hok.out⟩) (by have h1 := Hm.out; have h2 := Hol.out; simp only [List.length_append, List.length_take, List.length_drop, List.length_nil, List.length_singleton]; omega) ?_)
                intro v6 w6 hw6 gw6 ow6
                obtain ⟨v6a, v6n, v6c, rfl⟩ := hw6.headG
                have h6 : Below wd.heap.size wd w6 := hw6.below
                refine hK.out _ _ (on2 hb0 h6) (fun hHeld2 => ?_)
                clear hK K hHeld; have hHeld := hHeld2; clear hHeld2
                try go_frame
                refine tr 18 (fun K hK => ?_)
                refine want_yesQ (by rfl) (row_appendP_wp RWt.firm (A := fun _ => False) (w0 := wd) _ _ 50 31 rfl _ 48 infoWt Tryz.underlying50 rfl (by decide) (by decide) (.slice v6a v6n v6c) ([] ++ O.take k ++ [e.1]) rfl hw6 (dropG va vc k 5) (ol - k) (vc - k) (O.drop k) rfl (HDr.out _ (on2 hb0 h6) hk) (by have h1 := Hm.out; have h2 := Hol.out; simp only [List.length_append, List.length_take, List.length_drop, List.length_nil, List.length_singleton]; omega) ?_)
                intro v7 w7 hw7 gw7 ow7
                obtain ⟨v7a, v7n, v7c, rfl⟩ := hw7.headG
                have h7 : Below wd.heap.size wd w7 := hw7.below
                refine hK.out _ _ (on2 hb0 h7) (fun hHeld2 => ?_)
                clear hK K hHeld; have hHeld := hHeld2; clear hHeld2
                try go_frame
                refine' tk 19 ?_ ?_; rotate_left
                · intro z hz; clear hz; go_simp; try with_reducible rfl
                try go_frame
                refine tz ?_
                have HF : Hid (Row RWt 5 (fun _ => False) u w7 31 (.slice v7a v7n v7c) (allToQ pl L (i + 1))) := by
                  rw [Hid, HN.out]
                  have e1 : insQ pl e.1 O = [] ++ O.take k ++ [e.1] ++ O.drop k := by unfold insQ; rw [← Hol.out, Hpk.out]; simp
                  rw [e1]
                  exact hw7.fromG (on2 Hbw.out hb0)
                clear hHeld
                go_wp2_with fail
                go_roundw
                case rel => exact ⟨i + 1, by omega, by go_num, HF.out⟩
                case measure => simp [intOf]; omega
            · go_simp
              obtain ⟨w5, hw5⟩ : ∃ Z, Z = wd.alloc (.cells (wtC e.1).toArray 31) := ⟨_, rfl⟩
              have bw5 : Below wd.heap.size wd w5 := by rw [hw5]; exact (Below.refl _ _).alloc (Nat.le_refl _) _
              have qw5 : BoxL w5 wd.heap.size (wtC e.1) := by rw [hw5]; exact BoxL.new wd 31 _
              have sw5 : Hid (w5.heap.size = wd.heap.size + 1) := by rw [hw5, Hid, World.size_alloc]
              rw [← hw5]
              clear hw5
              have h5 : Below wd.heap.size wd w5 := on2 (Below.refl _ _) bw5
              refine hK.out _ _ (on2 hb0 h5) (fun hHeld2 => ?_)
              clear hK K hHeld; have hHeld := hHeld2; clear hHeld2
              try go_frame
              refine tr 0 (fun K hK => ?_)
              go_simp
              obtain ⟨w2, hw2⟩ : ∃ Z, Z = w5.alloc (.cells #[] 31) := ⟨_, rfl⟩
              have bw2 : Below w5.heap.size w5 w2 := by rw [hw2]; exact (Below.refl _ _).alloc (Nat.le_refl _) _
              have rw2 : Row RWt 5 (fun _ => False) wd w2 31 (.slice (some ⟨w5.heap.size, 0, none⟩) 0 0) ([]) := by rw [hw2]; exact Row.start _ wd w5 _ h5
              have sw2 : Hid (w2.heap.size = w5.heap.size + 1) := by rw [hw2, Hid, World.size_alloc]
              rw [← hw2]
              clear hw2
              have h2 : Below wd.heap.size wd w2 := on2 h5 bw2
              refine hK.out _ _ (on2 hb0 h2) (fun hHeld2 => ?_)
              clear hK K hHeld; have hHeld := hHeld2; clear hHeld2
              try go_frame
              refine tr 4 (fun K hK => ?_)
              refine want_yesQ (by rfl) (row_appendP_wp RWt.firm (A := fun _ => False) (w0 := wd) _ _ 50 31 rfl _ 48 infoWt Tryz.underlying50 rfl (by decide) (by decide) (.slice (some ⟨w5.heap.size, 0, none⟩) 0 0) [] rfl rw2 va k vc (O.take k) rfl (HTk.out _ (on2 hb0 h2) hk) (by have h1 := Hm.out; have h2 := Hol.out; simp only [List.length_append, List.length_take, List.length_drop, List.length_nil, List.length_singleton]; omega) ?_)
              intro v4 w4 hw4 gw4 ow4
              obtain ⟨v4a, v4n, v4c, rfl⟩ := hw4.headG
              have h4 : Below wd.heap.size wd w4 := hw4.below
              refine hK.out _ _ (on2 hb0 h4) (fun hHeld2 => ?_)
              clear hK K hHeld; have hHeld := hHeld2; clear hHeld2
              try go_frame
              refine tr 14 (fun K hK => ?_)
              refine want_yesQ (by rfl) (row_appendP_wp RWt.firm (A := fun _ => False) (w0 := wd) _ _ 50 31 rfl _ 48 infoWt Tryz.underlying50 rfl (by decide) (by decide) (.slice v4a v4n v4c) ([] ++ O.take k) rfl hw4 (some ⟨wd.heap.size, 0, none⟩) 1 1 ([e.1]) rfl (src_boxG RWt.firm ((qw5.on bw2).kept (A := fun y => y = wd.heap.size) (Kept.grown gw4 (fun y e2 hy => by simp only [Value.ownBlock, Option.some.injEq] at e2; have h8 := sw5.out; omega)) rfl) ⟨rfl, Hok.out⟩) (by have h1 := Hm.out; have h2 := Hol.out; simp only [List.length_append, List.length_take, List.length_drop, List.length_nil, List.length_singleton]; omega) ?_)
              intro v6 w6 hw6 gw6 ow6
              obtain ⟨v6a, v6n, v6c, rfl⟩ := hw6.headG
              have h6 : Below wd.heap.size wd w6 := hw6.below
              refine hK.out _ _ (on2 hb0 h6) (fun hHeld2 => ?_)
              clear hK K hHeld; have hHeld := hHeld2; clear hHeld2
              try go_frame
              refine tr 18 (fun K hK => ?_)
              refine want_yesQ (by rfl) (row_appendP_wp RWt.firm (A := fun _ => False) (w0 := wd) _ _ 50 31 rfl _ 48 infoWt Tryz.underlying50 rfl (by decide) (by decide) (.slice v6a v6n v6c) ([] ++ O.take k ++ [e.1]) rfl hw6 (dropG va vc k 5) (ol - k) (vc - k) (O.drop k) rfl (HDr.out _ (on2 hb0 h6) hk) (by have h1 := Hm.out; have h2 := Hol.out; simp only [List.length_append, List.length_take, List.length_drop, List.length_nil, List.length_singleton]; omega) ?_)
              intro v7 w7 hw7 gw7 ow7
              obtain ⟨v7a, v7n, v7c, rfl⟩ := hw7.headG
              have h7 : Below wd.heap.size wd w7 := hw7.below
              refine hK.out _ _ (on2 hb0 h7) (fun hHeld2 => ?_)
              clear hK K hHeld; have hHeld := hHeld2; clear hHeld2
              try go_frame
              refine' tk 19 ?_ ?_; rotate_left
              · intro z hz; clear hz; go_simp; try with_reducible rfl
              try go_frame
              refine tz ?_
              have HF : Hid (Row RWt 5 (fun _ => False) u w7 31 (.slice v7a v7n v7c) (allToQ pl L (i + 1))) := by
                rw [Hid, HN.out]
                have e1 : insQ pl e.1 O = [] ++ O.take k ++ [e.1] ++ O.drop k := by unfold insQ; rw [← Hol.out, Hpk.out]; simp
                rw [e1]
                exact hw7.fromG (on2 Hbw.out hb0)
              clear hHeld
              go_wp2_with fail
              go_roundw
              case rel => exact ⟨i + 1, by omega, by go_num, HF.out⟩
              case measure => simp [intOf]; omega
          · obtain ⟨j, hj⟩ : ∃ j, k = j + 1 := ⟨k - 1, by omega⟩
            have hkt : (0 : Int) < (k : Int) := by omega
            have hkt2 : 0 < k := by omega
            have hjz : (k : Int) - 1 = (j : Int) := by omega
            have hjo : (j : Int) < (ol : Int) := by omega
            have hjo2 : j < ol := by omega
            have hjw : IntKind.i64.wrap (j : Int) = (j : Int) := by
              have h8 : j < 1000000000000000 := by omega
              simp [IntKind.wrap, IntKind.bits, IntKind.signed]
              omega
            obtain ⟨og, oo, hva, hogl, _, cs, hcs, hcv⟩ := Hsv.out.get hjo2
            obtain ⟨rfl, _⟩ : cs = wtC (O.getD j default) ∧ _ := hcs
            subst hva
            obtain ⟨y, hy⟩ : ∃ y, y = O.getD j default := ⟨_, rfl⟩
            rw [← hy] at hcv
            have HY : Hid (∀ z, Below w1.heap.size w1 z → z.rangeAt og (oo + j * 5) (wtC y)) := fun z hz q v hq => (hz.cell (p := ⟨og, oo + j * 5 + q, none⟩) hogl).trans (hcv q v hq)
            have Hps : Hid (posQ pl e.1 O k = if aheadQ pl e.1 y = true then posQ pl e.1 O j else k) := by rw [Hid, hj, hy]; rfl
            clear hcv hy hk0 Hnil
            have Hj : Hid (k = j + 1) := hj
            clear hj
            cases hah : aheadQ pl e.1 y with
            | true =>
              have Hp2 : Hid (posQ pl e.1 O ol = posQ pl e.1 O j) := by rw [Hid, hpos.out, Hps.out, if_pos hah]
              go_upto_region 7 with fail
              --B
              have hb0 : Below w1.heap.size w1 wr.drew := on2 hbz (Below.refl _ _).drew
              refine t0 (fun z => Below w1.heap.size w1 z) hb0 (fun hHeld => ?_)
              generalize hwd : wr.drew = wd at hHeld hb0 ⊢
              clear hwd
              try go_frame
              refine' tk 0 ?_ ?_; rotate_left
              · intro z hz; have f0 := HC.out z hz; clear hz; go_simp; try with_reducible rfl
              try go_frame
              refine' tk 1 ?_ ?_; rotate_left
              · intro z hz; have f0 := HC.out z hz; clear hz; go_simp; try with_reducible rfl
              try go_frame
              refine' tk 2 ?_ ?_; rotate_left
              · intro z hz; have f0 := HC.out z hz; clear hz; go_simp; try with_reducible rfl
              try go_frame
              refine' tk 3 ?_ ?_; rotate_left
              · intro z hz; have f0 := HC.out z hz; clear hz; go_simp; try with_reducible rfl
              try go_frame
              refine' tk 4 ?_ ?_; rotate_left
              · intro z hz; have f0 := HC.out z hz; clear hz; go_simp; try with_reducible rfl
              try go_frame
              refine' tk 5 ?_ ?_; rotate_left
              · intro z hz; have f0 := HC.out z hz; clear hz; go_simp; try with_reducible rfl
              try go_frame
              refine' tk 6 ?_ ?_; rotate_left
              · intro z hz; have f0 := HC.out z hz; clear hz; go_simp; try with_reducible rfl
              try go_frame
              refine' tk 7 ?_ ?_; rotate_left
              · intro z hz; have f0 := HC.out z hz; clear hz; go_simp; try with_reducible rfl
              try go_frame
              refine' tk 8 ?_ ?_; rotate_left
              · intro z hz; have f0 := HC.out z hz; clear hz; go_simp; try with_reducible rfl
              try go_frame
              refine' tk 9 ?_ ?_; rotate_left
              · intro z hz; have f0 := HC.out z hz; clear hz; go_simp; try with_reducible rfl
              try go_frame
              refine' tk 10 ?_ ?_; rotate_left
              · intro z hz; have f0 := HC.out z hz; clear hz; go_simp; try with_reducible rfl
              try go_frame
              refine tq 11 (.agg (wtC e.1).toArray) (yieldsIf_load_mid (by rfl) 31 _ rfl g (i * 6) (by go_simp) (wtC e.1) _ (fun z hz => HE.out z hz) Tryz.underlying31 rfl (by kernel_rfl)) ?_ (hi := rfl)
              try go_frame
              refine' tk 12 ?_ ?_; rotate_left
              · intro z hz; have f0 := HC.out z hz; clear hz; go_simp; try with_reducible rfl
              try go_frame
              refine' tk 13 ?_ ?_; rotate_left
              · intro z hz; have f0 := HC.out z hz; clear hz; go_simp; try with_reducible rfl
              try go_frame
              refine' tk 14 ?_ ?_; rotate_left
              · intro z hz; have f0 := HC.out z hz; clear hz; go_simp; try with_reducible rfl
              try go_frame
              refine' tk 15 ?_ ?_; rotate_left
              · intro z hz; have f0 := HC.out z hz; clear hz; go_simp; try with_reducible rfl
              try go_frame
              refine tq 16 (.agg (wtC y).toArray) (yieldsIf_load_mid (by rfl) 31 _ rfl og (oo + j * 5) (by go_simp) (wtC y) _ (fun z hz => HY.out z hz) Tryz.underlying31 rfl (by kernel_rfl)) ?_ (hi := rfl)
              try go_frame
              refine tr 17 (fun K hK => ?_)
              have hC := qAhead_calls pl e.1 y wd
              rw [hah] at hC
              go_simp
              refine hC.mono ?_
              rintro e9 z1 ⟨rfl, dz⟩
              have hb1 : Below w1.heap.size w1 z1 := on2 hb0 dz
              clear dz hC
              go_wp2_with fail
              refine hK.out _ _ hb1 (fun hHeld2 => ?_)
              clear hK K hHeld; have hHeld := hHeld2; clear hHeld2
              try go_frame
              refine' tk 18 ?_ ?_; rotate_left
              · intro z hz; have f0 := HC.out z hz; clear hz; go_simp; try with_reducible rfl
              try go_frame
              refine tz ?_
              have HB : Hid (Below w1.heap.size w1 z1) := hb1
              clear hHeld hb0 hb1 hbz hah
              go_wp2_with fail
              --B2
              go_roundw
              case rel => exact ⟨j, by omega, by go_num, Hp2.out, HB.out⟩
              case measure => simp [intOf]; have := Hj.out; omega
            | false =>
              have Hpk : Hid (posQ pl e.1 O ol = k) := by rw [Hid, hpos.out, Hps.out, if_neg (by rw [hah]; decide)]
              go_upto_region 7 with fail
              --C
              have hb0 : Below w1.heap.size w1 wr.drew := on2 hbz (Below.refl _ _).drew
              refine t0 (fun z => Below w1.heap.size w1 z) hb0 (fun hHeld => ?_)
              generalize hwd : wr.drew = wd at hHeld hb0 ⊢
              clear hwd
              try go_frame
              refine' tk 0 ?_ ?_; rotate_left
              · intro z hz; have f0 := HC.out z hz; clear hz; go_simp; try with_reducible rfl
              try go_frame
              refine' tk 1 ?_ ?_; rotate_left
              · intro z hz; have f0 := HC.out z hz; clear hz; go_simp; try with_reducible rfl
              try go_frame
              refine' tk 2 ?_ ?_; rotate_left
              · intro z hz; have f0 := HC.out z hz; clear hz; go_simp; try with_reducible rfl
              try go_frame
              refine' tk 3 ?_ ?_; rotate_left
              · intro z hz; have f0 := HC.out z hz; clear hz; go_simp; try with_reducible rfl
              try go_frame
              refine' tk 4 ?_ ?_; rotate_left
              · intro z hz; have f0 := HC.out z hz; clear hz; go_simp; try with_reducible rfl
              try go_frame
              refine' tk 5 ?_ ?_; rotate_left
              · intro z hz; have f0 := HC.out z hz; clear hz; go_simp; try with_reducible rfl
              try go_frame
              refine' tk 6 ?_ ?_; rotate_left
              · intro z hz; have f0 := HC.out z hz; clear hz; go_simp; try with_reducible rfl
              try go_frame
              refine' tk 7 ?_ ?_; rotate_left
              · intro z hz; have f0 := HC.out z hz; clear hz; go_simp; try with_reducible rfl
              try go_frame
              refine' tk 8 ?_ ?_; rotate_left
              · intro z hz; have f0 := HC.out z hz; clear hz; go_simp; try with_reducible rfl
              try go_frame
              refine' tk 9 ?_ ?_; rotate_left
              · intro z hz; have f0 := HC.out z hz; clear hz; go_simp; try with_reducible rfl
              try go_frame
              refine' tk 10 ?_ ?_; rotate_left
              · intro z hz; have f0 := HC.out z hz; clear hz; go_simp; try with_reducible rfl
              try go_frame
              refine tq 11 (.agg (wtC e.1).toArray) (yieldsIf_load_mid (by rfl) 31 _ rfl g (i * 6) (by go_simp) (wtC e.1) _ (fun z hz => HE.out z hz) Tryz.underlying31 rfl (by kernel_rfl)) ?_ (hi := rfl)
              try go_frame
              refine' tk 12 ?_ ?_; rotate_left
              · intro z hz; have f0 := HC.out z hz; clear hz; go_simp; try with_reducible rfl
              try go_frame
              refine' tk 13 ?_ ?_; rotate_left
              · intro z hz; have f0 := HC.out z hz; clear hz; go_simp; try with_reducible rfl
              try go_frame
              refine' tk 14 ?_ ?_; rotate_left
              · intro z hz; have f0 := HC.out z hz; clear hz; go_simp; try with_reducible rfl
              try go_frame
              refine' tk 15 ?_ ?_; rotate_left
              · intro z hz; have f0 := HC.out z hz; clear hz; go_simp; try with_reducible rfl
              try go_frame
              refine tq 16 (.agg (wtC y).toArray) (yieldsIf_load_mid (by rfl) 31 _ rfl og (oo + j * 5) (by go_simp) (wtC y) _ (fun z hz => HY.out z hz) Tryz.underlying31 rfl (by kernel_rfl)) ?_ (hi := rfl)
              try go_frame
              refine tr 17 (fun K hK => ?_)
              have hC := qAhead_calls pl e.1 y wd
              rw [hah] at hC
              go_simp
              refine hC.mono ?_
              rintro e9 z1 ⟨rfl, dz⟩
              have hb1 : Below w1.heap.size w1 z1 := on2 hb0 dz
              clear dz hC
              go_wp2_with fail
              refine hK.out _ _ hb1 (fun hHeld2 => ?_)
              clear hK K hHeld; have hHeld := hHeld2; clear hHeld2
              try go_frame
              refine' tk 18 ?_ ?_; rotate_left
              · intro z hz; have f0 := HC.out z hz; clear hz; go_simp; try with_reducible rfl
              try go_frame
              refine tz ?_
              have hbd := hb1
              clear hHeld hb0 hb1 hbz hah hjz hjo hjo2 hjw
              go_upto_region 9 with fail
              --C9
              have hb0 : Below w1.heap.size w1 z1.drew := on2 hbd (Below.refl _ _).drew
              refine t0 (fun z => Below w1.heap.size w1 z) hb0 (fun hHeld => ?_)
              generalize hwd : z1.drew = wd at hHeld hb0 ⊢
              clear hwd
              try go_frame
              refine' tk 1 ?_ ?_; rotate_left
              · intro z hz; have f0 := HC.out z hz; clear hz; go_simp; try with_reducible rfl
              try go_frame
              refine' tk 2 ?_ ?_; rotate_left
              · intro z hz; have f0 := HC.out z hz; clear hz; go_simp; try with_reducible rfl
              try go_frame
              refine' tq 3 (.slice (some ⟨og, oo, none⟩) k vc) ?_ ?_
              · refine .inl ⟨rfl, fun z _ => ?_⟩
                go_simp
                try with_reducible rfl
              try go_frame
              refine' tk 5 ?_ ?_; rotate_left
              · intro z hz; have f0 := HC.out z hz; clear hz; go_simp; try with_reducible rfl
              try go_frame
              refine' tk 6 ?_ ?_; rotate_left
              · intro z hz; have f0 := HC.out z hz; clear hz; go_simp; try with_reducible rfl
              try go_frame
              refine' tk 7 ?_ ?_; rotate_left
              · intro z hz; have f0 := HC.out z hz; clear hz; go_simp; try with_reducible rfl
              try go_frame
              refine' tk 8 ?_ ?_; rotate_left
              · intro z hz; have f0 := HC.out z hz; clear hz; go_simp; try with_reducible rfl
              try go_frame
              refine' tk 9 ?_ ?_; rotate_left
              · intro z hz; have f0 := HC.out z hz; clear hz; go_simp; try with_reducible rfl
              try go_frame
              refine' tk 10 ?_ ?_; rotate_left
              · intro z hz; have f0 := HC.out z hz; clear hz; go_simp; try with_reducible rfl
              try go_frame
              refine' tk 11 ?_ ?_; rotate_left
              · intro z hz; have f0 := HC.out z hz; clear hz; go_simp; try with_reducible rfl
              try go_frame
              refine tq 12 (.agg (wtC e.1).toArray) (yieldsIf_load_mid (by rfl) 31 _ rfl g (i * 6) (by go_simp) (wtC e.1) _ (fun z hz => HE.out z hz) Tryz.underlying31 rfl (by kernel_rfl)) ?_ (hi := rfl)
              try go_frame
              refine' tk 15 ?_ ?_; rotate_left
              · intro z hz; have f0 := HC.out z hz; clear hz; go_simp; try with_reducible rfl
              try go_frame
              refine' tk 16 ?_ ?_; rotate_left
              · intro z hz; have f0 := HC.out z hz; clear hz; go_simp; try with_reducible rfl
              try go_frame
              refine' tq 17 (.slice (dropG (some ⟨og, oo, none⟩) vc k 5) (ol - k) (vc - k)) ?_ ?_
              · refine .inl ⟨rfl, fun z _ => ?_⟩
                by_cases hct : vc = k
                · simp only [dropG, hct, if_true]
                  go_simp
                  try with_reducible rfl
                · simp only [dropG, hct, if_false]
                  go_simp
                  try with_reducible rfl
              try go_frame
              refine tb 0 13 (fun K hK => ?_) (fun K hK => ?_)
              · go_simp
                obtain ⟨w2, hw2⟩ : ∃ Z, Z = wd.alloc (.cells #[] 31) := ⟨_, rfl⟩
                have bw2 : Below wd.heap.size wd w2 := by rw [hw2]; exact (Below.refl _ _).alloc (Nat.le_refl _) _
                have rw2 : Row RWt 5 (fun _ => False) wd w2 31 (.slice (some ⟨wd.heap.size, 0, none⟩) 0 0) ([]) := by rw [hw2]; exact Row.start _ wd wd _ (Below.refl _ _)
                have sw2 : Hid (w2.heap.size = wd.heap.size + 1) := by rw [hw2, Hid, World.size_alloc]
                rw [← hw2]
                clear hw2
                have h2 : Below wd.heap.size wd w2 := on2 (Below.refl _ _) bw2
                refine hK.out _ _ (on2 hb0 h2) (fun hHeld2 => ?_)
                clear hK K hHeld; have hHeld := hHeld2; clear hHeld2
                try go_frame
                refine tb 4 13 (fun K hK => ?_) (fun K hK => ?_)
                · refine want_yesQ (by rfl) (row_appendP_wp RWt.firm (A := fun _ => False) (w0 := wd) _ _ 50 31 rfl _ 48 infoWt Tryz.underlying50 rfl (by decide) (by decide) (.slice (some ⟨wd.heap.size, 0, none⟩) 0 0) [] rfl rw2 (some ⟨og, oo, none⟩) k vc (O.take k) rfl (HTk.out _ (on2 hb0 h2) hk) (by have h1 := Hm.out; have h2 := Hol.out; simp only [List.length_append, List.length_take, List.length_drop, List.length_nil, List.length_singleton]; omega) ?_)
                  intro v4 w4 hw4 gw4 ow4
                  obtain ⟨v4a, v4n, v4c, rfl⟩ := hw4.headG
                  have h4 : Below wd.heap.size wd w4 := hw4.below
                  refine hK.out _ _ (on2 hb0 h4) (fun hHeld2 => ?_)
                  clear hK K hHeld; have hHeld := hHeld2; clear hHeld2
                  try go_frame
                  refine tr 13 (fun K hK => ?_)
                  go_simp
                  obtain ⟨w5, hw5⟩ : ∃ Z, Z = w4.alloc (.cells (wtC e.1).toArray 31) := ⟨_, rfl⟩
                  have bw5 : Below w4.heap.size w4 w5 := by rw [hw5]; exact (Below.refl _ _).alloc (Nat.le_refl _) _
                  have qw5 : BoxL w5 w4.heap.size (wtC e.1) := by rw [hw5]; exact BoxL.new w4 31 _
                  have sw5 : Hid (w5.heap.size = w4.heap.size + 1) := by rw [hw5, Hid, World.size_alloc]
                  rw [← hw5]
                  clear hw5
                  have h5 : Below wd.heap.size wd w5 := on2 h4 bw5
                  refine hK.out _ _ (on2 hb0 h5) (fun hHeld2 => ?_)
                  clear hK K hHeld; have hHeld := hHeld2; clear hHeld2
                  try go_frame
                  refine tr 14 (fun K hK => ?_)
                  refine want_yesQ (by rfl) (row_appendP_wp RWt.firm (A := fun _ => False) (w0 := wd) _ _ 50 31 rfl _ 48 infoWt Tryz.underlying50 rfl (by decide) (by decide) (.slice v4a v4n v4c) ([] ++ O.take k) rfl (hw4.on RWt.firm bw5) (some ⟨w4.heap.size, 0, none⟩) 1 1 ([e.1]) rfl (src_boxG RWt.firm qw5 ⟨rfl, Hok.out⟩) (by have h1 := Hm.out; have h2 := Hol.out; simp only [List.length_append, List.length_take, List.length_drop, List.length_nil, List.length_singleton]; omega) ?_)
                  intro v6 w6 hw6 gw6 ow6
                  obtain ⟨v6a, v6n, v6c, rfl⟩ := hw6.headG
                  have h6 : Below wd.heap.size wd w6 := hw6.below
                  refine hK.out _ _ (on2 hb0 h6) (fun hHeld2 => ?_)
                  clear hK K hHeld; have hHeld := hHeld2; clear hHeld2
                  try go_frame
                  refine tr 18 (fun K hK => ?_)
                  refine want_yesQ (by rfl) (row_appendP_wp RWt.firm (A := fun _ => False) (w0 := wd) _ _ 50 31 rfl _ 48 infoWt Tryz.underlying50 rfl (by decide) (by decide) (.slice v6a v6n v6c) ([] ++ O.take k ++ [e.1]) rfl hw6 (dropG (some ⟨og, oo, none⟩) vc k 5) (ol - k) (vc - k) (O.drop k) rfl (HDr.out _ (on2 hb0 h6) hk) (by have h1 := Hm.out; have h2 := Hol.out; simp only [List.length_append, List.length_take, List.length_drop, List.length_nil, List.length_singleton]; omega) ?_)
                  intro v7 w7 hw7 gw7 ow7
                  obtain ⟨v7a, v7n, v7c, rfl⟩ := hw7.headG
                  have h7 : Below wd.heap.size wd w7 := hw7.below
                  refine hK.out _ _ (on2 hb0 h7) (fun hHeld2 => ?_)
                  clear hK K hHeld; have hHeld := hHeld2; clear hHeld2
                  try go_frame
                  refine' tk 19 ?_ ?_; rotate_left
                  · intro z hz; clear hz; go_simp; try with_reducible rfl
                  try go_frame
                  refine tz ?_
                  have HF : Hid (Row RWt 5 (fun _ => False) u w7 31 (.slice v7a v7n v7c) (allToQ pl L (i + 1))) := by
                    rw [Hid, HN.out]
                    have e1 : insQ pl e.1 O = [] ++ O.take k ++ [e.1] ++ O.drop k := by unfold insQ; rw [← Hol.out, Hpk.out]; simp
                    rw [e1]
                    exact hw7.fromG (on2 Hbw.out hb0)
                  clear hHeld
                  go_wp2_with fail
                  go_roundw
                  case rel => exact ⟨i + 1, by omega, by go_num, HF.out⟩
                  case measure => simp [intOf]; omega
                · go_simp
                  obtain ⟨w5, hw5⟩ : ∃ Z, Z = w2.alloc (.cells (wtC e.1).toArray 31) := ⟨_, rfl⟩
                  have bw5 : Below w2.heap.size w2 w5 := by rw [hw5]; exact (Below.refl _ _).alloc (Nat.le_refl _) _
                  have qw5 : BoxL w5 w2.heap.size (wtC e.1) := by rw [hw5]; exact BoxL.new w2 31 _
                  have sw5 : Hid (w5.heap.size = w2.heap.size + 1) := by rw [hw5, Hid, World.size_alloc]
                  rw [← hw5]
                  clear hw5
                  have h5 : Below wd.heap.size wd w5 := on2 h2 bw5
                  refine hK.out _ _ (on2 hb0 h5) (fun hHeld2 => ?_)
                  clear hK K hHeld; have hHeld := hHeld2; clear hHeld2
                  try go_frame
                  refine tr 4 (fun K hK => ?_)
                  refine want_yesQ (by rfl) (row_appendP_wp RWt.firm (A := fun _ => False) (w0 := wd) _ _ 50 31 rfl _ 48 infoWt Tryz.underlying50 rfl (by decide) (by decide) (.slice (some ⟨wd.heap.size, 0, none⟩) 0 0) [] rfl (rw2.on RWt.firm bw5) (some ⟨og, oo, none⟩) k vc (O.take k) rfl (HTk.out _ (on2 hb0 h5) hk) (by have h1 := Hm.out; have h2 := Hol.out; simp only [List.length_append, List.length_take, List.length_drop, List.length_nil, List.length_singleton]; omega) ?_)
                  intro v4 w4 hw4 gw4 ow4
                  obtain ⟨v4a, v4n, v4c, rfl⟩ := hw4.headG
                  have h4 : Below wd.heap.size wd w4 := hw4.below
                  refine hK.out _ _ (on2 hb0 h4) (fun hHeld2 => ?_)
                  clear hK K hHeld; have hHeld := hHeld2; clear hHeld2
                  try go_frame
                  refine tr 14 (fun K hK => ?_)
                  refine want_yesQ (by rfl) (row_appendP_wp RWt.firm (A := fun _ => False) (w0 := wd) _ _ 50 31 rfl _ 48 infoWt Tryz.underlying50 rfl (by decide) (by decide) (.slice v4a v4n v4c) ([] ++ O.take k) rfl hw4 (some ⟨w2.heap.size, 0, none⟩) 1 1 ([e.1]) rfl (src_boxG RWt.firm (qw5.kept (A := fun y => y = w2.heap.size) (Kept.grown gw4 (fun y e2 hy => by simp only [Value.ownBlock, Option.some.injEq] at e2; have h8 := sw2.out; omega)) rfl) ⟨rfl, Hok.out⟩) (by have h1 := Hm.out; have h2 := Hol.out; simp only [List.length_append, List.length_take, List.length_drop, List.length_nil, List.length_singleton]; omega) ?_)
                  intro v6 w6 hw6 gw6 ow6
                  obtain ⟨v6a, v6n, v6c, rfl⟩ := hw6.headG
                  have h6 : Below wd.heap.size wd w6 := hw6.below
                  refine hK.out _ _ (on2 hb0 h6) (fun hHeld2 => ?_)
                  clear hK K hHeld; have hHeld := hHeld2; clear hHeld2
                  try go_frame
                  refine tr 18 (fun K hK => ?_)
                  refine want_yesQ (by rfl) (row_appendP_wp RWt.firm (A := fun _ => False) (w0 := wd) _ _ 50 31 rfl _ 48 infoWt Tryz.underlying50 rfl (by decide) (by decide) (.slice v6a v6n v6c) ([] ++ O.take k ++ [e.1]) rfl hw6 (dropG (some ⟨og, oo, none⟩) vc k 5) (ol - k) (vc - k) (O.drop k) rfl (HDr.out _ (on2 hb0 h6) hk) (by have h1 := Hm.out; have h2 := Hol.out; simp only [List.length_append, List.length_take, List.length_drop, List.length_nil, List.length_singleton]; omega) ?_)
                  intro v7 w7 hw7 gw7 ow7
                  obtain ⟨v7a, v7n, v7c, rfl⟩ := hw7.headG
                  have h7 : Below wd.heap.size wd w7 := hw7.below
                  refine hK.out _ _ (on2 hb0 h7) (fun hHeld2 => ?_)
                  clear hK K hHeld; have hHeld := hHeld2; clear hHeld2
                  try go_frame
                  refine' tk 19 ?_ ?_; rotate_left
                  · intro z hz; clear hz; go_simp; try with_reducible rfl
                  try go_frame
                  refine tz ?_
                  have HF : Hid (Row RWt 5 (fun _ => False) u w7 31 (.slice v7a v7n v7c) (allToQ pl L (i + 1))) := by
                    rw [Hid, HN.out]
                    have e1 : insQ pl e.1 O = [] ++ O.take k ++ [e.1] ++ O.drop k := by unfold insQ; rw [← Hol.out, Hpk.out]; simp
                    rw [e1]
                    exact hw7.fromG (on2 Hbw.out hb0)
                  clear hHeld
                  go_wp2_with fail
                  go_roundw
                  case rel => exact ⟨i + 1, by omega, by go_num, HF.out⟩
                  case measure => simp [intOf]; omega
              · go_simp
                obtain ⟨w5, hw5⟩ : ∃ Z, Z = wd.alloc (.cells (wtC e.1).toArray 31) := ⟨_, rfl⟩
                have bw5 : Below wd.heap.size wd w5 := by rw [hw5]; exact (Below.refl _ _).alloc (Nat.le_refl _) _
                have qw5 : BoxL w5 wd.heap.size (wtC e.1) := by rw [hw5]; exact BoxL.new wd 31 _
                have sw5 : Hid (w5.heap.size = wd.heap.size + 1) := by rw [hw5, Hid, World.size_alloc]
                rw [← hw5]
                clear hw5
                have h5 : Below wd.heap.size wd w5 := on2 (Below.refl _ _) bw5
                refine hK.out _ _ (on2 hb0 h5) (fun hHeld2 => ?_)
                clear hK K hHeld; have hHeld := hHeld2; clear hHeld2
                try go_frame
                refine tr 0 (fun K hK => ?_)
                go_simp
                obtain ⟨w2, hw2⟩ : ∃ Z, Z = w5.alloc (.cells #[] 31) := ⟨_, rfl⟩
                have bw2 : Below w5.heap.size w5 w2 := by rw [hw2]; exact (Below.refl _ _).alloc (Nat.le_refl _) _
                have rw2 : Row RWt 5 (fun _ => False) wd w2 31 (.slice (some ⟨w5.heap.size, 0, none⟩) 0 0) ([]) := by rw [hw2]; exact Row.start _ wd w5 _ h5
                have sw2 : Hid (w2.heap.size = w5.heap.size + 1) := by rw [hw2, Hid, World.size_alloc]
                rw [← hw2]
                clear hw2
                have h2 : Below wd.heap.size wd w2 := on2 h5 bw2
                refine hK.out _ _ (on2 hb0 h2) (fun hHeld2 => ?_)
                clear hK K hHeld; have hHeld := hHeld2; clear hHeld2
                try go_frame
                refine tr 4 (fun K hK => ?_)
                refine want_yesQ (by rfl) (row_appendP_wp RWt.firm (A := fun _ => False) (w0 := wd) _ _ 50 31 rfl _ 48 infoWt Tryz.underlying50 rfl (by decide) (by decide) (.slice (some ⟨w5.heap.size, 0, none⟩) 0 0) [] rfl rw2 (some ⟨og, oo, none⟩) k vc (O.take k) rfl (HTk.out _ (on2 hb0 h2) hk) (by have h1 := Hm.out; have h2 := Hol.out; simp only [List.length_append, List.length_take, List.length_drop, List.length_nil, List.length_singleton]; omega) ?_)
                intro v4 w4 hw4 gw4 ow4
                obtain ⟨v4a, v4n, v4c, rfl⟩ := hw4.headG
                have h4 : Below wd.heap.size wd w4 := hw4.below
                refine hK.out _ _ (on2 hb0 h4) (fun hHeld2 => ?_)
                clear hK K hHeld; have hHeld := hHeld2; clear hHeld2
                try go_frame
                refine tr 14 (fun K hK => ?_)
                refine want_yesQ (by rfl) (row_appendP_wp RWt.firm (A := fun _ => False) (w0 := wd) _ _ 50 31 rfl _ 48 infoWt Tryz.underlying50 rfl (by decide) (by decide) (.slice v4a v4n v4c) ([] ++ O.take k) rfl hw4 (some ⟨wd.heap.size, 0, none⟩) 1 1 ([e.1]) rfl (src_boxG RWt.firm ((qw5.on bw2).kept (A := fun y => y = wd.heap.size) (Kept.grown gw4 (fun y e2 hy => by simp only [Value.ownBlock, Option.some.injEq] at e2; have h8 := sw5.out; omega)) rfl) ⟨rfl, Hok.out⟩) (by have h1 := Hm.out; have h2 := Hol.out; simp only [List.length_append, List.length_take, List.length_drop, List.length_nil, List.length_singleton]; omega) ?_)
                intro v6 w6 hw6 gw6 ow6
                obtain ⟨v6a, v6n, v6c, rfl⟩ := hw6.headG
                have h6 : Below wd.heap.size wd w6 := hw6.below
                refine hK.out _ _ (on2 hb0 h6) (fun hHeld2 => ?_)
                clear hK K hHeld; have hHeld := hHeld2; clear hHeld2
                try go_frame
                refine tr 18 (fun K hK => ?_)
                refine want_yesQ (by rfl) (row_appendP_wp RWt.firm (A := fun _ => False) (w0 := wd) _ _ 50 31 rfl _ 48 infoWt Tryz.underlying50 rfl (by decide) (by decide) (.slice v6a v6n v6c) ([] ++ O.take k ++ [e.1]) rfl hw6 (dropG (some ⟨og, oo, none⟩) vc k 5) (ol - k) (vc - k) (O.drop k) rfl (HDr.out _ (on2 hb0 h6) hk) (by have h1 := Hm.out; have h2 := Hol.out; simp only [List.length_append, List.length_take, List.length_drop, List.length_nil, List.length_singleton]; omega) ?_)
                intro v7 w7 hw7 gw7 ow7
                obtain ⟨v7a, v7n, v7c, rfl⟩ := hw7.headG
                have h7 : Below wd.heap.size wd w7 := hw7.below
                refine hK.out _ _ (on2 hb0 h7) (fun hHeld2 => ?_)
                clear hK K hHeld; have hHeld := hHeld2; clear hHeld2
                try go_frame
                refine' tk 19 ?_ ?_; rotate_left
                · intro z hz; clear hz; go_simp; try with_reducible rfl
                try go_frame
                refine tz ?_
                have HF : Hid (Row RWt 5 (fun _ => False) u w7 31 (.slice v7a v7n v7c) (allToQ pl L (i + 1))) := by
                  rw [Hid, HN.out]
                  have e1 : insQ pl e.1 O = [] ++ O.take k ++ [e.1] ++ O.drop k := by unfold insQ; rw [← Hol.out, Hpk.out]; simp
                  rw [e1]
                  exact hw7.fromG (on2 Hbw.out hb0)
                clear hHeld
                go_wp2_with fail
                go_roundw
                case rel => exact ⟨i + 1, by omega, by go_num, HF.out⟩
                case measure => simp [intOf]; omega
end Go.Proofs.YtbmejaailhjgfaaGreat
