/- The law HeapPlays holds of the program: a heap answers whatever calls as a sorted list would, and so does a clone; the chapter's example comes out. For every input; no condition. -/
import Derived.Test.YtgncpjplofacfaaHAct
import Derived.Test.YtgncpjplofacfaaRows
import Derived.Deep.CutBlock
namespace Go.Proofs.Ytgncpjplofacfaa.heapPlays
open Go.ChangeShapes Go.WideShapes Go.ChangeAt Go.RowKit Go.Maps
set_option linter.unusedSimpArgs false

/-- How things stand behind j calls, by the slots. -/
def Now (w : World) (j : Nat) (h l : Value) (u : World) : Prop := ∃ hb A a L n c, h = .pointer (some ⟨hb, 0, none⟩) ∧ l = .slice a n c ∧ L.length = n ∧ n ≤ c ∧ n ≤ j ∧ In3 w hb A a L u
set_option maxRecDepth 100000 in
set_option maxHeartbeats 32000000 in
theorem core (a : Option Addr) (n cap : Nat) (L0 : List Ac) (w : World) (hn0 : L0.length = n) (hat : Hid (RowAt encA 4 okAc w a L0)) :
    Calls Try.prog 3 #[.slice a n cap] w fun e w' => e = .returned (.bool true) ∧ Below w.heap.size w w' := by
  have HN : Hid (L0.length = n) := hn0
  clear hn0
  go_enter Try.func3, Try.ntmps3
  go_wp2_with (go_at_call 8; refine (New_calls _).mono ?_; rintro e w2 ⟨hb, rfl, hh2, hb2⟩)
  have NOW : Hid (Now w 0 (.pointer (some ⟨hb, 0, none⟩)) (.slice (some ⟨w2.heap.size, 0, none⟩) 0 0) (w2.alloc (.cells #[] 27))) := by
    have hk : Hpk w w2 hb [] (fun _ => False) := Hpk.new hh2 (fun _ h => h)
    have hbW : Below w2.heap.size w2 (w2.alloc (.cells #[] 27)) := by go_grown
    refine ⟨hb, [], _, [], _, _, rfl, rfl, rfl, Nat.le_refl _, Nat.le_refl _, on2 hb2 hbW, RowAt.nil _ _, Like.nil, ?_, fun b o e => ?_⟩
    · exact (hk.keep (K' := fun b => ∃ o, (some ⟨w2.heap.size, 0, none⟩ : Option Addr) = some ⟨b, o, none⟩) (fun b q1 q2 => by obtain ⟨o, e⟩ := q2; have := (Addr.mk.inj (Option.some.inj e)).1; omega)).grow hbW
    · have := (Addr.mk.inj (Option.some.inj e)).1; simp; omega
  clear hh2 hb2
  go_loopw [3, 4, 5] (fun h l i wr => ∃ (j : Nat), j ≤ 3000 ∧ j ≤ n ∧ i = .int .i64 j ∧ Hid (Now w j h l wr)) (fun _ _ i _ => 3000 - (intOf i).toNat)
  case atStart => exact ⟨0, Nat.zero_le _, Nat.zero_le _, rfl, NOW⟩
  case round =>
    clear NOW
    obtain ⟨j, hj3, hjn, rfl, hnow⟩ := hrel
    by_cases hlt : j < n
    · have hji : (j : Int) < (n : Int) := by omega
      by_cases hl3 : j < 3000
      · have hj3i : (j : Int) < 3000 := by omega
        have hji0 : (0 : Int) ≤ (j : Int) := by omega
        obtain ⟨B, off, rfl, hB, kd, x, hx1, k0', k1', k2', k3'⟩ := hat.out.four (i := j) (by rw [HN.out]; exact hlt)
        obtain ⟨c, hc7, hAm⟩ := Among7 kd
        have HAm : Hid (∀ w : World, Calls Try.prog 9 #[.int .i64 kd, .int .i64 7] w fun e w' => e = .returned (.int .i64 (c : Int)) ∧ w' = w) := hAm
        clear hAm
        obtain ⟨hb, A, al, L, nl_, cl, rfl, rfl, hLn, hlc, hlj, h3⟩ := hnow.out
        have HLn : Hid (L.length = nl_) := hLn
        have H3 : Hid (In3 w hb A al L wr) := h3
        have HK : Hid (∀ {u : World}, Below w.heap.size w u → u.cell? ⟨B, off + j * 4, none⟩ = some (.int .i64 kd)) := fun hb => (hb.cell hB).trans k0'
        have k0 := HK.out h3.bw
        have k1 := (h3.bw.cell hB).trans k1'
        have k2 := (h3.bw.cell hB).trans k2'
        have k3 := (h3.bw.cell hB).trans k3'
        have hBs : B < wr.heap.size := Nat.lt_of_lt_of_le hB h3.bw.size
        have hBn : ¬ B = wr.heap.size := by omega
        have hBn' : ¬ wr.heap.size = B := by omega
        have hws : w.heap.size ≤ wr.heap.size := h3.bw.size
        clear hnow h3 hLn k0' k1' k2' k3'
        go_upto_block 2 with (go_at_call 9; refine (HAm.out _).mono ?_; rintro e w9 ⟨rfl, rfl⟩)
        go_cut [3, 4, 7] (fun h l ok wc => ok = .bool true ∧ Hid (Now w (j + 1) h l wc))
        case first =>
          have ST : Hid (St w (wr.alloc (.cells #[.string x.1, .int .i64 x.2.1, .int .i64 x.2.2] 27)) hb A al L wr.heap.size x) := H3.out.st x
          have HLK : Hid (Like L A) := H3.out.like
          have HAl : Hid (A.length ≤ 3000) := by have := H3.out.like.len; have := HLn.out; unfold Hid; omega
          have hc : c = 0 ∨ c = 1 ∨ c = 2 ∨ c = 3 ∨ c = 4 ∨ c = 5 ∨ c = 6 := by omega
          clear H3 k0 k1 k2 k3
          rcases hc with rfl | rfl | rfl | rfl | rfl | rfl | rfl
          · as_aux_lemma =>
              cases hem : x.1.toList.isEmpty with
              | true =>
                go_wp2_with (go_at_call 10; refine (PushN_step ST.out.hp x hem).mono ?_; rintro e w3 ⟨rfl, hb3⟩; have S3 : Hid (St w w3 hb A al L wr.heap.size x) := ST.out.on hb3; clear hb3; obtain ⟨x0, x1, x2⟩ := S3.out.bo.c)
                go_meet
                case rel => exact ⟨rfl, hb, A, al, L, nl_, cl, rfl, rfl, HLn.out, hlc, by omega, S3.out.in3 HLK.out⟩
              | false =>
                go_wp2_with (first
                  | (go_at_call 10; refine (PushE_step ST.out.hp ST.out.bw.size ST.out.lt (by have := HAl.out; omega) HLK.out.hh x hx1 hem).mono ?_; rintro e w3 ⟨A', ⟨rfl, q1, q2⟩, q3, q4⟩; have S3 : Hid (St w w3 hb A' al L wr.heap.size x) := ST.out.turn q4 q3; have LK : Hid (Like (stabF (putK L x)) A') := HLK.out.put x q1 q2; clear q1 q2 q3 q4; obtain ⟨x0, x1, x2⟩ := S3.out.bo.c)
                  | (go_at_call 11; refine (rPut_calls al nl_ cl L x _ HLn.out S3.out.row hx1 (by omega)).mono ?_; rintro e w4 ⟨g4, c4, rfl, r4, hg4, hg4', hc4, hb4⟩; have S4 : Hid (St w w4 hb A' (some ⟨g4, 0, none⟩) (stabF (putK L x)) wr.heap.size x) := S3.out.list hb4 r4 hg4 hg4'; have hhk : hasK L x.1.toList = hasK A x.1.toList := hasK_perm HLK.out.pm _; rw [hhk]; clear hhk r4 hb4 hg4 hg4'))
                go_meet
                case rel => exact ⟨rfl, hb, A', _, stabF (putK L x), _, c4, rfl, rfl, stabF_length _, hc4, by have := putK_length L x; have := HLn.out; omega, S4.out.in3 LK.out⟩
          · as_aux_lemma =>
              cases hem : x.1.toList.isEmpty with
              | true =>
                go_wp2_with (go_at_call 10; refine (PushN_step ST.out.hp x hem).mono ?_; rintro e w3 ⟨rfl, hb3⟩; have S3 : Hid (St w w3 hb A al L wr.heap.size x) := ST.out.on hb3; clear hb3; obtain ⟨x0, x1, x2⟩ := S3.out.bo.c)
                go_meet
                case rel => exact ⟨rfl, hb, A, al, L, nl_, cl, rfl, rfl, HLn.out, hlc, by omega, S3.out.in3 HLK.out⟩
              | false =>
                go_wp2_with (first
                  | (go_at_call 10; refine (PushE_step ST.out.hp ST.out.bw.size ST.out.lt (by have := HAl.out; omega) HLK.out.hh x hx1 hem).mono ?_; rintro e w3 ⟨A', ⟨rfl, q1, q2⟩, q3, q4⟩; have S3 : Hid (St w w3 hb A' al L wr.heap.size x) := ST.out.turn q4 q3; have LK : Hid (Like (stabF (putK L x)) A') := HLK.out.put x q1 q2; clear q1 q2 q3 q4; obtain ⟨x0, x1, x2⟩ := S3.out.bo.c)
                  | (go_at_call 11; refine (rPut_calls al nl_ cl L x _ HLn.out S3.out.row hx1 (by omega)).mono ?_; rintro e w4 ⟨g4, c4, rfl, r4, hg4, hg4', hc4, hb4⟩; have S4 : Hid (St w w4 hb A' (some ⟨g4, 0, none⟩) (stabF (putK L x)) wr.heap.size x) := S3.out.list hb4 r4 hg4 hg4'; have hhk : hasK L x.1.toList = hasK A x.1.toList := hasK_perm HLK.out.pm _; rw [hhk]; clear hhk r4 hb4 hg4 hg4'))
                go_meet
                case rel => exact ⟨rfl, hb, A', _, stabF (putK L x), _, c4, rfl, rfl, stabF_length _, hc4, by have := putK_length L x; have := HLn.out; omega, S4.out.in3 LK.out⟩
          · as_aux_lemma =>
              by_cases hz : nl_ = 0
              · have hL0 : Hid (L = []) := List.length_eq_zero_iff.1 (by rw [HLn.out]; exact hz)
                have hA0 : Hid (A.length = 0) := by rw [Hid, ← HLK.out.len, hL0.out]; rfl
                have HHD : Hid (hdI A = (zI, 5)) := by show _ = _; unfold hdI; rw [if_pos hA0.out]
                subst hz
                have HPK : Hid (∀ {u : World} {K : Where}, Hpk w u hb A K → Calls Try.prog 12 #[.pointer (some ⟨hb, 0, none⟩)] u fun e w' => e = .returned (.tuple #[.agg #[.string ⟨#[]⟩, .int .i64 0, .int .i64 0], .int .i64 5]) ∧ Below u.heap.size u w') := fun {u K} h => by
                  have := Peek_step h
                  rw [HHD.out] at this
                  exact this
                have HPO : Hid (∀ {u : World} {K : Where}, Hpk w u hb A K → w.heap.size ≤ u.heap.size → (∀ b, K b → b < u.heap.size) → Calls Try.prog 13 #[.pointer (some ⟨hb, 0, none⟩)] u fun e w' => ∃ A', (e = .returned (.tuple #[.agg #[.string ⟨#[]⟩, .int .i64 0, .int .i64 0], .int .i64 5]) ∧ HeapL A' ∧ A'.length ≤ A.length ∧ (A.length = 0 → A' = []) ∧ (0 < A.length → (A' ++ [at_ A 0]).Perm A)) ∧ Hpk w w' hb A' K ∧ Turns (fun b => w.heap.size ≤ b ∧ ¬ K b) u w') := fun {u K} h h1 h2 => by
                  have := PopE_step h h1 h2 (by have := HAl.out; omega) HLK.out.hh
                  rw [HHD.out] at this
                  exact this
                go_wp2_with (first | (go_at_call 9; refine (HAm.out _).mono ?_; rintro e w9 ⟨rfl, rfl⟩) | (go_at_call 12; go_loud (refine (HPK.out ST.out.hp).mono ?_; rintro e w3 ⟨rfl, hb3⟩; have S3 : Hid (St w w3 hb A al L wr.heap.size x) := ST.out.on hb3; clear hb3; have kk := HK.out S3.out.bw; have hB3 : B < w3.heap.size := Nat.lt_of_lt_of_le hB S3.out.bw.size; have hB3n : ¬ B = w3.heap.size := (by omega); have hB3n' : ¬ w3.heap.size = B := (by omega))) | (go_at_call 13; go_loud (refine (HPO.out (S3.out.box zI) (S3.out.on (by go_grown)).bw.size (fun b q => q.elim (fun r => (S3.out.on (by go_grown)).lt b r) (fun r => (by rw [r]; simp)))).mono ?_; rintro e w4 ⟨A', ⟨rfl, q1, q5, q6, q7⟩, q3, q4⟩; have LK : Hid (Like L A') := (by have e1 := q6 hA0.out; have e2 := hL0.out; subst e1; subst e2; exact Like.nil); clear q1 q5 q6 q7; have S4 : Hid (St w w4 hb A' al L wr.heap.size x) := (S3.out.on (by go_grown)).turn2 q4 q3; have B4 : Hid (Bx w4 w3.heap.size zI) := (Bx.new w3 zI).turn q4 (fun q => q.2 (.inr rfl)); have S5 : Hid (∀ p q r, St w (((w4.setCell ⟨w3.heap.size, 0, none⟩ p).setCell ⟨w3.heap.size, 1, none⟩ q).setCell ⟨w3.heap.size, 2, none⟩ r) hb A' al L wr.heap.size x) := (fun p q r => S4.out.wrote q3 (Turns.three w4 w3.heap.size p q r) S3.out.bw.size (fun q => absurd (S3.out.lt _ q) (Nat.lt_irrefl _))); clear q3 q4; obtain ⟨y0, y1, y2⟩ := B4.out.c; obtain ⟨f0, f1, f2⟩ := B4.out.f; have kk4 := HK.out S4.out.bw)))
                go_meet
                case rel => exact ⟨rfl, hb, A', al, L, 0, cl, rfl, rfl, HLn.out, hlc, by omega, (S5.out _ _ _).in3 LK.out⟩
              · obtain ⟨g, o, rfl⟩ : ∃ g o, al = some ⟨g, o, none⟩ := by
                  obtain ⟨g, o, e, _⟩ := ST.out.row.three (i := 0) (by rw [HLn.out]; omega)
                  exact ⟨g, o, e⟩
                have hz' : ¬ (nl_ : Int) = 0 := by omega
                have hzp : (0 : Int) < (nl_ : Int) := by omega
                have hA0 : Hid (0 < A.length) := by rw [Hid, ← HLK.out.len, HLn.out]; omega
                have HHE : Hid (at_ A 0 = at_ L 0) := (HLK.out.head (by rw [HLn.out]; omega)).symm
                have HHD : Hid (hdI A = (at_ L 0, 0)) := by show _ = _; unfold hdI; rw [if_neg (by have := hA0.out; omega), HHE.out]
                have HPK : Hid (∀ {u : World} {K : Where}, Hpk w u hb A K → Calls Try.prog 12 #[.pointer (some ⟨hb, 0, none⟩)] u fun e w' => e = .returned (.tuple #[vI (at_ L 0), .int .i64 0]) ∧ Below u.heap.size u w') := fun {u K} h => by
                  have := Peek_step h
                  rw [HHD.out] at this
                  exact this
                have HPO : Hid (∀ {u : World} {K : Where}, Hpk w u hb A K → w.heap.size ≤ u.heap.size → (∀ b, K b → b < u.heap.size) → Calls Try.prog 13 #[.pointer (some ⟨hb, 0, none⟩)] u fun e w' => ∃ A', (e = .returned (.tuple #[vI (at_ L 0), .int .i64 0]) ∧ HeapL A' ∧ A'.length ≤ A.length ∧ (A.length = 0 → A' = []) ∧ (0 < A.length → (A' ++ [at_ A 0]).Perm A)) ∧ Hpk w w' hb A' K ∧ Turns (fun b => w.heap.size ≤ b ∧ ¬ K b) u w') := fun {u K} h h1 h2 => by
                  have := PopE_step h h1 h2 (by have := HAl.out; omega) HLK.out.hh
                  rw [HHD.out] at this
                  exact this
                have HPP : Hid (∀ A' : List It, HeapL A' → (0 < A.length → (A' ++ [at_ A 0]).Perm A) → Like (L.drop 1) A') := fun A' h1 h2 => HLK.out.pop (by rw [HLn.out]; omega) h1 (h2 hA0.out)
                clear HHE HHD
                go_wp2_with (first | (go_at_call 9; refine (HAm.out _).mono ?_; rintro e w9 ⟨rfl, rfl⟩) | (go_at_call 12; go_loud (refine (HPK.out ST.out.hp).mono ?_; rintro e w3 ⟨rfl, hb3⟩; have S3 : Hid (St w w3 hb A (some ⟨g, o, none⟩) L wr.heap.size x) := ST.out.on hb3; clear hb3; have kk := HK.out S3.out.bw; have hB3 : B < w3.heap.size := Nat.lt_of_lt_of_le hB S3.out.bw.size; have hB3n : ¬ B = w3.heap.size := (by omega); have hB3n' : ¬ w3.heap.size = B := (by omega); have hgl3 : g < w3.heap.size := S3.out.lt g (.inl ⟨o, rfl⟩); have hgn3 : ¬ g = w3.heap.size := (by omega); have hgn3' : ¬ w3.heap.size = g := (by omega); obtain ⟨g9, o9, e9, _, l0, l1, l2, _⟩ := S3.out.row.three (i := 0) (by rw [HLn.out]; omega); obtain ⟨rfl, rfl⟩ : g = g9 ∧ o = o9 := (by simpa using e9); clear e9; rw [Nat.zero_mul] at l0 l1 l2; rw [Nat.add_zero] at l0 l1 l2)) | (go_at_call 13; go_loud (refine (HPO.out (S3.out.box (at_ L 0)) (S3.out.on (by go_grown)).bw.size (fun b q => q.elim (fun r => (S3.out.on (by go_grown)).lt b r) (fun r => (by rw [r]; simp)))).mono ?_; rintro e w4 ⟨A', ⟨rfl, q1, q5, q6, q7⟩, q3, q4⟩; have LK : Hid (Like (L.drop 1) A') := HPP.out A' q1 q7; clear q1 q5 q6 q7; have S4 : Hid (St w w4 hb A' (some ⟨g, o, none⟩) L wr.heap.size x) := (S3.out.on (by go_grown)).turn2 q4 q3; have B4 : Hid (Bx w4 w3.heap.size (at_ L 0)) := (Bx.new w3 (at_ L 0)).turn q4 (fun q => q.2 (.inr rfl)); have S5 : Hid (∀ p q r, St w (((w4.setCell ⟨w3.heap.size, 0, none⟩ p).setCell ⟨w3.heap.size, 1, none⟩ q).setCell ⟨w3.heap.size, 2, none⟩ r) hb A' (some ⟨g, o, none⟩) L wr.heap.size x) := (fun p q r => S4.out.wrote q3 (Turns.three w4 w3.heap.size p q r) S3.out.bw.size (fun q => absurd (S3.out.lt _ q) (Nat.lt_irrefl _))); clear q3 q4; obtain ⟨y0, y1, y2⟩ := B4.out.c; obtain ⟨f0, f1, f2⟩ := B4.out.f; have kk4 := HK.out S4.out.bw; obtain ⟨g9, o9, e9, _, m0, m1, m2, _⟩ := S4.out.row.three (i := 0) (by rw [HLn.out]; omega); obtain ⟨rfl, rfl⟩ : g = g9 ∧ o = o9 := (by simpa using e9); clear e9; rw [Nat.zero_mul] at m0 m1 m2; rw [Nat.add_zero] at m0 m1 m2)))
                go_big_quiet (fail)
                have hLc : L.length ≤ cl := by rw [HLn.out]; exact hlc
                by_cases hc1 : cl = 1
                · have ST2 : Hid (∀ {u : World}, Below (((w4.setCell ⟨w3.heap.size, 0, none⟩ (.string (at_ L 0).1)).setCell ⟨w3.heap.size, 1, none⟩ (.int .i64 (at_ L 0).2.1)).setCell ⟨w3.heap.size, 2, none⟩ (.int .i64 (at_ L 0).2.2)).heap.size (((w4.setCell ⟨w3.heap.size, 0, none⟩ (.string (at_ L 0).1)).setCell ⟨w3.heap.size, 1, none⟩ (.int .i64 (at_ L 0).2.1)).setCell ⟨w3.heap.size, 2, none⟩ (.int .i64 (at_ L 0).2.2)) u → St w u hb A' (some ⟨g, o, none⟩) (L.drop 1) wr.heap.size x) := fun {u} hb9 => by
                    have := ((S5.out _ _ _).on hb9).tail' rfl hLc
                    rwa [if_pos hc1] at this
                  go_wp2_with (go_at_call 9; refine (HAm.out _).mono ?_; rintro e w9 ⟨rfl, rfl⟩)
                  go_meet
                  case rel => exact ⟨rfl, hb, A', some ⟨g, o, none⟩, L.drop 1, nl_ - 1, 0, rfl, rfl, by rw [List.length_drop, HLn.out], by omega, by omega, (ST2.out (below_drewN (Below.refl _ _) _)).in3 LK.out⟩
                · have ST2 : Hid (∀ {u : World}, Below (((w4.setCell ⟨w3.heap.size, 0, none⟩ (.string (at_ L 0).1)).setCell ⟨w3.heap.size, 1, none⟩ (.int .i64 (at_ L 0).2.1)).setCell ⟨w3.heap.size, 2, none⟩ (.int .i64 (at_ L 0).2.2)).heap.size (((w4.setCell ⟨w3.heap.size, 0, none⟩ (.string (at_ L 0).1)).setCell ⟨w3.heap.size, 1, none⟩ (.int .i64 (at_ L 0).2.1)).setCell ⟨w3.heap.size, 2, none⟩ (.int .i64 (at_ L 0).2.2)) u → St w u hb A' (some ⟨g, o + 3, none⟩) (L.drop 1) wr.heap.size x) := fun {u} hb9 => by
                    have := ((S5.out _ _ _).on hb9).tail' rfl hLc
                    rwa [if_neg hc1] at this
                  go_wp2_with (go_at_call 9; refine (HAm.out _).mono ?_; rintro e w9 ⟨rfl, rfl⟩)
                  go_meet
                  case rel => exact ⟨rfl, hb, A', some ⟨g, o + 3, none⟩, L.drop 1, nl_ - 1, cl - 1, rfl, rfl, by rw [List.length_drop, HLn.out], by omega, by omega, (ST2.out (below_drewN (Below.refl _ _) _)).in3 LK.out⟩
          · as_aux_lemma =>
              by_cases hz : nl_ = 0
              · have hL0 : Hid (L = []) := List.length_eq_zero_iff.1 (by rw [HLn.out]; exact hz)
                have hA0 : Hid (A.length = 0) := by rw [Hid, ← HLK.out.len, hL0.out]; rfl
                have HHD : Hid (hdI A = (zI, 5)) := by show _ = _; unfold hdI; rw [if_pos hA0.out]
                subst hz
                have HPK : Hid (∀ {u : World} {K : Where}, Hpk w u hb A K → Calls Try.prog 12 #[.pointer (some ⟨hb, 0, none⟩)] u fun e w' => e = .returned (.tuple #[.agg #[.string ⟨#[]⟩, .int .i64 0, .int .i64 0], .int .i64 5]) ∧ Below u.heap.size u w') := fun {u K} h => by
                  have := Peek_step h
                  rw [HHD.out] at this
                  exact this
                go_wp2_with (first | (go_at_call 9; refine (HAm.out _).mono ?_; rintro e w9 ⟨rfl, rfl⟩) | (go_at_call 12; go_loud (refine (HPK.out ST.out.hp).mono ?_; rintro e w3 ⟨rfl, hb3⟩; have S3 : Hid (St w w3 hb A al L wr.heap.size x) := ST.out.on hb3; clear hb3; have kk := HK.out S3.out.bw; have hB3 : B < w3.heap.size := Nat.lt_of_lt_of_le hB S3.out.bw.size; have hB3n : ¬ B = w3.heap.size := (by omega); have hB3n' : ¬ w3.heap.size = B := (by omega))))
                go_meet
                case rel => exact ⟨rfl, hb, A, al, L, 0, cl, rfl, rfl, HLn.out, hlc, by omega, (S3.out.on (by go_grown)).in3 HLK.out⟩
              · obtain ⟨g, o, rfl⟩ : ∃ g o, al = some ⟨g, o, none⟩ := by
                  obtain ⟨g, o, e, _⟩ := ST.out.row.three (i := 0) (by rw [HLn.out]; omega)
                  exact ⟨g, o, e⟩
                have hz' : ¬ (nl_ : Int) = 0 := by omega
                have hzp : (0 : Int) < (nl_ : Int) := by omega
                have hA0 : Hid (0 < A.length) := by rw [Hid, ← HLK.out.len, HLn.out]; omega
                have HHE : Hid (at_ A 0 = at_ L 0) := (HLK.out.head (by rw [HLn.out]; omega)).symm
                have HHD : Hid (hdI A = (at_ L 0, 0)) := by show _ = _; unfold hdI; rw [if_neg (by have := hA0.out; omega), HHE.out]
                have HPK : Hid (∀ {u : World} {K : Where}, Hpk w u hb A K → Calls Try.prog 12 #[.pointer (some ⟨hb, 0, none⟩)] u fun e w' => e = .returned (.tuple #[vI (at_ L 0), .int .i64 0]) ∧ Below u.heap.size u w') := fun {u K} h => by
                  have := Peek_step h
                  rw [HHD.out] at this
                  exact this
                clear HHE HHD
                go_wp2_with (first | (go_at_call 9; refine (HAm.out _).mono ?_; rintro e w9 ⟨rfl, rfl⟩) | (go_at_call 12; go_loud (refine (HPK.out ST.out.hp).mono ?_; rintro e w3 ⟨rfl, hb3⟩; have S3 : Hid (St w w3 hb A (some ⟨g, o, none⟩) L wr.heap.size x) := ST.out.on hb3; clear hb3; have kk := HK.out S3.out.bw; have hB3 : B < w3.heap.size := Nat.lt_of_lt_of_le hB S3.out.bw.size; have hB3n : ¬ B = w3.heap.size := (by omega); have hB3n' : ¬ w3.heap.size = B := (by omega); have hgl3 : g < w3.heap.size := S3.out.lt g (.inl ⟨o, rfl⟩); have hgn3 : ¬ g = w3.heap.size := (by omega); have hgn3' : ¬ w3.heap.size = g := (by omega); obtain ⟨g9, o9, e9, _, l0, l1, l2, _⟩ := S3.out.row.three (i := 0) (by rw [HLn.out]; omega); obtain ⟨rfl, rfl⟩ : g = g9 ∧ o = o9 := (by simpa using e9); clear e9; rw [Nat.zero_mul] at l0 l1 l2; rw [Nat.add_zero] at l0 l1 l2)))
                go_big_quiet (fail)
                go_wp2_with (go_at_call 9; refine (HAm.out _).mono ?_; rintro e w9 ⟨rfl, rfl⟩)
                go_meet
                case rel => exact ⟨rfl, hb, A, some ⟨g, o, none⟩, L, nl_, cl, rfl, rfl, HLn.out, hlc, by omega, (S3.out.on (below_drewN (by go_grown) _)).in3 HLK.out⟩
          · as_aux_lemma =>
              obtain ⟨ry, re, hfl⟩ : ∃ ry re, fnd L x.1.toList = (ry, re) := ⟨_, _, rfl⟩
              have HFL : Hid (fnd L x.1.toList = (ry, re)) := hfl
              have HGT : Hid (∀ {u : World} {K : Where}, Hpk w u hb A K → Calls Try.prog 14 #[.pointer (some ⟨hb, 0, none⟩), .string x.1] u fun e w' => e = .returned (.tuple #[vI ry, .int .i64 re]) ∧ Below u.heap.size u w') := fun {u K} h => by
                have := Get_step h x.1 hx1
                rw [fnd_perm HLK.out.pm.symm h.dk, HFL.out] at this
                exact this
              have HFO : Hid (∀ {u : World}, RowAt encI 3 okI u al L → Calls Try.prog 16 #[.slice al nl_ cl, .string x.1] u fun e w' => e = .returned (.tuple #[vI ry, .int .i64 re]) ∧ Below u.heap.size u w') := fun {u} h => by
                have := found_calls al nl_ cl L x.1 u HLn.out h (by omega)
                rw [HFL.out] at this
                exact this
              clear hfl
              go_wp2_with (first | (go_at_call 9; refine (HAm.out _).mono ?_; rintro e w9 ⟨rfl, rfl⟩) | (go_at_call 14; go_loud (refine (HGT.out ST.out.hp).mono ?_; rintro e w3 ⟨rfl, hb3⟩; have S3 : Hid (St w w3 hb A al L wr.heap.size x) := ST.out.on hb3; clear hb3; have kk := HK.out S3.out.bw; have hB3 : B < w3.heap.size := Nat.lt_of_lt_of_le hB S3.out.bw.size; have hB3n : ¬ B = w3.heap.size := (by omega); have hB3n' : ¬ w3.heap.size = B := (by omega); obtain ⟨x0, x1, x2⟩ := S3.out.bo.c; have hx3 := S3.out.bo.lt; have hx3n : ¬ wr.heap.size = w3.heap.size := (by omega); have hx3n' : ¬ w3.heap.size = wr.heap.size := (by omega))) | (go_at_call 16; go_loud (refine (HFO.out (S3.out.on (by go_grown)).row).mono ?_; rintro e w5 ⟨rfl, hb5⟩; have S6 : Hid (St w w5 hb A al L wr.heap.size x) := (S3.out.on (by go_grown)).on hb5; have B6 : Hid (Bx w5 w3.heap.size ry) := (Bx.new w3 ry).on hb5; clear hb5; have kk6 := HK.out S6.out.bw; have hB6 : B < w5.heap.size := Nat.lt_of_lt_of_le hB S6.out.bw.size; have hB6n : ¬ B = w5.heap.size := (by omega); have hB6n' : ¬ w5.heap.size = B := (by omega); obtain ⟨p0, p1, p2⟩ := S6.out.bo.c; have hx6 := S6.out.bo.lt; have hx6n : ¬ wr.heap.size = w5.heap.size := (by omega); have hx6n' : ¬ w5.heap.size = wr.heap.size := (by omega); obtain ⟨r0, r1, r2⟩ := B6.out.c; have hy6 := B6.out.lt; have hy6n : ¬ w3.heap.size = w5.heap.size := (by omega); have hy6n' : ¬ w5.heap.size = w3.heap.size := (by omega))))
              go_meet
              case rel => exact ⟨rfl, hb, A, al, L, nl_, cl, rfl, rfl, HLn.out, hlc, by omega, (S6.out.on (by go_grown)).in3 HLK.out⟩
          · as_aux_lemma =>
              obtain ⟨ry, re, hfl⟩ : ∃ ry re, fnd L x.1.toList = (ry, re) := ⟨_, _, rfl⟩
              have HFL : Hid (fnd L x.1.toList = (ry, re)) := hfl
              have HGT : Hid (∀ {u : World} {K : Where}, Hpk w u hb A K → Calls Try.prog 14 #[.pointer (some ⟨hb, 0, none⟩), .string x.1] u fun e w' => e = .returned (.tuple #[vI ry, .int .i64 re]) ∧ Below u.heap.size u w') := fun {u K} h => by
                have := Get_step h x.1 hx1
                rw [fnd_perm HLK.out.pm.symm h.dk, HFL.out] at this
                exact this
              have HFO : Hid (∀ {u : World}, RowAt encI 3 okI u al L → Calls Try.prog 16 #[.slice al nl_ cl, .string x.1] u fun e w' => e = .returned (.tuple #[vI ry, .int .i64 re]) ∧ Below u.heap.size u w') := fun {u} h => by
                have := found_calls al nl_ cl L x.1 u HLn.out h (by omega)
                rw [HFL.out] at this
                exact this
              clear hfl
              have HDR : Hid (∀ {u : World} {K : Where}, Hpk w u hb A K → w.heap.size ≤ u.heap.size → (∀ b, K b → b < u.heap.size) → Calls Try.prog 15 #[.pointer (some ⟨hb, 0, none⟩), .string x.1] u fun e w' => ∃ A', (e = .returned (.tuple #[vI ry, .int .i64 re]) ∧ HeapL A' ∧ A'.Perm (dropK A x.1.toList)) ∧ Hpk w w' hb A' K ∧ Turns (fun b => w.heap.size ≤ b ∧ ¬ K b) u w') := fun {u K} h h1 h2 => by
                have := Drop_step h h1 h2 (by have := HAl.out; omega) HLK.out.hh x.1 hx1
                rw [fnd_perm HLK.out.pm.symm h.dk, HFL.out] at this
                exact this
              go_wp2_with (first | (go_at_call 9; refine (HAm.out _).mono ?_; rintro e w9 ⟨rfl, rfl⟩) | (go_at_call 14; go_loud (refine (HGT.out ST.out.hp).mono ?_; rintro e w3 ⟨rfl, hb3⟩; have S3 : Hid (St w w3 hb A al L wr.heap.size x) := ST.out.on hb3; clear hb3; have kk := HK.out S3.out.bw; have hB3 : B < w3.heap.size := Nat.lt_of_lt_of_le hB S3.out.bw.size; have hB3n : ¬ B = w3.heap.size := (by omega); have hB3n' : ¬ w3.heap.size = B := (by omega); obtain ⟨x0, x1, x2⟩ := S3.out.bo.c; have hx3 := S3.out.bo.lt; have hx3n : ¬ wr.heap.size = w3.heap.size := (by omega); have hx3n' : ¬ w3.heap.size = wr.heap.size := (by omega))) | (go_at_call 15; go_loud (refine (HDR.out (S3.out.box ry) (S3.out.on (by go_grown)).bw.size (fun b q => q.elim (fun r => (S3.out.on (by go_grown)).lt b r) (fun r => (by rw [r]; simp)))).mono ?_; rintro e w4 ⟨A', ⟨rfl, q1, q2⟩, q3, q4⟩; have LK : Hid (Like (dropK L x.1.toList) A') := HLK.out.drop _ q1 q2; clear q1 q2; have S4 : Hid (St w w4 hb A' al L wr.heap.size x) := (S3.out.on (by go_grown)).turn2 q4 q3; have B4 : Hid (Bx w4 w3.heap.size ry) := (Bx.new w3 ry).turn q4 (fun q => q.2 (.inr rfl)); have S5 : Hid (∀ p q r, St w (((w4.setCell ⟨w3.heap.size, 0, none⟩ p).setCell ⟨w3.heap.size, 1, none⟩ q).setCell ⟨w3.heap.size, 2, none⟩ r) hb A' al L wr.heap.size x) := (fun p q r => S4.out.wrote q3 (Turns.three w4 w3.heap.size p q r) S3.out.bw.size (fun q => absurd (S3.out.lt _ q) (Nat.lt_irrefl _))); clear q3 q4; obtain ⟨y0, y1, y2⟩ := B4.out.c; obtain ⟨f0, f1, f2⟩ := B4.out.f; have kk4 := HK.out S4.out.bw; obtain ⟨z0, z1, z2⟩ := S4.out.bo.c; have B5 : Hid (Bx (((w4.setCell ⟨w3.heap.size, 0, none⟩ (.string ry.1)).setCell ⟨w3.heap.size, 1, none⟩ (.int .i64 ry.2.1)).setCell ⟨w3.heap.size, 2, none⟩ (.int .i64 ry.2.2)) w3.heap.size ry) := B4.out.over ry)) | (go_at_call 16; go_loud (refine (HFO.out (S5.out _ _ _).row).mono ?_; rintro e w5 ⟨rfl, hb5⟩; have S6 : Hid (St w w5 hb A' al L wr.heap.size x) := (S5.out _ _ _).on hb5; have B6 : Hid (Bx w5 w3.heap.size ry) := B5.out.on hb5; clear hb5; have kk6 := HK.out S6.out.bw; have hB6 : B < w5.heap.size := Nat.lt_of_lt_of_le hB S6.out.bw.size; have hB6n : ¬ B = w5.heap.size := (by omega); have hB6n' : ¬ w5.heap.size = B := (by omega); obtain ⟨p0, p1, p2⟩ := S6.out.bo.c; have hx6 := S6.out.bo.lt; have hx6n : ¬ wr.heap.size = w5.heap.size := (by omega); have hx6n' : ¬ w5.heap.size = wr.heap.size := (by omega); obtain ⟨r0, r1, r2⟩ := B6.out.c; have hy6 := B6.out.lt; have hy6n : ¬ w3.heap.size = w5.heap.size := (by omega); have hy6n' : ¬ w5.heap.size = w3.heap.size := (by omega))) | (go_at_call 17; go_loud (refine (rDrop_calls al nl_ cl L x.1 _ HLn.out (S6.out.on (by go_grown)).row (by omega)).mono ?_; rintro e w7 ⟨g7, c7, rfl, hO7⟩; obtain ⟨S7, hc7'⟩ : Hid (St w w7 hb A' (some ⟨g7, 0, none⟩) (dropK L x.1.toList) wr.heap.size x) ∧ (dropK L x.1.toList).length ≤ c7 := (by have op := own_parts hO7; obtain ⟨a9, c9, e9, k9, _⟩ := row_of_owns (L := dropK L x.1.toList) (ok := okI) encI_len hO7.2 (by have := dropK_length L x.1.toList; have := HLn.out; omega) (fun z hz => S6.out.row.2.1 z (List.mem_filter.1 hz).1); obtain ⟨rfl, _⟩ : a9 = some ⟨g7, 0, none⟩ ∧ c9 = c7 := (by simp at e9; exact ⟨e9.1.symm, e9.2.symm⟩); exact ⟨(S6.out.on (by go_grown)).list hO7.1 k9 op.1 op.2.1, op.2.2⟩); clear hO7)))
              go_meet
              case rel => exact ⟨rfl, hb, A', _, dropK L x.1.toList, _, c7, rfl, rfl, rfl, hc7', by have := dropK_length L x.1.toList; have := HLn.out; omega, S7.out.in3 LK.out⟩
          · as_aux_lemma =>
              have hwW : Hid (w.heap.size ≤ (wr.alloc (.cells #[.string x.1, .int .i64 x.2.1, .int .i64 x.2.2] 27)).heap.size) := ST.out.bw.size
              go_wp2_with (first
                | (go_at_call 18; go_loud (refine (Clone_step ST.out.hp ST.out.bw.size ST.out.lt (by have := HAl.out; omega)).mono ?_; rintro e w3 ⟨hb', rfl, ⟨F, hF1, hF2⟩, _, hb3⟩; have S3 : Hid (St w w3 hb A al L wr.heap.size x) := ST.out.on hb3; have HP3 : Hid (Hpk w w3 hb A (K2 al wr.heap.size (wr.alloc (.cells #[.string x.1, .int .i64 x.2.1, .int .i64 x.2.2] 27)).heap.size w3.heap.size)) := (ST.out.hp.keep (K' := K2 al wr.heap.size (wr.alloc (.cells #[.string x.1, .int .i64 x.2.1, .int .i64 x.2.2] 27)).heap.size w3.heap.size) (fun b h1 h2 => h2.elim (fun q => q) (fun q => (by omega)))).grow hb3; have HK3 : Hid (∀ b, K2 al wr.heap.size (wr.alloc (.cells #[.string x.1, .int .i64 x.2.1, .int .i64 x.2.2] 27)).heap.size w3.heap.size b → b < w3.heap.size) := (fun b q => q.elim (fun r => S3.out.lt b r) (fun r => r.2)); have HF : Hid (HAt F w3 hb' A ∧ ∀ b, F b → (wr.alloc (.cells #[.string x.1, .int .i64 x.2.1, .int .i64 x.2.2] 27)).heap.size ≤ b ∧ b < w3.heap.size) := ⟨hF1, hF2⟩; clear hb3 hF1 hF2; obtain ⟨x0, x1, x2⟩ := S3.out.bo.c))
                | (go_at_call 10; go_loud (refine (Push_step HP3.out S3.out.bw.size HK3.out (by have := HAl.out; omega) HLK.out.hh (⟨#[115, 112, 111, 105, 108, 116]⟩, 0, 0) (by simp [okI, ByteArray.size])).mono ?_; rintro e w4 ⟨A4, ⟨r4, c4, rfl, q1, q2⟩, q3, q4⟩; have S4 : Hid (St w w4 hb A4 al L wr.heap.size x ∧ Hpk w w4 hb A4 (K2 al wr.heap.size (wr.alloc (.cells #[.string x.1, .int .i64 x.2.1, .int .i64 x.2.2] 27)).heap.size w3.heap.size) ∧ HeapL A4 ∧ A4.length ≤ 3001 ∧ (∀ b, K2 al wr.heap.size (wr.alloc (.cells #[.string x.1, .int .i64 x.2.1, .int .i64 x.2.2] 27)).heap.size w3.heap.size b → b < w4.heap.size) ∧ HAt F w4 hb' A) := ⟨S3.out.turn2 (C := fun b => (wr.alloc (.cells #[.string x.1, .int .i64 x.2.1, .int .i64 x.2.2] 27)).heap.size ≤ b ∧ b < w3.heap.size) q4 q3, q3, q1, (by have e1 := q2.length_eq; have e2 := putK_length A (⟨#[115, 112, 111, 105, 108, 116]⟩, 0, 0); have e3 := HAl.out; unfold stepK at e1; split at e1 <;> omega), (fun b q => Nat.lt_of_lt_of_le (HK3.out b q) q4.size), HF.out.1.kept (fun b h1 h2 => q4.block b h1 (fun q => q.2 (.inr (HF.out.2 b h2))))⟩; clear q1 q2 q3 q4 x0 x1 x2; obtain ⟨x0, x1, x2⟩ := S4.out.1.bo.c))
                | (go_at_call 15; go_loud (refine (Drop_step S4.out.2.1 S4.out.1.bw.size S4.out.2.2.2.2.1 (by have := S4.out.2.2.2.1; omega) S4.out.2.2.1 x.1 hx1).mono ?_; rintro e w5 ⟨A5, ⟨rfl, q1, q2⟩, q3, q4⟩; have S5 : Hid (St w w5 hb A5 al L wr.heap.size x ∧ Hpk w w5 hb A5 (K2 al wr.heap.size (wr.alloc (.cells #[.string x.1, .int .i64 x.2.1, .int .i64 x.2.2] 27)).heap.size w3.heap.size) ∧ HeapL A5 ∧ A5.length ≤ 3001 ∧ (∀ b, K2 al wr.heap.size (wr.alloc (.cells #[.string x.1, .int .i64 x.2.1, .int .i64 x.2.2] 27)).heap.size w3.heap.size b → b < w5.heap.size) ∧ HAt F w5 hb' A) := ⟨S4.out.1.turn2 (C := fun b => (wr.alloc (.cells #[.string x.1, .int .i64 x.2.1, .int .i64 x.2.2] 27)).heap.size ≤ b ∧ b < w3.heap.size) q4 q3, q3, q1, (by have e1 := q2.length_eq; have e2 := dropK_length A4 x.1.toList; have e3 := S4.out.2.2.2.1; omega), (fun b q => Nat.lt_of_lt_of_le (S4.out.2.2.2.2.1 b q) q4.size), S4.out.2.2.2.2.2.kept (fun b h1 h2 => q4.block b h1 (fun q => q.2 (.inr (HF.out.2 b h2))))⟩; clear q1 q2 q3 q4 x0 x1 x2))
                | (go_at_call 13; go_loud (refine (PopE_step S5.out.2.1 S5.out.1.bw.size S5.out.2.2.2.2.1 (by have := S5.out.2.2.2.1; omega) S5.out.2.2.1).mono ?_; rintro e w6 ⟨A6, ⟨rfl, q1, q5, q6, q7⟩, q3, q4⟩; have S6 : Hid (St w w6 hb' A al L wr.heap.size x) := (S5.out.1.turn2 (C := fun b => (wr.alloc (.cells #[.string x.1, .int .i64 x.2.1, .int .i64 x.2.2] 27)).heap.size ≤ b ∧ b < w3.heap.size) q4 q3).other (S5.out.2.2.2.2.2.kept (fun b h1 h2 => q4.block b h1 (fun q => q.2 (.inr (HF.out.2 b h2))))) (fun b q => ⟨Nat.le_trans hwW.out (HF.out.2 b q).1, Nat.lt_of_lt_of_le (S5.out.2.2.2.2.1 b (.inr (HF.out.2 b q))) q4.size, fun r => absurd (ST.out.lt b r) (by have := (HF.out.2 b q).1; omega)⟩); clear q1 q3 q4 q5 q6 q7)))
              go_meet
              case rel => exact ⟨rfl, hb', A, al, L, nl_, cl, rfl, rfl, HLn.out, hlc, by omega, S6.out.in3 HLK.out⟩
        case rest =>
          as_aux_lemma =>
            obtain ⟨rfl, hnow⟩ := hcut
            clear H3 k0 k1 k2 k3 hlc hlj HLn
            obtain ⟨hb, A, al, L, nl_, cl, rfl, rfl, hLn, hlc, hlj, h3⟩ := hnow.out
            have HLn : Hid (L.length = nl_) := hLn
            have H3 : Hid (In3 w hb A al L wc) := h3
            have HAl : Hid (A.length = nl_) := by rw [Hid, ← h3.like.len]; exact hLn
            have HAL : Hid (∀ {u : World} {K : Where}, Hpk w u hb A K → Calls Try.prog 19 #[.pointer (some ⟨hb, 0, none⟩)] u fun e w' => SortedRow u w' nl_ e L) := fun {u K} h => by
              have := All_step h (by rw [HAl.out]; omega)
              rw [HAl.out, h3.like.stab] at this
              exact this
            have HLE : Hid (∀ {u : World} {K : Where}, Hpk w u hb A K → Calls Try.prog 20 #[.pointer (some ⟨hb, 0, none⟩)] u fun e w' => e = .returned (.int .i64 (nl_ : Int)) ∧ Below u.heap.size u w') := fun {u K} h => by
              have := Len_step h
              rw [HAl.out] at this
              exact this
            clear h3 hLn hnow
            go_wp2_with (first
              | (go_at_call 19; go_loud (refine (HAL.out H3.out.hp).mono ?_; rintro e w3 ⟨a3, c3, rfl, r3, hb3, hf3⟩; have R3 : Hid (RowAt encI 3 okI w3 a3 L) := r3; have B3 : Hid (Below wc.heap.size wc w3) := hb3; have F3 : Hid (nl_ = 0 ∨ ∃ g, a3 = some ⟨g, 0, none⟩ ∧ wc.heap.size ≤ g ∧ LsAt (fun b => b = g) w3 g c3 L) := hf3; clear r3 hb3 hf3))
              | (go_at_call 20; go_loud (refine (HLE.out (H3.out.hp.grow B3.out)).mono ?_; rintro e w4 ⟨rfl, hb4'⟩; have hb4 : Hid (Below w3.heap.size w3 w4) := hb4'; clear hb4'))
              | (go_at_call 21; go_loud (refine (same_calls a3 al nl_ c3 cl L _ HLn.out (R3.out.on hb4.out) (H3.out.row.on (on2 B3.out hb4.out)) (by omega)).mono ?_; rintro e w5 ⟨rfl, hb5'⟩; have hb5 : Hid (Below w3.heap.size w3 w5) := on2 hb4.out hb5'; clear hb5' hb4)))
            have HST : Hid (nl_ = 0 ∨ ∃ g, a3 = some ⟨g, 0, none⟩ ∧ wc.heap.size ≤ g ∧ ∀ i, i < nl_ → (∃ v, w5.cell? ⟨g, i * 3 + 1, none⟩ = some v) ∧ w5.frozen? ⟨g, i * 3 + 1, none⟩ = false) := by
              rcases F3.out with h | ⟨g, h1, h2, h3⟩
              · exact .inl h
              · refine .inr ⟨g, h1, h2, fun i hi => ?_⟩
                have hc := h3.cells i (by rw [HLn.out]; exact hi)
                exact ⟨⟨_, (hb5.out.cell h3.lt).trans hc.1.2.1⟩, (hb5.out.frozen h3.lt).trans hc.2.2.1⟩
            have B5 : Hid (Below wc.heap.size wc w5) := on2 B3.out hb5.out
            clear R3 B3 F3 hb5 HAL HLE
            rcases Nat.eq_zero_or_pos nl_ with hz | hz
            · subst hz
              refine wp_loop_rounds 1 ?_
              rw [rounds_succ]
              go_wp2_with fail
              go_roundw
              case rel => exact ⟨j + 1, by omega, by omega, by go_num, hb, A, al, L, 0, cl, rfl, rfl, HLn.out, hlc, by omega, H3.out.turn (g := w5.heap.size) B5.out (B5.out.size) (Turns.refl _ _)⟩
              case measure => simp [intOf]; omega
            · obtain ⟨g, rfl, hgw, hcs⟩ : ∃ g, a3 = some ⟨g, 0, none⟩ ∧ wc.heap.size ≤ g ∧ Hid (∀ i, i < nl_ → (∃ v, w5.cell? ⟨g, i * 3 + 1, none⟩ = some v) ∧ w5.frozen? ⟨g, i * 3 + 1, none⟩ = false) := by
                rcases HST.out with h | ⟨g, h1, h2, h3⟩
                · omega
                · exact ⟨g, h1, h2, h3⟩
              clear HST
              go_loopw [20] (fun k wr2 => ∃ m : Nat, m ≤ nl_ ∧ k = .int .i64 m ∧ Hid (Turns (fun b => b = g) w5 wr2 ∧ ∀ i, i < nl_ → (∃ v, wr2.cell? ⟨g, i * 3 + 1, none⟩ = some v) ∧ wr2.frozen? ⟨g, i * 3 + 1, none⟩ = false)) (fun k _ => nl_ - (intOf k).toNat)
              case atStart => exact ⟨0, Nat.zero_le _, rfl, Turns.refl _ _, hcs.out⟩
              case round =>
                obtain ⟨m, hm, rfl, hrl⟩ := hrel
                by_cases hmn : m < nl_
                · have hmi : (m : Int) < (nl_ : Int) := by omega
                  have hmi0 : (0 : Int) ≤ (m : Int) := by omega
                  obtain ⟨⟨v, hv⟩, hfz⟩ := hrl.out.2 m hmn
                  go_wp2_with fail
                  go_roundw
                  case rel =>
                    refine ⟨m + 1, by omega, by go_num, hrl.out.1.trans (Turns.set (F := fun b => b = g) (p := ⟨g, m * 3 + 1, none⟩) rfl _), fun i hi => ?_⟩
                    obtain ⟨⟨v', hv'⟩, hfz'⟩ := hrl.out.2 i hi
                    refine ⟨?_, by simpa using hfz'⟩
                    by_cases e : i = m
                    · subst e
                      exact ⟨_, World.cell?_setCell_same (h := hv') ..⟩
                    · exact ⟨v', (World.cell?_setCell_other (h := (by simp; try omega)) ..).trans hv'⟩
                  case measure => simp [intOf]; omega
                · have hmi : ¬ (m : Int) < (nl_ : Int) := by omega
                  have HI : Hid (In3 w hb A al L wr) := H3.out.turn B5.out hgw hrl.out.1
                  clear hrl H3 B5
                  go_wp2_with fail
                  go_roundw
                  case rel => exact ⟨j + 1, by omega, by omega, by go_num, hb, A, al, L, nl_, cl, rfl, rfl, HLn.out, hlc, by omega, HI.out⟩
                  case measure => simp [intOf]; omega
      · have hj3i : ¬ (j : Int) < 3000 := by omega
        obtain ⟨hb, A, al, L, nl_, cl, e1, e2, _, _, _, h3⟩ := hnow.out
        have HB : Hid (Below w.heap.size w wr) := h3.bw
        clear hnow h3
        go_wp2_with (go_at_call 22; refine (works_calls _).mono ?_; rintro e w8 ⟨rfl, hb8⟩)
        go_ret
        exact ⟨rfl, on2 HB.out hb8⟩
    · have hji : ¬ (j : Int) < (n : Int) := by omega
      obtain ⟨hb, A, al, L, nl_, cl, e1, e2, _, _, _, h3⟩ := hnow.out
      have HB : Hid (Below w.heap.size w wr) := h3.bw
      clear hnow h3
      go_wp2_with (go_at_call 22; refine (works_calls _).mono ?_; rintro e w8 ⟨rfl, hb8⟩)
      go_ret
      exact ⟨rfl, on2 HB.out hb8⟩
theorem walk (a : Option Addr) (cap : Nat) (L : List Ac) (w : World) (h1 : RowAt encA 4 okAc w a L) (_h2 : L.length * 40 ≤ 140737488351232) (_h3 : a = none → cap = 0) (_h4 : L.length ≤ cap) :
    Calls Try.prog 3 #[.slice a L.length cap] w fun e w' => e = .returned (.bool true) ∧ Below w.heap.size w w' :=
  core a L.length cap L w rfl h1

theorem reads (os : Os) {H : Type} (enc : TypeId × Value → H) : ∃ places, DataW.whole enc Try.prog ((World.holding Try.prog os ⟨#[], #[], []⟩).forCall (fun _ _ => 0) ⟨#[], #[.slice none 0 0], []⟩).memory Try.f3.params.toList Rows.heapPlaysSpec.vars false #[(.slice none 0 0 : Value)].toList 8 = some ([.nil], [], places) :=
  ⟨[], by kernel_rfl⟩

theorem params_ok : ∀ t ∈ Try.f3.params.toList, Try.prog.readableRec t = true ∧ t < Try.prog.types.size := by
  rw [Try.params3]
  have hall : ([22].all fun u => Try.prog.readableRec u && decide (u < Try.prog.types.size)) = true := by kernel_rfl
  intro t ht
  simpa using List.all_eq_true.1 hall t (by simpa using ht)

set_option maxRecDepth 100000 in
theorem contract (H : Type) (enc : TypeId × Value → H) (W : World) (base : Nat) (args : Array Value) (ds gs : List (DataW H)) (before : List MemPlace)
    (hval : ∀ (j : Nat) t v, Try.f3.params[j]? = some t → args[j]? = some v → Value.okWide Try.prog W .any base t v)
    (hW : DataW.Whole enc Try.prog Try.f3.params.toList Rows.heapPlaysSpec.vars false W args.toList ds gs before) (hsz : (DataW.weightsEach Try.prog (Try.f3.params.toList ++ Rows.heapPlaysSpec.plain.varTypes Try.prog) (ds ++ gs)).all (· ≤ reachBytes) = true) :
    Calls Try.prog 3 args W fun e W' => ∃ v, e = .returned v ∧ Rows.heapPlaysSpec.post enc Try.prog Try.f3 false true false false W args v W' := by
  have hW' := hW
  obtain ⟨p, q, hA0, hV, rfl, hfz, hnd⟩ := hW
  have hA : DataW.TrodAll enc Try.prog W 0 (fun _ => true) true Try.f3.params.toList args.toList ds p := hA0
  rw [Try.params3] at hA hval
  obtain ⟨v0, vs0, d0, ds0, p0, q0, hargs, rfl, rfl, h0, r0⟩ := trodAll_cons hA
  obtain ⟨rfl, rfl, rfl⟩ := trodAll_nil r0
  obtain rfl : args = #[v0] := by cases args; simp_all
  obtain ⟨rfl, rfl⟩ := trodVars_none hV
  have l0 := light_arg hsz (j := 0) (t := 22) (by rw [Try.params3]; rfl) rfl
  obtain ⟨x0, y0, z0, e0⟩ := okWide_slice Try.underlying22 (hval 0 22 v0 rfl rfl)
  subst e0
  obtain ⟨fu0, hf0⟩ := h0
  obtain ⟨a0, L0, c0, e0, at0, b0, g0, o0⟩ := open_acts (v := .slice x0 y0 z0) hf0 l0
  obtain ⟨rfl, rfl, rfl⟩ : x0 = a0 ∧ y0 = L0.length ∧ z0 = c0 := by simpa using e0
  refine (walk x0 z0 L0 W at0 b0 g0 o0).mono fun e W' ⟨he, hb⟩ => ?_
  subst he
  exact ⟨_, rfl, law_post laidOut params_ok rfl (tb := 4) (by kernel_rfl) Try.underlying4 rfl hW' hb⟩

set_option maxRecDepth 100000 in
theorem lifted (os : Os) (started : os.Started) (H : Type) (enc : TypeId × Value → H) (F : Stop.Interp) :
    ReturnsInHanded {} Try.checked os 3 .any ((OpenSpec.ofChange Rows.heapPlaysSpec).preRow enc Try.prog Try.f3 Rows.heapPlaysRow.domain false Rows.heapPlaysRow.laid) (((OpenSpec.ofChange Rows.heapPlaysSpec).at F).post enc Try.prog Try.f3 false true false false) := by
  obtain ⟨places, hx⟩ := reads os enc
  refine returnsInHanded_of_row (C := Try.checked) (s := (OpenSpec.ofChange Rows.heapPlaysSpec)) own started (by kernel_rfl) Try.func3
    (witness_row_at (enc := enc) (C := Try.checked) false (World.holding Try.prog os ⟨#[], #[], []⟩) #[.slice none 0 0] rfl (by kernel_rfl) (by kernel_rfl) (by kernel_rfl)
      (OpenSpec.preRow_of_cond 8 hx (by kernel_rfl) (fun k hk => by cases hk) (by kernel_rfl) ⟨[], rfl, List.Pairwise.nil, fun _ _ h => by cases h⟩)) ?_
  intro W base args ds gs before hval hW _ _ hsz _ _ _
  exact contract H enc W base args ds gs before hval hW hsz

theorem said : Rows.HeapPlaysSaid :=
  OpenClaim.holds_of_cond 3 Try.f3 rfl rfl rfl rfl rfl rfl rfl ⟨rfl, rfl, rfl, rfl, rfl⟩ rfl rfl rfl rfl rfl (by kernel_rfl) Try.func3 (by kernel_rfl)
    (of_decide_eq_true (by kernel_rfl)) (by unfold Func.isWrapper; first | (rw [if_pos (by decide +kernel)]; kernel_rfl) | (rw [if_neg (by decide +kernel)]; exact ⟨rfl, rfl⟩))
    (fun os started H enc _ F => by rw [OpenClaim.pre_eq_preRow]; exact lifted os started H enc F)
end Go.Proofs.Ytgncpjplofacfaa.heapPlays
namespace Go.Proofs.Ytgncpjplofacfaa
theorem heapPlays_holds : Rows.HeapPlaysSaid := heapPlays.said
end Go.Proofs.Ytgncpjplofacfaa
