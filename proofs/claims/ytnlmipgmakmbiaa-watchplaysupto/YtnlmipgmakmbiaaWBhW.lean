/- The law WatchBehind, walked. Condition: the program's calls are as the structure says; the kinds are not too many. -/
import Derived.Test.YtnlmipgmakmbiaaWWk
namespace Go.Proofs.Ytnlmipgmakmbiaa
open Go.RowKit
set_option linter.unusedSimpArgs false
set_option maxRecDepth 100000

theorem nextP_ok {At : List Int} {Off : List Bool} {kd : Int} (n : Nat) (L : List Ch) (hk : knB kd = true) (hl : At.length = 7) (ho : Off.getD kd.toNat default = false) :
    (nextP At Off kd n L).1 = (restW kd (At.getD kd.toNat default) L).take n ∧ (nextP At Off kd n L).2.1 = 0 ∧ (nextP At Off kd n L).2.2.getD kd.toNat default = lastV (At.getD kd.toNat default) ((restW kd (At.getD kd.toNat default) L).take n) ∧ (nextP At Off kd n L).2.2.length = 7 := by
  obtain ⟨k1, k2⟩ := kn_iff.1 hk
  have hn : decide ((n : Int) < 0) = false := by simp
  unfold nextP
  rw [hk, hn, ho]
  simp only [Bool.not_false, Bool.and_self, if_true, Bool.false_eq_true, if_false, Int.toNat_natCast]
  refine ⟨trivial, trivial, ?_, ?_⟩
  · split
    · rw [List.getD_eq_getElem?_getD, List.getElem?_set, if_pos rfl, if_pos (by omega)]; rfl
    · rename_i h0
      have e : (restW kd (At.getD kd.toNat default) L).take n = [] := List.eq_nil_of_length_eq_zero (by omega)
      rw [e]; rfl
  · split
    · rw [List.length_set]; exact hl
    · exact hl
theorem rep_off {i : Nat} : (List.replicate 7 false).getD i default = false := by
  rw [List.getD_eq_getElem?_getD, List.getElem?_replicate]
  split <;> rfl
theorem knd_ok (x : Int) : knB (kndP x) = true := kn_iff.2 (knd_in x)
set_option maxHeartbeats 16000000 in
theorem behind_walk (W : WatchOK) (a : Option Addr) (n cap : Nat) (L : List Int) (kd : Int) (b : Option Addr) (m capb : Nat) (M : List Int) (w : World) (hL : Hid (SlAt RInt 1 8 (fun _ => True) w a n cap L)) (hM : Hid (SlAt RInt 1 8 (fun _ => True) w b m capb M)) (hb : n * 640 ≤ 140737488351232) : Calls Try.prog 8 #[.slice a n cap, .int .i64 kd, .slice b m capb] w fun e w' => e = .returned (.bool true) ∧ Below w.heap.size w w' := by
  have hC := works13_calls W w
  have hmn : Hid (M.length = m) := hM.out.1
  have hlm := hM.out.len (by decide)
  have hnl : Hid (L.length = n) := hL.out.1
  go_enter Try.func8, Try.ntmps8
  go_wp2_with fail
  refine hC.mono ?_
  rintro e u1 ⟨rfl, b1⟩
  clear hC
  have hC := logged_calls a n cap _ L u1 (hL.out.on RInt.firm b1) hb
  obtain ⟨Lg, hLg⟩ : ∃ l, l = logP (L.map kndP) 0 := ⟨_, rfl⟩
  have HLg : Hid (Rise Lg ∧ Lg.length = n) := ⟨by rw [hLg]; exact log_rise _ _, by rw [hLg, log_len, List.length_map]; exact hnl.out⟩
  rw [← hLg] at hC
  clear hLg
  go_wp2_with fail
  refine hC.mono ?_
  intro e u2 h2
  obtain ⟨la, ln, lc, rfl, sl, b2⟩ := h2.sl (by rw [HLg.out.2]; exact hb)
  clear hC h2
  have hC := Among_is kd 6 (by decide) (by decide) u2
  have hkl := among_lt kd (m := 6) (by decide)
  go_wp2_with fail
  refine hC.mono ?_
  rintro e u3 ⟨rfl, rfl⟩
  clear hC
  have hC := W.new 0 u3
  have hkz : IntKind.i64.wrap (1 + (amongP kd 6 : Int)) = kndP kd := by unfold kndP; generalize amongP kd 6 = y at hkl; simp [IntKind.wrap, IntKind.bits, IntKind.signed]; omega
  have Hkn := knd_ok kd
  generalize kndP kd = k at hkz Hkn
  go_wp2_with fail
  --M1
  refine hC.mono ?_
  rintro e u4 ⟨p, S, rfl, hp4, hS, b4⟩
  clear hC
  have HS : Hid ((∀ b, S b → u3.heap.size ≤ b) ∧ Below w.heap.size w u3) := ⟨hS, on2 b1 b2⟩
  have HI : Hid (∃ At, W.PW u4 p S At (List.replicate 7 false) ∧ SlAt RCh 42 640 (fun b => b < u3.heap.size) u4 la ln lc Lg ∧ Below w.heap.size w u4) := ⟨_, hp4, (sl.weak RCh.firm (fun b h _ => h)).on RCh.firm b4, on2 (on2 b1 b2) b4⟩
  clear hp4 hS b4 sl b1 b2
  go_wp2_with fail
  --M2
  go_loopw [9, 10, 11, 12, 13, 14, 15] (fun i _ _ _ _ _ _ wr => ∃ j : Nat, j ≤ m ∧ i = .int .i64 j ∧ Hid (∃ At, W.PW wr p S At (List.replicate 7 false) ∧ SlAt RCh 42 640 (fun b => b < u3.heap.size) wr la ln lc Lg ∧ Below w.heap.size w wr)) (fun i _ _ _ _ _ _ _ => m - (intOf i).toNat)
  case atStart => exact ⟨0, Nat.zero_le _, rfl, HI⟩
  case round =>
    obtain ⟨j, hj, rfl, hrun⟩ := hrel
    obtain ⟨At, hp, sl, bw⟩ := hrun.out
    clear hrun HI
    by_cases hlt : j < m
    · have hltz : (j : Int) < (m : Int) := by omega
      have hC := W.behind k hp sl HLg.out.1
      --M3
      rw [if_pos Hkn, if_pos Hkn] at hC
      have hlen := (W.len hp).1
      obtain ⟨B, off, rfl, hB, hBw, cs, hr, hv⟩ := ((hM.out.weak RInt.firm (A' := fun b => b < w.heap.size) (fun b h _ => h)).on RInt.firm bw).get hlt
      obtain rfl : cs = [.int .i64 (M.getD j default)] := hr
      have hd := hv 0 _ rfl
      rw [Nat.mul_one, Nat.add_zero] at hd
      generalize M.getD j default = x at hd
      have Hd : Hid (∀ z, Below wr.heap.size wr z → z.cell? ⟨B, off + j, none⟩ = some (.int .i64 x)) := fun z hz => (hz.cell hB).trans hd
      have HBw : Hid (B < w.heap.size) := hBw
      have HP : Hid (∀ z, Below wr.heap.size wr z → W.PW z p S At (List.replicate 7 false) ∧ SlAt RCh 42 640 (fun b => b < u3.heap.size) z la ln lc Lg ∧ Below w.heap.size w z) := fun z hz => ⟨W.kept hp (Kept.below hz), sl.on RCh.firm hz, on2 bw hz⟩
      obtain ⟨q, hq⟩ : ∃ q, q = amongP x 5 := ⟨_, rfl⟩
      have hq5 : q < 5 := by rw [hq]; exact among_lt x (by decide)
      obtain ⟨n1, n2, n3, n4⟩ := nextP_ok q Lg Hkn hlen rep_off
      have n5 := rest_next HLg.out.1 k (At.getD k.toNat default) q
      obtain ⟨R, hR⟩ : ∃ R, R = restW k (At.getD k.toNat default) Lg := ⟨_, rfl⟩
      have hRl : R.length ≤ n := by rw [hR, ← HLg.out.2]; exact rest_len _ _ _
      rw [← hR] at hC n1 n3 n5
      obtain ⟨⟨l, r, At2⟩, hN⟩ : ∃ y, y = nextP At (List.replicate 7 false) k q Lg := ⟨_, rfl⟩
      rw [← hN] at n1 n2 n3 n4
      simp only at n1 n2 n3 n4
      have HN : Hid (nextP At (List.replicate 7 false) k q Lg = (l, 0, At2)) := by rw [Hid, ← hN, n2]
      have H5 : Hid (restW k (At2.getD k.toNat default) Lg = R.drop q) := by rw [Hid, n3]; exact n5
      have Hll : Hid (l.length = min q R.length) := by rw [Hid, n1, List.length_take]
      obtain ⟨wn, hwn⟩ : ∃ wn, wn = R.length := ⟨_, rfl⟩
      have Hdl : Hid ((R.drop q).length = wn - q) := by rw [Hid, List.length_drop, hwn]
      rw [← hwn] at hC Hll hRl
      have Hq : Hid (amongP x 5 = q) := hq.symm
      clear hq hR hN n1 n2 n3 n4 n5 hwn hp sl bw hv hd hB hBw
      go_wp2_with fail
      refine hC.mono ?_
      rintro e u5 ⟨rfl, b5⟩
      clear hC
      have hd5 := Hd.out u5 b5
      have hC := Among_is x 5 (by decide) (by decide) u5
      rw [Hq.out] at hC
      --M4
      go_wp2_with fail
      refine hC.mono ?_
      rintro e u6 ⟨rfl, rfl⟩
      clear hC
      obtain ⟨hp6, sl6, bw6⟩ := HP.out u6 b5
      have hC := W.next k q hp6 sl6 HLg.out.1 (fun b h1 h2 => by have h3 := HS.out.1 b h2; omega)
      rw [HN.out] at hC
      simp only at hC
      have H6 : Hid (Below w.heap.size w u6) := bw6
      have H6s : Hid (SlAt RCh 42 640 (fun b => b < u3.heap.size) u6 la ln lc Lg) := sl6
      clear hp6 sl6 bw6
      go_wp2_with fail
      --M5
      refine hC.mono ?_
      rintro e u7 ⟨a7, n7, c7, rfl, s7, hp7, r7⟩
      clear hC
      have hn7 : n7 = min q wn := s7.1.symm.trans Hll.out
      have sl7 := r7.sl H6s.out (fun b h1 h2 => by have h3 := HS.out.1 b h2; omega)
      have hC := W.behind k hp7 sl7 HLg.out.1
      rw [if_pos Hkn, if_pos Hkn, H5.out, Hdl.out] at hC
      have bw7 := r7.below (fun b h => Nat.le_trans HS.out.2.size (HS.out.1 b h)) H6.out
      have hd7 : u7.cell? ⟨B, off + j, none⟩ = some (.int .i64 x) := (r7.kept.cell (p := ⟨B, off + j, none⟩) (fun h => by have h1 := HS.out.1 B h; have h2 := HS.out.2.size; have h3 := HBw.out; omega) (by show B < u6.heap.size; have h2 := H6.out.size; have h3 := HBw.out; omega)).trans (Hd.out u6 b5)
      have H7 : Hid (∀ z, Below u7.heap.size u7 z → z.cell? ⟨B, off + j, none⟩ = some (.int .i64 x) ∧ ∃ At, W.PW z p S At (List.replicate 7 false) ∧ SlAt RCh 42 640 (fun b => b < u3.heap.size) z la ln lc Lg ∧ Below w.heap.size w z) := fun z hz => ⟨(hz.cell (p := ⟨B, off + j, none⟩) (by show B < u7.heap.size; have h2 := bw7.size; have h3 := HBw.out; omega)).trans hd7, At2, W.kept hp7 (Kept.below hz), sl7.on RCh.firm hz, on2 bw7 hz⟩
      clear s7 hp7 r7 sl7 bw7 hd7 hd5
      go_wp2_with fail
      refine hC.mono ?_
      rintro e u8 ⟨rfl, b8⟩
      clear hC
      obtain ⟨hd8, hI8⟩ := H7.out u8 b8
      have HN8 : Hid (∃ At, W.PW u8 p S At (List.replicate 7 false) ∧ SlAt RCh 42 640 (fun b => b < u3.heap.size) u8 la ln lc Lg ∧ Below w.heap.size w u8) := hI8
      have hC := Among_is x 5 (by decide) (by decide) u8
      rw [Hq.out] at hC
      have hwr : IntKind.i64.wrap ((wn : Int) - (n7 : Int)) = ((wn - q : Nat) : Int) := by
        have h9 : (wn : Int) - (n7 : Int) = ((wn - q : Nat) : Int) := by omega
        have h8 : wn - q ≤ 140737488351232 := by omega
        rw [h9]
        generalize wn - q = y at h8
        simp [IntKind.wrap, IntKind.bits, IntKind.signed]
        omega
      have hmi : (if q < wn then (q : Int) else (wn : Int)) = (n7 : Int) := by rw [hn7]; split <;> omega
      have hmi2 : (if (q : Int) < (wn : Int) then (q : Int) else (wn : Int)) = (n7 : Int) := by rw [hn7]; split <;> omega
      clear H7 hI8 b8 hn7
      --M6
      go_wp2_with fail
      --M7
      refine hC.mono ?_
      rintro e u9 ⟨rfl, rfl⟩
      clear hC
      go_wp2_with fail
      --M8
      go_roundw
      case rel => exact ⟨j + 1, by omega, by go_num, HN8⟩
      case measure => simp [intOf]; omega
    · have HE : Hid (Below w.heap.size w wr) := bw
      have hltz : ¬ ((j : Int) < (m : Int)) := by omega
      clear hp sl bw
      go_wp2_with fail
      go_ret
      exact ⟨rfl, HE.out⟩
end Go.Proofs.Ytnlmipgmakmbiaa
