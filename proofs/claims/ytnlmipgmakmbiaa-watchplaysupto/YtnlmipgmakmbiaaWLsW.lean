/- The law WatchLists, walked. Condition: the program's calls are as the structure says; the kinds are not too many. -/
import Derived.Test.YtnlmipgmakmbiaaWOrW
namespace Go.Proofs.Ytnlmipgmakmbiaa
open Go.RowKit
set_option linter.unusedSimpArgs false
set_option maxRecDepth 100000

theorem nextP_off {At : List Int} {Off : List Bool} {kd : Int} (n : Nat) (L : List Ch) (hk : knB kd = true) (ho : Off.getD kd.toNat default = true) : nextP At Off kd n L = ([], 130, At) := by
  have hn : decide ((n : Int) < 0) = false := by simp
  unfold nextP
  rw [hk, hn, ho]
  rfl
theorem cutP_on {Off : List Bool} {kd : Int} (hk : knB kd = true) (ho : Off.getD kd.toNat default = false) : cutP Off kd = (0, Off.set kd.toNat true) := by
  unfold cutP
  rw [if_pos hk, ho]
  rfl
theorem cutP_off {Off : List Bool} {kd : Int} (hk : knB kd = true) (ho : Off.getD kd.toNat default = true) : cutP Off kd = (130, Off) := by
  unfold cutP
  rw [if_pos hk, ho]
  rfl
theorem listP_ok {At : List Int} {Off : List Bool} {kd : Int} (v : Nat) (hk : knB kd = true) : listP At Off kd v = (0, At.set kd.toNat v, Off.set kd.toNat false) := by
  have hn : decide ((v : Int) < 0) = false := by simp
  unfold listP
  rw [hk, hn]
  rfl
theorem set_get13 {α : Type} [Inhabited α] {l : List α} {i : Nat} {x : α} (h : i < l.length) : (l.set i x).getD i default = x := by
  rw [List.getD_eq_getElem?_getD, List.getElem?_set, if_pos rfl, if_pos h]; rfl
set_option maxHeartbeats 16000000 in
theorem lists_walk (W : WatchOK) (a : Option Addr) (n cap : Nat) (L : List Int) (kd q0 ver0 : Int) (w : World) (hL : Hid (SlAt RInt 1 8 (fun _ => True) w a n cap L)) (hb : n * 640 ≤ 140737488351232) : Calls Try.prog 6 #[.slice a n cap, .int .i64 kd, .int .i64 q0, .int .i64 ver0] w fun e w' => e = .returned (.bool true) ∧ Below w.heap.size w w' := by
  have hC := works13_calls W w
  have hnl : Hid (L.length = n) := hL.out.1
  go_enter Try.func6, Try.ntmps6
  go_wp2_with fail
  refine hC.mono ?_
  rintro e u1 ⟨rfl, b1⟩
  clear hC
  have hC := logged_calls a n cap _ L u1 (hL.out.on RInt.firm b1) hb
  obtain ⟨Lg, hLg⟩ : ∃ l, l = logP (L.map kndP) 0 := ⟨_, rfl⟩
  have HLg : Hid (Rise Lg ∧ Lg.length = n) := ⟨by rw [hLg]; exact log_rise _ _, by rw [hLg, log_len, List.length_map]; exact hnl.out⟩
  rw [← hLg] at hC
  clear hLg
  go_wp2_with fail
  refine hC.mono ?_
  intro e u2 h2
  obtain ⟨la, ln, lc, rfl, sl, b2⟩ := h2.sl (by rw [HLg.out.2]; exact hb)
  clear hC h2
  have hC := Among_is kd 6 (by decide) (by decide) u2
  have hkl := among_lt kd (m := 6) (by decide)
  have hln : ln = n := sl.1.symm.trans HLg.out.2
  subst hln
  go_wp2_with fail
  refine hC.mono ?_
  rintro e u3 ⟨rfl, rfl⟩
  clear hC
  have hkz : IntKind.i64.wrap (1 + (amongP kd 6 : Int)) = kndP kd := by unfold kndP; generalize amongP kd 6 = y at hkl; simp [IntKind.wrap, IntKind.bits, IntKind.signed]; omega
  have Hkn := knd_ok kd
  generalize kndP kd = k at hkz Hkn
  have hl3 : IntKind.i64.wrap ((ln : Int) + 3) = ((ln + 3 : Nat) : Int) := by simp [IntKind.wrap, IntKind.bits, IntKind.signed]; omega
  have hC := Among_is ver0 (ln + 3) (by omega) (by omega) u3
  generalize amongP ver0 (ln + 3) = ver at hC
  --M1
  go_wp2_with fail
  --M2
  refine hC.mono ?_
  rintro e u3 ⟨rfl, rfl⟩
  clear hC
  have hC := W.new 0 u3
  go_wp2_with fail
  refine hC.mono ?_
  rintro e u4 ⟨p, S, rfl, hp, hS, b4⟩
  clear hC
  obtain ⟨k1, k2⟩ := kn_iff.1 Hkn
  have hk7 : k.toNat < 7 := by omega
  have HS : Hid ((∀ b, S b → u3.heap.size ≤ b) ∧ Below w.heap.size w u3) := ⟨hS, on2 b1 b2⟩
  have hA : ∀ b, b < u3.heap.size → ¬ S b := fun b h1 h2 => by have h3 := HS.out.1 b h2; omega
  have hSw : ∀ b, S b → w.heap.size ≤ b := fun b h => Nat.le_trans HS.out.2.size (HS.out.1 b h)
  have s4 : SlAt RCh 42 640 (fun b => b < u3.heap.size) u4 la ln lc Lg := (sl.weak RCh.firm (fun b h _ => h)).on RCh.firm b4
  have w4 : Below w.heap.size w u4 := on2 (on2 b1 b2) b4
  clear sl b1 b2 b4 hS
  have hC := Among_is q0 9 (by decide) (by decide) u4
  generalize amongP q0 9 = q at hC
  go_wp2_with fail
  refine hC.mono ?_
  rintro e u5 ⟨rfl, rfl⟩
  clear hC
  obtain ⟨_, _, _, n4⟩ := nextP_ok (At := List.replicate 7 (max 0 0)) (Off := List.replicate 7 false) q Lg Hkn (by simp) rep_off
  have hC := W.next k q hp s4 HLg.out.1 hA
  generalize nextP (List.replicate 7 (max 0 0)) (List.replicate 7 false) k q Lg = r at hC n4
  obtain ⟨l1, r1, At1⟩ := r
  simp only at hC n4
  have H4 : Hid (SlAt RCh 42 640 (fun b => b < u3.heap.size) u5 la ln lc Lg ∧ Below w.heap.size w u5) := ⟨s4, w4⟩
  clear hp s4 w4
  --M3
  go_wp2_with fail
  refine hC.mono ?_
  rintro e u6 ⟨a6, n6, c6, rfl, _, hp6, r6⟩
  clear hC
  have s6 := r6.sl H4.out.1 hA
  have w6 := r6.below hSw H4.out.2
  have hC := W.cut k hp6
  rw [cutP_on Hkn rep_off] at hC
  have H6 : Hid (SlAt RCh 42 640 (fun b => b < u3.heap.size) u6 la ln lc Lg ∧ Below w.heap.size w u6) := ⟨s6, w6⟩
  clear hp6 r6 s6 w6
  go_wp2_with fail
  refine hC.mono ?_
  rintro e u7 ⟨rfl, hp7, r7⟩
  clear hC
  simp only at hp7 ⊢
  obtain ⟨Of, hOf⟩ : ∃ l, l = (List.replicate 7 false).set k.toNat true := ⟨_, rfl⟩
  have hOg : Of.getD k.toNat default = true := by rw [hOf]; exact set_get13 (by simpa using hk7)
  have hOl : Of.length = 7 := by rw [hOf, List.length_set]; simp
  rw [← hOf] at hp7
  clear hOf
  have s7 := r7.sl H6.out.1 hA
  have w7 := r7.below hSw H6.out.2
  have hC := W.cut k hp7
  rw [cutP_off Hkn hOg] at hC
  have H7 : Hid (SlAt RCh 42 640 (fun b => b < u3.heap.size) u7 la ln lc Lg ∧ Below w.heap.size w u7) := ⟨s7, w7⟩
  clear hp7 r7 s7 w7
  --M4
  go_wp2_with fail
  refine hC.mono ?_
  rintro e u8 ⟨rfl, hp8, r8⟩
  clear hC
  simp only at hp8 ⊢
  have s8 := r8.sl H7.out.1 hA
  have w8 := r8.below hSw H7.out.2
  have hC := W.next k 9 hp8 s8 HLg.out.1 hA
  rw [show (9 : Int) = ((9 : Nat) : Int) from rfl, nextP_off 9 Lg Hkn hOg] at hC
  have H8 : Hid (SlAt RCh 42 640 (fun b => b < u3.heap.size) u8 la ln lc Lg ∧ Below w.heap.size w u8) := ⟨s8, w8⟩
  clear hp8 r8 s8 w8
  go_wp2_with fail
  refine hC.mono ?_
  rintro e u9 ⟨a9, n9, c9, rfl, t9, hp9, r9⟩
  clear hC
  simp only at t9 hp9 ⊢
  obtain rfl : 0 = n9 := t9.1
  have s9 := r9.sl H8.out.1 hA
  have w9 := r9.below hSw H8.out.2
  have hC := W.list k ver hp9
  rw [listP_ok ver Hkn] at hC
  have H9 : Hid (SlAt RCh 42 640 (fun b => b < u3.heap.size) u9 la ln lc Lg ∧ Below w.heap.size w u9) := ⟨s9, w9⟩
  clear hp9 r9 s9 w9 t9
  --M5
  go_wp2_with fail
  refine hC.mono ?_
  rintro e u10 ⟨rfl, hp10, r10⟩
  clear hC
  simp only at hp10 ⊢
  have s10 := r10.sl H9.out.1 hA
  have w10 := r10.below hSw H9.out.2
  obtain ⟨n1, n2, _, _⟩ := nextP_ok (At := At1.set k.toNat ver) (Off := Of.set k.toNat false) ln Lg Hkn (by rw [List.length_set]; exact n4) (set_get13 (by omega))
  rw [set_get13 (by omega), List.take_of_length_le (by have := rest_len k ver Lg; have := HLg.out.2; omega)] at n1
  have hC := W.next k ln hp10 s10 HLg.out.1 hA
  rw [n1, n2] at hC
  have H10 : Hid (SlAt RCh 42 640 (fun b => b < u3.heap.size) u10 la ln lc Lg ∧ Below w.heap.size w u10) := ⟨s10, w10⟩
  clear hp10 r10 s10 w10 n1 n2
  go_wp2_with fail
  --M6
  refine hC.mono ?_
  rintro e u11 ⟨a11, n11, c11, rfl, t11, _, r11⟩
  clear hC
  have s11 := r11.sl H10.out.1 hA
  have w11 := r11.below hSw H10.out.2
  have Hn : Hid ((restW k ver Lg).length = n11) := t11.1
  have hnl := t11.len (by decide)
  have H11 : Hid (SlAt RCh 42 640 (Fresh u10) u11 a11 n11 c11 (restW k ver Lg) ∧ SlAt RCh 42 640 (fun b => b < u3.heap.size) u11 la ln lc Lg ∧ Below w.heap.size w u11) := ⟨t11, s11, w11⟩
  clear t11 r11 s11 w11
  go_wp2_with fail
  go_loop [13] (fun i => ∃ j : Nat, j ≤ n11 ∧ i = .int .i64 j) (fun i => n11 - (intOf i).toNat)
  case atStart => exact ⟨0, Nat.zero_le _, rfl⟩
  case round =>
    obtain ⟨j, hj, rfl⟩ := hrel
    by_cases hlt : j < n11
    · have hltz : (j : Int) < (n11 : Int) := by omega
      obtain ⟨B, off, rfl, hB, _, cs, hr, hv⟩ := H11.out.1.get hlt
      obtain rfl : cs = chC ((restW k ver Lg).getD j default).1 ((restW k ver Lg).getD j default).2 := hr
      have hm : (restW k ver Lg).getD j default ∈ restW k ver Lg := by
        rw [List.getD_eq_getElem?_getD, List.getElem?_eq_getElem (by rw [Hn.out]; exact hlt)]
        exact List.getElem_mem _
      obtain ⟨_, m1, m2⟩ := rest_mem.1 hm
      have d0 := hv 0 _ rfl
      have d2 := hv 2 _ rfl
      rw [Nat.add_zero] at d0
      rw [m1] at d2
      generalize ((restW k ver Lg).getD j default).1 = y at d0 m2
      have hle : ¬ (y ≤ (ver : Int)) := by omega
      clear hv hm m1 hB
      go_wp2_with fail
      go_round
      case rel => exact ⟨j + 1, by omega, by go_num⟩
      case measure => simp [intOf]; omega
    · have hltz : ¬ ((j : Int) < (n11 : Int)) := by omega
      have hC := rRest_calls k ver la ln lc _ Lg u11 H11.out.2.1
      --M8
      go_wp2_with fail
      refine hC.mono ?_
      intro e u12 h12
      obtain ⟨a12, n12, c12, rfl, t12, b12⟩ := h12.sl (by have h1 := rest_len k ver Lg; have h2 := HLg.out.2; omega)
      clear hC h12
      obtain rfl : n11 = n12 := Hn.out.symm.trans t12.1
      have HE : Hid (Below w.heap.size w u12) := on2 H11.out.2.2 b12
      clear t12 b12
      go_wp2_with fail
      go_ret
      exact ⟨rfl, HE.out⟩
end Go.Proofs.Ytnlmipgmakmbiaa
