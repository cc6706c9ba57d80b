/- The law WatchOrder, walked. Condition: the program's calls are as the structure says; the kinds are not too many. -/
import Derived.Test.YtnlmipgmakmbiaaWBhW
namespace Go.Proofs.Ytnlmipgmakmbiaa
open Go.RowKit
set_option linter.unusedSimpArgs false
set_option maxRecDepth 100000

/-- What has come so far: a beginning; the watcher stands behind it; the log lies there. -/
def OrdI (W : WatchOK) (w u3 : World) (p : Nat) (S : Where) (k : Int) (la : Option Addr) (ln lc : Nat) (Lg : List Ch) (v : Value) (u : World) : Prop :=
  ∃ At m, W.PW u p S At (List.replicate 7 false) ∧ SlAt RCh 42 640 (fun b => b < u3.heap.size) u la ln lc Lg ∧ Below w.heap.size w u ∧ Row RCh 42 (fun _ => False) u3 u 76 v ((restW k 0 Lg).take m) ∧ (∀ x, v.ownBlock = some x → ¬ S x) ∧ restW k (At.getD k.toNat default) Lg = (restW k 0 Lg).drop m
theorem OrdI.on {W : WatchOK} {w u3 : World} {p : Nat} {S : Where} {k : Int} {la : Option Addr} {ln lc : Nat} {Lg : List Ch} {v : Value} {u u' : World} (h : OrdI W w u3 p S k la ln lc Lg v u) (hb : Below u.heap.size u u') : OrdI W w u3 p S k la ln lc Lg v u' := by
  obtain ⟨At, m, h1, h2, h3, h4, h5, h6⟩ := h
  exact ⟨At, m, W.kept h1 (Kept.below hb), h2.on RCh.firm hb, on2 h3 hb, h4.on RCh.firm hb, h5, h6⟩
theorem rep_zero {i : Nat} : (List.replicate 7 (max 0 (0 : Int))).getD i default = 0 := by
  rw [List.getD_eq_getElem?_getD, List.getElem?_replicate]
  split <;> rfl
set_option maxHeartbeats 16000000 in
theorem order_walk (W : WatchOK) (a : Option Addr) (n cap : Nat) (L : List Int) (kd : Int) (b : Option Addr) (m capb : Nat) (M : List Int) (w : World) (hL : Hid (SlAt RInt 1 8 (fun _ => True) w a n cap L)) (hM : Hid (SlAt RInt 1 8 (fun _ => True) w b m capb M)) (hb : n * 640 ≤ 140737488351232) : Calls Try.prog 4 #[.slice a n cap, .int .i64 kd, .slice b m capb] w fun e w' => e = .returned (.bool true) ∧ Below w.heap.size w w' := by
  have hC := works13_calls W w
  have hmn : Hid (M.length = m) := hM.out.1
  have hlm := hM.out.len (by decide)
  have hnl : Hid (L.length = n) := hL.out.1
  go_enter Try.func4, Try.ntmps4
  go_wp2_with fail
  refine hC.mono ?_
  rintro e u1 ⟨rfl, b1⟩
  clear hC
  have hC := logged_calls a n cap _ L u1 (hL.out.on RInt.firm b1) hb
  obtain ⟨Lg, hLg⟩ : ∃ l, l = logP (L.map kndP) 0 := ⟨_, rfl⟩
  have HLg : Hid (Rise Lg ∧ Lg.length = n) := ⟨by rw [hLg]; exact log_rise _ _, by rw [hLg, log_len, List.length_map]; exact hnl.out⟩
  rw [← hLg] at hC
  clear hLg
  go_wp2_with fail
  refine hC.mono ?_
  intro e u2 h2
  obtain ⟨la, ln, lc, rfl, sl, b2⟩ := h2.sl (by rw [HLg.out.2]; exact hb)
  clear hC h2
  have hC := Among_is kd 6 (by decide) (by decide) u2
  have hkl := among_lt kd (m := 6) (by decide)
  go_wp2_with fail
  refine hC.mono ?_
  rintro e u3 ⟨rfl, rfl⟩
  clear hC
  have hC := W.new 0 u3
  have hkz : IntKind.i64.wrap (1 + (amongP kd 6 : Int)) = kndP kd := by unfold kndP; generalize amongP kd 6 = y at hkl; simp [IntKind.wrap, IntKind.bits, IntKind.signed]; omega
  have Hkn := knd_ok kd
  generalize kndP kd = k at hkz Hkn
  go_wp2_with fail
  --M1
  refine hC.mono ?_
  rintro e u4 ⟨p, S, rfl, hp4, hS, b4⟩
  clear hC
  have HS : Hid ((∀ b, S b → u3.heap.size ≤ b) ∧ Below w.heap.size w u3 ∧ (∀ b, S b → b < u4.heap.size)) := ⟨hS, on2 b1 b2, W.lt hp4⟩
  have HI : Hid (OrdI W w u3 p S k la ln lc Lg (.slice (some ⟨u4.heap.size, 0, none⟩) 0 0) (u4.alloc (.cells #[] 76))) := by
    have B5 : Below u4.heap.size u4 (u4.alloc (.cells #[] 76)) := (Below.refl _ _).alloc (Nat.le_refl _) _
    refine ⟨_, 0, W.kept hp4 (Kept.below B5), ((sl.weak RCh.firm (fun b h _ => h)).on RCh.firm b4).on RCh.firm B5, on2 (on2 (on2 b1 b2) b4) B5, Row.start _ u3 u4 _ b4, fun x e hx => ?_, ?_⟩
    · have h1 := W.lt hp4 x hx
      have h2 : x = u4.heap.size := by simpa [Value.ownBlock] using e.symm
      omega
    · rw [rep_zero]; rfl
  clear hp4 hS b4 sl b1 b2
  go_wp2_with fail
  --M2
  go_loopw [9, 10, 11, 12] (fun v i _ _ wr => ∃ j : Nat, j ≤ m ∧ i = .int .i64 j ∧ Hid (OrdI W w u3 p S k la ln lc Lg v wr)) (fun _ i _ _ _ => m - (intOf i).toNat)
  case atStart => exact ⟨0, Nat.zero_le _, rfl, HI⟩
  case round =>
    obtain ⟨j, hj, rfl, hrun⟩ := hrel
    obtain ⟨At, t, hp, sl, bw, hrow, hown, hrest⟩ := hrun.out
    clear hrun HI
    by_cases hlt : j < m
    · have hltz : (j : Int) < (m : Int) := by omega
      have hlen := (W.len hp).1
      obtain ⟨B, off, rfl, hB, hBw, cs, hr, hv⟩ := ((hM.out.weak RInt.firm (A' := fun b => b < w.heap.size) (fun b h _ => h)).on RInt.firm bw).get hlt
      obtain rfl : cs = [.int .i64 (M.getD j default)] := hr
      have hd := hv 0 _ rfl
      rw [Nat.mul_one, Nat.add_zero] at hd
      generalize M.getD j default = x at hd
      have HBw : Hid (B < w.heap.size) := hBw
      obtain ⟨q, hq⟩ : ∃ q, q = amongP x 5 := ⟨_, rfl⟩
      have hq5 : q < 5 := by rw [hq]; exact among_lt x (by decide)
      obtain ⟨n1, n2, n3, n4⟩ := nextP_ok q Lg Hkn hlen rep_off
      obtain ⟨o1, o2⟩ := order_step HLg.out.1 hrest q
      obtain ⟨⟨l, r, At2⟩, hN⟩ : ∃ y, y = nextP At (List.replicate 7 false) k q Lg := ⟨_, rfl⟩
      rw [← hN] at n1 n2 n3 n4
      simp only at n1 n2 n3 n4
      rw [← n1] at o1 o2 n3
      have HN : Hid (nextP At (List.replicate 7 false) k q Lg = (l, 0, At2)) := by rw [Hid, ← hN, n2]
      have Ho : Hid (restW k (At2.getD k.toNat default) Lg = (restW k 0 Lg).drop (t + q) ∧ (restW k 0 Lg).take t ++ l = (restW k 0 Lg).take (t + q) ∧ l.length ≤ q) := ⟨by rw [n3]; exact o1, o2, by rw [n1, List.length_take]; omega⟩
      have Hq : Hid (amongP x 5 = q) := hq.symm
      have Hrow : Hid (Row RCh 42 (fun _ => False) u3 wr 76 u9 ((restW k 0 Lg).take t)) := hrow
      have HP : Hid (W.PW wr p S At (List.replicate 7 false) ∧ SlAt RCh 42 640 (fun b => b < u3.heap.size) wr la ln lc Lg ∧ Below w.heap.size w wr) := ⟨hp, sl, bw⟩
      have hC := Among_is x 5 (by decide) (by decide) wr
      rw [Hq.out] at hC
      clear hq hN n1 n2 n3 n4 o1 o2 hp sl bw hv hrow hrest hlen
      go_wp2_with fail
      refine hC.mono ?_
      rintro e u6 ⟨rfl, rfl⟩
      clear hC
      have hC := W.next k q HP.out.1 HP.out.2.1 HLg.out.1 (fun b h1 h2 => by have h3 := HS.out.1 b h2; omega)
      rw [HN.out] at hC
      simp only at hC
      --M3
      go_wp2_with fail
      refine hC.mono ?_
      rintro e u7 ⟨a7, n7, c7, rfl, s7, hp7, r7⟩
      clear hC
      have hn7 : l.length = n7 := s7.1
      have bw7 := r7.below (fun b h => Nat.le_trans HS.out.2.1.size (HS.out.1 b h)) HP.out.2.2
      have b37 := r7.below HS.out.1 Hrow.out.below
      have hd7 : u7.cell? ⟨B, off + j, none⟩ = some (.int .i64 x) := (r7.kept.cell (p := ⟨B, off + j, none⟩) (fun h => by have h1 := HS.out.1 B h; have h2 := HS.out.2.1.size; have h3 := HBw.out; omega) hB).trans hd
      have row7 : Row RCh 42 (fun _ => False) u3 u7 76 u9 ((restW k 0 Lg).take t) := Hrow.out.keptX13 RCh.firm b37 (r7.kept.weak (fun b h => h.elim False.elim (hown b)))
      have sl7 := r7.sl HP.out.2.1 (fun b h1 h2 => by have h3 := HS.out.1 b h2; omega)
      have hC := Among_is x 5 (by decide) (by decide) u7
      rw [Hq.out] at hC
      have hnq : ¬ (n7 > q) := by have := Ho.out.2.2; omega
      have hnqz : ¬ ((n7 : Int) > (q : Int)) := by omega
      have HSr : Hid (Src RCh 42 (fun b => (fun _ => False) b ∧ u9.ownBlock ≠ some b) u7 a7 n7 l) := (s7.src RCh.firm).flat RCh.flat
      have HRw : Hid (Row RCh 42 (fun _ => False) u3 u7 76 u9 ((restW k 0 Lg).take t)) := row7
      have HOb : Hid ((((restW k 0 Lg).take t).length + l.length) * 640 ≤ 140737488355328) := by
        have h1 := Ho.out.2.1
        have h2 : ((restW k 0 Lg).take t).length + l.length = ((restW k 0 Lg).take (t + q)).length := by rw [← h1, List.length_append]
        have h3 := rest_len k 0 Lg
        have h4 := HLg.out.2
        rw [Hid, h2, List.length_take]
        omega
      have HF : Hid (W.PW u7 p S At2 (List.replicate 7 false) ∧ SlAt RCh 42 640 (fun b => b < u3.heap.size) u7 la ln lc Lg ∧ Below w.heap.size w u7 ∧ (∀ x, u9.ownBlock = some x → ¬ S x) ∧ (∀ b, S b → b < u7.heap.size)) := ⟨hp7, sl7, bw7, hown, W.lt hp7⟩
      clear s7 hp7 r7 sl7 bw7 b37 row7 hown hd hB
      go_wp2_with fail
      refine hC.mono ?_
      rintro e u8 ⟨rfl, rfl⟩
      clear hC
      --M4
      go_wp2_with (first | (at_builtin; refine row_appendP RCh.firm (A := fun _ => False) (w0 := u3) rfl _ _ 28 76 rfl _ 640 infoCh Try.underlying28 rfl (by decide) (by decide) u9 _ rfl HRw.out a7 n7 c7 l rfl HSr.out HOb.out ?_; intro v10 w10 hr10 hg10 hw10) | fail)
      --M5
      have HN10 : Hid (OrdI W w u3 p S k la ln lc Lg v10 w10) := by
        obtain ⟨f1, f2, f3, f4, f5⟩ := HF.out
        rw [Ho.out.2.1] at hr10
        have hlo : ∀ b, u9.ownBlock = some b → u3.heap.size ≤ b := fun b e => (HRw.out.lt e).1
        refine ⟨At2, t + q, W.kept f1 (Kept.grown hg10 (fun b e hb => f4 b e hb)), f2.kept RCh.firm (Kept.grown hg10 (fun b e hb => by have := hlo b e; omega)), f3.grown hg10 f3.size (fun b e => Nat.le_trans HS.out.2.1.size (hlo b e)), hr10, fun x e => ?_, Ho.out.1⟩
        rcases hw10 with e2 | e2
        · rw [e2] at e; exact f4 x e
        · rw [e2] at e; injection e with e; intro hx; have := f5 x hx; omega
      go_roundw
      case rel => exact ⟨j + 1, by omega, by go_num, HN10⟩
      case measure => simp [intOf]; omega
    · --M6
      have hltz : ¬ ((j : Int) < (m : Int)) := by omega
      have hsl : ln = n := sl.1.symm.trans HLg.out.2
      subst hsl
      have hlb : ln * 640 ≤ 140737488351232 := hb
      have HR0 : Hid ((restW k 0 Lg).length ≤ ln) := by rw [Hid, ← HLg.out.2]; exact rest_len _ _ _
      obtain ⟨ga, gc, rfl, sg⟩ := (hrow.wA13 RCh.firm (A' := Fresh u3) (fun _ h => h.elim)).slF (bytes := 640) RCh.firm (by rw [List.length_take]; have := HR0.out; omega)
      obtain ⟨gn, hgn⟩ : ∃ gn, gn = ((restW k 0 Lg).take t).length := ⟨_, rfl⟩
      rw [← hgn] at sg hown ⊢
      have Hgn : Hid (gn = min t (restW k 0 Lg).length) := by rw [Hid, hgn, List.length_take]
      have hC := W.new 0 wr
      have H0 : Hid (∀ z, Below wr.heap.size wr z → W.PW z p S At (List.replicate 7 false) ∧ SlAt RCh 42 640 (fun b => b < u3.heap.size) z la ln lc Lg ∧ Below w.heap.size w z ∧ SlAt RCh 42 640 (Fresh u3) z ga gn gc ((restW k 0 Lg).take t)) := fun z hz => ⟨W.kept hp (Kept.below hz), sl.on RCh.firm hz, on2 bw hz, sg.on RCh.firm hz⟩
      have Hs3 : Hid (u3.heap.size ≤ wr.heap.size ∧ (∀ b, S b → b < wr.heap.size)) := ⟨hrow.below.size, W.lt hp⟩
      have Hrest : Hid (restW k (At.getD k.toNat default) Lg = (restW k 0 Lg).drop t) := hrest
      clear hp sl bw hrow hown hrest sg hgn
      go_wp2_with fail
      refine hC.mono ?_
      rintro e u10 ⟨p2, S2, rfl, hp10, hS2, b10⟩
      clear hC
      obtain ⟨hpo, sl10, bw10, sg10⟩ := H0.out u10 b10
      obtain ⟨n1, n2, _, _⟩ := nextP_ok (At := List.replicate 7 (max 0 0)) (Off := List.replicate 7 false) ln Lg Hkn (by simp) rep_off
      rw [rep_zero] at n1
      have hC := W.next k ln hp10 sl10 HLg.out.1 (fun b h1 h2 => by have h3 := hS2 b h2; have h4 := Hs3.out.1; omega)
      rw [n1, n2, List.take_of_length_le HR0.out] at hC
      have H1 : Hid (W.PW u10 p S At (List.replicate 7 false) ∧ SlAt RCh 42 640 (fun b => b < u3.heap.size) u10 la ln lc Lg ∧ Below w.heap.size w u10 ∧ SlAt RCh 42 640 (Fresh u3) u10 ga gn gc ((restW k 0 Lg).take t) ∧ (∀ b, S2 b → wr.heap.size ≤ b) ∧ Below wr.heap.size wr u10) := ⟨hpo, sl10, bw10, sg10, hS2, b10⟩
      clear hpo sl10 bw10 sg10 hp10 hS2 b10 n1 n2
      --M7
      go_wp2_with fail
      refine hC.mono ?_
      rintro e u11 ⟨a11, n11, c11, rfl, s11, _, r11⟩
      clear hC
      obtain ⟨hpo, sl10, bw10, sg10, hS2, b10⟩ := H1.out
      have hn11 : (restW k 0 Lg).length = n11 := s11.1
      have hpo11 := W.kept hpo (r11.kept.weak (fun b h1 h2 => by have h3 := hS2 b h2; have h4 := Hs3.out.2 b h1; omega))
      have sl11 := r11.sl sl10 (fun b h1 h2 => by have h3 := hS2 b h2; have h4 := Hs3.out.1; omega)
      have hC := W.behind k hpo11 sl11 HLg.out.1
      rw [if_pos Hkn, if_pos Hkn, Hrest.out, List.length_drop] at hC
      have sg0 : SlAt RCh 42 640 (fun b => b < wr.heap.size) wr ga gn gc ((restW k 0 Lg).take t) := ((H0.out wr (Below.refl _ _)).2.2.2).weak RCh.firm (fun b h _ => h)
      have sg11 : SlAt RCh 42 640 (fun b => b < wr.heap.size) u11 ga gn gc ((restW k 0 Lg).take t) := r11.sl (sg0.on RCh.firm b10) (fun b h1 h2 => by have h3 := hS2 b h2; omega)
      have bw11 := r11.below (fun b h => Nat.le_trans (Nat.le_trans HS.out.2.1.size Hs3.out.1) (hS2 b h)) bw10
      have H2 : Hid (∀ z, Below u11.heap.size u11 z → SlAt RCh 42 640 (fun b => b < wr.heap.size) z ga gn gc ((restW k 0 Lg).take t) ∧ SlAt RCh 42 640 (Fresh u10) z a11 n11 c11 (restW k 0 Lg) ∧ Below w.heap.size w z) := fun z hz => ⟨sg11.on RCh.firm hz, s11.on RCh.firm hz, on2 bw11 hz⟩
      have hgl : gn ≤ n11 := by have := Hgn.out; omega
      have hcl : gn ≤ c11 := Nat.le_trans hgl s11.2.1
      have hnb : n11 * 640 ≤ 140737488351232 := s11.2.2.2.1
      obtain ⟨dn, hdn⟩ : ∃ dn, dn = (restW k 0 Lg).length - t := ⟨_, rfl⟩
      rw [← hdn] at hC
      have hsum : IntKind.i64.wrap ((gn : Int) + (dn : Int)) = (n11 : Int) := by
        have h1 := Hgn.out
        have h2 : (gn : Int) + (dn : Int) = (n11 : Int) := by omega
        rw [h2]
        generalize n11 = y at hnb
        simp [IntKind.wrap, IntKind.bits, IntKind.signed]
        omega
      have hgz : (gn : Int) ≤ (c11 : Int) := by omega
      have Htk : Hid ((restW k 0 Lg).take gn = (restW k 0 Lg).take t) := by
        rw [Hid, Hgn.out, ← List.take_take, List.take_length]
      clear hpo sl10 bw10 sg10 hS2 b10 hpo11 sl11 sg0 sg11 bw11 r11 H1 s11 hdn hn11
      --M8
      go_wp2_with fail
      refine hC.mono ?_
      rintro e u12 ⟨rfl, b12⟩
      clear hC
      obtain ⟨sg, sa, bw12⟩ := H2.out u12 b12
      have sa2 := sl_take13 sa hgl
      rw [Htk.out] at sa2
      have hC := same_calls ga gn gc _ ((restW k 0 Lg).take t) a11 gn c11 _ ((restW k 0 Lg).take t) u12 sg sa2
      rw [decide_eq_true (rfl : (restW k 0 Lg).take t = (restW k 0 Lg).take t)] at hC
      have HE : Hid (Below w.heap.size w u12) := bw12
      clear sg sa sa2 bw12 b12 H2
      --M9
      go_wp2_with fail
      --MA
      refine hC.mono ?_
      rintro e u13 ⟨rfl, n13, rfl⟩
      clear hC
      go_wp2_with fail
      go_ret
      exact ⟨rfl, on2 HE.out ⟨rfl, rfl, rfl, Nat.le_refl _, fun _ _ => rfl⟩⟩
end Go.Proofs.Ytnlmipgmakmbiaa
