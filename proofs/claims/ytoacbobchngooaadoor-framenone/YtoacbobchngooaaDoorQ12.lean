/- A run of the program, at a point at which plugins say a code. Condition: the frame lies as is said of it, and the calls are not too many. -/
import Derived.Test.YtoacbobchngooaaDoorQ11
import Derived.Test.YtoacbobchngooaaDoorQ08
import Derived.Test.YtoacbobchngooaaDoorQ06
namespace Go.Proofs.YtoacbobchngooaaDoor
open Go.RowKit Go.Maps
set_option linter.unusedSimpArgs false
set_option maxRecDepth 100000

theorem runL_does (L : List PlugD) (pt : Int) (x : PlugD) (r : List PlugD) (i : Nat) (sk : List Bool) (cs : List ByteArray) (wt : Bool) (hns : ¬ (pt = 2 ∧ sk.getD i default = true)) :
    runL L pt (x :: r) i sk cs wt = if doesP pt (codeAt x pt) = 0 then runL L pt r (i + 1) (doesF (L, sk, cs ++ [callS x.1 pt]) pt i (codeAt x pt)).2.1 (doesF (L, sk, cs ++ [callS x.1 pt]) pt i (codeAt x pt)).2.2 wt
      else if doesP pt (codeAt x pt) = 3 then runL L pt r (i + 1) (doesF (L, sk, cs ++ [callS x.1 pt]) pt i (codeAt x pt)).2.1 (doesF (L, sk, cs ++ [callS x.1 pt]) pt i (codeAt x pt)).2.2 true
      else ((doesF (L, sk, cs ++ [callS x.1 pt]) pt i (codeAt x pt)).2.1, (doesF (L, sk, cs ++ [callS x.1 pt]) pt i (codeAt x pt)).2.2, doesP pt (codeAt x pt)) := by
  rw [runL, if_neg hns]
  generalize codeAt x pt = cd
  unfold doesP doesF onceP
  by_cases h4 : cd = 4
  · subst h4; by_cases h1 : pt = 1 <;> simp [h1]
  by_cases h3 : cd = 3
  · subst h3
    by_cases hp : pt = 4
    · subst hp; simp
    · by_cases hq : pt = 3 <;> simp [hp, hq]
  by_cases h0 : cd = 0
  · subst h0; simp
  · by_cases hq : pt = 3 <;> simp [h4, h3, h0, hq]
/-- A box beside the frame. -/
theorem box_turned {u z : World} {p R : Nat} {b c : Value} {cs : List Value} (hb : BoxL u R cs) (ht : Turns (DF p b c) u z) (hp : R ≠ p) (h1 : b.ownBlock ≠ some R) (h2 : c.ownBlock ≠ some R) : BoxL z R cs :=
  hb.kept (A := fun x => x = R) (ht.kept (fun x e _ hd => by subst e; exact hd.elim hp (fun hd => hd.elim h1 h2))) rfl
theorem sizeRule : (Tryd.prog.info? 75).map (·.size) = some 2 := by kernel_rfl
/-- Where a run stands at plugin k. -/
def RunG (S : Where) (w u : World) (p : Nat) (b c : Value) (f : FrD) (pt : Int) (R : Nat) (ru : List Value) (k : Nat) (wt : Bool) (z : World) : Prop :=
  ∃ sk cs c1 C1, PfE S w z p b c1 C1 (f.1, sk, cs) ∧ Turns (DF p b c) u z ∧ (c1.ownBlock = c.ownBlock ∨ ∀ x, c1.ownBlock = some x → u.heap.size ≤ x) ∧ c1.ownBlock ≠ some R ∧ BoxL z R ru ∧ runL f.1 pt (f.1.drop k) k sk cs wt = runL f.1 pt f.1 0 f.2.1 f.2.2 false ∧ cs.length ≤ f.2.2.length + k
theorem own_new {u : World} {R : Nat} {c c1 : Value} (h : c1.ownBlock = c.ownBlock ∨ ∀ x, c1.ownBlock = some x → u.heap.size ≤ x) (hc : c.ownBlock ≠ some R) (hR : R < u.heap.size) : c1.ownBlock ≠ some R := by
  rcases h with h | h
  · rw [h]; exact hc
  · intro e; have := h R e; omega
theorem own_trans {u z : World} {c c1 c2 : Value} (hs : u.heap.size ≤ z.heap.size) (h1 : c1.ownBlock = c.ownBlock ∨ ∀ x, c1.ownBlock = some x → u.heap.size ≤ x) (h2 : c2.ownBlock = c1.ownBlock ∨ ∀ x, c2.ownBlock = some x → z.heap.size ≤ x) : c2.ownBlock = c.ownBlock ∨ ∀ x, c2.ownBlock = some x → u.heap.size ≤ x := by
  rcases h2 with h2 | h2
  · rw [h2]; exact h1
  · exact .inr (fun x hx => Nat.le_trans hs (h2 x hx))
theorem turns_trans {u z z' : World} {p : Nat} {b c c1 : Value} (t1 : Turns (DF p b c) u z) (o1 : c1.ownBlock = c.ownBlock ∨ ∀ x, c1.ownBlock = some x → u.heap.size ≤ x) (t2 : Turns (DF p b c1) z z') : Turns (DF p b c) u z' := by
  have k1 : Turns (fun x => DF p b c x ∨ u.heap.size ≤ x) u z := t1.weak (fun x _ hx => .inl hx)
  have k2 : Turns (fun x => DF p b c x ∨ u.heap.size ≤ x) z z' := t2.weak (fun x _ hx => by
    rcases hx with hx | hx | hx
    · exact .inl (.inl hx)
    · exact .inl (.inr (.inl hx))
    · rcases o1 with o1 | o1
      · rw [o1] at hx; exact .inl (.inr (.inr hx))
      · exact .inr (o1 x hx))
  exact (k1.trans k2).weak (fun x hx hf => hf.elim id (fun q => by omega))
set_option maxHeartbeats 8000000 in
theorem goThrough_calls {S : Where} {w u : World} {p : Nat} {b c : Value} {C : List (Int × Int)} {f : FrD} (h : PfE S w u p b c C f) (hC : f.2.2.length ≤ 1000000) {pt : Int} (hp : 1 ≤ pt ∧ pt ≤ 4) :
    Calls Tryd.prog 34 #[.pointer (some ⟨p, 0, none⟩), .int .i64 pt] u fun e w' => e = .returned (.int .i64 (runL f.1 pt f.1 0 f.2.1 f.2.2 false).2.2) ∧ PfO S w u p b c (f.1, (runL f.1 pt f.1 0 f.2.1 f.2.2 false).1, (runL f.1 pt f.1 0 f.2.1 f.2.2 false).2.1) w' := by
  have h64 := h.h64
  obtain ⟨n, hn⟩ : ∃ n, n = f.1.length := ⟨_, rfl⟩
  have hnl : Hid (f.1.length = n) := hn.symm
  obtain ⟨g, kk, hidx, eg, ek, hsays, hdoes⟩ := rule_at p hp
  have HSa : Hid (SaysAt pt g) := hsays
  have HDo : Hid (DoesAt pt kk) := hdoes
  have Hh : Hid (PfE S w u p b c C f) := h
  obtain ⟨RR, hRR⟩ : ∃ R, R = runL f.1 pt f.1 0 f.2.1 f.2.2 false := ⟨_, rfl⟩
  have HRR : Hid (runL f.1 pt f.1 0 f.2.1 f.2.2 false = RR) := hRR.symm
  rw [← hRR]
  have hA := rules_calls p u
  obtain ⟨ba, bk, rfl, hbg⟩ := h.form
  rw [← hn] at Hh h64 hbg ⊢
  have HBG : Hid (0 < n → ∃ g, ba = some ⟨g, 0, none⟩) := hbg
  clear h hsays hdoes hRR hbg hn
  go_enter Tryd.func34, Tryd.ntmps34
  go_wp2_with fail
  refine hA.mono ?_
  rintro e w1 ⟨rfl, b1⟩
  have hidx1 := hidx w1
  obtain ⟨W2a, hW2a⟩ : ∃ Z, Z = w1.alloc (.cells #[.nilFunc, .nilFunc] 75) := ⟨_, rfl⟩
  have b2a : Below w1.heap.size w1 W2a := by rw [hW2a]; exact (Below.refl _ _).alloc (Nat.le_refl _) _
  have q2a : BoxL W2a w1.heap.size [.nilFunc, .nilFunc] := by rw [hW2a]; exact BoxL.new w1 _ _
  obtain ⟨W2, hW2⟩ : ∃ Z, Z = W2a.setCells w1.heap.size 0 (#[.func (.func g) #[] #[], .func (.func kk) #[.pointer (some ⟨p, 0, none⟩)] #[]] : Array Value).toList := ⟨_, rfl⟩
  have b2 : Below w1.heap.size w1 W2 := by rw [hW2]; exact below_setCells17 b2a (Nat.le_refl _)
  have q2 : BoxL W2 w1.heap.size [.func (.func g) #[] #[], .func (.func kk) #[.pointer (some ⟨p, 0, none⟩)] #[]] := by rw [hW2]; exact box_over17 q2a rfl
  have HT2 : Hid (W2a.there w1.heap.size 0 (#[.func (.func g) #[] #[], .func (.func kk) #[.pointer (some ⟨p, 0, none⟩)] #[]] : Array Value).size) := (show W2a.there w1.heap.size 0 2 from box_there17 q2a)
  have HO2 : Hid ((#[.func (.func g) #[] #[], .func (.func kk) #[.pointer (some ⟨p, 0, none⟩)] #[]] : Array Value).all (·.oneCell') = true) := all_oneCell_toArray (cs := [.func (.func g) #[] #[], .func (.func kk) #[.pointer (some ⟨p, 0, none⟩)] #[]]) (by intro v hv; simp only [List.mem_cons, List.not_mem_nil, or_false] at hv; rcases hv with rfl | rfl <;> rfl)
  have HW2a : Hid (w1.alloc (.cells #[.nilFunc, .nilFunc] 75) = W2a) := hW2a.symm
  have HW2 : Hid (W2 = W2a.setCells w1.heap.size 0 (#[.func (.func g) #[] #[], .func (.func kk) #[.pointer (some ⟨p, 0, none⟩)] #[]] : Array Value).toList) := hW2
  obtain ⟨R, hR⟩ : ∃ R, R = w1.heap.size := ⟨_, rfl⟩
  have HRe : Hid (w1.heap.size = R) := hR.symm
  rw [← hR] at q2
  have HPW2 : PfE S w W2 p (.slice ba n bk) c C f := Hh.out.on (on2 b1 b2)
  have d1 := HPW2.cells.1.2.1
  have HRu : Hid (u.heap.size ≤ R) := by rw [hR]; exact b1.size
  have HRp : Hid (R ≠ p) := by have h1 := Hh.out.box.1; have h2 := HRu.out; rw [Hid]; omega
  have HRb : Hid ((Value.slice ba n bk).ownBlock ≠ some R) := fun e => by have h1 := (Hh.out.rb.lt e).2; have h2 := HRu.out; omega
  have HRc : Hid (c.ownBlock ≠ some R) := fun e => by have h1 := (Hh.out.rc.lt e).2; have h2 := HRu.out; omega
  have H0 : Hid (RunG S w u p (.slice ba n bk) c f pt R [.func (.func g) #[] #[], .func (.func kk) #[.pointer (some ⟨p, 0, none⟩)] #[]] 0 false W2) := ⟨f.2.1, f.2.2, c, C, HPW2, Turns.below (on2 b1 b2), .inl rfl, HRc.out, q2, by rw [List.drop_zero], by omega⟩
  clear hA hidx hW2 b2 q2 hR HPW2 b1 Hh HRc
  clear hW2a q2a b2a
  go_wp2_with (first | (rw [HW2a.out]; refine wpList_store_mid rfl 75 _ _ rfl w1.heap.size 0 #[.func (.func g) #[] #[], .func (.func kk) #[.pointer (some ⟨p, 0, none⟩)] #[]] rfl rfl HT2.out sizeRule HO2.out ?_; refine wpl_atG HW2.out ?_; rw [HRe.out]) | fail)
  clear HW2 HW2a HRe hidx1 HT2 HO2
  --M1
  go_loopw [6, 19] (fun v i z => ∃ k : Nat, k ≤ n ∧ i = .int .i64 k ∧ ∃ (wt : Bool) (ev : Int), v = .int .i64 ev ∧ Hid (ev = if wt = true then 3 else 0) ∧ Hid (RunG S w u p (.slice ba n bk) c f pt R [.func (.func g) #[] #[], .func (.func kk) #[.pointer (some ⟨p, 0, none⟩)] #[]] k wt z)) (fun _ i _ => n - (intOf i).toNat)
  case atStart => exact ⟨0, Nat.zero_le _, rfl, false, 0, rfl, rfl, H0⟩
  case round =>
    clear H0 d1
    obtain ⟨k, hk, rfl, wt, ev, rfl, hev, hrun⟩ := hrel
    obtain ⟨sk, cs, c1, C1, h1, t1, o1, r1, x1b, hst, hcl⟩ := hrun.out
    rw [HRR.out] at hst
    by_cases hlt : k < n
    case neg =>
      have hltz : ¬ (k : Int) < (n : Int) := by omega
      have hdk : f.1.drop k = [] := List.drop_eq_nil_of_le (by rw [hnl.out]; omega)
      rw [hdk] at hst
      unfold runL at hst
      have HE : Hid (PfO S w u p (.slice ba n bk) c (f.1, RR.1, RR.2.1) wr ∧ RR.2.2 = ev) := by rw [← hst, hev.out]; exact ⟨⟨c1, C1, h1, t1, o1⟩, rfl⟩
      clear hrun h1 t1 o1 r1 x1b hst hcl hdk
      go_wp2_with fail
      go_ret
      exact ⟨retI HE.out.2.symm, HE.out.1⟩
    have hltz : (k : Int) < (n : Int) := by omega
    have hkl : k < f.1.length := by rw [hnl.out]; exact hlt
    obtain ⟨ga, rfl⟩ := HBG.out (by omega)
    obtain ⟨ga', bk', sa, sn, sc, hbe, hga, hv, hsz, hss⟩ := h1.plug (i := k) hkl
    simp only [Value.slice.injEq, Option.some.injEq, Addr.mk.injEq, and_true, true_and] at hbe
    obtain ⟨rfl, -, rfl⟩ := hbe
    obtain ⟨x, hx⟩ : ∃ x, x = f.1.getD k default := ⟨_, rfl⟩
    obtain ⟨xs, hxs⟩ : ∃ x, x = sk.getD k default := ⟨_, rfl⟩
    have hv : wr.rangeAt ga (k * 8) [.string x.1, .int .i64 x.2.1, .int .i64 x.2.2.1, .int .i64 x.2.2.2.1, .int .i64 x.2.2.2.2.1, .int .i64 (plW x), .slice sa sn sc, .bool xs] := by rw [hx, hxs]; exact hv
    have hss : SlAt RInt 1 8 S wr sa sn sc (plS x) := by rw [hx]; exact hss
    have hsz : x.1.size ≤ 140737488355328 := by rw [hx]; exact hsz
    have HXC : Hid (callS (f.1.getD k default).1 pt = callS x.1 pt) := by rw [Hid, hx]
    rw [drop_consF hkl, ← hx] at hst
    obtain ⟨cd, hcd⟩ : ∃ cd, cd = codeAt x pt := ⟨_, rfl⟩
    have HRp8 : Hid (∀ z, Kept S wr z → RPl8 S z [.string x.1, .int .i64 x.2.1, .int .i64 x.2.2.1, .int .i64 x.2.2.2.1, .int .i64 x.2.2.2.2.1, .int .i64 (plW x), .slice sa sn sc, .bool xs] (x, xs)) := fun z hz => RPl8.mk hsz (hss.kept RInt.firm hz)
    have HSy0 : Hid (∀ z, Kept S wr z → Calls Tryd.prog g #[.agg #[.string x.1, .int .i64 x.2.1, .int .i64 x.2.2.1, .int .i64 x.2.2.2.1, .int .i64 x.2.2.2.2.1, .int .i64 (plW x), .slice sa sn sc, .bool xs]] z fun e w' => e = .returned (.int .i64 cd) ∧ Below z.heap.size z w') := fun z hz => by
      rw [hcd]; exact HSa.out S _ (x, xs) z (HRp8.out z hz)
    obtain ⟨x1, hx1⟩ : ∃ y, y = x.1 := ⟨_, rfl⟩
    obtain ⟨x2, hx2⟩ : ∃ y, y = x.2.1 := ⟨_, rfl⟩
    obtain ⟨x3, hx3⟩ : ∃ y, y = x.2.2.1 := ⟨_, rfl⟩
    obtain ⟨x4, hx4⟩ : ∃ y, y = x.2.2.2.1 := ⟨_, rfl⟩
    obtain ⟨x5, hx5⟩ : ∃ y, y = x.2.2.2.2.1 := ⟨_, rfl⟩
    obtain ⟨x6, hx6⟩ : ∃ y, y = plW x := ⟨_, rfl⟩
    rw [← hx1, ← hx2, ← hx3, ← hx4, ← hx5, ← hx6] at hv HSy0
    have HCt : Hid (callS (f.1.getD k default).1 pt = callS x1 pt) := by rw [Hid, HXC.out, hx1]
    have d0 := hv 0 _ rfl
    have d1 := hv 1 _ rfl
    have d2 := hv 2 _ rfl
    have d3 := hv 3 _ rfl
    have d4 := hv 4 _ rfl
    have d5 := hv 5 _ rfl
    have d6 := hv 6 _ rfl
    have d7 := hv 7 _ rfl
    rw [Nat.add_zero] at d0
    have HC1 : Hid (callS x.1 pt = callS x1 pt) := by rw [Hid, hx1]
    obtain ⟨W3, hW3⟩ : ∃ Z, Z = wr.alloc (.cells #[.string x1, .int .i64 x2, .int .i64 x3, .int .i64 x4, .int .i64 x5, .int .i64 x6, .slice sa sn sc, .bool xs] 59) := ⟨_, rfl⟩
    have b3 : Below wr.heap.size wr W3 := by rw [hW3]; exact (Below.refl _ _).alloc (Nat.le_refl _) _
    have q3 : BoxL W3 wr.heap.size [.string x1, .int .i64 x2, .int .i64 x3, .int .i64 x4, .int .i64 x5, .int .i64 x6, .slice sa sn sc, .bool xs] := by rw [hW3]; exact BoxL.new wr 59 _
    have HW3 : Hid (wr.alloc (.cells #[.string x1, .int .i64 x2, .int .i64 x3, .int .i64 x4, .int .i64 x5, .int .i64 x6, .slice sa sn sc, .bool xs] 59) = W3) := hW3.symm
    obtain ⟨B, hB⟩ : ∃ B, B = wr.heap.size := ⟨_, rfl⟩
    have HBB : Hid (wr.heap.size = B) := hB.symm
    rw [← hB] at q3
    have e7 := (q3.2 7 _ rfl).1
    have h3 := h1.on b3
    have HQ3 : Hid (BoxL W3 B [.string x1, .int .i64 x2, .int .i64 x3, .int .i64 x4, .int .i64 x5, .int .i64 x6, .slice sa sn sc, .bool xs]) := q3
    have HB3 : Hid (Below wr.heap.size wr W3) := b3
    have HR3 : Hid (BoxL W3 R [.func (.func g) #[] #[], .func (.func kk) #[.pointer (some ⟨p, 0, none⟩)] #[]]) := x1b.on b3
    have H3 : Hid (PfE S w W3 p (.slice (some ⟨ga, 0, none⟩) n bk) c1 C1 (f.1, sk, cs) ∧ Turns (DF p (.slice (some ⟨ga, 0, none⟩) n bk) c) u W3 ∧ (c1.ownBlock = c.ownBlock ∨ ∀ x, c1.ownBlock = some x → u.heap.size ≤ x) ∧ c1.ownBlock ≠ some R ∧ cs.length ≤ f.2.2.length + k) := ⟨h3, t1.trans (Turns.below b3), o1, r1, hcl⟩
    have HBn : Hid (B ≠ p ∧ (Value.slice (some ⟨ga, 0, none⟩) n bk).ownBlock ≠ some B ∧ c1.ownBlock ≠ some B) := ⟨fun e => by have h9 := h1.box.1; omega, fun e => by have h9 := (h1.rb.lt e).2; omega, fun e => by have h9 := (h1.rc.lt e).2; omega⟩
    have hkx : ¬ (pt = 2 ∧ xs = true) → runL f.1 pt (x :: f.1.drop (k + 1)) k sk cs wt = _ := fun hns => runL_does f.1 pt x (f.1.drop (k + 1)) k sk cs wt (by rw [← hxs]; exact hns)
    have hksk : pt = 2 ∧ xs = true → runL f.1 pt (x :: f.1.drop (k + 1)) k sk cs wt = runL f.1 pt (f.1.drop (k + 1)) (k + 1) sk cs wt := fun hs => by rw [runL, if_pos (by rw [← hxs]; exact hs)]
    rw [hst, ← hcd, HC1.out] at hkx
    rw [hst] at hksk
    have HNo : Hid (¬ (pt = 2 ∧ xs = true) → RR = _) := hkx
    have HSk : Hid (pt = 2 ∧ xs = true → RR = _) := hksk
    clear hrun h1 t1 o1 r1 x1b hst hcl hv hss hW3 b3 q3 h3 hkx hksk hx hxs hcd hx1 hx2 hx3 hx4 hx5 hx6 hB HC1 HXC HRp8
    go_upto_region 6 with fail
    rw [HW3.out, HBB.out]
    clear d0 d1 d2 d3 d4 d5 d6 d7 HW3
    --M2
    by_cases hs : pt = 2 ∧ xs = true
    case pos =>
      obtain ⟨rfl, rfl⟩ := hs
      have HE : Hid (RunG S w u p (.slice (some ⟨ga, 0, none⟩) n bk) c f 2 R [.func (.func g) #[] #[], .func (.func kk) #[.pointer (some ⟨p, 0, none⟩)] #[]] (k + 1) wt W3) := ⟨sk, cs, c1, C1, H3.out.1, H3.out.2.1, H3.out.2.2.1, H3.out.2.2.2.1, HR3.out, by rw [HRR.out]; exact (HSk.out ⟨rfl, rfl⟩).symm, Nat.le_succ_of_le H3.out.2.2.2.2⟩
      clear HNo HSk H3 HR3 HQ3 HBn HSy0
      go_wp2_with fail
      go_roundw
      case rel => exact ⟨k + 1, by omega, by go_num, wt, ev, rfl, hev, HE⟩
      case measure => simp [intOf]; omega
    have HRN := HNo.out hs
    have HRn : Hid (RR = _) := HRN
    have hgd : (pt == 2) = false ∨ (pt == 2) = true ∧ xs = false := by
      by_cases h2 : pt = 2
      · refine .inr ⟨by simpa using h2, ?_⟩
        cases xs
        · rfl
        · exact absurd ⟨h2, rfl⟩ hs
      · exact .inl (by simpa using h2)
    have hA := note_calls H3.out.1 (i := k) hkl (pt := pt) ⟨hp.1, by omega⟩ (by show cs.length ≤ 1000000000; have := H3.out.2.2.2.2; omega)
    rw [HCt.out] at hA
    clear HNo HSk HRN hs
    --M3
    go_cut [29] (fun v wx => v = .bool false ∧ wx = W3)
    case first =>
      rcases hgd with h2 | ⟨h2, rfl⟩
      · go_wp2_with fail
        go_meet
        exact ⟨rfl, rfl⟩
      · go_wp2_with fail
        go_meet
        exact ⟨rfl, rfl⟩
    case rest =>
    obtain ⟨rfl, hwc⟩ := hcut
    obtain rfl := hwc.symm
    clear hgd e7
    go_wp2_with fail
    refine hA.mono ?_
    rintro e w5 ⟨rfl, c2, C2, h5, t5, o5⟩
    clear hA
    have HR5 : Hid (BoxL w5 R [.func (.func g) #[] #[], .func (.func kk) #[.pointer (some ⟨p, 0, none⟩)] #[]]) := box_turned HR3.out t5 HRp.out HRb.out H3.out.2.2.2.1
    have HQ5 : Hid (BoxL w5 B [.string x1, .int .i64 x2, .int .i64 x3, .int .i64 x4, .int .i64 x5, .int .i64 x6, .slice sa sn sc, .bool xs]) := box_turned HQ3.out t5 HBn.out.1 HBn.out.2.1 HBn.out.2.2
    have HBl : Hid (R < W3.heap.size ∧ B < W3.heap.size) := ⟨HR3.out.1, HQ3.out.1⟩
    have r5 := own_new o5 H3.out.2.2.2.1 HBl.out.1
    have s5 := own_new o5 HBn.out.2.2 HBl.out.2
    have H5 : Hid (PfE S w w5 p (.slice (some ⟨ga, 0, none⟩) n bk) c2 C2 (f.1, sk, cs ++ [callS x1 pt]) ∧ Turns (DF p (.slice (some ⟨ga, 0, none⟩) n bk) c) u w5 ∧ (c2.ownBlock = c.ownBlock ∨ ∀ x, c2.ownBlock = some x → u.heap.size ≤ x) ∧ c2.ownBlock ≠ some R ∧ c2.ownBlock ≠ some B) := ⟨h5, turns_trans H3.out.2.1 H3.out.2.2.1 t5, own_trans H3.out.2.1.size H3.out.2.2.1 o5, r5, s5⟩
    have HCl : Hid (cs.length ≤ f.2.2.length + k) := H3.out.2.2.2.2
    have HBp : Hid (B ≠ p ∧ (Value.slice (some ⟨ga, 0, none⟩) n bk).ownBlock ≠ some B) := ⟨HBn.out.1, HBn.out.2.1⟩
    have HS5 : Hid (Kept S wr w5) := (Kept.below HB3.out).trans (t5.kept (fun y hy _ hd => by
      have h9 := H3.out.1.sp y hy
      rcases hd with hd | hd | hd
      · exact h9.2.1 hd
      · exact h9.2.2.1 hd
      · exact h9.2.2.2 hd))
    clear h5 t5 o5 r5 s5 H3 HR3 HQ3 HBl HBn
    --M4
    go_upto_region 8 with fail
    have HC : Hid (∀ z, Kept (fun y => y = R ∨ y = B) w5 z → z.cell? ⟨R, 0, none⟩ = some (.func (.func g) #[] #[]) ∧ z.cell? ⟨R, 1, none⟩ = some (.func (.func kk) #[.pointer (some ⟨p, 0, none⟩)] #[]) ∧ z.cell? ⟨B, 0, none⟩ = some (.string x1) ∧ z.cell? ⟨B, 1, none⟩ = some (.int .i64 x2) ∧ z.cell? ⟨B, 2, none⟩ = some (.int .i64 x3) ∧ z.cell? ⟨B, 3, none⟩ = some (.int .i64 x4) ∧ z.cell? ⟨B, 4, none⟩ = some (.int .i64 x5) ∧ z.cell? ⟨B, 5, none⟩ = some (.int .i64 x6) ∧ z.cell? ⟨B, 6, none⟩ = some (.slice sa sn sc) ∧ z.cell? ⟨B, 7, none⟩ = some (.bool xs)) := fun z hz => by
      have hr := HR5.out.kept hz (.inl rfl)
      have hb := HQ5.out.kept hz (.inr rfl)
      exact ⟨(hr.2 0 _ rfl).1, (hr.2 1 _ rfl).1, (hb.2 0 _ rfl).1, (hb.2 1 _ rfl).1, (hb.2 2 _ rfl).1, (hb.2 3 _ rfl).1, (hb.2 4 _ rfl).1, (hb.2 5 _ rfl).1, (hb.2 6 _ rfl).1, (hb.2 7 _ rfl).1⟩
    go_cut [9] (fun v wx => v = .int .i64 (doesP pt cd) ∧ Hid (∃ c3 C3, PfE S w wx p (.slice (some ⟨ga, 0, none⟩) n bk) c3 C3 (doesF (f.1, sk, cs ++ [callS x1 pt]) pt k cd) ∧ Turns (DF p (.slice (some ⟨ga, 0, none⟩) n bk) c) u wx ∧ (c3.ownBlock = c.ownBlock ∨ ∀ x, c3.ownBlock = some x → u.heap.size ≤ x) ∧ c3.ownBlock ≠ some R ∧ BoxL wx R [.func (.func g) #[] #[], .func (.func kk) #[.pointer (some ⟨p, 0, none⟩)] #[]]))
    case first =>
      have hb0 : Below w5.heap.size w5 w5.drew := (Below.refl _ _).drew
      refine t0 (fun z => Kept (fun y => y = R ∨ y = B) w5 z) (Kept.below hb0) (fun hHeld => ?_)
      have Hd : Hid (Below w5.heap.size w5 w5.drew) := hb0
      generalize hwd : w5.drew = wd at hHeld Hd ⊢
      clear hwd hb0
      try go_frame
      refine' tk 0 ?_ ?_; rotate_left
      · intro z hz; obtain ⟨f0, f1, e0, e1, e2, e3, e4, e5, e6, e7⟩ := HC.out z hz; clear hz; go_simp; try with_reducible rfl
      try go_frame
      refine' tk 1 ?_ ?_; rotate_left
      · intro z hz; obtain ⟨f0, f1, e0, e1, e2, e3, e4, e5, e6, e7⟩ := HC.out z hz; clear hz; go_simp; try with_reducible rfl
      try go_frame
      refine' tk 2 ?_ ?_; rotate_left
      · intro z hz; obtain ⟨f0, f1, e0, e1, e2, e3, e4, e5, e6, e7⟩ := HC.out z hz; clear hz; go_simp; try with_reducible rfl
      try go_frame
      refine' tk 3 ?_ ?_; rotate_left
      · intro z hz; obtain ⟨f0, f1, e0, e1, e2, e3, e4, e5, e6, e7⟩ := HC.out z hz; clear hz; go_simp; try with_reducible rfl
      try go_frame
      refine' tk 4 ?_ ?_; rotate_left
      · intro z hz; obtain ⟨f0, f1, e0, e1, e2, e3, e4, e5, e6, e7⟩ := HC.out z hz; clear hz; go_simp; try with_reducible rfl
      try go_frame
      refine' tk 5 ?_ ?_; rotate_left
      · intro z hz; obtain ⟨f0, f1, e0, e1, e2, e3, e4, e5, e6, e7⟩ := HC.out z hz; clear hz; go_simp; try with_reducible rfl
      try go_frame
      have hA := HSy0.out wd (HS5.out.trans (Kept.below Hd.out))
      refine tr 6 (fun K hK => ?_)
      go_simp
      refine hA.mono ?_
      rintro e w6 ⟨rfl, b6⟩
      have Hd6 : Hid (Below w5.heap.size w5 w6) := on2 Hd.out b6
      go_wp2_with fail
      refine hK.out _ _ (Kept.below Hd6.out) (fun hHeld2 => ?_)
      clear hK K hHeld b6 Hd hA; have hHeld := hHeld2; clear hHeld2
      try go_frame
      --M5
      have hB := HDo.out (H5.out.1.on Hd6.out) (i := k) hkl (by show (cs ++ [callS x1 pt]).length ≤ 100000000; rw [List.length_append, List.length_singleton]; have := HCl.out; omega) cd
      refine tr 7 (fun K hK => ?_)
      go_simp
      refine hB.mono ?_
      rintro e w7 ⟨rfl, h7⟩
      have HE7 : Hid (∃ c3 C3, PfE S w w7 p (.slice (some ⟨ga, 0, none⟩) n bk) c3 C3 (doesF (f.1, sk, cs ++ [callS x1 pt]) pt k cd) ∧ Turns (DF p (.slice (some ⟨ga, 0, none⟩) n bk) c) u w7 ∧ (c3.ownBlock = c.ownBlock ∨ ∀ x, c3.ownBlock = some x → u.heap.size ≤ x) ∧ c3.ownBlock ≠ some R ∧ BoxL w7 R [.func (.func g) #[] #[], .func (.func kk) #[.pointer (some ⟨p, 0, none⟩)] #[]]) := by
        obtain ⟨c3, C3, e3, t3, o3⟩ := h7
        have t6 := H5.out.2.1.trans (Turns.below Hd6.out)
        have hR6 := HR5.out.on Hd6.out
        exact ⟨c3, C3, e3, turns_trans t6 H5.out.2.2.1 t3, own_trans t6.size H5.out.2.2.1 o3, own_new o3 H5.out.2.2.2.1 hR6.1, box_turned hR6 t3 HRp.out HRb.out H5.out.2.2.2.1⟩
      have hk7 : Kept (fun y => y = R ∨ y = B) w5 w7 := by
        obtain ⟨c3, C3, e3, t3, o3⟩ := h7
        refine (Kept.below Hd6.out).trans (t3.kept (fun y hy _ hd => ?_))
        rcases hy with rfl | rfl
        · exact hd.elim HRp.out (fun hd => hd.elim HRb.out H5.out.2.2.2.1)
        · exact hd.elim HBp.out.1 (fun hd => hd.elim HBp.out.2 H5.out.2.2.2.2)
      go_wp2_with fail
      refine hK.out _ _ hk7 (fun hHeld2 => ?_)
      clear hK K hHeld hB h7 hk7; have hHeld := hHeld2; clear hHeld2
      try go_frame
      refine' tk 8 ?_ ?_; rotate_left
      · intro z hz; obtain ⟨f0, f1, e0, e1, e2, e3, e4, e5, e6, e7⟩ := HC.out z hz; clear hz; go_simp; try with_reducible rfl
      try go_frame
      refine tz ?_
      clear hHeld
      --M6
      go_wp2_with fail
      go_meet
      exact ⟨rfl, HE7⟩
    case rest =>
    obtain ⟨rfl, hE7⟩ := hcut
    clear HC HSy0 HS5 HR5 HQ5 H5 HBp HB3
    obtain ⟨dp, hdp⟩ : ∃ d, d = doesP pt cd := ⟨_, rfl⟩
    rw [← hdp] at HRn ⊢
    have HCl2 : Hid ((doesF (f.1, sk, cs ++ [callS x1 pt]) pt k cd).2.2.length ≤ f.2.2.length + (k + 1) ∨ ¬ (dp = 0 ∨ dp = 3)) := by
      by_cases h : dp = 0 ∨ dp = 3
      · refine .inl ?_
        have hno : ¬ (pt = 3 ∧ onceP cd ≠ 0) := by
          rintro ⟨rfl, h1⟩
          have e : doesP 3 cd = onceP cd := by unfold doesP; rw [if_neg (by rintro ⟨h, _⟩; exact absurd h (by decide))]
          rw [hdp, e] at h
          rcases h with h | h
          · exact h1 h
          · unfold onceP at h
            by_cases h4 : cd = 4
            · rw [if_pos h4] at h; exact absurd h (by decide)
            · rw [if_neg h4] at h
              by_cases h3 : cd = 3
              · rw [if_pos h3] at h; exact absurd h (by decide)
              · rw [if_neg h3] at h; exact h3 h
        unfold doesF
        rw [if_neg hno]
        show (cs ++ [callS x1 pt]).length ≤ _
        rw [List.length_append, List.length_singleton]; have := HCl.out; omega
      · exact .inr h
    have HFf : Hid ((doesF (f.1, sk, cs ++ [callS x1 pt]) pt k cd).1 = f.1) := rfl
    generalize doesF (f.1, sk, cs ++ [callS x1 pt]) pt k cd = ff at HRn HCl2 HFf hE7
    clear hdp HCl
    --M7
    by_cases h0 : dp = 0
    · have h0b : (dp == 0) = true := by simpa using h0
      have h3b : (dp == 3) = false := by subst h0; rfl
      have HE : Hid (RunG S w u p (.slice (some ⟨ga, 0, none⟩) n bk) c f pt R [.func (.func g) #[] #[], .func (.func kk) #[.pointer (some ⟨p, 0, none⟩)] #[]] (k + 1) wt wc) := by
        obtain ⟨c3, C3, e3, t3, o3, r3, q3⟩ := hE7.out
        refine ⟨ff.2.1, ff.2.2, c3, C3, by rw [← HFf.out]; exact e3, t3, o3, r3, q3, ?_, ?_⟩
        · have h := HRn.out; rw [if_pos h0] at h; rw [HRR.out]; exact h.symm
        · exact HCl2.out.elim id (fun h => absurd (.inl h0) h)
      clear HRn HCl2 hE7 HFf h0
      go_wp2_with fail
      go_roundw
      case rel => exact ⟨k + 1, by omega, by go_num, wt, ev, rfl, hev, HE⟩
      case measure => simp [intOf]; omega
    have h0b : (dp == 0) = false := by simpa using h0
    by_cases h3 : dp = 3
    · have h3b : (dp == 3) = true := by simpa using h3
      have HE : Hid (RunG S w u p (.slice (some ⟨ga, 0, none⟩) n bk) c f pt R [.func (.func g) #[] #[], .func (.func kk) #[.pointer (some ⟨p, 0, none⟩)] #[]] (k + 1) true wc) := by
        obtain ⟨c3, C3, e3, t3, o3, r3, q3⟩ := hE7.out
        refine ⟨ff.2.1, ff.2.2, c3, C3, by rw [← HFf.out]; exact e3, t3, o3, r3, q3, ?_, ?_⟩
        · have h := HRn.out; rw [if_neg h0, if_pos h3] at h; rw [HRR.out]; exact h.symm
        · exact HCl2.out.elim id (fun h => absurd (.inr h3) h)
      clear HRn HCl2 hE7 HFf h0 h3
      go_wp2_with fail
      go_roundw
      case rel => exact ⟨k + 1, by omega, by go_num, true, 3, rfl, rfl, HE⟩
      case measure => simp [intOf]; omega
    have h3b : (dp == 3) = false := by simpa using h3
    have HE : Hid (PfO S w u p (.slice (some ⟨ga, 0, none⟩) n bk) c (f.1, RR.1, RR.2.1) wc ∧ RR.2.2 = dp) := by
      have h := HRn.out; rw [if_neg h0, if_neg h3] at h
      rw [h]
      obtain ⟨c3, C3, e3, t3, o3, r3, q3⟩ := hE7.out
      exact ⟨⟨c3, C3, by rw [← HFf.out]; exact e3, t3, o3⟩, rfl⟩
    clear HRn HCl2 hE7 HFf h0 h3
    go_wp2_with fail
    go_ret
    exact ⟨retI HE.out.2.symm, HE.out.1⟩
end Go.Proofs.YtoacbobchngooaaDoor
