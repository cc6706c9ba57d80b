/- tally.first, lacks, avoids, avoided, why. Condition: the arguments lie as is said of them. tally.lacks, avoids, avoided, why. Condition: the arguments lie as is said of them. -/
import Derived.Test.YtfnafgmengefaaaGreatDoorQ14
namespace Go.Proofs.YtfnafgmengefaaaGreatDoor
open Go.RowKit Go.Maps
set_option linter.unusedSimpArgs false
set_option maxRecDepth 100000

set_option maxHeartbeats 2000000 in
theorem first_calls {w : World} {T : TalD} {ts : List Value} {A A' : Where} {mb N : Nat} {f : Lab → Int} (b1 : Option Addr) (b2 b3 : Nat) (R : List Ask) (key : ByteArray) (z : Bool) (hz : z = true ↔ ∀ d, okL d → f d = 0) (hc : Hid (CntAt w mb N f)) (hT' : Hid (RTally A w ts T)) (hr : Hid (SlAt RReq 3 48 A' w b1 b2 b3 R)) :
    Calls Tryz.prog 60 #[.agg ts.toArray, .agg #[.slice b1 b2 b3, .string key, .map (some mb)]] w fun e w' => e = .returned (.bool (z && matchL T.2.1 R)) ∧ Below w.heap.size w w' := by
  obtain ⟨⟨a1, n1, m1⟩, ⟨a2, n2, m2⟩, ⟨a3, n3, m3⟩, rfl, _, s1, _, _⟩ := hT'.out.out
  simp only at s1 ⊢
  obtain ⟨W2, hW2⟩ : ∃ W, W = (w.alloc (.cells #[.string T.1, .slice a1 n1 m1, .slice a2 n2 m2, .slice a3 n3 m3, .map (some T.2.2.2.2)] 66)).alloc (.cells #[.slice b1 b2 b3, .string key, .map (some mb)] 104) := ⟨_, rfl⟩
  have B2 : Below w.heap.size w W2 := by rw [hW2]; go_grown
  have q0 : BoxL W2 w.heap.size [.string T.1, .slice a1 n1 m1, .slice a2 n2 m2, .slice a3 n3 m3, .map (some T.2.2.2.2)] := by rw [hW2]; exact (BoxL.new w 66 _).on ((Below.refl _ _).alloc (Nat.le_refl _) _)
  have q1 : BoxL W2 (w.heap.size + 1) [.slice b1 b2 b3, .string key, .map (some mb)] := by have h1 := BoxL.new (w.alloc (.cells #[.string T.1, .slice a1 n1 m1, .slice a2 n2 m2, .slice a3 n3 m3, .map (some T.2.2.2.2)] 66)) 104 [.slice b1 b2 b3, .string key, .map (some mb)]; rw [hW2]; simpa using h1
  have c1 := (q0.2 1 _ rfl).1
  have d0 := (q1.2 0 _ rfl).1
  have d2 := (q1.2 2 _ rfl).1
  obtain ⟨c, hlen, hc0⟩ := (hc.out.on B2).len 64 Tryz.underlying64
  have HM := Match_sl a1 n1 m1 A T.2.1 b1 b2 b3 A' R W2 (s1.on RLabel.firm B2) (hr.out.on RReq.firm B2)
  have HB2 : Hid (Below w.heap.size w W2) := B2
  have hcz : (c == 0) = z := by rw [Bool.eq_iff_iff, beq_iff_eq, hc0, hz]
  clear q0 q1 s1 hr hc hT' B2 hc0 hz
  generalize matchL T.2.1 R = mt at HM ⊢
  go_enter Tryz.func60, Tryz.ntmps60
  go_upto_region 1 with fail
  rw [← hW2]
  clear hW2
  cases z
  · go_wp2_with fail
    go_ret
    exact ⟨rfl, HB2.out⟩
  · go_wp2_with fail
    refine HM.mono ?_
    rintro e w3 ⟨rfl, hb3⟩
    have HB3 : Hid (Below w.heap.size w w3) := on2 HB2.out hb3
    clear HM hb3 hlen c1 d0 d2
    go_wp2_with fail
    go_ret
    exact ⟨by simp, HB3.out⟩
end Go.Proofs.YtfnafgmengefaaaGreatDoor
namespace Go.Proofs.YtfnafgmengefaaaGreatDoor
open Go.RowKit Go.Maps
set_option linter.unusedSimpArgs false
set_option maxRecDepth 100000

theorem anyN8 {α : Type} [Inhabited α] {L : List α} {f : α → Bool} (h : ∀ j, j < L.length → f (L.getD j default) = false) : L.any f = false := by
  rw [List.any_eq_false]
  intro x hx
  obtain ⟨i, hi, rfl⟩ := List.mem_iff_getElem.1 hx
  have := h i hi
  rw [List.getD_eq_getElem?_getD, List.getElem?_eq_getElem hi] at this
  simpa using this
theorem anyY8 {α : Type} [Inhabited α] {L : List α} {f : α → Bool} {k : Nat} (hk : k < L.length) (h : f (L.getD k default) = true) : L.any f = true := by
  rw [List.any_eq_true]
  refine ⟨_, List.getElem_mem hk, ?_⟩
  rwa [List.getD_eq_getElem?_getD, List.getElem?_eq_getElem hk] at h
theorem getD_mem8 {α : Type} [Inhabited α] {L : List α} {k : Nat} (hk : k < L.length) : L.getD k default ∈ L := by
  rw [List.getD_eq_getElem?_getD, List.getElem?_eq_getElem hk]; exact List.getElem_mem hk
/-- Does a term lack what it wants, by what is counted? -/
def lkG (P L : List Lab) (g : TermD → Lab → Int) (z : TermD → Bool) (t : TermD) : Bool := !(getL L t.2).2 || (decide (g t (domL L t.2) = 0) && !(z t && matchL P t.1))
def apG (L : List Lab) (g : TermD → Lab → Int) (t : TermD) : Bool := (getL L t.2).2 && decide (0 < g t (domL L t.2))
def otG (L : List Lab) (o : Lab → Int) (l : Lab) : Bool := decide (0 < o l) && ((getL L l.1).2 && decide (0 < o (domL L l.1)))
def whyG (T : TalD) (L : List Lab) (g : TermD → Lab → Int) (z : TermD → Bool) (o : Lab → Int) : Int :=
  if (tNear T).any (fun t => lkG T.2.1 L g z t.1) = true then 9 else if (tApart T).any (fun t => apG L g t.1) = true then 10 else if L.any (otG L o) = true then 11 else 0
set_option maxHeartbeats 4000000 in
theorem tlacks_calls {w : World} {T : TalD} {ts : List Value} {A A' : Where} {N : Nat} {g : TermD → Lab → Int} {oF : Lab → Int} (z : TermD → Bool) (hz : ∀ t ∈ tNear T, (z t.1 = true ↔ ∀ d, okL d → g t.1 d = 0)) (a : Option Addr) (n cap : Nat) (L : List Lab) (hM : Hid (MapsAt w T N g oF)) (hT' : Hid (RTally A w ts T)) (hL : Hid (SlAt RLabel 2 32 A' w a n cap L)) :
    Calls Tryz.prog 48 #[.agg ts.toArray, .slice a n cap] w fun e w' => e = .returned (.bool ((tNear T).any (fun t => lkG T.2.1 L g z t.1))) ∧ Below w.heap.size w w' := by
  have HTA : Hid (RTally A w ts T) := hT'
  obtain ⟨⟨a1, n1, m1⟩, ⟨a2, n2, m2⟩, ⟨a3, n3, m3⟩, rfl, _, s1, s2, s3⟩ := hT'.out.out
  simp only at s1 s2 s3 HTA ⊢
  obtain ⟨W1, hW1⟩ : ∃ W, W = w.alloc (.cells #[.string T.1, .slice a1 n1 m1, .slice a2 n2 m2, .slice a3 n3 m3, .map (some T.2.2.2.2)] 66) := ⟨_, rfl⟩
  have B1 : Below w.heap.size w W1 := by rw [hW1]; go_grown
  have q0 : BoxL W1 w.heap.size [.string T.1, .slice a1 n1 m1, .slice a2 n2 m2, .slice a3 n3 m3, .map (some T.2.2.2.2)] := by rw [hW1]; exact BoxL.new w 66 _
  have hl2 : Hid ((tNear T).length = n2) := s2.1
  have hl3 : Hid ((tApart T).length = n3) := s3.1
  have hll : Hid (L.length = n) := hL.out.1
  have hb2 : n2 < 140737488355328 := by have := s2.2.2.2.1; omega
  have hb3 : n3 < 140737488355328 := by have := s3.2.2.2.1; omega
  have hbn : n < 140737488355328 := by have := hL.out.2.2.2.1; omega
  have HQ : Hid (∀ u, Below W1.heap.size W1 u → BoxL u w.heap.size [.string T.1, .slice a1 n1 m1, .slice a2 n2 m2, .slice a3 n3 m3, .map (some T.2.2.2.2)] ∧ MapsAt u T N g oF ∧ RTally A u [.string T.1, .slice a1 n1 m1, .slice a2 n2 m2, .slice a3 n3 m3, .map (some T.2.2.2.2)] T ∧ SlAt RWish 3 48 A u a2 n2 m2 (tNear T) ∧ SlAt RWish 3 48 A u a3 n3 m3 (tApart T) ∧ SlAt RLabel 2 32 A' u a n cap L ∧ Below w.heap.size w u) := fun u hb =>
    have k := on2 B1 hb
    ⟨q0.on hb, hM.out.below k, RTally.firm.kept HTA.out (Kept.below k), s2.on RWish.firm k, s3.on RWish.firm k, hL.out.on RLabel.firm k, k⟩
  have HZ : Hid (∀ t ∈ tNear T, (z t.1 = true ↔ ∀ d, okL d → g t.1 d = 0)) := hz
  have HOK : Hid (∀ l ∈ L, okL l) := sl_okL hL.out
  have c2 := (q0.2 2 _ rfl).1
  clear hM hT' hL s1 s2 s3 q0 HTA hz
  go_enter Tryz.func48, Tryz.ntmps48
  go_upto_region 1 with fail
  rw [← hW1]
  clear hW1
  go_wp2_with fail
  go_loopw [12] (fun i wr => ∃ k : Nat, k ≤ n2 ∧ i = .int .i64 k ∧ Below W1.heap.size W1 wr ∧ Hid (∀ j, j < k → lkG T.2.1 L g z ((tNear T).getD j default).1 = false)) (fun i _ => n2 - (intOf i).toNat)
  case atStart => exact ⟨0, Nat.zero_le _, rfl, Below.refl _ _, fun j hj => absurd hj (Nat.not_lt_zero _)⟩
  case round =>
    obtain ⟨k, hk, rfl, hbel, hall⟩ := hrel
    obtain ⟨k0, k1, k2, k3, _, k5, k6⟩ := HQ.out wr hbel
    by_cases hlt : k < n2
    ·
      have hin : (tNear T).getD k default ∈ tNear T := getD_mem8 (by rw [hl2.out]; exact hlt)
      have hcl := k1.c _ (List.mem_append.2 (.inl hin))
      have hzk := HZ.out _ hin
      obtain ⟨B, off, rfl, hB, hAB, ws, hr, hv⟩ := k3.get hlt
      obtain ⟨⟨b1, b2, b3⟩, rfl, hreq, hkey⟩ := hr.out
      simp only at hreq hkey hv
      have d0 := hv 0 _ rfl
      have d1 := hv 1 _ rfl
      have d2 := hv 2 _ rfl
      rw [Nat.add_zero] at d0
      have HNo : Hid (lkG T.2.1 L g z ((tNear T).getD k default).1 = false → ∀ j, j < k + 1 → lkG T.2.1 L g z ((tNear T).getD j default).1 = false) := fun h j hj => by
        rcases Nat.lt_succ_iff_lt_or_eq.1 hj with h1 | rfl
        · exact hall.out j h1
        · exact h
      have HYes : Hid (lkG T.2.1 L g z ((tNear T).getD k default).1 = true → (tNear T).any (fun t => lkG T.2.1 L g z t.1) = true) := fun h => anyY8 (f := fun (t : WishD) => lkG T.2.1 L g z t.1) (by rw [hl2.out]; exact hlt) h
      generalize (tNear T).getD k default = t at hcl hzk hreq hkey d0 d1 d2 HNo HYes
      obtain ⟨V, hV⟩ : ∃ V, V = wr.alloc (.cells #[.slice b1 b2 b3, .string t.1.2, .map (some t.2)] 104) := ⟨_, rfl⟩
      have bV : Below wr.heap.size wr V := by rw [hV]; go_grown
      have qw : BoxL V wr.heap.size [.slice b1 b2 b3, .string t.1.2, .map (some t.2)] := by rw [hV]; exact BoxL.new wr 104 _
      have HD := domain_calls a n cap A' L t.1.2 V (k5.on RLabel.firm bV)
      have z1 := (qw.2 1 _ rfl).1
      have HQ2 : Hid (∀ u, Below V.heap.size V u → BoxL u w.heap.size [.string T.1, .slice a1 n1 m1, .slice (some ⟨B, off, none⟩) n2 m2, .slice a3 n3 m3, .map (some T.2.2.2.2)] ∧ BoxL u wr.heap.size [.slice b1 b2 b3, .string t.1.2, .map (some t.2)] ∧ CntAt u t.2 N (g t.1) ∧ RTally A u [.string T.1, .slice a1 n1 m1, .slice (some ⟨B, off, none⟩) n2 m2, .slice a3 n3 m3, .map (some T.2.2.2.2)] T ∧ SlAt RReq 3 48 A u b1 b2 b3 t.1.1 ∧ Below W1.heap.size W1 u) := fun u hb => ⟨(k0.on bV).on hb, qw.on hb, (hcl.on bV).on hb, RTally.firm.kept (RTally.firm.kept k2 (Kept.below bV)) (Kept.below hb), (hreq.on RReq.firm bV).on RReq.firm hb, on2 (on2 hbel bV) hb⟩
      have HOk : Hid ((getL L t.1.2).2 = true → okL (domL L t.1.2)) := dom_ok hkey HOK.out
      have HLk : Hid (lkG T.2.1 L g z t.1 = (!(getL L t.1.2).2 || (decide (g t.1 (domL L t.1.2) = 0) && !(z t.1 && matchL T.2.1 t.1.1)))) := rfl
      have HZk : Hid (z t.1 = true ↔ ∀ d, okL d → g t.1 d = 0) := hzk
      clear hr hv hreq hcl k0 k1 k2 k3 k5 k6 bV qw hzk hall
      generalize lkG T.2.1 L g z t.1 = lk at HNo HYes HLk
      go_upto_region 4 with fail
      rw [← hV]
      clear hV
      go_wp2_with fail
      refine HD.mono ?_
      clear HD z1 d0 d1 d2
      rintro e w3 ⟨rfl, hb3'⟩
      simp only [domL] at HOk HLk
      skip
      cases ht : (getL L t.1.2).2
      ·
        rw [ht] at HLk HOk
        have hlk : lk = true := by rw [HLk.out]; rfl
        have HR := HYes.out hlk
        have HB : Hid (Below w.heap.size w w3) := on2 B1 (HQ2.out w3 hb3').2.2.2.2.2
        clear HQ2 HLk HOk HNo HYes hb3' HZk ht hlk
        generalize (getL L t.1.2).1 = v
        go_wp2_with fail
        go_ret
        exact ⟨(by rw [HR]; try rfl), on2 HB.out (by go_grown)⟩
      ·
        rw [ht] at HLk HOk
        have hok := HOk.out rfl
        obtain ⟨W4, hW4⟩ : ∃ W, W = w3.alloc (.cells #[.string t.1.2, .string (getL L t.1.2).1] 55) := ⟨_, rfl⟩
        have b4 : Below V.heap.size V W4 := by rw [hW4]; exact on2 hb3' (by go_grown)
        have ql : BoxL W4 w3.heap.size [.string t.1.2, .string (getL L t.1.2).1] := by rw [hW4]; exact BoxL.new w3 55 _
        obtain ⟨j0, j1, j2, j3, j4, j5⟩ := HQ2.out W4 b4
        have hlk := j2.look 64 Tryz.underlying64 hok
        have y0 := (j0.2 0 _ rfl).1; have y1 := (j0.2 1 _ rfl).1; have y2 := (j0.2 2 _ rfl).1; have y3 := (j0.2 3 _ rfl).1; have y4 := (j0.2 4 _ rfl).1
        have x0 := (j1.2 0 _ rfl).1; have x1 := (j1.2 1 _ rfl).1; have x2 := (j1.2 2 _ rfl).1
        have l0 := (ql.2 0 _ rfl).1; have l1 := (ql.2 1 _ rfl).1
        have HFi := first_calls b1 b2 b3 t.1.1 t.1.2 (z t.1) HZk.out j2 j3 j4
        have HB4 : Hid (Below W1.heap.size W1 W4) := j5
        clear HQ2 HOk j0 j1 j2 j3 j4 j5 ql b4 hb3' HZk ht hok
        simp only [Bool.not_true, Bool.false_or] at HLk
        have HLa : Hid (g t.1 (t.1.2, (getL L t.1.2).1) = 0 → lk = !(z t.1 && matchL T.2.1 t.1.1)) := fun h => by rw [HLk.out]; simp [h]
        have HLb : Hid (¬ g t.1 (t.1.2, (getL L t.1.2).1) = 0 → lk = false) := fun h => by rw [HLk.out]; simp [h]
        clear HLk
        generalize (getL L t.1.2).1 = v at hW4 hlk HLa HLb l1 ⊢
        generalize g t.1 (t.1.2, v) = c at hlk HLa HLb
        generalize (z t.1 && matchL T.2.1 t.1.1) = fb at HFi HLa
        go_upto_region 5 with fail
        rw [← hW4]
        clear hW4
        by_cases hc0 : c = 0
        ·
          have hc1 : (c == 0) = true := by simpa using hc0
          have HL2 : Hid (lk = !fb) := HLa.out hc0
          clear HLa HLb hc0
          go_wp2_with fail
          refine HFi.mono ?_
          rintro e w5 ⟨rfl, hb5⟩
          have hbw : Below W1.heap.size W1 w5 := on2 HB4.out hb5
          clear HFi hlk y0 y1 y2 y3 y4 x0 x1 x2 l0 l1 hb5
          cases fb
          ·
            have HR := HYes.out HL2.out
            have HB : Hid (Below w.heap.size w w5) := on2 B1 hbw
            clear HL2 HNo HYes HB4
            go_wp2_with fail
            go_ret
            exact ⟨(by rw [HR]; try rfl), HB.out⟩
          ·
            have HN := HNo.out HL2.out
            clear HL2 HNo HYes HB4
            go_wp2_with fail
            go_roundw
            case rel => exact ⟨k + 1, by omega, by go_num, hbw, HN⟩
            case measure => simp [intOf]; omega
        ·
          have hc1 : (c == 0) = false := by simpa using hc0
          have HN := HNo.out (HLb.out hc0)
          clear HLa HLb hc0 HNo HYes HFi
          have hbw := HB4.out
          go_wp2_with fail
          go_roundw
          case rel => exact ⟨k + 1, by omega, by go_num, hbw, HN⟩
          case measure => simp [intOf]; omega
    ·
      have HR : Hid ((tNear T).any (fun t => lkG T.2.1 L g z t.1) = false) := anyN8 (f := fun (t : WishD) => lkG T.2.1 L g z t.1) (fun j hj => hall.out j (by have := hl2.out; omega))
      have HB : Hid (Below w.heap.size w wr) := k6
      clear k0 k1 k2 k3 k5 k6 hall
      go_wp2_with fail
      go_ret
      exact ⟨(by rw [HR.out]; try rfl), HB.out⟩
set_option maxHeartbeats 4000000 in
theorem tavoids_calls {w : World} {T : TalD} {ts : List Value} {A A' : Where} {N : Nat} {g : TermD → Lab → Int} {oF : Lab → Int} (z : TermD → Bool) (hz : ∀ t ∈ tNear T, (z t.1 = true ↔ ∀ d, okL d → g t.1 d = 0)) (a : Option Addr) (n cap : Nat) (L : List Lab) (hM : Hid (MapsAt w T N g oF)) (hT' : Hid (RTally A w ts T)) (hL : Hid (SlAt RLabel 2 32 A' w a n cap L)) :
    Calls Tryz.prog 49 #[.agg ts.toArray, .slice a n cap] w fun e w' => e = .returned (.bool ((tApart T).any (fun t => apG L g t.1))) ∧ Below w.heap.size w w' := by
  have HTA : Hid (RTally A w ts T) := hT'
  obtain ⟨⟨a1, n1, m1⟩, ⟨a2, n2, m2⟩, ⟨a3, n3, m3⟩, rfl, _, s1, s2, s3⟩ := hT'.out.out
  simp only at s1 s2 s3 HTA ⊢
  obtain ⟨W1, hW1⟩ : ∃ W, W = w.alloc (.cells #[.string T.1, .slice a1 n1 m1, .slice a2 n2 m2, .slice a3 n3 m3, .map (some T.2.2.2.2)] 66) := ⟨_, rfl⟩
  have B1 : Below w.heap.size w W1 := by rw [hW1]; go_grown
  have q0 : BoxL W1 w.heap.size [.string T.1, .slice a1 n1 m1, .slice a2 n2 m2, .slice a3 n3 m3, .map (some T.2.2.2.2)] := by rw [hW1]; exact BoxL.new w 66 _
  have hl2 : Hid ((tNear T).length = n2) := s2.1
  have hl3 : Hid ((tApart T).length = n3) := s3.1
  have hll : Hid (L.length = n) := hL.out.1
  have hb2 : n2 < 140737488355328 := by have := s2.2.2.2.1; omega
  have hb3 : n3 < 140737488355328 := by have := s3.2.2.2.1; omega
  have hbn : n < 140737488355328 := by have := hL.out.2.2.2.1; omega
  have HQ : Hid (∀ u, Below W1.heap.size W1 u → BoxL u w.heap.size [.string T.1, .slice a1 n1 m1, .slice a2 n2 m2, .slice a3 n3 m3, .map (some T.2.2.2.2)] ∧ MapsAt u T N g oF ∧ RTally A u [.string T.1, .slice a1 n1 m1, .slice a2 n2 m2, .slice a3 n3 m3, .map (some T.2.2.2.2)] T ∧ SlAt RWish 3 48 A u a2 n2 m2 (tNear T) ∧ SlAt RWish 3 48 A u a3 n3 m3 (tApart T) ∧ SlAt RLabel 2 32 A' u a n cap L ∧ Below w.heap.size w u) := fun u hb =>
    have k := on2 B1 hb
    ⟨q0.on hb, hM.out.below k, RTally.firm.kept HTA.out (Kept.below k), s2.on RWish.firm k, s3.on RWish.firm k, hL.out.on RLabel.firm k, k⟩
  have HZ : Hid (∀ t ∈ tNear T, (z t.1 = true ↔ ∀ d, okL d → g t.1 d = 0)) := hz
  have HOK : Hid (∀ l ∈ L, okL l) := sl_okL hL.out
  have c3 := (q0.2 3 _ rfl).1
  clear hM hT' hL s1 s2 s3 q0 HTA hz HZ
  go_enter Tryz.func49, Tryz.ntmps49
  go_upto_region 1 with fail
  rw [← hW1]
  clear hW1
  go_wp2_with fail
  go_loopw [10] (fun i wr => ∃ k : Nat, k ≤ n3 ∧ i = .int .i64 k ∧ Below W1.heap.size W1 wr ∧ Hid (∀ j, j < k → apG L g ((tApart T).getD j default).1 = false)) (fun i _ => n3 - (intOf i).toNat)
  case atStart => exact ⟨0, Nat.zero_le _, rfl, Below.refl _ _, fun j hj => absurd hj (Nat.not_lt_zero _)⟩
  case round =>
    obtain ⟨k, hk, rfl, hbel, hall⟩ := hrel
    obtain ⟨k0, k1, k2, _, k3, k5, k6⟩ := HQ.out wr hbel
    by_cases hlt : k < n3
    ·
      have hin : (tApart T).getD k default ∈ tApart T := getD_mem8 (by rw [hl3.out]; exact hlt)
      have hcl := k1.c _ (List.mem_append.2 (.inr hin))
      obtain ⟨B, off, rfl, hB, hAB, ws, hr, hv⟩ := k3.get hlt
      obtain ⟨⟨b1, b2, b3⟩, rfl, hreq, hkey⟩ := hr.out
      simp only at hreq hkey hv
      have d0 := hv 0 _ rfl
      have d1 := hv 1 _ rfl
      have d2 := hv 2 _ rfl
      rw [Nat.add_zero] at d0
      have HNo : Hid (apG L g ((tApart T).getD k default).1 = false → ∀ j, j < k + 1 → apG L g ((tApart T).getD j default).1 = false) := fun h j hj => by
        rcases Nat.lt_succ_iff_lt_or_eq.1 hj with h1 | rfl
        · exact hall.out j h1
        · exact h
      have HYes : Hid (apG L g ((tApart T).getD k default).1 = true → (tApart T).any (fun t => apG L g t.1) = true) := fun h => anyY8 (f := fun (t : WishD) => apG L g t.1) (by rw [hl3.out]; exact hlt) h
      generalize (tApart T).getD k default = t at hcl hreq hkey d0 d1 d2 HNo HYes
      obtain ⟨V, hV⟩ : ∃ V, V = wr.alloc (.cells #[.slice b1 b2 b3, .string t.1.2, .map (some t.2)] 104) := ⟨_, rfl⟩
      have bV : Below wr.heap.size wr V := by rw [hV]; go_grown
      have qw : BoxL V wr.heap.size [.slice b1 b2 b3, .string t.1.2, .map (some t.2)] := by rw [hV]; exact BoxL.new wr 104 _
      have HD := dhere_calls (hcl.on bV) a n cap A' L t.1.2 (k5.on RLabel.firm bV) hkey
      have z1 := (qw.2 1 _ rfl).1
      have z2 := (qw.2 2 _ rfl).1
      have HbV : Hid (Below W1.heap.size W1 V) := on2 hbel bV
      have HLk : Hid (apG L g t.1 = ((getL L t.1.2).2 && decide (0 < g t.1 (domL L t.1.2)))) := rfl
      rw [← HLk.out] at HD
      clear hr hv hreq hcl k0 k1 k2 k3 k5 k6 bV qw hall HLk
      generalize apG L g t.1 = lk at HNo HYes HD
      go_upto_region 4 with fail
      rw [← hV]
      clear hV
      go_wp2_with fail
      refine HD.mono ?_
      clear HD z1 z2 d0 d1 d2
      rintro e w3 ⟨rfl, hb3'⟩
      have hbw : Below W1.heap.size W1 w3 := on2 HbV.out hb3'
      clear hb3'
      cases lk
      ·
        have HN := HNo.out rfl
        clear HNo HYes HbV
        go_wp2_with fail
        go_roundw
        case rel => exact ⟨k + 1, by omega, by go_num, hbw, HN⟩
        case measure => simp [intOf]; omega
      ·
        have HR := HYes.out rfl
        have HB : Hid (Below w.heap.size w w3) := on2 B1 hbw
        clear HNo HYes HbV
        go_wp2_with fail
        go_ret
        exact ⟨(by rw [HR]; try rfl), HB.out⟩
    ·
      have HR : Hid ((tApart T).any (fun t => apG L g t.1) = false) := anyN8 (f := fun (t : WishD) => apG L g t.1) (fun j hj => hall.out j (by have := hl3.out; omega))
      have HB : Hid (Below w.heap.size w wr) := k6
      clear k0 k1 k2 k3 k5 k6 hall
      go_wp2_with fail
      go_ret
      exact ⟨(by rw [HR.out]; try rfl), HB.out⟩
set_option maxHeartbeats 4000000 in
theorem tavoided_calls {w : World} {T : TalD} {ts : List Value} {A A' : Where} {N : Nat} {g : TermD → Lab → Int} {oF : Lab → Int} (z : TermD → Bool) (hz : ∀ t ∈ tNear T, (z t.1 = true ↔ ∀ d, okL d → g t.1 d = 0)) (a : Option Addr) (n cap : Nat) (L : List Lab) (hM : Hid (MapsAt w T N g oF)) (hT' : Hid (RTally A w ts T)) (hL : Hid (SlAt RLabel 2 32 A' w a n cap L)) :
    Calls Tryz.prog 50 #[.agg ts.toArray, .slice a n cap] w fun e w' => e = .returned (.bool (L.any (otG L oF))) ∧ Below w.heap.size w w' := by
  have HTA : Hid (RTally A w ts T) := hT'
  obtain ⟨⟨a1, n1, m1⟩, ⟨a2, n2, m2⟩, ⟨a3, n3, m3⟩, rfl, _, s1, s2, s3⟩ := hT'.out.out
  simp only at s1 s2 s3 HTA ⊢
  obtain ⟨W1, hW1⟩ : ∃ W, W = w.alloc (.cells #[.string T.1, .slice a1 n1 m1, .slice a2 n2 m2, .slice a3 n3 m3, .map (some T.2.2.2.2)] 66) := ⟨_, rfl⟩
  have B1 : Below w.heap.size w W1 := by rw [hW1]; go_grown
  have q0 : BoxL W1 w.heap.size [.string T.1, .slice a1 n1 m1, .slice a2 n2 m2, .slice a3 n3 m3, .map (some T.2.2.2.2)] := by rw [hW1]; exact BoxL.new w 66 _
  have hl2 : Hid ((tNear T).length = n2) := s2.1
  have hl3 : Hid ((tApart T).length = n3) := s3.1
  have hll : Hid (L.length = n) := hL.out.1
  have hb2 : n2 < 140737488355328 := by have := s2.2.2.2.1; omega
  have hb3 : n3 < 140737488355328 := by have := s3.2.2.2.1; omega
  have hbn : n < 140737488355328 := by have := hL.out.2.2.2.1; omega
  have HQ : Hid (∀ u, Below W1.heap.size W1 u → BoxL u w.heap.size [.string T.1, .slice a1 n1 m1, .slice a2 n2 m2, .slice a3 n3 m3, .map (some T.2.2.2.2)] ∧ MapsAt u T N g oF ∧ RTally A u [.string T.1, .slice a1 n1 m1, .slice a2 n2 m2, .slice a3 n3 m3, .map (some T.2.2.2.2)] T ∧ SlAt RWish 3 48 A u a2 n2 m2 (tNear T) ∧ SlAt RWish 3 48 A u a3 n3 m3 (tApart T) ∧ SlAt RLabel 2 32 A' u a n cap L ∧ Below w.heap.size w u) := fun u hb =>
    have k := on2 B1 hb
    ⟨q0.on hb, hM.out.below k, RTally.firm.kept HTA.out (Kept.below k), s2.on RWish.firm k, s3.on RWish.firm k, hL.out.on RLabel.firm k, k⟩
  have HZ : Hid (∀ t ∈ tNear T, (z t.1 = true ↔ ∀ d, okL d → g t.1 d = 0)) := hz
  have HOK : Hid (∀ l ∈ L, okL l) := sl_okL hL.out
  clear hM hT' hL s1 s2 s3 q0 HTA hz HZ
  go_enter Tryz.func50, Tryz.ntmps50
  go_upto_region 1 with fail
  rw [← hW1]
  clear hW1
  go_wp2_with fail
  go_loopw [9] (fun i wr => ∃ k : Nat, k ≤ n ∧ i = .int .i64 k ∧ Below W1.heap.size W1 wr ∧ Hid (∀ j, j < k → otG L oF (L.getD j default) = false)) (fun i _ => n - (intOf i).toNat)
  case atStart => exact ⟨0, Nat.zero_le _, rfl, Below.refl _ _, fun j hj => absurd hj (Nat.not_lt_zero _)⟩
  case round =>
    obtain ⟨k, hk, rfl, hbel, hall⟩ := hrel
    obtain ⟨k0, k1, k2, _, _, k5, k6⟩ := HQ.out wr hbel
    by_cases hlt : k < n
    ·
      obtain ⟨B, off, rfl, hB, hAB, ws, hr, hv⟩ := k5.get hlt
      obtain ⟨rfl, hok1, hok2⟩ := hr.out
      have d0 := hv 0 _ rfl
      have d1 := hv 1 _ rfl
      rw [Nat.add_zero] at d0
      have HNo : Hid (otG L oF (L.getD k default) = false → ∀ j, j < k + 1 → otG L oF (L.getD j default) = false) := fun h j hj => by
        rcases Nat.lt_succ_iff_lt_or_eq.1 hj with h1 | rfl
        · exact hall.out j h1
        · exact h
      have HYes : Hid (otG L oF (L.getD k default) = true → L.any (otG L oF) = true) := fun h => anyY8 (by rw [hll.out]; exact hlt) h
      generalize L.getD k default = l at hok1 hok2 d0 d1 HNo HYes
      obtain ⟨V, hV⟩ : ∃ V, V = wr.alloc (.cells #[.string l.1, .string l.2] 55) := ⟨_, rfl⟩
      have bV : Below wr.heap.size wr V := by rw [hV]; go_grown
      have qw : BoxL V wr.heap.size [.string l.1, .string l.2] := by rw [hV]; exact BoxL.new wr 55 _
      have HD := dhere_calls (k1.o.on bV) _ n cap A' L l.1 (k5.on RLabel.firm bV) hok1
      have hlk := (k1.o.on bV).look 64 Tryz.underlying64 (d := l) ⟨hok1, hok2⟩
      have z0 := (qw.2 0 _ rfl).1
      have z1 := (qw.2 1 _ rfl).1
      have y4 := ((k0.on bV).2 4 _ rfl).1
      have HbV : Hid (Below W1.heap.size W1 V) := on2 hbel bV
      have HLk : Hid (otG L oF l = (decide (0 < oF l) && ((getL L l.1).2 && decide (0 < oF (domL L l.1))))) := rfl
      clear hr hv k0 k1 k2 k5 k6 bV qw hall
      generalize otG L oF l = lk at HNo HYes HLk
      generalize ((getL L l.1).2 && decide (0 < oF (domL L l.1))) = hb at HD HLk
      obtain ⟨pb, hpb⟩ : ∃ pb, decide (0 < oF l) = pb := ⟨_, rfl⟩
      rw [hpb] at HLk
      generalize hoc : oF l = c at hlk hpb
      clear hoc
      go_upto_region 4 with fail
      rw [← hV]
      clear hV
      cases pb
      ·
        have HN := HNo.out (by rw [HLk.out]; rfl)
        have hbw := HbV.out
        clear HNo HYes HLk HD
        go_wp2_with fail
        go_roundw
        case rel => exact ⟨k + 1, by omega, by go_num, hbw, HN⟩
        case measure => simp [intOf]; omega
      ·
        go_wp2_with fail
        refine HD.mono ?_
        clear HD hlk z0 z1 y4 d0 d1
        rintro e w3 ⟨rfl, hb3'⟩
        have hbw : Below W1.heap.size W1 w3 := on2 HbV.out hb3'
        clear hb3'
        cases hb
        ·
          have HN := HNo.out (by rw [HLk.out]; rfl)
          clear HNo HYes HbV HLk
          go_wp2_with fail
          go_roundw
          case rel => exact ⟨k + 1, by omega, by go_num, hbw, HN⟩
          case measure => simp [intOf]; omega
        ·
          have HR := HYes.out (by rw [HLk.out]; rfl)
          have HB : Hid (Below w.heap.size w w3) := on2 B1 hbw
          clear HNo HYes HbV HLk
          go_wp2_with fail
          go_ret
          exact ⟨(by rw [HR]; try rfl), HB.out⟩
    ·
      have HR : Hid (L.any (otG L oF) = false) := anyN8 (fun j hj => hall.out j (by have := hll.out; omega))
      have HB : Hid (Below w.heap.size w wr) := k6
      clear k0 k1 k2 k5 k6 hall
      go_wp2_with fail
      go_ret
      exact ⟨(by rw [HR.out]; try rfl), HB.out⟩
end Go.Proofs.YtfnafgmengefaaaGreatDoor
