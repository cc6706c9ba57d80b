/- tally.lacks, avoids, avoided, why. Condition: the arguments lie as is said of them. tally.why and near.Check tell what is counted. Condition: the arguments lie as is said of them; few enough terms. -/
import Derived.Test.YtfnafgmengefaaaDoorQ13
import Derived.Test.YtfnafgmengefaaaDoorQ10
namespace Go.Proofs.YtfnafgmengefaaaDoor
open Go.RowKit Go.Maps
set_option linter.unusedSimpArgs false
set_option maxRecDepth 100000

theorem anyN8 {α : Type} [Inhabited α] {L : List α} {f : α → Bool} (h : ∀ j, j < L.length → f (L.getD j default) = false) : L.any f = false := by
  rw [List.any_eq_false]
  intro x hx
  obtain ⟨i, hi, rfl⟩ := List.mem_iff_getElem.1 hx
  have := h i hi
  rw [List.getD_eq_getElem?_getD, List.getElem?_eq_getElem hi] at this
  simpa using this
theorem anyY8 {α : Type} [Inhabited α] {L : List α} {f : α → Bool} {k : Nat} (hk : k < L.length) (h : f (L.getD k default) = true) : L.any f = true := by
  rw [List.any_eq_true]
  refine ⟨_, List.getElem_mem hk, ?_⟩
  rwa [List.getD_eq_getElem?_getD, List.getElem?_eq_getElem hk] at h
theorem getD_mem8 {α : Type} [Inhabited α] {L : List α} {k : Nat} (hk : k < L.length) : L.getD k default ∈ L := by
  rw [List.getD_eq_getElem?_getD, List.getElem?_eq_getElem hk]; exact List.getElem_mem hk
/-- Does a term lack what it wants, by what is counted? -/
def lkG (P L : List Lab) (g : TermD → Lab → Int) (z : TermD → Bool) (t : TermD) : Bool := !(getL L t.2).2 || (decide (g t (domL L t.2) = 0) && !(z t && matchL P t.1))
def apG (L : List Lab) (g : TermD → Lab → Int) (t : TermD) : Bool := (getL L t.2).2 && decide (0 < g t (domL L t.2))
def otG (L : List Lab) (o : Lab → Int) (l : Lab) : Bool := decide (0 < o l) && ((getL L l.1).2 && decide (0 < o (domL L l.1)))
def whyG (T : TalD) (L : List Lab) (g : TermD → Lab → Int) (z : TermD → Bool) (o : Lab → Int) : Int :=
  if (tNear T).any (fun t => lkG T.2.1 L g z t.1) = true then 9 else if (tApart T).any (fun t => apG L g t.1) = true then 10 else if L.any (otG L o) = true then 11 else 0
set_option maxHeartbeats 4000000 in
theorem tlacks_calls {w : World} {T : TalD} {ts : List Value} {A A' : Where} {N : Nat} {g : TermD → Lab → Int} {oF : Lab → Int} (z : TermD → Bool) (hz : ∀ t ∈ tNear T, (z t.1 = true ↔ ∀ d, okL d → g t.1 d = 0)) (a : Option Addr) (n cap : Nat) (L : List Lab) (hM : Hid (MapsAt w T N g oF)) (hT' : Hid (RTally A w ts T)) (hL : Hid (SlAt RLabel 2 32 A' w a n cap L)) :
    Calls Tryd.prog 32 #[.agg ts.toArray, .slice a n cap] w fun e w' => e = .returned (.bool ((tNear T).any (fun t => lkG T.2.1 L g z t.1))) ∧ Below w.heap.size w w' := by
  have HTA : Hid (RTally A w ts T) := hT'
  obtain ⟨⟨a1, n1, m1⟩, ⟨a2, n2, m2⟩, ⟨a3, n3, m3⟩, rfl, _, s1, s2, s3⟩ := hT'.out.out
  simp only at s1 s2 s3 HTA ⊢
  obtain ⟨W1, hW1⟩ : ∃ W, W = w.alloc (.cells #[.string T.1, .slice a1 n1 m1, .slice a2 n2 m2, .slice a3 n3 m3, .map (some T.2.2.2.2)] 51) := ⟨_, rfl⟩
  have B1 : Below w.heap.size w W1 := by rw [hW1]; go_grown
  have q0 : BoxL W1 w.heap.size [.string T.1, .slice a1 n1 m1, .slice a2 n2 m2, .slice a3 n3 m3, .map (some T.2.2.2.2)] := by rw [hW1]; exact BoxL.new w 51 _
  have hl2 : Hid ((tNear T).length = n2) := s2.1
  have hl3 : Hid ((tApart T).length = n3) := s3.1
  have hll : Hid (L.length = n) := hL.out.1
  have hb2 : n2 < 140737488355328 := by have := s2.2.2.2.1; omega
  have hb3 : n3 < 140737488355328 := by have := s3.2.2.2.1; omega
  have hbn : n < 140737488355328 := by have := hL.out.2.2.2.1; omega
  have HQ : Hid (∀ u, Below W1.heap.size W1 u → BoxL u w.heap.size [.string T.1, .slice a1 n1 m1, .slice a2 n2 m2, .slice a3 n3 m3, .map (some T.2.2.2.2)] ∧ MapsAt u T N g oF ∧ RTally A u [.string T.1, .slice a1 n1 m1, .slice a2 n2 m2, .slice a3 n3 m3, .map (some T.2.2.2.2)] T ∧ SlAt RWish 3 48 A u a2 n2 m2 (tNear T) ∧ SlAt RWish 3 48 A u a3 n3 m3 (tApart T) ∧ SlAt RLabel 2 32 A' u a n cap L ∧ Below w.heap.size w u) := fun u hb =>
    have k := on2 B1 hb
    ⟨q0.on hb, hM.out.below k, RTally.firm.kept HTA.out (Kept.below k), s2.on RWish.firm k, s3.on RWish.firm k, hL.out.on RLabel.firm k, k⟩
  have HZ : Hid (∀ t ∈ tNear T, (z t.1 = true ↔ ∀ d, okL d → g t.1 d = 0)) := hz
  have HOK : Hid (∀ l ∈ L, okL l) := sl_okL hL.out
  have c2 := (q0.2 2 _ rfl).1
  clear hM hT' hL s1 s2 s3 q0 HTA hz
  go_enter Tryd.func32, Tryd.ntmps32
  go_upto_region 1 with fail
  rw [← hW1]
  clear hW1
  go_wp2_with fail
  go_loopw [12] (fun i wr => ∃ k : Nat, k ≤ n2 ∧ i = .int .i64 k ∧ Below W1.heap.size W1 wr ∧ Hid (∀ j, j < k → lkG T.2.1 L g z ((tNear T).getD j default).1 = false)) (fun i _ => n2 - (intOf i).toNat)
  case atStart => exact ⟨0, Nat.zero_le _, rfl, Below.refl _ _, fun j hj => absurd hj (Nat.not_lt_zero _)⟩
  case round =>
    obtain ⟨k, hk, rfl, hbel, hall⟩ := hrel
    obtain ⟨k0, k1, k2, k3, _, k5, k6⟩ := HQ.out wr hbel
    by_cases hlt : k < n2
    ·
      have hin : (tNear T).getD k default ∈ tNear T := getD_mem8 (by rw [hl2.out]; exact hlt)
      have hcl := k1.c _ (List.mem_append.2 (.inl hin))
      have hzk := HZ.out _ hin
      obtain ⟨B, off, rfl, hB, hAB, ws, hr, hv⟩ := k3.get hlt
      obtain ⟨⟨b1, b2, b3⟩, rfl, hreq, hkey⟩ := hr.out
      simp only at hreq hkey hv
      have d0 := hv 0 _ rfl
      have d1 := hv 1 _ rfl
      have d2 := hv 2 _ rfl
      rw [Nat.add_zero] at d0
      have HNo : Hid (lkG T.2.1 L g z ((tNear T).getD k default).1 = false → ∀ j, j < k + 1 → lkG T.2.1 L g z ((tNear T).getD j default).1 = false) := fun h j hj => by
        rcases Nat.lt_succ_iff_lt_or_eq.1 hj with h1 | rfl
        · exact hall.out j h1
        · exact h
      have HYes : Hid (lkG T.2.1 L g z ((tNear T).getD k default).1 = true → (tNear T).any (fun t => lkG T.2.1 L g z t.1) = true) := fun h => anyY8 (f := fun (t : WishD) => lkG T.2.1 L g z t.1) (by rw [hl2.out]; exact hlt) h
      generalize (tNear T).getD k default = t at hcl hzk hreq hkey d0 d1 d2 HNo HYes
      obtain ⟨V, hV⟩ : ∃ V, V = wr.alloc (.cells #[.slice b1 b2 b3, .string t.1.2, .map (some t.2)] 80) := ⟨_, rfl⟩
      have bV : Below wr.heap.size wr V := by rw [hV]; go_grown
      have qw : BoxL V wr.heap.size [.slice b1 b2 b3, .string t.1.2, .map (some t.2)] := by rw [hV]; exact BoxL.new wr 80 _
      have HD := domain_calls a n cap A' L t.1.2 V (k5.on RLabel.firm bV)
      have z1 := (qw.2 1 _ rfl).1
      have HQ2 : Hid (∀ u, Below V.heap.size V u → BoxL u w.heap.size [.string T.1, .slice a1 n1 m1, .slice (some ⟨B, off, none⟩) n2 m2, .slice a3 n3 m3, .map (some T.2.2.2.2)] ∧ BoxL u wr.heap.size [.slice b1 b2 b3, .string t.1.2, .map (some t.2)] ∧ CntAt u t.2 N (g t.1) ∧ RTally A u [.string T.1, .slice a1 n1 m1, .slice (some ⟨B, off, none⟩) n2 m2, .slice a3 n3 m3, .map (some T.2.2.2.2)] T ∧ SlAt RReq 3 48 A u b1 b2 b3 t.1.1 ∧ Below W1.heap.size W1 u) := fun u hb => ⟨(k0.on bV).on hb, qw.on hb, (hcl.on bV).on hb, RTally.firm.kept (RTally.firm.kept k2 (Kept.below bV)) (Kept.below hb), (hreq.on RReq.firm bV).on RReq.firm hb, on2 (on2 hbel bV) hb⟩
      have HOk : Hid ((getL L t.1.2).2 = true → okL (domL L t.1.2)) := dom_ok hkey HOK.out
      have HLk : Hid (lkG T.2.1 L g z t.1 = (!(getL L t.1.2).2 || (decide (g t.1 (domL L t.1.2) = 0) && !(z t.1 && matchL T.2.1 t.1.1)))) := rfl
      have HZk : Hid (z t.1 = true ↔ ∀ d, okL d → g t.1 d = 0) := hzk
      clear hr hv hreq hcl k0 k1 k2 k3 k5 k6 bV qw hzk hall
      generalize lkG T.2.1 L g z t.1 = lk at HNo HYes HLk
      go_upto_region 4 with fail
      rw [← hV]
      clear hV
      go_wp2_with fail
      refine HD.mono ?_
      clear HD z1 d0 d1 d2
      rintro e w3 ⟨rfl, hb3'⟩
      simp only [domL] at HOk HLk
      skip
      cases ht : (getL L t.1.2).2
      ·
        rw [ht] at HLk HOk
        have hlk : lk = true := by rw [HLk.out]; rfl
        have HR := HYes.out hlk
        have HB : Hid (Below w.heap.size w w3) := on2 B1 (HQ2.out w3 hb3').2.2.2.2.2
        clear HQ2 HLk HOk HNo HYes hb3' HZk ht hlk
        generalize (getL L t.1.2).1 = v
        go_wp2_with fail
        go_ret
        exact ⟨(by rw [HR]; try rfl), on2 HB.out (by go_grown)⟩
      ·
        rw [ht] at HLk HOk
        have hok := HOk.out rfl
        obtain ⟨W4, hW4⟩ : ∃ W, W = w3.alloc (.cells #[.string t.1.2, .string (getL L t.1.2).1] 62) := ⟨_, rfl⟩
        have b4 : Below V.heap.size V W4 := by rw [hW4]; exact on2 hb3' (by go_grown)
        have ql : BoxL W4 w3.heap.size [.string t.1.2, .string (getL L t.1.2).1] := by rw [hW4]; exact BoxL.new w3 62 _
        obtain ⟨j0, j1, j2, j3, j4, j5⟩ := HQ2.out W4 b4
        have hlk := j2.look 49 Tryd.underlying49 hok
        have y0 := (j0.2 0 _ rfl).1; have y1 := (j0.2 1 _ rfl).1; have y2 := (j0.2 2 _ rfl).1; have y3 := (j0.2 3 _ rfl).1; have y4 := (j0.2 4 _ rfl).1
        have x0 := (j1.2 0 _ rfl).1; have x1 := (j1.2 1 _ rfl).1; have x2 := (j1.2 2 _ rfl).1
        have l0 := (ql.2 0 _ rfl).1; have l1 := (ql.2 1 _ rfl).1
        have HFi := first_calls b1 b2 b3 t.1.1 t.1.2 (z t.1) HZk.out j2 j3 j4
        have HB4 : Hid (Below W1.heap.size W1 W4) := j5
        clear HQ2 HOk j0 j1 j2 j3 j4 j5 ql b4 hb3' HZk ht hok
        simp only [Bool.not_true, Bool.false_or] at HLk
        have HLa : Hid (g t.1 (t.1.2, (getL L t.1.2).1) = 0 → lk = !(z t.1 && matchL T.2.1 t.1.1)) := fun h => by rw [HLk.out]; simp [h]
        have HLb : Hid (¬ g t.1 (t.1.2, (getL L t.1.2).1) = 0 → lk = false) := fun h => by rw [HLk.out]; simp [h]
        clear HLk
        generalize (getL L t.1.2).1 = v at hW4 hlk HLa HLb l1 ⊢
        generalize g t.1 (t.1.2, v) = c at hlk HLa HLb
        generalize (z t.1 && matchL T.2.1 t.1.1) = fb at HFi HLa
        go_upto_region 5 with fail
        rw [← hW4]
        clear hW4
        by_cases hc0 : c = 0
        ·
          have hc1 : (c == 0) = true := by simpa using hc0
          have HL2 : Hid (lk = !fb) := HLa.out hc0
          clear HLa HLb hc0
          go_wp2_with fail
          refine HFi.mono ?_
          rintro e w5 ⟨rfl, hb5⟩
          have hbw : Below W1.heap.size W1 w5 := on2 HB4.out hb5
          clear HFi hlk y0 y1 y2 y3 y4 x0 x1 x2 l0 l1 hb5
          cases fb
          ·
            have HR := HYes.out HL2.out
            have HB : Hid (Below w.heap.size w w5) := on2 B1 hbw
            clear HL2 HNo HYes HB4
            go_wp2_with fail
            go_ret
            exact ⟨(by rw [HR]; try rfl), HB.out⟩
          ·
            have HN := HNo.out HL2.out
            clear HL2 HNo HYes HB4
            go_wp2_with fail
            go_roundw
            case rel => exact ⟨k + 1, by omega, by go_num, hbw, HN⟩
            case measure => simp [intOf]; omega
        ·
          have hc1 : (c == 0) = false := by simpa using hc0
          have HN := HNo.out (HLb.out hc0)
          clear HLa HLb hc0 HNo HYes HFi
          have hbw := HB4.out
          go_wp2_with fail
          go_roundw
          case rel => exact ⟨k + 1, by omega, by go_num, hbw, HN⟩
          case measure => simp [intOf]; omega
    ·
      have HR : Hid ((tNear T).any (fun t => lkG T.2.1 L g z t.1) = false) := anyN8 (f := fun (t : WishD) => lkG T.2.1 L g z t.1) (fun j hj => hall.out j (by have := hl2.out; omega))
      have HB : Hid (Below w.heap.size w wr) := k6
      clear k0 k1 k2 k3 k5 k6 hall
      go_wp2_with fail
      go_ret
      exact ⟨(by rw [HR.out]; try rfl), HB.out⟩
set_option maxHeartbeats 4000000 in
theorem tavoids_calls {w : World} {T : TalD} {ts : List Value} {A A' : Where} {N : Nat} {g : TermD → Lab → Int} {oF : Lab → Int} (z : TermD → Bool) (hz : ∀ t ∈ tNear T, (z t.1 = true ↔ ∀ d, okL d → g t.1 d = 0)) (a : Option Addr) (n cap : Nat) (L : List Lab) (hM : Hid (MapsAt w T N g oF)) (hT' : Hid (RTally A w ts T)) (hL : Hid (SlAt RLabel 2 32 A' w a n cap L)) :
    Calls Tryd.prog 33 #[.agg ts.toArray, .slice a n cap] w fun e w' => e = .returned (.bool ((tApart T).any (fun t => apG L g t.1))) ∧ Below w.heap.size w w' := by
  have HTA : Hid (RTally A w ts T) := hT'
  obtain ⟨⟨a1, n1, m1⟩, ⟨a2, n2, m2⟩, ⟨a3, n3, m3⟩, rfl, _, s1, s2, s3⟩ := hT'.out.out
  simp only at s1 s2 s3 HTA ⊢
  obtain ⟨W1, hW1⟩ : ∃ W, W = w.alloc (.cells #[.string T.1, .slice a1 n1 m1, .slice a2 n2 m2, .slice a3 n3 m3, .map (some T.2.2.2.2)] 51) := ⟨_, rfl⟩
  have B1 : Below w.heap.size w W1 := by rw [hW1]; go_grown
  have q0 : BoxL W1 w.heap.size [.string T.1, .slice a1 n1 m1, .slice a2 n2 m2, .slice a3 n3 m3, .map (some T.2.2.2.2)] := by rw [hW1]; exact BoxL.new w 51 _
  have hl2 : Hid ((tNear T).length = n2) := s2.1
  have hl3 : Hid ((tApart T).length = n3) := s3.1
  have hll : Hid (L.length = n) := hL.out.1
  have hb2 : n2 < 140737488355328 := by have := s2.2.2.2.1; omega
  have hb3 : n3 < 140737488355328 := by have := s3.2.2.2.1; omega
  have hbn : n < 140737488355328 := by have := hL.out.2.2.2.1; omega
  have HQ : Hid (∀ u, Below W1.heap.size W1 u → BoxL u w.heap.size [.string T.1, .slice a1 n1 m1, .slice a2 n2 m2, .slice a3 n3 m3, .map (some T.2.2.2.2)] ∧ MapsAt u T N g oF ∧ RTally A u [.string T.1, .slice a1 n1 m1, .slice a2 n2 m2, .slice a3 n3 m3, .map (some T.2.2.2.2)] T ∧ SlAt RWish 3 48 A u a2 n2 m2 (tNear T) ∧ SlAt RWish 3 48 A u a3 n3 m3 (tApart T) ∧ SlAt RLabel 2 32 A' u a n cap L ∧ Below w.heap.size w u) := fun u hb =>
    have k := on2 B1 hb
    ⟨q0.on hb, hM.out.below k, RTally.firm.kept HTA.out (Kept.below k), s2.on RWish.firm k, s3.on RWish.firm k, hL.out.on RLabel.firm k, k⟩
  have HZ : Hid (∀ t ∈ tNear T, (z t.1 = true ↔ ∀ d, okL d → g t.1 d = 0)) := hz
  have HOK : Hid (∀ l ∈ L, okL l) := sl_okL hL.out
  have c3 := (q0.2 3 _ rfl).1
  clear hM hT' hL s1 s2 s3 q0 HTA hz HZ
  go_enter Tryd.func33, Tryd.ntmps33
  go_upto_region 1 with fail
  rw [← hW1]
  clear hW1
  go_wp2_with fail
  go_loopw [10] (fun i wr => ∃ k : Nat, k ≤ n3 ∧ i = .int .i64 k ∧ Below W1.heap.size W1 wr ∧ Hid (∀ j, j < k → apG L g ((tApart T).getD j default).1 = false)) (fun i _ => n3 - (intOf i).toNat)
  case atStart => exact ⟨0, Nat.zero_le _, rfl, Below.refl _ _, fun j hj => absurd hj (Nat.not_lt_zero _)⟩
  case round =>
    obtain ⟨k, hk, rfl, hbel, hall⟩ := hrel
    obtain ⟨k0, k1, k2, _, k3, k5, k6⟩ := HQ.out wr hbel
    by_cases hlt : k < n3
    ·
      have hin : (tApart T).getD k default ∈ tApart T := getD_mem8 (by rw [hl3.out]; exact hlt)
      have hcl := k1.c _ (List.mem_append.2 (.inr hin))
      obtain ⟨B, off, rfl, hB, hAB, ws, hr, hv⟩ := k3.get hlt
      obtain ⟨⟨b1, b2, b3⟩, rfl, hreq, hkey⟩ := hr.out
      simp only at hreq hkey hv
      have d0 := hv 0 _ rfl
      have d1 := hv 1 _ rfl
      have d2 := hv 2 _ rfl
      rw [Nat.add_zero] at d0
      have HNo : Hid (apG L g ((tApart T).getD k default).1 = false → ∀ j, j < k + 1 → apG L g ((tApart T).getD j default).1 = false) := fun h j hj => by
        rcases Nat.lt_succ_iff_lt_or_eq.1 hj with h1 | rfl
        · exact hall.out j h1
        · exact h
      have HYes : Hid (apG L g ((tApart T).getD k default).1 = true → (tApart T).any (fun t => apG L g t.1) = true) := fun h => anyY8 (f := fun (t : WishD) => apG L g t.1) (by rw [hl3.out]; exact hlt) h
      generalize (tApart T).getD k default = t at hcl hreq hkey d0 d1 d2 HNo HYes
      obtain ⟨V, hV⟩ : ∃ V, V = wr.alloc (.cells #[.slice b1 b2 b3, .string t.1.2, .map (some t.2)] 80) := ⟨_, rfl⟩
      have bV : Below wr.heap.size wr V := by rw [hV]; go_grown
      have qw : BoxL V wr.heap.size [.slice b1 b2 b3, .string t.1.2, .map (some t.2)] := by rw [hV]; exact BoxL.new wr 80 _
      have HD := dhere_calls (hcl.on bV) a n cap A' L t.1.2 (k5.on RLabel.firm bV) hkey
      have z1 := (qw.2 1 _ rfl).1
      have z2 := (qw.2 2 _ rfl).1
      have HbV : Hid (Below W1.heap.size W1 V) := on2 hbel bV
      have HLk : Hid (apG L g t.1 = ((getL L t.1.2).2 && decide (0 < g t.1 (domL L t.1.2)))) := rfl
      rw [← HLk.out] at HD
      clear hr hv hreq hcl k0 k1 k2 k3 k5 k6 bV qw hall HLk
      generalize apG L g t.1 = lk at HNo HYes HD
      go_upto_region 4 with fail
      rw [← hV]
      clear hV
      go_wp2_with fail
      refine HD.mono ?_
      clear HD z1 z2 d0 d1 d2
      rintro e w3 ⟨rfl, hb3'⟩
      have hbw : Below W1.heap.size W1 w3 := on2 HbV.out hb3'
      clear hb3'
      cases lk
      ·
        have HN := HNo.out rfl
        clear HNo HYes HbV
        go_wp2_with fail
        go_roundw
        case rel => exact ⟨k + 1, by omega, by go_num, hbw, HN⟩
        case measure => simp [intOf]; omega
      ·
        have HR := HYes.out rfl
        have HB : Hid (Below w.heap.size w w3) := on2 B1 hbw
        clear HNo HYes HbV
        go_wp2_with fail
        go_ret
        exact ⟨(by rw [HR]; try rfl), HB.out⟩
    ·
      have HR : Hid ((tApart T).any (fun t => apG L g t.1) = false) := anyN8 (f := fun (t : WishD) => apG L g t.1) (fun j hj => hall.out j (by have := hl3.out; omega))
      have HB : Hid (Below w.heap.size w wr) := k6
      clear k0 k1 k2 k3 k5 k6 hall
      go_wp2_with fail
      go_ret
      exact ⟨(by rw [HR.out]; try rfl), HB.out⟩
set_option maxHeartbeats 4000000 in
theorem tavoided_calls {w : World} {T : TalD} {ts : List Value} {A A' : Where} {N : Nat} {g : TermD → Lab → Int} {oF : Lab → Int} (z : TermD → Bool) (hz : ∀ t ∈ tNear T, (z t.1 = true ↔ ∀ d, okL d → g t.1 d = 0)) (a : Option Addr) (n cap : Nat) (L : List Lab) (hM : Hid (MapsAt w T N g oF)) (hT' : Hid (RTally A w ts T)) (hL : Hid (SlAt RLabel 2 32 A' w a n cap L)) :
    Calls Tryd.prog 34 #[.agg ts.toArray, .slice a n cap] w fun e w' => e = .returned (.bool (L.any (otG L oF))) ∧ Below w.heap.size w w' := by
  have HTA : Hid (RTally A w ts T) := hT'
  obtain ⟨⟨a1, n1, m1⟩, ⟨a2, n2, m2⟩, ⟨a3, n3, m3⟩, rfl, _, s1, s2, s3⟩ := hT'.out.out
  simp only at s1 s2 s3 HTA ⊢
  obtain ⟨W1, hW1⟩ : ∃ W, W = w.alloc (.cells #[.string T.1, .slice a1 n1 m1, .slice a2 n2 m2, .slice a3 n3 m3, .map (some T.2.2.2.2)] 51) := ⟨_, rfl⟩
  have B1 : Below w.heap.size w W1 := by rw [hW1]; go_grown
  have q0 : BoxL W1 w.heap.size [.string T.1, .slice a1 n1 m1, .slice a2 n2 m2, .slice a3 n3 m3, .map (some T.2.2.2.2)] := by rw [hW1]; exact BoxL.new w 51 _
  have hl2 : Hid ((tNear T).length = n2) := s2.1
  have hl3 : Hid ((tApart T).length = n3) := s3.1
  have hll : Hid (L.length = n) := hL.out.1
  have hb2 : n2 < 140737488355328 := by have := s2.2.2.2.1; omega
  have hb3 : n3 < 140737488355328 := by have := s3.2.2.2.1; omega
  have hbn : n < 140737488355328 := by have := hL.out.2.2.2.1; omega
  have HQ : Hid (∀ u, Below W1.heap.size W1 u → BoxL u w.heap.size [.string T.1, .slice a1 n1 m1, .slice a2 n2 m2, .slice a3 n3 m3, .map (some T.2.2.2.2)] ∧ MapsAt u T N g oF ∧ RTally A u [.string T.1, .slice a1 n1 m1, .slice a2 n2 m2, .slice a3 n3 m3, .map (some T.2.2.2.2)] T ∧ SlAt RWish 3 48 A u a2 n2 m2 (tNear T) ∧ SlAt RWish 3 48 A u a3 n3 m3 (tApart T) ∧ SlAt RLabel 2 32 A' u a n cap L ∧ Below w.heap.size w u) := fun u hb =>
    have k := on2 B1 hb
    ⟨q0.on hb, hM.out.below k, RTally.firm.kept HTA.out (Kept.below k), s2.on RWish.firm k, s3.on RWish.firm k, hL.out.on RLabel.firm k, k⟩
  have HZ : Hid (∀ t ∈ tNear T, (z t.1 = true ↔ ∀ d, okL d → g t.1 d = 0)) := hz
  have HOK : Hid (∀ l ∈ L, okL l) := sl_okL hL.out
  clear hM hT' hL s1 s2 s3 q0 HTA hz HZ
  go_enter Tryd.func34, Tryd.ntmps34
  go_upto_region 1 with fail
  rw [← hW1]
  clear hW1
  go_wp2_with fail
  go_loopw [9] (fun i wr => ∃ k : Nat, k ≤ n ∧ i = .int .i64 k ∧ Below W1.heap.size W1 wr ∧ Hid (∀ j, j < k → otG L oF (L.getD j default) = false)) (fun i _ => n - (intOf i).toNat)
  case atStart => exact ⟨0, Nat.zero_le _, rfl, Below.refl _ _, fun j hj => absurd hj (Nat.not_lt_zero _)⟩
  case round =>
    obtain ⟨k, hk, rfl, hbel, hall⟩ := hrel
    obtain ⟨k0, k1, k2, _, _, k5, k6⟩ := HQ.out wr hbel
    by_cases hlt : k < n
    ·
      obtain ⟨B, off, rfl, hB, hAB, ws, hr, hv⟩ := k5.get hlt
      obtain ⟨rfl, hok1, hok2⟩ := hr.out
      have d0 := hv 0 _ rfl
      have d1 := hv 1 _ rfl
      rw [Nat.add_zero] at d0
      have HNo : Hid (otG L oF (L.getD k default) = false → ∀ j, j < k + 1 → otG L oF (L.getD j default) = false) := fun h j hj => by
        rcases Nat.lt_succ_iff_lt_or_eq.1 hj with h1 | rfl
        · exact hall.out j h1
        · exact h
      have HYes : Hid (otG L oF (L.getD k default) = true → L.any (otG L oF) = true) := fun h => anyY8 (by rw [hll.out]; exact hlt) h
      generalize L.getD k default = l at hok1 hok2 d0 d1 HNo HYes
      obtain ⟨V, hV⟩ : ∃ V, V = wr.alloc (.cells #[.string l.1, .string l.2] 62) := ⟨_, rfl⟩
      have bV : Below wr.heap.size wr V := by rw [hV]; go_grown
      have qw : BoxL V wr.heap.size [.string l.1, .string l.2] := by rw [hV]; exact BoxL.new wr 62 _
      have HD := dhere_calls (k1.o.on bV) _ n cap A' L l.1 (k5.on RLabel.firm bV) hok1
      have hlk := (k1.o.on bV).look 49 Tryd.underlying49 (d := l) ⟨hok1, hok2⟩
      have z0 := (qw.2 0 _ rfl).1
      have z1 := (qw.2 1 _ rfl).1
      have y4 := ((k0.on bV).2 4 _ rfl).1
      have HbV : Hid (Below W1.heap.size W1 V) := on2 hbel bV
      have HLk : Hid (otG L oF l = (decide (0 < oF l) && ((getL L l.1).2 && decide (0 < oF (domL L l.1))))) := rfl
      clear hr hv k0 k1 k2 k5 k6 bV qw hall
      generalize otG L oF l = lk at HNo HYes HLk
      generalize ((getL L l.1).2 && decide (0 < oF (domL L l.1))) = hb at HD HLk
      obtain ⟨pb, hpb⟩ : ∃ pb, decide (0 < oF l) = pb := ⟨_, rfl⟩
      rw [hpb] at HLk
      generalize hoc : oF l = c at hlk hpb
      clear hoc
      go_upto_region 4 with fail
      rw [← hV]
      clear hV
      cases pb
      ·
        have HN := HNo.out (by rw [HLk.out]; rfl)
        have hbw := HbV.out
        clear HNo HYes HLk HD
        go_wp2_with fail
        go_roundw
        case rel => exact ⟨k + 1, by omega, by go_num, hbw, HN⟩
        case measure => simp [intOf]; omega
      ·
        go_wp2_with fail
        refine HD.mono ?_
        clear HD hlk z0 z1 y4 d0 d1
        rintro e w3 ⟨rfl, hb3'⟩
        have hbw : Below W1.heap.size W1 w3 := on2 HbV.out hb3'
        clear hb3'
        cases hb
        ·
          have HN := HNo.out (by rw [HLk.out]; rfl)
          clear HNo HYes HbV HLk
          go_wp2_with fail
          go_roundw
          case rel => exact ⟨k + 1, by omega, by go_num, hbw, HN⟩
          case measure => simp [intOf]; omega
        ·
          have HR := HYes.out (by rw [HLk.out]; rfl)
          have HB : Hid (Below w.heap.size w w3) := on2 B1 hbw
          clear HNo HYes HbV HLk
          go_wp2_with fail
          go_ret
          exact ⟨(by rw [HR]; try rfl), HB.out⟩
    ·
      have HR : Hid (L.any (otG L oF) = false) := anyN8 (fun j hj => hall.out j (by have := hll.out; omega))
      have HB : Hid (Below w.heap.size w wr) := k6
      clear k0 k1 k2 k5 k6 hall
      go_wp2_with fail
      go_ret
      exact ⟨(by rw [HR.out]; try rfl), HB.out⟩
end Go.Proofs.YtfnafgmengefaaaDoor
namespace Go.Proofs.YtfnafgmengefaaaDoor
open Go.RowKit Go.Maps
set_option linter.unusedSimpArgs false
set_option maxRecDepth 100000

set_option maxHeartbeats 4000000 in
theorem twhy_calls {w : World} {T : TalD} {ts : List Value} {A A' : Where} {N : Nat} {g : TermD → Lab → Int} {oF : Lab → Int} (z : TermD → Bool) (hz : ∀ t ∈ tNear T, (z t.1 = true ↔ ∀ d, okL d → g t.1 d = 0)) (a : Option Addr) (n cap : Nat) (L : List Lab) (hM : Hid (MapsAt w T N g oF)) (hT' : Hid (RTally A w ts T)) (hL : Hid (SlAt RLabel 2 32 A' w a n cap L)) :
    Calls Tryd.prog 21 #[.agg ts.toArray, .slice a n cap] w fun e w' => e = .returned (.int .i64 (whyG T L g z oF)) ∧ Below w.heap.size w w' := by
  have HTA : Hid (RTally A w ts T) := hT'
  obtain ⟨⟨a1, n1, m1⟩, ⟨a2, n2, m2⟩, ⟨a3, n3, m3⟩, rfl, _, _, _, _⟩ := hT'.out.out
  simp only at HTA ⊢
  obtain ⟨W1, hW1⟩ : ∃ W, W = w.alloc (.cells #[.string T.1, .slice a1 n1 m1, .slice a2 n2 m2, .slice a3 n3 m3, .map (some T.2.2.2.2)] 51) := ⟨_, rfl⟩
  have B1 : Below w.heap.size w W1 := by rw [hW1]; go_grown
  have q0 : BoxL W1 w.heap.size [.string T.1, .slice a1 n1 m1, .slice a2 n2 m2, .slice a3 n3 m3, .map (some T.2.2.2.2)] := by rw [hW1]; exact BoxL.new w 51 _
  have HQ : Hid (∀ u, Below W1.heap.size W1 u → BoxL u w.heap.size [.string T.1, .slice a1 n1 m1, .slice a2 n2 m2, .slice a3 n3 m3, .map (some T.2.2.2.2)] ∧ Below w.heap.size w u) := fun u hb => ⟨q0.on hb, on2 B1 hb⟩
  have HC1 : Hid (∀ u, Below W1.heap.size W1 u → Calls Tryd.prog 32 #[.agg #[.string T.1, .slice a1 n1 m1, .slice a2 n2 m2, .slice a3 n3 m3, .map (some T.2.2.2.2)], .slice a n cap] u fun e w' => e = .returned (.bool ((tNear T).any (fun t => lkG T.2.1 L g z t.1))) ∧ Below u.heap.size u w') := fun u hb => tlacks_calls z hz a n cap L (hM.out.below (on2 B1 hb)) (RTally.firm.kept HTA.out (Kept.below (on2 B1 hb))) (hL.out.on RLabel.firm (on2 B1 hb))
  have HC2 : Hid (∀ u, Below W1.heap.size W1 u → Calls Tryd.prog 33 #[.agg #[.string T.1, .slice a1 n1 m1, .slice a2 n2 m2, .slice a3 n3 m3, .map (some T.2.2.2.2)], .slice a n cap] u fun e w' => e = .returned (.bool ((tApart T).any (fun t => apG L g t.1))) ∧ Below u.heap.size u w') := fun u hb => tavoids_calls z hz a n cap L (hM.out.below (on2 B1 hb)) (RTally.firm.kept HTA.out (Kept.below (on2 B1 hb))) (hL.out.on RLabel.firm (on2 B1 hb))
  have HC3 : Hid (∀ u, Below W1.heap.size W1 u → Calls Tryd.prog 34 #[.agg #[.string T.1, .slice a1 n1 m1, .slice a2 n2 m2, .slice a3 n3 m3, .map (some T.2.2.2.2)], .slice a n cap] u fun e w' => e = .returned (.bool (L.any (otG L oF))) ∧ Below u.heap.size u w') := fun u hb => tavoided_calls z hz a n cap L (hM.out.below (on2 B1 hb)) (RTally.firm.kept HTA.out (Kept.below (on2 B1 hb))) (hL.out.on RLabel.firm (on2 B1 hb))
  unfold whyG
  clear hM hT' hL HTA q0 hz
  generalize (tNear T).any (fun t => lkG T.2.1 L g z t.1) = x1 at HC1 ⊢
  generalize (tApart T).any (fun t => apG L g t.1) = x2 at HC2 ⊢
  generalize L.any (otG L oF) = x3 at HC3 ⊢
  have y0 := ((HQ.out W1 (Below.refl _ _)).1.2 0 _ rfl).1; have y1 := ((HQ.out W1 (Below.refl _ _)).1.2 1 _ rfl).1; have y2 := ((HQ.out W1 (Below.refl _ _)).1.2 2 _ rfl).1; have y3 := ((HQ.out W1 (Below.refl _ _)).1.2 3 _ rfl).1; have y4 := ((HQ.out W1 (Below.refl _ _)).1.2 4 _ rfl).1
  go_enter Tryd.func21, Tryd.ntmps21
  go_upto_region 1 with fail
  rw [← hW1]
  clear hW1
  go_wp2_with fail
  refine (HC1.out W1 (Below.refl _ _)).mono ?_
  rintro e w2 ⟨rfl, hb2⟩
  clear HC1 y0 y1 y2 y3 y4
  cases x1
  ·
    obtain ⟨k0, _⟩ := HQ.out w2 hb2
    have y0 := (k0.2 0 _ rfl).1; have y1 := (k0.2 1 _ rfl).1; have y2 := (k0.2 2 _ rfl).1; have y3 := (k0.2 3 _ rfl).1; have y4 := (k0.2 4 _ rfl).1
    clear k0
    go_wp2_with fail
    refine (HC2.out w2 hb2).mono ?_
    rintro e w3 ⟨rfl, hb3⟩
    have hb3' := on2 hb2 hb3
    clear HC2 y0 y1 y2 y3 y4 hb3
    cases x2
    ·
      obtain ⟨k0, _⟩ := HQ.out w3 hb3'
      have y0 := (k0.2 0 _ rfl).1; have y1 := (k0.2 1 _ rfl).1; have y2 := (k0.2 2 _ rfl).1; have y3 := (k0.2 3 _ rfl).1; have y4 := (k0.2 4 _ rfl).1
      clear k0
      go_wp2_with fail
      refine (HC3.out w3 hb3').mono ?_
      rintro e w4 ⟨rfl, hb4⟩
      have HB : Hid (Below w.heap.size w w4) := (HQ.out w4 (on2 hb3' hb4)).2
      clear HC3 y0 y1 y2 y3 y4 hb4
      cases x3
      · go_wp2_with fail
        go_ret
        exact ⟨rfl, HB.out⟩
      · go_wp2_with fail
        go_ret
        exact ⟨rfl, HB.out⟩
    · have HB : Hid (Below w.heap.size w w3) := (HQ.out w3 hb3').2
      go_wp2_with fail
      go_ret
      exact ⟨rfl, HB.out⟩
  · have HB : Hid (Below w.heap.size w w2) := (HQ.out w2 hb2).2
    go_wp2_with fail
    go_ret
    exact ⟨rfl, HB.out⟩

theorem cT_snoc (t : TermD) (A : List PlacedD) (x : PlacedD) : addF (cT t A) (hT t x) 1 = cT t (A ++ [x]) := by
  funext d
  unfold addF cT one
  rw [List.map_append, List.sum_append]
  simp
theorem cO_snoc (P : List Lab) (A : List PlacedD) (x : PlacedD) : (fun d => cO P A d + 1 * cX P x (pApart x.1) d) = cO P (A ++ [x]) := by
  funext d
  unfold cO
  rw [List.map_append, List.sum_append]
  simp
/-- How much is counted at most. -/
def cost (l : List PlacedD) : Nat := (l.map (fun x => 1 + (pApart x.1).length)).sum
theorem cost_snoc (l : List PlacedD) (x : PlacedD) : cost (l ++ [x]) = cost l + (1 + (pApart x.1).length) := by unfold cost; rw [List.map_append, List.sum_append]; simp
theorem cost_take (l : List PlacedD) (k : Nat) : cost (l.take k) ≤ cost l := by
  have : cost l = cost (l.take k) + cost (l.drop k) := by
    unfold cost
    rw [← List.sum_append, ← List.map_append, List.take_append_drop]
  omega
theorem others_snoc (name : ByteArray) (l : List PlacedD) (x : PlacedD) : othersN name (l ++ [x]) = othersN name l ++ (if sEq x.1.1 name = true then [] else [x]) := by
  unfold othersN
  rw [List.filter_append]
  congr 1
  cases h : sEq x.1.1 name <;> simp [h]
theorem cTo_snoc (nm : ByteArray) (B : List PlacedD) (x : PlacedD) : (if sEq x.1.1 nm = true then (fun t => cT t (othersN nm B)) else fun t => addF (cT t (othersN nm B)) (hT t x) 1) = fun t => cT t (othersN nm (B ++ [x])) := by
  rw [others_snoc]
  cases sEq x.1.1 nm
  · exact funext (fun t => cT_snoc t _ x)
  · simp
theorem cOo_snoc (P : List Lab) (nm : ByteArray) (B : List PlacedD) (x : PlacedD) : (if sEq x.1.1 nm = true then cO P (othersN nm B) else fun d => cO P (othersN nm B) d + 1 * cX P x (pApart x.1) d) = cO P (othersN nm (B ++ [x])) := by
  rw [others_snoc]
  cases sEq x.1.1 nm
  · exact cO_snoc P _ x
  · simp
theorem whyG_is (T : TalD) (p : PodD) (L : List Lab) (A : List PlacedD) (hl : T.2.1 = pLabs p) (ha : (tNear T).map Prod.fst = pNear p) (hb : (tApart T).map Prod.fst = pApart p) : whyG T L (fun t => cT t A) (fun t => eT t A) (cO (pLabs p) A) = whyN (pLabs p) (pNear p) (pApart p) L A := by
  unfold whyG whyN
  rw [← ha, ← hb, hl, List.any_map, List.any_map]
  rfl
theorem placed_ok {A : Where} {w : World} {a : Option Addr} {n cap : Nat} {L : List PlacedD} (h : SlAt RPlaced 17 320 A w a n cap L) : ∀ x ∈ L, ∀ l ∈ x.2, okL l := fun x hx => by
  have hl := h.1
  obtain ⟨i, hi, rfl⟩ := List.mem_iff_getElem.1 hx
  obtain ⟨B, off, _, _, _, cs, hr, _⟩ := h.get (i := i) (by omega)
  rw [List.getD_eq_getElem?_getD, List.getElem?_eq_getElem hi] at hr
  obtain ⟨_, _, h16, _, _, _, _, _, _, s⟩ := hr.reads
  exact sl_okL s
theorem wish_ok {A : Where} {w : World} {a : Option Addr} {n cap : Nat} {L : List WishD} (h : SlAt RWish 3 48 A w a n cap L) : ∀ t ∈ L, t.1.2.size ≤ 140737488355328 := fun x hx => by
  have hl := h.1
  obtain ⟨i, hi, rfl⟩ := List.mem_iff_getElem.1 hx
  obtain ⟨B, off, _, _, _, cs, hr, _⟩ := h.get (i := i) (by omega)
  rw [List.getD_eq_getElem?_getD, List.getElem?_eq_getElem hi] at hr
  obtain ⟨_, _, _, s⟩ := hr.out
  exact s
theorem others_mem {name : ByteArray} {l : List PlacedD} {x : PlacedD} (h : x ∈ othersN name l) : x ∈ l := (List.mem_filter.1 h).1
/-- What is kept of a tally and its counts while one after the other is counted. -/
structure Run (T : TalD) (W wr : World) (ts : List Value) (P : List Lab) (A : List PlacedD) (N : Nat) : Prop where
  m : MapsAt wr T N (fun t => cT t A) (cO P A)
  t : Turns (fun b => b ∈ mapsT T) W wr
set_option maxHeartbeats 8000000 in
theorem NCheck_calls (cs : List Value) (A A' A'' : Where) (p : PodD) (a : Option Addr) (n cap : Nat) (L : List Lab) (b : Option Addr) (m capb : Nat) (Pl : List PlacedD) (w : World) (hp : Hid (RPod A w cs p)) (hL : Hid (SlAt RLabel 2 32 A' w a n cap L)) (hP : Hid (SlAt RPlaced 17 320 A'' w b m capb Pl)) (hn : (pNear p).length < 1000000000) (hm : (pApart p).length < 1000000000) (hcost : cost Pl < 70368744177000) :
    Calls Tryd.prog 10 #[.agg cs.toArray, .slice a n cap, .slice b m capb] w fun e w' => e = .returned (.int .i64 (nearP p L Pl)) ∧ Below w.heap.size w w' := by
  have hiP : (Tryd.prog.info? 33).map (·.size) = some cs.length := by rw [RPod.firm.len hp.out]; exact sizePo
  obtain ⟨W1, hW1⟩ : ∃ W, W = w.alloc (.cells cs.toArray 33) := ⟨_, rfl⟩
  have B1 : Below w.heap.size w W1 := by rw [hW1]; go_grown
  have HR0 : Hid (W1.rangeAt w.heap.size 0 cs) := by rw [Hid, hW1]; exact (BoxL.new w 33 cs).range
  have HTo := tallyOf_calls cs A p W1 (RPod.firm.kept hp.out (Kept.below B1)) hn hm
  have HLw : Hid (SlAt RLabel 2 32 (fun b => b < w.heap.size) w a n cap L) := hL.out.weak RLabel.firm (fun b hb _ => hb)
  have HPw : Hid (SlAt RPlaced 17 320 (fun b => b < w.heap.size) w b m capb Pl) := hP.out.weak RPlaced.firm (fun b hb _ => hb)
  have hml : Hid (Pl.length = m) := hP.out.1
  have hmb : m < 140737488355328 := by have := hP.out.2.2.2.1; omega
  have HPO : Hid (∀ x ∈ Pl, ∀ l ∈ x.2, okL l) := placed_ok hP.out
  have HB1 : Hid (Below w.heap.size w W1) := B1
  clear hp hL hP hn hm B1
  go_enter Tryd.func10, Tryd.ntmps10
  go_upto_region 1 with fail
  rw [← hW1]
  clear hW1
  go_wp2_with (first | (refine wpList_load_mid rfl 33 _ rfl w.heap.size 0 rfl cs _ HR0.out Tryd.underlying33 rfl hiP ?_) | fail)
  refine HTo.mono ?_
  rintro e w2 ⟨ts, T, rfl, h0, hb2⟩
  clear HTo HR0 hiP
  obtain ⟨⟨a1, n1, m1⟩, ⟨a2, n2, m2⟩, ⟨a3, n3, m3⟩, rfl, _, s1, s2, s3⟩ := h0.r.out
  simp only at s1 s2 s3
  obtain ⟨W3, hW3⟩ : ∃ W, W = w2.alloc (.cells #[.string T.1, .slice a1 n1 m1, .slice a2 n2 m2, .slice a3 n3 m3, .map (some T.2.2.2.2)] 51) := ⟨_, rfl⟩
  have B3 : Below w2.heap.size w2 W3 := by rw [hW3]; go_grown
  have q3 : BoxL W3 w2.heap.size [.string T.1, .slice a1 n1 m1, .slice a2 n2 m2, .slice a3 n3 m3, .map (some T.2.2.2.2)] := by rw [hW3]; exact BoxL.new w2 51 _
  have bw3 : Below w.heap.size w W3 := on2 (on2 HB1.out hb2) B3
  have hfw : ∀ b ∈ mapsT T, w.heap.size ≤ b := fun b hb => Nat.le_trans HB1.out.size (h0.f b hb)
  have n3' : NM T w2.heap.size := fun h => absurd (h0.m.lt h) (Nat.lt_irrefl _)
  have HWk : Hid (∀ t ∈ tNear T, t.1.2.size ≤ 140737488355328) := wish_ok s2
  have HQ : Hid (∀ u, Turns (fun b => b ∈ mapsT T) W3 u → BoxL u w2.heap.size [.string T.1, .slice a1 n1 m1, .slice a2 n2 m2, .slice a3 n3 m3, .map (some T.2.2.2.2)] ∧ RTally (NM T) u [.string T.1, .slice a1 n1 m1, .slice a2 n2 m2, .slice a3 n3 m3, .map (some T.2.2.2.2)] T ∧ SlAt RLabel 2 32 (NM T) u a n cap L ∧ SlAt RPlaced 17 320 (NM T) u b m capb Pl ∧ Below w.heap.size w u) := fun u ht =>
    have k := kept_nm ht
    have nm : ∀ b, b < W3.heap.size → b < w.heap.size → NM T b := fun b _ h1 h2 => by have := hfw b h2; omega
    ⟨q3.kept k n3', RTally.firm.kept (RTally.firm.kept (RTally.firm.weak h0.r (fun _ _ h => h.1)) (Kept.below B3)) k, ((HLw.out.on RLabel.firm bw3).weak RLabel.firm nm).kept RLabel.firm k, ((HPw.out.on RPlaced.firm bw3).weak RPlaced.firm nm).kept RPlaced.firm k, Turns.behind bw3 (ht.weak (fun b _ h => hfw b h))⟩
  have HRun : Hid (Run T W3 W3 [.string T.1, .slice a1 n1 m1, .slice a2 n2 m2, .slice a3 n3 m3, .map (some T.2.2.2.2)] (pLabs p) (othersN p.1 (Pl.take 0)) (cost (Pl.take 0))) := ⟨h0.m.below B3, Turns.refl _ _⟩
  have HTn : Hid (T.1 = p.1 ∧ T.2.1 = pLabs p ∧ (tNear T).map Prod.fst = pNear p ∧ (tApart T).map Prod.fst = pApart p) := ⟨h0.n, h0.l, h0.a, h0.b⟩
  have hszW : Hid (W3.heap.size = w2.heap.size + 1) := by rw [Hid, hW3]; simp
  clear h0 s1 s2 s3 q3 HLw HPw B3 bw3 hb2 hfw n3' HB1
  go_upto_region 2 with fail
  rw [← hW3]
  clear hW3
  go_wp2_with fail
  go_loopw [14] (fun i wr => ∃ k : Nat, k ≤ m ∧ i = .int .i64 k ∧ Hid (Run T W3 wr [.string T.1, .slice a1 n1 m1, .slice a2 n2 m2, .slice a3 n3 m3, .map (some T.2.2.2.2)] (pLabs p) (othersN p.1 (Pl.take k)) (cost (Pl.take k)))) (fun i _ => m - (intOf i).toNat)
  case atStart => exact ⟨0, Nat.zero_le _, rfl, HRun⟩
  case round =>
    obtain ⟨k, hk, rfl, hrun⟩ := hrel
    obtain ⟨k0, k1, k2, k3, k4⟩ := HQ.out wr hrun.out.t
    by_cases hlt : k < m
    ·
      obtain ⟨B, off, rfl, hB, hAB, xs, hr, hv⟩ := k3.get hlt
      have HT1 : Hid (Pl.take k ++ [Pl.getD k default] = Pl.take (k + 1)) := take_at8 (by rw [hml.out]; exact hlt)
      have hck := cost_take Pl (k + 1)
      rw [← HT1.out, cost_snoc] at hck
      have HT3 : Hid (cost (Pl.take (k + 1)) = cost (Pl.take k) + (1 + (pApart (Pl.getD k default).1).length)) := by rw [Hid, ← HT1.out]; exact cost_snoc _ _
      generalize Pl.getD k default = x at hr HT1 HT3 hck
      have hl17 : xs.length = 17 := RPlaced.firm.len hr
      have hi17 : (Tryd.prog.info? 41).map (·.size) = some xs.length := by rw [hl17]; exact sizePl
      have hi17a : (Tryd.prog.info? 41).map (·.size) = some xs.toArray.size := by simpa using hi17
      have HO : Hid (xs.toArray.all (·.oneCell') = true) := all_oneCell_toArray (RPlaced.firm.one hr)
      have HV : Hid (wr.rangeAt B (off + k * 17) xs) := hv
      have HVz : Hid ((wr.alloc (.cells #[.string ⟨#[]⟩, .int .i64 0, .slice none 0 0, .int .i64 0, .int .i64 0, .int .i64 0, .slice none 0 0, .slice none 0 0, .slice none 0 0, .slice none 0 0, .slice none 0 0, .slice none 0 0, .slice none 0 0, .slice none 0 0, .string ⟨#[]⟩, .string ⟨#[]⟩, .slice none 0 0] 41)).rangeAt B (off + k * 17) xs) := fun j v hj => (((Below.refl _ wr).alloc (Nat.le_refl _) _).cell hB).trans (hv j v hj)
      obtain ⟨V, hV⟩ : ∃ V, V = (wr.alloc (.cells #[.string ⟨#[]⟩, .int .i64 0, .slice none 0 0, .int .i64 0, .int .i64 0, .int .i64 0, .slice none 0 0, .slice none 0 0, .slice none 0 0, .slice none 0 0, .slice none 0 0, .slice none 0 0, .slice none 0 0, .slice none 0 0, .string ⟨#[]⟩, .string ⟨#[]⟩, .slice none 0 0] 41)).setCells wr.heap.size 0 xs := ⟨_, rfl⟩
      have HTh : Hid ((wr.alloc (.cells #[.string ⟨#[]⟩, .int .i64 0, .slice none 0 0, .int .i64 0, .int .i64 0, .int .i64 0, .slice none 0 0, .slice none 0 0, .slice none 0 0, .slice none 0 0, .slice none 0 0, .slice none 0 0, .slice none 0 0, .slice none 0 0, .string ⟨#[]⟩, .string ⟨#[]⟩, .slice none 0 0] 41)).there wr.heap.size 0 xs.toArray.size) := by have e : xs.toArray.size = 17 := (by simp [hl17]); rw [Hid, e]; exact (BoxL.new wr 41 [.string ⟨#[]⟩, .int .i64 0, .slice none 0 0, .int .i64 0, .int .i64 0, .int .i64 0, .slice none 0 0, .slice none 0 0, .slice none 0 0, .slice none 0 0, .slice none 0 0, .slice none 0 0, .slice none 0 0, .slice none 0 0, .string ⟨#[]⟩, .string ⟨#[]⟩, .slice none 0 0]).there
      have bV : Below wr.heap.size wr V := by rw [hV]; exact below_setCells ((Below.refl _ _).alloc (Nat.le_refl _) _) (Nat.le_refl _)
      have qV : BoxL V wr.heap.size xs := by rw [hV]; exact box_over8 (BoxL.new wr 41 [.string ⟨#[]⟩, .int .i64 0, .slice none 0 0, .int .i64 0, .int .i64 0, .int .i64 0, .slice none 0 0, .slice none 0 0, .slice none 0 0, .slice none 0 0, .slice none 0 0, .slice none 0 0, .slice none 0 0, .slice none 0 0, .string ⟨#[]⟩, .string ⟨#[]⟩, .slice none 0 0]) (by rw [hl17]; rfl)
      have HWV : Hid (V = (wr.alloc (.cells #[.string ⟨#[]⟩, .int .i64 0, .slice none 0 0, .int .i64 0, .int .i64 0, .int .i64 0, .slice none 0 0, .slice none 0 0, .slice none 0 0, .slice none 0 0, .slice none 0 0, .slice none 0 0, .slice none 0 0, .slice none 0 0, .string ⟨#[]⟩, .string ⟨#[]⟩, .slice none 0 0] 41)).setCells wr.heap.size 0 xs.toArray.toList) := by rw [Hid, hV]
      have HTc := tcount_calls (w := V) 1 (hrun.out.m.below bV) (RTally.firm.kept k1 (Kept.below bV)) (RPlaced.firm.kept hr (Kept.below bV)) (by omega) (.inl rfl)
      have HE1 : (if sEq x.1.1 T.1 = true then (fun t => cT t (othersN p.1 (Pl.take k))) else fun t => addF (cT t (othersN p.1 (Pl.take k))) (hT t x) 1) = fun t => cT t (othersN p.1 (Pl.take (k + 1))) := by rw [HTn.out.1, cTo_snoc, HT1.out]
      have HE2 : (if sEq x.1.1 T.1 = true then cO (pLabs p) (othersN p.1 (Pl.take k)) else fun d => cO (pLabs p) (othersN p.1 (Pl.take k)) d + 1 * cX T.2.1 x (pApart x.1) d) = cO (pLabs p) (othersN p.1 (Pl.take (k + 1))) := by rw [HTn.out.1, HTn.out.2.1, cOo_snoc, HT1.out]
      rw [HE1, HE2] at HTc
      have HN : Hid (∀ u, MapsAt u T (cost (Pl.take k) + 1 + (pApart x.1).length) (fun t => cT t (othersN p.1 (Pl.take (k + 1)))) (cO (pLabs p) (othersN p.1 (Pl.take (k + 1)))) → Turns (fun b => b ∈ mapsT T) V u → Run T W3 u [.string T.1, .slice a1 n1 m1, .slice a2 n2 m2, .slice a3 n3 m3, .map (some T.2.2.2.2)] (pLabs p) (othersN p.1 (Pl.take (k + 1))) (cost (Pl.take (k + 1)))) := fun u h1 h2 => by
        rw [HT3.out]
        rw [Nat.add_assoc] at h1
        exact ⟨h1, (hrun.out.t.trans (Turns.below bV)).trans h2⟩
      obtain ⟨y0, y1, y2, y3, y4⟩ : (V.cell? ⟨w2.heap.size, 0, none⟩ = some (.string T.1)) ∧ (V.cell? ⟨w2.heap.size, 1, none⟩ = some (.slice a1 n1 m1)) ∧ (V.cell? ⟨w2.heap.size, 2, none⟩ = some (.slice a2 n2 m2)) ∧ (V.cell? ⟨w2.heap.size, 3, none⟩ = some (.slice a3 n3 m3)) ∧ (V.cell? ⟨w2.heap.size, 4, none⟩ = some (.map (some T.2.2.2.2))) := ⟨((k0.on bV).2 0 _ rfl).1, ((k0.on bV).2 1 _ rfl).1, ((k0.on bV).2 2 _ rfl).1, ((k0.on bV).2 3 _ rfl).1, ((k0.on bV).2 4 _ rfl).1⟩
      have HRV : Hid (V.rangeAt wr.heap.size 0 xs) := qV.range
      clear hr hv hrun k0 k1 k2 k3 k4 bV qV hV HV HT1 HT3 HE1 HE2
      have HV0 : Hid (wr.rangeAt B (off + k * 17) xs) := fun j v hj => by have h1 := HVz.out j v hj; rwa [(((Below.refl _ wr).alloc (Nat.le_refl _) _).cell hB)] at h1
      go_wp2_with (first | (refine wpList_load_mid rfl 41 _ rfl B (off + k * 17) rfl xs _ HV0.out Tryd.underlying41 rfl hi17 ?_) | (refine wpList_load_mid rfl 41 _ rfl B (off + k * 17) rfl xs _ HVz.out Tryd.underlying41 rfl hi17 ?_) | (refine wpList_store_mid rfl 41 _ _ rfl wr.heap.size 0 xs.toArray rfl rfl HTh.out hi17a HO.out ?_; refine wpl_w8 HWV.out ?_) | (refine wpList_load_mid rfl 41 _ rfl wr.heap.size 0 rfl xs _ HRV.out Tryd.underlying41 rfl hi17 ?_) | fail)
      refine HTc.mono ?_
      rintro e w6 ⟨rfl, hm6, ht6⟩
      have HR6 := HN.out w6 hm6 ht6
      clear HTc hm6 ht6 HN HRV HVz HV0 HTh HO HWV y0 y1 y2 y3 y4
      go_wp2_with fail
      go_roundw
      case rel => exact ⟨k + 1, by omega, by go_num, HR6⟩
      case measure => simp [intOf]; omega
    ·
      have hkm : k = m := by omega
      have htk : Pl.take k = Pl := List.take_of_length_le (by rw [hml.out]; omega)
      rw [htk] at hrun
      have HWy := twhy_calls (w := wr) (fun t => eT t (othersN p.1 Pl)) (fun t ht => eT_iff (HWk.out t ht) (fun x hx => HPO.out x (others_mem hx))) a n cap L hrun.out.m k1 k2
      rw [whyG_is T p L (othersN p.1 Pl) HTn.out.2.1 HTn.out.2.2.1 HTn.out.2.2.2] at HWy
      have HB : Hid (Below w.heap.size w wr) := k4
      have y0 := (k0.2 0 _ rfl).1; have y1 := (k0.2 1 _ rfl).1; have y2 := (k0.2 2 _ rfl).1; have y3 := (k0.2 3 _ rfl).1; have y4 := (k0.2 4 _ rfl).1
      clear k0 k1 k2 k3 k4 hrun htk hkm
      go_wp2_with fail
      refine HWy.mono ?_
      rintro e w7 ⟨rfl, hb7⟩
      have HB7 : Hid (Below w.heap.size w w7) := on2 HB.out hb7
      clear HWy hb7 y0 y1 y2 y3 y4
      go_wp2_with fail
      go_ret
      exact ⟨rfl, HB7.out⟩
end Go.Proofs.YtfnafgmengefaaaDoor
