/- Functions of the program, each walked under the conditions that its theorem names. -/
import Derived.Test.YtnffafjamiffnaaGreatQ33
import Derived.Test.YtnffafjamiffnaaGreatQ34
set_option linter.unusedSimpArgs false
set_option maxRecDepth 100000
set_option maxHeartbeats 32000000
namespace Go.Proofs.YtnffafjamiffnaaGreat
open Go.RowKit Go.Maps
theorem anyN8 {α : Type} [Inhabited α] {L : List α} {f : α -> Bool} (h : ∀ j, j < L.length -> f (L.getD j default) = false) : L.any f = false := by
 rw [List.any_eq_false]
 intro x hx
 obtain ⟨i, hi, rfl⟩ := List.mem_iff_getElem.1 hx
 have := h i hi
 rw [List.getD_eq_getElem?_getD, List.getElem?_eq_getElem hi] at this
 simpa using this
theorem anyY8 {α : Type} [Inhabited α] {L : List α} {f : α -> Bool} {k : Nat} (hk : k < L.length) (h : f (L.getD k default) = true) : L.any f = true := by
 rw [List.any_eq_true]
 refine ⟨_, List.getElem_mem hk, ?_⟩
 rwa [List.getD_eq_getElem?_getD, List.getElem?_eq_getElem hk] at h
theorem zF8 {α : Type} [Inhabited α] {L : List α} {k : Nat} (hk : k < L.length) : L.getD k default ∈ L := by
 rw [List.getD_eq_getElem?_getD, List.getElem?_eq_getElem hk]; exact List.getElem_mem hk
def lkG (P L : List Lab) (g : TermD -> Lab -> Int) (z : TermD -> Bool) (t : TermD) : Bool := !(getL L t.2).2 || (decide (g t (domL L t.2) = 0) && !(z t && matchL P t.1))
def apG (L : List Lab) (g : TermD -> Lab -> Int) (t : TermD) : Bool := (getL L t.2).2 && decide (0 < g t (domL L t.2))
def otG (L : List Lab) (o : Lab -> Int) (l : Lab) : Bool := decide (0 < o l) && ((getL L l.1).2 && decide (0 < o (domL L l.1)))
def whyG (T : TalD) (L : List Lab) (g : TermD -> Lab -> Int) (z : TermD -> Bool) (o : Lab -> Int) : Int :=
 if (tNear T).any (fun t => lkG T.2.1 L g z t.1) = true then 9 else if (tApart T).any (fun t => apG L g t.1) = true then 10 else if L.any (otG L o) = true then 11 else 0
theorem zFb {w : World} {T : TalD} {ts : List Value} {A A' : Where} {N : Nat} {g : TermD -> Lab -> Int} {oF : Lab -> Int} (z : TermD -> Bool) (hz : ∀ t ∈ tNear T, (z t.1 = true ↔ ∀ d, okL d -> g t.1 d = 0)) (a : Option Addr) (n cap : Nat) (L : List Lab) (hM : Hid (MapsAt w T N g oF)) (hT' : Hid (RTally A w ts T)) (hL : Hid (SlAt RLabel 2 32 A' w a n cap L)) :
  Calls Tryz.prog 164 #[.agg ts.toArray, .slice a n cap] w fun e w' => e = .returned (.bool ((tNear T).any (fun t => lkG T.2.1 L g z t.1))) /\ Below w.heap.size w w' := by
 have HTA : Hid (RTally A w ts T) := hT'
 obtain ⟨⟨a1, n1, m1⟩, ⟨a2, n2, m2⟩, ⟨a3, n3, m3⟩, rfl, _, s1, s2, s3⟩ := hT'.out.out
 simp only at s1 s2 s3 HTA |-
 obtain ⟨W1, hW1⟩ : ∃ W, W = w.alloc (.cells #[.string T.1, .slice a1 n1 m1, .slice a2 n2 m2, .slice a3 n3 m3, .map (some T.2.2.2.2)] 216) := ⟨_, rfl⟩
 have B1 : Below w.heap.size w W1 := by rw [hW1]; go_grown
 have q0 : BoxL W1 w.heap.size [.string T.1, .slice a1 n1 m1, .slice a2 n2 m2, .slice a3 n3 m3, .map (some T.2.2.2.2)] := by rw [hW1]; exact BoxL.new w 216 _
 have hl2 : Hid ((tNear T).length = n2) := s2.1
 have hl3 : Hid ((tApart T).length = n3) := s3.1
 have hll : Hid (L.length = n) := hL.out.1
 have hb2 : n2 < 140737488355328 := by have := s2.2.2.2.1; omega
 have hb3 : n3 < 140737488355328 := by have := s3.2.2.2.1; omega
 have hbn : n < 140737488355328 := by have := hL.out.2.2.2.1; omega
 have HQ : Hid (∀ u, Below W1.heap.size W1 u -> BoxL u w.heap.size [.string T.1, .slice a1 n1 m1, .slice a2 n2 m2, .slice a3 n3 m3, .map (some T.2.2.2.2)] /\ MapsAt u T N g oF /\ RTally A u [.string T.1, .slice a1 n1 m1, .slice a2 n2 m2, .slice a3 n3 m3, .map (some T.2.2.2.2)] T /\ SlAt RWish 3 48 A u a2 n2 m2 (tNear T) /\ SlAt RWish 3 48 A u a3 n3 m3 (tApart T) /\ SlAt RLabel 2 32 A' u a n cap L /\ Below w.heap.size w u) := fun u hb =>
  have k := on2 B1 hb
  ⟨q0.on hb, hM.out.below k, RTally.firm.kept HTA.out (Kept.below k), s2.on RWish.firm k, s3.on RWish.firm k, hL.out.on RLabel.firm k, k⟩
 have HZ : Hid (∀ t ∈ tNear T, (z t.1 = true ↔ ∀ d, okL d -> g t.1 d = 0)) := hz
 have HOK : Hid (∀ l ∈ L, okL l) := zDg hL.out
 have c2 := (q0.2 2 _ rfl).1
 clear hM hT' hL s1 s2 s3 q0 HTA hz
 go_enter Tryz.func164, Tryz.ntmps164
 go_upto_region 1 with fail
 rw [<- hW1]
 clear hW1
 go_wp2_with fail
 go_loopw [12] (fun i wr => ∃ k : Nat, k <= n2 /\ i = .int .i64 k /\ Below W1.heap.size W1 wr /\ Hid (∀ j, j < k -> lkG T.2.1 L g z ((tNear T).getD j default).1 = false)) (fun i _ => n2 - (intOf i).toNat)
 case atStart => exact ⟨0, Nat.zero_le _, rfl, Below.refl _ _, fun j hj => absurd hj (Nat.not_lt_zero _)⟩
 case round =>
  obtain ⟨k, hk, rfl, hbel, hall⟩ := hrel
  obtain ⟨k0, k1, k2, k3, _, k5, k6⟩ := HQ.out wr hbel
  by_cases hlt : k < n2
  ·
   have hin : (tNear T).getD k default ∈ tNear T := zF8 (by rw [hl2.out]; exact hlt)
   have hcl := k1.c _ (List.mem_append.2 (.inl hin))
   have hzk := HZ.out _ hin
   obtain ⟨B, off, rfl, hB, hAB, ws, hr, hv⟩ := k3.get hlt
   obtain ⟨⟨b1, b2, b3⟩, rfl, hreq, hkey⟩ := hr.out
   simp only at hreq hkey hv
   have d0 := hv 0 _ rfl
   have d1 := hv 1 _ rfl
   have d2 := hv 2 _ rfl
   rw [Nat.add_zero] at d0
   have HNo : Hid (lkG T.2.1 L g z ((tNear T).getD k default).1 = false -> ∀ j, j < k + 1 -> lkG T.2.1 L g z ((tNear T).getD j default).1 = false) := fun h j hj => by
    rcases Nat.lt_succ_iff_lt_or_eq.1 hj with h1 | rfl
    ·exact hall.out j h1
    ·exact h
   have HYes : Hid (lkG T.2.1 L g z ((tNear T).getD k default).1 = true -> (tNear T).any (fun t => lkG T.2.1 L g z t.1) = true) := fun h => anyY8 (f := fun (t : WishD) => lkG T.2.1 L g z t.1) (by rw [hl2.out]; exact hlt) h
   generalize (tNear T).getD k default = t at hcl hzk hreq hkey d0 d1 d2 HNo HYes
   obtain ⟨V, hV⟩ : ∃ V, V = wr.alloc (.cells #[.slice b1 b2 b3, .string t.1.2, .map (some t.2)] 254) := ⟨_, rfl⟩
   have bV : Below wr.heap.size wr V := by rw [hV]; go_grown
   have qw : BoxL V wr.heap.size [.slice b1 b2 b3, .string t.1.2, .map (some t.2)] := by rw [hV]; exact BoxL.new wr 254 _
   have HD := zBL a n cap A' L t.1.2 V (k5.on RLabel.firm bV)
   have z1 := (qw.2 1 _ rfl).1
   have HQ2 : Hid (∀ u, Below V.heap.size V u -> BoxL u w.heap.size [.string T.1, .slice a1 n1 m1, .slice (some ⟨B, off, none⟩) n2 m2, .slice a3 n3 m3, .map (some T.2.2.2.2)] /\ BoxL u wr.heap.size [.slice b1 b2 b3, .string t.1.2, .map (some t.2)] /\ CntAt u t.2 N (g t.1) /\ RTally A u [.string T.1, .slice a1 n1 m1, .slice (some ⟨B, off, none⟩) n2 m2, .slice a3 n3 m3, .map (some T.2.2.2.2)] T /\ SlAt RReq 3 48 A u b1 b2 b3 t.1.1 /\ Below W1.heap.size W1 u) := fun u hb => ⟨(k0.on bV).on hb, qw.on hb, (hcl.on bV).on hb, RTally.firm.kept (RTally.firm.kept k2 (Kept.below bV)) (Kept.below hb), (hreq.on RReq.firm bV).on RReq.firm hb, on2 (on2 hbel bV) hb⟩
   have HOk : Hid ((getL L t.1.2).2 = true -> okL (domL L t.1.2)) := dom_ok hkey HOK.out
   have HLk : Hid (lkG T.2.1 L g z t.1 = (!(getL L t.1.2).2 || (decide (g t.1 (domL L t.1.2) = 0) && !(z t.1 && matchL T.2.1 t.1.1)))) := rfl
   have HZk : Hid (z t.1 = true ↔ ∀ d, okL d -> g t.1 d = 0) := hzk
   clear hr hv hreq hcl k0 k1 k2 k3 k5 k6 bV qw hzk hall
   generalize lkG T.2.1 L g z t.1 = lk at HNo HYes HLk
   go_upto_region 4 with fail
   rw [<- hV]
   clear hV
   go_wp2_with fail
   refine HD.mono ?_
   clear HD z1 d0 d1 d2
   rintro e w3 ⟨rfl, hb3'⟩
   simp only [domL] at HOk HLk
   skip
   cases ht : (getL L t.1.2).2
   ·
    rw [ht] at HLk HOk
    have hlk : lk = true := by rw [HLk.out]; rfl
    have HR := HYes.out hlk
    have HB : Hid (Below w.heap.size w w3) := on2 B1 (HQ2.out w3 hb3').2.2.2.2.2
    clear HQ2 HLk HOk HNo HYes hb3' HZk ht hlk
    generalize (getL L t.1.2).1 = v
    go_wp2_with fail
    go_ret
    exact ⟨(by rw [HR]; try rfl), on2 HB.out (by go_grown)⟩
   ·
    rw [ht] at HLk HOk
    have hok := HOk.out rfl
    obtain ⟨W4, hW4⟩ : ∃ W, W = w3.alloc (.cells #[.string t.1.2, .string (getL L t.1.2).1] 161) := ⟨_, rfl⟩
    have b4 : Below V.heap.size V W4 := by rw [hW4]; exact on2 hb3' (by go_grown)
    have ql : BoxL W4 w3.heap.size [.string t.1.2, .string (getL L t.1.2).1] := by rw [hW4]; exact BoxL.new w3 161 _
    obtain ⟨j0, j1, j2, j3, j4, j5⟩ := HQ2.out W4 b4
    have hlk := j2.look 214 Tryz.underlying214 hok
    have y0 := (j0.2 0 _ rfl).1; have y1 := (j0.2 1 _ rfl).1; have y2 := (j0.2 2 _ rfl).1; have y3 := (j0.2 3 _ rfl).1; have y4 := (j0.2 4 _ rfl).1
    have x0 := (j1.2 0 _ rfl).1; have x1 := (j1.2 1 _ rfl).1; have x2 := (j1.2 2 _ rfl).1
    have l0 := (ql.2 0 _ rfl).1; have l1 := (ql.2 1 _ rfl).1
    have HFi := zFe b1 b2 b3 t.1.1 t.1.2 (z t.1) HZk.out j2 j3 j4
    have HB4 : Hid (Below W1.heap.size W1 W4) := j5
    clear HQ2 HOk j0 j1 j2 j3 j4 j5 ql b4 hb3' HZk ht hok
    simp only [Bool.not_true, Bool.false_or] at HLk
    have HLa : Hid (g t.1 (t.1.2, (getL L t.1.2).1) = 0 -> lk = !(z t.1 && matchL T.2.1 t.1.1)) := fun h => by rw [HLk.out]; simp [h]
    have HLb : Hid (¬ g t.1 (t.1.2, (getL L t.1.2).1) = 0 -> lk = false) := fun h => by rw [HLk.out]; simp [h]
    clear HLk
    generalize (getL L t.1.2).1 = v at hW4 hlk HLa HLb l1 |-
    generalize g t.1 (t.1.2, v) = c at hlk HLa HLb
    generalize (z t.1 && matchL T.2.1 t.1.1) = fb at HFi HLa
    go_upto_region 5 with fail
    rw [<- hW4]
    clear hW4
    by_cases hc0 : c = 0
    ·
     have hc1 : (c == 0) = true := by simpa using hc0
     have HL2 : Hid (lk = !fb) := HLa.out hc0
     clear HLa HLb hc0
     go_wp2_with fail
     refine HFi.mono ?_
     rintro e w5 ⟨rfl, hb5⟩
     have hbw : Below W1.heap.size W1 w5 := on2 HB4.out hb5
     clear HFi hlk y0 y1 y2 y3 y4 x0 x1 x2 l0 l1 hb5
     cases fb
     ·
      have HR := HYes.out HL2.out
      have HB : Hid (Below w.heap.size w w5) := on2 B1 hbw
      clear HL2 HNo HYes HB4
      go_wp2_with fail
      go_ret
      exact ⟨(by rw [HR]; try rfl), HB.out⟩
     ·
      have HN := HNo.out HL2.out
      clear HL2 HNo HYes HB4
      go_wp2_with fail
      go_roundw
      case rel => exact ⟨k + 1, by omega, by go_num, hbw, HN⟩
      case measure => simp [intOf]; omega
    ·
     have hc1 : (c == 0) = false := by simpa using hc0
     have HN := HNo.out (HLb.out hc0)
     clear HLa HLb hc0 HNo HYes HFi
     have hbw := HB4.out
     go_wp2_with fail
     go_roundw
     case rel => exact ⟨k + 1, by omega, by go_num, hbw, HN⟩
     case measure => simp [intOf]; omega
  ·
   have HR : Hid ((tNear T).any (fun t => lkG T.2.1 L g z t.1) = false) := anyN8 (f := fun (t : WishD) => lkG T.2.1 L g z t.1) (fun j hj => hall.out j (by have := hl2.out; omega))
   have HB : Hid (Below w.heap.size w wr) := k6
   clear k0 k1 k2 k3 k5 k6 hall
   go_wp2_with fail
   go_ret
   exact ⟨(by rw [HR.out]; try rfl), HB.out⟩
theorem zEM {w : World} {T : TalD} {ts : List Value} {A A' : Where} {N : Nat} {g : TermD -> Lab -> Int} {oF : Lab -> Int} (z : TermD -> Bool) (hz : ∀ t ∈ tNear T, (z t.1 = true ↔ ∀ d, okL d -> g t.1 d = 0)) (a : Option Addr) (n cap : Nat) (L : List Lab) (hM : Hid (MapsAt w T N g oF)) (hT' : Hid (RTally A w ts T)) (hL : Hid (SlAt RLabel 2 32 A' w a n cap L)) :
  Calls Tryz.prog 165 #[.agg ts.toArray, .slice a n cap] w fun e w' => e = .returned (.bool ((tApart T).any (fun t => apG L g t.1))) /\ Below w.heap.size w w' := by
 have HTA : Hid (RTally A w ts T) := hT'
 obtain ⟨⟨a1, n1, m1⟩, ⟨a2, n2, m2⟩, ⟨a3, n3, m3⟩, rfl, _, s1, s2, s3⟩ := hT'.out.out
 simp only at s1 s2 s3 HTA |-
 obtain ⟨W1, hW1⟩ : ∃ W, W = w.alloc (.cells #[.string T.1, .slice a1 n1 m1, .slice a2 n2 m2, .slice a3 n3 m3, .map (some T.2.2.2.2)] 216) := ⟨_, rfl⟩
 have B1 : Below w.heap.size w W1 := by rw [hW1]; go_grown
 have q0 : BoxL W1 w.heap.size [.string T.1, .slice a1 n1 m1, .slice a2 n2 m2, .slice a3 n3 m3, .map (some T.2.2.2.2)] := by rw [hW1]; exact BoxL.new w 216 _
 have hl2 : Hid ((tNear T).length = n2) := s2.1
 have hl3 : Hid ((tApart T).length = n3) := s3.1
 have hll : Hid (L.length = n) := hL.out.1
 have hb2 : n2 < 140737488355328 := by have := s2.2.2.2.1; omega
 have hb3 : n3 < 140737488355328 := by have := s3.2.2.2.1; omega
 have hbn : n < 140737488355328 := by have := hL.out.2.2.2.1; omega
 have HQ : Hid (∀ u, Below W1.heap.size W1 u -> BoxL u w.heap.size [.string T.1, .slice a1 n1 m1, .slice a2 n2 m2, .slice a3 n3 m3, .map (some T.2.2.2.2)] /\ MapsAt u T N g oF /\ RTally A u [.string T.1, .slice a1 n1 m1, .slice a2 n2 m2, .slice a3 n3 m3, .map (some T.2.2.2.2)] T /\ SlAt RWish 3 48 A u a2 n2 m2 (tNear T) /\ SlAt RWish 3 48 A u a3 n3 m3 (tApart T) /\ SlAt RLabel 2 32 A' u a n cap L /\ Below w.heap.size w u) := fun u hb =>
  have k := on2 B1 hb
  ⟨q0.on hb, hM.out.below k, RTally.firm.kept HTA.out (Kept.below k), s2.on RWish.firm k, s3.on RWish.firm k, hL.out.on RLabel.firm k, k⟩
 have HZ : Hid (∀ t ∈ tNear T, (z t.1 = true ↔ ∀ d, okL d -> g t.1 d = 0)) := hz
 have HOK : Hid (∀ l ∈ L, okL l) := zDg hL.out
 have c3 := (q0.2 3 _ rfl).1
 clear hM hT' hL s1 s2 s3 q0 HTA hz HZ
 go_enter Tryz.func165, Tryz.ntmps165
 go_upto_region 1 with fail
 rw [<- hW1]
 clear hW1
 go_wp2_with fail
 go_loopw [10] (fun i wr => ∃ k : Nat, k <= n3 /\ i = .int .i64 k /\ Below W1.heap.size W1 wr /\ Hid (∀ j, j < k -> apG L g ((tApart T).getD j default).1 = false)) (fun i _ => n3 - (intOf i).toNat)
 case atStart => exact ⟨0, Nat.zero_le _, rfl, Below.refl _ _, fun j hj => absurd hj (Nat.not_lt_zero _)⟩
 case round =>
  obtain ⟨k, hk, rfl, hbel, hall⟩ := hrel
  obtain ⟨k0, k1, k2, _, k3, k5, k6⟩ := HQ.out wr hbel
  by_cases hlt : k < n3
  ·
   have hin : (tApart T).getD k default ∈ tApart T := zF8 (by rw [hl3.out]; exact hlt)
   have hcl := k1.c _ (List.mem_append.2 (.inr hin))
   obtain ⟨B, off, rfl, hB, hAB, ws, hr, hv⟩ := k3.get hlt
   obtain ⟨⟨b1, b2, b3⟩, rfl, hreq, hkey⟩ := hr.out
   simp only at hreq hkey hv
   have d0 := hv 0 _ rfl
   have d1 := hv 1 _ rfl
   have d2 := hv 2 _ rfl
   rw [Nat.add_zero] at d0
   have HNo : Hid (apG L g ((tApart T).getD k default).1 = false -> ∀ j, j < k + 1 -> apG L g ((tApart T).getD j default).1 = false) := fun h j hj => by
    rcases Nat.lt_succ_iff_lt_or_eq.1 hj with h1 | rfl
    ·exact hall.out j h1
    ·exact h
   have HYes : Hid (apG L g ((tApart T).getD k default).1 = true -> (tApart T).any (fun t => apG L g t.1) = true) := fun h => anyY8 (f := fun (t : WishD) => apG L g t.1) (by rw [hl3.out]; exact hlt) h
   generalize (tApart T).getD k default = t at hcl hreq hkey d0 d1 d2 HNo HYes
   obtain ⟨V, hV⟩ : ∃ V, V = wr.alloc (.cells #[.slice b1 b2 b3, .string t.1.2, .map (some t.2)] 254) := ⟨_, rfl⟩
   have bV : Below wr.heap.size wr V := by rw [hV]; go_grown
   have qw : BoxL V wr.heap.size [.slice b1 b2 b3, .string t.1.2, .map (some t.2)] := by rw [hV]; exact BoxL.new wr 254 _
   have HD := zCp (hcl.on bV) a n cap A' L t.1.2 (k5.on RLabel.firm bV) hkey
   have z1 := (qw.2 1 _ rfl).1
   have z2 := (qw.2 2 _ rfl).1
   have HbV : Hid (Below W1.heap.size W1 V) := on2 hbel bV
   have HLk : Hid (apG L g t.1 = ((getL L t.1.2).2 && decide (0 < g t.1 (domL L t.1.2)))) := rfl
   rw [<- HLk.out] at HD
   clear hr hv hreq hcl k0 k1 k2 k3 k5 k6 bV qw hall HLk
   generalize apG L g t.1 = lk at HNo HYes HD
   go_upto_region 4 with fail
   rw [<- hV]
   clear hV
   go_wp2_with fail
   refine HD.mono ?_
   clear HD z1 z2 d0 d1 d2
   rintro e w3 ⟨rfl, hb3'⟩
   have hbw : Below W1.heap.size W1 w3 := on2 HbV.out hb3'
   clear hb3'
   cases lk
   ·
    have HN := HNo.out rfl
    clear HNo HYes HbV
    go_wp2_with fail
    go_roundw
    case rel => exact ⟨k + 1, by omega, by go_num, hbw, HN⟩
    case measure => simp [intOf]; omega
   ·
    have HR := HYes.out rfl
    have HB : Hid (Below w.heap.size w w3) := on2 B1 hbw
    clear HNo HYes HbV
    go_wp2_with fail
    go_ret
    exact ⟨(by rw [HR]; try rfl), HB.out⟩
  ·
   have HR : Hid ((tApart T).any (fun t => apG L g t.1) = false) := anyN8 (f := fun (t : WishD) => apG L g t.1) (fun j hj => hall.out j (by have := hl3.out; omega))
   have HB : Hid (Below w.heap.size w wr) := k6
   clear k0 k1 k2 k3 k5 k6 hall
   go_wp2_with fail
   go_ret
   exact ⟨(by rw [HR.out]; try rfl), HB.out⟩
theorem zDD {w : World} {T : TalD} {ts : List Value} {A A' : Where} {N : Nat} {g : TermD -> Lab -> Int} {oF : Lab -> Int} (z : TermD -> Bool) (hz : ∀ t ∈ tNear T, (z t.1 = true ↔ ∀ d, okL d -> g t.1 d = 0)) (a : Option Addr) (n cap : Nat) (L : List Lab) (hM : Hid (MapsAt w T N g oF)) (hT' : Hid (RTally A w ts T)) (hL : Hid (SlAt RLabel 2 32 A' w a n cap L)) :
  Calls Tryz.prog 166 #[.agg ts.toArray, .slice a n cap] w fun e w' => e = .returned (.bool (L.any (otG L oF))) /\ Below w.heap.size w w' := by
 have HTA : Hid (RTally A w ts T) := hT'
 obtain ⟨⟨a1, n1, m1⟩, ⟨a2, n2, m2⟩, ⟨a3, n3, m3⟩, rfl, _, s1, s2, s3⟩ := hT'.out.out
 simp only at s1 s2 s3 HTA |-
 obtain ⟨W1, hW1⟩ : ∃ W, W = w.alloc (.cells #[.string T.1, .slice a1 n1 m1, .slice a2 n2 m2, .slice a3 n3 m3, .map (some T.2.2.2.2)] 216) := ⟨_, rfl⟩
 have B1 : Below w.heap.size w W1 := by rw [hW1]; go_grown
 have q0 : BoxL W1 w.heap.size [.string T.1, .slice a1 n1 m1, .slice a2 n2 m2, .slice a3 n3 m3, .map (some T.2.2.2.2)] := by rw [hW1]; exact BoxL.new w 216 _
 have hl2 : Hid ((tNear T).length = n2) := s2.1
 have hl3 : Hid ((tApart T).length = n3) := s3.1
 have hll : Hid (L.length = n) := hL.out.1
 have hb2 : n2 < 140737488355328 := by have := s2.2.2.2.1; omega
 have hb3 : n3 < 140737488355328 := by have := s3.2.2.2.1; omega
 have hbn : n < 140737488355328 := by have := hL.out.2.2.2.1; omega
 have HQ : Hid (∀ u, Below W1.heap.size W1 u -> BoxL u w.heap.size [.string T.1, .slice a1 n1 m1, .slice a2 n2 m2, .slice a3 n3 m3, .map (some T.2.2.2.2)] /\ MapsAt u T N g oF /\ RTally A u [.string T.1, .slice a1 n1 m1, .slice a2 n2 m2, .slice a3 n3 m3, .map (some T.2.2.2.2)] T /\ SlAt RWish 3 48 A u a2 n2 m2 (tNear T) /\ SlAt RWish 3 48 A u a3 n3 m3 (tApart T) /\ SlAt RLabel 2 32 A' u a n cap L /\ Below w.heap.size w u) := fun u hb =>
  have k := on2 B1 hb
  ⟨q0.on hb, hM.out.below k, RTally.firm.kept HTA.out (Kept.below k), s2.on RWish.firm k, s3.on RWish.firm k, hL.out.on RLabel.firm k, k⟩
 have HZ : Hid (∀ t ∈ tNear T, (z t.1 = true ↔ ∀ d, okL d -> g t.1 d = 0)) := hz
 have HOK : Hid (∀ l ∈ L, okL l) := zDg hL.out
 clear hM hT' hL s1 s2 s3 q0 HTA hz HZ
 go_enter Tryz.func166, Tryz.ntmps166
 go_upto_region 1 with fail
 rw [<- hW1]
 clear hW1
 go_wp2_with fail
 go_loopw [9] (fun i wr => ∃ k : Nat, k <= n /\ i = .int .i64 k /\ Below W1.heap.size W1 wr /\ Hid (∀ j, j < k -> otG L oF (L.getD j default) = false)) (fun i _ => n - (intOf i).toNat)
 case atStart => exact ⟨0, Nat.zero_le _, rfl, Below.refl _ _, fun j hj => absurd hj (Nat.not_lt_zero _)⟩
 case round =>
  obtain ⟨k, hk, rfl, hbel, hall⟩ := hrel
  obtain ⟨k0, k1, k2, _, _, k5, k6⟩ := HQ.out wr hbel
  by_cases hlt : k < n
  ·
   obtain ⟨B, off, rfl, hB, hAB, ws, hr, hv⟩ := k5.get hlt
   obtain ⟨rfl, hok1, hok2⟩ := hr.out
   have d0 := hv 0 _ rfl
   have d1 := hv 1 _ rfl
   rw [Nat.add_zero] at d0
   have HNo : Hid (otG L oF (L.getD k default) = false -> ∀ j, j < k + 1 -> otG L oF (L.getD j default) = false) := fun h j hj => by
    rcases Nat.lt_succ_iff_lt_or_eq.1 hj with h1 | rfl
    ·exact hall.out j h1
    ·exact h
   have HYes : Hid (otG L oF (L.getD k default) = true -> L.any (otG L oF) = true) := fun h => anyY8 (by rw [hll.out]; exact hlt) h
   generalize L.getD k default = l at hok1 hok2 d0 d1 HNo HYes
   obtain ⟨V, hV⟩ : ∃ V, V = wr.alloc (.cells #[.string l.1, .string l.2] 161) := ⟨_, rfl⟩
   have bV : Below wr.heap.size wr V := by rw [hV]; go_grown
   have qw : BoxL V wr.heap.size [.string l.1, .string l.2] := by rw [hV]; exact BoxL.new wr 161 _
   have HD := zCp (k1.o.on bV) _ n cap A' L l.1 (k5.on RLabel.firm bV) hok1
   have hlk := (k1.o.on bV).look 214 Tryz.underlying214 (d := l) ⟨hok1, hok2⟩
   have z0 := (qw.2 0 _ rfl).1
   have z1 := (qw.2 1 _ rfl).1
   have y4 := ((k0.on bV).2 4 _ rfl).1
   have HbV : Hid (Below W1.heap.size W1 V) := on2 hbel bV
   have HLk : Hid (otG L oF l = (decide (0 < oF l) && ((getL L l.1).2 && decide (0 < oF (domL L l.1))))) := rfl
   clear hr hv k0 k1 k2 k5 k6 bV qw hall
   generalize otG L oF l = lk at HNo HYes HLk
   generalize ((getL L l.1).2 && decide (0 < oF (domL L l.1))) = hb at HD HLk
   obtain ⟨pb, hpb⟩ : ∃ pb, decide (0 < oF l) = pb := ⟨_, rfl⟩
   rw [hpb] at HLk
   generalize hoc : oF l = c at hlk hpb
   clear hoc
   go_upto_region 4 with fail
   rw [<- hV]
   clear hV
   cases pb
   ·
    have HN := HNo.out (by rw [HLk.out]; rfl)
    have hbw := HbV.out
    clear HNo HYes HLk HD
    go_wp2_with fail
    go_roundw
    case rel => exact ⟨k + 1, by omega, by go_num, hbw, HN⟩
    case measure => simp [intOf]; omega
   ·
    go_wp2_with fail
    refine HD.mono ?_
    clear HD hlk z0 z1 y4 d0 d1
    rintro e w3 ⟨rfl, hb3'⟩
    have hbw : Below W1.heap.size W1 w3 := on2 HbV.out hb3'
    clear hb3'
    cases hb
    ·
     have HN := HNo.out (by rw [HLk.out]; rfl)
     clear HNo HYes HbV HLk
     go_wp2_with fail
     go_roundw
     case rel => exact ⟨k + 1, by omega, by go_num, hbw, HN⟩
     case measure => simp [intOf]; omega
    ·
     have HR := HYes.out (by rw [HLk.out]; rfl)
     have HB : Hid (Below w.heap.size w w3) := on2 B1 hbw
     clear HNo HYes HbV HLk
     go_wp2_with fail
     go_ret
     exact ⟨(by rw [HR]; try rfl), HB.out⟩
  ·
   have HR : Hid (L.any (otG L oF) = false) := anyN8 (fun j hj => hall.out j (by have := hll.out; omega))
   have HB : Hid (Below w.heap.size w wr) := k6
   clear k0 k1 k2 k5 k6 hall
   go_wp2_with fail
   go_ret
   exact ⟨(by rw [HR.out]; try rfl), HB.out⟩
theorem RPod.reads9 {A : Where} {w : World} {cs : List Value} {p : PodD} (h : RPod A w cs p) : ∃ h2 h12 : Hd, cs[0]? = some (.string p.1) /\ cs[2]? = some (.slice h2.1 h2.2.1 h2.2.2) /\ cs[12]? = some (.slice h12.1 h12.2.1 h12.2.2) /\ SlAt RLabel 2 32 A w h2.1 h2.2.1 h2.2.2 (pLabs p) /\ SlAt RSpread 4 56 A w h12.1 h12.2.1 h12.2.2 (pSpreads p) := by
 obtain ⟨h2, h6, h7, h8, h9, h10, h11, h12, h13, rfl, _, s2, _, _, _, _, _, _, s12, _⟩ := h.out
 exact ⟨h2, h12, rfl, rfl, rfl, s2, s12⟩
theorem any_take9 {α : Type} [Inhabited α] (f : α -> Bool) {L : List α} {k : Nat} (h : k < L.length) (h0 : (L.take k).any f = false) (h1 : f (L.getD k default) = false) : (L.take (k + 1)).any f = false := by
 rw [<- zCS h, List.any_append, h0]
 generalize L.getD k default = y at h1 |-
 simp [h1]
theorem any_at9 {α : Type} [Inhabited α] (f : α -> Bool) {L : List α} {k : Nat} (h : k < L.length) (h1 : f (L.getD k default) = true) : L.any f = true := by
 rw [List.any_eq_true]
 exact ⟨L.getD k default, by rw [List.getD_eq_getElem?_getD, List.getElem?_eq_getElem h]; exact List.getElem_mem h, h1⟩
theorem sizeSp : (Tryz.prog.info? 135).map (·.size) = some 4 := by kernel_rfl
def PcS (D P : Nat) (s : SpreadD) (r1 : Option Addr) (r2 r3 : Nat) (cs : List Value) (u : World) : Prop :=
 (u.cell? ⟨D, 0, none⟩ = some (.string s.1) /\ u.cell? ⟨D, 1, none⟩ = some (.int .i64 s.2.1) /\ u.cell? ⟨D, 2, none⟩ = some (.int .i64 s.2.2.1) /\ u.cell? ⟨D, 3, none⟩ = some (.slice r1 r2 r3)) /\ Hid (u.rangeAt P 0 cs)
theorem PcS.of {D P : Nat} {s : SpreadD} {r1 : Option Addr} {r2 r3 : Nat} {cs : List Value} {u : World} (h : BoxL u D [.string s.1, .int .i64 s.2.1, .int .i64 s.2.2.1, .slice r1 r2 r3]) (k : BoxL u P cs) : PcS D P s r1 r2 r3 cs u :=
 ⟨⟨(h.2 0 _ rfl).1, (h.2 1 _ rfl).1, (h.2 2 _ rfl).1, (h.2 3 _ rfl).1⟩, k.range⟩
theorem zH3 (cs : List Value) (p : PodD) (la : Option Addr) (ln lc : Nat) (Lb : List Lab) (a : Option Addr) (n cap : Nat) (N : List NodeD) (b : Option Addr) (m capb : Nat) (Pl : List PlacedD) (w : World) (hp : Hid (RPod (fun _ => True) w cs p)) (hL : Hid (SlAt RLabel 2 32 (fun _ => True) w la ln lc Lb)) (hN : Hid (SlAt RNode 9 112 (fun _ => True) w a n cap N)) (hP : Hid (SlAt RPlaced 17 320 (fun _ => True) w b m capb Pl)) :
  Calls Tryz.prog 109 #[.agg cs.toArray, .slice la ln lc, .slice a n cap, .slice b m capb] w fun e w' => e = .returned (.int .i64 (spreadP 12 p Lb N Pl)) /\ Below w.heap.size w w' := by
 have hi16 : (Tryz.prog.info? 49).map (·.size) = some cs.length := by rw [RPod.firm.len hp.out]; exact zGA
 obtain ⟨⟨h1, h2, h3⟩, e12, ssp⟩ : ∃ h : Hd, cs[12]? = some (.slice h.1 h.2.1 h.2.2) /\ SlAt RSpread 4 56 (fun _ => True) w h.1 h.2.1 h.2.2 (pSpreads p) := by
  obtain ⟨h2, h12, _, _, e, _, s12⟩ := hp.out.reads9
  exact ⟨h12, e, s12⟩
 simp only at e12 ssp
 obtain ⟨W1, hW1⟩ : ∃ W, W = w.alloc (.cells cs.toArray 49) := ⟨_, rfl⟩
 have B1 : Below w.heap.size w W1 := by rw [hW1]; go_grown
 have qp : BoxL W1 w.heap.size cs := by rw [hW1]; exact BoxL.new w 49 _
 have c12 := (qp.2 12 _ e12).1
 have hq2 : Hid ((pSpreads p).length = h2) := ssp.1
 have hlen := ssp.len (by decide)
 have HU : Hid (∀ u, Below W1.heap.size W1 u -> BoxL u w.heap.size cs /\ RPod (fun _ => True) u cs p /\ SlAt RSpread 4 56 (fun _ => True) u h1 h2 h3 (pSpreads p) /\ SlAt RLabel 2 32 (fun _ => True) u la ln lc Lb /\ SlAt RNode 9 112 (fun _ => True) u a n cap N /\ SlAt RPlaced 17 320 (fun _ => True) u b m capb Pl /\ Below w.heap.size w u) := fun u hb => ⟨qp.on hb, RPod.firm.kept hp.out (Kept.below (on2 B1 hb)), ssp.on RSpread.firm (on2 B1 hb), hL.out.on RLabel.firm (on2 B1 hb), hN.out.on RNode.firm (on2 B1 hb), hP.out.on RPlaced.firm (on2 B1 hb), on2 B1 hb⟩
 have HAns : Hid (spreadP 12 p Lb N Pl = if (pSpreads p).any (badS (pLabs p) Lb N (othersN p.1 Pl)) = true then 12 else 0) := rfl
 clear hp hL hN hP ssp qp B1 e12
 generalize spreadP 12 p Lb N Pl = ans at HAns
 go_enter Tryz.func109, Tryz.ntmps109
 go_upto_region 1 with fail
 rw [<- hW1]
 clear hW1
 go_wp2_with fail
 go_loopw [16] (fun i wr => ∃ k : Nat, k <= h2 /\ i = .int .i64 k /\ Hid (((pSpreads p).take k).any (badS (pLabs p) Lb N (othersN p.1 Pl)) = false /\ Below W1.heap.size W1 wr)) (fun i _ => h2 - (intOf i).toNat)
 case atStart => exact ⟨0, Nat.zero_le _, rfl, rfl, Below.refl _ _⟩
 case round =>
  obtain ⟨k, hk, rfl, hst⟩ := hrel
  by_cases hlt : k < h2
  ·have hltz : (k : Int) < (h2 : Int) := by omega
   have hkl : k < (pSpreads p).length := by rw [hq2.out]; exact hlt
   obtain ⟨q0, q1, q2, q3, q4, q5, q6⟩ := HU.out wr hst.out.2
   obtain ⟨B, off, rfl, hB, _, xs, hr, hv⟩ := q2.get hlt
   have HNo : Hid (badS (pLabs p) Lb N (othersN p.1 Pl) ((pSpreads p).getD k default) = false -> ((pSpreads p).take (k + 1)).any (badS (pLabs p) Lb N (othersN p.1 Pl)) = false) := fun h => any_take9 _ hkl hst.out.1 h
   have HYes : Hid (badS (pLabs p) Lb N (othersN p.1 Pl) ((pSpreads p).getD k default) = true -> (pSpreads p).any (badS (pLabs p) Lb N (othersN p.1 Pl)) = true) := fun h => any_at9 _ hkl h
   generalize (pSpreads p).getD k default = s at hr HNo HYes
   obtain ⟨⟨r1, r2, r3⟩, rfl, _, sr⟩ := hr.out
   simp only at sr
   have d0 := hv 0 _ rfl
   have d1 := hv 1 _ rfl
   have d2 := hv 2 _ rfl
   have d3 := hv 3 _ rfl
   rw [Nat.add_zero] at d0
   obtain ⟨V0, hV0⟩ : ∃ V, V = wr.alloc (.cells #[.string ⟨#[]⟩, .int .i64 0, .int .i64 0, .slice none 0 0] 135) := ⟨_, rfl⟩
   have qv0 : BoxL V0 wr.heap.size [.string ⟨#[]⟩, .int .i64 0, .int .i64 0, .slice none 0 0] := by rw [hV0]; exact BoxL.new wr 135 _
   obtain ⟨V, hV⟩ : ∃ V, V = V0.setCells wr.heap.size 0 [.string s.1, .int .i64 s.2.1, .int .i64 s.2.2.1, .slice r1 r2 r3] := ⟨_, rfl⟩
   have bV : Below wr.heap.size wr V := by rw [hV, hV0]; exact zA0 ((Below.refl _ _).alloc (Nat.le_refl _) _) (Nat.le_refl _)
   have qV : BoxL V wr.heap.size [.string s.1, .int .i64 s.2.1, .int .i64 s.2.2.1, .slice r1 r2 r3] := by rw [hV]; exact zA2 qv0 rfl
   have HTh : Hid (V0.there wr.heap.size 0 (#[.string s.1, .int .i64 s.2.1, .int .i64 s.2.2.1, .slice r1 r2 r3] : Array Value).size) := qv0.there
   have HWV : Hid (V = V0.setCells wr.heap.size 0 (#[.string s.1, .int .i64 s.2.1, .int .i64 s.2.2.1, .slice r1 r2 r3] : Array Value).toList) := by rw [Hid, hV]
   have HV0 : Hid (V0 = wr.alloc (.cells #[.string ⟨#[]⟩, .int .i64 0, .int .i64 0, .slice none 0 0] 135)) := hV0
   have hsz4 : (Tryz.prog.info? 135).map (·.size) = some (#[.string s.1, .int .i64 s.2.1, .int .i64 s.2.2.1, .slice r1 r2 r3] : Array Value).size := sizeSp
   have HOc : Hid ((#[.string s.1, .int .i64 s.2.1, .int .i64 s.2.2.1, .slice r1 r2 r3] : Array Value).all (·.oneCell') = true) := by rw [Hid]; simp [Value.oneCell']
   have HS : Hid (∀ u, Below V.heap.size V u -> PcS wr.heap.size w.heap.size s r1 r2 r3 cs u) := fun u hb => PcS.of (qV.on hb) ((q0.on bV).on hb)
   have hd : Below wr.heap.size wr V.drew := bV.drew
   have hO := zHb w.heap.size cs p V.drew (q0.on hd) (RPod.firm.kept q1 (Kept.below hd))
   have hC := zDH s r1 r2 r3 a n cap N b m capb 320 Pl (by decide) 123 #[.pointer (some ⟨w.heap.size, 0, none⟩)] (fun x => sEq x.1 p.1) (enters_of Tryz.func123 (by kernel_rfl) rfl) V.drew (sr.on RReq.firm hd) (q4.on RNode.firm hd) (q5.on RPlaced.firm hd) hO
   rw [left_own] at hC
   have HAd : Hid (∀ u m1 m2, Below V.heap.size V u -> CenAt u s r1 r2 r3 m1 m2 N (othersN p.1 Pl) -> Calls Tryz.prog 125 #[.agg #[.string s.1, .int .i64 s.2.1, .int .i64 s.2.2.1, .slice r1 r2 r3, .map (some m1), .map (some m2)], .agg cs.toArray, .slice la ln lc] u fun e w' => e = .returned (.bool (!badS (pLabs p) Lb N (othersN p.1 Pl) s)) /\ Below u.heap.size u w') := fun u m1 m2 hb hc => zEy s r1 r2 r3 m1 m2 N (othersN p.1 Pl) cs p la ln lc Lb u hc (RPod.firm.kept q1 (Kept.below (on2 bV hb))) (q3.on RLabel.firm (on2 bV hb))
   have HBV : Hid (Below W1.heap.size W1 V /\ Below w.heap.size w V) := ⟨on2 hst.out.2 bV, on2 q6 bV⟩
   clear hst hr hv q0 q1 q2 q3 q4 q5 q6 sr qv0 qV bV hV hV0 hO hd
   generalize badS (pLabs p) Lb N (othersN p.1 Pl) s = bad at HNo HYes HAd
   go_upto_region 5 with (first | (refine zAN HV0.out ?_; refine wpList_store_mid rfl 135 _ _ rfl wr.heap.size 0 #[.string s.1, .int .i64 s.2.1, .int .i64 s.2.2.1, .slice r1 r2 r3] rfl rfl HTh.out hsz4 HOc.out ?_; refine zAN HWV.out ?_) | fail)
   clear HTh HWV HV0 HOc hsz4 d0 d1 d2 d3
   refine t0 (PcS wr.heap.size w.heap.size s r1 r2 r3 cs) (HS.out _ (Below.refl _ _).drew) (fun gH => ?_)
   try go_frame
   refine' tk 0 ?_ ?_; rotate_left
   ·rintro u ⟨⟨_, _, _, _⟩, _⟩; go_simp; try with_reducible rfl
   try go_frame
   refine' tk 1 ?_ ?_; rotate_left
   ·rintro u ⟨⟨_, _, _, _⟩, _⟩; go_simp; try with_reducible rfl
   try go_frame
   refine' tk 2 ?_ ?_; rotate_left
   ·rintro u ⟨⟨_, _, _, _⟩, _⟩; go_simp; try with_reducible rfl
   try go_frame
   refine' tk 3 ?_ ?_; rotate_left
   ·rintro u ⟨⟨_, _, _, _⟩, _⟩; go_simp; try with_reducible rfl
   try go_frame
   refine tq 5 (.agg cs.toArray) (yieldsIf_load_mid (by rfl) 49 _ rfl w.heap.size 0 rfl cs _ (fun u hu => hu.2.out) Tryz.underlying49 rfl hi16) ?_ (hi := rfl)
   try go_frame
   refine' tk 6 ?_ ?_; rotate_left
   ·rintro u ⟨⟨_, _, _, _⟩, _⟩; go_simp; try with_reducible rfl
   try go_frame
   refine tr 4 (fun K hK => ?_)
   go_simp
   refine hC.mono ?_
   rintro e u1 ⟨m1, m2, rfl, hcen, hu1⟩
   have hd1 : Below V.heap.size V u1 := on2 (Below.refl _ _).drew hu1
   have hAd := HAd.out u1 m1 m2 hd1 hcen
   have HD1 : Hid (Below V.heap.size V u1) := hd1
   clear hcen hu1 hC HAd hd1
   go_wp2_with fail
   refine hK.out _ _ (HS.out _ HD1.out) (fun gI => ?_)
   clear hK K gH; have gH := gI; clear gI
   try go_frame
   refine tr 7 (fun K hK => ?_)
   go_simp
   refine hAd.mono ?_
   rintro e u2 ⟨rfl, hu2⟩
   have HD2 : Hid (Below V.heap.size V u2) := on2 HD1.out hu2
   clear hu2 hAd HD1
   go_wp2_with fail
   refine hK.out _ _ (HS.out _ HD2.out) (fun gI => ?_)
   clear hK K gH; have gH := gI; clear gI
   try go_frame
   refine' tk 8 ?_ ?_; rotate_left
   ·rintro u ⟨⟨_, _, _, _⟩, _⟩; go_simp; try with_reducible rfl
   try go_frame
   refine tz ?_
   clear gH HS
   cases bad
   ·have HN3 : Hid (((pSpreads p).take (k + 1)).any (badS (pLabs p) Lb N (othersN p.1 Pl)) = false /\ Below W1.heap.size W1 u2) := ⟨HNo.out rfl, on2 HBV.out.1 HD2.out⟩
    clear HNo HYes HD2
    go_wp2_with fail
    go_roundw
    case rel => exact ⟨k + 1, by omega, by go_num, HN3⟩
    case measure => simp [intOf]; omega
   ·have HF : Hid (ans = 12 /\ Below w.heap.size w u2) := ⟨by rw [HAns.out, if_pos (HYes.out rfl)], on2 HBV.out.2 HD2.out⟩
    clear HNo HYes HD2
    go_wp2_with fail
    go_ret
    exact ⟨by rw [HF.out.1]; rfl, HF.out.2⟩
  ·have htk : (pSpreads p).take k = pSpreads p := List.take_of_length_le (by rw [hq2.out]; omega)
   have hal := hst.out.1
   rw [htk] at hal
   have HF : Hid (ans = 0 /\ Below w.heap.size w wr) := ⟨by rw [HAns.out, hal]; rfl, (HU.out wr hst.out.2).2.2.2.2.2.2⟩
   clear hst htk hal
   go_wp2_with fail
   go_ret
   exact ⟨by rw [HF.out.1]; rfl, HF.out.2⟩
end Go.Proofs.YtnffafjamiffnaaGreat
