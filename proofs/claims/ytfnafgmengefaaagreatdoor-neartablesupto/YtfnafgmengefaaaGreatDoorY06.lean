/- Slices of a slice, and what is needed of the order of what is placed. No condition. The document's there: does something that meets a term stand in one domain with labels? Condition: the arguments lie as is said of them. The document's anywhere: does something that meets a term stand in any domain? Condition: the arguments lie as is said of them. The document's Others: what is placed but of a name. Condition: the slice lies as is said of it. -/
import Derived.Test.YtfnafgmengefaaaGreatDoorQ27
import Derived.Test.YtfnafgmengefaaaGreatDoorQ18
import Derived.Test.YtfnafgmengefaaaGreatDoorQ28
import Derived.Test.YtfnafgmengefaaaGreatDoorQ09
namespace Go.Proofs.YtfnafgmengefaaaGreatDoor
open Go.RowKit
set_option linter.unusedSimpArgs false
set_option maxRecDepth 100000

theorem Row.slO8 {α : Type} [Inhabited α] {R : Rep α} {k : Nat} (hR : Firm R k) {bytes : Nat} {A : Where} {w0 u : World} {e : TypeId} {v : Value} {L : List α} (h : Row R k A w0 u e v L) (hb : L.length * bytes ≤ 140737488351232) :
    ∃ a cap, v = .slice a L.length cap ∧ SlAt R k bytes (fun b => A b ∨ v.ownBlock = some b) u a L.length cap L := by
  obtain ⟨xs, h1, h2⟩ := h
  obtain ⟨a, cap, e1, h3⟩ := sl_of_owns (bytes := bytes) hR h1.2 h2 hb
  exact ⟨a, cap, e1, h3.weak hR (fun b _ hb => by rcases hb with hb | hb; exact .inl hb.1; exact .inr hb)⟩
def dropA8 (a : Option Addr) (cap t : Nat) : Option Addr := match a with | none => none | some ad => if cap = t then some ad else some (ad.add (t * 17))
theorem SlAt.drop8 {α : Type} [Inhabited α] {R : Rep α} {k bytes : Nat} {A : Where} {w : World} {B off n cap : Nat} {L : List α} (h : SlAt R k bytes A w (some ⟨B, off, none⟩) n cap L) {t : Nat} (ht : t ≤ n) : SlAt R k bytes A w (some ⟨B, off + t * k, none⟩) (n - t) (cap - t) (L.drop t) := by
  obtain ⟨h1, h2, h3, h4, h5⟩ := h
  refine ⟨by rw [List.length_drop]; omega, by omega, (fun h => by cases h), Nat.le_trans (Nat.mul_le_mul_right bytes (Nat.sub_le _ _)) h4, fun h0 => ?_⟩
  obtain ⟨B', off', e, hB, hA, hc⟩ := h5 (by omega)
  injection e with e
  injection e with e1 e2
  subst e1 e2
  refine ⟨B, _, rfl, hB, hA, fun i hi => ?_⟩
  obtain ⟨cs, h6, h7⟩ := hc (t + i) (by omega)
  have : (L.drop t).getD i default = L.getD (t + i) default := by
    rw [getE _ _ (show i < (L.drop t).length by rw [List.length_drop]; omega), getE _ _ (show t + i < L.length by omega), List.getElem_drop]
  rw [this]
  refine ⟨cs, h6, fun j v hj => ?_⟩
  have := h7 j v hj
  rwa [Nat.add_mul, ← Nat.add_assoc] at this
theorem sl_dropA8 {A : Where} {u : World} {a : Option Addr} {n cap t : Nat} {L : List PlacedD} (h : SlAt RPlaced 17 320 A u a n cap L) (ht : t ≤ n) : SlAt RPlaced 17 320 A u (dropA8 a cap t) (n - t) (cap - t) (L.drop t) := by
  have hl := h.1
  by_cases hn : n - t = 0
  · have hd : L.drop t = [] := List.drop_eq_nil_of_le (by omega)
    rw [hn, hd]
    refine SlAt.nil _ _ _ _ (fun e => ?_)
    cases a with
    | none => have := h.2.2.1 rfl; omega
    | some ad => simp only [dropA8] at e; split at e <;> cases e
  · obtain ⟨B, off, rfl, _⟩ := h.2.2.2.2 (by omega)
    have hc : ¬ cap = t := by have := h.2.1; omega
    have e : dropA8 (some ⟨B, off, none⟩) cap t = some ⟨B, off + t * 17, none⟩ := by simp only [dropA8, hc, if_false]; rw [add_lit]
    rw [e]
    exact SlAt.drop8 h ht
theorem SlAt.take8 {α : Type} [Inhabited α] {R : Rep α} {k bytes : Nat} {A : Where} {w : World} {a : Option Addr} {n cap : Nat} {L : List α} (h : SlAt R k bytes A w a n cap L) {t : Nat} (ht : t ≤ n) : SlAt R k bytes A w a t cap (L.take t) := by
  obtain ⟨h1, h2, h3, h4, h5⟩ := h
  refine ⟨by rw [List.length_take]; omega, by omega, h3, Nat.le_trans (Nat.mul_le_mul_right bytes ht) h4, fun h0 => ?_⟩
  obtain ⟨B, off, e, hB, hA, hc⟩ := h5 (by omega)
  refine ⟨B, off, e, hB, hA, fun i hi => ?_⟩
  obtain ⟨cs, h6, h7⟩ := hc i (by omega)
  have : (L.take t).getD i default = L.getD i default := by
    rw [getE _ _ (show i < (L.take t).length by rw [List.length_take]; omega), getE _ _ (show i < L.length by omega), List.getElem_take]
  rw [this]
  exact ⟨cs, h6, h7⟩
theorem Among8_calls (n : Int) (m : Nat) (hm : 0 < m) (hml : m ≤ 140737488355328) (w : World) : Calls Tryz.prog 14 #[.int .i64 n, .int .i64 m] w fun e w' => (∃ k : Nat, e = .returned (.int .i64 k) ∧ k < m) ∧ w' = w := by
  have hw : IntKind.u64.wrap (m : Int) = (m : Int) := by simp [IntKind.wrap, IntKind.bits, IntKind.signed]; omega
  have hz : ((m : Int) == 0) = false := by rw [beq_eq_false_iff_ne]; omega
  have hz' : ¬ (m : Int) = 0 := by omega
  generalize hr : IntKind.u64.wrap n = r
  have hr0 : 0 ≤ r := by rw [← hr]; simp [IntKind.wrap, IntKind.bits, IntKind.signed]; omega
  have h1 : 0 ≤ r % (m : Int) := Int.emod_nonneg _ (by omega)
  have h2 : r % (m : Int) < (m : Int) := Int.emod_lt_of_pos _ (by omega)
  have h3 : r.tmod (m : Int) = r % (m : Int) := Int.tmod_eq_emod_of_nonneg hr0
  go_enter Tryz.func14, Tryz.ntmps14
  go_wp2
  go_ret
  refine ⟨⟨(r % (m : Int)).toNat, ?_, by omega⟩, rfl⟩
  rw [Int.toNat_of_nonneg h1]
  rfl
theorem cost_perm {l m : List PlacedD} (h : l.Perm m) : cost l = cost m := by
  unfold cost; exact (h.map _).sum_nat
end Go.Proofs.YtfnafgmengefaaaGreatDoor
namespace Go.Proofs.YtfnafgmengefaaaGreatDoor
open Go.RowKit
set_option linter.unusedSimpArgs false
set_option maxRecDepth 100000

def ThS (T : Nat) (r : Hd) (key : ByteArray) (B o : Nat) (h2 h16 : Hd) (u : World) : Prop :=
  u.cell? ⟨T, 0, none⟩ = some (.slice r.1 r.2.1 r.2.2) ∧ u.cell? ⟨T, 1, none⟩ = some (.string key) ∧ u.cell? ⟨B, o + 2, none⟩ = some (.slice h2.1 h2.2.1 h2.2.2) ∧ u.cell? ⟨B, o + 16, none⟩ = some (.slice h16.1 h16.2.1 h16.2.2)
theorem any_take {α : Type} [Inhabited α] {f : α → Bool} {L : List α} {k : Nat} (hk : k < L.length) (h : (L.take k).any f = false) (h2 : f (L.getD k default) = false) : (L.take (k + 1)).any f = false := by
  rw [List.take_add_one, List.any_append, h, List.getElem?_eq_getElem hk]
  rw [List.getD_eq_getElem?_getD, List.getElem?_eq_getElem hk] at h2
  simpa using h2
theorem any_at {α : Type} [Inhabited α] {f : α → Bool} {L : List α} {k : Nat} (hk : k < L.length) (h2 : f (L.getD k default) = true) : L.any f = true := by
  rw [List.getD_eq_getElem?_getD, List.getElem?_eq_getElem hk] at h2
  exact List.any_eq_true.2 ⟨_, List.getElem_mem hk, h2⟩
set_option maxHeartbeats 8000000 in
theorem there_calls (t : TermD) (r : Hd) (a : Option Addr) (n cap : Nat) (L : List Lab) (b : Option Addr) (m capb : Nat) (Pl : List PlacedD) (A A' A'' : Where) (w : World) (hR : Hid (SlAt RReq 3 48 A w r.1 r.2.1 r.2.2 t.1)) (hL : Hid (SlAt RLabel 2 32 A' w a n cap L)) (hP : Hid (SlAt RPlaced 17 320 A'' w b m capb Pl)) :
    Calls Tryz.prog 30 #[.agg #[.slice r.1 r.2.1 r.2.2, .string t.2], .slice a n cap, .slice b m capb] w fun e w' => e = .returned (.bool (thereT t L Pl)) ∧ Below w.heap.size w w' := by
  obtain ⟨r1, r2, r3⟩ := r
  have hlen := hP.out.len (by decide)
  have hn : Hid (Pl.length = m) := hP.out.1
  have hnL : Hid (L.length = n) := hL.out.1
  obtain ⟨W1, hW1⟩ : ∃ W, W = w.alloc (.cells #[.slice r1 r2 r3, .string t.2] 80) := ⟨_, rfl⟩
  have B1 : Below w.heap.size w W1 := by rw [hW1]; go_grown
  have qx : BoxL W1 w.heap.size [.slice r1 r2 r3, .string t.2] := by rw [hW1]; exact BoxL.new w 80 _
  have HQ : Hid (BoxL W1 w.heap.size [.slice r1 r2 r3, .string t.2] ∧ Below w.heap.size w W1) := ⟨qx, B1⟩
  clear qx B1
  have HF : Hid (thereT t L Pl = Pl.any (fun x => matchL (pLabs x.1) t.1 && sameL x.2 L t.2)) := rfl
  generalize thereT t L Pl = ans at HF
  go_enter Tryz.func30, Tryz.ntmps30
  go_upto_region 2 with fail
  rw [← hW1]
  clear hW1
  go_loopw [7] (fun i wr => ∃ k : Nat, k ≤ m ∧ i = .int .i64 k ∧ Hid (Below W1.heap.size W1 wr ∧ (Pl.take k).any (fun x => matchL (pLabs x.1) t.1 && sameL x.2 L t.2) = false)) (fun i _ => m - (intOf i).toNat)
  case atStart => exact ⟨0, Nat.zero_le _, rfl, Below.refl _ _, rfl⟩
  case round =>
    obtain ⟨k, hk, rfl, hst⟩ := hrel
    by_cases hlt : k < m
    · have hltz : (k : Int) < (m : Int) := by omega
      have hkl : k < Pl.length := by rw [hn.out]; exact hlt
      have hb0 : Below w.heap.size w wr := on2 HQ.out.2 hst.out.1
      obtain ⟨B, off, rfl, hB, _, cs, hr, hv⟩ := (hP.out.on RPlaced.firm hb0).get hlt
      obtain ⟨⟨c1, c2, c3⟩, _, ⟨g1, g2, g3⟩, _, e2, _, e16, s2, _, s16⟩ := hr.reads
      simp only at e2 e16 s2 s16
      have HS : Hid (∀ u, Below wr.heap.size wr u → ThS w.heap.size (r1, r2, r3) t.2 B (off + k * 17) (c1, c2, c3) (g1, g2, g3) u) := fun u hb => ⟨(((HQ.out.1.on hst.out.1).on hb).2 0 _ rfl).1, (((HQ.out.1.on hst.out.1).on hb).2 1 _ rfl).1, (hb.cell (p := ⟨B, off + k * 17 + 2, none⟩) hB).trans (hv 2 _ e2), (hb.cell (p := ⟨B, off + k * 17 + 16, none⟩) hB).trans (hv 16 _ e16)⟩
      have HM := rMatch_sl c1 c2 c3 _ (pLabs (Pl.getD k default).1) r1 r2 r3 _ t.1 wr.drew (s2.on RLabel.firm (Below.refl _ _).drew) ((hR.out.on RReq.firm hb0).on RReq.firm (Below.refl _ _).drew)
      have HSm : Hid (∀ u, Below wr.heap.size wr u → Calls Tryz.prog 33 #[.slice g1 g2 g3, .slice a n cap, .string t.2] u fun e w' => e = .returned (.bool (sameL (Pl.getD k default).2 L t.2)) ∧ w' = u) := fun u hb => by
        have h1 := rSame_calls g1 g3 (Pl.getD k default).2 a cap L t.2 u (labs_of (s16.on RLabel.firm hb)) (labs_of ((hL.out.on RLabel.firm hb0).on RLabel.firm hb))
        rwa [s16.1, hnL.out] at h1
      have HA : Hid (matchL (pLabs (Pl.getD k default).1) t.1 = true → sameL (Pl.getD k default).2 L t.2 = true → ans = true) := fun h1 h2 => by rw [HF.out]; exact any_at (f := fun x : PlacedD => matchL (pLabs x.1) t.1 && sameL x.2 L t.2) hkl (by show (_ && _) = true; rw [h1, h2]; rfl)
      have HN : Hid ((matchL (pLabs (Pl.getD k default).1) t.1 && sameL (Pl.getD k default).2 L t.2) = false → (Pl.take (k + 1)).any (fun x => matchL (pLabs x.1) t.1 && sameL x.2 L t.2) = false) := fun h => any_take hkl hst.out.2 h
      have HB : Hid (Below W1.heap.size W1 wr) := hst.out.1
      clear hst hr hv e2 e16 s2 s16
      generalize matchL (pLabs (Pl.getD k default).1) t.1 = y1 at HM HA HN
      generalize sameL (Pl.getD k default).2 L t.2 = y2 at HSm HA HN
      go_upto_region 4 with fail
      refine t0 (ThS w.heap.size (r1, r2, r3) t.2 B (off + k * 17) (c1, c2, c3) (g1, g2, g3)) (HS.out _ (Below.refl _ _).drew) (fun hHeld => ?_)
      refine' tk 0 ?_ ?_; rotate_left
      · intro u ⟨_, _, _, _⟩; go_simp; try with_reducible rfl
      try go_frame
      refine' tk 1 ?_ ?_; rotate_left
      · intro u ⟨_, _, _, _⟩; go_simp; try with_reducible rfl
      try go_frame
      refine' tk 2 ?_ ?_; rotate_left
      · intro u ⟨_, _, _, _⟩; go_simp; try with_reducible rfl
      try go_frame
      refine' tk 3 ?_ ?_; rotate_left
      · intro u ⟨_, _, _, _⟩; go_simp; try with_reducible rfl
      try go_frame
      refine' tk 4 ?_ ?_; rotate_left
      · intro u ⟨_, _, _, _⟩; go_simp; try with_reducible rfl
      try go_frame
      refine' tk 5 ?_ ?_; rotate_left
      · intro u ⟨_, _, _, _⟩; go_simp; try with_reducible rfl
      try go_frame
      refine' tk 6 ?_ ?_; rotate_left
      · intro u ⟨_, _, _, _⟩; go_simp; try with_reducible rfl
      try go_frame
      refine' tk 7 ?_ ?_; rotate_left
      · intro u ⟨_, _, _, _⟩; go_simp; try with_reducible rfl
      try go_frame
      refine tr 8 (fun K hK => ?_)
      go_simp
      refine HM.mono ?_
      rintro e u1 ⟨rfl, hb1⟩
      have hb1' : Below wr.heap.size wr u1 := (Below.refl _ _).drew.trans hb1
      go_wp2_with fail
      refine hK.out _ _ (HS.out _ hb1') (fun hHeld2 => ?_)
      clear hK K hHeld; have hHeld := hHeld2; clear hHeld2
      try go_frame
      have HB1 : Hid (Below W1.heap.size W1 u1) := on2 HB.out hb1'
      have HS1 := HSm.out u1 hb1'
      have HT1 : Hid (ThS w.heap.size (r1, r2, r3) t.2 B (off + k * 17) (c1, c2, c3) (g1, g2, g3) u1) := HS.out u1 hb1'
      clear HM HSm HS hb1
      cases y1
      case true =>
        refine' tk 9 ?_ ?_; rotate_left
        · intro u ⟨_, _, _, _⟩; go_simp; try with_reducible rfl
        try go_frame
        refine' tk 10 ?_ ?_; rotate_left
        · intro u ⟨_, _, _, _⟩; go_simp; try with_reducible rfl
        try go_frame
        refine' tk 11 ?_ ?_; rotate_left
        · intro u ⟨_, _, _, _⟩; go_simp; try with_reducible rfl
        try go_frame
        refine' tk 12 ?_ ?_; rotate_left
        · intro u ⟨_, _, _, _⟩; go_simp; try with_reducible rfl
        try go_frame
        refine' tk 13 ?_ ?_; rotate_left
        · intro u ⟨_, _, _, _⟩; go_simp; try with_reducible rfl
        try go_frame
        refine' tk 14 ?_ ?_; rotate_left
        · intro u ⟨_, _, _, _⟩; go_simp; try with_reducible rfl
        try go_frame
        refine' tk 15 ?_ ?_; rotate_left
        · intro u ⟨_, _, _, _⟩; go_simp; try with_reducible rfl
        try go_frame
        refine' tk 16 ?_ ?_; rotate_left
        · intro u ⟨_, _, _, _⟩; go_simp; try with_reducible rfl
        try go_frame
        refine' tk 17 ?_ ?_; rotate_left
        · intro u ⟨_, _, _, _⟩; go_simp; try with_reducible rfl
        try go_frame
        refine tr 18 (fun K hK => ?_)
        go_simp
        refine HS1.mono ?_
        rintro e u2 ⟨rfl, rfl⟩
        go_wp2_with fail
        refine hK.out _ _ HT1.out (fun hHeld2 => ?_)
        clear hK K hHeld; have hHeld := hHeld2; clear hHeld2
        try go_frame
        refine' tk 19 ?_ ?_; rotate_left
        · intro u ⟨_, _, _, _⟩; go_simp; try with_reducible rfl
        try go_frame
        refine tz ?_
        clear HT1 HS1 hHeld
        cases y2
        case true =>
          have ha : ans = true := HA.out (by trivial) (by trivial)
          clear HA HN HF
          subst ha
          go_wp2_with fail
          go_ret
          exact ⟨rfl, on2 HQ.out.2 HB1.out⟩
        case false =>
          go_wp2_with fail
          go_roundw
          case rel => exact ⟨k + 1, by omega, by go_num, HB1.out, HN.out rfl⟩
          case measure => simp [intOf]; omega
      case false =>
        refine' tk 9 ?_ ?_; rotate_left
        · intro u ⟨_, _, _, _⟩; go_simp; try with_reducible rfl
        try go_frame
        refine tn 10 ?_
        try go_frame
        refine tn 11 ?_
        try go_frame
        refine tn 12 ?_
        try go_frame
        refine tn 13 ?_
        try go_frame
        refine tn 14 ?_
        try go_frame
        refine tn 15 ?_
        try go_frame
        refine tn 16 ?_
        try go_frame
        refine tn 17 ?_
        try go_frame
        refine tn 18 ?_
        try go_frame
        refine' tk 19 ?_ ?_; rotate_left
        · intro u ⟨_, _, _, _⟩; go_simp; try with_reducible rfl
        try go_frame
        refine tz ?_
        clear HT1 HS1 hHeld
        go_wp2_with fail
        go_roundw
        case rel => exact ⟨k + 1, by omega, by go_num, HB1.out, HN.out rfl⟩
        case measure => simp [intOf]; omega
    · have hk' : Pl.take k = Pl := List.take_of_length_le (by rw [hn.out]; omega)
      have ha : ans = false := by rw [HF.out]; have h1 := hst.out.2; rwa [hk'] at h1
      have HB : Hid (Below w.heap.size w wr) := on2 HQ.out.2 hst.out.1
      clear HF hst
      subst ha
      go_wp2_with fail
      go_ret
      exact ⟨rfl, HB.out⟩
end Go.Proofs.YtfnafgmengefaaaGreatDoor
namespace Go.Proofs.YtfnafgmengefaaaGreatDoor
open Go.RowKit
set_option linter.unusedSimpArgs false
set_option maxRecDepth 100000

set_option maxHeartbeats 8000000 in
theorem any_calls (t : TermD) (r : Hd) (b : Option Addr) (m capb : Nat) (Pl : List PlacedD) (A A'' : Where) (w : World) (hR : Hid (SlAt RReq 3 48 A w r.1 r.2.1 r.2.2 t.1)) (hP : Hid (SlAt RPlaced 17 320 A'' w b m capb Pl)) :
    Calls Tryz.prog 31 #[.agg #[.slice r.1 r.2.1 r.2.2, .string t.2], .slice b m capb] w fun e w' => e = .returned (.bool (anyT t Pl)) ∧ Below w.heap.size w w' := by
  obtain ⟨r1, r2, r3⟩ := r
  have hlen := hP.out.len (by decide)
  have hn : Hid (Pl.length = m) := hP.out.1
  obtain ⟨W1, hW1⟩ : ∃ W, W = w.alloc (.cells #[.slice r1 r2 r3, .string t.2] 80) := ⟨_, rfl⟩
  have B1 : Below w.heap.size w W1 := by rw [hW1]; go_grown
  have qx : BoxL W1 w.heap.size [.slice r1 r2 r3, .string t.2] := by rw [hW1]; exact BoxL.new w 80 _
  have HQ : Hid (BoxL W1 w.heap.size [.slice r1 r2 r3, .string t.2] ∧ Below w.heap.size w W1) := ⟨qx, B1⟩
  clear qx B1
  have HF : Hid (anyT t Pl = Pl.any (fun x => (getL x.2 t.2).2 && matchL (pLabs x.1) t.1)) := rfl
  generalize anyT t Pl = ans at HF
  go_enter Tryz.func31, Tryz.ntmps31
  go_upto_region 2 with fail
  rw [← hW1]
  clear hW1
  go_loopw [5] (fun i wr => ∃ k : Nat, k ≤ m ∧ i = .int .i64 k ∧ Hid (Below W1.heap.size W1 wr ∧ (Pl.take k).any (fun x => (getL x.2 t.2).2 && matchL (pLabs x.1) t.1) = false)) (fun i _ => m - (intOf i).toNat)
  case atStart => exact ⟨0, Nat.zero_le _, rfl, Below.refl _ _, rfl⟩
  case round =>
    obtain ⟨k, hk, rfl, hst⟩ := hrel
    by_cases hlt : k < m
    · have hltz : (k : Int) < (m : Int) := by omega
      have hkl : k < Pl.length := by rw [hn.out]; exact hlt
      have hb0 : Below w.heap.size w wr := on2 HQ.out.2 hst.out.1
      obtain ⟨B, off, rfl, hB, _, cs, hr, hv⟩ := (hP.out.on RPlaced.firm hb0).get hlt
      obtain ⟨⟨c1, c2, c3⟩, _, ⟨g1, g2, g3⟩, _, e2, _, e16, s2, _, s16⟩ := hr.reads
      simp only at e2 e16 s2 s16
      have HS : Hid (∀ u, Below wr.heap.size wr u → ThS w.heap.size (r1, r2, r3) t.2 B (off + k * 17) (c1, c2, c3) (g1, g2, g3) u) := fun u hb => ⟨(((HQ.out.1.on hst.out.1).on hb).2 0 _ rfl).1, (((HQ.out.1.on hst.out.1).on hb).2 1 _ rfl).1, (hb.cell (p := ⟨B, off + k * 17 + 2, none⟩) hB).trans (hv 2 _ e2), (hb.cell (p := ⟨B, off + k * 17 + 16, none⟩) hB).trans (hv 16 _ e16)⟩
      have HM : Hid (∀ u, Below wr.heap.size wr u → Calls Tryz.prog 32 #[.slice c1 c2 c3, .slice r1 r2 r3] u fun e w' => e = .returned (.bool (matchL (pLabs (Pl.getD k default).1) t.1)) ∧ Below u.heap.size u w') := fun u hb => rMatch_sl c1 c2 c3 _ (pLabs (Pl.getD k default).1) r1 r2 r3 _ t.1 u (s2.on RLabel.firm hb) ((hR.out.on RReq.firm hb0).on RReq.firm hb)
      have HG : Hid (∀ u, Below wr.heap.size wr u → Calls Tryz.prog 29 #[.slice g1 g2 g3, .string t.2] u fun e w' => e = .returned (.tuple #[.string (getL (Pl.getD k default).2 t.2).1, .bool (getL (Pl.getD k default).2 t.2).2]) ∧ w' = u) := fun u hb => by
        have h1 := rGet_calls g1 g3 (Pl.getD k default).2 t.2 u (labs_of (s16.on RLabel.firm hb))
        rwa [s16.1] at h1
      have HA : Hid ((getL (Pl.getD k default).2 t.2).2 = true → matchL (pLabs (Pl.getD k default).1) t.1 = true → ans = true) := fun h1 h2 => by rw [HF.out]; exact any_at (f := fun x : PlacedD => (getL x.2 t.2).2 && matchL (pLabs x.1) t.1) hkl (by show (_ && _) = true; rw [h1, h2]; rfl)
      have HN : Hid (((getL (Pl.getD k default).2 t.2).2 && matchL (pLabs (Pl.getD k default).1) t.1) = false → (Pl.take (k + 1)).any (fun x => (getL x.2 t.2).2 && matchL (pLabs x.1) t.1) = false) := fun h => any_take hkl hst.out.2 h
      have HB : Hid (Below W1.heap.size W1 wr) := hst.out.1
      clear hst hr hv e2 e16 s2 s16
      generalize matchL (pLabs (Pl.getD k default).1) t.1 = y2 at HM HA HN
      generalize (getL (Pl.getD k default).2 t.2).1 = y0 at HG
      generalize (getL (Pl.getD k default).2 t.2).2 = y1 at HG HA HN
      go_upto_region 4 with fail
      go_cut [6, 7, 14, 15, 16, 17, 18, 19, 20, 21, 22, 23, 24] (fun s6 s7 _ _ _ _ _ _ _ _ _ _ _ wx => s7 = .bool y1 ∧ Hid (Below wr.heap.size wr wx))
      case first =>
        refine t0 (ThS w.heap.size (r1, r2, r3) t.2 B (off + k * 17) (c1, c2, c3) (g1, g2, g3)) (HS.out _ (Below.refl _ _).drew) (fun hHeld => ?_)
        refine' tk 0 ?_ ?_; rotate_left
        · intro u ⟨_, _, _, _⟩; go_simp; try with_reducible rfl
        try go_frame
        refine' tk 1 ?_ ?_; rotate_left
        · intro u ⟨_, _, _, _⟩; go_simp; try with_reducible rfl
        try go_frame
        refine' tk 2 ?_ ?_; rotate_left
        · intro u ⟨_, _, _, _⟩; go_simp; try with_reducible rfl
        try go_frame
        refine' tk 3 ?_ ?_; rotate_left
        · intro u ⟨_, _, _, _⟩; go_simp; try with_reducible rfl
        try go_frame
        refine' tk 4 ?_ ?_; rotate_left
        · intro u ⟨_, _, _, _⟩; go_simp; try with_reducible rfl
        try go_frame
        refine' tk 5 ?_ ?_; rotate_left
        · intro u ⟨_, _, _, _⟩; go_simp; try with_reducible rfl
        try go_frame
        refine' tk 6 ?_ ?_; rotate_left
        · intro u ⟨_, _, _, _⟩; go_simp; try with_reducible rfl
        try go_frame
        refine tr 7 (fun K hK => ?_)
        go_simp
        refine (HG.out _ (Below.refl _ _).drew).mono ?_
        rintro e u1 ⟨rfl, rfl⟩
        go_wp2_with fail
        refine hK.out _ _ (HS.out _ (Below.refl _ _).drew) (fun hHeld2 => ?_)
        clear hK K hHeld; have hHeld := hHeld2; clear hHeld2
        try go_frame
        refine' tk 8 ?_ ?_; rotate_left
        · intro u ⟨_, _, _, _⟩; go_simp; try with_reducible rfl
        try go_frame
        refine' tk 9 ?_ ?_; rotate_left
        · intro u ⟨_, _, _, _⟩; go_simp; try with_reducible rfl
        try go_frame
        refine' tk 10 ?_ ?_; rotate_left
        · intro u ⟨_, _, _, _⟩; go_simp; try with_reducible rfl
        try go_frame
        refine' tk 11 ?_ ?_; rotate_left
        · intro u ⟨_, _, _, _⟩; go_simp; try with_reducible rfl
        try go_frame
        refine' tk 12 ?_ ?_; rotate_left
        · intro u ⟨_, _, _, _⟩; go_simp; try with_reducible rfl
        try go_frame
        refine tz ?_
        go_wp2_with fail
        go_meet
        exact ⟨rfl, (Below.refl _ _).drew⟩
      case rest =>
        obtain ⟨rfl, hc⟩ := hcut
        obtain ⟨W4, hW4⟩ : ∃ W4, W4 = wc := ⟨_, rfl⟩
        rw [← hW4] at hc ⊢
        clear hW4 HG
        have hcd : Below wr.heap.size wr W4.drew := on2 hc.out (Below.refl _ _).drew
        go_upto_region 5 with fail
        refine t0 (ThS w.heap.size (r1, r2, r3) t.2 B (off + k * 17) (c1, c2, c3) (g1, g2, g3)) (HS.out _ hcd) (fun hHeld => ?_)
        refine' tk 0 ?_ ?_; rotate_left
        · intro u ⟨_, _, _, _⟩; go_simp; try with_reducible rfl
        try go_frame
        cases y1
        case true =>
          refine' tk 1 ?_ ?_; rotate_left
          · intro u ⟨_, _, _, _⟩; go_simp; try with_reducible rfl
          try go_frame
          refine' tk 2 ?_ ?_; rotate_left
          · intro u ⟨_, _, _, _⟩; go_simp; try with_reducible rfl
          try go_frame
          refine' tk 3 ?_ ?_; rotate_left
          · intro u ⟨_, _, _, _⟩; go_simp; try with_reducible rfl
          try go_frame
          refine' tk 4 ?_ ?_; rotate_left
          · intro u ⟨_, _, _, _⟩; go_simp; try with_reducible rfl
          try go_frame
          refine' tk 5 ?_ ?_; rotate_left
          · intro u ⟨_, _, _, _⟩; go_simp; try with_reducible rfl
          try go_frame
          refine' tk 6 ?_ ?_; rotate_left
          · intro u ⟨_, _, _, _⟩; go_simp; try with_reducible rfl
          try go_frame
          refine' tk 7 ?_ ?_; rotate_left
          · intro u ⟨_, _, _, _⟩; go_simp; try with_reducible rfl
          try go_frame
          refine' tk 8 ?_ ?_; rotate_left
          · intro u ⟨_, _, _, _⟩; go_simp; try with_reducible rfl
          try go_frame
          refine' tk 9 ?_ ?_; rotate_left
          · intro u ⟨_, _, _, _⟩; go_simp; try with_reducible rfl
          try go_frame
          refine tr 10 (fun K hK => ?_)
          go_simp
          refine (HM.out _ hcd).mono ?_
          rintro e u2 ⟨rfl, hb2⟩
          have hb2' : Below wr.heap.size wr u2 := on2 hcd hb2
          go_wp2_with fail
          refine hK.out _ _ (HS.out _ hb2') (fun hHeld2 => ?_)
          clear hK K hHeld; have hHeld := hHeld2; clear hHeld2
          try go_frame
          refine' tk 11 ?_ ?_; rotate_left
          · intro u ⟨_, _, _, _⟩; go_simp; try with_reducible rfl
          try go_frame
          refine tz ?_
          have HB1 : Hid (Below W1.heap.size W1 u2) := on2 HB.out hb2'
          clear HM HS hHeld hb2 hb2' hcd hc
          cases y2
          case true =>
            have ha : ans = true := HA.out (by trivial) (by trivial)
            clear HA HN HF
            subst ha
            go_wp2_with fail
            go_ret
            exact ⟨rfl, on2 HQ.out.2 HB1.out⟩
          case false =>
            go_wp2_with fail
            go_roundw
            case rel => exact ⟨k + 1, by omega, by go_num, HB1.out, HN.out (by trivial)⟩
            case measure => simp [intOf]; omega
        case false =>
          refine' tk 1 ?_ ?_; rotate_left
          · intro u ⟨_, _, _, _⟩; go_simp; try with_reducible rfl
          try go_frame
          refine tn 2 ?_
          try go_frame
          refine tn 3 ?_
          try go_frame
          refine tn 4 ?_
          try go_frame
          refine tn 5 ?_
          try go_frame
          refine tn 6 ?_
          try go_frame
          refine tn 7 ?_
          try go_frame
          refine tn 8 ?_
          try go_frame
          refine tn 9 ?_
          try go_frame
          refine tn 10 ?_
          try go_frame
          refine' tk 11 ?_ ?_; rotate_left
          · intro u ⟨_, _, _, _⟩; go_simp; try with_reducible rfl
          try go_frame
          refine tz ?_
          have HB1 : Hid (Below W1.heap.size W1 W4.drew) := on2 HB.out hcd
          clear HM HS hHeld hcd hc
          go_wp2_with fail
          go_roundw
          case rel => exact ⟨k + 1, by omega, by go_num, HB1.out, HN.out (by trivial)⟩
          case measure => simp [intOf]; omega
    · have hk' : Pl.take k = Pl := List.take_of_length_le (by rw [hn.out]; omega)
      have ha : ans = false := by rw [HF.out]; have h1 := hst.out.2; rwa [hk'] at h1
      have HB : Hid (Below w.heap.size w wr) := on2 HQ.out.2 hst.out.1
      clear HF hst
      subst ha
      go_wp2_with fail
      go_ret
      exact ⟨rfl, HB.out⟩
end Go.Proofs.YtfnafgmengefaaaGreatDoor
namespace Go.Proofs.YtfnafgmengefaaaGreatDoor
open Go.RowKit
set_option linter.unusedSimpArgs false
set_option maxRecDepth 100000

theorem row_lt8 {α : Type} [Inhabited α] {R : Rep α} {k : Nat} {A : Where} {w0 u : World} {e : TypeId} {v : Value} {L : List α} (h : Row R k A w0 u e v L) {b : Nat} (hb : v.ownBlock = some b) : w0.heap.size ≤ b ∧ b < u.heap.size := by
  obtain ⟨xs, h1, _⟩ := h
  exact h1.2.lt b hb
theorem others_take (nm : ByteArray) (L : List PlacedD) {k : Nat} (hk : k < L.length) : othersN nm (L.take (k + 1)) = othersN nm (L.take k) ++ (if sEq (L.getD k default).1.1 nm = true then [] else [L.getD k default]) := by
  unfold othersN
  rw [← take_at hk, List.filter_append]
  congr 1
  generalize L.getD k default = x
  cases h : sEq x.1.1 nm <;> simp [h]
theorem others_le8 (nm : ByteArray) (L : List PlacedD) : (othersN nm L).length ≤ L.length := List.length_filter_le _ _
set_option maxHeartbeats 4000000 in
theorem Others_calls (a : Option Addr) (n cap : Nat) (A : Where) (nm : ByteArray) (L : List PlacedD) (w : World) (hL : Hid (SlAt RPlaced 17 320 A w a n cap L)) : Calls Tryz.prog 28 #[.slice a n cap, .string nm] w fun e w' => ∃ v, e = .returned v ∧ Row RPlaced 17 (fun b => b < w.heap.size) w w' 41 v (othersN nm L) := by
  have hlen := hL.out.len (by decide)
  have hn : Hid (L.length = n) := hL.out.1
  have hbb : Hid (n * 320 ≤ 140737488351232) := hL.out.2.2.2.1
  have HL : Hid (SlAt RPlaced 17 320 (fun b => b < w.heap.size) w a n cap L) := hL.out.weak RPlaced.firm (fun b hb _ => hb)
  clear hL
  have HR0 : Hid (Row RPlaced 17 (fun b => b < w.heap.size) w (w.alloc (.cells #[] 41)) 41 (.slice (some ⟨w.heap.size, 0, none⟩) 0 0) (othersN nm (L.take 0))) := Row.start _ w w _ (Below.refl _ _)
  go_enter Tryz.func28, Tryz.ntmps28
  go_wp2_with fail
  go_loopw [5, 6] (fun s i wr => ∃ k : Nat, k ≤ n ∧ i = .int .i64 k ∧ Hid (Row RPlaced 17 (fun b => b < w.heap.size) w wr 41 s (othersN nm (L.take k)))) (fun _ i _ => n - (intOf i).toNat)
  case atStart => exact ⟨0, Nat.zero_le _, rfl, HR0⟩
  case round =>
    obtain ⟨k, hk, rfl, hrow⟩ := hrel
    by_cases hlt : k < n
    · have hltz : (k : Int) < (n : Int) := by omega
      have hkl : k < L.length := by rw [hn.out]; exact hlt
      have hbw : Below w.heap.size w wr := hrow.out.below
      obtain ⟨B, off, rfl, hB, _, cs, hr, hv⟩ := (HL.out.on RPlaced.firm hbw).get hlt
      have e0 : cs[0]? = some (.string (L.getD k default).1.1) := by obtain ⟨_, _, _, h, _⟩ := hr.reads; exact h
      have c0 := hv 0 _ e0
      rw [Nat.add_zero] at c0
      have HV : Hid (wr.rangeAt B (off + k * 17) cs) := hv
      have hi : (Tryz.prog.info? 41).map (·.size) = some cs.length := by rw [RPlaced.firm.len hr]; exact sizePl
      have HT : Hid (othersN nm (L.take (k + 1)) = othersN nm (L.take k) ++ (if sEq (L.getD k default).1.1 nm = true then [] else [L.getD k default])) := others_take nm L hkl
      have HLb : Hid (((othersN nm (L.take k)).length + 1) * 320 ≤ 140737488355328) := by
        have h1 := bytes_le hbb.out hlt
        have h2 := others_le8 nm (L.take k)
        rw [List.length_take] at h2
        rw [Hid]; omega
      have HE0 : RPlaced (fun b => b < w.heap.size) wr cs (L.getD k default) := hr
      clear hr hv e0
      generalize L.getD k default = x at HT HE0 c0
      have hq : sEq x.1.1 nm = (x.1.1.toList == nm.toList) := rfl
      rw [hq] at HT
      cases hN : (x.1.1.toList == nm.toList)
      case true =>
        rw [hN] at HT
        have h9 : Hid (Row RPlaced 17 (fun b => b < w.heap.size) w wr 41 u5 (othersN nm (L.take (k + 1)))) := by rw [Hid, HT.out]; simpa using hrow.out
        clear hrow HT HLb HE0 HV hq
        go_wp2_with fail
        go_roundw
        case rel => exact ⟨k + 1, by omega, by go_num, h9⟩
        case measure => simp [intOf]; omega
      case false =>
      rw [hN] at HT
      obtain ⟨v0, v1, v2, v3, v4, v5, v6, v7, v8, v9, v10, v11, v12, v13, v14, v15, v16, rfl⟩ := RPlaced.lit HE0
      have hb3 : Below wr.heap.size wr (wr.alloc (.cells #[v0, v1, v2, v3, v4, v5, v6, v7, v8, v9, v10, v11, v12, v13, v14, v15, v16] 41)) := (Below.refl _ _).alloc (Nat.le_refl _) _
      have HR3 : Hid (Row RPlaced 17 (fun b => b < w.heap.size) w (wr.alloc (.cells #[v0, v1, v2, v3, v4, v5, v6, v7, v8, v9, v10, v11, v12, v13, v14, v15, v16] 41)) 41 u5 (othersN nm (L.take k))) := hrow.out.on RPlaced.firm hb3
      have HE : RPlaced (fun b => b < w.heap.size ∧ Value.ownBlock u5 ≠ some b) (wr.alloc (.cells #[v0, v1, v2, v3, v4, v5, v6, v7, v8, v9, v10, v11, v12, v13, v14, v15, v16] 41)) [v0, v1, v2, v3, v4, v5, v6, v7, v8, v9, v10, v11, v12, v13, v14, v15, v16] x := RPlaced.firm.weak (RPlaced.firm.kept HE0 (Kept.below hb3)) (fun b _ hb => ⟨hb, fun e => by have h1 := (row_lt8 hrow.out e).1; omega⟩)
      have H1 : Hid (∀ y ∈ [v0, v1, v2, v3, v4, v5, v6, v7, v8, v9, v10, v11, v12, v13, v14, v15, v16], y.oneCell' = true) := RPlaced.firm.one HE
      have HCh : Hid (Chunks RPlaced 17 (fun b => b < w.heap.size ∧ Value.ownBlock u5 ≠ some b) (wr.alloc (.cells #[v0, v1, v2, v3, v4, v5, v6, v7, v8, v9, v10, v11, v12, v13, v14, v15, v16] 41)) [v0, v1, v2, v3, v4, v5, v6, v7, v8, v9, v10, v11, v12, v13, v14, v15, v16] [x]) := chunk_one RPlaced.firm HE
      have HX : Hid (∀ j y, [v0, v1, v2, v3, v4, v5, v6, v7, v8, v9, v10, v11, v12, v13, v14, v15, v16][j]? = some y → (wr.alloc (.cells #[v0, v1, v2, v3, v4, v5, v6, v7, v8, v9, v10, v11, v12, v13, v14, v15, v16] 41)).cell? ((⟨wr.heap.size, 0, none⟩ : Addr).add j) = some y) := one_cells wr _ 41
      have HT2 : Hid (othersN nm (L.take k) ++ [x] = othersN nm (L.take (k + 1))) := by rw [Hid, HT.out]; rfl
      have HLb2 : Hid (((othersN nm (L.take k)).length + [x].length) * 320 ≤ 140737488355328) := HLb.out
      clear HE HE0 hb3 hrow HT HLb hq
      go_wp2_with (first | (refine wpList_load_mid rfl 41 _ rfl B (off + k * 17) rfl [v0, v1, v2, v3, v4, v5, v6, v7, v8, v9, v10, v11, v12, v13, v14, v15, v16] _ HV.out Tryz.underlying41 rfl hi ?_) | (at_builtin; go_must (refine row_append RPlaced.firm (A := fun b => b < w.heap.size) (w0 := w) rfl _ _ 34 41 rfl _ 320 infoPl Tryz.underlying34 rfl (by decide) (by decide) u5 (othersN nm (L.take k)) rfl HR3.out ⟨wr.heap.size, 0, none⟩ 1 1 _ [x] rfl rfl HCh.out HX.out H1.out HLb2.out ?_); intro v4 w4 hrow4 hg4) | fail)
      rw [HT2.out] at hrow4
      go_roundw
      case rel => exact ⟨k + 1, by omega, by go_num, hrow4⟩
      case measure => simp [intOf]; omega
    · have hk' : L.take k = L := List.take_of_length_le (by rw [hn.out]; omega)
      rw [hk'] at hrow
      have h9 : Hid (Row RPlaced 17 (fun b => b < w.heap.size) w wr 41 u5 (othersN nm L)) := hrow
      clear hrow
      go_wp2_with fail
      go_ret
      exact ⟨_, rfl, h9.out⟩
end Go.Proofs.YtfnafgmengefaaaGreatDoor
