/- The methods above and below of label.ask return what the plain functions say; they change nothing that was there. Condition: the values' slice holds what is said of it. -/
import Derived.Test.YtpjgffcpjabghaaQ06
namespace Go.Proofs.Ytpjgffcpjabghaa
open Go.RowKit
set_option linter.unusedSimpArgs false

/-- The question's box holds what it was told, and nothing that was there has turned. -/
def AskS (w : World) (v : ByteArray) (t : Bool) (a : Option Addr) (n cap : Nat) (u : World) : Prop :=
  Below w.heap.size w u ∧ w.heap.size < u.heap.size ∧ u.cell? ⟨w.heap.size, 0, none⟩ = some (.string v) ∧ u.cell? ⟨w.heap.size, 1, none⟩ = some (.bool t) ∧ u.cell? ⟨w.heap.size, 2, none⟩ = some (.slice a n cap)
theorem AskS.on {w u u' : World} {v : ByteArray} {t : Bool} {a : Option Addr} {n cap : Nat} (h : AskS w v t a n cap u) (hb : Below u.heap.size u u') : AskS w v t a n cap u' := by
  obtain ⟨h0, h1, h2, h3, h4⟩ := h
  exact ⟨on2 h0 hb, Nat.lt_of_lt_of_le h1 hb.size, (hb.cell h1).trans h2, (hb.cell h1).trans h3, (hb.cell h1).trans h4⟩
theorem AskS.drew {w u : World} {v : ByteArray} {t : Bool} {a : Option Addr} {n cap : Nat} (h : AskS w v t a n cap u) : AskS w v t a n cap u.drew := ⟨h.1.drew, h.2⟩
theorem AskS.start (w : World) (v : ByteArray) (t : Bool) (a : Option Addr) (n cap : Nat) : AskS w v t a n cap (w.alloc (.cells #[.string v, .bool t, .slice a n cap] 115)) :=
  ⟨by go_grown, by simp, by simp [go_sem], by simp [go_sem], by simp [go_sem]⟩
/-- and the first value lies at B, off -/
def AskS1 (w : World) (v : ByteArray) (t : Bool) (B off n cap : Nat) (x : ByteArray) (u : World) : Prop := AskS w v t (some ⟨B, off, none⟩) n cap u ∧ u.cell? ⟨B, off, none⟩ = some (.string x)
theorem AskS1.on {w u u' : World} {v : ByteArray} {t : Bool} {B off n cap : Nat} {x : ByteArray} (hB : B < w.heap.size) (h : AskS1 w v t B off n cap x u) (hb : Below u.heap.size u u') : AskS1 w v t B off n cap x u' :=
  ⟨h.1.on hb, (hb.cell (Nat.lt_of_lt_of_le hB h.1.1.size)).trans h.2⟩
theorem AskS1.drew {w u : World} {v : ByteArray} {t : Bool} {B off n cap : Nat} {x : ByteArray} (h : AskS1 w v t B off n cap x u) : AskS1 w v t B off n cap x u.drew := ⟨h.1.drew, h.2⟩

set_option maxHeartbeats 2000000 in
theorem above_no (v : ByteArray) (t : Bool) (a : Option Addr) (cap : Nat) (V : List ByteArray) (w : World) (hV : Hid (StrsAt w a V)) (hn : Hid ((t && numB v && (decide (V.length = 1) && numB (V.getD 0 default))) = false)) : Calls Try.prog 68 #[.agg #[.string v, .bool t, .slice a V.length cap]] w fun e w' => e = .returned (.bool false) ∧ Below w.heap.size w w' := by
  have hS := AskS.start w v t a V.length cap
  have hVo : ∀ {u : World}, Below w.heap.size w u → Hid (StrsAt u a V) := fun hb => hV.out.on hb
  have hin := fun u h => inNumbers_calls v t a cap V u h
  rw [hn.out] at hin
  clear hn hV
  go_enter Try.func68, Try.ntmps68
  go_wp2_with fail
  refine wp_region_noPanic ?_
  refine wp_region_held_drew (S := AskS w v t a V.length cap) (by kernel_rfl) (hS.drew) (fun hHeld => ?_)
  refine wpAnyH_take (i := 0) (v := ?vn0) rfl (by kernel_rfl) (by kernel_rfl) (by kernel_rfl) (fun _ _ _ h => h) (Or.inl ⟨by rfl, ?hyn0⟩) (by assumption) ?restn0
  case hyn0 => (intro u hu; obtain ⟨_, _, _, _, _⟩ := hu; go_simp; try with_reducible rfl)
  try simp only [Act.put, List.setIfInBounds_toArray, List.set_cons_zero, List.set_cons_succ, List.getElem_toArray, List.getElem_cons_zero, List.getElem_cons_succ]
  refine wpAnyH_ready (rs := [1]) (by kernel_rfl) (by simp) ?_
  refine AllReadyH.cons rfl (fun K hK => ?_) AllReadyH.nil
  go_simp
  refine (hin _ (hVo hHeld.1)).mono ?_
  rintro e w1 ⟨rfl, hb2⟩
  go_wp2_with fail
  refine hK.out _ _ (hHeld.on hb2) (fun hHeld2 => ?_)
  clear hK K hHeld
  have hHeld := hHeld2
  clear hHeld2
  try simp only [Act.put, List.setIfInBounds_toArray, List.set_cons_zero, List.set_cons_succ, List.getElem_toArray, List.getElem_cons_zero, List.getElem_cons_succ]
  refine wpAnyH_take (i := 2) (v := ?vn2) rfl (by kernel_rfl) (by kernel_rfl) (by kernel_rfl) (fun _ _ _ h => h) (Or.inl ⟨by rfl, ?hyn2⟩) (by assumption) ?restn2
  case hyn2 => (intro u hu; obtain ⟨_, _, _, _, _⟩ := hu; go_simp; try with_reducible rfl)
  try simp only [Act.put, List.setIfInBounds_toArray, List.set_cons_zero, List.set_cons_succ, List.getElem_toArray, List.getElem_cons_zero, List.getElem_cons_succ]
  refine wpAnyH_take (i := 3) (v := undef) rfl (by kernel_rfl) (by kernel_rfl) (by kernel_rfl) (fun _ _ _ h => h) (Or.inr ⟨by rfl, rfl⟩) (by assumption) ?_
  try simp only [Act.put, List.setIfInBounds_toArray, List.set_cons_zero, List.set_cons_succ, List.getElem_toArray, List.getElem_cons_zero, List.getElem_cons_succ]
  refine wpAnyH_take (i := 4) (v := undef) rfl (by kernel_rfl) (by kernel_rfl) (by kernel_rfl) (fun _ _ _ h => h) (Or.inr ⟨by rfl, rfl⟩) (by assumption) ?_
  try simp only [Act.put, List.setIfInBounds_toArray, List.set_cons_zero, List.set_cons_succ, List.getElem_toArray, List.getElem_cons_zero, List.getElem_cons_succ]
  refine wpAnyH_take (i := 5) (v := undef) rfl (by kernel_rfl) (by kernel_rfl) (by kernel_rfl) (fun _ _ _ h => h) (Or.inr ⟨by rfl, rfl⟩) (by assumption) ?_
  try simp only [Act.put, List.setIfInBounds_toArray, List.set_cons_zero, List.set_cons_succ, List.getElem_toArray, List.getElem_cons_zero, List.getElem_cons_succ]
  refine wpAnyH_take (i := 6) (v := undef) rfl (by kernel_rfl) (by kernel_rfl) (by kernel_rfl) (fun _ _ _ h => h) (Or.inr ⟨by rfl, rfl⟩) (by assumption) ?_
  try simp only [Act.put, List.setIfInBounds_toArray, List.set_cons_zero, List.set_cons_succ, List.getElem_toArray, List.getElem_cons_zero, List.getElem_cons_succ]
  refine wpAnyH_take (i := 7) (v := undef) rfl (by kernel_rfl) (by kernel_rfl) (by kernel_rfl) (fun _ _ _ h => h) (Or.inr ⟨by rfl, rfl⟩) (by assumption) ?_
  try simp only [Act.put, List.setIfInBounds_toArray, List.set_cons_zero, List.set_cons_succ, List.getElem_toArray, List.getElem_cons_zero, List.getElem_cons_succ]
  refine wpAnyH_take (i := 8) (v := undef) rfl (by kernel_rfl) (by kernel_rfl) (by kernel_rfl) (fun _ _ _ h => h) (Or.inr ⟨by rfl, rfl⟩) (by assumption) ?_
  try simp only [Act.put, List.setIfInBounds_toArray, List.set_cons_zero, List.set_cons_succ, List.getElem_toArray, List.getElem_cons_zero, List.getElem_cons_succ]
  refine wpAnyH_take (i := 9) (v := undef) rfl (by kernel_rfl) (by kernel_rfl) (by kernel_rfl) (fun _ _ _ h => h) (Or.inr ⟨by rfl, rfl⟩) (by assumption) ?_
  try simp only [Act.put, List.setIfInBounds_toArray, List.set_cons_zero, List.set_cons_succ, List.getElem_toArray, List.getElem_cons_zero, List.getElem_cons_succ]
  refine wpAnyH_take (i := 10) (v := undef) rfl (by kernel_rfl) (by kernel_rfl) (by kernel_rfl) (fun _ _ _ h => h) (Or.inr ⟨by rfl, rfl⟩) (by assumption) ?_
  try simp only [Act.put, List.setIfInBounds_toArray, List.set_cons_zero, List.set_cons_succ, List.getElem_toArray, List.getElem_cons_zero, List.getElem_cons_succ]
  refine wpAnyH_take (i := 11) (v := ?vn11) rfl (by kernel_rfl) (by kernel_rfl) (by kernel_rfl) (fun _ _ _ h => h) (Or.inl ⟨by rfl, ?hyn11⟩) (by assumption) ?restn11
  case hyn11 => (intro u hu; obtain ⟨_, _, _, _, _⟩ := hu; go_simp; try with_reducible rfl)
  try simp only [Act.put, List.setIfInBounds_toArray, List.set_cons_zero, List.set_cons_succ, List.getElem_toArray, List.getElem_cons_zero, List.getElem_cons_succ]
  refine wpAnyH_take (i := 12) (v := ?vn12) rfl (by kernel_rfl) (by kernel_rfl) (by kernel_rfl) (fun _ _ _ h => h) (Or.inl ⟨by rfl, ?hyn12⟩) (by assumption) ?restn12
  case hyn12 => (intro u hu; obtain ⟨_, _, _, _, _⟩ := hu; go_simp; try with_reducible rfl)
  try simp only [Act.put, List.setIfInBounds_toArray, List.set_cons_zero, List.set_cons_succ, List.getElem_toArray, List.getElem_cons_zero, List.getElem_cons_succ]
  refine wpAnyH_done (by kernel_rfl) ?_ _
  refine NoPanic.normal ?_
  go_wp2_with fail
  go_ret
  exact ⟨rfl, hHeld.1⟩

set_option maxHeartbeats 2000000 in
theorem above_yes (v : ByteArray) (t : Bool) (B off cap : Nat) (x : ByteArray) (w : World) (hB : B < w.heap.size) (hx : w.cell? ⟨B, off, none⟩ = some (.string x)) (hV : Hid (StrsAt w (some ⟨B, off, none⟩) [x])) (hn : Hid ((t && numB v && (decide ([x].length = 1) && numB ([x].getD 0 default))) = true)) : Calls Try.prog 68 #[.agg #[.string v, .bool t, .slice (some ⟨B, off, none⟩) 1 cap]] w fun e w' => e = .returned (.bool (decide (0 < cmpN v x))) ∧ Below w.heap.size w w' := by
  have hS : AskS1 w v t B off 1 cap x (w.alloc (.cells #[.string v, .bool t, .slice (some ⟨B, off, none⟩) 1 cap] 115)) := ⟨AskS.start w v t (some ⟨B, off, none⟩) 1 cap, (((Below.refl _ _).alloc (Nat.le_refl _) _).cell hB).trans hx⟩
  have hVo : ∀ {u : World}, Below w.heap.size w u → Hid (StrsAt u (some ⟨B, off, none⟩) [x]) := fun hb => hV.out.on hb
  have hin : ∀ u, Hid (StrsAt u (some ⟨B, off, none⟩) [x]) → Calls Try.prog 73 #[.agg #[.string v, .bool t, .slice (some ⟨B, off, none⟩) 1 cap]] u fun e w' => e = .returned (.bool true) ∧ Below u.heap.size u w' := fun u h => by
    have h' := inNumbers_calls v t (some ⟨B, off, none⟩) cap [x] u h
    rw [hn.out] at h'
    exact h'
  clear hn hV
  clear hx
  go_enter Try.func68, Try.ntmps68
  go_wp2_with fail
  refine wp_region_noPanic ?_
  refine wp_region_held_drew (S := AskS1 w v t B off 1 cap x) (by kernel_rfl) (hS.drew) (fun hHeld => ?_)
  refine wpAnyH_take (i := 0) (v := ?vy0) rfl (by kernel_rfl) (by kernel_rfl) (by kernel_rfl) (fun _ _ _ h => h) (Or.inl ⟨by rfl, ?hyy0⟩) (by assumption) ?resty0
  case hyy0 => (intro u hu; obtain ⟨⟨_, _, _, _, _⟩, _⟩ := hu; go_simp; try with_reducible rfl)
  try simp only [Act.put, List.setIfInBounds_toArray, List.set_cons_zero, List.set_cons_succ, List.getElem_toArray, List.getElem_cons_zero, List.getElem_cons_succ]
  refine wpAnyH_ready (rs := [1]) (by kernel_rfl) (by simp) ?_
  refine AllReadyH.cons rfl (fun K hK => ?_) AllReadyH.nil
  go_simp
  refine (hin _ (hVo hHeld.1.1)).mono ?_
  rintro e w1 ⟨rfl, hb2⟩
  go_wp2_with fail
  refine hK.out _ _ (hHeld.on hB hb2) (fun hHeld2 => ?_)
  clear hK K hHeld
  have hHeld := hHeld2
  clear hHeld2
  try simp only [Act.put, List.setIfInBounds_toArray, List.set_cons_zero, List.set_cons_succ, List.getElem_toArray, List.getElem_cons_zero, List.getElem_cons_succ]
  refine wpAnyH_take (i := 2) (v := ?vy2) rfl (by kernel_rfl) (by kernel_rfl) (by kernel_rfl) (fun _ _ _ h => h) (Or.inl ⟨by rfl, ?hyy2⟩) (by assumption) ?resty2
  case hyy2 => (intro u hu; obtain ⟨⟨_, _, _, _, _⟩, _⟩ := hu; go_simp; try with_reducible rfl)
  try simp only [Act.put, List.setIfInBounds_toArray, List.set_cons_zero, List.set_cons_succ, List.getElem_toArray, List.getElem_cons_zero, List.getElem_cons_succ]
  refine wpAnyH_take (i := 3) (v := ?vy3) rfl (by kernel_rfl) (by kernel_rfl) (by kernel_rfl) (fun _ _ _ h => h) (Or.inl ⟨by rfl, ?hyy3⟩) (by assumption) ?resty3
  case hyy3 => (intro u hu; obtain ⟨⟨_, _, _, _, _⟩, _⟩ := hu; go_simp; try with_reducible rfl)
  try simp only [Act.put, List.setIfInBounds_toArray, List.set_cons_zero, List.set_cons_succ, List.getElem_toArray, List.getElem_cons_zero, List.getElem_cons_succ]
  refine wpAnyH_take (i := 4) (v := ?vy4) rfl (by kernel_rfl) (by kernel_rfl) (by kernel_rfl) (fun _ _ _ h => h) (Or.inl ⟨by rfl, ?hyy4⟩) (by assumption) ?resty4
  case hyy4 => (intro u hu; obtain ⟨⟨_, _, _, _, _⟩, _⟩ := hu; go_simp; try with_reducible rfl)
  try simp only [Act.put, List.setIfInBounds_toArray, List.set_cons_zero, List.set_cons_succ, List.getElem_toArray, List.getElem_cons_zero, List.getElem_cons_succ]
  refine wpAnyH_take (i := 5) (v := ?vy5) rfl (by kernel_rfl) (by kernel_rfl) (by kernel_rfl) (fun _ _ _ h => h) (Or.inl ⟨by rfl, ?hyy5⟩) (by assumption) ?resty5
  case hyy5 => (intro u hu; obtain ⟨⟨_, _, _, _, _⟩, _⟩ := hu; go_simp; try with_reducible rfl)
  try simp only [Act.put, List.setIfInBounds_toArray, List.set_cons_zero, List.set_cons_succ, List.getElem_toArray, List.getElem_cons_zero, List.getElem_cons_succ]
  refine wpAnyH_take (i := 6) (v := ?vy6) rfl (by kernel_rfl) (by kernel_rfl) (by kernel_rfl) (fun _ _ _ h => h) (Or.inl ⟨by rfl, ?hyy6⟩) (by assumption) ?resty6
  case hyy6 => (intro u hu; obtain ⟨⟨_, _, _, _, _⟩, _⟩ := hu; go_simp; try with_reducible rfl)
  try simp only [Act.put, List.setIfInBounds_toArray, List.set_cons_zero, List.set_cons_succ, List.getElem_toArray, List.getElem_cons_zero, List.getElem_cons_succ]
  refine wpAnyH_take (i := 7) (v := ?vy7) rfl (by kernel_rfl) (by kernel_rfl) (by kernel_rfl) (fun _ _ _ h => h) (Or.inl ⟨by rfl, ?hyy7⟩) (by assumption) ?resty7
  case hyy7 => (intro u hu; obtain ⟨⟨_, _, _, _, _⟩, _⟩ := hu; go_simp; try with_reducible rfl)
  try simp only [Act.put, List.setIfInBounds_toArray, List.set_cons_zero, List.set_cons_succ, List.getElem_toArray, List.getElem_cons_zero, List.getElem_cons_succ]
  refine wpAnyH_take (i := 8) (v := ?vy8) rfl (by kernel_rfl) (by kernel_rfl) (by kernel_rfl) (fun _ _ _ h => h) (Or.inl ⟨by rfl, ?hyy8⟩) (by assumption) ?resty8
  case hyy8 => (intro u hu; obtain ⟨⟨_, _, _, _, _⟩, _⟩ := hu; go_simp; try with_reducible rfl)
  try simp only [Act.put, List.setIfInBounds_toArray, List.set_cons_zero, List.set_cons_succ, List.getElem_toArray, List.getElem_cons_zero, List.getElem_cons_succ]
  refine wpAnyH_ready (rs := [9]) (by kernel_rfl) (by simp) ?_
  refine AllReadyH.cons rfl (fun K hK => ?_) AllReadyH.nil
  go_simp
  refine (compareNumbers_calls _ _ _).mono ?_
  rintro e w2 ⟨rfl, hb2⟩
  go_wp2_with fail
  refine hK.out _ _ (hHeld.on hB hb2) (fun hHeld2 => ?_)
  clear hK K hHeld
  have hHeld := hHeld2
  clear hHeld2
  try simp only [Act.put, List.setIfInBounds_toArray, List.set_cons_zero, List.set_cons_succ, List.getElem_toArray, List.getElem_cons_zero, List.getElem_cons_succ]
  refine wpAnyH_take (i := 10) (v := ?vy10) rfl (by kernel_rfl) (by kernel_rfl) (by kernel_rfl) (fun _ _ _ h => h) (Or.inl ⟨by rfl, ?hyy10⟩) (by assumption) ?resty10
  case hyy10 => (intro u hu; obtain ⟨⟨_, _, _, _, _⟩, _⟩ := hu; go_simp; try with_reducible rfl)
  try simp only [Act.put, List.setIfInBounds_toArray, List.set_cons_zero, List.set_cons_succ, List.getElem_toArray, List.getElem_cons_zero, List.getElem_cons_succ]
  refine wpAnyH_take (i := 11) (v := ?vy11) rfl (by kernel_rfl) (by kernel_rfl) (by kernel_rfl) (fun _ _ _ h => h) (Or.inl ⟨by rfl, ?hyy11⟩) (by assumption) ?resty11
  case hyy11 => (intro u hu; obtain ⟨⟨_, _, _, _, _⟩, _⟩ := hu; go_simp; try with_reducible rfl)
  try simp only [Act.put, List.setIfInBounds_toArray, List.set_cons_zero, List.set_cons_succ, List.getElem_toArray, List.getElem_cons_zero, List.getElem_cons_succ]
  refine wpAnyH_take (i := 12) (v := ?vy12) rfl (by kernel_rfl) (by kernel_rfl) (by kernel_rfl) (fun _ _ _ h => h) (Or.inl ⟨by rfl, ?hyy12⟩) (by assumption) ?resty12
  case hyy12 => (intro u hu; obtain ⟨⟨_, _, _, _, _⟩, _⟩ := hu; go_simp; try with_reducible rfl)
  try simp only [Act.put, List.setIfInBounds_toArray, List.set_cons_zero, List.set_cons_succ, List.getElem_toArray, List.getElem_cons_zero, List.getElem_cons_succ]
  refine wpAnyH_done (by kernel_rfl) ?_ _
  refine NoPanic.normal ?_
  go_wp2_with fail
  go_ret
  exact ⟨rfl, hHeld.1.1⟩

theorem above_calls (v : ByteArray) (t : Bool) (a : Option Addr) (cap : Nat) (V : List ByteArray) (w : World) (hV : Hid (StrsAt w a V)) : Calls Try.prog 68 #[.agg #[.string v, .bool t, .slice a V.length cap]] w fun e w' => e = .returned (.bool (t && numB v && (decide (V.length = 1) && numB (V.getD 0 default)) && decide (numN (V.getD 0 default) < numN v))) ∧ Below w.heap.size w w' := by
  cases hn : (t && numB v && (decide (V.length = 1) && numB (V.getD 0 default)))
  · simp only [Bool.false_and]
    exact above_no v t a cap V w hV hn
  · have hn' := hn
    simp only [Bool.and_eq_true, decide_eq_true_eq] at hn'
    obtain ⟨⟨rfl, hv⟩, h1, hx⟩ := hn'
    obtain ⟨x, rfl⟩ := List.length_eq_one_iff.1 h1
    obtain ⟨B, off, rfl, hB, hc, _⟩ := hV.out.get (k := 0) (by simp)
    refine (above_yes v true B off cap x w hB hc hV hn).mono fun e w' ⟨he, hb⟩ => ⟨?_, hb⟩
    rw [he, cmpN_above hv (show numB x = true from hx)]
    simp

set_option maxHeartbeats 2000000 in
theorem below_no (v : ByteArray) (t : Bool) (a : Option Addr) (cap : Nat) (V : List ByteArray) (w : World) (hV : Hid (StrsAt w a V)) (hn : Hid ((t && numB v && (decide (V.length = 1) && numB (V.getD 0 default))) = false)) : Calls Try.prog 69 #[.agg #[.string v, .bool t, .slice a V.length cap]] w fun e w' => e = .returned (.bool false) ∧ Below w.heap.size w w' := by
  have hS := AskS.start w v t a V.length cap
  have hVo : ∀ {u : World}, Below w.heap.size w u → Hid (StrsAt u a V) := fun hb => hV.out.on hb
  have hin := fun u h => inNumbers_calls v t a cap V u h
  rw [hn.out] at hin
  clear hn hV
  go_enter Try.func69, Try.ntmps69
  go_wp2_with fail
  refine wp_region_noPanic ?_
  refine wp_region_held_drew (S := AskS w v t a V.length cap) (by kernel_rfl) (hS.drew) (fun hHeld => ?_)
  refine wpAnyH_take (i := 0) (v := ?vn0) rfl (by kernel_rfl) (by kernel_rfl) (by kernel_rfl) (fun _ _ _ h => h) (Or.inl ⟨by rfl, ?hyn0⟩) (by assumption) ?restn0
  case hyn0 => (intro u hu; obtain ⟨_, _, _, _, _⟩ := hu; go_simp; try with_reducible rfl)
  try simp only [Act.put, List.setIfInBounds_toArray, List.set_cons_zero, List.set_cons_succ, List.getElem_toArray, List.getElem_cons_zero, List.getElem_cons_succ]
  refine wpAnyH_ready (rs := [1]) (by kernel_rfl) (by simp) ?_
  refine AllReadyH.cons rfl (fun K hK => ?_) AllReadyH.nil
  go_simp
  refine (hin _ (hVo hHeld.1)).mono ?_
  rintro e w1 ⟨rfl, hb2⟩
  go_wp2_with fail
  refine hK.out _ _ (hHeld.on hb2) (fun hHeld2 => ?_)
  clear hK K hHeld
  have hHeld := hHeld2
  clear hHeld2
  try simp only [Act.put, List.setIfInBounds_toArray, List.set_cons_zero, List.set_cons_succ, List.getElem_toArray, List.getElem_cons_zero, List.getElem_cons_succ]
  refine wpAnyH_take (i := 2) (v := ?vn2) rfl (by kernel_rfl) (by kernel_rfl) (by kernel_rfl) (fun _ _ _ h => h) (Or.inl ⟨by rfl, ?hyn2⟩) (by assumption) ?restn2
  case hyn2 => (intro u hu; obtain ⟨_, _, _, _, _⟩ := hu; go_simp; try with_reducible rfl)
  try simp only [Act.put, List.setIfInBounds_toArray, List.set_cons_zero, List.set_cons_succ, List.getElem_toArray, List.getElem_cons_zero, List.getElem_cons_succ]
  refine wpAnyH_take (i := 3) (v := undef) rfl (by kernel_rfl) (by kernel_rfl) (by kernel_rfl) (fun _ _ _ h => h) (Or.inr ⟨by rfl, rfl⟩) (by assumption) ?_
  try simp only [Act.put, List.setIfInBounds_toArray, List.set_cons_zero, List.set_cons_succ, List.getElem_toArray, List.getElem_cons_zero, List.getElem_cons_succ]
  refine wpAnyH_take (i := 4) (v := undef) rfl (by kernel_rfl) (by kernel_rfl) (by kernel_rfl) (fun _ _ _ h => h) (Or.inr ⟨by rfl, rfl⟩) (by assumption) ?_
  try simp only [Act.put, List.setIfInBounds_toArray, List.set_cons_zero, List.set_cons_succ, List.getElem_toArray, List.getElem_cons_zero, List.getElem_cons_succ]
  refine wpAnyH_take (i := 5) (v := undef) rfl (by kernel_rfl) (by kernel_rfl) (by kernel_rfl) (fun _ _ _ h => h) (Or.inr ⟨by rfl, rfl⟩) (by assumption) ?_
  try simp only [Act.put, List.setIfInBounds_toArray, List.set_cons_zero, List.set_cons_succ, List.getElem_toArray, List.getElem_cons_zero, List.getElem_cons_succ]
  refine wpAnyH_take (i := 6) (v := undef) rfl (by kernel_rfl) (by kernel_rfl) (by kernel_rfl) (fun _ _ _ h => h) (Or.inr ⟨by rfl, rfl⟩) (by assumption) ?_
  try simp only [Act.put, List.setIfInBounds_toArray, List.set_cons_zero, List.set_cons_succ, List.getElem_toArray, List.getElem_cons_zero, List.getElem_cons_succ]
  refine wpAnyH_take (i := 7) (v := undef) rfl (by kernel_rfl) (by kernel_rfl) (by kernel_rfl) (fun _ _ _ h => h) (Or.inr ⟨by rfl, rfl⟩) (by assumption) ?_
  try simp only [Act.put, List.setIfInBounds_toArray, List.set_cons_zero, List.set_cons_succ, List.getElem_toArray, List.getElem_cons_zero, List.getElem_cons_succ]
  refine wpAnyH_take (i := 8) (v := undef) rfl (by kernel_rfl) (by kernel_rfl) (by kernel_rfl) (fun _ _ _ h => h) (Or.inr ⟨by rfl, rfl⟩) (by assumption) ?_
  try simp only [Act.put, List.setIfInBounds_toArray, List.set_cons_zero, List.set_cons_succ, List.getElem_toArray, List.getElem_cons_zero, List.getElem_cons_succ]
  refine wpAnyH_take (i := 9) (v := undef) rfl (by kernel_rfl) (by kernel_rfl) (by kernel_rfl) (fun _ _ _ h => h) (Or.inr ⟨by rfl, rfl⟩) (by assumption) ?_
  try simp only [Act.put, List.setIfInBounds_toArray, List.set_cons_zero, List.set_cons_succ, List.getElem_toArray, List.getElem_cons_zero, List.getElem_cons_succ]
  refine wpAnyH_take (i := 10) (v := undef) rfl (by kernel_rfl) (by kernel_rfl) (by kernel_rfl) (fun _ _ _ h => h) (Or.inr ⟨by rfl, rfl⟩) (by assumption) ?_
  try simp only [Act.put, List.setIfInBounds_toArray, List.set_cons_zero, List.set_cons_succ, List.getElem_toArray, List.getElem_cons_zero, List.getElem_cons_succ]
  refine wpAnyH_take (i := 11) (v := ?vn11) rfl (by kernel_rfl) (by kernel_rfl) (by kernel_rfl) (fun _ _ _ h => h) (Or.inl ⟨by rfl, ?hyn11⟩) (by assumption) ?restn11
  case hyn11 => (intro u hu; obtain ⟨_, _, _, _, _⟩ := hu; go_simp; try with_reducible rfl)
  try simp only [Act.put, List.setIfInBounds_toArray, List.set_cons_zero, List.set_cons_succ, List.getElem_toArray, List.getElem_cons_zero, List.getElem_cons_succ]
  refine wpAnyH_take (i := 12) (v := ?vn12) rfl (by kernel_rfl) (by kernel_rfl) (by kernel_rfl) (fun _ _ _ h => h) (Or.inl ⟨by rfl, ?hyn12⟩) (by assumption) ?restn12
  case hyn12 => (intro u hu; obtain ⟨_, _, _, _, _⟩ := hu; go_simp; try with_reducible rfl)
  try simp only [Act.put, List.setIfInBounds_toArray, List.set_cons_zero, List.set_cons_succ, List.getElem_toArray, List.getElem_cons_zero, List.getElem_cons_succ]
  refine wpAnyH_done (by kernel_rfl) ?_ _
  refine NoPanic.normal ?_
  go_wp2_with fail
  go_ret
  exact ⟨rfl, hHeld.1⟩

set_option maxHeartbeats 2000000 in
theorem below_yes (v : ByteArray) (t : Bool) (B off cap : Nat) (x : ByteArray) (w : World) (hB : B < w.heap.size) (hx : w.cell? ⟨B, off, none⟩ = some (.string x)) (hV : Hid (StrsAt w (some ⟨B, off, none⟩) [x])) (hn : Hid ((t && numB v && (decide ([x].length = 1) && numB ([x].getD 0 default))) = true)) : Calls Try.prog 69 #[.agg #[.string v, .bool t, .slice (some ⟨B, off, none⟩) 1 cap]] w fun e w' => e = .returned (.bool (decide (cmpN v x < 0))) ∧ Below w.heap.size w w' := by
  have hS : AskS1 w v t B off 1 cap x (w.alloc (.cells #[.string v, .bool t, .slice (some ⟨B, off, none⟩) 1 cap] 115)) := ⟨AskS.start w v t (some ⟨B, off, none⟩) 1 cap, (((Below.refl _ _).alloc (Nat.le_refl _) _).cell hB).trans hx⟩
  have hVo : ∀ {u : World}, Below w.heap.size w u → Hid (StrsAt u (some ⟨B, off, none⟩) [x]) := fun hb => hV.out.on hb
  have hin : ∀ u, Hid (StrsAt u (some ⟨B, off, none⟩) [x]) → Calls Try.prog 73 #[.agg #[.string v, .bool t, .slice (some ⟨B, off, none⟩) 1 cap]] u fun e w' => e = .returned (.bool true) ∧ Below u.heap.size u w' := fun u h => by
    have h' := inNumbers_calls v t (some ⟨B, off, none⟩) cap [x] u h
    rw [hn.out] at h'
    exact h'
  clear hn hV
  clear hx
  go_enter Try.func69, Try.ntmps69
  go_wp2_with fail
  refine wp_region_noPanic ?_
  refine wp_region_held_drew (S := AskS1 w v t B off 1 cap x) (by kernel_rfl) (hS.drew) (fun hHeld => ?_)
  refine wpAnyH_take (i := 0) (v := ?vy0) rfl (by kernel_rfl) (by kernel_rfl) (by kernel_rfl) (fun _ _ _ h => h) (Or.inl ⟨by rfl, ?hyy0⟩) (by assumption) ?resty0
  case hyy0 => (intro u hu; obtain ⟨⟨_, _, _, _, _⟩, _⟩ := hu; go_simp; try with_reducible rfl)
  try simp only [Act.put, List.setIfInBounds_toArray, List.set_cons_zero, List.set_cons_succ, List.getElem_toArray, List.getElem_cons_zero, List.getElem_cons_succ]
  refine wpAnyH_ready (rs := [1]) (by kernel_rfl) (by simp) ?_
  refine AllReadyH.cons rfl (fun K hK => ?_) AllReadyH.nil
  go_simp
  refine (hin _ (hVo hHeld.1.1)).mono ?_
  rintro e w1 ⟨rfl, hb2⟩
  go_wp2_with fail
  refine hK.out _ _ (hHeld.on hB hb2) (fun hHeld2 => ?_)
  clear hK K hHeld
  have hHeld := hHeld2
  clear hHeld2
  try simp only [Act.put, List.setIfInBounds_toArray, List.set_cons_zero, List.set_cons_succ, List.getElem_toArray, List.getElem_cons_zero, List.getElem_cons_succ]
  refine wpAnyH_take (i := 2) (v := ?vy2) rfl (by kernel_rfl) (by kernel_rfl) (by kernel_rfl) (fun _ _ _ h => h) (Or.inl ⟨by rfl, ?hyy2⟩) (by assumption) ?resty2
  case hyy2 => (intro u hu; obtain ⟨⟨_, _, _, _, _⟩, _⟩ := hu; go_simp; try with_reducible rfl)
  try simp only [Act.put, List.setIfInBounds_toArray, List.set_cons_zero, List.set_cons_succ, List.getElem_toArray, List.getElem_cons_zero, List.getElem_cons_succ]
  refine wpAnyH_take (i := 3) (v := ?vy3) rfl (by kernel_rfl) (by kernel_rfl) (by kernel_rfl) (fun _ _ _ h => h) (Or.inl ⟨by rfl, ?hyy3⟩) (by assumption) ?resty3
  case hyy3 => (intro u hu; obtain ⟨⟨_, _, _, _, _⟩, _⟩ := hu; go_simp; try with_reducible rfl)
  try simp only [Act.put, List.setIfInBounds_toArray, List.set_cons_zero, List.set_cons_succ, List.getElem_toArray, List.getElem_cons_zero, List.getElem_cons_succ]
  refine wpAnyH_take (i := 4) (v := ?vy4) rfl (by kernel_rfl) (by kernel_rfl) (by kernel_rfl) (fun _ _ _ h => h) (Or.inl ⟨by rfl, ?hyy4⟩) (by assumption) ?resty4
  case hyy4 => (intro u hu; obtain ⟨⟨_, _, _, _, _⟩, _⟩ := hu; go_simp; try with_reducible rfl)
  try simp only [Act.put, List.setIfInBounds_toArray, List.set_cons_zero, List.set_cons_succ, List.getElem_toArray, List.getElem_cons_zero, List.getElem_cons_succ]
  refine wpAnyH_take (i := 5) (v := ?vy5) rfl (by kernel_rfl) (by kernel_rfl) (by kernel_rfl) (fun _ _ _ h => h) (Or.inl ⟨by rfl, ?hyy5⟩) (by assumption) ?resty5
  case hyy5 => (intro u hu; obtain ⟨⟨_, _, _, _, _⟩, _⟩ := hu; go_simp; try with_reducible rfl)
  try simp only [Act.put, List.setIfInBounds_toArray, List.set_cons_zero, List.set_cons_succ, List.getElem_toArray, List.getElem_cons_zero, List.getElem_cons_succ]
  refine wpAnyH_take (i := 6) (v := ?vy6) rfl (by kernel_rfl) (by kernel_rfl) (by kernel_rfl) (fun _ _ _ h => h) (Or.inl ⟨by rfl, ?hyy6⟩) (by assumption) ?resty6
  case hyy6 => (intro u hu; obtain ⟨⟨_, _, _, _, _⟩, _⟩ := hu; go_simp; try with_reducible rfl)
  try simp only [Act.put, List.setIfInBounds_toArray, List.set_cons_zero, List.set_cons_succ, List.getElem_toArray, List.getElem_cons_zero, List.getElem_cons_succ]
  refine wpAnyH_take (i := 7) (v := ?vy7) rfl (by kernel_rfl) (by kernel_rfl) (by kernel_rfl) (fun _ _ _ h => h) (Or.inl ⟨by rfl, ?hyy7⟩) (by assumption) ?resty7
  case hyy7 => (intro u hu; obtain ⟨⟨_, _, _, _, _⟩, _⟩ := hu; go_simp; try with_reducible rfl)
  try simp only [Act.put, List.setIfInBounds_toArray, List.set_cons_zero, List.set_cons_succ, List.getElem_toArray, List.getElem_cons_zero, List.getElem_cons_succ]
  refine wpAnyH_take (i := 8) (v := ?vy8) rfl (by kernel_rfl) (by kernel_rfl) (by kernel_rfl) (fun _ _ _ h => h) (Or.inl ⟨by rfl, ?hyy8⟩) (by assumption) ?resty8
  case hyy8 => (intro u hu; obtain ⟨⟨_, _, _, _, _⟩, _⟩ := hu; go_simp; try with_reducible rfl)
  try simp only [Act.put, List.setIfInBounds_toArray, List.set_cons_zero, List.set_cons_succ, List.getElem_toArray, List.getElem_cons_zero, List.getElem_cons_succ]
  refine wpAnyH_ready (rs := [9]) (by kernel_rfl) (by simp) ?_
  refine AllReadyH.cons rfl (fun K hK => ?_) AllReadyH.nil
  go_simp
  refine (compareNumbers_calls _ _ _).mono ?_
  rintro e w2 ⟨rfl, hb2⟩
  go_wp2_with fail
  refine hK.out _ _ (hHeld.on hB hb2) (fun hHeld2 => ?_)
  clear hK K hHeld
  have hHeld := hHeld2
  clear hHeld2
  try simp only [Act.put, List.setIfInBounds_toArray, List.set_cons_zero, List.set_cons_succ, List.getElem_toArray, List.getElem_cons_zero, List.getElem_cons_succ]
  refine wpAnyH_take (i := 10) (v := ?vy10) rfl (by kernel_rfl) (by kernel_rfl) (by kernel_rfl) (fun _ _ _ h => h) (Or.inl ⟨by rfl, ?hyy10⟩) (by assumption) ?resty10
  case hyy10 => (intro u hu; obtain ⟨⟨_, _, _, _, _⟩, _⟩ := hu; go_simp; try with_reducible rfl)
  try simp only [Act.put, List.setIfInBounds_toArray, List.set_cons_zero, List.set_cons_succ, List.getElem_toArray, List.getElem_cons_zero, List.getElem_cons_succ]
  refine wpAnyH_take (i := 11) (v := ?vy11) rfl (by kernel_rfl) (by kernel_rfl) (by kernel_rfl) (fun _ _ _ h => h) (Or.inl ⟨by rfl, ?hyy11⟩) (by assumption) ?resty11
  case hyy11 => (intro u hu; obtain ⟨⟨_, _, _, _, _⟩, _⟩ := hu; go_simp; try with_reducible rfl)
  try simp only [Act.put, List.setIfInBounds_toArray, List.set_cons_zero, List.set_cons_succ, List.getElem_toArray, List.getElem_cons_zero, List.getElem_cons_succ]
  refine wpAnyH_take (i := 12) (v := ?vy12) rfl (by kernel_rfl) (by kernel_rfl) (by kernel_rfl) (fun _ _ _ h => h) (Or.inl ⟨by rfl, ?hyy12⟩) (by assumption) ?resty12
  case hyy12 => (intro u hu; obtain ⟨⟨_, _, _, _, _⟩, _⟩ := hu; go_simp; try with_reducible rfl)
  try simp only [Act.put, List.setIfInBounds_toArray, List.set_cons_zero, List.set_cons_succ, List.getElem_toArray, List.getElem_cons_zero, List.getElem_cons_succ]
  refine wpAnyH_done (by kernel_rfl) ?_ _
  refine NoPanic.normal ?_
  go_wp2_with fail
  go_ret
  exact ⟨rfl, hHeld.1.1⟩

theorem below_calls (v : ByteArray) (t : Bool) (a : Option Addr) (cap : Nat) (V : List ByteArray) (w : World) (hV : Hid (StrsAt w a V)) : Calls Try.prog 69 #[.agg #[.string v, .bool t, .slice a V.length cap]] w fun e w' => e = .returned (.bool (t && numB v && (decide (V.length = 1) && numB (V.getD 0 default)) && decide (numN v < numN (V.getD 0 default)))) ∧ Below w.heap.size w w' := by
  cases hn : (t && numB v && (decide (V.length = 1) && numB (V.getD 0 default)))
  · simp only [Bool.false_and]
    exact below_no v t a cap V w hV hn
  · have hn' := hn
    simp only [Bool.and_eq_true, decide_eq_true_eq] at hn'
    obtain ⟨⟨rfl, hv⟩, h1, hx⟩ := hn'
    obtain ⟨x, rfl⟩ := List.length_eq_one_iff.1 h1
    obtain ⟨B, off, rfl, hB, hc, _⟩ := hV.out.get (k := 0) (by simp)
    refine (below_yes v true B off cap x w hB hc hV hn).mono fun e w' ⟨he, hb⟩ => ⟨?_, hb⟩
    rw [he, cmpN_below hv (show numB x = true from hx)]
    simp
end Go.Proofs.Ytpjgffcpjabghaa
