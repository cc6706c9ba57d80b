/- The law NearFree's walk. Condition: the arguments lie as is said of them; the table of powers of ten is laid as the program's text lays it. -/
import Derived.Test.YtfnafgmengefaaaDoorQ19
import Derived.Test.YtfnafgmengefaaaDoorV03
namespace Go.Proofs.YtfnafgmengefaaaDoor
open Go.RowKit Go.Maps
set_option linter.unusedSimpArgs false
set_option maxRecDepth 100000

set_option maxHeartbeats 8000000 in
theorem free_walk (cs : List Value) (p : PodD) (a : Option Addr) (n cap : Nat) (L : List Lab) (b : Option Addr) (m capb : Nat) (Pl : List PlacedD) (w : World) (hp : RPod (fun _ => True) w cs p) (hL : SlAt RLabel 2 32 (fun _ => True) w a n cap L) (hP : SlAt RPlaced 17 320 (fun _ => True) w b m capb Pl) (ht : Hid (TB w.heap.size w)) :
    Calls Tryd.prog 4 #[.agg cs.toArray, .slice a n cap, .slice b m capb] w fun e w' => e = .returned (.bool true) ∧ Below w.heap.size w w' := by
  have hlen16 : cs.length = 16 := RPod.firm.len hp
  have hm0 : Pl.length = m := hP.1
  have hm1 : Hid (m * 320 ≤ 140737488351232) := hP.2.2.2.1
  obtain ⟨W1, hW1⟩ : ∃ W, W = w.alloc (.cells cs.toArray 33) := ⟨_, rfl⟩
  have B1 : Below w.heap.size w W1 := by rw [hW1]; go_grown
  have qx : BoxL W1 w.heap.size cs := by rw [hW1]; exact BoxL.new w 33 cs
  have HT : Hid (TB W1.heap.size W1) := fun w' h => ht.out w' (on2 B1 h)
  have HQ : Hid (BoxL W1 w.heap.size cs ∧ Below w.heap.size w W1) := ⟨qx, B1⟩
  have Hp : Hid (RPod (fun _ => True) w cs p) := hp
  have HL : Hid (SlAt RLabel 2 32 (fun _ => True) w a n cap L) := hL
  have HP : Hid (SlAt RPlaced 17 320 (fun _ => True) w b m capb Pl) := hP
  clear qx B1 ht hp hL hP
  go_enter Tryd.func4, Tryd.ntmps4
  go_wp2_with fail
  rw [← hW1]
  refine (works8_calls W1 HT).mono ?_
  rintro e w2 ⟨rfl, hb2⟩
  clear hW1 HT
  have x2 : BoxL w2 w.heap.size cs := HQ.out.1.on hb2
  have x3 := (x2.set 10 (.slice none 0 0) (by omega)).set 11 (.slice none 0 0) (by rw [List.length_set]; omega)
  obtain ⟨v10, e10⟩ : ∃ v, cs[10]? = some v := ⟨_, List.getElem?_eq_getElem (by omega)⟩
  obtain ⟨v11, e11⟩ : ∃ v, (cs.set 10 (.slice none 0 0))[11]? = some v := ⟨_, List.getElem?_eq_getElem (by rw [List.length_set]; omega)⟩
  obtain ⟨c10, f10⟩ := x2.2 10 v10 e10
  obtain ⟨c11, f11⟩ := (x2.set 10 (.slice none 0 0) (by omega)).2 11 v11 e11
  have B3 : Below w.heap.size w ((w2.setCell ⟨w.heap.size, 10, none⟩ (.slice none 0 0)).setCell ⟨w.heap.size, 11, none⟩ (.slice none 0 0)) := ((on2 HQ.out.2 hb2).setCell (Nat.le_refl _) _).setCell (Nat.le_refl _) _
  obtain ⟨W3, hW3⟩ : ∃ W, W = (w2.setCell ⟨w.heap.size, 10, none⟩ (.slice none 0 0)).setCell ⟨w.heap.size, 11, none⟩ (.slice none 0 0) := ⟨_, rfl⟩
  rw [← hW3] at B3 x3
  have HX : Hid (BoxL W3 w.heap.size ((cs.set 10 (.slice none 0 0)).set 11 (.slice none 0 0)) ∧ Below w.heap.size w W3) := ⟨x3, B3⟩
  have HM := many_calls b m capb _ Pl W3 (HP.out.on RPlaced.firm B3)
  clear x2 x3 B3 HP
  go_wp2_with fail
  rw [← hW3]
  refine HM.mono ?_
  clear HM hW3 c10 f10 c11 f11 e10 e11
  rintro e w4 ⟨v, rfl, hrow⟩
  obtain ⟨av, cv, rfl, s4⟩ := hrow.slF (bytes := 320) RPlaced.firm (by rw [hm0]; exact hm1.out)
  rw [hm0] at s4 hrow
  have B4 : Below W3.heap.size W3 w4 := hrow.below
  have HST : Hid ((m = 0 ∨ ∃ g, av = some ⟨g, 0, none⟩ ∧ PlAt W3 g w4 m 0 Pl ∧ W3.heap.size ≤ g ∧ g < w4.heap.size) ∧ Below W3.heap.size W3 w4) := by
    refine ⟨?_, B4⟩
    rcases pl_of_row (v := .slice av m cv) hrow with ⟨_, h0⟩ | ⟨g, cp, e, h1, h2, h3, _⟩
    · exact .inl (hm0 ▸ h0)
    · rw [hm0] at e h1
      injection e with e1 _ _
      exact .inr ⟨g, e1, h1, h2, h3⟩
  have HS4 : Hid (SlAt RPlaced 17 320 (Fresh W3) w4 av m cv Pl) := s4
  have hcv : m ≤ cv := s4.2.1
  have hlm := s4.len (by decide)
  have hpl : Hid (Pl.length = m) := hm0
  clear hrow s4 B4 hm0
  rw [hpl.out]
  go_wp2_with fail
  go_loopw [8] (fun i wr => ∃ k : Nat, k ≤ m ∧ i = .int .i64 k ∧ Hid ((m = 0 ∨ ∃ g, av = some ⟨g, 0, none⟩ ∧ PlAt W3 g wr m k Pl ∧ W3.heap.size ≤ g ∧ g < wr.heap.size) ∧ Below W3.heap.size W3 wr)) (fun i _ => m - (intOf i).toNat)
  case atStart => exact ⟨0, Nat.zero_le _, rfl, HST⟩
  case round =>
    obtain ⟨k, hk, rfl, hst⟩ := hrel
    by_cases hlt : k < m
    · have hltz : (k : Int) < (m : Int) := by omega
      obtain ⟨g, rfl, hpa, hg0, hg1⟩ : ∃ g, av = some ⟨g, 0, none⟩ ∧ PlAt W3 g wr m k Pl ∧ W3.heap.size ≤ g ∧ g < wr.heap.size := by
        rcases hst.out.1 with h | h
        · omega
        · exact h
      obtain ⟨ds, hd, hr⟩ := hpa k hlt
      obtain ⟨y11, e11⟩ : ∃ v, ds[11]? = some v := ⟨_, List.getElem?_eq_getElem (by rw [RPlaced.firm.len hr]; omega)⟩
      obtain ⟨d11, g11⟩ := hd 11 y11 e11
      have HN : Hid ((m = 0 ∨ ∃ g', some (⟨g, 0, none⟩ : Addr) = some ⟨g', 0, none⟩ ∧ PlAt W3 g' (wr.setCell ⟨g, k * 17 + 11, none⟩ (.slice none 0 0)) m (k + 1) Pl ∧ W3.heap.size ≤ g' ∧ g' < (wr.setCell ⟨g, k * 17 + 11, none⟩ (.slice none 0 0)).heap.size) ∧ Below W3.heap.size W3 (wr.setCell ⟨g, k * 17 + 11, none⟩ (.slice none 0 0))) := ⟨.inr ⟨g, rfl, hpa.set hlt, hg0, by simpa using hg1⟩, hst.out.2.setCell hg0 _⟩
      clear hst hpa hd hr e11
      go_wp2_with fail
      go_roundw
      case rel => exact ⟨k + 1, by omega, by go_num, HN⟩
      case measure => simp [intOf]; omega
    · have hkm : k = m := by omega
      have HSl : Hid (SlAt RPlaced 17 320 (Fresh W3) wr av m cv (Pl.map noAp)) := by
        rcases hst.out.1 with h | ⟨g, rfl, h1, h2, h3⟩
        · have h5 := HS4.out
          have h6 : Pl = [] := List.eq_nil_of_length_eq_zero (by rw [hpl.out]; exact h)
          subst h6; subst h
          exact ⟨h5.1, h5.2.1, h5.2.2.1, h5.2.2.2.1, fun h => absurd h (Nat.lt_irrefl _)⟩
        · rw [hkm] at h1
          exact h1.sl hpl.out hcv hm1.out h2 h3
      have hb9 : Below W3.heap.size W3 wr := hst.out.2
      have HX9 : Hid (BoxL wr w.heap.size ((cs.set 10 (.slice none 0 0)).set 11 (.slice none 0 0)) ∧ Below w.heap.size w wr) := ⟨HX.out.1.on hb9, on2 HX.out.2 hb9⟩
      have hi16 : (Tryd.prog.info? 33).map (·.size) = some ((cs.set 10 (.slice none 0 0)).set 11 (.slice none 0 0)).length := by rw [List.length_set, List.length_set, hlen16]; exact sizePo
      have HC := NCheck_calls ((cs.set 10 (.slice none 0 0)).set 11 (.slice none 0 0)) _ _ _ (noApP (noNrP p)) a n cap L av m cv (Pl.map noAp) wr ((RPod.firm.kept Hp.out (Kept.below HX9.out.2)).noNr.noAp) (HL.out.on RLabel.firm HX9.out.2) HSl (by show (0 : Nat) < 1000000000; omega) (by show (0 : Nat) < 1000000000; omega) (by rw [cost_free _ (noAp_all Pl), List.length_map, hpl.out]; have := hm1.out; omega)
      rw [free_plain (noApP (noNrP p)) L (Pl.map noAp) rfl rfl (noAp_all Pl)] at HC
      clear hst HSl hb9 HST HS4 HX Hp HL
      generalize (cs.set 10 (.slice none 0 0)).set 11 (.slice none 0 0) = ds at *
      go_wp2_with (first | (refine wpList_load_mid rfl 33 _ rfl w.heap.size 0 rfl ds _ HX9.out.1.range Tryd.underlying33 rfl hi16 ?_) | fail)
      refine HC.mono ?_
      rintro e w9 ⟨rfl, hb⟩
      have HB : Hid (Below w.heap.size w w9) := on2 HX9.out.2 hb
      clear hb HC HX9
      go_wp2_with fail
      go_ret
      exact ⟨rfl, HB.out⟩
end Go.Proofs.YtfnafgmengefaaaDoor
