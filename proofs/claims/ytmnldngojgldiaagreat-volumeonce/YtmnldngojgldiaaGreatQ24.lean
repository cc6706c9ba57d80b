/- slices.MinFunc and smallest, at places on a shelf. Condition: the arguments lie as is said of them. slices.Delete of one volume, at a row of one's own. Condition: the row lies as is said of it. -/
import Derived.Test.YtmnldngojgldiaaGreatQ23
import Derived.Test.YtmnldngojgldiaaGreatQ20
import Derived.Test.YtmnldngojgldiaaGreatQ09
import Derived.Test.YtmnldngojgldiaaGreatQ04
import Derived.Lib.AppendZeros
namespace Go.Proofs.YtmnldngojgldiaaGreat
open Go.RowKit Go.Maps
set_option linter.unusedSimpArgs false
set_option maxRecDepth 100000

theorem asZ_at {l : List Nat} {k : Nat} (h : k < l.length) : (asZ l).getD k default = ((l.getD k default : Nat) : Int) := by
  unfold asZ
  rw [List.getD_eq_getElem?_getD, List.getElem?_map, List.getD_eq_getElem?_getD, List.getElem?_eq_getElem h]
  rfl
theorem minT_step (lt : Nat → Nat → Bool) (l : List Nat) {k : Nat} (h : 1 ≤ k) : minT lt l k = if lt (l.getD k default) (minT lt l (k - 1)) = true then l.getD k default else minT lt l (k - 1) := by
  obtain ⟨m, rfl⟩ : ∃ m, k = m + 1 := ⟨k - 1, by omega⟩
  rfl
set_option maxHeartbeats 8000000 in
theorem minFunc_calls (a : Option Addr) (n cap : Nat) (A : Where) (l : List Nat) (va : Option Addr) (vn vc bp : Nat) (A' : Where) (L : List VolumeD) (w : World) (hl : Hid (SlAt RInt 1 8 A w a n cap (asZ l))) (hL : Hid (SlAt RVolume 5 bp A' w va vn vc L)) (hin : Hid (∀ x ∈ l, x < vn)) (h0 : 0 < n) :
    Calls Tryz.prog 79 #[.slice a n cap, .func (.func 72) #[.slice va vn vc] #[]] w fun e w' => e = .returned (.int .i64 ((minT (ltAt L) l (n - 1) : Nat) : Int)) ∧ Below w.heap.size w w' := by
  have hnl : Hid (l.length = n) := by have := hl.out.1; rw [List.length_map] at this; exact this
  have hlen := hl.out.len (by decide)
  have HC : Hid (∀ u, Below w.heap.size w u → ∀ i j, i ∈ l → j ∈ l → Calls Tryz.prog 72 #[.slice va vn vc, .int .i64 (i : Int), .int .i64 (j : Int)] u fun e w' => e = .returned (.int .i64 (cmpZ (L.getD i default) (L.getD j default))) ∧ Below u.heap.size u w') := fun u hb i j hi hj => compare_calls va vn vc bp A' L i j u (hL.out.on RVolume.firm hb) (hin.out i hi) (hin.out j hj)
  have HU : Hid (∀ u, Below w.heap.size w u → SlAt RInt 1 8 A u a n cap (asZ l)) := fun u hb => hl.out.on RInt.firm hb
  have HM : Hid (∀ k, k < n → l.getD k default ∈ l ∧ minT (ltAt L) l k ∈ l) := fun k hk => ⟨getD_mem10 (by rw [hnl.out]; exact hk), minT_mem (by rw [hnl.out]; exact hk)⟩
  have HA : Hid (∀ k, k < n → (asZ l).getD k default = ((l.getD k default : Nat) : Int)) := fun k hk => asZ_at (by rw [hnl.out]; exact hk)
  obtain ⟨B, off, rfl, hB, _, ys, hr, hv⟩ := hl.out.get h0
  obtain rfl : ys = [.int .i64 ((asZ l).getD 0 default)] := hr
  have d0 := hv 0 _ rfl
  rw [HA.out 0 h0, Nat.mul_one, Nat.add_zero] at d0
  have h0z : ¬ ((n : Int) < 1) := by omega
  have h0y : (0 : Int) < (n : Int) := by omega
  have HI : Hid (minT (ltAt L) l (1 - 1) = l.getD 0 default) := rfl
  clear hl hL hin hv hB
  generalize l.getD 0 default = z0 at d0 HI
  have eg := enters_of Tryz.func72 (by kernel_rfl) rfl
  go_enter Tryz.func79, Tryz.ntmps79
  go_wp2_with fail
  clear d0
  go_loopw [5, 6] (fun m i wr => ∃ k : Nat, 1 ≤ k ∧ k ≤ n ∧ i = .int .i64 k ∧ m = .int .i64 ((minT (ltAt L) l (k - 1) : Nat) : Int) ∧ Hid (Below w.heap.size w wr)) (fun _ i _ => n - (intOf i).toNat)
  case atStart => exact ⟨1, Nat.le_refl _, h0, rfl, by rw [HI.out], Below.refl _ _⟩
  case round =>
    obtain ⟨k, hk1, hk, rfl, rfl, hbw⟩ := hrel
    by_cases hlt : k < n
    · have hltz : (k : Int) < (n : Int) := by omega
      obtain ⟨B', off', e', hB, _, ys, hr, hv⟩ := (HU.out wr hbw.out).get hlt
      obtain ⟨rfl, rfl⟩ : B = B' ∧ off = off' := by simpa using e'
      obtain rfl : ys = [.int .i64 ((asZ l).getD k default)] := hr
      have d0 := hv 0 _ rfl
      rw [HA.out k hlt, Nat.mul_one, Nat.add_zero] at d0
      have hC := HC.out wr hbw.out _ _ (HM.out k hlt).1 (HM.out (k - 1) (by omega)).2
      have HS : Hid (minT (ltAt L) l (k + 1 - 1) = if lessV (L.getD (l.getD k default) default) (L.getD (minT (ltAt L) l (k - 1)) default) = true then l.getD k default else minT (ltAt L) l (k - 1)) := minT_step (ltAt L) l hk1
      have hcl := cmpZ_less (L.getD (l.getD k default) default) (L.getD (minT (ltAt L) l (k - 1)) default)
      rw [Hid, ← hcl] at HS
      have HS2 : Hid (minT (ltAt L) l (k + 1 - 1) = if decide (cmpZ (L.getD (l.getD k default) default) (L.getD (minT (ltAt L) l (k - 1)) default) < 0) = true then l.getD k default else minT (ltAt L) l (k - 1)) := HS
      clear HS hcl hv e'
      generalize cmpZ (L.getD (l.getD k default) default) (L.getD (minT (ltAt L) l (k - 1)) default) = c at hC HS2
      generalize l.getD k default = x at d0 hC HS2
      generalize minT (ltAt L) l (k - 1) = y at hC HS2
      go_wp2_with fail
      refine hC.mono ?_
      rintro e w6 ⟨rfl, hb6⟩
      have HB6 : Hid (Below w.heap.size w w6) := on2 hbw.out hb6
      have d1 := (hb6.cell (p := ⟨B, off + k, none⟩) hB).trans d0
      clear hC hb6 d0 hB
      by_cases hcz : c < 0
      · have HN : Hid (minT (ltAt L) l (k + 1 - 1) = x) := by have := HS2.out; rwa [if_pos (by simpa using hcz)] at this
        clear HS2
        go_wp2_with fail
        go_roundw
        case rel => exact ⟨k + 1, by omega, by omega, by go_num, by rw [HN.out], HB6⟩
        case measure => simp [intOf]; omega
      · have HN : Hid (minT (ltAt L) l (k + 1 - 1) = y) := by have := HS2.out; rwa [if_neg (by simpa using hcz)] at this
        clear HS2
        go_wp2_with fail
        go_roundw
        case rel => exact ⟨k + 1, by omega, by omega, by go_num, by rw [HN.out], HB6⟩
        case measure => simp [intOf]; omega
    · have hkn : k = n := by omega
      have HN : Hid (minT (ltAt L) l (k - 1) = minT (ltAt L) l (n - 1)) := by rw [Hid, hkn]
      clear hkn
      generalize minT (ltAt L) l (k - 1) = y at HN
      go_wp2_with fail
      go_ret
      exact ⟨by rw [← HN.out]; rfl, hbw.out⟩
set_option maxHeartbeats 4000000 in
theorem smallest_calls (a : Option Addr) (n cap : Nat) (A : Where) (l : List Nat) (va : Option Addr) (vn vc bp : Nat) (A' : Where) (L : List VolumeD) (w : World) (hl : Hid (SlAt RInt 1 8 A w a n cap (asZ l))) (hL : Hid (SlAt RVolume 5 bp A' w va vn vc L)) (hin : Hid (∀ x ∈ l, x < vn)) :
    Calls Tryz.prog 70 #[.slice a n cap, .func (.func 72) #[.slice va vn vc] #[]] w fun e w' => e = .returned (.tuple #[.int .i64 (if n = 0 then 0 else ((minT (ltAt L) l (n - 1) : Nat) : Int)), .bool (!decide (n = 0))]) ∧ Below w.heap.size w w' := by
  have hlen := hl.out.len (by decide)
  by_cases h0 : n = 0
  · subst h0
    clear hl hL hin
    go_enter Tryz.func70, Tryz.ntmps70
    go_wp2_with fail
    go_ret2
    exact ⟨rfl, Below.refl _ _⟩
  · have hC := minFunc_calls a n cap A l va vn vc bp A' L w hl hL hin (by omega)
    have h0z : ¬ ((n : Int) = 0) := by omega
    clear hl hL hin
    rw [if_neg h0]
    generalize minT (ltAt L) l (n - 1) = y at hC
    have hd : decide (n = 0) = false := by simpa using h0
    rw [hd]
    go_enter Tryz.func70, Tryz.ntmps70
    go_wp2_with fail
    refine hC.mono ?_
    rintro e w6 ⟨rfl, hb6⟩
    clear hC
    go_wp2_with fail
    go_ret2
    exact ⟨rfl, hb6⟩
theorem smallest_callsZ (a : Option Addr) (n cap : Nat) (A : Where) (l : List Nat) (va : Option Addr) (vn vc bp : Nat) (A' : Where) (L : List VolumeD) (w : World) (hl : Hid (SlAt RInt 1 8 A w a n cap (asZ l))) (hL : Hid (SlAt RVolume 5 bp A' w va vn vc L)) (hin : Hid (∀ x ∈ l, x < vn)) (z : Int) (b : Bool) (hz : Hid (z = if n = 0 then 0 else ((minT (ltAt L) l (n - 1) : Nat) : Int))) (hb : Hid (b = !decide (n = 0))) :
    Calls Tryz.prog 70 #[.slice a n cap, .func (.func 72) #[.slice va vn vc] #[]] w fun e w' => e = .returned (.tuple #[.int .i64 z, .bool b]) ∧ Below w.heap.size w w' := by
  rw [hz.out, hb.out]
  exact smallest_calls a n cap A l va vn vc bp A' L w hl hL hin
end Go.Proofs.YtmnldngojgldiaaGreat
namespace Go.Proofs.YtmnldngojgldiaaGreat
open Go.RowKit Go.Maps
set_option linter.unusedSimpArgs false
set_option maxRecDepth 100000

section
variable {α : Type} [Inhabited α] {R : Rep α} {k : Nat}
theorem erase_getD10 {L : List α} {i p : Nat} : (L.eraseIdx i).getD p default = if p < i then L.getD p default else L.getD (p + 1) default := by
  rw [List.getD_eq_getElem?_getD, List.getElem?_eraseIdx]
  split <;> simp [List.getD_eq_getElem?_getD]
/-- A member is taken out of cells that lie one behind the other. -/
theorem Chunks.erase {A : Where} {u : World} {xs : List Value} {L : List α} (h : Chunks R k A u xs L) {i : Nat} (hi : i < L.length) : Chunks R k A u (xs.take (i * k) ++ xs.drop ((i + 1) * k)) (L.eraseIdx i) := by
  obtain ⟨hl, hc⟩ := h
  have hle : (i + 1) * k ≤ L.length * k := Nat.mul_le_mul_right k hi
  have hle' : i * k + k ≤ L.length * k := by rw [Nat.add_mul, Nat.one_mul] at hle; exact hle
  have hlen : (L.eraseIdx i).length = L.length - 1 := List.length_eraseIdx_of_lt hi
  have hsub : (L.length - 1) * k = L.length * k - k := by rw [Nat.sub_mul, Nat.one_mul]
  have ht : (xs.take (i * k)).length = i * k := by rw [List.length_take]; omega
  refine ⟨?_, fun p hp => ?_⟩
  · rw [List.length_append, ht, List.length_drop, hl, hlen, hsub, Nat.add_mul, Nat.one_mul]; omega
  · rw [erase_getD10]
    rw [hlen] at hp
    by_cases hpi : p < i
    · rw [if_pos hpi]
      obtain ⟨cs, h1, h2⟩ := hc p (by omega)
      refine ⟨cs, h1, fun j hj => ?_⟩
      have hq : (p + 1) * k ≤ i * k := Nat.mul_le_mul_right k hpi
      rw [Nat.add_mul, Nat.one_mul] at hq
      rw [List.getElem?_append_left (by omega), List.getElem?_take, if_pos (by omega)]
      exact h2 j hj
    · rw [if_neg hpi]
      obtain ⟨cs, h1, h2⟩ := hc (p + 1) (by omega)
      refine ⟨cs, h1, fun j hj => ?_⟩
      have hq : i * k ≤ p * k := Nat.mul_le_mul_right k (by omega)
      rw [List.getElem?_append_right (by omega), ht, List.getElem?_drop, ← h2 j hj]
      congr 1
      rw [Nat.add_mul, Nat.add_mul]
      omega
end
theorem kept_setRow10 (w : World) (g : Nat) (cs : Array Value) : Kept (fun b => b ≠ g) w (w.setRow g cs) := ⟨by simp [World.setRow], fun b hb _ => setRow_other w g b cs hb⟩
theorem below_setRow10 {w0 w : World} (h : Below w0.heap.size w0 w) {g : Nat} (hg : w0.heap.size ≤ g) (cs : Array Value) : Below w0.heap.size w0 (w.setRow g cs) := h.grown (row := some g) ⟨rfl, rfl, rfl, by simp [World.setRow], fun k _ hk => setRow_other w g k cs (fun e => hk (by simp [e]))⟩ h.size (fun k e => by cases e; exact hg)
theorem zeroV10 (w : World) : (zeroValue 49).run Tryz.prog w = .ok (.agg zVolume.toArray) w := by kernel_rfl
theorem take_app10 {a b c : List Value} {n m : Nat} (h : a.length = n) (h2 : b.length = m) : (a ++ b ++ c).take (n + m) = a ++ b := by
  rw [← h, ← h2, ← List.length_append, List.take_left]
/-- What Delete hands back. -/
def DelOut (A : Where) (w0 w : World) (g n cap : Nat) (L : List VolumeD) (e : Ending) (w' : World) : Prop :=
  e = .returned (.slice (some ⟨g, 0, none⟩) n cap) ∧ Row RVolume 5 A w0 w' 49 (.slice (some ⟨g, 0, none⟩) n cap) L ∧ Kept (fun b => b ≠ g) w w'
set_option maxHeartbeats 8000000 in
theorem delete_calls (A : Where) (w0 : World) (g n cap : Nat) (L : List VolumeD) (i j m : Nat) (w : World) (hrow : Row RVolume 5 A w0 w 49 (.slice (some ⟨g, 0, none⟩) n cap) L) (hn : L.length = n) (hi : i < n) (hj : j = i + 1) (hm : n = m + 1) :
    Calls Tryz.prog 73 #[.slice (some ⟨g, 0, none⟩) n cap, .int .i64 (i : Int), .int .i64 (j : Int)] w (DelOut A w0 w g m cap (L.eraseIdx i)) := by
  obtain ⟨xs, ⟨hbl, hl, hrow⟩, hch⟩ := hrow
  rcases hrow with ⟨h0, _⟩ | ⟨g', cap', cur, hv, hbg, hg, hnc, hcm, hcs, htk⟩
  · cases h0
  obtain ⟨rfl, rfl⟩ : g = g' ∧ cap = cap' := by
    have : g = g' ∧ L.length = n ∧ cap = cap' := by simpa [hn] using hv
    exact ⟨this.1, this.2.2⟩
  obtain ⟨i0, hi0, hz0, hz1, hz2⟩ := info_parts (show (Tryz.prog.info? 49).map (fun i => (i.zero, i.size, i.bytes)) = some (some (.agg zVolume.toArray), 5, 80) by kernel_rfl)
  have hxl : xs.length = n * 5 := by rw [hl, hn]
  rw [hn] at hnc htk
  have hcur : ∀ q, q < n * 5 → cur.toList[q]? = xs[q]? := fun q hq => by rw [← htk, List.getElem?_take, if_pos hq]
  obtain ⟨news, hnews⟩ : ∃ news, news = xs.drop (j * 5) := ⟨_, rfl⟩
  have hnl : news.length = (n - j) * 5 := by rw [hnews, List.length_drop, hxl, Nat.sub_mul]
  have hone : ∀ y ∈ xs, y.oneCell' = true := by
    intro y hy
    obtain ⟨q, hq, rfl⟩ := List.mem_iff_getElem.1 hy
    have hql : q / 5 < L.length := by rw [hn]; omega
    obtain ⟨cs, h1, h2⟩ := hch.2 (q / 5) hql
    have h3 := h2 (q % 5) (by omega)
    rw [show q / 5 * 5 + q % 5 = q by omega, List.getElem?_eq_getElem hq] at h3
    exact RVolume.firm.one h1 _ (List.mem_of_getElem? h3.symm)
  have hnone : ∀ y ∈ news, y.oneCell' = true := fun y hy => hone y (by rw [hnews] at hy; exact List.mem_of_mem_drop hy)
  obtain ⟨Ad, hA, hsrc⟩ : ∃ Ad : Addr, (if cap = j then some (⟨g, 0, none⟩ : Addr) else some ⟨g, j * 5, none⟩) = some Ad ∧ ∀ (wd : World), wd.heap[g]? = some (.cells cur 49 (0, 0)) → ∀ t u, news[t]? = some u → wd.cell? (Ad.add t) = some u := by
    by_cases h : cap = j
    · refine ⟨⟨g, 0, none⟩, by simp [h], fun wd _ t u hu => ?_⟩
      have h0 : news.length = 0 := by rw [hnl, show n - j = 0 by omega]
      rw [List.length_eq_zero_iff.1 h0] at hu
      simp at hu
    · refine ⟨⟨g, j * 5, none⟩, by simp [h], fun wd hwd t u hu => ?_⟩
      have ht := (List.getElem?_eq_some_iff.1 hu).1
      rw [hnl, Nat.sub_mul] at ht
      rw [Addr.add_lit]
      rw [hnews, List.getElem?_drop, ← hcur (j * 5 + t) (by omega)] at hu
      rw [cell_of_row wd g (j * 5 + t) cur _ (0, 0) hwd]
      simpa using hu
  obtain ⟨c1, hc1⟩ : ∃ c : Array Value, c = (cur.toList.take (i * 5) ++ news ++ cur.toList.drop (i * 5 + news.length)).toArray := ⟨_, rfl⟩
  have hmn : i + (n - j) = m := by omega
  have hc1s : c1.size = cap * 5 := by rw [hc1]; simp only [List.size_toArray, List.length_append, List.length_take, List.length_drop, Array.length_toList, hnl, hcs]; omega
  have hc1t : c1.toList.take (m * 5) = xs.take (i * 5) ++ xs.drop (j * 5) := by
    rw [hc1, ← hnews]
    show (cur.toList.take (i * 5) ++ news ++ cur.toList.drop (i * 5 + news.length)).take (m * 5) = _
    have e1 : cur.toList.take (i * 5) = xs.take (i * 5) := by rw [← htk, List.take_take]; congr 1; omega
    rw [e1, show m * 5 = i * 5 + (n - j) * 5 by omega]
    exact take_app10 (by rw [List.length_take, hxl]; omega) hnl
  obtain ⟨c2, hc2⟩ : ∃ c : Array Value, c = (c1.toList.take (m * 5) ++ zVolume ++ c1.toList.drop (m * 5 + zVolume.length)).toArray := ⟨_, rfl⟩
  have hc2s : c2.size = cap * 5 := by rw [hc2]; simp only [List.size_toArray, List.length_append, List.length_take, List.length_drop, Array.length_toList, hc1s]; show min (m * 5) (cap * 5) + 5 + (cap * 5 - (m * 5 + 5)) = cap * 5; omega
  have hc2t : c2.toList.take (m * 5) = xs.take (i * 5) ++ xs.drop (j * 5) := by
    rw [hc2, ← hc1t]
    show (c1.toList.take (m * 5) ++ zVolume ++ c1.toList.drop (m * 5 + zVolume.length)).take (m * 5) = _
    rw [List.append_assoc, List.take_append_of_le_length (by rw [List.length_take, Array.length_toList, hc1s]; omega), List.take_take]
    congr 1
    omega
  have Hap : Hid (∀ wd : World, wd.heap[g]? = some (.cells cur 49 (0, 0)) → ∀ ty, (Builtin.append_ #[99, 99] ty #[.slice (some ⟨g, 0, none⟩) i cap, .slice (some Ad) (n - j) (cap - j)]).run Tryz.prog wd = .ok (.slice (some ⟨g, 0, none⟩) m cap) (wd.setRow g c1)) := fun wd hwd ty => by
    have := run_append_room (P := Tryz.prog) wd 99 ty 49 i0 Tryz.underlying99 hi0 g i cap cur hwd Ad (n - j) (cap - j) news (by rw [hz1]; exact hnl) (hsrc wd hwd) hnone (by omega) (by rw [hz1, hnl, hcs]; omega)
    rw [hmn, hz1, ← hc1] at this
    exact this
  have Hcl : Hid (∀ wd : World, wd.heap[g]? = some (.cells c1 49 (0, 0)) → ∀ ty cc, (Builtin.clear_ #[99] ty #[.slice (some ⟨g, m * 5, none⟩) 1 cc]).run Tryz.prog wd = .ok (.tuple #[]) (wd.setRow g c2)) := fun wd hwd ty cc => by
    have hst := run_storeCells_at (P := Tryz.prog) g (m * 5) 49 zVolume 0 c1 wd hwd (by rw [hc1s]; show m * 5 + 0 + 5 ≤ cap * 5; omega) (by decide)
    simp only [Nat.add_zero] at hst
    rw [← hc2] at hst
    have hzc : (Builtin.zeroCells (Value.agg #[.string ⟨#[]⟩, .int .i64 0, .string ⟨#[]⟩, .slice none 0 0, .string ⟨#[]⟩]).cells 1).toList = zVolume := by kernel_rfl
    simp [Builtin.clear_, run_underlying Tryz.underlying99, zeroV10, hzc, hst]
  have HF : Hid (∀ wd : World, Below w.heap.size w wd → Row RVolume 5 A w0 ((wd.setRow g c1).setRow g c2) 49 (.slice (some ⟨g, 0, none⟩) m cap) (L.eraseIdx i) ∧ Kept (fun b => b ≠ g) w ((wd.setRow g c1).setRow g c2)) := fun wd hwd => by
    have hgl := (Array.getElem?_eq_some_iff.1 hg).1
    have hgd : wd.heap[g]? = some (.cells cur 49 (0, 0)) := (hwd.block g hgl).trans hg
    have k2 : Kept (fun b => b ≠ g) w ((wd.setRow g c1).setRow g c2) := ((Kept.below hwd).trans (kept_setRow10 _ _ _)).trans (kept_setRow10 _ _ _)
    have hel : (L.eraseIdx i).length = m := by rw [List.length_eraseIdx_of_lt (by omega)]; omega
    refine ⟨⟨xs.take (i * 5) ++ xs.drop (j * 5), ⟨below_setRow10 (below_setRow10 (on2 hbl hwd) hbg _) hbg _, ?_, .inr ⟨g, cap, c2, by rw [hel], hbg, setRow_heap _ g c1 c2 _ _ (setRow_heap wd g cur c1 _ _ hgd), by rw [hel]; omega, hcm, hc2s, by rw [hel]; exact hc2t⟩⟩, ?_⟩, k2⟩
    · rw [hel, List.length_append, List.length_take, List.length_drop, hxl]; omega
    · have := (hch.kept RVolume.firm (k2.weak (fun b hb e => hb.2 (by rw [e]; rfl)))).erase (i := i) (by omega)
      rw [← hj] at this
      exact this.weak RVolume.firm (fun b _ h => ⟨h.1, h.2⟩)
  have Hg : Hid (∀ wd : World, Below w.heap.size w wd → wd.heap[g]? = some (.cells cur 49 (0, 0))) := fun wd hwd => (hwd.block g (Array.getElem?_eq_some_iff.1 hg).1).trans hg
  have hbc : cap ≤ 9223372036854775807 := by have h := hcm; unfold maxLen at h; exact h
  clear hbl hl hch hv hbg hg hcm hcs htk hi0 hz0 hz1 hz2 hxl hcur hnews hnl hone hnone hsrc hc1 hc1s hc1t hc2 hc2s hc2t
  have hic : i ≤ cap := by omega
  have hjc : j ≤ cap := by omega
  have hjn : j ≤ n := by omega
  have hij : ¬ ((i : Int) = (j : Int)) := by omega
  have hij' : i ≤ j := by omega
  obtain ⟨wd, hwd⟩ : ∃ wd, wd = w.drew := ⟨_, rfl⟩
  have bd : Below w.heap.size w wd := by rw [hwd]; exact (Below.refl _ _).drew
  have hap := Hap.out wd (Hg.out wd bd)
  have hcl := Hcl.out (wd.setRow g c1) (setRow_heap wd g cur c1 _ _ (Hg.out wd bd))
  have HFo := HF.out wd bd
  obtain ⟨W1, hW1⟩ : ∃ W1, W1 = wd.setRow g c1 := ⟨_, rfl⟩
  obtain ⟨W2, hW2⟩ : ∃ W2, W2 = W1.setRow g c2 := ⟨_, rfl⟩
  rw [← hW1] at hap hcl HFo
  rw [← hW2] at hcl HFo
  have HFin : Hid (Row RVolume 5 A w0 W2 49 (.slice (some ⟨g, 0, none⟩) m cap) (L.eraseIdx i) ∧ Kept (fun b => b ≠ g) w W2) := HFo
  have HwD : Hid (wd = w.drew) := hwd
  clear Hap Hcl HF Hg HFo hW1 hW2 hwd bd
  have hmc : m ≤ cap := by omega
  have hnn : n - m = 1 := by omega
  have hmn' : m ≤ n := by omega
  have hin : i ≤ n := by omega
  have HA : Hid ((if cap = j then some (⟨g, 0, none⟩ : Addr) else some ⟨g, j * 5, none⟩) = some Ad) := hA
  have hcl' : ∀ ty, (Builtin.clear_ #[99] ty #[.slice (some ⟨g, m * 5, none⟩) (n - m) (cap - m)]).run Tryz.prog W1 = .ok (.tuple #[]) W2 := fun ty => by rw [hnn]; exact hcl ty _
  have hmcn : ¬ (cap = m) := by omega
  clear hj hm hmn hA hn hnn hcl
  have hjz : ¬ (i = j) := by omega
  go_enter Tryz.func73, Tryz.ntmps73
  go_upto_region 5 with fail
  refine t0 (fun _ => True) trivial (fun hHeld => ?_)
  rw [← HwD.out]
  try go_frame
  refine' tk 0 ?_ ?_; rotate_left
  · intro u hu; clear hu; go_simp; try with_reducible rfl
  try go_frame
  refine' tk 1 ?_ ?_; rotate_left
  · intro u hu; clear hu; go_simp; try with_reducible rfl
  try go_frame
  refine' tk 2 ?_ ?_; rotate_left
  · intro u hu; clear hu; go_simp; try with_reducible rfl
  try go_frame
  refine' tk 3 ?_ ?_; rotate_left
  · intro u hu; clear hu; go_simp; try with_reducible rfl
  try go_frame
  refine' tk 4 ?_ ?_; rotate_left
  · intro u hu; clear hu; go_simp; try with_reducible rfl
  try go_frame
  refine' tk 5 (v := .slice (some Ad) (n - j) (cap - j)) ?_ ?_
  · intro u hu; clear hu; go_simp; try rw [HA.out]
  try go_frame
  refine tr 6 (fun K hK => ?_)
  refine want_yes (by rfl) (Lib.wp_append_run _ _ _ _ _ rfl _ _ rfl rfl _ _ (hap _) ?_)
  refine hK.out _ _ hHeld (fun hHeld2 => ?_)
  clear hK K hHeld; have hHeld := hHeld2; clear hHeld2
  try go_frame
  refine' tk 7 ?_ ?_; rotate_left
  · intro u hu; clear hu; go_simp; try with_reducible rfl
  try go_frame
  refine tz ?_
  clear hap
  go_wp2_with fail
  go_ret
  exact ⟨rfl, HFin.out⟩
end Go.Proofs.YtmnldngojgldiaaGreat
