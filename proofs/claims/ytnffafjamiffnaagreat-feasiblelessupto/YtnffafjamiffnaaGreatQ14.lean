/- Functions of the program, each walked under the conditions that its theorem names. -/
import Derived.Lib.AppendZeros
import Derived.Test.YtnffafjamiffnaaGreatQ12
set_option linter.unusedSimpArgs false
set_option maxRecDepth 100000
set_option maxHeartbeats 32000000
namespace Go.Proofs.YtnffafjamiffnaaGreat
open Go.RowKit Go.Maps
section
variable {α : Type} [Inhabited α] {R : Rep α} {k : Nat}
theorem zFV {L : List α} {i p : Nat} : (L.eraseIdx i).getD p default = if p < i then L.getD p default else L.getD (p + 1) default := by
 rw [List.getD_eq_getElem?_getD, List.getElem?_eraseIdx]
 split <;> simp [List.getD_eq_getElem?_getD]
theorem Chunks.erase {A : Where} {u : World} {xs : List Value} {L : List α} (h : Chunks R k A u xs L) {i : Nat} (hi : i < L.length) : Chunks R k A u (xs.take (i * k) ++ xs.drop ((i + 1) * k)) (L.eraseIdx i) := by
 obtain ⟨hl, hc⟩ := h
 have hle : (i + 1) * k <= L.length * k := Nat.mul_le_mul_right k hi
 have hle' : i * k + k <= L.length * k := by rw [Nat.add_mul, Nat.one_mul] at hle; exact hle
 have hlen : (L.eraseIdx i).length = L.length - 1 := List.length_eraseIdx_of_lt hi
 have hsub : (L.length - 1) * k = L.length * k - k := by rw [Nat.sub_mul, Nat.one_mul]
 have ht : (xs.take (i * k)).length = i * k := by rw [List.length_take]; omega
 refine ⟨?_, fun p hp => ?_⟩
 ·rw [List.length_append, ht, List.length_drop, hl, hlen, hsub, Nat.add_mul, Nat.one_mul]; omega
 ·rw [zFV]
  rw [hlen] at hp
  by_cases hpi : p < i
  ·rw [if_pos hpi]
   obtain ⟨cs, h1, h2⟩ := hc p (by omega)
   refine ⟨cs, h1, fun j hj => ?_⟩
   have hq : (p + 1) * k <= i * k := Nat.mul_le_mul_right k hpi
   rw [Nat.add_mul, Nat.one_mul] at hq
   rw [List.getElem?_append_left (by omega), List.getElem?_take, if_pos (by omega)]
   exact h2 j hj
  ·rw [if_neg hpi]
   obtain ⟨cs, h1, h2⟩ := hc (p + 1) (by omega)
   refine ⟨cs, h1, fun j hj => ?_⟩
   have hq : i * k <= p * k := Nat.mul_le_mul_right k (by omega)
   rw [List.getElem?_append_right (by omega), ht, List.getElem?_drop, <- h2 j hj]
   congr 1
   rw [Nat.add_mul, Nat.add_mul]
   omega
end
theorem zBl (w : World) (g : Nat) (cs : Array Value) : Kept (fun b => b ≠ g) w (w.setRow g cs) := ⟨by simp [World.setRow], fun b hb _ => setRow_other w g b cs hb⟩
theorem zBa {w0 w : World} (h : Below w0.heap.size w0 w) {g : Nat} (hg : w0.heap.size <= g) (cs : Array Value) : Below w0.heap.size w0 (w.setRow g cs) := h.grown (row := some g) ⟨rfl, rfl, rfl, by simp [World.setRow], fun k _ hk => setRow_other w g k cs (fun e => hk (by simp [e]))⟩ h.size (fun k e => by cases e; exact hg)
theorem zeroV10 (w : World) : (zeroValue 79).run Tryz.prog w = .ok (.agg zVolume.toArray) w := by kernel_rfl
theorem zHi {a b c : List Value} {n m : Nat} (h : a.length = n) (h2 : b.length = m) : (a ++ b ++ c).take (n + m) = a ++ b := by
 rw [<- h, <- h2, <- List.length_append, List.take_left]
def DelOut (A : Where) (w0 w : World) (g n cap : Nat) (L : List VolumeD) (e : Ending) (w' : World) : Prop :=
 e = .returned (.slice (some ⟨g, 0, none⟩) n cap) /\ Row RVolume 5 A w0 w' 79 (.slice (some ⟨g, 0, none⟩) n cap) L /\ Kept (fun b => b ≠ g) w w'
theorem zF1 (A : Where) (w0 : World) (g n cap : Nat) (L : List VolumeD) (i j m : Nat) (w : World) (hrow : Row RVolume 5 A w0 w 79 (.slice (some ⟨g, 0, none⟩) n cap) L) (hn : L.length = n) (hi : i < n) (hj : j = i + 1) (hm : n = m + 1) :
  Calls Tryz.prog 207 #[.slice (some ⟨g, 0, none⟩) n cap, .int .i64 (i : Int), .int .i64 (j : Int)] w (DelOut A w0 w g m cap (L.eraseIdx i)) := by
 obtain ⟨xs, ⟨hbl, hl, hrow⟩, hch⟩ := hrow
 rcases hrow with ⟨h0, _⟩ | ⟨g', cap', cur, hv, hbg, hg, hnc, hcm, hcs, htk⟩
 ·cases h0
 obtain ⟨rfl, rfl⟩ : g = g' /\ cap = cap' := by
  have : g = g' /\ L.length = n /\ cap = cap' := by simpa [hn] using hv
  exact ⟨this.1, this.2.2⟩
 obtain ⟨i0, hi0, hz0, hz1, hz2⟩ := info_parts (show (Tryz.prog.info? 79).map (fun i => (i.zero, i.size, i.bytes)) = some (some (.agg zVolume.toArray), 5, 80) by kernel_rfl)
 have hxl : xs.length = n * 5 := by rw [hl, hn]
 rw [hn] at hnc htk
 have hcur : ∀ q, q < n * 5 -> cur.toList[q]? = xs[q]? := fun q hq => by rw [<- htk, List.getElem?_take, if_pos hq]
 obtain ⟨news, hnews⟩ : ∃ news, news = xs.drop (j * 5) := ⟨_, rfl⟩
 have hnl : news.length = (n - j) * 5 := by rw [hnews, List.length_drop, hxl, Nat.sub_mul]
 have hone : ∀ y ∈ xs, y.oneCell' = true := by
  intro y hy
  obtain ⟨q, hq, rfl⟩ := List.mem_iff_getElem.1 hy
  have hql : q / 5 < L.length := by rw [hn]; omega
  obtain ⟨cs, h1, h2⟩ := hch.2 (q / 5) hql
  have h3 := h2 (q % 5) (by omega)
  rw [show q / 5 * 5 + q % 5 = q by omega, List.getElem?_eq_getElem hq] at h3
  exact RVolume.firm.one h1 _ (List.mem_of_getElem? h3.symm)
 have hnone : ∀ y ∈ news, y.oneCell' = true := fun y hy => hone y (by rw [hnews] at hy; exact List.mem_of_mem_drop hy)
 obtain ⟨Ad, hA, hsrc⟩ : ∃ Ad : Addr, (if cap = j then some (⟨g, 0, none⟩ : Addr) else some ⟨g, j * 5, none⟩) = some Ad /\ ∀ (wd : World), wd.heap[g]? = some (.cells cur 79 (0, 0)) -> ∀ t u, news[t]? = some u -> wd.cell? (Ad.add t) = some u := by
  by_cases h : cap = j
  ·refine ⟨⟨g, 0, none⟩, by simp [h], fun wd _ t u hu => ?_⟩
   have h0 : news.length = 0 := by rw [hnl, show n - j = 0 by omega]
   rw [List.length_eq_zero_iff.1 h0] at hu
   simp at hu
  ·refine ⟨⟨g, j * 5, none⟩, by simp [h], fun wd hwd t u hu => ?_⟩
   have ht := (List.getElem?_eq_some_iff.1 hu).1
   rw [hnl, Nat.sub_mul] at ht
   rw [Addr.add_lit]
   rw [hnews, List.getElem?_drop, <- hcur (j * 5 + t) (by omega)] at hu
   rw [cell_of_row wd g (j * 5 + t) cur _ (0, 0) hwd]
   simpa using hu
 obtain ⟨c1, hc1⟩ : ∃ c : Array Value, c = (cur.toList.take (i * 5) ++ news ++ cur.toList.drop (i * 5 + news.length)).toArray := ⟨_, rfl⟩
 have hmn : i + (n - j) = m := by omega
 have hc1s : c1.size = cap * 5 := by rw [hc1]; simp only [List.size_toArray, List.length_append, List.length_take, List.length_drop, Array.length_toList, hnl, hcs]; omega
 have hc1t : c1.toList.take (m * 5) = xs.take (i * 5) ++ xs.drop (j * 5) := by
  rw [hc1, <- hnews]
  show (cur.toList.take (i * 5) ++ news ++ cur.toList.drop (i * 5 + news.length)).take (m * 5) = _
  have e1 : cur.toList.take (i * 5) = xs.take (i * 5) := by rw [<- htk, List.take_take]; congr 1; omega
  rw [e1, show m * 5 = i * 5 + (n - j) * 5 by omega]
  exact zHi (by rw [List.length_take, hxl]; omega) hnl
 obtain ⟨c2, hc2⟩ : ∃ c : Array Value, c = (c1.toList.take (m * 5) ++ zVolume ++ c1.toList.drop (m * 5 + zVolume.length)).toArray := ⟨_, rfl⟩
 have hc2s : c2.size = cap * 5 := by rw [hc2]; simp only [List.size_toArray, List.length_append, List.length_take, List.length_drop, Array.length_toList, hc1s]; show min (m * 5) (cap * 5) + 5 + (cap * 5 - (m * 5 + 5)) = cap * 5; omega
 have hc2t : c2.toList.take (m * 5) = xs.take (i * 5) ++ xs.drop (j * 5) := by
  rw [hc2, <- hc1t]
  show (c1.toList.take (m * 5) ++ zVolume ++ c1.toList.drop (m * 5 + zVolume.length)).take (m * 5) = _
  rw [List.append_assoc, List.take_append_of_le_length (by rw [List.length_take, Array.length_toList, hc1s]; omega), List.take_take]
  congr 1
  omega
 have Hap : Hid (∀ wd : World, wd.heap[g]? = some (.cells cur 79 (0, 0)) -> ∀ ty, (Builtin.append_ #[226, 226] ty #[.slice (some ⟨g, 0, none⟩) i cap, .slice (some Ad) (n - j) (cap - j)]).run Tryz.prog wd = .ok (.slice (some ⟨g, 0, none⟩) m cap) (wd.setRow g c1)) := fun wd hwd ty => by
  have := run_append_room (P := Tryz.prog) wd 226 ty 79 i0 Tryz.underlying226 hi0 g i cap cur hwd Ad (n - j) (cap - j) news (by rw [hz1]; exact hnl) (hsrc wd hwd) hnone (by omega) (by rw [hz1, hnl, hcs]; omega)
  rw [hmn, hz1, <- hc1] at this
  exact this
 have Hcl : Hid (∀ wd : World, wd.heap[g]? = some (.cells c1 79 (0, 0)) -> ∀ ty cc, (Builtin.clear_ #[226] ty #[.slice (some ⟨g, m * 5, none⟩) 1 cc]).run Tryz.prog wd = .ok (.tuple #[]) (wd.setRow g c2)) := fun wd hwd ty cc => by
  have hst := run_storeCells_at (P := Tryz.prog) g (m * 5) 79 zVolume 0 c1 wd hwd (by rw [hc1s]; show m * 5 + 0 + 5 <= cap * 5; omega) (by decide)
  simp only [Nat.add_zero] at hst
  rw [<- hc2] at hst
  have hzc : (Builtin.zeroCells (Value.agg #[.string ⟨#[]⟩, .int .i64 0, .string ⟨#[]⟩, .slice none 0 0, .string ⟨#[]⟩]).cells 1).toList = zVolume := by kernel_rfl
  simp [Builtin.clear_, run_underlying Tryz.underlying226, zeroV10, hzc, hst]
 have HF : Hid (∀ wd : World, Below w.heap.size w wd -> Row RVolume 5 A w0 ((wd.setRow g c1).setRow g c2) 79 (.slice (some ⟨g, 0, none⟩) m cap) (L.eraseIdx i) /\ Kept (fun b => b ≠ g) w ((wd.setRow g c1).setRow g c2)) := fun wd hwd => by
  have hgl := (Array.getElem?_eq_some_iff.1 hg).1
  have hgd : wd.heap[g]? = some (.cells cur 79 (0, 0)) := (hwd.block g hgl).trans hg
  have k2 : Kept (fun b => b ≠ g) w ((wd.setRow g c1).setRow g c2) := ((Kept.below hwd).trans (zBl _ _ _)).trans (zBl _ _ _)
  have hel : (L.eraseIdx i).length = m := by rw [List.length_eraseIdx_of_lt (by omega)]; omega
  refine ⟨⟨xs.take (i * 5) ++ xs.drop (j * 5), ⟨zBa (zBa (on2 hbl hwd) hbg _) hbg _, ?_, .inr ⟨g, cap, c2, by rw [hel], hbg, setRow_heap _ g c1 c2 _ _ (setRow_heap wd g cur c1 _ _ hgd), by rw [hel]; omega, hcm, hc2s, by rw [hel]; exact hc2t⟩⟩, ?_⟩, k2⟩
  ·rw [hel, List.length_append, List.length_take, List.length_drop, hxl]; omega
  ·have := (hch.kept RVolume.firm (k2.weak (fun b hb e => hb.2 (by rw [e]; rfl)))).erase (i := i) (by omega)
   rw [<- hj] at this
   exact this.weak RVolume.firm (fun b _ h => ⟨h.1, h.2⟩)
 have Hg : Hid (∀ wd : World, Below w.heap.size w wd -> wd.heap[g]? = some (.cells cur 79 (0, 0))) := fun wd hwd => (hwd.block g (Array.getElem?_eq_some_iff.1 hg).1).trans hg
 have hbc : cap <= 9223372036854775807 := by have h := hcm; unfold maxLen at h; exact h
 clear hbl hl hch hv hbg hg hcm hcs htk hi0 hz0 hz1 hz2 hxl hcur hnews hnl hone hnone hsrc hc1 hc1s hc1t hc2 hc2s hc2t
 have hic : i <= cap := by omega
 have hjc : j <= cap := by omega
 have hjn : j <= n := by omega
 have hij : ¬ ((i : Int) = (j : Int)) := by omega
 have hij' : i <= j := by omega
 obtain ⟨wd, hwd⟩ : ∃ wd, wd = w.drew := ⟨_, rfl⟩
 have bd : Below w.heap.size w wd := by rw [hwd]; exact (Below.refl _ _).drew
 have hap := Hap.out wd (Hg.out wd bd)
 have hcl := Hcl.out (wd.setRow g c1) (setRow_heap wd g cur c1 _ _ (Hg.out wd bd))
 have HFo := HF.out wd bd
 obtain ⟨W1, hW1⟩ : ∃ W1, W1 = wd.setRow g c1 := ⟨_, rfl⟩
 obtain ⟨W2, hW2⟩ : ∃ W2, W2 = W1.setRow g c2 := ⟨_, rfl⟩
 rw [<- hW1] at hap hcl HFo
 rw [<- hW2] at hcl HFo
 have HFin : Hid (Row RVolume 5 A w0 W2 79 (.slice (some ⟨g, 0, none⟩) m cap) (L.eraseIdx i) /\ Kept (fun b => b ≠ g) w W2) := HFo
 have HwD : Hid (wd = w.drew) := hwd
 clear Hap Hcl HF Hg HFo hW1 hW2 hwd bd
 have hmc : m <= cap := by omega
 have hnn : n - m = 1 := by omega
 have hmn' : m <= n := by omega
 have hin : i <= n := by omega
 have HA : Hid ((if cap = j then some (⟨g, 0, none⟩ : Addr) else some ⟨g, j * 5, none⟩) = some Ad) := hA
 have hcl' : ∀ ty, (Builtin.clear_ #[226] ty #[.slice (some ⟨g, m * 5, none⟩) (n - m) (cap - m)]).run Tryz.prog W1 = .ok (.tuple #[]) W2 := fun ty => by rw [hnn]; exact hcl ty _
 have hmcn : ¬ (cap = m) := by omega
 clear hj hm hmn hA hn hnn hcl
 have hjz : ¬ (i = j) := by omega
 go_enter Tryz.func207, Tryz.ntmps207
 go_upto_region 5 with fail
 refine t0 (fun _ => True) trivial (fun gH => ?_)
 rw [<- HwD.out]
 try go_frame
 refine tp 0 ?_
 try go_frame
 refine tp 1 ?_
 try go_frame
 refine tp 2 ?_
 try go_frame
 refine tp 3 ?_
 try go_frame
 refine tp 4 ?_
 try go_frame
 refine' tk 5 (v := .slice (some Ad) (n - j) (cap - j)) ?_ ?_
 ·intro u hu; clear hu; go_simp; try rw [HA.out]
 try go_frame
 refine tr 6 (fun K hK => ?_)
 refine zA4 (by rfl) (Lib.wp_append_run _ _ _ _ _ rfl _ _ rfl rfl _ _ (hap _) ?_)
 refine hK.out _ _ gH (fun gI => ?_)
 clear hK K gH; have gH := gI; clear gI
 try go_frame
 refine tp 7 ?_
 try go_frame
 refine tz ?_
 clear hap
 go_wp2_with fail
 go_ret
 exact ⟨rfl, HFin.out⟩
theorem zAH {P : Program} {ops : Array Oper} {Q : Exit -> Act -> World -> Prop} {rest : List Oper} {a : Act} {u W : World} (h : W = u) (k : wpList P ops Q rest a W) : wpList P ops Q rest a u := h ▸ k
theorem zAy {u u' : World} {D o : Nat} {cs : List Value} {row : Option Nat} (h : u.rangeAt D o cs) (hD : D < u.heap.size) (hg : u.grownBy u' row) (hr : row ≠ some D) : u'.rangeAt D o cs := fun j v hj => (World.cell?_of_block (w := u) (a := ⟨D, o + j, none⟩) (hg.block D hD (fun e => hr e.symm))).trans (h j v hj)
theorem RPod.lit0 {A : Where} {w : World} {cs : List Value} {q : PodD} (h : RPod A w cs q) : q.1.size <= 140737488355328 /\ ∃ v1 v2 v3 v4 v5 v6 v7 v8 v9 v10 v11 v12 v13 v14 v15 : Value, cs = [.string q.1, v1, v2, v3, v4, v5, v6, v7, v8, v9, v10, v11, v12, v13, v14, v15] := by
 obtain ⟨_, _, _, _, _, _, _, _, _, rfl, hp, _⟩ := h.out
 exact ⟨hp, _, _, _, _, _, _, _, _, _, _, _, _, _, _, _, rfl⟩
theorem zBr (cs : List Value) (q : PodD) (A : Where) (w : World) (h : Hid (RPod A w cs q)) : Calls Tryz.prog 53 #[.agg cs.toArray] w fun e w' => e = .returned (.string q.1) /\ Below w.heap.size w w' := by
 obtain ⟨_, v1, v2, v3, v4, v5, v6, v7, v8, v9, v10, v11, v12, v13, v14, v15, rfl⟩ := h.out.lit0
 obtain ⟨W1, hW1⟩ : ∃ W1, W1 = w.alloc (.cells #[.string q.1, v1, v2, v3, v4, v5, v6, v7, v8, v9, v10, v11, v12, v13, v14, v15] 49) := ⟨_, rfl⟩
 have HB : Hid (Below w.heap.size w W1) := by rw [hW1]; exact (Below.refl _ _).alloc (Nat.le_refl _) _
 have c0 := ((BoxL.new w 49 [.string q.1, v1, v2, v3, v4, v5, v6, v7, v8, v9, v10, v11, v12, v13, v14, v15]).2 0 _ rfl).1
 have HW : Hid (W1 = w.alloc (.cells #[.string q.1, v1, v2, v3, v4, v5, v6, v7, v8, v9, v10, v11, v12, v13, v14, v15] 49)) := hW1
 rw [show (w.alloc (.cells ([.string q.1, v1, v2, v3, v4, v5, v6, v7, v8, v9, v10, v11, v12, v13, v14, v15] : List Value).toArray 49)) = W1 from hW1.symm] at c0
 clear hW1 h
 go_enter Tryz.func53, Tryz.ntmps53
 go_wp2_with fail
 go_ret
 exact ⟨by simp, HW.out ▸ HB.out⟩
structure FirSt (A : Where) (w u : World) (mb n : Nat) (v : Value) (F : List PodD) : Prop where
 set : SetAt u mb n (fun s => hasB sEq (nameL F) s)
 row : Row RPod 16 (fun b => A b /\ b < w.heap.size) w u 49 v F
theorem FirSt.on {A : Where} {w u u' : World} {mb n : Nat} {v : Value} {F : List PodD} (h : FirSt A w u mb n v F) (hb : Below u.heap.size u u') : FirSt A w u' mb n v F := ⟨h.set.on hb, h.row.on RPod.firm hb⟩
theorem zBJ (V : List ByteArray) (x s : ByteArray) : hasB sEq (V ++ [x]) s = (hasB sEq V s || sEq s x) := by
 have : sEq x s = sEq s x := by unfold sEq; rw [BEq.comm]
 simp [hasB, this]
theorem zFW (a : Option Addr) (n cap : Nat) (A : Where) (L : List PodD) (w : World) (hL : Hid (SlAt RPod 16 296 A w a n cap L)) : Calls Tryz.prog 52 #[.slice a n cap, .func (.func 53) #[] #[]] w fun e w' => ∃ v, e = .returned v /\ Row RPod 16 (fun b => A b /\ b < w.heap.size) w w' 49 v (firstsP L) := by
 have hmm := zAk
 have hlen := hL.out.len (by decide)
 have hn : Hid (L.length = n) := hL.out.1
 have hbb : Hid (n * 296 <= 140737488351232) := hL.out.2.2.2.1
 obtain ⟨W1, hW1⟩ : ∃ W1, W1 = w.alloc (.map #[] 0) := ⟨_, rfl⟩
 have H0 : Hid (FirSt A w W1 w.heap.size 0 (.slice none 0 0) (firstsP (L.take 0))) := by
  rw [hW1]
  exact ⟨(SetAt.made w).as (fun s => rfl), (Row.nil _ w _).on RPod.firm ((Below.refl _ _).alloc (Nat.le_refl _) _)⟩
 go_enter Tryz.func52, Tryz.ntmps52
 go_wp2_with fail
 rw [<- hW1]
 clear hW1
 go_loopw [5, 16] (fun v i wr => ∃ k : Nat, k <= n /\ i = .int .i64 k /\ Hid (FirSt A w wr w.heap.size k v (firstsP (L.take k)))) (fun _ i _ => n - (intOf i).toNat)
 case atStart => exact ⟨0, Nat.zero_le _, rfl, H0⟩
 case round =>
  obtain ⟨k, hk, rfl, hst⟩ := hrel
  by_cases hlt : k < n
  ·have hltz : (k : Int) < (n : Int) := by omega
   have hkl : k < L.length := by rw [hn.out]; exact hlt
   have hbw : Below w.heap.size w wr := hst.out.row.below
   obtain ⟨D, off, rfl, hD, _, cs, hr, hv⟩ := hL.out.get hlt
   have HT : Hid (firstsP (L.take (k + 1)) = fstStep (firstsP (L.take k)) (L.getD k default)) := zBe L hkl
   have HCt : Hid ((firstsP (L.take k)).length <= k) := zC4 L k (by omega)
   generalize L.getD k default = q at hr HT
   generalize firstsP (L.take k) = G at hst HT HCt
   have hrA : RPod (fun b => A b /\ b < w.heap.size) w cs q := RPod.firm.weak hr (fun b hb h => ⟨h, hb⟩)
   obtain ⟨hsz, v1, v2, v3, v4, v5, v6, v7, v8, v9, v10, v11, v12, v13, v14, v15, rfl⟩ := hr.lit0
   have HV : Hid (wr.rangeAt D (off + k * 16) [.string q.1, v1, v2, v3, v4, v5, v6, v7, v8, v9, v10, v11, v12, v13, v14, v15]) := fun j v hj => (hbw.cell hD).trans (hv j v hj)
   have hi : (Tryz.prog.info? 49).map (·.size) = some ([.string q.1, v1, v2, v3, v4, v5, v6, v7, v8, v9, v10, v11, v12, v13, v14, v15] : List Value).length := zAM
   have H1 : Hid ((([.string q.1, v1, v2, v3, v4, v5, v6, v7, v8, v9, v10, v11, v12, v13, v14, v15] : List Value).toArray).all (·.oneCell') = true) := all_oneCell_toArray (RPod.firm.one hr)
   have HA : Hid (RPod (fun b => A b /\ b < w.heap.size) w [.string q.1, v1, v2, v3, v4, v5, v6, v7, v8, v9, v10, v11, v12, v13, v14, v15] q) := hrA
   clear hr hv hrA
   obtain ⟨wb, hwb⟩ : ∃ wb, wb = (wr.alloc (.cells #[.string ⟨#[]⟩, .int .i64 0, .slice none 0 0, .int .i64 0, .int .i64 0, .int .i64 0, .slice none 0 0, .slice none 0 0, .slice none 0 0, .slice none 0 0, .slice none 0 0, .slice none 0 0, .slice none 0 0, .slice none 0 0, .string ⟨#[]⟩, .string ⟨#[]⟩] 49)).setCells wr.heap.size 0 [.string q.1, v1, v2, v3, v4, v5, v6, v7, v8, v9, v10, v11, v12, v13, v14, v15] := ⟨_, rfl⟩
   have HTH : Hid ((wr.alloc (.cells #[.string ⟨#[]⟩, .int .i64 0, .slice none 0 0, .int .i64 0, .int .i64 0, .int .i64 0, .slice none 0 0, .slice none 0 0, .slice none 0 0, .slice none 0 0, .slice none 0 0, .slice none 0 0, .slice none 0 0, .slice none 0 0, .string ⟨#[]⟩, .string ⟨#[]⟩] 49)).there wr.heap.size 0 16) := (BoxL.new wr 49 [.string ⟨#[]⟩, .int .i64 0, .slice none 0 0, .int .i64 0, .int .i64 0, .int .i64 0, .slice none 0 0, .slice none 0 0, .slice none 0 0, .slice none 0 0, .slice none 0 0, .slice none 0 0, .slice none 0 0, .slice none 0 0, .string ⟨#[]⟩, .string ⟨#[]⟩]).there
   have HRG : Hid (wb.rangeAt wr.heap.size 0 [.string q.1, v1, v2, v3, v4, v5, v6, v7, v8, v9, v10, v11, v12, v13, v14, v15]) := by rw [hwb]; exact World.rangeAt_setCells_same _ _ _ _ HTH.out
   have HBB : Hid (Below wr.heap.size wr wb) := by rw [hwb]; exact zA0 ((Below.refl _ _).alloc (Nat.le_refl _) _) (Nat.le_refl _)
   have HSZ : Hid (wr.heap.size < wb.heap.size) := World.block_lt_of_cell? wb ⟨wr.heap.size, 0 + 0, none⟩ (HRG.out 0 _ rfl)
   have HWB : Hid (wb = (wr.alloc (.cells #[.string ⟨#[]⟩, .int .i64 0, .slice none 0 0, .int .i64 0, .int .i64 0, .int .i64 0, .slice none 0 0, .slice none 0 0, .slice none 0 0, .slice none 0 0, .slice none 0 0, .slice none 0 0, .slice none 0 0, .slice none 0 0, .string ⟨#[]⟩, .string ⟨#[]⟩] 49)).setCells wr.heap.size 0 (([.string q.1, v1, v2, v3, v4, v5, v6, v7, v8, v9, v10, v11, v12, v13, v14, v15] : List Value).toArray).toList) := hwb
   clear hwb
   have HP : Hid (∀ u, Below wb.heap.size wb u -> RPod (fun b => A b /\ b < w.heap.size) u [.string q.1, v1, v2, v3, v4, v5, v6, v7, v8, v9, v10, v11, v12, v13, v14, v15] q) := fun u hb => RPod.firm.kept HA.out (Kept.below (on2 (on2 hbw HBB.out) hb))
   go_wp2_with (first | (refine wpList_load_mid rfl 49 _ rfl D (off + k * 16) rfl [.string q.1, v1, v2, v3, v4, v5, v6, v7, v8, v9, v10, v11, v12, v13, v14, v15] _ HV.out Tryz.underlying49 rfl hi ?_) | (refine wpList_store_mid rfl 49 _ _ rfl wr.heap.size 0 (([.string q.1, v1, v2, v3, v4, v5, v6, v7, v8, v9, v10, v11, v12, v13, v14, v15] : List Value).toArray) rfl rfl HTH.out hi H1.out ?_; refine zAH HWB.out ?_) | (refine wpList_load_mid rfl 49 _ rfl wr.heap.size 0 rfl [.string q.1, v1, v2, v3, v4, v5, v6, v7, v8, v9, v10, v11, v12, v13, v14, v15] _ HRG.out Tryz.underlying49 rfl hi ?_))
   refine (zBr [.string q.1, v1, v2, v3, v4, v5, v6, v7, v8, v9, v10, v11, v12, v13, v14, v15] q _ wb (HP.out wb (Below.refl _ _))).mono ?_
   rintro e wc ⟨rfl, hbc⟩
   have HSc : Hid (SetAt wc w.heap.size k (fun s => hasB sEq (nameL G) s)) := (hst.out.set.on HBB.out).on hbc
   cases hq : hasB sEq (nameL G) q.1
   ·have HSc2 : Hid (∀ u, Below wc.heap.size wc u -> SetAt u w.heap.size k (fun s => hasB sEq (nameL G) s)) := fun u hb => HSc.out.on hb
    have HRc : Hid (∀ u, Below wc.heap.size wc u -> u.rangeAt wr.heap.size 0 [.string q.1, v1, v2, v3, v4, v5, v6, v7, v8, v9, v10, v11, v12, v13, v14, v15] /\ wr.heap.size < u.heap.size) := fun u hb => ⟨zAn (zAn HRG.out hbc HSZ.out) hb (Nat.lt_of_lt_of_le HSZ.out hbc.size), Nat.lt_of_lt_of_le (Nat.lt_of_lt_of_le HSZ.out hbc.size) hb.size⟩
    have HQ : Hid (hasB sEq (nameL G) q.1 = false) := hq
    clear hq
    obtain ⟨wd, hwd⟩ : ∃ wd, wd = wc.alloc (.cells #[] 146) := ⟨_, rfl⟩
    have hbd : Below wc.heap.size wc wd := by rw [hwd]; exact (Below.refl _ _).alloc (Nat.le_refl _) _
    have HRd := (HRc.out wd hbd).1
    have HRd2 : Hid (wd.rangeAt wr.heap.size 0 [.string q.1, v1, v2, v3, v4, v5, v6, v7, v8, v9, v10, v11, v12, v13, v14, v15]) := HRd
    clear HRd
    go_wp2_with (first | (at_lookup; refine zAZ rfl _ _ 145 rfl Tryz.underlying145 w.heap.size k _ q.1 hsz rfl HSc.out rfl false HQ.out ?_) | (refine zAH hwd ?_; refine wpList_load_mid rfl 49 _ rfl wr.heap.size 0 rfl [.string q.1, v1, v2, v3, v4, v5, v6, v7, v8, v9, v10, v11, v12, v13, v14, v15] _ HRd2.out Tryz.underlying49 rfl hi ?_))
    rw [<- hwd]
    refine (zBr [.string q.1, v1, v2, v3, v4, v5, v6, v7, v8, v9, v10, v11, v12, v13, v14, v15] q _ wd (HP.out wd (on2 hbc hbd))).mono ?_
    rintro e we ⟨rfl, hbe⟩
    have hce : Below wc.heap.size wc we := on2 hbd hbe
    have HSe : Hid (SetAt we w.heap.size k (fun s => hasB sEq (nameL G) s)) := HSc2.out we hce
    have hmb : w.heap.size < wr.heap.size := hst.out.set.lt
    have HRF : Hid (∀ wf, we.grownBy wf (some w.heap.size) -> wf.rangeAt wr.heap.size 0 [.string q.1, v1, v2, v3, v4, v5, v6, v7, v8, v9, v10, v11, v12, v13, v14, v15]) := fun wf hg => zAy (HRc.out we hce).1 (HRc.out we hce).2 hg (fun e => by injection e with e; omega)
    have hrw : Row RPod 16 (fun b => A b /\ b < w.heap.size) w we 49 u5 G := ((hst.out.row.on RPod.firm HBB.out).on RPod.firm hbc).on RPod.firm hce
    have hne : Value.ownBlock u5 ≠ some w.heap.size := hrw.ne_set HSe.out
    have HRW : Hid (∀ wf, we.grownBy wf (some w.heap.size) -> Row RPod 16 (fun b => A b /\ b < w.heap.size) w wf 49 u5 G) := fun wf hg => hrw.grown RPod.firm hg (fun b hb => by injection hb with hb; subst hb; exact ⟨Nat.le_refl _, hne, fun h => Nat.lt_irrefl _ h.2⟩)
    have HR3 : Hid (∀ wf, we.grownBy wf (some w.heap.size) -> Row RPod 16 (fun b => A b /\ b < w.heap.size) w (wf.alloc (.cells #[.string q.1, v1, v2, v3, v4, v5, v6, v7, v8, v9, v10, v11, v12, v13, v14, v15] 49)) 49 u5 G) := fun wf hg => (HRW.out wf hg).on RPod.firm ((Below.refl _ _).alloc (Nat.le_refl _) _)
    have HCh : Hid (∀ wf, we.grownBy wf (some w.heap.size) -> Chunks RPod 16 (fun b => (fun b => A b /\ b < w.heap.size) b /\ Value.ownBlock u5 ≠ some b) (wf.alloc (.cells #[.string q.1, v1, v2, v3, v4, v5, v6, v7, v8, v9, v10, v11, v12, v13, v14, v15] 49)) [.string q.1, v1, v2, v3, v4, v5, v6, v7, v8, v9, v10, v11, v12, v13, v14, v15] [q]) := fun wf hg => by
     have h3 := HR3.out wf hg
     exact zAQ RPod.firm (RPod.firm.weak (RPod.firm.kept HA.out (Kept.below h3.below)) (fun b _ hb => ⟨hb, fun e => by have h1 := (h3.lt e).1; have h2 := hb.2; omega⟩))
    have HX : Hid (∀ wf : World, ∀ j v, ([.string q.1, v1, v2, v3, v4, v5, v6, v7, v8, v9, v10, v11, v12, v13, v14, v15] : List Value)[j]? = some v -> (wf.alloc (.cells #[.string q.1, v1, v2, v3, v4, v5, v6, v7, v8, v9, v10, v11, v12, v13, v14, v15] 49)).cell? ((⟨wf.heap.size, 0, none⟩ : Addr).add j) = some v) := fun wf => zAV wf _ 49
    have HO : Hid (∀ v ∈ [.string q.1, v1, v2, v3, v4, v5, v6, v7, v8, v9, v10, v11, v12, v13, v14, v15], v.oneCell' = true) := RPod.firm.one HA.out
    have HLb : Hid ((G.length + [q].length) * 296 <= 140737488355328) := by have h1 := zBO hbb.out hlt; have h2 := HCt.out; rw [Hid, List.length_singleton]; omega
    have hkn : k < 140737488355328 := by omega
    have HE : Hid (∀ (wf : World) (vn : Value) (w4 : World), SetAt wf w.heap.size (k + 1) (fun t => hasB sEq (nameL G) t || sEq t q.1) -> Row RPod 16 (fun b => A b /\ b < w.heap.size) w w4 49 vn (G ++ [q]) -> (wf.alloc (.cells #[.string q.1, v1, v2, v3, v4, v5, v6, v7, v8, v9, v10, v11, v12, v13, v14, v15] 49)).grownBy w4 (Value.ownBlock u5) -> FirSt A w w4 w.heap.size (k + 1) vn (firstsP (L.take (k + 1)))) := fun wf vn w4 hs hr hg => by
     have e1 : firstsP (L.take (k + 1)) = G ++ [q] := by rw [HT.out]; unfold fstStep; rw [HQ.out]; rfl
     rw [e1]
     exact ⟨((hs.on ((Below.refl _ _).alloc (Nat.le_refl _) _)).grown hg hne).as (fun s => by rw [show nameL (G ++ [q]) = nameL G ++ [q.1] by simp [nameL], zBJ]), hr⟩
    clear hrw hne HRc HSc2 HRW hce hbe hbd hwd HRd2 HV HTH HWB H1
    go_wp2_with (first | (at_mapUpdate; go_must (refine zCh rfl _ _ _ 145 rfl Tryz.underlying145 w.heap.size k _ q.1 hsz hkn rfl HSe.out rfl rfl ?_); intro wf hsf hgf) | (refine wpList_load_mid rfl 49 _ rfl wr.heap.size 0 rfl [.string q.1, v1, v2, v3, v4, v5, v6, v7, v8, v9, v10, v11, v12, v13, v14, v15] _ (HRF.out _ hgf) Tryz.underlying49 rfl hi ?_) | (at_builtin; go_must (refine zAF RPod.firm (A := (fun b => A b /\ b < w.heap.size)) (w0 := w) rfl _ _ 22 49 rfl _ 296 zE3 Tryz.underlying22 rfl (by decide) (by decide) u5 G rfl (HR3.out _ hgf) ⟨wf.heap.size, 0, none⟩ 1 1 _ [q] rfl rfl (HCh.out _ hgf) (HX.out _) HO.out HLb.out ?_); intro vn w4 hrow4 hg4))
    have HZ := HE.out wf vn w4 hsf hrow4 hg4
    go_roundw
    case rel => exact ⟨k + 1, by omega, by go_num, HZ⟩
    case measure => simp [intOf]; omega
   ·have HZ : Hid (FirSt A w (wc.alloc (.cells #[] 146)) w.heap.size (k + 1) u5 (firstsP (L.take (k + 1)))) := by
     have e1 : firstsP (L.take (k + 1)) = G := by rw [HT.out]; unfold fstStep; rw [hq]; rfl
     rw [Hid, e1]
     have h1 := ((hst.out.on HBB.out).on hbc).on ((Below.refl wc.heap.size wc).alloc (Nat.le_refl _) (.cells #[] 146))
     exact ⟨h1.set.mono (Nat.le_succ _), h1.row⟩
    clear HV HTH HWB H1 HT
    go_wp2_with (at_lookup; refine zAZ rfl _ _ 145 rfl Tryz.underlying145 w.heap.size k _ q.1 hsz rfl HSc.out rfl true hq ?_)
    go_roundw
    case rel => exact ⟨k + 1, by omega, by go_num, HZ⟩
    case measure => simp [intOf]; omega
  ·have hk9 : L.take k = L := List.take_of_length_le (by rw [hn.out]; omega)
   rw [hk9] at hst
   have hlz : ¬ ((k : Int) < (n : Int)) := by omega
   go_wp2_with fail
   go_ret
   exact ⟨_, rfl, hst.out.row⟩
end Go.Proofs.YtnffafjamiffnaaGreat
namespace Go.Proofs.YtnffafjamiffnaaGreat
open Go.RowKit
theorem tup_snoc (F : List PodD) (p : PodD) : tupP (F ++ [p]) = ((tupP F).1 ++ [p.1], plusR (tupP F).2.1 (pWant p), (tupP F).2.2.1 ++ pPorts p, (tupP F).2.2.2 ++ pClaims p) := by
 simp [tupP, nameL, wantSum]
theorem tup_succ (L : List PodD) {k : Nat} (hk : k < L.length) : tupP (L.take (k + 1)) = ((tupP (L.take k)).1 ++ [(L.getD k default).1], plusR (tupP (L.take k)).2.1 (pWant (L.getD k default)), (tupP (L.take k)).2.2.1 ++ pPorts (L.getD k default), (tupP (L.take k)).2.2.2 ++ pClaims (L.getD k default)) := by
 rw [<- zAo hk, tup_snoc]
theorem zGT {β : Type} (f : PodD -> List β) (F : List PodD) : (F.flatMap f).length = sumBy (fun p => (f p).length) F := by
 induction F with
 | nil => rfl
 | cons p F ih => rw [List.flatMap_cons, List.length_append, ih]; simp [sumBy]
theorem zBu (F : List PodD) : (tupP F).1.length = F.length /\ (tupP F).2.2.1.length = sumBy (fun p => (pPorts p).length) F /\ (tupP F).2.2.2.length = sumBy (fun p => (pClaims p).length) F :=
 ⟨by simp [tupP, nameL], zGT _ _, zGT _ _⟩
theorem tup_fits {L : List PodD} (h : FitsP L) {k : Nat} (hk : k < L.length) : ((tupP (L.take k)).2.2.1.length + (pPorts (L.getD k default)).length) * 8 <= 140737488351232 /\ ((tupP (L.take k)).2.2.2.length + (pClaims (L.getD k default)).length) * 16 <= 140737488351232 := by
 obtain ⟨_, h2, h3⟩ := zBu (L.take k)
 have e1 := zDr (fun p => (pPorts p).length) L (k + 1)
 have e2 := zDr (fun p => (pClaims p).length) L (k + 1)
 rw [<- zAo hk, zB7] at e1 e2
 simp only [sumBy, List.map_cons, List.map_nil, List.sum_cons, List.sum_nil] at e1 e2 h2 h3 h
 obtain ⟨h4, h5⟩ := h
 simp only [sumBy] at h4 h5
 exact ⟨by omega, by omega⟩
end Go.Proofs.YtnffafjamiffnaaGreat
