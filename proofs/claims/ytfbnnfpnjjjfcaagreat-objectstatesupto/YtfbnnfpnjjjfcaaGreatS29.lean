/- Rows of one's own that hold nested data: taken apart, put together, written into, kept, and its like. No condition beyond what each says. -/
import Derived.Test.YtfbnnfpnjjjfcaaGreatS28
namespace Go.Proofs.YtfbnnfpnjjjfcaaGreat
set_option maxHeartbeats 16000000
set_option maxRecDepth 100000
open Tryz Go.RowKit
set_option linter.unusedSimpArgs false
def Lo (A : Where) (w : World) : Where := fun b => A b ∧ b < w.heap.size
def NoShare (v v' : Value) : Prop := ∀ b, v.ownBlock = some b → v'.ownBlock ≠ some b
section
variable {α : Type} [Inhabited α] {R : Rep α} {k : Nat}
theorem Chunks.take {A : Where} {u : World} {xs : List Value} {L : List α} (h : Chunks R k A u xs L) (m : Nat) (hm : m ≤ L.length) : Chunks R k A u (xs.take (m * k)) (L.take m) := by
 have hmk : m * k ≤ L.length * k := Nat.mul_le_mul_right k hm
 refine ⟨by rw [List.length_take, List.length_take, h.1, Nat.min_eq_left hmk, Nat.min_eq_left hm], fun i hi => ?_⟩
 rw [List.length_take] at hi
 have hi' : i < L.length := by omega
 obtain ⟨cs, h1, h2⟩ := h.2 i hi'
 have e : (L.take m).getD i default = L.getD i default := by rw [getE _ _ (by rw [List.length_take]; omega), getE _ _ hi']; simp
 refine ⟨cs, by rw [e]; exact h1, fun j hj => ?_⟩
 have : (i + 1) * k ≤ m * k := Nat.mul_le_mul_right k (by omega)
 rw [Nat.add_mul] at this
 rw [List.getElem?_take, if_pos (by omega)]
 exact h2 j hj
theorem Chunks.drop {A : Where} {u : World} {xs : List Value} {L : List α} (h : Chunks R k A u xs L) (m : Nat) : Chunks R k A u (xs.drop (m * k)) (L.drop m) := by
 refine ⟨by rw [List.length_drop, List.length_drop, h.1, Nat.sub_mul], fun i hi => ?_⟩
 rw [List.length_drop] at hi
 have hi' : m + i < L.length := by omega
 obtain ⟨cs, h1, h2⟩ := h.2 (m + i) hi'
 have e : (L.drop m).getD i default = L.getD (m + i) default := by rw [getE _ _ (by rw [List.length_drop]; omega), getE _ _ hi']; simp
 refine ⟨cs, by rw [e]; exact h1, fun j hj => ?_⟩
 have := h2 j hj
 rw [Nat.add_mul] at this
 rw [List.getElem?_drop, show m * k + (i * k + j) = m * k + i * k + j by omega]
 exact this
theorem Chunks.append {A : Where} {u : World} {xs ys : List Value} {L M : List α} (h : Chunks R k A u xs L) (g : Chunks R k A u ys M) : Chunks R k A u (xs ++ ys) (L ++ M) := by
 obtain ⟨l1, c1⟩ := h
 obtain ⟨l2, c2⟩ := g
 refine ⟨by rw [List.length_append, List.length_append, l1, l2, Nat.add_mul], fun i hi => ?_⟩
 rcases Nat.lt_or_ge i L.length with h' | h'
 ·
  obtain ⟨cs, q1, q2⟩ := c1 i h'
  have e : (L ++ M).getD i default = L.getD i default := by rw [getE _ _ hi, getE _ _ h', List.getElem_append_left h']
  refine ⟨cs, by rw [e]; exact q1, fun j hj => ?_⟩
  rw [List.getElem?_append_left (by have : (i + 1) * k ≤ L.length * k := Nat.mul_le_mul_right k h'; rw [Nat.add_mul] at this; omega)]
  exact q2 j hj
 ·
  have h'' : i - L.length < M.length := by rw [List.length_append] at hi; omega
  obtain ⟨cs, q1, q2⟩ := c2 (i - L.length) h''
  have e : (L ++ M).getD i default = M.getD (i - L.length) default := by rw [getE _ _ hi, getE _ _ h'', List.getElem_append_right h']
  refine ⟨cs, by rw [e]; exact q1, fun j hj => ?_⟩
  have hle : L.length * k ≤ i * k := Nat.mul_le_mul_right k h'
  rw [List.getElem?_append_right (by omega), l1, idx_part i L.length k j h']
  exact q2 j hj
theorem Chunks.one (hR : Firm R k) {A : Where} {u : World} {xs : List Value} {L : List α} (h : Chunks R k A u xs L) : ∀ y ∈ xs, y.oneCell' = true := by
 intro y hy
 obtain ⟨j, hj, rfl⟩ := List.mem_iff_getElem.1 hy
 rcases Nat.eq_zero_or_pos k with h0 | h0
 ·
  subst h0; have := h.1; rw [Nat.mul_zero] at this; omega
 ·
  have hi : j / k < L.length := by rw [Nat.div_lt_iff_lt_mul h0, ← h.1]; exact hj
  have hm : j % k < k := Nat.mod_lt _ h0
  have ej : j / k * k + j % k = j := by rw [Nat.mul_comm]; exact Nat.div_add_mod j k
  obtain ⟨cs, h1, h2⟩ := h.2 _ hi
  have := h2 _ hm
  rw [ej, List.getElem?_eq_getElem hj] at this
  exact hR.one h1 _ (List.mem_of_getElem? this.symm)
theorem Chunks.cells {A : Where} {u : World} {xs : List Value} {L : List α} (h : Chunks R k A u xs L) {i : Nat} (hi : i < L.length) : ∃ cs, R A u cs (L.getD i default) ∧ ∀ j, j < k → xs[i * k + j]? = cs[j]? := h.2 i hi
theorem own_kept {w0 u u' : World} {e : TypeId} {v : Value} {n : Nat} {xs : List Value} (h : Own w0 u e k v n xs) (hb : Below w0.heap.size w0 u') (hk : Kept (fun b => v.ownBlock = some b) u u') : Own w0 u' e k v n xs := by
 obtain ⟨_, hl, h0 | ⟨g, cap, cur, rfl, h1, h2, h3⟩⟩ := h
 ·
  exact ⟨hb, hl, .inl h0⟩
 ·
  exact ⟨hb, hl, .inr ⟨g, cap, cur, rfl, h1, by rw [hk.2 g rfl (lt_of_heap h2)]; exact h2, h3⟩⟩
theorem Row.kept (hR : Firm R k) {A : Where} {w0 u u' : World} {e : TypeId} {v : Value} {L : List α} (h : Row R k A w0 u e v L) (hb : Below w0.heap.size w0 u') (hk : Kept (fun b => A b ∨ v.ownBlock = some b) u u') : Row R k A w0 u' e v L := by
 obtain ⟨xs, h1, h2⟩ := h
 exact ⟨xs, own_kept h1 hb (hk.weak (fun b hb => .inr hb)), h2.kept hR (hk.weak (fun b hb => .inl hb.1))⟩
theorem Row.lt {A : Where} {w0 u : World} {e : TypeId} {v : Value} {L : List α} (h : Row R k A w0 u e v L) {b : Nat} (hb : v.ownBlock = some b) : w0.heap.size ≤ b ∧ b < u.heap.size := by
 obtain ⟨xs, ⟨_, _, ⟨rfl, _⟩ | ⟨g, cap, cur, rfl, h1, h2, _⟩⟩, _⟩ := h
 ·
  cases hb
 ·
  have : g = b := by simpa [Value.ownBlock] using hb
  subst this
  exact ⟨h1, lt_of_heap h2⟩
theorem Row.hd {A : Where} {w0 u : World} {e : TypeId} {v : Value} {L : List α} (h : Row R k A w0 u e v L) : ∃ h : Hd, v = J h ∧ h.2.1 = L.length := by
 obtain ⟨xs, ⟨_, _, ⟨rfl, h0⟩ | ⟨g, cap, cur, rfl, _⟩⟩, _⟩ := h
 ·
  exact ⟨(none, 0, 0), rfl, h0.symm⟩
 ·
  exact ⟨(some ⟨g, 0, none⟩, L.length, cap), rfl, rfl⟩
theorem Row.one {A : Where} {w0 u : World} {e : TypeId} {v : Value} {L : List α} (h : Row R k A w0 u e v L) : v.oneCell' = true := by
 obtain ⟨h, rfl, _⟩ := h.hd; rfl
theorem Row.grew (hR : Firm R k) {A : Where} {w0 u u' : World} {e : TypeId} {v v' : Value} {L M : List α} {xs ys : List Value} (hown : Own w0 u e k v L.length xs) (hch : Chunks R k (fun b => A b ∧ v.ownBlock ≠ some b) u ys M) (ho : u'.ownsRow w0.heap.size e k v' M.length ys) (hg : u.grownBy u' v.ownBlock) (h5 : v'.ownBlock = v.ownBlock ∨ v'.ownBlock = some u.heap.size) : Row R k A w0 u' e v' M := by
 refine ⟨ys, ⟨hown.row hg, ho⟩, ?_⟩
 have c1 := hch.weak hR (A' := fun b => (A b ∧ v.ownBlock ≠ some b) ∧ b < u.heap.size) (fun b hb h => ⟨h, hb⟩)
 have c2 := c1.kept hR (Kept.grown hg (fun b e => fun h => h.1.2 e))
 refine c2.weak hR (fun b _ h => ⟨h.1.1, fun e => ?_⟩)
 rcases h5 with h5 | h5
 ·
  rw [h5] at e; exact h.1.2 e
 ·
  rw [h5] at e
  have : u.heap.size = b := by simpa using e
  exact absurd h.2 (by omega)
end
theorem infcPod : (prog.info? 33).map (fun i => (i.zero, i.size, i.bytes)) = some (some (.agg #[.string ⟨#[]⟩, .int .i64 0, Z, .int .i64 0, .int .i64 0, .int .i64 0, Z, Z, Z, Z, Z, Z, Z, Z, .string ⟨#[]⟩, .string ⟨#[]⟩]), 16, 296) := by kernel_rfl
theorem ClonePod (a : Option Addr) (n cap : Nat) (A : Where) (L : List PodD) (w : World) (hL : SlAt RPod 16 296 A w a n cap L) : Calls prog 68 #[.slice a n cap] w fun e w' => ∃ v, e = .returned v ∧ Row RPod 16 (Lo A w) w w' 33 v L := by
 have hb0 : Below w.heap.size w (w.alloc (.cells #[] 33)) := by go_grown
 rcases a with _ | ad
 ·
  have hE := fun w => Lib.run_eql_slice_nil (P := prog) w 54 33 none 0 0 0 0 underlying54
  obtain ⟨rfl, rfl, rfl⟩ := sl_none hL
  have HP : Hid (Row RPod 16 (Lo A w) w w 33 (Z) ([] : List PodD)) := Row.nil _ _ _
  clear hL
  go_enter func68, ntmps68
  go_wp2_with fail
  go_ret
  exact ⟨_, rfl, HP.out⟩
 ·
  have hE := fun w => Lib.run_eql_slice_nil (P := prog) w 54 33 (some ad) n cap 0 0 underlying54
  have hL' : SlAt RPod 16 296 (Lo A w) w (some ad) n cap L := hL.weak RPod.firm (fun b hb h => ⟨h, hb⟩)
  obtain ⟨xs, hc, hcell, hone⟩ := (hL'.on RPod.firm hb0).chunks RPod.firm
  have hn := hL.1
  have hbb := hL.2.2.2.1
  subst hn
  have HR : Hid (Row RPod 16 (Lo A w) w (w.alloc (.cells #[] 33)) 33 (.slice (some ⟨w.heap.size, 0, none⟩) 0 0) ([] : List PodD)) := Row.start _ w w _ (Below.refl _ _)
  have HC : Hid (Chunks RPod 16 (fun b => Lo A w b ∧ Value.ownBlock (.slice (some ⟨w.heap.size, 0, none⟩) 0 0) ≠ some b) (w.alloc (.cells #[] 33)) xs L) := hc.weak RPod.firm (fun b _ h => ⟨h, by simp only [Value.ownBlock, ne_eq, Option.some.injEq]; have := h.2; omega⟩)
  have HX : Hid (∀ j y, xs[j]? = some y → (w.alloc (.cells #[] 33)).cell? (ad.add j) = some y) := hcell
  have HO : Hid (∀ y ∈ xs, y.oneCell' = true) := hone
  clear hc hcell hone hL hL'
  go_enter func68, ntmps68
  go_wp2_with (at_builtin; go_must (refine row_append RPod.firm (A := Lo A w) (w0 := w) rfl _ _ 54 33 rfl _ 296 infcPod underlying54 rfl (by decide) (by decide) _ [] rfl HR.out ad L.length cap xs L rfl rfl HC.out HX.out HO.out (by simp; omega) ?_); intro v1 w1 hrow1 hg1)
  go_ret
  exact ⟨_, rfl, by simpa using hrow1⟩
theorem infcNode : (prog.info? 36).map (fun i => (i.zero, i.size, i.bytes)) = some (some (.agg #[.string ⟨#[]⟩, Z, Z, .bool false, .int .i64 0, .int .i64 0, .int .i64 0, .int .i64 0, .int .i64 0]), 9, 112) := by kernel_rfl
theorem CloneNode (a : Option Addr) (n cap : Nat) (A : Where) (L : List NodeD) (w : World) (hL : SlAt RNode 9 112 A w a n cap L) : Calls prog 69 #[.slice a n cap] w fun e w' => ∃ v, e = .returned v ∧ Row RNode 9 (Lo A w) w w' 36 v L := by
 have hb0 : Below w.heap.size w (w.alloc (.cells #[] 36)) := by go_grown
 rcases a with _ | ad
 ·
  have hE := fun w => Lib.run_eql_slice_nil (P := prog) w 55 36 none 0 0 0 0 underlying55
  obtain ⟨rfl, rfl, rfl⟩ := sl_none hL
  have HP : Hid (Row RNode 9 (Lo A w) w w 36 (Z) ([] : List NodeD)) := Row.nil _ _ _
  clear hL
  go_enter func69, ntmps69
  go_wp2_with fail
  go_ret
  exact ⟨_, rfl, HP.out⟩
 ·
  have hE := fun w => Lib.run_eql_slice_nil (P := prog) w 55 36 (some ad) n cap 0 0 underlying55
  have hL' : SlAt RNode 9 112 (Lo A w) w (some ad) n cap L := hL.weak RNode.firm (fun b hb h => ⟨h, hb⟩)
  obtain ⟨xs, hc, hcell, hone⟩ := (hL'.on RNode.firm hb0).chunks RNode.firm
  have hn := hL.1
  have hbb := hL.2.2.2.1
  subst hn
  have HR : Hid (Row RNode 9 (Lo A w) w (w.alloc (.cells #[] 36)) 36 (.slice (some ⟨w.heap.size, 0, none⟩) 0 0) ([] : List NodeD)) := Row.start _ w w _ (Below.refl _ _)
  have HC : Hid (Chunks RNode 9 (fun b => Lo A w b ∧ Value.ownBlock (.slice (some ⟨w.heap.size, 0, none⟩) 0 0) ≠ some b) (w.alloc (.cells #[] 36)) xs L) := hc.weak RNode.firm (fun b _ h => ⟨h, by simp only [Value.ownBlock, ne_eq, Option.some.injEq]; have := h.2; omega⟩)
  have HX : Hid (∀ j y, xs[j]? = some y → (w.alloc (.cells #[] 36)).cell? (ad.add j) = some y) := hcell
  have HO : Hid (∀ y ∈ xs, y.oneCell' = true) := hone
  clear hc hcell hone hL hL'
  go_enter func69, ntmps69
  go_wp2_with (at_builtin; go_must (refine row_append RNode.firm (A := Lo A w) (w0 := w) rfl _ _ 55 36 rfl _ 112 infcNode underlying55 rfl (by decide) (by decide) _ [] rfl HR.out ad L.length cap xs L rfl rfl HC.out HX.out HO.out (by simp; omega) ?_); intro v1 w1 hrow1 hg1)
  go_ret
  exact ⟨_, rfl, by simpa using hrow1⟩
theorem infcVolume : (prog.info? 38).map (fun i => (i.zero, i.size, i.bytes)) = some (some (.agg #[.string ⟨#[]⟩, .int .i64 0, .string ⟨#[]⟩, Z, .string ⟨#[]⟩]), 5, 80) := by kernel_rfl
theorem CloneVolume (a : Option Addr) (n cap : Nat) (A : Where) (L : List VolumeD) (w : World) (hL : SlAt RVolume 5 80 A w a n cap L) : Calls prog 70 #[.slice a n cap] w fun e w' => ∃ v, e = .returned v ∧ Row RVolume 5 (Lo A w) w w' 38 v L := by
 have hb0 : Below w.heap.size w (w.alloc (.cells #[] 38)) := by go_grown
 rcases a with _ | ad
 ·
  have hE := fun w => Lib.run_eql_slice_nil (P := prog) w 56 38 none 0 0 0 0 underlying56
  obtain ⟨rfl, rfl, rfl⟩ := sl_none hL
  have HP : Hid (Row RVolume 5 (Lo A w) w w 38 (Z) ([] : List VolumeD)) := Row.nil _ _ _
  clear hL
  go_enter func70, ntmps70
  go_wp2_with fail
  go_ret
  exact ⟨_, rfl, HP.out⟩
 ·
  have hE := fun w => Lib.run_eql_slice_nil (P := prog) w 56 38 (some ad) n cap 0 0 underlying56
  have hL' : SlAt RVolume 5 80 (Lo A w) w (some ad) n cap L := hL.weak RVolume.firm (fun b hb h => ⟨h, hb⟩)
  obtain ⟨xs, hc, hcell, hone⟩ := (hL'.on RVolume.firm hb0).chunks RVolume.firm
  have hn := hL.1
  have hbb := hL.2.2.2.1
  subst hn
  have HR : Hid (Row RVolume 5 (Lo A w) w (w.alloc (.cells #[] 38)) 38 (.slice (some ⟨w.heap.size, 0, none⟩) 0 0) ([] : List VolumeD)) := Row.start _ w w _ (Below.refl _ _)
  have HC : Hid (Chunks RVolume 5 (fun b => Lo A w b ∧ Value.ownBlock (.slice (some ⟨w.heap.size, 0, none⟩) 0 0) ≠ some b) (w.alloc (.cells #[] 38)) xs L) := hc.weak RVolume.firm (fun b _ h => ⟨h, by simp only [Value.ownBlock, ne_eq, Option.some.injEq]; have := h.2; omega⟩)
  have HX : Hid (∀ j y, xs[j]? = some y → (w.alloc (.cells #[] 38)).cell? (ad.add j) = some y) := hcell
  have HO : Hid (∀ y ∈ xs, y.oneCell' = true) := hone
  clear hc hcell hone hL hL'
  go_enter func70, ntmps70
  go_wp2_with (at_builtin; go_must (refine row_append RVolume.firm (A := Lo A w) (w0 := w) rfl _ _ 56 38 rfl _ 80 infcVolume underlying56 rfl (by decide) (by decide) _ [] rfl HR.out ad L.length cap xs L rfl rfl HC.out HX.out HO.out (by simp; omega) ?_); intro v1 w1 hrow1 hg1)
  go_ret
  exact ⟨_, rfl, by simpa using hrow1⟩
theorem infcClaim : (prog.info? 40).map (fun i => (i.zero, i.size, i.bytes)) = some (some (.agg #[.string ⟨#[]⟩, .int .i64 0, .string ⟨#[]⟩, .string ⟨#[]⟩]), 4, 56) := by kernel_rfl
theorem CloneClaim (a : Option Addr) (n cap : Nat) (A : Where) (L : List ClaimD) (w : World) (hL : SlAt RClaim 4 56 A w a n cap L) : Calls prog 71 #[.slice a n cap] w fun e w' => ∃ v, e = .returned v ∧ Row RClaim 4 (Lo A w) w w' 40 v L := by
 have hb0 : Below w.heap.size w (w.alloc (.cells #[] 40)) := by go_grown
 rcases a with _ | ad
 ·
  have hE := fun w => Lib.run_eql_slice_nil (P := prog) w 57 40 none 0 0 0 0 underlying57
  obtain ⟨rfl, rfl, rfl⟩ := sl_none hL
  have HP : Hid (Row RClaim 4 (Lo A w) w w 40 (Z) ([] : List ClaimD)) := Row.nil _ _ _
  clear hL
  go_enter func71, ntmps71
  go_wp2_with fail
  go_ret
  exact ⟨_, rfl, HP.out⟩
 ·
  have hE := fun w => Lib.run_eql_slice_nil (P := prog) w 57 40 (some ad) n cap 0 0 underlying57
  have hL' : SlAt RClaim 4 56 (Lo A w) w (some ad) n cap L := hL.weak RClaim.firm (fun b hb h => ⟨h, hb⟩)
  obtain ⟨xs, hc, hcell, hone⟩ := (hL'.on RClaim.firm hb0).chunks RClaim.firm
  have hn := hL.1
  have hbb := hL.2.2.2.1
  subst hn
  have HR : Hid (Row RClaim 4 (Lo A w) w (w.alloc (.cells #[] 40)) 40 (.slice (some ⟨w.heap.size, 0, none⟩) 0 0) ([] : List ClaimD)) := Row.start _ w w _ (Below.refl _ _)
  have HC : Hid (Chunks RClaim 4 (fun b => Lo A w b ∧ Value.ownBlock (.slice (some ⟨w.heap.size, 0, none⟩) 0 0) ≠ some b) (w.alloc (.cells #[] 40)) xs L) := hc.weak RClaim.firm (fun b _ h => ⟨h, by simp only [Value.ownBlock, ne_eq, Option.some.injEq]; have := h.2; omega⟩)
  have HX : Hid (∀ j y, xs[j]? = some y → (w.alloc (.cells #[] 40)).cell? (ad.add j) = some y) := hcell
  have HO : Hid (∀ y ∈ xs, y.oneCell' = true) := hone
  clear hc hcell hone hL hL'
  go_enter func71, ntmps71
  go_wp2_with (at_builtin; go_must (refine row_append RClaim.firm (A := Lo A w) (w0 := w) rfl _ _ 57 40 rfl _ 56 infcClaim underlying57 rfl (by decide) (by decide) _ [] rfl HR.out ad L.length cap xs L rfl rfl HC.out HX.out HO.out (by simp; omega) ?_); intro v1 w1 hrow1 hg1)
  go_ret
  exact ⟨_, rfl, by simpa using hrow1⟩
theorem infcClass : (prog.info? 42).map (fun i => (i.zero, i.size, i.bytes)) = some (some (.agg #[.string ⟨#[]⟩, .bool false]), 2, 24) := by kernel_rfl
theorem CloneClass (a : Option Addr) (n cap : Nat) (A : Where) (L : List ClassD) (w : World) (hL : SlAt RClass 2 24 A w a n cap L) : Calls prog 72 #[.slice a n cap] w fun e w' => ∃ v, e = .returned v ∧ Row RClass 2 (Lo A w) w w' 42 v L := by
 have hb0 : Below w.heap.size w (w.alloc (.cells #[] 42)) := by go_grown
 rcases a with _ | ad
 ·
  have hE := fun w => Lib.run_eql_slice_nil (P := prog) w 58 42 none 0 0 0 0 underlying58
  obtain ⟨rfl, rfl, rfl⟩ := sl_none hL
  have HP : Hid (Row RClass 2 (Lo A w) w w 42 (Z) ([] : List ClassD)) := Row.nil _ _ _
  clear hL
  go_enter func72, ntmps72
  go_wp2_with fail
  go_ret
  exact ⟨_, rfl, HP.out⟩
 ·
  have hE := fun w => Lib.run_eql_slice_nil (P := prog) w 58 42 (some ad) n cap 0 0 underlying58
  have hL' : SlAt RClass 2 24 (Lo A w) w (some ad) n cap L := hL.weak RClass.firm (fun b hb h => ⟨h, hb⟩)
  obtain ⟨xs, hc, hcell, hone⟩ := (hL'.on RClass.firm hb0).chunks RClass.firm
  have hn := hL.1
  have hbb := hL.2.2.2.1
  subst hn
  have HR : Hid (Row RClass 2 (Lo A w) w (w.alloc (.cells #[] 42)) 42 (.slice (some ⟨w.heap.size, 0, none⟩) 0 0) ([] : List ClassD)) := Row.start _ w w _ (Below.refl _ _)
  have HC : Hid (Chunks RClass 2 (fun b => Lo A w b ∧ Value.ownBlock (.slice (some ⟨w.heap.size, 0, none⟩) 0 0) ≠ some b) (w.alloc (.cells #[] 42)) xs L) := hc.weak RClass.firm (fun b _ h => ⟨h, by simp only [Value.ownBlock, ne_eq, Option.some.injEq]; have := h.2; omega⟩)
  have HX : Hid (∀ j y, xs[j]? = some y → (w.alloc (.cells #[] 42)).cell? (ad.add j) = some y) := hcell
  have HO : Hid (∀ y ∈ xs, y.oneCell' = true) := hone
  clear hc hcell hone hL hL'
  go_enter func72, ntmps72
  go_wp2_with (at_builtin; go_must (refine row_append RClass.firm (A := Lo A w) (w0 := w) rfl _ _ 58 42 rfl _ 24 infcClass underlying58 rfl (by decide) (by decide) _ [] rfl HR.out ad L.length cap xs L rfl rfl HC.out HX.out HO.out (by simp; omega) ?_); intro v1 w1 hrow1 hg1)
  go_ret
  exact ⟨_, rfl, by simpa using hrow1⟩
theorem infcBudget : (prog.info? 44).map (fun i => (i.zero, i.size, i.bytes)) = some (some (.agg #[.string ⟨#[]⟩, Z, .int .i64 0]), 3, 48) := by kernel_rfl
theorem CloneBudget (a : Option Addr) (n cap : Nat) (A : Where) (L : List BudgetD) (w : World) (hL : SlAt RBudget 3 48 A w a n cap L) : Calls prog 73 #[.slice a n cap] w fun e w' => ∃ v, e = .returned v ∧ Row RBudget 3 (Lo A w) w w' 44 v L := by
 have hb0 : Below w.heap.size w (w.alloc (.cells #[] 44)) := by go_grown
 rcases a with _ | ad
 ·
  have hE := fun w => Lib.run_eql_slice_nil (P := prog) w 59 44 none 0 0 0 0 underlying59
  obtain ⟨rfl, rfl, rfl⟩ := sl_none hL
  have HP : Hid (Row RBudget 3 (Lo A w) w w 44 (Z) ([] : List BudgetD)) := Row.nil _ _ _
  clear hL
  go_enter func73, ntmps73
  go_wp2_with fail
  go_ret
  exact ⟨_, rfl, HP.out⟩
 ·
  have hE := fun w => Lib.run_eql_slice_nil (P := prog) w 59 44 (some ad) n cap 0 0 underlying59
  have hL' : SlAt RBudget 3 48 (Lo A w) w (some ad) n cap L := hL.weak RBudget.firm (fun b hb h => ⟨h, hb⟩)
  obtain ⟨xs, hc, hcell, hone⟩ := (hL'.on RBudget.firm hb0).chunks RBudget.firm
  have hn := hL.1
  have hbb := hL.2.2.2.1
  subst hn
  have HR : Hid (Row RBudget 3 (Lo A w) w (w.alloc (.cells #[] 44)) 44 (.slice (some ⟨w.heap.size, 0, none⟩) 0 0) ([] : List BudgetD)) := Row.start _ w w _ (Below.refl _ _)
  have HC : Hid (Chunks RBudget 3 (fun b => Lo A w b ∧ Value.ownBlock (.slice (some ⟨w.heap.size, 0, none⟩) 0 0) ≠ some b) (w.alloc (.cells #[] 44)) xs L) := hc.weak RBudget.firm (fun b _ h => ⟨h, by simp only [Value.ownBlock, ne_eq, Option.some.injEq]; have := h.2; omega⟩)
  have HX : Hid (∀ j y, xs[j]? = some y → (w.alloc (.cells #[] 44)).cell? (ad.add j) = some y) := hcell
  have HO : Hid (∀ y ∈ xs, y.oneCell' = true) := hone
  clear hc hcell hone hL hL'
  go_enter func73, ntmps73
  go_wp2_with (at_builtin; go_must (refine row_append RBudget.firm (A := Lo A w) (w0 := w) rfl _ _ 59 44 rfl _ 48 infcBudget underlying59 rfl (by decide) (by decide) _ [] rfl HR.out ad L.length cap xs L rfl rfl HC.out HX.out HO.out (by simp; omega) ?_); intro v1 w1 hrow1 hg1)
  go_ret
  exact ⟨_, rfl, by simpa using hrow1⟩
end Go.Proofs.YtfbnnfpnjjjfcaaGreat

