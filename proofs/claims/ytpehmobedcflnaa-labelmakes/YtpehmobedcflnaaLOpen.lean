/- Arguments as they come in: texts, labels and what is asked, read off memory. No condition beyond the row's own reach. -/
import Derived.Test.YtpehmobedcflnaaLCopy
import Derived.Deep.Slices
import Derived.Deep.SlicePairs
import Derived.Deep.Strs
import Derived.SizedLaws
namespace Go.Proofs.Ytpehmobedcflnaa
open Go.ChangeShapes Go.WideShapes Go.ChangeAt Go.RowKit

/-- What a datum weighs is within reach. -/
def Light {H : Type} (d : DataW H) (t : TypeId) : Prop := ∀ n ∈ d.weights Try.prog t, n ≤ 140737488351232
theorem light_all {H : Type} {e : TypeId} : ∀ {ds : List (DataW H)} {d : DataW H}, d ∈ ds → (∀ n ∈ DataW.weightsAll Try.prog e ds, n ≤ 140737488351232) → Light d e
  | [], _, h, _ => by simp at h
  | x :: ds, d, h, hw => by
    rcases List.mem_cons.1 h with rfl | h
    · intro n hn; exact hw n (by simp [DataW.weightsAll, hn])
    · exact light_all h (fun n hn => hw n (by simp [DataW.weightsAll, hn]))
theorem light_slice {H : Type} {t e : TypeId} {elems spare : List (DataW H)} (hu : Try.prog.underlying t = some (.slice e)) (h : Light (.slice elems spare) t) : elems.length * Try.prog.bytesOf e ≤ 140737488351232 ∧ ∀ d ∈ elems, Light d e := by
  unfold Light at h
  simp only [DataW.weights, hu, List.mem_cons, List.mem_append] at h
  refine ⟨?_, fun d hd => light_all hd (fun n hn => h n (.inr (.inl hn)))⟩
  have := h _ (.inl rfl)
  rw [Nat.add_mul] at this
  omega
theorem light_struct {H : Type} {t : TypeId} {fs : Array Field} {parts : List (DataW H)} (hu : Try.prog.underlying t = some (.struct fs)) (h : Light (.agg parts) t) {j : Nat} {tj : TypeId} {d : DataW H} (ht : (fs.toList.map (·.type))[j]? = some tj) (hd : parts[j]? = some d) : Light d tj := by
  intro n hn
  refine h n ?_
  simp only [DataW.weights, hu]
  exact DataW.weights_mem_each ht hd n hn
theorem light_arg {H : Type} {ts : List TypeId} {ds : List (DataW H)} (h : (DataW.weightsEach Try.prog ts ds).all (· ≤ reachBytes) = true) {j : Nat} {t : TypeId} {d : DataW H} (ht : ts[j]? = some t) (hd : ds[j]? = some d) : Light d t := by
  intro n hn
  have := List.all_eq_true.1 h _ (DataW.weights_mem_each ht hd n hn)
  have hre : reachBytes = 140737488351232 := by decide
  rw [hre] at this
  simpa using this

section
variable {H : Type} {enc : TypeId × Value → H} {W : World} {base n : Nat} {sp : Nat → Bool} {held : Bool}

theorem open_str {v : Value} {x : DataW H × List MemPlace} (h : DataW.trod enc Try.prog W base sp held n 9 [v] = some x) (hl : Light x.1 9) : ∃ s : ByteArray, v = .string s ∧ s.size ≤ 140737488355328 := by
  obtain ⟨s, hs, rfl, _⟩ := DataW.trod_string Try.underlying9 h
  refine ⟨s, by simpa using hs, ?_⟩
  have := hl s.data.toList.length (by simp [DataW.weights])
  simp at this
  omega

theorem addr_lt {B off : Nat} {spot : Option _} {v : Value} (h : W.cell? ⟨B, off, spot⟩ = some v) : B < W.heap.size := by
  rcases Nat.lt_or_ge B W.heap.size with h2 | h2
  · exact h2
  · simp [World.cell?, Array.getElem?_eq_none h2] at h

theorem getD_range {α : Type} [Inhabited α] (f : Nat → α) (len i : Nat) (h : i < len) : ((List.range len).map f).getD i default = f i := by
  rw [getD_get _ _ (by simpa using h)]; simp

theorem open_strs {v : Value} {x : DataW H × List MemPlace} (h : DataW.trod enc Try.prog W base sp held n 39 [v] = some x) (hl : Light x.1 39) :
    ∃ (a : Option Addr) (V : List ByteArray) (cap : Nat), v = .slice a V.length cap ∧ StrsAt W a V ∧ V.length * 16 ≤ 140737488351232 := by
  have c1 : Try.prog.cellsOf 9 = 1 := by kernel_rfl
  have b1 : Try.prog.bytesOf 9 = 16 := by kernel_rfl
  rcases Go.Deep.open_slice1 Try.underlying39 c1 h with ⟨hv, _⟩ | ⟨a, len, cap, m, k, Vf, D, Pl, hv, _, hlc, _, hm, rfl, hel⟩
  · exact ⟨none, [], 0, by simpa using hv, StrsAt.nil _ _, by simp⟩
  · obtain rfl : v = .slice (some a) len cap := by simpa using hv
    obtain ⟨w1, w2⟩ := light_slice Try.underlying39 hl
    simp only [List.length_map, List.length_range, b1] at w1
    have hml : len ≤ m := by rw [hm]; split <;> omega
    have each : ∀ i, i < len → ∃ s : ByteArray, W.cell? (a.add i) = some (.string s) ∧ s.size ≤ 140737488355328 := fun i hi => by
      obtain ⟨h1, h2⟩ := hel i (by omega)
      obtain ⟨s, hs, hz⟩ := open_str h2 (w2 _ (List.mem_map.2 ⟨i, List.mem_range.2 hi, rfl⟩))
      exact ⟨s, by rw [h1, hs], hz⟩
    obtain ⟨f, hf⟩ := Go.Deep.choose_lt each
    refine ⟨some a, (List.range len).map f, cap, by simp, ⟨by simp; omega, ?_, fun hn => ?_⟩, by simpa using w1⟩
    · intro s hs
      obtain ⟨i, hi, rfl⟩ := List.mem_map.1 hs
      exact (hf i (List.mem_range.1 hi)).2
    · have hpos : 0 < len := by
        rcases Nat.eq_zero_or_pos len with h0 | h0
        · subst h0; exact absurd rfl hn
        · exact h0
      obtain ⟨B, off, spot⟩ := a
      have hsp : spot = none := by
        have := World.cell?_spot (hf 0 hpos).1
        simpa [Addr.add] using this
      subst hsp
      simp only [add_plain] at hf
      refine ⟨B, off, rfl, addr_lt (hf 0 hpos).1, fun i hi => ?_⟩
      have hi' : i < len := by simpa using hi
      rw [getD_range f len i hi']
      exact (hf i hi').1

theorem open_labs {v : Value} {x : DataW H × List MemPlace} (h : DataW.trod enc Try.prog W base sp held n 22 [v] = some x) (hl : Light x.1 22) :
    ∃ (a : Option Addr) (L : List Lab) (cap : Nat), v = .slice a L.length cap ∧ LabsAt W a L ∧ L.length * 32 ≤ 140737488351232 := by
  have c1 : Try.prog.cellsOf 9 = 1 := by kernel_rfl
  have c2 : Try.prog.cellsOf 52 = 2 := by kernel_rfl
  have b1 : Try.prog.bytesOf 52 = 32 := by kernel_rfl
  rcases Go.Deep.open_slice_pairs Try.underlying22 Try.underlying52 c2 rfl rfl c1 c1 h with ⟨hv, _⟩ | ⟨a, len, cap, m, k, V0, V1, D0, D1, P0, P1, hv, _, hlc, _, hm, rfl, hel⟩
  · exact ⟨none, [], 0, by simpa using hv, LabsAt.nil _ _, by simp⟩
  · obtain rfl : v = .slice (some a) len cap := by simpa using hv
    obtain ⟨w1, w2⟩ := light_slice Try.underlying22 hl
    simp only [List.length_map, List.length_range, b1] at w1
    have hml : len ≤ m := by rw [hm]; split <;> omega
    have each : ∀ i, i < len → ∃ s : Lab, W.cell? (a.add (i * 2)) = some (.string s.1) ∧ W.cell? (a.add (i * 2 + 1)) = some (.string s.2) ∧ s.1.size ≤ 140737488355328 ∧ s.2.size ≤ 140737488355328 := fun i hi => by
      obtain ⟨h1, h2, h3, h4⟩ := hel i (by omega)
      have wl := w2 _ (List.mem_map.2 ⟨i, List.mem_range.2 hi, rfl⟩)
      obtain ⟨s, hs, hz⟩ := open_str h3 (light_struct Try.underlying52 wl (j := 0) rfl rfl)
      obtain ⟨t, ht, hzt⟩ := open_str h4 (light_struct Try.underlying52 wl (j := 1) rfl rfl)
      exact ⟨(s, t), by rw [h1, hs], by rw [h2, ht], hz, hzt⟩
    obtain ⟨f, hf⟩ := Go.Deep.choose_lt each
    refine ⟨some a, (List.range len).map f, cap, by simp, ⟨by simp; omega, ?_, fun hn => ?_⟩, by simpa using w1⟩
    · intro s hs
      obtain ⟨i, hi, rfl⟩ := List.mem_map.1 hs
      exact (hf i (List.mem_range.1 hi)).2.2
    · have hpos : 0 < len := by
        rcases Nat.eq_zero_or_pos len with h0 | h0
        · subst h0; exact absurd rfl hn
        · exact h0
      obtain ⟨B, off, spot⟩ := a
      have hsp : spot = none := by
        have := World.cell?_spot (hf 0 hpos).1
        simpa [Addr.add] using this
      subst hsp
      simp only [add_plain] at hf
      refine ⟨B, off, rfl, addr_lt (hf 0 hpos).1, fun i hi => ?_⟩
      have hi' : i < len := by simpa using hi
      rw [getD_range f len i hi']
      exact ⟨(hf i hi').1, by rw [Nat.add_assoc]; exact (hf i hi').2.1⟩

theorem trod_ask {cs : List Value} {x : DataW H × List MemPlace} (h : DataW.trod enc Try.prog W base sp held n 41 cs = some x) (hl : Light x.1 41) :
    ∃ (r : Ask) (a : Option Addr) (cap : Nat), cs = [.string r.key, .int .i64 r.op, .slice a r.vals.length cap] ∧ r.key.size ≤ 140737488355328 ∧ StrsAt W a r.vals ∧ r.vals.length * 16 ≤ 140737488351232 := by
  obtain ⟨y0, y1, y2, m, rfl, hlen, h0, h1, h2⟩ := Go.Deep.trod_struct3 Try.underlying41 h
  have c3 : Try.prog.cellsOf 41 = 3 := by kernel_rfl
  have cs1 : Try.prog.cellsOf 9 = 1 := by kernel_rfl
  have ci1 : Try.prog.cellsOf 3 = 1 := by kernel_rfl
  have cl1 : Try.prog.cellsOf 39 = 1 := by kernel_rfl
  rw [c3] at hlen
  match cs, hlen with
  | [v0, v1, v2], _ =>
    simp only [cs1, ci1, cl1, List.drop_zero, List.drop_succ_cons, List.take_succ_cons, List.take_zero] at h0 h1 h2
    obtain ⟨key, rfl, hk⟩ := open_str h0 (light_struct Try.underlying41 hl (j := 0) rfl rfl)
    obtain ⟨op, e1, _, _⟩ := DataW.trod_int Try.underlying3 h1
    obtain ⟨a, V, cap, rfl, hV, hb⟩ := open_strs h2 (light_struct Try.underlying41 hl (j := 2) rfl rfl)
    obtain rfl : v1 = .int .i64 op := by simpa using e1
    exact ⟨⟨key, op, V⟩, a, cap, rfl, hk, hV, hb⟩

theorem open_asks {v : Value} {x : DataW H × List MemPlace} (h : DataW.trod enc Try.prog W base sp held n 23 [v] = some x) (hl : Light x.1 23) :
    ∃ (a : Option Addr) (R : List Ask) (cap : Nat), v = .slice a R.length cap ∧ AsksAt W a R ∧ R.length * 48 ≤ 140737488351232 ∧ ∀ r ∈ R, r.vals.length * 16 ≤ 140737488351232 := by
  have c3 : Try.prog.cellsOf 41 = 3 := by kernel_rfl
  have b1 : Try.prog.bytesOf 41 = 48 := by kernel_rfl
  rcases Go.Deep.open_slice Try.underlying23 h with ⟨hv, _⟩ | ⟨a, len, cap, m, k, D, Pl, hv, _, hlc, _, hm, rfl, hel⟩
  · exact ⟨none, [], 0, by simpa using hv, AsksAt.nil _ _, by simp, by simp⟩
  · obtain rfl : v = .slice (some a) len cap := by simpa using hv
    obtain ⟨w1, w2⟩ := light_slice Try.underlying23 hl
    simp only [List.length_map, List.length_range, b1] at w1
    have hml : len ≤ m := by rw [hm]; split <;> omega
    rw [c3] at hel
    have each : ∀ i, i < len → ∃ r : Ask, W.cell? (a.add (i * 3)) = some (.string r.key) ∧ W.cell? ((a.add (i * 3)).add 1) = some (.int .i64 r.op) ∧ (∃ a' cap', W.cell? ((a.add (i * 3)).add 2) = some (.slice a' r.vals.length cap') ∧ StrsAt W a' r.vals) ∧ r.key.size ≤ 140737488355328 ∧ r.vals.length * 16 ≤ 140737488351232 := fun i hi => by
      obtain ⟨cs', h1, h2⟩ := hel i (by omega)
      obtain ⟨r, a', cap', rfl, hk, hV, hb⟩ := trod_ask h2 (w2 _ (List.mem_map.2 ⟨i, List.mem_range.2 hi, rfl⟩))
      obtain ⟨_, _, hcell⟩ := World.cells?_some h1
      exact ⟨r, by simpa [Addr.add] using hcell 0 (by omega), by simpa using hcell 1 (by omega), ⟨a', cap', by simpa using hcell 2 (by omega), hV⟩, hk, hb⟩
    obtain ⟨f, hf⟩ := Go.Deep.choose_lt each
    refine ⟨some a, (List.range len).map f, cap, by simp, ⟨by simp; omega, ?_, fun hn => ?_⟩, by simpa using w1, ?_⟩
    · intro s hs
      obtain ⟨i, hi, rfl⟩ := List.mem_map.1 hs
      exact (hf i (List.mem_range.1 hi)).2.2.2.1
    · have hpos : 0 < len := by
        rcases Nat.eq_zero_or_pos len with h0 | h0
        · subst h0; exact absurd rfl hn
        · exact h0
      obtain ⟨B, off, spot⟩ := a
      have hsp : spot = none := by
        have := World.cell?_spot (hf 0 hpos).1
        simpa [Addr.add] using this
      subst hsp
      simp only [add_plain] at hf
      refine ⟨B, off, rfl, addr_lt (hf 0 hpos).1, fun i hi => ?_⟩
      have hi' : i < len := by simpa using hi
      rw [getD_range f len i hi']
      exact ⟨(hf i hi').1, (hf i hi').2.1, (hf i hi').2.2.1⟩
    · intro s hs
      obtain ⟨i, hi, rfl⟩ := List.mem_map.1 hs
      exact (hf i (List.mem_range.1 hi)).2.2.2.2
end
end Go.Proofs.Ytpehmobedcflnaa
