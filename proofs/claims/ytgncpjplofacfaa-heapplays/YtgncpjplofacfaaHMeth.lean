/- How container/heap finds the methods of a keyed list behind the interface. No condition. -/
import Derived.Test.YtgncpjplofacfaaHPop
namespace Go.Proofs.Ytgncpjplofacfaa
open Go.RowKit Go.Maps
set_option linter.unusedSimpArgs false

theorem load_list {w : World} {kb : Nat} {v f : Value} (c0 : w.cell? ⟨kb, 0, none⟩ = some v) (c1 : w.cell? ⟨kb, 1, none⟩ = some f) : Sem.run Try.prog (loadVar 58 ⟨kb, 0, none⟩) w = .ok (.agg #[v, f]) w := by
  go_simp
theorem info_Len : (Try.prog.info? 50).map (fun i => i.methods.find? (·.name == "Len")) = some (some { name := "Len", sig := 42, path := #[{ struct := 61, index := 0, deref := true }], func := some (30, false) }) := by kernel_rfl
theorem meth_Len {w : World} {kb : Nat} {v f : Value} (c0 : w.cell? ⟨kb, 0, none⟩ = some v) (c1 : w.cell? ⟨kb, 1, none⟩ = some f) : Sem.run Try.prog (method 202 50 (.pointer (some ⟨kb, 0, none⟩)) "Len") w = .ok (30, .agg #[v, f]) w := by
  have ht := info_Len
  obtain ⟨n, hn⟩ : ∃ n, 202 = n + 1 := ⟨_, rfl⟩
  rw [hn, method]
  cases hi : Try.prog.info? 50 with
  | none => rw [hi] at ht; cases ht
  | some i =>
    rw [hi] at ht
    have h2 : i.methods.find? (·.name == "Len") = some { name := "Len", sig := 42, path := #[{ struct := 61, index := 0, deref := true }], func := some (30, false) } := by simpa using ht
    have h1 : Sem.run Try.prog (typeInfo 50) w = .ok i w := by
      simp [typeInfo, hi, go_sem]
    simp only [Sem.run_bind, h1, Result.andThen_ok, h2]
    simp [follow, receiverAt, Place.get, c0, c1, go_sem]
theorem info_Less : (Try.prog.info? 50).map (fun i => i.methods.find? (·.name == "Less")) = some (some { name := "Less", sig := 84, path := #[{ struct := 61, index := 0, deref := true }], func := some (66, false) }) := by kernel_rfl
theorem meth_Less {w : World} {kb : Nat} {v f : Value} (c0 : w.cell? ⟨kb, 0, none⟩ = some v) (c1 : w.cell? ⟨kb, 1, none⟩ = some f) : Sem.run Try.prog (method 202 50 (.pointer (some ⟨kb, 0, none⟩)) "Less") w = .ok (66, .agg #[v, f]) w := by
  have ht := info_Less
  obtain ⟨n, hn⟩ : ∃ n, 202 = n + 1 := ⟨_, rfl⟩
  rw [hn, method]
  cases hi : Try.prog.info? 50 with
  | none => rw [hi] at ht; cases ht
  | some i =>
    rw [hi] at ht
    have h2 : i.methods.find? (·.name == "Less") = some { name := "Less", sig := 84, path := #[{ struct := 61, index := 0, deref := true }], func := some (66, false) } := by simpa using ht
    have h1 : Sem.run Try.prog (typeInfo 50) w = .ok i w := by
      simp [typeInfo, hi, go_sem]
    simp only [Sem.run_bind, h1, Result.andThen_ok, h2]
    simp [follow, receiverAt, Place.get, c0, c1, go_sem]
/-- An entry by its place. -/
def at_ (L : List It) (i : Nat) : It := L.getD i default
theorem at_get {L : List It} {i : Nat} (h : i < L.length) : at_ L i = L[i] := getE L i h
def swapL (L : List It) (i j : Nat) : List It := (L.set i (at_ L j)).set j (at_ L i)
theorem swapL_length (L : List It) (i j : Nat) : (swapL L i j).length = L.length := by simp [swapL]
theorem kSwap' {F : Where} {w : World} {kb i j : Nat} {L : List It} (h : HK F w kb L) (hL : L.length < 1099511627776) (hi : i < L.length) (hj : j < L.length) (hij : ¬ i = j) :
    Calls Try.prog 69 #[.pointer (some ⟨kb, 0, none⟩), .int .i64 (i : Int), .int .i64 (j : Int)] w fun e w' => e = .returned (.tuple #[]) ∧ HK F w' kb (swapL L i j) ∧ Turns F w w' := by
  have := kSwap h hL hi hj hij
  unfold swapL
  rw [at_get hi, at_get hj]
  exact this
/-- Which of two entries comes ahead, by the interface: how it is found, and what it says. -/
theorem kLess {F : Where} {w : World} {kb : Nat} {L : List It} (h : HK F w kb L) : ∃ r, Sem.run Try.prog (method 202 50 (.pointer (some ⟨kb, 0, none⟩)) "Less") w = .ok (66, r) w ∧
    ∀ i j : Nat, i < L.length → j < L.length → Calls Try.prog 66 #[r, .int .i64 (i : Int), .int .i64 (j : Int)] w fun e w' => e = .returned (.bool (ahead (at_ L i) (at_ L j))) ∧ Below w.heap.size w w' := by
  obtain ⟨v, mb, D, h, t⟩ := h
  refine ⟨_, meth_Less h.c0 h.c1, fun i j hi hj => ?_⟩
  obtain ⟨g, cap, rfl, _, hg, _, _, _, hc⟩ := h.sl (by omega)
  have := Less_at g L.length cap i j L[i] L[j] w (by omega) (by omega) hg (hc i hi).1.1 (hc i hi).1.2.1 (hc i hi).1.2.2 (hc j hj).1.1 (hc j hj).1.2.1 (hc j hj).1.2.2
  rw [at_get hi, at_get hj]
  exact this
theorem kLen {F : Where} {w : World} {kb : Nat} {L : List It} (h : HK F w kb L) : ∃ r, Sem.run Try.prog (method 202 50 (.pointer (some ⟨kb, 0, none⟩)) "Len") w = .ok (30, r) w ∧
    Calls Try.prog 30 #[r] w fun e w' => e = .returned (.int .i64 (L.length : Int)) ∧ Below w.heap.size w w' := by
  obtain ⟨v, mb, D, h, t⟩ := h
  refine ⟨_, meth_Len h.c0 h.c1, ?_⟩
  obtain ⟨a, cap, rfl, _⟩ := h.len
  exact Len_calls a L.length cap _ w
end Go.Proofs.Ytgncpjplofacfaa
