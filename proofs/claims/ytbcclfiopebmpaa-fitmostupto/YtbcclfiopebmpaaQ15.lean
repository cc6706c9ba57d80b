/- What a pod may not it may not when it wants more, or more is used: plain. No condition. Arguments as they come in: texts and slices of structs, read off memory. No condition beyond the row's own reach. Arguments as they come in, whatever their type: read off memory, they lie as said. No condition beyond the row's own reach. Arguments of the program's struct types, as they come in. No condition beyond the row's own reach. An info that is handed in lies as is said. No condition. Arguments as they come in, with a bound on what they hold: no more than the reading's bulk. No condition beyond the row's own reach. Pods as they come in, with a bound on their ports and claims. No condition beyond the row's own reach. An info that is handed in, with how much it holds. No condition. -/
import Derived.Test.YtbcclfiopebmpaaQ12
import Derived.Test.YtbcclfiopebmpaaQ06
import Derived.Test.YtbcclfiopebmpaaQ01
import Derived.Deep.Slices
import Derived.Deep.Strs
import Derived.SizedLaws
import Derived.Test.YtbcclfiopebmpaaQ02
import Derived.Test.YtbcclfiopebmpaaRows
namespace Go.Proofs.Ytbcclfiopebmpaa
open Go.RowKit
set_option linter.unusedSimpArgs false

def reWant (y : PodD) (m : ResD) : PodD := (y.1, y.2.1, y.2.2.1, m, y.2.2.2.2)
def reUsed (x : InfoD) (m : ResD) : InfoD := (x.1, x.2.1, m, x.2.2.2.1, x.2.2.2.2)
theorem RPod.reWant {A : Where} {w : World} {ds : List Value} {y : PodD} (h : RPod A w ds y) (m : ResD) : RPod A w (((ds.set 3 (.int .i64 m.1)).set 4 (.int .i64 m.2.1)).set 5 (.int .i64 m.2.2)) (reWant y m) := by
  obtain ⟨h2, h6, h7, h8, h9, h10, h11, h12, h13, rfl, p0, p1, p2, p3, p4, p5, p6, p7, p8, p9, p10, p11⟩ := h.out
  exact RPod.mk (x := Go.Proofs.Ytbcclfiopebmpaa.reWant y m) (h2 := h2) (h6 := h6) (h7 := h7) (h8 := h8) (h9 := h9) (h10 := h10) (h11 := h11) (h12 := h12) (h13 := h13) p0 p1 p2 p3 p4 p5 p6 p7 p8 p9 p10 p11
theorem RInfo.reUsed {A : Where} {w : World} {cs : List Value} {x : InfoD} (h : RInfo A w cs x) (m : ResD) : RInfo A w (((cs.set 10 (.int .i64 m.1)).set 11 (.int .i64 m.2.1)).set 12 (.int .i64 m.2.2)) (reUsed x m) := by
  obtain ⟨h1, h2, h9, h13, h14, rfl, p0, p1, p2, p3, p4, p5⟩ := h.out
  exact RInfo.mk (x := Go.Proofs.Ytbcclfiopebmpaa.reUsed x m) (h1 := h1) (h2 := h2) (h9 := h9) (h13 := h13) (h14 := h14) p0 p1 p2 p3 p4 p5
theorem yes_mem {l : List (Int × Bool)} {n : Int} : n ∈ yes l ↔ (n, true) ∈ l := by
  simp [yes]
theorem addI_mono (a b : Int) : clampI a ≤ clampI (addI a b) := by
  have := clampI_ge b; have := clampI_le a
  rw [clampI_addI, addI_def]; split <;> omega
theorem subI_mono (g a b : Int) : subI g (addI a b) ≤ subI g a := by
  have h := addI_mono a b
  rw [subI_def, subI_def]
  split <;> split <;> omega
theorem has_mem {L : List Int} {n : Int} : hasB iEq L n = true ↔ n ∈ L := by
  simp [hasB, iEq]
theorem why_mono {y y' : PodD} {x x' : InfoD} (h1 : offB x = true → offB x' = true) (h2 : kepB y x = true → kepB y' x' = true) (h3 : askB y x = true → askB y' x' = true) (h4 : clashP x y = true → clashP x' y' = true) (h5 : cntB x = true → cntB x' = true) (h6 : cpuB y x = true → cpuB y' x' = true) (h7 : memB y x = true → memB y' x' = true) (h8 : dskB y x = true → dskB y' x' = true) {n : Int} (hn : n ∈ whyL y x) : n ∈ whyL y' x' := by
  rw [whyL, yes_mem] at *
  simp only [whyR, List.mem_cons, Prod.mk.injEq, List.not_mem_nil, or_false] at *
  rcases hn with ⟨e, h⟩ | ⟨e, h⟩ | ⟨e, h⟩ | ⟨e, h⟩ | ⟨e, h⟩ | ⟨e, h⟩ | ⟨e, h⟩ | ⟨e, h⟩
  · exact .inl ⟨e, (h1 h.symm).symm⟩
  · exact .inr (.inl ⟨e, (h2 h.symm).symm⟩)
  · exact .inr (.inr (.inl ⟨e, (h3 h.symm).symm⟩))
  · exact .inr (.inr (.inr (.inl ⟨e, (h4 h.symm).symm⟩)))
  · exact .inr (.inr (.inr (.inr (.inl ⟨e, (h5 h.symm).symm⟩))))
  · exact .inr (.inr (.inr (.inr (.inr (.inl ⟨e, (h6 h.symm).symm⟩)))))
  · exact .inr (.inr (.inr (.inr (.inr (.inr (.inl ⟨e, (h7 h.symm).symm⟩))))))
  · exact .inr (.inr (.inr (.inr (.inr (.inr (.inr ⟨e, (h8 h.symm).symm⟩))))))
theorem want_any (y : PodD) (x : InfoD) (q : ResD) (h6 : cpuB y x = true → cpuB (reWant y q) x = true) (h7 : memB y x = true → memB (reWant y q) x = true) (h8 : dskB y x = true → dskB (reWant y q) x = true) {n : Int} (hn : n ∈ whyL y x) : n ∈ whyL (reWant y q) x := by
  have e2 : kepB (reWant y q) x = kepB y x := rfl
  have e3 : askB (reWant y q) x = askB y x := rfl
  have e4 : clashP x (reWant y q) = clashP x y := rfl
  exact why_mono (y := y) (y' := reWant y q) (x := x) (x' := x) id (by rw [e2]; exact id) (by rw [e3]; exact id) (by rw [e4]; exact id) id h6 h7 h8 hn
theorem used_any (y : PodD) (x : InfoD) (q : ResD) (h6 : cpuB y x = true → cpuB y (reUsed x q) = true) (h7 : memB y x = true → memB y (reUsed x q) = true) (h8 : dskB y x = true → dskB y (reUsed x q) = true) {n : Int} (hn : n ∈ whyL y x) : n ∈ whyL y (reUsed x q) := by
  have e1 : offB (reUsed x q) = offB x := rfl
  have e2 : kepB y (reUsed x q) = kepB y x := rfl
  have e3 : askB y (reUsed x q) = askB y x := rfl
  have e4 : clashP (reUsed x q) y = clashP x y := rfl
  have e5 : cntB (reUsed x q) = cntB x := rfl
  exact why_mono (y := y) (y' := y) (x := x) (x' := reUsed x q) (by rw [e1]; exact id) (by rw [e2]; exact id) (by rw [e3]; exact id) (by rw [e4]; exact id) (by rw [e5]; exact id) h6 h7 h8 hn
theorem lt_more {f a b : Int} (h : decide (f < clampI a) = true) : decide (f < clampI (addI a b)) = true := decide_eq_true (Int.lt_of_lt_of_le (of_decide_eq_true h) (addI_mono a b))
theorem lt_less {g a b v : Int} (h : decide (subI g a < v) = true) : decide (subI g (addI a b) < v) = true := decide_eq_true (Int.lt_of_le_of_lt (subI_mono g a b) (of_decide_eq_true h))
theorem cpu_re (y : PodD) (x : InfoD) (a b c : Int) : cpuB (reWant y (a, b, c)) x = decide ((freeP x).1 < clampI a) ∧ memB (reWant y (a, b, c)) x = decide ((freeP x).2.1 < clampI b) ∧ dskB (reWant y (a, b, c)) x = decide ((freeP x).2.2 < clampI c) := ⟨rfl, rfl, rfl⟩
theorem cpu_def (y : PodD) (x : InfoD) : cpuB y x = decide ((freeP x).1 < clampI (pWant y).1) ∧ memB y x = decide ((freeP x).2.1 < clampI (pWant y).2.1) ∧ dskB y x = decide ((freeP x).2.2 < clampI (pWant y).2.2) := ⟨rfl, rfl, rfl⟩
theorem cpu_us (y : PodD) (x : InfoD) (a b c : Int) : cpuB y (reUsed x (a, b, c)) = decide (subI x.1.2.2.2.2.1.1 a < (wantP y).1) ∧ memB y (reUsed x (a, b, c)) = decide (subI x.1.2.2.2.2.1.2.1 b < (wantP y).2.1) ∧ dskB y (reUsed x (a, b, c)) = decide (subI x.1.2.2.2.2.1.2.2 c < (wantP y).2.2) := ⟨rfl, rfl, rfl⟩
theorem cpu_def2 (y : PodD) (x : InfoD) : cpuB y x = decide (subI x.1.2.2.2.2.1.1 x.2.2.1.1 < (wantP y).1) ∧ memB y x = decide (subI x.1.2.2.2.2.1.2.1 x.2.2.1.2.1 < (wantP y).2.1) ∧ dskB y x = decide (subI x.1.2.2.2.2.1.2.2 x.2.2.1.2.2 < (wantP y).2.2) := ⟨rfl, rfl, rfl⟩
theorem plus_def (a m : ResD) : plusR a m = (addI a.1 m.1, addI a.2.1 m.2.1, addI a.2.2 m.2.2) := rfl
theorem want_more (y : PodD) (x : InfoD) (m : ResD) {n : Int} (hn : n ∈ whyL y x) : n ∈ whyL (reWant y (plusR (pWant y) m)) x := by
  rw [plus_def]
  obtain ⟨r1, r2, r3⟩ := cpu_re y x (addI (pWant y).1 m.1) (addI (pWant y).2.1 m.2.1) (addI (pWant y).2.2 m.2.2)
  obtain ⟨d1, d2, d3⟩ := cpu_def y x
  refine want_any y x _ ?_ ?_ ?_ hn
  · rw [r1, d1]; exact lt_more
  · rw [r2, d2]; exact lt_more
  · rw [r3, d3]; exact lt_more
theorem used_more (y : PodD) (x : InfoD) (m : ResD) {n : Int} (hn : n ∈ whyL y x) : n ∈ whyL y (reUsed x (plusR x.2.2.1 m)) := by
  rw [plus_def]
  obtain ⟨r1, r2, r3⟩ := cpu_us y x (addI x.2.2.1.1 m.1) (addI x.2.2.1.2.1 m.2.1) (addI x.2.2.1.2.2 m.2.2)
  obtain ⟨d1, d2, d3⟩ := cpu_def2 y x
  refine used_any y x _ ?_ ?_ ?_ hn
  · rw [r1, d1]; exact lt_less
  · rw [r2, d2]; exact lt_less
  · rw [r3, d3]; exact lt_less
end Go.Proofs.Ytbcclfiopebmpaa
namespace Go.Proofs.Ytbcclfiopebmpaa
open Go.ChangeShapes Go.WideShapes Go.ChangeAt Go.RowKit

/-- What a datum weighs is within reach. -/
def Light {H : Type} (d : DataW H) (t : TypeId) : Prop := ∀ n ∈ d.weights Try.prog t, n ≤ 140737488351232
theorem light_all {H : Type} {e : TypeId} : ∀ {ds : List (DataW H)} {d : DataW H}, d ∈ ds → (∀ n ∈ DataW.weightsAll Try.prog e ds, n ≤ 140737488351232) → Light d e
  | [], _, h, _ => by simp at h
  | x :: ds, d, h, hw => by
    rcases List.mem_cons.1 h with rfl | h
    · intro n hn; exact hw n (by simp [DataW.weightsAll, hn])
    · exact light_all h (fun n hn => hw n (by simp [DataW.weightsAll, hn]))
theorem light_slice {H : Type} {t e : TypeId} {elems spare : List (DataW H)} (hu : Try.prog.underlying t = some (.slice e)) (h : Light (.slice elems spare) t) : elems.length * Try.prog.bytesOf e ≤ 140737488351232 ∧ ∀ d ∈ elems, Light d e := by
  unfold Light at h
  simp only [DataW.weights, hu, List.mem_cons, List.mem_append] at h
  refine ⟨?_, fun d hd => light_all hd (fun n hn => h n (.inr (.inl hn)))⟩
  have := h _ (.inl rfl)
  rw [Nat.add_mul] at this
  omega
theorem light_struct {H : Type} {t : TypeId} {fs : Array Field} {parts : List (DataW H)} (hu : Try.prog.underlying t = some (.struct fs)) (h : Light (.agg parts) t) {j : Nat} {tj : TypeId} {d : DataW H} (ht : (fs.toList.map (·.type))[j]? = some tj) (hd : parts[j]? = some d) : Light d tj := by
  intro n hn
  refine h n ?_
  simp only [DataW.weights, hu]
  exact DataW.weights_mem_each ht hd n hn
theorem light_arg {H : Type} {ts : List TypeId} {ds : List (DataW H)} (h : (DataW.weightsEach Try.prog ts ds).all (· ≤ reachBytes) = true) {j : Nat} {t : TypeId} {d : DataW H} (ht : ts[j]? = some t) (hd : ds[j]? = some d) : Light d t := by
  intro n hn
  have := List.all_eq_true.1 h _ (DataW.weights_mem_each ht hd n hn)
  have hre : reachBytes = 140737488351232 := by decide
  rw [hre] at this
  simpa using this

section
variable {H : Type} {enc : TypeId × Value → H} {W : World} {base n : Nat} {sp : Nat → Bool} {held : Bool}

theorem open_str {v : Value} {x : DataW H × List MemPlace} (h : DataW.trod enc Try.prog W base sp held n 9 [v] = some x) (hl : Light x.1 9) : ∃ s : ByteArray, v = .string s ∧ s.size ≤ 140737488355328 := by
  obtain ⟨s, hs, rfl, _⟩ := DataW.trod_string Try.underlying9 h
  refine ⟨s, by simpa using hs, ?_⟩
  have := hl s.data.toList.length (by simp [DataW.weights])
  simp at this
  omega

theorem addr_lt {B off : Nat} {spot : Option _} {v : Value} (h : W.cell? ⟨B, off, spot⟩ = some v) : B < W.heap.size := by
  rcases Nat.lt_or_ge B W.heap.size with h2 | h2
  · exact h2
  · simp [World.cell?, Array.getElem?_eq_none h2] at h

theorem getD_range {α : Type} [Inhabited α] (f : Nat → α) (len i : Nat) (h : i < len) : ((List.range len).map f).getD i default = f i := by
  rw [getE _ _ (by simpa using h)]; simp

theorem open_row {α : Type} [Inhabited α] {en : α → List Value} {k bytes : Nat} {ok : α → Prop} {t e : TypeId} (hu : Try.prog.underlying t = some (.slice e)) (ck : Try.prog.cellsOf e = k) (bk : Try.prog.bytesOf e = bytes) (hk : ∀ x, (en x).length = k) (hk0 : 0 < k) (hb1 : 1 ≤ bytes)
    (hE : ∀ {m : Nat} {cs : List Value} {x : DataW H × List MemPlace}, DataW.trod enc Try.prog W base sp held m e cs = some x → Light x.1 e → ∃ y : α, cs = en y ∧ ok y)
    {v : Value} {x : DataW H × List MemPlace} (h : DataW.trod enc Try.prog W base sp held n t [v] = some x) (hl : Light x.1 t) :
    ∃ (a : Option Addr) (L : List α) (cap : Nat), v = .slice a L.length cap ∧ RowAt en k ok W a L ∧ L.length * bytes ≤ 140737488351232 ∧ (a = none → cap = 0) ∧ L.length ≤ cap := by
  rcases Go.Deep.open_slice hu h with ⟨hv, _⟩ | ⟨a, len, cap, m, nn, D, Pl, hv, _, hlc, _, hm, rfl, hel⟩
  · exact ⟨none, [], 0, by simpa using hv, RowAt.nil _ _, by simp, fun _ => rfl, by simp⟩
  · obtain rfl : v = .slice (some a) len cap := by simpa using hv
    obtain ⟨w1, w2⟩ := light_slice hu hl
    simp only [List.length_map, List.length_range, bk] at w1
    have hlb : len * 1 ≤ len * bytes := Nat.mul_le_mul_left _ hb1
    have hml : len ≤ m := by rw [hm]; split <;> omega
    rw [ck] at hel
    have each : ∀ i, i < len → ∃ y : α, (∀ j u, (en y)[j]? = some u → W.cell? ((a.add (i * k)).add j) = some u) ∧ ok y := fun i hi => by
      obtain ⟨cs', h1, h2⟩ := hel i (by omega)
      obtain ⟨y, rfl, ho⟩ := hE h2 (w2 _ (List.mem_map.2 ⟨i, List.mem_range.2 hi, rfl⟩))
      obtain ⟨_, _, hcell⟩ := World.cells?_some h1
      refine ⟨y, fun j u hj => ?_, ho⟩
      have hjk : j < k := by
        have := (List.getElem?_eq_some_iff.1 hj).1
        rwa [hk] at this
      rw [hcell j hjk, hj]
    obtain ⟨f, hf⟩ := Go.Deep.choose_lt each
    refine ⟨some a, (List.range len).map f, cap, by simp, ⟨by simp; omega, ?_, fun hn => ?_⟩, by simpa using w1, (fun h => by cases h), by simpa using hlc⟩
    · intro s hs
      obtain ⟨i, hi, rfl⟩ := List.mem_map.1 hs
      exact (hf i (List.mem_range.1 hi)).2
    · have hpos : 0 < len := by
        rcases Nat.eq_zero_or_pos len with h0 | h0
        · subst h0; exact absurd rfl hn
        · exact h0
      obtain ⟨B, off, spot⟩ := a
      have hex : ∃ u, (en (f 0))[0]? = some u := by
        cases e : en (f 0) with
        | nil => have := hk (f 0); rw [e] at this; simp at this; omega
        | cons u r => exact ⟨u, rfl⟩
      obtain ⟨u0, hu0⟩ := hex
      have hc0 := (hf 0 hpos).1 0 u0 hu0
      have hsp : spot = none := by
        have := World.cell?_spot hc0
        simpa [Addr.add] using this
      subst hsp
      rw [add_lit, add_lit] at hc0
      refine ⟨B, off, rfl, addr_lt hc0, fun i hi j u hj => ?_⟩
      have hi' : i < len := by simpa using hi
      rw [getD_range f len i hi'] at hj
      have := (hf i hi').1 j u hj
      rwa [add_lit, add_lit] at this
theorem trod_struct4 {t : TypeId} {f0 f1 f2 f3 : Field} {fuel : Nat} {cs : List Value} {x : DataW H × List MemPlace} (ht : Try.prog.underlying t = some (.struct #[f0, f1, f2, f3])) (h : DataW.trod enc Try.prog W base sp held fuel t cs = some x) :
    ∃ y0 y1 y2 y3 n, x = (.agg [y0.1, y1.1, y2.1, y3.1], y0.2 ++ (y1.2 ++ (y2.2 ++ y3.2))) ∧ cs.length = Try.prog.cellsOf t ∧ DataW.trod enc Try.prog W base sp held n f0.type ((cs.drop f0.offset).take (Try.prog.cellsOf f0.type)) = some y0 ∧
      DataW.trod enc Try.prog W base sp held n f1.type ((cs.drop f1.offset).take (Try.prog.cellsOf f1.type)) = some y1 ∧ DataW.trod enc Try.prog W base sp held n f2.type ((cs.drop f2.offset).take (Try.prog.cellsOf f2.type)) = some y2 ∧ DataW.trod enc Try.prog W base sp held n f3.type ((cs.drop f3.offset).take (Try.prog.cellsOf f3.type)) = some y3 := by
  obtain ⟨xs, n, _, rfl, hl, hlen, hf⟩ := DataW.trod_struct ht h
  match xs, hlen with
  | [y0, y1, y2, y3], _ => exact ⟨y0, y1, y2, y3, n, by simp, hl, by simpa using hf 0 f0 rfl, by simpa using hf 1 f1 rfl, by simpa using hf 2 f2 rfl, by simpa using hf 3 f3 rfl⟩
end
end Go.Proofs.Ytbcclfiopebmpaa
namespace Go.Proofs.Ytbcclfiopebmpaa
open Go.ChangeShapes Go.WideShapes Go.ChangeAt Go.RowKit

/-- What is read as of that type lies as said. -/
def Opens {α : Type} (R : Rep α) (t : TypeId) : Prop :=
  ∀ {H : Type} {enc : TypeId × Value → H} {W : World} {base n : Nat} {sp : Nat → Bool} {held : Bool} {cs : List Value} {x : DataW H × List MemPlace},
    DataW.trod enc Try.prog W base sp held n t cs = some x → Light x.1 t → ∃ y, R (fun _ => True) W cs y
theorem opens_str : Opens RStr 9 := by
  intro H enc W base n sp held cs x h hl
  obtain ⟨s, hs, rfl, _⟩ := DataW.trod_string Try.underlying9 h
  refine ⟨s, hs, ?_⟩
  have := hl s.data.toList.length (by simp [DataW.weights])
  simp at this
  omega
theorem opens_int : Opens RInt 3 := by
  intro H enc W base n sp held cs x h _
  obtain ⟨e, e1, _, _⟩ := DataW.trod_int Try.underlying3 h
  exact ⟨e, e1⟩
theorem opens_bool : Opens RBool 4 := by
  intro H enc W base n sp held cs x h _
  obtain ⟨b, b1, _⟩ := DataW.trod_bool Try.underlying4 h
  exact ⟨b, b1⟩
theorem opens_slice {α : Type} [Inhabited α] {R : Rep α} {k bytes : Nat} {t e : TypeId} (hR : Firm R k) (hu : Try.prog.underlying t = some (.slice e)) (ck : Try.prog.cellsOf e = k) (bk : Try.prog.bytesOf e = bytes) (hk0 : 0 < k) (hE : Opens R e) : Opens (RSl R k bytes) t := by
  intro H enc W base n sp held cs x h hl
  rcases Go.Deep.open_slice hu h with ⟨hv, _⟩ | ⟨a, len, cap, m, nn, D, Pl, hv, _, hlc, _, hm, rfl, hel⟩
  · exact ⟨[], none, 0, 0, hv, SlAt.nil _ _ _ _ (fun _ => rfl)⟩
  · obtain ⟨w1, w2⟩ := light_slice hu hl
    simp only [List.length_map, List.length_range, bk] at w1
    have hml : len ≤ m := by rw [hm]; split <;> omega
    rw [ck] at hel
    have each : ∀ i, i < len → ∃ y : α, ∃ cs, R (fun _ => True) W cs y ∧ ∀ j u, cs[j]? = some u → W.cell? ((a.add (i * k)).add j) = some u := fun i hi => by
      obtain ⟨cs', h1, h2⟩ := hel i (by omega)
      obtain ⟨y, hy⟩ := hE h2 (w2 _ (List.mem_map.2 ⟨i, List.mem_range.2 hi, rfl⟩))
      obtain ⟨_, _, hcell⟩ := World.cells?_some h1
      refine ⟨y, cs', hy, fun j u hj => ?_⟩
      have hjk : j < k := by
        have := (List.getElem?_eq_some_iff.1 hj).1
        rwa [hR.len hy] at this
      rw [hcell j hjk, hj]
    obtain ⟨f, hf⟩ := Go.Deep.choose_lt each
    refine ⟨(List.range len).map f, some a, len, cap, hv, by simp, hlc, (fun h => by cases h), w1, fun hpos => ?_⟩
    obtain ⟨B, off, spot⟩ := a
    obtain ⟨cs0, hr0, hc0⟩ := hf 0 hpos
    have hex : ∃ u, cs0[0]? = some u := by
      cases e : cs0 with
      | nil => have := hR.len hr0; rw [e] at this; simp at this; omega
      | cons u r => exact ⟨u, rfl⟩
    obtain ⟨u0, hu0⟩ := hex
    have hc0 := hc0 0 u0 hu0
    have hsp : spot = none := by
      have := World.cell?_spot hc0
      simpa [Addr.add] using this
    subst hsp
    rw [add_lit, add_lit] at hc0
    refine ⟨B, off, rfl, addr_lt hc0, trivial, fun i hi => ?_⟩
    obtain ⟨cs, hr, hc⟩ := hf i hi
    refine ⟨cs, by rw [getD_range f len i hi]; exact hr, fun j u hj => ?_⟩
    have := hc j u hj
    rwa [add_lit, add_lit] at this
/-- The same of a struct's fields from a place on. -/
def OpensFs {α : Type} (fs : List Field) (off total : Nat) (R : Rep α) : Prop :=
  ∀ {H : Type} {enc : TypeId × Value → H} {W : World} {base n : Nat} {sp : Nat → Bool} {held : Bool} {cs : List Value}, cs.length = total →
    (∀ (j : Nat) (f : Field), fs[j]? = some f → ∃ d, DataW.trod enc Try.prog W base sp held n f.type ((cs.drop f.offset).take (Try.prog.cellsOf f.type)) = some d ∧ Light d.1 f.type) → ∃ y, R (fun _ => True) W (cs.drop off) y
theorem opensFs_last {α : Type} {R : Rep α} {f : Field} {off total : Nat} (ho : f.offset = off) (ht : off + Try.prog.cellsOf f.type = total) (h : Opens R f.type) : OpensFs [f] off total R := by
  intro H enc W base n sp held cs hl hf
  obtain ⟨d, h1, h2⟩ := hf 0 f rfl
  rw [ho, List.take_of_length_le (by rw [List.length_drop]; omega)] at h1
  exact h h1 h2
theorem opensFs_cons {α β : Type} {R : Rep α} {S : Rep β} {f : Field} {fs : List Field} {off m total : Nat} (ho : f.offset = off) (hm : off + Try.prog.cellsOf f.type = m) (h : Opens R f.type) (hs : OpensFs fs m total S) : OpensFs (f :: fs) off total (RPair R S) := by
  intro H enc W base n sp held cs hl hf
  obtain ⟨d, h1, h2⟩ := hf 0 f rfl
  rw [ho] at h1
  obtain ⟨y, hy⟩ := h h1 h2
  obtain ⟨z, hz⟩ := hs (cs := cs) hl (fun j g hg => hf (j + 1) g (by simpa using hg))
  refine ⟨(y, z), (cs.drop off).take (Try.prog.cellsOf f.type), cs.drop m, ?_, hy, hz⟩
  rw [← hm, ← List.drop_drop]
  exact (List.take_append_drop _ _).symm
theorem opens_struct {α : Type} {R : Rep α} {t : TypeId} {fs : Array Field} {total : Nat} (hu : Try.prog.underlying t = some (.struct fs)) (hc : Try.prog.cellsOf t = total) (h : OpensFs fs.toList 0 total R) : Opens R t := by
  intro H enc W base n sp held cs x hx hl
  obtain ⟨xs, m, _, rfl, hlen, hxs, hf⟩ := DataW.trod_struct hu hx
  have := h (enc := enc) (W := W) (base := base) (n := m) (sp := sp) (held := held) (cs := cs) (by rw [hlen, hc]) (fun j f hj => by
    have hj' : fs[j]? = some f := by simpa using hj
    have h1 := hf j f hj'
    have hlt : j < xs.length := by
      have := (Array.getElem?_eq_some_iff.1 hj').1
      omega
    have h2 : xs[j]? = some xs[j] := List.getElem?_eq_getElem hlt
    rw [h2] at h1
    refine ⟨xs[j], h1, light_struct hu hl (j := j) (by simp [hj']) (by simp [h2])⟩)
  simpa using this
theorem arg_agg {P : Program} {t : TypeId} {fs : Array Field} (hu : P.underlying t = some (.struct fs)) {H : Type} {enc : TypeId × Value → H} {W : World} {base b0 : Nat} {r : Reach} {sp : Nat → Bool} {held : Bool} {v : Value} {d : DataW H} {p : List MemPlace}
    (hv : Value.okWide P W r b0 t v) (hd : DataW.Trod enc P W base sp held t v d p) : ∃ (cs : Array Value) (fuel : Nat), v = .agg cs ∧ DataW.trod enc P W base sp held fuel t cs.toList = some (d, p) := by
  obtain ⟨cs, rfl, _⟩ := okWide_struct hu hv
  obtain ⟨fuel, hf⟩ := hd
  exact ⟨cs, fuel, rfl, hf⟩
set_option maxRecDepth 100000 in
/-- A struct that is handed in. -/
theorem opens_arg {α : Type} {R : Rep α} {t : TypeId} {fs : Array Field} (hu : Try.prog.underlying t = some (.struct fs)) (h : Opens R t) {H : Type} {enc : TypeId × Value → H} {W : World} {base b0 : Nat} {r : Reach} {sp : Nat → Bool} {held : Bool} {v : Value} {d : DataW H} {p : List MemPlace}
    (hv : Value.okWide Try.prog W r b0 t v) (hd : DataW.Trod enc Try.prog W base sp held t v d p) (hl : Light d t) : ∃ cs y, v = .agg cs ∧ R (fun _ => True) W cs.toList y := by
  obtain ⟨cs, fuel, e, hf⟩ := arg_agg hu hv hd
  obtain ⟨y, hy⟩ := h hf hl
  exact ⟨cs, y, e, hy⟩
end Go.Proofs.Ytbcclfiopebmpaa
namespace Go.Proofs.Ytbcclfiopebmpaa
open Go.ChangeShapes Go.WideShapes Go.ChangeAt Go.RowKit

theorem opens_Label : Opens RLabel 97 := opens_struct (total := 2) Try.underlying97 (by kernel_rfl) (opensFs_cons (m := 1) rfl (by kernel_rfl) opens_str (opensFs_last rfl (by kernel_rfl) opens_str))
theorem opens_s_str : Opens (RSl RStr 1 16) 31 := opens_slice RStr.firm Try.underlying31 (by kernel_rfl) (by kernel_rfl) (by decide) opens_str
theorem opens_Req : Opens RReq 90 := opens_struct (total := 3) Try.underlying90 (by kernel_rfl) (opensFs_cons (m := 1) rfl (by kernel_rfl) opens_str (opensFs_cons (m := 2) rfl (by kernel_rfl) opens_int (opensFs_last rfl (by kernel_rfl) opens_s_str)))
theorem opens_Res : Opens RRes 24 := opens_struct (total := 3) Try.underlying24 (by kernel_rfl) (opensFs_cons (m := 1) rfl (by kernel_rfl) opens_int (opensFs_cons (m := 2) rfl (by kernel_rfl) opens_int (opensFs_last rfl (by kernel_rfl) opens_int)))
theorem opens_Taint : Opens RTaint 70 := opens_struct (total := 3) Try.underlying70 (by kernel_rfl) (opensFs_cons (m := 1) rfl (by kernel_rfl) opens_str (opensFs_cons (m := 2) rfl (by kernel_rfl) opens_str (opensFs_last rfl (by kernel_rfl) opens_int)))
theorem opens_Bear : Opens RBear 81 := opens_struct (total := 4) Try.underlying81 (by kernel_rfl) (opensFs_cons (m := 1) rfl (by kernel_rfl) opens_str (opensFs_cons (m := 2) rfl (by kernel_rfl) opens_str (opensFs_cons (m := 3) rfl (by kernel_rfl) opens_bool (opensFs_last rfl (by kernel_rfl) opens_int))))
theorem opens_s_Req : Opens (RSl RReq 3 48) 26 := opens_slice RReq.firm Try.underlying26 (by kernel_rfl) (by kernel_rfl) (by decide) opens_Req
theorem opens_Term : Opens RTerm 92 := opens_struct (total := 2) Try.underlying92 (by kernel_rfl) (opensFs_cons (m := 1) rfl (by kernel_rfl) opens_s_Req (opensFs_last rfl (by kernel_rfl) opens_str))
theorem opens_Prefer : Opens RPrefer 54 := opens_struct (total := 2) Try.underlying54 (by kernel_rfl) (opensFs_cons (m := 1) rfl (by kernel_rfl) opens_s_Req (opensFs_last rfl (by kernel_rfl) opens_int))
theorem opens_Spread : Opens RSpread 58 := opens_struct (total := 4) Try.underlying58 (by kernel_rfl) (opensFs_cons (m := 1) rfl (by kernel_rfl) opens_str (opensFs_cons (m := 2) rfl (by kernel_rfl) opens_int (opensFs_cons (m := 3) rfl (by kernel_rfl) opens_int (opensFs_last rfl (by kernel_rfl) opens_s_Req))))
theorem opens_s_Label : Opens (RSl RLabel 2 32) 22 := opens_slice RLabel.firm Try.underlying22 (by kernel_rfl) (by kernel_rfl) (by decide) opens_Label
theorem opens_s_Bear : Opens (RSl RBear 4 48) 25 := opens_slice RBear.firm Try.underlying25 (by kernel_rfl) (by kernel_rfl) (by decide) opens_Bear
theorem opens_s_Prefer : Opens (RSl RPrefer 2 32) 27 := opens_slice RPrefer.firm Try.underlying27 (by kernel_rfl) (by kernel_rfl) (by decide) opens_Prefer
theorem opens_s_int : Opens (RSl RInt 1 8) 28 := opens_slice RInt.firm Try.underlying28 (by kernel_rfl) (by kernel_rfl) (by decide) opens_int
theorem opens_s_Term : Opens (RSl RTerm 2 40) 29 := opens_slice RTerm.firm Try.underlying29 (by kernel_rfl) (by kernel_rfl) (by decide) opens_Term
theorem opens_s_Spread : Opens (RSl RSpread 4 56) 30 := opens_slice RSpread.firm Try.underlying30 (by kernel_rfl) (by kernel_rfl) (by decide) opens_Spread
theorem opens_Pod : Opens RPod 33 := opens_struct (total := 16) Try.underlying33 (by kernel_rfl) (opensFs_cons (m := 1) rfl (by kernel_rfl) opens_str (opensFs_cons (m := 2) rfl (by kernel_rfl) opens_int (opensFs_cons (m := 3) rfl (by kernel_rfl) opens_s_Label (opensFs_cons (m := 6) rfl (by kernel_rfl) opens_Res (opensFs_cons (m := 7) rfl (by kernel_rfl) opens_s_Bear (opensFs_cons (m := 8) rfl (by kernel_rfl) opens_s_Req (opensFs_cons (m := 9) rfl (by kernel_rfl) opens_s_Prefer (opensFs_cons (m := 10) rfl (by kernel_rfl) opens_s_int (opensFs_cons (m := 11) rfl (by kernel_rfl) opens_s_Term (opensFs_cons (m := 12) rfl (by kernel_rfl) opens_s_Term (opensFs_cons (m := 13) rfl (by kernel_rfl) opens_s_Spread (opensFs_cons (m := 14) rfl (by kernel_rfl) opens_s_str (opensFs_cons (m := 15) rfl (by kernel_rfl) opens_str (opensFs_last rfl (by kernel_rfl) opens_str))))))))))))))
theorem opens_s_Taint : Opens (RSl RTaint 3 40) 34 := opens_slice RTaint.firm Try.underlying34 (by kernel_rfl) (by kernel_rfl) (by decide) opens_Taint
theorem opens_Node : Opens RNode 36 := opens_struct (total := 9) Try.underlying36 (by kernel_rfl) (opensFs_cons (m := 1) rfl (by kernel_rfl) opens_str (opensFs_cons (m := 2) rfl (by kernel_rfl) opens_s_Label (opensFs_cons (m := 3) rfl (by kernel_rfl) opens_s_Taint (opensFs_cons (m := 4) rfl (by kernel_rfl) opens_bool (opensFs_cons (m := 7) rfl (by kernel_rfl) opens_Res (opensFs_cons (m := 8) rfl (by kernel_rfl) opens_int (opensFs_last rfl (by kernel_rfl) opens_int)))))))
end Go.Proofs.Ytbcclfiopebmpaa
namespace Go.Proofs.Ytbcclfiopebmpaa
open Go.RowKit
set_option linter.unusedSimpArgs false

theorem opens_Info : Opens RInfo 38 := opens_struct (total := 15) Try.underlying38 (by kernel_rfl) (opensFs_cons (m := 9) rfl (by kernel_rfl) opens_Node (opensFs_cons (m := 10) rfl (by kernel_rfl) opens_s_str (opensFs_cons (m := 13) rfl (by kernel_rfl) opens_Res (opensFs_cons (m := 14) rfl (by kernel_rfl) opens_s_int (opensFs_last rfl (by kernel_rfl) opens_s_str)))))
/-- A number of Go's. -/
def RIntB : Rep Int := fun _ _ cs n => cs = [.int .i64 n] ∧ n ≤ 9223372036854775807
theorem opens_intB : Opens RIntB 3 := by
  intro H enc W base n sp held cs x h _
  obtain ⟨e, e1, _, hw⟩ := DataW.trod_int Try.underlying3 h
  refine ⟨e, e1, ?_⟩
  simp [Lit.wf, IntKind.max, IntKind.min, IntKind.bits, IntKind.signed] at hw
  omega
def RNodeB : Rep NodeD := RPair RStr (RPair (RSl RLabel 2 32) (RPair (RSl RTaint 3 40) (RPair RBool (RPair RRes (RPair RIntB RInt)))))
theorem RNodeB.node {A : Where} {w : World} {cs : List Value} {x : NodeD} (h : RNodeB A w cs x) : RNode A w cs x ∧ x.2.2.2.2.2.1 ≤ 9223372036854775807 := by
  obtain ⟨c0, d0, e0, h0, c1, d1, e1, h1, c2, d2, e2, h2, c3, d3, e3, h3, c4, d4, e4, h4, c5, d5, e5, h5, h6⟩ := h
  exact ⟨⟨c0, d0, e0, h0, c1, d1, e1, h1, c2, d2, e2, h2, c3, d3, e3, h3, c4, d4, e4, h4, c5, d5, e5, h5.1, h6⟩, h5.2⟩
theorem opens_NodeB : Opens RNodeB 36 := opens_struct (total := 9) Try.underlying36 (by kernel_rfl) (opensFs_cons (m := 1) rfl (by kernel_rfl) opens_str (opensFs_cons (m := 2) rfl (by kernel_rfl) opens_s_Label (opensFs_cons (m := 3) rfl (by kernel_rfl) opens_s_Taint (opensFs_cons (m := 4) rfl (by kernel_rfl) opens_bool (opensFs_cons (m := 7) rfl (by kernel_rfl) opens_Res (opensFs_cons (m := 8) rfl (by kernel_rfl) opens_intB (opensFs_last rfl (by kernel_rfl) opens_int)))))))
def RInfoB : Rep InfoD := RPair RNodeB (RPair (RSl RStr 1 16) (RPair RRes (RPair (RSl RInt 1 8) (RSl RStr 1 16))))
theorem RInfoB.info {A : Where} {w : World} {cs : List Value} {x : InfoD} (h : RInfoB A w cs x) : RInfo A w cs x ∧ x.1.2.2.2.2.2.1 ≤ 9223372036854775807 := by
  obtain ⟨c, d, e, hn, hr⟩ := h
  exact ⟨⟨c, d, e, hn.node.1, hr⟩, hn.node.2⟩
end Go.Proofs.Ytbcclfiopebmpaa
namespace Go.Proofs.Ytbcclfiopebmpaa
open Go.ChangeShapes Go.WideShapes Go.ChangeAt Go.RowKit
set_option linter.unusedSimpArgs false

/-- What is read as of that type lies as said, and is no greater than its bulk. -/
def OpensM {α : Type} (R : Rep α) (m : α → Nat) (t : TypeId) : Prop :=
  ∀ {H : Type} {enc : TypeId × Value → H} {W : World} {base n : Nat} {sp : Nat → Bool} {held : Bool} {cs : List Value} {x : DataW H × List MemPlace},
    DataW.trod enc Try.prog W base sp held n t cs = some x → Light x.1 t → ∃ y, R (fun _ => True) W cs y ∧ m y ≤ Rows.uptoBulk x.1
theorem bulk_pos {H : Type} (d : DataW H) : 1 ≤ Rows.uptoBulk d := by
  match d with
  | .lit l => cases l <;> simp [Rows.uptoBulk]
  | .nil => simp [Rows.uptoBulk]
  | .ptr _ => simp [Rows.uptoBulk]
  | .slice _ _ => simp [Rows.uptoBulk]
  | .agg _ => simp [Rows.uptoBulk]
  | .iface _ _ => simp [Rows.uptoBulk]
  | .map _ => simp [Rows.uptoBulk]
  | .held _ => simp [Rows.uptoBulk]
theorem Opens.m {α : Type} {R : Rep α} {t : TypeId} (h : Opens R t) : OpensM R (fun _ => 1) t := by
  intro H enc W base n sp held cs x hx hl
  obtain ⟨y, hy⟩ := h hx hl
  exact ⟨y, hy, bulk_pos _⟩
theorem sum_bulk {α H : Type} (m : α → Nat) (f : Nat → α) (D : Nat → DataW H) : ∀ l : List Nat, (∀ i ∈ l, m (f i) ≤ Rows.uptoBulk (D i)) → sumBy m (l.map f) ≤ Rows.uptoBulkAll (l.map D)
  | [], _ => by simp [sumBy, Rows.uptoBulkAll]
  | i :: l, h => by
    have := sum_bulk m f D l (fun j hj => h j (List.mem_cons_of_mem _ hj))
    have h0 := h i List.mem_cons_self
    simp only [sumBy, List.map_cons, List.sum_cons, Rows.uptoBulkAll] at this ⊢
    omega
theorem opensM_slice {α : Type} [Inhabited α] {R : Rep α} {m : α → Nat} {k bytes : Nat} {t e : TypeId} (hR : Firm R k) (hu : Try.prog.underlying t = some (.slice e)) (ck : Try.prog.cellsOf e = k) (bk : Try.prog.bytesOf e = bytes) (hk0 : 0 < k) (hE : OpensM R m e) : OpensM (RSl R k bytes) (sumBy m) t := by
  intro H enc W base n sp held cs x h hl
  rcases Go.Deep.open_slice hu h with ⟨hv, _⟩ | ⟨a, len, cap, mm, nn, D, Pl, hv, _, hlc, _, hm, rfl, hel⟩
  · exact ⟨[], ⟨none, 0, 0, hv, SlAt.nil _ _ _ _ (fun _ => rfl)⟩, by simp [sumBy]⟩
  · obtain ⟨w1, w2⟩ := light_slice hu hl
    simp only [List.length_map, List.length_range, bk] at w1
    have hml : len ≤ mm := by rw [hm]; split <;> omega
    rw [ck] at hel
    have each : ∀ i, i < len → ∃ y : α, (∃ cs, R (fun _ => True) W cs y ∧ ∀ j u, cs[j]? = some u → W.cell? ((a.add (i * k)).add j) = some u) ∧ m y ≤ Rows.uptoBulk (D i) := fun i hi => by
      obtain ⟨cs', h1, h2⟩ := hel i (by omega)
      obtain ⟨y, hy, hm⟩ := hE h2 (w2 _ (List.mem_map.2 ⟨i, List.mem_range.2 hi, rfl⟩))
      obtain ⟨_, _, hcell⟩ := World.cells?_some h1
      refine ⟨y, ⟨cs', hy, fun j u hj => ?_⟩, hm⟩
      have hjk : j < k := by
        have := (List.getElem?_eq_some_iff.1 hj).1
        rwa [hR.len hy] at this
      rw [hcell j hjk, hj]
    obtain ⟨f, hf⟩ := Go.Deep.choose_lt each
    refine ⟨(List.range len).map f, ⟨some a, len, cap, hv, by simp, hlc, (fun h => by cases h), w1, fun hpos => ?_⟩, ?_⟩
    · obtain ⟨B, off, spot⟩ := a
      obtain ⟨cs0, hr0, hc0⟩ := (hf 0 hpos).1
      have hex : ∃ u, cs0[0]? = some u := by
        cases e : cs0 with
        | nil => have := hR.len hr0; rw [e] at this; simp at this; omega
        | cons u r => exact ⟨u, rfl⟩
      obtain ⟨u0, hu0⟩ := hex
      have hc0 := hc0 0 u0 hu0
      have hsp : spot = none := by
        have := World.cell?_spot hc0
        simpa [Addr.add] using this
      subst hsp
      rw [add_lit, add_lit] at hc0
      refine ⟨B, off, rfl, addr_lt hc0, trivial, fun i hi => ?_⟩
      obtain ⟨cs, hr, hc⟩ := (hf i hi).1
      refine ⟨cs, by rw [getD_range f len i hi]; exact hr, fun j u hj => ?_⟩
      have := hc j u hj
      rwa [add_lit, add_lit] at this
    · have := sum_bulk m f D (List.range len) (fun i hi => (hf i (List.mem_range.1 hi)).2)
      simp only [Rows.uptoBulk]
      omega
def OpensFsM {α : Type} (fs : List Field) (off total : Nat) (R : Rep α) (m : α → Nat) : Prop :=
  ∀ {H : Type} {enc : TypeId × Value → H} {W : World} {base n : Nat} {sp : Nat → Bool} {held : Bool} {cs : List Value} {ds : List (DataW H)}, cs.length = total → ds.length = fs.length →
    (∀ (j : Nat) (f : Field), fs[j]? = some f → ∃ d, DataW.trod enc Try.prog W base sp held n f.type ((cs.drop f.offset).take (Try.prog.cellsOf f.type)) = some d ∧ Light d.1 f.type ∧ ds[j]? = some d.1) → ∃ y, R (fun _ => True) W (cs.drop off) y ∧ m y ≤ Rows.uptoBulkAll ds
theorem opensFsM_last {α : Type} {R : Rep α} {m : α → Nat} {f : Field} {off total : Nat} (ho : f.offset = off) (ht : off + Try.prog.cellsOf f.type = total) (h : OpensM R m f.type) : OpensFsM [f] off total R m := by
  intro H enc W base n sp held cs ds hl hd hf
  obtain ⟨d, h1, h2, h3⟩ := hf 0 f rfl
  rw [ho, List.take_of_length_le (by rw [List.length_drop]; omega)] at h1
  obtain ⟨y, hy, hm⟩ := h h1 h2
  refine ⟨y, hy, ?_⟩
  cases ds with
  | nil => simp at hd
  | cons d0 r => simp at h3; subst h3; simp only [Rows.uptoBulkAll]; omega
theorem opensFsM_cons {α β : Type} {R : Rep α} {S : Rep β} {m1 : α → Nat} {m2 : β → Nat} {f : Field} {fs : List Field} {off mm total : Nat} (ho : f.offset = off) (hm : off + Try.prog.cellsOf f.type = mm) (h : OpensM R m1 f.type) (hs : OpensFsM fs mm total S m2) : OpensFsM (f :: fs) off total (RPair R S) (fun x => m1 x.1 + m2 x.2) := by
  intro H enc W base n sp held cs ds hl hd hf
  obtain ⟨d, h1, h2, h3⟩ := hf 0 f rfl
  rw [ho] at h1
  obtain ⟨y, hy, hm1⟩ := h h1 h2
  cases ds with
  | nil => simp at hd
  | cons d0 r =>
    obtain ⟨z, hz, hm2⟩ := hs (cs := cs) (ds := r) hl (by simpa using hd) (fun j g hg => by have := hf (j + 1) g (by simpa using hg); simpa using this)
    refine ⟨(y, z), ⟨(cs.drop off).take (Try.prog.cellsOf f.type), cs.drop mm, ?_, hy, hz⟩, ?_⟩
    · rw [← hm, ← List.drop_drop]
      exact (List.take_append_drop _ _).symm
    · simp at h3; subst h3; simp only [Rows.uptoBulkAll]; omega
theorem opensM_struct {α : Type} {R : Rep α} {m : α → Nat} {t : TypeId} {fs : Array Field} {total : Nat} (hu : Try.prog.underlying t = some (.struct fs)) (hc : Try.prog.cellsOf t = total) (h : OpensFsM fs.toList 0 total R m) : OpensM R m t := by
  intro H enc W base n sp held cs x hx hl
  obtain ⟨xs, mm, _, rfl, hlen, hxs, hf⟩ := DataW.trod_struct hu hx
  have := h (enc := enc) (W := W) (base := base) (n := mm) (sp := sp) (held := held) (cs := cs) (ds := xs.map (·.1)) (by rw [hlen, hc]) (by simp [hxs]) (fun j f hj => by
    have hj' : fs[j]? = some f := by simpa using hj
    have h1 := hf j f hj'
    have hlt : j < xs.length := by
      have := (Array.getElem?_eq_some_iff.1 hj').1
      omega
    have h2 : xs[j]? = some xs[j] := List.getElem?_eq_getElem hlt
    rw [h2] at h1
    refine ⟨xs[j], h1, light_struct hu hl (j := j) (by simp [hj']) (by simp [h2]), by simp [h2]⟩)
  obtain ⟨y, hy, hm⟩ := this
  refine ⟨y, by simpa using hy, ?_⟩
  simp only [Rows.uptoBulk]
  omega
end Go.Proofs.Ytbcclfiopebmpaa
namespace Go.Proofs.Ytbcclfiopebmpaa
open Go.ChangeShapes Go.WideShapes Go.ChangeAt Go.RowKit
set_option linter.unusedSimpArgs false

theorem opensM_ints : OpensM (RSl RInt 1 8) (sumBy (fun _ => 1)) 28 := opensM_slice RInt.firm Try.underlying28 (by kernel_rfl) (by kernel_rfl) (by decide) (Opens.m opens_int)
theorem opensM_strs : OpensM (RSl RStr 1 16) (sumBy (fun _ => 1)) 31 := opensM_slice RStr.firm Try.underlying31 (by kernel_rfl) (by kernel_rfl) (by decide) (Opens.m opens_str)
def mPod (x : PodD) : Nat := 1 + (1 + (1 + (1 + (1 + (1 + (1 + (sumBy (fun _ => 1) (pPorts x) + (1 + (1 + (1 + (sumBy (fun _ => 1) (pClaims x) + (1 + 1))))))))))))

set_option maxHeartbeats 1000000 in
theorem opensM_Pod : OpensM RPod mPod 33 := by
  intro H enc W base n sp held cs x hx hl
  obtain ⟨y, hy, hm⟩ := (opensM_struct (total := 16) Try.underlying33 (by kernel_rfl) (opensFsM_cons (mm := 1) rfl (by kernel_rfl) (Opens.m opens_str) (opensFsM_cons (mm := 2) rfl (by kernel_rfl) (Opens.m opens_int) (opensFsM_cons (mm := 3) rfl (by kernel_rfl) (Opens.m opens_s_Label) (opensFsM_cons (mm := 6) rfl (by kernel_rfl) (Opens.m opens_Res) (opensFsM_cons (mm := 7) rfl (by kernel_rfl) (Opens.m opens_s_Bear) (opensFsM_cons (mm := 8) rfl (by kernel_rfl) (Opens.m opens_s_Req) (opensFsM_cons (mm := 9) rfl (by kernel_rfl) (Opens.m opens_s_Prefer) (opensFsM_cons (mm := 10) rfl (by kernel_rfl) opensM_ints (opensFsM_cons (mm := 11) rfl (by kernel_rfl) (Opens.m opens_s_Term) (opensFsM_cons (mm := 12) rfl (by kernel_rfl) (Opens.m opens_s_Term) (opensFsM_cons (mm := 13) rfl (by kernel_rfl) (Opens.m opens_s_Spread) (opensFsM_cons (mm := 14) rfl (by kernel_rfl) opensM_strs (opensFsM_cons (mm := 15) rfl (by kernel_rfl) (Opens.m opens_str) (opensFsM_last rfl (by kernel_rfl) (Opens.m opens_str)))))))))))))))) hx hl
  exact ⟨y, hy, hm⟩
theorem sum_one {α : Type} : ∀ L : List α, sumBy (fun _ => 1) L = L.length
  | [] => rfl
  | _ :: L => by have := sum_one L; simp only [sumBy, List.map_cons, List.sum_cons, List.length_cons] at this ⊢; omega
theorem sumBy_le {α : Type} {f g : α → Nat} (h : ∀ x, f x ≤ g x) : ∀ L : List α, sumBy f L ≤ sumBy g L
  | [] => by simp [sumBy]
  | x :: L => by
    have := sumBy_le h L
    have := h x
    simp only [sumBy, List.map_cons, List.sum_cons] at *
    omega
/-- What is read is little: its ports and claims fit. -/
theorem fits_of {L : List PodD} (h : sumBy mPod L ≤ 1048576) : FitsP L := by
  have h1 : sumBy (fun p => (pPorts p).length) L ≤ sumBy mPod L := sumBy_le (fun p => by unfold mPod; rw [sum_one]; omega) L
  have h2 : sumBy (fun p => (pClaims p).length) L ≤ sumBy mPod L := sumBy_le (fun p => by unfold mPod; rw [sum_one, sum_one]; omega) L
  exact ⟨by omega, by omega⟩
set_option maxRecDepth 100000 in
/-- A struct that is handed in. -/
theorem opensM_arg {α : Type} {R : Rep α} {m : α → Nat} {t : TypeId} {fs : Array Field} (hu : Try.prog.underlying t = some (.struct fs)) (h : OpensM R m t) {H : Type} {enc : TypeId × Value → H} {W : World} {base b0 : Nat} {r : Reach} {sp : Nat → Bool} {held : Bool} {v : Value} {d : DataW H} {p : List MemPlace}
    (hv : Value.okWide Try.prog W r b0 t v) (hd : DataW.Trod enc Try.prog W base sp held t v d p) (hl : Light d t) : ∃ cs y, v = .agg cs ∧ R (fun _ => True) W cs.toList y ∧ m y ≤ Rows.uptoBulk d := by
  obtain ⟨cs, fuel, e, hf⟩ := arg_agg hu hv hd
  obtain ⟨y, hy, hm⟩ := h hf hl
  exact ⟨cs, y, e, hy, hm⟩
end Go.Proofs.Ytbcclfiopebmpaa
namespace Go.Proofs.Ytbcclfiopebmpaa
open Go.RowKit
set_option linter.unusedSimpArgs false

def mInfo (x : InfoD) : Nat := 1 + (sumBy (fun _ => 1) x.2.1 + (1 + (sumBy (fun _ => 1) x.2.2.2.1 + 1)))
theorem opensM_InfoB : OpensM RInfoB mInfo 38 := by
  intro H enc W base n sp held cs x hx hl
  obtain ⟨y, hy, hm⟩ := (opensM_struct (total := 15) Try.underlying38 (by kernel_rfl) (opensFsM_cons (mm := 9) rfl (by kernel_rfl) (Opens.m opens_NodeB) (opensFsM_cons (mm := 10) rfl (by kernel_rfl) opensM_strs (opensFsM_cons (mm := 13) rfl (by kernel_rfl) (Opens.m opens_Res) (opensFsM_cons (mm := 14) rfl (by kernel_rfl) opensM_ints (opensFsM_last rfl (by kernel_rfl) (Opens.m opens_s_str))))))) hx hl
  exact ⟨y, hy, hm⟩
theorem mInfo_le {x : InfoD} {c : Nat} (h : mInfo x ≤ c) : x.2.1.length ≤ c ∧ x.2.2.2.1.length ≤ c := by
  unfold mInfo at h
  rw [sum_one, sum_one] at h
  exact ⟨by omega, by omega⟩
theorem mPod_ports {y : PodD} {c : Nat} (h : mPod y ≤ c) : (pPorts y).length ≤ c := by
  unfold mPod at h
  rw [sum_one, sum_one] at h
  omega
end Go.Proofs.Ytbcclfiopebmpaa
