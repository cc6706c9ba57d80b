/- slices.SortFunc by key, over a function's own row of labels: a permutation of them, sorted; nothing else that was there turns. Condition: the row is the function's own. -/
import Derived.Test.YtpehmobedcflnaaLSorted
import Derived.Test.YtpehmobedcflnaaShelf
namespace Go.Proofs.Ytpehmobedcflnaa
open Go.RowKit Go.Shelf Go.Lib Go.Sort
set_option linter.unusedSimpArgs false

def encL (x : Lab) : List Value := [.string x.1, .string x.2]

set_option maxHeartbeats 1000000 in
theorem byKey_calls (x y : Lab) (W : World) : Calls Try.prog 41 #[.agg #[.string x.1, .string x.2], .agg #[.string y.1, .string y.2]] W fun e w' => e = .returned (.int .i64 (cfL x y)) ∧ ∃ q os', w' = grow (W.drewN q) os' := by
  have hcon := fun W' => Try.strings_Compare x.1 y.1 W'
  have HF : Hid (cfL x y = Lib.compareBytes x.1.data.toList y.1.data.toList) := rfl
  generalize Lib.compareBytes x.1.data.toList y.1.data.toList = r at hcon HF
  go_enter Try.func41, Try.ntmps41
  go_wp2_with (go_at_call 54; refine (hcon _).mono ?_; rintro e w' ⟨rfl, rfl⟩)
  go_ret
  exact ⟨by rw [HF.out]; rfl, 0, _, by rw [alloc_eq_grow, alloc_eq_grow, grow_grow]; rfl⟩
theorem byKey_lays (blk off size : Nat) (w : World) : CmpLays Try.prog 41 #[] encL 2 cfL blk off size w :=
  fun _ _ _ _ x y => byKey_calls x y _
theorem isAggLab (w : World) : (isAgg 52).run Try.prog w = .ok true w := Try.isAgg52 w
theorem sizeLab (w : World) : (Go.sizeOf 52).run Try.prog w = .ok 2 w := Try.sizeOf52 w

theorem toList_getD (d : Array Lab) (i : Nat) (h : i < d.size) : d.toList.getD i default = d[i]! := by
  rw [getD_get _ _ (by simpa using h), getElem!_pos d i h]; simp

theorem sort_calls (w0 u : World) (v : Value) (L : List Lab) (hl : L.length ≤ 140737488355328) (hs : ∀ x ∈ L, x.1.size ≤ 140737488355328 ∧ x.2.size ≤ 140737488355328) (hO : Own w0 u 52 2 v L.length (flatL L)) :
    Calls Try.prog 40 #[v, .func (.func 41) #[] #[]] u fun e w' => e = .returned (.tuple #[]) ∧ Below w0.heap.size w0 w' ∧ ∃ L' a cap, L'.Perm L ∧ SortedK L' ∧ v = .slice a L'.length cap ∧ LabsAt w' a L' := by
  rcases own_cells hO.2 with ⟨rfl, h0⟩ | ⟨g, cap, rfl, hB, hg, hc⟩
  · have : L = [] := List.length_eq_zero_iff.1 h0
    subst this
    refine (show Calls Try.prog 40 #[.slice none 0 0, .func (.func 41) #[] #[]] u (fun e w' => e = .returned (.tuple #[]) ∧ w' = u) from AnyF.slices_SortFunc_none Try.laysSort none 0 _ u).mono ?_
    rintro e w' ⟨rfl, rfl⟩
    exact ⟨rfl, hO.1, [], none, 0, List.Perm.refl _, List.Pairwise.nil, rfl, LabsAt.nil _ _⟩
  · have hH : HoldsK encL 2 u g 0 L.toArray := by
      intro j hj
      simp only [size_flatK, List.size_toArray] at hj
      have h1 := hc j hj
      rw [get_flatK _ _ _ _ (by simpa using hj), Nat.zero_add]
      refine ⟨h1.1.trans ?_, h1.2⟩
      obtain ⟨i, hi⟩ : ∃ i, j = i * 2 ∨ j = i * 2 + 1 := ⟨j / 2, by omega⟩
      have hil : i < L.length := by omega
      have h2 := flatL_at L i hil
      have hx : (L.toArray)[i]! = L.getD i default := by rw [← toList_getD _ _ (by simpa using hil)]
      rcases hi with rfl | rfl
      · rw [show i * 2 / 2 = i by omega, show i * 2 % 2 = 0 by omega, hx]
        simpa [encL] using h2.1
      · rw [show (i * 2 + 1) / 2 = i by omega, show (i * 2 + 1) % 2 = 1 by omega, hx]
        simpa [encL] using h2.2
    have eg : ∀ args w, (callFunc 41 args).run Try.prog w = .ok (.enter 41 args) w := enters_of Try.func41 (by kernel_rfl) rfl
    have hcon := AnyQ.slices_SortFunc Try.laysSort 2 isAggLab sizeLab encL (fun _ => rfl) (fun x v hv => by simp [encL] at hv; rcases hv with rfl | rfl <;> rfl) cfL swoL 41 #[] g 0 cap L.toArray u eg (byKey_lays g 0 _ u) hH hg (by simp; omega)
    refine (show Calls Try.prog 40 #[.slice (some ⟨g, 0, none⟩) L.length cap, .func (.func 41) #[] #[]] u _ from hcon).mono ?_
    rintro e w' ⟨rfl, d', n, os, ⟨hz, _, hperm⟩, hsort, rfl⟩
    have hsz : d'.size = L.length := by simpa using hz
    have hHd : HoldsK encL 2 (putRowK encL 2 (Sort.ahead u n) g 0 d') g 0 d' := holdsK_putRowK encL 2 _ g 0 L.toArray d' (holdsK_ahead encL 2 u n g 0 _ hH) hz
    have hHg : HoldsK encL 2 (sortWorldK encL 2 u g 0 n d' os) g 0 d' := holdsK_grow encL 2 _ os g 0 d' (by simpa [putRowK] using hg) hHd
    have hperm' : d'.toList.Perm L := by
      simpa [Array.extract_eq_self_of_le, hsz] using hperm
    refine ⟨rfl, ?_, d'.toList, some ⟨g, 0, none⟩, cap, hperm', ?_, by simp [hsz], ?_⟩
    · have h1 : Below w0.heap.size w0 (putRowK encL 2 (Sort.ahead u n) g 0 d') := below_putRow hO.1 hB
      refine h1.trans ?_
      have := below_grow w0.heap.size (putRowK encL 2 (Sort.ahead u n) g 0 d') h1.size 0 os
      exact this
    · refine List.pairwise_iff_getElem.2 (fun i j hi hj hij => ?_)
      have := hsort i j (Nat.zero_le _) hij (by simpa [hsz] using hj)
      rw [ltOf_cfL] at this
      rw [← toList_getD _ _ (show i < d'.size by simpa using hi), ← toList_getD _ _ (show j < d'.size by simpa using hj), getD_get _ _ hi, getD_get _ _ hj] at this
      exact this
    · refine ⟨by rw [hperm'.length_eq]; exact hl, fun x hx => hs x (hperm'.mem_iff.1 hx), fun _ => ⟨g, 0, rfl, ?_, fun i hi => ?_⟩⟩
      · have := (below_grow (putRowK encL 2 (Sort.ahead u n) g 0 d').heap.size (putRowK encL 2 (Sort.ahead u n) g 0 d') (Nat.le_refl _) 0 os).size
        refine Nat.lt_of_lt_of_le ?_ this
        simpa [putRowK] using hg
      · have hi' : i < d'.size := by simpa using hi
        have q0 := (hHg.cell hi' (c := 0) (by omega)).1
        have q1 := (hHg.cell hi' (c := 1) (by omega)).1
        rw [toList_getD _ _ hi']
        exact ⟨by simpa [encL] using q0, by simpa [encL] using q1⟩
end Go.Proofs.Ytpehmobedcflnaa
