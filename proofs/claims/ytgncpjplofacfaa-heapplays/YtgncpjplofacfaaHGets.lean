/- Heap.Peek, Get, Drop, and Pop where there is nothing: the plain functions. No condition. -/
import Derived.Test.YtgncpjplofacfaaHPk
namespace Go.Proofs.Ytgncpjplofacfaa
open Go.RowKit Go.Maps
set_option linter.unusedSimpArgs false

/-- The entry that is none. -/
def zI : It := (⟨#[]⟩, 0, 0)
theorem three_sets {w u : World} (h : Below w.heap.size w u) (p q r : Value) : Below w.heap.size w (((u.setCell ⟨w.heap.size, 0, none⟩ p).setCell ⟨w.heap.size, 1, none⟩ q).setCell ⟨w.heap.size, 2, none⟩ r) :=
  ((h.setCell (p := ⟨w.heap.size, 0, none⟩) (Nat.le_refl _) p).setCell (p := ⟨w.heap.size, 1, none⟩) (Nat.le_refl _) q).setCell (p := ⟨w.heap.size, 2, none⟩) (Nat.le_refl _) r
theorem Pop_none {F : Where} {w : World} {hb : Nat} (h : HAt F w hb []) :
    Calls Try.prog 13 #[.pointer (some ⟨hb, 0, none⟩)] w fun e w' => e = .returned (.tuple #[vI zI, .int .i64 5]) ∧ Below w.heap.size w w' := by
  obtain ⟨kb, h1, h2, h3⟩ := h
  have hbl := block_lt h2
  have hbW : Below w.heap.size w (w.alloc (.cells #[.string ⟨#[]⟩, .int .i64 0, .int .i64 0] 27)) := by go_grown
  have h2' := (hbW.block hb hbl).trans h2
  obtain ⟨v, mb, D, hk, _⟩ := h3.grow hbW
  obtain ⟨a, cap, rfl, _⟩ := hk.len
  have k0 := hk.c0
  have k1 := hk.c1
  have cW : (w.alloc (.cells #[.string ⟨#[]⟩, .int .i64 0, .int .i64 0] 27)).cell? ⟨hb, 0, none⟩ = some (.pointer (some ⟨kb, 0, none⟩)) := by simp [World.cell?, h2']
  clear h1 h2 h3 h2' hbW hk
  go_enter Try.func13, Try.ntmps13
  go_wp2_with (first
    | (go_at_call 28; refine (made_calls cW ⟨_, rfl⟩).mono ?_; rintro e w' ⟨rfl, rfl⟩)
    | (go_at_call 30; refine (Len_calls a 0 cap _ _).mono ?_; rintro e w2 ⟨rfl, hb2⟩; have r0 := (hb2.cell (p := ⟨w.heap.size, 0, none⟩) (by simp)).trans (show _ = some (Value.string ⟨#[]⟩) by simp [go_sem]); have r1 := (hb2.cell (p := ⟨w.heap.size, 1, none⟩) (by simp)).trans (show _ = some (Value.int .i64 0) by simp [go_sem]); have r2 := (hb2.cell (p := ⟨w.heap.size, 2, none⟩) (by simp)).trans (show _ = some (Value.int .i64 0) by simp [go_sem]); have f0 := (hb2.frozen (p := ⟨w.heap.size, 0, none⟩) (by simp)).trans (show _ = false by simp [go_sem]); have f1 := (hb2.frozen (p := ⟨w.heap.size, 1, none⟩) (by simp)).trans (show _ = false by simp [go_sem]); have f2 := (hb2.frozen (p := ⟨w.heap.size, 2, none⟩) (by simp)).trans (show _ = false by simp [go_sem])))
  refine bodyPost_ret (v := .tuple #[vI zI, .int .i64 5]) (by simp [results, Try.results13, go_sem, r0, r1, r2, zI]) rfl ⟨rfl, ?_⟩
  exact three_sets (on2 (by go_grown) hb2) _ _ _
theorem Peek_none {F : Where} {w : World} {hb : Nat} (h : HAt F w hb []) :
    Calls Try.prog 12 #[.pointer (some ⟨hb, 0, none⟩)] w fun e w' => e = .returned (.tuple #[vI zI, .int .i64 5]) ∧ Below w.heap.size w w' := by
  obtain ⟨kb, h1, h2, h3⟩ := h
  have hbl := block_lt h2
  have hbW : Below w.heap.size w (w.alloc (.cells #[.string ⟨#[]⟩, .int .i64 0, .int .i64 0] 27)) := by go_grown
  have h2' := (hbW.block hb hbl).trans h2
  obtain ⟨v, mb, D, hk, _⟩ := h3.grow hbW
  obtain ⟨a, cap, rfl, _⟩ := hk.len
  have k0 := hk.c0
  have k1 := hk.c1
  have cW : (w.alloc (.cells #[.string ⟨#[]⟩, .int .i64 0, .int .i64 0] 27)).cell? ⟨hb, 0, none⟩ = some (.pointer (some ⟨kb, 0, none⟩)) := by simp [World.cell?, h2']
  clear h1 h2 h3 h2' hbW hk
  go_enter Try.func12, Try.ntmps12
  go_wp2_with (first
    | (go_at_call 28; refine (made_calls cW ⟨_, rfl⟩).mono ?_; rintro e w' ⟨rfl, rfl⟩)
    | (go_at_call 30; refine (Len_calls a 0 cap _ _).mono ?_; rintro e w2 ⟨rfl, hb2⟩; have r0 := (hb2.cell (p := ⟨w.heap.size, 0, none⟩) (by simp)).trans (show _ = some (Value.string ⟨#[]⟩) by simp [go_sem]); have r1 := (hb2.cell (p := ⟨w.heap.size, 1, none⟩) (by simp)).trans (show _ = some (Value.int .i64 0) by simp [go_sem]); have r2 := (hb2.cell (p := ⟨w.heap.size, 2, none⟩) (by simp)).trans (show _ = some (Value.int .i64 0) by simp [go_sem]); have f0 := (hb2.frozen (p := ⟨w.heap.size, 0, none⟩) (by simp)).trans (show _ = false by simp [go_sem]); have f1 := (hb2.frozen (p := ⟨w.heap.size, 1, none⟩) (by simp)).trans (show _ = false by simp [go_sem]); have f2 := (hb2.frozen (p := ⟨w.heap.size, 2, none⟩) (by simp)).trans (show _ = false by simp [go_sem])))
  refine bodyPost_ret (v := .tuple #[vI zI, .int .i64 5]) (by simp [results, Try.results12, go_sem, r0, r1, r2, zI]) rfl ⟨rfl, ?_⟩
  exact three_sets (on2 (by go_grown) hb2) _ _ _
set_option maxHeartbeats 2000000 in
theorem Peek_some {F : Where} {w : World} {hb : Nat} {L : List It} (h : HAt F w hb L) (h0 : 0 < L.length) :
    Calls Try.prog 12 #[.pointer (some ⟨hb, 0, none⟩)] w fun e w' => e = .returned (.tuple #[vI (at_ L 0), .int .i64 0]) ∧ Below w.heap.size w w' := by
  obtain ⟨kb, h1, h2, h3⟩ := h
  have hbl := block_lt h2
  have hbW : Below w.heap.size w (w.alloc (.cells #[.string ⟨#[]⟩, .int .i64 0, .int .i64 0] 27)) := by go_grown
  have h2' := (hbW.block hb hbl).trans h2
  obtain ⟨v0, mb0, D0, hk0, _⟩ := h3
  have hk := hk0.grow hbW
  have hkl := hk0.lt
  obtain ⟨g, cap, rfl, _, hg, _, _, _, hc⟩ := hk0.sl h0
  have k0 := hk.c0
  have k1 := hk.c1
  have x0 := (hc 0 h0).1.1
  have x1 := (hc 0 h0).1.2.1
  have x2 := (hc 0 h0).1.2.2
  rw [← at_get h0] at x0 x1 x2
  generalize at_ L 0 = x at *
  rw [Nat.zero_mul] at x0 x1 x2
  rw [Nat.zero_add] at x1 x2
  have cW : (w.alloc (.cells #[.string ⟨#[]⟩, .int .i64 0, .int .i64 0] 27)).cell? ⟨hb, 0, none⟩ = some (.pointer (some ⟨kb, 0, none⟩)) := by simp [World.cell?, h2']
  have hL0 : ¬ (L.length : Int) = 0 := by omega
  have hLp : (0 : Int) < (L.length : Int) := by omega
  have HC : Hid (∀ {u : World}, Below (w.alloc (.cells #[.string ⟨#[]⟩, .int .i64 0, .int .i64 0] 27)).heap.size (w.alloc (.cells #[.string ⟨#[]⟩, .int .i64 0, .int .i64 0] 27)) u → (u.cell? ⟨hb, 0, none⟩ = some (.pointer (some ⟨kb, 0, none⟩)) ∧ u.cell? ⟨kb, 0, none⟩ = some (.slice (some ⟨g, 0, none⟩) L.length cap)) ∧ (u.cell? ⟨g, 0, none⟩ = some (.string x.1) ∧ u.cell? ⟨g, 1, none⟩ = some (.int .i64 x.2.1) ∧ u.cell? ⟨g, 2, none⟩ = some (.int .i64 x.2.2))) := by
    intro u hu
    have hb0 := on2 hbW hu
    refine ⟨⟨(hu.cell (by simp; omega)).trans cW, (hu.cell (by simp; omega)).trans k0⟩, (hb0.cell hg).trans x0, (hb0.cell hg).trans x1, (hb0.cell hg).trans x2⟩
  have hgn : ¬ w.heap.size = g := by omega
  have hgn2 : ¬ g = w.heap.size := by omega
  clear h1 h2 hk hk0 h2' hbW hc x0 x1 x2
  go_enter Try.func12, Try.ntmps12
  go_wp2_with (first
    | (go_at_call 28; refine (made_calls cW ⟨_, rfl⟩).mono ?_; rintro e w' ⟨rfl, rfl⟩)
    | (go_at_call 30; refine (Len_calls (some ⟨g, 0, none⟩) L.length cap _ _).mono ?_; rintro e w2 ⟨rfl, hb2⟩; obtain ⟨⟨a0, a1⟩, b0, b1, b2⟩ := HC.out hb2; have r0 := (hb2.cell (p := ⟨w.heap.size, 0, none⟩) (by simp)).trans (show _ = some (Value.string ⟨#[]⟩) by simp [go_sem]); have r1 := (hb2.cell (p := ⟨w.heap.size, 1, none⟩) (by simp)).trans (show _ = some (Value.int .i64 0) by simp [go_sem]); have r2 := (hb2.cell (p := ⟨w.heap.size, 2, none⟩) (by simp)).trans (show _ = some (Value.int .i64 0) by simp [go_sem]); have f0 := (hb2.frozen (p := ⟨w.heap.size, 0, none⟩) (by simp)).trans (show _ = false by simp [go_sem]); have f1 := (hb2.frozen (p := ⟨w.heap.size, 1, none⟩) (by simp)).trans (show _ = false by simp [go_sem]); have f2 := (hb2.frozen (p := ⟨w.heap.size, 2, none⟩) (by simp)).trans (show _ = false by simp [go_sem])))
  refine bodyPost_ret (v := .tuple #[vI x, .int .i64 0]) (by simp [results, Try.results12, go_sem, r0, r1, r2]) rfl ⟨rfl, ?_⟩
  exact three_sets (on2 (by go_grown) hb2) _ _ _
/-- The key is looked up: there. -/
theorem KAt.there {F : Where} {w : World} {kb : Nat} {v : Value} {mb n : Nat} {D : DataW Unit} {L : List It} (h : KAt F w kb v mb n D L) (t : Tells D L) (s : ByteArray) (hs : s.size ≤ 140737488355328) {i : Nat} (hi : i < L.length) (e : (L[i].1.toList == s.toList) = true) :
    Sem.run Try.prog (Instr.lookup 59 (.map (some mb)) (.string s) true) w = .ok (.tuple #[.int .i64 (i : Int), .bool true]) w := by
  obtain ⟨c, hlk, hat⟩ := h.look (s, 0, 0) hs
  have hk : kl L[i] = kl (s, 0, 0) := (kl_iff _ _).2 e
  have hy := t.2.1 i hi
  rw [hk] at hy
  rw [hy.2] at hat
  obtain rfl : (i : Int) = c := by simpa using hat
  rw [hy.1] at hlk
  exact hlk
/-- The key is looked up: not there. -/
theorem KAt.lacks {F : Where} {w : World} {kb : Nat} {v : Value} {mb n : Nat} {D : DataW Unit} {L : List It} (h : KAt F w kb v mb n D L) (t : Tells D L) (s : ByteArray) (hs : s.size ≤ 140737488355328) (e : hasK L s.toList = false) :
    ∃ c, Sem.run Try.prog (Instr.lookup 59 (.map (some mb)) (.string s) true) w = .ok (.tuple #[.int .i64 c, .bool false]) w := by
  obtain ⟨c, hlk, _⟩ := h.look (s, 0, 0) hs
  have hno : Maps.has D (kl (s, 0, 0)) = false := by
    cases hh : Maps.has D (kl (s, 0, 0))
    · rfl
    · obtain ⟨i, hi, e'⟩ := t.2.2 _ hh
      have := hasK_of hi ((kl_iff _ _).1 e')
      rw [e] at this; cases this
  rw [hno] at hlk
  exact ⟨c, hlk⟩
theorem Get_none {F : Where} {w : World} {hb : Nat} {L : List It} (h : HAt F w hb L) (s : ByteArray) (hs : s.size ≤ 140737488355328) (e : hasK L s.toList = false) :
    Calls Try.prog 14 #[.pointer (some ⟨hb, 0, none⟩), .string s] w fun e w' => e = .returned (.tuple #[vI zI, .int .i64 5]) ∧ Below w.heap.size w w' := by
  obtain ⟨kb, h1, h2, h3⟩ := h
  have hbl := block_lt h2
  have hbW : Below w.heap.size w (w.alloc (.cells #[.string ⟨#[]⟩, .int .i64 0, .int .i64 0] 27)) := by go_grown
  have h2' := (hbW.block hb hbl).trans h2
  obtain ⟨v, mb, D, hk, t⟩ := h3.grow hbW
  have k2 := hk.c2
  obtain ⟨c, hlk⟩ := hk.lacks t s hs e
  have cW : (w.alloc (.cells #[.string ⟨#[]⟩, .int .i64 0, .int .i64 0] 27)).cell? ⟨hb, 0, none⟩ = some (.pointer (some ⟨kb, 0, none⟩)) := by simp [World.cell?, h2']
  clear h1 h2 h3 h2' hbW hk t e
  go_enter Try.func14, Try.ntmps14
  go_wp2_with (go_at_call 28; refine (made_calls cW ⟨_, rfl⟩).mono ?_; rintro e w' ⟨rfl, rfl⟩)
  refine bodyPost_ret (v := .tuple #[vI zI, .int .i64 5]) (by simp [results, Try.results14, go_sem, zI]) rfl ⟨rfl, ?_⟩
  go_grown
theorem Drop_none {F : Where} {w : World} {hb : Nat} {L : List It} (h : HAt F w hb L) (s : ByteArray) (hs : s.size ≤ 140737488355328) (e : hasK L s.toList = false) :
    Calls Try.prog 15 #[.pointer (some ⟨hb, 0, none⟩), .string s] w fun e w' => e = .returned (.tuple #[vI zI, .int .i64 5]) ∧ Below w.heap.size w w' := by
  obtain ⟨kb, h1, h2, h3⟩ := h
  have hbl := block_lt h2
  have hbW : Below w.heap.size w (w.alloc (.cells #[.string ⟨#[]⟩, .int .i64 0, .int .i64 0] 27)) := by go_grown
  have h2' := (hbW.block hb hbl).trans h2
  obtain ⟨v, mb, D, hk, t⟩ := h3.grow hbW
  have k2 := hk.c2
  obtain ⟨c, hlk⟩ := hk.lacks t s hs e
  have cW : (w.alloc (.cells #[.string ⟨#[]⟩, .int .i64 0, .int .i64 0] 27)).cell? ⟨hb, 0, none⟩ = some (.pointer (some ⟨kb, 0, none⟩)) := by simp [World.cell?, h2']
  clear h1 h2 h3 h2' hbW hk t e
  go_enter Try.func15, Try.ntmps15
  go_wp2_with (go_at_call 28; refine (made_calls cW ⟨_, rfl⟩).mono ?_; rintro e w' ⟨rfl, rfl⟩)
  refine bodyPost_ret (v := .tuple #[vI zI, .int .i64 5]) (by simp [results, Try.results15, go_sem, zI]) rfl ⟨rfl, ?_⟩
  go_grown
set_option maxHeartbeats 2000000 in
theorem Get_some {F : Where} {w : World} {hb : Nat} {L : List It} (h : HAt F w hb L) (s : ByteArray) (hs : s.size ≤ 140737488355328) (i : Nat) (hi : i < L.length) (e : (L[i].1.toList == s.toList) = true) :
    Calls Try.prog 14 #[.pointer (some ⟨hb, 0, none⟩), .string s] w fun e w' => e = .returned (.tuple #[vI L[i], .int .i64 0]) ∧ Below w.heap.size w w' := by
  obtain ⟨kb, h1, h2, h3⟩ := h
  have hbl := block_lt h2
  have hbW : Below w.heap.size w (w.alloc (.cells #[.string ⟨#[]⟩, .int .i64 0, .int .i64 0] 27)) := by go_grown
  have h2' := (hbW.block hb hbl).trans h2
  obtain ⟨v0, mb, D, hk0, t⟩ := h3
  have hk := hk0.grow hbW
  have k2 := hk.c2
  have hlk := hk.there t s hs hi e
  obtain ⟨g, cap, rfl, _, hg, _, _, _, hc⟩ := hk0.sl (by omega)
  have k0 := hk.c0
  have x0 := (hbW.cell hg).trans (hc i hi).1.1
  have x1 := (hbW.cell hg).trans (hc i hi).1.2.1
  have x2 := (hbW.cell hg).trans (hc i hi).1.2.2
  generalize L[i] = x at *
  have cW : (w.alloc (.cells #[.string ⟨#[]⟩, .int .i64 0, .int .i64 0] 27)).cell? ⟨hb, 0, none⟩ = some (.pointer (some ⟨kb, 0, none⟩)) := by simp [World.cell?, h2']
  have hii : (i : Int) < (L.length : Int) := by omega
  have hi0 : (0 : Int) ≤ (i : Int) := by omega
  have hgn : ¬ w.heap.size = g := by omega
  have hgn2 : ¬ g = w.heap.size := by omega
  clear h1 h2 h2' hbW hk hk0 t hc
  go_enter Try.func14, Try.ntmps14
  go_wp2_with (go_at_call 28; refine (made_calls cW ⟨_, rfl⟩).mono ?_; rintro e w' ⟨rfl, rfl⟩)
  refine bodyPost_ret (v := .tuple #[vI x, .int .i64 0]) (by simp [results, Try.results14, go_sem]) rfl ⟨rfl, ?_⟩
  go_grown
set_option maxHeartbeats 2000000 in
theorem Drop_some {F : Where} {w : World} {hb : Nat} {L : List It} (h : HAt F w hb L) (hF : ∀ b, w.heap.size ≤ b → F b) (hL : L.length < 1000000000000) (s : ByteArray) (hs : s.size ≤ 140737488355328) (i : Nat) (hi : i < L.length) (e : (L[i].1.toList == s.toList) = true) :
    Calls Try.prog 15 #[.pointer (some ⟨hb, 0, none⟩), .string s] w fun e w' => e = .returned (.tuple #[vI (at_ L i), .int .i64 0]) ∧ HAt F w' hb (lastL L i).dropLast ∧ Turns F w w' := by
  obtain ⟨kb, h1, h2, h3⟩ := h
  have hbl := block_lt h2
  have hG : ∀ b, w.heap.size ≤ b → F b ∧ b ≠ hb := fun b hb' => ⟨hF b hb', by omega⟩
  have H3 : Hid (HK (fun b => F b ∧ b ≠ hb) w kb L) := h3
  have hbW : Below w.heap.size w (w.alloc (.cells #[.string ⟨#[]⟩, .int .i64 0, .int .i64 0] 27)) := by go_grown
  have h2' := (hbW.block hb hbl).trans h2
  obtain ⟨v, mb, D, hk, t⟩ := h3.grow hbW
  have k2 := hk.c2
  have hlk := hk.there t s hs hi e
  have cW : (w.alloc (.cells #[.string ⟨#[]⟩, .int .i64 0, .int .i64 0] 27)).cell? ⟨hb, 0, none⟩ = some (.pointer (some ⟨kb, 0, none⟩)) := by simp [World.cell?, h2']
  have HQ : Hid (∀ {w1 : World}, Turns (Nar (fun b => F b ∧ b ≠ hb) w (w.alloc (.cells #[.string ⟨#[]⟩, .int .i64 0, .int .i64 0] 27))) (w.alloc (.cells #[.string ⟨#[]⟩, .int .i64 0, .int .i64 0] 27)) w1 → w1.heap[hb]? = some (.cells #[.pointer (some ⟨kb, 0, none⟩)] 52 (0, 0)) ∧ w1.heap[w.heap.size]? = some (.cells #[.string ⟨#[]⟩, .int .i64 0, .int .i64 0] 27 (0, 0))) := by
    intro w1 ht
    have hsW : (w.alloc (.cells #[.string ⟨#[]⟩, .int .i64 0, .int .i64 0] 27)).heap.size = w.heap.size + 1 := by simp
    refine ⟨(ht.block hb (by omega) (fun hn => hn.elim (fun k => k.1.2 rfl) (fun k => by omega))).trans h2', ?_⟩
    exact (ht.block w.heap.size (by omega) (fun hn => hn.elim (fun k => by omega) (fun k => by omega))).trans (heap_new w _ _ rfl)
  have HW : Hid (Below w.heap.size w (w.alloc (.cells #[.string ⟨#[]⟩, .int .i64 0, .int .i64 0] 27))) := hbW
  clear h2 h3 h2' hbW hk t e
  go_enter Try.func15, Try.ntmps15
  go_wp2_with (first
    | (go_at_call 28; refine (made_calls cW ⟨_, rfl⟩).mono ?_; rintro e w' ⟨rfl, rfl⟩)
    | (go_at_call 31; refine (take_calls (H3.out.nar HW.out) (fun b hb => .inr hb) hL i hi).mono ?_; rintro e w3 ⟨rfl, hk3, ht3⟩; obtain ⟨q1, q2⟩ := HQ.out ht3; have r0 : w3.cell? ⟨w.heap.size, 0, none⟩ = some (.string ⟨#[]⟩) := (by simp [World.cell?, q2]); have r1 : w3.cell? ⟨w.heap.size, 1, none⟩ = some (.int .i64 0) := (by simp [World.cell?, q2]); have r2 : w3.cell? ⟨w.heap.size, 2, none⟩ = some (.int .i64 0) := (by simp [World.cell?, q2]); have f0 : w3.frozen? ⟨w.heap.size, 0, none⟩ = false := (by simp [World.frozen?, q2]); have f1 : w3.frozen? ⟨w.heap.size, 1, none⟩ = false := (by simp [World.frozen?, q2]); have f2 : w3.frozen? ⟨w.heap.size, 2, none⟩ = false := (by simp [World.frozen?, q2])))
  have hs2 := HW.out.size
  have hsW : (w.alloc (.cells #[.string ⟨#[]⟩, .int .i64 0, .int .i64 0] 27)).heap.size = w.heap.size + 1 := by simp
  refine bodyPost_ret (v := .tuple #[vI (at_ L i), .int .i64 0]) (by simp [results, Try.results15, go_sem, r0, r1, r2]) rfl ⟨rfl, ⟨kb, h1, ?_, HK.wide hG hs2 (hk3.on3 (fun hn => hn.elim (fun k => by omega) (fun k => by omega)))⟩, ?_⟩
  · have hne : hb ≠ w.heap.size := by omega
    rw [heap_setCell_other _ ⟨w.heap.size, 2, none⟩ hb _ hne, heap_setCell_other _ ⟨w.heap.size, 1, none⟩ hb _ hne, heap_setCell_other _ ⟨w.heap.size, 0, none⟩ hb _ hne]
    exact q1
  · exact (Turns.weak (Turns.wide hG HW.out ht3) (fun b _ hf => hf.1)).trans (((Turns.set (hF _ (Nat.le_refl _)) _).trans (Turns.set (hF _ (Nat.le_refl _)) _)).trans (Turns.set (hF _ (Nat.le_refl _)) _))
end Go.Proofs.Ytgncpjplofacfaa
