/- Arguments as they come in: texts and slices of structs, read off memory. No condition beyond the row's own reach. The law's 'same' at equal lists; an append to one's own row in the text's order; entries as they come in. Condition: fewer than 1,000,000,000 entries. A heap and what lies beside it; what is pushed, key by key: the last one of each. Plain facts. No condition. The program's queue: a heap of those that are ready, a map of all entries, a map of what names hope for. Plain facts on worlds; against, againstNow, mayBe, made. No condition. Steps of a region that draws its order, in short. Plain facts on the model's walks. No condition. -/
import Derived.Test.YtbmejaailhjgfaaGreatQ01
import Derived.Deep.Slices
import Derived.Deep.Strs
import Derived.SizedLaws
import Derived.Test.YtbmejaailhjgfaaGreatQ11
import Derived.Test.YtbmejaailhjgfaaGreatQ02
import Derived.Test.YtbmejaailhjgfaaGreatQ04
import Derived.Maps.RangeWalk
namespace Go.Proofs.YtbmejaailhjgfaaGreat
open Go.ChangeShapes Go.WideShapes Go.ChangeAt Go.RowKit

/-- What a datum weighs is within reach. -/
def Light {H : Type} (d : DataW H) (t : TypeId) : Prop := ∀ n ∈ d.weights Tryz.prog t, n ≤ 140737488351232
theorem light_all {H : Type} {e : TypeId} : ∀ {ds : List (DataW H)} {d : DataW H}, d ∈ ds → (∀ n ∈ DataW.weightsAll Tryz.prog e ds, n ≤ 140737488351232) → Light d e
  | [], _, h, _ => by simp at h
  | x :: ds, d, h, hw => by
    rcases List.mem_cons.1 h with rfl | h
    · intro n hn; exact hw n (by simp [DataW.weightsAll, hn])
    · exact light_all h (fun n hn => hw n (by simp [DataW.weightsAll, hn]))
theorem light_slice {H : Type} {t e : TypeId} {elems spare : List (DataW H)} (hu : Tryz.prog.underlying t = some (.slice e)) (h : Light (.slice elems spare) t) : elems.length * Tryz.prog.bytesOf e ≤ 140737488351232 ∧ ∀ d ∈ elems, Light d e := by
  unfold Light at h
  simp only [DataW.weights, hu, List.mem_cons, List.mem_append] at h
  refine ⟨?_, fun d hd => light_all hd (fun n hn => h n (.inr (.inl hn)))⟩
  have := h _ (.inl rfl)
  rw [Nat.add_mul] at this
  omega
theorem light_struct {H : Type} {t : TypeId} {fs : Array Field} {parts : List (DataW H)} (hu : Tryz.prog.underlying t = some (.struct fs)) (h : Light (.agg parts) t) {j : Nat} {tj : TypeId} {d : DataW H} (ht : (fs.toList.map (·.type))[j]? = some tj) (hd : parts[j]? = some d) : Light d tj := by
  intro n hn
  refine h n ?_
  simp only [DataW.weights, hu]
  exact DataW.weights_mem_each ht hd n hn
theorem light_arg {H : Type} {ts : List TypeId} {ds : List (DataW H)} (h : (DataW.weightsEach Tryz.prog ts ds).all (· ≤ reachBytes) = true) {j : Nat} {t : TypeId} {d : DataW H} (ht : ts[j]? = some t) (hd : ds[j]? = some d) : Light d t := by
  intro n hn
  have := List.all_eq_true.1 h _ (DataW.weights_mem_each ht hd n hn)
  have hre : reachBytes = 140737488351232 := by decide
  rw [hre] at this
  simpa using this

section
variable {H : Type} {enc : TypeId × Value → H} {W : World} {base n : Nat} {sp : Nat → Bool} {held : Bool}

theorem open_str {v : Value} {x : DataW H × List MemPlace} (h : DataW.trod enc Tryz.prog W base sp held n 9 [v] = some x) (hl : Light x.1 9) : ∃ s : ByteArray, v = .string s ∧ s.size ≤ 140737488355328 := by
  obtain ⟨s, hs, rfl, _⟩ := DataW.trod_string Tryz.underlying9 h
  refine ⟨s, by simpa using hs, ?_⟩
  have := hl s.data.toList.length (by simp [DataW.weights])
  simp at this
  omega

theorem addr_lt {B off : Nat} {spot : Option _} {v : Value} (h : W.cell? ⟨B, off, spot⟩ = some v) : B < W.heap.size := by
  rcases Nat.lt_or_ge B W.heap.size with h2 | h2
  · exact h2
  · simp [World.cell?, Array.getElem?_eq_none h2] at h

theorem getD_range {α : Type} [Inhabited α] (f : Nat → α) (len i : Nat) (h : i < len) : ((List.range len).map f).getD i default = f i := by
  rw [getE _ _ (by simpa using h)]; simp

theorem open_row {α : Type} [Inhabited α] {en : α → List Value} {k bytes : Nat} {ok : α → Prop} {t e : TypeId} (hu : Tryz.prog.underlying t = some (.slice e)) (ck : Tryz.prog.cellsOf e = k) (bk : Tryz.prog.bytesOf e = bytes) (hk : ∀ x, (en x).length = k) (hk0 : 0 < k) (hb1 : 1 ≤ bytes)
    (hE : ∀ {m : Nat} {cs : List Value} {x : DataW H × List MemPlace}, DataW.trod enc Tryz.prog W base sp held m e cs = some x → Light x.1 e → ∃ y : α, cs = en y ∧ ok y)
    {v : Value} {x : DataW H × List MemPlace} (h : DataW.trod enc Tryz.prog W base sp held n t [v] = some x) (hl : Light x.1 t) :
    ∃ (a : Option Addr) (L : List α) (cap : Nat), v = .slice a L.length cap ∧ RowAt en k ok W a L ∧ L.length * bytes ≤ 140737488351232 ∧ (a = none → cap = 0) ∧ L.length ≤ cap := by
  rcases Go.Deep.open_slice hu h with ⟨hv, _⟩ | ⟨a, len, cap, m, nn, D, Pl, hv, _, hlc, _, hm, rfl, hel⟩
  · exact ⟨none, [], 0, by simpa using hv, RowAt.nil _ _, by simp, fun _ => rfl, by simp⟩
  · obtain rfl : v = .slice (some a) len cap := by simpa using hv
    obtain ⟨w1, w2⟩ := light_slice hu hl
    simp only [List.length_map, List.length_range, bk] at w1
    have hlb : len * 1 ≤ len * bytes := Nat.mul_le_mul_left _ hb1
    have hml : len ≤ m := by rw [hm]; split <;> omega
    rw [ck] at hel
    have each : ∀ i, i < len → ∃ y : α, (∀ j u, (en y)[j]? = some u → W.cell? ((a.add (i * k)).add j) = some u) ∧ ok y := fun i hi => by
      obtain ⟨cs', h1, h2⟩ := hel i (by omega)
      obtain ⟨y, rfl, ho⟩ := hE h2 (w2 _ (List.mem_map.2 ⟨i, List.mem_range.2 hi, rfl⟩))
      obtain ⟨_, _, hcell⟩ := World.cells?_some h1
      refine ⟨y, fun j u hj => ?_, ho⟩
      have hjk : j < k := by
        have := (List.getElem?_eq_some_iff.1 hj).1
        rwa [hk] at this
      rw [hcell j hjk, hj]
    obtain ⟨f, hf⟩ := Go.Deep.choose_lt each
    refine ⟨some a, (List.range len).map f, cap, by simp, ⟨by simp; omega, ?_, fun hn => ?_⟩, by simpa using w1, (fun h => by cases h), by simpa using hlc⟩
    · intro s hs
      obtain ⟨i, hi, rfl⟩ := List.mem_map.1 hs
      exact (hf i (List.mem_range.1 hi)).2
    · have hpos : 0 < len := by
        rcases Nat.eq_zero_or_pos len with h0 | h0
        · subst h0; exact absurd rfl hn
        · exact h0
      obtain ⟨B, off, spot⟩ := a
      have hex : ∃ u, (en (f 0))[0]? = some u := by
        cases e : en (f 0) with
        | nil => have := hk (f 0); rw [e] at this; simp at this; omega
        | cons u r => exact ⟨u, rfl⟩
      obtain ⟨u0, hu0⟩ := hex
      have hc0 := (hf 0 hpos).1 0 u0 hu0
      have hsp : spot = none := by
        have := World.cell?_spot hc0
        simpa [Addr.add] using this
      subst hsp
      rw [add_lit, add_lit] at hc0
      refine ⟨B, off, rfl, addr_lt hc0, fun i hi j u hj => ?_⟩
      have hi' : i < len := by simpa using hi
      rw [getD_range f len i hi'] at hj
      have := (hf i hi').1 j u hj
      rwa [add_lit, add_lit] at this
theorem trod_struct4 {t : TypeId} {f0 f1 f2 f3 : Field} {fuel : Nat} {cs : List Value} {x : DataW H × List MemPlace} (ht : Tryz.prog.underlying t = some (.struct #[f0, f1, f2, f3])) (h : DataW.trod enc Tryz.prog W base sp held fuel t cs = some x) :
    ∃ y0 y1 y2 y3 n, x = (.agg [y0.1, y1.1, y2.1, y3.1], y0.2 ++ (y1.2 ++ (y2.2 ++ y3.2))) ∧ cs.length = Tryz.prog.cellsOf t ∧ DataW.trod enc Tryz.prog W base sp held n f0.type ((cs.drop f0.offset).take (Tryz.prog.cellsOf f0.type)) = some y0 ∧
      DataW.trod enc Tryz.prog W base sp held n f1.type ((cs.drop f1.offset).take (Tryz.prog.cellsOf f1.type)) = some y1 ∧ DataW.trod enc Tryz.prog W base sp held n f2.type ((cs.drop f2.offset).take (Tryz.prog.cellsOf f2.type)) = some y2 ∧ DataW.trod enc Tryz.prog W base sp held n f3.type ((cs.drop f3.offset).take (Tryz.prog.cellsOf f3.type)) = some y3 := by
  obtain ⟨xs, n, _, rfl, hl, hlen, hf⟩ := DataW.trod_struct ht h
  match xs, hlen with
  | [y0, y1, y2, y3], _ => exact ⟨y0, y1, y2, y3, n, by simp, hl, by simpa using hf 0 f0 rfl, by simpa using hf 1 f1 rfl, by simpa using hf 2 f2 rfl, by simpa using hf 3 f3 rfl⟩
end
end Go.Proofs.YtbmejaailhjgfaaGreat
namespace Go.Proofs.YtbmejaailhjgfaaGreat
open Go.ChangeShapes Go.WideShapes Go.ChangeAt Go.RowKit Go.Maps
set_option linter.unusedSimpArgs false
set_option maxRecDepth 100000

/-- Entries of two rows stay. -/
def SaS (w : World) (B off C o j : Nat) (x : It) (u : World) : Prop := Below w.heap.size w u ∧ u.cell? ⟨B, off + j * 3, none⟩ = some (.string x.1) ∧ u.cell? ⟨B, off + j * 3 + 1, none⟩ = some (.int .i64 x.2.1) ∧ u.cell? ⟨B, off + j * 3 + 2, none⟩ = some (.int .i64 x.2.2) ∧
  u.cell? ⟨C, o + j * 3, none⟩ = some (.string x.1) ∧ u.cell? ⟨C, o + j * 3 + 1, none⟩ = some (.int .i64 x.2.1) ∧ u.cell? ⟨C, o + j * 3 + 2, none⟩ = some (.int .i64 x.2.2)
/-- An append of entries to one's own row, in the text's order. -/
theorem items_append {ops : Array Oper} {rest : List Oper} {o : Oper} {a : Act} {Q : Exit → Act → World → Prop} {w0 u : World} (hgd : Region.wanted o (yielded ops a.tmps) = true) (s x : Operand)
    (ho : o.op = .call { callee := .builtin .append, args := #[s, x], argTypes := #[88, 88] })
    (v : Value) (A : List It) (hs : a.eval s = v) (hown : Own w0 u 67 3 v A.length (flatE encI A))
    (c : Option Addr) (n capc : Nat) (N : List It) (hn : N.length = n) (hx : a.eval x = .slice c n capc) (hcap : c = none → capc = 0) (hN : RowAt encI 3 okI u c N) (hb : (A.length + N.length) * 32 ≤ 140737488355328)
    (h : ∀ v' u', Own w0 u' 67 3 v' (A ++ N).length (flatE encI (A ++ N)) → u.heap.size ≤ u'.heap.size → wpList Tryz.prog ops Q rest (a.put o.dst v') u') : wpList Tryz.prog ops Q (o :: rest) a u :=
  BigFrame.wpList_want hgd (fun _ hK => append_rowO encI_len encI_one s x 88 67 ho _ 32 infoI Tryz.underlying88 rfl (by decide) (by decide) v A hs hown c n capc N hn hx hcap hN hb (fun v' u' h2 h3 => hK _ _ (h v' u' h2 h3)))
section
variable {H : Type} {enc : TypeId × Value → H} {W : World} {base n : Nat} {sp : Nat → Bool} {held : Bool}
theorem trod_item {cs : List Value} {x : DataW H × List MemPlace} (h : DataW.trod enc Tryz.prog W base sp held n 67 cs = some x) (hl : Light x.1 67) : ∃ y : It, cs = encI y ∧ okI y := by
  obtain ⟨y0, y1, y2, m, rfl, hlen, h0, h1, h2⟩ := Go.Deep.trod_struct3 Tryz.underlying67 h
  have c3 : Tryz.prog.cellsOf 67 = 3 := by kernel_rfl
  have cs1 : Tryz.prog.cellsOf 9 = 1 := by kernel_rfl
  have ci1 : Tryz.prog.cellsOf 3 = 1 := by kernel_rfl
  rw [c3] at hlen
  match cs, hlen with
  | [v0, v1, v2], _ =>
    simp only [cs1, ci1, List.drop_zero, List.drop_succ_cons, List.take_succ_cons, List.take_zero] at h0 h1 h2
    obtain ⟨key, rfl, hk⟩ := open_str h0 (light_struct Tryz.underlying67 hl (j := 0) rfl rfl)
    obtain ⟨d, d1, _, _⟩ := DataW.trod_int Tryz.underlying3 h1
    obtain rfl : v1 = .int .i64 d := by simpa using d1
    obtain ⟨e, e1, _, _⟩ := DataW.trod_int Tryz.underlying3 h2
    obtain rfl : v2 = .int .i64 e := by simpa using e1
    exact ⟨(key, d, e), rfl, hk⟩
theorem open_items {v : Value} {x : DataW H × List MemPlace} (h : DataW.trod enc Tryz.prog W base sp held n 88 [v] = some x) (hl : Light x.1 88) :
    ∃ (a : Option Addr) (L : List It) (cap : Nat), v = .slice a L.length cap ∧ RowAt encI 3 okI W a L ∧ L.length * 32 ≤ 140737488351232 ∧ (a = none → cap = 0) ∧ L.length ≤ cap :=
  open_row Tryz.underlying88 (by kernel_rfl) (by kernel_rfl) encI_len (by omega) (by omega) (fun h1 h2 => trod_item h1 h2) h hl
end
end Go.Proofs.YtbmejaailhjgfaaGreat
namespace Go.Proofs.YtbmejaailhjgfaaGreat
open Go.RowKit Go.Maps
set_option linter.unusedSimpArgs false
set_option maxRecDepth 100000

theorem HAt.kept {F : Where} {w w' : World} {hb : Nat} {L : List It} (h : HAt F w hb L) (k : ∀ b, b < w.heap.size → F b → w'.heap[b]? = w.heap[b]?) : HAt F w' hb L := by
  obtain ⟨kb, h1, h2, v, mb, D, h3, t⟩ := h
  exact ⟨kb, h1, (k hb (block_lt h2) h1).trans h2, v, mb, D, h3.on (fun b hb hf => k b hb hf.1), t⟩
/-- A heap that has come since w0, and blocks beside it. -/
def Hpk (w0 u : World) (hb : Nat) (L : List It) (K : Where) : Prop := ∃ F, HAt F u hb L ∧ ∀ b, F b → w0.heap.size ≤ b ∧ b < u.heap.size ∧ ¬ K b
section
variable {w0 u u' : World} {hb : Nat} {L : List It} {K : Where}
theorem Hpk.new (h : HAt (Fresh w0) u hb L) (hK : ∀ b, ¬ K b) : Hpk w0 u hb L K :=
  ⟨fun b => Fresh w0 b ∧ b < u.heap.size, h.weak (fun _ h1 h2 => ⟨h2, h1⟩), fun b hb => ⟨hb.1, hb.2, hK b⟩⟩
theorem Hpk.grow (h : Hpk w0 u hb L K) (hw : Below u.heap.size u u') : Hpk w0 u' hb L K := by
  obtain ⟨F, h1, h2⟩ := h
  exact ⟨F, h1.grow hw, fun b hb => ⟨(h2 b hb).1, Nat.lt_of_lt_of_le (h2 b hb).2.1 hw.size, (h2 b hb).2.2⟩⟩
/-- Other blocks are to be kept: some of the elder ones, and new ones. -/
theorem Hpk.keep {K' : Where} (h : Hpk w0 u hb L K) (hk : ∀ b, b < u.heap.size → K' b → K b) : Hpk w0 u hb L K' := by
  obtain ⟨F, h1, h2⟩ := h
  exact ⟨F, h1, fun b hb => ⟨(h2 b hb).1, (h2 b hb).2.1, fun q => (h2 b hb).2.2 (hk b (h2 b hb).2.1 q)⟩⟩
/-- One of the blocks beside it has grown. -/
theorem Hpk.grown {r : Option Nat} (h : Hpk w0 u hb L K) (hg : u.grownBy u' r) (hr : ∀ b, r = some b → K b) : Hpk w0 u' hb L K := by
  obtain ⟨F, h1, h2⟩ := h
  refine ⟨F, h1.kept (fun b hb hf => hg.block b hb (fun e => (h2 b hf).2.2 (hr b e.symm))), fun b hb => ⟨(h2 b hb).1, Nat.lt_of_lt_of_le (h2 b hb).2.1 hg.size, (h2 b hb).2.2⟩⟩
theorem Hpk.dk (h : Hpk w0 u hb L K) : DK L := by obtain ⟨F, h, _⟩ := h; exact h.dk
theorem Hpk.ok (h : Hpk w0 u hb L K) : ∀ x ∈ L, okI x := by obtain ⟨F, h, _⟩ := h; exact h.ok
/-- A call that turns the heap alone. -/
theorem Hpk.call {f : Nat} {args : Array Value} {P : Ending → List It → Prop} (h : Hpk w0 u hb L K) (hs : w0.heap.size ≤ u.heap.size) (hK : ∀ b, K b → b < u.heap.size)
    (hc : ∀ F : Where, HAt F u hb L → (∀ b, u.heap.size ≤ b → F b) → Calls Tryz.prog f args u fun e w' => ∃ L', P e L' ∧ HAt F w' hb L' ∧ Turns F u w') :
    Calls Tryz.prog f args u fun e w' => ∃ L', P e L' ∧ Hpk w0 w' hb L' K ∧ Turns (fun b => w0.heap.size ≤ b ∧ ¬ K b) u w' := by
  obtain ⟨F, h1, h2⟩ := h
  refine (hc (fun b => F b ∨ u.heap.size ≤ b) (h1.weak (fun _ _ h => .inl h)) (fun _ h => .inr h)).mono ?_
  rintro e w' ⟨L', p, k1, k2⟩
  have hG : ∀ b, (F b ∨ u.heap.size ≤ b) → w0.heap.size ≤ b ∧ ¬ K b := fun b hb => hb.elim (fun q => ⟨(h2 b q).1, (h2 b q).2.2⟩) (fun q => ⟨Nat.le_trans hs q, fun r => absurd (hK b r) (by omega)⟩)
  exact ⟨L', p, ⟨fun b => (F b ∨ u.heap.size ≤ b) ∧ b < w'.heap.size, k1.weak (fun _ a b => ⟨b, a⟩), fun b hb => ⟨(hG b hb.1).1, hb.2, (hG b hb.1).2⟩⟩, k2.weak (fun b _ hb => hG b hb)⟩
theorem Turns.after (h : Below w0.heap.size w0 u) (k : Turns (fun b => w0.heap.size ≤ b ∧ ¬ K b) u u') : Below w0.heap.size w0 u' := Turns.behind h (k.weak (fun _ _ h => h.1))
/-- A row beside the heap stays. -/
theorem Own.turn {e : TypeId} {size : Nat} {v : Value} {n : Nat} {xs : List Value} (h : Own w0 u e size v n xs) (k : Turns (fun b => w0.heap.size ≤ b ∧ ¬ K b) u u') (hv : ∀ b, v.ownBlock = some b → K b) : Own w0 u' e size v n xs := by
  refine ⟨Turns.after h.1 k, ?_⟩
  obtain ⟨h1, h2 | ⟨g, cap, cur, e1, hB, hg, h3⟩⟩ := h.2
  · exact ⟨h1, .inl h2⟩
  · refine ⟨h1, .inr ⟨g, cap, cur, e1, hB, ?_, h3⟩⟩
    rw [k.block g (block_lt hg) (fun q => q.2 (hv g (by rw [e1]; rfl)))]
    exact hg
theorem Own.blk {e : TypeId} {size : Nat} {v : Value} {n : Nat} {xs : List Value} (h : Own w0 u e size v n xs) {b : Nat} (hb : v.ownBlock = some b) : b < u.heap.size := by
  obtain ⟨h1, ⟨rfl, _⟩ | ⟨g, cap, cur, rfl, hB, hg, h3⟩⟩ := h.2
  · simp [Value.ownBlock] at hb
  · simp [Value.ownBlock] at hb
    subst hb
    exact block_lt hg
theorem Own.other {r : Option Nat} {e : TypeId} {size : Nat} {v : Value} {n : Nat} {xs : List Value} (h : Own w0 u e size v n xs) (hg : u.grownBy u' r) (hb : Below w0.heap.size w0 u') (hv : ∀ b, v.ownBlock = some b → r ≠ some b) : Own w0 u' e size v n xs := by
  refine ⟨hb, ?_⟩
  obtain ⟨h1, h2 | ⟨g, cap, cur, e1, hB, hgc, h3⟩⟩ := h.2
  · exact ⟨h1, .inl h2⟩
  · refine ⟨h1, .inr ⟨g, cap, cur, e1, hB, ?_, h3⟩⟩
    rw [hg.block g (block_lt hgc) (fun e => hv g (by rw [e1]; rfl) e.symm)]
    exact hgc
end
/-- An append to one's own row in the text's order: what it leaves, and where it lies. -/
theorem items_appendL {ops : Array Oper} {rest : List Oper} {o : Oper} {a : Act} {Q : Exit → Act → World → Prop} {w0 u : World} (hgd : Region.wanted o (yielded ops a.tmps) = true) (s x : Operand)
    (ho : o.op = .call { callee := .builtin .append, args := #[s, x], argTypes := #[88, 88] })
    (v : Value) (A : List It) (hs : a.eval s = v) (hown : Own w0 u 67 3 v A.length (flatE encI A))
    (ad : Addr) (n capc : Nat) (N : List It) (hn : N.length = n) (hx : a.eval x = .slice (some ad) n capc) (hN : RowAt encI 3 okI u (some ad) N) (hb : (A.length + N.length) * 32 ≤ 140737488355328)
    (h : ∀ v' u', Own w0 u' 67 3 v' (A ++ N).length (flatE encI (A ++ N)) → u.grownBy u' v.ownBlock → (v'.ownBlock = v.ownBlock ∨ v'.ownBlock = some u.heap.size) → wpList Tryz.prog ops Q rest (a.put o.dst v') u') : wpList Tryz.prog ops Q (o :: rest) a u := by
  subst hn
  refine BigFrame.wpList_want hgd (fun K hK => ?_)
  obtain ⟨i0, hi, hz0, hz1, hz2⟩ := info_parts infoI
  obtain ⟨v', u', hr, h2, h3, h4, h5⟩ := run_append_own_at (P := Tryz.prog) u w0.heap.size 88 o.type 67 i0 _ 3 32 Tryz.underlying88 hi hz0 hz1 hz2 rfl (by decide) v A.length (flatE encI A) hown.2 ad N.length capc (flatE encI N) (flatE_length encI_len N) (flatE_cells encI_len hN) (flatE_one encI_one N) (by unfold maxLen; omega) hb hown.1.size
  unfold Oper.wp execOp
  simp only [ho, resolve, invoke, builtin, Sem.run_bind, Sem.run_pure, Result.andThen_ok, List.map_toArray, List.map_cons, List.map_nil, hs, hx, hr]
  refine hK _ _ (h v' u' ⟨hown.row h3, ?_⟩ h3 h5)
  rw [List.length_append, flatE_append]
  exact h2

/-- Has the entry at place i no key, or one with its key behind it, ahead of place m? -/
def lat (L : List It) (i m : Nat) : Bool := (at_ L i).1.toList.isEmpty || (List.range m).any (fun t => decide (i < t) && ((at_ L t).1.toList == (at_ L i).1.toList))
def lst (L : List It) (j n : Nat) : List It := ((List.range j).filter (fun i => !lat L i n)).map (at_ L)
theorem lst_succ (L : List It) (j n : Nat) : lst L (j + 1) n = if lat L j n then lst L j n else lst L j n ++ [at_ L j] := by
  unfold lst
  rw [List.range_succ, List.filter_append, List.map_append]
  split
  · rename_i h; simp [h]
  · rename_i h; simp [h]
theorem lat_succ (L : List It) (i m : Nat) (h : i < m) : lat L i (m + 1) = (lat L i m || ((at_ L m).1.toList == (at_ L i).1.toList)) := by
  unfold lat
  rw [List.range_succ, List.any_append]
  simp [h, Bool.or_assoc]
theorem lat_start (L : List It) (i : Nat) : lat L i (i + 1) = (at_ L i).1.toList.isEmpty := by
  unfold lat
  have : (List.range (i + 1)).any (fun t => decide (i < t) && ((at_ L t).1.toList == (at_ L i).1.toList)) = false := by
    rw [List.any_eq_false]
    intro t ht
    have : ¬ i < t := by have := List.mem_range.1 ht; omega
    simp [this]
  rw [this, Bool.or_false]
theorem lst_length (L : List It) (j n : Nat) : (lst L j n).length ≤ j := by
  unfold lst
  rw [List.length_map]
  exact Nat.le_trans (List.length_filter_le _ _) (by simp)
theorem lst_ok {L : List It} {j n : Nat} (hj : j ≤ L.length) (h : ∀ x ∈ L, okI x) : ∀ x ∈ lst L j n, okI x := by
  intro x hx
  unfold lst at hx
  obtain ⟨i, hi, rfl⟩ := List.mem_map.1 hx
  have := List.mem_range.1 (List.mem_filter.1 hi).1
  rw [at_get (by omega)]
  exact h _ (List.getElem_mem _)
/-- What one push makes of the entries. -/
def stepK (A : List It) (y : It) : List It := if y.1.toList.isEmpty then A else putK A y
theorem lst_step (L : List It) (m : Nat) : lst L (m + 1) (m + 1) = stepK (lst L m m) (at_ L m) := by
  have hd : lst L m (m + 1) = dropK (lst L m m) (at_ L m).1.toList ∨ ((at_ L m).1.toList.isEmpty = true ∧ lst L m (m + 1) = lst L m m) := by
    cases he : (at_ L m).1.toList.isEmpty with
    | false =>
      refine .inl ?_
      unfold lst dropK
      rw [List.filter_map, List.filter_filter]
      congr 1
      refine List.filter_congr (fun i hi => ?_)
      rw [lat_succ L i m (List.mem_range.1 hi)]
      have : ((at_ L m).1.toList == (at_ L i).1.toList) = ((at_ L i).1.toList == (at_ L m).1.toList) := sameK_symm (at_ L m) (at_ L i)
      rw [this]
      simp [Bool.and_comm]
    | true =>
      refine .inr ⟨rfl, ?_⟩
      unfold lst
      congr 1
      refine List.filter_congr (fun i hi => ?_)
      rw [lat_succ L i m (List.mem_range.1 hi)]
      cases e : ((at_ L m).1.toList == (at_ L i).1.toList) with
      | false => rw [Bool.or_false]
      | true =>
        have e2 : (at_ L i).1.toList.isEmpty = true := by
          rw [← beq_iff_eq.1 e]; exact he
        have : lat L i m = true := by unfold lat; rw [e2]; rfl
        rw [this]; rfl
  rw [lst_succ, lat_start]
  unfold stepK putK
  rcases hd with h | ⟨h1, h2⟩
  · cases he : (at_ L m).1.toList.isEmpty with
    | false => simp [h]
    | true =>
      simp only [if_true]
      unfold lst
      congr 1
      refine List.filter_congr (fun i hi => ?_)
      rw [lat_succ L i m (List.mem_range.1 hi)]
      cases e : ((at_ L m).1.toList == (at_ L i).1.toList) with
      | false => rw [Bool.or_false]
      | true =>
        have e2 : (at_ L i).1.toList.isEmpty = true := by
          rw [← beq_iff_eq.1 e]; exact he
        have : lat L i m = true := by unfold lat; rw [e2]; rfl
        rw [this]; rfl
  · rw [h1, if_pos rfl, if_pos rfl, h2]
theorem putK_perm {A B : List It} (h : A.Perm B) (y : It) : (putK A y).Perm (putK B y) := List.Perm.append_right _ (h.filter _)
/-- Who comes out of a heap comes ahead of all that stay. -/
theorem pop_ahead {A B : List It} (hh : HeapL A) (hd : DK A) (hp : (B ++ [at_ A 0]).Perm A) : ∀ y ∈ B, ahead (at_ A 0) y = true := by
  intro y hy
  have hyA : y ∈ A := hp.mem_iff.1 (List.mem_append_left _ hy)
  obtain ⟨k, hk, rfl⟩ := List.mem_iff_getElem.1 hyA
  have h1 := HeapN.root hh (k + 1) k (by omega) hk
  rw [at_get hk] at h1
  have hd2 := hd.perm hp.symm
  have hne : at_ A 0 ≠ A[k] := by
    intro e
    have := (List.pairwise_append.1 hd2).2.2 _ hy (at_ A 0) (by simp)
    rw [e, sameK_refl] at this
    cases this
  have := ahead_tot hne
  unfold nl at h1
  rw [h1] at this
  cases hq : ahead (at_ A 0) A[k] with
  | true => rfl
  | false => rw [hq] at this; cases this
theorem srt_snoc {A : List It} {x : It} (h : Srt A 0 A.length) (hx : ∀ y ∈ A, nl y x) : Srt (A ++ [x]) 0 (A ++ [x]).length := by
  intro i j _ h2 h3
  simp at h3
  have e : ∀ k, k < A.length → at_ (A ++ [x]) k = at_ A k := fun k hk => by rw [at_get hk, at_get (by simp; omega), List.getElem_append_left hk]
  have e2 : at_ (A ++ [x]) A.length = x := by rw [at_get (by simp)]; simp
  rcases Nat.lt_or_ge j A.length with c | c
  · rw [e i (by omega), e j c]; exact h i j (Nat.zero_le _) h2 c
  · obtain rfl : j = A.length := by omega
    rcases Nat.lt_or_ge i A.length with d | d
    · rw [e i d, e2, at_get d]; exact hx _ (List.getElem_mem d)
    · obtain rfl : i = A.length := by omega
      exact nl_self _
theorem stepK_perm {A B : List It} (h : A.Perm B) (y : It) : (stepK A y).Perm (stepK B y) := by
  unfold stepK
  split
  · exact h
  · exact putK_perm h y
/-- One push, whatever the key. -/
theorem Push_step {w0 u : World} {hb : Nat} {A : List It} {K : Where} (h : Hpk w0 u hb A K) (hs : w0.heap.size ≤ u.heap.size) (hK : ∀ b, K b → b < u.heap.size) (hL : A.length < 1000000000000) (hh : HeapL A) (y : It) (hy : okI y) :
    Calls Tryz.prog 56 #[.pointer (some ⟨hb, 0, none⟩), vI y] u fun e w' => ∃ A', (∃ r c, e = .returned (.tuple #[.bool r, .int .i64 c]) ∧ HeapL A' ∧ A'.Perm (stepK A y)) ∧ Hpk w0 w' hb A' K ∧ Turns (fun b => w0.heap.size ≤ b ∧ ¬ K b) u w' := by
  cases he : y.1.toList.isEmpty with
  | false =>
    refine h.call (P := fun e A' => ∃ r c, e = .returned (.tuple #[.bool r, .int .i64 c]) ∧ HeapL A' ∧ A'.Perm (stepK A y)) hs hK (fun F k1 k2 => ?_)
    refine (Push_any k1 k2 hL hh y hy he).mono ?_
    rintro e w' ⟨L', ⟨rfl, q1, q2⟩, q3, q4⟩
    exact ⟨L', ⟨_, _, rfl, q1, by unfold stepK; rw [he]; exact q2⟩, q3, q4⟩
  | true =>
    obtain ⟨F, k1, k2⟩ := h
    refine (Push_empty k1 y he).mono ?_
    rintro e w' ⟨rfl, hb'⟩
    exact ⟨A, ⟨_, _, rfl, hh, by unfold stepK; rw [he]; exact List.Perm.refl _⟩, Hpk.grow ⟨F, k1, k2⟩ hb', Turns.below hb'⟩
theorem Pop_step {w0 u : World} {hb : Nat} {A : List It} {K : Where} (h : Hpk w0 u hb A K) (hs : w0.heap.size ≤ u.heap.size) (hK : ∀ b, K b → b < u.heap.size) (hL : A.length < 1000000000000) (hh : HeapL A) (h0 : 0 < A.length) :
    Calls Tryz.prog 140 #[.pointer (some ⟨hb, 0, none⟩)] u fun e w' => ∃ A', (e = .returned (.tuple #[vI (at_ A 0), .int .i64 0]) ∧ HeapL A' ∧ (A' ++ [at_ A 0]).Perm A) ∧ Hpk w0 w' hb A' K ∧ Turns (fun b => w0.heap.size ≤ b ∧ ¬ K b) u w' := by
  refine h.call (P := fun e A' => e = .returned (.tuple #[vI (at_ A 0), .int .i64 0]) ∧ HeapL A' ∧ (A' ++ [at_ A 0]).Perm A) hs hK (fun F k1 k2 => ?_)
  refine (HPop_calls k1 k2 hL h0).mono ?_
  rintro e w' ⟨rfl, q1, q2⟩
  have p := lastL_heap hh h0
  exact ⟨_, ⟨rfl, p.1, p.2⟩, q1, q2⟩
theorem Len_step {w0 u : World} {hb : Nat} {A : List It} {K : Where} (h : Hpk w0 u hb A K) : Calls Tryz.prog 139 #[.pointer (some ⟨hb, 0, none⟩)] u fun e w' => e = .returned (.int .i64 (A.length : Int)) ∧ Below u.heap.size u w' := by
  obtain ⟨F, k1, _⟩ := h
  exact HLen_calls k1
theorem All_step {w0 u : World} {hb : Nat} {A : List It} {K : Where} (h : Hpk w0 u hb A K) (hL : A.length < 1000000000) : Calls Tryz.prog 53 #[.pointer (some ⟨hb, 0, none⟩)] u fun e w' => SortedRow u w' A.length e (stabF A) := by
  obtain ⟨F, k1, _⟩ := h
  exact All_calls k1 hL
def lenV : Value → Nat
  | .slice _ n _ => n
  | _ => 0
end Go.Proofs.YtbmejaailhjgfaaGreat
namespace Go.Proofs.YtbmejaailhjgfaaGreat
open Go.RowKit Go.Maps
set_option linter.unusedSimpArgs false
set_option maxRecDepth 100000

/-- What stands for an entry in the heap. -/
def itY (x : WtD) : It := (x.1, x.2.1, x.2.2.1)
/-- An entry in the map. -/
abbrev spC (e : EnD) : Value := .agg #[.int .i64 e.2, .string e.1.1, .int .i64 e.1.2.1, .int .i64 e.1.2.2.1, .int .i64 e.1.2.2.2.1, .int .i64 e.1.2.2.2.2]
abbrev hoC (x : WiD) : Value := .agg #[.string x.2]
abbrev enN (e : EnD) : ByteArray := e.1.1
abbrev zWtY : WtD := (⟨#[]⟩, 0, 0, 0, 0)
/-- Those that are ready, as the heap has them. -/
def rdyY (S : List EnD) : List It := (S.filter (fun e => decide (e.2 = 1))).map (fun e => itY e.1)
theorem rdyY_perm {S S' : List EnD} (h : S'.Perm S) : (rdyY S').Perm (rdyY S) := (h.filter _).map _
/-- An entry as the queue has it. -/
def okE (e : EnD) : Prop := okS e.1.1 ∧ e.1.1.toList.isEmpty = false ∧ (e.2 = 1 ∨ e.2 = 2 ∨ e.2 = 3)
def okW (x : WiD) : Prop := okS x.1 ∧ okS x.2 ∧ x.2.toList.isEmpty = false
/-- A queue, with all that it leads to; its heap has R. -/
structure QG (F : Where) (u : World) (p hb sb nb : Nat) (A R : List It) (S : List EnD) (n : Int) (Ws : List WiD) : Prop where
  box : u.heap[p]? = some (.cells #[.pointer (some ⟨hb, 0, none⟩), .map (some sb), .map (some nb), .int .i64 n] 60 (0, 0))
  heap : HAt (fun b => F b ∧ b ≠ p ∧ b ≠ sb ∧ b ≠ nb) u hb A
  hp : HeapL A
  pm : A.Perm R
  spots : MpL u sb enN spC S
  hopes : MpL u nb Prod.fst hoC Ws
  fp : F p
  fs : F sb
  fn : F nb
  ns : sb ≠ nb
  ok : ∀ e ∈ S, okE e
  okw : ∀ x ∈ Ws, okW x
abbrev QF (F : Where) (u : World) (p hb sb nb : Nat) (A : List It) (S : List EnD) (n : Int) (Ws : List WiD) : Prop := QG F u p hb sb nb A (rdyY S) S n Ws
/-- A queue at p. -/
def QA (F : Where) (u : World) (p : Nat) (S : List EnD) (n : Int) (Ws : List WiD) : Prop := ∃ hb sb nb A, QF F u p hb sb nb A S n Ws
section
variable {F G : Where} {u u' : World} {p hb sb nb : Nat} {A R : List It} {S S' : List EnD} {n : Int} {Ws : List WiD}
theorem QG.lt (h : QG F u p hb sb nb A R S n Ws) : p < u.heap.size := block_lt h.box
theorem QG.nps (h : QG F u p hb sb nb A R S n Ws) : p ≠ sb := fun e => by
  obtain ⟨es, ck, hm⟩ := h.spots.isMap
  rw [← e, h.box] at hm
  cases hm
theorem QG.npn (h : QG F u p hb sb nb A R S n Ws) : p ≠ nb := fun e => by
  obtain ⟨es, ck, hm⟩ := h.hopes.isMap
  rw [← e, h.box] at hm
  cases hm
theorem QG.c0 (h : QG F u p hb sb nb A R S n Ws) : u.cell? ⟨p, 0, none⟩ = some (.pointer (some ⟨hb, 0, none⟩)) := by simp [World.cell?, h.box]
theorem QG.c1 (h : QG F u p hb sb nb A R S n Ws) : u.cell? ⟨p, 1, none⟩ = some (.map (some sb)) := by simp [World.cell?, h.box]
theorem QG.c2 (h : QG F u p hb sb nb A R S n Ws) : u.cell? ⟨p, 2, none⟩ = some (.map (some nb)) := by simp [World.cell?, h.box]
theorem QG.c3 (h : QG F u p hb sb nb A R S n Ws) : u.cell? ⟨p, 3, none⟩ = some (.int .i64 n) := by simp [World.cell?, h.box]
theorem QG.f3 (h : QG F u p hb sb nb A R S n Ws) : u.frozen? ⟨p, 3, none⟩ = false := by simp [World.frozen?, h.box]
/-- Nothing of its blocks has turned. -/
theorem QG.kept (h : QG F u p hb sb nb A R S n Ws) (k : ∀ b, b < u.heap.size → F b → u'.heap[b]? = u.heap[b]?) : QG F u' p hb sb nb A R S n Ws :=
  ⟨(k p h.lt h.fp).trans h.box, h.heap.kept (fun b hb hf => k b hb hf.1), h.hp, h.pm, h.spots.same (k sb h.spots.lt h.fs), h.hopes.same (k nb h.hopes.lt h.fn), h.fp, h.fs, h.fn, h.ns, h.ok, h.okw⟩
theorem QG.on (h : QG F u p hb sb nb A R S n Ws) (hb' : Below u.heap.size u u') : QG F u' p hb sb nb A R S n Ws := h.kept (fun b hb _ => hb'.block b hb)
theorem QG.weak (h : QG F u p hb sb nb A R S n Ws) (k : ∀ b, b < u.heap.size → F b → G b) : QG G u p hb sb nb A R S n Ws :=
  ⟨h.box, h.heap.weak (fun b hb hf => ⟨k b hb hf.1, hf.2⟩), h.hp, h.pm, h.spots, h.hopes, k p h.lt h.fp, k sb h.spots.lt h.fs, k nb h.hopes.lt h.fn, h.ns, h.ok, h.okw⟩
theorem QA.kept (h : QA F u p S n Ws) (k : ∀ b, b < u.heap.size → F b → u'.heap[b]? = u.heap[b]?) : QA F u' p S n Ws := by
  obtain ⟨hb, sb, nb, A, h⟩ := h
  exact ⟨hb, sb, nb, A, h.kept k⟩
theorem QA.on (h : QA F u p S n Ws) (hb' : Below u.heap.size u u') : QA F u' p S n Ws := h.kept (fun b hb _ => hb'.block b hb)
theorem QA.weak (h : QA F u p S n Ws) (k : ∀ b, b < u.heap.size → F b → G b) : QA G u p S n Ws := by
  obtain ⟨hb, sb, nb, A, h⟩ := h
  exact ⟨hb, sb, nb, A, h.weak k⟩
theorem QA.lt (h : QA F u p S n Ws) : p < u.heap.size := by
  obtain ⟨hb, sb, nb, A, h⟩ := h
  exact h.lt
theorem QA.nd (h : QA F u p S n Ws) : (S.map enN).Nodup := by
  obtain ⟨hb, sb, nb, A, h⟩ := h
  exact h.spots.nd
theorem QA.ndw (h : QA F u p S n Ws) : (Ws.map Prod.fst).Nodup := by
  obtain ⟨hb, sb, nb, A, h⟩ := h
  exact h.hopes.nd
theorem QA.ok (h : QA F u p S n Ws) : ∀ e ∈ S, okE e := by
  obtain ⟨hb, sb, nb, A, h⟩ := h
  exact h.ok
theorem QA.okw (h : QA F u p S n Ws) : ∀ x ∈ Ws, okW x := by
  obtain ⟨hb, sb, nb, A, h⟩ := h
  exact h.okw
theorem QA.perm (h : QA F u p S n Ws) (k : S'.Perm S) : QA F u p S' n Ws := by
  obtain ⟨hb, sb, nb, A, h⟩ := h
  exact ⟨hb, sb, nb, A, h.box, h.heap, h.hp, h.pm.trans (rdyY_perm k).symm, h.spots.perm k, h.hopes, h.fp, h.fs, h.fn, h.ns, fun e he => h.ok e (k.mem_iff.1 he), h.okw⟩
/-- The blocks of its heap. -/
abbrev HpB (F : Where) (p sb nb : Nat) : Where := fun b => F b ∧ b ≠ p ∧ b ≠ sb ∧ b ≠ nb
theorem QG.hF (h : QG F u p hb sb nb A R S n Ws) (hF : ∀ b, u.heap.size ≤ b → F b) : ∀ b, u.heap.size ≤ b → HpB F p sb nb b := fun b hb => ⟨hF b hb, by have := h.lt; omega, by have := h.spots.lt; omega, by have := h.hopes.lt; omega⟩
/-- The heap has turned. -/
theorem QG.heaped (h : QG F u p hb sb nb A R S n Ws) {A' R' : List It} (hA : HAt (HpB F p sb nb) u' hb A') (hp' : HeapL A') (hpm : A'.Perm R') (ht : Turns (HpB F p sb nb) u u') : QG F u' p hb sb nb A' R' S n Ws :=
  ⟨(ht.block p h.lt (fun e => e.2.1 rfl)).trans h.box, hA, hp', hpm, h.spots.same (ht.block sb h.spots.lt (fun e => e.2.2.1 rfl)), h.hopes.same (ht.block nb h.hopes.lt (fun e => e.2.2.2 rfl)), h.fp, h.fs, h.fn, h.ns, h.ok, h.okw⟩
/-- The map of entries has turned. -/
theorem QG.spotted (h : QG F u p hb sb nb A R S n Ws) (hm : MpL u' sb enN spC S') (ht : u.mapTurned u' sb) (hok : ∀ e ∈ S', okE e) : QG F u' p hb sb nb A R S' n Ws := by
  have hg := ht.grown
  have kb : ∀ b, b < u.heap.size → b ≠ sb → u'.heap[b]? = u.heap[b]? := fun b hb hn => hg.block b hb (fun e => hn (by simpa using e))
  exact ⟨(kb p h.lt h.nps).trans h.box, h.heap.kept (fun b hb hf => kb b hb hf.2.2.1), h.hp, h.pm, hm, h.hopes.same (kb nb h.hopes.lt (fun e => h.ns e.symm)), h.fp, h.fs, h.fn, h.ns, hok, h.okw⟩
/-- The map of wishes has turned. -/
theorem QG.hoped (h : QG F u p hb sb nb A R S n Ws) {W' : List WiD} (hm : MpL u' nb Prod.fst hoC W') (ht : u.mapTurned u' nb) (hok : ∀ x ∈ W', okW x) : QG F u' p hb sb nb A R S n W' := by
  have hg := ht.grown
  have kb : ∀ b, b < u.heap.size → b ≠ nb → u'.heap[b]? = u.heap[b]? := fun b hb hn => hg.block b hb (fun e => hn (by simpa using e))
  exact ⟨(kb p h.lt h.npn).trans h.box, h.heap.kept (fun b hb hf => kb b hb hf.2.2.2), h.hp, h.pm, h.spots.same (kb sb h.spots.lt h.ns), hm, h.fp, h.fs, h.fn, h.ns, h.ok, hok⟩
end
theorem ymade_calls {u : World} {p : Nat} {v : Value} (h : u.cell? ⟨p, 0, none⟩ = some v) (hv : ∃ kb, v = .pointer (some ⟨kb, 0, none⟩)) : Calls Tryz.prog 36 #[.pointer (some ⟨p, 0, none⟩)] u fun e w' => e = .returned (.bool true) ∧ w' = u := by
  obtain ⟨kb, rfl⟩ := hv
  go_enter Tryz.func36, Tryz.ntmps36
  go_wp2
  go_ret
  exact ⟨rfl, rfl⟩
/-- Is it a tick? -/
def whenY (t : Int) : Bool := decide (0 ≤ t) && decide (t ≤ 1099511627712)
theorem ymay_calls (t : Int) (u : World) : Calls Tryz.prog 62 #[.int .i64 t] u fun e w' => e = .returned (.bool (whenY t)) ∧ w' = u := by
  by_cases h1 : 0 ≤ t
  · by_cases h2 : t ≤ 1099511627712
    · have e : whenY t = true := by unfold whenY; simp [h1, h2]
      rw [e]
      go_enter Tryz.func62, Tryz.ntmps62
      go_wp2
      go_ret
      exact ⟨rfl, rfl⟩
    · have e : whenY t = false := by unfold whenY; simp [h1, h2]
      rw [e]
      go_enter Tryz.func62, Tryz.ntmps62
      go_wp2
      go_ret
      exact ⟨rfl, rfl⟩
  · have e : whenY t = false := by unfold whenY; simp [h1]
    rw [e]
    go_enter Tryz.func62, Tryz.ntmps62
    go_wp2
    go_ret
    exact ⟨rfl, rfl⟩
theorem yagNow_calls {u : World} {p hb : Nat} (h : u.cell? ⟨p, 0, none⟩ = some (.pointer (some ⟨hb, 0, none⟩))) (t : Int) : Calls Tryz.prog 41 #[.pointer (some ⟨p, 0, none⟩), .int .i64 t] u fun e w' => e = .returned (.int .i64 (if whenY t = true then 0 else 2)) ∧ w' = u := by
  cases hb : whenY t with
  | true =>
    have hC := ymay_calls t u
    rw [hb] at hC
    go_enter Tryz.func41, Tryz.ntmps41
    go_wp2_with (first
      | (go_at_call 36; refine (ymade_calls h ⟨_, rfl⟩).mono ?_; rintro e w' ⟨rfl, rfl⟩)
      | (go_at_call 62; refine hC.mono ?_; rintro e w' ⟨rfl, rfl⟩))
    go_ret
    exact ⟨rfl, rfl⟩
  | false =>
    have hC := ymay_calls t u
    rw [hb] at hC
    go_enter Tryz.func41, Tryz.ntmps41
    go_wp2_with (first
      | (go_at_call 36; refine (ymade_calls h ⟨_, rfl⟩).mono ?_; rintro e w' ⟨rfl, rfl⟩)
      | (go_at_call 62; refine hC.mono ?_; rintro e w' ⟨rfl, rfl⟩))
    go_ret
    exact ⟨rfl, rfl⟩
theorem zeroSp (w : World) : (zeroValue 78).run Tryz.prog w = .ok (.agg #[.int .i64 0, .string ⟨#[]⟩, .int .i64 0, .int .i64 0, .int .i64 0, .int .i64 0]) w := by kernel_rfl
theorem fldP (pl a : Int) (x : ByteArray) (b c d : Int) (w : World) : (Instr.field 78 (.agg #[.int .i64 pl, .string x, .int .i64 a, .int .i64 b, .int .i64 c, .int .i64 d]) 0).run Tryz.prog w = .ok (.int .i64 pl) w := by kernel_rfl
theorem fldE (pl a : Int) (x : ByteArray) (b c d : Int) (w : World) : (Instr.field 78 (.agg #[.int .i64 pl, .string x, .int .i64 a, .int .i64 b, .int .i64 c, .int .i64 d]) 1).run Tryz.prog w = .ok (.agg #[.string x, .int .i64 a, .int .i64 b, .int .i64 c, .int .i64 d]) w := by kernel_rfl
/-- What is against an entry of that name. -/
def agY (S : List EnD) (s : ByteArray) : Int := if s.toList.isEmpty = true then 2 else if (fndG enN S s).isSome = true then 6 else 0
theorem place_pos {S : List EnD} (h : ∀ e ∈ S, okE e) {s : ByteArray} {e : EnD} (he : fndG enN S s = some e) : e.2 ≠ 0 := by
  have := (h e (fndG_some he).1).2.2
  omega
set_option maxHeartbeats 4000000 in
theorem yagainst_calls {F : Where} {u : World} {p hb sb nb : Nat} {A : List It} {S : List EnD} {n : Int} {Ws : List WiD} (h : QF F u p hb sb nb A S n Ws) (s : ByteArray) (hs : okS s) : Calls Tryz.prog 33 #[.pointer (some ⟨p, 0, none⟩), .string s] u fun e w' => e = .returned (.int .i64 (agY S s)) ∧ w' = u := by
  have c0 := h.c0
  have c1 := h.c1
  have hl := h.spots.look 57 78 Tryz.underlying57 (zeroSp u) hs
  have hfd := fldP
  have hM := ymade_calls c0 ⟨_, rfl⟩
  cases he : s.toList.isEmpty with
  | true =>
    have hR : Hid (agY S s = 2) := by rw [Hid]; unfold agY; rw [if_pos he]
    clear hl
    go_enter Tryz.func33, Tryz.ntmps33
    go_wp2_with (go_at_call 36; refine hM.mono ?_; rintro e w' ⟨rfl, rfl⟩)
    go_ret
    exact ⟨by rw [hR.out]; rfl, rfl⟩
  | false =>
  cases hf : fndG enN S s with
  | none =>
    have hR : Hid (agY S s = 0) := by rw [Hid]; unfold agY; rw [if_neg (by rw [he]; decide), hf]; rfl
    rw [hf] at hl
    simp only [Option.elim_none] at hl
    clear hf
    go_enter Tryz.func33, Tryz.ntmps33
    go_wp2_with (go_at_call 36; refine hM.mono ?_; rintro e w' ⟨rfl, rfl⟩)
    go_ret
    exact ⟨by rw [hR.out]; rfl, rfl⟩
  | some x =>
    have hR : Hid (agY S s = 6) := by rw [Hid]; unfold agY; rw [if_neg (by rw [he]; decide), hf]; rfl
    have hx := place_pos h.ok hf
    rw [hf] at hl
    obtain ⟨x, pl⟩ := x
    simp only [Option.elim_some, spC] at hx hl
    clear hf
    go_enter Tryz.func33, Tryz.ntmps33
    go_wp2_with (go_at_call 36; refine hM.mono ?_; rintro e w' ⟨rfl, rfl⟩)
    go_ret
    exact ⟨by rw [hR.out]; rfl, rfl⟩
end Go.Proofs.YtbmejaailhjgfaaGreat
namespace Go.Proofs.YtbmejaailhjgfaaGreat
open Go.RowKit
set_option linter.unusedSimpArgs false

section
variable {P : Program} {md : Region.Mode} {ops : Array Oper} {Q : Exit → Act → World → Prop} {S : World → Prop} {oi : Oper} {d fuel : Nat} {listed : Array Bool} {a : Act} {w : World}
/-- Operation i is taken first; whether it runs is said by hy. -/
theorem tq (i : Nat) (v : Value) (hy : YieldsIf P ops S oi v a) (h : wpAnyH P md ops (NoPanic Q) S fuel (listed.setIfInBounds i true) (a.put (some d) v) w)
    (hi : ops[i]? = some oi := by rfl) (hd : oi.dst = some d := by rfl) (hb : (Region.noSelect ops && (Region.free md ops listed i && (Region.ready md ops listed).contains i)) = true := by kernel_rfl) (hS : S w := by assumption) : wpAnyH P md ops (NoPanic Q) S (fuel + 1) listed a w :=
  wpAnyH_take hi (Bool.and_eq_true _ _ ▸ hb).1 (Bool.and_eq_true _ _ ▸ (Bool.and_eq_true _ _ ▸ hb).2).1 (Bool.and_eq_true _ _ ▸ (Bool.and_eq_true _ _ ▸ hb).2).2 (fun _ _ _ h => h) hy hS (hd ▸ h)
/-- Operation i is taken first; it runs. -/
theorem tk (i : Nat) {v : Value} (hy : ∀ u, S u → (execOp a.eval oi).run P u = .ok (.value v) u) (h : wpAnyH P md ops (NoPanic Q) S fuel (listed.setIfInBounds i true) (a.put (some d) v) w)
    (hi : ops[i]? = some oi := by rfl) (hd : oi.dst = some d := by rfl) (hb : (Region.noSelect ops && (Region.free md ops listed i && (Region.ready md ops listed).contains i)) = true := by kernel_rfl) (hw : Region.wanted oi (yielded ops a.tmps) = true := by rfl) (hS : S w := by assumption) : wpAnyH P md ops (NoPanic Q) S (fuel + 1) listed a w :=
  tq i v (.inl ⟨hw, hy⟩) h hi hd hb hS
/-- Operation i is taken first; its guard says no. -/
theorem tn (i : Nat) (h : wpAnyH P md ops (NoPanic Q) S fuel (listed.setIfInBounds i true) (a.put (some d) undef) w)
    (hi : ops[i]? = some oi := by rfl) (hd : oi.dst = some d := by rfl) (hb : (Region.noSelect ops && (Region.free md ops listed i && (Region.ready md ops listed).contains i)) = true := by kernel_rfl) (hw : Region.wanted oi (yielded ops a.tmps) = false := by rfl) (hS : S w := by assumption) : wpAnyH P md ops (NoPanic Q) S (fuel + 1) listed a w :=
  tq i undef (.inr ⟨hw, rfl⟩) h hi hd hb hS
/-- Operation i is taken first; it runs, whatever the world. -/
theorem tp (i : Nat) {v : Value} (h : wpAnyH P md ops (NoPanic Q) S fuel (listed.setIfInBounds i true) (a.put (some d) v) w)
    (hi : ops[i]? = some oi := by rfl) (hd : oi.dst = some d := by rfl) (hb : (Region.noSelect ops && (Region.free md ops listed i && (Region.ready md ops listed).contains i)) = true := by kernel_rfl) (hw : Region.wanted oi (yielded ops a.tmps) = true := by rfl)
    (hy : ∀ u, (execOp a.eval oi).run P u = .ok (.value v) u := by intro u; go_simp; try with_reducible rfl) (hS : S w := by assumption) : wpAnyH P md ops (NoPanic Q) S (fuel + 1) listed a w :=
  tk i (fun u _ => hy u) h hi hd hb hw hS
/-- Operation i alone may come up; it writes slot d. -/
theorem tr (i : Nat) (h : ∀ K' : Act → World → Prop, Shut (∀ v w, S w → (S w → wpAnyH P md ops Q S fuel (listed.setIfInBounds i true) (a.put (some d) v) w) → K' (a.put oi.dst v) w) → if Region.wanted oi (yielded ops a.tmps) = true then Oper.wp P oi a w K' Q else K' (a.put oi.dst undef) w)
    (hi : ops[i]? = some oi := by rfl) (hd : oi.dst = some d := by rfl) (hr : Region.ready md ops listed = [i] := by kernel_rfl) : wpAnyH P md ops Q S (fuel + 1) listed a w :=
  wpAnyH_ready hr (by simp) (AllReadyH.cons hi (fun K' hK => h K' (fun v w h1 h2 => hK.out _ w h1 (fun h3 => hd ▸ h2 h3))) AllReadyH.nil)
/-- Operation i alone may come up; it writes no slot. -/
theorem ts (i : Nat) (h : ∀ K' : Act → World → Prop, Shut (∀ v w, S w → (S w → wpAnyH P md ops Q S fuel (listed.setIfInBounds i true) a w) → K' (a.put oi.dst v) w) → if Region.wanted oi (yielded ops a.tmps) = true then Oper.wp P oi a w K' Q else K' (a.put oi.dst undef) w)
    (hi : ops[i]? = some oi := by rfl) (hd : oi.dst = none := by rfl) (hr : Region.ready md ops listed = [i] := by kernel_rfl) : wpAnyH P md ops Q S (fuel + 1) listed a w :=
  wpAnyH_ready hr (by simp) (AllReadyH.cons hi (fun K' hK => h K' (fun v w h1 h2 => hK.out _ w h1 (fun h3 => by rw [hd]; exact h2 h3))) AllReadyH.nil)
/-- The end of a region. -/
theorem tz (h : Q .normal a w) (hr : Region.ready md ops listed = [] := by kernel_rfl) : wpAnyH P md ops (NoPanic Q) S fuel listed a w := wpAnyH_done hr (NoPanic.normal h) _
/-- Its beginning. -/
theorem t0 {id : Nat} (S : World → Prop) (hS : S w.drew) (h : S w.drew → wpAnyH P .any ops (NoPanic Q) S ops.size (Array.replicate ops.size false) a w.drew) (hm : P.follows .mixedOrders = true := by kernel_rfl) : (Code.region id ops true).wp P Q a w :=
  wp_region_noPanic (wp_region_held_drew hm hS h)
end
end Go.Proofs.YtbmejaailhjgfaaGreat
