/- Calls upon a heap as they come in; a heap, a list beside it and an entry in a box. Plain facts. No condition. -/
import Derived.Test.YtgncpjplofacfaaHPlay
namespace Go.Proofs.Ytgncpjplofacfaa
open Go.ChangeShapes Go.WideShapes Go.ChangeAt Go.RowKit Go.Maps
set_option linter.unusedSimpArgs false

/-- A call: its number, its entry. -/
abbrev Ac := Int × It
def encA (x : Ac) : List Value := [.int .i64 x.1, .string x.2.1, .int .i64 x.2.2.1, .int .i64 x.2.2.2]
theorem encA_len (x : Ac) : (encA x).length = 4 := rfl
def okAc (x : Ac) : Prop := okI x.2
section
variable {H : Type} {enc : TypeId × Value → H} {W : World} {base n : Nat} {sp : Nat → Bool} {held : Bool}
theorem trod_struct2 {t : TypeId} {f0 f1 : Field} {fuel : Nat} {cs : List Value} {x : DataW H × List MemPlace} (ht : Try.prog.underlying t = some (.struct #[f0, f1])) (h : DataW.trod enc Try.prog W base sp held fuel t cs = some x) :
    ∃ y0 y1 n, x = (.agg [y0.1, y1.1], y0.2 ++ y1.2) ∧ cs.length = Try.prog.cellsOf t ∧ DataW.trod enc Try.prog W base sp held n f0.type ((cs.drop f0.offset).take (Try.prog.cellsOf f0.type)) = some y0 ∧
      DataW.trod enc Try.prog W base sp held n f1.type ((cs.drop f1.offset).take (Try.prog.cellsOf f1.type)) = some y1 := by
  obtain ⟨xs, n, _, rfl, hl, hlen, hf⟩ := DataW.trod_struct ht h
  match xs, hlen with
  | [y0, y1], _ => exact ⟨y0, y1, n, by simp, hl, by simpa using hf 0 f0 rfl, by simpa using hf 1 f1 rfl⟩
theorem trod_act {cs : List Value} {x : DataW H × List MemPlace} (h : DataW.trod enc Try.prog W base sp held n 29 cs = some x) (hl : Light x.1 29) : ∃ y : Ac, cs = encA y ∧ okAc y := by
  obtain ⟨y0, y1, m, rfl, hlen, h0, h1⟩ := trod_struct2 Try.underlying29 h
  have c4 : Try.prog.cellsOf 29 = 4 := by kernel_rfl
  have c3 : Try.prog.cellsOf 27 = 3 := by kernel_rfl
  have ci1 : Try.prog.cellsOf 3 = 1 := by kernel_rfl
  rw [c4] at hlen
  match cs, hlen with
  | [v0, v1, v2, v3], _ =>
    simp only [c3, ci1, List.drop_zero, List.drop_succ_cons, List.take_succ_cons, List.take_zero] at h0 h1
    obtain ⟨e, e1, _, _⟩ := DataW.trod_int Try.underlying3 h0
    obtain rfl : v0 = .int .i64 e := by simpa using e1
    obtain ⟨y, hy, hok⟩ := trod_item h1 (light_struct Try.underlying29 hl (j := 1) rfl rfl)
    obtain ⟨rfl, rfl, rfl⟩ : v1 = .string y.1 ∧ v2 = .int .i64 y.2.1 ∧ v3 = .int .i64 y.2.2 := by simpa [encI] using hy
    exact ⟨(e, y), rfl, hok⟩
theorem open_acts {v : Value} {x : DataW H × List MemPlace} (h : DataW.trod enc Try.prog W base sp held n 22 [v] = some x) (hl : Light x.1 22) :
    ∃ (a : Option Addr) (L : List Ac) (cap : Nat), v = .slice a L.length cap ∧ RowAt encA 4 okAc W a L ∧ L.length * 40 ≤ 140737488351232 ∧ (a = none → cap = 0) ∧ L.length ≤ cap :=
  open_row Try.underlying22 (by kernel_rfl) (by kernel_rfl) encA_len (by omega) (by omega) (fun h1 h2 => trod_act h1 h2) h hl
end
theorem RowAt.four {w : World} {a : Option Addr} {L : List Ac} (h : RowAt encA 4 okAc w a L) {i : Nat} (hi : i < L.length) : ∃ B off, a = some ⟨B, off, none⟩ ∧ B < w.heap.size ∧ ∃ (k : Int) (x : It), okI x ∧ w.cell? ⟨B, off + i * 4, none⟩ = some (.int .i64 k) ∧ w.cell? ⟨B, off + i * 4 + 1, none⟩ = some (.string x.1) ∧ w.cell? ⟨B, off + i * 4 + 2, none⟩ = some (.int .i64 x.2.1) ∧ w.cell? ⟨B, off + i * 4 + 3, none⟩ = some (.int .i64 x.2.2) := by
  obtain ⟨B, off, e, hB, hc, ho⟩ := h.get hi
  exact ⟨B, off, e, hB, (L.getD i default).1, (L.getD i default).2, ho, hc 0 _ rfl, hc 1 _ rfl, hc 2 _ rfl, hc 3 _ rfl⟩
/-- Which of the seven calls it is. -/
theorem Among7 (n : Int) : ∃ c : Nat, c < 7 ∧ ∀ w : World, Calls Try.prog 9 #[.int .i64 n, .int .i64 7] w fun e w' => e = .returned (.int .i64 (c : Int)) ∧ w' = w := by
  obtain ⟨r, hr⟩ : ∃ r, IntKind.u64.wrap n = r := ⟨_, rfl⟩
  have hr0 : 0 ≤ r := by rw [← hr]; simp [IntKind.wrap, IntKind.bits, IntKind.signed]; omega
  have h1 : 0 ≤ r % 7 := Int.emod_nonneg _ (by omega)
  have h2 : r % 7 < 7 := Int.emod_lt_of_pos _ (by omega)
  have h3 : r.tmod 7 = r % 7 := Int.tmod_eq_emod_of_nonneg hr0
  refine ⟨(r % 7).toNat, by omega, fun w => ?_⟩
  go_enter Try.func9, Try.ntmps9
  go_wp2
  go_ret
  refine ⟨?_, rfl⟩
  have e : (((r % 7).toNat : Nat) : Int) = r % 7 := Int.toNat_of_nonneg h1
  rw [e]
  first | rfl | (simp [IntKind.wrap, IntKind.bits, IntKind.signed] at *; try omega)
theorem RowAt.turn {F : Where} {w w' : World} {a : Option Addr} {L : List It} (h : RowAt encI 3 okI w a L) (k : Turns F w w') (hf : ∀ b o, a = some ⟨b, o, none⟩ → ¬ F b) : RowAt encI 3 okI w' a L := by
  obtain ⟨h1, h2, h3⟩ := h
  refine ⟨h1, h2, fun hn => ?_⟩
  obtain ⟨B, off, e, hB, hc⟩ := h3 hn
  refine ⟨B, off, e, Nat.lt_of_lt_of_le hB k.size, fun i hi j v hv => ?_⟩
  rw [World.cell?_of_block (w := w) (w' := w') (k.block B hB (hf B off e))]
  exact hc i hi j v hv
/-- The blocks of a list and of a box. -/
def KK (a : Option Addr) (bx : Nat) : Where := fun b => (∃ o, a = some ⟨b, o, none⟩) ∨ b = bx
/-- The same, and a stretch of blocks. -/
def K2 (a : Option Addr) (bx m n : Nat) : Where := fun b => KK a bx b ∨ (m ≤ b ∧ b < n)
/-- An entry in a box. -/
def Bx (u : World) (bx : Nat) (x : It) : Prop := u.heap[bx]? = some (.cells #[.string x.1, .int .i64 x.2.1, .int .i64 x.2.2] 27 (0, 0))
theorem Bx.c {u : World} {bx : Nat} {x : It} (h : Bx u bx x) : u.cell? ⟨bx, 0, none⟩ = some (.string x.1) ∧ u.cell? ⟨bx, 1, none⟩ = some (.int .i64 x.2.1) ∧ u.cell? ⟨bx, 2, none⟩ = some (.int .i64 x.2.2) := by
  unfold Bx at h
  exact ⟨by simp [World.cell?, h], by simp [World.cell?, h], by simp [World.cell?, h]⟩
theorem Bx.f {u : World} {bx : Nat} {x : It} (h : Bx u bx x) : u.frozen? ⟨bx, 0, none⟩ = false ∧ u.frozen? ⟨bx, 1, none⟩ = false ∧ u.frozen? ⟨bx, 2, none⟩ = false := by
  unfold Bx at h
  exact ⟨by simp [World.frozen?, h], by simp [World.frozen?, h], by simp [World.frozen?, h]⟩
theorem Bx.lt {u : World} {bx : Nat} {x : It} (h : Bx u bx x) : bx < u.heap.size := block_lt h
theorem Bx.on {u u' : World} {bx : Nat} {x : It} (h : Bx u bx x) (hb : Below u.heap.size u u') : Bx u' bx x := (hb.block bx h.lt).trans h
theorem Bx.turn {F : Where} {u u' : World} {bx : Nat} {x : It} (h : Bx u bx x) (k : Turns F u u') (hf : ¬ F bx) : Bx u' bx x := (k.block bx h.lt hf).trans h
theorem Bx.new (u : World) (x : It) : Bx (u.alloc (.cells #[.string x.1, .int .i64 x.2.1, .int .i64 x.2.2] 27)) u.heap.size x := heap_new u _ _ rfl
theorem Bx.over {u : World} {bx : Nat} {x : It} (h : Bx u bx x) (y : It) : Bx (((u.setCell ⟨bx, 0, none⟩ (.string y.1)).setCell ⟨bx, 1, none⟩ (.int .i64 y.2.1)).setCell ⟨bx, 2, none⟩ (.int .i64 y.2.2)) bx y := by
  have h1 := heap_setCell_same u bx 0 _ _ (.string y.1) h
  have h2 := heap_setCell_same _ bx 1 _ _ (.int .i64 y.2.1) h1
  have h3 := heap_setCell_same _ bx 2 _ _ (.int .i64 y.2.2) h2
  unfold Bx
  rw [h3]
  simp
/-- How things stand: the heap hb with A's entries, the list l, an entry x in a box. -/
structure St (w u : World) (hb : Nat) (A : List It) (a : Option Addr) (l : List It) (bx : Nat) (x : It) : Prop where
  bw : Below w.heap.size w u
  row : RowAt encI 3 okI u a l
  hp : Hpk w u hb A (KK a bx)
  lt : ∀ b, KK a bx b → b < u.heap.size
  bo : Bx u bx x
section
variable {w u u' : World} {hb : Nat} {A A' : List It} {a : Option Addr} {l : List It} {bx : Nat} {x : It}
theorem St.on (h : St w u hb A a l bx x) (hw : Below u.heap.size u u') : St w u' hb A a l bx x :=
  ⟨on2 h.bw hw, h.row.on hw, h.hp.grow hw, fun b q => Nat.lt_of_lt_of_le (h.lt b q) hw.size, h.bo.on hw⟩
theorem St.turn (h : St w u hb A a l bx x) (k : Turns (fun b => w.heap.size ≤ b ∧ ¬ KK a bx b) u u') (hp : Hpk w u' hb A' (KK a bx)) : St w u' hb A' a l bx x :=
  ⟨Turns.after h.bw k, h.row.turn k (fun _ o e q => q.2 (.inl ⟨o, e⟩)), hp, fun b q => Nat.lt_of_lt_of_le (h.lt b q) k.size, h.bo.turn k (fun q => q.2 (.inr rfl))⟩
/-- Another box, new since then. -/
theorem St.box (h : St w u hb A a l bx x) (y : It) : Hpk w (u.alloc (.cells #[.string y.1, .int .i64 y.2.1, .int .i64 y.2.2] 27)) hb A (fun b => KK a bx b ∨ b = u.heap.size) :=
  (h.hp.keep (K' := fun b => KK a bx b ∨ b = u.heap.size) (fun b q1 q2 => q2.elim (fun q => q) (fun q => by omega))).grow (by go_grown)
/-- Another list, new since then. -/
theorem St.list {l' : List It} {g o : Nat} (h : St w u hb A a l bx x) (hw : Below u.heap.size u u') (hr : RowAt encI 3 okI u' (some ⟨g, o, none⟩) l') (hg : u.heap.size ≤ g) (hg2 : g < u'.heap.size) : St w u' hb A (some ⟨g, o, none⟩) l' bx x := by
  refine ⟨on2 h.bw hw, hr, (h.hp.keep (K' := KK (some ⟨g, o, none⟩) bx) (fun b q1 q2 => ?_)).grow hw, fun b q => ?_, h.bo.on hw⟩
  · rcases q2 with ⟨o', e⟩ | e
    · have : g = b := (Addr.mk.inj (Option.some.inj e)).1
      omega
    · exact .inr e
  · rcases q with ⟨o', e⟩ | e
    · have : g = b := (Addr.mk.inj (Option.some.inj e)).1
      omega
    · rw [e]; exact (h.bo.on hw).lt
end
/-- How things stand between two calls. -/
structure In3 (w : World) (hb : Nat) (A : List It) (a : Option Addr) (l : List It) (u : World) : Prop where
  bw : Below w.heap.size w u
  row : RowAt encI 3 okI u a l
  like : Like l A
  hp : Hpk w u hb A (fun b => ∃ o, a = some ⟨b, o, none⟩)
  lt : ∀ b o, a = some ⟨b, o, none⟩ → b < u.heap.size
theorem In3.st {w u : World} {hb : Nat} {A : List It} {a : Option Addr} {l : List It} (h : In3 w hb A a l u) (x : It) : St w (u.alloc (.cells #[.string x.1, .int .i64 x.2.1, .int .i64 x.2.2] 27)) hb A a l u.heap.size x := by
  have hbW : Below u.heap.size u (u.alloc (.cells #[.string x.1, .int .i64 x.2.1, .int .i64 x.2.2] 27)) := by go_grown
  refine ⟨on2 h.bw hbW, h.row.on hbW, (h.hp.keep (K' := KK a u.heap.size) (fun b q1 q2 => q2.elim (fun q => q) (fun q => by omega))).grow hbW, fun b q => ?_, Bx.new u x⟩
  rcases q with ⟨o, e⟩ | e
  · have := h.lt b o e; simp; omega
  · rw [e]; simp
theorem St.in3 {w u : World} {hb : Nat} {A : List It} {a : Option Addr} {l : List It} {bx : Nat} {x : It} (h : St w u hb A a l bx x) (k : Like l A) : In3 w hb A a l u :=
  ⟨h.bw, h.row, k, h.hp.keep (fun _ _ q => .inl q), fun b o e => h.lt b (.inl ⟨o, e⟩)⟩
/-- What a store into new blocks leaves. -/
theorem In3.turn {w u u' u2 : World} {hb : Nat} {A : List It} {a : Option Addr} {l : List It} {g : Nat} (h : In3 w hb A a l u) (hbl : Below u.heap.size u u') (hg : u.heap.size ≤ g) (k : Turns (fun b => b = g) u' u2) : In3 w hb A a l u2 := by
  have hs := h.bw.size
  have hs2 := hbl.size
  have hs3 := k.size
  have hk : ∀ b, b < u.heap.size → u2.heap[b]? = u.heap[b]? := fun b hb => (k.block b (by omega) (by omega)).trans (hbl.block b hb)
  refine ⟨⟨k.os.trans (hbl.os.trans h.bw.os), k.tape.trans (hbl.tape.trans h.bw.tape), k.output.trans (hbl.output.trans h.bw.output), by omega, fun b hb => (hk b (by omega)).trans (h.bw.block b hb)⟩, (h.row.on hbl).turn k (fun b o e q => ?_), h.like, ?_, fun b o e => by have := h.lt b o e; omega⟩
  · have := h.lt b o e; omega
  · obtain ⟨F, h1, h2⟩ := h.hp
    exact ⟨F, h1.kept (fun b hb _ => hk b hb), fun b hb => ⟨(h2 b hb).1, by have := (h2 b hb).2.1; omega, (h2 b hb).2.2⟩⟩
section
variable {w u u' : World} {hb : Nat} {A A' : List It} {a : Option Addr} {l : List It} {bx : Nat} {x : It} {C : Where}
/-- A call upon the heap, with more blocks beside it. -/
theorem St.turn2 (h : St w u hb A a l bx x) (k : Turns (fun b => w.heap.size ≤ b ∧ ¬ (KK a bx b ∨ C b)) u u') (hp : Hpk w u' hb A' (fun b => KK a bx b ∨ C b)) : St w u' hb A' a l bx x :=
  h.turn (k.weak (fun _ _ q => ⟨q.1, fun r => q.2 (.inl r)⟩)) (hp.keep (fun _ _ q => .inl q))
/-- A block beside it is written. -/
theorem St.wrote {c : Nat} (h : St w u hb A a l bx x) (hp : Hpk w u hb A (fun b => KK a bx b ∨ b = c)) (k : Turns (fun b => b = c) u u') (hc : w.heap.size ≤ c) (hn : ¬ KK a bx c) : St w u' hb A a l bx x := by
  refine ⟨Turns.behind h.bw (k.weak (fun b _ q => by rw [q]; exact hc)), h.row.turn k (fun b o e q => hn (by rw [← q]; exact .inl ⟨o, e⟩)), ?_, fun b q => Nat.lt_of_lt_of_le (h.lt b q) k.size, h.bo.turn k (fun q => hn (.inr q.symm))⟩
  obtain ⟨F, h1, h2⟩ := hp
  exact ⟨F, h1.kept (fun b hb hf => k.block b hb (fun q => (h2 b hf).2.2 (.inr q))), fun b hb => ⟨(h2 b hb).1, Nat.lt_of_lt_of_le (h2 b hb).2.1 k.size, fun q => (h2 b hb).2.2 (.inl q)⟩⟩
/-- The same heap, and another one that came since. -/
theorem St.other {hb' : Nat} {F : Where} (h : St w u hb A' a l bx x) (h1 : HAt F u hb' A) (h2 : ∀ b, F b → w.heap.size ≤ b ∧ b < u.heap.size ∧ ¬ KK a bx b) : St w u hb' A a l bx x :=
  ⟨h.bw, h.row, ⟨F, h1, h2⟩, h.lt, h.bo⟩
theorem Turns.three (u : World) (c : Nat) (p q r : Value) : Turns (fun b => b = c) u (((u.setCell ⟨c, 0, none⟩ p).setCell ⟨c, 1, none⟩ q).setCell ⟨c, 2, none⟩ r) :=
  ((Turns.set (F := fun b => b = c) (p := ⟨c, 0, none⟩) rfl p).trans (Turns.set (F := fun b => b = c) (p := ⟨c, 1, none⟩) rfl q)).trans (Turns.set (F := fun b => b = c) (p := ⟨c, 2, none⟩) rfl r)
/-- The list without its first. -/
theorem St.tail (h : St w u hb A a l bx x) {g o : Nat} (e : a = some ⟨g, o, none⟩) : St w u hb A (some ⟨g, o + 3, none⟩) (l.drop 1) bx x := by
  subst e
  have hr := h.row.drop 1
  rw [add_lit] at hr
  have hk : ∀ b, KK (some ⟨g, o + 3, none⟩) bx b → KK (some ⟨g, o, none⟩) bx b := by
    intro b q
    rcases q with ⟨o', e⟩ | e
    · exact .inl ⟨o, by rw [(Addr.mk.inj (Option.some.inj e)).1]⟩
    · exact .inr e
  exact ⟨h.bw, hr, h.hp.keep (fun b _ q => hk b q), fun b q => h.lt b (hk b q), h.bo⟩
/-- The same, as a slice expression has it. -/
theorem St.tail' (h : St w u hb A a l bx x) {g o c : Nat} (e : a = some ⟨g, o, none⟩) (hc : l.length ≤ c) : St w u hb A (if c = 1 then some ⟨g, o, none⟩ else some ⟨g, o + 3, none⟩) (l.drop 1) bx x := by
  split
  · rename_i h1
    have hn : l.drop 1 = [] := List.drop_eq_nil_of_le (by omega)
    rw [hn, ← e]
    exact ⟨h.bw, RowAt.nil _ _, h.hp, h.lt, h.bo⟩
  · exact h.tail e
end
end Go.Proofs.Ytgncpjplofacfaa
