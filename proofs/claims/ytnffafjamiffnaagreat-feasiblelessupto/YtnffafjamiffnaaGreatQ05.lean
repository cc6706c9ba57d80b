/- Functions of the program, each walked under the conditions that its theorem names. -/
import Derived.Deep.MidRow
import Derived.Maps.OwnOps
import Derived.Maps.OwnSet
import Derived.Test.YtnffafjamiffnaaGreatQ04
set_option linter.unusedSimpArgs false
set_option maxRecDepth 100000
set_option maxHeartbeats 32000000
namespace Go.Proofs.YtnffafjamiffnaaGreat
open Go.RowKit
def Box3 (w : World) (B : Nat) (a b c : Int) : Prop :=
 B < w.heap.size /\ Holds3 w B a b c /\ w.frozen? ⟨B, 0, none⟩ = false /\ w.frozen? ⟨B, 1, none⟩ = false /\ w.frozen? ⟨B, 2, none⟩ = false
def set3 (w : World) (B : Nat) (a b c : Int) : World := ((w.setCell ⟨B, 0, none⟩ (.int .i64 a)).setCell ⟨B, 1, none⟩ (.int .i64 b)).setCell ⟨B, 2, none⟩ (.int .i64 c)
theorem zAE {w : World} {a b : Addr} {v : Value} (h : a ≠ b) : (w.setCell a v).cell? b = w.cell? b := World.cell?_setCell_other (h := h) ..
theorem zCr {w : World} {a : Addr} {v u : Value} (h : w.cell? a = some u) : (w.setCell a v).cell? a = some v := World.cell?_setCell_same (h := h) ..
theorem Box3.on {u u' : World} {B : Nat} {a b c : Int} (h : Box3 u B a b c) (hb : Below u.heap.size u u') : Box3 u' B a b c := by
 obtain ⟨hB, ⟨h0, h1, h2⟩, f0, f1, f2⟩ := h
 exact ⟨Nat.lt_of_lt_of_le hB hb.size, ⟨(hb.cell hB).trans h0, (hb.cell hB).trans h1, (hb.cell hB).trans h2⟩, (hb.frozen hB).trans f0, (hb.frozen hB).trans f1, (hb.frozen hB).trans f2⟩
theorem Box3.new (u : World) (t : TypeId) (a b c : Int) : Box3 (u.alloc (.cells #[.int .i64 a, .int .i64 b, .int .i64 c] t)) u.heap.size a b c :=
 ⟨by simp, ⟨by simp [go_sem], by simp [go_sem], by simp [go_sem]⟩, by simp [go_sem], by simp [go_sem], by simp [go_sem]⟩
theorem Box3.set {u : World} {B : Nat} {a b c : Int} (h : Box3 u B a b c) (x y z : Int) : Box3 (set3 u B x y z) B x y z := by
 obtain ⟨hB, ⟨h0, h1, h2⟩, f0, f1, f2⟩ := h
 have e01 : (⟨B, 0, none⟩ : Addr) ≠ ⟨B, 1, none⟩ := by simp
 have e02 : (⟨B, 0, none⟩ : Addr) ≠ ⟨B, 2, none⟩ := by simp
 have e12 : (⟨B, 1, none⟩ : Addr) ≠ ⟨B, 2, none⟩ := by simp
 unfold set3
 refine ⟨by simpa using hB, ⟨?_, ?_, ?_⟩, by simpa using f0, by simpa using f1, by simpa using f2⟩
 ·rw [zAE e02.symm, zAE e01.symm]
  exact zCr h0
 ·rw [zAE e12.symm]
  exact zCr (by rw [zAE e01]; exact h1)
 ·exact zCr (by rw [zAE e12, zAE e02]; exact h2)
theorem Box3.other {u : World} {B C : Nat} {a b c : Int} (h : Box3 u C a b c) (hne : B ≠ C) (x y z : Int) : Box3 (set3 u B x y z) C a b c := by
 obtain ⟨hB, ⟨h0, h1, h2⟩, f0, f1, f2⟩ := h
 unfold set3
 have e : ∀ i j : Nat, (⟨B, i, none⟩ : Addr) ≠ ⟨C, j, none⟩ := fun i j h => hne (by simpa using congrArg Addr.block h)
 refine ⟨by simpa using hB, ⟨?_, ?_, ?_⟩, by simpa using f0, by simpa using f1, by simpa using f2⟩
 ·rw [zAE (e 2 0), zAE (e 1 0), zAE (e 0 0)]; exact h0
 ·rw [zAE (e 2 1), zAE (e 1 1), zAE (e 0 1)]; exact h1
 ·rw [zAE (e 2 2), zAE (e 1 2), zAE (e 0 2)]; exact h2
theorem zHI {w u : World} {N B : Nat} (h : Below N w u) (hB : N <= B) (x y z : Int) : Below N w (set3 u B x y z) := ((h.setCell hB _).setCell hB _).setCell hB _
def Flat {α : Type} (R : Rep α) : Prop := ∀ (A A' : Where) (w w' : World) (cs : List Value) (x : α), R A w cs x -> R A' w' cs x
theorem RStr.flat : Flat RStr := fun _ _ _ _ _ _ h => h
theorem RInt.flat : Flat RInt := fun _ _ _ _ _ _ h => h
theorem Flat.pair {α β : Type} {R : Rep α} {S : Rep β} (hR : Flat R) (hS : Flat S) : Flat (RPair R S) := by
 rintro A A' w w' cs x ⟨c, d, e, h1, h2⟩
 exact ⟨c, d, e, hR _ _ _ _ _ _ h1, hS _ _ _ _ _ _ h2⟩
theorem Chunks.flat {α : Type} [Inhabited α] {R : Rep α} {k : Nat} (hF : Flat R) {A A' : Where} {u u' : World} {xs : List Value} {L : List α} (h : Chunks R k A u xs L) : Chunks R k A' u' xs L :=
 ⟨h.1, fun i hi => by obtain ⟨cs, h1, h2⟩ := h.2 i hi; exact ⟨cs, hF _ _ _ _ _ _ h1, h2⟩⟩
theorem RLabel.flat : Flat RLabel := Flat.pair RStr.flat RStr.flat
theorem sl_none {α : Type} [Inhabited α] {R : Rep α} {k bytes : Nat} {A : Where} {w : World} {n cap : Nat} {L : List α} (h : SlAt R k bytes A w none n cap L) : n = 0 /\ cap = 0 /\ L = [] := by
 have h0 : cap = 0 := h.2.2.1 rfl
 have h1 := h.2.1
 exact ⟨by omega, h0, List.length_eq_zero_iff.1 (by rw [h.1]; omega)⟩
theorem SlAt.len {α : Type} [Inhabited α] {R : Rep α} {k bytes : Nat} {A : Where} {w : World} {a : Option Addr} {n cap : Nat} {L : List α} (h : SlAt R k bytes A w a n cap L) (hb : 1 <= bytes) : n <= 140737488351232 := by
 have := h.2.2.2.1
 have h2 : n * 1 <= n * bytes := Nat.mul_le_mul_left _ hb
 omega
theorem zC5 : (Tryz.prog.info? 9).map (fun i => (i.zero, i.size, i.bytes)) = some (some (.string ⟨#[]⟩), 1, 16) := by kernel_rfl
theorem zCo : (Tryz.prog.info? 3).map (fun i => (i.zero, i.size, i.bytes)) = some (some (.int .i64 0), 1, 8) := by kernel_rfl
theorem zAn {w w' : World} {B b o : Nat} {c : List Value} (h : w.rangeAt b o c) (hb : Below B w w') (hB : b < B) : w'.rangeAt b o c := fun j v hj => (hb.cell (p := ⟨b, o + j, none⟩) hB).trans (h j v hj)
theorem zA0 {B b : Nat} {a : World} : ∀ {vs : List Value} {o : Nat} {u : World}, Below B a u -> B <= b -> Below B a (u.setCells b o vs)
 | [], _, _, h, _ => h
 | v :: r, o, u, h, hb => by
  rw [World.setCells]
  exact zA0 (h.setCell (p := ⟨b, o, none⟩) hb v) hb
theorem zEA {b : Nat} : ∀ {vs : List Value} {o : Nat} {u : World}, (u.setCells b o vs).heap.size = u.heap.size
 | [], _, _ => rfl
 | v :: r, o, u => by rw [World.setCells, zEA]; simp
theorem zA1 {A : Where} {b : Nat} (h : ¬ A b) : ∀ {vs : List Value} {o : Nat} {u : World}, Kept A u (u.setCells b o vs)
 | [], _, u => Kept.refl A u
 | v :: r, o, u => by
  rw [World.setCells]
  exact (Kept.set (p := ⟨b, o, none⟩) h v).trans (zA1 h)
theorem zE5 {P : Program} {fn : Func} {p : Tmp} {ty : TypeId} (h : fn.results = #[.cell p ty]) (tmps : Array Value) (w : World) (b : Nat) (cs : List Value) (d : TypeDesc)
  (hp : tmps.getD p undef = .pointer (some ⟨b, 0, none⟩)) (hr : w.rangeAt b 0 cs) (hu : P.underlying ty = some d) (hd : d.isRow = true) (hi : (P.info? ty).map (·.size) = some cs.length) :
  (results fn tmps).run P w = .ok (.agg cs.toArray) w := by
 have hp' : tmps[p]?.getD undef = .pointer (some ⟨b, 0, none⟩) := by simpa using hp
 simp [results, h, hp', asAddr, run_loadVar_mid w b 0 ty cs d hr hu hd hi]
theorem zBA {P : Program} {fn : Func} {p q : Tmp} {ty : TypeId} (h : fn.results = #[.cell p ty, .tmp q]) (tmps : Array Value) (w : World) (b : Nat) (cs : List Value) (d : TypeDesc) (y : Value)
  (hp : tmps.getD p undef = .pointer (some ⟨b, 0, none⟩)) (hq : tmps.getD q undef = y) (hr : w.rangeAt b 0 cs) (hu : P.underlying ty = some d) (hd : d.isRow = true) (hi : (P.info? ty).map (·.size) = some cs.length) :
  (results fn tmps).run P w = .ok (.tuple #[.agg cs.toArray, y]) w := by
 have hp' : tmps[p]?.getD undef = .pointer (some ⟨b, 0, none⟩) := by simpa using hp
 have hq' : tmps[q]?.getD undef = y := by simpa using hq
 simp [results, h, hp', hq', asAddr, run_loadVar_mid w b 0 ty cs d hr hu hd hi]
abbrev InfoD := NodeD × List ByteArray × ResD × List Int × List ByteArray
def RInfo : Rep InfoD := RPair RNode (RPair (RSl RStr 1 16) (RPair RRes (RPair (RSl RInt 1 8) (RSl RStr 1 16))))
theorem RInfo.firm : Firm RInfo 15 := Firm.pair RNode.firm (Firm.pair (RSl.firm RStr.firm) (Firm.pair RRes.firm (Firm.pair (RSl.firm RInt.firm) ((RSl.firm RStr.firm)))))
theorem RInfo.out {A : Where} {w : World} {cs : List Value} {x : InfoD} (h : RInfo A w cs x) : ∃ h1 h2 h9 h13 h14 : Hd, cs = [.string x.1.1, .slice h1.1 h1.2.1 h1.2.2, .slice h2.1 h2.2.1 h2.2.2, .bool x.1.2.2.2.1, .int .i64 x.1.2.2.2.2.1.1, .int .i64 x.1.2.2.2.2.1.2.1, .int .i64 x.1.2.2.2.2.1.2.2, .int .i64 x.1.2.2.2.2.2.1, .int .i64 x.1.2.2.2.2.2.2, .slice h9.1 h9.2.1 h9.2.2, .int .i64 x.2.2.1.1, .int .i64 x.2.2.1.2.1, .int .i64 x.2.2.1.2.2, .slice h13.1 h13.2.1 h13.2.2, .slice h14.1 h14.2.1 h14.2.2] /\ x.1.1.size <= 140737488355328 /\ SlAt RLabel 2 32 A w h1.1 h1.2.1 h1.2.2 x.1.2.1 /\ SlAt RTaint 3 40 A w h2.1 h2.2.1 h2.2.2 x.1.2.2.1 /\ SlAt RStr 1 16 A w h9.1 h9.2.1 h9.2.2 x.2.1 /\ SlAt RInt 1 8 A w h13.1 h13.2.1 h13.2.2 x.2.2.2.1 /\ SlAt RStr 1 16 A w h14.1 h14.2.1 h14.2.2 x.2.2.2.2 := by
 obtain ⟨l_0, r_0, q_0, f_0, g_0⟩ := h
 obtain ⟨l_0_0, r_0_0, q_0_0, f_0_0, g_0_0⟩ := f_0
 obtain ⟨e_0_0, s_0_0⟩ := f_0_0
 obtain ⟨l_0_1, r_0_1, q_0_1, f_0_1, g_0_1⟩ := g_0_0
 obtain ⟨a_0_1, n_0_1, c_0_1, e_0_1, s_0_1⟩ := f_0_1
 obtain ⟨l_0_2, r_0_2, q_0_2, f_0_2, g_0_2⟩ := g_0_1
 obtain ⟨a_0_2, n_0_2, c_0_2, e_0_2, s_0_2⟩ := f_0_2
 obtain ⟨l_0_3, r_0_3, q_0_3, f_0_3, g_0_3⟩ := g_0_2
 have e_0_3 := f_0_3
 obtain ⟨l_0_4, r_0_4, q_0_4, f_0_4, g_0_4⟩ := g_0_3
 obtain ⟨l_0_4_0, r_0_4_0, q_0_4_0, f_0_4_0, g_0_4_0⟩ := f_0_4
 have e_0_4_0 := f_0_4_0
 obtain ⟨l_0_4_1, r_0_4_1, q_0_4_1, f_0_4_1, g_0_4_1⟩ := g_0_4_0
 have e_0_4_1 := f_0_4_1
 have e_0_4_2 := g_0_4_1
 obtain ⟨l_0_5, r_0_5, q_0_5, f_0_5, g_0_5⟩ := g_0_4
 have e_0_5 := f_0_5
 have e_0_6 := g_0_5
 obtain ⟨l_1, r_1, q_1, f_1, g_1⟩ := g_0
 obtain ⟨a_1, n_1, c_1, e_1, s_1⟩ := f_1
 obtain ⟨l_2, r_2, q_2, f_2, g_2⟩ := g_1
 obtain ⟨l_2_0, r_2_0, q_2_0, f_2_0, g_2_0⟩ := f_2
 have e_2_0 := f_2_0
 obtain ⟨l_2_1, r_2_1, q_2_1, f_2_1, g_2_1⟩ := g_2_0
 have e_2_1 := f_2_1
 have e_2_2 := g_2_1
 obtain ⟨l_3, r_3, q_3, f_3, g_3⟩ := g_2
 obtain ⟨a_3, n_3, c_3, e_3, s_3⟩ := f_3
 obtain ⟨a_4, n_4, c_4, e_4, s_4⟩ := g_3
 exact ⟨(a_0_1, n_0_1, c_0_1), (a_0_2, n_0_2, c_0_2), (a_1, n_1, c_1), (a_3, n_3, c_3), (a_4, n_4, c_4), by rw [q_0, q_0_0, e_0_0, q_0_1, e_0_1, q_0_2, e_0_2, q_0_3, e_0_3, q_0_4, q_0_4_0, e_0_4_0, q_0_4_1, e_0_4_1, e_0_4_2, q_0_5, e_0_5, e_0_6, q_1, e_1, q_2, q_2_0, e_2_0, q_2_1, e_2_1, e_2_2, q_3, e_3, e_4]; rfl, s_0_0, s_0_1, s_0_2, s_1, s_3, s_4⟩
theorem zDk (a b c x y z : Int) (w : World) : Calls Tryz.prog 79 #[.agg #[.int .i64 a, .int .i64 b, .int .i64 c], .agg #[.int .i64 x, .int .i64 y, .int .i64 z]] w fun e w' => e = .returned (.agg #[.int .i64 (addI a x), .int .i64 (addI b y), .int .i64 (addI c z)]) /\ Below w.heap.size w w' := by
 go_enter Tryz.func79, Tryz.ntmps79
 go_wp2_with fail
 refine (each_plus _ _ _ _ _ _ _).mono ?_
 rintro e w1 ⟨rfl, hb⟩
 have r0 : w1.cell? ⟨w.heap.size + 1 + 1, 0, none⟩ = some (.int .i64 0) := (hb.cell (by simp)).trans (by simp [go_sem])
 have r1 : w1.cell? ⟨w.heap.size + 1 + 1, 1, none⟩ = some (.int .i64 0) := (hb.cell (by simp)).trans (by simp [go_sem])
 have r2 : w1.cell? ⟨w.heap.size + 1 + 1, 2, none⟩ = some (.int .i64 0) := (hb.cell (by simp)).trans (by simp [go_sem])
 have f0 : w1.frozen? ⟨w.heap.size + 1 + 1, 0, none⟩ = false := (hb.frozen (by simp)).trans (by simp [go_sem])
 have f1 : w1.frozen? ⟨w.heap.size + 1 + 1, 1, none⟩ = false := (hb.frozen (by simp)).trans (by simp [go_sem])
 have f2 : w1.frozen? ⟨w.heap.size + 1 + 1, 2, none⟩ = false := (hb.frozen (by simp)).trans (by simp [go_sem])
 have hz : Below w.heap.size w w1 := ((((Below.refl w.heap.size w).alloc (Nat.le_refl _) _).alloc (by simp) _).alloc (by simp; omega) _).trans (hb.mono (by simp; omega))
 clear hb
 go_wp2_with fail
 exact bodyPost_ret (v := .agg #[.int .i64 (addI a x), .int .i64 (addI b y), .int .i64 (addI c z)]) (by simp [results, Tryz.results79, go_sem, r0, r1, r2]) rfl ⟨rfl, ((hz.setCell (by simp; omega) _).setCell (by simp; omega) _).setCell (by simp; omega) _⟩
theorem zFk (a b c x y z : Int) (w : World) : Calls Tryz.prog 191 #[.agg #[.int .i64 a, .int .i64 b, .int .i64 c], .agg #[.int .i64 x, .int .i64 y, .int .i64 z]] w fun e w' => e = .returned (.agg #[.int .i64 (subI a x), .int .i64 (subI b y), .int .i64 (subI c z)]) /\ Below w.heap.size w w' := by
 go_enter Tryz.func191, Tryz.ntmps191
 go_wp2_with fail
 refine (zH9 _ _ _ _ _ _ _).mono ?_
 rintro e w1 ⟨rfl, hb⟩
 have r0 : w1.cell? ⟨w.heap.size + 1 + 1, 0, none⟩ = some (.int .i64 0) := (hb.cell (by simp)).trans (by simp [go_sem])
 have r1 : w1.cell? ⟨w.heap.size + 1 + 1, 1, none⟩ = some (.int .i64 0) := (hb.cell (by simp)).trans (by simp [go_sem])
 have r2 : w1.cell? ⟨w.heap.size + 1 + 1, 2, none⟩ = some (.int .i64 0) := (hb.cell (by simp)).trans (by simp [go_sem])
 have f0 : w1.frozen? ⟨w.heap.size + 1 + 1, 0, none⟩ = false := (hb.frozen (by simp)).trans (by simp [go_sem])
 have f1 : w1.frozen? ⟨w.heap.size + 1 + 1, 1, none⟩ = false := (hb.frozen (by simp)).trans (by simp [go_sem])
 have f2 : w1.frozen? ⟨w.heap.size + 1 + 1, 2, none⟩ = false := (hb.frozen (by simp)).trans (by simp [go_sem])
 have hz : Below w.heap.size w w1 := ((((Below.refl w.heap.size w).alloc (Nat.le_refl _) _).alloc (by simp) _).alloc (by simp; omega) _).trans (hb.mono (by simp; omega))
 clear hb
 go_wp2_with fail
 exact bodyPost_ret (v := .agg #[.int .i64 (subI a x), .int .i64 (subI b y), .int .i64 (subI c z)]) (by simp [results, Tryz.results191, go_sem, r0, r1, r2]) rfl ⟨rfl, ((hz.setCell (by simp; omega) _).setCell (by simp; omega) _).setCell (by simp; omega) _⟩
end Go.Proofs.YtnffafjamiffnaaGreat
namespace Go.Proofs.YtnffafjamiffnaaGreat
open Go.RowKit Go.Maps
structure Turns (F : Where) (w w' : World) : Prop where
 os : w'.os = w.os
 tape : w'.tape = w.tape
 output : w'.output = w.output
 size : w.heap.size <= w'.heap.size
 block : ∀ b, b < w.heap.size -> ¬ F b -> w'.heap[b]? = w.heap[b]?
theorem Turns.refl (F : Where) (w : World) : Turns F w w := ⟨rfl, rfl, rfl, Nat.le_refl _, fun _ _ _ => rfl⟩
theorem Turns.trans {F : Where} {u v w : World} (h : Turns F u v) (k : Turns F v w) : Turns F u w :=
 ⟨k.os.trans h.os, k.tape.trans h.tape, k.output.trans h.output, Nat.le_trans h.size k.size, fun b hb hf => (k.block b (Nat.lt_of_lt_of_le hb h.size) hf).trans (h.block b hb hf)⟩
theorem Turns.below {F : Where} {w w' : World} (h : Below w.heap.size w w') : Turns F w w' := ⟨h.os, h.tape, h.output, h.size, fun b hb _ => h.block b hb⟩
theorem Turns.grown {F : Where} {w w' : World} {row : Option Nat} (hg : w.grownBy w' row) (h : ∀ b, row = some b -> F b) : Turns F w w' :=
 ⟨hg.os, hg.tape, hg.output, hg.size, fun b hb hf => hg.block b hb (fun e => hf (h b e.symm))⟩
theorem Turns.map {F : Where} {w w' : World} {b : Nat} (h : w.mapTurned w' b) (hb : F b) : Turns F w w' := Turns.grown h.grown (fun k e => by cases e; exact hb)
theorem Turns.behind {w0 w w' : World} (h : Below w0.heap.size w0 w) (k : Turns (Fresh w0) w w') : Below w0.heap.size w0 w' :=
 ⟨k.os.trans h.os, k.tape.trans h.tape, k.output.trans h.output, Nat.le_trans h.size k.size, fun b hb => (k.block b (Nat.lt_of_lt_of_le hb h.size) (Fresh.not hb)).trans (h.block b hb)⟩
theorem Turns.weak {F G : Where} {w w' : World} (h : Turns F w w') (k : ∀ b, b < w.heap.size -> F b -> G b) : Turns G w w' :=
 ⟨h.os, h.tape, h.output, h.size, fun b hb hg => h.block b hb (fun hf => hg (k b hb hf))⟩
theorem Turns.kept {F A : Where} {w w' : World} (h : Turns F w w') (k : ∀ b, A b -> b < w.heap.size -> ¬ F b) : Kept A w w' := ⟨h.size, fun b ha hb => h.block b hb (k b ha hb)⟩
end Go.Proofs.YtnffafjamiffnaaGreat
namespace Go.Proofs.YtnffafjamiffnaaGreat
open Go.RowKit
abbrev PlacedD := PodD × List Lab
def RPlaced : Rep PlacedD := RPair RPod (RSl RLabel 2 32)
theorem RPlaced.firm : Firm RPlaced 17 := Firm.pair RPod.firm (RSl.firm RLabel.firm)
abbrev pNear (p : PodD) : List TermD := p.2.2.2.2.2.2.2.2.1
abbrev pApart (p : PodD) : List TermD := p.2.2.2.2.2.2.2.2.2.1
abbrev pLabs (p : PodD) : List Lab := p.2.2.1
def okL (d : Lab) : Prop := d.1.size <= 140737488355328 /\ d.2.size <= 140737488355328
abbrev domL (L : List Lab) (key : ByteArray) : Lab := (key, (getL L key).1)
def atD (L : List Lab) (key : ByteArray) (d : Lab) : Bool := (getL L key).2 && (sEq d.1 key && sEq d.2 (getL L key).1)
def hT (t : TermD) (x : PlacedD) (d : Lab) : Bool := matchL (pLabs x.1) t.1 && atD x.2 t.2 d
def one (b : Bool) : Int := if b = true then 1 else 0
def cT (t : TermD) (A : List PlacedD) (d : Lab) : Int := (A.map (fun x => one (hT t x d))).sum
def hO (P : List Lab) (x : PlacedD) (t : TermD) (d : Lab) : Bool := matchL P t.1 && atD x.2 t.2 d
def cX (P : List Lab) (x : PlacedD) (T : List TermD) (d : Lab) : Int := (T.map (fun t => one (hO P x t d))).sum
def cO (P : List Lab) (A : List PlacedD) (d : Lab) : Int := (A.map (fun x => cX P x (pApart x.1) d)).sum
def eT (t : TermD) (A : List PlacedD) : Bool := !A.any (fun x => matchL (pLabs x.1) t.1 && (getL x.2 t.2).2)
def lackT (P L : List Lab) (A : List PlacedD) (t : TermD) : Bool := !(getL L t.2).2 || (decide (cT t A (domL L t.2) = 0) && !(eT t A && matchL P t.1))
def aparT (L : List Lab) (A : List PlacedD) (t : TermD) : Bool := (getL L t.2).2 && decide (0 < cT t A (domL L t.2))
def othL (P L : List Lab) (A : List PlacedD) (l : Lab) : Bool := decide (0 < cO P A l) && ((getL L l.1).2 && decide (0 < cO P A (domL L l.1)))
def whyN (P : List Lab) (N M : List TermD) (L : List Lab) (A : List PlacedD) : Int :=
 if N.any (lackT P L A) = true then 9 else if M.any (aparT L A) = true then 10 else if L.any (othL P L A) = true then 11 else 0
def othersN (name : ByteArray) (l : List PlacedD) : List PlacedD := l.filter (fun x => !sEq x.1.1 name)
def nearP (p : PodD) (L : List Lab) (l : List PlacedD) : Int := whyN (pLabs p) (pNear p) (pApart p) L (othersN p.1 l)
theorem zBM (b : Bool) : 0 <= one b := by unfold one; split <;> omega
theorem zBP : ∀ (l : List Int), (∀ x ∈ l, 0 <= x) -> 0 <= l.sum
 | [], _ => by simp
 | x :: l, h => by
  have h1 := h x (by simp)
  have h2 := zBP l (fun y hy => h y (by simp [hy]))
  simp only [List.sum_cons]; omega
theorem zDw : ∀ (l : List Int), (∀ x ∈ l, 0 <= x) -> (0 < l.sum ↔ ∃ x ∈ l, 0 < x)
 | [], _ => by simp
 | x :: l, h => by
  have h1 := h x (by simp)
  have h2 := zBP l (fun y hy => h y (by simp [hy]))
  have h3 := zDw l (fun y hy => h y (by simp [hy]))
  simp only [List.sum_cons, List.mem_cons, exists_eq_or_imp]
  rw [<- h3]
  omega
theorem zEU {b : Bool} : 0 < one b ↔ b = true := by unfold one; split <;> simp_all
theorem cT_nonneg (t : TermD) (A : List PlacedD) (d : Lab) : 0 <= cT t A d := zBP _ (fun x hx => by obtain ⟨y, _, rfl⟩ := List.mem_map.1 hx; exact zBM _)
theorem cT_pos (t : TermD) (A : List PlacedD) (d : Lab) : 0 < cT t A d ↔ ∃ x ∈ A, hT t x d = true := by
 unfold cT
 rw [zDw _ (fun x hx => by obtain ⟨y, _, rfl⟩ := List.mem_map.1 hx; exact zBM _)]
 constructor
 ·rintro ⟨x, hx, hp⟩
  obtain ⟨y, hy, rfl⟩ := List.mem_map.1 hx
  exact ⟨y, hy, zEU.1 hp⟩
 ·rintro ⟨y, hy, hp⟩
  exact ⟨_, List.mem_map.2 ⟨y, hy, rfl⟩, zEU.2 hp⟩
theorem cX_nonneg (P : List Lab) (x : PlacedD) (T : List TermD) (d : Lab) : 0 <= cX P x T d := zBP _ (fun x hx => by obtain ⟨y, _, rfl⟩ := List.mem_map.1 hx; exact zBM _)
theorem cX_pos (P : List Lab) (x : PlacedD) (T : List TermD) (d : Lab) : 0 < cX P x T d ↔ ∃ t ∈ T, hO P x t d = true := by
 unfold cX
 rw [zDw _ (fun x hx => by obtain ⟨y, _, rfl⟩ := List.mem_map.1 hx; exact zBM _)]
 constructor
 ·rintro ⟨x, hx, hp⟩
  obtain ⟨y, hy, rfl⟩ := List.mem_map.1 hx
  exact ⟨y, hy, zEU.1 hp⟩
 ·rintro ⟨y, hy, hp⟩
  exact ⟨_, List.mem_map.2 ⟨y, hy, rfl⟩, zEU.2 hp⟩
theorem cO_pos (P : List Lab) (A : List PlacedD) (d : Lab) : 0 < cO P A d ↔ ∃ x ∈ A, ∃ t ∈ pApart x.1, hO P x t d = true := by
 unfold cO
 rw [zDw _ (fun x hx => by obtain ⟨y, _, rfl⟩ := List.mem_map.1 hx; exact cX_nonneg _ _ _ _)]
 constructor
 ·rintro ⟨x, hx, hp⟩
  obtain ⟨y, hy, rfl⟩ := List.mem_map.1 hx
  exact ⟨y, hy, (cX_pos _ _ _ _).1 hp⟩
 ·rintro ⟨y, hy, hp⟩
  exact ⟨_, List.mem_map.2 ⟨y, hy, rfl⟩, (cX_pos _ _ _ _).2 hp⟩
theorem zES {L : List Lab} {key : ByteArray} {d : Lab} : atD L key d = true ↔ (getL L key).2 = true /\ d = domL L key := by
 unfold atD
 rw [Bool.and_eq_true, Bool.and_eq_true, zA7, zA7]
 constructor
 ·rintro ⟨h1, h2, h3⟩; exact ⟨h1, Prod.ext h2 h3⟩
 ·rintro ⟨h1, rfl⟩; exact ⟨h1, rfl, rfl⟩
theorem zGj {L : List Lab} {key : ByteArray} (h : (getL L key).2 = true) : domL L key ∈ L := by
 unfold domL getL at *
 cases e : L.find? (fun x => sEq x.1 key) with
 | none => rw [e] at h; cases h
 | some x =>
  have h1 := List.find?_some e
  have h2 := List.mem_of_find?_eq_some e
  rw [zA7] at h1
  subst h1
  exact h2
theorem eT_iff {t : TermD} {A : List PlacedD} (ht : t.2.size <= 140737488355328) (hA : ∀ x ∈ A, ∀ l ∈ x.2, okL l) : eT t A = true ↔ ∀ d, okL d -> cT t A d = 0 := by
 unfold eT
 rw [Bool.not_eq_true', List.any_eq_false]
 constructor
 ·intro h d _
  have h1 := cT_nonneg t A d
  rcases Int.lt_or_le 0 (cT t A d) with h2 | h2
  ·obtain ⟨x, hx, hh⟩ := (cT_pos _ _ _).1 h2
   unfold hT at hh
   rw [Bool.and_eq_true, zES] at hh
   exact absurd (by rw [Bool.and_eq_true]; exact ⟨hh.1, hh.2.1⟩) (h x hx)
  ·omega
 ·intro h x hx hh
  rw [Bool.and_eq_true] at hh
  have h2 : 0 < cT t A (domL x.2 t.2) := (cT_pos _ _ _).2 ⟨x, hx, by unfold hT; rw [Bool.and_eq_true, zES]; exact ⟨hh.1, hh.2, rfl⟩⟩
  have h3 := h (domL x.2 t.2) ⟨ht, (hA x hx _ (zGj hh.2)).2⟩
  omega
def StrsAt (w : World) (a : Option Addr) (V : List ByteArray) : Prop :=
 V.length <= 140737488355328 /\ (∀ s ∈ V, s.size <= 140737488355328) /\ (V ≠ [] -> ∃ B off, a = some ⟨B, off, none⟩ /\ B < w.heap.size /\ ∀ i, i < V.length -> w.cell? ⟨B, off + i, none⟩ = some (.string (V.getD i default)))
def LabsAt (w : World) (a : Option Addr) (L : List Lab) : Prop :=
 L.length <= 140737488355328 /\ (∀ x ∈ L, x.1.size <= 140737488355328 /\ x.2.size <= 140737488355328) /\ (L ≠ [] -> ∃ B off, a = some ⟨B, off, none⟩ /\ B < w.heap.size /\ ∀ i, i < L.length -> w.cell? ⟨B, off + i * 2, none⟩ = some (.string (L.getD i default).1) /\ w.cell? ⟨B, off + i * 2 + 1, none⟩ = some (.string (L.getD i default).2))
def AsksAt (w : World) (a : Option Addr) (R : List Ask) : Prop :=
 R.length <= 140737488355328 /\ (∀ x ∈ R, x.key.size <= 140737488355328) /\ (R ≠ [] -> ∃ B off, a = some ⟨B, off, none⟩ /\ B < w.heap.size /\ ∀ i, i < R.length -> w.cell? ⟨B, off + i * 3, none⟩ = some (.string (R.getD i default).key) /\ w.cell? ⟨B, off + i * 3 + 1, none⟩ = some (.int .i64 (R.getD i default).op) /\
  ∃ a' cap', w.cell? ⟨B, off + i * 3 + 2, none⟩ = some (.slice a' (R.getD i default).vals.length cap') /\ StrsAt w a' (R.getD i default).vals)
theorem StrsAt.on {w w' : World} {a : Option Addr} {V : List ByteArray} (h : StrsAt w a V) (hb : Below w.heap.size w w') : StrsAt w' a V := by
 obtain ⟨h1, h2, h3⟩ := h
 refine ⟨h1, h2, fun hn => ?_⟩
 obtain ⟨B, off, rfl, hB, hc⟩ := h3 hn
 exact ⟨B, off, rfl, Nat.lt_of_lt_of_le hB hb.size, fun i hi => (hb.cell hB).trans (hc i hi)⟩
theorem LabsAt.on {w w' : World} {a : Option Addr} {L : List Lab} (h : LabsAt w a L) (hb : Below w.heap.size w w') : LabsAt w' a L := by
 obtain ⟨h1, h2, h3⟩ := h
 refine ⟨h1, h2, fun hn => ?_⟩
 obtain ⟨B, off, rfl, hB, hc⟩ := h3 hn
 exact ⟨B, off, rfl, Nat.lt_of_lt_of_le hB hb.size, fun i hi => ⟨(hb.cell hB).trans (hc i hi).1, (hb.cell hB).trans (hc i hi).2⟩⟩
theorem StrsAt.get {w : World} {a : Option Addr} {V : List ByteArray} (h : StrsAt w a V) {k : Nat} (hk : k < V.length) : ∃ B off, a = some ⟨B, off, none⟩ /\ B < w.heap.size /\ w.cell? ⟨B, off + k, none⟩ = some (.string (V.getD k default)) /\ (V.getD k default).size <= 140737488355328 := by
 obtain ⟨h1, h2, h3⟩ := h
 obtain ⟨B, off, rfl, hB, hc⟩ := h3 (by intro e; rw [e] at hk; simp at hk)
 refine ⟨B, off, rfl, hB, hc k hk, h2 _ ?_⟩
 rw [List.getD_eq_getElem?_getD, List.getElem?_eq_getElem hk]
 exact List.getElem_mem hk
theorem LabsAt.get {w : World} {a : Option Addr} {L : List Lab} (h : LabsAt w a L) {k : Nat} (hk : k < L.length) : ∃ B off, a = some ⟨B, off, none⟩ /\ B < w.heap.size /\ w.cell? ⟨B, off + k * 2, none⟩ = some (.string (L.getD k default).1) /\ w.cell? ⟨B, off + k * 2 + 1, none⟩ = some (.string (L.getD k default).2) /\ (L.getD k default).1.size <= 140737488355328 /\ (L.getD k default).2.size <= 140737488355328 := by
 obtain ⟨h1, h2, h3⟩ := h
 obtain ⟨B, off, rfl, hB, hc⟩ := h3 (by intro e; rw [e] at hk; simp at hk)
 refine ⟨B, off, rfl, hB, (hc k hk).1, (hc k hk).2, h2 _ ?_⟩
 rw [List.getD_eq_getElem?_getD, List.getElem?_eq_getElem hk]
 exact List.getElem_mem hk
theorem AsksAt.get {w : World} {a : Option Addr} {R : List Ask} (h : AsksAt w a R) {k : Nat} (hk : k < R.length) : ∃ B off, a = some ⟨B, off, none⟩ /\ B < w.heap.size /\ w.cell? ⟨B, off + k * 3, none⟩ = some (.string (R.getD k default).key) /\ w.cell? ⟨B, off + k * 3 + 1, none⟩ = some (.int .i64 (R.getD k default).op) /\
  (∃ a' cap', w.cell? ⟨B, off + k * 3 + 2, none⟩ = some (.slice a' (R.getD k default).vals.length cap') /\ StrsAt w a' (R.getD k default).vals) /\ (R.getD k default).key.size <= 140737488355328 := by
 obtain ⟨h1, h2, h3⟩ := h
 obtain ⟨B, off, rfl, hB, hc⟩ := h3 (by intro e; rw [e] at hk; simp at hk)
 refine ⟨B, off, rfl, hB, (hc k hk).1, (hc k hk).2.1, (hc k hk).2.2, h2 _ ?_⟩
 rw [List.getD_eq_getElem?_getD, List.getElem?_eq_getElem hk]
 exact List.getElem_mem hk
theorem ret_tb {x y : Tnt} {b c : Bool} (h : x = y /\ b = c) : Ending.returned (.tuple #[.agg #[.string x.1, .string x.2.1, .int .i64 x.2.2], .bool b]) = .returned (.tuple #[.agg #[.string y.1, .string y.2.1, .int .i64 y.2.2], .bool c]) := by rw [h.1, h.2]
theorem keptT_no {L : List Tnt} {B : List Bear} (h : ∀ j, j < L.length -> openT 1 B (L.getD j default) = false) : keptT L B = (default, false) := by
 unfold keptT; rw [find_no h]
theorem keptT_yes {L : List Tnt} {B : List Bear} {k : Nat} (hk : k < L.length) (h : ∀ j, j < k -> openT 1 B (L.getD j default) = false) (hy : openT 1 B (L.getD k default) = true) : keptT L B = (L.getD k default, true) := by
 unfold keptT; rw [find_yes hk h hy]
theorem zH0 (a : Option Addr) (cap : Nat) (L : List Tnt) (b : Option Addr) (capb : Nat) (B : List Bear) (w : World) (hL : Hid (TntsAt w a L)) (hB : Hid (BearsAt w b B)) :
  Calls Tryz.prog 192 #[.slice a L.length cap, .slice b B.length capb] w fun e w' => e = .returned (.tuple #[.agg #[.string (keptT L B).1.1, .string (keptT L B).1.2.1, .int .i64 (keptT L B).1.2.2], .bool (keptT L B).2]) /\ Below w.heap.size w w' := by
 have hb0 : Below w.heap.size w (w.alloc (.cells #[.string ⟨#[]⟩, .string ⟨#[]⟩, .int .i64 0] 156)) := by go_grown
 have hD := BoxT.new w 156 (⟨#[]⟩, ⟨#[]⟩, 0)
 have hL' : Hid (∀ {u : World}, Below w.heap.size w u -> TntsAt u a L) := fun h => hL.out.on h
 have hU := zEH 1 b capb B (w.alloc (.cells #[.string ⟨#[]⟩, .string ⟨#[]⟩, .int .i64 0] 156)) (hB.out.on hb0)
 clear hL hB
 go_enter Tryz.func192, Tryz.ntmps192
 go_wp2_with fail
 refine hU.mono ?_
 rintro e w1 ⟨lb, rfl, hP, hb1⟩
 have hI := zEg a cap L w1 (hL'.out (on2 hb0 hb1)) (openT 1 B) 225 lb enters37 hP
 clear hU hP
 go_wp2_with fail
 refine hI.mono ?_
 rintro e w2 ⟨h, hb2⟩
 have hb2' := on2 (on2 hb0 hb1) hb2
 obtain ⟨hDl, ⟨c0, c1, c2⟩, f0, f1, f2⟩ := hD.on (on2 hb1 hb2)
 clear hI hb2 hb1 hb0 hD
 rcases h with ⟨i, hi, hy, hn, rfl⟩ | ⟨hn, rfl⟩
 ·have HK : Hid (keptT L B = (L.getD i default, true)) := keptT_yes hi hn hy
  obtain ⟨BB, off, rfl, hBB, d0, d1, d2, _⟩ := TntsAt.get (hL'.out hb2') hi
  have hBn : Hid (BB < w.heap.size) := by
   have := TntsAt.get (hL'.out (Below.refl _ w)) hi
   obtain ⟨B2, off2, e2, hB2, _⟩ := this
   obtain ⟨rfl, _⟩ : BB = B2 /\ off = off2 := by simpa using e2
   exact hB2
  clear hy hn hL'
  generalize L.getD i default = x at HK d0 d1 d2
  have hne : BB ≠ w.heap.size := by have := hBn.out; omega
  go_wp2_with fail
  refine bodyPost_ret (v := .tuple #[.agg #[.string x.1, .string x.2.1, .int .i64 x.2.2], .bool true]) (by simp [results, Tryz.results192, go_sem, c0, c1, c2, hDl]) rfl ⟨ret_tb (x := x) (by rw [HK.out]; exact ⟨rfl, rfl⟩), ?_⟩
  exact ((hb2'.setCell (Nat.le_refl _) _).setCell (Nat.le_refl _) _).setCell (Nat.le_refl _) _
 ·have HK : Hid (keptT L B = (default, false)) := keptT_no hn
  clear hn hL'
  go_wp2_with fail
  refine bodyPost_ret (v := .tuple #[.agg #[.string ⟨#[]⟩, .string ⟨#[]⟩, .int .i64 0], .bool false]) (by simp [results, Tryz.results192, go_sem, c0, c1, c2, hDl]) rfl ⟨ret_tb (x := (⟨#[]⟩, ⟨#[]⟩, 0)) (by rw [HK.out]; exact ⟨rfl, rfl⟩), ?_⟩
  exact ((hb2'.setCell (Nat.le_refl _) _).setCell (Nat.le_refl _) _).setCell (Nat.le_refl _) _
def zPod : List Value := [.string ⟨#[]⟩, .int .i64 0, .slice none 0 0, .int .i64 0, .int .i64 0, .int .i64 0, .slice none 0 0, .slice none 0 0, .slice none 0 0, .slice none 0 0, .slice none 0 0, .slice none 0 0, .slice none 0 0, .slice none 0 0, .string ⟨#[]⟩, .string ⟨#[]⟩]
def zNode : List Value := [.string ⟨#[]⟩, .slice none 0 0, .slice none 0 0, .bool false, .int .i64 0, .int .i64 0, .int .i64 0, .int .i64 0, .int .i64 0]
def zVolume : List Value := [.string ⟨#[]⟩, .int .i64 0, .string ⟨#[]⟩, .slice none 0 0, .string ⟨#[]⟩]
def zClaim : List Value := [.string ⟨#[]⟩, .int .i64 0, .string ⟨#[]⟩, .string ⟨#[]⟩]
def zClass : List Value := [.string ⟨#[]⟩, .bool false]
def zBudget : List Value := [.string ⟨#[]⟩, .slice none 0 0, .int .i64 0]
theorem zAa : (Tryz.prog.info? 79).map (·.size) = some 5 := by kernel_rfl
theorem zBi : (Tryz.prog.info? 96).map (·.size) = some 4 := by kernel_rfl
theorem iszClass : (Tryz.prog.info? 99).map (·.size) = some 2 := by kernel_rfl
theorem zAS : (Tryz.prog.info? 29).map (·.size) = some 6 := by kernel_rfl
theorem zA4 {c : Prop} [Decidable c] {A B : Prop} (h : c) (k : A) : if c then A else B := by rw [if_pos h]; exact k
end Go.Proofs.YtnffafjamiffnaaGreat
namespace Go.Proofs.YtnffafjamiffnaaGreat
open Go.ChangeShapes Go.WideShapes Go.ChangeAt Go.RowKit
theorem zFn : Opens RLabel 161 := zAC (total := 2) Tryz.underlying161 (by kernel_rfl) (zA3 (m := 1) rfl (by kernel_rfl) zA8 (zAB rfl (by kernel_rfl) zA8))
theorem zCi : Opens (RSl RStr 1 16) 31 := zAI RStr.firm Tryz.underlying31 (by kernel_rfl) (by kernel_rfl) (by decide) zA8
theorem opens_Req : Opens RReq 120 := zAC (total := 3) Tryz.underlying120 (by kernel_rfl) (zA3 (m := 1) rfl (by kernel_rfl) zA8 (zA3 (m := 2) rfl (by kernel_rfl) zAG (zAB rfl (by kernel_rfl) zCi)))
theorem zEs : Opens RRes 41 := zAC (total := 3) Tryz.underlying41 (by kernel_rfl) (zA3 (m := 1) rfl (by kernel_rfl) zAG (zA3 (m := 2) rfl (by kernel_rfl) zAG (zAB rfl (by kernel_rfl) zAG)))
theorem zFi : Opens RTaint 156 := zAC (total := 3) Tryz.underlying156 (by kernel_rfl) (zA3 (m := 1) rfl (by kernel_rfl) zA8 (zA3 (m := 2) rfl (by kernel_rfl) zA8 (zAB rfl (by kernel_rfl) zAG)))
theorem zHg : Opens RBear 154 := zAC (total := 4) Tryz.underlying154 (by kernel_rfl) (zA3 (m := 1) rfl (by kernel_rfl) zA8 (zA3 (m := 2) rfl (by kernel_rfl) zA8 (zA3 (m := 3) rfl (by kernel_rfl) zC6 (zAB rfl (by kernel_rfl) zAG))))
theorem zAW : Opens (RSl RReq 3 48) 43 := zAI RReq.firm Tryz.underlying43 (by kernel_rfl) (by kernel_rfl) (by decide) opens_Req
theorem zGv : Opens RTerm 116 := zAC (total := 2) Tryz.underlying116 (by kernel_rfl) (zA3 (m := 1) rfl (by kernel_rfl) zAW (zAB rfl (by kernel_rfl) zA8))
theorem zFB : Opens RPrefer 131 := zAC (total := 2) Tryz.underlying131 (by kernel_rfl) (zA3 (m := 1) rfl (by kernel_rfl) zAW (zAB rfl (by kernel_rfl) zAG))
theorem zEl : Opens RSpread 135 := zAC (total := 4) Tryz.underlying135 (by kernel_rfl) (zA3 (m := 1) rfl (by kernel_rfl) zA8 (zA3 (m := 2) rfl (by kernel_rfl) zAG (zA3 (m := 3) rfl (by kernel_rfl) zAG (zAB rfl (by kernel_rfl) zAW))))
theorem zBq : Opens (RSl RLabel 2 32) 39 := zAI RLabel.firm Tryz.underlying39 (by kernel_rfl) (by kernel_rfl) (by decide) zFn
theorem zFN : Opens (RSl RBear 4 48) 42 := zAI RBear.firm Tryz.underlying42 (by kernel_rfl) (by kernel_rfl) (by decide) zHg
theorem zDU : Opens (RSl RPrefer 2 32) 44 := zAI RPrefer.firm Tryz.underlying44 (by kernel_rfl) (by kernel_rfl) (by decide) zFB
theorem zDS : Opens (RSl RSpread 4 56) 47 := zAI RSpread.firm Tryz.underlying47 (by kernel_rfl) (by kernel_rfl) (by decide) zEl
theorem zEd : Opens (RSl RTaint 3 40) 52 := zAI RTaint.firm Tryz.underlying52 (by kernel_rfl) (by kernel_rfl) (by decide) zFi
theorem zGw : Opens RNode 54 := zAC (total := 9) Tryz.underlying54 (by kernel_rfl) (zA3 (m := 1) rfl (by kernel_rfl) zA8 (zA3 (m := 2) rfl (by kernel_rfl) zBq (zA3 (m := 3) rfl (by kernel_rfl) zEd (zA3 (m := 4) rfl (by kernel_rfl) zC6 (zA3 (m := 7) rfl (by kernel_rfl) zEs (zA3 (m := 8) rfl (by kernel_rfl) zAG (zAB rfl (by kernel_rfl) zAG)))))))
theorem zEj : Opens RVolume 79 := zAC (total := 5) Tryz.underlying79 (by kernel_rfl) (zA3 (m := 1) rfl (by kernel_rfl) zA8 (zA3 (m := 2) rfl (by kernel_rfl) zAG (zA3 (m := 3) rfl (by kernel_rfl) zA8 (zA3 (m := 4) rfl (by kernel_rfl) zAW (zAB rfl (by kernel_rfl) zA8)))))
theorem zFt : Opens RClaim 96 := zAC (total := 4) Tryz.underlying96 (by kernel_rfl) (zA3 (m := 1) rfl (by kernel_rfl) zA8 (zA3 (m := 2) rfl (by kernel_rfl) zAG (zA3 (m := 3) rfl (by kernel_rfl) zA8 (zAB rfl (by kernel_rfl) zA8))))
theorem zGK : Opens RClass 99 := zAC (total := 2) Tryz.underlying99 (by kernel_rfl) (zA3 (m := 1) rfl (by kernel_rfl) zA8 (zAB rfl (by kernel_rfl) zC6))
theorem zEk : Opens RBudget 82 := zAC (total := 3) Tryz.underlying82 (by kernel_rfl) (zA3 (m := 1) rfl (by kernel_rfl) zA8 (zA3 (m := 2) rfl (by kernel_rfl) zAW (zAB rfl (by kernel_rfl) zAG)))
theorem zDC : Opens (RSl RVolume 5 80) 24 := zAI RVolume.firm Tryz.underlying24 (by kernel_rfl) (by kernel_rfl) (by decide) zEj
theorem zDx : Opens (RSl RClaim 4 56) 25 := zAI RClaim.firm Tryz.underlying25 (by kernel_rfl) (by kernel_rfl) (by decide) zFt
theorem zEV : Opens (RSl RClass 2 24) 26 := zAI RClass.firm Tryz.underlying26 (by kernel_rfl) (by kernel_rfl) (by decide) zGK
theorem zDJ : Opens (RSl RBudget 3 48) 27 := zAI RBudget.firm Tryz.underlying27 (by kernel_rfl) (by kernel_rfl) (by decide) zEk
end Go.Proofs.YtnffafjamiffnaaGreat
