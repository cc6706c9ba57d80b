/- Arguments as they come in, with a bound on what they hold: no more than the reading's bulk. No condition beyond the row's own reach. Arguments of layer 14 as they come in, lists with a bound on their number. No condition beyond the row's own reach. What is done, act by act, as it comes in. No condition beyond the row's own reach. base.Among: which number it is. Condition: the second number is above 0, and no greater than a length can be. A queue and a list of names beside it, while acts are done. Plain facts on worlds. No condition. QueuePlays: the program's queue beside the document's, an act in its box, what was popped last. Plain facts on worlds. No condition. QueuePlays: behind an act's calls. Plain facts. No condition. QueuePlays: what a call of either queue keeps; the clone. Plain facts on worlds. No condition. QueuePlays: the code of its switch, by its way from the root. No condition. -/
import Derived.Test.YtbmejaailhjgfaaGreatQ26
import Derived.Test.YtbmejaailhjgfaaGreatRows
import Derived.Test.YtbmejaailhjgfaaGreatQ01
import Derived.Test.YtbmejaailhjgfaaGreatQ19
import Derived.Test.YtbmejaailhjgfaaGreatQ17
import Derived.Test.YtbmejaailhjgfaaGreatQ24
import Derived.Test.YtbmejaailhjgfaaGreatQ12
import Derived.Deep.CutBlock
namespace Go.Proofs.YtbmejaailhjgfaaGreat
open Go.ChangeShapes Go.WideShapes Go.ChangeAt Go.RowKit
set_option linter.unusedSimpArgs false

/-- What is read as of that type lies as said, and is no greater than its bulk. -/
def OpensM {α : Type} (R : Rep α) (m : α → Nat) (t : TypeId) : Prop :=
  ∀ {H : Type} {enc : TypeId × Value → H} {W : World} {base n : Nat} {sp : Nat → Bool} {held : Bool} {cs : List Value} {x : DataW H × List MemPlace},
    DataW.trod enc Tryz.prog W base sp held n t cs = some x → Light x.1 t → ∃ y, R (fun _ => True) W cs y ∧ m y ≤ Rows.uptoBulk x.1
theorem bulk_pos {H : Type} (d : DataW H) : 1 ≤ Rows.uptoBulk d := by
  match d with
  | .lit l => cases l <;> simp [Rows.uptoBulk]
  | .nil => simp [Rows.uptoBulk]
  | .ptr _ => simp [Rows.uptoBulk]
  | .slice _ _ => simp [Rows.uptoBulk]
  | .agg _ => simp [Rows.uptoBulk]
  | .iface _ _ => simp [Rows.uptoBulk]
  | .map _ => simp [Rows.uptoBulk]
  | .held _ => simp [Rows.uptoBulk]
theorem Opens.m {α : Type} {R : Rep α} {t : TypeId} (h : Opens R t) : OpensM R (fun _ => 1) t := by
  intro H enc W base n sp held cs x hx hl
  obtain ⟨y, hy⟩ := h hx hl
  exact ⟨y, hy, bulk_pos _⟩
theorem sum_bulk {α H : Type} (m : α → Nat) (f : Nat → α) (D : Nat → DataW H) : ∀ l : List Nat, (∀ i ∈ l, m (f i) ≤ Rows.uptoBulk (D i)) → sumBy m (l.map f) ≤ Rows.uptoBulkAll (l.map D)
  | [], _ => by simp [sumBy, Rows.uptoBulkAll]
  | i :: l, h => by
    have := sum_bulk m f D l (fun j hj => h j (List.mem_cons_of_mem _ hj))
    have h0 := h i List.mem_cons_self
    simp only [sumBy, List.map_cons, List.sum_cons, Rows.uptoBulkAll] at this ⊢
    omega
theorem opensM_slice {α : Type} [Inhabited α] {R : Rep α} {m : α → Nat} {k bytes : Nat} {t e : TypeId} (hR : Firm R k) (hu : Tryz.prog.underlying t = some (.slice e)) (ck : Tryz.prog.cellsOf e = k) (bk : Tryz.prog.bytesOf e = bytes) (hk0 : 0 < k) (hE : OpensM R m e) : OpensM (RSl R k bytes) (sumBy m) t := by
  intro H enc W base n sp held cs x h hl
  rcases Go.Deep.open_slice hu h with ⟨hv, _⟩ | ⟨a, len, cap, mm, nn, D, Pl, hv, _, hlc, _, hm, rfl, hel⟩
  · exact ⟨[], ⟨none, 0, 0, hv, SlAt.nil _ _ _ _ (fun _ => rfl)⟩, by simp [sumBy]⟩
  · obtain ⟨w1, w2⟩ := light_slice hu hl
    simp only [List.length_map, List.length_range, bk] at w1
    have hml : len ≤ mm := by rw [hm]; split <;> omega
    rw [ck] at hel
    have each : ∀ i, i < len → ∃ y : α, (∃ cs, R (fun _ => True) W cs y ∧ ∀ j u, cs[j]? = some u → W.cell? ((a.add (i * k)).add j) = some u) ∧ m y ≤ Rows.uptoBulk (D i) := fun i hi => by
      obtain ⟨cs', h1, h2⟩ := hel i (by omega)
      obtain ⟨y, hy, hm⟩ := hE h2 (w2 _ (List.mem_map.2 ⟨i, List.mem_range.2 hi, rfl⟩))
      obtain ⟨_, _, hcell⟩ := World.cells?_some h1
      refine ⟨y, ⟨cs', hy, fun j u hj => ?_⟩, hm⟩
      have hjk : j < k := by
        have := (List.getElem?_eq_some_iff.1 hj).1
        rwa [hR.len hy] at this
      rw [hcell j hjk, hj]
    obtain ⟨f, hf⟩ := Go.Deep.choose_lt each
    refine ⟨(List.range len).map f, ⟨some a, len, cap, hv, by simp, hlc, (fun h => by cases h), w1, fun hpos => ?_⟩, ?_⟩
    · obtain ⟨B, off, spot⟩ := a
      obtain ⟨cs0, hr0, hc0⟩ := (hf 0 hpos).1
      have hex : ∃ u, cs0[0]? = some u := by
        cases e : cs0 with
        | nil => have := hR.len hr0; rw [e] at this; simp at this; omega
        | cons u r => exact ⟨u, rfl⟩
      obtain ⟨u0, hu0⟩ := hex
      have hc0 := hc0 0 u0 hu0
      have hsp : spot = none := by
        have := World.cell?_spot hc0
        simpa [Addr.add] using this
      subst hsp
      rw [add_lit, add_lit] at hc0
      refine ⟨B, off, rfl, addr_lt hc0, trivial, fun i hi => ?_⟩
      obtain ⟨cs, hr, hc⟩ := (hf i hi).1
      refine ⟨cs, by rw [getD_range f len i hi]; exact hr, fun j u hj => ?_⟩
      have := hc j u hj
      rwa [add_lit, add_lit] at this
    · have := sum_bulk m f D (List.range len) (fun i hi => (hf i (List.mem_range.1 hi)).2)
      simp only [Rows.uptoBulk]
      omega
def OpensFsM {α : Type} (fs : List Field) (off total : Nat) (R : Rep α) (m : α → Nat) : Prop :=
  ∀ {H : Type} {enc : TypeId × Value → H} {W : World} {base n : Nat} {sp : Nat → Bool} {held : Bool} {cs : List Value} {ds : List (DataW H)}, cs.length = total → ds.length = fs.length →
    (∀ (j : Nat) (f : Field), fs[j]? = some f → ∃ d, DataW.trod enc Tryz.prog W base sp held n f.type ((cs.drop f.offset).take (Tryz.prog.cellsOf f.type)) = some d ∧ Light d.1 f.type ∧ ds[j]? = some d.1) → ∃ y, R (fun _ => True) W (cs.drop off) y ∧ m y ≤ Rows.uptoBulkAll ds
theorem opensFsM_last {α : Type} {R : Rep α} {m : α → Nat} {f : Field} {off total : Nat} (ho : f.offset = off) (ht : off + Tryz.prog.cellsOf f.type = total) (h : OpensM R m f.type) : OpensFsM [f] off total R m := by
  intro H enc W base n sp held cs ds hl hd hf
  obtain ⟨d, h1, h2, h3⟩ := hf 0 f rfl
  rw [ho, List.take_of_length_le (by rw [List.length_drop]; omega)] at h1
  obtain ⟨y, hy, hm⟩ := h h1 h2
  refine ⟨y, hy, ?_⟩
  cases ds with
  | nil => simp at hd
  | cons d0 r => simp at h3; subst h3; simp only [Rows.uptoBulkAll]; omega
theorem opensFsM_cons {α β : Type} {R : Rep α} {S : Rep β} {m1 : α → Nat} {m2 : β → Nat} {f : Field} {fs : List Field} {off mm total : Nat} (ho : f.offset = off) (hm : off + Tryz.prog.cellsOf f.type = mm) (h : OpensM R m1 f.type) (hs : OpensFsM fs mm total S m2) : OpensFsM (f :: fs) off total (RPair R S) (fun x => m1 x.1 + m2 x.2) := by
  intro H enc W base n sp held cs ds hl hd hf
  obtain ⟨d, h1, h2, h3⟩ := hf 0 f rfl
  rw [ho] at h1
  obtain ⟨y, hy, hm1⟩ := h h1 h2
  cases ds with
  | nil => simp at hd
  | cons d0 r =>
    obtain ⟨z, hz, hm2⟩ := hs (cs := cs) (ds := r) hl (by simpa using hd) (fun j g hg => by have := hf (j + 1) g (by simpa using hg); simpa using this)
    refine ⟨(y, z), ⟨(cs.drop off).take (Tryz.prog.cellsOf f.type), cs.drop mm, ?_, hy, hz⟩, ?_⟩
    · rw [← hm, ← List.drop_drop]
      exact (List.take_append_drop _ _).symm
    · simp at h3; subst h3; simp only [Rows.uptoBulkAll]; omega
theorem opensM_struct {α : Type} {R : Rep α} {m : α → Nat} {t : TypeId} {fs : Array Field} {total : Nat} (hu : Tryz.prog.underlying t = some (.struct fs)) (hc : Tryz.prog.cellsOf t = total) (h : OpensFsM fs.toList 0 total R m) : OpensM R m t := by
  intro H enc W base n sp held cs x hx hl
  obtain ⟨xs, mm, _, rfl, hlen, hxs, hf⟩ := DataW.trod_struct hu hx
  have := h (enc := enc) (W := W) (base := base) (n := mm) (sp := sp) (held := held) (cs := cs) (ds := xs.map (·.1)) (by rw [hlen, hc]) (by simp [hxs]) (fun j f hj => by
    have hj' : fs[j]? = some f := by simpa using hj
    have h1 := hf j f hj'
    have hlt : j < xs.length := by
      have := (Array.getElem?_eq_some_iff.1 hj').1
      omega
    have h2 : xs[j]? = some xs[j] := List.getElem?_eq_getElem hlt
    rw [h2] at h1
    refine ⟨xs[j], h1, light_struct hu hl (j := j) (by simp [hj']) (by simp [h2]), by simp [h2]⟩)
  obtain ⟨y, hy, hm⟩ := this
  refine ⟨y, by simpa using hy, ?_⟩
  simp only [Rows.uptoBulk]
  omega
end Go.Proofs.YtbmejaailhjgfaaGreat
namespace Go.Proofs.YtbmejaailhjgfaaGreat
open Go.ChangeShapes Go.WideShapes Go.ChangeAt Go.RowKit
set_option linter.unusedSimpArgs false

theorem opensM_strs14 : OpensM (RSl RStr 1 16) (sumBy (fun _ => 1)) 47 := opensM_slice RStr.firm Tryz.underlying47 (by kernel_rfl) (by kernel_rfl) (by decide) (Opens.m opens_str)
theorem opensM_ints : OpensM (RSl RInt 1 8) (sumBy (fun _ => 1)) 120 := opensM_slice RInt.firm Tryz.underlying120 (by kernel_rfl) (by kernel_rfl) (by decide) (Opens.m opens_int)
theorem sum_one14 {α : Type} : ∀ L : List α, sumBy (fun _ => 1) L = L.length
  | [] => rfl
  | _ :: L => by have := sum_one14 L; simp only [sumBy, List.map_cons, List.sum_cons, List.length_cons] at this ⊢; omega
end Go.Proofs.YtbmejaailhjgfaaGreat
namespace Go.Proofs.YtbmejaailhjgfaaGreat
open Go.ChangeShapes Go.WideShapes Go.ChangeAt Go.RowKit
set_option linter.unusedSimpArgs false

abbrev ActQ := Int × Int × Int × ByteArray × ByteArray × WtD × Bool × Bool
theorem RIW.firm : Firm RIW 1 := ⟨fun h => by rw [h.1]; rfl, fun h u hu => by rw [h.1] at hu; simp only [List.mem_cons, List.not_mem_nil, or_false] at hu; rw [hu]; rfl, fun h _ => h, fun h _ => h⟩
theorem RWtB.firm : Firm RWtB 5 := Firm.pair RStr.firm (Firm.pair RInt.firm (Firm.pair RInt.firm (Firm.pair RIW.firm RInt.firm)))
def RActQ : Rep ActQ := RPair RInt (RPair RInt (RPair RInt (RPair RStr (RPair RStr (RPair RWtB (RPair RBool RBool))))))
theorem RActQ.firm : Firm RActQ 12 := Firm.pair RInt.firm (Firm.pair RInt.firm (Firm.pair RInt.firm (Firm.pair RStr.firm (Firm.pair RStr.firm (Firm.pair RWtB.firm (Firm.pair RBool.firm RBool.firm))))))
abbrev actC (a : ActQ) : List Value := [.int .i64 a.1, .int .i64 a.2.1, .int .i64 a.2.2.1, .string a.2.2.2.1, .string a.2.2.2.2.1, .string a.2.2.2.2.2.1.1, .int .i64 a.2.2.2.2.2.1.2.1, .int .i64 a.2.2.2.2.2.1.2.2.1, .int .i64 a.2.2.2.2.2.1.2.2.2.1, .int .i64 a.2.2.2.2.2.1.2.2.2.2, .bool a.2.2.2.2.2.2.1, .bool a.2.2.2.2.2.2.2]
def okAct (a : ActQ) : Prop := okS a.2.2.2.1 ∧ okS a.2.2.2.2.1 ∧ WtOk a.2.2.2.2.2.1
theorem RActQ.all {A : Where} {w : World} {cs : List Value} {a : ActQ} (h : RActQ A w cs a) : cs = actC a ∧ okAct a := by
  obtain ⟨c0, d0, rfl, h0, c1, d1, rfl, h1, c2, d2, rfl, h2, c3, d3, rfl, ⟨h3, k3⟩, c4, d4, rfl, ⟨h4, k4⟩, c5, d5, rfl, h5, c6, d6, rfl, h6, h7⟩ := h
  have h0 : c0 = [.int .i64 a.1] := h0
  have h1 : c1 = [.int .i64 a.2.1] := h1
  have h2 : c2 = [.int .i64 a.2.2.1] := h2
  have h6 : c6 = [.bool a.2.2.2.2.2.2.1] := h6
  have h7 : d6 = [.bool a.2.2.2.2.2.2.2] := h7
  obtain ⟨h5, k5⟩ := RWtB.all h5
  subst h0 h1 h2 h3 h4 h5 h6 h7
  exact ⟨rfl, k3, k4, k5⟩
theorem opens_ActQ : Opens RActQ 33 := opens_struct (total := 12) Tryz.underlying33 (by kernel_rfl) (opensFs_cons (m := 1) rfl (by kernel_rfl) opens_int (opensFs_cons (m := 2) rfl (by kernel_rfl) opens_int (opensFs_cons (m := 3) rfl (by kernel_rfl) opens_int (opensFs_cons (m := 4) rfl (by kernel_rfl) opens_str (opensFs_cons (m := 5) rfl (by kernel_rfl) opens_str (opensFs_cons (m := 10) rfl (by kernel_rfl) opens_WtB (opensFs_cons (m := 11) rfl (by kernel_rfl) opens_bool (opensFs_last rfl (by kernel_rfl) opens_bool))))))))
theorem opensM_actsQ : OpensM (RSl RActQ 12 112) (sumBy (fun _ => 1)) 22 := opensM_slice RActQ.firm Tryz.underlying22 (by kernel_rfl) (by kernel_rfl) (by decide) (Opens.m opens_ActQ)
end Go.Proofs.YtbmejaailhjgfaaGreat
namespace Go.Proofs.YtbmejaailhjgfaaGreat
open Go.RowKit
set_option linter.unusedSimpArgs false

def amongP (n : Int) (m : Nat) : Nat := (IntKind.u64.wrap n % (m : Int)).toNat
theorem among_lt (n : Int) {m : Nat} (hm : 0 < m) : amongP n m < m := by
  have h1 : 0 ≤ IntKind.u64.wrap n % (m : Int) := Int.emod_nonneg _ (by omega)
  have h2 : IntKind.u64.wrap n % (m : Int) < (m : Int) := Int.emod_lt_of_pos _ (by omega)
  unfold amongP
  omega
theorem Among_is (n : Int) (m : Nat) (hm : 0 < m) (hml : m ≤ 140737488355328) (w : World) : Calls Tryz.prog 5 #[.int .i64 n, .int .i64 m] w fun e w' => e = .returned (.int .i64 (amongP n m)) ∧ w' = w := by
  have hw : IntKind.u64.wrap (m : Int) = (m : Int) := by simp [IntKind.wrap, IntKind.bits, IntKind.signed]; omega
  have hz : ((m : Int) == 0) = false := by rw [beq_eq_false_iff_ne]; omega
  have hz' : ¬ (m : Int) = 0 := by omega
  have ha : ((amongP n m : Nat) : Int) = IntKind.u64.wrap n % (m : Int) := by unfold amongP; exact Int.toNat_of_nonneg (Int.emod_nonneg _ (by omega))
  rw [ha]
  clear ha
  generalize hr : IntKind.u64.wrap n = r
  have hr0 : 0 ≤ r := by rw [← hr]; simp [IntKind.wrap, IntKind.bits, IntKind.signed]; omega
  have h1 : 0 ≤ r % (m : Int) := Int.emod_nonneg _ (by omega)
  have h2 : r % (m : Int) < (m : Int) := Int.emod_lt_of_pos _ (by omega)
  have h3 : r.tmod (m : Int) = r % (m : Int) := Int.tmod_eq_emod_of_nonneg hr0
  go_enter Tryz.func5, Tryz.ntmps5
  go_wp2
  go_ret
  exact ⟨rfl, rfl⟩
end Go.Proofs.YtbmejaailhjgfaaGreat
namespace Go.Proofs.YtbmejaailhjgfaaGreat
open Go.RowKit Go.Maps
set_option linter.unusedSimpArgs false
set_option maxRecDepth 100000

abbrev FK (w : World) (v : Value) : Where := fun b => Fresh w b ∧ v.ownBlock ≠ some b
abbrev FJ (w : World) (v : Value) (B : Nat) : Where := fun b => (Fresh w b ∧ v.ownBlock ≠ some b) ∧ b ≠ B
def okTs (S : List EnD) : Prop := ∀ e ∈ S, -9223372036854775808 ≤ e.1.2.2.2.1 ∧ e.1.2.2.2.1 ≤ 9223372036854775807
/-- Behind so many acts. -/
def KpR (w : World) (p k : Nat) (v : Value) (z : World) : Prop := ∃ S n Ws N, QA (FK w v) z p S n Ws ∧ Row RStr 1 (fun _ => False) w z 9 v N ∧ N.Perm (S.map enN) ∧ okTs S ∧ 0 ≤ n ∧ n ≤ (k : Int) ∧ S.length ≤ k
/-- Within an act, which lies in a box. -/
structure KpJ (w u : World) (p : Nat) (v : Value) (B : Nat) (a : ActQ) (S : List EnD) (n : Int) (Ws : List WiD) (N : List ByteArray) : Prop where
  q : QA (FJ w v B) u p S n Ws
  row : Row RStr 1 (fun _ => False) w u 9 v N
  box : BoxL u B (actC a)
  low : w.heap.size ≤ B
section
variable {w u u' : World} {p B : Nat} {v v' : Value} {a : ActQ} {S S' : List EnD} {n n' : Int} {Ws Ws' : List WiD} {N N' : List ByteArray}
theorem KpJ.hF (h : KpJ w u p v B a S n Ws N) (hb : u.heap.size ≤ u'.heap.size) : ∀ b, u'.heap.size ≤ b → FJ w v B b := fun b h2 => ⟨⟨Nat.le_trans h.row.below.size (Nat.le_trans hb h2), fun e => by have := (h.row.lt e).2; omega⟩, by have := h.box.1; omega⟩
theorem KpJ.on (h : KpJ w u p v B a S n Ws N) (hb : Below u.heap.size u u') : KpJ w u' p v B a S n Ws N := ⟨h.q.on hb, h.row.on RStr.firm hb, h.box.on hb, h.low⟩
theorem KpJ.call (h : KpJ w u p v B a S n Ws N) (hq : QA (FJ w v B) u' p S' n' Ws') (ht : Turns (FJ w v B) u u') : KpJ w u' p v B a S' n' Ws' N :=
  ⟨hq, h.row.keptXG RStr.firm (Turns.behind h.row.below (ht.weak (fun _ _ hf => hf.1.1))) ⟨ht.size, fun b hb hl => ht.block b hl (fun hf => hb.elim id (fun e => hf.1.2 e))⟩, ht.box h.box (fun hf => hf.2 rfl), h.low⟩
theorem KpJ.done (h : KpJ w u p v B a S n Ws N) (hp : N.Perm (S.map enN)) (ht : okTs S) {k : Nat} (h0 : 0 ≤ n) (h1 : n ≤ (k : Int)) (h2 : S.length ≤ k) : KpR w p k v u := ⟨S, n, Ws, N, h.q.weak (fun _ _ hf => hf.1), h.row, hp, ht, h0, h1, h2⟩
/-- A name more. -/
theorem KpJ.app (h : KpJ w u p v B a S n Ws N) (hr : Row RStr 1 (fun _ => False) w u' 9 v' N') (hg : u.grownBy u' v.ownBlock) (hw : v'.ownBlock = v.ownBlock ∨ v'.ownBlock = some u.heap.size) (hp : N'.Perm (S.map enN)) (ht : okTs S) {k : Nat} (h0 : 0 ≤ n) (h1 : n ≤ (k : Int)) (h2 : S.length ≤ k) : KpR w p k v' u' := by
  refine ⟨S, n, Ws, N', ?_, hr, hp, ht, h0, h1, h2⟩
  refine (h.q.weak (G := fun b => FK w v' b ∧ v.ownBlock ≠ some b) (fun b hb hf => ⟨⟨hf.1.1, fun e => ?_⟩, hf.1.2⟩)).kept (u' := u') (fun b hb hf => hg.block b hb (fun e => hf.2 e.symm)) |>.weak (fun b _ hf => hf.1)
  rcases hw with h5 | h5
  · rw [h5] at e; exact hf.1.2 e
  · rw [h5] at e; injection e with e; omega
/-- Another list, made anew. -/
theorem KpJ.anew (h : KpJ w u p v B a S n Ws N) (hr : Row RStr 1 (fun _ => False) u u' 9 v' N') (hp : N'.Perm (S.map enN)) (ht : okTs S) {k : Nat} (h0 : 0 ≤ n) (h1 : n ≤ (k : Int)) (h2 : S.length ≤ k) : KpR w p k v' u' := by
  refine ⟨S, n, Ws, N', ?_, hr.from RStr.firm h.row.below (fun _ h => h), hp, ht, h0, h1, h2⟩
  exact (h.q.weak (G := FK w v') (fun b hb hf => ⟨hf.1.1, fun e => by have := (hr.lt e).1; omega⟩)).on hr.below
end
theorem names_oth (S : List EnD) (s : ByteArray) : (othG enN s S).map enN = lssY (S.map enN) s := by
  unfold othG lssY
  rw [List.filter_map]
  rfl
theorem lss_perm {L M : List ByteArray} (h : L.Perm M) (s : ByteArray) : (lssY L s).Perm (lssY M s) := h.filter _
theorem names_snoc (S : List EnD) (e : EnD) : (S ++ [e]).map enN = S.map enN ++ [e.1.1] := by rw [List.map_append]; rfl
theorem okTs.oth {S : List EnD} (h : okTs S) (s : ByteArray) : okTs (othG enN s S) := fun e he => h e (mem_othG.1 he).1
theorem okTs.snoc {S : List EnD} (h : okTs S) {e : EnD} (he : -9223372036854775808 ≤ e.1.2.2.2.1 ∧ e.1.2.2.2.1 ≤ 9223372036854775807) : okTs (S ++ [e]) := fun y hy => by
  rcases List.mem_append.1 hy with hy | hy
  · exact h y hy
  · rw [List.mem_singleton.1 hy]; exact he
theorem names_mv (S : List EnD) (now : Int) : (mvL S now).map enN = S.map enN := by
  unfold mvL
  split
  · rw [List.map_map]; refine List.map_congr_left (fun e _ => ?_); simp only [Function.comp, mvE]; split <;> rfl
  · rfl
theorem names_tk (S : List EnD) (now : Int) : (tkL S now).map enN = S.map enN := by
  unfold tkL
  split
  · rw [List.map_map]; refine List.map_congr_left (fun e _ => ?_); simp only [Function.comp, tkE]; split <;> rfl
  · rfl
theorem okTs.mv {S : List EnD} (h : okTs S) (now : Int) : okTs (mvL S now) := by
  unfold mvL
  split
  · intro e he; obtain ⟨y, hy, rfl⟩ := List.mem_map.1 he; have := h y hy; unfold mvE; split <;> exact this
  · exact h
theorem okTs.tk {S : List EnD} (h : okTs S) (now : Int) : okTs (tkL S now) := by
  unfold tkL
  split
  · intro e he; obtain ⟨y, hy, rfl⟩ := List.mem_map.1 he; have := h y hy; unfold tkE; split <;> exact this
  · exact h
theorem len_mv (S : List EnD) (now : Int) : (mvL S now).length = S.length := by unfold mvL; split <;> simp
theorem len_tk (S : List EnD) (now : Int) : (tkL S now).length = S.length := by unfold tkL; split <;> simp
theorem len_oth (S : List EnD) (s : ByteArray) : (othG enN s S).length ≤ S.length := List.length_filter_le _ _
/-- Those in the places ahead of the i-th. -/
def uptoP (S : List EnD) (i : Int) : List ByteArray := (S.filter (fun e => decide (e.2 < i))).map enN
theorem upto_one {S : List EnD} (h : ∀ e ∈ S, okE e) : uptoP S 1 = [] := by
  unfold uptoP
  rw [List.map_eq_nil_iff, List.filter_eq_nil_iff]
  intro e he
  have := (h e he).2.2
  simp; omega
theorem upto_four {S : List EnD} (h : ∀ e ∈ S, okE e) : uptoP S 4 = S.map enN := by
  unfold uptoP
  rw [List.filter_eq_self.2 (fun e he => by have := (h e he).2.2; simp; omega)]
theorem upto_step (S : List EnD) (i : Int) {l : List WtD} (hl : l.Perm (gatP i (fun _ => true) S)) {M : List ByteArray} (hM : M.Perm (uptoP S i)) : (M ++ l.map Prod.fst).Perm (uptoP S (i + 1)) := by
  refine (hM.append (hl.map _)).trans ?_
  clear hM hl
  unfold uptoP gatP
  induction S with
  | nil => exact List.Perm.refl _
  | cons e S ih =>
    simp only [List.filter_cons, Bool.and_true] at ih ⊢
    by_cases h1 : e.2 < i
    · have h2 : e.2 < i + 1 := by omega
      have h3 : ¬ e.2 = i := by omega
      simp only [h1, h2, h3, decide_true, decide_false, if_true, Bool.false_eq_true, if_false, List.map_cons, List.cons_append]
      exact List.Perm.cons _ ih
    · by_cases h3 : e.2 = i
      · have h2 : e.2 < i + 1 := by omega
        simp only [h1, h2, decide_true, decide_false, h3, if_true, Bool.false_eq_true, if_false, List.map_cons, List.cons_append]
        simp only [h3] at h1 h2
        simp only [h1, h2, decide_true, decide_false, if_true, Bool.false_eq_true, if_false, List.map_cons, List.cons_append]
        exact List.perm_middle.trans (List.Perm.cons _ ih)
      · have h2 : ¬ e.2 < i + 1 := by omega
        simp only [h1, h2, h3, decide_false, Bool.false_eq_true, if_false]
        exact ih
theorem sorted_perm14 {L M : List ByteArray} (h : L.Perm M) : sortB sLt sEq L = sortB sLt sEq M := sort_eq ordS (fun _ => h.mem_iff)
end Go.Proofs.YtbmejaailhjgfaaGreat
namespace Go.Proofs.YtbmejaailhjgfaaGreat
open Go.RowKit Go.Maps
set_option linter.unusedSimpArgs false
set_option maxRecDepth 100000

/-- The blocks of the program's queue: none of the document's, nor of the two boxes. -/
def FP (w : World) (y : Nat) (a b : Value) (B C : Nat) : Where := fun x => w.heap.size ≤ x ∧ ¬ QS y a b x ∧ x ≠ B ∧ x ≠ C
theorem RqE.keptQ {w u u' : World} {y : Nat} {a b : Value} {L : List EnD} {n : Int} {Ws : List WiD} (h : RqE w u y a b L n Ws) (hb : Below w.heap.size w u') (hk : Kept (fun x => QS y a b x) u u') : RqE w u' y a b L n Ws :=
  ⟨h.box.kept hk (.inl rfl), h.ra.keptXG REn.firm hb (hk.weak (fun _ hx => hx.elim False.elim (fun e => .inr (.inl e)))), h.rb.keptXG RWi.firm hb (hk.weak (fun _ hx => hx.elim False.elim (fun e => .inr (.inr e)))), h.lo, h.na, h.nb, h.ne⟩
/-- Within an act, which lies in a box. -/
structure PlJ (w u : World) (p y : Nat) (a b : Value) (B C : Nat) (lst : WtD) (act : ActQ) (S : List EnD) (n : Int) (Ws : List WiD) (L : List EnD) (m : Int) (Vs : List WiD) : Prop where
  q : QA (FP w y a b B C) u p S n Ws
  r : RqE w u y a b L m Vs
  last : BoxL u B (wtC lst)
  box : BoxL u C (actC act)
  nB : ¬ QS y a b B
  nC : ¬ QS y a b C
  ne : B ≠ C
  lB : w.heap.size ≤ B
  lC : w.heap.size ≤ C
section
variable {w u u' : World} {p y B C : Nat} {a b : Value} {lst : WtD} {act : ActQ} {S S' L L' : List EnD} {n n' m m' : Int} {Ws Ws' Vs Vs' : List WiD}
theorem PlJ.on (h : PlJ w u p y a b B C lst act S n Ws L m Vs) (hb : Below u.heap.size u u') : PlJ w u' p y a b B C lst act S n Ws L m Vs :=
  ⟨h.q.on hb, h.r.on hb, h.last.on hb, h.box.on hb, h.nB, h.nC, h.ne, h.lB, h.lC⟩
theorem PlJ.hF (h : PlJ w u p y a b B C lst act S n Ws L m Vs) : ∀ x, u.heap.size ≤ x → FP w y a b B C x := fun x hx => by
  refine ⟨Nat.le_trans h.r.below.size hx, fun e => ?_, fun e => by have := h.last.1; omega, fun e => by have := h.box.1; omega⟩
  rcases e with e | e | e
  · have := h.r.box.1; omega
  · have := (h.r.ra.lt e).2; omega
  · have := (h.r.rb.lt e).2; omega
/-- A call of the program's queue. -/
theorem PlJ.prog (h : PlJ w u p y a b B C lst act S n Ws L m Vs) (hq : QA (FP w y a b B C) u' p S' n' Ws') (ht : Turns (FP w y a b B C) u u') : PlJ w u' p y a b B C lst act S' n' Ws' L m Vs :=
  ⟨hq, h.r.keptQ (Turns.behind h.r.below (ht.weak (fun _ _ hf => hf.1))) ⟨ht.size, fun x hx hl => ht.block x hl (fun hf => hf.2.1 hx)⟩, ht.box h.last (fun hf => hf.2.2.1 rfl), ht.box h.box (fun hf => hf.2.2.2 rfl), h.nB, h.nC, h.ne, h.lB, h.lC⟩
/-- A call of the document's. -/
theorem PlJ.doc (h : PlJ w u p y a b B C lst act S n Ws L m Vs) (ho : QOut w y a b L' m' Vs' u u') : ∃ a' b', PlJ w u' p y a' b' B C lst act S n Ws L' m' Vs' := by
  obtain ⟨a', b', hr, hk, hn⟩ := ho
  refine ⟨a', b', ?_, hr, h.last.kept hk h.nB, h.box.kept hk h.nC, fun e => ?_, fun e => ?_, h.ne, h.lB, h.lC⟩
  · refine (h.q.weak (G := fun x => FP w y a' b' B C x ∧ ¬ QS y a b x) (fun x hx hf => ⟨⟨hf.1, fun e => ?_, hf.2.2⟩, hf.2.1⟩)).kept (u' := u') (fun x hx hf => hk.2 x hf.2 hx) |>.weak (fun x _ hf => hf.1)
    rcases hn x e with e2 | e2
    · exact hf.2.1 e2
    · omega
  · rcases hn B e with e2 | e2
    · exact h.nB e2
    · have := h.last.1; omega
  · rcases hn C e with e2 | e2
    · exact h.nC e2
    · have := h.box.1; omega
/-- What was popped last is written. -/
theorem PlJ.lst' (h : PlJ w u p y a b B C lst act S n Ws L m Vs) (x : WtD) : PlJ w (u.setCells B 0 (wtC x)) p y a b B C x act S n Ws L m Vs := by
  have k : ∀ {A : Where}, ¬ A B → Kept A u (u.setCells B 0 (wtC x)) := fun {A} hA => kept_setCells hA
  refine ⟨h.q.kept (fun x hx hf => (k (A := fun z => z ≠ B) (fun e => e rfl)).2 x hf.2.2.1 hx), h.r.keptQ (below_setCells h.r.below h.lB) (k h.nB), box_overY h.last rfl, h.box.kept (k (A := fun z => z = C) (fun e => h.ne e)) rfl, h.nB, h.nC, h.ne, h.lB, h.lC⟩
/-- The clone goes on. -/
theorem PlJ.clone (h : PlJ w u p y a b B C lst act S n Ws L m Vs) {c : Nat} (hc : QA (Fresh u) u' c S n Ws) (hb : Below u.heap.size u u') : PlJ w u' p y a b B C lst act S n Ws L m Vs ∧ QA (fun x => FP w y a b B C x ∧ u.heap.size ≤ x) u' c S n Ws :=
  ⟨h.on hb, hc.weak (fun x _ hf => ⟨h.hF x hf, hf⟩)⟩
end
/-- Behind so many acts. -/
def PlR (w : World) (y B k : Nat) (v : Value) (now : Int) (z : World) : Prop := ∃ p a b lst L n Ws, v = .pointer (some ⟨p, 0, none⟩) ∧ QA (fun x => w.heap.size ≤ x ∧ ¬ QS y a b x ∧ x ≠ B) z p L n Ws ∧ RqE w z y a b L n Ws ∧ BoxL z B (wtC lst) ∧ ¬ QS y a b B ∧ w.heap.size ≤ B ∧ okS lst.1 ∧ okTr lst ∧ okTs L ∧ 0 ≤ n ∧ n ≤ (k : Int) ∧ L.length ≤ k ∧ Ws.length ≤ k ∧ -5 * (k : Int) ≤ now ∧ now ≤ 4398046511104 * (k : Int)
theorem PlJ.done {w u : World} {p y B C : Nat} {a b : Value} {lst : WtD} {act : ActQ} {L : List EnD} {n now : Int} {Ws : List WiD} (h : PlJ w u p y a b B C lst act L n Ws L n Ws) {k : Nat} (h1 : okS lst.1) (h2 : okTr lst) (h3 : okTs L) (h4 : 0 ≤ n) (h5 : n ≤ (k : Int)) (h6 : L.length ≤ k) (h7 : Ws.length ≤ k) (h8 : -5 * (k : Int) ≤ now) (h9 : now ≤ 4398046511104 * (k : Int)) : PlR w y B k (.pointer (some ⟨p, 0, none⟩)) now u :=
  ⟨p, a, b, lst, L, n, Ws, rfl, h.q.weak (fun _ _ hf => ⟨hf.1, hf.2.1, hf.2.2.1⟩), h.r, h.last, h.nB, h.lB, h1, h2, h3, h4, h5, h6, h7, h8, h9⟩
end Go.Proofs.YtbmejaailhjgfaaGreat
namespace Go.Proofs.YtbmejaailhjgfaaGreat
open Go.RowKit Go.Maps
set_option linter.unusedSimpArgs false
set_option maxRecDepth 100000

/-- Behind an act's calls, ahead of what is asked of both. -/
def PlK (w : World) (y B C : Nat) (act : ActQ) (k : Nat) (v : Value) (z : World) : Prop := ∃ p a b lst L n Ws, v = .pointer (some ⟨p, 0, none⟩) ∧ PlJ w z p y a b B C lst act L n Ws L n Ws ∧ okS lst.1 ∧ okTr lst ∧ okTs L ∧ 0 ≤ n ∧ n ≤ (k : Int) ∧ L.length ≤ k ∧ Ws.length ≤ k
theorem PlK.of {w u u' : World} {p y B C : Nat} {a b : Value} {lst : WtD} {act : ActQ} {L2 L : List EnD} {n2 n : Int} {Ws2 Ws : List WiD} {k : Nat} (h : PlJ w u p y a b B C lst act L2 n2 Ws2 L n Ws) (ho : QOut w y a b L2 n2 Ws2 u u') (hl : okS lst.1 ∧ okTr lst) (ht : okTs L2) (hn : 0 ≤ n2 ∧ n2 ≤ (k : Int)) (hs : L2.length ≤ k ∧ Ws2.length ≤ k) : PlK w y B C act k (.pointer (some ⟨p, 0, none⟩)) u' := by
  obtain ⟨a', b', h'⟩ := h.doc ho
  exact ⟨p, a', b', lst, L2, n2, Ws2, rfl, h', hl.1, hl.2, ht, hn.1, hn.2, hs.1, hs.2⟩
theorem PlK.on {w u u' : World} {y B C : Nat} {act : ActQ} {k : Nat} {v : Value} (h : PlK w y B C act k v u) (hb : Below u.heap.size u u') : PlK w y B C act k v u' := by
  obtain ⟨p, a, b, lst, L, n, Ws, e, h, r⟩ := h
  exact ⟨p, a, b, lst, L, n, Ws, e, h.on hb, r⟩
theorem len_addL (S : List EnD) (z : Int) (e : EnD) : (addL S z e).length ≤ S.length + 1 := by
  unfold addL; split
  · simp
  · omega
theorem addN_le (n z : Int) : n ≤ addN n z ∧ addN n z ≤ n + 1 := by
  unfold addN; split <;> omega
theorem okTs.addL {S : List EnD} (h : okTs S) (z : Int) {e : EnD} (he : -9223372036854775808 ≤ e.1.2.2.2.1 ∧ e.1.2.2.2.1 ≤ 9223372036854775807) : okTs (addL S z e) := by
  unfold Go.Proofs.YtbmejaailhjgfaaGreat.addL; split
  · exact h.snoc he
  · exact h
theorem okTs.tr {S : List EnD} (h : okTs S) : ∀ e ∈ S, okTr e.1 := fun e he => ⟨(h e he).1, by have := (h e he).2; omega⟩
theorem len_drW (S : List EnD) (s : ByteArray) (Ws : List WiD) : (drW S s Ws).length ≤ Ws.length := by
  unfold drW
  repeat (first | split | exact Nat.le_refl _ | exact List.length_filter_le _ _)
theorem len_hpY (Ws : List WiD) (s nd : ByteArray) : (hpY Ws s nd).length ≤ Ws.length + 1 := by
  have h : (othG Prod.fst s Ws).length ≤ Ws.length := List.length_filter_le _ _
  unfold hpY
  split
  · omega
  · split
    · omega
    · rw [List.length_append, List.length_singleton]; omega
theorem popO_facts {S S' : List EnD} {x : WtD} {er : Int} (h : PopO S x er S') (ht : okTs S) (hk : ∀ e ∈ S, okE e) : okS x.1 ∧ okTr x ∧ okTs S' ∧ S'.length ≤ S.length := by
  rcases h with ⟨_, rfl, rfl, rfl⟩ | ⟨e, he, h1, h2, rfl, rfl, rfl⟩
  · exact ⟨by show (ByteArray.mk #[]).size ≤ 140737488355328; decide, by unfold okTr zWtY; decide, ht, Nat.le_refl _⟩
  · refine ⟨?_, ?_, ht.oth _, len_oth _ _⟩
    · have : (moreY e.1).1 = e.1.1 := by unfold moreY; split <;> rfl
      rw [this]; exact (hk e he).1
    · have := ht e he
      unfold okTr moreY
      split
      · refine ⟨?_, ?_⟩ <;> simp only <;> omega
      · refine ⟨?_, ?_⟩ <;> omega
end Go.Proofs.YtbmejaailhjgfaaGreat
namespace Go.Proofs.YtbmejaailhjgfaaGreat
open Go.RowKit Go.Maps
set_option linter.unusedSimpArgs false
set_option maxRecDepth 100000
set_option linter.unusedVariables false

section
variable {w u u' z : World} {p y B C k : Nat} {a b : Value} {lst : WtD} {act : ActQ} {S S' L : List EnD} {n n' m : Int} {Ws Ws' Vs : List WiD}
theorem QOut.keptC (h : QOut w y a b L n Ws u u') (hC : ¬ QS y a b C) : Kept (fun x => x = C) u u' := by
  obtain ⟨_, _, _, hk, _⟩ := h
  exact hk.weak (fun x e => by rw [show x = C from e]; exact hC)
theorem QOut.box {D : Nat} {cs : List Value} (h : QOut w y a b L n Ws u u') (hq : BoxL u D cs) (hD : ¬ QS y a b D) : BoxL u' D cs := by
  obtain ⟨_, _, _, hk, _⟩ := h
  exact hq.kept hk hD
theorem Turns.keptC (h : Turns (FP w y a b B C) u u') : Kept (fun x => x = C) u u' := ⟨h.size, fun x e hl => h.block x hl (fun hf => hf.2.2.2 e)⟩
theorem PlJ.newN (h : PlJ w u p y a b B C lst act S n Ws L m Vs) {x : Nat} (hx : u.heap.size ≤ x) : ¬ QS y a b x := (h.hF x hx).2.1
theorem PlJ.range (h : PlJ w u p y a b B C lst act S n Ws L m Vs) {z : World} (hz : Kept (fun b => b = C) u z) : z.rangeAt C 5 (wtC act.2.2.2.2.2.1) := fun j v hj => by
  have q := h.box.kept hz rfl
  have hj5 : j < 5 := (List.getElem?_eq_some_iff.1 hj).1
  have h9 : (actC act)[5 + j]? = some v := by
    rcases (show j = 0 ∨ j = 1 ∨ j = 2 ∨ j = 3 ∨ j = 4 by omega) with rfl | rfl | rfl | rfl | rfl <;> exact hj
  exact (q.2 (5 + j) v h9).1
theorem PlK.mono {v : Value} (h : PlK w y B C act k v u) : ∃ p, v = .pointer (some ⟨p, 0, none⟩) := by
  obtain ⟨p, _, _, _, _, _, _, e, _⟩ := h
  exact ⟨p, e⟩
/-- The blocks of the queue that was cloned: none of the clone's. -/
def FO (w : World) (y : Nat) (a b : Value) (B C : Nat) (u u1 : World) : Where := fun x => FP w y a b B C x ∧ (x < u.heap.size ∨ u1.heap.size ≤ x)
theorem FO.new (h : PlJ w u p y a b B C lst act S n Ws L m Vs) {u1 z : World} (hb : Below u.heap.size u u1) (hz : u1.heap.size ≤ z.heap.size) : ∀ x, z.heap.size ≤ x → FO w y a b B C u u1 x := fun x hx => ⟨h.hF x (by have := hb.size; omega), .inr (by omega)⟩
theorem PlJ.old (h : PlJ w u p y a b B C lst act S n Ws L m Vs) {u1 : World} (hb : Below u.heap.size u u1) : QA (FO w y a b B C u u1) u1 p S n Ws :=
  (h.q.weak (G := FO w y a b B C u u1) (fun x hx hf => ⟨hf, .inl hx⟩)).on hb
/-- The clone goes on, whatever was done to the other one. -/
theorem PlJ.spoil (h : PlJ w u p y a b B C lst act S n Ws L m Vs) {u1 : World} {c : Nat} (hc : QA (Fresh u) u1 c S n Ws) (hb : Below u.heap.size u u1) (ht : Turns (FO w y a b B C u u1) u1 z) : PlJ w z c y a b B C lst act S n Ws L m Vs := by
  have h1 := h.on hb
  have hn : ∀ {x}, ¬ FP w y a b B C x → ¬ FO w y a b B C u u1 x := fun hx hf => hx hf.1
  refine ⟨?_, h1.r.keptQ (Turns.behind h1.r.below (ht.weak (fun _ _ hf => hf.1.1))) ⟨ht.size, fun x hx hl => ht.block x hl (hn (fun hf => hf.2.1 hx))⟩, ht.box h1.last (hn (fun hf => hf.2.2.1 rfl)), ht.box h1.box (hn (fun hf => hf.2.2.2 rfl)), h.nB, h.nC, h.ne, h.lB, h.lC⟩
  refine ((hc.weak (G := fun x => FP w y a b B C x ∧ u.heap.size ≤ x ∧ x < u1.heap.size) (fun x hx hf => ⟨h.hF x hf, hf, hx⟩)).kept (u' := z) (fun x hx hf => ht.block x hx (fun ho => ?_))).weak (fun x _ hf => hf.1)
  rcases ho.2 with e | e
  · have := hf.2.1; omega
  · have := hf.2.2; omega
theorem FO.keptC {u1 : World} (ht : Turns (FO w y a b B C u u1) u1 z) : Kept (fun x => x = C) u1 z := ⟨ht.size, fun x e hl => ht.block x hl (fun hf => hf.1.2.2.2 e)⟩
end
/-- What is handed to Back lies in a box X that nobody else has. -/
def PlX (w : World) (p y : Nat) (a b : Value) (B C X : Nat) (lst : WtD) (act : ActQ) (L : List EnD) (n : Int) (Ws : List WiD) (z : World) : Prop := ∃ x : WtD, PlJ w z p y a b B C lst act L n Ws L n Ws ∧ QA (fun i => FP w y a b B C i ∧ i ≠ X) z p L n Ws ∧ BoxL z X (wtC x) ∧ WtOk x
section
variable {w u u' : World} {p y B C X : Nat} {a b : Value} {lst : WtD} {act : ActQ} {L L2 : List EnD} {n n2 : Int} {Ws Ws2 : List WiD}
theorem PlX.new (h : PlJ w u p y a b B C lst act L n Ws L n Ws) {x : WtD} (hx : WtOk x) (hb : Below u.heap.size u u') (hX : X = u.heap.size) (hq : BoxL u' X (wtC x)) : PlX w p y a b B C X lst act L n Ws u' :=
  ⟨x, h.on hb, (h.q.weak (G := fun i => FP w y a b B C i ∧ i ≠ X) (fun i hi hf => ⟨hf, by omega⟩)).on hb, hq, hx⟩
theorem PlX.set (h : PlX w p y a b B C X lst act L n Ws u) (h1 : ¬ QS y a b X) (h2 : X ≠ B) (h3 : X ≠ C) (h4 : w.heap.size ≤ X) {x : WtD} (hx : WtOk x) : PlX w p y a b B C X lst act L n Ws (u.setCells X 0 (wtC x)) := by
  obtain ⟨_, h, hG, hq, _⟩ := h
  have k : ∀ {A : Where}, ¬ A X → Kept A u (u.setCells X 0 (wtC x)) := fun {A} hA => kept_setCells hA
  have hG' : QA (fun i => FP w y a b B C i ∧ i ≠ X) (u.setCells X 0 (wtC x)) p L n Ws := hG.kept (fun i hi hf => (k (A := fun z => z ≠ X) (fun e => e rfl)).2 i hf.2 hi)
  refine ⟨x, ⟨hG'.weak (fun _ _ hf => hf.1), h.r.keptQ (below_setCells h.r.below h4) (k h1), h.last.kept (k (A := fun z => z = B) h2) rfl, h.box.kept (k (A := fun z => z = C) h3) rfl, h.nB, h.nC, h.ne, h.lB, h.lC⟩, hG', box_overY hq rfl, hx⟩
theorem PlJ.progX (h : PlJ w u p y a b B C lst act L n Ws L n Ws) (hq : QA (fun i => FP w y a b B C i ∧ i ≠ X) u' p L2 n2 Ws2) (ht : Turns (fun i => FP w y a b B C i ∧ i ≠ X) u u') : PlJ w u' p y a b B C lst act L2 n2 Ws2 L n Ws ∧ Kept (fun i => i = C ∨ i = X) u u' :=
  ⟨h.prog (hq.weak (fun _ _ hf => hf.1)) (ht.weak (fun _ _ hf => hf.1)), ht.size, fun i e hl => ht.block i hl (fun hf => e.elim hf.1.2.2.2 hf.2)⟩
theorem PlJ.newX (h : PlJ w u p y a b B C lst act L n Ws L n Ws) (hX : X < u.heap.size) : ∀ i, u.heap.size ≤ i → FP w y a b B C i ∧ i ≠ X := fun i hi => ⟨h.hF i hi, by omega⟩
theorem QOut.keptX (h : QOut w y a b L n Ws u u') (hC : ¬ QS y a b C) (hX : ¬ QS y a b X) : Kept (fun i => i = C ∨ i = X) u u' := by
  obtain ⟨_, _, _, hk, _⟩ := h
  exact hk.weak (fun i e => by rcases e with rfl | rfl <;> assumption)
end
theorem hpY_eq (Ws : List WiD) (s nd : ByteArray) : (if s.toList.isEmpty = true then Ws else hopeP Ws s nd) = hpY Ws s nd := by
  by_cases h : s.toList.isEmpty = true
  · rw [if_pos h]; unfold hpY; rw [if_pos h]
  · rw [if_neg h, hope_eq Ws s nd (by simpa using h)]
theorem noms_len (nd : ByteArray) (Ws : List WiD) : (sortB sLt sEq (nomP nd Ws)).length ≤ Ws.length := Nat.le_trans (sortB_len _ _ _) (who_len nd Ws)
end Go.Proofs.YtbmejaailhjgfaaGreat
namespace Go.Proofs.YtbmejaailhjgfaaGreat
open Go.RowKit Go.Maps
set_option linter.unusedSimpArgs false
set_option maxRecDepth 100000

/-- A part of some code. -/
def kidC : Code → Nat → Code
  | .seq a _, 0 => a
  | .seq _ b, _ => b
  | .cond _ a _, 0 => a
  | .cond _ _ b, _ => b
  | .block _ c, _ => c
  | .loop c, _ => c
  | c, _ => c
end Go.Proofs.YtbmejaailhjgfaaGreat
