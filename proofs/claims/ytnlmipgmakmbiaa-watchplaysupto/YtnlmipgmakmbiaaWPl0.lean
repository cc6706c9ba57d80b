/- The program's watcher and the document's side by side: what the law WatchPlays keeps from call to call. Plain facts on worlds. No condition. -/
import Derived.Test.YtnlmipgmakmbiaaWApW
namespace Go.Proofs.Ytnlmipgmakmbiaa
open Go.RowKit
set_option linter.unusedSimpArgs false
set_option maxRecDepth 100000

section
variable {w u : World} {p ga ca gb cb : Nat} {At : List Int} {Off : List Bool}
theorem Rw7.keptX (h : Rw7 w u p ga ca gb cb At Off) {u' : World} (hb : Below w.heap.size w u') (hk : Kept (fun b => b = p ∨ b = ga ∨ b = gb) u u') : Rw7 w u' p ga ca gb cb At Off :=
  ⟨⟨h.e.box.kept hk (.inl rfl), h.e.ra.keptX13 RInt.firm hb (hk.weak (fun b e => .inr (.inl (e.elim False.elim (fun e => by simpa [Value.ownBlock] using e.symm))))), h.e.rb.keptX13 RBool.firm hb (hk.weak (fun b e => .inr (.inr (e.elim False.elim (fun e => by simpa [Value.ownBlock] using e.symm))))), h.e.lo, h.e.na, h.e.nb, h.e.ne⟩, h.la, h.lb⟩
/-- Over an earlier world. -/
theorem Row.from13 {α : Type} [Inhabited α] {R : Rep α} {k : Nat} {w0 w1 u : World} {e : TypeId} {v : Value} {L : List α} (h : Row R k (fun _ => False) w1 u e v L) (hw : Below w0.heap.size w0 w1) : Row R k (fun _ => False) w0 u e v L := by
  obtain ⟨xs, ⟨h1, h2⟩, h3⟩ := h
  exact ⟨xs, ⟨on2 hw h1, Go.Joins.ownsRow_le h2 hw.size⟩, h3⟩
theorem Rw7.from (h : Rw7 w u p ga ca gb cb At Off) {w0 : World} (hw : Below w0.heap.size w0 w) : Rw7 w0 u p ga ca gb cb At Off :=
  ⟨⟨h.e.box, h.e.ra.from13 hw, h.e.rb.from13 hw, Nat.le_trans hw.size h.e.lo, h.e.na, h.e.nb, h.e.ne⟩, h.la, h.lb⟩
end
/-- Both watchers stand alike; the log lies in LB; nobody's blocks are another's. -/
structure PlS (W : WatchOK) (w : World) (LB : Where) (p2 ga ca gb cb : Nat) (la : Option Addr) (ln lc : Nat) (Lg : List Ch) (p : Nat) (S : Where) (At : List Int) (Off : List Bool) (u : World) : Prop where
  pw : W.PW u p S At Off
  rw : Rw7 w u p2 ga ca gb cb At Off
  sl : SlAt RCh 42 640 LB u la ln lc Lg
  bw : Below w.heap.size w u
  lo : ∀ b, S b → w.heap.size ≤ b
  ap : ∀ b, S b → b ≠ p2 ∧ b ≠ ga ∧ b ≠ gb ∧ ¬ LB b
  lb : ∀ b, LB b → b ≠ p2 ∧ b ≠ ga ∧ b ≠ gb
  li : ∀ b, LB b → b < u.heap.size
section
variable {W : WatchOK} {w u : World} {LB : Where} {p2 ga ca gb cb : Nat} {la : Option Addr} {ln lc : Nat} {Lg : List Ch} {p : Nat} {S : Where} {At : List Int} {Off : List Bool}
theorem PlS.on (h : PlS W w LB p2 ga ca gb cb la ln lc Lg p S At Off u) {u' : World} (hb : Below u.heap.size u u') : PlS W w LB p2 ga ca gb cb la ln lc Lg p S At Off u' :=
  ⟨W.kept h.pw (Kept.below hb), h.rw.on hb, h.sl.on RCh.firm hb, on2 h.bw hb, h.lo, h.ap, h.lb, fun b hx => Nat.lt_of_lt_of_le (h.li b hx) hb.size⟩
/-- The program's call first, then the document's: both have gone on alike. -/
theorem PlS.both (h : PlS W w LB p2 ga ca gb cb la ln lc Lg p S At Off u) {u1 u2 : World} {At' : List Int} {Off' : List Bool} (hp : W.PW u1 p S At' Off') (hr : Runs S u u1) (hw : Rw7 w u2 p2 ga ca gb cb At' Off') (hk : Kept (Oth13 ga gb) u1 u2) : PlS W w LB p2 ga ca gb cb la ln lc Lg p S At' Off' u2 :=
  ⟨W.kept hp (hk.weak (fun b hb => ⟨(h.ap b hb).2.1, (h.ap b hb).2.2.1⟩)), hw, (hr.sl h.sl (fun b h1 h2 => (h.ap b h2).2.2.2 h1)).kept RCh.firm (hk.weak (fun b hb => ⟨(h.lb b hb).2.1, (h.lb b hb).2.2⟩)), hw.e.below, h.lo, h.ap, h.lb, fun b hx => Nat.lt_of_lt_of_le (h.li b hx) (Nat.le_trans hr.kept.1 hk.1)⟩
/-- Behind the program's call: the document's watcher as it was. -/
theorem PlS.mid (h : PlS W w LB p2 ga ca gb cb la ln lc Lg p S At Off u) {u1 : World} (hr : Runs S u u1) : Rw7 w u1 p2 ga ca gb cb At Off ∧ SlAt RCh 42 640 LB u1 la ln lc Lg ∧ Below w.heap.size w u1 := by
  have hb := hr.below h.lo h.bw
  exact ⟨h.rw.keptX hb (hr.kept.weak (fun b e hs => by
    obtain ⟨a1, a2, a3, _⟩ := h.ap b hs
    rcases e with e | e | e
    · exact a1 e
    · exact a2 e
    · exact a3 e)), hr.sl h.sl (fun b h1 h2 => (h.ap b h2).2.2.2 h1), hb⟩
/-- A clone goes on; what is done to the old one does not touch it. -/
theorem PlS.clone (h : PlS W w LB p2 ga ca gb cb la ln lc Lg p S At Off u) {u1 u2 : World} {p' : Nat} {S' : Where} (hp : W.PW u1 p' S' At Off) (hn : ∀ b, S' b → u.heap.size ≤ b) (hb : Below u.heap.size u u1) (hr : Runs S u1 u2) : PlS W w LB p2 ga ca gb cb la ln lc Lg p' S' At Off u2 := by
  have h1 := h.on hb
  obtain ⟨m1, m2, m3⟩ := h1.mid hr
  have hz := h.rw.e.box.1
  have ha := (h.rw.e.ra.lt (b := ga) rfl).2
  have hg := (h.rw.e.rb.lt (b := gb) rfl).2
  refine ⟨W.kept hp (hr.kept.weak (fun b h2 h3 => by have h4 := hn b h2; have h5 := W.lt h.pw b h3; omega)), m1, m2, m3, fun b hx => Nat.le_trans h.bw.size (hn b hx), fun b hx => ?_, h.lb, fun b hx => Nat.lt_of_lt_of_le (h1.li b hx) hr.kept.1⟩
  have h4 := hn b hx
  exact ⟨by omega, by omega, by omega, fun h5 => by have h6 := h.li b h5; omega⟩
end
end Go.Proofs.Ytnlmipgmakmbiaa
