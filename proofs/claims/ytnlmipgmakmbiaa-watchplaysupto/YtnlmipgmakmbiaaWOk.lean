/- What the laws of layer 13 want of the program's calls, as one structure. Plain facts. No condition. -/
import Derived.Test.YtnlmipgmakmbiaaWNext
namespace Go.Proofs.Ytnlmipgmakmbiaa
open Go.RowKit
set_option linter.unusedSimpArgs false
set_option maxRecDepth 100000

/-- Nothing but blocks of S has changed, and what was made since. -/
structure Runs (S : Where) (u u' : World) : Prop where
  os : u'.os = u.os
  tape : u'.tape = u.tape
  output : u'.output = u.output
  kept : Kept (fun b => ¬ S b) u u'
theorem Runs.below {S : Where} {u u' w0 : World} (h : Runs S u u') (hS : ∀ b, S b → w0.heap.size ≤ b) (hb : Below w0.heap.size w0 u) : Below w0.heap.size w0 u' :=
  ⟨h.os.trans hb.os, h.tape.trans hb.tape, h.output.trans hb.output, Nat.le_trans hb.size h.kept.1, fun k hk => (h.kept.2 k (fun hs => by have := hS k hs; omega) (Nat.lt_of_lt_of_le hk hb.size)).trans (hb.block k hk)⟩
theorem Runs.of {S : Where} {u u' : World} (h : Below u.heap.size u u') : Runs S u u' := ⟨h.os, h.tape, h.output, Kept.below h⟩
theorem Runs.sl {S A : Where} {u u' : World} {a : Option Addr} {n cap : Nat} {L : List Ch} (h : Runs S u u') (hs : SlAt RCh 42 640 A u a n cap L) (hA : ∀ b, A b → ¬ S b) : SlAt RCh 42 640 A u' a n cap L := hs.kept RCh.firm (h.kept.weak hA)
/-- The program's calls: PW u p S At Off: a watcher at p, in the blocks of S, with these cursors and marks. -/
structure WatchOK where
  PW : World → Nat → Where → List Int → List Bool → Prop
  kept : ∀ {u u' : World} {p : Nat} {S : Where} {At : List Int} {Off : List Bool}, PW u p S At Off → Kept S u u' → PW u' p S At Off
  lt : ∀ {u : World} {p : Nat} {S : Where} {At : List Int} {Off : List Bool}, PW u p S At Off → ∀ b, S b → b < u.heap.size
  len : ∀ {u : World} {p : Nat} {S : Where} {At : List Int} {Off : List Bool}, PW u p S At Off → At.length = 7 ∧ Off.length = 7
  new : ∀ (v : Int) (u : World), Calls Try.prog 9 #[.int .i64 v] u fun e u' => ∃ p S, e = .returned (.pointer (some ⟨p, 0, none⟩)) ∧ PW u' p S (List.replicate 7 (max 0 v)) (List.replicate 7 false) ∧ (∀ b, S b → u.heap.size ≤ b) ∧ Below u.heap.size u u'
  next : ∀ {u : World} {p : Nat} {S : Where} {At : List Int} {Off : List Bool} (k n : Int) {a : Option Addr} {m cap : Nat} {A : Where} {L : List Ch}, PW u p S At Off → SlAt RCh 42 640 A u a m cap L → Rise L → (∀ b, A b → ¬ S b) → Calls Try.prog 13 #[.pointer (some ⟨p, 0, none⟩), .int .i64 k, .int .i64 n, .slice a m cap] u fun e u' => ∃ a' n' c', e = .returned (.tuple #[.slice a' n' c', .int .i64 (nextP At Off k n L).2.1]) ∧ SlAt RCh 42 640 (Fresh u) u' a' n' c' (nextP At Off k n L).1 ∧ PW u' p S (nextP At Off k n L).2.2 Off ∧ Runs S u u'
  cut : ∀ {u : World} {p : Nat} {S : Where} {At : List Int} {Off : List Bool} (k : Int), PW u p S At Off → Calls Try.prog 16 #[.pointer (some ⟨p, 0, none⟩), .int .i64 k] u fun e u' => e = .returned (.int .i64 (cutP Off k).1) ∧ PW u' p S At (cutP Off k).2 ∧ Runs S u u'
  list : ∀ {u : World} {p : Nat} {S : Where} {At : List Int} {Off : List Bool} (k v : Int), PW u p S At Off → Calls Try.prog 18 #[.pointer (some ⟨p, 0, none⟩), .int .i64 k, .int .i64 v] u fun e u' => e = .returned (.int .i64 (listP At Off k v).1) ∧ PW u' p S (listP At Off k v).2.1 (listP At Off k v).2.2 ∧ Runs S u u'
  seen : ∀ {u : World} {p : Nat} {S : Where} {At : List Int} {Off : List Bool} (k : Int), PW u p S At Off → Calls Try.prog 21 #[.pointer (some ⟨p, 0, none⟩), .int .i64 k] u fun e u' => e = .returned (.tuple #[.int .i64 (if knB k = true then At.getD k.toNat default else 0), .int .i64 (if knB k = true then 0 else 2)]) ∧ Below u.heap.size u u'
  behind : ∀ {u : World} {p : Nat} {S : Where} {At : List Int} {Off : List Bool} (k : Int) {a : Option Addr} {m cap : Nat} {A : Where} {L : List Ch}, PW u p S At Off → SlAt RCh 42 640 A u a m cap L → Rise L → Calls Try.prog 22 #[.pointer (some ⟨p, 0, none⟩), .int .i64 k, .slice a m cap] u fun e u' => e = .returned (.tuple #[.int .i64 (if knB k = true then ((restW k (At.getD k.toNat default) L).length : Int) else 0), .int .i64 (if knB k = true then 0 else 2)]) ∧ Below u.heap.size u u'
  clone : ∀ {u : World} {p : Nat} {S : Where} {At : List Int} {Off : List Bool}, PW u p S At Off → Calls Try.prog 20 #[.pointer (some ⟨p, 0, none⟩)] u fun e u' => ∃ p' S', e = .returned (.pointer (some ⟨p', 0, none⟩)) ∧ PW u' p' S' At Off ∧ (∀ b, S' b → u.heap.size ≤ b) ∧ Below u.heap.size u u'
/-- The law's log, as a slice. -/
theorem LgOut.sl {w u : World} {L : List Ch} {e : Ending} (h : LgOut w L e u) (hb : L.length * 640 ≤ 140737488351232) : ∃ a n c, e = .returned (.slice a n c) ∧ SlAt RCh 42 640 (Fresh w) u a n c L ∧ Below w.heap.size w u := by
  obtain ⟨v, rfl, hr⟩ := h
  obtain ⟨a, c, rfl, s⟩ := (hr.wA13 RCh.firm (A' := Fresh w) (fun _ h => h.elim)).slF (bytes := 640) RCh.firm hb
  exact ⟨a, _, c, rfl, s, hr.below⟩
end Go.Proofs.Ytnlmipgmakmbiaa
