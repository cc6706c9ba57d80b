/- What a right taint, and something right to bear, is, as plain functions. No program. No condition. -/
import Derived.Test.YtgffnkfiecieeaaTPlain
namespace Go.Proofs.Ytgffnkfiecieeaa
open Go.RowKit

/-- Has one of the list t's key and t's effect? -/
def twinB (L : List Tnt) (t : Tnt) : Bool := L.any fun x => sEq x.1 t.1 && (x.2.2 == t.2.2)
def effB (e : Int) : Bool := (e == 1) || (e == 2)
def taintOk (x : Tnt) : Bool := wordB x.1 && valB x.2.1 && effB x.2.2
def tOk (L : List Tnt) (i : Nat) : Bool := taintOk (L.getD i default) && !twinB (L.take i) (L.getD i default)
def checkT (L : List Tnt) : Int := if 64 < L.length then 3 else if allTo L.length (tOk L) then 0 else 30
def bearOk (b : Bear) : Bool := (b.2.2.2 == 0 || effB b.2.2.2) && (if b.2.2.1 then valB b.1 && sNil b.2.1 else wordB b.1 && valB b.2.1)
def checkBr (L : List Bear) : Int := if 64 < L.length then 3 else if allTo L.length (fun i => bearOk (L.getD i default)) then 0 else 30
theorem reti {a b : Int} (h : a = b) : Ending.returned (.int .i64 a) = .returned (.int .i64 b) := by rw [h]
theorem checkT_long {L : List Tnt} (h : 64 < L.length) : checkT L = 3 := if_pos h
theorem checkT_bad {L : List Tnt} {k : Nat} (h : ¬ 64 < L.length) (hk : k < L.length) (hb : tOk L k = false) : checkT L = 30 := by
  unfold checkT; rw [if_neg h, allTo_false hk hb]; rfl
theorem checkT_ok {L : List Tnt} (h : ¬ 64 < L.length) (hall : ∀ j, j < L.length → tOk L j = true) : checkT L = 0 := by
  unfold checkT; rw [if_neg h, allTo_true hall]; rfl
theorem checkBr_long {L : List Bear} (h : 64 < L.length) : checkBr L = 3 := if_pos h
theorem checkBr_bad {L : List Bear} {k : Nat} (h : ¬ 64 < L.length) (hk : k < L.length) (hb : bearOk (L.getD k default) = false) : checkBr L = 30 := by
  unfold checkBr; rw [if_neg h, allTo_false hk hb]; rfl
theorem checkBr_ok {L : List Bear} (h : ¬ 64 < L.length) (hall : ∀ j, j < L.length → bearOk (L.getD j default) = true) : checkBr L = 0 := by
  unfold checkBr; rw [if_neg h, allTo_true hall]; rfl
theorem getD_take {α : Type} [Inhabited α] (L : List α) (m i : Nat) (h : i < m) (hl : i < L.length) : (L.take m).getD i default = L.getD i default := by
  rw [getE _ _ (by rw [List.length_take]; omega), getE _ _ hl]; simp
end Go.Proofs.Ytgffnkfiecieeaa
