/- The program's calls of layer 13 are as the laws want them. Condition: none. -/
import Derived.Test.YtnlmipgmakmbiaaWPgD
namespace Go.Proofs.Ytnlmipgmakmbiaa
open Go.RowKit
set_option linter.unusedSimpArgs false
set_option maxRecDepth 100000

theorem runs_of13 {S : Where} {u u' : World} {p : Nat} (hS : ∀ b, S b ↔ b = p) (h : u'.os = u.os ∧ u'.tape = u.tape ∧ u'.output = u.output ∧ Kept (fun b => b ≠ p) u u') : Runs S u u' := ⟨h.1, h.2.1, h.2.2.1, h.2.2.2.weak (fun b hb e => hb ((hS b).2 e))⟩
def watchOK : WatchOK where
  PW u p S At Off := (∀ b, S b ↔ b = p) ∧ PWt u p At Off
  kept := fun h hk => ⟨h.1, h.2.kept hk ((h.1 _).2 rfl)⟩
  lt := fun h b hb => by rw [(h.1 b).1 hb]; exact h.2.box.1
  len := fun h => ⟨h.2.la, h.2.lb⟩
  new := fun v u => (pNew_calls v u).mono (by
    rintro e u' ⟨rfl, hp, hb⟩
    exact ⟨u.heap.size, fun b => b = u.heap.size, rfl, ⟨fun _ => Iff.rfl, hp⟩, fun b hb => Nat.le_of_eq hb.symm, hb⟩)
  next := fun {_ _ _ _ _} k n {a m cap A L} h hL _ _ => (pNext_calls _ _ _ k n a m cap A L _ h.2 hL).mono (by
    rintro e u' ⟨a', n', c', rfl, s', hp, hr⟩
    exact ⟨a', n', c', rfl, s', ⟨h.1, hp⟩, runs_of13 h.1 hr⟩)
  cut := fun k h => (pCut_calls _ _ _ k _ h.2).mono (by
    rintro e u' ⟨rfl, hp, hr⟩
    exact ⟨rfl, ⟨h.1, hp⟩, runs_of13 h.1 hr⟩)
  list := fun k v h => (pList_calls _ _ _ k v _ h.2).mono (by
    rintro e u' ⟨rfl, hp, hr⟩
    exact ⟨rfl, ⟨h.1, hp⟩, runs_of13 h.1 hr⟩)
  seen := fun k h => (pSeen_calls _ _ _ k _ h.2).mono (by
    rintro e u' ⟨rfl, rfl⟩
    exact ⟨rfl, Below.refl _ _⟩)
  behind := fun {_ _ _ _ _} k {a m cap A L} h hL _ => pBehind_calls _ _ _ k a m cap A L _ h.2 hL
  clone := fun h => (pClone_calls _ _ _ _ h.2).mono (by
    rintro e u' ⟨rfl, hp, hb⟩
    exact ⟨_, fun b => b = _, rfl, ⟨fun _ => Iff.rfl, hp⟩, fun b hb => Nat.le_of_eq hb.symm, hb⟩)
end Go.Proofs.Ytnlmipgmakmbiaa
