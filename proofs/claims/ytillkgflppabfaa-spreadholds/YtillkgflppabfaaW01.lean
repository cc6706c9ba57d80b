/- The law SpreadLeast's walk. Condition: the arguments lie as is said of them; the program's contracts. -/
import Derived.Test.YtillkgflppabfaaQ22
namespace Go.Proofs.Ytillkgflppabfaa
open Go.RowKit
set_option linter.unusedSimpArgs false
set_option maxRecDepth 100000

def setSpr (p : PodD) (l : List SpreadD) : PodD := (p.1, p.2.1, p.2.2.1, p.2.2.2.1, p.2.2.2.2.1, p.2.2.2.2.2.1, p.2.2.2.2.2.2.1, p.2.2.2.2.2.2.2.1, p.2.2.2.2.2.2.2.2.1, p.2.2.2.2.2.2.2.2.2.1, l, p.2.2.2.2.2.2.2.2.2.2.2)
theorem RPod.setSpr {A : Where} {w : World} {cs : List Value} {p : PodD} (h : RPod A w cs p) {g : Hd} {l : List SpreadD} (hs : SlAt RSpread 4 56 A w g.1 g.2.1 g.2.2 l) : RPod A w (cs.set 12 (.slice g.1 g.2.1 g.2.2)) (setSpr p l) := by
  obtain ⟨h2, h6, h7, h8, h9, h10, h11, h12, h13, rfl, p0, s2, s6, s7, s8, s9, s10, s11, s12, s13, q1, q2⟩ := h.out
  exact RPod.mk (x := Proofs.Ytillkgflppabfaa.setSpr p l) (h2 := h2) (h6 := h6) (h7 := h7) (h8 := h8) (h9 := h9) (h10 := h10) (h11 := h11) (h12 := g) (h13 := h13) p0 s2 s6 s7 s8 s9 s10 s11 hs s13 q1 q2
theorem least_open (p : PodD) (s : SpreadD) (hs : 1 ≤ s.2.1) (hl : s.2.2.1 = 0) (N : List NodeD) (l : List PlacedD) (h : domsP s.1 N ≠ []) (ho : othersN p.1 l = l) : ∃ n ∈ N, spreadP 12 (setSpr p [s]) (nLabs n) N l = 0 := by
  obtain ⟨n, hn, h1, h2⟩ := least_plain s N l h
  refine ⟨n, hn, ?_⟩
  have e1 : othersN (setSpr p [s]).1 l = l := ho
  have e2 : pSpreads (setSpr p [s]) = [s] := rfl
  have hb : badS (pLabs (setSpr p [s])) (nLabs n) N l s = false := by
    unfold badS
    rw [h1, h2, hl]
    simp only [Bool.not_true, Bool.false_or, decide_eq_false_iff_not]
    have hlen : ¬ ((domsP s.1 N).length : Int) < 0 := by omega
    rw [if_neg hlen]
    split <;> omega
  unfold spreadP
  rw [e1, e2]
  simp [hb]
theorem others_idem (nm : ByteArray) (l : List PlacedD) : othersN nm (othersN nm l) = othersN nm l := by unfold othersN; rw [List.filter_filter]; congr 1; funext x; simp
def LtS (P B o : Nat) (nm x : ByteArray) (u : World) : Prop := u.cell? ⟨P, 0, none⟩ = some (.string nm) ∧ u.cell? ⟨B, o, none⟩ = some (.string x)
def LtK (cs : List Value) (P B o : Nat) (g : Hd) (u : World) : Prop := BoxL u P cs ∧ u.cell? ⟨B, o, none⟩ = some (.slice g.1 g.2.1 g.2.2)
end Go.Proofs.Ytillkgflppabfaa
