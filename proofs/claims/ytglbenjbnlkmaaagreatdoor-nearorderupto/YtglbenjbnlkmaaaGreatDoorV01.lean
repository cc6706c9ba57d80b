/- Slices of a slice, and what is needed of the order of what is placed. No condition. -/
import Derived.Test.YtglbenjbnlkmaaaGreatDoorQ26
import Derived.Test.YtglbenjbnlkmaaaGreatDoorQ17
import Derived.Test.YtglbenjbnlkmaaaGreatDoorQ27
namespace Go.Proofs.YtglbenjbnlkmaaaGreatDoor
open Go.RowKit
set_option linter.unusedSimpArgs false
set_option maxRecDepth 100000

theorem Row.slO8 {α : Type} [Inhabited α] {R : Rep α} {k : Nat} (hR : Firm R k) {bytes : Nat} {A : Where} {w0 u : World} {e : TypeId} {v : Value} {L : List α} (h : Row R k A w0 u e v L) (hb : L.length * bytes ≤ 140737488351232) :
    ∃ a cap, v = .slice a L.length cap ∧ SlAt R k bytes (fun b => A b ∨ v.ownBlock = some b) u a L.length cap L := by
  obtain ⟨xs, h1, h2⟩ := h
  obtain ⟨a, cap, e1, h3⟩ := sl_of_owns (bytes := bytes) hR h1.2 h2 hb
  exact ⟨a, cap, e1, h3.weak hR (fun b _ hb => by rcases hb with hb | hb; exact .inl hb.1; exact .inr hb)⟩
def dropA8 (a : Option Addr) (cap t : Nat) : Option Addr := match a with | none => none | some ad => if cap = t then some ad else some (ad.add (t * 17))
theorem SlAt.drop8 {α : Type} [Inhabited α] {R : Rep α} {k bytes : Nat} {A : Where} {w : World} {B off n cap : Nat} {L : List α} (h : SlAt R k bytes A w (some ⟨B, off, none⟩) n cap L) {t : Nat} (ht : t ≤ n) : SlAt R k bytes A w (some ⟨B, off + t * k, none⟩) (n - t) (cap - t) (L.drop t) := by
  obtain ⟨h1, h2, h3, h4, h5⟩ := h
  refine ⟨by rw [List.length_drop]; omega, by omega, (fun h => by cases h), Nat.le_trans (Nat.mul_le_mul_right bytes (Nat.sub_le _ _)) h4, fun h0 => ?_⟩
  obtain ⟨B', off', e, hB, hA, hc⟩ := h5 (by omega)
  injection e with e
  injection e with e1 e2
  subst e1 e2
  refine ⟨B, _, rfl, hB, hA, fun i hi => ?_⟩
  obtain ⟨cs, h6, h7⟩ := hc (t + i) (by omega)
  have : (L.drop t).getD i default = L.getD (t + i) default := by
    rw [getE _ _ (show i < (L.drop t).length by rw [List.length_drop]; omega), getE _ _ (show t + i < L.length by omega), List.getElem_drop]
  rw [this]
  refine ⟨cs, h6, fun j v hj => ?_⟩
  have := h7 j v hj
  rwa [Nat.add_mul, ← Nat.add_assoc] at this
theorem sl_dropA8 {A : Where} {u : World} {a : Option Addr} {n cap t : Nat} {L : List PlacedD} (h : SlAt RPlaced 17 320 A u a n cap L) (ht : t ≤ n) : SlAt RPlaced 17 320 A u (dropA8 a cap t) (n - t) (cap - t) (L.drop t) := by
  have hl := h.1
  by_cases hn : n - t = 0
  · have hd : L.drop t = [] := List.drop_eq_nil_of_le (by omega)
    rw [hn, hd]
    refine SlAt.nil _ _ _ _ (fun e => ?_)
    cases a with
    | none => have := h.2.2.1 rfl; omega
    | some ad => simp only [dropA8] at e; split at e <;> cases e
  · obtain ⟨B, off, rfl, _⟩ := h.2.2.2.2 (by omega)
    have hc : ¬ cap = t := by have := h.2.1; omega
    have e : dropA8 (some ⟨B, off, none⟩) cap t = some ⟨B, off + t * 17, none⟩ := by simp only [dropA8, hc, if_false]; rw [add_lit]
    rw [e]
    exact SlAt.drop8 h ht
theorem SlAt.take8 {α : Type} [Inhabited α] {R : Rep α} {k bytes : Nat} {A : Where} {w : World} {a : Option Addr} {n cap : Nat} {L : List α} (h : SlAt R k bytes A w a n cap L) {t : Nat} (ht : t ≤ n) : SlAt R k bytes A w a t cap (L.take t) := by
  obtain ⟨h1, h2, h3, h4, h5⟩ := h
  refine ⟨by rw [List.length_take]; omega, by omega, h3, Nat.le_trans (Nat.mul_le_mul_right bytes ht) h4, fun h0 => ?_⟩
  obtain ⟨B, off, e, hB, hA, hc⟩ := h5 (by omega)
  refine ⟨B, off, e, hB, hA, fun i hi => ?_⟩
  obtain ⟨cs, h6, h7⟩ := hc i (by omega)
  have : (L.take t).getD i default = L.getD i default := by
    rw [getE _ _ (show i < (L.take t).length by rw [List.length_take]; omega), getE _ _ (show i < L.length by omega), List.getElem_take]
  rw [this]
  exact ⟨cs, h6, h7⟩
theorem Among8_calls (n : Int) (m : Nat) (hm : 0 < m) (hml : m ≤ 140737488355328) (w : World) : Calls Tryz.prog 15 #[.int .i64 n, .int .i64 m] w fun e w' => (∃ k : Nat, e = .returned (.int .i64 k) ∧ k < m) ∧ w' = w := by
  have hw : IntKind.u64.wrap (m : Int) = (m : Int) := by simp [IntKind.wrap, IntKind.bits, IntKind.signed]; omega
  have hz : ((m : Int) == 0) = false := by rw [beq_eq_false_iff_ne]; omega
  have hz' : ¬ (m : Int) = 0 := by omega
  generalize hr : IntKind.u64.wrap n = r
  have hr0 : 0 ≤ r := by rw [← hr]; simp [IntKind.wrap, IntKind.bits, IntKind.signed]; omega
  have h1 : 0 ≤ r % (m : Int) := Int.emod_nonneg _ (by omega)
  have h2 : r % (m : Int) < (m : Int) := Int.emod_lt_of_pos _ (by omega)
  have h3 : r.tmod (m : Int) = r % (m : Int) := Int.tmod_eq_emod_of_nonneg hr0
  go_enter Tryz.func15, Tryz.ntmps15
  go_wp2
  go_ret
  refine ⟨⟨(r % (m : Int)).toNat, ?_, by omega⟩, rfl⟩
  rw [Int.toNat_of_nonneg h1]
  rfl
theorem cost_perm {l m : List PlacedD} (h : l.Perm m) : cost l = cost m := by
  unfold cost; exact (h.map _).sum_nat
end Go.Proofs.YtglbenjbnlkmaaaGreatDoor
