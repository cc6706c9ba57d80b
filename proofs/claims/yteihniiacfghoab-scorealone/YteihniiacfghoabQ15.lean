/- Slices of slices, a number among so many, one thing borne that bears all. Condition: the slice lies as is said of it. -/
import Derived.Test.YteihniiacfghoabQ14
namespace Go.Proofs.Yteihniiacfghoab
open Go.RowKit Go.Maps
set_option linter.unusedSimpArgs false
set_option maxRecDepth 100000

def dropAS (k : Nat) (a : Option Addr) (cap t : Nat) : Option Addr := match a with | none => none | some ad => if cap = t then some ad else some (ad.add (t * k))
theorem SlAt.dropS {α : Type} [Inhabited α] {R : Rep α} {k bytes : Nat} {A : Where} {w : World} {B off n cap : Nat} {L : List α} (h : SlAt R k bytes A w (some ⟨B, off, none⟩) n cap L) {t : Nat} (ht : t ≤ n) : SlAt R k bytes A w (some ⟨B, off + t * k, none⟩) (n - t) (cap - t) (L.drop t) := by
  obtain ⟨h1, h2, h3, h4, h5⟩ := h
  refine ⟨by rw [List.length_drop]; omega, by omega, (fun h => by cases h), Nat.le_trans (Nat.mul_le_mul_right bytes (Nat.sub_le _ _)) h4, fun h0 => ?_⟩
  obtain ⟨B', off', e, hB, hA, hc⟩ := h5 (by omega)
  injection e with e
  injection e with e1 e2
  subst e1 e2
  refine ⟨B, _, rfl, hB, hA, fun i hi => ?_⟩
  obtain ⟨cs, h6, h7⟩ := hc (t + i) (by omega)
  have : (L.drop t).getD i default = L.getD (t + i) default := by
    rw [getE _ _ (show i < (L.drop t).length by rw [List.length_drop]; omega), getE _ _ (show t + i < L.length by omega), List.getElem_drop]
  rw [this]
  refine ⟨cs, h6, fun j v hj => ?_⟩
  have := h7 j v hj
  rwa [Nat.add_mul, ← Nat.add_assoc] at this
theorem sl_dropAS {α : Type} [Inhabited α] {R : Rep α} {k bytes : Nat} {A : Where} {u : World} {a : Option Addr} {n cap t : Nat} {L : List α} (h : SlAt R k bytes A u a n cap L) (ht : t ≤ n) : SlAt R k bytes A u (dropAS k a cap t) (n - t) (cap - t) (L.drop t) := by
  have hl := h.1
  by_cases hn : n - t = 0
  · have hd : L.drop t = [] := List.drop_eq_nil_of_le (by omega)
    rw [hn, hd]
    refine SlAt.nil _ _ _ _ (fun e => ?_)
    cases a with
    | none => have := h.2.2.1 rfl; omega
    | some ad => simp only [dropAS] at e; split at e <;> cases e
  · obtain ⟨B, off, rfl, _⟩ := h.2.2.2.2 (by omega)
    have hc : ¬ cap = t := by have := h.2.1; omega
    have e : dropAS k (some ⟨B, off, none⟩) cap t = some ⟨B, off + t * k, none⟩ := by simp only [dropAS, hc, if_false]; rw [add_lit]
    rw [e]
    exact SlAt.dropS h ht
set_option maxHeartbeats 1000000 in
theorem AmongS_calls (n : Int) (m : Nat) (hm : 0 < m) (hml : m ≤ 140737488355328) (w : World) : Calls Try.prog 5 #[.int .i64 n, .int .i64 m] w fun e w' => (∃ k : Nat, e = .returned (.int .i64 k) ∧ k < m) ∧ w' = w := by
  have hw : IntKind.u64.wrap (m : Int) = (m : Int) := by simp [IntKind.wrap, IntKind.bits, IntKind.signed]; omega
  have hz : ((m : Int) == 0) = false := by rw [beq_eq_false_iff_ne]; omega
  have hz' : ¬ (m : Int) = 0 := by omega
  generalize hr : IntKind.u64.wrap n = r
  have hr0 : 0 ≤ r := by rw [← hr]; simp [IntKind.wrap, IntKind.bits, IntKind.signed]; omega
  have h1 : 0 ≤ r % (m : Int) := Int.emod_nonneg _ (by omega)
  have h2 : r % (m : Int) < (m : Int) := Int.emod_lt_of_pos _ (by omega)
  have h3 : r.tmod (m : Int) = r % (m : Int) := Int.tmod_eq_emod_of_nonneg hr0
  go_enter Try.func5, Try.ntmps5
  go_wp2
  go_ret
  refine ⟨⟨(r % (m : Int)).toNat, ?_, by omega⟩, rfl⟩
  rw [Int.toNat_of_nonneg h1]
  rfl
def allS : Bear := (⟨#[]⟩, ⟨#[]⟩, true, 0)
theorem bears_allS (t : Tnt) : bearsB allS t = true := by
  have h : sNil (⟨#[]⟩ : ByteArray) = true := by decide +kernel
  simp [bearsB, allS, h]
theorem borne_allS (A C : List Bear) (t : Tnt) : borneB (A ++ [allS] ++ C) t = true := by
  simp [borneB, bears_allS]
theorem open_allS (e : Int) (A C : List Bear) (t : Tnt) : openT e (A ++ [allS] ++ C) t = false := by
  simp only [openT, borne_allS]; simp
theorem shy_allS (L : List Tnt) (A C : List Bear) : shyN L (A ++ [allS] ++ C) = 0 := by
  rw [shyN, List.countP_eq_zero]
  intro t _
  rw [open_allS]
  simp
def aloneP (p : PodD) : PodD := (p.1, p.2.1, p.2.2.1, p.2.2.2.1, [allS], p.2.2.2.2.2.1, [], p.2.2.2.2.2.2.2)
theorem alone_calm (p : PodD) (L : List InfoD) : ∀ y ∈ calmP (aloneP p) L, y = 100 := fun y hy => by
  have h := norm_zero (L.map (shyI (aloneP p))) true (fun x hx => by
    obtain ⟨i, _, rfl⟩ := List.mem_map.1 hx
    show ((shyN i.1.2.2.1 [allS] : Nat) : Int) = 0
    rw [show shyN i.1.2.2.1 [allS] = 0 from shy_allS i.1.2.2.1 [] []]; rfl) y hy
  rw [if_pos rfl] at h; exact h
theorem alone_like (p : PodD) (L : List InfoD) : ∀ y ∈ likedP (aloneP p) L, y = 0 := fun y hy => by
  have h := norm_zero (L.map (likeI (aloneP p))) false (fun x hx => by
    obtain ⟨i, _, rfl⟩ := List.mem_map.1 hx
    rfl) y hy
  rw [if_neg (by decide)] at h; exact h
theorem bear_rep (A : Where) (u : World) : RBear A u [.string ⟨#[]⟩, .string ⟨#[]⟩, .bool true, .int .i64 0] allS := ⟨[.string ⟨#[]⟩], _, rfl, ⟨rfl, by decide⟩, [.string ⟨#[]⟩], _, rfl, ⟨rfl, by decide⟩, [.bool true], [.int .i64 0], rfl, rfl, rfl⟩
/-- The pod that bears all and likes nothing, in its cells. -/
theorem alone_rep {ps : List Value} {p : PodD} {u : World} {ra : Option Addr} {rc : Nat} (h : RPod (fun _ => True) u ps p) (hs : SlAt RBear 4 48 (fun _ => True) u ra 1 rc [allS]) : RPod (fun _ => True) u ((ps.set 8 (.slice none 0 0)).set 6 (.slice ra 1 rc)) (aloneP p) := by
  obtain ⟨h2, h6, h7, h8, h9, h10, h11, h12, h13, eps, z1, s2, _, s7, _, s9, s10, s11, s12, s13, z2, z3⟩ := h.out
  have e : (ps.set 8 (.slice none 0 0)).set 6 (.slice ra 1 rc) = [.string (aloneP p).1, .int .i64 (aloneP p).2.1, .slice h2.1 h2.2.1 h2.2.2, .int .i64 p.2.2.2.1.1, .int .i64 p.2.2.2.1.2.1, .int .i64 p.2.2.2.1.2.2, .slice ra 1 rc, .slice h7.1 h7.2.1 h7.2.2, .slice none 0 0, .slice h9.1 h9.2.1 h9.2.2, .slice h10.1 h10.2.1 h10.2.2, .slice h11.1 h11.2.1 h11.2.2, .slice h12.1 h12.2.1 h12.2.2, .slice h13.1 h13.2.1 h13.2.2, .string p.2.2.2.2.2.2.2.2.2.2.2.2.1, .string p.2.2.2.2.2.2.2.2.2.2.2.2.2] := by rw [eps]; rfl
  rw [e]
  exact RPod.mk (x := aloneP p) (h2 := h2) (h6 := (ra, 1, rc)) (h7 := h7) (h8 := (none, 0, 0)) (h9 := h9) (h10 := h10) (h11 := h11) (h12 := h12) (h13 := h13) z1 s2 hs s7 (SlAt.nil _ _ _ _ (fun _ => rfl)) s9 s10 s11 s12 s13 z2 z3
theorem infoInfoA : (Try.prog.info? 49).map (fun i => (i.zero, i.size, i.bytes)) = some (some (.agg #[.string ⟨#[]⟩, .slice none 0 0, .slice none 0 0, .bool false, .int .i64 0, .int .i64 0, .int .i64 0, .int .i64 0, .int .i64 0, .slice none 0 0, .int .i64 0, .int .i64 0, .int .i64 0, .slice none 0 0, .slice none 0 0]), 15, 208) := by kernel_rfl
theorem infoBearA : (Try.prog.info? 42).map (fun i => (i.zero, i.size, i.bytes)) = some (some (.agg #[.string ⟨#[]⟩, .string ⟨#[]⟩, .bool false, .int .i64 0]), 4, 48) := by kernel_rfl
end Go.Proofs.Yteihniiacfghoab
