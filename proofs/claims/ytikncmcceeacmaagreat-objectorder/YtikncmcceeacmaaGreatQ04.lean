/- States that are handed back; rows that are written into, and its like. No condition beyond what each says. -/
import Derived.Laws.Cover1
import Derived.Test.YtikncmcceeacmaaGreatQ03
namespace Go.Proofs.YtikncmcceeacmaaGreat
set_option maxHeartbeats 16000000
set_option maxRecDepth 100000
open Tryz Go.RowKit
set_option linter.unusedSimpArgs false
def StTup (A : Where) (w : World) (r : StateD × Bool × Int) (e : Ending) (w' : World) : Prop := ∃ g0 g1 g2 g3 g4 g5 : Hd, e = .returned (.tuple #[.agg #[J g0, J g1, J g2, J g3, J g4, J g5], .bool r.2.1, .int .i64 r.2.2]) ∧ OwnSt (Lo A w) w w' (J g0) (J g1) (J g2) (J g3) (J g4) (J g5) r.1 ∧ Below w.heap.size w w'
def StTup2 (A : Where) (w : World) (r : StateD × Bool) (e : Ending) (w' : World) : Prop := ∃ g0 g1 g2 g3 g4 g5 : Hd, e = .returned (.tuple #[.agg #[J g0, J g1, J g2, J g3, J g4, J g5], .bool r.2]) ∧ OwnSt (Lo A w) w w' (J g0) (J g1) (J g2) (J g3) (J g4) (J g5) r.1 ∧ Below w.heap.size w w'
def Room (b n : Nat) (u : World) : Prop := u.there b 0 n ∧ b < u.heap.size
theorem Room.on {b n : Nat} {u u' : World} (h : Room b n u) (hb : Below u.heap.size u u') : Room b n u' := ⟨there_on h.1 hb h.2, Nat.lt_of_lt_of_le h.2 hb.size⟩
theorem Held.grown {w u u' : World} {L : List (Nat × List Value)} {M : List (Nat × Nat)} {row : Option Nat} (h : Held w L M u) (hg : u.grownBy u' row) (hr : ∀ b, row = some b → w.heap.size ≤ b ∧ (∀ x ∈ L, x.1 ≠ b) ∧ ∀ y ∈ M, y.1 ≠ b) : Held w L M u' := by
 refine ⟨h.1.grown hg h.1.size (fun k e => (hr k e).1), fun x hx => ?_, fun y hy => ?_⟩
 ·
  obtain ⟨g1, g2, g3, g4⟩ := h.2.1 x hx
  have hk := hg.block x.1 g2 (fun e => (hr x.1 e.symm).2.1 x hx rfl)
  exact ⟨g1, Nat.lt_of_lt_of_le g2 hg.size, fun j v hj => (World.cell?_of_block (w := u) (a := ⟨x.1, 0 + j, none⟩) hk).trans (g3 j v hj), fun j hj => by rw [World.cell?_of_block (w := u) (a := ⟨x.1, 0 + j, none⟩) hk, World.frozen?_of_block (w := u) (a := ⟨x.1, 0 + j, none⟩) hk]; exact g4 j hj⟩
 ·
  obtain ⟨g1, g2, g3⟩ := h.2.2 y hy
  have hk := hg.block y.1 g2 (fun e => (hr y.1 e.symm).2.2 y hy rfl)
  exact ⟨g1, Nat.lt_of_lt_of_le g2 hg.size, fun j hj => by rw [World.cell?_of_block (w := u) (a := ⟨y.1, 0 + j, none⟩) hk, World.frozen?_of_block (w := u) (a := ⟨y.1, 0 + j, none⟩) hk]; exact g3 j hj⟩
theorem Held.other {w u : World} {L : List (Nat × List Value)} {M : List (Nat × Nat)} {b o : Nat} {cs : List Value} (h : Held w L M u) (hb : w.heap.size ≤ b) (hL : ∀ x ∈ L, x.1 ≠ b) : Held w L M (u.setCells b o cs) := by
 refine ⟨below_setCells h.1 hb, fun x hx => ?_, fun y hy => ?_⟩
 ·
  obtain ⟨g1, g2, g3, g4⟩ := h.2.1 x hx
  exact ⟨g1, by rw [size_setCells]; exact g2, World.rangeAt_setCells_apart g3 b o cs (.inl (hL x hx)), World.there_setCells g4 b o cs⟩
 ·
  obtain ⟨g1, g2, g3⟩ := h.2.2 y hy
  exact ⟨g1, by rw [size_setCells]; exact g2, World.there_setCells g3 b o cs⟩
section
variable {α : Type} [Inhabited α] {R : Rep α} {k : Nat}
theorem Row.slG (hR : Firm R k) {bytes : Nat} {A : Where} {w0 u : World} {e : TypeId} {g : Hd} {L : List α} (h : Row R k A w0 u e (J g) L) (hb : L.length * bytes ≤ 140737488351232) : SlAt R k bytes (fun b => A b ∨ Fresh w0 b) u g.1 g.2.1 g.2.2 L := by
 obtain ⟨a, cap, e1, h3⟩ := h.sl hR hb
 simp only [Value.slice.injEq] at e1
 obtain ⟨e1, e2, e3⟩ := e1
 rw [e1, e2, e3]
 exact h3
theorem Row.put (hR : Firm R k) {A : Where} {w0 u : World} {e : TypeId} {g cap i : Nat} {L : List α} {c : List Value} {x : α} (h : Row R k A w0 u e (.slice (some ⟨g, 0, none⟩) L.length cap) L) (hi : i < L.length) (hx : R A u c x) (hA : ∀ b, A b → b ≠ g) : Row R k A w0 (u.setCells g (i * k) c) e (.slice (some ⟨g, 0, none⟩) L.length cap) (L.take i ++ x :: L.drop (i + 1)) := by
 have hlen : (L.take i ++ x :: L.drop (i + 1)).length = L.length := by simp; omega
 have hcl := hR.len hx
 obtain ⟨xs, ⟨hb, hl, ⟨e1, _⟩ | ⟨g', cap', cur, e1, hBg, hg, hcp, hcm, hsz, htk⟩⟩, hch⟩ := h
 ·
  cases e1
 ·
  simp only [Value.slice.injEq, Option.some.injEq, Addr.mk.injEq, and_true, true_and] at e1
  obtain ⟨rfl, rfl⟩ := e1
  have hkn : (i + 1) * k ≤ L.length * k := Nat.mul_le_mul_right k hi
  have hkc : L.length * k ≤ cap * k := Nat.mul_le_mul_right k hcp
  rw [Nat.add_mul, Nat.one_mul] at hkn
  have hxl : xs.length = L.length * k := hl
  obtain ⟨cur', hg', hs', ht'⟩ := row_setCells g e c (i * k) u cur hg (by rw [hcl, hsz]; omega)
  have c1 := (hch.take i (by omega)).append ((chunk_one hR (hR.weak hx (A' := fun b => A b ∧ Value.ownBlock (.slice (some ⟨g, 0, none⟩) L.length cap) ≠ some b) (fun b _ h => ⟨h, by simp only [Value.ownBlock, ne_eq, Option.some.injEq]; exact fun e => hA b h e.symm⟩))).append (hch.drop (i + 1)))
  refine ⟨xs.take (i * k) ++ (c ++ xs.drop ((i + 1) * k)), ⟨below_setCells hb hBg, ?_⟩, ?_⟩
  ·
   rw [hlen]
   refine ⟨by simp only [List.length_append, List.length_take, List.length_drop, hcl, hxl, Nat.add_mul, Nat.one_mul]; omega, .inr ⟨g, cap, cur', rfl, hBg, hg', hcp, hcm, by rw [hs', hsz], ?_⟩⟩
   have e0 : cur.toList.take (i * k) = xs.take (i * k) := by rw [← htk, List.take_take]; congr 1; omega
   have e2 : (cur.toList.drop (i * k + k)).take (L.length * k - (i * k + k)) = xs.drop ((i + 1) * k) := by rw [← htk, List.drop_take, Nat.add_mul, Nat.one_mul]
   have hcL : cur.toList.length = cap * k := by rw [Array.length_toList, hsz]
   have l1 : (xs.take (i * k) ++ c).length = i * k + k := by simp only [List.length_append, List.length_take, hcl, hxl]; omega
   rw [ht', hcl, e0, ← List.append_assoc]
   rw [← e2]
   conv => lhs; rw [show L.length * k = (xs.take (i * k) ++ c).length + (L.length * k - (i * k + k)) by rw [l1]; omega]
   rw [List.take_length_add_append]
  ·
   have k1 : Kept (fun b => A b ∧ Value.ownBlock (.slice (some ⟨g, 0, none⟩) L.length cap) ≠ some b) u (u.setCells g (i * k) c) := kept_setCells (fun h => h.2 rfl)
   have c2 := c1.kept hR k1
   simpa using c2
end
theorem ns_of {v0 v1 v2 v3 v4 v5 : Value} (h : [v0, v1, v2, v3, v4, v5].Pairwise NoShare) : NoShare v0 v1 ∧ NoShare v0 v2 ∧ NoShare v0 v3 ∧ NoShare v0 v4 ∧ NoShare v0 v5 ∧ NoShare v1 v2 ∧ NoShare v1 v3 ∧ NoShare v1 v4 ∧ NoShare v1 v5 ∧ NoShare v2 v3 ∧ NoShare v2 v4 ∧ NoShare v2 v5 ∧ NoShare v3 v4 ∧ NoShare v3 v5 ∧ NoShare v4 v5 := by
 simp only [List.pairwise_cons, List.mem_cons, List.not_mem_nil, or_false, forall_eq_or_imp, forall_eq, List.Pairwise.nil, and_true, false_implies, implies_true] at h
 obtain ⟨⟨a1, a2, a3, a4, a5⟩, ⟨b2, b3, b4, b5⟩, ⟨c3, c4, c5⟩, ⟨d4, d5⟩, e5⟩ := h
 exact ⟨a1, a2, a3, a4, a5, b2, b3, b4, b5, c3, c4, c5, d4, d5, e5⟩
theorem kgr {A : Where} {w u ui : World} {old : Option Nat} {P : Nat → Prop} (hgr : u.grownBy ui old) (hB : ∀ b, old = some b → w.heap.size ≤ b) (hP : ∀ b, P b → old = some b → False) : Kept (fun b => Lo A w b ∨ P b) u ui :=
 Kept.grown hgr (fun b e h => by
  rcases h with h | h
  ·
   have h1 := h.2; have h2 := hB b e; omega
  ·
   exact hP b h e)
theorem pnw {v old : Option Nat} {n : Nat} {P : Nat → Prop} (h5 : v = old ∨ v = some n) (h1 : ∀ b, P b → old = some b → False) (h2 : ∀ b, P b → b < n) : ∀ b, P b → v = some b → False := fun b hb hb2 => by
 rcases h5 with h5 | h5
 ·
  rw [h5] at hb2; exact h1 b hb hb2
 ·
  rw [h5] at hb2; have h6 := h2 b hb; have h7 : n = b := (by simpa using hb2); omega
theorem retb {a b : Bool} (h : a = b) : Ending.returned (.bool a) = .returned (.bool b) := by rw [h]
theorem isDig_iff (c : UInt8) : isDig c = true ↔ 48 ≤ c.toNat ∧ c.toNat ≤ 57 := by simp [isDig]
theorem isDig_no {c : UInt8} (h : ¬(48 ≤ c.toNat ∧ c.toNat ≤ 57)) : isDig c = false := by
 cases e : isDig c
 ·
  rfl
 ·
  exact absurd ((isDig_iff c).1 e) h
theorem isDigit_calls (c : UInt8) (w : World) : Calls prog 129 #[.int .u8 (c.toNat : Int)] w fun e w' => e = .returned (.bool (isDig c)) ∧ w' = w := by
 by_cases h1 : (48 : Int) ≤ (c.toNat : Int)
 ·
  by_cases h2 : (c.toNat : Int) ≤ 57
  ·
   have HF : Hid (isDig c = true) := (isDig_iff c).2 ⟨by omega, by omega⟩
   go_enter func129, ntmps129
   go_wp2
   go_ret
   exact ⟨retb HF.out.symm, rfl⟩
  ·
   have HF : Hid (isDig c = false) := isDig_no (by omega)
   go_enter func129, ntmps129
   go_wp2
   go_ret
   exact ⟨retb HF.out.symm, rfl⟩
 ·
  have HF : Hid (isDig c = false) := isDig_no (by omega)
  go_enter func129, ntmps129
  go_wp2
  go_ret
  exact ⟨retb HF.out.symm, rfl⟩
theorem wChar_low {c : UInt8} (h : (97 : Int) ≤ c.toNat) (h2 : (c.toNat : Int) ≤ 122) : wChar c = true := by
 have : decide (97 ≤ c.toNat) = true := by simp; omega
 have h3 : decide (c.toNat ≤ 122) = true := by simp; omega
 simp [wChar, this, h3]
theorem wChar_else {c : UInt8} (h : ¬((97 : Int) ≤ c.toNat ∧ (c.toNat : Int) ≤ 122)) : wChar c = (isDig c || decide (c.toNat = 45) || decide (c.toNat = 46) || decide (c.toNat = 47)) := by
 have : (decide (97 ≤ c.toNat) && decide (c.toNat ≤ 122)) = false := by simp; omega
 simp [wChar, this]
theorem inWord_calls (c : UInt8) (w : World) : Calls prog 115 #[.int .u8 (c.toNat : Int)] w fun e w' => e = .returned (.bool (wChar c)) ∧ w' = w := by
 have H : ((97 : Int) ≤ c.toNat ∧ (c.toNat : Int) ≤ 122 ∧ Hid (wChar c = true)) ∨ ((¬ (97 : Int) ≤ c.toNat ∨ ((97 : Int) ≤ c.toNat ∧ ¬ (c.toNat : Int) ≤ 122)) ∧ Hid (wChar c = (isDig c || decide (c.toNat = 45) || decide (c.toNat = 46) || decide (c.toNat = 47)))) := by
  by_cases h1 : (97 : Int) ≤ (c.toNat : Int)
  ·
   by_cases h2 : (c.toNat : Int) ≤ 122
   ·
    exact .inl ⟨h1, h2, wChar_low h1 h2⟩
   ·
    exact .inr ⟨.inr ⟨h1, h2⟩, wChar_else (by omega)⟩
  ·
   exact .inr ⟨.inl h1, wChar_else (by omega)⟩
 rcases H with ⟨h1, h2, HF⟩ | ⟨H, HF⟩
 ·
  go_enter func115, ntmps115
  go_wp2
  go_ret
  exact ⟨retb HF.out.symm, rfl⟩
 ·
  have hdig := isDigit_calls c
  have HG : ∃ d e f g : Bool, isDig c = d ∧ ((c.toNat : Int) == 45) = e ∧ ((c.toNat : Int) == 46) = f ∧ ((c.toNat : Int) == 47) = g ∧ Hid (wChar c = (d || e || f || g)) := by
   refine ⟨_, _, _, _, rfl, rfl, rfl, rfl, ?_⟩
   refine HF.out.trans ?_
   have e1 : decide (c.toNat = 45) = ((c.toNat : Int) == 45) := by rw [Bool.eq_iff_iff]; simp; omega
   have e2 : decide (c.toNat = 46) = ((c.toNat : Int) == 46) := by rw [Bool.eq_iff_iff]; simp; omega
   have e3 : decide (c.toNat = 47) = ((c.toNat : Int) == 47) := by rw [Bool.eq_iff_iff]; simp; omega
   rw [e1, e2, e3]
  obtain ⟨d, e, f, g, hd, he, hf, hg, HV⟩ := HG
  clear HF
  rw [hd] at hdig
  clear hd
  rcases H with h1 | ⟨h1, h2⟩ <;> cases d <;> cases e <;> cases f <;> cases g <;>
  ·
   go_enter func115, ntmps115
   go_wp2_with (go_at_call 129; refine (hdig _).mono ?_; rintro e w' ⟨rfl, rfl⟩)
   go_ret
   exact ⟨retb HV.out.symm, rfl⟩
theorem wordB_no {s : ByteArray} (h : ¬(1 ≤ s.size ∧ s.size ≤ 32)) : wordB s = false := by
 have : (decide (1 ≤ s.size) && decide (s.size ≤ 32)) = false := by simp; omega
 simp [wordB, this]
theorem wordB_rest {s : ByteArray} (h1 : 1 ≤ s.size) (h2 : s.size ≤ 32) : wordB s = allTo s.size fun i => wChar (byteAt s i) := by
 simp [wordB, h1, h2]
theorem Word_calls (s : ByteArray) (w : World) : Calls prog 97 #[.string s] w fun e w' => e = .returned (.bool (wordB s)) ∧ w' = w := by
 by_cases h0 : (s.size : Int) = 0
 ·
  have HF : Hid (wordB s = false) := wordB_no (by omega)
  have h0' : ((s.size : Int) == 0) = true := beq_iff_eq.2 h0
  go_enter func97, ntmps97
  go_wp2
  go_ret
  exact ⟨retb HF.out.symm, rfl⟩
 ·
  have h0' : ((s.size : Int) == 0) = false := beq_eq_false_iff_ne.2 h0
  by_cases h1 : (32 : Int) < (s.size : Int)
  ·
   have HF : Hid (wordB s = false) := wordB_no (by omega)
   go_enter func97, ntmps97
   go_wp2
   go_ret
   exact ⟨retb HF.out.symm, rfl⟩
  ·
   have HN : Hid (wordB s = allTo s.size fun i => wChar (byteAt s i)) := wordB_rest (by omega) (by omega)
   go_enter func97, ntmps97
   go_wp2
   go_loop [14] (fun i => ∃ k : Nat, k ≤ s.size ∧ i = .int .i64 k ∧ Hid (∀ j, j < k → wChar (byteAt s j) = true)) (fun i => s.size - (intOf i).toNat)
   case atStart => exact ⟨0, Nat.zero_le _, rfl, fun j hj => absurd hj (Nat.not_lt_zero _)⟩
   case round =>
    obtain ⟨k, hk, rfl, hall⟩ := hrel
    by_cases hlt : k < s.size
    ·
     have hin := inWord_calls s[k]
     cases hc : wChar s[k]
     ·
      rw [hc] at hin
      have HF : Hid (wordB s = false) := HN.out.trans (allTo_false hlt (by rw [byteAt_get s k hlt]; exact hc))
      clear hc
      go_wp2_with (go_at_call 115; refine (hin _).mono ?_; rintro e w' ⟨rfl, rfl⟩)
      go_ret
      exact ⟨retb HF.out.symm, rfl⟩
     ·
      rw [hc] at hin
      have HS : Hid (wChar (byteAt s k) = true) := by rw [Hid, byteAt_get s k hlt]; exact hc
      clear hc
      go_wp2_with (go_at_call 115; refine (hin _).mono ?_; rintro e w' ⟨rfl, rfl⟩)
      go_round
      case rel => exact ⟨k + 1, by omega, by go_num, fun j hj => by rcases Nat.lt_succ_iff_lt_or_eq.1 hj with h | rfl; exact hall.out j h; exact HS.out⟩
      case measure => simp [intOf]; omega
    ·
     have HF : Hid (wordB s = true) := HN.out.trans (allTo_true (fun j hj => hall.out j (by omega)))
     go_wp2
     go_ret
     exact ⟨retb HF.out.symm, rfl⟩
theorem empty_of {s : ByteArray} (h : s.size = 0) : s.toList.isEmpty = true := by
 rw [ByteArray.toList_eq, List.isEmpty_iff_length_eq_zero]
 simpa using h
theorem not_empty_of {s : ByteArray} (h : 1 ≤ s.size) : s.toList.isEmpty = false := by
 cases e : s.toList.isEmpty
 ·
  rfl
 ·
  rw [ByteArray.toList_eq, List.isEmpty_iff_length_eq_zero] at e
  have e' : s.size = 0 := by simpa using e
  omega
theorem isValue_calls (s : ByteArray) (w : World) : Calls prog 116 #[.string s] w fun e w' => e = .returned (.bool (valB s)) ∧ w' = w := by
 have hw := Word_calls s
 by_cases h0 : s.size = 0
 ·
  have HF : Hid (valB s = true) := by simp [Hid, valB, h0]
  have he := empty_of h0
  go_enter func116, ntmps116
  go_wp2
  go_ret
  exact ⟨retb HF.out.symm, rfl⟩
 ·
  have HF : Hid (valB s = wordB s) := by simp [Hid, valB, h0]
  have he := not_empty_of (s := s) (by omega)
  generalize wordB s = b at hw HF
  go_enter func116, ntmps116
  go_wp2_with (go_at_call 97; refine (hw _).mono ?_; rintro e w' ⟨rfl, rfl⟩)
  go_ret
  exact ⟨retb HF.out.symm, rfl⟩
theorem numB_no {s : ByteArray} (h : ¬(1 ≤ s.size ∧ s.size ≤ 15)) : numB s = false := by
 have : (decide (1 ≤ s.size) && decide (s.size ≤ 15)) = false := by simp; omega
 simp [numB, this]
theorem numB_zero {s : ByteArray} (h : 1 < s.size) (h0 : (byteAt s 0).toNat = 48) : numB s = false := by
 simp [numB, h, h0]
theorem numB_rest {s : ByteArray} (h1 : 1 ≤ s.size) (h2 : s.size ≤ 15) (h3 : ¬(1 < s.size ∧ (byteAt s 0).toNat = 48)) : numB s = allTo s.size fun i => isDig (byteAt s i) := by
 have : (decide (1 < s.size) && decide ((byteAt s 0).toNat = 48)) = false := by simp; omega
 simp [numB, h1, h2, this]
theorem isNumber_calls (s : ByteArray) (w : World) : Calls prog 151 #[.string s] w fun e w' => e = .returned (.bool (numB s)) ∧ w' = w := by
 by_cases h0 : (s.size : Int) = 0
 ·
  have HF : Hid (numB s = false) := numB_no (by omega)
  have h0' : ((s.size : Int) == 0) = true := beq_iff_eq.2 h0
  go_enter func151, ntmps151
  go_wp2
  go_ret
  exact ⟨retb HF.out.symm, rfl⟩
 have h0' : ((s.size : Int) == 0) = false := beq_eq_false_iff_ne.2 h0
 by_cases h1 : (15 : Int) < (s.size : Int)
 ·
  have HF : Hid (numB s = false) := numB_no (by omega)
  go_enter func151, ntmps151
  go_wp2
  go_ret
  exact ⟨retb HF.out.symm, rfl⟩
 have hp : 0 < s.size := by omega
 have HB : ∃ b c : Bool, ((s[0].toNat : Int) == 48) = b ∧ decide ((1 : Int) < (s.size : Int)) = c ∧ Hid ((b && c) = true → numB s = false) ∧ Hid ((b && c) = false → numB s = allTo s.size fun i => isDig (byteAt s i)) := by
  refine ⟨_, _, rfl, rfl, ?_, ?_⟩
  ·
   intro h
   simp only [Bool.and_eq_true, beq_iff_eq, decide_eq_true_eq] at h
   exact numB_zero (by omega) (by rw [byteAt_get s 0 hp]; omega)
  ·
   intro h
   refine numB_rest (by omega) (by omega) ?_
   rintro ⟨x, y⟩
   rw [byteAt_get s 0 hp] at y
   rw [beq_iff_eq.2 (show (s[0].toNat : Int) = 48 by omega), decide_eq_true (show (1 : Int) < s.size by omega)] at h
   cases h
 obtain ⟨b, c, hb, hc, HT, HN⟩ := HB
 cases b <;> cases c
 case true.true =>
  have HF : Hid (numB s = false) := HT.out rfl
  clear HT HN
  go_enter func151, ntmps151
  go_wp2
  go_ret
  exact ⟨retb HF.out.symm, rfl⟩
 all_goals
  have HM : Hid (numB s = allTo s.size fun i => isDig (byteAt s i)) := HN.out rfl
  clear HT HN
  go_enter func151, ntmps151
  go_wp2
  go_loop [22] (fun i => ∃ k : Nat, k ≤ s.size ∧ i = .int .i64 k ∧ Hid (∀ j, j < k → isDig (byteAt s j) = true)) (fun i => s.size - (intOf i).toNat)
  case atStart => exact ⟨0, Nat.zero_le _, rfl, fun j hj => absurd hj (Nat.not_lt_zero _)⟩
  case round =>
   obtain ⟨k, hk, rfl, hall⟩ := hrel
   by_cases hlt : k < s.size
   ·
    have hin := isDigit_calls s[k]
    cases hc : isDig s[k]
    ·
     rw [hc] at hin
     have HF : Hid (numB s = false) := HM.out.trans (allTo_false hlt (by rw [byteAt_get s k hlt]; exact hc))
     clear hc
     go_wp2_with (go_at_call 129; refine (hin _).mono ?_; rintro e w' ⟨rfl, rfl⟩)
     go_ret
     exact ⟨retb HF.out.symm, rfl⟩
    ·
     rw [hc] at hin
     have HS : Hid (isDig (byteAt s k) = true) := by rw [Hid, byteAt_get s k hlt]; exact hc
     clear hc
     go_wp2_with (go_at_call 129; refine (hin _).mono ?_; rintro e w' ⟨rfl, rfl⟩)
     go_round
     case rel => exact ⟨k + 1, by omega, by go_num, fun j hj => by rcases Nat.lt_succ_iff_lt_or_eq.1 hj with h | rfl; exact hall.out j h; exact HS.out⟩
     case measure => simp [intOf]; omega
   ·
    have HF : Hid (numB s = true) := HM.out.trans (allTo_true (fun j hj => hall.out j (by omega)))
    go_wp2
    go_ret
    exact ⟨retb HF.out.symm, rfl⟩
end Go.Proofs.YtikncmcceeacmaaGreat

namespace Go.Proofs.YtikncmcceeacmaaGreat
set_option maxHeartbeats 16000000
set_option maxRecDepth 100000
open Tryz Go.RowKit
def StrsAt (w : World) (a : Option Addr) (V : List ByteArray) : Prop :=
 V.length ≤ 140737488355328 ∧ (∀ s ∈ V, s.size ≤ 140737488355328) ∧ (V ≠ [] → ∃ B off, a = some ⟨B, off, none⟩ ∧ B < w.heap.size ∧ ∀ i, i < V.length → w.cell? ⟨B, off + i, none⟩ = some (.string (V.getD i default)))
def LabsAt (w : World) (a : Option Addr) (L : List Lab) : Prop :=
 L.length ≤ 140737488355328 ∧ (∀ x ∈ L, x.1.size ≤ 140737488355328 ∧ x.2.size ≤ 140737488355328) ∧ (L ≠ [] → ∃ B off, a = some ⟨B, off, none⟩ ∧ B < w.heap.size ∧ ∀ i, i < L.length → w.cell? ⟨B, off + i * 2, none⟩ = some (.string (L.getD i default).1) ∧ w.cell? ⟨B, off + i * 2 + 1, none⟩ = some (.string (L.getD i default).2))
def AsksAt (w : World) (a : Option Addr) (R : List Ask) : Prop :=
 R.length ≤ 140737488355328 ∧ (∀ x ∈ R, x.key.size ≤ 140737488355328) ∧ (R ≠ [] → ∃ B off, a = some ⟨B, off, none⟩ ∧ B < w.heap.size ∧ ∀ i, i < R.length → w.cell? ⟨B, off + i * 3, none⟩ = some (.string (R.getD i default).key) ∧ w.cell? ⟨B, off + i * 3 + 1, none⟩ = some (.int .i64 (R.getD i default).op) ∧
  ∃ a' cap', w.cell? ⟨B, off + i * 3 + 2, none⟩ = some (.slice a' (R.getD i default).vals.length cap') ∧ StrsAt w a' (R.getD i default).vals)
theorem StrsAt.on {w w' : World} {a : Option Addr} {V : List ByteArray} (h : StrsAt w a V) (hb : Below w.heap.size w w') : StrsAt w' a V := by
 obtain ⟨h1, h2, h3⟩ := h
 refine ⟨h1, h2, fun hn => ?_⟩
 obtain ⟨B, off, rfl, hB, hc⟩ := h3 hn
 exact ⟨B, off, rfl, Nat.lt_of_lt_of_le hB hb.size, fun i hi => (hb.cell hB).trans (hc i hi)⟩
theorem LabsAt.on {w w' : World} {a : Option Addr} {L : List Lab} (h : LabsAt w a L) (hb : Below w.heap.size w w') : LabsAt w' a L := by
 obtain ⟨h1, h2, h3⟩ := h
 refine ⟨h1, h2, fun hn => ?_⟩
 obtain ⟨B, off, rfl, hB, hc⟩ := h3 hn
 exact ⟨B, off, rfl, Nat.lt_of_lt_of_le hB hb.size, fun i hi => ⟨(hb.cell hB).trans (hc i hi).1, (hb.cell hB).trans (hc i hi).2⟩⟩
theorem AsksAt.on {w w' : World} {a : Option Addr} {R : List Ask} (h : AsksAt w a R) (hb : Below w.heap.size w w') : AsksAt w' a R := by
 obtain ⟨h1, h2, h3⟩ := h
 refine ⟨h1, h2, fun hn => ?_⟩
 obtain ⟨B, off, rfl, hB, hc⟩ := h3 hn
 refine ⟨B, off, rfl, Nat.lt_of_lt_of_le hB hb.size, fun i hi => ?_⟩
 obtain ⟨c0, c1, a', cap', c2, hs⟩ := hc i hi
 exact ⟨(hb.cell hB).trans c0, (hb.cell hB).trans c1, a', cap', (hb.cell hB).trans c2, hs.on hb⟩
theorem StrsAt.nil (w : World) (a : Option Addr) : StrsAt w a [] := ⟨by simp, by simp, fun h => absurd rfl h⟩
theorem LabsAt.nil (w : World) (a : Option Addr) : LabsAt w a [] := ⟨by simp, by simp, fun h => absurd rfl h⟩
theorem AsksAt.nil (w : World) (a : Option Addr) : AsksAt w a [] := ⟨by simp, by simp, fun h => absurd rfl h⟩
theorem StrsAt.get {w : World} {a : Option Addr} {V : List ByteArray} (h : StrsAt w a V) {k : Nat} (hk : k < V.length) : ∃ B off, a = some ⟨B, off, none⟩ ∧ B < w.heap.size ∧ w.cell? ⟨B, off + k, none⟩ = some (.string (V.getD k default)) ∧ (V.getD k default).size ≤ 140737488355328 := by
 obtain ⟨h1, h2, h3⟩ := h
 obtain ⟨B, off, rfl, hB, hc⟩ := h3 (by intro e; rw [e] at hk; simp at hk)
 refine ⟨B, off, rfl, hB, hc k hk, h2 _ ?_⟩
 rw [List.getD_eq_getElem?_getD, List.getElem?_eq_getElem hk]
 exact List.getElem_mem hk
theorem LabsAt.get {w : World} {a : Option Addr} {L : List Lab} (h : LabsAt w a L) {k : Nat} (hk : k < L.length) : ∃ B off, a = some ⟨B, off, none⟩ ∧ B < w.heap.size ∧ w.cell? ⟨B, off + k * 2, none⟩ = some (.string (L.getD k default).1) ∧ w.cell? ⟨B, off + k * 2 + 1, none⟩ = some (.string (L.getD k default).2) ∧ (L.getD k default).1.size ≤ 140737488355328 ∧ (L.getD k default).2.size ≤ 140737488355328 := by
 obtain ⟨h1, h2, h3⟩ := h
 obtain ⟨B, off, rfl, hB, hc⟩ := h3 (by intro e; rw [e] at hk; simp at hk)
 refine ⟨B, off, rfl, hB, (hc k hk).1, (hc k hk).2, h2 _ ?_⟩
 rw [List.getD_eq_getElem?_getD, List.getElem?_eq_getElem hk]
 exact List.getElem_mem hk
theorem AsksAt.get {w : World} {a : Option Addr} {R : List Ask} (h : AsksAt w a R) {k : Nat} (hk : k < R.length) : ∃ B off, a = some ⟨B, off, none⟩ ∧ B < w.heap.size ∧ w.cell? ⟨B, off + k * 3, none⟩ = some (.string (R.getD k default).key) ∧ w.cell? ⟨B, off + k * 3 + 1, none⟩ = some (.int .i64 (R.getD k default).op) ∧
  (∃ a' cap', w.cell? ⟨B, off + k * 3 + 2, none⟩ = some (.slice a' (R.getD k default).vals.length cap') ∧ StrsAt w a' (R.getD k default).vals) ∧ (R.getD k default).key.size ≤ 140737488355328 := by
 obtain ⟨h1, h2, h3⟩ := h
 obtain ⟨B, off, rfl, hB, hc⟩ := h3 (by intro e; rw [e] at hk; simp at hk)
 refine ⟨B, off, rfl, hB, (hc k hk).1, (hc k hk).2.1, (hc k hk).2.2, h2 _ ?_⟩
 rw [List.getD_eq_getElem?_getD, List.getElem?_eq_getElem hk]
 exact List.getElem_mem hk
end Go.Proofs.YtikncmcceeacmaaGreat

namespace Go.Proofs.YtikncmcceeacmaaGreat
set_option maxHeartbeats 16000000
set_option maxRecDepth 100000
open Tryz Go.RowKit
set_option linter.unusedSimpArgs false
theorem allValues_calls (a : Option Addr) (cap : Nat) (V : List ByteArray) (w : World) (hV : Hid (StrsAt w a V)) : Calls prog 144 #[.slice a V.length cap] w fun e w' => e = .returned (.bool (allTo V.length fun i => valB (V.getD i default))) ∧ w' = w := by
 have hlen := hV.out.1
 go_enter func144, ntmps144
 go_wp2
 go_loop [7] (fun i => ∃ k : Nat, k ≤ V.length ∧ i = .int .i64 k ∧ Hid (∀ j, j < k → valB (V.getD j default) = true)) (fun i => V.length - (intOf i).toNat)
 case atStart => exact ⟨0, Nat.zero_le _, rfl, fun j hj => absurd hj (Nat.not_lt_zero _)⟩
 case round =>
  obtain ⟨k, hk, rfl, hall⟩ := hrel
  by_cases hlt : k < V.length
  ·
   obtain ⟨B, off, rfl, hB, hc, hs⟩ := hV.out.get hlt
   have hin := isValue_calls (V.getD k default)
   cases hv : valB (V.getD k default)
   ·
    rw [hv] at hin
    have HF : Hid (allTo V.length (fun i => valB (V.getD i default)) = false) := allTo_false hlt hv
    clear hv
    generalize V.getD k default = s at hin hc hs
    go_wp2_with (go_at_call 116; refine (hin _).mono ?_; rintro e w' ⟨rfl, rfl⟩)
    go_ret
    exact ⟨retb HF.out.symm, rfl⟩
   ·
    rw [hv] at hin
    have HG : Hid (∀ j, j < k + 1 → valB (V.getD j default) = true) := fun j hj => by
     rcases Nat.lt_succ_iff_lt_or_eq.1 hj with h | rfl
     ·
      exact hall.out j h
     ·
      exact hv
    clear hv
    generalize V.getD k default = s at hin hc hs
    go_wp2_with (go_at_call 116; refine (hin _).mono ?_; rintro e w' ⟨rfl, rfl⟩)
    go_round
    case rel => exact ⟨k + 1, by omega, by go_num, HG⟩
    case measure => simp [intOf]; omega
  ·
   have HF : Hid (allTo V.length (fun i => valB (V.getD i default)) = true) := allTo_true (fun j hj => hall.out j (by omega))
   go_wp2
   go_ret
   exact ⟨retb HF.out.symm, rfl⟩
theorem oneNumber_calls (a : Option Addr) (cap : Nat) (V : List ByteArray) (w : World) (hV : Hid (StrsAt w a V)) : Calls prog 145 #[.slice a V.length cap] w fun e w' => e = .returned (.bool (decide (V.length = 1) && numB (V.getD 0 default))) ∧ w' = w := by
 by_cases h1 : (V.length : Int) = 1
 ·
  have h1' : ((V.length : Int) == 1) = true := beq_iff_eq.2 h1
  obtain ⟨B, off, rfl, hB, hc, hs⟩ := hV.out.get (k := 0) (by omega)
  have hin := isNumber_calls (V.getD 0 default)
  have HF : Hid ((decide (V.length = 1) && numB (V.getD 0 default)) = numB (V.getD 0 default)) := by simp [Hid, show V.length = 1 by omega]
  rw [Nat.add_zero] at hc
  generalize V.getD 0 default = s at hin hc hs HF
  generalize numB s = b at hin HF
  go_enter func145, ntmps145
  go_wp2_with (go_at_call 151; refine (hin _).mono ?_; rintro e w' ⟨rfl, rfl⟩)
  go_ret
  exact ⟨retb HF.out.symm, rfl⟩
 ·
  have h1' : ((V.length : Int) == 1) = false := beq_eq_false_iff_ne.2 h1
  have HF : Hid ((decide (V.length = 1) && numB (V.getD 0 default)) = false) := by simp [Hid]; omega
  go_enter func145, ntmps145
  go_wp2
  go_ret
  exact ⟨retb HF.out.symm, rfl⟩
theorem reti {a b : Int} (h : a = b) : Ending.returned (.int .i64 a) = .returned (.int .i64 b) := by rw [h]
theorem checkI_long {L : List Lab} (h : 64 < L.length) : checkI L = 3 := if_pos h
theorem checkI_bad {L : List Lab} {k : Nat} (h : ¬ 64 < L.length) (hk : k < L.length) (hb : labOk L k = false) : checkI L = 20 := by
 unfold checkI; rw [if_neg h, allTo_false hk hb]; rfl
theorem checkI_ok {L : List Lab} (h : ¬ 64 < L.length) (hall : ∀ j, j < L.length → labOk L j = true) : checkI L = 0 := by
 unfold checkI; rw [if_neg h, allTo_true hall]; rfl
theorem LCheck_calls (a : Option Addr) (cap : Nat) (L : List Lab) (w : World) (hL : Hid (LabsAt w a L)) : Calls prog 99 #[.slice a L.length cap] w fun e w' => e = .returned (.int .i64 (checkI L)) ∧ Below w.heap.size w w' := by
 by_cases h64 : (64 : Int) < (L.length : Int)
 ·
  have HF : Hid (checkI L = 3) := checkI_long (by omega)
  go_enter func99, ntmps99
  go_wp2
  go_ret
  exact ⟨reti HF.out.symm, Below.refl _ _⟩
 go_enter func99, ntmps99
 go_wp2
 go_loopw [10] (fun i wr => ∃ k : Nat, k ≤ L.length ∧ i = .int .i64 k ∧ Below w.heap.size w wr ∧ Hid (∀ j, j < k → labOk L j = true)) (fun i _ => L.length - (intOf i).toNat)
 case atStart => exact ⟨0, Nat.zero_le _, rfl, Below.refl _ _, fun j hj => absurd hj (Nat.not_lt_zero _)⟩
 case round =>
  obtain ⟨k, hk, rfl, hbel, hall⟩ := hrel
  by_cases hlt : k < L.length
  ·
   obtain ⟨B, off, rfl, hB, c0, c1, s0, s1⟩ := hL.out.get hlt
   have d0 := (hbel.cell (p := ⟨B, off + k * 2, none⟩) hB).trans c0
   have d1 := (hbel.cell (p := ⟨B, off + k * 2 + 1, none⟩) hB).trans c1
   clear c0 c1
   have hW := Word_calls (L.getD k default).1
   have hI := isValue_calls (L.getD k default).2
   have hbad : Hid (labOk L k = false → checkI L = 20) := fun h => checkI_bad (by omega) hlt h
   have hgo : Hid (labOk L k = true → ∀ j, j < k + 1 → labOk L j = true) := fun h j hj => by
    rcases Nat.lt_succ_iff_lt_or_eq.1 hj with h' | rfl
    ·
     exact hall.out j h'
    ·
     exact h
   have hok : Hid (labOk L k = (wordB (L.getD k default).1 && valB (L.getD k default).2 && (decide (k = 0) || sLt (L.getD (k - 1) default).1 (L.getD k default).1))) := rfl
   clear hall
   cases hw : wordB (L.getD k default).1
   ·
    have HF : Hid (checkI L = 20) := hbad.out (by rw [hok.out, hw]; rfl)
    rw [hw] at hW
    clear hw hbad hgo hok hI
    generalize L.getD k default = x at d0 d1 s0 s1 hW
    go_wp2_with (go_at_call 97; refine (hW _).mono ?_; rintro e w' ⟨rfl, rfl⟩)
    go_ret
    exact ⟨reti HF.out.symm, on2 hbel (by go_grown)⟩
   ·
    rw [hw] at hW
    cases hv : valB (L.getD k default).2
    ·
     have HF : Hid (checkI L = 20) := hbad.out (by rw [hok.out, hw, hv]; rfl)
     rw [hv] at hI
     clear hw hv hbad hgo hok
     generalize L.getD k default = x at d0 d1 s0 s1 hW hI
     go_wp2_with (first | (go_at_call 97; refine (hW _).mono ?_; rintro e w' ⟨rfl, rfl⟩) | (go_at_call 116; refine (hI _).mono ?_; rintro e w' ⟨rfl, rfl⟩))
     go_ret
     exact ⟨reti HF.out.symm, on2 hbel (by go_grown)⟩
    ·
     rw [hv] at hI
     rcases Nat.eq_zero_or_pos k with h0 | h0
     ·
      have b0 : decide (0 < k) = false := by simp; omega
      have HG : Hid (∀ j, j < k + 1 → labOk L j = true) := hgo.out (by rw [hok.out, hw, hv, h0]; rfl)
      clear hw hv hbad hgo hok h0
      generalize L.getD k default = x at d0 d1 s0 s1 hW hI
      go_wp2_with (first | (go_at_call 97; refine (hW _).mono ?_; rintro e w' ⟨rfl, rfl⟩) | (go_at_call 116; refine (hI _).mono ?_; rintro e w' ⟨rfl, rfl⟩))
      go_quiet (fail)
      go_wp2_with fail
      go_roundw
      case rel => exact ⟨k + 1, by omega, by go_num, on2 hbel (below_drewN (by go_grown) _), HG⟩
      case measure => simp [intOf]; omega
     ·
      have b0 : (0 : Int) < (k : Int) := by omega
      obtain ⟨m, hm⟩ : ∃ m, Hid (k = m + 1) := ⟨k - 1, by unfold Hid; omega⟩
      have hme := hm.out
      have hmw : IntKind.i64.wrap ((k : Int) - 1) = (m : Int) := by rw [hme]; simp only [Int.natCast_add, Int.cast_ofNat_Int, Int.add_sub_cancel]; simp [IntKind.wrap, IntKind.bits, IntKind.signed]; omega
      have hkm : k - 1 = m := by omega
      have hml : m < L.length := by omega
      obtain ⟨B', off', e', hB', c0, c1, s0', s1'⟩ := hL.out.get (k := m) hml
      obtain ⟨rfl, rfl⟩ : B = B' ∧ off = off' := by simpa using e'
      have hBw : B < wr.heap.size := Nat.lt_of_lt_of_le hB hbel.size
      have p0 := (hbel.cell (p := ⟨B, off + m * 2, none⟩) hB).trans c0
      clear c0 c1 s0' s1' e' hB'
      rw [hkm] at hok
      clear hme hkm
      have hk0 : Hid (decide (k = 0) = false) := by simp [Hid]; omega
      cases hs : sLt (L.getD m default).1 (L.getD k default).1
      ·
       have HF : Hid (checkI L = 20) := hbad.out (by rw [hok.out, hw, hv, hs, hk0.out]; rfl)
       unfold sLt at hs
       clear hw hv hbad hgo hok
       generalize L.getD k default = x at d0 d1 s0 s1 hW hI hs
       generalize L.getD m default = y at p0 hs
       go_wp2_with (first | (go_at_call 97; refine (hW _).mono ?_; rintro e w' ⟨rfl, rfl⟩) | (go_at_call 116; refine (hI _).mono ?_; rintro e w' ⟨rfl, rfl⟩))
       go_quiet (fail)
       go_wp2_with fail
       go_ret
       exact ⟨reti HF.out.symm, on2 hbel (below_drewN (by go_grown) _)⟩
      ·
       have HG : Hid (∀ j, j < k + 1 → labOk L j = true) := hgo.out (by rw [hok.out, hw, hv, hs, hk0.out]; rfl)
       unfold sLt at hs
       clear hw hv hbad hgo hok
       generalize L.getD k default = x at d0 d1 s0 s1 hW hI hs
       generalize L.getD m default = y at p0 hs
       go_wp2_with (first | (go_at_call 97; refine (hW _).mono ?_; rintro e w' ⟨rfl, rfl⟩) | (go_at_call 116; refine (hI _).mono ?_; rintro e w' ⟨rfl, rfl⟩))
       go_quiet (fail)
       go_wp2_with fail
       go_roundw
       case rel => exact ⟨k + 1, by omega, by go_num, on2 hbel (below_drewN (by go_grown) _), HG⟩
       case measure => simp [intOf]; omega
  ·
   have HF : Hid (checkI L = 0) := checkI_ok (by omega) (fun j hj => hall.out j (by omega))
   go_wp2
   go_ret
   exact ⟨reti HF.out.symm, hbel⟩
end Go.Proofs.YtikncmcceeacmaaGreat

namespace Go.Proofs.YtikncmcceeacmaaGreat
set_option maxHeartbeats 16000000
set_option maxRecDepth 100000
open Tryz Go.RowKit
theorem op_paths (op : Int) : op = 1 ∨ op = 2 ∨ op = 3 ∨ op = 4 ∨ op = 5 ∨ op = 6 ∨ ((op == 1) = false ∧ (op == 2) = false ∧ (op == 3) = false ∧ (op == 4) = false ∧ (op == 5) = false ∧ (op == 6) = false) := by
 simp only [beq_eq_false_iff_ne, ne_eq]
 omega
def ReqBox (D : Nat) (key : ByteArray) (op : Int) (a : Option Addr) (n cap : Nat) (u : World) : Prop := D < u.heap.size ∧ u.cell? ⟨D, 0, none⟩ = some (.string key) ∧ u.cell? ⟨D, 1, none⟩ = some (.int .i64 op) ∧ u.cell? ⟨D, 2, none⟩ = some (.slice a n cap)
theorem ReqBox.on {D : Nat} {key : ByteArray} {op : Int} {a : Option Addr} {n cap : Nat} {u u' : World} (h : ReqBox D key op a n cap u) (hb : Below u.heap.size u u') : ReqBox D key op a n cap u' :=
 ⟨Nat.lt_of_lt_of_le h.1 hb.size, (hb.cell h.1).trans h.2.1, (hb.cell h.1).trans h.2.2.1, (hb.cell h.1).trans h.2.2.2⟩
theorem ReqBox.new (w : World) (key : ByteArray) (op : Int) (a : Option Addr) (n cap : Nat) : ReqBox w.heap.size key op a n cap (w.alloc (.cells #[.string key, .int .i64 op, .slice a n cap] 169)) :=
 ⟨by simp, by simp [go_sem], by simp [go_sem], by simp [go_sem]⟩
end Go.Proofs.YtikncmcceeacmaaGreat

namespace Go.Proofs.YtikncmcceeacmaaGreat
set_option maxHeartbeats 16000000
set_option maxRecDepth 100000
open Tryz Go.RowKit
set_option linter.unusedSimpArgs false
theorem rightV_12 {op : Int} (h : op = 1 ∨ op = 2) (V : List ByteArray) : rightV op V = (decide (1 ≤ V.length) && decide (V.length ≤ 64) && allTo V.length (fun i => valB (V.getD i default))) := by simp [rightV, h]
theorem rightV_34 {op : Int} (h : op = 3 ∨ op = 4) (V : List ByteArray) : rightV op V = decide (V.length = 0) := by rcases h with rfl | rfl <;> simp [rightV]
theorem rightV_56 {op : Int} (h : op = 5 ∨ op = 6) (V : List ByteArray) : rightV op V = (decide (V.length = 1) && numB (V.getD 0 default)) := by rcases h with rfl | rfl <;> simp [rightV]
theorem rightV_else {op : Int} (V : List ByteArray) (h1 : (op == 1) = false) (h2 : (op == 2) = false) (h3 : (op == 3) = false) (h4 : (op == 4) = false) (h5 : (op == 5) = false) (h6 : (op == 6) = false) : rightV op V = false := by
 simp only [beq_eq_false_iff_ne, ne_eq] at h1 h2 h3 h4 h5 h6
 simp [rightV, h1, h2, h3, h4, h5, h6]
theorem rightValues_1 (a : Option Addr) (cap : Nat) (V : List ByteArray) (w : World) (hV : Hid (StrsAt w a V)) : Calls prog 130 #[.int .i64 1, .slice a V.length cap] w fun e w' => e = .returned (.bool (rightV 1 V)) ∧ w' = w := by
 have hc := allValues_calls a cap V w hV
 have HR := rightV_12 (op := 1) (by simp) V
 generalize allTo V.length (fun i => valB (V.getD i default)) = b at hc HR
 have HF : Hid (rightV 1 V = (decide (1 ≤ V.length) && decide (V.length ≤ 64) && b)) := HR
 clear hV HR
 by_cases h1 : (1 : Int) ≤ (V.length : Int)
 ·
  by_cases h2 : (V.length : Int) ≤ 64
  ·
   have HG : Hid (rightV 1 V = b) := by rw [Hid, HF.out, decide_eq_true (show 1 ≤ V.length by omega), decide_eq_true (show V.length ≤ 64 by omega)]; simp
   clear HF
   go_enter func130, ntmps130
   go_wp2_with (go_at_call 144; refine hc.mono ?_; rintro e w' ⟨rfl, rfl⟩)
   go_ret
   exact ⟨retb HG.out.symm, rfl⟩
  ·
   have HG : Hid (rightV 1 V = false) := by rw [Hid, HF.out, decide_eq_false (show ¬ V.length ≤ 64 by omega)]; simp
   clear HF hc
   go_enter func130, ntmps130
   go_wp2
   go_ret
   exact ⟨retb HG.out.symm, rfl⟩
 ·
  have HG : Hid (rightV 1 V = false) := by rw [Hid, HF.out, decide_eq_false (show ¬ 1 ≤ V.length by omega)]; simp
  clear HF hc
  go_enter func130, ntmps130
  go_wp2
  go_ret
  exact ⟨retb HG.out.symm, rfl⟩
theorem rightValues_2 (a : Option Addr) (cap : Nat) (V : List ByteArray) (w : World) (hV : Hid (StrsAt w a V)) : Calls prog 130 #[.int .i64 2, .slice a V.length cap] w fun e w' => e = .returned (.bool (rightV 2 V)) ∧ w' = w := by
 have hc := allValues_calls a cap V w hV
 have HR := rightV_12 (op := 2) (by simp) V
 generalize allTo V.length (fun i => valB (V.getD i default)) = b at hc HR
 have HF : Hid (rightV 2 V = (decide (1 ≤ V.length) && decide (V.length ≤ 64) && b)) := HR
 clear hV HR
 by_cases h1 : (1 : Int) ≤ (V.length : Int)
 ·
  by_cases h2 : (V.length : Int) ≤ 64
  ·
   have HG : Hid (rightV 2 V = b) := by rw [Hid, HF.out, decide_eq_true (show 1 ≤ V.length by omega), decide_eq_true (show V.length ≤ 64 by omega)]; simp
   clear HF
   go_enter func130, ntmps130
   go_wp2_with (go_at_call 144; refine hc.mono ?_; rintro e w' ⟨rfl, rfl⟩)
   go_ret
   exact ⟨retb HG.out.symm, rfl⟩
  ·
   have HG : Hid (rightV 2 V = false) := by rw [Hid, HF.out, decide_eq_false (show ¬ V.length ≤ 64 by omega)]; simp
   clear HF hc
   go_enter func130, ntmps130
   go_wp2
   go_ret
   exact ⟨retb HG.out.symm, rfl⟩
 ·
  have HG : Hid (rightV 2 V = false) := by rw [Hid, HF.out, decide_eq_false (show ¬ 1 ≤ V.length by omega)]; simp
  clear HF hc
  go_enter func130, ntmps130
  go_wp2
  go_ret
  exact ⟨retb HG.out.symm, rfl⟩
theorem rightValues_3 (a : Option Addr) (cap : Nat) (V : List ByteArray) (w : World) : Calls prog 130 #[.int .i64 3, .slice a V.length cap] w fun e w' => e = .returned (.bool (rightV 3 V)) ∧ w' = w := by
 have HF : Hid (rightV 3 V = ((V.length : Int) == 0)) := by
  rw [Hid, rightV_34 (by simp), Bool.eq_iff_iff]; simp; try omega
 go_enter func130, ntmps130
 go_wp2
 go_ret
 exact ⟨retb (by first | exact HF.out.symm | (rw [HF.out]; simp)), rfl⟩
theorem rightValues_4 (a : Option Addr) (cap : Nat) (V : List ByteArray) (w : World) : Calls prog 130 #[.int .i64 4, .slice a V.length cap] w fun e w' => e = .returned (.bool (rightV 4 V)) ∧ w' = w := by
 have HF : Hid (rightV 4 V = ((V.length : Int) == 0)) := by
  rw [Hid, rightV_34 (by simp), Bool.eq_iff_iff]; simp; try omega
 go_enter func130, ntmps130
 go_wp2
 go_ret
 exact ⟨retb (by first | exact HF.out.symm | (rw [HF.out]; simp)), rfl⟩
theorem rightValues_5 (a : Option Addr) (cap : Nat) (V : List ByteArray) (w : World) (hV : Hid (StrsAt w a V)) : Calls prog 130 #[.int .i64 5, .slice a V.length cap] w fun e w' => e = .returned (.bool (rightV 5 V)) ∧ w' = w := by
 have hc := oneNumber_calls a cap V w hV
 have HF : Hid (rightV 5 V = (decide (V.length = 1) && numB (V.getD 0 default))) := rightV_56 (by simp) V
 generalize (decide (V.length = 1) && numB (V.getD 0 default)) = b at hc HF
 clear hV
 go_enter func130, ntmps130
 go_wp2_with (go_at_call 145; refine hc.mono ?_; rintro e w' ⟨rfl, rfl⟩)
 go_ret
 exact ⟨retb HF.out.symm, rfl⟩
theorem rightValues_6 (a : Option Addr) (cap : Nat) (V : List ByteArray) (w : World) (hV : Hid (StrsAt w a V)) : Calls prog 130 #[.int .i64 6, .slice a V.length cap] w fun e w' => e = .returned (.bool (rightV 6 V)) ∧ w' = w := by
 have hc := oneNumber_calls a cap V w hV
 have HF : Hid (rightV 6 V = (decide (V.length = 1) && numB (V.getD 0 default))) := rightV_56 (by simp) V
 generalize (decide (V.length = 1) && numB (V.getD 0 default)) = b at hc HF
 clear hV
 go_enter func130, ntmps130
 go_wp2_with (go_at_call 145; refine hc.mono ?_; rintro e w' ⟨rfl, rfl⟩)
 go_ret
 exact ⟨retb HF.out.symm, rfl⟩
theorem rightValues_calls (op : Int) (a : Option Addr) (cap : Nat) (V : List ByteArray) (w : World) (hV : Hid (StrsAt w a V)) : Calls prog 130 #[.int .i64 op, .slice a V.length cap] w fun e w' => e = .returned (.bool (rightV op V)) ∧ w' = w := by
 rcases op_paths op with rfl | rfl | rfl | rfl | rfl | rfl | ⟨h1, h2, h3, h4, h5, h6⟩
 ·
  exact rightValues_1 a cap V w hV
 ·
  exact rightValues_2 a cap V w hV
 ·
  exact rightValues_3 a cap V w
 ·
  exact rightValues_4 a cap V w
 ·
  exact rightValues_5 a cap V w hV
 ·
  exact rightValues_6 a cap V w hV
 ·
  have HF : Hid (rightV op V = false) := rightV_else V h1 h2 h3 h4 h5 h6
  go_enter func130, ntmps130
  go_wp2
  go_ret
  exact ⟨retb HF.out.symm, rfl⟩
theorem checkR_long {R : List Ask} (h : 64 < R.length) : checkR R = 3 := if_pos h
theorem checkR_bad {R : List Ask} {k : Nat} (h : ¬ 64 < R.length) (hk : k < R.length) (hb : askOk R k = false) : checkR R = 21 := by
 unfold checkR; rw [if_neg h, allTo_false hk hb]; rfl
theorem checkR_ok {R : List Ask} (h : ¬ 64 < R.length) (hall : ∀ j, j < R.length → askOk R j = true) : checkR R = 0 := by
 unfold checkR; rw [if_neg h, allTo_true hall]; rfl
theorem CheckReqs_calls (a : Option Addr) (cap : Nat) (R : List Ask) (w : World) (hR : Hid (AsksAt w a R)) : Calls prog 117 #[.slice a R.length cap] w fun e w' => e = .returned (.int .i64 (checkR R)) ∧ Below w.heap.size w w' := by
 by_cases h64 : (64 : Int) < (R.length : Int)
 ·
  have HF : Hid (checkR R = 3) := checkR_long (by omega)
  go_enter func117, ntmps117
  go_wp2
  go_ret
  exact ⟨reti HF.out.symm, Below.refl _ _⟩
 go_enter func117, ntmps117
 go_wp2
 go_loopw [10] (fun i wr => ∃ k : Nat, k ≤ R.length ∧ i = .int .i64 k ∧ Below w.heap.size w wr ∧ Hid (∀ j, j < k → askOk R j = true)) (fun i _ => R.length - (intOf i).toNat)
 case atStart => exact ⟨0, Nat.zero_le _, rfl, Below.refl _ _, fun j hj => absurd hj (Nat.not_lt_zero _)⟩
 case round =>
  obtain ⟨k, hk, rfl, hbel, hall⟩ := hrel
  by_cases hlt : k < R.length
  ·
   obtain ⟨B, off, rfl, hB, c0, c1, ⟨a', capv, c2, hv⟩, s0⟩ := hR.out.get hlt
   have d0 := (hbel.cell (p := ⟨B, off + k * 3, none⟩) hB).trans c0
   have d1 := (hbel.cell (p := ⟨B, off + k * 3 + 1, none⟩) hB).trans c1
   have d2 := (hbel.cell (p := ⟨B, off + k * 3 + 2, none⟩) hB).trans c2
   have hbad : Hid (askOk R k = false → checkR R = 21) := fun h => checkR_bad (by omega) hlt h
   have hgo : Hid (askOk R k = true → ∀ j, j < k + 1 → askOk R j = true) := fun h j hj => by
    rcases Nat.lt_succ_iff_lt_or_eq.1 hj with h' | rfl
    ·
     exact hall.out j h'
    ·
     exact h
   clear hall
   have hW := Word_calls (R.getD k default).key
   have HM : Hid (∀ u, Below wr.heap.size wr u → Calls prog 130 #[.int .i64 (R.getD k default).op, .slice a' (R.getD k default).vals.length capv] u fun e w' => e = .returned (.bool (rightV (R.getD k default).op (R.getD k default).vals)) ∧ w' = u) :=
    fun u hu => rightValues_calls _ a' capv _ u (hv.on (on2 hbel hu))
   have hok : Hid (askOk R k = (wordB (R.getD k default).key && rightV (R.getD k default).op (R.getD k default).vals)) := rfl
   clear c0 c1 c2 hv
   generalize R.getD k default = r at d0 d1 d2 s0 HM hW hok
   generalize wordB r.key = p at hW hok
   generalize rightV r.op r.vals = q at HM hok
   cases p <;> cases q
   ·
    have HF : Hid (checkR R = 21) := hbad.out hok.out
    clear hgo hbad hok
    go_wp2_with (first | (go_at_call 97; refine (hW _).mono ?_; rintro e w' ⟨rfl, rfl⟩) | (go_at_call 130; refine (HM.out _ (by go_grown)).mono ?_; rintro e w' ⟨rfl, rfl⟩))
    go_ret
    exact ⟨reti HF.out.symm, on2 hbel (by go_grown)⟩
   ·
    have HF : Hid (checkR R = 21) := hbad.out hok.out
    clear hgo hbad hok
    go_wp2_with (first | (go_at_call 97; refine (hW _).mono ?_; rintro e w' ⟨rfl, rfl⟩) | (go_at_call 130; refine (HM.out _ (by go_grown)).mono ?_; rintro e w' ⟨rfl, rfl⟩))
    go_ret
    exact ⟨reti HF.out.symm, on2 hbel (by go_grown)⟩
   ·
    have HF : Hid (checkR R = 21) := hbad.out hok.out
    clear hgo hbad hok
    go_wp2_with (first | (go_at_call 97; refine (hW _).mono ?_; rintro e w' ⟨rfl, rfl⟩) | (go_at_call 130; refine (HM.out _ (by go_grown)).mono ?_; rintro e w' ⟨rfl, rfl⟩))
    go_ret
    exact ⟨reti HF.out.symm, on2 hbel (by go_grown)⟩
   ·
    have HG : Hid (∀ j, j < k + 1 → askOk R j = true) := hgo.out hok.out
    clear hgo hbad hok
    go_wp2_with (first | (go_at_call 97; refine (hW _).mono ?_; rintro e w' ⟨rfl, rfl⟩) | (go_at_call 130; refine (HM.out _ (by go_grown)).mono ?_; rintro e w' ⟨rfl, rfl⟩))
    go_roundw
    case rel => exact ⟨k + 1, by omega, by go_num, on2 hbel (by go_grown), HG⟩
    case measure => simp [intOf]; omega
  ·
   have HF : Hid (checkR R = 0) := checkR_ok (by omega) (fun j hj => hall.out j (by omega))
   go_wp2
   go_ret
   exact ⟨reti HF.out.symm, hbel⟩
end Go.Proofs.YtikncmcceeacmaaGreat

namespace Go.Proofs.YtikncmcceeacmaaGreat
set_option maxHeartbeats 16000000
set_option maxRecDepth 100000
open Tryz Go.RowKit
theorem row_of_sl {α : Type} [Inhabited α] {R : Rep α} {enc : α → List Value} {k bytes : Nat} {ok : α → Prop} (hR : ∀ {A w cs x}, R A w cs x → cs = enc x ∧ ok x) (hb : 1 ≤ bytes) {A : Where} {w : World} {a : Option Addr} {n cap : Nat} {L : List α} (h : SlAt R k bytes A w a n cap L) : RowAt enc k ok w a L := by
 have hl := h.len hb
 obtain ⟨hn, h2, h3, h4, h5⟩ := h
 have each : ∀ i, i < n → ok (L.getD i default) := fun i hi => by
  obtain ⟨B, off, _, _, _, hc⟩ := h5 (by omega)
  obtain ⟨cs, hr, _⟩ := hc i hi
  exact (hR hr).2
 refine ⟨by omega, fun x hx => ?_, fun hne => ?_⟩
 ·
  obtain ⟨i, hi, rfl⟩ := List.mem_iff_getElem.1 hx
  have := each i (by omega)
  rwa [getE _ _ hi] at this
 ·
  have hpos : 0 < n := by
   rcases Nat.eq_zero_or_pos n with h0 | h0
   ·
    exact absurd (List.length_eq_zero_iff.1 (by omega)) hne
   ·
    exact h0
  obtain ⟨B, off, e, hB, _, hc⟩ := h5 hpos
  refine ⟨B, off, e, hB, fun i hi j v hj => ?_⟩
  obtain ⟨cs, hr, hv⟩ := hc i (by omega)
  rw [← (hR hr).1] at hj
  exact hv j v hj
theorem tnts_of {A : Where} {w : World} {a : Option Addr} {n cap : Nat} {L : List Tnt} (h : SlAt RTaint 3 40 A w a n cap L) : TntsAt w a L :=
 row_of_sl (fun hr => by obtain ⟨rfl, h1, h2⟩ := RTaint.out hr; exact ⟨rfl, h1, h2⟩) (by decide) h
theorem bears_of {A : Where} {w : World} {a : Option Addr} {n cap : Nat} {L : List Bear} (h : SlAt RBear 4 48 A w a n cap L) : BearsAt w a L :=
 row_of_sl (fun hr => by obtain ⟨rfl, h1, h2⟩ := RBear.out hr; exact ⟨rfl, h1, h2⟩) (by decide) h
end Go.Proofs.YtikncmcceeacmaaGreat

namespace Go.Proofs.YtikncmcceeacmaaGreat
set_option maxHeartbeats 16000000
set_option maxRecDepth 100000
open Tryz Go.RowKit
set_option linter.unusedSimpArgs false
theorem calls_same {f : Nat} {args : Array Value} {w : World} {x : Ending} (h : Calls prog f args w fun e w' => e = x ∧ w' = w) : Calls prog f args w fun e w' => e = x ∧ Below w.heap.size w w' := h.mono fun _ _ ⟨h1, h2⟩ => ⟨h1, by subst h2; exact Below.refl _ _⟩
theorem within_calls (n lo hi : Int) (w : World) : Calls prog 98 #[.int .i64 n, .int .i64 lo, .int .i64 hi] w fun e w' => e = .returned (.bool (withinB n lo hi)) ∧ w' = w := by
 by_cases h1 : lo ≤ n
 ·
  have HF : Hid (withinB n lo hi = decide (n ≤ hi)) := by simp [Hid, withinB, h1]
  go_enter func98, ntmps98
  go_wp2_with fail
  go_ret
  exact ⟨retb HF.out.symm, rfl⟩
 ·
  have HF : Hid (withinB n lo hi = false) := by simp [Hid, withinB, h1]
  have h2 : decide (lo ≤ n) = false := by simp [h1]
  go_enter func98, ntmps98
  go_wp2_with fail
  go_ret
  exact ⟨retb HF.out.symm, rfl⟩
theorem clamp_calls (a : Int) (w : World) : Calls prog 133 #[.int .i64 a] w fun e w' => e = .returned (.int .i64 (min (max a 0) 1125899906842624)) ∧ w' = w := by
 go_enter func133, ntmps133
 go_wp2
 all_goals (go_ret; exact ⟨reti (by omega), rfl⟩)
theorem isAmount_calls (n : Int) (w : World) : Calls prog 119 #[.int .i64 n] w fun e w' => e = .returned (.bool (amountB n)) ∧ w' = w := by
 have hC := clamp_calls n
 have HF : Hid (amountB n = (min (max n 0) 1125899906842624 == n)) := by
  rw [Hid, amountB, Bool.eq_iff_iff]
  simp only [Bool.and_eq_true, decide_eq_true_eq, beq_iff_eq]
  omega
 generalize min (max n 0) 1125899906842624 = c at hC HF
 go_enter func119, ntmps119
 go_wp2_with fail
 refine (hC _).mono ?_
 rintro e w' ⟨rfl, rfl⟩
 go_wp2_with fail
 go_ret
 exact ⟨retb HF.out.symm, rfl⟩
theorem strs_of {A : Where} {w : World} {a : Option Addr} {n cap : Nat} {L : List ByteArray} (h : SlAt RStr 1 16 A w a n cap L) : StrsAt w a L := by
 have hl := h.len (by decide)
 obtain ⟨hn, h2, h3, h4, h5⟩ := h
 refine ⟨by omega, fun x hx => ?_, fun hne => ?_⟩
 ·
  obtain ⟨i, hi, rfl⟩ := List.mem_iff_getElem.1 hx
  obtain ⟨B, off, _, _, _, hc⟩ := h5 (by omega)
  obtain ⟨cs, hr, _⟩ := hc i (by omega)
  have := hr.2
  rwa [getE _ _ hi] at this
 ·
  have hpos : 0 < n := by
   rcases Nat.eq_zero_or_pos n with h0 | h0
   ·
    exact absurd (List.length_eq_zero_iff.1 (by omega)) hne
   ·
    exact h0
  obtain ⟨B, off, e, hB, _, hc⟩ := h5 hpos
  refine ⟨B, off, e, hB, fun i hi => ?_⟩
  obtain ⟨cs, hr, hv⟩ := hc i (by omega)
  obtain ⟨rfl, _⟩ := hr
  have := hv 0 _ rfl
  simpa using this
theorem labs_of {A : Where} {w : World} {a : Option Addr} {n cap : Nat} {L : List Lab} (h : SlAt RLabel 2 32 A w a n cap L) : LabsAt w a L := by
 have hl := h.len (by decide)
 obtain ⟨hn, h2, h3, h4, h5⟩ := h
 refine ⟨by omega, fun x hx => ?_, fun hne => ?_⟩
 ·
  obtain ⟨i, hi, rfl⟩ := List.mem_iff_getElem.1 hx
  obtain ⟨B, off, _, _, _, hc⟩ := h5 (by omega)
  obtain ⟨cs, hr, _⟩ := hc i (by omega)
  have := hr.out.2
  rwa [getE _ _ hi] at this
 ·
  have hpos : 0 < n := by
   rcases Nat.eq_zero_or_pos n with h0 | h0
   ·
    exact absurd (List.length_eq_zero_iff.1 (by omega)) hne
   ·
    exact h0
  obtain ⟨B, off, e, hB, _, hc⟩ := h5 hpos
  refine ⟨B, off, e, hB, fun i hi => ?_⟩
  obtain ⟨cs, hr, hv⟩ := hc i (by omega)
  obtain ⟨rfl, _⟩ := hr.out
  exact ⟨by simpa using hv 0 _ rfl, by simpa using hv 1 _ rfl⟩
theorem asks_of {A : Where} {w : World} {a : Option Addr} {n cap : Nat} {L : List Ask} (h : SlAt RReq 3 48 A w a n cap L) : AsksAt w a L := by
 have hl := h.len (by decide)
 obtain ⟨hn, h2, h3, h4, h5⟩ := h
 refine ⟨by omega, fun x hx => ?_, fun hne => ?_⟩
 ·
  obtain ⟨i, hi, rfl⟩ := List.mem_iff_getElem.1 hx
  obtain ⟨B, off, _, _, _, hc⟩ := h5 (by omega)
  obtain ⟨cs, hr, _⟩ := hc i (by omega)
  obtain ⟨_, _, hs, _⟩ := hr.out
  rwa [getE _ _ hi] at hs
 ·
  have hpos : 0 < n := by
   rcases Nat.eq_zero_or_pos n with h0 | h0
   ·
    exact absurd (List.length_eq_zero_iff.1 (by omega)) hne
   ·
    exact h0
  obtain ⟨B, off, e, hB, _, hc⟩ := h5 hpos
  refine ⟨B, off, e, hB, fun i hi => ?_⟩
  obtain ⟨cs, hr, hv⟩ := hc i (by omega)
  obtain ⟨h2, rfl, _, hs⟩ := hr.out
  refine ⟨by simpa using hv 0 _ rfl, by simpa using hv 1 _ rfl, h2.1, h2.2.2, ?_, strs_of hs⟩
  have := hv 2 _ rfl
  rw [← hs.1] at this
  simpa using this
theorem areReqs_calls (a : Option Addr) (n cap : Nat) (A : Where) (R : List Ask) (w : World) (h : Hid (SlAt RReq 3 48 A w a n cap R)) : Calls prog 100 #[.slice a n cap] w fun e w' => e = .returned (.bool (reqsB R)) ∧ Below w.heap.size w w' := by
 have hn := h.out.1
 subst hn
 have hC := CheckReqs_calls a cap R w (asks_of h.out)
 have HF : Hid (reqsB R = (checkR R == 0)) := rfl
 generalize checkR R = c at hC HF
 go_enter func100, ntmps100
 go_wp2_with fail
 refine hC.mono ?_
 rintro e w1 ⟨rfl, hb⟩
 go_wp2_with fail
 go_ret
 exact ⟨retb HF.out.symm, hb⟩
theorem isNameOrNone_calls (s : ByteArray) (w : World) : Calls prog 114 #[.string s] w fun e w' => e = .returned (.bool (nameNone s)) ∧ w' = w := by
 have hW := Word_calls s
 cases hs : sNil s
 ·
  have HF : Hid (nameNone s = wordB s) := by simp [Hid, nameNone, hs]
  unfold sNil at hs
  generalize wordB s = b at hW HF
  go_enter func114, ntmps114
  go_wp2_with fail
  refine (hW _).mono ?_
  rintro e w' ⟨rfl, rfl⟩
  go_wp2_with fail
  go_ret
  exact ⟨retb HF.out.symm, rfl⟩
 ·
  have HF : Hid (nameNone s = true) := by simp [Hid, nameNone, hs]
  unfold sNil at hs
  clear hW
  go_enter func114, ntmps114
  go_wp2_with fail
  go_ret
  exact ⟨retb HF.out.symm, rfl⟩
theorem itPod : (prog.info? 33).map (·.size) = some 16 := by kernel_rfl
def PredPod (g : Nat) (lb : Array Value) (p : PodD → Bool) (w : World) : Prop :=
 ∀ (W : World) (cs : List Value) (x : PodD), Below w.heap.size w W → RPod (fun _ => True) W cs x → Calls prog g (#[.agg cs.toArray] ++ lb) W fun e w' => e = .returned (.bool (p x)) ∧ Below W.heap.size W w'
theorem IndexPod_calls (a : Option Addr) (n cap : Nat) (A : Where) (L : List PodD) (w : World) (hL : Hid (SlAt RPod 16 296 A w a n cap L)) (p : PodD → Bool) (g : Nat) (lb : Array Value) (eg : ∀ args w, (callFunc g args).run prog w = .ok (.enter g args) w) (hp : Hid (PredPod g lb p w)) :
  Calls prog 167 #[.slice a n cap, .func (.func g) #[] lb] w fun e w' => ((∃ i : Nat, i < L.length ∧ p (L.getD i default) = true ∧ (∀ j, j < i → p (L.getD j default) = false) ∧ e = .returned (.int .i64 i)) ∨ ((∀ j, j < L.length → p (L.getD j default) = false) ∧ e = .returned (.int .i64 (-1)))) ∧ Below w.heap.size w w' := by
 have hlen := hL.out.len (by decide)
 have HN : Hid (L.length = n) := hL.out.1
 go_enter func167, ntmps167
 go_wp2
 go_loopw [8] (fun i wr => ∃ k : Nat, k ≤ n ∧ i = .int .i64 k ∧ Below w.heap.size w wr ∧ Hid (∀ j, j < k → p (L.getD j default) = false)) (fun i _ => n - (intOf i).toNat)
 case atStart => exact ⟨0, Nat.zero_le _, rfl, Below.refl _ _, fun j hj => absurd hj (Nat.not_lt_zero _)⟩
 case round =>
  obtain ⟨k, hk, rfl, hbel, hall⟩ := hrel
  by_cases hlt : k < n
  ·
   obtain ⟨B, off, rfl, hB, _, cs, hr, hv⟩ := (hL.out.on RPod.firm hbel).get hlt
   have HV : Hid (wr.rangeAt B (off + k * 16) cs) := hv
   have hi : (prog.info? 33).map (·.size) = some cs.length := by rw [RPod.firm.len hr]; exact itPod
   have hcall := hp.out wr cs (L.getD k default) hbel (RPod.firm.weak hr (fun _ _ _ => trivial))
   clear hv hr
   have HG : Hid (p (L.getD k default) = false → ∀ j, j < k + 1 → p (L.getD j default) = false) := fun h j hj => by
    rcases Nat.lt_succ_iff_lt_or_eq.1 hj with h' | rfl
    ·
     exact hall.out j h'
    ·
     exact h
   have HF : Hid (p (L.getD k default) = true → ∃ i : Nat, i < L.length ∧ p (L.getD i default) = true ∧ (∀ j, j < i → p (L.getD j default) = false) ∧ Ending.returned (.int .i64 k) = .returned (.int .i64 i)) := fun h => ⟨k, by rw [HN.out]; exact hlt, h, hall.out, rfl⟩
   clear hall
   generalize L.getD k default = x at hcall HG HF
   cases hq : p x
   ·
    have HG' : Hid (∀ j, j < k + 1 → p (L.getD j default) = false) := HG.out hq
    rw [hq] at hcall
    clear HG HF hq
    go_wp2_with (first | (refine wpList_load_mid rfl 33 _ rfl B (off + k * 16) rfl cs _ HV.out underlying33 rfl hi ?_) | fail)
    refine hcall.mono ?_
    rintro e w' ⟨rfl, hb'⟩
    go_wp2_with fail
    go_roundw
    case rel => exact ⟨k + 1, by omega, by go_num, on2 hbel hb', HG'⟩
    case measure => simp [intOf]; omega
   ·
    have HF' := HF.out hq
    have HF2 : Hid (∃ i : Nat, i < L.length ∧ p (L.getD i default) = true ∧ (∀ j, j < i → p (L.getD j default) = false) ∧ Ending.returned (.int .i64 k) = .returned (.int .i64 i)) := HF'
    rw [hq] at hcall
    clear HG HF hq HF'
    go_wp2_with (first | (refine wpList_load_mid rfl 33 _ rfl B (off + k * 16) rfl cs _ HV.out underlying33 rfl hi ?_) | fail)
    refine hcall.mono ?_
    rintro e w' ⟨rfl, hb'⟩
    go_wp2_with fail
    go_ret
    exact ⟨.inl HF2.out, on2 hbel hb'⟩
  ·
   have HA : Hid (∀ j, j < L.length → p (L.getD j default) = false) := fun j hj => hall.out j (by rw [HN.out] at hj; omega)
   clear hall
   go_wp2
   go_ret
   exact ⟨.inr ⟨HA.out, rfl⟩, hbel⟩
theorem ContainsPod_calls (a : Option Addr) (n cap : Nat) (A : Where) (L : List PodD) (w : World) (hL : Hid (SlAt RPod 16 296 A w a n cap L)) (p : PodD → Bool) (g : Nat) (lb : Array Value) (eg : ∀ args w, (callFunc g args).run prog w = .ok (.enter g args) w) (hp : Hid (PredPod g lb p w)) :
  Calls prog 172 #[.slice a n cap, .func (.func g) #[] lb] w fun e w' => e = .returned (.bool (L.any p)) ∧ Below w.heap.size w w' := by
 have hI := IndexPod_calls a n cap A L w hL p g lb eg hp
 go_enter func172, ntmps172
 go_wp2_with fail
 refine hI.mono ?_
 rintro e w1 ⟨⟨i, hi, hy, _, rfl⟩ | ⟨hn, rfl⟩, hb⟩
 ·
  have HA : Hid (L.any p = true) := any_yes hi hy
  clear hy
  go_wp2_with fail
  go_ret
  exact ⟨retb HA.out.symm, hb⟩
 ·
  have HA : Hid (L.any p = false) := any_no hn
  clear hn
  go_wp2_with fail
  go_ret
  exact ⟨retb HA.out.symm, hb⟩
end Go.Proofs.YtikncmcceeacmaaGreat

