/- all: those that count, in order: small facts. Plain. No condition. all at Volume: those that count, in order. Condition: the list and its map lie as is said of them. The plan as the program makes it, in plain words: the volumes that can be had on a node lie on a shelf, and the smallest that suits is taken off it; it is the document's plan where names stand once. Plain mathematics. No condition. The plan as it lies in memory while it is made: what stays, the shelf, the picks. Plain facts on worlds. No condition. -/
import Derived.Test.YtgofpmcoffgffaaQ14
import Derived.Test.YtgofpmcoffgffaaQ13
import Derived.Test.YtgofpmcoffgffaaQ16
import Derived.Laws.MakeOwn
import Derived.Test.YtgofpmcoffgffaaQ15
import Derived.Test.YtgofpmcoffgffaaQ03
namespace Go.Proofs.Ytgofpmcoffgffaa
open Go.RowKit Go.Maps
set_option linter.unusedSimpArgs false
set_option maxRecDepth 100000

/-- Those that count: the first one of each name. -/
def allL {α : Type} [Inhabited α] (f : α → ByteArray) (L : List α) : List α := (firstsI (L.map f)).map (fun k => L.getD k default)
theorem allL_once {α : Type} [Inhabited α] (f : α → ByteArray) {L : List α} (h : (L.map f).Nodup) : allL f L = L := by
  unfold allL
  rw [firstsI_nodup h, List.length_map]
  apply List.ext_getElem
  · simp
  · intro i h1 h2
    simp [List.getD_eq_getElem?_getD, h2]
theorem allL_len {α : Type} [Inhabited α] (f : α → ByteArray) (L : List α) : (allL f L).length = (firstsI (L.map f)).length := by unfold allL; rw [List.length_map]
theorem allL_le {α : Type} [Inhabited α] (f : α → ByteArray) (L : List α) : (allL f L).length ≤ L.length := by have := firstsI_len (L.map f); rw [allL_len]; rwa [List.length_map] at this
/-- The one at k, and where it stands. -/
theorem allL_at {α : Type} [Inhabited α] (f : α → ByteArray) {L : List α} {k : Nat} (h : k < (firstsI (L.map f)).length) : (firstsI (L.map f)).getD k default < L.length ∧ (allL f L).take (k + 1) = (allL f L).take k ++ [L.getD ((firstsI (L.map f)).getD k default) default] ∧ (firstsZ (L.map f)).getD k default = (((firstsI (L.map f)).getD k default : Nat) : Int) := by
  have hm : (firstsI (L.map f)).getD k default ∈ firstsI (L.map f) := by rw [List.getD_eq_getElem?_getD, List.getElem?_eq_getElem h]; exact List.getElem_mem h
  obtain ⟨s, hs⟩ := (mem_firstsI _ _).1 hm
  have h1 := (fI_some hs).1
  rw [List.length_map] at h1
  refine ⟨h1, ?_, ?_⟩
  · have h2 : k < (allL f L).length := by rw [allL_len]; exact h
    have e : (allL f L)[k]? = some (L.getD ((firstsI (L.map f)).getD k default) default) := by
      unfold allL
      rw [List.getElem?_map, List.getD_eq_getElem?_getD (l := firstsI (L.map f)), List.getElem?_eq_getElem h]
      rfl
    rw [List.take_add_one, e]
    rfl
  · unfold firstsZ
    rw [List.getD_eq_getElem?_getD, List.getElem?_map, List.getD_eq_getElem?_getD, List.getElem?_eq_getElem h]
    rfl
theorem NmAt.len {w : World} {mb : Nat} {N : List ByteArray} (h : NmAt w mb N) (ty : TypeId) : (Builtin.len_ #[70] ty #[.map (some mb)]).run Try.prog w = .ok (.int .i64 ((firstsI N).length : Int)) w := by
  obtain ⟨D, h1, h2, _⟩ := h.values
  have := h1.len Try.underlying70 ty
  rw [h2] at this
  exact this
section
variable {α : Type} [Inhabited α] {R : Rep α} {k : Nat}
theorem src_box10 (hR : Firm R k) {A : Where} {u : World} {B : Nat} {cs : List Value} {x : α} (hb : BoxL u B cs) (hr : R A u cs x) : Src R k A u (some ⟨B, 0, none⟩) 1 [x] := by
  refine ⟨rfl, .inr ⟨⟨B, 0, none⟩, cs, rfl, ⟨by rw [hR.len hr]; simp, fun i hi => ?_⟩, fun j y hj => ?_, hR.one hr⟩⟩
  · obtain rfl : i = 0 := by simpa using hi
    exact ⟨cs, hr, fun j _ => by rw [Nat.zero_mul, Nat.zero_add]⟩
  · have := (hb.2 j y hj).1
    by_cases h0 : j = 0
    · subst h0; simpa [Addr.add] using this
    · simpa [Addr.add, h0] using this
/-- A row that grows, beside places told by numbers, that stay. -/
def Beside (R : Rep α) (k : Nat) (A : Where) (w u : World) (e : TypeId) (v s : Value) (L : List α) (Z : List Int) : Prop :=
  Row R k A w u e v L ∧ Row RInt 1 (fun _ => False) w u 3 s Z ∧ ∀ b, v.ownBlock = some b → s.ownBlock ≠ some b
theorem Beside.below {A : Where} {w u : World} {e : TypeId} {v s : Value} {L : List α} {Z : List Int} (h : Beside R k A w u e v s L Z) : Below w.heap.size w u := h.1.below
theorem Beside.on (hR : Firm R k) {A : Where} {w u u' : World} {e : TypeId} {v s : Value} {L : List α} {Z : List Int} (h : Beside R k A w u e v s L Z) (hb : Below u.heap.size u u') : Beside R k A w u' e v s L Z := ⟨h.1.on hR hb, h.2.1.on RInt.firm hb, h.2.2⟩
theorem Beside.app {A : Where} {w u u' : World} {e : TypeId} {v v' s : Value} {L L' : List α} {Z : List Int} (h : Beside R k A w u e v s L Z) (hr : Row R k A w u' e v' L') (hg : u.grownBy u' v.ownBlock) (hw : v'.ownBlock = v.ownBlock ∨ v'.ownBlock = some u.heap.size) : Beside R k A w u' e v' s L' Z := by
  obtain ⟨h1, h2, h3⟩ := h
  refine ⟨hr, h2.grown RInt.firm hg (fun b hb => ⟨(h1.lt hb).1, h3 b hb, id⟩), fun b hb => ?_⟩
  rcases hw with hw | hw
  · exact h3 b (hw ▸ hb)
  · rw [hw] at hb
    injection hb with hb
    subst hb
    exact fun e => by have := (h2.lt e).2; omega
end
/-- What all hands back. -/
def AllOut {α : Type} [Inhabited α] (R : Rep α) (k : Nat) (A : Where) (ty : TypeId) (w : World) (L : List α) (e : Ending) (w' : World) : Prop := ∃ v, e = .returned v ∧ Row R k A w w' ty v L
end Go.Proofs.Ytgofpmcoffgffaa
namespace Go.Proofs.Ytgofpmcoffgffaa
open Go.RowKit Go.Maps
set_option linter.unusedSimpArgs false
set_option maxRecDepth 100000

set_option maxHeartbeats 16000000 in
theorem allVolume_calls (a : Option Addr) (n cap : Nat) (A : Where) (L : List VolumeD) (mb : Nat) (w : World) (hL : Hid (SlAt RVolume 5 72 A w a n cap L)) (hm : Hid (NmAt w mb (L.map Prod.fst))) (hrb : n * 80 ≤ 140737488355328) :
    Calls Try.prog 31 #[.agg #[.slice a n cap, .map (some mb)]] w (AllOut RVolume 5 (Lo10 A w) 59 w (allL Prod.fst L)) := by
  have hnl : Hid (L.length = n) := hL.out.1
  have hbn : Hid (n * 72 ≤ 140737488351232) := hL.out.2.2.2.1
  have hlen := hL.out.len (by decide)
  obtain ⟨W1, hW1⟩ : ∃ W, W = w.alloc (.cells #[.slice a n cap, .map (some mb)] 74) := ⟨_, rfl⟩
  have B1 : Below w.heap.size w W1 := by rw [hW1]; go_grown
  have q1 : BoxL W1 w.heap.size [.slice a n cap, .map (some mb)] := by rw [hW1]; exact BoxL.new w 74 _
  obtain ⟨F, hF⟩ : ∃ F, F = firstsI (L.map Prod.fst) := ⟨_, rfl⟩
  have hFn : F.length ≤ n := by have := firstsI_len (L.map Prod.fst); rw [hF, ← hnl.out]; rwa [List.length_map] at this
  have hln := (hm.out.on B1).len
  rw [← hF] at hln
  obtain ⟨i0, hi0, hz0, hz1, hz2⟩ := info_parts infcVolume
  obtain ⟨W2, hmk, hown, hg2⟩ := run_make_own (P := Try.prog) W1 W1.heap.size 41 59 i0 _ 5 Try.underlying41 hi0 hz0 hz1 .i64 .i64 F.length (by rw [hz2]; have := hbn.out; omega) (by have := hbn.out; have := maxLen9; omega) (Nat.le_refl _)
  have B2 : Below W1.heap.size W1 W2 := (Below.refl _ _).grown hg2 (Nat.le_refl _) (fun k e => by cases e)
  have r2 : Row RVolume 5 (Lo10 A w) W1 W2 59 (.slice (some ⟨W1.heap.size, 0, none⟩) 0 F.length) ((allL Prod.fst L).take 0) := ⟨[], ⟨B2, hown⟩, Chunks.nil _ _⟩
  have m2 := hm.out.on (on2 B1 B2)
  have HU : Hid (∀ u, Below W1.heap.size W1 u → BoxL u w.heap.size [.slice a n cap, .map (some mb)] ∧ SlAt RVolume 5 72 (Lo10 A w) u a n cap L ∧ Below w.heap.size w u) := fun u hb => ⟨q1.on hb, (hL.out.weak RVolume.firm (fun b hb h => ⟨h, hb⟩)).on RVolume.firm (on2 B1 hb), on2 B1 hb⟩
  have HA : Hid (∀ k, k < F.length → F.getD k default < n ∧ (allL Prod.fst L).take (k + 1) = (allL Prod.fst L).take k ++ [L.getD (F.getD k default) default] ∧ (firstsZ (L.map Prod.fst)).getD k default = ((F.getD k default : Nat) : Int)) := fun k hk => by rw [hF] at hk ⊢; rw [← hnl.out]; exact allL_at Prod.fst hk
  have HFl : Hid ((firstsZ (L.map Prod.fst)).length = F.length) := by rw [Hid, hF]; unfold firstsZ; rw [List.length_map]
  have HAl : Hid ((allL Prod.fst L).length = F.length) := by rw [Hid, hF]; exact allL_len _ _
  have c1 := (q1.2 1 _ rfl).1
  have c1' := ((q1.on B2).2 1 _ rfl).1
  have hsz1 : W1.heap.size < W2.heap.size := (hown.lt W1.heap.size rfl).2
  have hCv := mVals_calls (some mb) W2
  have hCs := sortedV_calls m2 (by rw [List.length_map, hnl.out]; have := hbn.out; omega)
  have H2 : Hid (Row RVolume 5 (Lo10 A w) W1 W2 59 (.slice (some ⟨W1.heap.size, 0, none⟩) 0 F.length) ((allL Prod.fst L).take 0) ∧ W1.heap.size < W2.heap.size ∧ Below W1.heap.size W1 W2) := ⟨r2, hsz1, B2⟩
  have Hw1 : Hid (w.heap.size < W1.heap.size ∧ Below w.heap.size w W1) := ⟨q1.1, B1⟩
  unfold SrtOut at hCs
  clear hL hm B1 q1 hown hg2 B2 r2 m2 hi0 hz0 hz1 hz2 hF hsz1
  generalize allL Prod.fst L = M at H2 HA HAl
  generalize firstsZ (L.map Prod.fst) = Zs at hCs HA HFl
  have HCs : Hid (Calls Try.prog 53 #[.func (.func 76) #[] #[.pointer (some ⟨W2.heap.size, 0, none⟩)]] (W2.alloc (.cells #[.map (some mb)] 70)) (fun e w' => ∃ v, e = .returned v ∧ Row RInt 1 (fun _ => False) W2 w' 3 v Zs)) := hCs
  clear hCs
  go_enter Try.func31, Try.ntmps31
  go_upto_region 1 with fail
  rw [← hW1]
  clear hW1
  go_upto_region 2 with fail
  clear hmk hln c1
  go_wp2_with fail
  refine hCv.mono ?_
  rintro e w3 ⟨rfl, rfl⟩
  clear hCv
  go_wp2_with fail
  refine HCs.out.mono ?_
  rintro e w4 ⟨s, rfl, hrs⟩
  clear HCs c1'
  have b4 : Below W2.heap.size W2 w4 := hrs.below
  have hbs : Beside RVolume 5 (Lo10 A w) W1 w4 59 (.slice (some ⟨W1.heap.size, 0, none⟩) 0 F.length) s (M.take 0) Zs := ⟨H2.out.1.on RVolume.firm b4, hrs.from RInt.firm H2.out.2.2 (fun _ h => h), fun b hb e => by
    have h1 := (hrs.lt e).1
    have h2 := H2.out.2.1
    simp only [Value.ownBlock, Option.some.injEq] at hb
    omega⟩
  obtain ⟨sa, sn, sc, rfl, ss⟩ := hrs.sl10 (bytes := 8) RInt.firm (by rw [HFl.out]; have := hbn.out; omega)
  have hsn : Hid (sn = F.length) := by rw [Hid, ← ss.1]; exact HFl.out
  have hsnl := ss.len (by decide)
  have HI : Hid (Beside RVolume 5 (Lo10 A w) W1 w4 59 (.slice (some ⟨W1.heap.size, 0, none⟩) 0 F.length) (.slice sa sn sc) (M.take 0) Zs) := hbs
  clear hrs b4 hbs ss H2
  go_wp2_with fail
  go_loopw [3, 15] (fun o i wr => ∃ k : Nat, k ≤ sn ∧ i = .int .i64 k ∧ Hid (Beside RVolume 5 (Lo10 A w) W1 wr 59 o (.slice sa sn sc) (M.take k) Zs)) (fun _ i _ => sn - (intOf i).toNat)
  case atStart => exact ⟨0, Nat.zero_le _, rfl, HI⟩
  case round =>
    obtain ⟨k, hk, rfl, hrun⟩ := hrel
    have hbs := hrun.out
    clear hrun HI
    obtain ⟨hq, hS, hbw⟩ := HU.out wr hbs.below
    by_cases hlt : k < sn
    · have hltz : (k : Int) < (sn : Int) := by omega
      obtain ⟨ja, jb, jc⟩ := HA.out k (by rw [← hsn.out]; exact hlt)
      obtain ⟨j, hj⟩ : ∃ j, j = F.getD k default := ⟨_, rfl⟩
      rw [← hj] at ja jb jc
      clear hj
      have hjz : (j : Int) < (n : Int) := by omega
      obtain ⟨_, _, _, es, ss⟩ := hbs.2.1.sl10 (bytes := 8) RInt.firm (by rw [HFl.out]; have := hbn.out; omega)
      cases es
      obtain ⟨Bs, os, rfl, hBs, _, ys, hys, hyv⟩ := ss.get hlt
      obtain rfl : ys = [.int .i64 (Zs.getD k default)] := hys
      have d0 := hyv 0 _ rfl
      rw [jc, Nat.mul_one, Nat.add_zero] at d0
      obtain ⟨B, off, rfl, hB, hAB, xs, hr, hv⟩ := hS.get ja
      have HT : Hid (M.take (k + 1) = M.take k ++ [L.getD j default]) := jb
      have HLk : Hid ((M.take k).length ≤ k) := by rw [Hid, List.length_take]; omega
      generalize L.getD j default = x at hr HT
      obtain ⟨⟨q1, q2, q3⟩, rfl, _⟩ := hr.out
      have HV0 : Hid (wr.rangeAt B (off + j * 5) [.string x.1, .int .i64 x.2.1, .string x.2.2.1, .slice q1 q2 q3, .string (vCl x)]) := hv
      have hi : (Try.prog.info? 59).map (·.size) = some ([.string x.1, .int .i64 x.2.1, .string x.2.2.1, .slice q1 q2 q3, .string (vCl x)] : List Value).length := iszVolume
      obtain ⟨Wb, hWb⟩ : ∃ W, W = wr.alloc (.cells #[.string x.1, .int .i64 x.2.1, .string x.2.2.1, .slice q1 q2 q3, .string (vCl x)] 59) := ⟨_, rfl⟩
      have bWb : Below wr.heap.size wr Wb := by rw [hWb]; go_grown
      have HB2 : Hid (Beside RVolume 5 (Lo10 A w) W1 Wb 59 u3 (.slice (some ⟨Bs, os, none⟩) sn sc) (M.take k) Zs) := hbs.on RVolume.firm bWb
      have HSr : Hid (Src RVolume 5 (fun b => Lo10 A w b ∧ u3.ownBlock ≠ some b) Wb (some ⟨wr.heap.size, 0, none⟩) 1 [x]) := src_box10 RVolume.firm (cs := [.string x.1, .int .i64 x.2.1, .string x.2.2.1, .slice q1 q2 q3, .string (vCl x)]) (by rw [hWb]; exact BoxL.new wr 59 _) (RVolume.firm.weak (RVolume.firm.kept hr (Kept.below bWb)) (fun b _ h => ⟨h, fun e => by have h1 := (hbs.1.lt e).1; have h2 := h.2; have h3 := Hw1.out.1; omega⟩))
      have HWb : Hid (Wb = wr.alloc (.cells #[.string x.1, .int .i64 x.2.1, .string x.2.2.1, .slice q1 q2 q3, .string (vCl x)] 59)) := hWb
      have HOb : Hid (((M.take k).length + [x].length) * 80 ≤ 140737488355328) := by have h1 := HLk.out; have h2 := hrb; have h3 := hsn.out; rw [Hid, List.length_singleton]; omega
      have c0 := (hq.2 0 _ rfl).1
      have HRw : Hid (Row RVolume 5 (Lo10 A w) W1 Wb 59 u3 (M.take k)) := HB2.out.1
      clear hq hS hbw hr hv hyv ss hbs hWb bWb jb jc HLk hB hAB hBs
      generalize x.1 = p0 at HV0 hi HWb
      generalize x.2.1 = p1 at HV0 hi HWb
      generalize x.2.2.1 = p2 at HV0 hi HWb
      generalize vCl x = p4 at HV0 hi HWb
      go_wp2_with (first | (refine wpList_load_mid rfl 59 _ rfl B (off + j * 5) rfl [.string p0, .int .i64 p1, .string p2, .slice q1 q2 q3, .string p4] _ HV0.out Try.underlying59 rfl hi ?_) | (at_builtin; refine wpl_w8 HWb.out ?_; go_must (refine row_appendP RVolume.firm (A := Lo10 A w) (w0 := W1) rfl _ _ 41 59 rfl _ 80 infcVolume Try.underlying41 rfl (by decide) (by decide) u3 (M.take k) rfl HRw.out (some ⟨wr.heap.size, 0, none⟩) 1 1 [x] rfl HSr.out HOb.out ?_); intro v7 u7 hr7 hg7 hw7) | fail)
      have HN : Hid (Beside RVolume 5 (Lo10 A w) W1 u7 59 v7 (.slice (some ⟨Bs, os, none⟩) sn sc) (M.take (k + 1)) Zs) := by rw [Hid, HT.out]; exact HB2.out.app hr7 hg7 hw7
      clear hr7 hg7 hw7 HB2 HT HSr HOb HRw HV0 HWb c0 d0
      go_roundw
      case rel => exact ⟨k + 1, by omega, by go_num, HN⟩
      case measure => simp [intOf]; omega
    · have htk : M.take k = M := List.take_of_length_le (by rw [HAl.out, ← hsn.out]; omega)
      rw [htk] at hbs
      have HF : Hid (Row RVolume 5 (Lo10 A w) w wr 59 u3 M) := hbs.1.from RVolume.firm Hw1.out.2 (fun _ h => h)
      clear hq hS hbw hbs htk
      go_wp2_with fail
      go_ret
      exact ⟨_, rfl, HF.out⟩
end Go.Proofs.Ytgofpmcoffgffaa
namespace Go.Proofs.Ytgofpmcoffgffaa
set_option linter.unusedSimpArgs false

theorem tot10 {a b : ByteArray} (h1 : sLt a b = false) (h2 : sLt b a = false) : a = b := by
  rw [sLt_false] at h1 h2
  rcases cb_tri a.data.toList b.data.toList with ⟨p, _⟩ | ⟨_, e⟩ | ⟨_, p⟩
  · exact absurd p h1
  · cases a; cases b; simpa using e
  · exact absurd p h2
theorem lessV_iff {v w : VolumeD} : lessV v w = true ↔ v.2.1 < w.2.1 ∨ (v.2.1 = w.2.1 ∧ sLt v.1 w.1 = true) := by
  unfold lessV
  simp
theorem lessV_trans {u v w : VolumeD} (h1 : lessV u v = true) (h2 : lessV v w = true) : lessV u w = true := by
  rw [lessV_iff] at *
  rcases h1 with h1 | ⟨h1, h1'⟩ <;> rcases h2 with h2 | ⟨h2, h2'⟩
  · exact .inl (by omega)
  · exact .inl (by omega)
  · exact .inl (by omega)
  · exact .inr ⟨by omega, sLt_trans h1' h2'⟩
/-- Neither is less: they have one name, and one size. -/
theorem lessV_tot {v w : VolumeD} (h1 : lessV v w = false) (h2 : lessV w v = false) : v.1 = w.1 := by
  rw [← Bool.not_eq_true, lessV_iff] at h1 h2
  simp only [not_or, not_and, Bool.not_eq_true] at h1 h2
  have e : v.2.1 = w.2.1 := by omega
  exact tot10 (h1.2 e) (h2.2 e.symm)
theorem best_min {fit : VolumeD → Bool} {V : List VolumeD} : ∀ {k b : Nat}, bestF fit V k = some b → ∀ j, j < k → fit (V.getD j default) = true → lessV (V.getD j default) (V.getD b default) = false
  | 0, b, h, _, _, _ => by cases h
  | k + 1, b, h, j, hj, hf => by
    unfold bestF at h
    by_cases hk : fit (V.getD k default) = true
    · rw [if_pos hk] at h
      cases e : bestF fit V k with
      | none =>
        rw [e] at h
        simp only [Option.some.injEq] at h
        subst h
        rcases Nat.lt_succ_iff_lt_or_eq.1 hj with h1 | rfl
        · rw [best_none e j h1] at hf; cases hf
        · cases hl : lessV (V.getD j default) (V.getD j default) with
          | false => rfl
          | true =>
            rw [lessV_iff] at hl
            rcases hl with hl | ⟨_, hl⟩
            · omega
            · rw [sLt_iff, cb_self] at hl; omega
      | some a =>
        rw [e] at h
        simp only at h
        have hm := best_min e
        by_cases hl : lessV (V.getD k default) (V.getD a default) = true
        · rw [if_pos hl] at h
          simp only [Option.some.injEq] at h
          subst h
          rcases Nat.lt_succ_iff_lt_or_eq.1 hj with h1 | rfl
          · have h2 := hm j h1 hf
            cases h3 : lessV (V.getD j default) (V.getD k default) with
            | false => rfl
            | true => rw [lessV_trans h3 hl] at h2; cases h2
          · cases h3 : lessV (V.getD j default) (V.getD j default) with
            | false => rfl
            | true =>
              rw [lessV_iff] at h3
              rcases h3 with h3 | ⟨_, h3⟩
              · omega
              · rw [sLt_iff, cb_self] at h3; omega
        · rw [if_neg hl] at h
          simp only [Option.some.injEq] at h
          subst h
          rcases Nat.lt_succ_iff_lt_or_eq.1 hj with h1 | rfl
          · exact hm j h1 hf
          · simpa using hl
    · rw [if_neg hk] at h
      rcases Nat.lt_succ_iff_lt_or_eq.1 hj with h1 | rfl
      · exact best_min h j h1 hf
      · exact absurd hf hk
/-- What can be had on the node, and is not picked. -/
def hadV (NL : List Lab) (v : VolumeD) : Bool := sEq (vCl v) B0 && matchL NL (vRq v)
def leftP (NL : List Lab) (V : List VolumeD) (picked : List ByteArray) : List VolumeD := V.filter (fun v => hadV NL v && !hasB sEq picked v.1)
def suitP (c : ClaimD) (v : VolumeD) : Bool := sEq v.2.2.1 c.2.2.1 && decide (c.2.1 ≤ v.2.1)
/-- The places of those that suit, of the first k. -/
def suitI (c : ClaimD) (L : List VolumeD) (k : Nat) : List Nat := (List.range k).filter (fun i => suitP c (L.getD i default))
/-- The least of a list of places, as far as k. -/
def minT (lt : Nat → Nat → Bool) (l : List Nat) : Nat → Nat
  | 0 => l.getD 0 default
  | k + 1 => if lt (l.getD (k + 1) default) (minT lt l k) = true then l.getD (k + 1) default else minT lt l k
abbrev ltAt (L : List VolumeD) (a b : Nat) : Bool := lessV (L.getD a default) (L.getD b default)
theorem minT_mem {lt : Nat → Nat → Bool} {l : List Nat} : ∀ {k : Nat}, k < l.length → minT lt l k ∈ l
  | 0, h => by
    unfold minT
    rw [List.getD_eq_getElem?_getD, List.getElem?_eq_getElem h]
    exact List.getElem_mem h
  | k + 1, h => by
    unfold minT
    split
    · rw [List.getD_eq_getElem?_getD, List.getElem?_eq_getElem h]
      exact List.getElem_mem h
    · exact minT_mem (by omega)
theorem lessV_irr (v : VolumeD) : lessV v v = false := by
  cases h : lessV v v with
  | false => rfl
  | true =>
    rw [lessV_iff] at h
    rcases h with h | ⟨_, h⟩
    · omega
    · rw [sLt_iff, cb_self] at h; omega
theorem minT_min {L : List VolumeD} {l : List Nat} : ∀ {k : Nat}, ∀ j, j ≤ k → ltAt L (l.getD j default) (minT (ltAt L) l k) = false
  | 0, j, hj => by
    obtain rfl : j = 0 := by omega
    exact lessV_irr _
  | k + 1, j, hj => by
    unfold minT
    split
    · rename_i hl
      rcases Nat.lt_or_ge j (k + 1) with h1 | h1
      · have h2 := minT_min (L := L) (l := l) (k := k) j (by omega)
        cases h3 : ltAt L (l.getD j default) (l.getD (k + 1) default) with
        | false => rfl
        | true => rw [show ltAt L (l.getD j default) (minT (ltAt L) l k) = true from lessV_trans h3 hl] at h2; cases h2
      · obtain rfl : j = k + 1 := by omega
        exact lessV_irr _
    · rename_i hl
      rcases Nat.lt_or_ge j (k + 1) with h1 | h1
      · exact minT_min j (by omega)
      · obtain rfl : j = k + 1 := by omega
        simpa using hl
theorem mem_suitI {c : ClaimD} {L : List VolumeD} {k i : Nat} : i ∈ suitI c L k ↔ i < k ∧ suitP c (L.getD i default) = true := by
  unfold suitI
  rw [List.mem_filter, List.mem_range]
theorem fit_left (c : ClaimD) (NL : List Lab) (picked : List ByteArray) (v : VolumeD) : fitV c NL picked v = ((hadV NL v && !hasB sEq picked v.1) && suitP c v) := by
  unfold fitV hadV suitP
  have : (!decide (v.2.1 < c.2.1)) = decide (c.2.1 ≤ v.2.1) := by
    by_cases h : v.2.1 < c.2.1 <;> simp [h] <;> omega
  rw [this]
  cases sEq (vCl v) B0 <;> cases hasB sEq picked v.1 <;> cases sEq v.2.2.1 c.2.2.1 <;> cases decide (c.2.1 ≤ v.2.1) <;> cases matchL NL (vRq v) <;> rfl
theorem getD_mem10 {α : Type} [Inhabited α] {l : List α} {i : Nat} (h : i < l.length) : l.getD i default ∈ l := by
  rw [List.getD_eq_getElem?_getD, List.getElem?_eq_getElem h]
  exact List.getElem_mem h
theorem mem_getD10 {α : Type} [Inhabited α] {l : List α} {x : α} (h : x ∈ l) : ∃ i, i < l.length ∧ l.getD i default = x := by
  obtain ⟨i, h1, h2⟩ := List.mem_iff_getElem.1 h
  exact ⟨i, h1, by rw [List.getD_eq_getElem?_getD, List.getElem?_eq_getElem h1]; exact h2⟩
/-- Nothing suits on the shelf: there is none. -/
theorem pick_none {c : ClaimD} {NL : List Lab} {V : List VolumeD} {picked : List ByteArray} (h : suitI c (leftP NL V picked) (leftP NL V picked).length = []) : bestP c NL V picked = none := by
  cases e : bestP c NL V picked with
  | none => rfl
  | some j =>
    exfalso
    obtain ⟨h1, h2⟩ := best_some e
    rw [fit_left, Bool.and_eq_true] at h2
    have hm : V.getD j default ∈ leftP NL V picked := List.mem_filter.2 ⟨getD_mem10 h1, h2.1⟩
    obtain ⟨i, i1, i2⟩ := mem_getD10 hm
    have : i ∈ suitI c (leftP NL V picked) (leftP NL V picked).length := mem_suitI.2 ⟨i1, by rw [i2]; exact h2.2⟩
    rw [h] at this
    cases this
/-- The least that suits on the shelf is the best one. -/
theorem pick_some {c : ClaimD} {NL : List Lab} {V : List VolumeD} {picked : List ByteArray} {l : List Nat} (hl : suitI c (leftP NL V picked) (leftP NL V picked).length = l) (hne : 0 < l.length) {at' : Nat} (ha : at' = minT (ltAt (leftP NL V picked)) l (l.length - 1)) :
    at' < (leftP NL V picked).length ∧ ∃ j, bestP c NL V picked = some j ∧ (V.getD j default).1 = ((leftP NL V picked).getD at' default).1 := by
  have hin : at' ∈ l := by rw [ha]; exact minT_mem (by omega)
  have hin' := hin
  rw [← hl, mem_suitI] at hin'
  obtain ⟨h1, h2⟩ := hin'
  refine ⟨h1, ?_⟩
  have hm := getD_mem10 h1
  obtain ⟨m1, m2⟩ := List.mem_filter.1 hm
  obtain ⟨jm, jm1, jm2⟩ := mem_getD10 m1
  cases e : bestP c NL V picked with
  | none =>
    exfalso
    have := best_none e jm jm1
    rw [jm2, fit_left, m2, h2] at this
    cases this
  | some j =>
    refine ⟨j, rfl, ?_⟩
    obtain ⟨b1, b2⟩ := best_some e
    have x1 : lessV ((leftP NL V picked).getD at' default) (V.getD j default) = false := by
      have := best_min e jm jm1 (by rw [jm2, fit_left, m2, h2]; rfl)
      rwa [jm2] at this
    have x2 : lessV (V.getD j default) ((leftP NL V picked).getD at' default) = false := by
      rw [fit_left, Bool.and_eq_true] at b2
      have hm2 : V.getD j default ∈ leftP NL V picked := List.mem_filter.2 ⟨getD_mem10 b1, b2.1⟩
      obtain ⟨i, i1, i2⟩ := mem_getD10 hm2
      have hil : i ∈ l := by rw [← hl]; exact mem_suitI.2 ⟨i1, by rw [i2]; exact b2.2⟩
      obtain ⟨q, q1, q2⟩ := mem_getD10 hil
      have := minT_min (L := leftP NL V picked) (l := l) (k := l.length - 1) q (by omega)
      rw [q2, ← ha] at this
      rw [← i2]
      exact this
    exact lessV_tot x2 x1
theorem erase_filter {L : List VolumeD} (hn : (vNs L).Nodup) : ∀ {k : Nat}, k < L.length → L.eraseIdx k = L.filter (fun v => !sEq (L.getD k default).1 v.1) := by
  induction L with
  | nil => intro k h; simp at h
  | cons a L ih =>
    intro k h
    rw [show vNs (a :: L) = a.1 :: vNs L from rfl, List.nodup_cons] at hn
    cases k with
    | zero =>
      rw [List.eraseIdx_cons_zero, List.getD_cons_zero, List.filter_cons]
      rw [(sEq_iff a.1 a.1).2 rfl]
      simp only [Bool.not_true, Bool.false_eq_true, if_false]
      symm
      rw [List.filter_eq_self]
      intro v hv
      rw [Bool.not_eq_true', sEq_ne9]
      exact fun e => hn.1 (e ▸ List.mem_map.2 ⟨v, hv, rfl⟩)
    | succ k =>
      have h' : k < L.length := by simpa using h
      rw [List.eraseIdx_cons_succ, List.getD_cons_succ, List.filter_cons, ih hn.2 h']
      have : sEq (L.getD k default).1 a.1 = false := by
        rw [sEq_ne9]
        exact fun e => hn.1 (e ▸ List.mem_map.2 ⟨_, getD_mem10 h', rfl⟩)
      rw [this]
      rfl
/-- What was taken off the shelf is picked. -/
theorem left_erase {NL : List Lab} {V : List VolumeD} (hn : (vNs V).Nodup) {picked : List ByteArray} {k : Nat} (h : k < (leftP NL V picked).length) :
    (leftP NL V picked).eraseIdx k = leftP NL V (picked ++ [((leftP NL V picked).getD k default).1]) := by
  have hs : (vNs (leftP NL V picked)).Nodup := List.Nodup.sublist (List.Sublist.map _ List.filter_sublist) hn
  rw [erase_filter hs h]
  generalize ((leftP NL V picked).getD k default).1 = s
  unfold leftP
  rw [List.filter_filter]
  congr 1
  funext v
  unfold hasB
  rw [List.any_append]
  simp only [List.any_cons, List.any_nil, Bool.or_false, Bool.not_or]
  cases hadV NL v <;> cases picked.any (fun w => sEq w v.1) <;> cases sEq s v.1 <;> rfl
end Go.Proofs.Ytgofpmcoffgffaa
namespace Go.Proofs.Ytgofpmcoffgffaa
open Go.RowKit Go.Maps
set_option linter.unusedSimpArgs false
set_option maxRecDepth 100000

/-- The plan's cells. -/
abbrev plC (la : Option Addr) (ln lc : Nat) (ca : Option Addr) (cn cc cm : Nat) (va : Option Addr) (vn vc vm : Nat) (ka : Option Addr) (kn kc km : Nat) (lv pv : Value) : List Value :=
  [.slice la ln lc, .slice ca cn cc, .map (some cm), .slice va vn vc, .map (some vm), .slice ka kn kc, .map (some km), lv, pv]
/-- Blocks that stay. -/
abbrev Old10 (Wp : World) (X : Nat) (lv0 : Value) : Where := fun b => b < Wp.heap.size ∧ b ≠ X ∧ lv0.ownBlock ≠ some b
/-- What stays while the plan is made. -/
structure PlC (w Wp : World) (X : Nat) (lv0 : Value) (la : Option Addr) (ln lc : Nat) (ca : Option Addr) (cn cc cm : Nat) (va : Option Addr) (vn vc vm : Nat) (ka : Option Addr) (kn kc km : Nat) (NL : List Lab) (CL : List ClaimD) (V : List VolumeD) (K : List ClassD) : Prop where
  bw : Below w.heap.size w Wp
  l : SlAt RLabel 2 32 (fun b => b < w.heap.size) Wp la ln lc NL
  c : SlAt RClaim 4 56 (fun b => b < w.heap.size) Wp ca cn cc CL
  v : SlAt RVolume 5 72 (fun b => b < w.heap.size) Wp va vn vc V
  k : SlAt RClass 2 24 (fun b => b < w.heap.size) Wp ka kn kc K
  mc : NmAt Wp cm (cNs CL) ∧ Old10 Wp X lv0 cm
  mv : NmAt Wp vm (vNs V) ∧ Old10 Wp X lv0 vm
  ms : NmAt Wp km (K.map Prod.fst) ∧ Old10 Wp X lv0 km
  x : w.heap.size ≤ X ∧ X < Wp.heap.size
  g : ∀ b, lv0.ownBlock = some b → w.heap.size ≤ b ∧ b < Wp.heap.size ∧ b ≠ X
  hv : V.length * 80 ≤ 140737488355328
/-- How far the plan has come: what is off the shelf, what is picked. -/
structure PlS (w Wp : World) (X : Nat) (lv0 : Value) (C : List Value) (NL : List Lab) (V : List VolumeD) (M : Nat) (u : World) (lv pv : Value) (off : List ByteArray) (out : List PickD) : Prop where
  kp : Kept (Old10 Wp X lv0) Wp u
  bw : Below w.heap.size w u
  bx : BoxL u X (C ++ [lv, pv])
  lf : Row RVolume 5 (fun b => b < w.heap.size) w u 59 lv (leftP NL V off)
  lo : lv.ownBlock = lv0.ownBlock
  pk : Row RLabel 2 (fun _ => False) w u 68 pv out
  po : ∀ b, pv.ownBlock = some b → Wp.heap.size ≤ b
  ln : out.length + (leftP NL V off).length ≤ M
  cl : C.length = 7
  gx : ∀ b, lv0.ownBlock = some b → w.heap.size ≤ b ∧ b < Wp.heap.size ∧ b ≠ X
  xx : w.heap.size ≤ X ∧ X < Wp.heap.size
section
variable {α : Type} [Inhabited α] {R : Rep α} {k : Nat}
theorem Row.keptX (hR : Firm R k) {A : Where} {w0 u u' : World} {e : TypeId} {v : Value} {L : List α} (h : Row R k A w0 u e v L) (hb : Below w0.heap.size w0 u') (hk : Kept (fun b => A b ∨ v.ownBlock = some b) u u') : Row R k A w0 u' e v L := by
  obtain ⟨xs, h1, h2⟩ := h
  refine ⟨xs, ⟨hb, ?_⟩, h2.kept hR (hk.weak (fun b hb => .inl hb.1))⟩
  obtain ⟨hl, h0 | ⟨g, cap, cur, rfl, hg, hh, r⟩⟩ := h1.2
  · exact ⟨hl, .inl h0⟩
  · exact ⟨hl, .inr ⟨g, cap, cur, rfl, hg, (hk.2 g (.inr rfl) (Array.getElem?_eq_some_iff.1 hh).1).trans hh, r⟩⟩
/-- Where a row that holds something lies. -/
theorem Row.place {A : Where} {w0 u : World} {e : TypeId} {v : Value} {L : List α} (h : Row R k A w0 u e v L) (h0 : 0 < L.length) : ∃ g cap, v = .slice (some ⟨g, 0, none⟩) L.length cap := by
  obtain ⟨xs, h1, _⟩ := h
  obtain ⟨_, ⟨_, h2⟩ | ⟨g, cap, cur, rfl, _⟩⟩ := h1.2
  · omega
  · exact ⟨g, cap, rfl⟩
theorem Row.head {A : Where} {w0 u : World} {e : TypeId} {v : Value} {L : List α} (h : Row R k A w0 u e v L) : ∃ a n c, v = .slice a n c := by
  obtain ⟨xs, h1, _⟩ := h
  obtain ⟨_, ⟨rfl, _⟩ | ⟨g, cap, cur, rfl, _⟩⟩ := h1.2
  · exact ⟨_, _, _, rfl⟩
  · exact ⟨_, _, _, rfl⟩
end
section
variable {w Wp : World} {X : Nat} {lv0 : Value} {la : Option Addr} {ln lc : Nat} {ca : Option Addr} {cn cc cm : Nat} {va : Option Addr} {vn vc vm : Nat} {ka : Option Addr} {kn kc km : Nat} {NL : List Lab} {CL : List ClaimD} {V : List VolumeD} {K : List ClassD}
/-- In a later world. -/
theorem PlC.at (h : PlC w Wp X lv0 la ln lc ca cn cc cm va vn vc vm ka kn kc km NL CL V K) {u : World} (hk : Kept (Old10 Wp X lv0) Wp u) :
    SlAt RLabel 2 32 (fun b => b < w.heap.size) u la ln lc NL ∧ SlAt RClaim 4 56 (fun b => b < w.heap.size) u ca cn cc CL ∧ SlAt RVolume 5 72 (fun b => b < w.heap.size) u va vn vc V ∧ SlAt RClass 2 24 (fun b => b < w.heap.size) u ka kn kc K ∧ NmAt u cm (cNs CL) ∧ NmAt u vm (vNs V) ∧ NmAt u km (K.map Prod.fst) := by
  have hk' : Kept (fun b => b < w.heap.size) Wp u := hk.weak (fun b hb => ⟨Nat.lt_of_lt_of_le hb h.bw.size, by have := h.x.1; omega, fun e => by have := (h.g b e).1; omega⟩)
  exact ⟨h.l.kept RLabel.firm hk', h.c.kept RClaim.firm hk', h.v.kept RVolume.firm hk', h.k.kept RClass.firm hk', h.mc.1.kept hk h.mc.2, h.mv.1.kept hk h.mv.2, h.ms.1.kept hk h.ms.2⟩
variable {C : List Value} {u : World} {lv pv : Value} {out : List PickD}
theorem PlS.on {M : Nat} {off : List ByteArray} (h : PlS w Wp X lv0 C NL V M u lv pv off out) {u' : World} (hb : Below u.heap.size u u') : PlS w Wp X lv0 C NL V M u' lv pv off out :=
  ⟨h.kp.trans (Kept.below hb), on2 h.bw hb, h.bx.on hb, h.lf.on RVolume.firm hb, h.lo, h.pk.on RLabel.firm hb, h.po, h.ln, h.cl, h.gx, h.xx⟩
/-- A pick more. -/
theorem PlS.app {M : Nat} {off : List ByteArray} (h : PlS w Wp X lv0 C NL V M u lv pv off out) {u' : World} {pv' : Value} {p : PickD} (hg : u.grownBy u' pv.ownBlock) (hr : Row RLabel 2 (fun _ => False) w u' 68 pv' (out ++ [p])) (hw : pv'.ownBlock = pv.ownBlock ∨ pv'.ownBlock = some u.heap.size) :
    PlS w Wp X lv0 C NL V (M + 1) (u'.setCell ⟨X, 8, none⟩ pv') lv pv' off (out ++ [p]) := by
  have hx := h.xx
  have hWu : Wp.heap.size ≤ u.heap.size := h.kp.1
  have hpo : ∀ b, pv'.ownBlock = some b → Wp.heap.size ≤ b := fun b hb => by
    rcases hw with hw | hw
    · exact h.po b (hw ▸ hb)
    · rw [hw] at hb; injection hb with hb; omega
  have bu' : Below w.heap.size w u' := h.bw.grown hg h.bw.size (fun b e => by have := h.po b e; omega)
  refine ⟨(h.kp.trans (Kept.grown hg (fun b e hb => by have := h.po b e; have := hb.1; omega))).trans (Kept.set (p := ⟨X, 8, none⟩) (fun hb => hb.2.1 rfl) _), bu'.setCell (p := ⟨X, 8, none⟩) hx.1 _, ?_, ?_, h.lo, ?_, hpo, by have := h.ln; rw [List.length_append, List.length_singleton]; omega, h.cl, h.gx, h.xx⟩
  · have h1 : BoxL u' X (C ++ [lv, pv]) := h.bx.kept (A := fun b => b = X) (Kept.grown hg (fun b e hb => by have := h.po b e; omega)) rfl
    have h2 := h1.set 8 pv' (by rw [List.length_append, h.cl]; simp)
    rwa [show (C ++ [lv, pv]).set 8 pv' = C ++ [lv, pv'] by rw [List.set_append_right _ _ (by rw [h.cl]; decide), h.cl]; rfl] at h2
  · have h1 : Row RVolume 5 (fun b => b < w.heap.size) w u' 59 lv (leftP NL V off) := h.lf.grown RVolume.firm hg (fun b e => ⟨by have := h.po b e; omega, fun e2 => by rw [h.lo] at e2; have := (h.gx b e2).2.1; have := h.po b e; omega, fun hb => by have := h.po b e; omega⟩)
    refine h1.keptX RVolume.firm (bu'.setCell (p := ⟨X, 8, none⟩) hx.1 _) (Kept.set (p := ⟨X, 8, none⟩) (fun hb => ?_) _)
    rcases hb with hb | hb
    · have : X < w.heap.size := hb; omega
    · rw [h.lo] at hb; exact (h.gx X hb).2.2 rfl
  · refine hr.keptX RLabel.firm (bu'.setCell (p := ⟨X, 8, none⟩) hx.1 _) (Kept.set (p := ⟨X, 8, none⟩) (fun hb => ?_) _)
    rcases hb with hb | hb
    · exact hb
    · have := hpo X hb; omega
/-- A volume off the shelf. -/
theorem PlS.cut {M : Nat} {off off' : List ByteArray} {g n cap n' : Nat} (h : PlS w Wp X lv0 C NL V (M + 1) u (.slice (some ⟨g, 0, none⟩) n cap) pv off out) {u' : World} (hk : Kept (fun b => b ≠ g) u u') (hr : Row RVolume 5 (fun b => b < w.heap.size) w u' 59 (.slice (some ⟨g, 0, none⟩) n' cap) (leftP NL V off')) (hl : (leftP NL V off').length + 1 = (leftP NL V off).length) :
    PlS w Wp X lv0 C NL V M (u'.setCell ⟨X, 7, none⟩ (.slice (some ⟨g, 0, none⟩) n' cap)) (.slice (some ⟨g, 0, none⟩) n' cap) pv off' out := by
  have hx := h.xx
  have hg0 : lv0.ownBlock = some g := h.lo.symm
  obtain ⟨g1, g2, g3⟩ := h.gx g hg0
  have bu' : Below w.heap.size w u' := hr.below
  refine ⟨(h.kp.trans (hk.weak (fun b hb e => hb.2.2 (by rw [e]; exact hg0)))).trans (Kept.set (p := ⟨X, 7, none⟩) (fun hb => hb.2.1 rfl) _), bu'.setCell (p := ⟨X, 7, none⟩) hx.1 _, ?_, ?_, hg0.symm, ?_, h.po, by have := h.ln; omega, h.cl, h.gx, h.xx⟩
  · have h1 : BoxL u' X (C ++ [.slice (some ⟨g, 0, none⟩) n cap, pv]) := h.bx.kept hk (fun e => g3 e.symm)
    have h2 := h1.set 7 (.slice (some ⟨g, 0, none⟩) n' cap) (by rw [List.length_append, h.cl]; simp)
    rwa [show (C ++ [.slice (some ⟨g, 0, none⟩) n cap, pv]).set 7 (.slice (some ⟨g, 0, none⟩) n' cap) = C ++ [.slice (some ⟨g, 0, none⟩) n' cap, pv] by rw [List.set_append_right _ _ (by rw [h.cl]; decide), h.cl]; rfl] at h2
  · refine hr.keptX RVolume.firm (bu'.setCell (p := ⟨X, 7, none⟩) hx.1 _) (Kept.set (p := ⟨X, 7, none⟩) (fun hb => ?_) _)
    rcases hb with hb | hb
    · have : X < w.heap.size := hb; omega
    · have : g = X := by simpa [Value.ownBlock] using hb
      exact g3 this
  · have h1 : Row RLabel 2 (fun _ => False) w u' 68 pv out := h.pk.keptX RLabel.firm bu' (hk.weak (fun b hb e => by
      rcases hb with hb | hb
      · exact hb
      · have := h.po b hb; omega))
    refine h1.keptX RLabel.firm (bu'.setCell (p := ⟨X, 7, none⟩) hx.1 _) (Kept.set (p := ⟨X, 7, none⟩) (fun hb => ?_) _)
    rcases hb with hb | hb
    · exact hb
    · have := h.po X hb; omega
end
end Go.Proofs.Ytgofpmcoffgffaa
