/- slices.Grow and slices.Concat at texts; eachOnce: all lists' names, in order, each where it stands first. Condition: the lists lie as is said of them; a bound that inputs of Go's own size keep. What the law VolumeMeets looks for: a claim and its volume stand at one place; a list whose sorted list is as long holds each once. Plain mathematics. No condition. -/
import Derived.Test.YtmnldngojgldiaaGreatQ26
import Derived.Lib.AppendZeros
import Derived.Test.YtmnldngojgldiaaGreatQ07
import Derived.Test.YtmnldngojgldiaaGreatQ08
namespace Go.Proofs.YtmnldngojgldiaaGreat
open Go.RowKit Go.Maps
set_option linter.unusedSimpArgs false
set_option maxRecDepth 100000

theorem wrap64_10 {n : Int} (h0 : 0 ≤ n) (h1 : n < 9223372036854775808) : wrap64 n = n := by unfold wrap64; omega
/-- What Grow hands back: nothing, with room. -/
def GrowOut (w : World) (n : Nat) (e : Ending) (w' : World) : Prop := ∃ v, e = .returned v ∧ Row RStr 1 (fun _ => False) w w' 9 v [] ∧ Roomy v 0 n
set_option maxHeartbeats 4000000 in
theorem grow_calls (n : Nat) (w : World) (hn : n * 16 ≤ 281474976710656) : Calls Tryz.prog 68 #[.slice none 0 0, .int .i64 (n : Int)] w (GrowOut w n) := by
  have h0 : ¬ ((n : Int) < 0) := by omega
  have hw : wrap64 (n : Int) = n := by unfold wrap64; omega
  cases hz : n with
  | zero =>
    go_enter Tryz.func68, Tryz.ntmps68
    go_wp2_with fail
    go_ret
    exact ⟨_, rfl, Row.nil _ _ _, .inl ⟨rfl, rfl⟩⟩
  | succ m =>
    rw [← hz]
    have hp : (0 : Int) < (n : Int) := by omega
    obtain ⟨i0, hi, hz0, hz1, hz2⟩ := info_parts infoS10
    have hap := fun ty => Lib.run_append_nil_zeros (P := Tryz.prog) w 41 3 ty 9 i0 _ .i64 .i64 Tryz.underlying41 Tryz.underlying3 hi hz0 n (by omega) (by rw [hz1]; decide) (by omega) (by rw [hz2]; exact hn)
    have hge := grownCap_ge w n 0 9
    have hle := grownCap_le_maxLen w n 0 9 (by unfold maxLen; omega)
    obtain ⟨gc, hgc⟩ : ∃ g, g = grownCap w n 0 9 := ⟨_, rfl⟩
    rw [← hgc] at hge hle hap
    obtain ⟨W, hW⟩ : ∃ W, W = w.drew.alloc (.cells (Builtin.zeroCells (Value.string ⟨#[]⟩).cells n ++ Builtin.zeroCells (Value.string ⟨#[]⟩).cells (gc - n)) 9) := ⟨_, rfl⟩
    have hr : Row RStr 1 (fun _ => False) w W 9 (.slice (some ⟨w.heap.size, 0, none⟩) 0 gc) [] := by
      have hown := World.ownsRow_made (base := w.heap.size) (e := 9) (size := 1) w.drew (Builtin.zeroCells (Value.string ⟨#[]⟩).cells n ++ Builtin.zeroCells (Value.string ⟨#[]⟩).cells (gc - n)) gc (by simp) hle (by rw [Array.size_append, size_zeroCells, size_zeroCells]; simp [Value.cells]; omega)
      refine ⟨[], ⟨by rw [hW]; exact ((Below.refl _ _).drew).alloc (by simp) _, by rw [hW]; simpa using hown⟩, Chunks.nil _ _⟩
    have HF : Hid (Row RStr 1 (fun _ => False) w W 9 (.slice (some ⟨w.heap.size, 0, none⟩) 0 gc) [] ∧ Roomy (.slice (some ⟨w.heap.size, 0, none⟩) 0 gc) 0 n) := ⟨hr, .inr ⟨w.heap.size, gc, rfl, hge⟩⟩
    rw [← hW] at hap
    clear hr hgc hi hz0 hz1 hz2 hz hW
    have hn0 : ¬ ((n : Int) = 0) := by omega
    go_enter Tryz.func68, Tryz.ntmps68
    go_wp2_with (at_builtin; refine Lib.wpList_append_run _ rfl _ _ _ _ rfl _ _ rfl rfl _ _ (hap _) ?_)
    go_ret
    exact ⟨_, rfl, HF.out⟩
abbrev RSs : Rep (List ByteArray) := RSl RStr 1 16
theorem RSs.firm : Firm RSs 1 := RSl.firm RStr.firm
/-- What Concat hands back. -/
def CatOut (w : World) (L : List ByteArray) (e : Ending) (w' : World) : Prop := ∃ v, e = .returned v ∧ Row RStr 1 (fun _ => False) w w' 9 v L
theorem flat_take10 {LL : List (List ByteArray)} {k : Nat} (h : k < LL.length) : (LL.take (k + 1)).flatten = (LL.take k).flatten ++ LL.getD k default := by
  rw [List.take_succ_eq_append_getElem h, List.flatten_append, List.getD_eq_getElem?_getD, List.getElem?_eq_getElem h]
  simp
theorem flat_le10 (LL : List (List ByteArray)) (k : Nat) : (LL.take k).flatten.length ≤ LL.flatten.length := by
  have := congrArg List.length (congrArg List.flatten (List.take_append_drop k LL))
  rw [List.flatten_append, List.length_append] at this
  omega
set_option maxHeartbeats 16000000 in
theorem concat_calls (a : Option Addr) (m cap : Nat) (A : Where) (LL : List (List ByteArray)) (w : World) (hL : Hid (SlAt RSs 1 24 A w a m cap LL)) (hb : LL.flatten.length * 16 ≤ 281474976710656) :
    Calls Tryz.prog 52 #[.slice a m cap] w (CatOut w LL.flatten) := by
  have hml : Hid (LL.length = m) := hL.out.1
  have hlen := hL.out.len (by decide)
  have HG := grow_calls LL.flatten.length w hb
  have HU : Hid (∀ u, Below w.heap.size w u → SlAt RSs 1 24 A u a m cap LL) := fun u hb => hL.out.on RSs.firm hb
  have HT : Hid (∀ k, k < m → (LL.take (k + 1)).flatten = (LL.take k).flatten ++ LL.getD k default ∧ (LL.take (k + 1)).flatten.length ≤ LL.flatten.length) := fun k hk => ⟨flat_take10 (by rw [hml.out]; exact hk), flat_le10 LL (k + 1)⟩
  have HTm : Hid (LL.take m = LL) := List.take_of_length_le (by rw [hml.out]; omega)
  obtain ⟨T, hT⟩ : ∃ T, T = LL.flatten.length := ⟨_, rfl⟩
  rw [← hT] at hb HG HT
  clear hL
  go_enter Tryz.func52, Tryz.ntmps52
  go_wp2_with fail
  go_loopw [3, 11] (fun z i wr => ∃ k c : Nat, k ≤ m ∧ i = .int .i64 k ∧ z = .int .i64 c ∧ Hid (c = (LL.take k).flatten.length) ∧ wr = w) (fun _ i _ => m - (intOf i).toNat)
  case atStart => exact ⟨0, 0, Nat.zero_le _, rfl, rfl, (rfl : (0 : Nat) = (LL.take 0).flatten.length), rfl⟩
  case round =>
    obtain ⟨k, c, hk, rfl, rfl, hrun, hwr⟩ := hrel
    have hc := hrun.out
    subst hwr
    clear hrun
    by_cases hlt : k < m
    · have hltz : (k : Int) < (m : Int) := by omega
      obtain ⟨t1, t2⟩ := HT.out k hlt
      obtain ⟨B, off, rfl, hB, hAB, xs, hr, hv⟩ := (HU.out wr (Below.refl _ _)).get hlt
      obtain ⟨b1, b2, b3, rfl, hsl⟩ := hr
      have d0 := hv 0 _ rfl
      rw [Nat.mul_one, Nat.add_zero] at d0
      have hl2 := hsl.1
      rw [t1, List.length_append, hl2, ← hc] at t2
      have hcn : ¬ ((c : Int) + (b2 : Int) < 0) := by omega
      have hwp : wrap64 ((c : Int) + (b2 : Int)) = (c : Int) + (b2 : Int) := wrap64_10 (by omega) (by omega)
      have HN : Hid (c + b2 = (LL.take (k + 1)).flatten.length) := by rw [Hid, t1, List.length_append, hl2, ← hc]
      clear hsl hv hl2 t1 t2 hc hB hAB
      go_wp2_with fail
      go_roundw
      case rel => exact ⟨k + 1, c + b2, by omega, by go_num, by simp [hwp], HN, by simp⟩
      case measure => simp [intOf]; omega
    · have hkm : k = m := by omega
      rw [hkm, HTm.out, ← hT] at hc
      subst hc
      clear hT hkm
      have hltz : ¬ ((k : Int) < (m : Int)) := by omega
      go_wp2_with fail
      refine HG.mono ?_
      rintro e w3 ⟨v, rfl, hr3, ho3⟩
      have HI : Hid (Row RStr 1 (fun _ => False) wr w3 9 v (LL.take 0).flatten ∧ Roomy v (LL.take 0).flatten.length c) := ⟨hr3, ho3⟩
      clear hr3 ho3 HG hlt hltz
      obtain ⟨w4, rfl⟩ : ∃ u, u = wr := ⟨_, rfl⟩
      go_wp2_with fail
      go_loopw [6, 27] (fun o i wr => ∃ k : Nat, k ≤ m ∧ i = .int .i64 k ∧ Hid (Row RStr 1 (fun _ => False) w4 wr 9 o (LL.take k).flatten ∧ Roomy o (LL.take k).flatten.length c)) (fun _ i _ => m - (intOf i).toNat)
      case atStart => exact ⟨0, Nat.zero_le _, rfl, HI⟩
      case round =>
        obtain ⟨k, hk, rfl, hrun⟩ := hrel
        obtain ⟨hrw, hro⟩ := hrun.out
        clear hrun HI
        by_cases hlt : k < m
        · have hltz : (k : Int) < (m : Int) := by omega
          obtain ⟨t1, t2⟩ := HT.out k hlt
          obtain ⟨B, off, rfl, hB, hAB, xs, hr, hv⟩ := (HU.out _ hrw.below).get hlt
          obtain ⟨b1, b2, b3, rfl, hsl⟩ := hr
          have d0 := hv 0 _ rfl
          rw [Nat.mul_one, Nat.add_zero] at d0
          rw [t1, List.length_append] at t2
          have HRw : Hid (Row RStr 1 (fun _ => False) w4 wr 9 u6 (LL.take k).flatten) := hrw
          have HRo : Hid (Roomy u6 (LL.take k).flatten.length c) := hro
          have HT1 : Hid ((LL.take k).flatten ++ LL.getD k default = (LL.take (k + 1)).flatten) := t1.symm
          have HSr : Hid (Src RStr 1 (fun b => False ∧ u6.ownBlock ≠ some b) wr b1 b2 (LL.getD k default)) := (hsl.src RStr.firm).flat RStr.flat
          have HOb : Hid ((LL.take k).flatten.length + (LL.getD k default).length ≤ c) := t2
          clear hrw hro t1 t2 hsl hv hB hAB
          generalize LL.getD k default = M at HT1 HSr HOb
          generalize (LL.take k).flatten = N at HRw HRo HT1 HOb
          go_wp2_with (at_builtin; go_must (refine row_appendC RStr.firm (A := fun _ => False) (w0 := w4) rfl _ _ 41 9 rfl _ 16 infoS10 Tryz.underlying41 u6 N c rfl HRw.out HRo.out b1 b2 b3 M rfl HSr.out HOb.out ?_); intro v7 u7 hr7 hg7 hw7 ho7)
          have HN : Hid (Row RStr 1 (fun _ => False) w4 u7 9 v7 (LL.take (k + 1)).flatten ∧ Roomy v7 (LL.take (k + 1)).flatten.length c) := by rw [Hid, ← HT1.out]; exact ⟨hr7, ho7⟩
          clear hr7 hg7 hw7 ho7 HRw HRo HSr HOb HT1 d0
          go_roundw
          case rel => exact ⟨k + 1, by omega, by go_num, HN⟩
          case measure => simp [intOf]; omega
        · have hkm : k = m := by omega
          rw [hkm, HTm.out] at hrw
          have HF : Hid (Row RStr 1 (fun _ => False) w4 wr 9 u6 LL.flatten) := hrw
          clear hrw hro hkm
          go_wp2_with fail
          go_ret
          exact ⟨_, rfl, HF.out⟩
set_option maxHeartbeats 4000000 in
/-- eachOnce. -/
theorem each_calls (a : Option Addr) (m cap : Nat) (A : Where) (LL : List (List ByteArray)) (w : World) (hL : Hid (SlAt RSs 1 24 A w a m cap LL)) (hb : LL.flatten.length * 8 ≤ 140737488351232) :
    Calls Tryz.prog 35 #[.slice a m cap] w (AllOut RStr 1 (fun _ => True) 9 w (allL id LL.flatten)) := by
  have HC := concat_calls a m cap A LL w hL (by omega)
  have Hb : Hid (LL.flatten.length * 8 ≤ 140737488351232) := hb
  clear hL hb
  generalize LL.flatten = L at HC Hb
  go_enter Tryz.func35, Tryz.ntmps35
  go_wp2_with fail
  refine HC.mono ?_
  rintro e w1 ⟨v, rfl, hr⟩
  clear HC
  obtain ⟨b1, b2, b3, rfl, sl⟩ := hr.sl10 (bytes := 8) RStr.firm Hb.out
  have HB1 : Hid (Below w.heap.size w w1) := hr.below
  have HT := tabS_calls b1 b2 b3 _ L w1 sl
  have HS : Hid (∀ u, Below w1.heap.size w1 u → SlAt RStr 1 8 (fun _ => True) u b1 b2 b3 L) := fun u hb => sl.on RStr.firm hb
  clear hr sl
  go_wp2_with fail
  refine HT.mono ?_
  rintro e w2 ⟨mb, rfl, hn, _, hb2⟩
  clear HT
  have HA := allS_calls b1 b2 b3 _ L mb w2 (HS.out w2 hb2) hn
  have HB2 : Hid (Below w.heap.size w w2) := on2 HB1.out hb2
  clear hn hb2 HS HB1
  go_wp2_with fail
  refine HA.mono ?_
  rintro e w3 ⟨v, rfl, hr⟩
  have HF : Hid (Row RStr 1 (fun _ => True) w w3 9 v (allL id L)) := hr.from RStr.firm HB2.out (fun _ _ => trivial)
  clear HA hr HB2
  go_wp2_with fail
  go_ret
  exact ⟨_, rfl, HF.out⟩
end Go.Proofs.YtmnldngojgldiaaGreat
namespace Go.Proofs.YtmnldngojgldiaaGreat
open Go.RowKit
set_option linter.unusedSimpArgs false

theorem ins_in10 (s : ByteArray) : ∀ K : List ByteArray, Srt9 K → s ∈ K → (insB sLt sEq K s).length = K.length
  | [], _, h => by cases h
  | x :: xs, hs, h => by
    obtain ⟨h1, h2⟩ := List.pairwise_cons.1 hs
    unfold insB
    by_cases c1 : sLt x s = true
    · rw [if_pos c1]
      rcases List.mem_cons.1 h with e | e
      · subst e; exact absurd c1 (sLt_irr _)
      · simp only [List.length_cons]; rw [ins_in10 s xs h2 e]
    · rw [if_neg c1]
      rcases List.mem_cons.1 h with e | e
      · subst e; rw [if_pos (sEq_self _)]
      · exact absurd (h1 s e) c1
theorem fold_len10 : ∀ (L M : List ByteArray), (L.foldl (insB sLt sEq) M).length ≤ M.length + L.length
  | [], M => Nat.le_refl _
  | x :: xs, M => by
    have h1 := fold_len10 xs (insB sLt sEq M x)
    have h2 := insB_len sLt sEq x M
    simp only [List.foldl_cons, List.length_cons]
    omega
theorem fold_once10 : ∀ (L M : List ByteArray), Srt9 M → (L.foldl (insB sLt sEq) M).length = M.length + L.length → L.Nodup ∧ ∀ x ∈ L, x ∉ M
  | [], _, _, _ => ⟨List.nodup_nil, fun _ h => by cases h⟩
  | x :: xs, M, hM, h => by
    simp only [List.foldl_cons, List.length_cons] at h
    have h1 := fold_len10 xs (insB sLt sEq M x)
    have h2 := insB_len sLt sEq x M
    have hx : x ∉ M := fun hx => by have := ins_in10 x M hM hx; omega
    obtain ⟨h3, h4⟩ := fold_once10 xs (insB sLt sEq M x) (srt_insB x M hM) (by omega)
    have h5 : ∀ y ∈ xs, y ∉ M ∧ y ≠ x := fun y hy => ⟨fun e => h4 y hy ((mem_insB9 x y M).2 (.inl e)), fun e => h4 y hy ((mem_insB9 x y M).2 (.inr e))⟩
    refine ⟨List.nodup_cons.2 ⟨fun e => (h5 x e).2 rfl, h3⟩, fun y hy => ?_⟩
    rcases List.mem_cons.1 hy with e | e
    · subst e; exact hx
    · exact (h5 y e).1
theorem sorted_once10 {L : List ByteArray} (h : (sortB sLt sEq L).length = L.length) : L.Nodup := (fold_once10 L [] List.Pairwise.nil (by rw [List.length_nil, Nat.zero_add]; exact h)).1
/-- Where the claim stands and its volume. -/
theorem hit_iff10 {t : VC} {nm : ByteArray} {c v n m : Nat} (ho : OnceP t) (hc : fI (cNs t.2) nm = some c) (hv : fI (vNs t.1) (cVo (t.2.getD c default)) = some v) (hn : n < t.2.length) (hm : m < t.1.length) :
    ((t.2.getD n default).1 = nm ∧ (t.1.getD m default).1 = cVo (t.2.getD n default)) ↔ (n = c ∧ m = v) := by
  have gn : ∀ i, i < t.2.length → (cNs t.2).getD i default = (t.2.getD i default).1 := fun i hi => by
    rw [List.getD_eq_getElem?_getD, List.getD_eq_getElem?_getD, List.getElem?_map, List.getElem?_eq_getElem hi]; rfl
  have gm : ∀ i, i < t.1.length → (vNs t.1).getD i default = (t.1.getD i default).1 := fun i hi => by
    rw [List.getD_eq_getElem?_getD, List.getD_eq_getElem?_getD, List.getElem?_map, List.getElem?_eq_getElem hi]; rfl
  obtain ⟨c1, c2, _⟩ := fI_some hc
  obtain ⟨v1, v2, _⟩ := fI_some hv
  rw [List.length_map] at c1 v1
  rw [gn c c1] at c2
  rw [gm v v1] at v2
  constructor
  · rintro ⟨h1, h2⟩
    have e1 := fI_once ho.1 (i := n) (by rw [List.length_map]; exact hn)
    rw [gn n hn, h1, hc] at e1
    obtain rfl : c = n := by simpa using e1
    have e2 := fI_once ho.2.2.1 (i := m) (by rw [List.length_map]; exact hm)
    rw [gm m hm, h2, hv] at e2
    exact ⟨rfl, by simpa using e2.symm⟩
  · rintro ⟨rfl, rfl⟩
    exact ⟨c2, v2⟩
end Go.Proofs.YtmnldngojgldiaaGreat
