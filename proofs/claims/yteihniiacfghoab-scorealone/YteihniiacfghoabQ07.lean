/- Numbers made normal, by the program. Condition: the list lies as is said of it. Even, by the document. Condition: what is handed in lies as is said of it. Slices of taints and of what is borne, told in the words of layer 3. Plain facts on worlds. No condition. label.isDigit, inWord, Word, isValue, isNumber and the document's own Word, Whole return what the plain functions say, and change nothing. Condition: the text is no longer than a Go string can be. label.isValue, isNumber and the document's own Word, Whole return what the plain functions say, and change nothing. Condition: the text is no longer than a Go string can be. The document's own Whole at 15 digits returns what the plain functions say, and changes nothing. No condition. How texts, labels and what is asked lie in memory. Plain facts on worlds. No condition. label.allValues, oneNumber, rightValues, and the document's Has, SameTexts, over slices of texts. Condition: the slice holds what is said of it. label.Get and the document's own Get return the first label of a key; label.Same and the document's own. They change nothing that was there. Condition: the slice holds what is said of it. -/
import Derived.Test.YteihniiacfghoabQ06
import Derived.OwnWalk
import Derived.Test.YteihniiacfghoabQ03
import Derived.Test.YteihniiacfghoabQ02
import Derived.Test.YteihniiacfghoabQ01
namespace Go.Proofs.Yteihniiacfghoab
open Go.RowKit Go.Maps
set_option linter.unusedSimpArgs false
set_option maxRecDepth 100000

/-- A row of so many zeros, just made. -/
theorem row_made {w0 w w' : World} {e : TypeId} {n : Nat} {g : Nat} (h : w'.ownsRow w0.heap.size e 1 (.slice (some ⟨g, 0, none⟩) n n) n (madeCells (Value.int .i64 0).cells (n * 1)).toList) (hb0 : Below w0.heap.size w0 w) (hg : w.grownBy w' none) : Row RInt 1 (fun _ => False) w0 w' e (.slice (some ⟨g, 0, none⟩) n n) (List.replicate n (0 : Int)) := by
  have e1 : (madeCells (Value.int .i64 0).cells (n * 1)).toList = List.replicate n (Value.int .i64 0) := by rw [Nat.mul_one]; exact toList_madeCells_one _ _
  rw [e1] at h
  refine ⟨List.replicate n (Value.int .i64 0), ⟨hb0.grown hg hb0.size (fun b hb => by cases hb), by rw [List.length_replicate]; exact h⟩, by simp, fun i hi => ?_⟩
  rw [List.length_replicate] at hi
  refine ⟨[.int .i64 0], ?_, fun j hj => ?_⟩
  · show [Value.int .i64 0] = [.int .i64 ((List.replicate n (0 : Int)).getD i default)]
    rw [List.getD_eq_getElem?_getD, List.getElem?_replicate, if_pos hi]; rfl
  · obtain rfl : j = 0 := by omega
    rw [Nat.mul_one, Nat.add_zero, List.getElem?_replicate, if_pos hi]; rfl
theorem rowI_set {w0 u : World} {e : TypeId} {g n cap k : Nat} {L : List Int} (x : Int) (h : Row RInt 1 (fun _ => False) w0 u e (.slice (some ⟨g, 0, none⟩) n cap) L) (hn : L.length = n) (hk : k < n) : Row RInt 1 (fun _ => False) w0 (u.setCell ⟨g, k, none⟩ (.int .i64 x)) e (.slice (some ⟨g, 0, none⟩) n cap) (L.set k x) := by
  subst hn
  have r := h.setG RInt.firm (i := k) (j := 0) (val := .int .i64 x) (x := x) hk (by decide) (fun B cs hr => by obtain rfl : cs = _ := hr; rfl)
  rwa [Nat.mul_one, Nat.add_zero] at r
theorem rowI_get {w0 u : World} {e : TypeId} {g n cap k : Nat} {L : List Int} (h : Row RInt 1 (fun _ => False) w0 u e (.slice (some ⟨g, 0, none⟩) n cap) L) (hn : L.length = n) (hk : k < n) : u.cell? ⟨g, k, none⟩ = some (.int .i64 (L.getD k default)) ∧ u.frozen? ⟨g, k, none⟩ = false := by
  subst hn
  obtain ⟨g', c', cs, e1, _, hr, hc⟩ := h.getG RInt.firm hk
  simp only [Value.slice.injEq, Option.some.injEq, Addr.mk.injEq, and_true, true_and] at e1
  obtain ⟨rfl, _⟩ := e1
  obtain rfl : cs = _ := hr
  refine ⟨?_, h.meltsG⟩
  have := hc 0 _ rfl
  rwa [Nat.mul_one, Nat.add_zero] at this
/-- The first k turned by f, the others by g. -/
def turnL {α : Type} [Inhabited α] (f g : α → Int) (l : List α) (k : Nat) : List Int := (l.take k).map f ++ (l.drop k).map g
section
variable {α : Type} [Inhabited α] (f g : α → Int) (l : List α)
theorem turn_len (k : Nat) : (turnL f g l k).length = l.length := by unfold turnL; rw [List.length_append, List.length_map, List.length_map, List.length_take, List.length_drop]; omega
theorem turn_zero : turnL f g l 0 = l.map g := by unfold turnL; simp
theorem turn_all : turnL f g l l.length = l.map f := by unfold turnL; simp
theorem turn_get {k : Nat} (hk : k < l.length) : (turnL f g l k).getD k default = g (l.getD k default) := by
  have h1 : ((l.take k).map f).length = k := by rw [List.length_map, List.length_take]; omega
  unfold turnL
  rw [List.getD_eq_getElem?_getD, List.getElem?_append_right (by omega), h1, Nat.sub_self, List.getElem?_map, List.getElem?_drop, Nat.add_zero, List.getElem?_eq_getElem hk, List.getD_eq_getElem?_getD, List.getElem?_eq_getElem hk]
  rfl
theorem turn_set {k : Nat} (hk : k < l.length) : (turnL f g l k).set k (f (l.getD k default)) = turnL f g l (k + 1) := by
  have h1 : ((l.take k).map f).length = k := by rw [List.length_map, List.length_take]; omega
  unfold turnL
  rw [List.set_append_right _ _ (by omega), h1, Nat.sub_self, List.drop_eq_getElem_cons hk, List.map_cons, List.set_cons_zero, ← take_atG hk, List.map_append, List.append_assoc]
  rfl
end
theorem share_norm {M x : Int} (hM : M ≤ 1099511627776) (h0 : 0 ≤ M) (hx : c40 x ≤ M) : shareI (c40 x) M 100 = if 0 < M then c40 x * 100 / M else 0 := by
  have hc : 0 ≤ c40 x := clipZ_ge (by decide) x
  have e : scaleI 100 = 100 := rfl
  unfold shareI
  rw [e, clampI_id hc (by omega), clampI_id h0 (by omega)]
  by_cases h : M = 0
  · rw [if_pos h, if_neg (by omega)]
  · have hp : 0 < M := by omega
    rw [if_neg h, if_pos hp, if_neg]
    have : c40 x * 100 / M ≤ M * 100 / M := Int.ediv_le_ediv hp (by omega)
    rw [Int.mul_comm M 100, Int.mul_ediv_cancel _ (by omega)] at this
    omega
theorem infoIntE : ∃ i, Try.prog.info? 3 = some i ∧ i.zero = some (.int .i64 0) ∧ i.size = 1 ∧ i.bytes = 8 := by
  have h := infoIntS
  cases e : Try.prog.info? 3 with
  | none => rw [e] at h; cases h
  | some i => rw [e] at h; simp only [Option.map_some, Option.some.injEq, Prod.mk.injEq] at h; exact ⟨i, rfl, h.1, h.2.1, h.2.2⟩
set_option maxHeartbeats 4000000 in
theorem Normal_calls (a : Option Addr) (n cap : Nat) (A : Where) (l : List Int) (rev : Bool) (w : World) (hL : Hid (SlAt RInt 1 8 A w a n cap l)) : Calls Try.prog 13 #[.slice a n cap, .bool rev] w fun e w' => ∃ v, e = .returned v ∧ Row RInt 1 (fun _ => False) w w' 3 v (normP l rev) := by
  have hn : Hid (l.length = n) := hL.out.1
  have HLn : Hid (n * 8 ≤ 140737488351232) := hL.out.2.2.2.1
  have hml : n < 1000000000000000 := by have := HLn.out; omega
  have hmk : n ≤ maxLen := by unfold maxLen; omega
  have hmb : 8 * n ≤ 281474976710656 := by have := HLn.out; omega
  obtain ⟨ii, hi1, hi2, hi3, hi4⟩ := infoIntE
  go_enter Try.func13, Try.ntmps13
  go_upto_region 1 with fail
  go_wp2_with (first | (refine wpList_make_full w rfl _ _ 28 rfl w.heap.size 3 ii (.int .i64 0) 1 Try.underlying28 hi1 hi2 hi3 .i64 .i64 _ _ n rfl rfl rfl rfl (by rw [hi4]; exact hmb) hmk (Nat.le_refl _) ?_; intro w1 hr1 hg1) | fail)
  have HR0 : Hid (Row RInt 1 (fun _ => False) w w1 3 (.slice (some ⟨w.heap.size, 0, none⟩) n n) (turnL c40 (fun _ => 0) l 0)) := by
    have h := row_made hr1 (Below.refl _ _) hg1
    have e : turnL c40 (fun _ => (0 : Int)) l 0 = List.replicate n 0 := by rw [turn_zero, List.map_const', hn.out]
    rw [Hid, e]; exact h
  obtain ⟨g, hgg⟩ : ∃ g, g = w.heap.size := ⟨_, rfl⟩
  rw [← hgg] at HR0
  rw [← hgg]
  clear hr1 hg1 hgg hi1 hi2 hi3 hi4 hmk hmb
  --M1
  go_wp2_with fail
  --M2
  go_loopw [6, 16] (fun m i wr => ∃ k : Nat, k ≤ n ∧ i = .int .i64 k ∧ m = .int .i64 (topP (l.take k)) ∧ Hid (Row RInt 1 (fun _ => False) w wr 3 (.slice (some ⟨g, 0, none⟩) n n) (turnL c40 (fun _ => 0) l k))) (fun _ i _ => n - (intOf i).toNat)
  case atStart => exact ⟨0, Nat.zero_le _, rfl, rfl, HR0⟩
  case round =>
    clear HR0
    obtain ⟨k, hk, rfl, rfl, hrun⟩ := hrel
    by_cases hlt : k < n
    · have hltz : (k : Int) < (n : Int) := by omega
      obtain ⟨D, off, rfl, hD, _, cs, hra, hva⟩ := (hL.out.on RInt.firm hrun.out.below).get hlt
      obtain rfl : cs = [.int .i64 (l.getD k default)] := hra
      have d0 := hva 0 _ rfl
      rw [Nat.add_zero, Nat.mul_one] at d0
      have hkl : k < l.length := by rw [hn.out]; exact hlt
      obtain ⟨x, hx⟩ : ∃ x, x = l.getD k default := ⟨_, rfl⟩
      obtain ⟨m, hm⟩ : ∃ m, m = topP (l.take k) := ⟨_, rfl⟩
      obtain ⟨c, hc⟩ : ∃ c, c = clipZ 1099511627776 x := ⟨_, rfl⟩
      obtain ⟨t, ht⟩ : ∃ t, t = (if m < c then c else m) := ⟨_, rfl⟩
      have HT : Hid (t = topP (l.take (k + 1))) := by rw [Hid, top_snoc l hkl, ← hm, ← hx, ht, hc]; rfl
      have htl : (turnL c40 (fun _ => (0 : Int)) l k).length = n := by rw [turn_len, hn.out]
      have c0 := rowI_get hrun.out htl hlt
      have hset := rowI_set c hrun.out htl hlt
      have hts : (turnL c40 (fun _ => (0 : Int)) l k).set k c = turnL c40 (fun _ => 0) l (k + 1) := by rw [← turn_set c40 (fun _ => 0) l hkl, hc, hx]
      rw [hts] at hset
      have HS : Hid (Row RInt 1 (fun _ => False) w (wr.setCell ⟨g, k, none⟩ (.int .i64 c)) 3 (.slice (some ⟨g, 0, none⟩) n n) (turnL c40 (fun _ => 0) l (k + 1))) := hset
      have hset2 := rowI_get hset (by rw [turn_len, hn.out]) hlt
      have hg9 : (turnL c40 (fun _ => (0 : Int)) l (k + 1)).getD k default = c := by
        rw [← hts, List.getD_eq_getElem?_getD, List.getElem?_set_self (by rw [htl]; exact hlt)]; rfl
      rw [hg9] at hset2
      obtain ⟨c1, c2⟩ := c0
      obtain ⟨c3, c4⟩ := hset2
      have hmx : (if m < c then c else m) = t := ht.symm
      have HMX : Hid (max m c = t) := by rw [Hid, ht]; split <;> omega
      have hC := between_calls x 1099511627776 (by decide) wr
      rw [← hc] at hC
      rw [← hx] at d0
      rw [← hm]
      clear hx hm hc ht hva hset hg9 hts htl hrun
      --M3
      go_wp2_with fail
      refine hC.mono ?_
      rintro e w' ⟨rfl, hw⟩
      obtain rfl := hw.symm
      clear hC hw
      --M4
      go_wp2_with fail
      --M5
      go_roundw
      case rel => exact ⟨k + 1, by omega, by go_num, by first | rw [HT.out] | rw [HMX.out, HT.out], HS⟩
      case measure => simp [intOf]; omega
    · have hltz : ¬ (k : Int) < (n : Int) := by omega
      have hkn : k = n := by omega
      have HM0 : Hid (l.take k = l) := by rw [Hid, List.take_of_length_le (by rw [hn.out]; omega)]
      rw [HM0.out]
      obtain ⟨M, hM⟩ : ∃ M, M = topP l := ⟨_, rfl⟩
      have HM : Hid (M ≤ 1099511627776 ∧ 0 ≤ M ∧ ∀ x ∈ l, c40 x ≤ M) := ⟨by rw [hM]; exact topP_le l, by rw [hM]; exact topP_ge _, fun x hx => by rw [hM]; exact top_mem l 0 x hx⟩
      have HMn : Hid (l.map (norm1 M rev) = normP l rev) := by rw [Hid, hM]; rfl
      rw [← hM]
      have HR1 : Hid (Row RInt 1 (fun _ => False) w wr 3 (.slice (some ⟨g, 0, none⟩) n n) (turnL (norm1 M rev) c40 l 0)) := by
        have h := hrun.out
        have e1 : turnL c40 (fun _ => (0 : Int)) l k = l.map c40 := by rw [hkn, ← hn.out]; exact turn_all c40 (fun _ => 0) l
        have e2 : turnL (norm1 M rev) c40 l 0 = l.map c40 := turn_zero (norm1 M rev) c40 l
        rw [Hid, e2, ← e1]; exact h
      clear hM HM0 hkn hrun
      go_wp2_with fail
      --M7
      go_loopw [35] (fun i wr => ∃ k : Nat, k ≤ n ∧ i = .int .i64 k ∧ Hid (Row RInt 1 (fun _ => False) w wr 3 (.slice (some ⟨g, 0, none⟩) n n) (turnL (norm1 M rev) c40 l k))) (fun i _ => n - (intOf i).toNat)
      case atStart => exact ⟨0, Nat.zero_le _, rfl, HR1⟩
      case round =>
        clear HR1 hltz hlt hk
        obtain ⟨k, hk, rfl, hrun⟩ := hrel
        by_cases hlt : k < n
        · have hltz : (k : Int) < (n : Int) := by omega
          have hkl : k < l.length := by rw [hn.out]; exact hlt
          have htl : (turnL (norm1 M rev) c40 l k).length = n := by rw [turn_len, hn.out]
          have c0 := rowI_get hrun.out htl hlt
          rw [turn_get _ _ _ hkl] at c0
          have hxm := HM.out.2.2 (l.getD k default) (by rw [List.getD_eq_getElem?_getD, List.getElem?_eq_getElem hkl]; exact List.getElem_mem hkl)
          obtain ⟨q, hq⟩ : ∃ q, q = shareI (c40 (l.getD k default)) M 100 := ⟨_, rfl⟩
          have hq1 : 0 ≤ q ∧ q ≤ 100 := by rw [hq]; exact ⟨share_ge _ _, share_le _ _⟩
          have hqn : norm1 M rev (l.getD k default) = if rev = true then 100 - q else q := by rw [hq, share_norm HM.out.1 HM.out.2.1 hxm]; rfl
          have hts : (turnL (norm1 M rev) c40 l k).set k (if rev = true then 100 - q else q) = turnL (norm1 M rev) c40 l (k + 1) := by rw [← hqn]; exact turn_set (norm1 M rev) c40 l hkl
          have hset := rowI_set q hrun.out htl hlt
          have hget := rowI_get hset (by rw [List.length_set, htl]) hlt
          have hg9 : ((turnL (norm1 M rev) c40 l k).set k q).getD k default = q := by rw [List.getD_eq_getElem?_getD, List.getElem?_set_self (by rw [htl]; exact hlt)]; rfl
          rw [hg9] at hget
          have hset2 := rowI_set (100 - q) hset (by rw [List.length_set, htl]) hlt
          rw [List.set_set] at hset2
          obtain ⟨x, hx⟩ : ∃ x, x = c40 (l.getD k default) := ⟨_, rfl⟩
          have hC := share_calls x M 100 wr
          rw [← hx] at hq c0
          rw [← hq] at hC
          obtain ⟨c1, c2⟩ := c0
          obtain ⟨c3, c4⟩ := hget
          cases rev
          · have HS : Hid (Row RInt 1 (fun _ => False) w (wr.setCell ⟨g, k, none⟩ (.int .i64 q)) 3 (.slice (some ⟨g, 0, none⟩) n n) (turnL (norm1 M false) c40 l (k + 1))) := by rw [Hid, ← hts]; exact hset
            clear hx hq hqn hts hset hset2 hg9 htl hxm hrun
            --M8
            go_wp2_with fail
            refine hC.mono ?_
            rintro e w' ⟨rfl, hw⟩
            obtain rfl := hw.symm
            clear hC hw
            go_wp2_with fail
            go_roundw
            case rel => exact ⟨k + 1, by omega, by go_num, HS⟩
            case measure => simp [intOf]; omega
          · have HS : Hid (Row RInt 1 (fun _ => False) w ((wr.setCell ⟨g, k, none⟩ (.int .i64 q)).setCell ⟨g, k, none⟩ (.int .i64 (100 - q))) 3 (.slice (some ⟨g, 0, none⟩) n n) (turnL (norm1 M true) c40 l (k + 1))) := by rw [Hid, ← hts]; exact hset2
            clear hx hq hqn hts hset hset2 hg9 htl hxm hrun
            go_wp2_with fail
            refine hC.mono ?_
            rintro e w' ⟨rfl, hw⟩
            obtain rfl := hw.symm
            clear hC hw
            --M9
            go_wp2_with fail
            go_roundw
            case rel => exact ⟨k + 1, by omega, by go_num, HS⟩
            case measure => simp [intOf]; omega
        · have hltz : ¬ (k : Int) < (n : Int) := by omega
          have hkn : k = n := by omega
          have HE : Hid (Row RInt 1 (fun _ => False) w wr 3 (.slice (some ⟨g, 0, none⟩) n n) (normP l rev)) := by
            have h := hrun.out
            rw [hkn, ← hn.out, turn_all, HMn.out, hn.out] at h
            exact h
          clear hrun hkn HMn
          go_wp2_with fail
          go_ret
          exact ⟨_, rfl, HE.out⟩
end Go.Proofs.Yteihniiacfghoab
namespace Go.Proofs.Yteihniiacfghoab
open Go.RowKit Go.Maps
set_option linter.unusedSimpArgs false
set_option maxRecDepth 100000

end Go.Proofs.Yteihniiacfghoab
namespace Go.Proofs.Yteihniiacfghoab
open Go.RowKit

theorem row_of_sl {α : Type} [Inhabited α] {R : Rep α} {enc : α → List Value} {k bytes : Nat} {ok : α → Prop} (hR : ∀ {A w cs x}, R A w cs x → cs = enc x ∧ ok x) (hb : 1 ≤ bytes) {A : Where} {w : World} {a : Option Addr} {n cap : Nat} {L : List α} (h : SlAt R k bytes A w a n cap L) : RowAt enc k ok w a L := by
  have hl := h.len hb
  obtain ⟨hn, h2, h3, h4, h5⟩ := h
  have each : ∀ i, i < n → ok (L.getD i default) := fun i hi => by
    obtain ⟨B, off, _, _, _, hc⟩ := h5 (by omega)
    obtain ⟨cs, hr, _⟩ := hc i hi
    exact (hR hr).2
  refine ⟨by omega, fun x hx => ?_, fun hne => ?_⟩
  · obtain ⟨i, hi, rfl⟩ := List.mem_iff_getElem.1 hx
    have := each i (by omega)
    rwa [getE _ _ hi] at this
  · have hpos : 0 < n := by
      rcases Nat.eq_zero_or_pos n with h0 | h0
      · exact absurd (List.length_eq_zero_iff.1 (by omega)) hne
      · exact h0
    obtain ⟨B, off, e, hB, _, hc⟩ := h5 hpos
    refine ⟨B, off, e, hB, fun i hi j v hj => ?_⟩
    obtain ⟨cs, hr, hv⟩ := hc i (by omega)
    rw [← (hR hr).1] at hj
    exact hv j v hj
theorem tnts_of {A : Where} {w : World} {a : Option Addr} {n cap : Nat} {L : List Tnt} (h : SlAt RTaint 3 40 A w a n cap L) : TntsAt w a L :=
  row_of_sl (fun hr => by obtain ⟨rfl, h1, h2⟩ := RTaint.out hr; exact ⟨rfl, h1, h2⟩) (by decide) h
theorem bears_of {A : Where} {w : World} {a : Option Addr} {n cap : Nat} {L : List Bear} (h : SlAt RBear 4 48 A w a n cap L) : BearsAt w a L :=
  row_of_sl (fun hr => by obtain ⟨rfl, h1, h2⟩ := RBear.out hr; exact ⟨rfl, h1, h2⟩) (by decide) h
end Go.Proofs.Yteihniiacfghoab
namespace Go.Proofs.Yteihniiacfghoab
open Go.RowKit
set_option linter.unusedSimpArgs false

theorem retb {a b : Bool} (h : a = b) : Ending.returned (.bool a) = .returned (.bool b) := by rw [h]
theorem isDig_iff (c : UInt8) : isDig c = true ↔ 48 ≤ c.toNat ∧ c.toNat ≤ 57 := by simp [isDig]
theorem isDig_no {c : UInt8} (h : ¬(48 ≤ c.toNat ∧ c.toNat ≤ 57)) : isDig c = false := by
  cases e : isDig c
  · rfl
  · exact absurd ((isDig_iff c).1 e) h

theorem isDigit_calls (c : UInt8) (w : World) : Calls Try.prog 64 #[.int .u8 (c.toNat : Int)] w fun e w' => e = .returned (.bool (isDig c)) ∧ w' = w := by
  by_cases h1 : (48 : Int) ≤ (c.toNat : Int)
  · by_cases h2 : (c.toNat : Int) ≤ 57
    · have HF : Hid (isDig c = true) := (isDig_iff c).2 ⟨by omega, by omega⟩
      go_enter Try.func64, Try.ntmps64
      go_wp2
      go_ret
      exact ⟨retb HF.out.symm, rfl⟩
    · have HF : Hid (isDig c = false) := isDig_no (by omega)
      go_enter Try.func64, Try.ntmps64
      go_wp2
      go_ret
      exact ⟨retb HF.out.symm, rfl⟩
  · have HF : Hid (isDig c = false) := isDig_no (by omega)
    go_enter Try.func64, Try.ntmps64
    go_wp2
    go_ret
    exact ⟨retb HF.out.symm, rfl⟩

theorem wChar_low {c : UInt8} (h : (97 : Int) ≤ c.toNat) (h2 : (c.toNat : Int) ≤ 122) : wChar c = true := by
  have : decide (97 ≤ c.toNat) = true := by simp; omega
  have h3 : decide (c.toNat ≤ 122) = true := by simp; omega
  simp [wChar, this, h3]
theorem wChar_else {c : UInt8} (h : ¬((97 : Int) ≤ c.toNat ∧ (c.toNat : Int) ≤ 122)) : wChar c = (isDig c || decide (c.toNat = 45) || decide (c.toNat = 46) || decide (c.toNat = 47)) := by
  have : (decide (97 ≤ c.toNat) && decide (c.toNat ≤ 122)) = false := by simp; omega
  simp [wChar, this]

theorem wordB_no {s : ByteArray} (h : ¬(1 ≤ s.size ∧ s.size ≤ 32)) : wordB s = false := by
  have : (decide (1 ≤ s.size) && decide (s.size ≤ 32)) = false := by simp; omega
  simp [wordB, this]
theorem wordB_rest {s : ByteArray} (h1 : 1 ≤ s.size) (h2 : s.size ≤ 32) : wordB s = allTo s.size fun i => wChar (byteAt s i) := by
  simp [wordB, h1, h2]

end Go.Proofs.Yteihniiacfghoab
namespace Go.Proofs.Yteihniiacfghoab
open Go.RowKit
set_option linter.unusedSimpArgs false

theorem empty_of {s : ByteArray} (h : s.size = 0) : s.toList.isEmpty = true := by
  rw [ByteArray.toList_eq, List.isEmpty_iff_length_eq_zero]
  simpa using h
theorem not_empty_of {s : ByteArray} (h : 1 ≤ s.size) : s.toList.isEmpty = false := by
  cases e : s.toList.isEmpty
  · rfl
  · rw [ByteArray.toList_eq, List.isEmpty_iff_length_eq_zero] at e
    have e' : s.size = 0 := by simpa using e
    omega

theorem numB_no {s : ByteArray} (h : ¬(1 ≤ s.size ∧ s.size ≤ 15)) : numB s = false := by
  have : (decide (1 ≤ s.size) && decide (s.size ≤ 15)) = false := by simp; omega
  simp [numB, this]
theorem numB_zero {s : ByteArray} (h : 1 < s.size) (h0 : (byteAt s 0).toNat = 48) : numB s = false := by
  simp [numB, h, h0]
theorem numB_rest {s : ByteArray} (h1 : 1 ≤ s.size) (h2 : s.size ≤ 15) (h3 : ¬(1 < s.size ∧ (byteAt s 0).toNat = 48)) : numB s = allTo s.size fun i => isDig (byteAt s i) := by
  have : (decide (1 < s.size) && decide ((byteAt s 0).toNat = 48)) = false := by simp; omega
  simp [numB, h1, h2, this]

set_option maxHeartbeats 1000000 in
theorem isNumber_calls (s : ByteArray) (w : World) : Calls Try.prog 59 #[.string s] w fun e w' => e = .returned (.bool (numB s)) ∧ w' = w := by
  by_cases h0 : (s.size : Int) = 0
  · have HF : Hid (numB s = false) := numB_no (by omega)
    have h0' : ((s.size : Int) == 0) = true := beq_iff_eq.2 h0
    go_enter Try.func59, Try.ntmps59
    go_wp2
    go_ret
    exact ⟨retb HF.out.symm, rfl⟩
  have h0' : ((s.size : Int) == 0) = false := beq_eq_false_iff_ne.2 h0
  by_cases h1 : (15 : Int) < (s.size : Int)
  · have HF : Hid (numB s = false) := numB_no (by omega)
    go_enter Try.func59, Try.ntmps59
    go_wp2
    go_ret
    exact ⟨retb HF.out.symm, rfl⟩
  have hp : 0 < s.size := by omega
  have HB : ∃ b c : Bool, ((s[0].toNat : Int) == 48) = b ∧ decide ((1 : Int) < (s.size : Int)) = c ∧ Hid ((b && c) = true → numB s = false) ∧ Hid ((b && c) = false → numB s = allTo s.size fun i => isDig (byteAt s i)) := by
    refine ⟨_, _, rfl, rfl, ?_, ?_⟩
    · intro h
      simp only [Bool.and_eq_true, beq_iff_eq, decide_eq_true_eq] at h
      exact numB_zero (by omega) (by rw [byteAt_get s 0 hp]; omega)
    · intro h
      refine numB_rest (by omega) (by omega) ?_
      rintro ⟨x, y⟩
      rw [byteAt_get s 0 hp] at y
      rw [beq_iff_eq.2 (show (s[0].toNat : Int) = 48 by omega), decide_eq_true (show (1 : Int) < s.size by omega)] at h
      cases h
  obtain ⟨b, c, hb, hc, HT, HN⟩ := HB
  cases b <;> cases c
  case true.true =>
    have HF : Hid (numB s = false) := HT.out rfl
    clear HT HN
    go_enter Try.func59, Try.ntmps59
    go_wp2
    go_ret
    exact ⟨retb HF.out.symm, rfl⟩
  all_goals
    have HM : Hid (numB s = allTo s.size fun i => isDig (byteAt s i)) := HN.out rfl
    clear HT HN
    go_enter Try.func59, Try.ntmps59
    go_wp2
    go_loop [22] (fun i => ∃ k : Nat, k ≤ s.size ∧ i = .int .i64 k ∧ Hid (∀ j, j < k → isDig (byteAt s j) = true)) (fun i => s.size - (intOf i).toNat)
    case atStart => exact ⟨0, Nat.zero_le _, rfl, fun j hj => absurd hj (Nat.not_lt_zero _)⟩
    case round =>
      obtain ⟨k, hk, rfl, hall⟩ := hrel
      by_cases hlt : k < s.size
      · have hin := isDigit_calls s[k]
        cases hc : isDig s[k]
        · rw [hc] at hin
          have HF : Hid (numB s = false) := HM.out.trans (allTo_false hlt (by rw [byteAt_get s k hlt]; exact hc))
          clear hc
          go_wp2_with (go_at_call 64; refine (hin _).mono ?_; rintro e w' ⟨rfl, rfl⟩)
          go_ret
          exact ⟨retb HF.out.symm, rfl⟩
        · rw [hc] at hin
          have HS : Hid (isDig (byteAt s k) = true) := by rw [Hid, byteAt_get s k hlt]; exact hc
          clear hc
          go_wp2_with (go_at_call 64; refine (hin _).mono ?_; rintro e w' ⟨rfl, rfl⟩)
          go_round
          case rel => exact ⟨k + 1, by omega, by go_num, fun j hj => by rcases Nat.lt_succ_iff_lt_or_eq.1 hj with h | rfl; exact hall.out j h; exact HS.out⟩
          case measure => simp [intOf]; omega
      · have HF : Hid (numB s = true) := HM.out.trans (allTo_true (fun j hj => hall.out j (by omega)))
        go_wp2
        go_ret
        exact ⟨retb HF.out.symm, rfl⟩

theorem wChar_no {c : UInt8} (h1 : ¬((97 : Int) ≤ c.toNat ∧ (c.toNat : Int) ≤ 122)) (h2 : ¬((48 : Int) ≤ c.toNat ∧ (c.toNat : Int) ≤ 57)) (h3 : (c.toNat : Int) ≠ 45) (h4 : (c.toNat : Int) ≠ 46) (h5 : (c.toNat : Int) ≠ 47) : wChar c = false := by
  rw [wChar_else h1, isDig_no (by omega)]
  simp; omega
theorem wChar_dig {c : UInt8} (h : (48 : Int) ≤ c.toNat ∧ (c.toNat : Int) ≤ 57) : wChar c = true := by
  have := (isDig_iff c).2 (by omega); simp [wChar, this]
theorem wChar_sign {c : UInt8} (h : (c.toNat : Int) = 45 ∨ (c.toNat : Int) = 46 ∨ (c.toNat : Int) = 47) : wChar c = true := by
  have : c.toNat = 45 ∨ c.toNat = 46 ∨ c.toNat = 47 := by omega
  rcases this with h | h | h <;> simp [wChar, h]

/-- The paths through the document's test of one byte. -/
theorem wChar_paths (c : UInt8) : (¬ (c.toNat : Int) < 97 ∧ ¬ (122 : Int) < c.toNat ∧ Hid (wChar c = true)) ∨
    (((c.toNat : Int) < 97 ∨ (¬ (c.toNat : Int) < 97 ∧ (122 : Int) < c.toNat)) ∧
      ((¬ (c.toNat : Int) < 48 ∧ ¬ (57 : Int) < c.toNat ∧ Hid (wChar c = true)) ∨
       (((c.toNat : Int) < 48 ∨ (¬ (c.toNat : Int) < 48 ∧ (57 : Int) < c.toNat)) ∧
        ((((c.toNat : Int) != 45) = false ∧ Hid (wChar c = true)) ∨ (((c.toNat : Int) != 45) = true ∧
         ((((c.toNat : Int) != 46) = false ∧ Hid (wChar c = true)) ∨ (((c.toNat : Int) != 46) = true ∧
          ((((c.toNat : Int) != 47) = false ∧ Hid (wChar c = true)) ∨ (((c.toNat : Int) != 47) = true ∧ Hid (wChar c = false)))))))))) := by
  by_cases h1 : (c.toNat : Int) < 97 ∨ (122 : Int) < c.toNat
  · refine .inr ⟨by omega, ?_⟩
    by_cases h2 : (c.toNat : Int) < 48 ∨ (57 : Int) < c.toNat
    · refine .inr ⟨by omega, ?_⟩
      by_cases h3 : (c.toNat : Int) = 45
      · exact .inl ⟨by rw [h3]; rfl, wChar_sign (.inl h3)⟩
      refine .inr ⟨bne_iff_ne.2 h3, ?_⟩
      by_cases h4 : (c.toNat : Int) = 46
      · exact .inl ⟨by rw [h4]; rfl, wChar_sign (.inr (.inl h4))⟩
      refine .inr ⟨bne_iff_ne.2 h4, ?_⟩
      by_cases h5 : (c.toNat : Int) = 47
      · exact .inl ⟨by rw [h5]; rfl, wChar_sign (.inr (.inr h5))⟩
      exact .inr ⟨bne_iff_ne.2 h5, wChar_no (by omega) (by omega) h3 h4 h5⟩
    · exact .inl ⟨by omega, by omega, wChar_dig (by omega)⟩
  · exact .inl ⟨by omega, by omega, wChar_low (by omega) (by omega)⟩

theorem wordB_bad {s : ByteArray} {k : Nat} (h : k < s.size) (hc : wChar s[k] = false) : wordB s = false := by
  have : allTo s.size (fun i => wChar (byteAt s i)) = false := allTo_false h (by rw [byteAt_get s k h]; exact hc)
  simp [wordB, this]
theorem wordB_good {s : ByteArray} (h : ∀ j, j < s.size → wChar (byteAt s j) = true) : wordB s = (decide (1 ≤ s.size) && decide (s.size ≤ 32)) := by
  have : allTo s.size (fun i => wChar (byteAt s i)) = true := allTo_true h
  simp [wordB, this]

end Go.Proofs.Yteihniiacfghoab
namespace Go.Proofs.Yteihniiacfghoab
open Go.RowKit
set_option linter.unusedSimpArgs false

theorem ret_ib {k : IntKind} {a c : Int} {b d : Bool} (h : a = c ∧ b = d) : Ending.returned (.tuple #[.int k a, .bool b]) = .returned (.tuple #[.int k c, .bool d]) := by rw [h.1, h.2]
def wholeN (s : ByteArray) : Nat := if numB s then numN s else 0
theorem numTo_le (s : ByteArray) : ∀ k, k ≤ s.size → (∀ j, j < k → isDig (byteAt s j) = true) → numTo s k < 10 ^ k
  | 0, _, _ => by simp [numTo]
  | k + 1, hk, h => by
    have ih := numTo_le s k (by omega) (fun j hj => h j (by omega))
    have hd := (isDig_iff _).1 (h k (by omega))
    simp only [numTo, Nat.pow_succ]
    omega
theorem pow15 {k : Nat} (h : k ≤ 15) : 10 ^ k ≤ 1000000000000000 := by
  have := Nat.pow_le_pow_right (n := 10) (by omega) h
  simpa using this

end Go.Proofs.Yteihniiacfghoab
namespace Go.Proofs.Yteihniiacfghoab
open Go.RowKit

def big : Nat := 140737488355328
/-- A slice of texts: its address, and what it holds. -/
def StrsAt (w : World) (a : Option Addr) (V : List ByteArray) : Prop :=
  V.length ≤ 140737488355328 ∧ (∀ s ∈ V, s.size ≤ 140737488355328) ∧ (V ≠ [] → ∃ B off, a = some ⟨B, off, none⟩ ∧ B < w.heap.size ∧ ∀ i, i < V.length → w.cell? ⟨B, off + i, none⟩ = some (.string (V.getD i default)))
def LabsAt (w : World) (a : Option Addr) (L : List Lab) : Prop :=
  L.length ≤ 140737488355328 ∧ (∀ x ∈ L, x.1.size ≤ 140737488355328 ∧ x.2.size ≤ 140737488355328) ∧ (L ≠ [] → ∃ B off, a = some ⟨B, off, none⟩ ∧ B < w.heap.size ∧ ∀ i, i < L.length → w.cell? ⟨B, off + i * 2, none⟩ = some (.string (L.getD i default).1) ∧ w.cell? ⟨B, off + i * 2 + 1, none⟩ = some (.string (L.getD i default).2))
def AsksAt (w : World) (a : Option Addr) (R : List Ask) : Prop :=
  R.length ≤ 140737488355328 ∧ (∀ x ∈ R, x.key.size ≤ 140737488355328) ∧ (R ≠ [] → ∃ B off, a = some ⟨B, off, none⟩ ∧ B < w.heap.size ∧ ∀ i, i < R.length → w.cell? ⟨B, off + i * 3, none⟩ = some (.string (R.getD i default).key) ∧ w.cell? ⟨B, off + i * 3 + 1, none⟩ = some (.int .i64 (R.getD i default).op) ∧
    ∃ a' cap', w.cell? ⟨B, off + i * 3 + 2, none⟩ = some (.slice a' (R.getD i default).vals.length cap') ∧ StrsAt w a' (R.getD i default).vals)

/-- What comes behind. -/

theorem StrsAt.on {w w' : World} {a : Option Addr} {V : List ByteArray} (h : StrsAt w a V) (hb : Below w.heap.size w w') : StrsAt w' a V := by
  obtain ⟨h1, h2, h3⟩ := h
  refine ⟨h1, h2, fun hn => ?_⟩
  obtain ⟨B, off, rfl, hB, hc⟩ := h3 hn
  exact ⟨B, off, rfl, Nat.lt_of_lt_of_le hB hb.size, fun i hi => (hb.cell hB).trans (hc i hi)⟩
theorem LabsAt.on {w w' : World} {a : Option Addr} {L : List Lab} (h : LabsAt w a L) (hb : Below w.heap.size w w') : LabsAt w' a L := by
  obtain ⟨h1, h2, h3⟩ := h
  refine ⟨h1, h2, fun hn => ?_⟩
  obtain ⟨B, off, rfl, hB, hc⟩ := h3 hn
  exact ⟨B, off, rfl, Nat.lt_of_lt_of_le hB hb.size, fun i hi => ⟨(hb.cell hB).trans (hc i hi).1, (hb.cell hB).trans (hc i hi).2⟩⟩
theorem AsksAt.on {w w' : World} {a : Option Addr} {R : List Ask} (h : AsksAt w a R) (hb : Below w.heap.size w w') : AsksAt w' a R := by
  obtain ⟨h1, h2, h3⟩ := h
  refine ⟨h1, h2, fun hn => ?_⟩
  obtain ⟨B, off, rfl, hB, hc⟩ := h3 hn
  refine ⟨B, off, rfl, Nat.lt_of_lt_of_le hB hb.size, fun i hi => ?_⟩
  obtain ⟨c0, c1, a', cap', c2, hs⟩ := hc i hi
  exact ⟨(hb.cell hB).trans c0, (hb.cell hB).trans c1, a', cap', (hb.cell hB).trans c2, hs.on hb⟩
theorem StrsAt.nil (w : World) (a : Option Addr) : StrsAt w a [] := ⟨by simp, by simp, fun h => absurd rfl h⟩
theorem LabsAt.nil (w : World) (a : Option Addr) : LabsAt w a [] := ⟨by simp, by simp, fun h => absurd rfl h⟩
theorem AsksAt.nil (w : World) (a : Option Addr) : AsksAt w a [] := ⟨by simp, by simp, fun h => absurd rfl h⟩
theorem StrsAt.get {w : World} {a : Option Addr} {V : List ByteArray} (h : StrsAt w a V) {k : Nat} (hk : k < V.length) : ∃ B off, a = some ⟨B, off, none⟩ ∧ B < w.heap.size ∧ w.cell? ⟨B, off + k, none⟩ = some (.string (V.getD k default)) ∧ (V.getD k default).size ≤ 140737488355328 := by
  obtain ⟨h1, h2, h3⟩ := h
  obtain ⟨B, off, rfl, hB, hc⟩ := h3 (by intro e; rw [e] at hk; simp at hk)
  refine ⟨B, off, rfl, hB, hc k hk, h2 _ ?_⟩
  rw [List.getD_eq_getElem?_getD, List.getElem?_eq_getElem hk]
  exact List.getElem_mem hk
theorem LabsAt.get {w : World} {a : Option Addr} {L : List Lab} (h : LabsAt w a L) {k : Nat} (hk : k < L.length) : ∃ B off, a = some ⟨B, off, none⟩ ∧ B < w.heap.size ∧ w.cell? ⟨B, off + k * 2, none⟩ = some (.string (L.getD k default).1) ∧ w.cell? ⟨B, off + k * 2 + 1, none⟩ = some (.string (L.getD k default).2) ∧ (L.getD k default).1.size ≤ 140737488355328 ∧ (L.getD k default).2.size ≤ 140737488355328 := by
  obtain ⟨h1, h2, h3⟩ := h
  obtain ⟨B, off, rfl, hB, hc⟩ := h3 (by intro e; rw [e] at hk; simp at hk)
  refine ⟨B, off, rfl, hB, (hc k hk).1, (hc k hk).2, h2 _ ?_⟩
  rw [List.getD_eq_getElem?_getD, List.getElem?_eq_getElem hk]
  exact List.getElem_mem hk
theorem AsksAt.get {w : World} {a : Option Addr} {R : List Ask} (h : AsksAt w a R) {k : Nat} (hk : k < R.length) : ∃ B off, a = some ⟨B, off, none⟩ ∧ B < w.heap.size ∧ w.cell? ⟨B, off + k * 3, none⟩ = some (.string (R.getD k default).key) ∧ w.cell? ⟨B, off + k * 3 + 1, none⟩ = some (.int .i64 (R.getD k default).op) ∧
    (∃ a' cap', w.cell? ⟨B, off + k * 3 + 2, none⟩ = some (.slice a' (R.getD k default).vals.length cap') ∧ StrsAt w a' (R.getD k default).vals) ∧ (R.getD k default).key.size ≤ 140737488355328 := by
  obtain ⟨h1, h2, h3⟩ := h
  obtain ⟨B, off, rfl, hB, hc⟩ := h3 (by intro e; rw [e] at hk; simp at hk)
  refine ⟨B, off, rfl, hB, (hc k hk).1, (hc k hk).2.1, (hc k hk).2.2, h2 _ ?_⟩
  rw [List.getD_eq_getElem?_getD, List.getElem?_eq_getElem hk]
  exact List.getElem_mem hk
end Go.Proofs.Yteihniiacfghoab
namespace Go.Proofs.Yteihniiacfghoab
open Go.RowKit
set_option linter.unusedSimpArgs false

theorem oneNumber_calls (a : Option Addr) (cap : Nat) (V : List ByteArray) (w : World) (hV : Hid (StrsAt w a V)) : Calls Try.prog 60 #[.slice a V.length cap] w fun e w' => e = .returned (.bool (decide (V.length = 1) && numB (V.getD 0 default))) ∧ w' = w := by
  by_cases h1 : (V.length : Int) = 1
  · have h1' : ((V.length : Int) == 1) = true := beq_iff_eq.2 h1
    obtain ⟨B, off, rfl, hB, hc, hs⟩ := hV.out.get (k := 0) (by omega)
    have hin := isNumber_calls (V.getD 0 default)
    have HF : Hid ((decide (V.length = 1) && numB (V.getD 0 default)) = numB (V.getD 0 default)) := by simp [Hid, show V.length = 1 by omega]
    rw [Nat.add_zero] at hc
    generalize V.getD 0 default = s at hin hc hs HF
    generalize numB s = b at hin HF
    go_enter Try.func60, Try.ntmps60
    go_wp2_with (go_at_call 59; refine (hin _).mono ?_; rintro e w' ⟨rfl, rfl⟩)
    go_ret
    exact ⟨retb HF.out.symm, rfl⟩
  · have h1' : ((V.length : Int) == 1) = false := beq_eq_false_iff_ne.2 h1
    have HF : Hid ((decide (V.length = 1) && numB (V.getD 0 default)) = false) := by simp [Hid]; omega
    go_enter Try.func60, Try.ntmps60
    go_wp2
    go_ret
    exact ⟨retb HF.out.symm, rfl⟩

theorem hasL_iff (V : List ByteArray) (s : ByteArray) : hasL V s = true ↔ ∃ j, j < V.length ∧ sEq (V.getD j default) s = true := by
  simp only [hasL, List.any_eq_true]
  constructor
  · rintro ⟨v, hv, h⟩
    obtain ⟨j, hj, rfl⟩ := List.mem_iff_getElem.1 hv
    exact ⟨j, hj, by rw [List.getD_eq_getElem?_getD, List.getElem?_eq_getElem hj]; exact h⟩
  · rintro ⟨j, hj, h⟩
    rw [List.getD_eq_getElem?_getD, List.getElem?_eq_getElem hj] at h
    exact ⟨_, List.getElem_mem hj, h⟩
theorem hasL_no {V : List ByteArray} {s : ByteArray} (h : ∀ j, j < V.length → sEq (V.getD j default) s = false) : hasL V s = false := by
  cases e : hasL V s
  · rfl
  · obtain ⟨j, hj, h'⟩ := (hasL_iff V s).1 e
    rw [h j hj] at h'; cases h'

end Go.Proofs.Yteihniiacfghoab
namespace Go.Proofs.Yteihniiacfghoab
open Go.RowKit
set_option linter.unusedSimpArgs false

theorem ret_sb {a c : ByteArray} {b d : Bool} (h : a = c ∧ b = d) : Ending.returned (.tuple #[.string a, .bool b]) = .returned (.tuple #[.string c, .bool d]) := by rw [h.1, h.2]
theorem getL_no {L : List Lab} {key : ByteArray} (h : ∀ j, j < L.length → sEq (L.getD j default).1 key = false) : getL L key = (default, false) := by
  have : L.find? (fun x => sEq x.1 key) = none := by
    rw [List.find?_eq_none]
    intro x hx
    obtain ⟨j, hj, rfl⟩ := List.mem_iff_getElem.1 hx
    have := h j hj
    rw [List.getD_eq_getElem?_getD, List.getElem?_eq_getElem hj] at this
    simpa using this
  simp only [getL, this]
theorem getL_yes {L : List Lab} {key : ByteArray} {k : Nat} (hk : k < L.length) (h : ∀ j, j < k → sEq (L.getD j default).1 key = false) (hy : sEq (L.getD k default).1 key = true) : getL L key = ((L.getD k default).2, true) := by
  have : L.find? (fun x => sEq x.1 key) = some (L.getD k default) := by
    rw [List.getD_eq_getElem?_getD, List.getElem?_eq_getElem hk] at hy ⊢
    rw [List.find?_eq_some_iff_getElem]
    refine ⟨hy, k, hk, rfl, fun j hj => ?_⟩
    have := h j hj
    rw [List.getD_eq_getElem?_getD, List.getElem?_eq_getElem (by omega)] at this
    simpa using this
  simp only [getL, this]

set_option maxHeartbeats 1000000 in
theorem Get_calls (a : Option Addr) (cap : Nat) (L : List Lab) (key : ByteArray) (w : World) (hL : Hid (LabsAt w a L)) : Calls Try.prog 41 #[.slice a L.length cap, .string key] w fun e w' => e = .returned (.tuple #[.string (getL L key).1, .bool (getL L key).2]) ∧ Below w.heap.size w w' := by
  have hlen := hL.out.1
  go_enter Try.func41, Try.ntmps41
  go_wp2
  go_loopw [10] (fun i wr => ∃ k : Nat, k ≤ L.length ∧ i = .int .i64 k ∧ Below w.heap.size w wr ∧ Hid (∀ j, j < k → sEq (L.getD j default).1 key = false)) (fun i _ => L.length - (intOf i).toNat)
  case atStart => exact ⟨0, Nat.zero_le _, rfl, Below.refl _ _, fun j hj => absurd hj (Nat.not_lt_zero _)⟩
  case round =>
    obtain ⟨k, hk, rfl, hbel, hall⟩ := hrel
    by_cases hlt : k < L.length
    · obtain ⟨B, off, rfl, hB, c0, c1, s0, s1⟩ := hL.out.get hlt
      have d0 := (hbel.cell (p := ⟨B, off + k * 2, none⟩) hB).trans c0
      have d1 := (hbel.cell (p := ⟨B, off + k * 2 + 1, none⟩) hB).trans c1
      clear c0 c1
      cases hv : sEq (L.getD k default).1 key
      · have HG : Hid (∀ j, j < k + 1 → sEq (L.getD j default).1 key = false) := fun j hj => by
          rcases Nat.lt_succ_iff_lt_or_eq.1 hj with h | rfl
          · exact hall.out j h
          · exact hv
        unfold sEq at hv
        clear hall
        generalize L.getD k default = x at hv d0 d1 s0 s1
        go_wp2
        go_roundw
        case rel => exact ⟨k + 1, by omega, by go_num, on2 hbel (by go_grown), HG⟩
        case measure => simp [intOf]; omega
      · have HF : Hid (getL L key = ((L.getD k default).2, true)) := getL_yes hlt hall.out hv
        unfold sEq at hv
        clear hall
        generalize L.getD k default = x at hv d0 d1 s0 s1 HF
        go_wp2
        go_ret2
        exact ⟨ret_sb (by rw [HF.out]; exact ⟨rfl, rfl⟩), on2 hbel (by go_grown)⟩
    · have HF : Hid (getL L key = (default, false)) := getL_no (fun j hj => hall.out j (by omega))
      go_wp2
      go_ret2
      exact ⟨ret_sb (by rw [HF.out]; exact ⟨rfl, rfl⟩), hbel⟩

end Go.Proofs.Yteihniiacfghoab
