/- The chapter's example works, over a frame that keeps what is said. Condition: none beyond that. Nothing of its own: what quant's texts stand on. The document's own Itoa returns the digits, and changes nothing that was there. Condition: an amount. A number among so many; what the laws of layer 17 want, in their words. No condition. What FrameSkips wants, plain; a row's form; members turned one by one. No condition. A frame of the document, as it lies. No condition. Steps of a region that draws its order, in short. Plain facts on the model's walks. No condition. -/
import Derived.Test.YtoacbobchngooaaDoorQ05
import Derived.Test.YtoacbobchngooaaDoorQ01
import Derived.Lib.ItoaNum
import Derived.Lib.ItoaLen
import Derived.Lib.AppendIntMem
import Derived.Test.YtoacbobchngooaaDoorQ04
import Derived.Maps.RangeWalk
namespace Go.Proofs.YtoacbobchngooaaDoor
open Go.RowKit Go.Maps
set_option linter.unusedSimpArgs false
set_option maxRecDepth 100000

def plA (c : UInt8) (r : Int) : PlugD := (⟨#[c]⟩, 0, 0, r, 0, 0, [])
def L3 : List PlugD := [plA 97 0, plA 98 1, plA 99 0]
def T4 : List ByteArray := [⟨#[97, 58, 51]⟩, ⟨#[98, 58, 51]⟩, ⟨#[98, 58, 53]⟩, ⟨#[97, 58, 53]⟩]
theorem w17a : newB L3 = true := by decide +kernel
theorem w17b : (runP (newP L3) 3).2 = 1 := by decide +kernel
theorem w17c : (runP (newP L3) 3).1.2.2 = T4 := by decide +kernel
theorem w17d : runE 3 = 0 := by decide +kernel
theorem plug_nil (A : Where) (u : World) (c : UInt8) (r : Int) : RPlug A u [.string ⟨#[c]⟩, .int .i64 0, .int .i64 0, .int .i64 r, .int .i64 0, .int .i64 0, .slice none 0 0] (plA c r) := RPlug.mk (x := plA c r) (by show (1 : Nat) ≤ 140737488355328; decide) (SlAt.nil _ _ _ _ (fun _ => rfl))
theorem l3_at {u : World} {B : Nat} (h : BoxL u B [.string ⟨#[97]⟩, .int .i64 0, .int .i64 0, .int .i64 0, .int .i64 0, .int .i64 0, .slice none 0 0, .string ⟨#[98]⟩, .int .i64 0, .int .i64 0, .int .i64 1, .int .i64 0, .int .i64 0, .slice none 0 0, .string ⟨#[99]⟩, .int .i64 0, .int .i64 0, .int .i64 0, .int .i64 0, .int .i64 0, .slice none 0 0]) : SlAt RPlug 7 80 (fun _ => True) u (some ⟨B, 0, none⟩) 3 3 L3 :=
  ⟨rfl, Nat.le_refl _, (fun e => by cases e), by decide, fun _ => ⟨B, 0, rfl, h.1, trivial, fun i hi => by
    obtain rfl | rfl | rfl : i = 0 ∨ i = 1 ∨ i = 2 := by omega
    · refine ⟨_, plug_nil _ _ 97 0, fun j v hj => (h.2 (0 + 0 * 7 + j) v ?_).1⟩
      have hj7 : j < 7 := (List.getElem?_eq_some_iff.1 hj).1
      obtain rfl | rfl | rfl | rfl | rfl | rfl | rfl : j = 0 ∨ j = 1 ∨ j = 2 ∨ j = 3 ∨ j = 4 ∨ j = 5 ∨ j = 6 := by omega
      all_goals exact hj
    · refine ⟨_, plug_nil _ _ 98 1, fun j v hj => (h.2 (0 + 1 * 7 + j) v ?_).1⟩
      have hj7 : j < 7 := (List.getElem?_eq_some_iff.1 hj).1
      obtain rfl | rfl | rfl | rfl | rfl | rfl | rfl : j = 0 ∨ j = 1 ∨ j = 2 ∨ j = 3 ∨ j = 4 ∨ j = 5 ∨ j = 6 := by omega
      all_goals exact hj
    · refine ⟨_, plug_nil _ _ 99 0, fun j v hj => (h.2 (0 + 2 * 7 + j) v ?_).1⟩
      have hj7 : j < 7 := (List.getElem?_eq_some_iff.1 hj).1
      obtain rfl | rfl | rfl | rfl | rfl | rfl | rfl : j = 0 ∨ j = 1 ∨ j = 2 ∨ j = 3 ∨ j = 4 ∨ j = 5 ∨ j = 6 := by omega
      all_goals exact hj⟩⟩
theorem t4_at {u : World} {B : Nat} (h : BoxL u B [.string ⟨#[97, 58, 51]⟩, .string ⟨#[98, 58, 51]⟩, .string ⟨#[98, 58, 53]⟩, .string ⟨#[97, 58, 53]⟩]) : SlAt RTxt 1 16 (fun _ => True) u (some ⟨B, 0, none⟩) 4 4 T4 :=
  ⟨rfl, Nat.le_refl _, (fun e => by cases e), by decide, fun _ => ⟨B, 0, rfl, h.1, trivial, fun i hi => by
    obtain rfl | rfl | rfl | rfl : i = 0 ∨ i = 1 ∨ i = 2 ∨ i = 3 := by omega
    all_goals
      refine ⟨_, ⟨rfl, (by decide : (3 : Nat) ≤ 281474976710656)⟩, fun j v hj => ?_⟩
      have hj0 : j = 0 := by have := (List.getElem?_eq_some_iff.1 hj).1; simp at this; exact this
      subst hj0
      exact (h.2 _ v hj).1⟩⟩
set_option maxHeartbeats 4000000 in
theorem works17_calls (V : FrameOK) (w : World) : Calls Tryd.prog 21 #[] w fun e w' => e = .returned (.bool true) ∧ Below w.heap.size w w' := by
  obtain ⟨W1, hW1⟩ : ∃ Z, Z = w.alloc (.cells #[.string ⟨#[97]⟩, .int .i64 0, .int .i64 0, .int .i64 0, .int .i64 0, .int .i64 0, .slice none 0 0, .string ⟨#[98]⟩, .int .i64 0, .int .i64 0, .int .i64 1, .int .i64 0, .int .i64 0, .slice none 0 0, .string ⟨#[99]⟩, .int .i64 0, .int .i64 0, .int .i64 0, .int .i64 0, .int .i64 0, .slice none 0 0] 33) := ⟨_, rfl⟩
  have b1 : Below w.heap.size w W1 := by rw [hW1]; exact (Below.refl _ _).alloc (Nat.le_refl _) _
  have q1 : BoxL W1 w.heap.size [.string ⟨#[97]⟩, .int .i64 0, .int .i64 0, .int .i64 0, .int .i64 0, .int .i64 0, .slice none 0 0, .string ⟨#[98]⟩, .int .i64 0, .int .i64 0, .int .i64 1, .int .i64 0, .int .i64 0, .slice none 0 0, .string ⟨#[99]⟩, .int .i64 0, .int .i64 0, .int .i64 0, .int .i64 0, .int .i64 0, .slice none 0 0] := by rw [hW1]; exact BoxL.new w 33 _
  have hA := V.new (some ⟨w.heap.size, 0, none⟩) 3 3 (fun _ => True) L3 W1 (l3_at q1)
  have HB1 : Hid (Below w.heap.size w W1) := b1
  have HW1 : Hid (W1 = w.alloc (.cells #[.string ⟨#[97]⟩, .int .i64 0, .int .i64 0, .int .i64 0, .int .i64 0, .int .i64 0, .slice none 0 0, .string ⟨#[98]⟩, .int .i64 0, .int .i64 0, .int .i64 1, .int .i64 0, .int .i64 0, .slice none 0 0, .string ⟨#[99]⟩, .int .i64 0, .int .i64 0, .int .i64 0, .int .i64 0, .int .i64 0, .slice none 0 0] 33)) := hW1
  rw [hW1] at hA
  clear b1 q1 hW1
  go_enter Tryd.func21, Tryd.ntmps21
  go_wp2_with fail
  --M1
  refine hA.mono ?_
  rintro e w2 ⟨b2, ⟨_, p, rfl, hP⟩ | ⟨h0, _⟩⟩
  case inr => exact absurd h0 (by rw [w17a]; decide)
  rw [← HW1.out] at b2 hP
  clear hA
  have hA := V.run hP (fun b hb => Nat.le_trans b2.size hb) (by decide) 3
  rw [w17b, w17d] at hA
  have HB2 : Hid (Below W1.heap.size W1 w2) := b2
  clear b2 hP
  go_wp2_with fail
  --M2
  refine hA.mono ?_
  rintro e w3 ⟨rfl, hP, ht⟩
  have b3 : Below W1.heap.size W1 w3 := Turns.behind HB2.out ht
  have hl : (runP (newP L3) 3).1.2.2.length ≤ 1000000 := by rw [w17c]; decide
  have hA := V.calls hP hl
  rw [w17c] at hA
  have HB3 : Hid (Below w.heap.size w w3) := on2 HB1.out b3
  clear hP ht b3 hl HB2
  go_wp2_with fail
  --M3
  refine hA.mono ?_
  rintro e w4 ⟨v4, rfl, hr4⟩
  obtain ⟨la, lc, rfl, ls⟩ := (hr4.wAG RTxt.firm (A' := fun _ => True) (fun _ h => h.elim)).slF (bytes := 16) RTxt.firm (by decide)
  have ls := ls.weak RTxt.firm (A' := fun _ => True) (fun _ _ _ => trivial)
  obtain ⟨W5, hW5⟩ : ∃ Z, Z = w4.alloc (.cells #[.string ⟨#[97, 58, 51]⟩, .string ⟨#[98, 58, 51]⟩, .string ⟨#[98, 58, 53]⟩, .string ⟨#[97, 58, 53]⟩] 9) := ⟨_, rfl⟩
  have b5 : Below w4.heap.size w4 W5 := by rw [hW5]; exact (Below.refl _ _).alloc (Nat.le_refl _) _
  have q5 : BoxL W5 w4.heap.size [.string ⟨#[97, 58, 51]⟩, .string ⟨#[98, 58, 51]⟩, .string ⟨#[98, 58, 53]⟩, .string ⟨#[97, 58, 53]⟩] := by rw [hW5]; exact BoxL.new w4 9 _
  have hS := SameTextsU_calls la 4 lc (fun _ => True) T4 (some ⟨w4.heap.size, 0, none⟩) 4 4 (fun _ => True) T4 W5 (ls.on RTxt.firm b5) (t4_at q5)
  rw [show decide ((T4 : List ByteArray) = T4) = true from decide_eq_true rfl] at hS
  have HB5 : Hid (Below w.heap.size w W5) := on2 HB3.out (on2 hr4.below b5)
  have HW5 : Hid (w4.alloc (.cells #[.string ⟨#[97, 58, 51]⟩, .string ⟨#[98, 58, 51]⟩, .string ⟨#[98, 58, 53]⟩, .string ⟨#[97, 58, 53]⟩] 9) = W5) := hW5.symm
  have e4 : T4.length = 4 := rfl
  rw [e4]
  clear hA hr4 ls b5 q5 hW5 e4
  rw [← HW5.out] at hS
  go_wp2_with fail
  --M4
  refine hS.mono ?_
  rintro e w6 ⟨rfl, q, hq⟩
  have HB6 : Hid (Below w.heap.size w w6) := by rw [Hid, hq, HW5.out]; exact below_drewN HB5.out q
  clear hS hq
  go_wp2_with fail
  go_ret
  exact ⟨rfl, HB6.out⟩
end Go.Proofs.YtoacbobchngooaaDoor
namespace Go.Proofs.YtoacbobchngooaaDoor
end Go.Proofs.YtoacbobchngooaaDoor
namespace Go.Proofs.YtoacbobchngooaaDoor
open Go.RowKit
set_option maxRecDepth 100000

theorem ret_str {a b : ByteArray} (h : a = b) : Ending.returned (.string a) = .returned (.string b) := by rw [h]
theorem itoa_nat {n : Int} (h : 0 ≤ n) : Lib.itoa n = Lib.decDigits n.toNat := by unfold Lib.itoa; rw [if_neg (by omega)]
def decZ (m : Nat) : List UInt8 := if m = 0 then [] else Lib.decDigits m
theorem decZ_zero : decZ 0 = [] := rfl
theorem decDigits_step (u : Nat) (h : ¬ u < 10) : Lib.decDigits u = Lib.decDigits (u / 10) ++ [UInt8.ofNat (48 + u % 10)] := by
  rw [Lib.decDigits, dif_neg h]
theorem decZ_step (m : Nat) (h : m ≠ 0) : decZ m = decZ (m / 10) ++ [UInt8.ofNat (48 + m % 10)] := by
  unfold decZ
  rw [if_neg h]
  by_cases h10 : m < 10
  · rw [if_pos (by omega), Lib.decDigits_one h10, Nat.mod_eq_of_lt h10]
    rfl
  · rw [if_neg (by omega), decDigits_step m h10]

theorem bytes_cons (c : UInt8) (l : List UInt8) : ({ data := #[c] } ++ { data := l.toArray } : ByteArray) = { data := (c :: l).toArray } := by
  apply ByteArray.ext
  simp
theorem dig_int (m : Nat) : 48 + (m : Int) % 10 = ((UInt8.ofNat (48 + m % 10)).toNat : Int) := by
  rw [UInt8.toNat_ofNat']
  omega

theorem conv_one (w : World) (v : Int) (c : UInt8) (hv : v = (c.toNat : Int)) :
    Sem.run Tryd.prog (convert 70 9 (Value.slice (some { block := w.heap.size, off := 0 }) 1 1)) (w.alloc (Obj.cells #[Value.int IntKind.u8 v] 5)) =
      .ok (.string ⟨#[c]⟩) (w.alloc (Obj.cells #[Value.int IntKind.u8 v] 5)) := by
  refine run_convert_bytes_back _ 70 9 5 ⟨w.heap.size, 0, none⟩ 1 [c] Tryd.underlying70 Tryd.underlying5 Tryd.underlying9 ?_
  intro j hj
  obtain rfl : j = 0 := by simpa using hj
  show (w.alloc _).cell? ⟨w.heap.size, 0, none⟩ = _
  rw [World.cell?_alloc_new, hv]
  rfl

set_option maxHeartbeats 1000000 in
theorem itoa_calls (n : Int) (w : World) (h0 : 0 < n) (h1 : n ≤ 1125899906842624) : Calls Tryd.prog 24 #[.int .i64 n] w fun e w' => e = .returned (.string ⟨(Lib.decDigits n.toNat).toArray⟩) ∧ Below w.heap.size w w' := by
  have e0 : (n == 0) = false := by rw [beq_eq_false_iff_ne]; omega
  have e1 : decide (n < 0) = false := by simp; omega
  have HL : Hid ((Lib.decDigits n.toNat).length ≤ 21) := by
    have h := Lib.itoa_length_le n (by omega) (by omega)
    rw [itoa_nat (by omega)] at h
    exact h
  go_enter Tryd.func24, Tryd.ntmps24
  go_wp2
  go_loopw [0, 3] (fun v s wr => ∃ (m : Nat) (l : List UInt8), v = .int .i64 m ∧ s = .string ⟨l.toArray⟩ ∧ m ≤ 1125899906842624 ∧ Hid (decZ m ++ l = Lib.decDigits n.toNat) ∧ l.length ≤ 21 ∧ Below w.heap.size w wr) (fun v _ _ => (intOf v).toNat)
  case atStart =>
    refine ⟨n.toNat, [], ?_, rfl, by omega, ?_, by simp, Below.refl _ _⟩
    · rw [Int.toNat_of_nonneg (by omega)]
    · unfold Hid decZ
      rw [if_neg (by omega), List.append_nil]
  case round =>
    obtain ⟨m, l, rfl, rfl, hm, hdec, hl, hbel⟩ := hrel
    by_cases hz : m = 0
    · subst hz
      have HD : Hid (l = Lib.decDigits n.toNat) := hdec
      go_wp2
      go_ret
      exact ⟨ret_str (by rw [HD.out]), hbel⟩
    · have z0 : ((m : Int) != 0) = true := by rw [bne_iff_ne]; omega
      obtain ⟨c, Hc, hci⟩ : ∃ c : UInt8, Hid (c = UInt8.ofNat (48 + m % 10)) ∧ 48 + (m : Int) % 10 = (c.toNat : Int) := ⟨_, rfl, dig_int m⟩
      have hc := conv_one wr (48 + (m : Int) % 10) c hci
      clear hci
      have HS : Hid (decZ (m / 10) ++ (c :: l) = Lib.decDigits n.toNat) := by
        have h := hdec.out
        rw [decZ_step m hz, ← Hc.out, List.append_assoc] at h
        exact h
      have hl' : (c :: l).length ≤ 21 := by
        have h := congrArg List.length HS.out
        rw [List.length_append] at h
        have := HL.out
        omega
      go_wp2
      exact ⟨⟨m / 10, c :: l, by go_num, congrArg Value.string (bytes_cons c l), by omega, HS, hl', hbel.alloc hbel.size _⟩, by simp [intOf]; omega⟩

theorem itoa_zero (w : World) : Calls Tryd.prog 24 #[.int .i64 0] w fun e w' => e = .returned (.string ⟨(Lib.decDigits 0).toArray⟩) ∧ w' = w := by
  have HD : Hid (Lib.decDigits 0 = [48]) := Lib.decDigits_one (by omega)
  go_enter Tryd.func24, Tryd.ntmps24
  go_wp2
  go_ret
  exact ⟨ret_str (by rw [HD.out]), rfl⟩
theorem ritoa_calls (n : Int) (w : World) (h0 : 0 ≤ n) (h1 : n ≤ 1125899906842624) : Calls Tryd.prog 24 #[.int .i64 n] w fun e w' => e = .returned (.string ⟨(Lib.decDigits n.toNat).toArray⟩) ∧ Below w.heap.size w w' := by
  by_cases h : n = 0
  · subst h
    exact (itoa_zero w).mono fun e w' ⟨he, hw⟩ => ⟨he, by rw [hw]; exact Below.refl _ _⟩
  · exact itoa_calls n w (by omega) h1

theorem decDigits_le (n : Int) (h0 : 0 ≤ n) (h1 : n ≤ 1125899906842624) : (Lib.decDigits n.toNat).length ≤ 21 := by
  have h := Lib.itoa_length_le n (by omega) (by omega)
  rwa [itoa_nat h0] at h
/-- Any number's text, and that it is short. -/
theorem itoa_any (n : Nat) (w : World) (h1 : n ≤ 1048576) : Calls Tryd.prog 24 #[.int .i64 (n : Int)] w fun e w' => ∃ s : ByteArray, e = .returned (.string s) ∧ s.size ≤ 21 ∧ Below w.heap.size w w' := by
  refine (ritoa_calls (n : Int) w (by omega) (by omega)).mono ?_
  rintro e w' ⟨rfl, hb⟩
  refine ⟨_, rfl, ?_, hb⟩
  have := decDigits_le (n : Int) (by omega) (by omega)
  simpa [ByteArray.size] using this
end Go.Proofs.YtoacbobchngooaaDoor
namespace Go.Proofs.YtoacbobchngooaaDoor
open Go.RowKit Go.Maps
set_option linter.unusedSimpArgs false
set_option maxRecDepth 100000

set_option maxHeartbeats 1000000 in
theorem AmongS_calls (n : Int) (m : Nat) (hm : 0 < m) (hml : m ≤ 140737488355328) (w : World) : Calls Tryd.prog 23 #[.int .i64 n, .int .i64 m] w fun e w' => (∃ k : Nat, e = .returned (.int .i64 k) ∧ k < m) ∧ w' = w := by
  have hw : IntKind.u64.wrap (m : Int) = (m : Int) := by simp [IntKind.wrap, IntKind.bits, IntKind.signed]; omega
  have hz : ((m : Int) == 0) = false := by rw [beq_eq_false_iff_ne]; omega
  have hz' : ¬ (m : Int) = 0 := by omega
  generalize hr : IntKind.u64.wrap n = r
  have hr0 : 0 ≤ r := by rw [← hr]; simp [IntKind.wrap, IntKind.bits, IntKind.signed]; omega
  have h1 : 0 ≤ r % (m : Int) := Int.emod_nonneg _ (by omega)
  have h2 : r % (m : Int) < (m : Int) := Int.emod_lt_of_pos _ (by omega)
  have h3 : r.tmod (m : Int) = r % (m : Int) := Int.tmod_eq_emod_of_nonneg hr0
  go_enter Tryd.func23, Tryd.ntmps23
  go_wp2
  go_ret
  refine ⟨⟨(r % (m : Int)).toNat, ?_, by omega⟩, rfl⟩
  rw [Int.toNat_of_nonneg h1]
  rfl

theorem unres_map (l : List PlugD) (j : Nat) : unresP l j = (((l.take j).map Prod.fst).reverse).map fun s => callS s 5 := by
  unfold unresP; rw [← List.map_reverse, List.map_map]; rfl
theorem take_map (l : List PlugD) (j : Nat) (pt : Int) : (l.take j).map (fun x => callS x.1 pt) = ((l.take j).map Prod.fst).map fun s => callS s pt := by rw [List.map_map]; rfl
theorem names_in {l : List PlugD} (h : newB l = true) (j : Nat) : ∀ s ∈ (l.take j).map Prod.fst, 0 < s.size := fun s hs => by
  obtain ⟨x, hx, rfl⟩ := List.mem_map.1 hs
  exact all_names h x (List.mem_of_mem_take hx)
theorem run_names {l : List PlugD} (h : newB l = true) (j : Nat) {pt q : Int} (hp : 1 ≤ pt ∧ pt ≤ 4) (hq : 1 ≤ q ∧ q ≤ 5) (b : Prop) [Decidable b] :
    namesP ((l.take j).map (fun x => callS x.1 pt) ++ (if b then unresP l j else [])) (digS q) = (if pt = q then (l.take j).map Prod.fst else []) ++ (if b ∧ q = 5 then ((l.take j).map Prod.fst).reverse else []) := by
  rw [names_app, take_map, names_calls _ ⟨hp.1, by omega⟩ (names_in h j) q hq]
  congr 1
  by_cases hb : b
  · rw [if_pos hb, unres_map, names_calls _ (by decide) (fun s hs => names_in h j s (List.mem_reverse.1 hs)) q hq]
    by_cases h5 : q = 5
    · rw [if_pos h5.symm, if_pos ⟨hb, h5⟩]
    · rw [if_neg (fun e => h5 e.symm), if_neg (fun e => h5 e.2)]
  · rw [if_neg hb, if_neg (fun e => hb e.1)]; rfl
theorem runP_mid (f : FrD) {pt : Int} (hp : 1 ≤ pt ∧ pt ≤ 4) : runP f pt = ((f.1, (runL f.1 pt f.1 0 f.2.1 f.2.2 false).1, (runL f.1 pt f.1 0 f.2.1 f.2.2 false).2.1), (runL f.1 pt f.1 0 f.2.1 f.2.2 false).2.2) := by
  unfold runP
  rw [if_neg (by omega), if_neg (by omega)]
theorem runE_in {pt : Int} (hp : 1 ≤ pt ∧ pt ≤ 5) : runE pt = 0 := by unfold runE; rw [if_neg (by omega)]
/-- A run of a fresh frame, in the words of FrameEach. -/
theorem each_words {l : List PlugD} (h : newB l = true) {pt : Int} (hp : 1 ≤ pt ∧ pt ≤ 4) : ∃ j, j ≤ l.length ∧ namesP (runP (newP l) pt).1.2.2 (digS pt) = (l.take j).map Prod.fst ∧ ((runP (newP l) pt).2 = 0 ∨ (runP (newP l) pt).2 = 3 → j = l.length) ∧ ((runP (newP l) pt).2 = 3 → pt = 4) := by
  obtain ⟨j, h1, h2, h3, h4, _⟩ := run_fresh h hp
  rw [runP_mid _ hp]
  refine ⟨j, h1, ?_, h3, h4⟩
  show namesP (runL l pt l 0 (l.map fun _ => false) [] false).2.1 (digS pt) = _
  rw [h2, run_names h j hp ⟨hp.1, by omega⟩, if_pos rfl, if_neg (fun e => by have := e.2; omega), List.append_nil]
theorem calls_len {l : List PlugD} (h : newB l = true) {pt : Int} (hp : 1 ≤ pt ∧ pt ≤ 4) : (runP (newP l) pt).1.2.2.length ≤ 1000 := by
  obtain ⟨j, h1, h2, _⟩ := run_fresh h hp
  have h64 : l.length ≤ 64 := by unfold newB at h; rw [Bool.and_eq_true] at h; exact of_decide_eq_true h.1
  rw [runP_mid _ hp]
  show (runL l pt l 0 (l.map fun _ => false) [] false).2.1.length ≤ 1000
  rw [h2, List.length_append, List.length_map, List.length_take]
  split
  · unfold unresP; rw [List.length_map, List.length_reverse, List.length_take]; omega
  · rw [List.length_nil]; omega
theorem new64 {l : List PlugD} (h : newB l = true) : l.length ≤ 64 := by unfold newB at h; rw [Bool.and_eq_true] at h; exact of_decide_eq_true h.1
end Go.Proofs.YtoacbobchngooaaDoor
namespace Go.Proofs.YtoacbobchngooaaDoor
open Go.RowKit Go.Maps
set_option linter.unusedSimpArgs false
set_option maxRecDepth 100000

def setB (x : PlugD) : PlugD := (x.1, 4, x.2.2)
def turnS (l : List PlugD) (k : Nat) : List PlugD := (l.take k).map setB ++ l.drop k
theorem turnS_len (l : List PlugD) (k : Nat) : (turnS l k).length = l.length := by unfold turnS; rw [List.length_append, List.length_map, List.length_take, List.length_drop]; omega
theorem turnS_zero (l : List PlugD) : turnS l 0 = l := by unfold turnS; simp
theorem turnS_all (l : List PlugD) : turnS l l.length = l.map setB := by unfold turnS; simp
theorem turnS_get (l : List PlugD) {k : Nat} (hk : k < l.length) : (turnS l k).getD k default = l.getD k default := by
  have h1 : ((l.take k).map setB).length = k := by rw [List.length_map, List.length_take]; omega
  unfold turnS
  rw [List.getD_eq_getElem?_getD, List.getElem?_append_right (by omega), h1, Nat.sub_self, List.getElem?_drop, Nat.add_zero, ← List.getD_eq_getElem?_getD]
theorem turnS_set (l : List PlugD) {k : Nat} (hk : k < l.length) : (turnS l k).set k (setB (l.getD k default)) = turnS l (k + 1) := by
  have h1 : ((l.take k).map setB).length = k := by rw [List.length_map, List.length_take]; omega
  unfold turnS
  rw [List.set_append_right _ _ (by omega), h1, Nat.sub_self, List.drop_eq_getElem_cons hk, List.set_cons_zero, ← take_atG hk, List.map_append, List.append_assoc]
  rfl
theorem plug_setB {B : Where} {u : World} {cs : List Value} {x : PlugD} (h : RPlug B u cs x) : RPlug B u (cs.set 1 (.int .i64 4)) (setB x) := by
  obtain ⟨a, n, c, rfl, h1, h2⟩ := h.out
  exact RPlug.mk (x := setB x) h1 h2
/-- A row's header. -/
theorem Row.formF {α : Type} [Inhabited α] {R : Rep α} {k : Nat} {A : Where} {w0 u : World} {e : TypeId} {v : Value} {L : List α} (h : Row R k A w0 u e v L) : ∃ a c, v = .slice a L.length c ∧ (0 < L.length → ∃ g, a = some ⟨g, 0, none⟩) := by
  obtain ⟨xs, ⟨_, _, ⟨rfl, h0⟩ | ⟨g, cap, cur, rfl, _⟩⟩, _⟩ := h
  · exact ⟨none, 0, by rw [h0], fun q => by omega⟩
  · exact ⟨_, _, rfl, fun _ => ⟨g, rfl⟩⟩
theorem skips_words {m : List PlugD} (h : newB m = true) (hb : ∀ x ∈ m, x.2.1 = 4) :
    (runP (newP m) 1).2 = 0 ∧ (runP (runP (newP m) 1).1 2).2 = 0 ∧ namesP (runP (runP (newP m) 1).1 2).1.2.2 (digS 2) = [] ∧ resetP (runP (runP (newP m) 1).1 2).1 = newP m ∧ (runP (newP m) 1).1.2.2.length ≤ 1000 ∧ (runP (runP (newP m) 1).1 2).1.2.2.length ≤ 1000 := by
  have hb4 := run_before m m 0 (m.map fun _ => false) [] hb (by rw [List.length_map]; omega) (fun k hk => absurd hk (Nat.not_lt_zero _))
  obtain ⟨h1, h2, h3, h4⟩ := hb4
  rw [List.length_map] at h1 h2
  have e1 : runP (newP m) 1 = ((m, (runL m 1 m 0 (m.map fun _ => false) [] false).1, (runL m 1 m 0 (m.map fun _ => false) [] false).2.1), (runL m 1 m 0 (m.map fun _ => false) [] false).2.2) := runP_mid (newP m) (by decide)
  generalize runL m 1 m 0 (m.map fun _ => false) [] false = R at h1 h2 h3 h4 e1
  have e2 : runP (m, R.1, R.2.1) 2 = ((m, R.1, R.2.1), 0) := by
    rw [runP_mid _ (by decide)]
    show ((m, (runL m 2 m 0 R.1 R.2.1 false).1, (runL m 2 m 0 R.1 R.2.1 false).2.1), (runL m 2 m 0 R.1 R.2.1 false).2.2) = _
    rw [run_filter m m 0 R.1 R.2.1 (fun k hk => h1 k (by omega))]
  rw [e1]
  have h64 := new64 h
  refine ⟨h4, by rw [e2], ?_, ?_, ?_, ?_⟩
  · rw [e2]
    show namesP R.2.1 (digS 2) = []
    have e3 : (m.map fun x => callS x.1 1) = (m.map Prod.fst).map fun s => callS s 1 := by rw [List.map_map]; rfl
    rw [h3, List.nil_append, e3, names_calls _ (by decide) (fun s hs => by
      obtain ⟨x, hx, rfl⟩ := List.mem_map.1 hs
      exact all_names h x hx) 2 (by decide), if_neg (by decide)]
  · rw [e2]
    show (m, R.1.map (fun _ => false), ([] : List ByteArray)) = (m, m.map (fun _ => false), [])
    rw [List.map_const', List.map_const', h2]
  · show R.2.1.length ≤ 1000
    rw [h3, List.nil_append, List.length_map]; omega
  · rw [e2]
    show R.2.1.length ≤ 1000
    rw [h3, List.nil_append, List.length_map]; omega
theorem skips_some {m : List PlugD} (h : newB m = true) (h0 : 0 < m.length) : 0 < (namesP (runP (newP m) 2).1.2.2 (digS 2)).length := by
  obtain ⟨j, h1, h2, h3, h4, h5⟩ := run_fresh h (pt := 2) (by decide)
  rw [runP_mid _ (by decide)]
  show 0 < (namesP (runL m 2 m 0 (m.map fun _ => false) [] false).2.1 (digS 2)).length
  rw [h2, run_names h j (by decide) (by decide), if_pos rfl, if_neg (fun e => by have := e.2; omega), List.append_nil, List.length_map, List.length_take]
  generalize (runL m 2 m 0 (m.map fun _ => false) [] false).2.2 = c at h3 h5
  by_cases hc : c = 0 ∨ c = 3
  · rw [h3 hc]; omega
  · have := (h5 ⟨fun e => hc (.inl e), fun e => hc (.inr e)⟩).1
    omega
end Go.Proofs.YtoacbobchngooaaDoor
namespace Go.Proofs.YtoacbobchngooaaDoor
open Go.RowKit Go.Maps
set_option linter.unusedSimpArgs false
set_option maxRecDepth 100000

/-- A frame of the document at p: its plugins (as they came to lie), who skips, the calls. Q: where what the plugins hold lies. -/
structure RfE (w u : World) (p : Nat) (la : Option Addr) (n lc : Nat) (b c : Value) (Q : Where) (f : FrD) : Prop where
  box : BoxL u p [.slice la n lc, b, c]
  sl : SlAt RPlug 7 80 Q u la n lc f.1
  rb : Row RBool 1 (fun _ => False) w u 4 b f.2.1
  rc : Row RTxt 1 (fun _ => False) w u 9 c f.2.2
  lo : w.heap.size ≤ p
  nq : ∀ x, Q x → x < u.heap.size ∧ x ≠ p ∧ b.ownBlock ≠ some x ∧ c.ownBlock ≠ some x
  nb : b.ownBlock ≠ some p
  nc : c.ownBlock ≠ some p
  ne : ∀ x, b.ownBlock = some x → c.ownBlock ≠ some x
/-- What a call of the document's frame may turn. -/
def DF (p : Nat) (b c : Value) : Where := fun x => x = p ∨ b.ownBlock = some x ∨ c.ownBlock = some x
section
variable {w u : World} {p : Nat} {la : Option Addr} {n lc : Nat} {b c : Value} {Q : Where} {f : FrD}
theorem RfE.below (h : RfE w u p la n lc b c Q f) : Below w.heap.size w u := h.rb.below
theorem RfE.on (h : RfE w u p la n lc b c Q f) {u' : World} (hb : Below u.heap.size u u') : RfE w u' p la n lc b c Q f :=
  ⟨h.box.on hb, h.sl.on RPlug.firm hb, h.rb.on RBool.firm hb, h.rc.on RTxt.firm hb, h.lo, fun x hx => ⟨Nat.lt_of_lt_of_le (h.nq x hx).1 hb.size, (h.nq x hx).2⟩, h.nb, h.nc, h.ne⟩
/-- In a world where nothing of it has turned. -/
theorem RfE.same (h : RfE w u p la n lc b c Q f) {u' : World} (hw : Below w.heap.size w u') (hk : Kept (fun x => DF p b c x ∨ Q x) u u') : RfE w u' p la n lc b c Q f :=
  ⟨h.box.kept (A := fun x => DF p b c x ∨ Q x) hk (.inl (.inl rfl)), h.sl.kept RPlug.firm (hk.weak fun _ hx => .inr hx), h.rb.keptXG RBool.firm hw (hk.weak fun _ hx => .inl (.inr (.inl (hx.elim (fun q => q.elim) id)))), h.rc.keptXG RTxt.firm hw (hk.weak fun _ hx => .inl (.inr (.inr (hx.elim (fun q => q.elim) id)))), h.lo, fun x hx => ⟨Nat.lt_of_lt_of_le (h.nq x hx).1 hk.1, (h.nq x hx).2⟩, h.nb, h.nc, h.ne⟩
/-- The calls are other ones, in a world where nothing else has turned. -/
theorem RfE.newC (h : RfE w u p la n lc b c Q f) {u' : World} {v' : Value} {C' : List ByteArray} (hk : Kept (fun x => c.ownBlock ≠ some x) u u') (hr : Row RTxt 1 (fun _ => False) w u' 9 v' C') (hw : v'.ownBlock = c.ownBlock ∨ ∀ x, v'.ownBlock = some x → u.heap.size ≤ x) : RfE w (u'.setCell ⟨p, 2, none⟩ v') p la n lc b v' Q (f.1, f.2.1, C') := by
  have hp : p < u.heap.size := h.box.1
  have bp : w.heap.size ≤ (⟨p, 2, none⟩ : Addr).block := h.lo
  have hvp : v'.ownBlock ≠ some p := fun e => by
    rcases hw with e2 | e2
    · rw [e2] at e; exact h.nc e
    · have := e2 p e; omega
  have k2 : ∀ {A : Where}, ¬ A p → Kept A u' (u'.setCell ⟨p, 2, none⟩ v') := fun {A} hn => Kept.set (p := ⟨p, 2, none⟩) hn _
  refine ⟨?_, ?_, ?_, hr.keptXG RTxt.firm (hr.below.setCell (p := ⟨p, 2, none⟩) bp _) (k2 (fun e => e.elim id hvp)), h.lo, fun x hx => ?_, h.nb, hvp, fun x e => ?_⟩
  · exact (h.box.kept (A := fun x => c.ownBlock ≠ some x) hk h.nc).set 2 v' (by simp)
  · exact h.sl.kept RPlug.firm ((hk.weak fun x hx => (h.nq x hx).2.2.2).trans (k2 fun e => (h.nq p e).2.1 rfl))
  · refine h.rb.keptXG RBool.firm (hr.below.setCell (p := ⟨p, 2, none⟩) bp _) ((hk.weak (fun x e => ?_)).trans (k2 (fun e => e.elim id h.nb)))
    exact e.elim (fun q => q.elim) (fun e4 => h.ne x e4)
  · have hx0 := h.nq x hx
    refine ⟨?_, hx0.2.1, hx0.2.2.1, fun e => ?_⟩
    · have h1 : u.heap.size ≤ u'.heap.size := hk.1
      have h2 : (u'.setCell ⟨p, 2, none⟩ v').heap.size = u'.heap.size := by simp
      rw [h2]; omega
    · rcases hw with e2 | e2
      · rw [e2] at e; exact hx0.2.2.2 e
      · have := e2 x e; omega
  · rcases hw with e2 | e2
    · rw [e2]; exact h.ne x e
    · intro e3
      have h1 := e2 x e3
      have := (h.rb.lt e).2
      omega
/-- Plugin i skips, or not. -/
theorem RfE.setB {g n' k : Nat} (h : RfE w u p la n lc (.slice (some ⟨g, 0, none⟩) n' k) c Q f) (hn : f.2.1.length = n') {i : Nat} (hi : i < n') (x : Bool) : RfE w (u.setCell ⟨g, i, none⟩ (.bool x)) p la n lc (.slice (some ⟨g, 0, none⟩) n' k) c Q (f.1, f.2.1.set i x, f.2.2) := by
  subst hn
  have hg : g ≠ p := fun e => h.nb (by rw [e]; rfl)
  have lg : w.heap.size ≤ (⟨g, i, none⟩ : Addr).block := (h.rb.lt (b := g) rfl).1
  have r := h.rb.setG RBool.firm (i := i) (j := 0) (val := .bool x) (x := x) hi (by decide) (fun B cs hr => by obtain rfl : cs = _ := hr; rfl)
  rw [Nat.mul_one, Nat.add_zero] at r
  refine ⟨h.box.kept (A := fun b => b = p) (Kept.set (p := ⟨g, i, none⟩) hg _) rfl, h.sl.kept RPlug.firm (Kept.set (p := ⟨g, i, none⟩) (fun e => (h.nq g e).2.2.1 rfl) _), r, ?_, h.lo, fun y hy => ⟨by simpa using (h.nq y hy).1, (h.nq y hy).2⟩, h.nb, h.nc, h.ne⟩
  exact h.rc.keptXG RTxt.firm (h.below.setCell (p := ⟨g, i, none⟩) lg _) (Kept.set (p := ⟨g, i, none⟩) (fun e => e.elim id (fun e => h.ne g rfl e)) _)
theorem RfE.cells (h : RfE w u p la n lc b c Q f) : (u.cell? ⟨p, 0, none⟩ = some (.slice la n lc) ∧ u.cell? ⟨p, 1, none⟩ = some b ∧ u.cell? ⟨p, 2, none⟩ = some c) ∧ u.frozen? ⟨p, 2, none⟩ = false := ⟨⟨(h.box.2 0 _ rfl).1, (h.box.2 1 _ rfl).1, (h.box.2 2 _ rfl).1⟩, (h.box.2 2 _ rfl).2⟩
/-- Plugin i, in its cells. -/
theorem RfE.plug (h : RfE w u p la n lc b c Q f) {i : Nat} (hi : i < n) : ∃ D off sa sn sc, la = some ⟨D, off, none⟩ ∧ D < u.heap.size ∧ u.rangeAt D (off + i * 7) [.string (f.1.getD i default).1, .int .i64 (f.1.getD i default).2.1, .int .i64 (f.1.getD i default).2.2.1, .int .i64 (f.1.getD i default).2.2.2.1, .int .i64 (f.1.getD i default).2.2.2.2.1, .int .i64 (plW (f.1.getD i default)), .slice sa sn sc] ∧ (f.1.getD i default).1.size ≤ 140737488355328 ∧ SlAt RInt 1 8 Q u sa sn sc (plS (f.1.getD i default)) := by
  obtain ⟨D, off, e, hD, _, cs, hr, hv⟩ := h.sl.get hi
  obtain ⟨sa, sn, sc, rfl, h1, h2⟩ := hr.out
  exact ⟨D, off, sa, sn, sc, e, hD, hv, h1, h2⟩
end
end Go.Proofs.YtoacbobchngooaaDoor
namespace Go.Proofs.YtoacbobchngooaaDoor
open Go.RowKit
set_option linter.unusedSimpArgs false

section
variable {P : Program} {md : Region.Mode} {ops : Array Oper} {Q : Exit → Act → World → Prop} {S : World → Prop} {oi : Oper} {d fuel : Nat} {listed : Array Bool} {a : Act} {w : World}
/-- Operation i is taken first; whether it runs is said by hy. -/
theorem tq (i : Nat) (v : Value) (hy : YieldsIf P ops S oi v a) (h : wpAnyH P md ops (NoPanic Q) S fuel (listed.setIfInBounds i true) (a.put (some d) v) w)
    (hi : ops[i]? = some oi := by rfl) (hd : oi.dst = some d := by rfl) (hb : (Region.noSelect ops && (Region.free md ops listed i && (Region.ready md ops listed).contains i)) = true := by kernel_rfl) (hS : S w := by assumption) : wpAnyH P md ops (NoPanic Q) S (fuel + 1) listed a w :=
  wpAnyH_take hi (Bool.and_eq_true _ _ ▸ hb).1 (Bool.and_eq_true _ _ ▸ (Bool.and_eq_true _ _ ▸ hb).2).1 (Bool.and_eq_true _ _ ▸ (Bool.and_eq_true _ _ ▸ hb).2).2 (fun _ _ _ h => h) hy hS (hd ▸ h)
/-- Operation i is taken first; it runs. -/
theorem tk (i : Nat) {v : Value} (hy : ∀ u, S u → (execOp a.eval oi).run P u = .ok (.value v) u) (h : wpAnyH P md ops (NoPanic Q) S fuel (listed.setIfInBounds i true) (a.put (some d) v) w)
    (hi : ops[i]? = some oi := by rfl) (hd : oi.dst = some d := by rfl) (hb : (Region.noSelect ops && (Region.free md ops listed i && (Region.ready md ops listed).contains i)) = true := by kernel_rfl) (hw : Region.wanted oi (yielded ops a.tmps) = true := by rfl) (hS : S w := by assumption) : wpAnyH P md ops (NoPanic Q) S (fuel + 1) listed a w :=
  tq i v (.inl ⟨hw, hy⟩) h hi hd hb hS
/-- Operation i is taken first; its guard says no. -/
theorem tn (i : Nat) (h : wpAnyH P md ops (NoPanic Q) S fuel (listed.setIfInBounds i true) (a.put (some d) undef) w)
    (hi : ops[i]? = some oi := by rfl) (hd : oi.dst = some d := by rfl) (hb : (Region.noSelect ops && (Region.free md ops listed i && (Region.ready md ops listed).contains i)) = true := by kernel_rfl) (hw : Region.wanted oi (yielded ops a.tmps) = false := by rfl) (hS : S w := by assumption) : wpAnyH P md ops (NoPanic Q) S (fuel + 1) listed a w :=
  tq i undef (.inr ⟨hw, rfl⟩) h hi hd hb hS
/-- Operation i is taken first; it runs, whatever the world. -/
theorem tp (i : Nat) {v : Value} (h : wpAnyH P md ops (NoPanic Q) S fuel (listed.setIfInBounds i true) (a.put (some d) v) w)
    (hi : ops[i]? = some oi := by rfl) (hd : oi.dst = some d := by rfl) (hb : (Region.noSelect ops && (Region.free md ops listed i && (Region.ready md ops listed).contains i)) = true := by kernel_rfl) (hw : Region.wanted oi (yielded ops a.tmps) = true := by rfl)
    (hy : ∀ u, (execOp a.eval oi).run P u = .ok (.value v) u := by intro u; go_simp; try with_reducible rfl) (hS : S w := by assumption) : wpAnyH P md ops (NoPanic Q) S (fuel + 1) listed a w :=
  tk i (fun u _ => hy u) h hi hd hb hw hS
/-- Operation i alone may come up; it writes slot d. -/
theorem tr (i : Nat) (h : ∀ K' : Act → World → Prop, Shut (∀ v w, S w → (S w → wpAnyH P md ops Q S fuel (listed.setIfInBounds i true) (a.put (some d) v) w) → K' (a.put oi.dst v) w) → if Region.wanted oi (yielded ops a.tmps) = true then Oper.wp P oi a w K' Q else K' (a.put oi.dst undef) w)
    (hi : ops[i]? = some oi := by rfl) (hd : oi.dst = some d := by rfl) (hr : Region.ready md ops listed = [i] := by kernel_rfl) : wpAnyH P md ops Q S (fuel + 1) listed a w :=
  wpAnyH_ready hr (by simp) (AllReadyH.cons hi (fun K' hK => h K' (fun v w h1 h2 => hK.out _ w h1 (fun h3 => hd ▸ h2 h3))) AllReadyH.nil)
/-- Operation i alone may come up; it writes no slot. -/
theorem ts (i : Nat) (h : ∀ K' : Act → World → Prop, Shut (∀ v w, S w → (S w → wpAnyH P md ops Q S fuel (listed.setIfInBounds i true) a w) → K' (a.put oi.dst v) w) → if Region.wanted oi (yielded ops a.tmps) = true then Oper.wp P oi a w K' Q else K' (a.put oi.dst undef) w)
    (hi : ops[i]? = some oi := by rfl) (hd : oi.dst = none := by rfl) (hr : Region.ready md ops listed = [i] := by kernel_rfl) : wpAnyH P md ops Q S (fuel + 1) listed a w :=
  wpAnyH_ready hr (by simp) (AllReadyH.cons hi (fun K' hK => h K' (fun v w h1 h2 => hK.out _ w h1 (fun h3 => by rw [hd]; exact h2 h3))) AllReadyH.nil)
/-- The end of a region. -/
theorem tz (h : Q .normal a w) (hr : Region.ready md ops listed = [] := by kernel_rfl) : wpAnyH P md ops (NoPanic Q) S fuel listed a w := wpAnyH_done hr (NoPanic.normal h) _
/-- Its beginning. -/
theorem t0 {id : Nat} (S : World → Prop) (hS : S w.drew) (h : S w.drew → wpAnyH P .any ops (NoPanic Q) S ops.size (Array.replicate ops.size false) a w.drew) (hm : P.follows .mixedOrders = true := by kernel_rfl) : (Code.region id ops true).wp P Q a w :=
  wp_region_noPanic (wp_region_held_drew hm hS h)
end
end Go.Proofs.YtoacbobchngooaaDoor
