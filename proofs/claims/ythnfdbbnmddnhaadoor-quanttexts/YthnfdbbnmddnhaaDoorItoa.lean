/- The document's own Itoa (of amounts) and Print return the digits and the amount's text, and change nothing that was there. No condition. -/
import Derived.Test.YthnfdbbnmddnhaaDoorRParse
namespace Go.Proofs.YthnfdbbnmddnhaaDoor
open Go.RowKit

def decZ (m : Nat) : List UInt8 := if m = 0 then [] else Lib.decDigits m
theorem decZ_zero : decZ 0 = [] := rfl
theorem decDigits_step (u : Nat) (h : ¬ u < 10) : Lib.decDigits u = Lib.decDigits (u / 10) ++ [UInt8.ofNat (48 + u % 10)] := by
  rw [Lib.decDigits, dif_neg h]
theorem decZ_step (m : Nat) (h : m ≠ 0) : decZ m = decZ (m / 10) ++ [UInt8.ofNat (48 + m % 10)] := by
  unfold decZ
  rw [if_neg h]
  by_cases h10 : m < 10
  · rw [if_pos (by omega), Lib.decDigits_one h10, Nat.mod_eq_of_lt h10]
    rfl
  · rw [if_neg (by omega), decDigits_step m h10]

theorem bytes_cons (c : UInt8) (l : List UInt8) : ({ data := #[c] } ++ { data := l.toArray } : ByteArray) = { data := (c :: l).toArray } := by
  apply ByteArray.ext
  simp
theorem dig_int (m : Nat) : 48 + (m : Int) % 10 = ((UInt8.ofNat (48 + m % 10)).toNat : Int) := by
  rw [UInt8.toNat_ofNat']
  omega

theorem conv_one (w : World) (v : Int) (c : UInt8) (hv : v = (c.toNat : Int)) :
    Sem.run Tryd.prog (convert 52 9 (Value.slice (some { block := w.heap.size, off := 0 }) 1 1)) (w.alloc (Obj.cells #[Value.int IntKind.u8 v] 5)) =
      .ok (.string ⟨#[c]⟩) (w.alloc (Obj.cells #[Value.int IntKind.u8 v] 5)) := by
  refine run_convert_bytes_back _ 52 9 5 ⟨w.heap.size, 0, none⟩ 1 [c] Tryd.underlying52 Tryd.underlying5 Tryd.underlying9 ?_
  intro j hj
  obtain rfl : j = 0 := by simpa using hj
  show (w.alloc _).cell? ⟨w.heap.size, 0, none⟩ = _
  rw [World.cell?_alloc_new, hv]
  rfl

set_option maxHeartbeats 1000000 in
theorem itoa_calls (n : Int) (w : World) (h0 : 0 < n) (h1 : n ≤ 1125899906842624) : Calls Tryd.prog 38 #[.int .i64 n] w fun e w' => e = .returned (.string ⟨(Lib.decDigits n.toNat).toArray⟩) ∧ Below w.heap.size w w' := by
  have e0 : (n == 0) = false := by rw [beq_eq_false_iff_ne]; omega
  have e1 : decide (n < 0) = false := by simp; omega
  have HL : Hid ((Lib.decDigits n.toNat).length ≤ 21) := by
    have h := Lib.itoa_length_le n (by omega) (by omega)
    rw [itoa_nat (by omega)] at h
    exact h
  go_enter Tryd.func38, Tryd.ntmps38
  go_wp2
  go_loopw [0, 3] (fun v s wr => ∃ (m : Nat) (l : List UInt8), v = .int .i64 m ∧ s = .string ⟨l.toArray⟩ ∧ m ≤ 1125899906842624 ∧ Hid (decZ m ++ l = Lib.decDigits n.toNat) ∧ l.length ≤ 21 ∧ Below w.heap.size w wr) (fun v _ _ => (intOf v).toNat)
  case atStart =>
    refine ⟨n.toNat, [], ?_, rfl, by omega, ?_, by simp, Below.refl _ _⟩
    · rw [Int.toNat_of_nonneg (by omega)]
    · unfold Hid decZ
      rw [if_neg (by omega), List.append_nil]
  case round =>
    obtain ⟨m, l, rfl, rfl, hm, hdec, hl, hbel⟩ := hrel
    by_cases hz : m = 0
    · subst hz
      have HD : Hid (l = Lib.decDigits n.toNat) := hdec
      go_wp2
      go_ret
      exact ⟨ret_str (by rw [HD.out]), hbel⟩
    · have z0 : ((m : Int) != 0) = true := by rw [bne_iff_ne]; omega
      obtain ⟨c, Hc, hci⟩ : ∃ c : UInt8, Hid (c = UInt8.ofNat (48 + m % 10)) ∧ 48 + (m : Int) % 10 = (c.toNat : Int) := ⟨_, rfl, dig_int m⟩
      have hc := conv_one wr (48 + (m : Int) % 10) c hci
      clear hci
      have HS : Hid (decZ (m / 10) ++ (c :: l) = Lib.decDigits n.toNat) := by
        have h := hdec.out
        rw [decZ_step m hz, ← Hc.out, List.append_assoc] at h
        exact h
      have hl' : (c :: l).length ≤ 21 := by
        have h := congrArg List.length HS.out
        rw [List.length_append] at h
        have := HL.out
        omega
      go_wp2
      exact ⟨⟨m / 10, c :: l, by go_num, congrArg Value.string (bytes_cons c l), by omega, HS, hl', hbel.alloc hbel.size _⟩, by simp [intOf]; omega⟩

theorem itoa_zero (w : World) : Calls Tryd.prog 38 #[.int .i64 0] w fun e w' => e = .returned (.string ⟨(Lib.decDigits 0).toArray⟩) ∧ w' = w := by
  have HD : Hid (Lib.decDigits 0 = [48]) := Lib.decDigits_one (by omega)
  go_enter Tryd.func38, Tryd.ntmps38
  go_wp2
  go_ret
  exact ⟨ret_str (by rw [HD.out]), rfl⟩
theorem ritoa_calls (n : Int) (w : World) (h0 : 0 ≤ n) (h1 : n ≤ 1125899906842624) : Calls Tryd.prog 38 #[.int .i64 n] w fun e w' => e = .returned (.string ⟨(Lib.decDigits n.toNat).toArray⟩) ∧ Below w.heap.size w w' := by
  by_cases h : n = 0
  · subst h
    exact (itoa_zero w).mono fun e w' ⟨he, hw⟩ => ⟨he, by rw [hw]; exact Below.refl _ _⟩
  · exact itoa_calls n w (by omega) h1

theorem decDigits_le (n : Int) (h0 : 0 ≤ n) (h1 : n ≤ 1125899906842624) : (Lib.decDigits n.toNat).length ≤ 21 := by
  have h := Lib.itoa_length_le n (by omega) (by omega)
  rwa [itoa_nat h0] at h

set_option maxHeartbeats 1000000 in
theorem rprint_calls (a : Int) (w : World) : Calls Tryd.prog 23 #[.int .i64 a] w fun e w' => e = .returned (.string ⟨(printL a).toArray⟩) ∧ Below w.heap.size w w' := by
  have h1 := clampI_ge a; have h2 := clampI_le a
  have hil := decDigits_le (clampI a) h1 h2
  by_cases hr : clampI a % 1000 = 0
  · have hr' : (clampI a % 1000 == 0) = true := by simpa using hr
    have HP : Hid (printL a = Lib.decDigits (clampI a / 1000).toNat) := by unfold Hid printL; rw [if_pos hr]
    clear hr
    go_enter Tryd.func23, Tryd.ntmps23
    go_wp2_with (first | (go_at_call 10; refine (rclamp_calls _ _).mono ?_; rintro e w' ⟨rfl, rfl⟩) | (go_at_call 38; refine (ritoa_calls _ _ (by omega) (by omega)).mono ?_; rintro e w1 ⟨rfl, hb⟩))
    go_ret
    exact ⟨ret_str (by rw [HP.out]), hb⟩
  · have hr' : (clampI a % 1000 == 0) = false := by simpa using hr
    have HP : Hid (printL a = Lib.decDigits (clampI a).toNat ++ [109]) := by unfold Hid printL; rw [if_neg hr]
    clear hr
    go_enter Tryd.func23, Tryd.ntmps23
    go_wp2_with (first | (go_at_call 10; refine (rclamp_calls _ _).mono ?_; rintro e w' ⟨rfl, rfl⟩) | (go_at_call 38; refine (ritoa_calls _ _ (by omega) (by omega)).mono ?_; rintro e w1 ⟨rfl, hb⟩))
    go_ret
    exact ⟨ret_str (by rw [HP.out, bytes_m]), hb⟩
end Go.Proofs.YthnfdbbnmddnhaaDoor
