/- Lists are written on a sheet, one by one. Condition: how one is written. -/
import Derived.Test.YtfnafgmengefaaaGreatDoorQ19
namespace Go.Proofs.YtfnafgmengefaaaGreatDoor
open Go.RowKit
set_option linter.unusedSimpArgs false
set_option maxRecDepth 100000

theorem getD_mem9 {α : Type} [Inhabited α] {L : List α} {k : Nat} (hk : k < L.length) : L.getD k default ∈ L := by
  rw [List.getD_eq_getElem?_getD, List.getElem?_eq_getElem hk]; exact List.getElem_mem hk
set_option maxHeartbeats 4000000 in
theorem listLabel_writes (H1 : Writes 79 RLabel valA eLab (fun _ => True)) : WritesL 78 79 RLabel 2 32 eLab (fun _ => True) := by
  rintro B sb w bs A a n cap L hS hT hL hA hok hl
  have hlen : Hid (L.length = n) := hL.1
  have hn : n < 140737488355328 := by have := hL.2.2.2.1; omega
  have hle : (eN (L.length : Int)).length + (L.flatMap eLab).length = (eL eLab L).length := by simp [eL]
  have HN := number_calls hS hT (n : Int) (by omega) (by omega) (by omega)
  have HT : Hid (TB B w) := hT
  have HL : Hid (SlAt RLabel 2 32 A w a n cap L) := hL
  have HK : Hid (∀ x ∈ L, (fun _ => True) x) := hok
  have HH1 : Hid (Writes 79 RLabel valA eLab (fun _ => True)) := H1
  clear hS hT hL hok H1
  go_enter Tryz.func78, Tryz.ntmps78
  go_wp2_with fail
  refine HN.mono ?_
  clear HN
  rintro e w1 ⟨rfl, hS1, hf1⟩
  have HS1 : Hid (SheetAt B w1 sb (bs ++ eN n) ∧ Fr B sb w w1) := ⟨hS1, hf1⟩
  clear hS1 hf1
  go_wp2_with fail
  go_loopw [14] (fun i wr => ∃ k : Nat, k ≤ n ∧ i = .int .i64 k ∧ Hid (SheetAt B wr sb (bs ++ eN n ++ (L.take k).flatMap eLab) ∧ Fr B sb w wr)) (fun i _ => n - (intOf i).toNat)
  case atStart => exact ⟨0, Nat.zero_le _, rfl, by rw [Hid]; simpa using HS1.out⟩
  case round =>
    obtain ⟨k, hk, rfl, hs⟩ := hrel
    by_cases hlt : k < n
    ·
      have hkl : k < L.length := by rw [hlen.out]; exact hlt
      obtain ⟨D, off, rfl, hD, hAD, cs, hr, hv⟩ := (HL.out.kept RLabel.firm (hs.out.2.kept hA)).get hlt
      have hokx := HK.out _ (getD_mem9 hkl)
      have HT1 : Hid ((L.take (k + 1)).flatMap eLab = (L.take k).flatMap eLab ++ eLab (L.getD k default)) := eL_take eLab hkl
      have hle2 : ((L.take k).flatMap eLab).length + (eLab (L.getD k default)).length ≤ (L.flatMap eLab).length := by have := eL_le eLab L (k + 1); rw [HT1.out, List.length_append] at this; exact this
      generalize L.getD k default = x at hr hokx HT1 hle2
      rw [hlen.out] at hle
      have hlim : (bs ++ eN n ++ (L.take k).flatMap eLab).length + (eLab x).length ≤ 70368744170000 := by simp only [List.length_append]; omega
      obtain ⟨rfl, _, _⟩ := hr.out
      try simp only at hr hv
      have d0 := hv 0 _ rfl
      have d1 := hv 1 _ rfl
      rw [Nat.add_zero] at d0
      have HC := HH1.out B sb (wr.alloc (.cells #[.string x.1, .string x.2] 55)) _ A [.string x.1, .string x.2] x (hs.out.1.alloc _) ((TB.on HT.out hs.out.2).alloc hs.out.1.le _) (RLabel.firm.kept hr (Kept.alloc _ _ _)) hA hokx hlim
      have HFr : Hid (Fr B sb w (wr.alloc (.cells #[.string x.1, .string x.2] 55))) := hs.out.2.alloc hs.out.1.le _
      simp only [valA] at HC
      clear hr hv hs hokx hle2 hlim
      go_wp2_with fail
      refine HC.mono ?_
      rintro e w2 ⟨rfl, hS2, hf2⟩
      have HS2 : Hid (SheetAt B w2 sb (bs ++ eN n ++ (L.take (k + 1)).flatMap eLab) ∧ Fr B sb w w2) := ⟨by rw [HT1.out, ← List.append_assoc]; exact hS2, HFr.out.trans hf2⟩
      clear hS2 hf2 HC HFr HT1
      go_wp2_with fail
      go_roundw
      case rel => exact ⟨k + 1, by omega, by go_num, HS2⟩
      case measure => simp [intOf]; omega
    ·
      have htk : L.take k = L := List.take_of_length_le (by rw [hlen.out]; omega)
      have HE : Hid (SheetAt B wr sb (bs ++ eL eLab L) ∧ Fr B sb w wr) := by
        have h := hs.out; rw [htk] at h; unfold eL; rw [hlen.out, ← List.append_assoc]; exact h
      clear hs htk
      go_wp2_with fail
      go_end0
      exact ⟨rfl, HE.out⟩
set_option maxHeartbeats 4000000 in
theorem listReq_writes (H1 : Writes 87 RReq valA eReq okReq) : WritesL 86 87 RReq 3 48 eReq okReq := by
  rintro B sb w bs A a n cap L hS hT hL hA hok hl
  have hlen : Hid (L.length = n) := hL.1
  have hn : n < 140737488355328 := by have := hL.2.2.2.1; omega
  have hle : (eN (L.length : Int)).length + (L.flatMap eReq).length = (eL eReq L).length := by simp [eL]
  have HN := number_calls hS hT (n : Int) (by omega) (by omega) (by omega)
  have HT : Hid (TB B w) := hT
  have HL : Hid (SlAt RReq 3 48 A w a n cap L) := hL
  have HK : Hid (∀ x ∈ L, okReq x) := hok
  have HH1 : Hid (Writes 87 RReq valA eReq okReq) := H1
  clear hS hT hL hok H1
  go_enter Tryz.func86, Tryz.ntmps86
  go_wp2_with fail
  refine HN.mono ?_
  clear HN
  rintro e w1 ⟨rfl, hS1, hf1⟩
  have HS1 : Hid (SheetAt B w1 sb (bs ++ eN n) ∧ Fr B sb w w1) := ⟨hS1, hf1⟩
  clear hS1 hf1
  go_wp2_with fail
  go_loopw [14] (fun i wr => ∃ k : Nat, k ≤ n ∧ i = .int .i64 k ∧ Hid (SheetAt B wr sb (bs ++ eN n ++ (L.take k).flatMap eReq) ∧ Fr B sb w wr)) (fun i _ => n - (intOf i).toNat)
  case atStart => exact ⟨0, Nat.zero_le _, rfl, by rw [Hid]; simpa using HS1.out⟩
  case round =>
    obtain ⟨k, hk, rfl, hs⟩ := hrel
    by_cases hlt : k < n
    ·
      have hkl : k < L.length := by rw [hlen.out]; exact hlt
      obtain ⟨D, off, rfl, hD, hAD, cs, hr, hv⟩ := (HL.out.kept RReq.firm (hs.out.2.kept hA)).get hlt
      have hokx := HK.out _ (getD_mem9 hkl)
      have HT1 : Hid ((L.take (k + 1)).flatMap eReq = (L.take k).flatMap eReq ++ eReq (L.getD k default)) := eL_take eReq hkl
      have hle2 : ((L.take k).flatMap eReq).length + (eReq (L.getD k default)).length ≤ (L.flatMap eReq).length := by have := eL_le eReq L (k + 1); rw [HT1.out, List.length_append] at this; exact this
      generalize L.getD k default = x at hr hokx HT1 hle2
      rw [hlen.out] at hle
      have hlim : (bs ++ eN n ++ (L.take k).flatMap eReq).length + (eReq x).length ≤ 70368744170000 := by simp only [List.length_append]; omega
      obtain ⟨⟨h1, h2, h3⟩, rfl, _, _⟩ := hr.out
      try simp only at hr hv
      have d0 := hv 0 _ rfl
      have d1 := hv 1 _ rfl
      have d2 := hv 2 _ rfl
      rw [Nat.add_zero] at d0
      have HC := HH1.out B sb (wr.alloc (.cells #[.string x.1, .int .i64 x.2.1, .slice h1 h2 h3] 108)) _ A [.string x.1, .int .i64 x.2.1, .slice h1 h2 h3] x (hs.out.1.alloc _) ((TB.on HT.out hs.out.2).alloc hs.out.1.le _) (RReq.firm.kept hr (Kept.alloc _ _ _)) hA hokx hlim
      have HFr : Hid (Fr B sb w (wr.alloc (.cells #[.string x.1, .int .i64 x.2.1, .slice h1 h2 h3] 108))) := hs.out.2.alloc hs.out.1.le _
      simp only [valA] at HC
      clear hr hv hs hokx hle2 hlim
      go_wp2_with fail
      refine HC.mono ?_
      rintro e w2 ⟨rfl, hS2, hf2⟩
      have HS2 : Hid (SheetAt B w2 sb (bs ++ eN n ++ (L.take (k + 1)).flatMap eReq) ∧ Fr B sb w w2) := ⟨by rw [HT1.out, ← List.append_assoc]; exact hS2, HFr.out.trans hf2⟩
      clear hS2 hf2 HC HFr HT1
      go_wp2_with fail
      go_roundw
      case rel => exact ⟨k + 1, by omega, by go_num, HS2⟩
      case measure => simp [intOf]; omega
    ·
      have htk : L.take k = L := List.take_of_length_le (by rw [hlen.out]; omega)
      have HE : Hid (SheetAt B wr sb (bs ++ eL eReq L) ∧ Fr B sb w wr) := by
        have h := hs.out; rw [htk] at h; unfold eL; rw [hlen.out, ← List.append_assoc]; exact h
      clear hs htk
      go_wp2_with fail
      go_end0
      exact ⟨rfl, HE.out⟩
set_option maxHeartbeats 4000000 in
theorem listBear_writes (H1 : Writes 68 RBear valA eBear okBear) : WritesL 67 68 RBear 4 48 eBear okBear := by
  rintro B sb w bs A a n cap L hS hT hL hA hok hl
  have hlen : Hid (L.length = n) := hL.1
  have hn : n < 140737488355328 := by have := hL.2.2.2.1; omega
  have hle : (eN (L.length : Int)).length + (L.flatMap eBear).length = (eL eBear L).length := by simp [eL]
  have HN := number_calls hS hT (n : Int) (by omega) (by omega) (by omega)
  have HT : Hid (TB B w) := hT
  have HL : Hid (SlAt RBear 4 48 A w a n cap L) := hL
  have HK : Hid (∀ x ∈ L, okBear x) := hok
  have HH1 : Hid (Writes 68 RBear valA eBear okBear) := H1
  clear hS hT hL hok H1
  go_enter Tryz.func67, Tryz.ntmps67
  go_wp2_with fail
  refine HN.mono ?_
  clear HN
  rintro e w1 ⟨rfl, hS1, hf1⟩
  have HS1 : Hid (SheetAt B w1 sb (bs ++ eN n) ∧ Fr B sb w w1) := ⟨hS1, hf1⟩
  clear hS1 hf1
  go_wp2_with fail
  go_loopw [14] (fun i wr => ∃ k : Nat, k ≤ n ∧ i = .int .i64 k ∧ Hid (SheetAt B wr sb (bs ++ eN n ++ (L.take k).flatMap eBear) ∧ Fr B sb w wr)) (fun i _ => n - (intOf i).toNat)
  case atStart => exact ⟨0, Nat.zero_le _, rfl, by rw [Hid]; simpa using HS1.out⟩
  case round =>
    obtain ⟨k, hk, rfl, hs⟩ := hrel
    by_cases hlt : k < n
    ·
      have hkl : k < L.length := by rw [hlen.out]; exact hlt
      obtain ⟨D, off, rfl, hD, hAD, cs, hr, hv⟩ := (HL.out.kept RBear.firm (hs.out.2.kept hA)).get hlt
      have hokx := HK.out _ (getD_mem9 hkl)
      have HT1 : Hid ((L.take (k + 1)).flatMap eBear = (L.take k).flatMap eBear ++ eBear (L.getD k default)) := eL_take eBear hkl
      have hle2 : ((L.take k).flatMap eBear).length + (eBear (L.getD k default)).length ≤ (L.flatMap eBear).length := by have := eL_le eBear L (k + 1); rw [HT1.out, List.length_append] at this; exact this
      generalize L.getD k default = x at hr hokx HT1 hle2
      rw [hlen.out] at hle
      have hlim : (bs ++ eN n ++ (L.take k).flatMap eBear).length + (eBear x).length ≤ 70368744170000 := by simp only [List.length_append]; omega
      obtain ⟨rfl, _, _⟩ := hr.out
      try simp only at hr hv
      have d0 := hv 0 _ rfl
      have d1 := hv 1 _ rfl
      have d2 := hv 2 _ rfl
      have d3 := hv 3 _ rfl
      rw [Nat.add_zero] at d0
      have HC := HH1.out B sb (wr.alloc (.cells #[.string x.1, .string x.2.1, .bool x.2.2.1, .int .i64 x.2.2.2] 92)) _ A [.string x.1, .string x.2.1, .bool x.2.2.1, .int .i64 x.2.2.2] x (hs.out.1.alloc _) ((TB.on HT.out hs.out.2).alloc hs.out.1.le _) (RBear.firm.kept hr (Kept.alloc _ _ _)) hA hokx hlim
      have HFr : Hid (Fr B sb w (wr.alloc (.cells #[.string x.1, .string x.2.1, .bool x.2.2.1, .int .i64 x.2.2.2] 92))) := hs.out.2.alloc hs.out.1.le _
      simp only [valA] at HC
      clear hr hv hs hokx hle2 hlim
      go_wp2_with fail
      refine HC.mono ?_
      rintro e w2 ⟨rfl, hS2, hf2⟩
      have HS2 : Hid (SheetAt B w2 sb (bs ++ eN n ++ (L.take (k + 1)).flatMap eBear) ∧ Fr B sb w w2) := ⟨by rw [HT1.out, ← List.append_assoc]; exact hS2, HFr.out.trans hf2⟩
      clear hS2 hf2 HC HFr HT1
      go_wp2_with fail
      go_roundw
      case rel => exact ⟨k + 1, by omega, by go_num, HS2⟩
      case measure => simp [intOf]; omega
    ·
      have htk : L.take k = L := List.take_of_length_le (by rw [hlen.out]; omega)
      have HE : Hid (SheetAt B wr sb (bs ++ eL eBear L) ∧ Fr B sb w wr) := by
        have h := hs.out; rw [htk] at h; unfold eL; rw [hlen.out, ← List.append_assoc]; exact h
      clear hs htk
      go_wp2_with fail
      go_end0
      exact ⟨rfl, HE.out⟩
set_option maxHeartbeats 4000000 in
theorem listPrefer_writes (H1 : Writes 71 RPrefer valA ePrefer okPrefer) : WritesL 70 71 RPrefer 2 32 ePrefer okPrefer := by
  rintro B sb w bs A a n cap L hS hT hL hA hok hl
  have hlen : Hid (L.length = n) := hL.1
  have hn : n < 140737488355328 := by have := hL.2.2.2.1; omega
  have hle : (eN (L.length : Int)).length + (L.flatMap ePrefer).length = (eL ePrefer L).length := by simp [eL]
  have HN := number_calls hS hT (n : Int) (by omega) (by omega) (by omega)
  have HT : Hid (TB B w) := hT
  have HL : Hid (SlAt RPrefer 2 32 A w a n cap L) := hL
  have HK : Hid (∀ x ∈ L, okPrefer x) := hok
  have HH1 : Hid (Writes 71 RPrefer valA ePrefer okPrefer) := H1
  clear hS hT hL hok H1
  go_enter Tryz.func70, Tryz.ntmps70
  go_wp2_with fail
  refine HN.mono ?_
  clear HN
  rintro e w1 ⟨rfl, hS1, hf1⟩
  have HS1 : Hid (SheetAt B w1 sb (bs ++ eN n) ∧ Fr B sb w w1) := ⟨hS1, hf1⟩
  clear hS1 hf1
  go_wp2_with fail
  go_loopw [14] (fun i wr => ∃ k : Nat, k ≤ n ∧ i = .int .i64 k ∧ Hid (SheetAt B wr sb (bs ++ eN n ++ (L.take k).flatMap ePrefer) ∧ Fr B sb w wr)) (fun i _ => n - (intOf i).toNat)
  case atStart => exact ⟨0, Nat.zero_le _, rfl, by rw [Hid]; simpa using HS1.out⟩
  case round =>
    obtain ⟨k, hk, rfl, hs⟩ := hrel
    by_cases hlt : k < n
    ·
      have hkl : k < L.length := by rw [hlen.out]; exact hlt
      obtain ⟨D, off, rfl, hD, hAD, cs, hr, hv⟩ := (HL.out.kept RPrefer.firm (hs.out.2.kept hA)).get hlt
      have hokx := HK.out _ (getD_mem9 hkl)
      have HT1 : Hid ((L.take (k + 1)).flatMap ePrefer = (L.take k).flatMap ePrefer ++ ePrefer (L.getD k default)) := eL_take ePrefer hkl
      have hle2 : ((L.take k).flatMap ePrefer).length + (ePrefer (L.getD k default)).length ≤ (L.flatMap ePrefer).length := by have := eL_le ePrefer L (k + 1); rw [HT1.out, List.length_append] at this; exact this
      generalize L.getD k default = x at hr hokx HT1 hle2
      rw [hlen.out] at hle
      have hlim : (bs ++ eN n ++ (L.take k).flatMap ePrefer).length + (ePrefer x).length ≤ 70368744170000 := by simp only [List.length_append]; omega
      obtain ⟨⟨h1, h2, h3⟩, rfl, _⟩ := hr.out
      try simp only at hr hv
      have d0 := hv 0 _ rfl
      have d1 := hv 1 _ rfl
      rw [Nat.add_zero] at d0
      have HC := HH1.out B sb (wr.alloc (.cells #[.slice h1 h2 h3, .int .i64 x.2] 72)) _ A [.slice h1 h2 h3, .int .i64 x.2] x (hs.out.1.alloc _) ((TB.on HT.out hs.out.2).alloc hs.out.1.le _) (RPrefer.firm.kept hr (Kept.alloc _ _ _)) hA hokx hlim
      have HFr : Hid (Fr B sb w (wr.alloc (.cells #[.slice h1 h2 h3, .int .i64 x.2] 72))) := hs.out.2.alloc hs.out.1.le _
      simp only [valA] at HC
      clear hr hv hs hokx hle2 hlim
      go_wp2_with fail
      refine HC.mono ?_
      rintro e w2 ⟨rfl, hS2, hf2⟩
      have HS2 : Hid (SheetAt B w2 sb (bs ++ eN n ++ (L.take (k + 1)).flatMap ePrefer) ∧ Fr B sb w w2) := ⟨by rw [HT1.out, ← List.append_assoc]; exact hS2, HFr.out.trans hf2⟩
      clear hS2 hf2 HC HFr HT1
      go_wp2_with fail
      go_roundw
      case rel => exact ⟨k + 1, by omega, by go_num, HS2⟩
      case measure => simp [intOf]; omega
    ·
      have htk : L.take k = L := List.take_of_length_le (by rw [hlen.out]; omega)
      have HE : Hid (SheetAt B wr sb (bs ++ eL ePrefer L) ∧ Fr B sb w wr) := by
        have h := hs.out; rw [htk] at h; unfold eL; rw [hlen.out, ← List.append_assoc]; exact h
      clear hs htk
      go_wp2_with fail
      go_end0
      exact ⟨rfl, HE.out⟩
set_option maxHeartbeats 4000000 in
theorem listTerm_writes (H1 : Writes 74 RTerm valA eTerm okTerm) : WritesL 73 74 RTerm 2 40 eTerm okTerm := by
  rintro B sb w bs A a n cap L hS hT hL hA hok hl
  have hlen : Hid (L.length = n) := hL.1
  have hn : n < 140737488355328 := by have := hL.2.2.2.1; omega
  have hle : (eN (L.length : Int)).length + (L.flatMap eTerm).length = (eL eTerm L).length := by simp [eL]
  have HN := number_calls hS hT (n : Int) (by omega) (by omega) (by omega)
  have HT : Hid (TB B w) := hT
  have HL : Hid (SlAt RTerm 2 40 A w a n cap L) := hL
  have HK : Hid (∀ x ∈ L, okTerm x) := hok
  have HH1 : Hid (Writes 74 RTerm valA eTerm okTerm) := H1
  clear hS hT hL hok H1
  go_enter Tryz.func73, Tryz.ntmps73
  go_wp2_with fail
  refine HN.mono ?_
  clear HN
  rintro e w1 ⟨rfl, hS1, hf1⟩
  have HS1 : Hid (SheetAt B w1 sb (bs ++ eN n) ∧ Fr B sb w w1) := ⟨hS1, hf1⟩
  clear hS1 hf1
  go_wp2_with fail
  go_loopw [14] (fun i wr => ∃ k : Nat, k ≤ n ∧ i = .int .i64 k ∧ Hid (SheetAt B wr sb (bs ++ eN n ++ (L.take k).flatMap eTerm) ∧ Fr B sb w wr)) (fun i _ => n - (intOf i).toNat)
  case atStart => exact ⟨0, Nat.zero_le _, rfl, by rw [Hid]; simpa using HS1.out⟩
  case round =>
    obtain ⟨k, hk, rfl, hs⟩ := hrel
    by_cases hlt : k < n
    ·
      have hkl : k < L.length := by rw [hlen.out]; exact hlt
      obtain ⟨D, off, rfl, hD, hAD, cs, hr, hv⟩ := (HL.out.kept RTerm.firm (hs.out.2.kept hA)).get hlt
      have hokx := HK.out _ (getD_mem9 hkl)
      have HT1 : Hid ((L.take (k + 1)).flatMap eTerm = (L.take k).flatMap eTerm ++ eTerm (L.getD k default)) := eL_take eTerm hkl
      have hle2 : ((L.take k).flatMap eTerm).length + (eTerm (L.getD k default)).length ≤ (L.flatMap eTerm).length := by have := eL_le eTerm L (k + 1); rw [HT1.out, List.length_append] at this; exact this
      generalize L.getD k default = x at hr hokx HT1 hle2
      rw [hlen.out] at hle
      have hlim : (bs ++ eN n ++ (L.take k).flatMap eTerm).length + (eTerm x).length ≤ 70368744170000 := by simp only [List.length_append]; omega
      obtain ⟨⟨h1, h2, h3⟩, rfl, _, _⟩ := hr.out
      try simp only at hr hv
      have d0 := hv 0 _ rfl
      have d1 := hv 1 _ rfl
      rw [Nat.add_zero] at d0
      have HC := HH1.out B sb (wr.alloc (.cells #[.slice h1 h2 h3, .string x.2] 80)) _ A [.slice h1 h2 h3, .string x.2] x (hs.out.1.alloc _) ((TB.on HT.out hs.out.2).alloc hs.out.1.le _) (RTerm.firm.kept hr (Kept.alloc _ _ _)) hA hokx hlim
      have HFr : Hid (Fr B sb w (wr.alloc (.cells #[.slice h1 h2 h3, .string x.2] 80))) := hs.out.2.alloc hs.out.1.le _
      simp only [valA] at HC
      clear hr hv hs hokx hle2 hlim
      go_wp2_with fail
      refine HC.mono ?_
      rintro e w2 ⟨rfl, hS2, hf2⟩
      have HS2 : Hid (SheetAt B w2 sb (bs ++ eN n ++ (L.take (k + 1)).flatMap eTerm) ∧ Fr B sb w w2) := ⟨by rw [HT1.out, ← List.append_assoc]; exact hS2, HFr.out.trans hf2⟩
      clear hS2 hf2 HC HFr HT1
      go_wp2_with fail
      go_roundw
      case rel => exact ⟨k + 1, by omega, by go_num, HS2⟩
      case measure => simp [intOf]; omega
    ·
      have htk : L.take k = L := List.take_of_length_le (by rw [hlen.out]; omega)
      have HE : Hid (SheetAt B wr sb (bs ++ eL eTerm L) ∧ Fr B sb w wr) := by
        have h := hs.out; rw [htk] at h; unfold eL; rw [hlen.out, ← List.append_assoc]; exact h
      clear hs htk
      go_wp2_with fail
      go_end0
      exact ⟨rfl, HE.out⟩
set_option maxHeartbeats 4000000 in
theorem listSpread_writes (H1 : Writes 76 RSpread valA eSpread okSpread) : WritesL 75 76 RSpread 4 56 eSpread okSpread := by
  rintro B sb w bs A a n cap L hS hT hL hA hok hl
  have hlen : Hid (L.length = n) := hL.1
  have hn : n < 140737488355328 := by have := hL.2.2.2.1; omega
  have hle : (eN (L.length : Int)).length + (L.flatMap eSpread).length = (eL eSpread L).length := by simp [eL]
  have HN := number_calls hS hT (n : Int) (by omega) (by omega) (by omega)
  have HT : Hid (TB B w) := hT
  have HL : Hid (SlAt RSpread 4 56 A w a n cap L) := hL
  have HK : Hid (∀ x ∈ L, okSpread x) := hok
  have HH1 : Hid (Writes 76 RSpread valA eSpread okSpread) := H1
  clear hS hT hL hok H1
  go_enter Tryz.func75, Tryz.ntmps75
  go_wp2_with fail
  refine HN.mono ?_
  clear HN
  rintro e w1 ⟨rfl, hS1, hf1⟩
  have HS1 : Hid (SheetAt B w1 sb (bs ++ eN n) ∧ Fr B sb w w1) := ⟨hS1, hf1⟩
  clear hS1 hf1
  go_wp2_with fail
  go_loopw [14] (fun i wr => ∃ k : Nat, k ≤ n ∧ i = .int .i64 k ∧ Hid (SheetAt B wr sb (bs ++ eN n ++ (L.take k).flatMap eSpread) ∧ Fr B sb w wr)) (fun i _ => n - (intOf i).toNat)
  case atStart => exact ⟨0, Nat.zero_le _, rfl, by rw [Hid]; simpa using HS1.out⟩
  case round =>
    obtain ⟨k, hk, rfl, hs⟩ := hrel
    by_cases hlt : k < n
    ·
      have hkl : k < L.length := by rw [hlen.out]; exact hlt
      obtain ⟨D, off, rfl, hD, hAD, cs, hr, hv⟩ := (HL.out.kept RSpread.firm (hs.out.2.kept hA)).get hlt
      have hokx := HK.out _ (getD_mem9 hkl)
      have HT1 : Hid ((L.take (k + 1)).flatMap eSpread = (L.take k).flatMap eSpread ++ eSpread (L.getD k default)) := eL_take eSpread hkl
      have hle2 : ((L.take k).flatMap eSpread).length + (eSpread (L.getD k default)).length ≤ (L.flatMap eSpread).length := by have := eL_le eSpread L (k + 1); rw [HT1.out, List.length_append] at this; exact this
      generalize L.getD k default = x at hr hokx HT1 hle2
      rw [hlen.out] at hle
      have hlim : (bs ++ eN n ++ (L.take k).flatMap eSpread).length + (eSpread x).length ≤ 70368744170000 := by simp only [List.length_append]; omega
      obtain ⟨⟨h1, h2, h3⟩, rfl, _, _⟩ := hr.out
      try simp only at hr hv
      have d0 := hv 0 _ rfl
      have d1 := hv 1 _ rfl
      have d2 := hv 2 _ rfl
      have d3 := hv 3 _ rfl
      rw [Nat.add_zero] at d0
      have HC := HH1.out B sb (wr.alloc (.cells #[.string x.1, .int .i64 x.2.1, .int .i64 x.2.2.1, .slice h1 h2 h3] 76)) _ A [.string x.1, .int .i64 x.2.1, .int .i64 x.2.2.1, .slice h1 h2 h3] x (hs.out.1.alloc _) ((TB.on HT.out hs.out.2).alloc hs.out.1.le _) (RSpread.firm.kept hr (Kept.alloc _ _ _)) hA hokx hlim
      have HFr : Hid (Fr B sb w (wr.alloc (.cells #[.string x.1, .int .i64 x.2.1, .int .i64 x.2.2.1, .slice h1 h2 h3] 76))) := hs.out.2.alloc hs.out.1.le _
      simp only [valA] at HC
      clear hr hv hs hokx hle2 hlim
      go_wp2_with fail
      refine HC.mono ?_
      rintro e w2 ⟨rfl, hS2, hf2⟩
      have HS2 : Hid (SheetAt B w2 sb (bs ++ eN n ++ (L.take (k + 1)).flatMap eSpread) ∧ Fr B sb w w2) := ⟨by rw [HT1.out, ← List.append_assoc]; exact hS2, HFr.out.trans hf2⟩
      clear hS2 hf2 HC HFr HT1
      go_wp2_with fail
      go_roundw
      case rel => exact ⟨k + 1, by omega, by go_num, HS2⟩
      case measure => simp [intOf]; omega
    ·
      have htk : L.take k = L := List.take_of_length_le (by rw [hlen.out]; omega)
      have HE : Hid (SheetAt B wr sb (bs ++ eL eSpread L) ∧ Fr B sb w wr) := by
        have h := hs.out; rw [htk] at h; unfold eL; rw [hlen.out, ← List.append_assoc]; exact h
      clear hs htk
      go_wp2_with fail
      go_end0
      exact ⟨rfl, HE.out⟩
set_option maxHeartbeats 4000000 in
theorem listint_writes (H1 : Writes 66 RInt val1 eN oN) : WritesL 72 66 RInt 1 8 eN oN := by
  rintro B sb w bs A a n cap L hS hT hL hA hok hl
  have hlen : Hid (L.length = n) := hL.1
  have hn : n < 140737488355328 := by have := hL.2.2.2.1; omega
  have hle : (eN (L.length : Int)).length + (L.flatMap eN).length = (eL eN L).length := by simp [eL]
  have HN := number_calls hS hT (n : Int) (by omega) (by omega) (by omega)
  have HT : Hid (TB B w) := hT
  have HL : Hid (SlAt RInt 1 8 A w a n cap L) := hL
  have HK : Hid (∀ x ∈ L, oN x) := hok
  have HH1 : Hid (Writes 66 RInt val1 eN oN) := H1
  clear hS hT hL hok H1
  go_enter Tryz.func72, Tryz.ntmps72
  go_wp2_with fail
  refine HN.mono ?_
  clear HN
  rintro e w1 ⟨rfl, hS1, hf1⟩
  have HS1 : Hid (SheetAt B w1 sb (bs ++ eN n) ∧ Fr B sb w w1) := ⟨hS1, hf1⟩
  clear hS1 hf1
  go_wp2_with fail
  go_loopw [14] (fun i wr => ∃ k : Nat, k ≤ n ∧ i = .int .i64 k ∧ Hid (SheetAt B wr sb (bs ++ eN n ++ (L.take k).flatMap eN) ∧ Fr B sb w wr)) (fun i _ => n - (intOf i).toNat)
  case atStart => exact ⟨0, Nat.zero_le _, rfl, by rw [Hid]; simpa using HS1.out⟩
  case round =>
    obtain ⟨k, hk, rfl, hs⟩ := hrel
    by_cases hlt : k < n
    ·
      have hkl : k < L.length := by rw [hlen.out]; exact hlt
      obtain ⟨D, off, rfl, hD, hAD, cs, hr, hv⟩ := (HL.out.kept RInt.firm (hs.out.2.kept hA)).get hlt
      have hokx := HK.out _ (getD_mem9 hkl)
      have HT1 : Hid ((L.take (k + 1)).flatMap eN = (L.take k).flatMap eN ++ eN (L.getD k default)) := eL_take eN hkl
      have hle2 : ((L.take k).flatMap eN).length + (eN (L.getD k default)).length ≤ (L.flatMap eN).length := by have := eL_le eN L (k + 1); rw [HT1.out, List.length_append] at this; exact this
      generalize L.getD k default = x at hr hokx HT1 hle2
      rw [hlen.out] at hle
      have hlim : (bs ++ eN n ++ (L.take k).flatMap eN).length + (eN x).length ≤ 70368744170000 := by simp only [List.length_append]; omega
      obtain rfl : cs = [.int .i64 x] := hr
      have d0 := hv 0 _ rfl
      rw [Nat.add_zero, Nat.mul_one] at d0
      have HC := HH1.out B sb wr _ A [.int .i64 x] x hs.out.1 (TB.on HT.out hs.out.2) rfl hA hokx hlim
      have HFr : Hid (Fr B sb w wr) := hs.out.2
      simp only [val1, List.headD_cons] at HC
      clear hv hs hokx hle2 hlim
      go_wp2_with fail
      refine HC.mono ?_
      rintro e w2 ⟨rfl, hS2, hf2⟩
      have HS2 : Hid (SheetAt B w2 sb (bs ++ eN n ++ (L.take (k + 1)).flatMap eN) ∧ Fr B sb w w2) := ⟨by rw [HT1.out, ← List.append_assoc]; exact hS2, HFr.out.trans hf2⟩
      clear hS2 hf2 HC HFr HT1
      go_wp2_with fail
      go_roundw
      case rel => exact ⟨k + 1, by omega, by go_num, HS2⟩
      case measure => simp [intOf]; omega
    ·
      have htk : L.take k = L := List.take_of_length_le (by rw [hlen.out]; omega)
      have HE : Hid (SheetAt B wr sb (bs ++ eL eN L) ∧ Fr B sb w wr) := by
        have h := hs.out; rw [htk] at h; unfold eL; rw [hlen.out, ← List.append_assoc]; exact h
      clear hs htk
      go_wp2_with fail
      go_end0
      exact ⟨rfl, HE.out⟩
set_option maxHeartbeats 4000000 in
theorem liststring_writes (H1 : Writes 65 RStr val1 eS (fun _ => True)) : WritesL 77 65 RStr 1 16 eS (fun _ => True) := by
  rintro B sb w bs A a n cap L hS hT hL hA hok hl
  have hlen : Hid (L.length = n) := hL.1
  have hn : n < 140737488355328 := by have := hL.2.2.2.1; omega
  have hle : (eN (L.length : Int)).length + (L.flatMap eS).length = (eL eS L).length := by simp [eL]
  have HN := number_calls hS hT (n : Int) (by omega) (by omega) (by omega)
  have HT : Hid (TB B w) := hT
  have HL : Hid (SlAt RStr 1 16 A w a n cap L) := hL
  have HK : Hid (∀ x ∈ L, (fun _ => True) x) := hok
  have HH1 : Hid (Writes 65 RStr val1 eS (fun _ => True)) := H1
  clear hS hT hL hok H1
  go_enter Tryz.func77, Tryz.ntmps77
  go_wp2_with fail
  refine HN.mono ?_
  clear HN
  rintro e w1 ⟨rfl, hS1, hf1⟩
  have HS1 : Hid (SheetAt B w1 sb (bs ++ eN n) ∧ Fr B sb w w1) := ⟨hS1, hf1⟩
  clear hS1 hf1
  go_wp2_with fail
  go_loopw [14] (fun i wr => ∃ k : Nat, k ≤ n ∧ i = .int .i64 k ∧ Hid (SheetAt B wr sb (bs ++ eN n ++ (L.take k).flatMap eS) ∧ Fr B sb w wr)) (fun i _ => n - (intOf i).toNat)
  case atStart => exact ⟨0, Nat.zero_le _, rfl, by rw [Hid]; simpa using HS1.out⟩
  case round =>
    obtain ⟨k, hk, rfl, hs⟩ := hrel
    by_cases hlt : k < n
    ·
      have hkl : k < L.length := by rw [hlen.out]; exact hlt
      obtain ⟨D, off, rfl, hD, hAD, cs, hr, hv⟩ := (HL.out.kept RStr.firm (hs.out.2.kept hA)).get hlt
      have hokx := HK.out _ (getD_mem9 hkl)
      have HT1 : Hid ((L.take (k + 1)).flatMap eS = (L.take k).flatMap eS ++ eS (L.getD k default)) := eL_take eS hkl
      have hle2 : ((L.take k).flatMap eS).length + (eS (L.getD k default)).length ≤ (L.flatMap eS).length := by have := eL_le eS L (k + 1); rw [HT1.out, List.length_append] at this; exact this
      generalize L.getD k default = x at hr hokx HT1 hle2
      rw [hlen.out] at hle
      have hlim : (bs ++ eN n ++ (L.take k).flatMap eS).length + (eS x).length ≤ 70368744170000 := by simp only [List.length_append]; omega
      obtain ⟨rfl, hsz⟩ : cs = [.string x] ∧ x.size ≤ 140737488355328 := hr
      have d0 := hv 0 _ rfl
      rw [Nat.add_zero, Nat.mul_one] at d0
      have HC := HH1.out B sb wr _ A [.string x] x hs.out.1 (TB.on HT.out hs.out.2) ⟨rfl, hsz⟩ hA hokx hlim
      have HFr : Hid (Fr B sb w wr) := hs.out.2
      simp only [val1, List.headD_cons] at HC
      clear hv hs hokx hle2 hlim
      go_wp2_with fail
      refine HC.mono ?_
      rintro e w2 ⟨rfl, hS2, hf2⟩
      have HS2 : Hid (SheetAt B w2 sb (bs ++ eN n ++ (L.take (k + 1)).flatMap eS) ∧ Fr B sb w w2) := ⟨by rw [HT1.out, ← List.append_assoc]; exact hS2, HFr.out.trans hf2⟩
      clear hS2 hf2 HC HFr HT1
      go_wp2_with fail
      go_roundw
      case rel => exact ⟨k + 1, by omega, by go_num, HS2⟩
      case measure => simp [intOf]; omega
    ·
      have htk : L.take k = L := List.take_of_length_le (by rw [hlen.out]; omega)
      have HE : Hid (SheetAt B wr sb (bs ++ eL eS L) ∧ Fr B sb w wr) := by
        have h := hs.out; rw [htk] at h; unfold eL; rw [hlen.out, ← List.append_assoc]; exact h
      clear hs htk
      go_wp2_with fail
      go_end0
      exact ⟨rfl, HE.out⟩
end Go.Proofs.YtfnafgmengefaaaGreatDoor
