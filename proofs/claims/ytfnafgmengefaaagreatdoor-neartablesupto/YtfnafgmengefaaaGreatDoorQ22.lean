/- What a pod, and one that is placed, have in common just if they are alike: near.likeness. Condition: the numbers are numbers of Go; what is written has room. Table.made, and the calls of a table that no call made. No condition. -/
import Derived.Test.YtfnafgmengefaaaGreatDoorQ21
import Derived.Test.YtfnafgmengefaaaGreatDoorQ12
import Derived.Lib.Slices
import Derived.Laws.IdiomStrings
import Derived.Test.YtfnafgmengefaaaGreatDoorQ16
import Derived.Test.YtfnafgmengefaaaGreatDoorQ18
import Derived.Laws.Cover3
namespace Go.Proofs.YtfnafgmengefaaaGreatDoor
open Go.RowKit
set_option linter.unusedSimpArgs false
set_option maxRecDepth 100000

set_option maxHeartbeats 8000000 in
theorem pod_writes : Writes 55 RPod valA ePod okPod := by
  rintro B sb w bs A cs x hS hT hx hA ok hl
  obtain ⟨⟨a2, n2, m2⟩, ⟨a6, n6, m6⟩, ⟨a7, n7, m7⟩, ⟨a8, n8, m8⟩, ⟨a9, n9, m9⟩, ⟨a10, n10, m10⟩, ⟨a11, n11, m11⟩, ⟨a12, n12, m12⟩, ⟨a13, n13, m13⟩, rfl, z0, s2, s6, s7, s8, s9, s10, s11, s12, s13, z14, z15⟩ := hx.out
  skip
  show Calls Tryz.prog 55 #[.pointer (some ⟨sb, 0, none⟩), .agg #[.string x.1, .int .i64 x.2.1, .slice a2 n2 m2, .int .i64 x.2.2.2.1.1, .int .i64 x.2.2.2.1.2.1, .int .i64 x.2.2.2.1.2.2, .slice a6 n6 m6, .slice a7 n7 m7, .slice a8 n8 m8, .slice a9 n9 m9, .slice a10 n10 m10, .slice a11 n11 m11, .slice a12 n12 m12, .slice a13 n13 m13, .string x.2.2.2.2.2.2.2.2.2.2.2.2.1, .string x.2.2.2.2.2.2.2.2.2.2.2.2.2]] w _
  simp only [ePod, List.length_append] at hl
  simp only [okPod] at ok
  obtain ⟨U, hU⟩ : ∃ U, U = w.alloc (.cells #[.string x.1, .int .i64 x.2.1, .slice a2 n2 m2, .int .i64 x.2.2.2.1.1, .int .i64 x.2.2.2.1.2.1, .int .i64 x.2.2.2.1.2.2, .slice a6 n6 m6, .slice a7 n7 m7, .slice a8 n8 m8, .slice a9 n9 m9, .slice a10 n10 m10, .slice a11 n11 m11, .slice a12 n12 m12, .slice a13 n13 m13, .string x.2.2.2.2.2.2.2.2.2.2.2.2.1, .string x.2.2.2.2.2.2.2.2.2.2.2.2.2] 33) := ⟨_, rfl⟩
  have hD0 : U.heap[w.heap.size]? = some (.cells #[.string x.1, .int .i64 x.2.1, .slice a2 n2 m2, .int .i64 x.2.2.2.1.1, .int .i64 x.2.2.2.1.2.1, .int .i64 x.2.2.2.1.2.2, .slice a6 n6 m6, .slice a7 n7 m7, .slice a8 n8 m8, .slice a9 n9 m9, .slice a10 n10 m10, .slice a11 n11 m11, .slice a12 n12 m12, .slice a13 n13 m13, .string x.2.2.2.2.2.2.2.2.2.2.2.2.1, .string x.2.2.2.2.2.2.2.2.2.2.2.2.2] 33 (0, 0)) := by rw [hU]; exact (MapKept.heap_alloc w _).1
  have hne : w.heap.size ≠ sb := fun e => absurd hS.lt (by rw [e]; exact Nat.lt_irrefl _)
  have S0 : Hid (SheetAt B U sb bs) := by rw [Hid, hU]; exact hS.alloc _
  have F0 : Hid (Fr B sb w U) := by rw [Hid, hU]; exact (Fr.refl B sb w).alloc hS.le _
  have HT : Hid (TB B w) := hT
  have hty : (33 : TypeId) ≠ 5 := by decide
  clear hS hT hx
  go_enter Tryz.func55, Tryz.ntmps55
  go_upto_region 1 with fail
  rw [← hU]
  clear hU
  have c0 : U.cell? ⟨w.heap.size, 0, none⟩ = some (.string x.1) := by simp [World.cell?, hD0]
  have H0 := text_writes B sb U (bs) A [.string x.1] x.1 S0.out (TB.on HT.out F0.out) ⟨rfl, z0⟩ hA trivial (by (try simp only [List.length_append]); omega)
  simp only [val1, List.headD_cons] at H0
  go_wp2_with fail
  refine H0.mono ?_
  rintro e u1 ⟨rfl, hS1, hf1⟩
  have S1 : Hid (SheetAt B u1 sb (bs ++ eS x.1)) := hS1
  have F1 : Hid (Fr B sb w u1) := F0.out.trans hf1
  have hD1 := hf1.box hD0 hne hty
  clear H0 hS1 hf1 c0 hD0 S0 F0
  have c1 : u1.cell? ⟨w.heap.size, 1, none⟩ = some (.int .i64 x.2.1) := by simp [World.cell?, hD1]
  have H1 := number_writes B sb u1 (bs ++ eS x.1) A [.int .i64 (x.2.1)] (x.2.1) S1.out (TB.on HT.out F1.out) rfl hA (ok.1) (by (try simp only [List.length_append]); omega)
  simp only [val1, List.headD_cons] at H1
  go_wp2_with fail
  refine H1.mono ?_
  rintro e u2 ⟨rfl, hS2, hf2⟩
  have S2 : Hid (SheetAt B u2 sb (bs ++ eS x.1 ++ eN x.2.1)) := hS2
  have F2 : Hid (Fr B sb w u2) := F1.out.trans hf2
  have hD2 := hf2.box hD1 hne hty
  clear H1 hS2 hf2 c1 hD1 S1 F1
  have c2 : u2.cell? ⟨w.heap.size, 2, none⟩ = some (.slice a2 n2 m2) := by simp [World.cell?, hD2]
  have H2 := labels_writes B sb u2 (bs ++ eS x.1 ++ eN x.2.1) A a2 n2 m2 (x.2.2.1) S2.out (TB.on HT.out F2.out) (s2.kept RLabel.firm (F2.out.kept hA)) hA (fun _ _ => trivial) (by (try simp only [List.length_append]); omega)
  go_wp2_with fail
  refine H2.mono ?_
  rintro e u3 ⟨rfl, hS3, hf3⟩
  have S3 : Hid (SheetAt B u3 sb (bs ++ eS x.1 ++ eN x.2.1 ++ eL eLab (x.2.2.1))) := hS3
  have F3 : Hid (Fr B sb w u3) := F2.out.trans hf3
  have hD3 := hf3.box hD2 hne hty
  clear H2 hS3 hf3 c2 hD2 S2 F2
  have c3 : u3.cell? ⟨w.heap.size, 3, none⟩ = some (.int .i64 x.2.2.2.1.1) := by simp [World.cell?, hD3]
  have H3 := number_writes B sb u3 (bs ++ eS x.1 ++ eN x.2.1 ++ eL eLab (x.2.2.1)) A [.int .i64 (x.2.2.2.1.1)] (x.2.2.2.1.1) S3.out (TB.on HT.out F3.out) rfl hA (ok.2.1) (by (try simp only [List.length_append]); omega)
  simp only [val1, List.headD_cons] at H3
  go_wp2_with fail
  refine H3.mono ?_
  rintro e u4 ⟨rfl, hS4, hf4⟩
  have S4 : Hid (SheetAt B u4 sb (bs ++ eS x.1 ++ eN x.2.1 ++ eL eLab (x.2.2.1) ++ eN x.2.2.2.1.1)) := hS4
  have F4 : Hid (Fr B sb w u4) := F3.out.trans hf4
  have hD4 := hf4.box hD3 hne hty
  clear H3 hS4 hf4 c3 hD3 S3 F3
  have c4 : u4.cell? ⟨w.heap.size, 4, none⟩ = some (.int .i64 x.2.2.2.1.2.1) := by simp [World.cell?, hD4]
  have H4 := number_writes B sb u4 (bs ++ eS x.1 ++ eN x.2.1 ++ eL eLab (x.2.2.1) ++ eN x.2.2.2.1.1) A [.int .i64 (x.2.2.2.1.2.1)] (x.2.2.2.1.2.1) S4.out (TB.on HT.out F4.out) rfl hA (ok.2.2.1) (by (try simp only [List.length_append]); omega)
  simp only [val1, List.headD_cons] at H4
  go_wp2_with fail
  refine H4.mono ?_
  rintro e u5 ⟨rfl, hS5, hf5⟩
  have S5 : Hid (SheetAt B u5 sb (bs ++ eS x.1 ++ eN x.2.1 ++ eL eLab (x.2.2.1) ++ eN x.2.2.2.1.1 ++ eN x.2.2.2.1.2.1)) := hS5
  have F5 : Hid (Fr B sb w u5) := F4.out.trans hf5
  have hD5 := hf5.box hD4 hne hty
  clear H4 hS5 hf5 c4 hD4 S4 F4
  have c5 : u5.cell? ⟨w.heap.size, 5, none⟩ = some (.int .i64 x.2.2.2.1.2.2) := by simp [World.cell?, hD5]
  have H5 := number_writes B sb u5 (bs ++ eS x.1 ++ eN x.2.1 ++ eL eLab (x.2.2.1) ++ eN x.2.2.2.1.1 ++ eN x.2.2.2.1.2.1) A [.int .i64 (x.2.2.2.1.2.2)] (x.2.2.2.1.2.2) S5.out (TB.on HT.out F5.out) rfl hA (ok.2.2.2.1) (by (try simp only [List.length_append]); omega)
  simp only [val1, List.headD_cons] at H5
  go_wp2_with fail
  refine H5.mono ?_
  rintro e u6 ⟨rfl, hS6, hf6⟩
  have S6 : Hid (SheetAt B u6 sb (bs ++ eS x.1 ++ eN x.2.1 ++ eL eLab (x.2.2.1) ++ eN x.2.2.2.1.1 ++ eN x.2.2.2.1.2.1 ++ eN x.2.2.2.1.2.2)) := hS6
  have F6 : Hid (Fr B sb w u6) := F5.out.trans hf6
  have hD6 := hf6.box hD5 hne hty
  clear H5 hS6 hf6 c5 hD5 S5 F5
  have c6 : u6.cell? ⟨w.heap.size, 6, none⟩ = some (.slice a6 n6 m6) := by simp [World.cell?, hD6]
  have H6 := listBear_writes bear_writes B sb u6 (bs ++ eS x.1 ++ eN x.2.1 ++ eL eLab (x.2.2.1) ++ eN x.2.2.2.1.1 ++ eN x.2.2.2.1.2.1 ++ eN x.2.2.2.1.2.2) A a6 n6 m6 (x.2.2.2.2.1) S6.out (TB.on HT.out F6.out) (s6.kept RBear.firm (F6.out.kept hA)) hA (ok.2.2.2.2.1) (by (try simp only [List.length_append]); omega)
  go_wp2_with fail
  refine H6.mono ?_
  rintro e u7 ⟨rfl, hS7, hf7⟩
  have S7 : Hid (SheetAt B u7 sb (bs ++ eS x.1 ++ eN x.2.1 ++ eL eLab (x.2.2.1) ++ eN x.2.2.2.1.1 ++ eN x.2.2.2.1.2.1 ++ eN x.2.2.2.1.2.2 ++ eL eBear (x.2.2.2.2.1))) := hS7
  have F7 : Hid (Fr B sb w u7) := F6.out.trans hf7
  have hD7 := hf7.box hD6 hne hty
  clear H6 hS7 hf7 c6 hD6 S6 F6
  have c7 : u7.cell? ⟨w.heap.size, 7, none⟩ = some (.slice a7 n7 m7) := by simp [World.cell?, hD7]
  have H7 := reqs_writes B sb u7 (bs ++ eS x.1 ++ eN x.2.1 ++ eL eLab (x.2.2.1) ++ eN x.2.2.2.1.1 ++ eN x.2.2.2.1.2.1 ++ eN x.2.2.2.1.2.2 ++ eL eBear (x.2.2.2.2.1)) A a7 n7 m7 (x.2.2.2.2.2.1) S7.out (TB.on HT.out F7.out) (s7.kept RReq.firm (F7.out.kept hA)) hA (ok.2.2.2.2.2.1) (by (try simp only [List.length_append]); omega)
  go_wp2_with fail
  refine H7.mono ?_
  rintro e u8 ⟨rfl, hS8, hf8⟩
  have S8 : Hid (SheetAt B u8 sb (bs ++ eS x.1 ++ eN x.2.1 ++ eL eLab (x.2.2.1) ++ eN x.2.2.2.1.1 ++ eN x.2.2.2.1.2.1 ++ eN x.2.2.2.1.2.2 ++ eL eBear (x.2.2.2.2.1) ++ eL eReq (x.2.2.2.2.2.1))) := hS8
  have F8 : Hid (Fr B sb w u8) := F7.out.trans hf8
  have hD8 := hf8.box hD7 hne hty
  clear H7 hS8 hf8 c7 hD7 S7 F7
  have c8 : u8.cell? ⟨w.heap.size, 8, none⟩ = some (.slice a8 n8 m8) := by simp [World.cell?, hD8]
  have H8 := listPrefer_writes prefer_writes B sb u8 (bs ++ eS x.1 ++ eN x.2.1 ++ eL eLab (x.2.2.1) ++ eN x.2.2.2.1.1 ++ eN x.2.2.2.1.2.1 ++ eN x.2.2.2.1.2.2 ++ eL eBear (x.2.2.2.2.1) ++ eL eReq (x.2.2.2.2.2.1)) A a8 n8 m8 (x.2.2.2.2.2.2.1) S8.out (TB.on HT.out F8.out) (s8.kept RPrefer.firm (F8.out.kept hA)) hA (ok.2.2.2.2.2.2.1) (by (try simp only [List.length_append]); omega)
  go_wp2_with fail
  refine H8.mono ?_
  rintro e u9 ⟨rfl, hS9, hf9⟩
  have S9 : Hid (SheetAt B u9 sb (bs ++ eS x.1 ++ eN x.2.1 ++ eL eLab (x.2.2.1) ++ eN x.2.2.2.1.1 ++ eN x.2.2.2.1.2.1 ++ eN x.2.2.2.1.2.2 ++ eL eBear (x.2.2.2.2.1) ++ eL eReq (x.2.2.2.2.2.1) ++ eL ePrefer (x.2.2.2.2.2.2.1))) := hS9
  have F9 : Hid (Fr B sb w u9) := F8.out.trans hf9
  have hD9 := hf9.box hD8 hne hty
  clear H8 hS9 hf9 c8 hD8 S8 F8
  have c9 : u9.cell? ⟨w.heap.size, 9, none⟩ = some (.slice a9 n9 m9) := by simp [World.cell?, hD9]
  have H9 := listint_writes number_writes B sb u9 (bs ++ eS x.1 ++ eN x.2.1 ++ eL eLab (x.2.2.1) ++ eN x.2.2.2.1.1 ++ eN x.2.2.2.1.2.1 ++ eN x.2.2.2.1.2.2 ++ eL eBear (x.2.2.2.2.1) ++ eL eReq (x.2.2.2.2.2.1) ++ eL ePrefer (x.2.2.2.2.2.2.1)) A a9 n9 m9 (x.2.2.2.2.2.2.2.1) S9.out (TB.on HT.out F9.out) (s9.kept RInt.firm (F9.out.kept hA)) hA (ok.2.2.2.2.2.2.2.1) (by (try simp only [List.length_append]); omega)
  go_wp2_with fail
  refine H9.mono ?_
  rintro e u10 ⟨rfl, hS10, hf10⟩
  have S10 : Hid (SheetAt B u10 sb (bs ++ eS x.1 ++ eN x.2.1 ++ eL eLab (x.2.2.1) ++ eN x.2.2.2.1.1 ++ eN x.2.2.2.1.2.1 ++ eN x.2.2.2.1.2.2 ++ eL eBear (x.2.2.2.2.1) ++ eL eReq (x.2.2.2.2.2.1) ++ eL ePrefer (x.2.2.2.2.2.2.1) ++ eL eN (x.2.2.2.2.2.2.2.1))) := hS10
  have F10 : Hid (Fr B sb w u10) := F9.out.trans hf10
  have hD10 := hf10.box hD9 hne hty
  clear H9 hS10 hf10 c9 hD9 S9 F9
  have c10 : u10.cell? ⟨w.heap.size, 10, none⟩ = some (.slice a10 n10 m10) := by simp [World.cell?, hD10]
  have H10 := listTerm_writes term_writes B sb u10 (bs ++ eS x.1 ++ eN x.2.1 ++ eL eLab (x.2.2.1) ++ eN x.2.2.2.1.1 ++ eN x.2.2.2.1.2.1 ++ eN x.2.2.2.1.2.2 ++ eL eBear (x.2.2.2.2.1) ++ eL eReq (x.2.2.2.2.2.1) ++ eL ePrefer (x.2.2.2.2.2.2.1) ++ eL eN (x.2.2.2.2.2.2.2.1)) A a10 n10 m10 (x.2.2.2.2.2.2.2.2.1) S10.out (TB.on HT.out F10.out) (s10.kept RTerm.firm (F10.out.kept hA)) hA (ok.2.2.2.2.2.2.2.2.1) (by (try simp only [List.length_append]); omega)
  go_wp2_with fail
  refine H10.mono ?_
  rintro e u11 ⟨rfl, hS11, hf11⟩
  have S11 : Hid (SheetAt B u11 sb (bs ++ eS x.1 ++ eN x.2.1 ++ eL eLab (x.2.2.1) ++ eN x.2.2.2.1.1 ++ eN x.2.2.2.1.2.1 ++ eN x.2.2.2.1.2.2 ++ eL eBear (x.2.2.2.2.1) ++ eL eReq (x.2.2.2.2.2.1) ++ eL ePrefer (x.2.2.2.2.2.2.1) ++ eL eN (x.2.2.2.2.2.2.2.1) ++ eL eTerm (x.2.2.2.2.2.2.2.2.1))) := hS11
  have F11 : Hid (Fr B sb w u11) := F10.out.trans hf11
  have hD11 := hf11.box hD10 hne hty
  clear H10 hS11 hf11 c10 hD10 S10 F10
  have c11 : u11.cell? ⟨w.heap.size, 11, none⟩ = some (.slice a11 n11 m11) := by simp [World.cell?, hD11]
  have H11 := listTerm_writes term_writes B sb u11 (bs ++ eS x.1 ++ eN x.2.1 ++ eL eLab (x.2.2.1) ++ eN x.2.2.2.1.1 ++ eN x.2.2.2.1.2.1 ++ eN x.2.2.2.1.2.2 ++ eL eBear (x.2.2.2.2.1) ++ eL eReq (x.2.2.2.2.2.1) ++ eL ePrefer (x.2.2.2.2.2.2.1) ++ eL eN (x.2.2.2.2.2.2.2.1) ++ eL eTerm (x.2.2.2.2.2.2.2.2.1)) A a11 n11 m11 (x.2.2.2.2.2.2.2.2.2.1) S11.out (TB.on HT.out F11.out) (s11.kept RTerm.firm (F11.out.kept hA)) hA (ok.2.2.2.2.2.2.2.2.2.1) (by (try simp only [List.length_append]); omega)
  go_wp2_with fail
  refine H11.mono ?_
  rintro e u12 ⟨rfl, hS12, hf12⟩
  have S12 : Hid (SheetAt B u12 sb (bs ++ eS x.1 ++ eN x.2.1 ++ eL eLab (x.2.2.1) ++ eN x.2.2.2.1.1 ++ eN x.2.2.2.1.2.1 ++ eN x.2.2.2.1.2.2 ++ eL eBear (x.2.2.2.2.1) ++ eL eReq (x.2.2.2.2.2.1) ++ eL ePrefer (x.2.2.2.2.2.2.1) ++ eL eN (x.2.2.2.2.2.2.2.1) ++ eL eTerm (x.2.2.2.2.2.2.2.2.1) ++ eL eTerm (x.2.2.2.2.2.2.2.2.2.1))) := hS12
  have F12 : Hid (Fr B sb w u12) := F11.out.trans hf12
  have hD12 := hf12.box hD11 hne hty
  clear H11 hS12 hf12 c11 hD11 S11 F11
  have c12 : u12.cell? ⟨w.heap.size, 12, none⟩ = some (.slice a12 n12 m12) := by simp [World.cell?, hD12]
  have H12 := listSpread_writes spread_writes B sb u12 (bs ++ eS x.1 ++ eN x.2.1 ++ eL eLab (x.2.2.1) ++ eN x.2.2.2.1.1 ++ eN x.2.2.2.1.2.1 ++ eN x.2.2.2.1.2.2 ++ eL eBear (x.2.2.2.2.1) ++ eL eReq (x.2.2.2.2.2.1) ++ eL ePrefer (x.2.2.2.2.2.2.1) ++ eL eN (x.2.2.2.2.2.2.2.1) ++ eL eTerm (x.2.2.2.2.2.2.2.2.1) ++ eL eTerm (x.2.2.2.2.2.2.2.2.2.1)) A a12 n12 m12 (x.2.2.2.2.2.2.2.2.2.2.1) S12.out (TB.on HT.out F12.out) (s12.kept RSpread.firm (F12.out.kept hA)) hA (ok.2.2.2.2.2.2.2.2.2.2) (by (try simp only [List.length_append]); omega)
  go_wp2_with fail
  refine H12.mono ?_
  rintro e u13 ⟨rfl, hS13, hf13⟩
  have S13 : Hid (SheetAt B u13 sb (bs ++ eS x.1 ++ eN x.2.1 ++ eL eLab (x.2.2.1) ++ eN x.2.2.2.1.1 ++ eN x.2.2.2.1.2.1 ++ eN x.2.2.2.1.2.2 ++ eL eBear (x.2.2.2.2.1) ++ eL eReq (x.2.2.2.2.2.1) ++ eL ePrefer (x.2.2.2.2.2.2.1) ++ eL eN (x.2.2.2.2.2.2.2.1) ++ eL eTerm (x.2.2.2.2.2.2.2.2.1) ++ eL eTerm (x.2.2.2.2.2.2.2.2.2.1) ++ eL eSpread (x.2.2.2.2.2.2.2.2.2.2.1))) := hS13
  have F13 : Hid (Fr B sb w u13) := F12.out.trans hf13
  have hD13 := hf13.box hD12 hne hty
  clear H12 hS13 hf13 c12 hD12 S12 F12
  have c13 : u13.cell? ⟨w.heap.size, 13, none⟩ = some (.slice a13 n13 m13) := by simp [World.cell?, hD13]
  have H13 := liststring_writes text_writes B sb u13 (bs ++ eS x.1 ++ eN x.2.1 ++ eL eLab (x.2.2.1) ++ eN x.2.2.2.1.1 ++ eN x.2.2.2.1.2.1 ++ eN x.2.2.2.1.2.2 ++ eL eBear (x.2.2.2.2.1) ++ eL eReq (x.2.2.2.2.2.1) ++ eL ePrefer (x.2.2.2.2.2.2.1) ++ eL eN (x.2.2.2.2.2.2.2.1) ++ eL eTerm (x.2.2.2.2.2.2.2.2.1) ++ eL eTerm (x.2.2.2.2.2.2.2.2.2.1) ++ eL eSpread (x.2.2.2.2.2.2.2.2.2.2.1)) A a13 n13 m13 (x.2.2.2.2.2.2.2.2.2.2.2.1) S13.out (TB.on HT.out F13.out) (s13.kept RStr.firm (F13.out.kept hA)) hA (fun _ _ => trivial) (by (try simp only [List.length_append]); omega)
  go_wp2_with fail
  refine H13.mono ?_
  rintro e u14 ⟨rfl, hS14, hf14⟩
  have S14 : Hid (SheetAt B u14 sb (bs ++ eS x.1 ++ eN x.2.1 ++ eL eLab (x.2.2.1) ++ eN x.2.2.2.1.1 ++ eN x.2.2.2.1.2.1 ++ eN x.2.2.2.1.2.2 ++ eL eBear (x.2.2.2.2.1) ++ eL eReq (x.2.2.2.2.2.1) ++ eL ePrefer (x.2.2.2.2.2.2.1) ++ eL eN (x.2.2.2.2.2.2.2.1) ++ eL eTerm (x.2.2.2.2.2.2.2.2.1) ++ eL eTerm (x.2.2.2.2.2.2.2.2.2.1) ++ eL eSpread (x.2.2.2.2.2.2.2.2.2.2.1) ++ eL eS (x.2.2.2.2.2.2.2.2.2.2.2.1))) := hS14
  have F14 : Hid (Fr B sb w u14) := F13.out.trans hf14
  have hD14 := hf14.box hD13 hne hty
  clear H13 hS14 hf14 c13 hD13 S13 F13
  have c14 : u14.cell? ⟨w.heap.size, 14, none⟩ = some (.string x.2.2.2.2.2.2.2.2.2.2.2.2.1) := by simp [World.cell?, hD14]
  have H14 := text_writes B sb u14 (bs ++ eS x.1 ++ eN x.2.1 ++ eL eLab (x.2.2.1) ++ eN x.2.2.2.1.1 ++ eN x.2.2.2.1.2.1 ++ eN x.2.2.2.1.2.2 ++ eL eBear (x.2.2.2.2.1) ++ eL eReq (x.2.2.2.2.2.1) ++ eL ePrefer (x.2.2.2.2.2.2.1) ++ eL eN (x.2.2.2.2.2.2.2.1) ++ eL eTerm (x.2.2.2.2.2.2.2.2.1) ++ eL eTerm (x.2.2.2.2.2.2.2.2.2.1) ++ eL eSpread (x.2.2.2.2.2.2.2.2.2.2.1) ++ eL eS (x.2.2.2.2.2.2.2.2.2.2.2.1)) A [.string x.2.2.2.2.2.2.2.2.2.2.2.2.1] x.2.2.2.2.2.2.2.2.2.2.2.2.1 S14.out (TB.on HT.out F14.out) ⟨rfl, z14⟩ hA trivial (by (try simp only [List.length_append]); omega)
  simp only [val1, List.headD_cons] at H14
  go_wp2_with fail
  refine H14.mono ?_
  rintro e u15 ⟨rfl, hS15, hf15⟩
  have S15 : Hid (SheetAt B u15 sb (bs ++ eS x.1 ++ eN x.2.1 ++ eL eLab (x.2.2.1) ++ eN x.2.2.2.1.1 ++ eN x.2.2.2.1.2.1 ++ eN x.2.2.2.1.2.2 ++ eL eBear (x.2.2.2.2.1) ++ eL eReq (x.2.2.2.2.2.1) ++ eL ePrefer (x.2.2.2.2.2.2.1) ++ eL eN (x.2.2.2.2.2.2.2.1) ++ eL eTerm (x.2.2.2.2.2.2.2.2.1) ++ eL eTerm (x.2.2.2.2.2.2.2.2.2.1) ++ eL eSpread (x.2.2.2.2.2.2.2.2.2.2.1) ++ eL eS (x.2.2.2.2.2.2.2.2.2.2.2.1) ++ eS x.2.2.2.2.2.2.2.2.2.2.2.2.1)) := hS15
  have F15 : Hid (Fr B sb w u15) := F14.out.trans hf15
  have hD15 := hf15.box hD14 hne hty
  clear H14 hS15 hf15 c14 hD14 S14 F14
  have c15 : u15.cell? ⟨w.heap.size, 15, none⟩ = some (.string x.2.2.2.2.2.2.2.2.2.2.2.2.2) := by simp [World.cell?, hD15]
  have H15 := text_writes B sb u15 (bs ++ eS x.1 ++ eN x.2.1 ++ eL eLab (x.2.2.1) ++ eN x.2.2.2.1.1 ++ eN x.2.2.2.1.2.1 ++ eN x.2.2.2.1.2.2 ++ eL eBear (x.2.2.2.2.1) ++ eL eReq (x.2.2.2.2.2.1) ++ eL ePrefer (x.2.2.2.2.2.2.1) ++ eL eN (x.2.2.2.2.2.2.2.1) ++ eL eTerm (x.2.2.2.2.2.2.2.2.1) ++ eL eTerm (x.2.2.2.2.2.2.2.2.2.1) ++ eL eSpread (x.2.2.2.2.2.2.2.2.2.2.1) ++ eL eS (x.2.2.2.2.2.2.2.2.2.2.2.1) ++ eS x.2.2.2.2.2.2.2.2.2.2.2.2.1) A [.string x.2.2.2.2.2.2.2.2.2.2.2.2.2] x.2.2.2.2.2.2.2.2.2.2.2.2.2 S15.out (TB.on HT.out F15.out) ⟨rfl, z15⟩ hA trivial (by (try simp only [List.length_append]); omega)
  simp only [val1, List.headD_cons] at H15
  go_wp2_with fail
  refine H15.mono ?_
  rintro e u16 ⟨rfl, hS16, hf16⟩
  have S16 : Hid (SheetAt B u16 sb (bs ++ eS x.1 ++ eN x.2.1 ++ eL eLab (x.2.2.1) ++ eN x.2.2.2.1.1 ++ eN x.2.2.2.1.2.1 ++ eN x.2.2.2.1.2.2 ++ eL eBear (x.2.2.2.2.1) ++ eL eReq (x.2.2.2.2.2.1) ++ eL ePrefer (x.2.2.2.2.2.2.1) ++ eL eN (x.2.2.2.2.2.2.2.1) ++ eL eTerm (x.2.2.2.2.2.2.2.2.1) ++ eL eTerm (x.2.2.2.2.2.2.2.2.2.1) ++ eL eSpread (x.2.2.2.2.2.2.2.2.2.2.1) ++ eL eS (x.2.2.2.2.2.2.2.2.2.2.2.1) ++ eS x.2.2.2.2.2.2.2.2.2.2.2.2.1 ++ eS x.2.2.2.2.2.2.2.2.2.2.2.2.2)) := hS16
  have F16 : Hid (Fr B sb w u16) := F15.out.trans hf16
  have hD16 := hf16.box hD15 hne hty
  clear H15 hS16 hf16 c15 hD15 S15 F15
  have HE : Hid (SheetAt B u16 sb (bs ++ ePod x) ∧ Fr B sb w u16) := ⟨by have h := S16.out; simp only [List.append_assoc] at h; exact h, F16.out⟩
  clear S16 F16 hD16
  go_wp2_with fail
  go_end0
  exact ⟨rfl, HE.out⟩
/-- What two that are placed have in common, just if they are alike. -/
def likeT (x : PlacedD) : ByteArray := ⟨(ePlaced x).toArray⟩
set_option maxHeartbeats 8000000 in
theorem likeness_calls (cs : List Value) (A : Where) (x : PlacedD) (w : World) (hx : Hid (RPlaced A w cs x)) (hok : okPod x.1) (htab : Hid (TB w.heap.size w)) (hl : (ePlaced x).length ≤ 70368744170000) :
    Calls Tryz.prog 42 #[.agg cs.toArray] w fun e w' => e = .returned (.string (likeT x)) ∧ Below w.heap.size w w' := by
  obtain ⟨ps, ds, rfl, hp, ⟨a16, n16, m16, rfl, s16⟩⟩ := RPlaced.firm.weak hx.out (A' := fun b => b < w.heap.size) (fun b hb _ => hb)
  have hpl : ps.length = 16 := RPod.firm.len hp
  have hiP : (Tryz.prog.info? 33).map (·.size) = some ps.length := by rw [hpl]; kernel_rfl
  simp only [ePlaced, List.length_append] at hl
  obtain ⟨U, hU⟩ : ∃ U, U = (w.alloc (.cells (ps ++ [Value.slice a16 n16 m16]).toArray 41)).alloc (.cells #[.slice none 0 0] 114) := ⟨_, rfl⟩
  have hb0 : Below w.heap.size w U := by rw [hU]; go_grown
  have hD0 : U.heap[w.heap.size]? = some (.cells (ps ++ [Value.slice a16 n16 m16]).toArray 41 (0, 0)) := by rw [hU]; rw [((Below.refl _ _).alloc (Nat.le_refl _) _).block w.heap.size (by simp)]; exact (MapKept.heap_alloc w _).1
  have S0 : Hid (SheetAt w.heap.size U (w.heap.size + 1) []) := by
    refine ⟨Nat.le_succ _, .slice none 0 0, ?_, World.ownsRow_nil _ _ _ _⟩
    rw [hU]
    have := (MapKept.heap_alloc (w.alloc (.cells (ps ++ [Value.slice a16 n16 m16]).toArray 41)) (.cells #[.slice none 0 0] 114)).1
    simpa using this
  have HT : Hid (TB w.heap.size U) := Lib.TabBelow.on htab.out hb0
  have HB0 : Hid (Below w.heap.size w U) := hb0
  have H0 := pod_writes w.heap.size (w.heap.size + 1) U [] (fun b => b < w.heap.size) ps x.1 S0.out HT.out (RPod.firm.kept hp (Kept.below hb0)) (fun b h => h) hok (by simp only [List.length_nil]; omega)
  have HS16 : Hid (SlAt RLabel 2 32 (fun b => b < w.heap.size) U a16 n16 m16 x.2) := s16.on RLabel.firm hb0
  have HR0 : Hid (U.rangeAt w.heap.size 0 ps) := fun j v hj => by
    rw [Nat.zero_add]
    have hj16 : j < ps.length := (List.getElem?_eq_some_iff.1 hj).1
    simp [World.cell?, hD0, List.getElem?_append_left hj16, hj]
  have hty : (41 : TypeId) ≠ 5 := by decide
  simp only [valA] at H0
  clear hp s16 hx htab
  go_enter Tryz.func42, Tryz.ntmps42
  go_upto_region 2 with fail
  rw [← hU]
  clear hU hb0
  go_wp2_with (first | (refine wpList_load_mid rfl 33 _ rfl w.heap.size 0 rfl ps _ HR0.out Tryz.underlying33 rfl hiP ?_) | fail)
  refine H0.mono ?_
  clear H0 HR0 S0
  rintro e u1 ⟨rfl, hS1, hf1⟩
  rw [List.nil_append] at hS1
  have hD1 := hf1.box hD0 (by omega) hty
  have c16 : u1.cell? ⟨w.heap.size, 16, none⟩ = some (.slice a16 n16 m16) := by simp [World.cell?, hD1, hpl]
  have H1 := labels_writes w.heap.size (w.heap.size + 1) u1 (ePod x.1) (fun b => b < w.heap.size) a16 n16 m16 x.2 hS1 (TB.on HT.out hf1) (HS16.out.kept RLabel.firm (hf1.kept (fun b h => h))) (fun b h => h) (fun _ _ => trivial) (by omega)
  have HF1 : Hid (Below w.heap.size w u1) := HB0.out.trans hf1.1
  clear hS1 hf1 HS16 HT hD0 hD1
  go_wp2_with fail
  refine H1.mono ?_
  clear H1 c16
  rintro e u2 ⟨rfl, hS2, hf2⟩
  have HB2 : Hid (Below w.heap.size w u2) := HF1.out.trans hf2.1
  obtain ⟨_, v, hb2, hown2⟩ := hS2
  have c0 : u2.cell? ⟨w.heap.size + 1, 0, none⟩ = some v := by simp [World.cell?, hb2]
  obtain ⟨l, hl'⟩ : ∃ l, l = ePod x.1 ++ eL eLab x.2 := ⟨_, rfl⟩
  rw [← hl'] at hown2
  have HL : Hid (l = ePod x.1 ++ eL eLab x.2) := hl'
  clear hl' hb2 hf2 HF1
  have hpos : 0 < l.length := by rw [HL.out]; simp [ePod, eS, eN]; omega
  rcases hown2.2 with ⟨-, h0⟩ | ⟨g, cap, cur, rfl, -, -, -, -, -, -⟩
  · omega
  · have hcv := run_convert_bytes_back (P := Tryz.prog) u2 112 9 5 ⟨g, 0, none⟩ cap l Tryz.underlying112 Tryz.underlying5 Tryz.underlying9 (fun j hj => hown2.cells (g := g) rfl j _ (by simp [Lib.byteCells, hj]))
    clear hown2
    go_wp2_with fail
    go_ret
    refine ⟨?_, HB2.out⟩
    rw [HL.out]
    rfl
end Go.Proofs.YtfnafgmengefaaaGreatDoor
namespace Go.Proofs.YtfnafgmengefaaaGreatDoor
open Go.RowKit Go.Maps
set_option linter.unusedSimpArgs false
set_option maxRecDepth 100000

theorem made_nil (w : World) : Calls Tryz.prog 41 #[.pointer none] w fun e w' => e = .returned (.bool false) ∧ w' = w := by
  go_enter Tryz.func41, Tryz.ntmps41
  go_wp2
  go_ret
  exact ⟨rfl, rfl⟩
theorem made_zero (w : World) (tb : Nat) (h : w.cell? ⟨tb, 5, none⟩ = some (.map none)) : Calls Tryz.prog 41 #[.pointer (some ⟨tb, 0, none⟩)] w fun e w' => e = .returned (.bool false) ∧ w' = w := by
  have hq := fun w => run_neq_map_nil (P := Tryz.prog) w 96 _ _ none Tryz.underlying96
  go_enter Tryz.func41, Tryz.ntmps41
  go_wp2
  go_ret
  exact ⟨rfl, rfl⟩
theorem made_some (w : World) (tb pm : Nat) (h : w.cell? ⟨tb, 5, none⟩ = some (.map (some pm))) : Calls Tryz.prog 41 #[.pointer (some ⟨tb, 0, none⟩)] w fun e w' => e = .returned (.bool true) ∧ w' = w := by
  have hq := fun w => run_neq_map_nil (P := Tryz.prog) w 96 _ _ (some pm) Tryz.underlying96
  go_enter Tryz.func41, Tryz.ntmps41
  go_wp2
  go_ret
  exact ⟨rfl, rfl⟩
end Go.Proofs.YtfnafgmengefaaaGreatDoor
