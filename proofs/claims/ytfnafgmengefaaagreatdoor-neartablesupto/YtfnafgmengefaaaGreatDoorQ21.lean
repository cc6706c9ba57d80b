/- Structs are written on a sheet, field by field. No condition beyond what a writer asks. -/
import Derived.Test.YtfnafgmengefaaaGreatDoorQ20
namespace Go.Proofs.YtfnafgmengefaaaGreatDoor
open Go.RowKit
set_option linter.unusedSimpArgs false
set_option maxRecDepth 100000

set_option maxHeartbeats 8000000 in
theorem label_writes : Writes 79 RLabel valA eLab (fun _ => True) := by
  rintro B sb w bs A cs x hS hT hx hA ok hl
  obtain ⟨rfl, z1, z2⟩ := hx.out
  skip
  show Calls Tryz.prog 79 #[.pointer (some ⟨sb, 0, none⟩), .agg #[.string x.1, .string x.2]] w _
  simp only [eLab, List.length_append] at hl
  obtain ⟨U, hU⟩ : ∃ U, U = w.alloc (.cells #[.string x.1, .string x.2] 55) := ⟨_, rfl⟩
  have hD0 : U.heap[w.heap.size]? = some (.cells #[.string x.1, .string x.2] 55 (0, 0)) := by rw [hU]; exact (MapKept.heap_alloc w _).1
  have hne : w.heap.size ≠ sb := fun e => absurd hS.lt (by rw [e]; exact Nat.lt_irrefl _)
  have S0 : Hid (SheetAt B U sb bs) := by rw [Hid, hU]; exact hS.alloc _
  have F0 : Hid (Fr B sb w U) := by rw [Hid, hU]; exact (Fr.refl B sb w).alloc hS.le _
  have HT : Hid (TB B w) := hT
  have hty : (55 : TypeId) ≠ 5 := by decide
  clear hS hT hx
  go_enter Tryz.func79, Tryz.ntmps79
  go_upto_region 1 with fail
  rw [← hU]
  clear hU
  have c0 : U.cell? ⟨w.heap.size, 0, none⟩ = some (.string x.1) := by simp [World.cell?, hD0]
  have H0 := text_writes B sb U (bs) A [.string x.1] x.1 S0.out (TB.on HT.out F0.out) ⟨rfl, z1⟩ hA trivial (by (try simp only [List.length_append]); omega)
  simp only [val1, List.headD_cons] at H0
  go_wp2_with fail
  refine H0.mono ?_
  rintro e u1 ⟨rfl, hS1, hf1⟩
  have S1 : Hid (SheetAt B u1 sb (bs ++ eS x.1)) := hS1
  have F1 : Hid (Fr B sb w u1) := F0.out.trans hf1
  have hD1 := hf1.box hD0 hne hty
  clear H0 hS1 hf1 c0 hD0 S0 F0
  have c1 : u1.cell? ⟨w.heap.size, 1, none⟩ = some (.string x.2) := by simp [World.cell?, hD1]
  have H1 := text_writes B sb u1 (bs ++ eS x.1) A [.string x.2] x.2 S1.out (TB.on HT.out F1.out) ⟨rfl, z2⟩ hA trivial (by (try simp only [List.length_append]); omega)
  simp only [val1, List.headD_cons] at H1
  go_wp2_with fail
  refine H1.mono ?_
  rintro e u2 ⟨rfl, hS2, hf2⟩
  have S2 : Hid (SheetAt B u2 sb (bs ++ eS x.1 ++ eS x.2)) := hS2
  have F2 : Hid (Fr B sb w u2) := F1.out.trans hf2
  have hD2 := hf2.box hD1 hne hty
  clear H1 hS2 hf2 c1 hD1 S1 F1
  have HE : Hid (SheetAt B u2 sb (bs ++ eLab x) ∧ Fr B sb w u2) := ⟨by have h := S2.out; simp only [List.append_assoc] at h; exact h, F2.out⟩
  clear S2 F2 hD2
  go_wp2_with fail
  go_end0
  exact ⟨rfl, HE.out⟩
set_option maxHeartbeats 4000000 in
theorem labels_writes : WritesS 56 RLabel 2 32 eLab (fun _ => True) := by
  rintro B sb w bs A a n cap L hS hT hL hA hok hl
  have H := listLabel_writes label_writes B sb w bs A a n cap L hS hT hL hA hok hl
  clear hS hT hL hok hl
  go_enter Tryz.func56, Tryz.ntmps56
  go_wp2_with fail
  refine H.mono ?_
  clear H
  rintro e w1 ⟨rfl, hS1, hf1⟩
  have HE : Hid (SheetAt B w1 sb (bs ++ eL eLab L) ∧ Fr B sb w w1) := ⟨hS1, hf1⟩
  clear hS1 hf1
  go_wp2_with fail
  go_end0
  exact ⟨rfl, HE.out⟩
set_option maxHeartbeats 8000000 in
theorem req_writes : Writes 87 RReq valA eReq okReq := by
  rintro B sb w bs A cs x hS hT hx hA ok hl
  obtain ⟨⟨h1, h2, h3⟩, rfl, z1, s2⟩ := hx.out
  skip
  show Calls Tryz.prog 87 #[.pointer (some ⟨sb, 0, none⟩), .agg #[.string x.1, .int .i64 x.2.1, .slice h1 h2 h3]] w _
  simp only [eReq, List.length_append] at hl
  simp only [okReq] at ok
  obtain ⟨U, hU⟩ : ∃ U, U = w.alloc (.cells #[.string x.1, .int .i64 x.2.1, .slice h1 h2 h3] 108) := ⟨_, rfl⟩
  have hD0 : U.heap[w.heap.size]? = some (.cells #[.string x.1, .int .i64 x.2.1, .slice h1 h2 h3] 108 (0, 0)) := by rw [hU]; exact (MapKept.heap_alloc w _).1
  have hne : w.heap.size ≠ sb := fun e => absurd hS.lt (by rw [e]; exact Nat.lt_irrefl _)
  have S0 : Hid (SheetAt B U sb bs) := by rw [Hid, hU]; exact hS.alloc _
  have F0 : Hid (Fr B sb w U) := by rw [Hid, hU]; exact (Fr.refl B sb w).alloc hS.le _
  have HT : Hid (TB B w) := hT
  have hty : (108 : TypeId) ≠ 5 := by decide
  clear hS hT hx
  go_enter Tryz.func87, Tryz.ntmps87
  go_upto_region 1 with fail
  rw [← hU]
  clear hU
  have c0 : U.cell? ⟨w.heap.size, 0, none⟩ = some (.string x.1) := by simp [World.cell?, hD0]
  have H0 := text_writes B sb U (bs) A [.string x.1] x.1 S0.out (TB.on HT.out F0.out) ⟨rfl, z1⟩ hA trivial (by (try simp only [List.length_append]); omega)
  simp only [val1, List.headD_cons] at H0
  go_wp2_with fail
  refine H0.mono ?_
  rintro e u1 ⟨rfl, hS1, hf1⟩
  have S1 : Hid (SheetAt B u1 sb (bs ++ eS x.1)) := hS1
  have F1 : Hid (Fr B sb w u1) := F0.out.trans hf1
  have hD1 := hf1.box hD0 hne hty
  clear H0 hS1 hf1 c0 hD0 S0 F0
  have c1 : u1.cell? ⟨w.heap.size, 1, none⟩ = some (.int .i64 x.2.1) := by simp [World.cell?, hD1]
  have H1 := number_writes B sb u1 (bs ++ eS x.1) A [.int .i64 (x.2.1)] (x.2.1) S1.out (TB.on HT.out F1.out) rfl hA (ok) (by (try simp only [List.length_append]); omega)
  simp only [val1, List.headD_cons] at H1
  go_wp2_with fail
  refine H1.mono ?_
  rintro e u2 ⟨rfl, hS2, hf2⟩
  have S2 : Hid (SheetAt B u2 sb (bs ++ eS x.1 ++ eN x.2.1)) := hS2
  have F2 : Hid (Fr B sb w u2) := F1.out.trans hf2
  have hD2 := hf2.box hD1 hne hty
  clear H1 hS2 hf2 c1 hD1 S1 F1
  have c2 : u2.cell? ⟨w.heap.size, 2, none⟩ = some (.slice h1 h2 h3) := by simp [World.cell?, hD2]
  have H2 := liststring_writes text_writes B sb u2 (bs ++ eS x.1 ++ eN x.2.1) A h1 h2 h3 (x.2.2) S2.out (TB.on HT.out F2.out) (s2.kept RStr.firm (F2.out.kept hA)) hA (fun _ _ => trivial) (by (try simp only [List.length_append]); omega)
  go_wp2_with fail
  refine H2.mono ?_
  rintro e u3 ⟨rfl, hS3, hf3⟩
  have S3 : Hid (SheetAt B u3 sb (bs ++ eS x.1 ++ eN x.2.1 ++ eL eS (x.2.2))) := hS3
  have F3 : Hid (Fr B sb w u3) := F2.out.trans hf3
  have hD3 := hf3.box hD2 hne hty
  clear H2 hS3 hf3 c2 hD2 S2 F2
  have HE : Hid (SheetAt B u3 sb (bs ++ eReq x) ∧ Fr B sb w u3) := ⟨by have h := S3.out; simp only [List.append_assoc] at h; exact h, F3.out⟩
  clear S3 F3 hD3
  go_wp2_with fail
  go_end0
  exact ⟨rfl, HE.out⟩
set_option maxHeartbeats 4000000 in
theorem reqs_writes : WritesS 69 RReq 3 48 eReq okReq := by
  rintro B sb w bs A a n cap L hS hT hL hA hok hl
  have H := listReq_writes req_writes B sb w bs A a n cap L hS hT hL hA hok hl
  clear hS hT hL hok hl
  go_enter Tryz.func69, Tryz.ntmps69
  go_wp2_with fail
  refine H.mono ?_
  clear H
  rintro e w1 ⟨rfl, hS1, hf1⟩
  have HE : Hid (SheetAt B w1 sb (bs ++ eL eReq L) ∧ Fr B sb w w1) := ⟨hS1, hf1⟩
  clear hS1 hf1
  go_wp2_with fail
  go_end0
  exact ⟨rfl, HE.out⟩
set_option maxHeartbeats 8000000 in
theorem bear_writes : Writes 68 RBear valA eBear okBear := by
  rintro B sb w bs A cs x hS hT hx hA ok hl
  obtain ⟨rfl, z1, z2⟩ := hx.out
  skip
  show Calls Tryz.prog 68 #[.pointer (some ⟨sb, 0, none⟩), .agg #[.string x.1, .string x.2.1, .bool x.2.2.1, .int .i64 x.2.2.2]] w _
  simp only [eBear, List.length_append] at hl
  simp only [okBear] at ok
  obtain ⟨U, hU⟩ : ∃ U, U = w.alloc (.cells #[.string x.1, .string x.2.1, .bool x.2.2.1, .int .i64 x.2.2.2] 92) := ⟨_, rfl⟩
  have hD0 : U.heap[w.heap.size]? = some (.cells #[.string x.1, .string x.2.1, .bool x.2.2.1, .int .i64 x.2.2.2] 92 (0, 0)) := by rw [hU]; exact (MapKept.heap_alloc w _).1
  have hne : w.heap.size ≠ sb := fun e => absurd hS.lt (by rw [e]; exact Nat.lt_irrefl _)
  have S0 : Hid (SheetAt B U sb bs) := by rw [Hid, hU]; exact hS.alloc _
  have F0 : Hid (Fr B sb w U) := by rw [Hid, hU]; exact (Fr.refl B sb w).alloc hS.le _
  have HT : Hid (TB B w) := hT
  have hty : (92 : TypeId) ≠ 5 := by decide
  clear hS hT hx
  go_enter Tryz.func68, Tryz.ntmps68
  go_upto_region 1 with fail
  rw [← hU]
  clear hU
  have c0 : U.cell? ⟨w.heap.size, 0, none⟩ = some (.string x.1) := by simp [World.cell?, hD0]
  have H0 := text_writes B sb U (bs) A [.string x.1] x.1 S0.out (TB.on HT.out F0.out) ⟨rfl, z1⟩ hA trivial (by (try simp only [List.length_append]); omega)
  simp only [val1, List.headD_cons] at H0
  go_wp2_with fail
  refine H0.mono ?_
  rintro e u1 ⟨rfl, hS1, hf1⟩
  have S1 : Hid (SheetAt B u1 sb (bs ++ eS x.1)) := hS1
  have F1 : Hid (Fr B sb w u1) := F0.out.trans hf1
  have hD1 := hf1.box hD0 hne hty
  clear H0 hS1 hf1 c0 hD0 S0 F0
  have c1 : u1.cell? ⟨w.heap.size, 1, none⟩ = some (.string x.2.1) := by simp [World.cell?, hD1]
  have H1 := text_writes B sb u1 (bs ++ eS x.1) A [.string x.2.1] x.2.1 S1.out (TB.on HT.out F1.out) ⟨rfl, z2⟩ hA trivial (by (try simp only [List.length_append]); omega)
  simp only [val1, List.headD_cons] at H1
  go_wp2_with fail
  refine H1.mono ?_
  rintro e u2 ⟨rfl, hS2, hf2⟩
  have S2 : Hid (SheetAt B u2 sb (bs ++ eS x.1 ++ eS x.2.1)) := hS2
  have F2 : Hid (Fr B sb w u2) := F1.out.trans hf2
  have hD2 := hf2.box hD1 hne hty
  clear H1 hS2 hf2 c1 hD1 S1 F1
  have c2 : u2.cell? ⟨w.heap.size, 2, none⟩ = some (.bool x.2.2.1) := by simp [World.cell?, hD2]
  have H2 := flag_writes B sb u2 (bs ++ eS x.1 ++ eS x.2.1) A [.bool x.2.2.1] x.2.2.1 S2.out (TB.on HT.out F2.out) rfl hA trivial (by (try simp only [List.length_append]); omega)
  simp only [val1, List.headD_cons] at H2
  go_wp2_with fail
  refine H2.mono ?_
  rintro e u3 ⟨rfl, hS3, hf3⟩
  have S3 : Hid (SheetAt B u3 sb (bs ++ eS x.1 ++ eS x.2.1 ++ eB x.2.2.1)) := hS3
  have F3 : Hid (Fr B sb w u3) := F2.out.trans hf3
  have hD3 := hf3.box hD2 hne hty
  clear H2 hS3 hf3 c2 hD2 S2 F2
  have c3 : u3.cell? ⟨w.heap.size, 3, none⟩ = some (.int .i64 x.2.2.2) := by simp [World.cell?, hD3]
  have H3 := number_writes B sb u3 (bs ++ eS x.1 ++ eS x.2.1 ++ eB x.2.2.1) A [.int .i64 (x.2.2.2)] (x.2.2.2) S3.out (TB.on HT.out F3.out) rfl hA (ok) (by (try simp only [List.length_append]); omega)
  simp only [val1, List.headD_cons] at H3
  go_wp2_with fail
  refine H3.mono ?_
  rintro e u4 ⟨rfl, hS4, hf4⟩
  have S4 : Hid (SheetAt B u4 sb (bs ++ eS x.1 ++ eS x.2.1 ++ eB x.2.2.1 ++ eN x.2.2.2)) := hS4
  have F4 : Hid (Fr B sb w u4) := F3.out.trans hf4
  have hD4 := hf4.box hD3 hne hty
  clear H3 hS4 hf4 c3 hD3 S3 F3
  have HE : Hid (SheetAt B u4 sb (bs ++ eBear x) ∧ Fr B sb w u4) := ⟨by have h := S4.out; simp only [List.append_assoc] at h; exact h, F4.out⟩
  clear S4 F4 hD4
  go_wp2_with fail
  go_end0
  exact ⟨rfl, HE.out⟩
set_option maxHeartbeats 8000000 in
theorem prefer_writes : Writes 71 RPrefer valA ePrefer okPrefer := by
  rintro B sb w bs A cs x hS hT hx hA ok hl
  obtain ⟨⟨h1, h2, h3⟩, rfl, s1⟩ := hx.out
  skip
  show Calls Tryz.prog 71 #[.pointer (some ⟨sb, 0, none⟩), .agg #[.slice h1 h2 h3, .int .i64 x.2]] w _
  simp only [ePrefer, List.length_append] at hl
  simp only [okPrefer] at ok
  obtain ⟨U, hU⟩ : ∃ U, U = w.alloc (.cells #[.slice h1 h2 h3, .int .i64 x.2] 72) := ⟨_, rfl⟩
  have hD0 : U.heap[w.heap.size]? = some (.cells #[.slice h1 h2 h3, .int .i64 x.2] 72 (0, 0)) := by rw [hU]; exact (MapKept.heap_alloc w _).1
  have hne : w.heap.size ≠ sb := fun e => absurd hS.lt (by rw [e]; exact Nat.lt_irrefl _)
  have S0 : Hid (SheetAt B U sb bs) := by rw [Hid, hU]; exact hS.alloc _
  have F0 : Hid (Fr B sb w U) := by rw [Hid, hU]; exact (Fr.refl B sb w).alloc hS.le _
  have HT : Hid (TB B w) := hT
  have hty : (72 : TypeId) ≠ 5 := by decide
  clear hS hT hx
  go_enter Tryz.func71, Tryz.ntmps71
  go_upto_region 1 with fail
  rw [← hU]
  clear hU
  have c0 : U.cell? ⟨w.heap.size, 0, none⟩ = some (.slice h1 h2 h3) := by simp [World.cell?, hD0]
  have H0 := reqs_writes B sb U (bs) A h1 h2 h3 (x.1) S0.out (TB.on HT.out F0.out) (s1.kept RReq.firm (F0.out.kept hA)) hA (ok.1) (by (try simp only [List.length_append]); omega)
  go_wp2_with fail
  refine H0.mono ?_
  rintro e u1 ⟨rfl, hS1, hf1⟩
  have S1 : Hid (SheetAt B u1 sb (bs ++ eL eReq (x.1))) := hS1
  have F1 : Hid (Fr B sb w u1) := F0.out.trans hf1
  have hD1 := hf1.box hD0 hne hty
  clear H0 hS1 hf1 c0 hD0 S0 F0
  have c1 : u1.cell? ⟨w.heap.size, 1, none⟩ = some (.int .i64 x.2) := by simp [World.cell?, hD1]
  have H1 := number_writes B sb u1 (bs ++ eL eReq (x.1)) A [.int .i64 (x.2)] (x.2) S1.out (TB.on HT.out F1.out) rfl hA (ok.2) (by (try simp only [List.length_append]); omega)
  simp only [val1, List.headD_cons] at H1
  go_wp2_with fail
  refine H1.mono ?_
  rintro e u2 ⟨rfl, hS2, hf2⟩
  have S2 : Hid (SheetAt B u2 sb (bs ++ eL eReq (x.1) ++ eN x.2)) := hS2
  have F2 : Hid (Fr B sb w u2) := F1.out.trans hf2
  have hD2 := hf2.box hD1 hne hty
  clear H1 hS2 hf2 c1 hD1 S1 F1
  have HE : Hid (SheetAt B u2 sb (bs ++ ePrefer x) ∧ Fr B sb w u2) := ⟨by have h := S2.out; simp only [List.append_assoc] at h; exact h, F2.out⟩
  clear S2 F2 hD2
  go_wp2_with fail
  go_end0
  exact ⟨rfl, HE.out⟩
set_option maxHeartbeats 8000000 in
theorem term_writes : Writes 74 RTerm valA eTerm okTerm := by
  rintro B sb w bs A cs x hS hT hx hA ok hl
  obtain ⟨⟨h1, h2, h3⟩, rfl, s1, z2⟩ := hx.out
  skip
  show Calls Tryz.prog 74 #[.pointer (some ⟨sb, 0, none⟩), .agg #[.slice h1 h2 h3, .string x.2]] w _
  simp only [eTerm, List.length_append] at hl
  simp only [okTerm] at ok
  obtain ⟨U, hU⟩ : ∃ U, U = w.alloc (.cells #[.slice h1 h2 h3, .string x.2] 80) := ⟨_, rfl⟩
  have hD0 : U.heap[w.heap.size]? = some (.cells #[.slice h1 h2 h3, .string x.2] 80 (0, 0)) := by rw [hU]; exact (MapKept.heap_alloc w _).1
  have hne : w.heap.size ≠ sb := fun e => absurd hS.lt (by rw [e]; exact Nat.lt_irrefl _)
  have S0 : Hid (SheetAt B U sb bs) := by rw [Hid, hU]; exact hS.alloc _
  have F0 : Hid (Fr B sb w U) := by rw [Hid, hU]; exact (Fr.refl B sb w).alloc hS.le _
  have HT : Hid (TB B w) := hT
  have hty : (80 : TypeId) ≠ 5 := by decide
  clear hS hT hx
  go_enter Tryz.func74, Tryz.ntmps74
  go_upto_region 1 with fail
  rw [← hU]
  clear hU
  have c0 : U.cell? ⟨w.heap.size, 0, none⟩ = some (.slice h1 h2 h3) := by simp [World.cell?, hD0]
  have H0 := reqs_writes B sb U (bs) A h1 h2 h3 (x.1) S0.out (TB.on HT.out F0.out) (s1.kept RReq.firm (F0.out.kept hA)) hA (ok) (by (try simp only [List.length_append]); omega)
  go_wp2_with fail
  refine H0.mono ?_
  rintro e u1 ⟨rfl, hS1, hf1⟩
  have S1 : Hid (SheetAt B u1 sb (bs ++ eL eReq (x.1))) := hS1
  have F1 : Hid (Fr B sb w u1) := F0.out.trans hf1
  have hD1 := hf1.box hD0 hne hty
  clear H0 hS1 hf1 c0 hD0 S0 F0
  have c1 : u1.cell? ⟨w.heap.size, 1, none⟩ = some (.string x.2) := by simp [World.cell?, hD1]
  have H1 := text_writes B sb u1 (bs ++ eL eReq (x.1)) A [.string x.2] x.2 S1.out (TB.on HT.out F1.out) ⟨rfl, z2⟩ hA trivial (by (try simp only [List.length_append]); omega)
  simp only [val1, List.headD_cons] at H1
  go_wp2_with fail
  refine H1.mono ?_
  rintro e u2 ⟨rfl, hS2, hf2⟩
  have S2 : Hid (SheetAt B u2 sb (bs ++ eL eReq (x.1) ++ eS x.2)) := hS2
  have F2 : Hid (Fr B sb w u2) := F1.out.trans hf2
  have hD2 := hf2.box hD1 hne hty
  clear H1 hS2 hf2 c1 hD1 S1 F1
  have HE : Hid (SheetAt B u2 sb (bs ++ eTerm x) ∧ Fr B sb w u2) := ⟨by have h := S2.out; simp only [List.append_assoc] at h; exact h, F2.out⟩
  clear S2 F2 hD2
  go_wp2_with fail
  go_end0
  exact ⟨rfl, HE.out⟩
set_option maxHeartbeats 8000000 in
theorem spread_writes : Writes 76 RSpread valA eSpread okSpread := by
  rintro B sb w bs A cs x hS hT hx hA ok hl
  obtain ⟨⟨h1, h2, h3⟩, rfl, z1, s3⟩ := hx.out
  skip
  show Calls Tryz.prog 76 #[.pointer (some ⟨sb, 0, none⟩), .agg #[.string x.1, .int .i64 x.2.1, .int .i64 x.2.2.1, .slice h1 h2 h3]] w _
  simp only [eSpread, List.length_append] at hl
  simp only [okSpread] at ok
  obtain ⟨U, hU⟩ : ∃ U, U = w.alloc (.cells #[.string x.1, .int .i64 x.2.1, .int .i64 x.2.2.1, .slice h1 h2 h3] 76) := ⟨_, rfl⟩
  have hD0 : U.heap[w.heap.size]? = some (.cells #[.string x.1, .int .i64 x.2.1, .int .i64 x.2.2.1, .slice h1 h2 h3] 76 (0, 0)) := by rw [hU]; exact (MapKept.heap_alloc w _).1
  have hne : w.heap.size ≠ sb := fun e => absurd hS.lt (by rw [e]; exact Nat.lt_irrefl _)
  have S0 : Hid (SheetAt B U sb bs) := by rw [Hid, hU]; exact hS.alloc _
  have F0 : Hid (Fr B sb w U) := by rw [Hid, hU]; exact (Fr.refl B sb w).alloc hS.le _
  have HT : Hid (TB B w) := hT
  have hty : (76 : TypeId) ≠ 5 := by decide
  clear hS hT hx
  go_enter Tryz.func76, Tryz.ntmps76
  go_upto_region 1 with fail
  rw [← hU]
  clear hU
  have c0 : U.cell? ⟨w.heap.size, 0, none⟩ = some (.string x.1) := by simp [World.cell?, hD0]
  have H0 := text_writes B sb U (bs) A [.string x.1] x.1 S0.out (TB.on HT.out F0.out) ⟨rfl, z1⟩ hA trivial (by (try simp only [List.length_append]); omega)
  simp only [val1, List.headD_cons] at H0
  go_wp2_with fail
  refine H0.mono ?_
  rintro e u1 ⟨rfl, hS1, hf1⟩
  have S1 : Hid (SheetAt B u1 sb (bs ++ eS x.1)) := hS1
  have F1 : Hid (Fr B sb w u1) := F0.out.trans hf1
  have hD1 := hf1.box hD0 hne hty
  clear H0 hS1 hf1 c0 hD0 S0 F0
  have c1 : u1.cell? ⟨w.heap.size, 1, none⟩ = some (.int .i64 x.2.1) := by simp [World.cell?, hD1]
  have H1 := number_writes B sb u1 (bs ++ eS x.1) A [.int .i64 (x.2.1)] (x.2.1) S1.out (TB.on HT.out F1.out) rfl hA (ok.1) (by (try simp only [List.length_append]); omega)
  simp only [val1, List.headD_cons] at H1
  go_wp2_with fail
  refine H1.mono ?_
  rintro e u2 ⟨rfl, hS2, hf2⟩
  have S2 : Hid (SheetAt B u2 sb (bs ++ eS x.1 ++ eN x.2.1)) := hS2
  have F2 : Hid (Fr B sb w u2) := F1.out.trans hf2
  have hD2 := hf2.box hD1 hne hty
  clear H1 hS2 hf2 c1 hD1 S1 F1
  have c2 : u2.cell? ⟨w.heap.size, 2, none⟩ = some (.int .i64 x.2.2.1) := by simp [World.cell?, hD2]
  have H2 := number_writes B sb u2 (bs ++ eS x.1 ++ eN x.2.1) A [.int .i64 (x.2.2.1)] (x.2.2.1) S2.out (TB.on HT.out F2.out) rfl hA (ok.2.1) (by (try simp only [List.length_append]); omega)
  simp only [val1, List.headD_cons] at H2
  go_wp2_with fail
  refine H2.mono ?_
  rintro e u3 ⟨rfl, hS3, hf3⟩
  have S3 : Hid (SheetAt B u3 sb (bs ++ eS x.1 ++ eN x.2.1 ++ eN x.2.2.1)) := hS3
  have F3 : Hid (Fr B sb w u3) := F2.out.trans hf3
  have hD3 := hf3.box hD2 hne hty
  clear H2 hS3 hf3 c2 hD2 S2 F2
  have c3 : u3.cell? ⟨w.heap.size, 3, none⟩ = some (.slice h1 h2 h3) := by simp [World.cell?, hD3]
  have H3 := reqs_writes B sb u3 (bs ++ eS x.1 ++ eN x.2.1 ++ eN x.2.2.1) A h1 h2 h3 (x.2.2.2) S3.out (TB.on HT.out F3.out) (s3.kept RReq.firm (F3.out.kept hA)) hA (ok.2.2) (by (try simp only [List.length_append]); omega)
  go_wp2_with fail
  refine H3.mono ?_
  rintro e u4 ⟨rfl, hS4, hf4⟩
  have S4 : Hid (SheetAt B u4 sb (bs ++ eS x.1 ++ eN x.2.1 ++ eN x.2.2.1 ++ eL eReq (x.2.2.2))) := hS4
  have F4 : Hid (Fr B sb w u4) := F3.out.trans hf4
  have hD4 := hf4.box hD3 hne hty
  clear H3 hS4 hf4 c3 hD3 S3 F3
  have HE : Hid (SheetAt B u4 sb (bs ++ eSpread x) ∧ Fr B sb w u4) := ⟨by have h := S4.out; simp only [List.append_assoc] at h; exact h, F4.out⟩
  clear S4 F4 hD4
  go_wp2_with fail
  go_end0
  exact ⟨rfl, HE.out⟩
end Go.Proofs.YtfnafgmengefaaaGreatDoor
