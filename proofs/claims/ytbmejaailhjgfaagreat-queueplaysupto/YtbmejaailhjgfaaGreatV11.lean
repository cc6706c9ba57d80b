/- QueuePlays' walk: what is asked of both queues behind an act. Condition: the two stand as is said of them. -/
import Derived.Test.YtbmejaailhjgfaaGreatV01
namespace Go.Proofs.YtbmejaailhjgfaaGreat
open Go.RowKit Go.Maps
set_option linter.unusedSimpArgs false
set_option maxRecDepth 100000

set_option maxHeartbeats 32000000 in
theorem prest {y0 z0 : Nat} {nd : ByteArray} {tries : Int} {w : World} {pz y B C D off k c : Nat} {a0 a1 a2 : Int} {a3 a4 s0 : ByteArray} {s1 s2 s3 s4 : Int} {a6 a7 : Bool} {wc : World} {t2 : Int} {u6 u7 u14 u15 u16 u17 u18 u19 u20 u21 u22 u23 u24 u25 u26 u27 u28 u29 u30 u31 u32 u33 u34 u41 u42 u43 u44 u45 u46 u47 u48 u49 u50 u51 u52 u53 u54 u55 u56 u57 u58 u59 u60 u61 u62 u63 u64 u66 u67 u68 u69 u70 u71 u72 u73 u74 u75 u76 u77 u78 u79 u80 u81 u82 u83 u84 u85 u86 u87 u88 u89 u90 u91 u92 u93 u94 u95 u96 u97 u98 u99 u100 u101 u102 u103 u104 u105 u106 u107 u108 u109 u110 u111 u112 u113 u114 u115 u116 u117 u118 u119 u120 u121 u122 u123 u124 u125 u126 u127 u128 u129 u130 u131 u132 u133 u134 u135 u136 u137 u138 u139 u140 u141 u142 u143 u144 u145 u146 u147 u148 u149 u150 u151 u152 u153 u154 u155 u156 u157 u158 u159 u160 u161 u162 u163 u164 u165 u166 u167 u168 u169 u170 u171 u172 u173 u174 u175 u176 u177 u178 u179 u180 u181 u182 u183 u184 u185 u186 u187 u188 u189 u190 u191 u192 u193 u194 u195 u196 u197 u198 u199 u200 u201 u202 u203 u204 u205 u206 u207 u208 u209 u210 u211 u212 u213 u214 u215 u216 u217 u218 u219 u220 u221 u222 u223 u224 u225 u226 u227 u228 u229 u230 u231 u232 u233 u234 u235 u236 u237 u238 u239 u240 u241 u242 u243 u244 u245 u246 u247 u248 u249 u250 u251 u252 u253 u254 u255 u256 u257 u258 u259 u260 u261 u262 u263 u264 u265 u266 u267 u268 u269 u270 u271 u272 : Value}
    (Hm : Hid (y0 ≤ 1048576)) (Hk : Hid (k < y0)) (Hok : Hid (okAct (a0, a1, a2, a3, a4, (s0, s1, s2, s3, s4), a6, a7))) (Ht : Hid (-5 * ((k + 1 : Nat) : Int) ≤ t2 ∧ t2 ≤ 4398046511104 * ((k + 1 : Nat) : Int))) (hk0 : Hid (PlK w y B C (a0, a1, a2, a3, a4, (s0, s1, s2, s3, s4), a6, a7) (k + 1) u7 wc))
    {R : Exit → Act → World → Prop} {KO : Act → World → Prop}
    (hKO : ∀ (a' : Act) (w' : World), RsE y0 z0 nd tries w pz y B C D off k c (a0, a1, a2, a3, a4, (s0, s1, s2, s3, s4), a6, a7) t2 a' w' → KO a' w') :
    Code.wp Tryz.prog ([1, 1, 1, 1, 1, 0, 1, 0, 0, 1, 0, 0, 1, 1, 1, 1].foldl kidC (Tryz.f3.body.getD .skip)) (Exit.inBlock 1 (Exit.then KO R)) { tmps := #[Value.slice (some { block := D, off := off }) y0 z0, Value.string nd, Value.int IntKind.i64 tries, undef, undef, undef, u6, u7, Value.pointer (some { block := y, off := 0 }), Value.int IntKind.i64 t2, Value.pointer (some { block := B, off := 0 }), Value.int IntKind.i64 ((k : Nat) : Int), Value.pointer (some { block := C, off := 0 }), Value.bool true, u14, u15, u16, u17, u18, u19, u20, u21, u22, u23, u24, u25, u26, u27, u28, u29, u30, u31, u32, u33, u34, Value.pointer (some { block := pz, off := 0 }), Value.agg #[Value.slice none 0 0, Value.int IntKind.i64 0, Value.slice none 0 0], Value.pointer (some { block := y, off := 0 }), Value.pointer (some { block := pz, off := 0 }), Value.bool false, Value.agg #[Value.string { data := #[] }, Value.int IntKind.i64 0, Value.int IntKind.i64 0, Value.int IntKind.i64 0, Value.int IntKind.i64 0], u41, u42, u43, u44, u45, u46, u47, u48, u49, u50, u51, u52, u53, u54, u55, u56, u57, u58, u59, u60, u61, u62, u63, u64, Value.int IntKind.i64 ((c : Nat) : Int), u66, u67, u68, u69, u70, u71, u72, u73, u74, u75, u76, u77, u78, u79, u80, u81, u82, u83, u84, u85, u86, u87, u88, u89, u90, u91, u92, u93, u94, u95, u96, u97, u98, u99, u100, u101, u102, u103, u104, u105, u106, u107, u108, u109, u110, u111, u112, u113, u114, u115, u116, u117, u118, u119, u120, u121, u122, u123, u124, u125, u126, u127, u128, u129, u130, u131, u132, u133, u134, u135, u136, u137, u138, u139, u140, u141, u142, u143, u144, u145, u146, u147, u148, u149, u150, u151, u152, u153, u154, u155, u156, u157, u158, u159, u160, u161, u162, u163, u164, u165, u166, u167, u168, u169, u170, u171, u172, u173, u174, u175, u176, u177, u178, u179, u180, u181, u182, u183, u184, u185, u186, u187, u188, u189, u190, u191, u192, u193, u194, u195, u196, u197, u198, u199, u200, u201, u202, u203, u204, u205, u206, u207, u208, u209, u210, u211, u212, u213, u214, u215, u216, u217, u218, u219, u220, u221, u222, u223, u224, u225, u226, u227, u228, u229, u230, u231, u232, u233, u234, u235, u236, u237, u238, u239, u240, u241, u242, u243, u244, u245, u246, u247, u248, u249, u250, u251, u252, u253, u254, u255, u256, u257, u258, u259, u260, u261, u262, u263, u264, u265, u266, u267, u268, u269, u270, u271, u272, undef, undef, undef, undef, undef, undef, undef, undef, undef, undef, undef, undef, undef, undef, undef, undef, undef], defers := [] } wc := by
  conv =>
    arg 2
    whnf
  let _Q0 : Exit → Act → World → Prop := bodyPost Tryz.prog Tryz.f3 (fun _ _ => True)
  have Hl : Hid (k < y0) := Hk
  have hk := hk0
  obtain ⟨p5, a5, b5, lst5, L5, n5, Ws5, rfl, hj, hl1, hl2, hts, hn0, hn1, hLl, hWl⟩ := hk.out
  have HJ9 : Hid (PlJ w wc p5 y a5 b5 B C lst5 (a0, a1, a2, a3, a4, (s0, s1, s2, s3, s4), a6, a7) L5 n5 Ws5 L5 n5 Ws5) := hj
  have HK : Hid (okS lst5.1 ∧ okTr lst5 ∧ okTs L5 ∧ 0 ≤ n5 ∧ n5 ≤ ((k + 1 : Nat) : Int) ∧ L5.length ≤ k + 1 ∧ Ws5.length ≤ k + 1) := ⟨hl1, hl2, hts, hn0, hn1, hLl, hWl⟩
  have HB : Hid (L5.length ≤ 1048576 ∧ Ws5.length ≤ 1048576) := by have h8 := Hl.out; have h9 := Hm.out; exact ⟨by omega, by omega⟩
  clear hk hj hl1 hl2 hts hn0 hn1 hLl hWl 
  obtain ⟨⟨pk, ⟨v0, v1, v2, v3, v4⟩, pe⟩, hpl⟩ : ∃ r, r = plY L5 a3 := ⟨_, rfl⟩
  have HPE : Hid (placeP L5 a3 = (pk, (v0, v1, v2, v3, v4), pe)) := by rw [Hid, ← place_eq HJ9.out.q.nd, ← hpl]
  have hA := yplace_calls HJ9.out.q a3 Hok.out.1
  rw [← hpl] at hA
  dsimp only at hA
  clear hpl
  have d3 : wc.cell? ⟨C, 3, none⟩ = some (.string a3) := (HJ9.out.box.2 3 _ rfl).1
  go_wp2_with fail
  refine hA.mono ?_
  rintro e z5 ⟨rfl, hb5⟩
  try dsimp only
  clear hA d3
  have HJ5 : Hid (PlJ w z5 p5 y a5 b5 B C lst5 (a0, a1, a2, a3, a4, (s0, s1, s2, s3, s4), a6, a7) L5 n5 Ws5 L5 n5 Ws5) := HJ9.out.on hb5
  clear hb5 HJ9
  obtain ⟨X5, hX5⟩ : ∃ X, X = z5.heap.size := ⟨_, rfl⟩
  obtain ⟨W6, hW6⟩ : ∃ Z, Z = z5.alloc (.cells #[.string v0, .int .i64 v1, .int .i64 v2, .int .i64 v3, .int .i64 v4] 31) := ⟨_, rfl⟩
  have b6 : Below z5.heap.size z5 W6 := by rw [hW6]; exact (Below.refl _ _).alloc (Nat.le_refl _) _
  have q6 : BoxL W6 X5 (wtC (v0, v1, v2, v3, v4)) := by rw [hW6, hX5]; exact BoxL.new z5 31 _
  have HX5 : Hid (z5.heap.size = X5) := hX5.symm
  have HW6 : Hid (z5.alloc (.cells #[.string v0, .int .i64 v1, .int .i64 v2, .int .i64 v3, .int .i64 v4] 31) = W6) := hW6.symm
  have HJ6 : Hid (PlJ w W6 p5 y a5 b5 B C lst5 (a0, a1, a2, a3, a4, (s0, s1, s2, s3, s4), a6, a7) L5 n5 Ws5 L5 n5 Ws5) := HJ5.out.on b6
  have HQ6 : Hid (BoxL W6 X5 (wtC (v0, v1, v2, v3, v4))) := q6
  clear hX5 hW6 b6 q6 HJ5
  go_upto_region 52 with fail
  rw [HW6.out, HX5.out]
  clear HW6 HX5
  have hB := rPlace_calls w y a5 b5 L5 n5 Ws5 a3 W6 HJ6.out.r (by have := HB.out; omega)
  rw [HPE.out] at hB
  dsimp only at hB
  clear HPE
  have d3 : W6.cell? ⟨C, 3, none⟩ = some (.string a3) := (HJ6.out.box.2 3 _ rfl).1
  go_wp2_with fail
  refine hB.mono ?_
  rintro e z7 ⟨rfl, b7⟩
  try dsimp only
  clear hB d3
  have HJ7 : Hid (PlJ w z7 p5 y a5 b5 B C lst5 (a0, a1, a2, a3, a4, (s0, s1, s2, s3, s4), a6, a7) L5 n5 Ws5 L5 n5 Ws5) := HJ6.out.on b7
  have HQ7 : Hid (BoxL z7 X5 (wtC (v0, v1, v2, v3, v4))) := HQ6.out.on b7
  clear b7 HJ6 HQ6
  obtain ⟨X7, hX7⟩ : ∃ X, X = z7.heap.size := ⟨_, rfl⟩
  obtain ⟨W8, hW8⟩ : ∃ Z, Z = z7.alloc (.cells #[.string v0, .int .i64 v1, .int .i64 v2, .int .i64 v3, .int .i64 v4] 31) := ⟨_, rfl⟩
  have b8 : Below z7.heap.size z7 W8 := by rw [hW8]; exact (Below.refl _ _).alloc (Nat.le_refl _) _
  have q8 : BoxL W8 X7 (wtC (v0, v1, v2, v3, v4)) := by rw [hW8, hX7]; exact BoxL.new z7 31 _
  have HX7 : Hid (z7.heap.size = X7) := hX7.symm
  have HW8 : Hid (z7.alloc (.cells #[.string v0, .int .i64 v1, .int .i64 v2, .int .i64 v3, .int .i64 v4] 31) = W8) := hW8.symm
  have HJ8 : Hid (PlJ w W8 p5 y a5 b5 B C lst5 (a0, a1, a2, a3, a4, (s0, s1, s2, s3, s4), a6, a7) L5 n5 Ws5 L5 n5 Ws5) := HJ7.out.on b8
  have HQ8 : Hid (BoxL W8 X5 (wtC (v0, v1, v2, v3, v4)) ∧ BoxL W8 X7 (wtC (v0, v1, v2, v3, v4))) := ⟨HQ7.out.on b8, q8⟩
  clear hX7 hW8 b8 q8 HJ7 HQ7
  have HC : Hid (∀ z, Below W8.heap.size W8 z → z.cell? ⟨C, 4, none⟩ = some (.string a4)) := fun z hz => ((HJ8.out.on hz).box.2 4 _ rfl).1
  have HR : Hid (∀ z, Below W8.heap.size W8 z → z.rangeAt X5 0 (wtC (v0, v1, v2, v3, v4)) ∧ z.rangeAt X7 0 (wtC (v0, v1, v2, v3, v4))) := fun z hz => ⟨(HQ8.out.1.on hz).range, (HQ8.out.2.on hz).range⟩
  have HK8 : Hid (∀ z, Below W8.heap.size W8 z → PlJ w z p5 y a5 b5 B C lst5 (a0, a1, a2, a3, a4, (s0, s1, s2, s3, s4), a6, a7) L5 n5 Ws5 L5 n5 Ws5) := fun z hz => HJ8.out.on hz
  clear HQ8 HJ8
  go_upto_region 53 with fail
  rw [HW8.out, HX7.out]
  clear HW8 HX7
  have hb0 : Below W8.heap.size W8 W8.drew := (Below.refl _ _).drew
  refine t0 (fun z => Below W8.heap.size W8 z) hb0 (fun hHeld => ?_)
  generalize hwd : W8.drew = wd at hHeld ⊢
  clear hwd hb0
  try go_frame
  refine' tk 0 ?_ ?_; rotate_left
  · intro z hz; clear hz; go_simp; try with_reducible rfl
  try go_frame
  refine' tk 1 ?_ ?_; rotate_left
  · intro z hz; clear hz; go_simp; try with_reducible rfl
  try go_frame
  refine' tk 2 ?_ ?_; rotate_left
  · intro z hz; clear hz; go_simp; try with_reducible rfl
  try go_frame
  refine' tk 3 ?_ ?_; rotate_left
  · intro z hz; clear hz; go_simp; try with_reducible rfl
  try go_frame
  refine' tk 4 ?_ ?_; rotate_left
  · intro z hz; clear hz; go_simp; try with_reducible rfl
  try go_frame
  refine' tk 5 ?_ ?_; rotate_left
  · intro z hz; clear hz; go_simp; try with_reducible rfl
  try go_frame
  refine' tk 6 ?_ ?_; rotate_left
  · intro z hz; clear hz; go_simp; try with_reducible rfl
  try go_frame
  refine' tk 7 ?_ ?_; rotate_left
  · intro z hz; clear hz; go_simp; try with_reducible rfl
  try go_frame
  refine tq 8 (.agg (wtC (v0, v1, v2, v3, v4)).toArray) (yieldsIf_load_mid (by rfl) 31 _ rfl X5 0 (by go_simp) (wtC (v0, v1, v2, v3, v4)) _ (fun z hz => (HR.out z hz).1) Tryz.underlying31 rfl (by kernel_rfl)) ?_ (hi := rfl)
  try go_frame
  refine tq 9 (.agg (wtC (v0, v1, v2, v3, v4)).toArray) (yieldsIf_load_mid (by rfl) 31 _ rfl X7 0 (by go_simp) (wtC (v0, v1, v2, v3, v4)) _ (fun z hz => (HR.out z hz).2) Tryz.underlying31 rfl (by kernel_rfl)) ?_ (hi := rfl)
  try go_frame
  refine' tk 10 ?_ ?_; rotate_left
  · intro z hz; clear hz; have hq := neqWt_same v0 v1 v2 v3 v4 z; have hgd := guardWt; go_simp; try with_reducible rfl
  try go_frame
  refine' tk 11 ?_ ?_; rotate_left
  · intro z hz; clear hz; go_simp; try with_reducible rfl
  try go_frame
  refine' tk 12 ?_ ?_; rotate_left
  · intro z hz; clear hz; go_simp; try with_reducible rfl
  try go_frame
  refine' tk 13 ?_ ?_; rotate_left
  · intro z hz; clear hz; go_simp; try with_reducible rfl
  try go_frame
  refine' tk 14 ?_ ?_; rotate_left
  · intro z hz; clear hz; go_simp; try with_reducible rfl
  try go_frame
  refine' tk 15 ?_ ?_; rotate_left
  · intro z hz; clear hz; go_simp; try with_reducible rfl
  try go_frame
  refine' tk 16 ?_ ?_; rotate_left
  · intro z hz; clear hz; go_simp; try with_reducible rfl
  try go_frame
  refine' tk 17 ?_ ?_; rotate_left
  · intro z hz; clear hz; go_simp; try with_reducible rfl
  try go_frame
  refine' tk 18 ?_ ?_; rotate_left
  · intro z hz; clear hz; go_simp; try with_reducible rfl
  try go_frame
  refine' tk 19 ?_ ?_; rotate_left
  · intro z hz; clear hz; go_simp; try with_reducible rfl
  try go_frame
  refine' tk 20 ?_ ?_; rotate_left
  · intro z hz; have f4 := HC.out z hz; clear hz; go_simp; try with_reducible rfl
  try go_frame
  refine' tk 22 ?_ ?_; rotate_left
  · intro z hz; clear hz; go_simp; try with_reducible rfl
  try go_frame
  refine' tk 23 ?_ ?_; rotate_left
  · intro z hz; clear hz; go_simp; try with_reducible rfl
  try go_frame
  refine' tk 24 ?_ ?_; rotate_left
  · intro z hz; have f4 := HC.out z hz; clear hz; go_simp; try with_reducible rfl
  try go_frame
  clear HR HC
  obtain ⟨M, hM⟩ : ∃ M, M = sortB sLt sEq (nomP a4 Ws5) := ⟨_, rfl⟩
  have HM : Hid (M = sortB sLt sEq (nomP a4 Ws5) ∧ M.length ≤ 1048576) := ⟨hM, by rw [hM]; exact Nat.le_trans (noms_len _ _) HB.out.2⟩
  have hA := ynom_calls (HK8.out wd hHeld).q (by have := HB.out; omega) a4
  rw [← hM] at hA
  clear hM
  refine tr 21 (fun K hK => ?_)
  go_simp
  refine hA.mono ?_
  rintro e z9 ⟨v9, rfl, hr⟩
  try dsimp only
  clear hA
  have hb9 : Below W8.heap.size W8 z9 := on2 hHeld hr.below
  obtain ⟨ta, tc, rfl, st⟩ := (hr.wAG RStr.firm (A' := Fresh wd) (fun _ h => h.elim)).slF (bytes := 16) RStr.firm (by have := HM.out.2; omega)
  have HS9 : Hid (SlAt RStr 1 16 (Fresh wd) z9 ta M.length tc M) := st
  clear hr st
  go_wp2_with fail
  refine hK.out _ _ hb9 (fun hHeld2 => ?_)
  clear hb9
  clear hK K hHeld; have hHeld := hHeld2; clear hHeld2
  try go_frame
  have hB := rNominated_calls w y a5 b5 L5 n5 Ws5 a4 z9 (HK8.out z9 hHeld).r (by have := HB.out; omega)
  rw [← who_nom, ← HM.out.1] at hB
  refine tr 25 (fun K hK => ?_)
  go_simp
  refine hB.mono ?_
  rintro e z4 ⟨qa, qc, rfl, sq, qb⟩
  try dsimp only
  clear hB
  have hb4 : Below W8.heap.size W8 z4 := on2 hHeld qb
  have HS4 : Hid (SlAt RStr 1 16 (Fresh wd) z4 ta M.length tc M ∧ SlAt RStr 1 16 (Fresh z9) z4 qa M.length qc M) := ⟨HS9.out.on RStr.firm qb, sq⟩
  clear sq qb HS9
  go_wp2_with fail
  refine hK.out _ _ hb4 (fun hHeld2 => ?_)
  clear hb4
  clear hK K hHeld; have hHeld := hHeld2; clear hHeld2
  try go_frame
  have hC := SameTexts_calls ta M.length tc _ M qa M.length qc _ M z4 HS4.out.1 HS4.out.2
  rw [decide_eq_true (rfl : M = M)] at hC
  refine tr 26 (fun K hK => ?_)
  go_simp
  refine hC.mono ?_
  rintro e z3 ⟨rfl, q3, hz3⟩
  try dsimp only
  clear hC
  have hb3 : Below W8.heap.size W8 z3 := by rw [hz3]; exact on2 hHeld (below_drewN (Below.refl _ _) _)
  clear hz3 HS4 HM
  go_wp2_with fail
  refine hK.out _ _ hb3 (fun hHeld2 => ?_)
  clear hb3
  clear hK K hHeld; have hHeld := hHeld2; clear hHeld2
  try go_frame
  refine' tk 27 ?_ ?_; rotate_left
  · intro z hz; clear hz; go_simp; try with_reducible rfl
  try go_frame
  refine' tk 28 ?_ ?_; rotate_left
  · intro z hz; clear hz; go_simp; try with_reducible rfl
  try go_frame
  refine tz ?_
  have HJ3 : Hid (PlJ w z3 p5 y a5 b5 B C lst5 (a0, a1, a2, a3, a4, (s0, s1, s2, s3, s4), a6, a7) L5 n5 Ws5 L5 n5 Ws5) := HK8.out z3 hHeld
  clear hHeld HK8
  go_wp2_with fail
  --M6
  go_loopw [34] (fun iv z => ∃ j : Nat, j ≤ 5 ∧ iv = .int .i64 j ∧ Hid (PlJ w z p5 y a5 b5 B C lst5 (a0, a1, a2, a3, a4, (s0, s1, s2, s3, s4), a6, a7) L5 n5 Ws5 L5 n5 Ws5)) (fun iv _ => 5 - (intOf iv).toNat)
  case atStart => exact ⟨0, by omega, rfl, HJ3⟩
  case round =>
    clear HJ3
    obtain ⟨j, hj, rfl, HJ⟩ := hrel
    by_cases hj4 : j ≤ 4
    · have hjz : (j : Int) ≤ 4 := by omega
      have hA := yall_calls HJ.out.q (by have := HB.out; omega) (j : Int)
      go_wp2_with fail
      refine hA.mono ?_
      rintro e z5 ⟨v5, l5, rfl, hr, ha⟩
      try dsimp only
      clear hA
      have hel : l5 = allQ (j : Int) L5 := all_eq HJ.out.q.nd ha
      have hll : l5.length ≤ 1048576 := by have h1 := ha.1.length_eq; have h2 := gat_len (j : Int) (fun _ => true) L5; have h3 := HB.out; omega
      have HJ5 : Hid (PlJ w z5 p5 y a5 b5 B C lst5 (a0, a1, a2, a3, a4, (s0, s1, s2, s3, s4), a6, a7) L5 n5 Ws5 L5 n5 Ws5) := HJ.out.on hr.below
      obtain ⟨ta, tc, rfl, st⟩ := (hr.wAG RWt.firm (A' := Fresh wr) (fun _ h => h.elim)).slF (bytes := 48) RWt.firm (by omega)
      have HS : Hid (SlAt RWt 5 48 (Fresh wr) z5 ta l5.length tc l5) := st
      have Hll : Hid (l5.length ≤ 1048576) := hll
      have hB := rAll_calls w y a5 b5 L5 n5 Ws5 (j : Int) z5 HJ5.out.r (by have := HB.out; omega)
      rw [← hel] at hB
      clear hr ha hel hll st HJ
      obtain ⟨m, hm⟩ : ∃ m, m = l5.length := ⟨_, rfl⟩
      have Hlm : Hid (l5.length = m) := hm.symm
      rw [← hm] at HS Hll ⊢
      have hml : m < 1000000000000000 := by have := Hll.out; omega
      clear hm
      go_wp2_with fail
      refine hB.mono ?_
      rintro e z6 ⟨v6, rfl, hr⟩
      try dsimp only
      clear hB
      have HJ6 : Hid (PlJ w z6 p5 y a5 b5 B C lst5 (a0, a1, a2, a3, a4, (s0, s1, s2, s3, s4), a6, a7) L5 n5 Ws5 L5 n5 Ws5) := HJ5.out.on hr.below
      have HS6 : Hid (SlAt RWt 5 48 (Fresh wr) z6 ta m tc l5) := HS.out.on RWt.firm hr.below
      obtain ⟨qa, qc, rfl, sq⟩ := (hr.wAG RWt.firm (A' := Fresh z5) (fun _ h => h.elim)).slF (bytes := 48) RWt.firm (by have h1 := Hll.out; have h2 := Hlm.out; omega)
      have HQ6 : Hid (SlAt RWt 5 48 (Fresh z5) z6 qa m qc l5) := by have h1 := sq; rw [Hlm.out] at h1; exact h1
      rw [Hlm.out]
      have hC := same14_calls ta qa m tc qc _ _ l5 z6 Hlm.out HS6 HQ6 (by have := Hll.out; omega)
      clear hr sq HJ5 HS
      go_wp2_with fail
      refine hC.mono ?_
      rintro e z7 ⟨rfl, b7⟩
      try dsimp only
      clear hC
      have HN : Hid (PlJ w z7 p5 y a5 b5 B C lst5 (a0, a1, a2, a3, a4, (s0, s1, s2, s3, s4), a6, a7) L5 n5 Ws5 L5 n5 Ws5) := HJ6.out.on b7
      clear b7 HJ6 HS6 HQ6 Hll Hlm
      go_wp2_with fail
      go_roundw
      case rel => exact ⟨j + 1, by omega, by go_num, HN⟩
      case measure => simp [intOf]; omega
    · have hjz : ¬ ((j : Int) ≤ 4) := by omega
      have HN : Hid (PlR w y B (k + 1) (.pointer (some ⟨p5, 0, none⟩)) t2 wr) := HJ.out.done HK.out.1 HK.out.2.1 HK.out.2.2.1 HK.out.2.2.2.1 HK.out.2.2.2.2.1 HK.out.2.2.2.2.2.1 HK.out.2.2.2.2.2.2 Ht.out.1 Ht.out.2
      clear HJ
      go_wp2_with fail
      refine RsE.by HN ?_
      kernel_rfl
end Go.Proofs.YtbmejaailhjgfaaGreat
