/- QueuePlays' walk: what is done in case 3. Condition: the two queues stand as is said of them. -/
import Derived.Test.YtbmejaailhjgfaaGreatV01
namespace Go.Proofs.YtbmejaailhjgfaaGreat
open Go.RowKit Go.Maps
set_option linter.unusedSimpArgs false
set_option maxRecDepth 100000

set_option maxHeartbeats 16000000 in
theorem parm3 {y0 z0 : Nat} {nd : ByteArray} {tries : Int} {w : World} {pz p y B C D off k : Nat} {a b : Value} {lst : WtD} {L : List EnD} {n : Int} {Ws : List WiD} {a0 a1 a2 : Int} {a3 a4 s0 : ByteArray} {s1 s2 s3 s4 : Int} {a6 a7 : Bool} {W4 : World} {t2 : Int} {u6 u14 u15 u16 u17 u18 u19 u20 u21 u22 u23 u24 u25 u26 u27 u28 u29 u30 u31 u32 u33 u34 u41 u42 u43 u44 u45 u46 u47 u48 u49 u50 u51 u52 u53 u54 u55 u56 u57 u58 u59 u60 u61 u62 u66 u67 u68 u69 u70 u71 u72 u73 u74 u75 u76 u77 u78 u79 u80 u81 u82 u83 u84 u85 u86 u87 u88 u89 u90 u91 u92 u93 u94 u95 u96 u97 u98 u99 u100 u101 u102 u103 u104 u105 u106 u107 u108 u109 u110 u111 u112 u113 u114 u115 u116 u117 u118 u119 u120 u121 u122 u123 u124 u125 u126 u127 u128 u129 u130 u131 u132 u133 u134 u135 u136 u137 u138 u139 u140 u141 u142 u143 u144 u145 u146 u147 u148 u149 u150 u151 u152 u153 u154 u155 u156 u157 u158 u159 u160 u161 u162 u163 u164 u165 u166 u167 u168 u169 u170 u171 u172 u173 u174 u175 u176 u177 u178 u179 u180 u181 u182 u183 u184 u185 u186 u187 u188 u189 u190 u191 u192 u193 u194 u195 u196 u197 u198 u199 u200 u201 u202 u203 u204 u205 u206 u207 u208 u209 u210 u211 u212 u213 u214 u215 u216 u217 u218 u219 u220 u221 u222 u223 u224 u225 u226 u227 u228 u229 u230 u231 u232 u233 u234 u235 u236 u237 u238 u239 u240 u241 u242 u243 u244 u245 u246 u247 u248 u249 u250 u251 u252 u253 u254 u255 u256 u257 u258 u259 u260 u261 u262 u263 u264 u265 u266 u267 u268 u269 u270 u271 u272 : Value}
    (Hm : Hid (y0 ≤ 1048576)) (HJ : Hid (PlJ w W4 p y a b B C lst (a0, a1, a2, a3, a4, (s0, s1, s2, s3, s4), a6, a7) L n Ws L n Ws)) (Hts : Hid (okTs L)) (Hls : Hid (okS lst.1 ∧ okTr lst)) (Hn : Hid (0 ≤ n ∧ n ≤ (k : Int))) (Hl : Hid (L.length ≤ k ∧ Ws.length ≤ k ∧ k < y0)) (_Hok : Hid (okAct (a0, a1, a2, a3, a4, (s0, s1, s2, s3, s4), a6, a7)))
    {R : Exit → Act → World → Prop} {K' : Act → World → Prop} (hJ : ∀ (a' : Act) (w' : World), SwE y0 z0 nd tries w pz y B C D off k 3 (a0, a1, a2, a3, a4, (s0, s1, s2, s3, s4), a6, a7) t2 a' w' → K' a' w') :
    Code.wp Tryz.prog ([1, 1, 1, 1, 1, 0, 1, 0, 0, 1, 0, 0, 1, 1, 1, 0, 1].foldl kidC (Tryz.f3.body.getD .skip)) (Exit.then K' R) { tmps := #[Value.slice (some { block := D, off := off }) y0 z0, Value.string nd, Value.int IntKind.i64 tries, undef, undef, undef, u6, Value.pointer (some { block := p, off := 0 }), Value.pointer (some { block := y, off := 0 }), Value.int IntKind.i64 t2, Value.pointer (some { block := B, off := 0 }), Value.int IntKind.i64 ((k : Nat) : Int), Value.pointer (some { block := C, off := 0 }), Value.bool true, u14, u15, u16, u17, u18, u19, u20, u21, u22, u23, u24, u25, u26, u27, u28, u29, u30, u31, u32, u33, u34, Value.pointer (some { block := pz, off := 0 }), Value.agg #[Value.slice none 0 0, Value.int IntKind.i64 0, Value.slice none 0 0], Value.pointer (some { block := y, off := 0 }), Value.pointer (some { block := pz, off := 0 }), Value.bool false, Value.agg #[Value.string { data := #[] }, Value.int IntKind.i64 0, Value.int IntKind.i64 0, Value.int IntKind.i64 0, Value.int IntKind.i64 0], u41, u42, u43, u44, u45, u46, u47, u48, u49, u50, u51, u52, u53, u54, u55, u56, u57, u58, u59, u60, u61, u62, Value.pointer (some { block := C, off := 0 }), Value.int IntKind.i64 a0, Value.int IntKind.i64 ((3 : Nat) : Int), u66, u67, u68, u69, u70, u71, u72, u73, u74, u75, u76, u77, u78, u79, u80, u81, u82, u83, u84, u85, u86, u87, u88, u89, u90, u91, u92, u93, u94, u95, u96, u97, u98, u99, u100, u101, u102, u103, u104, u105, u106, u107, u108, u109, u110, u111, u112, u113, u114, u115, u116, u117, u118, u119, u120, u121, u122, u123, u124, u125, u126, u127, u128, u129, u130, u131, u132, u133, u134, u135, u136, u137, u138, u139, u140, u141, u142, u143, u144, u145, u146, u147, u148, u149, u150, u151, u152, u153, u154, u155, u156, u157, u158, u159, u160, u161, u162, u163, u164, u165, u166, u167, u168, u169, u170, u171, u172, u173, u174, u175, u176, u177, u178, u179, u180, u181, u182, u183, u184, u185, u186, u187, u188, u189, u190, u191, u192, u193, u194, u195, u196, u197, u198, u199, u200, u201, u202, u203, u204, u205, u206, u207, u208, u209, u210, u211, u212, u213, u214, u215, u216, u217, u218, u219, u220, u221, u222, u223, u224, u225, u226, u227, u228, u229, u230, u231, u232, u233, u234, u235, u236, u237, u238, u239, u240, u241, u242, u243, u244, u245, u246, u247, u248, u249, u250, u251, u252, u253, u254, u255, u256, u257, u258, u259, u260, u261, u262, u263, u264, u265, u266, u267, u268, u269, u270, u271, u272, undef, undef, undef, undef, undef, undef, undef, undef, undef, undef, undef, undef, undef, undef, undef, undef, undef], defers := [] } W4 := by
  conv =>
    arg 2
    whnf
  have hA := ypop_calls HJ.out.q HJ.out.hF (by have := Hl.out; have := Hm.out; omega) (fun e he => (Hts.out e he).1)
  go_wp2_with fail
  refine hA.mono ?_
  rintro e z5 ⟨x, er, S2, rfl, hpo, h5, k5⟩
  try dsimp only
  clear hA
  have HP : Hid (okS x.1 ∧ okTr x ∧ okTs S2 ∧ S2.length ≤ L.length) := popO_facts hpo Hts.out HJ.out.q.ok
  have HE : Hid (x = (popP L).1 ∧ er = (popP L).2.1 ∧ S2 = (popP L).2.2) := pop_eq HJ.out.q.nd hpo
  have HJ5 : Hid (PlJ w z5 p y a b B C lst (a0, a1, a2, a3, a4, (s0, s1, s2, s3, s4), a6, a7) S2 n Ws L n Ws) := HJ.out.prog h5 k5
  clear hpo h5 k5 HJ
  obtain ⟨x0, x1, x2, x3, x4⟩ := x
  obtain ⟨X5, hX5⟩ : ∃ X, X = z5.heap.size := ⟨_, rfl⟩
  obtain ⟨W6, hW6⟩ : ∃ Z, Z = z5.alloc (.cells #[.string x0, .int .i64 x1, .int .i64 x2, .int .i64 x3, .int .i64 x4] 31) := ⟨_, rfl⟩
  have b6 : Below z5.heap.size z5 W6 := by rw [hW6]; exact (Below.refl _ _).alloc (Nat.le_refl _) _
  have q6 : BoxL W6 X5 (wtC (x0, x1, x2, x3, x4)) := by rw [hW6, hX5]; exact BoxL.new z5 31 _
  have HX5 : Hid (z5.heap.size = X5) := hX5.symm
  have HW6 : Hid (z5.alloc (.cells #[.string x0, .int .i64 x1, .int .i64 x2, .int .i64 x3, .int .i64 x4] 31) = W6) := hW6.symm
  have HN5 : Hid (¬ QS y a b X5 ∧ X5 ≠ B) := by rw [hX5]; exact ⟨HJ5.out.newN (Nat.le_refl _), fun e => by have := HJ5.out.last.1; omega⟩
  have HJ6 : Hid (PlJ w W6 p y a b B C lst (a0, a1, a2, a3, a4, (s0, s1, s2, s3, s4), a6, a7) S2 n Ws L n Ws) := HJ5.out.on b6
  have HQ6 : Hid (BoxL W6 X5 (wtC (x0, x1, x2, x3, x4))) := q6
  clear hX5 hW6 b6 q6 HJ5
  go_upto_region 20 with fail
  rw [HW6.out, HX5.out]
  clear HW6 HX5
  have hB := rPop_calls w y a b L n Ws W6 HJ6.out.r (by have := Hl.out; have := Hm.out; omega) Hts.out.tr
  rw [← HE.out.1, ← HE.out.2.1, ← HE.out.2.2] at hB
  clear HE
  go_wp2_with fail
  refine hB.mono ?_
  rintro e z7 ⟨rfl, ho⟩
  try dsimp only
  clear hB
  have HQ7 : Hid (BoxL z7 X5 (wtC (x0, x1, x2, x3, x4))) := ho.box HQ6.out HN5.out.1
  obtain ⟨a9, b9, h7⟩ := HJ6.out.doc ho
  have HJ7 : Hid (PlJ w z7 p y a9 b9 B C lst (a0, a1, a2, a3, a4, (s0, s1, s2, s3, s4), a6, a7) S2 n Ws S2 n Ws) := h7
  clear h7 ho HJ6 HQ6
  obtain ⟨X7, hX7⟩ : ∃ X, X = z7.heap.size := ⟨_, rfl⟩
  obtain ⟨W8, hW8⟩ : ∃ Z, Z = z7.alloc (.cells #[.string x0, .int .i64 x1, .int .i64 x2, .int .i64 x3, .int .i64 x4] 31) := ⟨_, rfl⟩
  have b8 : Below z7.heap.size z7 W8 := by rw [hW8]; exact (Below.refl _ _).alloc (Nat.le_refl _) _
  have q8 : BoxL W8 X7 (wtC (x0, x1, x2, x3, x4)) := by rw [hW8, hX7]; exact BoxL.new z7 31 _
  have HX7 : Hid (z7.heap.size = X7) := hX7.symm
  have HW8 : Hid (z7.alloc (.cells #[.string x0, .int .i64 x1, .int .i64 x2, .int .i64 x3, .int .i64 x4] 31) = W8) := hW8.symm
  have HJ8 : Hid (PlJ w W8 p y a9 b9 B C lst (a0, a1, a2, a3, a4, (s0, s1, s2, s3, s4), a6, a7) S2 n Ws S2 n Ws) := HJ7.out.on b8
  have HR5 : Hid (W8.rangeAt X5 0 (wtC (x0, x1, x2, x3, x4))) := (HQ7.out.on b8).range
  have HR7 : Hid (W8.rangeAt X7 0 (wtC (x0, x1, x2, x3, x4))) := q8.range
  clear hX7 hW8 b8 q8 HJ7 HQ7
  go_upto_region 21 with fail
  rw [HW8.out, HX7.out]
  clear HW8 HX7
  have HE := eqlWt_same x0 x1 x2 x3 x4
  have hgd := guardWt
  go_upto_region 22 with (first | (refine wpList_load_mid rfl 31 _ rfl X5 0 rfl (wtC (x0, x1, x2, x3, x4)) _ HR5.out Tryz.underlying31 rfl (by kernel_rfl) ?_) | (refine wpList_load_mid rfl 31 _ rfl X7 0 rfl (wtC (x0, x1, x2, x3, x4)) _ HR7.out Tryz.underlying31 rfl (by kernel_rfl) ?_) | fail)
  clear HE hgd HR5 HN5
  have HT2 : Hid ((0 ≤ n ∧ n ≤ ((k + 1 : Nat) : Int)) ∧ S2.length ≤ k + 1 ∧ Ws.length ≤ k + 1) := by
    have h1 := HP.out.2.2.2; have h3 := Hn.out; have h4 := Hl.out
    exact ⟨⟨by omega, by push_cast; omega⟩, by omega, by omega⟩
  by_cases hz : er = 0
  · subst hz
    have HTh : Hid (W8.there B 0 5) := HJ8.out.last.there
    obtain ⟨W9, hW9⟩ : ∃ Z, Z = W8.setCells B 0 (wtC (x0, x1, x2, x3, x4)) := ⟨_, rfl⟩
    have HEnd : Hid (PlK w y B C (a0, a1, a2, a3, a4, (s0, s1, s2, s3, s4), a6, a7) (k + 1) (.pointer (some ⟨p, 0, none⟩)) W9) := by
      rw [hW9]; exact ⟨p, a9, b9, (x0, x1, x2, x3, x4), S2, n, Ws, rfl, HJ8.out.lst' _, HP.out.1, HP.out.2.1, HP.out.2.2.1, HT2.out.1.1, HT2.out.1.2, HT2.out.2.1, HT2.out.2.2⟩
    have HW9 : Hid (W8.setCells B 0 (wtC (x0, x1, x2, x3, x4)) = W9) := hW9.symm
    clear hW9 HJ8
    go_wp2_with (first | (refine wpList_load_mid rfl 31 _ rfl X7 0 rfl (wtC (x0, x1, x2, x3, x4)) _ HR7.out Tryz.underlying31 rfl (by kernel_rfl) ?_) | (refine wpList_store_mid rfl 31 _ _ rfl B 0 (wtC (x0, x1, x2, x3, x4)).toArray rfl rfl HTh.out (by kernel_rfl) (by simp [Value.oneCell']) ?_; refine wpl_atG HW9.out.symm ?_) | fail)
    refine SwE.by HEnd ?_
    kernel_rfl
  · have HEnd : Hid (PlK w y B C (a0, a1, a2, a3, a4, (s0, s1, s2, s3, s4), a6, a7) (k + 1) (.pointer (some ⟨p, 0, none⟩)) W8) := ⟨p, a9, b9, lst, S2, n, Ws, rfl, HJ8.out, Hls.out.1, Hls.out.2, HP.out.2.2.1, HT2.out.1.1, HT2.out.1.2, HT2.out.2.1, HT2.out.2.2⟩
    clear HJ8
    go_wp2_with fail
    refine SwE.by HEnd ?_
    kernel_rfl
end Go.Proofs.YtbmejaailhjgfaaGreat
