/- QueuePlays' walk: what is done in case 6. Condition: the two queues stand as is said of them. QueuePlays' walk: what is done in case 7. Condition: the two queues stand as is said of them. -/
import Derived.Test.YtbmejaailhjgfaaGreatV01
namespace Go.Proofs.YtbmejaailhjgfaaGreat
open Go.RowKit Go.Maps
set_option linter.unusedSimpArgs false
set_option maxRecDepth 100000

set_option maxHeartbeats 16000000 in
theorem parm6 {y0 z0 : Nat} {nd : ByteArray} {tries : Int} {w : World} {pz p y B C D off k : Nat} {a b : Value} {lst : WtD} {L : List EnD} {n : Int} {Ws : List WiD} {a0 a1 a2 : Int} {a3 a4 s0 : ByteArray} {s1 s2 s3 s4 : Int} {a6 a7 : Bool} {W4 : World} {t2 : Int} {u6 u14 u15 u16 u17 u18 u19 u20 u21 u22 u23 u24 u25 u26 u27 u28 u29 u30 u31 u32 u33 u34 u41 u42 u43 u44 u45 u46 u47 u48 u49 u50 u51 u52 u53 u54 u55 u56 u57 u58 u59 u60 u61 u62 u66 u67 u68 u69 u70 u71 u72 u73 u74 u75 u76 u77 u78 u79 u80 u81 u82 u83 u84 u85 u86 u87 u88 u89 u90 u91 u92 u93 u94 u95 u96 u97 u98 u99 u100 u101 u102 u103 u104 u105 u106 u107 u108 u109 u110 u111 u112 u113 u114 u115 u116 u117 u118 u119 u120 u121 u122 u123 u124 u125 u126 u127 u128 u129 u130 u131 u132 u133 u134 u135 u136 u137 u138 u139 u140 u141 u142 u143 u144 u145 u146 u147 u148 u149 u150 u151 u152 u153 u154 u155 u156 u157 u158 u159 u160 u161 u162 u163 u164 u165 u166 u167 u168 u169 u170 u171 u172 u173 u174 u175 u176 u177 u178 u179 u180 u181 u182 u183 u184 u185 u186 u187 u188 u189 u190 u191 u192 u193 u194 u195 u196 u197 u198 u199 u200 u201 u202 u203 u204 u205 u206 u207 u208 u209 u210 u211 u212 u213 u214 u215 u216 u217 u218 u219 u220 u221 u222 u223 u224 u225 u226 u227 u228 u229 u230 u231 u232 u233 u234 u235 u236 u237 u238 u239 u240 u241 u242 u243 u244 u245 u246 u247 u248 u249 u250 u251 u252 u253 u254 u255 u256 u257 u258 u259 u260 u261 u262 u263 u264 u265 u266 u267 u268 u269 u270 u271 u272 : Value}
    (Hm : Hid (y0 ≤ 1048576)) (HJ : Hid (PlJ w W4 p y a b B C lst (a0, a1, a2, a3, a4, (s0, s1, s2, s3, s4), a6, a7) L n Ws L n Ws)) (Hts : Hid (okTs L)) (Hls : Hid (okS lst.1 ∧ okTr lst)) (Hn : Hid (0 ≤ n ∧ n ≤ (k : Int))) (Hl : Hid (L.length ≤ k ∧ Ws.length ≤ k ∧ k < y0)) (_Hok : Hid (okAct (a0, a1, a2, a3, a4, (s0, s1, s2, s3, s4), a6, a7)))
    {R : Exit → Act → World → Prop} {K' : Act → World → Prop} (hJ : ∀ (a' : Act) (w' : World), SwE y0 z0 nd tries w pz y B C D off k 6 (a0, a1, a2, a3, a4, (s0, s1, s2, s3, s4), a6, a7) t2 a' w' → K' a' w') :
    Code.wp Tryz.prog ([1, 1, 1, 1, 1, 0, 1, 0, 0, 1, 0, 0, 1, 1, 1, 0, 1].foldl kidC (Tryz.f3.body.getD .skip)) (Exit.then K' R) { tmps := #[Value.slice (some { block := D, off := off }) y0 z0, Value.string nd, Value.int IntKind.i64 tries, undef, undef, undef, u6, Value.pointer (some { block := p, off := 0 }), Value.pointer (some { block := y, off := 0 }), Value.int IntKind.i64 t2, Value.pointer (some { block := B, off := 0 }), Value.int IntKind.i64 ((k : Nat) : Int), Value.pointer (some { block := C, off := 0 }), Value.bool true, u14, u15, u16, u17, u18, u19, u20, u21, u22, u23, u24, u25, u26, u27, u28, u29, u30, u31, u32, u33, u34, Value.pointer (some { block := pz, off := 0 }), Value.agg #[Value.slice none 0 0, Value.int IntKind.i64 0, Value.slice none 0 0], Value.pointer (some { block := y, off := 0 }), Value.pointer (some { block := pz, off := 0 }), Value.bool false, Value.agg #[Value.string { data := #[] }, Value.int IntKind.i64 0, Value.int IntKind.i64 0, Value.int IntKind.i64 0, Value.int IntKind.i64 0], u41, u42, u43, u44, u45, u46, u47, u48, u49, u50, u51, u52, u53, u54, u55, u56, u57, u58, u59, u60, u61, u62, Value.pointer (some { block := C, off := 0 }), Value.int IntKind.i64 a0, Value.int IntKind.i64 ((6 : Nat) : Int), u66, u67, u68, u69, u70, u71, u72, u73, u74, u75, u76, u77, u78, u79, u80, u81, u82, u83, u84, u85, u86, u87, u88, u89, u90, u91, u92, u93, u94, u95, u96, u97, u98, u99, u100, u101, u102, u103, u104, u105, u106, u107, u108, u109, u110, u111, u112, u113, u114, u115, u116, u117, u118, u119, u120, u121, u122, u123, u124, u125, u126, u127, u128, u129, u130, u131, u132, u133, u134, u135, u136, u137, u138, u139, u140, u141, u142, u143, u144, u145, u146, u147, u148, u149, u150, u151, u152, u153, u154, u155, u156, u157, u158, u159, u160, u161, u162, u163, u164, u165, u166, u167, u168, u169, u170, u171, u172, u173, u174, u175, u176, u177, u178, u179, u180, u181, u182, u183, u184, u185, u186, u187, u188, u189, u190, u191, u192, u193, u194, u195, u196, u197, u198, u199, u200, u201, u202, u203, u204, u205, u206, u207, u208, u209, u210, u211, u212, u213, u214, u215, u216, u217, u218, u219, u220, u221, u222, u223, u224, u225, u226, u227, u228, u229, u230, u231, u232, u233, u234, u235, u236, u237, u238, u239, u240, u241, u242, u243, u244, u245, u246, u247, u248, u249, u250, u251, u252, u253, u254, u255, u256, u257, u258, u259, u260, u261, u262, u263, u264, u265, u266, u267, u268, u269, u270, u271, u272, undef, undef, undef, undef, undef, undef, undef, undef, undef, undef, undef, undef, undef, undef, undef, undef, undef], defers := [] } W4 := by
  conv =>
    arg 2
    whnf
  obtain ⟨mn, hmn⟩ : ∃ m, m = mvN L t2 := ⟨_, rfl⟩
  obtain ⟨me, hme⟩ : ∃ m, m = nowE t2 := ⟨_, rfl⟩
  obtain ⟨L2, hL2⟩ : ∃ L2, L2 = mvL L t2 := ⟨_, rfl⟩
  have HT2 : Hid (okTs L2 ∧ (0 ≤ n ∧ n ≤ ((k + 1 : Nat) : Int)) ∧ L2.length ≤ k + 1 ∧ Ws.length ≤ k + 1) := by
    have h1 := len_mv L t2; have h3 := Hn.out; have h4 := Hl.out
    refine ⟨by rw [hL2]; exact Hts.out.mv t2, ⟨by omega, by push_cast; omega⟩, by rw [hL2]; omega, by omega⟩
  have hA := ymove_calls HJ.out.q HJ.out.hF t2 (by have := Hl.out; have := Hm.out; omega)
  rw [← hmn, ← hme, ← hL2] at hA
  have HB : Hid (∀ {u : World} {S : List EnD} {m : Int} {Vs : List WiD}, PlJ w u p y a b B C lst (a0, a1, a2, a3, a4, (s0, s1, s2, s3, s4), a6, a7) S m Vs L n Ws → Calls Tryz.prog 13 #[.pointer (some ⟨y, 0, none⟩), .int .i64 t2] u fun e u' => e = .returned (.tuple #[.int .i64 mn, .int .i64 me]) ∧ QOut w y a b L2 n Ws u u') := fun {u S m Vs} h => by
    have h1 := rMove_calls w y a b L n Ws t2 u h.r (by have := Hl.out; have := Hm.out; omega)
    rw [← mvN_eq, ← mvL_eq, show (if whenB t2 = true then (0 : Int) else 2) = nowE t2 from rfl, ← hmn, ← hme, ← hL2] at h1
    exact h1
  clear hmn hme hL2
  go_wp2_with fail
  refine hA.mono ?_
  rintro e z5 ⟨rfl, h5, k5⟩
  try dsimp only
  clear hA
  have HJ5 : Hid (PlJ w z5 p y a b B C lst (a0, a1, a2, a3, a4, (s0, s1, s2, s3, s4), a6, a7) L2 n Ws L n Ws) := HJ.out.prog h5 k5
  clear h5 k5 HJ
  have hB := HB.out HJ5.out
  clear HB
  go_wp2_with fail
  refine hB.mono ?_
  rintro e z6 ⟨rfl, ho⟩
  try dsimp only
  clear hB
  have HEnd : Hid (PlK w y B C (a0, a1, a2, a3, a4, (s0, s1, s2, s3, s4), a6, a7) (k + 1) (.pointer (some ⟨p, 0, none⟩)) z6) := PlK.of HJ5.out ho Hls.out HT2.out.1 HT2.out.2.1 HT2.out.2.2
  clear ho HJ5
  go_wp2_with fail
  refine SwE.by HEnd ?_
  kernel_rfl
end Go.Proofs.YtbmejaailhjgfaaGreat
namespace Go.Proofs.YtbmejaailhjgfaaGreat
open Go.RowKit Go.Maps
set_option linter.unusedSimpArgs false
set_option maxRecDepth 100000

set_option maxHeartbeats 16000000 in
theorem parm7 {y0 z0 : Nat} {nd : ByteArray} {tries : Int} {w : World} {pz p y B C D off k : Nat} {a b : Value} {lst : WtD} {L : List EnD} {n : Int} {Ws : List WiD} {a0 a1 a2 : Int} {a3 a4 s0 : ByteArray} {s1 s2 s3 s4 : Int} {a6 a7 : Bool} {W4 : World} {t2 : Int} {u6 u14 u15 u16 u17 u18 u19 u20 u21 u22 u23 u24 u25 u26 u27 u28 u29 u30 u31 u32 u33 u34 u41 u42 u43 u44 u45 u46 u47 u48 u49 u50 u51 u52 u53 u54 u55 u56 u57 u58 u59 u60 u61 u62 u66 u67 u68 u69 u70 u71 u72 u73 u74 u75 u76 u77 u78 u79 u80 u81 u82 u83 u84 u85 u86 u87 u88 u89 u90 u91 u92 u93 u94 u95 u96 u97 u98 u99 u100 u101 u102 u103 u104 u105 u106 u107 u108 u109 u110 u111 u112 u113 u114 u115 u116 u117 u118 u119 u120 u121 u122 u123 u124 u125 u126 u127 u128 u129 u130 u131 u132 u133 u134 u135 u136 u137 u138 u139 u140 u141 u142 u143 u144 u145 u146 u147 u148 u149 u150 u151 u152 u153 u154 u155 u156 u157 u158 u159 u160 u161 u162 u163 u164 u165 u166 u167 u168 u169 u170 u171 u172 u173 u174 u175 u176 u177 u178 u179 u180 u181 u182 u183 u184 u185 u186 u187 u188 u189 u190 u191 u192 u193 u194 u195 u196 u197 u198 u199 u200 u201 u202 u203 u204 u205 u206 u207 u208 u209 u210 u211 u212 u213 u214 u215 u216 u217 u218 u219 u220 u221 u222 u223 u224 u225 u226 u227 u228 u229 u230 u231 u232 u233 u234 u235 u236 u237 u238 u239 u240 u241 u242 u243 u244 u245 u246 u247 u248 u249 u250 u251 u252 u253 u254 u255 u256 u257 u258 u259 u260 u261 u262 u263 u264 u265 u266 u267 u268 u269 u270 u271 u272 : Value}
    (Hm : Hid (y0 ≤ 1048576)) (HJ : Hid (PlJ w W4 p y a b B C lst (a0, a1, a2, a3, a4, (s0, s1, s2, s3, s4), a6, a7) L n Ws L n Ws)) (Hts : Hid (okTs L)) (Hls : Hid (okS lst.1 ∧ okTr lst)) (Hn : Hid (0 ≤ n ∧ n ≤ (k : Int))) (Hl : Hid (L.length ≤ k ∧ Ws.length ≤ k ∧ k < y0)) (_Hok : Hid (okAct (a0, a1, a2, a3, a4, (s0, s1, s2, s3, s4), a6, a7)))
    {R : Exit → Act → World → Prop} {K' : Act → World → Prop} (hJ : ∀ (a' : Act) (w' : World), SwE y0 z0 nd tries w pz y B C D off k 7 (a0, a1, a2, a3, a4, (s0, s1, s2, s3, s4), a6, a7) t2 a' w' → K' a' w') :
    Code.wp Tryz.prog ([1, 1, 1, 1, 1, 0, 1, 0, 0, 1, 0, 0, 1, 1, 1, 0, 1].foldl kidC (Tryz.f3.body.getD .skip)) (Exit.then K' R) { tmps := #[Value.slice (some { block := D, off := off }) y0 z0, Value.string nd, Value.int IntKind.i64 tries, undef, undef, undef, u6, Value.pointer (some { block := p, off := 0 }), Value.pointer (some { block := y, off := 0 }), Value.int IntKind.i64 t2, Value.pointer (some { block := B, off := 0 }), Value.int IntKind.i64 ((k : Nat) : Int), Value.pointer (some { block := C, off := 0 }), Value.bool true, u14, u15, u16, u17, u18, u19, u20, u21, u22, u23, u24, u25, u26, u27, u28, u29, u30, u31, u32, u33, u34, Value.pointer (some { block := pz, off := 0 }), Value.agg #[Value.slice none 0 0, Value.int IntKind.i64 0, Value.slice none 0 0], Value.pointer (some { block := y, off := 0 }), Value.pointer (some { block := pz, off := 0 }), Value.bool false, Value.agg #[Value.string { data := #[] }, Value.int IntKind.i64 0, Value.int IntKind.i64 0, Value.int IntKind.i64 0, Value.int IntKind.i64 0], u41, u42, u43, u44, u45, u46, u47, u48, u49, u50, u51, u52, u53, u54, u55, u56, u57, u58, u59, u60, u61, u62, Value.pointer (some { block := C, off := 0 }), Value.int IntKind.i64 a0, Value.int IntKind.i64 ((7 : Nat) : Int), u66, u67, u68, u69, u70, u71, u72, u73, u74, u75, u76, u77, u78, u79, u80, u81, u82, u83, u84, u85, u86, u87, u88, u89, u90, u91, u92, u93, u94, u95, u96, u97, u98, u99, u100, u101, u102, u103, u104, u105, u106, u107, u108, u109, u110, u111, u112, u113, u114, u115, u116, u117, u118, u119, u120, u121, u122, u123, u124, u125, u126, u127, u128, u129, u130, u131, u132, u133, u134, u135, u136, u137, u138, u139, u140, u141, u142, u143, u144, u145, u146, u147, u148, u149, u150, u151, u152, u153, u154, u155, u156, u157, u158, u159, u160, u161, u162, u163, u164, u165, u166, u167, u168, u169, u170, u171, u172, u173, u174, u175, u176, u177, u178, u179, u180, u181, u182, u183, u184, u185, u186, u187, u188, u189, u190, u191, u192, u193, u194, u195, u196, u197, u198, u199, u200, u201, u202, u203, u204, u205, u206, u207, u208, u209, u210, u211, u212, u213, u214, u215, u216, u217, u218, u219, u220, u221, u222, u223, u224, u225, u226, u227, u228, u229, u230, u231, u232, u233, u234, u235, u236, u237, u238, u239, u240, u241, u242, u243, u244, u245, u246, u247, u248, u249, u250, u251, u252, u253, u254, u255, u256, u257, u258, u259, u260, u261, u262, u263, u264, u265, u266, u267, u268, u269, u270, u271, u272, undef, undef, undef, undef, undef, undef, undef, undef, undef, undef, undef, undef, undef, undef, undef, undef, undef], defers := [] } W4 := by
  conv =>
    arg 2
    whnf
  obtain ⟨mn, hmn⟩ : ∃ m, m = tkN L t2 := ⟨_, rfl⟩
  obtain ⟨me, hme⟩ : ∃ m, m = nowE t2 := ⟨_, rfl⟩
  obtain ⟨L2, hL2⟩ : ∃ L2, L2 = tkL L t2 := ⟨_, rfl⟩
  have HT2 : Hid (okTs L2 ∧ (0 ≤ n ∧ n ≤ ((k + 1 : Nat) : Int)) ∧ L2.length ≤ k + 1 ∧ Ws.length ≤ k + 1) := by
    have h1 := len_tk L t2; have h3 := Hn.out; have h4 := Hl.out
    refine ⟨by rw [hL2]; exact Hts.out.tk t2, ⟨by omega, by push_cast; omega⟩, by rw [hL2]; omega, by omega⟩
  have hA := ytick_calls HJ.out.q HJ.out.hF t2 (by have := Hl.out; have := Hm.out; omega)
  rw [← hmn, ← hme, ← hL2] at hA
  have HB : Hid (∀ {u : World} {S : List EnD} {m : Int} {Vs : List WiD}, PlJ w u p y a b B C lst (a0, a1, a2, a3, a4, (s0, s1, s2, s3, s4), a6, a7) S m Vs L n Ws → Calls Tryz.prog 15 #[.pointer (some ⟨y, 0, none⟩), .int .i64 t2] u fun e u' => e = .returned (.tuple #[.int .i64 mn, .int .i64 me]) ∧ QOut w y a b L2 n Ws u u') := fun {u S m Vs} h => by
    have h1 := rTick_calls w y a b L n Ws t2 u h.r (by have := Hl.out; have := Hm.out; omega)
    rw [← tkN_eq, ← tkL_eq, show (if whenB t2 = true then (0 : Int) else 2) = nowE t2 from rfl, ← hmn, ← hme, ← hL2] at h1
    exact h1
  clear hmn hme hL2
  go_wp2_with fail
  refine hA.mono ?_
  rintro e z5 ⟨rfl, h5, k5⟩
  try dsimp only
  clear hA
  have HJ5 : Hid (PlJ w z5 p y a b B C lst (a0, a1, a2, a3, a4, (s0, s1, s2, s3, s4), a6, a7) L2 n Ws L n Ws) := HJ.out.prog h5 k5
  clear h5 k5 HJ
  have hB := HB.out HJ5.out
  clear HB
  go_wp2_with fail
  refine hB.mono ?_
  rintro e z6 ⟨rfl, ho⟩
  try dsimp only
  clear hB
  have HEnd : Hid (PlK w y B C (a0, a1, a2, a3, a4, (s0, s1, s2, s3, s4), a6, a7) (k + 1) (.pointer (some ⟨p, 0, none⟩)) z6) := PlK.of HJ5.out ho Hls.out HT2.out.1 HT2.out.2.1 HT2.out.2.2
  clear ho HJ5
  go_wp2_with fail
  refine SwE.by HEnd ?_
  kernel_rfl
end Go.Proofs.YtbmejaailhjgfaaGreat
