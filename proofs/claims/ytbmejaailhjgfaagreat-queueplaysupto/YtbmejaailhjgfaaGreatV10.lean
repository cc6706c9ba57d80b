/- QueuePlays' walk: what is done in case 10. Condition: the two queues stand as is said of them. QueuePlays' walk: the switch, whole. Condition: the two queues stand as is said of them. -/
import Derived.Test.YtbmejaailhjgfaaGreatV01
import Derived.Test.YtbmejaailhjgfaaGreatV02
import Derived.Test.YtbmejaailhjgfaaGreatV03
import Derived.Test.YtbmejaailhjgfaaGreatV04
import Derived.Test.YtbmejaailhjgfaaGreatV05
import Derived.Test.YtbmejaailhjgfaaGreatV06
import Derived.Test.YtbmejaailhjgfaaGreatV07
import Derived.Test.YtbmejaailhjgfaaGreatV08
import Derived.Test.YtbmejaailhjgfaaGreatV09
namespace Go.Proofs.YtbmejaailhjgfaaGreat
open Go.RowKit Go.Maps
set_option linter.unusedSimpArgs false
set_option maxRecDepth 100000

set_option maxHeartbeats 16000000 in
theorem parm10 {y0 z0 : Nat} {nd : ByteArray} {tries : Int} {w : World} {pz p y B C D off k : Nat} {a b : Value} {lst : WtD} {L : List EnD} {n : Int} {Ws : List WiD} {a0 a1 a2 : Int} {a3 a4 s0 : ByteArray} {s1 s2 s3 s4 : Int} {a6 a7 : Bool} {W4 : World} {t2 : Int} {u6 u14 u15 u16 u17 u18 u19 u20 u21 u22 u23 u24 u25 u26 u27 u28 u29 u30 u31 u32 u33 u34 u41 u42 u43 u44 u45 u46 u47 u48 u49 u50 u51 u52 u53 u54 u55 u56 u57 u58 u59 u60 u61 u62 u66 u67 u68 u69 u70 u71 u72 u73 u74 u75 u76 u77 u78 u79 u80 u81 u82 u83 u84 u85 u86 u87 u88 u89 u90 u91 u92 u93 u94 u95 u96 u97 u98 u99 u100 u101 u102 u103 u104 u105 u106 u107 u108 u109 u110 u111 u112 u113 u114 u115 u116 u117 u118 u119 u120 u121 u122 u123 u124 u125 u126 u127 u128 u129 u130 u131 u132 u133 u134 u135 u136 u137 u138 u139 u140 u141 u142 u143 u144 u145 u146 u147 u148 u149 u150 u151 u152 u153 u154 u155 u156 u157 u158 u159 u160 u161 u162 u163 u164 u165 u166 u167 u168 u169 u170 u171 u172 u173 u174 u175 u176 u177 u178 u179 u180 u181 u182 u183 u184 u185 u186 u187 u188 u189 u190 u191 u192 u193 u194 u195 u196 u197 u198 u199 u200 u201 u202 u203 u204 u205 u206 u207 u208 u209 u210 u211 u212 u213 u214 u215 u216 u217 u218 u219 u220 u221 u222 u223 u224 u225 u226 u227 u228 u229 u230 u231 u232 u233 u234 u235 u236 u237 u238 u239 u240 u241 u242 u243 u244 u245 u246 u247 u248 u249 u250 u251 u252 u253 u254 u255 u256 u257 u258 u259 u260 u261 u262 u263 u264 u265 u266 u267 u268 u269 u270 u271 u272 : Value}
    (Hm : Hid (y0 ≤ 1048576)) (HJ : Hid (PlJ w W4 p y a b B C lst (a0, a1, a2, a3, a4, (s0, s1, s2, s3, s4), a6, a7) L n Ws L n Ws)) (Hts : Hid (okTs L)) (Hls : Hid (okS lst.1 ∧ okTr lst)) (Hn : Hid (0 ≤ n ∧ n ≤ (k : Int))) (Hl : Hid (L.length ≤ k ∧ Ws.length ≤ k ∧ k < y0)) (Hok : Hid (okAct (a0, a1, a2, a3, a4, (s0, s1, s2, s3, s4), a6, a7)))
    {R : Exit → Act → World → Prop} {K' : Act → World → Prop} (hJ : ∀ (a' : Act) (w' : World), SwE y0 z0 nd tries w pz y B C D off k 10 (a0, a1, a2, a3, a4, (s0, s1, s2, s3, s4), a6, a7) t2 a' w' → K' a' w') :
    Code.wp Tryz.prog ([1, 1, 1, 1, 1, 0, 1, 0, 0, 1, 0, 0, 1, 1, 1, 0, 1].foldl kidC (Tryz.f3.body.getD .skip)) (Exit.then K' R) { tmps := #[Value.slice (some { block := D, off := off }) y0 z0, Value.string nd, Value.int IntKind.i64 tries, undef, undef, undef, u6, Value.pointer (some { block := p, off := 0 }), Value.pointer (some { block := y, off := 0 }), Value.int IntKind.i64 t2, Value.pointer (some { block := B, off := 0 }), Value.int IntKind.i64 ((k : Nat) : Int), Value.pointer (some { block := C, off := 0 }), Value.bool true, u14, u15, u16, u17, u18, u19, u20, u21, u22, u23, u24, u25, u26, u27, u28, u29, u30, u31, u32, u33, u34, Value.pointer (some { block := pz, off := 0 }), Value.agg #[Value.slice none 0 0, Value.int IntKind.i64 0, Value.slice none 0 0], Value.pointer (some { block := y, off := 0 }), Value.pointer (some { block := pz, off := 0 }), Value.bool false, Value.agg #[Value.string { data := #[] }, Value.int IntKind.i64 0, Value.int IntKind.i64 0, Value.int IntKind.i64 0, Value.int IntKind.i64 0], u41, u42, u43, u44, u45, u46, u47, u48, u49, u50, u51, u52, u53, u54, u55, u56, u57, u58, u59, u60, u61, u62, Value.pointer (some { block := C, off := 0 }), Value.int IntKind.i64 a0, Value.int IntKind.i64 ((10 : Nat) : Int), u66, u67, u68, u69, u70, u71, u72, u73, u74, u75, u76, u77, u78, u79, u80, u81, u82, u83, u84, u85, u86, u87, u88, u89, u90, u91, u92, u93, u94, u95, u96, u97, u98, u99, u100, u101, u102, u103, u104, u105, u106, u107, u108, u109, u110, u111, u112, u113, u114, u115, u116, u117, u118, u119, u120, u121, u122, u123, u124, u125, u126, u127, u128, u129, u130, u131, u132, u133, u134, u135, u136, u137, u138, u139, u140, u141, u142, u143, u144, u145, u146, u147, u148, u149, u150, u151, u152, u153, u154, u155, u156, u157, u158, u159, u160, u161, u162, u163, u164, u165, u166, u167, u168, u169, u170, u171, u172, u173, u174, u175, u176, u177, u178, u179, u180, u181, u182, u183, u184, u185, u186, u187, u188, u189, u190, u191, u192, u193, u194, u195, u196, u197, u198, u199, u200, u201, u202, u203, u204, u205, u206, u207, u208, u209, u210, u211, u212, u213, u214, u215, u216, u217, u218, u219, u220, u221, u222, u223, u224, u225, u226, u227, u228, u229, u230, u231, u232, u233, u234, u235, u236, u237, u238, u239, u240, u241, u242, u243, u244, u245, u246, u247, u248, u249, u250, u251, u252, u253, u254, u255, u256, u257, u258, u259, u260, u261, u262, u263, u264, u265, u266, u267, u268, u269, u270, u271, u272, undef, undef, undef, undef, undef, undef, undef, undef, undef, undef, undef, undef, undef, undef, undef, undef, undef], defers := [] } W4 := by
  conv =>
    arg 2
    whnf
  have hA := yclone_calls HJ.out.q (by have := Hl.out; have := Hm.out; omega)
  go_wp2_with fail
  refine hA.mono ?_
  rintro e u1 ⟨c9, rfl, h5, b5⟩
  try dsimp only
  clear hA
  have HO : Hid (QA (FO w y a b B C W4 u1) u1 p L n Ws ∧ Turns (FO w y a b B C W4 u1) u1 u1) := ⟨HJ.out.old b5, Turns.refl _ _⟩
  have HS : Hid (∀ z, Turns (FO w y a b B C W4 u1) u1 z → PlJ w z c9 y a b B C lst (a0, a1, a2, a3, a4, (s0, s1, s2, s3, s4), a6, a7) L n Ws L n Ws) := fun z ht => HJ.out.spoil h5 b5 ht
  have HF : Hid (∀ z : World, u1.heap.size ≤ z.heap.size → ∀ x, z.heap.size ≤ x → FO w y a b B C W4 u1 x) := fun z hz => FO.new HJ.out b5 hz
  have HD : Hid (∀ z, Turns (FO w y a b B C W4 u1) u1 z → z.cell? ⟨C, 3, none⟩ = some (.string a3)) := fun z ht => ((HS.out z ht).box.2 3 _ rfl).1
  have HOk : Hid (∀ e ∈ L, okE e) := HJ.out.q.ok
  clear h5 b5 HJ
  have hA := ypop_calls HO.out.1 (HF.out u1 (Nat.le_refl _)) (by have := Hl.out; have := Hm.out; omega) (fun e he => (Hts.out e he).1)
  go_wp2_with fail
  refine hA.mono ?_
  rintro e z5 ⟨x9, er9, S2, rfl, hpo, h6, k6⟩
  try dsimp only
  clear hA
  have HP : Hid (S2.length ≤ L.length) := (popO_facts hpo Hts.out HOk.out).2.2.2
  have HO2 : Hid (QA (FO w y a b B C W4 u1) z5 p S2 n Ws ∧ Turns (FO w y a b B C W4 u1) u1 z5) := ⟨h6, HO.out.2.trans k6⟩
  clear h6 k6 HO
  have HO := HO2
  clear HO2
  clear hpo
  have hA := ymove_calls HO.out.1 (HF.out z5 HO.out.2.size) 9 (by have := HP.out; have := Hl.out; have := Hm.out; omega)
  go_wp2_with fail
  refine hA.mono ?_
  rintro e z6 ⟨rfl, h6, k6⟩
  try dsimp only
  clear hA
  have HO2 : Hid (QA (FO w y a b B C W4 u1) z6 p (mvL S2 9) n Ws ∧ Turns (FO w y a b B C W4 u1) u1 z6) := ⟨h6, HO.out.2.trans k6⟩
  clear h6 k6 HO
  have HO := HO2
  clear HO2
  have d3 := HD.out z6 HO.out.2
  obtain ⟨sp, hsp⟩ : ∃ sp : ByteArray, sp = ⟨#[115, 112, 111, 105, 108, 116]⟩ := ⟨_, rfl⟩
  have HSp : Hid (okS sp) := by rw [hsp]; show (ByteArray.mk #[115, 112, 111, 105, 108, 116]).size ≤ 140737488355328; decide
  have hA := yhope_calls HO.out.1 a3 sp Hok.out.1 HSp.out (by have := Hl.out; have := Hm.out; omega)
  rw [hsp] at hA
  go_wp2_with fail
  refine hA.mono ?_
  rintro e z7 ⟨rfl, h6, k6⟩
  try dsimp only
  clear hA d3
  rw [← hsp] at h6
  have HO2 : Hid (QA (FO w y a b B C W4 u1) z7 p (mvL S2 9) n (hpY Ws a3 sp) ∧ Turns (FO w y a b B C W4 u1) u1 z7) := ⟨h6, HO.out.2.trans k6⟩
  clear h6 k6 HO hsp HSp
  have HO := HO2
  clear HO2
  have d3 := HD.out z7 HO.out.2
  have HLw : Hid ((mvL S2 9).length ≤ L.length) := by rw [Hid, len_mv]; exact HP.out
  have hA := ydrop_calls HO.out.1 (HF.out z7 HO.out.2.size) a3 Hok.out.1 (by have := HLw.out; have := Hl.out; have := Hm.out; omega)
  go_wp2_with fail
  refine hA.mono ?_
  rintro e z8 ⟨rfl, h6, k6⟩
  try dsimp only
  clear hA d3
  have HEnd : Hid (PlK w y B C (a0, a1, a2, a3, a4, (s0, s1, s2, s3, s4), a6, a7) (k + 1) (.pointer (some ⟨c9, 0, none⟩)) z8) := ⟨c9, a, b, lst, L, n, Ws, rfl, HS.out z8 (HO.out.2.trans k6), Hls.out.1, Hls.out.2, Hts.out, Hn.out.1, by have := Hn.out.2; push_cast; omega, by have := Hl.out; omega, by have := Hl.out; omega⟩
  clear h6 k6 HO HS HF HD
  go_wp2_with fail
  refine SwE.by HEnd ?_
  kernel_rfl
end Go.Proofs.YtbmejaailhjgfaaGreat
namespace Go.Proofs.YtbmejaailhjgfaaGreat
open Go.RowKit Go.Maps
set_option linter.unusedSimpArgs false
set_option maxRecDepth 100000

theorem psw {y0 z0 : Nat} {nd : ByteArray} {tries : Int} {w : World} {pz p y B C D off k c : Nat} {a b : Value} {lst : WtD} {L : List EnD} {n : Int} {Ws : List WiD} {a0 a1 a2 : Int} {a3 a4 s0 : ByteArray} {s1 s2 s3 s4 : Int} {a6 a7 : Bool} {W4 : World} {t2 : Int} {u6 u14 u15 u16 u17 u18 u19 u20 u21 u22 u23 u24 u25 u26 u27 u28 u29 u30 u31 u32 u33 u34 u41 u42 u43 u44 u45 u46 u47 u48 u49 u50 u51 u52 u53 u54 u55 u56 u57 u58 u59 u60 u61 u62 u66 u67 u68 u69 u70 u71 u72 u73 u74 u75 u76 u77 u78 u79 u80 u81 u82 u83 u84 u85 u86 u87 u88 u89 u90 u91 u92 u93 u94 u95 u96 u97 u98 u99 u100 u101 u102 u103 u104 u105 u106 u107 u108 u109 u110 u111 u112 u113 u114 u115 u116 u117 u118 u119 u120 u121 u122 u123 u124 u125 u126 u127 u128 u129 u130 u131 u132 u133 u134 u135 u136 u137 u138 u139 u140 u141 u142 u143 u144 u145 u146 u147 u148 u149 u150 u151 u152 u153 u154 u155 u156 u157 u158 u159 u160 u161 u162 u163 u164 u165 u166 u167 u168 u169 u170 u171 u172 u173 u174 u175 u176 u177 u178 u179 u180 u181 u182 u183 u184 u185 u186 u187 u188 u189 u190 u191 u192 u193 u194 u195 u196 u197 u198 u199 u200 u201 u202 u203 u204 u205 u206 u207 u208 u209 u210 u211 u212 u213 u214 u215 u216 u217 u218 u219 u220 u221 u222 u223 u224 u225 u226 u227 u228 u229 u230 u231 u232 u233 u234 u235 u236 u237 u238 u239 u240 u241 u242 u243 u244 u245 u246 u247 u248 u249 u250 u251 u252 u253 u254 u255 u256 u257 u258 u259 u260 u261 u262 u263 u264 u265 u266 u267 u268 u269 u270 u271 u272 : Value}
    (Hm : Hid (y0 ≤ 1048576)) (HJ : Hid (PlJ w W4 p y a b B C lst (a0, a1, a2, a3, a4, (s0, s1, s2, s3, s4), a6, a7) L n Ws L n Ws)) (Hts : Hid (okTs L)) (Hls : Hid (okS lst.1 ∧ okTr lst)) (Hn : Hid (0 ≤ n ∧ n ≤ (k : Int))) (Hl : Hid (L.length ≤ k ∧ Ws.length ≤ k ∧ k < y0)) (Hok : Hid (okAct (a0, a1, a2, a3, a4, (s0, s1, s2, s3, s4), a6, a7))) (hc : c < 11)
    {R : Exit → Act → World → Prop} {K' : Act → World → Prop} (hK : ∀ (a' : Act) (w' : World), SwE y0 z0 nd tries w pz y B C D off k c (a0, a1, a2, a3, a4, (s0, s1, s2, s3, s4), a6, a7) t2 a' w' → K' a' w') :
    Code.wp Tryz.prog ([1, 1, 1, 1, 1, 0, 1, 0, 0, 1, 0, 0, 1, 1, 1, 0, 1].foldl kidC (Tryz.f3.body.getD .skip)) (Exit.then K' R) { tmps := #[Value.slice (some { block := D, off := off }) y0 z0, Value.string nd, Value.int IntKind.i64 tries, undef, undef, undef, u6, Value.pointer (some { block := p, off := 0 }), Value.pointer (some { block := y, off := 0 }), Value.int IntKind.i64 t2, Value.pointer (some { block := B, off := 0 }), Value.int IntKind.i64 ((k : Nat) : Int), Value.pointer (some { block := C, off := 0 }), Value.bool true, u14, u15, u16, u17, u18, u19, u20, u21, u22, u23, u24, u25, u26, u27, u28, u29, u30, u31, u32, u33, u34, Value.pointer (some { block := pz, off := 0 }), Value.agg #[Value.slice none 0 0, Value.int IntKind.i64 0, Value.slice none 0 0], Value.pointer (some { block := y, off := 0 }), Value.pointer (some { block := pz, off := 0 }), Value.bool false, Value.agg #[Value.string { data := #[] }, Value.int IntKind.i64 0, Value.int IntKind.i64 0, Value.int IntKind.i64 0, Value.int IntKind.i64 0], u41, u42, u43, u44, u45, u46, u47, u48, u49, u50, u51, u52, u53, u54, u55, u56, u57, u58, u59, u60, u61, u62, Value.pointer (some { block := C, off := 0 }), Value.int IntKind.i64 a0, Value.int IntKind.i64 ((c : Nat) : Int), u66, u67, u68, u69, u70, u71, u72, u73, u74, u75, u76, u77, u78, u79, u80, u81, u82, u83, u84, u85, u86, u87, u88, u89, u90, u91, u92, u93, u94, u95, u96, u97, u98, u99, u100, u101, u102, u103, u104, u105, u106, u107, u108, u109, u110, u111, u112, u113, u114, u115, u116, u117, u118, u119, u120, u121, u122, u123, u124, u125, u126, u127, u128, u129, u130, u131, u132, u133, u134, u135, u136, u137, u138, u139, u140, u141, u142, u143, u144, u145, u146, u147, u148, u149, u150, u151, u152, u153, u154, u155, u156, u157, u158, u159, u160, u161, u162, u163, u164, u165, u166, u167, u168, u169, u170, u171, u172, u173, u174, u175, u176, u177, u178, u179, u180, u181, u182, u183, u184, u185, u186, u187, u188, u189, u190, u191, u192, u193, u194, u195, u196, u197, u198, u199, u200, u201, u202, u203, u204, u205, u206, u207, u208, u209, u210, u211, u212, u213, u214, u215, u216, u217, u218, u219, u220, u221, u222, u223, u224, u225, u226, u227, u228, u229, u230, u231, u232, u233, u234, u235, u236, u237, u238, u239, u240, u241, u242, u243, u244, u245, u246, u247, u248, u249, u250, u251, u252, u253, u254, u255, u256, u257, u258, u259, u260, u261, u262, u263, u264, u265, u266, u267, u268, u269, u270, u271, u272, undef, undef, undef, undef, undef, undef, undef, undef, undef, undef, undef, undef, undef, undef, undef, undef, undef], defers := [] } W4 := by
  have hc' : c = 0 ∨ c = 1 ∨ c = 2 ∨ c = 3 ∨ c = 4 ∨ c = 5 ∨ c = 6 ∨ c = 7 ∨ c = 8 ∨ c = 9 ∨ c = 10 := by omega
  rcases hc' with rfl | rfl | rfl | rfl | rfl | rfl | rfl | rfl | rfl | rfl | rfl
  · exact parm0 Hm HJ Hts Hls Hn Hl Hok hK
  · exact parm1 Hm HJ Hts Hls Hn Hl Hok hK
  · exact parm2 Hm HJ Hts Hls Hn Hl Hok hK
  · exact parm3 Hm HJ Hts Hls Hn Hl Hok hK
  · exact parm4 Hm HJ Hts Hls Hn Hl Hok hK
  · exact parm5 Hm HJ Hts Hls Hn Hl Hok hK
  · exact parm6 Hm HJ Hts Hls Hn Hl Hok hK
  · exact parm7 Hm HJ Hts Hls Hn Hl Hok hK
  · exact parm8 Hm HJ Hts Hls Hn Hl Hok hK
  · exact parm9 Hm HJ Hts Hls Hn Hl Hok hK
  · exact parm10 Hm HJ Hts Hls Hn Hl Hok hK
end Go.Proofs.YtbmejaailhjgfaaGreat
