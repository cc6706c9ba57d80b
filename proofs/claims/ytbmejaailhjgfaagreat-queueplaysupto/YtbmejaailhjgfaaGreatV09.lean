/- QueuePlays' walk: what is done in case 8. Condition: the two queues stand as is said of them. QueuePlays' walk: what is done in case 9. Condition: the two queues stand as is said of them. -/
import Derived.Test.YtbmejaailhjgfaaGreatV01
namespace Go.Proofs.YtbmejaailhjgfaaGreat
open Go.RowKit Go.Maps
set_option linter.unusedSimpArgs false
set_option maxRecDepth 100000

set_option maxHeartbeats 16000000 in
theorem parm8 {y0 z0 : Nat} {nd : ByteArray} {tries : Int} {w : World} {pz p y B C D off k : Nat} {a b : Value} {lst : WtD} {L : List EnD} {n : Int} {Ws : List WiD} {a0 a1 a2 : Int} {a3 a4 s0 : ByteArray} {s1 s2 s3 s4 : Int} {a6 a7 : Bool} {W4 : World} {t2 : Int} {u6 u14 u15 u16 u17 u18 u19 u20 u21 u22 u23 u24 u25 u26 u27 u28 u29 u30 u31 u32 u33 u34 u41 u42 u43 u44 u45 u46 u47 u48 u49 u50 u51 u52 u53 u54 u55 u56 u57 u58 u59 u60 u61 u62 u66 u67 u68 u69 u70 u71 u72 u73 u74 u75 u76 u77 u78 u79 u80 u81 u82 u83 u84 u85 u86 u87 u88 u89 u90 u91 u92 u93 u94 u95 u96 u97 u98 u99 u100 u101 u102 u103 u104 u105 u106 u107 u108 u109 u110 u111 u112 u113 u114 u115 u116 u117 u118 u119 u120 u121 u122 u123 u124 u125 u126 u127 u128 u129 u130 u131 u132 u133 u134 u135 u136 u137 u138 u139 u140 u141 u142 u143 u144 u145 u146 u147 u148 u149 u150 u151 u152 u153 u154 u155 u156 u157 u158 u159 u160 u161 u162 u163 u164 u165 u166 u167 u168 u169 u170 u171 u172 u173 u174 u175 u176 u177 u178 u179 u180 u181 u182 u183 u184 u185 u186 u187 u188 u189 u190 u191 u192 u193 u194 u195 u196 u197 u198 u199 u200 u201 u202 u203 u204 u205 u206 u207 u208 u209 u210 u211 u212 u213 u214 u215 u216 u217 u218 u219 u220 u221 u222 u223 u224 u225 u226 u227 u228 u229 u230 u231 u232 u233 u234 u235 u236 u237 u238 u239 u240 u241 u242 u243 u244 u245 u246 u247 u248 u249 u250 u251 u252 u253 u254 u255 u256 u257 u258 u259 u260 u261 u262 u263 u264 u265 u266 u267 u268 u269 u270 u271 u272 : Value}
    (Hm : Hid (y0 ≤ 1048576)) (HJ : Hid (PlJ w W4 p y a b B C lst (a0, a1, a2, a3, a4, (s0, s1, s2, s3, s4), a6, a7) L n Ws L n Ws)) (Hts : Hid (okTs L)) (Hls : Hid (okS lst.1 ∧ okTr lst)) (Hn : Hid (0 ≤ n ∧ n ≤ (k : Int))) (Hl : Hid (L.length ≤ k ∧ Ws.length ≤ k ∧ k < y0)) (Hok : Hid (okAct (a0, a1, a2, a3, a4, (s0, s1, s2, s3, s4), a6, a7)))
    {R : Exit → Act → World → Prop} {K' : Act → World → Prop} (hJ : ∀ (a' : Act) (w' : World), SwE y0 z0 nd tries w pz y B C D off k 8 (a0, a1, a2, a3, a4, (s0, s1, s2, s3, s4), a6, a7) t2 a' w' → K' a' w') :
    Code.wp Tryz.prog ([1, 1, 1, 1, 1, 0, 1, 0, 0, 1, 0, 0, 1, 1, 1, 0, 1].foldl kidC (Tryz.f3.body.getD .skip)) (Exit.then K' R) { tmps := #[Value.slice (some { block := D, off := off }) y0 z0, Value.string nd, Value.int IntKind.i64 tries, undef, undef, undef, u6, Value.pointer (some { block := p, off := 0 }), Value.pointer (some { block := y, off := 0 }), Value.int IntKind.i64 t2, Value.pointer (some { block := B, off := 0 }), Value.int IntKind.i64 ((k : Nat) : Int), Value.pointer (some { block := C, off := 0 }), Value.bool true, u14, u15, u16, u17, u18, u19, u20, u21, u22, u23, u24, u25, u26, u27, u28, u29, u30, u31, u32, u33, u34, Value.pointer (some { block := pz, off := 0 }), Value.agg #[Value.slice none 0 0, Value.int IntKind.i64 0, Value.slice none 0 0], Value.pointer (some { block := y, off := 0 }), Value.pointer (some { block := pz, off := 0 }), Value.bool false, Value.agg #[Value.string { data := #[] }, Value.int IntKind.i64 0, Value.int IntKind.i64 0, Value.int IntKind.i64 0, Value.int IntKind.i64 0], u41, u42, u43, u44, u45, u46, u47, u48, u49, u50, u51, u52, u53, u54, u55, u56, u57, u58, u59, u60, u61, u62, Value.pointer (some { block := C, off := 0 }), Value.int IntKind.i64 a0, Value.int IntKind.i64 ((8 : Nat) : Int), u66, u67, u68, u69, u70, u71, u72, u73, u74, u75, u76, u77, u78, u79, u80, u81, u82, u83, u84, u85, u86, u87, u88, u89, u90, u91, u92, u93, u94, u95, u96, u97, u98, u99, u100, u101, u102, u103, u104, u105, u106, u107, u108, u109, u110, u111, u112, u113, u114, u115, u116, u117, u118, u119, u120, u121, u122, u123, u124, u125, u126, u127, u128, u129, u130, u131, u132, u133, u134, u135, u136, u137, u138, u139, u140, u141, u142, u143, u144, u145, u146, u147, u148, u149, u150, u151, u152, u153, u154, u155, u156, u157, u158, u159, u160, u161, u162, u163, u164, u165, u166, u167, u168, u169, u170, u171, u172, u173, u174, u175, u176, u177, u178, u179, u180, u181, u182, u183, u184, u185, u186, u187, u188, u189, u190, u191, u192, u193, u194, u195, u196, u197, u198, u199, u200, u201, u202, u203, u204, u205, u206, u207, u208, u209, u210, u211, u212, u213, u214, u215, u216, u217, u218, u219, u220, u221, u222, u223, u224, u225, u226, u227, u228, u229, u230, u231, u232, u233, u234, u235, u236, u237, u238, u239, u240, u241, u242, u243, u244, u245, u246, u247, u248, u249, u250, u251, u252, u253, u254, u255, u256, u257, u258, u259, u260, u261, u262, u263, u264, u265, u266, u267, u268, u269, u270, u271, u272, undef, undef, undef, undef, undef, undef, undef, undef, undef, undef, undef, undef, undef, undef, undef, undef, undef], defers := [] } W4 := by
  conv =>
    arg 2
    whnf
  obtain ⟨dr, hdr⟩ : ∃ dr, dr = drE L a3 := ⟨_, rfl⟩
  obtain ⟨L2, hL2⟩ : ∃ L2, L2 = othG enN a3 L := ⟨_, rfl⟩
  obtain ⟨Ws2, hWs2⟩ : ∃ W, W = drW L a3 Ws := ⟨_, rfl⟩
  have HEq : Hid (dropP L Ws a3 = (dr, L2, Ws2)) := by rw [Hid, drop_eq HJ.out.q.nd HJ.out.q.ok, hL2, hWs2, hdr]
  have HT2 : Hid (okTs L2 ∧ (0 ≤ n ∧ n ≤ ((k + 1 : Nat) : Int)) ∧ L2.length ≤ k + 1 ∧ Ws2.length ≤ k + 1) := by
    have h1 := len_oth L a3; have h2 := len_drW L a3 Ws; have h3 := Hn.out; have h4 := Hl.out
    refine ⟨by rw [hL2]; exact Hts.out.oth a3, ⟨by omega, by push_cast; omega⟩, by rw [hL2]; omega, by rw [hWs2]; omega⟩
  have HCA : Hid (∀ {u : World}, PlJ w u p y a b B C lst (a0, a1, a2, a3, a4, (s0, s1, s2, s3, s4), a6, a7) L n Ws L n Ws → Calls Tryz.prog 16 #[.pointer (some ⟨p, 0, none⟩), .string a3] u fun e w' => e = .returned (.int .i64 dr) ∧ QA (FP w y a b B C) w' p L2 n Ws2 ∧ Turns (FP w y a b B C) u w') := fun {u} h => by
    have h1 := ydrop_calls h.q h.hF a3 Hok.out.1 (by have := Hl.out; have := Hm.out; omega)
    rw [← hdr, ← hL2, ← hWs2] at h1
    exact h1
  clear hdr hL2 hWs2
  have HC : Hid (∀ z, Kept (fun b => b = C) W4 z → z.cell? ⟨C, 3, none⟩ = some (.string a3)) := fun z hz => by
    have q := HJ.out.box.kept hz rfl
    exact (q.2 3 _ rfl).1
  go_upto_region 39 with fail
  have hb0 : Below W4.heap.size W4 W4.drew := (Below.refl _ _).drew
  refine t0 (fun z => Kept (fun b => b = C) W4 z) (Kept.below hb0) (fun hHeld => ?_)
  have Hd : Hid (PlJ w W4.drew p y a b B C lst (a0, a1, a2, a3, a4, (s0, s1, s2, s3, s4), a6, a7) L n Ws L n Ws) := HJ.out.on hb0
  generalize hwd : W4.drew = wd at hHeld Hd ⊢
  clear hwd hb0
  try go_frame
  refine' tk 0 ?_ ?_; rotate_left
  · intro z hz; have f3 := HC.out z hz; clear hz; go_simp; try with_reducible rfl
  try go_frame
  refine' tk 1 ?_ ?_; rotate_left
  · intro z hz; have f3 := HC.out z hz; clear hz; go_simp; try with_reducible rfl
  try go_frame
  refine' tk 2 ?_ ?_; rotate_left
  · intro z hz; have f3 := HC.out z hz; clear hz; go_simp; try with_reducible rfl
  try go_frame
  refine' tk 4 ?_ ?_; rotate_left
  · intro z hz; have f3 := HC.out z hz; clear hz; go_simp; try with_reducible rfl
  try go_frame
  refine' tk 5 ?_ ?_; rotate_left
  · intro z hz; have f3 := HC.out z hz; clear hz; go_simp; try with_reducible rfl
  try go_frame
  refine' tk 6 ?_ ?_; rotate_left
  · intro z hz; have f3 := HC.out z hz; clear hz; go_simp; try with_reducible rfl
  try go_frame
  have hA := HCA.out Hd.out
  clear HCA
  refine tr 3 (fun K hK => ?_)
  go_simp
  refine hA.mono ?_
  rintro e z5 ⟨rfl, h5, k5⟩
  try dsimp only
  clear hA
  have HJ5 : Hid (PlJ w z5 p y a b B C lst (a0, a1, a2, a3, a4, (s0, s1, s2, s3, s4), a6, a7) L2 n Ws2 L n Ws) := Hd.out.prog h5 k5
  have k5b : Kept (fun b => b = C) W4 z5 := hHeld.trans k5.keptC
  clear h5 k5 Hd
  go_wp2_with fail
  refine hK.out _ _ k5b (fun hHeld2 => ?_)
  clear hK K hHeld; have hHeld := hHeld2; clear hHeld2
  try go_frame
  have hB := rDrop_calls w y a b L n Ws a3 _ HJ5.out.r Hok.out.1 (by have := Hl.out; have := Hm.out; omega) (by have := Hl.out; have := Hm.out; omega)
  rw [HEq.out] at hB
  dsimp only at hB
  clear HEq
  refine tr 7 (fun K hK => ?_)
  go_simp
  refine hB.mono ?_
  rintro e z6 ⟨rfl, ho⟩
  try dsimp only
  clear hB
  have HEnd : Hid (PlK w y B C (a0, a1, a2, a3, a4, (s0, s1, s2, s3, s4), a6, a7) (k + 1) (.pointer (some ⟨p, 0, none⟩)) z6) := PlK.of HJ5.out ho Hls.out HT2.out.1 HT2.out.2.1 HT2.out.2.2
  have k6b : Kept (fun b => b = C) W4 z6 := k5b.trans (ho.keptC HJ5.out.nC)
  clear ho HJ5 k5b
  go_wp2_with fail
  refine hK.out _ _ k6b (fun hHeld2 => ?_)
  clear k6b
  clear hK K hHeld; have hHeld := hHeld2; clear hHeld2
  try go_frame
  refine' tk 8 ?_ ?_; rotate_left
  · intro z hz; clear hz; go_simp; try with_reducible rfl
  try go_frame
  refine' tk 9 ?_ ?_; rotate_left
  · intro z hz; clear hz; go_simp; try with_reducible rfl
  try go_frame
  refine tz ?_
  clear hHeld HC
  go_wp2_with fail
  refine SwE.by HEnd ?_
  kernel_rfl
end Go.Proofs.YtbmejaailhjgfaaGreat
namespace Go.Proofs.YtbmejaailhjgfaaGreat
open Go.RowKit Go.Maps
set_option linter.unusedSimpArgs false
set_option maxRecDepth 100000

set_option maxHeartbeats 16000000 in
theorem parm9 {y0 z0 : Nat} {nd : ByteArray} {tries : Int} {w : World} {pz p y B C D off k : Nat} {a b : Value} {lst : WtD} {L : List EnD} {n : Int} {Ws : List WiD} {a0 a1 a2 : Int} {a3 a4 s0 : ByteArray} {s1 s2 s3 s4 : Int} {a6 a7 : Bool} {W4 : World} {t2 : Int} {u6 u14 u15 u16 u17 u18 u19 u20 u21 u22 u23 u24 u25 u26 u27 u28 u29 u30 u31 u32 u33 u34 u41 u42 u43 u44 u45 u46 u47 u48 u49 u50 u51 u52 u53 u54 u55 u56 u57 u58 u59 u60 u61 u62 u66 u67 u68 u69 u70 u71 u72 u73 u74 u75 u76 u77 u78 u79 u80 u81 u82 u83 u84 u85 u86 u87 u88 u89 u90 u91 u92 u93 u94 u95 u96 u97 u98 u99 u100 u101 u102 u103 u104 u105 u106 u107 u108 u109 u110 u111 u112 u113 u114 u115 u116 u117 u118 u119 u120 u121 u122 u123 u124 u125 u126 u127 u128 u129 u130 u131 u132 u133 u134 u135 u136 u137 u138 u139 u140 u141 u142 u143 u144 u145 u146 u147 u148 u149 u150 u151 u152 u153 u154 u155 u156 u157 u158 u159 u160 u161 u162 u163 u164 u165 u166 u167 u168 u169 u170 u171 u172 u173 u174 u175 u176 u177 u178 u179 u180 u181 u182 u183 u184 u185 u186 u187 u188 u189 u190 u191 u192 u193 u194 u195 u196 u197 u198 u199 u200 u201 u202 u203 u204 u205 u206 u207 u208 u209 u210 u211 u212 u213 u214 u215 u216 u217 u218 u219 u220 u221 u222 u223 u224 u225 u226 u227 u228 u229 u230 u231 u232 u233 u234 u235 u236 u237 u238 u239 u240 u241 u242 u243 u244 u245 u246 u247 u248 u249 u250 u251 u252 u253 u254 u255 u256 u257 u258 u259 u260 u261 u262 u263 u264 u265 u266 u267 u268 u269 u270 u271 u272 : Value}
    (Hm : Hid (y0 ≤ 1048576)) (HJ : Hid (PlJ w W4 p y a b B C lst (a0, a1, a2, a3, a4, (s0, s1, s2, s3, s4), a6, a7) L n Ws L n Ws)) (Hts : Hid (okTs L)) (Hls : Hid (okS lst.1 ∧ okTr lst)) (Hn : Hid (0 ≤ n ∧ n ≤ (k : Int))) (Hl : Hid (L.length ≤ k ∧ Ws.length ≤ k ∧ k < y0)) (Hok : Hid (okAct (a0, a1, a2, a3, a4, (s0, s1, s2, s3, s4), a6, a7)))
    {R : Exit → Act → World → Prop} {K' : Act → World → Prop} (hJ : ∀ (a' : Act) (w' : World), SwE y0 z0 nd tries w pz y B C D off k 9 (a0, a1, a2, a3, a4, (s0, s1, s2, s3, s4), a6, a7) t2 a' w' → K' a' w') :
    Code.wp Tryz.prog ([1, 1, 1, 1, 1, 0, 1, 0, 0, 1, 0, 0, 1, 1, 1, 0, 1].foldl kidC (Tryz.f3.body.getD .skip)) (Exit.then K' R) { tmps := #[Value.slice (some { block := D, off := off }) y0 z0, Value.string nd, Value.int IntKind.i64 tries, undef, undef, undef, u6, Value.pointer (some { block := p, off := 0 }), Value.pointer (some { block := y, off := 0 }), Value.int IntKind.i64 t2, Value.pointer (some { block := B, off := 0 }), Value.int IntKind.i64 ((k : Nat) : Int), Value.pointer (some { block := C, off := 0 }), Value.bool true, u14, u15, u16, u17, u18, u19, u20, u21, u22, u23, u24, u25, u26, u27, u28, u29, u30, u31, u32, u33, u34, Value.pointer (some { block := pz, off := 0 }), Value.agg #[Value.slice none 0 0, Value.int IntKind.i64 0, Value.slice none 0 0], Value.pointer (some { block := y, off := 0 }), Value.pointer (some { block := pz, off := 0 }), Value.bool false, Value.agg #[Value.string { data := #[] }, Value.int IntKind.i64 0, Value.int IntKind.i64 0, Value.int IntKind.i64 0, Value.int IntKind.i64 0], u41, u42, u43, u44, u45, u46, u47, u48, u49, u50, u51, u52, u53, u54, u55, u56, u57, u58, u59, u60, u61, u62, Value.pointer (some { block := C, off := 0 }), Value.int IntKind.i64 a0, Value.int IntKind.i64 ((9 : Nat) : Int), u66, u67, u68, u69, u70, u71, u72, u73, u74, u75, u76, u77, u78, u79, u80, u81, u82, u83, u84, u85, u86, u87, u88, u89, u90, u91, u92, u93, u94, u95, u96, u97, u98, u99, u100, u101, u102, u103, u104, u105, u106, u107, u108, u109, u110, u111, u112, u113, u114, u115, u116, u117, u118, u119, u120, u121, u122, u123, u124, u125, u126, u127, u128, u129, u130, u131, u132, u133, u134, u135, u136, u137, u138, u139, u140, u141, u142, u143, u144, u145, u146, u147, u148, u149, u150, u151, u152, u153, u154, u155, u156, u157, u158, u159, u160, u161, u162, u163, u164, u165, u166, u167, u168, u169, u170, u171, u172, u173, u174, u175, u176, u177, u178, u179, u180, u181, u182, u183, u184, u185, u186, u187, u188, u189, u190, u191, u192, u193, u194, u195, u196, u197, u198, u199, u200, u201, u202, u203, u204, u205, u206, u207, u208, u209, u210, u211, u212, u213, u214, u215, u216, u217, u218, u219, u220, u221, u222, u223, u224, u225, u226, u227, u228, u229, u230, u231, u232, u233, u234, u235, u236, u237, u238, u239, u240, u241, u242, u243, u244, u245, u246, u247, u248, u249, u250, u251, u252, u253, u254, u255, u256, u257, u258, u259, u260, u261, u262, u263, u264, u265, u266, u267, u268, u269, u270, u271, u272, undef, undef, undef, undef, undef, undef, undef, undef, undef, undef, undef, undef, undef, undef, undef, undef, undef], defers := [] } W4 := by
  conv =>
    arg 2
    whnf
  obtain ⟨hp, hhp⟩ : ∃ hp, hp = hoE a3 := ⟨_, rfl⟩
  obtain ⟨Ws2, hWs2⟩ : ∃ W, W = hpY Ws a3 a4 := ⟨_, rfl⟩
  have HEq : Hid ((if a3.toList.isEmpty = true then (2 : Int) else 0) = hp ∧ (if a3.toList.isEmpty = true then Ws else hopeP Ws a3 a4) = Ws2) := ⟨hhp.symm, by rw [hpY_eq, hWs2]⟩
  have HT2 : Hid ((0 ≤ n ∧ n ≤ ((k + 1 : Nat) : Int)) ∧ L.length ≤ k + 1 ∧ Ws2.length ≤ k + 1) := by
    have h2 := len_hpY Ws a3 a4; have h3 := Hn.out; have h4 := Hl.out
    refine ⟨⟨by omega, by push_cast; omega⟩, by omega, by rw [hWs2]; omega⟩
  have HCA : Hid (∀ {u : World}, PlJ w u p y a b B C lst (a0, a1, a2, a3, a4, (s0, s1, s2, s3, s4), a6, a7) L n Ws L n Ws → Calls Tryz.prog 18 #[.pointer (some ⟨p, 0, none⟩), .string a3, .string a4] u fun e w' => e = .returned (.int .i64 hp) ∧ QA (FP w y a b B C) w' p L n Ws2 ∧ Turns (FP w y a b B C) u w') := fun {u} h => by
    have h1 := (yhope_calls (h.q) a3 a4 Hok.out.1 Hok.out.2.1 (by have := Hl.out; have := Hm.out; omega))
    rw [← hhp, ← hWs2] at h1
    exact h1
  clear hhp hWs2
  have HC : Hid (∀ z, Kept (fun b => b = C) W4 z → z.cell? ⟨C, 3, none⟩ = some (.string a3) ∧ z.cell? ⟨C, 4, none⟩ = some (.string a4)) := fun z hz => by
    have q := HJ.out.box.kept hz rfl
    exact ⟨(q.2 3 _ rfl).1, (q.2 4 _ rfl).1⟩
  go_upto_region 41 with fail
  have hb0 : Below W4.heap.size W4 W4.drew := (Below.refl _ _).drew
  refine t0 (fun z => Kept (fun b => b = C) W4 z) (Kept.below hb0) (fun hHeld => ?_)
  have Hd : Hid (PlJ w W4.drew p y a b B C lst (a0, a1, a2, a3, a4, (s0, s1, s2, s3, s4), a6, a7) L n Ws L n Ws) := HJ.out.on hb0
  generalize hwd : W4.drew = wd at hHeld Hd ⊢
  clear hwd hb0
  try go_frame
  refine' tk 0 ?_ ?_; rotate_left
  · intro z hz; obtain ⟨f3, f4⟩ := HC.out z hz; clear hz; go_simp; try with_reducible rfl
  try go_frame
  refine' tk 1 ?_ ?_; rotate_left
  · intro z hz; obtain ⟨f3, f4⟩ := HC.out z hz; clear hz; go_simp; try with_reducible rfl
  try go_frame
  refine' tk 2 ?_ ?_; rotate_left
  · intro z hz; obtain ⟨f3, f4⟩ := HC.out z hz; clear hz; go_simp; try with_reducible rfl
  try go_frame
  refine' tk 3 ?_ ?_; rotate_left
  · intro z hz; obtain ⟨f3, f4⟩ := HC.out z hz; clear hz; go_simp; try with_reducible rfl
  try go_frame
  refine' tk 4 ?_ ?_; rotate_left
  · intro z hz; obtain ⟨f3, f4⟩ := HC.out z hz; clear hz; go_simp; try with_reducible rfl
  try go_frame
  refine' tk 6 ?_ ?_; rotate_left
  · intro z hz; obtain ⟨f3, f4⟩ := HC.out z hz; clear hz; go_simp; try with_reducible rfl
  try go_frame
  refine' tk 7 ?_ ?_; rotate_left
  · intro z hz; obtain ⟨f3, f4⟩ := HC.out z hz; clear hz; go_simp; try with_reducible rfl
  try go_frame
  refine' tk 8 ?_ ?_; rotate_left
  · intro z hz; obtain ⟨f3, f4⟩ := HC.out z hz; clear hz; go_simp; try with_reducible rfl
  try go_frame
  refine' tk 9 ?_ ?_; rotate_left
  · intro z hz; obtain ⟨f3, f4⟩ := HC.out z hz; clear hz; go_simp; try with_reducible rfl
  try go_frame
  refine' tk 10 ?_ ?_; rotate_left
  · intro z hz; obtain ⟨f3, f4⟩ := HC.out z hz; clear hz; go_simp; try with_reducible rfl
  try go_frame
  have hA := HCA.out Hd.out
  clear HCA
  refine tr 5 (fun K hK => ?_)
  go_simp
  refine hA.mono ?_
  rintro e z5 ⟨rfl, h5, k5⟩
  try dsimp only
  clear hA
  have HJ5 : Hid (PlJ w z5 p y a b B C lst (a0, a1, a2, a3, a4, (s0, s1, s2, s3, s4), a6, a7) L n Ws2 L n Ws) := Hd.out.prog h5 k5
  have k5b : Kept (fun b => b = C) W4 z5 := hHeld.trans k5.keptC
  clear h5 k5 Hd
  go_wp2_with fail
  refine hK.out _ _ k5b (fun hHeld2 => ?_)
  clear hK K hHeld; have hHeld := hHeld2; clear hHeld2
  try go_frame
  have hB := rHope_calls w y a b L n Ws a3 a4 _ HJ5.out.r Hok.out.1 Hok.out.2.1 (by have := Hl.out; have := Hm.out; omega)
  rw [HEq.out.1, HEq.out.2] at hB
  clear HEq
  refine tr 11 (fun K hK => ?_)
  go_simp
  refine hB.mono ?_
  rintro e z6 ⟨rfl, ho⟩
  try dsimp only
  clear hB
  have HEnd : Hid (PlK w y B C (a0, a1, a2, a3, a4, (s0, s1, s2, s3, s4), a6, a7) (k + 1) (.pointer (some ⟨p, 0, none⟩)) z6) := PlK.of HJ5.out ho Hls.out Hts.out HT2.out.1 HT2.out.2
  have k6b : Kept (fun b => b = C) W4 z6 := k5b.trans (ho.keptC HJ5.out.nC)
  clear ho HJ5 k5b
  go_wp2_with fail
  refine hK.out _ _ k6b (fun hHeld2 => ?_)
  clear k6b
  clear hK K hHeld; have hHeld := hHeld2; clear hHeld2
  try go_frame
  refine' tk 12 ?_ ?_; rotate_left
  · intro z hz; clear hz; go_simp; try with_reducible rfl
  try go_frame
  refine' tk 13 ?_ ?_; rotate_left
  · intro z hz; clear hz; go_simp; try with_reducible rfl
  try go_frame
  refine tz ?_
  clear hHeld HC
  go_wp2_with fail
  refine SwE.by HEnd ?_
  kernel_rfl
end Go.Proofs.YtbmejaailhjgfaaGreat
