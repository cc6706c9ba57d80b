/- QueuePlays' walk: what is done in case 5. Condition: the two queues stand as is said of them. -/
import Derived.Test.YtbmejaailhjgfaaGreatV01
namespace Go.Proofs.YtbmejaailhjgfaaGreat
open Go.RowKit Go.Maps
set_option linter.unusedSimpArgs false
set_option maxRecDepth 100000

set_option maxHeartbeats 16000000 in
theorem parm5 {y0 z0 : Nat} {nd : ByteArray} {tries : Int} {w : World} {pz p y B C D off k : Nat} {a b : Value} {lst : WtD} {L : List EnD} {n : Int} {Ws : List WiD} {a0 a1 a2 : Int} {a3 a4 s0 : ByteArray} {s1 s2 s3 s4 : Int} {a6 a7 : Bool} {W4 : World} {t2 : Int} {u6 u14 u15 u16 u17 u18 u19 u20 u21 u22 u23 u24 u25 u26 u27 u28 u29 u30 u31 u32 u33 u34 u41 u42 u43 u44 u45 u46 u47 u48 u49 u50 u51 u52 u53 u54 u55 u56 u57 u58 u59 u60 u61 u62 u66 u67 u68 u69 u70 u71 u72 u73 u74 u75 u76 u77 u78 u79 u80 u81 u82 u83 u84 u85 u86 u87 u88 u89 u90 u91 u92 u93 u94 u95 u96 u97 u98 u99 u100 u101 u102 u103 u104 u105 u106 u107 u108 u109 u110 u111 u112 u113 u114 u115 u116 u117 u118 u119 u120 u121 u122 u123 u124 u125 u126 u127 u128 u129 u130 u131 u132 u133 u134 u135 u136 u137 u138 u139 u140 u141 u142 u143 u144 u145 u146 u147 u148 u149 u150 u151 u152 u153 u154 u155 u156 u157 u158 u159 u160 u161 u162 u163 u164 u165 u166 u167 u168 u169 u170 u171 u172 u173 u174 u175 u176 u177 u178 u179 u180 u181 u182 u183 u184 u185 u186 u187 u188 u189 u190 u191 u192 u193 u194 u195 u196 u197 u198 u199 u200 u201 u202 u203 u204 u205 u206 u207 u208 u209 u210 u211 u212 u213 u214 u215 u216 u217 u218 u219 u220 u221 u222 u223 u224 u225 u226 u227 u228 u229 u230 u231 u232 u233 u234 u235 u236 u237 u238 u239 u240 u241 u242 u243 u244 u245 u246 u247 u248 u249 u250 u251 u252 u253 u254 u255 u256 u257 u258 u259 u260 u261 u262 u263 u264 u265 u266 u267 u268 u269 u270 u271 u272 : Value}
    (Hm : Hid (y0 ≤ 1048576)) (HJ : Hid (PlJ w W4 p y a b B C lst (a0, a1, a2, a3, a4, (s0, s1, s2, s3, s4), a6, a7) L n Ws L n Ws)) (Hts : Hid (okTs L)) (Hls : Hid (okS lst.1 ∧ okTr lst)) (Hn : Hid (0 ≤ n ∧ n ≤ (k : Int))) (Hl : Hid (L.length ≤ k ∧ Ws.length ≤ k ∧ k < y0)) (Hok : Hid (okAct (a0, a1, a2, a3, a4, (s0, s1, s2, s3, s4), a6, a7)))
    {R : Exit → Act → World → Prop} {K' : Act → World → Prop} (hJ : ∀ (a' : Act) (w' : World), SwE y0 z0 nd tries w pz y B C D off k 5 (a0, a1, a2, a3, a4, (s0, s1, s2, s3, s4), a6, a7) t2 a' w' → K' a' w') :
    Code.wp Tryz.prog ([1, 1, 1, 1, 1, 0, 1, 0, 0, 1, 0, 0, 1, 1, 1, 0, 1].foldl kidC (Tryz.f3.body.getD .skip)) (Exit.then K' R) { tmps := #[Value.slice (some { block := D, off := off }) y0 z0, Value.string nd, Value.int IntKind.i64 tries, undef, undef, undef, u6, Value.pointer (some { block := p, off := 0 }), Value.pointer (some { block := y, off := 0 }), Value.int IntKind.i64 t2, Value.pointer (some { block := B, off := 0 }), Value.int IntKind.i64 ((k : Nat) : Int), Value.pointer (some { block := C, off := 0 }), Value.bool true, u14, u15, u16, u17, u18, u19, u20, u21, u22, u23, u24, u25, u26, u27, u28, u29, u30, u31, u32, u33, u34, Value.pointer (some { block := pz, off := 0 }), Value.agg #[Value.slice none 0 0, Value.int IntKind.i64 0, Value.slice none 0 0], Value.pointer (some { block := y, off := 0 }), Value.pointer (some { block := pz, off := 0 }), Value.bool false, Value.agg #[Value.string { data := #[] }, Value.int IntKind.i64 0, Value.int IntKind.i64 0, Value.int IntKind.i64 0, Value.int IntKind.i64 0], u41, u42, u43, u44, u45, u46, u47, u48, u49, u50, u51, u52, u53, u54, u55, u56, u57, u58, u59, u60, u61, u62, Value.pointer (some { block := C, off := 0 }), Value.int IntKind.i64 a0, Value.int IntKind.i64 ((5 : Nat) : Int), u66, u67, u68, u69, u70, u71, u72, u73, u74, u75, u76, u77, u78, u79, u80, u81, u82, u83, u84, u85, u86, u87, u88, u89, u90, u91, u92, u93, u94, u95, u96, u97, u98, u99, u100, u101, u102, u103, u104, u105, u106, u107, u108, u109, u110, u111, u112, u113, u114, u115, u116, u117, u118, u119, u120, u121, u122, u123, u124, u125, u126, u127, u128, u129, u130, u131, u132, u133, u134, u135, u136, u137, u138, u139, u140, u141, u142, u143, u144, u145, u146, u147, u148, u149, u150, u151, u152, u153, u154, u155, u156, u157, u158, u159, u160, u161, u162, u163, u164, u165, u166, u167, u168, u169, u170, u171, u172, u173, u174, u175, u176, u177, u178, u179, u180, u181, u182, u183, u184, u185, u186, u187, u188, u189, u190, u191, u192, u193, u194, u195, u196, u197, u198, u199, u200, u201, u202, u203, u204, u205, u206, u207, u208, u209, u210, u211, u212, u213, u214, u215, u216, u217, u218, u219, u220, u221, u222, u223, u224, u225, u226, u227, u228, u229, u230, u231, u232, u233, u234, u235, u236, u237, u238, u239, u240, u241, u242, u243, u244, u245, u246, u247, u248, u249, u250, u251, u252, u253, u254, u255, u256, u257, u258, u259, u260, u261, u262, u263, u264, u265, u266, u267, u268, u269, u270, u271, u272, undef, undef, undef, undef, undef, undef, undef, undef, undef, undef, undef, undef, undef, undef, undef, undef, undef], defers := [] } W4 := by
  conv =>
    arg 2
    whnf
  let _Q0 : Exit → Act → World → Prop := bodyPost Tryz.prog Tryz.f3 (fun _ _ => True)
  have HRC : Hid (W4.rangeAt C 5 (wtC (s0, s1, s2, s3, s4))) := HJ.out.range (Kept.refl _ _)
  obtain ⟨X5, hX5⟩ : ∃ X, X = W4.heap.size := ⟨_, rfl⟩
  obtain ⟨W5, hW5⟩ : ∃ Z, Z = W4.alloc (.cells #[.string s0, .int .i64 s1, .int .i64 s2, .int .i64 s3, .int .i64 s4] 31) := ⟨_, rfl⟩
  have b8 : Below W4.heap.size W4 W5 := by rw [hW5]; exact (Below.refl _ _).alloc (Nat.le_refl _) _
  have q5 : BoxL W5 X5 (wtC (s0, s1, s2, s3, s4)) := by rw [hW5, hX5]; exact BoxL.new W4 31 _
  have HX5 : Hid (W4.heap.size = X5) := hX5.symm
  have HW5 : Hid (W4.alloc (.cells #[.string s0, .int .i64 s1, .int .i64 s2, .int .i64 s3, .int .i64 s4] 31) = W5) := hW5.symm
  have HN5 : Hid (¬ QS y a b X5 ∧ X5 ≠ B ∧ X5 ≠ C ∧ w.heap.size ≤ X5) := by rw [hX5]; exact ⟨HJ.out.newN (Nat.le_refl _), fun e => by have := HJ.out.last.1; omega, fun e => by have := HJ.out.box.1; omega, HJ.out.r.below.size⟩
  have HP5 : Hid (PlX w p y a b B C X5 lst (a0, a1, a2, a3, a4, (s0, s1, s2, s3, s4), a6, a7) L n Ws W5) := PlX.new HJ.out Hok.out.2.2 b8 hX5 q5
  have HL5 : Hid (BoxL W5 B (wtC lst)) := HJ.out.last.on b8
  have HT5 : Hid (W5.there X5 0 5) := q5.there
  have e8 : W5.cell? ⟨C, 11, none⟩ = some (.bool a7) := ((HJ.out.box.on b8).2 11 _ rfl).1
  clear hX5 hW5 b8 q5 HJ
  go_upto_region 27 with (first | (refine wpList_load_mid rfl 31 _ rfl C 5 rfl (wtC (s0, s1, s2, s3, s4)) _ HRC.out Tryz.underlying31 rfl (by kernel_rfl) ?_) | fail)
  rw [HW5.out, HX5.out]
  clear HW5 HX5 HRC
  go_upto_if 112 with fail
  clear e8
  go_cut [13] (fun ok wc => ok = .bool true ∧ Hid (PlX w p y a b B C X5 lst (a0, a1, a2, a3, a4, (s0, s1, s2, s3, s4), a6, a7) L n Ws wc))
  case first =>
    clear Hts Hn Hl Hm
    cases a7 with
    | false =>
      clear HL5 HT5 HN5 Hok Hls
      go_wp2_with fail
      go_meet
      exact ⟨rfl, HP5⟩
    | true =>
      obtain ⟨l0, l1, l2, l3, l4⟩ := lst
      obtain ⟨W6, hW6⟩ : ∃ Z, Z = W5.setCells X5 0 (wtC (l0, l1, l2, l3, l4)) := ⟨_, rfl⟩
      have HE : Hid (PlX w p y a b B C X5 (l0, l1, l2, l3, l4) (a0, a1, a2, a3, a4, (s0, s1, s2, s3, s4), a6, true) L n Ws W6) := by rw [hW6]; exact HP5.out.set HN5.out.1 HN5.out.2.1 HN5.out.2.2.1 HN5.out.2.2.2 ⟨Hls.out.1, Hls.out.2.1, Int.le_of_lt_add_one Hls.out.2.2⟩
      have HRB : Hid (W5.rangeAt B 0 (wtC (l0, l1, l2, l3, l4))) := HL5.out.range
      have HW6 : Hid (W5.setCells X5 0 (wtC (l0, l1, l2, l3, l4)) = W6) := hW6.symm
      clear hW6 HP5 HL5 HN5 Hok Hls
      go_wp2_with (first | (refine wpList_load_mid rfl 31 _ rfl B 0 rfl (wtC (l0, l1, l2, l3, l4)) _ HRB.out Tryz.underlying31 rfl (by kernel_rfl) ?_) | (refine wpList_store_mid rfl 31 _ _ rfl X5 0 (wtC (l0, l1, l2, l3, l4)).toArray rfl rfl HT5.out (by kernel_rfl) (by simp [Value.oneCell']) ?_; refine wpl_atG HW6.out.symm ?_) | fail)
      go_meet
      exact ⟨rfl, HE⟩
  case rest =>
    obtain ⟨rfl, hx⟩ := hcut
    obtain ⟨⟨x0, x1, x2, x3, x4⟩, hj, hg, hq, hok⟩ := hx.out
    have HJ : Hid (PlJ w wc p y a b B C lst (a0, a1, a2, a3, a4, (s0, s1, s2, s3, s4), a6, a7) L n Ws L n Ws) := hj
    have HQ : Hid (BoxL wc X5 (wtC (x0, x1, x2, x3, x4))) := hq
    have HG : Hid (QA (fun i => FP w y a b B C i ∧ i ≠ X5) wc p L n Ws) := hg
    have HX : Hid (WtOk (x0, x1, x2, x3, x4)) := hok
    clear hx hj hg hq hok HP5 HL5 HT5
    obtain ⟨bk, hbk⟩ : ∃ bk, bk = bkY L x0 t2 := ⟨_, rfl⟩
    obtain ⟨L2, hL2⟩ : ∃ L2, L2 = addL L bk (backE (x0, x1, x2, x3, x4) t2 a6) := ⟨_, rfl⟩
    have HEq : Hid (backP L (x0, x1, x2, x3, x4) t2 a6 = (bk, L2)) := by rw [Hid, back_eq HJ.out.q.nd, hL2, hbk]
    have HT2 : Hid (okTs L2 ∧ (0 ≤ n ∧ n ≤ ((k + 1 : Nat) : Int)) ∧ L2.length ≤ k + 1 ∧ Ws.length ≤ k + 1) := by
      have h2 := len_addL L bk (backE (x0, x1, x2, x3, x4) t2 a6); have h3 := Hn.out; have h4 := Hl.out
      refine ⟨by rw [hL2]; exact Hts.out.addL _ HX.out.2, ⟨by omega, by push_cast; omega⟩, by rw [hL2]; omega, by omega⟩
    have HCA : Hid (∀ {u : World}, PlJ w u p y a b B C lst (a0, a1, a2, a3, a4, (s0, s1, s2, s3, s4), a6, a7) L n Ws L n Ws → QA (fun i => FP w y a b B C i ∧ i ≠ X5) u p L n Ws → X5 < u.heap.size → Calls Tryz.prog 10 #[.pointer (some ⟨p, 0, none⟩), .agg (wtC (x0, x1, x2, x3, x4)).toArray, .int .i64 t2, .bool a6] u fun e w' => e = .returned (.int .i64 bk) ∧ QA (fun i => FP w y a b B C i ∧ i ≠ X5) w' p L2 n Ws ∧ Turns (fun i => FP w y a b B C i ∧ i ≠ X5) u w') := fun {u} h hg hx => by
      have h1 := yback_calls hg (h.newX hx) (x0, x1, x2, x3, x4) HX.out.1 HX.out.2.2 t2 a6 (by have := Hl.out; have := Hm.out; omega)
      rw [← hbk, ← hL2] at h1
      exact h1
    clear hbk hL2
    have HC : Hid (∀ z, Kept (fun i => i = C ∨ i = X5) wc z → z.cell? ⟨C, 10, none⟩ = some (.bool a6)) := fun z hz => by
      have q := HJ.out.box.kept hz (.inl rfl)
      exact (q.2 10 _ rfl).1
    have HR : Hid (∀ z, Kept (fun i => i = C ∨ i = X5) wc z → z.rangeAt X5 0 (wtC (x0, x1, x2, x3, x4))) := fun z hz => (HQ.out.kept hz (.inr rfl)).range
    go_upto_region 29 with fail
    have hb0 : Below wc.heap.size wc wc.drew := (Below.refl _ _).drew
    refine t0 (fun z => Kept (fun i => i = C ∨ i = X5) wc z) (Kept.below hb0) (fun hHeld => ?_)
    have Hd : Hid (PlJ w wc.drew p y a b B C lst (a0, a1, a2, a3, a4, (s0, s1, s2, s3, s4), a6, a7) L n Ws L n Ws) := HJ.out.on hb0
    have Hg : Hid (QA (fun i => FP w y a b B C i ∧ i ≠ X5) wc.drew p L n Ws ∧ X5 < wc.drew.heap.size) := ⟨HG.out.on hb0, Nat.lt_of_lt_of_le HQ.out.1 hb0.size⟩
    generalize hwd : wc.drew = wd at hHeld Hd Hg ⊢
    clear hwd hb0
    try go_frame
    refine' tk 0 ?_ ?_; rotate_left
    · intro z hz; have f6 := HC.out z hz; clear hz; go_simp; try with_reducible rfl
    try go_frame
    refine tq 1 (.agg (wtC (x0, x1, x2, x3, x4)).toArray) (yieldsIf_load_mid (by rfl) 31 _ rfl X5 0 (by go_simp) (wtC (x0, x1, x2, x3, x4)) _ (fun z hz => HR.out z hz) Tryz.underlying31 rfl (by kernel_rfl)) ?_ (hi := rfl)
    try go_frame
    refine' tk 2 ?_ ?_; rotate_left
    · intro z hz; have f6 := HC.out z hz; clear hz; go_simp; try with_reducible rfl
    try go_frame
    refine' tk 3 ?_ ?_; rotate_left
    · intro z hz; have f6 := HC.out z hz; clear hz; go_simp; try with_reducible rfl
    try go_frame
    refine' tk 4 ?_ ?_; rotate_left
    · intro z hz; have f6 := HC.out z hz; clear hz; go_simp; try with_reducible rfl
    try go_frame
    refine' tk 6 ?_ ?_; rotate_left
    · intro z hz; have f6 := HC.out z hz; clear hz; go_simp; try with_reducible rfl
    try go_frame
    refine tq 7 (.agg (wtC (x0, x1, x2, x3, x4)).toArray) (yieldsIf_load_mid (by rfl) 31 _ rfl X5 0 (by go_simp) (wtC (x0, x1, x2, x3, x4)) _ (fun z hz => HR.out z hz) Tryz.underlying31 rfl (by kernel_rfl)) ?_ (hi := rfl)
    try go_frame
    refine' tk 8 ?_ ?_; rotate_left
    · intro z hz; have f6 := HC.out z hz; clear hz; go_simp; try with_reducible rfl
    try go_frame
    refine' tk 9 ?_ ?_; rotate_left
    · intro z hz; have f6 := HC.out z hz; clear hz; go_simp; try with_reducible rfl
    try go_frame
    refine' tk 10 ?_ ?_; rotate_left
    · intro z hz; have f6 := HC.out z hz; clear hz; go_simp; try with_reducible rfl
    try go_frame
    have hA := HCA.out Hd.out Hg.out.1 Hg.out.2
    clear HCA Hg HG
    refine tr 5 (fun K hK => ?_)
    go_simp
    refine hA.mono ?_
    rintro e z5 ⟨rfl, h5, k5⟩
    try dsimp only
    clear hA
    obtain ⟨h6, k6⟩ := Hd.out.progX h5 k5
    have HJ5 : Hid (PlJ w z5 p y a b B C lst (a0, a1, a2, a3, a4, (s0, s1, s2, s3, s4), a6, a7) L2 n Ws L n Ws) := h6
    have k5b : Kept (fun i => i = C ∨ i = X5) wc z5 := hHeld.trans k6
    clear h5 k5 h6 k6 Hd
    go_wp2_with fail
    refine hK.out _ _ k5b (fun hHeld2 => ?_)
    clear hK K hHeld; have hHeld := hHeld2; clear hHeld2
    try go_frame
    have hB := rBack_calls w y a b L n Ws (x0, x1, x2, x3, x4) t2 a6 _ HJ5.out.r HX.out.1 (by have := Hl.out; have := Hm.out; omega)
    rw [HEq.out] at hB
    dsimp only at hB
    clear HEq
    refine tr 11 (fun K hK => ?_)
    go_simp
    refine hB.mono ?_
    rintro e z6 ⟨rfl, ho⟩
    try dsimp only
    clear hB
    have HEnd : Hid (PlK w y B C (a0, a1, a2, a3, a4, (s0, s1, s2, s3, s4), a6, a7) (k + 1) (.pointer (some ⟨p, 0, none⟩)) z6) := PlK.of HJ5.out ho Hls.out HT2.out.1 HT2.out.2.1 HT2.out.2.2
    have k6b : Kept (fun i => i = C ∨ i = X5) wc z6 := k5b.trans (ho.keptX HJ5.out.nC HN5.out.1)
    clear ho HJ5 k5b
    go_wp2_with fail
    refine hK.out _ _ k6b (fun hHeld2 => ?_)
    clear k6b
    clear hK K hHeld; have hHeld := hHeld2; clear hHeld2
    try go_frame
    refine' tk 12 ?_ ?_; rotate_left
    · intro z hz; clear hz; go_simp; try with_reducible rfl
    try go_frame
    refine' tk 13 ?_ ?_; rotate_left
    · intro z hz; clear hz; go_simp; try with_reducible rfl
    try go_frame
    refine tz ?_
    clear hHeld HC
    go_wp2_with fail
    refine SwE.by HEnd ?_
    kernel_rfl
end Go.Proofs.YtbmejaailhjgfaaGreat
