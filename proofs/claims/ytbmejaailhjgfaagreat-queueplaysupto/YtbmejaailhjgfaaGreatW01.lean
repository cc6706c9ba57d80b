/- QueuePlays' walk: a round, whole. Condition: what is said of the state ahead of it. -/
import Derived.Test.YtbmejaailhjgfaaGreatV10
import Derived.Test.YtbmejaailhjgfaaGreatV11
namespace Go.Proofs.YtbmejaailhjgfaaGreat
open Go.RowKit Go.Maps
set_option linter.unusedSimpArgs false
set_option maxRecDepth 100000

set_option maxHeartbeats 32000000 in
theorem pround {x0 : Option Addr} {y0 z0 : Nat} {L0 : List ActQ} {nd : ByteArray} {tries : Int} {w : World} {pz y B k : Nat} {t : Int} {wr : World} {v7 u6 u12 u13 u14 u15 u16 u17 u18 u19 u20 u21 u22 u23 u24 u25 u26 u27 u28 u29 u30 u31 u32 u33 u34 u41 u42 u43 u44 u45 u46 u47 u48 u49 u50 u51 u52 u53 u54 u55 u56 u57 u58 u59 u60 u61 u62 u63 u64 u65 u66 u67 u68 u69 u70 u71 u72 u73 u74 u75 u76 u77 u78 u79 u80 u81 u82 u83 u84 u85 u86 u87 u88 u89 u90 u91 u92 u93 u94 u95 u96 u97 u98 u99 u100 u101 u102 u103 u104 u105 u106 u107 u108 u109 u110 u111 u112 u113 u114 u115 u116 u117 u118 u119 u120 u121 u122 u123 u124 u125 u126 u127 u128 u129 u130 u131 u132 u133 u134 u135 u136 u137 u138 u139 u140 u141 u142 u143 u144 u145 u146 u147 u148 u149 u150 u151 u152 u153 u154 u155 u156 u157 u158 u159 u160 u161 u162 u163 u164 u165 u166 u167 u168 u169 u170 u171 u172 u173 u174 u175 u176 u177 u178 u179 u180 u181 u182 u183 u184 u185 u186 u187 u188 u189 u190 u191 u192 u193 u194 u195 u196 u197 u198 u199 u200 u201 u202 u203 u204 u205 u206 u207 u208 u209 u210 u211 u212 u213 u214 u215 u216 u217 u218 u219 u220 u221 u222 u223 u224 u225 u226 u227 u228 u229 u230 u231 u232 u233 u234 u235 u236 u237 u238 u239 u240 u241 u242 u243 u244 u245 u246 u247 u248 u249 u250 u251 u252 u253 u254 u255 u256 u257 u258 u259 u260 u261 u262 u263 u264 u265 u266 u267 u268 u269 u270 u271 u272 : Value}
    (Hm : Hid (y0 ≤ 1048576)) (H0 : Hid (SlAt RActQ 12 112 (fun _ => True) w x0 y0 z0 L0)) (hlt : k < y0) (HI : Hid (PlR w y B k v7 t wr))
    {R : Exit → Act → World → Prop} {KO : Act → World → Prop}
    (hKO : ∀ (D off C c : Nat) (act : ActQ) (t2 : Int) (a' : Act) (w' : World), x0 = some ⟨D, off, none⟩ → RsE y0 z0 nd tries w pz y B C D off k c act t2 a' w' → KO a' w') :
    Code.wp Tryz.prog ([1, 1, 1, 1, 1, 0, 1, 0, 0, 1, 0].foldl kidC (Tryz.f3.body.getD .skip)) (Exit.then KO R) { tmps := #[Value.slice x0 y0 z0, Value.string nd, Value.int IntKind.i64 tries, undef, undef, undef, u6, v7, Value.pointer (some { block := y, off := 0 }), Value.int IntKind.i64 t, Value.pointer (some { block := B, off := 0 }), Value.int IntKind.i64 ((k : Nat) : Int), u12, u13, u14, u15, u16, u17, u18, u19, u20, u21, u22, u23, u24, u25, u26, u27, u28, u29, u30, u31, u32, u33, u34, Value.pointer (some { block := pz, off := 0 }), Value.agg #[Value.slice none 0 0, Value.int IntKind.i64 0, Value.slice none 0 0], Value.pointer (some { block := y, off := 0 }), Value.pointer (some { block := pz, off := 0 }), Value.bool false, Value.agg #[Value.string { data := #[] }, Value.int IntKind.i64 0, Value.int IntKind.i64 0, Value.int IntKind.i64 0, Value.int IntKind.i64 0], u41, u42, u43, u44, u45, u46, u47, u48, u49, u50, u51, u52, u53, u54, u55, u56, u57, u58, u59, u60, u61, u62, u63, u64, u65, u66, u67, u68, u69, u70, u71, u72, u73, u74, u75, u76, u77, u78, u79, u80, u81, u82, u83, u84, u85, u86, u87, u88, u89, u90, u91, u92, u93, u94, u95, u96, u97, u98, u99, u100, u101, u102, u103, u104, u105, u106, u107, u108, u109, u110, u111, u112, u113, u114, u115, u116, u117, u118, u119, u120, u121, u122, u123, u124, u125, u126, u127, u128, u129, u130, u131, u132, u133, u134, u135, u136, u137, u138, u139, u140, u141, u142, u143, u144, u145, u146, u147, u148, u149, u150, u151, u152, u153, u154, u155, u156, u157, u158, u159, u160, u161, u162, u163, u164, u165, u166, u167, u168, u169, u170, u171, u172, u173, u174, u175, u176, u177, u178, u179, u180, u181, u182, u183, u184, u185, u186, u187, u188, u189, u190, u191, u192, u193, u194, u195, u196, u197, u198, u199, u200, u201, u202, u203, u204, u205, u206, u207, u208, u209, u210, u211, u212, u213, u214, u215, u216, u217, u218, u219, u220, u221, u222, u223, u224, u225, u226, u227, u228, u229, u230, u231, u232, u233, u234, u235, u236, u237, u238, u239, u240, u241, u242, u243, u244, u245, u246, u247, u248, u249, u250, u251, u252, u253, u254, u255, u256, u257, u258, u259, u260, u261, u262, u263, u264, u265, u266, u267, u268, u269, u270, u271, u272, undef, undef, undef, undef, undef, undef, undef, undef, undef, undef, undef, undef, undef, undef, undef, undef, undef], defers := [] } wr := by
  conv =>
    arg 2
    whnf
  let _Q0 : Exit → Act → World → Prop := bodyPost Tryz.prog Tryz.f3 (fun _ _ => True)
  have hy0 : y0 ≤ 1048576 := Hm.out
  obtain ⟨p, a, b, lst, L, n, Ws, rfl, hq, hr, hlast, hnB, hlB, hls, hlt2, hts, hn0, hn1, hLl, hWl, ht0, ht1⟩ := HI.out
  obtain ⟨D, off, rfl, hD, _, xs, hra, hv⟩ := H0.out.get hlt
  obtain ⟨rfl, hok⟩ := hra.all
  obtain ⟨C, hC⟩ : ∃ C, C = wr.heap.size := ⟨_, rfl⟩
  have hvz : wr.rangeAt D (off + k * 12) (actC (L0.getD k default)) := fun j v hj => (hr.below.cell (p := ⟨D, off + k * 12 + j, none⟩) hD).trans (hv j v hj)
  obtain ⟨⟨a0, a1, a2, a3, a4, ⟨s0, s1, s2, s3, s4⟩, a6, a7⟩, ha⟩ : ∃ a, a = L0.getD k default := ⟨_, rfl⟩
  rw [← ha] at hvz hok
  obtain ⟨W4, hW4⟩ : ∃ Z, Z = wr.alloc (.cells #[.int .i64 a0, .int .i64 a1, .int .i64 a2, .string a3, .string a4, .string s0, .int .i64 s1, .int .i64 s2, .int .i64 s3, .int .i64 s4, .bool a6, .bool a7] 33) := ⟨_, rfl⟩
  have b4 : Below wr.heap.size wr W4 := by rw [hW4]; exact (Below.refl _ _).alloc (Nat.le_refl _) _
  have q4 : BoxL W4 wr.heap.size (actC (a0, a1, a2, a3, a4, (s0, s1, s2, s3, s4), a6, a7)) := by rw [hW4]; exact BoxL.new wr 33 _
  rw [← hC] at q4
  have hnC : ¬ QS y a b C := fun e => by
    rcases e with e | e | e
    · have := hr.box.1; omega
    · have := (hr.ra.lt e).2; omega
    · have := (hr.rb.lt e).2; omega
  have HJ : Hid (PlJ w W4 p y a b B C lst (a0, a1, a2, a3, a4, (s0, s1, s2, s3, s4), a6, a7) L n Ws L n Ws) := ⟨(hq.weak (fun x hx hf => ⟨hf.1, hf.2.1, hf.2.2, by omega⟩)).on b4, hr.on b4, hlast.on b4, q4, hnB, hnC, by have := hlast.1; omega, hlB, by rw [hC]; exact hr.below.size⟩
  have Hts : Hid (okTs L) := hts
  have Hls : Hid (okS lst.1 ∧ okTr lst) := ⟨hls, hlt2⟩
  have Hn : Hid (0 ≤ n ∧ n ≤ (k : Int)) := ⟨hn0, hn1⟩
  have Hl : Hid (L.length ≤ k ∧ Ws.length ≤ k ∧ k < y0) := ⟨hLl, hWl, hlt⟩
  have Hok : Hid (okAct (a0, a1, a2, a3, a4, (s0, s1, s2, s3, s4), a6, a7)) := hok
  have HW4 : Hid (wr.alloc (.cells #[.int .i64 a0, .int .i64 a1, .int .i64 a2, .string a3, .string a4, .string s0, .int .i64 s1, .int .i64 s2, .int .i64 s3, .int .i64 s4, .bool a6, .bool a7] 33) = W4) := hW4.symm
  have HXA : Hid (wr.rangeAt D (off + k * 12) (actC (a0, a1, a2, a3, a4, (s0, s1, s2, s3, s4), a6, a7))) := hvz
  have HC : Hid (wr.heap.size = C) := hC.symm
  have d2 : W4.cell? ⟨C, 2, none⟩ = some (.int .i64 a2) := (q4.2 2 _ rfl).1
  have d0 : W4.cell? ⟨C, 0, none⟩ = some (.int .i64 a0) := (q4.2 0 _ rfl).1
  obtain ⟨c, hc⟩ : ∃ c, c = amongP a0 11 := ⟨_, rfl⟩
  have hc11 : c < 11 := by rw [hc]; exact among_lt a0 (by decide)
  have HAm : Hid (∀ z : World, Calls Tryz.prog 5 #[.int .i64 a0, .int .i64 11] z fun e z' => e = .returned (.int .i64 (c : Int)) ∧ z' = z) := fun z => by rw [hc]; exact Among_is a0 11 (by decide) (by decide) z
  obtain ⟨t2, ht2⟩ : ∃ t2, t2 = (if -5 ≤ a2 ∧ a2 < 4398046511104 then t + a2 else t) := ⟨_, rfl⟩
  have Ht : Hid (-5 * ((k + 1 : Nat) : Int) ≤ t2 ∧ t2 ≤ 4398046511104 * ((k + 1 : Nat) : Int)) := by
    rw [ht2]; split
    · constructor <;> push_cast <;> omega
    · constructor <;> push_cast <;> omega
  have hT0 : -5242880 ≤ t := by omega
  have hT1 : t ≤ 4611686018427387904 := by omega
  clear hq hr hlast hnB hlB hls hlt2 hts hn0 hn1 hLl hWl hra hv hD hok hvz ha hW4 b4 q4 hnC hC hc
  go_upto_region 10 with (first | (refine wpList_load_mid rfl 33 _ rfl D (off + k * 12) rfl (actC (a0, a1, a2, a3, a4, (s0, s1, s2, s3, s4), a6, a7)) _ HXA.out Tryz.underlying33 rfl (by kernel_rfl) ?_) | fail)
  rw [HW4.out, HC.out]
  clear HXA HW4 HC
  --M2
  go_cut [58] (fun v wc => v = .bool (decide (-5 ≤ a2 ∧ a2 < 4398046511104)) ∧ wc = W4)
  case first =>
    clear HAm HJ Hts Hls Hn Hl Hok Ht Hm H0 d0
    rcases Int.lt_or_le a2 (-5) with g1 | g1
    · have hb1 : decide (-5 ≤ a2) = false := decide_eq_false (by omega)
      go_wp2_with fail
      all_goals go_meet
      all_goals exact ⟨by rw [decide_eq_false (by omega : ¬ (-5 ≤ a2 ∧ a2 < 4398046511104))], rfl⟩
    · have hb1 : decide (-5 ≤ a2) = true := decide_eq_true g1
      rcases Int.lt_or_le a2 4398046511104 with g2 | g2
      · have hb2 : decide (a2 < 4398046511104) = true := decide_eq_true g2
        go_wp2_with fail
        all_goals go_meet
        all_goals exact ⟨by rw [decide_eq_true (⟨g1, g2⟩ : -5 ≤ a2 ∧ a2 < 4398046511104)], rfl⟩
      · have hb2 : decide (a2 < 4398046511104) = false := decide_eq_false (by omega)
        go_wp2_with fail
        all_goals go_meet
        all_goals exact ⟨by rw [decide_eq_false (by omega : ¬ (-5 ≤ a2 ∧ a2 < 4398046511104))], rfl⟩
  case rest =>
    obtain ⟨rfl, hw4⟩ := hcut
    obtain rfl := hw4.symm
    go_upto_if 58 with fail
    go_cut [9] (fun v wc => v = .int .i64 t2 ∧ wc = W4)
    case first =>
      clear HAm HJ Hts Hls Hn Hl Hok Ht Hm H0 d0
      by_cases hg : -5 ≤ a2 ∧ a2 < 4398046511104
      · have hb : decide (-5 ≤ a2 ∧ a2 < 4398046511104) = true := decide_eq_true hg
        rw [if_pos hg] at ht2
        have hr : -9223372036854775808 ≤ t + a2 ∧ t + a2 ≤ 9223372036854775807 := by omega
        have HT2 : Hid (t2 = t + a2) := ht2
        clear ht2
        go_wp2_with fail
        go_meet
        exact ⟨by rw [HT2.out], rfl⟩
      · have hb : decide (-5 ≤ a2 ∧ a2 < 4398046511104) = false := decide_eq_false hg
        rw [if_neg hg] at ht2
        have HT2 : Hid (t2 = t) := ht2
        clear ht2
        go_wp2_with fail
        go_meet
        exact ⟨by rw [HT2.out], rfl⟩
    case rest =>
      obtain ⟨rfl, hw4⟩ := hcut
      obtain rfl := hw4.symm
      clear ht2 hT0 hT1 d2
      --M3
      go_upto_block 2 with (go_at_call 5; refine (HAm.out _).mono ?_; rintro e w9 ⟨rfl, hw9⟩; obtain rfl := hw9.symm)
      --M4
      refine psw Hm HJ Hts Hls Hn Hl Hok hc11 (fun a' w' h => ?_)
      obtain ⟨v7, f, hk, rfl⟩ := h
      refine (by assumption : ∀ (a : Act) (w : World), Code.wp Tryz.prog _ (Exit.inBlock 1 (Exit.then _ _)) a w → (_ : Act → World → Prop) a w) _ _ ?_
      refine prest Hm (show Hid (k < y0) from Hl.out.2.2) Hok Ht hk (fun a' w' h => hKO _ _ _ _ _ _ a' w' rfl h)
end Go.Proofs.YtbmejaailhjgfaaGreat
