/- The document's queue: Hope, Drop. Condition: the queue lies as is said of it; its wishes are not too many. The document's queue: Drop. Condition: the queue lies as is said of it. The document's queue: Place. Condition: the queue lies as is said of it. -/
import Derived.Test.YtbmejaailhjgfaaGreatQ22
namespace Go.Proofs.YtbmejaailhjgfaaGreat
open Go.RowKit
set_option linter.unusedSimpArgs false
set_option maxRecDepth 100000

/-- Wishes of others. -/
def othP (s : ByteArray) (L : List WiD) : List WiD := L.filter (fun x => !sEq x.1 s)
/-- Who hopes for what, then. -/
def hopeP (L : List WiD) (s nd : ByteArray) : List WiD := if nd.toList.isEmpty = true then othP s L else othP s L ++ [(s, nd)]
theorem oth_len (s : ByteArray) (L : List WiD) : (othP s L).length ≤ L.length := List.length_filter_le _ _
theorem oth_take {s : ByteArray} {L : List WiD} {j : Nat} (h : j < L.length) : othP s (L.take (j + 1)) = othP s (L.take j) ++ (if (!sEq (L.getD j default).1 s) = true then [L.getD j default] else []) := by
  unfold othP
  rw [← take_atG h, List.filter_append, List.filter_cons, List.filter_nil]
theorem RqE.getW {w u : World} {p : Nat} {a b : Value} {L : List EnD} {n : Int} {Ws : List WiD} (h : RqE w u p a b L n Ws) {i : Nat} (hi : i < Ws.length) : ∃ g c, b = .slice (some ⟨g, 0, none⟩) Ws.length c ∧ g < u.heap.size ∧ (okS (Ws.getD i default).1 ∧ okS (Ws.getD i default).2) ∧ u.rangeAt g (i * 2) [.string (Ws.getD i default).1, .string (Ws.getD i default).2] := by
  obtain ⟨g, c, cs, e, hg, hr, hc⟩ := h.rb.getG RWi.firm hi
  obtain ⟨rfl, h2⟩ : cs = _ ∧ _ := hr
  exact ⟨g, c, e, hg, h2, hc⟩
theorem RqE.lenW {w u : World} {p : Nat} {aa : Option Addr} {m cc : Nat} {a : Value} {L : List EnD} {n : Int} {Ws : List WiD} (h : RqE w u p a (.slice aa m cc) L n Ws) : m = Ws.length := by
  obtain ⟨xs, ⟨_, _, ⟨e1, h0⟩ | ⟨g', cap', cur, e1, _⟩⟩, _⟩ := h.rb
  · simp only [Value.slice.injEq] at e1; omega
  · simp only [Value.slice.injEq] at e1; omega
set_option maxHeartbeats 16000000 in
theorem rHope_calls (w : World) (p : Nat) (a b : Value) (L : List EnD) (n : Int) (Ws : List WiD) (s nd : ByteArray) (u : World) (h : RqE w u p a b L n Ws) (hs : okS s) (hnd : okS nd) (hl : (Ws.length + 1) * 32 ≤ 140737488351232) : Calls Tryz.prog 19 #[.pointer (some ⟨p, 0, none⟩), .string s, .string nd] u fun e u' => e = .returned (.int .i64 (if s.toList.isEmpty = true then 2 else 0)) ∧ QOut w p a b L n (if s.toList.isEmpty = true then Ws else hopeP Ws s nd) u u' := by
  have Hh : Hid (RqE w u p a b L n Ws) := h
  cases he : s.toList.isEmpty with
  | true =>
    have HF : Hid (QOut w p a b L n Ws u u) := QOut.same h (Below.refl _ _)
    clear h
    go_enter Tryz.func19, Tryz.ntmps19
    go_wp2_with fail
    go_ret
    exact ⟨rfl, HF.out⟩
  | false =>
    obtain ⟨aa, m, cc, rfl⟩ := h.rb.headG
    have hm := h.lenW
    have Hm : Hid (m = Ws.length) := hm
    have hml : m < 1000000000000000 := by omega
    have HC : Hid (∀ z, Below u.heap.size u z → z.cell? ⟨p, 2, none⟩ = some (.slice aa m cc)) := fun z hz => ((h.box.on hz).2 2 _ rfl).1
    have HR0 : Hid (Row RWi 2 (fun _ => False) u (u.alloc (.cells #[] 82)) 82 (.slice (some ⟨u.heap.size, 0, none⟩) 0 0) (othP s (Ws.take 0))) := Row.start _ u u _ (Below.refl _ _)
    have Hl : Hid ((Ws.length + 1) * 32 ≤ 140737488351232) := hl
    clear h hm hl
    go_enter Tryz.func19, Tryz.ntmps19
    go_wp2_with fail
    --M1
    go_loopw [7, 8] (fun v iv wr => ∃ i : Nat, i ≤ m ∧ iv = .int .i64 i ∧ Hid (Row RWi 2 (fun _ => False) u wr 82 v (othP s (Ws.take i)))) (fun _ iv _ => m - (intOf iv).toNat)
    case atStart => exact ⟨0, Nat.zero_le _, rfl, HR0⟩
    case round =>
      obtain ⟨i, him, rfl, hrow⟩ := hrel
      clear HR0
      have hbw : Below u.heap.size u wr := hrow.out.below
      have c0 := HC.out wr hbw
      by_cases hge : m ≤ i
      · obtain rfl : i = m := by omega
        have hltz : ¬ ((i : Int) < (i : Int)) := by omega
        have e1 : Ws.take i = Ws := List.take_of_length_le (by rw [Hm.out]; omega)
        rw [e1] at hrow
        have HEnd : Hid (∀ (v : Value) (wz : World) (W' : List WiD), Row RWi 2 (fun _ => False) u wz 82 v (W') → BoxL wz p [a, .int .i64 n, .slice aa i cc] ∧ QOut w p a (.slice aa i cc) L n W' u (wz.setCell ⟨p, 2, none⟩ v)) := fun v wz W' hr => by
          have bz : Below u.heap.size u wz := hr.below
          have hf : ∀ x, v.ownBlock = some x → u.heap.size ≤ x := fun x hx => (hr.lt hx).1
          refine ⟨Hh.out.box.on bz, a, v, Hh.out.newB (Kept.below bz) (hr.fromG Hh.out.below) (.inr hf), (Kept.below bz).trans (Kept.set (p := ⟨p, 2, none⟩) (fun e => e (.inl rfl)) _), fun x hx => hx.elim (fun e => .inl (.inl e)) (fun hx => hx.elim (fun e => .inl (.inr (.inl e))) (fun e => .inr (hf x e)))⟩
        obtain ⟨va, vn, vc, rfl⟩ := hrow.out.headG
        cases hne : nd.toList.isEmpty with
        | true =>
          have HW : Hid (hopeP Ws s nd = othP s Ws) := by rw [Hid]; unfold hopeP; rw [if_pos hne]
          obtain ⟨hb2, HQ⟩ := HEnd.out _ _ _ hrow.out
          obtain ⟨x0, x1⟩ := hb2.2 2 _ rfl
          have HF : Hid (QOut w p a (.slice aa i cc) L n (othP s Ws) u (wr.setCell ⟨p, 2, none⟩ (.slice va vn vc))) := HQ
          clear HEnd hb2 HQ hrow hbw
          go_wp2_with fail
          --M2
          go_ret
          exact ⟨rfl, by rw [HW.out]; exact HF.out⟩
        | false =>
          have HW : Hid (hopeP Ws s nd = othP s Ws ++ [(s, nd)]) := by rw [Hid]; unfold hopeP; rw [if_neg (by rw [hne]; decide)]
          have HOK : Hid (okS s ∧ okS nd) := ⟨hs, hnd⟩
          obtain ⟨x, hx⟩ : ∃ x : WiD, x = (s, nd) := ⟨_, rfl⟩
          obtain ⟨W3, hW3⟩ : ∃ Z, Z = wr.alloc (.cells #[.string (s, nd).1, .string (s, nd).2] 82) := ⟨_, rfl⟩
          have B3 : Below wr.heap.size wr W3 := by rw [hW3]; exact (Below.refl _ _).alloc (Nat.le_refl _) _
          have q3 : BoxL W3 wr.heap.size [.string (s, nd).1, .string (s, nd).2] := by rw [hW3]; exact BoxL.new wr 82 _
          have HR3 : Hid (Row RWi 2 (fun _ => False) u W3 82 (Value.slice va vn vc) (othP s Ws)) := hrow.out.on RWi.firm B3
          have HSr : Hid (Src RWi 2 (fun b => (fun _ => False) b ∧ ((Value.slice va vn vc)).ownBlock ≠ some b) W3 (some ⟨wr.heap.size, 0, none⟩) 1 [(s, nd)]) := src_boxG RWi.firm q3 ⟨rfl, HOK.out⟩
          have HW3 : Hid (W3 = wr.alloc (.cells #[.string (s, nd).1, .string (s, nd).2] 82)) := hW3
          have HLb : Hid (((othP s Ws).length + [(s, nd)].length) * 32 ≤ 140737488355328) := by have h1 := oth_len s Ws; have h2 := Hl.out; rw [Hid, List.length_singleton]; omega
          clear hW3 B3 q3 hrow hx
          go_upto_region 11 with (at_builtin; refine wpl_atG HW3.out ?_; go_must (refine row_appendP RWi.firm (A := fun _ => False) (w0 := u) rfl _ _ 27 82 rfl _ 32 infoWi Tryz.underlying27 rfl (by decide) (by decide) _ _ rfl HR3.out (some ⟨_, 0, none⟩) 1 1 [(s, nd)] rfl HSr.out HLb.out ?_); intro v4 w4 hrow4 hg4 hw4)
          --M3
          obtain ⟨v4a, v4n, v4c, rfl⟩ := hrow4.headG
          obtain ⟨hb2, HQ⟩ := HEnd.out _ _ _ hrow4
          obtain ⟨x0, x1⟩ := hb2.2 2 _ rfl
          have HF : Hid (QOut w p a (.slice aa i cc) L n (othP s Ws ++ [(s, nd)]) u (w4.setCell ⟨p, 2, none⟩ (.slice v4a v4n v4c))) := HQ
          clear HEnd hb2 HQ hrow4 hg4 hw4 HW3 HR3 HSr HLb hbw c0
          go_wp2_with fail
          go_ret
          exact ⟨rfl, by rw [HW.out]; exact HF.out⟩
      · have hlt : i < m := by omega
        have hltz : (i : Int) < (m : Int) := by omega
        have hiL : i < Ws.length := by rw [← Hm.out]; exact hlt
        obtain ⟨g, c, e0, hg, hok, hr⟩ := (Hh.out.on hbw).getW hiL
        obtain ⟨rfl, rfl⟩ : aa = some ⟨g, 0, none⟩ ∧ cc = c := by simp only [Value.slice.injEq] at e0; exact ⟨e0.1, e0.2.2⟩
        have HT : Hid (othP s (Ws.take (i + 1)) = othP s (Ws.take i) ++ (if (!sEq (Ws.getD i default).1 s) = true then [Ws.getD i default] else [])) := oth_take hiL
        have HOK : Hid (okS (Ws.getD i default).1 ∧ okS (Ws.getD i default).2) := hok
        have d0 := hr 0 _ rfl
        have d1 := hr 1 _ rfl
        rw [Nat.add_zero] at d0
        have HLb : Hid (((othP s (Ws.take i)).length + [Ws.getD i default].length) * 32 ≤ 140737488355328) := by have h1 := oth_len s (Ws.take i); have h2 := Hl.out; rw [List.length_take] at h1; rw [Hid, List.length_singleton]; omega
        generalize Ws.getD i default = x at d0 d1 HT HOK HLb
        clear hr e0 hok
        cases hx : sEq x.1 s with
        | true =>
          have hx' : (x.1.toList == s.toList) = true := hx
          have hx2 : (x.1.toList != s.toList) = false := by simpa [bne] using hx'
          have HT2 : Hid (othP s (Ws.take (i + 1)) = othP s (Ws.take i)) := by rw [Hid, HT.out, hx]; simp
          clear HT hx
          go_wp2_with fail
          go_roundw
          case rel => exact ⟨i + 1, by omega, by go_num, by rw [HT2.out]; exact hrow.out⟩
          case measure => simp [intOf]; omega
        | false =>
          have hx' : (x.1.toList == s.toList) = false := hx
          have hx2 : (x.1.toList != s.toList) = true := by simpa [bne] using hx'
          have HT2 : Hid (othP s (Ws.take (i + 1)) = othP s (Ws.take i) ++ [x]) := by rw [Hid, HT.out, hx]; simp
          obtain ⟨W3, hW3⟩ : ∃ Z, Z = wr.alloc (.cells #[.string x.1, .string x.2] 82) := ⟨_, rfl⟩
          have B3 : Below wr.heap.size wr W3 := by rw [hW3]; exact (Below.refl _ _).alloc (Nat.le_refl _) _
          have q3 : BoxL W3 wr.heap.size [.string x.1, .string x.2] := by rw [hW3]; exact BoxL.new wr 82 _
          have HR3 : Hid (Row RWi 2 (fun _ => False) u W3 82 u7 (othP s (Ws.take i))) := hrow.out.on RWi.firm B3
          have HSr : Hid (Src RWi 2 (fun b => (fun _ => False) b ∧ (u7).ownBlock ≠ some b) W3 (some ⟨wr.heap.size, 0, none⟩) 1 [x]) := src_boxG RWi.firm q3 ⟨rfl, HOK.out⟩
          have HW3 : Hid (W3 = wr.alloc (.cells #[.string x.1, .string x.2] 82)) := hW3
          clear HT hx hW3 B3 q3 hrow
          go_wp2_with (at_builtin; refine wpl_atG HW3.out ?_; go_must (refine row_appendP RWi.firm (A := fun _ => False) (w0 := u) rfl _ _ 27 82 rfl _ 32 infoWi Tryz.underlying27 rfl (by decide) (by decide) _ _ rfl HR3.out (some ⟨_, 0, none⟩) 1 1 [x] rfl HSr.out HLb.out ?_); intro v4 w4 hrow4 hg4 hw4)
          --M4
          rw [← HT2.out] at hrow4
          go_roundw
          case rel => exact ⟨i + 1, by omega, by go_num, hrow4⟩
          case measure => simp [intOf]; omega
end Go.Proofs.YtbmejaailhjgfaaGreat
namespace Go.Proofs.YtbmejaailhjgfaaGreat
open Go.RowKit
set_option linter.unusedSimpArgs false
set_option maxRecDepth 100000

/-- One call behind another. -/
theorem QOut.step {w u u1 u2 : World} {p : Nat} {a b a1 b1 : Value} {L2 : List EnD} {n2 : Int} {W2 : List WiD} (k1 : Kept (fun x => ¬ QS p a b x) u u1) (n1 : ∀ x, QS p a1 b1 x → QS p a b x ∨ u.heap.size ≤ x) (h2 : QOut w p a1 b1 L2 n2 W2 u1 u2) : QOut w p a b L2 n2 W2 u u2 := by
  obtain ⟨a2, b2, r2, k2, n2'⟩ := h2
  refine ⟨a2, b2, r2, ⟨Nat.le_trans k1.1 k2.1, fun x hx hlt => ?_⟩, fun x hx => ?_⟩
  · have e1 := k2.2 x (fun h => (n1 x h).elim hx (fun h => by omega)) (Nat.lt_of_lt_of_le hlt k1.1)
    exact e1.trans (k1.2 x hx hlt)
  · rcases n2' x hx with h | h
    · exact n1 x h
    · exact .inr (Nat.le_trans k1.1 h)
/-- What Drop answers, and what there is then. -/
def dropP (L : List EnD) (Ws : List WiD) (s : ByteArray) : Int × List EnD × List WiD := match findP L s with | none => (5, L, Ws) | some k => (0, L.eraseIdx k, if s.toList.isEmpty = true then Ws else hopeP Ws s ⟨#[]⟩)
set_option maxHeartbeats 8000000 in
theorem rDrop_calls (w : World) (p : Nat) (a b : Value) (L : List EnD) (n : Int) (Ws : List WiD) (s : ByteArray) (u : World) (h : RqE w u p a b L n Ws) (hs : okS s) (hl : L.length * 56 ≤ 140737488351232) (hw : (Ws.length + 1) * 32 ≤ 140737488351232) : Calls Tryz.prog 17 #[.pointer (some ⟨p, 0, none⟩), .string s] u fun e u' => e = .returned (.int .i64 (dropP L Ws s).1) ∧ QOut w p a b (dropP L Ws s).2.1 n (dropP L Ws s).2.2 u u' := by
  have hC := find_calls w p a b L n Ws s u h hl
  have Hh : Hid (RqE w u p a b L n Ws) := h
  cases hf : findP L s with
  | none =>
    have HR : Hid (dropP L Ws s = (5, L, Ws)) := by rw [Hid]; unfold dropP; rw [hf]
    have HF : Hid (QOut w p a b L n Ws u u) := QOut.same h (Below.refl _ _)
    rw [hf] at hC
    have hfn : fndI none < 0 := by decide
    generalize fndI none = fi at hfn hC
    clear hf h
    go_enter Tryz.func17, Tryz.ntmps17
    go_wp2_with fail
    refine hC.mono ?_
    rintro e u1 ⟨rfl, rfl⟩
    clear hC
    go_wp2_with fail
    go_ret
    exact ⟨by rw [HR.out]; rfl, by rw [HR.out]; exact HF.out⟩
  | some k =>
    have HR : Hid (dropP L Ws s = (0, L.eraseIdx k, if s.toList.isEmpty = true then Ws else hopeP Ws s ⟨#[]⟩)) := by rw [Hid]; unfold dropP; rw [hf]
    have hkL := (find_is hf).1
    rw [hf] at hC
    have hfk : fndI (some k) = (k : Int) := rfl
    rw [hfk] at hC
    have hkz : ¬ ((k : Int) < 0) := by omega
    have hC2 := rWithout_calls w p a b L n Ws k u h hkL hl
    clear hf h hfk
    go_enter Tryz.func17, Tryz.ntmps17
    go_wp2_with fail
    refine hC.mono ?_
    rintro e u1 ⟨rfl, rfl⟩
    clear hC
    go_wp2_with fail
    refine hC2.mono ?_
    rintro e u2 ⟨⟨v2, rfl⟩, a2, b2, r2, k2, n2⟩
    clear hC2
    have hC := rHope_calls w p a2 b2 (L.eraseIdx k) n Ws s ⟨#[]⟩ u2 r2 hs (Nat.zero_le _) hw
    generalize (if s.toList.isEmpty = true then (2 : Int) else 0) = cd at hC
    have H2 : Hid (Kept (fun x => ¬ QS p a b x) u1 u2 ∧ ∀ x, QS p a2 b2 x → QS p a b x ∨ u1.heap.size ≤ x) := ⟨k2, n2⟩
    clear r2 k2 n2
    go_wp2_with fail
    refine hC.mono ?_
    rintro e u3 ⟨rfl, hq3⟩
    clear hC
    have HF : Hid (QOut w p a b (L.eraseIdx k) n (if s.toList.isEmpty = true then Ws else hopeP Ws s ⟨#[]⟩) u1 u3) := QOut.step H2.out.1 H2.out.2 hq3
    clear hq3 H2
    go_wp2_with fail
    go_ret
    exact ⟨by rw [HR.out]; rfl, by rw [HR.out]; exact HF.out⟩
end Go.Proofs.YtbmejaailhjgfaaGreat
namespace Go.Proofs.YtbmejaailhjgfaaGreat
open Go.RowKit
set_option linter.unusedSimpArgs false
set_option maxRecDepth 100000

/-- Three results, the second one in a cell. -/
theorem res_tct {P : Program} {fn : Func} {p q r : Tmp} {ty : TypeId} (h : fn.results = #[.tmp q, .cell p ty, .tmp r]) (tmps : Array Value) (w : World) (b : Nat) (cs : List Value) (d : TypeDesc) (y z : Value)
    (hp : tmps.getD p undef = .pointer (some ⟨b, 0, none⟩)) (hq : tmps.getD q undef = y) (hz : tmps.getD r undef = z) (hr : w.rangeAt b 0 cs) (hu : P.underlying ty = some d) (hd : d.isRow = true) (hi : (P.info? ty).map (·.size) = some cs.length) :
    (results fn tmps).run P w = .ok (.tuple #[y, .agg cs.toArray, z]) w := by
  have hp' : tmps[p]?.getD undef = .pointer (some ⟨b, 0, none⟩) := by simpa using hp
  have hq' : tmps[q]?.getD undef = y := by simpa using hq
  have hz' : tmps[r]?.getD undef = z := by simpa using hz
  simp [results, h, hp', hq', hz', asAddr, run_loadVar_mid w b 0 ty cs d hr hu hd hi]
/-- Where a name is, and its entry. -/
def placeP (L : List EnD) (s : ByteArray) : Int × WtD × Int := match findP L s with | none => (0, zWt, 5) | some k => ((L.getD k default).2, (L.getD k default).1, 0)
set_option maxHeartbeats 16000000 in
theorem rPlace_calls (w : World) (p : Nat) (a b : Value) (L : List EnD) (n : Int) (Ws : List WiD) (s : ByteArray) (u : World) (h : RqE w u p a b L n Ws) (hl : L.length * 56 ≤ 140737488351232) : Calls Tryz.prog 22 #[.pointer (some ⟨p, 0, none⟩), .string s] u fun e u' => e = .returned (.tuple #[.int .i64 (placeP L s).1, .agg (wtC (placeP L s).2.1).toArray, .int .i64 (placeP L s).2.2]) ∧ Below u.heap.size u u' := by
  obtain ⟨W1, hW1⟩ : ∃ Z, Z = u.alloc (.cells #[.string ⟨#[]⟩, .int .i64 0, .int .i64 0, .int .i64 0, .int .i64 0] 31) := ⟨_, rfl⟩
  have b1 : Below u.heap.size u W1 := by rw [hW1]; exact (Below.refl _ _).alloc (Nat.le_refl _) _
  have q1 : BoxL W1 u.heap.size (wtC zWt) := by rw [hW1]; exact BoxL.new u 31 (wtC zWt)
  have hC := find_calls w p a b L n Ws s W1 (h.on b1) hl
  have Hh : Hid (RqE w u p a b L n Ws) := h
  have H1 : Hid (Below u.heap.size u W1 ∧ BoxL W1 u.heap.size (wtC zWt)) := ⟨b1, q1⟩
  have HW1 : Hid (u.alloc (.cells #[.string ⟨#[]⟩, .int .i64 0, .int .i64 0, .int .i64 0, .int .i64 0] 31) = W1) := hW1.symm
  clear hW1 b1 q1 h
  cases hf : findP L s with
  | none =>
    have HR : Hid (placeP L s = (0, zWt, 5)) := by rw [Hid]; unfold placeP; rw [hf]
    rw [hf] at hC
    have hfn : fndI none < 0 := by decide
    generalize fndI none = fi at hfn hC
    have HZ : Hid (W1.there u.heap.size 0 (wtC zWt).toArray.size) := H1.out.2.there
    obtain ⟨Y, hY⟩ : ∃ Z, Z = W1.setCells u.heap.size 0 (wtC zWt) := ⟨_, rfl⟩
    have HY : Hid (W1.setCells u.heap.size 0 (wtC zWt).toArray.toList = Y) := hY.symm
    have HQ : Hid (Y.rangeAt u.heap.size 0 (wtC zWt)) := by rw [hY]; exact World.rangeAt_setCells_same _ _ _ _ H1.out.2.there
    have HF : Hid (Below u.heap.size u Y) := by rw [hY]; exact below_setCells H1.out.1 (Nat.le_refl _)
    clear hY hf
    go_enter Tryz.func22, Tryz.ntmps22
    go_upto_region 1 with fail
    rw [HW1.out]
    go_wp2_with fail
    refine hC.mono ?_
    rintro e z1 ⟨rfl, rfl⟩
    clear hC
    go_wp2_with (first | (refine wpList_store_mid rfl 31 _ _ rfl u.heap.size 0 (wtC zWt).toArray rfl rfl HZ.out (by kernel_rfl) (by simp [Value.oneCell']) ?_; refine wpl_atG HY.out.symm ?_) | fail)
    --M1
    refine bodyPost_ret (v := .tuple #[.int .i64 0, .agg (wtC zWt).toArray, .int .i64 5]) (res_tct (p := 5) (q := 4) (r := 6) (ty := 31) rfl _ _ u.heap.size (wtC zWt) _ _ _ rfl rfl rfl HQ.out Tryz.underlying31 rfl (by kernel_rfl)) rfl ?_
    exact ⟨by rw [HR.out], HF.out⟩
  | some k =>
    have HR : Hid (placeP L s = ((L.getD k default).2, (L.getD k default).1, 0)) := by rw [Hid]; unfold placeP; rw [hf]
    have hkL := (find_is hf).1
    rw [hf] at hC
    have hfk : fndI (some k) = (k : Int) := rfl
    rw [hfk] at hC
    obtain ⟨g, cc, rfl, hg, _, hr, _⟩ := Hh.out.get hkL
    obtain ⟨e, he⟩ : ∃ e, e = L.getD k default := ⟨_, rfl⟩
    rw [← he] at HR hr
    obtain ⟨m, hm⟩ : ∃ m, m = L.length := ⟨_, rfl⟩
    rw [← hm] at Hh
    have hkz : ¬ ((k : Int) < 0) := by omega
    have hkm : (k : Int) < (m : Int) := by omega
    have hkm2 : k < m := by omega
    have hml : m < 1000000000000000 := by omega
    have HR1 : Hid (∀ z, Kept (fun y => y ≠ u.heap.size) W1 z → z.rangeAt g (k * 6) (enC e)) := fun z hz j v hj => ((hz.cell (p := ⟨g, k * 6 + j, none⟩) (show g ≠ u.heap.size by omega) (Nat.lt_of_lt_of_le hg H1.out.1.size)).trans (H1.out.1.cell (p := ⟨g, k * 6 + j, none⟩) hg)).trans (hr j v hj)
    have HE : Hid (∀ z, Kept (fun y => y ≠ u.heap.size) W1 z → z.rangeAt g (k * 6) (wtC e.1)) := fun z hz => wt_range (HR1.out z hz)
    have HC : Hid (∀ z, Kept (fun y => y ≠ u.heap.size) W1 z → z.cell? ⟨p, 0, none⟩ = some (.slice (some ⟨g, 0, none⟩) m cc) ∧ z.cell? ⟨g, k * 6 + 5, none⟩ = some (.int .i64 e.2)) := fun z hz => ⟨(((Hh.out.on H1.out.1).box.kept hz (by have h1 := Hh.out.box.1; omega)).2 0 _ rfl).1, HR1.out z hz 5 _ rfl⟩
    clear hf hr he hm hfk hl HR1
    go_enter Tryz.func22, Tryz.ntmps22
    go_upto_region 1 with fail
    rw [HW1.out]
    go_wp2_with fail
    refine hC.mono ?_
    rintro e9 z1 ⟨rfl, rfl⟩
    clear hC
    obtain ⟨W1, hW1⟩ : ∃ W, W = z1 := ⟨_, rfl⟩
    subst hW1
    go_upto_region 4 with fail
    --M2
    have hb0 : Below W1.heap.size W1 W1.drew := (Below.refl _ _).drew
    refine t0 (fun z => Kept (fun y => y ≠ u.heap.size) W1 z) (Kept.below hb0) (fun hHeld => ?_)
    have Hd : Hid (Below W1.heap.size W1 W1.drew) := hb0
    generalize hwd : W1.drew = wd at hHeld Hd ⊢
    clear hwd hb0
    try go_frame
    refine' tk 0 ?_ ?_; rotate_left
    · intro z hz; obtain ⟨f0, f1⟩ := HC.out z hz; clear hz; go_simp; try with_reducible rfl
    try go_frame
    refine' tk 1 ?_ ?_; rotate_left
    · intro z hz; obtain ⟨f0, f1⟩ := HC.out z hz; clear hz; go_simp; try with_reducible rfl
    try go_frame
    refine' tk 2 ?_ ?_; rotate_left
    · intro z hz; obtain ⟨f0, f1⟩ := HC.out z hz; clear hz; go_simp; try with_reducible rfl
    try go_frame
    refine' tk 3 ?_ ?_; rotate_left
    · intro z hz; obtain ⟨f0, f1⟩ := HC.out z hz; clear hz; go_simp; try with_reducible rfl
    try go_frame
    refine' tk 4 ?_ ?_; rotate_left
    · intro z hz; obtain ⟨f0, f1⟩ := HC.out z hz; clear hz; go_simp; try with_reducible rfl
    try go_frame
    refine' tk 5 ?_ ?_; rotate_left
    · intro z hz; obtain ⟨f0, f1⟩ := HC.out z hz; clear hz; go_simp; try with_reducible rfl
    try go_frame
    refine' tk 6 ?_ ?_; rotate_left
    · intro z hz; obtain ⟨f0, f1⟩ := HC.out z hz; clear hz; go_simp; try with_reducible rfl
    try go_frame
    refine' tk 7 ?_ ?_; rotate_left
    · intro z hz; obtain ⟨f0, f1⟩ := HC.out z hz; clear hz; go_simp; try with_reducible rfl
    try go_frame
    refine' tk 8 ?_ ?_; rotate_left
    · intro z hz; obtain ⟨f0, f1⟩ := HC.out z hz; clear hz; go_simp; try with_reducible rfl
    try go_frame
    refine' tk 9 ?_ ?_; rotate_left
    · intro z hz; obtain ⟨f0, f1⟩ := HC.out z hz; clear hz; go_simp; try with_reducible rfl
    try go_frame
    refine' tk 10 ?_ ?_; rotate_left
    · intro z hz; obtain ⟨f0, f1⟩ := HC.out z hz; clear hz; go_simp; try with_reducible rfl
    try go_frame
    refine' tk 11 ?_ ?_; rotate_left
    · intro z hz; obtain ⟨f0, f1⟩ := HC.out z hz; clear hz; go_simp; try with_reducible rfl
    try go_frame
    refine' tk 12 ?_ ?_; rotate_left
    · intro z hz; obtain ⟨f0, f1⟩ := HC.out z hz; clear hz; go_simp; try with_reducible rfl
    try go_frame
    refine' tk 13 ?_ ?_; rotate_left
    · intro z hz; obtain ⟨f0, f1⟩ := HC.out z hz; clear hz; go_simp; try with_reducible rfl
    try go_frame
    refine' tk 14 ?_ ?_; rotate_left
    · intro z hz; obtain ⟨f0, f1⟩ := HC.out z hz; clear hz; go_simp; try with_reducible rfl
    try go_frame
    refine tq 15 (.agg (wtC e.1).toArray) (yieldsIf_load_mid (by rfl) 31 _ rfl g (k * 6) (by go_simp) (wtC e.1) _ (fun z hz => (HE.out z hz)) Tryz.underlying31 rfl (by kernel_rfl)) ?_ (hi := rfl)
    try go_frame
    refine' tk 16 ?_ ?_; rotate_left
    · intro z hz; obtain ⟨f0, f1⟩ := HC.out z hz; clear hz; go_simp; try with_reducible rfl
    try go_frame
    refine ts 17 (fun K hK => ?_)
    refine want_yesQ (by rfl) (wp_store_mid 31 _ _ rfl u.heap.size 0 (wtC e.1).toArray rfl rfl (H1.out.2.on Hd.out).there (by kernel_rfl) (by simp [Value.oneCell']) ?_)
    obtain ⟨Y, hY⟩ : ∃ Z, Z = wd.setCells u.heap.size 0 (wtC e.1) := ⟨_, rfl⟩
    have eY : wd.setCells u.heap.size 0 (wtC e.1).toArray.toList = Y := hY.symm
    rw [eY]
    have HY : Hid (Y.rangeAt u.heap.size 0 (wtC e.1) ∧ Below u.heap.size u Y) := ⟨by rw [hY]; exact World.rangeAt_setCells_same _ _ _ _ (H1.out.2.on Hd.out).there, by rw [hY]; exact below_setCells (on2 H1.out.1 Hd.out) (Nat.le_refl _)⟩
    refine hK.out undef _ (hHeld.trans (by rw [hY]; exact kept_setCells (fun h => h rfl))) (fun hHeld2 => ?_)
    clear hY eY
    clear hK K hHeld; have hHeld := hHeld2; clear hHeld2
    try go_frame
    refine' tk 18 ?_ ?_; rotate_left
    · intro z hz; clear hz; go_simp; try with_reducible rfl
    try go_frame
    refine tz ?_
    clear hHeld
    --M3
    go_wp2_with fail
    refine bodyPost_ret (v := .tuple #[.int .i64 e.2, .agg (wtC e.1).toArray, .int .i64 0]) (res_tct (p := 5) (q := 4) (r := 6) (ty := 31) rfl _ _ u.heap.size (wtC e.1) _ _ _ rfl rfl rfl HY.out.1 Tryz.underlying31 rfl (by kernel_rfl)) rfl ?_
    exact ⟨by rw [HR.out], HY.out.2⟩
end Go.Proofs.YtbmejaailhjgfaaGreat
