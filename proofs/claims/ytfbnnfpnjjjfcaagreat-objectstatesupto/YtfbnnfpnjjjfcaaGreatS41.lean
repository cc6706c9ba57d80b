/- States that are handed on as values, and its like. No condition beyond what each says. -/
import Derived.Test.YtfbnnfpnjjjfcaaGreatS38
import Derived.Test.YtfbnnfpnjjjfcaaGreatS39
import Derived.Test.YtfbnnfpnjjjfcaaGreatS40
namespace Go.Proofs.YtfbnnfpnjjjfcaaGreat
set_option maxHeartbeats 16000000
set_option maxRecDepth 100000
open Tryz Go.RowKit
set_option linter.unusedSimpArgs false
def StV (A : Where) (w u : World) (gs : List Value) (x : StateD) : Prop := ∃ g0 g1 g2 g3 g4 g5 : Hd, gs = [J g0, J g1, J g2, J g3, J g4, J g5] ∧ OwnSt A w u (J g0) (J g1) (J g2) (J g3) (J g4) (J g5) x
def Fits (x : StateD) : Prop := x.1.length * 296 ≤ 140737488351232 ∧ x.2.1.length * 112 ≤ 140737488351232 ∧ x.2.2.1.length * 80 ≤ 140737488351232 ∧ x.2.2.2.1.length * 56 ≤ 140737488351232 ∧ x.2.2.2.2.1.length * 24 ≤ 140737488351232 ∧ x.2.2.2.2.2.length * 48 ≤ 140737488351232
theorem StTup.st {A : Where} {w w' : World} {r : StateD × Bool × Int} {e : Ending} (h : StTup A w r e w') : ∃ gs, e = .returned (.tuple #[.agg gs.toArray, .bool r.2.1, .int .i64 r.2.2]) ∧ StV (Lo A w) w w' gs r.1 ∧ Below w.heap.size w w' := by
 obtain ⟨g0, g1, g2, g3, g4, g5, rfl, h1, h2⟩ := h
 exact ⟨_, rfl, ⟨g0, g1, g2, g3, g4, g5, rfl, h1⟩, h2⟩
theorem StV.tup {A : Where} {w w' : World} {gs : List Value} {r : StateD × Bool × Int} (h : StV (Lo A w) w w' gs r.1) (hb : Below w.heap.size w w') : StTup A w r (.returned (.tuple #[.agg gs.toArray, .bool r.2.1, .int .i64 r.2.2])) w' := by
 obtain ⟨g0, g1, g2, g3, g4, g5, rfl, h1⟩ := h
 exact ⟨g0, g1, g2, g3, g4, g5, rfl, h1, hb⟩
theorem StTup2.st {A : Where} {w w' : World} {r : StateD × Bool} {e : Ending} (h : StTup2 A w r e w') : ∃ gs, e = .returned (.tuple #[.agg gs.toArray, .bool r.2]) ∧ StV (Lo A w) w w' gs r.1 ∧ Below w.heap.size w w' := by
 obtain ⟨g0, g1, g2, g3, g4, g5, rfl, h1, h2⟩ := h
 exact ⟨_, rfl, ⟨g0, g1, g2, g3, g4, g5, rfl, h1⟩, h2⟩
section
variable {A : Where} {w u u' : World} {gs : List Value} {x : StateD}
theorem StV.len (h : StV A w u gs x) : gs.length = 6 := by obtain ⟨g0, g1, g2, g3, g4, g5, rfl, h1⟩ := h; rfl
theorem StV.one (h : StV A w u gs x) : ∀ y ∈ gs, y.oneCell' = true := by obtain ⟨g0, g1, g2, g3, g4, g5, rfl, h1⟩ := h; simp [Value.oneCell']
theorem StV.on (h : StV A w u gs x) (hb : Below u.heap.size u u') : StV A w u' gs x := by obtain ⟨g0, g1, g2, g3, g4, g5, rfl, h1⟩ := h; exact ⟨g0, g1, g2, g3, g4, g5, rfl, h1.on hb⟩
theorem StV.below (h : StV A w u gs x) : Below w.heap.size w u := by obtain ⟨g0, g1, g2, g3, g4, g5, rfl, h1⟩ := h; exact h1.below
theorem StV.from {w1 : World} {A' : Where} (h : StV A w1 u gs x) (hb : Below w.heap.size w w1) (hA : ∀ b, A b → A' b) : StV A' w u gs x := by obtain ⟨g0, g1, g2, g3, g4, g5, rfl, h1⟩ := h; exact ⟨g0, g1, g2, g3, g4, g5, rfl, h1.from hb hA⟩
theorem StV.wrote {b o : Nat} {cs : List Value} (h : StV (Lo (Lo A w) u) u u' gs x) (hw : Below w.heap.size w u) (hb1 : w.heap.size ≤ b) (hb2 : b < u.heap.size) : StV (Lo A w) w (u'.setCells b o cs) gs x := by
 obtain ⟨g0, g1, g2, g3, g4, g5, rfl, h1⟩ := h
 have h2 := h1.from hw (A' := Lo A w) (fun b h => h.1)
 refine ⟨g0, g1, g2, g3, g4, g5, rfl, h2.kept (below_setCells h2.below hb1) (kept_setCells (fun h => ?_))⟩
 rcases h with h | h
 ·
  exact absurd h.2 (by omega)
 ·
  have := (h1.lt h).1; omega
theorem StV.rstate (h : StV A w u gs x) (hf : Fits x) : RState (fun b => A b ∨ Fresh w b) u gs x := by
 obtain ⟨g0, g1, g2, g3, g4, g5, rfl, h1⟩ := h
 obtain ⟨f0, f1, f2, f3, f4, f5⟩ := hf
 exact RState.mk (h1.r0.slG RPod.firm f0) (h1.r1.slG RNode.firm f1) (h1.r2.slG RVolume.firm f2) (h1.r3.slG RClaim.firm f3) (h1.r4.slG RClass.firm f4) (h1.r5.slG RBudget.firm f5)
theorem StV.empty (hb : Below w.heap.size w u) : StV A w u [Z, Z, Z, Z, Z, Z] noState := ⟨(none, 0, 0), (none, 0, 0), (none, 0, 0), (none, 0, 0), (none, 0, 0), (none, 0, 0), rfl, OwnSt.none hb⟩
theorem noState_rep : RState A w [Z, Z, Z, Z, Z, Z] noState := (StV.empty (A := A) (Below.refl w.heap.size w)).rstate (by simp [Fits, noState]) |> RState.firm.weak <| fun b hb h => by rcases h with h | h; exact h; exact absurd hb (Nat.not_lt.2 h)
end
theorem Pod_ocount (ss : List Value) (A : Where) (x : StateD) (w : World) (hs : RState A w ss x) : Calls prog 154 #[.agg #[.iface 132 (.agg #[])], .agg ss.toArray] w fun e w' => e = .returned (.int .i64 (x.1.length)) ∧ Below w.heap.size w w' := by
 obtain ⟨h0, h1, h2, h3, h4, h5, rfl, q0, q1, q2, q3, q4, q5⟩ := RState.out hs
 rw [q0.1]
 exact Pod_kcount h0 h1 h2 h3 h4 h5 w
theorem Pod_orightIn (ss : List Value) (A : Where) (x : StateD) (w : World) (hs : RState A w ss x) : Calls prog 160 #[.agg #[.iface 132 (.agg #[])], .agg ss.toArray] w fun e w' => e = .returned (.bool (x.1.all rightPod && risesBy sLt (fun y => y.1) x.1)) ∧ Below w.heap.size w w' := by
 obtain ⟨h0, h1, h2, h3, h4, h5, rfl, q0, q1, q2, q3, q4, q5⟩ := RState.out hs
 exact Pod_krightIn h0 h1 h2 h3 h4 h5 A _ w q0
theorem Node_ocount (ss : List Value) (A : Where) (x : StateD) (w : World) (hs : RState A w ss x) : Calls prog 191 #[.agg #[.iface 137 (.agg #[])], .agg ss.toArray] w fun e w' => e = .returned (.int .i64 (x.2.1.length)) ∧ Below w.heap.size w w' := by
 obtain ⟨h0, h1, h2, h3, h4, h5, rfl, q0, q1, q2, q3, q4, q5⟩ := RState.out hs
 rw [q1.1]
 exact Node_kcount h0 h1 h2 h3 h4 h5 w
theorem Node_orightIn (ss : List Value) (A : Where) (x : StateD) (w : World) (hs : RState A w ss x) : Calls prog 197 #[.agg #[.iface 137 (.agg #[])], .agg ss.toArray] w fun e w' => e = .returned (.bool (x.2.1.all rightNode && risesBy sLt (fun y => y.1) x.2.1)) ∧ Below w.heap.size w w' := by
 obtain ⟨h0, h1, h2, h3, h4, h5, rfl, q0, q1, q2, q3, q4, q5⟩ := RState.out hs
 exact Node_krightIn h0 h1 h2 h3 h4 h5 A _ w q1
theorem Volume_ocount (ss : List Value) (A : Where) (x : StateD) (w : World) (hs : RState A w ss x) : Calls prog 222 #[.agg #[.iface 142 (.agg #[])], .agg ss.toArray] w fun e w' => e = .returned (.int .i64 (x.2.2.1.length)) ∧ Below w.heap.size w w' := by
 obtain ⟨h0, h1, h2, h3, h4, h5, rfl, q0, q1, q2, q3, q4, q5⟩ := RState.out hs
 rw [q2.1]
 exact Volume_kcount h0 h1 h2 h3 h4 h5 w
theorem Volume_orightIn (ss : List Value) (A : Where) (x : StateD) (w : World) (hs : RState A w ss x) : Calls prog 228 #[.agg #[.iface 142 (.agg #[])], .agg ss.toArray] w fun e w' => e = .returned (.bool (x.2.2.1.all rightVolume && risesBy sLt (fun y => y.1) x.2.2.1)) ∧ Below w.heap.size w w' := by
 obtain ⟨h0, h1, h2, h3, h4, h5, rfl, q0, q1, q2, q3, q4, q5⟩ := RState.out hs
 exact Volume_krightIn h0 h1 h2 h3 h4 h5 A _ w q2
theorem Claim_ocount (ss : List Value) (A : Where) (x : StateD) (w : World) (hs : RState A w ss x) : Calls prog 253 #[.agg #[.iface 147 (.agg #[])], .agg ss.toArray] w fun e w' => e = .returned (.int .i64 (x.2.2.2.1.length)) ∧ Below w.heap.size w w' := by
 obtain ⟨h0, h1, h2, h3, h4, h5, rfl, q0, q1, q2, q3, q4, q5⟩ := RState.out hs
 rw [q3.1]
 exact Claim_kcount h0 h1 h2 h3 h4 h5 w
theorem Claim_orightIn (ss : List Value) (A : Where) (x : StateD) (w : World) (hs : RState A w ss x) : Calls prog 259 #[.agg #[.iface 147 (.agg #[])], .agg ss.toArray] w fun e w' => e = .returned (.bool (x.2.2.2.1.all rightClaim && risesBy sLt (fun y => y.1) x.2.2.2.1)) ∧ Below w.heap.size w w' := by
 obtain ⟨h0, h1, h2, h3, h4, h5, rfl, q0, q1, q2, q3, q4, q5⟩ := RState.out hs
 exact Claim_krightIn h0 h1 h2 h3 h4 h5 A _ w q3
theorem Class_oput (ss cs : List Value) (A : Where) (x : StateD) (o : ObjectD) (w : World) (hs : RState A w ss x) (ho : RObject A w cs o) : Calls prog 287 #[.agg #[.iface 152 (.agg #[])], .agg ss.toArray, .agg cs.toArray] w fun e w' => StTup A w (putSClass x o.2.2.2.2.2.1) e w' := by
 have hl := RObject.firm.len ho
 obtain ⟨p, c, q, rfl, hp, hr⟩ := partClass ho
 obtain ⟨h0, h1, h2, h3, h4, h5, rfl, q0, q1, q2, q3, q4, q5⟩ := RState.out hs
 exact Class_kput h0 h1 h2 h3 h4 h5 p c q x _ A w q0 q1 q2 q3 q4 q5 hr hp hl
theorem Class_ocount (ss : List Value) (A : Where) (x : StateD) (w : World) (hs : RState A w ss x) : Calls prog 284 #[.agg #[.iface 152 (.agg #[])], .agg ss.toArray] w fun e w' => e = .returned (.int .i64 (x.2.2.2.2.1.length)) ∧ Below w.heap.size w w' := by
 obtain ⟨h0, h1, h2, h3, h4, h5, rfl, q0, q1, q2, q3, q4, q5⟩ := RState.out hs
 rw [q4.1]
 exact Class_kcount h0 h1 h2 h3 h4 h5 w
theorem Class_orightIn (ss : List Value) (A : Where) (x : StateD) (w : World) (hs : RState A w ss x) : Calls prog 290 #[.agg #[.iface 152 (.agg #[])], .agg ss.toArray] w fun e w' => e = .returned (.bool (x.2.2.2.2.1.all rightClass && risesBy sLt (fun y => y.1) x.2.2.2.2.1)) ∧ Below w.heap.size w w' := by
 obtain ⟨h0, h1, h2, h3, h4, h5, rfl, q0, q1, q2, q3, q4, q5⟩ := RState.out hs
 exact Class_krightIn h0 h1 h2 h3 h4 h5 A _ w q4
theorem Budget_ocount (ss : List Value) (A : Where) (x : StateD) (w : World) (hs : RState A w ss x) : Calls prog 315 #[.agg #[.iface 157 (.agg #[])], .agg ss.toArray] w fun e w' => e = .returned (.int .i64 (x.2.2.2.2.2.length)) ∧ Below w.heap.size w w' := by
 obtain ⟨h0, h1, h2, h3, h4, h5, rfl, q0, q1, q2, q3, q4, q5⟩ := RState.out hs
 rw [q5.1]
 exact Budget_kcount h0 h1 h2 h3 h4 h5 w
theorem Budget_orightIn (ss : List Value) (A : Where) (x : StateD) (w : World) (hs : RState A w ss x) : Calls prog 321 #[.agg #[.iface 157 (.agg #[])], .agg ss.toArray] w fun e w' => e = .returned (.bool (x.2.2.2.2.2.all rightBudget && risesBy sLt (fun y => y.1) x.2.2.2.2.2)) ∧ Below w.heap.size w w' := by
 obtain ⟨h0, h1, h2, h3, h4, h5, rfl, q0, q1, q2, q3, q4, q5⟩ := RState.out hs
 exact Budget_krightIn h0 h1 h2 h3 h4 h5 A _ w q5
theorem rAll_Pod (ss : List Value) (A : Where) (x : StateD) (w : World) (h : RState A w ss x) (hf : x.1.length * 624 ≤ 140737488351232) : Calls prog 27 #[.agg ss.toArray, .int .i64 1] w fun e w' => ∃ a cap, e = .returned (.slice a x.1.length cap) ∧ SlAt RObject 40 624 (fun b => A b ∨ Fresh w b) w' a x.1.length cap (x.1.map oPod) ∧ Below w.heap.size w w' := by
 obtain ⟨h0, h1, h2, h3, h4, h5, rfl, q0, q1, q2, q3, q4, q5⟩ := h.out
 have SL : Hid (SlAt RPod 16 296 (Lo A w) w h0.1 h0.2.1 h0.2.2 x.1) := q0.weak RPod.firm (fun b hb h => ⟨h, hb⟩)
 have HN : Hid (x.1.length = h0.2.1) := q0.1
 generalize x.1 = L at SL hf HN ⊢
 obtain ⟨W1, hW1⟩ : ∃ W, W = w.alloc (.cells [J h0, J h1, J h2, J h3, J h4, J h5].toArray 61) := ⟨_, rfl⟩
 have HB1 : Hid (Held w [(w.heap.size, [J h0, J h1, J h2, J h3, J h4, J h5])] [] W1) := by rw [Hid, hW1]; exact (Held.start w).push rfl [J h0, J h1, J h2, J h3, J h4, J h5] 61
 have HR0 : Hid (Row RObject 40 (Lo A w) W1 (W1.alloc (.cells #[] 46)) 46 (.slice (some ⟨W1.heap.size, 0, none⟩) 0 0) ((L.take 0).map oPod)) := Row.start _ W1 W1 _ (Below.refl _ _)
 have HF : Hid (L.length * 624 ≤ 140737488351232) := hf
 have hln := SL.out.len (by decide)
 clear h q0 q1 q2 q3 q4 q5 hf
 go_enter func27, ntmps27
 go_upto_region 1 with fail
 rw [← hW1]
 clear hW1
 go_wp2_with fail
 go_loopw [5, 6] (fun s i wr => ∃ k : Nat, k ≤ h0.2.1 ∧ i = .int .i64 k ∧ Hid (Row RObject 40 (Lo A w) W1 wr 46 s ((L.take k).map oPod))) (fun _ i _ => h0.2.1 - (intOf i).toNat)
 case atStart => exact ⟨0, Nat.zero_le _, rfl, HR0⟩
 case round =>
  obtain ⟨k, hk, rfl, hrow⟩ := hrel
  have hbw : Below W1.heap.size W1 wr := hrow.out.below
  have HBw := HB1.out.on hbw
  have kb := HBw.cell 0 (b := w.heap.size) rfl 0 rfl
  have kl := HBw.lt 0 rfl
  by_cases hlt : k < h0.2.1
  ·
   have hltz : (k : Int) < (h0.2.1 : Int) := by omega
   have hkl : Hid (k < L.length) := by rw [Hid, HN.out]; exact hlt
   obtain ⟨B, off, ea, hB, _, p, hr, hv⟩ := (SL.out.on RPod.firm HBw.below).get hlt
   change _ = some (Value.slice h0.1 _ _) at kb
   rw [ea] at kb
   clear ea
   have G : Hid (wr.rangeAt B (off + k * 16) p) := hv
   have HE : Hid (RPod (Lo A w) wr p (L.getD k default)) := hr
   have hic := info_of iszPod (RPod.firm.len hr)
   have HT : Hid ((L.take k).map oPod ++ [oPod (L.getD k default)] = (L.take (k + 1)).map oPod) := by rw [Hid, ← take_at hkl.out, List.map_append]; rfl
   have HLb : Hid ((((L.take k).map oPod).length + 1) * 624 ≤ 140737488355328) := by
    have := bytes_le HF.out hkl.out
    rw [Hid, List.length_map, List.length_take, Nat.min_eq_left (Nat.le_of_lt hkl.out)]
    exact this
   obtain ⟨i0, hi0, hz0, hzs, _⟩ := info_parts infoObj3
   have hbe : Below wr.heap.size wr (wr.alloc (.cells (cPod p).toArray 46)) := (Below.refl _ _).alloc (Nat.le_refl _) _
   have HRa := hrow.out.on RObject.firm hbe
   have HOb : RObject (fun b => Lo A w b ∧ Value.ownBlock u5 ≠ some b) (wr.alloc (.cells (cPod p).toArray 46)) (cPod p) (oPod (L.getD k default)) := RObject.firm.weak (RObject.firm.kept (oPod_rep HE.out) (Kept.below hbe)) (fun b _ hb => ⟨hb, fun e => absurd (hrow.out.ownge e) (by have := hb.2; have := HB1.out.lt 0 rfl; omega)⟩)
   have HCh := Hid.mk_ (chunk_one RObject.firm HOb)
   have HX := Hid.mk_ (one_cells wr (cPod p) 46)
   have h1c : ∀ y ∈ cPod p, y.oneCell' = true := RObject.firm.one HOb
   have HRw : Hid (Row RObject 40 (Lo A w) W1 (wr.alloc (.cells (cPod p).toArray 46)) 46 u5 ((L.take k).map oPod)) := HRa
   clear hr hv HRa hbe hbw hrow HOb
   go_wp2_with (first | (refine BigFrame.wpList_want rfl (fun _ hKK => wp_load_mid 33 _ rfl B (off + k * 16) rfl p _ G.out underlying33 rfl hic (hKK _ _ ?_))) | (refine BigFrame.wpList_want rfl (fun _ hKK => wp_build2 46 _ rfl #[(0, .int .i64 1), (1, .agg p.toArray)] (by go_simp) (cPod p).toArray (bPod_run HE.out) (hKK _ _ ?_))) | (refine wpList_buildSlice rfl 73 46 1 _ rfl (cPod p).toArray i0 _ underlying73 hi0 hz0 (by rw [hzs]; decide) (by rw [hzs]; decide) (by rw [hzs]; simp only [List.map_toArray]; exact foPod HE.out) ?_) | (refine row_append RObject.firm (A := Lo A w) (w0 := W1) (by rfl) _ _ 73 46 rfl _ 624 infoObj3 underlying73 rfl (by decide) (by decide) u5 ((L.take k).map oPod) rfl HRw.out ⟨wr.heap.size, 0, none⟩ 1 1 _ [oPod (L.getD k default)] rfl rfl HCh.out HX.out h1c HLb.out ?_; intro v6 w6 hrow6 hg6) | fail)
   rw [HT.out] at hrow6
   have hrow6' : Hid (Row RObject 40 (Lo A w) W1 w6 46 v6 ((L.take (k + 1)).map oPod)) := hrow6
   clear hrow6 hg6 HRw HCh HX G HE
   go_wp2_with fail
   go_roundw
   case rel => exact ⟨k + 1, by omega, by go_num, hrow6'⟩
   case measure => simp [intOf]; omega
  ·
   have hltz : ¬ ((k : Int) < (h0.2.1 : Int)) := by omega
   have hk' : L.take k = L := List.take_of_length_le (by rw [HN.out]; omega)
   rw [hk'] at hrow
   obtain ⟨a', cap', e1, h2'⟩ := hrow.out.sl (bytes := 624) RObject.firm (by rw [List.length_map]; exact HF.out)
   rw [List.length_map] at e1 h2'
   have hbel := Hid.mk_ (HB1.out.on hrow.out.below).below
   have HSL : Hid (SlAt RObject 40 624 (fun b => A b ∨ Fresh w b) wr a' L.length cap' (L.map oPod)) := h2'.weak RObject.firm (fun b _ hb => by rcases hb with hb | hb; exact .inl hb.1; exact .inr (Nat.le_of_lt (Nat.lt_of_lt_of_le (HB1.out.lt 0 rfl) hb)))
   subst e1
   clear hrow h2' HR0
   go_wp2_with fail
   go_ret
   exact ⟨_, _, rfl, HSL.out, hbel.out⟩
theorem rAll_Node (ss : List Value) (A : Where) (x : StateD) (w : World) (h : RState A w ss x) (hf : x.2.1.length * 624 ≤ 140737488351232) : Calls prog 27 #[.agg ss.toArray, .int .i64 2] w fun e w' => ∃ a cap, e = .returned (.slice a x.2.1.length cap) ∧ SlAt RObject 40 624 (fun b => A b ∨ Fresh w b) w' a x.2.1.length cap (x.2.1.map oNode) ∧ Below w.heap.size w w' := by
 obtain ⟨h0, h1, h2, h3, h4, h5, rfl, q0, q1, q2, q3, q4, q5⟩ := h.out
 have SL : Hid (SlAt RNode 9 112 (Lo A w) w h1.1 h1.2.1 h1.2.2 x.2.1) := q1.weak RNode.firm (fun b hb h => ⟨h, hb⟩)
 have HN : Hid (x.2.1.length = h1.2.1) := q1.1
 generalize x.2.1 = L at SL hf HN ⊢
 obtain ⟨W1, hW1⟩ : ∃ W, W = w.alloc (.cells [J h0, J h1, J h2, J h3, J h4, J h5].toArray 61) := ⟨_, rfl⟩
 have HB1 : Hid (Held w [(w.heap.size, [J h0, J h1, J h2, J h3, J h4, J h5])] [] W1) := by rw [Hid, hW1]; exact (Held.start w).push rfl [J h0, J h1, J h2, J h3, J h4, J h5] 61
 have HR0 : Hid (Row RObject 40 (Lo A w) W1 (W1.alloc (.cells #[] 46)) 46 (.slice (some ⟨W1.heap.size, 0, none⟩) 0 0) ((L.take 0).map oNode)) := Row.start _ W1 W1 _ (Below.refl _ _)
 have HF : Hid (L.length * 624 ≤ 140737488351232) := hf
 have hln := SL.out.len (by decide)
 clear h q0 q1 q2 q3 q4 q5 hf
 go_enter func27, ntmps27
 go_upto_region 1 with fail
 rw [← hW1]
 clear hW1
 go_wp2_with fail
 go_loopw [5, 7] (fun s i wr => ∃ k : Nat, k ≤ h1.2.1 ∧ i = .int .i64 k ∧ Hid (Row RObject 40 (Lo A w) W1 wr 46 s ((L.take k).map oNode))) (fun _ i _ => h1.2.1 - (intOf i).toNat)
 case atStart => exact ⟨0, Nat.zero_le _, rfl, HR0⟩
 case round =>
  obtain ⟨k, hk, rfl, hrow⟩ := hrel
  have hbw : Below W1.heap.size W1 wr := hrow.out.below
  have HBw := HB1.out.on hbw
  have kb := HBw.cell 0 (b := w.heap.size) rfl 1 rfl
  have kl := HBw.lt 0 rfl
  by_cases hlt : k < h1.2.1
  ·
   have hltz : (k : Int) < (h1.2.1 : Int) := by omega
   have hkl : Hid (k < L.length) := by rw [Hid, HN.out]; exact hlt
   obtain ⟨B, off, ea, hB, _, n, hr, hv⟩ := (SL.out.on RNode.firm HBw.below).get hlt
   change _ = some (Value.slice h1.1 _ _) at kb
   rw [ea] at kb
   clear ea
   have G : Hid (wr.rangeAt B (off + k * 9) n) := hv
   have HE : Hid (RNode (Lo A w) wr n (L.getD k default)) := hr
   have hic := info_of iszNode (RNode.firm.len hr)
   have HT : Hid ((L.take k).map oNode ++ [oNode (L.getD k default)] = (L.take (k + 1)).map oNode) := by rw [Hid, ← take_at hkl.out, List.map_append]; rfl
   have HLb : Hid ((((L.take k).map oNode).length + 1) * 624 ≤ 140737488355328) := by
    have := bytes_le HF.out hkl.out
    rw [Hid, List.length_map, List.length_take, Nat.min_eq_left (Nat.le_of_lt hkl.out)]
    exact this
   obtain ⟨i0, hi0, hz0, hzs, _⟩ := info_parts infoObj3
   have hbe : Below wr.heap.size wr (wr.alloc (.cells (cNode n).toArray 46)) := (Below.refl _ _).alloc (Nat.le_refl _) _
   have HRa := hrow.out.on RObject.firm hbe
   have HOb : RObject (fun b => Lo A w b ∧ Value.ownBlock u5 ≠ some b) (wr.alloc (.cells (cNode n).toArray 46)) (cNode n) (oNode (L.getD k default)) := RObject.firm.weak (RObject.firm.kept (oNode_rep HE.out) (Kept.below hbe)) (fun b _ hb => ⟨hb, fun e => absurd (hrow.out.ownge e) (by have := hb.2; have := HB1.out.lt 0 rfl; omega)⟩)
   have HCh := Hid.mk_ (chunk_one RObject.firm HOb)
   have HX := Hid.mk_ (one_cells wr (cNode n) 46)
   have h1c : ∀ y ∈ cNode n, y.oneCell' = true := RObject.firm.one HOb
   have HRw : Hid (Row RObject 40 (Lo A w) W1 (wr.alloc (.cells (cNode n).toArray 46)) 46 u5 ((L.take k).map oNode)) := HRa
   clear hr hv HRa hbe hbw hrow HOb
   go_wp2_with (first | (refine BigFrame.wpList_want rfl (fun _ hKK => wp_load_mid 36 _ rfl B (off + k * 9) rfl n _ G.out underlying36 rfl hic (hKK _ _ ?_))) | (refine BigFrame.wpList_want rfl (fun _ hKK => wp_build2 46 _ rfl #[(0, .int .i64 2), (2, .agg n.toArray)] (by go_simp) (cNode n).toArray (bNode_run HE.out) (hKK _ _ ?_))) | (refine wpList_buildSlice rfl 73 46 1 _ rfl (cNode n).toArray i0 _ underlying73 hi0 hz0 (by rw [hzs]; decide) (by rw [hzs]; decide) (by rw [hzs]; simp only [List.map_toArray]; exact foNode HE.out) ?_) | (refine row_append RObject.firm (A := Lo A w) (w0 := W1) (by rfl) _ _ 73 46 rfl _ 624 infoObj3 underlying73 rfl (by decide) (by decide) u5 ((L.take k).map oNode) rfl HRw.out ⟨wr.heap.size, 0, none⟩ 1 1 _ [oNode (L.getD k default)] rfl rfl HCh.out HX.out h1c HLb.out ?_; intro v6 w6 hrow6 hg6) | fail)
   rw [HT.out] at hrow6
   have hrow6' : Hid (Row RObject 40 (Lo A w) W1 w6 46 v6 ((L.take (k + 1)).map oNode)) := hrow6
   clear hrow6 hg6 HRw HCh HX G HE
   go_wp2_with fail
   go_roundw
   case rel => exact ⟨k + 1, by omega, by go_num, hrow6'⟩
   case measure => simp [intOf]; omega
  ·
   have hltz : ¬ ((k : Int) < (h1.2.1 : Int)) := by omega
   have hk' : L.take k = L := List.take_of_length_le (by rw [HN.out]; omega)
   rw [hk'] at hrow
   obtain ⟨a', cap', e1, h2'⟩ := hrow.out.sl (bytes := 624) RObject.firm (by rw [List.length_map]; exact HF.out)
   rw [List.length_map] at e1 h2'
   have hbel := Hid.mk_ (HB1.out.on hrow.out.below).below
   have HSL : Hid (SlAt RObject 40 624 (fun b => A b ∨ Fresh w b) wr a' L.length cap' (L.map oNode)) := h2'.weak RObject.firm (fun b _ hb => by rcases hb with hb | hb; exact .inl hb.1; exact .inr (Nat.le_of_lt (Nat.lt_of_lt_of_le (HB1.out.lt 0 rfl) hb)))
   subst e1
   clear hrow h2' HR0
   go_wp2_with fail
   go_ret
   exact ⟨_, _, rfl, HSL.out, hbel.out⟩
theorem rAll_Volume (ss : List Value) (A : Where) (x : StateD) (w : World) (h : RState A w ss x) (hf : x.2.2.1.length * 624 ≤ 140737488351232) : Calls prog 27 #[.agg ss.toArray, .int .i64 3] w fun e w' => ∃ a cap, e = .returned (.slice a x.2.2.1.length cap) ∧ SlAt RObject 40 624 (fun b => A b ∨ Fresh w b) w' a x.2.2.1.length cap (x.2.2.1.map oVolume) ∧ Below w.heap.size w w' := by
 obtain ⟨h0, h1, h2, h3, h4, h5, rfl, q0, q1, q2, q3, q4, q5⟩ := h.out
 have SL : Hid (SlAt RVolume 5 80 (Lo A w) w h2.1 h2.2.1 h2.2.2 x.2.2.1) := q2.weak RVolume.firm (fun b hb h => ⟨h, hb⟩)
 have HN : Hid (x.2.2.1.length = h2.2.1) := q2.1
 generalize x.2.2.1 = L at SL hf HN ⊢
 obtain ⟨W1, hW1⟩ : ∃ W, W = w.alloc (.cells [J h0, J h1, J h2, J h3, J h4, J h5].toArray 61) := ⟨_, rfl⟩
 have HB1 : Hid (Held w [(w.heap.size, [J h0, J h1, J h2, J h3, J h4, J h5])] [] W1) := by rw [Hid, hW1]; exact (Held.start w).push rfl [J h0, J h1, J h2, J h3, J h4, J h5] 61
 have HR0 : Hid (Row RObject 40 (Lo A w) W1 (W1.alloc (.cells #[] 46)) 46 (.slice (some ⟨W1.heap.size, 0, none⟩) 0 0) ((L.take 0).map oVolume)) := Row.start _ W1 W1 _ (Below.refl _ _)
 have HF : Hid (L.length * 624 ≤ 140737488351232) := hf
 have hln := SL.out.len (by decide)
 clear h q0 q1 q2 q3 q4 q5 hf
 go_enter func27, ntmps27
 go_upto_region 1 with fail
 rw [← hW1]
 clear hW1
 go_wp2_with fail
 go_loopw [5, 8] (fun s i wr => ∃ k : Nat, k ≤ h2.2.1 ∧ i = .int .i64 k ∧ Hid (Row RObject 40 (Lo A w) W1 wr 46 s ((L.take k).map oVolume))) (fun _ i _ => h2.2.1 - (intOf i).toNat)
 case atStart => exact ⟨0, Nat.zero_le _, rfl, HR0⟩
 case round =>
  obtain ⟨k, hk, rfl, hrow⟩ := hrel
  have hbw : Below W1.heap.size W1 wr := hrow.out.below
  have HBw := HB1.out.on hbw
  have kb := HBw.cell 0 (b := w.heap.size) rfl 2 rfl
  have kl := HBw.lt 0 rfl
  by_cases hlt : k < h2.2.1
  ·
   have hltz : (k : Int) < (h2.2.1 : Int) := by omega
   have hkl : Hid (k < L.length) := by rw [Hid, HN.out]; exact hlt
   obtain ⟨B, off, ea, hB, _, v, hr, hv⟩ := (SL.out.on RVolume.firm HBw.below).get hlt
   change _ = some (Value.slice h2.1 _ _) at kb
   rw [ea] at kb
   clear ea
   have G : Hid (wr.rangeAt B (off + k * 5) v) := hv
   have HE : Hid (RVolume (Lo A w) wr v (L.getD k default)) := hr
   have hic := info_of iszVolume (RVolume.firm.len hr)
   have HT : Hid ((L.take k).map oVolume ++ [oVolume (L.getD k default)] = (L.take (k + 1)).map oVolume) := by rw [Hid, ← take_at hkl.out, List.map_append]; rfl
   have HLb : Hid ((((L.take k).map oVolume).length + 1) * 624 ≤ 140737488355328) := by
    have := bytes_le HF.out hkl.out
    rw [Hid, List.length_map, List.length_take, Nat.min_eq_left (Nat.le_of_lt hkl.out)]
    exact this
   obtain ⟨i0, hi0, hz0, hzs, _⟩ := info_parts infoObj3
   have hbe : Below wr.heap.size wr (wr.alloc (.cells (cVolume v).toArray 46)) := (Below.refl _ _).alloc (Nat.le_refl _) _
   have HRa := hrow.out.on RObject.firm hbe
   have HOb : RObject (fun b => Lo A w b ∧ Value.ownBlock u5 ≠ some b) (wr.alloc (.cells (cVolume v).toArray 46)) (cVolume v) (oVolume (L.getD k default)) := RObject.firm.weak (RObject.firm.kept (oVolume_rep HE.out) (Kept.below hbe)) (fun b _ hb => ⟨hb, fun e => absurd (hrow.out.ownge e) (by have := hb.2; have := HB1.out.lt 0 rfl; omega)⟩)
   have HCh := Hid.mk_ (chunk_one RObject.firm HOb)
   have HX := Hid.mk_ (one_cells wr (cVolume v) 46)
   have h1c : ∀ y ∈ cVolume v, y.oneCell' = true := RObject.firm.one HOb
   have HRw : Hid (Row RObject 40 (Lo A w) W1 (wr.alloc (.cells (cVolume v).toArray 46)) 46 u5 ((L.take k).map oVolume)) := HRa
   clear hr hv HRa hbe hbw hrow HOb
   go_wp2_with (first | (refine BigFrame.wpList_want rfl (fun _ hKK => wp_load_mid 38 _ rfl B (off + k * 5) rfl v _ G.out underlying38 rfl hic (hKK _ _ ?_))) | (refine BigFrame.wpList_want rfl (fun _ hKK => wp_build2 46 _ rfl #[(0, .int .i64 3), (3, .agg v.toArray)] (by go_simp) (cVolume v).toArray (bVolume_run HE.out) (hKK _ _ ?_))) | (refine wpList_buildSlice rfl 73 46 1 _ rfl (cVolume v).toArray i0 _ underlying73 hi0 hz0 (by rw [hzs]; decide) (by rw [hzs]; decide) (by rw [hzs]; simp only [List.map_toArray]; exact foVolume HE.out) ?_) | (refine row_append RObject.firm (A := Lo A w) (w0 := W1) (by rfl) _ _ 73 46 rfl _ 624 infoObj3 underlying73 rfl (by decide) (by decide) u5 ((L.take k).map oVolume) rfl HRw.out ⟨wr.heap.size, 0, none⟩ 1 1 _ [oVolume (L.getD k default)] rfl rfl HCh.out HX.out h1c HLb.out ?_; intro v6 w6 hrow6 hg6) | fail)
   rw [HT.out] at hrow6
   have hrow6' : Hid (Row RObject 40 (Lo A w) W1 w6 46 v6 ((L.take (k + 1)).map oVolume)) := hrow6
   clear hrow6 hg6 HRw HCh HX G HE
   go_wp2_with fail
   go_roundw
   case rel => exact ⟨k + 1, by omega, by go_num, hrow6'⟩
   case measure => simp [intOf]; omega
  ·
   have hltz : ¬ ((k : Int) < (h2.2.1 : Int)) := by omega
   have hk' : L.take k = L := List.take_of_length_le (by rw [HN.out]; omega)
   rw [hk'] at hrow
   obtain ⟨a', cap', e1, h2'⟩ := hrow.out.sl (bytes := 624) RObject.firm (by rw [List.length_map]; exact HF.out)
   rw [List.length_map] at e1 h2'
   have hbel := Hid.mk_ (HB1.out.on hrow.out.below).below
   have HSL : Hid (SlAt RObject 40 624 (fun b => A b ∨ Fresh w b) wr a' L.length cap' (L.map oVolume)) := h2'.weak RObject.firm (fun b _ hb => by rcases hb with hb | hb; exact .inl hb.1; exact .inr (Nat.le_of_lt (Nat.lt_of_lt_of_le (HB1.out.lt 0 rfl) hb)))
   subst e1
   clear hrow h2' HR0
   go_wp2_with fail
   go_ret
   exact ⟨_, _, rfl, HSL.out, hbel.out⟩
end Go.Proofs.YtfbnnfpnjjjfcaaGreat

