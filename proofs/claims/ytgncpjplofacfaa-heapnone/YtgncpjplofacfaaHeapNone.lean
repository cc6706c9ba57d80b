/- The law HeapNone holds of the program: a heap that no call made has nothing, and takes nothing; the chapter's example comes out. For every input; no condition. -/
import Derived.Test.YtgncpjplofacfaaHNone
import Derived.Test.YtgncpjplofacfaaROpen
import Derived.Test.YtgncpjplofacfaaRows
namespace Go.Proofs.Ytgncpjplofacfaa.heapNone
open Go.ChangeShapes Go.WideShapes Go.ChangeAt Go.RowKit
set_option linter.unusedSimpArgs false

theorem stays {w w1 : World} (y : It) (hb1 : Below (w.alloc (.cells #[.string y.1, .int .i64 y.2.1, .int .i64 y.2.2] 27)).heap.size (w.alloc (.cells #[.string y.1, .int .i64 y.2.1, .int .i64 y.2.2] 27)) w1) : Hid (∀ u : World, Below (w1.alloc (.cells #[.pointer none] 52)).heap.size (w1.alloc (.cells #[.pointer none] 52)) u → NoHeap u (some ⟨w1.heap.size, 0, none⟩) ∧ u.cell? ⟨w.heap.size, 0, none⟩ = some (.string y.1) ∧ u.cell? ⟨w.heap.size, 1, none⟩ = some (.int .i64 y.2.1) ∧ u.cell? ⟨w.heap.size, 2, none⟩ = some (.int .i64 y.2.2)) := by
  intro u hu
  have hs := hb1.size
  have hsx : (w.alloc (.cells #[.string y.1, .int .i64 y.2.1, .int .i64 y.2.2] 27)).heap.size = w.heap.size + 1 := by simp
  have hn : NoHeap (w1.alloc (.cells #[.pointer none] 52)) (some ⟨w1.heap.size, 0, none⟩) := .inr ⟨_, rfl, by simp [go_sem], by simp⟩
  have hx := on2 hb1 (on2 (by go_grown) hu)
  refine ⟨hn.grow hu, ?_, ?_, ?_⟩ <;> (rw [hx.cell (by show w.heap.size < _; omega)]; simp [go_sem])
set_option maxHeartbeats 8000000 in
theorem core (y : It) (w : World) :
    Calls Try.prog 7 #[vI y] w fun e w' => e = .returned (.bool true) ∧ Below w.heap.size w w' := by
  have t1 : True := trivial
  have t2 : True := trivial
  have t3 : True := trivial
  have t4 : True := trivial
  have t5 : True := trivial
  have t6 : True := trivial
  have t7 : True := trivial
  have t8 : True := trivial
  have t9 : True := trivial
  have t10 : True := trivial
  have t11 : True := trivial
  have t12 : True := trivial
  have t13 : True := trivial
  have t14 : True := trivial
  have t15 : True := trivial
  have t16 : True := trivial
  go_enter Try.func7, Try.ntmps7
  go_wp2_with fail
  refine (works_calls _).mono ?_
  rintro e w1 ⟨rfl, hbw⟩
  have HX := stays y hbw
  have B0 : Below (w1.alloc (.cells #[.pointer none] 52)).heap.size (w1.alloc (.cells #[.pointer none] 52)) (w1.alloc (.cells #[.pointer none] 52)) := Below.refl _ _
  obtain ⟨_, x00, x01, x02⟩ := HX.out _ B0
  go_wp2_with (first
    | (go_at_call 10; have _t := t1; go_loud (refine (Push_no (.inl rfl) y).mono ?_; rintro e v1 ⟨rfl, hb1⟩; have B1 := on2 (on2 B0 (by go_grown)) hb1; obtain ⟨_, x10, x11, x12⟩ := HX.out _ B1; clear t1))
    | (go_at_call 10; have _t := t2; go_loud (refine (Push_no (HX.out _ (on2 B1 (by go_grown))).1 y).mono ?_; rintro e v2 ⟨rfl, hb2⟩; have B2 := on2 (on2 B1 (by go_grown)) hb2; obtain ⟨_, x20, x21, x22⟩ := HX.out _ B2; clear t2))
    | (go_at_call 13; have _t := t3; go_loud (refine (Pop_no (.inl rfl) ).mono ?_; rintro e v3 ⟨rfl, hb3⟩; have B3 := on2 (on2 B2 (by go_grown)) hb3; obtain ⟨_, x30, x31, x32⟩ := HX.out _ B3; have C3 : Below (w1.alloc (.cells #[.pointer none] 52)).heap.size (w1.alloc (.cells #[.pointer none] 52)) (v3.alloc (.cells #[.string ⟨#[]⟩, .int .i64 0, .int .i64 0] 27)) := on2 B3 (by go_grown); obtain ⟨_, y30, y31, y32⟩ := HX.out _ C3; clear t3))
    | (go_at_call 13; have _t := t4; go_loud (refine (Pop_no (HX.out _ (on2 B3 (by go_grown))).1 ).mono ?_; rintro e v4 ⟨rfl, hb4⟩; have B4 := on2 (on2 B3 (by go_grown)) hb4; obtain ⟨_, x40, x41, x42⟩ := HX.out _ B4; have C4 : Below (w1.alloc (.cells #[.pointer none] 52)).heap.size (w1.alloc (.cells #[.pointer none] 52)) (v4.alloc (.cells #[.string ⟨#[]⟩, .int .i64 0, .int .i64 0] 27)) := on2 B4 (by go_grown); obtain ⟨_, y40, y41, y42⟩ := HX.out _ C4; clear t4))
    | (go_at_call 14; have _t := t5; go_loud (refine (Get_no (.inl rfl) y.1).mono ?_; rintro e v5 ⟨rfl, hb5⟩; have B5 := on2 (on2 B4 (by go_grown)) hb5; obtain ⟨_, x50, x51, x52⟩ := HX.out _ B5; have C5 : Below (w1.alloc (.cells #[.pointer none] 52)).heap.size (w1.alloc (.cells #[.pointer none] 52)) (v5.alloc (.cells #[.string ⟨#[]⟩, .int .i64 0, .int .i64 0] 27)) := on2 B5 (by go_grown); obtain ⟨_, y50, y51, y52⟩ := HX.out _ C5; clear t5))
    | (go_at_call 14; have _t := t6; go_loud (refine (Get_no (HX.out _ (on2 B5 (by go_grown))).1 y.1).mono ?_; rintro e v6 ⟨rfl, hb6⟩; have B6 := on2 (on2 B5 (by go_grown)) hb6; obtain ⟨_, x60, x61, x62⟩ := HX.out _ B6; have C6 : Below (w1.alloc (.cells #[.pointer none] 52)).heap.size (w1.alloc (.cells #[.pointer none] 52)) (v6.alloc (.cells #[.string ⟨#[]⟩, .int .i64 0, .int .i64 0] 27)) := on2 B6 (by go_grown); obtain ⟨_, y60, y61, y62⟩ := HX.out _ C6; clear t6))
    | (go_at_call 15; have _t := t7; go_loud (refine (Drop_no (.inl rfl) y.1).mono ?_; rintro e v7 ⟨rfl, hb7⟩; have B7 := on2 (on2 B6 (by go_grown)) hb7; obtain ⟨_, x70, x71, x72⟩ := HX.out _ B7; have C7 : Below (w1.alloc (.cells #[.pointer none] 52)).heap.size (w1.alloc (.cells #[.pointer none] 52)) (v7.alloc (.cells #[.string ⟨#[]⟩, .int .i64 0, .int .i64 0] 27)) := on2 B7 (by go_grown); obtain ⟨_, y70, y71, y72⟩ := HX.out _ C7; clear t7))
    | (go_at_call 15; have _t := t8; go_loud (refine (Drop_no (HX.out _ (on2 B7 (by go_grown))).1 y.1).mono ?_; rintro e v8 ⟨rfl, hb8⟩; have B8 := on2 (on2 B7 (by go_grown)) hb8; obtain ⟨_, x80, x81, x82⟩ := HX.out _ B8; have C8 : Below (w1.alloc (.cells #[.pointer none] 52)).heap.size (w1.alloc (.cells #[.pointer none] 52)) (v8.alloc (.cells #[.string ⟨#[]⟩, .int .i64 0, .int .i64 0] 27)) := on2 B8 (by go_grown); obtain ⟨_, y80, y81, y82⟩ := HX.out _ C8; clear t8))
    | (go_at_call 12; have _t := t9; go_loud (refine (Peek_no (.inl rfl) ).mono ?_; rintro e v9 ⟨rfl, hb9⟩; have B9 := on2 (on2 B8 (by go_grown)) hb9; obtain ⟨_, x90, x91, x92⟩ := HX.out _ B9; have C9 : Below (w1.alloc (.cells #[.pointer none] 52)).heap.size (w1.alloc (.cells #[.pointer none] 52)) (v9.alloc (.cells #[.string ⟨#[]⟩, .int .i64 0, .int .i64 0] 27)) := on2 B9 (by go_grown); obtain ⟨_, y90, y91, y92⟩ := HX.out _ C9; clear t9))
    | (go_at_call 12; have _t := t10; go_loud (refine (Peek_no (HX.out _ (on2 B9 (by go_grown))).1 ).mono ?_; rintro e v10 ⟨rfl, hb10⟩; have B10 := on2 (on2 B9 (by go_grown)) hb10; obtain ⟨_, x100, x101, x102⟩ := HX.out _ B10; have C10 : Below (w1.alloc (.cells #[.pointer none] 52)).heap.size (w1.alloc (.cells #[.pointer none] 52)) (v10.alloc (.cells #[.string ⟨#[]⟩, .int .i64 0, .int .i64 0] 27)) := on2 B10 (by go_grown); obtain ⟨_, y100, y101, y102⟩ := HX.out _ C10; clear t10))
    | (go_at_call 20; have _t := t11; refine (Len_no (.inl rfl)).mono ?_; rintro e v11 ⟨rfl, rfl⟩; clear t11)
    | (go_at_call 20; have _t := t12; refine (Len_no (HX.out _ (on2 B10 (by go_grown))).1).mono ?_; rintro e v12 ⟨rfl, rfl⟩; clear t12)
    | (go_at_call 19; have _t := t13; refine (All_no (.inl rfl)).mono ?_; rintro e v13 ⟨rfl, rfl⟩; clear t13)
    | (go_at_call 19; have _t := t14; refine (All_no (HX.out _ (on2 B10 (by go_grown))).1).mono ?_; rintro e v14 ⟨rfl, rfl⟩; clear t14)
    | (go_at_call 18; have _t := t15; refine (Clone_no (.inl rfl)).mono ?_; rintro e v15 ⟨rfl, rfl⟩; clear t15)
    | (go_at_call 18; have _t := t16; refine (Clone_no (HX.out _ (on2 B10 (by go_grown))).1).mono ?_; rintro e v16 ⟨rfl, rfl⟩; clear t16))
  go_ret
  exact ⟨rfl, on2 (on2 (on2 (by go_grown) hbw) (by go_grown)) C10⟩
theorem walk (s0 : ByteArray) (n0 m0 : Int) (w : World) (_h0 : s0.size ≤ 140737488355328) :
    Calls Try.prog 7 #[.agg #[.string s0, .int .i64 n0, .int .i64 m0]] w fun e w' => e = .returned (.bool true) ∧ Below w.heap.size w w' := core (s0, n0, m0) w

theorem reads (os : Os) {H : Type} (enc : TypeId × Value → H) : ∃ places, DataW.whole enc Try.prog ((World.holding Try.prog os ⟨#[], #[], []⟩).forCall (fun _ _ => 0) ⟨#[], #[.agg #[.string ByteArray.empty, .int .i64 0, .int .i64 0]], []⟩).memory Try.f7.params.toList Rows.heapNoneSpec.vars false #[(.agg #[.string ByteArray.empty, .int .i64 0, .int .i64 0] : Value)].toList 8 = some ([.agg [.lit (.string []), .lit (.int .i64 0), .lit (.int .i64 0)]], [], places) :=
  ⟨[], by kernel_rfl⟩

theorem params_ok : ∀ t ∈ Try.f7.params.toList, Try.prog.readableRec t = true ∧ t < Try.prog.types.size := by
  rw [Try.params7]
  have hall : ([27].all fun u => Try.prog.readableRec u && decide (u < Try.prog.types.size)) = true := by kernel_rfl
  intro t ht
  simpa using List.all_eq_true.1 hall t (by simpa using ht)

set_option maxRecDepth 100000 in
theorem contract (H : Type) (enc : TypeId × Value → H) (W : World) (base : Nat) (args : Array Value) (ds gs : List (DataW H)) (before : List MemPlace)
    (hval : ∀ (j : Nat) t v, Try.f7.params[j]? = some t → args[j]? = some v → Value.okWide Try.prog W .any base t v)
    (hW : DataW.Whole enc Try.prog Try.f7.params.toList Rows.heapNoneSpec.vars false W args.toList ds gs before) (hsz : (DataW.weightsEach Try.prog (Try.f7.params.toList ++ Rows.heapNoneSpec.plain.varTypes Try.prog) (ds ++ gs)).all (· ≤ reachBytes) = true) :
    Calls Try.prog 7 args W fun e W' => ∃ v, e = .returned v ∧ Rows.heapNoneSpec.post enc Try.prog Try.f7 false true false false W args v W' := by
  have hW' := hW
  obtain ⟨p, q, hA0, hV, rfl, hfz, hnd⟩ := hW
  have hA : DataW.TrodAll enc Try.prog W 0 (fun _ => true) true Try.f7.params.toList args.toList ds p := hA0
  rw [Try.params7] at hA hval
  obtain ⟨v0, vs0, d0, ds0, p0, q0, hargs, rfl, rfl, h0, r0⟩ := trodAll_cons hA
  obtain ⟨rfl, rfl, rfl⟩ := trodAll_nil r0
  obtain rfl : args = #[v0] := by cases args; simp_all
  obtain ⟨rfl, rfl⟩ := trodVars_none hV
  have l0 := light_arg hsz (j := 0) (t := 27) (by rw [Try.params7]; rfl) rfl
  obtain ⟨u0, m0, c0, y0, y01, y02, k0, rfl, rfl, rfl, hy0, hz0, ht0⟩ := Go.Joins.open_agg3 Try.underlying27 (by kernel_rfl) (by kernel_rfl) (hval 0 27 v0 rfl rfl) h0
  obtain ⟨s0, rfl, w0⟩ := open_str hy0 (light_struct Try.underlying27 l0 (j := 0) rfl rfl)
  obtain ⟨n0, en0, _, _⟩ := DataW.trod_int Try.underlying3 hz0
  obtain rfl : m0 = .int .i64 n0 := by simpa using en0
  obtain ⟨o0, eo0, _, _⟩ := DataW.trod_int Try.underlying3 ht0
  obtain rfl : c0 = .int .i64 o0 := by simpa using eo0
  refine (walk s0 n0 o0 W w0).mono fun e W' ⟨he, hb⟩ => ?_
  subst he
  exact ⟨_, rfl, law_post laidOut params_ok rfl (tb := 4) (by kernel_rfl) Try.underlying4 rfl hW' hb⟩

set_option maxRecDepth 100000 in
theorem lifted (os : Os) (started : os.Started) (H : Type) (enc : TypeId × Value → H) (F : Stop.Interp) :
    ReturnsInHanded {} Try.checked os 7 .any ((OpenSpec.ofChange Rows.heapNoneSpec).preRow enc Try.prog Try.f7 Rows.heapNoneRow.domain false Rows.heapNoneRow.laid) (((OpenSpec.ofChange Rows.heapNoneSpec).at F).post enc Try.prog Try.f7 false true false false) := by
  obtain ⟨places, hx⟩ := reads os enc
  refine returnsInHanded_of_row (C := Try.checked) (s := (OpenSpec.ofChange Rows.heapNoneSpec)) own started (by kernel_rfl) Try.func7
    (witness_row_at (enc := enc) (C := Try.checked) false (World.holding Try.prog os ⟨#[], #[], []⟩) #[.agg #[.string ByteArray.empty, .int .i64 0, .int .i64 0]] rfl (by kernel_rfl) (by kernel_rfl) (by kernel_rfl)
      (OpenSpec.preRow_of_cond 8 hx (by kernel_rfl) (fun k hk => by cases hk) (by kernel_rfl) ⟨[], rfl, List.Pairwise.nil, fun _ _ h => by cases h⟩)) ?_
  intro W base args ds gs before hval hW _ _ hsz _ _ _
  exact contract H enc W base args ds gs before hval hW hsz

theorem said : Rows.HeapNoneSaid :=
  OpenClaim.holds_of_cond 7 Try.f7 rfl rfl rfl rfl rfl rfl rfl ⟨rfl, rfl, rfl, rfl, rfl⟩ rfl rfl rfl rfl rfl (by kernel_rfl) Try.func7 (by kernel_rfl)
    (of_decide_eq_true (by kernel_rfl)) (by unfold Func.isWrapper; first | (rw [if_pos (by decide +kernel)]; kernel_rfl) | (rw [if_neg (by decide +kernel)]; exact ⟨rfl, rfl⟩))
    (fun os started H enc _ F => by rw [OpenClaim.pre_eq_preRow]; exact lifted os started H enc F)
end Go.Proofs.Ytgncpjplofacfaa.heapNone
namespace Go.Proofs.Ytgncpjplofacfaa
theorem heapNone_holds : Rows.HeapNoneSaid := heapNone.said
end Go.Proofs.Ytgncpjplofacfaa
