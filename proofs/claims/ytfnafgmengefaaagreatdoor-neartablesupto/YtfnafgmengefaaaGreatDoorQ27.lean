/- Variables of a call's own that lie in memory, all of them at once: what each holds, that it may be written, and that nothing that was there has turned. Plain facts on worlds. No condition. placed copies a placed pod. Condition: the argument lies as is said of it. 'many' gives copies of its own. Condition: the slice lies as is said of it. Arguments as they come in: texts and slices of structs, read off memory. No condition beyond the row's own reach. -/
import Derived.Test.YtfnafgmengefaaaGreatDoorQ12
import Derived.Test.YtfnafgmengefaaaGreatDoorQ11
import Derived.Test.YtfnafgmengefaaaGreatDoorQ26
import Derived.Test.YtfnafgmengefaaaGreatDoorQ09
import Derived.Test.YtfnafgmengefaaaGreatDoorQ01
import Derived.Deep.Slices
import Derived.Deep.Strs
import Derived.SizedLaws
namespace Go.Proofs.YtfnafgmengefaaaGreatDoor
open Go.RowKit
set_option linter.unusedSimpArgs false

/-- The variables L (block, cells) of a call that began in w; the blocks M (block, number of cells) may be written. -/
def Held (w : World) (L : List (Nat × List Value)) (M : List (Nat × Nat)) (u : World) : Prop :=
  Below w.heap.size w u ∧ (∀ x ∈ L, w.heap.size ≤ x.1 ∧ x.1 < u.heap.size ∧ u.rangeAt x.1 0 x.2 ∧ u.there x.1 0 x.2.length) ∧ (∀ y ∈ M, w.heap.size ≤ y.1 ∧ y.1 < u.heap.size ∧ u.there y.1 0 y.2)
section
variable {w u : World} {L : List (Nat × List Value)} {M : List (Nat × Nat)}
theorem Held.start (w : World) : Held w [] [] w := ⟨Below.refl _ _, (fun _ h => by cases h), (fun _ h => by cases h)⟩
theorem Held.below (h : Held w L M u) : Below w.heap.size w u := h.1
theorem Held.on {u' : World} (h : Held w L M u) (hb : Below u.heap.size u u') : Held w L M u' :=
  ⟨on2 h.1 hb, fun x hx => by
    obtain ⟨h1, h2, h3, h4⟩ := h.2.1 x hx
    exact ⟨h1, Nat.lt_of_lt_of_le h2 hb.size, range_on h3 hb h2, there_on h4 hb h2⟩, fun y hy => by
    obtain ⟨h1, h2, h3⟩ := h.2.2 y hy
    exact ⟨h1, Nat.lt_of_lt_of_le h2 hb.size, there_on h3 hb h2⟩⟩
theorem Held.drew (h : Held w L M u) : Held w L M u.drew := h.on (Below.refl _ u).drew
theorem Held.push (h : Held w L M u) {b : Nat} (hb : u.heap.size = b) (c : List Value) (T : TypeId) : Held w ((b, c) :: L) M (u.alloc (.cells c.toArray T)) := by
  subst hb
  have hB : Below u.heap.size u (u.alloc (.cells c.toArray T)) := (Below.refl _ u).alloc (Nat.le_refl _) _
  refine ⟨on2 h.1 hB, fun x hx => ?_, (h.on hB).2.2⟩
  rcases List.mem_cons.1 hx with rfl | hx
  · exact ⟨h.1.size, by simp, range_all rfl, there_new rfl (by simp)⟩
  · exact (h.on hB).2.1 x hx
theorem Held.room (h : Held w L M u) {b : Nat} (hb : u.heap.size = b) (c : Array Value) (T : TypeId) : Held w L ((b, c.size) :: M) (u.alloc (.cells c T)) := by
  subst hb
  have hB : Below u.heap.size u (u.alloc (.cells c T)) := (Below.refl _ u).alloc (Nat.le_refl _) _
  refine ⟨on2 h.1 hB, (h.on hB).2.1, fun y hy => ?_⟩
  rcases List.mem_cons.1 hy with rfl | hy
  · exact ⟨h.1.size, by simp, there_new rfl rfl⟩
  · exact (h.on hB).2.2 y hy
theorem Held.get (h : Held w L M u) (i : Nat) {b : Nat} {c : List Value} (hi : L[i]? = some (b, c)) : u.rangeAt b 0 c := (h.2.1 _ (List.mem_of_getElem? hi)).2.2.1
theorem Held.cell (h : Held w L M u) (i : Nat) {b : Nat} {c : List Value} (hi : L[i]? = some (b, c)) (j : Nat) {v : Value} (hj : c[j]? = some v) : u.cell? ⟨b, j, none⟩ = some v := by
  have := h.get i hi j v hj
  simpa using this
theorem Held.frozen (h : Held w L M u) (i : Nat) {b : Nat} {c : List Value} (hi : L[i]? = some (b, c)) (j : Nat) (hj : j < c.length) : u.frozen? ⟨b, j, none⟩ = false := by
  have := ((h.2.1 _ (List.mem_of_getElem? hi)).2.2.2 j hj).2
  simpa using this
theorem Held.lt (h : Held w L M u) (i : Nat) {b : Nat} {c : List Value} (hi : L[i]? = some (b, c)) : b < u.heap.size := (h.2.1 _ (List.mem_of_getElem? hi)).2.1
theorem Held.ge (h : Held w L M u) (i : Nat) {b : Nat} {c : List Value} (hi : L[i]? = some (b, c)) : w.heap.size ≤ b := (h.2.1 _ (List.mem_of_getElem? hi)).1
theorem Held.there (h : Held w L M u) (i : Nat) {b n : Nat} (hi : M[i]? = some (b, n)) : u.there b 0 n := (h.2.2 _ (List.mem_of_getElem? hi)).2.2
theorem Held.ltM (h : Held w L M u) (i : Nat) {b n : Nat} (hi : M[i]? = some (b, n)) : b < u.heap.size := (h.2.2 _ (List.mem_of_getElem? hi)).2.1
/-- Fewer variables are looked at. -/
theorem Held.less {L' : List (Nat × List Value)} {M' : List (Nat × Nat)} (h : Held w L M u) (hL : ∀ x ∈ L', x ∈ L) (hM : ∀ y ∈ M', y ∈ M) : Held w L' M' u := ⟨h.1, fun x hx => h.2.1 x (hL x hx), fun y hy => h.2.2 y (hM y hy)⟩
/-- What a variable holds is let go: it may still be written. -/
theorem Held.free {b : Nat} {c : List Value} (h : Held w ((b, c) :: L) M u) : Held w L ((b, c.length) :: M) u :=
  ⟨h.1, fun x hx => h.2.1 x (by simp [hx]), fun y hy => by
    rcases List.mem_cons.1 hy with rfl | hy
    · obtain ⟨h1, h2, _, h4⟩ := h.2.1 (b, c) (by simp)
      exact ⟨h1, h2, h4⟩
    · exact h.2.2 y hy⟩
/-- One that may be written is written. -/
theorem Held.store {b n : Nat} {c : List Value} (h : Held w L ((b, n) :: M) u) (hl : c.length = n) (hL : ∀ x ∈ L, x.1 ≠ b) : Held w ((b, c) :: L) M (u.setCells b 0 c) := by
  obtain ⟨h1, h2, h4⟩ := h.2.2 (b, n) (by simp)
  subst hl
  refine ⟨below_setCells h.1 h1, fun x hx => ?_, fun y hy => ?_⟩
  · rcases List.mem_cons.1 hx with rfl | hx
    · exact ⟨h1, by rw [size_setCells]; exact h2, World.rangeAt_setCells_same u b 0 c h4, World.there_setCells h4 b 0 c⟩
    · obtain ⟨g1, g2, g3, g4⟩ := h.2.1 x hx
      exact ⟨g1, by rw [size_setCells]; exact g2, World.rangeAt_setCells_apart g3 b 0 c (.inl (hL x hx)), World.there_setCells g4 b 0 c⟩
  · obtain ⟨g1, g2, g3⟩ := h.2.2 y (by simp [hy])
    exact ⟨g1, by rw [size_setCells]; exact g2, World.there_setCells g3 b 0 c⟩
/-- The same, where it stays among those that may be written. -/
theorem Held.wrote {b n : Nat} {c : List Value} (h : Held w L M u) (i : Nat) (hi : M[i]? = some (b, n)) (hL : ∀ x ∈ L, x.1 ≠ b) : Held w L M (u.setCells b 0 c) := by
  obtain ⟨h1, h2, h4⟩ := h.2.2 (b, n) (List.mem_of_getElem? hi)
  refine ⟨below_setCells h.1 h1, fun x hx => ?_, fun y hy => ?_⟩
  · obtain ⟨g1, g2, g3, g4⟩ := h.2.1 x hx
    exact ⟨g1, by rw [size_setCells]; exact g2, World.rangeAt_setCells_apart g3 b 0 c (.inl (hL x hx)), World.there_setCells g4 b 0 c⟩
  · obtain ⟨g1, g2, g3⟩ := h.2.2 y hy
    exact ⟨g1, by rw [size_setCells]; exact g2, World.there_setCells g3 b 0 c⟩
end
/-- A look-up whose answer is known. -/
theorem meth_step {α : Type} {P : Program} {o : Oper} {a : Act} {K : Act → World → Prop} {Q : Exit → Act → World → Prop} {r : Result α} {u' : World} {x : α} {f : α → World → Result Next} (h : r = .ok x u') (k : Oper.upon P o a K Q ((Result.ok x u').andThen f)) : Oper.upon P o a K Q (r.andThen f) := by
  rw [h]; exact k
/-- A world under another name. -/
theorem at_world {K : Act → World → Prop} {a : Act} {u W : World} (h : W = u) (k : K a W) : K a u := h ▸ k
theorem want_yes {c : Prop} [Decidable c] {A B : Prop} (h : c) (k : A) : if c then A else B := by rw [if_pos h]; exact k
theorem want_no {c : Prop} [Decidable c] {A B : Prop} (h : ¬ c) (k : B) : if c then A else B := by rw [if_neg h]; exact k
/-- A call whose function is known. -/
theorem call_enter {P : Program} {o : Oper} {a : Act} {u : World} {K : Act → World → Prop} {Q : Exit → Act → World → Prop} {f : Nat} {args : Array Value} (hr : (execOp a.eval o).run P u = .ok (.enter f args) u) {post : Ending → World → Prop} (hc : Calls P f args u post) (h : ∀ e u', post e u' → ∃ v, e = .returned v ∧ K (a.put o.dst v) u') : o.wp P a u K Q := by
  unfold Oper.wp
  rw [hr]
  refine Calls.mono hc fun e u' he => ?_
  obtain ⟨v, rfl, hk⟩ := h e u' he
  exact hk
end Go.Proofs.YtfnafgmengefaaaGreatDoor
namespace Go.Proofs.YtfnafgmengefaaaGreatDoor
open Go.RowKit
set_option linter.unusedSimpArgs false
set_option maxRecDepth 100000

theorem want_yes8 {c : Prop} [Decidable c] {A B : Prop} (h : c) (k : A) : if c then A else B := by rw [if_pos h]; exact k
theorem there_sub8 {w : World} {b o k n : Nat} (h : w.there b 0 n) (ho : o + k ≤ n) : w.there b o k := fun j hj => by
  have := h (o + j) (by omega)
  simpa using this
theorem Held.wrote8 {w u : World} {L : List (Nat × List Value)} {M : List (Nat × Nat)} {b n o : Nat} {c : List Value} (h : Held w L M u) (i : Nat) (hi : M[i]? = some (b, n)) (hL : ∀ x ∈ L, x.1 ≠ b) : Held w L M (u.setCells b o c) := by
  obtain ⟨h1, h2, h4⟩ := h.2.2 (b, n) (List.mem_of_getElem? hi)
  refine ⟨below_setCells h.1 h1, fun x hx => ?_, fun y hy => ?_⟩
  · obtain ⟨g1, g2, g3, g4⟩ := h.2.1 x hx
    exact ⟨g1, by rw [size_setCells]; exact g2, World.rangeAt_setCells_apart g3 b o c (.inl (hL x hx)), World.there_setCells g4 b o c⟩
  · obtain ⟨g1, g2, g3⟩ := h.2.2 y hy
    exact ⟨g1, by rw [size_setCells]; exact g2, World.there_setCells g3 b o c⟩
theorem range_mid8 {w : World} {b o : Nat} {l1 l2 l3 : List Value} (h : w.rangeAt b 0 (l1 ++ (l2 ++ l3))) (ho : l1.length = o) : w.rangeAt b o l2 := fun j v hj => by
  have hlt : j < l2.length := (List.getElem?_eq_some_iff.1 hj).1
  have := h (l1.length + j) v (by rw [List.getElem?_append_right (by omega), Nat.add_sub_cancel_left, List.getElem?_append_left hlt]; exact hj)
  rw [← ho]
  simpa using this
theorem yieldsIf_build8 {P : Program} {ops : Array Oper} {S : World → Prop} {op : Oper} {a : Act} (hw : Region.wanted op (yielded ops a.tmps) = true) (t : TypeId) (parts : Array (Nat × Operand)) (ho : op.op = .build t parts) (vals : Array (Nat × Value)) (hv : (parts.map fun (i, x) => (i, a.eval x)) = vals) (cells : Array Value) (hb : ∀ w, (Instr.build t vals).run P w = .ok (.agg cells) w) : YieldsIf P ops S op (.agg cells) a :=
  .inl ⟨hw, fun w _ => by
    unfold execOp
    simp only [ho, Sem.run_bind, hv, hb, Result.andThen_ok, Sem.run_pure]⟩
theorem wp_at8 {P : Program} {c : Code} {a : Act} {Q : Exit → Act → World → Prop} {u W : World} (h : u = W) (k : c.wp P Q a W) : c.wp P Q a u := h ▸ k
theorem built_placed {p : List Value} {A0 : Where} {w0 : World} {y0 : PodD} (hp : RPod A0 w0 p y0) (a : Option Addr) (n cap : Nat) (u : World) : (Instr.build 41 #[(0, .agg p.toArray), (1, .slice a n cap)]).run Tryz.prog u = .ok (.agg (p ++ [Value.slice a n cap]).toArray) u := by
  obtain ⟨_, _, _, _, _, _, _, _, _, rfl, _⟩ := hp.out
  exact run_build u _ _ _ (by kernel_rfl)
set_option maxHeartbeats 8000000 in
theorem placed_copy (cs : List Value) (A : Where) (x : PlacedD) (w : World) (h : Hid (RPlaced A w cs x)) : Calls Tryz.prog 15 #[.agg cs.toArray] w fun e w' => ∃ cs', e = .returned (.agg cs'.toArray) ∧ RPlaced (Fresh w) w' cs' x ∧ Below w.heap.size w w' := by
  obtain ⟨p, d, hcs, hp, ⟨a, n, cap, rfl, hl⟩⟩ := h.out
  have Hp : Hid (RPod A w p x.1) := hp
  have Hl : Hid (SlAt RLabel 2 32 A w a n cap x.2) := hl
  have hip : (Tryz.prog.info? 33).map (·.size) = some p.length := by rw [RPod.firm.len hp]; exact sizePo
  have HRO : Hid (∀ u, Held w [(w.heap.size, cs)] [(w.heap.size + 1, 17)] u → u.rangeAt w.heap.size 0 p ∧ u.cell? ⟨w.heap.size, 16, none⟩ = some (.slice a n cap)) := fun u hu => ⟨range_mid8 (l1 := []) (by simpa [hcs] using hu.get 0 rfl) rfl, hu.cell 0 rfl 16 (by rw [hcs, List.getElem?_append_right (by rw [RPod.firm.len hp]; exact Nat.le_refl _)]; simp [RPod.firm.len hp])⟩
  obtain ⟨U1, hU1⟩ : ∃ U, U = (w.alloc (.cells cs.toArray 41)).alloc (.cells #[.string ⟨#[]⟩, .int .i64 0, .slice none 0 0, .int .i64 0, .int .i64 0, .int .i64 0, .slice none 0 0, .slice none 0 0, .slice none 0 0, .slice none 0 0, .slice none 0 0, .slice none 0 0, .slice none 0 0, .slice none 0 0, .string ⟨#[]⟩, .string ⟨#[]⟩, .slice none 0 0] 41) := ⟨_, rfl⟩
  have HH1 : Hid (Held w [(w.heap.size, cs)] [(w.heap.size + 1, 17)] U1) := by rw [Hid, hU1]; exact ((Held.start w).push rfl cs _).room (by simp) _ _
  clear h hcs hp hl
  go_enter Tryz.func15, Tryz.ntmps15
  go_upto_region 1 with fail
  refine wp_at8 hU1.symm ?_
  clear hU1
  refine t0 (Held w [(w.heap.size, cs)] [(w.heap.size + 1, 17)]) (HH1.out.drew) (fun hHeld => ?_)
  refine tp 0 ?_
  try go_frame
  refine tq 1 (.agg p.toArray) (yieldsIf_load_mid (by rfl) 33 _ rfl w.heap.size 0 rfl p _ (fun u hu => (HRO.out u hu).1) Tryz.underlying33 rfl hip) ?_ (hi := rfl)
  try go_frame
  refine tp 3 ?_
  try go_frame
  refine tk (v := .slice a n cap) 4 ?_ ?_
  · intro u hu; have hc0 := (HRO.out u hu).2; clear hu; go_simp; try with_reducible rfl
  try go_frame
  refine tr 2 (fun K hK => ?_)
  refine want_yes8 (by rfl) (call_enter (f := 7) (args := #[.agg p.toArray]) (by kernel_rfl) (Pod_copy p A x.1 _ (RPod.firm.kept Hp.out (Kept.below hHeld.below))) (fun e u1 he => ?_))
  obtain ⟨p', rfl, tp, hb_u1⟩ := he
  have hge := hHeld.ltM 0 (b := w.heap.size + 1) rfl
  have Tp : Hid (RPod (fun b => Fresh w b ∧ b ≠ w.heap.size + 1) u1 p' x.1) := RPod.firm.weak tp (fun b _ hb => ⟨Nat.le_trans (by omega) (show _ ≤ b from hb), Nat.ne_of_gt (Nat.lt_of_lt_of_le hge hb)⟩)
  clear tp hge
  refine ⟨_, rfl, hK.out _ _ (hHeld.on hb_u1) (fun hHeld2 => ?_)⟩
  clear hK K hHeld; have hHeld := hHeld2; clear hHeld2
  try go_frame
  refine tr 5 (fun K hK => ?_)
  refine want_yes8 (by rfl) (call_enter (f := 8) (args := #[.slice a n cap]) (by kernel_rfl) (Labels_copy a n cap A x.2 _ (Hl.out.on RLabel.firm hHeld.below)) (fun e u2 he => ?_))
  obtain ⟨a', cap', rfl, tl, hb_u2⟩ := he
  have hge := hHeld.ltM 0 (b := w.heap.size + 1) rfl
  have Tl : Hid (SlAt RLabel 2 32 (fun b => Fresh w b ∧ b ≠ w.heap.size + 1) u2 a' n cap' x.2) := tl.weak RLabel.firm (fun b _ hb => ⟨Nat.le_trans (by omega) (show _ ≤ b from hb), Nat.ne_of_gt (Nat.lt_of_lt_of_le hge hb)⟩)
  clear tl hge
  have Tp2 : Hid (RPod (fun b => Fresh w b ∧ b ≠ w.heap.size + 1) u2 p' x.1) := RPod.firm.kept Tp.out (Kept.below hb_u2)
  clear Tp
  refine ⟨_, rfl, hK.out _ _ (hHeld.on hb_u2) (fun hHeld2 => ?_)⟩
  clear hK K hHeld; have hHeld := hHeld2; clear hHeld2
  try go_frame
  have HNR : Hid (RPlaced (fun b => Fresh w b ∧ b ≠ w.heap.size + 1) u2 (p' ++ [Value.slice a' n cap']) x) := ⟨_, _, rfl, Tp2.out, ⟨_, _, _, rfl, Tl.out⟩⟩
  have HNL : Hid ((p' ++ [Value.slice a' n cap']).length = 17) := RPlaced.firm.len HNR.out
  have hin : (Tryz.prog.info? 41).map (·.size) = some (p' ++ [Value.slice a' n cap']).length := by rw [HNL.out]; exact sizePl
  have hon : (p' ++ [Value.slice a' n cap']).toArray.all (·.oneCell') = true := all_oneCell_toArray (RPlaced.firm.one HNR.out)
  refine tq 6 (.agg (p' ++ [Value.slice a' n cap']).toArray) (yieldsIf_build8 (by rfl) 41 _ rfl #[(0, .agg p'.toArray), (1, .slice a' n cap')] (by go_simp) (p' ++ [Value.slice a' n cap']).toArray (built_placed Tp2.out a' n cap')) ?_ (hi := rfl)
  try go_frame
  first | refine tr 7 (fun K hK => ?_) | refine ts 7 (fun K hK => ?_)
  refine want_yes8 (by rfl) (wp_store_mid 41 _ _ rfl (w.heap.size + 1) 0 (p' ++ [Value.slice a' n cap']).toArray rfl rfl (there_sub8 (hHeld.there 0 rfl) (by simpa using Nat.le_of_eq HNL.out)) (by simpa using hin) hon ?_)
  obtain ⟨uz, huz⟩ : ∃ uz, uz = u2.setCells (w.heap.size + 1) 0 (p' ++ [Value.slice a' n cap']) := ⟨_, rfl⟩
  have hHZ : Held w [(w.heap.size, cs)] [(w.heap.size + 1, 17)] uz := by rw [huz]; exact hHeld.wrote8 0 rfl (by simp)
  have HEND : Hid (Held w [(w.heap.size, cs)] [(w.heap.size + 1, 17)] uz ∧ uz.rangeAt (w.heap.size + 1) 0 (p' ++ [Value.slice a' n cap']) ∧ RPlaced (Fresh w) uz (p' ++ [Value.slice a' n cap']) x) := ⟨hHZ, by rw [huz]; exact World.rangeAt_setCells_same _ _ _ _ (there_sub8 (hHeld.there 0 rfl) (Nat.le_of_eq (by simpa using HNL.out))), by rw [huz]; exact RPlaced.firm.weak (RPlaced.firm.kept HNR.out (kept_setCells (fun h => h.2 rfl))) (fun b _ h => h.1)⟩
  refine at_world huz ?_
  refine hK.out _ _ hHZ (fun hHeld2 => ?_)
  clear hK K hHeld; have hHeld := hHeld2; clear hHeld2
  try go_frame
  refine wpAnyH_done (by kernel_rfl) ?_ _
  refine NoPanic.normal ?_
  obtain ⟨hE1, hE2, hE3⟩ := HEND.out
  go_wp2_with fail
  refine bodyPost_ret (v := .agg (p' ++ [Value.slice a' n cap']).toArray) (res_cell (p := 2) (ty := 41) rfl _ _ (w.heap.size + 1) (p' ++ [Value.slice a' n cap']) _ rfl hE2 Tryz.underlying41 rfl hin) rfl ⟨_, rfl, hE3, hE1.below⟩
end Go.Proofs.YtfnafgmengefaaaGreatDoor
namespace Go.Proofs.YtfnafgmengefaaaGreatDoor
open Go.RowKit
set_option linter.unusedSimpArgs false
set_option maxRecDepth 100000

theorem infoPl : (Tryz.prog.info? 41).map (fun i => (i.zero, i.size, i.bytes)) = some (some (.agg #[.string ⟨#[]⟩, .int .i64 0, .slice none 0 0, .int .i64 0, .int .i64 0, .int .i64 0, .slice none 0 0, .slice none 0 0, .slice none 0 0, .slice none 0 0, .slice none 0 0, .slice none 0 0, .slice none 0 0, .slice none 0 0, .string ⟨#[]⟩, .string ⟨#[]⟩, .slice none 0 0]), 17, 320) := by kernel_rfl
theorem RPlaced.lit {A : Where} {w : World} {cs : List Value} {x : PlacedD} (h : RPlaced A w cs x) : ∃ v0 v1 v2 v3 v4 v5 v6 v7 v8 v9 v10 v11 v12 v13 v14 v15 v16 : Value, cs = [v0, v1, v2, v3, v4, v5, v6, v7, v8, v9, v10, v11, v12, v13, v14, v15, v16] := by
  obtain ⟨c, d, rfl, h1, ⟨a, n, cap, rfl, h3⟩⟩ := h
  obtain ⟨_, _, _, _, _, _, _, _, _, rfl, _⟩ := h1.out
  exact ⟨_, _, _, _, _, _, _, _, _, _, _, _, _, _, _, _, _, rfl⟩
set_option maxHeartbeats 4000000 in
theorem many_calls (a : Option Addr) (n cap : Nat) (A : Where) (L : List PlacedD) (w : World) (hL : Hid (SlAt RPlaced 17 320 A w a n cap L)) : Calls Tryz.prog 5 #[.slice a n cap] w fun e w' => ∃ v, e = .returned v ∧ Row RPlaced 17 (Fresh w) w w' 41 v L := by
  have hlen := hL.out.len (by decide)
  have hn : Hid (L.length = n) := hL.out.1
  have hbb : Hid (n * 320 ≤ 140737488351232) := hL.out.2.2.2.1
  have HR0 : Hid (Row RPlaced 17 (Fresh w) w (w.alloc (.cells #[] 41)) 41 (.slice (some ⟨w.heap.size, 0, none⟩) 0 0) (L.take 0)) := Row.start _ w w _ (Below.refl _ _)
  go_enter Tryz.func5, Tryz.ntmps5
  go_wp2_with fail
  go_loopw [3, 4] (fun s i wr => ∃ k : Nat, k ≤ n ∧ i = .int .i64 k ∧ Hid (Row RPlaced 17 (Fresh w) w wr 41 s (L.take k))) (fun _ i _ => n - (intOf i).toNat)
  case atStart => exact ⟨0, Nat.zero_le _, rfl, HR0⟩
  case round =>
    obtain ⟨k, hk, rfl, hrow⟩ := hrel
    by_cases hlt : k < n
    · have hltz : (k : Int) < (n : Int) := by omega
      have hkl : Hid (k < L.length) := by rw [Hid, hn.out]; exact hlt
      have hbw : Below w.heap.size w wr := hrow.out.below
      obtain ⟨B, off, rfl, hB, _, cs, hr, hv⟩ := (hL.out.on RPlaced.firm hbw).get hlt
      have HV : Hid (wr.rangeAt B (off + k * 17) cs) := hv
      have hi : (Tryz.prog.info? 41).map (·.size) = some cs.length := by rw [RPlaced.firm.len hr]; exact sizePl
      have HT : Hid (L.take k ++ [L.getD k default] = L.take (k + 1)) := take_at hkl.out
      have HC := placed_copy cs A (L.getD k default) wr hr
      have HLb : Hid (((L.take k).length + [L.getD k default].length) * 320 ≤ 140737488355328) := by
        have := bytes_le hbb.out hlt
        rw [Hid, List.length_take, hn.out, List.length_singleton, Nat.min_eq_left (by omega)]
        exact this
      clear hr hv
      generalize L.getD k default = x at HT HC HLb
      go_wp2_with (first | (refine wpList_load_mid rfl 41 _ rfl B (off + k * 17) rfl cs _ HV.out Tryz.underlying41 rfl hi ?_) | fail)
      refine HC.mono ?_
      rintro e w2 ⟨cs2, rfl, hr2, hb2⟩
      clear HC
      obtain ⟨v0, v1, v2, v3, v4, v5, v6, v7, v8, v9, v10, v11, v12, v13, v14, v15, v16, rfl⟩ := RPlaced.lit hr2
      have hb3 : Below wr.heap.size wr (w2.alloc (.cells #[v0, v1, v2, v3, v4, v5, v6, v7, v8, v9, v10, v11, v12, v13, v14, v15, v16] 41)) := hb2.alloc hb2.size _
      have HR3 : Hid (Row RPlaced 17 (Fresh w) w (w2.alloc (.cells #[v0, v1, v2, v3, v4, v5, v6, v7, v8, v9, v10, v11, v12, v13, v14, v15, v16] 41)) 41 u3 (L.take k)) := hrow.out.on RPlaced.firm hb3
      have HE : RPlaced (fun b => Fresh w b ∧ Value.ownBlock u3 ≠ some b) (w2.alloc (.cells #[v0, v1, v2, v3, v4, v5, v6, v7, v8, v9, v10, v11, v12, v13, v14, v15, v16] 41)) [v0, v1, v2, v3, v4, v5, v6, v7, v8, v9, v10, v11, v12, v13, v14, v15, v16] x := RPlaced.firm.weak (RPlaced.firm.kept hr2 (Kept.alloc _ _ _)) (fun b _ hb => hrow.out.apart (u' := wr) (Nat.le_refl _) b hb)
      have H1 : Hid (∀ y ∈ [v0, v1, v2, v3, v4, v5, v6, v7, v8, v9, v10, v11, v12, v13, v14, v15, v16], y.oneCell' = true) := RPlaced.firm.one HE
      have HCh : Hid (Chunks RPlaced 17 (fun b => Fresh w b ∧ Value.ownBlock u3 ≠ some b) (w2.alloc (.cells #[v0, v1, v2, v3, v4, v5, v6, v7, v8, v9, v10, v11, v12, v13, v14, v15, v16] 41)) [v0, v1, v2, v3, v4, v5, v6, v7, v8, v9, v10, v11, v12, v13, v14, v15, v16] [x]) := chunk_one RPlaced.firm HE
      have HX : Hid (∀ j y, [v0, v1, v2, v3, v4, v5, v6, v7, v8, v9, v10, v11, v12, v13, v14, v15, v16][j]? = some y → (w2.alloc (.cells #[v0, v1, v2, v3, v4, v5, v6, v7, v8, v9, v10, v11, v12, v13, v14, v15, v16] 41)).cell? ((⟨w2.heap.size, 0, none⟩ : Addr).add j) = some y) := one_cells w2 _ 41
      clear HE hb3 hr2 hrow HV
      go_wp2_with (at_builtin; go_must (refine row_append RPlaced.firm (A := Fresh w) (w0 := w) rfl _ _ 34 41 rfl _ 320 infoPl Tryz.underlying34 rfl (by decide) (by decide) u3 (L.take k) rfl HR3.out ⟨w2.heap.size, 0, none⟩ 1 1 _ [x] rfl rfl HCh.out HX.out H1.out HLb.out ?_); intro v4 w4 hrow4 hg4)
      rw [HT.out] at hrow4
      go_roundw
      case rel => exact ⟨k + 1, by omega, by go_num, hrow4⟩
      case measure => simp [intOf]; omega
    · have hk' : L.take k = L := List.take_of_length_le (by rw [hn.out]; omega)
      rw [hk'] at hrow
      have h9 : Hid (Row RPlaced 17 (Fresh w) w wr 41 u3 L) := hrow
      clear hrow
      go_wp2_with fail
      go_ret
      exact ⟨_, rfl, h9.out⟩
end Go.Proofs.YtfnafgmengefaaaGreatDoor
namespace Go.Proofs.YtfnafgmengefaaaGreatDoor
open Go.ChangeShapes Go.WideShapes Go.ChangeAt Go.RowKit

/-- What a datum weighs is within reach. -/
def Light {H : Type} (d : DataW H) (t : TypeId) : Prop := ∀ n ∈ d.weights Tryz.prog t, n ≤ 140737488351232
theorem light_all {H : Type} {e : TypeId} : ∀ {ds : List (DataW H)} {d : DataW H}, d ∈ ds → (∀ n ∈ DataW.weightsAll Tryz.prog e ds, n ≤ 140737488351232) → Light d e
  | [], _, h, _ => by simp at h
  | x :: ds, d, h, hw => by
    rcases List.mem_cons.1 h with rfl | h
    · intro n hn; exact hw n (by simp [DataW.weightsAll, hn])
    · exact light_all h (fun n hn => hw n (by simp [DataW.weightsAll, hn]))
theorem light_slice {H : Type} {t e : TypeId} {elems spare : List (DataW H)} (hu : Tryz.prog.underlying t = some (.slice e)) (h : Light (.slice elems spare) t) : elems.length * Tryz.prog.bytesOf e ≤ 140737488351232 ∧ ∀ d ∈ elems, Light d e := by
  unfold Light at h
  simp only [DataW.weights, hu, List.mem_cons, List.mem_append] at h
  refine ⟨?_, fun d hd => light_all hd (fun n hn => h n (.inr (.inl hn)))⟩
  have := h _ (.inl rfl)
  rw [Nat.add_mul] at this
  omega
theorem light_struct {H : Type} {t : TypeId} {fs : Array Field} {parts : List (DataW H)} (hu : Tryz.prog.underlying t = some (.struct fs)) (h : Light (.agg parts) t) {j : Nat} {tj : TypeId} {d : DataW H} (ht : (fs.toList.map (·.type))[j]? = some tj) (hd : parts[j]? = some d) : Light d tj := by
  intro n hn
  refine h n ?_
  simp only [DataW.weights, hu]
  exact DataW.weights_mem_each ht hd n hn
theorem light_arg {H : Type} {ts : List TypeId} {ds : List (DataW H)} (h : (DataW.weightsEach Tryz.prog ts ds).all (· ≤ reachBytes) = true) {j : Nat} {t : TypeId} {d : DataW H} (ht : ts[j]? = some t) (hd : ds[j]? = some d) : Light d t := by
  intro n hn
  have := List.all_eq_true.1 h _ (DataW.weights_mem_each ht hd n hn)
  have hre : reachBytes = 140737488351232 := by decide
  rw [hre] at this
  simpa using this

section
variable {H : Type} {enc : TypeId × Value → H} {W : World} {base n : Nat} {sp : Nat → Bool} {held : Bool}

theorem open_str {v : Value} {x : DataW H × List MemPlace} (h : DataW.trod enc Tryz.prog W base sp held n 9 [v] = some x) (hl : Light x.1 9) : ∃ s : ByteArray, v = .string s ∧ s.size ≤ 140737488355328 := by
  obtain ⟨s, hs, rfl, _⟩ := DataW.trod_string Tryz.underlying9 h
  refine ⟨s, by simpa using hs, ?_⟩
  have := hl s.data.toList.length (by simp [DataW.weights])
  simp at this
  omega

theorem addr_lt {B off : Nat} {spot : Option _} {v : Value} (h : W.cell? ⟨B, off, spot⟩ = some v) : B < W.heap.size := by
  rcases Nat.lt_or_ge B W.heap.size with h2 | h2
  · exact h2
  · simp [World.cell?, Array.getElem?_eq_none h2] at h

theorem getD_range {α : Type} [Inhabited α] (f : Nat → α) (len i : Nat) (h : i < len) : ((List.range len).map f).getD i default = f i := by
  rw [getE _ _ (by simpa using h)]; simp

theorem open_row {α : Type} [Inhabited α] {en : α → List Value} {k bytes : Nat} {ok : α → Prop} {t e : TypeId} (hu : Tryz.prog.underlying t = some (.slice e)) (ck : Tryz.prog.cellsOf e = k) (bk : Tryz.prog.bytesOf e = bytes) (hk : ∀ x, (en x).length = k) (hk0 : 0 < k) (hb1 : 1 ≤ bytes)
    (hE : ∀ {m : Nat} {cs : List Value} {x : DataW H × List MemPlace}, DataW.trod enc Tryz.prog W base sp held m e cs = some x → Light x.1 e → ∃ y : α, cs = en y ∧ ok y)
    {v : Value} {x : DataW H × List MemPlace} (h : DataW.trod enc Tryz.prog W base sp held n t [v] = some x) (hl : Light x.1 t) :
    ∃ (a : Option Addr) (L : List α) (cap : Nat), v = .slice a L.length cap ∧ RowAt en k ok W a L ∧ L.length * bytes ≤ 140737488351232 ∧ (a = none → cap = 0) ∧ L.length ≤ cap := by
  rcases Go.Deep.open_slice hu h with ⟨hv, _⟩ | ⟨a, len, cap, m, nn, D, Pl, hv, _, hlc, _, hm, rfl, hel⟩
  · exact ⟨none, [], 0, by simpa using hv, RowAt.nil _ _, by simp, fun _ => rfl, by simp⟩
  · obtain rfl : v = .slice (some a) len cap := by simpa using hv
    obtain ⟨w1, w2⟩ := light_slice hu hl
    simp only [List.length_map, List.length_range, bk] at w1
    have hlb : len * 1 ≤ len * bytes := Nat.mul_le_mul_left _ hb1
    have hml : len ≤ m := by rw [hm]; split <;> omega
    rw [ck] at hel
    have each : ∀ i, i < len → ∃ y : α, (∀ j u, (en y)[j]? = some u → W.cell? ((a.add (i * k)).add j) = some u) ∧ ok y := fun i hi => by
      obtain ⟨cs', h1, h2⟩ := hel i (by omega)
      obtain ⟨y, rfl, ho⟩ := hE h2 (w2 _ (List.mem_map.2 ⟨i, List.mem_range.2 hi, rfl⟩))
      obtain ⟨_, _, hcell⟩ := World.cells?_some h1
      refine ⟨y, fun j u hj => ?_, ho⟩
      have hjk : j < k := by
        have := (List.getElem?_eq_some_iff.1 hj).1
        rwa [hk] at this
      rw [hcell j hjk, hj]
    obtain ⟨f, hf⟩ := Go.Deep.choose_lt each
    refine ⟨some a, (List.range len).map f, cap, by simp, ⟨by simp; omega, ?_, fun hn => ?_⟩, by simpa using w1, (fun h => by cases h), by simpa using hlc⟩
    · intro s hs
      obtain ⟨i, hi, rfl⟩ := List.mem_map.1 hs
      exact (hf i (List.mem_range.1 hi)).2
    · have hpos : 0 < len := by
        rcases Nat.eq_zero_or_pos len with h0 | h0
        · subst h0; exact absurd rfl hn
        · exact h0
      obtain ⟨B, off, spot⟩ := a
      have hex : ∃ u, (en (f 0))[0]? = some u := by
        cases e : en (f 0) with
        | nil => have := hk (f 0); rw [e] at this; simp at this; omega
        | cons u r => exact ⟨u, rfl⟩
      obtain ⟨u0, hu0⟩ := hex
      have hc0 := (hf 0 hpos).1 0 u0 hu0
      have hsp : spot = none := by
        have := World.cell?_spot hc0
        simpa [Addr.add] using this
      subst hsp
      rw [add_lit, add_lit] at hc0
      refine ⟨B, off, rfl, addr_lt hc0, fun i hi j u hj => ?_⟩
      have hi' : i < len := by simpa using hi
      rw [getD_range f len i hi'] at hj
      have := (hf i hi').1 j u hj
      rwa [add_lit, add_lit] at this
theorem trod_struct4 {t : TypeId} {f0 f1 f2 f3 : Field} {fuel : Nat} {cs : List Value} {x : DataW H × List MemPlace} (ht : Tryz.prog.underlying t = some (.struct #[f0, f1, f2, f3])) (h : DataW.trod enc Tryz.prog W base sp held fuel t cs = some x) :
    ∃ y0 y1 y2 y3 n, x = (.agg [y0.1, y1.1, y2.1, y3.1], y0.2 ++ (y1.2 ++ (y2.2 ++ y3.2))) ∧ cs.length = Tryz.prog.cellsOf t ∧ DataW.trod enc Tryz.prog W base sp held n f0.type ((cs.drop f0.offset).take (Tryz.prog.cellsOf f0.type)) = some y0 ∧
      DataW.trod enc Tryz.prog W base sp held n f1.type ((cs.drop f1.offset).take (Tryz.prog.cellsOf f1.type)) = some y1 ∧ DataW.trod enc Tryz.prog W base sp held n f2.type ((cs.drop f2.offset).take (Tryz.prog.cellsOf f2.type)) = some y2 ∧ DataW.trod enc Tryz.prog W base sp held n f3.type ((cs.drop f3.offset).take (Tryz.prog.cellsOf f3.type)) = some y3 := by
  obtain ⟨xs, n, _, rfl, hl, hlen, hf⟩ := DataW.trod_struct ht h
  match xs, hlen with
  | [y0, y1, y2, y3], _ => exact ⟨y0, y1, y2, y3, n, by simp, hl, by simpa using hf 0 f0 rfl, by simpa using hf 1 f1 rfl, by simpa using hf 2 f2 rfl, by simpa using hf 3 f3 rfl⟩
end
end Go.Proofs.YtfnafgmengefaaaGreatDoor
