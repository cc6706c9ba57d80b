/- The program's frame in cells; a call is noted; what was reserved is given back. Condition: the frame lies as is said of it, and the calls are not too many. What the program's frame does with a code at each point. Condition: the frame lies as is said of it. The program's rules. Condition: none. -/
import Derived.Test.YtoacbobchngooaaDoorQ07
import Derived.Test.YtoacbobchngooaaDoorQ09
import Derived.Deep.MidRow
namespace Go.Proofs.YtoacbobchngooaaDoor
open Go.RowKit Go.Maps
set_option linter.unusedSimpArgs false
set_option maxRecDepth 100000

def RPl8 : Rep (PlugD × Bool) := RPair RPlug RBool
theorem RPl8.firm : Firm RPl8 8 := Firm.pair RPlug.firm RBool.firm
theorem RPl8.out {A : Where} {w : World} {cs : List Value} {x : PlugD × Bool} (h : RPl8 A w cs x) : ∃ a n c, cs = [.string x.1.1, .int .i64 x.1.2.1, .int .i64 x.1.2.2.1, .int .i64 x.1.2.2.2.1, .int .i64 x.1.2.2.2.2.1, .int .i64 (plW x.1), .slice a n c, .bool x.2] ∧ x.1.1.size ≤ 140737488355328 ∧ SlAt RInt 1 8 A w a n c (plS x.1) := by
  obtain ⟨c1, d1, rfl, h1, h2⟩ := h
  obtain ⟨a, n, c, rfl, hs, hl⟩ := h1.out
  obtain rfl : d1 = _ := h2
  exact ⟨a, n, c, rfl, hs, hl⟩
theorem RPl8.mk {A : Where} {w : World} {x : PlugD} {s : Bool} {a : Option Addr} {n c : Nat} (h1 : x.1.size ≤ 140737488355328) (h2 : SlAt RInt 1 8 A w a n c (plS x)) : RPl8 A w [.string x.1, .int .i64 x.2.1, .int .i64 x.2.2.1, .int .i64 x.2.2.2.1, .int .i64 x.2.2.2.2.1, .int .i64 (plW x), .slice a n c, .bool s] (x, s) :=
  ⟨_, [.bool s], rfl, RPlug.mk h1 h2, rfl⟩
theorem RPl8.setB {A : Where} {w : World} {cs : List Value} {x : PlugD × Bool} (h : RPl8 A w cs x) (s : Bool) : RPl8 A w (cs.set 7 (.bool s)) (x.1, s) := by
  obtain ⟨a, n, c, rfl, hs, hl⟩ := h.out
  exact RPl8.mk hs hl
def RCall : Rep (Int × Int) := RPair RInt RInt
theorem RCall.firm : Firm RCall 2 := Firm.pair RInt.firm RInt.firm
theorem RCall.out {A : Where} {w : World} {cs : List Value} {x : Int × Int} (h : RCall A w cs x) : cs = [.int .i64 x.1, .int .i64 x.2] := by
  obtain ⟨c1, d1, rfl, h1, h2⟩ := h
  obtain rfl : c1 = _ := h1
  obtain rfl : d1 = _ := h2
  rfl
theorem RCall.mk (A : Where) (w : World) (i pt : Int) : RCall A w [.int .i64 i, .int .i64 pt] (i, pt) := ⟨[.int .i64 i], [.int .i64 pt], rfl, rfl, rfl⟩
theorem infoPl8 : (Tryd.prog.info? 59).map (fun i => (i.zero, i.size, i.bytes)) = some (some (.agg #[.string ⟨#[]⟩, .int .i64 0, .int .i64 0, .int .i64 0, .int .i64 0, .int .i64 0, .slice none 0 0, .bool false]), 8, 88) := by kernel_rfl
theorem infoCall : (Tryd.prog.info? 64).map (fun i => (i.zero, i.size, i.bytes)) = some (some (.agg #[.int .i64 0, .int .i64 0]), 2, 16) := by kernel_rfl
/-- A call that was noted, as its text. -/
def textC (L : List PlugD) (x : Int × Int) : ByteArray := callS (L.getD x.1.toNat default).1 x.2
/-- The program's frame: S is where the scores lie. -/
structure PfE (S : Where) (w u : World) (p : Nat) (b c : Value) (C : List (Int × Int)) (f : FrD) : Prop where
  box : BoxL u p [.bool true, b, c]
  rb : Row RPl8 8 S w u 59 b (f.1.zip f.2.1)
  rc : Row RCall 2 (fun _ => False) w u 64 c C
  lo : w.heap.size ≤ p
  sp : ∀ x, S x → x < u.heap.size ∧ x ≠ p ∧ b.ownBlock ≠ some x ∧ c.ownBlock ≠ some x
  nb : b.ownBlock ≠ some p
  nc : c.ownBlock ≠ some p
  ne : ∀ x, b.ownBlock = some x → c.ownBlock ≠ some x
  hl : f.2.1.length = f.1.length
  hv : newB f.1 = true
  hC : f.2.2 = C.map (textC f.1)
  hI : ∀ x ∈ C, 0 ≤ x.1 ∧ x.1 < (f.1.length : Int) ∧ 1 ≤ x.2 ∧ x.2 ≤ 5
theorem zip_lenF {α β : Type} {L : List α} {K : List β} (h : K.length = L.length) : (L.zip K).length = L.length := by rw [List.length_zip, h, Nat.min_self]
theorem zip_getF {α β : Type} [Inhabited α] [Inhabited β] {L : List α} {K : List β} (h : K.length = L.length) {i : Nat} (hi : i < L.length) : (L.zip K).getD i default = (L.getD i default, K.getD i default) := by
  have hk : i < K.length := by omega
  have hz : i < (L.zip K).length := by rw [zip_lenF h]; exact hi
  rw [List.getD_eq_getElem?_getD, List.getD_eq_getElem?_getD, List.getD_eq_getElem?_getD, List.getElem?_eq_getElem hz, List.getElem?_eq_getElem hi, List.getElem?_eq_getElem hk]
  simp
theorem zip_setF {α β : Type} [Inhabited α] {L : List α} {K : List β} (_h : K.length = L.length) {i : Nat} (hi : i < L.length) (y : β) : (L.zip K).set i (L.getD i default, y) = L.zip (K.set i y) := by
  apply List.ext_getElem (by simp)
  intro j h1 h2
  simp only [List.getElem_set, List.getElem_zip]
  by_cases e : i = j
  · subst e; rw [if_pos rfl, if_pos rfl, List.getD_eq_getElem?_getD, List.getElem?_eq_getElem hi]; rfl
  · rw [if_neg e, if_neg e]
section
variable {S : Where} {w u : World} {p : Nat} {b c : Value} {C : List (Int × Int)} {f : FrD}
theorem PfE.below (h : PfE S w u p b c C f) : Below w.heap.size w u := h.rb.below
theorem PfE.h64 (h : PfE S w u p b c C f) : f.1.length ≤ 64 := new64 h.hv
theorem PfE.on (h : PfE S w u p b c C f) {u' : World} (hb : Below u.heap.size u u') : PfE S w u' p b c C f :=
  ⟨h.box.on hb, h.rb.on RPl8.firm hb, h.rc.on RCall.firm hb, h.lo, fun x hx => ⟨Nat.lt_of_lt_of_le (h.sp x hx).1 hb.size, (h.sp x hx).2⟩, h.nb, h.nc, h.ne, h.hl, h.hv, h.hC, h.hI⟩
theorem PfE.cells (h : PfE S w u p b c C f) : (u.cell? ⟨p, 0, none⟩ = some (.bool true) ∧ u.cell? ⟨p, 1, none⟩ = some b ∧ u.cell? ⟨p, 2, none⟩ = some c) ∧ u.frozen? ⟨p, 2, none⟩ = false := ⟨⟨(h.box.2 0 _ rfl).1, (h.box.2 1 _ rfl).1, (h.box.2 2 _ rfl).1⟩, (h.box.2 2 _ rfl).2⟩
/-- The calls are other ones, in a world where nothing else has turned. -/
theorem PfE.newC (h : PfE S w u p b c C f) {u' : World} {v' : Value} {C' : List (Int × Int)} {N : List ByteArray} (hk : Kept (fun x => c.ownBlock ≠ some x) u u') (hr : Row RCall 2 (fun _ => False) w u' 64 v' C') (hw : v'.ownBlock = c.ownBlock ∨ ∀ x, v'.ownBlock = some x → u.heap.size ≤ x) (hN : N = C'.map (textC f.1)) (hI : ∀ x ∈ C', 0 ≤ x.1 ∧ x.1 < (f.1.length : Int) ∧ 1 ≤ x.2 ∧ x.2 ≤ 5) : PfE S w (u'.setCell ⟨p, 2, none⟩ v') p b v' C' (f.1, f.2.1, N) := by
  have hp : p < u.heap.size := h.box.1
  have bp : w.heap.size ≤ (⟨p, 2, none⟩ : Addr).block := h.lo
  have hvp : v'.ownBlock ≠ some p := fun e => by
    rcases hw with e2 | e2
    · rw [e2] at e; exact h.nc e
    · have := e2 p e; omega
  have k2 : ∀ {A : Where}, ¬ A p → Kept A u' (u'.setCell ⟨p, 2, none⟩ v') := fun {A} hn => Kept.set (p := ⟨p, 2, none⟩) hn _
  refine ⟨?_, ?_, hr.keptXG RCall.firm (hr.below.setCell (p := ⟨p, 2, none⟩) bp _) (k2 (fun e => e.elim id hvp)), h.lo, fun x hx => ?_, h.nb, hvp, fun x e => ?_, h.hl, h.hv, hN, hI⟩
  · exact (h.box.kept (A := fun x => c.ownBlock ≠ some x) hk h.nc).set 2 v' (by simp)
  · refine h.rb.keptXG RPl8.firm (hr.below.setCell (p := ⟨p, 2, none⟩) bp _) ((hk.weak (fun x e => ?_)).trans (k2 (fun e => e.elim (fun e => (h.sp p e).2.1 rfl) h.nb)))
    exact e.elim (fun q => (h.sp x q).2.2.2) (fun e4 => h.ne x e4)
  · have hx0 := h.sp x hx
    refine ⟨?_, hx0.2.1, hx0.2.2.1, fun e => ?_⟩
    · have h1 : u.heap.size ≤ u'.heap.size := hk.1
      have h2 : (u'.setCell ⟨p, 2, none⟩ v').heap.size = u'.heap.size := by simp
      rw [h2]; omega
    · rcases hw with e2 | e2
      · rw [e2] at e; exact hx0.2.2.2 e
      · have := e2 x e; omega
  · rcases hw with e2 | e2
    · rw [e2]; exact h.ne x e
    · intro e3
      have h1 := e2 x e3
      have := (h.rb.lt e).2
      omega
/-- Plugin i skips, or not. -/
theorem PfE.setB {g n' k : Nat} (h : PfE S w u p (.slice (some ⟨g, 0, none⟩) n' k) c C f) (hn : f.1.length = n') {i : Nat} (hi : i < n') (x : Bool) : PfE S w (u.setCell ⟨g, i * 8 + 7, none⟩ (.bool x)) p (.slice (some ⟨g, 0, none⟩) n' k) c C (f.1, f.2.1.set i x, f.2.2) := by
  have hg : g ≠ p := fun e => h.nb (by rw [e]; rfl)
  have lg : w.heap.size ≤ (⟨g, i * 8 + 7, none⟩ : Addr).block := (h.rb.lt (b := g) rfl).1
  have hz : (f.1.zip f.2.1).length = n' := (zip_lenF h.hl).trans hn
  have r0 := h.rb
  rw [← hz] at r0
  have r := r0.setG RPl8.firm (i := i) (j := 7) (val := .bool x) (x := (f.1.getD i default, x)) (by rw [hz]; exact hi) (by decide) (fun B cs hr => by
    rw [zip_getF h.hl (by rw [hn]; exact hi)] at hr
    exact hr.setB x)
  rw [zip_setF h.hl (by rw [hn]; exact hi), hz] at r
  refine ⟨h.box.kept (A := fun b => b = p) (Kept.set (p := ⟨g, i * 8 + 7, none⟩) hg _) rfl, r, ?_, h.lo, fun y hy => ⟨by simpa using (h.sp y hy).1, (h.sp y hy).2⟩, h.nb, h.nc, h.ne, by show (f.2.1.set i x).length = _; rw [List.length_set]; exact h.hl, h.hv, h.hC, h.hI⟩
  exact h.rc.keptXG RCall.firm (h.below.setCell (p := ⟨g, i * 8 + 7, none⟩) lg _) (Kept.set (p := ⟨g, i * 8 + 7, none⟩) (fun e => e.elim id (fun e => h.ne g rfl e)) _)
/-- Plugin i, in its cells. -/
theorem PfE.plug (h : PfE S w u p b c C f) {i : Nat} (hi : i < f.1.length) : ∃ g k sa sn sc, b = .slice (some ⟨g, 0, none⟩) f.1.length k ∧ g < u.heap.size ∧ u.rangeAt g (i * 8) [.string (f.1.getD i default).1, .int .i64 (f.1.getD i default).2.1, .int .i64 (f.1.getD i default).2.2.1, .int .i64 (f.1.getD i default).2.2.2.1, .int .i64 (f.1.getD i default).2.2.2.2.1, .int .i64 (plW (f.1.getD i default)), .slice sa sn sc, .bool (f.2.1.getD i default)] ∧ (f.1.getD i default).1.size ≤ 140737488355328 ∧ SlAt RInt 1 8 S u sa sn sc (plS (f.1.getD i default)) := by
  have hz : (f.1.zip f.2.1).length = f.1.length := zip_lenF h.hl
  obtain ⟨g, k, cs, e, hg, hr, hv⟩ := h.rb.getG RPl8.firm (i := i) (by rw [hz]; exact hi)
  rw [zip_getF h.hl hi] at hr
  obtain ⟨sa, sn, sc, rfl, h1, h2⟩ := hr.out
  rw [hz] at e
  exact ⟨g, k, sa, sn, sc, e, hg, hv, h1, h2.weak RInt.firm (fun _ _ hx => hx.1)⟩
/-- The plugins' slice. -/
theorem PfE.form (h : PfE S w u p b c C f) : ∃ a k, b = .slice a f.1.length k ∧ (0 < f.1.length → ∃ g, a = some ⟨g, 0, none⟩) := by
  have hz : (f.1.zip f.2.1).length = f.1.length := zip_lenF h.hl
  obtain ⟨a, k, e, hg⟩ := h.rb.formF
  rw [hz] at e hg
  exact ⟨a, k, e, hg⟩
end
/-- What a call of the frame leaves. -/
def PfO (S : Where) (w u : World) (p : Nat) (b c : Value) (f : FrD) (w' : World) : Prop :=
  ∃ c' C', PfE S w w' p b c' C' f ∧ Turns (DF p b c) u w' ∧ (c'.ownBlock = c.ownBlock ∨ ∀ x, c'.ownBlock = some x → u.heap.size ≤ x)
theorem PfO.refl {S : Where} {w u : World} {p : Nat} {b c : Value} {C : List (Int × Int)} {f : FrD} (h : PfE S w u p b c C f) : PfO S w u p b c f u := ⟨c, C, h, Turns.refl _ _, .inl rfl⟩
theorem PfO.trans {S : Where} {w u : World} {p : Nat} {b c c1 : Value} {g : FrD} {w1 w2 : World} (t1 : Turns (DF p b c) u w1) (o1 : c1.ownBlock = c.ownBlock ∨ ∀ x, c1.ownBlock = some x → u.heap.size ≤ x) (h2 : PfO S w w1 p b c1 g w2) : PfO S w u p b c g w2 := by
  obtain ⟨c2, C2, e2, t2, o2⟩ := h2
  have hs := t1.size
  refine ⟨c2, C2, e2, ?_, ?_⟩
  · have k1 : Turns (fun x => DF p b c x ∨ u.heap.size ≤ x) u w1 := t1.weak (fun x _ hx => .inl hx)
    have k2 : Turns (fun x => DF p b c x ∨ u.heap.size ≤ x) w1 w2 := t2.weak (fun x _ hx => by
      rcases hx with hx | hx | hx
      · exact .inl (.inl hx)
      · exact .inl (.inr (.inl hx))
      · rcases o1 with o1 | o1
        · rw [o1] at hx; exact .inl (.inr (.inr hx))
        · exact .inr (o1 x hx))
    exact (k1.trans k2).weak (fun x hx hf => hf.elim id (fun q => by omega))
  · rcases o2 with o2 | o2
    · rw [o2]; exact o1
    · exact .inr (fun x hx => Nat.le_trans hs (o2 x hx))
set_option maxHeartbeats 4000000 in
theorem note_calls {S : Where} {w u : World} {p : Nat} {b c : Value} {C : List (Int × Int)} {f : FrD} (h : PfE S w u p b c C f) {i : Nat} (hi : i < f.1.length) {pt : Int} (hp : 1 ≤ pt ∧ pt ≤ 5) (hC : f.2.2.length ≤ 1000000000) :
    Calls Tryd.prog 40 #[.pointer (some ⟨p, 0, none⟩), .int .i64 (i : Int), .int .i64 pt] u fun e w' => e = .returned (.tuple #[]) ∧ PfO S w u p b c (f.1, f.2.1, f.2.2 ++ [callS (f.1.getD i default).1 pt]) w' := by
  have hlc : C.length = f.2.2.length := by rw [h.hC, List.length_map]
  have d2 := h.cells.1.2.2
  obtain ⟨ca, cm, cc, rfl⟩ := h.rc.headG
  obtain ⟨W1, hW1⟩ : ∃ Z, Z = u.alloc (.cells #[.int .i64 (i : Int), .int .i64 pt] 64) := ⟨_, rfl⟩
  have b1 : Below u.heap.size u W1 := by rw [hW1]; exact (Below.refl _ _).alloc (Nat.le_refl _) _
  have q1 : BoxL W1 u.heap.size [.int .i64 (i : Int), .int .i64 pt] := by rw [hW1]; exact BoxL.new u _ _
  have HW1 : Hid (W1 = u.alloc (.cells #[.int .i64 (i : Int), .int .i64 pt] 64)) := hW1
  have HSr : Hid (Src RCall 2 (fun y => False ∧ (Value.slice ca cm cc).ownBlock ≠ some y) W1 (some ⟨u.heap.size, 0, none⟩) 1 [((i : Int), pt)]) := src_boxG RCall.firm q1 (RCall.mk _ _ _ _)
  have HLb : Hid ((C.length + [((i : Int), pt)].length) * 16 ≤ 140737488355328) := by rw [Hid, List.length_singleton]; omega
  have H0 : Hid (PfE S w u p b (.slice ca cm cc) C f) := h
  have H1 : Hid (PfE S w W1 p b (.slice ca cm cc) C f) := h.on b1
  have HB1 : Hid (Below u.heap.size u W1) := b1
  have HTx : Hid (f.2.2 ++ [callS (f.1.getD i default).1 pt] = (C ++ [((i : Int), pt)]).map (textC f.1)) := by
    rw [Hid, List.map_append, ← h.hC]; rfl
  clear h hW1 b1 q1 hlc
  go_enter Tryd.func40, Tryd.ntmps40
  go_wp2_with (at_builtin; refine wpl_atG HW1.out ?_; refine row_appendP RCall.firm (A := fun _ => False) (w0 := w) rfl _ _ 53 64 rfl _ 16 infoCall Tryd.underlying53 rfl (by decide) (by decide) (.slice ca cm cc) C rfl H1.out.rc (some ⟨u.heap.size, 0, none⟩) 1 1 [((i : Int), pt)] rfl HSr.out HLb.out ?_; intro v12 w12 hrow12 hg12 hw12; obtain ⟨v12a, v12n, v12c, rfl⟩ := hrow12.headG; have hbx := H1.out.box.kept (A := fun y => (Value.slice ca cm cc).ownBlock ≠ some y) (Kept.grown hg12 (fun y e hk => hk e)) H1.out.nc; have h0 := (hbx.2 2 _ rfl).1; have h1 := (hbx.2 2 _ rfl).2)
  --M1
  have k4 : Kept (fun y => (Value.slice ca cm cc).ownBlock ≠ some y) u w12 := (Kept.below HB1.out).trans (Kept.grown hg12 (fun k e hk => hk e))
  have t4 : Turns (DF p b (.slice ca cm cc)) u w12 := (Turns.below HB1.out).trans (Turns.grown hg12 (fun k e => .inr (.inr e)))
  have hwn : (Value.slice v12a v12n v12c).ownBlock = (Value.slice ca cm cc).ownBlock ∨ ∀ x, (Value.slice v12a v12n v12c).ownBlock = some x → u.heap.size ≤ x := hw12.imp id (fun e x hx => by rw [e] at hx; injection hx with hx; have h1 := HB1.out.size; omega)
  have hN := H0.out.newC k4 hrow12 hwn HTx.out (fun x hx => by
    rcases List.mem_append.1 hx with hx | hx
    · exact H0.out.hI x hx
    · rw [List.mem_singleton.1 hx]; exact ⟨by show (0 : Int) ≤ (i : Int); omega, by show (i : Int) < (f.1.length : Int); omega, hp.1, hp.2⟩)
  have HE : Hid (PfO S w u p b (.slice ca cm cc) (f.1, f.2.1, f.2.2 ++ [callS (f.1.getD i default).1 pt]) (w12.setCell ⟨p, 2, none⟩ (.slice v12a v12n v12c))) := ⟨_, _, hN, t4.trans (Turns.set (p := ⟨p, 2, none⟩) (.inl rfl) _), hwn⟩
  clear hN k4 t4 hwn hbx h0 h1 hrow12 hg12 hw12 H0 H1 HW1 HSr HLb HTx HB1 d2
  go_end0
  exact ⟨rfl, HE.out⟩
set_option maxHeartbeats 4000000 in
theorem giveBack_calls {S : Where} {w u : World} {p : Nat} {b c : Value} {C : List (Int × Int)} {f : FrD} (h : PfE S w u p b c C f) {m : Nat} (hm : m ≤ f.1.length) (hC : f.2.2.length + m ≤ 1000000000) :
    Calls Tryd.prog 33 #[.pointer (some ⟨p, 0, none⟩), .int .i64 ((m : Int) - 1)] u fun e w' => e = .returned (.tuple #[]) ∧ PfO S w u p b c (f.1, f.2.1, f.2.2 ++ unresP f.1 m) w' := by
  have h64 := h.h64
  have H0 : Hid (PfO S w u p b c (f.1, f.2.1, f.2.2 ++ unresTo f.1 m 0) u) := by rw [unresTo_zero, List.append_nil]; exact PfO.refl h
  clear h
  go_enter Tryd.func33, Tryd.ntmps33
  go_wp2_with fail
  --M1
  go_loopw [4] (fun i z => ∃ j : Nat, j ≤ m ∧ i = .int .i64 ((m : Int) - 1 - (j : Int)) ∧ Hid (PfO S w u p b c (f.1, f.2.1, f.2.2 ++ unresTo f.1 m j) z)) (fun i _ => (intOf i + 1).toNat)
  case atStart => exact ⟨0, Nat.zero_le _, by simp, H0⟩
  case round =>
    clear H0
    obtain ⟨j, hj, rfl, hrun⟩ := hrel
    by_cases hlt : j < m
    · have hk : (m : Int) - 1 - (j : Int) = ((m - 1 - j : Nat) : Int) := by omega
      obtain ⟨c1, C1, h1, t1, o1⟩ := hrun.out
      obtain ⟨k, hkk⟩ : ∃ k, k = m - 1 - j := ⟨_, rfl⟩
      have hkn : k < f.1.length := by omega
      have hkz : (0 : Int) ≤ (k : Int) := by omega
      have hA := note_calls h1 (i := k) hkn (pt := 5) (by decide) (by have h3 := unresTo_len f.1 m j; show (f.2.2 ++ unresTo f.1 m j).length ≤ 1000000000; rw [List.length_append]; omega)
      have HN : Hid (f.2.2 ++ unresTo f.1 m j ++ [callS (f.1.getD k default).1 5] = f.2.2 ++ unresTo f.1 m (j + 1)) := by rw [Hid, hkk, unresTo_step f.1 hm hlt, List.append_assoc]
      have H1 : Hid (Turns (DF p b c) u wr ∧ (c1.ownBlock = c.ownBlock ∨ ∀ x, c1.ownBlock = some x → u.heap.size ≤ x)) := ⟨t1, o1⟩
      rw [← hkk] at hk
      rw [hk]
      have HK : Hid ((m : Int) - 1 - (j : Int) = (k : Int)) := hk
      clear h1 t1 o1 hrun hk hkk
      --M2
      go_wp2_with fail
      refine hA.mono ?_
      rintro e w5 ⟨rfl, h5⟩
      have HE : Hid (PfO S w u p b c (f.1, f.2.1, f.2.2 ++ unresTo f.1 m (j + 1)) w5) := by rw [← HN.out]; exact PfO.trans H1.out.1 H1.out.2 h5
      clear hA h5 H1 HN
      go_wp2_with fail
      --M3
      go_roundw
      case rel => exact ⟨j + 1, by omega, by have := HK.out; congr 1; omega, HE⟩
      case measure => have := HK.out; simp [intOf]; try omega
    · have hj2 : j = m := by omega
      have HE : Hid (PfO S w u p b c (f.1, f.2.1, f.2.2 ++ unresP f.1 m) wr) := by have h := hrun.out; rw [hj2, unresTo_all f.1 hm] at h; exact h
      have hk : (m : Int) - 1 - (j : Int) = -1 := by omega
      rw [hk]
      clear hrun hj2 hk
      go_wp2_with fail
      go_end0
      exact ⟨rfl, HE.out⟩
end Go.Proofs.YtoacbobchngooaaDoor
namespace Go.Proofs.YtoacbobchngooaaDoor
open Go.RowKit Go.Maps
set_option linter.unusedSimpArgs false
set_option maxRecDepth 100000

theorem made_calls {S : Where} {w u : World} {p : Nat} {b c : Value} {C : List (Int × Int)} {f : FrD} (h : PfE S w u p b c C f) : Calls Tryd.prog 30 #[.pointer (some ⟨p, 0, none⟩)] u fun e w' => e = .returned (.bool true) ∧ w' = u := by
  have d0 := h.cells.1.1
  clear h
  go_enter Tryd.func30, Tryd.ntmps30
  go_wp2_with fail
  go_ret
  exact ⟨rfl, rfl⟩
def doesP (pt c : Int) : Int := if pt = 4 ∧ c = 3 then 3 else onceP c
def doesF (f : FrD) (pt : Int) (i : Nat) (c : Int) : FrD := (f.1, (if pt = 1 ∧ c = 4 then f.2.1.set i true else f.2.1), (if pt = 3 ∧ onceP c ≠ 0 then f.2.2 ++ unresP f.1 (i + 1) else f.2.2))
/-- What is asked of a function that does something with a code at a point. -/
def DoesAt (pt : Int) (g : Nat) : Prop :=
  ∀ {S : Where} {w u : World} {p : Nat} {b c : Value} {C : List (Int × Int)} {f : FrD}, PfE S w u p b c C f → ∀ {i : Nat}, i < f.1.length → f.2.2.length ≤ 100000000 → ∀ cd : Int, Calls Tryd.prog g #[.pointer (some ⟨p, 0, none⟩), .int .i64 (i : Int), .int .i64 cd] u fun e w' => e = .returned (.int .i64 (doesP pt cd)) ∧ PfO S w u p b c (doesF f pt i cd) w'
theorem does_before : DoesAt 1 47 := by
  intro S w u p b c C f h i hi hC cd
  have hD : doesP 1 cd = onceP cd := by unfold doesP; rw [if_neg (by rintro ⟨h, _⟩; exact absurd h (by decide))]
  rw [hD]
  clear hD
  obtain ⟨a, k, rfl, hg⟩ := h.form
  obtain ⟨g, rfl⟩ := hg (by omega)
  by_cases h4 : cd = 4
  · have h4b : (cd == 4) = true := by simpa using h4
    have hF : doesF f 1 i cd = (f.1, f.2.1.set i true, f.2.2) := by unfold doesF; rw [if_pos ⟨rfl, h4⟩, if_neg (by rintro ⟨h, _⟩; exact absurd h (by decide))]
    rw [hF]
    have q1 := h.cells.1.2.1
    have hN := h.setB rfl hi true
    have hiz : (i : Int) < (f.1.length : Int) := by omega
    obtain ⟨n, hn⟩ : ∃ n, n = f.1.length := ⟨_, rfl⟩
    obtain ⟨g', k', sa, sn, sc, e, _, hv, _, _⟩ := h.plug hi
    simp only [Value.slice.injEq, Option.some.injEq, Addr.mk.injEq, and_true, true_and] at e
    obtain ⟨rfl, rfl⟩ := e
    have d7 := hv 7 _ rfl
    have n0 := h.rb.meltsG (o := i * 8 + 7)
    have HE : Hid (PfO S w u p (.slice (some ⟨g, 0, none⟩) f.1.length k) c (f.1, f.2.1.set i true, f.2.2) (u.setCell ⟨g, i * 8 + 7, none⟩ (.bool true))) := ⟨_, _, hN, Turns.set (p := ⟨g, i * 8 + 7, none⟩) (.inr (.inl rfl)) _, .inl rfl⟩
    rw [← hn] at q1 hiz hi HE ⊢
    generalize f.2.1.getD i default = s0 at d7
    have hA := atOnce_calls cd (u.setCell ⟨g, i * 8 + 7, none⟩ (.bool true))
    generalize onceP cd = oc at hA ⊢
    clear hN h hF hv hn h4
    go_enter Tryd.func47, Tryd.ntmps47
    go_wp2_with fail
    --M1
    refine hA.mono ?_
    rintro e w5 ⟨rfl, rfl⟩
    clear hA
    go_wp2_with fail
    go_ret
    exact ⟨rfl, HE.out⟩
  · have h4b : (cd == 4) = false := by simpa using h4
    have hF : doesF f 1 i cd = f := by unfold doesF; rw [if_neg (fun h => h4 h.2), if_neg (by rintro ⟨h, _⟩; exact absurd h (by decide))]
    rw [hF]
    have HE : Hid (PfO S w u p (.slice (some ⟨g, 0, none⟩) f.1.length k) c f u) := PfO.refl h
    have hA := atOnce_calls cd u
    generalize onceP cd = oc at hA ⊢
    clear h hF h4
    go_enter Tryd.func47, Tryd.ntmps47
    go_wp2_with fail
    refine hA.mono ?_
    rintro e w5 ⟨rfl, rfl⟩
    clear hA
    go_wp2_with fail
    go_ret
    exact ⟨rfl, HE.out⟩
theorem does_filter : DoesAt 2 49 := by
  intro S w u p b c C f h i hi hC cd
  have hD : doesP 2 cd = onceP cd := by unfold doesP; rw [if_neg (by rintro ⟨h, _⟩; exact absurd h (by decide))]
  rw [hD]
  have hF : doesF f 2 i cd = f := by unfold doesF; rw [if_neg (by rintro ⟨h, _⟩; exact absurd h (by decide)), if_neg (by rintro ⟨h, _⟩; exact absurd h (by decide))]
  rw [hF]
  have HE : Hid (PfO S w u p b c f u) := PfO.refl h
  have hA := atOnce_calls cd u
  generalize onceP cd = oc at hA ⊢
  clear h hF hD
  go_enter Tryd.func49, Tryd.ntmps49
  go_wp2_with fail
  refine hA.mono ?_
  rintro e w5 ⟨rfl, rfl⟩
  clear hA
  go_wp2_with fail
  go_ret
  exact ⟨rfl, HE.out⟩
theorem does_reserve : DoesAt 3 51 := by
  intro S w u p b c C f h i hi hC cd
  have hD : doesP 3 cd = onceP cd := by unfold doesP; rw [if_neg (by rintro ⟨h, _⟩; exact absurd h (by decide))]
  rw [hD]
  have hA := atOnce_calls cd u
  have hF : doesF f 3 i cd = (f.1, f.2.1, if onceP cd ≠ 0 then f.2.2 ++ unresP f.1 (i + 1) else f.2.2) := by
    unfold doesF
    rw [if_neg (by rintro ⟨h, _⟩; exact absurd h (by decide))]
    by_cases h0 : onceP cd = 0
    · rw [if_neg (fun h => h.2 h0), if_neg (fun h => h h0)]
    · rw [if_pos ⟨rfl, h0⟩, if_pos h0]
  rw [hF]
  have h64 := h.h64
  generalize onceP cd = oc at hA ⊢
  by_cases h0 : oc = 0
  · have h0b : (oc != 0) = false := by simpa using h0
    rw [if_neg (fun h => h h0)]
    have HE : Hid (PfO S w u p b c (f.1, f.2.1, f.2.2) u) := PfO.refl h
    clear h hF hD h0
    go_enter Tryd.func51, Tryd.ntmps51
    go_wp2_with fail
    refine hA.mono ?_
    rintro e w5 ⟨rfl, rfl⟩
    clear hA
    go_wp2_with fail
    go_ret
    exact ⟨rfl, HE.out⟩
  · have h0b : (oc != 0) = true := by simpa using h0
    rw [if_pos h0]
    have hB := giveBack_calls h (m := i + 1) (by omega) (by omega)
    have e : ((i + 1 : Nat) : Int) - 1 = (i : Int) := by omega
    rw [e] at hB
    clear h hF hD h0 e
    go_enter Tryd.func51, Tryd.ntmps51
    go_wp2_with fail
    refine hA.mono ?_
    rintro e w5 ⟨rfl, rfl⟩
    clear hA
    go_wp2_with fail
    refine hB.mono ?_
    rintro e w6 ⟨rfl, h6⟩
    have HE : Hid (PfO S w w5 p b c (f.1, f.2.1, f.2.2 ++ unresP f.1 (i + 1)) w6) := h6
    clear hB h6
    go_wp2_with fail
    go_ret
    exact ⟨rfl, HE.out⟩
theorem does_permit : DoesAt 4 53 := by
  intro S w u p b c C f h i hi hC cd
  have hF : doesF f 4 i cd = f := by unfold doesF; rw [if_neg (by rintro ⟨h, _⟩; exact absurd h (by decide)), if_neg (by rintro ⟨h, _⟩; exact absurd h (by decide))]
  rw [hF]
  have HE : Hid (PfO S w u p b c f u) := PfO.refl h
  by_cases h3 : cd = 3
  · have h3b : (cd == 3) = true := by simpa using h3
    have hD : doesP 4 cd = 3 := by unfold doesP; rw [if_pos ⟨rfl, h3⟩]
    rw [hD]
    clear h hF hD h3
    go_enter Tryd.func53, Tryd.ntmps53
    go_wp2_with fail
    go_ret
    exact ⟨rfl, HE.out⟩
  · have h3b : (cd == 3) = false := by simpa using h3
    have hD : doesP 4 cd = onceP cd := by unfold doesP; rw [if_neg (fun h => h3 h.2)]
    rw [hD]
    have hA := atOnce_calls cd u
    generalize onceP cd = oc at hA ⊢
    clear h hF hD h3
    go_enter Tryd.func53, Tryd.ntmps53
    go_wp2_with fail
    refine hA.mono ?_
    rintro e w5 ⟨rfl, rfl⟩
    clear hA
    go_wp2_with fail
    go_ret
    exact ⟨rfl, HE.out⟩
/-- What is asked of a function that tells the code of a plugin at a point. -/
def SaysAt (pt : Int) (g : Nat) : Prop :=
  ∀ (A : Where) (cs : List Value) (x : PlugD × Bool) (u : World), RPl8 A u cs x → Calls Tryd.prog g #[.agg cs.toArray] u fun e w' => e = .returned (.int .i64 (codeAt x.1 pt)) ∧ Below u.heap.size u w'
theorem says_1 : SaysAt 1 46 := by
  intro A cs x u hr
  obtain ⟨sa, sn, sc, rfl, _, _⟩ := hr.out
  have HB : Hid (Below u.heap.size u (u.alloc (.cells #[.string x.1.1, .int .i64 x.1.2.1, .int .i64 x.1.2.2.1, .int .i64 x.1.2.2.2.1, .int .i64 x.1.2.2.2.2.1, .int .i64 (plW x.1), .slice sa sn sc, .bool x.2] 59))) := (Below.refl _ _).alloc (Nat.le_refl _) _
  clear hr
  show Calls Tryd.prog 46 #[.agg #[.string x.1.1, .int .i64 x.1.2.1, .int .i64 x.1.2.2.1, .int .i64 x.1.2.2.2.1, .int .i64 x.1.2.2.2.2.1, .int .i64 (plW x.1), .slice sa sn sc, .bool x.2]] u fun e w' => e = .returned (.int .i64 (codeAt x.1 1)) ∧ Below u.heap.size u w'
  go_enter Tryd.func46, Tryd.ntmps46
  go_wp2_with fail
  go_ret
  exact ⟨rfl, HB.out⟩
theorem says_2 : SaysAt 2 48 := by
  intro A cs x u hr
  obtain ⟨sa, sn, sc, rfl, _, _⟩ := hr.out
  have HB : Hid (Below u.heap.size u (u.alloc (.cells #[.string x.1.1, .int .i64 x.1.2.1, .int .i64 x.1.2.2.1, .int .i64 x.1.2.2.2.1, .int .i64 x.1.2.2.2.2.1, .int .i64 (plW x.1), .slice sa sn sc, .bool x.2] 59))) := (Below.refl _ _).alloc (Nat.le_refl _) _
  clear hr
  show Calls Tryd.prog 48 #[.agg #[.string x.1.1, .int .i64 x.1.2.1, .int .i64 x.1.2.2.1, .int .i64 x.1.2.2.2.1, .int .i64 x.1.2.2.2.2.1, .int .i64 (plW x.1), .slice sa sn sc, .bool x.2]] u fun e w' => e = .returned (.int .i64 (codeAt x.1 2)) ∧ Below u.heap.size u w'
  go_enter Tryd.func48, Tryd.ntmps48
  go_wp2_with fail
  go_ret
  exact ⟨rfl, HB.out⟩
theorem says_3 : SaysAt 3 50 := by
  intro A cs x u hr
  obtain ⟨sa, sn, sc, rfl, _, _⟩ := hr.out
  have HB : Hid (Below u.heap.size u (u.alloc (.cells #[.string x.1.1, .int .i64 x.1.2.1, .int .i64 x.1.2.2.1, .int .i64 x.1.2.2.2.1, .int .i64 x.1.2.2.2.2.1, .int .i64 (plW x.1), .slice sa sn sc, .bool x.2] 59))) := (Below.refl _ _).alloc (Nat.le_refl _) _
  clear hr
  show Calls Tryd.prog 50 #[.agg #[.string x.1.1, .int .i64 x.1.2.1, .int .i64 x.1.2.2.1, .int .i64 x.1.2.2.2.1, .int .i64 x.1.2.2.2.2.1, .int .i64 (plW x.1), .slice sa sn sc, .bool x.2]] u fun e w' => e = .returned (.int .i64 (codeAt x.1 3)) ∧ Below u.heap.size u w'
  go_enter Tryd.func50, Tryd.ntmps50
  go_wp2_with fail
  go_ret
  exact ⟨rfl, HB.out⟩
theorem says_4 : SaysAt 4 52 := by
  intro A cs x u hr
  obtain ⟨sa, sn, sc, rfl, _, _⟩ := hr.out
  have HB : Hid (Below u.heap.size u (u.alloc (.cells #[.string x.1.1, .int .i64 x.1.2.1, .int .i64 x.1.2.2.1, .int .i64 x.1.2.2.2.1, .int .i64 x.1.2.2.2.2.1, .int .i64 (plW x.1), .slice sa sn sc, .bool x.2] 59))) := (Below.refl _ _).alloc (Nat.le_refl _) _
  clear hr
  show Calls Tryd.prog 52 #[.agg #[.string x.1.1, .int .i64 x.1.2.1, .int .i64 x.1.2.2.1, .int .i64 x.1.2.2.2.1, .int .i64 x.1.2.2.2.2.1, .int .i64 (plW x.1), .slice sa sn sc, .bool x.2]] u fun e w' => e = .returned (.int .i64 (codeAt x.1 4)) ∧ Below u.heap.size u w'
  go_enter Tryd.func52, Tryd.ntmps52
  go_wp2_with fail
  go_ret
  exact ⟨rfl, HB.out⟩
end Go.Proofs.YtoacbobchngooaaDoor
namespace Go.Proofs.YtoacbobchngooaaDoor
open Go.RowKit Go.Maps
set_option linter.unusedSimpArgs false
set_option maxRecDepth 100000

theorem below_setCells17 {B b : Nat} {a : World} : ∀ {vs : List Value} {o : Nat} {u : World}, Below B a u → B ≤ b → Below B a (u.setCells b o vs)
  | [], _, _, h, _ => h
  | v :: r, o, u, h, hb => by
    rw [World.setCells]
    exact below_setCells17 (h.setCell (p := ⟨b, o, none⟩) hb v) hb
theorem size_setCells17 {b : Nat} : ∀ {vs : List Value} {o : Nat} {u : World}, (u.setCells b o vs).heap.size = u.heap.size
  | [], _, _ => rfl
  | v :: r, o, u => by rw [World.setCells, size_setCells17]; simp
theorem box_there17 {u : World} {D : Nat} {zs : List Value} (hb : BoxL u D zs) : u.there D 0 zs.length := fun j hj => by
  have h := hb.2 j _ (List.getElem?_eq_getElem hj)
  rw [Nat.zero_add]
  exact ⟨by rw [h.1]; rfl, h.2⟩
theorem box_over17 {u : World} {D : Nat} {zs cs : List Value} (hb : BoxL u D zs) (hl : zs.length = cs.length) : BoxL (u.setCells D 0 cs) D cs := by
  have hth : u.there D 0 cs.length := hl ▸ box_there17 hb
  have hr := World.rangeAt_setCells_same u D 0 cs hth
  have ht2 := World.there_setCells hth D 0 cs
  refine ⟨by rw [size_setCells17]; exact hb.1, fun j v hj => ?_⟩
  have h1 := hr j v hj
  have h2 := (ht2 j (List.getElem?_eq_some_iff.1 hj).1).2
  rw [Nat.zero_add] at h1 h2
  exact ⟨h1, h2⟩
theorem res_cell17 {P : Program} {fn : Func} {p : Tmp} {ty : TypeId} (h : fn.results = #[.cell p ty]) (tmps : Array Value) (w : World) (b : Nat) (cs : List Value) (d : TypeDesc)
    (hp : tmps.getD p undef = .pointer (some ⟨b, 0, none⟩)) (hr : w.rangeAt b 0 cs) (hu : P.underlying ty = some d) (hd : d.isRow = true) (hi : (P.info? ty).map (·.size) = some cs.length) :
    (results fn tmps).run P w = .ok (.agg cs.toArray) w := by
  have hp' : tmps[p]?.getD undef = .pointer (some ⟨b, 0, none⟩) := by simpa using hp
  simp [results, h, hp', asAddr, run_loadVar_mid w b 0 ty cs d hr hu hd hi]
/-- The rules, in their cells. -/
def ruC (p : Nat) : List Value := [.nilFunc, .nilFunc, .func (.func 46) #[] #[], .func (.func 47) #[.pointer (some ⟨p, 0, none⟩)] #[], .func (.func 48) #[] #[], .func (.func 49) #[.pointer (some ⟨p, 0, none⟩)] #[], .func (.func 50) #[] #[], .func (.func 51) #[.pointer (some ⟨p, 0, none⟩)] #[], .func (.func 52) #[] #[], .func (.func 53) #[.pointer (some ⟨p, 0, none⟩)] #[]]
theorem sizeRules : (Tryd.prog.info? 76).map (·.size) = some 10 := by kernel_rfl
theorem rules_calls (p : Nat) (u : World) : Calls Tryd.prog 41 #[.pointer (some ⟨p, 0, none⟩)] u fun e w' => e = .returned (.agg (ruC p).toArray) ∧ Below u.heap.size u w' := by
  obtain ⟨W1, hW1⟩ : ∃ Z, Z = u.alloc (.cells #[.nilFunc, .nilFunc, .nilFunc, .nilFunc, .nilFunc, .nilFunc, .nilFunc, .nilFunc, .nilFunc, .nilFunc] 76) := ⟨_, rfl⟩
  have b1 : Below u.heap.size u W1 := by rw [hW1]; exact (Below.refl _ _).alloc (Nat.le_refl _) _
  have q1 : BoxL W1 u.heap.size [.nilFunc, .nilFunc, .nilFunc, .nilFunc, .nilFunc, .nilFunc, .nilFunc, .nilFunc, .nilFunc, .nilFunc] := by rw [hW1]; exact BoxL.new u _ _
  obtain ⟨W2, hW2⟩ : ∃ Z, Z = W1.setCells u.heap.size 0 (ruC p).toArray.toList := ⟨_, rfl⟩
  have HB : Hid (Below u.heap.size u W2) := by rw [Hid, hW2]; exact below_setCells17 b1 (Nat.le_refl _)
  have HX : Hid (BoxL W2 u.heap.size (ruC p)) := by rw [hW2]; exact box_over17 q1 rfl
  have HT : Hid (W1.there u.heap.size 0 (ruC p).toArray.size) := (show W1.there u.heap.size 0 10 from box_there17 q1)
  have HO : Hid ((ruC p).toArray.all (·.oneCell') = true) := all_oneCell_toArray (by intro v hv; simp only [ruC, List.mem_cons, List.not_mem_nil, or_false] at hv; rcases hv with rfl | rfl | rfl | rfl | rfl | rfl | rfl | rfl | rfl | rfl <;> rfl)
  have HW1 : Hid (u.alloc (.cells #[.nilFunc, .nilFunc, .nilFunc, .nilFunc, .nilFunc, .nilFunc, .nilFunc, .nilFunc, .nilFunc, .nilFunc] 76) = W1) := hW1.symm
  have HW2 : Hid (W2 = W1.setCells u.heap.size 0 (ruC p).toArray.toList) := hW2
  clear hW1 b1 q1 hW2
  go_enter Tryd.func41, Tryd.ntmps41
  go_upto_region 1 with fail
  rw [HW1.out]
  go_wp2_with (first | (refine wpList_store_mid rfl 76 _ _ rfl u.heap.size 0 (ruC p).toArray rfl rfl HT.out sizeRules HO.out ?_; refine wpl_atG HW2.out ?_) | fail)
  --M1
  refine bodyPost_ret (v := .agg (ruC p).toArray) (res_cell17 (p := 2) (ty := 76) rfl _ _ u.heap.size (ruC p) _ rfl (fun j v hj => by rw [Nat.zero_add]; exact (HX.out.2 j v hj).1) Tryd.underlying76 rfl sizeRules) rfl ⟨rfl, HB.out⟩
/-- A rule of the table. -/
theorem rule_at (p : Nat) {pt : Int} (h : 1 ≤ pt ∧ pt ≤ 4) : ∃ g k : Nat, (∀ w : World, (Instr.index 76 (.agg (ruC p).toArray) (.int .i64 pt)).run Tryd.prog w = .ok (.agg #[.func (.func g) #[] #[], .func (.func k) #[.pointer (some ⟨p, 0, none⟩)] #[]]) w) ∧ (∀ args w, (callFunc g args).run Tryd.prog w = .ok (.enter g args) w) ∧ (∀ args w, (callFunc k args).run Tryd.prog w = .ok (.enter k args) w) ∧ SaysAt pt g ∧ DoesAt pt k := by
  rcases (show pt = 1 ∨ pt = 2 ∨ pt = 3 ∨ pt = 4 by omega) with rfl | rfl | rfl | rfl
  · exact ⟨46, 47, fun w => by kernel_rfl, Go.Proofs.enters_of Tryd.func46 (by kernel_rfl) rfl, Go.Proofs.enters_of Tryd.func47 (by kernel_rfl) rfl, says_1, does_before⟩
  · exact ⟨48, 49, fun w => by kernel_rfl, Go.Proofs.enters_of Tryd.func48 (by kernel_rfl) rfl, Go.Proofs.enters_of Tryd.func49 (by kernel_rfl) rfl, says_2, does_filter⟩
  · exact ⟨50, 51, fun w => by kernel_rfl, Go.Proofs.enters_of Tryd.func50 (by kernel_rfl) rfl, Go.Proofs.enters_of Tryd.func51 (by kernel_rfl) rfl, says_3, does_reserve⟩
  · exact ⟨52, 53, fun w => by kernel_rfl, Go.Proofs.enters_of Tryd.func52 (by kernel_rfl) rfl, Go.Proofs.enters_of Tryd.func53 (by kernel_rfl) rfl, says_4, does_permit⟩
end Go.Proofs.YtoacbobchngooaaDoor
