/- A set of texts that a call makes and keeps to itself, beside a row of its own. Plain facts on worlds. No condition. info.podName and info.firsts at pods: the first one of each name, in order. Condition: the slice lies as is said of it. Sorted and each once: what slices.Sort and slices.Compact leave is the document's rising list. Plain mathematics. No condition. The law's 'spoil' writes into the info's own lists alone. Condition: the info lies as is said of it, and its lists may be written. A list that begins as a piece of another one without room: what is appended comes into room of its own; then sorted, each once. Plain facts on worlds. No condition. slices.Sort at texts and at numbers: the library's contracts, at this program's numbers. Condition: the row holds what is said of it. -/
import Derived.Test.YtddeilhelkfpoaaQ06
import Derived.Test.YtddeilhelkfpoaaQ03
import Derived.Maps.OwnSet
import Derived.Test.YtddeilhelkfpoaaQ09
import Derived.Test.YtddeilhelkfpoaaQ11
import Derived.Lib.SlicesCompact
import Derived.Test.YtddeilhelkfpoaaQ07
import Derived.Sort.OwnSortedInts
import Derived.Lib.OwnBridge
import Derived.Test.YtddeilhelkfpoaaShelf
namespace Go.Proofs.Ytddeilhelkfpoaa
open Go.RowKit Go.Maps
set_option linter.unusedSimpArgs false

def kS (s : ByteArray) : Lit := .string s.data.toList
theorem kS_key {s : ByteArray} (h : s.size ≤ 140737488355328) : keyOf Try.prog 9 (.string s) = some (kS s) := WideMaps.keyOf_string_mk Try.underlying9 (Nat.le_trans h (by unfold maxLen; omega))
theorem kS_is (s : ByteArray) : WideAt.IsKeyLit (kS s) := by unfold kS; trivial
theorem kS_inj {s t : ByteArray} (h : kS s = kS t) : s = t := by
  unfold kS at h
  injection h with h
  cases s; cases t
  simp only [ByteArray.mk.injEq] at h ⊢
  exact Array.toList_inj.1 h
theorem run_makeSet (n : Int) (w : World) : (Instr.makeMap 93 (some (.int .i64 n))).run Try.prog w = .ok (.map (some w.heap.size)) (w.alloc (.map #[] 0)) := by
  simp [Instr.makeMap, run_underlying Try.underlying93, asInt, newObj, asIntOf, Result.andThen]
  rfl
theorem lawS : Keyed Try.prog 9 := string_keyed Try.underlying9
theorem zeroU (w : World) : (zeroValue 94).run Try.prog w = .ok (.agg #[]) w := by kernel_rfl
/-- The map in block mb holds just the texts of which q says so; at most n. -/
def SetAt (w : World) (mb n : Nat) (q : ByteArray → Bool) : Prop :=
  ∃ D : DataW Unit, w.ownsMap Try.prog 9 unitElem mb n D ∧ ∀ s, Maps.has D (kS s) = q s
theorem SetAt.lt {w : World} {mb n : Nat} {q : ByteArray → Bool} (h : SetAt w mb n q) : mb < w.heap.size := by
  obtain ⟨D, ⟨es, ck, hb, _⟩, _⟩ := h
  rcases Nat.lt_or_ge mb w.heap.size with h | h
  · exact h
  · rw [Array.getElem?_eq_none h] at hb; cases hb
theorem SetAt.same {w w' : World} {mb n : Nat} {q : ByteArray → Bool} (h : SetAt w mb n q) (hb : w'.heap[mb]? = w.heap[mb]?) : SetAt w' mb n q := by
  obtain ⟨D, ⟨es, ck, h1, h2⟩, h3⟩ := h
  exact ⟨D, ⟨es, ck, hb.trans h1, h2⟩, h3⟩
theorem SetAt.on {w w' : World} {mb n : Nat} {q : ByteArray → Bool} (h : SetAt w mb n q) (hb : Below w.heap.size w w') : SetAt w' mb n q := h.same (hb.block mb h.lt)
theorem SetAt.grown {w w' : World} {mb n : Nat} {q : ByteArray → Bool} {row : Option Nat} (h : SetAt w mb n q) (hg : w.grownBy w' row) (hr : row ≠ some mb) : SetAt w' mb n q := h.same (hg.block mb h.lt (fun e => hr e.symm))
theorem SetAt.made (w : World) : SetAt (w.alloc (.map #[] 0)) w.heap.size 0 (fun _ => false) := ⟨.map [], World.ownsMap_made _ _ _ _, fun _ => rfl⟩
theorem SetAt.mono {w : World} {mb n n' : Nat} {q : ByteArray → Bool} (h : SetAt w mb n q) (hn : n ≤ n') : SetAt w mb n' q := by
  obtain ⟨D, h1, h2⟩ := h
  exact ⟨D, h1.mono hn, h2⟩
theorem SetAt.as {w : World} {mb n : Nat} {q q' : ByteArray → Bool} (h : SetAt w mb n q) (e : ∀ s, q s = q' s) : SetAt w mb n q' := by
  obtain ⟨D, h1, h2⟩ := h
  exact ⟨D, h1, fun s => (h2 s).trans (e s)⟩
section
variable {α : Type} [Inhabited α] {R : Rep α} {k : Nat}
/-- A row of cells lies in another block than a map. -/
theorem Row.ne_set {A : Where} {w0 u : World} {e : TypeId} {v : Value} {L : List α} (h : Row R k A w0 u e v L) {mb n : Nat} {q : ByteArray → Bool} (hs : SetAt u mb n q) : v.ownBlock ≠ some mb := by
  intro hv
  obtain ⟨xs, ⟨_, _, h2⟩, _⟩ := h
  obtain ⟨D, ⟨es, ck, h3, _⟩, _⟩ := hs
  rcases h2 with ⟨rfl, _⟩ | ⟨g, cap, cur, rfl, _, hg, _⟩
  · simp [Value.ownBlock] at hv
  · have e : g = mb := by simpa [Value.ownBlock] using hv
    subst e
    rw [hg] at h3
    cases h3
end
section
variable {ops : Array Oper} {rest : List Oper} {o : Oper} {a : Act} {Q : Exit → Act → World → Prop} {w : World}
/-- '_, ok := m[s]'. -/
theorem set_look (hg : o.guard = none) (m x : Operand) (t : TypeId) (hop : o.op = Op.lookup t m x true) (ht : Try.prog.underlying t = some (.map 9 94)) (mb n : Nat) (q : ByteArray → Bool) (s : ByteArray) (hsz : s.size ≤ 140737488355328)
    (hm : a.eval m = .map (some mb)) (hown : SetAt w mb n q) (hx : a.eval x = .string s) (b : Bool) (hq : q s = b) (hK : wpList Try.prog ops Q rest (a.put o.dst (.tuple #[.agg #[], .bool b])) w) : wpList Try.prog ops Q (o :: rest) a w := by
  subst hq
  obtain ⟨D, h1, h2⟩ := hown
  refine wpList_lookup_own_unit (H := Unit) w hg m x t hop 9 94 lawS ht (zeroU _) mb n D hm h1 _ (kS s) hx (kS_key hsz) ?_
  rw [h2]
  exact hK
/-- 'm[s] = struct{}{}'. -/
theorem set_put (hg : o.guard = none) (m x v : Operand) (t : TypeId) (hop : o.op = Op.mapUpdate t m x v) (ht : Try.prog.underlying t = some (.map 9 94)) (mb n : Nat) (q : ByteArray → Bool) (s : ByteArray) (hsz : s.size ≤ 140737488355328) (hn : n < 140737488355328)
    (hm : a.eval m = .map (some mb)) (hown : SetAt w mb n q) (hx : a.eval x = .string s) (hv : a.eval v = .agg #[])
    (hK : ∀ w', SetAt w' mb (n + 1) (fun t => q t || sEq t s) → w.grownBy w' (some mb) → wpList Try.prog ops Q rest (a.put o.dst undef) w') : wpList Try.prog ops Q (o :: rest) a w := by
  obtain ⟨D, h1, h2⟩ := hown
  refine wpList_mapUpdate_in (H := Unit) w hg m x v t hop 9 94 lawS ht unitElem mb n D hm h1 (by unfold maxLen; omega) _ _ (kS s) hx hv (kS_key hsz) _ _ unitElem_mk ?_
  intro w' h3 h4
  refine hK w' ⟨_, h3, fun t => ?_⟩ h4.grown
  by_cases e : t = s
  · subst e; rw [has_put_same h1.isMap (kS_is _)]; simp [sEq_self]
  · rw [has_put_other (fun h => e (kS_inj h)), h2]; simp [sEq_false e]
/-- 'delete(m, s)'. -/
theorem set_del (hg : o.guard = none) (m x : Operand) (t : TypeId) (hop : o.op = Op.call { callee := Callee.builtin Builtin.delete, args := #[m, x], argTypes := #[t, 9] }) (ht : Try.prog.underlying t = some (.map 9 94)) (mb n : Nat) (q : ByteArray → Bool) (s : ByteArray) (hsz : s.size ≤ 140737488355328)
    (hm : a.eval m = .map (some mb)) (hown : SetAt w mb n q) (hx : a.eval x = .string s)
    (hK : ∀ w', SetAt w' mb n (fun t => q t && !sEq t s) → w.grownBy w' (some mb) → wpList Try.prog ops Q rest (a.put o.dst (.tuple #[])) w') : wpList Try.prog ops Q (o :: rest) a w := by
  obtain ⟨D, h1, h2⟩ := hown
  refine wpList_delete_own (H := Unit) w hg m x t 9 hop 94 lawS ht unitElem mb n D hm h1 _ (kS s) hx (kS_key hsz) ?_
  intro w' h3 h4
  refine hK w' ⟨_, h3, fun t => ?_⟩ h4.grown
  by_cases e : t = s
  · subst e; rw [has_del_same]; simp [sEq_self]
  · rw [has_del_other (fun h => e (kS_inj h)), h2]; simp [sEq_false e]
end
end Go.Proofs.Ytddeilhelkfpoaa
namespace Go.Proofs.Ytddeilhelkfpoaa
open Go.RowKit Go.Maps
set_option linter.unusedSimpArgs false
set_option maxRecDepth 100000

theorem wpl_at {P : Program} {ops : Array Oper} {Q : Exit → Act → World → Prop} {rest : List Oper} {a : Act} {u W : World} (h : W = u) (k : wpList P ops Q rest a W) : wpList P ops Q rest a u := h ▸ k
theorem range_grown {u u' : World} {D o : Nat} {cs : List Value} {row : Option Nat} (h : u.rangeAt D o cs) (hD : D < u.heap.size) (hg : u.grownBy u' row) (hr : row ≠ some D) : u'.rangeAt D o cs := fun j v hj => (World.cell?_of_block (w := u) (a := ⟨D, o + j, none⟩) (hg.block D hD (fun e => hr e.symm))).trans (h j v hj)
/-- A pod's cells with its name written out. -/
theorem RPod.lit0 {A : Where} {w : World} {cs : List Value} {q : PodD} (h : RPod A w cs q) : q.1.size ≤ 140737488355328 ∧ ∃ v1 v2 v3 v4 v5 v6 v7 v8 v9 v10 v11 v12 v13 v14 v15 : Value, cs = [.string q.1, v1, v2, v3, v4, v5, v6, v7, v8, v9, v10, v11, v12, v13, v14, v15] := by
  obtain ⟨_, _, _, _, _, _, _, _, _, rfl, hp, _⟩ := h.out
  exact ⟨hp, _, _, _, _, _, _, _, _, _, _, _, _, _, _, _, rfl⟩
set_option maxHeartbeats 1000000 in
theorem podName_calls (cs : List Value) (q : PodD) (A : Where) (w : World) (h : Hid (RPod A w cs q)) : Calls Try.prog 31 #[.agg cs.toArray] w fun e w' => e = .returned (.string q.1) ∧ Below w.heap.size w w' := by
  obtain ⟨_, v1, v2, v3, v4, v5, v6, v7, v8, v9, v10, v11, v12, v13, v14, v15, rfl⟩ := h.out.lit0
  obtain ⟨W1, hW1⟩ : ∃ W1, W1 = w.alloc (.cells #[.string q.1, v1, v2, v3, v4, v5, v6, v7, v8, v9, v10, v11, v12, v13, v14, v15] 37) := ⟨_, rfl⟩
  have HB : Hid (Below w.heap.size w W1) := by rw [hW1]; exact (Below.refl _ _).alloc (Nat.le_refl _) _
  have c0 := ((BoxL.new w 37 [.string q.1, v1, v2, v3, v4, v5, v6, v7, v8, v9, v10, v11, v12, v13, v14, v15]).2 0 _ rfl).1
  have HW : Hid (W1 = w.alloc (.cells #[.string q.1, v1, v2, v3, v4, v5, v6, v7, v8, v9, v10, v11, v12, v13, v14, v15] 37)) := hW1
  rw [show (w.alloc (.cells ([.string q.1, v1, v2, v3, v4, v5, v6, v7, v8, v9, v10, v11, v12, v13, v14, v15] : List Value).toArray 37)) = W1 from hW1.symm] at c0
  clear hW1 h
  go_enter Try.func31, Try.ntmps31
  go_wp2_with fail
  go_ret
  exact ⟨by simp, HW.out ▸ HB.out⟩
/-- The set of names that were seen, and the row of those that count. -/
structure FirSt (A : Where) (w u : World) (mb n : Nat) (v : Value) (F : List PodD) : Prop where
  set : SetAt u mb n (fun s => hasB sEq (nameL F) s)
  row : Row RPod 16 (fun b => A b ∧ b < w.heap.size) w u 37 v F
theorem FirSt.on {A : Where} {w u u' : World} {mb n : Nat} {v : Value} {F : List PodD} (h : FirSt A w u mb n v F) (hb : Below u.heap.size u u') : FirSt A w u' mb n v F := ⟨h.set.on hb, h.row.on RPod.firm hb⟩
theorem hasB_snoc (V : List ByteArray) (x s : ByteArray) : hasB sEq (V ++ [x]) s = (hasB sEq V s || sEq s x) := by
  have : sEq x s = sEq s x := by unfold sEq; rw [BEq.comm]
  simp [hasB, this]
set_option maxHeartbeats 8000000 in
theorem firsts_calls (a : Option Addr) (n cap : Nat) (A : Where) (L : List PodD) (w : World) (hL : Hid (SlAt RPod 16 296 A w a n cap L)) : Calls Try.prog 30 #[.slice a n cap, .func (.func 31) #[] #[]] w fun e w' => ∃ v, e = .returned v ∧ Row RPod 16 (fun b => A b ∧ b < w.heap.size) w w' 37 v (firstsP L) := by
  have hmm := run_makeSet
  have hlen := hL.out.len (by decide)
  have hn : Hid (L.length = n) := hL.out.1
  have hbb : Hid (n * 296 ≤ 140737488351232) := hL.out.2.2.2.1
  obtain ⟨W1, hW1⟩ : ∃ W1, W1 = w.alloc (.map #[] 0) := ⟨_, rfl⟩
  have H0 : Hid (FirSt A w W1 w.heap.size 0 (.slice none 0 0) (firstsP (L.take 0))) := by
    rw [hW1]
    exact ⟨(SetAt.made w).as (fun s => rfl), (Row.nil _ w _).on RPod.firm ((Below.refl _ _).alloc (Nat.le_refl _) _)⟩
  go_enter Try.func30, Try.ntmps30
  go_wp2_with fail
  rw [← hW1]
  clear hW1
  go_loopw [5, 16] (fun v i wr => ∃ k : Nat, k ≤ n ∧ i = .int .i64 k ∧ Hid (FirSt A w wr w.heap.size k v (firstsP (L.take k)))) (fun _ i _ => n - (intOf i).toNat)
  case atStart => exact ⟨0, Nat.zero_le _, rfl, H0⟩
  case round =>
    obtain ⟨k, hk, rfl, hst⟩ := hrel
    by_cases hlt : k < n
    · have hltz : (k : Int) < (n : Int) := by omega
      have hkl : k < L.length := by rw [hn.out]; exact hlt
      have hbw : Below w.heap.size w wr := hst.out.row.below
      obtain ⟨D, off, rfl, hD, _, cs, hr, hv⟩ := hL.out.get hlt
      have HT : Hid (firstsP (L.take (k + 1)) = fstStep (firstsP (L.take k)) (L.getD k default)) := firsts_succ L hkl
      have HCt : Hid ((firstsP (L.take k)).length ≤ k) := firsts_len L k (by omega)
      generalize L.getD k default = q at hr HT
      generalize firstsP (L.take k) = G at hst HT HCt
      have hrA : RPod (fun b => A b ∧ b < w.heap.size) w cs q := RPod.firm.weak hr (fun b hb h => ⟨h, hb⟩)
      obtain ⟨hsz, v1, v2, v3, v4, v5, v6, v7, v8, v9, v10, v11, v12, v13, v14, v15, rfl⟩ := hr.lit0
      have HV : Hid (wr.rangeAt D (off + k * 16) [.string q.1, v1, v2, v3, v4, v5, v6, v7, v8, v9, v10, v11, v12, v13, v14, v15]) := fun j v hj => (hbw.cell hD).trans (hv j v hj)
      have hi : (Try.prog.info? 37).map (·.size) = some ([.string q.1, v1, v2, v3, v4, v5, v6, v7, v8, v9, v10, v11, v12, v13, v14, v15] : List Value).length := sizePod
      have H1 : Hid ((([.string q.1, v1, v2, v3, v4, v5, v6, v7, v8, v9, v10, v11, v12, v13, v14, v15] : List Value).toArray).all (·.oneCell') = true) := all_oneCell_toArray (RPod.firm.one hr)
      have HA : Hid (RPod (fun b => A b ∧ b < w.heap.size) w [.string q.1, v1, v2, v3, v4, v5, v6, v7, v8, v9, v10, v11, v12, v13, v14, v15] q) := hrA
      clear hr hv hrA
      obtain ⟨wb, hwb⟩ : ∃ wb, wb = (wr.alloc (.cells #[.string ⟨#[]⟩, .int .i64 0, .slice none 0 0, .int .i64 0, .int .i64 0, .int .i64 0, .slice none 0 0, .slice none 0 0, .slice none 0 0, .slice none 0 0, .slice none 0 0, .slice none 0 0, .slice none 0 0, .slice none 0 0, .string ⟨#[]⟩, .string ⟨#[]⟩] 37)).setCells wr.heap.size 0 [.string q.1, v1, v2, v3, v4, v5, v6, v7, v8, v9, v10, v11, v12, v13, v14, v15] := ⟨_, rfl⟩
      have HTH : Hid ((wr.alloc (.cells #[.string ⟨#[]⟩, .int .i64 0, .slice none 0 0, .int .i64 0, .int .i64 0, .int .i64 0, .slice none 0 0, .slice none 0 0, .slice none 0 0, .slice none 0 0, .slice none 0 0, .slice none 0 0, .slice none 0 0, .slice none 0 0, .string ⟨#[]⟩, .string ⟨#[]⟩] 37)).there wr.heap.size 0 16) := (BoxL.new wr 37 [.string ⟨#[]⟩, .int .i64 0, .slice none 0 0, .int .i64 0, .int .i64 0, .int .i64 0, .slice none 0 0, .slice none 0 0, .slice none 0 0, .slice none 0 0, .slice none 0 0, .slice none 0 0, .slice none 0 0, .slice none 0 0, .string ⟨#[]⟩, .string ⟨#[]⟩]).there
      have HRG : Hid (wb.rangeAt wr.heap.size 0 [.string q.1, v1, v2, v3, v4, v5, v6, v7, v8, v9, v10, v11, v12, v13, v14, v15]) := by rw [hwb]; exact World.rangeAt_setCells_same _ _ _ _ HTH.out
      have HBB : Hid (Below wr.heap.size wr wb) := by rw [hwb]; exact below_setCells ((Below.refl _ _).alloc (Nat.le_refl _) _) (Nat.le_refl _)
      have HSZ : Hid (wr.heap.size < wb.heap.size) := World.block_lt_of_cell? wb ⟨wr.heap.size, 0 + 0, none⟩ (HRG.out 0 _ rfl)
      have HWB : Hid (wb = (wr.alloc (.cells #[.string ⟨#[]⟩, .int .i64 0, .slice none 0 0, .int .i64 0, .int .i64 0, .int .i64 0, .slice none 0 0, .slice none 0 0, .slice none 0 0, .slice none 0 0, .slice none 0 0, .slice none 0 0, .slice none 0 0, .slice none 0 0, .string ⟨#[]⟩, .string ⟨#[]⟩] 37)).setCells wr.heap.size 0 (([.string q.1, v1, v2, v3, v4, v5, v6, v7, v8, v9, v10, v11, v12, v13, v14, v15] : List Value).toArray).toList) := hwb
      clear hwb
      have HP : Hid (∀ u, Below wb.heap.size wb u → RPod (fun b => A b ∧ b < w.heap.size) u [.string q.1, v1, v2, v3, v4, v5, v6, v7, v8, v9, v10, v11, v12, v13, v14, v15] q) := fun u hb => RPod.firm.kept HA.out (Kept.below (on2 (on2 hbw HBB.out) hb))
      go_wp2_with (first | (refine wpList_load_mid rfl 37 _ rfl D (off + k * 16) rfl [.string q.1, v1, v2, v3, v4, v5, v6, v7, v8, v9, v10, v11, v12, v13, v14, v15] _ HV.out Try.underlying37 rfl hi ?_) | (refine wpList_store_mid rfl 37 _ _ rfl wr.heap.size 0 (([.string q.1, v1, v2, v3, v4, v5, v6, v7, v8, v9, v10, v11, v12, v13, v14, v15] : List Value).toArray) rfl rfl HTH.out hi H1.out ?_; refine wpl_at HWB.out ?_) | (refine wpList_load_mid rfl 37 _ rfl wr.heap.size 0 rfl [.string q.1, v1, v2, v3, v4, v5, v6, v7, v8, v9, v10, v11, v12, v13, v14, v15] _ HRG.out Try.underlying37 rfl hi ?_))
      refine (podName_calls [.string q.1, v1, v2, v3, v4, v5, v6, v7, v8, v9, v10, v11, v12, v13, v14, v15] q _ wb (HP.out wb (Below.refl _ _))).mono ?_
      rintro e wc ⟨rfl, hbc⟩
      have HSc : Hid (SetAt wc w.heap.size k (fun s => hasB sEq (nameL G) s)) := (hst.out.set.on HBB.out).on hbc
      cases hq : hasB sEq (nameL G) q.1
      · have HSc2 : Hid (∀ u, Below wc.heap.size wc u → SetAt u w.heap.size k (fun s => hasB sEq (nameL G) s)) := fun u hb => HSc.out.on hb
        have HRc : Hid (∀ u, Below wc.heap.size wc u → u.rangeAt wr.heap.size 0 [.string q.1, v1, v2, v3, v4, v5, v6, v7, v8, v9, v10, v11, v12, v13, v14, v15] ∧ wr.heap.size < u.heap.size) := fun u hb => ⟨range_on (range_on HRG.out hbc HSZ.out) hb (Nat.lt_of_lt_of_le HSZ.out hbc.size), Nat.lt_of_lt_of_le (Nat.lt_of_lt_of_le HSZ.out hbc.size) hb.size⟩
        have HQ : Hid (hasB sEq (nameL G) q.1 = false) := hq
        clear hq
        obtain ⟨wd, hwd⟩ : ∃ wd, wd = wc.alloc (.cells #[] 94) := ⟨_, rfl⟩
        have hbd : Below wc.heap.size wc wd := by rw [hwd]; exact (Below.refl _ _).alloc (Nat.le_refl _) _
        have HRd := (HRc.out wd hbd).1
        have HRd2 : Hid (wd.rangeAt wr.heap.size 0 [.string q.1, v1, v2, v3, v4, v5, v6, v7, v8, v9, v10, v11, v12, v13, v14, v15]) := HRd
        clear HRd
        go_wp2_with (first | (at_lookup; refine set_look rfl _ _ 93 rfl Try.underlying93 w.heap.size k _ q.1 hsz rfl HSc.out rfl false HQ.out ?_) | (refine wpl_at hwd ?_; refine wpList_load_mid rfl 37 _ rfl wr.heap.size 0 rfl [.string q.1, v1, v2, v3, v4, v5, v6, v7, v8, v9, v10, v11, v12, v13, v14, v15] _ HRd2.out Try.underlying37 rfl hi ?_))
        rw [← hwd]
        refine (podName_calls [.string q.1, v1, v2, v3, v4, v5, v6, v7, v8, v9, v10, v11, v12, v13, v14, v15] q _ wd (HP.out wd (on2 hbc hbd))).mono ?_
        rintro e we ⟨rfl, hbe⟩
        have hce : Below wc.heap.size wc we := on2 hbd hbe
        have HSe : Hid (SetAt we w.heap.size k (fun s => hasB sEq (nameL G) s)) := HSc2.out we hce
        have hmb : w.heap.size < wr.heap.size := hst.out.set.lt
        have HRF : Hid (∀ wf, we.grownBy wf (some w.heap.size) → wf.rangeAt wr.heap.size 0 [.string q.1, v1, v2, v3, v4, v5, v6, v7, v8, v9, v10, v11, v12, v13, v14, v15]) := fun wf hg => range_grown (HRc.out we hce).1 (HRc.out we hce).2 hg (fun e => by injection e with e; omega)
        have hrw : Row RPod 16 (fun b => A b ∧ b < w.heap.size) w we 37 u5 G := ((hst.out.row.on RPod.firm HBB.out).on RPod.firm hbc).on RPod.firm hce
        have hne : Value.ownBlock u5 ≠ some w.heap.size := hrw.ne_set HSe.out
        have HRW : Hid (∀ wf, we.grownBy wf (some w.heap.size) → Row RPod 16 (fun b => A b ∧ b < w.heap.size) w wf 37 u5 G) := fun wf hg => hrw.grown RPod.firm hg (fun b hb => by injection hb with hb; subst hb; exact ⟨Nat.le_refl _, hne, fun h => Nat.lt_irrefl _ h.2⟩)
        have HR3 : Hid (∀ wf, we.grownBy wf (some w.heap.size) → Row RPod 16 (fun b => A b ∧ b < w.heap.size) w (wf.alloc (.cells #[.string q.1, v1, v2, v3, v4, v5, v6, v7, v8, v9, v10, v11, v12, v13, v14, v15] 37)) 37 u5 G) := fun wf hg => (HRW.out wf hg).on RPod.firm ((Below.refl _ _).alloc (Nat.le_refl _) _)
        have HCh : Hid (∀ wf, we.grownBy wf (some w.heap.size) → Chunks RPod 16 (fun b => (fun b => A b ∧ b < w.heap.size) b ∧ Value.ownBlock u5 ≠ some b) (wf.alloc (.cells #[.string q.1, v1, v2, v3, v4, v5, v6, v7, v8, v9, v10, v11, v12, v13, v14, v15] 37)) [.string q.1, v1, v2, v3, v4, v5, v6, v7, v8, v9, v10, v11, v12, v13, v14, v15] [q]) := fun wf hg => by
          have h3 := HR3.out wf hg
          exact chunk_one RPod.firm (RPod.firm.weak (RPod.firm.kept HA.out (Kept.below h3.below)) (fun b _ hb => ⟨hb, fun e => by have h1 := (h3.lt e).1; have h2 := hb.2; omega⟩))
        have HX : Hid (∀ wf : World, ∀ j v, ([.string q.1, v1, v2, v3, v4, v5, v6, v7, v8, v9, v10, v11, v12, v13, v14, v15] : List Value)[j]? = some v → (wf.alloc (.cells #[.string q.1, v1, v2, v3, v4, v5, v6, v7, v8, v9, v10, v11, v12, v13, v14, v15] 37)).cell? ((⟨wf.heap.size, 0, none⟩ : Addr).add j) = some v) := fun wf => one_cells wf _ 37
        have HO : Hid (∀ v ∈ [.string q.1, v1, v2, v3, v4, v5, v6, v7, v8, v9, v10, v11, v12, v13, v14, v15], v.oneCell' = true) := RPod.firm.one HA.out
        have HLb : Hid ((G.length + [q].length) * 296 ≤ 140737488355328) := by have h1 := bytes_le hbb.out hlt; have h2 := HCt.out; rw [Hid, List.length_singleton]; omega
        have hkn : k < 140737488355328 := by omega
        have HE : Hid (∀ (wf : World) (vn : Value) (w4 : World), SetAt wf w.heap.size (k + 1) (fun t => hasB sEq (nameL G) t || sEq t q.1) → Row RPod 16 (fun b => A b ∧ b < w.heap.size) w w4 37 vn (G ++ [q]) → (wf.alloc (.cells #[.string q.1, v1, v2, v3, v4, v5, v6, v7, v8, v9, v10, v11, v12, v13, v14, v15] 37)).grownBy w4 (Value.ownBlock u5) → FirSt A w w4 w.heap.size (k + 1) vn (firstsP (L.take (k + 1)))) := fun wf vn w4 hs hr hg => by
          have e1 : firstsP (L.take (k + 1)) = G ++ [q] := by rw [HT.out]; unfold fstStep; rw [HQ.out]; rfl
          rw [e1]
          exact ⟨((hs.on ((Below.refl _ _).alloc (Nat.le_refl _) _)).grown hg hne).as (fun s => by rw [show nameL (G ++ [q]) = nameL G ++ [q.1] by simp [nameL], hasB_snoc]), hr⟩
        clear hrw hne HRc HSc2 HRW hce hbe hbd hwd HRd2 HV HTH HWB H1
        go_wp2_with (first | (at_mapUpdate; go_must (refine set_put rfl _ _ _ 93 rfl Try.underlying93 w.heap.size k _ q.1 hsz hkn rfl HSe.out rfl rfl ?_); intro wf hsf hgf) | (refine wpList_load_mid rfl 37 _ rfl wr.heap.size 0 rfl [.string q.1, v1, v2, v3, v4, v5, v6, v7, v8, v9, v10, v11, v12, v13, v14, v15] _ (HRF.out _ hgf) Try.underlying37 rfl hi ?_) | (at_builtin; go_must (refine row_append RPod.firm (A := (fun b => A b ∧ b < w.heap.size)) (w0 := w) rfl _ _ 28 37 rfl _ 296 infoPod Try.underlying28 rfl (by decide) (by decide) u5 G rfl (HR3.out _ hgf) ⟨wf.heap.size, 0, none⟩ 1 1 _ [q] rfl rfl (HCh.out _ hgf) (HX.out _) HO.out HLb.out ?_); intro vn w4 hrow4 hg4))
        have HZ := HE.out wf vn w4 hsf hrow4 hg4
        go_roundw
        case rel => exact ⟨k + 1, by omega, by go_num, HZ⟩
        case measure => simp [intOf]; omega
      · have HZ : Hid (FirSt A w (wc.alloc (.cells #[] 94)) w.heap.size (k + 1) u5 (firstsP (L.take (k + 1)))) := by
          have e1 : firstsP (L.take (k + 1)) = G := by rw [HT.out]; unfold fstStep; rw [hq]; rfl
          rw [Hid, e1]
          have h1 := ((hst.out.on HBB.out).on hbc).on ((Below.refl wc.heap.size wc).alloc (Nat.le_refl _) (.cells #[] 94))
          exact ⟨h1.set.mono (Nat.le_succ _), h1.row⟩
        clear HV HTH HWB H1 HT
        go_wp2_with (at_lookup; refine set_look rfl _ _ 93 rfl Try.underlying93 w.heap.size k _ q.1 hsz rfl HSc.out rfl true hq ?_)
        go_roundw
        case rel => exact ⟨k + 1, by omega, by go_num, HZ⟩
        case measure => simp [intOf]; omega
    · have hk9 : L.take k = L := List.take_of_length_le (by rw [hn.out]; omega)
      rw [hk9] at hst
      have hlz : ¬ ((k : Int) < (n : Int)) := by omega
      go_wp2_with fail
      go_ret
      exact ⟨_, rfl, hst.out.row⟩
end Go.Proofs.Ytddeilhelkfpoaa
namespace Go.Proofs.Ytddeilhelkfpoaa
open Go.RowKit
set_option linter.unusedSimpArgs false

theorem compact_up {α : Type} [DecidableEq α] [Inhabited α] {lt : α → α → Prop} (tr : ∀ a b c, lt a b → lt b c → lt a c) (d : Array α) (hs : ∀ i j, i < j → j < d.size → d[i]! = d[j]! ∨ lt d[i]! d[j]!) :
    ∀ m, m ≤ d.size → (Lib.compactUpTo d m).Pairwise lt ∧ ∀ x, x ∈ Lib.compactUpTo d m ↔ ∃ j, j < m ∧ d[j]! = x := by
  intro m
  induction m with
  | zero => intro _; exact ⟨by simp [Lib.compactUpTo], fun x => by simp [Lib.compactUpTo]⟩
  | succ m ih =>
    intro hm
    obtain ⟨h1, h2⟩ := ih (by omega)
    rw [Lib.compactUpTo_succ]
    cases hk : Lib.keeps d m with
    | false =>
      have hd : 0 < m ∧ d[m]! = d[m - 1]! := by
        simp only [Lib.keeps, decide_eq_false_iff_not] at hk
        refine ⟨by omega, ?_⟩
        by_cases e : d[m]! = d[m - 1]!
        · exact e
        · exact absurd (Or.inr e) hk
      simp only [Bool.false_eq_true, if_false, List.append_nil]
      refine ⟨h1, fun x => ?_⟩
      rw [h2]
      constructor
      · rintro ⟨j, hj, e⟩; exact ⟨j, by omega, e⟩
      · rintro ⟨j, hj, e⟩
        by_cases e1 : j = m
        · subst e1; exact ⟨j - 1, by omega, hd.2 ▸ e⟩
        · exact ⟨j, by omega, e⟩
    | true =>
      have hd : m = 0 ∨ d[m]! ≠ d[m - 1]! := by simpa [Lib.keeps] using hk
      simp only [if_true]
      refine ⟨?_, fun x => ?_⟩
      · rw [List.pairwise_append]
        refine ⟨h1, by simp, fun x hx y hy => ?_⟩
        simp only [List.mem_singleton] at hy
        subst hy
        obtain ⟨j, hj, rfl⟩ := (h2 x).1 hx
        rcases hd with hd | hd
        · omega
        have hlast : lt d[m - 1]! d[m]! := by
          rcases hs (m - 1) m (by omega) (by omega) with h | h
          · exact absurd h.symm hd
          · exact h
        by_cases e : j = m - 1
        · subst e; exact hlast
        · rcases hs j (m - 1) (by omega) (by omega) with h | h
          · rw [h]; exact hlast
          · exact tr _ _ _ h hlast
      · rw [List.mem_append, h2, List.mem_singleton]
        constructor
        · rintro (⟨j, hj, e⟩ | e)
          · exact ⟨j, by omega, e⟩
          · exact ⟨m, by omega, e.symm⟩
        · rintro ⟨j, hj, e⟩
          by_cases e1 : j = m
          · subst e1; exact .inr e.symm
          · exact .inl ⟨j, by omega, e⟩
theorem compact_list {α : Type} [DecidableEq α] [Inhabited α] {lt : α → α → Prop} (tr : ∀ a b c, lt a b → lt b c → lt a c) (zs : List α) (hs : zs.Pairwise (fun a b => a = b ∨ lt a b)) :
    (Lib.compact zs).Pairwise lt ∧ ∀ x, x ∈ Lib.compact zs ↔ x ∈ zs := by
  have := compact_up tr zs.toArray (fun i j hij hj => by
    have hj' : j < zs.length := by simpa using hj
    have h := List.pairwise_iff_getElem.1 hs i j (by omega) hj' hij
    simpa [show i < zs.length by omega, hj'] using h) zs.length (by simp)
  refine ⟨this.1, fun x => ?_⟩
  rw [show Lib.compact zs = Lib.compactUpTo zs.toArray zs.length from rfl, this.2]
  constructor
  · rintro ⟨j, hj, rfl⟩
    simp [hj]
  · intro h
    obtain ⟨j, hj, rfl⟩ := List.getElem_of_mem h
    exact ⟨j, hj, by simp [hj]⟩
theorem sortI (zs : List Int) : Lib.compact (zs.mergeSort fun x y => decide (x ≤ y)) = sortB iLt iEq zs := by
  have hs : (zs.mergeSort fun x y => decide (x ≤ y)).Pairwise (fun a b => a = b ∨ a < b) := by
    refine (List.pairwise_mergeSort (le := fun x y : Int => decide (x ≤ y)) ?_ ?_ zs).imp ?_
    · intro a b c; simp only [decide_eq_true_eq]; omega
    · intro a b; simp only [Bool.or_eq_true, decide_eq_true_eq]; omega
    · intro a b; simp only [decide_eq_true_eq]; omega
  obtain ⟨h1, h2⟩ := compact_list (lt := fun a b : Int => a < b) (by intro a b c; omega) _ hs
  refine UpB.one ordI _ _ (h1.imp (by intro a b; simp [iLt])) (UpB.sort ordI zs) (fun x => ?_)
  rw [h2, List.mem_mergeSort, mem_sortB (fun a b h => (iEq_iff a b).1 h)]
theorem bl_lt : ∀ (x y : List UInt8), Op.bytesLess x y = true ↔ x < y
  | [], [] => by simp [Op.bytesLess]
  | _ :: _, [] => by simp [Op.bytesLess]
  | [], _ :: _ => by simp [Op.bytesLess]
  | a :: x, b :: y => by
    have ih := bl_lt x y
    rw [Op.bytesLess, List.cons_lt_cons_iff, ← ih]
    simp
theorem ordL : OrdB Op.bytesLess (fun a b : List UInt8 => a == b) := ⟨fun a b => by simp, bl_irr, bl_trans, fun a b h => by
  have := bl_tot a b h
  cases h1 : Op.bytesLess a b
  · right; rw [this, h1]; rfl
  · left; rfl⟩
theorem le_or (a b : List UInt8) : a ≤ b ↔ a = b ∨ a < b := by
  rw [← bl_lt]
  constructor
  · intro h
    by_cases e : a = b
    · exact .inl e
    · rcases ordL.tot a b e with h1 | h1
      · exact .inr h1
      · exact absurd ((bl_lt b a).1 h1) (List.not_lt.2 h)
  · rintro (rfl | h)
    · exact List.le_refl a
    · refine List.not_lt.1 (fun k => ?_)
      have k1 := (bl_lt b a).2 k
      have := bl_trans a b a h k1
      rw [bl_irr] at this
      cases this
theorem sortS (L : List ByteArray) : Lib.compact ((L.map ByteArray.toList).mergeSort fun x y => decide (x ≤ y)) = (sortB sLt sEq L).map ByteArray.toList := by
  have hs : ((L.map ByteArray.toList).mergeSort fun x y => decide (x ≤ y)).Pairwise (fun a b => a = b ∨ a < b) := by
    refine (List.pairwise_mergeSort (le := fun x y : List UInt8 => decide (x ≤ y)) ?_ ?_ _).imp ?_
    · intro a b c; simp only [decide_eq_true_eq]; exact List.le_trans
    · intro a b; simp only [Bool.or_eq_true, decide_eq_true_eq]; exact List.le_total a b
    · intro a b; simp only [decide_eq_true_eq]; exact (le_or a b).1
  obtain ⟨h1, h2⟩ := compact_list (lt := fun a b : List UInt8 => a < b) (fun a b c h k => (bl_lt a c).1 (bl_trans a b c ((bl_lt a b).2 h) ((bl_lt b c).2 k))) _ hs
  refine UpB.one ordL _ _ (h1.imp (fun {a b} h => (bl_lt a b).2 h)) ?_ (fun x => ?_)
  · exact List.pairwise_map.2 (UpB.sort ordS L)
  · rw [h2, List.mem_mergeSort, List.mem_map, List.mem_map]
    constructor
    · rintro ⟨a, ha, e⟩; exact ⟨a, (mem_sorted a L).2 ha, e⟩
    · rintro ⟨a, ha, e⟩; exact ⟨a, (mem_sorted a L).1 ha, e⟩
end Go.Proofs.Ytddeilhelkfpoaa
namespace Go.Proofs.Ytddeilhelkfpoaa
open Go.RowKit
set_option linter.unusedSimpArgs false
set_option maxRecDepth 100000

/-- Only the blocks that F names may have turned. -/
def Turned (F : Where) (w w' : World) : Prop := Kept (fun b => ¬ F b) w w' ∧ Below 0 w w'
theorem Turned.refl (F : Where) (w : World) : Turned F w w := ⟨Kept.refl _ _, Below.refl _ _⟩
theorem Turned.trans {F : Where} {u v w : World} (h : Turned F u v) (k : Turned F v w) : Turned F u w := ⟨h.1.trans k.1, h.2.trans k.2⟩
theorem Turned.of_below {F : Where} {w w' : World} (h : Below w.heap.size w w') : Turned F w w' := ⟨Kept.below h, h.mono (Nat.zero_le _)⟩
theorem Turned.set {F : Where} (w : World) {p : Addr} (h : F p.block) (v : Value) : Turned F w (w.setCell p v) := ⟨Kept.set (fun k => k h) v, (Below.refl _ _).setCell (Nat.zero_le _) v⟩
theorem Turned.below {F : Where} {w w' : World} (h : Turned F w w') {B : Nat} (hF : ∀ b, F b → B ≤ b) (hB : B ≤ w.heap.size) : Below B w w' :=
  ⟨h.2.os, h.2.tape, h.2.output, h.2.size, fun k hk => h.1.2 k (fun hf => absurd (hF k hf) (by omega)) (by omega)⟩
/-- A slice whose cells may be written. -/
def Thr (u : World) (a : Option Addr) (n : Nat) : Prop := ∀ B off, a = some ⟨B, off, none⟩ → u.there B off n
theorem there_set {u : World} {b o n : Nat} (h : u.there b o n) (p : Nat) (q : Nat) (v : Value) : (u.setCell ⟨p, q, none⟩ v).there b o n := World.there_setCells h p q [v]
theorem Thr.set {u : World} {a : Option Addr} {n : Nat} (h : Thr u a n) (p q : Nat) (v : Value) : Thr (u.setCell ⟨p, q, none⟩ v) a n := fun B off e => there_set (h B off e) p q v
theorem Thr.on {u u' : World} {a : Option Addr} {n : Nat} (h : Thr u a n) (hb : Below u.heap.size u u') : Thr u' a n := fun B off e j hj => by
  have h1 := h B off e j hj
  obtain ⟨v, hv⟩ := Option.isSome_iff_exists.1 h1.1
  have hB : B < u.heap.size := World.block_lt_of_cell? u ⟨B, off + j, none⟩ hv
  rw [hb.cell (p := ⟨B, off + j, none⟩) hB, hb.frozen (p := ⟨B, off + j, none⟩) hB]
  exact h1
theorem Thr.kept {A : Where} {u u' : World} {a : Option Addr} {n : Nat} (h : Thr u a n) (hk : Kept A u u') (hA : ∀ B off, a = some ⟨B, off, none⟩ → A B) : Thr u' a n := fun B off e j hj => by
  have h1 := h B off e j hj
  obtain ⟨v, hv⟩ := Option.isSome_iff_exists.1 h1.1
  have hB : B < u.heap.size := World.block_lt_of_cell? u ⟨B, off + j, none⟩ hv
  rw [hk.cell (p := ⟨B, off + j, none⟩) (hA B off e) hB, World.frozen?_of_block (w := u) (hk.2 B (hA B off e) hB)]
  exact h1
theorem Row.thr {α : Type} [Inhabited α] {R : Rep α} {A : Where} {w0 u : World} {e : TypeId} {a : Option Addr} {n c : Nat} {L : List α} (h : Row R 1 A w0 u e (.slice a n c) L) : Thr u a n := by
  obtain ⟨xs, h1, _⟩ := h
  intro B off ea j hj
  rcases h1.2.2 with ⟨e1, _⟩ | ⟨g, cap, cur, e1, _, hg, hnc, _, hcs, _⟩
  · injection e1 with e1 e2; subst e2; omega
  · injection e1 with e1 e2 e3
    subst e2 e3
    rw [e1] at ea
    injection ea with ea
    injection ea with ea eo
    subst ea eo
    have hl : j < cur.size := by rw [hcs]; omega
    simp [World.cell?, World.frozen?, hg, hl]
set_option maxHeartbeats 4000000 in
theorem spoil_calls (cs : List Value) (A F : Where) (x : InfoD) (w : World) (h : Hid (InfoAt A F w cs x)) (hF : ∀ v ∈ cs.drop 9, ∀ a n c, v = .slice a n c → Thr w a n) : Calls Try.prog 16 #[.agg cs.toArray] w fun e w' => e = .returned (.tuple #[]) ∧ Turned F w w' := by
  obtain ⟨⟨nn, nl, nt, no, ⟨ga, gb, gc⟩, np, nd⟩, nms, ⟨ua, ub, uc⟩, pts, dks⟩ := x
  obtain ⟨c, d, rfl, hc, hd⟩ := h.out
  obtain ⟨⟨a1, n1, m1⟩, ⟨a2, n2, m2⟩, rfl, _⟩ := hc.out
  obtain ⟨d1, d2, rfl, ⟨a9, n9, m9, rfl, s9⟩, ⟨d3, d4, rfl, hd3, ⟨d5, d6, rfl, ⟨a13, n13, m13, rfl, s13⟩, ⟨a14, n14, m14, rfl, s14⟩⟩⟩⟩ := hd
  have e3 := RRes.out hd3
  subst e3
  simp only at s9 s13 s14 hF ⊢
  have t9 : Hid (Thr w a9 n9) := hF (.slice a9 n9 m9) (by simp) _ _ _ rfl
  have t13 : Hid (Thr w a13 n13) := hF (.slice a13 n13 m13) (by simp) _ _ _ rfl
  have t14 : Hid (Thr w a14 n14) := hF (.slice a14 n14 m14) (by simp) _ _ _ rfl
  have S9 : Hid (SlAt RStr 1 16 F w a9 n9 m9 nms) := s9
  have S13 : Hid (SlAt RInt 1 8 F w a13 n13 m13 pts) := s13
  have S14 : Hid (SlAt RStr 1 16 F w a14 n14 m14 dks) := s14
  have hl9 := s9.len (by decide)
  have hl13 := s13.len (by decide)
  have hl14 := s14.len (by decide)
  clear h hF hc hd3 s9 s13 s14
  obtain ⟨W1, hW1⟩ : ∃ W1, W1 = w.alloc (.cells #[.string nn, .slice a1 n1 m1, .slice a2 n2 m2, .bool no, .int .i64 ga, .int .i64 gb, .int .i64 gc, .int .i64 np, .int .i64 nd, .slice a9 n9 m9, .int .i64 ua, .int .i64 ub, .int .i64 uc, .slice a13 n13 m13, .slice a14 n14 m14] 41) := ⟨_, rfl⟩
  have hbx : BoxL W1 w.heap.size [.string nn, .slice a1 n1 m1, .slice a2 n2 m2, .bool no, .int .i64 ga, .int .i64 gb, .int .i64 gc, .int .i64 np, .int .i64 nd, .slice a9 n9 m9, .int .i64 ua, .int .i64 ub, .int .i64 uc, .slice a13 n13 m13, .slice a14 n14 m14] := by rw [hW1]; exact BoxL.new w 41 [.string nn, .slice a1 n1 m1, .slice a2 n2 m2, .bool no, .int .i64 ga, .int .i64 gb, .int .i64 gc, .int .i64 np, .int .i64 nd, .slice a9 n9 m9, .int .i64 ua, .int .i64 ub, .int .i64 uc, .slice a13 n13 m13, .slice a14 n14 m14]
  have hb1 : Below w.heap.size w W1 := by rw [hW1]; go_grown
  have HI0 : Hid (Turned F w W1 ∧ BoxL W1 w.heap.size [.string nn, .slice a1 n1 m1, .slice a2 n2 m2, .bool no, .int .i64 ga, .int .i64 gb, .int .i64 gc, .int .i64 np, .int .i64 nd, .slice a9 n9 m9, .int .i64 ua, .int .i64 ub, .int .i64 uc, .slice a13 n13 m13, .slice a14 n14 m14] ∧ Thr W1 a9 n9 ∧ Thr W1 a13 n13 ∧ Thr W1 a14 n14) := ⟨Turned.of_below hb1, hbx, t9.out.on hb1, t13.out.on hb1, t14.out.on hb1⟩
  clear hbx hb1
  go_enter Try.func16, Try.ntmps16
  go_wp2_with fail
  rw [← hW1]
  clear hW1
  go_loopw [2] (fun i wr => ∃ k : Nat, k ≤ n9 ∧ i = .int .i64 k ∧ Hid (Turned F w wr ∧ BoxL wr w.heap.size [.string nn, .slice a1 n1 m1, .slice a2 n2 m2, .bool no, .int .i64 ga, .int .i64 gb, .int .i64 gc, .int .i64 np, .int .i64 nd, .slice a9 n9 m9, .int .i64 ua, .int .i64 ub, .int .i64 uc, .slice a13 n13 m13, .slice a14 n14 m14] ∧ Thr wr a9 n9 ∧ Thr wr a13 n13 ∧ Thr wr a14 n14)) (fun i _ => n9 - (intOf i).toNat)
  case atStart => exact ⟨0, Nat.zero_le _, rfl, HI0⟩
  case round =>
    obtain ⟨k, hk, rfl, hI⟩ := hrel
    obtain ⟨c9, _⟩ := hI.out.2.1.2 9 _ rfl
    by_cases hlt : k < n9
    · have hltz : (k : Int) < (n9 : Int) := by omega
      obtain ⟨B, off, rfl, hB, hFB, _⟩ := S9.out.get hlt
      have ht := hI.out.2.2.1 B off rfl k hlt
      obtain ⟨vo, hvo⟩ := Option.isSome_iff_exists.1 ht.1
      have hfo := ht.2
      have hne : B ≠ w.heap.size := by omega
      have hI2 : Hid (Turned F w (wr.setCell ⟨B, off + k, none⟩ (.string ⟨#[115, 112, 111, 105, 108, 116]⟩)) ∧ BoxL (wr.setCell ⟨B, off + k, none⟩ (.string ⟨#[115, 112, 111, 105, 108, 116]⟩)) w.heap.size [.string nn, .slice a1 n1 m1, .slice a2 n2 m2, .bool no, .int .i64 ga, .int .i64 gb, .int .i64 gc, .int .i64 np, .int .i64 nd, .slice (some ⟨B, off, none⟩) n9 m9, .int .i64 ua, .int .i64 ub, .int .i64 uc, .slice a13 n13 m13, .slice a14 n14 m14] ∧ Thr (wr.setCell ⟨B, off + k, none⟩ (.string ⟨#[115, 112, 111, 105, 108, 116]⟩)) (some ⟨B, off, none⟩) n9 ∧ Thr (wr.setCell ⟨B, off + k, none⟩ (.string ⟨#[115, 112, 111, 105, 108, 116]⟩)) a13 n13 ∧ Thr (wr.setCell ⟨B, off + k, none⟩ (.string ⟨#[115, 112, 111, 105, 108, 116]⟩)) a14 n14) := ⟨hI.out.1.trans (Turned.set _ hFB _), hI.out.2.1.other (by simpa using hne) _, hI.out.2.2.1.set _ _ _, hI.out.2.2.2.1.set _ _ _, hI.out.2.2.2.2.set _ _ _⟩
      clear ht
      go_wp2_with fail
      go_roundw
      case rel => exact ⟨k + 1, by omega, by go_num, hI2⟩
      case measure => simp [intOf]; omega
    · have hlz : ¬ ((k : Int) < (n9 : Int)) := by omega
      go_wp2_with fail
      clear c9
      go_loopw [3] (fun i wr => ∃ k : Nat, k ≤ n13 ∧ i = .int .i64 k ∧ Hid (Turned F w wr ∧ BoxL wr w.heap.size [.string nn, .slice a1 n1 m1, .slice a2 n2 m2, .bool no, .int .i64 ga, .int .i64 gb, .int .i64 gc, .int .i64 np, .int .i64 nd, .slice a9 n9 m9, .int .i64 ua, .int .i64 ub, .int .i64 uc, .slice a13 n13 m13, .slice a14 n14 m14] ∧ Thr wr a9 n9 ∧ Thr wr a13 n13 ∧ Thr wr a14 n14)) (fun i _ => n13 - (intOf i).toNat)
      case atStart => exact ⟨0, Nat.zero_le _, rfl, hI⟩
      case round =>
        obtain ⟨k, hk, rfl, hI⟩ := hrel
        obtain ⟨c13, _⟩ := hI.out.2.1.2 13 _ rfl
        by_cases hlt : k < n13
        · have hltz : (k : Int) < (n13 : Int) := by omega
          obtain ⟨B, off, rfl, hB, hFB, _⟩ := S13.out.get hlt
          have ht := hI.out.2.2.2.1 B off rfl k hlt
          obtain ⟨vo, hvo⟩ := Option.isSome_iff_exists.1 ht.1
          have hfo := ht.2
          have hne : B ≠ w.heap.size := by omega
          have hI2 : Hid (Turned F w (wr.setCell ⟨B, off + k, none⟩ (.int .i64 (-7))) ∧ BoxL (wr.setCell ⟨B, off + k, none⟩ (.int .i64 (-7))) w.heap.size [.string nn, .slice a1 n1 m1, .slice a2 n2 m2, .bool no, .int .i64 ga, .int .i64 gb, .int .i64 gc, .int .i64 np, .int .i64 nd, .slice a9 n9 m9, .int .i64 ua, .int .i64 ub, .int .i64 uc, .slice (some ⟨B, off, none⟩) n13 m13, .slice a14 n14 m14] ∧ Thr (wr.setCell ⟨B, off + k, none⟩ (.int .i64 (-7))) a9 n9 ∧ Thr (wr.setCell ⟨B, off + k, none⟩ (.int .i64 (-7))) (some ⟨B, off, none⟩) n13 ∧ Thr (wr.setCell ⟨B, off + k, none⟩ (.int .i64 (-7))) a14 n14) := ⟨hI.out.1.trans (Turned.set _ hFB _), hI.out.2.1.other (by simpa using hne) _, hI.out.2.2.1.set _ _ _, hI.out.2.2.2.1.set _ _ _, hI.out.2.2.2.2.set _ _ _⟩
          clear ht
          go_wp2_with fail
          go_roundw
          case rel => exact ⟨k + 1, by omega, by go_num, hI2⟩
          case measure => simp [intOf]; omega
        · have hlz : ¬ ((k : Int) < (n13 : Int)) := by omega
          go_wp2_with fail
          clear c13
          go_loopw [4] (fun i wr => ∃ k : Nat, k ≤ n14 ∧ i = .int .i64 k ∧ Hid (Turned F w wr ∧ BoxL wr w.heap.size [.string nn, .slice a1 n1 m1, .slice a2 n2 m2, .bool no, .int .i64 ga, .int .i64 gb, .int .i64 gc, .int .i64 np, .int .i64 nd, .slice a9 n9 m9, .int .i64 ua, .int .i64 ub, .int .i64 uc, .slice a13 n13 m13, .slice a14 n14 m14] ∧ Thr wr a9 n9 ∧ Thr wr a13 n13 ∧ Thr wr a14 n14)) (fun i _ => n14 - (intOf i).toNat)
          case atStart => exact ⟨0, Nat.zero_le _, rfl, hI⟩
          case round =>
            obtain ⟨k, hk, rfl, hI⟩ := hrel
            obtain ⟨c14, _⟩ := hI.out.2.1.2 14 _ rfl
            by_cases hlt : k < n14
            · have hltz : (k : Int) < (n14 : Int) := by omega
              obtain ⟨B, off, rfl, hB, hFB, _⟩ := S14.out.get hlt
              have ht := hI.out.2.2.2.2 B off rfl k hlt
              obtain ⟨vo, hvo⟩ := Option.isSome_iff_exists.1 ht.1
              have hfo := ht.2
              have hne : B ≠ w.heap.size := by omega
              have hI2 : Hid (Turned F w (wr.setCell ⟨B, off + k, none⟩ (.string ⟨#[115, 112, 111, 105, 108, 116]⟩)) ∧ BoxL (wr.setCell ⟨B, off + k, none⟩ (.string ⟨#[115, 112, 111, 105, 108, 116]⟩)) w.heap.size [.string nn, .slice a1 n1 m1, .slice a2 n2 m2, .bool no, .int .i64 ga, .int .i64 gb, .int .i64 gc, .int .i64 np, .int .i64 nd, .slice a9 n9 m9, .int .i64 ua, .int .i64 ub, .int .i64 uc, .slice a13 n13 m13, .slice (some ⟨B, off, none⟩) n14 m14] ∧ Thr (wr.setCell ⟨B, off + k, none⟩ (.string ⟨#[115, 112, 111, 105, 108, 116]⟩)) a9 n9 ∧ Thr (wr.setCell ⟨B, off + k, none⟩ (.string ⟨#[115, 112, 111, 105, 108, 116]⟩)) a13 n13 ∧ Thr (wr.setCell ⟨B, off + k, none⟩ (.string ⟨#[115, 112, 111, 105, 108, 116]⟩)) (some ⟨B, off, none⟩) n14) := ⟨hI.out.1.trans (Turned.set _ hFB _), hI.out.2.1.other (by simpa using hne) _, hI.out.2.2.1.set _ _ _, hI.out.2.2.2.1.set _ _ _, hI.out.2.2.2.2.set _ _ _⟩
              clear ht
              go_wp2_with fail
              go_roundw
              case rel => exact ⟨k + 1, by omega, by go_num, hI2⟩
              case measure => simp [intOf]; omega
            · have hlz : ¬ ((k : Int) < (n14 : Int)) := by omega
              go_wp2_with fail
              go_end0
              exact ⟨rfl, hI.out.1⟩
end Go.Proofs.Ytddeilhelkfpoaa
namespace Go.Proofs.Ytddeilhelkfpoaa
open Go.RowKit Go.Sort Go.Lib
set_option linter.unusedSimpArgs false

section
variable {α : Type} [Inhabited α] {R : Rep α} {k : Nat}
/-- Nothing, in a piece without room; or a row of one's own. -/
def OutR (R : Rep α) (k : Nat) (w0 u : World) (e : TypeId) (v : Value) (L : List α) : Prop :=
  (L = [] ∧ (∃ b, v = .slice b 0 0) ∧ Below w0.heap.size w0 u) ∨ Row R k (fun _ => False) w0 u e v L
theorem OutR.below {w0 u : World} {e : TypeId} {v : Value} {L : List α} (h : OutR R k w0 u e v L) : Below w0.heap.size w0 u := by
  rcases h with ⟨_, _, h⟩ | h
  · exact h
  · exact h.below
theorem OutR.nil (w : World) (e : TypeId) (b : Option Addr) : OutR R k w w e (.slice b 0 0) ([] : List α) := .inl ⟨rfl, ⟨b, rfl⟩, Below.refl _ _⟩
theorem app_out_wp (hR : Firm R k) (hF : Flat R) {o : Oper} {a : Act} {K : Act → World → Prop} {Q : Exit → Act → World → Prop} {A : Where} {w0 u : World} (s x : Operand) (t e : TypeId)
    (ho : o.op = .call { callee := .builtin .append, args := #[s, x], argTypes := #[t, t] }) (z : Value) (bytes : Nat) (hinfo : (Try.prog.info? e).map (fun i => (i.zero, i.size, i.bytes)) = some (some z, k, bytes)) (ht : Try.prog.underlying t = some (.slice e)) (hzs : z.cells.size = k) (hk0 : 0 < k) (hby : 1 ≤ bytes)
    (v : Value) (L : List α) (hs : a.eval s = v) (hrow : OutR R k w0 u e v L)
    (ad : Option Addr) (m c : Nat) (N : List α) (hx : a.eval x = .slice ad m c) (hN : Src R k A u ad m N) (hb : (L.length + N.length) * bytes ≤ 140737488355328)
    (h : ∀ v' u', OutR R k w0 u' e v' (L ++ N) → K (a.put o.dst v') u') : o.wp Try.prog a u K Q := by
  rcases hrow with ⟨rfl, ⟨b, rfl⟩, hbel⟩ | hrow
  · obtain ⟨hm, hN⟩ := hN
    obtain ⟨i0, hi, hz0, hz1, hz2⟩ := info_parts hinfo
    by_cases hN0 : N = []
    · subst hN0
      obtain rfl : m = 0 := by simpa using hm.symm
      have hr : ∀ ty, (Builtin.append_ #[t, t] ty #[.slice b 0 0, .slice ad 0 c]).run Try.prog u = .ok (.slice b 0 0) u := by
        intro ty
        cases ad <;> cases b <;> simp [Builtin.append_, run_underlying ht, sizeOf, typeInfo, hi, Builtin.lenOf, Builtin.firstCells, loadCells, loadCellsFrom, storeCells]
      unfold Oper.wp execOp
      simp only [ho, resolve, invoke, builtin, Sem.run_bind, Sem.run_pure, Result.andThen_ok, List.map_toArray, List.map_cons, List.map_nil, hs, hx, hr]
      exact h _ _ (.inl ⟨rfl, ⟨b, rfl⟩, hbel⟩)
    · rcases hN with ⟨_, e0⟩ | ⟨ad, news, rfl, hN, hcells, h1⟩
      · exact absurd e0 hN0
      · subst hm
        have hpos : 0 < N.length := List.length_pos_iff.2 hN0
        have hmul : N.length * 1 ≤ N.length * bytes := Nat.mul_le_mul_left _ hby
        simp only [List.length_nil, Nat.zero_add] at hb
        obtain ⟨v', u', hr, h2, h3, h4, h5⟩ := run_append_own_at (P := Try.prog) u w0.heap.size t o.type e i0 z k bytes ht hi hz0 hz1 hz2 hzs hk0 (.slice none 0 0) 0 [] ⟨by simp, .inl ⟨rfl, rfl⟩⟩ ad N.length c news hN.1 hcells h1 (by unfold maxLen; omega) (by simpa using hb) hbel.size
        have hr2 : (Builtin.append_ #[t, t] o.type #[.slice b 0 0, .slice (some ad) N.length c]).run Try.prog u = .ok v' u' := by
          cases b with
          | none => exact hr
          | some bd =>
            have e1 := run_append_nil (P := Try.prog) u t o.type e i0 z ht hi hz0 ad N.length c news (by rw [hz1]; exact hN.1) hcells (by omega) (by omega) (by rw [hz2]; omega)
            have e2 := run_append_grow (P := Try.prog) u t o.type e i0 z ht hi hz0 bd 0 0 [] (by simp) (by simp) ad N.length c news (by rw [hz1]; exact hN.1) hcells (by omega) (by omega) (growslice_fits (by omega) (by rw [hz2]; simpa using hb))
            rw [← hr, e1, e2]
            simp
        unfold Oper.wp execOp
        simp only [ho, resolve, invoke, builtin, Sem.run_bind, Sem.run_pure, Result.andThen_ok, List.map_toArray, List.map_cons, List.map_nil, hs, hx, hr2]
        refine h v' u' (.inr ⟨news, ⟨Below.grown hbel h3 hbel.size (fun j hj => by cases hj), by simpa using h2⟩, ?_⟩)
        exact hN.flat hF
  · refine row_appendP_wp hR (A := fun _ => False) (w0 := w0) s x t e ho z bytes hinfo ht hzs hk0 hby v L hs hrow ad m c N hx (hN.flat hF) hb (fun v' u' h1 _ _ => h v' u' (.inr h1))
theorem app_out (hR : Firm R k) (hF : Flat R) {ops : Array Oper} {rest : List Oper} {o : Oper} {a : Act} {Q : Exit → Act → World → Prop} {A : Where} {w0 u : World} (hgd : Region.wanted o (yielded ops a.tmps) = true) (s x : Operand) (t e : TypeId)
    (ho : o.op = .call { callee := .builtin .append, args := #[s, x], argTypes := #[t, t] }) (z : Value) (bytes : Nat) (hinfo : (Try.prog.info? e).map (fun i => (i.zero, i.size, i.bytes)) = some (some z, k, bytes)) (ht : Try.prog.underlying t = some (.slice e)) (hzs : z.cells.size = k) (hk0 : 0 < k) (hby : 1 ≤ bytes)
    (v : Value) (L : List α) (hs : a.eval s = v) (hrow : OutR R k w0 u e v L)
    (ad : Option Addr) (m c : Nat) (N : List α) (hx : a.eval x = .slice ad m c) (hN : Src R k A u ad m N) (hb : (L.length + N.length) * bytes ≤ 140737488355328)
    (h : ∀ v' u', OutR R k w0 u' e v' (L ++ N) → wpList Try.prog ops Q rest (a.put o.dst v') u') : wpList Try.prog ops Q (o :: rest) a u :=
  BigFrame.wpList_want hgd (fun _ hK => app_out_wp hR hF s x t e ho z bytes hinfo ht hzs hk0 hby v L hs hrow ad m c N hx hN hb (fun v' u' h2 => hK _ _ (h v' u' h2)))
theorem OutR.empty {w0 u : World} {e : TypeId} {v : Value} (h : OutR R k w0 u e v ([] : List α)) : ∃ b c, v = .slice b 0 c ∧ (b = none → c = 0) := by
  rcases h with ⟨_, ⟨b, rfl⟩, _⟩ | ⟨xs, h1, _⟩
  · exact ⟨b, 0, rfl, fun _ => rfl⟩
  · rcases h1.2.2 with ⟨rfl, _⟩ | ⟨g, cap, cur, rfl, _⟩
    · exact ⟨none, 0, rfl, fun _ => rfl⟩
    · exact ⟨_, _, rfl, fun h => by cases h⟩
end
theorem chunks_str {A : Where} {u : World} {xs : List Value} {L : List ByteArray} (h : Chunks RStr 1 A u xs L) : xs = (L.map ByteArray.toList).map encStr ∧ ∀ s ∈ L, s.size ≤ 140737488355328 := by
  refine ⟨List.ext_getElem? (fun i => ?_), fun s hs => ?_⟩
  · by_cases hi : i < L.length
    · obtain ⟨cs, ⟨e, _⟩, h2⟩ := h.2 i hi
      have := h2 0 (by decide)
      rw [Nat.mul_one, Nat.add_zero, e] at this
      rw [this, List.getElem?_map, List.getElem?_map, List.getElem?_eq_getElem hi, getE _ _ hi]
      simp [encStr, ByteArray.toList_eq]
    · rw [List.getElem?_eq_none (by rw [h.1]; omega), List.getElem?_eq_none (by simp; omega)]
  · obtain ⟨i, hi, rfl⟩ := List.getElem_of_mem hs
    obtain ⟨cs, ⟨_, e⟩, _⟩ := h.2 i hi
    rwa [getE _ _ hi] at e
theorem str_chunks (A : Where) (u : World) {L : List ByteArray} (hs : ∀ s ∈ L, s.size ≤ 140737488355328) : Chunks RStr 1 A u ((L.map ByteArray.toList).map encStr) L := by
  refine ⟨by simp, fun i hi => ⟨[.string (L.getD i default)], ⟨rfl, ?_⟩, fun j hj => ?_⟩⟩
  · rw [getE _ _ hi]; exact hs _ (List.getElem_mem hi)
  · obtain rfl : j = 0 := by omega
    rw [Nat.mul_one, Nat.add_zero, List.getElem?_map, List.getElem?_map, List.getElem?_eq_getElem hi, getE _ _ hi]
    simp [encStr, ByteArray.toList_eq]
theorem chunks_int {A : Where} {u : World} {xs : List Value} {L : List Int} (h : Chunks RInt 1 A u xs L) : xs = L.map (Value.int .i64) := by
  refine List.ext_getElem? (fun i => ?_)
  by_cases hi : i < L.length
  · obtain ⟨cs, e, h2⟩ := h.2 i hi
    have := h2 0 (by decide)
    rw [Nat.mul_one, Nat.add_zero, e] at this
    rw [this, List.getElem?_map, List.getElem?_eq_getElem hi, getE _ _ hi]
    simp
  · rw [List.getElem?_eq_none (by rw [h.1]; omega), List.getElem?_eq_none (by simp; omega)]
theorem int_chunks (A : Where) (u : World) (L : List Int) : Chunks RInt 1 A u (L.map (Value.int .i64)) L := by
  refine ⟨by simp, fun i hi => ⟨[.int .i64 (L.getD i default)], rfl, fun j hj => ?_⟩⟩
  obtain rfl : j = 0 := by omega
  rw [Nat.mul_one, Nat.add_zero, List.getElem?_map, List.getElem?_eq_getElem hi, getE _ _ hi]
  simp

/-- Where such a row lies, and what the sort and the making each once leave of it. -/
theorem sortedS {w u : World} {e : TypeId} {v : Value} {N : List ByteArray} (hN : N ≠ []) (h : Row RStr 1 (fun _ => False) w u e v N) :
    ∃ g cap, v = .slice (some ⟨g, 0, none⟩) N.length cap ∧ g < u.heap.size ∧ N.length ≤ cap ∧ Holds encStr u g 0 (N.map ByteArray.toList).toArray ∧
      ∀ n os, Holds encStr (grow (putRow encStr (Sort.ahead u n) g 0 ((N.map ByteArray.toList).mergeSort fun x y => decide (x ≤ y)).toArray) os) g 0 ((N.map ByteArray.toList).mergeSort fun x y => decide (x ≤ y)).toArray ∧
        ∀ q, Row RStr 1 (fun _ => False) w (putRow encStr (Sort.ahead (grow (putRow encStr (Sort.ahead u n) g 0 ((N.map ByteArray.toList).mergeSort fun x y => decide (x ≤ y)).toArray) os) q) g 0 (Lib.compact ((N.map ByteArray.toList).mergeSort fun x y => decide (x ≤ y)) ++ List.replicate (((N.map ByteArray.toList).mergeSort fun x y => decide (x ≤ y)).length - (Lib.compact ((N.map ByteArray.toList).mergeSort fun x y => decide (x ≤ y))).length) []).toArray) e (.slice (some ⟨g, 0, none⟩) (sortB sLt sEq N).length cap) (sortB sLt sEq N) := by
  obtain ⟨xs, ⟨hb, hown⟩, hch⟩ := h
  have hx := chunks_str hch
  obtain ⟨hx, hsz⟩ := hx
  subst hx
  have hne : v ≠ .slice none 0 0 := by
    rintro rfl
    rcases hown.2 with ⟨_, h0⟩ | ⟨g, cap, cur, h0, _⟩
    · exact hN (List.length_eq_zero_iff.1 h0)
    · cases h0
  obtain ⟨g, cap, rfl, hbg, hg, hnc, hcm, hl, hH⟩ := holds_of_ownsRow hown hne
  have hl2 : ((N.map ByteArray.toList).mergeSort fun x y => decide (x ≤ y)).length = N.length := by rw [List.length_mergeSort]; simp
  have hcl : (Lib.compact ((N.map ByteArray.toList).mergeSort fun x y => decide (x ≤ y))).length ≤ N.length := by rw [← hl2]; exact Lib.compact_length_le _
  have hS : Lib.compact ((N.map ByteArray.toList).mergeSort fun x y => decide (x ≤ y)) = ((sortB sLt sEq N).map ByteArray.toList) := sortS N
  have hSl : (sortB sLt sEq N).length = (Lib.compact ((N.map ByteArray.toList).mergeSort fun x y => decide (x ≤ y))).length := by rw [hS]; simp
  refine ⟨g, cap, rfl, hg, hnc, hH, fun n os => ?_⟩
  rcases hown.2 with ⟨h0, _⟩ | ⟨g', cap', cur, hv, hbase, hcur, h1, h2, h3, h4⟩
  · cases h0
  cases hv
  have hs := ownsRow_sorted (n := n) (os := os) (ts := ((N.map ByteArray.toList).mergeSort fun x y => decide (x ≤ y))) (ss := (N.map ByteArray.toList)) (base := w.heap.size) (by rw [hl2]; simp) hbase hcur (by simpa using h1) h2 h3
  have eN : (N.map ByteArray.toList).length = N.length := by simp
  rw [eN] at hs
  obtain ⟨g2, c2, e2, _, _, _, _, _, hH2⟩ := holds_of_ownsRow hs (by intro h; cases h)
  injection e2 with e2 _ _
  injection e2 with e2
  injection e2 with e2
  subst e2
  refine ⟨hH2, fun q => ?_⟩
  have hc := Lib.ownsRow_putRow (q := q) (k := (Lib.compact ((N.map ByteArray.toList).mergeSort fun x y => decide (x ≤ y))).length) (ys := Lib.compact ((N.map ByteArray.toList).mergeSort fun x y => decide (x ≤ y)) ++ List.replicate (((N.map ByteArray.toList).mergeSort fun x y => decide (x ≤ y)).length - (Lib.compact ((N.map ByteArray.toList).mergeSort fun x y => decide (x ≤ y))).length) []) hs (by rw [List.length_append, List.length_replicate, hl2]; omega) hcl
  rw [List.take_left] at hc
  refine ⟨_, ⟨Lib.below_putRow (hb.grown (grownBy_sorted _) hb.size (fun j hj => by cases hj; exact hbase)) hbase, by rw [hSl]; exact hc⟩, ?_⟩
  rw [hS]
  exact str_chunks _ _ (fun s hs => hsz s ((mem_sorted s N).1 hs))
/-- Where such a row lies, and what the sort and the making each once leave of it. -/
theorem sortedI {w u : World} {e : TypeId} {v : Value} {N : List Int} (hN : N ≠ []) (h : Row RInt 1 (fun _ => False) w u e v N) :
    ∃ g cap, v = .slice (some ⟨g, 0, none⟩) N.length cap ∧ g < u.heap.size ∧ N.length ≤ cap ∧ Holds (Value.int .i64) u g 0 N.toArray ∧
      ∀ n os, Holds (Value.int .i64) (grow (putRow (Value.int .i64) (Sort.ahead u n) g 0 (N.mergeSort fun x y => decide (x ≤ y)).toArray) os) g 0 (N.mergeSort fun x y => decide (x ≤ y)).toArray ∧
        ∀ q, Row RInt 1 (fun _ => False) w (putRow (Value.int .i64) (Sort.ahead (grow (putRow (Value.int .i64) (Sort.ahead u n) g 0 (N.mergeSort fun x y => decide (x ≤ y)).toArray) os) q) g 0 (Lib.compact (N.mergeSort fun x y => decide (x ≤ y)) ++ List.replicate ((N.mergeSort fun x y => decide (x ≤ y)).length - (Lib.compact (N.mergeSort fun x y => decide (x ≤ y))).length) 0).toArray) e (.slice (some ⟨g, 0, none⟩) (sortB iLt iEq N).length cap) (sortB iLt iEq N) := by
  obtain ⟨xs, ⟨hb, hown⟩, hch⟩ := h
  have hx := chunks_int hch
  
  subst hx
  have hne : v ≠ .slice none 0 0 := by
    rintro rfl
    rcases hown.2 with ⟨_, h0⟩ | ⟨g, cap, cur, h0, _⟩
    · exact hN (List.length_eq_zero_iff.1 h0)
    · cases h0
  obtain ⟨g, cap, rfl, hbg, hg, hnc, hcm, hl, hH⟩ := holds_of_ownsRow hown hne
  have hl2 : (N.mergeSort fun x y => decide (x ≤ y)).length = N.length := by rw [List.length_mergeSort]
  have hcl : (Lib.compact (N.mergeSort fun x y => decide (x ≤ y))).length ≤ N.length := by rw [← hl2]; exact Lib.compact_length_le _
  have hS : Lib.compact (N.mergeSort fun x y => decide (x ≤ y)) = (sortB iLt iEq N) := sortI N
  have hSl : (sortB iLt iEq N).length = (Lib.compact (N.mergeSort fun x y => decide (x ≤ y))).length := by rw [hS]
  refine ⟨g, cap, rfl, hg, hnc, hH, fun n os => ?_⟩
  rcases hown.2 with ⟨h0, _⟩ | ⟨g', cap', cur, hv, hbase, hcur, h1, h2, h3, h4⟩
  · cases h0
  cases hv
  have hs := ownsRow_sortedI (n := n) (os := os) (ts := (N.mergeSort fun x y => decide (x ≤ y))) (ss := N) (base := w.heap.size) (by rw [hl2]) hbase hcur (by simpa using h1) h2 h3
  have eN : N.length = N.length := by simp
  rw [eN] at hs
  obtain ⟨g2, c2, e2, _, _, _, _, _, hH2⟩ := holds_of_ownsRow hs (by intro h; cases h)
  injection e2 with e2 _ _
  injection e2 with e2
  injection e2 with e2
  subst e2
  refine ⟨hH2, fun q => ?_⟩
  have hc := Lib.ownsRow_putRow (q := q) (k := (Lib.compact (N.mergeSort fun x y => decide (x ≤ y))).length) (ys := Lib.compact (N.mergeSort fun x y => decide (x ≤ y)) ++ List.replicate ((N.mergeSort fun x y => decide (x ≤ y)).length - (Lib.compact (N.mergeSort fun x y => decide (x ≤ y))).length) 0) hs (by rw [List.length_append, List.length_replicate, hl2]; omega) hcl
  rw [List.take_left] at hc
  refine ⟨_, ⟨Lib.below_putRow (hb.grown (grownBy_sortedI _) hb.size (fun j hj => by cases hj; exact hbase)) hbase, by rw [hSl]; exact hc⟩, ?_⟩
  rw [hS]
  exact int_chunks _ _ _
end Go.Proofs.Ytddeilhelkfpoaa
namespace Go.Proofs.Ytddeilhelkfpoaa
open Go.RowKit Go.Sort Go.Lib

theorem nS : Try.laysSortS_ren.f 54 = 62 := rfl
theorem nI : Try.laysSortI_ren.f 53 = 64 := rfl
theorem SortS (blk off cap : Nat) (ss : List (List UInt8)) (w : World) (hH : Holds encStr w blk off ss.toArray) (hblk : blk < w.heap.size) (hsz : ss.length < 4611686018427387904) :
    Calls Try.prog 62 #[.slice (some ⟨blk, off, none⟩) ss.length cap] w fun e w' =>
      e = .returned (.tuple #[]) ∧ ∃ n os, w' = grow (putRow encStr (Sort.ahead w n) blk off (ss.mergeSort fun x y => decide (x ≤ y)).toArray) os := by
  have h := AnyG.slices_Sort_string Try.laysSortS blk off cap ss w hH hblk hsz
  rw [nS] at h
  exact h
theorem SortS_none (p : Option Addr) (cap : Nat) (w : World) : Calls Try.prog 62 #[.slice p 0 cap] w fun e w' => e = .returned (.tuple #[]) ∧ w' = w := by
  have h := AnyG.slices_Sort_string_none Try.laysSortS p cap w
  rw [nS] at h
  exact h
theorem SortI (blk off cap : Nat) (ss : List Int) (w : World) (hH : Holds (Value.int .i64) w blk off ss.toArray) (hblk : blk < w.heap.size) (hsz : ss.length < 4611686018427387904) :
    Calls Try.prog 64 #[.slice (some ⟨blk, off, none⟩) ss.length cap] w fun e w' =>
      e = .returned (.tuple #[]) ∧ ∃ n os, w' = grow (putRow (Value.int .i64) (Sort.ahead w n) blk off (ss.mergeSort fun x y => decide (x ≤ y)).toArray) os := by
  have h := AnyG.slices_Sort_int Try.laysSortI blk off cap ss w hH hblk hsz
  rw [nI] at h
  exact h
theorem SortI_none (p : Option Addr) (cap : Nat) (w : World) : Calls Try.prog 64 #[.slice p 0 cap] w fun e w' => e = .returned (.tuple #[]) ∧ w' = w := by
  have h := AnyG.slices_Sort_int_none Try.laysSortI p cap w
  rw [nI] at h
  exact h
end Go.Proofs.Ytddeilhelkfpoaa
