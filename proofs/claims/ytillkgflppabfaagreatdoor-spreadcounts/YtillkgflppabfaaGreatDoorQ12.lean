/- A map of numbers by text: which texts have an entry, and what is told of each; 'm[s]++'; its keys, sorted. Plain facts on worlds. No condition. Counting by domain, one behind the other; the map's keys as a list of texts. Plain mathematics and facts on worlds. No condition. slices.Sorted(maps.Keys(m)) at a map of numbers by text: its keys, rising. Condition: the map lies as is said of it. census.count, census.meets, and who does not count. Condition: the arguments lie as is said of them. census.domains, census.counts, census.least. Condition: the census lies as is said of it. -/
import Derived.Test.YtillkgflppabfaaGreatDoorQ03
import Derived.Test.YtillkgflppabfaaGreatDoorQ11
import Derived.Maps.Range
import Derived.Maps.OwnSet
import Derived.Sort.KeysCollected
import Derived.Test.YtillkgflppabfaaGreatDoorShelf
namespace Go.Proofs.YtillkgflppabfaaGreatDoor
open Go.RowKit Go.Maps Go.ChangeMaps
set_option linter.unusedSimpArgs false
set_option maxRecDepth 100000

theorem law9 : Keyed Tryz.prog 9 := string_keyed Tryz.underlying9
theorem maxLen9 : (140737488355328 : Nat) ≤ maxLen := by decide
theorem zeroI9 (w : World) : (zeroValue 3).run Tryz.prog w = .ok (.int .i64 0) w := by kernel_rfl
/-- What a text reads as, as a key. -/
def kT (s : ByteArray) : Lit := .string s.data.toList
theorem kT_key {s : ByteArray} (h : s.size ≤ 140737488355328) : keyOf Tryz.prog 9 (.string s) = some (kT s) := WideMaps.keyOf_string_mk Tryz.underlying9 (Nat.le_trans h maxLen9)
theorem kT_is (s : ByteArray) : WideAt.IsKeyLit (kT s) := by unfold kT; trivial
theorem kT_inj {s t : ByteArray} (h : kT s = kT t) : s = t := by
  unfold kT at h
  simp only [Lit.string.injEq] at h
  cases s; cases t
  simpa using h
abbrev OwnsT (w : World) (mb n : Nat) (D : DataW Unit) : Prop := w.ownsMap Tryz.prog 9 (plainElem Tryz.prog 3) mb n D
/-- Block mb is a map that tells f of each text; q: which texts have an entry; at most n entries, none above n. -/
def MpAt (w : World) (mb n : Nat) (f : ByteArray → Nat) (q : ByteArray → Bool) : Prop :=
  ∃ D : DataW Unit, OwnsT w mb n D ∧ (∀ s, Maps.has D (kT s) = q s ∧ D.atKey (kT s) (.lit (.int .i64 0)) = .lit (.int .i64 (f s : Int))) ∧ ∀ s, f s ≤ n
theorem MpAt.lt {w : World} {mb n : Nat} {f : ByteArray → Nat} {q : ByteArray → Bool} (h : MpAt w mb n f q) : mb < w.heap.size := by obtain ⟨D, h1, _⟩ := h; exact h1.lt
theorem MpAt.same {w w' : World} {mb n : Nat} {f : ByteArray → Nat} {q : ByteArray → Bool} (h : MpAt w mb n f q) (hb : w'.heap[mb]? = w.heap[mb]?) : MpAt w' mb n f q := by
  obtain ⟨D, ⟨es, ck, h1, h2⟩, h3⟩ := h
  exact ⟨D, ⟨es, ck, hb.trans h1, h2⟩, h3⟩
theorem MpAt.on {w w' : World} {mb n : Nat} {f : ByteArray → Nat} {q : ByteArray → Bool} (h : MpAt w mb n f q) (hb : Below w.heap.size w w') : MpAt w' mb n f q := h.same (hb.block mb h.lt)
theorem MpAt.turned {w w' : World} {mb n : Nat} {f : ByteArray → Nat} {q : ByteArray → Bool} {F : Where} (h : MpAt w mb n f q) (ht : Turns F w w') (hF : ¬ F mb) : MpAt w' mb n f q := h.same (ht.block mb h.lt hF)
theorem MpAt.made (w : World) : MpAt (w.alloc (.map #[] 0)) w.heap.size 0 (fun _ => 0) (fun _ => false) :=
  ⟨.map [], World.ownsMap_made _ _ _ _, fun _ => ⟨rfl, rfl⟩, fun _ => Nat.le_refl _⟩
theorem MpAt.mono {w : World} {mb n n' : Nat} {f : ByteArray → Nat} {q : ByteArray → Bool} (h : MpAt w mb n f q) (hn : n ≤ n') : MpAt w mb n' f q := by
  obtain ⟨D, h1, h2, h3⟩ := h
  exact ⟨D, h1.mono hn, h2, fun s => Nat.le_trans (h3 s) hn⟩
theorem MpAt.as {w : World} {mb n : Nat} {f g : ByteArray → Nat} {q r : ByteArray → Bool} (h : MpAt w mb n f q) (e : ∀ s, f s = g s) (e' : ∀ s, q s = r s) : MpAt w mb n g r := by
  obtain rfl : f = g := funext e
  obtain rfl : q = r := funext e'
  exact h
theorem MpAt.le {w : World} {mb n : Nat} {f : ByteArray → Nat} {q : ByteArray → Bool} (h : MpAt w mb n f q) (s : ByteArray) : f s ≤ n := by obtain ⟨_, _, _, h3⟩ := h; exact h3 s
/-- 'm[s]'. -/
theorem MpAt.look {w : World} {mb n : Nat} {f : ByteArray → Nat} {q : ByteArray → Bool} (h : MpAt w mb n f q) (t : TypeId) (ht : Tryz.prog.underlying t = some (.map 9 3)) {s : ByteArray} (hs : s.size ≤ 140737488355328) :
    (Instr.lookup t (.map (some mb)) (.string s) false).run Tryz.prog w = .ok (.int .i64 (f s : Int)) w := by
  obtain ⟨D, h1, h2, _⟩ := h
  obtain ⟨c, hrun, hat, _⟩ := h1.lookup_int law9 ht Tryz.underlying3 (zeroI9 w) (kT_key hs)
  rw [(h2 s).2] at hat
  obtain rfl : (f s : Int) = c := by simpa using hat
  exact hrun
/-- One more at s. -/
def upF (f : ByteArray → Nat) (s : ByteArray) : ByteArray → Nat := fun t => if sEq t s = true then f t + 1 else f t
def upQ (q : ByteArray → Bool) (s : ByteArray) : ByteArray → Bool := fun t => q t || sEq t s
/-- 'm[s]++': it is looked up and stored. -/
theorem MpAt.inc {w : World} {mb n : Nat} {f : ByteArray → Nat} {q : ByteArray → Bool} (h : MpAt w mb n f q) (t : TypeId) (ht : Tryz.prog.underlying t = some (.map 9 3)) {s : ByteArray} (hs : s.size ≤ 140737488355328) (hn : n < 140737488355328) :
    ∃ w' : World, (Instr.mapUpdate t (.map (some mb)) (.string s) (.int .i64 ((f s : Int) + 1))).run Tryz.prog w = .ok () w' ∧ MpAt w' mb (n + 1) (upF f s) (upQ q s) ∧ w.grownBy w' (some mb) := by
  obtain ⟨D, h1, h2, h3⟩ := h
  have hle := h3 s
  obtain ⟨w', hes, hown, hg'⟩ := h1.update law9 ht (Nat.lt_of_lt_of_le hn maxLen9) (kT_key hs) (plainElem_int (H := Unit) Tryz.underlying3 (q := .i64) (a := (f s : Int) + 1) (WalkArith.wf_i64 (by omega)))
  refine ⟨w', hes, ⟨_, hown, fun t => ?_, fun t => ?_⟩, hg'⟩
  · unfold upF upQ
    by_cases e : sEq t s = true
    · rw [if_pos e, e, (sEq_iff _ _).1 e, has_put_same h1.isMap (kT_is _), atKey_put_same h1.isMap (kT_is _)]
      exact ⟨by simp, by simp⟩
    · have hne : kT t ≠ kT s := fun x => e ((sEq_iff _ _).2 (kT_inj x))
      rw [if_neg e, has_put_other hne, atKey_put_other hne, (h2 t).1, (h2 t).2]
      simp only [Bool.not_eq_true] at e
      rw [e]
      exact ⟨by simp, rfl⟩
  · have := h3 t
    unfold upF
    split <;> omega
theorem cb_le9 : ∀ a b : List UInt8, Lib.compareBytes a b < 0 → a ≤ b
  | [], _, _ => List.nil_le _
  | _ :: _, [], h => by simp [Lib.compareBytes] at h
  | a :: xs, b :: ys, h => by
    rw [List.cons_le_cons_iff]
    rcases cb_cons a b xs ys with ⟨p, e⟩ | ⟨p, e⟩ | ⟨p, e⟩
    · exact .inl (UInt8.lt_iff_toNat_lt.2 p)
    · rw [e] at h; omega
    · rw [e] at h; exact .inr ⟨UInt8.toNat_inj.1 p, cb_le9 xs ys h⟩
theorem le_of_sLt {a b : ByteArray} (h : sLt a b = true) : a.data.toList ≤ b.data.toList := cb_le9 _ _ ((sLt_iff a b).1 h)
/-- The map's keys, sorted. -/
theorem MpAt.keys {w : World} {mb n : Nat} {f : ByteArray → Nat} {q : ByteArray → Bool} (h : MpAt w mb n f q) : ∃ D : DataW Unit, OwnsT w mb n D ∧ Maps.size D ≤ n ∧
    ∀ (M : List ByteArray) (ss : List (List UInt8)), Srt9 M → (∀ x, x ∈ M ↔ q x = true) → ss.Perm (strKeys D) → ss.mergeSort (fun x y => decide (x ≤ y)) = M.map (fun s => s.data.toList) := by
  obtain ⟨D, h1, h2, h3⟩ := h
  refine ⟨D, h1, h1.size_le, fun M ss hM hq hp => ?_⟩
  have hnd : (M.map (fun s : ByteArray => s.data.toList)).Nodup := by
    refine List.pairwise_map.2 (hM.imp fun {a b} hab e => ?_)
    have : a = b := by cases a; cases b; simpa using e
    subst this
    exact sLt_irr a hab
  have hperm : (M.map (fun s : ByteArray => s.data.toList)).Perm (strKeys D) := by
    obtain ⟨es, hD, hpw, _⟩ := h1.entries law9
    obtain ⟨es', hD', hko⟩ := h1.keysOf
    obtain rfl : es = es' := by rw [hD] at hD'; simpa using hD'
    subst hD
    refine perm_strKeys hpw (fun p hp => by obtain ⟨v, hv⟩ := hko p hp; obtain ⟨x, _, hx, _⟩ := Maps.keyOf_str Tryz.underlying9 hv; exact ⟨x, hx⟩) hnd (fun x => ?_)
    have e := (h2 ⟨x.toArray⟩).1
    rw [show kT ⟨x.toArray⟩ = .string x from by simp [kT]] at e
    rw [e, ← hq, List.mem_map]
    constructor
    · rintro ⟨s, hs, rfl⟩; simpa using hs
    · intro hx; exact ⟨_, hx, by simp⟩
  have e1 := mergeSort_of_perm (hp.trans hperm.symm)
  rw [show (fun x y : List UInt8 => decide (x ≤ y)) = leB from rfl, e1]
  refine List.mergeSort_of_pairwise (List.pairwise_map.2 (hM.imp fun {a b} hab => ?_))
  simpa [leB] using le_of_sLt hab
end Go.Proofs.YtillkgflppabfaaGreatDoor
namespace Go.Proofs.YtillkgflppabfaaGreatDoor
open Go.RowKit Go.Maps
set_option linter.unusedSimpArgs false
set_option maxRecDepth 100000

theorem sEq_comm9 (a b : ByteArray) : sEq a b = sEq b a := by
  rw [Bool.eq_iff_iff, sEq_iff, sEq_iff]
  exact ⟨Eq.symm, Eq.symm⟩
/-- Has one of the nodes v as its value of the key? -/
def qD (key : ByteArray) (N : List NodeD) (v : ByteArray) : Bool := N.any (fun n => (getL (nLabs n) key).2 && sEq v (getL (nLabs n) key).1)
theorem mem_qD (key : ByteArray) (N : List NodeD) (v : ByteArray) : v ∈ domsP key N ↔ qD key N v = true := by
  rw [mem_doms]
  unfold qD
  rw [List.any_eq_true]
  constructor
  · rintro ⟨n, hn, h1, h2⟩
    exact ⟨n, hn, by rw [h1, Bool.true_and, sEq_iff]; exact h2.symm⟩
  · rintro ⟨n, hn, h⟩
    rw [Bool.and_eq_true, sEq_iff] at h
    exact ⟨n, hn, h.1, h.2.symm⟩
/-- What is told of a map of counts, with one more where it is. -/
def ctF (f : ByteArray → Nat) (g : ByteArray × Bool) : ByteArray → Nat := if g.2 = true then upF f g.1 else f
def ctQ (q : ByteArray → Bool) (g : ByteArray × Bool) : ByteArray → Bool := if g.2 = true then upQ q g.1 else q
theorem qD_take (key : ByteArray) {N : List NodeD} {k : Nat} (h : k < N.length) (v : ByteArray) : ctQ (qD key (N.take k)) (getL (nLabs (N.getD k default)) key) v = qD key (N.take (k + 1)) v := by
  unfold qD
  rw [← take_at9 h, List.any_append]
  generalize N.getD k default = x
  simp only [List.any_cons, List.any_nil, Bool.or_false]
  unfold ctQ upQ
  cases (getL (nLabs x) key).2 <;> simp
/-- Those that are not ignored. -/
def left9 (ig : PodD → Bool) (l : List PlacedD) : List PlacedD := l.filter (fun x => !ig x.1)
theorem left_none (l : List PlacedD) : left9 (fun _ => false) l = l := by unfold left9; simp
theorem left_own (name : ByteArray) (l : List PlacedD) : left9 (fun p => sEq p.1 name) l = othersN name l := rfl
theorem left_take (ig : PodD → Bool) {L : List PlacedD} {k : Nat} (h : k < L.length) : left9 ig (L.take (k + 1)) = left9 ig (L.take k) ++ (if ig (L.getD k default).1 = true then [] else [L.getD k default]) := by
  unfold left9
  rw [← take_at9 h, List.filter_append]
  generalize L.getD k default = x
  cases hx : ig x.1 <;> simp [hx]
/-- Is x counted? -/
def hit9 (ig : PodD → Bool) (s : SpreadD) (x : PlacedD) : Bool := !ig x.1 && matchL (pLabs x.1) (sReqs s)
theorem cnt_no9 (ig : PodD → Bool) (s : SpreadD) {L : List PlacedD} {k : Nat} (h : k < L.length) (hx : hit9 ig s (L.getD k default) = false) (v : ByteArray) : cntP s v (left9 ig (L.take k)) = cntP s v (left9 ig (L.take (k + 1))) := by
  rw [left_take ig h]
  generalize L.getD k default = x at hx ⊢
  unfold hit9 at hx
  cases hi : ig x.1
  · rw [hi] at hx
    simp only [Bool.not_false, Bool.true_and] at hx
    simp only [Bool.false_eq_true, if_false]
    rw [cnt_snoc]
    unfold inS
    rw [hx]
    simp
  · simp
theorem cnt_yes9 (ig : PodD → Bool) (s : SpreadD) {L : List PlacedD} {k : Nat} (h : k < L.length) (hx : hit9 ig s (L.getD k default) = true) (v : ByteArray) : ctF (fun v => cntP s v (left9 ig (L.take k))) (getL (L.getD k default).2 s.1) v = cntP s v (left9 ig (L.take (k + 1))) := by
  rw [left_take ig h]
  generalize L.getD k default = x at hx ⊢
  unfold hit9 at hx
  rw [Bool.and_eq_true] at hx
  obtain ⟨hi, hm⟩ := hx
  have hi' : ig x.1 = false := by simpa using hi
  rw [hi']
  simp only [Bool.false_eq_true, if_false]
  rw [cnt_snoc]
  unfold inS ctF upF
  rw [hm, sEq_comm9]
  cases (getL x.2 s.1).2 <;> simp
  split <;> rfl
theorem left_le (ig : PodD → Bool) (l : List PlacedD) : (left9 ig l).length ≤ l.length := List.length_filter_le _ _
theorem chunks_str9 (A : Where) (u : World) {M : List ByteArray} (h : ∀ s ∈ M, s.size ≤ 140737488355328) : Chunks RStr 1 A u (M.map Value.string) M := by
  refine ⟨by simp, fun i hi => ⟨[.string (M.getD i default)], ⟨rfl, ?_⟩, fun j hj => ?_⟩⟩
  · rw [List.getD_eq_getElem?_getD, List.getElem?_eq_getElem hi]
    exact h _ (List.getElem_mem hi)
  · obtain rfl : j = 0 := by omega
    rw [Nat.mul_one, Nat.add_zero, List.getElem?_map, List.getElem?_eq_getElem hi, List.getD_eq_getElem?_getD, List.getElem?_eq_getElem hi]
    rfl
theorem enc_map9 (M : List ByteArray) : (M.map (fun s => s.data.toList)).map encStr = M.map Value.string := by
  rw [List.map_map]
  refine List.map_congr_left (fun s _ => ?_)
  simp [encStr]
theorem doms_size {A : Where} {w : World} {a : Option Addr} {n cap : Nat} {N : List NodeD} (h : SlAt RNode 9 112 A w a n cap N) (key : ByteArray) : ∀ v ∈ domsP key N, v.size ≤ 140737488355328 := by
  intro v hv
  obtain ⟨x, hx, h1, rfl⟩ := (mem_doms key v N).1 hv
  obtain ⟨i, hi, rfl⟩ := List.getElem_of_mem hx
  have hin : i < n := by rw [← h.1]; exact hi
  obtain ⟨B, off, _, _, _, cs, hr, _⟩ := h.get hin
  obtain ⟨⟨c1, c2, c3⟩, _, _, _, sl, _⟩ := hr.out
  rw [List.getD_eq_getElem?_getD, List.getElem?_eq_getElem hi] at sl
  exact getL_size sl key
theorem doms_le (key : ByteArray) (N : List NodeD) : (domsP key N).length ≤ N.length := Nat.le_trans (sortB_len _ _ _) (vals_le key N)
end Go.Proofs.YtillkgflppabfaaGreatDoor
namespace Go.Proofs.YtillkgflppabfaaGreatDoor
open Go.RowKit Go.Maps Go.Sort Go.Shelf
set_option linter.unusedSimpArgs false
set_option maxRecDepth 100000

theorem sorts9 (m : Nat) : AnyZ.SortsIn Tryz.prog Tryz.laysSorted_ren Fence.wide m :=
  ⟨fun blk off cap ss W hH hblk hsz => callsIn_wide.2 (AnyM.slices_Sort_string Tryz.laysSort blk off cap ss W hH hblk hsz),
   fun p cap W => callsIn_wide.2 (AnyM.slices_Sort_string_none Tryz.laysSort p cap W)⟩
theorem mKeys_calls (mb : Option Nat) (W : World) : Calls Tryz.prog 38 #[.map mb] W fun e w' => e = .returned (.func (.func 53) #[] #[.pointer (some ⟨W.heap.size, 0, none⟩)]) ∧ w' = W.alloc (.cells #[.map mb] 56) :=
  (callsIn_wide (n := 5)).1 (AnyZ.keys_in Tryz.laysKeys Fence.wide 5 trivial rfl mb W)
set_option maxHeartbeats 2000000 in
theorem sorted_calls {w : World} {mb n : Nat} {f : ByteArray → Nat} {q : ByteArray → Bool} (h : MpAt w mb n f q) (hn : n * 16 ≤ 140737488355328) {M : List ByteArray} (hM : Srt9 M) (hq : ∀ x, x ∈ M ↔ q x = true) (hs : ∀ s ∈ M, s.size ≤ 140737488355328) :
    Calls Tryz.prog 37 #[.func (.func 53) #[] #[.pointer (some ⟨w.heap.size, 0, none⟩)]] (w.alloc (.cells #[.map (some mb)] 56)) fun e w' => ∃ v, e = .returned v ∧ Row RStr 1 (fun _ => False) w w' 9 v M := by
  obtain ⟨D, hown, hle, hsort⟩ := h.keys
  have hbl := hown.lt
  have hseq : SeqGives Fence.wide 2 Tryz.prog 53 #[.pointer (some ⟨w.heap.size, 0, none⟩)] encStr (fun ss => ss.Perm (strKeys D)) (Maps.size D) (w.alloc (.cells #[.map (some mb)] 56)) :=
    AnyZ.keys_gives (ρ := Tryz.laysKeys_ren) { Tryz.laysKeys with } Fence.wide _ trivial rfl (by omega) w.heap.size mb n D _ (by simp) (by simp) (by
      obtain ⟨es, clock, hb, Ft, hs, hD⟩ := hown
      exact ⟨es, clock, (Below.heap_alloc _ _ mb hbl).trans hb, Ft, hs, hD⟩)
  have cS := AnyZ.sorted_in Tryz.laysSorted Fence.wide 5 trivial trivial trivial trivial rfl (by omega) (sorts9 _) (enters_of Tryz.func52 (by kernel_rfl) rfl) 53 #[.pointer (some ⟨w.heap.size, 0, none⟩)] trivial (enters_of Tryz.func53 (by kernel_rfl) rfl) _ (Maps.size D) (by have := maxLen9; omega) (by omega) _ hseq
  change CallsIn _ _ Tryz.prog 37 _ _ _ at cS
  refine ((callsIn_wide (n := 5)).1 cS).mono ?_
  rintro e w' ⟨v, ss, rfl, hS, hrow, _, hb⟩
  refine ⟨v, rfl, M.map Value.string, ⟨((Below.refl _ w).alloc (Nat.le_refl _) _).trans (hb.mono (by simp)), ?_⟩, chunks_str9 _ _ hs⟩
  have hlen : ss.length = M.length := by
    have h1 := congrArg List.length (hsort M ss hM hq hS)
    rw [List.length_mergeSort, List.length_map] at h1
    exact h1
  rw [hsort M ss hM hq hS, enc_map9, hlen] at hrow
  exact Go.Joins.ownsRow_le hrow (by simp)
end Go.Proofs.YtillkgflppabfaaGreatDoor
namespace Go.Proofs.YtillkgflppabfaaGreatDoor
open Go.RowKit Go.Maps
set_option linter.unusedSimpArgs false
set_option maxRecDepth 100000

theorem Get_sl9 (a : Option Addr) (n cap : Nat) (A : Where) (L : List Lab) (key : ByteArray) (w : World) (hL : Hid (SlAt RLabel 2 32 A w a n cap L)) : Calls Tryz.prog 49 #[.slice a n cap, .string key] w fun e w' => e = .returned (.tuple #[.string (getL L key).1, .bool (getL L key).2]) ∧ Below w.heap.size w w' := by
  have h := Get_calls a cap L key w (labs_of hL.out)
  rw [hL.out.1] at h
  exact h
abbrev cenV (s : SpreadD) (r1 : Option Addr) (r2 r3 m1 m2 : Nat) : List Value := [.string s.1, .int .i64 s.2.1, .int .i64 s.2.2.1, .slice r1 r2 r3, .map (some m1), .map (some m2)]
set_option maxHeartbeats 4000000 in
theorem count_calls (s : SpreadD) (r1 : Option Addr) (r2 r3 m1 m2 mb n : Nat) (f : ByteArray → Nat) (q : ByteArray → Bool) (a : Option Addr) (ln cap : Nat) (A : Where) (L : List Lab) (w : World) (hm : Hid (MpAt w mb n f q)) (hn : n < 140737488355328) (hL : Hid (SlAt RLabel 2 32 A w a ln cap L)) :
    Calls Tryz.prog 35 #[.agg #[.string s.1, .int .i64 s.2.1, .int .i64 s.2.2.1, .slice r1 r2 r3, .map (some m1), .map (some m2)], .map (some mb), .slice a ln cap] w fun e w' => e = .returned (.tuple #[]) ∧ MpAt w' mb (n + 1) (ctF f (getL L s.1)) (ctQ q (getL L s.1)) ∧ Turns (fun b => b = mb) w w' := by
  obtain ⟨W1, hW1⟩ : ∃ W, W = w.alloc (.cells #[.string s.1, .int .i64 s.2.1, .int .i64 s.2.2.1, .slice r1 r2 r3, .map (some m1), .map (some m2)] 58) := ⟨_, rfl⟩
  have B1 : Below w.heap.size w W1 := by rw [hW1]; go_grown
  have qx : BoxL W1 w.heap.size (cenV s r1 r2 r3 m1 m2) := by rw [hW1]; exact BoxL.new w 58 _
  have c0 := (qx.2 0 _ rfl).1
  have hG := Get_sl9 a ln cap A L s.1 W1 (hL.out.on RLabel.firm B1)
  have hsz := getL_size hL.out s.1
  have HB : Hid (Below w.heap.size w W1) := B1
  clear hL qx B1
  generalize getL L s.1 = g at hG hsz
  obtain ⟨v, t⟩ := g
  simp only at hG hsz
  go_enter Tryz.func35, Tryz.ntmps35
  go_upto_region 1 with fail
  rw [← hW1]
  clear hW1
  go_wp2_with fail
  refine hG.mono ?_
  clear hG c0
  rintro e w1 ⟨rfl, hb1⟩
  have HB1 : Hid (Below w.heap.size w w1) := on2 HB.out hb1
  clear HB hb1
  cases t
  · have HC : Hid (MpAt w1 mb (n + 1) f q) := (hm.out.on HB1.out).mono (Nat.le_succ _)
    clear hm
    go_wp2_with fail
    go_end0
    exact ⟨rfl, HC.out, Turns.below HB1.out⟩
  · have hcm := hm.out.on HB1.out
    have hlk := hcm.look 56 Tryz.underlying56 hsz
    have hle := hcm.le v
    obtain ⟨w', hup, hm', hg'⟩ := hcm.inc 56 Tryz.underlying56 hsz hn
    have HF : Hid (MpAt w' mb (n + 1) (upF f v) (upQ q v) ∧ Turns (fun b => b = mb) w w') := ⟨hm', (Turns.below HB1.out).trans (Turns.grown hg' (fun b e => by simpa using e.symm))⟩
    clear hm hcm hm' hg'
    generalize f v = c at hlk hup hle
    go_wp2_with fail
    go_end0
    exact ⟨rfl, HF.out⟩
set_option maxHeartbeats 4000000 in
theorem meets_calls (s : SpreadD) (r1 : Option Addr) (r2 r3 m1 m2 : Nat) (A A' : Where) (cs : List Value) (p : PodD) (w : World) (hp : Hid (RPod A w cs p)) (hR : Hid (SlAt RReq 3 48 A' w r1 r2 r3 (sReqs s))) :
    Calls Tryz.prog 36 #[.agg #[.string s.1, .int .i64 s.2.1, .int .i64 s.2.2.1, .slice r1 r2 r3, .map (some m1), .map (some m2)], .agg cs.toArray] w fun e w' => e = .returned (.bool (matchL (pLabs p) (sReqs s))) ∧ Below w.heap.size w w' := by
  obtain ⟨⟨h1, h2, h3⟩, e2, sl⟩ : ∃ h : Hd, cs[2]? = some (.slice h.1 h.2.1 h.2.2) ∧ SlAt RLabel 2 32 A w h.1 h.2.1 h.2.2 (pLabs p) := by
    obtain ⟨h2, h6, h7, h8, h9, h10, h11, h12, h13, rfl, _, s2, _⟩ := hp.out.out
    exact ⟨h2, rfl, s2⟩
  simp only at e2 sl
  obtain ⟨W1, hW1⟩ : ∃ W, W = w.alloc (.cells #[.string s.1, .int .i64 s.2.1, .int .i64 s.2.2.1, .slice r1 r2 r3, .map (some m1), .map (some m2)] 58) := ⟨_, rfl⟩
  obtain ⟨W2, hW2⟩ : ∃ W, W = W1.alloc (.cells cs.toArray 49) := ⟨_, rfl⟩
  have B1 : Below w.heap.size w W1 := by rw [hW1]; go_grown
  have B2 : Below W1.heap.size W1 W2 := by rw [hW2]; go_grown
  have hz : W1.heap.size = w.heap.size + 1 := by rw [hW1]; simp
  have qx : BoxL W2 w.heap.size (cenV s r1 r2 r3 m1 m2) := by refine BoxL.on ?_ B2; rw [hW1]; exact BoxL.new w 58 _
  have qp : BoxL W2 W1.heap.size cs := by rw [hW2]; exact BoxL.new W1 49 _
  have c3 := (qx.2 3 _ rfl).1
  have p2 := (qp.2 2 _ e2).1
  rw [hz] at p2
  have hM := Match_sl h1 h2 h3 A (pLabs p) r1 r2 r3 A' (sReqs s) W2 (sl.on RLabel.firm (on2 B1 B2)) (hR.out.on RReq.firm (on2 B1 B2))
  have HB : Hid (Below w.heap.size w W2) := on2 B1 B2
  clear hp hR sl e2 qx qp B1 B2
  generalize matchL (pLabs p) (sReqs s) = ans at hM
  go_enter Tryz.func36, Tryz.ntmps36
  go_upto_region 1 with fail
  rw [← hW1, ← hW2]
  clear hW1 hW2
  go_wp2_with fail
  refine hM.mono ?_
  rintro e w1 ⟨rfl, hb1⟩
  have HB1 : Hid (Below w.heap.size w w1) := on2 HB.out hb1
  clear HB hb1 hM c3 p2
  go_wp2_with fail
  go_ret
  exact ⟨rfl, HB1.out⟩
/-- Who does not count: a function that tells it of each pod, and leaves all that was there. -/
def PredP (g : Nat) (lb : Array Value) (ig : PodD → Bool) (w : World) : Prop :=
  ∀ (W : World) (cs : List Value) (x : PodD), Below w.heap.size w W → RPod (fun _ => True) W cs x → Calls Tryz.prog g (#[.agg cs.toArray] ++ lb) W fun e w' => e = .returned (.bool (ig x)) ∧ Below W.heap.size W w'
set_option maxHeartbeats 4000000 in
theorem own_calls (B : Nat) (ps : List Value) (p : PodD) (w : World) (q : Hid (BoxL w B ps)) (hp : Hid (RPod (fun _ => True) w ps p)) : PredP 47 #[.pointer (some ⟨B, 0, none⟩)] (fun x => sEq x.1 p.1) w := by
  intro W cs x hb hx
  have e0 : cs[0]? = some (.string x.1) := by
    obtain ⟨h2, h6, h7, h8, h9, h10, h11, h12, h13, rfl, _⟩ := hx.out
    rfl
  have f0 : ps[0]? = some (.string p.1) := by
    obtain ⟨h2, h6, h7, h8, h9, h10, h11, h12, h13, rfl, _⟩ := hp.out.out
    rfl
  obtain ⟨W1, hW1⟩ : ∃ W', W' = W.alloc (.cells cs.toArray 49) := ⟨_, rfl⟩
  have B1 : Below W.heap.size W W1 := by rw [hW1]; go_grown
  have c0 := ((show BoxL W1 W.heap.size cs by rw [hW1]; exact BoxL.new W 49 _).2 0 _ e0).1
  have d0 := (((q.out.on hb).on B1).2 0 _ f0).1
  have hS : (x.1.toList == p.1.toList) = sEq x.1 p.1 := rfl
  have HB : Hid (Below W.heap.size W W1) := B1
  clear hp q hx e0 f0 hb B1
  show Calls Tryz.prog 47 #[.agg cs.toArray, .pointer (some ⟨B, 0, none⟩)] W fun e w' => e = .returned (.bool (sEq x.1 p.1)) ∧ Below W.heap.size W w'
  generalize sEq x.1 p.1 = ans at hS
  generalize x.1 = s1 at c0 hS
  generalize p.1 = s2 at d0 hS
  go_enter Tryz.func47, Tryz.ntmps47
  go_upto_region 1 with fail
  rw [← hW1]
  clear hW1
  go_wp2_with fail
  go_ret
  exact ⟨by first | rfl | simp [hS], HB.out⟩
set_option maxHeartbeats 4000000 in
theorem nobody_calls (w : World) : PredP 17 #[] (fun _ => false) w := by
  intro W cs x hb hx
  obtain ⟨W1, hW1⟩ : ∃ W', W' = W.alloc (.cells cs.toArray 49) := ⟨_, rfl⟩
  have HB : Hid (Below W.heap.size W W1) := by rw [Hid, hW1]; go_grown
  clear hx hb
  show Calls Tryz.prog 17 #[.agg cs.toArray] W _
  go_enter Tryz.func17, Tryz.ntmps17
  go_upto_region 1 with fail
  rw [← hW1]
  clear hW1
  go_wp2_with fail
  go_ret
  exact ⟨rfl, HB.out⟩
end Go.Proofs.YtillkgflppabfaaGreatDoor
namespace Go.Proofs.YtillkgflppabfaaGreatDoor
open Go.RowKit Go.Maps
set_option linter.unusedSimpArgs false
set_option maxRecDepth 100000

theorem Row.slT {α : Type} [Inhabited α] {R : Rep α} {k : Nat} (hR : Firm R k) {bytes : Nat} {A : Where} {w0 u : World} {e : TypeId} {v : Value} {L : List α} (h : Row R k A w0 u e v L) (hb : L.length * bytes ≤ 140737488351232) :
    ∃ a cap, v = .slice a L.length cap ∧ SlAt R k bytes (fun _ => True) u a L.length cap L := by
  obtain ⟨xs, h1, h2⟩ := h
  obtain ⟨a, cap, e1, h3⟩ := sl_of_owns (bytes := bytes) hR h1.2 h2 hb
  exact ⟨a, cap, e1, h3.weak hR (fun b _ _ => trivial)⟩
/-- A census: its two maps, of N's domains and of Q's counts, and what is asked. -/
structure CenAt (w : World) (s : SpreadD) (r1 : Option Addr) (r2 r3 m1 m2 : Nat) (N : List NodeD) (Q : List PlacedD) : Prop where
  n : ∃ f k, MpAt w m1 k f (qD s.1 N) ∧ k * 16 ≤ 140737488355328
  p : ∃ q k, MpAt w m2 k (fun v => cntP s v Q) q ∧ k < 140737488355328
  r : SlAt RReq 3 48 (fun _ => True) w r1 r2 r3 (sReqs s)
  z : ∀ v ∈ domsP s.1 N, v.size ≤ 140737488355328
  l : (domsP s.1 N).length * 16 ≤ 140737488351232
theorem CenAt.on {w w' : World} {s : SpreadD} {r1 : Option Addr} {r2 r3 m1 m2 : Nat} {N : List NodeD} {Q : List PlacedD} (h : CenAt w s r1 r2 r3 m1 m2 N Q) (hb : Below w.heap.size w w') : CenAt w' s r1 r2 r3 m1 m2 N Q := by
  obtain ⟨f, k, h1, h2⟩ := h.n
  obtain ⟨q, k', h3, h4⟩ := h.p
  exact ⟨⟨f, k, h1.on hb, h2⟩, ⟨q, k', h3.on hb, h4⟩, h.r.on RReq.firm hb, h.z, h.l⟩
set_option maxHeartbeats 4000000 in
theorem domains_calls (s : SpreadD) (r1 : Option Addr) (r2 r3 m1 m2 : Nat) (N : List NodeD) (Q : List PlacedD) (w : World) (h : Hid (CenAt w s r1 r2 r3 m1 m2 N Q)) :
    Calls Tryz.prog 18 #[.agg #[.string s.1, .int .i64 s.2.1, .int .i64 s.2.2.1, .slice r1 r2 r3, .map (some m1), .map (some m2)]] w fun e w' => ∃ v, e = .returned v ∧ Row RStr 1 (fun _ => False) w w' 9 v (domsP s.1 N) := by
  obtain ⟨W1, hW1⟩ : ∃ W, W = w.alloc (.cells #[.string s.1, .int .i64 s.2.1, .int .i64 s.2.2.1, .slice r1 r2 r3, .map (some m1), .map (some m2)] 58) := ⟨_, rfl⟩
  have B1 : Below w.heap.size w W1 := by rw [hW1]; go_grown
  have qx : BoxL W1 w.heap.size (cenV s r1 r2 r3 m1 m2) := by rw [hW1]; exact BoxL.new w 58 _
  have c4 := (qx.2 4 _ rfl).1
  obtain ⟨f, k, hm, hk⟩ := (h.out.on B1).n
  have hK := mKeys_calls (some m1) W1
  have hS := sorted_calls hm hk (srt_sort9 _) (mem_qD s.1 N) h.out.z
  have HB : Hid (Below w.heap.size w W1) := B1
  clear h hm hk qx B1
  go_enter Tryz.func18, Tryz.ntmps18
  go_upto_region 1 with fail
  rw [← hW1]
  clear hW1
  go_wp2_with fail
  refine hK.mono ?_
  rintro e w1 ⟨rfl, rfl⟩
  go_wp2_with fail
  refine hS.mono ?_
  rintro e w2 ⟨v, rfl, hr⟩
  have HR : Hid (Row RStr 1 (fun _ => False) w w2 9 v (domsP s.1 N)) := hr.from RStr.firm HB.out (fun _ h => h)
  clear hS hK hr HB c4
  go_wp2_with fail
  go_ret
  exact ⟨v, rfl, HR.out⟩
/-- The counts of the domains, in their order. -/
def cntsL (s : SpreadD) (N : List NodeD) (Q : List PlacedD) : List Int := (domsP s.1 N).map (fun v => ((cntP s v Q : Nat) : Int))
theorem infoI9 : (Tryz.prog.info? 3).map (fun i => (i.zero, i.size, i.bytes)) = some (some (.int .i64 0), 1, 8) := by kernel_rfl
theorem map_takeC {α β : Type} [Inhabited α] (g : α → β) {L : List α} {k : Nat} (h : k < L.length) : (L.take (k + 1)).map g = (L.take k).map g ++ [g (L.getD k default)] := by
  rw [← take_at9 h, List.map_append]
  rfl
set_option maxHeartbeats 4000000 in
theorem counts_calls (s : SpreadD) (r1 : Option Addr) (r2 r3 m1 m2 : Nat) (N : List NodeD) (Q : List PlacedD) (w : World) (h : Hid (CenAt w s r1 r2 r3 m1 m2 N Q)) :
    Calls Tryz.prog 23 #[.agg #[.string s.1, .int .i64 s.2.1, .int .i64 s.2.2.1, .slice r1 r2 r3, .map (some m1), .map (some m2)]] w fun e w' => ∃ v, e = .returned v ∧ Row RInt 1 (fun _ => False) w w' 3 v (cntsL s N Q) := by
  obtain ⟨W1, hW1⟩ : ∃ W, W = w.alloc (.cells #[.string s.1, .int .i64 s.2.1, .int .i64 s.2.2.1, .slice r1 r2 r3, .map (some m1), .map (some m2)] 58) := ⟨_, rfl⟩
  have B1 : Below w.heap.size w W1 := by rw [hW1]; go_grown
  have qx : BoxL W1 w.heap.size (cenV s r1 r2 r3 m1 m2) := by rw [hW1]; exact BoxL.new w 58 _
  have c0 := (qx.2 0 _ rfl).1
  have c1 := (qx.2 1 _ rfl).1
  have c2 := (qx.2 2 _ rfl).1
  have c3 := (qx.2 3 _ rfl).1
  have c4 := (qx.2 4 _ rfl).1
  have c5 := (qx.2 5 _ rfl).1
  have hD := domains_calls s r1 r2 r3 m1 m2 N Q W1 (h.out.on B1)
  have hbl : Hid ((domsP s.1 N).length * 16 ≤ 140737488351232) := h.out.l
  have HU : Hid (∀ u, Below W1.heap.size W1 u → u.cell? ⟨w.heap.size, 5, none⟩ = some (.map (some m2)) ∧ ∀ v : ByteArray, v.size ≤ 140737488355328 → (Instr.lookup 56 (.map (some m2)) (.string v) false).run Tryz.prog u = .ok (.int .i64 ((cntP s v Q : Nat) : Int)) u) := fun u hb => by
    obtain ⟨q, k, h3, _⟩ := h.out.p
    exact ⟨((qx.on hb).2 5 _ rfl).1, fun v hv => (h3.on (on2 B1 hb)).look 56 Tryz.underlying56 hv⟩
  have HB : Hid (Below w.heap.size w W1) := B1
  clear h qx B1
  go_enter Tryz.func23, Tryz.ntmps23
  go_upto_region 1 with fail
  rw [← hW1]
  clear hW1
  go_wp2_with fail
  refine hD.mono ?_
  rintro e w2 ⟨v, rfl, hr⟩
  obtain ⟨a, cap, rfl, sv⟩ := hr.slT (bytes := 16) RStr.firm hbl.out
  have B2 : Below W1.heap.size W1 w2 := hr.below
  clear hD hr c0 c1 c2 c3 c4 c5
  generalize hn : (domsP s.1 N).length = n at sv hbl
  have HN : Hid ((domsP s.1 N).length = n) := hn
  clear hn
  have hlen : n ≤ 9223372036854775807 := by have := hbl.out; omega
  have HR0 : Hid (Row RInt 1 (fun _ => False) w2 w2 3 (.slice none 0 0) (((domsP s.1 N).take 0).map (fun v => ((cntP s v Q : Nat) : Int)))) := Row.nil (fun _ => False) w2 3
  have HS : Hid (∀ u, Below w2.heap.size w2 u → SlAt RStr 1 16 (fun _ => True) u a n cap (domsP s.1 N) ∧ u.cell? ⟨w.heap.size, 5, none⟩ = some (.map (some m2)) ∧ ∀ v : ByteArray, v.size ≤ 140737488355328 → (Instr.lookup 56 (.map (some m2)) (.string v) false).run Tryz.prog u = .ok (.int .i64 ((cntP s v Q : Nat) : Int)) u) := fun u hb => ⟨sv.on RStr.firm hb, HU.out u (on2 B2 hb)⟩
  have HB2 : Hid (Below w.heap.size w w2) := on2 HB.out B2
  clear sv B2 HB HU
  go_wp2_with fail
  go_loopw [3, 9] (fun t i wr => ∃ k : Nat, k ≤ n ∧ i = .int .i64 k ∧ Hid (Row RInt 1 (fun _ => False) w2 wr 3 t (((domsP s.1 N).take k).map (fun v => ((cntP s v Q : Nat) : Int))))) (fun _ i _ => n - (intOf i).toNat)
  case atStart => exact ⟨0, Nat.zero_le _, rfl, HR0⟩
  case round =>
    obtain ⟨k, hk, rfl, hrow⟩ := hrel
    by_cases hlt : k < n
    · have hltz : (k : Int) < (n : Int) := by omega
      have hkl : k < (domsP s.1 N).length := by rw [HN.out]; exact hlt
      obtain ⟨sv, c5, hlk⟩ := HS.out wr hrow.out.below
      obtain ⟨B, off, rfl, hB, _, cs, hr, hv⟩ := sv.get hlt
      obtain ⟨rfl, hsz⟩ := hr
      have d0 := hv 0 _ rfl
      rw [Nat.mul_one, Nat.add_zero] at d0
      have hlk' := hlk _ hsz
      have HT : Hid (((domsP s.1 N).take (k + 1)).map (fun v => ((cntP s v Q : Nat) : Int)) = ((domsP s.1 N).take k).map (fun v => ((cntP s v Q : Nat) : Int)) ++ [((cntP s ((domsP s.1 N).getD k default) Q : Nat) : Int)]) := map_takeC _ hkl
      have HLk : Hid ((((domsP s.1 N).take k).map (fun v => ((cntP s v Q : Nat) : Int))).length = k) := by rw [Hid, List.length_map, List.length_take]; omega
      clear sv hlk hv
      generalize (domsP s.1 N).getD k default = dv at d0 hlk' HT hsz
      generalize ((cntP s dv Q : Nat) : Int) = c at hlk' HT
      have hb3 : Below wr.heap.size wr (wr.alloc (.cells #[.int .i64 c] 3)) := (Below.refl _ _).alloc (Nat.le_refl _) _
      have HR3 : Hid (Row RInt 1 (fun _ => False) w2 (wr.alloc (.cells #[.int .i64 c] 3)) 3 u3 (((domsP s.1 N).take k).map (fun v => ((cntP s v Q : Nat) : Int)))) := hrow.out.on RInt.firm hb3
      have HE : RInt (fun b => False ∧ Value.ownBlock u3 ≠ some b) (wr.alloc (.cells #[.int .i64 c] 3)) [.int .i64 c] c := rfl
      have H1 : Hid (∀ y ∈ [Value.int .i64 c], y.oneCell' = true) := RInt.firm.one HE
      have HCh : Hid (Chunks RInt 1 (fun b => False ∧ Value.ownBlock u3 ≠ some b) (wr.alloc (.cells #[.int .i64 c] 3)) [.int .i64 c] [c]) := chunk_one RInt.firm HE
      have HX : Hid (∀ j y, [Value.int .i64 c][j]? = some y → (wr.alloc (.cells #[.int .i64 c] 3)).cell? ((⟨wr.heap.size, 0, none⟩ : Addr).add j) = some y) := fun j y hj => by
        have h1 := ((BoxL.new wr 3 [.int .i64 c]).2 j y hj).1
        rw [add_lit]; simpa using h1
      have HLb2 : Hid (((((domsP s.1 N).take k).map (fun v => ((cntP s v Q : Nat) : Int))).length + [c].length) * 8 ≤ 140737488355328) := by
        have h2 := hbl.out
        rw [Hid, HLk.out, List.length_singleton]; omega
      clear HE hb3 hrow HLk
      generalize ((domsP s.1 N).take k).map (fun v => ((cntP s v Q : Nat) : Int)) = Pre at HT HR3 HLb2
      go_wp2_with (at_builtin; go_must (refine row_append RInt.firm (A := (fun _ => False)) (w0 := w2) rfl _ _ 44 3 rfl _ 8 infoI9 Tryz.underlying44 rfl (by decide) (by decide) u3 Pre rfl HR3.out ⟨wr.heap.size, 0, none⟩ 1 1 _ [c] rfl rfl HCh.out HX.out H1.out HLb2.out ?_); intro v4 w4 hrow4 hg4)
      have HNx : Hid (Row RInt 1 (fun _ => False) w2 w4 3 v4 (((domsP s.1 N).take (k + 1)).map (fun v => ((cntP s v Q : Nat) : Int)))) := by rw [Hid, HT.out]; exact hrow4
      clear hrow4 hg4 HT HR3 HCh HX H1
      go_roundw
      case rel => exact ⟨k + 1, by omega, by go_num, HNx⟩
      case measure => simp [intOf]; omega
    · have hk' : (domsP s.1 N).take k = domsP s.1 N := List.take_of_length_le (by rw [HN.out]; omega)
      have HNx : Hid (Row RInt 1 (fun _ => False) w wr 3 u3 (cntsL s N Q)) := by rw [hk'] at hrow; exact hrow.out.from RInt.firm HB2.out (fun _ h => h)
      clear hrow hk'
      go_wp2_with fail
      go_ret
      exact ⟨u3, rfl, HNx.out⟩
end Go.Proofs.YtillkgflppabfaaGreatDoor
