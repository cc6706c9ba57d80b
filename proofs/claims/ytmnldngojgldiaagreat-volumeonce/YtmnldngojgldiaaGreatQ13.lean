/- Slices of texts, labels and what is asked, told in the words of layer 2; calls of layers 2 and 3 over them. Plain facts on worlds. No condition. The document's Domains. Condition: the arguments lie as is said of them. The document's Count of layer 9. Condition: the arguments lie as is said of them. A map of numbers by text: which texts have an entry, and what is told of each; 'm[s]++'; its keys, sorted. Plain facts on worlds. No condition. A map that tells of each name of a list where its first one stands: made, asked, added to; its values, sorted. Plain facts on worlds. No condition. -/
import Derived.Test.YtmnldngojgldiaaGreatQ09
import Derived.Test.YtmnldngojgldiaaGreatQ12
import Derived.Test.YtmnldngojgldiaaGreatQ08
import Derived.Test.YtmnldngojgldiaaGreatQ07
import Derived.Maps.Range
import Derived.Maps.OwnSet
import Derived.Sort.KeysCollected
import Derived.Test.YtmnldngojgldiaaGreatQ06
namespace Go.Proofs.YtmnldngojgldiaaGreat
open Go.RowKit
set_option linter.unusedSimpArgs false
set_option maxRecDepth 100000

theorem strs_of {A : Where} {w : World} {a : Option Addr} {n cap : Nat} {L : List ByteArray} (h : SlAt RStr 1 16 A w a n cap L) : StrsAt w a L := by
  have hl := h.len (by decide)
  obtain ⟨hn, h2, h3, h4, h5⟩ := h
  refine ⟨by omega, fun x hx => ?_, fun hne => ?_⟩
  · obtain ⟨i, hi, rfl⟩ := List.mem_iff_getElem.1 hx
    obtain ⟨B, off, _, _, _, hc⟩ := h5 (by omega)
    obtain ⟨cs, hr, _⟩ := hc i (by omega)
    have := hr.2
    rwa [getE _ _ hi] at this
  · have hpos : 0 < n := by have := List.length_pos_iff.2 hne; omega
    obtain ⟨B, off, e, hB, _, hc⟩ := h5 hpos
    refine ⟨B, off, e, hB, fun i hi => ?_⟩
    obtain ⟨cs, ⟨rfl, _⟩, hv⟩ := hc i (by omega)
    have := hv 0 _ rfl
    simpa using this
theorem labs_of {A : Where} {w : World} {a : Option Addr} {n cap : Nat} {L : List Lab} (h : SlAt RLabel 2 32 A w a n cap L) : LabsAt w a L := by
  have hl := h.len (by decide)
  obtain ⟨hn, h2, h3, h4, h5⟩ := h
  refine ⟨by omega, fun x hx => ?_, fun hne => ?_⟩
  · obtain ⟨i, hi, rfl⟩ := List.mem_iff_getElem.1 hx
    obtain ⟨B, off, _, _, _, hc⟩ := h5 (by omega)
    obtain ⟨cs, hr, _⟩ := hc i (by omega)
    have := hr.out.2
    rwa [getE _ _ hi] at this
  · have hpos : 0 < n := by have := List.length_pos_iff.2 hne; omega
    obtain ⟨B, off, e, hB, _, hc⟩ := h5 hpos
    refine ⟨B, off, e, hB, fun i hi => ?_⟩
    obtain ⟨cs, hr, hv⟩ := hc i (by omega)
    obtain ⟨rfl, _⟩ := hr.out
    exact ⟨hv 0 _ rfl, hv 1 _ rfl⟩
theorem asks_of {A : Where} {w : World} {a : Option Addr} {n cap : Nat} {L : List Ask} (h : SlAt RReq 3 48 A w a n cap L) : AsksAt w a L := by
  have hl := h.len (by decide)
  obtain ⟨hn, h2, h3, h4, h5⟩ := h
  refine ⟨by omega, fun x hx => ?_, fun hne => ?_⟩
  · obtain ⟨i, hi, rfl⟩ := List.mem_iff_getElem.1 hx
    obtain ⟨B, off, _, _, _, hc⟩ := h5 (by omega)
    obtain ⟨cs, hr, _⟩ := hc i (by omega)
    obtain ⟨_, _, this, _⟩ := hr.out
    rwa [getE _ _ hi] at this
  · have hpos : 0 < n := by have := List.length_pos_iff.2 hne; omega
    obtain ⟨B, off, e, hB, _, hc⟩ := h5 hpos
    refine ⟨B, off, e, hB, fun i hi => ?_⟩
    obtain ⟨cs, hr, hv⟩ := hc i (by omega)
    obtain ⟨hd, rfl, _, hs⟩ := hr.out
    refine ⟨hv 0 _ rfl, hv 1 _ rfl, hd.1, hd.2.2, ?_, strs_of hs⟩
    have := hv 2 _ rfl
    rw [← hs.1] at this
    exact this
theorem Match_sl (a : Option Addr) (n cap : Nat) (A : Where) (L : List Lab) (b : Option Addr) (m capb : Nat) (A' : Where) (R : List Ask) (w : World) (hL : Hid (SlAt RLabel 2 32 A w a n cap L)) (hR : Hid (SlAt RReq 3 48 A' w b m capb R)) : Calls Tryz.prog 50 #[.slice a n cap, .slice b m capb] w fun e w' => e = .returned (.bool (matchL L R)) ∧ Below w.heap.size w w' := by
  have h := Match_calls a cap L b capb R w (labs_of hL.out) (asks_of hR.out)
  rw [hL.out.1, hR.out.1] at h
  exact h
end Go.Proofs.YtmnldngojgldiaaGreat
namespace Go.Proofs.YtmnldngojgldiaaGreat
open Go.RowKit
set_option linter.unusedSimpArgs false
set_option maxRecDepth 100000

theorem take_at9 {α : Type} [Inhabited α] {L : List α} {k : Nat} (h : k < L.length) : L.take k ++ [L.getD k default] = L.take (k + 1) := by
  rw [List.getD_eq_getElem?_getD, List.getElem?_eq_getElem h]
  simp
theorem vals_take (key : ByteArray) {N : List NodeD} {k : Nat} (h : k < N.length) : valsP key (N.take (k + 1)) = valsP key (N.take k) ++ (if (getL (nLabs (N.getD k default)) key).2 = true then [(getL (nLabs (N.getD k default)) key).1] else []) := by
  rw [← take_at9 h]
  generalize N.getD k default = y
  unfold valsP
  rw [List.filter_append, List.map_append]
  congr 1
  rw [List.filter_cons]
  split
  · simp
  · simp
theorem vals_le (key : ByteArray) (N : List NodeD) : (valsP key N).length ≤ N.length := by
  unfold valsP
  rw [List.length_map]
  exact List.length_filter_le _ _
theorem getL_size {A : Where} {w : World} {a : Option Addr} {n cap : Nat} {L : List Lab} (h : SlAt RLabel 2 32 A w a n cap L) (key : ByteArray) : (getL L key).1.size ≤ 140737488355328 := by
  unfold getL
  split
  · rename_i x hx
    have hm := List.mem_of_find?_eq_some hx
    obtain ⟨i, hi, rfl⟩ := List.mem_iff_getElem.1 hm
    have hl := h.1
    obtain ⟨B, off, _, _, _, cs, hr, _⟩ := h.get (i := i) (by omega)
    rw [List.getD_eq_getElem?_getD, List.getElem?_eq_getElem hi] at hr
    obtain ⟨_, _, _, _, hz⟩ := hr
    exact hz.2
  · exact Nat.zero_le _
theorem infoS9 : (Tryz.prog.info? 9).map (fun i => (i.zero, i.size, i.bytes)) = some (some (.string ⟨#[]⟩), 1, 16) := by kernel_rfl
end Go.Proofs.YtmnldngojgldiaaGreat
namespace Go.Proofs.YtmnldngojgldiaaGreat
open Go.RowKit
set_option linter.unusedSimpArgs false
set_option maxRecDepth 100000

theorem cnt_take (s : SpreadD) (v : ByteArray) {L : List PlacedD} {k : Nat} (h : k < L.length) : cntP s v (L.take (k + 1)) = cntP s v (L.take k) + (if inS s v (L.getD k default) = true then 1 else 0) := by
  rw [← take_at9 h, cnt_snoc]
theorem cnt_le (s : SpreadD) (v : ByteArray) (L : List PlacedD) : cntP s v L ≤ L.length := by unfold cntP; exact List.length_filter_le _ _
theorem RPlaced.reads9 {A : Where} {w : World} {cs : List Value} {x : PlacedD} (h : RPlaced A w cs x) : ∃ h2 h16 : Hd, cs[2]? = some (.slice h2.1 h2.2.1 h2.2.2) ∧ cs[16]? = some (.slice h16.1 h16.2.1 h16.2.2) ∧ SlAt RLabel 2 32 A w h2.1 h2.2.1 h2.2.2 (pLabs x.1) ∧ SlAt RLabel 2 32 A w h16.1 h16.2.1 h16.2.2 x.2 := by
  obtain ⟨ps, qs, rfl, h1, a, n, c, rfl, h3⟩ := h
  obtain ⟨h2, h6, h7, h8, h9, h10, h11, h12, h13, rfl, _, s2, _⟩ := h1.out
  exact ⟨h2, (a, n, c), rfl, rfl, s2, h3⟩
def CtS (D B o : Nat) (key : ByteArray) (r c g : Hd) (u : World) : Prop :=
  u.cell? ⟨D, 0, none⟩ = some (.string key) ∧ u.cell? ⟨D, 3, none⟩ = some (.slice r.1 r.2.1 r.2.2) ∧ u.cell? ⟨B, o + 2, none⟩ = some (.slice c.1 c.2.1 c.2.2) ∧ u.cell? ⟨B, o + 16, none⟩ = some (.slice g.1 g.2.1 g.2.2)
end Go.Proofs.YtmnldngojgldiaaGreat
namespace Go.Proofs.YtmnldngojgldiaaGreat
open Go.RowKit Go.Maps Go.ChangeMaps
set_option linter.unusedSimpArgs false
set_option maxRecDepth 100000

theorem law9 : Keyed Tryz.prog 9 := string_keyed Tryz.underlying9
theorem maxLen9 : (140737488355328 : Nat) ≤ maxLen := by decide
theorem zeroI9 (w : World) : (zeroValue 3).run Tryz.prog w = .ok (.int .i64 0) w := by kernel_rfl
/-- What a text reads as, as a key. -/
def kT (s : ByteArray) : Lit := .string s.data.toList
theorem kT_key {s : ByteArray} (h : s.size ≤ 140737488355328) : keyOf Tryz.prog 9 (.string s) = some (kT s) := WideMaps.keyOf_string_mk Tryz.underlying9 (Nat.le_trans h maxLen9)
theorem kT_is (s : ByteArray) : WideAt.IsKeyLit (kT s) := by unfold kT; trivial
theorem kT_inj {s t : ByteArray} (h : kT s = kT t) : s = t := by
  unfold kT at h
  simp only [Lit.string.injEq] at h
  cases s; cases t
  simpa using h
abbrev OwnsT (w : World) (mb n : Nat) (D : DataW Unit) : Prop := w.ownsMap Tryz.prog 9 (plainElem Tryz.prog 3) mb n D
/-- Block mb is a map that tells f of each text; q: which texts have an entry; at most n entries, none above n. -/
def MpAt (w : World) (mb n : Nat) (f : ByteArray → Nat) (q : ByteArray → Bool) : Prop :=
  ∃ D : DataW Unit, OwnsT w mb n D ∧ (∀ s, Maps.has D (kT s) = q s ∧ D.atKey (kT s) (.lit (.int .i64 0)) = .lit (.int .i64 (f s : Int))) ∧ ∀ s, f s ≤ n
theorem MpAt.lt {w : World} {mb n : Nat} {f : ByteArray → Nat} {q : ByteArray → Bool} (h : MpAt w mb n f q) : mb < w.heap.size := by obtain ⟨D, h1, _⟩ := h; exact h1.lt
theorem MpAt.same {w w' : World} {mb n : Nat} {f : ByteArray → Nat} {q : ByteArray → Bool} (h : MpAt w mb n f q) (hb : w'.heap[mb]? = w.heap[mb]?) : MpAt w' mb n f q := by
  obtain ⟨D, ⟨es, ck, h1, h2⟩, h3⟩ := h
  exact ⟨D, ⟨es, ck, hb.trans h1, h2⟩, h3⟩
theorem MpAt.on {w w' : World} {mb n : Nat} {f : ByteArray → Nat} {q : ByteArray → Bool} (h : MpAt w mb n f q) (hb : Below w.heap.size w w') : MpAt w' mb n f q := h.same (hb.block mb h.lt)
theorem MpAt.turned {w w' : World} {mb n : Nat} {f : ByteArray → Nat} {q : ByteArray → Bool} {F : Where} (h : MpAt w mb n f q) (ht : Turns F w w') (hF : ¬ F mb) : MpAt w' mb n f q := h.same (ht.block mb h.lt hF)
theorem MpAt.made (w : World) : MpAt (w.alloc (.map #[] 0)) w.heap.size 0 (fun _ => 0) (fun _ => false) :=
  ⟨.map [], World.ownsMap_made _ _ _ _, fun _ => ⟨rfl, rfl⟩, fun _ => Nat.le_refl _⟩
theorem MpAt.mono {w : World} {mb n n' : Nat} {f : ByteArray → Nat} {q : ByteArray → Bool} (h : MpAt w mb n f q) (hn : n ≤ n') : MpAt w mb n' f q := by
  obtain ⟨D, h1, h2, h3⟩ := h
  exact ⟨D, h1.mono hn, h2, fun s => Nat.le_trans (h3 s) hn⟩
theorem MpAt.as {w : World} {mb n : Nat} {f g : ByteArray → Nat} {q r : ByteArray → Bool} (h : MpAt w mb n f q) (e : ∀ s, f s = g s) (e' : ∀ s, q s = r s) : MpAt w mb n g r := by
  obtain rfl : f = g := funext e
  obtain rfl : q = r := funext e'
  exact h
theorem MpAt.le {w : World} {mb n : Nat} {f : ByteArray → Nat} {q : ByteArray → Bool} (h : MpAt w mb n f q) (s : ByteArray) : f s ≤ n := by obtain ⟨_, _, _, h3⟩ := h; exact h3 s
/-- 'm[s]'. -/
theorem MpAt.look {w : World} {mb n : Nat} {f : ByteArray → Nat} {q : ByteArray → Bool} (h : MpAt w mb n f q) (t : TypeId) (ht : Tryz.prog.underlying t = some (.map 9 3)) {s : ByteArray} (hs : s.size ≤ 140737488355328) :
    (Instr.lookup t (.map (some mb)) (.string s) false).run Tryz.prog w = .ok (.int .i64 (f s : Int)) w := by
  obtain ⟨D, h1, h2, _⟩ := h
  obtain ⟨c, hrun, hat, _⟩ := h1.lookup_int law9 ht Tryz.underlying3 (zeroI9 w) (kT_key hs)
  rw [(h2 s).2] at hat
  obtain rfl : (f s : Int) = c := by simpa using hat
  exact hrun
/-- One more at s. -/
def upF (f : ByteArray → Nat) (s : ByteArray) : ByteArray → Nat := fun t => if sEq t s = true then f t + 1 else f t
def upQ (q : ByteArray → Bool) (s : ByteArray) : ByteArray → Bool := fun t => q t || sEq t s
/-- 'm[s]++': it is looked up and stored. -/
theorem MpAt.inc {w : World} {mb n : Nat} {f : ByteArray → Nat} {q : ByteArray → Bool} (h : MpAt w mb n f q) (t : TypeId) (ht : Tryz.prog.underlying t = some (.map 9 3)) {s : ByteArray} (hs : s.size ≤ 140737488355328) (hn : n < 140737488355328) :
    ∃ w' : World, (Instr.mapUpdate t (.map (some mb)) (.string s) (.int .i64 ((f s : Int) + 1))).run Tryz.prog w = .ok () w' ∧ MpAt w' mb (n + 1) (upF f s) (upQ q s) ∧ w.grownBy w' (some mb) := by
  obtain ⟨D, h1, h2, h3⟩ := h
  have hle := h3 s
  obtain ⟨w', hes, hown, hg'⟩ := h1.update law9 ht (Nat.lt_of_lt_of_le hn maxLen9) (kT_key hs) (plainElem_int (H := Unit) Tryz.underlying3 (q := .i64) (a := (f s : Int) + 1) (WalkArith.wf_i64 (by omega)))
  refine ⟨w', hes, ⟨_, hown, fun t => ?_, fun t => ?_⟩, hg'⟩
  · unfold upF upQ
    by_cases e : sEq t s = true
    · rw [if_pos e, e, (sEq_iff _ _).1 e, has_put_same h1.isMap (kT_is _), atKey_put_same h1.isMap (kT_is _)]
      exact ⟨by simp, by simp⟩
    · have hne : kT t ≠ kT s := fun x => e ((sEq_iff _ _).2 (kT_inj x))
      rw [if_neg e, has_put_other hne, atKey_put_other hne, (h2 t).1, (h2 t).2]
      simp only [Bool.not_eq_true] at e
      rw [e]
      exact ⟨by simp, rfl⟩
  · have := h3 t
    unfold upF
    split <;> omega
theorem cb_le9 : ∀ a b : List UInt8, Lib.compareBytes a b < 0 → a ≤ b
  | [], _, _ => List.nil_le _
  | _ :: _, [], h => by simp [Lib.compareBytes] at h
  | a :: xs, b :: ys, h => by
    rw [List.cons_le_cons_iff]
    rcases cb_cons a b xs ys with ⟨p, e⟩ | ⟨p, e⟩ | ⟨p, e⟩
    · exact .inl (UInt8.lt_iff_toNat_lt.2 p)
    · rw [e] at h; omega
    · rw [e] at h; exact .inr ⟨UInt8.toNat_inj.1 p, cb_le9 xs ys h⟩
theorem le_of_sLt {a b : ByteArray} (h : sLt a b = true) : a.data.toList ≤ b.data.toList := cb_le9 _ _ ((sLt_iff a b).1 h)
/-- The map's keys, sorted. -/
theorem MpAt.keys {w : World} {mb n : Nat} {f : ByteArray → Nat} {q : ByteArray → Bool} (h : MpAt w mb n f q) : ∃ D : DataW Unit, OwnsT w mb n D ∧ Maps.size D ≤ n ∧
    ∀ (M : List ByteArray) (ss : List (List UInt8)), Srt9 M → (∀ x, x ∈ M ↔ q x = true) → ss.Perm (strKeys D) → ss.mergeSort (fun x y => decide (x ≤ y)) = M.map (fun s => s.data.toList) := by
  obtain ⟨D, h1, h2, h3⟩ := h
  refine ⟨D, h1, h1.size_le, fun M ss hM hq hp => ?_⟩
  have hnd : (M.map (fun s : ByteArray => s.data.toList)).Nodup := by
    refine List.pairwise_map.2 (hM.imp fun {a b} hab e => ?_)
    have : a = b := by cases a; cases b; simpa using e
    subst this
    exact sLt_irr a hab
  have hperm : (M.map (fun s : ByteArray => s.data.toList)).Perm (strKeys D) := by
    obtain ⟨es, hD, hpw, _⟩ := h1.entries law9
    obtain ⟨es', hD', hko⟩ := h1.keysOf
    obtain rfl : es = es' := by rw [hD] at hD'; simpa using hD'
    subst hD
    refine perm_strKeys hpw (fun p hp => by obtain ⟨v, hv⟩ := hko p hp; obtain ⟨x, _, hx, _⟩ := Maps.keyOf_str Tryz.underlying9 hv; exact ⟨x, hx⟩) hnd (fun x => ?_)
    have e := (h2 ⟨x.toArray⟩).1
    rw [show kT ⟨x.toArray⟩ = .string x from by simp [kT]] at e
    rw [e, ← hq, List.mem_map]
    constructor
    · rintro ⟨s, hs, rfl⟩; simpa using hs
    · intro hx; exact ⟨_, hx, by simp⟩
  have e1 := mergeSort_of_perm (hp.trans hperm.symm)
  rw [show (fun x y : List UInt8 => decide (x ≤ y)) = leB from rfl, e1]
  refine List.mergeSort_of_pairwise (List.pairwise_map.2 (hM.imp fun {a b} hab => ?_))
  simpa [leB] using le_of_sLt hab
end Go.Proofs.YtmnldngojgldiaaGreat
namespace Go.Proofs.YtmnldngojgldiaaGreat
open Go.RowKit Go.Maps
set_option linter.unusedSimpArgs false
set_option maxRecDepth 100000

/-- Block mb is a map that tells of each name of N where its first one stands. -/
def NmAt (w : World) (mb : Nat) (N : List ByteArray) : Prop :=
  ∃ D : DataW Unit, OwnsT w mb N.length D ∧ ∀ s, Maps.has D (kT s) = (fI N s).isSome ∧ D.atKey (kT s) (.lit (.int .i64 0)) = .lit (.int .i64 (((fI N s).getD 0 : Nat) : Int))
theorem NmAt.lt {w : World} {mb : Nat} {N : List ByteArray} (h : NmAt w mb N) : mb < w.heap.size := by obtain ⟨D, h1, _⟩ := h; exact h1.lt
theorem NmAt.same {w w' : World} {mb : Nat} {N : List ByteArray} (h : NmAt w mb N) (hb : w'.heap[mb]? = w.heap[mb]?) : NmAt w' mb N := by
  obtain ⟨D, ⟨es, ck, h1, h2⟩, h3⟩ := h
  exact ⟨D, ⟨es, ck, hb.trans h1, h2⟩, h3⟩
theorem NmAt.on {w w' : World} {mb : Nat} {N : List ByteArray} (h : NmAt w mb N) (hb : Below w.heap.size w w') : NmAt w' mb N := h.same (hb.block mb h.lt)
theorem NmAt.kept {w w' : World} {mb : Nat} {N : List ByteArray} {A : Where} (h : NmAt w mb N) (hb : Kept A w w') (hA : A mb) : NmAt w' mb N := h.same (hb.2 mb hA h.lt)
theorem NmAt.made (w : World) : NmAt (w.alloc (.map #[] 0)) w.heap.size [] :=
  ⟨.map [], World.ownsMap_made _ _ _ _, fun _ => ⟨rfl, rfl⟩⟩
theorem fI_snoc (N : List ByteArray) (x s : ByteArray) : fI (N ++ [x]) s = match fI N s with | some k => some k | none => if sEq x s = true then some N.length else none := by
  unfold fI
  rw [List.findIdx?_append]
  cases h : List.findIdx? (fun x => sEq x s) N with
  | some k => rfl
  | none =>
    simp only [List.findIdx?_cons, List.findIdx?_nil]
    cases sEq x s <;> simp
/-- 'k, there := m[s]'. -/
theorem NmAt.look {w : World} {mb : Nat} {N : List ByteArray} (h : NmAt w mb N) (t : TypeId) (ht : Tryz.prog.underlying t = some (.map 9 3)) {s : ByteArray} (hs : s.size ≤ 140737488355328) :
    (Instr.lookup t (.map (some mb)) (.string s) true).run Tryz.prog w = .ok (.tuple #[.int .i64 (((fI N s).getD 0 : Nat) : Int), .bool (fI N s).isSome]) w := by
  obtain ⟨D, h1, h2⟩ := h
  obtain ⟨v, ps, hrun, hv⟩ := h1.look_ok law9 ht (zeroI9 w) (plainElem_int (H := Unit) Tryz.underlying3 (q := .i64) (a := 0) (by decide)) (kT_key hs)
  rw [(h2 s).1] at hrun
  rw [(h2 s).2] at hv
  obtain ⟨c, rfl, hc, _⟩ := plainElem_int_inv Tryz.underlying3 hv
  have := congrArg Prod.fst hc
  obtain rfl : (((fI N s).getD 0 : Nat) : Int) = c := by simpa using this
  exact hrun
/-- 'm[s] = k', where s is not there and k is how many there are. -/
theorem NmAt.put {w : World} {mb : Nat} {N : List ByteArray} (h : NmAt w mb N) (t : TypeId) (ht : Tryz.prog.underlying t = some (.map 9 3)) {s : ByteArray} (hs : s.size ≤ 140737488355328) (hno : fI N s = none) (hn : N.length < 140737488355328) :
    ∃ w' : World, (Instr.mapUpdate t (.map (some mb)) (.string s) (.int .i64 (N.length : Int))).run Tryz.prog w = .ok () w' ∧ NmAt w' mb (N ++ [s]) ∧ w.grownBy w' (some mb) := by
  obtain ⟨D, h1, h2⟩ := h
  obtain ⟨w', hes, hown, hg'⟩ := h1.update law9 ht (Nat.lt_of_lt_of_le hn maxLen9) (kT_key hs) (plainElem_int (H := Unit) Tryz.underlying3 (q := .i64) (a := (N.length : Int)) (WalkArith.wf_i64 (by omega)))
  refine ⟨w', hes, ⟨_, by rw [List.length_append, List.length_singleton]; exact hown, fun t => ?_⟩, hg'⟩
  rw [fI_snoc]
  by_cases e : sEq s t = true
  · obtain rfl := (sEq_iff _ _).1 e
    rw [has_put_same h1.isMap (kT_is _), atKey_put_same h1.isMap (kT_is _), hno]
    simp only [if_pos e]
    exact ⟨by simp, by simp⟩
  · have hne : kT t ≠ kT s := fun x => e ((sEq_iff _ _).2 (kT_inj x).symm)
    rw [has_put_other hne, atKey_put_other hne, (h2 t).1, (h2 t).2]
    simp only [if_neg e]
    cases fI N t <;> exact ⟨by simp, by simp⟩
/-- .. and where s is there already nothing is stored: it tells of one more all the same. -/
theorem NmAt.more {w : World} {mb : Nat} {N : List ByteArray} (h : NmAt w mb N) {s : ByteArray} {k : Nat} (hs : fI N s = some k) : NmAt w mb (N ++ [s]) := by
  obtain ⟨D, h1, h2⟩ := h
  refine ⟨D, h1.mono (by simp), fun t => ?_⟩
  rw [fI_snoc, (h2 t).1, (h2 t).2]
  cases hf : fI N t with
  | some k => exact ⟨by simp, by simp⟩
  | none =>
    have e : ¬ sEq s t = true := fun e => by rw [(sEq_iff _ _).1 e, hf] at hs; cases hs
    simp only [if_neg e]
    exact ⟨by simp, by simp⟩
/-- The places of the first ones. -/
def firstsI (N : List ByteArray) : List Nat := (List.range N.length).filter (fun k => decide (fI N (N.getD k default) = some k))
theorem mem_firstsI (N : List ByteArray) (k : Nat) : k ∈ firstsI N ↔ ∃ s, fI N s = some k := by
  unfold firstsI
  rw [List.mem_filter, List.mem_range, decide_eq_true_eq]
  constructor
  · rintro ⟨_, h⟩; exact ⟨_, h⟩
  · rintro ⟨s, h⟩
    obtain ⟨h1, h2, _⟩ := fI_some h
    exact ⟨h1, by rw [h2]; exact h⟩
theorem firstsI_lt (N : List ByteArray) : (firstsI N).Pairwise (· < ·) := List.Pairwise.filter _ List.pairwise_lt_range
theorem firstsI_nodup {N : List ByteArray} (h : N.Nodup) : firstsI N = List.range N.length := by
  unfold firstsI
  rw [List.filter_eq_self]
  intro k hk
  rw [decide_eq_true_eq]
  exact fI_once h (List.mem_range.1 hk)
theorem firstsI_len (N : List ByteArray) : (firstsI N).length ≤ N.length := by
  unfold firstsI
  have := List.length_filter_le (fun k => decide (fI N (N.getD k default) = some k)) (List.range N.length)
  rwa [List.length_range] at this
/-- The map's values, sorted: the places of the first ones. -/
theorem NmAt.values {w : World} {mb : Nat} {N : List ByteArray} (h : NmAt w mb N) : ∃ D : DataW Unit, OwnsT w mb N.length D ∧ Maps.size D = (firstsI N).length ∧
    ∀ ps : List (List UInt8 × Int), (ps.map (·.1)).Perm (strKeys D) → (∀ p ∈ ps, ∀ zd, D.atKey (.string p.1) zd = .lit (.int .i64 p.2)) → (ps.map (·.2)).mergeSort (fun x y => decide (x ≤ y)) = (firstsI N).map (fun k : Nat => (k : Int)) := by
  obtain ⟨D, h1, h2⟩ := h
  have hk : ∀ x : List UInt8, kT ⟨x.toArray⟩ = .string x := fun x => by simp [kT]
  have hMnd : ((firstsI N).map (fun k => (N.getD k default).data.toList)).Nodup := by
    refine List.pairwise_map.2 ((firstsI_lt N).imp_of_mem fun {a b} ha hb hab e => ?_)
    obtain ⟨sa, ea⟩ := (mem_firstsI N a).1 ha
    obtain ⟨sb, eb⟩ := (mem_firstsI N b).1 hb
    have e1 : N.getD a default = N.getD b default := by
      generalize N.getD a default = p at e
      generalize N.getD b default = q at e
      cases p; cases q; simpa using e
    rw [(fI_some ea).2.1, (fI_some eb).2.1] at e1
    rw [e1, eb] at ea
    injection ea with ea
    omega
  have hperm : ((firstsI N).map (fun k => (N.getD k default).data.toList)).Perm (strKeys D) := by
    obtain ⟨es, hD, hpw, _⟩ := h1.entries law9
    obtain ⟨es', hD', hko⟩ := h1.keysOf
    obtain rfl : es = es' := by rw [hD] at hD'; simpa using hD'
    subst hD
    refine perm_strKeys hpw (fun p hp => by obtain ⟨v, hv⟩ := hko p hp; obtain ⟨x, _, hx, _⟩ := Maps.keyOf_str Tryz.underlying9 hv; exact ⟨x, hx⟩) hMnd (fun x => ?_)
    have e := (h2 ⟨x.toArray⟩).1
    rw [hk] at e
    rw [e, List.mem_map]
    constructor
    · rintro ⟨k, hk1, rfl⟩
      obtain ⟨s, hs⟩ := (mem_firstsI N k).1 hk1
      rw [show (⟨(N.getD k default).data.toList.toArray⟩ : ByteArray) = N.getD k default by simp, (fI_some hs).2.1, hs]
      rfl
    · intro hx
      obtain ⟨k, hk1⟩ := Option.isSome_iff_exists.1 hx
      exact ⟨k, (mem_firstsI N k).2 ⟨_, hk1⟩, by rw [(fI_some hk1).2.1]⟩
  have hval : ∀ (x : List UInt8) (k : Nat), fI N ⟨x.toArray⟩ = some k → ∀ (y : Int), (∀ zd, D.atKey (.string x) zd = .lit (.int .i64 y)) → y = k := fun x k hx y hy => by
    have e := (h2 ⟨x.toArray⟩).2
    rw [hk, hy, hx] at e
    simpa using e
  refine ⟨D, h1, ?_, fun ps hps hv => ?_⟩
  · have := hperm.length_eq
    rw [List.length_map] at this
    rw [this]
    obtain ⟨es, hD, _, _⟩ := h1.entries law9
    subst hD
    simp [Maps.size, strKeys]
  · have hp2 : (ps.map (·.1)).Perm ((firstsI N).map (fun k => (N.getD k default).data.toList)) := hps.trans hperm.symm
    have hfk : ∀ p ∈ ps, p.2 = (((fI N ⟨p.1.toArray⟩).getD 0 : Nat) : Int) := fun p hp => by
      have hm : p.1 ∈ (firstsI N).map (fun k => (N.getD k default).data.toList) := hp2.mem_iff.1 (List.mem_map.2 ⟨p, hp, rfl⟩)
      obtain ⟨k, hk1, hk2⟩ := List.mem_map.1 hm
      obtain ⟨s, hs⟩ := (mem_firstsI N k).1 hk1
      have e1 : fI N ⟨p.1.toArray⟩ = some k := by
        rw [← hk2, show (⟨(N.getD k default).data.toList.toArray⟩ : ByteArray) = N.getD k default by simp, (fI_some hs).2.1]
        exact hs
      rw [e1]
      exact hval _ _ e1 _ (hv p hp)
    have e3 : ps.map (·.2) = (ps.map (·.1)).map (fun x => (((fI N ⟨x.toArray⟩).getD 0 : Nat) : Int)) := by
      rw [List.map_map]
      exact List.map_congr_left (fun p hp => hfk p hp)
    have hp4 : (ps.map (·.2)).Perm ((firstsI N).map (fun k : Nat => (k : Int))) := by
      rw [e3]
      refine (hp2.map _).trans ?_
      rw [List.map_map]
      refine List.Perm.of_eq (List.map_congr_left (fun k hk1 => ?_))
      obtain ⟨s, hs⟩ := (mem_firstsI N k).1 hk1
      show (((fI N ⟨(N.getD k default).data.toList.toArray⟩).getD 0 : Nat) : Int) = k
      rw [show (⟨(N.getD k default).data.toList.toArray⟩ : ByteArray) = N.getD k default by simp, (fI_some hs).2.1, hs]
      rfl
    have htr : ∀ a b c : Int, decide (a ≤ b) = true → decide (b ≤ c) = true → decide (a ≤ c) = true := fun a b c h1 h2 => by simp at *; omega
    have htot : ∀ a b : Int, (decide (a ≤ b) || decide (b ≤ a)) = true := fun a b => by simp; omega
    refine List.Perm.eq_of_pairwise (le := fun a b : Int => a ≤ b) (fun a b _ _ h1 h2 => Int.le_antisymm h1 h2) ?_ ?_ ((List.mergeSort_perm _ _).trans hp4)
    · exact (List.pairwise_mergeSort htr htot _).imp (fun h => by simpa using h)
    · refine List.pairwise_map.2 ((firstsI_lt N).imp (fun h => by omega))
end Go.Proofs.YtmnldngojgldiaaGreat
