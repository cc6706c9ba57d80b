/- Functions of the program, each walked under the conditions that its theorem names. -/
import Derived.Deep.MidRow
import Derived.DeepKeys4
import Derived.Maps.Range
import Derived.Test.YtnffafjamiffnaaGreatQ05
set_option linter.unusedSimpArgs false
set_option maxRecDepth 100000
set_option maxHeartbeats 32000000
namespace Go.Proofs.YtnffafjamiffnaaGreat
open Go.RowKit
theorem zHB {w u : World} (h : Below w.heap.size w u) {p : Addr} (hp : p.block < w.heap.size) (x : Value) : Below (w.setCell p x).heap.size (w.setCell p x) (u.setCell p x) := by
 refine ⟨h.os, h.tape, h.output, by simpa using h.size, fun k hk => ?_⟩
 have hk' : k < w.heap.size := by simpa using hk
 by_cases e : k = p.block
 ·subst e
  have := h.block p.block hp
  simp only [World.setCell, Array.getElem?_modify, if_true]
  rw [this]
 ·rw [Below.heap_setCell _ _ _ _ e, Below.heap_setCell _ _ _ _ e]
  exact h.block k hk'
section
variable {α : Type} [Inhabited α] {R : Rep α} {k : Nat}
theorem Row.both (hR : Firm R k) {A : Where} {w u : World} {e : TypeId} {v : Value} {L : List α} (h : Row R k A w u e v L) {p : Addr} (hp : p.block < w.heap.size) (hA : ¬ A p.block) (x : Value) : Row R k A (w.setCell p x) (u.setCell p x) e v L := by
 obtain ⟨xs, h1, h2⟩ := h
 refine ⟨xs, ⟨zHB h1.1 hp x, ?_⟩, h2.kept hR (Kept.set (fun h => hA h.1) _)⟩
 have := ownsRow_setCell_below h1.2 hp x
 simpa using this
def Src (R : Rep α) (k : Nat) (A : Where) (u : World) (a : Option Addr) (m : Nat) (N : List α) : Prop :=
 N.length = m /\ ((a = none /\ N = []) \/ ∃ ad xs, a = some ad /\ Chunks R k A u xs N /\ (∀ j y, xs[j]? = some y -> u.cell? (ad.add j) = some y) /\ ∀ y ∈ xs, y.oneCell' = true)
theorem SlAt.src (hR : Firm R k) {bytes : Nat} {A : Where} {u : World} {a : Option Addr} {m c : Nat} {N : List α} (h : SlAt R k bytes A u a m c N) : Src R k A u a m N := by
 cases a with
 | none => obtain ⟨_, _, h3⟩ := sl_none h; exact ⟨h.1, .inl ⟨rfl, h3⟩⟩
 | some ad => obtain ⟨xs, h1, h2, h3⟩ := h.chunks hR; exact ⟨h.1, .inr ⟨ad, xs, rfl, h1, h2, h3⟩⟩
theorem Src.flat (hF : Flat R) {A A' : Where} {u : World} {a : Option Addr} {m : Nat} {N : List α} (h : Src R k A u a m N) : Src R k A' u a m N := by
 obtain ⟨h1, h2⟩ := h
 refine ⟨h1, ?_⟩
 rcases h2 with h2 | ⟨ad, xs, e, h3, h4, h5⟩
 ·exact .inl h2
 ·exact .inr ⟨ad, xs, e, h3.flat hF, h4, h5⟩
end
theorem BoxL.range {u : World} {D : Nat} {cs : List Value} (h : BoxL u D cs) : u.rangeAt D 0 cs := fun j v hj => by rw [Nat.zero_add]; exact (h.2 j v hj).1
theorem BoxL.there {u : World} {D : Nat} {cs : List Value} (h : BoxL u D cs) : u.there D 0 cs.length := fun j hj => by
 have := h.2 j cs[j] (List.getElem?_eq_getElem hj)
 rw [Nat.zero_add, this.1, this.2]
 exact ⟨rfl, rfl⟩
theorem zAo {α : Type} [Inhabited α] {L : List α} {k : Nat} (hk : k < L.length) : L.take k ++ [L.getD k default] = L.take (k + 1) := (take_succ hk).symm
theorem zBO {n k bytes : Nat} (h : n * bytes <= 140737488351232) (hk : k < n) : (k + 1) * bytes <= 140737488355328 := by
 have : (k + 1) * bytes <= n * bytes := Nat.mul_le_mul_right _ hk
 omega
theorem zFC {α : Type} [Inhabited α] {R : Rep α} {enc : α -> List Value} {k bytes : Nat} {ok : α -> Prop} (hR : ∀ {A w cs x}, R A w cs x -> cs = enc x /\ ok x) (hb : 1 <= bytes) {A : Where} {w : World} {a : Option Addr} {n cap : Nat} {L : List α} (h : SlAt R k bytes A w a n cap L) : RowAt enc k ok w a L := by
 have hl := h.len hb
 obtain ⟨hn, h2, h3, h4, h5⟩ := h
 have each : ∀ i, i < n -> ok (L.getD i default) := fun i hi => by
  obtain ⟨B, off, _, _, _, hc⟩ := h5 (by omega)
  obtain ⟨cs, hr, _⟩ := hc i hi
  exact (hR hr).2
 refine ⟨by omega, fun x hx => ?_, fun hne => ?_⟩
 ·obtain ⟨i, hi, rfl⟩ := List.mem_iff_getElem.1 hx
  have := each i (by omega)
  rwa [zB5 _ _ hi] at this
 ·have hpos : 0 < n := by
   rcases Nat.eq_zero_or_pos n with h0 | h0
   ·exact absurd (List.length_eq_zero_iff.1 (by omega)) hne
   ·exact h0
  obtain ⟨B, off, e, hB, _, hc⟩ := h5 hpos
  refine ⟨B, off, e, hB, fun i hi j v hj => ?_⟩
  obtain ⟨cs, hr, hv⟩ := hc i (by omega)
  rw [<- (hR hr).1] at hj
  exact hv j v hj
theorem tnts_of {A : Where} {w : World} {a : Option Addr} {n cap : Nat} {L : List Tnt} (h : SlAt RTaint 3 40 A w a n cap L) : TntsAt w a L :=
 zFC (fun hr => by obtain ⟨rfl, h1, h2⟩ := RTaint.out hr; exact ⟨rfl, h1, h2⟩) (by decide) h
theorem bears_of {A : Where} {w : World} {a : Option Addr} {n cap : Nat} {L : List Bear} (h : SlAt RBear 4 48 A w a n cap L) : BearsAt w a L :=
 zFC (fun hr => by obtain ⟨rfl, h1, h2⟩ := RBear.out hr; exact ⟨rfl, h1, h2⟩) (by decide) h
theorem zD7 (a : Option Addr) (cap : Nat) (V : List ByteArray) (w : World) (hV : Hid (StrsAt w a V)) : Calls Tryz.prog 253 #[.slice a V.length cap] w fun e w' => e = .returned (.bool (decide (V.length = 1) && numB (V.getD 0 default))) /\ w' = w := by
 by_cases h1 : (V.length : Int) = 1
 ·have h1' : ((V.length : Int) == 1) = true := beq_iff_eq.2 h1
  obtain ⟨B, off, rfl, hB, hc, hs⟩ := hV.out.get (k := 0) (by omega)
  have hin := zBY (V.getD 0 default)
  have HF : Hid ((decide (V.length = 1) && numB (V.getD 0 default)) = numB (V.getD 0 default)) := by simp [Hid, show V.length = 1 by omega]
  rw [Nat.add_zero] at hc
  generalize V.getD 0 default = s at hin hc hs HF
  generalize numB s = b at hin HF
  go_enter Tryz.func253, Tryz.ntmps253
  go_wp2_with (go_at_call 252; refine (hin _).mono ?_; rintro e w' ⟨rfl, rfl⟩)
  go_ret
  exact ⟨zDL HF.out.symm, rfl⟩
 ·have h1' : ((V.length : Int) == 1) = false := beq_eq_false_iff_ne.2 h1
  have HF : Hid ((decide (V.length = 1) && numB (V.getD 0 default)) = false) := by simp [Hid]; omega
  go_enter Tryz.func253, Tryz.ntmps253
  go_wp2
  go_ret
  exact ⟨zDL HF.out.symm, rfl⟩
end Go.Proofs.YtnffafjamiffnaaGreat
namespace Go.Proofs.YtnffafjamiffnaaGreat
open Go.RowKit Go.Maps
theorem zGb : laidOutB Tryz.prog = true := by kernel_rfl
theorem rowLab : (161 : TypeId) < Tryz.prog.types.size := of_decide_eq_true (by kernel_rfl)
theorem wideLab : (match Tryz.prog.underlying 161 with | some (.array _ _) | some (.struct _) => true | _ => false) = true := by kernel_rfl
theorem zFc : Keyed Tryz.prog 161 := Keyed.of_law (deep_law_laid zGb (m := 2) (by omega) rowLab (by kernel_rfl) wideLab)
theorem zGz : Tryz.prog.keyType 161 = true := by kernel_rfl
theorem cellsLab : Tryz.prog.cellsOf 161 = 2 := by kernel_rfl
theorem cellsStr : Tryz.prog.cellsOf 9 = 1 := by kernel_rfl
def kL (d : Lab) : Lit := .string (keyBytes [.string d.1.data.toList, .string d.2.data.toList])
theorem keyOf_two {P : Program} {k s : TypeId} {fs : Array Field} {f0 f1 : Field} (hk : P.underlying k = some (.struct fs)) (hfs : fs = #[f0, f1]) (hs : P.underlying s = some .string) (hkt : P.keyType k = true) (hc : P.cellsOf k = 2) (hcs : P.cellsOf s = 1)
  (hn : fs.all (fun f => f.name != "_") = true) (ht0 : f0.type = s) (ht1 : f1.type = s) (ho0 : f0.offset = 0) (ho1 : f1.offset = 1) (hrow : k < P.types.size) {d : Lab} (h1 : d.1.size <= maxLen) (h2 : d.2.size <= maxLen) :
  keyOf P k (.agg #[.string d.1, .string d.2]) = some (kL d) := by
 obtain ⟨m, hm⟩ : ∃ m, P.types.size + 1 = m + 2 := ⟨P.types.size - 1, by have h0 : 0 < P.types.size := Nat.lt_of_le_of_lt (Nat.zero_le k) hrow; omega⟩
 have hf : (Value.agg #[.string d.1, .string d.2]).formed P k = true := by simp [Value.formed, hk, hc]
 have hl : P.keyLits (m + 2) k [.string d.1, .string d.2] = some [.string d.1.data.toList, .string d.2.data.toList] := by
  unfold Program.keyLits
  rw [hk]
  simp only [hc, hn, List.length_cons, List.length_nil, and_self, if_true]
  subst hfs
  simp [ht0, ht1, ho0, ho1, hcs, Program.keyLits, hs, h1, h2]
 unfold keyOf
 rw [hk]
 simp only [hkt, hf, Bool.and_self, if_true, hm]
 have hcl : (Value.agg #[.string d.1, .string d.2]).cells.toList = [.string d.1, .string d.2] := rfl
 rw [hcl, hl]
 rfl
theorem zD9 : (140737488355328 : Nat) <= maxLen := by decide
theorem zDd {d : Lab} (h : okL d) : keyOf Tryz.prog 161 (.agg #[.string d.1, .string d.2]) = some (kL d) :=
 keyOf_two Tryz.underlying161 rfl Tryz.underlying9 zGz cellsLab cellsStr (by kernel_rfl) rfl rfl rfl rfl rowLab (Nat.le_trans h.1 zD9) (Nat.le_trans h.2 zD9)
theorem kL_is (d : Lab) : WideAt.IsKeyLit (kL d) := by unfold kL; trivial
theorem kL_inj {d e : Lab} (hd : okL d) (he : okL e) (h : kL d = kL e) : d = e := by
 have h1 := zFc.inj (zDd hd) (h ▸ zDd he)
 simp only [Value.agg.injEq, Array.mk.injEq, List.cons.injEq, Value.string.injEq, and_true] at h1
 exact Prod.ext h1.1 h1.2
theorem zD5 (w : World) : (zeroValue 3).run Tryz.prog w = .ok (.int .i64 0) w := by kernel_rfl
def TellsF (D : DataW Unit) (f : Lab -> Int) : Prop :=
 (∀ d, okL d -> Maps.has D (kL d) = decide (f d ≠ 0) /\ D.atKey (kL d) (.lit (.int .i64 0)) = .lit (.int .i64 (f d))) /\ ∀ k, Maps.has D k = true -> ∃ d, okL d /\ kL d = k
def CntAt (w : World) (mb n : Nat) (f : Lab -> Int) : Prop :=
 ∃ D : DataW Unit, w.ownsMap Tryz.prog 161 (plainElem Tryz.prog 3) mb n D /\ TellsF D f /\ ∀ d, -(n : Int) <= f d /\ f d <= n
theorem CntAt.lt {w : World} {mb n : Nat} {f : Lab -> Int} (h : CntAt w mb n f) : mb < w.heap.size := by
 obtain ⟨D, h1, _⟩ := h
 exact h1.lt
theorem CntAt.same {w w' : World} {mb n : Nat} {f : Lab -> Int} (h : CntAt w mb n f) (hb : w'.heap[mb]? = w.heap[mb]?) : CntAt w' mb n f := by
 obtain ⟨D, ⟨es, ck, h1, h2⟩, h3⟩ := h
 exact ⟨D, ⟨es, ck, hb.trans h1, h2⟩, h3⟩
theorem CntAt.on {w w' : World} {mb n : Nat} {f : Lab -> Int} (h : CntAt w mb n f) (hb : Below w.heap.size w w') : CntAt w' mb n f := h.same (hb.block mb h.lt)
theorem CntAt.turned {w w' : World} {mb n : Nat} {f : Lab -> Int} {F : Where} (h : CntAt w mb n f) (ht : Turns F w w') (hF : ¬ F mb) : CntAt w' mb n f := h.same (ht.block mb h.lt hF)
theorem CntAt.made (w : World) : CntAt (w.alloc (.map #[] 0)) w.heap.size 0 (fun _ => 0) :=
 ⟨.map [], World.ownsMap_made _ _ _ _, ⟨fun _ _ => ⟨rfl, rfl⟩, fun _ h => (by cases h)⟩, fun _ => (by simp)⟩
theorem CntAt.mono {w : World} {mb n n' : Nat} {f : Lab -> Int} (h : CntAt w mb n f) (hn : n <= n') : CntAt w mb n' f := by
 obtain ⟨D, h1, h2, h4⟩ := h
 exact ⟨D, h1.mono hn, h2, fun d => by have := h4 d; omega⟩
theorem CntAt.as {w : World} {mb n : Nat} {f g : Lab -> Int} (h : CntAt w mb n f) (e : ∀ d, f d = g d) : CntAt w mb n g := by
 obtain rfl : f = g := funext e
 exact h
theorem CntAt.le {w : World} {mb n : Nat} {f : Lab -> Int} (h : CntAt w mb n f) (d : Lab) : -(n : Int) <= f d /\ f d <= n := by
 obtain ⟨D, _, _, h4⟩ := h
 exact h4 d
theorem CntAt.look {w : World} {mb n : Nat} {f : Lab -> Int} (h : CntAt w mb n f) (t : TypeId) (ht : Tryz.prog.underlying t = some (.map 161 3)) {d : Lab} (hd : okL d) :
  (Instr.lookup t (.map (some mb)) (.agg #[.string d.1, .string d.2]) false).run Tryz.prog w = .ok (.int .i64 (f d)) w := by
 obtain ⟨D, h1, ⟨h2, _⟩, _⟩ := h
 obtain ⟨c, hrun, hat, _⟩ := h1.lookup_int zFc ht Tryz.underlying3 (zD5 w) (zDd hd)
 rw [(h2 d hd).2] at hat
 obtain rfl : f d = c := by simpa using hat
 exact hrun
theorem CntAt.len {w : World} {mb n : Nat} {f : Lab -> Int} (h : CntAt w mb n f) (t : TypeId) (ht : Tryz.prog.underlying t = some (.map 161 3)) :
  ∃ c : Int, (∀ ty, (Builtin.len_ #[t] ty #[.map (some mb)]).run Tryz.prog w = .ok (.int .i64 c) w) /\ (c = 0 ↔ ∀ d, okL d -> f d = 0) := by
 obtain ⟨D, h1, ⟨h2, h3⟩, _⟩ := h
 refine ⟨Maps.size D, fun ty => h1.len ht ty, ?_⟩
 constructor
 ·intro hc d hd
  have h4 := (h2 d hd).1
  obtain ⟨es, rfl⟩ := h1.isMap
  have : es = [] := by
   rw [size_eq] at hc
   exact List.length_eq_zero_iff.1 (by omega)
  subst this
  have h5 : Maps.has (DataW.map [] : DataW Unit) (kL d) = false := rfl
  rw [h5] at h4
  by_cases e : f d = 0
  ·exact e
  ·simp [e] at h4
 ·intro hf
  obtain ⟨es, rfl⟩ := h1.isMap
  rw [size_eq]
  cases es with
  | nil => rfl
  | cons p es =>
   exfalso
   obtain ⟨es0, ck, _, F, _, he⟩ := h1
   have hk : ∃ v, keyOf Tryz.prog 161 v = some p.1 := by
    have hkeys := fit_keys F
    have hm : p ∈ (es0.toList.map (WideElems.rg Tryz.prog 161 (plainElem Tryz.prog 3))).foldr DataW.insert [] := by
     have : DataW.map (p :: es) = DataW.map ((es0.toList.map (WideElems.rg Tryz.prog 161 (plainElem Tryz.prog 3))).foldr DataW.insert []) := he
     injection this with this
     rw [<- this]; simp
    exact hkeys p (mem_sorted.1 hm)
   obtain ⟨v, hv⟩ := hk
   have hh : Maps.has (DataW.map (p :: es) : DataW Unit) p.1 = true := by
    rw [has_eq, List.any_cons]
    have : p.1.sameKey p.1 = true := WideAt.sameKey_self (zFc.key hv)
    rw [this]; rfl
   obtain ⟨d, hd, hdk⟩ := h3 _ hh
   have h6 := (h2 d hd).1
   rw [hdk, hh, hf d hd] at h6
   simp at h6
end Go.Proofs.YtnffafjamiffnaaGreat
namespace Go.Proofs.YtnffafjamiffnaaGreat
open Go.RowKit
def sumI (f : Nat -> Int) : Nat -> Int
 | 0 => 0
 | k + 1 => addI (sumI f k) (f k)
theorem box_start (w : World) : Box3 ((w.alloc (.cells #[.int .i64 0, .int .i64 0, .int .i64 0] 41)).alloc (.cells #[.int .i64 0, .int .i64 0, .int .i64 0] 41)) (w.heap.size + 1) 0 0 0 := by
 have q := Box3.new (w.alloc (.cells #[.int .i64 0, .int .i64 0, .int .i64 0] 41)) 41 0 0 0
 rwa [World.size_alloc] at q
theorem Sum_some (B off cap len : Nat) (f g h : Nat -> Int) (w : World) (hlen : len <= 140737488355328) (hB : B < w.heap.size)
  (hc : Hid (∀ i, i < len -> w.cell? ⟨B, off + i * 3, none⟩ = some (.int .i64 (f i)) /\ w.cell? ⟨B, off + i * 3 + 1, none⟩ = some (.int .i64 (g i)) /\ w.cell? ⟨B, off + i * 3 + 2, none⟩ = some (.int .i64 (h i)))) :
  Calls Tryz.prog 150 #[.slice (some ⟨B, off, none⟩) len cap] w fun e w' => e = .returned (.agg #[.int .i64 (sumI f len), .int .i64 (sumI g len), .int .i64 (sumI h len)]) /\ Below w.heap.size w w' := by
 go_enter Tryz.func150, Tryz.ntmps150
 go_wp2_with fail
 go_loopw [8] (fun i wr => ∃ k : Nat, k <= len /\ i = .int .i64 k /\ Box3 wr (w.heap.size + 1) (sumI f k) (sumI g k) (sumI h k) /\ Box3 wr w.heap.size 0 0 0 /\ Below w.heap.size w wr) (fun i _ => len - (intOf i).toNat)
 case atStart => exact ⟨0, Nat.zero_le _, rfl, box_start w, (Box3.new w 41 0 0 0).on ((Below.refl _ _).alloc (Nat.le_refl _) _), ((Below.refl _ _).alloc (Nat.le_refl _) _).alloc (by simp) _⟩
 case round =>
  obtain ⟨k, hk, rfl, hX, hR, hbel⟩ := hrel
  by_cases hkl : k < len
  ·obtain ⟨c0, c1, c2⟩ := hc.out k hkl
   have d0 := (hbel.cell (p := ⟨B, off + k * 3, none⟩) hB).trans c0
   have d1 := (hbel.cell (p := ⟨B, off + k * 3 + 1, none⟩) hB).trans c1
   have d2 := (hbel.cell (p := ⟨B, off + k * 3 + 2, none⟩) hB).trans c2
   clear c0 c1 c2
   obtain ⟨hlt, ⟨s0, s1, s2⟩, sf0, sf1, sf2⟩ := id hX
   go_wp2_with fail
   refine (zDk _ _ _ _ _ _ _).mono ?_
   rintro e w1 ⟨rfl, hb⟩
   have hb' : Below wr.heap.size wr w1 := ((Below.refl wr.heap.size wr).alloc (Nat.le_refl _) _).trans (hb.mono (by simp))
   have hX1 := hX.on hb'
   have hR1 := hR.on hb'
   have hb1 := hbel.trans (hb'.mono hbel.size)
   clear hb hb' s0 s1 s2 sf0 sf1 sf2 d0 d1 d2 hX hR
   obtain ⟨hlt1, ⟨s0, s1, s2⟩, sf0, sf1, sf2⟩ := id hX1
   go_wp2_with fail
   go_roundw
   case rel => exact ⟨k + 1, by omega, by go_num, hX1.set _ _ _, hR1.other (by omega) _ _ _, zHI hb1 (by omega) _ _ _⟩
   case measure => simp [intOf]; omega
  ·obtain rfl : k = len := by omega
   obtain ⟨hlt, ⟨s0, s1, s2⟩, sf0, sf1, sf2⟩ := id hX
   obtain ⟨rlt, ⟨r0, r1, r2⟩, rf0, rf1, rf2⟩ := id hR
   clear hX hR
   go_wp2_with fail
   exact bodyPost_ret (v := .agg #[.int .i64 (sumI f k), .int .i64 (sumI g k), .int .i64 (sumI h k)]) (by simp [results, Tryz.results150, go_sem, r0, r1, r2]) rfl ⟨rfl, ((hbel.setCell (by simp) _).setCell (by simp) _).setCell (by simp) _⟩
end Go.Proofs.YtnffafjamiffnaaGreat
namespace Go.Proofs.YtnffafjamiffnaaGreat
open Go.RowKit Go.Maps
def Lo10 (A : Where) (w : World) : Where := fun b => A b /\ b < w.heap.size
theorem zAt {α : Type} [Inhabited α] {R : Rep α} {k bytes : Nat} {A : Where} {w : World} {n cap : Nat} {L : List α} (h : SlAt R k bytes A w none n cap L) : n = 0 /\ cap = 0 /\ L = [] := by
 obtain ⟨h1, h2, h3, _, _⟩ := h
 have := h3 rfl
 subst this
 obtain rfl : n = 0 := by omega
 exact ⟨rfl, rfl, List.length_eq_zero_iff.1 h1⟩
theorem infcPod : (Tryz.prog.info? 49).map (fun i => (i.zero, i.size, i.bytes)) = some (some (.agg zPod.toArray), 16, 296) := by kernel_rfl
theorem zDf (a : Option Addr) (n cap : Nat) (A : Where) (L : List PodD) (w : World) (hL : SlAt RPod 16 296 A w a n cap L) : Calls Tryz.prog 34 #[.slice a n cap] w fun e w' => ∃ v, e = .returned v /\ Row RPod 16 (Lo10 A w) w w' 49 v L := by
 have hb0 : Below w.heap.size w (w.alloc (.cells #[] 49)) := by go_grown
 rcases a with _ | ad
 ·have hE := fun w => Lib.run_eql_slice_nil (P := Tryz.prog) w 22 49 none 0 0 0 0 Tryz.underlying22
  obtain ⟨rfl, rfl, rfl⟩ := zAt hL
  have HP : Hid (Row RPod 16 (Lo10 A w) w w 49 (.slice none 0 0) ([] : List PodD)) := Row.nil _ _ _
  clear hL
  go_enter Tryz.func34, Tryz.ntmps34
  go_wp2_with fail
  go_ret
  exact ⟨_, rfl, HP.out⟩
 ·have hE := fun w => Lib.run_eql_slice_nil (P := Tryz.prog) w 22 49 (some ad) n cap 0 0 Tryz.underlying22
  have hL' : SlAt RPod 16 296 (Lo10 A w) w (some ad) n cap L := hL.weak RPod.firm (fun b hb h => ⟨h, hb⟩)
  obtain ⟨xs, hc, hcell, hone⟩ := (hL'.on RPod.firm hb0).chunks RPod.firm
  have hn := hL.1
  have hbb := hL.2.2.2.1
  subst hn
  have HR : Hid (Row RPod 16 (Lo10 A w) w (w.alloc (.cells #[] 49)) 49 (.slice (some ⟨w.heap.size, 0, none⟩) 0 0) ([] : List PodD)) := Row.start _ w w _ (Below.refl _ _)
  have HC : Hid (Chunks RPod 16 (fun b => Lo10 A w b /\ Value.ownBlock (.slice (some ⟨w.heap.size, 0, none⟩) 0 0) ≠ some b) (w.alloc (.cells #[] 49)) xs L) := hc.weak RPod.firm (fun b _ h => ⟨h, by simp only [Value.ownBlock, ne_eq, Option.some.injEq]; have := h.2; omega⟩)
  have HX : Hid (∀ j y, xs[j]? = some y -> (w.alloc (.cells #[] 49)).cell? (ad.add j) = some y) := hcell
  have HO : Hid (∀ y ∈ xs, y.oneCell' = true) := hone
  clear hc hcell hone hL hL'
  go_enter Tryz.func34, Tryz.ntmps34
  go_wp2_with (at_builtin; go_must (refine zAF RPod.firm (A := (Lo10 A w)) (w0 := w) rfl _ _ 22 49 rfl _ 296 infcPod Tryz.underlying22 rfl (by decide) (by decide) _ [] rfl HR.out ad L.length cap xs L rfl rfl HC.out HX.out HO.out (by simp; omega) ?_); intro v1 w1 hrow1 hg1)
  go_ret
  exact ⟨_, rfl, by simpa using hrow1⟩
theorem infcNode : (Tryz.prog.info? 54).map (fun i => (i.zero, i.size, i.bytes)) = some (some (.agg zNode.toArray), 9, 112) := by kernel_rfl
theorem zCn (a : Option Addr) (n cap : Nat) (A : Where) (L : List NodeD) (w : World) (hL : SlAt RNode 9 112 A w a n cap L) : Calls Tryz.prog 38 #[.slice a n cap] w fun e w' => ∃ v, e = .returned v /\ Row RNode 9 (Lo10 A w) w w' 54 v L := by
 have hb0 : Below w.heap.size w (w.alloc (.cells #[] 54)) := by go_grown
 rcases a with _ | ad
 ·have hE := fun w => Lib.run_eql_slice_nil (P := Tryz.prog) w 23 54 none 0 0 0 0 Tryz.underlying23
  obtain ⟨rfl, rfl, rfl⟩ := zAt hL
  have HP : Hid (Row RNode 9 (Lo10 A w) w w 54 (.slice none 0 0) ([] : List NodeD)) := Row.nil _ _ _
  clear hL
  go_enter Tryz.func38, Tryz.ntmps38
  go_wp2_with fail
  go_ret
  exact ⟨_, rfl, HP.out⟩
 ·have hE := fun w => Lib.run_eql_slice_nil (P := Tryz.prog) w 23 54 (some ad) n cap 0 0 Tryz.underlying23
  have hL' : SlAt RNode 9 112 (Lo10 A w) w (some ad) n cap L := hL.weak RNode.firm (fun b hb h => ⟨h, hb⟩)
  obtain ⟨xs, hc, hcell, hone⟩ := (hL'.on RNode.firm hb0).chunks RNode.firm
  have hn := hL.1
  have hbb := hL.2.2.2.1
  subst hn
  have HR : Hid (Row RNode 9 (Lo10 A w) w (w.alloc (.cells #[] 54)) 54 (.slice (some ⟨w.heap.size, 0, none⟩) 0 0) ([] : List NodeD)) := Row.start _ w w _ (Below.refl _ _)
  have HC : Hid (Chunks RNode 9 (fun b => Lo10 A w b /\ Value.ownBlock (.slice (some ⟨w.heap.size, 0, none⟩) 0 0) ≠ some b) (w.alloc (.cells #[] 54)) xs L) := hc.weak RNode.firm (fun b _ h => ⟨h, by simp only [Value.ownBlock, ne_eq, Option.some.injEq]; have := h.2; omega⟩)
  have HX : Hid (∀ j y, xs[j]? = some y -> (w.alloc (.cells #[] 54)).cell? (ad.add j) = some y) := hcell
  have HO : Hid (∀ y ∈ xs, y.oneCell' = true) := hone
  clear hc hcell hone hL hL'
  go_enter Tryz.func38, Tryz.ntmps38
  go_wp2_with (at_builtin; go_must (refine zAF RNode.firm (A := (Lo10 A w)) (w0 := w) rfl _ _ 23 54 rfl _ 112 infcNode Tryz.underlying23 rfl (by decide) (by decide) _ [] rfl HR.out ad L.length cap xs L rfl rfl HC.out HX.out HO.out (by simp; omega) ?_); intro v1 w1 hrow1 hg1)
  go_ret
  exact ⟨_, rfl, by simpa using hrow1⟩
theorem zBR : (Tryz.prog.info? 79).map (fun i => (i.zero, i.size, i.bytes)) = some (some (.agg zVolume.toArray), 5, 80) := by kernel_rfl
theorem zBy (a : Option Addr) (n cap : Nat) (A : Where) (L : List VolumeD) (w : World) (hL : SlAt RVolume 5 80 A w a n cap L) : Calls Tryz.prog 39 #[.slice a n cap] w fun e w' => ∃ v, e = .returned v /\ Row RVolume 5 (Lo10 A w) w w' 79 v L := by
 have hb0 : Below w.heap.size w (w.alloc (.cells #[] 79)) := by go_grown
 rcases a with _ | ad
 ·have hE := fun w => Lib.run_eql_slice_nil (P := Tryz.prog) w 24 79 none 0 0 0 0 Tryz.underlying24
  obtain ⟨rfl, rfl, rfl⟩ := zAt hL
  have HP : Hid (Row RVolume 5 (Lo10 A w) w w 79 (.slice none 0 0) ([] : List VolumeD)) := Row.nil _ _ _
  clear hL
  go_enter Tryz.func39, Tryz.ntmps39
  go_wp2_with fail
  go_ret
  exact ⟨_, rfl, HP.out⟩
 ·have hE := fun w => Lib.run_eql_slice_nil (P := Tryz.prog) w 24 79 (some ad) n cap 0 0 Tryz.underlying24
  have hL' : SlAt RVolume 5 80 (Lo10 A w) w (some ad) n cap L := hL.weak RVolume.firm (fun b hb h => ⟨h, hb⟩)
  obtain ⟨xs, hc, hcell, hone⟩ := (hL'.on RVolume.firm hb0).chunks RVolume.firm
  have hn := hL.1
  have hbb := hL.2.2.2.1
  subst hn
  have HR : Hid (Row RVolume 5 (Lo10 A w) w (w.alloc (.cells #[] 79)) 79 (.slice (some ⟨w.heap.size, 0, none⟩) 0 0) ([] : List VolumeD)) := Row.start _ w w _ (Below.refl _ _)
  have HC : Hid (Chunks RVolume 5 (fun b => Lo10 A w b /\ Value.ownBlock (.slice (some ⟨w.heap.size, 0, none⟩) 0 0) ≠ some b) (w.alloc (.cells #[] 79)) xs L) := hc.weak RVolume.firm (fun b _ h => ⟨h, by simp only [Value.ownBlock, ne_eq, Option.some.injEq]; have := h.2; omega⟩)
  have HX : Hid (∀ j y, xs[j]? = some y -> (w.alloc (.cells #[] 79)).cell? (ad.add j) = some y) := hcell
  have HO : Hid (∀ y ∈ xs, y.oneCell' = true) := hone
  clear hc hcell hone hL hL'
  go_enter Tryz.func39, Tryz.ntmps39
  go_wp2_with (at_builtin; go_must (refine zAF RVolume.firm (A := (Lo10 A w)) (w0 := w) rfl _ _ 24 79 rfl _ 80 zBR Tryz.underlying24 rfl (by decide) (by decide) _ [] rfl HR.out ad L.length cap xs L rfl rfl HC.out HX.out HO.out (by simp; omega) ?_); intro v1 w1 hrow1 hg1)
  go_ret
  exact ⟨_, rfl, by simpa using hrow1⟩
theorem infcClaim : (Tryz.prog.info? 96).map (fun i => (i.zero, i.size, i.bytes)) = some (some (.agg zClaim.toArray), 4, 56) := by kernel_rfl
theorem zCH (a : Option Addr) (n cap : Nat) (A : Where) (L : List ClaimD) (w : World) (hL : SlAt RClaim 4 56 A w a n cap L) : Calls Tryz.prog 40 #[.slice a n cap] w fun e w' => ∃ v, e = .returned v /\ Row RClaim 4 (Lo10 A w) w w' 96 v L := by
 have hb0 : Below w.heap.size w (w.alloc (.cells #[] 96)) := by go_grown
 rcases a with _ | ad
 ·have hE := fun w => Lib.run_eql_slice_nil (P := Tryz.prog) w 25 96 none 0 0 0 0 Tryz.underlying25
  obtain ⟨rfl, rfl, rfl⟩ := zAt hL
  have HP : Hid (Row RClaim 4 (Lo10 A w) w w 96 (.slice none 0 0) ([] : List ClaimD)) := Row.nil _ _ _
  clear hL
  go_enter Tryz.func40, Tryz.ntmps40
  go_wp2_with fail
  go_ret
  exact ⟨_, rfl, HP.out⟩
 ·have hE := fun w => Lib.run_eql_slice_nil (P := Tryz.prog) w 25 96 (some ad) n cap 0 0 Tryz.underlying25
  have hL' : SlAt RClaim 4 56 (Lo10 A w) w (some ad) n cap L := hL.weak RClaim.firm (fun b hb h => ⟨h, hb⟩)
  obtain ⟨xs, hc, hcell, hone⟩ := (hL'.on RClaim.firm hb0).chunks RClaim.firm
  have hn := hL.1
  have hbb := hL.2.2.2.1
  subst hn
  have HR : Hid (Row RClaim 4 (Lo10 A w) w (w.alloc (.cells #[] 96)) 96 (.slice (some ⟨w.heap.size, 0, none⟩) 0 0) ([] : List ClaimD)) := Row.start _ w w _ (Below.refl _ _)
  have HC : Hid (Chunks RClaim 4 (fun b => Lo10 A w b /\ Value.ownBlock (.slice (some ⟨w.heap.size, 0, none⟩) 0 0) ≠ some b) (w.alloc (.cells #[] 96)) xs L) := hc.weak RClaim.firm (fun b _ h => ⟨h, by simp only [Value.ownBlock, ne_eq, Option.some.injEq]; have := h.2; omega⟩)
  have HX : Hid (∀ j y, xs[j]? = some y -> (w.alloc (.cells #[] 96)).cell? (ad.add j) = some y) := hcell
  have HO : Hid (∀ y ∈ xs, y.oneCell' = true) := hone
  clear hc hcell hone hL hL'
  go_enter Tryz.func40, Tryz.ntmps40
  go_wp2_with (at_builtin; go_must (refine zAF RClaim.firm (A := (Lo10 A w)) (w0 := w) rfl _ _ 25 96 rfl _ 56 infcClaim Tryz.underlying25 rfl (by decide) (by decide) _ [] rfl HR.out ad L.length cap xs L rfl rfl HC.out HX.out HO.out (by simp; omega) ?_); intro v1 w1 hrow1 hg1)
  go_ret
  exact ⟨_, rfl, by simpa using hrow1⟩
theorem infcClass : (Tryz.prog.info? 99).map (fun i => (i.zero, i.size, i.bytes)) = some (some (.agg zClass.toArray), 2, 24) := by kernel_rfl
theorem zCN (a : Option Addr) (n cap : Nat) (A : Where) (L : List ClassD) (w : World) (hL : SlAt RClass 2 24 A w a n cap L) : Calls Tryz.prog 41 #[.slice a n cap] w fun e w' => ∃ v, e = .returned v /\ Row RClass 2 (Lo10 A w) w w' 99 v L := by
 have hb0 : Below w.heap.size w (w.alloc (.cells #[] 99)) := by go_grown
 rcases a with _ | ad
 ·have hE := fun w => Lib.run_eql_slice_nil (P := Tryz.prog) w 26 99 none 0 0 0 0 Tryz.underlying26
  obtain ⟨rfl, rfl, rfl⟩ := zAt hL
  have HP : Hid (Row RClass 2 (Lo10 A w) w w 99 (.slice none 0 0) ([] : List ClassD)) := Row.nil _ _ _
  clear hL
  go_enter Tryz.func41, Tryz.ntmps41
  go_wp2_with fail
  go_ret
  exact ⟨_, rfl, HP.out⟩
 ·have hE := fun w => Lib.run_eql_slice_nil (P := Tryz.prog) w 26 99 (some ad) n cap 0 0 Tryz.underlying26
  have hL' : SlAt RClass 2 24 (Lo10 A w) w (some ad) n cap L := hL.weak RClass.firm (fun b hb h => ⟨h, hb⟩)
  obtain ⟨xs, hc, hcell, hone⟩ := (hL'.on RClass.firm hb0).chunks RClass.firm
  have hn := hL.1
  have hbb := hL.2.2.2.1
  subst hn
  have HR : Hid (Row RClass 2 (Lo10 A w) w (w.alloc (.cells #[] 99)) 99 (.slice (some ⟨w.heap.size, 0, none⟩) 0 0) ([] : List ClassD)) := Row.start _ w w _ (Below.refl _ _)
  have HC : Hid (Chunks RClass 2 (fun b => Lo10 A w b /\ Value.ownBlock (.slice (some ⟨w.heap.size, 0, none⟩) 0 0) ≠ some b) (w.alloc (.cells #[] 99)) xs L) := hc.weak RClass.firm (fun b _ h => ⟨h, by simp only [Value.ownBlock, ne_eq, Option.some.injEq]; have := h.2; omega⟩)
  have HX : Hid (∀ j y, xs[j]? = some y -> (w.alloc (.cells #[] 99)).cell? (ad.add j) = some y) := hcell
  have HO : Hid (∀ y ∈ xs, y.oneCell' = true) := hone
  clear hc hcell hone hL hL'
  go_enter Tryz.func41, Tryz.ntmps41
  go_wp2_with (at_builtin; go_must (refine zAF RClass.firm (A := (Lo10 A w)) (w0 := w) rfl _ _ 26 99 rfl _ 24 infcClass Tryz.underlying26 rfl (by decide) (by decide) _ [] rfl HR.out ad L.length cap xs L rfl rfl HC.out HX.out HO.out (by simp; omega) ?_); intro v1 w1 hrow1 hg1)
  go_ret
  exact ⟨_, rfl, by simpa using hrow1⟩
theorem zHj : (Tryz.prog.info? 82).map (fun i => (i.zero, i.size, i.bytes)) = some (some (.agg zBudget.toArray), 3, 48) := by kernel_rfl
theorem zC1 (a : Option Addr) (n cap : Nat) (A : Where) (L : List BudgetD) (w : World) (hL : SlAt RBudget 3 48 A w a n cap L) : Calls Tryz.prog 42 #[.slice a n cap] w fun e w' => ∃ v, e = .returned v /\ Row RBudget 3 (Lo10 A w) w w' 82 v L := by
 have hb0 : Below w.heap.size w (w.alloc (.cells #[] 82)) := by go_grown
 rcases a with _ | ad
 ·have hE := fun w => Lib.run_eql_slice_nil (P := Tryz.prog) w 27 82 none 0 0 0 0 Tryz.underlying27
  obtain ⟨rfl, rfl, rfl⟩ := zAt hL
  have HP : Hid (Row RBudget 3 (Lo10 A w) w w 82 (.slice none 0 0) ([] : List BudgetD)) := Row.nil _ _ _
  clear hL
  go_enter Tryz.func42, Tryz.ntmps42
  go_wp2_with fail
  go_ret
  exact ⟨_, rfl, HP.out⟩
 ·have hE := fun w => Lib.run_eql_slice_nil (P := Tryz.prog) w 27 82 (some ad) n cap 0 0 Tryz.underlying27
  have hL' : SlAt RBudget 3 48 (Lo10 A w) w (some ad) n cap L := hL.weak RBudget.firm (fun b hb h => ⟨h, hb⟩)
  obtain ⟨xs, hc, hcell, hone⟩ := (hL'.on RBudget.firm hb0).chunks RBudget.firm
  have hn := hL.1
  have hbb := hL.2.2.2.1
  subst hn
  have HR : Hid (Row RBudget 3 (Lo10 A w) w (w.alloc (.cells #[] 82)) 82 (.slice (some ⟨w.heap.size, 0, none⟩) 0 0) ([] : List BudgetD)) := Row.start _ w w _ (Below.refl _ _)
  have HC : Hid (Chunks RBudget 3 (fun b => Lo10 A w b /\ Value.ownBlock (.slice (some ⟨w.heap.size, 0, none⟩) 0 0) ≠ some b) (w.alloc (.cells #[] 82)) xs L) := hc.weak RBudget.firm (fun b _ h => ⟨h, by simp only [Value.ownBlock, ne_eq, Option.some.injEq]; have := h.2; omega⟩)
  have HX : Hid (∀ j y, xs[j]? = some y -> (w.alloc (.cells #[] 82)).cell? (ad.add j) = some y) := hcell
  have HO : Hid (∀ y ∈ xs, y.oneCell' = true) := hone
  clear hc hcell hone hL hL'
  go_enter Tryz.func42, Tryz.ntmps42
  go_wp2_with (at_builtin; go_must (refine zAF RBudget.firm (A := (Lo10 A w)) (w0 := w) rfl _ _ 27 82 rfl _ 48 zHj Tryz.underlying27 rfl (by decide) (by decide) _ [] rfl HR.out ad L.length cap xs L rfl rfl HC.out HX.out HO.out (by simp; omega) ?_); intro v1 w1 hrow1 hg1)
  go_ret
  exact ⟨_, rfl, by simpa using hrow1⟩
end Go.Proofs.YtnffafjamiffnaaGreat
