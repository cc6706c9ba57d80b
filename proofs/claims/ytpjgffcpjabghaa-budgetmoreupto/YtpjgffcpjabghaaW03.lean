/- Further structs of the program as plain data, and how each lies in cells. No program. No condition. Amounts as plain integers: what a number counts as, sums, differences, multiples and shares, and the laws of order and grouping. Plain mathematics, no program. No condition. What the document makes of pods: names each once, sums, ports, claims. Plain. No condition. Arguments as they come in, with a bound on what they hold: no more than the reading's bulk. No condition beyond the row's own reach. -/
import Derived.Test.YtpjgffcpjabghaaQ03
import Derived.Test.YtpjgffcpjabghaaQ10
import Derived.Test.YtpjgffcpjabghaaQ20
import Derived.Test.YtpjgffcpjabghaaRows
namespace Go.Proofs.Ytpjgffcpjabghaa
open Go.RowKit
set_option linter.unusedSimpArgs false


abbrev InfoD := NodeD × List ByteArray × ResD × List Int × List ByteArray
def RInfo : Rep InfoD := RPair RNode (RPair (RSl RStr 1 16) (RPair RRes (RPair (RSl RInt 1 8) (RSl RStr 1 16))))
theorem RInfo.firm : Firm RInfo 15 := Firm.pair RNode.firm (Firm.pair (RSl.firm RStr.firm) (Firm.pair RRes.firm (Firm.pair (RSl.firm RInt.firm) ((RSl.firm RStr.firm)))))
theorem RInfo.out {A : Where} {w : World} {cs : List Value} {x : InfoD} (h : RInfo A w cs x) : ∃ h1 h2 h9 h13 h14 : Hd, cs = [.string x.1.1, .slice h1.1 h1.2.1 h1.2.2, .slice h2.1 h2.2.1 h2.2.2, .bool x.1.2.2.2.1, .int .i64 x.1.2.2.2.2.1.1, .int .i64 x.1.2.2.2.2.1.2.1, .int .i64 x.1.2.2.2.2.1.2.2, .int .i64 x.1.2.2.2.2.2.1, .int .i64 x.1.2.2.2.2.2.2, .slice h9.1 h9.2.1 h9.2.2, .int .i64 x.2.2.1.1, .int .i64 x.2.2.1.2.1, .int .i64 x.2.2.1.2.2, .slice h13.1 h13.2.1 h13.2.2, .slice h14.1 h14.2.1 h14.2.2] ∧ x.1.1.size ≤ 140737488355328 ∧ SlAt RLabel 2 32 A w h1.1 h1.2.1 h1.2.2 x.1.2.1 ∧ SlAt RTaint 3 40 A w h2.1 h2.2.1 h2.2.2 x.1.2.2.1 ∧ SlAt RStr 1 16 A w h9.1 h9.2.1 h9.2.2 x.2.1 ∧ SlAt RInt 1 8 A w h13.1 h13.2.1 h13.2.2 x.2.2.2.1 ∧ SlAt RStr 1 16 A w h14.1 h14.2.1 h14.2.2 x.2.2.2.2 := by
  obtain ⟨l_0, r_0, q_0, f_0, g_0⟩ := h
  obtain ⟨l_0_0, r_0_0, q_0_0, f_0_0, g_0_0⟩ := f_0
  obtain ⟨e_0_0, s_0_0⟩ := f_0_0
  obtain ⟨l_0_1, r_0_1, q_0_1, f_0_1, g_0_1⟩ := g_0_0
  obtain ⟨a_0_1, n_0_1, c_0_1, e_0_1, s_0_1⟩ := f_0_1
  obtain ⟨l_0_2, r_0_2, q_0_2, f_0_2, g_0_2⟩ := g_0_1
  obtain ⟨a_0_2, n_0_2, c_0_2, e_0_2, s_0_2⟩ := f_0_2
  obtain ⟨l_0_3, r_0_3, q_0_3, f_0_3, g_0_3⟩ := g_0_2
  have e_0_3 := f_0_3
  obtain ⟨l_0_4, r_0_4, q_0_4, f_0_4, g_0_4⟩ := g_0_3
  obtain ⟨l_0_4_0, r_0_4_0, q_0_4_0, f_0_4_0, g_0_4_0⟩ := f_0_4
  have e_0_4_0 := f_0_4_0
  obtain ⟨l_0_4_1, r_0_4_1, q_0_4_1, f_0_4_1, g_0_4_1⟩ := g_0_4_0
  have e_0_4_1 := f_0_4_1
  have e_0_4_2 := g_0_4_1
  obtain ⟨l_0_5, r_0_5, q_0_5, f_0_5, g_0_5⟩ := g_0_4
  have e_0_5 := f_0_5
  have e_0_6 := g_0_5
  obtain ⟨l_1, r_1, q_1, f_1, g_1⟩ := g_0
  obtain ⟨a_1, n_1, c_1, e_1, s_1⟩ := f_1
  obtain ⟨l_2, r_2, q_2, f_2, g_2⟩ := g_1
  obtain ⟨l_2_0, r_2_0, q_2_0, f_2_0, g_2_0⟩ := f_2
  have e_2_0 := f_2_0
  obtain ⟨l_2_1, r_2_1, q_2_1, f_2_1, g_2_1⟩ := g_2_0
  have e_2_1 := f_2_1
  have e_2_2 := g_2_1
  obtain ⟨l_3, r_3, q_3, f_3, g_3⟩ := g_2
  obtain ⟨a_3, n_3, c_3, e_3, s_3⟩ := f_3
  obtain ⟨a_4, n_4, c_4, e_4, s_4⟩ := g_3
  exact ⟨(a_0_1, n_0_1, c_0_1), (a_0_2, n_0_2, c_0_2), (a_1, n_1, c_1), (a_3, n_3, c_3), (a_4, n_4, c_4), by rw [q_0, q_0_0, e_0_0, q_0_1, e_0_1, q_0_2, e_0_2, q_0_3, e_0_3, q_0_4, q_0_4_0, e_0_4_0, q_0_4_1, e_0_4_1, e_0_4_2, q_0_5, e_0_5, e_0_6, q_1, e_1, q_2, q_2_0, e_2_0, q_2_1, e_2_1, e_2_2, q_3, e_3, e_4]; rfl, s_0_0, s_0_1, s_0_2, s_1, s_3, s_4⟩
theorem RInfo.mk {A : Where} {w : World} {x : InfoD} {h1 h2 h9 h13 h14 : Hd} (p0 : x.1.1.size ≤ 140737488355328) (p1 : SlAt RLabel 2 32 A w h1.1 h1.2.1 h1.2.2 x.1.2.1) (p2 : SlAt RTaint 3 40 A w h2.1 h2.2.1 h2.2.2 x.1.2.2.1) (p3 : SlAt RStr 1 16 A w h9.1 h9.2.1 h9.2.2 x.2.1) (p4 : SlAt RInt 1 8 A w h13.1 h13.2.1 h13.2.2 x.2.2.2.1) (p5 : SlAt RStr 1 16 A w h14.1 h14.2.1 h14.2.2 x.2.2.2.2) : RInfo A w [.string x.1.1, .slice h1.1 h1.2.1 h1.2.2, .slice h2.1 h2.2.1 h2.2.2, .bool x.1.2.2.2.1, .int .i64 x.1.2.2.2.2.1.1, .int .i64 x.1.2.2.2.2.1.2.1, .int .i64 x.1.2.2.2.2.1.2.2, .int .i64 x.1.2.2.2.2.2.1, .int .i64 x.1.2.2.2.2.2.2, .slice h9.1 h9.2.1 h9.2.2, .int .i64 x.2.2.1.1, .int .i64 x.2.2.1.2.1, .int .i64 x.2.2.1.2.2, .slice h13.1 h13.2.1 h13.2.2, .slice h14.1 h14.2.1 h14.2.2] x :=
  ⟨_, _, rfl, ⟨_, _, rfl, ⟨rfl, p0⟩, ⟨_, _, rfl, ⟨h1.1, h1.2.1, h1.2.2, rfl, p1⟩, ⟨_, _, rfl, ⟨h2.1, h2.2.1, h2.2.2, rfl, p2⟩, ⟨_, _, rfl, rfl, ⟨_, _, rfl, ⟨_, _, rfl, rfl, ⟨_, _, rfl, rfl, rfl⟩⟩, ⟨_, _, rfl, rfl, rfl⟩⟩⟩⟩⟩⟩, ⟨_, _, rfl, ⟨h9.1, h9.2.1, h9.2.2, rfl, p3⟩, ⟨_, _, rfl, ⟨_, _, rfl, rfl, ⟨_, _, rfl, rfl, rfl⟩⟩, ⟨_, _, rfl, ⟨h13.1, h13.2.1, h13.2.2, rfl, p4⟩, ⟨h14.1, h14.2.1, h14.2.2, rfl, p5⟩⟩⟩⟩⟩
end Go.Proofs.Ytpjgffcpjabghaa
namespace Go.Proofs.Ytpjgffcpjabghaa

/-- What a number counts as. -/
def clampI (a : Int) : Int := if a < 0 then 0 else if 1125899906842624 < a then 1125899906842624 else a
theorem clampI_ge (a : Int) : 0 ≤ clampI a := by unfold clampI; split <;> (try split) <;> omega
theorem clampI_le (a : Int) : clampI a ≤ 1125899906842624 := by unfold clampI; split <;> (try split) <;> omega
theorem clampI_id {a : Int} (h0 : 0 ≤ a) (h1 : a ≤ 1125899906842624) : clampI a = a := by unfold clampI; rw [if_neg (by omega), if_neg (by omega)]
theorem clampI_neg {a : Int} (h : a < 0) : clampI a = 0 := by unfold clampI; rw [if_pos h]
theorem clampI_big {a : Int} (h : 1125899906842624 < a) : clampI a = 1125899906842624 := by unfold clampI; rw [if_neg (by omega), if_pos h]

def addI (a b : Int) : Int := clampI (clampI a + clampI b)
def subI (a b : Int) : Int := clampI (clampI a - clampI b)
theorem addI_ge (a b : Int) : 0 ≤ addI a b := clampI_ge _
theorem addI_le (a b : Int) : addI a b ≤ 1125899906842624 := clampI_le _
theorem subI_ge (a b : Int) : 0 ≤ subI a b := clampI_ge _
theorem subI_le (a b : Int) : subI a b ≤ 1125899906842624 := clampI_le _
theorem clampI_addI (a b : Int) : clampI (addI a b) = addI a b := clampI_id (addI_ge a b) (addI_le a b)
theorem clampI_subI (a b : Int) : clampI (subI a b) = subI a b := clampI_id (subI_ge a b) (subI_le a b)
theorem clampI_clampI (a : Int) : clampI (clampI a) = clampI a := clampI_id (clampI_ge a) (clampI_le a)
theorem addI_def (a b : Int) : addI a b = if 1125899906842624 < clampI a + clampI b then 1125899906842624 else clampI a + clampI b := by
  have h1 := clampI_ge a; have h2 := clampI_ge b
  unfold addI
  rw [clampI, if_neg (by omega)]
theorem subI_def (a b : Int) : subI a b = if clampI a < clampI b then 0 else clampI a - clampI b := by
  have h1 := clampI_ge a; have h2 := clampI_ge b; have h3 := clampI_le a; have h4 := clampI_le b
  unfold subI
  rw [clampI]
  split <;> rename_i h
  · rw [if_pos (by omega)]
  · rw [if_neg (by omega), if_neg (by omega)]
theorem addI_comm (a b : Int) : addI a b = addI b a := by unfold addI; rw [Int.add_comm]
theorem addI_assoc (a b c : Int) : addI (addI a b) c = addI a (addI b c) := by
  have h1 := clampI_ge a; have h2 := clampI_ge b; have h3 := clampI_ge c
  have h4 := clampI_le a; have h5 := clampI_le b; have h6 := clampI_le c
  rw [addI_def (addI a b) c, addI_def a (addI b c), clampI_addI, clampI_addI, addI_def a b, addI_def b c]
  split <;> split <;> split <;> (try split) <;> omega
theorem subI_addI (a b : Int) (h : addI a b ≠ 1125899906842624) : subI (addI a b) b = clampI a := by
  have h1 := clampI_ge a; have h2 := clampI_ge b; have h4 := clampI_le a
  rw [subI_def, clampI_addI]
  rw [addI_def] at h ⊢
  split at h
  · omega
  · rename_i h0
    rw [if_neg h0, if_neg (by omega)]
    omega

/-- A number, times a number, at most MaxAmount. -/
def timesI (a n : Int) : Int := if 1125899906842624 < clampI a * clampI n then 1125899906842624 else clampI a * clampI n
/-- A share. -/
def scaleI (c : Int) : Int := if c < 0 then 0 else if 1000 < c then 1000 else c
theorem scaleI_ge (a : Int) : 0 ≤ scaleI a := by unfold scaleI; split <;> (try split) <;> omega
theorem scaleI_le (a : Int) : scaleI a ≤ 1000 := by unfold scaleI; split <;> (try split) <;> omega
def shareI (a b c : Int) : Int := if clampI b = 0 then 0 else if scaleI c < clampI a * scaleI c / clampI b then scaleI c else clampI a * scaleI c / clampI b
end Go.Proofs.Ytpjgffcpjabghaa
namespace Go.Proofs.Ytpjgffcpjabghaa
open Go.RowKit
set_option linter.unusedSimpArgs false

def plusR (a b : ResD) : ResD := (addI a.1 b.1, addI a.2.1 b.2.1, addI a.2.2 b.2.2)
def minusR (a b : ResD) : ResD := (subI a.1 b.1, subI a.2.1 b.2.1, subI a.2.2 b.2.2)
def pWant (p : PodD) : ResD := p.2.2.2.1
def pPorts (p : PodD) : List Int := p.2.2.2.2.2.2.2.1
def pClaims (p : PodD) : List ByteArray := p.2.2.2.2.2.2.2.2.2.2.2.1
def pNode (p : PodD) : ByteArray := p.2.2.2.2.2.2.2.2.2.2.2.2.1
abbrev AccD := List ByteArray × ResD × List Int × List ByteArray
def ofStep (s : AccD) (p : PodD) : AccD := if hasB sEq s.1 p.1 = true then s else (s.1 ++ [p.1], plusR s.2.1 (pWant p), s.2.2.1 ++ pPorts p, s.2.2.2 ++ pClaims p)
def ofAcc (L : List PodD) : AccD := L.foldl ofStep ([], (0, 0, 0), [], [])
def accInfo (n : NodeD) (s : AccD) : InfoD := (n, sortB sLt sEq s.1, s.2.1, sortB iLt iEq s.2.2.1, sortB sLt sEq s.2.2.2)
def ofP (n : NodeD) (L : List PodD) : InfoD := accInfo n (ofAcc L)
def addP (i : InfoD) (p : PodD) : InfoD := (i.1, sortB sLt sEq (i.2.1 ++ [p.1]), plusR i.2.2.1 (pWant p), sortB iLt iEq (i.2.2.2.1 ++ pPorts p), sortB sLt sEq (i.2.2.2.2 ++ pClaims p))
def restP (i : InfoD) (p : PodD) (rest : List PodD) : List PodD := rest.filter fun q => !sEq q.1 p.1 && hasB sEq i.2.1 q.1
def freeP (i : InfoD) : ResD := minusR i.1.2.2.2.2.1 i.2.2.1
def clashP (i : InfoD) (p : PodD) : Bool := (pPorts p).any fun q => hasB iEq i.2.2.2.1 q
def sumBy {α : Type} (f : α → Nat) (L : List α) : Nat := (L.map f).sum
/-- What the pods' ports and claims take together is within what an append may ask. -/
def FitsP (L : List PodD) : Prop := sumBy (fun p => (pPorts p).length) L * 8 ≤ 140737488351232 ∧ sumBy (fun p => (pClaims p).length) L * 16 ≤ 140737488351232
theorem acc_succ (L : List PodD) {k : Nat} (hk : k < L.length) : ofAcc (L.take (k + 1)) = ofStep (ofAcc (L.take k)) (L.getD k default) := by
  rw [← take_at hk]; simp [ofAcc]
theorem sumBy_append {α : Type} (f : α → Nat) (L M : List α) : sumBy f (L ++ M) = sumBy f L + sumBy f M := by simp [sumBy]
theorem sumBy_take {α : Type} (f : α → Nat) (L : List α) (k : Nat) : sumBy f (L.take k) ≤ sumBy f L := by
  have := sumBy_append f (L.take k) (L.drop k)
  rw [List.take_append_drop] at this
  omega
theorem acc_len (L : List PodD) : ∀ k, k ≤ L.length → (ofAcc (L.take k)).1.length ≤ k ∧ (ofAcc (L.take k)).2.2.1.length ≤ sumBy (fun p => (pPorts p).length) (L.take k) ∧ (ofAcc (L.take k)).2.2.2.length ≤ sumBy (fun p => (pClaims p).length) (L.take k) := by
  intro k
  induction k with
  | zero => intro _; simp [ofAcc, sumBy]
  | succ k ih =>
    intro hk
    obtain ⟨h1, h2, h3⟩ := ih (by omega)
    rw [acc_succ L (by omega), ← take_at (show k < L.length by omega), sumBy_append, sumBy_append]
    unfold ofStep
    split
    · exact ⟨by omega, by omega, by omega⟩
    · simp only [List.length_append, List.length_singleton]
      simp only [sumBy, List.map_cons, List.map_nil, List.sum_cons, List.sum_nil] at h2 h3 ⊢
      exact ⟨by omega, by omega, by omega⟩
theorem acc_fits {L : List PodD} (h : FitsP L) {k : Nat} (hk : k < L.length) : ((ofAcc (L.take k)).2.2.1.length + (pPorts (L.getD k default)).length) * 8 ≤ 140737488351232 ∧ ((ofAcc (L.take k)).2.2.2.length + (pClaims (L.getD k default)).length) * 16 ≤ 140737488351232 := by
  obtain ⟨_, h2, h3⟩ := acc_len L k (by omega)
  have e1 := sumBy_take (fun p => (pPorts p).length) L (k + 1)
  have e2 := sumBy_take (fun p => (pClaims p).length) L (k + 1)
  rw [← take_at hk, sumBy_append] at e1 e2
  simp only [sumBy, List.map_cons, List.map_nil, List.sum_cons, List.sum_nil] at e1 e2 h2 h3 h
  obtain ⟨h4, h5⟩ := h
  simp only [sumBy] at h4 h5
  exact ⟨by omega, by omega⟩
theorem acc_fits' {L : List PodD} (h : FitsP L) : (ofAcc L).2.2.1.length * 8 ≤ 140737488351232 ∧ (ofAcc L).2.2.2.length * 16 ≤ 140737488351232 := by
  obtain ⟨_, h2, h3⟩ := acc_len L L.length (Nat.le_refl _)
  rw [List.take_of_length_le (Nat.le_refl _)] at h2 h3
  obtain ⟨h4, h5⟩ := h
  exact ⟨by omega, by omega⟩
end Go.Proofs.Ytpjgffcpjabghaa
namespace Go.Proofs.Ytpjgffcpjabghaa
open Go.ChangeShapes Go.WideShapes Go.ChangeAt Go.RowKit
set_option linter.unusedSimpArgs false

/-- What is read as of that type lies as said, and is no greater than its bulk. -/
def OpensM {α : Type} (R : Rep α) (m : α → Nat) (t : TypeId) : Prop :=
  ∀ {H : Type} {enc : TypeId × Value → H} {W : World} {base n : Nat} {sp : Nat → Bool} {held : Bool} {cs : List Value} {x : DataW H × List MemPlace},
    DataW.trod enc Try.prog W base sp held n t cs = some x → Light x.1 t → ∃ y, R (fun _ => True) W cs y ∧ m y ≤ Rows.uptoBulk x.1
theorem bulk_pos {H : Type} (d : DataW H) : 1 ≤ Rows.uptoBulk d := by
  match d with
  | .lit l => cases l <;> simp [Rows.uptoBulk]
  | .nil => simp [Rows.uptoBulk]
  | .ptr _ => simp [Rows.uptoBulk]
  | .slice _ _ => simp [Rows.uptoBulk]
  | .agg _ => simp [Rows.uptoBulk]
  | .iface _ _ => simp [Rows.uptoBulk]
  | .map _ => simp [Rows.uptoBulk]
  | .held _ => simp [Rows.uptoBulk]
theorem Opens.m {α : Type} {R : Rep α} {t : TypeId} (h : Opens R t) : OpensM R (fun _ => 1) t := by
  intro H enc W base n sp held cs x hx hl
  obtain ⟨y, hy⟩ := h hx hl
  exact ⟨y, hy, bulk_pos _⟩
theorem sum_bulk {α H : Type} (m : α → Nat) (f : Nat → α) (D : Nat → DataW H) : ∀ l : List Nat, (∀ i ∈ l, m (f i) ≤ Rows.uptoBulk (D i)) → sumBy m (l.map f) ≤ Rows.uptoBulkAll (l.map D)
  | [], _ => by simp [sumBy, Rows.uptoBulkAll]
  | i :: l, h => by
    have := sum_bulk m f D l (fun j hj => h j (List.mem_cons_of_mem _ hj))
    have h0 := h i List.mem_cons_self
    simp only [sumBy, List.map_cons, List.sum_cons, Rows.uptoBulkAll] at this ⊢
    omega
theorem opensM_slice {α : Type} [Inhabited α] {R : Rep α} {m : α → Nat} {k bytes : Nat} {t e : TypeId} (hR : Firm R k) (hu : Try.prog.underlying t = some (.slice e)) (ck : Try.prog.cellsOf e = k) (bk : Try.prog.bytesOf e = bytes) (hk0 : 0 < k) (hE : OpensM R m e) : OpensM (RSl R k bytes) (sumBy m) t := by
  intro H enc W base n sp held cs x h hl
  rcases Go.Deep.open_slice hu h with ⟨hv, _⟩ | ⟨a, len, cap, mm, nn, D, Pl, hv, _, hlc, _, hm, rfl, hel⟩
  · exact ⟨[], ⟨none, 0, 0, hv, SlAt.nil _ _ _ _ (fun _ => rfl)⟩, by simp [sumBy]⟩
  · obtain ⟨w1, w2⟩ := light_slice hu hl
    simp only [List.length_map, List.length_range, bk] at w1
    have hml : len ≤ mm := by rw [hm]; split <;> omega
    rw [ck] at hel
    have each : ∀ i, i < len → ∃ y : α, (∃ cs, R (fun _ => True) W cs y ∧ ∀ j u, cs[j]? = some u → W.cell? ((a.add (i * k)).add j) = some u) ∧ m y ≤ Rows.uptoBulk (D i) := fun i hi => by
      obtain ⟨cs', h1, h2⟩ := hel i (by omega)
      obtain ⟨y, hy, hm⟩ := hE h2 (w2 _ (List.mem_map.2 ⟨i, List.mem_range.2 hi, rfl⟩))
      obtain ⟨_, _, hcell⟩ := World.cells?_some h1
      refine ⟨y, ⟨cs', hy, fun j u hj => ?_⟩, hm⟩
      have hjk : j < k := by
        have := (List.getElem?_eq_some_iff.1 hj).1
        rwa [hR.len hy] at this
      rw [hcell j hjk, hj]
    obtain ⟨f, hf⟩ := Go.Deep.choose_lt each
    refine ⟨(List.range len).map f, ⟨some a, len, cap, hv, by simp, hlc, (fun h => by cases h), w1, fun hpos => ?_⟩, ?_⟩
    · obtain ⟨B, off, spot⟩ := a
      obtain ⟨cs0, hr0, hc0⟩ := (hf 0 hpos).1
      have hex : ∃ u, cs0[0]? = some u := by
        cases e : cs0 with
        | nil => have := hR.len hr0; rw [e] at this; simp at this; omega
        | cons u r => exact ⟨u, rfl⟩
      obtain ⟨u0, hu0⟩ := hex
      have hc0 := hc0 0 u0 hu0
      have hsp : spot = none := by
        have := World.cell?_spot hc0
        simpa [Addr.add] using this
      subst hsp
      rw [add_lit, add_lit] at hc0
      refine ⟨B, off, rfl, addr_lt hc0, trivial, fun i hi => ?_⟩
      obtain ⟨cs, hr, hc⟩ := (hf i hi).1
      refine ⟨cs, by rw [getD_range f len i hi]; exact hr, fun j u hj => ?_⟩
      have := hc j u hj
      rwa [add_lit, add_lit] at this
    · have := sum_bulk m f D (List.range len) (fun i hi => (hf i (List.mem_range.1 hi)).2)
      simp only [Rows.uptoBulk]
      omega
def OpensFsM {α : Type} (fs : List Field) (off total : Nat) (R : Rep α) (m : α → Nat) : Prop :=
  ∀ {H : Type} {enc : TypeId × Value → H} {W : World} {base n : Nat} {sp : Nat → Bool} {held : Bool} {cs : List Value} {ds : List (DataW H)}, cs.length = total → ds.length = fs.length →
    (∀ (j : Nat) (f : Field), fs[j]? = some f → ∃ d, DataW.trod enc Try.prog W base sp held n f.type ((cs.drop f.offset).take (Try.prog.cellsOf f.type)) = some d ∧ Light d.1 f.type ∧ ds[j]? = some d.1) → ∃ y, R (fun _ => True) W (cs.drop off) y ∧ m y ≤ Rows.uptoBulkAll ds
theorem opensFsM_last {α : Type} {R : Rep α} {m : α → Nat} {f : Field} {off total : Nat} (ho : f.offset = off) (ht : off + Try.prog.cellsOf f.type = total) (h : OpensM R m f.type) : OpensFsM [f] off total R m := by
  intro H enc W base n sp held cs ds hl hd hf
  obtain ⟨d, h1, h2, h3⟩ := hf 0 f rfl
  rw [ho, List.take_of_length_le (by rw [List.length_drop]; omega)] at h1
  obtain ⟨y, hy, hm⟩ := h h1 h2
  refine ⟨y, hy, ?_⟩
  cases ds with
  | nil => simp at hd
  | cons d0 r => simp at h3; subst h3; simp only [Rows.uptoBulkAll]; omega
theorem opensFsM_cons {α β : Type} {R : Rep α} {S : Rep β} {m1 : α → Nat} {m2 : β → Nat} {f : Field} {fs : List Field} {off mm total : Nat} (ho : f.offset = off) (hm : off + Try.prog.cellsOf f.type = mm) (h : OpensM R m1 f.type) (hs : OpensFsM fs mm total S m2) : OpensFsM (f :: fs) off total (RPair R S) (fun x => m1 x.1 + m2 x.2) := by
  intro H enc W base n sp held cs ds hl hd hf
  obtain ⟨d, h1, h2, h3⟩ := hf 0 f rfl
  rw [ho] at h1
  obtain ⟨y, hy, hm1⟩ := h h1 h2
  cases ds with
  | nil => simp at hd
  | cons d0 r =>
    obtain ⟨z, hz, hm2⟩ := hs (cs := cs) (ds := r) hl (by simpa using hd) (fun j g hg => by have := hf (j + 1) g (by simpa using hg); simpa using this)
    refine ⟨(y, z), ⟨(cs.drop off).take (Try.prog.cellsOf f.type), cs.drop mm, ?_, hy, hz⟩, ?_⟩
    · rw [← hm, ← List.drop_drop]
      exact (List.take_append_drop _ _).symm
    · simp at h3; subst h3; simp only [Rows.uptoBulkAll]; omega
theorem opensM_struct {α : Type} {R : Rep α} {m : α → Nat} {t : TypeId} {fs : Array Field} {total : Nat} (hu : Try.prog.underlying t = some (.struct fs)) (hc : Try.prog.cellsOf t = total) (h : OpensFsM fs.toList 0 total R m) : OpensM R m t := by
  intro H enc W base n sp held cs x hx hl
  obtain ⟨xs, mm, _, rfl, hlen, hxs, hf⟩ := DataW.trod_struct hu hx
  have := h (enc := enc) (W := W) (base := base) (n := mm) (sp := sp) (held := held) (cs := cs) (ds := xs.map (·.1)) (by rw [hlen, hc]) (by simp [hxs]) (fun j f hj => by
    have hj' : fs[j]? = some f := by simpa using hj
    have h1 := hf j f hj'
    have hlt : j < xs.length := by
      have := (Array.getElem?_eq_some_iff.1 hj').1
      omega
    have h2 : xs[j]? = some xs[j] := List.getElem?_eq_getElem hlt
    rw [h2] at h1
    refine ⟨xs[j], h1, light_struct hu hl (j := j) (by simp [hj']) (by simp [h2]), by simp [h2]⟩)
  obtain ⟨y, hy, hm⟩ := this
  refine ⟨y, by simpa using hy, ?_⟩
  simp only [Rows.uptoBulk]
  omega
end Go.Proofs.Ytpjgffcpjabghaa
