/- A label of another key changes nothing of what is met; a number among so many; an append of labels wherever they lie. Condition: the slices hold what is said of them. -/
import Derived.Test.YtpehmobedcflnaaLOpen
namespace Go.Proofs.Ytpehmobedcflnaa
open Go.RowKit
set_option linter.unusedSimpArgs false

theorem getL_apart (A B : List Lab) (x : Lab) (key : ByteArray) (h : sEq x.1 key = false) : getL (A ++ [x] ++ B) key = getL (A ++ B) key := by
  have : (A ++ [x] ++ B).find? (fun y => sEq y.1 key) = (A ++ B).find? (fun y => sEq y.1 key) := by
    simp only [List.find?_append, List.find?_cons, h, List.find?_nil, Option.or_none]
  simp only [getL, this]
theorem meetsL_apart (A B : List Lab) (x : Lab) (r : Ask) (h : sEq x.1 r.key = false) : meetsL (A ++ [x] ++ B) r = meetsL (A ++ B) r := by
  simp only [meetsL, getL_apart A B x r.key h]

set_option maxHeartbeats 1000000 in
theorem Among_calls (n : Int) (m : Nat) (hm : 0 < m) (hml : m ≤ 140737488355328) (w : World) : Calls Try.prog 32 #[.int .i64 n, .int .i64 m] w fun e w' => (∃ k : Nat, e = .returned (.int .i64 k) ∧ k < m) ∧ w' = w := by
  have hw : IntKind.u64.wrap (m : Int) = (m : Int) := by simp [IntKind.wrap, IntKind.bits, IntKind.signed]; omega
  have hz : ((m : Int) == 0) = false := by rw [beq_eq_false_iff_ne]; omega
  have hz' : ¬ (m : Int) = 0 := by omega
  generalize hr : IntKind.u64.wrap n = r
  have hr0 : 0 ≤ r := by rw [← hr]; simp [IntKind.wrap, IntKind.bits, IntKind.signed]; omega
  have h1 : 0 ≤ r % (m : Int) := Int.emod_nonneg _ (by omega)
  have h2 : r % (m : Int) < (m : Int) := Int.emod_lt_of_pos _ (by omega)
  have h3 : r.tmod (m : Int) = r % (m : Int) := Int.tmod_eq_emod_of_nonneg hr0
  go_enter Try.func32, Try.ntmps32
  go_wp2
  go_ret
  refine ⟨⟨(r % (m : Int)).toNat, ?_, by omega⟩, rfl⟩
  rw [Int.toNat_of_nonneg h1]
  rfl

/-- An append of labels, wherever they lie, to one's own row. -/
theorem append_labsO {o : Oper} {a : Act} {K : Act → World → Prop} {Q : Exit → Act → World → Prop} {w0 u : World} (s x : Operand)
    (ho : o.op = .call { callee := .builtin .append, args := #[s, x], argTypes := #[22, 22] })
    (v : Value) (A : List Lab) (hs : a.eval s = v) (hown : Own w0 u 52 2 v A.length (flatL A))
    (c : Option Addr) (n capc : Nat) (N : List Lab) (hn : N.length = n) (hx : a.eval x = .slice c n capc) (hcap : c = none → capc = 0) (hN : LabsAt u c N) (hb : (A.length + N.length) * 32 ≤ 140737488355328)
    (h : ∀ v' u', Own w0 u' 52 2 v' (A ++ N).length (flatL (A ++ N)) → K (a.put o.dst v') u') : o.wp Try.prog a u K Q := by
  subst hn
  match c with
  | none =>
    have h0 : N = [] := by
      rcases Classical.em (N = []) with e | e
      · exact e
      · obtain ⟨B, off, h', _⟩ := hN.2.2 e; cases h'
    subst h0
    obtain rfl := hcap rfl
    obtain ⟨i0, hi, hz0, hz1, hz2⟩ := info_parts infoLab
    have hr := run_append_owned_none (P := Try.prog) (w := u) w0.heap.size 22 o.type 52 i0 2 Try.underlying22 hi v A.length (flatL A) hown.2
    unfold Oper.wp execOp
    have hx' : a.eval x = .slice none 0 0 := hx
    simp only [ho, resolve, invoke, builtin, Sem.run_bind, Sem.run_pure, Result.andThen_ok, List.map_toArray, List.map_cons, List.map_nil, hs, hx', hr]
    exact h v u (by simpa using hown)
  | some ad =>
    refine append_labs (w0 := w0) s x ho v A hs hown ad capc N hx ?_ hb (fun v' u' ho' _ _ => h v' u' ho')
    rcases Classical.em (N = []) with e | e
    · subst e; intro j y hj; simp [flatL] at hj
    · obtain ⟨B, off, h', hB, hc⟩ := hN.2.2 e
      obtain rfl : ad = ⟨B, off, none⟩ := by simpa using h'
      exact flatL_cells hc
theorem labs_one (u : World) (t : TypeId) (x y : ByteArray) (hx : x.size ≤ 140737488355328) (hy : y.size ≤ 140737488355328) : LabsAt (u.alloc (.cells #[.string x, .string y] t)) (some ⟨u.heap.size, 0, none⟩) [(x, y)] := by
  refine ⟨by simp, by simpa using ⟨hx, hy⟩, fun _ => ⟨u.heap.size, 0, rfl, by simp, fun i hi => ?_⟩⟩
  have : i = 0 := by simpa using hi
  subst this
  exact ⟨by simp [go_sem], by simp [go_sem]⟩
end Go.Proofs.Ytpehmobedcflnaa
