/- Arguments as they come in: taints and what is borne, read off memory. No condition beyond the row's own reach. -/
import Derived.Test.YtgffnkfiecieeaaROpen
import Derived.Test.YtgffnkfiecieeaaTPlain
namespace Go.Proofs.Ytgffnkfiecieeaa
open Go.ChangeShapes Go.WideShapes Go.ChangeAt Go.RowKit
section
variable {H : Type} {enc : TypeId × Value → H} {W : World} {base n : Nat} {sp : Nat → Bool} {held : Bool}

theorem trod_tnt {cs : List Value} {x : DataW H × List MemPlace} (h : DataW.trod enc Try.prog W base sp held n 32 cs = some x) (hl : Light x.1 32) : ∃ y : Tnt, cs = encT y ∧ okT y := by
  obtain ⟨y0, y1, y2, m, rfl, hlen, h0, h1, h2⟩ := Go.Deep.trod_struct3 Try.underlying32 h
  have c3 : Try.prog.cellsOf 32 = 3 := by kernel_rfl
  have cs1 : Try.prog.cellsOf 9 = 1 := by kernel_rfl
  have ci1 : Try.prog.cellsOf 3 = 1 := by kernel_rfl
  rw [c3] at hlen
  match cs, hlen with
  | [v0, v1, v2], _ =>
    simp only [cs1, ci1, List.drop_zero, List.drop_succ_cons, List.take_succ_cons, List.take_zero] at h0 h1 h2
    obtain ⟨key, rfl, hk⟩ := open_str h0 (light_struct Try.underlying32 hl (j := 0) rfl rfl)
    obtain ⟨val, rfl, hv⟩ := open_str h1 (light_struct Try.underlying32 hl (j := 1) rfl rfl)
    obtain ⟨e, e1, _, _⟩ := DataW.trod_int Try.underlying3 h2
    obtain rfl : v2 = .int .i64 e := by simpa using e1
    exact ⟨(key, val, e), rfl, hk, hv⟩
theorem trod_bear {cs : List Value} {x : DataW H × List MemPlace} (h : DataW.trod enc Try.prog W base sp held n 38 cs = some x) (hl : Light x.1 38) : ∃ y : Bear, cs = encB y ∧ okB y := by
  obtain ⟨y0, y1, y2, y3, m, rfl, hlen, h0, h1, h2, h3⟩ := trod_struct4 Try.underlying38 h
  have c4 : Try.prog.cellsOf 38 = 4 := by kernel_rfl
  have cs1 : Try.prog.cellsOf 9 = 1 := by kernel_rfl
  have ci1 : Try.prog.cellsOf 3 = 1 := by kernel_rfl
  have cb1 : Try.prog.cellsOf 4 = 1 := by kernel_rfl
  rw [c4] at hlen
  match cs, hlen with
  | [v0, v1, v2, v3], _ =>
    simp only [cs1, ci1, cb1, List.drop_zero, List.drop_succ_cons, List.take_succ_cons, List.take_zero] at h0 h1 h2 h3
    obtain ⟨key, rfl, hk⟩ := open_str h0 (light_struct Try.underlying38 hl (j := 0) rfl rfl)
    obtain ⟨val, rfl, hv⟩ := open_str h1 (light_struct Try.underlying38 hl (j := 1) rfl rfl)
    obtain ⟨b, b1, _⟩ := DataW.trod_bool Try.underlying4 h2
    obtain ⟨e, e1, _, _⟩ := DataW.trod_int Try.underlying3 h3
    obtain rfl : v3 = .int .i64 e := by simpa using e1
    obtain rfl : v2 = .bool b := by simpa using b1
    exact ⟨(key, val, b, e), rfl, hk, hv⟩
theorem open_tnts {v : Value} {x : DataW H × List MemPlace} (h : DataW.trod enc Try.prog W base sp held n 22 [v] = some x) (hl : Light x.1 22) :
    ∃ (a : Option Addr) (L : List Tnt) (cap : Nat), v = .slice a L.length cap ∧ TntsAt W a L ∧ L.length * 40 ≤ 140737488351232 ∧ (a = none → cap = 0) ∧ L.length ≤ cap :=
  open_row Try.underlying22 (by kernel_rfl) (by kernel_rfl) encT_len (by omega) (by omega) (fun h1 h2 => trod_tnt h1 h2) h hl
theorem open_bears {v : Value} {x : DataW H × List MemPlace} (h : DataW.trod enc Try.prog W base sp held n 23 [v] = some x) (hl : Light x.1 23) :
    ∃ (a : Option Addr) (L : List Bear) (cap : Nat), v = .slice a L.length cap ∧ BearsAt W a L ∧ L.length * 48 ≤ 140737488351232 ∧ (a = none → cap = 0) ∧ L.length ≤ cap :=
  open_row Try.underlying23 (by kernel_rfl) (by kernel_rfl) encB_len (by omega) (by omega) (fun h1 h2 => trod_bear h1 h2) h hl
end
end Go.Proofs.Ytgffnkfiecieeaa
