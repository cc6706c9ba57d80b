/- Further structs of the program as plain data, and how each lies in cells. No program. No condition. -/
import Derived.Test.YtnlmipgmakmbiaaDTypes
namespace Go.Proofs.Ytnlmipgmakmbiaa
open Go.RowKit
set_option linter.unusedSimpArgs false


abbrev InfoD := NodeD × List ByteArray × ResD × List Int × List ByteArray
def RInfo : Rep InfoD := RPair RNode (RPair (RSl RStr 1 16) (RPair RRes (RPair (RSl RInt 1 8) (RSl RStr 1 16))))
theorem RInfo.firm : Firm RInfo 15 := Firm.pair RNode.firm (Firm.pair (RSl.firm RStr.firm) (Firm.pair RRes.firm (Firm.pair (RSl.firm RInt.firm) ((RSl.firm RStr.firm)))))
theorem RInfo.out {A : Where} {w : World} {cs : List Value} {x : InfoD} (h : RInfo A w cs x) : ∃ h1 h2 h9 h13 h14 : Hd, cs = [.string x.1.1, .slice h1.1 h1.2.1 h1.2.2, .slice h2.1 h2.2.1 h2.2.2, .bool x.1.2.2.2.1, .int .i64 x.1.2.2.2.2.1.1, .int .i64 x.1.2.2.2.2.1.2.1, .int .i64 x.1.2.2.2.2.1.2.2, .int .i64 x.1.2.2.2.2.2.1, .int .i64 x.1.2.2.2.2.2.2, .slice h9.1 h9.2.1 h9.2.2, .int .i64 x.2.2.1.1, .int .i64 x.2.2.1.2.1, .int .i64 x.2.2.1.2.2, .slice h13.1 h13.2.1 h13.2.2, .slice h14.1 h14.2.1 h14.2.2] ∧ x.1.1.size ≤ 140737488355328 ∧ SlAt RLabel 2 32 A w h1.1 h1.2.1 h1.2.2 x.1.2.1 ∧ SlAt RTaint 3 40 A w h2.1 h2.2.1 h2.2.2 x.1.2.2.1 ∧ SlAt RStr 1 16 A w h9.1 h9.2.1 h9.2.2 x.2.1 ∧ SlAt RInt 1 8 A w h13.1 h13.2.1 h13.2.2 x.2.2.2.1 ∧ SlAt RStr 1 16 A w h14.1 h14.2.1 h14.2.2 x.2.2.2.2 := by
  obtain ⟨l_0, r_0, q_0, f_0, g_0⟩ := h
  obtain ⟨l_0_0, r_0_0, q_0_0, f_0_0, g_0_0⟩ := f_0
  obtain ⟨e_0_0, s_0_0⟩ := f_0_0
  obtain ⟨l_0_1, r_0_1, q_0_1, f_0_1, g_0_1⟩ := g_0_0
  obtain ⟨a_0_1, n_0_1, c_0_1, e_0_1, s_0_1⟩ := f_0_1
  obtain ⟨l_0_2, r_0_2, q_0_2, f_0_2, g_0_2⟩ := g_0_1
  obtain ⟨a_0_2, n_0_2, c_0_2, e_0_2, s_0_2⟩ := f_0_2
  obtain ⟨l_0_3, r_0_3, q_0_3, f_0_3, g_0_3⟩ := g_0_2
  have e_0_3 := f_0_3
  obtain ⟨l_0_4, r_0_4, q_0_4, f_0_4, g_0_4⟩ := g_0_3
  obtain ⟨l_0_4_0, r_0_4_0, q_0_4_0, f_0_4_0, g_0_4_0⟩ := f_0_4
  have e_0_4_0 := f_0_4_0
  obtain ⟨l_0_4_1, r_0_4_1, q_0_4_1, f_0_4_1, g_0_4_1⟩ := g_0_4_0
  have e_0_4_1 := f_0_4_1
  have e_0_4_2 := g_0_4_1
  obtain ⟨l_0_5, r_0_5, q_0_5, f_0_5, g_0_5⟩ := g_0_4
  have e_0_5 := f_0_5
  have e_0_6 := g_0_5
  obtain ⟨l_1, r_1, q_1, f_1, g_1⟩ := g_0
  obtain ⟨a_1, n_1, c_1, e_1, s_1⟩ := f_1
  obtain ⟨l_2, r_2, q_2, f_2, g_2⟩ := g_1
  obtain ⟨l_2_0, r_2_0, q_2_0, f_2_0, g_2_0⟩ := f_2
  have e_2_0 := f_2_0
  obtain ⟨l_2_1, r_2_1, q_2_1, f_2_1, g_2_1⟩ := g_2_0
  have e_2_1 := f_2_1
  have e_2_2 := g_2_1
  obtain ⟨l_3, r_3, q_3, f_3, g_3⟩ := g_2
  obtain ⟨a_3, n_3, c_3, e_3, s_3⟩ := f_3
  obtain ⟨a_4, n_4, c_4, e_4, s_4⟩ := g_3
  exact ⟨(a_0_1, n_0_1, c_0_1), (a_0_2, n_0_2, c_0_2), (a_1, n_1, c_1), (a_3, n_3, c_3), (a_4, n_4, c_4), by rw [q_0, q_0_0, e_0_0, q_0_1, e_0_1, q_0_2, e_0_2, q_0_3, e_0_3, q_0_4, q_0_4_0, e_0_4_0, q_0_4_1, e_0_4_1, e_0_4_2, q_0_5, e_0_5, e_0_6, q_1, e_1, q_2, q_2_0, e_2_0, q_2_1, e_2_1, e_2_2, q_3, e_3, e_4]; rfl, s_0_0, s_0_1, s_0_2, s_1, s_3, s_4⟩
theorem RInfo.mk {A : Where} {w : World} {x : InfoD} {h1 h2 h9 h13 h14 : Hd} (p0 : x.1.1.size ≤ 140737488355328) (p1 : SlAt RLabel 2 32 A w h1.1 h1.2.1 h1.2.2 x.1.2.1) (p2 : SlAt RTaint 3 40 A w h2.1 h2.2.1 h2.2.2 x.1.2.2.1) (p3 : SlAt RStr 1 16 A w h9.1 h9.2.1 h9.2.2 x.2.1) (p4 : SlAt RInt 1 8 A w h13.1 h13.2.1 h13.2.2 x.2.2.2.1) (p5 : SlAt RStr 1 16 A w h14.1 h14.2.1 h14.2.2 x.2.2.2.2) : RInfo A w [.string x.1.1, .slice h1.1 h1.2.1 h1.2.2, .slice h2.1 h2.2.1 h2.2.2, .bool x.1.2.2.2.1, .int .i64 x.1.2.2.2.2.1.1, .int .i64 x.1.2.2.2.2.1.2.1, .int .i64 x.1.2.2.2.2.1.2.2, .int .i64 x.1.2.2.2.2.2.1, .int .i64 x.1.2.2.2.2.2.2, .slice h9.1 h9.2.1 h9.2.2, .int .i64 x.2.2.1.1, .int .i64 x.2.2.1.2.1, .int .i64 x.2.2.1.2.2, .slice h13.1 h13.2.1 h13.2.2, .slice h14.1 h14.2.1 h14.2.2] x :=
  ⟨_, _, rfl, ⟨_, _, rfl, ⟨rfl, p0⟩, ⟨_, _, rfl, ⟨h1.1, h1.2.1, h1.2.2, rfl, p1⟩, ⟨_, _, rfl, ⟨h2.1, h2.2.1, h2.2.2, rfl, p2⟩, ⟨_, _, rfl, rfl, ⟨_, _, rfl, ⟨_, _, rfl, rfl, ⟨_, _, rfl, rfl, rfl⟩⟩, ⟨_, _, rfl, rfl, rfl⟩⟩⟩⟩⟩⟩, ⟨_, _, rfl, ⟨h9.1, h9.2.1, h9.2.2, rfl, p3⟩, ⟨_, _, rfl, ⟨_, _, rfl, rfl, ⟨_, _, rfl, rfl, rfl⟩⟩, ⟨_, _, rfl, ⟨h13.1, h13.2.1, h13.2.2, rfl, p4⟩, ⟨h14.1, h14.2.1, h14.2.2, rfl, p5⟩⟩⟩⟩⟩
end Go.Proofs.Ytnlmipgmakmbiaa
