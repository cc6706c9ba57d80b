/- The program's structs as plain data, and how each lies in cells. No program. No condition. base.Texts, Ints, Labels give slices of their own that hold the same. Condition: the slice holds what is said of it. -/
import Derived.Test.YtpjgffcpjabghaaQ01
import Derived.Test.YtpjgffcpjabghaaQ02
namespace Go.Proofs.Ytpjgffcpjabghaa
open Go.RowKit
set_option linter.unusedSimpArgs false

/-- A slice's header: address, length, room. -/
abbrev Hd := Option Addr × Nat × Nat

def RLabel : Rep Lab := RPair RStr RStr
theorem RLabel.firm : Firm RLabel 2 := Firm.pair RStr.firm (RStr.firm)
def RReq : Rep Ask := RPair RStr (RPair RInt (RSl RStr 1 16))
theorem RReq.firm : Firm RReq 3 := Firm.pair RStr.firm (Firm.pair RInt.firm ((RSl.firm RStr.firm)))
abbrev ResD := Int × Int × Int
def RRes : Rep ResD := RPair RInt (RPair RInt RInt)
theorem RRes.firm : Firm RRes 3 := Firm.pair RInt.firm (Firm.pair RInt.firm (RInt.firm))
def RTaint : Rep Tnt := RPair RStr (RPair RStr RInt)
theorem RTaint.firm : Firm RTaint 3 := Firm.pair RStr.firm (Firm.pair RStr.firm (RInt.firm))
def RBear : Rep Bear := RPair RStr (RPair RStr (RPair RBool RInt))
theorem RBear.firm : Firm RBear 4 := Firm.pair RStr.firm (Firm.pair RStr.firm (Firm.pair RBool.firm (RInt.firm)))
abbrev TermD := List Ask × ByteArray
def RTerm : Rep TermD := RPair (RSl RReq 3 48) RStr
theorem RTerm.firm : Firm RTerm 2 := Firm.pair (RSl.firm RReq.firm) (RStr.firm)
abbrev PreferD := List Ask × Int
def RPrefer : Rep PreferD := RPair (RSl RReq 3 48) RInt
theorem RPrefer.firm : Firm RPrefer 2 := Firm.pair (RSl.firm RReq.firm) (RInt.firm)
abbrev SpreadD := ByteArray × Int × Int × List Ask
def RSpread : Rep SpreadD := RPair RStr (RPair RInt (RPair RInt (RSl RReq 3 48)))
theorem RSpread.firm : Firm RSpread 4 := Firm.pair RStr.firm (Firm.pair RInt.firm (Firm.pair RInt.firm ((RSl.firm RReq.firm))))
abbrev PodD := ByteArray × Int × List Lab × ResD × List Bear × List Ask × List PreferD × List Int × List TermD × List TermD × List SpreadD × List ByteArray × ByteArray × ByteArray
def RPod : Rep PodD := RPair RStr (RPair RInt (RPair (RSl RLabel 2 32) (RPair RRes (RPair (RSl RBear 4 48) (RPair (RSl RReq 3 48) (RPair (RSl RPrefer 2 32) (RPair (RSl RInt 1 8) (RPair (RSl RTerm 2 40) (RPair (RSl RTerm 2 40) (RPair (RSl RSpread 4 56) (RPair (RSl RStr 1 16) (RPair RStr RStr))))))))))))
theorem RPod.firm : Firm RPod 16 := Firm.pair RStr.firm (Firm.pair RInt.firm (Firm.pair (RSl.firm RLabel.firm) (Firm.pair RRes.firm (Firm.pair (RSl.firm RBear.firm) (Firm.pair (RSl.firm RReq.firm) (Firm.pair (RSl.firm RPrefer.firm) (Firm.pair (RSl.firm RInt.firm) (Firm.pair (RSl.firm RTerm.firm) (Firm.pair (RSl.firm RTerm.firm) (Firm.pair (RSl.firm RSpread.firm) (Firm.pair (RSl.firm RStr.firm) (Firm.pair RStr.firm (RStr.firm)))))))))))))
abbrev NodeD := ByteArray × List Lab × List Tnt × Bool × ResD × Int × Int
def RNode : Rep NodeD := RPair RStr (RPair (RSl RLabel 2 32) (RPair (RSl RTaint 3 40) (RPair RBool (RPair RRes (RPair RInt RInt)))))
theorem RNode.firm : Firm RNode 9 := Firm.pair RStr.firm (Firm.pair (RSl.firm RLabel.firm) (Firm.pair (RSl.firm RTaint.firm) (Firm.pair RBool.firm (Firm.pair RRes.firm (Firm.pair RInt.firm (RInt.firm))))))
abbrev VolumeD := ByteArray × Int × ByteArray × List Ask × ByteArray
def RVolume : Rep VolumeD := RPair RStr (RPair RInt (RPair RStr (RPair (RSl RReq 3 48) RStr)))
theorem RVolume.firm : Firm RVolume 5 := Firm.pair RStr.firm (Firm.pair RInt.firm (Firm.pair RStr.firm (Firm.pair (RSl.firm RReq.firm) (RStr.firm))))
abbrev ClaimD := ByteArray × Int × ByteArray × ByteArray
def RClaim : Rep ClaimD := RPair RStr (RPair RInt (RPair RStr RStr))
theorem RClaim.firm : Firm RClaim 4 := Firm.pair RStr.firm (Firm.pair RInt.firm (Firm.pair RStr.firm (RStr.firm)))
abbrev ClassD := ByteArray × Bool
def RClass : Rep ClassD := RPair RStr RBool
theorem RClass.firm : Firm RClass 2 := Firm.pair RStr.firm (RBool.firm)
abbrev BudgetD := ByteArray × List Ask × Int
def RBudget : Rep BudgetD := RPair RStr (RPair (RSl RReq 3 48) RInt)
theorem RBudget.firm : Firm RBudget 3 := Firm.pair RStr.firm (Firm.pair (RSl.firm RReq.firm) (RInt.firm))
abbrev StateD := List PodD × List NodeD × List VolumeD × List ClaimD × List ClassD × List BudgetD
def RState : Rep StateD := RPair (RSl RPod 16 296) (RPair (RSl RNode 9 112) (RPair (RSl RVolume 5 80) (RPair (RSl RClaim 4 56) (RPair (RSl RClass 2 24) (RSl RBudget 3 48)))))
theorem RState.firm : Firm RState 6 := Firm.pair (RSl.firm RPod.firm) (Firm.pair (RSl.firm RNode.firm) (Firm.pair (RSl.firm RVolume.firm) (Firm.pair (RSl.firm RClaim.firm) (Firm.pair (RSl.firm RClass.firm) ((RSl.firm RBudget.firm))))))
abbrev ObjectD := Int × PodD × NodeD × VolumeD × ClaimD × ClassD × BudgetD
def RObject : Rep ObjectD := RPair RInt (RPair RPod (RPair RNode (RPair RVolume (RPair RClaim (RPair RClass RBudget)))))
theorem RObject.firm : Firm RObject 40 := Firm.pair RInt.firm (Firm.pair RPod.firm (Firm.pair RNode.firm (Firm.pair RVolume.firm (Firm.pair RClaim.firm (Firm.pair RClass.firm (RBudget.firm))))))
theorem RLabel.out {A : Where} {w : World} {cs : List Value} {x : Lab} (h : RLabel A w cs x) : cs = [.string x.1, .string x.2] ∧ x.1.size ≤ 140737488355328 ∧ x.2.size ≤ 140737488355328 := by
  obtain ⟨l_0, r_0, q_0, f_0, g_0⟩ := h
  obtain ⟨e_0, s_0⟩ := f_0
  obtain ⟨e_1, s_1⟩ := g_0
  exact ⟨by rw [q_0, e_0, e_1]; rfl, s_0, s_1⟩
theorem RLabel.mk {A : Where} {w : World} {x : Lab} (p0 : x.1.size ≤ 140737488355328) (p1 : x.2.size ≤ 140737488355328) : RLabel A w [.string x.1, .string x.2] x :=
  ⟨_, _, rfl, ⟨rfl, p0⟩, ⟨rfl, p1⟩⟩
theorem RReq.out {A : Where} {w : World} {cs : List Value} {x : Ask} (h : RReq A w cs x) : ∃ h2 : Hd, cs = [.string x.1, .int .i64 x.2.1, .slice h2.1 h2.2.1 h2.2.2] ∧ x.1.size ≤ 140737488355328 ∧ SlAt RStr 1 16 A w h2.1 h2.2.1 h2.2.2 x.2.2 := by
  obtain ⟨l_0, r_0, q_0, f_0, g_0⟩ := h
  obtain ⟨e_0, s_0⟩ := f_0
  obtain ⟨l_1, r_1, q_1, f_1, g_1⟩ := g_0
  have e_1 := f_1
  obtain ⟨a_2, n_2, c_2, e_2, s_2⟩ := g_1
  exact ⟨(a_2, n_2, c_2), by rw [q_0, e_0, q_1, e_1, e_2]; rfl, s_0, s_2⟩
theorem RReq.mk {A : Where} {w : World} {x : Ask} {h2 : Hd} (p0 : x.1.size ≤ 140737488355328) (p1 : SlAt RStr 1 16 A w h2.1 h2.2.1 h2.2.2 x.2.2) : RReq A w [.string x.1, .int .i64 x.2.1, .slice h2.1 h2.2.1 h2.2.2] x :=
  ⟨_, _, rfl, ⟨rfl, p0⟩, ⟨_, _, rfl, rfl, ⟨h2.1, h2.2.1, h2.2.2, rfl, p1⟩⟩⟩
theorem RRes.out {A : Where} {w : World} {cs : List Value} {x : ResD} (h : RRes A w cs x) : cs = [.int .i64 x.1, .int .i64 x.2.1, .int .i64 x.2.2] := by
  obtain ⟨l_0, r_0, q_0, f_0, g_0⟩ := h
  have e_0 := f_0
  obtain ⟨l_1, r_1, q_1, f_1, g_1⟩ := g_0
  have e_1 := f_1
  have e_2 := g_1
  rw [q_0, e_0, q_1, e_1, e_2]; rfl
theorem RRes.mk {A : Where} {w : World} {x : ResD}  : RRes A w [.int .i64 x.1, .int .i64 x.2.1, .int .i64 x.2.2] x :=
  ⟨_, _, rfl, rfl, ⟨_, _, rfl, rfl, rfl⟩⟩
theorem RTaint.out {A : Where} {w : World} {cs : List Value} {x : Tnt} (h : RTaint A w cs x) : cs = [.string x.1, .string x.2.1, .int .i64 x.2.2] ∧ x.1.size ≤ 140737488355328 ∧ x.2.1.size ≤ 140737488355328 := by
  obtain ⟨l_0, r_0, q_0, f_0, g_0⟩ := h
  obtain ⟨e_0, s_0⟩ := f_0
  obtain ⟨l_1, r_1, q_1, f_1, g_1⟩ := g_0
  obtain ⟨e_1, s_1⟩ := f_1
  have e_2 := g_1
  exact ⟨by rw [q_0, e_0, q_1, e_1, e_2]; rfl, s_0, s_1⟩
theorem RTaint.mk {A : Where} {w : World} {x : Tnt} (p0 : x.1.size ≤ 140737488355328) (p1 : x.2.1.size ≤ 140737488355328) : RTaint A w [.string x.1, .string x.2.1, .int .i64 x.2.2] x :=
  ⟨_, _, rfl, ⟨rfl, p0⟩, ⟨_, _, rfl, ⟨rfl, p1⟩, rfl⟩⟩
theorem RBear.out {A : Where} {w : World} {cs : List Value} {x : Bear} (h : RBear A w cs x) : cs = [.string x.1, .string x.2.1, .bool x.2.2.1, .int .i64 x.2.2.2] ∧ x.1.size ≤ 140737488355328 ∧ x.2.1.size ≤ 140737488355328 := by
  obtain ⟨l_0, r_0, q_0, f_0, g_0⟩ := h
  obtain ⟨e_0, s_0⟩ := f_0
  obtain ⟨l_1, r_1, q_1, f_1, g_1⟩ := g_0
  obtain ⟨e_1, s_1⟩ := f_1
  obtain ⟨l_2, r_2, q_2, f_2, g_2⟩ := g_1
  have e_2 := f_2
  have e_3 := g_2
  exact ⟨by rw [q_0, e_0, q_1, e_1, q_2, e_2, e_3]; rfl, s_0, s_1⟩
theorem RBear.mk {A : Where} {w : World} {x : Bear} (p0 : x.1.size ≤ 140737488355328) (p1 : x.2.1.size ≤ 140737488355328) : RBear A w [.string x.1, .string x.2.1, .bool x.2.2.1, .int .i64 x.2.2.2] x :=
  ⟨_, _, rfl, ⟨rfl, p0⟩, ⟨_, _, rfl, ⟨rfl, p1⟩, ⟨_, _, rfl, rfl, rfl⟩⟩⟩
theorem RTerm.out {A : Where} {w : World} {cs : List Value} {x : TermD} (h : RTerm A w cs x) : ∃ h0 : Hd, cs = [.slice h0.1 h0.2.1 h0.2.2, .string x.2] ∧ SlAt RReq 3 48 A w h0.1 h0.2.1 h0.2.2 x.1 ∧ x.2.size ≤ 140737488355328 := by
  obtain ⟨l_0, r_0, q_0, f_0, g_0⟩ := h
  obtain ⟨a_0, n_0, c_0, e_0, s_0⟩ := f_0
  obtain ⟨e_1, s_1⟩ := g_0
  exact ⟨(a_0, n_0, c_0), by rw [q_0, e_0, e_1]; rfl, s_0, s_1⟩
theorem RTerm.mk {A : Where} {w : World} {x : TermD} {h0 : Hd} (p0 : SlAt RReq 3 48 A w h0.1 h0.2.1 h0.2.2 x.1) (p1 : x.2.size ≤ 140737488355328) : RTerm A w [.slice h0.1 h0.2.1 h0.2.2, .string x.2] x :=
  ⟨_, _, rfl, ⟨h0.1, h0.2.1, h0.2.2, rfl, p0⟩, ⟨rfl, p1⟩⟩
theorem RPrefer.out {A : Where} {w : World} {cs : List Value} {x : PreferD} (h : RPrefer A w cs x) : ∃ h0 : Hd, cs = [.slice h0.1 h0.2.1 h0.2.2, .int .i64 x.2] ∧ SlAt RReq 3 48 A w h0.1 h0.2.1 h0.2.2 x.1 := by
  obtain ⟨l_0, r_0, q_0, f_0, g_0⟩ := h
  obtain ⟨a_0, n_0, c_0, e_0, s_0⟩ := f_0
  have e_1 := g_0
  exact ⟨(a_0, n_0, c_0), by rw [q_0, e_0, e_1]; rfl, s_0⟩
theorem RPrefer.mk {A : Where} {w : World} {x : PreferD} {h0 : Hd} (p0 : SlAt RReq 3 48 A w h0.1 h0.2.1 h0.2.2 x.1) : RPrefer A w [.slice h0.1 h0.2.1 h0.2.2, .int .i64 x.2] x :=
  ⟨_, _, rfl, ⟨h0.1, h0.2.1, h0.2.2, rfl, p0⟩, rfl⟩
theorem RSpread.out {A : Where} {w : World} {cs : List Value} {x : SpreadD} (h : RSpread A w cs x) : ∃ h3 : Hd, cs = [.string x.1, .int .i64 x.2.1, .int .i64 x.2.2.1, .slice h3.1 h3.2.1 h3.2.2] ∧ x.1.size ≤ 140737488355328 ∧ SlAt RReq 3 48 A w h3.1 h3.2.1 h3.2.2 x.2.2.2 := by
  obtain ⟨l_0, r_0, q_0, f_0, g_0⟩ := h
  obtain ⟨e_0, s_0⟩ := f_0
  obtain ⟨l_1, r_1, q_1, f_1, g_1⟩ := g_0
  have e_1 := f_1
  obtain ⟨l_2, r_2, q_2, f_2, g_2⟩ := g_1
  have e_2 := f_2
  obtain ⟨a_3, n_3, c_3, e_3, s_3⟩ := g_2
  exact ⟨(a_3, n_3, c_3), by rw [q_0, e_0, q_1, e_1, q_2, e_2, e_3]; rfl, s_0, s_3⟩
theorem RSpread.mk {A : Where} {w : World} {x : SpreadD} {h3 : Hd} (p0 : x.1.size ≤ 140737488355328) (p1 : SlAt RReq 3 48 A w h3.1 h3.2.1 h3.2.2 x.2.2.2) : RSpread A w [.string x.1, .int .i64 x.2.1, .int .i64 x.2.2.1, .slice h3.1 h3.2.1 h3.2.2] x :=
  ⟨_, _, rfl, ⟨rfl, p0⟩, ⟨_, _, rfl, rfl, ⟨_, _, rfl, rfl, ⟨h3.1, h3.2.1, h3.2.2, rfl, p1⟩⟩⟩⟩
theorem RPod.out {A : Where} {w : World} {cs : List Value} {x : PodD} (h : RPod A w cs x) : ∃ h2 h6 h7 h8 h9 h10 h11 h12 h13 : Hd, cs = [.string x.1, .int .i64 x.2.1, .slice h2.1 h2.2.1 h2.2.2, .int .i64 x.2.2.2.1.1, .int .i64 x.2.2.2.1.2.1, .int .i64 x.2.2.2.1.2.2, .slice h6.1 h6.2.1 h6.2.2, .slice h7.1 h7.2.1 h7.2.2, .slice h8.1 h8.2.1 h8.2.2, .slice h9.1 h9.2.1 h9.2.2, .slice h10.1 h10.2.1 h10.2.2, .slice h11.1 h11.2.1 h11.2.2, .slice h12.1 h12.2.1 h12.2.2, .slice h13.1 h13.2.1 h13.2.2, .string x.2.2.2.2.2.2.2.2.2.2.2.2.1, .string x.2.2.2.2.2.2.2.2.2.2.2.2.2] ∧ x.1.size ≤ 140737488355328 ∧ SlAt RLabel 2 32 A w h2.1 h2.2.1 h2.2.2 x.2.2.1 ∧ SlAt RBear 4 48 A w h6.1 h6.2.1 h6.2.2 x.2.2.2.2.1 ∧ SlAt RReq 3 48 A w h7.1 h7.2.1 h7.2.2 x.2.2.2.2.2.1 ∧ SlAt RPrefer 2 32 A w h8.1 h8.2.1 h8.2.2 x.2.2.2.2.2.2.1 ∧ SlAt RInt 1 8 A w h9.1 h9.2.1 h9.2.2 x.2.2.2.2.2.2.2.1 ∧ SlAt RTerm 2 40 A w h10.1 h10.2.1 h10.2.2 x.2.2.2.2.2.2.2.2.1 ∧ SlAt RTerm 2 40 A w h11.1 h11.2.1 h11.2.2 x.2.2.2.2.2.2.2.2.2.1 ∧ SlAt RSpread 4 56 A w h12.1 h12.2.1 h12.2.2 x.2.2.2.2.2.2.2.2.2.2.1 ∧ SlAt RStr 1 16 A w h13.1 h13.2.1 h13.2.2 x.2.2.2.2.2.2.2.2.2.2.2.1 ∧ x.2.2.2.2.2.2.2.2.2.2.2.2.1.size ≤ 140737488355328 ∧ x.2.2.2.2.2.2.2.2.2.2.2.2.2.size ≤ 140737488355328 := by
  obtain ⟨l_0, r_0, q_0, f_0, g_0⟩ := h
  obtain ⟨e_0, s_0⟩ := f_0
  obtain ⟨l_1, r_1, q_1, f_1, g_1⟩ := g_0
  have e_1 := f_1
  obtain ⟨l_2, r_2, q_2, f_2, g_2⟩ := g_1
  obtain ⟨a_2, n_2, c_2, e_2, s_2⟩ := f_2
  obtain ⟨l_3, r_3, q_3, f_3, g_3⟩ := g_2
  obtain ⟨l_3_0, r_3_0, q_3_0, f_3_0, g_3_0⟩ := f_3
  have e_3_0 := f_3_0
  obtain ⟨l_3_1, r_3_1, q_3_1, f_3_1, g_3_1⟩ := g_3_0
  have e_3_1 := f_3_1
  have e_3_2 := g_3_1
  obtain ⟨l_4, r_4, q_4, f_4, g_4⟩ := g_3
  obtain ⟨a_4, n_4, c_4, e_4, s_4⟩ := f_4
  obtain ⟨l_5, r_5, q_5, f_5, g_5⟩ := g_4
  obtain ⟨a_5, n_5, c_5, e_5, s_5⟩ := f_5
  obtain ⟨l_6, r_6, q_6, f_6, g_6⟩ := g_5
  obtain ⟨a_6, n_6, c_6, e_6, s_6⟩ := f_6
  obtain ⟨l_7, r_7, q_7, f_7, g_7⟩ := g_6
  obtain ⟨a_7, n_7, c_7, e_7, s_7⟩ := f_7
  obtain ⟨l_8, r_8, q_8, f_8, g_8⟩ := g_7
  obtain ⟨a_8, n_8, c_8, e_8, s_8⟩ := f_8
  obtain ⟨l_9, r_9, q_9, f_9, g_9⟩ := g_8
  obtain ⟨a_9, n_9, c_9, e_9, s_9⟩ := f_9
  obtain ⟨l_10, r_10, q_10, f_10, g_10⟩ := g_9
  obtain ⟨a_10, n_10, c_10, e_10, s_10⟩ := f_10
  obtain ⟨l_11, r_11, q_11, f_11, g_11⟩ := g_10
  obtain ⟨a_11, n_11, c_11, e_11, s_11⟩ := f_11
  obtain ⟨l_12, r_12, q_12, f_12, g_12⟩ := g_11
  obtain ⟨e_12, s_12⟩ := f_12
  obtain ⟨e_13, s_13⟩ := g_12
  exact ⟨(a_2, n_2, c_2), (a_4, n_4, c_4), (a_5, n_5, c_5), (a_6, n_6, c_6), (a_7, n_7, c_7), (a_8, n_8, c_8), (a_9, n_9, c_9), (a_10, n_10, c_10), (a_11, n_11, c_11), by rw [q_0, e_0, q_1, e_1, q_2, e_2, q_3, q_3_0, e_3_0, q_3_1, e_3_1, e_3_2, q_4, e_4, q_5, e_5, q_6, e_6, q_7, e_7, q_8, e_8, q_9, e_9, q_10, e_10, q_11, e_11, q_12, e_12, e_13]; rfl, s_0, s_2, s_4, s_5, s_6, s_7, s_8, s_9, s_10, s_11, s_12, s_13⟩
theorem RPod.mk {A : Where} {w : World} {x : PodD} {h2 h6 h7 h8 h9 h10 h11 h12 h13 : Hd} (p0 : x.1.size ≤ 140737488355328) (p1 : SlAt RLabel 2 32 A w h2.1 h2.2.1 h2.2.2 x.2.2.1) (p2 : SlAt RBear 4 48 A w h6.1 h6.2.1 h6.2.2 x.2.2.2.2.1) (p3 : SlAt RReq 3 48 A w h7.1 h7.2.1 h7.2.2 x.2.2.2.2.2.1) (p4 : SlAt RPrefer 2 32 A w h8.1 h8.2.1 h8.2.2 x.2.2.2.2.2.2.1) (p5 : SlAt RInt 1 8 A w h9.1 h9.2.1 h9.2.2 x.2.2.2.2.2.2.2.1) (p6 : SlAt RTerm 2 40 A w h10.1 h10.2.1 h10.2.2 x.2.2.2.2.2.2.2.2.1) (p7 : SlAt RTerm 2 40 A w h11.1 h11.2.1 h11.2.2 x.2.2.2.2.2.2.2.2.2.1) (p8 : SlAt RSpread 4 56 A w h12.1 h12.2.1 h12.2.2 x.2.2.2.2.2.2.2.2.2.2.1) (p9 : SlAt RStr 1 16 A w h13.1 h13.2.1 h13.2.2 x.2.2.2.2.2.2.2.2.2.2.2.1) (p10 : x.2.2.2.2.2.2.2.2.2.2.2.2.1.size ≤ 140737488355328) (p11 : x.2.2.2.2.2.2.2.2.2.2.2.2.2.size ≤ 140737488355328) : RPod A w [.string x.1, .int .i64 x.2.1, .slice h2.1 h2.2.1 h2.2.2, .int .i64 x.2.2.2.1.1, .int .i64 x.2.2.2.1.2.1, .int .i64 x.2.2.2.1.2.2, .slice h6.1 h6.2.1 h6.2.2, .slice h7.1 h7.2.1 h7.2.2, .slice h8.1 h8.2.1 h8.2.2, .slice h9.1 h9.2.1 h9.2.2, .slice h10.1 h10.2.1 h10.2.2, .slice h11.1 h11.2.1 h11.2.2, .slice h12.1 h12.2.1 h12.2.2, .slice h13.1 h13.2.1 h13.2.2, .string x.2.2.2.2.2.2.2.2.2.2.2.2.1, .string x.2.2.2.2.2.2.2.2.2.2.2.2.2] x :=
  ⟨_, _, rfl, ⟨rfl, p0⟩, ⟨_, _, rfl, rfl, ⟨_, _, rfl, ⟨h2.1, h2.2.1, h2.2.2, rfl, p1⟩, ⟨_, _, rfl, ⟨_, _, rfl, rfl, ⟨_, _, rfl, rfl, rfl⟩⟩, ⟨_, _, rfl, ⟨h6.1, h6.2.1, h6.2.2, rfl, p2⟩, ⟨_, _, rfl, ⟨h7.1, h7.2.1, h7.2.2, rfl, p3⟩, ⟨_, _, rfl, ⟨h8.1, h8.2.1, h8.2.2, rfl, p4⟩, ⟨_, _, rfl, ⟨h9.1, h9.2.1, h9.2.2, rfl, p5⟩, ⟨_, _, rfl, ⟨h10.1, h10.2.1, h10.2.2, rfl, p6⟩, ⟨_, _, rfl, ⟨h11.1, h11.2.1, h11.2.2, rfl, p7⟩, ⟨_, _, rfl, ⟨h12.1, h12.2.1, h12.2.2, rfl, p8⟩, ⟨_, _, rfl, ⟨h13.1, h13.2.1, h13.2.2, rfl, p9⟩, ⟨_, _, rfl, ⟨rfl, p10⟩, ⟨rfl, p11⟩⟩⟩⟩⟩⟩⟩⟩⟩⟩⟩⟩⟩⟩
theorem RNode.out {A : Where} {w : World} {cs : List Value} {x : NodeD} (h : RNode A w cs x) : ∃ h1 h2 : Hd, cs = [.string x.1, .slice h1.1 h1.2.1 h1.2.2, .slice h2.1 h2.2.1 h2.2.2, .bool x.2.2.2.1, .int .i64 x.2.2.2.2.1.1, .int .i64 x.2.2.2.2.1.2.1, .int .i64 x.2.2.2.2.1.2.2, .int .i64 x.2.2.2.2.2.1, .int .i64 x.2.2.2.2.2.2] ∧ x.1.size ≤ 140737488355328 ∧ SlAt RLabel 2 32 A w h1.1 h1.2.1 h1.2.2 x.2.1 ∧ SlAt RTaint 3 40 A w h2.1 h2.2.1 h2.2.2 x.2.2.1 := by
  obtain ⟨l_0, r_0, q_0, f_0, g_0⟩ := h
  obtain ⟨e_0, s_0⟩ := f_0
  obtain ⟨l_1, r_1, q_1, f_1, g_1⟩ := g_0
  obtain ⟨a_1, n_1, c_1, e_1, s_1⟩ := f_1
  obtain ⟨l_2, r_2, q_2, f_2, g_2⟩ := g_1
  obtain ⟨a_2, n_2, c_2, e_2, s_2⟩ := f_2
  obtain ⟨l_3, r_3, q_3, f_3, g_3⟩ := g_2
  have e_3 := f_3
  obtain ⟨l_4, r_4, q_4, f_4, g_4⟩ := g_3
  obtain ⟨l_4_0, r_4_0, q_4_0, f_4_0, g_4_0⟩ := f_4
  have e_4_0 := f_4_0
  obtain ⟨l_4_1, r_4_1, q_4_1, f_4_1, g_4_1⟩ := g_4_0
  have e_4_1 := f_4_1
  have e_4_2 := g_4_1
  obtain ⟨l_5, r_5, q_5, f_5, g_5⟩ := g_4
  have e_5 := f_5
  have e_6 := g_5
  exact ⟨(a_1, n_1, c_1), (a_2, n_2, c_2), by rw [q_0, e_0, q_1, e_1, q_2, e_2, q_3, e_3, q_4, q_4_0, e_4_0, q_4_1, e_4_1, e_4_2, q_5, e_5, e_6]; rfl, s_0, s_1, s_2⟩
theorem RNode.mk {A : Where} {w : World} {x : NodeD} {h1 h2 : Hd} (p0 : x.1.size ≤ 140737488355328) (p1 : SlAt RLabel 2 32 A w h1.1 h1.2.1 h1.2.2 x.2.1) (p2 : SlAt RTaint 3 40 A w h2.1 h2.2.1 h2.2.2 x.2.2.1) : RNode A w [.string x.1, .slice h1.1 h1.2.1 h1.2.2, .slice h2.1 h2.2.1 h2.2.2, .bool x.2.2.2.1, .int .i64 x.2.2.2.2.1.1, .int .i64 x.2.2.2.2.1.2.1, .int .i64 x.2.2.2.2.1.2.2, .int .i64 x.2.2.2.2.2.1, .int .i64 x.2.2.2.2.2.2] x :=
  ⟨_, _, rfl, ⟨rfl, p0⟩, ⟨_, _, rfl, ⟨h1.1, h1.2.1, h1.2.2, rfl, p1⟩, ⟨_, _, rfl, ⟨h2.1, h2.2.1, h2.2.2, rfl, p2⟩, ⟨_, _, rfl, rfl, ⟨_, _, rfl, ⟨_, _, rfl, rfl, ⟨_, _, rfl, rfl, rfl⟩⟩, ⟨_, _, rfl, rfl, rfl⟩⟩⟩⟩⟩⟩
theorem RVolume.out {A : Where} {w : World} {cs : List Value} {x : VolumeD} (h : RVolume A w cs x) : ∃ h3 : Hd, cs = [.string x.1, .int .i64 x.2.1, .string x.2.2.1, .slice h3.1 h3.2.1 h3.2.2, .string x.2.2.2.2] ∧ x.1.size ≤ 140737488355328 ∧ x.2.2.1.size ≤ 140737488355328 ∧ SlAt RReq 3 48 A w h3.1 h3.2.1 h3.2.2 x.2.2.2.1 ∧ x.2.2.2.2.size ≤ 140737488355328 := by
  obtain ⟨l_0, r_0, q_0, f_0, g_0⟩ := h
  obtain ⟨e_0, s_0⟩ := f_0
  obtain ⟨l_1, r_1, q_1, f_1, g_1⟩ := g_0
  have e_1 := f_1
  obtain ⟨l_2, r_2, q_2, f_2, g_2⟩ := g_1
  obtain ⟨e_2, s_2⟩ := f_2
  obtain ⟨l_3, r_3, q_3, f_3, g_3⟩ := g_2
  obtain ⟨a_3, n_3, c_3, e_3, s_3⟩ := f_3
  obtain ⟨e_4, s_4⟩ := g_3
  exact ⟨(a_3, n_3, c_3), by rw [q_0, e_0, q_1, e_1, q_2, e_2, q_3, e_3, e_4]; rfl, s_0, s_2, s_3, s_4⟩
theorem RVolume.mk {A : Where} {w : World} {x : VolumeD} {h3 : Hd} (p0 : x.1.size ≤ 140737488355328) (p1 : x.2.2.1.size ≤ 140737488355328) (p2 : SlAt RReq 3 48 A w h3.1 h3.2.1 h3.2.2 x.2.2.2.1) (p3 : x.2.2.2.2.size ≤ 140737488355328) : RVolume A w [.string x.1, .int .i64 x.2.1, .string x.2.2.1, .slice h3.1 h3.2.1 h3.2.2, .string x.2.2.2.2] x :=
  ⟨_, _, rfl, ⟨rfl, p0⟩, ⟨_, _, rfl, rfl, ⟨_, _, rfl, ⟨rfl, p1⟩, ⟨_, _, rfl, ⟨h3.1, h3.2.1, h3.2.2, rfl, p2⟩, ⟨rfl, p3⟩⟩⟩⟩⟩
theorem RClaim.out {A : Where} {w : World} {cs : List Value} {x : ClaimD} (h : RClaim A w cs x) : cs = [.string x.1, .int .i64 x.2.1, .string x.2.2.1, .string x.2.2.2] ∧ x.1.size ≤ 140737488355328 ∧ x.2.2.1.size ≤ 140737488355328 ∧ x.2.2.2.size ≤ 140737488355328 := by
  obtain ⟨l_0, r_0, q_0, f_0, g_0⟩ := h
  obtain ⟨e_0, s_0⟩ := f_0
  obtain ⟨l_1, r_1, q_1, f_1, g_1⟩ := g_0
  have e_1 := f_1
  obtain ⟨l_2, r_2, q_2, f_2, g_2⟩ := g_1
  obtain ⟨e_2, s_2⟩ := f_2
  obtain ⟨e_3, s_3⟩ := g_2
  exact ⟨by rw [q_0, e_0, q_1, e_1, q_2, e_2, e_3]; rfl, s_0, s_2, s_3⟩
theorem RClaim.mk {A : Where} {w : World} {x : ClaimD} (p0 : x.1.size ≤ 140737488355328) (p1 : x.2.2.1.size ≤ 140737488355328) (p2 : x.2.2.2.size ≤ 140737488355328) : RClaim A w [.string x.1, .int .i64 x.2.1, .string x.2.2.1, .string x.2.2.2] x :=
  ⟨_, _, rfl, ⟨rfl, p0⟩, ⟨_, _, rfl, rfl, ⟨_, _, rfl, ⟨rfl, p1⟩, ⟨rfl, p2⟩⟩⟩⟩
theorem RClass.out {A : Where} {w : World} {cs : List Value} {x : ClassD} (h : RClass A w cs x) : cs = [.string x.1, .bool x.2] ∧ x.1.size ≤ 140737488355328 := by
  obtain ⟨l_0, r_0, q_0, f_0, g_0⟩ := h
  obtain ⟨e_0, s_0⟩ := f_0
  have e_1 := g_0
  exact ⟨by rw [q_0, e_0, e_1]; rfl, s_0⟩
theorem RClass.mk {A : Where} {w : World} {x : ClassD} (p0 : x.1.size ≤ 140737488355328) : RClass A w [.string x.1, .bool x.2] x :=
  ⟨_, _, rfl, ⟨rfl, p0⟩, rfl⟩
theorem RBudget.out {A : Where} {w : World} {cs : List Value} {x : BudgetD} (h : RBudget A w cs x) : ∃ h1 : Hd, cs = [.string x.1, .slice h1.1 h1.2.1 h1.2.2, .int .i64 x.2.2] ∧ x.1.size ≤ 140737488355328 ∧ SlAt RReq 3 48 A w h1.1 h1.2.1 h1.2.2 x.2.1 := by
  obtain ⟨l_0, r_0, q_0, f_0, g_0⟩ := h
  obtain ⟨e_0, s_0⟩ := f_0
  obtain ⟨l_1, r_1, q_1, f_1, g_1⟩ := g_0
  obtain ⟨a_1, n_1, c_1, e_1, s_1⟩ := f_1
  have e_2 := g_1
  exact ⟨(a_1, n_1, c_1), by rw [q_0, e_0, q_1, e_1, e_2]; rfl, s_0, s_1⟩
theorem RBudget.mk {A : Where} {w : World} {x : BudgetD} {h1 : Hd} (p0 : x.1.size ≤ 140737488355328) (p1 : SlAt RReq 3 48 A w h1.1 h1.2.1 h1.2.2 x.2.1) : RBudget A w [.string x.1, .slice h1.1 h1.2.1 h1.2.2, .int .i64 x.2.2] x :=
  ⟨_, _, rfl, ⟨rfl, p0⟩, ⟨_, _, rfl, ⟨h1.1, h1.2.1, h1.2.2, rfl, p1⟩, rfl⟩⟩
theorem RState.out {A : Where} {w : World} {cs : List Value} {x : StateD} (h : RState A w cs x) : ∃ h0 h1 h2 h3 h4 h5 : Hd, cs = [.slice h0.1 h0.2.1 h0.2.2, .slice h1.1 h1.2.1 h1.2.2, .slice h2.1 h2.2.1 h2.2.2, .slice h3.1 h3.2.1 h3.2.2, .slice h4.1 h4.2.1 h4.2.2, .slice h5.1 h5.2.1 h5.2.2] ∧ SlAt RPod 16 296 A w h0.1 h0.2.1 h0.2.2 x.1 ∧ SlAt RNode 9 112 A w h1.1 h1.2.1 h1.2.2 x.2.1 ∧ SlAt RVolume 5 80 A w h2.1 h2.2.1 h2.2.2 x.2.2.1 ∧ SlAt RClaim 4 56 A w h3.1 h3.2.1 h3.2.2 x.2.2.2.1 ∧ SlAt RClass 2 24 A w h4.1 h4.2.1 h4.2.2 x.2.2.2.2.1 ∧ SlAt RBudget 3 48 A w h5.1 h5.2.1 h5.2.2 x.2.2.2.2.2 := by
  obtain ⟨l_0, r_0, q_0, f_0, g_0⟩ := h
  obtain ⟨a_0, n_0, c_0, e_0, s_0⟩ := f_0
  obtain ⟨l_1, r_1, q_1, f_1, g_1⟩ := g_0
  obtain ⟨a_1, n_1, c_1, e_1, s_1⟩ := f_1
  obtain ⟨l_2, r_2, q_2, f_2, g_2⟩ := g_1
  obtain ⟨a_2, n_2, c_2, e_2, s_2⟩ := f_2
  obtain ⟨l_3, r_3, q_3, f_3, g_3⟩ := g_2
  obtain ⟨a_3, n_3, c_3, e_3, s_3⟩ := f_3
  obtain ⟨l_4, r_4, q_4, f_4, g_4⟩ := g_3
  obtain ⟨a_4, n_4, c_4, e_4, s_4⟩ := f_4
  obtain ⟨a_5, n_5, c_5, e_5, s_5⟩ := g_4
  exact ⟨(a_0, n_0, c_0), (a_1, n_1, c_1), (a_2, n_2, c_2), (a_3, n_3, c_3), (a_4, n_4, c_4), (a_5, n_5, c_5), by rw [q_0, e_0, q_1, e_1, q_2, e_2, q_3, e_3, q_4, e_4, e_5]; rfl, s_0, s_1, s_2, s_3, s_4, s_5⟩
theorem RState.mk {A : Where} {w : World} {x : StateD} {h0 h1 h2 h3 h4 h5 : Hd} (p0 : SlAt RPod 16 296 A w h0.1 h0.2.1 h0.2.2 x.1) (p1 : SlAt RNode 9 112 A w h1.1 h1.2.1 h1.2.2 x.2.1) (p2 : SlAt RVolume 5 80 A w h2.1 h2.2.1 h2.2.2 x.2.2.1) (p3 : SlAt RClaim 4 56 A w h3.1 h3.2.1 h3.2.2 x.2.2.2.1) (p4 : SlAt RClass 2 24 A w h4.1 h4.2.1 h4.2.2 x.2.2.2.2.1) (p5 : SlAt RBudget 3 48 A w h5.1 h5.2.1 h5.2.2 x.2.2.2.2.2) : RState A w [.slice h0.1 h0.2.1 h0.2.2, .slice h1.1 h1.2.1 h1.2.2, .slice h2.1 h2.2.1 h2.2.2, .slice h3.1 h3.2.1 h3.2.2, .slice h4.1 h4.2.1 h4.2.2, .slice h5.1 h5.2.1 h5.2.2] x :=
  ⟨_, _, rfl, ⟨h0.1, h0.2.1, h0.2.2, rfl, p0⟩, ⟨_, _, rfl, ⟨h1.1, h1.2.1, h1.2.2, rfl, p1⟩, ⟨_, _, rfl, ⟨h2.1, h2.2.1, h2.2.2, rfl, p2⟩, ⟨_, _, rfl, ⟨h3.1, h3.2.1, h3.2.2, rfl, p3⟩, ⟨_, _, rfl, ⟨h4.1, h4.2.1, h4.2.2, rfl, p4⟩, ⟨h5.1, h5.2.1, h5.2.2, rfl, p5⟩⟩⟩⟩⟩⟩
theorem RObject.out {A : Where} {w : World} {cs : List Value} {x : ObjectD} (h : RObject A w cs x) : ∃ h3 h7 h8 h9 h10 h11 h12 h13 h14 h18 h19 h29 h38 : Hd, cs = [.int .i64 x.1, .string x.2.1.1, .int .i64 x.2.1.2.1, .slice h3.1 h3.2.1 h3.2.2, .int .i64 x.2.1.2.2.2.1.1, .int .i64 x.2.1.2.2.2.1.2.1, .int .i64 x.2.1.2.2.2.1.2.2, .slice h7.1 h7.2.1 h7.2.2, .slice h8.1 h8.2.1 h8.2.2, .slice h9.1 h9.2.1 h9.2.2, .slice h10.1 h10.2.1 h10.2.2, .slice h11.1 h11.2.1 h11.2.2, .slice h12.1 h12.2.1 h12.2.2, .slice h13.1 h13.2.1 h13.2.2, .slice h14.1 h14.2.1 h14.2.2, .string x.2.1.2.2.2.2.2.2.2.2.2.2.2.2.1, .string x.2.1.2.2.2.2.2.2.2.2.2.2.2.2.2, .string x.2.2.1.1, .slice h18.1 h18.2.1 h18.2.2, .slice h19.1 h19.2.1 h19.2.2, .bool x.2.2.1.2.2.2.1, .int .i64 x.2.2.1.2.2.2.2.1.1, .int .i64 x.2.2.1.2.2.2.2.1.2.1, .int .i64 x.2.2.1.2.2.2.2.1.2.2, .int .i64 x.2.2.1.2.2.2.2.2.1, .int .i64 x.2.2.1.2.2.2.2.2.2, .string x.2.2.2.1.1, .int .i64 x.2.2.2.1.2.1, .string x.2.2.2.1.2.2.1, .slice h29.1 h29.2.1 h29.2.2, .string x.2.2.2.1.2.2.2.2, .string x.2.2.2.2.1.1, .int .i64 x.2.2.2.2.1.2.1, .string x.2.2.2.2.1.2.2.1, .string x.2.2.2.2.1.2.2.2, .string x.2.2.2.2.2.1.1, .bool x.2.2.2.2.2.1.2, .string x.2.2.2.2.2.2.1, .slice h38.1 h38.2.1 h38.2.2, .int .i64 x.2.2.2.2.2.2.2.2] ∧ x.2.1.1.size ≤ 140737488355328 ∧ SlAt RLabel 2 32 A w h3.1 h3.2.1 h3.2.2 x.2.1.2.2.1 ∧ SlAt RBear 4 48 A w h7.1 h7.2.1 h7.2.2 x.2.1.2.2.2.2.1 ∧ SlAt RReq 3 48 A w h8.1 h8.2.1 h8.2.2 x.2.1.2.2.2.2.2.1 ∧ SlAt RPrefer 2 32 A w h9.1 h9.2.1 h9.2.2 x.2.1.2.2.2.2.2.2.1 ∧ SlAt RInt 1 8 A w h10.1 h10.2.1 h10.2.2 x.2.1.2.2.2.2.2.2.2.1 ∧ SlAt RTerm 2 40 A w h11.1 h11.2.1 h11.2.2 x.2.1.2.2.2.2.2.2.2.2.1 ∧ SlAt RTerm 2 40 A w h12.1 h12.2.1 h12.2.2 x.2.1.2.2.2.2.2.2.2.2.2.1 ∧ SlAt RSpread 4 56 A w h13.1 h13.2.1 h13.2.2 x.2.1.2.2.2.2.2.2.2.2.2.2.1 ∧ SlAt RStr 1 16 A w h14.1 h14.2.1 h14.2.2 x.2.1.2.2.2.2.2.2.2.2.2.2.2.1 ∧ x.2.1.2.2.2.2.2.2.2.2.2.2.2.2.1.size ≤ 140737488355328 ∧ x.2.1.2.2.2.2.2.2.2.2.2.2.2.2.2.size ≤ 140737488355328 ∧ x.2.2.1.1.size ≤ 140737488355328 ∧ SlAt RLabel 2 32 A w h18.1 h18.2.1 h18.2.2 x.2.2.1.2.1 ∧ SlAt RTaint 3 40 A w h19.1 h19.2.1 h19.2.2 x.2.2.1.2.2.1 ∧ x.2.2.2.1.1.size ≤ 140737488355328 ∧ x.2.2.2.1.2.2.1.size ≤ 140737488355328 ∧ SlAt RReq 3 48 A w h29.1 h29.2.1 h29.2.2 x.2.2.2.1.2.2.2.1 ∧ x.2.2.2.1.2.2.2.2.size ≤ 140737488355328 ∧ x.2.2.2.2.1.1.size ≤ 140737488355328 ∧ x.2.2.2.2.1.2.2.1.size ≤ 140737488355328 ∧ x.2.2.2.2.1.2.2.2.size ≤ 140737488355328 ∧ x.2.2.2.2.2.1.1.size ≤ 140737488355328 ∧ x.2.2.2.2.2.2.1.size ≤ 140737488355328 ∧ SlAt RReq 3 48 A w h38.1 h38.2.1 h38.2.2 x.2.2.2.2.2.2.2.1 := by
  obtain ⟨l_0, r_0, q_0, f_0, g_0⟩ := h
  have e_0 := f_0
  obtain ⟨l_1, r_1, q_1, f_1, g_1⟩ := g_0
  obtain ⟨l_1_0, r_1_0, q_1_0, f_1_0, g_1_0⟩ := f_1
  obtain ⟨e_1_0, s_1_0⟩ := f_1_0
  obtain ⟨l_1_1, r_1_1, q_1_1, f_1_1, g_1_1⟩ := g_1_0
  have e_1_1 := f_1_1
  obtain ⟨l_1_2, r_1_2, q_1_2, f_1_2, g_1_2⟩ := g_1_1
  obtain ⟨a_1_2, n_1_2, c_1_2, e_1_2, s_1_2⟩ := f_1_2
  obtain ⟨l_1_3, r_1_3, q_1_3, f_1_3, g_1_3⟩ := g_1_2
  obtain ⟨l_1_3_0, r_1_3_0, q_1_3_0, f_1_3_0, g_1_3_0⟩ := f_1_3
  have e_1_3_0 := f_1_3_0
  obtain ⟨l_1_3_1, r_1_3_1, q_1_3_1, f_1_3_1, g_1_3_1⟩ := g_1_3_0
  have e_1_3_1 := f_1_3_1
  have e_1_3_2 := g_1_3_1
  obtain ⟨l_1_4, r_1_4, q_1_4, f_1_4, g_1_4⟩ := g_1_3
  obtain ⟨a_1_4, n_1_4, c_1_4, e_1_4, s_1_4⟩ := f_1_4
  obtain ⟨l_1_5, r_1_5, q_1_5, f_1_5, g_1_5⟩ := g_1_4
  obtain ⟨a_1_5, n_1_5, c_1_5, e_1_5, s_1_5⟩ := f_1_5
  obtain ⟨l_1_6, r_1_6, q_1_6, f_1_6, g_1_6⟩ := g_1_5
  obtain ⟨a_1_6, n_1_6, c_1_6, e_1_6, s_1_6⟩ := f_1_6
  obtain ⟨l_1_7, r_1_7, q_1_7, f_1_7, g_1_7⟩ := g_1_6
  obtain ⟨a_1_7, n_1_7, c_1_7, e_1_7, s_1_7⟩ := f_1_7
  obtain ⟨l_1_8, r_1_8, q_1_8, f_1_8, g_1_8⟩ := g_1_7
  obtain ⟨a_1_8, n_1_8, c_1_8, e_1_8, s_1_8⟩ := f_1_8
  obtain ⟨l_1_9, r_1_9, q_1_9, f_1_9, g_1_9⟩ := g_1_8
  obtain ⟨a_1_9, n_1_9, c_1_9, e_1_9, s_1_9⟩ := f_1_9
  obtain ⟨l_1_10, r_1_10, q_1_10, f_1_10, g_1_10⟩ := g_1_9
  obtain ⟨a_1_10, n_1_10, c_1_10, e_1_10, s_1_10⟩ := f_1_10
  obtain ⟨l_1_11, r_1_11, q_1_11, f_1_11, g_1_11⟩ := g_1_10
  obtain ⟨a_1_11, n_1_11, c_1_11, e_1_11, s_1_11⟩ := f_1_11
  obtain ⟨l_1_12, r_1_12, q_1_12, f_1_12, g_1_12⟩ := g_1_11
  obtain ⟨e_1_12, s_1_12⟩ := f_1_12
  obtain ⟨e_1_13, s_1_13⟩ := g_1_12
  obtain ⟨l_2, r_2, q_2, f_2, g_2⟩ := g_1
  obtain ⟨l_2_0, r_2_0, q_2_0, f_2_0, g_2_0⟩ := f_2
  obtain ⟨e_2_0, s_2_0⟩ := f_2_0
  obtain ⟨l_2_1, r_2_1, q_2_1, f_2_1, g_2_1⟩ := g_2_0
  obtain ⟨a_2_1, n_2_1, c_2_1, e_2_1, s_2_1⟩ := f_2_1
  obtain ⟨l_2_2, r_2_2, q_2_2, f_2_2, g_2_2⟩ := g_2_1
  obtain ⟨a_2_2, n_2_2, c_2_2, e_2_2, s_2_2⟩ := f_2_2
  obtain ⟨l_2_3, r_2_3, q_2_3, f_2_3, g_2_3⟩ := g_2_2
  have e_2_3 := f_2_3
  obtain ⟨l_2_4, r_2_4, q_2_4, f_2_4, g_2_4⟩ := g_2_3
  obtain ⟨l_2_4_0, r_2_4_0, q_2_4_0, f_2_4_0, g_2_4_0⟩ := f_2_4
  have e_2_4_0 := f_2_4_0
  obtain ⟨l_2_4_1, r_2_4_1, q_2_4_1, f_2_4_1, g_2_4_1⟩ := g_2_4_0
  have e_2_4_1 := f_2_4_1
  have e_2_4_2 := g_2_4_1
  obtain ⟨l_2_5, r_2_5, q_2_5, f_2_5, g_2_5⟩ := g_2_4
  have e_2_5 := f_2_5
  have e_2_6 := g_2_5
  obtain ⟨l_3, r_3, q_3, f_3, g_3⟩ := g_2
  obtain ⟨l_3_0, r_3_0, q_3_0, f_3_0, g_3_0⟩ := f_3
  obtain ⟨e_3_0, s_3_0⟩ := f_3_0
  obtain ⟨l_3_1, r_3_1, q_3_1, f_3_1, g_3_1⟩ := g_3_0
  have e_3_1 := f_3_1
  obtain ⟨l_3_2, r_3_2, q_3_2, f_3_2, g_3_2⟩ := g_3_1
  obtain ⟨e_3_2, s_3_2⟩ := f_3_2
  obtain ⟨l_3_3, r_3_3, q_3_3, f_3_3, g_3_3⟩ := g_3_2
  obtain ⟨a_3_3, n_3_3, c_3_3, e_3_3, s_3_3⟩ := f_3_3
  obtain ⟨e_3_4, s_3_4⟩ := g_3_3
  obtain ⟨l_4, r_4, q_4, f_4, g_4⟩ := g_3
  obtain ⟨l_4_0, r_4_0, q_4_0, f_4_0, g_4_0⟩ := f_4
  obtain ⟨e_4_0, s_4_0⟩ := f_4_0
  obtain ⟨l_4_1, r_4_1, q_4_1, f_4_1, g_4_1⟩ := g_4_0
  have e_4_1 := f_4_1
  obtain ⟨l_4_2, r_4_2, q_4_2, f_4_2, g_4_2⟩ := g_4_1
  obtain ⟨e_4_2, s_4_2⟩ := f_4_2
  obtain ⟨e_4_3, s_4_3⟩ := g_4_2
  obtain ⟨l_5, r_5, q_5, f_5, g_5⟩ := g_4
  obtain ⟨l_5_0, r_5_0, q_5_0, f_5_0, g_5_0⟩ := f_5
  obtain ⟨e_5_0, s_5_0⟩ := f_5_0
  have e_5_1 := g_5_0
  obtain ⟨l_6_0, r_6_0, q_6_0, f_6_0, g_6_0⟩ := g_5
  obtain ⟨e_6_0, s_6_0⟩ := f_6_0
  obtain ⟨l_6_1, r_6_1, q_6_1, f_6_1, g_6_1⟩ := g_6_0
  obtain ⟨a_6_1, n_6_1, c_6_1, e_6_1, s_6_1⟩ := f_6_1
  have e_6_2 := g_6_1
  exact ⟨(a_1_2, n_1_2, c_1_2), (a_1_4, n_1_4, c_1_4), (a_1_5, n_1_5, c_1_5), (a_1_6, n_1_6, c_1_6), (a_1_7, n_1_7, c_1_7), (a_1_8, n_1_8, c_1_8), (a_1_9, n_1_9, c_1_9), (a_1_10, n_1_10, c_1_10), (a_1_11, n_1_11, c_1_11), (a_2_1, n_2_1, c_2_1), (a_2_2, n_2_2, c_2_2), (a_3_3, n_3_3, c_3_3), (a_6_1, n_6_1, c_6_1), by rw [q_0, e_0, q_1, q_1_0, e_1_0, q_1_1, e_1_1, q_1_2, e_1_2, q_1_3, q_1_3_0, e_1_3_0, q_1_3_1, e_1_3_1, e_1_3_2, q_1_4, e_1_4, q_1_5, e_1_5, q_1_6, e_1_6, q_1_7, e_1_7, q_1_8, e_1_8, q_1_9, e_1_9, q_1_10, e_1_10, q_1_11, e_1_11, q_1_12, e_1_12, e_1_13, q_2, q_2_0, e_2_0, q_2_1, e_2_1, q_2_2, e_2_2, q_2_3, e_2_3, q_2_4, q_2_4_0, e_2_4_0, q_2_4_1, e_2_4_1, e_2_4_2, q_2_5, e_2_5, e_2_6, q_3, q_3_0, e_3_0, q_3_1, e_3_1, q_3_2, e_3_2, q_3_3, e_3_3, e_3_4, q_4, q_4_0, e_4_0, q_4_1, e_4_1, q_4_2, e_4_2, e_4_3, q_5, q_5_0, e_5_0, e_5_1, q_6_0, e_6_0, q_6_1, e_6_1, e_6_2]; rfl, s_1_0, s_1_2, s_1_4, s_1_5, s_1_6, s_1_7, s_1_8, s_1_9, s_1_10, s_1_11, s_1_12, s_1_13, s_2_0, s_2_1, s_2_2, s_3_0, s_3_2, s_3_3, s_3_4, s_4_0, s_4_2, s_4_3, s_5_0, s_6_0, s_6_1⟩
theorem RObject.mk {A : Where} {w : World} {x : ObjectD} {h3 h7 h8 h9 h10 h11 h12 h13 h14 h18 h19 h29 h38 : Hd} (p0 : x.2.1.1.size ≤ 140737488355328) (p1 : SlAt RLabel 2 32 A w h3.1 h3.2.1 h3.2.2 x.2.1.2.2.1) (p2 : SlAt RBear 4 48 A w h7.1 h7.2.1 h7.2.2 x.2.1.2.2.2.2.1) (p3 : SlAt RReq 3 48 A w h8.1 h8.2.1 h8.2.2 x.2.1.2.2.2.2.2.1) (p4 : SlAt RPrefer 2 32 A w h9.1 h9.2.1 h9.2.2 x.2.1.2.2.2.2.2.2.1) (p5 : SlAt RInt 1 8 A w h10.1 h10.2.1 h10.2.2 x.2.1.2.2.2.2.2.2.2.1) (p6 : SlAt RTerm 2 40 A w h11.1 h11.2.1 h11.2.2 x.2.1.2.2.2.2.2.2.2.2.1) (p7 : SlAt RTerm 2 40 A w h12.1 h12.2.1 h12.2.2 x.2.1.2.2.2.2.2.2.2.2.2.1) (p8 : SlAt RSpread 4 56 A w h13.1 h13.2.1 h13.2.2 x.2.1.2.2.2.2.2.2.2.2.2.2.1) (p9 : SlAt RStr 1 16 A w h14.1 h14.2.1 h14.2.2 x.2.1.2.2.2.2.2.2.2.2.2.2.2.1) (p10 : x.2.1.2.2.2.2.2.2.2.2.2.2.2.2.1.size ≤ 140737488355328) (p11 : x.2.1.2.2.2.2.2.2.2.2.2.2.2.2.2.size ≤ 140737488355328) (p12 : x.2.2.1.1.size ≤ 140737488355328) (p13 : SlAt RLabel 2 32 A w h18.1 h18.2.1 h18.2.2 x.2.2.1.2.1) (p14 : SlAt RTaint 3 40 A w h19.1 h19.2.1 h19.2.2 x.2.2.1.2.2.1) (p15 : x.2.2.2.1.1.size ≤ 140737488355328) (p16 : x.2.2.2.1.2.2.1.size ≤ 140737488355328) (p17 : SlAt RReq 3 48 A w h29.1 h29.2.1 h29.2.2 x.2.2.2.1.2.2.2.1) (p18 : x.2.2.2.1.2.2.2.2.size ≤ 140737488355328) (p19 : x.2.2.2.2.1.1.size ≤ 140737488355328) (p20 : x.2.2.2.2.1.2.2.1.size ≤ 140737488355328) (p21 : x.2.2.2.2.1.2.2.2.size ≤ 140737488355328) (p22 : x.2.2.2.2.2.1.1.size ≤ 140737488355328) (p23 : x.2.2.2.2.2.2.1.size ≤ 140737488355328) (p24 : SlAt RReq 3 48 A w h38.1 h38.2.1 h38.2.2 x.2.2.2.2.2.2.2.1) : RObject A w [.int .i64 x.1, .string x.2.1.1, .int .i64 x.2.1.2.1, .slice h3.1 h3.2.1 h3.2.2, .int .i64 x.2.1.2.2.2.1.1, .int .i64 x.2.1.2.2.2.1.2.1, .int .i64 x.2.1.2.2.2.1.2.2, .slice h7.1 h7.2.1 h7.2.2, .slice h8.1 h8.2.1 h8.2.2, .slice h9.1 h9.2.1 h9.2.2, .slice h10.1 h10.2.1 h10.2.2, .slice h11.1 h11.2.1 h11.2.2, .slice h12.1 h12.2.1 h12.2.2, .slice h13.1 h13.2.1 h13.2.2, .slice h14.1 h14.2.1 h14.2.2, .string x.2.1.2.2.2.2.2.2.2.2.2.2.2.2.1, .string x.2.1.2.2.2.2.2.2.2.2.2.2.2.2.2, .string x.2.2.1.1, .slice h18.1 h18.2.1 h18.2.2, .slice h19.1 h19.2.1 h19.2.2, .bool x.2.2.1.2.2.2.1, .int .i64 x.2.2.1.2.2.2.2.1.1, .int .i64 x.2.2.1.2.2.2.2.1.2.1, .int .i64 x.2.2.1.2.2.2.2.1.2.2, .int .i64 x.2.2.1.2.2.2.2.2.1, .int .i64 x.2.2.1.2.2.2.2.2.2, .string x.2.2.2.1.1, .int .i64 x.2.2.2.1.2.1, .string x.2.2.2.1.2.2.1, .slice h29.1 h29.2.1 h29.2.2, .string x.2.2.2.1.2.2.2.2, .string x.2.2.2.2.1.1, .int .i64 x.2.2.2.2.1.2.1, .string x.2.2.2.2.1.2.2.1, .string x.2.2.2.2.1.2.2.2, .string x.2.2.2.2.2.1.1, .bool x.2.2.2.2.2.1.2, .string x.2.2.2.2.2.2.1, .slice h38.1 h38.2.1 h38.2.2, .int .i64 x.2.2.2.2.2.2.2.2] x :=
  ⟨_, _, rfl, rfl, ⟨_, _, rfl, ⟨_, _, rfl, ⟨rfl, p0⟩, ⟨_, _, rfl, rfl, ⟨_, _, rfl, ⟨h3.1, h3.2.1, h3.2.2, rfl, p1⟩, ⟨_, _, rfl, ⟨_, _, rfl, rfl, ⟨_, _, rfl, rfl, rfl⟩⟩, ⟨_, _, rfl, ⟨h7.1, h7.2.1, h7.2.2, rfl, p2⟩, ⟨_, _, rfl, ⟨h8.1, h8.2.1, h8.2.2, rfl, p3⟩, ⟨_, _, rfl, ⟨h9.1, h9.2.1, h9.2.2, rfl, p4⟩, ⟨_, _, rfl, ⟨h10.1, h10.2.1, h10.2.2, rfl, p5⟩, ⟨_, _, rfl, ⟨h11.1, h11.2.1, h11.2.2, rfl, p6⟩, ⟨_, _, rfl, ⟨h12.1, h12.2.1, h12.2.2, rfl, p7⟩, ⟨_, _, rfl, ⟨h13.1, h13.2.1, h13.2.2, rfl, p8⟩, ⟨_, _, rfl, ⟨h14.1, h14.2.1, h14.2.2, rfl, p9⟩, ⟨_, _, rfl, ⟨rfl, p10⟩, ⟨rfl, p11⟩⟩⟩⟩⟩⟩⟩⟩⟩⟩⟩⟩⟩⟩, ⟨_, _, rfl, ⟨_, _, rfl, ⟨rfl, p12⟩, ⟨_, _, rfl, ⟨h18.1, h18.2.1, h18.2.2, rfl, p13⟩, ⟨_, _, rfl, ⟨h19.1, h19.2.1, h19.2.2, rfl, p14⟩, ⟨_, _, rfl, rfl, ⟨_, _, rfl, ⟨_, _, rfl, rfl, ⟨_, _, rfl, rfl, rfl⟩⟩, ⟨_, _, rfl, rfl, rfl⟩⟩⟩⟩⟩⟩, ⟨_, _, rfl, ⟨_, _, rfl, ⟨rfl, p15⟩, ⟨_, _, rfl, rfl, ⟨_, _, rfl, ⟨rfl, p16⟩, ⟨_, _, rfl, ⟨h29.1, h29.2.1, h29.2.2, rfl, p17⟩, ⟨rfl, p18⟩⟩⟩⟩⟩, ⟨_, _, rfl, ⟨_, _, rfl, ⟨rfl, p19⟩, ⟨_, _, rfl, rfl, ⟨_, _, rfl, ⟨rfl, p20⟩, ⟨rfl, p21⟩⟩⟩⟩, ⟨_, _, rfl, ⟨_, _, rfl, ⟨rfl, p22⟩, rfl⟩, ⟨_, _, rfl, ⟨rfl, p23⟩, ⟨_, _, rfl, ⟨h38.1, h38.2.1, h38.2.2, rfl, p24⟩, rfl⟩⟩⟩⟩⟩⟩⟩⟩
end Go.Proofs.Ytpjgffcpjabghaa
namespace Go.Proofs.Ytpjgffcpjabghaa
open Go.RowKit
set_option linter.unusedSimpArgs false

/-- What is told so hangs on no memory. -/
def Flat {α : Type} (R : Rep α) : Prop := ∀ (A A' : Where) (w w' : World) (cs : List Value) (x : α), R A w cs x → R A' w' cs x
theorem RStr.flat : Flat RStr := fun _ _ _ _ _ _ h => h
theorem RInt.flat : Flat RInt := fun _ _ _ _ _ _ h => h
theorem RBool.flat : Flat RBool := fun _ _ _ _ _ _ h => h
theorem Flat.pair {α β : Type} {R : Rep α} {S : Rep β} (hR : Flat R) (hS : Flat S) : Flat (RPair R S) := by
  rintro A A' w w' cs x ⟨c, d, e, h1, h2⟩
  exact ⟨c, d, e, hR _ _ _ _ _ _ h1, hS _ _ _ _ _ _ h2⟩
theorem Chunks.flat {α : Type} [Inhabited α] {R : Rep α} {k : Nat} (hF : Flat R) {A A' : Where} {u u' : World} {xs : List Value} {L : List α} (h : Chunks R k A u xs L) : Chunks R k A' u' xs L :=
  ⟨h.1, fun i hi => by obtain ⟨cs, h1, h2⟩ := h.2 i hi; exact ⟨cs, hF _ _ _ _ _ _ h1, h2⟩⟩
theorem RLabel.flat : Flat RLabel := Flat.pair RStr.flat RStr.flat
theorem RRes.flat : Flat RRes := Flat.pair RInt.flat (Flat.pair RInt.flat RInt.flat)
theorem RTaint.flat : Flat RTaint := Flat.pair RStr.flat (Flat.pair RStr.flat RInt.flat)
theorem RBear.flat : Flat RBear := Flat.pair RStr.flat (Flat.pair RStr.flat (Flat.pair RBool.flat RInt.flat))
theorem RClaim.flat : Flat RClaim := Flat.pair RStr.flat (Flat.pair RInt.flat (Flat.pair RStr.flat RStr.flat))
theorem RClass.flat : Flat RClass := Flat.pair RStr.flat RBool.flat
theorem sl_none {α : Type} [Inhabited α] {R : Rep α} {k bytes : Nat} {A : Where} {w : World} {n cap : Nat} {L : List α} (h : SlAt R k bytes A w none n cap L) : n = 0 ∧ cap = 0 ∧ L = [] := by
  have h0 : cap = 0 := h.2.2.1 rfl
  have h1 := h.2.1
  exact ⟨by omega, h0, List.length_eq_zero_iff.1 (by rw [h.1]; omega)⟩
theorem SlAt.len {α : Type} [Inhabited α] {R : Rep α} {k bytes : Nat} {A : Where} {w : World} {a : Option Addr} {n cap : Nat} {L : List α} (h : SlAt R k bytes A w a n cap L) (hb : 1 ≤ bytes) : n ≤ 140737488351232 := by
  have := h.2.2.2.1
  have h2 : n * 1 ≤ n * bytes := Nat.mul_le_mul_left _ hb
  omega
theorem infostr : (Try.prog.info? 9).map (fun i => (i.zero, i.size, i.bytes)) = some (some (.string ⟨#[]⟩), 1, 16) := by kernel_rfl
theorem infoint : (Try.prog.info? 3).map (fun i => (i.zero, i.size, i.bytes)) = some (some (.int .i64 0), 1, 8) := by kernel_rfl
theorem infoLabel : (Try.prog.info? 82).map (fun i => (i.zero, i.size, i.bytes)) = some (some (.agg #[.string ⟨#[]⟩, .string ⟨#[]⟩]), 2, 32) := by kernel_rfl

set_option maxHeartbeats 1000000 in
theorem Texts_copy (a : Option Addr) (n cap : Nat) (A : Where) (L : List (ByteArray)) (w : World) (hL : Hid (SlAt RStr 1 16 A w a n cap L)) : Calls Try.prog 14 #[.slice a n cap] w fun e w' => ∃ a' cap', e = .returned (.slice a' n cap') ∧ SlAt RStr 1 16 (Fresh w) w' a' n cap' L ∧ Below w.heap.size w w' := by
  have hb0 : Below w.heap.size w (w.alloc (.cells #[] 9)) := by go_grown
  match a with
  | none =>
    obtain ⟨rfl, rfl, rfl⟩ := sl_none hL.out
    go_enter Try.func14, Try.ntmps14
    go_wp2_with fail
    go_ret
    exact ⟨_, _, rfl, SlAt.nil _ _ _ _ (fun h => by cases h), hb0⟩
  | some ad =>
    obtain ⟨xs, hc, hcell, hone⟩ := (hL.out.on RStr.firm hb0).chunks RStr.firm
    have hn := hL.out.1
    have hbb := hL.out.2.2.2.1
    subst hn
    have HR : Hid (Row RStr 1 (Fresh w) w (w.alloc (.cells #[] 9)) 9 (.slice (some ⟨w.heap.size, 0, none⟩) 0 0) []) := Row.start _ w w _ (Below.refl _ _)
    have HC : Hid (Chunks RStr 1 (fun b => Fresh w b ∧ Value.ownBlock (.slice (some ⟨w.heap.size, 0, none⟩) 0 0) ≠ some b) (w.alloc (.cells #[] 9)) xs L) := hc.flat RStr.flat
    have HX : Hid (∀ j y, xs[j]? = some y → (w.alloc (.cells #[] 9)).cell? (ad.add j) = some y) := hcell
    have HO : Hid (∀ y ∈ xs, y.oneCell' = true) := hone
    clear hc hcell hone hL
    go_enter Try.func14, Try.ntmps14
    go_wp2_with (at_builtin; go_must (refine row_append RStr.firm (A := Fresh w) (w0 := w) rfl _ _ 30 9 rfl _ 16 infostr Try.underlying30 rfl (by decide) (by decide) _ [] rfl HR.out ad L.length cap xs L rfl rfl HC.out HX.out HO.out (by simp; omega) ?_); intro v1 w1 hrow1 hg1)
    go_ret
    obtain ⟨a', cap', rfl, h2⟩ := hrow1.slF (bytes := 16) RStr.firm (by simpa using hbb)
    simp only [List.nil_append] at h2 ⊢
    exact ⟨a', cap', rfl, h2, hrow1.below⟩

set_option maxHeartbeats 1000000 in
theorem Ints_copy (a : Option Addr) (n cap : Nat) (A : Where) (L : List (Int)) (w : World) (hL : Hid (SlAt RInt 1 8 A w a n cap L)) : Calls Try.prog 39 #[.slice a n cap] w fun e w' => ∃ a' cap', e = .returned (.slice a' n cap') ∧ SlAt RInt 1 8 (Fresh w) w' a' n cap' L ∧ Below w.heap.size w w' := by
  have hb0 : Below w.heap.size w (w.alloc (.cells #[] 3)) := by go_grown
  match a with
  | none =>
    obtain ⟨rfl, rfl, rfl⟩ := sl_none hL.out
    go_enter Try.func39, Try.ntmps39
    go_wp2_with fail
    go_ret
    exact ⟨_, _, rfl, SlAt.nil _ _ _ _ (fun h => by cases h), hb0⟩
  | some ad =>
    obtain ⟨xs, hc, hcell, hone⟩ := (hL.out.on RInt.firm hb0).chunks RInt.firm
    have hn := hL.out.1
    have hbb := hL.out.2.2.2.1
    subst hn
    have HR : Hid (Row RInt 1 (Fresh w) w (w.alloc (.cells #[] 3)) 3 (.slice (some ⟨w.heap.size, 0, none⟩) 0 0) []) := Row.start _ w w _ (Below.refl _ _)
    have HC : Hid (Chunks RInt 1 (fun b => Fresh w b ∧ Value.ownBlock (.slice (some ⟨w.heap.size, 0, none⟩) 0 0) ≠ some b) (w.alloc (.cells #[] 3)) xs L) := hc.flat RInt.flat
    have HX : Hid (∀ j y, xs[j]? = some y → (w.alloc (.cells #[] 3)).cell? (ad.add j) = some y) := hcell
    have HO : Hid (∀ y ∈ xs, y.oneCell' = true) := hone
    clear hc hcell hone hL
    go_enter Try.func39, Try.ntmps39
    go_wp2_with (at_builtin; go_must (refine row_append RInt.firm (A := Fresh w) (w0 := w) rfl _ _ 50 3 rfl _ 8 infoint Try.underlying50 rfl (by decide) (by decide) _ [] rfl HR.out ad L.length cap xs L rfl rfl HC.out HX.out HO.out (by simp; omega) ?_); intro v1 w1 hrow1 hg1)
    go_ret
    obtain ⟨a', cap', rfl, h2⟩ := hrow1.slF (bytes := 8) RInt.firm (by simpa using hbb)
    simp only [List.nil_append] at h2 ⊢
    exact ⟨a', cap', rfl, h2, hrow1.below⟩

set_option maxHeartbeats 1000000 in
theorem Labels_copy (a : Option Addr) (n cap : Nat) (A : Where) (L : List (Lab)) (w : World) (hL : Hid (SlAt RLabel 2 32 A w a n cap L)) : Calls Try.prog 37 #[.slice a n cap] w fun e w' => ∃ a' cap', e = .returned (.slice a' n cap') ∧ SlAt RLabel 2 32 (Fresh w) w' a' n cap' L ∧ Below w.heap.size w w' := by
  have hb0 : Below w.heap.size w (w.alloc (.cells #[] 82)) := by go_grown
  match a with
  | none =>
    obtain ⟨rfl, rfl, rfl⟩ := sl_none hL.out
    go_enter Try.func37, Try.ntmps37
    go_wp2_with fail
    go_ret
    exact ⟨_, _, rfl, SlAt.nil _ _ _ _ (fun h => by cases h), hb0⟩
  | some ad =>
    obtain ⟨xs, hc, hcell, hone⟩ := (hL.out.on RLabel.firm hb0).chunks RLabel.firm
    have hn := hL.out.1
    have hbb := hL.out.2.2.2.1
    subst hn
    have HR : Hid (Row RLabel 2 (Fresh w) w (w.alloc (.cells #[] 82)) 82 (.slice (some ⟨w.heap.size, 0, none⟩) 0 0) []) := Row.start _ w w _ (Below.refl _ _)
    have HC : Hid (Chunks RLabel 2 (fun b => Fresh w b ∧ Value.ownBlock (.slice (some ⟨w.heap.size, 0, none⟩) 0 0) ≠ some b) (w.alloc (.cells #[] 82)) xs L) := hc.flat RLabel.flat
    have HX : Hid (∀ j y, xs[j]? = some y → (w.alloc (.cells #[] 82)).cell? (ad.add j) = some y) := hcell
    have HO : Hid (∀ y ∈ xs, y.oneCell' = true) := hone
    clear hc hcell hone hL
    go_enter Try.func37, Try.ntmps37
    go_wp2_with (at_builtin; go_must (refine row_append RLabel.firm (A := Fresh w) (w0 := w) rfl _ _ 45 82 rfl _ 32 infoLabel Try.underlying45 rfl (by decide) (by decide) _ [] rfl HR.out ad L.length cap xs L rfl rfl HC.out HX.out HO.out (by simp; omega) ?_); intro v1 w1 hrow1 hg1)
    go_ret
    obtain ⟨a', cap', rfl, h2⟩ := hrow1.slF (bytes := 32) RLabel.firm (by simpa using hbb)
    simp only [List.nil_append] at h2 ⊢
    exact ⟨a', cap', rfl, h2, hrow1.below⟩
end Go.Proofs.Ytpjgffcpjabghaa
