/- The program's structs as plain data, and how each lies in cells, and its like. No condition beyond what each says. -/
import Derived.Deep.MidRow
import Derived.Maps.RangeWalk
import Derived.Test.YtikncmcceeacmaaGreatQ01
namespace Go.Proofs.YtikncmcceeacmaaGreat
set_option maxHeartbeats 16000000
set_option maxRecDepth 100000
open Tryz Go.RowKit
set_option linter.unusedSimpArgs false
abbrev Hd := Option Addr × Nat × Nat
def RLabel : Rep Lab := RPair RStr RStr
theorem RLabel.firm : Firm RLabel 2 := Firm.pair RStr.firm (RStr.firm)
def RReq : Rep Ask := RPair RStr (RPair RInt (RSl RStr 1 16))
theorem RReq.firm : Firm RReq 3 := Firm.pair RStr.firm (Firm.pair RInt.firm ((RSl.firm RStr.firm)))
abbrev ResD := Int × Int × Int
def RRes : Rep ResD := RPair RInt (RPair RInt RInt)
theorem RRes.firm : Firm RRes 3 := Firm.pair RInt.firm (Firm.pair RInt.firm (RInt.firm))
def RTaint : Rep Tnt := RPair RStr (RPair RStr RInt)
theorem RTaint.firm : Firm RTaint 3 := Firm.pair RStr.firm (Firm.pair RStr.firm (RInt.firm))
def RBear : Rep Bear := RPair RStr (RPair RStr (RPair RBool RInt))
theorem RBear.firm : Firm RBear 4 := Firm.pair RStr.firm (Firm.pair RStr.firm (Firm.pair RBool.firm (RInt.firm)))
abbrev TermD := List Ask × ByteArray
def RTerm : Rep TermD := RPair (RSl RReq 3 48) RStr
theorem RTerm.firm : Firm RTerm 2 := Firm.pair (RSl.firm RReq.firm) (RStr.firm)
abbrev PreferD := List Ask × Int
def RPrefer : Rep PreferD := RPair (RSl RReq 3 48) RInt
theorem RPrefer.firm : Firm RPrefer 2 := Firm.pair (RSl.firm RReq.firm) (RInt.firm)
abbrev SpreadD := ByteArray × Int × Int × List Ask
def RSpread : Rep SpreadD := RPair RStr (RPair RInt (RPair RInt (RSl RReq 3 48)))
theorem RSpread.firm : Firm RSpread 4 := Firm.pair RStr.firm (Firm.pair RInt.firm (Firm.pair RInt.firm ((RSl.firm RReq.firm))))
abbrev PodD := ByteArray × Int × List Lab × ResD × List Bear × List Ask × List PreferD × List Int × List TermD × List TermD × List SpreadD × List ByteArray × ByteArray × ByteArray
def RPod : Rep PodD := RPair RStr (RPair RInt (RPair (RSl RLabel 2 32) (RPair RRes (RPair (RSl RBear 4 48) (RPair (RSl RReq 3 48) (RPair (RSl RPrefer 2 32) (RPair (RSl RInt 1 8) (RPair (RSl RTerm 2 40) (RPair (RSl RTerm 2 40) (RPair (RSl RSpread 4 56) (RPair (RSl RStr 1 16) (RPair RStr RStr))))))))))))
theorem RPod.firm : Firm RPod 16 := Firm.pair RStr.firm (Firm.pair RInt.firm (Firm.pair (RSl.firm RLabel.firm) (Firm.pair RRes.firm (Firm.pair (RSl.firm RBear.firm) (Firm.pair (RSl.firm RReq.firm) (Firm.pair (RSl.firm RPrefer.firm) (Firm.pair (RSl.firm RInt.firm) (Firm.pair (RSl.firm RTerm.firm) (Firm.pair (RSl.firm RTerm.firm) (Firm.pair (RSl.firm RSpread.firm) (Firm.pair (RSl.firm RStr.firm) (Firm.pair RStr.firm (RStr.firm)))))))))))))
abbrev NodeD := ByteArray × List Lab × List Tnt × Bool × ResD × Int × Int
def RNode : Rep NodeD := RPair RStr (RPair (RSl RLabel 2 32) (RPair (RSl RTaint 3 40) (RPair RBool (RPair RRes (RPair RInt RInt)))))
theorem RNode.firm : Firm RNode 9 := Firm.pair RStr.firm (Firm.pair (RSl.firm RLabel.firm) (Firm.pair (RSl.firm RTaint.firm) (Firm.pair RBool.firm (Firm.pair RRes.firm (Firm.pair RInt.firm (RInt.firm))))))
abbrev VolumeD := ByteArray × Int × ByteArray × List Ask × ByteArray
def RVolume : Rep VolumeD := RPair RStr (RPair RInt (RPair RStr (RPair (RSl RReq 3 48) RStr)))
theorem RVolume.firm : Firm RVolume 5 := Firm.pair RStr.firm (Firm.pair RInt.firm (Firm.pair RStr.firm (Firm.pair (RSl.firm RReq.firm) (RStr.firm))))
abbrev ClaimD := ByteArray × Int × ByteArray × ByteArray
def RClaim : Rep ClaimD := RPair RStr (RPair RInt (RPair RStr RStr))
theorem RClaim.firm : Firm RClaim 4 := Firm.pair RStr.firm (Firm.pair RInt.firm (Firm.pair RStr.firm (RStr.firm)))
abbrev ClassD := ByteArray × Bool
def RClass : Rep ClassD := RPair RStr RBool
theorem RClass.firm : Firm RClass 2 := Firm.pair RStr.firm (RBool.firm)
abbrev BudgetD := ByteArray × List Ask × Int
def RBudget : Rep BudgetD := RPair RStr (RPair (RSl RReq 3 48) RInt)
theorem RBudget.firm : Firm RBudget 3 := Firm.pair RStr.firm (Firm.pair (RSl.firm RReq.firm) (RInt.firm))
abbrev StateD := List PodD × List NodeD × List VolumeD × List ClaimD × List ClassD × List BudgetD
def RState : Rep StateD := RPair (RSl RPod 16 296) (RPair (RSl RNode 9 112) (RPair (RSl RVolume 5 80) (RPair (RSl RClaim 4 56) (RPair (RSl RClass 2 24) (RSl RBudget 3 48)))))
theorem RState.firm : Firm RState 6 := Firm.pair (RSl.firm RPod.firm) (Firm.pair (RSl.firm RNode.firm) (Firm.pair (RSl.firm RVolume.firm) (Firm.pair (RSl.firm RClaim.firm) (Firm.pair (RSl.firm RClass.firm) ((RSl.firm RBudget.firm))))))
abbrev ObjectD := Int × PodD × NodeD × VolumeD × ClaimD × ClassD × BudgetD
def RObject : Rep ObjectD := RPair RInt (RPair RPod (RPair RNode (RPair RVolume (RPair RClaim (RPair RClass RBudget)))))
theorem RObject.firm : Firm RObject 40 := Firm.pair RInt.firm (Firm.pair RPod.firm (Firm.pair RNode.firm (Firm.pair RVolume.firm (Firm.pair RClaim.firm (Firm.pair RClass.firm (RBudget.firm))))))
theorem RLabel.out {A : Where} {w : World} {cs : List Value} {x : Lab} (h : RLabel A w cs x) : cs = [.string x.1, .string x.2] ∧ x.1.size ≤ 140737488355328 ∧ x.2.size ≤ 140737488355328 := by
 obtain ⟨l_0, r_0, q_0, f_0, g_0⟩ := h
 obtain ⟨e_0, s_0⟩ := f_0
 obtain ⟨e_1, s_1⟩ := g_0
 exact ⟨by rw [q_0, e_0, e_1]; rfl, s_0, s_1⟩
theorem RLabel.mk {A : Where} {w : World} {x : Lab} (p0 : x.1.size ≤ 140737488355328) (p1 : x.2.size ≤ 140737488355328) : RLabel A w [.string x.1, .string x.2] x :=
 ⟨_, _, rfl, ⟨rfl, p0⟩, ⟨rfl, p1⟩⟩
theorem RReq.out {A : Where} {w : World} {cs : List Value} {x : Ask} (h : RReq A w cs x) : ∃ h2 : Hd, cs = [.string x.1, .int .i64 x.2.1, .slice h2.1 h2.2.1 h2.2.2] ∧ x.1.size ≤ 140737488355328 ∧ SlAt RStr 1 16 A w h2.1 h2.2.1 h2.2.2 x.2.2 := by
 obtain ⟨l_0, r_0, q_0, f_0, g_0⟩ := h
 obtain ⟨e_0, s_0⟩ := f_0
 obtain ⟨l_1, r_1, q_1, f_1, g_1⟩ := g_0
 have e_1 := f_1
 obtain ⟨a_2, n_2, c_2, e_2, s_2⟩ := g_1
 exact ⟨(a_2, n_2, c_2), by rw [q_0, e_0, q_1, e_1, e_2]; rfl, s_0, s_2⟩
theorem RReq.mk {A : Where} {w : World} {x : Ask} {h2 : Hd} (p0 : x.1.size ≤ 140737488355328) (p1 : SlAt RStr 1 16 A w h2.1 h2.2.1 h2.2.2 x.2.2) : RReq A w [.string x.1, .int .i64 x.2.1, .slice h2.1 h2.2.1 h2.2.2] x :=
 ⟨_, _, rfl, ⟨rfl, p0⟩, ⟨_, _, rfl, rfl, ⟨h2.1, h2.2.1, h2.2.2, rfl, p1⟩⟩⟩
theorem RRes.out {A : Where} {w : World} {cs : List Value} {x : ResD} (h : RRes A w cs x) : cs = [.int .i64 x.1, .int .i64 x.2.1, .int .i64 x.2.2] := by
 obtain ⟨l_0, r_0, q_0, f_0, g_0⟩ := h
 have e_0 := f_0
 obtain ⟨l_1, r_1, q_1, f_1, g_1⟩ := g_0
 have e_1 := f_1
 have e_2 := g_1
 rw [q_0, e_0, q_1, e_1, e_2]; rfl
theorem RRes.mk {A : Where} {w : World} {x : ResD}  : RRes A w [.int .i64 x.1, .int .i64 x.2.1, .int .i64 x.2.2] x :=
 ⟨_, _, rfl, rfl, ⟨_, _, rfl, rfl, rfl⟩⟩
theorem RTaint.out {A : Where} {w : World} {cs : List Value} {x : Tnt} (h : RTaint A w cs x) : cs = [.string x.1, .string x.2.1, .int .i64 x.2.2] ∧ x.1.size ≤ 140737488355328 ∧ x.2.1.size ≤ 140737488355328 := by
 obtain ⟨l_0, r_0, q_0, f_0, g_0⟩ := h
 obtain ⟨e_0, s_0⟩ := f_0
 obtain ⟨l_1, r_1, q_1, f_1, g_1⟩ := g_0
 obtain ⟨e_1, s_1⟩ := f_1
 have e_2 := g_1
 exact ⟨by rw [q_0, e_0, q_1, e_1, e_2]; rfl, s_0, s_1⟩
theorem RTaint.mk {A : Where} {w : World} {x : Tnt} (p0 : x.1.size ≤ 140737488355328) (p1 : x.2.1.size ≤ 140737488355328) : RTaint A w [.string x.1, .string x.2.1, .int .i64 x.2.2] x :=
 ⟨_, _, rfl, ⟨rfl, p0⟩, ⟨_, _, rfl, ⟨rfl, p1⟩, rfl⟩⟩
theorem RBear.out {A : Where} {w : World} {cs : List Value} {x : Bear} (h : RBear A w cs x) : cs = [.string x.1, .string x.2.1, .bool x.2.2.1, .int .i64 x.2.2.2] ∧ x.1.size ≤ 140737488355328 ∧ x.2.1.size ≤ 140737488355328 := by
 obtain ⟨l_0, r_0, q_0, f_0, g_0⟩ := h
 obtain ⟨e_0, s_0⟩ := f_0
 obtain ⟨l_1, r_1, q_1, f_1, g_1⟩ := g_0
 obtain ⟨e_1, s_1⟩ := f_1
 obtain ⟨l_2, r_2, q_2, f_2, g_2⟩ := g_1
 have e_2 := f_2
 have e_3 := g_2
 exact ⟨by rw [q_0, e_0, q_1, e_1, q_2, e_2, e_3]; rfl, s_0, s_1⟩
theorem RBear.mk {A : Where} {w : World} {x : Bear} (p0 : x.1.size ≤ 140737488355328) (p1 : x.2.1.size ≤ 140737488355328) : RBear A w [.string x.1, .string x.2.1, .bool x.2.2.1, .int .i64 x.2.2.2] x :=
 ⟨_, _, rfl, ⟨rfl, p0⟩, ⟨_, _, rfl, ⟨rfl, p1⟩, ⟨_, _, rfl, rfl, rfl⟩⟩⟩
theorem RTerm.out {A : Where} {w : World} {cs : List Value} {x : TermD} (h : RTerm A w cs x) : ∃ h0 : Hd, cs = [.slice h0.1 h0.2.1 h0.2.2, .string x.2] ∧ SlAt RReq 3 48 A w h0.1 h0.2.1 h0.2.2 x.1 ∧ x.2.size ≤ 140737488355328 := by
 obtain ⟨l_0, r_0, q_0, f_0, g_0⟩ := h
 obtain ⟨a_0, n_0, c_0, e_0, s_0⟩ := f_0
 obtain ⟨e_1, s_1⟩ := g_0
 exact ⟨(a_0, n_0, c_0), by rw [q_0, e_0, e_1]; rfl, s_0, s_1⟩
theorem RTerm.mk {A : Where} {w : World} {x : TermD} {h0 : Hd} (p0 : SlAt RReq 3 48 A w h0.1 h0.2.1 h0.2.2 x.1) (p1 : x.2.size ≤ 140737488355328) : RTerm A w [.slice h0.1 h0.2.1 h0.2.2, .string x.2] x :=
 ⟨_, _, rfl, ⟨h0.1, h0.2.1, h0.2.2, rfl, p0⟩, ⟨rfl, p1⟩⟩
theorem RPrefer.out {A : Where} {w : World} {cs : List Value} {x : PreferD} (h : RPrefer A w cs x) : ∃ h0 : Hd, cs = [.slice h0.1 h0.2.1 h0.2.2, .int .i64 x.2] ∧ SlAt RReq 3 48 A w h0.1 h0.2.1 h0.2.2 x.1 := by
 obtain ⟨l_0, r_0, q_0, f_0, g_0⟩ := h
 obtain ⟨a_0, n_0, c_0, e_0, s_0⟩ := f_0
 have e_1 := g_0
 exact ⟨(a_0, n_0, c_0), by rw [q_0, e_0, e_1]; rfl, s_0⟩
theorem RPrefer.mk {A : Where} {w : World} {x : PreferD} {h0 : Hd} (p0 : SlAt RReq 3 48 A w h0.1 h0.2.1 h0.2.2 x.1) : RPrefer A w [.slice h0.1 h0.2.1 h0.2.2, .int .i64 x.2] x :=
 ⟨_, _, rfl, ⟨h0.1, h0.2.1, h0.2.2, rfl, p0⟩, rfl⟩
theorem RSpread.out {A : Where} {w : World} {cs : List Value} {x : SpreadD} (h : RSpread A w cs x) : ∃ h3 : Hd, cs = [.string x.1, .int .i64 x.2.1, .int .i64 x.2.2.1, .slice h3.1 h3.2.1 h3.2.2] ∧ x.1.size ≤ 140737488355328 ∧ SlAt RReq 3 48 A w h3.1 h3.2.1 h3.2.2 x.2.2.2 := by
 obtain ⟨l_0, r_0, q_0, f_0, g_0⟩ := h
 obtain ⟨e_0, s_0⟩ := f_0
 obtain ⟨l_1, r_1, q_1, f_1, g_1⟩ := g_0
 have e_1 := f_1
 obtain ⟨l_2, r_2, q_2, f_2, g_2⟩ := g_1
 have e_2 := f_2
 obtain ⟨a_3, n_3, c_3, e_3, s_3⟩ := g_2
 exact ⟨(a_3, n_3, c_3), by rw [q_0, e_0, q_1, e_1, q_2, e_2, e_3]; rfl, s_0, s_3⟩
theorem RSpread.mk {A : Where} {w : World} {x : SpreadD} {h3 : Hd} (p0 : x.1.size ≤ 140737488355328) (p1 : SlAt RReq 3 48 A w h3.1 h3.2.1 h3.2.2 x.2.2.2) : RSpread A w [.string x.1, .int .i64 x.2.1, .int .i64 x.2.2.1, .slice h3.1 h3.2.1 h3.2.2] x :=
 ⟨_, _, rfl, ⟨rfl, p0⟩, ⟨_, _, rfl, rfl, ⟨_, _, rfl, rfl, ⟨h3.1, h3.2.1, h3.2.2, rfl, p1⟩⟩⟩⟩
theorem RPod.out {A : Where} {w : World} {cs : List Value} {x : PodD} (h : RPod A w cs x) : ∃ h2 h6 h7 h8 h9 h10 h11 h12 h13 : Hd, cs = [.string x.1, .int .i64 x.2.1, .slice h2.1 h2.2.1 h2.2.2, .int .i64 x.2.2.2.1.1, .int .i64 x.2.2.2.1.2.1, .int .i64 x.2.2.2.1.2.2, .slice h6.1 h6.2.1 h6.2.2, .slice h7.1 h7.2.1 h7.2.2, .slice h8.1 h8.2.1 h8.2.2, .slice h9.1 h9.2.1 h9.2.2, .slice h10.1 h10.2.1 h10.2.2, .slice h11.1 h11.2.1 h11.2.2, .slice h12.1 h12.2.1 h12.2.2, .slice h13.1 h13.2.1 h13.2.2, .string x.2.2.2.2.2.2.2.2.2.2.2.2.1, .string x.2.2.2.2.2.2.2.2.2.2.2.2.2] ∧ x.1.size ≤ 140737488355328 ∧ SlAt RLabel 2 32 A w h2.1 h2.2.1 h2.2.2 x.2.2.1 ∧ SlAt RBear 4 48 A w h6.1 h6.2.1 h6.2.2 x.2.2.2.2.1 ∧ SlAt RReq 3 48 A w h7.1 h7.2.1 h7.2.2 x.2.2.2.2.2.1 ∧ SlAt RPrefer 2 32 A w h8.1 h8.2.1 h8.2.2 x.2.2.2.2.2.2.1 ∧ SlAt RInt 1 8 A w h9.1 h9.2.1 h9.2.2 x.2.2.2.2.2.2.2.1 ∧ SlAt RTerm 2 40 A w h10.1 h10.2.1 h10.2.2 x.2.2.2.2.2.2.2.2.1 ∧ SlAt RTerm 2 40 A w h11.1 h11.2.1 h11.2.2 x.2.2.2.2.2.2.2.2.2.1 ∧ SlAt RSpread 4 56 A w h12.1 h12.2.1 h12.2.2 x.2.2.2.2.2.2.2.2.2.2.1 ∧ SlAt RStr 1 16 A w h13.1 h13.2.1 h13.2.2 x.2.2.2.2.2.2.2.2.2.2.2.1 ∧ x.2.2.2.2.2.2.2.2.2.2.2.2.1.size ≤ 140737488355328 ∧ x.2.2.2.2.2.2.2.2.2.2.2.2.2.size ≤ 140737488355328 := by
 obtain ⟨l_0, r_0, q_0, f_0, g_0⟩ := h
 obtain ⟨e_0, s_0⟩ := f_0
 obtain ⟨l_1, r_1, q_1, f_1, g_1⟩ := g_0
 have e_1 := f_1
 obtain ⟨l_2, r_2, q_2, f_2, g_2⟩ := g_1
 obtain ⟨a_2, n_2, c_2, e_2, s_2⟩ := f_2
 obtain ⟨l_3, r_3, q_3, f_3, g_3⟩ := g_2
 obtain ⟨l_3_0, r_3_0, q_3_0, f_3_0, g_3_0⟩ := f_3
 have e_3_0 := f_3_0
 obtain ⟨l_3_1, r_3_1, q_3_1, f_3_1, g_3_1⟩ := g_3_0
 have e_3_1 := f_3_1
 have e_3_2 := g_3_1
 obtain ⟨l_4, r_4, q_4, f_4, g_4⟩ := g_3
 obtain ⟨a_4, n_4, c_4, e_4, s_4⟩ := f_4
 obtain ⟨l_5, r_5, q_5, f_5, g_5⟩ := g_4
 obtain ⟨a_5, n_5, c_5, e_5, s_5⟩ := f_5
 obtain ⟨l_6, r_6, q_6, f_6, g_6⟩ := g_5
 obtain ⟨a_6, n_6, c_6, e_6, s_6⟩ := f_6
 obtain ⟨l_7, r_7, q_7, f_7, g_7⟩ := g_6
 obtain ⟨a_7, n_7, c_7, e_7, s_7⟩ := f_7
 obtain ⟨l_8, r_8, q_8, f_8, g_8⟩ := g_7
 obtain ⟨a_8, n_8, c_8, e_8, s_8⟩ := f_8
 obtain ⟨l_9, r_9, q_9, f_9, g_9⟩ := g_8
 obtain ⟨a_9, n_9, c_9, e_9, s_9⟩ := f_9
 obtain ⟨l_10, r_10, q_10, f_10, g_10⟩ := g_9
 obtain ⟨a_10, n_10, c_10, e_10, s_10⟩ := f_10
 obtain ⟨l_11, r_11, q_11, f_11, g_11⟩ := g_10
 obtain ⟨a_11, n_11, c_11, e_11, s_11⟩ := f_11
 obtain ⟨l_12, r_12, q_12, f_12, g_12⟩ := g_11
 obtain ⟨e_12, s_12⟩ := f_12
 obtain ⟨e_13, s_13⟩ := g_12
 exact ⟨(a_2, n_2, c_2), (a_4, n_4, c_4), (a_5, n_5, c_5), (a_6, n_6, c_6), (a_7, n_7, c_7), (a_8, n_8, c_8), (a_9, n_9, c_9), (a_10, n_10, c_10), (a_11, n_11, c_11), by rw [q_0, e_0, q_1, e_1, q_2, e_2, q_3, q_3_0, e_3_0, q_3_1, e_3_1, e_3_2, q_4, e_4, q_5, e_5, q_6, e_6, q_7, e_7, q_8, e_8, q_9, e_9, q_10, e_10, q_11, e_11, q_12, e_12, e_13]; rfl, s_0, s_2, s_4, s_5, s_6, s_7, s_8, s_9, s_10, s_11, s_12, s_13⟩
theorem RPod.mk {A : Where} {w : World} {x : PodD} {h2 h6 h7 h8 h9 h10 h11 h12 h13 : Hd} (p0 : x.1.size ≤ 140737488355328) (p1 : SlAt RLabel 2 32 A w h2.1 h2.2.1 h2.2.2 x.2.2.1) (p2 : SlAt RBear 4 48 A w h6.1 h6.2.1 h6.2.2 x.2.2.2.2.1) (p3 : SlAt RReq 3 48 A w h7.1 h7.2.1 h7.2.2 x.2.2.2.2.2.1) (p4 : SlAt RPrefer 2 32 A w h8.1 h8.2.1 h8.2.2 x.2.2.2.2.2.2.1) (p5 : SlAt RInt 1 8 A w h9.1 h9.2.1 h9.2.2 x.2.2.2.2.2.2.2.1) (p6 : SlAt RTerm 2 40 A w h10.1 h10.2.1 h10.2.2 x.2.2.2.2.2.2.2.2.1) (p7 : SlAt RTerm 2 40 A w h11.1 h11.2.1 h11.2.2 x.2.2.2.2.2.2.2.2.2.1) (p8 : SlAt RSpread 4 56 A w h12.1 h12.2.1 h12.2.2 x.2.2.2.2.2.2.2.2.2.2.1) (p9 : SlAt RStr 1 16 A w h13.1 h13.2.1 h13.2.2 x.2.2.2.2.2.2.2.2.2.2.2.1) (p10 : x.2.2.2.2.2.2.2.2.2.2.2.2.1.size ≤ 140737488355328) (p11 : x.2.2.2.2.2.2.2.2.2.2.2.2.2.size ≤ 140737488355328) : RPod A w [.string x.1, .int .i64 x.2.1, .slice h2.1 h2.2.1 h2.2.2, .int .i64 x.2.2.2.1.1, .int .i64 x.2.2.2.1.2.1, .int .i64 x.2.2.2.1.2.2, .slice h6.1 h6.2.1 h6.2.2, .slice h7.1 h7.2.1 h7.2.2, .slice h8.1 h8.2.1 h8.2.2, .slice h9.1 h9.2.1 h9.2.2, .slice h10.1 h10.2.1 h10.2.2, .slice h11.1 h11.2.1 h11.2.2, .slice h12.1 h12.2.1 h12.2.2, .slice h13.1 h13.2.1 h13.2.2, .string x.2.2.2.2.2.2.2.2.2.2.2.2.1, .string x.2.2.2.2.2.2.2.2.2.2.2.2.2] x :=
 ⟨_, _, rfl, ⟨rfl, p0⟩, ⟨_, _, rfl, rfl, ⟨_, _, rfl, ⟨h2.1, h2.2.1, h2.2.2, rfl, p1⟩, ⟨_, _, rfl, ⟨_, _, rfl, rfl, ⟨_, _, rfl, rfl, rfl⟩⟩, ⟨_, _, rfl, ⟨h6.1, h6.2.1, h6.2.2, rfl, p2⟩, ⟨_, _, rfl, ⟨h7.1, h7.2.1, h7.2.2, rfl, p3⟩, ⟨_, _, rfl, ⟨h8.1, h8.2.1, h8.2.2, rfl, p4⟩, ⟨_, _, rfl, ⟨h9.1, h9.2.1, h9.2.2, rfl, p5⟩, ⟨_, _, rfl, ⟨h10.1, h10.2.1, h10.2.2, rfl, p6⟩, ⟨_, _, rfl, ⟨h11.1, h11.2.1, h11.2.2, rfl, p7⟩, ⟨_, _, rfl, ⟨h12.1, h12.2.1, h12.2.2, rfl, p8⟩, ⟨_, _, rfl, ⟨h13.1, h13.2.1, h13.2.2, rfl, p9⟩, ⟨_, _, rfl, ⟨rfl, p10⟩, ⟨rfl, p11⟩⟩⟩⟩⟩⟩⟩⟩⟩⟩⟩⟩⟩⟩
theorem RNode.out {A : Where} {w : World} {cs : List Value} {x : NodeD} (h : RNode A w cs x) : ∃ h1 h2 : Hd, cs = [.string x.1, .slice h1.1 h1.2.1 h1.2.2, .slice h2.1 h2.2.1 h2.2.2, .bool x.2.2.2.1, .int .i64 x.2.2.2.2.1.1, .int .i64 x.2.2.2.2.1.2.1, .int .i64 x.2.2.2.2.1.2.2, .int .i64 x.2.2.2.2.2.1, .int .i64 x.2.2.2.2.2.2] ∧ x.1.size ≤ 140737488355328 ∧ SlAt RLabel 2 32 A w h1.1 h1.2.1 h1.2.2 x.2.1 ∧ SlAt RTaint 3 40 A w h2.1 h2.2.1 h2.2.2 x.2.2.1 := by
 obtain ⟨l_0, r_0, q_0, f_0, g_0⟩ := h
 obtain ⟨e_0, s_0⟩ := f_0
 obtain ⟨l_1, r_1, q_1, f_1, g_1⟩ := g_0
 obtain ⟨a_1, n_1, c_1, e_1, s_1⟩ := f_1
 obtain ⟨l_2, r_2, q_2, f_2, g_2⟩ := g_1
 obtain ⟨a_2, n_2, c_2, e_2, s_2⟩ := f_2
 obtain ⟨l_3, r_3, q_3, f_3, g_3⟩ := g_2
 have e_3 := f_3
 obtain ⟨l_4, r_4, q_4, f_4, g_4⟩ := g_3
 obtain ⟨l_4_0, r_4_0, q_4_0, f_4_0, g_4_0⟩ := f_4
 have e_4_0 := f_4_0
 obtain ⟨l_4_1, r_4_1, q_4_1, f_4_1, g_4_1⟩ := g_4_0
 have e_4_1 := f_4_1
 have e_4_2 := g_4_1
 obtain ⟨l_5, r_5, q_5, f_5, g_5⟩ := g_4
 have e_5 := f_5
 have e_6 := g_5
 exact ⟨(a_1, n_1, c_1), (a_2, n_2, c_2), by rw [q_0, e_0, q_1, e_1, q_2, e_2, q_3, e_3, q_4, q_4_0, e_4_0, q_4_1, e_4_1, e_4_2, q_5, e_5, e_6]; rfl, s_0, s_1, s_2⟩
theorem RNode.mk {A : Where} {w : World} {x : NodeD} {h1 h2 : Hd} (p0 : x.1.size ≤ 140737488355328) (p1 : SlAt RLabel 2 32 A w h1.1 h1.2.1 h1.2.2 x.2.1) (p2 : SlAt RTaint 3 40 A w h2.1 h2.2.1 h2.2.2 x.2.2.1) : RNode A w [.string x.1, .slice h1.1 h1.2.1 h1.2.2, .slice h2.1 h2.2.1 h2.2.2, .bool x.2.2.2.1, .int .i64 x.2.2.2.2.1.1, .int .i64 x.2.2.2.2.1.2.1, .int .i64 x.2.2.2.2.1.2.2, .int .i64 x.2.2.2.2.2.1, .int .i64 x.2.2.2.2.2.2] x :=
 ⟨_, _, rfl, ⟨rfl, p0⟩, ⟨_, _, rfl, ⟨h1.1, h1.2.1, h1.2.2, rfl, p1⟩, ⟨_, _, rfl, ⟨h2.1, h2.2.1, h2.2.2, rfl, p2⟩, ⟨_, _, rfl, rfl, ⟨_, _, rfl, ⟨_, _, rfl, rfl, ⟨_, _, rfl, rfl, rfl⟩⟩, ⟨_, _, rfl, rfl, rfl⟩⟩⟩⟩⟩⟩
theorem RVolume.out {A : Where} {w : World} {cs : List Value} {x : VolumeD} (h : RVolume A w cs x) : ∃ h3 : Hd, cs = [.string x.1, .int .i64 x.2.1, .string x.2.2.1, .slice h3.1 h3.2.1 h3.2.2, .string x.2.2.2.2] ∧ x.1.size ≤ 140737488355328 ∧ x.2.2.1.size ≤ 140737488355328 ∧ SlAt RReq 3 48 A w h3.1 h3.2.1 h3.2.2 x.2.2.2.1 ∧ x.2.2.2.2.size ≤ 140737488355328 := by
 obtain ⟨l_0, r_0, q_0, f_0, g_0⟩ := h
 obtain ⟨e_0, s_0⟩ := f_0
 obtain ⟨l_1, r_1, q_1, f_1, g_1⟩ := g_0
 have e_1 := f_1
 obtain ⟨l_2, r_2, q_2, f_2, g_2⟩ := g_1
 obtain ⟨e_2, s_2⟩ := f_2
 obtain ⟨l_3, r_3, q_3, f_3, g_3⟩ := g_2
 obtain ⟨a_3, n_3, c_3, e_3, s_3⟩ := f_3
 obtain ⟨e_4, s_4⟩ := g_3
 exact ⟨(a_3, n_3, c_3), by rw [q_0, e_0, q_1, e_1, q_2, e_2, q_3, e_3, e_4]; rfl, s_0, s_2, s_3, s_4⟩
theorem RVolume.mk {A : Where} {w : World} {x : VolumeD} {h3 : Hd} (p0 : x.1.size ≤ 140737488355328) (p1 : x.2.2.1.size ≤ 140737488355328) (p2 : SlAt RReq 3 48 A w h3.1 h3.2.1 h3.2.2 x.2.2.2.1) (p3 : x.2.2.2.2.size ≤ 140737488355328) : RVolume A w [.string x.1, .int .i64 x.2.1, .string x.2.2.1, .slice h3.1 h3.2.1 h3.2.2, .string x.2.2.2.2] x :=
 ⟨_, _, rfl, ⟨rfl, p0⟩, ⟨_, _, rfl, rfl, ⟨_, _, rfl, ⟨rfl, p1⟩, ⟨_, _, rfl, ⟨h3.1, h3.2.1, h3.2.2, rfl, p2⟩, ⟨rfl, p3⟩⟩⟩⟩⟩
theorem RClaim.out {A : Where} {w : World} {cs : List Value} {x : ClaimD} (h : RClaim A w cs x) : cs = [.string x.1, .int .i64 x.2.1, .string x.2.2.1, .string x.2.2.2] ∧ x.1.size ≤ 140737488355328 ∧ x.2.2.1.size ≤ 140737488355328 ∧ x.2.2.2.size ≤ 140737488355328 := by
 obtain ⟨l_0, r_0, q_0, f_0, g_0⟩ := h
 obtain ⟨e_0, s_0⟩ := f_0
 obtain ⟨l_1, r_1, q_1, f_1, g_1⟩ := g_0
 have e_1 := f_1
 obtain ⟨l_2, r_2, q_2, f_2, g_2⟩ := g_1
 obtain ⟨e_2, s_2⟩ := f_2
 obtain ⟨e_3, s_3⟩ := g_2
 exact ⟨by rw [q_0, e_0, q_1, e_1, q_2, e_2, e_3]; rfl, s_0, s_2, s_3⟩
theorem RClaim.mk {A : Where} {w : World} {x : ClaimD} (p0 : x.1.size ≤ 140737488355328) (p1 : x.2.2.1.size ≤ 140737488355328) (p2 : x.2.2.2.size ≤ 140737488355328) : RClaim A w [.string x.1, .int .i64 x.2.1, .string x.2.2.1, .string x.2.2.2] x :=
 ⟨_, _, rfl, ⟨rfl, p0⟩, ⟨_, _, rfl, rfl, ⟨_, _, rfl, ⟨rfl, p1⟩, ⟨rfl, p2⟩⟩⟩⟩
theorem RClass.out {A : Where} {w : World} {cs : List Value} {x : ClassD} (h : RClass A w cs x) : cs = [.string x.1, .bool x.2] ∧ x.1.size ≤ 140737488355328 := by
 obtain ⟨l_0, r_0, q_0, f_0, g_0⟩ := h
 obtain ⟨e_0, s_0⟩ := f_0
 have e_1 := g_0
 exact ⟨by rw [q_0, e_0, e_1]; rfl, s_0⟩
theorem RClass.mk {A : Where} {w : World} {x : ClassD} (p0 : x.1.size ≤ 140737488355328) : RClass A w [.string x.1, .bool x.2] x :=
 ⟨_, _, rfl, ⟨rfl, p0⟩, rfl⟩
theorem RBudget.out {A : Where} {w : World} {cs : List Value} {x : BudgetD} (h : RBudget A w cs x) : ∃ h1 : Hd, cs = [.string x.1, .slice h1.1 h1.2.1 h1.2.2, .int .i64 x.2.2] ∧ x.1.size ≤ 140737488355328 ∧ SlAt RReq 3 48 A w h1.1 h1.2.1 h1.2.2 x.2.1 := by
 obtain ⟨l_0, r_0, q_0, f_0, g_0⟩ := h
 obtain ⟨e_0, s_0⟩ := f_0
 obtain ⟨l_1, r_1, q_1, f_1, g_1⟩ := g_0
 obtain ⟨a_1, n_1, c_1, e_1, s_1⟩ := f_1
 have e_2 := g_1
 exact ⟨(a_1, n_1, c_1), by rw [q_0, e_0, q_1, e_1, e_2]; rfl, s_0, s_1⟩
theorem RBudget.mk {A : Where} {w : World} {x : BudgetD} {h1 : Hd} (p0 : x.1.size ≤ 140737488355328) (p1 : SlAt RReq 3 48 A w h1.1 h1.2.1 h1.2.2 x.2.1) : RBudget A w [.string x.1, .slice h1.1 h1.2.1 h1.2.2, .int .i64 x.2.2] x :=
 ⟨_, _, rfl, ⟨rfl, p0⟩, ⟨_, _, rfl, ⟨h1.1, h1.2.1, h1.2.2, rfl, p1⟩, rfl⟩⟩
theorem RState.out {A : Where} {w : World} {cs : List Value} {x : StateD} (h : RState A w cs x) : ∃ h0 h1 h2 h3 h4 h5 : Hd, cs = [.slice h0.1 h0.2.1 h0.2.2, .slice h1.1 h1.2.1 h1.2.2, .slice h2.1 h2.2.1 h2.2.2, .slice h3.1 h3.2.1 h3.2.2, .slice h4.1 h4.2.1 h4.2.2, .slice h5.1 h5.2.1 h5.2.2] ∧ SlAt RPod 16 296 A w h0.1 h0.2.1 h0.2.2 x.1 ∧ SlAt RNode 9 112 A w h1.1 h1.2.1 h1.2.2 x.2.1 ∧ SlAt RVolume 5 80 A w h2.1 h2.2.1 h2.2.2 x.2.2.1 ∧ SlAt RClaim 4 56 A w h3.1 h3.2.1 h3.2.2 x.2.2.2.1 ∧ SlAt RClass 2 24 A w h4.1 h4.2.1 h4.2.2 x.2.2.2.2.1 ∧ SlAt RBudget 3 48 A w h5.1 h5.2.1 h5.2.2 x.2.2.2.2.2 := by
 obtain ⟨l_0, r_0, q_0, f_0, g_0⟩ := h
 obtain ⟨a_0, n_0, c_0, e_0, s_0⟩ := f_0
 obtain ⟨l_1, r_1, q_1, f_1, g_1⟩ := g_0
 obtain ⟨a_1, n_1, c_1, e_1, s_1⟩ := f_1
 obtain ⟨l_2, r_2, q_2, f_2, g_2⟩ := g_1
 obtain ⟨a_2, n_2, c_2, e_2, s_2⟩ := f_2
 obtain ⟨l_3, r_3, q_3, f_3, g_3⟩ := g_2
 obtain ⟨a_3, n_3, c_3, e_3, s_3⟩ := f_3
 obtain ⟨l_4, r_4, q_4, f_4, g_4⟩ := g_3
 obtain ⟨a_4, n_4, c_4, e_4, s_4⟩ := f_4
 obtain ⟨a_5, n_5, c_5, e_5, s_5⟩ := g_4
 exact ⟨(a_0, n_0, c_0), (a_1, n_1, c_1), (a_2, n_2, c_2), (a_3, n_3, c_3), (a_4, n_4, c_4), (a_5, n_5, c_5), by rw [q_0, e_0, q_1, e_1, q_2, e_2, q_3, e_3, q_4, e_4, e_5]; rfl, s_0, s_1, s_2, s_3, s_4, s_5⟩
theorem RState.mk {A : Where} {w : World} {x : StateD} {h0 h1 h2 h3 h4 h5 : Hd} (p0 : SlAt RPod 16 296 A w h0.1 h0.2.1 h0.2.2 x.1) (p1 : SlAt RNode 9 112 A w h1.1 h1.2.1 h1.2.2 x.2.1) (p2 : SlAt RVolume 5 80 A w h2.1 h2.2.1 h2.2.2 x.2.2.1) (p3 : SlAt RClaim 4 56 A w h3.1 h3.2.1 h3.2.2 x.2.2.2.1) (p4 : SlAt RClass 2 24 A w h4.1 h4.2.1 h4.2.2 x.2.2.2.2.1) (p5 : SlAt RBudget 3 48 A w h5.1 h5.2.1 h5.2.2 x.2.2.2.2.2) : RState A w [.slice h0.1 h0.2.1 h0.2.2, .slice h1.1 h1.2.1 h1.2.2, .slice h2.1 h2.2.1 h2.2.2, .slice h3.1 h3.2.1 h3.2.2, .slice h4.1 h4.2.1 h4.2.2, .slice h5.1 h5.2.1 h5.2.2] x :=
 ⟨_, _, rfl, ⟨h0.1, h0.2.1, h0.2.2, rfl, p0⟩, ⟨_, _, rfl, ⟨h1.1, h1.2.1, h1.2.2, rfl, p1⟩, ⟨_, _, rfl, ⟨h2.1, h2.2.1, h2.2.2, rfl, p2⟩, ⟨_, _, rfl, ⟨h3.1, h3.2.1, h3.2.2, rfl, p3⟩, ⟨_, _, rfl, ⟨h4.1, h4.2.1, h4.2.2, rfl, p4⟩, ⟨h5.1, h5.2.1, h5.2.2, rfl, p5⟩⟩⟩⟩⟩⟩
theorem RObject.out {A : Where} {w : World} {cs : List Value} {x : ObjectD} (h : RObject A w cs x) : ∃ h3 h7 h8 h9 h10 h11 h12 h13 h14 h18 h19 h29 h38 : Hd, cs = [.int .i64 x.1, .string x.2.1.1, .int .i64 x.2.1.2.1, .slice h3.1 h3.2.1 h3.2.2, .int .i64 x.2.1.2.2.2.1.1, .int .i64 x.2.1.2.2.2.1.2.1, .int .i64 x.2.1.2.2.2.1.2.2, .slice h7.1 h7.2.1 h7.2.2, .slice h8.1 h8.2.1 h8.2.2, .slice h9.1 h9.2.1 h9.2.2, .slice h10.1 h10.2.1 h10.2.2, .slice h11.1 h11.2.1 h11.2.2, .slice h12.1 h12.2.1 h12.2.2, .slice h13.1 h13.2.1 h13.2.2, .slice h14.1 h14.2.1 h14.2.2, .string x.2.1.2.2.2.2.2.2.2.2.2.2.2.2.1, .string x.2.1.2.2.2.2.2.2.2.2.2.2.2.2.2, .string x.2.2.1.1, .slice h18.1 h18.2.1 h18.2.2, .slice h19.1 h19.2.1 h19.2.2, .bool x.2.2.1.2.2.2.1, .int .i64 x.2.2.1.2.2.2.2.1.1, .int .i64 x.2.2.1.2.2.2.2.1.2.1, .int .i64 x.2.2.1.2.2.2.2.1.2.2, .int .i64 x.2.2.1.2.2.2.2.2.1, .int .i64 x.2.2.1.2.2.2.2.2.2, .string x.2.2.2.1.1, .int .i64 x.2.2.2.1.2.1, .string x.2.2.2.1.2.2.1, .slice h29.1 h29.2.1 h29.2.2, .string x.2.2.2.1.2.2.2.2, .string x.2.2.2.2.1.1, .int .i64 x.2.2.2.2.1.2.1, .string x.2.2.2.2.1.2.2.1, .string x.2.2.2.2.1.2.2.2, .string x.2.2.2.2.2.1.1, .bool x.2.2.2.2.2.1.2, .string x.2.2.2.2.2.2.1, .slice h38.1 h38.2.1 h38.2.2, .int .i64 x.2.2.2.2.2.2.2.2] ∧ x.2.1.1.size ≤ 140737488355328 ∧ SlAt RLabel 2 32 A w h3.1 h3.2.1 h3.2.2 x.2.1.2.2.1 ∧ SlAt RBear 4 48 A w h7.1 h7.2.1 h7.2.2 x.2.1.2.2.2.2.1 ∧ SlAt RReq 3 48 A w h8.1 h8.2.1 h8.2.2 x.2.1.2.2.2.2.2.1 ∧ SlAt RPrefer 2 32 A w h9.1 h9.2.1 h9.2.2 x.2.1.2.2.2.2.2.2.1 ∧ SlAt RInt 1 8 A w h10.1 h10.2.1 h10.2.2 x.2.1.2.2.2.2.2.2.2.1 ∧ SlAt RTerm 2 40 A w h11.1 h11.2.1 h11.2.2 x.2.1.2.2.2.2.2.2.2.2.1 ∧ SlAt RTerm 2 40 A w h12.1 h12.2.1 h12.2.2 x.2.1.2.2.2.2.2.2.2.2.2.1 ∧ SlAt RSpread 4 56 A w h13.1 h13.2.1 h13.2.2 x.2.1.2.2.2.2.2.2.2.2.2.2.1 ∧ SlAt RStr 1 16 A w h14.1 h14.2.1 h14.2.2 x.2.1.2.2.2.2.2.2.2.2.2.2.2.1 ∧ x.2.1.2.2.2.2.2.2.2.2.2.2.2.2.1.size ≤ 140737488355328 ∧ x.2.1.2.2.2.2.2.2.2.2.2.2.2.2.2.size ≤ 140737488355328 ∧ x.2.2.1.1.size ≤ 140737488355328 ∧ SlAt RLabel 2 32 A w h18.1 h18.2.1 h18.2.2 x.2.2.1.2.1 ∧ SlAt RTaint 3 40 A w h19.1 h19.2.1 h19.2.2 x.2.2.1.2.2.1 ∧ x.2.2.2.1.1.size ≤ 140737488355328 ∧ x.2.2.2.1.2.2.1.size ≤ 140737488355328 ∧ SlAt RReq 3 48 A w h29.1 h29.2.1 h29.2.2 x.2.2.2.1.2.2.2.1 ∧ x.2.2.2.1.2.2.2.2.size ≤ 140737488355328 ∧ x.2.2.2.2.1.1.size ≤ 140737488355328 ∧ x.2.2.2.2.1.2.2.1.size ≤ 140737488355328 ∧ x.2.2.2.2.1.2.2.2.size ≤ 140737488355328 ∧ x.2.2.2.2.2.1.1.size ≤ 140737488355328 ∧ x.2.2.2.2.2.2.1.size ≤ 140737488355328 ∧ SlAt RReq 3 48 A w h38.1 h38.2.1 h38.2.2 x.2.2.2.2.2.2.2.1 := by
 obtain ⟨l_0, r_0, q_0, f_0, g_0⟩ := h
 have e_0 := f_0
 obtain ⟨l_1, r_1, q_1, f_1, g_1⟩ := g_0
 obtain ⟨l_1_0, r_1_0, q_1_0, f_1_0, g_1_0⟩ := f_1
 obtain ⟨e_1_0, s_1_0⟩ := f_1_0
 obtain ⟨l_1_1, r_1_1, q_1_1, f_1_1, g_1_1⟩ := g_1_0
 have e_1_1 := f_1_1
 obtain ⟨l_1_2, r_1_2, q_1_2, f_1_2, g_1_2⟩ := g_1_1
 obtain ⟨a_1_2, n_1_2, c_1_2, e_1_2, s_1_2⟩ := f_1_2
 obtain ⟨l_1_3, r_1_3, q_1_3, f_1_3, g_1_3⟩ := g_1_2
 obtain ⟨l_1_3_0, r_1_3_0, q_1_3_0, f_1_3_0, g_1_3_0⟩ := f_1_3
 have e_1_3_0 := f_1_3_0
 obtain ⟨l_1_3_1, r_1_3_1, q_1_3_1, f_1_3_1, g_1_3_1⟩ := g_1_3_0
 have e_1_3_1 := f_1_3_1
 have e_1_3_2 := g_1_3_1
 obtain ⟨l_1_4, r_1_4, q_1_4, f_1_4, g_1_4⟩ := g_1_3
 obtain ⟨a_1_4, n_1_4, c_1_4, e_1_4, s_1_4⟩ := f_1_4
 obtain ⟨l_1_5, r_1_5, q_1_5, f_1_5, g_1_5⟩ := g_1_4
 obtain ⟨a_1_5, n_1_5, c_1_5, e_1_5, s_1_5⟩ := f_1_5
 obtain ⟨l_1_6, r_1_6, q_1_6, f_1_6, g_1_6⟩ := g_1_5
 obtain ⟨a_1_6, n_1_6, c_1_6, e_1_6, s_1_6⟩ := f_1_6
 obtain ⟨l_1_7, r_1_7, q_1_7, f_1_7, g_1_7⟩ := g_1_6
 obtain ⟨a_1_7, n_1_7, c_1_7, e_1_7, s_1_7⟩ := f_1_7
 obtain ⟨l_1_8, r_1_8, q_1_8, f_1_8, g_1_8⟩ := g_1_7
 obtain ⟨a_1_8, n_1_8, c_1_8, e_1_8, s_1_8⟩ := f_1_8
 obtain ⟨l_1_9, r_1_9, q_1_9, f_1_9, g_1_9⟩ := g_1_8
 obtain ⟨a_1_9, n_1_9, c_1_9, e_1_9, s_1_9⟩ := f_1_9
 obtain ⟨l_1_10, r_1_10, q_1_10, f_1_10, g_1_10⟩ := g_1_9
 obtain ⟨a_1_10, n_1_10, c_1_10, e_1_10, s_1_10⟩ := f_1_10
 obtain ⟨l_1_11, r_1_11, q_1_11, f_1_11, g_1_11⟩ := g_1_10
 obtain ⟨a_1_11, n_1_11, c_1_11, e_1_11, s_1_11⟩ := f_1_11
 obtain ⟨l_1_12, r_1_12, q_1_12, f_1_12, g_1_12⟩ := g_1_11
 obtain ⟨e_1_12, s_1_12⟩ := f_1_12
 obtain ⟨e_1_13, s_1_13⟩ := g_1_12
 obtain ⟨l_2, r_2, q_2, f_2, g_2⟩ := g_1
 obtain ⟨l_2_0, r_2_0, q_2_0, f_2_0, g_2_0⟩ := f_2
 obtain ⟨e_2_0, s_2_0⟩ := f_2_0
 obtain ⟨l_2_1, r_2_1, q_2_1, f_2_1, g_2_1⟩ := g_2_0
 obtain ⟨a_2_1, n_2_1, c_2_1, e_2_1, s_2_1⟩ := f_2_1
 obtain ⟨l_2_2, r_2_2, q_2_2, f_2_2, g_2_2⟩ := g_2_1
 obtain ⟨a_2_2, n_2_2, c_2_2, e_2_2, s_2_2⟩ := f_2_2
 obtain ⟨l_2_3, r_2_3, q_2_3, f_2_3, g_2_3⟩ := g_2_2
 have e_2_3 := f_2_3
 obtain ⟨l_2_4, r_2_4, q_2_4, f_2_4, g_2_4⟩ := g_2_3
 obtain ⟨l_2_4_0, r_2_4_0, q_2_4_0, f_2_4_0, g_2_4_0⟩ := f_2_4
 have e_2_4_0 := f_2_4_0
 obtain ⟨l_2_4_1, r_2_4_1, q_2_4_1, f_2_4_1, g_2_4_1⟩ := g_2_4_0
 have e_2_4_1 := f_2_4_1
 have e_2_4_2 := g_2_4_1
 obtain ⟨l_2_5, r_2_5, q_2_5, f_2_5, g_2_5⟩ := g_2_4
 have e_2_5 := f_2_5
 have e_2_6 := g_2_5
 obtain ⟨l_3, r_3, q_3, f_3, g_3⟩ := g_2
 obtain ⟨l_3_0, r_3_0, q_3_0, f_3_0, g_3_0⟩ := f_3
 obtain ⟨e_3_0, s_3_0⟩ := f_3_0
 obtain ⟨l_3_1, r_3_1, q_3_1, f_3_1, g_3_1⟩ := g_3_0
 have e_3_1 := f_3_1
 obtain ⟨l_3_2, r_3_2, q_3_2, f_3_2, g_3_2⟩ := g_3_1
 obtain ⟨e_3_2, s_3_2⟩ := f_3_2
 obtain ⟨l_3_3, r_3_3, q_3_3, f_3_3, g_3_3⟩ := g_3_2
 obtain ⟨a_3_3, n_3_3, c_3_3, e_3_3, s_3_3⟩ := f_3_3
 obtain ⟨e_3_4, s_3_4⟩ := g_3_3
 obtain ⟨l_4, r_4, q_4, f_4, g_4⟩ := g_3
 obtain ⟨l_4_0, r_4_0, q_4_0, f_4_0, g_4_0⟩ := f_4
 obtain ⟨e_4_0, s_4_0⟩ := f_4_0
 obtain ⟨l_4_1, r_4_1, q_4_1, f_4_1, g_4_1⟩ := g_4_0
 have e_4_1 := f_4_1
 obtain ⟨l_4_2, r_4_2, q_4_2, f_4_2, g_4_2⟩ := g_4_1
 obtain ⟨e_4_2, s_4_2⟩ := f_4_2
 obtain ⟨e_4_3, s_4_3⟩ := g_4_2
 obtain ⟨l_5, r_5, q_5, f_5, g_5⟩ := g_4
 obtain ⟨l_5_0, r_5_0, q_5_0, f_5_0, g_5_0⟩ := f_5
 obtain ⟨e_5_0, s_5_0⟩ := f_5_0
 have e_5_1 := g_5_0
 obtain ⟨l_6_0, r_6_0, q_6_0, f_6_0, g_6_0⟩ := g_5
 obtain ⟨e_6_0, s_6_0⟩ := f_6_0
 obtain ⟨l_6_1, r_6_1, q_6_1, f_6_1, g_6_1⟩ := g_6_0
 obtain ⟨a_6_1, n_6_1, c_6_1, e_6_1, s_6_1⟩ := f_6_1
 have e_6_2 := g_6_1
 exact ⟨(a_1_2, n_1_2, c_1_2), (a_1_4, n_1_4, c_1_4), (a_1_5, n_1_5, c_1_5), (a_1_6, n_1_6, c_1_6), (a_1_7, n_1_7, c_1_7), (a_1_8, n_1_8, c_1_8), (a_1_9, n_1_9, c_1_9), (a_1_10, n_1_10, c_1_10), (a_1_11, n_1_11, c_1_11), (a_2_1, n_2_1, c_2_1), (a_2_2, n_2_2, c_2_2), (a_3_3, n_3_3, c_3_3), (a_6_1, n_6_1, c_6_1), by rw [q_0, e_0, q_1, q_1_0, e_1_0, q_1_1, e_1_1, q_1_2, e_1_2, q_1_3, q_1_3_0, e_1_3_0, q_1_3_1, e_1_3_1, e_1_3_2, q_1_4, e_1_4, q_1_5, e_1_5, q_1_6, e_1_6, q_1_7, e_1_7, q_1_8, e_1_8, q_1_9, e_1_9, q_1_10, e_1_10, q_1_11, e_1_11, q_1_12, e_1_12, e_1_13, q_2, q_2_0, e_2_0, q_2_1, e_2_1, q_2_2, e_2_2, q_2_3, e_2_3, q_2_4, q_2_4_0, e_2_4_0, q_2_4_1, e_2_4_1, e_2_4_2, q_2_5, e_2_5, e_2_6, q_3, q_3_0, e_3_0, q_3_1, e_3_1, q_3_2, e_3_2, q_3_3, e_3_3, e_3_4, q_4, q_4_0, e_4_0, q_4_1, e_4_1, q_4_2, e_4_2, e_4_3, q_5, q_5_0, e_5_0, e_5_1, q_6_0, e_6_0, q_6_1, e_6_1, e_6_2]; rfl, s_1_0, s_1_2, s_1_4, s_1_5, s_1_6, s_1_7, s_1_8, s_1_9, s_1_10, s_1_11, s_1_12, s_1_13, s_2_0, s_2_1, s_2_2, s_3_0, s_3_2, s_3_3, s_3_4, s_4_0, s_4_2, s_4_3, s_5_0, s_6_0, s_6_1⟩
theorem RObject.mk {A : Where} {w : World} {x : ObjectD} {h3 h7 h8 h9 h10 h11 h12 h13 h14 h18 h19 h29 h38 : Hd} (p0 : x.2.1.1.size ≤ 140737488355328) (p1 : SlAt RLabel 2 32 A w h3.1 h3.2.1 h3.2.2 x.2.1.2.2.1) (p2 : SlAt RBear 4 48 A w h7.1 h7.2.1 h7.2.2 x.2.1.2.2.2.2.1) (p3 : SlAt RReq 3 48 A w h8.1 h8.2.1 h8.2.2 x.2.1.2.2.2.2.2.1) (p4 : SlAt RPrefer 2 32 A w h9.1 h9.2.1 h9.2.2 x.2.1.2.2.2.2.2.2.1) (p5 : SlAt RInt 1 8 A w h10.1 h10.2.1 h10.2.2 x.2.1.2.2.2.2.2.2.2.1) (p6 : SlAt RTerm 2 40 A w h11.1 h11.2.1 h11.2.2 x.2.1.2.2.2.2.2.2.2.2.1) (p7 : SlAt RTerm 2 40 A w h12.1 h12.2.1 h12.2.2 x.2.1.2.2.2.2.2.2.2.2.2.1) (p8 : SlAt RSpread 4 56 A w h13.1 h13.2.1 h13.2.2 x.2.1.2.2.2.2.2.2.2.2.2.2.1) (p9 : SlAt RStr 1 16 A w h14.1 h14.2.1 h14.2.2 x.2.1.2.2.2.2.2.2.2.2.2.2.2.1) (p10 : x.2.1.2.2.2.2.2.2.2.2.2.2.2.2.1.size ≤ 140737488355328) (p11 : x.2.1.2.2.2.2.2.2.2.2.2.2.2.2.2.size ≤ 140737488355328) (p12 : x.2.2.1.1.size ≤ 140737488355328) (p13 : SlAt RLabel 2 32 A w h18.1 h18.2.1 h18.2.2 x.2.2.1.2.1) (p14 : SlAt RTaint 3 40 A w h19.1 h19.2.1 h19.2.2 x.2.2.1.2.2.1) (p15 : x.2.2.2.1.1.size ≤ 140737488355328) (p16 : x.2.2.2.1.2.2.1.size ≤ 140737488355328) (p17 : SlAt RReq 3 48 A w h29.1 h29.2.1 h29.2.2 x.2.2.2.1.2.2.2.1) (p18 : x.2.2.2.1.2.2.2.2.size ≤ 140737488355328) (p19 : x.2.2.2.2.1.1.size ≤ 140737488355328) (p20 : x.2.2.2.2.1.2.2.1.size ≤ 140737488355328) (p21 : x.2.2.2.2.1.2.2.2.size ≤ 140737488355328) (p22 : x.2.2.2.2.2.1.1.size ≤ 140737488355328) (p23 : x.2.2.2.2.2.2.1.size ≤ 140737488355328) (p24 : SlAt RReq 3 48 A w h38.1 h38.2.1 h38.2.2 x.2.2.2.2.2.2.2.1) : RObject A w [.int .i64 x.1, .string x.2.1.1, .int .i64 x.2.1.2.1, .slice h3.1 h3.2.1 h3.2.2, .int .i64 x.2.1.2.2.2.1.1, .int .i64 x.2.1.2.2.2.1.2.1, .int .i64 x.2.1.2.2.2.1.2.2, .slice h7.1 h7.2.1 h7.2.2, .slice h8.1 h8.2.1 h8.2.2, .slice h9.1 h9.2.1 h9.2.2, .slice h10.1 h10.2.1 h10.2.2, .slice h11.1 h11.2.1 h11.2.2, .slice h12.1 h12.2.1 h12.2.2, .slice h13.1 h13.2.1 h13.2.2, .slice h14.1 h14.2.1 h14.2.2, .string x.2.1.2.2.2.2.2.2.2.2.2.2.2.2.1, .string x.2.1.2.2.2.2.2.2.2.2.2.2.2.2.2, .string x.2.2.1.1, .slice h18.1 h18.2.1 h18.2.2, .slice h19.1 h19.2.1 h19.2.2, .bool x.2.2.1.2.2.2.1, .int .i64 x.2.2.1.2.2.2.2.1.1, .int .i64 x.2.2.1.2.2.2.2.1.2.1, .int .i64 x.2.2.1.2.2.2.2.1.2.2, .int .i64 x.2.2.1.2.2.2.2.2.1, .int .i64 x.2.2.1.2.2.2.2.2.2, .string x.2.2.2.1.1, .int .i64 x.2.2.2.1.2.1, .string x.2.2.2.1.2.2.1, .slice h29.1 h29.2.1 h29.2.2, .string x.2.2.2.1.2.2.2.2, .string x.2.2.2.2.1.1, .int .i64 x.2.2.2.2.1.2.1, .string x.2.2.2.2.1.2.2.1, .string x.2.2.2.2.1.2.2.2, .string x.2.2.2.2.2.1.1, .bool x.2.2.2.2.2.1.2, .string x.2.2.2.2.2.2.1, .slice h38.1 h38.2.1 h38.2.2, .int .i64 x.2.2.2.2.2.2.2.2] x :=
 ⟨_, _, rfl, rfl, ⟨_, _, rfl, ⟨_, _, rfl, ⟨rfl, p0⟩, ⟨_, _, rfl, rfl, ⟨_, _, rfl, ⟨h3.1, h3.2.1, h3.2.2, rfl, p1⟩, ⟨_, _, rfl, ⟨_, _, rfl, rfl, ⟨_, _, rfl, rfl, rfl⟩⟩, ⟨_, _, rfl, ⟨h7.1, h7.2.1, h7.2.2, rfl, p2⟩, ⟨_, _, rfl, ⟨h8.1, h8.2.1, h8.2.2, rfl, p3⟩, ⟨_, _, rfl, ⟨h9.1, h9.2.1, h9.2.2, rfl, p4⟩, ⟨_, _, rfl, ⟨h10.1, h10.2.1, h10.2.2, rfl, p5⟩, ⟨_, _, rfl, ⟨h11.1, h11.2.1, h11.2.2, rfl, p6⟩, ⟨_, _, rfl, ⟨h12.1, h12.2.1, h12.2.2, rfl, p7⟩, ⟨_, _, rfl, ⟨h13.1, h13.2.1, h13.2.2, rfl, p8⟩, ⟨_, _, rfl, ⟨h14.1, h14.2.1, h14.2.2, rfl, p9⟩, ⟨_, _, rfl, ⟨rfl, p10⟩, ⟨rfl, p11⟩⟩⟩⟩⟩⟩⟩⟩⟩⟩⟩⟩⟩⟩, ⟨_, _, rfl, ⟨_, _, rfl, ⟨rfl, p12⟩, ⟨_, _, rfl, ⟨h18.1, h18.2.1, h18.2.2, rfl, p13⟩, ⟨_, _, rfl, ⟨h19.1, h19.2.1, h19.2.2, rfl, p14⟩, ⟨_, _, rfl, rfl, ⟨_, _, rfl, ⟨_, _, rfl, rfl, ⟨_, _, rfl, rfl, rfl⟩⟩, ⟨_, _, rfl, rfl, rfl⟩⟩⟩⟩⟩⟩, ⟨_, _, rfl, ⟨_, _, rfl, ⟨rfl, p15⟩, ⟨_, _, rfl, rfl, ⟨_, _, rfl, ⟨rfl, p16⟩, ⟨_, _, rfl, ⟨h29.1, h29.2.1, h29.2.2, rfl, p17⟩, ⟨rfl, p18⟩⟩⟩⟩⟩, ⟨_, _, rfl, ⟨_, _, rfl, ⟨rfl, p19⟩, ⟨_, _, rfl, rfl, ⟨_, _, rfl, ⟨rfl, p20⟩, ⟨rfl, p21⟩⟩⟩⟩, ⟨_, _, rfl, ⟨_, _, rfl, ⟨rfl, p22⟩, rfl⟩, ⟨_, _, rfl, ⟨rfl, p23⟩, ⟨_, _, rfl, ⟨h38.1, h38.2.1, h38.2.2, rfl, p24⟩, rfl⟩⟩⟩⟩⟩⟩⟩⟩
end Go.Proofs.YtikncmcceeacmaaGreat

namespace Go.Proofs.YtikncmcceeacmaaGreat.Tn
set_option maxHeartbeats 16000000
set_option maxRecDepth 100000
open Tryz Go.RowKit
def twinB (L : List Tnt) (t : Tnt) : Bool := L.any fun x => sEq x.1 t.1 && (x.2.2 == t.2.2)
def effB (e : Int) : Bool := (e == 1) || (e == 2)
def taintOk (x : Tnt) : Bool := wordB x.1 && valB x.2.1 && effB x.2.2
def tOk (L : List Tnt) (i : Nat) : Bool := taintOk (L.getD i default) && !twinB (L.take i) (L.getD i default)
def checkT (L : List Tnt) : Int := if 64 < L.length then 3 else if allTo L.length (tOk L) then 0 else 30
def bearOk (b : Bear) : Bool := (b.2.2.2 == 0 || effB b.2.2.2) && (if b.2.2.1 then valB b.1 && sNil b.2.1 else wordB b.1 && valB b.2.1)
def checkBr (L : List Bear) : Int := if 64 < L.length then 3 else if allTo L.length (fun i => bearOk (L.getD i default)) then 0 else 30
theorem reti {a b : Int} (h : a = b) : Ending.returned (.int .i64 a) = .returned (.int .i64 b) := by rw [h]
theorem checkT_long {L : List Tnt} (h : 64 < L.length) : checkT L = 3 := if_pos h
theorem checkT_bad {L : List Tnt} {k : Nat} (h : ¬ 64 < L.length) (hk : k < L.length) (hb : tOk L k = false) : checkT L = 30 := by
 unfold checkT; rw [if_neg h, allTo_false hk hb]; rfl
theorem checkT_ok {L : List Tnt} (h : ¬ 64 < L.length) (hall : ∀ j, j < L.length → tOk L j = true) : checkT L = 0 := by
 unfold checkT; rw [if_neg h, allTo_true hall]; rfl
theorem checkBr_long {L : List Bear} (h : 64 < L.length) : checkBr L = 3 := if_pos h
theorem checkBr_bad {L : List Bear} {k : Nat} (h : ¬ 64 < L.length) (hk : k < L.length) (hb : bearOk (L.getD k default) = false) : checkBr L = 30 := by
 unfold checkBr; rw [if_neg h, allTo_false hk hb]; rfl
theorem checkBr_ok {L : List Bear} (h : ¬ 64 < L.length) (hall : ∀ j, j < L.length → bearOk (L.getD j default) = true) : checkBr L = 0 := by
 unfold checkBr; rw [if_neg h, allTo_true hall]; rfl
theorem getD_take {α : Type} [Inhabited α] (L : List α) (m i : Nat) (h : i < m) (hl : i < L.length) : (L.take m).getD i default = L.getD i default := by
 rw [getE _ _ (by rw [List.length_take]; omega), getE _ _ hl]; simp
end Go.Proofs.YtikncmcceeacmaaGreat.Tn

namespace Go.Proofs.YtikncmcceeacmaaGreat
set_option maxHeartbeats 16000000
set_option maxRecDepth 100000
open Tryz Go.RowKit
set_option linter.unusedSimpArgs false
def amountB (n : Int) : Bool := decide (0 ≤ n) && decide (n ≤ 1125899906842624)
def withinB (n lo hi : Int) : Bool := decide (lo ≤ n) && decide (n ≤ hi)
def nameNone (s : ByteArray) : Bool := sNil s || wordB s
def reqsB (R : List Ask) : Bool := checkR R == 0
def resB (r : ResD) : Bool := amountB r.1 && amountB r.2.1 && amountB r.2.2
def preferB (p : PreferD) : Bool := reqsB p.1 && withinB p.2 1 100
def portB (n : Int) : Bool := withinB n 1 65535
def termB (t : TermD) : Bool := reqsB t.1 && wordB t.2
def spreadB (s : SpreadD) : Bool := wordB s.1 && withinB s.2.1 1 1000 && withinB s.2.2.1 0 1000 && reqsB s.2.2.2
def itemsB {α : Type} (p : α → Bool) (L : List α) : Bool := decide (L.length ≤ 64) && L.all p
def risesBy {α β : Type} [Inhabited α] (lt : β → β → Bool) (f : α → β) (L : List α) : Bool := allTo L.length fun i => decide (i = 0) || lt (f (L.getD (i - 1) default)) (f (L.getD i default))
def iLt (a b : Int) : Bool := decide (a < b)
def sGt (a b : ByteArray) : Bool := !sLt a b && !sEq a b
def rightClass (x : ClassD) : Bool := wordB x.1
def rightClaim (x : ClaimD) : Bool := wordB x.1 && amountB x.2.1 && wordB x.2.2.1 && nameNone x.2.2.2
def rightVolume (x : VolumeD) : Bool := wordB x.1 && amountB x.2.1 && wordB x.2.2.1 && reqsB x.2.2.2.1 && nameNone x.2.2.2.2
def rightBudget (x : BudgetD) : Bool := wordB x.1 && reqsB x.2.1 && withinB x.2.2 0 1000
def rightNode (x : NodeD) : Bool := wordB x.1 && (checkI x.2.1 == 0) && (Tn.checkT x.2.2.1 == 0) && resB x.2.2.2.2.1 && withinB x.2.2.2.2.2.1 0 1000 && withinB x.2.2.2.2.2.2 0 1000
def rightPod (x : PodD) : Bool :=
 wordB x.1 && withinB x.2.1 (-1073741824) 1073741824 && (checkI x.2.2.1 == 0) && reqsB x.2.2.2.2.2.1 && (Tn.checkBr x.2.2.2.2.1 == 0) && resB x.2.2.2.1 && itemsB preferB x.2.2.2.2.2.2.1 && itemsB portB x.2.2.2.2.2.2.2.1 && risesBy iLt id x.2.2.2.2.2.2.2.1 && itemsB termB x.2.2.2.2.2.2.2.2.1 && itemsB termB x.2.2.2.2.2.2.2.2.2.1 && itemsB spreadB x.2.2.2.2.2.2.2.2.2.2.1 && itemsB wordB x.2.2.2.2.2.2.2.2.2.2.2.1 && risesBy sLt id x.2.2.2.2.2.2.2.2.2.2.2.1 && nameNone x.2.2.2.2.2.2.2.2.2.2.2.2.1 && nameNone x.2.2.2.2.2.2.2.2.2.2.2.2.2
theorem range_new {u : World} {T : TypeId} {b o : Nat} {p c q : List Value} (hb : u.heap.size = b) (ho : p.length = o) : (u.alloc (.cells (p ++ (c ++ q)).toArray T)).rangeAt b o c := by
 subst hb ho
 intro j v hj
 have : (u.alloc (.cells (p ++ (c ++ q)).toArray T)).heap[u.heap.size]? = some (.cells (p ++ (c ++ q)).toArray T) := heap_new u _ _ rfl
 generalize u.alloc (.cells (p ++ (c ++ q)).toArray T) = u' at this ⊢
 have hl : j < c.length := (List.getElem?_eq_some_iff.1 hj).1
 simp only [World.cell?, this]
 rw [List.getElem?_toArray, List.getElem?_append_right (by omega), show p.length + j - p.length = j by omega, List.getElem?_append_left hl]
 exact hj
theorem range_all {u : World} {T : TypeId} {b : Nat} {c : List Value} (hb : u.heap.size = b) : (u.alloc (.cells c.toArray T)).rangeAt b 0 c := by
 have := range_new (u := u) (T := T) (p := []) (c := c) (q := []) hb rfl
 simpa using this
theorem there_new {u : World} {T : TypeId} {b n : Nat} {c : Array Value} (hb : u.heap.size = b) (hn : c.size = n) : (u.alloc (.cells c T)).there b 0 n := by
 subst hb hn
 intro j hj
 have : (u.alloc (.cells c T)).heap[u.heap.size]? = some (.cells c T) := heap_new u _ _ rfl
 generalize u.alloc (.cells c T) = u' at this ⊢
 simp [World.cell?, World.frozen?, this, hj]
theorem range_on {w w' : World} {B b o : Nat} {c : List Value} (h : w.rangeAt b o c) (hb : Below B w w') (hB : b < B) : w'.rangeAt b o c := fun j v hj => (hb.cell (p := ⟨b, o + j, none⟩) hB).trans (h j v hj)
theorem there_on {w w' : World} {B b o n : Nat} (h : w.there b o n) (hb : Below B w w') (hB : b < B) : w'.there b o n := fun j hj => by
 rw [hb.cell (p := ⟨b, o + j, none⟩) hB, hb.frozen (p := ⟨b, o + j, none⟩) hB]; exact h j hj
theorem below_setCells {B b : Nat} {a : World} : ∀ {vs : List Value} {o : Nat} {u : World}, Below B a u → B ≤ b → Below B a (u.setCells b o vs)
 | [], _, _, h, _ => h
 | v :: r, o, u, h, hb => by
  rw [World.setCells]
  exact below_setCells (h.setCell (p := ⟨b, o, none⟩) hb v) hb
theorem size_setCells {b : Nat} : ∀ {vs : List Value} {o : Nat} {u : World}, (u.setCells b o vs).heap.size = u.heap.size
 | [], _, _ => rfl
 | v :: r, o, u => by rw [World.setCells, size_setCells]; simp
theorem kept_setCells {A : Where} {b : Nat} (h : ¬ A b) : ∀ {vs : List Value} {o : Nat} {u : World}, Kept A u (u.setCells b o vs)
 | [], _, u => Kept.refl A u
 | v :: r, o, u => by
  rw [World.setCells]
  exact (Kept.set (p := ⟨b, o, none⟩) h v).trans (kept_setCells h)
theorem res_cell {P : Program} {fn : Func} {p : Tmp} {ty : TypeId} (h : fn.results = #[.cell p ty]) (tmps : Array Value) (w : World) (b : Nat) (cs : List Value) (d : TypeDesc)
  (hp : tmps.getD p undef = .pointer (some ⟨b, 0, none⟩)) (hr : w.rangeAt b 0 cs) (hu : P.underlying ty = some d) (hd : d.isRow = true) (hi : (P.info? ty).map (·.size) = some cs.length) :
  (results fn tmps).run P w = .ok (.agg cs.toArray) w := by
 have hp' : tmps[p]?.getD undef = .pointer (some ⟨b, 0, none⟩) := by simpa using hp
 simp [results, h, hp', asAddr, run_loadVar_mid w b 0 ty cs d hr hu hd hi]
theorem res_cell3 {P : Program} {fn : Func} {p q r : Tmp} {ty : TypeId} (h : fn.results = #[.cell p ty, .tmp q, .tmp r]) (tmps : Array Value) (w : World) (b : Nat) (cs : List Value) (d : TypeDesc) (y z : Value)
  (hp : tmps.getD p undef = .pointer (some ⟨b, 0, none⟩)) (hq : tmps.getD q undef = y) (hz : tmps.getD r undef = z) (hr : w.rangeAt b 0 cs) (hu : P.underlying ty = some d) (hd : d.isRow = true) (hi : (P.info? ty).map (·.size) = some cs.length) :
  (results fn tmps).run P w = .ok (.tuple #[.agg cs.toArray, y, z]) w := by
 have hp' : tmps[p]?.getD undef = .pointer (some ⟨b, 0, none⟩) := by simpa using hp
 have hq' : tmps[q]?.getD undef = y := by simpa using hq
 have hz' : tmps[r]?.getD undef = z := by simpa using hz
 simp [results, h, hp', hq', hz', asAddr, run_loadVar_mid w b 0 ty cs d hr hu hd hi]
section
variable {P : Program} {md : Region.Mode} {ops : Array Oper} {Q : Exit → Act → World → Prop} {S : World → Prop} {oi : Oper} {d fuel : Nat} {listed : Array Bool} {a : Act} {w : World}
theorem tq (i : Nat) (v : Value) (hy : YieldsIf P ops S oi v a) (h : wpAnyH P md ops (NoPanic Q) S fuel (listed.setIfInBounds i true) (a.put (some d) v) w)
  (hi : ops[i]? = some oi := by rfl) (hd : oi.dst = some d := by rfl) (hb : (Region.noSelect ops && (Region.free md ops listed i && (Region.ready md ops listed).contains i)) = true := by kernel_rfl) (hS : S w := by assumption) : wpAnyH P md ops (NoPanic Q) S (fuel + 1) listed a w :=
 wpAnyH_take hi (Bool.and_eq_true _ _ ▸ hb).1 (Bool.and_eq_true _ _ ▸ (Bool.and_eq_true _ _ ▸ hb).2).1 (Bool.and_eq_true _ _ ▸ (Bool.and_eq_true _ _ ▸ hb).2).2 (fun _ _ _ h => h) hy hS (hd ▸ h)
theorem tk (i : Nat) {v : Value} (hy : ∀ u, S u → (execOp a.eval oi).run P u = .ok (.value v) u) (h : wpAnyH P md ops (NoPanic Q) S fuel (listed.setIfInBounds i true) (a.put (some d) v) w)
  (hi : ops[i]? = some oi := by rfl) (hd : oi.dst = some d := by rfl) (hb : (Region.noSelect ops && (Region.free md ops listed i && (Region.ready md ops listed).contains i)) = true := by kernel_rfl) (hw : Region.wanted oi (yielded ops a.tmps) = true := by rfl) (hS : S w := by assumption) : wpAnyH P md ops (NoPanic Q) S (fuel + 1) listed a w :=
 tq i v (.inl ⟨hw, hy⟩) h hi hd hb hS
theorem tn (i : Nat) (h : wpAnyH P md ops (NoPanic Q) S fuel (listed.setIfInBounds i true) (a.put (some d) undef) w)
  (hi : ops[i]? = some oi := by rfl) (hd : oi.dst = some d := by rfl) (hb : (Region.noSelect ops && (Region.free md ops listed i && (Region.ready md ops listed).contains i)) = true := by kernel_rfl) (hw : Region.wanted oi (yielded ops a.tmps) = false := by rfl) (hS : S w := by assumption) : wpAnyH P md ops (NoPanic Q) S (fuel + 1) listed a w :=
 tq i undef (.inr ⟨hw, rfl⟩) h hi hd hb hS
theorem tp (i : Nat) {v : Value} (h : wpAnyH P md ops (NoPanic Q) S fuel (listed.setIfInBounds i true) (a.put (some d) v) w)
  (hi : ops[i]? = some oi := by rfl) (hd : oi.dst = some d := by rfl) (hb : (Region.noSelect ops && (Region.free md ops listed i && (Region.ready md ops listed).contains i)) = true := by kernel_rfl) (hw : Region.wanted oi (yielded ops a.tmps) = true := by rfl)
  (hy : ∀ u, (execOp a.eval oi).run P u = .ok (.value v) u := by intro u; go_simp; try with_reducible rfl) (hS : S w := by assumption) : wpAnyH P md ops (NoPanic Q) S (fuel + 1) listed a w :=
 tk i (fun u _ => hy u) h hi hd hb hw hS
theorem tr (i : Nat) (h : ∀ K' : Act → World → Prop, Shut (∀ v w, S w → (S w → wpAnyH P md ops Q S fuel (listed.setIfInBounds i true) (a.put (some d) v) w) → K' (a.put oi.dst v) w) → if Region.wanted oi (yielded ops a.tmps) = true then Oper.wp P oi a w K' Q else K' (a.put oi.dst undef) w)
  (hi : ops[i]? = some oi := by rfl) (hd : oi.dst = some d := by rfl) (hr : Region.ready md ops listed = [i] := by kernel_rfl) : wpAnyH P md ops Q S (fuel + 1) listed a w :=
 wpAnyH_ready hr (by simp) (AllReadyH.cons hi (fun K' hK => h K' (fun v w h1 h2 => hK.out _ w h1 (fun h3 => hd ▸ h2 h3))) AllReadyH.nil)
theorem ts (i : Nat) (h : ∀ K' : Act → World → Prop, Shut (∀ v w, S w → (S w → wpAnyH P md ops Q S fuel (listed.setIfInBounds i true) a w) → K' (a.put oi.dst v) w) → if Region.wanted oi (yielded ops a.tmps) = true then Oper.wp P oi a w K' Q else K' (a.put oi.dst undef) w)
  (hi : ops[i]? = some oi := by rfl) (hd : oi.dst = none := by rfl) (hr : Region.ready md ops listed = [i] := by kernel_rfl) : wpAnyH P md ops Q S (fuel + 1) listed a w :=
 wpAnyH_ready hr (by simp) (AllReadyH.cons hi (fun K' hK => h K' (fun v w h1 h2 => hK.out _ w h1 (fun h3 => by rw [hd]; exact h2 h3))) AllReadyH.nil)
theorem tz (h : Q .normal a w) (hr : Region.ready md ops listed = [] := by kernel_rfl) : wpAnyH P md ops (NoPanic Q) S fuel listed a w := wpAnyH_done hr (NoPanic.normal h) _
theorem t0 {id : Nat} (S : World → Prop) (hS : S w.drew) (h : S w.drew → wpAnyH P .any ops (NoPanic Q) S ops.size (Array.replicate ops.size false) a w.drew) (hm : P.follows .mixedOrders = true := by kernel_rfl) : (Code.region id ops true).wp P Q a w :=
 wp_region_noPanic (wp_region_held_drew hm hS h)
end
abbrev J (g : Hd) : Value := .slice g.1 g.2.1 g.2.2
abbrev Z : Value := .slice none 0 0
def Held (w : World) (L : List (Nat × List Value)) (M : List (Nat × Nat)) (u : World) : Prop :=
 Below w.heap.size w u ∧ (∀ x ∈ L, w.heap.size ≤ x.1 ∧ x.1 < u.heap.size ∧ u.rangeAt x.1 0 x.2 ∧ u.there x.1 0 x.2.length) ∧ (∀ y ∈ M, w.heap.size ≤ y.1 ∧ y.1 < u.heap.size ∧ u.there y.1 0 y.2)
section
variable {w u : World} {L : List (Nat × List Value)} {M : List (Nat × Nat)}
theorem Held.start (w : World) : Held w [] [] w := ⟨Below.refl _ _, (fun _ h => by cases h), (fun _ h => by cases h)⟩
theorem Held.below (h : Held w L M u) : Below w.heap.size w u := h.1
theorem Held.on {u' : World} (h : Held w L M u) (hb : Below u.heap.size u u') : Held w L M u' :=
 ⟨on2 h.1 hb, fun x hx => by
  obtain ⟨h1, h2, h3, h4⟩ := h.2.1 x hx
  exact ⟨h1, Nat.lt_of_lt_of_le h2 hb.size, range_on h3 hb h2, there_on h4 hb h2⟩, fun y hy => by
  obtain ⟨h1, h2, h3⟩ := h.2.2 y hy
  exact ⟨h1, Nat.lt_of_lt_of_le h2 hb.size, there_on h3 hb h2⟩⟩
theorem Held.drew (h : Held w L M u) : Held w L M u.drew := h.on (Below.refl _ u).drew
theorem Held.push (h : Held w L M u) {b : Nat} (hb : u.heap.size = b) (c : List Value) (T : TypeId) : Held w ((b, c) :: L) M (u.alloc (.cells c.toArray T)) := by
 subst hb
 have hB : Below u.heap.size u (u.alloc (.cells c.toArray T)) := (Below.refl _ u).alloc (Nat.le_refl _) _
 refine ⟨on2 h.1 hB, fun x hx => ?_, (h.on hB).2.2⟩
 rcases List.mem_cons.1 hx with rfl | hx
 ·
  exact ⟨h.1.size, by simp, range_all rfl, there_new rfl (by simp)⟩
 ·
  exact (h.on hB).2.1 x hx
theorem Held.room (h : Held w L M u) {b : Nat} (hb : u.heap.size = b) (c : Array Value) (T : TypeId) : Held w L ((b, c.size) :: M) (u.alloc (.cells c T)) := by
 subst hb
 have hB : Below u.heap.size u (u.alloc (.cells c T)) := (Below.refl _ u).alloc (Nat.le_refl _) _
 refine ⟨on2 h.1 hB, (h.on hB).2.1, fun y hy => ?_⟩
 rcases List.mem_cons.1 hy with rfl | hy
 ·
  exact ⟨h.1.size, by simp, there_new rfl rfl⟩
 ·
  exact (h.on hB).2.2 y hy
theorem Held.get (h : Held w L M u) (i : Nat) {b : Nat} {c : List Value} (hi : L[i]? = some (b, c)) : u.rangeAt b 0 c := (h.2.1 _ (List.mem_of_getElem? hi)).2.2.1
theorem Held.cell (h : Held w L M u) (i : Nat) {b : Nat} {c : List Value} (hi : L[i]? = some (b, c)) (j : Nat) {v : Value} (hj : c[j]? = some v) : u.cell? ⟨b, j, none⟩ = some v := by
 have := h.get i hi j v hj
 simpa using this
theorem Held.frozen (h : Held w L M u) (i : Nat) {b : Nat} {c : List Value} (hi : L[i]? = some (b, c)) (j : Nat) (hj : j < c.length) : u.frozen? ⟨b, j, none⟩ = false := by
 have := ((h.2.1 _ (List.mem_of_getElem? hi)).2.2.2 j hj).2
 simpa using this
theorem Held.lt (h : Held w L M u) (i : Nat) {b : Nat} {c : List Value} (hi : L[i]? = some (b, c)) : b < u.heap.size := (h.2.1 _ (List.mem_of_getElem? hi)).2.1
theorem Held.there (h : Held w L M u) (i : Nat) {b n : Nat} (hi : M[i]? = some (b, n)) : u.there b 0 n := (h.2.2 _ (List.mem_of_getElem? hi)).2.2
theorem Held.ltM (h : Held w L M u) (i : Nat) {b n : Nat} (hi : M[i]? = some (b, n)) : b < u.heap.size := (h.2.2 _ (List.mem_of_getElem? hi)).2.1
theorem Held.less {L' : List (Nat × List Value)} {M' : List (Nat × Nat)} (h : Held w L M u) (hL : ∀ x ∈ L', x ∈ L) (hM : ∀ y ∈ M', y ∈ M) : Held w L' M' u := ⟨h.1, fun x hx => h.2.1 x (hL x hx), fun y hy => h.2.2 y (hM y hy)⟩
theorem Held.free {b : Nat} {c : List Value} (h : Held w ((b, c) :: L) M u) : Held w L ((b, c.length) :: M) u :=
 ⟨h.1, fun x hx => h.2.1 x (by simp [hx]), fun y hy => by
  rcases List.mem_cons.1 hy with rfl | hy
  ·
   obtain ⟨h1, h2, _, h4⟩ := h.2.1 (b, c) (by simp)
   exact ⟨h1, h2, h4⟩
  ·
   exact h.2.2 y hy⟩
theorem Held.store {b n : Nat} {c : List Value} (h : Held w L ((b, n) :: M) u) (hl : c.length = n) (hL : ∀ x ∈ L, x.1 ≠ b) : Held w ((b, c) :: L) M (u.setCells b 0 c) := by
 obtain ⟨h1, h2, h4⟩ := h.2.2 (b, n) (by simp)
 subst hl
 refine ⟨below_setCells h.1 h1, fun x hx => ?_, fun y hy => ?_⟩
 ·
  rcases List.mem_cons.1 hx with rfl | hx
  ·
   exact ⟨h1, by rw [size_setCells]; exact h2, World.rangeAt_setCells_same u b 0 c h4, World.there_setCells h4 b 0 c⟩
  ·
   obtain ⟨g1, g2, g3, g4⟩ := h.2.1 x hx
   exact ⟨g1, by rw [size_setCells]; exact g2, World.rangeAt_setCells_apart g3 b 0 c (.inl (hL x hx)), World.there_setCells g4 b 0 c⟩
 ·
  obtain ⟨g1, g2, g3⟩ := h.2.2 y (by simp [hy])
  exact ⟨g1, by rw [size_setCells]; exact g2, World.there_setCells g3 b 0 c⟩
theorem Held.wrote {b n : Nat} {c : List Value} (h : Held w L M u) (i : Nat) (hi : M[i]? = some (b, n)) (hL : ∀ x ∈ L, x.1 ≠ b) : Held w L M (u.setCells b 0 c) := by
 obtain ⟨h1, h2, h4⟩ := h.2.2 (b, n) (List.mem_of_getElem? hi)
 refine ⟨below_setCells h.1 h1, fun x hx => ?_, fun y hy => ?_⟩
 ·
  obtain ⟨g1, g2, g3, g4⟩ := h.2.1 x hx
  exact ⟨g1, by rw [size_setCells]; exact g2, World.rangeAt_setCells_apart g3 b 0 c (.inl (hL x hx)), World.there_setCells g4 b 0 c⟩
 ·
  obtain ⟨g1, g2, g3⟩ := h.2.2 y hy
  exact ⟨g1, by rw [size_setCells]; exact g2, World.there_setCells g3 b 0 c⟩
end
theorem at_world {K : Act → World → Prop} {a : Act} {u W : World} (h : W = u) (k : K a W) : K a u := h ▸ k
theorem want_yes {c : Prop} [Decidable c] {A B : Prop} (h : c) (k : A) : if c then A else B := by rw [if_pos h]; exact k
theorem call_enter {P : Program} {o : Oper} {a : Act} {u : World} {K : Act → World → Prop} {Q : Exit → Act → World → Prop} {f : Nat} {args : Array Value} (hr : (execOp a.eval o).run P u = .ok (.enter f args) u) {post : Ending → World → Prop} (hc : Calls P f args u post) (h : ∀ e u', post e u' → ∃ v, e = .returned v ∧ K (a.put o.dst v) u') : o.wp P a u K Q := by
 unfold Oper.wp
 rw [hr]
 refine Calls.mono hc fun e u' he => ?_
 obtain ⟨v, rfl, hk⟩ := h e u' he
 exact hk
end Go.Proofs.YtikncmcceeacmaaGreat

