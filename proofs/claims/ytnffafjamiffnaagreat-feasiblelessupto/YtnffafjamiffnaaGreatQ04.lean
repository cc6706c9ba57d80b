/- Functions of the program, each walked under the conditions that its theorem names. -/
import Derived.Shelf.Abstract
import Derived.Test.YtnffafjamiffnaaGreatQ03
set_option linter.unusedSimpArgs false
set_option maxRecDepth 100000
set_option maxHeartbeats 32000000
namespace Go.Proofs.YtnffafjamiffnaaGreat
open Go.RowKit
abbrev Hd := Option Addr × Nat × Nat
def RLabel : Rep Lab := RPair RStr RStr
theorem RLabel.firm : Firm RLabel 2 := Firm.pair RStr.firm (RStr.firm)
def RReq : Rep Ask := RPair RStr (RPair RInt (RSl RStr 1 16))
theorem RReq.firm : Firm RReq 3 := Firm.pair RStr.firm (Firm.pair RInt.firm ((RSl.firm RStr.firm)))
abbrev ResD := Int × Int × Int
def RRes : Rep ResD := RPair RInt (RPair RInt RInt)
theorem RRes.firm : Firm RRes 3 := Firm.pair RInt.firm (Firm.pair RInt.firm (RInt.firm))
def RTaint : Rep Tnt := RPair RStr (RPair RStr RInt)
theorem RTaint.firm : Firm RTaint 3 := Firm.pair RStr.firm (Firm.pair RStr.firm (RInt.firm))
def RBear : Rep Bear := RPair RStr (RPair RStr (RPair RBool RInt))
theorem RBear.firm : Firm RBear 4 := Firm.pair RStr.firm (Firm.pair RStr.firm (Firm.pair RBool.firm (RInt.firm)))
abbrev TermD := List Ask × ByteArray
def RTerm : Rep TermD := RPair (RSl RReq 3 48) RStr
theorem RTerm.firm : Firm RTerm 2 := Firm.pair (RSl.firm RReq.firm) (RStr.firm)
abbrev PreferD := List Ask × Int
def RPrefer : Rep PreferD := RPair (RSl RReq 3 48) RInt
theorem RPrefer.firm : Firm RPrefer 2 := Firm.pair (RSl.firm RReq.firm) (RInt.firm)
abbrev SpreadD := ByteArray × Int × Int × List Ask
def RSpread : Rep SpreadD := RPair RStr (RPair RInt (RPair RInt (RSl RReq 3 48)))
theorem RSpread.firm : Firm RSpread 4 := Firm.pair RStr.firm (Firm.pair RInt.firm (Firm.pair RInt.firm ((RSl.firm RReq.firm))))
abbrev PodD := ByteArray × Int × List Lab × ResD × List Bear × List Ask × List PreferD × List Int × List TermD × List TermD × List SpreadD × List ByteArray × ByteArray × ByteArray
def RPod : Rep PodD := RPair RStr (RPair RInt (RPair (RSl RLabel 2 32) (RPair RRes (RPair (RSl RBear 4 48) (RPair (RSl RReq 3 48) (RPair (RSl RPrefer 2 32) (RPair (RSl RInt 1 8) (RPair (RSl RTerm 2 40) (RPair (RSl RTerm 2 40) (RPair (RSl RSpread 4 56) (RPair (RSl RStr 1 16) (RPair RStr RStr))))))))))))
theorem RPod.firm : Firm RPod 16 := Firm.pair RStr.firm (Firm.pair RInt.firm (Firm.pair (RSl.firm RLabel.firm) (Firm.pair RRes.firm (Firm.pair (RSl.firm RBear.firm) (Firm.pair (RSl.firm RReq.firm) (Firm.pair (RSl.firm RPrefer.firm) (Firm.pair (RSl.firm RInt.firm) (Firm.pair (RSl.firm RTerm.firm) (Firm.pair (RSl.firm RTerm.firm) (Firm.pair (RSl.firm RSpread.firm) (Firm.pair (RSl.firm RStr.firm) (Firm.pair RStr.firm (RStr.firm)))))))))))))
abbrev NodeD := ByteArray × List Lab × List Tnt × Bool × ResD × Int × Int
def RNode : Rep NodeD := RPair RStr (RPair (RSl RLabel 2 32) (RPair (RSl RTaint 3 40) (RPair RBool (RPair RRes (RPair RInt RInt)))))
theorem RNode.firm : Firm RNode 9 := Firm.pair RStr.firm (Firm.pair (RSl.firm RLabel.firm) (Firm.pair (RSl.firm RTaint.firm) (Firm.pair RBool.firm (Firm.pair RRes.firm (Firm.pair RInt.firm (RInt.firm))))))
abbrev VolumeD := ByteArray × Int × ByteArray × List Ask × ByteArray
def RVolume : Rep VolumeD := RPair RStr (RPair RInt (RPair RStr (RPair (RSl RReq 3 48) RStr)))
theorem RVolume.firm : Firm RVolume 5 := Firm.pair RStr.firm (Firm.pair RInt.firm (Firm.pair RStr.firm (Firm.pair (RSl.firm RReq.firm) (RStr.firm))))
abbrev ClaimD := ByteArray × Int × ByteArray × ByteArray
def RClaim : Rep ClaimD := RPair RStr (RPair RInt (RPair RStr RStr))
theorem RClaim.firm : Firm RClaim 4 := Firm.pair RStr.firm (Firm.pair RInt.firm (Firm.pair RStr.firm (RStr.firm)))
abbrev ClassD := ByteArray × Bool
def RClass : Rep ClassD := RPair RStr RBool
theorem RClass.firm : Firm RClass 2 := Firm.pair RStr.firm (RBool.firm)
abbrev BudgetD := ByteArray × List Ask × Int
def RBudget : Rep BudgetD := RPair RStr (RPair (RSl RReq 3 48) RInt)
theorem RBudget.firm : Firm RBudget 3 := Firm.pair RStr.firm (Firm.pair (RSl.firm RReq.firm) (RInt.firm))
abbrev StateD := List PodD × List NodeD × List VolumeD × List ClaimD × List ClassD × List BudgetD
def RState : Rep StateD := RPair (RSl RPod 16 296) (RPair (RSl RNode 9 112) (RPair (RSl RVolume 5 80) (RPair (RSl RClaim 4 56) (RPair (RSl RClass 2 24) (RSl RBudget 3 48)))))
theorem RState.firm : Firm RState 6 := Firm.pair (RSl.firm RPod.firm) (Firm.pair (RSl.firm RNode.firm) (Firm.pair (RSl.firm RVolume.firm) (Firm.pair (RSl.firm RClaim.firm) (Firm.pair (RSl.firm RClass.firm) ((RSl.firm RBudget.firm))))))
theorem RLabel.out {A : Where} {w : World} {cs : List Value} {x : Lab} (h : RLabel A w cs x) : cs = [.string x.1, .string x.2] /\ x.1.size <= 140737488355328 /\ x.2.size <= 140737488355328 := by
 obtain ⟨l_0, r_0, q_0, f_0, g_0⟩ := h
 obtain ⟨e_0, s_0⟩ := f_0
 obtain ⟨e_1, s_1⟩ := g_0
 exact ⟨by rw [q_0, e_0, e_1]; rfl, s_0, s_1⟩
theorem RReq.out {A : Where} {w : World} {cs : List Value} {x : Ask} (h : RReq A w cs x) : ∃ h2 : Hd, cs = [.string x.1, .int .i64 x.2.1, .slice h2.1 h2.2.1 h2.2.2] /\ x.1.size <= 140737488355328 /\ SlAt RStr 1 16 A w h2.1 h2.2.1 h2.2.2 x.2.2 := by
 obtain ⟨l_0, r_0, q_0, f_0, g_0⟩ := h
 obtain ⟨e_0, s_0⟩ := f_0
 obtain ⟨l_1, r_1, q_1, f_1, g_1⟩ := g_0
 have e_1 := f_1
 obtain ⟨a_2, n_2, c_2, e_2, s_2⟩ := g_1
 exact ⟨(a_2, n_2, c_2), by rw [q_0, e_0, q_1, e_1, e_2]; rfl, s_0, s_2⟩
theorem RRes.out {A : Where} {w : World} {cs : List Value} {x : ResD} (h : RRes A w cs x) : cs = [.int .i64 x.1, .int .i64 x.2.1, .int .i64 x.2.2] := by
 obtain ⟨l_0, r_0, q_0, f_0, g_0⟩ := h
 have e_0 := f_0
 obtain ⟨l_1, r_1, q_1, f_1, g_1⟩ := g_0
 have e_1 := f_1
 have e_2 := g_1
 rw [q_0, e_0, q_1, e_1, e_2]; rfl
theorem RRes.mk {A : Where} {w : World} {x : ResD}  : RRes A w [.int .i64 x.1, .int .i64 x.2.1, .int .i64 x.2.2] x :=
 ⟨_, _, rfl, rfl, ⟨_, _, rfl, rfl, rfl⟩⟩
theorem RTaint.out {A : Where} {w : World} {cs : List Value} {x : Tnt} (h : RTaint A w cs x) : cs = [.string x.1, .string x.2.1, .int .i64 x.2.2] /\ x.1.size <= 140737488355328 /\ x.2.1.size <= 140737488355328 := by
 obtain ⟨l_0, r_0, q_0, f_0, g_0⟩ := h
 obtain ⟨e_0, s_0⟩ := f_0
 obtain ⟨l_1, r_1, q_1, f_1, g_1⟩ := g_0
 obtain ⟨e_1, s_1⟩ := f_1
 have e_2 := g_1
 exact ⟨by rw [q_0, e_0, q_1, e_1, e_2]; rfl, s_0, s_1⟩
theorem RBear.out {A : Where} {w : World} {cs : List Value} {x : Bear} (h : RBear A w cs x) : cs = [.string x.1, .string x.2.1, .bool x.2.2.1, .int .i64 x.2.2.2] /\ x.1.size <= 140737488355328 /\ x.2.1.size <= 140737488355328 := by
 obtain ⟨l_0, r_0, q_0, f_0, g_0⟩ := h
 obtain ⟨e_0, s_0⟩ := f_0
 obtain ⟨l_1, r_1, q_1, f_1, g_1⟩ := g_0
 obtain ⟨e_1, s_1⟩ := f_1
 obtain ⟨l_2, r_2, q_2, f_2, g_2⟩ := g_1
 have e_2 := f_2
 have e_3 := g_2
 exact ⟨by rw [q_0, e_0, q_1, e_1, q_2, e_2, e_3]; rfl, s_0, s_1⟩
theorem RTerm.out {A : Where} {w : World} {cs : List Value} {x : TermD} (h : RTerm A w cs x) : ∃ h0 : Hd, cs = [.slice h0.1 h0.2.1 h0.2.2, .string x.2] /\ SlAt RReq 3 48 A w h0.1 h0.2.1 h0.2.2 x.1 /\ x.2.size <= 140737488355328 := by
 obtain ⟨l_0, r_0, q_0, f_0, g_0⟩ := h
 obtain ⟨a_0, n_0, c_0, e_0, s_0⟩ := f_0
 obtain ⟨e_1, s_1⟩ := g_0
 exact ⟨(a_0, n_0, c_0), by rw [q_0, e_0, e_1]; rfl, s_0, s_1⟩
theorem RTerm.mk {A : Where} {w : World} {x : TermD} {h0 : Hd} (p0 : SlAt RReq 3 48 A w h0.1 h0.2.1 h0.2.2 x.1) (p1 : x.2.size <= 140737488355328) : RTerm A w [.slice h0.1 h0.2.1 h0.2.2, .string x.2] x :=
 ⟨_, _, rfl, ⟨h0.1, h0.2.1, h0.2.2, rfl, p0⟩, ⟨rfl, p1⟩⟩
theorem RSpread.out {A : Where} {w : World} {cs : List Value} {x : SpreadD} (h : RSpread A w cs x) : ∃ h3 : Hd, cs = [.string x.1, .int .i64 x.2.1, .int .i64 x.2.2.1, .slice h3.1 h3.2.1 h3.2.2] /\ x.1.size <= 140737488355328 /\ SlAt RReq 3 48 A w h3.1 h3.2.1 h3.2.2 x.2.2.2 := by
 obtain ⟨l_0, r_0, q_0, f_0, g_0⟩ := h
 obtain ⟨e_0, s_0⟩ := f_0
 obtain ⟨l_1, r_1, q_1, f_1, g_1⟩ := g_0
 have e_1 := f_1
 obtain ⟨l_2, r_2, q_2, f_2, g_2⟩ := g_1
 have e_2 := f_2
 obtain ⟨a_3, n_3, c_3, e_3, s_3⟩ := g_2
 exact ⟨(a_3, n_3, c_3), by rw [q_0, e_0, q_1, e_1, q_2, e_2, e_3]; rfl, s_0, s_3⟩
theorem RPod.out {A : Where} {w : World} {cs : List Value} {x : PodD} (h : RPod A w cs x) : ∃ h2 h6 h7 h8 h9 h10 h11 h12 h13 : Hd, cs = [.string x.1, .int .i64 x.2.1, .slice h2.1 h2.2.1 h2.2.2, .int .i64 x.2.2.2.1.1, .int .i64 x.2.2.2.1.2.1, .int .i64 x.2.2.2.1.2.2, .slice h6.1 h6.2.1 h6.2.2, .slice h7.1 h7.2.1 h7.2.2, .slice h8.1 h8.2.1 h8.2.2, .slice h9.1 h9.2.1 h9.2.2, .slice h10.1 h10.2.1 h10.2.2, .slice h11.1 h11.2.1 h11.2.2, .slice h12.1 h12.2.1 h12.2.2, .slice h13.1 h13.2.1 h13.2.2, .string x.2.2.2.2.2.2.2.2.2.2.2.2.1, .string x.2.2.2.2.2.2.2.2.2.2.2.2.2] /\ x.1.size <= 140737488355328 /\ SlAt RLabel 2 32 A w h2.1 h2.2.1 h2.2.2 x.2.2.1 /\ SlAt RBear 4 48 A w h6.1 h6.2.1 h6.2.2 x.2.2.2.2.1 /\ SlAt RReq 3 48 A w h7.1 h7.2.1 h7.2.2 x.2.2.2.2.2.1 /\ SlAt RPrefer 2 32 A w h8.1 h8.2.1 h8.2.2 x.2.2.2.2.2.2.1 /\ SlAt RInt 1 8 A w h9.1 h9.2.1 h9.2.2 x.2.2.2.2.2.2.2.1 /\ SlAt RTerm 2 40 A w h10.1 h10.2.1 h10.2.2 x.2.2.2.2.2.2.2.2.1 /\ SlAt RTerm 2 40 A w h11.1 h11.2.1 h11.2.2 x.2.2.2.2.2.2.2.2.2.1 /\ SlAt RSpread 4 56 A w h12.1 h12.2.1 h12.2.2 x.2.2.2.2.2.2.2.2.2.2.1 /\ SlAt RStr 1 16 A w h13.1 h13.2.1 h13.2.2 x.2.2.2.2.2.2.2.2.2.2.2.1 /\ x.2.2.2.2.2.2.2.2.2.2.2.2.1.size <= 140737488355328 /\ x.2.2.2.2.2.2.2.2.2.2.2.2.2.size <= 140737488355328 := by
 obtain ⟨l_0, r_0, q_0, f_0, g_0⟩ := h
 obtain ⟨e_0, s_0⟩ := f_0
 obtain ⟨l_1, r_1, q_1, f_1, g_1⟩ := g_0
 have e_1 := f_1
 obtain ⟨l_2, r_2, q_2, f_2, g_2⟩ := g_1
 obtain ⟨a_2, n_2, c_2, e_2, s_2⟩ := f_2
 obtain ⟨l_3, r_3, q_3, f_3, g_3⟩ := g_2
 obtain ⟨l_3_0, r_3_0, q_3_0, f_3_0, g_3_0⟩ := f_3
 have e_3_0 := f_3_0
 obtain ⟨l_3_1, r_3_1, q_3_1, f_3_1, g_3_1⟩ := g_3_0
 have e_3_1 := f_3_1
 have e_3_2 := g_3_1
 obtain ⟨l_4, r_4, q_4, f_4, g_4⟩ := g_3
 obtain ⟨a_4, n_4, c_4, e_4, s_4⟩ := f_4
 obtain ⟨l_5, r_5, q_5, f_5, g_5⟩ := g_4
 obtain ⟨a_5, n_5, c_5, e_5, s_5⟩ := f_5
 obtain ⟨l_6, r_6, q_6, f_6, g_6⟩ := g_5
 obtain ⟨a_6, n_6, c_6, e_6, s_6⟩ := f_6
 obtain ⟨l_7, r_7, q_7, f_7, g_7⟩ := g_6
 obtain ⟨a_7, n_7, c_7, e_7, s_7⟩ := f_7
 obtain ⟨l_8, r_8, q_8, f_8, g_8⟩ := g_7
 obtain ⟨a_8, n_8, c_8, e_8, s_8⟩ := f_8
 obtain ⟨l_9, r_9, q_9, f_9, g_9⟩ := g_8
 obtain ⟨a_9, n_9, c_9, e_9, s_9⟩ := f_9
 obtain ⟨l_10, r_10, q_10, f_10, g_10⟩ := g_9
 obtain ⟨a_10, n_10, c_10, e_10, s_10⟩ := f_10
 obtain ⟨l_11, r_11, q_11, f_11, g_11⟩ := g_10
 obtain ⟨a_11, n_11, c_11, e_11, s_11⟩ := f_11
 obtain ⟨l_12, r_12, q_12, f_12, g_12⟩ := g_11
 obtain ⟨e_12, s_12⟩ := f_12
 obtain ⟨e_13, s_13⟩ := g_12
 exact ⟨(a_2, n_2, c_2), (a_4, n_4, c_4), (a_5, n_5, c_5), (a_6, n_6, c_6), (a_7, n_7, c_7), (a_8, n_8, c_8), (a_9, n_9, c_9), (a_10, n_10, c_10), (a_11, n_11, c_11), by rw [q_0, e_0, q_1, e_1, q_2, e_2, q_3, q_3_0, e_3_0, q_3_1, e_3_1, e_3_2, q_4, e_4, q_5, e_5, q_6, e_6, q_7, e_7, q_8, e_8, q_9, e_9, q_10, e_10, q_11, e_11, q_12, e_12, e_13]; rfl, s_0, s_2, s_4, s_5, s_6, s_7, s_8, s_9, s_10, s_11, s_12, s_13⟩
theorem RPod.mk {A : Where} {w : World} {x : PodD} {h2 h6 h7 h8 h9 h10 h11 h12 h13 : Hd} (p0 : x.1.size <= 140737488355328) (p1 : SlAt RLabel 2 32 A w h2.1 h2.2.1 h2.2.2 x.2.2.1) (p2 : SlAt RBear 4 48 A w h6.1 h6.2.1 h6.2.2 x.2.2.2.2.1) (p3 : SlAt RReq 3 48 A w h7.1 h7.2.1 h7.2.2 x.2.2.2.2.2.1) (p4 : SlAt RPrefer 2 32 A w h8.1 h8.2.1 h8.2.2 x.2.2.2.2.2.2.1) (p5 : SlAt RInt 1 8 A w h9.1 h9.2.1 h9.2.2 x.2.2.2.2.2.2.2.1) (p6 : SlAt RTerm 2 40 A w h10.1 h10.2.1 h10.2.2 x.2.2.2.2.2.2.2.2.1) (p7 : SlAt RTerm 2 40 A w h11.1 h11.2.1 h11.2.2 x.2.2.2.2.2.2.2.2.2.1) (p8 : SlAt RSpread 4 56 A w h12.1 h12.2.1 h12.2.2 x.2.2.2.2.2.2.2.2.2.2.1) (p9 : SlAt RStr 1 16 A w h13.1 h13.2.1 h13.2.2 x.2.2.2.2.2.2.2.2.2.2.2.1) (p10 : x.2.2.2.2.2.2.2.2.2.2.2.2.1.size <= 140737488355328) (p11 : x.2.2.2.2.2.2.2.2.2.2.2.2.2.size <= 140737488355328) : RPod A w [.string x.1, .int .i64 x.2.1, .slice h2.1 h2.2.1 h2.2.2, .int .i64 x.2.2.2.1.1, .int .i64 x.2.2.2.1.2.1, .int .i64 x.2.2.2.1.2.2, .slice h6.1 h6.2.1 h6.2.2, .slice h7.1 h7.2.1 h7.2.2, .slice h8.1 h8.2.1 h8.2.2, .slice h9.1 h9.2.1 h9.2.2, .slice h10.1 h10.2.1 h10.2.2, .slice h11.1 h11.2.1 h11.2.2, .slice h12.1 h12.2.1 h12.2.2, .slice h13.1 h13.2.1 h13.2.2, .string x.2.2.2.2.2.2.2.2.2.2.2.2.1, .string x.2.2.2.2.2.2.2.2.2.2.2.2.2] x :=
 ⟨_, _, rfl, ⟨rfl, p0⟩, ⟨_, _, rfl, rfl, ⟨_, _, rfl, ⟨h2.1, h2.2.1, h2.2.2, rfl, p1⟩, ⟨_, _, rfl, ⟨_, _, rfl, rfl, ⟨_, _, rfl, rfl, rfl⟩⟩, ⟨_, _, rfl, ⟨h6.1, h6.2.1, h6.2.2, rfl, p2⟩, ⟨_, _, rfl, ⟨h7.1, h7.2.1, h7.2.2, rfl, p3⟩, ⟨_, _, rfl, ⟨h8.1, h8.2.1, h8.2.2, rfl, p4⟩, ⟨_, _, rfl, ⟨h9.1, h9.2.1, h9.2.2, rfl, p5⟩, ⟨_, _, rfl, ⟨h10.1, h10.2.1, h10.2.2, rfl, p6⟩, ⟨_, _, rfl, ⟨h11.1, h11.2.1, h11.2.2, rfl, p7⟩, ⟨_, _, rfl, ⟨h12.1, h12.2.1, h12.2.2, rfl, p8⟩, ⟨_, _, rfl, ⟨h13.1, h13.2.1, h13.2.2, rfl, p9⟩, ⟨_, _, rfl, ⟨rfl, p10⟩, ⟨rfl, p11⟩⟩⟩⟩⟩⟩⟩⟩⟩⟩⟩⟩⟩⟩
theorem RNode.out {A : Where} {w : World} {cs : List Value} {x : NodeD} (h : RNode A w cs x) : ∃ h1 h2 : Hd, cs = [.string x.1, .slice h1.1 h1.2.1 h1.2.2, .slice h2.1 h2.2.1 h2.2.2, .bool x.2.2.2.1, .int .i64 x.2.2.2.2.1.1, .int .i64 x.2.2.2.2.1.2.1, .int .i64 x.2.2.2.2.1.2.2, .int .i64 x.2.2.2.2.2.1, .int .i64 x.2.2.2.2.2.2] /\ x.1.size <= 140737488355328 /\ SlAt RLabel 2 32 A w h1.1 h1.2.1 h1.2.2 x.2.1 /\ SlAt RTaint 3 40 A w h2.1 h2.2.1 h2.2.2 x.2.2.1 := by
 obtain ⟨l_0, r_0, q_0, f_0, g_0⟩ := h
 obtain ⟨e_0, s_0⟩ := f_0
 obtain ⟨l_1, r_1, q_1, f_1, g_1⟩ := g_0
 obtain ⟨a_1, n_1, c_1, e_1, s_1⟩ := f_1
 obtain ⟨l_2, r_2, q_2, f_2, g_2⟩ := g_1
 obtain ⟨a_2, n_2, c_2, e_2, s_2⟩ := f_2
 obtain ⟨l_3, r_3, q_3, f_3, g_3⟩ := g_2
 have e_3 := f_3
 obtain ⟨l_4, r_4, q_4, f_4, g_4⟩ := g_3
 obtain ⟨l_4_0, r_4_0, q_4_0, f_4_0, g_4_0⟩ := f_4
 have e_4_0 := f_4_0
 obtain ⟨l_4_1, r_4_1, q_4_1, f_4_1, g_4_1⟩ := g_4_0
 have e_4_1 := f_4_1
 have e_4_2 := g_4_1
 obtain ⟨l_5, r_5, q_5, f_5, g_5⟩ := g_4
 have e_5 := f_5
 have e_6 := g_5
 exact ⟨(a_1, n_1, c_1), (a_2, n_2, c_2), by rw [q_0, e_0, q_1, e_1, q_2, e_2, q_3, e_3, q_4, q_4_0, e_4_0, q_4_1, e_4_1, e_4_2, q_5, e_5, e_6]; rfl, s_0, s_1, s_2⟩
theorem RNode.mk {A : Where} {w : World} {x : NodeD} {h1 h2 : Hd} (p0 : x.1.size <= 140737488355328) (p1 : SlAt RLabel 2 32 A w h1.1 h1.2.1 h1.2.2 x.2.1) (p2 : SlAt RTaint 3 40 A w h2.1 h2.2.1 h2.2.2 x.2.2.1) : RNode A w [.string x.1, .slice h1.1 h1.2.1 h1.2.2, .slice h2.1 h2.2.1 h2.2.2, .bool x.2.2.2.1, .int .i64 x.2.2.2.2.1.1, .int .i64 x.2.2.2.2.1.2.1, .int .i64 x.2.2.2.2.1.2.2, .int .i64 x.2.2.2.2.2.1, .int .i64 x.2.2.2.2.2.2] x :=
 ⟨_, _, rfl, ⟨rfl, p0⟩, ⟨_, _, rfl, ⟨h1.1, h1.2.1, h1.2.2, rfl, p1⟩, ⟨_, _, rfl, ⟨h2.1, h2.2.1, h2.2.2, rfl, p2⟩, ⟨_, _, rfl, rfl, ⟨_, _, rfl, ⟨_, _, rfl, rfl, ⟨_, _, rfl, rfl, rfl⟩⟩, ⟨_, _, rfl, rfl, rfl⟩⟩⟩⟩⟩⟩
theorem RVolume.out {A : Where} {w : World} {cs : List Value} {x : VolumeD} (h : RVolume A w cs x) : ∃ h3 : Hd, cs = [.string x.1, .int .i64 x.2.1, .string x.2.2.1, .slice h3.1 h3.2.1 h3.2.2, .string x.2.2.2.2] /\ x.1.size <= 140737488355328 /\ x.2.2.1.size <= 140737488355328 /\ SlAt RReq 3 48 A w h3.1 h3.2.1 h3.2.2 x.2.2.2.1 /\ x.2.2.2.2.size <= 140737488355328 := by
 obtain ⟨l_0, r_0, q_0, f_0, g_0⟩ := h
 obtain ⟨e_0, s_0⟩ := f_0
 obtain ⟨l_1, r_1, q_1, f_1, g_1⟩ := g_0
 have e_1 := f_1
 obtain ⟨l_2, r_2, q_2, f_2, g_2⟩ := g_1
 obtain ⟨e_2, s_2⟩ := f_2
 obtain ⟨l_3, r_3, q_3, f_3, g_3⟩ := g_2
 obtain ⟨a_3, n_3, c_3, e_3, s_3⟩ := f_3
 obtain ⟨e_4, s_4⟩ := g_3
 exact ⟨(a_3, n_3, c_3), by rw [q_0, e_0, q_1, e_1, q_2, e_2, q_3, e_3, e_4]; rfl, s_0, s_2, s_3, s_4⟩
theorem RClaim.out {A : Where} {w : World} {cs : List Value} {x : ClaimD} (h : RClaim A w cs x) : cs = [.string x.1, .int .i64 x.2.1, .string x.2.2.1, .string x.2.2.2] /\ x.1.size <= 140737488355328 /\ x.2.2.1.size <= 140737488355328 /\ x.2.2.2.size <= 140737488355328 := by
 obtain ⟨l_0, r_0, q_0, f_0, g_0⟩ := h
 obtain ⟨e_0, s_0⟩ := f_0
 obtain ⟨l_1, r_1, q_1, f_1, g_1⟩ := g_0
 have e_1 := f_1
 obtain ⟨l_2, r_2, q_2, f_2, g_2⟩ := g_1
 obtain ⟨e_2, s_2⟩ := f_2
 obtain ⟨e_3, s_3⟩ := g_2
 exact ⟨by rw [q_0, e_0, q_1, e_1, q_2, e_2, e_3]; rfl, s_0, s_2, s_3⟩
theorem RClass.out {A : Where} {w : World} {cs : List Value} {x : ClassD} (h : RClass A w cs x) : cs = [.string x.1, .bool x.2] /\ x.1.size <= 140737488355328 := by
 obtain ⟨l_0, r_0, q_0, f_0, g_0⟩ := h
 obtain ⟨e_0, s_0⟩ := f_0
 have e_1 := g_0
 exact ⟨by rw [q_0, e_0, e_1]; rfl, s_0⟩
theorem RState.out {A : Where} {w : World} {cs : List Value} {x : StateD} (h : RState A w cs x) : ∃ h0 h1 h2 h3 h4 h5 : Hd, cs = [.slice h0.1 h0.2.1 h0.2.2, .slice h1.1 h1.2.1 h1.2.2, .slice h2.1 h2.2.1 h2.2.2, .slice h3.1 h3.2.1 h3.2.2, .slice h4.1 h4.2.1 h4.2.2, .slice h5.1 h5.2.1 h5.2.2] /\ SlAt RPod 16 296 A w h0.1 h0.2.1 h0.2.2 x.1 /\ SlAt RNode 9 112 A w h1.1 h1.2.1 h1.2.2 x.2.1 /\ SlAt RVolume 5 80 A w h2.1 h2.2.1 h2.2.2 x.2.2.1 /\ SlAt RClaim 4 56 A w h3.1 h3.2.1 h3.2.2 x.2.2.2.1 /\ SlAt RClass 2 24 A w h4.1 h4.2.1 h4.2.2 x.2.2.2.2.1 /\ SlAt RBudget 3 48 A w h5.1 h5.2.1 h5.2.2 x.2.2.2.2.2 := by
 obtain ⟨l_0, r_0, q_0, f_0, g_0⟩ := h
 obtain ⟨a_0, n_0, c_0, e_0, s_0⟩ := f_0
 obtain ⟨l_1, r_1, q_1, f_1, g_1⟩ := g_0
 obtain ⟨a_1, n_1, c_1, e_1, s_1⟩ := f_1
 obtain ⟨l_2, r_2, q_2, f_2, g_2⟩ := g_1
 obtain ⟨a_2, n_2, c_2, e_2, s_2⟩ := f_2
 obtain ⟨l_3, r_3, q_3, f_3, g_3⟩ := g_2
 obtain ⟨a_3, n_3, c_3, e_3, s_3⟩ := f_3
 obtain ⟨l_4, r_4, q_4, f_4, g_4⟩ := g_3
 obtain ⟨a_4, n_4, c_4, e_4, s_4⟩ := f_4
 obtain ⟨a_5, n_5, c_5, e_5, s_5⟩ := g_4
 exact ⟨(a_0, n_0, c_0), (a_1, n_1, c_1), (a_2, n_2, c_2), (a_3, n_3, c_3), (a_4, n_4, c_4), (a_5, n_5, c_5), by rw [q_0, e_0, q_1, e_1, q_2, e_2, q_3, e_3, q_4, e_4, e_5]; rfl, s_0, s_1, s_2, s_3, s_4, s_5⟩
theorem RState.mk {A : Where} {w : World} {x : StateD} {h0 h1 h2 h3 h4 h5 : Hd} (p0 : SlAt RPod 16 296 A w h0.1 h0.2.1 h0.2.2 x.1) (p1 : SlAt RNode 9 112 A w h1.1 h1.2.1 h1.2.2 x.2.1) (p2 : SlAt RVolume 5 80 A w h2.1 h2.2.1 h2.2.2 x.2.2.1) (p3 : SlAt RClaim 4 56 A w h3.1 h3.2.1 h3.2.2 x.2.2.2.1) (p4 : SlAt RClass 2 24 A w h4.1 h4.2.1 h4.2.2 x.2.2.2.2.1) (p5 : SlAt RBudget 3 48 A w h5.1 h5.2.1 h5.2.2 x.2.2.2.2.2) : RState A w [.slice h0.1 h0.2.1 h0.2.2, .slice h1.1 h1.2.1 h1.2.2, .slice h2.1 h2.2.1 h2.2.2, .slice h3.1 h3.2.1 h3.2.2, .slice h4.1 h4.2.1 h4.2.2, .slice h5.1 h5.2.1 h5.2.2] x :=
 ⟨_, _, rfl, ⟨h0.1, h0.2.1, h0.2.2, rfl, p0⟩, ⟨_, _, rfl, ⟨h1.1, h1.2.1, h1.2.2, rfl, p1⟩, ⟨_, _, rfl, ⟨h2.1, h2.2.1, h2.2.2, rfl, p2⟩, ⟨_, _, rfl, ⟨h3.1, h3.2.1, h3.2.2, rfl, p3⟩, ⟨_, _, rfl, ⟨h4.1, h4.2.1, h4.2.2, rfl, p4⟩, ⟨h5.1, h5.2.1, h5.2.2, rfl, p5⟩⟩⟩⟩⟩⟩
theorem each_plus (a b c x y z : Int) (w : World) : Calls Tryz.prog 95 #[.func (.func 96) #[] #[], .agg #[.int .i64 a, .int .i64 b, .int .i64 c], .agg #[.int .i64 x, .int .i64 y, .int .i64 z]] w fun e w' => e = .returned (.agg #[.int .i64 (addI a x), .int .i64 (addI b y), .int .i64 (addI c z)]) /\ Below w.heap.size w w' := by
 go_enter Tryz.func95, Tryz.ntmps95
 go_upto_region 1 with fail
 go_cut [7, 8] (fun p q wx => ∃ B C : Nat, p = .pointer (some ⟨B, 0, none⟩) /\ q = .pointer (some ⟨C, 0, none⟩) /\ w.heap.size + 1 + 1 < B /\ w.heap.size + 1 + 1 < C /\ B < wx.heap.size /\ C < wx.heap.size /\ Holds3 wx B a b c /\ Holds3 wx C x y z /\ Holds3 wx (w.heap.size + 1 + 1) 0 0 0 /\ wx.frozen? ⟨w.heap.size + 1 + 1, 0, none⟩ = false /\ wx.frozen? ⟨w.heap.size + 1 + 1, 1, none⟩ = false /\ wx.frozen? ⟨w.heap.size + 1 + 1, 2, none⟩ = false /\ Below w.heap.size w wx)
 case first =>
  go_region_held3 (fun w' => w'.cell? ⟨w.heap.size, 0, none⟩ = some (.int .i64 a) /\ w'.cell? ⟨w.heap.size, 1, none⟩ = some (.int .i64 b) /\ w'.cell? ⟨w.heap.size, 2, none⟩ = some (.int .i64 c) /\ w'.cell? ⟨w.heap.size + 1, 0, none⟩ = some (.int .i64 x) /\ w'.cell? ⟨w.heap.size + 1, 1, none⟩ = some (.int .i64 y) /\ w'.cell? ⟨w.heap.size + 1, 2, none⟩ = some (.int .i64 z)) ((refine ⟨?_, ?_, ?_, ?_, ?_, ?_⟩) <;> (simp [go_sem]; done))
   (first | (go_at_call 112; refine (zCq _ _ _ _).mono ?_; rintro e w' ⟨rfl, rfl⟩))
  all_goals
   go_wp2_with fail
   go_meet
   refine ⟨_, _, rfl, rfl, ?_, ?_, ?_, ?_, ⟨?_, ?_, ?_⟩, ⟨?_, ?_, ?_⟩, ⟨?_, ?_, ?_⟩, ?_, ?_, ?_, ?_⟩
   all_goals first | omega | (simp [go_sem]; done) | (simp [go_sem]; omega) | go_grown
 case rest =>
  obtain ⟨B, C, rfl, rfl, hB, hC, hBl, hCl, ⟨hB0, hB1, hB2⟩, ⟨hC0, hC1, hC2⟩, ⟨hR0, hR1, hR2⟩, hf0, hf1, hf2, hbel⟩ := hcut
  have hRl : w.heap.size + 1 + 1 < wc.heap.size := by omega
  go_wp2_with fail
  refine wp_loop_rounds 4 ?_
  rw [rounds_succ]
  go_wp2_with fail
  go_region_held3 (fun w' => w'.cell? ⟨B, 0, none⟩ = some (.int .i64 a) /\ w'.cell? ⟨B, 1, none⟩ = some (.int .i64 b) /\ w'.cell? ⟨B, 2, none⟩ = some (.int .i64 c) /\ w'.cell? ⟨C, 0, none⟩ = some (.int .i64 x) /\ w'.cell? ⟨C, 1, none⟩ = some (.int .i64 y) /\ w'.cell? ⟨C, 2, none⟩ = some (.int .i64 z)) ((refine ⟨?_, ?_, ?_, ?_, ?_, ?_⟩) <;> (simp [*, go_sem]; done))
   (first | (go_at_call 96; refine (zCB _ _ _).mono ?_; rintro e w' ⟨rfl, rfl⟩))
  rename_i gH1
  clear gH1
  go_wp2_with fail
  rw [rounds_succ]
  go_wp2_with fail
  go_region_held3 (fun w' => w'.cell? ⟨B, 0, none⟩ = some (.int .i64 a) /\ w'.cell? ⟨B, 1, none⟩ = some (.int .i64 b) /\ w'.cell? ⟨B, 2, none⟩ = some (.int .i64 c) /\ w'.cell? ⟨C, 0, none⟩ = some (.int .i64 x) /\ w'.cell? ⟨C, 1, none⟩ = some (.int .i64 y) /\ w'.cell? ⟨C, 2, none⟩ = some (.int .i64 z)) ((refine ⟨?_, ?_, ?_, ?_, ?_, ?_⟩) <;> (simp [*, go_sem]; done))
   (first | (go_at_call 96; refine (zCB _ _ _).mono ?_; rintro e w' ⟨rfl, rfl⟩))
  rename_i gH1
  clear gH1
  go_wp2_with fail
  rw [rounds_succ]
  go_wp2_with fail
  go_region_held3 (fun w' => w'.cell? ⟨B, 0, none⟩ = some (.int .i64 a) /\ w'.cell? ⟨B, 1, none⟩ = some (.int .i64 b) /\ w'.cell? ⟨B, 2, none⟩ = some (.int .i64 c) /\ w'.cell? ⟨C, 0, none⟩ = some (.int .i64 x) /\ w'.cell? ⟨C, 1, none⟩ = some (.int .i64 y) /\ w'.cell? ⟨C, 2, none⟩ = some (.int .i64 z)) ((refine ⟨?_, ?_, ?_, ?_, ?_, ?_⟩) <;> (simp [*, go_sem]; done))
   (first | (go_at_call 96; refine (zCB _ _ _).mono ?_; rintro e w' ⟨rfl, rfl⟩))
  rename_i gH1
  clear gH1
  go_wp2_with fail
  rw [rounds_succ]
  go_wp2_with fail
  refine (zDp _ _ _ _).mono ?_
  rintro e w1 ⟨rfl, hb⟩
  have hb' : Below wc.heap.size wc w1 := (((((Below.refl wc.heap.size wc).alloc (Nat.le_refl _) _).drew).drew).drew).trans (hb.mono (by simp))
  have r0 := (hb'.cell (p := ⟨w.heap.size + 1 + 1, 0, none⟩) hRl).trans hR0
  have r1 := (hb'.cell (p := ⟨w.heap.size + 1 + 1, 1, none⟩) hRl).trans hR1
  have r2 := (hb'.cell (p := ⟨w.heap.size + 1 + 1, 2, none⟩) hRl).trans hR2
  have f0 := (hb'.frozen (p := ⟨w.heap.size + 1 + 1, 0, none⟩) hRl).trans hf0
  have f1 := (hb'.frozen (p := ⟨w.heap.size + 1 + 1, 1, none⟩) hRl).trans hf1
  have f2 := (hb'.frozen (p := ⟨w.heap.size + 1 + 1, 2, none⟩) hRl).trans hf2
  have hz : Below w.heap.size w w1 := hbel.trans (hb'.mono hbel.size)
  clear hb hb' hR0 hR1 hR2 hf0 hf1 hf2
  go_wp2_with fail
  exact bodyPost_ret (v := .agg #[.int .i64 (addI a x), .int .i64 (addI b y), .int .i64 (addI c z)]) (by simp [results, Tryz.results95, go_sem, r0, r1, r2]) rfl ⟨rfl, ((hz.setCell (by simp; omega) _).setCell (by simp; omega) _).setCell (by simp; omega) _⟩
theorem zH9 (a b c x y z : Int) (w : World) : Calls Tryz.prog 95 #[.func (.func 210) #[] #[], .agg #[.int .i64 a, .int .i64 b, .int .i64 c], .agg #[.int .i64 x, .int .i64 y, .int .i64 z]] w fun e w' => e = .returned (.agg #[.int .i64 (subI a x), .int .i64 (subI b y), .int .i64 (subI c z)]) /\ Below w.heap.size w w' := by
 go_enter Tryz.func95, Tryz.ntmps95
 go_upto_region 1 with fail
 go_cut [7, 8] (fun p q wx => ∃ B C : Nat, p = .pointer (some ⟨B, 0, none⟩) /\ q = .pointer (some ⟨C, 0, none⟩) /\ w.heap.size + 1 + 1 < B /\ w.heap.size + 1 + 1 < C /\ B < wx.heap.size /\ C < wx.heap.size /\ Holds3 wx B a b c /\ Holds3 wx C x y z /\ Holds3 wx (w.heap.size + 1 + 1) 0 0 0 /\ wx.frozen? ⟨w.heap.size + 1 + 1, 0, none⟩ = false /\ wx.frozen? ⟨w.heap.size + 1 + 1, 1, none⟩ = false /\ wx.frozen? ⟨w.heap.size + 1 + 1, 2, none⟩ = false /\ Below w.heap.size w wx)
 case first =>
  go_region_held3 (fun w' => w'.cell? ⟨w.heap.size, 0, none⟩ = some (.int .i64 a) /\ w'.cell? ⟨w.heap.size, 1, none⟩ = some (.int .i64 b) /\ w'.cell? ⟨w.heap.size, 2, none⟩ = some (.int .i64 c) /\ w'.cell? ⟨w.heap.size + 1, 0, none⟩ = some (.int .i64 x) /\ w'.cell? ⟨w.heap.size + 1, 1, none⟩ = some (.int .i64 y) /\ w'.cell? ⟨w.heap.size + 1, 2, none⟩ = some (.int .i64 z)) ((refine ⟨?_, ?_, ?_, ?_, ?_, ?_⟩) <;> (simp [go_sem]; done))
   (first | (go_at_call 112; refine (zCq _ _ _ _).mono ?_; rintro e w' ⟨rfl, rfl⟩))
  all_goals
   go_wp2_with fail
   go_meet
   refine ⟨_, _, rfl, rfl, ?_, ?_, ?_, ?_, ⟨?_, ?_, ?_⟩, ⟨?_, ?_, ?_⟩, ⟨?_, ?_, ?_⟩, ?_, ?_, ?_, ?_⟩
   all_goals first | omega | (simp [go_sem]; done) | (simp [go_sem]; omega) | go_grown
 case rest =>
  obtain ⟨B, C, rfl, rfl, hB, hC, hBl, hCl, ⟨hB0, hB1, hB2⟩, ⟨hC0, hC1, hC2⟩, ⟨hR0, hR1, hR2⟩, hf0, hf1, hf2, hbel⟩ := hcut
  have hRl : w.heap.size + 1 + 1 < wc.heap.size := by omega
  go_wp2_with fail
  refine wp_loop_rounds 4 ?_
  rw [rounds_succ]
  go_wp2_with fail
  go_region_held3 (fun w' => w'.cell? ⟨B, 0, none⟩ = some (.int .i64 a) /\ w'.cell? ⟨B, 1, none⟩ = some (.int .i64 b) /\ w'.cell? ⟨B, 2, none⟩ = some (.int .i64 c) /\ w'.cell? ⟨C, 0, none⟩ = some (.int .i64 x) /\ w'.cell? ⟨C, 1, none⟩ = some (.int .i64 y) /\ w'.cell? ⟨C, 2, none⟩ = some (.int .i64 z)) ((refine ⟨?_, ?_, ?_, ?_, ?_, ?_⟩) <;> (simp [*, go_sem]; done))
   (first | (go_at_call 210; refine (zBf _ _ _).mono ?_; rintro e w' ⟨rfl, rfl⟩))
  rename_i gH1
  clear gH1
  go_wp2_with fail
  rw [rounds_succ]
  go_wp2_with fail
  go_region_held3 (fun w' => w'.cell? ⟨B, 0, none⟩ = some (.int .i64 a) /\ w'.cell? ⟨B, 1, none⟩ = some (.int .i64 b) /\ w'.cell? ⟨B, 2, none⟩ = some (.int .i64 c) /\ w'.cell? ⟨C, 0, none⟩ = some (.int .i64 x) /\ w'.cell? ⟨C, 1, none⟩ = some (.int .i64 y) /\ w'.cell? ⟨C, 2, none⟩ = some (.int .i64 z)) ((refine ⟨?_, ?_, ?_, ?_, ?_, ?_⟩) <;> (simp [*, go_sem]; done))
   (first | (go_at_call 210; refine (zBf _ _ _).mono ?_; rintro e w' ⟨rfl, rfl⟩))
  rename_i gH1
  clear gH1
  go_wp2_with fail
  rw [rounds_succ]
  go_wp2_with fail
  go_region_held3 (fun w' => w'.cell? ⟨B, 0, none⟩ = some (.int .i64 a) /\ w'.cell? ⟨B, 1, none⟩ = some (.int .i64 b) /\ w'.cell? ⟨B, 2, none⟩ = some (.int .i64 c) /\ w'.cell? ⟨C, 0, none⟩ = some (.int .i64 x) /\ w'.cell? ⟨C, 1, none⟩ = some (.int .i64 y) /\ w'.cell? ⟨C, 2, none⟩ = some (.int .i64 z)) ((refine ⟨?_, ?_, ?_, ?_, ?_, ?_⟩) <;> (simp [*, go_sem]; done))
   (first | (go_at_call 210; refine (zBf _ _ _).mono ?_; rintro e w' ⟨rfl, rfl⟩))
  rename_i gH1
  clear gH1
  go_wp2_with fail
  rw [rounds_succ]
  go_wp2_with fail
  refine (zDp _ _ _ _).mono ?_
  rintro e w1 ⟨rfl, hb⟩
  have hb' : Below wc.heap.size wc w1 := (((((Below.refl wc.heap.size wc).alloc (Nat.le_refl _) _).drew).drew).drew).trans (hb.mono (by simp))
  have r0 := (hb'.cell (p := ⟨w.heap.size + 1 + 1, 0, none⟩) hRl).trans hR0
  have r1 := (hb'.cell (p := ⟨w.heap.size + 1 + 1, 1, none⟩) hRl).trans hR1
  have r2 := (hb'.cell (p := ⟨w.heap.size + 1 + 1, 2, none⟩) hRl).trans hR2
  have f0 := (hb'.frozen (p := ⟨w.heap.size + 1 + 1, 0, none⟩) hRl).trans hf0
  have f1 := (hb'.frozen (p := ⟨w.heap.size + 1 + 1, 1, none⟩) hRl).trans hf1
  have f2 := (hb'.frozen (p := ⟨w.heap.size + 1 + 1, 2, none⟩) hRl).trans hf2
  have hz : Below w.heap.size w w1 := hbel.trans (hb'.mono hbel.size)
  clear hb hb' hR0 hR1 hR2 hf0 hf1 hf2
  go_wp2_with fail
  exact bodyPost_ret (v := .agg #[.int .i64 (subI a x), .int .i64 (subI b y), .int .i64 (subI c z)]) (by simp [results, Tryz.results95, go_sem, r0, r1, r2]) rfl ⟨rfl, ((hz.setCell (by simp; omega) _).setCell (by simp; omega) _).setCell (by simp; omega) _⟩
end Go.Proofs.YtnffafjamiffnaaGreat
namespace Go.Proofs.YtnffafjamiffnaaGreat
open Go.RowKit Go.Shelf
def BoxT (u : World) (D : Nat) (x : Tnt) : Prop :=
 D < u.heap.size /\ (u.cell? ⟨D, 0, none⟩ = some (.string x.1) /\ u.cell? ⟨D, 1, none⟩ = some (.string x.2.1) /\ u.cell? ⟨D, 2, none⟩ = some (.int .i64 x.2.2)) /\ u.frozen? ⟨D, 0, none⟩ = false /\ u.frozen? ⟨D, 1, none⟩ = false /\ u.frozen? ⟨D, 2, none⟩ = false
theorem BoxT.on {u u' : World} {D : Nat} {x : Tnt} (h : BoxT u D x) (hb : Below u.heap.size u u') : BoxT u' D x := by
 obtain ⟨hB, ⟨h0, h1, h2⟩, f0, f1, f2⟩ := h
 exact ⟨Nat.lt_of_lt_of_le hB hb.size, ⟨(hb.cell hB).trans h0, (hb.cell hB).trans h1, (hb.cell hB).trans h2⟩, (hb.frozen hB).trans f0, (hb.frozen hB).trans f1, (hb.frozen hB).trans f2⟩
theorem BoxT.new (u : World) (t : TypeId) (x : Tnt) : BoxT (u.alloc (.cells #[.string x.1, .string x.2.1, .int .i64 x.2.2] t)) u.heap.size x :=
 ⟨by simp, ⟨by simp [go_sem], by simp [go_sem], by simp [go_sem]⟩, by simp [go_sem], by simp [go_sem], by simp [go_sem]⟩
theorem enters41 : ∀ args w, (callFunc 241 args).run Tryz.prog w = .ok (.enter 241 args) w := enters_of Tryz.func241 (by kernel_rfl) rfl
theorem enters37 : ∀ args w, (callFunc 225 args).run Tryz.prog w = .ok (.enter 225 args) w := enters_of Tryz.func225 (by kernel_rfl) rfl
theorem bornePred (t : Tnt) (D : Nat) (w : World) (hD : BoxT w D t) : PredB 241 #[.pointer (some ⟨D, 0, none⟩)] (fun b => bearsB b t) w := fun W x hb => by
 obtain ⟨hDl, ⟨c0, c1, c2⟩, _⟩ := hD
 have d0 := (hb.cell (p := ⟨D, 0, none⟩) hDl).trans c0
 have d1 := (hb.cell (p := ⟨D, 1, none⟩) hDl).trans c1
 have d2 := (hb.cell (p := ⟨D, 2, none⟩) hDl).trans c2
 have hDW : D < W.heap.size := by have := hb.size; omega
 have hne : D ≠ W.heap.size := by omega
 have HB := zG1 x.1 x.2.1 x.2.2.1 x.2.2.2 t.1 t.2.1 t.2.2
 show Calls Tryz.prog 241 #[.agg #[.string x.1, .string x.2.1, .bool x.2.2.1, .int .i64 x.2.2.2], .pointer (some ⟨D, 0, none⟩)] W fun e w' => e = .returned (.bool (bearsB x t)) /\ Below W.heap.size W w'
 change ∀ w, Calls Tryz.prog 242 _ w fun e w' => e = .returned (.bool (bearsB x t)) /\ Below w.heap.size w w' at HB
 generalize bearsB x t = r at HB |-
 clear c0 c1 c2
 go_enter Tryz.func241, Tryz.ntmps241
 go_wp2_with fail
 refine (HB _).mono ?_
 rintro e w1 ⟨rfl, hb1⟩
 go_wp2_with fail
 go_ret
 exact ⟨rfl, on2 (by go_grown) hb1⟩
theorem zGL (t : Tnt) (a : Option Addr) (cap : Nat) (L : List Bear) (w : World) (hL : Hid (BearsAt w a L)) : Calls Tryz.prog 226 #[.agg #[.string t.1, .string t.2.1, .int .i64 t.2.2], .slice a L.length cap] w fun e w' => e = .returned (.bool (borneB L t)) /\ Below w.heap.size w w' := by
 have hb0 : Below w.heap.size w (w.alloc (.cells #[.string t.1, .string t.2.1, .int .i64 t.2.2] 156)) := by go_grown
 have hC := zCe a cap L (w.alloc (.cells #[.string t.1, .string t.2.1, .int .i64 t.2.2] 156)) (hL.out.on hb0) (fun b => bearsB b t) 241 #[.pointer (some ⟨w.heap.size, 0, none⟩)] enters41 (bornePred t w.heap.size _ (BoxT.new w _ t))
 change Calls Tryz.prog _ _ _ fun e w' => e = .returned (.bool (borneB L t)) /\ _ at hC
 generalize borneB L t = r at hC |-
 go_enter Tryz.func226, Tryz.ntmps226
 go_wp2_with fail
 refine hC.mono ?_
 rintro e w1 ⟨rfl, hb1⟩
 go_wp2_with fail
 go_ret
 exact ⟨rfl, on2 hb0 hb1⟩
theorem zGN (e : Int) (a : Option Addr) (cap : Nat) (L : List Bear) (D E : Nat) (w : World) (hD : D < w.heap.size) (hE : E < w.heap.size) (cD : w.cell? ⟨D, 0, none⟩ = some (.int .i64 e)) (cE : w.cell? ⟨E, 0, none⟩ = some (.slice a L.length cap)) (hL : BearsAt w a L) :
  PredT 225 #[.pointer (some ⟨D, 0, none⟩), .pointer (some ⟨E, 0, none⟩)] (openT e L) w := fun W x hb => by
 have d0 := (hb.cell (p := ⟨D, 0, none⟩) hD).trans cD
 have d1 := (hb.cell (p := ⟨E, 0, none⟩) hE).trans cE
 have hDW : D < W.heap.size := by have := hb.size; omega
 have hEW : E < W.heap.size := by have := hb.size; omega
 have hne : D ≠ W.heap.size := by omega
 have hne' : E ≠ W.heap.size := by omega
 have hb0 : Below W.heap.size W (W.alloc (.cells #[.string x.1, .string x.2.1, .int .i64 x.2.2] 156)) := by go_grown
 have HB := zGL x a cap L (W.alloc (.cells #[.string x.1, .string x.2.1, .int .i64 x.2.2] 156)) (hL.on (hb.trans (hb0.mono hb.size)))
 show Calls Tryz.prog 225 #[.agg #[.string x.1, .string x.2.1, .int .i64 x.2.2], .pointer (some ⟨D, 0, none⟩), .pointer (some ⟨E, 0, none⟩)] W fun r w' => r = .returned (.bool ((x.2.2 == e) && !borneB L x)) /\ Below W.heap.size W w'
 generalize borneB L x = r at HB |-
 clear cD cE
 cases hq : (x.2.2 == e)
 ·go_enter Tryz.func225, Tryz.ntmps225
  go_wp2_with fail
  go_ret
  exact ⟨rfl, hb0⟩
 ·go_enter Tryz.func225, Tryz.ntmps225
  go_wp2_with fail
  refine HB.mono ?_
  rintro e w1 ⟨rfl, hb1⟩
  go_wp2_with fail
  go_ret
  exact ⟨rfl, on2 hb0 hb1⟩
theorem zEH (e : Int) (a : Option Addr) (cap : Nat) (L : List Bear) (w : World) (hL : Hid (BearsAt w a L)) : Calls Tryz.prog 212 #[.int .i64 e, .slice a L.length cap] w fun r w' => ∃ lb, r = .returned (.func (.func 225) #[] lb) /\ PredT 225 lb (openT e L) w' /\ Below w.heap.size w w' := by
 have hb0 : Below w.heap.size w ((w.alloc (.cells #[.int .i64 e] 3)).alloc (.cells #[.slice a L.length cap] 42)) := by go_grown
 have HP := zGN e a cap L w.heap.size (w.heap.size + 1) ((w.alloc (.cells #[.int .i64 e] 3)).alloc (.cells #[.slice a L.length cap] 42)) (by simp; omega) (by simp) (by simp [go_sem]) (by simp [go_sem]) (hL.out.on hb0)
 have HP' : Hid (PredT 225 #[.pointer (some ⟨w.heap.size, 0, none⟩), .pointer (some ⟨w.heap.size + 1, 0, none⟩)] (openT e L) ((w.alloc (.cells #[.int .i64 e] 3)).alloc (.cells #[.slice a L.length cap] 42))) := HP
 clear HP
 go_enter Tryz.func212, Tryz.ntmps212
 go_wp2_with fail
 go_ret
 exact ⟨_, rfl, HP'.out, hb0⟩
end Go.Proofs.YtnffafjamiffnaaGreat
