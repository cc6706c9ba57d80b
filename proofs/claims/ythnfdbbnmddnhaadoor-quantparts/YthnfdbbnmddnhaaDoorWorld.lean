/- A world in which the three listed tables hold what the program's text lays: the witness that the rows' form asks for. No condition. -/
import Derived.Test.YthnfdbbnmddnhaaDoorBase
namespace Go.Proofs.YthnfdbbnmddnhaaDoor
open Go.RowKit

def cellsOfTab (k : IntKind) (zs : List Int) : Array Value := (zs.map fun z => Value.int k z).toArray
def bruijn32 : List Int := [0, 1, 28, 2, 29, 14, 24, 3, 30, 22, 20, 15, 25, 17, 4, 8, 31, 27, 13, 23, 21, 19, 16, 7, 26, 12, 18, 6, 11, 5, 10, 9]
def bruijn64 : List Int := [0, 1, 56, 2, 57, 49, 28, 3, 61, 58, 42, 50, 38, 29, 17, 4, 62, 47, 59, 36, 45, 43, 51, 22, 53, 39, 33, 30, 24, 18, 12, 5, 63, 55, 48, 27, 60, 41, 37, 16, 46, 35, 44, 21, 52, 32, 23, 11, 54, 26, 40, 15, 34, 20, 31, 10, 25, 14, 19, 9, 13, 8, 7, 6]
def putCells (c : Array Value) : Obj → Obj
  | .cells _ t frozen => .cells c t frozen
  | o => o
/-- The world w with the three tables laid. -/
def layTabs (w : World) : World :=
  { w with heap := ((w.heap.modify 0 (putCells (cellsOfTab .u64 Lib.pow10Tab))).modify 1 (putCells (cellsOfTab .u8 bruijn32))).modify 2 (putCells (cellsOfTab .u8 bruijn64)) }
end Go.Proofs.YthnfdbbnmddnhaaDoor
