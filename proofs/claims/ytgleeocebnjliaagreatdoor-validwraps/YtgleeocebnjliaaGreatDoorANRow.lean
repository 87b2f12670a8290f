/-
 A list of instructions that a call itself makes.
-/
import Derived.Test.YtgleeocebnjliaaGreatDoorAGNst
import Derived.Test.YtgleeocebnjliaaGreatDoorAGVal
namespace Go.Proofs.YtgleeocebnjliaaGreatDoor
set_option linter.unusedVariables false
open Go.RowKit
def InsD.cells (d : InsD) : List Value := [.int .u8 d.op, .int .i64 d.A, .int .i64 d.B, .slice d.o d.n d.cap]
def cellsOf (L : List InsD) : List Value := L.flatMap InsD.cells
theorem some_lt {w : World} {j : Nat} {x : Obj} (h : w.heap[j]? = some x) : j < w.heap.size := (Array.getElem?_eq_some_iff.1 h).1
end Go.Proofs.YtgleeocebnjliaaGreatDoor
