/-
 A list of instructions that a call itself makes.
-/
import Derived.Test.YtoikoijpkchamaaGreatDoorCGNst
import Derived.Test.YtoikoijpkchamaaGreatDoorCGVal
namespace Go.Proofs.YtoikoijpkchamaaGreatDoor
set_option linter.unusedVariables false
open Go.RowKit
theorem some_lt {w : World} {j : Nat} {x : Obj} (h : w.heap[j]? = some x) : j < w.heap.size := (Array.getElem?_eq_some_iff.1 h).1
end Go.Proofs.YtoikoijpkchamaaGreatDoor
