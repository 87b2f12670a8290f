/-
 Plain mathematics of reading instructions: what is read is well, and no shorter than what is written. Plain mathematics of reading instructions: a beginning of what is written ends too early.
-/
import Derived.Test.YtoikoijpkchamaaGreatDoorCGRd8
import Derived.Test.YtoikoijpkchamaaGreatDoorCGWr
import Derived.Test.YtoikoijpkchamaaGreatDoorCGLeb
namespace Go.Proofs.YtoikoijpkchamaaGreatDoor
set_option linter.unusedVariables false
open Go.RowKit
theorem fstE_zero (e : Int) : fstE 0 e = e := by unfold fstE; rw [if_pos rfl]
theorem fstE_ne {a : Int} (h : a ≠ 0) (e : Int) : fstE a e = a := by unfold fstE; rw [if_neg h]
end Go.Proofs.YtoikoijpkchamaaGreatDoor
namespace Go.Proofs.YtoikoijpkchamaaGreatDoor
open Go.RowKit
end Go.Proofs.YtoikoijpkchamaaGreatDoor
