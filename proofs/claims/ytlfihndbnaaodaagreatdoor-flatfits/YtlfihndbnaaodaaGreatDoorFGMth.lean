/-
 Plain mathematics of reading instructions: what is read is well, and no shorter than what is written. Plain mathematics of reading instructions: a beginning of what is written ends too early.
-/
import Derived.Test.YtlfihndbnaaodaaGreatDoorFGRd8
import Derived.Test.YtlfihndbnaaodaaGreatDoorFGWr
import Derived.Test.YtlfihndbnaaodaaGreatDoorFGLeb
namespace Go.Proofs.YtlfihndbnaaodaaGreatDoor
set_option linter.unusedVariables false
open Go.RowKit
theorem fstE_zero (e : Int) : fstE 0 e = e := by unfold fstE; rw [if_pos rfl]
theorem fstE_ne {a : Int} (h : a ≠ 0) (e : Int) : fstE a e = a := by unfold fstE; rw [if_neg h]
end Go.Proofs.YtlfihndbnaaodaaGreatDoor
namespace Go.Proofs.YtlfihndbnaaodaaGreatDoor
open Go.RowKit
end Go.Proofs.YtlfihndbnaaodaaGreatDoor
