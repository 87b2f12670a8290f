/-
 The document's own way through a body, from block to block, and that it says what a nesting and a match say: plain mathematics. The document's own way through a body finds the match that the program finds: plain mathematics.
-/
import Derived.Test.YtgleeocebnjliaaGreatDoorBGMat
namespace Go.Proofs.YtgleeocebnjliaaGreatDoor
set_option linter.unusedVariables false
theorem nStep_bad (c op : Int) (bs : List Int) (en : Bool) (h : c ≠ 0) : nStep c op bs en = (c, bs, en) := by
 unfold nStep
 rw [if_pos h]
end Go.Proofs.YtgleeocebnjliaaGreatDoor
namespace Go.Proofs.YtgleeocebnjliaaGreatDoor
end Go.Proofs.YtgleeocebnjliaaGreatDoor
