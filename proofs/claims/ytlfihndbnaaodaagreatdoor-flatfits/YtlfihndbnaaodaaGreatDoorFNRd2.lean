/-
 What the program's own nest.Read does.
-/
import Derived.Test.YtlfihndbnaaodaaGreatDoorFQS
namespace Go.Proofs.YtlfihndbnaaodaaGreatDoor
set_option linter.unusedVariables false
open Go.RowKit
def fin (en : Bool) (V : List V4) (f : Nat) (l bs : List Int) (R : Int × List V4 × List Int) : Prop := if en = true then (0, V, l) = R else appR V (nRd f l bs) = R
end Go.Proofs.YtlfihndbnaaodaaGreatDoor
