/-
 Going through a body while what is known is kept.
-/
import Derived.Test.YtoikoijpkchamaaGreatDoorCVL
import Derived.Test.YtoikoijpkchamaaGreatDoorCVM
import Derived.Test.YtoikoijpkchamaaGreatDoorCQT
import Derived.Test.YtoikoijpkchamaaGreatDoorCQM
import Derived.WalkLawsBesides
import Derived.Laws.CopyOwn
import Derived.OwnWalk
import Derived.Deep.Upon
import Derived.WalkSpells
import Derived.Test.YtoikoijpkchamaaGreatDoorCVN
namespace Go.Proofs.YtoikoijpkchamaaGreatDoor
open Go.RowKit
set_option linter.unusedVariables false
structure ShpD where
 dead : Bool
 k : NumD
section
variable {N P : Nat} {m : ModD} {L : NumD} {T : TrkV} {D : List ShpD} {os : Option Addr} {cs : Nat} {w w' : World} {so : Option Addr} {sc : Nat} {oo : Option Addr} {oc : Nat} {ops : List BlkD}
end
end Go.Proofs.YtoikoijpkchamaaGreatDoor
