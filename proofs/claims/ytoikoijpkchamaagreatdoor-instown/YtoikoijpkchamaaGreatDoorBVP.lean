/-
 Going through a body while what is known is kept.
-/
import Derived.Test.YtoikoijpkchamaaGreatDoorBVL
import Derived.Test.YtoikoijpkchamaaGreatDoorBVM
import Derived.Laws.AppendOwn
import Derived.Laws.AppendOwnNone
import Derived.Laws.OwnMore
import Derived.Test.YtoikoijpkchamaaGreatDoorBQT
import Derived.Test.YtoikoijpkchamaaGreatDoorBQM
import Derived.WalkLawsBesides
import Derived.Laws.CopyOwn
import Derived.OwnWalk
import Derived.Deep.Upon
import Derived.WalkSpells
namespace Go.Proofs.YtoikoijpkchamaaGreatDoor
open Go.RowKit
set_option linter.unusedVariables false
structure ShpD where
 dead : Bool
 k : NumD
section
variable {N P : Nat} {m : ModD} {L : NumD} {T : TrkV} {D : List ShpD} {os : Option Addr} {cs : Nat} {w w' : World} {so : Option Addr} {sc : Nat} {oo : Option Addr} {oc : Nat} {ops : List BlkD}
end
end Go.Proofs.YtoikoijpkchamaaGreatDoor
