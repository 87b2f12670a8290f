/-
 What the program's own Read does. What the program's own Read does. What the program's own Read does, over lists of bytes.
-/
import Derived.Test.YtoikoijpkchamaaGreatDoorCInsR5
import Derived.Deep.RegionWith
import Derived.RegionTactic
import Derived.BigRegion
namespace Go.Proofs.YtoikoijpkchamaaGreatDoor
set_option linter.unusedVariables false
open Go.RowKit
theorem besV_range (op : Int) : 0 ≤ besV op ∧ besV op ≤ 9 := by
 unfold besV
 repeat' split
 all_goals omega
end Go.Proofs.YtoikoijpkchamaaGreatDoor
namespace Go.Proofs.YtoikoijpkchamaaGreatDoor
open Go.RowKit
end Go.Proofs.YtoikoijpkchamaaGreatDoor
namespace Go.Proofs.YtoikoijpkchamaaGreatDoor
open Go.RowKit
end Go.Proofs.YtoikoijpkchamaaGreatDoor
