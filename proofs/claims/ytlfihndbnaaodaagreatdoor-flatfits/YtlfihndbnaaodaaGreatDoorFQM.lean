/-
 The parts of a module as bytes: plain mathematics.
-/
import Derived.Test.YtlfihndbnaaodaaGreatDoorFQS
import Derived.Lib.Builder
import Derived.Lib.AppendStr
import Derived.WalkKit
import Derived.Laws.Externs
import Derived.Lib.ValidU
namespace Go.Proofs.YtlfihndbnaaodaaGreatDoor
set_option linter.unusedVariables false
open Go.RowKit
def isK (k : Int) : Bool := k == 127 || k == 126
def txt (l : List Int) : List UInt8 := l.map fun n => UInt8.ofNat n.toNat
def okName (s : List Int) : Bool := Lib.validD (txt s)
def tName (s : List Int) : List Int := uB s.length ++ s
end Go.Proofs.YtlfihndbnaaodaaGreatDoor
