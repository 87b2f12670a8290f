/-
 What the document's own cursor reads, over lists of bytes; what stands while the document's own InsRead reads.
-/
import Derived.Test.YtlfihndbnaaodaaGreatDoorFInsR5
import Derived.Test.YtlfihndbnaaodaaGreatDoorFGRef
import Derived.WalkSmall
import Derived.OneCell
namespace Go.Proofs.YtlfihndbnaaodaaGreatDoor
set_option linter.unusedVariables false
open Go.RowKit
theorem Chg.drew {P : Nat} {w w' : World} (c : Chg P w w') : Chg P w w'.drew := ⟨c.os, c.tape, c.output, c.size, c.block⟩
section
variable {w wr w' : World} {R P X I : Nat} {F : ByteArray} {pos : Nat} {op n A B : Int} {o : Option Addr} {cap : Nat} {To l : List Int} {a : Int}
end
end Go.Proofs.YtlfihndbnaaodaaGreatDoor
