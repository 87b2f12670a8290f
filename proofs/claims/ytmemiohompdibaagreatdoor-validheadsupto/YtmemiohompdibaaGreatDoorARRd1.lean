/-
 What the document's own cursor reads, over lists of bytes; what stands while the document's own InsRead reads.
-/
import Derived.Test.YtmemiohompdibaaGreatDoorAInsR5
import Derived.Test.YtmemiohompdibaaGreatDoorAGRef
import Derived.WalkSmall
import Derived.OneCell
namespace Go.Proofs.YtmemiohompdibaaGreatDoor
set_option linter.unusedVariables false
open Go.RowKit
theorem XS.under {w w' : World} {X : Nat} {c0 c1 c2 c3 : Value} (h : XS w X c0 c1 c2 c3) (b : Below w.heap.size w w') : XS w' X c0 c1 c2 c3 := by
 have hl := h.lt
 unfold XS at h ⊢
 rw [b.block X hl, h]
section
variable {w wr w' : World} {R P X I : Nat} {F : ByteArray} {pos : Nat} {op n A B : Int} {o : Option Addr} {cap : Nat} {To l : List Int} {a : Int}
end
end Go.Proofs.YtmemiohompdibaaGreatDoor
