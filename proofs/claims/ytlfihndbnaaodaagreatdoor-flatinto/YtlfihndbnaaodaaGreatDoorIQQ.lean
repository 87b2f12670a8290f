/-
 Plain mathematics of reading instructions: what is read is well, and no shorter than what is written. Plain mathematics of reading instructions: a beginning of what is written ends too early.
 What the document's own cursor reads, over lists of bytes; what stands while the document's own InsRead reads.
-/
import Derived.Test.YtlfihndbnaaodaaGreatDoorIGRd8
import Derived.Test.YtlfihndbnaaodaaGreatDoorIQZ
import Derived.Test.YtlfihndbnaaodaaGreatDoorIGLeb
import Derived.Test.YtlfihndbnaaodaaGreatDoorIGRef
import Derived.WalkSmall
import Derived.OneCell
namespace Go.Proofs.YtlfihndbnaaodaaGreatDoor
set_option linter.unusedVariables false
open Go.RowKit
theorem fstE_zero (e : Int) : fstE 0 e = e := by unfold fstE; rw [if_pos rfl]
theorem fstE_ne {a : Int} (h : a ≠ 0) (e : Int) : fstE a e = a := by unfold fstE; rw [if_neg h]
end Go.Proofs.YtlfihndbnaaodaaGreatDoor
namespace Go.Proofs.YtlfihndbnaaodaaGreatDoor
open Go.RowKit
end Go.Proofs.YtlfihndbnaaodaaGreatDoor
namespace Go.Proofs.YtlfihndbnaaodaaGreatDoor
set_option linter.unusedVariables false
open Go.RowKit
theorem Chg.drew {P : Nat} {w w' : World} (c : Chg P w w') : Chg P w w'.drew := ⟨c.os, c.tape, c.output, c.size, c.block⟩
theorem XS.under {w w' : World} {X : Nat} {c0 c1 c2 c3 : Value} (h : XS w X c0 c1 c2 c3) (b : Below w.heap.size w w') : XS w' X c0 c1 c2 c3 := by
 have hl := h.lt
 unfold XS at h ⊢
 rw [b.block X hl, h]
section
variable {w wr w' : World} {R P X I : Nat} {F : ByteArray} {pos : Nat} {op n A B : Int} {o : Option Addr} {cap : Nat} {To l : List Int} {a : Int}
end
end Go.Proofs.YtlfihndbnaaodaaGreatDoor
