/-
 What the document's own cursor reads, over lists of bytes; what stands while the document's own InsRead reads.
-/
import Derived.Test.YtakpkdckajjooaaGreatDoorWQZ
import Derived.Test.YtakpkdckajjooaaGreatDoorWGRef
import Derived.WalkSmall
import Derived.OneCell
namespace Go.Proofs.YtakpkdckajjooaaGreatDoor
set_option linter.unusedVariables false
open Go.RowKit
theorem Chg.iterAt (I : Nat) (w : World) (F : ByteArray) (p : Nat) : Chg I w (w.iterAt I F p) :=
 ⟨rfl, rfl, rfl, Nat.le_of_eq (Lib.iterAt_size w I F p).symm, fun k _ hp => Lib.iterAt_other w I k F p hp⟩
theorem XS.under {w w' : World} {X : Nat} {c0 c1 c2 c3 : Value} (h : XS w X c0 c1 c2 c3) (b : Below w.heap.size w w') : XS w' X c0 c1 c2 c3 := by
 have hl := h.lt
 unfold XS at h ⊢
 rw [b.block X hl, h]
section
variable {w wr w' : World} {R P X I : Nat} {F : ByteArray} {pos : Nat} {op n A B : Int} {o : Option Addr} {cap : Nat} {To l : List Int} {a : Int}
end
end Go.Proofs.YtakpkdckajjooaaGreatDoor
