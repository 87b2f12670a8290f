/-
  What the small methods of the document's own cursor do.
  What the methods of the document's own cursor do.
  What the document's own cursor reads: num and signed.
-/
import Derived.Test.YtkceplamaocmmaaDoorInsR5
import Derived.Test.YtkceplamaocmmaaDoorGRef
namespace Go.Proofs.YtkceplamaocmmaaDoor
open Go.RowKit

section
variable {w w' : World} {P : Nat} {s : ByteArray} {n e : Int}
end
end Go.Proofs.YtkceplamaocmmaaDoor
namespace Go.Proofs.YtkceplamaocmmaaDoor
open Go.RowKit

theorem fstE_bne {a e : Int} (h : e ≠ 0) : (fstE a e == 0) = false := by
  unfold fstE
  split
  · rw [beq_eq_false_iff_ne]; exact h
  · rw [beq_eq_false_iff_ne]; assumption
end Go.Proofs.YtkceplamaocmmaaDoor
namespace Go.Proofs.YtkceplamaocmmaaDoor
open Go.RowKit

end Go.Proofs.YtkceplamaocmmaaDoor
