/-
 The reader of modules: lists of whatever parts.
-/
import Derived.Test.YtgleeocebnjliaaGreatDoorBQX
import Derived.Deep.AppendLies
namespace Go.Proofs.YtgleeocebnjliaaGreatDoor
set_option linter.unusedVariables false
open Go.RowKit
theorem below_chg {N P : Nat} {w0 w w' : World} (b : Below N w0 w) (c : Chg P w w') (hNP : N ≤ P) (hNw : N ≤ w.heap.size) : Below N w0 w' := b.trans (c.below hNP hNw)
end Go.Proofs.YtgleeocebnjliaaGreatDoor
