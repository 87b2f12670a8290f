/-
 What the texts of a module's parts are.
-/
import Derived.Test.YtgleeocebnjliaaGreatDoorBQG
import Derived.Test.YtgleeocebnjliaaGreatDoorBNRow
import Derived.Lib.Builder
import Derived.Lib.AppendStr
import Derived.WalkKit
import Derived.Laws.Externs
import Derived.Laws.Concat
import Derived.Deep.RegionHeld3
namespace Go.Proofs.YtgleeocebnjliaaGreatDoor
set_option linter.unusedVariables false
open Go.RowKit
theorem bch {N : Nat} {w w' : World} (h : Below N w w' := by repeat' (first | with_reducible exact Below.refl _ _ | with_reducible exact Hid.out (by assumption) | with_reducible refine Below.drew ?_ | with_reducible refine Below.alloc ?_ ?_ _ | (simp only [World.size_alloc, World.size_drew]; omega) | omega)) : Below N w w' := h
theorem bcl {a b : Nat} (h : a ≤ b := by first | (simp only [World.size_alloc, World.size_drew]; omega) | omega) : a ≤ b := h
end Go.Proofs.YtgleeocebnjliaaGreatDoor
