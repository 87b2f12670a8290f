/-
 What the texts of a module's parts are.
 BinChecks: what the program's Check says of a module is what the document's own BinCheck says.
-/
import Derived.Test.YtlfihndbnaaodaaGreatDoorIQG
import Derived.Test.YtlfihndbnaaodaaGreatDoorIQS
import Derived.Lib.Builder
import Derived.Lib.AppendStr
import Derived.WalkKit
import Derived.Laws.Externs
import Derived.Laws.Concat
import Derived.Deep.RegionHeld3
import Derived.Test.YtlfihndbnaaodaaGreatDoorIQT
import Derived.Test.YtlfihndbnaaodaaGreatDoorIQB
import Derived.Lib.ValidLaws
import Derived.Lib.TrimUEq
import Derived.Lib.MapLaws
import Derived.Deep.LoopGhost
import Derived.Lib.ValidAsc
import Derived.Test.YtlfihndbnaaodaaGreatDoorIGRef
import Derived.Test.YtlfihndbnaaodaaGreatDoorIQO
import Derived.Test.YtlfihndbnaaodaaGreatDoorRows
import Derived.Test.YtlfihndbnaaodaaGreatDoorIRMat
import Derived.Deep.AppendLies
namespace Go.Proofs.YtlfihndbnaaodaaGreatDoor
set_option linter.unusedVariables false
open Go.RowKit
theorem bch {N : Nat} {w w' : World} (h : Below N w w' := by repeat' (first | with_reducible exact Below.refl _ _ | with_reducible exact Hid.out (by assumption) | with_reducible refine Below.drew ?_ | with_reducible refine Below.alloc ?_ ?_ _ | (simp only [World.size_alloc, World.size_drew]; omega) | omega)) : Below N w w' := h
theorem bcl {a b : Nat} (h : a ≤ b := by first | (simp only [World.size_alloc, World.size_drew]; omega) | omega) : a ≤ b := h
end Go.Proofs.YtlfihndbnaaodaaGreatDoor
namespace Go.Proofs.YtlfihndbnaaodaaGreatDoor
set_option linter.unusedVariables false
open Go.RowKit
theorem cells11 {w w' : World} {c0 c1 c2 c3 c4 c5 c6 c7 c8 c9 c10 : Value} {t : TypeId} (h : Below (w.heap.size + 1) (w.alloc (.cells #[c0, c1, c2, c3, c4, c5, c6, c7, c8, c9, c10] t)) w') : w'.cell? ⟨w.heap.size, 0, none⟩ = some c0 ∧ w'.cell? ⟨w.heap.size, 1, none⟩ = some c1 ∧ w'.cell? ⟨w.heap.size, 2, none⟩ = some c2 ∧ w'.cell? ⟨w.heap.size, 3, none⟩ = some c3 ∧ w'.cell? ⟨w.heap.size, 4, none⟩ = some c4 ∧ w'.cell? ⟨w.heap.size, 5, none⟩ = some c5 ∧ w'.cell? ⟨w.heap.size, 6, none⟩ = some c6 ∧ w'.cell? ⟨w.heap.size, 7, none⟩ = some c7 ∧ w'.cell? ⟨w.heap.size, 8, none⟩ = some c8 ∧ w'.cell? ⟨w.heap.size, 9, none⟩ = some c9 ∧ w'.cell? ⟨w.heap.size, 10, none⟩ = some c10 := by
 have := (h.block w.heap.size (Nat.lt_succ_self _)).trans (heap_alloc_new w _)
 simp [World.cell?, this]
end Go.Proofs.YtlfihndbnaaodaaGreatDoor
