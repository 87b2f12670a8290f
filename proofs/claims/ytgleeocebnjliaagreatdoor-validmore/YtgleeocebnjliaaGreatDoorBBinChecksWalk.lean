/-
 BinChecks: what the program's Check says of a module is what the document's own BinCheck says.
-/
import Derived.Test.YtgleeocebnjliaaGreatDoorBQG
import Derived.Test.YtgleeocebnjliaaGreatDoorBNRow
import Derived.Lib.Builder
import Derived.Lib.AppendStr
import Derived.WalkKit
import Derived.Laws.Externs
import Derived.Test.YtgleeocebnjliaaGreatDoorBBList
import Derived.Test.YtgleeocebnjliaaGreatDoorBQB
import Derived.Lib.ValidLaws
import Derived.Lib.TrimUEq
import Derived.Lib.MapLaws
import Derived.Deep.LoopGhost
import Derived.Lib.ValidAsc
import Derived.Test.YtgleeocebnjliaaGreatDoorBGRef
import Derived.Test.YtgleeocebnjliaaGreatDoorBQO
import Derived.Test.YtgleeocebnjliaaGreatDoorRows
import Derived.Test.YtgleeocebnjliaaGreatDoorBGSq
import Derived.Test.YtgleeocebnjliaaGreatDoorBRRd1
import Derived.Test.YtgleeocebnjliaaGreatDoorProg
import Derived.Below
import Derived.Shelf.Strings.Search3
import Derived.Shelf.LaysM
import Derived.Test.YtgleeocebnjliaaGreatDoorBGIns
import Derived.Test.YtgleeocebnjliaaGreatDoorBInsR5
import Derived.Deep.RegionLaw
import Derived.Deep.AppendLies
import Derived.Deep.RegionWith
import Derived.Test.YtgleeocebnjliaaGreatDoorBGMth
import Derived.Shelf.Strings.Cut
import Derived.Shelf.Strings.IndexAnyAll
import Derived.Test.YtgleeocebnjliaaGreatDoorBGVal
import Derived.Test.YtgleeocebnjliaaGreatDoorBGMat
import Derived.Test.YtgleeocebnjliaaGreatDoorBBW3
import Derived.Deep.RegionHeld3
namespace Go.Proofs.YtgleeocebnjliaaGreatDoor
set_option linter.unusedVariables false
open Go.RowKit
theorem cells11 {w w' : World} {c0 c1 c2 c3 c4 c5 c6 c7 c8 c9 c10 : Value} {t : TypeId} (h : Below (w.heap.size + 1) (w.alloc (.cells #[c0, c1, c2, c3, c4, c5, c6, c7, c8, c9, c10] t)) w') : w'.cell? ⟨w.heap.size, 0, none⟩ = some c0 ∧ w'.cell? ⟨w.heap.size, 1, none⟩ = some c1 ∧ w'.cell? ⟨w.heap.size, 2, none⟩ = some c2 ∧ w'.cell? ⟨w.heap.size, 3, none⟩ = some c3 ∧ w'.cell? ⟨w.heap.size, 4, none⟩ = some c4 ∧ w'.cell? ⟨w.heap.size, 5, none⟩ = some c5 ∧ w'.cell? ⟨w.heap.size, 6, none⟩ = some c6 ∧ w'.cell? ⟨w.heap.size, 7, none⟩ = some c7 ∧ w'.cell? ⟨w.heap.size, 8, none⟩ = some c8 ∧ w'.cell? ⟨w.heap.size, 9, none⟩ = some c9 ∧ w'.cell? ⟨w.heap.size, 10, none⟩ = some c10 := by
 have := (h.block w.heap.size (Nat.lt_succ_self _)).trans (heap_alloc_new w _)
 simp [World.cell?, this]
end Go.Proofs.YtgleeocebnjliaaGreatDoor
