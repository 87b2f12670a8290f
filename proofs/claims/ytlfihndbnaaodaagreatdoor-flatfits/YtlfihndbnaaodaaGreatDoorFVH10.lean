/-
 The document's own ValidHead.
-/
import Derived.Test.YtlfihndbnaaodaaGreatDoorFVC
import Derived.Laws.ResultCell
namespace Go.Proofs.YtlfihndbnaaodaaGreatDoor
open Go.RowKit
set_option linter.unusedVariables false
theorem cell_at {w : World} {P : Nat} {cs : Array Value} {t : TypeId} {fr : Nat × Nat} (h : w.heap[P]? = some (.cells cs t fr)) (i : Nat) {v : Value} (hv : cs[i]? = some v) : w.cell? ⟨P, i, none⟩ = some v := by
 simp only [World.cell?, h]
 exact hv
end Go.Proofs.YtlfihndbnaaodaaGreatDoor
