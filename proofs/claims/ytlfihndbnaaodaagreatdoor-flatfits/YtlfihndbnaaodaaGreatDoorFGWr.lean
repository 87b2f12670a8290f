/-
 What the program's own fits and Check say of what is well. What the program's own besideText and Write make of what is well.
-/
import Derived.Test.YtlfihndbnaaodaaGreatDoorFInsR5
import Derived.Test.YtlfihndbnaaodaaGreatDoorFGLeb
import Derived.Laws.Concat
import Derived.Deep.RegionWith
namespace Go.Proofs.YtlfihndbnaaodaaGreatDoor
set_option linter.unusedVariables false
open Go.RowKit
def LI (w : World) (o : Option Addr) (xs : List Int) : Prop := xs = [] ∨ ∃ g, o = some ⟨g, 0, none⟩ ∧ g < w.heap.size ∧ ∀ i, i < xs.length → w.cell? ⟨g, i, none⟩ = some (.int .i64 (xs.getD i 0))
end Go.Proofs.YtlfihndbnaaodaaGreatDoor
namespace Go.Proofs.YtlfihndbnaaodaaGreatDoor
open Go.RowKit
theorem isKB_range {A : Int} (h : isKB A = true) : 0 ≤ A ∧ A ≤ 255 := by
 unfold isKB at h
 simp only [Bool.or_eq_true, beq_iff_eq] at h
 omega
end Go.Proofs.YtlfihndbnaaodaaGreatDoor
