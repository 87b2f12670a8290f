/-
 The reader of modules: bytes, numbers, kinds, places.
-/
import Derived.Test.YtakpkdckajjooaaGreatDoorWQM
import Derived.Test.YtakpkdckajjooaaGreatDoorWNQ
import Derived.WalkLawsBesides
namespace Go.Proofs.YtakpkdckajjooaaGreatDoor
set_option linter.unusedVariables false
open Go.RowKit
theorem str_ne' (t : ByteArray) (h : 0 < t.size) : t.toList.isEmpty = false := by
 rw [Lib.toList_data]
 cases e : t.data.toList with
 | nil =>
  have := congrArg List.length e
  rw [Array.length_toList] at this
  exact absurd this (Nat.ne_of_gt h)
 | cons x xs => rfl
end Go.Proofs.YtakpkdckajjooaaGreatDoor
