/-
  The reader of modules: its parts.
-/
import Derived.Test.YtakpkdckajjooabGreatDoorPBPart1
import Derived.Test.YtakpkdckajjooabGreatDoorPQM
import Derived.WalkLawsBesides
set_option maxHeartbeats 1000000
set_option maxRecDepth 1000000
namespace Go.Proofs.YtakpkdckajjooabGreatDoor
set_option linter.unusedVariables false
open Go.RowKit
theorem constOf_any (k : Int) (w : World) : Calls Tryz.prog 68 #[.int .u8 k] w fun r w' => r = .returned (.int .u8 (cst k)) ∧ w' = w := by
  unfold cst
  by_cases h : k = 126
  · subst h
    go_enter Tryz.func68, Tryz.ntmps68
    go_wp2
    go_ret
    exact ⟨rfl, rfl⟩
  · have hb : (k == 126) = false := by rw [beq_eq_false_iff_ne]; exact h
    rw [if_neg h]
    go_enter Tryz.func68, Tryz.ntmps68
    go_wp2
    go_ret
    exact ⟨rfl, rfl⟩
end Go.Proofs.YtakpkdckajjooabGreatDoor
