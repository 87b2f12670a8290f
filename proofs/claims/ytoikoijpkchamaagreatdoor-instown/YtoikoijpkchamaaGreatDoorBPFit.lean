/-
 What the program's own Fit does.
-/
import Derived.Test.YtoikoijpkchamaaGreatDoorBGOne
set_option maxHeartbeats 1000000
set_option maxRecDepth 1000000
namespace Go.Proofs.YtoikoijpkchamaaGreatDoor
set_option linter.unusedVariables false
open Go.RowKit
theorem pfit_32 (a : Int) (w : World) :
  Calls Tryz.prog 159 #[.int .u8 127, .int .i64 a] w fun e w' => e = .returned (.int .i64 (wrap32 a)) ∧ w' = w := by
 go_enter Tryz.func159, Tryz.ntmps159
 go_wp2
 go_ret
 exact ri (w64_w32 a)
theorem pfit_else (k a : Int) (_h : (k == 127) = false) (w : World) :
  Calls Tryz.prog 159 #[.int .u8 k, .int .i64 a] w fun e w' => e = .returned (.int .i64 a) ∧ w' = w := by
 go_enter Tryz.func159, Tryz.ntmps159
 go_wp2
 go_ret
 exact ⟨rfl, rfl⟩
end Go.Proofs.YtoikoijpkchamaaGreatDoor
