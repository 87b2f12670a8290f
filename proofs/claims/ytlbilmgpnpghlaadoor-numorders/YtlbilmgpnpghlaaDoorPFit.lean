/-
  What the program's own Fit does.
-/
import Derived.Test.YtlbilmgpnpghlaaDoorPOne
namespace Go.Proofs.YtlbilmgpnpghlaaDoor
open Go.RowKit

set_option maxHeartbeats 1000000 in
set_option maxRecDepth 1000000 in
theorem pfit_32 (a : Int) (w : World) :
    Calls Tryd.prog 7 #[.int .u8 127, .int .i64 a] w fun e w' => e = .returned (.int .i64 (wrap32 a)) ∧ w' = w := by
  go_enter Tryd.func7, Tryd.ntmps7
  go_wp2
  go_ret
  exact ri (w64_w32 a)
set_option maxHeartbeats 1000000 in
set_option maxRecDepth 1000000 in
theorem pfit_else (k a : Int) (_h : (k == 127) = false) (w : World) :
    Calls Tryd.prog 7 #[.int .u8 k, .int .i64 a] w fun e w' => e = .returned (.int .i64 a) ∧ w' = w := by
  go_enter Tryd.func7, Tryd.ntmps7
  go_wp2
  go_ret
  exact ⟨rfl, rfl⟩
end Go.Proofs.YtlbilmgpnpghlaaDoor
