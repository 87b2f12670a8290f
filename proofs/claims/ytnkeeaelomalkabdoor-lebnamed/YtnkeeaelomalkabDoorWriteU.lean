/-
  What U does: the number's bytes are handed back as a string, and nothing that was there has turned.
-/
import Derived.Test.YtnkeeaelomalkabDoorWrite
import Derived.Deep.QuietTactic
import Derived.BigQuiet
namespace Go.Proofs.YtnkeeaelomalkabDoor
open Go.RowKit

set_option maxHeartbeats 400000 in
theorem u_any (n : Nat) (hn : n ≤ 18446744073709551615) (w : World) :
    Calls Tryd.prog 7 #[.int .u64 n] w fun e w' => e = .returned (.string (strOfNums (uB n))) ∧ Below w.heap.size w w' := by
  go_enter Tryd.func7, Tryd.ntmps7
  go_wp2_with (go_at_call 11; refine (writeU_any n hn _).mono ?_; rintro e w' ⟨rfl, hb⟩)
  go_ret
  exact ⟨rfl, hb⟩
end Go.Proofs.YtnkeeaelomalkabDoor
