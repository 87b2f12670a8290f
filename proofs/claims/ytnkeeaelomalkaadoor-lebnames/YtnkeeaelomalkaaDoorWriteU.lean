/-
  What U does: the number's bytes are handed back as a string, and nothing that was there has turned.
-/
import Derived.Test.YtnkeeaelomalkaaDoorWrite
import Derived.Deep.QuietTactic
import Derived.BigQuiet
namespace Go.Proofs.YtnkeeaelomalkaaDoor
open Go.RowKit

set_option maxHeartbeats 400000 in
theorem u_any (n : Nat) (hn : n ≤ 18446744073709551615) (w : World) :
    Calls Tryd.prog 9 #[.int .u64 n] w fun e w' => e = .returned (.string (strOfNums (uB n))) ∧ Below w.heap.size w w' := by
  go_enter Tryd.func9, Tryd.ntmps9
  go_wp2_with (go_at_call 16; refine (writeU_any n hn _).mono ?_; rintro e w' ⟨rfl, hb⟩)
  go_ret
  exact ⟨rfl, hb⟩
end Go.Proofs.YtnkeeaelomalkaaDoor
