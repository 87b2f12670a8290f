/-
 What the program's own fits and Check say of what is well. What the program's own besideText and Write make of what is well.
-/
import Derived.Test.YtmemiohompdibaaGreatDoorAInsR5
import Derived.Test.YtmemiohompdibaaGreatDoorAGLeb
import Derived.Laws.Concat
import Derived.Deep.RegionWith
namespace Go.Proofs.YtmemiohompdibaaGreatDoor
set_option linter.unusedVariables false
open Go.RowKit
def LI (w : World) (o : Option Addr) (xs : List Int) : Prop := xs = [] ∨ ∃ g, o = some ⟨g, 0, none⟩ ∧ g < w.heap.size ∧ ∀ i, i < xs.length → w.cell? ⟨g, i, none⟩ = some (.int .i64 (xs.getD i 0))
end Go.Proofs.YtmemiohompdibaaGreatDoor
namespace Go.Proofs.YtmemiohompdibaaGreatDoor
open Go.RowKit
theorem chr_conv (w : World) (n : Int) : (convert 193 9 (.slice (some ⟨w.heap.size, 0, none⟩) 1 1)).run Tryz.prog (w.alloc (.cells #[.int .u8 n] 5)) = .ok (.string (strOfNums [n])) (w.alloc (.cells #[.int .u8 n] 5)) := by
 refine run_convert_bytes_arg _ 193 5 Tryz.underlying193 Tryz.underlying5 w.heap.size 0 1 1 [n] rfl ?_ 9 Tryz.underlying9
 intro i hi
 have : i = 0 := by omega
 subst this
 rw [World.cell?_alloc_at _ _ _ _ rfl]
 rfl
end Go.Proofs.YtmemiohompdibaaGreatDoor
