/-
 What the document's own chr and LebU do. What the document's own LebU does: it writes what leb.U writes. What the document's own LebS does: it writes what leb.S writes. What the document's own span does. What the document's own LebReadU does. What the document's own LebReadS does. What the document's own LebReadU and LebReadS answer, for every text and every number of bits: what leb.ReadU and leb.ReadS answer.
-/
import Derived.Test.YtlfihndbnaaodaaGreatDoorIGLeb
import Derived.Laws.Concat
import Derived.WalkSmall
set_option maxHeartbeats 400000
namespace Go.Proofs.YtlfihndbnaaodaaGreatDoor
set_option linter.unusedVariables false
open Go.RowKit
theorem chr_conv (w : World) (n : Int) : (convert 159 9 (.slice (some ⟨w.heap.size, 0, none⟩) 1 1)).run Tryz.prog (w.alloc (.cells #[.int .u8 n] 5)) = .ok (.string (strOfNums [n])) (w.alloc (.cells #[.int .u8 n] 5)) := by
 refine run_convert_bytes_arg _ 159 5 Tryz.underlying159 Tryz.underlying5 w.heap.size 0 1 1 [n] rfl ?_ 9 Tryz.underlying9
 intro i hi
 have : i = 0 := by omega
 subst this
 rw [World.cell?_alloc_at _ _ _ _ rfl]
 rfl
theorem chr_any (n : Int) (h0 : 0 ≤ n) (h1 : n < 256) (w : World) :
  Calls Tryz.prog 147 #[.int .i64 n] w fun e w' => e = .returned (.string (strOfNums [n])) ∧ Below w.heap.size w w' := by
 have hc := chr_conv w n
 go_enter Tryz.func147, Tryz.ntmps147
 go_wp2
 go_ret
 exact ⟨rfl, (Below.refl _ _).alloc (Nat.le_refl _) _⟩
end Go.Proofs.YtlfihndbnaaodaaGreatDoor
namespace Go.Proofs.YtlfihndbnaaodaaGreatDoor
open Go.RowKit
theorem str_cons (x : Int) (xs : List Int) : strOfNums [x] ++ strOfNums xs = strOfNums (x :: xs) := by
 have : (strOfNums [x] ++ strOfNums xs).data = (strOfNums (x :: xs)).data := by
  rw [ByteArray.data_append]
  simp [strOfNums]
 exact ByteArray.ext this
end Go.Proofs.YtlfihndbnaaodaaGreatDoor
namespace Go.Proofs.YtlfihndbnaaodaaGreatDoor
open Go.RowKit
theorem ret_s {a b : ByteArray} (h : a = b) : Ending.returned (.string a) = .returned (.string b) := by rw [h]
end Go.Proofs.YtlfihndbnaaodaaGreatDoor
namespace Go.Proofs.YtlfihndbnaaodaaGreatDoor
open Go.RowKit
end Go.Proofs.YtlfihndbnaaodaaGreatDoor
namespace Go.Proofs.YtlfihndbnaaodaaGreatDoor
open Go.RowKit
def sv (c : Int) : List Int → Int
 | [] => -c
 | b :: r => b % 128 + 128 * sv c r
end Go.Proofs.YtlfihndbnaaodaaGreatDoor
namespace Go.Proofs.YtlfihndbnaaodaaGreatDoor
open Go.RowKit
end Go.Proofs.YtlfihndbnaaodaaGreatDoor
namespace Go.Proofs.YtlfihndbnaaodaaGreatDoor
open Go.RowKit
end Go.Proofs.YtlfihndbnaaodaaGreatDoor
