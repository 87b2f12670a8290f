/-
 The reader of modules: numbers, names, bodies.
 The reader of modules: names and bodies.
-/
import Derived.Test.YtlfihndbnaaodaaGreatDoorIQS
import Derived.WalkLawsBesides
import Derived.Test.YtlfihndbnaaodaaGreatDoorIQM
import Derived.Test.YtlfihndbnaaodaaGreatDoorIQB
set_option maxHeartbeats 1000000
set_option maxRecDepth 1000000
namespace Go.Proofs.YtlfihndbnaaodaaGreatDoor
set_option linter.unusedVariables false
open Go.RowKit
theorem isKind_any (k : Int) (w : World) : Calls Tryz.prog 173 #[.int .u8 k] w fun r w' => r = .returned (.bool (isK k)) ∧ w' = w := by
 unfold isK
 cases h1 : (k == 127) with
 | true =>
  go_enter Tryz.func173, Tryz.ntmps173
  go_wp2
  go_ret
  exact ⟨rfl, rfl⟩
 | false =>
  cases h2 : (k == 126) with
  | true =>
   go_enter Tryz.func173, Tryz.ntmps173
   go_wp2
   go_ret
   exact ⟨rfl, rfl⟩
  | false =>
   go_enter Tryz.func173, Tryz.ntmps173
   go_wp2
   go_ret
   exact ⟨rfl, rfl⟩
end Go.Proofs.YtlfihndbnaaodaaGreatDoor
namespace Go.Proofs.YtlfihndbnaaodaaGreatDoor
set_option linter.unusedVariables false
open Go.RowKit
def Amb (w : World) : Prop := TabIn w ∧ Lib.Utf8Tabs 3 4 w ∧ 4 < w.heap.size
theorem Amb.to {w w' : World} (h : Amb w) (b : Below 5 w w') : Amb w' := by
 obtain ⟨h1, h2, h3⟩ := h
 refine ⟨h1.of_cells fun j => b.cell (p := ⟨1, j, none⟩) (by show (1 : Nat) < 5; omega), ⟨fun c hc => ?_, fun i hi => ⟨?_, ?_⟩⟩, by have := b.size; omega⟩
 ·rw [b.cell (p := ⟨3, c, none⟩) (by show (3 : Nat) < 5; omega)]; exact h2.1 c hc
 ·rw [b.cell (p := ⟨4, 2 * i, none⟩) (by show (4 : Nat) < 5; omega)]; exact (h2.2 i hi).1
 ·rw [b.cell (p := ⟨4, 2 * i + 1, none⟩) (by show (4 : Nat) < 5; omega)]; exact (h2.2 i hi).2
theorem Amb.below {w w' : World} (h : Amb w) (b : Below w.heap.size w w') : Amb w' := h.to (b.mono (by have := h.2.2; omega))
theorem txt_nums (t : ByteArray) : txt (nums t) = t.data.toList := by
 unfold txt nums
 rw [List.map_map]
 conv => rhs; rw [← List.map_id t.data.toList]
 apply List.map_congr_left
 intro x _
 simp
theorem okName_nums (t : ByteArray) : okName (nums t) = Lib.validD t.data.toList := by unfold okName; rw [txt_nums]
end Go.Proofs.YtlfihndbnaaodaaGreatDoor
