/-
 leb.Name and leb.ReadName answer what the document's own LebName and LebReadName answer.
-/
import Derived.Test.YtmemiohompdibaaGreatDoorAQD
import Derived.Test.YtmemiohompdibaaGreatDoorAGRef
import Derived.Test.YtmemiohompdibaaGreatDoorAQB
set_option maxHeartbeats 400000
set_option maxRecDepth 100000
namespace Go.Proofs.YtmemiohompdibaaGreatDoor
set_option linter.unusedVariables false
open Go.RowKit
theorem refName_large (s : ByteArray) (w : World) (h : (16 : Int) < (s.size : Int)) :
  Calls Tryz.prog 82 #[.string s] w fun e w' => e = .returned (.tuple #[.string ⟨#[]⟩, .int .i64 2]) ∧ Below w.heap.size w w' := by
 go_enter Tryz.func82, Tryz.ntmps82
 go_wp2
 go_ret2
 exact ⟨rfl, Below.refl _ _⟩
theorem refName_bad (s : ByteArray) (w : World) (h : s.size ≤ 16) (hv : Hid (Lib.validD s.data.toList = false)) :
  Calls Tryz.prog 82 #[.string s] w fun e w' => e = .returned (.tuple #[.string ⟨#[]⟩, .int .i64 4]) ∧ Below w.heap.size w w' := by
 have IT : Hid (∀ w, Calls Tryz.prog 117 #[.string s] w fun e w' => e = .returned (.bool false) ∧ Below w.heap.size w w') := fun w => isText_at s false w (by unfold maxLen; omega) hv
 go_enter Tryz.func82, Tryz.ntmps82
 go_wp2_with (go_at_call 117; refine (IT.out _).mono ?_; rintro e w1 ⟨rfl, b1⟩)
 go_ret2
 exact ⟨rfl, b1⟩
theorem refName_ok (s S : ByteArray) (w : World) (h : s.size ≤ 16) (hv : Hid (Lib.validD s.data.toList = true)) (hS : Hid (strOfNums [(s.size : Int)] = S)) :
  Calls Tryz.prog 82 #[.string s] w fun e w' => e = .returned (.tuple #[.string (S ++ s), .int .i64 0]) ∧ Below w.heap.size w w' := by
 have IT : Hid (∀ w, Calls Tryz.prog 117 #[.string s] w fun e w' => e = .returned (.bool true) ∧ Below w.heap.size w w') := fun w => isText_at s true w (by unfold maxLen; omega) hv
 have CH : Hid (∀ w, Calls Tryz.prog 118 #[.int .i64 (s.size : Int)] w fun e w' => e = .returned (.string S) ∧ Below w.heap.size w w') := by
  intro w
  have := chr_any (s.size : Int) (by omega) (by omega) w
  rw [hS.out] at this
  exact this
 have hz : S.size = 1 := by rw [← hS.out, strOfNums_size]; rfl
 go_enter Tryz.func82, Tryz.ntmps82
 go_wp2_with (first | (go_at_call 117; refine (IT.out _).mono ?_; rintro e w1 ⟨rfl, b1⟩) | (go_at_call 118; refine (CH.out _).mono ?_; rintro e w2 ⟨rfl, b2⟩))
 go_ret2
 exact ⟨rfl, b1.trans (b2.mono b1.size)⟩
end Go.Proofs.YtmemiohompdibaaGreatDoor
