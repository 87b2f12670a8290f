/-
  What the program's own package num does: questions.
-/
import Derived.Test.YtdbhdgkbkhjikaaDoorNum1
import Derived.WalkKit
import Derived.WalkSpells
import Derived.WalkSmall
import Derived.Deep.QuietTactic
import Derived.BigQuiet
import Derived.Laws.Bits128
import Derived.Laws.BitsAllLaws
import Derived.Laws.BitsLemmas
namespace Go.Proofs.YtdbhdgkbkhjikaaDoor
open Go.RowKit
set_option maxHeartbeats 1000000 in
set_option maxRecDepth 1000000 in
theorem holds32_70 (a b : Int) (w : World) :
    Calls Tryd.prog 102 #[.int .u8 70, .int .i32 a, .int .i32 b] w fun e w' => e = .returned (.bool (decide (a = b))) ∧ w' = w := by
  go_enter Tryd.func102, Tryd.ntmps102
  go_wp2
  go_ret
  exact rb (by first | rfl | (by_cases h : a = b <;> simp [h]) | (simp only [decide_eq_decide]; omega))
set_option maxHeartbeats 1000000 in
set_option maxRecDepth 1000000 in
theorem holds32_71 (a b : Int) (w : World) :
    Calls Tryd.prog 102 #[.int .u8 71, .int .i32 a, .int .i32 b] w fun e w' => e = .returned (.bool (! decide (a = b))) ∧ w' = w := by
  go_enter Tryd.func102, Tryd.ntmps102
  go_wp2
  go_ret
  exact rb (by first | rfl | (by_cases h : a = b <;> simp [h]) | (simp only [decide_eq_decide]; omega))
set_option maxHeartbeats 1000000 in
set_option maxRecDepth 1000000 in
theorem holds32_72 (a b : Int) (w : World) :
    Calls Tryd.prog 102 #[.int .u8 72, .int .i32 a, .int .i32 b] w fun e w' => e = .returned (.bool (decide (a < b))) ∧ w' = w := by
  go_enter Tryd.func102, Tryd.ntmps102
  go_wp2
  go_ret
  exact rb (by first | rfl | (by_cases h : a = b <;> simp [h]) | (simp only [decide_eq_decide]; omega))
set_option maxHeartbeats 1000000 in
set_option maxRecDepth 1000000 in
theorem holds32_74 (a b : Int) (w : World) :
    Calls Tryd.prog 102 #[.int .u8 74, .int .i32 a, .int .i32 b] w fun e w' => e = .returned (.bool (decide (b < a))) ∧ w' = w := by
  go_enter Tryd.func102, Tryd.ntmps102
  go_wp2
  go_ret
  exact rb (by first | rfl | (by_cases h : a = b <;> simp [h]) | (simp only [decide_eq_decide]; omega))
set_option maxHeartbeats 1000000 in
set_option maxRecDepth 1000000 in
theorem holds32_76 (a b : Int) (w : World) :
    Calls Tryd.prog 102 #[.int .u8 76, .int .i32 a, .int .i32 b] w fun e w' => e = .returned (.bool (decide (a ≤ b))) ∧ w' = w := by
  go_enter Tryd.func102, Tryd.ntmps102
  go_wp2
  go_ret
  exact rb (by first | rfl | (by_cases h : a = b <;> simp [h]) | (simp only [decide_eq_decide]; omega))
set_option maxHeartbeats 1000000 in
set_option maxRecDepth 1000000 in
theorem holds32_78 (a b : Int) (w : World) :
    Calls Tryd.prog 102 #[.int .u8 78, .int .i32 a, .int .i32 b] w fun e w' => e = .returned (.bool (decide (b ≤ a))) ∧ w' = w := by
  go_enter Tryd.func102, Tryd.ntmps102
  go_wp2
  go_ret
  exact rb (by first | rfl | (by_cases h : a = b <;> simp [h]) | (simp only [decide_eq_decide]; omega))
set_option maxHeartbeats 1000000 in
set_option maxRecDepth 1000000 in
theorem holdsu32_72 (a b : Int) (w : World) :
    Calls Tryd.prog 103 #[.int .u8 72, .int .u32 a, .int .u32 b] w fun e w' => e = .returned (.bool (decide (a < b))) ∧ w' = w := by
  go_enter Tryd.func103, Tryd.ntmps103
  go_wp2
  go_ret
  exact rb (by first | rfl | (by_cases h : a = b <;> simp [h]) | (simp only [decide_eq_decide]; omega))
set_option maxHeartbeats 1000000 in
set_option maxRecDepth 1000000 in
theorem holdsu32_74 (a b : Int) (w : World) :
    Calls Tryd.prog 103 #[.int .u8 74, .int .u32 a, .int .u32 b] w fun e w' => e = .returned (.bool (decide (b < a))) ∧ w' = w := by
  go_enter Tryd.func103, Tryd.ntmps103
  go_wp2
  go_ret
  exact rb (by first | rfl | (by_cases h : a = b <;> simp [h]) | (simp only [decide_eq_decide]; omega))
set_option maxHeartbeats 1000000 in
set_option maxRecDepth 1000000 in
theorem holdsu32_76 (a b : Int) (w : World) :
    Calls Tryd.prog 103 #[.int .u8 76, .int .u32 a, .int .u32 b] w fun e w' => e = .returned (.bool (decide (a ≤ b))) ∧ w' = w := by
  go_enter Tryd.func103, Tryd.ntmps103
  go_wp2
  go_ret
  exact rb (by first | rfl | (by_cases h : a = b <;> simp [h]) | (simp only [decide_eq_decide]; omega))
set_option maxHeartbeats 1000000 in
set_option maxRecDepth 1000000 in
theorem holdsu32_78 (a b : Int) (w : World) :
    Calls Tryd.prog 103 #[.int .u8 78, .int .u32 a, .int .u32 b] w fun e w' => e = .returned (.bool (decide (b ≤ a))) ∧ w' = w := by
  go_enter Tryd.func103, Tryd.ntmps103
  go_wp2
  go_ret
  exact rb (by first | rfl | (by_cases h : a = b <;> simp [h]) | (simp only [decide_eq_decide]; omega))
set_option maxHeartbeats 1000000 in
set_option maxRecDepth 1000000 in
theorem holds64_70 (a b : Int) (w : World) :
    Calls Tryd.prog 96 #[.int .u8 70, .int .i64 a, .int .i64 b] w fun e w' => e = .returned (.bool (decide (a = b))) ∧ w' = w := by
  go_enter Tryd.func96, Tryd.ntmps96
  go_wp2
  go_ret
  exact rb (by first | rfl | (by_cases h : a = b <;> simp [h]) | (simp only [decide_eq_decide]; omega))
set_option maxHeartbeats 1000000 in
set_option maxRecDepth 1000000 in
theorem holds64_71 (a b : Int) (w : World) :
    Calls Tryd.prog 96 #[.int .u8 71, .int .i64 a, .int .i64 b] w fun e w' => e = .returned (.bool (! decide (a = b))) ∧ w' = w := by
  go_enter Tryd.func96, Tryd.ntmps96
  go_wp2
  go_ret
  exact rb (by first | rfl | (by_cases h : a = b <;> simp [h]) | (simp only [decide_eq_decide]; omega))
set_option maxHeartbeats 1000000 in
set_option maxRecDepth 1000000 in
theorem holds64_72 (a b : Int) (w : World) :
    Calls Tryd.prog 96 #[.int .u8 72, .int .i64 a, .int .i64 b] w fun e w' => e = .returned (.bool (decide (a < b))) ∧ w' = w := by
  go_enter Tryd.func96, Tryd.ntmps96
  go_wp2
  go_ret
  exact rb (by first | rfl | (by_cases h : a = b <;> simp [h]) | (simp only [decide_eq_decide]; omega))
set_option maxHeartbeats 1000000 in
set_option maxRecDepth 1000000 in
theorem holds64_74 (a b : Int) (w : World) :
    Calls Tryd.prog 96 #[.int .u8 74, .int .i64 a, .int .i64 b] w fun e w' => e = .returned (.bool (decide (b < a))) ∧ w' = w := by
  go_enter Tryd.func96, Tryd.ntmps96
  go_wp2
  go_ret
  exact rb (by first | rfl | (by_cases h : a = b <;> simp [h]) | (simp only [decide_eq_decide]; omega))
set_option maxHeartbeats 1000000 in
set_option maxRecDepth 1000000 in
theorem holds64_76 (a b : Int) (w : World) :
    Calls Tryd.prog 96 #[.int .u8 76, .int .i64 a, .int .i64 b] w fun e w' => e = .returned (.bool (decide (a ≤ b))) ∧ w' = w := by
  go_enter Tryd.func96, Tryd.ntmps96
  go_wp2
  go_ret
  exact rb (by first | rfl | (by_cases h : a = b <;> simp [h]) | (simp only [decide_eq_decide]; omega))
set_option maxHeartbeats 1000000 in
set_option maxRecDepth 1000000 in
theorem holds64_78 (a b : Int) (w : World) :
    Calls Tryd.prog 96 #[.int .u8 78, .int .i64 a, .int .i64 b] w fun e w' => e = .returned (.bool (decide (b ≤ a))) ∧ w' = w := by
  go_enter Tryd.func96, Tryd.ntmps96
  go_wp2
  go_ret
  exact rb (by first | rfl | (by_cases h : a = b <;> simp [h]) | (simp only [decide_eq_decide]; omega))
set_option maxHeartbeats 1000000 in
set_option maxRecDepth 1000000 in
theorem holdsu64_72 (a b : Int) (w : World) :
    Calls Tryd.prog 97 #[.int .u8 72, .int .u64 a, .int .u64 b] w fun e w' => e = .returned (.bool (decide (a < b))) ∧ w' = w := by
  go_enter Tryd.func97, Tryd.ntmps97
  go_wp2
  go_ret
  exact rb (by first | rfl | (by_cases h : a = b <;> simp [h]) | (simp only [decide_eq_decide]; omega))
set_option maxHeartbeats 1000000 in
set_option maxRecDepth 1000000 in
theorem holdsu64_74 (a b : Int) (w : World) :
    Calls Tryd.prog 97 #[.int .u8 74, .int .u64 a, .int .u64 b] w fun e w' => e = .returned (.bool (decide (b < a))) ∧ w' = w := by
  go_enter Tryd.func97, Tryd.ntmps97
  go_wp2
  go_ret
  exact rb (by first | rfl | (by_cases h : a = b <;> simp [h]) | (simp only [decide_eq_decide]; omega))
set_option maxHeartbeats 1000000 in
set_option maxRecDepth 1000000 in
theorem holdsu64_76 (a b : Int) (w : World) :
    Calls Tryd.prog 97 #[.int .u8 76, .int .u64 a, .int .u64 b] w fun e w' => e = .returned (.bool (decide (a ≤ b))) ∧ w' = w := by
  go_enter Tryd.func97, Tryd.ntmps97
  go_wp2
  go_ret
  exact rb (by first | rfl | (by_cases h : a = b <;> simp [h]) | (simp only [decide_eq_decide]; omega))
set_option maxHeartbeats 1000000 in
set_option maxRecDepth 1000000 in
theorem holdsu64_78 (a b : Int) (w : World) :
    Calls Tryd.prog 97 #[.int .u8 78, .int .u64 a, .int .u64 b] w fun e w' => e = .returned (.bool (decide (b ≤ a))) ∧ w' = w := by
  go_enter Tryd.func97, Tryd.ntmps97
  go_wp2
  go_ret
  exact rb (by first | rfl | (by_cases h : a = b <;> simp [h]) | (simp only [decide_eq_decide]; omega))
end Go.Proofs.YtdbhdgkbkhjikaaDoor
