/-
  What ins.Width, place and bytesOf do.
-/
import Derived.Test.YtomiganjagjabaaMM4
namespace Go.Proofs.Ytomiganjagjabaa
open Go.RowKit

/-- How many bytes a load or a store moves. -/
def insW (op : Int) : Int :=
  if op = 44 ∨ op = 45 ∨ op = 48 ∨ op = 49 ∨ op = 58 ∨ op = 60 then 1
  else if op = 46 ∨ op = 47 ∨ op = 50 ∨ op = 51 ∨ op = 59 ∨ op = 61 then 2
  else if op = 40 ∨ op = 52 ∨ op = 53 ∨ op = 54 ∨ op = 62 then 4
  else if op = 41 ∨ op = 55 then 8 else 0
set_option maxHeartbeats 1000000 in
set_option maxRecDepth 1000000 in
theorem width_44 (w : World) : Calls Try.prog 27 #[.int .u8 44] w fun e w' => e = .returned (.int .i64 1) ∧ w' = w := by
  go_enter Try.func27, Try.ntmps27
  go_wp2
  go_ret
  exact ⟨rfl, rfl⟩
set_option maxHeartbeats 1000000 in
set_option maxRecDepth 1000000 in
theorem width_45 (w : World) : Calls Try.prog 27 #[.int .u8 45] w fun e w' => e = .returned (.int .i64 1) ∧ w' = w := by
  go_enter Try.func27, Try.ntmps27
  go_wp2
  go_ret
  exact ⟨rfl, rfl⟩
set_option maxHeartbeats 1000000 in
set_option maxRecDepth 1000000 in
theorem width_48 (w : World) : Calls Try.prog 27 #[.int .u8 48] w fun e w' => e = .returned (.int .i64 1) ∧ w' = w := by
  go_enter Try.func27, Try.ntmps27
  go_wp2
  go_ret
  exact ⟨rfl, rfl⟩
set_option maxHeartbeats 1000000 in
set_option maxRecDepth 1000000 in
theorem width_49 (w : World) : Calls Try.prog 27 #[.int .u8 49] w fun e w' => e = .returned (.int .i64 1) ∧ w' = w := by
  go_enter Try.func27, Try.ntmps27
  go_wp2
  go_ret
  exact ⟨rfl, rfl⟩
set_option maxHeartbeats 1000000 in
set_option maxRecDepth 1000000 in
theorem width_58 (w : World) : Calls Try.prog 27 #[.int .u8 58] w fun e w' => e = .returned (.int .i64 1) ∧ w' = w := by
  go_enter Try.func27, Try.ntmps27
  go_wp2
  go_ret
  exact ⟨rfl, rfl⟩
set_option maxHeartbeats 1000000 in
set_option maxRecDepth 1000000 in
theorem width_60 (w : World) : Calls Try.prog 27 #[.int .u8 60] w fun e w' => e = .returned (.int .i64 1) ∧ w' = w := by
  go_enter Try.func27, Try.ntmps27
  go_wp2
  go_ret
  exact ⟨rfl, rfl⟩
set_option maxHeartbeats 1000000 in
set_option maxRecDepth 1000000 in
theorem width_46 (w : World) : Calls Try.prog 27 #[.int .u8 46] w fun e w' => e = .returned (.int .i64 2) ∧ w' = w := by
  go_enter Try.func27, Try.ntmps27
  go_wp2
  go_ret
  exact ⟨rfl, rfl⟩
set_option maxHeartbeats 1000000 in
set_option maxRecDepth 1000000 in
theorem width_47 (w : World) : Calls Try.prog 27 #[.int .u8 47] w fun e w' => e = .returned (.int .i64 2) ∧ w' = w := by
  go_enter Try.func27, Try.ntmps27
  go_wp2
  go_ret
  exact ⟨rfl, rfl⟩
set_option maxHeartbeats 1000000 in
set_option maxRecDepth 1000000 in
theorem width_50 (w : World) : Calls Try.prog 27 #[.int .u8 50] w fun e w' => e = .returned (.int .i64 2) ∧ w' = w := by
  go_enter Try.func27, Try.ntmps27
  go_wp2
  go_ret
  exact ⟨rfl, rfl⟩
set_option maxHeartbeats 1000000 in
set_option maxRecDepth 1000000 in
theorem width_51 (w : World) : Calls Try.prog 27 #[.int .u8 51] w fun e w' => e = .returned (.int .i64 2) ∧ w' = w := by
  go_enter Try.func27, Try.ntmps27
  go_wp2
  go_ret
  exact ⟨rfl, rfl⟩
set_option maxHeartbeats 1000000 in
set_option maxRecDepth 1000000 in
theorem width_59 (w : World) : Calls Try.prog 27 #[.int .u8 59] w fun e w' => e = .returned (.int .i64 2) ∧ w' = w := by
  go_enter Try.func27, Try.ntmps27
  go_wp2
  go_ret
  exact ⟨rfl, rfl⟩
set_option maxHeartbeats 1000000 in
set_option maxRecDepth 1000000 in
theorem width_61 (w : World) : Calls Try.prog 27 #[.int .u8 61] w fun e w' => e = .returned (.int .i64 2) ∧ w' = w := by
  go_enter Try.func27, Try.ntmps27
  go_wp2
  go_ret
  exact ⟨rfl, rfl⟩
set_option maxHeartbeats 1000000 in
set_option maxRecDepth 1000000 in
theorem width_40 (w : World) : Calls Try.prog 27 #[.int .u8 40] w fun e w' => e = .returned (.int .i64 4) ∧ w' = w := by
  go_enter Try.func27, Try.ntmps27
  go_wp2
  go_ret
  exact ⟨rfl, rfl⟩
set_option maxHeartbeats 1000000 in
set_option maxRecDepth 1000000 in
theorem width_52 (w : World) : Calls Try.prog 27 #[.int .u8 52] w fun e w' => e = .returned (.int .i64 4) ∧ w' = w := by
  go_enter Try.func27, Try.ntmps27
  go_wp2
  go_ret
  exact ⟨rfl, rfl⟩
set_option maxHeartbeats 1000000 in
set_option maxRecDepth 1000000 in
theorem width_53 (w : World) : Calls Try.prog 27 #[.int .u8 53] w fun e w' => e = .returned (.int .i64 4) ∧ w' = w := by
  go_enter Try.func27, Try.ntmps27
  go_wp2
  go_ret
  exact ⟨rfl, rfl⟩
set_option maxHeartbeats 1000000 in
set_option maxRecDepth 1000000 in
theorem width_54 (w : World) : Calls Try.prog 27 #[.int .u8 54] w fun e w' => e = .returned (.int .i64 4) ∧ w' = w := by
  go_enter Try.func27, Try.ntmps27
  go_wp2
  go_ret
  exact ⟨rfl, rfl⟩
set_option maxHeartbeats 1000000 in
set_option maxRecDepth 1000000 in
theorem width_62 (w : World) : Calls Try.prog 27 #[.int .u8 62] w fun e w' => e = .returned (.int .i64 4) ∧ w' = w := by
  go_enter Try.func27, Try.ntmps27
  go_wp2
  go_ret
  exact ⟨rfl, rfl⟩
set_option maxHeartbeats 1000000 in
set_option maxRecDepth 1000000 in
theorem width_41 (w : World) : Calls Try.prog 27 #[.int .u8 41] w fun e w' => e = .returned (.int .i64 8) ∧ w' = w := by
  go_enter Try.func27, Try.ntmps27
  go_wp2
  go_ret
  exact ⟨rfl, rfl⟩
set_option maxHeartbeats 1000000 in
set_option maxRecDepth 1000000 in
theorem width_55 (w : World) : Calls Try.prog 27 #[.int .u8 55] w fun e w' => e = .returned (.int .i64 8) ∧ w' = w := by
  go_enter Try.func27, Try.ntmps27
  go_wp2
  go_ret
  exact ⟨rfl, rfl⟩
set_option maxHeartbeats 1000000 in
set_option maxRecDepth 1000000 in
theorem width_no (op : Int) (_h44 : (op == 44) = false) (_h45 : (op == 45) = false) (_h48 : (op == 48) = false) (_h49 : (op == 49) = false) (_h58 : (op == 58) = false) (_h60 : (op == 60) = false) (_h46 : (op == 46) = false) (_h47 : (op == 47) = false) (_h50 : (op == 50) = false) (_h51 : (op == 51) = false) (_h59 : (op == 59) = false) (_h61 : (op == 61) = false) (_h40 : (op == 40) = false) (_h52 : (op == 52) = false) (_h53 : (op == 53) = false) (_h54 : (op == 54) = false) (_h62 : (op == 62) = false) (_h41 : (op == 41) = false) (_h55 : (op == 55) = false) (w : World) : Calls Try.prog 27 #[.int .u8 op] w fun e w' => e = .returned (.int .i64 0) ∧ w' = w := by
  go_enter Try.func27, Try.ntmps27
  go_wp2
  go_ret
  exact ⟨rfl, rfl⟩
theorem width_any (op : Int) (w : World) : Calls Try.prog 27 #[.int .u8 op] w fun e w' => e = .returned (.int .i64 (insW op)) ∧ w' = w := by
  by_cases h44 : op = 44
  · subst h44; exact width_44 w
  by_cases h45 : op = 45
  · subst h45; exact width_45 w
  by_cases h48 : op = 48
  · subst h48; exact width_48 w
  by_cases h49 : op = 49
  · subst h49; exact width_49 w
  by_cases h58 : op = 58
  · subst h58; exact width_58 w
  by_cases h60 : op = 60
  · subst h60; exact width_60 w
  by_cases h46 : op = 46
  · subst h46; exact width_46 w
  by_cases h47 : op = 47
  · subst h47; exact width_47 w
  by_cases h50 : op = 50
  · subst h50; exact width_50 w
  by_cases h51 : op = 51
  · subst h51; exact width_51 w
  by_cases h59 : op = 59
  · subst h59; exact width_59 w
  by_cases h61 : op = 61
  · subst h61; exact width_61 w
  by_cases h40 : op = 40
  · subst h40; exact width_40 w
  by_cases h52 : op = 52
  · subst h52; exact width_52 w
  by_cases h53 : op = 53
  · subst h53; exact width_53 w
  by_cases h54 : op = 54
  · subst h54; exact width_54 w
  by_cases h62 : op = 62
  · subst h62; exact width_62 w
  by_cases h41 : op = 41
  · subst h41; exact width_41 w
  by_cases h55 : op = 55
  · subst h55; exact width_55 w
  have e : insW op = 0 := by
    unfold insW
    rw [if_neg (by omega), if_neg (by omega), if_neg (by omega), if_neg (by omega)]
  rw [e]
  exact width_no op (by rw [beq_eq_false_iff_ne]; exact h44) (by rw [beq_eq_false_iff_ne]; exact h45) (by rw [beq_eq_false_iff_ne]; exact h48) (by rw [beq_eq_false_iff_ne]; exact h49) (by rw [beq_eq_false_iff_ne]; exact h58) (by rw [beq_eq_false_iff_ne]; exact h60) (by rw [beq_eq_false_iff_ne]; exact h46) (by rw [beq_eq_false_iff_ne]; exact h47) (by rw [beq_eq_false_iff_ne]; exact h50) (by rw [beq_eq_false_iff_ne]; exact h51) (by rw [beq_eq_false_iff_ne]; exact h59) (by rw [beq_eq_false_iff_ne]; exact h61) (by rw [beq_eq_false_iff_ne]; exact h40) (by rw [beq_eq_false_iff_ne]; exact h52) (by rw [beq_eq_false_iff_ne]; exact h53) (by rw [beq_eq_false_iff_ne]; exact h54) (by rw [beq_eq_false_iff_ne]; exact h62) (by rw [beq_eq_false_iff_ne]; exact h41) (by rw [beq_eq_false_iff_ne]; exact h55) w
end Go.Proofs.Ytomiganjagjabaa
