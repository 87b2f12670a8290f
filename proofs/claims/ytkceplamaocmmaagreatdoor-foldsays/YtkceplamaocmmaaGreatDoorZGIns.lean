/-
 What the program's own Width and kindsOfNum do. What the program's own takenByNum does. What the program's own plainPlace and Plain do.
-/
import Derived.Test.YtkceplamaocmmaaGreatDoorZGNum
import Derived.Test.YtkceplamaocmmaaGreatDoorZGOne
import Derived.Below
import Derived.Laws.EntriesVeiled
import Derived.OwnWalk
set_option maxHeartbeats 1000000
set_option maxRecDepth 1000000
namespace Go.Proofs.YtkceplamaocmmaaGreatDoor
set_option linter.unusedVariables false
open Go.RowKit
def insW (op : Int) : Int :=
 if op = 44 ∨ op = 45 ∨ op = 48 ∨ op = 49 ∨ op = 58 ∨ op = 60 then 1
 else if op = 46 ∨ op = 47 ∨ op = 50 ∨ op = 51 ∨ op = 59 ∨ op = 61 then 2
 else if op = 40 ∨ op = 52 ∨ op = 53 ∨ op = 54 ∨ op = 62 then 4
 else if op = 41 ∨ op = 55 then 8 else 0
theorem width_44 (w : World) : Calls Tryz.prog 68 #[.int .u8 44] w fun e w' => e = .returned (.int .i64 1) ∧ w' = w := by
 go_enter Tryz.func68, Tryz.ntmps68
 go_wp2
 go_ret
 exact ⟨rfl, rfl⟩
theorem width_45 (w : World) : Calls Tryz.prog 68 #[.int .u8 45] w fun e w' => e = .returned (.int .i64 1) ∧ w' = w := by
 go_enter Tryz.func68, Tryz.ntmps68
 go_wp2
 go_ret
 exact ⟨rfl, rfl⟩
theorem width_48 (w : World) : Calls Tryz.prog 68 #[.int .u8 48] w fun e w' => e = .returned (.int .i64 1) ∧ w' = w := by
 go_enter Tryz.func68, Tryz.ntmps68
 go_wp2
 go_ret
 exact ⟨rfl, rfl⟩
theorem width_49 (w : World) : Calls Tryz.prog 68 #[.int .u8 49] w fun e w' => e = .returned (.int .i64 1) ∧ w' = w := by
 go_enter Tryz.func68, Tryz.ntmps68
 go_wp2
 go_ret
 exact ⟨rfl, rfl⟩
theorem width_58 (w : World) : Calls Tryz.prog 68 #[.int .u8 58] w fun e w' => e = .returned (.int .i64 1) ∧ w' = w := by
 go_enter Tryz.func68, Tryz.ntmps68
 go_wp2
 go_ret
 exact ⟨rfl, rfl⟩
theorem width_60 (w : World) : Calls Tryz.prog 68 #[.int .u8 60] w fun e w' => e = .returned (.int .i64 1) ∧ w' = w := by
 go_enter Tryz.func68, Tryz.ntmps68
 go_wp2
 go_ret
 exact ⟨rfl, rfl⟩
theorem width_46 (w : World) : Calls Tryz.prog 68 #[.int .u8 46] w fun e w' => e = .returned (.int .i64 2) ∧ w' = w := by
 go_enter Tryz.func68, Tryz.ntmps68
 go_wp2
 go_ret
 exact ⟨rfl, rfl⟩
theorem width_47 (w : World) : Calls Tryz.prog 68 #[.int .u8 47] w fun e w' => e = .returned (.int .i64 2) ∧ w' = w := by
 go_enter Tryz.func68, Tryz.ntmps68
 go_wp2
 go_ret
 exact ⟨rfl, rfl⟩
theorem width_50 (w : World) : Calls Tryz.prog 68 #[.int .u8 50] w fun e w' => e = .returned (.int .i64 2) ∧ w' = w := by
 go_enter Tryz.func68, Tryz.ntmps68
 go_wp2
 go_ret
 exact ⟨rfl, rfl⟩
theorem width_51 (w : World) : Calls Tryz.prog 68 #[.int .u8 51] w fun e w' => e = .returned (.int .i64 2) ∧ w' = w := by
 go_enter Tryz.func68, Tryz.ntmps68
 go_wp2
 go_ret
 exact ⟨rfl, rfl⟩
theorem width_59 (w : World) : Calls Tryz.prog 68 #[.int .u8 59] w fun e w' => e = .returned (.int .i64 2) ∧ w' = w := by
 go_enter Tryz.func68, Tryz.ntmps68
 go_wp2
 go_ret
 exact ⟨rfl, rfl⟩
theorem width_61 (w : World) : Calls Tryz.prog 68 #[.int .u8 61] w fun e w' => e = .returned (.int .i64 2) ∧ w' = w := by
 go_enter Tryz.func68, Tryz.ntmps68
 go_wp2
 go_ret
 exact ⟨rfl, rfl⟩
theorem width_40 (w : World) : Calls Tryz.prog 68 #[.int .u8 40] w fun e w' => e = .returned (.int .i64 4) ∧ w' = w := by
 go_enter Tryz.func68, Tryz.ntmps68
 go_wp2
 go_ret
 exact ⟨rfl, rfl⟩
theorem width_52 (w : World) : Calls Tryz.prog 68 #[.int .u8 52] w fun e w' => e = .returned (.int .i64 4) ∧ w' = w := by
 go_enter Tryz.func68, Tryz.ntmps68
 go_wp2
 go_ret
 exact ⟨rfl, rfl⟩
theorem width_53 (w : World) : Calls Tryz.prog 68 #[.int .u8 53] w fun e w' => e = .returned (.int .i64 4) ∧ w' = w := by
 go_enter Tryz.func68, Tryz.ntmps68
 go_wp2
 go_ret
 exact ⟨rfl, rfl⟩
theorem width_54 (w : World) : Calls Tryz.prog 68 #[.int .u8 54] w fun e w' => e = .returned (.int .i64 4) ∧ w' = w := by
 go_enter Tryz.func68, Tryz.ntmps68
 go_wp2
 go_ret
 exact ⟨rfl, rfl⟩
theorem width_62 (w : World) : Calls Tryz.prog 68 #[.int .u8 62] w fun e w' => e = .returned (.int .i64 4) ∧ w' = w := by
 go_enter Tryz.func68, Tryz.ntmps68
 go_wp2
 go_ret
 exact ⟨rfl, rfl⟩
theorem width_41 (w : World) : Calls Tryz.prog 68 #[.int .u8 41] w fun e w' => e = .returned (.int .i64 8) ∧ w' = w := by
 go_enter Tryz.func68, Tryz.ntmps68
 go_wp2
 go_ret
 exact ⟨rfl, rfl⟩
theorem width_55 (w : World) : Calls Tryz.prog 68 #[.int .u8 55] w fun e w' => e = .returned (.int .i64 8) ∧ w' = w := by
 go_enter Tryz.func68, Tryz.ntmps68
 go_wp2
 go_ret
 exact ⟨rfl, rfl⟩
theorem width_no (op : Int) (_h44 : (op == 44) = false) (_h45 : (op == 45) = false) (_h48 : (op == 48) = false) (_h49 : (op == 49) = false) (_h58 : (op == 58) = false) (_h60 : (op == 60) = false) (_h46 : (op == 46) = false) (_h47 : (op == 47) = false) (_h50 : (op == 50) = false) (_h51 : (op == 51) = false) (_h59 : (op == 59) = false) (_h61 : (op == 61) = false) (_h40 : (op == 40) = false) (_h52 : (op == 52) = false) (_h53 : (op == 53) = false) (_h54 : (op == 54) = false) (_h62 : (op == 62) = false) (_h41 : (op == 41) = false) (_h55 : (op == 55) = false) (w : World) : Calls Tryz.prog 68 #[.int .u8 op] w fun e w' => e = .returned (.int .i64 0) ∧ w' = w := by
 go_enter Tryz.func68, Tryz.ntmps68
 go_wp2
 go_ret
 exact ⟨rfl, rfl⟩
theorem width_any (op : Int) (w : World) : Calls Tryz.prog 68 #[.int .u8 op] w fun e w' => e = .returned (.int .i64 (insW op)) ∧ w' = w := by
 by_cases h44 : op = 44
 ·subst h44; exact width_44 w
 by_cases h45 : op = 45
 ·subst h45; exact width_45 w
 by_cases h48 : op = 48
 ·subst h48; exact width_48 w
 by_cases h49 : op = 49
 ·subst h49; exact width_49 w
 by_cases h58 : op = 58
 ·subst h58; exact width_58 w
 by_cases h60 : op = 60
 ·subst h60; exact width_60 w
 by_cases h46 : op = 46
 ·subst h46; exact width_46 w
 by_cases h47 : op = 47
 ·subst h47; exact width_47 w
 by_cases h50 : op = 50
 ·subst h50; exact width_50 w
 by_cases h51 : op = 51
 ·subst h51; exact width_51 w
 by_cases h59 : op = 59
 ·subst h59; exact width_59 w
 by_cases h61 : op = 61
 ·subst h61; exact width_61 w
 by_cases h40 : op = 40
 ·subst h40; exact width_40 w
 by_cases h52 : op = 52
 ·subst h52; exact width_52 w
 by_cases h53 : op = 53
 ·subst h53; exact width_53 w
 by_cases h54 : op = 54
 ·subst h54; exact width_54 w
 by_cases h62 : op = 62
 ·subst h62; exact width_62 w
 by_cases h41 : op = 41
 ·subst h41; exact width_41 w
 by_cases h55 : op = 55
 ·subst h55; exact width_55 w
 have e : insW op = 0 := by
  unfold insW
  rw [if_neg (by omega), if_neg (by omega), if_neg (by omega), if_neg (by omega)]
 rw [e]
 exact width_no op (by rw [beq_eq_false_iff_ne]; exact h44) (by rw [beq_eq_false_iff_ne]; exact h45) (by rw [beq_eq_false_iff_ne]; exact h48) (by rw [beq_eq_false_iff_ne]; exact h49) (by rw [beq_eq_false_iff_ne]; exact h58) (by rw [beq_eq_false_iff_ne]; exact h60) (by rw [beq_eq_false_iff_ne]; exact h46) (by rw [beq_eq_false_iff_ne]; exact h47) (by rw [beq_eq_false_iff_ne]; exact h50) (by rw [beq_eq_false_iff_ne]; exact h51) (by rw [beq_eq_false_iff_ne]; exact h59) (by rw [beq_eq_false_iff_ne]; exact h61) (by rw [beq_eq_false_iff_ne]; exact h40) (by rw [beq_eq_false_iff_ne]; exact h52) (by rw [beq_eq_false_iff_ne]; exact h53) (by rw [beq_eq_false_iff_ne]; exact h54) (by rw [beq_eq_false_iff_ne]; exact h62) (by rw [beq_eq_false_iff_ne]; exact h41) (by rw [beq_eq_false_iff_ne]; exact h55) w
def kTake (op : Int) : Int := if op ≤ 79 then 127 else if op ≤ 90 then 126 else if op ≤ 120 then 127 else if op ≤ 138 then 126 else if op ≤ 167 then 126 else if op ≤ 173 then 127 else if op ≤ 193 then 127 else 126
def kGive (op : Int) : Int := if op ≤ 79 then 127 else if op ≤ 90 then 127 else if op ≤ 120 then 127 else if op ≤ 138 then 126 else if op ≤ 167 then 127 else if op ≤ 173 then 126 else if op ≤ 193 then 127 else 126
theorem kinds_0 (op : Int) (_h0 : 0 ≤ op) (_h1 : op ≤ 79) (w : World) : Calls Tryz.prog 99 #[.int .u8 op] w fun e w' => e = .returned (.tuple #[.int .u8 127, .int .u8 127]) ∧ w' = w := by
 go_enter Tryz.func99, Tryz.ntmps99
 go_wp2
 go_ret2
 exact ⟨rfl, rfl⟩
theorem kinds_80 (op : Int) (_h0 : 80 ≤ op) (_h1 : op ≤ 90) (w : World) : Calls Tryz.prog 99 #[.int .u8 op] w fun e w' => e = .returned (.tuple #[.int .u8 126, .int .u8 127]) ∧ w' = w := by
 go_enter Tryz.func99, Tryz.ntmps99
 go_wp2
 go_ret2
 exact ⟨rfl, rfl⟩
theorem kinds_91 (op : Int) (_h0 : 91 ≤ op) (_h1 : op ≤ 120) (w : World) : Calls Tryz.prog 99 #[.int .u8 op] w fun e w' => e = .returned (.tuple #[.int .u8 127, .int .u8 127]) ∧ w' = w := by
 go_enter Tryz.func99, Tryz.ntmps99
 go_wp2
 go_ret2
 exact ⟨rfl, rfl⟩
theorem kinds_121 (op : Int) (_h0 : 121 ≤ op) (_h1 : op ≤ 138) (w : World) : Calls Tryz.prog 99 #[.int .u8 op] w fun e w' => e = .returned (.tuple #[.int .u8 126, .int .u8 126]) ∧ w' = w := by
 go_enter Tryz.func99, Tryz.ntmps99
 go_wp2
 go_ret2
 exact ⟨rfl, rfl⟩
theorem kinds_139 (op : Int) (_h0 : 139 ≤ op) (_h1 : op ≤ 167) (w : World) : Calls Tryz.prog 99 #[.int .u8 op] w fun e w' => e = .returned (.tuple #[.int .u8 126, .int .u8 127]) ∧ w' = w := by
 go_enter Tryz.func99, Tryz.ntmps99
 go_wp2
 go_ret2
 exact ⟨rfl, rfl⟩
theorem kinds_168 (op : Int) (_h0 : 168 ≤ op) (_h1 : op ≤ 173) (w : World) : Calls Tryz.prog 99 #[.int .u8 op] w fun e w' => e = .returned (.tuple #[.int .u8 127, .int .u8 126]) ∧ w' = w := by
 go_enter Tryz.func99, Tryz.ntmps99
 go_wp2
 go_ret2
 exact ⟨rfl, rfl⟩
theorem kinds_174 (op : Int) (_h0 : 174 ≤ op) (_h1 : op ≤ 193) (w : World) : Calls Tryz.prog 99 #[.int .u8 op] w fun e w' => e = .returned (.tuple #[.int .u8 127, .int .u8 127]) ∧ w' = w := by
 go_enter Tryz.func99, Tryz.ntmps99
 go_wp2
 go_ret2
 exact ⟨rfl, rfl⟩
theorem kinds_194 (op : Int) (_h0 : 194 ≤ op) (_h1 : op ≤ 255) (w : World) : Calls Tryz.prog 99 #[.int .u8 op] w fun e w' => e = .returned (.tuple #[.int .u8 126, .int .u8 126]) ∧ w' = w := by
 go_enter Tryz.func99, Tryz.ntmps99
 go_wp2
 go_ret2
 exact ⟨rfl, rfl⟩
theorem kinds_any (op : Int) (h0 : 0 ≤ op) (h1 : op ≤ 255) (w : World) : Calls Tryz.prog 99 #[.int .u8 op] w fun e w' => e = .returned (.tuple #[.int .u8 (kTake op), .int .u8 (kGive op)]) ∧ w' = w := by
 unfold kTake kGive
 by_cases c79 : op ≤ 79
 ·simp only [if_pos c79]; exact kinds_0 op (by omega) c79 w
 simp only [if_neg c79]
 by_cases c90 : op ≤ 90
 ·simp only [if_pos c90]; exact kinds_80 op (by omega) c90 w
 simp only [if_neg c90]
 by_cases c120 : op ≤ 120
 ·simp only [if_pos c120]; exact kinds_91 op (by omega) c120 w
 simp only [if_neg c120]
 by_cases c138 : op ≤ 138
 ·simp only [if_pos c138]; exact kinds_121 op (by omega) c138 w
 simp only [if_neg c138]
 by_cases c167 : op ≤ 167
 ·simp only [if_pos c167]; exact kinds_139 op (by omega) c167 w
 simp only [if_neg c167]
 by_cases c173 : op ≤ 173
 ·simp only [if_pos c173]; exact kinds_168 op (by omega) c173 w
 simp only [if_neg c173]
 by_cases c193 : op ≤ 193
 ·simp only [if_pos c193]; exact kinds_174 op (by omega) c193 w
 simp only [if_neg c193]
 exact kinds_194 op (by omega) h1 w
end Go.Proofs.YtkceplamaocmmaaGreatDoor
namespace Go.Proofs.YtkceplamaocmmaaGreatDoor
open Go.RowKit
def isTwo (op : Int) : Bool := (70 ≤ op && op ≤ 79) || (81 ≤ op && op ≤ 90) || (106 ≤ op && op ≤ 120) || (124 ≤ op && op ≤ 138)
def insN (op : Int) : Int := if isOne op then 1 else if isTwo op then 2 else 0
theorem one_err (op : Int) (h0 : 0 ≤ op) (h1 : op ≤ 255) (w : World) (hT : TabIn w) : ∃ R, Calls Tryz.prog 76 #[.int .u8 op, .int .i64 1] w fun e w' => e = .returned (.tuple #[.int .i64 R, .int .i64 (if isOne op then 0 else 6)]) ∧ w' = w := by
 by_cases h69 : op = 69
 ·subst h69; exact ⟨_, pone_69 1 w⟩
 by_cases h80 : op = 80
 ·subst h80; exact ⟨_, pone_80 1 w⟩
 by_cases h103 : op = 103
 ·subst h103; exact ⟨_, pone_103 1 w⟩
 by_cases h121 : op = 121
 ·subst h121; exact ⟨_, pone_121 1 w⟩
 by_cases h104 : op = 104
 ·subst h104; exact ⟨_, pone_104 1 w hT⟩
 by_cases h122 : op = 122
 ·subst h122; exact ⟨_, pone_122 1 w hT⟩
 by_cases h105 : op = 105
 ·subst h105; exact ⟨_, pone_105 1 w⟩
 by_cases h123 : op = 123
 ·subst h123; exact ⟨_, pone_123 1 w⟩
 by_cases h192 : op = 192
 ·subst h192; exact ⟨_, pone_192 1 w⟩
 by_cases h194 : op = 194
 ·subst h194; exact ⟨_, pone_194 1 w⟩
 by_cases h193 : op = 193
 ·subst h193; exact ⟨_, pone_193 1 w⟩
 by_cases h195 : op = 195
 ·subst h195; exact ⟨_, pone_195 1 w⟩
 by_cases h167 : op = 167
 ·subst h167; exact ⟨_, pone_167 1 w⟩
 by_cases h172 : op = 172
 ·subst h172; exact ⟨_, pone_172 1 w⟩
 by_cases h196 : op = 196
 ·subst h196; exact ⟨_, pone_196 1 w⟩
 by_cases h173 : op = 173
 ·subst h173; exact ⟨_, pone_173 1 w⟩
 have e : isOne op = false := by
  simp only [isOne, Bool.or_eq_false_iff, Bool.and_eq_false_iff, beq_eq_false_iff_ne, decide_eq_false_iff_not]
  omega
 rw [e]
 exact ⟨_, pone_no op 1 h0 h1 e w⟩
theorem same_below {Z : Value} {P : Program} {f : Nat} {args : Array Value} (h : ∀ w, Calls P f args w fun e w' => e = .returned Z ∧ w' = w) (w : World) : Calls P f args w fun e w' => e = .returned Z ∧ Below w.heap.size w w' := by
 refine (h w).mono ?_
 rintro e w1 ⟨rfl, rfl⟩
 exact ⟨rfl, Below.refl _ _⟩
theorem two_err (op : Int) (h0 : 0 ≤ op) (h1 : op ≤ 255) (w : World) : ∃ R, Calls Tryz.prog 78 #[.int .u8 op, .int .i64 1, .int .i64 1] w fun e w' => e = .returned (.tuple #[.int .i64 R, .int .i64 (if isTwo op then 0 else 6)]) ∧ Below w.heap.size w w' := by
 have b1 : -9223372036854775808 ≤ (1 : Int) ∧ (1 : Int) ≤ 9223372036854775807 := by omega
 by_cases h70 : op = 70
 ·subst h70
  exact ⟨_, same_below (num_70 1 1) w⟩
 by_cases h71 : op = 71
 ·subst h71
  exact ⟨_, same_below (num_71 1 1) w⟩
 by_cases h72 : op = 72
 ·subst h72
  exact ⟨_, same_below (num_72 1 1) w⟩
 by_cases h73 : op = 73
 ·subst h73
  exact ⟨_, same_below (num_73 1 1) w⟩
 by_cases h74 : op = 74
 ·subst h74
  exact ⟨_, same_below (num_74 1 1) w⟩
 by_cases h75 : op = 75
 ·subst h75
  exact ⟨_, same_below (num_75 1 1) w⟩
 by_cases h76 : op = 76
 ·subst h76
  exact ⟨_, same_below (num_76 1 1) w⟩
 by_cases h77 : op = 77
 ·subst h77
  exact ⟨_, same_below (num_77 1 1) w⟩
 by_cases h78 : op = 78
 ·subst h78
  exact ⟨_, same_below (num_78 1 1) w⟩
 by_cases h79 : op = 79
 ·subst h79
  exact ⟨_, same_below (num_79 1 1) w⟩
 by_cases h81 : op = 81
 ·subst h81
  exact ⟨_, same_below (num_81 1 1 b1 b1) w⟩
 by_cases h82 : op = 82
 ·subst h82
  exact ⟨_, same_below (num_82 1 1 b1 b1) w⟩
 by_cases h83 : op = 83
 ·subst h83
  exact ⟨_, same_below (num_83 1 1 b1 b1) w⟩
 by_cases h84 : op = 84
 ·subst h84
  exact ⟨_, same_below (num_84 1 1 b1 b1) w⟩
 by_cases h85 : op = 85
 ·subst h85
  exact ⟨_, same_below (num_85 1 1 b1 b1) w⟩
 by_cases h86 : op = 86
 ·subst h86
  exact ⟨_, same_below (num_86 1 1 b1 b1) w⟩
 by_cases h87 : op = 87
 ·subst h87
  exact ⟨_, same_below (num_87 1 1 b1 b1) w⟩
 by_cases h88 : op = 88
 ·subst h88
  exact ⟨_, same_below (num_88 1 1 b1 b1) w⟩
 by_cases h89 : op = 89
 ·subst h89
  exact ⟨_, same_below (num_89 1 1 b1 b1) w⟩
 by_cases h90 : op = 90
 ·subst h90
  exact ⟨_, same_below (num_90 1 1 b1 b1) w⟩
 by_cases h106 : op = 106
 ·subst h106
  exact ⟨_, same_below (num_106 1 1) w⟩
 by_cases h107 : op = 107
 ·subst h107
  exact ⟨_, same_below (num_107 1 1) w⟩
 by_cases h108 : op = 108
 ·subst h108
  exact ⟨_, same_below (num_108 1 1) w⟩
 by_cases h109 : op = 109
 ·subst h109
  have e : (recV 3 (BitVec.ofInt 32 1) (BitVec.ofInt 32 1)).2 = 0 := by decide +kernel
  have h := same_below (num_109 1 1) w
  rw [e] at h
  exact ⟨_, h⟩
 by_cases h110 : op = 110
 ·subst h110
  have e : (recV 4 (BitVec.ofInt 32 1) (BitVec.ofInt 32 1)).2 = 0 := by decide +kernel
  have h := same_below (num_110 1 1) w
  rw [e] at h
  exact ⟨_, h⟩
 by_cases h111 : op = 111
 ·subst h111
  have e : (recV 5 (BitVec.ofInt 32 1) (BitVec.ofInt 32 1)).2 = 0 := by decide +kernel
  have h := same_below (num_111 1 1) w
  rw [e] at h
  exact ⟨_, h⟩
 by_cases h112 : op = 112
 ·subst h112
  have e : (recV 6 (BitVec.ofInt 32 1) (BitVec.ofInt 32 1)).2 = 0 := by decide +kernel
  have h := same_below (num_112 1 1) w
  rw [e] at h
  exact ⟨_, h⟩
 by_cases h113 : op = 113
 ·subst h113
  exact ⟨_, same_below (num_113 1 1) w⟩
 by_cases h114 : op = 114
 ·subst h114
  exact ⟨_, same_below (num_114 1 1) w⟩
 by_cases h115 : op = 115
 ·subst h115
  exact ⟨_, same_below (num_115 1 1) w⟩
 by_cases h116 : op = 116
 ·subst h116
  exact ⟨_, same_below (num_116 1 1) w⟩
 by_cases h117 : op = 117
 ·subst h117
  exact ⟨_, same_below (num_117 1 1) w⟩
 by_cases h118 : op = 118
 ·subst h118
  exact ⟨_, same_below (num_118 1 1) w⟩
 by_cases h119 : op = 119
 ·subst h119
  exact ⟨_, num_119 1 1 w⟩
 by_cases h120 : op = 120
 ·subst h120
  exact ⟨_, num_120 1 1 w⟩
 by_cases h124 : op = 124
 ·subst h124
  exact ⟨_, same_below (num_124 1 1 b1 b1) w⟩
 by_cases h125 : op = 125
 ·subst h125
  exact ⟨_, same_below (num_125 1 1 b1 b1) w⟩
 by_cases h126 : op = 126
 ·subst h126
  exact ⟨_, same_below (num_126 1 1 b1 b1) w⟩
 by_cases h127 : op = 127
 ·subst h127
  have e : (recV 3 (BitVec.ofInt 64 1) (BitVec.ofInt 64 1)).2 = 0 := by decide +kernel
  have h := same_below (num_127 1 1 b1 b1) w
  rw [e] at h
  exact ⟨_, h⟩
 by_cases h128 : op = 128
 ·subst h128
  have e : (recV 4 (BitVec.ofInt 64 1) (BitVec.ofInt 64 1)).2 = 0 := by decide +kernel
  have h := same_below (num_128 1 1 b1 b1) w
  rw [e] at h
  exact ⟨_, h⟩
 by_cases h129 : op = 129
 ·subst h129
  have e : (recV 5 (BitVec.ofInt 64 1) (BitVec.ofInt 64 1)).2 = 0 := by decide +kernel
  have h := same_below (num_129 1 1 b1 b1) w
  rw [e] at h
  exact ⟨_, h⟩
 by_cases h130 : op = 130
 ·subst h130
  have e : (recV 6 (BitVec.ofInt 64 1) (BitVec.ofInt 64 1)).2 = 0 := by decide +kernel
  have h := same_below (num_130 1 1 b1 b1) w
  rw [e] at h
  exact ⟨_, h⟩
 by_cases h131 : op = 131
 ·subst h131
  exact ⟨_, same_below (num_131 1 1 b1 b1) w⟩
 by_cases h132 : op = 132
 ·subst h132
  exact ⟨_, same_below (num_132 1 1 b1 b1) w⟩
 by_cases h133 : op = 133
 ·subst h133
  exact ⟨_, same_below (num_133 1 1 b1 b1) w⟩
 by_cases h134 : op = 134
 ·subst h134
  exact ⟨_, same_below (num_134 1 1 b1 b1) w⟩
 by_cases h135 : op = 135
 ·subst h135
  exact ⟨_, same_below (num_135 1 1 b1 b1) w⟩
 by_cases h136 : op = 136
 ·subst h136
  exact ⟨_, same_below (num_136 1 1 b1 b1) w⟩
 by_cases h137 : op = 137
 ·subst h137
  exact ⟨_, num_137 1 1 b1 b1 w⟩
 by_cases h138 : op = 138
 ·subst h138
  exact ⟨_, num_138 1 1 b1 b1 w⟩
 have e : isTwo op = false := by
  simp only [isTwo, Bool.or_eq_false_iff, Bool.and_eq_false_iff, decide_eq_false_iff_not]
  omega
 rw [e]
 refine ⟨0, same_below ?_ w⟩
 intro w
 by_cases ha : 80 ≤ op ∧ op ≤ 90
 ·exact pick_asks op 1 1 0 6 ha.1 ha.2 (fun w w' => w' = w) (fun w => two64_other (op - 11) 1 1 (by rw [beq_eq_false_iff_ne]; omega) (by rw [beq_eq_false_iff_ne]; omega) (by rw [beq_eq_false_iff_ne]; omega) (by rw [beq_eq_false_iff_ne]; omega) (by rw [beq_eq_false_iff_ne]; omega) (by rw [beq_eq_false_iff_ne]; omega) (by rw [beq_eq_false_iff_ne]; omega) (by rw [beq_eq_false_iff_ne]; omega) (by rw [beq_eq_false_iff_ne]; omega) (by rw [beq_eq_false_iff_ne]; omega) (by rw [beq_eq_false_iff_ne]; omega) (by rw [beq_eq_false_iff_ne]; omega) (by rw [beq_eq_false_iff_ne]; omega) (by rw [beq_eq_false_iff_ne]; omega) (by rw [beq_eq_false_iff_ne]; omega) (by rw [beq_eq_false_iff_ne]; omega) (by rw [beq_eq_false_iff_ne]; omega) (by rw [beq_eq_false_iff_ne]; omega) (by rw [beq_eq_false_iff_ne]; omega) (by rw [beq_eq_false_iff_ne]; omega) (by rw [beq_eq_false_iff_ne]; omega) (by rw [beq_eq_false_iff_ne]; omega) (by rw [beq_eq_false_iff_ne]; omega) (by rw [beq_eq_false_iff_ne]; omega) (by rw [beq_eq_false_iff_ne]; omega) w) w
 by_cases hm : 121 ≤ op ∧ op ≤ 138
 ·exact pick_makes op 1 1 0 6 hm.1 hm.2 (fun w w' => w' = w) (fun w => two64_other (op - 18) 1 1 (by rw [beq_eq_false_iff_ne]; omega) (by rw [beq_eq_false_iff_ne]; omega) (by rw [beq_eq_false_iff_ne]; omega) (by rw [beq_eq_false_iff_ne]; omega) (by rw [beq_eq_false_iff_ne]; omega) (by rw [beq_eq_false_iff_ne]; omega) (by rw [beq_eq_false_iff_ne]; omega) (by rw [beq_eq_false_iff_ne]; omega) (by rw [beq_eq_false_iff_ne]; omega) (by rw [beq_eq_false_iff_ne]; omega) (by rw [beq_eq_false_iff_ne]; omega) (by rw [beq_eq_false_iff_ne]; omega) (by rw [beq_eq_false_iff_ne]; omega) (by rw [beq_eq_false_iff_ne]; omega) (by rw [beq_eq_false_iff_ne]; omega) (by rw [beq_eq_false_iff_ne]; omega) (by rw [beq_eq_false_iff_ne]; omega) (by rw [beq_eq_false_iff_ne]; omega) (by rw [beq_eq_false_iff_ne]; omega) (by rw [beq_eq_false_iff_ne]; omega) (by rw [beq_eq_false_iff_ne]; omega) (by rw [beq_eq_false_iff_ne]; omega) (by rw [beq_eq_false_iff_ne]; omega) (by rw [beq_eq_false_iff_ne]; omega) (by rw [beq_eq_false_iff_ne]; omega) w) w
 ·exact pick_short op 1 1 0 6 (by omega) (by omega) (by omega) (fun w w' => w' = w) (fun w => two32_other op _ _ (by rw [beq_eq_false_iff_ne]; omega) (by rw [beq_eq_false_iff_ne]; omega) (by rw [beq_eq_false_iff_ne]; omega) (by rw [beq_eq_false_iff_ne]; omega) (by rw [beq_eq_false_iff_ne]; omega) (by rw [beq_eq_false_iff_ne]; omega) (by rw [beq_eq_false_iff_ne]; omega) (by rw [beq_eq_false_iff_ne]; omega) (by rw [beq_eq_false_iff_ne]; omega) (by rw [beq_eq_false_iff_ne]; omega) (by rw [beq_eq_false_iff_ne]; omega) (by rw [beq_eq_false_iff_ne]; omega) (by rw [beq_eq_false_iff_ne]; omega) (by rw [beq_eq_false_iff_ne]; omega) (by rw [beq_eq_false_iff_ne]; omega) (by rw [beq_eq_false_iff_ne]; omega) (by rw [beq_eq_false_iff_ne]; omega) (by rw [beq_eq_false_iff_ne]; omega) (by rw [beq_eq_false_iff_ne]; omega) (by rw [beq_eq_false_iff_ne]; omega) (by rw [beq_eq_false_iff_ne]; omega) (by rw [beq_eq_false_iff_ne]; omega) (by rw [beq_eq_false_iff_ne]; omega) (by rw [beq_eq_false_iff_ne]; omega) (by rw [beq_eq_false_iff_ne]; omega) w) w
theorem taken_core (op R1 E1 R2 E2 N : Int) (h : (E1 = 0 ∧ N = 1) ∨ (E1 = 6 ∧ E2 = 0 ∧ N = 2) ∨ (E1 = 6 ∧ E2 = 6 ∧ N = 0)) (w : World) (HO : Hid (Calls Tryz.prog 76 #[.int .u8 op, .int .i64 1] w fun e w' => e = .returned (.tuple #[.int .i64 R1, .int .i64 E1]) ∧ w' = w)) (HT : Hid (Calls Tryz.prog 78 #[.int .u8 op, .int .i64 1, .int .i64 1] w fun e w' => e = .returned (.tuple #[.int .i64 R2, .int .i64 E2]) ∧ Below w.heap.size w w')) :
  Calls Tryz.prog 69 #[.int .u8 op] w fun e w' => e = .returned (.int .i64 N) ∧ Below w.heap.size w w' := by
 rcases h with ⟨rfl, rfl⟩ | ⟨rfl, rfl, rfl⟩ | ⟨rfl, rfl, rfl⟩
 ·go_enter Tryz.func69, Tryz.ntmps69
  go_wp2_with fail
  refine HO.out.mono ?_
  rintro e w1 ⟨rfl, rfl⟩
  go_wp2
  go_ret
  exact ⟨rfl, Below.refl _ _⟩
 ·go_enter Tryz.func69, Tryz.ntmps69
  go_wp2_with fail
  refine HO.out.mono ?_
  rintro e w1 ⟨rfl, rfl⟩
  go_wp2_with fail
  refine HT.out.mono ?_
  rintro e w1 ⟨rfl, b⟩
  go_wp2
  go_ret
  exact ⟨rfl, b⟩
 ·go_enter Tryz.func69, Tryz.ntmps69
  go_wp2_with fail
  refine HO.out.mono ?_
  rintro e w1 ⟨rfl, rfl⟩
  go_wp2_with fail
  refine HT.out.mono ?_
  rintro e w1 ⟨rfl, b⟩
  go_wp2
  go_ret
  exact ⟨rfl, b⟩
theorem taken_any (op : Int) (h0 : 0 ≤ op) (h1 : op ≤ 255) (w : World) (hT : TabIn w) :
  Calls Tryz.prog 69 #[.int .u8 op] w fun e w' => e = .returned (.int .i64 (insN op)) ∧ Below w.heap.size w w' := by
 obtain ⟨R1, c1⟩ := one_err op h0 h1 w hT
 obtain ⟨R2, c2⟩ := two_err op h0 h1 w
 refine taken_core op R1 _ R2 _ _ ?_ w c1 c2
 unfold insN
 cases isOne op <;> cases isTwo op <;> simp
end Go.Proofs.YtkceplamaocmmaaGreatDoor
namespace Go.Proofs.YtkceplamaocmmaaGreatDoor
open Go.RowKit
def IsK (w : World) (B : Nat) (v : Value) (ks : List Int) : Prop :=
 (ks = [] ∧ v = .slice none 0 0) ∨ (0 < ks.length ∧ ∃ g, v = .slice (some ⟨g, 0, none⟩) ks.length ks.length ∧ B ≤ g ∧ g < w.heap.size ∧ ∀ i, i < ks.length → w.cell? ⟨g, i, none⟩ = some (.int .u8 (ks.getD i 0)))
theorem isK_nil (w : World) (B : Nat) : IsK w B (.slice none 0 0) [] := Or.inl ⟨rfl, rfl⟩
theorem isK_one (w : World) (B g : Nat) (a : Int) (hB : B ≤ g) (hg : g < w.heap.size) (h : w.cell? ⟨g, 0, none⟩ = some (.int .u8 a)) : IsK w B (.slice (some ⟨g, 0, none⟩) 1 1) [a] :=
 Or.inr ⟨by simp, g, rfl, hB, hg, fun i hi => by
  have : i = 0 := by simp at hi; omega
  subst this; exact h⟩
theorem isK_two (w : World) (B g : Nat) (a b : Int) (hB : B ≤ g) (hg : g < w.heap.size) (h : w.cell? ⟨g, 0, none⟩ = some (.int .u8 a)) (h' : w.cell? ⟨g, 1, none⟩ = some (.int .u8 b)) : IsK w B (.slice (some ⟨g, 0, none⟩) 2 2) [a, b] :=
 Or.inr ⟨by simp, g, rfl, hB, hg, fun i hi => by
  have : i = 0 ∨ i = 1 := by simp at hi; omega
  rcases this with rfl | rfl
  ·exact h
  ·exact h'⟩
def kMem (op : Int) : Int := if op = 40 ∨ op = 44 ∨ op = 45 ∨ op = 46 ∨ op = 47 ∨ op = 54 ∨ op = 58 ∨ op = 59 then 127 else 126
theorem place_44 (w : World) : Calls Tryz.prog 98 #[.int .u8 44] w fun e w' => e = .returned (.tuple #[.slice (some ⟨w.heap.size, 0, none⟩) 1 1, .slice (some ⟨w.heap.size + 1, 0, none⟩) 1 1, .bool true]) ∧ w' = (w.alloc (.cells #[.int .u8 127] 111)).alloc (.cells #[.int .u8 127] 111) := by
 go_enter Tryz.func98, Tryz.ntmps98
 go_wp2
 go_ret3
 exact ⟨rfl, rfl⟩
theorem place_45 (w : World) : Calls Tryz.prog 98 #[.int .u8 45] w fun e w' => e = .returned (.tuple #[.slice (some ⟨w.heap.size, 0, none⟩) 1 1, .slice (some ⟨w.heap.size + 1, 0, none⟩) 1 1, .bool true]) ∧ w' = (w.alloc (.cells #[.int .u8 127] 111)).alloc (.cells #[.int .u8 127] 111) := by
 go_enter Tryz.func98, Tryz.ntmps98
 go_wp2
 go_ret3
 exact ⟨rfl, rfl⟩
theorem place_48 (w : World) : Calls Tryz.prog 98 #[.int .u8 48] w fun e w' => e = .returned (.tuple #[.slice (some ⟨w.heap.size, 0, none⟩) 1 1, .slice (some ⟨w.heap.size + 1, 0, none⟩) 1 1, .bool true]) ∧ w' = (w.alloc (.cells #[.int .u8 127] 111)).alloc (.cells #[.int .u8 126] 111) := by
 go_enter Tryz.func98, Tryz.ntmps98
 go_wp2
 go_ret3
 exact ⟨rfl, rfl⟩
theorem place_49 (w : World) : Calls Tryz.prog 98 #[.int .u8 49] w fun e w' => e = .returned (.tuple #[.slice (some ⟨w.heap.size, 0, none⟩) 1 1, .slice (some ⟨w.heap.size + 1, 0, none⟩) 1 1, .bool true]) ∧ w' = (w.alloc (.cells #[.int .u8 127] 111)).alloc (.cells #[.int .u8 126] 111) := by
 go_enter Tryz.func98, Tryz.ntmps98
 go_wp2
 go_ret3
 exact ⟨rfl, rfl⟩
theorem place_58 (w : World) : Calls Tryz.prog 98 #[.int .u8 58] w fun e w' => e = .returned (.tuple #[.slice (some ⟨w.heap.size, 0, none⟩) 2 2, .slice none 0 0, .bool true]) ∧ w' = w.alloc (.cells #[.int .u8 127, .int .u8 127] 111) := by
 go_enter Tryz.func98, Tryz.ntmps98
 go_wp2
 go_ret3
 exact ⟨rfl, rfl⟩
theorem place_60 (w : World) : Calls Tryz.prog 98 #[.int .u8 60] w fun e w' => e = .returned (.tuple #[.slice (some ⟨w.heap.size, 0, none⟩) 2 2, .slice none 0 0, .bool true]) ∧ w' = w.alloc (.cells #[.int .u8 127, .int .u8 126] 111) := by
 go_enter Tryz.func98, Tryz.ntmps98
 go_wp2
 go_ret3
 exact ⟨rfl, rfl⟩
theorem place_46 (w : World) : Calls Tryz.prog 98 #[.int .u8 46] w fun e w' => e = .returned (.tuple #[.slice (some ⟨w.heap.size, 0, none⟩) 1 1, .slice (some ⟨w.heap.size + 1, 0, none⟩) 1 1, .bool true]) ∧ w' = (w.alloc (.cells #[.int .u8 127] 111)).alloc (.cells #[.int .u8 127] 111) := by
 go_enter Tryz.func98, Tryz.ntmps98
 go_wp2
 go_ret3
 exact ⟨rfl, rfl⟩
theorem place_47 (w : World) : Calls Tryz.prog 98 #[.int .u8 47] w fun e w' => e = .returned (.tuple #[.slice (some ⟨w.heap.size, 0, none⟩) 1 1, .slice (some ⟨w.heap.size + 1, 0, none⟩) 1 1, .bool true]) ∧ w' = (w.alloc (.cells #[.int .u8 127] 111)).alloc (.cells #[.int .u8 127] 111) := by
 go_enter Tryz.func98, Tryz.ntmps98
 go_wp2
 go_ret3
 exact ⟨rfl, rfl⟩
theorem place_50 (w : World) : Calls Tryz.prog 98 #[.int .u8 50] w fun e w' => e = .returned (.tuple #[.slice (some ⟨w.heap.size, 0, none⟩) 1 1, .slice (some ⟨w.heap.size + 1, 0, none⟩) 1 1, .bool true]) ∧ w' = (w.alloc (.cells #[.int .u8 127] 111)).alloc (.cells #[.int .u8 126] 111) := by
 go_enter Tryz.func98, Tryz.ntmps98
 go_wp2
 go_ret3
 exact ⟨rfl, rfl⟩
theorem place_51 (w : World) : Calls Tryz.prog 98 #[.int .u8 51] w fun e w' => e = .returned (.tuple #[.slice (some ⟨w.heap.size, 0, none⟩) 1 1, .slice (some ⟨w.heap.size + 1, 0, none⟩) 1 1, .bool true]) ∧ w' = (w.alloc (.cells #[.int .u8 127] 111)).alloc (.cells #[.int .u8 126] 111) := by
 go_enter Tryz.func98, Tryz.ntmps98
 go_wp2
 go_ret3
 exact ⟨rfl, rfl⟩
theorem place_59 (w : World) : Calls Tryz.prog 98 #[.int .u8 59] w fun e w' => e = .returned (.tuple #[.slice (some ⟨w.heap.size, 0, none⟩) 2 2, .slice none 0 0, .bool true]) ∧ w' = w.alloc (.cells #[.int .u8 127, .int .u8 127] 111) := by
 go_enter Tryz.func98, Tryz.ntmps98
 go_wp2
 go_ret3
 exact ⟨rfl, rfl⟩
theorem place_61 (w : World) : Calls Tryz.prog 98 #[.int .u8 61] w fun e w' => e = .returned (.tuple #[.slice (some ⟨w.heap.size, 0, none⟩) 2 2, .slice none 0 0, .bool true]) ∧ w' = w.alloc (.cells #[.int .u8 127, .int .u8 126] 111) := by
 go_enter Tryz.func98, Tryz.ntmps98
 go_wp2
 go_ret3
 exact ⟨rfl, rfl⟩
theorem place_40 (w : World) : Calls Tryz.prog 98 #[.int .u8 40] w fun e w' => e = .returned (.tuple #[.slice (some ⟨w.heap.size, 0, none⟩) 1 1, .slice (some ⟨w.heap.size + 1, 0, none⟩) 1 1, .bool true]) ∧ w' = (w.alloc (.cells #[.int .u8 127] 111)).alloc (.cells #[.int .u8 127] 111) := by
 go_enter Tryz.func98, Tryz.ntmps98
 go_wp2
 go_ret3
 exact ⟨rfl, rfl⟩
theorem place_52 (w : World) : Calls Tryz.prog 98 #[.int .u8 52] w fun e w' => e = .returned (.tuple #[.slice (some ⟨w.heap.size, 0, none⟩) 1 1, .slice (some ⟨w.heap.size + 1, 0, none⟩) 1 1, .bool true]) ∧ w' = (w.alloc (.cells #[.int .u8 127] 111)).alloc (.cells #[.int .u8 126] 111) := by
 go_enter Tryz.func98, Tryz.ntmps98
 go_wp2
 go_ret3
 exact ⟨rfl, rfl⟩
theorem place_53 (w : World) : Calls Tryz.prog 98 #[.int .u8 53] w fun e w' => e = .returned (.tuple #[.slice (some ⟨w.heap.size, 0, none⟩) 1 1, .slice (some ⟨w.heap.size + 1, 0, none⟩) 1 1, .bool true]) ∧ w' = (w.alloc (.cells #[.int .u8 127] 111)).alloc (.cells #[.int .u8 126] 111) := by
 go_enter Tryz.func98, Tryz.ntmps98
 go_wp2
 go_ret3
 exact ⟨rfl, rfl⟩
theorem place_54 (w : World) : Calls Tryz.prog 98 #[.int .u8 54] w fun e w' => e = .returned (.tuple #[.slice (some ⟨w.heap.size, 0, none⟩) 2 2, .slice none 0 0, .bool true]) ∧ w' = w.alloc (.cells #[.int .u8 127, .int .u8 127] 111) := by
 go_enter Tryz.func98, Tryz.ntmps98
 go_wp2
 go_ret3
 exact ⟨rfl, rfl⟩
theorem place_62 (w : World) : Calls Tryz.prog 98 #[.int .u8 62] w fun e w' => e = .returned (.tuple #[.slice (some ⟨w.heap.size, 0, none⟩) 2 2, .slice none 0 0, .bool true]) ∧ w' = w.alloc (.cells #[.int .u8 127, .int .u8 126] 111) := by
 go_enter Tryz.func98, Tryz.ntmps98
 go_wp2
 go_ret3
 exact ⟨rfl, rfl⟩
theorem place_41 (w : World) : Calls Tryz.prog 98 #[.int .u8 41] w fun e w' => e = .returned (.tuple #[.slice (some ⟨w.heap.size, 0, none⟩) 1 1, .slice (some ⟨w.heap.size + 1, 0, none⟩) 1 1, .bool true]) ∧ w' = (w.alloc (.cells #[.int .u8 127] 111)).alloc (.cells #[.int .u8 126] 111) := by
 go_enter Tryz.func98, Tryz.ntmps98
 go_wp2
 go_ret3
 exact ⟨rfl, rfl⟩
theorem place_55 (w : World) : Calls Tryz.prog 98 #[.int .u8 55] w fun e w' => e = .returned (.tuple #[.slice (some ⟨w.heap.size, 0, none⟩) 2 2, .slice none 0 0, .bool true]) ∧ w' = w.alloc (.cells #[.int .u8 127, .int .u8 126] 111) := by
 go_enter Tryz.func98, Tryz.ntmps98
 go_wp2
 go_ret3
 exact ⟨rfl, rfl⟩
theorem place_load (op : Int) (h : 0 < insW op) (h54 : op < 54) (w : World) : Calls Tryz.prog 98 #[.int .u8 op] w fun e w' => e = .returned (.tuple #[.slice (some ⟨w.heap.size, 0, none⟩) 1 1, .slice (some ⟨w.heap.size + 1, 0, none⟩) 1 1, .bool true]) ∧ w' = (w.alloc (.cells #[.int .u8 127] 111)).alloc (.cells #[.int .u8 (kMem op)] 111) := by
 by_cases h44 : op = 44
 ·subst h44; exact place_44 w
 by_cases h45 : op = 45
 ·subst h45; exact place_45 w
 by_cases h48 : op = 48
 ·subst h48; exact place_48 w
 by_cases h49 : op = 49
 ·subst h49; exact place_49 w
 by_cases h46 : op = 46
 ·subst h46; exact place_46 w
 by_cases h47 : op = 47
 ·subst h47; exact place_47 w
 by_cases h50 : op = 50
 ·subst h50; exact place_50 w
 by_cases h51 : op = 51
 ·subst h51; exact place_51 w
 by_cases h40 : op = 40
 ·subst h40; exact place_40 w
 by_cases h52 : op = 52
 ·subst h52; exact place_52 w
 by_cases h53 : op = 53
 ·subst h53; exact place_53 w
 by_cases h41 : op = 41
 ·subst h41; exact place_41 w
 exfalso
 unfold insW at h
 rw [if_neg (by omega), if_neg (by omega), if_neg (by omega), if_neg (by omega)] at h
 omega
theorem place_store (op : Int) (h : 0 < insW op) (h54 : ¬ op < 54) (w : World) : Calls Tryz.prog 98 #[.int .u8 op] w fun e w' => e = .returned (.tuple #[.slice (some ⟨w.heap.size, 0, none⟩) 2 2, .slice none 0 0, .bool true]) ∧ w' = w.alloc (.cells #[.int .u8 127, .int .u8 (kMem op)] 111) := by
 by_cases h58 : op = 58
 ·subst h58; exact place_58 w
 by_cases h60 : op = 60
 ·subst h60; exact place_60 w
 by_cases h59 : op = 59
 ·subst h59; exact place_59 w
 by_cases h61 : op = 61
 ·subst h61; exact place_61 w
 by_cases h54 : op = 54
 ·subst h54; exact place_54 w
 by_cases h62 : op = 62
 ·subst h62; exact place_62 w
 by_cases h55 : op = 55
 ·subst h55; exact place_55 w
 exfalso
 unfold insW at h
 rw [if_neg (by omega), if_neg (by omega), if_neg (by omega), if_neg (by omega)] at h
 omega
def pIn (op : Int) : List Int := if op = 63 ∨ op = 65 ∨ op = 66 then [] else if op = 64 then [127] else if 0 < insW op then (if op < 54 then [127] else [127, kMem op]) else if insN op = 1 then [kTake op] else if insN op = 2 then [kTake op, kTake op] else []
def pOut (op : Int) : List Int := if op = 63 ∨ op = 65 then [127] else if op = 66 then [126] else if op = 64 then [127] else if 0 < insW op then (if op < 54 then [kMem op] else []) else if insN op = 1 then [kGive op] else if insN op = 2 then [kGive op] else []
def pIs (op : Int) : Bool := decide (63 ≤ op ∧ op ≤ 66) || decide (0 < insW op) || decide (insN op = 1) || decide (insN op = 2)
theorem plain_63 (w : World) : Calls Tryz.prog 85 #[.int .u8 63] w fun e w' => ∃ v1 v2, e = .returned (.tuple #[v1, v2, .bool true]) ∧ IsK w' w.heap.size v1 [] ∧ IsK w' w.heap.size v2 [127] ∧ Below w.heap.size w w' := by
 go_enter Tryz.func85, Tryz.ntmps85
 go_wp2
 go_ret3
 exact ⟨_, _, rfl, isK_nil _ _, isK_one _ _ _ _ (Nat.le_refl _) (by simp) (by simp), (Below.refl _ _).alloc (Nat.le_refl _) _⟩
theorem plain_65 (w : World) : Calls Tryz.prog 85 #[.int .u8 65] w fun e w' => ∃ v1 v2, e = .returned (.tuple #[v1, v2, .bool true]) ∧ IsK w' w.heap.size v1 [] ∧ IsK w' w.heap.size v2 [127] ∧ Below w.heap.size w w' := by
 go_enter Tryz.func85, Tryz.ntmps85
 go_wp2
 go_ret3
 exact ⟨_, _, rfl, isK_nil _ _, isK_one _ _ _ _ (Nat.le_refl _) (by simp) (by simp), (Below.refl _ _).alloc (Nat.le_refl _) _⟩
theorem plain_66 (w : World) : Calls Tryz.prog 85 #[.int .u8 66] w fun e w' => ∃ v1 v2, e = .returned (.tuple #[v1, v2, .bool true]) ∧ IsK w' w.heap.size v1 [] ∧ IsK w' w.heap.size v2 [126] ∧ Below w.heap.size w w' := by
 go_enter Tryz.func85, Tryz.ntmps85
 go_wp2
 go_ret3
 exact ⟨_, _, rfl, isK_nil _ _, isK_one _ _ _ _ (Nat.le_refl _) (by simp) (by simp), (Below.refl _ _).alloc (Nat.le_refl _) _⟩
theorem plain_64 (w : World) : Calls Tryz.prog 85 #[.int .u8 64] w fun e w' => ∃ v1 v2, e = .returned (.tuple #[v1, v2, .bool true]) ∧ IsK w' w.heap.size v1 [127] ∧ IsK w' w.heap.size v2 [127] ∧ Below w.heap.size w w' := by
 go_enter Tryz.func85, Tryz.ntmps85
 go_wp2
 go_ret3
 exact ⟨_, _, rfl, isK_one _ _ _ _ (Nat.le_refl _) (by simp; omega) (by simp), isK_one _ _ _ _ (by omega) (by simp) (by simp), ((Below.refl _ _).alloc (Nat.le_refl _) _).alloc (by simp) _⟩
theorem plain_place (op wv : Int) (_h63 : (op == 63) = false) (_h65 : (op == 65) = false) (_h66 : (op == 66) = false) (_h64 : (op == 64) = false) (_hw : 0 < wv) (v1 v2 : Value) (w : World) (R : World → Prop) (HW : Hid (∀ w, Calls Tryz.prog 68 #[.int .u8 op] w fun e w' => e = .returned (.int .i64 wv) ∧ w' = w)) (HP : Hid (Calls Tryz.prog 98 #[.int .u8 op] w fun e w' => e = .returned (.tuple #[v1, v2, .bool true]) ∧ R w')) :
  Calls Tryz.prog 85 #[.int .u8 op] w fun e w' => e = .returned (.tuple #[v1, v2, .bool true]) ∧ R w' := by
 go_enter Tryz.func85, Tryz.ntmps85
 go_wp2_with fail
 refine (HW.out _).mono ?_
 rintro e w1 ⟨rfl, rfl⟩
 go_wp2_with fail
 refine HP.out.mono ?_
 rintro e w1 ⟨rfl, hr⟩
 go_wp2
 go_ret3
 exact ⟨rfl, hr⟩
theorem plain_one (op t g : Int) (_h63 : (op == 63) = false) (_h65 : (op == 65) = false) (_h66 : (op == 66) = false) (_h64 : (op == 64) = false) (w : World) (HW : Hid (∀ w, Calls Tryz.prog 68 #[.int .u8 op] w fun e w' => e = .returned (.int .i64 0) ∧ w' = w)) (HK : Hid (∀ w, Calls Tryz.prog 99 #[.int .u8 op] w fun e w' => e = .returned (.tuple #[.int .u8 t, .int .u8 g]) ∧ w' = w)) (HN : Hid (Calls Tryz.prog 69 #[.int .u8 op] w fun e w' => e = .returned (.int .i64 1) ∧ Below w.heap.size w w')) :
  Calls Tryz.prog 85 #[.int .u8 op] w fun e w' => ∃ v1 v2, e = .returned (.tuple #[v1, v2, .bool true]) ∧ IsK w' w.heap.size v1 [t] ∧ IsK w' w.heap.size v2 [g] ∧ Below w.heap.size w w' := by
 go_enter Tryz.func85, Tryz.ntmps85
 go_wp2_with fail
 refine (HW.out _).mono ?_
 rintro e w1 ⟨rfl, rfl⟩
 go_wp2_with fail
 refine (HK.out _).mono ?_
 rintro e w1 ⟨rfl, rfl⟩
 go_wp2_with fail
 refine HN.out.mono ?_
 rintro e w2 ⟨rfl, b1⟩
 go_wp2
 go_ret3
 exact ⟨_, _, rfl, isK_one _ _ _ _ b1.size (by simp; omega) (by simp), isK_one _ _ _ _ (by have := b1.size; omega) (by simp) (by simp), (b1.alloc b1.size _).alloc (by have := b1.size; simp; omega) _⟩
theorem plain_two (op t g : Int) (_h63 : (op == 63) = false) (_h65 : (op == 65) = false) (_h66 : (op == 66) = false) (_h64 : (op == 64) = false) (w : World) (HW : Hid (∀ w, Calls Tryz.prog 68 #[.int .u8 op] w fun e w' => e = .returned (.int .i64 0) ∧ w' = w)) (HK : Hid (∀ w, Calls Tryz.prog 99 #[.int .u8 op] w fun e w' => e = .returned (.tuple #[.int .u8 t, .int .u8 g]) ∧ w' = w)) (HN : Hid (Calls Tryz.prog 69 #[.int .u8 op] w fun e w' => e = .returned (.int .i64 2) ∧ Below w.heap.size w w')) :
  Calls Tryz.prog 85 #[.int .u8 op] w fun e w' => ∃ v1 v2, e = .returned (.tuple #[v1, v2, .bool true]) ∧ IsK w' w.heap.size v1 [t, t] ∧ IsK w' w.heap.size v2 [g] ∧ Below w.heap.size w w' := by
 go_enter Tryz.func85, Tryz.ntmps85
 go_wp2_with fail
 refine (HW.out _).mono ?_
 rintro e w1 ⟨rfl, rfl⟩
 go_wp2_with fail
 refine (HK.out _).mono ?_
 rintro e w1 ⟨rfl, rfl⟩
 go_wp2_with fail
 refine HN.out.mono ?_
 rintro e w2 ⟨rfl, b1⟩
 go_wp2
 go_ret3
 exact ⟨_, _, rfl, isK_two _ _ _ _ _ b1.size (by simp; omega) (by simp) (by simp), isK_one _ _ _ _ (by have := b1.size; omega) (by simp) (by simp), (b1.alloc b1.size _).alloc (by have := b1.size; simp; omega) _⟩
theorem plain_no (op t g : Int) (_h63 : (op == 63) = false) (_h65 : (op == 65) = false) (_h66 : (op == 66) = false) (_h64 : (op == 64) = false) (w : World) (HW : Hid (∀ w, Calls Tryz.prog 68 #[.int .u8 op] w fun e w' => e = .returned (.int .i64 0) ∧ w' = w)) (HK : Hid (∀ w, Calls Tryz.prog 99 #[.int .u8 op] w fun e w' => e = .returned (.tuple #[.int .u8 t, .int .u8 g]) ∧ w' = w)) (HN : Hid (Calls Tryz.prog 69 #[.int .u8 op] w fun e w' => e = .returned (.int .i64 0) ∧ Below w.heap.size w w')) :
  Calls Tryz.prog 85 #[.int .u8 op] w fun e w' => ∃ v1 v2, e = .returned (.tuple #[v1, v2, .bool false]) ∧ IsK w' w.heap.size v1 [] ∧ IsK w' w.heap.size v2 [] ∧ Below w.heap.size w w' := by
 go_enter Tryz.func85, Tryz.ntmps85
 go_wp2_with fail
 refine (HW.out _).mono ?_
 rintro e w1 ⟨rfl, rfl⟩
 go_wp2_with fail
 refine (HK.out _).mono ?_
 rintro e w1 ⟨rfl, rfl⟩
 go_wp2_with fail
 refine HN.out.mono ?_
 rintro e w2 ⟨rfl, b1⟩
 go_wp2
 go_ret3
 exact ⟨_, _, rfl, isK_nil _ _, isK_nil _ _, b1⟩
theorem insW_range (op : Int) : 0 ≤ insW op := by
 unfold insW
 split
 ·omega
 ·split
  ·omega
  ·split
   ·omega
   ·split <;> omega
theorem plain_any (op : Int) (h0 : 0 ≤ op) (h1 : op ≤ 255) (w : World) (hT : TabIn w) : Calls Tryz.prog 85 #[.int .u8 op] w fun e w' => ∃ v1 v2, e = .returned (.tuple #[v1, v2, .bool (pIs op)]) ∧ IsK w' w.heap.size v1 (pIn op) ∧ IsK w' w.heap.size v2 (pOut op) ∧ Below w.heap.size w w' := by
 have ne : ∀ k : Int, op ≠ k → (op == k) = false := fun k hk => by rw [beq_eq_false_iff_ne]; exact hk
 by_cases h63 : op = 63
 ·subst h63; exact plain_63 w
 by_cases h65 : op = 65
 ·subst h65; exact plain_65 w
 by_cases h66 : op = 66
 ·subst h66; exact plain_66 w
 by_cases h64 : op = 64
 ·subst h64; exact plain_64 w
 have n63 : ¬ (63 ≤ op ∧ op ≤ 66) := by omega
 by_cases hw : 0 < insW op
 ·have e3 : pIs op = true := by unfold pIs; simp [hw]
  by_cases h54 : op < 54
  ·have e1 : pIn op = [127] := by unfold pIn; rw [if_neg (by omega), if_neg h64, if_pos hw, if_pos h54]
   have e2 : pOut op = [kMem op] := by unfold pOut; rw [if_neg (by omega), if_neg h66, if_neg h64, if_pos hw, if_pos h54]
   rw [e1, e2, e3]
   refine (plain_place op (insW op) (ne 63 h63) (ne 65 h65) (ne 66 h66) (ne 64 h64) hw _ _ w _ (fun w => width_any op w) (place_load op hw h54 w)).mono ?_
   rintro e w1 ⟨rfl, rfl⟩
   exact ⟨_, _, rfl, isK_one _ _ _ _ (Nat.le_refl _) (by simp; omega) (by simp), isK_one _ _ _ _ (by omega) (by simp) (by simp), ((Below.refl _ _).alloc (Nat.le_refl _) _).alloc (by simp) _⟩
  ·have e1 : pIn op = [127, kMem op] := by unfold pIn; rw [if_neg (by omega), if_neg h64, if_pos hw, if_neg h54]
   have e2 : pOut op = [] := by unfold pOut; rw [if_neg (by omega), if_neg h66, if_neg h64, if_pos hw, if_neg h54]
   rw [e1, e2, e3]
   refine (plain_place op (insW op) (ne 63 h63) (ne 65 h65) (ne 66 h66) (ne 64 h64) hw _ _ w _ (fun w => width_any op w) (place_store op hw h54 w)).mono ?_
   rintro e w1 ⟨rfl, rfl⟩
   exact ⟨_, _, rfl, isK_two _ _ _ _ _ (Nat.le_refl _) (by simp) (by simp) (by simp), isK_nil _ _, (Below.refl _ _).alloc (Nat.le_refl _) _⟩
 ·have e0 : insW op = 0 := by have := insW_range op; omega
  have cw : ∀ w, Calls Tryz.prog 68 #[.int .u8 op] w fun e w' => e = .returned (.int .i64 0) ∧ w' = w := fun w => by rw [← e0]; exact width_any op w
  have ct := taken_any op h0 h1 w hT
  by_cases hn1 : insN op = 1
  ·have e1 : pIn op = [kTake op] := by unfold pIn; rw [if_neg (by omega), if_neg h64, if_neg hw, if_pos hn1]
   have e2 : pOut op = [kGive op] := by unfold pOut; rw [if_neg (by omega), if_neg h66, if_neg h64, if_neg hw, if_pos hn1]
   have e3 : pIs op = true := by unfold pIs; simp [hn1]
   rw [e1, e2, e3]
   rw [hn1] at ct
   exact plain_one op (kTake op) (kGive op) (ne 63 h63) (ne 65 h65) (ne 66 h66) (ne 64 h64) w cw (fun w => kinds_any op h0 h1 w) ct
  by_cases hn2 : insN op = 2
  ·have e1 : pIn op = [kTake op, kTake op] := by unfold pIn; rw [if_neg (by omega), if_neg h64, if_neg hw, if_neg hn1, if_pos hn2]
   have e2 : pOut op = [kGive op] := by unfold pOut; rw [if_neg (by omega), if_neg h66, if_neg h64, if_neg hw, if_neg hn1, if_pos hn2]
   have e3 : pIs op = true := by unfold pIs; simp [hn2]
   rw [e1, e2, e3]
   rw [hn2] at ct
   exact plain_two op (kTake op) (kGive op) (ne 63 h63) (ne 65 h65) (ne 66 h66) (ne 64 h64) w cw (fun w => kinds_any op h0 h1 w) ct
  ·have hn0 : insN op = 0 := by unfold insN at hn1 hn2 ⊢; revert hn1 hn2; cases isOne op <;> cases isTwo op <;> simp
   have e1 : pIn op = [] := by unfold pIn; rw [if_neg (by omega), if_neg h64, if_neg hw, if_neg hn1, if_neg hn2]
   have e2 : pOut op = [] := by unfold pOut; rw [if_neg (by omega), if_neg h66, if_neg h64, if_neg hw, if_neg hn1, if_neg hn2]
   have e3 : pIs op = false := by unfold pIs; simp [hw, hn0, n63]
   rw [e1, e2, e3]
   rw [hn0] at ct
   exact plain_no op (kTake op) (kGive op) (ne 63 h63) (ne 65 h65) (ne 66 h66) (ne 64 h64) w cw (fun w => kinds_any op h0 h1 w) ct
end Go.Proofs.YtkceplamaocmmaaGreatDoor
