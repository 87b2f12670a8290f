/-
 What the program's own Width and kindsOfNum do. What the program's own takenByNum does. What the program's own plainPlace and Plain do.
-/
import Derived.Test.YtmemiohompdibaaGreatDoorAGNum
import Derived.Test.YtmemiohompdibaaGreatDoorAGOne
import Derived.Below
import Derived.Laws.EntriesVeiled
import Derived.OwnWalk
set_option maxHeartbeats 1000000
set_option maxRecDepth 1000000
namespace Go.Proofs.YtmemiohompdibaaGreatDoor
set_option linter.unusedVariables false
open Go.RowKit
def insW (op : Int) : Int :=
 if op = 44 ∨ op = 45 ∨ op = 48 ∨ op = 49 ∨ op = 58 ∨ op = 60 then 1
 else if op = 46 ∨ op = 47 ∨ op = 50 ∨ op = 51 ∨ op = 59 ∨ op = 61 then 2
 else if op = 40 ∨ op = 52 ∨ op = 53 ∨ op = 54 ∨ op = 62 then 4
 else if op = 41 ∨ op = 55 then 8 else 0
theorem width_44 (w : World) : Calls Tryz.prog 96 #[.int .u8 44] w fun e w' => e = .returned (.int .i64 1) ∧ w' = w := by
 go_enter Tryz.func96, Tryz.ntmps96
 go_wp2
 go_ret
 exact ⟨rfl, rfl⟩
theorem width_45 (w : World) : Calls Tryz.prog 96 #[.int .u8 45] w fun e w' => e = .returned (.int .i64 1) ∧ w' = w := by
 go_enter Tryz.func96, Tryz.ntmps96
 go_wp2
 go_ret
 exact ⟨rfl, rfl⟩
theorem width_48 (w : World) : Calls Tryz.prog 96 #[.int .u8 48] w fun e w' => e = .returned (.int .i64 1) ∧ w' = w := by
 go_enter Tryz.func96, Tryz.ntmps96
 go_wp2
 go_ret
 exact ⟨rfl, rfl⟩
theorem width_49 (w : World) : Calls Tryz.prog 96 #[.int .u8 49] w fun e w' => e = .returned (.int .i64 1) ∧ w' = w := by
 go_enter Tryz.func96, Tryz.ntmps96
 go_wp2
 go_ret
 exact ⟨rfl, rfl⟩
theorem width_58 (w : World) : Calls Tryz.prog 96 #[.int .u8 58] w fun e w' => e = .returned (.int .i64 1) ∧ w' = w := by
 go_enter Tryz.func96, Tryz.ntmps96
 go_wp2
 go_ret
 exact ⟨rfl, rfl⟩
theorem width_60 (w : World) : Calls Tryz.prog 96 #[.int .u8 60] w fun e w' => e = .returned (.int .i64 1) ∧ w' = w := by
 go_enter Tryz.func96, Tryz.ntmps96
 go_wp2
 go_ret
 exact ⟨rfl, rfl⟩
theorem width_46 (w : World) : Calls Tryz.prog 96 #[.int .u8 46] w fun e w' => e = .returned (.int .i64 2) ∧ w' = w := by
 go_enter Tryz.func96, Tryz.ntmps96
 go_wp2
 go_ret
 exact ⟨rfl, rfl⟩
theorem width_47 (w : World) : Calls Tryz.prog 96 #[.int .u8 47] w fun e w' => e = .returned (.int .i64 2) ∧ w' = w := by
 go_enter Tryz.func96, Tryz.ntmps96
 go_wp2
 go_ret
 exact ⟨rfl, rfl⟩
theorem width_50 (w : World) : Calls Tryz.prog 96 #[.int .u8 50] w fun e w' => e = .returned (.int .i64 2) ∧ w' = w := by
 go_enter Tryz.func96, Tryz.ntmps96
 go_wp2
 go_ret
 exact ⟨rfl, rfl⟩
theorem width_51 (w : World) : Calls Tryz.prog 96 #[.int .u8 51] w fun e w' => e = .returned (.int .i64 2) ∧ w' = w := by
 go_enter Tryz.func96, Tryz.ntmps96
 go_wp2
 go_ret
 exact ⟨rfl, rfl⟩
theorem width_59 (w : World) : Calls Tryz.prog 96 #[.int .u8 59] w fun e w' => e = .returned (.int .i64 2) ∧ w' = w := by
 go_enter Tryz.func96, Tryz.ntmps96
 go_wp2
 go_ret
 exact ⟨rfl, rfl⟩
theorem width_61 (w : World) : Calls Tryz.prog 96 #[.int .u8 61] w fun e w' => e = .returned (.int .i64 2) ∧ w' = w := by
 go_enter Tryz.func96, Tryz.ntmps96
 go_wp2
 go_ret
 exact ⟨rfl, rfl⟩
theorem width_40 (w : World) : Calls Tryz.prog 96 #[.int .u8 40] w fun e w' => e = .returned (.int .i64 4) ∧ w' = w := by
 go_enter Tryz.func96, Tryz.ntmps96
 go_wp2
 go_ret
 exact ⟨rfl, rfl⟩
theorem width_52 (w : World) : Calls Tryz.prog 96 #[.int .u8 52] w fun e w' => e = .returned (.int .i64 4) ∧ w' = w := by
 go_enter Tryz.func96, Tryz.ntmps96
 go_wp2
 go_ret
 exact ⟨rfl, rfl⟩
theorem width_53 (w : World) : Calls Tryz.prog 96 #[.int .u8 53] w fun e w' => e = .returned (.int .i64 4) ∧ w' = w := by
 go_enter Tryz.func96, Tryz.ntmps96
 go_wp2
 go_ret
 exact ⟨rfl, rfl⟩
theorem width_54 (w : World) : Calls Tryz.prog 96 #[.int .u8 54] w fun e w' => e = .returned (.int .i64 4) ∧ w' = w := by
 go_enter Tryz.func96, Tryz.ntmps96
 go_wp2
 go_ret
 exact ⟨rfl, rfl⟩
theorem width_62 (w : World) : Calls Tryz.prog 96 #[.int .u8 62] w fun e w' => e = .returned (.int .i64 4) ∧ w' = w := by
 go_enter Tryz.func96, Tryz.ntmps96
 go_wp2
 go_ret
 exact ⟨rfl, rfl⟩
theorem width_41 (w : World) : Calls Tryz.prog 96 #[.int .u8 41] w fun e w' => e = .returned (.int .i64 8) ∧ w' = w := by
 go_enter Tryz.func96, Tryz.ntmps96
 go_wp2
 go_ret
 exact ⟨rfl, rfl⟩
theorem width_55 (w : World) : Calls Tryz.prog 96 #[.int .u8 55] w fun e w' => e = .returned (.int .i64 8) ∧ w' = w := by
 go_enter Tryz.func96, Tryz.ntmps96
 go_wp2
 go_ret
 exact ⟨rfl, rfl⟩
theorem width_no (op : Int) (_h44 : (op == 44) = false) (_h45 : (op == 45) = false) (_h48 : (op == 48) = false) (_h49 : (op == 49) = false) (_h58 : (op == 58) = false) (_h60 : (op == 60) = false) (_h46 : (op == 46) = false) (_h47 : (op == 47) = false) (_h50 : (op == 50) = false) (_h51 : (op == 51) = false) (_h59 : (op == 59) = false) (_h61 : (op == 61) = false) (_h40 : (op == 40) = false) (_h52 : (op == 52) = false) (_h53 : (op == 53) = false) (_h54 : (op == 54) = false) (_h62 : (op == 62) = false) (_h41 : (op == 41) = false) (_h55 : (op == 55) = false) (w : World) : Calls Tryz.prog 96 #[.int .u8 op] w fun e w' => e = .returned (.int .i64 0) ∧ w' = w := by
 go_enter Tryz.func96, Tryz.ntmps96
 go_wp2
 go_ret
 exact ⟨rfl, rfl⟩
theorem width_any (op : Int) (w : World) : Calls Tryz.prog 96 #[.int .u8 op] w fun e w' => e = .returned (.int .i64 (insW op)) ∧ w' = w := by
 by_cases h44 : op = 44
 ·subst h44; exact width_44 w
 by_cases h45 : op = 45
 ·subst h45; exact width_45 w
 by_cases h48 : op = 48
 ·subst h48; exact width_48 w
 by_cases h49 : op = 49
 ·subst h49; exact width_49 w
 by_cases h58 : op = 58
 ·subst h58; exact width_58 w
 by_cases h60 : op = 60
 ·subst h60; exact width_60 w
 by_cases h46 : op = 46
 ·subst h46; exact width_46 w
 by_cases h47 : op = 47
 ·subst h47; exact width_47 w
 by_cases h50 : op = 50
 ·subst h50; exact width_50 w
 by_cases h51 : op = 51
 ·subst h51; exact width_51 w
 by_cases h59 : op = 59
 ·subst h59; exact width_59 w
 by_cases h61 : op = 61
 ·subst h61; exact width_61 w
 by_cases h40 : op = 40
 ·subst h40; exact width_40 w
 by_cases h52 : op = 52
 ·subst h52; exact width_52 w
 by_cases h53 : op = 53
 ·subst h53; exact width_53 w
 by_cases h54 : op = 54
 ·subst h54; exact width_54 w
 by_cases h62 : op = 62
 ·subst h62; exact width_62 w
 by_cases h41 : op = 41
 ·subst h41; exact width_41 w
 by_cases h55 : op = 55
 ·subst h55; exact width_55 w
 have e : insW op = 0 := by
  unfold insW
  rw [if_neg (by omega), if_neg (by omega), if_neg (by omega), if_neg (by omega)]
 rw [e]
 exact width_no op (by rw [beq_eq_false_iff_ne]; exact h44) (by rw [beq_eq_false_iff_ne]; exact h45) (by rw [beq_eq_false_iff_ne]; exact h48) (by rw [beq_eq_false_iff_ne]; exact h49) (by rw [beq_eq_false_iff_ne]; exact h58) (by rw [beq_eq_false_iff_ne]; exact h60) (by rw [beq_eq_false_iff_ne]; exact h46) (by rw [beq_eq_false_iff_ne]; exact h47) (by rw [beq_eq_false_iff_ne]; exact h50) (by rw [beq_eq_false_iff_ne]; exact h51) (by rw [beq_eq_false_iff_ne]; exact h59) (by rw [beq_eq_false_iff_ne]; exact h61) (by rw [beq_eq_false_iff_ne]; exact h40) (by rw [beq_eq_false_iff_ne]; exact h52) (by rw [beq_eq_false_iff_ne]; exact h53) (by rw [beq_eq_false_iff_ne]; exact h54) (by rw [beq_eq_false_iff_ne]; exact h62) (by rw [beq_eq_false_iff_ne]; exact h41) (by rw [beq_eq_false_iff_ne]; exact h55) w
theorem kinds_80 (op : Int) (_h0 : 80 ≤ op) (_h1 : op ≤ 90) (w : World) : Calls Tryz.prog 149 #[.int .u8 op] w fun e w' => e = .returned (.tuple #[.int .u8 126, .int .u8 127]) ∧ w' = w := by
 go_enter Tryz.func149, Tryz.ntmps149
 go_wp2
 go_ret2
 exact ⟨rfl, rfl⟩
end Go.Proofs.YtmemiohompdibaaGreatDoor
namespace Go.Proofs.YtmemiohompdibaaGreatDoor
open Go.RowKit
def isTwo (op : Int) : Bool := (70 ≤ op && op ≤ 79) || (81 ≤ op && op ≤ 90) || (106 ≤ op && op ≤ 120) || (124 ≤ op && op ≤ 138)
def insN (op : Int) : Int := if isOne op then 1 else if isTwo op then 2 else 0
theorem one_err (op : Int) (h0 : 0 ≤ op) (h1 : op ≤ 255) (w : World) (hT : TabIn w) : ∃ R, Calls Tryz.prog 163 #[.int .u8 op, .int .i64 1] w fun e w' => e = .returned (.tuple #[.int .i64 R, .int .i64 (if isOne op then 0 else 6)]) ∧ w' = w := by
 by_cases h69 : op = 69
 ·subst h69; exact ⟨_, pone_69 1 w⟩
 by_cases h80 : op = 80
 ·subst h80; exact ⟨_, pone_80 1 w⟩
 by_cases h103 : op = 103
 ·subst h103; exact ⟨_, pone_103 1 w⟩
 by_cases h121 : op = 121
 ·subst h121; exact ⟨_, pone_121 1 w⟩
 by_cases h104 : op = 104
 ·subst h104; exact ⟨_, pone_104 1 w hT⟩
 by_cases h122 : op = 122
 ·subst h122; exact ⟨_, pone_122 1 w hT⟩
 by_cases h105 : op = 105
 ·subst h105; exact ⟨_, pone_105 1 w⟩
 by_cases h123 : op = 123
 ·subst h123; exact ⟨_, pone_123 1 w⟩
 by_cases h192 : op = 192
 ·subst h192; exact ⟨_, pone_192 1 w⟩
 by_cases h194 : op = 194
 ·subst h194; exact ⟨_, pone_194 1 w⟩
 by_cases h193 : op = 193
 ·subst h193; exact ⟨_, pone_193 1 w⟩
 by_cases h195 : op = 195
 ·subst h195; exact ⟨_, pone_195 1 w⟩
 by_cases h167 : op = 167
 ·subst h167; exact ⟨_, pone_167 1 w⟩
 by_cases h172 : op = 172
 ·subst h172; exact ⟨_, pone_172 1 w⟩
 by_cases h196 : op = 196
 ·subst h196; exact ⟨_, pone_196 1 w⟩
 by_cases h173 : op = 173
 ·subst h173; exact ⟨_, pone_173 1 w⟩
 have e : isOne op = false := by
  simp only [isOne, Bool.or_eq_false_iff, Bool.and_eq_false_iff, beq_eq_false_iff_ne, decide_eq_false_iff_not]
  omega
 rw [e]
 exact ⟨_, pone_no op 1 h0 h1 e w⟩
theorem same_below {Z : Value} {P : Program} {f : Nat} {args : Array Value} (h : ∀ w, Calls P f args w fun e w' => e = .returned Z ∧ w' = w) (w : World) : Calls P f args w fun e w' => e = .returned Z ∧ Below w.heap.size w w' := by
 refine (h w).mono ?_
 rintro e w1 ⟨rfl, rfl⟩
 exact ⟨rfl, Below.refl _ _⟩
theorem two_err (op : Int) (h0 : 0 ≤ op) (h1 : op ≤ 255) (w : World) : ∃ R, Calls Tryz.prog 164 #[.int .u8 op, .int .i64 1, .int .i64 1] w fun e w' => e = .returned (.tuple #[.int .i64 R, .int .i64 (if isTwo op then 0 else 6)]) ∧ Below w.heap.size w w' := by
 have b1 : -9223372036854775808 ≤ (1 : Int) ∧ (1 : Int) ≤ 9223372036854775807 := by omega
 by_cases h70 : op = 70
 ·subst h70
  exact ⟨_, same_below (num_70 1 1) w⟩
 by_cases h71 : op = 71
 ·subst h71
  exact ⟨_, same_below (num_71 1 1) w⟩
 by_cases h72 : op = 72
 ·subst h72
  exact ⟨_, same_below (num_72 1 1) w⟩
 by_cases h73 : op = 73
 ·subst h73
  exact ⟨_, same_below (num_73 1 1) w⟩
 by_cases h74 : op = 74
 ·subst h74
  exact ⟨_, same_below (num_74 1 1) w⟩
 by_cases h75 : op = 75
 ·subst h75
  exact ⟨_, same_below (num_75 1 1) w⟩
 by_cases h76 : op = 76
 ·subst h76
  exact ⟨_, same_below (num_76 1 1) w⟩
 by_cases h77 : op = 77
 ·subst h77
  exact ⟨_, same_below (num_77 1 1) w⟩
 by_cases h78 : op = 78
 ·subst h78
  exact ⟨_, same_below (num_78 1 1) w⟩
 by_cases h79 : op = 79
 ·subst h79
  exact ⟨_, same_below (num_79 1 1) w⟩
 by_cases h81 : op = 81
 ·subst h81
  exact ⟨_, same_below (num_81 1 1 b1 b1) w⟩
 by_cases h82 : op = 82
 ·subst h82
  exact ⟨_, same_below (num_82 1 1 b1 b1) w⟩
 by_cases h83 : op = 83
 ·subst h83
  exact ⟨_, same_below (num_83 1 1 b1 b1) w⟩
 by_cases h84 : op = 84
 ·subst h84
  exact ⟨_, same_below (num_84 1 1 b1 b1) w⟩
 by_cases h85 : op = 85
 ·subst h85
  exact ⟨_, same_below (num_85 1 1 b1 b1) w⟩
 by_cases h86 : op = 86
 ·subst h86
  exact ⟨_, same_below (num_86 1 1 b1 b1) w⟩
 by_cases h87 : op = 87
 ·subst h87
  exact ⟨_, same_below (num_87 1 1 b1 b1) w⟩
 by_cases h88 : op = 88
 ·subst h88
  exact ⟨_, same_below (num_88 1 1 b1 b1) w⟩
 by_cases h89 : op = 89
 ·subst h89
  exact ⟨_, same_below (num_89 1 1 b1 b1) w⟩
 by_cases h90 : op = 90
 ·subst h90
  exact ⟨_, same_below (num_90 1 1 b1 b1) w⟩
 by_cases h106 : op = 106
 ·subst h106
  exact ⟨_, same_below (num_106 1 1) w⟩
 by_cases h107 : op = 107
 ·subst h107
  exact ⟨_, same_below (num_107 1 1) w⟩
 by_cases h108 : op = 108
 ·subst h108
  exact ⟨_, same_below (num_108 1 1) w⟩
 by_cases h109 : op = 109
 ·subst h109
  have e : (recV 3 (BitVec.ofInt 32 1) (BitVec.ofInt 32 1)).2 = 0 := by decide +kernel
  have h := same_below (num_109 1 1) w
  rw [e] at h
  exact ⟨_, h⟩
 by_cases h110 : op = 110
 ·subst h110
  have e : (recV 4 (BitVec.ofInt 32 1) (BitVec.ofInt 32 1)).2 = 0 := by decide +kernel
  have h := same_below (num_110 1 1) w
  rw [e] at h
  exact ⟨_, h⟩
 by_cases h111 : op = 111
 ·subst h111
  have e : (recV 5 (BitVec.ofInt 32 1) (BitVec.ofInt 32 1)).2 = 0 := by decide +kernel
  have h := same_below (num_111 1 1) w
  rw [e] at h
  exact ⟨_, h⟩
 by_cases h112 : op = 112
 ·subst h112
  have e : (recV 6 (BitVec.ofInt 32 1) (BitVec.ofInt 32 1)).2 = 0 := by decide +kernel
  have h := same_below (num_112 1 1) w
  rw [e] at h
  exact ⟨_, h⟩
 by_cases h113 : op = 113
 ·subst h113
  exact ⟨_, same_below (num_113 1 1) w⟩
 by_cases h114 : op = 114
 ·subst h114
  exact ⟨_, same_below (num_114 1 1) w⟩
 by_cases h115 : op = 115
 ·subst h115
  exact ⟨_, same_below (num_115 1 1) w⟩
 by_cases h116 : op = 116
 ·subst h116
  exact ⟨_, same_below (num_116 1 1) w⟩
 by_cases h117 : op = 117
 ·subst h117
  exact ⟨_, same_below (num_117 1 1) w⟩
 by_cases h118 : op = 118
 ·subst h118
  exact ⟨_, same_below (num_118 1 1) w⟩
 by_cases h119 : op = 119
 ·subst h119
  exact ⟨_, num_119 1 1 w⟩
 by_cases h120 : op = 120
 ·subst h120
  exact ⟨_, num_120 1 1 w⟩
 by_cases h124 : op = 124
 ·subst h124
  exact ⟨_, same_below (num_124 1 1 b1 b1) w⟩
 by_cases h125 : op = 125
 ·subst h125
  exact ⟨_, same_below (num_125 1 1 b1 b1) w⟩
 by_cases h126 : op = 126
 ·subst h126
  exact ⟨_, same_below (num_126 1 1 b1 b1) w⟩
 by_cases h127 : op = 127
 ·subst h127
  have e : (recV 3 (BitVec.ofInt 64 1) (BitVec.ofInt 64 1)).2 = 0 := by decide +kernel
  have h := same_below (num_127 1 1 b1 b1) w
  rw [e] at h
  exact ⟨_, h⟩
 by_cases h128 : op = 128
 ·subst h128
  have e : (recV 4 (BitVec.ofInt 64 1) (BitVec.ofInt 64 1)).2 = 0 := by decide +kernel
  have h := same_below (num_128 1 1 b1 b1) w
  rw [e] at h
  exact ⟨_, h⟩
 by_cases h129 : op = 129
 ·subst h129
  have e : (recV 5 (BitVec.ofInt 64 1) (BitVec.ofInt 64 1)).2 = 0 := by decide +kernel
  have h := same_below (num_129 1 1 b1 b1) w
  rw [e] at h
  exact ⟨_, h⟩
 by_cases h130 : op = 130
 ·subst h130
  have e : (recV 6 (BitVec.ofInt 64 1) (BitVec.ofInt 64 1)).2 = 0 := by decide +kernel
  have h := same_below (num_130 1 1 b1 b1) w
  rw [e] at h
  exact ⟨_, h⟩
 by_cases h131 : op = 131
 ·subst h131
  exact ⟨_, same_below (num_131 1 1 b1 b1) w⟩
 by_cases h132 : op = 132
 ·subst h132
  exact ⟨_, same_below (num_132 1 1 b1 b1) w⟩
 by_cases h133 : op = 133
 ·subst h133
  exact ⟨_, same_below (num_133 1 1 b1 b1) w⟩
 by_cases h134 : op = 134
 ·subst h134
  exact ⟨_, same_below (num_134 1 1 b1 b1) w⟩
 by_cases h135 : op = 135
 ·subst h135
  exact ⟨_, same_below (num_135 1 1 b1 b1) w⟩
 by_cases h136 : op = 136
 ·subst h136
  exact ⟨_, same_below (num_136 1 1 b1 b1) w⟩
 by_cases h137 : op = 137
 ·subst h137
  exact ⟨_, num_137 1 1 b1 b1 w⟩
 by_cases h138 : op = 138
 ·subst h138
  exact ⟨_, num_138 1 1 b1 b1 w⟩
 have e : isTwo op = false := by
  simp only [isTwo, Bool.or_eq_false_iff, Bool.and_eq_false_iff, decide_eq_false_iff_not]
  omega
 rw [e]
 refine ⟨0, same_below ?_ w⟩
 intro w
 by_cases ha : 80 ≤ op ∧ op ≤ 90
 ·exact pick_asks op 1 1 0 6 ha.1 ha.2 (fun w w' => w' = w) (fun w => two64_other (op - 11) 1 1 (by rw [beq_eq_false_iff_ne]; omega) (by rw [beq_eq_false_iff_ne]; omega) (by rw [beq_eq_false_iff_ne]; omega) (by rw [beq_eq_false_iff_ne]; omega) (by rw [beq_eq_false_iff_ne]; omega) (by rw [beq_eq_false_iff_ne]; omega) (by rw [beq_eq_false_iff_ne]; omega) (by rw [beq_eq_false_iff_ne]; omega) (by rw [beq_eq_false_iff_ne]; omega) (by rw [beq_eq_false_iff_ne]; omega) (by rw [beq_eq_false_iff_ne]; omega) (by rw [beq_eq_false_iff_ne]; omega) (by rw [beq_eq_false_iff_ne]; omega) (by rw [beq_eq_false_iff_ne]; omega) (by rw [beq_eq_false_iff_ne]; omega) (by rw [beq_eq_false_iff_ne]; omega) (by rw [beq_eq_false_iff_ne]; omega) (by rw [beq_eq_false_iff_ne]; omega) (by rw [beq_eq_false_iff_ne]; omega) (by rw [beq_eq_false_iff_ne]; omega) (by rw [beq_eq_false_iff_ne]; omega) (by rw [beq_eq_false_iff_ne]; omega) (by rw [beq_eq_false_iff_ne]; omega) (by rw [beq_eq_false_iff_ne]; omega) (by rw [beq_eq_false_iff_ne]; omega) w) w
 by_cases hm : 121 ≤ op ∧ op ≤ 138
 ·exact pick_makes op 1 1 0 6 hm.1 hm.2 (fun w w' => w' = w) (fun w => two64_other (op - 18) 1 1 (by rw [beq_eq_false_iff_ne]; omega) (by rw [beq_eq_false_iff_ne]; omega) (by rw [beq_eq_false_iff_ne]; omega) (by rw [beq_eq_false_iff_ne]; omega) (by rw [beq_eq_false_iff_ne]; omega) (by rw [beq_eq_false_iff_ne]; omega) (by rw [beq_eq_false_iff_ne]; omega) (by rw [beq_eq_false_iff_ne]; omega) (by rw [beq_eq_false_iff_ne]; omega) (by rw [beq_eq_false_iff_ne]; omega) (by rw [beq_eq_false_iff_ne]; omega) (by rw [beq_eq_false_iff_ne]; omega) (by rw [beq_eq_false_iff_ne]; omega) (by rw [beq_eq_false_iff_ne]; omega) (by rw [beq_eq_false_iff_ne]; omega) (by rw [beq_eq_false_iff_ne]; omega) (by rw [beq_eq_false_iff_ne]; omega) (by rw [beq_eq_false_iff_ne]; omega) (by rw [beq_eq_false_iff_ne]; omega) (by rw [beq_eq_false_iff_ne]; omega) (by rw [beq_eq_false_iff_ne]; omega) (by rw [beq_eq_false_iff_ne]; omega) (by rw [beq_eq_false_iff_ne]; omega) (by rw [beq_eq_false_iff_ne]; omega) (by rw [beq_eq_false_iff_ne]; omega) w) w
 ·exact pick_short op 1 1 0 6 (by omega) (by omega) (by omega) (fun w w' => w' = w) (fun w => two32_other op _ _ (by rw [beq_eq_false_iff_ne]; omega) (by rw [beq_eq_false_iff_ne]; omega) (by rw [beq_eq_false_iff_ne]; omega) (by rw [beq_eq_false_iff_ne]; omega) (by rw [beq_eq_false_iff_ne]; omega) (by rw [beq_eq_false_iff_ne]; omega) (by rw [beq_eq_false_iff_ne]; omega) (by rw [beq_eq_false_iff_ne]; omega) (by rw [beq_eq_false_iff_ne]; omega) (by rw [beq_eq_false_iff_ne]; omega) (by rw [beq_eq_false_iff_ne]; omega) (by rw [beq_eq_false_iff_ne]; omega) (by rw [beq_eq_false_iff_ne]; omega) (by rw [beq_eq_false_iff_ne]; omega) (by rw [beq_eq_false_iff_ne]; omega) (by rw [beq_eq_false_iff_ne]; omega) (by rw [beq_eq_false_iff_ne]; omega) (by rw [beq_eq_false_iff_ne]; omega) (by rw [beq_eq_false_iff_ne]; omega) (by rw [beq_eq_false_iff_ne]; omega) (by rw [beq_eq_false_iff_ne]; omega) (by rw [beq_eq_false_iff_ne]; omega) (by rw [beq_eq_false_iff_ne]; omega) (by rw [beq_eq_false_iff_ne]; omega) (by rw [beq_eq_false_iff_ne]; omega) w) w
theorem taken_core (op R1 E1 R2 E2 N : Int) (h : (E1 = 0 ∧ N = 1) ∨ (E1 = 6 ∧ E2 = 0 ∧ N = 2) ∨ (E1 = 6 ∧ E2 = 6 ∧ N = 0)) (w : World) (HO : Hid (Calls Tryz.prog 163 #[.int .u8 op, .int .i64 1] w fun e w' => e = .returned (.tuple #[.int .i64 R1, .int .i64 E1]) ∧ w' = w)) (HT : Hid (Calls Tryz.prog 164 #[.int .u8 op, .int .i64 1, .int .i64 1] w fun e w' => e = .returned (.tuple #[.int .i64 R2, .int .i64 E2]) ∧ Below w.heap.size w w')) :
  Calls Tryz.prog 150 #[.int .u8 op] w fun e w' => e = .returned (.int .i64 N) ∧ Below w.heap.size w w' := by
 rcases h with ⟨rfl, rfl⟩ | ⟨rfl, rfl, rfl⟩ | ⟨rfl, rfl, rfl⟩
 ·go_enter Tryz.func150, Tryz.ntmps150
  go_wp2_with fail
  refine HO.out.mono ?_
  rintro e w1 ⟨rfl, rfl⟩
  go_wp2
  go_ret
  exact ⟨rfl, Below.refl _ _⟩
 ·go_enter Tryz.func150, Tryz.ntmps150
  go_wp2_with fail
  refine HO.out.mono ?_
  rintro e w1 ⟨rfl, rfl⟩
  go_wp2_with fail
  refine HT.out.mono ?_
  rintro e w1 ⟨rfl, b⟩
  go_wp2
  go_ret
  exact ⟨rfl, b⟩
 ·go_enter Tryz.func150, Tryz.ntmps150
  go_wp2_with fail
  refine HO.out.mono ?_
  rintro e w1 ⟨rfl, rfl⟩
  go_wp2_with fail
  refine HT.out.mono ?_
  rintro e w1 ⟨rfl, b⟩
  go_wp2
  go_ret
  exact ⟨rfl, b⟩
theorem taken_any (op : Int) (h0 : 0 ≤ op) (h1 : op ≤ 255) (w : World) (hT : TabIn w) :
  Calls Tryz.prog 150 #[.int .u8 op] w fun e w' => e = .returned (.int .i64 (insN op)) ∧ Below w.heap.size w w' := by
 obtain ⟨R1, c1⟩ := one_err op h0 h1 w hT
 obtain ⟨R2, c2⟩ := two_err op h0 h1 w
 refine taken_core op R1 _ R2 _ _ ?_ w c1 c2
 unfold insN
 cases isOne op <;> cases isTwo op <;> simp
end Go.Proofs.YtmemiohompdibaaGreatDoor
namespace Go.Proofs.YtmemiohompdibaaGreatDoor
open Go.RowKit
theorem insW_range (op : Int) : 0 ≤ insW op := by
 unfold insW
 split
 ·omega
 ·split
  ·omega
  ·split
   ·omega
   ·split <;> omega
end Go.Proofs.YtmemiohompdibaaGreatDoor
