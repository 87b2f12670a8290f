/-
  What the program's own takenByNum does.
-/
import Derived.Test.YtdbhdgkbkhjikaaDoorIns1
import Derived.Test.YtdbhdgkbkhjikaaDoorPOne
import Derived.Below
namespace Go.Proofs.YtdbhdgkbkhjikaaDoor
open Go.RowKit

/-- The numbers of the instructions of two numbers. -/
def isTwo (op : Int) : Bool := (70 ≤ op && op ≤ 79) || (81 ≤ op && op ≤ 90) || (106 ≤ op && op ≤ 120) || (124 ≤ op && op ≤ 138)
/-- How many numbers an instruction takes. -/
def insN (op : Int) : Int := if isOne op then 1 else if isTwo op then 2 else 0
theorem one_err (op : Int) (h0 : 0 ≤ op) (h1 : op ≤ 255) (w : World) (hT : TabIn w) : ∃ R, Calls Tryd.prog 51 #[.int .u8 op, .int .i64 1] w fun e w' => e = .returned (.tuple #[.int .i64 R, .int .i64 (if isOne op then 0 else 6)]) ∧ w' = w := by
  by_cases h69 : op = 69
  · subst h69; exact ⟨_, pone_69 1 w⟩
  by_cases h80 : op = 80
  · subst h80; exact ⟨_, pone_80 1 w⟩
  by_cases h103 : op = 103
  · subst h103; exact ⟨_, pone_103 1 w⟩
  by_cases h121 : op = 121
  · subst h121; exact ⟨_, pone_121 1 w⟩
  by_cases h104 : op = 104
  · subst h104; exact ⟨_, pone_104 1 w hT⟩
  by_cases h122 : op = 122
  · subst h122; exact ⟨_, pone_122 1 w hT⟩
  by_cases h105 : op = 105
  · subst h105; exact ⟨_, pone_105 1 w⟩
  by_cases h123 : op = 123
  · subst h123; exact ⟨_, pone_123 1 w⟩
  by_cases h192 : op = 192
  · subst h192; exact ⟨_, pone_192 1 w⟩
  by_cases h194 : op = 194
  · subst h194; exact ⟨_, pone_194 1 w⟩
  by_cases h193 : op = 193
  · subst h193; exact ⟨_, pone_193 1 w⟩
  by_cases h195 : op = 195
  · subst h195; exact ⟨_, pone_195 1 w⟩
  by_cases h167 : op = 167
  · subst h167; exact ⟨_, pone_167 1 w⟩
  by_cases h172 : op = 172
  · subst h172; exact ⟨_, pone_172 1 w⟩
  by_cases h196 : op = 196
  · subst h196; exact ⟨_, pone_196 1 w⟩
  by_cases h173 : op = 173
  · subst h173; exact ⟨_, pone_173 1 w⟩
  have e : isOne op = false := by
    simp only [isOne, Bool.or_eq_false_iff, Bool.and_eq_false_iff, beq_eq_false_iff_ne, decide_eq_false_iff_not]
    omega
  rw [e]
  exact ⟨_, pone_no op 1 h0 h1 e w⟩
theorem same_below {Z : Value} {P : Program} {f : Nat} {args : Array Value} (h : ∀ w, Calls P f args w fun e w' => e = .returned Z ∧ w' = w) (w : World) : Calls P f args w fun e w' => e = .returned Z ∧ Below w.heap.size w w' := by
  refine (h w).mono ?_
  rintro e w1 ⟨rfl, rfl⟩
  exact ⟨rfl, Below.refl _ _⟩
theorem two_err (op : Int) (h0 : 0 ≤ op) (h1 : op ≤ 255) (w : World) : ∃ R, Calls Tryd.prog 52 #[.int .u8 op, .int .i64 1, .int .i64 1] w fun e w' => e = .returned (.tuple #[.int .i64 R, .int .i64 (if isTwo op then 0 else 6)]) ∧ Below w.heap.size w w' := by
  have b1 : -9223372036854775808 ≤ (1 : Int) ∧ (1 : Int) ≤ 9223372036854775807 := by omega
  by_cases h70 : op = 70
  · subst h70
    exact ⟨_, same_below (num_70 1 1) w⟩
  by_cases h71 : op = 71
  · subst h71
    exact ⟨_, same_below (num_71 1 1) w⟩
  by_cases h72 : op = 72
  · subst h72
    exact ⟨_, same_below (num_72 1 1) w⟩
  by_cases h73 : op = 73
  · subst h73
    exact ⟨_, same_below (num_73 1 1) w⟩
  by_cases h74 : op = 74
  · subst h74
    exact ⟨_, same_below (num_74 1 1) w⟩
  by_cases h75 : op = 75
  · subst h75
    exact ⟨_, same_below (num_75 1 1) w⟩
  by_cases h76 : op = 76
  · subst h76
    exact ⟨_, same_below (num_76 1 1) w⟩
  by_cases h77 : op = 77
  · subst h77
    exact ⟨_, same_below (num_77 1 1) w⟩
  by_cases h78 : op = 78
  · subst h78
    exact ⟨_, same_below (num_78 1 1) w⟩
  by_cases h79 : op = 79
  · subst h79
    exact ⟨_, same_below (num_79 1 1) w⟩
  by_cases h81 : op = 81
  · subst h81
    exact ⟨_, same_below (num_81 1 1 b1 b1) w⟩
  by_cases h82 : op = 82
  · subst h82
    exact ⟨_, same_below (num_82 1 1 b1 b1) w⟩
  by_cases h83 : op = 83
  · subst h83
    exact ⟨_, same_below (num_83 1 1 b1 b1) w⟩
  by_cases h84 : op = 84
  · subst h84
    exact ⟨_, same_below (num_84 1 1 b1 b1) w⟩
  by_cases h85 : op = 85
  · subst h85
    exact ⟨_, same_below (num_85 1 1 b1 b1) w⟩
  by_cases h86 : op = 86
  · subst h86
    exact ⟨_, same_below (num_86 1 1 b1 b1) w⟩
  by_cases h87 : op = 87
  · subst h87
    exact ⟨_, same_below (num_87 1 1 b1 b1) w⟩
  by_cases h88 : op = 88
  · subst h88
    exact ⟨_, same_below (num_88 1 1 b1 b1) w⟩
  by_cases h89 : op = 89
  · subst h89
    exact ⟨_, same_below (num_89 1 1 b1 b1) w⟩
  by_cases h90 : op = 90
  · subst h90
    exact ⟨_, same_below (num_90 1 1 b1 b1) w⟩
  by_cases h106 : op = 106
  · subst h106
    exact ⟨_, same_below (num_106 1 1) w⟩
  by_cases h107 : op = 107
  · subst h107
    exact ⟨_, same_below (num_107 1 1) w⟩
  by_cases h108 : op = 108
  · subst h108
    exact ⟨_, same_below (num_108 1 1) w⟩
  by_cases h109 : op = 109
  · subst h109
    have e : (recV 3 (BitVec.ofInt 32 1) (BitVec.ofInt 32 1)).2 = 0 := by decide +kernel
    have h := same_below (num_109 1 1) w
    rw [e] at h
    exact ⟨_, h⟩
  by_cases h110 : op = 110
  · subst h110
    have e : (recV 4 (BitVec.ofInt 32 1) (BitVec.ofInt 32 1)).2 = 0 := by decide +kernel
    have h := same_below (num_110 1 1) w
    rw [e] at h
    exact ⟨_, h⟩
  by_cases h111 : op = 111
  · subst h111
    have e : (recV 5 (BitVec.ofInt 32 1) (BitVec.ofInt 32 1)).2 = 0 := by decide +kernel
    have h := same_below (num_111 1 1) w
    rw [e] at h
    exact ⟨_, h⟩
  by_cases h112 : op = 112
  · subst h112
    have e : (recV 6 (BitVec.ofInt 32 1) (BitVec.ofInt 32 1)).2 = 0 := by decide +kernel
    have h := same_below (num_112 1 1) w
    rw [e] at h
    exact ⟨_, h⟩
  by_cases h113 : op = 113
  · subst h113
    exact ⟨_, same_below (num_113 1 1) w⟩
  by_cases h114 : op = 114
  · subst h114
    exact ⟨_, same_below (num_114 1 1) w⟩
  by_cases h115 : op = 115
  · subst h115
    exact ⟨_, same_below (num_115 1 1) w⟩
  by_cases h116 : op = 116
  · subst h116
    exact ⟨_, same_below (num_116 1 1) w⟩
  by_cases h117 : op = 117
  · subst h117
    exact ⟨_, same_below (num_117 1 1) w⟩
  by_cases h118 : op = 118
  · subst h118
    exact ⟨_, same_below (num_118 1 1) w⟩
  by_cases h119 : op = 119
  · subst h119
    exact ⟨_, num_119 1 1 w⟩
  by_cases h120 : op = 120
  · subst h120
    exact ⟨_, num_120 1 1 w⟩
  by_cases h124 : op = 124
  · subst h124
    exact ⟨_, same_below (num_124 1 1 b1 b1) w⟩
  by_cases h125 : op = 125
  · subst h125
    exact ⟨_, same_below (num_125 1 1 b1 b1) w⟩
  by_cases h126 : op = 126
  · subst h126
    exact ⟨_, same_below (num_126 1 1 b1 b1) w⟩
  by_cases h127 : op = 127
  · subst h127
    have e : (recV 3 (BitVec.ofInt 64 1) (BitVec.ofInt 64 1)).2 = 0 := by decide +kernel
    have h := same_below (num_127 1 1 b1 b1) w
    rw [e] at h
    exact ⟨_, h⟩
  by_cases h128 : op = 128
  · subst h128
    have e : (recV 4 (BitVec.ofInt 64 1) (BitVec.ofInt 64 1)).2 = 0 := by decide +kernel
    have h := same_below (num_128 1 1 b1 b1) w
    rw [e] at h
    exact ⟨_, h⟩
  by_cases h129 : op = 129
  · subst h129
    have e : (recV 5 (BitVec.ofInt 64 1) (BitVec.ofInt 64 1)).2 = 0 := by decide +kernel
    have h := same_below (num_129 1 1 b1 b1) w
    rw [e] at h
    exact ⟨_, h⟩
  by_cases h130 : op = 130
  · subst h130
    have e : (recV 6 (BitVec.ofInt 64 1) (BitVec.ofInt 64 1)).2 = 0 := by decide +kernel
    have h := same_below (num_130 1 1 b1 b1) w
    rw [e] at h
    exact ⟨_, h⟩
  by_cases h131 : op = 131
  · subst h131
    exact ⟨_, same_below (num_131 1 1 b1 b1) w⟩
  by_cases h132 : op = 132
  · subst h132
    exact ⟨_, same_below (num_132 1 1 b1 b1) w⟩
  by_cases h133 : op = 133
  · subst h133
    exact ⟨_, same_below (num_133 1 1 b1 b1) w⟩
  by_cases h134 : op = 134
  · subst h134
    exact ⟨_, same_below (num_134 1 1 b1 b1) w⟩
  by_cases h135 : op = 135
  · subst h135
    exact ⟨_, same_below (num_135 1 1 b1 b1) w⟩
  by_cases h136 : op = 136
  · subst h136
    exact ⟨_, same_below (num_136 1 1 b1 b1) w⟩
  by_cases h137 : op = 137
  · subst h137
    exact ⟨_, num_137 1 1 b1 b1 w⟩
  by_cases h138 : op = 138
  · subst h138
    exact ⟨_, num_138 1 1 b1 b1 w⟩
  have e : isTwo op = false := by
    simp only [isTwo, Bool.or_eq_false_iff, Bool.and_eq_false_iff, decide_eq_false_iff_not]
    omega
  rw [e]
  refine ⟨0, same_below ?_ w⟩
  intro w
  by_cases ha : 80 ≤ op ∧ op ≤ 90
  · exact pick_asks op 1 1 0 6 ha.1 ha.2 (fun w w' => w' = w) (fun w => two64_other (op - 11) 1 1 (by rw [beq_eq_false_iff_ne]; omega) (by rw [beq_eq_false_iff_ne]; omega) (by rw [beq_eq_false_iff_ne]; omega) (by rw [beq_eq_false_iff_ne]; omega) (by rw [beq_eq_false_iff_ne]; omega) (by rw [beq_eq_false_iff_ne]; omega) (by rw [beq_eq_false_iff_ne]; omega) (by rw [beq_eq_false_iff_ne]; omega) (by rw [beq_eq_false_iff_ne]; omega) (by rw [beq_eq_false_iff_ne]; omega) (by rw [beq_eq_false_iff_ne]; omega) (by rw [beq_eq_false_iff_ne]; omega) (by rw [beq_eq_false_iff_ne]; omega) (by rw [beq_eq_false_iff_ne]; omega) (by rw [beq_eq_false_iff_ne]; omega) (by rw [beq_eq_false_iff_ne]; omega) (by rw [beq_eq_false_iff_ne]; omega) (by rw [beq_eq_false_iff_ne]; omega) (by rw [beq_eq_false_iff_ne]; omega) (by rw [beq_eq_false_iff_ne]; omega) (by rw [beq_eq_false_iff_ne]; omega) (by rw [beq_eq_false_iff_ne]; omega) (by rw [beq_eq_false_iff_ne]; omega) (by rw [beq_eq_false_iff_ne]; omega) (by rw [beq_eq_false_iff_ne]; omega) w) w
  by_cases hm : 121 ≤ op ∧ op ≤ 138
  · exact pick_makes op 1 1 0 6 hm.1 hm.2 (fun w w' => w' = w) (fun w => two64_other (op - 18) 1 1 (by rw [beq_eq_false_iff_ne]; omega) (by rw [beq_eq_false_iff_ne]; omega) (by rw [beq_eq_false_iff_ne]; omega) (by rw [beq_eq_false_iff_ne]; omega) (by rw [beq_eq_false_iff_ne]; omega) (by rw [beq_eq_false_iff_ne]; omega) (by rw [beq_eq_false_iff_ne]; omega) (by rw [beq_eq_false_iff_ne]; omega) (by rw [beq_eq_false_iff_ne]; omega) (by rw [beq_eq_false_iff_ne]; omega) (by rw [beq_eq_false_iff_ne]; omega) (by rw [beq_eq_false_iff_ne]; omega) (by rw [beq_eq_false_iff_ne]; omega) (by rw [beq_eq_false_iff_ne]; omega) (by rw [beq_eq_false_iff_ne]; omega) (by rw [beq_eq_false_iff_ne]; omega) (by rw [beq_eq_false_iff_ne]; omega) (by rw [beq_eq_false_iff_ne]; omega) (by rw [beq_eq_false_iff_ne]; omega) (by rw [beq_eq_false_iff_ne]; omega) (by rw [beq_eq_false_iff_ne]; omega) (by rw [beq_eq_false_iff_ne]; omega) (by rw [beq_eq_false_iff_ne]; omega) (by rw [beq_eq_false_iff_ne]; omega) (by rw [beq_eq_false_iff_ne]; omega) w) w
  · exact pick_short op 1 1 0 6 (by omega) (by omega) (by omega) (fun w w' => w' = w) (fun w => two32_other op _ _ (by rw [beq_eq_false_iff_ne]; omega) (by rw [beq_eq_false_iff_ne]; omega) (by rw [beq_eq_false_iff_ne]; omega) (by rw [beq_eq_false_iff_ne]; omega) (by rw [beq_eq_false_iff_ne]; omega) (by rw [beq_eq_false_iff_ne]; omega) (by rw [beq_eq_false_iff_ne]; omega) (by rw [beq_eq_false_iff_ne]; omega) (by rw [beq_eq_false_iff_ne]; omega) (by rw [beq_eq_false_iff_ne]; omega) (by rw [beq_eq_false_iff_ne]; omega) (by rw [beq_eq_false_iff_ne]; omega) (by rw [beq_eq_false_iff_ne]; omega) (by rw [beq_eq_false_iff_ne]; omega) (by rw [beq_eq_false_iff_ne]; omega) (by rw [beq_eq_false_iff_ne]; omega) (by rw [beq_eq_false_iff_ne]; omega) (by rw [beq_eq_false_iff_ne]; omega) (by rw [beq_eq_false_iff_ne]; omega) (by rw [beq_eq_false_iff_ne]; omega) (by rw [beq_eq_false_iff_ne]; omega) (by rw [beq_eq_false_iff_ne]; omega) (by rw [beq_eq_false_iff_ne]; omega) (by rw [beq_eq_false_iff_ne]; omega) (by rw [beq_eq_false_iff_ne]; omega) w) w
set_option maxHeartbeats 1000000 in
set_option maxRecDepth 1000000 in
theorem taken_core (op R1 E1 R2 E2 N : Int) (h : (E1 = 0 ∧ N = 1) ∨ (E1 = 6 ∧ E2 = 0 ∧ N = 2) ∨ (E1 = 6 ∧ E2 = 6 ∧ N = 0)) (w : World) (HO : Hid (Calls Tryd.prog 51 #[.int .u8 op, .int .i64 1] w fun e w' => e = .returned (.tuple #[.int .i64 R1, .int .i64 E1]) ∧ w' = w)) (HT : Hid (Calls Tryd.prog 52 #[.int .u8 op, .int .i64 1, .int .i64 1] w fun e w' => e = .returned (.tuple #[.int .i64 R2, .int .i64 E2]) ∧ Below w.heap.size w w')) :
    Calls Tryd.prog 31 #[.int .u8 op] w fun e w' => e = .returned (.int .i64 N) ∧ Below w.heap.size w w' := by
  rcases h with ⟨rfl, rfl⟩ | ⟨rfl, rfl, rfl⟩ | ⟨rfl, rfl, rfl⟩
  · go_enter Tryd.func31, Tryd.ntmps31
    go_wp2_with fail
    refine HO.out.mono ?_
    rintro e w1 ⟨rfl, rfl⟩
    go_wp2
    go_ret
    exact ⟨rfl, Below.refl _ _⟩
  · go_enter Tryd.func31, Tryd.ntmps31
    go_wp2_with fail
    refine HO.out.mono ?_
    rintro e w1 ⟨rfl, rfl⟩
    go_wp2_with fail
    refine HT.out.mono ?_
    rintro e w1 ⟨rfl, b⟩
    go_wp2
    go_ret
    exact ⟨rfl, b⟩
  · go_enter Tryd.func31, Tryd.ntmps31
    go_wp2_with fail
    refine HO.out.mono ?_
    rintro e w1 ⟨rfl, rfl⟩
    go_wp2_with fail
    refine HT.out.mono ?_
    rintro e w1 ⟨rfl, b⟩
    go_wp2
    go_ret
    exact ⟨rfl, b⟩
theorem taken_any (op : Int) (h0 : 0 ≤ op) (h1 : op ≤ 255) (w : World) (hT : TabIn w) :
    Calls Tryd.prog 31 #[.int .u8 op] w fun e w' => e = .returned (.int .i64 (insN op)) ∧ Below w.heap.size w w' := by
  obtain ⟨R1, c1⟩ := one_err op h0 h1 w hT
  obtain ⟨R2, c2⟩ := two_err op h0 h1 w
  refine taken_core op R1 _ R2 _ _ ?_ w c1 c2
  unfold insN
  cases isOne op <;> cases isTwo op <;> simp
end Go.Proofs.YtdbhdgkbkhjikaaDoor
