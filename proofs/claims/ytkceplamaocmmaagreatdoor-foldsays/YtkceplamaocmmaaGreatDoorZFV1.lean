/-
  What the document's own NumOne and NumTwo say of whatever numbers.
-/
import Derived.Test.YtkceplamaocmmaaGreatDoorZNF
import Derived.Test.YtkceplamaocmmaaGreatDoorZRefTwo
import Derived.Test.YtkceplamaocmmaaGreatDoorZPB
namespace Go.Proofs.YtkceplamaocmmaaGreatDoor
open Go.RowKit
set_option linter.unusedVariables false
theorem lnat_cut (a : Int) (W : Nat) : lnat (wordB a W) = cutN W a := by
  have := lnat_word a W
  unfold cutN
  rw [← this]; rfl
theorem zero_is (a : Int) (W : Nat) : t2i (decide (cutN W a = 0)) = b2i ((wordB a W).all (! ·)) := by
  rw [all_zero, lnat_cut]; rfl
theorem high_is (a : Int) (W : Nat) (h : W ≤ 64) : (W : Int) - (Lib.bitLen (cutN W a) : Int) = (tz (wordB a W).reverse : Int) := by
  have := tz_high (wordB a W) (by rw [wordB_length]; exact h)
  rw [wordB_length, lnat_cut] at this
  exact this.symm
theorem low_is (a : Int) (W : Nat) (h : W ≤ 64) : min (W : Int) (Lib.ctz 64 (cutN W a) : Int) = (tz (wordB a W) : Int) := by
  have := tz_low (wordB a W) (by rw [wordB_length]; exact h)
  rw [wordB_length, lnat_cut] at this
  exact this.symm
theorem ones_is (a : Int) (W : Nat) (h : W ≤ 64) : (popN 64 (cutN W a) : Int) = (ones (wordB a W) : Int) := by
  have := ones_pop (wordB a W)
  have hl := lnat_lt (wordB a W)
  rw [wordB_length, lnat_cut] at this hl
  rw [popN_more W 64 _ hl h, this]
theorem cut_is (a : Int) (W : Nat) (h : 1 ≤ W) : cutS a W = wval (wordB a W) - (if bitAt a (W - 1) then 2 ^ W else 0) := by
  unfold cutS wsgn
  rw [wordB_length, wordB_get a W (W - 1) (by omega)]
theorem cut8_is (a : Int) : cutI 8 a = cutS a 8 := by
  rw [cut_is a 8 (by omega), wval_word]
  unfold cutI bitAt
  simp only [Nat.add_one_sub_one]
  by_cases h : a / 128 % 2 = 1
  · simp only [show a / 2 ^ 7 % 2 = a / 128 % 2 from rfl, h, beq_self_eq_true, if_true]; omega
  · have h2 : (a / 2 ^ 7 % 2 == 1) = false := by rw [beq_eq_false_iff_ne]; exact h
    simp only [h2, Bool.false_eq_true, if_false]; omega
theorem cut16_is (a : Int) : cutI 16 a = cutS a 16 := by
  rw [cut_is a 16 (by omega), wval_word]
  unfold cutI bitAt
  simp only [Nat.add_one_sub_one]
  by_cases h : a / 32768 % 2 = 1
  · simp only [show a / 2 ^ 15 % 2 = a / 32768 % 2 from rfl, h, beq_self_eq_true, if_true]; omega
  · have h2 : (a / 2 ^ 15 % 2 == 1) = false := by rw [beq_eq_false_iff_ne]; exact h
    simp only [h2, Bool.false_eq_true, if_false]; omega
theorem cut32_is (a : Int) : wrap32 a = cutS a 32 := by
  rw [cut_is a 32 (by omega), wval_word]
  unfold wrap32 bitAt
  simp only [Nat.add_one_sub_one]
  by_cases h : a / 2147483648 % 2 = 1
  · simp only [show a / 2 ^ 31 % 2 = a / 2147483648 % 2 from rfl, h, beq_self_eq_true, if_true]; omega
  · have h2 : (a / 2 ^ 31 % 2 == 1) = false := by rw [beq_eq_false_iff_ne]; exact h
    simp only [h2, Bool.false_eq_true, if_false]; omega
theorem oneV_is (op a : Int) : (oneV op a).getD 0 = oneP op a ∧ (oneV op a).isSome = isOne op := by
  by_cases h69 : op = 69
  · subst h69
    refine ⟨?_, rfl⟩
    exact (zero_is a 32).symm
  by_cases h80 : op = 80
  · subst h80
    refine ⟨?_, rfl⟩
    exact (zero_is a 64).symm
  by_cases h103 : op = 103
  · subst h103
    refine ⟨?_, rfl⟩
    exact (high_is a 32 (by omega)).symm
  by_cases h121 : op = 121
  · subst h121
    refine ⟨?_, rfl⟩
    exact (high_is a 64 (by omega)).symm
  by_cases h104 : op = 104
  · subst h104
    refine ⟨?_, rfl⟩
    exact (low_is a 32 (by omega)).symm
  by_cases h122 : op = 122
  · subst h122
    refine ⟨?_, rfl⟩
    exact (low_is a 64 (by omega)).symm
  by_cases h105 : op = 105
  · subst h105
    refine ⟨?_, rfl⟩
    exact (ones_is a 32 (by omega)).symm
  by_cases h123 : op = 123
  · subst h123
    refine ⟨?_, rfl⟩
    exact (ones_is a 64 (by omega)).symm
  by_cases h192 : op = 192
  · subst h192
    refine ⟨?_, rfl⟩
    exact (cut8_is a).symm
  by_cases h194 : op = 194
  · subst h194
    refine ⟨?_, rfl⟩
    exact (cut8_is a).symm
  by_cases h193 : op = 193
  · subst h193
    refine ⟨?_, rfl⟩
    exact (cut16_is a).symm
  by_cases h195 : op = 195
  · subst h195
    refine ⟨?_, rfl⟩
    exact (cut16_is a).symm
  by_cases h167 : op = 167
  · subst h167
    refine ⟨?_, rfl⟩
    exact (cut32_is a).symm
  by_cases h172 : op = 172
  · subst h172
    refine ⟨?_, rfl⟩
    exact (cut32_is a).symm
  by_cases h196 : op = 196
  · subst h196
    refine ⟨?_, rfl⟩
    exact (cut32_is a).symm
  by_cases h173 : op = 173
  · subst h173
    refine ⟨?_, rfl⟩
    rfl
  have e : isOne op = false := by
    simp only [isOne, Bool.or_eq_false_iff, Bool.and_eq_false_iff, beq_eq_false_iff_ne, decide_eq_false_iff_not]
    omega
  have e1 : oneV op a = none := by
    unfold oneV
    rw [if_neg h69, if_neg h80, if_neg h103, if_neg h121, if_neg h104, if_neg h122, if_neg h105, if_neg h123, if_neg h192, if_neg h194, if_neg h193, if_neg h195, if_neg h167, if_neg h172, if_neg h196, if_neg h173]
  have e2 : oneP op a = 0 := by
    unfold oneP
    rw [if_neg h69, if_neg h80, if_neg h103, if_neg h121, if_neg h104, if_neg h122, if_neg h105, if_neg h123, if_neg h192, if_neg h194, if_neg h193, if_neg h195, if_neg h167, if_neg h172, if_neg h196, if_neg h173]
  rw [e, e1, e2]
  exact ⟨rfl, rfl⟩
theorem rone (op a : Int) (w : World) : Calls Tryz.prog 21 #[.int .u8 op, .int .i64 a] w fun e w' => e = .returned (.tuple #[.int .i64 (oneP op a), .int .i64 (if isOne op then 0 else 6)]) ∧ Below w.heap.size w w' := by
  have h := refOne_any op a w
  rw [(oneV_is op a).1, (oneV_is op a).2] at h
  exact h
theorem rtwo (op a b : Int) (h0 : 0 ≤ op) (h1 : op ≤ 255) (w : World) : Calls Tryz.prog 24 #[.int .u8 op, .int .i64 a, .int .i64 b] w fun e w' => e = .returned (.tuple #[.int .i64 (twoV op a b).1, .int .i64 (twoV op a b).2]) ∧ Below w.heap.size w w' := by
  by_cases h70 : op = 70
  · subst h70; exact refTwo_c32 70 a b _ (by omega) (by omega) (fun u v w hu hv => cmpR_0 32 u v _ _ w hu hv (by omega) (by omega)) w
  by_cases h71 : op = 71
  · subst h71; exact refTwo_c32 71 a b _ (by omega) (by omega) (fun u v w hu hv => cmpR_1 32 u v _ _ w hu hv (by omega) (by omega)) w
  by_cases h72 : op = 72
  · subst h72; exact refTwo_c32 72 a b _ (by omega) (by omega) (fun u v w hu hv => cmpR_2 32 u v _ _ w hu hv (by omega) (by omega)) w
  by_cases h73 : op = 73
  · subst h73; exact refTwo_c32 73 a b _ (by omega) (by omega) (fun u v w hu hv => cmpR_3 32 u v _ _ w hu hv (by omega) (by omega)) w
  by_cases h74 : op = 74
  · subst h74; exact refTwo_c32 74 a b _ (by omega) (by omega) (fun u v w hu hv => cmpR_4 32 u v _ _ w hu hv (by omega) (by omega)) w
  by_cases h75 : op = 75
  · subst h75; exact refTwo_c32 75 a b _ (by omega) (by omega) (fun u v w hu hv => cmpR_5 32 u v _ _ w hu hv (by omega) (by omega)) w
  by_cases h76 : op = 76
  · subst h76; exact refTwo_c32 76 a b _ (by omega) (by omega) (fun u v w hu hv => cmpR_6 32 u v _ _ w hu hv (by omega) (by omega)) w
  by_cases h77 : op = 77
  · subst h77; exact refTwo_c32 77 a b _ (by omega) (by omega) (fun u v w hu hv => cmpR_7 32 u v _ _ w hu hv (by omega) (by omega)) w
  by_cases h78 : op = 78
  · subst h78; exact refTwo_c32 78 a b _ (by omega) (by omega) (fun u v w hu hv => cmpR_8 32 u v _ _ w hu hv (by omega) (by omega)) w
  by_cases h79 : op = 79
  · subst h79; exact refTwo_c32 79 a b _ (by omega) (by omega) (fun u v w hu hv => cmpR_9 32 u v _ _ w hu hv (by omega) (by omega)) w
  by_cases h106 : op = 106
  · subst h106; exact refTwo_r32 106 a b _ _ (by omega) (by omega) (fun u v w hu hv => recR32_0 u v _ _ w hu hv) w
  by_cases h107 : op = 107
  · subst h107; exact refTwo_r32 107 a b _ _ (by omega) (by omega) (fun u v w hu hv => recR32_1 u v _ _ w hu hv) w
  by_cases h108 : op = 108
  · subst h108; exact refTwo_r32 108 a b _ _ (by omega) (by omega) (fun u v w hu hv => recR32_2 u v _ _ w hu hv) w
  by_cases h109 : op = 109
  · subst h109; exact refTwo_r32 109 a b _ _ (by omega) (by omega) (fun u v w hu hv => recR32_3 u v _ _ w hu hv) w
  by_cases h110 : op = 110
  · subst h110; exact refTwo_r32 110 a b _ _ (by omega) (by omega) (fun u v w hu hv => recR32_4 u v _ _ w hu hv) w
  by_cases h111 : op = 111
  · subst h111; exact refTwo_r32 111 a b _ _ (by omega) (by omega) (fun u v w hu hv => recR32_5 u v _ _ w hu hv) w
  by_cases h112 : op = 112
  · subst h112; exact refTwo_r32 112 a b _ _ (by omega) (by omega) (fun u v w hu hv => recR32_6 u v _ _ w hu hv) w
  by_cases h113 : op = 113
  · subst h113; exact refTwo_r32 113 a b _ _ (by omega) (by omega) (fun u v w hu hv => recR32_7 u v _ _ w hu hv) w
  by_cases h114 : op = 114
  · subst h114; exact refTwo_r32 114 a b _ _ (by omega) (by omega) (fun u v w hu hv => recR32_8 u v _ _ w hu hv) w
  by_cases h115 : op = 115
  · subst h115; exact refTwo_r32 115 a b _ _ (by omega) (by omega) (fun u v w hu hv => recR32_9 u v _ _ w hu hv) w
  by_cases h116 : op = 116
  · subst h116; exact refTwo_r32 116 a b _ _ (by omega) (by omega) (fun u v w hu hv => recR32_10 u v _ _ w hu hv) w
  by_cases h117 : op = 117
  · subst h117; exact refTwo_r32 117 a b _ _ (by omega) (by omega) (fun u v w hu hv => recR32_11 u v _ _ w hu hv) w
  by_cases h118 : op = 118
  · subst h118; exact refTwo_r32 118 a b _ _ (by omega) (by omega) (fun u v w hu hv => recR32_12 u v _ _ w hu hv) w
  by_cases h119 : op = 119
  · subst h119; exact refTwo_r32 119 a b _ _ (by omega) (by omega) (fun u v w hu hv => recR32_13 u v _ _ w hu hv) w
  by_cases h120 : op = 120
  · subst h120; exact refTwo_r32 120 a b _ _ (by omega) (by omega) (fun u v w hu hv => recR32_14 u v _ _ w hu hv) w
  by_cases h81 : op = 81
  · subst h81; exact refTwo_c64 81 a b _ (by omega) (by omega) (fun u v w hu hv => cmpR_0 64 u v _ _ w hu hv (by omega) (by omega)) w
  by_cases h82 : op = 82
  · subst h82; exact refTwo_c64 82 a b _ (by omega) (by omega) (fun u v w hu hv => cmpR_1 64 u v _ _ w hu hv (by omega) (by omega)) w
  by_cases h83 : op = 83
  · subst h83; exact refTwo_c64 83 a b _ (by omega) (by omega) (fun u v w hu hv => cmpR_2 64 u v _ _ w hu hv (by omega) (by omega)) w
  by_cases h84 : op = 84
  · subst h84; exact refTwo_c64 84 a b _ (by omega) (by omega) (fun u v w hu hv => cmpR_3 64 u v _ _ w hu hv (by omega) (by omega)) w
  by_cases h85 : op = 85
  · subst h85; exact refTwo_c64 85 a b _ (by omega) (by omega) (fun u v w hu hv => cmpR_4 64 u v _ _ w hu hv (by omega) (by omega)) w
  by_cases h86 : op = 86
  · subst h86; exact refTwo_c64 86 a b _ (by omega) (by omega) (fun u v w hu hv => cmpR_5 64 u v _ _ w hu hv (by omega) (by omega)) w
  by_cases h87 : op = 87
  · subst h87; exact refTwo_c64 87 a b _ (by omega) (by omega) (fun u v w hu hv => cmpR_6 64 u v _ _ w hu hv (by omega) (by omega)) w
  by_cases h88 : op = 88
  · subst h88; exact refTwo_c64 88 a b _ (by omega) (by omega) (fun u v w hu hv => cmpR_7 64 u v _ _ w hu hv (by omega) (by omega)) w
  by_cases h89 : op = 89
  · subst h89; exact refTwo_c64 89 a b _ (by omega) (by omega) (fun u v w hu hv => cmpR_8 64 u v _ _ w hu hv (by omega) (by omega)) w
  by_cases h90 : op = 90
  · subst h90; exact refTwo_c64 90 a b _ (by omega) (by omega) (fun u v w hu hv => cmpR_9 64 u v _ _ w hu hv (by omega) (by omega)) w
  by_cases h124 : op = 124
  · subst h124; exact refTwo_r64 124 a b _ _ (by omega) (by omega) (fun u v w hu hv => recR64_0 u v _ _ w hu hv) w
  by_cases h125 : op = 125
  · subst h125; exact refTwo_r64 125 a b _ _ (by omega) (by omega) (fun u v w hu hv => recR64_1 u v _ _ w hu hv) w
  by_cases h126 : op = 126
  · subst h126; exact refTwo_r64 126 a b _ _ (by omega) (by omega) (fun u v w hu hv => recR64_2 u v _ _ w hu hv) w
  by_cases h127 : op = 127
  · subst h127; exact refTwo_r64 127 a b _ _ (by omega) (by omega) (fun u v w hu hv => recR64_3 u v _ _ w hu hv) w
  by_cases h128 : op = 128
  · subst h128; exact refTwo_r64 128 a b _ _ (by omega) (by omega) (fun u v w hu hv => recR64_4 u v _ _ w hu hv) w
  by_cases h129 : op = 129
  · subst h129; exact refTwo_r64 129 a b _ _ (by omega) (by omega) (fun u v w hu hv => recR64_5 u v _ _ w hu hv) w
  by_cases h130 : op = 130
  · subst h130; exact refTwo_r64 130 a b _ _ (by omega) (by omega) (fun u v w hu hv => recR64_6 u v _ _ w hu hv) w
  by_cases h131 : op = 131
  · subst h131; exact refTwo_r64 131 a b _ _ (by omega) (by omega) (fun u v w hu hv => recR64_7 u v _ _ w hu hv) w
  by_cases h132 : op = 132
  · subst h132; exact refTwo_r64 132 a b _ _ (by omega) (by omega) (fun u v w hu hv => recR64_8 u v _ _ w hu hv) w
  by_cases h133 : op = 133
  · subst h133; exact refTwo_r64 133 a b _ _ (by omega) (by omega) (fun u v w hu hv => recR64_9 u v _ _ w hu hv) w
  by_cases h134 : op = 134
  · subst h134; exact refTwo_r64 134 a b _ _ (by omega) (by omega) (fun u v w hu hv => recR64_10 u v _ _ w hu hv) w
  by_cases h135 : op = 135
  · subst h135; exact refTwo_r64 135 a b _ _ (by omega) (by omega) (fun u v w hu hv => recR64_11 u v _ _ w hu hv) w
  by_cases h136 : op = 136
  · subst h136; exact refTwo_r64 136 a b _ _ (by omega) (by omega) (fun u v w hu hv => recR64_12 u v _ _ w hu hv) w
  by_cases h137 : op = 137
  · subst h137; exact refTwo_r64 137 a b _ _ (by omega) (by omega) (fun u v w hu hv => recR64_13 u v _ _ w hu hv) w
  by_cases h138 : op = 138
  · subst h138; exact refTwo_r64 138 a b _ _ (by omega) (by omega) (fun u v w hu hv => recR64_14 u v _ _ w hu hv) w
  have e2 : twoV op a b = (0, 6) := by
    unfold twoV
    rw [if_neg (by omega), if_neg (by omega), if_neg (by omega), if_neg (by omega)]
  rw [e2]
  by_cases c0 : op < 70
  · exact refTwo_n0 op a b (by omega) c0 w
  by_cases c1 : op < 81
  · exact refTwo_n1 op a b (by omega) c1 w
  by_cases c2 : op < 106
  · exact refTwo_n2 op a b (by omega) c2 w
  by_cases c3 : op < 124
  · exact refTwo_n3 op a b (by omega) c3 w
  · exact refTwo_n4 op a b (by omega) (by omega) w
end Go.Proofs.YtkceplamaocmmaaGreatDoor
