/-
  The law of the instructions of two numbers: its walk.
-/
import Derived.Test.YtlbilmgpnpghlaaRefTwo
import Derived.Test.YtlbilmgpnpghlaaNum6
import Derived.OpenShut
namespace Go.Proofs.Ytlbilmgpnpghlaa
open Go.RowKit

set_option maxHeartbeats 4000000 in
set_option maxRecDepth 1000000 in
theorem numTwos_core (op a b R E : Int) (HN : Hid (∀ w, Calls Try.prog 7 #[.int .u8 op, .int .i64 a, .int .i64 b] w fun e w' => e = .returned (.tuple #[.int .i64 R, .int .i64 E]) ∧ Below w.heap.size w w')) (HR : Hid (∀ w, Calls Try.prog 8 #[.int .u8 op, .int .i64 a, .int .i64 b] w fun e w' => e = .returned (.tuple #[.int .i64 R, .int .i64 E]) ∧ Below w.heap.size w w')) (w : World) :
    Calls Try.prog 3 #[.int .u8 op, .int .i64 a, .int .i64 b] w fun e w' => e = .returned (.bool true) ∧ Below w.heap.size w w' := by
  go_enter Try.func3, Try.ntmps3
  go_wp2_with fail
  refine (HN.out _).mono ?_
  rintro e w1 ⟨rfl, b1⟩
  go_wp2_with fail
  refine (HR.out _).mono ?_
  rintro e w2 ⟨rfl, b2⟩
  go_wp2
  go_ret
  exact ⟨rfl, below_then b1 b2⟩
theorem same_below {Z : Value} {P : Program} {f : Nat} {args : Array Value} (h : ∀ w, Calls P f args w fun e w' => e = .returned Z ∧ w' = w) (w : World) : Calls P f args w fun e w' => e = .returned Z ∧ Below w.heap.size w w' := by
  refine (h w).mono ?_
  rintro e w1 ⟨rfl, rfl⟩
  exact ⟨rfl, Below.refl _ _⟩
theorem numTwos_walk (a0 : Int) (a1 : Int) (a2 : Int) (w0 : (Lit.int .u8 a0).wf = true) (w1 : (Lit.int .i64 a1).wf = true) (w2 : (Lit.int .i64 a2).wf = true) (w : World) :
    Calls Try.prog 3 #[.int .u8 a0, .int .i64 a1, .int .i64 a2] w fun e w' => e = .returned (.bool true) ∧ Below w.heap.size w w' := by
  have h0 := bounds_u8 w0
  have h1 := bounds_i64 w1
  have h2 := bounds_i64 w2
  by_cases e70 : a0 = 70
  · subst e70
    exact numTwos_core 70 a1 a2 _ _ (fun w => same_below (num_70 a1 a2) w) (fun w => refTwo_c32 70 a1 a2 _ (by omega) (by omega) (fun u v w hu hv => cmpR_0 32 u v _ _ w hu hv (by omega) (by omega)) w) w
  by_cases e71 : a0 = 71
  · subst e71
    exact numTwos_core 71 a1 a2 _ _ (fun w => same_below (num_71 a1 a2) w) (fun w => refTwo_c32 71 a1 a2 _ (by omega) (by omega) (fun u v w hu hv => cmpR_1 32 u v _ _ w hu hv (by omega) (by omega)) w) w
  by_cases e72 : a0 = 72
  · subst e72
    exact numTwos_core 72 a1 a2 _ _ (fun w => same_below (num_72 a1 a2) w) (fun w => refTwo_c32 72 a1 a2 _ (by omega) (by omega) (fun u v w hu hv => cmpR_2 32 u v _ _ w hu hv (by omega) (by omega)) w) w
  by_cases e73 : a0 = 73
  · subst e73
    exact numTwos_core 73 a1 a2 _ _ (fun w => same_below (num_73 a1 a2) w) (fun w => refTwo_c32 73 a1 a2 _ (by omega) (by omega) (fun u v w hu hv => cmpR_3 32 u v _ _ w hu hv (by omega) (by omega)) w) w
  by_cases e74 : a0 = 74
  · subst e74
    exact numTwos_core 74 a1 a2 _ _ (fun w => same_below (num_74 a1 a2) w) (fun w => refTwo_c32 74 a1 a2 _ (by omega) (by omega) (fun u v w hu hv => cmpR_4 32 u v _ _ w hu hv (by omega) (by omega)) w) w
  by_cases e75 : a0 = 75
  · subst e75
    exact numTwos_core 75 a1 a2 _ _ (fun w => same_below (num_75 a1 a2) w) (fun w => refTwo_c32 75 a1 a2 _ (by omega) (by omega) (fun u v w hu hv => cmpR_5 32 u v _ _ w hu hv (by omega) (by omega)) w) w
  by_cases e76 : a0 = 76
  · subst e76
    exact numTwos_core 76 a1 a2 _ _ (fun w => same_below (num_76 a1 a2) w) (fun w => refTwo_c32 76 a1 a2 _ (by omega) (by omega) (fun u v w hu hv => cmpR_6 32 u v _ _ w hu hv (by omega) (by omega)) w) w
  by_cases e77 : a0 = 77
  · subst e77
    exact numTwos_core 77 a1 a2 _ _ (fun w => same_below (num_77 a1 a2) w) (fun w => refTwo_c32 77 a1 a2 _ (by omega) (by omega) (fun u v w hu hv => cmpR_7 32 u v _ _ w hu hv (by omega) (by omega)) w) w
  by_cases e78 : a0 = 78
  · subst e78
    exact numTwos_core 78 a1 a2 _ _ (fun w => same_below (num_78 a1 a2) w) (fun w => refTwo_c32 78 a1 a2 _ (by omega) (by omega) (fun u v w hu hv => cmpR_8 32 u v _ _ w hu hv (by omega) (by omega)) w) w
  by_cases e79 : a0 = 79
  · subst e79
    exact numTwos_core 79 a1 a2 _ _ (fun w => same_below (num_79 a1 a2) w) (fun w => refTwo_c32 79 a1 a2 _ (by omega) (by omega) (fun u v w hu hv => cmpR_9 32 u v _ _ w hu hv (by omega) (by omega)) w) w
  by_cases e106 : a0 = 106
  · subst e106
    exact numTwos_core 106 a1 a2 _ _ (fun w => same_below (num_106 a1 a2) w) (fun w => refTwo_r32 106 a1 a2 _ _ (by omega) (by omega) (fun u v w hu hv => recR32_0 u v _ _ w hu hv) w) w
  by_cases e107 : a0 = 107
  · subst e107
    exact numTwos_core 107 a1 a2 _ _ (fun w => same_below (num_107 a1 a2) w) (fun w => refTwo_r32 107 a1 a2 _ _ (by omega) (by omega) (fun u v w hu hv => recR32_1 u v _ _ w hu hv) w) w
  by_cases e108 : a0 = 108
  · subst e108
    exact numTwos_core 108 a1 a2 _ _ (fun w => same_below (num_108 a1 a2) w) (fun w => refTwo_r32 108 a1 a2 _ _ (by omega) (by omega) (fun u v w hu hv => recR32_2 u v _ _ w hu hv) w) w
  by_cases e109 : a0 = 109
  · subst e109
    exact numTwos_core 109 a1 a2 _ _ (fun w => same_below (num_109 a1 a2) w) (fun w => refTwo_r32 109 a1 a2 _ _ (by omega) (by omega) (fun u v w hu hv => recR32_3 u v _ _ w hu hv) w) w
  by_cases e110 : a0 = 110
  · subst e110
    exact numTwos_core 110 a1 a2 _ _ (fun w => same_below (num_110 a1 a2) w) (fun w => refTwo_r32 110 a1 a2 _ _ (by omega) (by omega) (fun u v w hu hv => recR32_4 u v _ _ w hu hv) w) w
  by_cases e111 : a0 = 111
  · subst e111
    exact numTwos_core 111 a1 a2 _ _ (fun w => same_below (num_111 a1 a2) w) (fun w => refTwo_r32 111 a1 a2 _ _ (by omega) (by omega) (fun u v w hu hv => recR32_5 u v _ _ w hu hv) w) w
  by_cases e112 : a0 = 112
  · subst e112
    exact numTwos_core 112 a1 a2 _ _ (fun w => same_below (num_112 a1 a2) w) (fun w => refTwo_r32 112 a1 a2 _ _ (by omega) (by omega) (fun u v w hu hv => recR32_6 u v _ _ w hu hv) w) w
  by_cases e113 : a0 = 113
  · subst e113
    exact numTwos_core 113 a1 a2 _ _ (fun w => same_below (num_113 a1 a2) w) (fun w => refTwo_r32 113 a1 a2 _ _ (by omega) (by omega) (fun u v w hu hv => recR32_7 u v _ _ w hu hv) w) w
  by_cases e114 : a0 = 114
  · subst e114
    exact numTwos_core 114 a1 a2 _ _ (fun w => same_below (num_114 a1 a2) w) (fun w => refTwo_r32 114 a1 a2 _ _ (by omega) (by omega) (fun u v w hu hv => recR32_8 u v _ _ w hu hv) w) w
  by_cases e115 : a0 = 115
  · subst e115
    exact numTwos_core 115 a1 a2 _ _ (fun w => same_below (num_115 a1 a2) w) (fun w => refTwo_r32 115 a1 a2 _ _ (by omega) (by omega) (fun u v w hu hv => recR32_9 u v _ _ w hu hv) w) w
  by_cases e116 : a0 = 116
  · subst e116
    exact numTwos_core 116 a1 a2 _ _ (fun w => same_below (num_116 a1 a2) w) (fun w => refTwo_r32 116 a1 a2 _ _ (by omega) (by omega) (fun u v w hu hv => recR32_10 u v _ _ w hu hv) w) w
  by_cases e117 : a0 = 117
  · subst e117
    exact numTwos_core 117 a1 a2 _ _ (fun w => same_below (num_117 a1 a2) w) (fun w => refTwo_r32 117 a1 a2 _ _ (by omega) (by omega) (fun u v w hu hv => recR32_11 u v _ _ w hu hv) w) w
  by_cases e118 : a0 = 118
  · subst e118
    exact numTwos_core 118 a1 a2 _ _ (fun w => same_below (num_118 a1 a2) w) (fun w => refTwo_r32 118 a1 a2 _ _ (by omega) (by omega) (fun u v w hu hv => recR32_12 u v _ _ w hu hv) w) w
  by_cases e119 : a0 = 119
  · subst e119
    exact numTwos_core 119 a1 a2 _ _ (fun w => num_119 a1 a2 w) (fun w => refTwo_r32 119 a1 a2 _ _ (by omega) (by omega) (fun u v w hu hv => recR32_13 u v _ _ w hu hv) w) w
  by_cases e120 : a0 = 120
  · subst e120
    exact numTwos_core 120 a1 a2 _ _ (fun w => num_120 a1 a2 w) (fun w => refTwo_r32 120 a1 a2 _ _ (by omega) (by omega) (fun u v w hu hv => recR32_14 u v _ _ w hu hv) w) w
  by_cases e81 : a0 = 81
  · subst e81
    exact numTwos_core 81 a1 a2 _ _ (fun w => same_below (num_81 a1 a2 h1 h2) w) (fun w => refTwo_c64 81 a1 a2 _ (by omega) (by omega) (fun u v w hu hv => cmpR_0 64 u v _ _ w hu hv (by omega) (by omega)) w) w
  by_cases e82 : a0 = 82
  · subst e82
    exact numTwos_core 82 a1 a2 _ _ (fun w => same_below (num_82 a1 a2 h1 h2) w) (fun w => refTwo_c64 82 a1 a2 _ (by omega) (by omega) (fun u v w hu hv => cmpR_1 64 u v _ _ w hu hv (by omega) (by omega)) w) w
  by_cases e83 : a0 = 83
  · subst e83
    exact numTwos_core 83 a1 a2 _ _ (fun w => same_below (num_83 a1 a2 h1 h2) w) (fun w => refTwo_c64 83 a1 a2 _ (by omega) (by omega) (fun u v w hu hv => cmpR_2 64 u v _ _ w hu hv (by omega) (by omega)) w) w
  by_cases e84 : a0 = 84
  · subst e84
    exact numTwos_core 84 a1 a2 _ _ (fun w => same_below (num_84 a1 a2 h1 h2) w) (fun w => refTwo_c64 84 a1 a2 _ (by omega) (by omega) (fun u v w hu hv => cmpR_3 64 u v _ _ w hu hv (by omega) (by omega)) w) w
  by_cases e85 : a0 = 85
  · subst e85
    exact numTwos_core 85 a1 a2 _ _ (fun w => same_below (num_85 a1 a2 h1 h2) w) (fun w => refTwo_c64 85 a1 a2 _ (by omega) (by omega) (fun u v w hu hv => cmpR_4 64 u v _ _ w hu hv (by omega) (by omega)) w) w
  by_cases e86 : a0 = 86
  · subst e86
    exact numTwos_core 86 a1 a2 _ _ (fun w => same_below (num_86 a1 a2 h1 h2) w) (fun w => refTwo_c64 86 a1 a2 _ (by omega) (by omega) (fun u v w hu hv => cmpR_5 64 u v _ _ w hu hv (by omega) (by omega)) w) w
  by_cases e87 : a0 = 87
  · subst e87
    exact numTwos_core 87 a1 a2 _ _ (fun w => same_below (num_87 a1 a2 h1 h2) w) (fun w => refTwo_c64 87 a1 a2 _ (by omega) (by omega) (fun u v w hu hv => cmpR_6 64 u v _ _ w hu hv (by omega) (by omega)) w) w
  by_cases e88 : a0 = 88
  · subst e88
    exact numTwos_core 88 a1 a2 _ _ (fun w => same_below (num_88 a1 a2 h1 h2) w) (fun w => refTwo_c64 88 a1 a2 _ (by omega) (by omega) (fun u v w hu hv => cmpR_7 64 u v _ _ w hu hv (by omega) (by omega)) w) w
  by_cases e89 : a0 = 89
  · subst e89
    exact numTwos_core 89 a1 a2 _ _ (fun w => same_below (num_89 a1 a2 h1 h2) w) (fun w => refTwo_c64 89 a1 a2 _ (by omega) (by omega) (fun u v w hu hv => cmpR_8 64 u v _ _ w hu hv (by omega) (by omega)) w) w
  by_cases e90 : a0 = 90
  · subst e90
    exact numTwos_core 90 a1 a2 _ _ (fun w => same_below (num_90 a1 a2 h1 h2) w) (fun w => refTwo_c64 90 a1 a2 _ (by omega) (by omega) (fun u v w hu hv => cmpR_9 64 u v _ _ w hu hv (by omega) (by omega)) w) w
  by_cases e124 : a0 = 124
  · subst e124
    exact numTwos_core 124 a1 a2 _ _ (fun w => same_below (num_124 a1 a2 h1 h2) w) (fun w => refTwo_r64 124 a1 a2 _ _ (by omega) (by omega) (fun u v w hu hv => recR64_0 u v _ _ w hu hv) w) w
  by_cases e125 : a0 = 125
  · subst e125
    exact numTwos_core 125 a1 a2 _ _ (fun w => same_below (num_125 a1 a2 h1 h2) w) (fun w => refTwo_r64 125 a1 a2 _ _ (by omega) (by omega) (fun u v w hu hv => recR64_1 u v _ _ w hu hv) w) w
  by_cases e126 : a0 = 126
  · subst e126
    exact numTwos_core 126 a1 a2 _ _ (fun w => same_below (num_126 a1 a2 h1 h2) w) (fun w => refTwo_r64 126 a1 a2 _ _ (by omega) (by omega) (fun u v w hu hv => recR64_2 u v _ _ w hu hv) w) w
  by_cases e127 : a0 = 127
  · subst e127
    exact numTwos_core 127 a1 a2 _ _ (fun w => same_below (num_127 a1 a2 h1 h2) w) (fun w => refTwo_r64 127 a1 a2 _ _ (by omega) (by omega) (fun u v w hu hv => recR64_3 u v _ _ w hu hv) w) w
  by_cases e128 : a0 = 128
  · subst e128
    exact numTwos_core 128 a1 a2 _ _ (fun w => same_below (num_128 a1 a2 h1 h2) w) (fun w => refTwo_r64 128 a1 a2 _ _ (by omega) (by omega) (fun u v w hu hv => recR64_4 u v _ _ w hu hv) w) w
  by_cases e129 : a0 = 129
  · subst e129
    exact numTwos_core 129 a1 a2 _ _ (fun w => same_below (num_129 a1 a2 h1 h2) w) (fun w => refTwo_r64 129 a1 a2 _ _ (by omega) (by omega) (fun u v w hu hv => recR64_5 u v _ _ w hu hv) w) w
  by_cases e130 : a0 = 130
  · subst e130
    exact numTwos_core 130 a1 a2 _ _ (fun w => same_below (num_130 a1 a2 h1 h2) w) (fun w => refTwo_r64 130 a1 a2 _ _ (by omega) (by omega) (fun u v w hu hv => recR64_6 u v _ _ w hu hv) w) w
  by_cases e131 : a0 = 131
  · subst e131
    exact numTwos_core 131 a1 a2 _ _ (fun w => same_below (num_131 a1 a2 h1 h2) w) (fun w => refTwo_r64 131 a1 a2 _ _ (by omega) (by omega) (fun u v w hu hv => recR64_7 u v _ _ w hu hv) w) w
  by_cases e132 : a0 = 132
  · subst e132
    exact numTwos_core 132 a1 a2 _ _ (fun w => same_below (num_132 a1 a2 h1 h2) w) (fun w => refTwo_r64 132 a1 a2 _ _ (by omega) (by omega) (fun u v w hu hv => recR64_8 u v _ _ w hu hv) w) w
  by_cases e133 : a0 = 133
  · subst e133
    exact numTwos_core 133 a1 a2 _ _ (fun w => same_below (num_133 a1 a2 h1 h2) w) (fun w => refTwo_r64 133 a1 a2 _ _ (by omega) (by omega) (fun u v w hu hv => recR64_9 u v _ _ w hu hv) w) w
  by_cases e134 : a0 = 134
  · subst e134
    exact numTwos_core 134 a1 a2 _ _ (fun w => same_below (num_134 a1 a2 h1 h2) w) (fun w => refTwo_r64 134 a1 a2 _ _ (by omega) (by omega) (fun u v w hu hv => recR64_10 u v _ _ w hu hv) w) w
  by_cases e135 : a0 = 135
  · subst e135
    exact numTwos_core 135 a1 a2 _ _ (fun w => same_below (num_135 a1 a2 h1 h2) w) (fun w => refTwo_r64 135 a1 a2 _ _ (by omega) (by omega) (fun u v w hu hv => recR64_11 u v _ _ w hu hv) w) w
  by_cases e136 : a0 = 136
  · subst e136
    exact numTwos_core 136 a1 a2 _ _ (fun w => same_below (num_136 a1 a2 h1 h2) w) (fun w => refTwo_r64 136 a1 a2 _ _ (by omega) (by omega) (fun u v w hu hv => recR64_12 u v _ _ w hu hv) w) w
  by_cases e137 : a0 = 137
  · subst e137
    exact numTwos_core 137 a1 a2 _ _ (fun w => num_137 a1 a2 h1 h2 w) (fun w => refTwo_r64 137 a1 a2 _ _ (by omega) (by omega) (fun u v w hu hv => recR64_13 u v _ _ w hu hv) w) w
  by_cases e138 : a0 = 138
  · subst e138
    exact numTwos_core 138 a1 a2 _ _ (fun w => num_138 a1 a2 h1 h2 w) (fun w => refTwo_r64 138 a1 a2 _ _ (by omega) (by omega) (fun u v w hu hv => recR64_14 u v _ _ w hu hv) w) w
  refine numTwos_core a0 a1 a2 0 6 (same_below ?_) ?_ w
  · intro w
    by_cases ha : 80 ≤ a0 ∧ a0 ≤ 90
    · exact pick_asks a0 a1 a2 0 6 ha.1 ha.2 (fun w w' => w' = w) (fun w => two64_other (a0 - 11) a1 a2 (by rw [beq_eq_false_iff_ne]; omega) (by rw [beq_eq_false_iff_ne]; omega) (by rw [beq_eq_false_iff_ne]; omega) (by rw [beq_eq_false_iff_ne]; omega) (by rw [beq_eq_false_iff_ne]; omega) (by rw [beq_eq_false_iff_ne]; omega) (by rw [beq_eq_false_iff_ne]; omega) (by rw [beq_eq_false_iff_ne]; omega) (by rw [beq_eq_false_iff_ne]; omega) (by rw [beq_eq_false_iff_ne]; omega) (by rw [beq_eq_false_iff_ne]; omega) (by rw [beq_eq_false_iff_ne]; omega) (by rw [beq_eq_false_iff_ne]; omega) (by rw [beq_eq_false_iff_ne]; omega) (by rw [beq_eq_false_iff_ne]; omega) (by rw [beq_eq_false_iff_ne]; omega) (by rw [beq_eq_false_iff_ne]; omega) (by rw [beq_eq_false_iff_ne]; omega) (by rw [beq_eq_false_iff_ne]; omega) (by rw [beq_eq_false_iff_ne]; omega) (by rw [beq_eq_false_iff_ne]; omega) (by rw [beq_eq_false_iff_ne]; omega) (by rw [beq_eq_false_iff_ne]; omega) (by rw [beq_eq_false_iff_ne]; omega) (by rw [beq_eq_false_iff_ne]; omega) w) w
    by_cases hm : 121 ≤ a0 ∧ a0 ≤ 138
    · exact pick_makes a0 a1 a2 0 6 hm.1 hm.2 (fun w w' => w' = w) (fun w => two64_other (a0 - 18) a1 a2 (by rw [beq_eq_false_iff_ne]; omega) (by rw [beq_eq_false_iff_ne]; omega) (by rw [beq_eq_false_iff_ne]; omega) (by rw [beq_eq_false_iff_ne]; omega) (by rw [beq_eq_false_iff_ne]; omega) (by rw [beq_eq_false_iff_ne]; omega) (by rw [beq_eq_false_iff_ne]; omega) (by rw [beq_eq_false_iff_ne]; omega) (by rw [beq_eq_false_iff_ne]; omega) (by rw [beq_eq_false_iff_ne]; omega) (by rw [beq_eq_false_iff_ne]; omega) (by rw [beq_eq_false_iff_ne]; omega) (by rw [beq_eq_false_iff_ne]; omega) (by rw [beq_eq_false_iff_ne]; omega) (by rw [beq_eq_false_iff_ne]; omega) (by rw [beq_eq_false_iff_ne]; omega) (by rw [beq_eq_false_iff_ne]; omega) (by rw [beq_eq_false_iff_ne]; omega) (by rw [beq_eq_false_iff_ne]; omega) (by rw [beq_eq_false_iff_ne]; omega) (by rw [beq_eq_false_iff_ne]; omega) (by rw [beq_eq_false_iff_ne]; omega) (by rw [beq_eq_false_iff_ne]; omega) (by rw [beq_eq_false_iff_ne]; omega) (by rw [beq_eq_false_iff_ne]; omega) w) w
    · exact pick_short a0 a1 a2 0 6 (by omega) (by omega) (by omega) (fun w w' => w' = w) (fun w => two32_other a0 _ _ (by rw [beq_eq_false_iff_ne]; omega) (by rw [beq_eq_false_iff_ne]; omega) (by rw [beq_eq_false_iff_ne]; omega) (by rw [beq_eq_false_iff_ne]; omega) (by rw [beq_eq_false_iff_ne]; omega) (by rw [beq_eq_false_iff_ne]; omega) (by rw [beq_eq_false_iff_ne]; omega) (by rw [beq_eq_false_iff_ne]; omega) (by rw [beq_eq_false_iff_ne]; omega) (by rw [beq_eq_false_iff_ne]; omega) (by rw [beq_eq_false_iff_ne]; omega) (by rw [beq_eq_false_iff_ne]; omega) (by rw [beq_eq_false_iff_ne]; omega) (by rw [beq_eq_false_iff_ne]; omega) (by rw [beq_eq_false_iff_ne]; omega) (by rw [beq_eq_false_iff_ne]; omega) (by rw [beq_eq_false_iff_ne]; omega) (by rw [beq_eq_false_iff_ne]; omega) (by rw [beq_eq_false_iff_ne]; omega) (by rw [beq_eq_false_iff_ne]; omega) (by rw [beq_eq_false_iff_ne]; omega) (by rw [beq_eq_false_iff_ne]; omega) (by rw [beq_eq_false_iff_ne]; omega) (by rw [beq_eq_false_iff_ne]; omega) (by rw [beq_eq_false_iff_ne]; omega) w) w
  · intro w
    by_cases c0 : a0 < 70
    · exact refTwo_n0 a0 a1 a2 (by omega) c0 w
    by_cases c1 : a0 < 81
    · exact refTwo_n1 a0 a1 a2 (by omega) c1 w
    by_cases c2 : a0 < 106
    · exact refTwo_n2 a0 a1 a2 (by omega) c2 w
    by_cases c3 : a0 < 124
    · exact refTwo_n3 a0 a1 a2 (by omega) c3 w
    · exact refTwo_n4 a0 a1 a2 (by omega) (by omega) w

end Go.Proofs.Ytlbilmgpnpghlaa
