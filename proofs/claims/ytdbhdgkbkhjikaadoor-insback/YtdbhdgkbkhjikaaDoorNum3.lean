/-
  What the program's own package num does: quotients and bits that are moved.
-/
import Derived.Test.YtdbhdgkbkhjikaaDoorNum1
import Derived.WalkKit
import Derived.WalkSpells
import Derived.WalkSmall
import Derived.Deep.QuietTactic
import Derived.BigQuiet
import Derived.Laws.Bits128
import Derived.Laws.BitsAllLaws
import Derived.Laws.BitsLemmas
namespace Go.Proofs.YtdbhdgkbkhjikaaDoor
open Go.RowKit
set_option maxHeartbeats 1000000 in
set_option maxRecDepth 1000000 in
theorem quot32_109_zero (a b : Int) (h : b = 0) (w : World) :
    Calls Tryd.prog 105 #[.int .u8 109, .int .i32 a, .int .i32 b] w fun e w' => e = .returned (.tuple #[.int .i64 0, .int .i64 21]) ∧ w' = w := by
  go_enter Tryd.func105, Tryd.ntmps105
  subst h
  go_wp2
  go_ret2
  exact r2 rfl rfl
set_option maxHeartbeats 1000000 in
set_option maxRecDepth 1000000 in
theorem quot32_109 (a b : Int) (hb : ¬ b = 0) (hc : ¬ (a < 0 ∧ b < 0 ∧ wrap32 (a.tdiv b) < 0)) (w : World) :
    Calls Tryd.prog 105 #[.int .u8 109, .int .i32 a, .int .i32 b] w fun e w' => e = .returned (.tuple #[.int .i64 (wrap32 (a.tdiv b)), .int .i64 0]) ∧ w' = w := by
  go_enter Tryd.func105, Tryd.ntmps105
  have hbb : (b == 0) = false := by rw [beq_eq_false_iff_ne]; exact hb
  go_wp2
  all_goals go_ret2
  all_goals first | (exfalso; exact hc ⟨‹_›, ‹_›, ‹_›⟩) | exact r2 rfl rfl | exact r2 (w64_w32 _) rfl
set_option maxHeartbeats 1000000 in
set_option maxRecDepth 1000000 in
theorem quot32_109_over (a b : Int) (hb : ¬ b = 0) (ha : a < 0) (hb0 : b < 0) (hq : wrap32 (a.tdiv b) < 0) (w : World) :
    Calls Tryd.prog 105 #[.int .u8 109, .int .i32 a, .int .i32 b] w fun e w' => e = .returned (.tuple #[.int .i64 0, .int .i64 22]) ∧ w' = w := by
  go_enter Tryd.func105, Tryd.ntmps105
  have hbb : (b == 0) = false := by rw [beq_eq_false_iff_ne]; exact hb
  go_wp2
  go_ret2
  exact r2 rfl rfl
set_option maxHeartbeats 1000000 in
set_option maxRecDepth 1000000 in
theorem quot32_111_zero (a b : Int) (h : b = 0) (w : World) :
    Calls Tryd.prog 105 #[.int .u8 111, .int .i32 a, .int .i32 b] w fun e w' => e = .returned (.tuple #[.int .i64 0, .int .i64 21]) ∧ w' = w := by
  go_enter Tryd.func105, Tryd.ntmps105
  subst h
  go_wp2
  go_ret2
  exact r2 rfl rfl
set_option maxHeartbeats 1000000 in
set_option maxRecDepth 1000000 in
theorem quot32_111 (a b : Int) (hb : ¬ b = 0) (R : Int) (hR : a.tmod b = R) (_h0 : -2147483648 ≤ R) (_h1 : R ≤ 2147483647) (w : World) :
    Calls Tryd.prog 105 #[.int .u8 111, .int .i32 a, .int .i32 b] w fun e w' => e = .returned (.tuple #[.int .i64 R, .int .i64 0]) ∧ w' = w := by
  go_enter Tryd.func105, Tryd.ntmps105
  have HR : Hid (a.tmod b = R) := hR
  clear hR
  have hbb : (b == 0) = false := by rw [beq_eq_false_iff_ne]; exact hb
  go_wp2
  go_ret2
  exact r2 (by have := HR.out; first | exact this | (rw [this, wrap64]; omega)) rfl
set_option maxHeartbeats 1000000 in
set_option maxRecDepth 1000000 in
theorem quotu32_109_zero (a b : Int) (h : b = 0) (w : World) :
    Calls Tryd.prog 106 #[.int .u8 109, .int .u32 a, .int .u32 b] w fun e w' => e = .returned (.tuple #[.int .i64 0, .int .i64 21]) ∧ w' = w := by
  go_enter Tryd.func106, Tryd.ntmps106
  subst h
  go_wp2
  go_ret2
  exact r2 rfl rfl
set_option maxHeartbeats 1000000 in
set_option maxRecDepth 1000000 in
theorem quotu32_109 (a b : Int) (hb : ¬ b = 0) (_ha : 0 ≤ a) (_ha1 : a < 4294967296) (_hb0 : 0 ≤ b) (w : World) :
    Calls Tryd.prog 106 #[.int .u8 109, .int .u32 a, .int .u32 b] w fun e w' => e = .returned (.tuple #[.int .i64 (wrap64 (a / b)), .int .i64 0]) ∧ w' = w := by
  go_enter Tryd.func106, Tryd.ntmps106
  have hbb : (b == 0) = false := by rw [beq_eq_false_iff_ne]; exact hb
  go_wp2
  go_ret2
  exact r2 rfl rfl
set_option maxHeartbeats 1000000 in
set_option maxRecDepth 1000000 in
theorem quotu32_111_zero (a b : Int) (h : b = 0) (w : World) :
    Calls Tryd.prog 106 #[.int .u8 111, .int .u32 a, .int .u32 b] w fun e w' => e = .returned (.tuple #[.int .i64 0, .int .i64 21]) ∧ w' = w := by
  go_enter Tryd.func106, Tryd.ntmps106
  subst h
  go_wp2
  go_ret2
  exact r2 rfl rfl
set_option maxHeartbeats 1000000 in
set_option maxRecDepth 1000000 in
theorem quotu32_111 (a b : Int) (hb : ¬ b = 0) (_ha : 0 ≤ a) (_ha1 : a < 4294967296) (_hb0 : 0 ≤ b) (w : World) :
    Calls Tryd.prog 106 #[.int .u8 111, .int .u32 a, .int .u32 b] w fun e w' => e = .returned (.tuple #[.int .i64 (wrap64 (a % b)), .int .i64 0]) ∧ w' = w := by
  go_enter Tryd.func106, Tryd.ntmps106
  have hbb : (b == 0) = false := by rw [beq_eq_false_iff_ne]; exact hb
  go_wp2
  go_ret2
  exact r2 rfl rfl
set_option maxHeartbeats 1000000 in
set_option maxRecDepth 1000000 in
theorem move32_116 (a b : Int) (w : World) :
    Calls Tryd.prog 107 #[.int .u8 116, .int .i32 a, .int .i32 b] w fun e w' => e = .returned (.int .i32 (wrap32 (a * 2 ^ (b % 32).toNat))) ∧ w' = w := by
  go_enter Tryd.func107, Tryd.ntmps107
  go_wp2_with fail
  refine (pwidth32 _).mono ?_
  rintro e w1 ⟨rfl, rfl⟩
  go_wp2
  go_ret
  exact ri rfl
set_option maxHeartbeats 1000000 in
set_option maxRecDepth 1000000 in
theorem move32_117 (a b : Int) (w : World) :
    Calls Tryd.prog 107 #[.int .u8 117, .int .i32 a, .int .i32 b] w fun e w' => e = .returned (.int .i32 (a / 2 ^ (b % 32).toNat)) ∧ w' = w := by
  go_enter Tryd.func107, Tryd.ntmps107
  go_wp2_with fail
  refine (pwidth32 _).mono ?_
  rintro e w1 ⟨rfl, rfl⟩
  go_wp2
  go_ret
  exact ri rfl
set_option maxHeartbeats 1000000 in
set_option maxRecDepth 1000000 in
theorem move32_118 (a b : Int) (w : World) :
    Calls Tryd.prog 107 #[.int .u8 118, .int .i32 a, .int .i32 b] w fun e w' => e = .returned (.int .i32 (wrap32 (a % 4294967296 / 2 ^ (b % 32).toNat))) ∧ w' = w := by
  go_enter Tryd.func107, Tryd.ntmps107
  go_wp2_with fail
  refine (pwidth32 _).mono ?_
  rintro e w1 ⟨rfl, rfl⟩
  go_wp2
  go_ret
  exact ri rfl
set_option maxHeartbeats 1000000 in
set_option maxRecDepth 1000000 in
theorem move32_119 (a b : Int) (w : World) :
    Calls Tryd.prog 107 #[.int .u8 119, .int .i32 a, .int .i32 b] w fun e w' => e = .returned (.int .i32 (wrap32 (bits BinOp.or IntKind.u32 (a % 4294967296 * 2 ^ (b % 32).toNat % 4294967296) (a % 4294967296 / 2 ^ (32 - b % 32).toNat)))) ∧ Below w.heap.size w w' := by
  go_enter Tryd.func107, Tryd.ntmps107
  go_wp2_with fail
  refine (pwidth32 _).mono ?_
  rintro e w1 ⟨rfl, rfl⟩
  go_wp2
  go_quiet (fail)
  go_wp2
  go_ret
  exact ⟨rfl, below_drewN (Below.refl _ _) _⟩
set_option maxHeartbeats 1000000 in
set_option maxRecDepth 1000000 in
theorem move32_120 (a b : Int) (w : World) :
    Calls Tryd.prog 107 #[.int .u8 120, .int .i32 a, .int .i32 b] w fun e w' => e = .returned (.int .i32 (wrap32 (bits BinOp.or IntKind.u32 (a % 4294967296 * 2 ^ (32 - b % 32).toNat % 4294967296) (a % 4294967296 / 2 ^ (32 - (32 - b % 32)).toNat)))) ∧ Below w.heap.size w w' := by
  go_enter Tryd.func107, Tryd.ntmps107
  go_wp2_with fail
  refine (pwidth32 _).mono ?_
  rintro e w1 ⟨rfl, rfl⟩
  go_wp2
  go_quiet (fail)
  go_wp2
  go_ret
  exact ⟨rfl, below_drewN (Below.refl _ _) _⟩
set_option maxHeartbeats 1000000 in
set_option maxRecDepth 1000000 in
theorem quot64_109_zero (a b : Int) (h : b = 0) (w : World) :
    Calls Tryd.prog 99 #[.int .u8 109, .int .i64 a, .int .i64 b] w fun e w' => e = .returned (.tuple #[.int .i64 0, .int .i64 21]) ∧ w' = w := by
  go_enter Tryd.func99, Tryd.ntmps99
  subst h
  go_wp2
  go_ret2
  exact r2 rfl rfl
set_option maxHeartbeats 1000000 in
set_option maxRecDepth 1000000 in
theorem quot64_109 (a b : Int) (hb : ¬ b = 0) (hc : ¬ (a < 0 ∧ b < 0 ∧ wrap64 (a.tdiv b) < 0)) (w : World) :
    Calls Tryd.prog 99 #[.int .u8 109, .int .i64 a, .int .i64 b] w fun e w' => e = .returned (.tuple #[.int .i64 (wrap64 (a.tdiv b)), .int .i64 0]) ∧ w' = w := by
  go_enter Tryd.func99, Tryd.ntmps99
  have hbb : (b == 0) = false := by rw [beq_eq_false_iff_ne]; exact hb
  go_wp2
  all_goals go_ret2
  all_goals first | (exfalso; exact hc ⟨‹_›, ‹_›, ‹_›⟩) | exact r2 rfl rfl | exact r2 (w64_w32 _) rfl
set_option maxHeartbeats 1000000 in
set_option maxRecDepth 1000000 in
theorem quot64_109_over (a b : Int) (hb : ¬ b = 0) (ha : a < 0) (hb0 : b < 0) (hq : wrap64 (a.tdiv b) < 0) (w : World) :
    Calls Tryd.prog 99 #[.int .u8 109, .int .i64 a, .int .i64 b] w fun e w' => e = .returned (.tuple #[.int .i64 0, .int .i64 22]) ∧ w' = w := by
  go_enter Tryd.func99, Tryd.ntmps99
  have hbb : (b == 0) = false := by rw [beq_eq_false_iff_ne]; exact hb
  go_wp2
  go_ret2
  exact r2 rfl rfl
set_option maxHeartbeats 1000000 in
set_option maxRecDepth 1000000 in
theorem quot64_111_zero (a b : Int) (h : b = 0) (w : World) :
    Calls Tryd.prog 99 #[.int .u8 111, .int .i64 a, .int .i64 b] w fun e w' => e = .returned (.tuple #[.int .i64 0, .int .i64 21]) ∧ w' = w := by
  go_enter Tryd.func99, Tryd.ntmps99
  subst h
  go_wp2
  go_ret2
  exact r2 rfl rfl
set_option maxHeartbeats 1000000 in
set_option maxRecDepth 1000000 in
theorem quot64_111 (a b : Int) (hb : ¬ b = 0) (R : Int) (hR : a.tmod b = R) (_h0 : -9223372036854775808 ≤ R) (_h1 : R ≤ 9223372036854775807) (w : World) :
    Calls Tryd.prog 99 #[.int .u8 111, .int .i64 a, .int .i64 b] w fun e w' => e = .returned (.tuple #[.int .i64 R, .int .i64 0]) ∧ w' = w := by
  go_enter Tryd.func99, Tryd.ntmps99
  have HR : Hid (a.tmod b = R) := hR
  clear hR
  have hbb : (b == 0) = false := by rw [beq_eq_false_iff_ne]; exact hb
  go_wp2
  go_ret2
  exact r2 (by have := HR.out; first | exact this | (rw [this, wrap64]; omega)) rfl
set_option maxHeartbeats 1000000 in
set_option maxRecDepth 1000000 in
theorem quotu64_109_zero (a b : Int) (h : b = 0) (w : World) :
    Calls Tryd.prog 100 #[.int .u8 109, .int .u64 a, .int .u64 b] w fun e w' => e = .returned (.tuple #[.int .i64 0, .int .i64 21]) ∧ w' = w := by
  go_enter Tryd.func100, Tryd.ntmps100
  subst h
  go_wp2
  go_ret2
  exact r2 rfl rfl
set_option maxHeartbeats 1000000 in
set_option maxRecDepth 1000000 in
theorem quotu64_109 (a b : Int) (hb : ¬ b = 0) (_ha : 0 ≤ a) (_ha1 : a < 18446744073709551616) (_hb0 : 0 ≤ b) (w : World) :
    Calls Tryd.prog 100 #[.int .u8 109, .int .u64 a, .int .u64 b] w fun e w' => e = .returned (.tuple #[.int .i64 (wrap64 (a / b)), .int .i64 0]) ∧ w' = w := by
  go_enter Tryd.func100, Tryd.ntmps100
  have hbb : (b == 0) = false := by rw [beq_eq_false_iff_ne]; exact hb
  go_wp2
  go_ret2
  exact r2 rfl rfl
set_option maxHeartbeats 1000000 in
set_option maxRecDepth 1000000 in
theorem quotu64_111_zero (a b : Int) (h : b = 0) (w : World) :
    Calls Tryd.prog 100 #[.int .u8 111, .int .u64 a, .int .u64 b] w fun e w' => e = .returned (.tuple #[.int .i64 0, .int .i64 21]) ∧ w' = w := by
  go_enter Tryd.func100, Tryd.ntmps100
  subst h
  go_wp2
  go_ret2
  exact r2 rfl rfl
set_option maxHeartbeats 1000000 in
set_option maxRecDepth 1000000 in
theorem quotu64_111 (a b : Int) (hb : ¬ b = 0) (_ha : 0 ≤ a) (_ha1 : a < 18446744073709551616) (_hb0 : 0 ≤ b) (w : World) :
    Calls Tryd.prog 100 #[.int .u8 111, .int .u64 a, .int .u64 b] w fun e w' => e = .returned (.tuple #[.int .i64 (wrap64 (a % b)), .int .i64 0]) ∧ w' = w := by
  go_enter Tryd.func100, Tryd.ntmps100
  have hbb : (b == 0) = false := by rw [beq_eq_false_iff_ne]; exact hb
  go_wp2
  go_ret2
  exact r2 rfl rfl
set_option maxHeartbeats 1000000 in
set_option maxRecDepth 1000000 in
theorem move64_116 (a b u v : Int) (_hu : IntKind.u64.wrap b = u) (_hv : IntKind.u64.wrap a = v) (_hu0 : 0 ≤ u) (_hu1 : u < 18446744073709551616) (_hv0 : 0 ≤ v) (_hv1 : v < 18446744073709551616) (w : World) :
    Calls Tryd.prog 101 #[.int .u8 116, .int .i64 a, .int .i64 b] w fun e w' => e = .returned (.int .i64 (wrap64 (a * 2 ^ (u % 64).toNat))) ∧ w' = w := by
  go_enter Tryd.func101, Tryd.ntmps101
  go_wp2_with fail
  refine (pwidth64 _).mono ?_
  rintro e w1 ⟨rfl, rfl⟩
  go_wp2
  go_ret
  exact ri rfl
set_option maxHeartbeats 1000000 in
set_option maxRecDepth 1000000 in
theorem move64_117 (a b u v : Int) (_hu : IntKind.u64.wrap b = u) (_hv : IntKind.u64.wrap a = v) (_hu0 : 0 ≤ u) (_hu1 : u < 18446744073709551616) (_hv0 : 0 ≤ v) (_hv1 : v < 18446744073709551616) (w : World) :
    Calls Tryd.prog 101 #[.int .u8 117, .int .i64 a, .int .i64 b] w fun e w' => e = .returned (.int .i64 (a / 2 ^ (u % 64).toNat)) ∧ w' = w := by
  go_enter Tryd.func101, Tryd.ntmps101
  go_wp2_with fail
  refine (pwidth64 _).mono ?_
  rintro e w1 ⟨rfl, rfl⟩
  go_wp2
  go_ret
  exact ri rfl
set_option maxHeartbeats 1000000 in
set_option maxRecDepth 1000000 in
theorem move64_118 (a b u v : Int) (_hu : IntKind.u64.wrap b = u) (_hv : IntKind.u64.wrap a = v) (_hu0 : 0 ≤ u) (_hu1 : u < 18446744073709551616) (_hv0 : 0 ≤ v) (_hv1 : v < 18446744073709551616) (w : World) :
    Calls Tryd.prog 101 #[.int .u8 118, .int .i64 a, .int .i64 b] w fun e w' => e = .returned (.int .i64 (wrap64 (v / 2 ^ (u % 64).toNat))) ∧ w' = w := by
  go_enter Tryd.func101, Tryd.ntmps101
  go_wp2_with fail
  refine (pwidth64 _).mono ?_
  rintro e w1 ⟨rfl, rfl⟩
  go_wp2
  go_ret
  exact ri rfl
set_option maxHeartbeats 1000000 in
set_option maxRecDepth 1000000 in
theorem move64_119 (a b u v : Int) (_hu : IntKind.u64.wrap b = u) (_hv : IntKind.u64.wrap a = v) (_hu0 : 0 ≤ u) (_hu1 : u < 18446744073709551616) (_hv0 : 0 ≤ v) (_hv1 : v < 18446744073709551616) (w : World) :
    Calls Tryd.prog 101 #[.int .u8 119, .int .i64 a, .int .i64 b] w fun e w' => e = .returned (.int .i64 (wrap64 (bits BinOp.or IntKind.u64 (IntKind.u64.wrap (v * 2 ^ (u % 64).toNat)) (v / 2 ^ (64 - u % 64).toNat)))) ∧ Below w.heap.size w w' := by
  go_enter Tryd.func101, Tryd.ntmps101
  go_wp2_with fail
  refine (pwidth64 _).mono ?_
  rintro e w1 ⟨rfl, rfl⟩
  go_wp2
  go_quiet (fail)
  go_wp2
  go_ret
  exact ⟨rfl, below_drewN (Below.refl _ _) _⟩
set_option maxHeartbeats 1000000 in
set_option maxRecDepth 1000000 in
theorem move64_120 (a b u v : Int) (_hu : IntKind.u64.wrap b = u) (_hv : IntKind.u64.wrap a = v) (_hu0 : 0 ≤ u) (_hu1 : u < 18446744073709551616) (_hv0 : 0 ≤ v) (_hv1 : v < 18446744073709551616) (w : World) :
    Calls Tryd.prog 101 #[.int .u8 120, .int .i64 a, .int .i64 b] w fun e w' => e = .returned (.int .i64 (wrap64 (bits BinOp.or IntKind.u64 (IntKind.u64.wrap (v * 2 ^ (64 - u % 64).toNat)) (v / 2 ^ (64 - (64 - u % 64)).toNat)))) ∧ Below w.heap.size w w' := by
  go_enter Tryd.func101, Tryd.ntmps101
  go_wp2_with fail
  refine (pwidth64 _).mono ?_
  rintro e w1 ⟨rfl, rfl⟩
  go_wp2
  go_quiet (fail)
  go_wp2
  go_ret
  exact ⟨rfl, below_drewN (Below.refl _ _) _⟩
end Go.Proofs.YtdbhdgkbkhjikaaDoor
