/-
  Bits that are turned round: the world afterwards differs by draws alone.
-/
import Derived.Test.YtlbilmgpnpghlabKeep2
namespace Go.Proofs.Ytlbilmgpnpghlab
open Go.RowKit

set_option maxHeartbeats 1000000 in
set_option maxRecDepth 1000000 in
theorem dmove32_119 (a b : Int) (w : World) :
    Calls Try.prog 29 #[.int .u8 119, .int .i32 a, .int .i32 b] w fun e w' => e = .returned (.int .i32 (wrap32 (bits BinOp.or IntKind.u32 (a % 4294967296 * 2 ^ (b % 32).toNat % 4294967296) (a % 4294967296 / 2 ^ (32 - b % 32).toNat)))) ∧ ∃ n, w' = w.drewN n := by
  go_enter Try.func29, Try.ntmps29
  go_wp2_with fail
  refine (pwidth32 _).mono ?_
  rintro e w1 ⟨rfl, rfl⟩
  go_wp2
  go_quiet (fail)
  go_wp2
  go_ret
  exact ⟨rfl, ⟨_, rfl⟩⟩
set_option maxHeartbeats 1000000 in
set_option maxRecDepth 1000000 in
theorem dtwo32_119 (a b : Int) (R : Int) (_h0 : -2147483648 ≤ R) (_h1 : R ≤ 2147483647) (HL : Hid (∀ w, Calls Try.prog 29 #[.int .u8 119, .int .i32 a, .int .i32 b] w fun e w' => e = .returned (.int .i32 R) ∧ ∃ n, w' = w.drewN n)) (w : World) :
    Calls Try.prog 16 #[.int .u8 119, .int .i32 a, .int .i32 b] w fun e w' => e = .returned (.tuple #[.int .i64 R, .int .i64 0]) ∧ ∃ n, w' = w.drewN n := by
  go_enter Try.func16, Try.ntmps16
  go_wp2_with fail
  refine (HL.out _).mono ?_
  rintro e w1 ⟨rfl, b1⟩
  go_wp2
  go_ret2
  exact ⟨rfl, b1⟩
theorem dt32_119 (X Y : BitVec 32) (w : World) :
    Calls Try.prog 16 #[.int .u8 119, .int .i32 X.toInt, .int .i32 Y.toInt] w fun e w' => e = .returned (.tuple #[.int .i64 (recV 13 X Y).1, .int .i64 (recV 13 X Y).2]) ∧ ∃ n, w' = w.drewN n := by
  refine dtwo32_119 X.toInt Y.toInt _ (toInt_lt32 _).1 (toInt_lt32 _).2 (fun w => ?_) w
  have h := dmove32_119 X.toInt Y.toInt w
  rw [rotl32] at h
  exact h
theorem dnum_119 (a b : Int) (w : World) :
    Calls Try.prog 7 #[.int .u8 119, .int .i64 a, .int .i64 b] w fun e w' => e = .returned (.tuple #[.int .i64 (recV 13 (BitVec.ofInt 32 a) (BitVec.ofInt 32 b)).1, .int .i64 (recV 13 (BitVec.ofInt 32 a) (BitVec.ofInt 32 b)).2]) ∧ ∃ n, w' = w.drewN n := by
  refine pick_short 119 a b _ _ (by omega) (by omega) (by omega) (fun w w' => ∃ n, w' = w.drewN n) (fun w => ?_) w
  rw [w32_bv, w32_bv]
  exact dt32_119 _ _ w
set_option maxHeartbeats 1000000 in
set_option maxRecDepth 1000000 in
theorem dmove32_120 (a b : Int) (w : World) :
    Calls Try.prog 29 #[.int .u8 120, .int .i32 a, .int .i32 b] w fun e w' => e = .returned (.int .i32 (wrap32 (bits BinOp.or IntKind.u32 (a % 4294967296 * 2 ^ (32 - b % 32).toNat % 4294967296) (a % 4294967296 / 2 ^ (32 - (32 - b % 32)).toNat)))) ∧ ∃ n, w' = w.drewN n := by
  go_enter Try.func29, Try.ntmps29
  go_wp2_with fail
  refine (pwidth32 _).mono ?_
  rintro e w1 ⟨rfl, rfl⟩
  go_wp2
  go_quiet (fail)
  go_wp2
  go_ret
  exact ⟨rfl, ⟨_, rfl⟩⟩
set_option maxHeartbeats 1000000 in
set_option maxRecDepth 1000000 in
theorem dtwo32_120 (a b : Int) (R : Int) (_h0 : -2147483648 ≤ R) (_h1 : R ≤ 2147483647) (HL : Hid (∀ w, Calls Try.prog 29 #[.int .u8 120, .int .i32 a, .int .i32 b] w fun e w' => e = .returned (.int .i32 R) ∧ ∃ n, w' = w.drewN n)) (w : World) :
    Calls Try.prog 16 #[.int .u8 120, .int .i32 a, .int .i32 b] w fun e w' => e = .returned (.tuple #[.int .i64 R, .int .i64 0]) ∧ ∃ n, w' = w.drewN n := by
  go_enter Try.func16, Try.ntmps16
  go_wp2_with fail
  refine (HL.out _).mono ?_
  rintro e w1 ⟨rfl, b1⟩
  go_wp2
  go_ret2
  exact ⟨rfl, b1⟩
theorem dt32_120 (X Y : BitVec 32) (w : World) :
    Calls Try.prog 16 #[.int .u8 120, .int .i32 X.toInt, .int .i32 Y.toInt] w fun e w' => e = .returned (.tuple #[.int .i64 (recV 14 X Y).1, .int .i64 (recV 14 X Y).2]) ∧ ∃ n, w' = w.drewN n := by
  refine dtwo32_120 X.toInt Y.toInt _ (toInt_lt32 _).1 (toInt_lt32 _).2 (fun w => ?_) w
  have h := dmove32_120 X.toInt Y.toInt w
  rw [rotr32] at h
  exact h
theorem dnum_120 (a b : Int) (w : World) :
    Calls Try.prog 7 #[.int .u8 120, .int .i64 a, .int .i64 b] w fun e w' => e = .returned (.tuple #[.int .i64 (recV 14 (BitVec.ofInt 32 a) (BitVec.ofInt 32 b)).1, .int .i64 (recV 14 (BitVec.ofInt 32 a) (BitVec.ofInt 32 b)).2]) ∧ ∃ n, w' = w.drewN n := by
  refine pick_short 120 a b _ _ (by omega) (by omega) (by omega) (fun w w' => ∃ n, w' = w.drewN n) (fun w => ?_) w
  rw [w32_bv, w32_bv]
  exact dt32_120 _ _ w
set_option maxHeartbeats 1000000 in
set_option maxRecDepth 1000000 in
theorem dmove64_119 (a b u v : Int) (_hu : IntKind.u64.wrap b = u) (_hv : IntKind.u64.wrap a = v) (_hu0 : 0 ≤ u) (_hu1 : u < 18446744073709551616) (_hv0 : 0 ≤ v) (_hv1 : v < 18446744073709551616) (w : World) :
    Calls Try.prog 23 #[.int .u8 119, .int .i64 a, .int .i64 b] w fun e w' => e = .returned (.int .i64 (wrap64 (bits BinOp.or IntKind.u64 (IntKind.u64.wrap (v * 2 ^ (u % 64).toNat)) (v / 2 ^ (64 - u % 64).toNat)))) ∧ ∃ n, w' = w.drewN n := by
  go_enter Try.func23, Try.ntmps23
  go_wp2_with fail
  refine (pwidth64 _).mono ?_
  rintro e w1 ⟨rfl, rfl⟩
  go_wp2
  go_quiet (fail)
  go_wp2
  go_ret
  exact ⟨rfl, ⟨_, rfl⟩⟩
set_option maxHeartbeats 1000000 in
set_option maxRecDepth 1000000 in
theorem dtwo64_119 (a b : Int) (R : Int)  (HL : Hid (∀ w, Calls Try.prog 23 #[.int .u8 119, .int .i64 a, .int .i64 b] w fun e w' => e = .returned (.int .i64 R) ∧ ∃ n, w' = w.drewN n)) (w : World) :
    Calls Try.prog 15 #[.int .u8 119, .int .i64 a, .int .i64 b] w fun e w' => e = .returned (.tuple #[.int .i64 R, .int .i64 0]) ∧ ∃ n, w' = w.drewN n := by
  go_enter Try.func15, Try.ntmps15
  go_wp2_with fail
  refine (HL.out _).mono ?_
  rintro e w1 ⟨rfl, b1⟩
  go_wp2
  go_ret2
  exact ⟨rfl, b1⟩
theorem dt64_119 (X Y : BitVec 64) (w : World) :
    Calls Try.prog 15 #[.int .u8 119, .int .i64 X.toInt, .int .i64 Y.toInt] w fun e w' => e = .returned (.tuple #[.int .i64 (recV 13 X Y).1, .int .i64 (recV 13 X Y).2]) ∧ ∃ n, w' = w.drewN n := by
  refine dtwo64_119 X.toInt Y.toInt _ (fun w => ?_) w
  have h := dmove64_119 X.toInt Y.toInt (Y.toNat : Int) (X.toNat : Int) (u64_of Y) (u64_of X) (by omega) (by have := Y.isLt; omega) (by omega) (by have := X.isLt; omega) w
  rw [rotl64] at h
  exact h
theorem dnum_137 (a b : Int) (ha : -9223372036854775808 ≤ a ∧ a ≤ 9223372036854775807) (hb : -9223372036854775808 ≤ b ∧ b ≤ 9223372036854775807) (w : World) :
    Calls Try.prog 7 #[.int .u8 137, .int .i64 a, .int .i64 b] w fun e w' => e = .returned (.tuple #[.int .i64 (recV 13 (BitVec.ofInt 64 a) (BitVec.ofInt 64 b)).1, .int .i64 (recV 13 (BitVec.ofInt 64 a) (BitVec.ofInt 64 b)).2]) ∧ ∃ n, w' = w.drewN n := by
  refine pick_makes 137 a b _ _ (by omega) (by omega) (fun w w' => ∃ n, w' = w.drewN n) (fun w => ?_) w
  have h := dt64_119 (BitVec.ofInt 64 a) (BitVec.ofInt 64 b) w
  rw [of64_toInt a ha, of64_toInt b hb] at h
  exact h
set_option maxHeartbeats 1000000 in
set_option maxRecDepth 1000000 in
theorem dmove64_120 (a b u v : Int) (_hu : IntKind.u64.wrap b = u) (_hv : IntKind.u64.wrap a = v) (_hu0 : 0 ≤ u) (_hu1 : u < 18446744073709551616) (_hv0 : 0 ≤ v) (_hv1 : v < 18446744073709551616) (w : World) :
    Calls Try.prog 23 #[.int .u8 120, .int .i64 a, .int .i64 b] w fun e w' => e = .returned (.int .i64 (wrap64 (bits BinOp.or IntKind.u64 (IntKind.u64.wrap (v * 2 ^ (64 - u % 64).toNat)) (v / 2 ^ (64 - (64 - u % 64)).toNat)))) ∧ ∃ n, w' = w.drewN n := by
  go_enter Try.func23, Try.ntmps23
  go_wp2_with fail
  refine (pwidth64 _).mono ?_
  rintro e w1 ⟨rfl, rfl⟩
  go_wp2
  go_quiet (fail)
  go_wp2
  go_ret
  exact ⟨rfl, ⟨_, rfl⟩⟩
set_option maxHeartbeats 1000000 in
set_option maxRecDepth 1000000 in
theorem dtwo64_120 (a b : Int) (R : Int)  (HL : Hid (∀ w, Calls Try.prog 23 #[.int .u8 120, .int .i64 a, .int .i64 b] w fun e w' => e = .returned (.int .i64 R) ∧ ∃ n, w' = w.drewN n)) (w : World) :
    Calls Try.prog 15 #[.int .u8 120, .int .i64 a, .int .i64 b] w fun e w' => e = .returned (.tuple #[.int .i64 R, .int .i64 0]) ∧ ∃ n, w' = w.drewN n := by
  go_enter Try.func15, Try.ntmps15
  go_wp2_with fail
  refine (HL.out _).mono ?_
  rintro e w1 ⟨rfl, b1⟩
  go_wp2
  go_ret2
  exact ⟨rfl, b1⟩
theorem dt64_120 (X Y : BitVec 64) (w : World) :
    Calls Try.prog 15 #[.int .u8 120, .int .i64 X.toInt, .int .i64 Y.toInt] w fun e w' => e = .returned (.tuple #[.int .i64 (recV 14 X Y).1, .int .i64 (recV 14 X Y).2]) ∧ ∃ n, w' = w.drewN n := by
  refine dtwo64_120 X.toInt Y.toInt _ (fun w => ?_) w
  have h := dmove64_120 X.toInt Y.toInt (Y.toNat : Int) (X.toNat : Int) (u64_of Y) (u64_of X) (by omega) (by have := Y.isLt; omega) (by omega) (by have := X.isLt; omega) w
  rw [rotr64] at h
  exact h
theorem dnum_138 (a b : Int) (ha : -9223372036854775808 ≤ a ∧ a ≤ 9223372036854775807) (hb : -9223372036854775808 ≤ b ∧ b ≤ 9223372036854775807) (w : World) :
    Calls Try.prog 7 #[.int .u8 138, .int .i64 a, .int .i64 b] w fun e w' => e = .returned (.tuple #[.int .i64 (recV 14 (BitVec.ofInt 64 a) (BitVec.ofInt 64 b)).1, .int .i64 (recV 14 (BitVec.ofInt 64 a) (BitVec.ofInt 64 b)).2]) ∧ ∃ n, w' = w.drewN n := by
  refine pick_makes 138 a b _ _ (by omega) (by omega) (fun w w' => ∃ n, w' = w.drewN n) (fun w => ?_) w
  have h := dt64_120 (BitVec.ofInt 64 a) (BitVec.ofInt 64 b) w
  rw [of64_toInt a ha, of64_toInt b hb] at h
  exact h
end Go.Proofs.Ytlbilmgpnpghlab
