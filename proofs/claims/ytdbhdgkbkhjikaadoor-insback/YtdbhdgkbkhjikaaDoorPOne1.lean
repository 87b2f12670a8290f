/-
  What the program's own one[uint64] and one[uint32] do.
-/
import Derived.Test.YtdbhdgkbkhjikaaDoorNum6
import Derived.Test.YtdbhdgkbkhjikaaDoorLib64
namespace Go.Proofs.YtdbhdgkbkhjikaaDoor
open Go.RowKit

set_option maxHeartbeats 1000000 in
set_option maxRecDepth 1000000 in
theorem one64_69 (x : Int) (b : Bool) (_hb : (x == 0) = b) (w : World) :
    Calls Tryd.prog 74 #[.int .u8 69, .int .u64 x] w fun e w' => e = .returned (.tuple #[.int .i64 (t2i b), .int .i64 0]) ∧ w' = w := by
  go_enter Tryd.func74, Tryd.ntmps74
  go_wp2_with fail
  refine (ptruth b _).mono ?_
  rintro e w1 ⟨rfl, rfl⟩
  go_wp2
  go_ret2
  exact ⟨rfl, rfl⟩
set_option maxHeartbeats 1000000 in
set_option maxRecDepth 1000000 in
theorem one64_103 (x L : Int) (_x0 : 0 ≤ x) (_x1 : x < 18446744073709551616) (_l0 : 0 ≤ L) (_l1 : L ≤ 64) (HL : Hid (∀ w, Calls Tryd.prog 92 #[.int .u64 x] w fun e w' => e = .returned (.int .i64 L) ∧ w' = w)) (w : World) :
    Calls Tryd.prog 74 #[.int .u8 103, .int .u64 x] w fun e w' => e = .returned (.tuple #[.int .i64 (64 - L), .int .i64 0]) ∧ w' = w := by
  go_enter Tryd.func74, Tryd.ntmps74
  go_wp2_with fail
  refine (pwidth64 _).mono ?_
  rintro e w1 ⟨rfl, rfl⟩
  go_wp2_with fail
  refine (HL.out _).mono ?_
  rintro e w1 ⟨rfl, rfl⟩
  go_wp2
  go_ret2
  exact ⟨rfl, rfl⟩
set_option maxHeartbeats 1000000 in
set_option maxRecDepth 1000000 in
theorem one64_104 (x T : Int) (_x0 : 0 ≤ x) (_x1 : x < 18446744073709551616) (_l0 : 0 ≤ T) (_l1 : T ≤ 64) (w : World) (HL : Hid (Calls Tryd.prog 93 #[.int .u64 x] w fun e w' => e = .returned (.int .i64 T) ∧ w' = w)) :
    Calls Tryd.prog 74 #[.int .u8 104, .int .u64 x] w fun e w' => e = .returned (.tuple #[.int .i64 (min 64 T), .int .i64 0]) ∧ w' = w := by
  go_enter Tryd.func74, Tryd.ntmps74
  go_wp2_with fail
  refine (pwidth64 _).mono ?_
  rintro e w1 ⟨rfl, rfl⟩
  go_wp2_with fail
  refine HL.out.mono ?_
  rintro e w1 ⟨rfl, rfl⟩
  go_wp2
  all_goals go_ret2
  all_goals exact r2 (by omega) rfl
set_option maxHeartbeats 1000000 in
set_option maxRecDepth 1000000 in
theorem one64_105 (x R : Int) (_x0 : 0 ≤ x) (_x1 : x < 18446744073709551616) (HL : Hid (∀ w, Calls Tryd.prog 94 #[.int .u64 x] w fun e w' => e = .returned (.int .i64 R) ∧ w' = w)) (w : World) :
    Calls Tryd.prog 74 #[.int .u8 105, .int .u64 x] w fun e w' => e = .returned (.tuple #[.int .i64 (R), .int .i64 0]) ∧ w' = w := by
  go_enter Tryd.func74, Tryd.ntmps74
  go_wp2_with fail
  refine (HL.out _).mono ?_
  rintro e w1 ⟨rfl, rfl⟩
  go_wp2
  go_ret2
  exact ⟨rfl, rfl⟩
set_option maxHeartbeats 1000000 in
set_option maxRecDepth 1000000 in
theorem one64_no (op x : Int) (_h1 : (op == 69) = false) (_h2 : (op == 103) = false) (_h3 : (op == 104) = false) (_h4 : (op == 105) = false) (w : World) :
    Calls Tryd.prog 74 #[.int .u8 op, .int .u64 x] w fun e w' => e = .returned (.tuple #[.int .i64 (0), .int .i64 6]) ∧ w' = w := by
  go_enter Tryd.func74, Tryd.ntmps74
  go_wp2
  go_ret2
  exact ⟨rfl, rfl⟩
set_option maxHeartbeats 1000000 in
set_option maxRecDepth 1000000 in
theorem one32_69 (x : Int) (b : Bool) (_hb : (x == 0) = b) (w : World) :
    Calls Tryd.prog 75 #[.int .u8 69, .int .u32 x] w fun e w' => e = .returned (.tuple #[.int .i64 (t2i b), .int .i64 0]) ∧ w' = w := by
  go_enter Tryd.func75, Tryd.ntmps75
  go_wp2_with fail
  refine (ptruth b _).mono ?_
  rintro e w1 ⟨rfl, rfl⟩
  go_wp2
  go_ret2
  exact ⟨rfl, rfl⟩
set_option maxHeartbeats 1000000 in
set_option maxRecDepth 1000000 in
theorem one32_103 (x L : Int) (_x0 : 0 ≤ x) (_x1 : x < 4294967296) (_l0 : 0 ≤ L) (_l1 : L ≤ 64) (HL : Hid (∀ w, Calls Tryd.prog 92 #[.int .u64 x] w fun e w' => e = .returned (.int .i64 L) ∧ w' = w)) (w : World) :
    Calls Tryd.prog 75 #[.int .u8 103, .int .u32 x] w fun e w' => e = .returned (.tuple #[.int .i64 (32 - L), .int .i64 0]) ∧ w' = w := by
  go_enter Tryd.func75, Tryd.ntmps75
  go_wp2_with fail
  refine (pwidth32 _).mono ?_
  rintro e w1 ⟨rfl, rfl⟩
  go_wp2_with fail
  refine (HL.out _).mono ?_
  rintro e w1 ⟨rfl, rfl⟩
  go_wp2
  go_ret2
  exact ⟨rfl, rfl⟩
set_option maxHeartbeats 1000000 in
set_option maxRecDepth 1000000 in
theorem one32_104 (x T : Int) (_x0 : 0 ≤ x) (_x1 : x < 4294967296) (_l0 : 0 ≤ T) (_l1 : T ≤ 64) (w : World) (HL : Hid (Calls Tryd.prog 93 #[.int .u64 x] w fun e w' => e = .returned (.int .i64 T) ∧ w' = w)) :
    Calls Tryd.prog 75 #[.int .u8 104, .int .u32 x] w fun e w' => e = .returned (.tuple #[.int .i64 (min 32 T), .int .i64 0]) ∧ w' = w := by
  go_enter Tryd.func75, Tryd.ntmps75
  go_wp2_with fail
  refine (pwidth32 _).mono ?_
  rintro e w1 ⟨rfl, rfl⟩
  go_wp2_with fail
  refine HL.out.mono ?_
  rintro e w1 ⟨rfl, rfl⟩
  go_wp2
  all_goals go_ret2
  all_goals exact r2 (by omega) rfl
set_option maxHeartbeats 1000000 in
set_option maxRecDepth 1000000 in
theorem one32_105 (x R : Int) (_x0 : 0 ≤ x) (_x1 : x < 4294967296) (HL : Hid (∀ w, Calls Tryd.prog 94 #[.int .u64 x] w fun e w' => e = .returned (.int .i64 R) ∧ w' = w)) (w : World) :
    Calls Tryd.prog 75 #[.int .u8 105, .int .u32 x] w fun e w' => e = .returned (.tuple #[.int .i64 (R), .int .i64 0]) ∧ w' = w := by
  go_enter Tryd.func75, Tryd.ntmps75
  go_wp2_with fail
  refine (HL.out _).mono ?_
  rintro e w1 ⟨rfl, rfl⟩
  go_wp2
  go_ret2
  exact ⟨rfl, rfl⟩
set_option maxHeartbeats 1000000 in
set_option maxRecDepth 1000000 in
theorem one32_no (op x : Int) (_h1 : (op == 69) = false) (_h2 : (op == 103) = false) (_h3 : (op == 104) = false) (_h4 : (op == 105) = false) (w : World) :
    Calls Tryd.prog 75 #[.int .u8 op, .int .u32 x] w fun e w' => e = .returned (.tuple #[.int .i64 (0), .int .i64 6]) ∧ w' = w := by
  go_enter Tryd.func75, Tryd.ntmps75
  go_wp2
  go_ret2
  exact ⟨rfl, rfl⟩
end Go.Proofs.YtdbhdgkbkhjikaaDoor
