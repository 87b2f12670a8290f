/-
  What the program's own package num does: the choice of an instruction.
-/
import Derived.Test.YtdbhdgkbkhjikaaDoorNum1
import Derived.WalkKit
import Derived.WalkSpells
import Derived.WalkSmall
import Derived.Deep.QuietTactic
import Derived.BigQuiet
import Derived.Laws.Bits128
import Derived.Laws.BitsAllLaws
import Derived.Laws.BitsLemmas
namespace Go.Proofs.YtdbhdgkbkhjikaaDoor
open Go.RowKit
set_option maxHeartbeats 1000000 in
set_option maxRecDepth 1000000 in
theorem two32_70 (a b : Int) (c : Bool) (HL : Hid (∀ w, Calls Tryd.prog 102 #[.int .u8 70, .int .i32 a, .int .i32 b] w fun e w' => e = .returned (.bool c) ∧ w' = w)) (w : World) :
    Calls Tryd.prog 77 #[.int .u8 70, .int .i32 a, .int .i32 b] w fun e w' => e = .returned (.tuple #[.int .i64 (t2i c), .int .i64 0]) ∧ w' = w := by
  go_enter Tryd.func77, Tryd.ntmps77
  go_wp2_with fail
  refine (HL.out _).mono ?_
  rintro e w1 ⟨rfl, rfl⟩
  go_wp2_with fail
  refine (ptruth c _).mono ?_
  rintro e w2 ⟨rfl, rfl⟩
  go_wp2
  go_ret2
  exact r2 rfl rfl
set_option maxHeartbeats 1000000 in
set_option maxRecDepth 1000000 in
theorem two32_71 (a b : Int) (c : Bool) (HL : Hid (∀ w, Calls Tryd.prog 102 #[.int .u8 71, .int .i32 a, .int .i32 b] w fun e w' => e = .returned (.bool c) ∧ w' = w)) (w : World) :
    Calls Tryd.prog 77 #[.int .u8 71, .int .i32 a, .int .i32 b] w fun e w' => e = .returned (.tuple #[.int .i64 (t2i c), .int .i64 0]) ∧ w' = w := by
  go_enter Tryd.func77, Tryd.ntmps77
  go_wp2_with fail
  refine (HL.out _).mono ?_
  rintro e w1 ⟨rfl, rfl⟩
  go_wp2_with fail
  refine (ptruth c _).mono ?_
  rintro e w2 ⟨rfl, rfl⟩
  go_wp2
  go_ret2
  exact r2 rfl rfl
set_option maxHeartbeats 1000000 in
set_option maxRecDepth 1000000 in
theorem two32_72 (a b : Int) (c : Bool) (HL : Hid (∀ w, Calls Tryd.prog 102 #[.int .u8 72, .int .i32 a, .int .i32 b] w fun e w' => e = .returned (.bool c) ∧ w' = w)) (w : World) :
    Calls Tryd.prog 77 #[.int .u8 72, .int .i32 a, .int .i32 b] w fun e w' => e = .returned (.tuple #[.int .i64 (t2i c), .int .i64 0]) ∧ w' = w := by
  go_enter Tryd.func77, Tryd.ntmps77
  go_wp2_with fail
  refine (HL.out _).mono ?_
  rintro e w1 ⟨rfl, rfl⟩
  go_wp2_with fail
  refine (ptruth c _).mono ?_
  rintro e w2 ⟨rfl, rfl⟩
  go_wp2
  go_ret2
  exact r2 rfl rfl
set_option maxHeartbeats 1000000 in
set_option maxRecDepth 1000000 in
theorem two32_74 (a b : Int) (c : Bool) (HL : Hid (∀ w, Calls Tryd.prog 102 #[.int .u8 74, .int .i32 a, .int .i32 b] w fun e w' => e = .returned (.bool c) ∧ w' = w)) (w : World) :
    Calls Tryd.prog 77 #[.int .u8 74, .int .i32 a, .int .i32 b] w fun e w' => e = .returned (.tuple #[.int .i64 (t2i c), .int .i64 0]) ∧ w' = w := by
  go_enter Tryd.func77, Tryd.ntmps77
  go_wp2_with fail
  refine (HL.out _).mono ?_
  rintro e w1 ⟨rfl, rfl⟩
  go_wp2_with fail
  refine (ptruth c _).mono ?_
  rintro e w2 ⟨rfl, rfl⟩
  go_wp2
  go_ret2
  exact r2 rfl rfl
set_option maxHeartbeats 1000000 in
set_option maxRecDepth 1000000 in
theorem two32_76 (a b : Int) (c : Bool) (HL : Hid (∀ w, Calls Tryd.prog 102 #[.int .u8 76, .int .i32 a, .int .i32 b] w fun e w' => e = .returned (.bool c) ∧ w' = w)) (w : World) :
    Calls Tryd.prog 77 #[.int .u8 76, .int .i32 a, .int .i32 b] w fun e w' => e = .returned (.tuple #[.int .i64 (t2i c), .int .i64 0]) ∧ w' = w := by
  go_enter Tryd.func77, Tryd.ntmps77
  go_wp2_with fail
  refine (HL.out _).mono ?_
  rintro e w1 ⟨rfl, rfl⟩
  go_wp2_with fail
  refine (ptruth c _).mono ?_
  rintro e w2 ⟨rfl, rfl⟩
  go_wp2
  go_ret2
  exact r2 rfl rfl
set_option maxHeartbeats 1000000 in
set_option maxRecDepth 1000000 in
theorem two32_78 (a b : Int) (c : Bool) (HL : Hid (∀ w, Calls Tryd.prog 102 #[.int .u8 78, .int .i32 a, .int .i32 b] w fun e w' => e = .returned (.bool c) ∧ w' = w)) (w : World) :
    Calls Tryd.prog 77 #[.int .u8 78, .int .i32 a, .int .i32 b] w fun e w' => e = .returned (.tuple #[.int .i64 (t2i c), .int .i64 0]) ∧ w' = w := by
  go_enter Tryd.func77, Tryd.ntmps77
  go_wp2_with fail
  refine (HL.out _).mono ?_
  rintro e w1 ⟨rfl, rfl⟩
  go_wp2_with fail
  refine (ptruth c _).mono ?_
  rintro e w2 ⟨rfl, rfl⟩
  go_wp2
  go_ret2
  exact r2 rfl rfl
set_option maxHeartbeats 1000000 in
set_option maxRecDepth 1000000 in
theorem two32_73 (a b : Int) (c : Bool) (HL : Hid (∀ w, Calls Tryd.prog 103 #[.int .u8 72, .int .u32 (a % 4294967296), .int .u32 (b % 4294967296)] w fun e w' => e = .returned (.bool c) ∧ w' = w)) (w : World) :
    Calls Tryd.prog 77 #[.int .u8 73, .int .i32 a, .int .i32 b] w fun e w' => e = .returned (.tuple #[.int .i64 (t2i c), .int .i64 0]) ∧ w' = w := by
  go_enter Tryd.func77, Tryd.ntmps77
  go_wp2_with fail
  refine (HL.out _).mono ?_
  rintro e w1 ⟨rfl, rfl⟩
  go_wp2_with fail
  refine (ptruth c _).mono ?_
  rintro e w2 ⟨rfl, rfl⟩
  go_wp2
  go_ret2
  exact r2 rfl rfl
set_option maxHeartbeats 1000000 in
set_option maxRecDepth 1000000 in
theorem two32_75 (a b : Int) (c : Bool) (HL : Hid (∀ w, Calls Tryd.prog 103 #[.int .u8 74, .int .u32 (a % 4294967296), .int .u32 (b % 4294967296)] w fun e w' => e = .returned (.bool c) ∧ w' = w)) (w : World) :
    Calls Tryd.prog 77 #[.int .u8 75, .int .i32 a, .int .i32 b] w fun e w' => e = .returned (.tuple #[.int .i64 (t2i c), .int .i64 0]) ∧ w' = w := by
  go_enter Tryd.func77, Tryd.ntmps77
  go_wp2_with fail
  refine (HL.out _).mono ?_
  rintro e w1 ⟨rfl, rfl⟩
  go_wp2_with fail
  refine (ptruth c _).mono ?_
  rintro e w2 ⟨rfl, rfl⟩
  go_wp2
  go_ret2
  exact r2 rfl rfl
set_option maxHeartbeats 1000000 in
set_option maxRecDepth 1000000 in
theorem two32_77 (a b : Int) (c : Bool) (HL : Hid (∀ w, Calls Tryd.prog 103 #[.int .u8 76, .int .u32 (a % 4294967296), .int .u32 (b % 4294967296)] w fun e w' => e = .returned (.bool c) ∧ w' = w)) (w : World) :
    Calls Tryd.prog 77 #[.int .u8 77, .int .i32 a, .int .i32 b] w fun e w' => e = .returned (.tuple #[.int .i64 (t2i c), .int .i64 0]) ∧ w' = w := by
  go_enter Tryd.func77, Tryd.ntmps77
  go_wp2_with fail
  refine (HL.out _).mono ?_
  rintro e w1 ⟨rfl, rfl⟩
  go_wp2_with fail
  refine (ptruth c _).mono ?_
  rintro e w2 ⟨rfl, rfl⟩
  go_wp2
  go_ret2
  exact r2 rfl rfl
set_option maxHeartbeats 1000000 in
set_option maxRecDepth 1000000 in
theorem two32_79 (a b : Int) (c : Bool) (HL : Hid (∀ w, Calls Tryd.prog 103 #[.int .u8 78, .int .u32 (a % 4294967296), .int .u32 (b % 4294967296)] w fun e w' => e = .returned (.bool c) ∧ w' = w)) (w : World) :
    Calls Tryd.prog 77 #[.int .u8 79, .int .i32 a, .int .i32 b] w fun e w' => e = .returned (.tuple #[.int .i64 (t2i c), .int .i64 0]) ∧ w' = w := by
  go_enter Tryd.func77, Tryd.ntmps77
  go_wp2_with fail
  refine (HL.out _).mono ?_
  rintro e w1 ⟨rfl, rfl⟩
  go_wp2_with fail
  refine (ptruth c _).mono ?_
  rintro e w2 ⟨rfl, rfl⟩
  go_wp2
  go_ret2
  exact r2 rfl rfl
set_option maxHeartbeats 1000000 in
set_option maxRecDepth 1000000 in
theorem two32_106 (a b : Int) (R : Int) (_h0 : -2147483648 ≤ R) (_h1 : R ≤ 2147483647) (HL : Hid (∀ w, Calls Tryd.prog 104 #[.int .u8 106, .int .i32 a, .int .i32 b] w fun e w' => e = .returned (.int .i32 R) ∧ w' = w)) (w : World) :
    Calls Tryd.prog 77 #[.int .u8 106, .int .i32 a, .int .i32 b] w fun e w' => e = .returned (.tuple #[.int .i64 R, .int .i64 0]) ∧ w' = w := by
  go_enter Tryd.func77, Tryd.ntmps77
  go_wp2_with fail
  refine (HL.out _).mono ?_
  rintro e w1 ⟨rfl, rfl⟩
  go_wp2
  go_ret2
  exact r2 rfl rfl
set_option maxHeartbeats 1000000 in
set_option maxRecDepth 1000000 in
theorem two32_107 (a b : Int) (R : Int) (_h0 : -2147483648 ≤ R) (_h1 : R ≤ 2147483647) (HL : Hid (∀ w, Calls Tryd.prog 104 #[.int .u8 107, .int .i32 a, .int .i32 b] w fun e w' => e = .returned (.int .i32 R) ∧ w' = w)) (w : World) :
    Calls Tryd.prog 77 #[.int .u8 107, .int .i32 a, .int .i32 b] w fun e w' => e = .returned (.tuple #[.int .i64 R, .int .i64 0]) ∧ w' = w := by
  go_enter Tryd.func77, Tryd.ntmps77
  go_wp2_with fail
  refine (HL.out _).mono ?_
  rintro e w1 ⟨rfl, rfl⟩
  go_wp2
  go_ret2
  exact r2 rfl rfl
set_option maxHeartbeats 1000000 in
set_option maxRecDepth 1000000 in
theorem two32_108 (a b : Int) (R : Int) (_h0 : -2147483648 ≤ R) (_h1 : R ≤ 2147483647) (HL : Hid (∀ w, Calls Tryd.prog 104 #[.int .u8 108, .int .i32 a, .int .i32 b] w fun e w' => e = .returned (.int .i32 R) ∧ w' = w)) (w : World) :
    Calls Tryd.prog 77 #[.int .u8 108, .int .i32 a, .int .i32 b] w fun e w' => e = .returned (.tuple #[.int .i64 R, .int .i64 0]) ∧ w' = w := by
  go_enter Tryd.func77, Tryd.ntmps77
  go_wp2_with fail
  refine (HL.out _).mono ?_
  rintro e w1 ⟨rfl, rfl⟩
  go_wp2
  go_ret2
  exact r2 rfl rfl
set_option maxHeartbeats 1000000 in
set_option maxRecDepth 1000000 in
theorem two32_113 (a b : Int) (R : Int) (_h0 : -2147483648 ≤ R) (_h1 : R ≤ 2147483647) (HL : Hid (∀ w, Calls Tryd.prog 104 #[.int .u8 113, .int .i32 a, .int .i32 b] w fun e w' => e = .returned (.int .i32 R) ∧ w' = w)) (w : World) :
    Calls Tryd.prog 77 #[.int .u8 113, .int .i32 a, .int .i32 b] w fun e w' => e = .returned (.tuple #[.int .i64 R, .int .i64 0]) ∧ w' = w := by
  go_enter Tryd.func77, Tryd.ntmps77
  go_wp2_with fail
  refine (HL.out _).mono ?_
  rintro e w1 ⟨rfl, rfl⟩
  go_wp2
  go_ret2
  exact r2 rfl rfl
set_option maxHeartbeats 1000000 in
set_option maxRecDepth 1000000 in
theorem two32_114 (a b : Int) (R : Int) (_h0 : -2147483648 ≤ R) (_h1 : R ≤ 2147483647) (HL : Hid (∀ w, Calls Tryd.prog 104 #[.int .u8 114, .int .i32 a, .int .i32 b] w fun e w' => e = .returned (.int .i32 R) ∧ w' = w)) (w : World) :
    Calls Tryd.prog 77 #[.int .u8 114, .int .i32 a, .int .i32 b] w fun e w' => e = .returned (.tuple #[.int .i64 R, .int .i64 0]) ∧ w' = w := by
  go_enter Tryd.func77, Tryd.ntmps77
  go_wp2_with fail
  refine (HL.out _).mono ?_
  rintro e w1 ⟨rfl, rfl⟩
  go_wp2
  go_ret2
  exact r2 rfl rfl
set_option maxHeartbeats 1000000 in
set_option maxRecDepth 1000000 in
theorem two32_115 (a b : Int) (R : Int) (_h0 : -2147483648 ≤ R) (_h1 : R ≤ 2147483647) (HL : Hid (∀ w, Calls Tryd.prog 104 #[.int .u8 115, .int .i32 a, .int .i32 b] w fun e w' => e = .returned (.int .i32 R) ∧ w' = w)) (w : World) :
    Calls Tryd.prog 77 #[.int .u8 115, .int .i32 a, .int .i32 b] w fun e w' => e = .returned (.tuple #[.int .i64 R, .int .i64 0]) ∧ w' = w := by
  go_enter Tryd.func77, Tryd.ntmps77
  go_wp2_with fail
  refine (HL.out _).mono ?_
  rintro e w1 ⟨rfl, rfl⟩
  go_wp2
  go_ret2
  exact r2 rfl rfl
set_option maxHeartbeats 1000000 in
set_option maxRecDepth 1000000 in
theorem two32_109 (a b : Int) (R E : Int) (HL : Hid (∀ w, Calls Tryd.prog 105 #[.int .u8 109, .int .i32 a, .int .i32 b] w fun e w' => e = .returned (.tuple #[.int .i64 R, .int .i64 E]) ∧ w' = w)) (w : World) :
    Calls Tryd.prog 77 #[.int .u8 109, .int .i32 a, .int .i32 b] w fun e w' => e = .returned (.tuple #[.int .i64 R, .int .i64 E]) ∧ w' = w := by
  go_enter Tryd.func77, Tryd.ntmps77
  go_wp2_with fail
  refine (HL.out _).mono ?_
  rintro e w1 ⟨rfl, rfl⟩
  go_wp2
  go_ret2
  exact r2 rfl rfl
set_option maxHeartbeats 1000000 in
set_option maxRecDepth 1000000 in
theorem two32_111 (a b : Int) (R E : Int) (HL : Hid (∀ w, Calls Tryd.prog 105 #[.int .u8 111, .int .i32 a, .int .i32 b] w fun e w' => e = .returned (.tuple #[.int .i64 R, .int .i64 E]) ∧ w' = w)) (w : World) :
    Calls Tryd.prog 77 #[.int .u8 111, .int .i32 a, .int .i32 b] w fun e w' => e = .returned (.tuple #[.int .i64 R, .int .i64 E]) ∧ w' = w := by
  go_enter Tryd.func77, Tryd.ntmps77
  go_wp2_with fail
  refine (HL.out _).mono ?_
  rintro e w1 ⟨rfl, rfl⟩
  go_wp2
  go_ret2
  exact r2 rfl rfl
set_option maxHeartbeats 1000000 in
set_option maxRecDepth 1000000 in
theorem two32_110 (a b : Int) (R E : Int) (HL : Hid (∀ w, Calls Tryd.prog 106 #[.int .u8 109, .int .u32 (a % 4294967296), .int .u32 (b % 4294967296)] w fun e w' => e = .returned (.tuple #[.int .i64 R, .int .i64 E]) ∧ w' = w)) (w : World) :
    Calls Tryd.prog 77 #[.int .u8 110, .int .i32 a, .int .i32 b] w fun e w' => e = .returned (.tuple #[.int .i64 (wrap32 R), .int .i64 E]) ∧ w' = w := by
  go_enter Tryd.func77, Tryd.ntmps77
  go_wp2_with fail
  refine (HL.out _).mono ?_
  rintro e w1 ⟨rfl, rfl⟩
  go_wp2
  go_ret2
  exact r2 (by first | rfl | exact w64_w32 _) rfl
set_option maxHeartbeats 1000000 in
set_option maxRecDepth 1000000 in
theorem two32_112 (a b : Int) (R E : Int) (HL : Hid (∀ w, Calls Tryd.prog 106 #[.int .u8 111, .int .u32 (a % 4294967296), .int .u32 (b % 4294967296)] w fun e w' => e = .returned (.tuple #[.int .i64 R, .int .i64 E]) ∧ w' = w)) (w : World) :
    Calls Tryd.prog 77 #[.int .u8 112, .int .i32 a, .int .i32 b] w fun e w' => e = .returned (.tuple #[.int .i64 (wrap32 R), .int .i64 E]) ∧ w' = w := by
  go_enter Tryd.func77, Tryd.ntmps77
  go_wp2_with fail
  refine (HL.out _).mono ?_
  rintro e w1 ⟨rfl, rfl⟩
  go_wp2
  go_ret2
  exact r2 (by first | rfl | exact w64_w32 _) rfl
set_option maxHeartbeats 1000000 in
set_option maxRecDepth 1000000 in
theorem two32_116 (a b : Int) (R : Int) (_h0 : -2147483648 ≤ R) (_h1 : R ≤ 2147483647) (HL : Hid (∀ w, Calls Tryd.prog 107 #[.int .u8 116, .int .i32 a, .int .i32 b] w fun e w' => e = .returned (.int .i32 R) ∧ w' = w)) (w : World) :
    Calls Tryd.prog 77 #[.int .u8 116, .int .i32 a, .int .i32 b] w fun e w' => e = .returned (.tuple #[.int .i64 R, .int .i64 0]) ∧ w' = w := by
  go_enter Tryd.func77, Tryd.ntmps77
  go_wp2_with fail
  refine (HL.out _).mono ?_
  rintro e w1 ⟨rfl, rfl⟩
  go_wp2
  go_ret2
  exact r2 rfl rfl
set_option maxHeartbeats 1000000 in
set_option maxRecDepth 1000000 in
theorem two32_117 (a b : Int) (R : Int) (_h0 : -2147483648 ≤ R) (_h1 : R ≤ 2147483647) (HL : Hid (∀ w, Calls Tryd.prog 107 #[.int .u8 117, .int .i32 a, .int .i32 b] w fun e w' => e = .returned (.int .i32 R) ∧ w' = w)) (w : World) :
    Calls Tryd.prog 77 #[.int .u8 117, .int .i32 a, .int .i32 b] w fun e w' => e = .returned (.tuple #[.int .i64 R, .int .i64 0]) ∧ w' = w := by
  go_enter Tryd.func77, Tryd.ntmps77
  go_wp2_with fail
  refine (HL.out _).mono ?_
  rintro e w1 ⟨rfl, rfl⟩
  go_wp2
  go_ret2
  exact r2 rfl rfl
set_option maxHeartbeats 1000000 in
set_option maxRecDepth 1000000 in
theorem two32_118 (a b : Int) (R : Int) (_h0 : -2147483648 ≤ R) (_h1 : R ≤ 2147483647) (HL : Hid (∀ w, Calls Tryd.prog 107 #[.int .u8 118, .int .i32 a, .int .i32 b] w fun e w' => e = .returned (.int .i32 R) ∧ w' = w)) (w : World) :
    Calls Tryd.prog 77 #[.int .u8 118, .int .i32 a, .int .i32 b] w fun e w' => e = .returned (.tuple #[.int .i64 R, .int .i64 0]) ∧ w' = w := by
  go_enter Tryd.func77, Tryd.ntmps77
  go_wp2_with fail
  refine (HL.out _).mono ?_
  rintro e w1 ⟨rfl, rfl⟩
  go_wp2
  go_ret2
  exact r2 rfl rfl
set_option maxHeartbeats 1000000 in
set_option maxRecDepth 1000000 in
theorem two32_119 (a b : Int) (R : Int) (_h0 : -2147483648 ≤ R) (_h1 : R ≤ 2147483647) (HL : Hid (∀ w, Calls Tryd.prog 107 #[.int .u8 119, .int .i32 a, .int .i32 b] w fun e w' => e = .returned (.int .i32 R) ∧ Below w.heap.size w w')) (w : World) :
    Calls Tryd.prog 77 #[.int .u8 119, .int .i32 a, .int .i32 b] w fun e w' => e = .returned (.tuple #[.int .i64 R, .int .i64 0]) ∧ Below w.heap.size w w' := by
  go_enter Tryd.func77, Tryd.ntmps77
  go_wp2_with fail
  refine (HL.out _).mono ?_
  rintro e w1 ⟨rfl, b1⟩
  go_wp2
  go_ret2
  exact ⟨rfl, b1⟩
set_option maxHeartbeats 1000000 in
set_option maxRecDepth 1000000 in
theorem two32_120 (a b : Int) (R : Int) (_h0 : -2147483648 ≤ R) (_h1 : R ≤ 2147483647) (HL : Hid (∀ w, Calls Tryd.prog 107 #[.int .u8 120, .int .i32 a, .int .i32 b] w fun e w' => e = .returned (.int .i32 R) ∧ Below w.heap.size w w')) (w : World) :
    Calls Tryd.prog 77 #[.int .u8 120, .int .i32 a, .int .i32 b] w fun e w' => e = .returned (.tuple #[.int .i64 R, .int .i64 0]) ∧ Below w.heap.size w w' := by
  go_enter Tryd.func77, Tryd.ntmps77
  go_wp2_with fail
  refine (HL.out _).mono ?_
  rintro e w1 ⟨rfl, b1⟩
  go_wp2
  go_ret2
  exact ⟨rfl, b1⟩
set_option maxHeartbeats 1000000 in
set_option maxRecDepth 1000000 in
theorem two64_70 (a b : Int) (c : Bool) (HL : Hid (∀ w, Calls Tryd.prog 96 #[.int .u8 70, .int .i64 a, .int .i64 b] w fun e w' => e = .returned (.bool c) ∧ w' = w)) (w : World) :
    Calls Tryd.prog 76 #[.int .u8 70, .int .i64 a, .int .i64 b] w fun e w' => e = .returned (.tuple #[.int .i64 (t2i c), .int .i64 0]) ∧ w' = w := by
  go_enter Tryd.func76, Tryd.ntmps76
  go_wp2_with fail
  refine (HL.out _).mono ?_
  rintro e w1 ⟨rfl, rfl⟩
  go_wp2_with fail
  refine (ptruth c _).mono ?_
  rintro e w2 ⟨rfl, rfl⟩
  go_wp2
  go_ret2
  exact r2 rfl rfl
set_option maxHeartbeats 1000000 in
set_option maxRecDepth 1000000 in
theorem two64_71 (a b : Int) (c : Bool) (HL : Hid (∀ w, Calls Tryd.prog 96 #[.int .u8 71, .int .i64 a, .int .i64 b] w fun e w' => e = .returned (.bool c) ∧ w' = w)) (w : World) :
    Calls Tryd.prog 76 #[.int .u8 71, .int .i64 a, .int .i64 b] w fun e w' => e = .returned (.tuple #[.int .i64 (t2i c), .int .i64 0]) ∧ w' = w := by
  go_enter Tryd.func76, Tryd.ntmps76
  go_wp2_with fail
  refine (HL.out _).mono ?_
  rintro e w1 ⟨rfl, rfl⟩
  go_wp2_with fail
  refine (ptruth c _).mono ?_
  rintro e w2 ⟨rfl, rfl⟩
  go_wp2
  go_ret2
  exact r2 rfl rfl
set_option maxHeartbeats 1000000 in
set_option maxRecDepth 1000000 in
theorem two64_72 (a b : Int) (c : Bool) (HL : Hid (∀ w, Calls Tryd.prog 96 #[.int .u8 72, .int .i64 a, .int .i64 b] w fun e w' => e = .returned (.bool c) ∧ w' = w)) (w : World) :
    Calls Tryd.prog 76 #[.int .u8 72, .int .i64 a, .int .i64 b] w fun e w' => e = .returned (.tuple #[.int .i64 (t2i c), .int .i64 0]) ∧ w' = w := by
  go_enter Tryd.func76, Tryd.ntmps76
  go_wp2_with fail
  refine (HL.out _).mono ?_
  rintro e w1 ⟨rfl, rfl⟩
  go_wp2_with fail
  refine (ptruth c _).mono ?_
  rintro e w2 ⟨rfl, rfl⟩
  go_wp2
  go_ret2
  exact r2 rfl rfl
set_option maxHeartbeats 1000000 in
set_option maxRecDepth 1000000 in
theorem two64_74 (a b : Int) (c : Bool) (HL : Hid (∀ w, Calls Tryd.prog 96 #[.int .u8 74, .int .i64 a, .int .i64 b] w fun e w' => e = .returned (.bool c) ∧ w' = w)) (w : World) :
    Calls Tryd.prog 76 #[.int .u8 74, .int .i64 a, .int .i64 b] w fun e w' => e = .returned (.tuple #[.int .i64 (t2i c), .int .i64 0]) ∧ w' = w := by
  go_enter Tryd.func76, Tryd.ntmps76
  go_wp2_with fail
  refine (HL.out _).mono ?_
  rintro e w1 ⟨rfl, rfl⟩
  go_wp2_with fail
  refine (ptruth c _).mono ?_
  rintro e w2 ⟨rfl, rfl⟩
  go_wp2
  go_ret2
  exact r2 rfl rfl
set_option maxHeartbeats 1000000 in
set_option maxRecDepth 1000000 in
theorem two64_76 (a b : Int) (c : Bool) (HL : Hid (∀ w, Calls Tryd.prog 96 #[.int .u8 76, .int .i64 a, .int .i64 b] w fun e w' => e = .returned (.bool c) ∧ w' = w)) (w : World) :
    Calls Tryd.prog 76 #[.int .u8 76, .int .i64 a, .int .i64 b] w fun e w' => e = .returned (.tuple #[.int .i64 (t2i c), .int .i64 0]) ∧ w' = w := by
  go_enter Tryd.func76, Tryd.ntmps76
  go_wp2_with fail
  refine (HL.out _).mono ?_
  rintro e w1 ⟨rfl, rfl⟩
  go_wp2_with fail
  refine (ptruth c _).mono ?_
  rintro e w2 ⟨rfl, rfl⟩
  go_wp2
  go_ret2
  exact r2 rfl rfl
set_option maxHeartbeats 1000000 in
set_option maxRecDepth 1000000 in
theorem two64_78 (a b : Int) (c : Bool) (HL : Hid (∀ w, Calls Tryd.prog 96 #[.int .u8 78, .int .i64 a, .int .i64 b] w fun e w' => e = .returned (.bool c) ∧ w' = w)) (w : World) :
    Calls Tryd.prog 76 #[.int .u8 78, .int .i64 a, .int .i64 b] w fun e w' => e = .returned (.tuple #[.int .i64 (t2i c), .int .i64 0]) ∧ w' = w := by
  go_enter Tryd.func76, Tryd.ntmps76
  go_wp2_with fail
  refine (HL.out _).mono ?_
  rintro e w1 ⟨rfl, rfl⟩
  go_wp2_with fail
  refine (ptruth c _).mono ?_
  rintro e w2 ⟨rfl, rfl⟩
  go_wp2
  go_ret2
  exact r2 rfl rfl
set_option maxHeartbeats 1000000 in
set_option maxRecDepth 1000000 in
theorem two64_73 (a b : Int) (c : Bool) (HL : Hid (∀ w, Calls Tryd.prog 97 #[.int .u8 72, .int .u64 (IntKind.u64.wrap a), .int .u64 (IntKind.u64.wrap b)] w fun e w' => e = .returned (.bool c) ∧ w' = w)) (w : World) :
    Calls Tryd.prog 76 #[.int .u8 73, .int .i64 a, .int .i64 b] w fun e w' => e = .returned (.tuple #[.int .i64 (t2i c), .int .i64 0]) ∧ w' = w := by
  go_enter Tryd.func76, Tryd.ntmps76
  go_wp2_with fail
  refine (HL.out _).mono ?_
  rintro e w1 ⟨rfl, rfl⟩
  go_wp2_with fail
  refine (ptruth c _).mono ?_
  rintro e w2 ⟨rfl, rfl⟩
  go_wp2
  go_ret2
  exact r2 rfl rfl
set_option maxHeartbeats 1000000 in
set_option maxRecDepth 1000000 in
theorem two64_75 (a b : Int) (c : Bool) (HL : Hid (∀ w, Calls Tryd.prog 97 #[.int .u8 74, .int .u64 (IntKind.u64.wrap a), .int .u64 (IntKind.u64.wrap b)] w fun e w' => e = .returned (.bool c) ∧ w' = w)) (w : World) :
    Calls Tryd.prog 76 #[.int .u8 75, .int .i64 a, .int .i64 b] w fun e w' => e = .returned (.tuple #[.int .i64 (t2i c), .int .i64 0]) ∧ w' = w := by
  go_enter Tryd.func76, Tryd.ntmps76
  go_wp2_with fail
  refine (HL.out _).mono ?_
  rintro e w1 ⟨rfl, rfl⟩
  go_wp2_with fail
  refine (ptruth c _).mono ?_
  rintro e w2 ⟨rfl, rfl⟩
  go_wp2
  go_ret2
  exact r2 rfl rfl
set_option maxHeartbeats 1000000 in
set_option maxRecDepth 1000000 in
theorem two64_77 (a b : Int) (c : Bool) (HL : Hid (∀ w, Calls Tryd.prog 97 #[.int .u8 76, .int .u64 (IntKind.u64.wrap a), .int .u64 (IntKind.u64.wrap b)] w fun e w' => e = .returned (.bool c) ∧ w' = w)) (w : World) :
    Calls Tryd.prog 76 #[.int .u8 77, .int .i64 a, .int .i64 b] w fun e w' => e = .returned (.tuple #[.int .i64 (t2i c), .int .i64 0]) ∧ w' = w := by
  go_enter Tryd.func76, Tryd.ntmps76
  go_wp2_with fail
  refine (HL.out _).mono ?_
  rintro e w1 ⟨rfl, rfl⟩
  go_wp2_with fail
  refine (ptruth c _).mono ?_
  rintro e w2 ⟨rfl, rfl⟩
  go_wp2
  go_ret2
  exact r2 rfl rfl
set_option maxHeartbeats 1000000 in
set_option maxRecDepth 1000000 in
theorem two64_79 (a b : Int) (c : Bool) (HL : Hid (∀ w, Calls Tryd.prog 97 #[.int .u8 78, .int .u64 (IntKind.u64.wrap a), .int .u64 (IntKind.u64.wrap b)] w fun e w' => e = .returned (.bool c) ∧ w' = w)) (w : World) :
    Calls Tryd.prog 76 #[.int .u8 79, .int .i64 a, .int .i64 b] w fun e w' => e = .returned (.tuple #[.int .i64 (t2i c), .int .i64 0]) ∧ w' = w := by
  go_enter Tryd.func76, Tryd.ntmps76
  go_wp2_with fail
  refine (HL.out _).mono ?_
  rintro e w1 ⟨rfl, rfl⟩
  go_wp2_with fail
  refine (ptruth c _).mono ?_
  rintro e w2 ⟨rfl, rfl⟩
  go_wp2
  go_ret2
  exact r2 rfl rfl
set_option maxHeartbeats 1000000 in
set_option maxRecDepth 1000000 in
theorem two64_106 (a b : Int) (R : Int)  (HL : Hid (∀ w, Calls Tryd.prog 98 #[.int .u8 106, .int .i64 a, .int .i64 b] w fun e w' => e = .returned (.int .i64 R) ∧ w' = w)) (w : World) :
    Calls Tryd.prog 76 #[.int .u8 106, .int .i64 a, .int .i64 b] w fun e w' => e = .returned (.tuple #[.int .i64 R, .int .i64 0]) ∧ w' = w := by
  go_enter Tryd.func76, Tryd.ntmps76
  go_wp2_with fail
  refine (HL.out _).mono ?_
  rintro e w1 ⟨rfl, rfl⟩
  go_wp2
  go_ret2
  exact r2 rfl rfl
set_option maxHeartbeats 1000000 in
set_option maxRecDepth 1000000 in
theorem two64_107 (a b : Int) (R : Int)  (HL : Hid (∀ w, Calls Tryd.prog 98 #[.int .u8 107, .int .i64 a, .int .i64 b] w fun e w' => e = .returned (.int .i64 R) ∧ w' = w)) (w : World) :
    Calls Tryd.prog 76 #[.int .u8 107, .int .i64 a, .int .i64 b] w fun e w' => e = .returned (.tuple #[.int .i64 R, .int .i64 0]) ∧ w' = w := by
  go_enter Tryd.func76, Tryd.ntmps76
  go_wp2_with fail
  refine (HL.out _).mono ?_
  rintro e w1 ⟨rfl, rfl⟩
  go_wp2
  go_ret2
  exact r2 rfl rfl
set_option maxHeartbeats 1000000 in
set_option maxRecDepth 1000000 in
theorem two64_108 (a b : Int) (R : Int)  (HL : Hid (∀ w, Calls Tryd.prog 98 #[.int .u8 108, .int .i64 a, .int .i64 b] w fun e w' => e = .returned (.int .i64 R) ∧ w' = w)) (w : World) :
    Calls Tryd.prog 76 #[.int .u8 108, .int .i64 a, .int .i64 b] w fun e w' => e = .returned (.tuple #[.int .i64 R, .int .i64 0]) ∧ w' = w := by
  go_enter Tryd.func76, Tryd.ntmps76
  go_wp2_with fail
  refine (HL.out _).mono ?_
  rintro e w1 ⟨rfl, rfl⟩
  go_wp2
  go_ret2
  exact r2 rfl rfl
set_option maxHeartbeats 1000000 in
set_option maxRecDepth 1000000 in
theorem two64_113 (a b : Int) (R : Int)  (HL : Hid (∀ w, Calls Tryd.prog 98 #[.int .u8 113, .int .i64 a, .int .i64 b] w fun e w' => e = .returned (.int .i64 R) ∧ w' = w)) (w : World) :
    Calls Tryd.prog 76 #[.int .u8 113, .int .i64 a, .int .i64 b] w fun e w' => e = .returned (.tuple #[.int .i64 R, .int .i64 0]) ∧ w' = w := by
  go_enter Tryd.func76, Tryd.ntmps76
  go_wp2_with fail
  refine (HL.out _).mono ?_
  rintro e w1 ⟨rfl, rfl⟩
  go_wp2
  go_ret2
  exact r2 rfl rfl
set_option maxHeartbeats 1000000 in
set_option maxRecDepth 1000000 in
theorem two64_114 (a b : Int) (R : Int)  (HL : Hid (∀ w, Calls Tryd.prog 98 #[.int .u8 114, .int .i64 a, .int .i64 b] w fun e w' => e = .returned (.int .i64 R) ∧ w' = w)) (w : World) :
    Calls Tryd.prog 76 #[.int .u8 114, .int .i64 a, .int .i64 b] w fun e w' => e = .returned (.tuple #[.int .i64 R, .int .i64 0]) ∧ w' = w := by
  go_enter Tryd.func76, Tryd.ntmps76
  go_wp2_with fail
  refine (HL.out _).mono ?_
  rintro e w1 ⟨rfl, rfl⟩
  go_wp2
  go_ret2
  exact r2 rfl rfl
set_option maxHeartbeats 1000000 in
set_option maxRecDepth 1000000 in
theorem two64_115 (a b : Int) (R : Int)  (HL : Hid (∀ w, Calls Tryd.prog 98 #[.int .u8 115, .int .i64 a, .int .i64 b] w fun e w' => e = .returned (.int .i64 R) ∧ w' = w)) (w : World) :
    Calls Tryd.prog 76 #[.int .u8 115, .int .i64 a, .int .i64 b] w fun e w' => e = .returned (.tuple #[.int .i64 R, .int .i64 0]) ∧ w' = w := by
  go_enter Tryd.func76, Tryd.ntmps76
  go_wp2_with fail
  refine (HL.out _).mono ?_
  rintro e w1 ⟨rfl, rfl⟩
  go_wp2
  go_ret2
  exact r2 rfl rfl
set_option maxHeartbeats 1000000 in
set_option maxRecDepth 1000000 in
theorem two64_109 (a b : Int) (R E : Int) (HL : Hid (∀ w, Calls Tryd.prog 99 #[.int .u8 109, .int .i64 a, .int .i64 b] w fun e w' => e = .returned (.tuple #[.int .i64 R, .int .i64 E]) ∧ w' = w)) (w : World) :
    Calls Tryd.prog 76 #[.int .u8 109, .int .i64 a, .int .i64 b] w fun e w' => e = .returned (.tuple #[.int .i64 R, .int .i64 E]) ∧ w' = w := by
  go_enter Tryd.func76, Tryd.ntmps76
  go_wp2_with fail
  refine (HL.out _).mono ?_
  rintro e w1 ⟨rfl, rfl⟩
  go_wp2
  go_ret2
  exact r2 rfl rfl
set_option maxHeartbeats 1000000 in
set_option maxRecDepth 1000000 in
theorem two64_111 (a b : Int) (R E : Int) (HL : Hid (∀ w, Calls Tryd.prog 99 #[.int .u8 111, .int .i64 a, .int .i64 b] w fun e w' => e = .returned (.tuple #[.int .i64 R, .int .i64 E]) ∧ w' = w)) (w : World) :
    Calls Tryd.prog 76 #[.int .u8 111, .int .i64 a, .int .i64 b] w fun e w' => e = .returned (.tuple #[.int .i64 R, .int .i64 E]) ∧ w' = w := by
  go_enter Tryd.func76, Tryd.ntmps76
  go_wp2_with fail
  refine (HL.out _).mono ?_
  rintro e w1 ⟨rfl, rfl⟩
  go_wp2
  go_ret2
  exact r2 rfl rfl
set_option maxHeartbeats 1000000 in
set_option maxRecDepth 1000000 in
theorem two64_110 (a b : Int) (R E : Int) (HL : Hid (∀ w, Calls Tryd.prog 100 #[.int .u8 109, .int .u64 (IntKind.u64.wrap a), .int .u64 (IntKind.u64.wrap b)] w fun e w' => e = .returned (.tuple #[.int .i64 R, .int .i64 E]) ∧ w' = w)) (w : World) :
    Calls Tryd.prog 76 #[.int .u8 110, .int .i64 a, .int .i64 b] w fun e w' => e = .returned (.tuple #[.int .i64 R, .int .i64 E]) ∧ w' = w := by
  go_enter Tryd.func76, Tryd.ntmps76
  go_wp2_with fail
  refine (HL.out _).mono ?_
  rintro e w1 ⟨rfl, rfl⟩
  go_wp2
  go_ret2
  exact r2 rfl rfl
set_option maxHeartbeats 1000000 in
set_option maxRecDepth 1000000 in
theorem two64_112 (a b : Int) (R E : Int) (HL : Hid (∀ w, Calls Tryd.prog 100 #[.int .u8 111, .int .u64 (IntKind.u64.wrap a), .int .u64 (IntKind.u64.wrap b)] w fun e w' => e = .returned (.tuple #[.int .i64 R, .int .i64 E]) ∧ w' = w)) (w : World) :
    Calls Tryd.prog 76 #[.int .u8 112, .int .i64 a, .int .i64 b] w fun e w' => e = .returned (.tuple #[.int .i64 R, .int .i64 E]) ∧ w' = w := by
  go_enter Tryd.func76, Tryd.ntmps76
  go_wp2_with fail
  refine (HL.out _).mono ?_
  rintro e w1 ⟨rfl, rfl⟩
  go_wp2
  go_ret2
  exact r2 rfl rfl
set_option maxHeartbeats 1000000 in
set_option maxRecDepth 1000000 in
theorem two64_116 (a b : Int) (R : Int)  (HL : Hid (∀ w, Calls Tryd.prog 101 #[.int .u8 116, .int .i64 a, .int .i64 b] w fun e w' => e = .returned (.int .i64 R) ∧ w' = w)) (w : World) :
    Calls Tryd.prog 76 #[.int .u8 116, .int .i64 a, .int .i64 b] w fun e w' => e = .returned (.tuple #[.int .i64 R, .int .i64 0]) ∧ w' = w := by
  go_enter Tryd.func76, Tryd.ntmps76
  go_wp2_with fail
  refine (HL.out _).mono ?_
  rintro e w1 ⟨rfl, rfl⟩
  go_wp2
  go_ret2
  exact r2 rfl rfl
set_option maxHeartbeats 1000000 in
set_option maxRecDepth 1000000 in
theorem two64_117 (a b : Int) (R : Int)  (HL : Hid (∀ w, Calls Tryd.prog 101 #[.int .u8 117, .int .i64 a, .int .i64 b] w fun e w' => e = .returned (.int .i64 R) ∧ w' = w)) (w : World) :
    Calls Tryd.prog 76 #[.int .u8 117, .int .i64 a, .int .i64 b] w fun e w' => e = .returned (.tuple #[.int .i64 R, .int .i64 0]) ∧ w' = w := by
  go_enter Tryd.func76, Tryd.ntmps76
  go_wp2_with fail
  refine (HL.out _).mono ?_
  rintro e w1 ⟨rfl, rfl⟩
  go_wp2
  go_ret2
  exact r2 rfl rfl
set_option maxHeartbeats 1000000 in
set_option maxRecDepth 1000000 in
theorem two64_118 (a b : Int) (R : Int)  (HL : Hid (∀ w, Calls Tryd.prog 101 #[.int .u8 118, .int .i64 a, .int .i64 b] w fun e w' => e = .returned (.int .i64 R) ∧ w' = w)) (w : World) :
    Calls Tryd.prog 76 #[.int .u8 118, .int .i64 a, .int .i64 b] w fun e w' => e = .returned (.tuple #[.int .i64 R, .int .i64 0]) ∧ w' = w := by
  go_enter Tryd.func76, Tryd.ntmps76
  go_wp2_with fail
  refine (HL.out _).mono ?_
  rintro e w1 ⟨rfl, rfl⟩
  go_wp2
  go_ret2
  exact r2 rfl rfl
set_option maxHeartbeats 1000000 in
set_option maxRecDepth 1000000 in
theorem two64_119 (a b : Int) (R : Int)  (HL : Hid (∀ w, Calls Tryd.prog 101 #[.int .u8 119, .int .i64 a, .int .i64 b] w fun e w' => e = .returned (.int .i64 R) ∧ Below w.heap.size w w')) (w : World) :
    Calls Tryd.prog 76 #[.int .u8 119, .int .i64 a, .int .i64 b] w fun e w' => e = .returned (.tuple #[.int .i64 R, .int .i64 0]) ∧ Below w.heap.size w w' := by
  go_enter Tryd.func76, Tryd.ntmps76
  go_wp2_with fail
  refine (HL.out _).mono ?_
  rintro e w1 ⟨rfl, b1⟩
  go_wp2
  go_ret2
  exact ⟨rfl, b1⟩
set_option maxHeartbeats 1000000 in
set_option maxRecDepth 1000000 in
theorem two64_120 (a b : Int) (R : Int)  (HL : Hid (∀ w, Calls Tryd.prog 101 #[.int .u8 120, .int .i64 a, .int .i64 b] w fun e w' => e = .returned (.int .i64 R) ∧ Below w.heap.size w w')) (w : World) :
    Calls Tryd.prog 76 #[.int .u8 120, .int .i64 a, .int .i64 b] w fun e w' => e = .returned (.tuple #[.int .i64 R, .int .i64 0]) ∧ Below w.heap.size w w' := by
  go_enter Tryd.func76, Tryd.ntmps76
  go_wp2_with fail
  refine (HL.out _).mono ?_
  rintro e w1 ⟨rfl, b1⟩
  go_wp2
  go_ret2
  exact ⟨rfl, b1⟩
end Go.Proofs.YtdbhdgkbkhjikaaDoor
