/-
  What the program's own Two does.
-/
import Derived.Test.YtdbhdgkbkhjikaaDoorNum5
import Derived.WalkKit
import Derived.WalkSpells
import Derived.WalkSmall
import Derived.Deep.QuietTactic
import Derived.BigQuiet
import Derived.Laws.Bits128
import Derived.Laws.BitsAllLaws
import Derived.Laws.BitsLemmas
namespace Go.Proofs.YtdbhdgkbkhjikaaDoor
open Go.RowKit
set_option maxHeartbeats 1000000 in
set_option maxRecDepth 1000000 in
theorem short_asks (op : Int) (_h0 : 80 ≤ op) (_h1 : op ≤ 90) (w : World) :
    Calls Tryd.prog 73 #[.int .u8 op] w fun e w' => e = .returned (.tuple #[.int .u8 (op - 11), .bool true]) ∧ w' = w := by
  go_enter Tryd.func73, Tryd.ntmps73
  go_wp2
  go_ret2
  exact ⟨rfl, rfl⟩
set_option maxHeartbeats 1000000 in
set_option maxRecDepth 1000000 in
theorem short_makes (op : Int) (_h0 : 121 ≤ op) (_h1 : op ≤ 138) (w : World) :
    Calls Tryd.prog 73 #[.int .u8 op] w fun e w' => e = .returned (.tuple #[.int .u8 (op - 18), .bool true]) ∧ w' = w := by
  go_enter Tryd.func73, Tryd.ntmps73
  go_wp2
  go_ret2
  exact ⟨rfl, rfl⟩
set_option maxHeartbeats 1000000 in
set_option maxRecDepth 1000000 in
theorem short_a (op : Int) (_h0 : 0 ≤ op) (_h1 : op < 80) (w : World) :
    Calls Tryd.prog 73 #[.int .u8 op] w fun e w' => e = .returned (.tuple #[.int .u8 (op), .bool false]) ∧ w' = w := by
  go_enter Tryd.func73, Tryd.ntmps73
  go_wp2
  go_ret2
  exact ⟨rfl, rfl⟩
set_option maxHeartbeats 1000000 in
set_option maxRecDepth 1000000 in
theorem short_b (op : Int) (_h0 : 90 < op) (_h1 : op < 121) (w : World) :
    Calls Tryd.prog 73 #[.int .u8 op] w fun e w' => e = .returned (.tuple #[.int .u8 (op), .bool false]) ∧ w' = w := by
  go_enter Tryd.func73, Tryd.ntmps73
  go_wp2
  go_ret2
  exact ⟨rfl, rfl⟩
set_option maxHeartbeats 1000000 in
set_option maxRecDepth 1000000 in
theorem short_c (op : Int) (_h0 : 138 < op) (_h1 : op ≤ 255) (w : World) :
    Calls Tryd.prog 73 #[.int .u8 op] w fun e w' => e = .returned (.tuple #[.int .u8 (op), .bool false]) ∧ w' = w := by
  go_enter Tryd.func73, Tryd.ntmps73
  go_wp2
  go_ret2
  exact ⟨rfl, rfl⟩
set_option maxHeartbeats 1000000 in
set_option maxRecDepth 1000000 in
theorem pick_asks (op a b R E : Int) (h0 : 80 ≤ op) (h1 : op ≤ 90) (Q : World → World → Prop) (HL : Hid (∀ w, Calls Tryd.prog 76 #[.int .u8 (op - 11), .int .i64 a, .int .i64 b] w fun e w' => e = .returned (.tuple #[.int .i64 R, .int .i64 E]) ∧ Q w w')) (w : World) :
    Calls Tryd.prog 52 #[.int .u8 op, .int .i64 a, .int .i64 b] w fun e w' => e = .returned (.tuple #[.int .i64 R, .int .i64 E]) ∧ Q w w' := by
  have HS : Hid (∀ w, Calls Tryd.prog 73 #[.int .u8 op] w fun e w' => e = .returned (.tuple #[.int .u8 (op - 11), .bool true]) ∧ w' = w) := fun w => short_asks op h0 h1 w
  go_enter Tryd.func52, Tryd.ntmps52
  go_wp2_with fail
  refine (HS.out _).mono ?_
  rintro e w1 ⟨rfl, rfl⟩
  go_wp2_with fail
  refine (HL.out _).mono ?_
  rintro e w2 ⟨rfl, b1⟩
  go_wp2
  go_ret2
  exact ⟨rfl, b1⟩
set_option maxHeartbeats 1000000 in
set_option maxRecDepth 1000000 in
theorem pick_makes (op a b R E : Int) (h0 : 121 ≤ op) (h1 : op ≤ 138) (Q : World → World → Prop) (HL : Hid (∀ w, Calls Tryd.prog 76 #[.int .u8 (op - 18), .int .i64 a, .int .i64 b] w fun e w' => e = .returned (.tuple #[.int .i64 R, .int .i64 E]) ∧ Q w w')) (w : World) :
    Calls Tryd.prog 52 #[.int .u8 op, .int .i64 a, .int .i64 b] w fun e w' => e = .returned (.tuple #[.int .i64 R, .int .i64 E]) ∧ Q w w' := by
  have HS : Hid (∀ w, Calls Tryd.prog 73 #[.int .u8 op] w fun e w' => e = .returned (.tuple #[.int .u8 (op - 18), .bool true]) ∧ w' = w) := fun w => short_makes op h0 h1 w
  go_enter Tryd.func52, Tryd.ntmps52
  go_wp2_with fail
  refine (HS.out _).mono ?_
  rintro e w1 ⟨rfl, rfl⟩
  go_wp2_with fail
  refine (HL.out _).mono ?_
  rintro e w2 ⟨rfl, b1⟩
  go_wp2
  go_ret2
  exact ⟨rfl, b1⟩
set_option maxHeartbeats 1000000 in
set_option maxRecDepth 1000000 in
theorem pick_short (op a b R E : Int) (h0 : 0 ≤ op) (h1 : op ≤ 255) (h2 : op < 80 ∨ 90 < op ∧ op < 121 ∨ 138 < op) (Q : World → World → Prop) (HL : Hid (∀ w, Calls Tryd.prog 77 #[.int .u8 (op), .int .i32 (wrap32 a), .int .i32 (wrap32 b)] w fun e w' => e = .returned (.tuple #[.int .i64 R, .int .i64 E]) ∧ Q w w')) (w : World) :
    Calls Tryd.prog 52 #[.int .u8 op, .int .i64 a, .int .i64 b] w fun e w' => e = .returned (.tuple #[.int .i64 R, .int .i64 E]) ∧ Q w w' := by
  have HS : Hid (∀ w, Calls Tryd.prog 73 #[.int .u8 op] w fun e w' => e = .returned (.tuple #[.int .u8 (op), .bool false]) ∧ w' = w) := by
    intro w
    rcases h2 with h | h | h
    · exact short_a op h0 h w
    · exact short_b op h.1 h.2 w
    · exact short_c op h h1 w
  go_enter Tryd.func52, Tryd.ntmps52
  go_wp2_with fail
  refine (HS.out _).mono ?_
  rintro e w1 ⟨rfl, rfl⟩
  go_wp2_with fail
  refine (HL.out _).mono ?_
  rintro e w2 ⟨rfl, b1⟩
  go_wp2
  go_ret2
  exact ⟨rfl, b1⟩
set_option maxHeartbeats 1000000 in
set_option maxRecDepth 1000000 in
theorem two32_other (op a b : Int) (_h70 : (op == 70) = false) (_h71 : (op == 71) = false) (_h72 : (op == 72) = false) (_h73 : (op == 73) = false) (_h74 : (op == 74) = false) (_h75 : (op == 75) = false) (_h76 : (op == 76) = false) (_h77 : (op == 77) = false) (_h78 : (op == 78) = false) (_h79 : (op == 79) = false) (_h106 : (op == 106) = false) (_h107 : (op == 107) = false) (_h108 : (op == 108) = false) (_h109 : (op == 109) = false) (_h110 : (op == 110) = false) (_h111 : (op == 111) = false) (_h112 : (op == 112) = false) (_h113 : (op == 113) = false) (_h114 : (op == 114) = false) (_h115 : (op == 115) = false) (_h116 : (op == 116) = false) (_h117 : (op == 117) = false) (_h118 : (op == 118) = false) (_h119 : (op == 119) = false) (_h120 : (op == 120) = false) (w : World) :
    Calls Tryd.prog 77 #[.int .u8 op, .int .i32 a, .int .i32 b] w fun e w' => e = .returned (.tuple #[.int .i64 0, .int .i64 6]) ∧ w' = w := by
  go_enter Tryd.func77, Tryd.ntmps77
  go_wp2
  go_ret2
  exact r2 rfl rfl
set_option maxHeartbeats 1000000 in
set_option maxRecDepth 1000000 in
theorem two64_other (op a b : Int) (_h70 : (op == 70) = false) (_h71 : (op == 71) = false) (_h72 : (op == 72) = false) (_h73 : (op == 73) = false) (_h74 : (op == 74) = false) (_h75 : (op == 75) = false) (_h76 : (op == 76) = false) (_h77 : (op == 77) = false) (_h78 : (op == 78) = false) (_h79 : (op == 79) = false) (_h106 : (op == 106) = false) (_h107 : (op == 107) = false) (_h108 : (op == 108) = false) (_h109 : (op == 109) = false) (_h110 : (op == 110) = false) (_h111 : (op == 111) = false) (_h112 : (op == 112) = false) (_h113 : (op == 113) = false) (_h114 : (op == 114) = false) (_h115 : (op == 115) = false) (_h116 : (op == 116) = false) (_h117 : (op == 117) = false) (_h118 : (op == 118) = false) (_h119 : (op == 119) = false) (_h120 : (op == 120) = false) (w : World) :
    Calls Tryd.prog 76 #[.int .u8 op, .int .i64 a, .int .i64 b] w fun e w' => e = .returned (.tuple #[.int .i64 0, .int .i64 6]) ∧ w' = w := by
  go_enter Tryd.func76, Tryd.ntmps76
  go_wp2
  go_ret2
  exact r2 rfl rfl
theorem num_70 (a b : Int) (w : World) :
    Calls Tryd.prog 52 #[.int .u8 70, .int .i64 a, .int .i64 b] w fun e w' => e = .returned (.tuple #[.int .i64 ((t2i (cmpV 0 (BitVec.ofInt 32 a) (BitVec.ofInt 32 b)), (0 : Int))).1, .int .i64 ((t2i (cmpV 0 (BitVec.ofInt 32 a) (BitVec.ofInt 32 b)), (0 : Int))).2]) ∧ w' = w := by
  refine pick_short 70 a b _ _ (by omega) (by omega) (by omega) (fun w w' => w' = w) (fun w => ?_) w
  rw [w32_bv, w32_bv]
  exact t32_70 _ _ w
theorem num_71 (a b : Int) (w : World) :
    Calls Tryd.prog 52 #[.int .u8 71, .int .i64 a, .int .i64 b] w fun e w' => e = .returned (.tuple #[.int .i64 ((t2i (cmpV 1 (BitVec.ofInt 32 a) (BitVec.ofInt 32 b)), (0 : Int))).1, .int .i64 ((t2i (cmpV 1 (BitVec.ofInt 32 a) (BitVec.ofInt 32 b)), (0 : Int))).2]) ∧ w' = w := by
  refine pick_short 71 a b _ _ (by omega) (by omega) (by omega) (fun w w' => w' = w) (fun w => ?_) w
  rw [w32_bv, w32_bv]
  exact t32_71 _ _ w
theorem num_72 (a b : Int) (w : World) :
    Calls Tryd.prog 52 #[.int .u8 72, .int .i64 a, .int .i64 b] w fun e w' => e = .returned (.tuple #[.int .i64 ((t2i (cmpV 2 (BitVec.ofInt 32 a) (BitVec.ofInt 32 b)), (0 : Int))).1, .int .i64 ((t2i (cmpV 2 (BitVec.ofInt 32 a) (BitVec.ofInt 32 b)), (0 : Int))).2]) ∧ w' = w := by
  refine pick_short 72 a b _ _ (by omega) (by omega) (by omega) (fun w w' => w' = w) (fun w => ?_) w
  rw [w32_bv, w32_bv]
  exact t32_72 _ _ w
theorem num_73 (a b : Int) (w : World) :
    Calls Tryd.prog 52 #[.int .u8 73, .int .i64 a, .int .i64 b] w fun e w' => e = .returned (.tuple #[.int .i64 ((t2i (cmpV 3 (BitVec.ofInt 32 a) (BitVec.ofInt 32 b)), (0 : Int))).1, .int .i64 ((t2i (cmpV 3 (BitVec.ofInt 32 a) (BitVec.ofInt 32 b)), (0 : Int))).2]) ∧ w' = w := by
  refine pick_short 73 a b _ _ (by omega) (by omega) (by omega) (fun w w' => w' = w) (fun w => ?_) w
  rw [w32_bv, w32_bv]
  exact t32_73 _ _ w
theorem num_74 (a b : Int) (w : World) :
    Calls Tryd.prog 52 #[.int .u8 74, .int .i64 a, .int .i64 b] w fun e w' => e = .returned (.tuple #[.int .i64 ((t2i (cmpV 4 (BitVec.ofInt 32 a) (BitVec.ofInt 32 b)), (0 : Int))).1, .int .i64 ((t2i (cmpV 4 (BitVec.ofInt 32 a) (BitVec.ofInt 32 b)), (0 : Int))).2]) ∧ w' = w := by
  refine pick_short 74 a b _ _ (by omega) (by omega) (by omega) (fun w w' => w' = w) (fun w => ?_) w
  rw [w32_bv, w32_bv]
  exact t32_74 _ _ w
theorem num_75 (a b : Int) (w : World) :
    Calls Tryd.prog 52 #[.int .u8 75, .int .i64 a, .int .i64 b] w fun e w' => e = .returned (.tuple #[.int .i64 ((t2i (cmpV 5 (BitVec.ofInt 32 a) (BitVec.ofInt 32 b)), (0 : Int))).1, .int .i64 ((t2i (cmpV 5 (BitVec.ofInt 32 a) (BitVec.ofInt 32 b)), (0 : Int))).2]) ∧ w' = w := by
  refine pick_short 75 a b _ _ (by omega) (by omega) (by omega) (fun w w' => w' = w) (fun w => ?_) w
  rw [w32_bv, w32_bv]
  exact t32_75 _ _ w
theorem num_76 (a b : Int) (w : World) :
    Calls Tryd.prog 52 #[.int .u8 76, .int .i64 a, .int .i64 b] w fun e w' => e = .returned (.tuple #[.int .i64 ((t2i (cmpV 6 (BitVec.ofInt 32 a) (BitVec.ofInt 32 b)), (0 : Int))).1, .int .i64 ((t2i (cmpV 6 (BitVec.ofInt 32 a) (BitVec.ofInt 32 b)), (0 : Int))).2]) ∧ w' = w := by
  refine pick_short 76 a b _ _ (by omega) (by omega) (by omega) (fun w w' => w' = w) (fun w => ?_) w
  rw [w32_bv, w32_bv]
  exact t32_76 _ _ w
theorem num_77 (a b : Int) (w : World) :
    Calls Tryd.prog 52 #[.int .u8 77, .int .i64 a, .int .i64 b] w fun e w' => e = .returned (.tuple #[.int .i64 ((t2i (cmpV 7 (BitVec.ofInt 32 a) (BitVec.ofInt 32 b)), (0 : Int))).1, .int .i64 ((t2i (cmpV 7 (BitVec.ofInt 32 a) (BitVec.ofInt 32 b)), (0 : Int))).2]) ∧ w' = w := by
  refine pick_short 77 a b _ _ (by omega) (by omega) (by omega) (fun w w' => w' = w) (fun w => ?_) w
  rw [w32_bv, w32_bv]
  exact t32_77 _ _ w
theorem num_78 (a b : Int) (w : World) :
    Calls Tryd.prog 52 #[.int .u8 78, .int .i64 a, .int .i64 b] w fun e w' => e = .returned (.tuple #[.int .i64 ((t2i (cmpV 8 (BitVec.ofInt 32 a) (BitVec.ofInt 32 b)), (0 : Int))).1, .int .i64 ((t2i (cmpV 8 (BitVec.ofInt 32 a) (BitVec.ofInt 32 b)), (0 : Int))).2]) ∧ w' = w := by
  refine pick_short 78 a b _ _ (by omega) (by omega) (by omega) (fun w w' => w' = w) (fun w => ?_) w
  rw [w32_bv, w32_bv]
  exact t32_78 _ _ w
theorem num_79 (a b : Int) (w : World) :
    Calls Tryd.prog 52 #[.int .u8 79, .int .i64 a, .int .i64 b] w fun e w' => e = .returned (.tuple #[.int .i64 ((t2i (cmpV 9 (BitVec.ofInt 32 a) (BitVec.ofInt 32 b)), (0 : Int))).1, .int .i64 ((t2i (cmpV 9 (BitVec.ofInt 32 a) (BitVec.ofInt 32 b)), (0 : Int))).2]) ∧ w' = w := by
  refine pick_short 79 a b _ _ (by omega) (by omega) (by omega) (fun w w' => w' = w) (fun w => ?_) w
  rw [w32_bv, w32_bv]
  exact t32_79 _ _ w
theorem num_106 (a b : Int) (w : World) :
    Calls Tryd.prog 52 #[.int .u8 106, .int .i64 a, .int .i64 b] w fun e w' => e = .returned (.tuple #[.int .i64 (recV 0 (BitVec.ofInt 32 a) (BitVec.ofInt 32 b)).1, .int .i64 (recV 0 (BitVec.ofInt 32 a) (BitVec.ofInt 32 b)).2]) ∧ w' = w := by
  refine pick_short 106 a b _ _ (by omega) (by omega) (by omega) (fun w w' => w' = w) (fun w => ?_) w
  rw [w32_bv, w32_bv]
  exact t32_106 _ _ w
theorem num_107 (a b : Int) (w : World) :
    Calls Tryd.prog 52 #[.int .u8 107, .int .i64 a, .int .i64 b] w fun e w' => e = .returned (.tuple #[.int .i64 (recV 1 (BitVec.ofInt 32 a) (BitVec.ofInt 32 b)).1, .int .i64 (recV 1 (BitVec.ofInt 32 a) (BitVec.ofInt 32 b)).2]) ∧ w' = w := by
  refine pick_short 107 a b _ _ (by omega) (by omega) (by omega) (fun w w' => w' = w) (fun w => ?_) w
  rw [w32_bv, w32_bv]
  exact t32_107 _ _ w
theorem num_108 (a b : Int) (w : World) :
    Calls Tryd.prog 52 #[.int .u8 108, .int .i64 a, .int .i64 b] w fun e w' => e = .returned (.tuple #[.int .i64 (recV 2 (BitVec.ofInt 32 a) (BitVec.ofInt 32 b)).1, .int .i64 (recV 2 (BitVec.ofInt 32 a) (BitVec.ofInt 32 b)).2]) ∧ w' = w := by
  refine pick_short 108 a b _ _ (by omega) (by omega) (by omega) (fun w w' => w' = w) (fun w => ?_) w
  rw [w32_bv, w32_bv]
  exact t32_108 _ _ w
theorem num_109 (a b : Int) (w : World) :
    Calls Tryd.prog 52 #[.int .u8 109, .int .i64 a, .int .i64 b] w fun e w' => e = .returned (.tuple #[.int .i64 (recV 3 (BitVec.ofInt 32 a) (BitVec.ofInt 32 b)).1, .int .i64 (recV 3 (BitVec.ofInt 32 a) (BitVec.ofInt 32 b)).2]) ∧ w' = w := by
  refine pick_short 109 a b _ _ (by omega) (by omega) (by omega) (fun w w' => w' = w) (fun w => ?_) w
  rw [w32_bv, w32_bv]
  exact t32_109 _ _ w
theorem num_110 (a b : Int) (w : World) :
    Calls Tryd.prog 52 #[.int .u8 110, .int .i64 a, .int .i64 b] w fun e w' => e = .returned (.tuple #[.int .i64 (recV 4 (BitVec.ofInt 32 a) (BitVec.ofInt 32 b)).1, .int .i64 (recV 4 (BitVec.ofInt 32 a) (BitVec.ofInt 32 b)).2]) ∧ w' = w := by
  refine pick_short 110 a b _ _ (by omega) (by omega) (by omega) (fun w w' => w' = w) (fun w => ?_) w
  rw [w32_bv, w32_bv]
  exact t32_110 _ _ w
theorem num_111 (a b : Int) (w : World) :
    Calls Tryd.prog 52 #[.int .u8 111, .int .i64 a, .int .i64 b] w fun e w' => e = .returned (.tuple #[.int .i64 (recV 5 (BitVec.ofInt 32 a) (BitVec.ofInt 32 b)).1, .int .i64 (recV 5 (BitVec.ofInt 32 a) (BitVec.ofInt 32 b)).2]) ∧ w' = w := by
  refine pick_short 111 a b _ _ (by omega) (by omega) (by omega) (fun w w' => w' = w) (fun w => ?_) w
  rw [w32_bv, w32_bv]
  exact t32_111 _ _ w
theorem num_112 (a b : Int) (w : World) :
    Calls Tryd.prog 52 #[.int .u8 112, .int .i64 a, .int .i64 b] w fun e w' => e = .returned (.tuple #[.int .i64 (recV 6 (BitVec.ofInt 32 a) (BitVec.ofInt 32 b)).1, .int .i64 (recV 6 (BitVec.ofInt 32 a) (BitVec.ofInt 32 b)).2]) ∧ w' = w := by
  refine pick_short 112 a b _ _ (by omega) (by omega) (by omega) (fun w w' => w' = w) (fun w => ?_) w
  rw [w32_bv, w32_bv]
  exact t32_112 _ _ w
theorem num_113 (a b : Int) (w : World) :
    Calls Tryd.prog 52 #[.int .u8 113, .int .i64 a, .int .i64 b] w fun e w' => e = .returned (.tuple #[.int .i64 (recV 7 (BitVec.ofInt 32 a) (BitVec.ofInt 32 b)).1, .int .i64 (recV 7 (BitVec.ofInt 32 a) (BitVec.ofInt 32 b)).2]) ∧ w' = w := by
  refine pick_short 113 a b _ _ (by omega) (by omega) (by omega) (fun w w' => w' = w) (fun w => ?_) w
  rw [w32_bv, w32_bv]
  exact t32_113 _ _ w
theorem num_114 (a b : Int) (w : World) :
    Calls Tryd.prog 52 #[.int .u8 114, .int .i64 a, .int .i64 b] w fun e w' => e = .returned (.tuple #[.int .i64 (recV 8 (BitVec.ofInt 32 a) (BitVec.ofInt 32 b)).1, .int .i64 (recV 8 (BitVec.ofInt 32 a) (BitVec.ofInt 32 b)).2]) ∧ w' = w := by
  refine pick_short 114 a b _ _ (by omega) (by omega) (by omega) (fun w w' => w' = w) (fun w => ?_) w
  rw [w32_bv, w32_bv]
  exact t32_114 _ _ w
theorem num_115 (a b : Int) (w : World) :
    Calls Tryd.prog 52 #[.int .u8 115, .int .i64 a, .int .i64 b] w fun e w' => e = .returned (.tuple #[.int .i64 (recV 9 (BitVec.ofInt 32 a) (BitVec.ofInt 32 b)).1, .int .i64 (recV 9 (BitVec.ofInt 32 a) (BitVec.ofInt 32 b)).2]) ∧ w' = w := by
  refine pick_short 115 a b _ _ (by omega) (by omega) (by omega) (fun w w' => w' = w) (fun w => ?_) w
  rw [w32_bv, w32_bv]
  exact t32_115 _ _ w
theorem num_116 (a b : Int) (w : World) :
    Calls Tryd.prog 52 #[.int .u8 116, .int .i64 a, .int .i64 b] w fun e w' => e = .returned (.tuple #[.int .i64 (recV 10 (BitVec.ofInt 32 a) (BitVec.ofInt 32 b)).1, .int .i64 (recV 10 (BitVec.ofInt 32 a) (BitVec.ofInt 32 b)).2]) ∧ w' = w := by
  refine pick_short 116 a b _ _ (by omega) (by omega) (by omega) (fun w w' => w' = w) (fun w => ?_) w
  rw [w32_bv, w32_bv]
  exact t32_116 _ _ w
theorem num_117 (a b : Int) (w : World) :
    Calls Tryd.prog 52 #[.int .u8 117, .int .i64 a, .int .i64 b] w fun e w' => e = .returned (.tuple #[.int .i64 (recV 11 (BitVec.ofInt 32 a) (BitVec.ofInt 32 b)).1, .int .i64 (recV 11 (BitVec.ofInt 32 a) (BitVec.ofInt 32 b)).2]) ∧ w' = w := by
  refine pick_short 117 a b _ _ (by omega) (by omega) (by omega) (fun w w' => w' = w) (fun w => ?_) w
  rw [w32_bv, w32_bv]
  exact t32_117 _ _ w
theorem num_118 (a b : Int) (w : World) :
    Calls Tryd.prog 52 #[.int .u8 118, .int .i64 a, .int .i64 b] w fun e w' => e = .returned (.tuple #[.int .i64 (recV 12 (BitVec.ofInt 32 a) (BitVec.ofInt 32 b)).1, .int .i64 (recV 12 (BitVec.ofInt 32 a) (BitVec.ofInt 32 b)).2]) ∧ w' = w := by
  refine pick_short 118 a b _ _ (by omega) (by omega) (by omega) (fun w w' => w' = w) (fun w => ?_) w
  rw [w32_bv, w32_bv]
  exact t32_118 _ _ w
theorem num_119 (a b : Int) (w : World) :
    Calls Tryd.prog 52 #[.int .u8 119, .int .i64 a, .int .i64 b] w fun e w' => e = .returned (.tuple #[.int .i64 (recV 13 (BitVec.ofInt 32 a) (BitVec.ofInt 32 b)).1, .int .i64 (recV 13 (BitVec.ofInt 32 a) (BitVec.ofInt 32 b)).2]) ∧ Below w.heap.size w w' := by
  refine pick_short 119 a b _ _ (by omega) (by omega) (by omega) (fun w w' => Below w.heap.size w w') (fun w => ?_) w
  rw [w32_bv, w32_bv]
  exact t32_119 _ _ w
theorem num_120 (a b : Int) (w : World) :
    Calls Tryd.prog 52 #[.int .u8 120, .int .i64 a, .int .i64 b] w fun e w' => e = .returned (.tuple #[.int .i64 (recV 14 (BitVec.ofInt 32 a) (BitVec.ofInt 32 b)).1, .int .i64 (recV 14 (BitVec.ofInt 32 a) (BitVec.ofInt 32 b)).2]) ∧ Below w.heap.size w w' := by
  refine pick_short 120 a b _ _ (by omega) (by omega) (by omega) (fun w w' => Below w.heap.size w w') (fun w => ?_) w
  rw [w32_bv, w32_bv]
  exact t32_120 _ _ w
theorem num_81 (a b : Int) (ha : -9223372036854775808 ≤ a ∧ a ≤ 9223372036854775807) (hb : -9223372036854775808 ≤ b ∧ b ≤ 9223372036854775807) (w : World) :
    Calls Tryd.prog 52 #[.int .u8 81, .int .i64 a, .int .i64 b] w fun e w' => e = .returned (.tuple #[.int .i64 ((t2i (cmpV 0 (BitVec.ofInt 64 a) (BitVec.ofInt 64 b)), (0 : Int))).1, .int .i64 ((t2i (cmpV 0 (BitVec.ofInt 64 a) (BitVec.ofInt 64 b)), (0 : Int))).2]) ∧ w' = w := by
  refine pick_asks 81 a b _ _ (by omega) (by omega) (fun w w' => w' = w) (fun w => ?_) w
  have h := t64_70 (BitVec.ofInt 64 a) (BitVec.ofInt 64 b) w
  rw [of64_toInt a ha, of64_toInt b hb] at h
  exact h
theorem num_82 (a b : Int) (ha : -9223372036854775808 ≤ a ∧ a ≤ 9223372036854775807) (hb : -9223372036854775808 ≤ b ∧ b ≤ 9223372036854775807) (w : World) :
    Calls Tryd.prog 52 #[.int .u8 82, .int .i64 a, .int .i64 b] w fun e w' => e = .returned (.tuple #[.int .i64 ((t2i (cmpV 1 (BitVec.ofInt 64 a) (BitVec.ofInt 64 b)), (0 : Int))).1, .int .i64 ((t2i (cmpV 1 (BitVec.ofInt 64 a) (BitVec.ofInt 64 b)), (0 : Int))).2]) ∧ w' = w := by
  refine pick_asks 82 a b _ _ (by omega) (by omega) (fun w w' => w' = w) (fun w => ?_) w
  have h := t64_71 (BitVec.ofInt 64 a) (BitVec.ofInt 64 b) w
  rw [of64_toInt a ha, of64_toInt b hb] at h
  exact h
theorem num_83 (a b : Int) (ha : -9223372036854775808 ≤ a ∧ a ≤ 9223372036854775807) (hb : -9223372036854775808 ≤ b ∧ b ≤ 9223372036854775807) (w : World) :
    Calls Tryd.prog 52 #[.int .u8 83, .int .i64 a, .int .i64 b] w fun e w' => e = .returned (.tuple #[.int .i64 ((t2i (cmpV 2 (BitVec.ofInt 64 a) (BitVec.ofInt 64 b)), (0 : Int))).1, .int .i64 ((t2i (cmpV 2 (BitVec.ofInt 64 a) (BitVec.ofInt 64 b)), (0 : Int))).2]) ∧ w' = w := by
  refine pick_asks 83 a b _ _ (by omega) (by omega) (fun w w' => w' = w) (fun w => ?_) w
  have h := t64_72 (BitVec.ofInt 64 a) (BitVec.ofInt 64 b) w
  rw [of64_toInt a ha, of64_toInt b hb] at h
  exact h
theorem num_84 (a b : Int) (ha : -9223372036854775808 ≤ a ∧ a ≤ 9223372036854775807) (hb : -9223372036854775808 ≤ b ∧ b ≤ 9223372036854775807) (w : World) :
    Calls Tryd.prog 52 #[.int .u8 84, .int .i64 a, .int .i64 b] w fun e w' => e = .returned (.tuple #[.int .i64 ((t2i (cmpV 3 (BitVec.ofInt 64 a) (BitVec.ofInt 64 b)), (0 : Int))).1, .int .i64 ((t2i (cmpV 3 (BitVec.ofInt 64 a) (BitVec.ofInt 64 b)), (0 : Int))).2]) ∧ w' = w := by
  refine pick_asks 84 a b _ _ (by omega) (by omega) (fun w w' => w' = w) (fun w => ?_) w
  have h := t64_73 (BitVec.ofInt 64 a) (BitVec.ofInt 64 b) w
  rw [of64_toInt a ha, of64_toInt b hb] at h
  exact h
theorem num_85 (a b : Int) (ha : -9223372036854775808 ≤ a ∧ a ≤ 9223372036854775807) (hb : -9223372036854775808 ≤ b ∧ b ≤ 9223372036854775807) (w : World) :
    Calls Tryd.prog 52 #[.int .u8 85, .int .i64 a, .int .i64 b] w fun e w' => e = .returned (.tuple #[.int .i64 ((t2i (cmpV 4 (BitVec.ofInt 64 a) (BitVec.ofInt 64 b)), (0 : Int))).1, .int .i64 ((t2i (cmpV 4 (BitVec.ofInt 64 a) (BitVec.ofInt 64 b)), (0 : Int))).2]) ∧ w' = w := by
  refine pick_asks 85 a b _ _ (by omega) (by omega) (fun w w' => w' = w) (fun w => ?_) w
  have h := t64_74 (BitVec.ofInt 64 a) (BitVec.ofInt 64 b) w
  rw [of64_toInt a ha, of64_toInt b hb] at h
  exact h
theorem num_86 (a b : Int) (ha : -9223372036854775808 ≤ a ∧ a ≤ 9223372036854775807) (hb : -9223372036854775808 ≤ b ∧ b ≤ 9223372036854775807) (w : World) :
    Calls Tryd.prog 52 #[.int .u8 86, .int .i64 a, .int .i64 b] w fun e w' => e = .returned (.tuple #[.int .i64 ((t2i (cmpV 5 (BitVec.ofInt 64 a) (BitVec.ofInt 64 b)), (0 : Int))).1, .int .i64 ((t2i (cmpV 5 (BitVec.ofInt 64 a) (BitVec.ofInt 64 b)), (0 : Int))).2]) ∧ w' = w := by
  refine pick_asks 86 a b _ _ (by omega) (by omega) (fun w w' => w' = w) (fun w => ?_) w
  have h := t64_75 (BitVec.ofInt 64 a) (BitVec.ofInt 64 b) w
  rw [of64_toInt a ha, of64_toInt b hb] at h
  exact h
theorem num_87 (a b : Int) (ha : -9223372036854775808 ≤ a ∧ a ≤ 9223372036854775807) (hb : -9223372036854775808 ≤ b ∧ b ≤ 9223372036854775807) (w : World) :
    Calls Tryd.prog 52 #[.int .u8 87, .int .i64 a, .int .i64 b] w fun e w' => e = .returned (.tuple #[.int .i64 ((t2i (cmpV 6 (BitVec.ofInt 64 a) (BitVec.ofInt 64 b)), (0 : Int))).1, .int .i64 ((t2i (cmpV 6 (BitVec.ofInt 64 a) (BitVec.ofInt 64 b)), (0 : Int))).2]) ∧ w' = w := by
  refine pick_asks 87 a b _ _ (by omega) (by omega) (fun w w' => w' = w) (fun w => ?_) w
  have h := t64_76 (BitVec.ofInt 64 a) (BitVec.ofInt 64 b) w
  rw [of64_toInt a ha, of64_toInt b hb] at h
  exact h
theorem num_88 (a b : Int) (ha : -9223372036854775808 ≤ a ∧ a ≤ 9223372036854775807) (hb : -9223372036854775808 ≤ b ∧ b ≤ 9223372036854775807) (w : World) :
    Calls Tryd.prog 52 #[.int .u8 88, .int .i64 a, .int .i64 b] w fun e w' => e = .returned (.tuple #[.int .i64 ((t2i (cmpV 7 (BitVec.ofInt 64 a) (BitVec.ofInt 64 b)), (0 : Int))).1, .int .i64 ((t2i (cmpV 7 (BitVec.ofInt 64 a) (BitVec.ofInt 64 b)), (0 : Int))).2]) ∧ w' = w := by
  refine pick_asks 88 a b _ _ (by omega) (by omega) (fun w w' => w' = w) (fun w => ?_) w
  have h := t64_77 (BitVec.ofInt 64 a) (BitVec.ofInt 64 b) w
  rw [of64_toInt a ha, of64_toInt b hb] at h
  exact h
theorem num_89 (a b : Int) (ha : -9223372036854775808 ≤ a ∧ a ≤ 9223372036854775807) (hb : -9223372036854775808 ≤ b ∧ b ≤ 9223372036854775807) (w : World) :
    Calls Tryd.prog 52 #[.int .u8 89, .int .i64 a, .int .i64 b] w fun e w' => e = .returned (.tuple #[.int .i64 ((t2i (cmpV 8 (BitVec.ofInt 64 a) (BitVec.ofInt 64 b)), (0 : Int))).1, .int .i64 ((t2i (cmpV 8 (BitVec.ofInt 64 a) (BitVec.ofInt 64 b)), (0 : Int))).2]) ∧ w' = w := by
  refine pick_asks 89 a b _ _ (by omega) (by omega) (fun w w' => w' = w) (fun w => ?_) w
  have h := t64_78 (BitVec.ofInt 64 a) (BitVec.ofInt 64 b) w
  rw [of64_toInt a ha, of64_toInt b hb] at h
  exact h
theorem num_90 (a b : Int) (ha : -9223372036854775808 ≤ a ∧ a ≤ 9223372036854775807) (hb : -9223372036854775808 ≤ b ∧ b ≤ 9223372036854775807) (w : World) :
    Calls Tryd.prog 52 #[.int .u8 90, .int .i64 a, .int .i64 b] w fun e w' => e = .returned (.tuple #[.int .i64 ((t2i (cmpV 9 (BitVec.ofInt 64 a) (BitVec.ofInt 64 b)), (0 : Int))).1, .int .i64 ((t2i (cmpV 9 (BitVec.ofInt 64 a) (BitVec.ofInt 64 b)), (0 : Int))).2]) ∧ w' = w := by
  refine pick_asks 90 a b _ _ (by omega) (by omega) (fun w w' => w' = w) (fun w => ?_) w
  have h := t64_79 (BitVec.ofInt 64 a) (BitVec.ofInt 64 b) w
  rw [of64_toInt a ha, of64_toInt b hb] at h
  exact h
theorem num_124 (a b : Int) (ha : -9223372036854775808 ≤ a ∧ a ≤ 9223372036854775807) (hb : -9223372036854775808 ≤ b ∧ b ≤ 9223372036854775807) (w : World) :
    Calls Tryd.prog 52 #[.int .u8 124, .int .i64 a, .int .i64 b] w fun e w' => e = .returned (.tuple #[.int .i64 (recV 0 (BitVec.ofInt 64 a) (BitVec.ofInt 64 b)).1, .int .i64 (recV 0 (BitVec.ofInt 64 a) (BitVec.ofInt 64 b)).2]) ∧ w' = w := by
  refine pick_makes 124 a b _ _ (by omega) (by omega) (fun w w' => w' = w) (fun w => ?_) w
  have h := t64_106 (BitVec.ofInt 64 a) (BitVec.ofInt 64 b) w
  rw [of64_toInt a ha, of64_toInt b hb] at h
  exact h
theorem num_125 (a b : Int) (ha : -9223372036854775808 ≤ a ∧ a ≤ 9223372036854775807) (hb : -9223372036854775808 ≤ b ∧ b ≤ 9223372036854775807) (w : World) :
    Calls Tryd.prog 52 #[.int .u8 125, .int .i64 a, .int .i64 b] w fun e w' => e = .returned (.tuple #[.int .i64 (recV 1 (BitVec.ofInt 64 a) (BitVec.ofInt 64 b)).1, .int .i64 (recV 1 (BitVec.ofInt 64 a) (BitVec.ofInt 64 b)).2]) ∧ w' = w := by
  refine pick_makes 125 a b _ _ (by omega) (by omega) (fun w w' => w' = w) (fun w => ?_) w
  have h := t64_107 (BitVec.ofInt 64 a) (BitVec.ofInt 64 b) w
  rw [of64_toInt a ha, of64_toInt b hb] at h
  exact h
theorem num_126 (a b : Int) (ha : -9223372036854775808 ≤ a ∧ a ≤ 9223372036854775807) (hb : -9223372036854775808 ≤ b ∧ b ≤ 9223372036854775807) (w : World) :
    Calls Tryd.prog 52 #[.int .u8 126, .int .i64 a, .int .i64 b] w fun e w' => e = .returned (.tuple #[.int .i64 (recV 2 (BitVec.ofInt 64 a) (BitVec.ofInt 64 b)).1, .int .i64 (recV 2 (BitVec.ofInt 64 a) (BitVec.ofInt 64 b)).2]) ∧ w' = w := by
  refine pick_makes 126 a b _ _ (by omega) (by omega) (fun w w' => w' = w) (fun w => ?_) w
  have h := t64_108 (BitVec.ofInt 64 a) (BitVec.ofInt 64 b) w
  rw [of64_toInt a ha, of64_toInt b hb] at h
  exact h
theorem num_127 (a b : Int) (ha : -9223372036854775808 ≤ a ∧ a ≤ 9223372036854775807) (hb : -9223372036854775808 ≤ b ∧ b ≤ 9223372036854775807) (w : World) :
    Calls Tryd.prog 52 #[.int .u8 127, .int .i64 a, .int .i64 b] w fun e w' => e = .returned (.tuple #[.int .i64 (recV 3 (BitVec.ofInt 64 a) (BitVec.ofInt 64 b)).1, .int .i64 (recV 3 (BitVec.ofInt 64 a) (BitVec.ofInt 64 b)).2]) ∧ w' = w := by
  refine pick_makes 127 a b _ _ (by omega) (by omega) (fun w w' => w' = w) (fun w => ?_) w
  have h := t64_109 (BitVec.ofInt 64 a) (BitVec.ofInt 64 b) w
  rw [of64_toInt a ha, of64_toInt b hb] at h
  exact h
theorem num_128 (a b : Int) (ha : -9223372036854775808 ≤ a ∧ a ≤ 9223372036854775807) (hb : -9223372036854775808 ≤ b ∧ b ≤ 9223372036854775807) (w : World) :
    Calls Tryd.prog 52 #[.int .u8 128, .int .i64 a, .int .i64 b] w fun e w' => e = .returned (.tuple #[.int .i64 (recV 4 (BitVec.ofInt 64 a) (BitVec.ofInt 64 b)).1, .int .i64 (recV 4 (BitVec.ofInt 64 a) (BitVec.ofInt 64 b)).2]) ∧ w' = w := by
  refine pick_makes 128 a b _ _ (by omega) (by omega) (fun w w' => w' = w) (fun w => ?_) w
  have h := t64_110 (BitVec.ofInt 64 a) (BitVec.ofInt 64 b) w
  rw [of64_toInt a ha, of64_toInt b hb] at h
  exact h
theorem num_129 (a b : Int) (ha : -9223372036854775808 ≤ a ∧ a ≤ 9223372036854775807) (hb : -9223372036854775808 ≤ b ∧ b ≤ 9223372036854775807) (w : World) :
    Calls Tryd.prog 52 #[.int .u8 129, .int .i64 a, .int .i64 b] w fun e w' => e = .returned (.tuple #[.int .i64 (recV 5 (BitVec.ofInt 64 a) (BitVec.ofInt 64 b)).1, .int .i64 (recV 5 (BitVec.ofInt 64 a) (BitVec.ofInt 64 b)).2]) ∧ w' = w := by
  refine pick_makes 129 a b _ _ (by omega) (by omega) (fun w w' => w' = w) (fun w => ?_) w
  have h := t64_111 (BitVec.ofInt 64 a) (BitVec.ofInt 64 b) w
  rw [of64_toInt a ha, of64_toInt b hb] at h
  exact h
theorem num_130 (a b : Int) (ha : -9223372036854775808 ≤ a ∧ a ≤ 9223372036854775807) (hb : -9223372036854775808 ≤ b ∧ b ≤ 9223372036854775807) (w : World) :
    Calls Tryd.prog 52 #[.int .u8 130, .int .i64 a, .int .i64 b] w fun e w' => e = .returned (.tuple #[.int .i64 (recV 6 (BitVec.ofInt 64 a) (BitVec.ofInt 64 b)).1, .int .i64 (recV 6 (BitVec.ofInt 64 a) (BitVec.ofInt 64 b)).2]) ∧ w' = w := by
  refine pick_makes 130 a b _ _ (by omega) (by omega) (fun w w' => w' = w) (fun w => ?_) w
  have h := t64_112 (BitVec.ofInt 64 a) (BitVec.ofInt 64 b) w
  rw [of64_toInt a ha, of64_toInt b hb] at h
  exact h
theorem num_131 (a b : Int) (ha : -9223372036854775808 ≤ a ∧ a ≤ 9223372036854775807) (hb : -9223372036854775808 ≤ b ∧ b ≤ 9223372036854775807) (w : World) :
    Calls Tryd.prog 52 #[.int .u8 131, .int .i64 a, .int .i64 b] w fun e w' => e = .returned (.tuple #[.int .i64 (recV 7 (BitVec.ofInt 64 a) (BitVec.ofInt 64 b)).1, .int .i64 (recV 7 (BitVec.ofInt 64 a) (BitVec.ofInt 64 b)).2]) ∧ w' = w := by
  refine pick_makes 131 a b _ _ (by omega) (by omega) (fun w w' => w' = w) (fun w => ?_) w
  have h := t64_113 (BitVec.ofInt 64 a) (BitVec.ofInt 64 b) w
  rw [of64_toInt a ha, of64_toInt b hb] at h
  exact h
theorem num_132 (a b : Int) (ha : -9223372036854775808 ≤ a ∧ a ≤ 9223372036854775807) (hb : -9223372036854775808 ≤ b ∧ b ≤ 9223372036854775807) (w : World) :
    Calls Tryd.prog 52 #[.int .u8 132, .int .i64 a, .int .i64 b] w fun e w' => e = .returned (.tuple #[.int .i64 (recV 8 (BitVec.ofInt 64 a) (BitVec.ofInt 64 b)).1, .int .i64 (recV 8 (BitVec.ofInt 64 a) (BitVec.ofInt 64 b)).2]) ∧ w' = w := by
  refine pick_makes 132 a b _ _ (by omega) (by omega) (fun w w' => w' = w) (fun w => ?_) w
  have h := t64_114 (BitVec.ofInt 64 a) (BitVec.ofInt 64 b) w
  rw [of64_toInt a ha, of64_toInt b hb] at h
  exact h
theorem num_133 (a b : Int) (ha : -9223372036854775808 ≤ a ∧ a ≤ 9223372036854775807) (hb : -9223372036854775808 ≤ b ∧ b ≤ 9223372036854775807) (w : World) :
    Calls Tryd.prog 52 #[.int .u8 133, .int .i64 a, .int .i64 b] w fun e w' => e = .returned (.tuple #[.int .i64 (recV 9 (BitVec.ofInt 64 a) (BitVec.ofInt 64 b)).1, .int .i64 (recV 9 (BitVec.ofInt 64 a) (BitVec.ofInt 64 b)).2]) ∧ w' = w := by
  refine pick_makes 133 a b _ _ (by omega) (by omega) (fun w w' => w' = w) (fun w => ?_) w
  have h := t64_115 (BitVec.ofInt 64 a) (BitVec.ofInt 64 b) w
  rw [of64_toInt a ha, of64_toInt b hb] at h
  exact h
theorem num_134 (a b : Int) (ha : -9223372036854775808 ≤ a ∧ a ≤ 9223372036854775807) (hb : -9223372036854775808 ≤ b ∧ b ≤ 9223372036854775807) (w : World) :
    Calls Tryd.prog 52 #[.int .u8 134, .int .i64 a, .int .i64 b] w fun e w' => e = .returned (.tuple #[.int .i64 (recV 10 (BitVec.ofInt 64 a) (BitVec.ofInt 64 b)).1, .int .i64 (recV 10 (BitVec.ofInt 64 a) (BitVec.ofInt 64 b)).2]) ∧ w' = w := by
  refine pick_makes 134 a b _ _ (by omega) (by omega) (fun w w' => w' = w) (fun w => ?_) w
  have h := t64_116 (BitVec.ofInt 64 a) (BitVec.ofInt 64 b) w
  rw [of64_toInt a ha, of64_toInt b hb] at h
  exact h
theorem num_135 (a b : Int) (ha : -9223372036854775808 ≤ a ∧ a ≤ 9223372036854775807) (hb : -9223372036854775808 ≤ b ∧ b ≤ 9223372036854775807) (w : World) :
    Calls Tryd.prog 52 #[.int .u8 135, .int .i64 a, .int .i64 b] w fun e w' => e = .returned (.tuple #[.int .i64 (recV 11 (BitVec.ofInt 64 a) (BitVec.ofInt 64 b)).1, .int .i64 (recV 11 (BitVec.ofInt 64 a) (BitVec.ofInt 64 b)).2]) ∧ w' = w := by
  refine pick_makes 135 a b _ _ (by omega) (by omega) (fun w w' => w' = w) (fun w => ?_) w
  have h := t64_117 (BitVec.ofInt 64 a) (BitVec.ofInt 64 b) w
  rw [of64_toInt a ha, of64_toInt b hb] at h
  exact h
theorem num_136 (a b : Int) (ha : -9223372036854775808 ≤ a ∧ a ≤ 9223372036854775807) (hb : -9223372036854775808 ≤ b ∧ b ≤ 9223372036854775807) (w : World) :
    Calls Tryd.prog 52 #[.int .u8 136, .int .i64 a, .int .i64 b] w fun e w' => e = .returned (.tuple #[.int .i64 (recV 12 (BitVec.ofInt 64 a) (BitVec.ofInt 64 b)).1, .int .i64 (recV 12 (BitVec.ofInt 64 a) (BitVec.ofInt 64 b)).2]) ∧ w' = w := by
  refine pick_makes 136 a b _ _ (by omega) (by omega) (fun w w' => w' = w) (fun w => ?_) w
  have h := t64_118 (BitVec.ofInt 64 a) (BitVec.ofInt 64 b) w
  rw [of64_toInt a ha, of64_toInt b hb] at h
  exact h
theorem num_137 (a b : Int) (ha : -9223372036854775808 ≤ a ∧ a ≤ 9223372036854775807) (hb : -9223372036854775808 ≤ b ∧ b ≤ 9223372036854775807) (w : World) :
    Calls Tryd.prog 52 #[.int .u8 137, .int .i64 a, .int .i64 b] w fun e w' => e = .returned (.tuple #[.int .i64 (recV 13 (BitVec.ofInt 64 a) (BitVec.ofInt 64 b)).1, .int .i64 (recV 13 (BitVec.ofInt 64 a) (BitVec.ofInt 64 b)).2]) ∧ Below w.heap.size w w' := by
  refine pick_makes 137 a b _ _ (by omega) (by omega) (fun w w' => Below w.heap.size w w') (fun w => ?_) w
  have h := t64_119 (BitVec.ofInt 64 a) (BitVec.ofInt 64 b) w
  rw [of64_toInt a ha, of64_toInt b hb] at h
  exact h
theorem num_138 (a b : Int) (ha : -9223372036854775808 ≤ a ∧ a ≤ 9223372036854775807) (hb : -9223372036854775808 ≤ b ∧ b ≤ 9223372036854775807) (w : World) :
    Calls Tryd.prog 52 #[.int .u8 138, .int .i64 a, .int .i64 b] w fun e w' => e = .returned (.tuple #[.int .i64 (recV 14 (BitVec.ofInt 64 a) (BitVec.ofInt 64 b)).1, .int .i64 (recV 14 (BitVec.ofInt 64 a) (BitVec.ofInt 64 b)).2]) ∧ Below w.heap.size w w' := by
  refine pick_makes 138 a b _ _ (by omega) (by omega) (fun w w' => Below w.heap.size w w') (fun w => ?_) w
  have h := t64_120 (BitVec.ofInt 64 a) (BitVec.ofInt 64 b) w
  rw [of64_toInt a ha, of64_toInt b hb] at h
  exact h
end Go.Proofs.YtdbhdgkbkhjikaaDoor
