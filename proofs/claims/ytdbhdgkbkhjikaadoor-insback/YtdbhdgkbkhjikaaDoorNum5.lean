/-
  What the program's own package num does: each instruction, over words.
-/
import Derived.Test.YtdbhdgkbkhjikaaDoorNum2
import Derived.Test.YtdbhdgkbkhjikaaDoorNum3
import Derived.Test.YtdbhdgkbkhjikaaDoorNum4
import Derived.Test.YtdbhdgkbkhjikaaDoorVMaths2
import Derived.WalkKit
import Derived.WalkSpells
import Derived.WalkSmall
import Derived.Deep.QuietTactic
import Derived.BigQuiet
import Derived.Laws.Bits128
import Derived.Laws.BitsAllLaws
import Derived.Laws.BitsLemmas
namespace Go.Proofs.YtdbhdgkbkhjikaaDoor
open Go.RowKit
theorem t32_70 (X Y : BitVec 32) (w : World) :
    Calls Tryd.prog 77 #[.int .u8 70, .int .i32 X.toInt, .int .i32 Y.toInt] w fun e w' => e = .returned (.tuple #[.int .i64 ((t2i (cmpV 0 X Y), (0 : Int))).1, .int .i64 ((t2i (cmpV 0 X Y), (0 : Int))).2]) ∧ w' = w := by
  have h := two32_70 X.toInt Y.toInt _ (fun w => holds32_70 _ _ w) w
  rw [eq_bv] at h
  exact h
theorem t32_71 (X Y : BitVec 32) (w : World) :
    Calls Tryd.prog 77 #[.int .u8 71, .int .i32 X.toInt, .int .i32 Y.toInt] w fun e w' => e = .returned (.tuple #[.int .i64 ((t2i (cmpV 1 X Y), (0 : Int))).1, .int .i64 ((t2i (cmpV 1 X Y), (0 : Int))).2]) ∧ w' = w := by
  have h := two32_71 X.toInt Y.toInt _ (fun w => holds32_71 _ _ w) w
  rw [eq_bv] at h
  exact h
theorem t32_72 (X Y : BitVec 32) (w : World) :
    Calls Tryd.prog 77 #[.int .u8 72, .int .i32 X.toInt, .int .i32 Y.toInt] w fun e w' => e = .returned (.tuple #[.int .i64 ((t2i (cmpV 2 X Y), (0 : Int))).1, .int .i64 ((t2i (cmpV 2 X Y), (0 : Int))).2]) ∧ w' = w := two32_72 X.toInt Y.toInt _ (fun w => holds32_72 _ _ w) w
theorem t32_74 (X Y : BitVec 32) (w : World) :
    Calls Tryd.prog 77 #[.int .u8 74, .int .i32 X.toInt, .int .i32 Y.toInt] w fun e w' => e = .returned (.tuple #[.int .i64 ((t2i (cmpV 4 X Y), (0 : Int))).1, .int .i64 ((t2i (cmpV 4 X Y), (0 : Int))).2]) ∧ w' = w := two32_74 X.toInt Y.toInt _ (fun w => holds32_74 _ _ w) w
theorem t32_76 (X Y : BitVec 32) (w : World) :
    Calls Tryd.prog 77 #[.int .u8 76, .int .i32 X.toInt, .int .i32 Y.toInt] w fun e w' => e = .returned (.tuple #[.int .i64 ((t2i (cmpV 6 X Y), (0 : Int))).1, .int .i64 ((t2i (cmpV 6 X Y), (0 : Int))).2]) ∧ w' = w := two32_76 X.toInt Y.toInt _ (fun w => holds32_76 _ _ w) w
theorem t32_78 (X Y : BitVec 32) (w : World) :
    Calls Tryd.prog 77 #[.int .u8 78, .int .i32 X.toInt, .int .i32 Y.toInt] w fun e w' => e = .returned (.tuple #[.int .i64 ((t2i (cmpV 8 X Y), (0 : Int))).1, .int .i64 ((t2i (cmpV 8 X Y), (0 : Int))).2]) ∧ w' = w := two32_78 X.toInt Y.toInt _ (fun w => holds32_78 _ _ w) w
theorem t32_73 (X Y : BitVec 32) (w : World) :
    Calls Tryd.prog 77 #[.int .u8 73, .int .i32 X.toInt, .int .i32 Y.toInt] w fun e w' => e = .returned (.tuple #[.int .i64 ((t2i (cmpV 3 X Y), (0 : Int))).1, .int .i64 ((t2i (cmpV 3 X Y), (0 : Int))).2]) ∧ w' = w := by
  refine two32_73 X.toInt Y.toInt _ (fun w => ?_) w
  rw [u32_of, u32_of]
  have h := holdsu32_72 (X.toNat : Int) (Y.toNat : Int) w
  rw [decide_eq_decide.2 Int.ofNat_lt] at h
  exact h
theorem t32_75 (X Y : BitVec 32) (w : World) :
    Calls Tryd.prog 77 #[.int .u8 75, .int .i32 X.toInt, .int .i32 Y.toInt] w fun e w' => e = .returned (.tuple #[.int .i64 ((t2i (cmpV 5 X Y), (0 : Int))).1, .int .i64 ((t2i (cmpV 5 X Y), (0 : Int))).2]) ∧ w' = w := by
  refine two32_75 X.toInt Y.toInt _ (fun w => ?_) w
  rw [u32_of, u32_of]
  have h := holdsu32_74 (X.toNat : Int) (Y.toNat : Int) w
  rw [decide_eq_decide.2 Int.ofNat_lt] at h
  exact h
theorem t32_77 (X Y : BitVec 32) (w : World) :
    Calls Tryd.prog 77 #[.int .u8 77, .int .i32 X.toInt, .int .i32 Y.toInt] w fun e w' => e = .returned (.tuple #[.int .i64 ((t2i (cmpV 7 X Y), (0 : Int))).1, .int .i64 ((t2i (cmpV 7 X Y), (0 : Int))).2]) ∧ w' = w := by
  refine two32_77 X.toInt Y.toInt _ (fun w => ?_) w
  rw [u32_of, u32_of]
  have h := holdsu32_76 (X.toNat : Int) (Y.toNat : Int) w
  rw [decide_eq_decide.2 Int.ofNat_le] at h
  exact h
theorem t32_79 (X Y : BitVec 32) (w : World) :
    Calls Tryd.prog 77 #[.int .u8 79, .int .i32 X.toInt, .int .i32 Y.toInt] w fun e w' => e = .returned (.tuple #[.int .i64 ((t2i (cmpV 9 X Y), (0 : Int))).1, .int .i64 ((t2i (cmpV 9 X Y), (0 : Int))).2]) ∧ w' = w := by
  refine two32_79 X.toInt Y.toInt _ (fun w => ?_) w
  rw [u32_of, u32_of]
  have h := holdsu32_78 (X.toNat : Int) (Y.toNat : Int) w
  rw [decide_eq_decide.2 Int.ofNat_le] at h
  exact h
theorem t32_106 (X Y : BitVec 32) (w : World) :
    Calls Tryd.prog 77 #[.int .u8 106, .int .i32 X.toInt, .int .i32 Y.toInt] w fun e w' => e = .returned (.tuple #[.int .i64 (recV 0 X Y).1, .int .i64 (recV 0 X Y).2]) ∧ w' = w := by
  refine two32_106 X.toInt Y.toInt _ (toInt_lt32 _).1 (toInt_lt32 _).2 (fun w => ?_) w
  have h := combine32_106 X.toInt Y.toInt w
  rw [of_toInt, of_toInt] at h
  exact h
theorem t32_107 (X Y : BitVec 32) (w : World) :
    Calls Tryd.prog 77 #[.int .u8 107, .int .i32 X.toInt, .int .i32 Y.toInt] w fun e w' => e = .returned (.tuple #[.int .i64 (recV 1 X Y).1, .int .i64 (recV 1 X Y).2]) ∧ w' = w := by
  refine two32_107 X.toInt Y.toInt _ (toInt_lt32 _).1 (toInt_lt32 _).2 (fun w => ?_) w
  have h := combine32_107 X.toInt Y.toInt w
  rw [of_toInt, of_toInt] at h
  exact h
theorem t32_108 (X Y : BitVec 32) (w : World) :
    Calls Tryd.prog 77 #[.int .u8 108, .int .i32 X.toInt, .int .i32 Y.toInt] w fun e w' => e = .returned (.tuple #[.int .i64 (recV 2 X Y).1, .int .i64 (recV 2 X Y).2]) ∧ w' = w := by
  refine two32_108 X.toInt Y.toInt _ (toInt_lt32 _).1 (toInt_lt32 _).2 (fun w => ?_) w
  have h := combine32_108 X.toInt Y.toInt w
  rw [of_toInt, of_toInt] at h
  exact h
theorem t32_113 (X Y : BitVec 32) (w : World) :
    Calls Tryd.prog 77 #[.int .u8 113, .int .i32 X.toInt, .int .i32 Y.toInt] w fun e w' => e = .returned (.tuple #[.int .i64 (recV 7 X Y).1, .int .i64 (recV 7 X Y).2]) ∧ w' = w := by
  refine two32_113 X.toInt Y.toInt _ (toInt_lt32 _).1 (toInt_lt32 _).2 (fun w => ?_) w
  have h := combine32_113 X.toInt Y.toInt w
  rw [of_toInt, of_toInt] at h
  exact h
theorem t32_114 (X Y : BitVec 32) (w : World) :
    Calls Tryd.prog 77 #[.int .u8 114, .int .i32 X.toInt, .int .i32 Y.toInt] w fun e w' => e = .returned (.tuple #[.int .i64 (recV 8 X Y).1, .int .i64 (recV 8 X Y).2]) ∧ w' = w := by
  refine two32_114 X.toInt Y.toInt _ (toInt_lt32 _).1 (toInt_lt32 _).2 (fun w => ?_) w
  have h := combine32_114 X.toInt Y.toInt w
  rw [of_toInt, of_toInt] at h
  exact h
theorem t32_115 (X Y : BitVec 32) (w : World) :
    Calls Tryd.prog 77 #[.int .u8 115, .int .i32 X.toInt, .int .i32 Y.toInt] w fun e w' => e = .returned (.tuple #[.int .i64 (recV 9 X Y).1, .int .i64 (recV 9 X Y).2]) ∧ w' = w := by
  refine two32_115 X.toInt Y.toInt _ (toInt_lt32 _).1 (toInt_lt32 _).2 (fun w => ?_) w
  have h := combine32_115 X.toInt Y.toInt w
  rw [of_toInt, of_toInt] at h
  exact h
theorem t32_109 (X Y : BitVec 32) (w : World) :
    Calls Tryd.prog 77 #[.int .u8 109, .int .i32 X.toInt, .int .i32 Y.toInt] w fun e w' => e = .returned (.tuple #[.int .i64 (recV 3 X Y).1, .int .i64 (recV 3 X Y).2]) ∧ w' = w := by
  refine two32_109 X.toInt Y.toInt _ _ (fun w => ?_) w
  have hX := toInt_lt32 X
  by_cases h0 : Y.toInt = 0
  · rw [show recV 3 X Y = (0, 21) from if_pos h0]
    exact quot32_109_zero _ _ h0 w
  by_cases h1 : X.toInt = -2 ^ (32 - 1) ∧ Y.toInt = -1
  · rw [show recV 3 X Y = (0, 22) from (if_neg h0).trans (if_pos h1)]
    rw [h1.1, h1.2]
    exact quot32_109_over _ _ (by omega) (by omega) (by omega) (by decide +kernel) w
  · rw [show recV 3 X Y = (X.toInt.tdiv Y.toInt, 0) from (if_neg h0).trans (if_neg h1)]
    obtain ⟨b0, b1, b2⟩ := tdiv_range 2147483648 X.toInt Y.toInt (by omega) (by omega) (by omega) h0 h1
    have e := in32 (X.toInt.tdiv Y.toInt) (by omega) (by omega)
    have h := quot32_109 X.toInt Y.toInt h0 (by rw [e]; rintro ⟨c1, c2, c3⟩; have := b2 c1 c2; omega) w
    rw [e] at h
    exact h
theorem t32_111 (X Y : BitVec 32) (w : World) :
    Calls Tryd.prog 77 #[.int .u8 111, .int .i32 X.toInt, .int .i32 Y.toInt] w fun e w' => e = .returned (.tuple #[.int .i64 (recV 5 X Y).1, .int .i64 (recV 5 X Y).2]) ∧ w' = w := by
  refine two32_111 X.toInt Y.toInt _ _ (fun w => ?_) w
  have hX := toInt_lt32 X
  by_cases h0 : Y.toInt = 0
  · rw [show recV 5 X Y = (0, 21) from if_pos h0]
    exact quot32_111_zero _ _ h0 w
  · rw [show recV 5 X Y = (X.toInt.tmod Y.toInt, 0) from if_neg h0]
    obtain ⟨b0, b1⟩ := tmod_range 2147483648 X.toInt Y.toInt (by omega) (by omega) (by omega)
    exact quot32_111 X.toInt Y.toInt h0 _ rfl (by omega) (by omega) w
theorem t32_110 (X Y : BitVec 32) (w : World) :
    Calls Tryd.prog 77 #[.int .u8 110, .int .i32 X.toInt, .int .i32 Y.toInt] w fun e w' => e = .returned (.tuple #[.int .i64 (recV 4 X Y).1, .int .i64 (recV 4 X Y).2]) ∧ w' = w := by
  by_cases h0 : Y.toInt = 0
  · rw [show recV 4 X Y = (0, 21) from if_pos h0]
    have g := two32_110 X.toInt Y.toInt 0 21 (fun w => by rw [u32_of, u32_of]; exact quotu32_109_zero _ _ (by have := (toNat_zero Y).1 h0; omega) w) w
    rw [show wrap32 0 = 0 from in32 0 (by omega) (by omega)] at g
    exact g
  · rw [show recV 4 X Y = ((X / Y).toInt, 0) from if_neg h0]
    have h := quotu32_109 (X.toNat : Int) (Y.toNat : Int) (by intro h; exact h0 ((toNat_zero Y).2 (by omega))) (by omega) (by have := X.isLt; omega) (by omega)
    have g := two32_110 X.toInt Y.toInt (wrap64 ((X.toNat : Int) / (Y.toNat : Int))) 0 (fun w => by rw [u32_of, u32_of]; exact h w) w
    rw [udiv32] at g
    exact g
theorem t32_112 (X Y : BitVec 32) (w : World) :
    Calls Tryd.prog 77 #[.int .u8 112, .int .i32 X.toInt, .int .i32 Y.toInt] w fun e w' => e = .returned (.tuple #[.int .i64 (recV 6 X Y).1, .int .i64 (recV 6 X Y).2]) ∧ w' = w := by
  by_cases h0 : Y.toInt = 0
  · rw [show recV 6 X Y = (0, 21) from if_pos h0]
    have g := two32_112 X.toInt Y.toInt 0 21 (fun w => by rw [u32_of, u32_of]; exact quotu32_111_zero _ _ (by have := (toNat_zero Y).1 h0; omega) w) w
    rw [show wrap32 0 = 0 from in32 0 (by omega) (by omega)] at g
    exact g
  · rw [show recV 6 X Y = ((X % Y).toInt, 0) from if_neg h0]
    have h := quotu32_111 (X.toNat : Int) (Y.toNat : Int) (by intro h; exact h0 ((toNat_zero Y).2 (by omega))) (by omega) (by have := X.isLt; omega) (by omega)
    have g := two32_112 X.toInt Y.toInt (wrap64 ((X.toNat : Int) % (Y.toNat : Int))) 0 (fun w => by rw [u32_of, u32_of]; exact h w) w
    rw [umod32] at g
    exact g
theorem t32_116 (X Y : BitVec 32) (w : World) :
    Calls Tryd.prog 77 #[.int .u8 116, .int .i32 X.toInt, .int .i32 Y.toInt] w fun e w' => e = .returned (.tuple #[.int .i64 (recV 10 X Y).1, .int .i64 (recV 10 X Y).2]) ∧ w' = w := by
  refine two32_116 X.toInt Y.toInt _ (toInt_lt32 _).1 (toInt_lt32 _).2 (fun w => ?_) w
  have h := move32_116 X.toInt Y.toInt w
  rw [shl32] at h
  exact h
theorem t32_117 (X Y : BitVec 32) (w : World) :
    Calls Tryd.prog 77 #[.int .u8 117, .int .i32 X.toInt, .int .i32 Y.toInt] w fun e w' => e = .returned (.tuple #[.int .i64 (recV 11 X Y).1, .int .i64 (recV 11 X Y).2]) ∧ w' = w := by
  refine two32_117 X.toInt Y.toInt _ (toInt_lt32 _).1 (toInt_lt32 _).2 (fun w => ?_) w
  have h := move32_117 X.toInt Y.toInt w
  rw [sshr32] at h
  exact h
theorem t32_118 (X Y : BitVec 32) (w : World) :
    Calls Tryd.prog 77 #[.int .u8 118, .int .i32 X.toInt, .int .i32 Y.toInt] w fun e w' => e = .returned (.tuple #[.int .i64 (recV 12 X Y).1, .int .i64 (recV 12 X Y).2]) ∧ w' = w := by
  refine two32_118 X.toInt Y.toInt _ (toInt_lt32 _).1 (toInt_lt32 _).2 (fun w => ?_) w
  have h := move32_118 X.toInt Y.toInt w
  rw [ushr32] at h
  exact h
theorem t32_119 (X Y : BitVec 32) (w : World) :
    Calls Tryd.prog 77 #[.int .u8 119, .int .i32 X.toInt, .int .i32 Y.toInt] w fun e w' => e = .returned (.tuple #[.int .i64 (recV 13 X Y).1, .int .i64 (recV 13 X Y).2]) ∧ Below w.heap.size w w' := by
  refine two32_119 X.toInt Y.toInt _ (toInt_lt32 _).1 (toInt_lt32 _).2 (fun w => ?_) w
  have h := move32_119 X.toInt Y.toInt w
  rw [rotl32] at h
  exact h
theorem t32_120 (X Y : BitVec 32) (w : World) :
    Calls Tryd.prog 77 #[.int .u8 120, .int .i32 X.toInt, .int .i32 Y.toInt] w fun e w' => e = .returned (.tuple #[.int .i64 (recV 14 X Y).1, .int .i64 (recV 14 X Y).2]) ∧ Below w.heap.size w w' := by
  refine two32_120 X.toInt Y.toInt _ (toInt_lt32 _).1 (toInt_lt32 _).2 (fun w => ?_) w
  have h := move32_120 X.toInt Y.toInt w
  rw [rotr32] at h
  exact h
theorem t64_70 (X Y : BitVec 64) (w : World) :
    Calls Tryd.prog 76 #[.int .u8 70, .int .i64 X.toInt, .int .i64 Y.toInt] w fun e w' => e = .returned (.tuple #[.int .i64 ((t2i (cmpV 0 X Y), (0 : Int))).1, .int .i64 ((t2i (cmpV 0 X Y), (0 : Int))).2]) ∧ w' = w := by
  have h := two64_70 X.toInt Y.toInt _ (fun w => holds64_70 _ _ w) w
  rw [eq_bv] at h
  exact h
theorem t64_71 (X Y : BitVec 64) (w : World) :
    Calls Tryd.prog 76 #[.int .u8 71, .int .i64 X.toInt, .int .i64 Y.toInt] w fun e w' => e = .returned (.tuple #[.int .i64 ((t2i (cmpV 1 X Y), (0 : Int))).1, .int .i64 ((t2i (cmpV 1 X Y), (0 : Int))).2]) ∧ w' = w := by
  have h := two64_71 X.toInt Y.toInt _ (fun w => holds64_71 _ _ w) w
  rw [eq_bv] at h
  exact h
theorem t64_72 (X Y : BitVec 64) (w : World) :
    Calls Tryd.prog 76 #[.int .u8 72, .int .i64 X.toInt, .int .i64 Y.toInt] w fun e w' => e = .returned (.tuple #[.int .i64 ((t2i (cmpV 2 X Y), (0 : Int))).1, .int .i64 ((t2i (cmpV 2 X Y), (0 : Int))).2]) ∧ w' = w := two64_72 X.toInt Y.toInt _ (fun w => holds64_72 _ _ w) w
theorem t64_74 (X Y : BitVec 64) (w : World) :
    Calls Tryd.prog 76 #[.int .u8 74, .int .i64 X.toInt, .int .i64 Y.toInt] w fun e w' => e = .returned (.tuple #[.int .i64 ((t2i (cmpV 4 X Y), (0 : Int))).1, .int .i64 ((t2i (cmpV 4 X Y), (0 : Int))).2]) ∧ w' = w := two64_74 X.toInt Y.toInt _ (fun w => holds64_74 _ _ w) w
theorem t64_76 (X Y : BitVec 64) (w : World) :
    Calls Tryd.prog 76 #[.int .u8 76, .int .i64 X.toInt, .int .i64 Y.toInt] w fun e w' => e = .returned (.tuple #[.int .i64 ((t2i (cmpV 6 X Y), (0 : Int))).1, .int .i64 ((t2i (cmpV 6 X Y), (0 : Int))).2]) ∧ w' = w := two64_76 X.toInt Y.toInt _ (fun w => holds64_76 _ _ w) w
theorem t64_78 (X Y : BitVec 64) (w : World) :
    Calls Tryd.prog 76 #[.int .u8 78, .int .i64 X.toInt, .int .i64 Y.toInt] w fun e w' => e = .returned (.tuple #[.int .i64 ((t2i (cmpV 8 X Y), (0 : Int))).1, .int .i64 ((t2i (cmpV 8 X Y), (0 : Int))).2]) ∧ w' = w := two64_78 X.toInt Y.toInt _ (fun w => holds64_78 _ _ w) w
theorem t64_73 (X Y : BitVec 64) (w : World) :
    Calls Tryd.prog 76 #[.int .u8 73, .int .i64 X.toInt, .int .i64 Y.toInt] w fun e w' => e = .returned (.tuple #[.int .i64 ((t2i (cmpV 3 X Y), (0 : Int))).1, .int .i64 ((t2i (cmpV 3 X Y), (0 : Int))).2]) ∧ w' = w := by
  refine two64_73 X.toInt Y.toInt _ (fun w => ?_) w
  rw [u64_of, u64_of]
  have h := holdsu64_72 (X.toNat : Int) (Y.toNat : Int) w
  rw [decide_eq_decide.2 Int.ofNat_lt] at h
  exact h
theorem t64_75 (X Y : BitVec 64) (w : World) :
    Calls Tryd.prog 76 #[.int .u8 75, .int .i64 X.toInt, .int .i64 Y.toInt] w fun e w' => e = .returned (.tuple #[.int .i64 ((t2i (cmpV 5 X Y), (0 : Int))).1, .int .i64 ((t2i (cmpV 5 X Y), (0 : Int))).2]) ∧ w' = w := by
  refine two64_75 X.toInt Y.toInt _ (fun w => ?_) w
  rw [u64_of, u64_of]
  have h := holdsu64_74 (X.toNat : Int) (Y.toNat : Int) w
  rw [decide_eq_decide.2 Int.ofNat_lt] at h
  exact h
theorem t64_77 (X Y : BitVec 64) (w : World) :
    Calls Tryd.prog 76 #[.int .u8 77, .int .i64 X.toInt, .int .i64 Y.toInt] w fun e w' => e = .returned (.tuple #[.int .i64 ((t2i (cmpV 7 X Y), (0 : Int))).1, .int .i64 ((t2i (cmpV 7 X Y), (0 : Int))).2]) ∧ w' = w := by
  refine two64_77 X.toInt Y.toInt _ (fun w => ?_) w
  rw [u64_of, u64_of]
  have h := holdsu64_76 (X.toNat : Int) (Y.toNat : Int) w
  rw [decide_eq_decide.2 Int.ofNat_le] at h
  exact h
theorem t64_79 (X Y : BitVec 64) (w : World) :
    Calls Tryd.prog 76 #[.int .u8 79, .int .i64 X.toInt, .int .i64 Y.toInt] w fun e w' => e = .returned (.tuple #[.int .i64 ((t2i (cmpV 9 X Y), (0 : Int))).1, .int .i64 ((t2i (cmpV 9 X Y), (0 : Int))).2]) ∧ w' = w := by
  refine two64_79 X.toInt Y.toInt _ (fun w => ?_) w
  rw [u64_of, u64_of]
  have h := holdsu64_78 (X.toNat : Int) (Y.toNat : Int) w
  rw [decide_eq_decide.2 Int.ofNat_le] at h
  exact h
theorem t64_106 (X Y : BitVec 64) (w : World) :
    Calls Tryd.prog 76 #[.int .u8 106, .int .i64 X.toInt, .int .i64 Y.toInt] w fun e w' => e = .returned (.tuple #[.int .i64 (recV 0 X Y).1, .int .i64 (recV 0 X Y).2]) ∧ w' = w := by
  refine two64_106 X.toInt Y.toInt _ (fun w => ?_) w
  have h := combine64_106 X.toInt Y.toInt w
  rw [of_toInt, of_toInt] at h
  exact h
theorem t64_107 (X Y : BitVec 64) (w : World) :
    Calls Tryd.prog 76 #[.int .u8 107, .int .i64 X.toInt, .int .i64 Y.toInt] w fun e w' => e = .returned (.tuple #[.int .i64 (recV 1 X Y).1, .int .i64 (recV 1 X Y).2]) ∧ w' = w := by
  refine two64_107 X.toInt Y.toInt _ (fun w => ?_) w
  have h := combine64_107 X.toInt Y.toInt w
  rw [of_toInt, of_toInt] at h
  exact h
theorem t64_108 (X Y : BitVec 64) (w : World) :
    Calls Tryd.prog 76 #[.int .u8 108, .int .i64 X.toInt, .int .i64 Y.toInt] w fun e w' => e = .returned (.tuple #[.int .i64 (recV 2 X Y).1, .int .i64 (recV 2 X Y).2]) ∧ w' = w := by
  refine two64_108 X.toInt Y.toInt _ (fun w => ?_) w
  have h := combine64_108 X.toInt Y.toInt w
  rw [of_toInt, of_toInt] at h
  exact h
theorem t64_113 (X Y : BitVec 64) (w : World) :
    Calls Tryd.prog 76 #[.int .u8 113, .int .i64 X.toInt, .int .i64 Y.toInt] w fun e w' => e = .returned (.tuple #[.int .i64 (recV 7 X Y).1, .int .i64 (recV 7 X Y).2]) ∧ w' = w := by
  refine two64_113 X.toInt Y.toInt _ (fun w => ?_) w
  have h := combine64_113 X.toInt Y.toInt w
  rw [of_toInt, of_toInt] at h
  exact h
theorem t64_114 (X Y : BitVec 64) (w : World) :
    Calls Tryd.prog 76 #[.int .u8 114, .int .i64 X.toInt, .int .i64 Y.toInt] w fun e w' => e = .returned (.tuple #[.int .i64 (recV 8 X Y).1, .int .i64 (recV 8 X Y).2]) ∧ w' = w := by
  refine two64_114 X.toInt Y.toInt _ (fun w => ?_) w
  have h := combine64_114 X.toInt Y.toInt w
  rw [of_toInt, of_toInt] at h
  exact h
theorem t64_115 (X Y : BitVec 64) (w : World) :
    Calls Tryd.prog 76 #[.int .u8 115, .int .i64 X.toInt, .int .i64 Y.toInt] w fun e w' => e = .returned (.tuple #[.int .i64 (recV 9 X Y).1, .int .i64 (recV 9 X Y).2]) ∧ w' = w := by
  refine two64_115 X.toInt Y.toInt _ (fun w => ?_) w
  have h := combine64_115 X.toInt Y.toInt w
  rw [of_toInt, of_toInt] at h
  exact h
theorem t64_109 (X Y : BitVec 64) (w : World) :
    Calls Tryd.prog 76 #[.int .u8 109, .int .i64 X.toInt, .int .i64 Y.toInt] w fun e w' => e = .returned (.tuple #[.int .i64 (recV 3 X Y).1, .int .i64 (recV 3 X Y).2]) ∧ w' = w := by
  refine two64_109 X.toInt Y.toInt _ _ (fun w => ?_) w
  have hX := toInt_lt64 X
  by_cases h0 : Y.toInt = 0
  · rw [show recV 3 X Y = (0, 21) from if_pos h0]
    exact quot64_109_zero _ _ h0 w
  by_cases h1 : X.toInt = -2 ^ (64 - 1) ∧ Y.toInt = -1
  · rw [show recV 3 X Y = (0, 22) from (if_neg h0).trans (if_pos h1)]
    rw [h1.1, h1.2]
    exact quot64_109_over _ _ (by omega) (by omega) (by omega) (by decide +kernel) w
  · rw [show recV 3 X Y = (X.toInt.tdiv Y.toInt, 0) from (if_neg h0).trans (if_neg h1)]
    obtain ⟨b0, b1, b2⟩ := tdiv_range 9223372036854775808 X.toInt Y.toInt (by omega) (by omega) (by omega) h0 h1
    have e := in64 (X.toInt.tdiv Y.toInt) (by omega) (by omega)
    have h := quot64_109 X.toInt Y.toInt h0 (by rw [e]; rintro ⟨c1, c2, c3⟩; have := b2 c1 c2; omega) w
    rw [e] at h
    exact h
theorem t64_111 (X Y : BitVec 64) (w : World) :
    Calls Tryd.prog 76 #[.int .u8 111, .int .i64 X.toInt, .int .i64 Y.toInt] w fun e w' => e = .returned (.tuple #[.int .i64 (recV 5 X Y).1, .int .i64 (recV 5 X Y).2]) ∧ w' = w := by
  refine two64_111 X.toInt Y.toInt _ _ (fun w => ?_) w
  have hX := toInt_lt64 X
  by_cases h0 : Y.toInt = 0
  · rw [show recV 5 X Y = (0, 21) from if_pos h0]
    exact quot64_111_zero _ _ h0 w
  · rw [show recV 5 X Y = (X.toInt.tmod Y.toInt, 0) from if_neg h0]
    obtain ⟨b0, b1⟩ := tmod_range 9223372036854775808 X.toInt Y.toInt (by omega) (by omega) (by omega)
    exact quot64_111 X.toInt Y.toInt h0 _ rfl (by omega) (by omega) w
theorem t64_110 (X Y : BitVec 64) (w : World) :
    Calls Tryd.prog 76 #[.int .u8 110, .int .i64 X.toInt, .int .i64 Y.toInt] w fun e w' => e = .returned (.tuple #[.int .i64 (recV 4 X Y).1, .int .i64 (recV 4 X Y).2]) ∧ w' = w := by
  by_cases h0 : Y.toInt = 0
  · rw [show recV 4 X Y = (0, 21) from if_pos h0]
    have g := two64_110 X.toInt Y.toInt 0 21 (fun w => by rw [u64_of, u64_of]; exact quotu64_109_zero _ _ (by have := (toNat_zero Y).1 h0; omega) w) w
    exact g
  · rw [show recV 4 X Y = ((X / Y).toInt, 0) from if_neg h0]
    have h := quotu64_109 (X.toNat : Int) (Y.toNat : Int) (by intro h; exact h0 ((toNat_zero Y).2 (by omega))) (by omega) (by have := X.isLt; omega) (by omega)
    rw [udiv64] at h
    exact two64_110 X.toInt Y.toInt _ _ (fun w => by rw [u64_of, u64_of]; exact h w) w
theorem t64_112 (X Y : BitVec 64) (w : World) :
    Calls Tryd.prog 76 #[.int .u8 112, .int .i64 X.toInt, .int .i64 Y.toInt] w fun e w' => e = .returned (.tuple #[.int .i64 (recV 6 X Y).1, .int .i64 (recV 6 X Y).2]) ∧ w' = w := by
  by_cases h0 : Y.toInt = 0
  · rw [show recV 6 X Y = (0, 21) from if_pos h0]
    have g := two64_112 X.toInt Y.toInt 0 21 (fun w => by rw [u64_of, u64_of]; exact quotu64_111_zero _ _ (by have := (toNat_zero Y).1 h0; omega) w) w
    exact g
  · rw [show recV 6 X Y = ((X % Y).toInt, 0) from if_neg h0]
    have h := quotu64_111 (X.toNat : Int) (Y.toNat : Int) (by intro h; exact h0 ((toNat_zero Y).2 (by omega))) (by omega) (by have := X.isLt; omega) (by omega)
    rw [umod64] at h
    exact two64_112 X.toInt Y.toInt _ _ (fun w => by rw [u64_of, u64_of]; exact h w) w
theorem t64_116 (X Y : BitVec 64) (w : World) :
    Calls Tryd.prog 76 #[.int .u8 116, .int .i64 X.toInt, .int .i64 Y.toInt] w fun e w' => e = .returned (.tuple #[.int .i64 (recV 10 X Y).1, .int .i64 (recV 10 X Y).2]) ∧ w' = w := by
  refine two64_116 X.toInt Y.toInt _ (fun w => ?_) w
  have h := move64_116 X.toInt Y.toInt (Y.toNat : Int) (X.toNat : Int) (u64_of Y) (u64_of X) (by omega) (by have := Y.isLt; omega) (by omega) (by have := X.isLt; omega) w
  rw [shl64] at h
  exact h
theorem t64_117 (X Y : BitVec 64) (w : World) :
    Calls Tryd.prog 76 #[.int .u8 117, .int .i64 X.toInt, .int .i64 Y.toInt] w fun e w' => e = .returned (.tuple #[.int .i64 (recV 11 X Y).1, .int .i64 (recV 11 X Y).2]) ∧ w' = w := by
  refine two64_117 X.toInt Y.toInt _ (fun w => ?_) w
  have h := move64_117 X.toInt Y.toInt (Y.toNat : Int) (X.toNat : Int) (u64_of Y) (u64_of X) (by omega) (by have := Y.isLt; omega) (by omega) (by have := X.isLt; omega) w
  rw [sshr64] at h
  exact h
theorem t64_118 (X Y : BitVec 64) (w : World) :
    Calls Tryd.prog 76 #[.int .u8 118, .int .i64 X.toInt, .int .i64 Y.toInt] w fun e w' => e = .returned (.tuple #[.int .i64 (recV 12 X Y).1, .int .i64 (recV 12 X Y).2]) ∧ w' = w := by
  refine two64_118 X.toInt Y.toInt _ (fun w => ?_) w
  have h := move64_118 X.toInt Y.toInt (Y.toNat : Int) (X.toNat : Int) (u64_of Y) (u64_of X) (by omega) (by have := Y.isLt; omega) (by omega) (by have := X.isLt; omega) w
  rw [ushr64] at h
  exact h
theorem t64_119 (X Y : BitVec 64) (w : World) :
    Calls Tryd.prog 76 #[.int .u8 119, .int .i64 X.toInt, .int .i64 Y.toInt] w fun e w' => e = .returned (.tuple #[.int .i64 (recV 13 X Y).1, .int .i64 (recV 13 X Y).2]) ∧ Below w.heap.size w w' := by
  refine two64_119 X.toInt Y.toInt _ (fun w => ?_) w
  have h := move64_119 X.toInt Y.toInt (Y.toNat : Int) (X.toNat : Int) (u64_of Y) (u64_of X) (by omega) (by have := Y.isLt; omega) (by omega) (by have := X.isLt; omega) w
  rw [rotl64] at h
  exact h
theorem t64_120 (X Y : BitVec 64) (w : World) :
    Calls Tryd.prog 76 #[.int .u8 120, .int .i64 X.toInt, .int .i64 Y.toInt] w fun e w' => e = .returned (.tuple #[.int .i64 (recV 14 X Y).1, .int .i64 (recV 14 X Y).2]) ∧ Below w.heap.size w w' := by
  refine two64_120 X.toInt Y.toInt _ (fun w => ?_) w
  have h := move64_120 X.toInt Y.toInt (Y.toNat : Int) (X.toNat : Int) (u64_of Y) (u64_of X) (by omega) (by have := Y.isLt; omega) (by omega) (by have := X.isLt; omega) w
  rw [rotr64] at h
  exact h
end Go.Proofs.YtdbhdgkbkhjikaaDoor
