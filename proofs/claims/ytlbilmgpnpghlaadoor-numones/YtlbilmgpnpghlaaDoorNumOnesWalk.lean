/-
  The law of the instructions of one number: its walk.
-/
import Derived.Test.YtlbilmgpnpghlaaDoorOne
import Derived.Test.YtlbilmgpnpghlaaDoorCntMaths
import Derived.Test.YtlbilmgpnpghlaaDoorPFit
import Derived.OpenShut
namespace Go.Proofs.YtlbilmgpnpghlaaDoor
open Go.RowKit

set_option maxHeartbeats 4000000 in
set_option maxRecDepth 1000000 in
theorem numOnes_core (op a k R E F : Int) (w : World) (HP : Hid (Calls Tryd.prog 5 #[.int .u8 op, .int .i64 a] w fun e w' => e = .returned (.tuple #[.int .i64 R, .int .i64 E]) ∧ w' = w)) (HR : Hid (∀ w, Calls Tryd.prog 6 #[.int .u8 op, .int .i64 a] w fun e w' => e = .returned (.tuple #[.int .i64 R, .int .i64 E]) ∧ Below w.heap.size w w')) (HF : Hid (∀ w, Calls Tryd.prog 7 #[.int .u8 k, .int .i64 a] w fun e w' => e = .returned (.int .i64 F) ∧ w' = w)) (HG : Hid (∀ w, Calls Tryd.prog 8 #[.int .u8 k, .int .i64 a] w fun e w' => e = .returned (.int .i64 F) ∧ Below w.heap.size w w')) :
    Calls Tryd.prog 3 #[.int .u8 op, .int .i64 a, .int .u8 k] w fun e w' => e = .returned (.bool true) ∧ Below w.heap.size w w' := by
  go_enter Tryd.func3, Tryd.ntmps3
  go_wp2_with fail
  refine HP.out.mono ?_
  rintro e w1 ⟨rfl, rfl⟩
  go_wp2_with fail
  refine (HR.out _).mono ?_
  rintro e w2 ⟨rfl, b2⟩
  go_wp2_with fail
  refine (HF.out _).mono ?_
  rintro e w3 ⟨rfl, rfl⟩
  go_wp2_with fail
  refine (HG.out _).mono ?_
  rintro e w4 ⟨rfl, b4⟩
  go_wp2
  go_ret
  exact ⟨rfl, b2.trans (b4.mono b2.size)⟩
theorem lnat_cut (a : Int) (W : Nat) : lnat (wordB a W) = cutN W a := by
  have := lnat_word a W
  unfold cutN
  rw [← this]; rfl
theorem zero_is (a : Int) (W : Nat) : t2i (decide (cutN W a = 0)) = b2i ((wordB a W).all (! ·)) := by
  rw [all_zero, lnat_cut]; rfl
theorem high_is (a : Int) (W : Nat) (h : W ≤ 64) : (W : Int) - (Lib.bitLen (cutN W a) : Int) = (tz (wordB a W).reverse : Int) := by
  have := tz_high (wordB a W) (by rw [wordB_length]; exact h)
  rw [wordB_length, lnat_cut] at this
  exact this.symm
theorem low_is (a : Int) (W : Nat) (h : W ≤ 64) : min (W : Int) (Lib.ctz 64 (cutN W a) : Int) = (tz (wordB a W) : Int) := by
  have := tz_low (wordB a W) (by rw [wordB_length]; exact h)
  rw [wordB_length, lnat_cut] at this
  exact this.symm
theorem ones_is (a : Int) (W : Nat) (h : W ≤ 64) : (popN 64 (cutN W a) : Int) = (ones (wordB a W) : Int) := by
  have := ones_pop (wordB a W)
  have hl := lnat_lt (wordB a W)
  rw [wordB_length, lnat_cut] at this hl
  rw [popN_more W 64 _ hl h, this]
theorem cut_is (a : Int) (W : Nat) (h : 1 ≤ W) : cutS a W = wval (wordB a W) - (if bitAt a (W - 1) then 2 ^ W else 0) := by
  unfold cutS wsgn
  rw [wordB_length, wordB_get a W (W - 1) (by omega)]
theorem cut8_is (a : Int) : cutI 8 a = cutS a 8 := by
  rw [cut_is a 8 (by omega), wval_word]
  unfold cutI bitAt
  simp only [Nat.add_one_sub_one]
  by_cases h : a / 128 % 2 = 1
  · simp only [show a / 2 ^ 7 % 2 = a / 128 % 2 from rfl, h, beq_self_eq_true, if_true]; omega
  · have h2 : (a / 2 ^ 7 % 2 == 1) = false := by rw [beq_eq_false_iff_ne]; exact h
    simp only [h2, Bool.false_eq_true, if_false]; omega
theorem cut16_is (a : Int) : cutI 16 a = cutS a 16 := by
  rw [cut_is a 16 (by omega), wval_word]
  unfold cutI bitAt
  simp only [Nat.add_one_sub_one]
  by_cases h : a / 32768 % 2 = 1
  · simp only [show a / 2 ^ 15 % 2 = a / 32768 % 2 from rfl, h, beq_self_eq_true, if_true]; omega
  · have h2 : (a / 2 ^ 15 % 2 == 1) = false := by rw [beq_eq_false_iff_ne]; exact h
    simp only [h2, Bool.false_eq_true, if_false]; omega
theorem cut32_is (a : Int) : wrap32 a = cutS a 32 := by
  rw [cut_is a 32 (by omega), wval_word]
  unfold wrap32 bitAt
  simp only [Nat.add_one_sub_one]
  by_cases h : a / 2147483648 % 2 = 1
  · simp only [show a / 2 ^ 31 % 2 = a / 2147483648 % 2 from rfl, h, beq_self_eq_true, if_true]; omega
  · have h2 : (a / 2 ^ 31 % 2 == 1) = false := by rw [beq_eq_false_iff_ne]; exact h
    simp only [h2, Bool.false_eq_true, if_false]; omega
/-- The program's own One, in the document's words. -/
theorem pone_doc (op a : Int) (h0 : 0 ≤ op) (h1 : op ≤ 255) (w : World) (hT : TabIn w) :
    Calls Tryd.prog 5 #[.int .u8 op, .int .i64 a] w fun e w' => e = .returned (.tuple #[.int .i64 ((oneV op a).getD 0), .int .i64 (if (oneV op a).isSome then 0 else 6)]) ∧ w' = w := by
  by_cases h69 : op = 69
  · subst h69
    refine (pone_69 a w).mono ?_
    rintro e w1 ⟨rfl, rfl⟩
    exact r2w (zero_is a 32) rfl
  by_cases h80 : op = 80
  · subst h80
    refine (pone_80 a w).mono ?_
    rintro e w1 ⟨rfl, rfl⟩
    exact r2w (zero_is a 64) rfl
  by_cases h103 : op = 103
  · subst h103
    refine (pone_103 a w).mono ?_
    rintro e w1 ⟨rfl, rfl⟩
    exact r2w (high_is a 32 (by omega)) rfl
  by_cases h121 : op = 121
  · subst h121
    refine (pone_121 a w).mono ?_
    rintro e w1 ⟨rfl, rfl⟩
    exact r2w (high_is a 64 (by omega)) rfl
  by_cases h104 : op = 104
  · subst h104
    refine (pone_104 a w hT).mono ?_
    rintro e w1 ⟨rfl, rfl⟩
    exact r2w (low_is a 32 (by omega)) rfl
  by_cases h122 : op = 122
  · subst h122
    refine (pone_122 a w hT).mono ?_
    rintro e w1 ⟨rfl, rfl⟩
    exact r2w (low_is a 64 (by omega)) rfl
  by_cases h105 : op = 105
  · subst h105
    refine (pone_105 a w).mono ?_
    rintro e w1 ⟨rfl, rfl⟩
    exact r2w (ones_is a 32 (by omega)) rfl
  by_cases h123 : op = 123
  · subst h123
    refine (pone_123 a w).mono ?_
    rintro e w1 ⟨rfl, rfl⟩
    exact r2w (ones_is a 64 (by omega)) rfl
  by_cases h192 : op = 192
  · subst h192
    refine (pone_192 a w).mono ?_
    rintro e w1 ⟨rfl, rfl⟩
    exact r2w (cut8_is a) rfl
  by_cases h194 : op = 194
  · subst h194
    refine (pone_194 a w).mono ?_
    rintro e w1 ⟨rfl, rfl⟩
    exact r2w (cut8_is a) rfl
  by_cases h193 : op = 193
  · subst h193
    refine (pone_193 a w).mono ?_
    rintro e w1 ⟨rfl, rfl⟩
    exact r2w (cut16_is a) rfl
  by_cases h195 : op = 195
  · subst h195
    refine (pone_195 a w).mono ?_
    rintro e w1 ⟨rfl, rfl⟩
    exact r2w (cut16_is a) rfl
  by_cases h167 : op = 167
  · subst h167
    refine (pone_167 a w).mono ?_
    rintro e w1 ⟨rfl, rfl⟩
    exact r2w (cut32_is a) rfl
  by_cases h172 : op = 172
  · subst h172
    refine (pone_172 a w).mono ?_
    rintro e w1 ⟨rfl, rfl⟩
    exact r2w (cut32_is a) rfl
  by_cases h196 : op = 196
  · subst h196
    refine (pone_196 a w).mono ?_
    rintro e w1 ⟨rfl, rfl⟩
    exact r2w (cut32_is a) rfl
  by_cases h173 : op = 173
  · subst h173
    exact pone_173 a w
  have e : oneV op a = none := by unfold oneV; simp only [h69, h80, h103, h121, h104, h122, h105, h123, h192, h194, h193, h195, h167, h172, h196, h173, if_false]
  rw [e]
  refine pone_no op a h0 h1 ?_ w
  simp only [isOne, Bool.or_eq_false_iff, Bool.and_eq_false_iff, beq_eq_false_iff_ne, decide_eq_false_iff_not]
  omega
theorem numOnes_walk (a0 : Int) (a1 : Int) (a2 : Int) (w0 : (Lit.int .u8 a0).wf = true) (_w1 : (Lit.int .i64 a1).wf = true) (_w2 : (Lit.int .u8 a2).wf = true) (w : World) (hT : TabIn w) :
    Calls Tryd.prog 3 #[.int .u8 a0, .int .i64 a1, .int .u8 a2] w fun e w' => e = .returned (.bool true) ∧ Below w.heap.size w w' := by
  have hb : 0 ≤ a0 ∧ a0 ≤ 255 := bounds_u8 w0
  refine numOnes_core a0 a1 a2 _ _ (if a2 = 127 then cutS a1 32 else a1) w (pone_doc a0 a1 hb.1 hb.2 w hT) (fun w => refOne_any a0 a1 w) (fun w => ?_) (fun w => refFit_any a2 a1 w)
  by_cases hk : a2 = 127
  · subst hk
    rw [if_pos rfl, ← cut32_is]
    exact pfit_32 a1 w
  · rw [if_neg hk]
    exact pfit_else a2 a1 (by rw [beq_eq_false_iff_ne]; exact hk) w

end Go.Proofs.YtlbilmgpnpghlaaDoor
