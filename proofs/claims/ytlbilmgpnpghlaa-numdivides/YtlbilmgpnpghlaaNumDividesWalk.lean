/-
  The law of quotients with signs: its walk.
-/
import Derived.Test.YtlbilmgpnpghlaaDivCore
import Derived.OpenShut
namespace Go.Proofs.Ytlbilmgpnpghlaa
open Go.RowKit

theorem divEq32 (A B : BitVec 32) (a0 b0 : Int) (ha : fitW false a0 = A.toInt) (hb : fitW false b0 = B.toInt) (w : World) :
    Calls Try.prog 6 #[.int .i64 a0, .int .i64 b0, .bool false] w fun e w' => e = .returned (.bool true) ∧ Below w.heap.size w w' := by
  have hA := toInt_lt32 A
  have hB := toInt_lt32 B
  have HQ : ∀ w, Calls Try.prog 7 #[.int .u8 109, .int .i64 A.toInt, .int .i64 B.toInt] w fun e w' => e = .returned (.tuple #[.int .i64 (recV 3 A B).1, .int .i64 (recV 3 A B).2]) ∧ w' = w := by
    intro w
    have h := num_109 A.toInt B.toInt  w
    rw [of_toInt, of_toInt] at h
    exact h
  have HM : ∀ w, Calls Try.prog 7 #[.int .u8 111, .int .i64 A.toInt, .int .i64 B.toInt] w fun e w' => e = .returned (.tuple #[.int .i64 (recV 5 A B).1, .int .i64 (recV 5 A B).2]) ∧ w' = w := by
    intro w
    have h := num_111 A.toInt B.toInt  w
    rw [of_toInt, of_toInt] at h
    exact h
  by_cases h0 : B.toInt = 0
  · rw [show recV 3 A B = (0, 21) from if_pos h0, h0] at HQ
    rw [show recV 5 A B = (0, 21) from if_pos h0, h0] at HM
    exact div_zero32 A.toInt a0 b0 ha (by rw [hb, h0]; rfl) (fun w => kwidth_n 109 w) (fun w => kwidth_n 111 w) HQ HM w
  by_cases h1 : A.toInt = -2 ^ (32 - 1) ∧ B.toInt = -1
  · have e1 : A.toInt = -2147483648 := h1.1
    have e2 : A.toInt.tmod B.toInt = 0 := by rw [e1, h1.2]; decide
    rw [show recV 3 A B = (0, 22) from (if_neg h0).trans (if_pos h1), e1, h1.2] at HQ
    rw [show recV 5 A B = (A.toInt.tmod B.toInt, 0) from if_neg h0, e2, e1, h1.2] at HM
    exact div_over32 a0 b0 (by rw [ha, e1]; rfl) (by rw [hb, h1.2]; rfl) (fun w => kwidth_n 109 w) (fun w => kwidth_n 111 w) HQ HM w
  · rw [show recV 3 A B = (A.toInt.tdiv B.toInt, 0) from (if_neg h0).trans (if_neg h1)] at HQ
    rw [show recV 5 A B = (A.toInt.tmod B.toInt, 0) from if_neg h0] at HM
    obtain ⟨q0, q1, _⟩ := tdiv_range 2147483648 A.toInt B.toInt (by omega) (by omega) (by omega) h0 h1
    obtain ⟨r0, r1⟩ := tmod_range 2147483648 A.toInt B.toInt (by omega) (by omega) (by omega)
    have hab := Int.mul_tdiv_add_tmod A.toInt B.toInt
    have hlt : (A.toInt.tmod B.toInt).natAbs < B.toInt.natAbs := by
      rw [Int.natAbs_tmod]
      exact Nat.mod_lt _ (by omega)
    have hsgn : A.toInt.tmod B.toInt = 0 ∨ (A.toInt.tmod B.toInt < 0 ∧ A.toInt < 0) ∨ (0 < A.toInt.tmod B.toInt ∧ 0 ≤ A.toInt) := by
      by_cases h : 0 ≤ A.toInt
      · have := Int.tmod_nonneg B.toInt h
        omega
      · have := Int.tmod_nonneg (a := -A.toInt) B.toInt (by omega)
        rw [Int.neg_tmod] at this
        omega
    generalize A.toInt.tdiv B.toInt = q at *
    generalize A.toInt.tmod B.toInt = r at *
    have HTm : ∀ w, Calls Try.prog 11 #[.int .u8 108, .int .i64 q, .int .i64 B.toInt] w fun e w' => e = .returned (.int .i64 (BitVec.ofInt 32 q * BitVec.ofInt 32 B.toInt).toInt) ∧ w' = w := fun w => ktwo 108 q B.toInt _ _ (fun w w' => w' = w) (fun w => num_108 q B.toInt  w) w
    have hm := toInt_lt32 (BitVec.ofInt 32 q * BitVec.ofInt 32 B.toInt)
    have hs : (BitVec.ofInt 32 (BitVec.ofInt 32 q * BitVec.ofInt 32 B.toInt).toInt + BitVec.ofInt 32 r).toInt = A.toInt := by
      rw [of_toInt, ← BitVec.ofInt_mul, ← BitVec.ofInt_add, Int.mul_comm q, hab, of_toInt]
    generalize (BitVec.ofInt 32 q * BitVec.ofInt 32 B.toInt).toInt = m at *
    have HTa : ∀ w, Calls Try.prog 11 #[.int .u8 106, .int .i64 m, .int .i64 r] w fun e w' => e = .returned (.int .i64 A.toInt) ∧ w' = w := fun w => by
      rw [← hs]
      exact ktwo 106 m r _ _ (fun w w' => w' = w) (fun w => num_106 m r  w) w
    have HSr := size_abs r (by unfold R64; omega)
    have HSb := size_abs B.toInt (by unfold R64; omega)
    have hb0 : (B.toInt == 0) = false := by rw [beq_eq_false_iff_ne]; exact h0
    have hl2 : (r.natAbs : Int) < (B.toInt.natAbs : Int) := by omega
    by_cases ca : A.toInt = -2147483648
    · have n1 : (A.toInt == -2147483648) = true := by rw [beq_iff_eq]; exact ca
      have n2 : (B.toInt == -1) = false := by rw [beq_eq_false_iff_ne]; intro h; exact h1 ⟨ca, h⟩
      rcases hsgn with hr | hr | hr
      · subst hr
        exact div_norm32_bz _ _ _ _ _ _ a0 b0 ha hb (fun w => kwidth_n 109 w) (fun w => kwidth_n 111 w) HQ HM (fun w => kwidth_n 106 w) (fun w => kwidth_n 108 w) HTm HTa HSr HSb hl2 hb0 n1 n2 w
      · exact div_norm32_bn _ _ _ _ _ _ _ a0 b0 ha hb (fun w => kwidth_n 109 w) (fun w => kwidth_n 111 w) HQ HM (fun w => kwidth_n 106 w) (fun w => kwidth_n 108 w) HTm HTa HSr HSb hl2 hb0 n1 n2 (by rw [beq_eq_false_iff_ne]; omega) hr.1 hr.2 w
      · exact div_norm32_bp _ _ _ _ _ _ _ a0 b0 ha hb (fun w => kwidth_n 109 w) (fun w => kwidth_n 111 w) HQ HM (fun w => kwidth_n 106 w) (fun w => kwidth_n 108 w) HTm HTa HSr HSb hl2 hb0 n1 n2 (by rw [beq_eq_false_iff_ne]; omega) hr.1 hr.2 w
    · have n1 : (A.toInt == -2147483648) = false := by rw [beq_eq_false_iff_ne]; exact ca
      rcases hsgn with hr | hr | hr
      · subst hr
        exact div_norm32_az _ _ _ _ _ _ a0 b0 ha hb (fun w => kwidth_n 109 w) (fun w => kwidth_n 111 w) HQ HM (fun w => kwidth_n 106 w) (fun w => kwidth_n 108 w) HTm HTa HSr HSb hl2 hb0 n1 w
      · exact div_norm32_an _ _ _ _ _ _ _ a0 b0 ha hb (fun w => kwidth_n 109 w) (fun w => kwidth_n 111 w) HQ HM (fun w => kwidth_n 106 w) (fun w => kwidth_n 108 w) HTm HTa HSr HSb hl2 hb0 n1 (by rw [beq_eq_false_iff_ne]; omega) hr.1 hr.2 w
      · exact div_norm32_ap _ _ _ _ _ _ _ a0 b0 ha hb (fun w => kwidth_n 109 w) (fun w => kwidth_n 111 w) HQ HM (fun w => kwidth_n 106 w) (fun w => kwidth_n 108 w) HTm HTa HSr HSb hl2 hb0 n1 (by rw [beq_eq_false_iff_ne]; omega) hr.1 hr.2 w
theorem divEq64 (A B : BitVec 64) (a0 b0 : Int) (ha : fitW true a0 = A.toInt) (hb : fitW true b0 = B.toInt) (w : World) :
    Calls Try.prog 6 #[.int .i64 a0, .int .i64 b0, .bool true] w fun e w' => e = .returned (.bool true) ∧ Below w.heap.size w w' := by
  have hA := toInt_lt64 A
  have hB := toInt_lt64 B
  have HQ : ∀ w, Calls Try.prog 7 #[.int .u8 127, .int .i64 A.toInt, .int .i64 B.toInt] w fun e w' => e = .returned (.tuple #[.int .i64 (recV 3 A B).1, .int .i64 (recV 3 A B).2]) ∧ w' = w := by
    intro w
    have h := num_127 A.toInt B.toInt (by omega) (by omega) w
    rw [of_toInt, of_toInt] at h
    exact h
  have HM : ∀ w, Calls Try.prog 7 #[.int .u8 129, .int .i64 A.toInt, .int .i64 B.toInt] w fun e w' => e = .returned (.tuple #[.int .i64 (recV 5 A B).1, .int .i64 (recV 5 A B).2]) ∧ w' = w := by
    intro w
    have h := num_129 A.toInt B.toInt (by omega) (by omega) w
    rw [of_toInt, of_toInt] at h
    exact h
  by_cases h0 : B.toInt = 0
  · rw [show recV 3 A B = (0, 21) from if_pos h0, h0] at HQ
    rw [show recV 5 A B = (0, 21) from if_pos h0, h0] at HM
    exact div_zero64 A.toInt a0 b0 ha (by rw [hb, h0]; rfl) (fun w => kwidth_b 109 (by omega) (by omega) w) (fun w => kwidth_b 111 (by omega) (by omega) w) HQ HM w
  by_cases h1 : A.toInt = -2 ^ (64 - 1) ∧ B.toInt = -1
  · have e1 : A.toInt = -9223372036854775808 := h1.1
    have e2 : A.toInt.tmod B.toInt = 0 := by rw [e1, h1.2]; decide
    rw [show recV 3 A B = (0, 22) from (if_neg h0).trans (if_pos h1), e1, h1.2] at HQ
    rw [show recV 5 A B = (A.toInt.tmod B.toInt, 0) from if_neg h0, e2, e1, h1.2] at HM
    exact div_over64 a0 b0 (by rw [ha, e1]; rfl) (by rw [hb, h1.2]; rfl) (fun w => kwidth_b 109 (by omega) (by omega) w) (fun w => kwidth_b 111 (by omega) (by omega) w) HQ HM w
  · rw [show recV 3 A B = (A.toInt.tdiv B.toInt, 0) from (if_neg h0).trans (if_neg h1)] at HQ
    rw [show recV 5 A B = (A.toInt.tmod B.toInt, 0) from if_neg h0] at HM
    obtain ⟨q0, q1, _⟩ := tdiv_range 9223372036854775808 A.toInt B.toInt (by omega) (by omega) (by omega) h0 h1
    obtain ⟨r0, r1⟩ := tmod_range 9223372036854775808 A.toInt B.toInt (by omega) (by omega) (by omega)
    have hab := Int.mul_tdiv_add_tmod A.toInt B.toInt
    have hlt : (A.toInt.tmod B.toInt).natAbs < B.toInt.natAbs := by
      rw [Int.natAbs_tmod]
      exact Nat.mod_lt _ (by omega)
    have hsgn : A.toInt.tmod B.toInt = 0 ∨ (A.toInt.tmod B.toInt < 0 ∧ A.toInt < 0) ∨ (0 < A.toInt.tmod B.toInt ∧ 0 ≤ A.toInt) := by
      by_cases h : 0 ≤ A.toInt
      · have := Int.tmod_nonneg B.toInt h
        omega
      · have := Int.tmod_nonneg (a := -A.toInt) B.toInt (by omega)
        rw [Int.neg_tmod] at this
        omega
    generalize A.toInt.tdiv B.toInt = q at *
    generalize A.toInt.tmod B.toInt = r at *
    have HTm : ∀ w, Calls Try.prog 11 #[.int .u8 126, .int .i64 q, .int .i64 B.toInt] w fun e w' => e = .returned (.int .i64 (BitVec.ofInt 64 q * BitVec.ofInt 64 B.toInt).toInt) ∧ w' = w := fun w => ktwo 126 q B.toInt _ _ (fun w w' => w' = w) (fun w => num_126 q B.toInt (by omega) (by omega) w) w
    have hm := toInt_lt64 (BitVec.ofInt 64 q * BitVec.ofInt 64 B.toInt)
    have hs : (BitVec.ofInt 64 (BitVec.ofInt 64 q * BitVec.ofInt 64 B.toInt).toInt + BitVec.ofInt 64 r).toInt = A.toInt := by
      rw [of_toInt, ← BitVec.ofInt_mul, ← BitVec.ofInt_add, Int.mul_comm q, hab, of_toInt]
    generalize (BitVec.ofInt 64 q * BitVec.ofInt 64 B.toInt).toInt = m at *
    have HTa : ∀ w, Calls Try.prog 11 #[.int .u8 124, .int .i64 m, .int .i64 r] w fun e w' => e = .returned (.int .i64 A.toInt) ∧ w' = w := fun w => by
      rw [← hs]
      exact ktwo 124 m r _ _ (fun w w' => w' = w) (fun w => num_124 m r (by omega) (by omega) w) w
    have HSr := size_abs r (by unfold R64; omega)
    have HSb := size_abs B.toInt (by unfold R64; omega)
    have hb0 : (B.toInt == 0) = false := by rw [beq_eq_false_iff_ne]; exact h0
    have hl2 : (r.natAbs : Int) < (B.toInt.natAbs : Int) := by omega
    by_cases ca : A.toInt = -9223372036854775808
    · have n1 : (A.toInt == -9223372036854775808) = true := by rw [beq_iff_eq]; exact ca
      have n2 : (B.toInt == -1) = false := by rw [beq_eq_false_iff_ne]; intro h; exact h1 ⟨ca, h⟩
      rcases hsgn with hr | hr | hr
      · subst hr
        exact div_norm64_bz _ _ _ _ _ _ a0 b0 ha hb (fun w => kwidth_b 109 (by omega) (by omega) w) (fun w => kwidth_b 111 (by omega) (by omega) w) HQ HM (fun w => kwidth_b 106 (by omega) (by omega) w) (fun w => kwidth_b 108 (by omega) (by omega) w) HTm HTa HSr HSb hl2 hb0 n1 n2 w
      · exact div_norm64_bn _ _ _ _ _ _ _ a0 b0 ha hb (fun w => kwidth_b 109 (by omega) (by omega) w) (fun w => kwidth_b 111 (by omega) (by omega) w) HQ HM (fun w => kwidth_b 106 (by omega) (by omega) w) (fun w => kwidth_b 108 (by omega) (by omega) w) HTm HTa HSr HSb hl2 hb0 n1 n2 (by rw [beq_eq_false_iff_ne]; omega) hr.1 hr.2 w
      · exact div_norm64_bp _ _ _ _ _ _ _ a0 b0 ha hb (fun w => kwidth_b 109 (by omega) (by omega) w) (fun w => kwidth_b 111 (by omega) (by omega) w) HQ HM (fun w => kwidth_b 106 (by omega) (by omega) w) (fun w => kwidth_b 108 (by omega) (by omega) w) HTm HTa HSr HSb hl2 hb0 n1 n2 (by rw [beq_eq_false_iff_ne]; omega) hr.1 hr.2 w
    · have n1 : (A.toInt == -9223372036854775808) = false := by rw [beq_eq_false_iff_ne]; exact ca
      rcases hsgn with hr | hr | hr
      · subst hr
        exact div_norm64_az _ _ _ _ _ _ a0 b0 ha hb (fun w => kwidth_b 109 (by omega) (by omega) w) (fun w => kwidth_b 111 (by omega) (by omega) w) HQ HM (fun w => kwidth_b 106 (by omega) (by omega) w) (fun w => kwidth_b 108 (by omega) (by omega) w) HTm HTa HSr HSb hl2 hb0 n1 w
      · exact div_norm64_an _ _ _ _ _ _ _ a0 b0 ha hb (fun w => kwidth_b 109 (by omega) (by omega) w) (fun w => kwidth_b 111 (by omega) (by omega) w) HQ HM (fun w => kwidth_b 106 (by omega) (by omega) w) (fun w => kwidth_b 108 (by omega) (by omega) w) HTm HTa HSr HSb hl2 hb0 n1 (by rw [beq_eq_false_iff_ne]; omega) hr.1 hr.2 w
      · exact div_norm64_ap _ _ _ _ _ _ _ a0 b0 ha hb (fun w => kwidth_b 109 (by omega) (by omega) w) (fun w => kwidth_b 111 (by omega) (by omega) w) HQ HM (fun w => kwidth_b 106 (by omega) (by omega) w) (fun w => kwidth_b 108 (by omega) (by omega) w) HTm HTa HSr HSb hl2 hb0 n1 (by rw [beq_eq_false_iff_ne]; omega) hr.1 hr.2 w
theorem numDivides_walk (a0 : Int) (a1 : Int) (a2 : Bool) (w0 : (Lit.int .i64 a0).wf = true) (w1 : (Lit.int .i64 a1).wf = true) (w : World) :
    Calls Try.prog 6 #[.int .i64 a0, .int .i64 a1, .bool a2] w fun e w' => e = .returned (.bool true) ∧ Below w.heap.size w w' := by
  cases a2 with
  | false => exact divEq32 (BitVec.ofInt 32 a0) (BitVec.ofInt 32 a1) a0 a1 (w32_bv _) (w32_bv _) w
  | true => exact divEq64 (BitVec.ofInt 64 a0) (BitVec.ofInt 64 a1) a0 a1 (of64_toInt a0 (bounds_i64 w0)).symm (of64_toInt a1 (bounds_i64 w1)).symm w

end Go.Proofs.Ytlbilmgpnpghlaa
