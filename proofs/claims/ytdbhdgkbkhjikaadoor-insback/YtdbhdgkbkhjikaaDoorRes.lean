/-
  What ReadU and ReadS can answer: an error, or a number whose shortest bytes are no more than were read.
-/
import Derived.Test.YtdbhdgkbkhjikaaDoorReads
import Derived.Test.YtdbhdgkbkhjikaaDoorStrs
namespace Go.Proofs.YtdbhdgkbkhjikaaDoor
open Go.RowKit

theorem resU (B : Int) (hB : B = 32 ∨ B = 64) (l : List Int) (hl : ∀ b ∈ l, 0 ≤ b ∧ b < 256) :
    (∃ e : Int, (e != 0) = true ∧ rU B l = (0, 0, e)) ∨ ∃ m k : Nat, m ≤ 18446744073709551615 ∧ (uB m).length ≤ k ∧ k ≤ l.length ∧ rU B l = ((m : Int), (k : Int), 0) := by
  have hb := rU_bound B l hl
  have hu : rU B l = rdl fitU B l 0 0 := by rw [rU, if_pos hB]
  rcases rdl_all fitU B hB l hl with h | h | ⟨f, b, t, e, hf, hb0, hb1, h1, h2, h⟩
  · left; exact ⟨3, rfl, by rw [hu, h]⟩
  · left; exact ⟨4, rfl, by rw [hu, h]⟩
  · right
    rw [hu, h] at hb
    have hv := val_bound (f ++ [b])
    rw [List.length_append, List.length_singleton] at hv
    refine ⟨(val (f ++ [b])).toNat, f.length + 1, by omega, uB_len _ _ ?_, ?_, ?_⟩
    · have : ((val (f ++ [b])).toNat : Int) < (128 ^ (f.length + 1) : Nat) := by
        rw [Int.toNat_of_nonneg hv.1, Int.natCast_pow]; exact hv.2
      omega
    · rw [e, List.length_append, List.length_cons]; omega
    · rw [hu, h, Int.toNat_of_nonneg hv.1]; rfl

theorem resS (B : Int) (hB : B = 32 ∨ B = 64) (l : List Int) (hl : ∀ b ∈ l, 0 ≤ b ∧ b < 256) :
    (∃ e : Int, (e != 0) = true ∧ rS B l = (0, 0, e)) ∨ ∃ n : Int, ∃ k : Nat, -9223372036854775808 ≤ n ∧ n ≤ 9223372036854775807 ∧ (sB n).length ≤ k ∧ k ≤ l.length ∧ rS B l = (n, (k : Int), 0) := by
  rcases rdl_all fitS B hB l hl with h | h | ⟨f, b, t, e, hf, hb0, hb1, h1, h2, h⟩
  · left; exact ⟨3, rfl, by rw [rS, if_pos hB, h]; simp⟩
  · left; exact ⟨4, rfl, by rw [rS, if_pos hB, h]; simp⟩
  · right
    have hv := val_bound f
    have hl9 : f.length ≤ 9 := by omega
    have e2 : l.getD f.length 0 = b := by rw [e]; simp
    have e0 : ((f.length : Int) + 1 - 1).toNat = f.length := by omega
    have e1 : ((f.length : Int) + 1).toNat = f.length + 1 := by omega
    have hp : (0 : Int) < 128 ^ f.length := Int.pow_pos (by omega)
    have hr : rS B l = (val (f ++ [b]) - (if 64 ≤ b then 128 ^ (f.length + 1) else 0), (f.length : Int) + 1, 0) := by
      rw [rS, if_pos hB, h]
      simp only [e0, e1, e2, if_true]
    have hn : -(64 * 128 ^ f.length) ≤ val (f ++ [b]) - (if 64 ≤ b then 128 ^ (f.length + 1) else 0) ∧ val (f ++ [b]) - (if 64 ≤ b then 128 ^ (f.length + 1) else 0) < 64 * 128 ^ f.length := by
      rw [val_last f b hb0 hb1, Int.pow_succ]
      split
      · have a1 : 64 * 128 ^ f.length ≤ b * 128 ^ f.length := Int.mul_le_mul_of_nonneg_right (by omega) (by omega)
        have a2 : b * 128 ^ f.length ≤ 127 * 128 ^ f.length := Int.mul_le_mul_of_nonneg_right (by omega) (by omega)
        omega
      · have a1 : 0 ≤ b * 128 ^ f.length := Int.mul_nonneg hb0 (by omega)
        have a2 : b * 128 ^ f.length ≤ 63 * 128 ^ f.length := Int.mul_le_mul_of_nonneg_right (by omega) (by omega)
        omega
    have hbd : -9223372036854775808 ≤ val (f ++ [b]) - (if 64 ≤ b then 128 ^ (f.length + 1) else 0) ∧ val (f ++ [b]) - (if 64 ≤ b then 128 ^ (f.length + 1) else 0) ≤ 9223372036854775807 := by
      by_cases h8 : f.length ≤ 8
      · have := pow7 (f.length + 1) (by omega)
        rw [Int.pow_succ] at this
        omega
      · have e9 : f.length = 9 := by omega
        have hB64 : B = 64 := by omega
        have hf9 := h2 (by omega)
        rw [hB64, e9] at hf9
        have := fitS_one b hf9
        rw [e9] at hv
        rw [val_last f b hb0 hb1, e9]
        rcases this with rfl | rfl
        · simp; omega
        · simp; omega
    refine ⟨_, f.length + 1, hbd.1, hbd.2, sB_len _ _ hn.1 hn.2, ?_, hr⟩
    rw [e, List.length_append, List.length_cons]; omega

end Go.Proofs.YtdbhdgkbkhjikaaDoor
