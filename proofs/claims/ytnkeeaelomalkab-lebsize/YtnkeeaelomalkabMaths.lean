/-
  Plain mathematics of numbers in groups of seven bits: what U and S write, as lists of numbers from 0 to 255.
-/
import Derived.Laws.Bits128
import Derived.Laws.BitsAllLaws
import Derived.Laws.BytesArg
namespace Go.Proofs.Ytnkeeaelomalkab

/-- The bytes of a number without a sign. -/
def uB (n : Nat) : List Int := if n < 128 then [(n : Int)] else (((n % 128 : Nat) : Int) + 128) :: uB (n / 128)
termination_by n
decreasing_by omega

/-- The bytes of a number with a sign. -/
def sB (n : Int) : List Int := if -64 ≤ n ∧ n < 64 then [n % 128] else (n % 128 + 128) :: sB (n / 128)
termination_by n.natAbs
decreasing_by omega

theorem uB_lo {n : Nat} (h : n < 128) : uB n = [(n : Int)] := by rw [uB]; simp [h]
theorem uB_hi {n : Nat} (h : ¬ n < 128) : uB n = (((n % 128 : Nat) : Int) + 128) :: uB (n / 128) := by rw [uB]; simp [h]
theorem sB_lo {n : Int} (h : -64 ≤ n ∧ n < 64) : sB n = [n % 128] := by rw [sB]; simp [h]
theorem sB_hi {n : Int} (h : ¬ (-64 ≤ n ∧ n < 64)) : sB n = (n % 128 + 128) :: sB (n / 128) := by rw [sB]; simp [h]

theorem uB_pos (n : Nat) : 1 ≤ (uB n).length := by
  by_cases h : n < 128
  · simp [uB_lo h]
  · simp [uB_hi h]
theorem sB_pos (n : Int) : 1 ≤ (sB n).length := by
  by_cases h : -64 ≤ n ∧ n < 64
  · simp [sB_lo h]
  · simp [sB_hi h]

theorem uB_len (k : Nat) : ∀ n : Nat, n < 128 ^ (k + 1) → (uB n).length ≤ k + 1 := by
  induction k with
  | zero => intro n h; simp at h; simp [uB_lo h]
  | succ k ih =>
    intro n h
    by_cases hn : n < 128
    · simp [uB_lo hn]
    · rw [uB_hi hn]
      have : n / 128 < 128 ^ (k + 1) := by
        rw [Nat.pow_succ 128 (k + 1)] at h
        exact Nat.div_lt_of_lt_mul (by rw [Nat.mul_comm]; exact h)
      have := ih _ this
      simp; omega
theorem uB_len64 (n : Nat) (h : n ≤ 18446744073709551615) : (uB n).length ≤ 10 := uB_len 9 n (by omega)

theorem sB_len (k : Nat) : ∀ n : Int, -(64 * 128 ^ k) ≤ n → n < 64 * 128 ^ k → (sB n).length ≤ k + 1 := by
  induction k with
  | zero => intro n h1 h2; simp at h1 h2; simp [sB_lo ⟨h1, h2⟩]
  | succ k ih =>
    intro n h1 h2
    by_cases hn : -64 ≤ n ∧ n < 64
    · simp [sB_lo hn]
    · rw [sB_hi hn]
      rw [Int.pow_succ] at h1 h2
      have := ih (n / 128) (by omega) (by omega)
      simp; omega
theorem sB_len64 (n : Int) (h1 : -9223372036854775808 ≤ n) (h2 : n ≤ 9223372036854775807) : (sB n).length ≤ 10 := sB_len 9 n (by omega) (by omega)

theorem and127_u64 (m : Nat) (h : m ≤ 18446744073709551615) : bits .and .u64 (m : Int) 127 = ((m % 128 : Nat) : Int) := by
  have := u64_and_nat m 127 (by omega) (by omega)
  rw [show (m &&& 127) = m % 128 from Nat.and_two_pow_sub_one_eq_mod m 7] at this
  exact this

end Go.Proofs.Ytnkeeaelomalkab
