/-
  What is written is read as it was, whatever stands behind: plain mathematics.
-/
import Derived.Test.YtdbhdgkbkhjikaaDoorRes
namespace Go.Proofs.YtdbhdgkbkhjikaaDoor
open Go.RowKit

theorem backU (B : Int) (n m : Nat) (r : List Int) (hB : (B = 32 ∧ m = 4 ∧ n < 4294967296) ∨ (B = 64 ∧ m = 9 ∧ n < 18446744073709551616)) : rU B (uB n ++ r) = ((n : Int), ((uB n).length : Int), 0) := by
  have hlen : (uB n).length ≤ m + 1 := by
    refine uB_len m n ?_
    rcases hB with ⟨_, rfl, h⟩ | ⟨_, rfl, h⟩
    · have : (128 : Nat) ^ (4 + 1) = 34359738368 := by decide
      omega
    · have : (128 : Nat) ^ (9 + 1) = 1180591620717411303424 := by decide
      omega
  obtain ⟨f, b, h1, h2, h3, h4, h5⟩ := uB_split n
  have hv := val_bound f
  rw [h1, List.length_append, List.length_singleton] at hlen ⊢
  rw [rU, if_pos (by omega), List.append_assoc, List.singleton_append, rdl_good f r b h2 h3 h4 (by omega) ?_, h5]
  · rfl
  · intro h7
    rw [val_last f b h3 h4] at h5
    rcases hB with ⟨rfl, rfl, h⟩ | ⟨rfl, rfl, h⟩
    · have e : f.length = 4 := by omega
      rw [e] at h5 hv ⊢
      have hb : b < 16 := by omega
      simp only [fitU, beq_iff_eq]
      exact Int.ediv_eq_zero_of_lt h3 (by simpa using hb)
    · have e : f.length = 9 := by omega
      rw [e] at h5 hv ⊢
      have hb : b < 2 := by omega
      simp only [fitU, beq_iff_eq]
      exact Int.ediv_eq_zero_of_lt h3 (by simpa using hb)

theorem backS (B : Int) (n : Int) (m : Nat) (r : List Int) (hB : (B = 32 ∧ m = 4 ∧ -2147483648 ≤ n ∧ n < 2147483648) ∨ (B = 64 ∧ m = 9 ∧ -9223372036854775808 ≤ n ∧ n < 9223372036854775808)) : rS B (sB n ++ r) = (n, ((sB n).length : Int), 0) := by
  have hlen : (sB n).length ≤ m + 1 := by
    refine sB_len m n ?_ ?_
    · rcases hB with ⟨_, rfl, h⟩ | ⟨_, rfl, h⟩ <;> omega
    · rcases hB with ⟨_, rfl, h⟩ | ⟨_, rfl, h⟩ <;> omega
  obtain ⟨f, b, h1, h2, h3, h4, h5⟩ := sB_split _ n (Nat.lt_succ_self _)
  have hv := val_bound f
  rw [h1, List.length_append, List.length_singleton] at hlen ⊢
  have hg : rdl fitS B (f ++ [b] ++ r) 0 0 = (val (f ++ [b]), (f.length : Int) + 1, 0) := by
    rw [List.append_assoc, List.singleton_append]
    refine rdl_good f r b h2 h3 h4 (by omega) ?_
    intro h7
    rw [val_last f b h3 h4] at h5
    rcases hB with ⟨rfl, rfl, h⟩ | ⟨rfl, rfl, h⟩
    · have e : f.length = 4 := by omega
      rw [e] at h5 hv ⊢
      have hb : b < 8 ∨ 120 ≤ b := by split at h5 <;> omega
      simp only [fitS, Bool.or_eq_true, beq_iff_eq]
      rcases hb with hb | hb
      · left; exact Int.ediv_eq_zero_of_lt h3 (by simpa using hb)
      · right; simp; omega
    · have e : f.length = 9 := by omega
      rw [e] at h5 hv ⊢
      have hb : b < 1 ∨ 127 ≤ b := by split at h5 <;> omega
      simp only [fitS, Bool.or_eq_true, beq_iff_eq]
      rcases hb with hb | hb
      · left; exact Int.ediv_eq_zero_of_lt h3 (by simpa using hb)
      · right; simp; omega
  have e2 : (f ++ [b] ++ r).getD f.length 0 = b := by rw [List.append_assoc]; simp
  have e0 : ((f.length : Int) + 1 - 1).toNat = f.length := by omega
  have e1 : ((f.length : Int) + 1).toNat = f.length + 1 := by omega
  rw [rS, if_pos (by omega), hg]
  simp only [e0, e1, e2, if_true]
  rw [h5]
  have : n + (if 64 ≤ b then 128 ^ (f.length + 1) else 0) - (if 64 ≤ b then 128 ^ (f.length + 1) else 0) = n := by omega
  rw [this]; rfl

end Go.Proofs.YtdbhdgkbkhjikaaDoor
