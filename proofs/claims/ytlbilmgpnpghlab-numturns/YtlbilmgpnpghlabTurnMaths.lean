/-
  Plain mathematics: bits that are turned round, moves as products and quotients.
-/
import Derived.Test.YtlbilmgpnpghlabVMaths2
namespace Go.Proofs.Ytlbilmgpnpghlab
open Go.RowKit

theorem rl_def {W : Nat} (A : BitVec W) (n : Nat) : A <<< (n % W) ||| A >>> (W - n % W) = A.rotateLeft n := BitVec.rotateLeft_def.symm
theorem rr_def {W : Nat} (A : BitVec W) (n : Nat) : A <<< (W - n % W) ||| A >>> (n % W) = A.rotateRight n := by
  rw [BitVec.rotateRight_def, BitVec.or_comm]
theorem rl_bit {W : Nat} (A : BitVec W) (n i : Nat) (hi : i < W) : (A.rotateLeft n).getLsbD i = A.getLsbD ((i + (W - n % W)) % W) := by
  rw [BitVec.getLsbD_rotateLeft]
  have hk : n % W < W := Nat.mod_lt _ (by omega)
  generalize n % W = k at hk
  by_cases h : i < k
  · have : (i + (W - k)) % W = W - k + i := by rw [Nat.mod_eq_of_lt (by omega)]; omega
    simp [h, this]
  · have : (i + (W - k)) % W = i - k := by
      rw [show i + (W - k) = (i - k) + W by omega, Nat.add_mod_right, Nat.mod_eq_of_lt (by omega)]
    simp [h, this, hi]
theorem rr_bit {W : Nat} (A : BitVec W) (n i : Nat) (hi : i < W) : (A.rotateRight n).getLsbD i = A.getLsbD ((i + n % W) % W) := by
  rw [BitVec.getLsbD_rotateRight]
  have hk : n % W < W := Nat.mod_lt _ (by omega)
  generalize n % W = k at hk
  by_cases h : i < W - k
  · have : (i + k) % W = k + i := by rw [Nat.mod_eq_of_lt (by omega)]; omega
    simp [h, this]
  · have : (i + k) % W = i - (W - k) := by
      rw [show i + k = (i - (W - k)) + W by omega, Nat.add_mod_right, Nat.mod_eq_of_lt (by omega)]
    simp [h, this, hi]
theorem back_mod (W i k : Nat) (hi : i < W) (hk : k < W) : ((i + k) % W + (W - k)) % W = i := by
  by_cases h : i + k < W
  · rw [Nat.mod_eq_of_lt h, show i + k + (W - k) = i + W by omega, Nat.add_mod_right, Nat.mod_eq_of_lt hi]
  · rw [show i + k = (i + k - W) + W by omega, Nat.add_mod_right, Nat.mod_eq_of_lt (a := i + k - W) (by omega), show i + k - W + (W - k) = i by omega, Nat.mod_eq_of_lt hi]
theorem turn_back {W : Nat} (A : BitVec W) (n : Nat) : (A.rotateLeft n).rotateRight n = A := by
  apply BitVec.eq_of_getLsbD_eq
  intro i hi
  rw [rr_bit _ _ _ hi, rl_bit _ _ _ (Nat.mod_lt _ (by omega)), back_mod _ _ _ hi (Nat.mod_lt _ (by omega))]
theorem turn_mod (W i p q r : Nat) (hp : p < W) (hq : q < W) (hr : r = (p + q) % W) : ((i + (W - q)) % W + (W - p)) % W = (i + (W - r)) % W := by
  subst hr
  rw [Nat.mod_add_mod]
  by_cases h : p + q < W
  · rw [Nat.mod_eq_of_lt h, show i + (W - q) + (W - p) = i + (W - (p + q)) + W by omega, Nat.add_mod_right]
  · rw [show p + q = (p + q - W) + W by omega, Nat.add_mod_right, Nat.mod_eq_of_lt (a := p + q - W) (by omega)]
    rw [show i + (W - q) + (W - p) = i + (W - (p + q - W)) by omega]
theorem turn_twice {W : Nat} (A : BitVec W) (n m s : Nat) (hs : s % W = (n % W + m % W) % W) : (A.rotateLeft n).rotateLeft m = A.rotateLeft s := by
  apply BitVec.eq_of_getLsbD_eq
  intro i hi
  have hW : 0 < W := by omega
  rw [rl_bit _ _ _ hi, rl_bit _ _ _ (Nat.mod_lt _ hW), rl_bit _ _ _ hi, turn_mod W i (n % W) (m % W) (s % W) (Nat.mod_lt _ hW) (Nat.mod_lt _ hW) hs]
theorem turn_other {W : Nat} (A : BitVec W) (n s : Nat) (hs : s = W - n % W) : A.rotateRight s = A.rotateLeft n := by
  apply BitVec.eq_of_getLsbD_eq
  intro i hi
  have hW : 0 < W := by omega
  rw [rr_bit _ _ _ hi, rl_bit _ _ _ hi, ← hs, Nat.add_mod_mod]
theorem shl_mul {W : Nat} (A : BitVec W) (k : Nat) : A <<< k = A * (1#W <<< k) := by
  rw [BitVec.shiftLeft_eq_mul_twoPow, BitVec.twoPow_eq]
theorem pow_nat {W : Nat} (k : Nat) (hk : k < W) : (1#W <<< k).toNat = 2 ^ k := by
  rw [← BitVec.twoPow_eq, BitVec.toNat_twoPow]
  exact Nat.mod_eq_of_lt (Nat.pow_lt_pow_right (by omega) hk)
theorem shr_div {W : Nat} (A : BitVec W) (k : Nat) (hk : k < W) : A >>> k = A / (1#W <<< k) := by
  apply BitVec.eq_of_toNat_eq
  rw [BitVec.toNat_udiv, pow_nat k hk, BitVec.toNat_ushiftRight, Nat.shiftRight_eq_div_pow]
theorem rest_of {W : Nat} (A : BitVec W) (k : Nat) : A - (A.sshiftRight k) <<< k = BitVec.ofInt W (A.toInt % 2 ^ k) := by
  rw [shl_bv, sshr_bv]
  conv => lhs; lhs; rw [← of_toInt A]
  rw [← ofInt_sub']
  congr 1
  have := Int.emod_add_mul_ediv A.toInt (2 ^ k)
  rw [Int.mul_comm] at this
  omega
theorem rest_lt {W : Nat} (A : BitVec W) (k : Nat) (hk : k < W) : (A - (A.sshiftRight k) <<< k).toNat < (1#W <<< k).toNat := by
  rw [rest_of, pow_nat k hk, BitVec.toNat_ofInt]
  have h0 : (0 : Int) < 2 ^ k := Int.pow_pos (by omega)
  have h1 := Int.emod_nonneg A.toInt (b := 2 ^ k) (by omega)
  have h2 := Int.emod_lt_of_pos A.toInt h0
  have h3 : (2 : Int) ^ k ≤ 2 ^ W := by exact_mod_cast Nat.pow_le_pow_right (n := 2) (by omega) (Nat.le_of_lt hk)
  have h4 : A.toInt % 2 ^ k % ((2 ^ W : Nat) : Int) = A.toInt % 2 ^ k := by
    apply Int.emod_eq_of_lt h1
    rw [Int.natCast_pow]
    exact Int.lt_of_lt_of_le h2 h3
  rw [h4]
  have h5 : ((2 ^ k : Nat) : Int) = 2 ^ k := by rw [Int.natCast_pow]; rfl
  omega
theorem sign_of {W : Nat} (A : BitVec W) : (A.toInt < 0) = ((A.sshiftRight (W - 1)).toInt = -1) := by
  rw [sshr_bv]
  have h1 := BitVec.le_toInt A
  have h2 := BitVec.toInt_lt (x := A)
  have h0 : (0 : Int) < 2 ^ (W - 1) := Int.pow_pos (by omega)
  generalize (2 : Int) ^ (W - 1) = M at h0 h1 h2
  by_cases h : A.toInt < 0
  · have : A.toInt / M = -1 := by
      rw [show A.toInt = (A.toInt + M) + M * (-1) by omega, Int.add_mul_ediv_left _ _ (by omega), Int.ediv_eq_zero_of_lt (by omega) (by omega)]
      rfl
    simp [h, this]
  · have : A.toInt / M = 0 := Int.ediv_eq_zero_of_lt (by omega) (by omega)
    simp [h, this]

end Go.Proofs.Ytlbilmgpnpghlab
