/-
  Plain mathematics: quotients, rests and bits that are moved, as the walk leaves them.
-/
import Derived.Test.YtdbhdgkbkhjikaaDoorVMaths
namespace Go.Proofs.YtdbhdgkbkhjikaaDoor
open Go.RowKit

theorem tdiv_range (M p q : Int) (hM : 2 ≤ M) (hp : -M ≤ p) (hp' : p ≤ M - 1) (hq : ¬ q = 0) (hc : ¬ (p = -M ∧ q = -1)) :
    -M ≤ p.tdiv q ∧ p.tdiv q ≤ M - 1 ∧ (p < 0 → q < 0 → 0 ≤ p.tdiv q) := by
  have hs : p < 0 → q < 0 → 0 ≤ p.tdiv q := by
    intro h1 h2
    have := Int.tdiv_nonneg (a := -p) (b := -q) (by omega) (by omega)
    rwa [Int.neg_tdiv_neg] at this
  have hb : -M ≤ p.tdiv q ∧ p.tdiv q ≤ M - 1 := by
    by_cases h1 : q = 1
    · subst h1; rw [Int.tdiv_one]; omega
    by_cases h2 : q = -1
    · subst h2
      rw [Int.tdiv_neg, Int.tdiv_one]
      omega
    have hn : (p.tdiv q).natAbs = p.natAbs / q.natAbs := Int.natAbs_tdiv p q
    have h3 : p.natAbs / q.natAbs ≤ p.natAbs / 2 := Nat.div_le_div_left (by omega) (by omega)
    omega
  exact ⟨hb.1, hb.2, hs⟩
theorem tmod_range (M p q : Int) (hM : 1 ≤ M) (hp : -M ≤ p) (hp' : p ≤ M - 1) : -M ≤ p.tmod q ∧ p.tmod q ≤ M - 1 := by
  have hn : (p.tmod q).natAbs = p.natAbs % q.natAbs := Int.natAbs_tmod p q
  have h3 := Nat.mod_le p.natAbs q.natAbs
  by_cases h : 0 ≤ p
  · have := Int.tmod_nonneg q h
    omega
  · have := Int.tmod_nonneg (a := -p) q (by omega)
    rw [Int.neg_tmod] at this
    omega
theorem of_toInt {W : Nat} (X : BitVec W) : BitVec.ofInt W X.toInt = X := BitVec.ofInt_toInt
theorem u32_of (X : BitVec 32) : X.toInt % 4294967296 = (X.toNat : Int) := by rw [u32_bv, of_toInt]
theorem u64_of (X : BitVec 64) : IntKind.u64.wrap X.toInt = (X.toNat : Int) := by rw [IntKind.wrap_u64, u64_bv, of_toInt]
theorem by32 (Y : BitVec 32) : (Y.toInt % 32).toNat = Y.toNat % 32 := by
  have := u32_of Y
  omega
theorem by32c (Y : BitVec 32) : (32 - Y.toInt % 32).toNat = 32 - Y.toNat % 32 := by
  have := by32 Y
  omega
theorem by32d (Y : BitVec 32) : (32 - (32 - Y.toInt % 32)).toNat = Y.toNat % 32 := by
  have := by32 Y
  omega
theorem by64 (Y : BitVec 64) : ((Y.toNat : Int) % 64).toNat = Y.toNat % 64 := by omega
theorem by64c (Y : BitVec 64) : (64 - (Y.toNat : Int) % 64).toNat = 64 - Y.toNat % 64 := by omega
theorem by64d (Y : BitVec 64) : (64 - (64 - (Y.toNat : Int) % 64)).toNat = Y.toNat % 64 := by omega
theorem udiv32 (X Y : BitVec 32) : wrap32 (wrap64 ((X.toNat : Int) / (Y.toNat : Int))) = (X / Y).toInt := by
  rw [← Int.natCast_ediv, ← BitVec.toNat_udiv, ← w32_nat]
  have := (X / Y).isLt
  simp only [wrap32, wrap64]; omega
theorem umod32 (X Y : BitVec 32) : wrap32 (wrap64 ((X.toNat : Int) % (Y.toNat : Int))) = (X % Y).toInt := by
  rw [← Int.natCast_emod, ← BitVec.toNat_umod, ← w32_nat]
  have := (X % Y).isLt
  simp only [wrap32, wrap64]; omega
theorem udiv64 (X Y : BitVec 64) : wrap64 ((X.toNat : Int) / (Y.toNat : Int)) = (X / Y).toInt := by
  rw [← Int.natCast_ediv, ← BitVec.toNat_udiv, ← w64_nat]
theorem umod64 (X Y : BitVec 64) : wrap64 ((X.toNat : Int) % (Y.toNat : Int)) = (X % Y).toInt := by
  rw [← Int.natCast_emod, ← BitVec.toNat_umod, ← w64_nat]
theorem toNat_zero {W : Nat} (Y : BitVec W) : Y.toInt = 0 ↔ Y.toNat = 0 := by
  constructor
  · intro h
    have := of_toInt Y
    rw [h] at this
    rw [← this]; simp
  · intro h
    have : Y = 0#W := BitVec.eq_of_toNat_eq (by rw [h]; simp)
    rw [this]; simp
theorem eq_bv {W : Nat} (X Y : BitVec W) : decide (X.toInt = Y.toInt) = decide (X = Y) := by rw [decide_eq_decide]; exact BitVec.toInt_inj
theorem shl32 (X Y : BitVec 32) : wrap32 (X.toInt * 2 ^ (Y.toInt % 32).toNat) = (X <<< (Y.toNat % 32)).toInt := by rw [by32, w32_bv, ← shl_bv]
theorem sshr32 (X Y : BitVec 32) : X.toInt / 2 ^ (Y.toInt % 32).toNat = (X.sshiftRight (Y.toNat % 32)).toInt := by rw [by32, sshr_bv]
theorem ushr32 (X Y : BitVec 32) : wrap32 (X.toInt % 4294967296 / 2 ^ (Y.toInt % 32).toNat) = (X >>> (Y.toNat % 32)).toInt := by rw [by32, u32_of, ← ushr_bv, w32_nat]
theorem rotl32 (X Y : BitVec 32) : wrap32 (bits BinOp.or IntKind.u32 (X.toInt % 4294967296 * 2 ^ (Y.toInt % 32).toNat % 4294967296) (X.toInt % 4294967296 / 2 ^ (32 - Y.toInt % 32).toNat)) = (X <<< (Y.toNat % 32) ||| X >>> (32 - Y.toNat % 32)).toInt := by
  rw [by32, by32c, u32_of, ← ushr_bv, ← shl_nat32, or_u32, w32_nat]
theorem rotr32 (X Y : BitVec 32) : wrap32 (bits BinOp.or IntKind.u32 (X.toInt % 4294967296 * 2 ^ (32 - Y.toInt % 32).toNat % 4294967296) (X.toInt % 4294967296 / 2 ^ (32 - (32 - Y.toInt % 32)).toNat)) = (X <<< (32 - Y.toNat % 32) ||| X >>> (Y.toNat % 32)).toInt := by
  rw [by32d, by32c, u32_of, ← ushr_bv, ← shl_nat32, or_u32, w32_nat]
theorem shl64 (X Y : BitVec 64) : wrap64 (X.toInt * 2 ^ ((Y.toNat : Int) % 64).toNat) = (X <<< (Y.toNat % 64)).toInt := by rw [by64, w64_bv, ← shl_bv]
theorem sshr64 (X Y : BitVec 64) : X.toInt / 2 ^ ((Y.toNat : Int) % 64).toNat = (X.sshiftRight (Y.toNat % 64)).toInt := by rw [by64, sshr_bv]
theorem ushr64 (X Y : BitVec 64) : wrap64 ((X.toNat : Int) / 2 ^ ((Y.toNat : Int) % 64).toNat) = (X >>> (Y.toNat % 64)).toInt := by rw [by64, ← ushr_bv, w64_nat]
theorem rotl64 (X Y : BitVec 64) : wrap64 (bits BinOp.or IntKind.u64 (IntKind.u64.wrap ((X.toNat : Int) * 2 ^ ((Y.toNat : Int) % 64).toNat)) ((X.toNat : Int) / 2 ^ (64 - (Y.toNat : Int) % 64).toNat)) = (X <<< (Y.toNat % 64) ||| X >>> (64 - Y.toNat % 64)).toInt := by
  rw [by64, by64c, IntKind.wrap_u64, ← ushr_bv, ← shl_nat64, or_u64, w64_nat]
theorem rotr64 (X Y : BitVec 64) : wrap64 (bits BinOp.or IntKind.u64 (IntKind.u64.wrap ((X.toNat : Int) * 2 ^ (64 - (Y.toNat : Int) % 64).toNat)) ((X.toNat : Int) / 2 ^ (64 - (64 - (Y.toNat : Int) % 64)).toNat)) = (X <<< (64 - Y.toNat % 64) ||| X >>> (Y.toNat % 64)).toInt := by
  rw [by64d, by64c, IntKind.wrap_u64, ← ushr_bv, ← shl_nat64, or_u64, w64_nat]
theorem in32 (n : Int) (h0 : -2147483648 ≤ n) (h1 : n ≤ 2147483647) : wrap32 n = n := by simp only [wrap32]; omega
theorem in64 (n : Int) (h0 : -9223372036854775808 ≤ n) (h1 : n ≤ 9223372036854775807) : wrap64 n = n := by simp only [wrap64]; omega

end Go.Proofs.YtdbhdgkbkhjikaaDoor
