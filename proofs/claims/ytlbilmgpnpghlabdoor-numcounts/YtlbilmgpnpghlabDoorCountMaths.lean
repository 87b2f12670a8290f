/-
  Plain mathematics: how many bits are set in what is made of two numbers.
-/
import Derived.Test.YtlbilmgpnpghlabDoorPopMaths
import Derived.Test.YtlbilmgpnpghlabDoorVMaths2
import Derived.Lib.BitFns
import Derived.Lib.TrailingZeros
namespace Go.Proofs.YtlbilmgpnpghlabDoor
open Go.RowKit

theorem popN_more : ∀ (n f x : Nat), x < 2 ^ n → n ≤ f → popN f x = popN n x
  | 0, f, x, hx, _ => by
    have h0 : x = 0 := by simpa using hx
    subst h0
    clear hx
    induction f with
    | zero => rfl
    | succ f ih => have h2 := ih (Nat.zero_le _); simp only [popN] at h2 ⊢; simp [h2]
  | n + 1, f, x, hx, hf => by
    obtain ⟨f', rfl⟩ : ∃ f', f = f' + 1 := ⟨f - 1, by omega⟩
    rw [popN, popN, popN_more n f' (x / 2) (by rw [Nat.pow_succ] at hx; omega) (by omega)]
theorem bit_and (a b : Nat) : (a &&& b) % 2 = a % 2 * (b % 2) := by
  have : (a &&& b) % 2 = (a % 2) &&& (b % 2) := by
    have := Nat.and_mod_two_pow (a := a) (b := b) (n := 1)
    simpa using this
  rw [this]
  rcases (show a % 2 = 0 ∨ a % 2 = 1 by omega) with x | x <;> rcases (show b % 2 = 0 ∨ b % 2 = 1 by omega) with y | y <;> rw [x, y] <;> rfl
theorem bit_or (a b : Nat) : (a ||| b) % 2 + a % 2 * (b % 2) = a % 2 + b % 2 := by
  have : (a ||| b) % 2 = (a % 2) ||| (b % 2) := by
    have := Nat.or_mod_two_pow (a := a) (b := b) (n := 1)
    simpa using this
  rw [this]
  rcases (show a % 2 = 0 ∨ a % 2 = 1 by omega) with x | x <;> rcases (show b % 2 = 0 ∨ b % 2 = 1 by omega) with y | y <;> rw [x, y] <;> rfl
theorem pop_both : ∀ (f a b : Nat), popN f (a &&& b) + popN f (a ||| b) = popN f a + popN f b
  | 0, _, _ => rfl
  | f + 1, a, b => by
    have e1 : (a &&& b) / 2 = a / 2 &&& b / 2 := Nat.and_div_two
    have e2 : (a ||| b) / 2 = a / 2 ||| b / 2 := Nat.or_div_two
    have h := pop_both f (a / 2) (b / 2)
    have h1 := bit_and a b
    have h2 := bit_or a b
    rw [popN, popN, popN, popN, e1, e2]
    omega
theorem pop_not : ∀ (f n : Nat), n < 2 ^ f → popN f n + popN f (2 ^ f - 1 - n) = f
  | 0, n, _ => by simp [popN]
  | f + 1, n, h => by
    rw [Nat.pow_succ] at h ⊢
    have h2 := pop_not f (n / 2) (by omega)
    rw [popN, popN, show (2 ^ f * 2 - 1 - n) / 2 = 2 ^ f - 1 - n / 2 by omega]
    omega
theorem ctz_more : ∀ (f g x : Nat), 0 < x → x < 2 ^ f → f ≤ g → Lib.ctzFrom g x = Lib.ctzFrom f x
  | 0, g, x, h0, h, _ => by simp at h; omega
  | f + 1, g, x, h0, h, hg => by
    obtain ⟨g', rfl⟩ : ∃ g', g = g' + 1 := ⟨g - 1, by omega⟩
    rw [Lib.ctzFrom, Lib.ctzFrom]
    split
    · rfl
    · rw [ctz_more f g' (x / 2) (by omega) (by rw [Nat.pow_succ] at h; omega) (by omega)]
theorem ctz_same (W x : Nat) (hW : W ≤ 64) (h0 : x ≠ 0) (h : x < 2 ^ W) : Lib.ctz 64 x = Lib.ctz W x := by
  unfold Lib.ctz
  rw [if_neg h0, if_neg h0, ctz_more W 64 x (by omega) h hW]
theorem pow_facts : ∀ t : Fin 64, popN 64 (2 ^ t.val) = 1 ∧ Lib.ctz 64 (2 ^ t.val) = t.val ∧ Lib.bitLen (2 ^ t.val) = t.val + 1 := by decide +kernel
theorem len_ge (t n : Nat) (h : 2 ^ t ≤ n) (hn : n < 18446744073709551616) : t + 1 ≤ Lib.bitLen n := by
  have h1 := Lib.bitLen_shift t n h hn
  have h2 : n / 2 ^ t ≠ 0 := by
    have := Nat.div_pos h (Nat.pow_pos (by omega) : 0 < 2 ^ t)
    omega
  have h3 := Lib.bitLen_half (n / 2 ^ t) h2 (Nat.lt_of_le_of_lt (Nat.div_le_self _ _) hn)
  omega
theorem cutN_32 (A : BitVec 32) : (A.toInt % 2 ^ 32).toNat = A.toNat := by
  have h := u32_of A
  
  omega
theorem neg_32 (A : BitVec 32) : (A.toInt < 0) = (2147483648 ≤ A.toNat) := by
  have h := BitVec.toInt_eq_toNat_cond A
  have hl := A.isLt
  rw [h]
  apply propext
  split <;> omega
theorem low_32 (A : BitVec 32) (h0 : A.toNat ≠ 0) : (A &&& (0#32 - A)).toNat = 2 ^ Lib.ctz 64 A.toNat ∧ Lib.ctz 64 A.toNat < 32 := by
  have h := Lib.lowest_bit 32 A.toNat h0 A.isLt
  rw [← ctz_same 32 A.toNat (by omega) h0 A.isLt] at h
  refine ⟨?_, h.2⟩
  rw [BitVec.toNat_and, BitVec.toNat_sub, ← h.1]
  congr 1
  have hl := A.isLt
  simp only [BitVec.toNat_ofNat]
  omega
theorem not_32 (A : BitVec 32) : popN 64 A.toNat + popN 64 (A ^^^ -1#32).toNat = 32 := by
  rw [show (-1#32) = BitVec.allOnes 32 by decide, BitVec.xor_allOnes, BitVec.toNat_not]
  have hl := A.isLt
  rw [popN_more 32 64 A.toNat hl (by omega), popN_more 32 64 (2 ^ 32 - 1 - A.toNat) (by omega) (by omega)]
  exact pop_not 32 A.toNat hl
theorem len_32 (A : BitVec 32) : ((32 : Int) - (Lib.bitLen A.toNat : Int) = 0) = (A.toInt < 0) := by
  rw [neg_32]
  have hl := A.isLt
  have h1 := Lib.bitLen_le A.toNat 32 (by omega) hl
  apply propext
  constructor
  · intro h
    apply Nat.le_of_not_lt
    intro hlt
    have := Lib.bitLen_le A.toNat 31 (by omega) hlt
    omega
  · intro h
    have := len_ge 31 A.toNat h (by omega)
    omega
theorem cutN_64 (A : BitVec 64) : (A.toInt % 2 ^ 64).toNat = A.toNat := by
  have h := u64_of A
  rw [IntKind.wrap_u64] at h
  omega
theorem neg_64 (A : BitVec 64) : (A.toInt < 0) = (9223372036854775808 ≤ A.toNat) := by
  have h := BitVec.toInt_eq_toNat_cond A
  have hl := A.isLt
  rw [h]
  apply propext
  split <;> omega
theorem low_64 (A : BitVec 64) (h0 : A.toNat ≠ 0) : (A &&& (0#64 - A)).toNat = 2 ^ Lib.ctz 64 A.toNat ∧ Lib.ctz 64 A.toNat < 64 := by
  have h := Lib.lowest_bit 64 A.toNat h0 A.isLt
  rw [← ctz_same 64 A.toNat (by omega) h0 A.isLt] at h
  refine ⟨?_, h.2⟩
  rw [BitVec.toNat_and, BitVec.toNat_sub, ← h.1]
  congr 1
  have hl := A.isLt
  simp only [BitVec.toNat_ofNat]
  omega
theorem not_64 (A : BitVec 64) : popN 64 A.toNat + popN 64 (A ^^^ -1#64).toNat = 64 := by
  rw [show (-1#64) = BitVec.allOnes 64 by decide, BitVec.xor_allOnes, BitVec.toNat_not]
  have hl := A.isLt
  rw [popN_more 64 64 A.toNat hl (by omega), popN_more 64 64 (2 ^ 64 - 1 - A.toNat) (by omega) (by omega)]
  exact pop_not 64 A.toNat hl
theorem len_64 (A : BitVec 64) : ((64 : Int) - (Lib.bitLen A.toNat : Int) = 0) = (A.toInt < 0) := by
  rw [neg_64]
  have hl := A.isLt
  have h1 := Lib.bitLen_le A.toNat 64 (by omega) hl
  apply propext
  constructor
  · intro h
    apply Nat.le_of_not_lt
    intro hlt
    have := Lib.bitLen_le A.toNat 63 (by omega) hlt
    omega
  · intro h
    have := len_ge 63 A.toNat h (by omega)
    omega
end Go.Proofs.YtlbilmgpnpghlabDoor
