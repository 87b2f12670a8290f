/-
  Plain mathematics: what the instructions of two numbers tell, over words of W bits.
  Plain mathematics: quotients, rests and bits that are moved, as the walk leaves them.
  What the program's own package num does: its inner functions.
  What the program's own package num does: questions.
  What the program's own package num does: quotients and bits that are moved.
  What the program's own package num does: the choice of an instruction.
  What the program's own package num does: each instruction, over words.
  What the program's own Two does.
-/
import Derived.Laws.Bits128
import Derived.Laws.BitsAllLaws
import Derived.Laws.BitsLemmas
import Derived.WalkKit
import Derived.Test.YtfmmefmpjejioaaProg
import Derived.WalkSpells
import Derived.WalkSmall
import Derived.Deep.QuietTactic
import Derived.BigQuiet
namespace Go.Proofs.Ytfmmefmpjejioaa
open Go.RowKit

theorem w32_bv (n : Int) : wrap32 n = (BitVec.ofInt 32 n).toInt := by
  rw [BitVec.toInt_ofInt, wrap32, Int.bmod_def]
  split <;> omega
theorem w64_bv (n : Int) : wrap64 n = (BitVec.ofInt 64 n).toInt := by
  rw [BitVec.toInt_ofInt, wrap64, Int.bmod_def]
  split <;> omega
theorem w32_nat (X : BitVec 32) : wrap32 (X.toNat : Int) = X.toInt := by
  rw [w32_bv, BitVec.ofInt_natCast, BitVec.ofNat_toNat, BitVec.setWidth_eq]
theorem w64_nat (X : BitVec 64) : wrap64 (X.toNat : Int) = X.toInt := by
  rw [w64_bv, BitVec.ofInt_natCast, BitVec.ofNat_toNat, BitVec.setWidth_eq]
theorem u32_bv (n : Int) : n % 4294967296 = ((BitVec.ofInt 32 n).toNat : Int) := by
  rw [BitVec.toNat_ofInt]; omega
theorem u64_bv (n : Int) : n % 18446744073709551616 = ((BitVec.ofInt 64 n).toNat : Int) := by
  rw [BitVec.toNat_ofInt]; omega
theorem i32_bits (op : BinOp) (a b : Int) (Z : BitVec 32) (h : bits op .i32 a b = IntKind.i32.wrap (Z.toNat : Int)) : bits op .i32 a b = Z.toInt := by
  rw [h, IntKind.wrap_i32, ← w32_nat Z, wrap32]
theorem i64_bits (op : BinOp) (a b : Int) (Z : BitVec 64) (h : bits op .i64 a b = IntKind.i64.wrap (Z.toNat : Int)) : bits op .i64 a b = Z.toInt := by
  rw [h, IntKind.wrap_i64, ← w64_nat Z, wrap64]
theorem and32_bv (a b : Int) : bits .and .i32 a b = (BitVec.ofInt 32 a &&& BitVec.ofInt 32 b).toInt := i32_bits _ _ _ _ rfl
theorem or32_bv (a b : Int) : bits .or .i32 a b = (BitVec.ofInt 32 a ||| BitVec.ofInt 32 b).toInt := i32_bits _ _ _ _ rfl
theorem xor32_bv (a b : Int) : bits .xor .i32 a b = (BitVec.ofInt 32 a ^^^ BitVec.ofInt 32 b).toInt := i32_bits _ _ _ _ rfl
theorem and64_bv (a b : Int) : bits .and .i64 a b = (BitVec.ofInt 64 a &&& BitVec.ofInt 64 b).toInt := i64_bits _ _ _ _ rfl
theorem or64_bv (a b : Int) : bits .or .i64 a b = (BitVec.ofInt 64 a ||| BitVec.ofInt 64 b).toInt := i64_bits _ _ _ _ rfl
theorem xor64_bv (a b : Int) : bits .xor .i64 a b = (BitVec.ofInt 64 a ^^^ BitVec.ofInt 64 b).toInt := i64_bits _ _ _ _ rfl
theorem or_u32 (X Y : BitVec 32) : bits .or .u32 (X.toNat : Int) (Y.toNat : Int) = ((X ||| Y).toNat : Int) := by
  show IntKind.u32.wrap ((BitVec.ofInt 32 (X.toNat : Int) ||| BitVec.ofInt 32 (Y.toNat : Int)).toNat : Nat) = _
  rw [BitVec.ofInt_natCast, BitVec.ofInt_natCast, BitVec.ofNat_toNat, BitVec.ofNat_toNat, BitVec.setWidth_eq, BitVec.setWidth_eq, IntKind.wrap_u32]
  have := (X ||| Y).isLt
  omega
theorem or_u64 (X Y : BitVec 64) : bits .or .u64 (X.toNat : Int) (Y.toNat : Int) = ((X ||| Y).toNat : Int) := by
  show IntKind.u64.wrap ((BitVec.ofInt 64 (X.toNat : Int) ||| BitVec.ofInt 64 (Y.toNat : Int)).toNat : Nat) = _
  rw [BitVec.ofInt_natCast, BitVec.ofInt_natCast, BitVec.ofNat_toNat, BitVec.ofNat_toNat, BitVec.setWidth_eq, BitVec.setWidth_eq, IntKind.wrap_u64]
  have := (X ||| Y).isLt
  omega
theorem ofInt_sub' (W : Nat) (a b : Int) : BitVec.ofInt W (a - b) = BitVec.ofInt W a - BitVec.ofInt W b := by
  rw [Int.sub_eq_add_neg, BitVec.ofInt_add, BitVec.ofInt_neg, BitVec.sub_eq_add_neg]

/-- The ten questions. -/
def cmpV {W : Nat} (k : Nat) (X Y : BitVec W) : Bool := match k with
  | 0 => decide (X = Y)
  | 1 => ! decide (X = Y)
  | 2 => decide (X.toInt < Y.toInt)
  | 3 => decide (X.toNat < Y.toNat)
  | 4 => decide (Y.toInt < X.toInt)
  | 5 => decide (Y.toNat < X.toNat)
  | 6 => decide (X.toInt ≤ Y.toInt)
  | 7 => decide (X.toNat ≤ Y.toNat)
  | 8 => decide (Y.toInt ≤ X.toInt)
  | 9 => decide (Y.toNat ≤ X.toNat)
  | _ => false
/-- The fifteen reckonings: the number, and the number of the error. -/
def recV {W : Nat} (k : Nat) (X Y : BitVec W) : Int × Int := match k with
  | 0 => ((X + Y).toInt, 0)
  | 1 => ((X - Y).toInt, 0)
  | 2 => ((X * Y).toInt, 0)
  | 3 => if Y.toInt = 0 then (0, 21) else if X.toInt = -2 ^ (W - 1) ∧ Y.toInt = -1 then (0, 22) else (X.toInt.tdiv Y.toInt, 0)
  | 4 => if Y.toInt = 0 then (0, 21) else ((X / Y).toInt, 0)
  | 5 => if Y.toInt = 0 then (0, 21) else (X.toInt.tmod Y.toInt, 0)
  | 6 => if Y.toInt = 0 then (0, 21) else ((X % Y).toInt, 0)
  | 7 => ((X &&& Y).toInt, 0)
  | 8 => ((X ||| Y).toInt, 0)
  | 9 => ((X ^^^ Y).toInt, 0)
  | 10 => ((X <<< (Y.toNat % W)).toInt, 0)
  | 11 => ((X.sshiftRight (Y.toNat % W)).toInt, 0)
  | 12 => ((X >>> (Y.toNat % W)).toInt, 0)
  | 13 => ((X <<< (Y.toNat % W) ||| X >>> (W - Y.toNat % W)).toInt, 0)
  | 14 => ((X <<< (W - Y.toNat % W) ||| X >>> (Y.toNat % W)).toInt, 0)
  | _ => (0, 6)
/-- A truth as a number. -/
def t2i (b : Bool) : Int := if b then 1 else 0
/-- What an instruction of two numbers tells. -/
def twoV (op a b : Int) : Int × Int :=
  if 70 ≤ op ∧ op ≤ 79 then (t2i (cmpV (op - 70).toNat (BitVec.ofInt 32 a) (BitVec.ofInt 32 b)), 0)
  else if 81 ≤ op ∧ op ≤ 90 then (t2i (cmpV (op - 81).toNat (BitVec.ofInt 64 a) (BitVec.ofInt 64 b)), 0)
  else if 106 ≤ op ∧ op ≤ 120 then recV (op - 106).toNat (BitVec.ofInt 32 a) (BitVec.ofInt 32 b)
  else if 124 ≤ op ∧ op ≤ 138 then recV (op - 124).toNat (BitVec.ofInt 64 a) (BitVec.ofInt 64 b)
  else (0, 6)

theorem shl_bv {W : Nat} (X : BitVec W) (n : Nat) : X <<< n = BitVec.ofInt W (X.toInt * 2 ^ n) := by
  apply BitVec.eq_of_toInt_eq
  rw [BitVec.toInt_shiftLeft, BitVec.toInt_ofInt]
  rw [Nat.shiftLeft_eq, Int.natCast_mul, Int.natCast_pow, BitVec.toInt_eq_toNat_bmod, Int.bmod_mul_bmod]; rfl
theorem toInt_lt32 (X : BitVec 32) : -2147483648 ≤ X.toInt ∧ X.toInt ≤ 2147483647 := by
  have h1 := BitVec.le_toInt X
  have h2 := BitVec.toInt_lt (x := X)
  omega
theorem toInt_lt64 (X : BitVec 64) : -9223372036854775808 ≤ X.toInt ∧ X.toInt ≤ 9223372036854775807 := by
  have h1 := BitVec.le_toInt X
  have h2 := BitVec.toInt_lt (x := X)
  omega
theorem of64_toInt (a : Int) (h : -9223372036854775808 ≤ a ∧ a ≤ 9223372036854775807) : (BitVec.ofInt 64 a).toInt = a := by
  rw [← w64_bv, wrap64]; omega
theorem sshr_bv {W : Nat} (X : BitVec W) (n : Nat) : (X.sshiftRight n).toInt = X.toInt / 2 ^ n := by
  rw [BitVec.toInt_sshiftRight, Int.shiftRight_eq_div_pow]
  rw [Int.natCast_pow]; rfl
theorem ushr_bv {W : Nat} (X : BitVec W) (n : Nat) : ((X >>> n).toNat : Int) = (X.toNat : Int) / 2 ^ n := by
  rw [BitVec.toNat_ushiftRight, Nat.shiftRight_eq_div_pow, Int.natCast_ediv, Int.natCast_pow]; rfl
theorem shl_nat32 (X : BitVec 32) (n : Nat) : ((X <<< n).toNat : Int) = (X.toNat : Int) * 2 ^ n % 4294967296 := by
  rw [BitVec.toNat_shiftLeft, Nat.shiftLeft_eq, Int.natCast_emod, Int.natCast_mul, Int.natCast_pow]; rfl
theorem shl_nat64 (X : BitVec 64) (n : Nat) : ((X <<< n).toNat : Int) = (X.toNat : Int) * 2 ^ n % 18446744073709551616 := by
  rw [BitVec.toNat_shiftLeft, Nat.shiftLeft_eq, Int.natCast_emod, Int.natCast_mul, Int.natCast_pow]; rfl

end Go.Proofs.Ytfmmefmpjejioaa
namespace Go.Proofs.Ytfmmefmpjejioaa
open Go.RowKit

theorem tdiv_range (M p q : Int) (hM : 2 ≤ M) (hp : -M ≤ p) (hp' : p ≤ M - 1) (hq : ¬ q = 0) (hc : ¬ (p = -M ∧ q = -1)) :
    -M ≤ p.tdiv q ∧ p.tdiv q ≤ M - 1 ∧ (p < 0 → q < 0 → 0 ≤ p.tdiv q) := by
  have hs : p < 0 → q < 0 → 0 ≤ p.tdiv q := by
    intro h1 h2
    have := Int.tdiv_nonneg (a := -p) (b := -q) (by omega) (by omega)
    rwa [Int.neg_tdiv_neg] at this
  have hb : -M ≤ p.tdiv q ∧ p.tdiv q ≤ M - 1 := by
    by_cases h1 : q = 1
    · subst h1; rw [Int.tdiv_one]; omega
    by_cases h2 : q = -1
    · subst h2
      rw [Int.tdiv_neg, Int.tdiv_one]
      omega
    have hn : (p.tdiv q).natAbs = p.natAbs / q.natAbs := Int.natAbs_tdiv p q
    have h3 : p.natAbs / q.natAbs ≤ p.natAbs / 2 := Nat.div_le_div_left (by omega) (by omega)
    omega
  exact ⟨hb.1, hb.2, hs⟩
theorem tmod_range (M p q : Int) (hM : 1 ≤ M) (hp : -M ≤ p) (hp' : p ≤ M - 1) : -M ≤ p.tmod q ∧ p.tmod q ≤ M - 1 := by
  have hn : (p.tmod q).natAbs = p.natAbs % q.natAbs := Int.natAbs_tmod p q
  have h3 := Nat.mod_le p.natAbs q.natAbs
  by_cases h : 0 ≤ p
  · have := Int.tmod_nonneg q h
    omega
  · have := Int.tmod_nonneg (a := -p) q (by omega)
    rw [Int.neg_tmod] at this
    omega
theorem of_toInt {W : Nat} (X : BitVec W) : BitVec.ofInt W X.toInt = X := BitVec.ofInt_toInt
theorem u32_of (X : BitVec 32) : X.toInt % 4294967296 = (X.toNat : Int) := by rw [u32_bv, of_toInt]
theorem u64_of (X : BitVec 64) : IntKind.u64.wrap X.toInt = (X.toNat : Int) := by rw [IntKind.wrap_u64, u64_bv, of_toInt]
theorem by32 (Y : BitVec 32) : (Y.toInt % 32).toNat = Y.toNat % 32 := by
  have := u32_of Y
  omega
theorem by32c (Y : BitVec 32) : (32 - Y.toInt % 32).toNat = 32 - Y.toNat % 32 := by
  have := by32 Y
  omega
theorem by32d (Y : BitVec 32) : (32 - (32 - Y.toInt % 32)).toNat = Y.toNat % 32 := by
  have := by32 Y
  omega
theorem by64 (Y : BitVec 64) : ((Y.toNat : Int) % 64).toNat = Y.toNat % 64 := by omega
theorem by64c (Y : BitVec 64) : (64 - (Y.toNat : Int) % 64).toNat = 64 - Y.toNat % 64 := by omega
theorem by64d (Y : BitVec 64) : (64 - (64 - (Y.toNat : Int) % 64)).toNat = Y.toNat % 64 := by omega
theorem udiv32 (X Y : BitVec 32) : wrap32 (wrap64 ((X.toNat : Int) / (Y.toNat : Int))) = (X / Y).toInt := by
  rw [← Int.natCast_ediv, ← BitVec.toNat_udiv, ← w32_nat]
  have := (X / Y).isLt
  simp only [wrap32, wrap64]; omega
theorem umod32 (X Y : BitVec 32) : wrap32 (wrap64 ((X.toNat : Int) % (Y.toNat : Int))) = (X % Y).toInt := by
  rw [← Int.natCast_emod, ← BitVec.toNat_umod, ← w32_nat]
  have := (X % Y).isLt
  simp only [wrap32, wrap64]; omega
theorem udiv64 (X Y : BitVec 64) : wrap64 ((X.toNat : Int) / (Y.toNat : Int)) = (X / Y).toInt := by
  rw [← Int.natCast_ediv, ← BitVec.toNat_udiv, ← w64_nat]
theorem umod64 (X Y : BitVec 64) : wrap64 ((X.toNat : Int) % (Y.toNat : Int)) = (X % Y).toInt := by
  rw [← Int.natCast_emod, ← BitVec.toNat_umod, ← w64_nat]
theorem toNat_zero {W : Nat} (Y : BitVec W) : Y.toInt = 0 ↔ Y.toNat = 0 := by
  constructor
  · intro h
    have := of_toInt Y
    rw [h] at this
    rw [← this]; simp
  · intro h
    have : Y = 0#W := BitVec.eq_of_toNat_eq (by rw [h]; simp)
    rw [this]; simp
theorem eq_bv {W : Nat} (X Y : BitVec W) : decide (X.toInt = Y.toInt) = decide (X = Y) := by rw [decide_eq_decide]; exact BitVec.toInt_inj
theorem shl32 (X Y : BitVec 32) : wrap32 (X.toInt * 2 ^ (Y.toInt % 32).toNat) = (X <<< (Y.toNat % 32)).toInt := by rw [by32, w32_bv, ← shl_bv]
theorem sshr32 (X Y : BitVec 32) : X.toInt / 2 ^ (Y.toInt % 32).toNat = (X.sshiftRight (Y.toNat % 32)).toInt := by rw [by32, sshr_bv]
theorem ushr32 (X Y : BitVec 32) : wrap32 (X.toInt % 4294967296 / 2 ^ (Y.toInt % 32).toNat) = (X >>> (Y.toNat % 32)).toInt := by rw [by32, u32_of, ← ushr_bv, w32_nat]
theorem rotl32 (X Y : BitVec 32) : wrap32 (bits BinOp.or IntKind.u32 (X.toInt % 4294967296 * 2 ^ (Y.toInt % 32).toNat % 4294967296) (X.toInt % 4294967296 / 2 ^ (32 - Y.toInt % 32).toNat)) = (X <<< (Y.toNat % 32) ||| X >>> (32 - Y.toNat % 32)).toInt := by
  rw [by32, by32c, u32_of, ← ushr_bv, ← shl_nat32, or_u32, w32_nat]
theorem rotr32 (X Y : BitVec 32) : wrap32 (bits BinOp.or IntKind.u32 (X.toInt % 4294967296 * 2 ^ (32 - Y.toInt % 32).toNat % 4294967296) (X.toInt % 4294967296 / 2 ^ (32 - (32 - Y.toInt % 32)).toNat)) = (X <<< (32 - Y.toNat % 32) ||| X >>> (Y.toNat % 32)).toInt := by
  rw [by32d, by32c, u32_of, ← ushr_bv, ← shl_nat32, or_u32, w32_nat]
theorem shl64 (X Y : BitVec 64) : wrap64 (X.toInt * 2 ^ ((Y.toNat : Int) % 64).toNat) = (X <<< (Y.toNat % 64)).toInt := by rw [by64, w64_bv, ← shl_bv]
theorem sshr64 (X Y : BitVec 64) : X.toInt / 2 ^ ((Y.toNat : Int) % 64).toNat = (X.sshiftRight (Y.toNat % 64)).toInt := by rw [by64, sshr_bv]
theorem ushr64 (X Y : BitVec 64) : wrap64 ((X.toNat : Int) / 2 ^ ((Y.toNat : Int) % 64).toNat) = (X >>> (Y.toNat % 64)).toInt := by rw [by64, ← ushr_bv, w64_nat]
theorem rotl64 (X Y : BitVec 64) : wrap64 (bits BinOp.or IntKind.u64 (IntKind.u64.wrap ((X.toNat : Int) * 2 ^ ((Y.toNat : Int) % 64).toNat)) ((X.toNat : Int) / 2 ^ (64 - (Y.toNat : Int) % 64).toNat)) = (X <<< (Y.toNat % 64) ||| X >>> (64 - Y.toNat % 64)).toInt := by
  rw [by64, by64c, IntKind.wrap_u64, ← ushr_bv, ← shl_nat64, or_u64, w64_nat]
theorem rotr64 (X Y : BitVec 64) : wrap64 (bits BinOp.or IntKind.u64 (IntKind.u64.wrap ((X.toNat : Int) * 2 ^ (64 - (Y.toNat : Int) % 64).toNat)) ((X.toNat : Int) / 2 ^ (64 - (64 - (Y.toNat : Int) % 64)).toNat)) = (X <<< (64 - Y.toNat % 64) ||| X >>> (Y.toNat % 64)).toInt := by
  rw [by64d, by64c, IntKind.wrap_u64, ← ushr_bv, ← shl_nat64, or_u64, w64_nat]
theorem in32 (n : Int) (h0 : -2147483648 ≤ n) (h1 : n ≤ 2147483647) : wrap32 n = n := by simp only [wrap32]; omega
theorem in64 (n : Int) (h0 : -9223372036854775808 ≤ n) (h1 : n ≤ 9223372036854775807) : wrap64 n = n := by simp only [wrap64]; omega

end Go.Proofs.Ytfmmefmpjejioaa
namespace Go.Proofs.Ytfmmefmpjejioaa
open Go.RowKit
theorem ri {k : IntKind} {a b : Int} {w : World} (h : a = b) : Ending.returned (.int k a) = .returned (.int k b) ∧ w = w := by rw [h]; exact ⟨rfl, rfl⟩
theorem w64_w32 (x : Int) : wrap64 (wrap32 x) = wrap32 x := by simp only [wrap64, wrap32]; omega
theorem rb {a b : Bool} {w : World} (h : a = b) : Ending.returned (.bool a) = .returned (.bool b) ∧ w = w := by rw [h]; exact ⟨rfl, rfl⟩
theorem r2 {k l : IntKind} {a b c d : Int} {w : World} (h : a = b) (h' : c = d) : Ending.returned (.tuple #[.int k a, .int l c]) = .returned (.tuple #[.int k b, .int l d]) ∧ w = w := by rw [h, h']; exact ⟨rfl, rfl⟩
end Go.Proofs.Ytfmmefmpjejioaa
namespace Go.Proofs.Ytfmmefmpjejioaa
open Go.RowKit
end Go.Proofs.Ytfmmefmpjejioaa
namespace Go.Proofs.Ytfmmefmpjejioaa
open Go.RowKit
end Go.Proofs.Ytfmmefmpjejioaa
namespace Go.Proofs.Ytfmmefmpjejioaa
open Go.RowKit
end Go.Proofs.Ytfmmefmpjejioaa
namespace Go.Proofs.Ytfmmefmpjejioaa
open Go.RowKit
end Go.Proofs.Ytfmmefmpjejioaa
namespace Go.Proofs.Ytfmmefmpjejioaa
open Go.RowKit
end Go.Proofs.Ytfmmefmpjejioaa
