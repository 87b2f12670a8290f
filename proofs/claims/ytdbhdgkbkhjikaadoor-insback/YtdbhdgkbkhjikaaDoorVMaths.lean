/-
  Plain mathematics: what the instructions of two numbers tell, over words of W bits.
-/
import Derived.Laws.Bits128
import Derived.Laws.BitsAllLaws
import Derived.Laws.BitsLemmas
import Derived.WalkKit
namespace Go.Proofs.YtdbhdgkbkhjikaaDoor
open Go.RowKit

theorem w32_bv (n : Int) : wrap32 n = (BitVec.ofInt 32 n).toInt := by
  rw [BitVec.toInt_ofInt, wrap32, Int.bmod_def]
  split <;> omega
theorem w64_bv (n : Int) : wrap64 n = (BitVec.ofInt 64 n).toInt := by
  rw [BitVec.toInt_ofInt, wrap64, Int.bmod_def]
  split <;> omega
theorem w32_nat (X : BitVec 32) : wrap32 (X.toNat : Int) = X.toInt := by
  rw [w32_bv, BitVec.ofInt_natCast, BitVec.ofNat_toNat, BitVec.setWidth_eq]
theorem w64_nat (X : BitVec 64) : wrap64 (X.toNat : Int) = X.toInt := by
  rw [w64_bv, BitVec.ofInt_natCast, BitVec.ofNat_toNat, BitVec.setWidth_eq]
theorem u32_bv (n : Int) : n % 4294967296 = ((BitVec.ofInt 32 n).toNat : Int) := by
  rw [BitVec.toNat_ofInt]; omega
theorem u64_bv (n : Int) : n % 18446744073709551616 = ((BitVec.ofInt 64 n).toNat : Int) := by
  rw [BitVec.toNat_ofInt]; omega
theorem i32_bits (op : BinOp) (a b : Int) (Z : BitVec 32) (h : bits op .i32 a b = IntKind.i32.wrap (Z.toNat : Int)) : bits op .i32 a b = Z.toInt := by
  rw [h, IntKind.wrap_i32, ← w32_nat Z, wrap32]
theorem i64_bits (op : BinOp) (a b : Int) (Z : BitVec 64) (h : bits op .i64 a b = IntKind.i64.wrap (Z.toNat : Int)) : bits op .i64 a b = Z.toInt := by
  rw [h, IntKind.wrap_i64, ← w64_nat Z, wrap64]
theorem and32_bv (a b : Int) : bits .and .i32 a b = (BitVec.ofInt 32 a &&& BitVec.ofInt 32 b).toInt := i32_bits _ _ _ _ rfl
theorem or32_bv (a b : Int) : bits .or .i32 a b = (BitVec.ofInt 32 a ||| BitVec.ofInt 32 b).toInt := i32_bits _ _ _ _ rfl
theorem xor32_bv (a b : Int) : bits .xor .i32 a b = (BitVec.ofInt 32 a ^^^ BitVec.ofInt 32 b).toInt := i32_bits _ _ _ _ rfl
theorem and64_bv (a b : Int) : bits .and .i64 a b = (BitVec.ofInt 64 a &&& BitVec.ofInt 64 b).toInt := i64_bits _ _ _ _ rfl
theorem or64_bv (a b : Int) : bits .or .i64 a b = (BitVec.ofInt 64 a ||| BitVec.ofInt 64 b).toInt := i64_bits _ _ _ _ rfl
theorem xor64_bv (a b : Int) : bits .xor .i64 a b = (BitVec.ofInt 64 a ^^^ BitVec.ofInt 64 b).toInt := i64_bits _ _ _ _ rfl
theorem or_u32 (X Y : BitVec 32) : bits .or .u32 (X.toNat : Int) (Y.toNat : Int) = ((X ||| Y).toNat : Int) := by
  show IntKind.u32.wrap ((BitVec.ofInt 32 (X.toNat : Int) ||| BitVec.ofInt 32 (Y.toNat : Int)).toNat : Nat) = _
  rw [BitVec.ofInt_natCast, BitVec.ofInt_natCast, BitVec.ofNat_toNat, BitVec.ofNat_toNat, BitVec.setWidth_eq, BitVec.setWidth_eq, IntKind.wrap_u32]
  have := (X ||| Y).isLt
  omega
theorem or_u64 (X Y : BitVec 64) : bits .or .u64 (X.toNat : Int) (Y.toNat : Int) = ((X ||| Y).toNat : Int) := by
  show IntKind.u64.wrap ((BitVec.ofInt 64 (X.toNat : Int) ||| BitVec.ofInt 64 (Y.toNat : Int)).toNat : Nat) = _
  rw [BitVec.ofInt_natCast, BitVec.ofInt_natCast, BitVec.ofNat_toNat, BitVec.ofNat_toNat, BitVec.setWidth_eq, BitVec.setWidth_eq, IntKind.wrap_u64]
  have := (X ||| Y).isLt
  omega
theorem ofInt_sub' (W : Nat) (a b : Int) : BitVec.ofInt W (a - b) = BitVec.ofInt W a - BitVec.ofInt W b := by
  rw [Int.sub_eq_add_neg, BitVec.ofInt_add, BitVec.ofInt_neg, BitVec.sub_eq_add_neg]

/-- The ten questions. -/
def cmpV {W : Nat} (k : Nat) (X Y : BitVec W) : Bool := match k with
  | 0 => decide (X = Y)
  | 1 => ! decide (X = Y)
  | 2 => decide (X.toInt < Y.toInt)
  | 3 => decide (X.toNat < Y.toNat)
  | 4 => decide (Y.toInt < X.toInt)
  | 5 => decide (Y.toNat < X.toNat)
  | 6 => decide (X.toInt ≤ Y.toInt)
  | 7 => decide (X.toNat ≤ Y.toNat)
  | 8 => decide (Y.toInt ≤ X.toInt)
  | 9 => decide (Y.toNat ≤ X.toNat)
  | _ => false
/-- The fifteen reckonings: the number, and the number of the error. -/
def recV {W : Nat} (k : Nat) (X Y : BitVec W) : Int × Int := match k with
  | 0 => ((X + Y).toInt, 0)
  | 1 => ((X - Y).toInt, 0)
  | 2 => ((X * Y).toInt, 0)
  | 3 => if Y.toInt = 0 then (0, 21) else if X.toInt = -2 ^ (W - 1) ∧ Y.toInt = -1 then (0, 22) else (X.toInt.tdiv Y.toInt, 0)
  | 4 => if Y.toInt = 0 then (0, 21) else ((X / Y).toInt, 0)
  | 5 => if Y.toInt = 0 then (0, 21) else (X.toInt.tmod Y.toInt, 0)
  | 6 => if Y.toInt = 0 then (0, 21) else ((X % Y).toInt, 0)
  | 7 => ((X &&& Y).toInt, 0)
  | 8 => ((X ||| Y).toInt, 0)
  | 9 => ((X ^^^ Y).toInt, 0)
  | 10 => ((X <<< (Y.toNat % W)).toInt, 0)
  | 11 => ((X.sshiftRight (Y.toNat % W)).toInt, 0)
  | 12 => ((X >>> (Y.toNat % W)).toInt, 0)
  | 13 => ((X <<< (Y.toNat % W) ||| X >>> (W - Y.toNat % W)).toInt, 0)
  | 14 => ((X <<< (W - Y.toNat % W) ||| X >>> (Y.toNat % W)).toInt, 0)
  | _ => (0, 6)
/-- A truth as a number. -/
def t2i (b : Bool) : Int := if b then 1 else 0
/-- What an instruction of two numbers tells. -/
def twoV (op a b : Int) : Int × Int :=
  if 70 ≤ op ∧ op ≤ 79 then (t2i (cmpV (op - 70).toNat (BitVec.ofInt 32 a) (BitVec.ofInt 32 b)), 0)
  else if 81 ≤ op ∧ op ≤ 90 then (t2i (cmpV (op - 81).toNat (BitVec.ofInt 64 a) (BitVec.ofInt 64 b)), 0)
  else if 106 ≤ op ∧ op ≤ 120 then recV (op - 106).toNat (BitVec.ofInt 32 a) (BitVec.ofInt 32 b)
  else if 124 ≤ op ∧ op ≤ 138 then recV (op - 124).toNat (BitVec.ofInt 64 a) (BitVec.ofInt 64 b)
  else (0, 6)

theorem shl_bv {W : Nat} (X : BitVec W) (n : Nat) : X <<< n = BitVec.ofInt W (X.toInt * 2 ^ n) := by
  apply BitVec.eq_of_toInt_eq
  rw [BitVec.toInt_shiftLeft, BitVec.toInt_ofInt]
  rw [Nat.shiftLeft_eq, Int.natCast_mul, Int.natCast_pow, BitVec.toInt_eq_toNat_bmod, Int.bmod_mul_bmod]; rfl
theorem toInt_lt32 (X : BitVec 32) : -2147483648 ≤ X.toInt ∧ X.toInt ≤ 2147483647 := by
  have h1 := BitVec.le_toInt X
  have h2 := BitVec.toInt_lt (x := X)
  omega
theorem toInt_lt64 (X : BitVec 64) : -9223372036854775808 ≤ X.toInt ∧ X.toInt ≤ 9223372036854775807 := by
  have h1 := BitVec.le_toInt X
  have h2 := BitVec.toInt_lt (x := X)
  omega
theorem of64_toInt (a : Int) (h : -9223372036854775808 ≤ a ∧ a ≤ 9223372036854775807) : (BitVec.ofInt 64 a).toInt = a := by
  rw [← w64_bv, wrap64]; omega
theorem sshr_bv {W : Nat} (X : BitVec W) (n : Nat) : (X.sshiftRight n).toInt = X.toInt / 2 ^ n := by
  rw [BitVec.toInt_sshiftRight, Int.shiftRight_eq_div_pow]
  rw [Int.natCast_pow]; rfl
theorem ushr_bv {W : Nat} (X : BitVec W) (n : Nat) : ((X >>> n).toNat : Int) = (X.toNat : Int) / 2 ^ n := by
  rw [BitVec.toNat_ushiftRight, Nat.shiftRight_eq_div_pow, Int.natCast_ediv, Int.natCast_pow]; rfl
theorem shl_nat32 (X : BitVec 32) (n : Nat) : ((X <<< n).toNat : Int) = (X.toNat : Int) * 2 ^ n % 4294967296 := by
  rw [BitVec.toNat_shiftLeft, Nat.shiftLeft_eq, Int.natCast_emod, Int.natCast_mul, Int.natCast_pow]; rfl
theorem shl_nat64 (X : BitVec 64) (n : Nat) : ((X <<< n).toNat : Int) = (X.toNat : Int) * 2 ^ n % 18446744073709551616 := by
  rw [BitVec.toNat_shiftLeft, Nat.shiftLeft_eq, Int.natCast_emod, Int.natCast_mul, Int.natCast_pow]; rfl

end Go.Proofs.YtdbhdgkbkhjikaaDoor
