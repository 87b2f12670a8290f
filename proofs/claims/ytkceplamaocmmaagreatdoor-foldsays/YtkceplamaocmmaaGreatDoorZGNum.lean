/-
 Plain mathematics: what the instructions of two numbers tell, over words of W bits. Plain mathematics: quotients, rests and bits that are moved, as the walk leaves them. What the program's own package num does: its inner functions. What the program's own package num does: questions. What the program's own package num does: quotients and bits that are moved. What the program's own package num does: the choice of an instruction. What the program's own package num does: each instruction, over words. What the program's own Two does.
-/
import Derived.Laws.Bits128
import Derived.Laws.BitsAllLaws
import Derived.Laws.BitsLemmas
import Derived.WalkKit
import Derived.Test.YtkceplamaocmmaaGreatDoorProg
import Derived.WalkSpells
import Derived.WalkSmall
import Derived.Deep.QuietTactic
import Derived.BigQuiet
set_option maxHeartbeats 1000000
set_option maxRecDepth 1000000
namespace Go.Proofs.YtkceplamaocmmaaGreatDoor
set_option linter.unusedVariables false
open Go.RowKit
theorem w32_bv (n : Int) : wrap32 n = (BitVec.ofInt 32 n).toInt := by
 rw [BitVec.toInt_ofInt, wrap32, Int.bmod_def]
 split <;> omega
theorem w64_bv (n : Int) : wrap64 n = (BitVec.ofInt 64 n).toInt := by
 rw [BitVec.toInt_ofInt, wrap64, Int.bmod_def]
 split <;> omega
theorem w32_nat (X : BitVec 32) : wrap32 (X.toNat : Int) = X.toInt := by
 rw [w32_bv, BitVec.ofInt_natCast, BitVec.ofNat_toNat, BitVec.setWidth_eq]
theorem w64_nat (X : BitVec 64) : wrap64 (X.toNat : Int) = X.toInt := by
 rw [w64_bv, BitVec.ofInt_natCast, BitVec.ofNat_toNat, BitVec.setWidth_eq]
theorem u32_bv (n : Int) : n % 4294967296 = ((BitVec.ofInt 32 n).toNat : Int) := by
 rw [BitVec.toNat_ofInt]; omega
theorem u64_bv (n : Int) : n % 18446744073709551616 = ((BitVec.ofInt 64 n).toNat : Int) := by
 rw [BitVec.toNat_ofInt]; omega
theorem i32_bits (op : BinOp) (a b : Int) (Z : BitVec 32) (h : bits op .i32 a b = IntKind.i32.wrap (Z.toNat : Int)) : bits op .i32 a b = Z.toInt := by
 rw [h, IntKind.wrap_i32, ← w32_nat Z, wrap32]
theorem i64_bits (op : BinOp) (a b : Int) (Z : BitVec 64) (h : bits op .i64 a b = IntKind.i64.wrap (Z.toNat : Int)) : bits op .i64 a b = Z.toInt := by
 rw [h, IntKind.wrap_i64, ← w64_nat Z, wrap64]
theorem and32_bv (a b : Int) : bits .and .i32 a b = (BitVec.ofInt 32 a &&& BitVec.ofInt 32 b).toInt := i32_bits _ _ _ _ rfl
theorem or32_bv (a b : Int) : bits .or .i32 a b = (BitVec.ofInt 32 a ||| BitVec.ofInt 32 b).toInt := i32_bits _ _ _ _ rfl
theorem xor32_bv (a b : Int) : bits .xor .i32 a b = (BitVec.ofInt 32 a ^^^ BitVec.ofInt 32 b).toInt := i32_bits _ _ _ _ rfl
theorem and64_bv (a b : Int) : bits .and .i64 a b = (BitVec.ofInt 64 a &&& BitVec.ofInt 64 b).toInt := i64_bits _ _ _ _ rfl
theorem or64_bv (a b : Int) : bits .or .i64 a b = (BitVec.ofInt 64 a ||| BitVec.ofInt 64 b).toInt := i64_bits _ _ _ _ rfl
theorem xor64_bv (a b : Int) : bits .xor .i64 a b = (BitVec.ofInt 64 a ^^^ BitVec.ofInt 64 b).toInt := i64_bits _ _ _ _ rfl
theorem or_u32 (X Y : BitVec 32) : bits .or .u32 (X.toNat : Int) (Y.toNat : Int) = ((X ||| Y).toNat : Int) := by
 show IntKind.u32.wrap ((BitVec.ofInt 32 (X.toNat : Int) ||| BitVec.ofInt 32 (Y.toNat : Int)).toNat : Nat) = _
 rw [BitVec.ofInt_natCast, BitVec.ofInt_natCast, BitVec.ofNat_toNat, BitVec.ofNat_toNat, BitVec.setWidth_eq, BitVec.setWidth_eq, IntKind.wrap_u32]
 have := (X ||| Y).isLt
 omega
theorem or_u64 (X Y : BitVec 64) : bits .or .u64 (X.toNat : Int) (Y.toNat : Int) = ((X ||| Y).toNat : Int) := by
 show IntKind.u64.wrap ((BitVec.ofInt 64 (X.toNat : Int) ||| BitVec.ofInt 64 (Y.toNat : Int)).toNat : Nat) = _
 rw [BitVec.ofInt_natCast, BitVec.ofInt_natCast, BitVec.ofNat_toNat, BitVec.ofNat_toNat, BitVec.setWidth_eq, BitVec.setWidth_eq, IntKind.wrap_u64]
 have := (X ||| Y).isLt
 omega
theorem ofInt_sub' (W : Nat) (a b : Int) : BitVec.ofInt W (a - b) = BitVec.ofInt W a - BitVec.ofInt W b := by
 rw [Int.sub_eq_add_neg, BitVec.ofInt_add, BitVec.ofInt_neg, BitVec.sub_eq_add_neg]
def cmpV {W : Nat} (k : Nat) (X Y : BitVec W) : Bool := match k with
 | 0 => decide (X = Y)
 | 1 => ! decide (X = Y)
 | 2 => decide (X.toInt < Y.toInt)
 | 3 => decide (X.toNat < Y.toNat)
 | 4 => decide (Y.toInt < X.toInt)
 | 5 => decide (Y.toNat < X.toNat)
 | 6 => decide (X.toInt ≤ Y.toInt)
 | 7 => decide (X.toNat ≤ Y.toNat)
 | 8 => decide (Y.toInt ≤ X.toInt)
 | 9 => decide (Y.toNat ≤ X.toNat)
 | _ => false
def recV {W : Nat} (k : Nat) (X Y : BitVec W) : Int × Int := match k with
 | 0 => ((X + Y).toInt, 0)
 | 1 => ((X - Y).toInt, 0)
 | 2 => ((X * Y).toInt, 0)
 | 3 => if Y.toInt = 0 then (0, 21) else if X.toInt = -2 ^ (W - 1) ∧ Y.toInt = -1 then (0, 22) else (X.toInt.tdiv Y.toInt, 0)
 | 4 => if Y.toInt = 0 then (0, 21) else ((X / Y).toInt, 0)
 | 5 => if Y.toInt = 0 then (0, 21) else (X.toInt.tmod Y.toInt, 0)
 | 6 => if Y.toInt = 0 then (0, 21) else ((X % Y).toInt, 0)
 | 7 => ((X &&& Y).toInt, 0)
 | 8 => ((X ||| Y).toInt, 0)
 | 9 => ((X ^^^ Y).toInt, 0)
 | 10 => ((X <<< (Y.toNat % W)).toInt, 0)
 | 11 => ((X.sshiftRight (Y.toNat % W)).toInt, 0)
 | 12 => ((X >>> (Y.toNat % W)).toInt, 0)
 | 13 => ((X <<< (Y.toNat % W) ||| X >>> (W - Y.toNat % W)).toInt, 0)
 | 14 => ((X <<< (W - Y.toNat % W) ||| X >>> (Y.toNat % W)).toInt, 0)
 | _ => (0, 6)
def t2i (b : Bool) : Int := if b then 1 else 0
def twoV (op a b : Int) : Int × Int :=
 if 70 ≤ op ∧ op ≤ 79 then (t2i (cmpV (op - 70).toNat (BitVec.ofInt 32 a) (BitVec.ofInt 32 b)), 0)
 else if 81 ≤ op ∧ op ≤ 90 then (t2i (cmpV (op - 81).toNat (BitVec.ofInt 64 a) (BitVec.ofInt 64 b)), 0)
 else if 106 ≤ op ∧ op ≤ 120 then recV (op - 106).toNat (BitVec.ofInt 32 a) (BitVec.ofInt 32 b)
 else if 124 ≤ op ∧ op ≤ 138 then recV (op - 124).toNat (BitVec.ofInt 64 a) (BitVec.ofInt 64 b)
 else (0, 6)
theorem shl_bv {W : Nat} (X : BitVec W) (n : Nat) : X <<< n = BitVec.ofInt W (X.toInt * 2 ^ n) := by
 apply BitVec.eq_of_toInt_eq
 rw [BitVec.toInt_shiftLeft, BitVec.toInt_ofInt]
 rw [Nat.shiftLeft_eq, Int.natCast_mul, Int.natCast_pow, BitVec.toInt_eq_toNat_bmod, Int.bmod_mul_bmod]; rfl
theorem toInt_lt32 (X : BitVec 32) : -2147483648 ≤ X.toInt ∧ X.toInt ≤ 2147483647 := by
 have h1 := BitVec.le_toInt X
 have h2 := BitVec.toInt_lt (x := X)
 omega
theorem toInt_lt64 (X : BitVec 64) : -9223372036854775808 ≤ X.toInt ∧ X.toInt ≤ 9223372036854775807 := by
 have h1 := BitVec.le_toInt X
 have h2 := BitVec.toInt_lt (x := X)
 omega
theorem of64_toInt (a : Int) (h : -9223372036854775808 ≤ a ∧ a ≤ 9223372036854775807) : (BitVec.ofInt 64 a).toInt = a := by
 rw [← w64_bv, wrap64]; omega
theorem sshr_bv {W : Nat} (X : BitVec W) (n : Nat) : (X.sshiftRight n).toInt = X.toInt / 2 ^ n := by
 rw [BitVec.toInt_sshiftRight, Int.shiftRight_eq_div_pow]
 rw [Int.natCast_pow]; rfl
theorem ushr_bv {W : Nat} (X : BitVec W) (n : Nat) : ((X >>> n).toNat : Int) = (X.toNat : Int) / 2 ^ n := by
 rw [BitVec.toNat_ushiftRight, Nat.shiftRight_eq_div_pow, Int.natCast_ediv, Int.natCast_pow]; rfl
theorem shl_nat32 (X : BitVec 32) (n : Nat) : ((X <<< n).toNat : Int) = (X.toNat : Int) * 2 ^ n % 4294967296 := by
 rw [BitVec.toNat_shiftLeft, Nat.shiftLeft_eq, Int.natCast_emod, Int.natCast_mul, Int.natCast_pow]; rfl
theorem shl_nat64 (X : BitVec 64) (n : Nat) : ((X <<< n).toNat : Int) = (X.toNat : Int) * 2 ^ n % 18446744073709551616 := by
 rw [BitVec.toNat_shiftLeft, Nat.shiftLeft_eq, Int.natCast_emod, Int.natCast_mul, Int.natCast_pow]; rfl
end Go.Proofs.YtkceplamaocmmaaGreatDoor
namespace Go.Proofs.YtkceplamaocmmaaGreatDoor
open Go.RowKit
theorem tdiv_range (M p q : Int) (hM : 2 ≤ M) (hp : -M ≤ p) (hp' : p ≤ M - 1) (hq : ¬ q = 0) (hc : ¬ (p = -M ∧ q = -1)) :
  -M ≤ p.tdiv q ∧ p.tdiv q ≤ M - 1 ∧ (p < 0 → q < 0 → 0 ≤ p.tdiv q) := by
 have hs : p < 0 → q < 0 → 0 ≤ p.tdiv q := by
  intro h1 h2
  have := Int.tdiv_nonneg (a := -p) (b := -q) (by omega) (by omega)
  rwa [Int.neg_tdiv_neg] at this
 have hb : -M ≤ p.tdiv q ∧ p.tdiv q ≤ M - 1 := by
  by_cases h1 : q = 1
  ·subst h1; rw [Int.tdiv_one]; omega
  by_cases h2 : q = -1
  ·subst h2
   rw [Int.tdiv_neg, Int.tdiv_one]
   omega
  have hn : (p.tdiv q).natAbs = p.natAbs / q.natAbs := Int.natAbs_tdiv p q
  have h3 : p.natAbs / q.natAbs ≤ p.natAbs / 2 := Nat.div_le_div_left (by omega) (by omega)
  omega
 exact ⟨hb.1, hb.2, hs⟩
theorem tmod_range (M p q : Int) (hM : 1 ≤ M) (hp : -M ≤ p) (hp' : p ≤ M - 1) : -M ≤ p.tmod q ∧ p.tmod q ≤ M - 1 := by
 have hn : (p.tmod q).natAbs = p.natAbs % q.natAbs := Int.natAbs_tmod p q
 have h3 := Nat.mod_le p.natAbs q.natAbs
 by_cases h : 0 ≤ p
 ·have := Int.tmod_nonneg q h
  omega
 ·have := Int.tmod_nonneg (a := -p) q (by omega)
  rw [Int.neg_tmod] at this
  omega
theorem of_toInt {W : Nat} (X : BitVec W) : BitVec.ofInt W X.toInt = X := BitVec.ofInt_toInt
theorem u32_of (X : BitVec 32) : X.toInt % 4294967296 = (X.toNat : Int) := by rw [u32_bv, of_toInt]
theorem u64_of (X : BitVec 64) : IntKind.u64.wrap X.toInt = (X.toNat : Int) := by rw [IntKind.wrap_u64, u64_bv, of_toInt]
theorem by32 (Y : BitVec 32) : (Y.toInt % 32).toNat = Y.toNat % 32 := by
 have := u32_of Y
 omega
theorem by32c (Y : BitVec 32) : (32 - Y.toInt % 32).toNat = 32 - Y.toNat % 32 := by
 have := by32 Y
 omega
theorem by32d (Y : BitVec 32) : (32 - (32 - Y.toInt % 32)).toNat = Y.toNat % 32 := by
 have := by32 Y
 omega
theorem by64 (Y : BitVec 64) : ((Y.toNat : Int) % 64).toNat = Y.toNat % 64 := by omega
theorem by64c (Y : BitVec 64) : (64 - (Y.toNat : Int) % 64).toNat = 64 - Y.toNat % 64 := by omega
theorem by64d (Y : BitVec 64) : (64 - (64 - (Y.toNat : Int) % 64)).toNat = Y.toNat % 64 := by omega
theorem udiv32 (X Y : BitVec 32) : wrap32 (wrap64 ((X.toNat : Int) / (Y.toNat : Int))) = (X / Y).toInt := by
 rw [← Int.natCast_ediv, ← BitVec.toNat_udiv, ← w32_nat]
 have := (X / Y).isLt
 simp only [wrap32, wrap64]; omega
theorem umod32 (X Y : BitVec 32) : wrap32 (wrap64 ((X.toNat : Int) % (Y.toNat : Int))) = (X % Y).toInt := by
 rw [← Int.natCast_emod, ← BitVec.toNat_umod, ← w32_nat]
 have := (X % Y).isLt
 simp only [wrap32, wrap64]; omega
theorem udiv64 (X Y : BitVec 64) : wrap64 ((X.toNat : Int) / (Y.toNat : Int)) = (X / Y).toInt := by
 rw [← Int.natCast_ediv, ← BitVec.toNat_udiv, ← w64_nat]
theorem umod64 (X Y : BitVec 64) : wrap64 ((X.toNat : Int) % (Y.toNat : Int)) = (X % Y).toInt := by
 rw [← Int.natCast_emod, ← BitVec.toNat_umod, ← w64_nat]
theorem toNat_zero {W : Nat} (Y : BitVec W) : Y.toInt = 0 ↔ Y.toNat = 0 := by
 constructor
 ·intro h
  have := of_toInt Y
  rw [h] at this
  rw [← this]; simp
 ·intro h
  have : Y = 0#W := BitVec.eq_of_toNat_eq (by rw [h]; simp)
  rw [this]; simp
theorem eq_bv {W : Nat} (X Y : BitVec W) : decide (X.toInt = Y.toInt) = decide (X = Y) := by rw [decide_eq_decide]; exact BitVec.toInt_inj
theorem shl32 (X Y : BitVec 32) : wrap32 (X.toInt * 2 ^ (Y.toInt % 32).toNat) = (X <<< (Y.toNat % 32)).toInt := by rw [by32, w32_bv, ← shl_bv]
theorem sshr32 (X Y : BitVec 32) : X.toInt / 2 ^ (Y.toInt % 32).toNat = (X.sshiftRight (Y.toNat % 32)).toInt := by rw [by32, sshr_bv]
theorem ushr32 (X Y : BitVec 32) : wrap32 (X.toInt % 4294967296 / 2 ^ (Y.toInt % 32).toNat) = (X >>> (Y.toNat % 32)).toInt := by rw [by32, u32_of, ← ushr_bv, w32_nat]
theorem rotl32 (X Y : BitVec 32) : wrap32 (bits BinOp.or IntKind.u32 (X.toInt % 4294967296 * 2 ^ (Y.toInt % 32).toNat % 4294967296) (X.toInt % 4294967296 / 2 ^ (32 - Y.toInt % 32).toNat)) = (X <<< (Y.toNat % 32) ||| X >>> (32 - Y.toNat % 32)).toInt := by
 rw [by32, by32c, u32_of, ← ushr_bv, ← shl_nat32, or_u32, w32_nat]
theorem rotr32 (X Y : BitVec 32) : wrap32 (bits BinOp.or IntKind.u32 (X.toInt % 4294967296 * 2 ^ (32 - Y.toInt % 32).toNat % 4294967296) (X.toInt % 4294967296 / 2 ^ (32 - (32 - Y.toInt % 32)).toNat)) = (X <<< (32 - Y.toNat % 32) ||| X >>> (Y.toNat % 32)).toInt := by
 rw [by32d, by32c, u32_of, ← ushr_bv, ← shl_nat32, or_u32, w32_nat]
theorem shl64 (X Y : BitVec 64) : wrap64 (X.toInt * 2 ^ ((Y.toNat : Int) % 64).toNat) = (X <<< (Y.toNat % 64)).toInt := by rw [by64, w64_bv, ← shl_bv]
theorem sshr64 (X Y : BitVec 64) : X.toInt / 2 ^ ((Y.toNat : Int) % 64).toNat = (X.sshiftRight (Y.toNat % 64)).toInt := by rw [by64, sshr_bv]
theorem ushr64 (X Y : BitVec 64) : wrap64 ((X.toNat : Int) / 2 ^ ((Y.toNat : Int) % 64).toNat) = (X >>> (Y.toNat % 64)).toInt := by rw [by64, ← ushr_bv, w64_nat]
theorem rotl64 (X Y : BitVec 64) : wrap64 (bits BinOp.or IntKind.u64 (IntKind.u64.wrap ((X.toNat : Int) * 2 ^ ((Y.toNat : Int) % 64).toNat)) ((X.toNat : Int) / 2 ^ (64 - (Y.toNat : Int) % 64).toNat)) = (X <<< (Y.toNat % 64) ||| X >>> (64 - Y.toNat % 64)).toInt := by
 rw [by64, by64c, IntKind.wrap_u64, ← ushr_bv, ← shl_nat64, or_u64, w64_nat]
theorem rotr64 (X Y : BitVec 64) : wrap64 (bits BinOp.or IntKind.u64 (IntKind.u64.wrap ((X.toNat : Int) * 2 ^ (64 - (Y.toNat : Int) % 64).toNat)) ((X.toNat : Int) / 2 ^ (64 - (64 - (Y.toNat : Int) % 64)).toNat)) = (X <<< (64 - Y.toNat % 64) ||| X >>> (Y.toNat % 64)).toInt := by
 rw [by64d, by64c, IntKind.wrap_u64, ← ushr_bv, ← shl_nat64, or_u64, w64_nat]
theorem in32 (n : Int) (h0 : -2147483648 ≤ n) (h1 : n ≤ 2147483647) : wrap32 n = n := by simp only [wrap32]; omega
theorem in64 (n : Int) (h0 : -9223372036854775808 ≤ n) (h1 : n ≤ 9223372036854775807) : wrap64 n = n := by simp only [wrap64]; omega
end Go.Proofs.YtkceplamaocmmaaGreatDoor
namespace Go.Proofs.YtkceplamaocmmaaGreatDoor
open Go.RowKit
theorem ptruth (b : Bool) (w : World) :
  Calls Tryz.prog 100 #[.bool b] w fun e w' => e = .returned (.int .i64 (t2i b)) ∧ w' = w := by
 cases b
 ·go_enter Tryz.func100, Tryz.ntmps100
  go_wp2
  go_ret
  exact ⟨rfl, rfl⟩
 ·go_enter Tryz.func100, Tryz.ntmps100
  go_wp2
  go_ret
  exact ⟨rfl, rfl⟩
theorem ri {k : IntKind} {a b : Int} {w : World} (h : a = b) : Ending.returned (.int k a) = .returned (.int k b) ∧ w = w := by rw [h]; exact ⟨rfl, rfl⟩
theorem w64_w32 (x : Int) : wrap64 (wrap32 x) = wrap32 x := by simp only [wrap64, wrap32]; omega
theorem rb {a b : Bool} {w : World} (h : a = b) : Ending.returned (.bool a) = .returned (.bool b) ∧ w = w := by rw [h]; exact ⟨rfl, rfl⟩
theorem r2 {k l : IntKind} {a b c d : Int} {w : World} (h : a = b) (h' : c = d) : Ending.returned (.tuple #[.int k a, .int l c]) = .returned (.tuple #[.int k b, .int l d]) ∧ w = w := by rw [h, h']; exact ⟨rfl, rfl⟩
theorem plen32 (x : Int) (h0 : 4294967295 ≤ x) (h1 : x ≤ 4294967295) (w : World) :
  Calls Tryz.prog 102 #[.int .u64 x] w fun e w' => e = .returned (.int .i64 32) ∧ w' = w := by
 go_enter Tryz.func102, Tryz.ntmps102
 go_wp2
 go_ret
 have hx : x = 4294967295 := by omega
 subst hx
 exact ri (by decide +kernel +revert)
theorem pwidth32 (w : World) :
  Calls Tryz.prog 105 #[] w fun e w' => e = .returned (.int .i64 32) ∧ w' = w := by
 go_enter Tryz.func105, Tryz.ntmps105
 go_wp2_with fail
 refine (plen32 _ (by decide +kernel) (by decide +kernel) _).mono ?_
 rintro e w1 ⟨rfl, rfl⟩
 go_wp2
 go_ret
 exact ri rfl
theorem combine32_106 (a b : Int) (w : World) :
  Calls Tryz.prog 114 #[.int .u8 106, .int .i32 a, .int .i32 b] w fun e w' => e = .returned (.int .i32 ((BitVec.ofInt 32 a + BitVec.ofInt 32 b).toInt)) ∧ w' = w := by
 go_enter Tryz.func114, Tryz.ntmps114
 go_wp2
 go_ret
 exact ri (by rw [w32_bv, BitVec.ofInt_add])
theorem combine32_107 (a b : Int) (w : World) :
  Calls Tryz.prog 114 #[.int .u8 107, .int .i32 a, .int .i32 b] w fun e w' => e = .returned (.int .i32 ((BitVec.ofInt 32 a - BitVec.ofInt 32 b).toInt)) ∧ w' = w := by
 go_enter Tryz.func114, Tryz.ntmps114
 go_wp2
 go_ret
 exact ri (by rw [w32_bv, ofInt_sub'])
theorem combine32_108 (a b : Int) (w : World) :
  Calls Tryz.prog 114 #[.int .u8 108, .int .i32 a, .int .i32 b] w fun e w' => e = .returned (.int .i32 ((BitVec.ofInt 32 a * BitVec.ofInt 32 b).toInt)) ∧ w' = w := by
 go_enter Tryz.func114, Tryz.ntmps114
 go_wp2
 go_ret
 exact ri (by rw [w32_bv, BitVec.ofInt_mul])
theorem combine32_113 (a b : Int) (w : World) :
  Calls Tryz.prog 114 #[.int .u8 113, .int .i32 a, .int .i32 b] w fun e w' => e = .returned (.int .i32 ((BitVec.ofInt 32 a &&& BitVec.ofInt 32 b).toInt)) ∧ w' = w := by
 go_enter Tryz.func114, Tryz.ntmps114
 go_wp2
 go_ret
 exact ri (and32_bv a b)
theorem combine32_114 (a b : Int) (w : World) :
  Calls Tryz.prog 114 #[.int .u8 114, .int .i32 a, .int .i32 b] w fun e w' => e = .returned (.int .i32 ((BitVec.ofInt 32 a ||| BitVec.ofInt 32 b).toInt)) ∧ w' = w := by
 go_enter Tryz.func114, Tryz.ntmps114
 go_wp2
 go_ret
 exact ri (or32_bv a b)
theorem combine32_115 (a b : Int) (w : World) :
  Calls Tryz.prog 114 #[.int .u8 115, .int .i32 a, .int .i32 b] w fun e w' => e = .returned (.int .i32 ((BitVec.ofInt 32 a ^^^ BitVec.ofInt 32 b).toInt)) ∧ w' = w := by
 go_enter Tryz.func114, Tryz.ntmps114
 go_wp2
 go_ret
 exact ri (xor32_bv a b)
theorem plen64 (x : Int) (h0 : 18446744073709551615 ≤ x) (h1 : x ≤ 18446744073709551615) (w : World) :
  Calls Tryz.prog 102 #[.int .u64 x] w fun e w' => e = .returned (.int .i64 64) ∧ w' = w := by
 go_enter Tryz.func102, Tryz.ntmps102
 go_wp2
 go_ret
 have hx : x = 18446744073709551615 := by omega
 subst hx
 exact ri (by decide +kernel +revert)
theorem pwidth64 (w : World) :
  Calls Tryz.prog 101 #[] w fun e w' => e = .returned (.int .i64 64) ∧ w' = w := by
 go_enter Tryz.func101, Tryz.ntmps101
 go_wp2_with fail
 refine (plen64 _ (by decide +kernel) (by decide +kernel) _).mono ?_
 rintro e w1 ⟨rfl, rfl⟩
 go_wp2
 go_ret
 exact ri rfl
theorem combine64_106 (a b : Int) (w : World) :
  Calls Tryz.prog 108 #[.int .u8 106, .int .i64 a, .int .i64 b] w fun e w' => e = .returned (.int .i64 ((BitVec.ofInt 64 a + BitVec.ofInt 64 b).toInt)) ∧ w' = w := by
 go_enter Tryz.func108, Tryz.ntmps108
 go_wp2
 go_ret
 exact ri (by rw [w64_bv, BitVec.ofInt_add])
theorem combine64_107 (a b : Int) (w : World) :
  Calls Tryz.prog 108 #[.int .u8 107, .int .i64 a, .int .i64 b] w fun e w' => e = .returned (.int .i64 ((BitVec.ofInt 64 a - BitVec.ofInt 64 b).toInt)) ∧ w' = w := by
 go_enter Tryz.func108, Tryz.ntmps108
 go_wp2
 go_ret
 exact ri (by rw [w64_bv, ofInt_sub'])
theorem combine64_108 (a b : Int) (w : World) :
  Calls Tryz.prog 108 #[.int .u8 108, .int .i64 a, .int .i64 b] w fun e w' => e = .returned (.int .i64 ((BitVec.ofInt 64 a * BitVec.ofInt 64 b).toInt)) ∧ w' = w := by
 go_enter Tryz.func108, Tryz.ntmps108
 go_wp2
 go_ret
 exact ri (by rw [w64_bv, BitVec.ofInt_mul])
theorem combine64_113 (a b : Int) (w : World) :
  Calls Tryz.prog 108 #[.int .u8 113, .int .i64 a, .int .i64 b] w fun e w' => e = .returned (.int .i64 ((BitVec.ofInt 64 a &&& BitVec.ofInt 64 b).toInt)) ∧ w' = w := by
 go_enter Tryz.func108, Tryz.ntmps108
 go_wp2
 go_ret
 exact ri (and64_bv a b)
theorem combine64_114 (a b : Int) (w : World) :
  Calls Tryz.prog 108 #[.int .u8 114, .int .i64 a, .int .i64 b] w fun e w' => e = .returned (.int .i64 ((BitVec.ofInt 64 a ||| BitVec.ofInt 64 b).toInt)) ∧ w' = w := by
 go_enter Tryz.func108, Tryz.ntmps108
 go_wp2
 go_ret
 exact ri (or64_bv a b)
theorem combine64_115 (a b : Int) (w : World) :
  Calls Tryz.prog 108 #[.int .u8 115, .int .i64 a, .int .i64 b] w fun e w' => e = .returned (.int .i64 ((BitVec.ofInt 64 a ^^^ BitVec.ofInt 64 b).toInt)) ∧ w' = w := by
 go_enter Tryz.func108, Tryz.ntmps108
 go_wp2
 go_ret
 exact ri (xor64_bv a b)
end Go.Proofs.YtkceplamaocmmaaGreatDoor
namespace Go.Proofs.YtkceplamaocmmaaGreatDoor
open Go.RowKit
theorem holds32_70 (a b : Int) (w : World) :
  Calls Tryz.prog 112 #[.int .u8 70, .int .i32 a, .int .i32 b] w fun e w' => e = .returned (.bool (decide (a = b))) ∧ w' = w := by
 go_enter Tryz.func112, Tryz.ntmps112
 go_wp2
 go_ret
 exact rb (by first | rfl | (by_cases h : a = b <;> simp [h]) | (simp only [decide_eq_decide]; omega))
theorem holds32_71 (a b : Int) (w : World) :
  Calls Tryz.prog 112 #[.int .u8 71, .int .i32 a, .int .i32 b] w fun e w' => e = .returned (.bool (! decide (a = b))) ∧ w' = w := by
 go_enter Tryz.func112, Tryz.ntmps112
 go_wp2
 go_ret
 exact rb (by first | rfl | (by_cases h : a = b <;> simp [h]) | (simp only [decide_eq_decide]; omega))
theorem holds32_72 (a b : Int) (w : World) :
  Calls Tryz.prog 112 #[.int .u8 72, .int .i32 a, .int .i32 b] w fun e w' => e = .returned (.bool (decide (a < b))) ∧ w' = w := by
 go_enter Tryz.func112, Tryz.ntmps112
 go_wp2
 go_ret
 exact rb (by first | rfl | (by_cases h : a = b <;> simp [h]) | (simp only [decide_eq_decide]; omega))
theorem holds32_74 (a b : Int) (w : World) :
  Calls Tryz.prog 112 #[.int .u8 74, .int .i32 a, .int .i32 b] w fun e w' => e = .returned (.bool (decide (b < a))) ∧ w' = w := by
 go_enter Tryz.func112, Tryz.ntmps112
 go_wp2
 go_ret
 exact rb (by first | rfl | (by_cases h : a = b <;> simp [h]) | (simp only [decide_eq_decide]; omega))
theorem holds32_76 (a b : Int) (w : World) :
  Calls Tryz.prog 112 #[.int .u8 76, .int .i32 a, .int .i32 b] w fun e w' => e = .returned (.bool (decide (a ≤ b))) ∧ w' = w := by
 go_enter Tryz.func112, Tryz.ntmps112
 go_wp2
 go_ret
 exact rb (by first | rfl | (by_cases h : a = b <;> simp [h]) | (simp only [decide_eq_decide]; omega))
theorem holds32_78 (a b : Int) (w : World) :
  Calls Tryz.prog 112 #[.int .u8 78, .int .i32 a, .int .i32 b] w fun e w' => e = .returned (.bool (decide (b ≤ a))) ∧ w' = w := by
 go_enter Tryz.func112, Tryz.ntmps112
 go_wp2
 go_ret
 exact rb (by first | rfl | (by_cases h : a = b <;> simp [h]) | (simp only [decide_eq_decide]; omega))
theorem holdsu32_72 (a b : Int) (w : World) :
  Calls Tryz.prog 113 #[.int .u8 72, .int .u32 a, .int .u32 b] w fun e w' => e = .returned (.bool (decide (a < b))) ∧ w' = w := by
 go_enter Tryz.func113, Tryz.ntmps113
 go_wp2
 go_ret
 exact rb (by first | rfl | (by_cases h : a = b <;> simp [h]) | (simp only [decide_eq_decide]; omega))
theorem holdsu32_74 (a b : Int) (w : World) :
  Calls Tryz.prog 113 #[.int .u8 74, .int .u32 a, .int .u32 b] w fun e w' => e = .returned (.bool (decide (b < a))) ∧ w' = w := by
 go_enter Tryz.func113, Tryz.ntmps113
 go_wp2
 go_ret
 exact rb (by first | rfl | (by_cases h : a = b <;> simp [h]) | (simp only [decide_eq_decide]; omega))
theorem holdsu32_76 (a b : Int) (w : World) :
  Calls Tryz.prog 113 #[.int .u8 76, .int .u32 a, .int .u32 b] w fun e w' => e = .returned (.bool (decide (a ≤ b))) ∧ w' = w := by
 go_enter Tryz.func113, Tryz.ntmps113
 go_wp2
 go_ret
 exact rb (by first | rfl | (by_cases h : a = b <;> simp [h]) | (simp only [decide_eq_decide]; omega))
theorem holdsu32_78 (a b : Int) (w : World) :
  Calls Tryz.prog 113 #[.int .u8 78, .int .u32 a, .int .u32 b] w fun e w' => e = .returned (.bool (decide (b ≤ a))) ∧ w' = w := by
 go_enter Tryz.func113, Tryz.ntmps113
 go_wp2
 go_ret
 exact rb (by first | rfl | (by_cases h : a = b <;> simp [h]) | (simp only [decide_eq_decide]; omega))
theorem holds64_70 (a b : Int) (w : World) :
  Calls Tryz.prog 106 #[.int .u8 70, .int .i64 a, .int .i64 b] w fun e w' => e = .returned (.bool (decide (a = b))) ∧ w' = w := by
 go_enter Tryz.func106, Tryz.ntmps106
 go_wp2
 go_ret
 exact rb (by first | rfl | (by_cases h : a = b <;> simp [h]) | (simp only [decide_eq_decide]; omega))
theorem holds64_71 (a b : Int) (w : World) :
  Calls Tryz.prog 106 #[.int .u8 71, .int .i64 a, .int .i64 b] w fun e w' => e = .returned (.bool (! decide (a = b))) ∧ w' = w := by
 go_enter Tryz.func106, Tryz.ntmps106
 go_wp2
 go_ret
 exact rb (by first | rfl | (by_cases h : a = b <;> simp [h]) | (simp only [decide_eq_decide]; omega))
theorem holds64_72 (a b : Int) (w : World) :
  Calls Tryz.prog 106 #[.int .u8 72, .int .i64 a, .int .i64 b] w fun e w' => e = .returned (.bool (decide (a < b))) ∧ w' = w := by
 go_enter Tryz.func106, Tryz.ntmps106
 go_wp2
 go_ret
 exact rb (by first | rfl | (by_cases h : a = b <;> simp [h]) | (simp only [decide_eq_decide]; omega))
theorem holds64_74 (a b : Int) (w : World) :
  Calls Tryz.prog 106 #[.int .u8 74, .int .i64 a, .int .i64 b] w fun e w' => e = .returned (.bool (decide (b < a))) ∧ w' = w := by
 go_enter Tryz.func106, Tryz.ntmps106
 go_wp2
 go_ret
 exact rb (by first | rfl | (by_cases h : a = b <;> simp [h]) | (simp only [decide_eq_decide]; omega))
theorem holds64_76 (a b : Int) (w : World) :
  Calls Tryz.prog 106 #[.int .u8 76, .int .i64 a, .int .i64 b] w fun e w' => e = .returned (.bool (decide (a ≤ b))) ∧ w' = w := by
 go_enter Tryz.func106, Tryz.ntmps106
 go_wp2
 go_ret
 exact rb (by first | rfl | (by_cases h : a = b <;> simp [h]) | (simp only [decide_eq_decide]; omega))
theorem holds64_78 (a b : Int) (w : World) :
  Calls Tryz.prog 106 #[.int .u8 78, .int .i64 a, .int .i64 b] w fun e w' => e = .returned (.bool (decide (b ≤ a))) ∧ w' = w := by
 go_enter Tryz.func106, Tryz.ntmps106
 go_wp2
 go_ret
 exact rb (by first | rfl | (by_cases h : a = b <;> simp [h]) | (simp only [decide_eq_decide]; omega))
theorem holdsu64_72 (a b : Int) (w : World) :
  Calls Tryz.prog 107 #[.int .u8 72, .int .u64 a, .int .u64 b] w fun e w' => e = .returned (.bool (decide (a < b))) ∧ w' = w := by
 go_enter Tryz.func107, Tryz.ntmps107
 go_wp2
 go_ret
 exact rb (by first | rfl | (by_cases h : a = b <;> simp [h]) | (simp only [decide_eq_decide]; omega))
theorem holdsu64_74 (a b : Int) (w : World) :
  Calls Tryz.prog 107 #[.int .u8 74, .int .u64 a, .int .u64 b] w fun e w' => e = .returned (.bool (decide (b < a))) ∧ w' = w := by
 go_enter Tryz.func107, Tryz.ntmps107
 go_wp2
 go_ret
 exact rb (by first | rfl | (by_cases h : a = b <;> simp [h]) | (simp only [decide_eq_decide]; omega))
theorem holdsu64_76 (a b : Int) (w : World) :
  Calls Tryz.prog 107 #[.int .u8 76, .int .u64 a, .int .u64 b] w fun e w' => e = .returned (.bool (decide (a ≤ b))) ∧ w' = w := by
 go_enter Tryz.func107, Tryz.ntmps107
 go_wp2
 go_ret
 exact rb (by first | rfl | (by_cases h : a = b <;> simp [h]) | (simp only [decide_eq_decide]; omega))
theorem holdsu64_78 (a b : Int) (w : World) :
  Calls Tryz.prog 107 #[.int .u8 78, .int .u64 a, .int .u64 b] w fun e w' => e = .returned (.bool (decide (b ≤ a))) ∧ w' = w := by
 go_enter Tryz.func107, Tryz.ntmps107
 go_wp2
 go_ret
 exact rb (by first | rfl | (by_cases h : a = b <;> simp [h]) | (simp only [decide_eq_decide]; omega))
end Go.Proofs.YtkceplamaocmmaaGreatDoor
namespace Go.Proofs.YtkceplamaocmmaaGreatDoor
open Go.RowKit
theorem quot32_109_zero (a b : Int) (h : b = 0) (w : World) :
  Calls Tryz.prog 115 #[.int .u8 109, .int .i32 a, .int .i32 b] w fun e w' => e = .returned (.tuple #[.int .i64 0, .int .i64 21]) ∧ w' = w := by
 go_enter Tryz.func115, Tryz.ntmps115
 subst h
 go_wp2
 go_ret2
 exact r2 rfl rfl
theorem quot32_109 (a b : Int) (hb : ¬ b = 0) (hc : ¬ (a < 0 ∧ b < 0 ∧ wrap32 (a.tdiv b) < 0)) (w : World) :
  Calls Tryz.prog 115 #[.int .u8 109, .int .i32 a, .int .i32 b] w fun e w' => e = .returned (.tuple #[.int .i64 (wrap32 (a.tdiv b)), .int .i64 0]) ∧ w' = w := by
 go_enter Tryz.func115, Tryz.ntmps115
 have hbb : (b == 0) = false := by rw [beq_eq_false_iff_ne]; exact hb
 go_wp2
 all_goals go_ret2
 all_goals first | (exfalso; exact hc ⟨‹_›, ‹_›, ‹_›⟩) | exact r2 rfl rfl | exact r2 (w64_w32 _) rfl
theorem quot32_109_over (a b : Int) (hb : ¬ b = 0) (ha : a < 0) (hb0 : b < 0) (hq : wrap32 (a.tdiv b) < 0) (w : World) :
  Calls Tryz.prog 115 #[.int .u8 109, .int .i32 a, .int .i32 b] w fun e w' => e = .returned (.tuple #[.int .i64 0, .int .i64 22]) ∧ w' = w := by
 go_enter Tryz.func115, Tryz.ntmps115
 have hbb : (b == 0) = false := by rw [beq_eq_false_iff_ne]; exact hb
 go_wp2
 go_ret2
 exact r2 rfl rfl
theorem quot32_111_zero (a b : Int) (h : b = 0) (w : World) :
  Calls Tryz.prog 115 #[.int .u8 111, .int .i32 a, .int .i32 b] w fun e w' => e = .returned (.tuple #[.int .i64 0, .int .i64 21]) ∧ w' = w := by
 go_enter Tryz.func115, Tryz.ntmps115
 subst h
 go_wp2
 go_ret2
 exact r2 rfl rfl
theorem quot32_111 (a b : Int) (hb : ¬ b = 0) (R : Int) (hR : a.tmod b = R) (_h0 : -2147483648 ≤ R) (_h1 : R ≤ 2147483647) (w : World) :
  Calls Tryz.prog 115 #[.int .u8 111, .int .i32 a, .int .i32 b] w fun e w' => e = .returned (.tuple #[.int .i64 R, .int .i64 0]) ∧ w' = w := by
 go_enter Tryz.func115, Tryz.ntmps115
 have HR : Hid (a.tmod b = R) := hR
 clear hR
 have hbb : (b == 0) = false := by rw [beq_eq_false_iff_ne]; exact hb
 go_wp2
 go_ret2
 exact r2 (by have := HR.out; first | exact this | (rw [this, wrap64]; omega)) rfl
theorem quotu32_109_zero (a b : Int) (h : b = 0) (w : World) :
  Calls Tryz.prog 116 #[.int .u8 109, .int .u32 a, .int .u32 b] w fun e w' => e = .returned (.tuple #[.int .i64 0, .int .i64 21]) ∧ w' = w := by
 go_enter Tryz.func116, Tryz.ntmps116
 subst h
 go_wp2
 go_ret2
 exact r2 rfl rfl
theorem quotu32_109 (a b : Int) (hb : ¬ b = 0) (_ha : 0 ≤ a) (_ha1 : a < 4294967296) (_hb0 : 0 ≤ b) (w : World) :
  Calls Tryz.prog 116 #[.int .u8 109, .int .u32 a, .int .u32 b] w fun e w' => e = .returned (.tuple #[.int .i64 (wrap64 (a / b)), .int .i64 0]) ∧ w' = w := by
 go_enter Tryz.func116, Tryz.ntmps116
 have hbb : (b == 0) = false := by rw [beq_eq_false_iff_ne]; exact hb
 go_wp2
 go_ret2
 exact r2 rfl rfl
theorem quotu32_111_zero (a b : Int) (h : b = 0) (w : World) :
  Calls Tryz.prog 116 #[.int .u8 111, .int .u32 a, .int .u32 b] w fun e w' => e = .returned (.tuple #[.int .i64 0, .int .i64 21]) ∧ w' = w := by
 go_enter Tryz.func116, Tryz.ntmps116
 subst h
 go_wp2
 go_ret2
 exact r2 rfl rfl
theorem quotu32_111 (a b : Int) (hb : ¬ b = 0) (_ha : 0 ≤ a) (_ha1 : a < 4294967296) (_hb0 : 0 ≤ b) (w : World) :
  Calls Tryz.prog 116 #[.int .u8 111, .int .u32 a, .int .u32 b] w fun e w' => e = .returned (.tuple #[.int .i64 (wrap64 (a % b)), .int .i64 0]) ∧ w' = w := by
 go_enter Tryz.func116, Tryz.ntmps116
 have hbb : (b == 0) = false := by rw [beq_eq_false_iff_ne]; exact hb
 go_wp2
 go_ret2
 exact r2 rfl rfl
theorem move32_116 (a b : Int) (w : World) :
  Calls Tryz.prog 117 #[.int .u8 116, .int .i32 a, .int .i32 b] w fun e w' => e = .returned (.int .i32 (wrap32 (a * 2 ^ (b % 32).toNat))) ∧ w' = w := by
 go_enter Tryz.func117, Tryz.ntmps117
 go_wp2_with fail
 refine (pwidth32 _).mono ?_
 rintro e w1 ⟨rfl, rfl⟩
 go_wp2
 go_ret
 exact ri rfl
theorem move32_117 (a b : Int) (w : World) :
  Calls Tryz.prog 117 #[.int .u8 117, .int .i32 a, .int .i32 b] w fun e w' => e = .returned (.int .i32 (a / 2 ^ (b % 32).toNat)) ∧ w' = w := by
 go_enter Tryz.func117, Tryz.ntmps117
 go_wp2_with fail
 refine (pwidth32 _).mono ?_
 rintro e w1 ⟨rfl, rfl⟩
 go_wp2
 go_ret
 exact ri rfl
theorem move32_118 (a b : Int) (w : World) :
  Calls Tryz.prog 117 #[.int .u8 118, .int .i32 a, .int .i32 b] w fun e w' => e = .returned (.int .i32 (wrap32 (a % 4294967296 / 2 ^ (b % 32).toNat))) ∧ w' = w := by
 go_enter Tryz.func117, Tryz.ntmps117
 go_wp2_with fail
 refine (pwidth32 _).mono ?_
 rintro e w1 ⟨rfl, rfl⟩
 go_wp2
 go_ret
 exact ri rfl
theorem move32_119 (a b : Int) (w : World) :
  Calls Tryz.prog 117 #[.int .u8 119, .int .i32 a, .int .i32 b] w fun e w' => e = .returned (.int .i32 (wrap32 (bits BinOp.or IntKind.u32 (a % 4294967296 * 2 ^ (b % 32).toNat % 4294967296) (a % 4294967296 / 2 ^ (32 - b % 32).toNat)))) ∧ Below w.heap.size w w' := by
 go_enter Tryz.func117, Tryz.ntmps117
 go_wp2_with fail
 refine (pwidth32 _).mono ?_
 rintro e w1 ⟨rfl, rfl⟩
 go_wp2
 go_quiet (fail)
 go_wp2
 go_ret
 exact ⟨rfl, below_drewN (Below.refl _ _) _⟩
theorem move32_120 (a b : Int) (w : World) :
  Calls Tryz.prog 117 #[.int .u8 120, .int .i32 a, .int .i32 b] w fun e w' => e = .returned (.int .i32 (wrap32 (bits BinOp.or IntKind.u32 (a % 4294967296 * 2 ^ (32 - b % 32).toNat % 4294967296) (a % 4294967296 / 2 ^ (32 - (32 - b % 32)).toNat)))) ∧ Below w.heap.size w w' := by
 go_enter Tryz.func117, Tryz.ntmps117
 go_wp2_with fail
 refine (pwidth32 _).mono ?_
 rintro e w1 ⟨rfl, rfl⟩
 go_wp2
 go_quiet (fail)
 go_wp2
 go_ret
 exact ⟨rfl, below_drewN (Below.refl _ _) _⟩
theorem quot64_109_zero (a b : Int) (h : b = 0) (w : World) :
  Calls Tryz.prog 109 #[.int .u8 109, .int .i64 a, .int .i64 b] w fun e w' => e = .returned (.tuple #[.int .i64 0, .int .i64 21]) ∧ w' = w := by
 go_enter Tryz.func109, Tryz.ntmps109
 subst h
 go_wp2
 go_ret2
 exact r2 rfl rfl
theorem quot64_109 (a b : Int) (hb : ¬ b = 0) (hc : ¬ (a < 0 ∧ b < 0 ∧ wrap64 (a.tdiv b) < 0)) (w : World) :
  Calls Tryz.prog 109 #[.int .u8 109, .int .i64 a, .int .i64 b] w fun e w' => e = .returned (.tuple #[.int .i64 (wrap64 (a.tdiv b)), .int .i64 0]) ∧ w' = w := by
 go_enter Tryz.func109, Tryz.ntmps109
 have hbb : (b == 0) = false := by rw [beq_eq_false_iff_ne]; exact hb
 go_wp2
 all_goals go_ret2
 all_goals first | (exfalso; exact hc ⟨‹_›, ‹_›, ‹_›⟩) | exact r2 rfl rfl | exact r2 (w64_w32 _) rfl
theorem quot64_109_over (a b : Int) (hb : ¬ b = 0) (ha : a < 0) (hb0 : b < 0) (hq : wrap64 (a.tdiv b) < 0) (w : World) :
  Calls Tryz.prog 109 #[.int .u8 109, .int .i64 a, .int .i64 b] w fun e w' => e = .returned (.tuple #[.int .i64 0, .int .i64 22]) ∧ w' = w := by
 go_enter Tryz.func109, Tryz.ntmps109
 have hbb : (b == 0) = false := by rw [beq_eq_false_iff_ne]; exact hb
 go_wp2
 go_ret2
 exact r2 rfl rfl
theorem quot64_111_zero (a b : Int) (h : b = 0) (w : World) :
  Calls Tryz.prog 109 #[.int .u8 111, .int .i64 a, .int .i64 b] w fun e w' => e = .returned (.tuple #[.int .i64 0, .int .i64 21]) ∧ w' = w := by
 go_enter Tryz.func109, Tryz.ntmps109
 subst h
 go_wp2
 go_ret2
 exact r2 rfl rfl
theorem quot64_111 (a b : Int) (hb : ¬ b = 0) (R : Int) (hR : a.tmod b = R) (_h0 : -9223372036854775808 ≤ R) (_h1 : R ≤ 9223372036854775807) (w : World) :
  Calls Tryz.prog 109 #[.int .u8 111, .int .i64 a, .int .i64 b] w fun e w' => e = .returned (.tuple #[.int .i64 R, .int .i64 0]) ∧ w' = w := by
 go_enter Tryz.func109, Tryz.ntmps109
 have HR : Hid (a.tmod b = R) := hR
 clear hR
 have hbb : (b == 0) = false := by rw [beq_eq_false_iff_ne]; exact hb
 go_wp2
 go_ret2
 exact r2 (by have := HR.out; first | exact this | (rw [this, wrap64]; omega)) rfl
theorem quotu64_109_zero (a b : Int) (h : b = 0) (w : World) :
  Calls Tryz.prog 110 #[.int .u8 109, .int .u64 a, .int .u64 b] w fun e w' => e = .returned (.tuple #[.int .i64 0, .int .i64 21]) ∧ w' = w := by
 go_enter Tryz.func110, Tryz.ntmps110
 subst h
 go_wp2
 go_ret2
 exact r2 rfl rfl
theorem quotu64_109 (a b : Int) (hb : ¬ b = 0) (_ha : 0 ≤ a) (_ha1 : a < 18446744073709551616) (_hb0 : 0 ≤ b) (w : World) :
  Calls Tryz.prog 110 #[.int .u8 109, .int .u64 a, .int .u64 b] w fun e w' => e = .returned (.tuple #[.int .i64 (wrap64 (a / b)), .int .i64 0]) ∧ w' = w := by
 go_enter Tryz.func110, Tryz.ntmps110
 have hbb : (b == 0) = false := by rw [beq_eq_false_iff_ne]; exact hb
 go_wp2
 go_ret2
 exact r2 rfl rfl
theorem quotu64_111_zero (a b : Int) (h : b = 0) (w : World) :
  Calls Tryz.prog 110 #[.int .u8 111, .int .u64 a, .int .u64 b] w fun e w' => e = .returned (.tuple #[.int .i64 0, .int .i64 21]) ∧ w' = w := by
 go_enter Tryz.func110, Tryz.ntmps110
 subst h
 go_wp2
 go_ret2
 exact r2 rfl rfl
theorem quotu64_111 (a b : Int) (hb : ¬ b = 0) (_ha : 0 ≤ a) (_ha1 : a < 18446744073709551616) (_hb0 : 0 ≤ b) (w : World) :
  Calls Tryz.prog 110 #[.int .u8 111, .int .u64 a, .int .u64 b] w fun e w' => e = .returned (.tuple #[.int .i64 (wrap64 (a % b)), .int .i64 0]) ∧ w' = w := by
 go_enter Tryz.func110, Tryz.ntmps110
 have hbb : (b == 0) = false := by rw [beq_eq_false_iff_ne]; exact hb
 go_wp2
 go_ret2
 exact r2 rfl rfl
theorem move64_116 (a b u v : Int) (_hu : IntKind.u64.wrap b = u) (_hv : IntKind.u64.wrap a = v) (_hu0 : 0 ≤ u) (_hu1 : u < 18446744073709551616) (_hv0 : 0 ≤ v) (_hv1 : v < 18446744073709551616) (w : World) :
  Calls Tryz.prog 111 #[.int .u8 116, .int .i64 a, .int .i64 b] w fun e w' => e = .returned (.int .i64 (wrap64 (a * 2 ^ (u % 64).toNat))) ∧ w' = w := by
 go_enter Tryz.func111, Tryz.ntmps111
 go_wp2_with fail
 refine (pwidth64 _).mono ?_
 rintro e w1 ⟨rfl, rfl⟩
 go_wp2
 go_ret
 exact ri rfl
theorem move64_117 (a b u v : Int) (_hu : IntKind.u64.wrap b = u) (_hv : IntKind.u64.wrap a = v) (_hu0 : 0 ≤ u) (_hu1 : u < 18446744073709551616) (_hv0 : 0 ≤ v) (_hv1 : v < 18446744073709551616) (w : World) :
  Calls Tryz.prog 111 #[.int .u8 117, .int .i64 a, .int .i64 b] w fun e w' => e = .returned (.int .i64 (a / 2 ^ (u % 64).toNat)) ∧ w' = w := by
 go_enter Tryz.func111, Tryz.ntmps111
 go_wp2_with fail
 refine (pwidth64 _).mono ?_
 rintro e w1 ⟨rfl, rfl⟩
 go_wp2
 go_ret
 exact ri rfl
theorem move64_118 (a b u v : Int) (_hu : IntKind.u64.wrap b = u) (_hv : IntKind.u64.wrap a = v) (_hu0 : 0 ≤ u) (_hu1 : u < 18446744073709551616) (_hv0 : 0 ≤ v) (_hv1 : v < 18446744073709551616) (w : World) :
  Calls Tryz.prog 111 #[.int .u8 118, .int .i64 a, .int .i64 b] w fun e w' => e = .returned (.int .i64 (wrap64 (v / 2 ^ (u % 64).toNat))) ∧ w' = w := by
 go_enter Tryz.func111, Tryz.ntmps111
 go_wp2_with fail
 refine (pwidth64 _).mono ?_
 rintro e w1 ⟨rfl, rfl⟩
 go_wp2
 go_ret
 exact ri rfl
theorem move64_119 (a b u v : Int) (_hu : IntKind.u64.wrap b = u) (_hv : IntKind.u64.wrap a = v) (_hu0 : 0 ≤ u) (_hu1 : u < 18446744073709551616) (_hv0 : 0 ≤ v) (_hv1 : v < 18446744073709551616) (w : World) :
  Calls Tryz.prog 111 #[.int .u8 119, .int .i64 a, .int .i64 b] w fun e w' => e = .returned (.int .i64 (wrap64 (bits BinOp.or IntKind.u64 (IntKind.u64.wrap (v * 2 ^ (u % 64).toNat)) (v / 2 ^ (64 - u % 64).toNat)))) ∧ Below w.heap.size w w' := by
 go_enter Tryz.func111, Tryz.ntmps111
 go_wp2_with fail
 refine (pwidth64 _).mono ?_
 rintro e w1 ⟨rfl, rfl⟩
 go_wp2
 go_quiet (fail)
 go_wp2
 go_ret
 exact ⟨rfl, below_drewN (Below.refl _ _) _⟩
theorem move64_120 (a b u v : Int) (_hu : IntKind.u64.wrap b = u) (_hv : IntKind.u64.wrap a = v) (_hu0 : 0 ≤ u) (_hu1 : u < 18446744073709551616) (_hv0 : 0 ≤ v) (_hv1 : v < 18446744073709551616) (w : World) :
  Calls Tryz.prog 111 #[.int .u8 120, .int .i64 a, .int .i64 b] w fun e w' => e = .returned (.int .i64 (wrap64 (bits BinOp.or IntKind.u64 (IntKind.u64.wrap (v * 2 ^ (64 - u % 64).toNat)) (v / 2 ^ (64 - (64 - u % 64)).toNat)))) ∧ Below w.heap.size w w' := by
 go_enter Tryz.func111, Tryz.ntmps111
 go_wp2_with fail
 refine (pwidth64 _).mono ?_
 rintro e w1 ⟨rfl, rfl⟩
 go_wp2
 go_quiet (fail)
 go_wp2
 go_ret
 exact ⟨rfl, below_drewN (Below.refl _ _) _⟩
end Go.Proofs.YtkceplamaocmmaaGreatDoor
namespace Go.Proofs.YtkceplamaocmmaaGreatDoor
open Go.RowKit
theorem two32_70 (a b : Int) (c : Bool) (HL : Hid (∀ w, Calls Tryz.prog 112 #[.int .u8 70, .int .i32 a, .int .i32 b] w fun e w' => e = .returned (.bool c) ∧ w' = w)) (w : World) :
  Calls Tryz.prog 93 #[.int .u8 70, .int .i32 a, .int .i32 b] w fun e w' => e = .returned (.tuple #[.int .i64 (t2i c), .int .i64 0]) ∧ w' = w := by
 go_enter Tryz.func93, Tryz.ntmps93
 go_wp2_with fail
 refine (HL.out _).mono ?_
 rintro e w1 ⟨rfl, rfl⟩
 go_wp2_with fail
 refine (ptruth c _).mono ?_
 rintro e w2 ⟨rfl, rfl⟩
 go_wp2
 go_ret2
 exact r2 rfl rfl
theorem two32_71 (a b : Int) (c : Bool) (HL : Hid (∀ w, Calls Tryz.prog 112 #[.int .u8 71, .int .i32 a, .int .i32 b] w fun e w' => e = .returned (.bool c) ∧ w' = w)) (w : World) :
  Calls Tryz.prog 93 #[.int .u8 71, .int .i32 a, .int .i32 b] w fun e w' => e = .returned (.tuple #[.int .i64 (t2i c), .int .i64 0]) ∧ w' = w := by
 go_enter Tryz.func93, Tryz.ntmps93
 go_wp2_with fail
 refine (HL.out _).mono ?_
 rintro e w1 ⟨rfl, rfl⟩
 go_wp2_with fail
 refine (ptruth c _).mono ?_
 rintro e w2 ⟨rfl, rfl⟩
 go_wp2
 go_ret2
 exact r2 rfl rfl
theorem two32_72 (a b : Int) (c : Bool) (HL : Hid (∀ w, Calls Tryz.prog 112 #[.int .u8 72, .int .i32 a, .int .i32 b] w fun e w' => e = .returned (.bool c) ∧ w' = w)) (w : World) :
  Calls Tryz.prog 93 #[.int .u8 72, .int .i32 a, .int .i32 b] w fun e w' => e = .returned (.tuple #[.int .i64 (t2i c), .int .i64 0]) ∧ w' = w := by
 go_enter Tryz.func93, Tryz.ntmps93
 go_wp2_with fail
 refine (HL.out _).mono ?_
 rintro e w1 ⟨rfl, rfl⟩
 go_wp2_with fail
 refine (ptruth c _).mono ?_
 rintro e w2 ⟨rfl, rfl⟩
 go_wp2
 go_ret2
 exact r2 rfl rfl
theorem two32_74 (a b : Int) (c : Bool) (HL : Hid (∀ w, Calls Tryz.prog 112 #[.int .u8 74, .int .i32 a, .int .i32 b] w fun e w' => e = .returned (.bool c) ∧ w' = w)) (w : World) :
  Calls Tryz.prog 93 #[.int .u8 74, .int .i32 a, .int .i32 b] w fun e w' => e = .returned (.tuple #[.int .i64 (t2i c), .int .i64 0]) ∧ w' = w := by
 go_enter Tryz.func93, Tryz.ntmps93
 go_wp2_with fail
 refine (HL.out _).mono ?_
 rintro e w1 ⟨rfl, rfl⟩
 go_wp2_with fail
 refine (ptruth c _).mono ?_
 rintro e w2 ⟨rfl, rfl⟩
 go_wp2
 go_ret2
 exact r2 rfl rfl
theorem two32_76 (a b : Int) (c : Bool) (HL : Hid (∀ w, Calls Tryz.prog 112 #[.int .u8 76, .int .i32 a, .int .i32 b] w fun e w' => e = .returned (.bool c) ∧ w' = w)) (w : World) :
  Calls Tryz.prog 93 #[.int .u8 76, .int .i32 a, .int .i32 b] w fun e w' => e = .returned (.tuple #[.int .i64 (t2i c), .int .i64 0]) ∧ w' = w := by
 go_enter Tryz.func93, Tryz.ntmps93
 go_wp2_with fail
 refine (HL.out _).mono ?_
 rintro e w1 ⟨rfl, rfl⟩
 go_wp2_with fail
 refine (ptruth c _).mono ?_
 rintro e w2 ⟨rfl, rfl⟩
 go_wp2
 go_ret2
 exact r2 rfl rfl
theorem two32_78 (a b : Int) (c : Bool) (HL : Hid (∀ w, Calls Tryz.prog 112 #[.int .u8 78, .int .i32 a, .int .i32 b] w fun e w' => e = .returned (.bool c) ∧ w' = w)) (w : World) :
  Calls Tryz.prog 93 #[.int .u8 78, .int .i32 a, .int .i32 b] w fun e w' => e = .returned (.tuple #[.int .i64 (t2i c), .int .i64 0]) ∧ w' = w := by
 go_enter Tryz.func93, Tryz.ntmps93
 go_wp2_with fail
 refine (HL.out _).mono ?_
 rintro e w1 ⟨rfl, rfl⟩
 go_wp2_with fail
 refine (ptruth c _).mono ?_
 rintro e w2 ⟨rfl, rfl⟩
 go_wp2
 go_ret2
 exact r2 rfl rfl
theorem two32_73 (a b : Int) (c : Bool) (HL : Hid (∀ w, Calls Tryz.prog 113 #[.int .u8 72, .int .u32 (a % 4294967296), .int .u32 (b % 4294967296)] w fun e w' => e = .returned (.bool c) ∧ w' = w)) (w : World) :
  Calls Tryz.prog 93 #[.int .u8 73, .int .i32 a, .int .i32 b] w fun e w' => e = .returned (.tuple #[.int .i64 (t2i c), .int .i64 0]) ∧ w' = w := by
 go_enter Tryz.func93, Tryz.ntmps93
 go_wp2_with fail
 refine (HL.out _).mono ?_
 rintro e w1 ⟨rfl, rfl⟩
 go_wp2_with fail
 refine (ptruth c _).mono ?_
 rintro e w2 ⟨rfl, rfl⟩
 go_wp2
 go_ret2
 exact r2 rfl rfl
theorem two32_75 (a b : Int) (c : Bool) (HL : Hid (∀ w, Calls Tryz.prog 113 #[.int .u8 74, .int .u32 (a % 4294967296), .int .u32 (b % 4294967296)] w fun e w' => e = .returned (.bool c) ∧ w' = w)) (w : World) :
  Calls Tryz.prog 93 #[.int .u8 75, .int .i32 a, .int .i32 b] w fun e w' => e = .returned (.tuple #[.int .i64 (t2i c), .int .i64 0]) ∧ w' = w := by
 go_enter Tryz.func93, Tryz.ntmps93
 go_wp2_with fail
 refine (HL.out _).mono ?_
 rintro e w1 ⟨rfl, rfl⟩
 go_wp2_with fail
 refine (ptruth c _).mono ?_
 rintro e w2 ⟨rfl, rfl⟩
 go_wp2
 go_ret2
 exact r2 rfl rfl
theorem two32_77 (a b : Int) (c : Bool) (HL : Hid (∀ w, Calls Tryz.prog 113 #[.int .u8 76, .int .u32 (a % 4294967296), .int .u32 (b % 4294967296)] w fun e w' => e = .returned (.bool c) ∧ w' = w)) (w : World) :
  Calls Tryz.prog 93 #[.int .u8 77, .int .i32 a, .int .i32 b] w fun e w' => e = .returned (.tuple #[.int .i64 (t2i c), .int .i64 0]) ∧ w' = w := by
 go_enter Tryz.func93, Tryz.ntmps93
 go_wp2_with fail
 refine (HL.out _).mono ?_
 rintro e w1 ⟨rfl, rfl⟩
 go_wp2_with fail
 refine (ptruth c _).mono ?_
 rintro e w2 ⟨rfl, rfl⟩
 go_wp2
 go_ret2
 exact r2 rfl rfl
theorem two32_79 (a b : Int) (c : Bool) (HL : Hid (∀ w, Calls Tryz.prog 113 #[.int .u8 78, .int .u32 (a % 4294967296), .int .u32 (b % 4294967296)] w fun e w' => e = .returned (.bool c) ∧ w' = w)) (w : World) :
  Calls Tryz.prog 93 #[.int .u8 79, .int .i32 a, .int .i32 b] w fun e w' => e = .returned (.tuple #[.int .i64 (t2i c), .int .i64 0]) ∧ w' = w := by
 go_enter Tryz.func93, Tryz.ntmps93
 go_wp2_with fail
 refine (HL.out _).mono ?_
 rintro e w1 ⟨rfl, rfl⟩
 go_wp2_with fail
 refine (ptruth c _).mono ?_
 rintro e w2 ⟨rfl, rfl⟩
 go_wp2
 go_ret2
 exact r2 rfl rfl
theorem two32_106 (a b : Int) (R : Int) (_h0 : -2147483648 ≤ R) (_h1 : R ≤ 2147483647) (HL : Hid (∀ w, Calls Tryz.prog 114 #[.int .u8 106, .int .i32 a, .int .i32 b] w fun e w' => e = .returned (.int .i32 R) ∧ w' = w)) (w : World) :
  Calls Tryz.prog 93 #[.int .u8 106, .int .i32 a, .int .i32 b] w fun e w' => e = .returned (.tuple #[.int .i64 R, .int .i64 0]) ∧ w' = w := by
 go_enter Tryz.func93, Tryz.ntmps93
 go_wp2_with fail
 refine (HL.out _).mono ?_
 rintro e w1 ⟨rfl, rfl⟩
 go_wp2
 go_ret2
 exact r2 rfl rfl
theorem two32_107 (a b : Int) (R : Int) (_h0 : -2147483648 ≤ R) (_h1 : R ≤ 2147483647) (HL : Hid (∀ w, Calls Tryz.prog 114 #[.int .u8 107, .int .i32 a, .int .i32 b] w fun e w' => e = .returned (.int .i32 R) ∧ w' = w)) (w : World) :
  Calls Tryz.prog 93 #[.int .u8 107, .int .i32 a, .int .i32 b] w fun e w' => e = .returned (.tuple #[.int .i64 R, .int .i64 0]) ∧ w' = w := by
 go_enter Tryz.func93, Tryz.ntmps93
 go_wp2_with fail
 refine (HL.out _).mono ?_
 rintro e w1 ⟨rfl, rfl⟩
 go_wp2
 go_ret2
 exact r2 rfl rfl
theorem two32_108 (a b : Int) (R : Int) (_h0 : -2147483648 ≤ R) (_h1 : R ≤ 2147483647) (HL : Hid (∀ w, Calls Tryz.prog 114 #[.int .u8 108, .int .i32 a, .int .i32 b] w fun e w' => e = .returned (.int .i32 R) ∧ w' = w)) (w : World) :
  Calls Tryz.prog 93 #[.int .u8 108, .int .i32 a, .int .i32 b] w fun e w' => e = .returned (.tuple #[.int .i64 R, .int .i64 0]) ∧ w' = w := by
 go_enter Tryz.func93, Tryz.ntmps93
 go_wp2_with fail
 refine (HL.out _).mono ?_
 rintro e w1 ⟨rfl, rfl⟩
 go_wp2
 go_ret2
 exact r2 rfl rfl
theorem two32_113 (a b : Int) (R : Int) (_h0 : -2147483648 ≤ R) (_h1 : R ≤ 2147483647) (HL : Hid (∀ w, Calls Tryz.prog 114 #[.int .u8 113, .int .i32 a, .int .i32 b] w fun e w' => e = .returned (.int .i32 R) ∧ w' = w)) (w : World) :
  Calls Tryz.prog 93 #[.int .u8 113, .int .i32 a, .int .i32 b] w fun e w' => e = .returned (.tuple #[.int .i64 R, .int .i64 0]) ∧ w' = w := by
 go_enter Tryz.func93, Tryz.ntmps93
 go_wp2_with fail
 refine (HL.out _).mono ?_
 rintro e w1 ⟨rfl, rfl⟩
 go_wp2
 go_ret2
 exact r2 rfl rfl
theorem two32_114 (a b : Int) (R : Int) (_h0 : -2147483648 ≤ R) (_h1 : R ≤ 2147483647) (HL : Hid (∀ w, Calls Tryz.prog 114 #[.int .u8 114, .int .i32 a, .int .i32 b] w fun e w' => e = .returned (.int .i32 R) ∧ w' = w)) (w : World) :
  Calls Tryz.prog 93 #[.int .u8 114, .int .i32 a, .int .i32 b] w fun e w' => e = .returned (.tuple #[.int .i64 R, .int .i64 0]) ∧ w' = w := by
 go_enter Tryz.func93, Tryz.ntmps93
 go_wp2_with fail
 refine (HL.out _).mono ?_
 rintro e w1 ⟨rfl, rfl⟩
 go_wp2
 go_ret2
 exact r2 rfl rfl
theorem two32_115 (a b : Int) (R : Int) (_h0 : -2147483648 ≤ R) (_h1 : R ≤ 2147483647) (HL : Hid (∀ w, Calls Tryz.prog 114 #[.int .u8 115, .int .i32 a, .int .i32 b] w fun e w' => e = .returned (.int .i32 R) ∧ w' = w)) (w : World) :
  Calls Tryz.prog 93 #[.int .u8 115, .int .i32 a, .int .i32 b] w fun e w' => e = .returned (.tuple #[.int .i64 R, .int .i64 0]) ∧ w' = w := by
 go_enter Tryz.func93, Tryz.ntmps93
 go_wp2_with fail
 refine (HL.out _).mono ?_
 rintro e w1 ⟨rfl, rfl⟩
 go_wp2
 go_ret2
 exact r2 rfl rfl
theorem two32_109 (a b : Int) (R E : Int) (HL : Hid (∀ w, Calls Tryz.prog 115 #[.int .u8 109, .int .i32 a, .int .i32 b] w fun e w' => e = .returned (.tuple #[.int .i64 R, .int .i64 E]) ∧ w' = w)) (w : World) :
  Calls Tryz.prog 93 #[.int .u8 109, .int .i32 a, .int .i32 b] w fun e w' => e = .returned (.tuple #[.int .i64 R, .int .i64 E]) ∧ w' = w := by
 go_enter Tryz.func93, Tryz.ntmps93
 go_wp2_with fail
 refine (HL.out _).mono ?_
 rintro e w1 ⟨rfl, rfl⟩
 go_wp2
 go_ret2
 exact r2 rfl rfl
theorem two32_111 (a b : Int) (R E : Int) (HL : Hid (∀ w, Calls Tryz.prog 115 #[.int .u8 111, .int .i32 a, .int .i32 b] w fun e w' => e = .returned (.tuple #[.int .i64 R, .int .i64 E]) ∧ w' = w)) (w : World) :
  Calls Tryz.prog 93 #[.int .u8 111, .int .i32 a, .int .i32 b] w fun e w' => e = .returned (.tuple #[.int .i64 R, .int .i64 E]) ∧ w' = w := by
 go_enter Tryz.func93, Tryz.ntmps93
 go_wp2_with fail
 refine (HL.out _).mono ?_
 rintro e w1 ⟨rfl, rfl⟩
 go_wp2
 go_ret2
 exact r2 rfl rfl
theorem two32_110 (a b : Int) (R E : Int) (HL : Hid (∀ w, Calls Tryz.prog 116 #[.int .u8 109, .int .u32 (a % 4294967296), .int .u32 (b % 4294967296)] w fun e w' => e = .returned (.tuple #[.int .i64 R, .int .i64 E]) ∧ w' = w)) (w : World) :
  Calls Tryz.prog 93 #[.int .u8 110, .int .i32 a, .int .i32 b] w fun e w' => e = .returned (.tuple #[.int .i64 (wrap32 R), .int .i64 E]) ∧ w' = w := by
 go_enter Tryz.func93, Tryz.ntmps93
 go_wp2_with fail
 refine (HL.out _).mono ?_
 rintro e w1 ⟨rfl, rfl⟩
 go_wp2
 go_ret2
 exact r2 (by first | rfl | exact w64_w32 _) rfl
theorem two32_112 (a b : Int) (R E : Int) (HL : Hid (∀ w, Calls Tryz.prog 116 #[.int .u8 111, .int .u32 (a % 4294967296), .int .u32 (b % 4294967296)] w fun e w' => e = .returned (.tuple #[.int .i64 R, .int .i64 E]) ∧ w' = w)) (w : World) :
  Calls Tryz.prog 93 #[.int .u8 112, .int .i32 a, .int .i32 b] w fun e w' => e = .returned (.tuple #[.int .i64 (wrap32 R), .int .i64 E]) ∧ w' = w := by
 go_enter Tryz.func93, Tryz.ntmps93
 go_wp2_with fail
 refine (HL.out _).mono ?_
 rintro e w1 ⟨rfl, rfl⟩
 go_wp2
 go_ret2
 exact r2 (by first | rfl | exact w64_w32 _) rfl
theorem two32_116 (a b : Int) (R : Int) (_h0 : -2147483648 ≤ R) (_h1 : R ≤ 2147483647) (HL : Hid (∀ w, Calls Tryz.prog 117 #[.int .u8 116, .int .i32 a, .int .i32 b] w fun e w' => e = .returned (.int .i32 R) ∧ w' = w)) (w : World) :
  Calls Tryz.prog 93 #[.int .u8 116, .int .i32 a, .int .i32 b] w fun e w' => e = .returned (.tuple #[.int .i64 R, .int .i64 0]) ∧ w' = w := by
 go_enter Tryz.func93, Tryz.ntmps93
 go_wp2_with fail
 refine (HL.out _).mono ?_
 rintro e w1 ⟨rfl, rfl⟩
 go_wp2
 go_ret2
 exact r2 rfl rfl
theorem two32_117 (a b : Int) (R : Int) (_h0 : -2147483648 ≤ R) (_h1 : R ≤ 2147483647) (HL : Hid (∀ w, Calls Tryz.prog 117 #[.int .u8 117, .int .i32 a, .int .i32 b] w fun e w' => e = .returned (.int .i32 R) ∧ w' = w)) (w : World) :
  Calls Tryz.prog 93 #[.int .u8 117, .int .i32 a, .int .i32 b] w fun e w' => e = .returned (.tuple #[.int .i64 R, .int .i64 0]) ∧ w' = w := by
 go_enter Tryz.func93, Tryz.ntmps93
 go_wp2_with fail
 refine (HL.out _).mono ?_
 rintro e w1 ⟨rfl, rfl⟩
 go_wp2
 go_ret2
 exact r2 rfl rfl
theorem two32_118 (a b : Int) (R : Int) (_h0 : -2147483648 ≤ R) (_h1 : R ≤ 2147483647) (HL : Hid (∀ w, Calls Tryz.prog 117 #[.int .u8 118, .int .i32 a, .int .i32 b] w fun e w' => e = .returned (.int .i32 R) ∧ w' = w)) (w : World) :
  Calls Tryz.prog 93 #[.int .u8 118, .int .i32 a, .int .i32 b] w fun e w' => e = .returned (.tuple #[.int .i64 R, .int .i64 0]) ∧ w' = w := by
 go_enter Tryz.func93, Tryz.ntmps93
 go_wp2_with fail
 refine (HL.out _).mono ?_
 rintro e w1 ⟨rfl, rfl⟩
 go_wp2
 go_ret2
 exact r2 rfl rfl
theorem two32_119 (a b : Int) (R : Int) (_h0 : -2147483648 ≤ R) (_h1 : R ≤ 2147483647) (HL : Hid (∀ w, Calls Tryz.prog 117 #[.int .u8 119, .int .i32 a, .int .i32 b] w fun e w' => e = .returned (.int .i32 R) ∧ Below w.heap.size w w')) (w : World) :
  Calls Tryz.prog 93 #[.int .u8 119, .int .i32 a, .int .i32 b] w fun e w' => e = .returned (.tuple #[.int .i64 R, .int .i64 0]) ∧ Below w.heap.size w w' := by
 go_enter Tryz.func93, Tryz.ntmps93
 go_wp2_with fail
 refine (HL.out _).mono ?_
 rintro e w1 ⟨rfl, b1⟩
 go_wp2
 go_ret2
 exact ⟨rfl, b1⟩
theorem two32_120 (a b : Int) (R : Int) (_h0 : -2147483648 ≤ R) (_h1 : R ≤ 2147483647) (HL : Hid (∀ w, Calls Tryz.prog 117 #[.int .u8 120, .int .i32 a, .int .i32 b] w fun e w' => e = .returned (.int .i32 R) ∧ Below w.heap.size w w')) (w : World) :
  Calls Tryz.prog 93 #[.int .u8 120, .int .i32 a, .int .i32 b] w fun e w' => e = .returned (.tuple #[.int .i64 R, .int .i64 0]) ∧ Below w.heap.size w w' := by
 go_enter Tryz.func93, Tryz.ntmps93
 go_wp2_with fail
 refine (HL.out _).mono ?_
 rintro e w1 ⟨rfl, b1⟩
 go_wp2
 go_ret2
 exact ⟨rfl, b1⟩
theorem two64_70 (a b : Int) (c : Bool) (HL : Hid (∀ w, Calls Tryz.prog 106 #[.int .u8 70, .int .i64 a, .int .i64 b] w fun e w' => e = .returned (.bool c) ∧ w' = w)) (w : World) :
  Calls Tryz.prog 92 #[.int .u8 70, .int .i64 a, .int .i64 b] w fun e w' => e = .returned (.tuple #[.int .i64 (t2i c), .int .i64 0]) ∧ w' = w := by
 go_enter Tryz.func92, Tryz.ntmps92
 go_wp2_with fail
 refine (HL.out _).mono ?_
 rintro e w1 ⟨rfl, rfl⟩
 go_wp2_with fail
 refine (ptruth c _).mono ?_
 rintro e w2 ⟨rfl, rfl⟩
 go_wp2
 go_ret2
 exact r2 rfl rfl
theorem two64_71 (a b : Int) (c : Bool) (HL : Hid (∀ w, Calls Tryz.prog 106 #[.int .u8 71, .int .i64 a, .int .i64 b] w fun e w' => e = .returned (.bool c) ∧ w' = w)) (w : World) :
  Calls Tryz.prog 92 #[.int .u8 71, .int .i64 a, .int .i64 b] w fun e w' => e = .returned (.tuple #[.int .i64 (t2i c), .int .i64 0]) ∧ w' = w := by
 go_enter Tryz.func92, Tryz.ntmps92
 go_wp2_with fail
 refine (HL.out _).mono ?_
 rintro e w1 ⟨rfl, rfl⟩
 go_wp2_with fail
 refine (ptruth c _).mono ?_
 rintro e w2 ⟨rfl, rfl⟩
 go_wp2
 go_ret2
 exact r2 rfl rfl
theorem two64_72 (a b : Int) (c : Bool) (HL : Hid (∀ w, Calls Tryz.prog 106 #[.int .u8 72, .int .i64 a, .int .i64 b] w fun e w' => e = .returned (.bool c) ∧ w' = w)) (w : World) :
  Calls Tryz.prog 92 #[.int .u8 72, .int .i64 a, .int .i64 b] w fun e w' => e = .returned (.tuple #[.int .i64 (t2i c), .int .i64 0]) ∧ w' = w := by
 go_enter Tryz.func92, Tryz.ntmps92
 go_wp2_with fail
 refine (HL.out _).mono ?_
 rintro e w1 ⟨rfl, rfl⟩
 go_wp2_with fail
 refine (ptruth c _).mono ?_
 rintro e w2 ⟨rfl, rfl⟩
 go_wp2
 go_ret2
 exact r2 rfl rfl
theorem two64_74 (a b : Int) (c : Bool) (HL : Hid (∀ w, Calls Tryz.prog 106 #[.int .u8 74, .int .i64 a, .int .i64 b] w fun e w' => e = .returned (.bool c) ∧ w' = w)) (w : World) :
  Calls Tryz.prog 92 #[.int .u8 74, .int .i64 a, .int .i64 b] w fun e w' => e = .returned (.tuple #[.int .i64 (t2i c), .int .i64 0]) ∧ w' = w := by
 go_enter Tryz.func92, Tryz.ntmps92
 go_wp2_with fail
 refine (HL.out _).mono ?_
 rintro e w1 ⟨rfl, rfl⟩
 go_wp2_with fail
 refine (ptruth c _).mono ?_
 rintro e w2 ⟨rfl, rfl⟩
 go_wp2
 go_ret2
 exact r2 rfl rfl
theorem two64_76 (a b : Int) (c : Bool) (HL : Hid (∀ w, Calls Tryz.prog 106 #[.int .u8 76, .int .i64 a, .int .i64 b] w fun e w' => e = .returned (.bool c) ∧ w' = w)) (w : World) :
  Calls Tryz.prog 92 #[.int .u8 76, .int .i64 a, .int .i64 b] w fun e w' => e = .returned (.tuple #[.int .i64 (t2i c), .int .i64 0]) ∧ w' = w := by
 go_enter Tryz.func92, Tryz.ntmps92
 go_wp2_with fail
 refine (HL.out _).mono ?_
 rintro e w1 ⟨rfl, rfl⟩
 go_wp2_with fail
 refine (ptruth c _).mono ?_
 rintro e w2 ⟨rfl, rfl⟩
 go_wp2
 go_ret2
 exact r2 rfl rfl
theorem two64_78 (a b : Int) (c : Bool) (HL : Hid (∀ w, Calls Tryz.prog 106 #[.int .u8 78, .int .i64 a, .int .i64 b] w fun e w' => e = .returned (.bool c) ∧ w' = w)) (w : World) :
  Calls Tryz.prog 92 #[.int .u8 78, .int .i64 a, .int .i64 b] w fun e w' => e = .returned (.tuple #[.int .i64 (t2i c), .int .i64 0]) ∧ w' = w := by
 go_enter Tryz.func92, Tryz.ntmps92
 go_wp2_with fail
 refine (HL.out _).mono ?_
 rintro e w1 ⟨rfl, rfl⟩
 go_wp2_with fail
 refine (ptruth c _).mono ?_
 rintro e w2 ⟨rfl, rfl⟩
 go_wp2
 go_ret2
 exact r2 rfl rfl
theorem two64_73 (a b : Int) (c : Bool) (HL : Hid (∀ w, Calls Tryz.prog 107 #[.int .u8 72, .int .u64 (IntKind.u64.wrap a), .int .u64 (IntKind.u64.wrap b)] w fun e w' => e = .returned (.bool c) ∧ w' = w)) (w : World) :
  Calls Tryz.prog 92 #[.int .u8 73, .int .i64 a, .int .i64 b] w fun e w' => e = .returned (.tuple #[.int .i64 (t2i c), .int .i64 0]) ∧ w' = w := by
 go_enter Tryz.func92, Tryz.ntmps92
 go_wp2_with fail
 refine (HL.out _).mono ?_
 rintro e w1 ⟨rfl, rfl⟩
 go_wp2_with fail
 refine (ptruth c _).mono ?_
 rintro e w2 ⟨rfl, rfl⟩
 go_wp2
 go_ret2
 exact r2 rfl rfl
theorem two64_75 (a b : Int) (c : Bool) (HL : Hid (∀ w, Calls Tryz.prog 107 #[.int .u8 74, .int .u64 (IntKind.u64.wrap a), .int .u64 (IntKind.u64.wrap b)] w fun e w' => e = .returned (.bool c) ∧ w' = w)) (w : World) :
  Calls Tryz.prog 92 #[.int .u8 75, .int .i64 a, .int .i64 b] w fun e w' => e = .returned (.tuple #[.int .i64 (t2i c), .int .i64 0]) ∧ w' = w := by
 go_enter Tryz.func92, Tryz.ntmps92
 go_wp2_with fail
 refine (HL.out _).mono ?_
 rintro e w1 ⟨rfl, rfl⟩
 go_wp2_with fail
 refine (ptruth c _).mono ?_
 rintro e w2 ⟨rfl, rfl⟩
 go_wp2
 go_ret2
 exact r2 rfl rfl
theorem two64_77 (a b : Int) (c : Bool) (HL : Hid (∀ w, Calls Tryz.prog 107 #[.int .u8 76, .int .u64 (IntKind.u64.wrap a), .int .u64 (IntKind.u64.wrap b)] w fun e w' => e = .returned (.bool c) ∧ w' = w)) (w : World) :
  Calls Tryz.prog 92 #[.int .u8 77, .int .i64 a, .int .i64 b] w fun e w' => e = .returned (.tuple #[.int .i64 (t2i c), .int .i64 0]) ∧ w' = w := by
 go_enter Tryz.func92, Tryz.ntmps92
 go_wp2_with fail
 refine (HL.out _).mono ?_
 rintro e w1 ⟨rfl, rfl⟩
 go_wp2_with fail
 refine (ptruth c _).mono ?_
 rintro e w2 ⟨rfl, rfl⟩
 go_wp2
 go_ret2
 exact r2 rfl rfl
theorem two64_79 (a b : Int) (c : Bool) (HL : Hid (∀ w, Calls Tryz.prog 107 #[.int .u8 78, .int .u64 (IntKind.u64.wrap a), .int .u64 (IntKind.u64.wrap b)] w fun e w' => e = .returned (.bool c) ∧ w' = w)) (w : World) :
  Calls Tryz.prog 92 #[.int .u8 79, .int .i64 a, .int .i64 b] w fun e w' => e = .returned (.tuple #[.int .i64 (t2i c), .int .i64 0]) ∧ w' = w := by
 go_enter Tryz.func92, Tryz.ntmps92
 go_wp2_with fail
 refine (HL.out _).mono ?_
 rintro e w1 ⟨rfl, rfl⟩
 go_wp2_with fail
 refine (ptruth c _).mono ?_
 rintro e w2 ⟨rfl, rfl⟩
 go_wp2
 go_ret2
 exact r2 rfl rfl
theorem two64_106 (a b : Int) (R : Int)  (HL : Hid (∀ w, Calls Tryz.prog 108 #[.int .u8 106, .int .i64 a, .int .i64 b] w fun e w' => e = .returned (.int .i64 R) ∧ w' = w)) (w : World) :
  Calls Tryz.prog 92 #[.int .u8 106, .int .i64 a, .int .i64 b] w fun e w' => e = .returned (.tuple #[.int .i64 R, .int .i64 0]) ∧ w' = w := by
 go_enter Tryz.func92, Tryz.ntmps92
 go_wp2_with fail
 refine (HL.out _).mono ?_
 rintro e w1 ⟨rfl, rfl⟩
 go_wp2
 go_ret2
 exact r2 rfl rfl
theorem two64_107 (a b : Int) (R : Int)  (HL : Hid (∀ w, Calls Tryz.prog 108 #[.int .u8 107, .int .i64 a, .int .i64 b] w fun e w' => e = .returned (.int .i64 R) ∧ w' = w)) (w : World) :
  Calls Tryz.prog 92 #[.int .u8 107, .int .i64 a, .int .i64 b] w fun e w' => e = .returned (.tuple #[.int .i64 R, .int .i64 0]) ∧ w' = w := by
 go_enter Tryz.func92, Tryz.ntmps92
 go_wp2_with fail
 refine (HL.out _).mono ?_
 rintro e w1 ⟨rfl, rfl⟩
 go_wp2
 go_ret2
 exact r2 rfl rfl
theorem two64_108 (a b : Int) (R : Int)  (HL : Hid (∀ w, Calls Tryz.prog 108 #[.int .u8 108, .int .i64 a, .int .i64 b] w fun e w' => e = .returned (.int .i64 R) ∧ w' = w)) (w : World) :
  Calls Tryz.prog 92 #[.int .u8 108, .int .i64 a, .int .i64 b] w fun e w' => e = .returned (.tuple #[.int .i64 R, .int .i64 0]) ∧ w' = w := by
 go_enter Tryz.func92, Tryz.ntmps92
 go_wp2_with fail
 refine (HL.out _).mono ?_
 rintro e w1 ⟨rfl, rfl⟩
 go_wp2
 go_ret2
 exact r2 rfl rfl
theorem two64_113 (a b : Int) (R : Int)  (HL : Hid (∀ w, Calls Tryz.prog 108 #[.int .u8 113, .int .i64 a, .int .i64 b] w fun e w' => e = .returned (.int .i64 R) ∧ w' = w)) (w : World) :
  Calls Tryz.prog 92 #[.int .u8 113, .int .i64 a, .int .i64 b] w fun e w' => e = .returned (.tuple #[.int .i64 R, .int .i64 0]) ∧ w' = w := by
 go_enter Tryz.func92, Tryz.ntmps92
 go_wp2_with fail
 refine (HL.out _).mono ?_
 rintro e w1 ⟨rfl, rfl⟩
 go_wp2
 go_ret2
 exact r2 rfl rfl
theorem two64_114 (a b : Int) (R : Int)  (HL : Hid (∀ w, Calls Tryz.prog 108 #[.int .u8 114, .int .i64 a, .int .i64 b] w fun e w' => e = .returned (.int .i64 R) ∧ w' = w)) (w : World) :
  Calls Tryz.prog 92 #[.int .u8 114, .int .i64 a, .int .i64 b] w fun e w' => e = .returned (.tuple #[.int .i64 R, .int .i64 0]) ∧ w' = w := by
 go_enter Tryz.func92, Tryz.ntmps92
 go_wp2_with fail
 refine (HL.out _).mono ?_
 rintro e w1 ⟨rfl, rfl⟩
 go_wp2
 go_ret2
 exact r2 rfl rfl
theorem two64_115 (a b : Int) (R : Int)  (HL : Hid (∀ w, Calls Tryz.prog 108 #[.int .u8 115, .int .i64 a, .int .i64 b] w fun e w' => e = .returned (.int .i64 R) ∧ w' = w)) (w : World) :
  Calls Tryz.prog 92 #[.int .u8 115, .int .i64 a, .int .i64 b] w fun e w' => e = .returned (.tuple #[.int .i64 R, .int .i64 0]) ∧ w' = w := by
 go_enter Tryz.func92, Tryz.ntmps92
 go_wp2_with fail
 refine (HL.out _).mono ?_
 rintro e w1 ⟨rfl, rfl⟩
 go_wp2
 go_ret2
 exact r2 rfl rfl
theorem two64_109 (a b : Int) (R E : Int) (HL : Hid (∀ w, Calls Tryz.prog 109 #[.int .u8 109, .int .i64 a, .int .i64 b] w fun e w' => e = .returned (.tuple #[.int .i64 R, .int .i64 E]) ∧ w' = w)) (w : World) :
  Calls Tryz.prog 92 #[.int .u8 109, .int .i64 a, .int .i64 b] w fun e w' => e = .returned (.tuple #[.int .i64 R, .int .i64 E]) ∧ w' = w := by
 go_enter Tryz.func92, Tryz.ntmps92
 go_wp2_with fail
 refine (HL.out _).mono ?_
 rintro e w1 ⟨rfl, rfl⟩
 go_wp2
 go_ret2
 exact r2 rfl rfl
theorem two64_111 (a b : Int) (R E : Int) (HL : Hid (∀ w, Calls Tryz.prog 109 #[.int .u8 111, .int .i64 a, .int .i64 b] w fun e w' => e = .returned (.tuple #[.int .i64 R, .int .i64 E]) ∧ w' = w)) (w : World) :
  Calls Tryz.prog 92 #[.int .u8 111, .int .i64 a, .int .i64 b] w fun e w' => e = .returned (.tuple #[.int .i64 R, .int .i64 E]) ∧ w' = w := by
 go_enter Tryz.func92, Tryz.ntmps92
 go_wp2_with fail
 refine (HL.out _).mono ?_
 rintro e w1 ⟨rfl, rfl⟩
 go_wp2
 go_ret2
 exact r2 rfl rfl
theorem two64_110 (a b : Int) (R E : Int) (HL : Hid (∀ w, Calls Tryz.prog 110 #[.int .u8 109, .int .u64 (IntKind.u64.wrap a), .int .u64 (IntKind.u64.wrap b)] w fun e w' => e = .returned (.tuple #[.int .i64 R, .int .i64 E]) ∧ w' = w)) (w : World) :
  Calls Tryz.prog 92 #[.int .u8 110, .int .i64 a, .int .i64 b] w fun e w' => e = .returned (.tuple #[.int .i64 R, .int .i64 E]) ∧ w' = w := by
 go_enter Tryz.func92, Tryz.ntmps92
 go_wp2_with fail
 refine (HL.out _).mono ?_
 rintro e w1 ⟨rfl, rfl⟩
 go_wp2
 go_ret2
 exact r2 rfl rfl
theorem two64_112 (a b : Int) (R E : Int) (HL : Hid (∀ w, Calls Tryz.prog 110 #[.int .u8 111, .int .u64 (IntKind.u64.wrap a), .int .u64 (IntKind.u64.wrap b)] w fun e w' => e = .returned (.tuple #[.int .i64 R, .int .i64 E]) ∧ w' = w)) (w : World) :
  Calls Tryz.prog 92 #[.int .u8 112, .int .i64 a, .int .i64 b] w fun e w' => e = .returned (.tuple #[.int .i64 R, .int .i64 E]) ∧ w' = w := by
 go_enter Tryz.func92, Tryz.ntmps92
 go_wp2_with fail
 refine (HL.out _).mono ?_
 rintro e w1 ⟨rfl, rfl⟩
 go_wp2
 go_ret2
 exact r2 rfl rfl
theorem two64_116 (a b : Int) (R : Int)  (HL : Hid (∀ w, Calls Tryz.prog 111 #[.int .u8 116, .int .i64 a, .int .i64 b] w fun e w' => e = .returned (.int .i64 R) ∧ w' = w)) (w : World) :
  Calls Tryz.prog 92 #[.int .u8 116, .int .i64 a, .int .i64 b] w fun e w' => e = .returned (.tuple #[.int .i64 R, .int .i64 0]) ∧ w' = w := by
 go_enter Tryz.func92, Tryz.ntmps92
 go_wp2_with fail
 refine (HL.out _).mono ?_
 rintro e w1 ⟨rfl, rfl⟩
 go_wp2
 go_ret2
 exact r2 rfl rfl
theorem two64_117 (a b : Int) (R : Int)  (HL : Hid (∀ w, Calls Tryz.prog 111 #[.int .u8 117, .int .i64 a, .int .i64 b] w fun e w' => e = .returned (.int .i64 R) ∧ w' = w)) (w : World) :
  Calls Tryz.prog 92 #[.int .u8 117, .int .i64 a, .int .i64 b] w fun e w' => e = .returned (.tuple #[.int .i64 R, .int .i64 0]) ∧ w' = w := by
 go_enter Tryz.func92, Tryz.ntmps92
 go_wp2_with fail
 refine (HL.out _).mono ?_
 rintro e w1 ⟨rfl, rfl⟩
 go_wp2
 go_ret2
 exact r2 rfl rfl
theorem two64_118 (a b : Int) (R : Int)  (HL : Hid (∀ w, Calls Tryz.prog 111 #[.int .u8 118, .int .i64 a, .int .i64 b] w fun e w' => e = .returned (.int .i64 R) ∧ w' = w)) (w : World) :
  Calls Tryz.prog 92 #[.int .u8 118, .int .i64 a, .int .i64 b] w fun e w' => e = .returned (.tuple #[.int .i64 R, .int .i64 0]) ∧ w' = w := by
 go_enter Tryz.func92, Tryz.ntmps92
 go_wp2_with fail
 refine (HL.out _).mono ?_
 rintro e w1 ⟨rfl, rfl⟩
 go_wp2
 go_ret2
 exact r2 rfl rfl
theorem two64_119 (a b : Int) (R : Int)  (HL : Hid (∀ w, Calls Tryz.prog 111 #[.int .u8 119, .int .i64 a, .int .i64 b] w fun e w' => e = .returned (.int .i64 R) ∧ Below w.heap.size w w')) (w : World) :
  Calls Tryz.prog 92 #[.int .u8 119, .int .i64 a, .int .i64 b] w fun e w' => e = .returned (.tuple #[.int .i64 R, .int .i64 0]) ∧ Below w.heap.size w w' := by
 go_enter Tryz.func92, Tryz.ntmps92
 go_wp2_with fail
 refine (HL.out _).mono ?_
 rintro e w1 ⟨rfl, b1⟩
 go_wp2
 go_ret2
 exact ⟨rfl, b1⟩
theorem two64_120 (a b : Int) (R : Int)  (HL : Hid (∀ w, Calls Tryz.prog 111 #[.int .u8 120, .int .i64 a, .int .i64 b] w fun e w' => e = .returned (.int .i64 R) ∧ Below w.heap.size w w')) (w : World) :
  Calls Tryz.prog 92 #[.int .u8 120, .int .i64 a, .int .i64 b] w fun e w' => e = .returned (.tuple #[.int .i64 R, .int .i64 0]) ∧ Below w.heap.size w w' := by
 go_enter Tryz.func92, Tryz.ntmps92
 go_wp2_with fail
 refine (HL.out _).mono ?_
 rintro e w1 ⟨rfl, b1⟩
 go_wp2
 go_ret2
 exact ⟨rfl, b1⟩
end Go.Proofs.YtkceplamaocmmaaGreatDoor
namespace Go.Proofs.YtkceplamaocmmaaGreatDoor
open Go.RowKit
theorem t32_70 (X Y : BitVec 32) (w : World) :
  Calls Tryz.prog 93 #[.int .u8 70, .int .i32 X.toInt, .int .i32 Y.toInt] w fun e w' => e = .returned (.tuple #[.int .i64 ((t2i (cmpV 0 X Y), (0 : Int))).1, .int .i64 ((t2i (cmpV 0 X Y), (0 : Int))).2]) ∧ w' = w := by
 have h := two32_70 X.toInt Y.toInt _ (fun w => holds32_70 _ _ w) w
 rw [eq_bv] at h
 exact h
theorem t32_71 (X Y : BitVec 32) (w : World) :
  Calls Tryz.prog 93 #[.int .u8 71, .int .i32 X.toInt, .int .i32 Y.toInt] w fun e w' => e = .returned (.tuple #[.int .i64 ((t2i (cmpV 1 X Y), (0 : Int))).1, .int .i64 ((t2i (cmpV 1 X Y), (0 : Int))).2]) ∧ w' = w := by
 have h := two32_71 X.toInt Y.toInt _ (fun w => holds32_71 _ _ w) w
 rw [eq_bv] at h
 exact h
theorem t32_72 (X Y : BitVec 32) (w : World) :
  Calls Tryz.prog 93 #[.int .u8 72, .int .i32 X.toInt, .int .i32 Y.toInt] w fun e w' => e = .returned (.tuple #[.int .i64 ((t2i (cmpV 2 X Y), (0 : Int))).1, .int .i64 ((t2i (cmpV 2 X Y), (0 : Int))).2]) ∧ w' = w := two32_72 X.toInt Y.toInt _ (fun w => holds32_72 _ _ w) w
theorem t32_74 (X Y : BitVec 32) (w : World) :
  Calls Tryz.prog 93 #[.int .u8 74, .int .i32 X.toInt, .int .i32 Y.toInt] w fun e w' => e = .returned (.tuple #[.int .i64 ((t2i (cmpV 4 X Y), (0 : Int))).1, .int .i64 ((t2i (cmpV 4 X Y), (0 : Int))).2]) ∧ w' = w := two32_74 X.toInt Y.toInt _ (fun w => holds32_74 _ _ w) w
theorem t32_76 (X Y : BitVec 32) (w : World) :
  Calls Tryz.prog 93 #[.int .u8 76, .int .i32 X.toInt, .int .i32 Y.toInt] w fun e w' => e = .returned (.tuple #[.int .i64 ((t2i (cmpV 6 X Y), (0 : Int))).1, .int .i64 ((t2i (cmpV 6 X Y), (0 : Int))).2]) ∧ w' = w := two32_76 X.toInt Y.toInt _ (fun w => holds32_76 _ _ w) w
theorem t32_78 (X Y : BitVec 32) (w : World) :
  Calls Tryz.prog 93 #[.int .u8 78, .int .i32 X.toInt, .int .i32 Y.toInt] w fun e w' => e = .returned (.tuple #[.int .i64 ((t2i (cmpV 8 X Y), (0 : Int))).1, .int .i64 ((t2i (cmpV 8 X Y), (0 : Int))).2]) ∧ w' = w := two32_78 X.toInt Y.toInt _ (fun w => holds32_78 _ _ w) w
theorem t32_73 (X Y : BitVec 32) (w : World) :
  Calls Tryz.prog 93 #[.int .u8 73, .int .i32 X.toInt, .int .i32 Y.toInt] w fun e w' => e = .returned (.tuple #[.int .i64 ((t2i (cmpV 3 X Y), (0 : Int))).1, .int .i64 ((t2i (cmpV 3 X Y), (0 : Int))).2]) ∧ w' = w := by
 refine two32_73 X.toInt Y.toInt _ (fun w => ?_) w
 rw [u32_of, u32_of]
 have h := holdsu32_72 (X.toNat : Int) (Y.toNat : Int) w
 rw [decide_eq_decide.2 Int.ofNat_lt] at h
 exact h
theorem t32_75 (X Y : BitVec 32) (w : World) :
  Calls Tryz.prog 93 #[.int .u8 75, .int .i32 X.toInt, .int .i32 Y.toInt] w fun e w' => e = .returned (.tuple #[.int .i64 ((t2i (cmpV 5 X Y), (0 : Int))).1, .int .i64 ((t2i (cmpV 5 X Y), (0 : Int))).2]) ∧ w' = w := by
 refine two32_75 X.toInt Y.toInt _ (fun w => ?_) w
 rw [u32_of, u32_of]
 have h := holdsu32_74 (X.toNat : Int) (Y.toNat : Int) w
 rw [decide_eq_decide.2 Int.ofNat_lt] at h
 exact h
theorem t32_77 (X Y : BitVec 32) (w : World) :
  Calls Tryz.prog 93 #[.int .u8 77, .int .i32 X.toInt, .int .i32 Y.toInt] w fun e w' => e = .returned (.tuple #[.int .i64 ((t2i (cmpV 7 X Y), (0 : Int))).1, .int .i64 ((t2i (cmpV 7 X Y), (0 : Int))).2]) ∧ w' = w := by
 refine two32_77 X.toInt Y.toInt _ (fun w => ?_) w
 rw [u32_of, u32_of]
 have h := holdsu32_76 (X.toNat : Int) (Y.toNat : Int) w
 rw [decide_eq_decide.2 Int.ofNat_le] at h
 exact h
theorem t32_79 (X Y : BitVec 32) (w : World) :
  Calls Tryz.prog 93 #[.int .u8 79, .int .i32 X.toInt, .int .i32 Y.toInt] w fun e w' => e = .returned (.tuple #[.int .i64 ((t2i (cmpV 9 X Y), (0 : Int))).1, .int .i64 ((t2i (cmpV 9 X Y), (0 : Int))).2]) ∧ w' = w := by
 refine two32_79 X.toInt Y.toInt _ (fun w => ?_) w
 rw [u32_of, u32_of]
 have h := holdsu32_78 (X.toNat : Int) (Y.toNat : Int) w
 rw [decide_eq_decide.2 Int.ofNat_le] at h
 exact h
theorem t32_106 (X Y : BitVec 32) (w : World) :
  Calls Tryz.prog 93 #[.int .u8 106, .int .i32 X.toInt, .int .i32 Y.toInt] w fun e w' => e = .returned (.tuple #[.int .i64 (recV 0 X Y).1, .int .i64 (recV 0 X Y).2]) ∧ w' = w := by
 refine two32_106 X.toInt Y.toInt _ (toInt_lt32 _).1 (toInt_lt32 _).2 (fun w => ?_) w
 have h := combine32_106 X.toInt Y.toInt w
 rw [of_toInt, of_toInt] at h
 exact h
theorem t32_107 (X Y : BitVec 32) (w : World) :
  Calls Tryz.prog 93 #[.int .u8 107, .int .i32 X.toInt, .int .i32 Y.toInt] w fun e w' => e = .returned (.tuple #[.int .i64 (recV 1 X Y).1, .int .i64 (recV 1 X Y).2]) ∧ w' = w := by
 refine two32_107 X.toInt Y.toInt _ (toInt_lt32 _).1 (toInt_lt32 _).2 (fun w => ?_) w
 have h := combine32_107 X.toInt Y.toInt w
 rw [of_toInt, of_toInt] at h
 exact h
theorem t32_108 (X Y : BitVec 32) (w : World) :
  Calls Tryz.prog 93 #[.int .u8 108, .int .i32 X.toInt, .int .i32 Y.toInt] w fun e w' => e = .returned (.tuple #[.int .i64 (recV 2 X Y).1, .int .i64 (recV 2 X Y).2]) ∧ w' = w := by
 refine two32_108 X.toInt Y.toInt _ (toInt_lt32 _).1 (toInt_lt32 _).2 (fun w => ?_) w
 have h := combine32_108 X.toInt Y.toInt w
 rw [of_toInt, of_toInt] at h
 exact h
theorem t32_113 (X Y : BitVec 32) (w : World) :
  Calls Tryz.prog 93 #[.int .u8 113, .int .i32 X.toInt, .int .i32 Y.toInt] w fun e w' => e = .returned (.tuple #[.int .i64 (recV 7 X Y).1, .int .i64 (recV 7 X Y).2]) ∧ w' = w := by
 refine two32_113 X.toInt Y.toInt _ (toInt_lt32 _).1 (toInt_lt32 _).2 (fun w => ?_) w
 have h := combine32_113 X.toInt Y.toInt w
 rw [of_toInt, of_toInt] at h
 exact h
theorem t32_114 (X Y : BitVec 32) (w : World) :
  Calls Tryz.prog 93 #[.int .u8 114, .int .i32 X.toInt, .int .i32 Y.toInt] w fun e w' => e = .returned (.tuple #[.int .i64 (recV 8 X Y).1, .int .i64 (recV 8 X Y).2]) ∧ w' = w := by
 refine two32_114 X.toInt Y.toInt _ (toInt_lt32 _).1 (toInt_lt32 _).2 (fun w => ?_) w
 have h := combine32_114 X.toInt Y.toInt w
 rw [of_toInt, of_toInt] at h
 exact h
theorem t32_115 (X Y : BitVec 32) (w : World) :
  Calls Tryz.prog 93 #[.int .u8 115, .int .i32 X.toInt, .int .i32 Y.toInt] w fun e w' => e = .returned (.tuple #[.int .i64 (recV 9 X Y).1, .int .i64 (recV 9 X Y).2]) ∧ w' = w := by
 refine two32_115 X.toInt Y.toInt _ (toInt_lt32 _).1 (toInt_lt32 _).2 (fun w => ?_) w
 have h := combine32_115 X.toInt Y.toInt w
 rw [of_toInt, of_toInt] at h
 exact h
theorem t32_109 (X Y : BitVec 32) (w : World) :
  Calls Tryz.prog 93 #[.int .u8 109, .int .i32 X.toInt, .int .i32 Y.toInt] w fun e w' => e = .returned (.tuple #[.int .i64 (recV 3 X Y).1, .int .i64 (recV 3 X Y).2]) ∧ w' = w := by
 refine two32_109 X.toInt Y.toInt _ _ (fun w => ?_) w
 have hX := toInt_lt32 X
 by_cases h0 : Y.toInt = 0
 ·rw [show recV 3 X Y = (0, 21) from if_pos h0]
  exact quot32_109_zero _ _ h0 w
 by_cases h1 : X.toInt = -2 ^ (32 - 1) ∧ Y.toInt = -1
 ·rw [show recV 3 X Y = (0, 22) from (if_neg h0).trans (if_pos h1)]
  rw [h1.1, h1.2]
  exact quot32_109_over _ _ (by omega) (by omega) (by omega) (by decide +kernel) w
 ·rw [show recV 3 X Y = (X.toInt.tdiv Y.toInt, 0) from (if_neg h0).trans (if_neg h1)]
  obtain ⟨b0, b1, b2⟩ := tdiv_range 2147483648 X.toInt Y.toInt (by omega) (by omega) (by omega) h0 h1
  have e := in32 (X.toInt.tdiv Y.toInt) (by omega) (by omega)
  have h := quot32_109 X.toInt Y.toInt h0 (by rw [e]; rintro ⟨c1, c2, c3⟩; have := b2 c1 c2; omega) w
  rw [e] at h
  exact h
theorem t32_111 (X Y : BitVec 32) (w : World) :
  Calls Tryz.prog 93 #[.int .u8 111, .int .i32 X.toInt, .int .i32 Y.toInt] w fun e w' => e = .returned (.tuple #[.int .i64 (recV 5 X Y).1, .int .i64 (recV 5 X Y).2]) ∧ w' = w := by
 refine two32_111 X.toInt Y.toInt _ _ (fun w => ?_) w
 have hX := toInt_lt32 X
 by_cases h0 : Y.toInt = 0
 ·rw [show recV 5 X Y = (0, 21) from if_pos h0]
  exact quot32_111_zero _ _ h0 w
 ·rw [show recV 5 X Y = (X.toInt.tmod Y.toInt, 0) from if_neg h0]
  obtain ⟨b0, b1⟩ := tmod_range 2147483648 X.toInt Y.toInt (by omega) (by omega) (by omega)
  exact quot32_111 X.toInt Y.toInt h0 _ rfl (by omega) (by omega) w
theorem t32_110 (X Y : BitVec 32) (w : World) :
  Calls Tryz.prog 93 #[.int .u8 110, .int .i32 X.toInt, .int .i32 Y.toInt] w fun e w' => e = .returned (.tuple #[.int .i64 (recV 4 X Y).1, .int .i64 (recV 4 X Y).2]) ∧ w' = w := by
 by_cases h0 : Y.toInt = 0
 ·rw [show recV 4 X Y = (0, 21) from if_pos h0]
  have g := two32_110 X.toInt Y.toInt 0 21 (fun w => by rw [u32_of, u32_of]; exact quotu32_109_zero _ _ (by have := (toNat_zero Y).1 h0; omega) w) w
  rw [show wrap32 0 = 0 from in32 0 (by omega) (by omega)] at g
  exact g
 ·rw [show recV 4 X Y = ((X / Y).toInt, 0) from if_neg h0]
  have h := quotu32_109 (X.toNat : Int) (Y.toNat : Int) (by intro h; exact h0 ((toNat_zero Y).2 (by omega))) (by omega) (by have := X.isLt; omega) (by omega)
  have g := two32_110 X.toInt Y.toInt (wrap64 ((X.toNat : Int) / (Y.toNat : Int))) 0 (fun w => by rw [u32_of, u32_of]; exact h w) w
  rw [udiv32] at g
  exact g
theorem t32_112 (X Y : BitVec 32) (w : World) :
  Calls Tryz.prog 93 #[.int .u8 112, .int .i32 X.toInt, .int .i32 Y.toInt] w fun e w' => e = .returned (.tuple #[.int .i64 (recV 6 X Y).1, .int .i64 (recV 6 X Y).2]) ∧ w' = w := by
 by_cases h0 : Y.toInt = 0
 ·rw [show recV 6 X Y = (0, 21) from if_pos h0]
  have g := two32_112 X.toInt Y.toInt 0 21 (fun w => by rw [u32_of, u32_of]; exact quotu32_111_zero _ _ (by have := (toNat_zero Y).1 h0; omega) w) w
  rw [show wrap32 0 = 0 from in32 0 (by omega) (by omega)] at g
  exact g
 ·rw [show recV 6 X Y = ((X % Y).toInt, 0) from if_neg h0]
  have h := quotu32_111 (X.toNat : Int) (Y.toNat : Int) (by intro h; exact h0 ((toNat_zero Y).2 (by omega))) (by omega) (by have := X.isLt; omega) (by omega)
  have g := two32_112 X.toInt Y.toInt (wrap64 ((X.toNat : Int) % (Y.toNat : Int))) 0 (fun w => by rw [u32_of, u32_of]; exact h w) w
  rw [umod32] at g
  exact g
theorem t32_116 (X Y : BitVec 32) (w : World) :
  Calls Tryz.prog 93 #[.int .u8 116, .int .i32 X.toInt, .int .i32 Y.toInt] w fun e w' => e = .returned (.tuple #[.int .i64 (recV 10 X Y).1, .int .i64 (recV 10 X Y).2]) ∧ w' = w := by
 refine two32_116 X.toInt Y.toInt _ (toInt_lt32 _).1 (toInt_lt32 _).2 (fun w => ?_) w
 have h := move32_116 X.toInt Y.toInt w
 rw [shl32] at h
 exact h
theorem t32_117 (X Y : BitVec 32) (w : World) :
  Calls Tryz.prog 93 #[.int .u8 117, .int .i32 X.toInt, .int .i32 Y.toInt] w fun e w' => e = .returned (.tuple #[.int .i64 (recV 11 X Y).1, .int .i64 (recV 11 X Y).2]) ∧ w' = w := by
 refine two32_117 X.toInt Y.toInt _ (toInt_lt32 _).1 (toInt_lt32 _).2 (fun w => ?_) w
 have h := move32_117 X.toInt Y.toInt w
 rw [sshr32] at h
 exact h
theorem t32_118 (X Y : BitVec 32) (w : World) :
  Calls Tryz.prog 93 #[.int .u8 118, .int .i32 X.toInt, .int .i32 Y.toInt] w fun e w' => e = .returned (.tuple #[.int .i64 (recV 12 X Y).1, .int .i64 (recV 12 X Y).2]) ∧ w' = w := by
 refine two32_118 X.toInt Y.toInt _ (toInt_lt32 _).1 (toInt_lt32 _).2 (fun w => ?_) w
 have h := move32_118 X.toInt Y.toInt w
 rw [ushr32] at h
 exact h
theorem t32_119 (X Y : BitVec 32) (w : World) :
  Calls Tryz.prog 93 #[.int .u8 119, .int .i32 X.toInt, .int .i32 Y.toInt] w fun e w' => e = .returned (.tuple #[.int .i64 (recV 13 X Y).1, .int .i64 (recV 13 X Y).2]) ∧ Below w.heap.size w w' := by
 refine two32_119 X.toInt Y.toInt _ (toInt_lt32 _).1 (toInt_lt32 _).2 (fun w => ?_) w
 have h := move32_119 X.toInt Y.toInt w
 rw [rotl32] at h
 exact h
theorem t32_120 (X Y : BitVec 32) (w : World) :
  Calls Tryz.prog 93 #[.int .u8 120, .int .i32 X.toInt, .int .i32 Y.toInt] w fun e w' => e = .returned (.tuple #[.int .i64 (recV 14 X Y).1, .int .i64 (recV 14 X Y).2]) ∧ Below w.heap.size w w' := by
 refine two32_120 X.toInt Y.toInt _ (toInt_lt32 _).1 (toInt_lt32 _).2 (fun w => ?_) w
 have h := move32_120 X.toInt Y.toInt w
 rw [rotr32] at h
 exact h
theorem t64_70 (X Y : BitVec 64) (w : World) :
  Calls Tryz.prog 92 #[.int .u8 70, .int .i64 X.toInt, .int .i64 Y.toInt] w fun e w' => e = .returned (.tuple #[.int .i64 ((t2i (cmpV 0 X Y), (0 : Int))).1, .int .i64 ((t2i (cmpV 0 X Y), (0 : Int))).2]) ∧ w' = w := by
 have h := two64_70 X.toInt Y.toInt _ (fun w => holds64_70 _ _ w) w
 rw [eq_bv] at h
 exact h
theorem t64_71 (X Y : BitVec 64) (w : World) :
  Calls Tryz.prog 92 #[.int .u8 71, .int .i64 X.toInt, .int .i64 Y.toInt] w fun e w' => e = .returned (.tuple #[.int .i64 ((t2i (cmpV 1 X Y), (0 : Int))).1, .int .i64 ((t2i (cmpV 1 X Y), (0 : Int))).2]) ∧ w' = w := by
 have h := two64_71 X.toInt Y.toInt _ (fun w => holds64_71 _ _ w) w
 rw [eq_bv] at h
 exact h
theorem t64_72 (X Y : BitVec 64) (w : World) :
  Calls Tryz.prog 92 #[.int .u8 72, .int .i64 X.toInt, .int .i64 Y.toInt] w fun e w' => e = .returned (.tuple #[.int .i64 ((t2i (cmpV 2 X Y), (0 : Int))).1, .int .i64 ((t2i (cmpV 2 X Y), (0 : Int))).2]) ∧ w' = w := two64_72 X.toInt Y.toInt _ (fun w => holds64_72 _ _ w) w
theorem t64_74 (X Y : BitVec 64) (w : World) :
  Calls Tryz.prog 92 #[.int .u8 74, .int .i64 X.toInt, .int .i64 Y.toInt] w fun e w' => e = .returned (.tuple #[.int .i64 ((t2i (cmpV 4 X Y), (0 : Int))).1, .int .i64 ((t2i (cmpV 4 X Y), (0 : Int))).2]) ∧ w' = w := two64_74 X.toInt Y.toInt _ (fun w => holds64_74 _ _ w) w
theorem t64_76 (X Y : BitVec 64) (w : World) :
  Calls Tryz.prog 92 #[.int .u8 76, .int .i64 X.toInt, .int .i64 Y.toInt] w fun e w' => e = .returned (.tuple #[.int .i64 ((t2i (cmpV 6 X Y), (0 : Int))).1, .int .i64 ((t2i (cmpV 6 X Y), (0 : Int))).2]) ∧ w' = w := two64_76 X.toInt Y.toInt _ (fun w => holds64_76 _ _ w) w
theorem t64_78 (X Y : BitVec 64) (w : World) :
  Calls Tryz.prog 92 #[.int .u8 78, .int .i64 X.toInt, .int .i64 Y.toInt] w fun e w' => e = .returned (.tuple #[.int .i64 ((t2i (cmpV 8 X Y), (0 : Int))).1, .int .i64 ((t2i (cmpV 8 X Y), (0 : Int))).2]) ∧ w' = w := two64_78 X.toInt Y.toInt _ (fun w => holds64_78 _ _ w) w
theorem t64_73 (X Y : BitVec 64) (w : World) :
  Calls Tryz.prog 92 #[.int .u8 73, .int .i64 X.toInt, .int .i64 Y.toInt] w fun e w' => e = .returned (.tuple #[.int .i64 ((t2i (cmpV 3 X Y), (0 : Int))).1, .int .i64 ((t2i (cmpV 3 X Y), (0 : Int))).2]) ∧ w' = w := by
 refine two64_73 X.toInt Y.toInt _ (fun w => ?_) w
 rw [u64_of, u64_of]
 have h := holdsu64_72 (X.toNat : Int) (Y.toNat : Int) w
 rw [decide_eq_decide.2 Int.ofNat_lt] at h
 exact h
theorem t64_75 (X Y : BitVec 64) (w : World) :
  Calls Tryz.prog 92 #[.int .u8 75, .int .i64 X.toInt, .int .i64 Y.toInt] w fun e w' => e = .returned (.tuple #[.int .i64 ((t2i (cmpV 5 X Y), (0 : Int))).1, .int .i64 ((t2i (cmpV 5 X Y), (0 : Int))).2]) ∧ w' = w := by
 refine two64_75 X.toInt Y.toInt _ (fun w => ?_) w
 rw [u64_of, u64_of]
 have h := holdsu64_74 (X.toNat : Int) (Y.toNat : Int) w
 rw [decide_eq_decide.2 Int.ofNat_lt] at h
 exact h
theorem t64_77 (X Y : BitVec 64) (w : World) :
  Calls Tryz.prog 92 #[.int .u8 77, .int .i64 X.toInt, .int .i64 Y.toInt] w fun e w' => e = .returned (.tuple #[.int .i64 ((t2i (cmpV 7 X Y), (0 : Int))).1, .int .i64 ((t2i (cmpV 7 X Y), (0 : Int))).2]) ∧ w' = w := by
 refine two64_77 X.toInt Y.toInt _ (fun w => ?_) w
 rw [u64_of, u64_of]
 have h := holdsu64_76 (X.toNat : Int) (Y.toNat : Int) w
 rw [decide_eq_decide.2 Int.ofNat_le] at h
 exact h
theorem t64_79 (X Y : BitVec 64) (w : World) :
  Calls Tryz.prog 92 #[.int .u8 79, .int .i64 X.toInt, .int .i64 Y.toInt] w fun e w' => e = .returned (.tuple #[.int .i64 ((t2i (cmpV 9 X Y), (0 : Int))).1, .int .i64 ((t2i (cmpV 9 X Y), (0 : Int))).2]) ∧ w' = w := by
 refine two64_79 X.toInt Y.toInt _ (fun w => ?_) w
 rw [u64_of, u64_of]
 have h := holdsu64_78 (X.toNat : Int) (Y.toNat : Int) w
 rw [decide_eq_decide.2 Int.ofNat_le] at h
 exact h
theorem t64_106 (X Y : BitVec 64) (w : World) :
  Calls Tryz.prog 92 #[.int .u8 106, .int .i64 X.toInt, .int .i64 Y.toInt] w fun e w' => e = .returned (.tuple #[.int .i64 (recV 0 X Y).1, .int .i64 (recV 0 X Y).2]) ∧ w' = w := by
 refine two64_106 X.toInt Y.toInt _ (fun w => ?_) w
 have h := combine64_106 X.toInt Y.toInt w
 rw [of_toInt, of_toInt] at h
 exact h
theorem t64_107 (X Y : BitVec 64) (w : World) :
  Calls Tryz.prog 92 #[.int .u8 107, .int .i64 X.toInt, .int .i64 Y.toInt] w fun e w' => e = .returned (.tuple #[.int .i64 (recV 1 X Y).1, .int .i64 (recV 1 X Y).2]) ∧ w' = w := by
 refine two64_107 X.toInt Y.toInt _ (fun w => ?_) w
 have h := combine64_107 X.toInt Y.toInt w
 rw [of_toInt, of_toInt] at h
 exact h
theorem t64_108 (X Y : BitVec 64) (w : World) :
  Calls Tryz.prog 92 #[.int .u8 108, .int .i64 X.toInt, .int .i64 Y.toInt] w fun e w' => e = .returned (.tuple #[.int .i64 (recV 2 X Y).1, .int .i64 (recV 2 X Y).2]) ∧ w' = w := by
 refine two64_108 X.toInt Y.toInt _ (fun w => ?_) w
 have h := combine64_108 X.toInt Y.toInt w
 rw [of_toInt, of_toInt] at h
 exact h
theorem t64_113 (X Y : BitVec 64) (w : World) :
  Calls Tryz.prog 92 #[.int .u8 113, .int .i64 X.toInt, .int .i64 Y.toInt] w fun e w' => e = .returned (.tuple #[.int .i64 (recV 7 X Y).1, .int .i64 (recV 7 X Y).2]) ∧ w' = w := by
 refine two64_113 X.toInt Y.toInt _ (fun w => ?_) w
 have h := combine64_113 X.toInt Y.toInt w
 rw [of_toInt, of_toInt] at h
 exact h
theorem t64_114 (X Y : BitVec 64) (w : World) :
  Calls Tryz.prog 92 #[.int .u8 114, .int .i64 X.toInt, .int .i64 Y.toInt] w fun e w' => e = .returned (.tuple #[.int .i64 (recV 8 X Y).1, .int .i64 (recV 8 X Y).2]) ∧ w' = w := by
 refine two64_114 X.toInt Y.toInt _ (fun w => ?_) w
 have h := combine64_114 X.toInt Y.toInt w
 rw [of_toInt, of_toInt] at h
 exact h
theorem t64_115 (X Y : BitVec 64) (w : World) :
  Calls Tryz.prog 92 #[.int .u8 115, .int .i64 X.toInt, .int .i64 Y.toInt] w fun e w' => e = .returned (.tuple #[.int .i64 (recV 9 X Y).1, .int .i64 (recV 9 X Y).2]) ∧ w' = w := by
 refine two64_115 X.toInt Y.toInt _ (fun w => ?_) w
 have h := combine64_115 X.toInt Y.toInt w
 rw [of_toInt, of_toInt] at h
 exact h
theorem t64_109 (X Y : BitVec 64) (w : World) :
  Calls Tryz.prog 92 #[.int .u8 109, .int .i64 X.toInt, .int .i64 Y.toInt] w fun e w' => e = .returned (.tuple #[.int .i64 (recV 3 X Y).1, .int .i64 (recV 3 X Y).2]) ∧ w' = w := by
 refine two64_109 X.toInt Y.toInt _ _ (fun w => ?_) w
 have hX := toInt_lt64 X
 by_cases h0 : Y.toInt = 0
 ·rw [show recV 3 X Y = (0, 21) from if_pos h0]
  exact quot64_109_zero _ _ h0 w
 by_cases h1 : X.toInt = -2 ^ (64 - 1) ∧ Y.toInt = -1
 ·rw [show recV 3 X Y = (0, 22) from (if_neg h0).trans (if_pos h1)]
  rw [h1.1, h1.2]
  exact quot64_109_over _ _ (by omega) (by omega) (by omega) (by decide +kernel) w
 ·rw [show recV 3 X Y = (X.toInt.tdiv Y.toInt, 0) from (if_neg h0).trans (if_neg h1)]
  obtain ⟨b0, b1, b2⟩ := tdiv_range 9223372036854775808 X.toInt Y.toInt (by omega) (by omega) (by omega) h0 h1
  have e := in64 (X.toInt.tdiv Y.toInt) (by omega) (by omega)
  have h := quot64_109 X.toInt Y.toInt h0 (by rw [e]; rintro ⟨c1, c2, c3⟩; have := b2 c1 c2; omega) w
  rw [e] at h
  exact h
theorem t64_111 (X Y : BitVec 64) (w : World) :
  Calls Tryz.prog 92 #[.int .u8 111, .int .i64 X.toInt, .int .i64 Y.toInt] w fun e w' => e = .returned (.tuple #[.int .i64 (recV 5 X Y).1, .int .i64 (recV 5 X Y).2]) ∧ w' = w := by
 refine two64_111 X.toInt Y.toInt _ _ (fun w => ?_) w
 have hX := toInt_lt64 X
 by_cases h0 : Y.toInt = 0
 ·rw [show recV 5 X Y = (0, 21) from if_pos h0]
  exact quot64_111_zero _ _ h0 w
 ·rw [show recV 5 X Y = (X.toInt.tmod Y.toInt, 0) from if_neg h0]
  obtain ⟨b0, b1⟩ := tmod_range 9223372036854775808 X.toInt Y.toInt (by omega) (by omega) (by omega)
  exact quot64_111 X.toInt Y.toInt h0 _ rfl (by omega) (by omega) w
theorem t64_110 (X Y : BitVec 64) (w : World) :
  Calls Tryz.prog 92 #[.int .u8 110, .int .i64 X.toInt, .int .i64 Y.toInt] w fun e w' => e = .returned (.tuple #[.int .i64 (recV 4 X Y).1, .int .i64 (recV 4 X Y).2]) ∧ w' = w := by
 by_cases h0 : Y.toInt = 0
 ·rw [show recV 4 X Y = (0, 21) from if_pos h0]
  have g := two64_110 X.toInt Y.toInt 0 21 (fun w => by rw [u64_of, u64_of]; exact quotu64_109_zero _ _ (by have := (toNat_zero Y).1 h0; omega) w) w
  exact g
 ·rw [show recV 4 X Y = ((X / Y).toInt, 0) from if_neg h0]
  have h := quotu64_109 (X.toNat : Int) (Y.toNat : Int) (by intro h; exact h0 ((toNat_zero Y).2 (by omega))) (by omega) (by have := X.isLt; omega) (by omega)
  rw [udiv64] at h
  exact two64_110 X.toInt Y.toInt _ _ (fun w => by rw [u64_of, u64_of]; exact h w) w
theorem t64_112 (X Y : BitVec 64) (w : World) :
  Calls Tryz.prog 92 #[.int .u8 112, .int .i64 X.toInt, .int .i64 Y.toInt] w fun e w' => e = .returned (.tuple #[.int .i64 (recV 6 X Y).1, .int .i64 (recV 6 X Y).2]) ∧ w' = w := by
 by_cases h0 : Y.toInt = 0
 ·rw [show recV 6 X Y = (0, 21) from if_pos h0]
  have g := two64_112 X.toInt Y.toInt 0 21 (fun w => by rw [u64_of, u64_of]; exact quotu64_111_zero _ _ (by have := (toNat_zero Y).1 h0; omega) w) w
  exact g
 ·rw [show recV 6 X Y = ((X % Y).toInt, 0) from if_neg h0]
  have h := quotu64_111 (X.toNat : Int) (Y.toNat : Int) (by intro h; exact h0 ((toNat_zero Y).2 (by omega))) (by omega) (by have := X.isLt; omega) (by omega)
  rw [umod64] at h
  exact two64_112 X.toInt Y.toInt _ _ (fun w => by rw [u64_of, u64_of]; exact h w) w
theorem t64_116 (X Y : BitVec 64) (w : World) :
  Calls Tryz.prog 92 #[.int .u8 116, .int .i64 X.toInt, .int .i64 Y.toInt] w fun e w' => e = .returned (.tuple #[.int .i64 (recV 10 X Y).1, .int .i64 (recV 10 X Y).2]) ∧ w' = w := by
 refine two64_116 X.toInt Y.toInt _ (fun w => ?_) w
 have h := move64_116 X.toInt Y.toInt (Y.toNat : Int) (X.toNat : Int) (u64_of Y) (u64_of X) (by omega) (by have := Y.isLt; omega) (by omega) (by have := X.isLt; omega) w
 rw [shl64] at h
 exact h
theorem t64_117 (X Y : BitVec 64) (w : World) :
  Calls Tryz.prog 92 #[.int .u8 117, .int .i64 X.toInt, .int .i64 Y.toInt] w fun e w' => e = .returned (.tuple #[.int .i64 (recV 11 X Y).1, .int .i64 (recV 11 X Y).2]) ∧ w' = w := by
 refine two64_117 X.toInt Y.toInt _ (fun w => ?_) w
 have h := move64_117 X.toInt Y.toInt (Y.toNat : Int) (X.toNat : Int) (u64_of Y) (u64_of X) (by omega) (by have := Y.isLt; omega) (by omega) (by have := X.isLt; omega) w
 rw [sshr64] at h
 exact h
theorem t64_118 (X Y : BitVec 64) (w : World) :
  Calls Tryz.prog 92 #[.int .u8 118, .int .i64 X.toInt, .int .i64 Y.toInt] w fun e w' => e = .returned (.tuple #[.int .i64 (recV 12 X Y).1, .int .i64 (recV 12 X Y).2]) ∧ w' = w := by
 refine two64_118 X.toInt Y.toInt _ (fun w => ?_) w
 have h := move64_118 X.toInt Y.toInt (Y.toNat : Int) (X.toNat : Int) (u64_of Y) (u64_of X) (by omega) (by have := Y.isLt; omega) (by omega) (by have := X.isLt; omega) w
 rw [ushr64] at h
 exact h
theorem t64_119 (X Y : BitVec 64) (w : World) :
  Calls Tryz.prog 92 #[.int .u8 119, .int .i64 X.toInt, .int .i64 Y.toInt] w fun e w' => e = .returned (.tuple #[.int .i64 (recV 13 X Y).1, .int .i64 (recV 13 X Y).2]) ∧ Below w.heap.size w w' := by
 refine two64_119 X.toInt Y.toInt _ (fun w => ?_) w
 have h := move64_119 X.toInt Y.toInt (Y.toNat : Int) (X.toNat : Int) (u64_of Y) (u64_of X) (by omega) (by have := Y.isLt; omega) (by omega) (by have := X.isLt; omega) w
 rw [rotl64] at h
 exact h
theorem t64_120 (X Y : BitVec 64) (w : World) :
  Calls Tryz.prog 92 #[.int .u8 120, .int .i64 X.toInt, .int .i64 Y.toInt] w fun e w' => e = .returned (.tuple #[.int .i64 (recV 14 X Y).1, .int .i64 (recV 14 X Y).2]) ∧ Below w.heap.size w w' := by
 refine two64_120 X.toInt Y.toInt _ (fun w => ?_) w
 have h := move64_120 X.toInt Y.toInt (Y.toNat : Int) (X.toNat : Int) (u64_of Y) (u64_of X) (by omega) (by have := Y.isLt; omega) (by omega) (by have := X.isLt; omega) w
 rw [rotr64] at h
 exact h
end Go.Proofs.YtkceplamaocmmaaGreatDoor
namespace Go.Proofs.YtkceplamaocmmaaGreatDoor
open Go.RowKit
theorem short_asks (op : Int) (_h0 : 80 ≤ op) (_h1 : op ≤ 90) (w : World) :
  Calls Tryz.prog 89 #[.int .u8 op] w fun e w' => e = .returned (.tuple #[.int .u8 (op - 11), .bool true]) ∧ w' = w := by
 go_enter Tryz.func89, Tryz.ntmps89
 go_wp2
 go_ret2
 exact ⟨rfl, rfl⟩
theorem short_makes (op : Int) (_h0 : 121 ≤ op) (_h1 : op ≤ 138) (w : World) :
  Calls Tryz.prog 89 #[.int .u8 op] w fun e w' => e = .returned (.tuple #[.int .u8 (op - 18), .bool true]) ∧ w' = w := by
 go_enter Tryz.func89, Tryz.ntmps89
 go_wp2
 go_ret2
 exact ⟨rfl, rfl⟩
theorem short_a (op : Int) (_h0 : 0 ≤ op) (_h1 : op < 80) (w : World) :
  Calls Tryz.prog 89 #[.int .u8 op] w fun e w' => e = .returned (.tuple #[.int .u8 (op), .bool false]) ∧ w' = w := by
 go_enter Tryz.func89, Tryz.ntmps89
 go_wp2
 go_ret2
 exact ⟨rfl, rfl⟩
theorem short_b (op : Int) (_h0 : 90 < op) (_h1 : op < 121) (w : World) :
  Calls Tryz.prog 89 #[.int .u8 op] w fun e w' => e = .returned (.tuple #[.int .u8 (op), .bool false]) ∧ w' = w := by
 go_enter Tryz.func89, Tryz.ntmps89
 go_wp2
 go_ret2
 exact ⟨rfl, rfl⟩
theorem short_c (op : Int) (_h0 : 138 < op) (_h1 : op ≤ 255) (w : World) :
  Calls Tryz.prog 89 #[.int .u8 op] w fun e w' => e = .returned (.tuple #[.int .u8 (op), .bool false]) ∧ w' = w := by
 go_enter Tryz.func89, Tryz.ntmps89
 go_wp2
 go_ret2
 exact ⟨rfl, rfl⟩
theorem pick_asks (op a b R E : Int) (h0 : 80 ≤ op) (h1 : op ≤ 90) (Q : World → World → Prop) (HL : Hid (∀ w, Calls Tryz.prog 92 #[.int .u8 (op - 11), .int .i64 a, .int .i64 b] w fun e w' => e = .returned (.tuple #[.int .i64 R, .int .i64 E]) ∧ Q w w')) (w : World) :
  Calls Tryz.prog 78 #[.int .u8 op, .int .i64 a, .int .i64 b] w fun e w' => e = .returned (.tuple #[.int .i64 R, .int .i64 E]) ∧ Q w w' := by
 have HS : Hid (∀ w, Calls Tryz.prog 89 #[.int .u8 op] w fun e w' => e = .returned (.tuple #[.int .u8 (op - 11), .bool true]) ∧ w' = w) := fun w => short_asks op h0 h1 w
 go_enter Tryz.func78, Tryz.ntmps78
 go_wp2_with fail
 refine (HS.out _).mono ?_
 rintro e w1 ⟨rfl, rfl⟩
 go_wp2_with fail
 refine (HL.out _).mono ?_
 rintro e w2 ⟨rfl, b1⟩
 go_wp2
 go_ret2
 exact ⟨rfl, b1⟩
theorem pick_makes (op a b R E : Int) (h0 : 121 ≤ op) (h1 : op ≤ 138) (Q : World → World → Prop) (HL : Hid (∀ w, Calls Tryz.prog 92 #[.int .u8 (op - 18), .int .i64 a, .int .i64 b] w fun e w' => e = .returned (.tuple #[.int .i64 R, .int .i64 E]) ∧ Q w w')) (w : World) :
  Calls Tryz.prog 78 #[.int .u8 op, .int .i64 a, .int .i64 b] w fun e w' => e = .returned (.tuple #[.int .i64 R, .int .i64 E]) ∧ Q w w' := by
 have HS : Hid (∀ w, Calls Tryz.prog 89 #[.int .u8 op] w fun e w' => e = .returned (.tuple #[.int .u8 (op - 18), .bool true]) ∧ w' = w) := fun w => short_makes op h0 h1 w
 go_enter Tryz.func78, Tryz.ntmps78
 go_wp2_with fail
 refine (HS.out _).mono ?_
 rintro e w1 ⟨rfl, rfl⟩
 go_wp2_with fail
 refine (HL.out _).mono ?_
 rintro e w2 ⟨rfl, b1⟩
 go_wp2
 go_ret2
 exact ⟨rfl, b1⟩
theorem pick_short (op a b R E : Int) (h0 : 0 ≤ op) (h1 : op ≤ 255) (h2 : op < 80 ∨ 90 < op ∧ op < 121 ∨ 138 < op) (Q : World → World → Prop) (HL : Hid (∀ w, Calls Tryz.prog 93 #[.int .u8 (op), .int .i32 (wrap32 a), .int .i32 (wrap32 b)] w fun e w' => e = .returned (.tuple #[.int .i64 R, .int .i64 E]) ∧ Q w w')) (w : World) :
  Calls Tryz.prog 78 #[.int .u8 op, .int .i64 a, .int .i64 b] w fun e w' => e = .returned (.tuple #[.int .i64 R, .int .i64 E]) ∧ Q w w' := by
 have HS : Hid (∀ w, Calls Tryz.prog 89 #[.int .u8 op] w fun e w' => e = .returned (.tuple #[.int .u8 (op), .bool false]) ∧ w' = w) := by
  intro w
  rcases h2 with h | h | h
  ·exact short_a op h0 h w
  ·exact short_b op h.1 h.2 w
  ·exact short_c op h h1 w
 go_enter Tryz.func78, Tryz.ntmps78
 go_wp2_with fail
 refine (HS.out _).mono ?_
 rintro e w1 ⟨rfl, rfl⟩
 go_wp2_with fail
 refine (HL.out _).mono ?_
 rintro e w2 ⟨rfl, b1⟩
 go_wp2
 go_ret2
 exact ⟨rfl, b1⟩
theorem two32_other (op a b : Int) (_h70 : (op == 70) = false) (_h71 : (op == 71) = false) (_h72 : (op == 72) = false) (_h73 : (op == 73) = false) (_h74 : (op == 74) = false) (_h75 : (op == 75) = false) (_h76 : (op == 76) = false) (_h77 : (op == 77) = false) (_h78 : (op == 78) = false) (_h79 : (op == 79) = false) (_h106 : (op == 106) = false) (_h107 : (op == 107) = false) (_h108 : (op == 108) = false) (_h109 : (op == 109) = false) (_h110 : (op == 110) = false) (_h111 : (op == 111) = false) (_h112 : (op == 112) = false) (_h113 : (op == 113) = false) (_h114 : (op == 114) = false) (_h115 : (op == 115) = false) (_h116 : (op == 116) = false) (_h117 : (op == 117) = false) (_h118 : (op == 118) = false) (_h119 : (op == 119) = false) (_h120 : (op == 120) = false) (w : World) :
  Calls Tryz.prog 93 #[.int .u8 op, .int .i32 a, .int .i32 b] w fun e w' => e = .returned (.tuple #[.int .i64 0, .int .i64 6]) ∧ w' = w := by
 go_enter Tryz.func93, Tryz.ntmps93
 go_wp2
 go_ret2
 exact r2 rfl rfl
theorem two64_other (op a b : Int) (_h70 : (op == 70) = false) (_h71 : (op == 71) = false) (_h72 : (op == 72) = false) (_h73 : (op == 73) = false) (_h74 : (op == 74) = false) (_h75 : (op == 75) = false) (_h76 : (op == 76) = false) (_h77 : (op == 77) = false) (_h78 : (op == 78) = false) (_h79 : (op == 79) = false) (_h106 : (op == 106) = false) (_h107 : (op == 107) = false) (_h108 : (op == 108) = false) (_h109 : (op == 109) = false) (_h110 : (op == 110) = false) (_h111 : (op == 111) = false) (_h112 : (op == 112) = false) (_h113 : (op == 113) = false) (_h114 : (op == 114) = false) (_h115 : (op == 115) = false) (_h116 : (op == 116) = false) (_h117 : (op == 117) = false) (_h118 : (op == 118) = false) (_h119 : (op == 119) = false) (_h120 : (op == 120) = false) (w : World) :
  Calls Tryz.prog 92 #[.int .u8 op, .int .i64 a, .int .i64 b] w fun e w' => e = .returned (.tuple #[.int .i64 0, .int .i64 6]) ∧ w' = w := by
 go_enter Tryz.func92, Tryz.ntmps92
 go_wp2
 go_ret2
 exact r2 rfl rfl
theorem num_70 (a b : Int) (w : World) :
  Calls Tryz.prog 78 #[.int .u8 70, .int .i64 a, .int .i64 b] w fun e w' => e = .returned (.tuple #[.int .i64 ((t2i (cmpV 0 (BitVec.ofInt 32 a) (BitVec.ofInt 32 b)), (0 : Int))).1, .int .i64 ((t2i (cmpV 0 (BitVec.ofInt 32 a) (BitVec.ofInt 32 b)), (0 : Int))).2]) ∧ w' = w := by
 refine pick_short 70 a b _ _ (by omega) (by omega) (by omega) (fun w w' => w' = w) (fun w => ?_) w
 rw [w32_bv, w32_bv]
 exact t32_70 _ _ w
theorem num_71 (a b : Int) (w : World) :
  Calls Tryz.prog 78 #[.int .u8 71, .int .i64 a, .int .i64 b] w fun e w' => e = .returned (.tuple #[.int .i64 ((t2i (cmpV 1 (BitVec.ofInt 32 a) (BitVec.ofInt 32 b)), (0 : Int))).1, .int .i64 ((t2i (cmpV 1 (BitVec.ofInt 32 a) (BitVec.ofInt 32 b)), (0 : Int))).2]) ∧ w' = w := by
 refine pick_short 71 a b _ _ (by omega) (by omega) (by omega) (fun w w' => w' = w) (fun w => ?_) w
 rw [w32_bv, w32_bv]
 exact t32_71 _ _ w
theorem num_72 (a b : Int) (w : World) :
  Calls Tryz.prog 78 #[.int .u8 72, .int .i64 a, .int .i64 b] w fun e w' => e = .returned (.tuple #[.int .i64 ((t2i (cmpV 2 (BitVec.ofInt 32 a) (BitVec.ofInt 32 b)), (0 : Int))).1, .int .i64 ((t2i (cmpV 2 (BitVec.ofInt 32 a) (BitVec.ofInt 32 b)), (0 : Int))).2]) ∧ w' = w := by
 refine pick_short 72 a b _ _ (by omega) (by omega) (by omega) (fun w w' => w' = w) (fun w => ?_) w
 rw [w32_bv, w32_bv]
 exact t32_72 _ _ w
theorem num_73 (a b : Int) (w : World) :
  Calls Tryz.prog 78 #[.int .u8 73, .int .i64 a, .int .i64 b] w fun e w' => e = .returned (.tuple #[.int .i64 ((t2i (cmpV 3 (BitVec.ofInt 32 a) (BitVec.ofInt 32 b)), (0 : Int))).1, .int .i64 ((t2i (cmpV 3 (BitVec.ofInt 32 a) (BitVec.ofInt 32 b)), (0 : Int))).2]) ∧ w' = w := by
 refine pick_short 73 a b _ _ (by omega) (by omega) (by omega) (fun w w' => w' = w) (fun w => ?_) w
 rw [w32_bv, w32_bv]
 exact t32_73 _ _ w
theorem num_74 (a b : Int) (w : World) :
  Calls Tryz.prog 78 #[.int .u8 74, .int .i64 a, .int .i64 b] w fun e w' => e = .returned (.tuple #[.int .i64 ((t2i (cmpV 4 (BitVec.ofInt 32 a) (BitVec.ofInt 32 b)), (0 : Int))).1, .int .i64 ((t2i (cmpV 4 (BitVec.ofInt 32 a) (BitVec.ofInt 32 b)), (0 : Int))).2]) ∧ w' = w := by
 refine pick_short 74 a b _ _ (by omega) (by omega) (by omega) (fun w w' => w' = w) (fun w => ?_) w
 rw [w32_bv, w32_bv]
 exact t32_74 _ _ w
theorem num_75 (a b : Int) (w : World) :
  Calls Tryz.prog 78 #[.int .u8 75, .int .i64 a, .int .i64 b] w fun e w' => e = .returned (.tuple #[.int .i64 ((t2i (cmpV 5 (BitVec.ofInt 32 a) (BitVec.ofInt 32 b)), (0 : Int))).1, .int .i64 ((t2i (cmpV 5 (BitVec.ofInt 32 a) (BitVec.ofInt 32 b)), (0 : Int))).2]) ∧ w' = w := by
 refine pick_short 75 a b _ _ (by omega) (by omega) (by omega) (fun w w' => w' = w) (fun w => ?_) w
 rw [w32_bv, w32_bv]
 exact t32_75 _ _ w
theorem num_76 (a b : Int) (w : World) :
  Calls Tryz.prog 78 #[.int .u8 76, .int .i64 a, .int .i64 b] w fun e w' => e = .returned (.tuple #[.int .i64 ((t2i (cmpV 6 (BitVec.ofInt 32 a) (BitVec.ofInt 32 b)), (0 : Int))).1, .int .i64 ((t2i (cmpV 6 (BitVec.ofInt 32 a) (BitVec.ofInt 32 b)), (0 : Int))).2]) ∧ w' = w := by
 refine pick_short 76 a b _ _ (by omega) (by omega) (by omega) (fun w w' => w' = w) (fun w => ?_) w
 rw [w32_bv, w32_bv]
 exact t32_76 _ _ w
theorem num_77 (a b : Int) (w : World) :
  Calls Tryz.prog 78 #[.int .u8 77, .int .i64 a, .int .i64 b] w fun e w' => e = .returned (.tuple #[.int .i64 ((t2i (cmpV 7 (BitVec.ofInt 32 a) (BitVec.ofInt 32 b)), (0 : Int))).1, .int .i64 ((t2i (cmpV 7 (BitVec.ofInt 32 a) (BitVec.ofInt 32 b)), (0 : Int))).2]) ∧ w' = w := by
 refine pick_short 77 a b _ _ (by omega) (by omega) (by omega) (fun w w' => w' = w) (fun w => ?_) w
 rw [w32_bv, w32_bv]
 exact t32_77 _ _ w
theorem num_78 (a b : Int) (w : World) :
  Calls Tryz.prog 78 #[.int .u8 78, .int .i64 a, .int .i64 b] w fun e w' => e = .returned (.tuple #[.int .i64 ((t2i (cmpV 8 (BitVec.ofInt 32 a) (BitVec.ofInt 32 b)), (0 : Int))).1, .int .i64 ((t2i (cmpV 8 (BitVec.ofInt 32 a) (BitVec.ofInt 32 b)), (0 : Int))).2]) ∧ w' = w := by
 refine pick_short 78 a b _ _ (by omega) (by omega) (by omega) (fun w w' => w' = w) (fun w => ?_) w
 rw [w32_bv, w32_bv]
 exact t32_78 _ _ w
theorem num_79 (a b : Int) (w : World) :
  Calls Tryz.prog 78 #[.int .u8 79, .int .i64 a, .int .i64 b] w fun e w' => e = .returned (.tuple #[.int .i64 ((t2i (cmpV 9 (BitVec.ofInt 32 a) (BitVec.ofInt 32 b)), (0 : Int))).1, .int .i64 ((t2i (cmpV 9 (BitVec.ofInt 32 a) (BitVec.ofInt 32 b)), (0 : Int))).2]) ∧ w' = w := by
 refine pick_short 79 a b _ _ (by omega) (by omega) (by omega) (fun w w' => w' = w) (fun w => ?_) w
 rw [w32_bv, w32_bv]
 exact t32_79 _ _ w
theorem num_106 (a b : Int) (w : World) :
  Calls Tryz.prog 78 #[.int .u8 106, .int .i64 a, .int .i64 b] w fun e w' => e = .returned (.tuple #[.int .i64 (recV 0 (BitVec.ofInt 32 a) (BitVec.ofInt 32 b)).1, .int .i64 (recV 0 (BitVec.ofInt 32 a) (BitVec.ofInt 32 b)).2]) ∧ w' = w := by
 refine pick_short 106 a b _ _ (by omega) (by omega) (by omega) (fun w w' => w' = w) (fun w => ?_) w
 rw [w32_bv, w32_bv]
 exact t32_106 _ _ w
theorem num_107 (a b : Int) (w : World) :
  Calls Tryz.prog 78 #[.int .u8 107, .int .i64 a, .int .i64 b] w fun e w' => e = .returned (.tuple #[.int .i64 (recV 1 (BitVec.ofInt 32 a) (BitVec.ofInt 32 b)).1, .int .i64 (recV 1 (BitVec.ofInt 32 a) (BitVec.ofInt 32 b)).2]) ∧ w' = w := by
 refine pick_short 107 a b _ _ (by omega) (by omega) (by omega) (fun w w' => w' = w) (fun w => ?_) w
 rw [w32_bv, w32_bv]
 exact t32_107 _ _ w
theorem num_108 (a b : Int) (w : World) :
  Calls Tryz.prog 78 #[.int .u8 108, .int .i64 a, .int .i64 b] w fun e w' => e = .returned (.tuple #[.int .i64 (recV 2 (BitVec.ofInt 32 a) (BitVec.ofInt 32 b)).1, .int .i64 (recV 2 (BitVec.ofInt 32 a) (BitVec.ofInt 32 b)).2]) ∧ w' = w := by
 refine pick_short 108 a b _ _ (by omega) (by omega) (by omega) (fun w w' => w' = w) (fun w => ?_) w
 rw [w32_bv, w32_bv]
 exact t32_108 _ _ w
theorem num_109 (a b : Int) (w : World) :
  Calls Tryz.prog 78 #[.int .u8 109, .int .i64 a, .int .i64 b] w fun e w' => e = .returned (.tuple #[.int .i64 (recV 3 (BitVec.ofInt 32 a) (BitVec.ofInt 32 b)).1, .int .i64 (recV 3 (BitVec.ofInt 32 a) (BitVec.ofInt 32 b)).2]) ∧ w' = w := by
 refine pick_short 109 a b _ _ (by omega) (by omega) (by omega) (fun w w' => w' = w) (fun w => ?_) w
 rw [w32_bv, w32_bv]
 exact t32_109 _ _ w
theorem num_110 (a b : Int) (w : World) :
  Calls Tryz.prog 78 #[.int .u8 110, .int .i64 a, .int .i64 b] w fun e w' => e = .returned (.tuple #[.int .i64 (recV 4 (BitVec.ofInt 32 a) (BitVec.ofInt 32 b)).1, .int .i64 (recV 4 (BitVec.ofInt 32 a) (BitVec.ofInt 32 b)).2]) ∧ w' = w := by
 refine pick_short 110 a b _ _ (by omega) (by omega) (by omega) (fun w w' => w' = w) (fun w => ?_) w
 rw [w32_bv, w32_bv]
 exact t32_110 _ _ w
theorem num_111 (a b : Int) (w : World) :
  Calls Tryz.prog 78 #[.int .u8 111, .int .i64 a, .int .i64 b] w fun e w' => e = .returned (.tuple #[.int .i64 (recV 5 (BitVec.ofInt 32 a) (BitVec.ofInt 32 b)).1, .int .i64 (recV 5 (BitVec.ofInt 32 a) (BitVec.ofInt 32 b)).2]) ∧ w' = w := by
 refine pick_short 111 a b _ _ (by omega) (by omega) (by omega) (fun w w' => w' = w) (fun w => ?_) w
 rw [w32_bv, w32_bv]
 exact t32_111 _ _ w
theorem num_112 (a b : Int) (w : World) :
  Calls Tryz.prog 78 #[.int .u8 112, .int .i64 a, .int .i64 b] w fun e w' => e = .returned (.tuple #[.int .i64 (recV 6 (BitVec.ofInt 32 a) (BitVec.ofInt 32 b)).1, .int .i64 (recV 6 (BitVec.ofInt 32 a) (BitVec.ofInt 32 b)).2]) ∧ w' = w := by
 refine pick_short 112 a b _ _ (by omega) (by omega) (by omega) (fun w w' => w' = w) (fun w => ?_) w
 rw [w32_bv, w32_bv]
 exact t32_112 _ _ w
theorem num_113 (a b : Int) (w : World) :
  Calls Tryz.prog 78 #[.int .u8 113, .int .i64 a, .int .i64 b] w fun e w' => e = .returned (.tuple #[.int .i64 (recV 7 (BitVec.ofInt 32 a) (BitVec.ofInt 32 b)).1, .int .i64 (recV 7 (BitVec.ofInt 32 a) (BitVec.ofInt 32 b)).2]) ∧ w' = w := by
 refine pick_short 113 a b _ _ (by omega) (by omega) (by omega) (fun w w' => w' = w) (fun w => ?_) w
 rw [w32_bv, w32_bv]
 exact t32_113 _ _ w
theorem num_114 (a b : Int) (w : World) :
  Calls Tryz.prog 78 #[.int .u8 114, .int .i64 a, .int .i64 b] w fun e w' => e = .returned (.tuple #[.int .i64 (recV 8 (BitVec.ofInt 32 a) (BitVec.ofInt 32 b)).1, .int .i64 (recV 8 (BitVec.ofInt 32 a) (BitVec.ofInt 32 b)).2]) ∧ w' = w := by
 refine pick_short 114 a b _ _ (by omega) (by omega) (by omega) (fun w w' => w' = w) (fun w => ?_) w
 rw [w32_bv, w32_bv]
 exact t32_114 _ _ w
theorem num_115 (a b : Int) (w : World) :
  Calls Tryz.prog 78 #[.int .u8 115, .int .i64 a, .int .i64 b] w fun e w' => e = .returned (.tuple #[.int .i64 (recV 9 (BitVec.ofInt 32 a) (BitVec.ofInt 32 b)).1, .int .i64 (recV 9 (BitVec.ofInt 32 a) (BitVec.ofInt 32 b)).2]) ∧ w' = w := by
 refine pick_short 115 a b _ _ (by omega) (by omega) (by omega) (fun w w' => w' = w) (fun w => ?_) w
 rw [w32_bv, w32_bv]
 exact t32_115 _ _ w
theorem num_116 (a b : Int) (w : World) :
  Calls Tryz.prog 78 #[.int .u8 116, .int .i64 a, .int .i64 b] w fun e w' => e = .returned (.tuple #[.int .i64 (recV 10 (BitVec.ofInt 32 a) (BitVec.ofInt 32 b)).1, .int .i64 (recV 10 (BitVec.ofInt 32 a) (BitVec.ofInt 32 b)).2]) ∧ w' = w := by
 refine pick_short 116 a b _ _ (by omega) (by omega) (by omega) (fun w w' => w' = w) (fun w => ?_) w
 rw [w32_bv, w32_bv]
 exact t32_116 _ _ w
theorem num_117 (a b : Int) (w : World) :
  Calls Tryz.prog 78 #[.int .u8 117, .int .i64 a, .int .i64 b] w fun e w' => e = .returned (.tuple #[.int .i64 (recV 11 (BitVec.ofInt 32 a) (BitVec.ofInt 32 b)).1, .int .i64 (recV 11 (BitVec.ofInt 32 a) (BitVec.ofInt 32 b)).2]) ∧ w' = w := by
 refine pick_short 117 a b _ _ (by omega) (by omega) (by omega) (fun w w' => w' = w) (fun w => ?_) w
 rw [w32_bv, w32_bv]
 exact t32_117 _ _ w
theorem num_118 (a b : Int) (w : World) :
  Calls Tryz.prog 78 #[.int .u8 118, .int .i64 a, .int .i64 b] w fun e w' => e = .returned (.tuple #[.int .i64 (recV 12 (BitVec.ofInt 32 a) (BitVec.ofInt 32 b)).1, .int .i64 (recV 12 (BitVec.ofInt 32 a) (BitVec.ofInt 32 b)).2]) ∧ w' = w := by
 refine pick_short 118 a b _ _ (by omega) (by omega) (by omega) (fun w w' => w' = w) (fun w => ?_) w
 rw [w32_bv, w32_bv]
 exact t32_118 _ _ w
theorem num_119 (a b : Int) (w : World) :
  Calls Tryz.prog 78 #[.int .u8 119, .int .i64 a, .int .i64 b] w fun e w' => e = .returned (.tuple #[.int .i64 (recV 13 (BitVec.ofInt 32 a) (BitVec.ofInt 32 b)).1, .int .i64 (recV 13 (BitVec.ofInt 32 a) (BitVec.ofInt 32 b)).2]) ∧ Below w.heap.size w w' := by
 refine pick_short 119 a b _ _ (by omega) (by omega) (by omega) (fun w w' => Below w.heap.size w w') (fun w => ?_) w
 rw [w32_bv, w32_bv]
 exact t32_119 _ _ w
theorem num_120 (a b : Int) (w : World) :
  Calls Tryz.prog 78 #[.int .u8 120, .int .i64 a, .int .i64 b] w fun e w' => e = .returned (.tuple #[.int .i64 (recV 14 (BitVec.ofInt 32 a) (BitVec.ofInt 32 b)).1, .int .i64 (recV 14 (BitVec.ofInt 32 a) (BitVec.ofInt 32 b)).2]) ∧ Below w.heap.size w w' := by
 refine pick_short 120 a b _ _ (by omega) (by omega) (by omega) (fun w w' => Below w.heap.size w w') (fun w => ?_) w
 rw [w32_bv, w32_bv]
 exact t32_120 _ _ w
theorem num_81 (a b : Int) (ha : -9223372036854775808 ≤ a ∧ a ≤ 9223372036854775807) (hb : -9223372036854775808 ≤ b ∧ b ≤ 9223372036854775807) (w : World) :
  Calls Tryz.prog 78 #[.int .u8 81, .int .i64 a, .int .i64 b] w fun e w' => e = .returned (.tuple #[.int .i64 ((t2i (cmpV 0 (BitVec.ofInt 64 a) (BitVec.ofInt 64 b)), (0 : Int))).1, .int .i64 ((t2i (cmpV 0 (BitVec.ofInt 64 a) (BitVec.ofInt 64 b)), (0 : Int))).2]) ∧ w' = w := by
 refine pick_asks 81 a b _ _ (by omega) (by omega) (fun w w' => w' = w) (fun w => ?_) w
 have h := t64_70 (BitVec.ofInt 64 a) (BitVec.ofInt 64 b) w
 rw [of64_toInt a ha, of64_toInt b hb] at h
 exact h
theorem num_82 (a b : Int) (ha : -9223372036854775808 ≤ a ∧ a ≤ 9223372036854775807) (hb : -9223372036854775808 ≤ b ∧ b ≤ 9223372036854775807) (w : World) :
  Calls Tryz.prog 78 #[.int .u8 82, .int .i64 a, .int .i64 b] w fun e w' => e = .returned (.tuple #[.int .i64 ((t2i (cmpV 1 (BitVec.ofInt 64 a) (BitVec.ofInt 64 b)), (0 : Int))).1, .int .i64 ((t2i (cmpV 1 (BitVec.ofInt 64 a) (BitVec.ofInt 64 b)), (0 : Int))).2]) ∧ w' = w := by
 refine pick_asks 82 a b _ _ (by omega) (by omega) (fun w w' => w' = w) (fun w => ?_) w
 have h := t64_71 (BitVec.ofInt 64 a) (BitVec.ofInt 64 b) w
 rw [of64_toInt a ha, of64_toInt b hb] at h
 exact h
theorem num_83 (a b : Int) (ha : -9223372036854775808 ≤ a ∧ a ≤ 9223372036854775807) (hb : -9223372036854775808 ≤ b ∧ b ≤ 9223372036854775807) (w : World) :
  Calls Tryz.prog 78 #[.int .u8 83, .int .i64 a, .int .i64 b] w fun e w' => e = .returned (.tuple #[.int .i64 ((t2i (cmpV 2 (BitVec.ofInt 64 a) (BitVec.ofInt 64 b)), (0 : Int))).1, .int .i64 ((t2i (cmpV 2 (BitVec.ofInt 64 a) (BitVec.ofInt 64 b)), (0 : Int))).2]) ∧ w' = w := by
 refine pick_asks 83 a b _ _ (by omega) (by omega) (fun w w' => w' = w) (fun w => ?_) w
 have h := t64_72 (BitVec.ofInt 64 a) (BitVec.ofInt 64 b) w
 rw [of64_toInt a ha, of64_toInt b hb] at h
 exact h
theorem num_84 (a b : Int) (ha : -9223372036854775808 ≤ a ∧ a ≤ 9223372036854775807) (hb : -9223372036854775808 ≤ b ∧ b ≤ 9223372036854775807) (w : World) :
  Calls Tryz.prog 78 #[.int .u8 84, .int .i64 a, .int .i64 b] w fun e w' => e = .returned (.tuple #[.int .i64 ((t2i (cmpV 3 (BitVec.ofInt 64 a) (BitVec.ofInt 64 b)), (0 : Int))).1, .int .i64 ((t2i (cmpV 3 (BitVec.ofInt 64 a) (BitVec.ofInt 64 b)), (0 : Int))).2]) ∧ w' = w := by
 refine pick_asks 84 a b _ _ (by omega) (by omega) (fun w w' => w' = w) (fun w => ?_) w
 have h := t64_73 (BitVec.ofInt 64 a) (BitVec.ofInt 64 b) w
 rw [of64_toInt a ha, of64_toInt b hb] at h
 exact h
theorem num_85 (a b : Int) (ha : -9223372036854775808 ≤ a ∧ a ≤ 9223372036854775807) (hb : -9223372036854775808 ≤ b ∧ b ≤ 9223372036854775807) (w : World) :
  Calls Tryz.prog 78 #[.int .u8 85, .int .i64 a, .int .i64 b] w fun e w' => e = .returned (.tuple #[.int .i64 ((t2i (cmpV 4 (BitVec.ofInt 64 a) (BitVec.ofInt 64 b)), (0 : Int))).1, .int .i64 ((t2i (cmpV 4 (BitVec.ofInt 64 a) (BitVec.ofInt 64 b)), (0 : Int))).2]) ∧ w' = w := by
 refine pick_asks 85 a b _ _ (by omega) (by omega) (fun w w' => w' = w) (fun w => ?_) w
 have h := t64_74 (BitVec.ofInt 64 a) (BitVec.ofInt 64 b) w
 rw [of64_toInt a ha, of64_toInt b hb] at h
 exact h
theorem num_86 (a b : Int) (ha : -9223372036854775808 ≤ a ∧ a ≤ 9223372036854775807) (hb : -9223372036854775808 ≤ b ∧ b ≤ 9223372036854775807) (w : World) :
  Calls Tryz.prog 78 #[.int .u8 86, .int .i64 a, .int .i64 b] w fun e w' => e = .returned (.tuple #[.int .i64 ((t2i (cmpV 5 (BitVec.ofInt 64 a) (BitVec.ofInt 64 b)), (0 : Int))).1, .int .i64 ((t2i (cmpV 5 (BitVec.ofInt 64 a) (BitVec.ofInt 64 b)), (0 : Int))).2]) ∧ w' = w := by
 refine pick_asks 86 a b _ _ (by omega) (by omega) (fun w w' => w' = w) (fun w => ?_) w
 have h := t64_75 (BitVec.ofInt 64 a) (BitVec.ofInt 64 b) w
 rw [of64_toInt a ha, of64_toInt b hb] at h
 exact h
theorem num_87 (a b : Int) (ha : -9223372036854775808 ≤ a ∧ a ≤ 9223372036854775807) (hb : -9223372036854775808 ≤ b ∧ b ≤ 9223372036854775807) (w : World) :
  Calls Tryz.prog 78 #[.int .u8 87, .int .i64 a, .int .i64 b] w fun e w' => e = .returned (.tuple #[.int .i64 ((t2i (cmpV 6 (BitVec.ofInt 64 a) (BitVec.ofInt 64 b)), (0 : Int))).1, .int .i64 ((t2i (cmpV 6 (BitVec.ofInt 64 a) (BitVec.ofInt 64 b)), (0 : Int))).2]) ∧ w' = w := by
 refine pick_asks 87 a b _ _ (by omega) (by omega) (fun w w' => w' = w) (fun w => ?_) w
 have h := t64_76 (BitVec.ofInt 64 a) (BitVec.ofInt 64 b) w
 rw [of64_toInt a ha, of64_toInt b hb] at h
 exact h
theorem num_88 (a b : Int) (ha : -9223372036854775808 ≤ a ∧ a ≤ 9223372036854775807) (hb : -9223372036854775808 ≤ b ∧ b ≤ 9223372036854775807) (w : World) :
  Calls Tryz.prog 78 #[.int .u8 88, .int .i64 a, .int .i64 b] w fun e w' => e = .returned (.tuple #[.int .i64 ((t2i (cmpV 7 (BitVec.ofInt 64 a) (BitVec.ofInt 64 b)), (0 : Int))).1, .int .i64 ((t2i (cmpV 7 (BitVec.ofInt 64 a) (BitVec.ofInt 64 b)), (0 : Int))).2]) ∧ w' = w := by
 refine pick_asks 88 a b _ _ (by omega) (by omega) (fun w w' => w' = w) (fun w => ?_) w
 have h := t64_77 (BitVec.ofInt 64 a) (BitVec.ofInt 64 b) w
 rw [of64_toInt a ha, of64_toInt b hb] at h
 exact h
theorem num_89 (a b : Int) (ha : -9223372036854775808 ≤ a ∧ a ≤ 9223372036854775807) (hb : -9223372036854775808 ≤ b ∧ b ≤ 9223372036854775807) (w : World) :
  Calls Tryz.prog 78 #[.int .u8 89, .int .i64 a, .int .i64 b] w fun e w' => e = .returned (.tuple #[.int .i64 ((t2i (cmpV 8 (BitVec.ofInt 64 a) (BitVec.ofInt 64 b)), (0 : Int))).1, .int .i64 ((t2i (cmpV 8 (BitVec.ofInt 64 a) (BitVec.ofInt 64 b)), (0 : Int))).2]) ∧ w' = w := by
 refine pick_asks 89 a b _ _ (by omega) (by omega) (fun w w' => w' = w) (fun w => ?_) w
 have h := t64_78 (BitVec.ofInt 64 a) (BitVec.ofInt 64 b) w
 rw [of64_toInt a ha, of64_toInt b hb] at h
 exact h
theorem num_90 (a b : Int) (ha : -9223372036854775808 ≤ a ∧ a ≤ 9223372036854775807) (hb : -9223372036854775808 ≤ b ∧ b ≤ 9223372036854775807) (w : World) :
  Calls Tryz.prog 78 #[.int .u8 90, .int .i64 a, .int .i64 b] w fun e w' => e = .returned (.tuple #[.int .i64 ((t2i (cmpV 9 (BitVec.ofInt 64 a) (BitVec.ofInt 64 b)), (0 : Int))).1, .int .i64 ((t2i (cmpV 9 (BitVec.ofInt 64 a) (BitVec.ofInt 64 b)), (0 : Int))).2]) ∧ w' = w := by
 refine pick_asks 90 a b _ _ (by omega) (by omega) (fun w w' => w' = w) (fun w => ?_) w
 have h := t64_79 (BitVec.ofInt 64 a) (BitVec.ofInt 64 b) w
 rw [of64_toInt a ha, of64_toInt b hb] at h
 exact h
theorem num_124 (a b : Int) (ha : -9223372036854775808 ≤ a ∧ a ≤ 9223372036854775807) (hb : -9223372036854775808 ≤ b ∧ b ≤ 9223372036854775807) (w : World) :
  Calls Tryz.prog 78 #[.int .u8 124, .int .i64 a, .int .i64 b] w fun e w' => e = .returned (.tuple #[.int .i64 (recV 0 (BitVec.ofInt 64 a) (BitVec.ofInt 64 b)).1, .int .i64 (recV 0 (BitVec.ofInt 64 a) (BitVec.ofInt 64 b)).2]) ∧ w' = w := by
 refine pick_makes 124 a b _ _ (by omega) (by omega) (fun w w' => w' = w) (fun w => ?_) w
 have h := t64_106 (BitVec.ofInt 64 a) (BitVec.ofInt 64 b) w
 rw [of64_toInt a ha, of64_toInt b hb] at h
 exact h
theorem num_125 (a b : Int) (ha : -9223372036854775808 ≤ a ∧ a ≤ 9223372036854775807) (hb : -9223372036854775808 ≤ b ∧ b ≤ 9223372036854775807) (w : World) :
  Calls Tryz.prog 78 #[.int .u8 125, .int .i64 a, .int .i64 b] w fun e w' => e = .returned (.tuple #[.int .i64 (recV 1 (BitVec.ofInt 64 a) (BitVec.ofInt 64 b)).1, .int .i64 (recV 1 (BitVec.ofInt 64 a) (BitVec.ofInt 64 b)).2]) ∧ w' = w := by
 refine pick_makes 125 a b _ _ (by omega) (by omega) (fun w w' => w' = w) (fun w => ?_) w
 have h := t64_107 (BitVec.ofInt 64 a) (BitVec.ofInt 64 b) w
 rw [of64_toInt a ha, of64_toInt b hb] at h
 exact h
theorem num_126 (a b : Int) (ha : -9223372036854775808 ≤ a ∧ a ≤ 9223372036854775807) (hb : -9223372036854775808 ≤ b ∧ b ≤ 9223372036854775807) (w : World) :
  Calls Tryz.prog 78 #[.int .u8 126, .int .i64 a, .int .i64 b] w fun e w' => e = .returned (.tuple #[.int .i64 (recV 2 (BitVec.ofInt 64 a) (BitVec.ofInt 64 b)).1, .int .i64 (recV 2 (BitVec.ofInt 64 a) (BitVec.ofInt 64 b)).2]) ∧ w' = w := by
 refine pick_makes 126 a b _ _ (by omega) (by omega) (fun w w' => w' = w) (fun w => ?_) w
 have h := t64_108 (BitVec.ofInt 64 a) (BitVec.ofInt 64 b) w
 rw [of64_toInt a ha, of64_toInt b hb] at h
 exact h
theorem num_127 (a b : Int) (ha : -9223372036854775808 ≤ a ∧ a ≤ 9223372036854775807) (hb : -9223372036854775808 ≤ b ∧ b ≤ 9223372036854775807) (w : World) :
  Calls Tryz.prog 78 #[.int .u8 127, .int .i64 a, .int .i64 b] w fun e w' => e = .returned (.tuple #[.int .i64 (recV 3 (BitVec.ofInt 64 a) (BitVec.ofInt 64 b)).1, .int .i64 (recV 3 (BitVec.ofInt 64 a) (BitVec.ofInt 64 b)).2]) ∧ w' = w := by
 refine pick_makes 127 a b _ _ (by omega) (by omega) (fun w w' => w' = w) (fun w => ?_) w
 have h := t64_109 (BitVec.ofInt 64 a) (BitVec.ofInt 64 b) w
 rw [of64_toInt a ha, of64_toInt b hb] at h
 exact h
theorem num_128 (a b : Int) (ha : -9223372036854775808 ≤ a ∧ a ≤ 9223372036854775807) (hb : -9223372036854775808 ≤ b ∧ b ≤ 9223372036854775807) (w : World) :
  Calls Tryz.prog 78 #[.int .u8 128, .int .i64 a, .int .i64 b] w fun e w' => e = .returned (.tuple #[.int .i64 (recV 4 (BitVec.ofInt 64 a) (BitVec.ofInt 64 b)).1, .int .i64 (recV 4 (BitVec.ofInt 64 a) (BitVec.ofInt 64 b)).2]) ∧ w' = w := by
 refine pick_makes 128 a b _ _ (by omega) (by omega) (fun w w' => w' = w) (fun w => ?_) w
 have h := t64_110 (BitVec.ofInt 64 a) (BitVec.ofInt 64 b) w
 rw [of64_toInt a ha, of64_toInt b hb] at h
 exact h
theorem num_129 (a b : Int) (ha : -9223372036854775808 ≤ a ∧ a ≤ 9223372036854775807) (hb : -9223372036854775808 ≤ b ∧ b ≤ 9223372036854775807) (w : World) :
  Calls Tryz.prog 78 #[.int .u8 129, .int .i64 a, .int .i64 b] w fun e w' => e = .returned (.tuple #[.int .i64 (recV 5 (BitVec.ofInt 64 a) (BitVec.ofInt 64 b)).1, .int .i64 (recV 5 (BitVec.ofInt 64 a) (BitVec.ofInt 64 b)).2]) ∧ w' = w := by
 refine pick_makes 129 a b _ _ (by omega) (by omega) (fun w w' => w' = w) (fun w => ?_) w
 have h := t64_111 (BitVec.ofInt 64 a) (BitVec.ofInt 64 b) w
 rw [of64_toInt a ha, of64_toInt b hb] at h
 exact h
theorem num_130 (a b : Int) (ha : -9223372036854775808 ≤ a ∧ a ≤ 9223372036854775807) (hb : -9223372036854775808 ≤ b ∧ b ≤ 9223372036854775807) (w : World) :
  Calls Tryz.prog 78 #[.int .u8 130, .int .i64 a, .int .i64 b] w fun e w' => e = .returned (.tuple #[.int .i64 (recV 6 (BitVec.ofInt 64 a) (BitVec.ofInt 64 b)).1, .int .i64 (recV 6 (BitVec.ofInt 64 a) (BitVec.ofInt 64 b)).2]) ∧ w' = w := by
 refine pick_makes 130 a b _ _ (by omega) (by omega) (fun w w' => w' = w) (fun w => ?_) w
 have h := t64_112 (BitVec.ofInt 64 a) (BitVec.ofInt 64 b) w
 rw [of64_toInt a ha, of64_toInt b hb] at h
 exact h
theorem num_131 (a b : Int) (ha : -9223372036854775808 ≤ a ∧ a ≤ 9223372036854775807) (hb : -9223372036854775808 ≤ b ∧ b ≤ 9223372036854775807) (w : World) :
  Calls Tryz.prog 78 #[.int .u8 131, .int .i64 a, .int .i64 b] w fun e w' => e = .returned (.tuple #[.int .i64 (recV 7 (BitVec.ofInt 64 a) (BitVec.ofInt 64 b)).1, .int .i64 (recV 7 (BitVec.ofInt 64 a) (BitVec.ofInt 64 b)).2]) ∧ w' = w := by
 refine pick_makes 131 a b _ _ (by omega) (by omega) (fun w w' => w' = w) (fun w => ?_) w
 have h := t64_113 (BitVec.ofInt 64 a) (BitVec.ofInt 64 b) w
 rw [of64_toInt a ha, of64_toInt b hb] at h
 exact h
theorem num_132 (a b : Int) (ha : -9223372036854775808 ≤ a ∧ a ≤ 9223372036854775807) (hb : -9223372036854775808 ≤ b ∧ b ≤ 9223372036854775807) (w : World) :
  Calls Tryz.prog 78 #[.int .u8 132, .int .i64 a, .int .i64 b] w fun e w' => e = .returned (.tuple #[.int .i64 (recV 8 (BitVec.ofInt 64 a) (BitVec.ofInt 64 b)).1, .int .i64 (recV 8 (BitVec.ofInt 64 a) (BitVec.ofInt 64 b)).2]) ∧ w' = w := by
 refine pick_makes 132 a b _ _ (by omega) (by omega) (fun w w' => w' = w) (fun w => ?_) w
 have h := t64_114 (BitVec.ofInt 64 a) (BitVec.ofInt 64 b) w
 rw [of64_toInt a ha, of64_toInt b hb] at h
 exact h
theorem num_133 (a b : Int) (ha : -9223372036854775808 ≤ a ∧ a ≤ 9223372036854775807) (hb : -9223372036854775808 ≤ b ∧ b ≤ 9223372036854775807) (w : World) :
  Calls Tryz.prog 78 #[.int .u8 133, .int .i64 a, .int .i64 b] w fun e w' => e = .returned (.tuple #[.int .i64 (recV 9 (BitVec.ofInt 64 a) (BitVec.ofInt 64 b)).1, .int .i64 (recV 9 (BitVec.ofInt 64 a) (BitVec.ofInt 64 b)).2]) ∧ w' = w := by
 refine pick_makes 133 a b _ _ (by omega) (by omega) (fun w w' => w' = w) (fun w => ?_) w
 have h := t64_115 (BitVec.ofInt 64 a) (BitVec.ofInt 64 b) w
 rw [of64_toInt a ha, of64_toInt b hb] at h
 exact h
theorem num_134 (a b : Int) (ha : -9223372036854775808 ≤ a ∧ a ≤ 9223372036854775807) (hb : -9223372036854775808 ≤ b ∧ b ≤ 9223372036854775807) (w : World) :
  Calls Tryz.prog 78 #[.int .u8 134, .int .i64 a, .int .i64 b] w fun e w' => e = .returned (.tuple #[.int .i64 (recV 10 (BitVec.ofInt 64 a) (BitVec.ofInt 64 b)).1, .int .i64 (recV 10 (BitVec.ofInt 64 a) (BitVec.ofInt 64 b)).2]) ∧ w' = w := by
 refine pick_makes 134 a b _ _ (by omega) (by omega) (fun w w' => w' = w) (fun w => ?_) w
 have h := t64_116 (BitVec.ofInt 64 a) (BitVec.ofInt 64 b) w
 rw [of64_toInt a ha, of64_toInt b hb] at h
 exact h
theorem num_135 (a b : Int) (ha : -9223372036854775808 ≤ a ∧ a ≤ 9223372036854775807) (hb : -9223372036854775808 ≤ b ∧ b ≤ 9223372036854775807) (w : World) :
  Calls Tryz.prog 78 #[.int .u8 135, .int .i64 a, .int .i64 b] w fun e w' => e = .returned (.tuple #[.int .i64 (recV 11 (BitVec.ofInt 64 a) (BitVec.ofInt 64 b)).1, .int .i64 (recV 11 (BitVec.ofInt 64 a) (BitVec.ofInt 64 b)).2]) ∧ w' = w := by
 refine pick_makes 135 a b _ _ (by omega) (by omega) (fun w w' => w' = w) (fun w => ?_) w
 have h := t64_117 (BitVec.ofInt 64 a) (BitVec.ofInt 64 b) w
 rw [of64_toInt a ha, of64_toInt b hb] at h
 exact h
theorem num_136 (a b : Int) (ha : -9223372036854775808 ≤ a ∧ a ≤ 9223372036854775807) (hb : -9223372036854775808 ≤ b ∧ b ≤ 9223372036854775807) (w : World) :
  Calls Tryz.prog 78 #[.int .u8 136, .int .i64 a, .int .i64 b] w fun e w' => e = .returned (.tuple #[.int .i64 (recV 12 (BitVec.ofInt 64 a) (BitVec.ofInt 64 b)).1, .int .i64 (recV 12 (BitVec.ofInt 64 a) (BitVec.ofInt 64 b)).2]) ∧ w' = w := by
 refine pick_makes 136 a b _ _ (by omega) (by omega) (fun w w' => w' = w) (fun w => ?_) w
 have h := t64_118 (BitVec.ofInt 64 a) (BitVec.ofInt 64 b) w
 rw [of64_toInt a ha, of64_toInt b hb] at h
 exact h
theorem num_137 (a b : Int) (ha : -9223372036854775808 ≤ a ∧ a ≤ 9223372036854775807) (hb : -9223372036854775808 ≤ b ∧ b ≤ 9223372036854775807) (w : World) :
  Calls Tryz.prog 78 #[.int .u8 137, .int .i64 a, .int .i64 b] w fun e w' => e = .returned (.tuple #[.int .i64 (recV 13 (BitVec.ofInt 64 a) (BitVec.ofInt 64 b)).1, .int .i64 (recV 13 (BitVec.ofInt 64 a) (BitVec.ofInt 64 b)).2]) ∧ Below w.heap.size w w' := by
 refine pick_makes 137 a b _ _ (by omega) (by omega) (fun w w' => Below w.heap.size w w') (fun w => ?_) w
 have h := t64_119 (BitVec.ofInt 64 a) (BitVec.ofInt 64 b) w
 rw [of64_toInt a ha, of64_toInt b hb] at h
 exact h
theorem num_138 (a b : Int) (ha : -9223372036854775808 ≤ a ∧ a ≤ 9223372036854775807) (hb : -9223372036854775808 ≤ b ∧ b ≤ 9223372036854775807) (w : World) :
  Calls Tryz.prog 78 #[.int .u8 138, .int .i64 a, .int .i64 b] w fun e w' => e = .returned (.tuple #[.int .i64 (recV 14 (BitVec.ofInt 64 a) (BitVec.ofInt 64 b)).1, .int .i64 (recV 14 (BitVec.ofInt 64 a) (BitVec.ofInt 64 b)).2]) ∧ Below w.heap.size w w' := by
 refine pick_makes 138 a b _ _ (by omega) (by omega) (fun w w' => Below w.heap.size w w') (fun w => ?_) w
 have h := t64_120 (BitVec.ofInt 64 a) (BitVec.ofInt 64 b) w
 rw [of64_toInt a ha, of64_toInt b hb] at h
 exact h
end Go.Proofs.YtkceplamaocmmaaGreatDoor
