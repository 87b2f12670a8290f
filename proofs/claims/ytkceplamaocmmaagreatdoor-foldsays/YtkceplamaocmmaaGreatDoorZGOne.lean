/-
 Plain mathematics: how many bits are set, reckoned by halves. What the library's own Len64, TrailingZeros64 and OnesCount64 do. What the program's own one[uint64] and one[uint32] do. What the program's own One and Fit do.
-/
import Derived.WalkKit
import Derived.Test.YtkceplamaocmmaaGreatDoorProg
import Derived.Lib.BitFns
import Derived.Lib.TrailingZeros
import Derived.Laws.Bits64b
import Derived.Laws.Bits128
import Derived.Laws.BitsAllLaws
import Derived.Laws.BitsLemmas
import Derived.Laws.MakeOwn
import Derived.WalkSpells
import Derived.WalkSmall
import Derived.Test.YtkceplamaocmmaaGreatDoorZGNum
set_option maxHeartbeats 4000000
set_option maxRecDepth 1000000
namespace Go.Proofs.YtkceplamaocmmaaGreatDoor
set_option linter.unusedVariables false
open Go.RowKit
def popN : Nat → Nat → Nat
 | 0, _ => 0
 | f + 1, x => x % 2 + popN f (x / 2)
theorem popN_le : ∀ f x, popN f x ≤ f
 | 0, _ => by simp [popN]
 | f + 1, x => by have := popN_le f (x / 2); simp only [popN]; omega
theorem popN_add : ∀ k f x, popN (k + f) x = popN k x + popN f (x / 2 ^ k)
 | 0, f, x => by simp [popN]
 | k + 1, f, x => by
  rw [show k + 1 + f = (k + f) + 1 by omega, popN, popN, popN_add k f (x / 2), Nat.div_div_eq_div_mul, Nat.pow_succ, Nat.mul_comm 2]
  omega
theorem popN_mod8 (x : Nat) : popN 8 x = popN 8 (x % 256) := by
 simp only [popN]; omega
def enc : List Nat → Nat
 | [] => 0
 | b :: r => 256 * enc r + b
theorem and_byte (u v M m : Nat) (hv : v < 256) (hm : m < 256) : (256 * u + v) &&& (256 * M + m) = 256 * (u &&& M) + (v &&& m) := by
 apply Nat.eq_of_testBit_eq
 intro i
 have h : v &&& m < 2 ^ 8 := Nat.and_lt_two_pow _ hm
 rw [Nat.testBit_and, show (256 : Nat) = 2 ^ 8 from rfl, Nat.testBit_two_pow_mul_add _ hv, Nat.testBit_two_pow_mul_add _ hm, Nat.testBit_two_pow_mul_add _ h]
 split
 ·rw [Nat.testBit_and]
 ·rw [Nat.testBit_and]
def s1 (M x : Nat) : Nat := (x / 2 &&& M) + (x &&& M)
def s2 (M x : Nat) : Nat := (x / 4 &&& M) + (x &&& M)
def s3 (M x : Nat) : Nat := (x / 16 + x) &&& M
theorem low1 : ∀ c : Fin 2, ∀ b : Fin 256, (128 * c.val + b.val / 2) &&& 85 = b.val / 2 &&& 85 := by decide +kernel
theorem low2 : ∀ c : Fin 4, ∀ b : Fin 256, (64 * c.val + b.val / 4) &&& 51 = b.val / 4 &&& 51 := by decide +kernel
theorem low3 : ∀ c h l : Fin 5, (16 * c.val + h.val + (16 * h.val + l.val)) &&& 15 = (h.val + (16 * h.val + l.val)) &&& 15 := by decide +kernel
theorem s1_byte (M y b : Nat) (hb : b < 256) : s1 (256 * M + 85) (256 * y + b) = 256 * s1 M y + s1 85 b := by
 unfold s1
 rw [show (256 * y + b) / 2 = 256 * (y / 2) + (128 * (y % 2) + b / 2) by omega, and_byte _ _ _ _ (by omega) (by omega), and_byte _ _ _ _ hb (by omega)]
 have h := low1 ⟨y % 2, by omega⟩ ⟨b, hb⟩
 dsimp only at h
 rw [h]
 omega
theorem s2_byte (M y b : Nat) (hb : b < 256) : s2 (256 * M + 51) (256 * y + b) = 256 * s2 M y + s2 51 b := by
 unfold s2
 rw [show (256 * y + b) / 4 = 256 * (y / 4) + (64 * (y % 4) + b / 4) by omega, and_byte _ _ _ _ (by omega) (by omega), and_byte _ _ _ _ hb (by omega)]
 have h := low2 ⟨y % 4, by omega⟩ ⟨b, hb⟩
 dsimp only at h
 rw [h]
 omega
theorem s3_byte (M y b : Nat) (hb : b % 16 ≤ 4) (hb2 : b / 16 ≤ 4) (hy : y % 16 ≤ 4) : s3 (256 * M + 15) (256 * y + b) = 256 * s3 M y + s3 15 b := by
 unfold s3
 rw [show (256 * y + b) / 16 + (256 * y + b) = 256 * (y / 16 + y) + (16 * (y % 16) + b / 16 + (16 * (b / 16) + b % 16)) by omega, and_byte _ _ _ _ (by omega) (by omega)]
 have h := low3 ⟨y % 16, by omega⟩ ⟨b / 16, by omega⟩ ⟨b % 16, by omega⟩
 dsimp only at h
 rw [h]
 congr 3
 omega
theorem s1_enc : ∀ l : List Nat, (∀ b ∈ l, b < 256) → s1 (enc (List.replicate l.length 85)) (enc l) = enc (l.map (s1 85))
 | [], _ => by decide
 | b :: r, h => by
  rw [List.length_cons, List.replicate_succ, enc, enc, List.map_cons, enc, s1_byte _ _ _ (h b (by simp)), s1_enc r (fun c hc => h c (by simp [hc]))]
theorem s2_enc : ∀ l : List Nat, (∀ b ∈ l, b < 256) → s2 (enc (List.replicate l.length 51)) (enc l) = enc (l.map (s2 51))
 | [], _ => by decide
 | b :: r, h => by
  rw [List.length_cons, List.replicate_succ, enc, enc, List.map_cons, enc, s2_byte _ _ _ (h b (by simp)), s2_enc r (fun c hc => h c (by simp [hc]))]
theorem s3_enc : ∀ l : List Nat, (∀ b ∈ l, b % 16 ≤ 4 ∧ b / 16 ≤ 4) → s3 (enc (List.replicate l.length 15)) (enc l) = enc (l.map (s3 15))
 | [], _ => by decide
 | b :: r, h => by
  have hy : enc r % 16 ≤ 4 := by
   cases r with
   | nil => decide
   | cons c r' => have := h c (by simp); rw [enc]; omega
  rw [List.length_cons, List.replicate_succ, enc, enc, List.map_cons, enc, s3_byte _ _ _ (h b (by simp)).1 (h b (by simp)).2 hy, s3_enc r (fun c hc => h c (by simp [hc]))]
theorem byte1 : ∀ b : Fin 256, s1 85 b.val < 256 := by decide +kernel
theorem byte2 : ∀ b : Fin 256, s2 51 (s1 85 b.val) % 16 ≤ 4 ∧ s2 51 (s1 85 b.val) / 16 ≤ 4 := by decide +kernel
theorem byte3 : ∀ b : Fin 256, s3 15 (s2 51 (s1 85 b.val)) = popN 8 b.val := by decide +kernel
theorem three (l : List Nat) (hl : l.length = 8) (h : ∀ b ∈ l, b < 256) :
  s3 1085102592571150095 (s2 3689348814741910323 (s1 6148914691236517205 (enc l))) = enc (l.map (popN 8)) := by
 have e1 : 6148914691236517205 = enc (List.replicate l.length 85) := by rw [hl]; decide
 have e2 : 3689348814741910323 = enc (List.replicate (l.map (s1 85)).length 51) := by rw [List.length_map, hl]; decide
 have e3 : 1085102592571150095 = enc (List.replicate ((l.map (s1 85)).map (s2 51)).length 15) := by rw [List.length_map, List.length_map, hl]; decide
 rw [e1, s1_enc l h, e2, s2_enc, e3, s3_enc, List.map_map, List.map_map]
 ·congr 1
  apply List.map_congr_left
  intro b hb
  exact byte3 ⟨b, h b hb⟩
 ·intro c hc
  rw [List.map_map] at hc
  obtain ⟨b, hb, rfl⟩ := List.mem_map.1 hc
  exact byte2 ⟨b, h b hb⟩
 ·intro c hc
  obtain ⟨b, hb, rfl⟩ := List.mem_map.1 hc
  exact byte1 ⟨b, h b hb⟩
theorem bytes_of (x : Nat) (hx : x < 18446744073709551616) : x = enc [x % 256, x / 256 % 256, x / 65536 % 256, x / 16777216 % 256, x / 4294967296 % 256, x / 1099511627776 % 256, x / 281474976710656 % 256, x / 72057594037927936 % 256] := by
 simp only [enc]; omega
theorem fold_sum (p0 p1 p2 p3 p4 p5 p6 p7 a b c : Nat) (h0 : p0 ≤ 8) (h1 : p1 ≤ 8) (h2 : p2 ≤ 8) (h3 : p3 ≤ 8) (h4 : p4 ≤ 8) (h5 : p5 ≤ 8) (h6 : p6 ≤ 8) (h7 : p7 ≤ 8)
  (ha : a = enc [p0, p1, p2, p3, p4, p5, p6, p7] + enc [p0, p1, p2, p3, p4, p5, p6, p7] / 256) (hb : b = a + a / 65536) (hc : c = b + b / 4294967296) :
  a < 18446744073709551616 ∧ b < 18446744073709551616 ∧ c < 18446744073709551616 ∧ c % 128 = p0 + p1 + p2 + p3 + p4 + p5 + p6 + p7 := by
 simp only [enc] at ha
 have e1 : a = (p0 + p1) + 256 * (p1 + p2) + 65536 * (p2 + p3) + 16777216 * (p3 + p4) + 4294967296 * (p4 + p5) + 1099511627776 * (p5 + p6) + 281474976710656 * (p6 + p7) + 72057594037927936 * p7 := by omega
 have e2 : a / 65536 = (p2 + p3) + 256 * (p3 + p4) + 65536 * (p4 + p5) + 16777216 * (p5 + p6) + 4294967296 * (p6 + p7) + 1099511627776 * p7 := by omega
 rw [e2] at hb
 have e3 : b = (p0 + p1 + p2 + p3) + 256 * (p1 + p2 + p3 + p4) + 65536 * (p2 + p3 + p4 + p5) + 16777216 * (p3 + p4 + p5 + p6) + 4294967296 * (p4 + p5 + p6 + p7) + 1099511627776 * (p5 + p6 + p7) + 281474976710656 * (p6 + p7) + 72057594037927936 * p7 := by omega
 have e4 : b / 4294967296 = (p4 + p5 + p6 + p7) + 256 * (p5 + p6 + p7) + 65536 * (p6 + p7) + 16777216 * p7 := by omega
 rw [e4] at hc
 clear e2 e4 ha
 refine ⟨by clear hb hc e3; omega, by clear hb hc e1; omega, ?_, ?_⟩
 ·clear hb e1
  omega
 ·have e5 : c = (p0 + p1 + p2 + p3 + p4 + p5 + p6 + p7) + 256 * ((p1 + p2 + p3 + p4 + p5 + p6 + p7) + 256 * (p2 + p3 + p4 + p5 + p6 + p7) + 65536 * (p3 + p4 + p5 + p6 + p7) + 16777216 * (p4 + p5 + p6 + p7) + 4294967296 * (p5 + p6 + p7) + 1099511627776 * (p6 + p7) + 281474976710656 * p7) := by clear hb e1; omega
  clear hb hc e1 e3
  have hS : p0 + p1 + p2 + p3 + p4 + p5 + p6 + p7 ≤ 64 := by omega
  generalize p0 + p1 + p2 + p3 + p4 + p5 + p6 + p7 = S at e5 hS ⊢
  generalize (p1 + p2 + p3 + p4 + p5 + p6 + p7) + 256 * (p2 + p3 + p4 + p5 + p6 + p7) + 65536 * (p3 + p4 + p5 + p6 + p7) + 16777216 * (p4 + p5 + p6 + p7) + 4294967296 * (p5 + p6 + p7) + 1099511627776 * (p6 + p7) + 281474976710656 * p7 = T at e5
  omega
theorem and_le (a b : Nat) : a &&& b ≤ b := Nat.and_le_right
theorem pop_all (x a b c : Nat) (hx : x < 18446744073709551616)
  (ha : a = s3 1085102592571150095 (s2 3689348814741910323 (s1 6148914691236517205 x)) + s3 1085102592571150095 (s2 3689348814741910323 (s1 6148914691236517205 x)) / 256) (hb : b = a + a / 65536) (hc : c = b + b / 4294967296) :
  a < 18446744073709551616 ∧ b < 18446744073709551616 ∧ c < 18446744073709551616 ∧ c % 128 = popN 64 x := by
 rw [bytes_of x hx, three _ rfl (by intro b hb; simp only [List.mem_cons, List.not_mem_nil, or_false] at hb; omega)] at ha
 simp only [List.map_cons, List.map_nil] at ha
 obtain ⟨h1, h2, h3, h4⟩ := fold_sum _ _ _ _ _ _ _ _ a b c (popN_le 8 _) (popN_le 8 _) (popN_le 8 _) (popN_le 8 _) (popN_le 8 _) (popN_le 8 _) (popN_le 8 _) (popN_le 8 _) ha hb hc
 refine ⟨h1, h2, h3, h4.trans ?_⟩
 rw [← popN_mod8, ← popN_mod8, ← popN_mod8, ← popN_mod8, ← popN_mod8, ← popN_mod8, ← popN_mod8, ← popN_mod8]
 have e := popN_add 8 56 x
 have e1 := popN_add 8 48 (x / 2 ^ 8)
 have e2 := popN_add 8 40 (x / 2 ^ 8 / 2 ^ 8)
 have e3 := popN_add 8 32 (x / 2 ^ 8 / 2 ^ 8 / 2 ^ 8)
 have e4 := popN_add 8 24 (x / 2 ^ 8 / 2 ^ 8 / 2 ^ 8 / 2 ^ 8)
 have e5 := popN_add 8 16 (x / 2 ^ 8 / 2 ^ 8 / 2 ^ 8 / 2 ^ 8 / 2 ^ 8)
 have e6 := popN_add 8 8 (x / 2 ^ 8 / 2 ^ 8 / 2 ^ 8 / 2 ^ 8 / 2 ^ 8 / 2 ^ 8)
 simp only [Nat.div_div_eq_div_mul, Nat.reducePow, Nat.reduceMul, Nat.reduceAdd] at e e1 e2 e3 e4 e5 e6
 omega
end Go.Proofs.YtkceplamaocmmaaGreatDoor
namespace Go.Proofs.YtkceplamaocmmaaGreatDoor
open Go.RowKit
theorem len64_0 (x : Int) (h0 : 0 ≤ x) (h1 : x ≤ 255) (w : World) :
  Calls Tryz.prog 102 #[.int .u64 x] w fun e w' => e = .returned (.int .i64 (Lib.bitLen x.toNat)) ∧ w' = w := by
 have b0 : 0 ≤ x := by omega
 have b1 : x ≤ 255 := by omega
 go_enter Tryz.func102, Tryz.ntmps102
 go_wp2
 go_ret
 refine ⟨congrArg Ending.returned (congrArg (Value.int IntKind.i64) ?_), rfl⟩
 rw [Lib.len8_of (x) b0 b1]
 have l := Lib.bitLen_le8' (x) b0 b1
 simp only [wrap64]
 omega
theorem len64_8 (x : Int) (h0 : 256 ≤ x) (h1 : x ≤ 65535) (w : World) :
  Calls Tryz.prog 102 #[.int .u64 x] w fun e w' => e = .returned (.int .i64 (Lib.bitLen x.toNat)) ∧ w' = w := by
 have b0 : 0 ≤ x / 256 := by omega
 have b1 : x / 256 ≤ 255 := by omega
 go_enter Tryz.func102, Tryz.ntmps102
 go_wp2
 go_ret
 refine ⟨congrArg Ending.returned (congrArg (Value.int IntKind.i64) ?_), rfl⟩
 rw [Lib.len8_of (x / 256) b0 b1]
 have l := Lib.bitLen_le8' (x / 256) b0 b1
 have e : (x / 256).toNat = x.toNat / 256 := by omega
 have s := Lib.bitLen_shift8 x.toNat (by omega) (by omega)
 rw [e] at l ⊢
 rw [s]
 generalize Lib.bitLen (x.toNat / 256) = L at l ⊢
 clear s e b0 b1 h0 h1
 simp only [wrap64]
 omega
theorem len64_16 (x : Int) (h0 : 65536 ≤ x) (h1 : x ≤ 16777215) (w : World) :
  Calls Tryz.prog 102 #[.int .u64 x] w fun e w' => e = .returned (.int .i64 (Lib.bitLen x.toNat)) ∧ w' = w := by
 have b0 : 0 ≤ x / 65536 := by omega
 have b1 : x / 65536 ≤ 255 := by omega
 go_enter Tryz.func102, Tryz.ntmps102
 go_wp2
 go_ret
 refine ⟨congrArg Ending.returned (congrArg (Value.int IntKind.i64) ?_), rfl⟩
 rw [Lib.len8_of (x / 65536) b0 b1]
 have l := Lib.bitLen_le8' (x / 65536) b0 b1
 have e : (x / 65536).toNat = x.toNat / 65536 := by omega
 have s := Lib.bitLen_shift16 x.toNat (by omega) (by omega)
 rw [e] at l ⊢
 rw [s]
 generalize Lib.bitLen (x.toNat / 65536) = L at l ⊢
 clear s e b0 b1 h0 h1
 simp only [wrap64]
 omega
theorem len64_24 (x : Int) (h0 : 16777216 ≤ x) (h1 : x ≤ 4294967295) (w : World) :
  Calls Tryz.prog 102 #[.int .u64 x] w fun e w' => e = .returned (.int .i64 (Lib.bitLen x.toNat)) ∧ w' = w := by
 have b0 : 0 ≤ x / 65536 / 256 := by omega
 have b1 : x / 65536 / 256 ≤ 255 := by omega
 go_enter Tryz.func102, Tryz.ntmps102
 go_wp2
 go_ret
 refine ⟨congrArg Ending.returned (congrArg (Value.int IntKind.i64) ?_), rfl⟩
 rw [Lib.len8_of (x / 65536 / 256) b0 b1]
 have l := Lib.bitLen_le8' (x / 65536 / 256) b0 b1
 have e : (x / 65536 / 256).toNat = x.toNat / 16777216 := by omega
 have s := Lib.bitLen_shift24 x.toNat (by omega) (by omega)
 rw [e] at l ⊢
 rw [s]
 generalize Lib.bitLen (x.toNat / 16777216) = L at l ⊢
 clear s e b0 b1 h0 h1
 simp only [wrap64]
 omega
theorem len64_32 (x : Int) (h0 : 4294967296 ≤ x) (h1 : x ≤ 1099511627775) (w : World) :
  Calls Tryz.prog 102 #[.int .u64 x] w fun e w' => e = .returned (.int .i64 (Lib.bitLen x.toNat)) ∧ w' = w := by
 have b0 : 0 ≤ x / 4294967296 := by omega
 have b1 : x / 4294967296 ≤ 255 := by omega
 go_enter Tryz.func102, Tryz.ntmps102
 go_wp2
 go_ret
 refine ⟨congrArg Ending.returned (congrArg (Value.int IntKind.i64) ?_), rfl⟩
 rw [Lib.len8_of (x / 4294967296) b0 b1]
 have l := Lib.bitLen_le8' (x / 4294967296) b0 b1
 have e : (x / 4294967296).toNat = x.toNat / 4294967296 := by omega
 have s := Lib.bitLen_shift32 x.toNat (by omega) (by omega)
 rw [e] at l ⊢
 rw [s]
 generalize Lib.bitLen (x.toNat / 4294967296) = L at l ⊢
 clear s e b0 b1 h0 h1
 simp only [wrap64]
 omega
theorem len64_40 (x : Int) (h0 : 1099511627776 ≤ x) (h1 : x ≤ 281474976710655) (w : World) :
  Calls Tryz.prog 102 #[.int .u64 x] w fun e w' => e = .returned (.int .i64 (Lib.bitLen x.toNat)) ∧ w' = w := by
 have b0 : 0 ≤ x / 4294967296 / 256 := by omega
 have b1 : x / 4294967296 / 256 ≤ 255 := by omega
 go_enter Tryz.func102, Tryz.ntmps102
 go_wp2
 go_ret
 refine ⟨congrArg Ending.returned (congrArg (Value.int IntKind.i64) ?_), rfl⟩
 rw [Lib.len8_of (x / 4294967296 / 256) b0 b1]
 have l := Lib.bitLen_le8' (x / 4294967296 / 256) b0 b1
 have e : (x / 4294967296 / 256).toNat = x.toNat / 1099511627776 := by omega
 have s := Lib.bitLen_shift40 x.toNat (by omega) (by omega)
 rw [e] at l ⊢
 rw [s]
 generalize Lib.bitLen (x.toNat / 1099511627776) = L at l ⊢
 clear s e b0 b1 h0 h1
 simp only [wrap64]
 omega
theorem len64_48 (x : Int) (h0 : 281474976710656 ≤ x) (h1 : x ≤ 72057594037927935) (w : World) :
  Calls Tryz.prog 102 #[.int .u64 x] w fun e w' => e = .returned (.int .i64 (Lib.bitLen x.toNat)) ∧ w' = w := by
 have b0 : 0 ≤ x / 4294967296 / 65536 := by omega
 have b1 : x / 4294967296 / 65536 ≤ 255 := by omega
 go_enter Tryz.func102, Tryz.ntmps102
 go_wp2
 go_ret
 refine ⟨congrArg Ending.returned (congrArg (Value.int IntKind.i64) ?_), rfl⟩
 rw [Lib.len8_of (x / 4294967296 / 65536) b0 b1]
 have l := Lib.bitLen_le8' (x / 4294967296 / 65536) b0 b1
 have e : (x / 4294967296 / 65536).toNat = x.toNat / 281474976710656 := by omega
 have s := Lib.bitLen_shift48 x.toNat (by omega) (by omega)
 rw [e] at l ⊢
 rw [s]
 generalize Lib.bitLen (x.toNat / 281474976710656) = L at l ⊢
 clear s e b0 b1 h0 h1
 simp only [wrap64]
 omega
theorem len64_56 (x : Int) (h0 : 72057594037927936 ≤ x) (h1 : x ≤ 18446744073709551615) (w : World) :
  Calls Tryz.prog 102 #[.int .u64 x] w fun e w' => e = .returned (.int .i64 (Lib.bitLen x.toNat)) ∧ w' = w := by
 have b0 : 0 ≤ x / 4294967296 / 65536 / 256 := by omega
 have b1 : x / 4294967296 / 65536 / 256 ≤ 255 := by omega
 go_enter Tryz.func102, Tryz.ntmps102
 go_wp2
 go_ret
 refine ⟨congrArg Ending.returned (congrArg (Value.int IntKind.i64) ?_), rfl⟩
 rw [Lib.len8_of (x / 4294967296 / 65536 / 256) b0 b1]
 have l := Lib.bitLen_le8' (x / 4294967296 / 65536 / 256) b0 b1
 have e : (x / 4294967296 / 65536 / 256).toNat = x.toNat / 72057594037927936 := by omega
 have s := Lib.bitLen_shift56 x.toNat (by omega) (by omega)
 rw [e] at l ⊢
 rw [s]
 generalize Lib.bitLen (x.toNat / 72057594037927936) = L at l ⊢
 clear s e b0 b1 h0 h1
 simp only [wrap64]
 omega
theorem len64_any (x : Int) (h0 : 0 ≤ x) (h1 : x ≤ 18446744073709551615) (w : World) :
  Calls Tryz.prog 102 #[.int .u64 x] w fun e w' => e = .returned (.int .i64 (Lib.bitLen x.toNat)) ∧ w' = w := by
 by_cases c0 : x ≤ 255
 ·exact len64_0 x (by omega) c0 w
 by_cases c8 : x ≤ 65535
 ·exact len64_8 x (by omega) c8 w
 by_cases c16 : x ≤ 16777215
 ·exact len64_16 x (by omega) c16 w
 by_cases c24 : x ≤ 4294967295
 ·exact len64_24 x (by omega) c24 w
 by_cases c32 : x ≤ 1099511627775
 ·exact len64_32 x (by omega) c32 w
 by_cases c40 : x ≤ 281474976710655
 ·exact len64_40 x (by omega) c40 w
 by_cases c48 : x ≤ 72057594037927935
 ·exact len64_48 x (by omega) c48 w
 exact len64_56 x (by omega) h1 w
def TabIn (w : World) : Prop := ∀ j, j < 64 → w.cell? ⟨0, j, none⟩ = some (.int .u8 (Lib.deBruijn64tab.getD j 0))
theorem TabIn.of_cells {w w' : World} (h : TabIn w) (hc : ∀ j, w'.cell? ⟨0, j, none⟩ = w.cell? ⟨0, j, none⟩) : TabIn w' := fun j hj => (hc j).trans (h j hj)
theorem tz64_core (x k idx : Nat) (w : World) (_hx0 : ((x : Int) == 0) = false)
  (key : IntKind.u64.wrap (bits BinOp.and IntKind.u64 (x : Int) (IntKind.u64.wrap (-(x : Int))) * 285870213051353865) / 288230376151711744 = (idx : Int))
  (_hi : idx < 64) (_hk : k < 64) (_hcell : w.cell? ⟨0, idx, none⟩ = some (.int .u8 k)) :
  Calls Tryz.prog 103 #[.int .u64 x] w fun e w' => e = .returned (.int .i64 k) ∧ w' = w := by
 go_enter Tryz.func103, Tryz.ntmps103
 go_wp2_with (simp only [key])
 go_ret
 exact ⟨rfl, rfl⟩
theorem tz64_zero (w : World) :
  Calls Tryz.prog 103 #[.int .u64 0] w fun e w' => e = .returned (.int .i64 64) ∧ w' = w := by
 go_enter Tryz.func103, Tryz.ntmps103
 go_wp2
 go_ret
 exact ⟨rfl, rfl⟩
theorem tz64_key (x a : Nat) (hx : x < 18446744073709551616) (hx0 : x ≠ 0) (hlow : x &&& (18446744073709551616 - x) = a) :
  IntKind.u64.wrap (bits BinOp.and IntKind.u64 (x : Int) (IntKind.u64.wrap (-(x : Int))) * 285870213051353865) / 288230376151711744 = ((a * 285870213051353865 % 18446744073709551616 / 288230376151711744 : Nat) : Int) := by
 have e1 : IntKind.u64.wrap (-(x : Int)) = ((18446744073709551616 - x : Nat) : Int) := by rw [IntKind.wrap_u64]; omega
 rw [e1, bits_and_u64_nat x _ hx (by omega), hlow, IntKind.wrap_u64]
 omega
theorem tz64_any (x : Nat) (hx : x < 18446744073709551616) (w : World) (hT : TabIn w) :
  Calls Tryz.prog 103 #[.int .u64 x] w fun e w' => e = .returned (.int .i64 (Lib.ctz 64 x)) ∧ w' = w := by
 by_cases hx0 : x = 0
 ·subst hx0
  exact tz64_zero w
 ·obtain ⟨hlow, hk⟩ := Lib.lowest_bit 64 x hx0 hx
  obtain ⟨hi, htab⟩ := Lib.deBruijn64_at _ hk
  have hcell := hT _ hi
  rw [htab] at hcell
  exact tz64_core x _ _ w (by simp; omega) (tz64_key x _ hx hx0 hlow) hi hk hcell
theorem and_u64 (a m : Nat) (ha : a < 18446744073709551616) (hm : m < 18446744073709551616) : bits .and .u64 (a : Int) (m : Int) = ((a &&& m : Nat) : Int) := bits_and_u64_nat a m ha hm
theorem wrap_u64_nat (a : Nat) (ha : a < 18446744073709551616) : IntKind.u64.wrap (a : Int) = (a : Int) := by rw [IntKind.wrap_u64]; omega
theorem and127 (c : Nat) : bits .and .i64 (wrap64 (c : Int)) 127 = ((c % 128 : Nat) : Int) := by
 have h1 : (BitVec.ofInt 64 127).toNat = 2 ^ 7 - 1 := by decide
 have key : (BitVec.ofInt 64 (wrap64 (c : Int)) &&& BitVec.ofInt 64 127).toNat = c % 2 ^ 7 := by
  rw [BitVec.toNat_and, BitVec.toNat_ofInt, h1, Nat.and_two_pow_sub_one_eq_mod]
  simp only [wrap64]
  omega
 show IntKind.i64.wrap ((BitVec.ofInt 64 (wrap64 (c : Int)) &&& BitVec.ofInt 64 127).toNat : Nat) = _
 rw [key, IntKind.wrap_i64]
 omega
theorem ones64_core (x y z t a b c r p q : Int)
  (h1 : IntKind.u64.wrap (bits .and .u64 (x / 2) 6148914691236517205 + bits .and .u64 x 6148914691236517205) = y)
  (h2 : IntKind.u64.wrap (bits .and .u64 (y / 4) 3689348814741910323 + bits .and .u64 y 3689348814741910323) = z)
  (hp : IntKind.u64.wrap (z / 16 + z) = p) (h3 : bits .and .u64 p 1085102592571150095 = t)
  (h4 : IntKind.u64.wrap (t + t / 256) = a) (h5 : IntKind.u64.wrap (a + a / 65536) = b) (h6 : IntKind.u64.wrap (b + b / 4294967296) = c) (hq : wrap64 c = q) (h7 : bits .and .i64 q 127 = r) (w : World) :
  Calls Tryz.prog 104 #[.int .u64 x] w fun e w' => e = .returned (.int .i64 r) ∧ w' = w := by
 go_enter Tryz.func104, Tryz.ntmps104
 go_wp2_with (first | simp only [h1] | simp only [h2] | simp only [hp] | simp only [h3] | simp only [h4] | simp only [h5] | simp only [h6] | simp only [hq] | simp only [h7])
 go_ret
 exact ⟨rfl, rfl⟩
theorem ones64_any (x : Nat) (hx : x < 18446744073709551616) (w : World) :
  Calls Tryz.prog 104 #[.int .u64 x] w fun e w' => e = .returned (.int .i64 (popN 64 x)) ∧ w' = w := by
 obtain ⟨y, hy⟩ : ∃ y, s1 6148914691236517205 x = y := ⟨_, rfl⟩
 obtain ⟨z, hz⟩ : ∃ z, s2 3689348814741910323 y = z := ⟨_, rfl⟩
 obtain ⟨t, ht⟩ : ∃ t, s3 1085102592571150095 z = t := ⟨_, rfl⟩
 obtain ⟨a, ha⟩ : ∃ a, t + t / 256 = a := ⟨_, rfl⟩
 obtain ⟨b, hb⟩ : ∃ b, a + a / 65536 = b := ⟨_, rfl⟩
 obtain ⟨c, hc⟩ : ∃ c, b + b / 4294967296 = c := ⟨_, rfl⟩
 have hall := pop_all x a b c hx (by rw [hy, hz, ht, ha]) hb.symm hc.symm
 obtain ⟨la, lb, lc, hr⟩ := hall
 have y1 : x / 2 &&& 6148914691236517205 ≤ 6148914691236517205 := and_le _ _
 have y2 : x &&& 6148914691236517205 ≤ 6148914691236517205 := and_le _ _
 have z1 : y / 4 &&& 3689348814741910323 ≤ 3689348814741910323 := and_le _ _
 have z2 : y &&& 3689348814741910323 ≤ 3689348814741910323 := and_le _ _
 unfold s1 at hy
 unfold s2 at hz
 unfold s3 at ht
 have ly : y ≤ 12297829382473034410 := by omega
 have lz : z ≤ 7378697629483820646 := by omega
 refine ones64_core (x : Int) (y : Int) (z : Int) (t : Int) (a : Int) (b : Int) (c : Int) (popN 64 x : Int) ((z / 16 + z : Nat) : Int) (wrap64 (c : Int)) ?_ ?_ ?_ ?_ ?_ ?_ ?_ rfl ?_ w
 ·rw [show (x : Int) / 2 = ((x / 2 : Nat) : Int) by omega, show (6148914691236517205 : Int) = ((6148914691236517205 : Nat) : Int) from rfl, and_u64 _ _ (by omega) (by omega), and_u64 _ _ hx (by omega), ← Int.natCast_add, hy, wrap_u64_nat _ (by omega)]
 ·rw [show (y : Int) / 4 = ((y / 4 : Nat) : Int) by omega, show (3689348814741910323 : Int) = ((3689348814741910323 : Nat) : Int) from rfl, and_u64 _ _ (by omega) (by omega), and_u64 _ _ (by omega) (by omega), ← Int.natCast_add, hz, wrap_u64_nat _ (by omega)]
 ·rw [show (z : Int) / 16 + (z : Int) = ((z / 16 + z : Nat) : Int) by omega, wrap_u64_nat _ (by omega)]
 ·rw [show (1085102592571150095 : Int) = ((1085102592571150095 : Nat) : Int) from rfl, and_u64 _ _ (by omega) (by omega), ht]
 ·rw [show (t : Int) + (t : Int) / 256 = ((t + t / 256 : Nat) : Int) by omega, ha, wrap_u64_nat _ la]
 ·rw [show (a : Int) + (a : Int) / 65536 = ((a + a / 65536 : Nat) : Int) by omega, hb, wrap_u64_nat _ lb]
 ·rw [show (b : Int) + (b : Int) / 4294967296 = ((b + b / 4294967296 : Nat) : Int) by omega, hc, wrap_u64_nat _ lc]
 ·rw [and127, hr]
end Go.Proofs.YtkceplamaocmmaaGreatDoor
namespace Go.Proofs.YtkceplamaocmmaaGreatDoor
open Go.RowKit
theorem one64_69 (x : Int) (b : Bool) (_hb : (x == 0) = b) (w : World) :
  Calls Tryz.prog 90 #[.int .u8 69, .int .u64 x] w fun e w' => e = .returned (.tuple #[.int .i64 (t2i b), .int .i64 0]) ∧ w' = w := by
 go_enter Tryz.func90, Tryz.ntmps90
 go_wp2_with fail
 refine (ptruth b _).mono ?_
 rintro e w1 ⟨rfl, rfl⟩
 go_wp2
 go_ret2
 exact ⟨rfl, rfl⟩
theorem one64_103 (x L : Int) (_x0 : 0 ≤ x) (_x1 : x < 18446744073709551616) (_l0 : 0 ≤ L) (_l1 : L ≤ 64) (HL : Hid (∀ w, Calls Tryz.prog 102 #[.int .u64 x] w fun e w' => e = .returned (.int .i64 L) ∧ w' = w)) (w : World) :
  Calls Tryz.prog 90 #[.int .u8 103, .int .u64 x] w fun e w' => e = .returned (.tuple #[.int .i64 (64 - L), .int .i64 0]) ∧ w' = w := by
 go_enter Tryz.func90, Tryz.ntmps90
 go_wp2_with fail
 refine (pwidth64 _).mono ?_
 rintro e w1 ⟨rfl, rfl⟩
 go_wp2_with fail
 refine (HL.out _).mono ?_
 rintro e w1 ⟨rfl, rfl⟩
 go_wp2
 go_ret2
 exact ⟨rfl, rfl⟩
theorem one64_104 (x T : Int) (_x0 : 0 ≤ x) (_x1 : x < 18446744073709551616) (_l0 : 0 ≤ T) (_l1 : T ≤ 64) (w : World) (HL : Hid (Calls Tryz.prog 103 #[.int .u64 x] w fun e w' => e = .returned (.int .i64 T) ∧ w' = w)) :
  Calls Tryz.prog 90 #[.int .u8 104, .int .u64 x] w fun e w' => e = .returned (.tuple #[.int .i64 (min 64 T), .int .i64 0]) ∧ w' = w := by
 go_enter Tryz.func90, Tryz.ntmps90
 go_wp2_with fail
 refine (pwidth64 _).mono ?_
 rintro e w1 ⟨rfl, rfl⟩
 go_wp2_with fail
 refine HL.out.mono ?_
 rintro e w1 ⟨rfl, rfl⟩
 go_wp2
 all_goals go_ret2
 all_goals exact r2 (by omega) rfl
theorem one64_105 (x R : Int) (_x0 : 0 ≤ x) (_x1 : x < 18446744073709551616) (HL : Hid (∀ w, Calls Tryz.prog 104 #[.int .u64 x] w fun e w' => e = .returned (.int .i64 R) ∧ w' = w)) (w : World) :
  Calls Tryz.prog 90 #[.int .u8 105, .int .u64 x] w fun e w' => e = .returned (.tuple #[.int .i64 (R), .int .i64 0]) ∧ w' = w := by
 go_enter Tryz.func90, Tryz.ntmps90
 go_wp2_with fail
 refine (HL.out _).mono ?_
 rintro e w1 ⟨rfl, rfl⟩
 go_wp2
 go_ret2
 exact ⟨rfl, rfl⟩
theorem one64_no (op x : Int) (_h1 : (op == 69) = false) (_h2 : (op == 103) = false) (_h3 : (op == 104) = false) (_h4 : (op == 105) = false) (w : World) :
  Calls Tryz.prog 90 #[.int .u8 op, .int .u64 x] w fun e w' => e = .returned (.tuple #[.int .i64 (0), .int .i64 6]) ∧ w' = w := by
 go_enter Tryz.func90, Tryz.ntmps90
 go_wp2
 go_ret2
 exact ⟨rfl, rfl⟩
theorem one32_69 (x : Int) (b : Bool) (_hb : (x == 0) = b) (w : World) :
  Calls Tryz.prog 91 #[.int .u8 69, .int .u32 x] w fun e w' => e = .returned (.tuple #[.int .i64 (t2i b), .int .i64 0]) ∧ w' = w := by
 go_enter Tryz.func91, Tryz.ntmps91
 go_wp2_with fail
 refine (ptruth b _).mono ?_
 rintro e w1 ⟨rfl, rfl⟩
 go_wp2
 go_ret2
 exact ⟨rfl, rfl⟩
theorem one32_103 (x L : Int) (_x0 : 0 ≤ x) (_x1 : x < 4294967296) (_l0 : 0 ≤ L) (_l1 : L ≤ 64) (HL : Hid (∀ w, Calls Tryz.prog 102 #[.int .u64 x] w fun e w' => e = .returned (.int .i64 L) ∧ w' = w)) (w : World) :
  Calls Tryz.prog 91 #[.int .u8 103, .int .u32 x] w fun e w' => e = .returned (.tuple #[.int .i64 (32 - L), .int .i64 0]) ∧ w' = w := by
 go_enter Tryz.func91, Tryz.ntmps91
 go_wp2_with fail
 refine (pwidth32 _).mono ?_
 rintro e w1 ⟨rfl, rfl⟩
 go_wp2_with fail
 refine (HL.out _).mono ?_
 rintro e w1 ⟨rfl, rfl⟩
 go_wp2
 go_ret2
 exact ⟨rfl, rfl⟩
theorem one32_104 (x T : Int) (_x0 : 0 ≤ x) (_x1 : x < 4294967296) (_l0 : 0 ≤ T) (_l1 : T ≤ 64) (w : World) (HL : Hid (Calls Tryz.prog 103 #[.int .u64 x] w fun e w' => e = .returned (.int .i64 T) ∧ w' = w)) :
  Calls Tryz.prog 91 #[.int .u8 104, .int .u32 x] w fun e w' => e = .returned (.tuple #[.int .i64 (min 32 T), .int .i64 0]) ∧ w' = w := by
 go_enter Tryz.func91, Tryz.ntmps91
 go_wp2_with fail
 refine (pwidth32 _).mono ?_
 rintro e w1 ⟨rfl, rfl⟩
 go_wp2_with fail
 refine HL.out.mono ?_
 rintro e w1 ⟨rfl, rfl⟩
 go_wp2
 all_goals go_ret2
 all_goals exact r2 (by omega) rfl
theorem one32_105 (x R : Int) (_x0 : 0 ≤ x) (_x1 : x < 4294967296) (HL : Hid (∀ w, Calls Tryz.prog 104 #[.int .u64 x] w fun e w' => e = .returned (.int .i64 R) ∧ w' = w)) (w : World) :
  Calls Tryz.prog 91 #[.int .u8 105, .int .u32 x] w fun e w' => e = .returned (.tuple #[.int .i64 (R), .int .i64 0]) ∧ w' = w := by
 go_enter Tryz.func91, Tryz.ntmps91
 go_wp2_with fail
 refine (HL.out _).mono ?_
 rintro e w1 ⟨rfl, rfl⟩
 go_wp2
 go_ret2
 exact ⟨rfl, rfl⟩
theorem one32_no (op x : Int) (_h1 : (op == 69) = false) (_h2 : (op == 103) = false) (_h3 : (op == 104) = false) (_h4 : (op == 105) = false) (w : World) :
  Calls Tryz.prog 91 #[.int .u8 op, .int .u32 x] w fun e w' => e = .returned (.tuple #[.int .i64 (0), .int .i64 6]) ∧ w' = w := by
 go_enter Tryz.func91, Tryz.ntmps91
 go_wp2
 go_ret2
 exact ⟨rfl, rfl⟩
end Go.Proofs.YtkceplamaocmmaaGreatDoor
namespace Go.Proofs.YtkceplamaocmmaaGreatDoor
open Go.RowKit
def cutI (W : Nat) (a : Int) : Int := (a + 2 ^ (W - 1)) % 2 ^ W - 2 ^ (W - 1)
def cutN (W : Nat) (a : Int) : Nat := (a % 2 ^ W).toNat
theorem cutN32 (a : Int) : a % 4294967296 = (cutN 32 a : Int) := by
 unfold cutN
 omega
theorem cutN64 (a : Int) : IntKind.u64.wrap a = (cutN 64 a : Int) := by
 rw [IntKind.wrap_u64]
 unfold cutN
 omega
theorem cutN32_lt (a : Int) : cutN 32 a < 4294967296 := by unfold cutN; omega
theorem cutN64_lt (a : Int) : cutN 64 a < 18446744073709551616 := by unfold cutN; omega
theorem wrap64_i8 (a : Int) : wrap64 (IntKind.i8.wrap a) = cutI 8 a := by
 have h : IntKind.i8.wrap a = if a % 256 ≥ 128 then a % 256 - 256 else a % 256 := by
  simp [IntKind.wrap, IntKind.signed, IntKind.bits]
 rw [h]
 simp only [cutI, wrap64]
 split <;> omega
theorem wrap64_i16 (a : Int) : wrap64 (IntKind.i16.wrap a) = cutI 16 a := by
 have h : IntKind.i16.wrap a = if a % 65536 ≥ 32768 then a % 65536 - 65536 else a % 65536 := by
  simp [IntKind.wrap, IntKind.signed, IntKind.bits]
 rw [h]
 simp only [cutI, wrap64]
 split <;> omega
theorem len64_nat (x : Nat) (h : x < 18446744073709551616) (w : World) :
  Calls Tryz.prog 102 #[.int .u64 x] w fun e w' => e = .returned (.int .i64 (Lib.bitLen x)) ∧ w' = w := by
 have := len64_any (x : Int) (by omega) (by omega) w
 rw [Int.toNat_natCast] at this
 exact this
theorem r2w {k l : IntKind} {a b c d : Int} {w : World} (h : a = b) (h' : c = d) : Ending.returned (.tuple #[.int k a, .int l c]) = .returned (.tuple #[.int k b, .int l d]) ∧ w = w := by rw [h, h']; exact ⟨rfl, rfl⟩
theorem pone_192 (a : Int) (w : World) :
  Calls Tryz.prog 76 #[.int .u8 192, .int .i64 a] w fun e w' => e = .returned (.tuple #[.int .i64 (cutI 8 a), .int .i64 0]) ∧ w' = w := by
 go_enter Tryz.func76, Tryz.ntmps76
 go_wp2
 go_ret2
 exact r2w (wrap64_i8 a) rfl
theorem pone_194 (a : Int) (w : World) :
  Calls Tryz.prog 76 #[.int .u8 194, .int .i64 a] w fun e w' => e = .returned (.tuple #[.int .i64 (cutI 8 a), .int .i64 0]) ∧ w' = w := by
 go_enter Tryz.func76, Tryz.ntmps76
 go_wp2
 go_ret2
 exact r2w (wrap64_i8 a) rfl
theorem pone_193 (a : Int) (w : World) :
  Calls Tryz.prog 76 #[.int .u8 193, .int .i64 a] w fun e w' => e = .returned (.tuple #[.int .i64 (cutI 16 a), .int .i64 0]) ∧ w' = w := by
 go_enter Tryz.func76, Tryz.ntmps76
 go_wp2
 go_ret2
 exact r2w (wrap64_i16 a) rfl
theorem pone_195 (a : Int) (w : World) :
  Calls Tryz.prog 76 #[.int .u8 195, .int .i64 a] w fun e w' => e = .returned (.tuple #[.int .i64 (cutI 16 a), .int .i64 0]) ∧ w' = w := by
 go_enter Tryz.func76, Tryz.ntmps76
 go_wp2
 go_ret2
 exact r2w (wrap64_i16 a) rfl
theorem pone_196 (a : Int) (w : World) :
  Calls Tryz.prog 76 #[.int .u8 196, .int .i64 a] w fun e w' => e = .returned (.tuple #[.int .i64 (wrap32 a), .int .i64 0]) ∧ w' = w := by
 go_enter Tryz.func76, Tryz.ntmps76
 go_wp2
 go_ret2
 exact r2w (w64_w32 a) rfl
theorem pone_167 (a : Int) (w : World) :
  Calls Tryz.prog 76 #[.int .u8 167, .int .i64 a] w fun e w' => e = .returned (.tuple #[.int .i64 (wrap32 a), .int .i64 0]) ∧ w' = w := by
 go_enter Tryz.func76, Tryz.ntmps76
 go_wp2
 go_ret2
 exact r2w (w64_w32 a) rfl
theorem pone_172 (a : Int) (w : World) :
  Calls Tryz.prog 76 #[.int .u8 172, .int .i64 a] w fun e w' => e = .returned (.tuple #[.int .i64 (wrap32 a), .int .i64 0]) ∧ w' = w := by
 go_enter Tryz.func76, Tryz.ntmps76
 go_wp2
 go_ret2
 exact r2w (w64_w32 a) rfl
theorem pone_173 (a : Int) (w : World) :
  Calls Tryz.prog 76 #[.int .u8 173, .int .i64 a] w fun e w' => e = .returned (.tuple #[.int .i64 (a % 4294967296), .int .i64 0]) ∧ w' = w := by
 go_enter Tryz.func76, Tryz.ntmps76
 go_wp2
 go_ret2
 exact r2w (rfl) rfl
theorem pone_short (op o a R E : Int) (x : Int) (_h1 : (op == 192) = false) (_h2 : (op == 194) = false) (_h3 : (op == 193) = false) (_h4 : (op == 195) = false) (_h5 : (op == 196) = false) (_h6 : (op == 167) = false) (_h7 : (op == 172) = false) (_h8 : (op == 173) = false)
  (HS : Hid (∀ w, Calls Tryz.prog 89 #[.int .u8 op] w fun e w' => e = .returned (.tuple #[.int .u8 o, .bool false]) ∧ w' = w)) (_hx : a % 4294967296 = x) (w : World) (HL : Hid (Calls Tryz.prog 91 #[.int .u8 o, .int .u32 x] w fun e w' => e = .returned (.tuple #[.int .i64 R, .int .i64 E]) ∧ w' = w)) :
  Calls Tryz.prog 76 #[.int .u8 op, .int .i64 a] w fun e w' => e = .returned (.tuple #[.int .i64 (R), .int .i64 E]) ∧ w' = w := by
 go_enter Tryz.func76, Tryz.ntmps76
 go_wp2_with fail
 refine (HS.out _).mono ?_
 rintro e w1 ⟨rfl, rfl⟩
 go_wp2_with fail
 refine HL.out.mono ?_
 rintro e w1 ⟨rfl, rfl⟩
 go_wp2
 go_ret2
 exact ⟨rfl, rfl⟩
theorem pone_long (op o a R E : Int) (x : Int) (_h1 : (op == 192) = false) (_h2 : (op == 194) = false) (_h3 : (op == 193) = false) (_h4 : (op == 195) = false) (_h5 : (op == 196) = false) (_h6 : (op == 167) = false) (_h7 : (op == 172) = false) (_h8 : (op == 173) = false)
  (HS : Hid (∀ w, Calls Tryz.prog 89 #[.int .u8 op] w fun e w' => e = .returned (.tuple #[.int .u8 o, .bool true]) ∧ w' = w)) (_hx : IntKind.u64.wrap a = x) (w : World) (HL : Hid (Calls Tryz.prog 90 #[.int .u8 o, .int .u64 x] w fun e w' => e = .returned (.tuple #[.int .i64 R, .int .i64 E]) ∧ w' = w)) :
  Calls Tryz.prog 76 #[.int .u8 op, .int .i64 a] w fun e w' => e = .returned (.tuple #[.int .i64 (R), .int .i64 E]) ∧ w' = w := by
 go_enter Tryz.func76, Tryz.ntmps76
 go_wp2_with fail
 refine (HS.out _).mono ?_
 rintro e w1 ⟨rfl, rfl⟩
 go_wp2_with fail
 refine HL.out.mono ?_
 rintro e w1 ⟨rfl, rfl⟩
 go_wp2
 go_ret2
 exact ⟨rfl, rfl⟩
theorem pone_69 (a : Int) (w : World) :
  Calls Tryz.prog 76 #[.int .u8 69, .int .i64 a] w fun e w' => e = .returned (.tuple #[.int .i64 (t2i (decide (cutN 32 a = 0))), .int .i64 0]) ∧ w' = w :=
 pone_short 69 69 a _ _ (cutN 32 a : Int) (by decide) (by decide) (by decide) (by decide) (by decide) (by decide) (by decide) (by decide) (fun w => short_a 69 (by omega) (by omega) w) (cutN32 a) w (one32_69 (cutN 32 a : Int) (decide (cutN 32 a = 0)) (by by_cases h : cutN 32 a = 0 <;> simp [h]) w)
theorem pone_103 (a : Int) (w : World) :
  Calls Tryz.prog 76 #[.int .u8 103, .int .i64 a] w fun e w' => e = .returned (.tuple #[.int .i64 (32 - (Lib.bitLen (cutN 32 a) : Int)), .int .i64 0]) ∧ w' = w :=
 pone_short 103 103 a _ _ (cutN 32 a : Int) (by decide) (by decide) (by decide) (by decide) (by decide) (by decide) (by decide) (by decide) (fun w => short_b 103 (by omega) (by omega) w) (cutN32 a) w (one32_103 (cutN 32 a : Int) _ (by omega) (by have := cutN32_lt a; omega) (by omega) (by have := Lib.bitLen_le (cutN 32 a) 64 (by omega) (by have := cutN32_lt a; omega); omega) (fun w => len64_nat (cutN 32 a) (by have := cutN32_lt a; omega) w) w)
theorem ctz_le (x : Nat) (h : x < 18446744073709551616) : Lib.ctz 64 x ≤ 64 := by
 by_cases h0 : x = 0
 ·subst h0; decide
 ·exact Nat.le_of_lt (Lib.lowest_bit 64 x h0 h).2
theorem pone_104 (a : Int) (w : World) (hT : TabIn w) :
  Calls Tryz.prog 76 #[.int .u8 104, .int .i64 a] w fun e w' => e = .returned (.tuple #[.int .i64 (min 32 (Lib.ctz 64 (cutN 32 a) : Int)), .int .i64 0]) ∧ w' = w :=
 pone_short 104 104 a _ _ (cutN 32 a : Int) (by decide) (by decide) (by decide) (by decide) (by decide) (by decide) (by decide) (by decide) (fun w => short_b 104 (by omega) (by omega) w) (cutN32 a) w (one32_104 (cutN 32 a : Int) _ (by omega) (by have := cutN32_lt a; omega) (by omega) (by have := ctz_le (cutN 32 a) (by have := cutN32_lt a; omega); omega) w (tz64_any (cutN 32 a) (by have := cutN32_lt a; omega) w hT))
theorem pone_105 (a : Int) (w : World) :
  Calls Tryz.prog 76 #[.int .u8 105, .int .i64 a] w fun e w' => e = .returned (.tuple #[.int .i64 ((popN 64 (cutN 32 a) : Int)), .int .i64 0]) ∧ w' = w :=
 pone_short 105 105 a _ _ (cutN 32 a : Int) (by decide) (by decide) (by decide) (by decide) (by decide) (by decide) (by decide) (by decide) (fun w => short_b 105 (by omega) (by omega) w) (cutN32 a) w (one32_105 (cutN 32 a : Int) _ (by omega) (by have := cutN32_lt a; omega) (fun w => ones64_any (cutN 32 a) (by have := cutN32_lt a; omega) w) w)
theorem pone_80 (a : Int) (w : World) :
  Calls Tryz.prog 76 #[.int .u8 80, .int .i64 a] w fun e w' => e = .returned (.tuple #[.int .i64 (t2i (decide (cutN 64 a = 0))), .int .i64 0]) ∧ w' = w :=
 pone_long 80 69 a _ _ (cutN 64 a : Int) (by decide) (by decide) (by decide) (by decide) (by decide) (by decide) (by decide) (by decide) (fun w => short_asks 80 (by omega) (by omega) w) (cutN64 a) w (one64_69 (cutN 64 a : Int) (decide (cutN 64 a = 0)) (by by_cases h : cutN 64 a = 0 <;> simp [h]) w)
theorem pone_121 (a : Int) (w : World) :
  Calls Tryz.prog 76 #[.int .u8 121, .int .i64 a] w fun e w' => e = .returned (.tuple #[.int .i64 (64 - (Lib.bitLen (cutN 64 a) : Int)), .int .i64 0]) ∧ w' = w :=
 pone_long 121 103 a _ _ (cutN 64 a : Int) (by decide) (by decide) (by decide) (by decide) (by decide) (by decide) (by decide) (by decide) (fun w => short_makes 121 (by omega) (by omega) w) (cutN64 a) w (one64_103 (cutN 64 a : Int) _ (by omega) (by have := cutN64_lt a; omega) (by omega) (by have := Lib.bitLen_le (cutN 64 a) 64 (by omega) (by have := cutN64_lt a; omega); omega) (fun w => len64_nat (cutN 64 a) (by have := cutN64_lt a; omega) w) w)
theorem pone_122 (a : Int) (w : World) (hT : TabIn w) :
  Calls Tryz.prog 76 #[.int .u8 122, .int .i64 a] w fun e w' => e = .returned (.tuple #[.int .i64 (min 64 (Lib.ctz 64 (cutN 64 a) : Int)), .int .i64 0]) ∧ w' = w :=
 pone_long 122 104 a _ _ (cutN 64 a : Int) (by decide) (by decide) (by decide) (by decide) (by decide) (by decide) (by decide) (by decide) (fun w => short_makes 122 (by omega) (by omega) w) (cutN64 a) w (one64_104 (cutN 64 a : Int) _ (by omega) (by have := cutN64_lt a; omega) (by omega) (by have := ctz_le (cutN 64 a) (by have := cutN64_lt a; omega); omega) w (tz64_any (cutN 64 a) (by have := cutN64_lt a; omega) w hT))
theorem pone_123 (a : Int) (w : World) :
  Calls Tryz.prog 76 #[.int .u8 123, .int .i64 a] w fun e w' => e = .returned (.tuple #[.int .i64 ((popN 64 (cutN 64 a) : Int)), .int .i64 0]) ∧ w' = w :=
 pone_long 123 105 a _ _ (cutN 64 a : Int) (by decide) (by decide) (by decide) (by decide) (by decide) (by decide) (by decide) (by decide) (fun w => short_makes 123 (by omega) (by omega) w) (cutN64 a) w (one64_105 (cutN 64 a : Int) _ (by omega) (by have := cutN64_lt a; omega) (fun w => ones64_any (cutN 64 a) (by have := cutN64_lt a; omega) w) w)
def isOne (op : Int) : Bool := op == 69 || op == 80 || (103 ≤ op && op ≤ 105) || (121 ≤ op && op ≤ 123) || op == 167 || op == 172 || op == 173 || (192 ≤ op && op ≤ 196)
theorem pone_no (op a : Int) (h0 : 0 ≤ op) (h1 : op ≤ 255) (h : isOne op = false) (w : World) :
  Calls Tryz.prog 76 #[.int .u8 op, .int .i64 a] w fun e w' => e = .returned (.tuple #[.int .i64 (0), .int .i64 6]) ∧ w' = w := by
 have hh : op ≠ 69 ∧ op ≠ 80 ∧ ¬ (103 ≤ op ∧ op ≤ 105) ∧ ¬ (121 ≤ op ∧ op ≤ 123) ∧ op ≠ 167 ∧ op ≠ 172 ∧ op ≠ 173 ∧ ¬ (192 ≤ op ∧ op ≤ 196) := by
  simp only [isOne, Bool.or_eq_false_iff, Bool.and_eq_false_iff, beq_eq_false_iff_ne, decide_eq_false_iff_not] at h
  omega
 clear h
 have ne : ∀ k : Int, op ≠ k → (op == k) = false := fun k hk => by rw [beq_eq_false_iff_ne]; exact hk
 by_cases c1 : op < 80
 ·exact pone_short op op a 0 6 (cutN 32 a : Int) (ne 192 (by omega)) (ne 194 (by omega)) (ne 193 (by omega)) (ne 195 (by omega)) (ne 196 (by omega)) (ne 167 (by omega)) (ne 172 (by omega)) (ne 173 (by omega)) (fun w => short_a op h0 c1 w) (cutN32 a) w (one32_no op _ (ne 69 (by omega)) (ne 103 (by omega)) (ne 104 (by omega)) (ne 105 (by omega)) w)
 by_cases c2 : op ≤ 90
 ·exact pone_long op (op - 11) a 0 6 (cutN 64 a : Int) (ne 192 (by omega)) (ne 194 (by omega)) (ne 193 (by omega)) (ne 195 (by omega)) (ne 196 (by omega)) (ne 167 (by omega)) (ne 172 (by omega)) (ne 173 (by omega)) (fun w => short_asks op (by omega) c2 w) (cutN64 a) w (one64_no (op - 11) _ (by rw [beq_eq_false_iff_ne]; omega) (by rw [beq_eq_false_iff_ne]; omega) (by rw [beq_eq_false_iff_ne]; omega) (by rw [beq_eq_false_iff_ne]; omega) w)
 by_cases c3 : op < 121
 ·exact pone_short op op a 0 6 (cutN 32 a : Int) (ne 192 (by omega)) (ne 194 (by omega)) (ne 193 (by omega)) (ne 195 (by omega)) (ne 196 (by omega)) (ne 167 (by omega)) (ne 172 (by omega)) (ne 173 (by omega)) (fun w => short_b op (by omega) c3 w) (cutN32 a) w (one32_no op _ (ne 69 (by omega)) (ne 103 (by omega)) (ne 104 (by omega)) (ne 105 (by omega)) w)
 by_cases c4 : op ≤ 138
 ·exact pone_long op (op - 18) a 0 6 (cutN 64 a : Int) (ne 192 (by omega)) (ne 194 (by omega)) (ne 193 (by omega)) (ne 195 (by omega)) (ne 196 (by omega)) (ne 167 (by omega)) (ne 172 (by omega)) (ne 173 (by omega)) (fun w => short_makes op (by omega) c4 w) (cutN64 a) w (one64_no (op - 18) _ (by rw [beq_eq_false_iff_ne]; omega) (by rw [beq_eq_false_iff_ne]; omega) (by rw [beq_eq_false_iff_ne]; omega) (by rw [beq_eq_false_iff_ne]; omega) w)
 exact pone_short op op a 0 6 (cutN 32 a : Int) (ne 192 (by omega)) (ne 194 (by omega)) (ne 193 (by omega)) (ne 195 (by omega)) (ne 196 (by omega)) (ne 167 (by omega)) (ne 172 (by omega)) (ne 173 (by omega)) (fun w => short_c op (by omega) h1 w) (cutN32 a) w (one32_no op _ (ne 69 (by omega)) (ne 103 (by omega)) (ne 104 (by omega)) (ne 105 (by omega)) w)
end Go.Proofs.YtkceplamaocmmaaGreatDoor
