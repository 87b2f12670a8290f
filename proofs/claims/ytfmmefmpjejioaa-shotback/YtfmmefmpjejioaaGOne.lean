/-
  Plain mathematics: how many bits are set, reckoned by halves.
  What the library's own Len64, TrailingZeros64 and OnesCount64 do.
  What the program's own one[uint64] and one[uint32] do.
  What the program's own One and Fit do.
-/
import Derived.WalkKit
import Derived.Test.YtfmmefmpjejioaaProg
import Derived.Lib.BitFns
import Derived.Lib.TrailingZeros
import Derived.Laws.Bits64b
import Derived.Laws.Bits128
import Derived.Laws.BitsAllLaws
import Derived.Laws.BitsLemmas
import Derived.Laws.MakeOwn
import Derived.WalkSpells
import Derived.WalkSmall
import Derived.Test.YtfmmefmpjejioaaGNum
namespace Go.Proofs.Ytfmmefmpjejioaa
open Go.RowKit

/-- How many of the lowest f bits are set. -/
def popN : Nat → Nat → Nat
  | 0, _ => 0
  | f + 1, x => x % 2 + popN f (x / 2)
theorem popN_le : ∀ f x, popN f x ≤ f
  | 0, _ => by simp [popN]
  | f + 1, x => by have := popN_le f (x / 2); simp only [popN]; omega
theorem popN_add : ∀ k f x, popN (k + f) x = popN k x + popN f (x / 2 ^ k)
  | 0, f, x => by simp [popN]
  | k + 1, f, x => by
    rw [show k + 1 + f = (k + f) + 1 by omega, popN, popN, popN_add k f (x / 2), Nat.div_div_eq_div_mul, Nat.pow_succ, Nat.mul_comm 2]
    omega
theorem popN_mod8 (x : Nat) : popN 8 x = popN 8 (x % 256) := by
  simp only [popN]; omega
/-- Bytes as a number, the lowest first. -/
def enc : List Nat → Nat
  | [] => 0
  | b :: r => 256 * enc r + b
theorem and_byte (u v M m : Nat) (hv : v < 256) (hm : m < 256) : (256 * u + v) &&& (256 * M + m) = 256 * (u &&& M) + (v &&& m) := by
  apply Nat.eq_of_testBit_eq
  intro i
  have h : v &&& m < 2 ^ 8 := Nat.and_lt_two_pow _ hm
  rw [Nat.testBit_and, show (256 : Nat) = 2 ^ 8 from rfl, Nat.testBit_two_pow_mul_add _ hv, Nat.testBit_two_pow_mul_add _ hm, Nat.testBit_two_pow_mul_add _ h]
  split
  · rw [Nat.testBit_and]
  · rw [Nat.testBit_and]
def s1 (M x : Nat) : Nat := (x / 2 &&& M) + (x &&& M)
def s2 (M x : Nat) : Nat := (x / 4 &&& M) + (x &&& M)
def s3 (M x : Nat) : Nat := (x / 16 + x) &&& M
theorem low1 : ∀ c : Fin 2, ∀ b : Fin 256, (128 * c.val + b.val / 2) &&& 85 = b.val / 2 &&& 85 := by decide +kernel
theorem low2 : ∀ c : Fin 4, ∀ b : Fin 256, (64 * c.val + b.val / 4) &&& 51 = b.val / 4 &&& 51 := by decide +kernel
theorem low3 : ∀ c h l : Fin 5, (16 * c.val + h.val + (16 * h.val + l.val)) &&& 15 = (h.val + (16 * h.val + l.val)) &&& 15 := by decide +kernel
theorem s1_byte (M y b : Nat) (hb : b < 256) : s1 (256 * M + 85) (256 * y + b) = 256 * s1 M y + s1 85 b := by
  unfold s1
  rw [show (256 * y + b) / 2 = 256 * (y / 2) + (128 * (y % 2) + b / 2) by omega, and_byte _ _ _ _ (by omega) (by omega), and_byte _ _ _ _ hb (by omega)]
  have h := low1 ⟨y % 2, by omega⟩ ⟨b, hb⟩
  dsimp only at h
  rw [h]
  omega
theorem s2_byte (M y b : Nat) (hb : b < 256) : s2 (256 * M + 51) (256 * y + b) = 256 * s2 M y + s2 51 b := by
  unfold s2
  rw [show (256 * y + b) / 4 = 256 * (y / 4) + (64 * (y % 4) + b / 4) by omega, and_byte _ _ _ _ (by omega) (by omega), and_byte _ _ _ _ hb (by omega)]
  have h := low2 ⟨y % 4, by omega⟩ ⟨b, hb⟩
  dsimp only at h
  rw [h]
  omega
theorem s3_byte (M y b : Nat) (hb : b % 16 ≤ 4) (hb2 : b / 16 ≤ 4) (hy : y % 16 ≤ 4) : s3 (256 * M + 15) (256 * y + b) = 256 * s3 M y + s3 15 b := by
  unfold s3
  rw [show (256 * y + b) / 16 + (256 * y + b) = 256 * (y / 16 + y) + (16 * (y % 16) + b / 16 + (16 * (b / 16) + b % 16)) by omega, and_byte _ _ _ _ (by omega) (by omega)]
  have h := low3 ⟨y % 16, by omega⟩ ⟨b / 16, by omega⟩ ⟨b % 16, by omega⟩
  dsimp only at h
  rw [h]
  congr 3
  omega
theorem s1_enc : ∀ l : List Nat, (∀ b ∈ l, b < 256) → s1 (enc (List.replicate l.length 85)) (enc l) = enc (l.map (s1 85))
  | [], _ => by decide
  | b :: r, h => by
    rw [List.length_cons, List.replicate_succ, enc, enc, List.map_cons, enc, s1_byte _ _ _ (h b (by simp)), s1_enc r (fun c hc => h c (by simp [hc]))]
theorem s2_enc : ∀ l : List Nat, (∀ b ∈ l, b < 256) → s2 (enc (List.replicate l.length 51)) (enc l) = enc (l.map (s2 51))
  | [], _ => by decide
  | b :: r, h => by
    rw [List.length_cons, List.replicate_succ, enc, enc, List.map_cons, enc, s2_byte _ _ _ (h b (by simp)), s2_enc r (fun c hc => h c (by simp [hc]))]
theorem s3_enc : ∀ l : List Nat, (∀ b ∈ l, b % 16 ≤ 4 ∧ b / 16 ≤ 4) → s3 (enc (List.replicate l.length 15)) (enc l) = enc (l.map (s3 15))
  | [], _ => by decide
  | b :: r, h => by
    have hy : enc r % 16 ≤ 4 := by
      cases r with
      | nil => decide
      | cons c r' => have := h c (by simp); rw [enc]; omega
    rw [List.length_cons, List.replicate_succ, enc, enc, List.map_cons, enc, s3_byte _ _ _ (h b (by simp)).1 (h b (by simp)).2 hy, s3_enc r (fun c hc => h c (by simp [hc]))]
theorem byte1 : ∀ b : Fin 256, s1 85 b.val < 256 := by decide +kernel
theorem byte2 : ∀ b : Fin 256, s2 51 (s1 85 b.val) % 16 ≤ 4 ∧ s2 51 (s1 85 b.val) / 16 ≤ 4 := by decide +kernel
theorem byte3 : ∀ b : Fin 256, s3 15 (s2 51 (s1 85 b.val)) = popN 8 b.val := by decide +kernel
/-- The three steps within bytes. -/
theorem three (l : List Nat) (hl : l.length = 8) (h : ∀ b ∈ l, b < 256) :
    s3 1085102592571150095 (s2 3689348814741910323 (s1 6148914691236517205 (enc l))) = enc (l.map (popN 8)) := by
  have e1 : 6148914691236517205 = enc (List.replicate l.length 85) := by rw [hl]; decide
  have e2 : 3689348814741910323 = enc (List.replicate (l.map (s1 85)).length 51) := by rw [List.length_map, hl]; decide
  have e3 : 1085102592571150095 = enc (List.replicate ((l.map (s1 85)).map (s2 51)).length 15) := by rw [List.length_map, List.length_map, hl]; decide
  rw [e1, s1_enc l h, e2, s2_enc, e3, s3_enc, List.map_map, List.map_map]
  · congr 1
    apply List.map_congr_left
    intro b hb
    exact byte3 ⟨b, h b hb⟩
  · intro c hc
    rw [List.map_map] at hc
    obtain ⟨b, hb, rfl⟩ := List.mem_map.1 hc
    exact byte2 ⟨b, h b hb⟩
  · intro c hc
    obtain ⟨b, hb, rfl⟩ := List.mem_map.1 hc
    exact byte1 ⟨b, h b hb⟩
theorem bytes_of (x : Nat) (hx : x < 18446744073709551616) : x = enc [x % 256, x / 256 % 256, x / 65536 % 256, x / 16777216 % 256, x / 4294967296 % 256, x / 1099511627776 % 256, x / 281474976710656 % 256, x / 72057594037927936 % 256] := by
  simp only [enc]; omega
theorem fold_sum (p0 p1 p2 p3 p4 p5 p6 p7 a b c : Nat) (h0 : p0 ≤ 8) (h1 : p1 ≤ 8) (h2 : p2 ≤ 8) (h3 : p3 ≤ 8) (h4 : p4 ≤ 8) (h5 : p5 ≤ 8) (h6 : p6 ≤ 8) (h7 : p7 ≤ 8)
    (ha : a = enc [p0, p1, p2, p3, p4, p5, p6, p7] + enc [p0, p1, p2, p3, p4, p5, p6, p7] / 256) (hb : b = a + a / 65536) (hc : c = b + b / 4294967296) :
    a < 18446744073709551616 ∧ b < 18446744073709551616 ∧ c < 18446744073709551616 ∧ c % 128 = p0 + p1 + p2 + p3 + p4 + p5 + p6 + p7 := by
  simp only [enc] at ha
  have e1 : a = (p0 + p1) + 256 * (p1 + p2) + 65536 * (p2 + p3) + 16777216 * (p3 + p4) + 4294967296 * (p4 + p5) + 1099511627776 * (p5 + p6) + 281474976710656 * (p6 + p7) + 72057594037927936 * p7 := by omega
  have e2 : a / 65536 = (p2 + p3) + 256 * (p3 + p4) + 65536 * (p4 + p5) + 16777216 * (p5 + p6) + 4294967296 * (p6 + p7) + 1099511627776 * p7 := by omega
  rw [e2] at hb
  have e3 : b = (p0 + p1 + p2 + p3) + 256 * (p1 + p2 + p3 + p4) + 65536 * (p2 + p3 + p4 + p5) + 16777216 * (p3 + p4 + p5 + p6) + 4294967296 * (p4 + p5 + p6 + p7) + 1099511627776 * (p5 + p6 + p7) + 281474976710656 * (p6 + p7) + 72057594037927936 * p7 := by omega
  have e4 : b / 4294967296 = (p4 + p5 + p6 + p7) + 256 * (p5 + p6 + p7) + 65536 * (p6 + p7) + 16777216 * p7 := by omega
  rw [e4] at hc
  clear e2 e4 ha
  refine ⟨by clear hb hc e3; omega, by clear hb hc e1; omega, ?_, ?_⟩
  · clear hb e1
    omega
  · have e5 : c = (p0 + p1 + p2 + p3 + p4 + p5 + p6 + p7) + 256 * ((p1 + p2 + p3 + p4 + p5 + p6 + p7) + 256 * (p2 + p3 + p4 + p5 + p6 + p7) + 65536 * (p3 + p4 + p5 + p6 + p7) + 16777216 * (p4 + p5 + p6 + p7) + 4294967296 * (p5 + p6 + p7) + 1099511627776 * (p6 + p7) + 281474976710656 * p7) := by clear hb e1; omega
    clear hb hc e1 e3
    have hS : p0 + p1 + p2 + p3 + p4 + p5 + p6 + p7 ≤ 64 := by omega
    generalize p0 + p1 + p2 + p3 + p4 + p5 + p6 + p7 = S at e5 hS ⊢
    generalize (p1 + p2 + p3 + p4 + p5 + p6 + p7) + 256 * (p2 + p3 + p4 + p5 + p6 + p7) + 65536 * (p3 + p4 + p5 + p6 + p7) + 16777216 * (p4 + p5 + p6 + p7) + 4294967296 * (p5 + p6 + p7) + 1099511627776 * (p6 + p7) + 281474976710656 * p7 = T at e5
    omega
theorem and_lt (a b : Nat) (hb : b < 18446744073709551616) : a &&& b < 18446744073709551616 := by
  have : a &&& b < 2 ^ 64 := Nat.and_lt_two_pow _ hb
  exact this
theorem and_le (a b : Nat) : a &&& b ≤ b := Nat.and_le_right
theorem pop_all (x a b c : Nat) (hx : x < 18446744073709551616)
    (ha : a = s3 1085102592571150095 (s2 3689348814741910323 (s1 6148914691236517205 x)) + s3 1085102592571150095 (s2 3689348814741910323 (s1 6148914691236517205 x)) / 256) (hb : b = a + a / 65536) (hc : c = b + b / 4294967296) :
    a < 18446744073709551616 ∧ b < 18446744073709551616 ∧ c < 18446744073709551616 ∧ c % 128 = popN 64 x := by
  rw [bytes_of x hx, three _ rfl (by intro b hb; simp only [List.mem_cons, List.not_mem_nil, or_false] at hb; omega)] at ha
  simp only [List.map_cons, List.map_nil] at ha
  obtain ⟨h1, h2, h3, h4⟩ := fold_sum _ _ _ _ _ _ _ _ a b c (popN_le 8 _) (popN_le 8 _) (popN_le 8 _) (popN_le 8 _) (popN_le 8 _) (popN_le 8 _) (popN_le 8 _) (popN_le 8 _) ha hb hc
  refine ⟨h1, h2, h3, h4.trans ?_⟩
  rw [← popN_mod8, ← popN_mod8, ← popN_mod8, ← popN_mod8, ← popN_mod8, ← popN_mod8, ← popN_mod8, ← popN_mod8]
  have e := popN_add 8 56 x
  have e1 := popN_add 8 48 (x / 2 ^ 8)
  have e2 := popN_add 8 40 (x / 2 ^ 8 / 2 ^ 8)
  have e3 := popN_add 8 32 (x / 2 ^ 8 / 2 ^ 8 / 2 ^ 8)
  have e4 := popN_add 8 24 (x / 2 ^ 8 / 2 ^ 8 / 2 ^ 8 / 2 ^ 8)
  have e5 := popN_add 8 16 (x / 2 ^ 8 / 2 ^ 8 / 2 ^ 8 / 2 ^ 8 / 2 ^ 8)
  have e6 := popN_add 8 8 (x / 2 ^ 8 / 2 ^ 8 / 2 ^ 8 / 2 ^ 8 / 2 ^ 8 / 2 ^ 8)
  simp only [Nat.div_div_eq_div_mul, Nat.reducePow, Nat.reduceMul, Nat.reduceAdd] at e e1 e2 e3 e4 e5 e6
  omega

end Go.Proofs.Ytfmmefmpjejioaa
namespace Go.Proofs.Ytfmmefmpjejioaa
open Go.RowKit

theorem tz64_key (x a : Nat) (hx : x < 18446744073709551616) (hx0 : x ≠ 0) (hlow : x &&& (18446744073709551616 - x) = a) :
    IntKind.u64.wrap (bits BinOp.and IntKind.u64 (x : Int) (IntKind.u64.wrap (-(x : Int))) * 285870213051353865) / 288230376151711744 = ((a * 285870213051353865 % 18446744073709551616 / 288230376151711744 : Nat) : Int) := by
  have e1 : IntKind.u64.wrap (-(x : Int)) = ((18446744073709551616 - x : Nat) : Int) := by rw [IntKind.wrap_u64]; omega
  rw [e1, bits_and_u64_nat x _ hx (by omega), hlow, IntKind.wrap_u64]
  omega
theorem and_u64 (a m : Nat) (ha : a < 18446744073709551616) (hm : m < 18446744073709551616) : bits .and .u64 (a : Int) (m : Int) = ((a &&& m : Nat) : Int) := bits_and_u64_nat a m ha hm
theorem wrap_u64_nat (a : Nat) (ha : a < 18446744073709551616) : IntKind.u64.wrap (a : Int) = (a : Int) := by rw [IntKind.wrap_u64]; omega
theorem and127 (c : Nat) : bits .and .i64 (wrap64 (c : Int)) 127 = ((c % 128 : Nat) : Int) := by
  have h1 : (BitVec.ofInt 64 127).toNat = 2 ^ 7 - 1 := by decide
  have key : (BitVec.ofInt 64 (wrap64 (c : Int)) &&& BitVec.ofInt 64 127).toNat = c % 2 ^ 7 := by
    rw [BitVec.toNat_and, BitVec.toNat_ofInt, h1, Nat.and_two_pow_sub_one_eq_mod]
    simp only [wrap64]
    omega
  show IntKind.i64.wrap ((BitVec.ofInt 64 (wrap64 (c : Int)) &&& BitVec.ofInt 64 127).toNat : Nat) = _
  rw [key, IntKind.wrap_i64]
  omega
end Go.Proofs.Ytfmmefmpjejioaa
namespace Go.Proofs.Ytfmmefmpjejioaa
open Go.RowKit

end Go.Proofs.Ytfmmefmpjejioaa
namespace Go.Proofs.Ytfmmefmpjejioaa
open Go.RowKit

/-- A number cut to W bits, with its sign. -/
def cutI (W : Nat) (a : Int) : Int := (a + 2 ^ (W - 1)) % 2 ^ W - 2 ^ (W - 1)
/-- A number cut to W bits, without a sign. -/
def cutN (W : Nat) (a : Int) : Nat := (a % 2 ^ W).toNat
theorem cutN32 (a : Int) : a % 4294967296 = (cutN 32 a : Int) := by
  unfold cutN
  omega
theorem cutN64 (a : Int) : IntKind.u64.wrap a = (cutN 64 a : Int) := by
  rw [IntKind.wrap_u64]
  unfold cutN
  omega
theorem cutN32_lt (a : Int) : cutN 32 a < 4294967296 := by unfold cutN; omega
theorem cutN64_lt (a : Int) : cutN 64 a < 18446744073709551616 := by unfold cutN; omega
theorem wrap64_i8 (a : Int) : wrap64 (IntKind.i8.wrap a) = cutI 8 a := by
  have h : IntKind.i8.wrap a = if a % 256 ≥ 128 then a % 256 - 256 else a % 256 := by
    simp [IntKind.wrap, IntKind.signed, IntKind.bits]
  rw [h]
  simp only [cutI, wrap64]
  split <;> omega
theorem wrap64_i16 (a : Int) : wrap64 (IntKind.i16.wrap a) = cutI 16 a := by
  have h : IntKind.i16.wrap a = if a % 65536 ≥ 32768 then a % 65536 - 65536 else a % 65536 := by
    simp [IntKind.wrap, IntKind.signed, IntKind.bits]
  rw [h]
  simp only [cutI, wrap64]
  split <;> omega
theorem r2w {k l : IntKind} {a b c d : Int} {w : World} (h : a = b) (h' : c = d) : Ending.returned (.tuple #[.int k a, .int l c]) = .returned (.tuple #[.int k b, .int l d]) ∧ w = w := by rw [h, h']; exact ⟨rfl, rfl⟩
theorem ctz_le (x : Nat) (h : x < 18446744073709551616) : Lib.ctz 64 x ≤ 64 := by
  by_cases h0 : x = 0
  · subst h0; decide
  · exact Nat.le_of_lt (Lib.lowest_bit 64 x h0 h).2
/-- The numbers of the instructions of one number. -/
def isOne (op : Int) : Bool := op == 69 || op == 80 || (103 ≤ op && op ≤ 105) || (121 ≤ op && op ≤ 123) || op == 167 || op == 172 || op == 173 || (192 ≤ op && op ≤ 196)
end Go.Proofs.Ytfmmefmpjejioaa
