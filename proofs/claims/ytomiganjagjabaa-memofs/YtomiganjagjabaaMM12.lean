/-
  What a store and a load make of a number.
-/
import Derived.Test.YtomiganjagjabaaMM11
import Derived.Test.YtomiganjagjabaaMWid
namespace Go.Proofs.Ytomiganjagjabaa
open Go.RowKit

theorem numN_low (V : Nat) : ∀ k, k ≤ 8 → numN ((by8 V).take k) = V % 2 ^ (8 * k)
  | 0, _ => by rw [List.take_zero, Nat.mul_zero, Nat.pow_zero, Nat.mod_one]; rfl
  | k + 1, hk => by
    have hg : (by8 V).getD k 0 = ((V / 2 ^ (8 * k) % 256 : Nat) : Int) := by
      have : k < 8 := by omega
      simp [by8, this]
    rw [numN_take _ _ (by rw [by8_len]; omega), numN_low V k (by omega), hg, Int.toNat_natCast, Nat.mul_succ, Nat.pow_add, Nat.mod_mul, Nat.mul_comm (2 ^ (8 * k)) (V / 2 ^ (8 * k) % 2 ^ 8)]
theorem numN_by8 (V wd : Nat) (h : wd = 1 ∨ wd = 2 ∨ wd = 4 ∨ wd = 8) (_hV : V < 18446744073709551616) : numN ((by8 V).take wd) = V % 2 ^ (8 * wd) := numN_low V wd (by omega)
theorem u64_lt (v : Int) : u64 v < 18446744073709551616 := by
  unfold u64
  omega
theorem sgn_same (v : Int) (wd : Nat) (h : wd = 1 ∨ wd = 2 ∨ wd = 4 ∨ wd = 8) : sgnN (u64 v % 2 ^ (8 * wd)) (8 * (8 - wd)) = wrap64 (v * 2 ^ (8 * (8 - wd))) / 2 ^ (8 * (8 - wd)) := by
  unfold sgnN
  congr 1
  unfold wrap64 u64
  rcases h with rfl | rfl | rfl | rfl <;> simp <;> omega
theorem plain_same (v : Int) (wd : Nat) (h : wd = 1 ∨ wd = 2 ∨ wd = 4 ∨ wd = 8) : u64 v * 2 ^ (8 * (8 - wd)) % 18446744073709551616 / 2 ^ (8 * (8 - wd)) = u64 v % 2 ^ (8 * wd) := by
  have := u64_lt v
  rcases h with rfl | rfl | rfl | rfl <;> simp <;> omega
/-- The document's triples. -/
def tab : List Int := [54, 40, 40, 55, 41, 41, 58, 44, 45, 59, 46, 47, 60, 48, 49, 61, 50, 51, 62, 52, 53]
structure Row (s l m wd : Nat) : Prop where
  ws : insW (s : Int) = (wd : Int)
  wl : insW (l : Int) = (wd : Int)
  wm : insW (m : Int) = (wd : Int)
  hs : ¬ (s : Int) < 54
  hl : (l : Int) < 54
  hm : (m : Int) < 54
  s8 : s < 256
  sl : ¬ noSign (l : Int)
  wd4 : wd = 1 ∨ wd = 2 ∨ wd = 4 ∨ wd = 8
  sm : (m = 40 ∧ wd = 4) ∨ (m ≠ 40 ∧ m = 41 ∧ wd = 8) ∨ (m ≠ 40 ∧ noSign (m : Int) ∧ wd ≠ 8)
theorem row_of (k : Nat) (hk : k < 7) : ∃ s l m wd : Nat, (tab.drop (3 * k)).take 3 = [(s : Int), (l : Int), (m : Int)] ∧ Row s l m wd := by
  have : k = 0 ∨ k = 1 ∨ k = 2 ∨ k = 3 ∨ k = 4 ∨ k = 5 ∨ k = 6 := by omega
  rcases this with rfl | rfl | rfl | rfl | rfl | rfl | rfl
  · exact ⟨54, 40, 40, 4, rfl, by decide, by decide, by decide, by decide, by decide, by decide, by decide, by decide, by decide, by decide⟩
  · exact ⟨55, 41, 41, 8, rfl, by decide, by decide, by decide, by decide, by decide, by decide, by decide, by decide, by decide, by decide⟩
  · exact ⟨58, 44, 45, 1, rfl, by decide, by decide, by decide, by decide, by decide, by decide, by decide, by decide, by decide, by decide⟩
  · exact ⟨59, 46, 47, 2, rfl, by decide, by decide, by decide, by decide, by decide, by decide, by decide, by decide, by decide, by decide⟩
  · exact ⟨60, 48, 49, 1, rfl, by decide, by decide, by decide, by decide, by decide, by decide, by decide, by decide, by decide, by decide⟩
  · exact ⟨61, 50, 51, 2, rfl, by decide, by decide, by decide, by decide, by decide, by decide, by decide, by decide, by decide, by decide⟩
  · exact ⟨62, 52, 53, 4, rfl, by decide, by decide, by decide, by decide, by decide, by decide, by decide, by decide, by decide, by decide⟩
/-- The first load's number, and the second one's. -/
def sgV (v : Int) (wd : Nat) : Int := wrap64 (v * 2 ^ (8 * (8 - wd))) / 2 ^ (8 * (8 - wd))
def plV (v : Int) (m wd : Nat) : Int := if m = 40 then sgV v wd else wrap64 ((u64 v * 2 ^ (8 * (8 - wd)) % 18446744073709551616 / 2 ^ (8 * (8 - wd)) : Nat) : Int)
/-- The number without its sign. -/
def PL (v : Int) (wd : Nat) : Int := wrap64 ((u64 v * 2 ^ (8 * (8 - wd)) % 18446744073709551616 / 2 ^ (8 * (8 - wd)) : Nat) : Int)
theorem sg_1 (v : Int) : wrap64 (v * 72057594037927936) / 72057594037927936 = sgV v 1 := by simp [sgV]
theorem pl_1 (v : Int) : wrap64 (IntKind.u64.wrap (IntKind.u64.wrap v * 72057594037927936) / 72057594037927936) = PL v 1 := by
  unfold PL
  congr 1
  rw [IntKind.wrap_u64, IntKind.wrap_u64]
  unfold u64
  simp
  omega
theorem sg_2 (v : Int) : wrap64 (v * 281474976710656) / 281474976710656 = sgV v 2 := by simp [sgV]
theorem pl_2 (v : Int) : wrap64 (IntKind.u64.wrap (IntKind.u64.wrap v * 281474976710656) / 281474976710656) = PL v 2 := by
  unfold PL
  congr 1
  rw [IntKind.wrap_u64, IntKind.wrap_u64]
  unfold u64
  simp
  omega
theorem sg_4 (v : Int) : wrap64 (v * 4294967296) / 4294967296 = sgV v 4 := by simp [sgV]
theorem pl_4 (v : Int) : wrap64 (IntKind.u64.wrap (IntKind.u64.wrap v * 4294967296) / 4294967296) = PL v 4 := by
  unfold PL
  congr 1
  rw [IntKind.wrap_u64, IntKind.wrap_u64]
  unfold u64
  simp
  omega
theorem sg_8 (v : Int) : wrap64 v = sgV v 8 := by simp [sgV]
theorem pl_8 (v : Int) : wrap64 (IntKind.u64.wrap (IntKind.u64.wrap v)) = PL v 8 := by
  unfold PL
  congr 1
  rw [IntKind.wrap_u64, IntKind.wrap_u64]
  unfold u64
  simp
  omega
theorem ld_first {s l m wd : Nat} (h : Row s l m wd) (v : Int) : ldV (l : Int) wd (numN ((by8 (u64 v)).take wd)) = sgV v wd := by
  unfold ldV sgV
  rw [if_neg h.sl, numN_by8 _ _ h.wd4 (u64_lt v), sgn_same v wd h.wd4]
theorem ld_second {s l m wd : Nat} (h : Row s l m wd) (v : Int) : ldV (m : Int) wd (numN ((by8 (u64 v)).take wd)) = plV v m wd := by
  unfold ldV plV
  rw [numN_by8 _ _ h.wd4 (u64_lt v)]
  rcases h.sm with ⟨rfl, rfl⟩ | ⟨h1, rfl, rfl⟩ | ⟨h1, h2, h3⟩
  · rw [if_neg (by decide), if_pos rfl, sgn_same v 4 (by omega)]
    rfl
  · rw [if_neg (by decide), if_neg h1, plain_same v 8 (by omega)]
    unfold sgnN
    have := u64_lt v
    rw [show 8 * (8 - 8) = 0 by decide, show 8 * 8 = 64 by decide]
    simp
  · rw [if_pos h2, if_neg h1, plain_same v wd h.wd4]
end Go.Proofs.Ytomiganjagjabaa
