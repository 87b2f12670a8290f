/-
  Plain mathematics of reading numbers in groups of seven bits.
-/
import Derived.Test.YtdbhdgkbkhjikaaDoorMaths
import Derived.Laws.ShiftsVarLaws
namespace Go.Proofs.YtdbhdgkbkhjikaaDoor

/-- The bytes of a string as numbers. -/
def nums (s : ByteArray) : List Int := s.data.toList.map fun b => (b.toNat : Int)
theorem nums_length (s : ByteArray) : (nums s).length = s.size := by
  rw [nums, List.length_map, Array.length_toList]; rfl
theorem nums_drop (s : ByteArray) (k : Nat) (h : k < s.size) : (nums s).drop k = (s[k].toNat : Int) :: (nums s).drop (k + 1) := by
  have hl : k < (nums s).length := by rw [nums_length]; exact h
  rw [List.drop_eq_getElem_cons hl]
  congr 1
  simp only [nums, List.getElem_map]
  rfl
theorem nums_byte (s : ByteArray) : ∀ b ∈ nums s, 0 ≤ b ∧ b < 256 := by
  intro b hb
  simp only [nums, List.mem_map] at hb
  obtain ⟨c, _, rfl⟩ := hb
  have := c.toNat_lt
  omega

theorem and127_u8 (m : Nat) (h : m < 256) : bits .and .u8 (m : Int) 127 = ((m % 128 : Nat) : Int) := by
  have := u8_and_nat m 127 (by omega) (by omega)
  rw [show (m &&& 127) = m % 128 from Nat.and_two_pow_sub_one_eq_mod m 7] at this
  exact this

theorem pow128 (k : Nat) : (128 : Nat) ^ k = 2 ^ (7 * k) := by rw [Nat.pow_mul]
theorem or_shift (n : Int) (k b : Nat) (h0 : 0 ≤ n) (h1 : n < 128 ^ k) (hk : k ≤ 9) :
    bits .or .u64 n (IntKind.u64.wrap ((b : Int) % 128 * 2 ^ (7 * k))) = (n + (b : Int) % 128 * 128 ^ k) % 18446744073709551616 := by
  obtain ⟨N, rfl⟩ : ∃ N : Nat, n = N := ⟨n.toNat, by omega⟩
  obtain ⟨a, ha⟩ : ∃ a : Nat, b % 128 = a := ⟨_, rfl⟩
  have hab : (b : Int) % 128 = (a : Int) := by omega
  rw [hab]
  have hN : N < 2 ^ (7 * k) := by rw [← pow128]; exact_mod_cast h1
  have hM : (2 : Nat) ^ 64 = 2 ^ (7 * k) * 2 ^ (64 - 7 * k) := by rw [← Nat.pow_add]; congr 1; omega
  have e1 : IntKind.u64.wrap ((a : Int) * 2 ^ (7 * k)) = ((2 ^ (7 * k) * (a % 2 ^ (64 - 7 * k)) : Nat) : Int) := by
    have : IntKind.u64.wrap ((a : Int) * 2 ^ (7 * k)) = (a : Int) * 2 ^ (7 * k) % 18446744073709551616 := by
      simp [IntKind.wrap, IntKind.bits, IntKind.signed]
    rw [this]
    have h2 : a * 2 ^ (7 * k) % 2 ^ 64 = 2 ^ (7 * k) * (a % 2 ^ (64 - 7 * k)) := by
      rw [hM, Nat.mul_comm a, Nat.mul_mod_mul_left]
    rw [← h2, Int.natCast_emod, Int.natCast_mul, Int.natCast_pow]
    rfl
  have hlt : 2 ^ (7 * k) * (a % 2 ^ (64 - 7 * k)) + N < 2 ^ 64 := by
    have hm : a % 2 ^ (64 - 7 * k) + 1 ≤ 2 ^ (64 - 7 * k) := Nat.mod_lt _ (Nat.two_pow_pos _)
    have := Nat.mul_le_mul_left (2 ^ (7 * k)) hm
    rw [← hM, Nat.mul_add] at this
    omega
  rw [e1, u64_or_nat N _ (by omega) (by omega), Nat.or_comm, ← Nat.two_pow_add_eq_or_of_lt hN]
  have e2 : (N + a * 128 ^ k) % 2 ^ 64 = 2 ^ (7 * k) * (a % 2 ^ (64 - 7 * k)) + N := by
    rw [pow128, hM, Nat.mod_mul, Nat.add_mul_mod_self_right, Nat.mod_eq_of_lt hN, Nat.add_mul_div_right _ _ (Nat.two_pow_pos _), Nat.div_eq_of_lt hN]
    simp [Nat.add_comm]
  rw [← e2, Int.natCast_emod, Int.natCast_add, Int.natCast_mul, Int.natCast_pow]
  rfl
theorem mod_more (n : Int) (k b : Nat) (h0 : 0 ≤ n) (h1 : n < 128 ^ k) (hk : k ≤ 8) :
    (n + (b : Int) % 128 * 128 ^ k) % 18446744073709551616 = n + (b : Int) % 128 * 128 ^ k ∧ 0 ≤ n + (b : Int) % 128 * 128 ^ k ∧ n + (b : Int) % 128 * 128 ^ k < 128 ^ (k + 1) := by
  have hp : (0 : Int) < 128 ^ k := Int.pow_pos (by omega)
  obtain ⟨a, ha⟩ : ∃ a : Int, (b : Int) % 128 = a := ⟨_, rfl⟩
  have a0 : 0 ≤ a := by omega
  have a1 : a ≤ 127 := by omega
  rw [ha]
  have m0 : 0 ≤ a * 128 ^ k := Int.mul_nonneg a0 (by omega)
  have m1 : a * 128 ^ k ≤ 127 * 128 ^ k := Int.mul_le_mul_of_nonneg_right a1 (by omega)
  have hlt : n + a * 128 ^ k < 128 ^ (k + 1) := by rw [Int.pow_succ]; omega
  have hle : (128 : Int) ^ (k + 1) ≤ 128 ^ 9 := by
    exact_mod_cast Nat.pow_le_pow_right (by omega : 0 < 128) (by omega : k + 1 ≤ 9)
  refine ⟨Int.emod_eq_of_lt (by omega) (by omega), by omega, hlt⟩

/-- Has a last byte of which so many bits have room no bit without a place? -/
def fitU (b room : Int) : Bool := b / 2 ^ room.toNat == 0
/-- The same with a sign. -/
def fitS (b room : Int) : Bool := b / 2 ^ (room.toNat - 1) == 0 || b / 2 ^ (room.toNat - 1) == 127 / 2 ^ (room.toNat - 1)

/-- Reading, from the byte with number k on, where the bytes ahead of it gave n: the number, how many bytes, the error. -/
def rdl (fit : Int → Int → Bool) (B : Int) : List Int → Nat → Int → Int × Int × Int
  | [], _, _ => (0, 0, 3)
  | b :: r, k, n =>
    if B - 7 * (k : Int) ≤ 7 ∧ (128 ≤ b ∨ fit b (B - 7 * (k : Int)) = false) then (0, 0, 4)
    else if b < 128 then (n + b * 128 ^ k, (k : Int) + 1, 0)
    else rdl fit B r (k + 1) (n + (b - 128) * 128 ^ k)

theorem rdl_form {fit : Int → Int → Bool} {B b n : Int} {r : List Int} {k : Nat} (h1 : B - 7 * (k : Int) ≤ 7) (h2 : 128 ≤ b ∨ fit b (B - 7 * (k : Int)) = false) :
    rdl fit B (b :: r) k n = (0, 0, 4) := by
  rw [rdl, if_pos ⟨h1, h2⟩]
theorem rdl_last {fit : Int → Int → Bool} {B b n : Int} {r : List Int} {k : Nat} (h1 : B - 7 * (k : Int) ≤ 7 → fit b (B - 7 * (k : Int)) = true) (h2 : b < 128) :
    rdl fit B (b :: r) k n = (n + b * 128 ^ k, (k : Int) + 1, 0) := by
  rw [rdl, if_neg (by rintro ⟨h3, h4 | h4⟩; · omega
                      · rw [h1 h3] at h4; cases h4), if_pos h2]
theorem rdl_more {fit : Int → Int → Bool} {B b n : Int} {r : List Int} {k : Nat} (h1 : ¬ B - 7 * (k : Int) ≤ 7) (h2 : ¬ b < 128) :
    rdl fit B (b :: r) k n = rdl fit B r (k + 1) (n + (b - 128) * 128 ^ k) := by
  rw [rdl, if_neg (fun h => h1 h.1), if_neg h2]

end Go.Proofs.YtdbhdgkbkhjikaaDoor
