/-
  Plain mathematics of numbers in groups of seven bits: what U and S write, as lists of numbers from 0 to 255.
  Plain mathematics of reading numbers in groups of seven bits.
  Plain mathematics of reading numbers, in one piece: the bytes that say that one more follows, the last one, and what is read of them.
  What leb.read does, with each of the two tests that it is handed.
  What leb.ReadU and leb.ReadS do, for every text and every number of bits.
  Strings that are made of numbers, joined, cut: the numbers of their bytes.
  What ReadU and ReadS can answer: an error, or a number whose shortest bytes are no more than were read.
  What leb.write does with a number without a sign: its bytes, as a string, and nothing that was there has turned.
  What U and S do: the number's bytes are handed back as a string, and nothing that was there has turned.
  What is written is read as it was, whatever stands behind: plain mathematics.
-/
import Derived.Laws.Bits128
import Derived.Laws.BitsAllLaws
import Derived.Laws.BytesArg
import Derived.Laws.ShiftsVarLaws
import Derived.Test.YtfmmefmpjejioaaRows
import Derived.WalkKit
import Derived.WalkSpells
import Derived.Deep.QuietTactic
import Derived.BigQuiet
import Derived.Lib.Strings
import Derived.Laws.Concat
namespace Go.Proofs.Ytfmmefmpjejioaa

/-- The bytes of a number without a sign, with fuel. -/
def uBf : Nat → Nat → List Int
  | 0, _ => []
  | f + 1, n => if n < 128 then [(n : Int)] else (((n % 128 : Nat) : Int) + 128) :: uBf f (n / 128)
/-- The bytes of a number without a sign. -/
def uB (n : Nat) : List Int := uBf (n + 1) n
theorem uBf_fuel : ∀ (f g n : Nat), n < f → n < g → uBf f n = uBf g n
  | 0, _, _, h, _ => by omega
  | _ + 1, 0, _, _, h => by omega
  | f + 1, g + 1, n, h1, h2 => by
    by_cases h : n < 128
    · simp [uBf, h]
    · simp [uBf, h, uBf_fuel f g (n / 128) (by omega) (by omega)]

/-- The bytes of a number with a sign, with fuel. -/
def sBf : Nat → Int → List Int
  | 0, _ => []
  | f + 1, n => if -64 ≤ n ∧ n < 64 then [n % 128] else (n % 128 + 128) :: sBf f (n / 128)
/-- The bytes of a number with a sign. -/
def sB (n : Int) : List Int := sBf (n.natAbs + 1) n
theorem sBf_fuel : ∀ (f g : Nat) (n : Int), n.natAbs < f → n.natAbs < g → sBf f n = sBf g n
  | 0, _, _, h, _ => by omega
  | _ + 1, 0, _, _, h => by omega
  | f + 1, g + 1, n, h1, h2 => by
    by_cases h : -64 ≤ n ∧ n < 64
    · simp [sBf, h]
    · simp [sBf, h, sBf_fuel f g (n / 128) (by omega) (by omega)]

theorem uB_lo {n : Nat} (h : n < 128) : uB n = [(n : Int)] := by simp [uB, uBf, h]
theorem uB_hi {n : Nat} (h : ¬ n < 128) : uB n = (((n % 128 : Nat) : Int) + 128) :: uB (n / 128) := by
  have e := uBf_fuel n (n / 128 + 1) (n / 128) (by omega) (by omega)
  simp [uB, uBf, h, e]
theorem sB_lo {n : Int} (h : -64 ≤ n ∧ n < 64) : sB n = [n % 128] := by simp [sB, sBf, h]
theorem sB_hi {n : Int} (h : ¬ (-64 ≤ n ∧ n < 64)) : sB n = (n % 128 + 128) :: sB (n / 128) := by
  have e := sBf_fuel n.natAbs ((n / 128).natAbs + 1) (n / 128) (by omega) (by omega)
  simp [sB, sBf, h, e]

theorem uB_pos (n : Nat) : 1 ≤ (uB n).length := by
  by_cases h : n < 128
  · simp [uB_lo h]
  · simp [uB_hi h]
theorem sB_pos (n : Int) : 1 ≤ (sB n).length := by
  by_cases h : -64 ≤ n ∧ n < 64
  · simp [sB_lo h]
  · simp [sB_hi h]

theorem uB_len (k : Nat) : ∀ n : Nat, n < 128 ^ (k + 1) → (uB n).length ≤ k + 1 := by
  induction k with
  | zero => intro n h; simp at h; simp [uB_lo h]
  | succ k ih =>
    intro n h
    by_cases hn : n < 128
    · simp [uB_lo hn]
    · rw [uB_hi hn]
      have : n / 128 < 128 ^ (k + 1) := by
        rw [Nat.pow_succ 128 (k + 1)] at h
        exact Nat.div_lt_of_lt_mul (by rw [Nat.mul_comm]; exact h)
      have := ih _ this
      simp; omega
theorem uB_len64 (n : Nat) (h : n ≤ 18446744073709551615) : (uB n).length ≤ 10 := uB_len 9 n (by omega)

theorem sB_len (k : Nat) : ∀ n : Int, -(64 * 128 ^ k) ≤ n → n < 64 * 128 ^ k → (sB n).length ≤ k + 1 := by
  induction k with
  | zero => intro n h1 h2; simp at h1 h2; simp [sB_lo ⟨h1, h2⟩]
  | succ k ih =>
    intro n h1 h2
    by_cases hn : -64 ≤ n ∧ n < 64
    · simp [sB_lo hn]
    · rw [sB_hi hn]
      rw [Int.pow_succ] at h1 h2
      have := ih (n / 128) (by omega) (by omega)
      simp; omega
theorem sB_len64 (n : Int) (h1 : -9223372036854775808 ≤ n) (h2 : n ≤ 9223372036854775807) : (sB n).length ≤ 10 := sB_len 9 n (by omega) (by omega)

theorem and127_u64 (m : Nat) (h : m ≤ 18446744073709551615) : bits .and .u64 (m : Int) 127 = ((m % 128 : Nat) : Int) := by
  have := u64_and_nat m 127 (by omega) (by omega)
  rw [show (m &&& 127) = m % 128 from Nat.and_two_pow_sub_one_eq_mod m 7] at this
  exact this

/-- Every byte lies from 0 to 255. -/
theorem uB_byte (n : Nat) : ∀ b ∈ uB n, 0 ≤ b ∧ b < 256 := by
  induction n using Nat.strongRecOn with
  | ind n ih =>
    by_cases h : n < 128
    · rw [uB_lo h]; simp; omega
    · rw [uB_hi h]
      intro b hb
      rcases List.mem_cons.1 hb with rfl | hb
      · omega
      · exact ih (n / 128) (by omega) b hb
theorem sB_byte (n : Int) : ∀ b ∈ sB n, 0 ≤ b ∧ b < 256 := by
  suffices H : ∀ (f : Nat) (n : Int), ∀ b ∈ sBf f n, 0 ≤ b ∧ b < 256 from H _ n
  intro f
  induction f with
  | zero => intro n b hb; simp [sBf] at hb
  | succ f ih =>
    intro n b hb
    by_cases h : -64 ≤ n ∧ n < 64
    · simp [sBf, h] at hb; omega
    · simp [sBf, h] at hb
      rcases hb with rfl | hb
      · omega
      · exact ih _ b hb

/-- A list of bytes as a string, and back. -/
theorem str_inj {xs ys : List Int} (hx : ∀ b ∈ xs, 0 ≤ b ∧ b < 256) (hy : ∀ b ∈ ys, 0 ≤ b ∧ b < 256) (h : (xs.map fun n => UInt8.ofNat n.toNat) = ys.map fun n => UInt8.ofNat n.toNat) : xs = ys := by
  induction xs generalizing ys with
  | nil => cases ys with
    | nil => rfl
    | cons y ys => simp at h
  | cons x xs ih =>
    cases ys with
    | nil => simp at h
    | cons y ys =>
      simp only [List.map_cons, List.cons.injEq] at h
      have h1 := hx x (by simp)
      have h2 := hy y (by simp)
      have h3 : x = y := by
        have := congrArg UInt8.toNat h.1
        simp only [UInt8.toNat_ofNat'] at this
        omega
      rw [h3, ih (fun b hb => hx b (by simp [hb])) (fun b hb => hy b (by simp [hb])) h.2]

theorem uB_prefix : ∀ (a b : Nat), uB a <+: uB b → a = b := by
  intro a
  induction a using Nat.strongRecOn with
  | ind a ih =>
    intro b h
    by_cases ha : a < 128 <;> by_cases hb : b < 128
    · rw [uB_lo ha, uB_lo hb] at h; simp at h; omega
    · rw [uB_lo ha, uB_hi hb] at h; simp at h; omega
    · rw [uB_hi ha, uB_lo hb] at h; simp at h; omega
    · rw [uB_hi ha, uB_hi hb, List.cons_prefix_cons] at h
      have := ih (a / 128) (by omega) _ h.2
      omega
theorem sB_prefix : ∀ (f : Nat) (a b : Int), a.natAbs < f → sB a <+: sB b → a = b := by
  intro f
  induction f with
  | zero => intro a b h; omega
  | succ f ih =>
    intro a b hf h
    by_cases ha : -64 ≤ a ∧ a < 64 <;> by_cases hb : -64 ≤ b ∧ b < 64
    · rw [sB_lo ha, sB_lo hb] at h; simp at h; omega
    · rw [sB_lo ha, sB_hi hb] at h; simp at h; omega
    · rw [sB_hi ha, sB_lo hb] at h; simp at h; omega
    · rw [sB_hi ha, sB_hi hb, List.cons_prefix_cons] at h
      have := ih (a / 128) _ (by omega) h.2
      omega

/-- How many bits a number has, with fuel. -/
def blf : Nat → Nat → Nat
  | 0, _ => 0
  | f + 1, n => if n = 0 then 0 else blf f (n / 2) + 1
/-- How many bits a number has. -/
def bl (n : Nat) : Nat := blf (n + 1) n
theorem blf_fuel : ∀ (f g n : Nat), n < f → n < g → blf f n = blf g n
  | 0, _, _, h, _ => by omega
  | _ + 1, 0, _, _, h => by omega
  | f + 1, g + 1, n, h1, h2 => by
    by_cases h : n = 0
    · simp [blf, h]
    · simp [blf, h, blf_fuel f g (n / 2) (by omega) (by omega)]
theorem bl_zero : bl 0 = 0 := by simp [bl, blf]
theorem bl_half {n : Nat} (h : ¬ n = 0) : bl n = bl (n / 2) + 1 := by
  have e := blf_fuel n (n / 2 + 1) (n / 2) (by omega) (by omega)
  simp [bl, blf, h, e]
theorem bl_pos {n : Nat} (h : ¬ n = 0) : 1 ≤ bl n := by rw [bl_half h]; omega
theorem bl_le (k : Nat) : ∀ n : Nat, n < 2 ^ k → bl n ≤ k := by
  induction k with
  | zero =>
    intro n h
    have : n = 0 := by simpa using h
    subst this; simp [bl_zero]
  | succ k ih =>
    intro n h
    by_cases h0 : n = 0
    · subst h0; simp [bl_zero]
    · rw [bl_half h0]
      have := ih (n / 2) (by rw [Nat.pow_succ] at h; omega)
      omega
theorem bl_up (n : Nat) (h : 128 ≤ n) : bl n = bl (n / 128) + 7 := by
  rw [bl_half (n := n) (by omega), bl_half (n := n / 2) (by omega), bl_half (n := n / 2 / 2) (by omega), bl_half (n := n / 2 / 2 / 2) (by omega), bl_half (n := n / 2 / 2 / 2 / 2) (by omega),
    bl_half (n := n / 2 / 2 / 2 / 2 / 2) (by omega), bl_half (n := n / 2 / 2 / 2 / 2 / 2 / 2) (by omega)]
  have : n / 2 / 2 / 2 / 2 / 2 / 2 / 2 = n / 128 := by omega
  rw [this]
theorem uB_bits (n : Nat) : (uB n).length = max 1 ((bl n + 6) / 7) := by
  induction n using Nat.strongRecOn with
  | ind n ih =>
    by_cases h : n < 128
    · have := bl_le 7 n (by simpa using h)
      rw [uB_lo h]; simp; omega
    · rw [uB_hi h, bl_up n (by omega)]
      have h1 := ih (n / 128) (by omega)
      have h2 := bl_pos (n := n / 128) (by omega)
      simp only [List.length_cons, h1]; omega

end Go.Proofs.Ytfmmefmpjejioaa
namespace Go.Proofs.Ytfmmefmpjejioaa

/-- The bytes of a string as numbers. -/
def nums (s : ByteArray) : List Int := s.data.toList.map fun b => (b.toNat : Int)
theorem nums_length (s : ByteArray) : (nums s).length = s.size := by
  rw [nums, List.length_map, Array.length_toList]; rfl
theorem nums_drop (s : ByteArray) (k : Nat) (h : k < s.size) : (nums s).drop k = (s[k].toNat : Int) :: (nums s).drop (k + 1) := by
  have hl : k < (nums s).length := by rw [nums_length]; exact h
  rw [List.drop_eq_getElem_cons hl]
  congr 1
  simp only [nums, List.getElem_map]
  rfl
theorem nums_byte (s : ByteArray) : ∀ b ∈ nums s, 0 ≤ b ∧ b < 256 := by
  intro b hb
  simp only [nums, List.mem_map] at hb
  obtain ⟨c, _, rfl⟩ := hb
  have := c.toNat_lt
  omega

theorem and127_u8 (m : Nat) (h : m < 256) : bits .and .u8 (m : Int) 127 = ((m % 128 : Nat) : Int) := by
  have := u8_and_nat m 127 (by omega) (by omega)
  rw [show (m &&& 127) = m % 128 from Nat.and_two_pow_sub_one_eq_mod m 7] at this
  exact this

theorem pow128 (k : Nat) : (128 : Nat) ^ k = 2 ^ (7 * k) := by rw [Nat.pow_mul]
theorem or_shift (n : Int) (k b : Nat) (h0 : 0 ≤ n) (h1 : n < 128 ^ k) (hk : k ≤ 9) :
    bits .or .u64 n (IntKind.u64.wrap ((b : Int) % 128 * 2 ^ (7 * k))) = (n + (b : Int) % 128 * 128 ^ k) % 18446744073709551616 := by
  obtain ⟨N, rfl⟩ : ∃ N : Nat, n = N := ⟨n.toNat, by omega⟩
  obtain ⟨a, ha⟩ : ∃ a : Nat, b % 128 = a := ⟨_, rfl⟩
  have hab : (b : Int) % 128 = (a : Int) := by omega
  rw [hab]
  have hN : N < 2 ^ (7 * k) := by rw [← pow128]; exact_mod_cast h1
  have hM : (2 : Nat) ^ 64 = 2 ^ (7 * k) * 2 ^ (64 - 7 * k) := by rw [← Nat.pow_add]; congr 1; omega
  have e1 : IntKind.u64.wrap ((a : Int) * 2 ^ (7 * k)) = ((2 ^ (7 * k) * (a % 2 ^ (64 - 7 * k)) : Nat) : Int) := by
    have : IntKind.u64.wrap ((a : Int) * 2 ^ (7 * k)) = (a : Int) * 2 ^ (7 * k) % 18446744073709551616 := by
      simp [IntKind.wrap, IntKind.bits, IntKind.signed]
    rw [this]
    have h2 : a * 2 ^ (7 * k) % 2 ^ 64 = 2 ^ (7 * k) * (a % 2 ^ (64 - 7 * k)) := by
      rw [hM, Nat.mul_comm a, Nat.mul_mod_mul_left]
    rw [← h2, Int.natCast_emod, Int.natCast_mul, Int.natCast_pow]
    rfl
  have hlt : 2 ^ (7 * k) * (a % 2 ^ (64 - 7 * k)) + N < 2 ^ 64 := by
    have hm : a % 2 ^ (64 - 7 * k) + 1 ≤ 2 ^ (64 - 7 * k) := Nat.mod_lt _ (Nat.two_pow_pos _)
    have := Nat.mul_le_mul_left (2 ^ (7 * k)) hm
    rw [← hM, Nat.mul_add] at this
    omega
  rw [e1, u64_or_nat N _ (by omega) (by omega), Nat.or_comm, ← Nat.two_pow_add_eq_or_of_lt hN]
  have e2 : (N + a * 128 ^ k) % 2 ^ 64 = 2 ^ (7 * k) * (a % 2 ^ (64 - 7 * k)) + N := by
    rw [pow128, hM, Nat.mod_mul, Nat.add_mul_mod_self_right, Nat.mod_eq_of_lt hN, Nat.add_mul_div_right _ _ (Nat.two_pow_pos _), Nat.div_eq_of_lt hN]
    simp [Nat.add_comm]
  rw [← e2, Int.natCast_emod, Int.natCast_add, Int.natCast_mul, Int.natCast_pow]
  rfl
theorem mod_more (n : Int) (k b : Nat) (h0 : 0 ≤ n) (h1 : n < 128 ^ k) (hk : k ≤ 8) :
    (n + (b : Int) % 128 * 128 ^ k) % 18446744073709551616 = n + (b : Int) % 128 * 128 ^ k ∧ 0 ≤ n + (b : Int) % 128 * 128 ^ k ∧ n + (b : Int) % 128 * 128 ^ k < 128 ^ (k + 1) := by
  have hp : (0 : Int) < 128 ^ k := Int.pow_pos (by omega)
  obtain ⟨a, ha⟩ : ∃ a : Int, (b : Int) % 128 = a := ⟨_, rfl⟩
  have a0 : 0 ≤ a := by omega
  have a1 : a ≤ 127 := by omega
  rw [ha]
  have m0 : 0 ≤ a * 128 ^ k := Int.mul_nonneg a0 (by omega)
  have m1 : a * 128 ^ k ≤ 127 * 128 ^ k := Int.mul_le_mul_of_nonneg_right a1 (by omega)
  have hlt : n + a * 128 ^ k < 128 ^ (k + 1) := by rw [Int.pow_succ]; omega
  have hle : (128 : Int) ^ (k + 1) ≤ 128 ^ 9 := by
    exact_mod_cast Nat.pow_le_pow_right (by omega : 0 < 128) (by omega : k + 1 ≤ 9)
  refine ⟨Int.emod_eq_of_lt (by omega) (by omega), by omega, hlt⟩

/-- Has a last byte of which so many bits have room no bit without a place? -/
def fitU (b room : Int) : Bool := b / 2 ^ room.toNat == 0
/-- The same with a sign. -/
def fitS (b room : Int) : Bool := b / 2 ^ (room.toNat - 1) == 0 || b / 2 ^ (room.toNat - 1) == 127 / 2 ^ (room.toNat - 1)

/-- Reading, from the byte with number k on, where the bytes ahead of it gave n: the number, how many bytes, the error. -/
def rdl (fit : Int → Int → Bool) (B : Int) : List Int → Nat → Int → Int × Int × Int
  | [], _, _ => (0, 0, 3)
  | b :: r, k, n =>
    if B - 7 * (k : Int) ≤ 7 ∧ (128 ≤ b ∨ fit b (B - 7 * (k : Int)) = false) then (0, 0, 4)
    else if b < 128 then (n + b * 128 ^ k, (k : Int) + 1, 0)
    else rdl fit B r (k + 1) (n + (b - 128) * 128 ^ k)

theorem rdl_form {fit : Int → Int → Bool} {B b n : Int} {r : List Int} {k : Nat} (h1 : B - 7 * (k : Int) ≤ 7) (h2 : 128 ≤ b ∨ fit b (B - 7 * (k : Int)) = false) :
    rdl fit B (b :: r) k n = (0, 0, 4) := by
  rw [rdl, if_pos ⟨h1, h2⟩]
theorem rdl_last {fit : Int → Int → Bool} {B b n : Int} {r : List Int} {k : Nat} (h1 : B - 7 * (k : Int) ≤ 7 → fit b (B - 7 * (k : Int)) = true) (h2 : b < 128) :
    rdl fit B (b :: r) k n = (n + b * 128 ^ k, (k : Int) + 1, 0) := by
  rw [rdl, if_neg (by rintro ⟨h3, h4 | h4⟩; · omega
                      · rw [h1 h3] at h4; cases h4), if_pos h2]
theorem rdl_more {fit : Int → Int → Bool} {B b n : Int} {r : List Int} {k : Nat} (h1 : ¬ B - 7 * (k : Int) ≤ 7) (h2 : ¬ b < 128) :
    rdl fit B (b :: r) k n = rdl fit B r (k + 1) (n + (b - 128) * 128 ^ k) := by
  rw [rdl, if_neg (fun h => h1 h.1), if_neg h2]

end Go.Proofs.Ytfmmefmpjejioaa
namespace Go.Proofs.Ytfmmefmpjejioaa

/-- What bytes stand for, seven bits each, the lowest first. -/
def val : List Int → Int
  | [] => 0
  | b :: r => b % 128 + 128 * val r
theorem val_append : ∀ (f g : List Int), val (f ++ g) = val f + val g * 128 ^ f.length
  | [], g => by simp [val]
  | b :: f, g => by
    rw [List.cons_append, val, val, val_append f g, List.length_cons, Int.pow_succ, Int.mul_add, ← Int.add_assoc, Int.mul_comm (128 ^ f.length) 128, Int.mul_left_comm 128 (val g)]
theorem val_bound : ∀ (f : List Int), 0 ≤ val f ∧ val f < 128 ^ f.length
  | [] => by simp [val]
  | b :: f => by
    have := val_bound f
    rw [val, List.length_cons, Int.pow_succ]
    omega

theorem rdl_walk {fit : Int → Int → Bool} {B : Int} (t : List Int) : ∀ (f : List Int) (k : Nat) (n : Int), (∀ b ∈ f, 128 ≤ b ∧ b < 256) → 7 * ((k : Int) + f.length) < B →
    rdl fit B (f ++ t) k n = rdl fit B t (k + f.length) (n + val f * 128 ^ k)
  | [], k, n, _, _ => by simp [val]
  | b :: f, k, n, h, hB => by
    have hb := h b (by simp)
    simp only [List.length_cons] at hB
    rw [List.cons_append, rdl_more (by omega) (by omega), rdl_walk t f (k + 1) _ (fun x hx => h x (by simp [hx])) (by omega)]
    rw [val, Int.pow_succ, List.length_cons]
    have e1 : k + 1 + f.length = k + (f.length + 1) := by omega
    have e2 : b % 128 = b - 128 := by omega
    have e3 : n + (b - 128) * 128 ^ k + val f * (128 ^ k * 128) = n + (b - 128 + 128 * val f) * 128 ^ k := by
      rw [Int.add_mul, Int.add_assoc, Int.mul_comm (128 ^ k) 128, Int.mul_comm 128 (val f), Int.mul_assoc]
    rw [e1, e2, e3]

/-- Bytes that all say that one more follows, fewer than there may be: they end too early. -/
theorem rdl_short {fit : Int → Int → Bool} {B : Int} (f : List Int) (h : ∀ b ∈ f, 128 ≤ b ∧ b < 256) (hB : 7 * (f.length : Int) < B) : rdl fit B f 0 0 = (0, 0, 3) := by
  have := rdl_walk (fit := fit) (B := B) [] f 0 0 h (by simpa using hB)
  rw [List.append_nil] at this
  rw [this]; rfl
/-- As many as there may be, and more: they have no form. -/
theorem rdl_long {fit : Int → Int → Bool} {B : Int} (f t : List Int) (h : ∀ b ∈ f, 128 ≤ b ∧ b < 256) (m : Nat) (hm : f.length = m + 1) (hB : 7 * (m : Int) < B) (hB2 : B ≤ 7 * (m : Int) + 7) : rdl fit B (f ++ t) 0 0 = (0, 0, 4) := by
  have hl : (f.take m).length = m := by rw [List.length_take]; omega
  have hs : f = f.take m ++ f.drop m := (List.take_append_drop m f).symm
  obtain ⟨b, hb⟩ : ∃ b, f.drop m = [b] := by
    have : (f.drop m).length = 1 := by rw [List.length_drop]; omega
    exact List.length_eq_one_iff.1 this
  have hbm : b ∈ f := List.mem_of_mem_drop (i := m) (by rw [hb]; simp)
  rw [hs, hb, List.append_assoc, rdl_walk _ _ 0 0 (fun x hx => h x (List.mem_of_mem_take hx)) (by rw [hl]; simpa using hB)]
  exact rdl_form (by rw [hl]; simp; omega) (.inl (h b hbm).1)
/-- A last byte that has a bit without a place. -/
theorem rdl_bad {fit : Int → Int → Bool} {B : Int} (f t : List Int) (b : Int) (h : ∀ b ∈ f, 128 ≤ b ∧ b < 256) (hB : 7 * (f.length : Int) < B) (hB2 : B ≤ 7 * (f.length : Int) + 7) (hf : fit b (B - 7 * (f.length : Int)) = false) :
    rdl fit B (f ++ b :: t) 0 0 = (0, 0, 4) := by
  rw [rdl_walk _ _ 0 0 h (by simpa using hB)]
  exact rdl_form (by simp; omega) (.inr (by simpa using hf))
/-- A number. -/
theorem rdl_good {fit : Int → Int → Bool} {B : Int} (f t : List Int) (b : Int) (h : ∀ b ∈ f, 128 ≤ b ∧ b < 256) (hb0 : 0 ≤ b) (hb : b < 128) (hB : 7 * (f.length : Int) < B) (hf : B ≤ 7 * (f.length : Int) + 7 → fit b (B - 7 * (f.length : Int)) = true) :
    rdl fit B (f ++ b :: t) 0 0 = (val (f ++ [b]), (f.length : Int) + 1, 0) := by
  rw [rdl_walk _ _ 0 0 h (by simpa using hB), rdl_last (by intro h; simpa using hf (by simp at h; omega)) hb, val_append]
  have : b % 128 = b := by omega
  simp [val, this]

/-- Every list of bytes: those that say that one more follows, and then nothing, or a last byte. -/
theorem split_bytes : ∀ (l : List Int), (∀ b ∈ l, 0 ≤ b ∧ b < 256) → ∃ f, (∀ b ∈ f, 128 ≤ b ∧ b < 256) ∧ (l = f ∨ ∃ b t, l = f ++ b :: t ∧ 0 ≤ b ∧ b < 128)
  | [], _ => ⟨[], by simp, .inl rfl⟩
  | b :: l, h => by
    have hb := h b (by simp)
    by_cases h128 : b < 128
    · exact ⟨[], by simp, .inr ⟨b, l, rfl, hb.1, h128⟩⟩
    · obtain ⟨f, hf, hc⟩ := split_bytes l (fun x hx => h x (by simp [hx]))
      refine ⟨b :: f, ?_, ?_⟩
      · intro x hx
        rcases List.mem_cons.1 hx with rfl | hx
        · omega
        · exact hf x hx
      · rcases hc with rfl | ⟨c, t, rfl, hc⟩
        · exact .inl rfl
        · exact .inr ⟨c, t, rfl, hc⟩

/-- What U writes, so split. -/
theorem uB_split (n : Nat) : ∃ f b, uB n = f ++ [b] ∧ (∀ x ∈ f, 128 ≤ x ∧ x < 256) ∧ 0 ≤ b ∧ b < 128 ∧ val (f ++ [b]) = n := by
  induction n using Nat.strongRecOn with
  | ind n ih =>
    by_cases h : n < 128
    · exact ⟨[], (n : Int), uB_lo h, by simp, by omega, by omega, by simp [val]; omega⟩
    · obtain ⟨f, b, h1, h2, h3, h4, h5⟩ := ih (n / 128) (by omega)
      refine ⟨(((n % 128 : Nat) : Int) + 128) :: f, b, by rw [uB_hi h, h1]; rfl, ?_, h3, h4, ?_⟩
      · intro x hx
        rcases List.mem_cons.1 hx with rfl | hx
        · omega
        · exact h2 x hx
      · rw [List.cons_append, val, h5]; omega
/-- What S writes, so split. -/
theorem sB_split (f0 : Nat) : ∀ n : Int, n.natAbs < f0 → ∃ f b, sB n = f ++ [b] ∧ (∀ x ∈ f, 128 ≤ x ∧ x < 256) ∧ 0 ≤ b ∧ b < 128 ∧ val (f ++ [b]) = n + (if 64 ≤ b then 128 ^ (f.length + 1) else 0) := by
  induction f0 with
  | zero => intro n h; omega
  | succ f0 ih =>
    intro n hn
    by_cases h : -64 ≤ n ∧ n < 64
    · refine ⟨[], n % 128, sB_lo h, by simp, by omega, by omega, ?_⟩
      simp only [List.nil_append, val, List.length_nil]
      split <;> omega
    · obtain ⟨f, b, h1, h2, h3, h4, h5⟩ := ih (n / 128) (by omega)
      refine ⟨(n % 128 + 128) :: f, b, by rw [sB_hi h, h1]; rfl, ?_, h3, h4, ?_⟩
      · intro x hx
        rcases List.mem_cons.1 hx with rfl | hx
        · omega
        · exact h2 x hx
      · rw [List.cons_append, val, h5, List.length_cons, Int.pow_succ 128 (f.length + 1)]
        split <;> omega

end Go.Proofs.Ytfmmefmpjejioaa
namespace Go.Proofs.Ytfmmefmpjejioaa
open Go.RowKit

theorem ret_b {b c : Bool} (h : b = c) : Ending.returned (.bool b) = .returned (.bool c) := by rw [h]
theorem ret_3 {k l j : IntKind} {a a' b b' c c' : Int} (h1 : a = a') (h2 : b = b') (h3 : c = c') : Ending.returned (.tuple #[.int k a, .int l b, .int j c]) = .returned (.tuple #[.int k a', .int l b', .int j c']) := by rw [h1, h2, h3]

set_option maxHeartbeats 400000 in
theorem fitU_at (b room : Int) (c : Bool) (_h0 : 0 ≤ b) (_h1 : b < 256) (h2 : 0 ≤ room) (h3 : room ≤ 7) (h : Hid (fitU b room = c)) (w : World) :
    Calls Try.prog 72 #[.int .u8 b, .int .i64 room] w fun e w' => e = .returned (.bool c) ∧ w' = w := by
  go_enter Try.func72, Try.ntmps72
  go_wp2
  go_ret
  exact ⟨ret_b h.out, rfl⟩

set_option maxHeartbeats 400000 in
theorem fitS_at (b room : Int) (c : Bool) (_h0 : 0 ≤ b) (_h1 : b < 256) (h2 : 1 ≤ room) (h3 : room ≤ 7) (h : Hid (fitS b room = c)) (w : World) :
    Calls Try.prog 78 #[.int .u8 b, .int .i64 room] w fun e w' => e = .returned (.bool c) ∧ w' = w := by
  go_enter Try.func78, Try.ntmps78
  go_wp2
  · go_ret
    refine ⟨ret_b ?_, rfl⟩
    rw [← h.out, fitS, ‹b / 2 ^ (room.toNat - 1) = 0›]; simp
  · go_ret
    exact ⟨ret_b h.out, rfl⟩

set_option maxHeartbeats 1000000 in
set_option maxRecDepth 1000000 in
theorem readU32 (s : ByteArray) (hs : s.size ≤ maxLen) (w : World) :
    Calls Try.prog 71 #[.string s, .int .i64 32, .func (.func 72) #[] #[]] w fun e w' => e = .returned (.tuple #[.int .u64 ((rdl fitU 32 (nums s) 0 0).1 % 18446744073709551616), .int .i64 (rdl fitU 32 (nums s) 0 0).2.1, .int .i64 (rdl fitU 32 (nums s) 0 0).2.2]) ∧ w' = w := by
  unfold maxLen at hs
  obtain ⟨R, hR⟩ : ∃ R, rdl fitU 32 (nums s) 0 0 = R := ⟨_, rfl⟩
  rw [hR]
  have HR : Hid (rdl fitU 32 (nums s) 0 0 = R) := hR
  clear hR
  go_enter Try.func71, Try.ntmps71
  go_wp2
  go_loop [9, 21] (fun t i => ∃ k : Nat, ∃ n : Int, i = .int .i64 k ∧ t = .int .u64 n ∧ k ≤ s.size ∧ 7 * (k : Int) < 32 ∧ 0 ≤ n ∧ n < 128 ^ k ∧ Hid (rdl fitU 32 ((nums s).drop k) k n = R)) (fun _ i => s.size - (intOf i).toNat)
  case atStart => exact ⟨0, 0, rfl, rfl, by omega, by omega, by omega, by omega, by simpa using HR⟩
  case round =>
    obtain ⟨k, n, rfl, rfl, hk, hk7, hn0, hn1, H⟩ := hrel
    by_cases hlt : k < s.size
    · have hd : Hid (rdl fitU 32 ((s[k].toNat : Int) :: (nums s).drop (k + 1)) k n = R) := by unfold Hid; rw [← nums_drop s k hlt]; exact H
      clear H HR
      have hb : s[k].toNat < 256 := s[k].toNat_lt
      have hand := and127_u8 s[k].toNat hb
      by_cases h7 : 32 - 7 * (k : Int) ≤ 7
      · by_cases h128 : 128 ≤ (s[k].toNat : Int)
        · go_wp2
          go_ret3
          rw [rdl_form h7 (.inl h128)] at hd
          exact ⟨by rw [← hd.out]; rfl, rfl⟩
        · cases hf : fitU (s[k].toNat : Int) (32 - 7 * (k : Int)) with
          | false =>
            have HF : Hid (fitU (s[k].toNat : Int) (32 - 7 * (k : Int)) = false) := hf
            clear hf
            go_wp2_with (go_at_call 72; refine (fitU_at _ _ _ (by omega) (by omega) (by omega) (by omega) HF _).mono ?_; rintro e w' ⟨rfl, rfl⟩)
            go_ret3
            rw [rdl_form h7 (.inr HF.out)] at hd
            exact ⟨by rw [← hd.out]; rfl, rfl⟩
          | true =>
            have HF : Hid (fitU (s[k].toNat : Int) (32 - 7 * (k : Int)) = true) := hf
            clear hf
            go_wp2_with (go_at_call 72; refine (fitU_at _ _ _ (by omega) (by omega) (by omega) (by omega) HF _).mono ?_; rintro e w' ⟨rfl, rfl⟩)
            go_ret3
            have e := hd.out
            rw [rdl_last (fun _ => HF.out) h128] at e
            rw [← e]
            exact ⟨ret_3 (by rw [or_shift n k s[k].toNat hn0 hn1 (by omega), Int.emod_eq_of_lt (by omega) h128]) rfl rfl, rfl⟩
      · by_cases h128 : (s[k].toNat : Int) < 128
        · go_wp2
          go_ret3
          have e := hd.out
          rw [rdl_last (fun h => by omega) h128] at e
          rw [← e]
          exact ⟨ret_3 (by rw [or_shift n k s[k].toNat hn0 hn1 (by omega), Int.emod_eq_of_lt (by omega) h128]) rfl rfl, rfl⟩
        · have hm := mod_more n k s[k].toNat hn0 hn1 (by omega)
          have HE : Hid (bits BinOp.or IntKind.u64 n (IntKind.u64.wrap ((s[k].toNat : Int) % 128 * 2 ^ (7 * k))) = n + (s[k].toNat : Int) % 128 * 128 ^ k) := by
            unfold Hid; rw [or_shift n k s[k].toNat hn0 hn1 (by omega)]; exact hm.1
          have HM : Hid _ := hm.2
          clear hm
          go_wp2
          go_round
          case rel =>
            refine ⟨k + 1, _, by go_num, rfl, by omega, by omega, ?_⟩
            rw [HE.out]
            refine ⟨HM.out.1, HM.out.2, ?_⟩
            have e := hd.out
            rw [rdl_more h7 h128] at e
            unfold Hid
            rw [show (s[k].toNat : Int) % 128 = (s[k].toNat : Int) - 128 from by omega]
            exact e
          case measure => simp [intOf]; omega
    · go_wp2
      go_ret3
      have := H.out
      rw [List.drop_eq_nil_of_le (by rw [nums_length]; omega)] at this
      exact ⟨by rw [← this]; rfl, rfl⟩

set_option maxHeartbeats 1000000 in
set_option maxRecDepth 1000000 in
theorem readU64 (s : ByteArray) (hs : s.size ≤ maxLen) (w : World) :
    Calls Try.prog 71 #[.string s, .int .i64 64, .func (.func 72) #[] #[]] w fun e w' => e = .returned (.tuple #[.int .u64 ((rdl fitU 64 (nums s) 0 0).1 % 18446744073709551616), .int .i64 (rdl fitU 64 (nums s) 0 0).2.1, .int .i64 (rdl fitU 64 (nums s) 0 0).2.2]) ∧ w' = w := by
  unfold maxLen at hs
  obtain ⟨R, hR⟩ : ∃ R, rdl fitU 64 (nums s) 0 0 = R := ⟨_, rfl⟩
  rw [hR]
  have HR : Hid (rdl fitU 64 (nums s) 0 0 = R) := hR
  clear hR
  go_enter Try.func71, Try.ntmps71
  go_wp2
  go_loop [9, 21] (fun t i => ∃ k : Nat, ∃ n : Int, i = .int .i64 k ∧ t = .int .u64 n ∧ k ≤ s.size ∧ 7 * (k : Int) < 64 ∧ 0 ≤ n ∧ n < 128 ^ k ∧ Hid (rdl fitU 64 ((nums s).drop k) k n = R)) (fun _ i => s.size - (intOf i).toNat)
  case atStart => exact ⟨0, 0, rfl, rfl, by omega, by omega, by omega, by omega, by simpa using HR⟩
  case round =>
    obtain ⟨k, n, rfl, rfl, hk, hk7, hn0, hn1, H⟩ := hrel
    by_cases hlt : k < s.size
    · have hd : Hid (rdl fitU 64 ((s[k].toNat : Int) :: (nums s).drop (k + 1)) k n = R) := by unfold Hid; rw [← nums_drop s k hlt]; exact H
      clear H HR
      have hb : s[k].toNat < 256 := s[k].toNat_lt
      have hand := and127_u8 s[k].toNat hb
      by_cases h7 : 64 - 7 * (k : Int) ≤ 7
      · by_cases h128 : 128 ≤ (s[k].toNat : Int)
        · go_wp2
          go_ret3
          rw [rdl_form h7 (.inl h128)] at hd
          exact ⟨by rw [← hd.out]; rfl, rfl⟩
        · cases hf : fitU (s[k].toNat : Int) (64 - 7 * (k : Int)) with
          | false =>
            have HF : Hid (fitU (s[k].toNat : Int) (64 - 7 * (k : Int)) = false) := hf
            clear hf
            go_wp2_with (go_at_call 72; refine (fitU_at _ _ _ (by omega) (by omega) (by omega) (by omega) HF _).mono ?_; rintro e w' ⟨rfl, rfl⟩)
            go_ret3
            rw [rdl_form h7 (.inr HF.out)] at hd
            exact ⟨by rw [← hd.out]; rfl, rfl⟩
          | true =>
            have HF : Hid (fitU (s[k].toNat : Int) (64 - 7 * (k : Int)) = true) := hf
            clear hf
            go_wp2_with (go_at_call 72; refine (fitU_at _ _ _ (by omega) (by omega) (by omega) (by omega) HF _).mono ?_; rintro e w' ⟨rfl, rfl⟩)
            go_ret3
            have e := hd.out
            rw [rdl_last (fun _ => HF.out) h128] at e
            rw [← e]
            exact ⟨ret_3 (by rw [or_shift n k s[k].toNat hn0 hn1 (by omega), Int.emod_eq_of_lt (by omega) h128]) rfl rfl, rfl⟩
      · by_cases h128 : (s[k].toNat : Int) < 128
        · go_wp2
          go_ret3
          have e := hd.out
          rw [rdl_last (fun h => by omega) h128] at e
          rw [← e]
          exact ⟨ret_3 (by rw [or_shift n k s[k].toNat hn0 hn1 (by omega), Int.emod_eq_of_lt (by omega) h128]) rfl rfl, rfl⟩
        · have hm := mod_more n k s[k].toNat hn0 hn1 (by omega)
          have HE : Hid (bits BinOp.or IntKind.u64 n (IntKind.u64.wrap ((s[k].toNat : Int) % 128 * 2 ^ (7 * k))) = n + (s[k].toNat : Int) % 128 * 128 ^ k) := by
            unfold Hid; rw [or_shift n k s[k].toNat hn0 hn1 (by omega)]; exact hm.1
          have HM : Hid _ := hm.2
          clear hm
          go_wp2
          go_round
          case rel =>
            refine ⟨k + 1, _, by go_num, rfl, by omega, by omega, ?_⟩
            rw [HE.out]
            refine ⟨HM.out.1, HM.out.2, ?_⟩
            have e := hd.out
            rw [rdl_more h7 h128] at e
            unfold Hid
            rw [show (s[k].toNat : Int) % 128 = (s[k].toNat : Int) - 128 from by omega]
            exact e
          case measure => simp [intOf]; omega
    · go_wp2
      go_ret3
      have := H.out
      rw [List.drop_eq_nil_of_le (by rw [nums_length]; omega)] at this
      exact ⟨by rw [← this]; rfl, rfl⟩

set_option maxHeartbeats 1000000 in
set_option maxRecDepth 1000000 in
theorem readS32 (s : ByteArray) (hs : s.size ≤ maxLen) (w : World) :
    Calls Try.prog 71 #[.string s, .int .i64 32, .func (.func 78) #[] #[]] w fun e w' => e = .returned (.tuple #[.int .u64 ((rdl fitS 32 (nums s) 0 0).1 % 18446744073709551616), .int .i64 (rdl fitS 32 (nums s) 0 0).2.1, .int .i64 (rdl fitS 32 (nums s) 0 0).2.2]) ∧ w' = w := by
  unfold maxLen at hs
  obtain ⟨R, hR⟩ : ∃ R, rdl fitS 32 (nums s) 0 0 = R := ⟨_, rfl⟩
  rw [hR]
  have HR : Hid (rdl fitS 32 (nums s) 0 0 = R) := hR
  clear hR
  go_enter Try.func71, Try.ntmps71
  go_wp2
  go_loop [9, 21] (fun t i => ∃ k : Nat, ∃ n : Int, i = .int .i64 k ∧ t = .int .u64 n ∧ k ≤ s.size ∧ 7 * (k : Int) < 32 ∧ 0 ≤ n ∧ n < 128 ^ k ∧ Hid (rdl fitS 32 ((nums s).drop k) k n = R)) (fun _ i => s.size - (intOf i).toNat)
  case atStart => exact ⟨0, 0, rfl, rfl, by omega, by omega, by omega, by omega, by simpa using HR⟩
  case round =>
    obtain ⟨k, n, rfl, rfl, hk, hk7, hn0, hn1, H⟩ := hrel
    by_cases hlt : k < s.size
    · have hd : Hid (rdl fitS 32 ((s[k].toNat : Int) :: (nums s).drop (k + 1)) k n = R) := by unfold Hid; rw [← nums_drop s k hlt]; exact H
      clear H HR
      have hb : s[k].toNat < 256 := s[k].toNat_lt
      have hand := and127_u8 s[k].toNat hb
      by_cases h7 : 32 - 7 * (k : Int) ≤ 7
      · by_cases h128 : 128 ≤ (s[k].toNat : Int)
        · go_wp2
          go_ret3
          rw [rdl_form h7 (.inl h128)] at hd
          exact ⟨by rw [← hd.out]; rfl, rfl⟩
        · cases hf : fitS (s[k].toNat : Int) (32 - 7 * (k : Int)) with
          | false =>
            have HF : Hid (fitS (s[k].toNat : Int) (32 - 7 * (k : Int)) = false) := hf
            clear hf
            go_wp2_with (go_at_call 78; refine (fitS_at _ _ _ (by omega) (by omega) (by omega) (by omega) HF _).mono ?_; rintro e w' ⟨rfl, rfl⟩)
            go_ret3
            rw [rdl_form h7 (.inr HF.out)] at hd
            exact ⟨by rw [← hd.out]; rfl, rfl⟩
          | true =>
            have HF : Hid (fitS (s[k].toNat : Int) (32 - 7 * (k : Int)) = true) := hf
            clear hf
            go_wp2_with (go_at_call 78; refine (fitS_at _ _ _ (by omega) (by omega) (by omega) (by omega) HF _).mono ?_; rintro e w' ⟨rfl, rfl⟩)
            go_ret3
            have e := hd.out
            rw [rdl_last (fun _ => HF.out) h128] at e
            rw [← e]
            exact ⟨ret_3 (by rw [or_shift n k s[k].toNat hn0 hn1 (by omega), Int.emod_eq_of_lt (by omega) h128]) rfl rfl, rfl⟩
      · by_cases h128 : (s[k].toNat : Int) < 128
        · go_wp2
          go_ret3
          have e := hd.out
          rw [rdl_last (fun h => by omega) h128] at e
          rw [← e]
          exact ⟨ret_3 (by rw [or_shift n k s[k].toNat hn0 hn1 (by omega), Int.emod_eq_of_lt (by omega) h128]) rfl rfl, rfl⟩
        · have hm := mod_more n k s[k].toNat hn0 hn1 (by omega)
          have HE : Hid (bits BinOp.or IntKind.u64 n (IntKind.u64.wrap ((s[k].toNat : Int) % 128 * 2 ^ (7 * k))) = n + (s[k].toNat : Int) % 128 * 128 ^ k) := by
            unfold Hid; rw [or_shift n k s[k].toNat hn0 hn1 (by omega)]; exact hm.1
          have HM : Hid _ := hm.2
          clear hm
          go_wp2
          go_round
          case rel =>
            refine ⟨k + 1, _, by go_num, rfl, by omega, by omega, ?_⟩
            rw [HE.out]
            refine ⟨HM.out.1, HM.out.2, ?_⟩
            have e := hd.out
            rw [rdl_more h7 h128] at e
            unfold Hid
            rw [show (s[k].toNat : Int) % 128 = (s[k].toNat : Int) - 128 from by omega]
            exact e
          case measure => simp [intOf]; omega
    · go_wp2
      go_ret3
      have := H.out
      rw [List.drop_eq_nil_of_le (by rw [nums_length]; omega)] at this
      exact ⟨by rw [← this]; rfl, rfl⟩

set_option maxHeartbeats 1000000 in
set_option maxRecDepth 1000000 in
theorem readS64 (s : ByteArray) (hs : s.size ≤ maxLen) (w : World) :
    Calls Try.prog 71 #[.string s, .int .i64 64, .func (.func 78) #[] #[]] w fun e w' => e = .returned (.tuple #[.int .u64 ((rdl fitS 64 (nums s) 0 0).1 % 18446744073709551616), .int .i64 (rdl fitS 64 (nums s) 0 0).2.1, .int .i64 (rdl fitS 64 (nums s) 0 0).2.2]) ∧ w' = w := by
  unfold maxLen at hs
  obtain ⟨R, hR⟩ : ∃ R, rdl fitS 64 (nums s) 0 0 = R := ⟨_, rfl⟩
  rw [hR]
  have HR : Hid (rdl fitS 64 (nums s) 0 0 = R) := hR
  clear hR
  go_enter Try.func71, Try.ntmps71
  go_wp2
  go_loop [9, 21] (fun t i => ∃ k : Nat, ∃ n : Int, i = .int .i64 k ∧ t = .int .u64 n ∧ k ≤ s.size ∧ 7 * (k : Int) < 64 ∧ 0 ≤ n ∧ n < 128 ^ k ∧ Hid (rdl fitS 64 ((nums s).drop k) k n = R)) (fun _ i => s.size - (intOf i).toNat)
  case atStart => exact ⟨0, 0, rfl, rfl, by omega, by omega, by omega, by omega, by simpa using HR⟩
  case round =>
    obtain ⟨k, n, rfl, rfl, hk, hk7, hn0, hn1, H⟩ := hrel
    by_cases hlt : k < s.size
    · have hd : Hid (rdl fitS 64 ((s[k].toNat : Int) :: (nums s).drop (k + 1)) k n = R) := by unfold Hid; rw [← nums_drop s k hlt]; exact H
      clear H HR
      have hb : s[k].toNat < 256 := s[k].toNat_lt
      have hand := and127_u8 s[k].toNat hb
      by_cases h7 : 64 - 7 * (k : Int) ≤ 7
      · by_cases h128 : 128 ≤ (s[k].toNat : Int)
        · go_wp2
          go_ret3
          rw [rdl_form h7 (.inl h128)] at hd
          exact ⟨by rw [← hd.out]; rfl, rfl⟩
        · cases hf : fitS (s[k].toNat : Int) (64 - 7 * (k : Int)) with
          | false =>
            have HF : Hid (fitS (s[k].toNat : Int) (64 - 7 * (k : Int)) = false) := hf
            clear hf
            go_wp2_with (go_at_call 78; refine (fitS_at _ _ _ (by omega) (by omega) (by omega) (by omega) HF _).mono ?_; rintro e w' ⟨rfl, rfl⟩)
            go_ret3
            rw [rdl_form h7 (.inr HF.out)] at hd
            exact ⟨by rw [← hd.out]; rfl, rfl⟩
          | true =>
            have HF : Hid (fitS (s[k].toNat : Int) (64 - 7 * (k : Int)) = true) := hf
            clear hf
            go_wp2_with (go_at_call 78; refine (fitS_at _ _ _ (by omega) (by omega) (by omega) (by omega) HF _).mono ?_; rintro e w' ⟨rfl, rfl⟩)
            go_ret3
            have e := hd.out
            rw [rdl_last (fun _ => HF.out) h128] at e
            rw [← e]
            exact ⟨ret_3 (by rw [or_shift n k s[k].toNat hn0 hn1 (by omega), Int.emod_eq_of_lt (by omega) h128]) rfl rfl, rfl⟩
      · by_cases h128 : (s[k].toNat : Int) < 128
        · go_wp2
          go_ret3
          have e := hd.out
          rw [rdl_last (fun h => by omega) h128] at e
          rw [← e]
          exact ⟨ret_3 (by rw [or_shift n k s[k].toNat hn0 hn1 (by omega), Int.emod_eq_of_lt (by omega) h128]) rfl rfl, rfl⟩
        · have hm := mod_more n k s[k].toNat hn0 hn1 (by omega)
          have HE : Hid (bits BinOp.or IntKind.u64 n (IntKind.u64.wrap ((s[k].toNat : Int) % 128 * 2 ^ (7 * k))) = n + (s[k].toNat : Int) % 128 * 128 ^ k) := by
            unfold Hid; rw [or_shift n k s[k].toNat hn0 hn1 (by omega)]; exact hm.1
          have HM : Hid _ := hm.2
          clear hm
          go_wp2
          go_round
          case rel =>
            refine ⟨k + 1, _, by go_num, rfl, by omega, by omega, ?_⟩
            rw [HE.out]
            refine ⟨HM.out.1, HM.out.2, ?_⟩
            have e := hd.out
            rw [rdl_more h7 h128] at e
            unfold Hid
            rw [show (s[k].toNat : Int) % 128 = (s[k].toNat : Int) - 128 from by omega]
            exact e
          case measure => simp [intOf]; omega
    · go_wp2
      go_ret3
      have := H.out
      rw [List.drop_eq_nil_of_le (by rw [nums_length]; omega)] at this
      exact ⟨by rw [← this]; rfl, rfl⟩

end Go.Proofs.Ytfmmefmpjejioaa
namespace Go.Proofs.Ytfmmefmpjejioaa
open Go.RowKit

/-- What ReadU answers. -/
def rU (B : Int) (l : List Int) : Int × Int × Int := if B = 32 ∨ B = 64 then rdl fitU B l 0 0 else (0, 0, 1)
/-- What ReadS answers. -/
def rS (B : Int) (l : List Int) : Int × Int × Int :=
  if B = 32 ∨ B = 64 then
    if (rdl fitS B l 0 0).2.2 = 0 then ((rdl fitS B l 0 0).1 - (if 64 ≤ l.getD ((rdl fitS B l 0 0).2.1 - 1).toNat 0 then 128 ^ (rdl fitS B l 0 0).2.1.toNat else 0), (rdl fitS B l 0 0).2.1, 0)
    else (0, 0, (rdl fitS B l 0 0).2.2)
  else (0, 0, 1)

/-- What a reading comes to: it ends too early, has no form, or is a number. -/
theorem rdl_all (fit : Int → Int → Bool) (B : Int) (hB : B = 32 ∨ B = 64) (l : List Int) (hl : ∀ b ∈ l, 0 ≤ b ∧ b < 256) :
    rdl fit B l 0 0 = (0, 0, 3) ∨ rdl fit B l 0 0 = (0, 0, 4) ∨
    ∃ f b t, l = f ++ b :: t ∧ (∀ x ∈ f, 128 ≤ x ∧ x < 256) ∧ 0 ≤ b ∧ b < 128 ∧ 7 * (f.length : Int) < B ∧ (B ≤ 7 * (f.length : Int) + 7 → fit b (B - 7 * (f.length : Int)) = true) ∧ rdl fit B l 0 0 = (val (f ++ [b]), (f.length : Int) + 1, 0) := by
  obtain ⟨m, hm1, hm2, hm3⟩ : ∃ m : Nat, 7 * (m : Int) < B ∧ B ≤ 7 * (m : Int) + 7 ∧ m ≤ 9 := by
    rcases hB with rfl | rfl
    · exact ⟨4, by omega, by omega, by omega⟩
    · exact ⟨9, by omega, by omega, by omega⟩
  obtain ⟨f, hf, hc⟩ := split_bytes l hl
  by_cases hlen : m < f.length
  · have hs : f = f.take (m + 1) ++ f.drop (m + 1) := (List.take_append_drop _ f).symm
    have h1 : ∀ b ∈ f.take (m + 1), 128 ≤ b ∧ b < 256 := fun x hx => hf x (List.mem_of_mem_take hx)
    have h2 : (f.take (m + 1)).length = m + 1 := by rw [List.length_take]; omega
    right; left
    rcases hc with rfl | ⟨b, t, rfl, _⟩
    · rw [hs]; exact rdl_long _ _ h1 m h2 hm1 hm2
    · rw [hs, List.append_assoc]; exact rdl_long _ _ h1 m h2 hm1 hm2
  · rcases hc with rfl | ⟨b, t, rfl, hb0, hb⟩
    · left; exact rdl_short _ hf (by omega)
    · by_cases hfit : B ≤ 7 * (f.length : Int) + 7 → fit b (B - 7 * (f.length : Int)) = true
      · right; right
        exact ⟨f, b, t, rfl, hf, hb0, hb, by omega, hfit, rdl_good f t b hf hb0 hb (by omega) hfit⟩
      · right; left
        have h1 : B ≤ 7 * (f.length : Int) + 7 := by
          rcases Int.lt_or_le (7 * (f.length : Int) + 7) B with h | h
          · exact absurd (fun h' => absurd h' (by omega)) hfit
          · exact h
        have h2 : fit b (B - 7 * (f.length : Int)) = false := by
          cases h : fit b (B - 7 * (f.length : Int)) with
          | true => exact absurd (fun _ => h) hfit
          | false => rfl
        exact rdl_bad f t b hf (by omega) h1 h2

theorem pow7 (k : Nat) (h : k ≤ 9) : (128 : Int) ^ k ≤ 9223372036854775808 := by
  have : (128 : Int) ^ k ≤ 128 ^ 9 := by exact_mod_cast Nat.pow_le_pow_right (by omega : 0 < 128) h
  exact this
theorem fitU_lt {b : Int} {r : Nat} (h : fitU b (r : Int) = true) : b < 2 ^ r := by
  simp only [fitU, beq_iff_eq, Int.toNat_natCast] at h
  have hp : (0 : Int) < 2 ^ r := Int.pow_pos (by omega)
  have e := Int.emod_add_mul_ediv b (2 ^ r)
  rw [h, Int.mul_zero, Int.add_zero] at e
  have := Int.emod_lt_of_pos b hp
  omega

/-- What is read without a sign is smaller than 2^B. -/
theorem goodU (B : Nat) (f : List Int) (b : Int) (hb0 : 0 ≤ b) (hb : b < 128) (h1 : 7 * f.length < B) (h2 : B ≤ 7 * f.length + 7 → fitU b ((B - 7 * f.length : Nat) : Int) = true) : val (f ++ [b]) < 2 ^ B := by
  rw [val_append]
  have hv := val_bound f
  have hb' : b % 128 = b := by omega
  simp only [val, Int.mul_zero, Int.add_zero, hb']
  have e : (128 : Int) ^ f.length = 2 ^ (7 * f.length) := by exact_mod_cast pow128 f.length
  have e2 : (2 : Int) ^ B = 2 ^ (B - 7 * f.length) * 2 ^ (7 * f.length) := by rw [← Int.pow_add]; congr 1; omega
  have hlt : b < 2 ^ (B - 7 * f.length) := by
    rcases Nat.lt_or_ge (7 * f.length + 7) B with h | h
    · have : (2 : Int) ^ 7 ≤ 2 ^ (B - 7 * f.length) := by exact_mod_cast Nat.pow_le_pow_right (by omega : 0 < 2) (by omega : 7 ≤ B - 7 * f.length)
      omega
    · exact fitU_lt (h2 h)
  rw [e] at hv ⊢
  rw [e2]
  have hp : (0 : Int) < 2 ^ (7 * f.length) := Int.pow_pos (by omega)
  have := Int.mul_le_mul_of_nonneg_right (Int.add_one_le_of_lt hlt) (Int.le_of_lt hp)
  rw [Int.add_mul] at this
  omega

theorem rU_bound (B : Int) (l : List Int) (hl : ∀ b ∈ l, 0 ≤ b ∧ b < 256) : 0 ≤ (rU B l).1 ∧ (rU B l).1 < 18446744073709551616 := by
  unfold rU
  split
  · rename_i hB
    rcases rdl_all fitU B hB l hl with h | h | ⟨f, b, t, rfl, hf, hb0, hb, h1, h2, h⟩
    · rw [h]; simp
    · rw [h]; simp
    · rw [h]
      refine ⟨(val_bound _).1, ?_⟩
      rcases hB with rfl | rfl
      · have := goodU 32 f b hb0 hb (by omega) (by intro h'; have := h2 (by omega); rwa [show ((32 - 7 * f.length : Nat) : Int) = 32 - 7 * (f.length : Int) from by omega])
        omega
      · have := goodU 64 f b hb0 hb (by omega) (by intro h'; have := h2 (by omega); rwa [show ((64 - 7 * f.length : Nat) : Int) = 64 - 7 * (f.length : Int) from by omega])
        omega
  · simp

set_option maxHeartbeats 400000 in
theorem read_bad (s : ByteArray) (B : Int) (g : Fn) (h1 : (B != 32) = true) (h2 : (B != 64) = true) (w : World) :
    Calls Try.prog 71 #[.string s, .int .i64 B, .func g #[] #[]] w fun e w' => e = .returned (.tuple #[.int .u64 0, .int .i64 0, .int .i64 1]) ∧ w' = w := by
  go_enter Try.func71, Try.ntmps71
  go_wp2
  go_ret3
  exact ⟨rfl, rfl⟩

set_option maxHeartbeats 400000 in
theorem readU_at (s : ByteArray) (B n k e : Int) (hs : s.size ≤ maxLen) (h : Hid (rU B (nums s) = (n, k, e))) (w : World) :
    Calls Try.prog 59 #[.string s, .int .i64 B] w fun e' w' => e' = .returned (.tuple #[.int .u64 n, .int .i64 k, .int .i64 e]) ∧ w' = w := by
  have hb := rU_bound B (nums s) (nums_byte s)
  have e0 := h.out
  rw [e0] at hb
  by_cases hB : B = 32 ∨ B = 64
  · rw [rU, if_pos hB] at e0
    have e1 : n % 18446744073709551616 = n := Int.emod_eq_of_lt hb.1 hb.2
    have E : Hid _ := e0
    have E1 : Hid _ := e1
    clear h hb e0 e1
    rcases hB with rfl | rfl
    · go_enter Try.func59, Try.ntmps59
      go_wp2_with (go_at_call 71; refine (readU32 s hs _).mono ?_; rw [E.out]; rintro e' w' ⟨rfl, rfl⟩)
      go_ret3
      exact ⟨ret_3 E1.out rfl rfl, rfl⟩
    · go_enter Try.func59, Try.ntmps59
      go_wp2_with (go_at_call 71; refine (readU64 s hs _).mono ?_; rw [E.out]; rintro e' w' ⟨rfl, rfl⟩)
      go_ret3
      exact ⟨ret_3 E1.out rfl rfl, rfl⟩
  · rw [rU, if_neg hB] at e0
    have h1 : (B != 32) = true := by rw [bne_iff_ne]; intro h'; exact hB (.inl h')
    have h2 : (B != 64) = true := by rw [bne_iff_ne]; intro h'; exact hB (.inr h')
    injection e0 with e1 e2
    injection e2 with e2 e3
    subst e1 e2 e3
    clear h hb hB
    go_enter Try.func59, Try.ntmps59
    go_wp2_with (go_at_call 71; refine (read_bad s B _ h1 h2 _).mono ?_; rintro e' w' ⟨rfl, rfl⟩)
    go_ret3
    exact ⟨rfl, rfl⟩

theorem and64_u8 (m : Nat) (h : m < 128) : bits .and .u8 (m : Int) 64 = if 64 ≤ m then 64 else 0 := by
  have := u8_and_nat m 64 (by omega) (by omega)
  have e : ∀ m : Fin 128, (m.val &&& 64) = if 64 ≤ m.val then 64 else 0 := by decide
  rw [show ((64 : Nat) : Int) = 64 from rfl, e ⟨m, h⟩] at this
  rw [this]
  split <;> rfl

theorem nums_get (s : ByteArray) (k : Nat) (h : k < s.size) : (nums s).getD k 0 = (s[k].toNat : Int) := by
  have hl : k < (nums s).length := by rw [nums_length]; exact h
  rw [List.getD_eq_getElem?_getD, List.getElem?_eq_getElem hl, Option.getD_some]
  simp only [nums, List.getElem_map]
  rfl

/-- All bits from number 7 (k + 1) on. -/
def hiBits (k : Nat) : Int := if k = 9 then 0 else 18446744073709551616 - 128 ^ (k + 1)
theorem shl_ones (k : Nat) (hk : k ≤ 9) : Op.shift BinOp.shl IntKind.u64 18446744073709551615 IntKind.i64 (7 * ((k : Int) + 1)) = pure (.int .u64 (hiBits k)) := by
  rw [shift_shl_any _ _ _ _ (by omega)]
  congr 2
  have e : (7 * ((k : Int) + 1)).toNat = 7 * (k + 1) := by omega
  rw [e, show IntKind.u64.bits = 64 from rfl]
  have hw : ∀ x : Int, IntKind.u64.wrap x = x % 18446744073709551616 := by intro x; simp [IntKind.wrap, IntKind.bits, IntKind.signed]
  rw [hw]
  have hc : k = 0 ∨ k = 1 ∨ k = 2 ∨ k = 3 ∨ k = 4 ∨ k = 5 ∨ k = 6 ∨ k = 7 ∨ k = 8 ∨ k = 9 := by omega
  rcases hc with rfl | rfl | rfl | rfl | rfl | rfl | rfl | rfl | rfl | rfl <;> simp [hiBits]
theorem or_hi (N : Int) (k : Nat) (hk : k ≤ 8) (h0 : 0 ≤ N) (h1 : N < 128 ^ (k + 1)) : bits .or .u64 N (hiBits k) = N + (18446744073709551616 - 128 ^ (k + 1)) := by
  obtain ⟨M, rfl⟩ : ∃ M : Nat, N = M := ⟨N.toNat, by omega⟩
  have hM : M < 2 ^ (7 * (k + 1)) := by rw [← pow128]; exact_mod_cast h1
  have e0 : (18446744073709551616 : Nat) = 2 ^ (7 * (k + 1)) * 2 ^ (64 - 7 * (k + 1)) := by
    rw [← Nat.pow_add, show 7 * (k + 1) + (64 - 7 * (k + 1)) = 64 from by omega]
  have e1 : (18446744073709551616 - 128 ^ (k + 1) : Int) = ((2 ^ (7 * (k + 1)) * (2 ^ (64 - 7 * (k + 1)) - 1) : Nat) : Int) := by
    rw [Nat.mul_sub, ← e0, Nat.mul_one, ← pow128]
    have : (128 : Nat) ^ (k + 1) ≤ 128 ^ 9 := Nat.pow_le_pow_right (by omega) (by omega)
    have h9 : (128 : Nat) ^ 9 = 9223372036854775808 := by decide
    rw [Int.ofNat_sub (by omega), Int.natCast_pow]
    rfl
  have hlt : 2 ^ (7 * (k + 1)) * (2 ^ (64 - 7 * (k + 1)) - 1) < 18446744073709551616 := by
    have hp := Nat.two_pow_pos (7 * (k + 1))
    rw [Nat.mul_sub, ← e0]; omega
  have h9 : 2 ^ (7 * (k + 1)) ≤ 18446744073709551616 := by
    have : (2 : Nat) ^ (7 * (k + 1)) ≤ 2 ^ 64 := Nat.pow_le_pow_right (by omega) (by omega)
    exact this
  rw [hiBits, if_neg (by omega), e1, u64_or_nat M _ (by omega) hlt, Nat.or_comm, ← Nat.two_pow_add_eq_or_of_lt hM, Int.natCast_add, Int.add_comm]
theorem wrap64_val (x : Int) : wrap64 x = (x + 9223372036854775808) % 18446744073709551616 - 9223372036854775808 := by unfold wrap64; rfl

theorem val_last (f : List Int) (b : Int) (h0 : 0 ≤ b) (h1 : b < 128) : val (f ++ [b]) = val f + b * 128 ^ f.length := by
  rw [val_append]
  have : b % 128 = b := by omega
  simp [val, this]
theorem S_neg (f : List Int) (b : Int) (h0 : 64 ≤ b) (h1 : b < 128) (hk : f.length ≤ 9) (h9 : f.length = 9 → b = 127) :
    wrap64 (bits .or .u64 (val (f ++ [b]) % 18446744073709551616) (hiBits f.length)) = val (f ++ [b]) - 128 ^ (f.length + 1) := by
  have hv := val_bound (f ++ [b])
  rw [List.length_append, List.length_singleton] at hv
  by_cases h8 : f.length ≤ 8
  · have hp := pow7 (f.length + 1) (by omega)
    have hp0 : (0 : Int) < 128 ^ (f.length + 1) := Int.pow_pos (by omega)
    rw [Int.emod_eq_of_lt hv.1 (by omega), or_hi _ _ h8 hv.1 hv.2, wrap64_val]
    omega
  · have e9 : f.length = 9 := by omega
    have hb := h9 e9
    subst hb
    have hv2 := val_bound f
    rw [val_last f 127 (by omega) (by omega), e9] at *
    have e1 : hiBits 9 = ((0 : Nat) : Int) := rfl
    obtain ⟨M, hM⟩ : ∃ M : Nat, val f = M := ⟨(val f).toNat, by omega⟩
    rw [hM] at hv2 ⊢
    have e2 : ((M : Int) + 127 * 128 ^ 9) % 18446744073709551616 = ((M + 9223372036854775808 : Nat) : Int) := by omega
    rw [e1, e2, u64_or_nat _ 0 (by omega) (by omega), Nat.or_zero, wrap64_val]
    omega
theorem S_pos (f : List Int) (b : Int) (h0 : 0 ≤ b) (h1 : b < 64) (hk : f.length ≤ 9) (h9 : f.length = 9 → b = 0) :
    wrap64 (val (f ++ [b]) % 18446744073709551616) = val (f ++ [b]) := by
  have hv := val_bound f
  rw [val_last f b h0 (by omega)]
  have hp0 : (0 : Int) < 128 ^ f.length := Int.pow_pos (by omega)
  by_cases h8 : f.length ≤ 8
  · have hp := pow7 (f.length + 1) (by omega)
    rw [Int.pow_succ] at hp
    have h2 : b * 128 ^ f.length ≤ 63 * 128 ^ f.length := Int.mul_le_mul_of_nonneg_right (by omega) (by omega)
    have h3 : 0 ≤ b * 128 ^ f.length := Int.mul_nonneg h0 (by omega)
    rw [wrap64_val]
    omega
  · have e9 : f.length = 9 := by omega
    have hb := h9 e9
    subst hb
    rw [e9] at hv ⊢
    rw [wrap64_val]
    omega

theorem fitS_one (b : Int) (h : fitS b 1 = true) : b = 0 ∨ b = 127 := by
  simp [fitS] at h
  exact h

set_option maxHeartbeats 400000 in
set_option maxRecDepth 100000 in
theorem readS_good32 (s : ByteArray) (k : Nat) (N r : Int) (hs : s.size ≤ maxLen) (hk : k ≤ 9) (hks : k < s.size) (hb : s[k].toNat < 128) (hR : Hid (rdl fitS 32 (nums s) 0 0 = (N, (k : Int) + 1, 0)))
    (hneg : Hid (64 ≤ s[k].toNat → wrap64 (bits .or .u64 (N % 18446744073709551616) (hiBits k)) = r)) (hpos : Hid (¬ 64 ≤ s[k].toNat → wrap64 (N % 18446744073709551616) = r)) (w : World) :
    Calls Try.prog 70 #[.string s, .int .i64 32] w fun e' w' => e' = .returned (.tuple #[.int .i64 r, .int .i64 (k + 1), .int .i64 0]) ∧ w' = w := by
  have hand := and64_u8 s[k].toNat hb
  by_cases h64 : 64 ≤ s[k].toNat
  · rw [if_pos h64] at hand
    have hsh := shl_ones k hk
    go_enter Try.func70, Try.ntmps70
    go_wp2_with (go_at_call 71; refine (readS32 s hs _).mono ?_; rw [hR.out]; rintro e' w' ⟨rfl, rfl⟩)
    go_ret3
    exact ⟨ret_3 (hneg.out h64) rfl rfl, rfl⟩
  · rw [if_neg h64] at hand
    go_enter Try.func70, Try.ntmps70
    go_wp2_with (go_at_call 71; refine (readS32 s hs _).mono ?_; rw [hR.out]; rintro e' w' ⟨rfl, rfl⟩)
    go_ret3
    exact ⟨ret_3 (hpos.out h64) rfl rfl, rfl⟩
set_option maxHeartbeats 400000 in
theorem readS_err32 (s : ByteArray) (e : Int) (he : (e != 0) = true) (hs : s.size ≤ maxLen) (hR : Hid (rdl fitS 32 (nums s) 0 0 = (0, 0, e))) (w : World) :
    Calls Try.prog 70 #[.string s, .int .i64 32] w fun e' w' => e' = .returned (.tuple #[.int .i64 0, .int .i64 0, .int .i64 e]) ∧ w' = w := by
  go_enter Try.func70, Try.ntmps70
  go_wp2_with (go_at_call 71; refine (readS32 s hs _).mono ?_; rw [hR.out]; rintro e' w' ⟨rfl, rfl⟩)
  go_ret3
  exact ⟨rfl, rfl⟩

set_option maxHeartbeats 400000 in
set_option maxRecDepth 100000 in
theorem readS_good64 (s : ByteArray) (k : Nat) (N r : Int) (hs : s.size ≤ maxLen) (hk : k ≤ 9) (hks : k < s.size) (hb : s[k].toNat < 128) (hR : Hid (rdl fitS 64 (nums s) 0 0 = (N, (k : Int) + 1, 0)))
    (hneg : Hid (64 ≤ s[k].toNat → wrap64 (bits .or .u64 (N % 18446744073709551616) (hiBits k)) = r)) (hpos : Hid (¬ 64 ≤ s[k].toNat → wrap64 (N % 18446744073709551616) = r)) (w : World) :
    Calls Try.prog 70 #[.string s, .int .i64 64] w fun e' w' => e' = .returned (.tuple #[.int .i64 r, .int .i64 (k + 1), .int .i64 0]) ∧ w' = w := by
  have hand := and64_u8 s[k].toNat hb
  by_cases h64 : 64 ≤ s[k].toNat
  · rw [if_pos h64] at hand
    have hsh := shl_ones k hk
    go_enter Try.func70, Try.ntmps70
    go_wp2_with (go_at_call 71; refine (readS64 s hs _).mono ?_; rw [hR.out]; rintro e' w' ⟨rfl, rfl⟩)
    go_ret3
    exact ⟨ret_3 (hneg.out h64) rfl rfl, rfl⟩
  · rw [if_neg h64] at hand
    go_enter Try.func70, Try.ntmps70
    go_wp2_with (go_at_call 71; refine (readS64 s hs _).mono ?_; rw [hR.out]; rintro e' w' ⟨rfl, rfl⟩)
    go_ret3
    exact ⟨ret_3 (hpos.out h64) rfl rfl, rfl⟩
set_option maxHeartbeats 400000 in
theorem readS_err64 (s : ByteArray) (e : Int) (he : (e != 0) = true) (hs : s.size ≤ maxLen) (hR : Hid (rdl fitS 64 (nums s) 0 0 = (0, 0, e))) (w : World) :
    Calls Try.prog 70 #[.string s, .int .i64 64] w fun e' w' => e' = .returned (.tuple #[.int .i64 0, .int .i64 0, .int .i64 e]) ∧ w' = w := by
  go_enter Try.func70, Try.ntmps70
  go_wp2_with (go_at_call 71; refine (readS64 s hs _).mono ?_; rw [hR.out]; rintro e' w' ⟨rfl, rfl⟩)
  go_ret3
  exact ⟨rfl, rfl⟩

set_option maxHeartbeats 400000 in
theorem readS_bad (s : ByteArray) (B : Int) (h1 : (B != 32) = true) (h2 : (B != 64) = true) (w : World) :
    Calls Try.prog 70 #[.string s, .int .i64 B] w fun e' w' => e' = .returned (.tuple #[.int .i64 0, .int .i64 0, .int .i64 1]) ∧ w' = w := by
  go_enter Try.func70, Try.ntmps70
  go_wp2_with (go_at_call 71; refine (read_bad s B _ h1 h2 _).mono ?_; rintro e' w' ⟨rfl, rfl⟩)
  go_ret3
  exact ⟨rfl, rfl⟩

theorem readS_all32 (s : ByteArray) (n k e : Int) (hs : s.size ≤ maxLen) (h : rS 32 (nums s) = (n, k, e)) (w : World) :
    Calls Try.prog 70 #[.string s, .int .i64 32] w fun e' w' => e' = .returned (.tuple #[.int .i64 n, .int .i64 k, .int .i64 e]) ∧ w' = w := by
  rw [rS, if_pos (by simp)] at h
  rcases rdl_all fitS 32 (by simp) (nums s) (nums_byte s) with hR | hR | ⟨f, b, t, hl, hf, hb0, hb, h1, h2, hR⟩
  · rw [hR] at h
    simp at h
    obtain ⟨rfl, rfl, rfl⟩ := h
    exact readS_err32 s 3 rfl hs hR w
  · rw [hR] at h
    simp at h
    obtain ⟨rfl, rfl, rfl⟩ := h
    exact readS_err32 s 4 rfl hs hR w
  · have hsz : f.length < s.size := by rw [← nums_length, hl, List.length_append, List.length_cons]; omega
    have hg : (s[f.length].toNat : Int) = b := by
      rw [← nums_get s f.length hsz, hl]
      simp
    have hlen9 : f.length ≤ 9 := by omega
    have h9 : f.length = 9 → b = 0 ∨ b = 127 := by
      intro e9
      omega
    rw [hR] at h
    have e0 : ((f.length : Int) + 1 - 1).toNat = f.length := by omega
    have e1 : ((f.length : Int) + 1).toNat = f.length + 1 := by omega
    have e2 : (nums s).getD f.length 0 = b := by rw [nums_get s f.length hsz]; exact hg
    simp only [e0, e1, e2, if_true] at h
    injection h with ha h
    injection h with hb' hc
    subst hb' hc
    refine readS_good32 s f.length (val (f ++ [b])) n hs hlen9 hsz (by omega) hR ?_ ?_ w
    · intro h64
      rw [← ha, if_pos (by omega)]
      exact S_neg f b (by omega) hb hlen9 (fun e9 => by have := h9 e9; omega)
    · intro h64
      rw [← ha, if_neg (by omega), Int.sub_zero]
      exact S_pos f b hb0 (by omega) hlen9 (fun e9 => by have := h9 e9; omega)

theorem readS_all64 (s : ByteArray) (n k e : Int) (hs : s.size ≤ maxLen) (h : rS 64 (nums s) = (n, k, e)) (w : World) :
    Calls Try.prog 70 #[.string s, .int .i64 64] w fun e' w' => e' = .returned (.tuple #[.int .i64 n, .int .i64 k, .int .i64 e]) ∧ w' = w := by
  rw [rS, if_pos (by simp)] at h
  rcases rdl_all fitS 64 (by simp) (nums s) (nums_byte s) with hR | hR | ⟨f, b, t, hl, hf, hb0, hb, h1, h2, hR⟩
  · rw [hR] at h
    simp at h
    obtain ⟨rfl, rfl, rfl⟩ := h
    exact readS_err64 s 3 rfl hs hR w
  · rw [hR] at h
    simp at h
    obtain ⟨rfl, rfl, rfl⟩ := h
    exact readS_err64 s 4 rfl hs hR w
  · have hsz : f.length < s.size := by rw [← nums_length, hl, List.length_append, List.length_cons]; omega
    have hg : (s[f.length].toNat : Int) = b := by
      rw [← nums_get s f.length hsz, hl]
      simp
    have hlen9 : f.length ≤ 9 := by omega
    have h9 : f.length = 9 → b = 0 ∨ b = 127 := by
      intro e9
      have := h2 (by omega)
      rw [e9] at this
      exact fitS_one b this
    rw [hR] at h
    have e0 : ((f.length : Int) + 1 - 1).toNat = f.length := by omega
    have e1 : ((f.length : Int) + 1).toNat = f.length + 1 := by omega
    have e2 : (nums s).getD f.length 0 = b := by rw [nums_get s f.length hsz]; exact hg
    simp only [e0, e1, e2, if_true] at h
    injection h with ha h
    injection h with hb' hc
    subst hb' hc
    refine readS_good64 s f.length (val (f ++ [b])) n hs hlen9 hsz (by omega) hR ?_ ?_ w
    · intro h64
      rw [← ha, if_pos (by omega)]
      exact S_neg f b (by omega) hb hlen9 (fun e9 => by have := h9 e9; omega)
    · intro h64
      rw [← ha, if_neg (by omega), Int.sub_zero]
      exact S_pos f b hb0 (by omega) hlen9 (fun e9 => by have := h9 e9; omega)

theorem readS_at (s : ByteArray) (B n k e : Int) (hs : s.size ≤ maxLen) (h : Hid (rS B (nums s) = (n, k, e))) (w : World) :
    Calls Try.prog 70 #[.string s, .int .i64 B] w fun e' w' => e' = .returned (.tuple #[.int .i64 n, .int .i64 k, .int .i64 e]) ∧ w' = w := by
  by_cases hB : B = 32 ∨ B = 64
  · rcases hB with rfl | rfl
    · exact readS_all32 s n k e hs h.out w
    · exact readS_all64 s n k e hs h.out w
  · have h' := h.out
    rw [rS, if_neg hB] at h'
    injection h' with ha h'
    injection h' with hb hc
    subst ha hb hc
    exact readS_bad s B (by rw [bne_iff_ne]; intro h'; exact hB (.inl h')) (by rw [bne_iff_ne]; intro h'; exact hB (.inr h')) w

end Go.Proofs.Ytfmmefmpjejioaa
namespace Go.Proofs.Ytfmmefmpjejioaa

theorem nums_str {xs : List Int} (h : ∀ b ∈ xs, 0 ≤ b ∧ b < 256) : nums (strOfNums xs) = xs := by
  rw [nums, strOfNums_data, List.map_map]
  conv => rhs; rw [← List.map_id xs]
  apply List.map_congr_left
  intro b hb
  have := h b hb
  simp only [Function.comp_apply, UInt8.toNat_ofNat', id_eq]
  omega
theorem nums_extract (s : ByteArray) (a b : Nat) : nums (s.extract a b) = ((nums s).drop a).take (b - a) := by
  rw [nums, Lib.extract_data, nums, List.map_take, List.map_drop]
theorem nums_append (s t : ByteArray) : nums (s ++ t) = nums s ++ nums t := by
  have : (s ++ t).data.toList = s.data.toList ++ t.data.toList := by
    rw [ByteArray.data_append]; simp
  rw [nums, this, List.map_append]; rfl
theorem str_empty {xs : List Int} (h : 1 ≤ xs.length) : (strOfNums xs).toList.isEmpty = false := by
  cases xs with
  | nil => simp at h
  | cons x xs =>
    have e : (strOfNums (x :: xs)).toList = (x :: xs).map fun n => UInt8.ofNat n.toNat := by
      rw [← strOfNums_data, Lib.toList_data]
    rw [e]; rfl

/-- A beginning of what is written says that more follows, all the way. -/
theorem uB_take (n r : Nat) (h : r < (uB n).length) : ∀ b ∈ (uB n).take r, 128 ≤ b ∧ b < 256 := by
  obtain ⟨f, b, h1, h2, _⟩ := uB_split n
  rw [h1, List.length_append, List.length_singleton] at h
  rw [h1, List.take_append_of_le_length (by omega)]
  exact fun x hx => h2 x (List.mem_of_mem_take hx)
theorem sB_take (n : Int) (r : Nat) (h : r < (sB n).length) : ∀ b ∈ (sB n).take r, 128 ≤ b ∧ b < 256 := by
  obtain ⟨f, b, h1, h2, _⟩ := sB_split _ n (Nat.lt_succ_self _)
  rw [h1, List.length_append, List.length_singleton] at h
  rw [h1, List.take_append_of_le_length (by omega)]
  exact fun x hx => h2 x (List.mem_of_mem_take hx)

end Go.Proofs.Ytfmmefmpjejioaa
namespace Go.Proofs.Ytfmmefmpjejioaa
open Go.RowKit

theorem resU (B : Int) (hB : B = 32 ∨ B = 64) (l : List Int) (hl : ∀ b ∈ l, 0 ≤ b ∧ b < 256) :
    (∃ e : Int, (e != 0) = true ∧ rU B l = (0, 0, e)) ∨ ∃ m k : Nat, m ≤ 18446744073709551615 ∧ (uB m).length ≤ k ∧ k ≤ l.length ∧ rU B l = ((m : Int), (k : Int), 0) := by
  have hb := rU_bound B l hl
  have hu : rU B l = rdl fitU B l 0 0 := by rw [rU, if_pos hB]
  rcases rdl_all fitU B hB l hl with h | h | ⟨f, b, t, e, hf, hb0, hb1, h1, h2, h⟩
  · left; exact ⟨3, rfl, by rw [hu, h]⟩
  · left; exact ⟨4, rfl, by rw [hu, h]⟩
  · right
    rw [hu, h] at hb
    have hv := val_bound (f ++ [b])
    rw [List.length_append, List.length_singleton] at hv
    refine ⟨(val (f ++ [b])).toNat, f.length + 1, by omega, uB_len _ _ ?_, ?_, ?_⟩
    · have : ((val (f ++ [b])).toNat : Int) < (128 ^ (f.length + 1) : Nat) := by
        rw [Int.toNat_of_nonneg hv.1, Int.natCast_pow]; exact hv.2
      omega
    · rw [e, List.length_append, List.length_cons]; omega
    · rw [hu, h, Int.toNat_of_nonneg hv.1]; rfl

theorem resS (B : Int) (hB : B = 32 ∨ B = 64) (l : List Int) (hl : ∀ b ∈ l, 0 ≤ b ∧ b < 256) :
    (∃ e : Int, (e != 0) = true ∧ rS B l = (0, 0, e)) ∨ ∃ n : Int, ∃ k : Nat, -9223372036854775808 ≤ n ∧ n ≤ 9223372036854775807 ∧ (sB n).length ≤ k ∧ k ≤ l.length ∧ rS B l = (n, (k : Int), 0) := by
  rcases rdl_all fitS B hB l hl with h | h | ⟨f, b, t, e, hf, hb0, hb1, h1, h2, h⟩
  · left; exact ⟨3, rfl, by rw [rS, if_pos hB, h]; simp⟩
  · left; exact ⟨4, rfl, by rw [rS, if_pos hB, h]; simp⟩
  · right
    have hv := val_bound f
    have hl9 : f.length ≤ 9 := by omega
    have e2 : l.getD f.length 0 = b := by rw [e]; simp
    have e0 : ((f.length : Int) + 1 - 1).toNat = f.length := by omega
    have e1 : ((f.length : Int) + 1).toNat = f.length + 1 := by omega
    have hp : (0 : Int) < 128 ^ f.length := Int.pow_pos (by omega)
    have hr : rS B l = (val (f ++ [b]) - (if 64 ≤ b then 128 ^ (f.length + 1) else 0), (f.length : Int) + 1, 0) := by
      rw [rS, if_pos hB, h]
      simp only [e0, e1, e2, if_true]
    have hn : -(64 * 128 ^ f.length) ≤ val (f ++ [b]) - (if 64 ≤ b then 128 ^ (f.length + 1) else 0) ∧ val (f ++ [b]) - (if 64 ≤ b then 128 ^ (f.length + 1) else 0) < 64 * 128 ^ f.length := by
      rw [val_last f b hb0 hb1, Int.pow_succ]
      split
      · have a1 : 64 * 128 ^ f.length ≤ b * 128 ^ f.length := Int.mul_le_mul_of_nonneg_right (by omega) (by omega)
        have a2 : b * 128 ^ f.length ≤ 127 * 128 ^ f.length := Int.mul_le_mul_of_nonneg_right (by omega) (by omega)
        omega
      · have a1 : 0 ≤ b * 128 ^ f.length := Int.mul_nonneg hb0 (by omega)
        have a2 : b * 128 ^ f.length ≤ 63 * 128 ^ f.length := Int.mul_le_mul_of_nonneg_right (by omega) (by omega)
        omega
    have hbd : -9223372036854775808 ≤ val (f ++ [b]) - (if 64 ≤ b then 128 ^ (f.length + 1) else 0) ∧ val (f ++ [b]) - (if 64 ≤ b then 128 ^ (f.length + 1) else 0) ≤ 9223372036854775807 := by
      by_cases h8 : f.length ≤ 8
      · have := pow7 (f.length + 1) (by omega)
        rw [Int.pow_succ] at this
        omega
      · have e9 : f.length = 9 := by omega
        have hB64 : B = 64 := by omega
        have hf9 := h2 (by omega)
        rw [hB64, e9] at hf9
        have := fitS_one b hf9
        rw [e9] at hv
        rw [val_last f b hb0 hb1, e9]
        rcases this with rfl | rfl
        · simp; omega
        · simp; omega
    refine ⟨_, f.length + 1, hbd.1, hbd.2, sB_len _ _ hn.1 hn.2, ?_, hr⟩
    rw [e, List.length_append, List.length_cons]; omega

end Go.Proofs.Ytfmmefmpjejioaa
namespace Go.Proofs.Ytfmmefmpjejioaa
open Go.RowKit

theorem Try.info5 : (Try.prog.info? 5).map (fun i => (i.zero, i.size, i.bytes)) = some (some (.int .u8 0), 1, 1) := by kernel_rfl

set_option maxHeartbeats 400000 in
theorem fitsU_yes (n : Int) (w : World) (h : n < 128) :
    Calls Try.prog 77 #[.int .u64 n] w fun e w' => e = .returned (.bool true) ∧ w' = w := by
  go_enter Try.func77, Try.ntmps77
  go_wp2
  go_ret
  exact ⟨by simp, rfl⟩
set_option maxHeartbeats 400000 in
theorem fitsU_no (n : Int) (w : World) (h : ¬ n < 128) :
    Calls Try.prog 77 #[.int .u64 n] w fun e w' => e = .returned (.bool false) ∧ w' = w := by
  go_enter Try.func77, Try.ntmps77
  go_wp2
  go_ret
  exact ⟨by simp, rfl⟩

theorem own_string {w : World} {base n : Nat} {v : Value} {ns : List Int} (h : w.ownsRow base 5 1 v (n + 1) (ns.map (Value.int .u8))) :
    ∃ g cap, v = .slice (some ⟨g, 0, none⟩) (n + 1) cap ∧ (convert 61 9 (.slice (some ⟨g, 0, none⟩) (n + 1) cap)).run Try.prog w = .ok (.string (strOfNums ns)) w := by
  have hc := fun g hg => World.ownsRow.cells h (g := g) hg
  obtain ⟨hl, h2⟩ := h
  rcases h2 with ⟨_, h0⟩ | ⟨g, cap, cur, rfl, hb, hg, hle, hcap, hcs, htk⟩
  · omega
  · refine ⟨g, cap, rfl, ?_⟩
    refine run_convert_bytes_arg w 61 5 Try.underlying61 Try.underlying5 g 0 (n + 1) cap ns (by simpa using hl) ?_ 9 Try.underlying9
    intro i hi
    have hil : i < ns.length := by simp at hl; omega
    have := hc g rfl i (.int .u8 (ns.getD i 0)) (by simp [List.getElem?_eq_getElem hil])
    have hadd : (⟨g, 0, none⟩ : Addr).add i = ⟨g, 0 + i, none⟩ := by unfold Addr.add; split <;> simp_all
    rw [hadd] at this
    exact this

set_option maxHeartbeats 400000 in
set_option maxRecDepth 1000000 in
theorem writeU_any (n : Nat) (hn : n ≤ 18446744073709551615) (w : World) :
    Calls Try.prog 76 #[.int .u64 n, .func (.func 77) #[] #[]] w fun e w' => e = .returned (.string (strOfNums (uB n))) ∧ Below w.heap.size w w' := by
  obtain ⟨i0, hi, hz0, hz1, hz2⟩ := info_parts Try.info5
  go_enter Try.func76, Try.ntmps76
  go_wp2
  go_loopw [0, 5] (fun t v wr => ∃ m : Nat, ∃ pre : List Int, t = .int .u64 m ∧ m ≤ 18446744073709551615 ∧ pre.length + (uB m).length ≤ 10 ∧ Hid (pre ++ uB m = uB n) ∧
      wr.ownsRow w.heap.size 5 1 v pre.length (pre.map (Value.int .u8)) ∧ Below w.heap.size w wr) (fun t _ _ => (intOf t).toNat)
  case atStart => exact ⟨n, [], rfl, hn, by simpa using uB_len64 n hn, by unfold Hid; simp, World.ownsRow_nil _ _ _ _, Below.refl _ _⟩
  case round =>
    obtain ⟨m, pre, rfl, hm, hlen, hpre, hown, hnx⟩ := hrel
    have hp := uB_pos m
    have hand := and127_u64 m hm
    have hor : bits BinOp.or IntKind.u8 ((m : Int) % 128) 128 = (m : Int) % 128 + 128 := u8_or128_right _ (by omega) (by omega)
    have hsz := hnx.size
    by_cases hlt : m < 128
    · go_wp2_with (first | (go_at_call 77; refine (fitsU_yes _ _ (by omega)).mono ?_; rintro e w' ⟨rfl, rfl⟩) | (at_builtin; refine wpList_append_own _ rfl _ _ 61 rfl w.heap.size 5 i0 (.int .u8 0) 1 1 Try.underlying61 hi hz0 hz1 hz2 rfl (by decide) _ _ _ rfl (hown.alloc _) ⟨_, 0, none⟩ 1 1 [.int .u8 ((m : Int) % 128)] rfl rfl ?c1 ?c2 ?c3 ?c4 ?c5 ?_))
      case c1 => exact cell_one_new _ _ _
      case c2 => intro u hu; simp at hu; subst hu; rfl
      case c3 => unfold maxLen; omega
      case c4 => omega
      case c5 => simp; omega
      · intro v' w1 hown' hgrow _
        have hown2 : w1.ownsRow w.heap.size 5 1 v' (pre.length + 1) ((pre ++ [(m : Int) % 128]).map (Value.int .u8)) := by simpa using hown'
        obtain ⟨g, cap, rfl, hconv⟩ := own_string hown2
        have hb : Below w.heap.size w w1 := (hnx.alloc (by omega) _).grown hgrow (by simp; omega) (fun k hk => (hown.lt k hk).1)
        have hfin : Hid (pre ++ [(m : Int) % 128] = uB n) := by unfold Hid; rw [← hpre.out, uB_lo hlt]; congr 2; omega
        clear hown' hown2 hgrow hown hnx hpre hand hor
        go_wp2
        go_ret
        exact ⟨by rw [hfin.out]; rfl, hb⟩
    · go_wp2_with (first | (go_at_call 77; refine (fitsU_no _ _ (by omega)).mono ?_; rintro e w' ⟨rfl, rfl⟩) | (at_builtin; refine wpList_append_own _ rfl _ _ 61 rfl w.heap.size 5 i0 (.int .u8 0) 1 1 Try.underlying61 hi hz0 hz1 hz2 rfl (by decide) _ _ _ rfl (hown.alloc _) ⟨_, 0, none⟩ 1 1 [.int .u8 ((m : Int) % 128 + 128)] rfl rfl ?c1 ?c2 ?c3 ?c4 ?c5 ?_))
      case c1 => exact cell_one_new _ _ _
      case c2 => intro u hu; simp at hu; subst hu; rfl
      case c3 => unfold maxLen; omega
      case c4 => omega
      case c5 => simp; omega
      · intro v' w1 hown' hgrow _
        have hown2 : w1.ownsRow w.heap.size 5 1 v' (pre ++ [(m : Int) % 128 + 128]).length ((pre ++ [(m : Int) % 128 + 128]).map (Value.int .u8)) := by simpa using hown'
        have hb : Below w.heap.size w w1 := (hnx.alloc (by omega) _).grown hgrow (by simp; omega) (fun k hk => (hown.lt k hk).1)
        have hfin : Hid (pre ++ [(m : Int) % 128 + 128] ++ uB (m / 128) = uB n) := by unfold Hid; rw [← hpre.out, uB_hi hlt]; simp
        have hl2 : (uB m).length = (uB (m / 128)).length + 1 := by rw [uB_hi hlt]; simp
        have hl3 : (pre ++ [(m : Int) % 128 + 128]).length + (uB (m / 128)).length ≤ 10 := by simp; omega
        clear hown' hgrow hown hnx hpre hand hor hl2
        go_wp2
        go_roundw
        case rel => exact ⟨m / 128, _, by go_num, by omega, hl3, hfin, hown2, hb⟩
        case measure => simp [intOf]; omega
end Go.Proofs.Ytfmmefmpjejioaa
namespace Go.Proofs.Ytfmmefmpjejioaa
open Go.RowKit

set_option maxHeartbeats 400000 in
theorem fitsS_yes (n : Int) (w : World) (h0 : -64 ≤ n) (h : n < 64) :
    Calls Try.prog 75 #[.int .i64 n] w fun e w' => e = .returned (.bool true) ∧ w' = w := by
  go_enter Try.func75, Try.ntmps75
  go_wp2
  go_ret
  exact ⟨by simp, rfl⟩
set_option maxHeartbeats 400000 in
theorem fitsS_no (n : Int) (w : World) (h : ¬ (-64 ≤ n ∧ n < 64)) :
    Calls Try.prog 75 #[.int .i64 n] w fun e w' => e = .returned (.bool false) ∧ w' = w := by
  by_cases h0 : -64 ≤ n
  · have h1 : ¬ n < 64 := by omega
    clear h
    go_enter Try.func75, Try.ntmps75
    go_wp2
    go_ret
    exact ⟨by simp, rfl⟩
  · clear h
    go_enter Try.func75, Try.ntmps75
    go_wp2
    go_ret
    exact ⟨by simp, rfl⟩

set_option maxHeartbeats 400000 in
set_option maxRecDepth 1000000 in
theorem writeS_any (n : Int) (hn1 : -9223372036854775808 ≤ n) (hn2 : n ≤ 9223372036854775807) (w : World) :
    Calls Try.prog 74 #[.int .i64 n, .func (.func 75) #[] #[]] w fun e w' => e = .returned (.string (strOfNums (sB n))) ∧ Below w.heap.size w w' := by
  obtain ⟨i0, hi, hz0, hz1, hz2⟩ := info_parts Try.info5
  go_enter Try.func74, Try.ntmps74
  go_wp2
  go_loopw [0, 5] (fun t v wr => ∃ m : Int, ∃ pre : List Int, t = .int .i64 m ∧ -9223372036854775808 ≤ m ∧ m ≤ 9223372036854775807 ∧ pre.length + (sB m).length ≤ 10 ∧ Hid (pre ++ sB m = sB n) ∧
      wr.ownsRow w.heap.size 5 1 v pre.length (pre.map (Value.int .u8)) ∧ Below w.heap.size w wr) (fun t _ _ => (intOf t).natAbs)
  case atStart => exact ⟨n, [], rfl, hn1, hn2, by simpa using sB_len64 n hn1 hn2, by unfold Hid; simp, World.ownsRow_nil _ _ _ _, Below.refl _ _⟩
  case round =>
    obtain ⟨m, pre, rfl, hm1, hm2, hlen, hpre, hown, hnx⟩ := hrel
    have hp := sB_pos m
    have hand := i64_and127 m
    have hor : bits BinOp.or IntKind.u8 (m % 128) 128 = m % 128 + 128 := u8_or128_right _ (by omega) (by omega)
    have hsz := hnx.size
    by_cases hlt : -64 ≤ m ∧ m < 64
    · go_wp2_with (first | (go_at_call 75; refine (fitsS_yes _ _ hlt.1 hlt.2).mono ?_; rintro e w' ⟨rfl, rfl⟩) | (at_builtin; refine wpList_append_own _ rfl _ _ 61 rfl w.heap.size 5 i0 (.int .u8 0) 1 1 Try.underlying61 hi hz0 hz1 hz2 rfl (by decide) _ _ _ rfl (hown.alloc _) ⟨_, 0, none⟩ 1 1 [.int .u8 (m % 128)] rfl rfl ?c1 ?c2 ?c3 ?c4 ?c5 ?_))
      case c1 => exact cell_one_new _ _ _
      case c2 => intro u hu; simp at hu; subst hu; rfl
      case c3 => unfold maxLen; omega
      case c4 => omega
      case c5 => simp; omega
      · intro v' w1 hown' hgrow _
        have hown2 : w1.ownsRow w.heap.size 5 1 v' (pre.length + 1) ((pre ++ [m % 128]).map (Value.int .u8)) := by simpa using hown'
        obtain ⟨g, cap, rfl, hconv⟩ := own_string hown2
        have hb : Below w.heap.size w w1 := (hnx.alloc (by omega) _).grown hgrow (by simp; omega) (fun k hk => (hown.lt k hk).1)
        have hfin : Hid (pre ++ [m % 128] = sB n) := by unfold Hid; rw [← hpre.out, sB_lo hlt]
        clear hown' hown2 hgrow hown hnx hpre hand hor
        go_wp2
        go_ret
        exact ⟨by rw [hfin.out]; rfl, hb⟩
    · go_wp2_with (first | (go_at_call 75; refine (fitsS_no _ _ hlt).mono ?_; rintro e w' ⟨rfl, rfl⟩) | (at_builtin; refine wpList_append_own _ rfl _ _ 61 rfl w.heap.size 5 i0 (.int .u8 0) 1 1 Try.underlying61 hi hz0 hz1 hz2 rfl (by decide) _ _ _ rfl (hown.alloc _) ⟨_, 0, none⟩ 1 1 [.int .u8 (m % 128 + 128)] rfl rfl ?c1 ?c2 ?c3 ?c4 ?c5 ?_))
      case c1 => exact cell_one_new _ _ _
      case c2 => intro u hu; simp at hu; subst hu; rfl
      case c3 => unfold maxLen; omega
      case c4 => omega
      case c5 => simp; omega
      · intro v' w1 hown' hgrow _
        have hown2 : w1.ownsRow w.heap.size 5 1 v' (pre ++ [m % 128 + 128]).length ((pre ++ [m % 128 + 128]).map (Value.int .u8)) := by simpa using hown'
        have hb : Below w.heap.size w w1 := (hnx.alloc (by omega) _).grown hgrow (by simp; omega) (fun k hk => (hown.lt k hk).1)
        have hfin : Hid (pre ++ [m % 128 + 128] ++ sB (m / 128) = sB n) := by unfold Hid; rw [← hpre.out, sB_hi hlt]; simp
        have hl2 : (sB m).length = (sB (m / 128)).length + 1 := by rw [sB_hi hlt]; simp
        have hl3 : (pre ++ [m % 128 + 128]).length + (sB (m / 128)).length ≤ 10 := by simp; omega
        clear hown' hgrow hown hnx hpre hand hor hl2
        go_wp2
        go_roundw
        case rel => exact ⟨m / 128, _, by go_num, by omega, by omega, hl3, hfin, hown2, hb⟩
        case measure => simp [intOf]; omega

set_option maxHeartbeats 400000 in
theorem u_any (n : Nat) (hn : n ≤ 18446744073709551615) (w : World) :
    Calls Try.prog 68 #[.int .u64 n] w fun e w' => e = .returned (.string (strOfNums (uB n))) ∧ Below w.heap.size w w' := by
  go_enter Try.func68, Try.ntmps68
  go_wp2_with (go_at_call 76; refine (writeU_any n hn _).mono ?_; rintro e w' ⟨rfl, hb⟩)
  go_ret
  exact ⟨rfl, hb⟩
set_option maxHeartbeats 400000 in
theorem s_any (n : Int) (hn1 : -9223372036854775808 ≤ n) (hn2 : n ≤ 9223372036854775807) (w : World) :
    Calls Try.prog 67 #[.int .i64 n] w fun e w' => e = .returned (.string (strOfNums (sB n))) ∧ Below w.heap.size w w' := by
  go_enter Try.func67, Try.ntmps67
  go_wp2_with (go_at_call 74; refine (writeS_any n hn1 hn2 _).mono ?_; rintro e w' ⟨rfl, hb⟩)
  go_ret
  exact ⟨rfl, hb⟩
end Go.Proofs.Ytfmmefmpjejioaa
namespace Go.Proofs.Ytfmmefmpjejioaa
open Go.RowKit

theorem backU (B : Int) (n m : Nat) (r : List Int) (hB : (B = 32 ∧ m = 4 ∧ n < 4294967296) ∨ (B = 64 ∧ m = 9 ∧ n < 18446744073709551616)) : rU B (uB n ++ r) = ((n : Int), ((uB n).length : Int), 0) := by
  have hlen : (uB n).length ≤ m + 1 := by
    refine uB_len m n ?_
    rcases hB with ⟨_, rfl, h⟩ | ⟨_, rfl, h⟩
    · have : (128 : Nat) ^ (4 + 1) = 34359738368 := by decide
      omega
    · have : (128 : Nat) ^ (9 + 1) = 1180591620717411303424 := by decide
      omega
  obtain ⟨f, b, h1, h2, h3, h4, h5⟩ := uB_split n
  have hv := val_bound f
  rw [h1, List.length_append, List.length_singleton] at hlen ⊢
  rw [rU, if_pos (by omega), List.append_assoc, List.singleton_append, rdl_good f r b h2 h3 h4 (by omega) ?_, h5]
  · rfl
  · intro h7
    rw [val_last f b h3 h4] at h5
    rcases hB with ⟨rfl, rfl, h⟩ | ⟨rfl, rfl, h⟩
    · have e : f.length = 4 := by omega
      rw [e] at h5 hv ⊢
      have hb : b < 16 := by omega
      simp only [fitU, beq_iff_eq]
      exact Int.ediv_eq_zero_of_lt h3 (by simpa using hb)
    · have e : f.length = 9 := by omega
      rw [e] at h5 hv ⊢
      have hb : b < 2 := by omega
      simp only [fitU, beq_iff_eq]
      exact Int.ediv_eq_zero_of_lt h3 (by simpa using hb)

theorem backS (B : Int) (n : Int) (m : Nat) (r : List Int) (hB : (B = 32 ∧ m = 4 ∧ -2147483648 ≤ n ∧ n < 2147483648) ∨ (B = 64 ∧ m = 9 ∧ -9223372036854775808 ≤ n ∧ n < 9223372036854775808)) : rS B (sB n ++ r) = (n, ((sB n).length : Int), 0) := by
  have hlen : (sB n).length ≤ m + 1 := by
    refine sB_len m n ?_ ?_
    · rcases hB with ⟨_, rfl, h⟩ | ⟨_, rfl, h⟩ <;> omega
    · rcases hB with ⟨_, rfl, h⟩ | ⟨_, rfl, h⟩ <;> omega
  obtain ⟨f, b, h1, h2, h3, h4, h5⟩ := sB_split _ n (Nat.lt_succ_self _)
  have hv := val_bound f
  rw [h1, List.length_append, List.length_singleton] at hlen ⊢
  have hg : rdl fitS B (f ++ [b] ++ r) 0 0 = (val (f ++ [b]), (f.length : Int) + 1, 0) := by
    rw [List.append_assoc, List.singleton_append]
    refine rdl_good f r b h2 h3 h4 (by omega) ?_
    intro h7
    rw [val_last f b h3 h4] at h5
    rcases hB with ⟨rfl, rfl, h⟩ | ⟨rfl, rfl, h⟩
    · have e : f.length = 4 := by omega
      rw [e] at h5 hv ⊢
      have hb : b < 8 ∨ 120 ≤ b := by split at h5 <;> omega
      simp only [fitS, Bool.or_eq_true, beq_iff_eq]
      rcases hb with hb | hb
      · left; exact Int.ediv_eq_zero_of_lt h3 (by simpa using hb)
      · right; simp; omega
    · have e : f.length = 9 := by omega
      rw [e] at h5 hv ⊢
      have hb : b < 1 ∨ 127 ≤ b := by split at h5 <;> omega
      simp only [fitS, Bool.or_eq_true, beq_iff_eq]
      rcases hb with hb | hb
      · left; exact Int.ediv_eq_zero_of_lt h3 (by simpa using hb)
      · right; simp; omega
  have e2 : (f ++ [b] ++ r).getD f.length 0 = b := by rw [List.append_assoc]; simp
  have e0 : ((f.length : Int) + 1 - 1).toNat = f.length := by omega
  have e1 : ((f.length : Int) + 1).toNat = f.length + 1 := by omega
  rw [rS, if_pos (by omega), hg]
  simp only [e0, e1, e2, if_true]
  rw [h5]
  have : n + (if 64 ≤ b then 128 ^ (f.length + 1) else 0) - (if 64 ≤ b then 128 ^ (f.length + 1) else 0) = n := by omega
  rw [this]; rfl

end Go.Proofs.Ytfmmefmpjejioaa
