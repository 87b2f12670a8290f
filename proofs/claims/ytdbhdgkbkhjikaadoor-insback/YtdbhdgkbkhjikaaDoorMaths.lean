/-
  Plain mathematics of numbers in groups of seven bits: what U and S write, as lists of numbers from 0 to 255.
-/
import Derived.Laws.Bits128
import Derived.Laws.BitsAllLaws
import Derived.Laws.BytesArg
namespace Go.Proofs.YtdbhdgkbkhjikaaDoor

/-- The bytes of a number without a sign, with fuel. -/
def uBf : Nat → Nat → List Int
  | 0, _ => []
  | f + 1, n => if n < 128 then [(n : Int)] else (((n % 128 : Nat) : Int) + 128) :: uBf f (n / 128)
/-- The bytes of a number without a sign. -/
def uB (n : Nat) : List Int := uBf (n + 1) n
theorem uBf_fuel : ∀ (f g n : Nat), n < f → n < g → uBf f n = uBf g n
  | 0, _, _, h, _ => by omega
  | _ + 1, 0, _, _, h => by omega
  | f + 1, g + 1, n, h1, h2 => by
    by_cases h : n < 128
    · simp [uBf, h]
    · simp [uBf, h, uBf_fuel f g (n / 128) (by omega) (by omega)]

/-- The bytes of a number with a sign, with fuel. -/
def sBf : Nat → Int → List Int
  | 0, _ => []
  | f + 1, n => if -64 ≤ n ∧ n < 64 then [n % 128] else (n % 128 + 128) :: sBf f (n / 128)
/-- The bytes of a number with a sign. -/
def sB (n : Int) : List Int := sBf (n.natAbs + 1) n
theorem sBf_fuel : ∀ (f g : Nat) (n : Int), n.natAbs < f → n.natAbs < g → sBf f n = sBf g n
  | 0, _, _, h, _ => by omega
  | _ + 1, 0, _, _, h => by omega
  | f + 1, g + 1, n, h1, h2 => by
    by_cases h : -64 ≤ n ∧ n < 64
    · simp [sBf, h]
    · simp [sBf, h, sBf_fuel f g (n / 128) (by omega) (by omega)]

theorem uB_lo {n : Nat} (h : n < 128) : uB n = [(n : Int)] := by simp [uB, uBf, h]
theorem uB_hi {n : Nat} (h : ¬ n < 128) : uB n = (((n % 128 : Nat) : Int) + 128) :: uB (n / 128) := by
  have e := uBf_fuel n (n / 128 + 1) (n / 128) (by omega) (by omega)
  simp [uB, uBf, h, e]
theorem sB_lo {n : Int} (h : -64 ≤ n ∧ n < 64) : sB n = [n % 128] := by simp [sB, sBf, h]
theorem sB_hi {n : Int} (h : ¬ (-64 ≤ n ∧ n < 64)) : sB n = (n % 128 + 128) :: sB (n / 128) := by
  have e := sBf_fuel n.natAbs ((n / 128).natAbs + 1) (n / 128) (by omega) (by omega)
  simp [sB, sBf, h, e]

theorem uB_pos (n : Nat) : 1 ≤ (uB n).length := by
  by_cases h : n < 128
  · simp [uB_lo h]
  · simp [uB_hi h]
theorem sB_pos (n : Int) : 1 ≤ (sB n).length := by
  by_cases h : -64 ≤ n ∧ n < 64
  · simp [sB_lo h]
  · simp [sB_hi h]

theorem uB_len (k : Nat) : ∀ n : Nat, n < 128 ^ (k + 1) → (uB n).length ≤ k + 1 := by
  induction k with
  | zero => intro n h; simp at h; simp [uB_lo h]
  | succ k ih =>
    intro n h
    by_cases hn : n < 128
    · simp [uB_lo hn]
    · rw [uB_hi hn]
      have : n / 128 < 128 ^ (k + 1) := by
        rw [Nat.pow_succ 128 (k + 1)] at h
        exact Nat.div_lt_of_lt_mul (by rw [Nat.mul_comm]; exact h)
      have := ih _ this
      simp; omega
theorem uB_len64 (n : Nat) (h : n ≤ 18446744073709551615) : (uB n).length ≤ 10 := uB_len 9 n (by omega)

theorem sB_len (k : Nat) : ∀ n : Int, -(64 * 128 ^ k) ≤ n → n < 64 * 128 ^ k → (sB n).length ≤ k + 1 := by
  induction k with
  | zero => intro n h1 h2; simp at h1 h2; simp [sB_lo ⟨h1, h2⟩]
  | succ k ih =>
    intro n h1 h2
    by_cases hn : -64 ≤ n ∧ n < 64
    · simp [sB_lo hn]
    · rw [sB_hi hn]
      rw [Int.pow_succ] at h1 h2
      have := ih (n / 128) (by omega) (by omega)
      simp; omega
theorem sB_len64 (n : Int) (h1 : -9223372036854775808 ≤ n) (h2 : n ≤ 9223372036854775807) : (sB n).length ≤ 10 := sB_len 9 n (by omega) (by omega)

theorem and127_u64 (m : Nat) (h : m ≤ 18446744073709551615) : bits .and .u64 (m : Int) 127 = ((m % 128 : Nat) : Int) := by
  have := u64_and_nat m 127 (by omega) (by omega)
  rw [show (m &&& 127) = m % 128 from Nat.and_two_pow_sub_one_eq_mod m 7] at this
  exact this

/-- Every byte lies from 0 to 255. -/
theorem uB_byte (n : Nat) : ∀ b ∈ uB n, 0 ≤ b ∧ b < 256 := by
  induction n using Nat.strongRecOn with
  | ind n ih =>
    by_cases h : n < 128
    · rw [uB_lo h]; simp; omega
    · rw [uB_hi h]
      intro b hb
      rcases List.mem_cons.1 hb with rfl | hb
      · omega
      · exact ih (n / 128) (by omega) b hb
theorem sB_byte (n : Int) : ∀ b ∈ sB n, 0 ≤ b ∧ b < 256 := by
  suffices H : ∀ (f : Nat) (n : Int), ∀ b ∈ sBf f n, 0 ≤ b ∧ b < 256 from H _ n
  intro f
  induction f with
  | zero => intro n b hb; simp [sBf] at hb
  | succ f ih =>
    intro n b hb
    by_cases h : -64 ≤ n ∧ n < 64
    · simp [sBf, h] at hb; omega
    · simp [sBf, h] at hb
      rcases hb with rfl | hb
      · omega
      · exact ih _ b hb

/-- A list of bytes as a string, and back. -/
theorem str_inj {xs ys : List Int} (hx : ∀ b ∈ xs, 0 ≤ b ∧ b < 256) (hy : ∀ b ∈ ys, 0 ≤ b ∧ b < 256) (h : (xs.map fun n => UInt8.ofNat n.toNat) = ys.map fun n => UInt8.ofNat n.toNat) : xs = ys := by
  induction xs generalizing ys with
  | nil => cases ys with
    | nil => rfl
    | cons y ys => simp at h
  | cons x xs ih =>
    cases ys with
    | nil => simp at h
    | cons y ys =>
      simp only [List.map_cons, List.cons.injEq] at h
      have h1 := hx x (by simp)
      have h2 := hy y (by simp)
      have h3 : x = y := by
        have := congrArg UInt8.toNat h.1
        simp only [UInt8.toNat_ofNat'] at this
        omega
      rw [h3, ih (fun b hb => hx b (by simp [hb])) (fun b hb => hy b (by simp [hb])) h.2]

theorem uB_prefix : ∀ (a b : Nat), uB a <+: uB b → a = b := by
  intro a
  induction a using Nat.strongRecOn with
  | ind a ih =>
    intro b h
    by_cases ha : a < 128 <;> by_cases hb : b < 128
    · rw [uB_lo ha, uB_lo hb] at h; simp at h; omega
    · rw [uB_lo ha, uB_hi hb] at h; simp at h; omega
    · rw [uB_hi ha, uB_lo hb] at h; simp at h; omega
    · rw [uB_hi ha, uB_hi hb, List.cons_prefix_cons] at h
      have := ih (a / 128) (by omega) _ h.2
      omega
theorem sB_prefix : ∀ (f : Nat) (a b : Int), a.natAbs < f → sB a <+: sB b → a = b := by
  intro f
  induction f with
  | zero => intro a b h; omega
  | succ f ih =>
    intro a b hf h
    by_cases ha : -64 ≤ a ∧ a < 64 <;> by_cases hb : -64 ≤ b ∧ b < 64
    · rw [sB_lo ha, sB_lo hb] at h; simp at h; omega
    · rw [sB_lo ha, sB_hi hb] at h; simp at h; omega
    · rw [sB_hi ha, sB_lo hb] at h; simp at h; omega
    · rw [sB_hi ha, sB_hi hb, List.cons_prefix_cons] at h
      have := ih (a / 128) _ (by omega) h.2
      omega

/-- How many bits a number has, with fuel. -/
def blf : Nat → Nat → Nat
  | 0, _ => 0
  | f + 1, n => if n = 0 then 0 else blf f (n / 2) + 1
/-- How many bits a number has. -/
def bl (n : Nat) : Nat := blf (n + 1) n
theorem blf_fuel : ∀ (f g n : Nat), n < f → n < g → blf f n = blf g n
  | 0, _, _, h, _ => by omega
  | _ + 1, 0, _, _, h => by omega
  | f + 1, g + 1, n, h1, h2 => by
    by_cases h : n = 0
    · simp [blf, h]
    · simp [blf, h, blf_fuel f g (n / 2) (by omega) (by omega)]
theorem bl_zero : bl 0 = 0 := by simp [bl, blf]
theorem bl_half {n : Nat} (h : ¬ n = 0) : bl n = bl (n / 2) + 1 := by
  have e := blf_fuel n (n / 2 + 1) (n / 2) (by omega) (by omega)
  simp [bl, blf, h, e]
theorem bl_pos {n : Nat} (h : ¬ n = 0) : 1 ≤ bl n := by rw [bl_half h]; omega
theorem bl_le (k : Nat) : ∀ n : Nat, n < 2 ^ k → bl n ≤ k := by
  induction k with
  | zero =>
    intro n h
    have : n = 0 := by simpa using h
    subst this; simp [bl_zero]
  | succ k ih =>
    intro n h
    by_cases h0 : n = 0
    · subst h0; simp [bl_zero]
    · rw [bl_half h0]
      have := ih (n / 2) (by rw [Nat.pow_succ] at h; omega)
      omega
theorem bl_up (n : Nat) (h : 128 ≤ n) : bl n = bl (n / 128) + 7 := by
  rw [bl_half (n := n) (by omega), bl_half (n := n / 2) (by omega), bl_half (n := n / 2 / 2) (by omega), bl_half (n := n / 2 / 2 / 2) (by omega), bl_half (n := n / 2 / 2 / 2 / 2) (by omega),
    bl_half (n := n / 2 / 2 / 2 / 2 / 2) (by omega), bl_half (n := n / 2 / 2 / 2 / 2 / 2 / 2) (by omega)]
  have : n / 2 / 2 / 2 / 2 / 2 / 2 / 2 = n / 128 := by omega
  rw [this]
theorem uB_bits (n : Nat) : (uB n).length = max 1 ((bl n + 6) / 7) := by
  induction n using Nat.strongRecOn with
  | ind n ih =>
    by_cases h : n < 128
    · have := bl_le 7 n (by simpa using h)
      rw [uB_lo h]; simp; omega
    · rw [uB_hi h, bl_up n (by omega)]
      have h1 := ih (n / 128) (by omega)
      have h2 := bl_pos (n := n / 128) (by omega)
      simp only [List.length_cons, h1]; omega

end Go.Proofs.YtdbhdgkbkhjikaaDoor
