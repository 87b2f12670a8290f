/-
  What leb.ReadU does with 32 bits, for every text.
-/
import Derived.Test.YtnkeeaelomalkaaDoorReadU
import Derived.Test.YtnkeeaelomalkaaDoorReadMore
namespace Go.Proofs.YtnkeeaelomalkaaDoor
open Go.RowKit

/-- What ReadU answers. -/
def rU (B : Int) (l : List Int) : Int × Int × Int := if B = 32 ∨ B = 64 then rdl fitU B l 0 0 else (0, 0, 1)
/-- What a reading comes to: it ends too early, has no form, or is a number. -/
theorem rdl_all (fit : Int → Int → Bool) (B : Int) (hB : B = 32 ∨ B = 64) (l : List Int) (hl : ∀ b ∈ l, 0 ≤ b ∧ b < 256) :
    rdl fit B l 0 0 = (0, 0, 3) ∨ rdl fit B l 0 0 = (0, 0, 4) ∨
    ∃ f b t, l = f ++ b :: t ∧ (∀ x ∈ f, 128 ≤ x ∧ x < 256) ∧ 0 ≤ b ∧ b < 128 ∧ 7 * (f.length : Int) < B ∧ (B ≤ 7 * (f.length : Int) + 7 → fit b (B - 7 * (f.length : Int)) = true) ∧ rdl fit B l 0 0 = (val (f ++ [b]), (f.length : Int) + 1, 0) := by
  obtain ⟨m, hm1, hm2, hm3⟩ : ∃ m : Nat, 7 * (m : Int) < B ∧ B ≤ 7 * (m : Int) + 7 ∧ m ≤ 9 := by
    rcases hB with rfl | rfl
    · exact ⟨4, by omega, by omega, by omega⟩
    · exact ⟨9, by omega, by omega, by omega⟩
  obtain ⟨f, hf, hc⟩ := split_bytes l hl
  by_cases hlen : m < f.length
  · have hs : f = f.take (m + 1) ++ f.drop (m + 1) := (List.take_append_drop _ f).symm
    have h1 : ∀ b ∈ f.take (m + 1), 128 ≤ b ∧ b < 256 := fun x hx => hf x (List.mem_of_mem_take hx)
    have h2 : (f.take (m + 1)).length = m + 1 := by rw [List.length_take]; omega
    right; left
    rcases hc with rfl | ⟨b, t, rfl, _⟩
    · rw [hs]; exact rdl_long _ _ h1 m h2 hm1 hm2
    · rw [hs, List.append_assoc]; exact rdl_long _ _ h1 m h2 hm1 hm2
  · rcases hc with rfl | ⟨b, t, rfl, hb0, hb⟩
    · left; exact rdl_short _ hf (by omega)
    · by_cases hfit : B ≤ 7 * (f.length : Int) + 7 → fit b (B - 7 * (f.length : Int)) = true
      · right; right
        exact ⟨f, b, t, rfl, hf, hb0, hb, by omega, hfit, rdl_good f t b hf hb0 hb (by omega) hfit⟩
      · right; left
        have h1 : B ≤ 7 * (f.length : Int) + 7 := by
          rcases Int.lt_or_le (7 * (f.length : Int) + 7) B with h | h
          · exact absurd (fun h' => absurd h' (by omega)) hfit
          · exact h
        have h2 : fit b (B - 7 * (f.length : Int)) = false := by
          cases h : fit b (B - 7 * (f.length : Int)) with
          | true => exact absurd (fun _ => h) hfit
          | false => rfl
        exact rdl_bad f t b hf (by omega) h1 h2

theorem pow7 (k : Nat) (h : k ≤ 9) : (128 : Int) ^ k ≤ 9223372036854775808 := by
  have : (128 : Int) ^ k ≤ 128 ^ 9 := by exact_mod_cast Nat.pow_le_pow_right (by omega : 0 < 128) h
  exact this
theorem fitU_lt {b : Int} {r : Nat} (h : fitU b (r : Int) = true) : b < 2 ^ r := by
  simp only [fitU, beq_iff_eq, Int.toNat_natCast] at h
  have hp : (0 : Int) < 2 ^ r := Int.pow_pos (by omega)
  have e := Int.emod_add_mul_ediv b (2 ^ r)
  rw [h, Int.mul_zero, Int.add_zero] at e
  have := Int.emod_lt_of_pos b hp
  omega

/-- What is read without a sign is smaller than 2^B. -/
theorem goodU (B : Nat) (f : List Int) (b : Int) (hb0 : 0 ≤ b) (hb : b < 128) (h1 : 7 * f.length < B) (h2 : B ≤ 7 * f.length + 7 → fitU b ((B - 7 * f.length : Nat) : Int) = true) : val (f ++ [b]) < 2 ^ B := by
  rw [val_append]
  have hv := val_bound f
  have hb' : b % 128 = b := by omega
  simp only [val, Int.mul_zero, Int.add_zero, hb']
  have e : (128 : Int) ^ f.length = 2 ^ (7 * f.length) := by exact_mod_cast pow128 f.length
  have e2 : (2 : Int) ^ B = 2 ^ (B - 7 * f.length) * 2 ^ (7 * f.length) := by rw [← Int.pow_add]; congr 1; omega
  have hlt : b < 2 ^ (B - 7 * f.length) := by
    rcases Nat.lt_or_ge (7 * f.length + 7) B with h | h
    · have : (2 : Int) ^ 7 ≤ 2 ^ (B - 7 * f.length) := by exact_mod_cast Nat.pow_le_pow_right (by omega : 0 < 2) (by omega : 7 ≤ B - 7 * f.length)
      omega
    · exact fitU_lt (h2 h)
  rw [e] at hv ⊢
  rw [e2]
  have hp : (0 : Int) < 2 ^ (7 * f.length) := Int.pow_pos (by omega)
  have := Int.mul_le_mul_of_nonneg_right (Int.add_one_le_of_lt hlt) (Int.le_of_lt hp)
  rw [Int.add_mul] at this
  omega

theorem rU_bound (B : Int) (l : List Int) (hl : ∀ b ∈ l, 0 ≤ b ∧ b < 256) : 0 ≤ (rU B l).1 ∧ (rU B l).1 < 18446744073709551616 := by
  unfold rU
  split
  · rename_i hB
    rcases rdl_all fitU B hB l hl with h | h | ⟨f, b, t, rfl, hf, hb0, hb, h1, h2, h⟩
    · rw [h]; simp
    · rw [h]; simp
    · rw [h]
      refine ⟨(val_bound _).1, ?_⟩
      rcases hB with rfl | rfl
      · have := goodU 32 f b hb0 hb (by omega) (by intro h'; have := h2 (by omega); rwa [show ((32 - 7 * f.length : Nat) : Int) = 32 - 7 * (f.length : Int) from by omega])
        omega
      · have := goodU 64 f b hb0 hb (by omega) (by intro h'; have := h2 (by omega); rwa [show ((64 - 7 * f.length : Nat) : Int) = 64 - 7 * (f.length : Int) from by omega])
        omega
  · simp

set_option maxHeartbeats 400000 in
theorem readU_at (s : ByteArray) (n k e : Int) (hs : s.size ≤ maxLen) (h : Hid (rU 32 (nums s) = (n, k, e))) (w : World) :
    Calls Tryd.prog 12 #[.string s, .int .i64 32] w fun e' w' => e' = .returned (.tuple #[.int .u64 n, .int .i64 k, .int .i64 e]) ∧ w' = w := by
  have hb := rU_bound 32 (nums s) (nums_byte s)
  have e0 := h.out
  rw [e0] at hb
  rw [rU, if_pos (by simp)] at e0
  have e1 : n % 18446744073709551616 = n := Int.emod_eq_of_lt hb.1 hb.2
  have E : Hid _ := e0
  have E1 : Hid _ := e1
  clear h hb e0 e1
  go_enter Tryd.func12, Tryd.ntmps12
  go_wp2_with (go_at_call 19; refine (readU32 s hs _).mono ?_; rw [E.out]; rintro e' w' ⟨rfl, rfl⟩)
  go_ret3
  exact ⟨ret_3 E1.out rfl rfl, rfl⟩

end Go.Proofs.YtnkeeaelomalkaaDoor
