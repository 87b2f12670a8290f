/-
  Plain mathematics of numbers in groups of seven bits: what U and S write, as lists of numbers from 0 to 255. Plain mathematics of reading numbers in groups of seven bits. Plain mathematics of reading numbers, in one piece: the bytes that say that one more follows, the last one, and what is read of them. What leb.read does, with each of the two tests that it is handed. What leb.ReadU and leb.ReadS do, for every text and every number of bits. Strings that are made of numbers, joined, cut: the numbers of their bytes. What ReadU and ReadS can answer: an error, or a number whose shortest bytes are no more than were read. What leb.write does with a number without a sign: its bytes, as a string, and nothing that was there has turned. What U and S do: the number's bytes are handed back as a string, and nothing that was there has turned. What is written is read as it was, whatever stands behind: plain mathematics.
-/
import Derived.Laws.Bits128
import Derived.Laws.BitsAllLaws
import Derived.Laws.BytesArg
import Derived.Laws.ShiftsVarLaws
import Derived.Test.YtakpkdckajjooabGreatDoorRows
import Derived.WalkKit
import Derived.WalkSpells
import Derived.Deep.QuietTactic
import Derived.BigQuiet
import Derived.Lib.Strings
import Derived.Laws.Concat
set_option maxHeartbeats 400000
set_option maxRecDepth 1000000
namespace Go.Proofs.YtakpkdckajjooabGreatDoor
set_option linter.unusedVariables false
def uBf : Nat → Nat → List Int
  | 0, _ => []
  | f + 1, n => if n < 128 then [(n : Int)] else (((n % 128 : Nat) : Int) + 128) :: uBf f (n / 128)
def uB (n : Nat) : List Int := uBf (n + 1) n
theorem uBf_fuel : ∀ (f g n : Nat), n < f → n < g → uBf f n = uBf g n
  | 0, _, _, h, _ => by omega
  | _ + 1, 0, _, _, h => by omega
  | f + 1, g + 1, n, h1, h2 => by
    by_cases h : n < 128
    · simp [uBf, h]
    · simp [uBf, h, uBf_fuel f g (n / 128) (by omega) (by omega)]
def sBf : Nat → Int → List Int
  | 0, _ => []
  | f + 1, n => if -64 ≤ n ∧ n < 64 then [n % 128] else (n % 128 + 128) :: sBf f (n / 128)
def sB (n : Int) : List Int := sBf (n.natAbs + 1) n
theorem sBf_fuel : ∀ (f g : Nat) (n : Int), n.natAbs < f → n.natAbs < g → sBf f n = sBf g n
  | 0, _, _, h, _ => by omega
  | _ + 1, 0, _, _, h => by omega
  | f + 1, g + 1, n, h1, h2 => by
    by_cases h : -64 ≤ n ∧ n < 64
    · simp [sBf, h]
    · simp [sBf, h, sBf_fuel f g (n / 128) (by omega) (by omega)]
theorem uB_lo {n : Nat} (h : n < 128) : uB n = [(n : Int)] := by simp [uB, uBf, h]
theorem uB_hi {n : Nat} (h : ¬ n < 128) : uB n = (((n % 128 : Nat) : Int) + 128) :: uB (n / 128) := by
  have e := uBf_fuel n (n / 128 + 1) (n / 128) (by omega) (by omega)
  simp [uB, uBf, h, e]
theorem sB_lo {n : Int} (h : -64 ≤ n ∧ n < 64) : sB n = [n % 128] := by simp [sB, sBf, h]
theorem sB_hi {n : Int} (h : ¬ (-64 ≤ n ∧ n < 64)) : sB n = (n % 128 + 128) :: sB (n / 128) := by
  have e := sBf_fuel n.natAbs ((n / 128).natAbs + 1) (n / 128) (by omega) (by omega)
  simp [sB, sBf, h, e]
theorem uB_pos (n : Nat) : 1 ≤ (uB n).length := by
  by_cases h : n < 128
  · simp [uB_lo h]
  · simp [uB_hi h]
theorem sB_pos (n : Int) : 1 ≤ (sB n).length := by
  by_cases h : -64 ≤ n ∧ n < 64
  · simp [sB_lo h]
  · simp [sB_hi h]
theorem uB_len (k : Nat) : ∀ n : Nat, n < 128 ^ (k + 1) → (uB n).length ≤ k + 1 := by
  induction k with
  | zero => intro n h; simp at h; simp [uB_lo h]
  | succ k ih =>
    intro n h
    by_cases hn : n < 128
    · simp [uB_lo hn]
    · rw [uB_hi hn]
      have : n / 128 < 128 ^ (k + 1) := by
        rw [Nat.pow_succ 128 (k + 1)] at h
        exact Nat.div_lt_of_lt_mul (by rw [Nat.mul_comm]; exact h)
      have := ih _ this
      simp; omega
theorem uB_len64 (n : Nat) (h : n ≤ 18446744073709551615) : (uB n).length ≤ 10 := uB_len 9 n (by omega)
theorem sB_len (k : Nat) : ∀ n : Int, -(64 * 128 ^ k) ≤ n → n < 64 * 128 ^ k → (sB n).length ≤ k + 1 := by
  induction k with
  | zero => intro n h1 h2; simp at h1 h2; simp [sB_lo ⟨h1, h2⟩]
  | succ k ih =>
    intro n h1 h2
    by_cases hn : -64 ≤ n ∧ n < 64
    · simp [sB_lo hn]
    · rw [sB_hi hn]
      rw [Int.pow_succ] at h1 h2
      have := ih (n / 128) (by omega) (by omega)
      simp; omega
theorem sB_len64 (n : Int) (h1 : -9223372036854775808 ≤ n) (h2 : n ≤ 9223372036854775807) : (sB n).length ≤ 10 := sB_len 9 n (by omega) (by omega)
theorem and127_u64 (m : Nat) (h : m ≤ 18446744073709551615) : bits .and .u64 (m : Int) 127 = ((m % 128 : Nat) : Int) := by
  have := u64_and_nat m 127 (by omega) (by omega)
  rw [show (m &&& 127) = m % 128 from Nat.and_two_pow_sub_one_eq_mod m 7] at this
  exact this
theorem uB_byte (n : Nat) : ∀ b ∈ uB n, 0 ≤ b ∧ b < 256 := by
  induction n using Nat.strongRecOn with
  | ind n ih =>
    by_cases h : n < 128
    · rw [uB_lo h]; simp; omega
    · rw [uB_hi h]
      intro b hb
      rcases List.mem_cons.1 hb with rfl | hb
      · omega
      · exact ih (n / 128) (by omega) b hb
theorem sB_byte (n : Int) : ∀ b ∈ sB n, 0 ≤ b ∧ b < 256 := by
  suffices H : ∀ (f : Nat) (n : Int), ∀ b ∈ sBf f n, 0 ≤ b ∧ b < 256 from H _ n
  intro f
  induction f with
  | zero => intro n b hb; simp [sBf] at hb
  | succ f ih =>
    intro n b hb
    by_cases h : -64 ≤ n ∧ n < 64
    · simp [sBf, h] at hb; omega
    · simp [sBf, h] at hb
      rcases hb with rfl | hb
      · omega
      · exact ih _ b hb
end Go.Proofs.YtakpkdckajjooabGreatDoor
namespace Go.Proofs.YtakpkdckajjooabGreatDoor
def nums (s : ByteArray) : List Int := s.data.toList.map fun b => (b.toNat : Int)
theorem nums_length (s : ByteArray) : (nums s).length = s.size := by
  rw [nums, List.length_map, Array.length_toList]; rfl
theorem nums_byte (s : ByteArray) : ∀ b ∈ nums s, 0 ≤ b ∧ b < 256 := by
  intro b hb
  simp only [nums, List.mem_map] at hb
  obtain ⟨c, _, rfl⟩ := hb
  have := c.toNat_lt
  omega
theorem pow128 (k : Nat) : (128 : Nat) ^ k = 2 ^ (7 * k) := by rw [Nat.pow_mul]
def fitU (b room : Int) : Bool := b / 2 ^ room.toNat == 0
def fitS (b room : Int) : Bool := b / 2 ^ (room.toNat - 1) == 0 || b / 2 ^ (room.toNat - 1) == 127 / 2 ^ (room.toNat - 1)
def rdl (fit : Int → Int → Bool) (B : Int) : List Int → Nat → Int → Int × Int × Int
  | [], _, _ => (0, 0, 3)
  | b :: r, k, n =>
    if B - 7 * (k : Int) ≤ 7 ∧ (128 ≤ b ∨ fit b (B - 7 * (k : Int)) = false) then (0, 0, 4)
    else if b < 128 then (n + b * 128 ^ k, (k : Int) + 1, 0)
    else rdl fit B r (k + 1) (n + (b - 128) * 128 ^ k)
theorem rdl_form {fit : Int → Int → Bool} {B b n : Int} {r : List Int} {k : Nat} (h1 : B - 7 * (k : Int) ≤ 7) (h2 : 128 ≤ b ∨ fit b (B - 7 * (k : Int)) = false) :
    rdl fit B (b :: r) k n = (0, 0, 4) := by
  rw [rdl, if_pos ⟨h1, h2⟩]
theorem rdl_last {fit : Int → Int → Bool} {B b n : Int} {r : List Int} {k : Nat} (h1 : B - 7 * (k : Int) ≤ 7 → fit b (B - 7 * (k : Int)) = true) (h2 : b < 128) :
    rdl fit B (b :: r) k n = (n + b * 128 ^ k, (k : Int) + 1, 0) := by
  rw [rdl, if_neg (by rintro ⟨h3, h4 | h4⟩; · omega
                      · rw [h1 h3] at h4; cases h4), if_pos h2]
theorem rdl_more {fit : Int → Int → Bool} {B b n : Int} {r : List Int} {k : Nat} (h1 : ¬ B - 7 * (k : Int) ≤ 7) (h2 : ¬ b < 128) :
    rdl fit B (b :: r) k n = rdl fit B r (k + 1) (n + (b - 128) * 128 ^ k) := by
  rw [rdl, if_neg (fun h => h1 h.1), if_neg h2]
end Go.Proofs.YtakpkdckajjooabGreatDoor
namespace Go.Proofs.YtakpkdckajjooabGreatDoor
def val : List Int → Int
  | [] => 0
  | b :: r => b % 128 + 128 * val r
theorem val_append : ∀ (f g : List Int), val (f ++ g) = val f + val g * 128 ^ f.length
  | [], g => by simp [val]
  | b :: f, g => by
    rw [List.cons_append, val, val, val_append f g, List.length_cons, Int.pow_succ, Int.mul_add, ← Int.add_assoc, Int.mul_comm (128 ^ f.length) 128, Int.mul_left_comm 128 (val g)]
theorem val_bound : ∀ (f : List Int), 0 ≤ val f ∧ val f < 128 ^ f.length
  | [] => by simp [val]
  | b :: f => by
    have := val_bound f
    rw [val, List.length_cons, Int.pow_succ]
    omega
theorem rdl_walk {fit : Int → Int → Bool} {B : Int} (t : List Int) : ∀ (f : List Int) (k : Nat) (n : Int), (∀ b ∈ f, 128 ≤ b ∧ b < 256) → 7 * ((k : Int) + f.length) < B →
    rdl fit B (f ++ t) k n = rdl fit B t (k + f.length) (n + val f * 128 ^ k)
  | [], k, n, _, _ => by simp [val]
  | b :: f, k, n, h, hB => by
    have hb := h b (by simp)
    simp only [List.length_cons] at hB
    rw [List.cons_append, rdl_more (by omega) (by omega), rdl_walk t f (k + 1) _ (fun x hx => h x (by simp [hx])) (by omega)]
    rw [val, Int.pow_succ, List.length_cons]
    have e1 : k + 1 + f.length = k + (f.length + 1) := by omega
    have e2 : b % 128 = b - 128 := by omega
    have e3 : n + (b - 128) * 128 ^ k + val f * (128 ^ k * 128) = n + (b - 128 + 128 * val f) * 128 ^ k := by
      rw [Int.add_mul, Int.add_assoc, Int.mul_comm (128 ^ k) 128, Int.mul_comm 128 (val f), Int.mul_assoc]
    rw [e1, e2, e3]
theorem rdl_short {fit : Int → Int → Bool} {B : Int} (f : List Int) (h : ∀ b ∈ f, 128 ≤ b ∧ b < 256) (hB : 7 * (f.length : Int) < B) : rdl fit B f 0 0 = (0, 0, 3) := by
  have := rdl_walk (fit := fit) (B := B) [] f 0 0 h (by simpa using hB)
  rw [List.append_nil] at this
  rw [this]; rfl
theorem rdl_long {fit : Int → Int → Bool} {B : Int} (f t : List Int) (h : ∀ b ∈ f, 128 ≤ b ∧ b < 256) (m : Nat) (hm : f.length = m + 1) (hB : 7 * (m : Int) < B) (hB2 : B ≤ 7 * (m : Int) + 7) : rdl fit B (f ++ t) 0 0 = (0, 0, 4) := by
  have hl : (f.take m).length = m := by rw [List.length_take]; omega
  have hs : f = f.take m ++ f.drop m := (List.take_append_drop m f).symm
  obtain ⟨b, hb⟩ : ∃ b, f.drop m = [b] := by
    have : (f.drop m).length = 1 := by rw [List.length_drop]; omega
    exact List.length_eq_one_iff.1 this
  have hbm : b ∈ f := List.mem_of_mem_drop (i := m) (by rw [hb]; simp)
  rw [hs, hb, List.append_assoc, rdl_walk _ _ 0 0 (fun x hx => h x (List.mem_of_mem_take hx)) (by rw [hl]; simpa using hB)]
  exact rdl_form (by rw [hl]; simp; omega) (.inl (h b hbm).1)
theorem rdl_bad {fit : Int → Int → Bool} {B : Int} (f t : List Int) (b : Int) (h : ∀ b ∈ f, 128 ≤ b ∧ b < 256) (hB : 7 * (f.length : Int) < B) (hB2 : B ≤ 7 * (f.length : Int) + 7) (hf : fit b (B - 7 * (f.length : Int)) = false) :
    rdl fit B (f ++ b :: t) 0 0 = (0, 0, 4) := by
  rw [rdl_walk _ _ 0 0 h (by simpa using hB)]
  exact rdl_form (by simp; omega) (.inr (by simpa using hf))
theorem rdl_good {fit : Int → Int → Bool} {B : Int} (f t : List Int) (b : Int) (h : ∀ b ∈ f, 128 ≤ b ∧ b < 256) (hb0 : 0 ≤ b) (hb : b < 128) (hB : 7 * (f.length : Int) < B) (hf : B ≤ 7 * (f.length : Int) + 7 → fit b (B - 7 * (f.length : Int)) = true) :
    rdl fit B (f ++ b :: t) 0 0 = (val (f ++ [b]), (f.length : Int) + 1, 0) := by
  rw [rdl_walk _ _ 0 0 h (by simpa using hB), rdl_last (by intro h; simpa using hf (by simp at h; omega)) hb, val_append]
  have : b % 128 = b := by omega
  simp [val, this]
theorem split_bytes : ∀ (l : List Int), (∀ b ∈ l, 0 ≤ b ∧ b < 256) → ∃ f, (∀ b ∈ f, 128 ≤ b ∧ b < 256) ∧ (l = f ∨ ∃ b t, l = f ++ b :: t ∧ 0 ≤ b ∧ b < 128)
  | [], _ => ⟨[], by simp, .inl rfl⟩
  | b :: l, h => by
    have hb := h b (by simp)
    by_cases h128 : b < 128
    · exact ⟨[], by simp, .inr ⟨b, l, rfl, hb.1, h128⟩⟩
    · obtain ⟨f, hf, hc⟩ := split_bytes l (fun x hx => h x (by simp [hx]))
      refine ⟨b :: f, ?_, ?_⟩
      · intro x hx
        rcases List.mem_cons.1 hx with rfl | hx
        · omega
        · exact hf x hx
      · rcases hc with rfl | ⟨c, t, rfl, hc⟩
        · exact .inl rfl
        · exact .inr ⟨c, t, rfl, hc⟩
theorem uB_split (n : Nat) : ∃ f b, uB n = f ++ [b] ∧ (∀ x ∈ f, 128 ≤ x ∧ x < 256) ∧ 0 ≤ b ∧ b < 128 ∧ val (f ++ [b]) = n := by
  induction n using Nat.strongRecOn with
  | ind n ih =>
    by_cases h : n < 128
    · exact ⟨[], (n : Int), uB_lo h, by simp, by omega, by omega, by simp [val]; omega⟩
    · obtain ⟨f, b, h1, h2, h3, h4, h5⟩ := ih (n / 128) (by omega)
      refine ⟨(((n % 128 : Nat) : Int) + 128) :: f, b, by rw [uB_hi h, h1]; rfl, ?_, h3, h4, ?_⟩
      · intro x hx
        rcases List.mem_cons.1 hx with rfl | hx
        · omega
        · exact h2 x hx
      · rw [List.cons_append, val, h5]; omega
theorem sB_split (f0 : Nat) : ∀ n : Int, n.natAbs < f0 → ∃ f b, sB n = f ++ [b] ∧ (∀ x ∈ f, 128 ≤ x ∧ x < 256) ∧ 0 ≤ b ∧ b < 128 ∧ val (f ++ [b]) = n + (if 64 ≤ b then 128 ^ (f.length + 1) else 0) := by
  induction f0 with
  | zero => intro n h; omega
  | succ f0 ih =>
    intro n hn
    by_cases h : -64 ≤ n ∧ n < 64
    · refine ⟨[], n % 128, sB_lo h, by simp, by omega, by omega, ?_⟩
      simp only [List.nil_append, val, List.length_nil]
      split <;> omega
    · obtain ⟨f, b, h1, h2, h3, h4, h5⟩ := ih (n / 128) (by omega)
      refine ⟨(n % 128 + 128) :: f, b, by rw [sB_hi h, h1]; rfl, ?_, h3, h4, ?_⟩
      · intro x hx
        rcases List.mem_cons.1 hx with rfl | hx
        · omega
        · exact h2 x hx
      · rw [List.cons_append, val, h5, List.length_cons, Int.pow_succ 128 (f.length + 1)]
        split <;> omega
end Go.Proofs.YtakpkdckajjooabGreatDoor
namespace Go.Proofs.YtakpkdckajjooabGreatDoor
open Go.RowKit
end Go.Proofs.YtakpkdckajjooabGreatDoor
namespace Go.Proofs.YtakpkdckajjooabGreatDoor
open Go.RowKit
def rU (B : Int) (l : List Int) : Int × Int × Int := if B = 32 ∨ B = 64 then rdl fitU B l 0 0 else (0, 0, 1)
def rS (B : Int) (l : List Int) : Int × Int × Int :=
  if B = 32 ∨ B = 64 then
    if (rdl fitS B l 0 0).2.2 = 0 then ((rdl fitS B l 0 0).1 - (if 64 ≤ l.getD ((rdl fitS B l 0 0).2.1 - 1).toNat 0 then 128 ^ (rdl fitS B l 0 0).2.1.toNat else 0), (rdl fitS B l 0 0).2.1, 0)
    else (0, 0, (rdl fitS B l 0 0).2.2)
  else (0, 0, 1)
theorem rdl_all (fit : Int → Int → Bool) (B : Int) (hB : B = 32 ∨ B = 64) (l : List Int) (hl : ∀ b ∈ l, 0 ≤ b ∧ b < 256) :
    rdl fit B l 0 0 = (0, 0, 3) ∨ rdl fit B l 0 0 = (0, 0, 4) ∨
    ∃ f b t, l = f ++ b :: t ∧ (∀ x ∈ f, 128 ≤ x ∧ x < 256) ∧ 0 ≤ b ∧ b < 128 ∧ 7 * (f.length : Int) < B ∧ (B ≤ 7 * (f.length : Int) + 7 → fit b (B - 7 * (f.length : Int)) = true) ∧ rdl fit B l 0 0 = (val (f ++ [b]), (f.length : Int) + 1, 0) := by
  obtain ⟨m, hm1, hm2, hm3⟩ : ∃ m : Nat, 7 * (m : Int) < B ∧ B ≤ 7 * (m : Int) + 7 ∧ m ≤ 9 := by
    rcases hB with rfl | rfl
    · exact ⟨4, by omega, by omega, by omega⟩
    · exact ⟨9, by omega, by omega, by omega⟩
  obtain ⟨f, hf, hc⟩ := split_bytes l hl
  by_cases hlen : m < f.length
  · have hs : f = f.take (m + 1) ++ f.drop (m + 1) := (List.take_append_drop _ f).symm
    have h1 : ∀ b ∈ f.take (m + 1), 128 ≤ b ∧ b < 256 := fun x hx => hf x (List.mem_of_mem_take hx)
    have h2 : (f.take (m + 1)).length = m + 1 := by rw [List.length_take]; omega
    right; left
    rcases hc with rfl | ⟨b, t, rfl, _⟩
    · rw [hs]; exact rdl_long _ _ h1 m h2 hm1 hm2
    · rw [hs, List.append_assoc]; exact rdl_long _ _ h1 m h2 hm1 hm2
  · rcases hc with rfl | ⟨b, t, rfl, hb0, hb⟩
    · left; exact rdl_short _ hf (by omega)
    · by_cases hfit : B ≤ 7 * (f.length : Int) + 7 → fit b (B - 7 * (f.length : Int)) = true
      · right; right
        exact ⟨f, b, t, rfl, hf, hb0, hb, by omega, hfit, rdl_good f t b hf hb0 hb (by omega) hfit⟩
      · right; left
        have h1 : B ≤ 7 * (f.length : Int) + 7 := by
          rcases Int.lt_or_le (7 * (f.length : Int) + 7) B with h | h
          · exact absurd (fun h' => absurd h' (by omega)) hfit
          · exact h
        have h2 : fit b (B - 7 * (f.length : Int)) = false := by
          cases h : fit b (B - 7 * (f.length : Int)) with
          | true => exact absurd (fun _ => h) hfit
          | false => rfl
        exact rdl_bad f t b hf (by omega) h1 h2
theorem pow7 (k : Nat) (h : k ≤ 9) : (128 : Int) ^ k ≤ 9223372036854775808 := by
  have : (128 : Int) ^ k ≤ 128 ^ 9 := by exact_mod_cast Nat.pow_le_pow_right (by omega : 0 < 128) h
  exact this
theorem fitU_lt {b : Int} {r : Nat} (h : fitU b (r : Int) = true) : b < 2 ^ r := by
  simp only [fitU, beq_iff_eq, Int.toNat_natCast] at h
  have hp : (0 : Int) < 2 ^ r := Int.pow_pos (by omega)
  have e := Int.emod_add_mul_ediv b (2 ^ r)
  rw [h, Int.mul_zero, Int.add_zero] at e
  have := Int.emod_lt_of_pos b hp
  omega
theorem goodU (B : Nat) (f : List Int) (b : Int) (hb0 : 0 ≤ b) (hb : b < 128) (h1 : 7 * f.length < B) (h2 : B ≤ 7 * f.length + 7 → fitU b ((B - 7 * f.length : Nat) : Int) = true) : val (f ++ [b]) < 2 ^ B := by
  rw [val_append]
  have hv := val_bound f
  have hb' : b % 128 = b := by omega
  simp only [val, Int.mul_zero, Int.add_zero, hb']
  have e : (128 : Int) ^ f.length = 2 ^ (7 * f.length) := by exact_mod_cast pow128 f.length
  have e2 : (2 : Int) ^ B = 2 ^ (B - 7 * f.length) * 2 ^ (7 * f.length) := by rw [← Int.pow_add]; congr 1; omega
  have hlt : b < 2 ^ (B - 7 * f.length) := by
    rcases Nat.lt_or_ge (7 * f.length + 7) B with h | h
    · have : (2 : Int) ^ 7 ≤ 2 ^ (B - 7 * f.length) := by exact_mod_cast Nat.pow_le_pow_right (by omega : 0 < 2) (by omega : 7 ≤ B - 7 * f.length)
      omega
    · exact fitU_lt (h2 h)
  rw [e] at hv ⊢
  rw [e2]
  have hp : (0 : Int) < 2 ^ (7 * f.length) := Int.pow_pos (by omega)
  have := Int.mul_le_mul_of_nonneg_right (Int.add_one_le_of_lt hlt) (Int.le_of_lt hp)
  rw [Int.add_mul] at this
  omega
theorem rU_bound (B : Int) (l : List Int) (hl : ∀ b ∈ l, 0 ≤ b ∧ b < 256) : 0 ≤ (rU B l).1 ∧ (rU B l).1 < 18446744073709551616 := by
  unfold rU
  split
  · rename_i hB
    rcases rdl_all fitU B hB l hl with h | h | ⟨f, b, t, rfl, hf, hb0, hb, h1, h2, h⟩
    · rw [h]; simp
    · rw [h]; simp
    · rw [h]
      refine ⟨(val_bound _).1, ?_⟩
      rcases hB with rfl | rfl
      · have := goodU 32 f b hb0 hb (by omega) (by intro h'; have := h2 (by omega); rwa [show ((32 - 7 * f.length : Nat) : Int) = 32 - 7 * (f.length : Int) from by omega])
        omega
      · have := goodU 64 f b hb0 hb (by omega) (by intro h'; have := h2 (by omega); rwa [show ((64 - 7 * f.length : Nat) : Int) = 64 - 7 * (f.length : Int) from by omega])
        omega
  · simp
theorem val_last (f : List Int) (b : Int) (h0 : 0 ≤ b) (h1 : b < 128) : val (f ++ [b]) = val f + b * 128 ^ f.length := by
  rw [val_append]
  have : b % 128 = b := by omega
  simp [val, this]
theorem fitS_one (b : Int) (h : fitS b 1 = true) : b = 0 ∨ b = 127 := by
  simp [fitS] at h
  exact h
end Go.Proofs.YtakpkdckajjooabGreatDoor
namespace Go.Proofs.YtakpkdckajjooabGreatDoor
theorem nums_str {xs : List Int} (h : ∀ b ∈ xs, 0 ≤ b ∧ b < 256) : nums (strOfNums xs) = xs := by
  rw [nums, strOfNums_data, List.map_map]
  conv => rhs; rw [← List.map_id xs]
  apply List.map_congr_left
  intro b hb
  have := h b hb
  simp only [Function.comp_apply, UInt8.toNat_ofNat', id_eq]
  omega
theorem nums_append (s t : ByteArray) : nums (s ++ t) = nums s ++ nums t := by
  have : (s ++ t).data.toList = s.data.toList ++ t.data.toList := by
    rw [ByteArray.data_append]; simp
  rw [nums, this, List.map_append]; rfl
end Go.Proofs.YtakpkdckajjooabGreatDoor
namespace Go.Proofs.YtakpkdckajjooabGreatDoor
open Go.RowKit
theorem resU (B : Int) (hB : B = 32 ∨ B = 64) (l : List Int) (hl : ∀ b ∈ l, 0 ≤ b ∧ b < 256) :
    (∃ e : Int, (e != 0) = true ∧ rU B l = (0, 0, e)) ∨ ∃ m k : Nat, m ≤ 18446744073709551615 ∧ (uB m).length ≤ k ∧ k ≤ l.length ∧ rU B l = ((m : Int), (k : Int), 0) := by
  have hb := rU_bound B l hl
  have hu : rU B l = rdl fitU B l 0 0 := by rw [rU, if_pos hB]
  rcases rdl_all fitU B hB l hl with h | h | ⟨f, b, t, e, hf, hb0, hb1, h1, h2, h⟩
  · left; exact ⟨3, rfl, by rw [hu, h]⟩
  · left; exact ⟨4, rfl, by rw [hu, h]⟩
  · right
    rw [hu, h] at hb
    have hv := val_bound (f ++ [b])
    rw [List.length_append, List.length_singleton] at hv
    refine ⟨(val (f ++ [b])).toNat, f.length + 1, by omega, uB_len _ _ ?_, ?_, ?_⟩
    · have : ((val (f ++ [b])).toNat : Int) < (128 ^ (f.length + 1) : Nat) := by
        rw [Int.toNat_of_nonneg hv.1, Int.natCast_pow]; exact hv.2
      omega
    · rw [e, List.length_append, List.length_cons]; omega
    · rw [hu, h, Int.toNat_of_nonneg hv.1]; rfl
theorem resS (B : Int) (hB : B = 32 ∨ B = 64) (l : List Int) (hl : ∀ b ∈ l, 0 ≤ b ∧ b < 256) :
    (∃ e : Int, (e != 0) = true ∧ rS B l = (0, 0, e)) ∨ ∃ n : Int, ∃ k : Nat, -9223372036854775808 ≤ n ∧ n ≤ 9223372036854775807 ∧ (sB n).length ≤ k ∧ k ≤ l.length ∧ rS B l = (n, (k : Int), 0) := by
  rcases rdl_all fitS B hB l hl with h | h | ⟨f, b, t, e, hf, hb0, hb1, h1, h2, h⟩
  · left; exact ⟨3, rfl, by rw [rS, if_pos hB, h]; simp⟩
  · left; exact ⟨4, rfl, by rw [rS, if_pos hB, h]; simp⟩
  · right
    have hv := val_bound f
    have hl9 : f.length ≤ 9 := by omega
    have e2 : l.getD f.length 0 = b := by rw [e]; simp
    have e0 : ((f.length : Int) + 1 - 1).toNat = f.length := by omega
    have e1 : ((f.length : Int) + 1).toNat = f.length + 1 := by omega
    have hp : (0 : Int) < 128 ^ f.length := Int.pow_pos (by omega)
    have hr : rS B l = (val (f ++ [b]) - (if 64 ≤ b then 128 ^ (f.length + 1) else 0), (f.length : Int) + 1, 0) := by
      rw [rS, if_pos hB, h]
      simp only [e0, e1, e2, if_true]
    have hn : -(64 * 128 ^ f.length) ≤ val (f ++ [b]) - (if 64 ≤ b then 128 ^ (f.length + 1) else 0) ∧ val (f ++ [b]) - (if 64 ≤ b then 128 ^ (f.length + 1) else 0) < 64 * 128 ^ f.length := by
      rw [val_last f b hb0 hb1, Int.pow_succ]
      split
      · have a1 : 64 * 128 ^ f.length ≤ b * 128 ^ f.length := Int.mul_le_mul_of_nonneg_right (by omega) (by omega)
        have a2 : b * 128 ^ f.length ≤ 127 * 128 ^ f.length := Int.mul_le_mul_of_nonneg_right (by omega) (by omega)
        omega
      · have a1 : 0 ≤ b * 128 ^ f.length := Int.mul_nonneg hb0 (by omega)
        have a2 : b * 128 ^ f.length ≤ 63 * 128 ^ f.length := Int.mul_le_mul_of_nonneg_right (by omega) (by omega)
        omega
    have hbd : -9223372036854775808 ≤ val (f ++ [b]) - (if 64 ≤ b then 128 ^ (f.length + 1) else 0) ∧ val (f ++ [b]) - (if 64 ≤ b then 128 ^ (f.length + 1) else 0) ≤ 9223372036854775807 := by
      by_cases h8 : f.length ≤ 8
      · have := pow7 (f.length + 1) (by omega)
        rw [Int.pow_succ] at this
        omega
      · have e9 : f.length = 9 := by omega
        have hB64 : B = 64 := by omega
        have hf9 := h2 (by omega)
        rw [hB64, e9] at hf9
        have := fitS_one b hf9
        rw [e9] at hv
        rw [val_last f b hb0 hb1, e9]
        rcases this with rfl | rfl
        · simp; omega
        · simp; omega
    refine ⟨_, f.length + 1, hbd.1, hbd.2, sB_len _ _ hn.1 hn.2, ?_, hr⟩
    rw [e, List.length_append, List.length_cons]; omega
end Go.Proofs.YtakpkdckajjooabGreatDoor
namespace Go.Proofs.YtakpkdckajjooabGreatDoor
open Go.RowKit
theorem Tryz.info5 : (Tryz.prog.info? 5).map (fun i => (i.zero, i.size, i.bytes)) = some (some (.int .u8 0), 1, 1) := by kernel_rfl
theorem fitsU_yes (n : Int) (w : World) (h : n < 128) :
    Calls Tryz.prog 99 #[.int .u64 n] w fun e w' => e = .returned (.bool true) ∧ w' = w := by
  go_enter Tryz.func99, Tryz.ntmps99
  go_wp2
  go_ret
  exact ⟨by simp, rfl⟩
theorem fitsU_no (n : Int) (w : World) (h : ¬ n < 128) :
    Calls Tryz.prog 99 #[.int .u64 n] w fun e w' => e = .returned (.bool false) ∧ w' = w := by
  go_enter Tryz.func99, Tryz.ntmps99
  go_wp2
  go_ret
  exact ⟨by simp, rfl⟩
theorem own_string {w : World} {base n : Nat} {v : Value} {ns : List Int} (h : w.ownsRow base 5 1 v (n + 1) (ns.map (Value.int .u8))) :
    ∃ g cap, v = .slice (some ⟨g, 0, none⟩) (n + 1) cap ∧ (convert 139 9 (.slice (some ⟨g, 0, none⟩) (n + 1) cap)).run Tryz.prog w = .ok (.string (strOfNums ns)) w := by
  have hc := fun g hg => World.ownsRow.cells h (g := g) hg
  obtain ⟨hl, h2⟩ := h
  rcases h2 with ⟨_, h0⟩ | ⟨g, cap, cur, rfl, hb, hg, hle, hcap, hcs, htk⟩
  · omega
  · refine ⟨g, cap, rfl, ?_⟩
    refine run_convert_bytes_arg w 139 5 Tryz.underlying139 Tryz.underlying5 g 0 (n + 1) cap ns (by simpa using hl) ?_ 9 Tryz.underlying9
    intro i hi
    have hil : i < ns.length := by simp at hl; omega
    have := hc g rfl i (.int .u8 (ns.getD i 0)) (by simp [List.getElem?_eq_getElem hil])
    have hadd : (⟨g, 0, none⟩ : Addr).add i = ⟨g, 0 + i, none⟩ := by unfold Addr.add; split <;> simp_all
    rw [hadd] at this
    exact this
theorem writeU_any (n : Nat) (hn : n ≤ 18446744073709551615) (w : World) :
    Calls Tryz.prog 98 #[.int .u64 n, .func (.func 99) #[] #[]] w fun e w' => e = .returned (.string (strOfNums (uB n))) ∧ Below w.heap.size w w' := by
  obtain ⟨i0, hi, hz0, hz1, hz2⟩ := info_parts Tryz.info5
  go_enter Tryz.func98, Tryz.ntmps98
  go_wp2
  go_loopw [0, 5] (fun t v wr => ∃ m : Nat, ∃ pre : List Int, t = .int .u64 m ∧ m ≤ 18446744073709551615 ∧ pre.length + (uB m).length ≤ 10 ∧ Hid (pre ++ uB m = uB n) ∧
      wr.ownsRow w.heap.size 5 1 v pre.length (pre.map (Value.int .u8)) ∧ Below w.heap.size w wr) (fun t _ _ => (intOf t).toNat)
  case atStart => exact ⟨n, [], rfl, hn, by simpa using uB_len64 n hn, by unfold Hid; simp, World.ownsRow_nil _ _ _ _, Below.refl _ _⟩
  case round =>
    obtain ⟨m, pre, rfl, hm, hlen, hpre, hown, hnx⟩ := hrel
    have hp := uB_pos m
    have hand := and127_u64 m hm
    have hor : bits BinOp.or IntKind.u8 ((m : Int) % 128) 128 = (m : Int) % 128 + 128 := u8_or128_right _ (by omega) (by omega)
    have hsz := hnx.size
    by_cases hlt : m < 128
    · go_wp2_with (first | (go_at_call 99; refine (fitsU_yes _ _ (by omega)).mono ?_; rintro e w' ⟨rfl, rfl⟩) | (at_builtin; refine wpList_append_own _ rfl _ _ 139 rfl w.heap.size 5 i0 (.int .u8 0) 1 1 Tryz.underlying139 hi hz0 hz1 hz2 rfl (by decide) _ _ _ rfl (hown.alloc _) ⟨_, 0, none⟩ 1 1 [.int .u8 ((m : Int) % 128)] rfl rfl ?c1 ?c2 ?c3 ?c4 ?c5 ?_))
      case c1 => exact cell_one_new _ _ _
      case c2 => intro u hu; simp at hu; subst hu; rfl
      case c3 => unfold maxLen; omega
      case c4 => omega
      case c5 => simp; omega
      · intro v' w1 hown' hgrow _
        have hown2 : w1.ownsRow w.heap.size 5 1 v' (pre.length + 1) ((pre ++ [(m : Int) % 128]).map (Value.int .u8)) := by simpa using hown'
        obtain ⟨g, cap, rfl, hconv⟩ := own_string hown2
        have hb : Below w.heap.size w w1 := (hnx.alloc (by omega) _).grown hgrow (by simp; omega) (fun k hk => (hown.lt k hk).1)
        have hfin : Hid (pre ++ [(m : Int) % 128] = uB n) := by unfold Hid; rw [← hpre.out, uB_lo hlt]; congr 2; omega
        clear hown' hown2 hgrow hown hnx hpre hand hor
        go_wp2
        go_ret
        exact ⟨by rw [hfin.out]; rfl, hb⟩
    · go_wp2_with (first | (go_at_call 99; refine (fitsU_no _ _ (by omega)).mono ?_; rintro e w' ⟨rfl, rfl⟩) | (at_builtin; refine wpList_append_own _ rfl _ _ 139 rfl w.heap.size 5 i0 (.int .u8 0) 1 1 Tryz.underlying139 hi hz0 hz1 hz2 rfl (by decide) _ _ _ rfl (hown.alloc _) ⟨_, 0, none⟩ 1 1 [.int .u8 ((m : Int) % 128 + 128)] rfl rfl ?c1 ?c2 ?c3 ?c4 ?c5 ?_))
      case c1 => exact cell_one_new _ _ _
      case c2 => intro u hu; simp at hu; subst hu; rfl
      case c3 => unfold maxLen; omega
      case c4 => omega
      case c5 => simp; omega
      · intro v' w1 hown' hgrow _
        have hown2 : w1.ownsRow w.heap.size 5 1 v' (pre ++ [(m : Int) % 128 + 128]).length ((pre ++ [(m : Int) % 128 + 128]).map (Value.int .u8)) := by simpa using hown'
        have hb : Below w.heap.size w w1 := (hnx.alloc (by omega) _).grown hgrow (by simp; omega) (fun k hk => (hown.lt k hk).1)
        have hfin : Hid (pre ++ [(m : Int) % 128 + 128] ++ uB (m / 128) = uB n) := by unfold Hid; rw [← hpre.out, uB_hi hlt]; simp
        have hl2 : (uB m).length = (uB (m / 128)).length + 1 := by rw [uB_hi hlt]; simp
        have hl3 : (pre ++ [(m : Int) % 128 + 128]).length + (uB (m / 128)).length ≤ 10 := by simp; omega
        clear hown' hgrow hown hnx hpre hand hor hl2
        go_wp2
        go_roundw
        case rel => exact ⟨m / 128, _, by go_num, by omega, hl3, hfin, hown2, hb⟩
        case measure => simp [intOf]; omega
end Go.Proofs.YtakpkdckajjooabGreatDoor
namespace Go.Proofs.YtakpkdckajjooabGreatDoor
open Go.RowKit
theorem fitsS_yes (n : Int) (w : World) (h0 : -64 ≤ n) (h : n < 64) :
    Calls Tryz.prog 92 #[.int .i64 n] w fun e w' => e = .returned (.bool true) ∧ w' = w := by
  go_enter Tryz.func92, Tryz.ntmps92
  go_wp2
  go_ret
  exact ⟨by simp, rfl⟩
theorem fitsS_no (n : Int) (w : World) (h : ¬ (-64 ≤ n ∧ n < 64)) :
    Calls Tryz.prog 92 #[.int .i64 n] w fun e w' => e = .returned (.bool false) ∧ w' = w := by
  by_cases h0 : -64 ≤ n
  · have h1 : ¬ n < 64 := by omega
    clear h
    go_enter Tryz.func92, Tryz.ntmps92
    go_wp2
    go_ret
    exact ⟨by simp, rfl⟩
  · clear h
    go_enter Tryz.func92, Tryz.ntmps92
    go_wp2
    go_ret
    exact ⟨by simp, rfl⟩
theorem writeS_any (n : Int) (hn1 : -9223372036854775808 ≤ n) (hn2 : n ≤ 9223372036854775807) (w : World) :
    Calls Tryz.prog 91 #[.int .i64 n, .func (.func 92) #[] #[]] w fun e w' => e = .returned (.string (strOfNums (sB n))) ∧ Below w.heap.size w w' := by
  obtain ⟨i0, hi, hz0, hz1, hz2⟩ := info_parts Tryz.info5
  go_enter Tryz.func91, Tryz.ntmps91
  go_wp2
  go_loopw [0, 5] (fun t v wr => ∃ m : Int, ∃ pre : List Int, t = .int .i64 m ∧ -9223372036854775808 ≤ m ∧ m ≤ 9223372036854775807 ∧ pre.length + (sB m).length ≤ 10 ∧ Hid (pre ++ sB m = sB n) ∧
      wr.ownsRow w.heap.size 5 1 v pre.length (pre.map (Value.int .u8)) ∧ Below w.heap.size w wr) (fun t _ _ => (intOf t).natAbs)
  case atStart => exact ⟨n, [], rfl, hn1, hn2, by simpa using sB_len64 n hn1 hn2, by unfold Hid; simp, World.ownsRow_nil _ _ _ _, Below.refl _ _⟩
  case round =>
    obtain ⟨m, pre, rfl, hm1, hm2, hlen, hpre, hown, hnx⟩ := hrel
    have hp := sB_pos m
    have hand := i64_and127 m
    have hor : bits BinOp.or IntKind.u8 (m % 128) 128 = m % 128 + 128 := u8_or128_right _ (by omega) (by omega)
    have hsz := hnx.size
    by_cases hlt : -64 ≤ m ∧ m < 64
    · go_wp2_with (first | (go_at_call 92; refine (fitsS_yes _ _ hlt.1 hlt.2).mono ?_; rintro e w' ⟨rfl, rfl⟩) | (at_builtin; refine wpList_append_own _ rfl _ _ 139 rfl w.heap.size 5 i0 (.int .u8 0) 1 1 Tryz.underlying139 hi hz0 hz1 hz2 rfl (by decide) _ _ _ rfl (hown.alloc _) ⟨_, 0, none⟩ 1 1 [.int .u8 (m % 128)] rfl rfl ?c1 ?c2 ?c3 ?c4 ?c5 ?_))
      case c1 => exact cell_one_new _ _ _
      case c2 => intro u hu; simp at hu; subst hu; rfl
      case c3 => unfold maxLen; omega
      case c4 => omega
      case c5 => simp; omega
      · intro v' w1 hown' hgrow _
        have hown2 : w1.ownsRow w.heap.size 5 1 v' (pre.length + 1) ((pre ++ [m % 128]).map (Value.int .u8)) := by simpa using hown'
        obtain ⟨g, cap, rfl, hconv⟩ := own_string hown2
        have hb : Below w.heap.size w w1 := (hnx.alloc (by omega) _).grown hgrow (by simp; omega) (fun k hk => (hown.lt k hk).1)
        have hfin : Hid (pre ++ [m % 128] = sB n) := by unfold Hid; rw [← hpre.out, sB_lo hlt]
        clear hown' hown2 hgrow hown hnx hpre hand hor
        go_wp2
        go_ret
        exact ⟨by rw [hfin.out]; rfl, hb⟩
    · go_wp2_with (first | (go_at_call 92; refine (fitsS_no _ _ hlt).mono ?_; rintro e w' ⟨rfl, rfl⟩) | (at_builtin; refine wpList_append_own _ rfl _ _ 139 rfl w.heap.size 5 i0 (.int .u8 0) 1 1 Tryz.underlying139 hi hz0 hz1 hz2 rfl (by decide) _ _ _ rfl (hown.alloc _) ⟨_, 0, none⟩ 1 1 [.int .u8 (m % 128 + 128)] rfl rfl ?c1 ?c2 ?c3 ?c4 ?c5 ?_))
      case c1 => exact cell_one_new _ _ _
      case c2 => intro u hu; simp at hu; subst hu; rfl
      case c3 => unfold maxLen; omega
      case c4 => omega
      case c5 => simp; omega
      · intro v' w1 hown' hgrow _
        have hown2 : w1.ownsRow w.heap.size 5 1 v' (pre ++ [m % 128 + 128]).length ((pre ++ [m % 128 + 128]).map (Value.int .u8)) := by simpa using hown'
        have hb : Below w.heap.size w w1 := (hnx.alloc (by omega) _).grown hgrow (by simp; omega) (fun k hk => (hown.lt k hk).1)
        have hfin : Hid (pre ++ [m % 128 + 128] ++ sB (m / 128) = sB n) := by unfold Hid; rw [← hpre.out, sB_hi hlt]; simp
        have hl2 : (sB m).length = (sB (m / 128)).length + 1 := by rw [sB_hi hlt]; simp
        have hl3 : (pre ++ [m % 128 + 128]).length + (sB (m / 128)).length ≤ 10 := by simp; omega
        clear hown' hgrow hown hnx hpre hand hor hl2
        go_wp2
        go_roundw
        case rel => exact ⟨m / 128, _, by go_num, by omega, by omega, hl3, hfin, hown2, hb⟩
        case measure => simp [intOf]; omega
theorem u_any (n : Nat) (hn : n ≤ 18446744073709551615) (w : World) :
    Calls Tryz.prog 90 #[.int .u64 n] w fun e w' => e = .returned (.string (strOfNums (uB n))) ∧ Below w.heap.size w w' := by
  go_enter Tryz.func90, Tryz.ntmps90
  go_wp2_with (go_at_call 98; refine (writeU_any n hn _).mono ?_; rintro e w' ⟨rfl, hb⟩)
  go_ret
  exact ⟨rfl, hb⟩
theorem s_any (n : Int) (hn1 : -9223372036854775808 ≤ n) (hn2 : n ≤ 9223372036854775807) (w : World) :
    Calls Tryz.prog 69 #[.int .i64 n] w fun e w' => e = .returned (.string (strOfNums (sB n))) ∧ Below w.heap.size w w' := by
  go_enter Tryz.func69, Tryz.ntmps69
  go_wp2_with (go_at_call 91; refine (writeS_any n hn1 hn2 _).mono ?_; rintro e w' ⟨rfl, hb⟩)
  go_ret
  exact ⟨rfl, hb⟩
end Go.Proofs.YtakpkdckajjooabGreatDoor
namespace Go.Proofs.YtakpkdckajjooabGreatDoor
open Go.RowKit
theorem backU (B : Int) (n m : Nat) (r : List Int) (hB : (B = 32 ∧ m = 4 ∧ n < 4294967296) ∨ (B = 64 ∧ m = 9 ∧ n < 18446744073709551616)) : rU B (uB n ++ r) = ((n : Int), ((uB n).length : Int), 0) := by
  have hlen : (uB n).length ≤ m + 1 := by
    refine uB_len m n ?_
    rcases hB with ⟨_, rfl, h⟩ | ⟨_, rfl, h⟩
    · have : (128 : Nat) ^ (4 + 1) = 34359738368 := by decide
      omega
    · have : (128 : Nat) ^ (9 + 1) = 1180591620717411303424 := by decide
      omega
  obtain ⟨f, b, h1, h2, h3, h4, h5⟩ := uB_split n
  have hv := val_bound f
  rw [h1, List.length_append, List.length_singleton] at hlen ⊢
  rw [rU, if_pos (by omega), List.append_assoc, List.singleton_append, rdl_good f r b h2 h3 h4 (by omega) ?_, h5]
  · rfl
  · intro h7
    rw [val_last f b h3 h4] at h5
    rcases hB with ⟨rfl, rfl, h⟩ | ⟨rfl, rfl, h⟩
    · have e : f.length = 4 := by omega
      rw [e] at h5 hv ⊢
      have hb : b < 16 := by omega
      simp only [fitU, beq_iff_eq]
      exact Int.ediv_eq_zero_of_lt h3 (by simpa using hb)
    · have e : f.length = 9 := by omega
      rw [e] at h5 hv ⊢
      have hb : b < 2 := by omega
      simp only [fitU, beq_iff_eq]
      exact Int.ediv_eq_zero_of_lt h3 (by simpa using hb)
theorem backS (B : Int) (n : Int) (m : Nat) (r : List Int) (hB : (B = 32 ∧ m = 4 ∧ -2147483648 ≤ n ∧ n < 2147483648) ∨ (B = 64 ∧ m = 9 ∧ -9223372036854775808 ≤ n ∧ n < 9223372036854775808)) : rS B (sB n ++ r) = (n, ((sB n).length : Int), 0) := by
  have hlen : (sB n).length ≤ m + 1 := by
    refine sB_len m n ?_ ?_
    · rcases hB with ⟨_, rfl, h⟩ | ⟨_, rfl, h⟩ <;> omega
    · rcases hB with ⟨_, rfl, h⟩ | ⟨_, rfl, h⟩ <;> omega
  obtain ⟨f, b, h1, h2, h3, h4, h5⟩ := sB_split _ n (Nat.lt_succ_self _)
  have hv := val_bound f
  rw [h1, List.length_append, List.length_singleton] at hlen ⊢
  have hg : rdl fitS B (f ++ [b] ++ r) 0 0 = (val (f ++ [b]), (f.length : Int) + 1, 0) := by
    rw [List.append_assoc, List.singleton_append]
    refine rdl_good f r b h2 h3 h4 (by omega) ?_
    intro h7
    rw [val_last f b h3 h4] at h5
    rcases hB with ⟨rfl, rfl, h⟩ | ⟨rfl, rfl, h⟩
    · have e : f.length = 4 := by omega
      rw [e] at h5 hv ⊢
      have hb : b < 8 ∨ 120 ≤ b := by split at h5 <;> omega
      simp only [fitS, Bool.or_eq_true, beq_iff_eq]
      rcases hb with hb | hb
      · left; exact Int.ediv_eq_zero_of_lt h3 (by simpa using hb)
      · right; simp; omega
    · have e : f.length = 9 := by omega
      rw [e] at h5 hv ⊢
      have hb : b < 1 ∨ 127 ≤ b := by split at h5 <;> omega
      simp only [fitS, Bool.or_eq_true, beq_iff_eq]
      rcases hb with hb | hb
      · left; exact Int.ediv_eq_zero_of_lt h3 (by simpa using hb)
      · right; simp; omega
  have e2 : (f ++ [b] ++ r).getD f.length 0 = b := by rw [List.append_assoc]; simp
  have e0 : ((f.length : Int) + 1 - 1).toNat = f.length := by omega
  have e1 : ((f.length : Int) + 1).toNat = f.length + 1 := by omega
  rw [rS, if_pos (by omega), hg]
  simp only [e0, e1, e2, if_true]
  rw [h5]
  have : n + (if 64 ≤ b then 128 ^ (f.length + 1) else 0) - (if 64 ≤ b then 128 ^ (f.length + 1) else 0) = n := by omega
  rw [this]; rfl
end Go.Proofs.YtakpkdckajjooabGreatDoor
