/-
  What the document's own span does.
  What the document's own LebReadU does.
  What the document's own LebReadS does.
  What the document's own LebReadU and LebReadS answer, for every text and every number of bits: what leb.ReadU and leb.ReadS answer.
-/
import Derived.Test.YtkceplamaocmmaaDoorGLeb
import Derived.WalkSmall
namespace Go.Proofs.YtkceplamaocmmaaDoor
open Go.RowKit

end Go.Proofs.YtkceplamaocmmaaDoor
namespace Go.Proofs.YtkceplamaocmmaaDoor
open Go.RowKit

/-- What bytes stand for, seven bits each, less c times what is one too many. -/
def sv (c : Int) : List Int → Int
  | [] => -c
  | b :: r => b % 128 + 128 * sv c r
theorem sv_zero : ∀ l : List Int, sv 0 l = val l
  | [] => rfl
  | b :: r => by rw [sv, val, sv_zero r]
theorem sv_val (c : Int) : ∀ l : List Int, sv c l = val l - c * 128 ^ l.length
  | [] => by simp [sv, val]
  | b :: r => by
    rw [sv, val, sv_val c r, List.length_cons, Int.pow_succ, Int.mul_sub, Int.mul_comm (128 ^ r.length) 128, ← Int.mul_assoc c 128, Int.mul_comm c 128, Int.mul_assoc 128 c]
    omega
theorem sv_le (l : List Int) (j : Nat) : val (l.drop j) ≤ val l := by
  induction l generalizing j with
  | nil => simp
  | cons b r ih =>
    cases j with
    | zero => simp
    | succ j =>
      have := ih j
      have h0 := (val_bound r).1
      rw [List.drop_succ_cons, val]
      omega
theorem sv_in (c : Int) (l : List Int) (j : Nat) (h1 : -9223372036854775808 ≤ sv c l) (h2 : sv c l ≤ 9223372036854775807) : -9223372036854775808 ≤ sv c (l.drop j) ∧ sv c (l.drop j) ≤ 9223372036854775807 := by
  induction l generalizing j with
  | nil => simp at *; omega
  | cons b r ih =>
    cases j with
    | zero => simp; omega
    | succ j =>
      rw [List.drop_succ_cons]
      rw [sv] at h1 h2
      exact ih j (by omega) (by omega)
theorem take_drop (s : ByteArray) (K j : Nat) (hj : j ≤ K) (hK : K < s.size) : ((nums s).take (K + 1)).drop j = (s[j].toNat : Int) :: ((nums s).take (K + 1)).drop (j + 1) := by
  have hl : j < ((nums s).take (K + 1)).length := by rw [List.length_take, nums_length]; omega
  rw [List.drop_eq_getElem_cons hl, List.getElem_take]
  congr 1
  simp only [nums, List.getElem_map]
  rfl

end Go.Proofs.YtkceplamaocmmaaDoor
namespace Go.Proofs.YtkceplamaocmmaaDoor
open Go.RowKit

end Go.Proofs.YtkceplamaocmmaaDoor
namespace Go.Proofs.YtkceplamaocmmaaDoor
open Go.RowKit

theorem at_front (s : ByteArray) (f t : List Int) (h : nums s = f ++ t) (hf : ∀ b ∈ f, 128 ≤ b ∧ b < 256) (i : Nat) (hi : i < s.size) (hif : i < f.length) : 127 < (s[i].toNat : Int) := by
  have e := nums_get s i hi
  rw [h, List.getD_eq_getElem?_getD, List.getElem?_append_left hif, List.getElem?_eq_getElem hif, Option.getD_some] at e
  have := hf _ (List.getElem_mem hif)
  omega
theorem at_last (s : ByteArray) (f t : List Int) (b : Int) (h : nums s = f ++ b :: t) : ∃ hi : f.length < s.size, (s[f.length].toNat : Int) = b ∧ (nums s).take (f.length + 1) = f ++ [b] := by
  have hi : f.length < s.size := by rw [← nums_length, h, List.length_append, List.length_cons]; omega
  refine ⟨hi, ?_, ?_⟩
  · rw [← nums_get s f.length hi, h]; simp
  · rw [h, List.take_append]
    rw [List.take_of_length_le (by omega), show f.length + 1 - f.length = 1 from by omega]; rfl
theorem fitU_of (b : Int) (r : Nat) (h0 : 0 ≤ b) (h : b < 2 ^ r) : fitU b r = true := by
  simp only [fitU, beq_iff_eq, Int.toNat_natCast]; exact Int.ediv_eq_zero_of_lt h0 h

theorem fitS_iff32 (b : Int) (h0 : 0 ≤ b) (h1 : b < 128) : fitS b 4 = false ↔ ((8 ≤ b ∧ b < 64) ∨ (64 ≤ b ∧ b < 120)) := by
  obtain ⟨m, rfl⟩ : ∃ m : Nat, b = m := ⟨b.toNat, by omega⟩
  have H : ∀ m : Fin 128, (fitS (m.val : Int) 4 = false) ↔ ((8 ≤ (m.val : Int) ∧ (m.val : Int) < 64) ∨ (64 ≤ (m.val : Int) ∧ (m.val : Int) < 120)) := by decide +kernel
  exact H ⟨m, by omega⟩
theorem fitS_iff64 (b : Int) (h0 : 0 ≤ b) (h1 : b < 128) : fitS b 1 = false ↔ ((1 ≤ b ∧ b < 64) ∨ (64 ≤ b ∧ b < 127)) := by
  obtain ⟨m, rfl⟩ : ∃ m : Nat, b = m := ⟨b.toNat, by omega⟩
  have H : ∀ m : Fin 128, (fitS (m.val : Int) 1 = false) ↔ ((1 ≤ (m.val : Int) ∧ (m.val : Int) < 64) ∨ (64 ≤ (m.val : Int) ∧ (m.val : Int) < 127)) := by decide +kernel
  exact H ⟨m, by omega⟩
end Go.Proofs.YtkceplamaocmmaaDoor
