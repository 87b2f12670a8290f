/-
  Plain mathematics of words: bits of a number, the lowest first.
-/
import Derived.Laws.Bits128
import Derived.Laws.BitsAllLaws
import Derived.Laws.BitsLemmas
namespace Go.Proofs.Ytomiganjagjabaa

/-- Bit i of a number. -/
def bitAt (a : Int) (i : Nat) : Bool := a / 2 ^ i % 2 == 1
/-- The lowest w bits of a number. -/
def wordB (a : Int) (w : Nat) : List Bool := (List.range w).map (bitAt a)
theorem wordB_length (a : Int) (w : Nat) : (wordB a w).length = w := by simp [wordB]
theorem wordB_succ (a : Int) (w : Nat) : wordB a (w + 1) = wordB a w ++ [bitAt a w] := by simp [wordB, List.range_succ]
theorem wordB_get (a : Int) (w i : Nat) (h : i < w) : (wordB a w).getD i false = bitAt a i := by
  rw [List.getD_eq_getElem?_getD, List.getElem?_eq_getElem (by rw [wordB_length]; exact h)]
  simp [wordB]
theorem wordB_take (a : Int) (w k : Nat) (h : k ≤ w) : (wordB a w).take k = wordB a k := by
  unfold wordB
  rw [← List.map_take, List.take_range, Nat.min_eq_left h]

/-- The number without a sign that bits stand for. -/
def wval : List Bool → Int
  | [] => 0
  | b :: r => (if b then 1 else 0) + 2 * wval r
theorem wval_bound : ∀ l : List Bool, 0 ≤ wval l ∧ wval l < 2 ^ l.length
  | [] => by simp [wval]
  | b :: r => by
    have := wval_bound r
    rw [wval, List.length_cons, Int.pow_succ]
    split <;> omega
theorem wval_append : ∀ (f g : List Bool), wval (f ++ g) = wval f + wval g * 2 ^ f.length
  | [], g => by simp [wval]
  | b :: f, g => by
    rw [List.cons_append, wval, wval, wval_append f g, List.length_cons, Int.pow_succ, Int.mul_add, ← Int.add_assoc, Int.mul_comm (2 ^ f.length) 2, Int.mul_left_comm 2 (wval g)]
theorem wval_snoc (l : List Bool) (b : Bool) : wval (l ++ [b]) = wval l + (if b then 2 ^ l.length else 0) := by
  rw [wval_append]
  cases b <;> simp [wval]
theorem wval_word (a : Int) (w : Nat) : wval (wordB a w) = a % 2 ^ w := by
  induction w with
  | zero => simp [wordB, wval]
  | succ w ih =>
    rw [wordB_succ, wval_snoc, ih, wordB_length, Int.pow_succ]
    have hp : (0 : Int) < 2 ^ w := Int.pow_pos (by omega)
    have e1 := Int.emod_add_mul_ediv a (2 ^ w)
    have e2 := Int.emod_add_mul_ediv a (2 ^ w * 2)
    have e3 : a / (2 ^ w * 2) = a / 2 ^ w / 2 := (Int.ediv_ediv_of_nonneg (by omega)).symm
    have e4 : a % (2 ^ w * 2) = a % 2 ^ w + 2 ^ w * (a / 2 ^ w % 2) := by
      have h1 : a / 2 ^ w = 2 * (a / 2 ^ w / 2) + a / 2 ^ w % 2 := by omega
      have h2 : a % (2 ^ w * 2) = a - 2 ^ w * 2 * (a / 2 ^ w / 2) := by rw [← e3]; omega
      have h3 : 2 ^ w * (a / 2 ^ w) = 2 ^ w * 2 * (a / 2 ^ w / 2) + 2 ^ w * (a / 2 ^ w % 2) := by
        conv => lhs; rw [h1]
        rw [Int.mul_add, Int.mul_assoc]
      omega
    rw [e4]
    unfold bitAt
    have hm : a / 2 ^ w % 2 = 0 ∨ a / 2 ^ w % 2 = 1 := by omega
    rcases hm with hm | hm <;> simp [hm]

end Go.Proofs.Ytomiganjagjabaa
