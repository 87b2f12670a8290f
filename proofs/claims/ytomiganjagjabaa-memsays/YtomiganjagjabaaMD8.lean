/-
  The bits of bytes are the bits of the number that they are.
-/
import Derived.Test.YtomiganjagjabaaMM11
import Derived.Test.YtomiganjagjabaaMWord2
namespace Go.Proofs.Ytomiganjagjabaa
open Go.RowKit

theorem numN_div : ∀ (d : List Int) (j : Nat), Bts d → j < d.length → numN d / 2 ^ (8 * j) % 256 = (d.getD j 0).toNat
  | [], j, _, hj => by simp at hj
  | x :: d, 0, h, _ => by
    have := h x (List.mem_cons_self ..)
    simp [numN]
    omega
  | x :: d, j + 1, h, hj => by
    have h1 := h x (List.mem_cons_self ..)
    have h2 := numN_div d j (fun y hy => h y (List.mem_cons_of_mem _ hy)) (by simpa using hj)
    rw [List.getD_cons_succ, ← h2, Nat.mul_succ, Nat.add_comm (8 * j) 8, Nat.pow_add, ← Nat.div_div_eq_div_mul]
    have : numN (x :: d) / 2 ^ 8 = numN d := by
      rw [numN]
      omega
    rw [this]
theorem bit_same (d : List Int) (i : Nat) (h : Bts d) (hi : i < 8 * d.length) : (d.getD (i / 8) 0) / 2 ^ (i % 8) % 2 = ((numN d : Nat) : Int) / 2 ^ i % 2 := by
  have h1 := numN_div d (i / 8) h (by omega)
  have hb : 0 ≤ d.getD (i / 8) 0 := by
    have hl : i / 8 < d.length := by omega
    have := h d[i / 8] (List.getElem_mem hl)
    simp only [List.getD, List.getElem?_eq_getElem hl, Option.getD_some]
    omega
  have e1 : d.getD (i / 8) 0 = ((numN d / 2 ^ (8 * (i / 8)) % 256 : Nat) : Int) := by omega
  have e2 : numN d / 2 ^ i = numN d / 2 ^ (8 * (i / 8)) / 2 ^ (i % 8) := by
    rw [Nat.div_div_eq_div_mul, ← Nat.pow_add]
    congr 2
    omega
  have e3 : ∀ (x r : Nat), r < 8 → x % 256 / 2 ^ r % 2 = x / 2 ^ r % 2 := fun x r hr => by
    have : r = 0 ∨ r = 1 ∨ r = 2 ∨ r = 3 ∨ r = 4 ∨ r = 5 ∨ r = 6 ∨ r = 7 := by omega
    rcases this with rfl | rfl | rfl | rfl | rfl | rfl | rfl | rfl <;> simp <;> omega
  have e4 := e3 (numN d / 2 ^ (8 * (i / 8))) (i % 8) (by omega)
  rw [← e2] at e4
  rw [e1]
  exact_mod_cast e4
theorem word_plain (N wd : Nat) (hN : N < 2 ^ (8 * wd)) : wval (wordB (N : Int) (8 * wd)) = (N : Int) := by
  rw [wval_word]
  have : (N : Int) < 2 ^ (8 * wd) := by exact_mod_cast hN
  exact Int.emod_eq_of_lt (by omega) this
theorem word_signed (N wd : Nat) (h : wd = 1 ∨ wd = 2 ∨ wd = 4 ∨ wd = 8) (hN : N < 2 ^ (8 * wd)) : wsgn (wordB (N : Int) (8 * wd)) = sgnN N (8 * (8 - wd)) := by
  unfold wsgn
  rw [word_plain N wd hN, wordB_length, wordB_get _ _ _ (by omega)]
  unfold bitAt sgnN wrap64
  rcases h with rfl | rfl | rfl | rfl
  all_goals
    simp at hN ⊢
    split <;> omega
/-- What the document's Load tells is what the program's tells. -/
theorem ld_plain (op : Int) (N wd : Nat) (h : noSign op) (_hw : wd = 1 ∨ wd = 2 ∨ wd = 4 ∨ wd = 8) (hN : N < 2 ^ (8 * wd)) : wrap64 (wval (wordB (N : Int) (8 * wd))) = ldV op wd N := by
  rw [word_plain N wd hN]
  unfold ldV
  rw [if_pos h]
theorem ld_signed (op : Int) (N wd : Nat) (h : ¬ noSign op) (hw : wd = 1 ∨ wd = 2 ∨ wd = 4 ∨ wd = 8) (hN : N < 2 ^ (8 * wd)) : wsgn (wordB (N : Int) (8 * wd)) = ldV op wd N := by
  rw [word_signed N wd hw hN]
  unfold ldV
  rw [if_neg h]
end Go.Proofs.Ytomiganjagjabaa
