/-
  Plain facts on what is UTF-8: no text that ends in the byte 255 is.
-/
import Derived.Lib.ValidU
namespace Go.Proofs.YtnkeeaelomalkabDoor

theorem get_list (l : List UInt8) (k : Nat) : (ByteArray.get! ⟨l.toArray⟩ k) = l.getD k 0 := by
  simp only [ByteArray.get!]
  rw [List.getD_eq_getElem?_getD]
  simp only [getElem!_def, List.getElem?_toArray]
  cases l[k]? with
  | none => rfl
  | some x => rfl

theorem cont_ff (l : List UInt8) (k : Nat) (h : (decide (0 + k < (ByteArray.mk (l ++ [255]).toArray).size) && ((ByteArray.mk (l ++ [255]).toArray).get! (0 + k)).toNat / 64 == 2) = true) : k < l.length := by
  rw [get_list, Nat.zero_add] at h
  simp only [Bool.and_eq_true, decide_eq_true_eq, beq_iff_eq] at h
  have hz : (ByteArray.mk (l ++ [255]).toArray).size = l.length + 1 := by
    show (l ++ [255]).toArray.size = _
    simp
  rw [hz] at h
  rcases Nat.lt_or_ge k l.length with h' | h'
  · exact h'
  · have e : k = l.length := by omega
    have : (l ++ [255]).getD k 0 = 255 := by rw [e]; simp
    rw [this] at h
    exact absurd h.2 (by decide)

theorem dec_width (l : List UInt8) (h : l ≠ []) : 1 ≤ (Lib.decodeL (l ++ [255])).2 ∧ (Lib.decodeL (l ++ [255])).2 ≤ l.length := by
  have h1 : 1 ≤ l.length := by
    cases l with
    | nil => exact absurd rfl h
    | cons x l => simp
  have c1 := cont_ff l 1
  have c2 := cont_ff l 2
  have c3 := cont_ff l 3
  unfold Lib.decodeL Utf8.decode
  simp only []
  split
  · exact ⟨Nat.le_refl _, h1⟩
  · split
    · rename_i hc
      rw [Bool.and_eq_true] at hc
      have := c1 hc.2
      split <;> simp <;> omega
    · split
      · rename_i hc
        rw [Bool.and_eq_true] at hc
        have := c2 hc.2
        split <;> simp <;> omega
      · split
        · rename_i hc
          rw [Bool.and_eq_true] at hc
          have := c3 hc.2
          split <;> simp <;> omega
        · simp; omega

theorem validGo_ff : ∀ (n : Nat) (l : List UInt8), l.length < n → Lib.validGoD n (l ++ [255]) = false
  | 0, _, h => by omega
  | n + 1, l, h => by
    rw [Lib.validGoD, if_neg (by simp)]
    by_cases hl : l = []
    · subst hl
      rw [if_pos (by decide)]
    · by_cases he : (Lib.decodeL (l ++ [255])).1 = 65533 ∧ (Lib.decodeL (l ++ [255])).2 = 1
      · rw [if_pos he]
      · rw [if_neg he]
        have hw := dec_width l hl
        rw [List.drop_append_of_le_length hw.2]
        exact validGo_ff n _ (by rw [List.length_drop]; omega)
theorem valid_ff (l : List UInt8) : Lib.validD (l ++ [255]) = false := by
  unfold Lib.validD
  exact validGo_ff _ l (by simp)

end Go.Proofs.YtnkeeaelomalkabDoor
