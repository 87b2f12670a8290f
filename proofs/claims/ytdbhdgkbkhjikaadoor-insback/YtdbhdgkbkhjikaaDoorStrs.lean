/-
  Strings that are made of numbers, joined, cut: the numbers of their bytes.
-/
import Derived.Test.YtdbhdgkbkhjikaaDoorReadMore
import Derived.Lib.Strings
import Derived.Laws.Concat
namespace Go.Proofs.YtdbhdgkbkhjikaaDoor

theorem nums_str {xs : List Int} (h : ∀ b ∈ xs, 0 ≤ b ∧ b < 256) : nums (strOfNums xs) = xs := by
  rw [nums, strOfNums_data, List.map_map]
  conv => rhs; rw [← List.map_id xs]
  apply List.map_congr_left
  intro b hb
  have := h b hb
  simp only [Function.comp_apply, UInt8.toNat_ofNat', id_eq]
  omega
theorem nums_extract (s : ByteArray) (a b : Nat) : nums (s.extract a b) = ((nums s).drop a).take (b - a) := by
  rw [nums, Lib.extract_data, nums, List.map_take, List.map_drop]
theorem nums_append (s t : ByteArray) : nums (s ++ t) = nums s ++ nums t := by
  have : (s ++ t).data.toList = s.data.toList ++ t.data.toList := by
    rw [ByteArray.data_append]; simp
  rw [nums, this, List.map_append]; rfl
theorem str_empty {xs : List Int} (h : 1 ≤ xs.length) : (strOfNums xs).toList.isEmpty = false := by
  cases xs with
  | nil => simp at h
  | cons x xs =>
    have e : (strOfNums (x :: xs)).toList = (x :: xs).map fun n => UInt8.ofNat n.toNat := by
      rw [← strOfNums_data, Lib.toList_data]
    rw [e]; rfl

/-- A beginning of what is written says that more follows, all the way. -/
theorem uB_take (n r : Nat) (h : r < (uB n).length) : ∀ b ∈ (uB n).take r, 128 ≤ b ∧ b < 256 := by
  obtain ⟨f, b, h1, h2, _⟩ := uB_split n
  rw [h1, List.length_append, List.length_singleton] at h
  rw [h1, List.take_append_of_le_length (by omega)]
  exact fun x hx => h2 x (List.mem_of_mem_take hx)
theorem sB_take (n : Int) (r : Nat) (h : r < (sB n).length) : ∀ b ∈ (sB n).take r, 128 ≤ b ∧ b < 256 := by
  obtain ⟨f, b, h1, h2, _⟩ := sB_split _ n (Nat.lt_succ_self _)
  rw [h1, List.length_append, List.length_singleton] at h
  rw [h1, List.take_append_of_le_length (by omega)]
  exact fun x hx => h2 x (List.mem_of_mem_take hx)

end Go.Proofs.YtdbhdgkbkhjikaaDoor
