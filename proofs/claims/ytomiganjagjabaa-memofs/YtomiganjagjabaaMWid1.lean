/-
  What the document's own InsWidth does.
-/
import Derived.Test.YtomiganjagjabaaMDig
import Derived.Test.YtomiganjagjabaaShelfC
import Derived.RegionTactic
namespace Go.Proofs.Ytomiganjagjabaa
open Go.RowKit

theorem new_block (w : World) (o : Obj) : (w.alloc o).heap[w.heap.size]? = some o := heap_alloc_new w o
/-- A struct of two cells in a block of its own. -/
def XW2 (w : World) (X : Nat) (c0 c1 : Value) : Prop := w.heap[X]? = some (.cells #[c0, c1] 76 (0, 0))
theorem XW2.lt {w : World} {X : Nat} {c0 c1 : Value} (h : XW2 w X c0 c1) : X < w.heap.size := by
  unfold XW2 at h
  exact (Array.getElem?_eq_some_iff.1 h).1
theorem XW2.cell {w : World} {X : Nat} {c0 c1 : Value} (h : XW2 w X c0 c1) : w.cell? ⟨X, 0, none⟩ = some c0 ∧ w.cell? ⟨X, 1, none⟩ = some c1 := by
  unfold XW2 at h
  simp [World.cell?, h]
theorem XW2.keep {w w' : World} {X : Nat} {c0 c1 : Value} (h : XW2 w X c0 c1) (b : Below w.drew.heap.size w.drew w') : XW2 w' X c0 c1 := by
  have hl := h.lt
  unfold XW2 at h ⊢
  rw [b.block X hl]
  exact h
/-- The document's list of widths in a block of its own. -/
def WT (w : World) (X : Nat) : Prop := w.heap[X]? = some (.cells #[.int .i64 1, .string ⟨#[44, 52, 52, 44, 52, 53, 44, 52, 56, 44, 52, 57, 44, 53, 56, 44, 54, 48, 44]⟩, .int .i64 2, .string ⟨#[44, 52, 54, 44, 52, 55, 44, 53, 48, 44, 53, 49, 44, 53, 57, 44, 54, 49, 44]⟩, .int .i64 4, .string ⟨#[44, 52, 48, 44, 53, 50, 44, 53, 51, 44, 53, 52, 44, 54, 50, 44]⟩, .int .i64 8, .string ⟨#[44, 52, 49, 44, 53, 53, 44]⟩] 76 (0, 0))
theorem WT.lt {w : World} {X : Nat} (h : WT w X) : X < w.heap.size := by
  unfold WT at h
  exact (Array.getElem?_eq_some_iff.1 h).1
theorem WT.keep {w w' : World} {X : Nat} (h : WT w X) (b : Below w.heap.size w w') : WT w' X := by
  have hl := h.lt
  unfold WT at h ⊢
  rw [b.block X hl]
  exact h
theorem WT.keepD {w w' : World} {X : Nat} (h : WT w X) (b : Below w.drew.heap.size w.drew w') : WT w' X := by
  have hl := h.lt
  unfold WT at h ⊢
  rw [b.block X hl]
  exact h
theorem WT.cell0 {w : World} {X : Nat} (h : WT w X) : w.cell? ⟨X, 0, none⟩ = some (.int .i64 1) ∧ w.cell? ⟨X, 1, none⟩ = some (.string ⟨#[44, 52, 52, 44, 52, 53, 44, 52, 56, 44, 52, 57, 44, 53, 56, 44, 54, 48, 44]⟩) := by
  unfold WT at h
  simp [World.cell?, h]
theorem WT.cell1 {w : World} {X : Nat} (h : WT w X) : w.cell? ⟨X, 2, none⟩ = some (.int .i64 2) ∧ w.cell? ⟨X, 3, none⟩ = some (.string ⟨#[44, 52, 54, 44, 52, 55, 44, 53, 48, 44, 53, 49, 44, 53, 57, 44, 54, 49, 44]⟩) := by
  unfold WT at h
  simp [World.cell?, h]
theorem WT.cell2 {w : World} {X : Nat} (h : WT w X) : w.cell? ⟨X, 4, none⟩ = some (.int .i64 4) ∧ w.cell? ⟨X, 5, none⟩ = some (.string ⟨#[44, 52, 48, 44, 53, 50, 44, 53, 51, 44, 53, 52, 44, 54, 50, 44]⟩) := by
  unfold WT at h
  simp [World.cell?, h]
theorem WT.cell3 {w : World} {X : Nat} (h : WT w X) : w.cell? ⟨X, 6, none⟩ = some (.int .i64 8) ∧ w.cell? ⟨X, 7, none⟩ = some (.string ⟨#[44, 52, 49, 44, 53, 53, 44]⟩) := by
  unfold WT at h
  simp [World.cell?, h]

/-- The digits of a byte. -/
def dig3 (n : Nat) : List UInt8 := if n < 10 then [UInt8.ofNat (48 + n)] else if n < 100 then [UInt8.ofNat (48 + n / 10), UInt8.ofNat (48 + n % 10)] else [UInt8.ofNat (48 + n / 100), UInt8.ofNat (48 + n / 10 % 10), UInt8.ofNat (48 + n % 10)]
theorem dig3_eq (n : Nat) (h : n < 256) : (strOfNums (digB n)).data.toList = dig3 n := by
  unfold dig3
  rw [strOfNums_data]
  by_cases h1 : n < 10
  · rw [if_pos h1, digB_lo h1]
    show [UInt8.ofNat (48 + (n : Int)).toNat] = _
    rw [show (48 + (n : Int)).toNat = 48 + n by omega]
  · rw [if_neg h1, digB_hi h1]
    by_cases h2 : n < 100
    · rw [if_pos h2, digB_lo (show n / 10 < 10 by omega)]
      show [UInt8.ofNat (48 + ((n / 10 : Nat) : Int)).toNat, UInt8.ofNat (48 + (n : Int) % 10).toNat] = _
      rw [show (48 + ((n / 10 : Nat) : Int)).toNat = 48 + n / 10 by omega, show (48 + (n : Int) % 10).toNat = 48 + n % 10 by omega]
    · rw [if_neg h2, digB_hi (show ¬ n / 10 < 10 by omega), digB_lo (show n / 10 / 10 < 10 by omega)]
      show [UInt8.ofNat (48 + ((n / 10 / 10 : Nat) : Int)).toNat, UInt8.ofNat (48 + ((n / 10 : Nat) : Int) % 10).toNat, UInt8.ofNat (48 + (n : Int) % 10).toNat] = _
      rw [show (48 + ((n / 10 / 10 : Nat) : Int)).toNat = 48 + n / 100 by omega, show (48 + ((n / 10 : Nat) : Int) % 10).toNat = 48 + n / 10 % 10 by omega, show (48 + (n : Int) % 10).toNat = 48 + n % 10 by omega]
theorem con_0 : ∀ n : Nat, n < 256 → Lib.contains [44, 52, 52, 44, 52, 53, 44, 52, 56, 44, 52, 57, 44, 53, 56, 44, 54, 48, 44] (44 :: (dig3 n ++ [44])) = decide (insW n = 1) := by decide +kernel
theorem con_1 : ∀ n : Nat, n < 256 → Lib.contains [44, 52, 54, 44, 52, 55, 44, 53, 48, 44, 53, 49, 44, 53, 57, 44, 54, 49, 44] (44 :: (dig3 n ++ [44])) = decide (insW n = 2) := by decide +kernel
theorem con_2 : ∀ n : Nat, n < 256 → Lib.contains [44, 52, 48, 44, 53, 50, 44, 53, 51, 44, 53, 52, 44, 54, 50, 44] (44 :: (dig3 n ++ [44])) = decide (insW n = 4) := by decide +kernel
theorem con_3 : ∀ n : Nat, n < 256 → Lib.contains [44, 52, 49, 44, 53, 53, 44] (44 :: (dig3 n ++ [44])) = decide (insW n = 8) := by decide +kernel
theorem wrap_byte (n : Nat) (h : n < 256) : IntKind.i64.wrap (n : Int) = n := by
  have : ∀ n : Nat, n < 256 → IntKind.i64.wrap (n : Int) = n := by decide +kernel
  exact this n h
theorem sub_list (n : Nat) (h : n < 256) : ((ByteArray.mk #[44] ++ strOfNums (digB n)) ++ ByteArray.mk #[44]).data.toList = 44 :: (dig3 n ++ [44]) := by
  rw [ByteArray.data_append, ByteArray.data_append, Array.toList_append, Array.toList_append, dig3_eq n h]
  rfl
theorem insW_rest (n : Int) (h1 : insW n ≠ 1) (h2 : insW n ≠ 2) (h4 : insW n ≠ 4) (h8 : insW n ≠ 8) : insW n = 0 := by
  unfold insW at *
  split at h1
  · exact absurd rfl h1
  · split at h2
    · simp_all
    · split at h4
      · simp_all
      · split at h8 <;> simp_all
theorem conc_0 (n : Nat) (h : n < 256) (b : Bool) (hb : decide (insW n = 1) = b) (w : World) (hM : MaxIn w) :
    Calls Try.prog 40 #[.string ⟨#[44, 52, 52, 44, 52, 53, 44, 52, 56, 44, 52, 57, 44, 53, 56, 44, 54, 48, 44]⟩, .string ((ByteArray.mk #[44] ++ strOfNums (digB n)) ++ ByteArray.mk #[44])] w fun e w' => e = .returned (.bool b) ∧ w' = w := by
  have := contains_any ⟨#[44, 52, 52, 44, 52, 53, 44, 52, 56, 44, 52, 57, 44, 53, 56, 44, 54, 48, 44]⟩ ((ByteArray.mk #[44] ++ strOfNums (digB n)) ++ ByteArray.mk #[44]) w (by decide) hM
  rw [sub_list n h] at this
  rw [← hb, ← con_0 n h]
  exact this
theorem conc_1 (n : Nat) (h : n < 256) (b : Bool) (hb : decide (insW n = 2) = b) (w : World) (hM : MaxIn w) :
    Calls Try.prog 40 #[.string ⟨#[44, 52, 54, 44, 52, 55, 44, 53, 48, 44, 53, 49, 44, 53, 57, 44, 54, 49, 44]⟩, .string ((ByteArray.mk #[44] ++ strOfNums (digB n)) ++ ByteArray.mk #[44])] w fun e w' => e = .returned (.bool b) ∧ w' = w := by
  have := contains_any ⟨#[44, 52, 54, 44, 52, 55, 44, 53, 48, 44, 53, 49, 44, 53, 57, 44, 54, 49, 44]⟩ ((ByteArray.mk #[44] ++ strOfNums (digB n)) ++ ByteArray.mk #[44]) w (by decide) hM
  rw [sub_list n h] at this
  rw [← hb, ← con_1 n h]
  exact this
theorem conc_2 (n : Nat) (h : n < 256) (b : Bool) (hb : decide (insW n = 4) = b) (w : World) (hM : MaxIn w) :
    Calls Try.prog 40 #[.string ⟨#[44, 52, 48, 44, 53, 50, 44, 53, 51, 44, 53, 52, 44, 54, 50, 44]⟩, .string ((ByteArray.mk #[44] ++ strOfNums (digB n)) ++ ByteArray.mk #[44])] w fun e w' => e = .returned (.bool b) ∧ w' = w := by
  have := contains_any ⟨#[44, 52, 48, 44, 53, 50, 44, 53, 51, 44, 53, 52, 44, 54, 50, 44]⟩ ((ByteArray.mk #[44] ++ strOfNums (digB n)) ++ ByteArray.mk #[44]) w (by decide) hM
  rw [sub_list n h] at this
  rw [← hb, ← con_2 n h]
  exact this
theorem conc_3 (n : Nat) (h : n < 256) (b : Bool) (hb : decide (insW n = 8) = b) (w : World) (hM : MaxIn w) :
    Calls Try.prog 40 #[.string ⟨#[44, 52, 49, 44, 53, 53, 44]⟩, .string ((ByteArray.mk #[44] ++ strOfNums (digB n)) ++ ByteArray.mk #[44])] w fun e w' => e = .returned (.bool b) ∧ w' = w := by
  have := contains_any ⟨#[44, 52, 49, 44, 53, 53, 44]⟩ ((ByteArray.mk #[44] ++ strOfNums (digB n)) ++ ByteArray.mk #[44]) w (by decide) hM
  rw [sub_list n h] at this
  rw [← hb, ← con_3 n h]
  exact this

end Go.Proofs.Ytomiganjagjabaa
