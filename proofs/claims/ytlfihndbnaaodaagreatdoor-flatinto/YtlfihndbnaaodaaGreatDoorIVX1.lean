/-
 A body within a block of its own kind: over values.
-/
import Derived.Test.YtlfihndbnaaodaaGreatDoorIVN
namespace Go.Proofs.YtlfihndbnaaodaaGreatDoor
open Go.RowKit
set_option linter.unusedVariables false
theorem step_zero {m : ModD} {loc st : List Int} {pre : List BlkV} {b : BlkV} {op a : Int} {xs : List Int} (h : (stepV m loc st pre b false op a xs).1 = 0) :
  thereK m loc.length (pre.length + 1) op a xs = true ∧ skewK op a = false ∧ allowedV m (pre ++ [b]) op a xs = true ∧ (passV m loc st pre b false op a).bad = false ∧ stepV m loc st pre b false op a xs = (0, passV m loc st pre b false op a) := by
 unfold stepV at h ⊢
 split at h
 ·exact absurd h (by decide)
 rename_i n1
 split at h
 ·exact absurd h (by decide)
 rename_i n2
 split at h
 ·exact absurd h (by decide)
 rename_i n3
 have hal : allowedV m (pre ++ [b]) op a xs = true := by
  cases e : allowedV m (pre ++ [b]) op a xs with
  | true => rfl
  | false =>
   rw [e] at n3
   exact absurd (passV_bad m loc st pre b op a) n3
 rw [hal] at n3 ⊢
 rw [if_neg n1, if_neg n2, if_neg n3]
 exact ⟨by simpa using n1, by simpa using n2, rfl, by simpa using n3, rfl⟩
end Go.Proofs.YtlfihndbnaaodaaGreatDoor
