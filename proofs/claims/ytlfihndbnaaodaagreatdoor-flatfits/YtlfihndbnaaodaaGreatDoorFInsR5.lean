/-
 What the reader's own instruction does.
-/
import Derived.Test.YtlfihndbnaaodaaGreatDoorFGRdr
namespace Go.Proofs.YtlfihndbnaaodaaGreatDoor
set_option linter.unusedVariables false
open Go.RowKit
def XS (w : World) (X : Nat) (c0 c1 c2 c3 : Value) : Prop := w.heap[X]? = some (.cells #[c0, c1, c2, c3] 53 (0, 0))
section
variable {w w' : World} {X P : Nat} {c0 c1 c2 c3 : Value}
theorem XS.cell (h : XS w X c0 c1 c2 c3) : w.cell? ⟨X, 0, none⟩ = some c0 ∧ w.cell? ⟨X, 1, none⟩ = some c1 ∧ w.cell? ⟨X, 2, none⟩ = some c2 ∧ w.cell? ⟨X, 3, none⟩ = some c3 := by
 unfold XS at h
 simp [World.cell?, h]
end
theorem ownsRow_down {w : World} {B B' n size : Nat} {e : TypeId} {v : Value} {xs : List Value} (h : w.ownsRow B e size v n xs) (hb : B' ≤ B) : w.ownsRow B' e size v n xs := by
 obtain ⟨h1, h2⟩ := h
 refine ⟨h1, ?_⟩
 rcases h2 with h | ⟨g, cap, cur, e1, hg, r⟩
 ·exact Or.inl h
 ·exact Or.inr ⟨g, cap, cur, e1, Nat.le_trans hb hg, r⟩
theorem new_block (w : World) (o : Obj) : (w.alloc o).heap[w.heap.size]? = some o := by
 show (w.heap.push o)[w.heap.size]? = some o
 rw [Array.getElem?_push]
 simp
theorem TabIn.chg {w w' : World} {P : Nat} (h : TabIn w) (c : Chg P w w') (h0 : 1 < w.heap.size) (hP : 1 ≠ P) : TabIn w' := h.of_cells fun j => c.cell ⟨1, j, none⟩ h0 hP
end Go.Proofs.YtlfihndbnaaodaaGreatDoor
