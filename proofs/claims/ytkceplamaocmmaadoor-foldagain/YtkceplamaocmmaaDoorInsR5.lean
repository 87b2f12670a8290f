/-
  What the reader's own instruction does.
-/
import Derived.Test.YtkceplamaocmmaaDoorGRdr
namespace Go.Proofs.YtkceplamaocmmaaDoor
open Go.RowKit

/-- The instruction at X. -/
def XS (w : World) (X : Nat) (c0 c1 c2 c3 : Value) : Prop := w.heap[X]? = some (.cells #[c0, c1, c2, c3] 30 (0, 0))
section
variable {w w' : World} {X P : Nat} {c0 c1 c2 c3 : Value}
theorem XS.lt (h : XS w X c0 c1 c2 c3) : X < w.heap.size := by
  unfold XS at h
  exact (Array.getElem?_eq_some_iff.1 h).1
theorem XS.cell (h : XS w X c0 c1 c2 c3) : w.cell? ⟨X, 0, none⟩ = some c0 ∧ w.cell? ⟨X, 1, none⟩ = some c1 ∧ w.cell? ⟨X, 2, none⟩ = some c2 ∧ w.cell? ⟨X, 3, none⟩ = some c3 := by
  unfold XS at h
  simp [World.cell?, h]
theorem XS.frozen (h : XS w X c0 c1 c2 c3) (i : Nat) : w.frozen? ⟨X, i, none⟩ = false := by
  unfold XS at h
  simp [World.frozen?, h]
theorem XS.chg (h : XS w X c0 c1 c2 c3) (c : Chg P w w') (hX : X ≠ P) : XS w' X c0 c1 c2 c3 := by
  have hl := h.lt
  unfold XS at h ⊢
  rw [c.block X hl hX, h]
theorem XS.set0 (h : XS w X c0 c1 c2 c3) (v : Value) : XS (w.setCell ⟨X, 0, none⟩ v) X v c1 c2 c3 := by
  unfold XS at h ⊢
  simp [World.setCell, Array.getElem?_modify, h]
theorem XS.set1 (h : XS w X c0 c1 c2 c3) (v : Value) : XS (w.setCell ⟨X, 1, none⟩ v) X c0 v c2 c3 := by
  unfold XS at h ⊢
  simp [World.setCell, Array.getElem?_modify, h]
theorem XS.set2 (h : XS w X c0 c1 c2 c3) (v : Value) : XS (w.setCell ⟨X, 2, none⟩ v) X c0 c1 v c3 := by
  unfold XS at h ⊢
  simp [World.setCell, Array.getElem?_modify, h]
theorem XS.set3 (h : XS w X c0 c1 c2 c3) (v : Value) : XS (w.setCell ⟨X, 3, none⟩ v) X c0 c1 c2 v := by
  unfold XS at h ⊢
  simp [World.setCell, Array.getElem?_modify, h]
theorem XS.far (h : XS w X c0 c1 c2 c3) (Y i : Nat) (v : Value) (hY : X ≠ Y) : XS (w.setCell ⟨Y, i, none⟩ v) X c0 c1 c2 c3 := by
  unfold XS at h ⊢
  rw [Below.heap_setCell _ _ _ _ hY, h]
end
theorem Chg.far {P : Nat} {w w1 : World} (h : Chg P w w1) (Y i : Nat) (v : Value) (hY : w.heap.size ≤ Y) : Chg P w (w1.setCell ⟨Y, i, none⟩ v) := by
  refine ⟨h.os, h.tape, h.output, by have := h.size; simpa using this, fun k hk hp => ?_⟩
  rw [Below.heap_setCell _ _ _ _ (by simp only; omega)]
  exact h.block k hk hp
theorem ownsRow_down {w : World} {B B' n size : Nat} {e : TypeId} {v : Value} {xs : List Value} (h : w.ownsRow B e size v n xs) (hb : B' ≤ B) : w.ownsRow B' e size v n xs := by
  obtain ⟨h1, h2⟩ := h
  refine ⟨h1, ?_⟩
  rcases h2 with h | ⟨g, cap, cur, e1, hg, r⟩
  · exact Or.inl h
  · exact Or.inr ⟨g, cap, cur, e1, Nat.le_trans hb hg, r⟩
theorem new_block (w : World) (o : Obj) : (w.alloc o).heap[w.heap.size]? = some o := by
  show (w.heap.push o)[w.heap.size]? = some o
  rw [Array.getElem?_push]
  simp
theorem ownsRow_far {w : World} {B g n Y i : Nat} {e : TypeId} {xs : List Value} {v : Value} (h : w.ownsRow B e 1 (.slice (some ⟨g, 0, none⟩) n n) n xs) (hg : g ≠ Y) : (w.setCell ⟨Y, i, none⟩ v).ownsRow B e 1 (.slice (some ⟨g, 0, none⟩) n n) n xs :=
  ownsRow_chg (P := Y) h (Chg.set Y i w v) hg
theorem TabIn.chg {w w' : World} {P : Nat} (h : TabIn w) (c : Chg P w w') (h0 : 0 < w.heap.size) (hP : 0 ≠ P) : TabIn w' := h.of_cells fun j => c.cell ⟨0, j, none⟩ h0 hP
end Go.Proofs.YtkceplamaocmmaaDoor
