/-
  Small records in memory.
-/
import Derived.Test.YtfmmefmpjejioaaBRow
namespace Go.Proofs.Ytfmmefmpjejioaa
open Go.RowKit

def Y2 (T : TypeId) (w : World) (X : Nat) (c0 c1 : Value) : Prop := w.heap[X]? = some (.cells #[c0, c1] T (0, 0))
section
variable {T : TypeId} {w w' : World} {X P : Nat} {c0 c1 : Value}
theorem Y2.cell (h : Y2 T w X c0 c1) : w.cell? ⟨X, 0, none⟩ = some c0 ∧ w.cell? ⟨X, 1, none⟩ = some c1 := by
  unfold Y2 at h
  simp [World.cell?, h]
theorem Y2.frozen (h : Y2 T w X c0 c1) (i : Nat) : w.frozen? ⟨X, i, none⟩ = false := by
  unfold Y2 at h
  simp [World.frozen?, h]
theorem Y2.chg (h : Y2 T w X c0 c1) (c : Chg P w w') (hX : X ≠ P) : Y2 T w' X c0 c1 := by
  unfold Y2 at h ⊢
  rw [c.block X (some_lt h) hX, h]
theorem Y2.below {B : Nat} (h : Y2 T w X c0 c1) (b : Below B w w') (hX : X < B) : Y2 T w' X c0 c1 := by
  unfold Y2 at h ⊢
  rw [b.block X hX, h]
theorem Y2.set0 (h : Y2 T w X c0 c1) (v : Value) : Y2 T (w.setCell ⟨X, 0, none⟩ v) X v c1 := by
  unfold Y2 at h ⊢
  simp [World.setCell, Array.getElem?_modify, h]
theorem Y2.set1 (h : Y2 T w X c0 c1) (v : Value) : Y2 T (w.setCell ⟨X, 1, none⟩ v) X c0 v := by
  unfold Y2 at h ⊢
  simp [World.setCell, Array.getElem?_modify, h]
end
def Y3 (T : TypeId) (w : World) (X : Nat) (c0 c1 c2 : Value) : Prop := w.heap[X]? = some (.cells #[c0, c1, c2] T (0, 0))
section
variable {T : TypeId} {w w' : World} {X P : Nat} {c0 c1 c2 : Value}
theorem Y3.cell (h : Y3 T w X c0 c1 c2) : w.cell? ⟨X, 0, none⟩ = some c0 ∧ w.cell? ⟨X, 1, none⟩ = some c1 ∧ w.cell? ⟨X, 2, none⟩ = some c2 := by
  unfold Y3 at h
  simp [World.cell?, h]
theorem Y3.frozen (h : Y3 T w X c0 c1 c2) (i : Nat) : w.frozen? ⟨X, i, none⟩ = false := by
  unfold Y3 at h
  simp [World.frozen?, h]
theorem Y3.chg (h : Y3 T w X c0 c1 c2) (c : Chg P w w') (hX : X ≠ P) : Y3 T w' X c0 c1 c2 := by
  unfold Y3 at h ⊢
  rw [c.block X (some_lt h) hX, h]
theorem Y3.below {B : Nat} (h : Y3 T w X c0 c1 c2) (b : Below B w w') (hX : X < B) : Y3 T w' X c0 c1 c2 := by
  unfold Y3 at h ⊢
  rw [b.block X hX, h]
theorem Y3.set0 (h : Y3 T w X c0 c1 c2) (v : Value) : Y3 T (w.setCell ⟨X, 0, none⟩ v) X v c1 c2 := by
  unfold Y3 at h ⊢
  simp [World.setCell, Array.getElem?_modify, h]
theorem Y3.set1 (h : Y3 T w X c0 c1 c2) (v : Value) : Y3 T (w.setCell ⟨X, 1, none⟩ v) X c0 v c2 := by
  unfold Y3 at h ⊢
  simp [World.setCell, Array.getElem?_modify, h]
theorem Y3.set2 (h : Y3 T w X c0 c1 c2) (v : Value) : Y3 T (w.setCell ⟨X, 2, none⟩ v) X c0 c1 v := by
  unfold Y3 at h ⊢
  simp [World.setCell, Array.getElem?_modify, h]
end
def Y4 (T : TypeId) (w : World) (X : Nat) (c0 c1 c2 c3 : Value) : Prop := w.heap[X]? = some (.cells #[c0, c1, c2, c3] T (0, 0))
section
variable {T : TypeId} {w w' : World} {X P : Nat} {c0 c1 c2 c3 : Value}
theorem Y4.cell (h : Y4 T w X c0 c1 c2 c3) : w.cell? ⟨X, 0, none⟩ = some c0 ∧ w.cell? ⟨X, 1, none⟩ = some c1 ∧ w.cell? ⟨X, 2, none⟩ = some c2 ∧ w.cell? ⟨X, 3, none⟩ = some c3 := by
  unfold Y4 at h
  simp [World.cell?, h]
theorem Y4.frozen (h : Y4 T w X c0 c1 c2 c3) (i : Nat) : w.frozen? ⟨X, i, none⟩ = false := by
  unfold Y4 at h
  simp [World.frozen?, h]
theorem Y4.chg (h : Y4 T w X c0 c1 c2 c3) (c : Chg P w w') (hX : X ≠ P) : Y4 T w' X c0 c1 c2 c3 := by
  unfold Y4 at h ⊢
  rw [c.block X (some_lt h) hX, h]
theorem Y4.below {B : Nat} (h : Y4 T w X c0 c1 c2 c3) (b : Below B w w') (hX : X < B) : Y4 T w' X c0 c1 c2 c3 := by
  unfold Y4 at h ⊢
  rw [b.block X hX, h]
theorem Y4.set0 (h : Y4 T w X c0 c1 c2 c3) (v : Value) : Y4 T (w.setCell ⟨X, 0, none⟩ v) X v c1 c2 c3 := by
  unfold Y4 at h ⊢
  simp [World.setCell, Array.getElem?_modify, h]
theorem Y4.set1 (h : Y4 T w X c0 c1 c2 c3) (v : Value) : Y4 T (w.setCell ⟨X, 1, none⟩ v) X c0 v c2 c3 := by
  unfold Y4 at h ⊢
  simp [World.setCell, Array.getElem?_modify, h]
theorem Y4.set2 (h : Y4 T w X c0 c1 c2 c3) (v : Value) : Y4 T (w.setCell ⟨X, 2, none⟩ v) X c0 c1 v c3 := by
  unfold Y4 at h ⊢
  simp [World.setCell, Array.getElem?_modify, h]
theorem Y4.set3 (h : Y4 T w X c0 c1 c2 c3) (v : Value) : Y4 T (w.setCell ⟨X, 3, none⟩ v) X c0 c1 c2 v := by
  unfold Y4 at h ⊢
  simp [World.setCell, Array.getElem?_modify, h]
end
theorem newY (w : World) (cs : Array Value) (T : TypeId) : (w.alloc (.cells cs T)).heap[w.heap.size]? = some (.cells cs T (0, 0)) := heap_alloc_new w _
theorem Chg.newK {P R : Nat} {a b c : World} (h : Chg P a b) (k : Chg R b c) (hR : a.heap.size ≤ R) : Chg P a c :=
  ⟨k.os.trans h.os, k.tape.trans h.tape, k.output.trans h.output, Nat.le_trans h.size k.size, fun j hj hP => by
    rw [k.block j (Nat.lt_of_lt_of_le hj h.size) (by omega)]
    exact h.block j hj hP⟩
end Go.Proofs.Ytfmmefmpjejioaa
