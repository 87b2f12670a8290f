/-
 The reader of modules: its parts.
-/
import Derived.Test.YtgleeocebnjliaaGreatDoorBBList
namespace Go.Proofs.YtgleeocebnjliaaGreatDoor
set_option linter.unusedVariables false
open Go.RowKit
def X2 (T : TypeId) (w : World) (X : Nat) (c0 c1 : Value) : Prop := w.heap[X]? = some (.cells #[c0, c1] T (0, 0))
def X3 (T : TypeId) (w : World) (X : Nat) (c0 c1 c2 : Value) : Prop := w.heap[X]? = some (.cells #[c0, c1, c2] T (0, 0))
section
variable {T : TypeId} {w w' : World} {X P : Nat} {c0 c1 c2 : Value}
theorem X2.cell (h : X2 T w X c0 c1) : w.cell? ⟨X, 0, none⟩ = some c0 ∧ w.cell? ⟨X, 1, none⟩ = some c1 := by
 unfold X2 at h
 simp [World.cell?, h]
theorem X2.chg (h : X2 T w X c0 c1) (c : Chg P w w') (hX : X ≠ P) : X2 T w' X c0 c1 := by
 unfold X2 at h ⊢
 rw [c.block X (some_lt h) hX, h]
theorem X3.cell (h : X3 T w X c0 c1 c2) : w.cell? ⟨X, 0, none⟩ = some c0 ∧ w.cell? ⟨X, 1, none⟩ = some c1 ∧ w.cell? ⟨X, 2, none⟩ = some c2 := by
 unfold X3 at h
 simp [World.cell?, h]
theorem X3.chg (h : X3 T w X c0 c1 c2) (c : Chg P w w') (hX : X ≠ P) : X3 T w' X c0 c1 c2 := by
 unfold X3 at h ⊢
 rw [c.block X (some_lt h) hX, h]
end
abbrev hsz (w : World) : Nat := w.heap.size
theorem wf_u8 {n : Int} (h1 : 0 ≤ n) (h2 : n ≤ 255) : (Lit.int .u8 n).wf = true := by
 have a : IntKind.u8.min = 0 := by decide
 have b : IntKind.u8.max = 255 := by decide
 simp [Lit.wf, a, b]
 omega
end Go.Proofs.YtgleeocebnjliaaGreatDoor
