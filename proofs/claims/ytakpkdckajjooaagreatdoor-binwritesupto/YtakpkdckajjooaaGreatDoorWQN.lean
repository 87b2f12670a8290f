/-
 The reader of modules: lists of whatever parts.
 The reader of modules: its parts.
 The reader of modules: its parts.
-/
import Derived.Test.YtakpkdckajjooaaGreatDoorWQX
import Derived.Deep.AppendLies
import Derived.Test.YtakpkdckajjooaaGreatDoorWQM
import Derived.WalkLawsBesides
set_option maxHeartbeats 1000000
set_option maxRecDepth 1000000
namespace Go.Proofs.YtakpkdckajjooaaGreatDoor
set_option linter.unusedVariables false
open Go.RowKit
theorem below_chg {N P : Nat} {w0 w w' : World} (b : Below N w0 w) (c : Chg P w w') (hNP : N ≤ P) (hNw : N ≤ w.heap.size) : Below N w0 w' := b.trans (c.below hNP hNw)
end Go.Proofs.YtakpkdckajjooaaGreatDoor
namespace Go.Proofs.YtakpkdckajjooaaGreatDoor
set_option linter.unusedVariables false
open Go.RowKit
def X2 (T : TypeId) (w : World) (X : Nat) (c0 c1 : Value) : Prop := w.heap[X]? = some (.cells #[c0, c1] T (0, 0))
def X3 (T : TypeId) (w : World) (X : Nat) (c0 c1 c2 : Value) : Prop := w.heap[X]? = some (.cells #[c0, c1, c2] T (0, 0))
section
variable {T : TypeId} {w w' : World} {X P : Nat} {c0 c1 c2 : Value}
theorem X2.cell (h : X2 T w X c0 c1) : w.cell? ⟨X, 0, none⟩ = some c0 ∧ w.cell? ⟨X, 1, none⟩ = some c1 := by
 unfold X2 at h
 simp [World.cell?, h]
theorem X2.chg (h : X2 T w X c0 c1) (c : Chg P w w') (hX : X ≠ P) : X2 T w' X c0 c1 := by
 unfold X2 at h ⊢
 rw [c.block X (some_lt h) hX, h]
theorem X3.cell (h : X3 T w X c0 c1 c2) : w.cell? ⟨X, 0, none⟩ = some c0 ∧ w.cell? ⟨X, 1, none⟩ = some c1 ∧ w.cell? ⟨X, 2, none⟩ = some c2 := by
 unfold X3 at h
 simp [World.cell?, h]
theorem X3.chg (h : X3 T w X c0 c1 c2) (c : Chg P w w') (hX : X ≠ P) : X3 T w' X c0 c1 c2 := by
 unfold X3 at h ⊢
 rw [c.block X (some_lt h) hX, h]
end
def NamD.val (d : NamD) : NamV := ⟨nums d.s, d.n⟩
def GloD.val (d : GloD) : GloV := ⟨d.k, d.m, d.s⟩
def DatD.val (d : DatD) : DatV := ⟨d.a, nums d.s⟩
def EleD.val (d : EleD) : EleV := ⟨d.a, d.f.xs⟩
def SigD.val (d : SigD) : SigV := ⟨d.i.xs, d.r.xs⟩
def FunD.cod (d : FunD) : CodV := ⟨d.l.xs, d.b.map InsD.val⟩
abbrev hsz (w : World) : Nat := w.heap.size
end Go.Proofs.YtakpkdckajjooaaGreatDoor
namespace Go.Proofs.YtakpkdckajjooaaGreatDoor
set_option linter.unusedVariables false
open Go.RowKit
theorem constOf_any (k : Int) (w : World) : Calls Tryz.prog 129 #[.int .u8 k] w fun r w' => r = .returned (.int .u8 (cst k)) ∧ w' = w := by
 unfold cst
 by_cases h : k = 126
 ·subst h
  go_enter Tryz.func129, Tryz.ntmps129
  go_wp2
  go_ret
  exact ⟨rfl, rfl⟩
 ·have hb : (k == 126) = false := by rw [beq_eq_false_iff_ne]; exact h
  rw [if_neg h]
  go_enter Tryz.func129, Tryz.ntmps129
  go_wp2
  go_ret
  exact ⟨rfl, rfl⟩
end Go.Proofs.YtakpkdckajjooaaGreatDoor
