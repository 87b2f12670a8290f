/-
 What the reader's own instruction does.
 What the program's own fits and Check say of what is well. What the program's own besideText and Write make of what is well.
-/
import Derived.Test.YtlfihndbnaaodaaGreatDoorIGRdr
import Derived.Test.YtlfihndbnaaodaaGreatDoorIGLeb
import Derived.Laws.Concat
import Derived.Deep.RegionWith
namespace Go.Proofs.YtlfihndbnaaodaaGreatDoor
set_option linter.unusedVariables false
open Go.RowKit
def XS (w : World) (X : Nat) (c0 c1 c2 c3 : Value) : Prop := w.heap[X]? = some (.cells #[c0, c1, c2, c3] 53 (0, 0))
section
variable {w w' : World} {X P : Nat} {c0 c1 c2 c3 : Value}
theorem XS.lt (h : XS w X c0 c1 c2 c3) : X < w.heap.size := by
 unfold XS at h
 exact (Array.getElem?_eq_some_iff.1 h).1
theorem XS.cell (h : XS w X c0 c1 c2 c3) : w.cell? ⟨X, 0, none⟩ = some c0 ∧ w.cell? ⟨X, 1, none⟩ = some c1 ∧ w.cell? ⟨X, 2, none⟩ = some c2 ∧ w.cell? ⟨X, 3, none⟩ = some c3 := by
 unfold XS at h
 simp [World.cell?, h]
end
theorem ownsRow_down {w : World} {B B' n size : Nat} {e : TypeId} {v : Value} {xs : List Value} (h : w.ownsRow B e size v n xs) (hb : B' ≤ B) : w.ownsRow B' e size v n xs := by
 obtain ⟨h1, h2⟩ := h
 refine ⟨h1, ?_⟩
 rcases h2 with h | ⟨g, cap, cur, e1, hg, r⟩
 ·exact Or.inl h
 ·exact Or.inr ⟨g, cap, cur, e1, Nat.le_trans hb hg, r⟩
theorem new_block (w : World) (o : Obj) : (w.alloc o).heap[w.heap.size]? = some o := by
 show (w.heap.push o)[w.heap.size]? = some o
 rw [Array.getElem?_push]
 simp
theorem TabIn.chg {w w' : World} {P : Nat} (h : TabIn w) (c : Chg P w w') (h0 : 1 < w.heap.size) (hP : 1 ≠ P) : TabIn w' := h.of_cells fun j => c.cell ⟨1, j, none⟩ h0 hP
end Go.Proofs.YtlfihndbnaaodaaGreatDoor
namespace Go.Proofs.YtlfihndbnaaodaaGreatDoor
set_option linter.unusedVariables false
open Go.RowKit
def LI (w : World) (o : Option Addr) (xs : List Int) : Prop := xs = [] ∨ ∃ g, o = some ⟨g, 0, none⟩ ∧ g < w.heap.size ∧ ∀ i, i < xs.length → w.cell? ⟨g, i, none⟩ = some (.int .i64 (xs.getD i 0))
end Go.Proofs.YtlfihndbnaaodaaGreatDoor
namespace Go.Proofs.YtlfihndbnaaodaaGreatDoor
open Go.RowKit
theorem chr_conv (w : World) (n : Int) : (convert 159 9 (.slice (some ⟨w.heap.size, 0, none⟩) 1 1)).run Tryz.prog (w.alloc (.cells #[.int .u8 n] 5)) = .ok (.string (strOfNums [n])) (w.alloc (.cells #[.int .u8 n] 5)) := by
 refine run_convert_bytes_arg _ 159 5 Tryz.underlying159 Tryz.underlying5 w.heap.size 0 1 1 [n] rfl ?_ 9 Tryz.underlying9
 intro i hi
 have : i = 0 := by omega
 subst this
 rw [World.cell?_alloc_at _ _ _ _ rfl]
 rfl
theorem isKB_range {A : Int} (h : isKB A = true) : 0 ≤ A ∧ A ≤ 255 := by
 unfold isKB at h
 simp only [Bool.or_eq_true, beq_iff_eq] at h
 omega
end Go.Proofs.YtlfihndbnaaodaaGreatDoor
