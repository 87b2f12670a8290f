/-
  What the reader's own instruction does.
-/
import Derived.Test.YtfmmefmpjejioaaGRdr
namespace Go.Proofs.Ytfmmefmpjejioaa
open Go.RowKit

section
variable {w w' : World} {X P : Nat} {c0 c1 c2 c3 : Value}
end
theorem Chg.far {P : Nat} {w w1 : World} (h : Chg P w w1) (Y i : Nat) (v : Value) (hY : w.heap.size ≤ Y) : Chg P w (w1.setCell ⟨Y, i, none⟩ v) := by
  refine ⟨h.os, h.tape, h.output, by have := h.size; simpa using this, fun k hk hp => ?_⟩
  rw [Below.heap_setCell _ _ _ _ (by simp only; omega)]
  exact h.block k hk hp
theorem ownsRow_down {w : World} {B B' n size : Nat} {e : TypeId} {v : Value} {xs : List Value} (h : w.ownsRow B e size v n xs) (hb : B' ≤ B) : w.ownsRow B' e size v n xs := by
  obtain ⟨h1, h2⟩ := h
  refine ⟨h1, ?_⟩
  rcases h2 with h | ⟨g, cap, cur, e1, hg, r⟩
  · exact Or.inl h
  · exact Or.inr ⟨g, cap, cur, e1, Nat.le_trans hb hg, r⟩
theorem new_block (w : World) (o : Obj) : (w.alloc o).heap[w.heap.size]? = some o := by
  show (w.heap.push o)[w.heap.size]? = some o
  rw [Array.getElem?_push]
  simp
theorem ownsRow_far {w : World} {B g n Y i : Nat} {e : TypeId} {xs : List Value} {v : Value} (h : w.ownsRow B e 1 (.slice (some ⟨g, 0, none⟩) n n) n xs) (hg : g ≠ Y) : (w.setCell ⟨Y, i, none⟩ v).ownsRow B e 1 (.slice (some ⟨g, 0, none⟩) n n) n xs :=
  ownsRow_chg (P := Y) h (Chg.set Y i w v) hg
end Go.Proofs.Ytfmmefmpjejioaa
