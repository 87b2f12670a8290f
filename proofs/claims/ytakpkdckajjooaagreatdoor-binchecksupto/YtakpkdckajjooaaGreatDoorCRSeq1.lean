/-
  The rows of the document's own marks.
-/
import Derived.Test.YtakpkdckajjooaaGreatDoorCGSq
import Derived.Test.YtakpkdckajjooaaGreatDoorCGChk
namespace Go.Proofs.YtakpkdckajjooaaGreatDoor
set_option linter.unusedVariables false
open Go.RowKit
structure QS (w wr : World) (P gE gS n cE cS : Nat) (o : Option Addr) (cap : Nat) (E S : List Int) : Prop where
  ends : wr.ownsRow w.heap.size 3 1 (.slice (some ⟨gE, 0, none⟩) n cE) n (E.map (Value.int .i64))
  elses : wr.ownsRow w.heap.size 3 1 (.slice (some ⟨gS, 0, none⟩) n cS) n (S.map (Value.int .i64))
  es : gE ≠ gS
  blk : wr.heap[P]? = some (.cells #[.slice o n cap, .slice (some ⟨gE, 0, none⟩) n cE, .slice (some ⟨gS, 0, none⟩) n cS] 169 (0, 0))
  farE : P ≠ gE
  farS : P ≠ gS
  below : Below w.heap.size w wr
section
variable {w wr w' : World} {P gE gS n cE cS : Nat} {o : Option Addr} {cap : Nat} {E S : List Int}
theorem QS.under (h : QS w wr P gE gS n cE cS o cap E S) (b : Below wr.heap.size wr w') : QS w w' P gE gS n cE cS o cap E S :=
  ⟨own3_under h.ends b, own3_under h.elses b, h.es, by rw [b.block P (Array.getElem?_eq_some_iff.1 h.blk).1]; exact h.blk, h.farE, h.farS, h.below.trans (b.mono h.below.size)⟩
theorem QS.drew (h : QS w wr P gE gS n cE cS o cap E S) : QS w wr.drew P gE gS n cE cS o cap E S := ⟨h.ends, h.elses, h.es, h.blk, h.farE, h.farS, h.below.drew⟩
theorem QS.lenE (h : QS w wr P gE gS n cE cS o cap E S) : E.length = n := by have := h.ends.1; simpa using this
theorem QS.lenS (h : QS w wr P gE gS n cE cS o cap E S) : S.length = n := by have := h.elses.1; simpa using this
theorem QS.setE (h : QS w wr P gE gS n cE cS o cap E S) (j : Nat) (v : Int) : QS w (wr.setCell ⟨gE, j, none⟩ (.int .i64 v)) P gE gS n cE cS o cap (E.set j v) S := by
  refine ⟨?_, ?_, h.es, ?_, h.farE, h.farS, h.below.setCell (h.ends.lt gE rfl).1 _⟩
  · rw [List.map_set]
    exact (h.ends.stored j _).1
  · exact ownsRow_setCell_other h.elses (by simp [Value.ownBlock]; exact h.es.symm) _
  · have := h.farE.symm
    simp [World.setCell, Array.getElem?_modify, h.blk, this]
theorem QS.setS (h : QS w wr P gE gS n cE cS o cap E S) (j : Nat) (v : Int) : QS w (wr.setCell ⟨gS, j, none⟩ (.int .i64 v)) P gE gS n cE cS o cap E (S.set j v) := by
  refine ⟨?_, ?_, h.es, ?_, h.farE, h.farS, h.below.setCell (h.elses.lt gS rfl).1 _⟩
  · exact ownsRow_setCell_other h.ends (by simp [Value.ownBlock]; exact h.es) _
  · rw [List.map_set]
    exact (h.elses.stored j _).1
  · have := h.farS.symm
    simp [World.setCell, Array.getElem?_modify, h.blk, this]
theorem QS.cellE (h : QS w wr P gE gS n cE cS o cap E S) (j : Nat) (hj : j < n) : wr.cell? ⟨gE, j, none⟩ = some (.int .i64 (E.getD j 0)) ∧ wr.frozen? ⟨gE, j, none⟩ = false := by
  refine ⟨?_, h.ends.frozenAt j⟩
  rw [h.ends.cellAt j (by omega), List.getElem?_map, List.getElem?_eq_getElem (by rw [h.lenE]; exact hj), List.getD_eq_getElem?_getD, List.getElem?_eq_getElem (by rw [h.lenE]; exact hj)]
  rfl
theorem QS.cellS (h : QS w wr P gE gS n cE cS o cap E S) (j : Nat) (hj : j < n) : wr.cell? ⟨gS, j, none⟩ = some (.int .i64 (S.getD j 0)) ∧ wr.frozen? ⟨gS, j, none⟩ = false := by
  refine ⟨?_, h.elses.frozenAt j⟩
  rw [h.elses.cellAt j (by omega), List.getElem?_map, List.getElem?_eq_getElem (by rw [h.lenS]; exact hj), List.getD_eq_getElem?_getD, List.getElem?_eq_getElem (by rw [h.lenS]; exact hj)]
  rfl
theorem QS.cells (h : QS w wr P gE gS n cE cS o cap E S) : wr.cell? ⟨P, 0, none⟩ = some (.slice o n cap) ∧ wr.cell? ⟨P, 1, none⟩ = some (.slice (some ⟨gE, 0, none⟩) n cE) ∧ wr.cell? ⟨P, 2, none⟩ = some (.slice (some ⟨gS, 0, none⟩) n cS) := by
  refine ⟨?_, ?_, ?_⟩ <;> simp [World.cell?, h.blk]
end
structure KP (gE gS : Nat) (a b : World) : Prop where
  size : a.heap.size ≤ b.heap.size
  block : ∀ g, g < a.heap.size → g ≠ gE → g ≠ gS → b.heap[g]? = a.heap[g]?
theorem KP.refl (gE gS : Nat) (a : World) : KP gE gS a a := ⟨Nat.le_refl _, fun _ _ _ _ => rfl⟩
theorem KP.trans {gE gS : Nat} {a b c : World} (h : KP gE gS a b) (k : KP gE gS b c) : KP gE gS a c := ⟨Nat.le_trans h.size k.size, fun g h1 h2 h3 => (k.block g (Nat.lt_of_lt_of_le h1 h.size) h2 h3).trans (h.block g h1 h2 h3)⟩
theorem KP.of {gE gS : Nat} {a b : World} (h : Below a.heap.size a b) : KP gE gS a b := ⟨h.size, fun g h1 _ _ => h.block g h1⟩
theorem KP.drew {gE gS : Nat} {a b : World} (h : KP gE gS a b) : KP gE gS a b.drew := ⟨h.size, h.block⟩
theorem KP.setE {gE gS : Nat} {a b : World} (h : KP gE gS a b) (j : Nat) (v : Value) : KP gE gS a (b.setCell ⟨gE, j, none⟩ v) := by
  refine ⟨by rw [World.size_setCell]; exact h.size, fun g h1 h2 h3 => ?_⟩
  rw [← h.block g h1 h2 h3]
  simp [World.setCell, Array.getElem?_modify, h2.symm]
theorem KP.setS {gE gS : Nat} {a b : World} (h : KP gE gS a b) (j : Nat) (v : Value) : KP gE gS a (b.setCell ⟨gS, j, none⟩ v) := by
  refine ⟨by rw [World.size_setCell]; exact h.size, fun g h1 h2 h3 => ?_⟩
  rw [← h.block g h1 h2 h3]
  simp [World.setCell, Array.getElem?_modify, h3.symm]
end Go.Proofs.YtakpkdckajjooaaGreatDoor
