/-
  Trees of a body, as they lie in memory.
-/
import Derived.Test.YtkceplamaocmmaaDoorNTree1
namespace Go.Proofs.YtkceplamaocmmaaDoor
open Go.RowKit

def endV : V4 := ⟨11, 0, 0, []⟩
def elseV : V4 := ⟨5, 0, 0, []⟩
theorem OkT.keep {w w' : World} {d : InsD} (h : OkT w d) (hs : w.heap.size ≤ w'.heap.size) (h2 : ∀ (j : Nat) (cur : Array Value) (f : Nat × Nat), w.heap[j]? = some (.cells cur 2 f) → w'.heap[j]? = w.heap[j]?) : OkT w' d := by
  refine ⟨ok_keep h.1 hs fun h0 g hg => ?_, fun h0 => ?_⟩
  · obtain ⟨g', cur, f, e, hc⟩ := h.2 h0
    rw [hg] at e
    cases e
    exact h2 _ _ _ hc
  · obtain ⟨g', cur, f, e, hc⟩ := h.2 h0
    exact ⟨g', cur, f, e, by rw [h2 _ _ _ hc]; exact hc⟩
end Go.Proofs.YtkceplamaocmmaaDoor
