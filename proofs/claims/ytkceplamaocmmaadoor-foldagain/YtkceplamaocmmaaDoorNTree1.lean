/-
  What the program's own nest.copied does.
-/
import Derived.Test.YtkceplamaocmmaaDoorNRow
import Derived.Laws.AppendOwn
import Derived.Laws.AppendOwnNone
import Derived.Laws.OwnMore
namespace Go.Proofs.YtkceplamaocmmaaDoor
open Go.RowKit

/-- An instruction whose numbers lie in a row of numbers. -/
def OkT (w : World) (d : InsD) : Prop := d.ok w ∧ (0 < d.n → ∃ (g : Addr) (cur : Array Value) (f : Nat × Nat), d.o = some g ∧ w.heap[g.block]? = some (.cells cur 2 f))
theorem ownI {w : World} {B cap n : Nat} {o : Option Addr} {xs : List Int} {op A B' : Int} (h : w.ownsRow B 2 1 (.slice o n cap) n (xs.map (Value.int .i64))) (h0 : 0 ≤ op) (h1 : op ≤ 255) (hA : -9223372036854775808 ≤ A ∧ A ≤ 9223372036854775807) : OkT w ⟨op, A, B', o, n, cap, xs⟩ := by
  have hl : xs.length = n := by have := h.1; simpa using this
  rcases h.2 with ⟨hv, hn⟩ | ⟨g, c, cur, hv, hb, hg, hc, hm, _⟩
  · simp only [Value.slice.injEq] at hv
    obtain ⟨rfl, _, rfl⟩ := hv
    exact ⟨⟨h0, h1, hA, by simp only; omega, by unfold maxLen; simp, ⟨hl, Or.inl hn⟩, fun _ => rfl⟩, fun h => by simp only at h; omega⟩
  · simp only [Value.slice.injEq] at hv
    obtain ⟨rfl, _, rfl⟩ := hv
    refine ⟨⟨h0, h1, hA, hc, hm, ⟨hl, ?_⟩, by simp⟩, fun _ => ⟨_, cur, _, rfl, hg⟩⟩
    rcases Nat.eq_zero_or_pos n with h0 | h0
    · exact Or.inl h0
    · right
      refine ⟨⟨g, 0, none⟩, rfl, (h.lt g rfl).2, fun i hi => ?_⟩
      have hi2 : i < xs.length := by simp only at hi; omega
      exact h.cells (g := g) rfl i (.int .i64 (xs.getD i 0)) (by
        rw [List.getElem?_map, List.getElem?_eq_getElem hi2, List.getD_eq_getElem?_getD, List.getElem?_eq_getElem hi2]
        rfl)
theorem own_put {w : World} {B k : Nat} {e : TypeId} {v : Value} {xs : List Value} (h : w.ownsRow B e 1 v k xs) (P i : Nat) (u : Value) (hf : v.ownBlock ≠ some P) : (w.setCell ⟨P, i, none⟩ u).ownsRow B e 1 v k xs := ownsRow_setCell_other h hf u
end Go.Proofs.YtkceplamaocmmaaDoor
