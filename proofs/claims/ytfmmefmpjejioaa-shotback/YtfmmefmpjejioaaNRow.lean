/-
  A list of instructions that a call itself makes.
-/
import Derived.Test.YtfmmefmpjejioaaNRd1
namespace Go.Proofs.Ytfmmefmpjejioaa
open Go.RowKit

/-- The cells of an instruction. -/
def InsD.cells (d : InsD) : List Value := [.int .u8 d.op, .int .i64 d.A, .int .i64 d.B, .slice d.o d.n d.cap]
def cellsOf (L : List InsD) : List Value := L.flatMap InsD.cells
theorem cellsOf_app (L : List InsD) (d : InsD) : cellsOf (L ++ [d]) = cellsOf L ++ d.cells := by
  unfold cellsOf
  simp
theorem cellsOf_at : ∀ (L : List InsD) (i r : Nat) (h : i < L.length), r < 4 → (cellsOf L)[i * 4 + r]? = (L[i]).cells[r]?
  | [], i, r, h, _ => absurd h (by simp)
  | d :: L, 0, r, h, hr => by
    unfold cellsOf
    rw [List.flatMap_cons, List.getElem?_append_left (by simp [InsD.cells]; omega)]
    simp
  | d :: L, i + 1, r, h, hr => by
    have h2 : i < L.length := by simpa using h
    have := cellsOf_at L i r h2 hr
    unfold cellsOf at this ⊢
    rw [List.flatMap_cons, List.getElem?_append_right (by simp [InsD.cells]; omega)]
    rw [show (i + 1) * 4 + r - d.cells.length = i * 4 + r by simp [InsD.cells]; omega, this]
    simp
theorem ok_keep {w w' : World} {d : InsD} (h : d.ok w) (hs : w.heap.size ≤ w'.heap.size) (hk : 0 < d.n → ∀ g, d.o = some g → w'.heap[g.block]? = w.heap[g.block]?) : d.ok w' := by
  refine ⟨h.op0, h.op1, h.a, h.cap, h.most, ?_, h.nil⟩
  obtain ⟨h1, h2⟩ := h.lj
  refine ⟨h1, ?_⟩
  rcases h2 with h2 | ⟨a, ha, hb, hc⟩
  · exact Or.inl h2
  · rcases Nat.eq_zero_or_pos d.n with h0 | h0
    · exact Or.inl h0
    · refine Or.inr ⟨a, ha, Nat.lt_of_lt_of_le hb hs, fun i hi => ?_⟩
      rw [World.cell?_of_block (w := w) (by rw [add_block]; exact hk h0 a ha)]
      exact hc i hi
theorem some_lt {w : World} {j : Nat} {x : Obj} (h : w.heap[j]? = some x) : j < w.heap.size := (Array.getElem?_eq_some_iff.1 h).1
/-- What is read is an instruction. -/
theorem IsI.ins {w : World} {B : Nat} {v : Value} {xs : List Int} {op A B' : Int} (h : IsI w B v xs) (h0 : 0 ≤ op) (h1 : op ≤ 255) (hA : -9223372036854775808 ≤ A ∧ A ≤ 9223372036854775807) (hx : xs.length ≤ 1000) : ∃ o, v = .slice o xs.length xs.length ∧ InsD.ok w ⟨op, A, B', o, xs.length, xs.length, xs⟩ ∧ (0 < xs.length → ∃ (g : Addr) (cur : Array Value) (f : Nat × Nat), o = some g ∧ w.heap[g.block]? = some (.cells cur 2 f)) := by
  rcases h with ⟨rfl, rfl⟩ | ⟨g, rfl, hg⟩
  · exact ⟨none, rfl, ⟨h0, h1, hA, Nat.le_refl _, by unfold maxLen; simp, ⟨rfl, Or.inl rfl⟩, fun _ => rfl⟩, fun h => absurd h (by simp)⟩
  · refine ⟨some ⟨g, 0, none⟩, rfl, ⟨h0, h1, hA, Nat.le_refl _, by unfold maxLen; simp only; omega, ⟨rfl, ?_⟩, by simp⟩, fun _ => ?_⟩
    · rcases Nat.eq_zero_or_pos xs.length with h0 | h0
      · exact Or.inl h0
      · right
        refine ⟨⟨g, 0, none⟩, rfl, (hg.lt g rfl).2, fun i hi => ?_⟩
        have := hg.cells (g := g) rfl i (.int .i64 (xs.getD i 0)) (by
          simp only at hi
          rw [List.getElem?_map, List.getElem?_eq_getElem hi, List.getD_eq_getElem?_getD, List.getElem?_eq_getElem hi]
          rfl)
        exact this
    · rcases hg.2 with ⟨hv, _⟩ | ⟨g', c, cur, hv, _, h3, _⟩
      · simp at hv
      · simp only [Value.slice.injEq, Option.some.injEq, Addr.mk.injEq, and_true] at hv
        obtain ⟨rfl, _⟩ := hv
        exact ⟨_, cur, _, rfl, h3⟩

end Go.Proofs.Ytfmmefmpjejioaa
