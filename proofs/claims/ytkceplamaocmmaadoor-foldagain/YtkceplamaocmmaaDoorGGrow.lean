/-
  What the program's own partAt does with what is no if.
  What the program's own choiceAt does, and partAt with an if.
  What the program's own choiceAt does with an if that has an else.
  What the program's own partAt does with an if, and between.
  What the program's own between does, for every piece of a body that was matched.
-/
import Derived.Test.YtkceplamaocmmaaDoorNSeg
import Derived.Test.YtkceplamaocmmaaDoorNTree2
import Derived.Deep.RegionHeld3
import Derived.Laws.BitsLemmas
namespace Go.Proofs.YtkceplamaocmmaaDoor
open Go.RowKit

/-- What a grower has: a body and what belongs together in it. -/
structure GR (w : World) (b f gE gS : Nat) (L : List InsD) (E S : List Int) : Prop where
  bw : b < w.heap.size
  ew : gE < w.heap.size
  sw : gS < w.heap.size
  list : ∀ i (h : i < L.length), w.cell? ⟨b, f + i * 4, none⟩ = some (.int .u8 (L[i]).op) ∧ w.cell? ⟨b, f + i * 4 + 1, none⟩ = some (.int .i64 (L[i]).A) ∧ w.cell? ⟨b, f + i * 4 + 2, none⟩ = some (.int .i64 (L[i]).B) ∧ w.cell? ⟨b, f + i * 4 + 3, none⟩ = some (.slice (L[i]).o (L[i]).n (L[i]).cap)
  ok : ∀ d ∈ L, d.ok w
  few : ∀ d ∈ L, d.n ≤ 16
  ends : ∀ i, i < L.length → w.cell? ⟨gE, i, none⟩ = some (.int .i64 (E.getD i 0))
  elses : ∀ i, i < L.length → w.cell? ⟨gS, i, none⟩ = some (.int .i64 (S.getD i 0))
theorem GR.under {w w' : World} {b f gE gS : Nat} {L : List InsD} {E S : List Int} (h : GR w b f gE gS L E S) (bb : Below w.heap.size w w') : GR w' b f gE gS L E S := by
  refine ⟨Nat.lt_of_lt_of_le h.bw bb.size, Nat.lt_of_lt_of_le h.ew bb.size, Nat.lt_of_lt_of_le h.sw bb.size, fun i hi => ?_, fun d hd => (h.ok d hd).below bb, h.few, fun i hi => ?_, fun i hi => ?_⟩
  · rw [bb.cell (p := ⟨b, f + i * 4, none⟩) h.bw, bb.cell (p := ⟨b, f + i * 4 + 1, none⟩) h.bw, bb.cell (p := ⟨b, f + i * 4 + 2, none⟩) h.bw, bb.cell (p := ⟨b, f + i * 4 + 3, none⟩) h.bw]
    exact h.list i hi
  · rw [bb.cell (p := ⟨gE, i, none⟩) h.ew]
    exact h.ends i hi
  · rw [bb.cell (p := ⟨gS, i, none⟩) h.sw]
    exact h.elses i hi
/-- The blocks that were made meanwhile. -/
def New (w w' : World) (g : Nat) : Prop := w.heap.size ≤ g ∧ g < w'.heap.size
theorem agg3 {w : World} {X : Nat} {c0 c1 c2 : Value} {t : TypeId} (h : w.heap[X]? = some (.cells #[c0, c1, c2] t (0, 0))) : w.cell? ⟨X, 0, none⟩ = some c0 ∧ w.cell? ⟨X, 1, none⟩ = some c1 ∧ w.cell? ⟨X, 2, none⟩ = some c2 := by
  simp [World.cell?, h]
end Go.Proofs.YtkceplamaocmmaaDoor
namespace Go.Proofs.YtkceplamaocmmaaDoor
open Go.RowKit

/-- Seven cells are written. -/
def put7 (w : World) (R : Nat) (v0 v1 v2 v3 v4 v5 v6 : Value) : World := ((((((w.setCell ⟨R, 0, none⟩ v0).setCell ⟨R, 1, none⟩ v1).setCell ⟨R, 2, none⟩ v2).setCell ⟨R, 3, none⟩ v3).setCell ⟨R, 4, none⟩ v4).setCell ⟨R, 5, none⟩ v5).setCell ⟨R, 6, none⟩ v6
theorem put7_at {w : World} {R : Nat} {c0 c1 c2 c3 c4 c5 c6 : Value} {t : TypeId} (h : w.heap[R]? = some (.cells #[c0, c1, c2, c3, c4, c5, c6] t (0, 0))) (v0 v1 v2 v3 v4 v5 v6 : Value) : (put7 w R v0 v1 v2 v3 v4 v5 v6).heap[R]? = some (.cells #[v0, v1, v2, v3, v4, v5, v6] t (0, 0)) := by
  simp [put7, World.setCell, Array.getElem?_modify, h]
theorem put7_off {w : World} {R j : Nat} (h : j ≠ R) (v0 v1 v2 v3 v4 v5 v6 : Value) : (put7 w R v0 v1 v2 v3 v4 v5 v6).heap[j]? = w.heap[j]? := by
  simp only [put7]
  rw [Below.heap_setCell _ _ _ _ h, Below.heap_setCell _ _ _ _ h, Below.heap_setCell _ _ _ _ h, Below.heap_setCell _ _ _ _ h, Below.heap_setCell _ _ _ _ h, Below.heap_setCell _ _ _ _ h, Below.heap_setCell _ _ _ _ h]
theorem put7_size (w : World) (R : Nat) (v0 v1 v2 v3 v4 v5 v6 : Value) : (put7 w R v0 v1 v2 v3 v4 v5 v6).heap.size = w.heap.size := by
  simp [put7, World.setCell]
theorem put7_below {B : Nat} {w0 w : World} {R : Nat} (h : Below B w0 w) (hR : B ≤ R) (v0 v1 v2 v3 v4 v5 v6 : Value) : Below B w0 (put7 w R v0 v1 v2 v3 v4 v5 v6) :=
  ((((((h.setCell (p := ⟨R, 0, none⟩) hR _).setCell (p := ⟨R, 1, none⟩) hR _).setCell (p := ⟨R, 2, none⟩) hR _).setCell (p := ⟨R, 3, none⟩) hR _).setCell (p := ⟨R, 4, none⟩) hR _).setCell (p := ⟨R, 5, none⟩) hR _).setCell (p := ⟨R, 6, none⟩) hR _
theorem all7 {w : World} {R : Nat} {c0 c1 c2 c3 c4 c5 c6 : Value} {t : TypeId} (h : w.heap[R]? = some (.cells #[c0, c1, c2, c3, c4, c5, c6] t (0, 0))) : (w.cell? ⟨R, 0, none⟩ = some c0 ∧ w.cell? ⟨R, 1, none⟩ = some c1 ∧ w.cell? ⟨R, 2, none⟩ = some c2 ∧ w.cell? ⟨R, 3, none⟩ = some c3 ∧ w.cell? ⟨R, 4, none⟩ = some c4 ∧ w.cell? ⟨R, 5, none⟩ = some c5 ∧ w.cell? ⟨R, 6, none⟩ = some c6) ∧ (w.frozen? ⟨R, 0, none⟩ = false ∧ w.frozen? ⟨R, 1, none⟩ = false ∧ w.frozen? ⟨R, 2, none⟩ = false ∧ w.frozen? ⟨R, 3, none⟩ = false ∧ w.frozen? ⟨R, 4, none⟩ = false ∧ w.frozen? ⟨R, 5, none⟩ = false ∧ w.frozen? ⟨R, 6, none⟩ = false) := by
  simp [World.cell?, World.frozen?, h]
theorem OkT.under {w w' : World} {d : InsD} (h : OkT w d) (b : Below w.heap.size w w') : OkT w' d := h.keep b.size fun j _ _ hj => b.block j (some_lt hj)
end Go.Proofs.YtkceplamaocmmaaDoor
namespace Go.Proofs.YtkceplamaocmmaaDoor
open Go.RowKit

def put5 (w : World) (R : Nat) (v0 v1 v2 v3 v4 : Value) : World := ((((w.setCell ⟨R, 0, none⟩ v0).setCell ⟨R, 1, none⟩ v1).setCell ⟨R, 2, none⟩ v2).setCell ⟨R, 3, none⟩ v3).setCell ⟨R, 4, none⟩ v4
theorem all5 {w : World} {R : Nat} {c0 c1 c2 c3 c4 : Value} {t : TypeId} (h : w.heap[R]? = some (.cells #[c0, c1, c2, c3, c4] t (0, 0))) : (w.cell? ⟨R, 0, none⟩ = some c0 ∧ w.cell? ⟨R, 1, none⟩ = some c1 ∧ w.cell? ⟨R, 2, none⟩ = some c2 ∧ w.cell? ⟨R, 3, none⟩ = some c3 ∧ w.cell? ⟨R, 4, none⟩ = some c4) ∧ (w.frozen? ⟨R, 0, none⟩ = false ∧ w.frozen? ⟨R, 1, none⟩ = false ∧ w.frozen? ⟨R, 2, none⟩ = false ∧ w.frozen? ⟨R, 3, none⟩ = false ∧ w.frozen? ⟨R, 4, none⟩ = false) := by
  simp [World.cell?, World.frozen?, h]
theorem put5_at {w : World} {R : Nat} {c0 c1 c2 c3 c4 : Value} {t : TypeId} (h : w.heap[R]? = some (.cells #[c0, c1, c2, c3, c4] t (0, 0))) (v0 v1 v2 v3 v4 : Value) : (put5 w R v0 v1 v2 v3 v4).heap[R]? = some (.cells #[v0, v1, v2, v3, v4] t (0, 0)) := by
  simp [put5, World.setCell, Array.getElem?_modify, h]
theorem put5_off {w : World} {R j : Nat} (h : j ≠ R) (v0 v1 v2 v3 v4 : Value) : (put5 w R v0 v1 v2 v3 v4).heap[j]? = w.heap[j]? := by
  simp only [put5]
  rw [Below.heap_setCell _ _ _ _ h, Below.heap_setCell _ _ _ _ h, Below.heap_setCell _ _ _ _ h, Below.heap_setCell _ _ _ _ h, Below.heap_setCell _ _ _ _ h]
theorem put5_size (w : World) (R : Nat) (v0 v1 v2 v3 v4 : Value) : (put5 w R v0 v1 v2 v3 v4).heap.size = w.heap.size := by
  simp [put5, World.setCell]
theorem put5_below {B : Nat} {w0 w : World} {R : Nat} (h : Below B w0 w) (hR : B ≤ R) (v0 v1 v2 v3 v4 : Value) : Below B w0 (put5 w R v0 v1 v2 v3 v4) :=
  ((((h.setCell (p := ⟨R, 0, none⟩) hR _).setCell (p := ⟨R, 1, none⟩) hR _).setCell (p := ⟨R, 2, none⟩) hR _).setCell (p := ⟨R, 3, none⟩) hR _).setCell (p := ⟨R, 4, none⟩) hR _
end Go.Proofs.YtkceplamaocmmaaDoor
namespace Go.Proofs.YtkceplamaocmmaaDoor
open Go.RowKit

/-- The values of the instructions from place i on up to j. -/
def segV (L : List InsD) (i j : Nat) : List V4 := ((L.drop i).take (j - i)).map InsD.val
theorem segV_nil (L : List InsD) (i : Nat) : segV L i i = [] := by
  unfold segV
  simp
theorem segV_cat (L : List InsD) (i a j : Nat) (h1 : i ≤ a) (h2 : a ≤ j) : segV L i a ++ segV L a j = segV L i j := by
  unfold segV
  rw [← List.map_append]
  congr 1
  have e : L.drop a = (L.drop i).drop (a - i) := by rw [List.drop_drop]; congr 1; omega
  rw [e, show j - i = (a - i) + (j - a) by omega, List.take_add]
theorem segV_one (L : List InsD) (a : Nat) (h : a < L.length) : segV L a (a + 1) = [(L[a]).val] := by
  unfold segV
  rw [List.drop_eq_getElem_cons h, show a + 1 - a = 1 by omega]
  rfl
/-- The blocks that were made meanwhile, but for a row's own. -/
def Far (w w' : World) (v : Value) (g : Nat) : Prop := w.heap.size ≤ g ∧ g < w'.heap.size ∧ some g ≠ v.ownBlock
end Go.Proofs.YtkceplamaocmmaaDoor
namespace Go.Proofs.YtkceplamaocmmaaDoor
open Go.RowKit

theorem val_alone (d : InsD) (k : Int) (hb : besV k = 1) (ho : d.op = k) (hl : d.xs.length = d.n) (hc : chkD d = 0) : d.val = ⟨k, 0, 0, []⟩ := by
  have h1 := val_chk d hl
  obtain ⟨_, hf⟩ := vchk_fit d.val (by rw [h1]; exact hc)
  have ho' : d.val.op = k := ho
  rw [ho', hb] at hf
  rcases hf with h | h | h | h | h | h | h | h | h
  · have hA : d.val.A = 0 := h.2.1
    have hB : d.val.B = 0 := h.2.2.1
    have hx : d.val.xs = [] := h.2.2.2
    have : d.val = ⟨d.val.op, d.val.A, d.val.B, d.val.xs⟩ := rfl
    rw [this, ho', hA, hB, hx]
  all_goals
    have := h.1
    omega
theorem segV_block (L : List InsD) (a q : Nat) (h : a < q) (hq : q < L.length) (v : V4) (hv : (L[q]).val = v) : segV L a (q + 1) = (L[a]'(by omega)).val :: (segV L (a + 1) q ++ [v]) := by
  rw [← segV_cat L a (a + 1) (q + 1) (by omega) (by omega), ← segV_cat L (a + 1) q (q + 1) (by omega) (by omega), segV_one L a (by omega), segV_one L q hq, hv]
  rfl
theorem segV_ifE (L : List InsD) (a t q : Nat) (h : a < t) (ht : t < q) (hq : q < L.length) (v u : V4) (hv : (L[q]).val = v) (hu : (L[t]'(by omega)).val = u) : segV L a (q + 1) = (L[a]'(by omega)).val :: (segV L (a + 1) t ++ (u :: segV L (t + 1) q ++ [v])) := by
  rw [← segV_cat L a (a + 1) (q + 1) (by omega) (by omega), ← segV_cat L (a + 1) t (q + 1) (by omega) (by omega), segV_one L a (by omega), ← segV_cat L t (t + 1) (q + 1) (by omega) (by omega), segV_one L t (by omega), ← segV_cat L (t + 1) q (q + 1) (by omega) (by omega), segV_one L q hq, hv, hu]
  simp
end Go.Proofs.YtkceplamaocmmaaDoor
