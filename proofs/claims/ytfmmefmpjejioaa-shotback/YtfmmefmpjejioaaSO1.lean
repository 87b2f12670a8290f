/-
  An image and a state that are handed in, opened.
-/
import Derived.Test.YtfmmefmpjejioaaOpenM
import Derived.Test.YtfmmefmpjejioaaSW5
namespace Go.Proofs.Ytfmmefmpjejioaa
open Go.ChangeShapes Go.WideShapes Go.ChangeAt Go.RowKit Go.Deep

instance : Inhabited CalD := ⟨⟨0, 0, default, default⟩⟩
section
variable {H : Type} {enc : TypeId × Value → H} {W : World}
theorem cellsCal : Try.prog.cellsOf 55 = 4 := by kernel_rfl
theorem cellsCals : Try.prog.cellsOf 26 = 1 := by kernel_rfl
theorem cellsImg : Try.prog.cellsOf 25 = 3 := by kernel_rfl
theorem cellsSta : Try.prog.cellsOf 28 = 2 := by kernel_rfl
set_option maxHeartbeats 400000 in
set_option maxRecDepth 100000 in
theorem open_call (fuel : Nat) (l : List Value) (x : DataW H × List MemPlace) (hl : l.length = 4) (hf : DataW.trod enc Try.prog W 0 (fun _ => true) true fuel 55 l = some x) : ∃ a : CalD, l = a.cells ∧ a.ok W := by
  obtain ⟨c0, c1, c2, c3, rfl⟩ := list_four l hl
  obtain ⟨ys, m, _, hx, _, hyl, hall⟩ := DataW.trod_struct Try.underlying55 hf
  obtain ⟨y0, y1, y2, y3, rfl⟩ := list_four ys hyl
  have g0 := hall 0 _ rfl
  have g1 := hall 1 _ rfl
  have g2 := hall 2 _ rfl
  have g3 := hall 3 _ rfl
  simp [cellsInt, cellsI64s] at g0 g1 g2 g3
  obtain ⟨f, e0, _, w0⟩ := DataW.trod_int Try.underlying3 g0
  obtain ⟨a, e1, _, w1⟩ := DataW.trod_int Try.underlying3 g1
  obtain ⟨d1, rfl, h1⟩ := open_nums Try.underlying23 Try.underlying2 cellsI64 g2
  obtain ⟨d2, rfl, h2⟩ := open_nums Try.underlying23 Try.underlying2 cellsI64 g3
  simp only [List.cons.injEq, and_true] at e0 e1
  subst e0 e1
  exact ⟨⟨f, a, d1, d2⟩, rfl, bounds_i64 w0, bounds_i64 w1, h1, h2⟩
end
set_option maxHeartbeats 1000000 in
set_option maxRecDepth 100000 in
theorem open_image {H : Type} {enc : TypeId × Value → H} {W : World} {base : Nat} {v0 : Value} {d0 : DataW H} {p0 : List MemPlace} (hv : Value.okWide Try.prog W .any base 25 v0) (h0 : DataW.Trod enc Try.prog W 0 (fun _ => true) true 25 v0 d0 p0) :
    ∃ m : ImgD, v0 = m.v ∧ m.ok W := by
  obtain ⟨cs, rfl, hcs⟩ := okWide_struct (P := Try.prog) (w := W) (r := .any) (base := base) (t := 25) (v := v0) Try.underlying25 hv
  rw [cellsImg] at hcs
  obtain ⟨l⟩ := cs
  obtain ⟨c0, c1, c2, rfl⟩ := list_three l hcs
  obtain ⟨fuel, hf⟩ := h0
  obtain ⟨ys, m, _, hx, _, hyl, hall⟩ := DataW.trod_struct Try.underlying25 hf
  obtain ⟨y0, y1, y2, rfl⟩ := list_three ys hyl
  have g0 := hall 0 _ rfl
  have g1 := hall 1 _ rfl
  have g2 := hall 2 _ rfl
  clear hall hx hf hv
  simp [Value.cells, cellsStr, cellsInts, cellsI64s] at g0 g1 g2
  obtain ⟨s, e0, _, ws⟩ := DataW.trod_string Try.underlying9 g0
  obtain ⟨d1, rfl, h1⟩ := open_nums Try.underlying22 Try.underlying3 cellsInt g1
  obtain ⟨d2, rfl, h2⟩ := open_nums Try.underlying23 Try.underlying2 cellsI64 g2
  simp only [List.cons.injEq, and_true] at e0
  subst e0
  exact ⟨⟨s, d1, d2⟩, rfl, ws, h1, h2⟩
set_option maxHeartbeats 1000000 in
set_option maxRecDepth 100000 in
theorem open_state {H : Type} {enc : TypeId × Value → H} {W : World} {base : Nat} {v0 : Value} {d0 : DataW H} {p0 : List MemPlace} (hv : Value.okWide Try.prog W .any base 28 v0) (h0 : DataW.Trod enc Try.prog W 0 (fun _ => true) true 28 v0 d0 p0) :
    ∃ m : StaD, v0 = m.v ∧ m.ok W := by
  obtain ⟨cs, rfl, hcs⟩ := okWide_struct (P := Try.prog) (w := W) (r := .any) (base := base) (t := 28) (v := v0) Try.underlying28 hv
  rw [cellsSta] at hcs
  obtain ⟨l⟩ := cs
  obtain ⟨c0, c1, rfl⟩ := list_two l hcs
  obtain ⟨fuel, hf⟩ := h0
  obtain ⟨ys, m, _, hx, _, hyl, hall⟩ := DataW.trod_struct Try.underlying28 hf
  obtain ⟨y0, y1, rfl⟩ := list_two ys hyl
  have g0 := hall 0 _ rfl
  have g1 := hall 1 _ rfl
  clear hall hx hf hv
  simp [Value.cells, cellsCals, cellsInt] at g0 g1
  obtain ⟨o, cap, L, rfl, hL⟩ := open_rows 4 (by omega) Try.underlying26 cellsCal CalD.cells CalD.ok (fun _ => rfl) open_call g0
  obtain ⟨n, e1, _, w1⟩ := DataW.trod_int Try.underlying3 g1
  simp only [List.cons.injEq, and_true] at e1
  subst e1
  exact ⟨⟨o, cap, L, n⟩, rfl, bounds_i64 w1, hL⟩
end Go.Proofs.Ytfmmefmpjejioaa
