/-
  What the program's own Read does.
-/
import Derived.Test.YtgdleahhkaolbaaDoorInsR6
import Derived.RegionTactic
import Derived.BigRegion
namespace Go.Proofs.YtgdleahhkaolbaaDoor
open Go.RowKit

set_option maxHeartbeats 4000000 in
set_option maxRecDepth 1000000 in
theorem read_err (s : ByteArray) (_hs : s.size ≤ maxLen) (op A B e : Int) (To lF : List Int) (w : World)
    (HI : Hid (Calls Tryd.prog 57 #[.pointer (some ⟨w.heap.size + 1, 0, none⟩)] ((w.alloc (.cells #[.int .u8 0, .int .i64 0, .int .i64 0, .slice none 0 0] 24)).alloc (.cells #[.string s, .int .i64 0] 81)) fun r w' => ∃ v, r = .returned (.agg #[.int .u8 op, .int .i64 A, .int .i64 B, v]) ∧ RL w' (w.heap.size + 1) lF e ∧ Chg (w.heap.size + 1) ((w.alloc (.cells #[.int .u8 0, .int .i64 0, .int .i64 0, .slice none 0 0] 24)).alloc (.cells #[.string s, .int .i64 0] 81)) w' ∧ IsI w' (w.heap.size + 2) v To)) (_he : (e == 0) = false) :
    Calls Tryd.prog 18 #[.string s] w fun r w' => r = .returned (.tuple #[.agg #[.int .u8 0, .int .i64 0, .int .i64 0, .slice none 0 0], .int .i64 0, .int .i64 e]) ∧ Below w.heap.size w w' := by
  have hne : (e != 0) = true := by rw [bne, _he]; rfl
  go_enter Tryd.func18, Tryd.ntmps18
  go_wp2_with fail
  refine HI.out.mono ?_
  rintro r w1 ⟨v, rfl, ⟨s2, hn2, _hs2, r1⟩, c1, q1⟩
  subst hn2
  unfold maxLen at _hs _hs2
  have xR : XS w1 w.heap.size (.int .u8 0) (.int .i64 0) (.int .i64 0) (.slice none 0 0) := by
    unfold XS
    rw [c1.block w.heap.size (by simp; omega) (by simp), Below.heap_alloc _ _ _ (by simp)]
    exact new_block _ _
  have hs1 : w.heap.size + 2 ≤ w1.heap.size := by have := c1.size; simp at this; omega
  have d0 := r1.c0
  have d1 := r1.c1
  have hXw : w.heap.size < w1.heap.size := by omega
  have hXp : w.heap.size + 1 < w1.heap.size := by omega
  obtain ⟨y0, y1, y2, y3⟩ := xR.cell
  have f0 := xR.frozen 0
  have f1 := xR.frozen 1
  have f2 := xR.frozen 2
  have f3 := xR.frozen 3
  have HB1 : Hid (Below w.heap.size w w1) := (((Below.refl _ _).alloc (Nat.le_refl _) _).alloc (by simp) _).trans (c1.below (by omega) (by simp; omega))
  clear c1
  rcases q1 with ⟨rfl, _⟩ | ⟨g, rfl, _⟩
  · go_wp2
    have e0 : (w1.alloc (Obj.cells #[.int .u8 op, .int .i64 A, .int .i64 B, (.slice none 0 0)] 24)).cell? ⟨w.heap.size + 1, 0, none⟩ = some (.string s2) := (World.cell?_alloc_lt (h := hXp) ..).trans d0
    have e1 : (w1.alloc (Obj.cells #[.int .u8 op, .int .i64 A, .int .i64 B, (.slice none 0 0)] 24)).cell? ⟨w.heap.size + 1, 1, none⟩ = some (.int .i64 e) := (World.cell?_alloc_lt (h := hXp) ..).trans d1
    have xR2 : XS (w1.alloc (Obj.cells #[.int .u8 op, .int .i64 A, .int .i64 B, (.slice none 0 0)] 24)) w.heap.size (.int .u8 0) (.int .i64 0) (.int .i64 0) (.slice none 0 0) := by
      unfold XS at xR ⊢
      rw [Below.heap_alloc _ _ _ hXw]
      exact xR
    have xX2 : XS (w1.alloc (Obj.cells #[.int .u8 op, .int .i64 A, .int .i64 B, (.slice none 0 0)] 24)) w1.heap.size (.int .u8 op) (.int .i64 A) (.int .i64 B) (.slice none 0 0) := new_block _ _
    have HB2 : Hid (Below w.heap.size w (w1.alloc (Obj.cells #[.int .u8 op, .int .i64 A, .int .i64 B, (.slice none 0 0)] 24))) := HB1.out.alloc (by omega) _
    clear y0 y1 y2 y3 f0 f1 f2 f3 d0 d1 xR r1
    generalize w1.alloc (Obj.cells #[.int .u8 op, .int .i64 A, .int .i64 B, (.slice none 0 0)] 24) = w2 at e0 e1 xR2 xX2 HB2 ⊢
    obtain ⟨y0, y1, y2, y3⟩ := xR2.cell
    have f0 := xR2.frozen 0
    have f1 := xR2.frozen 1
    have f2 := xR2.frozen 2
    have f3 := xR2.frozen 3
    have HFX : Hid (XS _ _ _ _ _ _) := (((xR2.set0 (.int .u8 0)).set1 (.int .i64 0)).set2 (.int .i64 0)).set3 (.slice none 0 0)
    go_region
    go_wp2
    obtain ⟨q0, q1, q2, q3⟩ := XS.cell HFX.out
    refine bodyPost_ret (v := .tuple #[.agg #[(.int .u8 0), (.int .i64 0), (.int .i64 0), (.slice none 0 0)], .int .i64 0, .int .i64 e]) (by simp [results, Tryd.results18, go_sem, q0, q1, q2, q3]) rfl ?_
    exact ⟨rfl, ((((HB2.out.setCell (p := ⟨w.heap.size, 0, none⟩) (Nat.le_refl _) _).setCell (p := ⟨w.heap.size, 1, none⟩) (Nat.le_refl _) _).setCell (p := ⟨w.heap.size, 2, none⟩) (Nat.le_refl _) _).setCell (p := ⟨w.heap.size, 3, none⟩) (Nat.le_refl _) _).drew⟩
  · go_wp2
    have e0 : (w1.alloc (Obj.cells #[.int .u8 op, .int .i64 A, .int .i64 B, (.slice (some ⟨g, 0, none⟩) To.length To.length)] 24)).cell? ⟨w.heap.size + 1, 0, none⟩ = some (.string s2) := (World.cell?_alloc_lt (h := hXp) ..).trans d0
    have e1 : (w1.alloc (Obj.cells #[.int .u8 op, .int .i64 A, .int .i64 B, (.slice (some ⟨g, 0, none⟩) To.length To.length)] 24)).cell? ⟨w.heap.size + 1, 1, none⟩ = some (.int .i64 e) := (World.cell?_alloc_lt (h := hXp) ..).trans d1
    have xR2 : XS (w1.alloc (Obj.cells #[.int .u8 op, .int .i64 A, .int .i64 B, (.slice (some ⟨g, 0, none⟩) To.length To.length)] 24)) w.heap.size (.int .u8 0) (.int .i64 0) (.int .i64 0) (.slice none 0 0) := by
      unfold XS at xR ⊢
      rw [Below.heap_alloc _ _ _ hXw]
      exact xR
    have xX2 : XS (w1.alloc (Obj.cells #[.int .u8 op, .int .i64 A, .int .i64 B, (.slice (some ⟨g, 0, none⟩) To.length To.length)] 24)) w1.heap.size (.int .u8 op) (.int .i64 A) (.int .i64 B) (.slice (some ⟨g, 0, none⟩) To.length To.length) := new_block _ _
    have HB2 : Hid (Below w.heap.size w (w1.alloc (Obj.cells #[.int .u8 op, .int .i64 A, .int .i64 B, (.slice (some ⟨g, 0, none⟩) To.length To.length)] 24))) := HB1.out.alloc (by omega) _
    clear y0 y1 y2 y3 f0 f1 f2 f3 d0 d1 xR r1
    generalize w1.alloc (Obj.cells #[.int .u8 op, .int .i64 A, .int .i64 B, (.slice (some ⟨g, 0, none⟩) To.length To.length)] 24) = w2 at e0 e1 xR2 xX2 HB2 ⊢
    obtain ⟨y0, y1, y2, y3⟩ := xR2.cell
    have f0 := xR2.frozen 0
    have f1 := xR2.frozen 1
    have f2 := xR2.frozen 2
    have f3 := xR2.frozen 3
    have HFX : Hid (XS _ _ _ _ _ _) := (((xR2.set0 (.int .u8 0)).set1 (.int .i64 0)).set2 (.int .i64 0)).set3 (.slice none 0 0)
    go_region
    go_wp2
    obtain ⟨q0, q1, q2, q3⟩ := XS.cell HFX.out
    refine bodyPost_ret (v := .tuple #[.agg #[(.int .u8 0), (.int .i64 0), (.int .i64 0), (.slice none 0 0)], .int .i64 0, .int .i64 e]) (by simp [results, Tryd.results18, go_sem, q0, q1, q2, q3]) rfl ?_
    exact ⟨rfl, ((((HB2.out.setCell (p := ⟨w.heap.size, 0, none⟩) (Nat.le_refl _) _).setCell (p := ⟨w.heap.size, 1, none⟩) (Nat.le_refl _) _).setCell (p := ⟨w.heap.size, 2, none⟩) (Nat.le_refl _) _).setCell (p := ⟨w.heap.size, 3, none⟩) (Nat.le_refl _) _).drew⟩
set_option maxHeartbeats 4000000 in
set_option maxRecDepth 1000000 in
theorem read_ok (s : ByteArray) (_hs : s.size ≤ maxLen) (op A B : Int) (To lF : List Int) (w : World)
    (HI : Hid (Calls Tryd.prog 57 #[.pointer (some ⟨w.heap.size + 1, 0, none⟩)] ((w.alloc (.cells #[.int .u8 0, .int .i64 0, .int .i64 0, .slice none 0 0] 24)).alloc (.cells #[.string s, .int .i64 0] 81)) fun r w' => ∃ v, r = .returned (.agg #[.int .u8 op, .int .i64 A, .int .i64 B, v]) ∧ RL w' (w.heap.size + 1) lF 0 ∧ Chg (w.heap.size + 1) ((w.alloc (.cells #[.int .u8 0, .int .i64 0, .int .i64 0, .slice none 0 0] 24)).alloc (.cells #[.string s, .int .i64 0] 81)) w' ∧ IsI w' (w.heap.size + 2) v To)) :
    Calls Tryd.prog 18 #[.string s] w fun r w' => ∃ v, r = .returned (.tuple #[.agg #[.int .u8 op, .int .i64 A, .int .i64 B, v], .int .i64 ((s.size : Int) - (lF.length : Int)), .int .i64 0]) ∧ Below w.heap.size w w' ∧ IsI w' w.heap.size v To := by
  go_enter Tryd.func18, Tryd.ntmps18
  go_wp2_with fail
  refine HI.out.mono ?_
  rintro r w1 ⟨v, rfl, ⟨s2, hn2, _hs2, r1⟩, c1, q1⟩
  subst hn2
  unfold maxLen at _hs _hs2
  have xR : XS w1 w.heap.size (.int .u8 0) (.int .i64 0) (.int .i64 0) (.slice none 0 0) := by
    unfold XS
    rw [c1.block w.heap.size (by simp; omega) (by simp), Below.heap_alloc _ _ _ (by simp)]
    exact new_block _ _
  have hs1 : w.heap.size + 2 ≤ w1.heap.size := by have := c1.size; simp at this; omega
  have d0 := r1.c0
  have d1 := r1.c1
  have hXw : w.heap.size < w1.heap.size := by omega
  have hXp : w.heap.size + 1 < w1.heap.size := by omega
  obtain ⟨y0, y1, y2, y3⟩ := xR.cell
  have f0 := xR.frozen 0
  have f1 := xR.frozen 1
  have f2 := xR.frozen 2
  have f3 := xR.frozen 3
  have HB1 : Hid (Below w.heap.size w w1) := (((Below.refl _ _).alloc (Nat.le_refl _) _).alloc (by simp) _).trans (c1.below (by omega) (by simp; omega))
  clear c1
  rcases q1 with ⟨rfl, hx⟩ | ⟨g, rfl, ho⟩
  · go_wp2
    have e0 : (w1.alloc (Obj.cells #[.int .u8 op, .int .i64 A, .int .i64 B, (.slice none 0 0)] 24)).cell? ⟨w.heap.size + 1, 0, none⟩ = some (.string s2) := (World.cell?_alloc_lt (h := hXp) ..).trans d0
    have e1 : (w1.alloc (Obj.cells #[.int .u8 op, .int .i64 A, .int .i64 B, (.slice none 0 0)] 24)).cell? ⟨w.heap.size + 1, 1, none⟩ = some (.int .i64 0) := (World.cell?_alloc_lt (h := hXp) ..).trans d1
    have xR2 : XS (w1.alloc (Obj.cells #[.int .u8 op, .int .i64 A, .int .i64 B, (.slice none 0 0)] 24)) w.heap.size (.int .u8 0) (.int .i64 0) (.int .i64 0) (.slice none 0 0) := by
      unfold XS at xR ⊢
      rw [Below.heap_alloc _ _ _ hXw]
      exact xR
    have xX2 : XS (w1.alloc (Obj.cells #[.int .u8 op, .int .i64 A, .int .i64 B, (.slice none 0 0)] 24)) w1.heap.size (.int .u8 op) (.int .i64 A) (.int .i64 B) (.slice none 0 0) := new_block _ _
    have HB2 : Hid (Below w.heap.size w (w1.alloc (Obj.cells #[.int .u8 op, .int .i64 A, .int .i64 B, (.slice none 0 0)] 24))) := HB1.out.alloc (by omega) _
    clear y0 y1 y2 y3 f0 f1 f2 f3 d0 d1 xR r1
    generalize w1.alloc (Obj.cells #[.int .u8 op, .int .i64 A, .int .i64 B, (.slice none 0 0)] 24) = w2 at e0 e1 xR2 xX2 HB2 ⊢
    obtain ⟨y0, y1, y2, y3⟩ := xR2.cell
    have f0 := xR2.frozen 0
    have f1 := xR2.frozen 1
    have f2 := xR2.frozen 2
    have f3 := xR2.frozen 3
    obtain ⟨x0, x1, x2, x3⟩ := xX2.cell
    have HFX : Hid (XS _ _ _ _ _ _) := (((xR2.set0 (.int .u8 op)).set1 (.int .i64 A)).set2 (.int .i64 B)).set3 (.slice none 0 0)
    go_region
    go_wp2
    obtain ⟨q0, q1, q2, q3⟩ := XS.cell HFX.out
    refine bodyPost_ret (v := .tuple #[.agg #[(.int .u8 op), (.int .i64 A), (.int .i64 B), (.slice none 0 0)], .int .i64 ((s.size : Int) - (s2.size : Int)), .int .i64 0]) (by simp [results, Tryd.results18, go_sem, q0, q1, q2, q3]) rfl ?_
    exact ⟨_, by rw [nums_length], ((((HB2.out.setCell (p := ⟨w.heap.size, 0, none⟩) (Nat.le_refl _) _).setCell (p := ⟨w.heap.size, 1, none⟩) (Nat.le_refl _) _).setCell (p := ⟨w.heap.size, 2, none⟩) (Nat.le_refl _) _).setCell (p := ⟨w.heap.size, 3, none⟩) (Nat.le_refl _) _).drew, Or.inl ⟨rfl, hx⟩⟩
  · have hg := (ho.lt g rfl).1
    have hgR : g ≠ w.heap.size := by omega
    have HO1 : Hid (type_of% ho) := ho
    clear ho
    go_wp2
    have HO2 : Hid (type_of% (HO1.out.alloc (Obj.cells #[.int .u8 op, .int .i64 A, .int .i64 B, (.slice (some ⟨g, 0, none⟩) To.length To.length)] 24))) := HO1.out.alloc _
    have e0 : (w1.alloc (Obj.cells #[.int .u8 op, .int .i64 A, .int .i64 B, (.slice (some ⟨g, 0, none⟩) To.length To.length)] 24)).cell? ⟨w.heap.size + 1, 0, none⟩ = some (.string s2) := (World.cell?_alloc_lt (h := hXp) ..).trans d0
    have e1 : (w1.alloc (Obj.cells #[.int .u8 op, .int .i64 A, .int .i64 B, (.slice (some ⟨g, 0, none⟩) To.length To.length)] 24)).cell? ⟨w.heap.size + 1, 1, none⟩ = some (.int .i64 0) := (World.cell?_alloc_lt (h := hXp) ..).trans d1
    have xR2 : XS (w1.alloc (Obj.cells #[.int .u8 op, .int .i64 A, .int .i64 B, (.slice (some ⟨g, 0, none⟩) To.length To.length)] 24)) w.heap.size (.int .u8 0) (.int .i64 0) (.int .i64 0) (.slice none 0 0) := by
      unfold XS at xR ⊢
      rw [Below.heap_alloc _ _ _ hXw]
      exact xR
    have xX2 : XS (w1.alloc (Obj.cells #[.int .u8 op, .int .i64 A, .int .i64 B, (.slice (some ⟨g, 0, none⟩) To.length To.length)] 24)) w1.heap.size (.int .u8 op) (.int .i64 A) (.int .i64 B) (.slice (some ⟨g, 0, none⟩) To.length To.length) := new_block _ _
    have HB2 : Hid (Below w.heap.size w (w1.alloc (Obj.cells #[.int .u8 op, .int .i64 A, .int .i64 B, (.slice (some ⟨g, 0, none⟩) To.length To.length)] 24))) := HB1.out.alloc (by omega) _
    clear y0 y1 y2 y3 f0 f1 f2 f3 d0 d1 xR r1
    generalize w1.alloc (Obj.cells #[.int .u8 op, .int .i64 A, .int .i64 B, (.slice (some ⟨g, 0, none⟩) To.length To.length)] 24) = w2 at e0 e1 xR2 xX2 HB2 HO2 ⊢
    obtain ⟨y0, y1, y2, y3⟩ := xR2.cell
    have f0 := xR2.frozen 0
    have f1 := xR2.frozen 1
    have f2 := xR2.frozen 2
    have f3 := xR2.frozen 3
    obtain ⟨x0, x1, x2, x3⟩ := xX2.cell
    have HFX : Hid (XS _ _ _ _ _ _) := (((xR2.set0 (.int .u8 op)).set1 (.int .i64 A)).set2 (.int .i64 B)).set3 (.slice (some ⟨g, 0, none⟩) To.length To.length)
    go_region
    go_wp2
    obtain ⟨q0, q1, q2, q3⟩ := XS.cell HFX.out
    refine bodyPost_ret (v := .tuple #[.agg #[(.int .u8 op), (.int .i64 A), (.int .i64 B), (.slice (some ⟨g, 0, none⟩) To.length To.length)], .int .i64 ((s.size : Int) - (s2.size : Int)), .int .i64 0]) (by simp [results, Tryd.results18, go_sem, q0, q1, q2, q3]) rfl ?_
    exact ⟨_, by rw [nums_length], ((((HB2.out.setCell (p := ⟨w.heap.size, 0, none⟩) (Nat.le_refl _) _).setCell (p := ⟨w.heap.size, 1, none⟩) (Nat.le_refl _) _).setCell (p := ⟨w.heap.size, 2, none⟩) (Nat.le_refl _) _).setCell (p := ⟨w.heap.size, 3, none⟩) (Nat.le_refl _) _).drew, Or.inr ⟨g, rfl, ownsRow_down (ownsRow_far (ownsRow_far (ownsRow_far (ownsRow_far HO2.out hgR) hgR) hgR) hgR).drew (by omega)⟩⟩
end Go.Proofs.YtgdleahhkaolbaaDoor
