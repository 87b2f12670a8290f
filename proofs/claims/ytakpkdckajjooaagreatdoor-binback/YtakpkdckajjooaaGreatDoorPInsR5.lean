/-
  What the reader's own instruction does.
-/
import Derived.Test.YtakpkdckajjooaaGreatDoorPGRdr
set_option maxHeartbeats 2000000
set_option maxRecDepth 1000000
namespace Go.Proofs.YtakpkdckajjooaaGreatDoor
set_option linter.unusedVariables false
open Go.RowKit
def XS (w : World) (X : Nat) (c0 c1 c2 c3 : Value) : Prop := w.heap[X]? = some (.cells #[c0, c1, c2, c3] 161 (0, 0))
section
variable {w w' : World} {X P : Nat} {c0 c1 c2 c3 : Value}
theorem XS.lt (h : XS w X c0 c1 c2 c3) : X < w.heap.size := by
  unfold XS at h
  exact (Array.getElem?_eq_some_iff.1 h).1
theorem XS.cell (h : XS w X c0 c1 c2 c3) : w.cell? ⟨X, 0, none⟩ = some c0 ∧ w.cell? ⟨X, 1, none⟩ = some c1 ∧ w.cell? ⟨X, 2, none⟩ = some c2 ∧ w.cell? ⟨X, 3, none⟩ = some c3 := by
  unfold XS at h
  simp [World.cell?, h]
theorem XS.frozen (h : XS w X c0 c1 c2 c3) (i : Nat) : w.frozen? ⟨X, i, none⟩ = false := by
  unfold XS at h
  simp [World.frozen?, h]
theorem XS.chg (h : XS w X c0 c1 c2 c3) (c : Chg P w w') (hX : X ≠ P) : XS w' X c0 c1 c2 c3 := by
  have hl := h.lt
  unfold XS at h ⊢
  rw [c.block X hl hX, h]
theorem XS.set0 (h : XS w X c0 c1 c2 c3) (v : Value) : XS (w.setCell ⟨X, 0, none⟩ v) X v c1 c2 c3 := by
  unfold XS at h ⊢
  simp [World.setCell, Array.getElem?_modify, h]
theorem XS.set1 (h : XS w X c0 c1 c2 c3) (v : Value) : XS (w.setCell ⟨X, 1, none⟩ v) X c0 v c2 c3 := by
  unfold XS at h ⊢
  simp [World.setCell, Array.getElem?_modify, h]
theorem XS.set2 (h : XS w X c0 c1 c2 c3) (v : Value) : XS (w.setCell ⟨X, 2, none⟩ v) X c0 c1 v c3 := by
  unfold XS at h ⊢
  simp [World.setCell, Array.getElem?_modify, h]
theorem XS.set3 (h : XS w X c0 c1 c2 c3) (v : Value) : XS (w.setCell ⟨X, 3, none⟩ v) X c0 c1 c2 v := by
  unfold XS at h ⊢
  simp [World.setCell, Array.getElem?_modify, h]
theorem XS.far (h : XS w X c0 c1 c2 c3) (Y i : Nat) (v : Value) (hY : X ≠ Y) : XS (w.setCell ⟨Y, i, none⟩ v) X c0 c1 c2 c3 := by
  unfold XS at h ⊢
  rw [Below.heap_setCell _ _ _ _ hY, h]
end
theorem RL.far {w : World} {P : Nat} {l : List Int} {a : Int} (h : RL w P l a) (Y i : Nat) (v : Value) (hY : P ≠ Y) : RL (w.setCell ⟨Y, i, none⟩ v) P l a := by
  obtain ⟨s, h1, h2, h3⟩ := h
  refine ⟨s, h1, h2, ?_⟩
  unfold RS at h3 ⊢
  rw [Below.heap_setCell _ _ _ _ hY, h3]
theorem Chg.far {P : Nat} {w w1 : World} (h : Chg P w w1) (Y i : Nat) (v : Value) (hY : w.heap.size ≤ Y) : Chg P w (w1.setCell ⟨Y, i, none⟩ v) := by
  refine ⟨h.os, h.tape, h.output, by have := h.size; simpa using this, fun k hk hp => ?_⟩
  rw [Below.heap_setCell _ _ _ _ (by simp only; omega)]
  exact h.block k hk hp
theorem ownsRow_down {w : World} {B B' n size : Nat} {e : TypeId} {v : Value} {xs : List Value} (h : w.ownsRow B e size v n xs) (hb : B' ≤ B) : w.ownsRow B' e size v n xs := by
  obtain ⟨h1, h2⟩ := h
  refine ⟨h1, ?_⟩
  rcases h2 with h | ⟨g, cap, cur, e1, hg, r⟩
  · exact Or.inl h
  · exact Or.inr ⟨g, cap, cur, e1, Nat.le_trans hb hg, r⟩
theorem new_block (w : World) (o : Obj) : (w.alloc o).heap[w.heap.size]? = some o := by
  show (w.heap.push o)[w.heap.size]? = some o
  rw [Array.getElem?_push]
  simp
theorem ownsRow_far {w : World} {B g n Y i : Nat} {e : TypeId} {xs : List Value} {v : Value} (h : w.ownsRow B e 1 (.slice (some ⟨g, 0, none⟩) n n) n xs) (hg : g ≠ Y) : (w.setCell ⟨Y, i, none⟩ v).ownsRow B e 1 (.slice (some ⟨g, 0, none⟩) n n) n xs :=
  ownsRow_chg (P := Y) h (Chg.set Y i w v) hg
theorem TabIn.chg {w w' : World} {P : Nat} (h : TabIn w) (c : Chg P w w') (h0 : 3 < w.heap.size) (hP : 3 ≠ P) : TabIn w' := h.of_cells fun j => c.cell ⟨3, j, none⟩ h0 hP
theorem instr_1 (P : Nat) (l l1 : List Int) (a a1 op : Int) (w : World) (HN : Hid (∀ w, RL w P l a → Calls Tryz.prog 250 #[.pointer (some ⟨P, 0, none⟩)] w fun r w' => r = .returned (.int .u8 op) ∧ RL w' P l1 a1 ∧ Chg P w w')) (HB : Hid (∀ w, TabIn w → Calls Tryz.prog 219 #[.int .u8 op] w fun r w' => r = .returned (.int .i64 1) ∧ Below w.heap.size w w')) (hr : RL w P l a) (hT : TabIn w) (hTP : 3 ≠ P) (_ht0 : 3 < w.heap.size) :
    Calls Tryz.prog 242 #[.pointer (some ⟨P, 0, none⟩)] w fun r w' => r = .returned (.agg #[.int .u8 op, .int .i64 (0), .int .i64 (0), .slice none 0 0]) ∧ RL w' P (l1) (a1) ∧ Chg P w w' := by
  have hPw := hr.lt
  go_enter Tryz.func242, Tryz.ntmps242
  go_wp2_with fail
  refine (HN.out _ (hr.below ((Below.refl _ _).alloc (Nat.le_refl _) _))).mono ?_
  rintro e w1 ⟨rfl, r1, c1⟩
  have hs1 : w.heap.size < w1.heap.size := by have := c1.size; simp at this; omega
  have hXP : w1.heap.size ≠ P := by omega
  have hRP : w.heap.size ≠ P := by omega
  have xR : XS w1 w.heap.size (.int .u8 0) (.int .i64 0) (.int .i64 0) (.slice none 0 0) := by
    unfold XS
    rw [c1.block w.heap.size (by simp) hRP]
    exact new_block _ _
  have HC1 : Hid (Chg P w w1) := (Chg.of_below ((Below.refl _ _).alloc (Nat.le_refl _) _)).trans c1
  have HR1 : Hid (RL w1 P l1 a1) := r1
  have HT1 : Hid (TabIn w1) := hT.chg HC1.out (by omega) hTP
  clear r1 c1 hr
  go_wp2_with fail
  refine (HB.out _ (HT1.out.chg (Chg.of_below (P := P) ((Below.refl _ _).alloc (Nat.le_refl _) _)) (by omega) hTP)).mono ?_
  rintro e w2 ⟨rfl, b2⟩
  have xX : XS w2 w1.heap.size (.int .u8 op) (.int .i64 0) (.int .i64 0) (.slice none 0 0) := by
    unfold XS
    rw [b2.block w1.heap.size (by simp)]
    exact new_block _ _
  have xR2 : XS w2 w.heap.size (.int .u8 0) (.int .i64 0) (.int .i64 0) (.slice none 0 0) := by
    unfold XS at xR ⊢
    rw [b2.block w.heap.size (by simp; omega), Below.heap_alloc _ _ _ hs1]
    exact xR
  have r2 : RL w2 P l1 a1 := (HR1.out.below ((Below.refl _ _).alloc (Nat.le_refl _) _)).below b2
  have c2 : Chg P w w2 := HC1.out.trans ((Chg.of_below ((Below.refl _ _).alloc (Nat.le_refl _) _)).trans (Chg.of_below b2))
  clear b2 HR1 HC1 HT1 xR
  have hXR : w1.heap.size ≠ w.heap.size := by omega
  have hRX : w.heap.size ≠ w1.heap.size := by omega
  have hXw : w.heap.size ≤ w1.heap.size := by omega
  generalize w1.heap.size = X at xX hXP hXR hRX hs1 hXw
  have hPX : P ≠ X := hXP.symm
  obtain ⟨R, hR⟩ : ∃ R, w.heap.size = R := ⟨_, rfl⟩
  rw [hR] at xR2 hRP hXR hRX
  obtain ⟨x0, x1, x2, x3⟩ := xX.cell
  obtain ⟨y0, y1, y2, y3⟩ := xR2.cell
  have f0 := xR2.frozen 0
  have f1 := xR2.frozen 1
  have f2 := xR2.frozen 2
  have f3 := xR2.frozen 3
  have g1 := xX.frozen 1
  have g2 := xX.frozen 2
  have g3 := xX.frozen 3
  have HFX : Hid _ := (((xR2.set0 (.int .u8 op)).set1 (.int .i64 0)).set2 (.int .i64 0)).set3 (.slice none 0 0)
  have HR : Hid (type_of% r2) := r2
  have HCC : Hid (type_of% c2) := c2
  go_wp2
  obtain ⟨q0, q1, q2, q3⟩ := XS.cell HFX.out
  refine bodyPost_ret (v := .agg #[(.int .u8 op), (.int .i64 0), (.int .i64 0), (.slice none 0 0)]) (by simp [results, Tryz.results242, go_sem, q0, q1, q2, q3]) rfl ?_
  exact ⟨rfl, ((((HR.out.far R 0 _ hRP.symm).far R 1 _ hRP.symm).far R 2 _ hRP.symm).far R 3 _ hRP.symm), ((((HCC.out.far R 0 _ (Nat.le_of_eq hR)).far R 1 _ (Nat.le_of_eq hR)).far R 2 _ (Nat.le_of_eq hR)).far R 3 _ (Nat.le_of_eq hR))⟩
theorem instr_0 (P : Nat) (l l1 : List Int) (a a1 op : Int) (w : World) (HN : Hid (∀ w, RL w P l a → Calls Tryz.prog 250 #[.pointer (some ⟨P, 0, none⟩)] w fun r w' => r = .returned (.int .u8 op) ∧ RL w' P l1 a1 ∧ Chg P w w')) (HB : Hid (∀ w, TabIn w → Calls Tryz.prog 219 #[.int .u8 op] w fun r w' => r = .returned (.int .i64 0) ∧ Below w.heap.size w w')) (hr : RL w P l a) (hT : TabIn w) (hTP : 3 ≠ P) (_ht0 : 3 < w.heap.size) :
    Calls Tryz.prog 242 #[.pointer (some ⟨P, 0, none⟩)] w fun r w' => r = .returned (.agg #[.int .u8 op, .int .i64 (0), .int .i64 (0), .slice none 0 0]) ∧ RL w' P (l1) (fstE a1 6) ∧ Chg P w w' := by
  have hPw := hr.lt
  go_enter Tryz.func242, Tryz.ntmps242
  go_wp2_with fail
  refine (HN.out _ (hr.below ((Below.refl _ _).alloc (Nat.le_refl _) _))).mono ?_
  rintro e w1 ⟨rfl, r1, c1⟩
  have hs1 : w.heap.size < w1.heap.size := by have := c1.size; simp at this; omega
  have hXP : w1.heap.size ≠ P := by omega
  have hRP : w.heap.size ≠ P := by omega
  have xR : XS w1 w.heap.size (.int .u8 0) (.int .i64 0) (.int .i64 0) (.slice none 0 0) := by
    unfold XS
    rw [c1.block w.heap.size (by simp) hRP]
    exact new_block _ _
  have HC1 : Hid (Chg P w w1) := (Chg.of_below ((Below.refl _ _).alloc (Nat.le_refl _) _)).trans c1
  have HR1 : Hid (RL w1 P l1 a1) := r1
  have HT1 : Hid (TabIn w1) := hT.chg HC1.out (by omega) hTP
  clear r1 c1 hr
  go_wp2_with fail
  refine (HB.out _ (HT1.out.chg (Chg.of_below (P := P) ((Below.refl _ _).alloc (Nat.le_refl _) _)) (by omega) hTP)).mono ?_
  rintro e w2 ⟨rfl, b2⟩
  have xX : XS w2 w1.heap.size (.int .u8 op) (.int .i64 0) (.int .i64 0) (.slice none 0 0) := by
    unfold XS
    rw [b2.block w1.heap.size (by simp)]
    exact new_block _ _
  have xR2 : XS w2 w.heap.size (.int .u8 0) (.int .i64 0) (.int .i64 0) (.slice none 0 0) := by
    unfold XS at xR ⊢
    rw [b2.block w.heap.size (by simp; omega), Below.heap_alloc _ _ _ hs1]
    exact xR
  have r2 : RL w2 P l1 a1 := (HR1.out.below ((Below.refl _ _).alloc (Nat.le_refl _) _)).below b2
  have c2 : Chg P w w2 := HC1.out.trans ((Chg.of_below ((Below.refl _ _).alloc (Nat.le_refl _) _)).trans (Chg.of_below b2))
  clear b2 HR1 HC1 HT1 xR
  have hXR : w1.heap.size ≠ w.heap.size := by omega
  have hRX : w.heap.size ≠ w1.heap.size := by omega
  have hXw : w.heap.size ≤ w1.heap.size := by omega
  generalize w1.heap.size = X at xX hXP hXR hRX hs1 hXw
  have hPX : P ≠ X := hXP.symm
  obtain ⟨R, hR⟩ : ∃ R, w.heap.size = R := ⟨_, rfl⟩
  rw [hR] at xR2 hRP hXR hRX
  obtain ⟨x0, x1, x2, x3⟩ := xX.cell
  obtain ⟨y0, y1, y2, y3⟩ := xR2.cell
  have f0 := xR2.frozen 0
  have f1 := xR2.frozen 1
  have f2 := xR2.frozen 2
  have f3 := xR2.frozen 3
  have g1 := xX.frozen 1
  have g2 := xX.frozen 2
  have g3 := xX.frozen 3
  go_wp2_with fail
  refine (r2.fail 6).mono ?_
  rintro e w3 ⟨rfl, r3, c3⟩
  have xX3 := XS.chg (xX) c3 hXP
  have xR3 := XS.chg (xR2) c3 hRP
  have d3 := (c2).trans c3
  obtain ⟨x0, x1, x2, x3⟩ := xX3.cell
  obtain ⟨y0, y1, y2, y3⟩ := xR3.cell
  have f0 := xR3.frozen 0
  have f1 := xR3.frozen 1
  have f2 := xR3.frozen 2
  have f3 := xR3.frozen 3
  have g1 := xX3.frozen 1
  have g2 := xX3.frozen 2
  have g3 := xX3.frozen 3
  have HFX : Hid _ := (((xR3.set0 (.int .u8 op)).set1 (.int .i64 0)).set2 (.int .i64 0)).set3 (.slice none 0 0)
  have HR : Hid (type_of% r3) := r3
  have HCC : Hid (type_of% d3) := d3
  go_wp2
  obtain ⟨q0, q1, q2, q3⟩ := XS.cell HFX.out
  refine bodyPost_ret (v := .agg #[(.int .u8 op), (.int .i64 0), (.int .i64 0), (.slice none 0 0)]) (by simp [results, Tryz.results242, go_sem, q0, q1, q2, q3]) rfl ?_
  exact ⟨rfl, ((((HR.out.far R 0 _ hRP.symm).far R 1 _ hRP.symm).far R 2 _ hRP.symm).far R 3 _ hRP.symm), ((((HCC.out.far R 0 _ (Nat.le_of_eq hR)).far R 1 _ (Nat.le_of_eq hR)).far R 2 _ (Nat.le_of_eq hR)).far R 3 _ (Nat.le_of_eq hR))⟩
theorem instr_2 (P : Nat) (l l1 : List Int) (a a1 op : Int) (w : World) (HN : Hid (∀ w, RL w P l a → Calls Tryz.prog 250 #[.pointer (some ⟨P, 0, none⟩)] w fun r w' => r = .returned (.int .u8 op) ∧ RL w' P l1 a1 ∧ Chg P w w')) (HB : Hid (∀ w, TabIn w → Calls Tryz.prog 219 #[.int .u8 op] w fun r w' => r = .returned (.int .i64 2) ∧ Below w.heap.size w w')) (hr : RL w P l a) (hT : TabIn w) (hTP : 3 ≠ P) (_ht0 : 3 < w.heap.size) :
    Calls Tryz.prog 242 #[.pointer (some ⟨P, 0, none⟩)] w fun r w' => r = .returned (.agg #[.int .u8 op, .int .i64 ((mKind l1 a1).1), .int .i64 (0), .slice none 0 0]) ∧ RL w' P ((mKind l1 a1).2.1) ((mKind l1 a1).2.2) ∧ Chg P w w' := by
  have hPw := hr.lt
  go_enter Tryz.func242, Tryz.ntmps242
  go_wp2_with fail
  refine (HN.out _ (hr.below ((Below.refl _ _).alloc (Nat.le_refl _) _))).mono ?_
  rintro e w1 ⟨rfl, r1, c1⟩
  have hs1 : w.heap.size < w1.heap.size := by have := c1.size; simp at this; omega
  have hXP : w1.heap.size ≠ P := by omega
  have hRP : w.heap.size ≠ P := by omega
  have xR : XS w1 w.heap.size (.int .u8 0) (.int .i64 0) (.int .i64 0) (.slice none 0 0) := by
    unfold XS
    rw [c1.block w.heap.size (by simp) hRP]
    exact new_block _ _
  have HC1 : Hid (Chg P w w1) := (Chg.of_below ((Below.refl _ _).alloc (Nat.le_refl _) _)).trans c1
  have HR1 : Hid (RL w1 P l1 a1) := r1
  have HT1 : Hid (TabIn w1) := hT.chg HC1.out (by omega) hTP
  clear r1 c1 hr
  go_wp2_with fail
  refine (HB.out _ (HT1.out.chg (Chg.of_below (P := P) ((Below.refl _ _).alloc (Nat.le_refl _) _)) (by omega) hTP)).mono ?_
  rintro e w2 ⟨rfl, b2⟩
  have xX : XS w2 w1.heap.size (.int .u8 op) (.int .i64 0) (.int .i64 0) (.slice none 0 0) := by
    unfold XS
    rw [b2.block w1.heap.size (by simp)]
    exact new_block _ _
  have xR2 : XS w2 w.heap.size (.int .u8 0) (.int .i64 0) (.int .i64 0) (.slice none 0 0) := by
    unfold XS at xR ⊢
    rw [b2.block w.heap.size (by simp; omega), Below.heap_alloc _ _ _ hs1]
    exact xR
  have r2 : RL w2 P l1 a1 := (HR1.out.below ((Below.refl _ _).alloc (Nat.le_refl _) _)).below b2
  have c2 : Chg P w w2 := HC1.out.trans ((Chg.of_below ((Below.refl _ _).alloc (Nat.le_refl _) _)).trans (Chg.of_below b2))
  clear b2 HR1 HC1 HT1 xR
  have hXR : w1.heap.size ≠ w.heap.size := by omega
  have hRX : w.heap.size ≠ w1.heap.size := by omega
  have hXw : w.heap.size ≤ w1.heap.size := by omega
  generalize w1.heap.size = X at xX hXP hXR hRX hs1 hXw
  have hPX : P ≠ X := hXP.symm
  obtain ⟨R, hR⟩ : ∃ R, w.heap.size = R := ⟨_, rfl⟩
  rw [hR] at xR2 hRP hXR hRX
  obtain ⟨x0, x1, x2, x3⟩ := xX.cell
  obtain ⟨y0, y1, y2, y3⟩ := xR2.cell
  have f0 := xR2.frozen 0
  have f1 := xR2.frozen 1
  have f2 := xR2.frozen 2
  have f3 := xR2.frozen 3
  have g1 := xX.frozen 1
  have g2 := xX.frozen 2
  have g3 := xX.frozen 3
  go_wp2_with fail
  refine (kind_any P l1 a1 _ r2).mono ?_
  rintro e w3 ⟨rfl, r3, c3⟩
  have xX3 := XS.chg (xX) c3 hXP
  have xR3 := XS.chg (xR2) c3 hRP
  have d3 := (c2).trans c3
  obtain ⟨x0, x1, x2, x3⟩ := xX3.cell
  obtain ⟨y0, y1, y2, y3⟩ := xR3.cell
  have f0 := xR3.frozen 0
  have f1 := xR3.frozen 1
  have f2 := xR3.frozen 2
  have f3 := xR3.frozen 3
  have g1 := xX3.frozen 1
  have g2 := xX3.frozen 2
  have g3 := xX3.frozen 3
  have HFX : Hid _ := ((((xR3.far X 1 (.int .i64 (mKind l1 a1).1) hRX).set0 (.int .u8 op)).set1 (.int .i64 (mKind l1 a1).1)).set2 (.int .i64 0)).set3 (.slice none 0 0)
  have HR : Hid (type_of% (r3.far X 1 (.int .i64 (mKind l1 a1).1) hPX)) := (r3.far X 1 (.int .i64 (mKind l1 a1).1) hPX)
  have HCC : Hid (type_of% (d3.far X 1 (.int .i64 (mKind l1 a1).1) hXw)) := (d3.far X 1 (.int .i64 (mKind l1 a1).1) hXw)
  go_wp2
  obtain ⟨q0, q1, q2, q3⟩ := XS.cell HFX.out
  refine bodyPost_ret (v := .agg #[(.int .u8 op), (.int .i64 (mKind l1 a1).1), (.int .i64 0), (.slice none 0 0)]) (by simp [results, Tryz.results242, go_sem, q0, q1, q2, q3]) rfl ?_
  exact ⟨rfl, ((((HR.out.far R 0 _ hRP.symm).far R 1 _ hRP.symm).far R 2 _ hRP.symm).far R 3 _ hRP.symm), ((((HCC.out.far R 0 _ (Nat.le_of_eq hR)).far R 1 _ (Nat.le_of_eq hR)).far R 2 _ (Nat.le_of_eq hR)).far R 3 _ (Nat.le_of_eq hR))⟩
theorem instr_3 (P : Nat) (l l1 : List Int) (a a1 op : Int) (w : World) (HN : Hid (∀ w, RL w P l a → Calls Tryz.prog 250 #[.pointer (some ⟨P, 0, none⟩)] w fun r w' => r = .returned (.int .u8 op) ∧ RL w' P l1 a1 ∧ Chg P w w')) (HB : Hid (∀ w, TabIn w → Calls Tryz.prog 219 #[.int .u8 op] w fun r w' => r = .returned (.int .i64 3) ∧ Below w.heap.size w w')) (hr : RL w P l a) (hT : TabIn w) (hTP : 3 ≠ P) (_ht0 : 3 < w.heap.size) :
    Calls Tryz.prog 242 #[.pointer (some ⟨P, 0, none⟩)] w fun r w' => r = .returned (.agg #[.int .u8 op, .int .i64 ((mNum l1 a1).1), .int .i64 (0), .slice none 0 0]) ∧ RL w' P ((mNum l1 a1).2.1) ((mNum l1 a1).2.2) ∧ Chg P w w' := by
  have hPw := hr.lt
  go_enter Tryz.func242, Tryz.ntmps242
  go_wp2_with fail
  refine (HN.out _ (hr.below ((Below.refl _ _).alloc (Nat.le_refl _) _))).mono ?_
  rintro e w1 ⟨rfl, r1, c1⟩
  have hs1 : w.heap.size < w1.heap.size := by have := c1.size; simp at this; omega
  have hXP : w1.heap.size ≠ P := by omega
  have hRP : w.heap.size ≠ P := by omega
  have xR : XS w1 w.heap.size (.int .u8 0) (.int .i64 0) (.int .i64 0) (.slice none 0 0) := by
    unfold XS
    rw [c1.block w.heap.size (by simp) hRP]
    exact new_block _ _
  have HC1 : Hid (Chg P w w1) := (Chg.of_below ((Below.refl _ _).alloc (Nat.le_refl _) _)).trans c1
  have HR1 : Hid (RL w1 P l1 a1) := r1
  have HT1 : Hid (TabIn w1) := hT.chg HC1.out (by omega) hTP
  clear r1 c1 hr
  go_wp2_with fail
  refine (HB.out _ (HT1.out.chg (Chg.of_below (P := P) ((Below.refl _ _).alloc (Nat.le_refl _) _)) (by omega) hTP)).mono ?_
  rintro e w2 ⟨rfl, b2⟩
  have xX : XS w2 w1.heap.size (.int .u8 op) (.int .i64 0) (.int .i64 0) (.slice none 0 0) := by
    unfold XS
    rw [b2.block w1.heap.size (by simp)]
    exact new_block _ _
  have xR2 : XS w2 w.heap.size (.int .u8 0) (.int .i64 0) (.int .i64 0) (.slice none 0 0) := by
    unfold XS at xR ⊢
    rw [b2.block w.heap.size (by simp; omega), Below.heap_alloc _ _ _ hs1]
    exact xR
  have r2 : RL w2 P l1 a1 := (HR1.out.below ((Below.refl _ _).alloc (Nat.le_refl _) _)).below b2
  have c2 : Chg P w w2 := HC1.out.trans ((Chg.of_below ((Below.refl _ _).alloc (Nat.le_refl _) _)).trans (Chg.of_below b2))
  clear b2 HR1 HC1 HT1 xR
  have hXR : w1.heap.size ≠ w.heap.size := by omega
  have hRX : w.heap.size ≠ w1.heap.size := by omega
  have hXw : w.heap.size ≤ w1.heap.size := by omega
  generalize w1.heap.size = X at xX hXP hXR hRX hs1 hXw
  have hPX : P ≠ X := hXP.symm
  obtain ⟨R, hR⟩ : ∃ R, w.heap.size = R := ⟨_, rfl⟩
  rw [hR] at xR2 hRP hXR hRX
  obtain ⟨x0, x1, x2, x3⟩ := xX.cell
  obtain ⟨y0, y1, y2, y3⟩ := xR2.cell
  have f0 := xR2.frozen 0
  have f1 := xR2.frozen 1
  have f2 := xR2.frozen 2
  have f3 := xR2.frozen 3
  have g1 := xX.frozen 1
  have g2 := xX.frozen 2
  have g3 := xX.frozen 3
  go_wp2_with fail
  refine (number_any P l1 a1 _ r2).mono ?_
  rintro e w3 ⟨rfl, r3, c3⟩
  have xX3 := XS.chg (xX) c3 hXP
  have xR3 := XS.chg (xR2) c3 hRP
  have d3 := (c2).trans c3
  obtain ⟨x0, x1, x2, x3⟩ := xX3.cell
  obtain ⟨y0, y1, y2, y3⟩ := xR3.cell
  have f0 := xR3.frozen 0
  have f1 := xR3.frozen 1
  have f2 := xR3.frozen 2
  have f3 := xR3.frozen 3
  have g1 := xX3.frozen 1
  have g2 := xX3.frozen 2
  have g3 := xX3.frozen 3
  have HFX : Hid _ := ((((xR3.far X 1 (.int .i64 (mNum l1 a1).1) hRX).set0 (.int .u8 op)).set1 (.int .i64 (mNum l1 a1).1)).set2 (.int .i64 0)).set3 (.slice none 0 0)
  have HR : Hid (type_of% (r3.far X 1 (.int .i64 (mNum l1 a1).1) hPX)) := (r3.far X 1 (.int .i64 (mNum l1 a1).1) hPX)
  have HCC : Hid (type_of% (d3.far X 1 (.int .i64 (mNum l1 a1).1) hXw)) := (d3.far X 1 (.int .i64 (mNum l1 a1).1) hXw)
  go_wp2
  obtain ⟨q0, q1, q2, q3⟩ := XS.cell HFX.out
  refine bodyPost_ret (v := .agg #[(.int .u8 op), (.int .i64 (mNum l1 a1).1), (.int .i64 0), (.slice none 0 0)]) (by simp [results, Tryz.results242, go_sem, q0, q1, q2, q3]) rfl ?_
  exact ⟨rfl, ((((HR.out.far R 0 _ hRP.symm).far R 1 _ hRP.symm).far R 2 _ hRP.symm).far R 3 _ hRP.symm), ((((HCC.out.far R 0 _ (Nat.le_of_eq hR)).far R 1 _ (Nat.le_of_eq hR)).far R 2 _ (Nat.le_of_eq hR)).far R 3 _ (Nat.le_of_eq hR))⟩
theorem instr_5 (P : Nat) (l l1 : List Int) (a a1 op : Int) (w : World) (HN : Hid (∀ w, RL w P l a → Calls Tryz.prog 250 #[.pointer (some ⟨P, 0, none⟩)] w fun r w' => r = .returned (.int .u8 op) ∧ RL w' P l1 a1 ∧ Chg P w w')) (HB : Hid (∀ w, TabIn w → Calls Tryz.prog 219 #[.int .u8 op] w fun r w' => r = .returned (.int .i64 5) ∧ Below w.heap.size w w')) (hr : RL w P l a) (hT : TabIn w) (hTP : 3 ≠ P) (_ht0 : 3 < w.heap.size) :
    Calls Tryz.prog 242 #[.pointer (some ⟨P, 0, none⟩)] w fun r w' => r = .returned (.agg #[.int .u8 op, .int .i64 ((mNum l1 a1).1), .int .i64 (0), .slice none 0 0]) ∧ RL w' P ((mZero (mNum l1 a1).2.1 (mNum l1 a1).2.2).1) ((mZero (mNum l1 a1).2.1 (mNum l1 a1).2.2).2) ∧ Chg P w w' := by
  have hPw := hr.lt
  go_enter Tryz.func242, Tryz.ntmps242
  go_wp2_with fail
  refine (HN.out _ (hr.below ((Below.refl _ _).alloc (Nat.le_refl _) _))).mono ?_
  rintro e w1 ⟨rfl, r1, c1⟩
  have hs1 : w.heap.size < w1.heap.size := by have := c1.size; simp at this; omega
  have hXP : w1.heap.size ≠ P := by omega
  have hRP : w.heap.size ≠ P := by omega
  have xR : XS w1 w.heap.size (.int .u8 0) (.int .i64 0) (.int .i64 0) (.slice none 0 0) := by
    unfold XS
    rw [c1.block w.heap.size (by simp) hRP]
    exact new_block _ _
  have HC1 : Hid (Chg P w w1) := (Chg.of_below ((Below.refl _ _).alloc (Nat.le_refl _) _)).trans c1
  have HR1 : Hid (RL w1 P l1 a1) := r1
  have HT1 : Hid (TabIn w1) := hT.chg HC1.out (by omega) hTP
  clear r1 c1 hr
  go_wp2_with fail
  refine (HB.out _ (HT1.out.chg (Chg.of_below (P := P) ((Below.refl _ _).alloc (Nat.le_refl _) _)) (by omega) hTP)).mono ?_
  rintro e w2 ⟨rfl, b2⟩
  have xX : XS w2 w1.heap.size (.int .u8 op) (.int .i64 0) (.int .i64 0) (.slice none 0 0) := by
    unfold XS
    rw [b2.block w1.heap.size (by simp)]
    exact new_block _ _
  have xR2 : XS w2 w.heap.size (.int .u8 0) (.int .i64 0) (.int .i64 0) (.slice none 0 0) := by
    unfold XS at xR ⊢
    rw [b2.block w.heap.size (by simp; omega), Below.heap_alloc _ _ _ hs1]
    exact xR
  have r2 : RL w2 P l1 a1 := (HR1.out.below ((Below.refl _ _).alloc (Nat.le_refl _) _)).below b2
  have c2 : Chg P w w2 := HC1.out.trans ((Chg.of_below ((Below.refl _ _).alloc (Nat.le_refl _) _)).trans (Chg.of_below b2))
  clear b2 HR1 HC1 HT1 xR
  have hXR : w1.heap.size ≠ w.heap.size := by omega
  have hRX : w.heap.size ≠ w1.heap.size := by omega
  have hXw : w.heap.size ≤ w1.heap.size := by omega
  generalize w1.heap.size = X at xX hXP hXR hRX hs1 hXw
  have hPX : P ≠ X := hXP.symm
  obtain ⟨R, hR⟩ : ∃ R, w.heap.size = R := ⟨_, rfl⟩
  rw [hR] at xR2 hRP hXR hRX
  obtain ⟨x0, x1, x2, x3⟩ := xX.cell
  obtain ⟨y0, y1, y2, y3⟩ := xR2.cell
  have f0 := xR2.frozen 0
  have f1 := xR2.frozen 1
  have f2 := xR2.frozen 2
  have f3 := xR2.frozen 3
  have g1 := xX.frozen 1
  have g2 := xX.frozen 2
  have g3 := xX.frozen 3
  go_wp2_with fail
  refine (number_any P l1 a1 _ r2).mono ?_
  rintro e w3 ⟨rfl, r3, c3⟩
  have xX3 := XS.chg (xX) c3 hXP
  have xR3 := XS.chg (xR2) c3 hRP
  have d3 := (c2).trans c3
  obtain ⟨x0, x1, x2, x3⟩ := xX3.cell
  obtain ⟨y0, y1, y2, y3⟩ := xR3.cell
  have f0 := xR3.frozen 0
  have f1 := xR3.frozen 1
  have f2 := xR3.frozen 2
  have f3 := xR3.frozen 3
  have g1 := xX3.frozen 1
  have g2 := xX3.frozen 2
  have g3 := xX3.frozen 3
  go_wp2_with fail
  refine (zero_any P (mNum l1 a1).2.1 (mNum l1 a1).2.2 _ (r3.far X 1 (.int .i64 (mNum l1 a1).1) hPX)).mono ?_
  rintro e w4 ⟨rfl, r4, c4⟩
  have xX4 := XS.chg ((xX3.set1 (.int .i64 (mNum l1 a1).1))) c4 hXP
  have xR4 := XS.chg ((xR3.far X 1 (.int .i64 (mNum l1 a1).1) hRX)) c4 hRP
  have d4 := ((d3.far X 1 (.int .i64 (mNum l1 a1).1) hXw)).trans c4
  obtain ⟨x0, x1, x2, x3⟩ := xX4.cell
  obtain ⟨y0, y1, y2, y3⟩ := xR4.cell
  have f0 := xR4.frozen 0
  have f1 := xR4.frozen 1
  have f2 := xR4.frozen 2
  have f3 := xR4.frozen 3
  have g1 := xX4.frozen 1
  have g2 := xX4.frozen 2
  have g3 := xX4.frozen 3
  have HFX : Hid _ := (((xR4.set0 (.int .u8 op)).set1 (.int .i64 (mNum l1 a1).1)).set2 (.int .i64 0)).set3 (.slice none 0 0)
  have HR : Hid (type_of% r4) := r4
  have HCC : Hid (type_of% d4) := d4
  go_wp2
  obtain ⟨q0, q1, q2, q3⟩ := XS.cell HFX.out
  refine bodyPost_ret (v := .agg #[(.int .u8 op), (.int .i64 (mNum l1 a1).1), (.int .i64 0), (.slice none 0 0)]) (by simp [results, Tryz.results242, go_sem, q0, q1, q2, q3]) rfl ?_
  exact ⟨rfl, ((((HR.out.far R 0 _ hRP.symm).far R 1 _ hRP.symm).far R 2 _ hRP.symm).far R 3 _ hRP.symm), ((((HCC.out.far R 0 _ (Nat.le_of_eq hR)).far R 1 _ (Nat.le_of_eq hR)).far R 2 _ (Nat.le_of_eq hR)).far R 3 _ (Nat.le_of_eq hR))⟩
theorem instr_6 (P : Nat) (l l1 : List Int) (a a1 op : Int) (w : World) (HN : Hid (∀ w, RL w P l a → Calls Tryz.prog 250 #[.pointer (some ⟨P, 0, none⟩)] w fun r w' => r = .returned (.int .u8 op) ∧ RL w' P l1 a1 ∧ Chg P w w')) (HB : Hid (∀ w, TabIn w → Calls Tryz.prog 219 #[.int .u8 op] w fun r w' => r = .returned (.int .i64 6) ∧ Below w.heap.size w w')) (hr : RL w P l a) (hT : TabIn w) (hTP : 3 ≠ P) (_ht0 : 3 < w.heap.size) :
    Calls Tryz.prog 242 #[.pointer (some ⟨P, 0, none⟩)] w fun r w' => r = .returned (.agg #[.int .u8 op, .int .i64 ((mNum l1 a1).1), .int .i64 ((mNum (mNum l1 a1).2.1 (mNum l1 a1).2.2).1), .slice none 0 0]) ∧ RL w' P ((mNum (mNum l1 a1).2.1 (mNum l1 a1).2.2).2.1) ((mNum (mNum l1 a1).2.1 (mNum l1 a1).2.2).2.2) ∧ Chg P w w' := by
  have hPw := hr.lt
  go_enter Tryz.func242, Tryz.ntmps242
  go_wp2_with fail
  refine (HN.out _ (hr.below ((Below.refl _ _).alloc (Nat.le_refl _) _))).mono ?_
  rintro e w1 ⟨rfl, r1, c1⟩
  have hs1 : w.heap.size < w1.heap.size := by have := c1.size; simp at this; omega
  have hXP : w1.heap.size ≠ P := by omega
  have hRP : w.heap.size ≠ P := by omega
  have xR : XS w1 w.heap.size (.int .u8 0) (.int .i64 0) (.int .i64 0) (.slice none 0 0) := by
    unfold XS
    rw [c1.block w.heap.size (by simp) hRP]
    exact new_block _ _
  have HC1 : Hid (Chg P w w1) := (Chg.of_below ((Below.refl _ _).alloc (Nat.le_refl _) _)).trans c1
  have HR1 : Hid (RL w1 P l1 a1) := r1
  have HT1 : Hid (TabIn w1) := hT.chg HC1.out (by omega) hTP
  clear r1 c1 hr
  go_wp2_with fail
  refine (HB.out _ (HT1.out.chg (Chg.of_below (P := P) ((Below.refl _ _).alloc (Nat.le_refl _) _)) (by omega) hTP)).mono ?_
  rintro e w2 ⟨rfl, b2⟩
  have xX : XS w2 w1.heap.size (.int .u8 op) (.int .i64 0) (.int .i64 0) (.slice none 0 0) := by
    unfold XS
    rw [b2.block w1.heap.size (by simp)]
    exact new_block _ _
  have xR2 : XS w2 w.heap.size (.int .u8 0) (.int .i64 0) (.int .i64 0) (.slice none 0 0) := by
    unfold XS at xR ⊢
    rw [b2.block w.heap.size (by simp; omega), Below.heap_alloc _ _ _ hs1]
    exact xR
  have r2 : RL w2 P l1 a1 := (HR1.out.below ((Below.refl _ _).alloc (Nat.le_refl _) _)).below b2
  have c2 : Chg P w w2 := HC1.out.trans ((Chg.of_below ((Below.refl _ _).alloc (Nat.le_refl _) _)).trans (Chg.of_below b2))
  clear b2 HR1 HC1 HT1 xR
  have hXR : w1.heap.size ≠ w.heap.size := by omega
  have hRX : w.heap.size ≠ w1.heap.size := by omega
  have hXw : w.heap.size ≤ w1.heap.size := by omega
  generalize w1.heap.size = X at xX hXP hXR hRX hs1 hXw
  have hPX : P ≠ X := hXP.symm
  obtain ⟨R, hR⟩ : ∃ R, w.heap.size = R := ⟨_, rfl⟩
  rw [hR] at xR2 hRP hXR hRX
  obtain ⟨x0, x1, x2, x3⟩ := xX.cell
  obtain ⟨y0, y1, y2, y3⟩ := xR2.cell
  have f0 := xR2.frozen 0
  have f1 := xR2.frozen 1
  have f2 := xR2.frozen 2
  have f3 := xR2.frozen 3
  have g1 := xX.frozen 1
  have g2 := xX.frozen 2
  have g3 := xX.frozen 3
  go_wp2_with fail
  refine (number_any P l1 a1 _ r2).mono ?_
  rintro e w3 ⟨rfl, r3, c3⟩
  have xX3 := XS.chg (xX) c3 hXP
  have xR3 := XS.chg (xR2) c3 hRP
  have d3 := (c2).trans c3
  obtain ⟨x0, x1, x2, x3⟩ := xX3.cell
  obtain ⟨y0, y1, y2, y3⟩ := xR3.cell
  have f0 := xR3.frozen 0
  have f1 := xR3.frozen 1
  have f2 := xR3.frozen 2
  have f3 := xR3.frozen 3
  have g1 := xX3.frozen 1
  have g2 := xX3.frozen 2
  have g3 := xX3.frozen 3
  go_wp2_with fail
  refine (number_any P (mNum l1 a1).2.1 (mNum l1 a1).2.2 _ (r3.far X 1 (.int .i64 (mNum l1 a1).1) hPX)).mono ?_
  rintro e w4 ⟨rfl, r4, c4⟩
  have xX4 := XS.chg ((xX3.set1 (.int .i64 (mNum l1 a1).1))) c4 hXP
  have xR4 := XS.chg ((xR3.far X 1 (.int .i64 (mNum l1 a1).1) hRX)) c4 hRP
  have d4 := ((d3.far X 1 (.int .i64 (mNum l1 a1).1) hXw)).trans c4
  obtain ⟨x0, x1, x2, x3⟩ := xX4.cell
  obtain ⟨y0, y1, y2, y3⟩ := xR4.cell
  have f0 := xR4.frozen 0
  have f1 := xR4.frozen 1
  have f2 := xR4.frozen 2
  have f3 := xR4.frozen 3
  have g1 := xX4.frozen 1
  have g2 := xX4.frozen 2
  have g3 := xX4.frozen 3
  have HFX : Hid _ := ((((xR4.far X 2 (.int .i64 (mNum (mNum l1 a1).2.1 (mNum l1 a1).2.2).1) hRX).set0 (.int .u8 op)).set1 (.int .i64 (mNum l1 a1).1)).set2 (.int .i64 (mNum (mNum l1 a1).2.1 (mNum l1 a1).2.2).1)).set3 (.slice none 0 0)
  have HR : Hid (type_of% (r4.far X 2 (.int .i64 (mNum (mNum l1 a1).2.1 (mNum l1 a1).2.2).1) hPX)) := (r4.far X 2 (.int .i64 (mNum (mNum l1 a1).2.1 (mNum l1 a1).2.2).1) hPX)
  have HCC : Hid (type_of% (d4.far X 2 (.int .i64 (mNum (mNum l1 a1).2.1 (mNum l1 a1).2.2).1) hXw)) := (d4.far X 2 (.int .i64 (mNum (mNum l1 a1).2.1 (mNum l1 a1).2.2).1) hXw)
  go_wp2
  obtain ⟨q0, q1, q2, q3⟩ := XS.cell HFX.out
  refine bodyPost_ret (v := .agg #[(.int .u8 op), (.int .i64 (mNum l1 a1).1), (.int .i64 (mNum (mNum l1 a1).2.1 (mNum l1 a1).2.2).1), (.slice none 0 0)]) (by simp [results, Tryz.results242, go_sem, q0, q1, q2, q3]) rfl ?_
  exact ⟨rfl, ((((HR.out.far R 0 _ hRP.symm).far R 1 _ hRP.symm).far R 2 _ hRP.symm).far R 3 _ hRP.symm), ((((HCC.out.far R 0 _ (Nat.le_of_eq hR)).far R 1 _ (Nat.le_of_eq hR)).far R 2 _ (Nat.le_of_eq hR)).far R 3 _ (Nat.le_of_eq hR))⟩
theorem instr_7 (P : Nat) (l l1 : List Int) (a a1 op : Int) (w : World) (HN : Hid (∀ w, RL w P l a → Calls Tryz.prog 250 #[.pointer (some ⟨P, 0, none⟩)] w fun r w' => r = .returned (.int .u8 op) ∧ RL w' P l1 a1 ∧ Chg P w w')) (HB : Hid (∀ w, TabIn w → Calls Tryz.prog 219 #[.int .u8 op] w fun r w' => r = .returned (.int .i64 7) ∧ Below w.heap.size w w')) (hr : RL w P l a) (hT : TabIn w) (hTP : 3 ≠ P) (_ht0 : 3 < w.heap.size) :
    Calls Tryz.prog 242 #[.pointer (some ⟨P, 0, none⟩)] w fun r w' => r = .returned (.agg #[.int .u8 op, .int .i64 (0), .int .i64 (0), .slice none 0 0]) ∧ RL w' P ((mZero l1 a1).1) ((mZero l1 a1).2) ∧ Chg P w w' := by
  have hPw := hr.lt
  go_enter Tryz.func242, Tryz.ntmps242
  go_wp2_with fail
  refine (HN.out _ (hr.below ((Below.refl _ _).alloc (Nat.le_refl _) _))).mono ?_
  rintro e w1 ⟨rfl, r1, c1⟩
  have hs1 : w.heap.size < w1.heap.size := by have := c1.size; simp at this; omega
  have hXP : w1.heap.size ≠ P := by omega
  have hRP : w.heap.size ≠ P := by omega
  have xR : XS w1 w.heap.size (.int .u8 0) (.int .i64 0) (.int .i64 0) (.slice none 0 0) := by
    unfold XS
    rw [c1.block w.heap.size (by simp) hRP]
    exact new_block _ _
  have HC1 : Hid (Chg P w w1) := (Chg.of_below ((Below.refl _ _).alloc (Nat.le_refl _) _)).trans c1
  have HR1 : Hid (RL w1 P l1 a1) := r1
  have HT1 : Hid (TabIn w1) := hT.chg HC1.out (by omega) hTP
  clear r1 c1 hr
  go_wp2_with fail
  refine (HB.out _ (HT1.out.chg (Chg.of_below (P := P) ((Below.refl _ _).alloc (Nat.le_refl _) _)) (by omega) hTP)).mono ?_
  rintro e w2 ⟨rfl, b2⟩
  have xX : XS w2 w1.heap.size (.int .u8 op) (.int .i64 0) (.int .i64 0) (.slice none 0 0) := by
    unfold XS
    rw [b2.block w1.heap.size (by simp)]
    exact new_block _ _
  have xR2 : XS w2 w.heap.size (.int .u8 0) (.int .i64 0) (.int .i64 0) (.slice none 0 0) := by
    unfold XS at xR ⊢
    rw [b2.block w.heap.size (by simp; omega), Below.heap_alloc _ _ _ hs1]
    exact xR
  have r2 : RL w2 P l1 a1 := (HR1.out.below ((Below.refl _ _).alloc (Nat.le_refl _) _)).below b2
  have c2 : Chg P w w2 := HC1.out.trans ((Chg.of_below ((Below.refl _ _).alloc (Nat.le_refl _) _)).trans (Chg.of_below b2))
  clear b2 HR1 HC1 HT1 xR
  have hXR : w1.heap.size ≠ w.heap.size := by omega
  have hRX : w.heap.size ≠ w1.heap.size := by omega
  have hXw : w.heap.size ≤ w1.heap.size := by omega
  generalize w1.heap.size = X at xX hXP hXR hRX hs1 hXw
  have hPX : P ≠ X := hXP.symm
  obtain ⟨R, hR⟩ : ∃ R, w.heap.size = R := ⟨_, rfl⟩
  rw [hR] at xR2 hRP hXR hRX
  obtain ⟨x0, x1, x2, x3⟩ := xX.cell
  obtain ⟨y0, y1, y2, y3⟩ := xR2.cell
  have f0 := xR2.frozen 0
  have f1 := xR2.frozen 1
  have f2 := xR2.frozen 2
  have f3 := xR2.frozen 3
  have g1 := xX.frozen 1
  have g2 := xX.frozen 2
  have g3 := xX.frozen 3
  go_wp2_with fail
  refine (zero_any P l1 a1 _ r2).mono ?_
  rintro e w3 ⟨rfl, r3, c3⟩
  have xX3 := XS.chg (xX) c3 hXP
  have xR3 := XS.chg (xR2) c3 hRP
  have d3 := (c2).trans c3
  obtain ⟨x0, x1, x2, x3⟩ := xX3.cell
  obtain ⟨y0, y1, y2, y3⟩ := xR3.cell
  have f0 := xR3.frozen 0
  have f1 := xR3.frozen 1
  have f2 := xR3.frozen 2
  have f3 := xR3.frozen 3
  have g1 := xX3.frozen 1
  have g2 := xX3.frozen 2
  have g3 := xX3.frozen 3
  have HFX : Hid _ := (((xR3.set0 (.int .u8 op)).set1 (.int .i64 0)).set2 (.int .i64 0)).set3 (.slice none 0 0)
  have HR : Hid (type_of% r3) := r3
  have HCC : Hid (type_of% d3) := d3
  go_wp2
  obtain ⟨q0, q1, q2, q3⟩ := XS.cell HFX.out
  refine bodyPost_ret (v := .agg #[(.int .u8 op), (.int .i64 0), (.int .i64 0), (.slice none 0 0)]) (by simp [results, Tryz.results242, go_sem, q0, q1, q2, q3]) rfl ?_
  exact ⟨rfl, ((((HR.out.far R 0 _ hRP.symm).far R 1 _ hRP.symm).far R 2 _ hRP.symm).far R 3 _ hRP.symm), ((((HCC.out.far R 0 _ (Nat.le_of_eq hR)).far R 1 _ (Nat.le_of_eq hR)).far R 2 _ (Nat.le_of_eq hR)).far R 3 _ (Nat.le_of_eq hR))⟩
theorem instr_8 (P : Nat) (l l1 : List Int) (a a1 op : Int) (w : World) (HN : Hid (∀ w, RL w P l a → Calls Tryz.prog 250 #[.pointer (some ⟨P, 0, none⟩)] w fun r w' => r = .returned (.int .u8 op) ∧ RL w' P l1 a1 ∧ Chg P w w')) (HB : Hid (∀ w, TabIn w → Calls Tryz.prog 219 #[.int .u8 op] w fun r w' => r = .returned (.int .i64 8) ∧ Below w.heap.size w w')) (hr : RL w P l a) (hT : TabIn w) (hTP : 3 ≠ P) (_ht0 : 3 < w.heap.size) :
    Calls Tryz.prog 242 #[.pointer (some ⟨P, 0, none⟩)] w fun r w' => r = .returned (.agg #[.int .u8 op, .int .i64 ((mSig 32 l1 a1).1), .int .i64 (0), .slice none 0 0]) ∧ RL w' P ((mSig 32 l1 a1).2.1) ((mSig 32 l1 a1).2.2) ∧ Chg P w w' := by
  have hPw := hr.lt
  go_enter Tryz.func242, Tryz.ntmps242
  go_wp2_with fail
  refine (HN.out _ (hr.below ((Below.refl _ _).alloc (Nat.le_refl _) _))).mono ?_
  rintro e w1 ⟨rfl, r1, c1⟩
  have hs1 : w.heap.size < w1.heap.size := by have := c1.size; simp at this; omega
  have hXP : w1.heap.size ≠ P := by omega
  have hRP : w.heap.size ≠ P := by omega
  have xR : XS w1 w.heap.size (.int .u8 0) (.int .i64 0) (.int .i64 0) (.slice none 0 0) := by
    unfold XS
    rw [c1.block w.heap.size (by simp) hRP]
    exact new_block _ _
  have HC1 : Hid (Chg P w w1) := (Chg.of_below ((Below.refl _ _).alloc (Nat.le_refl _) _)).trans c1
  have HR1 : Hid (RL w1 P l1 a1) := r1
  have HT1 : Hid (TabIn w1) := hT.chg HC1.out (by omega) hTP
  clear r1 c1 hr
  go_wp2_with fail
  refine (HB.out _ (HT1.out.chg (Chg.of_below (P := P) ((Below.refl _ _).alloc (Nat.le_refl _) _)) (by omega) hTP)).mono ?_
  rintro e w2 ⟨rfl, b2⟩
  have xX : XS w2 w1.heap.size (.int .u8 op) (.int .i64 0) (.int .i64 0) (.slice none 0 0) := by
    unfold XS
    rw [b2.block w1.heap.size (by simp)]
    exact new_block _ _
  have xR2 : XS w2 w.heap.size (.int .u8 0) (.int .i64 0) (.int .i64 0) (.slice none 0 0) := by
    unfold XS at xR ⊢
    rw [b2.block w.heap.size (by simp; omega), Below.heap_alloc _ _ _ hs1]
    exact xR
  have r2 : RL w2 P l1 a1 := (HR1.out.below ((Below.refl _ _).alloc (Nat.le_refl _) _)).below b2
  have c2 : Chg P w w2 := HC1.out.trans ((Chg.of_below ((Below.refl _ _).alloc (Nat.le_refl _) _)).trans (Chg.of_below b2))
  clear b2 HR1 HC1 HT1 xR
  have hXR : w1.heap.size ≠ w.heap.size := by omega
  have hRX : w.heap.size ≠ w1.heap.size := by omega
  have hXw : w.heap.size ≤ w1.heap.size := by omega
  generalize w1.heap.size = X at xX hXP hXR hRX hs1 hXw
  have hPX : P ≠ X := hXP.symm
  obtain ⟨R, hR⟩ : ∃ R, w.heap.size = R := ⟨_, rfl⟩
  rw [hR] at xR2 hRP hXR hRX
  obtain ⟨x0, x1, x2, x3⟩ := xX.cell
  obtain ⟨y0, y1, y2, y3⟩ := xR2.cell
  have f0 := xR2.frozen 0
  have f1 := xR2.frozen 1
  have f2 := xR2.frozen 2
  have f3 := xR2.frozen 3
  have g1 := xX.frozen 1
  have g2 := xX.frozen 2
  have g3 := xX.frozen 3
  go_wp2_with fail
  refine (sig_any P 32 (Or.inl rfl) l1 a1 _ r2).mono ?_
  rintro e w3 ⟨rfl, r3, c3⟩
  have xX3 := XS.chg (xX) c3 hXP
  have xR3 := XS.chg (xR2) c3 hRP
  have d3 := (c2).trans c3
  obtain ⟨x0, x1, x2, x3⟩ := xX3.cell
  obtain ⟨y0, y1, y2, y3⟩ := xR3.cell
  have f0 := xR3.frozen 0
  have f1 := xR3.frozen 1
  have f2 := xR3.frozen 2
  have f3 := xR3.frozen 3
  have g1 := xX3.frozen 1
  have g2 := xX3.frozen 2
  have g3 := xX3.frozen 3
  have HFX : Hid _ := ((((xR3.far X 1 (.int .i64 (mSig 32 l1 a1).1) hRX).set0 (.int .u8 op)).set1 (.int .i64 (mSig 32 l1 a1).1)).set2 (.int .i64 0)).set3 (.slice none 0 0)
  have HR : Hid (type_of% (r3.far X 1 (.int .i64 (mSig 32 l1 a1).1) hPX)) := (r3.far X 1 (.int .i64 (mSig 32 l1 a1).1) hPX)
  have HCC : Hid (type_of% (d3.far X 1 (.int .i64 (mSig 32 l1 a1).1) hXw)) := (d3.far X 1 (.int .i64 (mSig 32 l1 a1).1) hXw)
  go_wp2
  obtain ⟨q0, q1, q2, q3⟩ := XS.cell HFX.out
  refine bodyPost_ret (v := .agg #[(.int .u8 op), (.int .i64 (mSig 32 l1 a1).1), (.int .i64 0), (.slice none 0 0)]) (by simp [results, Tryz.results242, go_sem, q0, q1, q2, q3]) rfl ?_
  exact ⟨rfl, ((((HR.out.far R 0 _ hRP.symm).far R 1 _ hRP.symm).far R 2 _ hRP.symm).far R 3 _ hRP.symm), ((((HCC.out.far R 0 _ (Nat.le_of_eq hR)).far R 1 _ (Nat.le_of_eq hR)).far R 2 _ (Nat.le_of_eq hR)).far R 3 _ (Nat.le_of_eq hR))⟩
theorem instr_9 (P : Nat) (l l1 : List Int) (a a1 op : Int) (w : World) (HN : Hid (∀ w, RL w P l a → Calls Tryz.prog 250 #[.pointer (some ⟨P, 0, none⟩)] w fun r w' => r = .returned (.int .u8 op) ∧ RL w' P l1 a1 ∧ Chg P w w')) (HB : Hid (∀ w, TabIn w → Calls Tryz.prog 219 #[.int .u8 op] w fun r w' => r = .returned (.int .i64 9) ∧ Below w.heap.size w w')) (hr : RL w P l a) (hT : TabIn w) (hTP : 3 ≠ P) (_ht0 : 3 < w.heap.size) :
    Calls Tryz.prog 242 #[.pointer (some ⟨P, 0, none⟩)] w fun r w' => r = .returned (.agg #[.int .u8 op, .int .i64 ((mSig 64 l1 a1).1), .int .i64 (0), .slice none 0 0]) ∧ RL w' P ((mSig 64 l1 a1).2.1) ((mSig 64 l1 a1).2.2) ∧ Chg P w w' := by
  have hPw := hr.lt
  go_enter Tryz.func242, Tryz.ntmps242
  go_wp2_with fail
  refine (HN.out _ (hr.below ((Below.refl _ _).alloc (Nat.le_refl _) _))).mono ?_
  rintro e w1 ⟨rfl, r1, c1⟩
  have hs1 : w.heap.size < w1.heap.size := by have := c1.size; simp at this; omega
  have hXP : w1.heap.size ≠ P := by omega
  have hRP : w.heap.size ≠ P := by omega
  have xR : XS w1 w.heap.size (.int .u8 0) (.int .i64 0) (.int .i64 0) (.slice none 0 0) := by
    unfold XS
    rw [c1.block w.heap.size (by simp) hRP]
    exact new_block _ _
  have HC1 : Hid (Chg P w w1) := (Chg.of_below ((Below.refl _ _).alloc (Nat.le_refl _) _)).trans c1
  have HR1 : Hid (RL w1 P l1 a1) := r1
  have HT1 : Hid (TabIn w1) := hT.chg HC1.out (by omega) hTP
  clear r1 c1 hr
  go_wp2_with fail
  refine (HB.out _ (HT1.out.chg (Chg.of_below (P := P) ((Below.refl _ _).alloc (Nat.le_refl _) _)) (by omega) hTP)).mono ?_
  rintro e w2 ⟨rfl, b2⟩
  have xX : XS w2 w1.heap.size (.int .u8 op) (.int .i64 0) (.int .i64 0) (.slice none 0 0) := by
    unfold XS
    rw [b2.block w1.heap.size (by simp)]
    exact new_block _ _
  have xR2 : XS w2 w.heap.size (.int .u8 0) (.int .i64 0) (.int .i64 0) (.slice none 0 0) := by
    unfold XS at xR ⊢
    rw [b2.block w.heap.size (by simp; omega), Below.heap_alloc _ _ _ hs1]
    exact xR
  have r2 : RL w2 P l1 a1 := (HR1.out.below ((Below.refl _ _).alloc (Nat.le_refl _) _)).below b2
  have c2 : Chg P w w2 := HC1.out.trans ((Chg.of_below ((Below.refl _ _).alloc (Nat.le_refl _) _)).trans (Chg.of_below b2))
  clear b2 HR1 HC1 HT1 xR
  have hXR : w1.heap.size ≠ w.heap.size := by omega
  have hRX : w.heap.size ≠ w1.heap.size := by omega
  have hXw : w.heap.size ≤ w1.heap.size := by omega
  generalize w1.heap.size = X at xX hXP hXR hRX hs1 hXw
  have hPX : P ≠ X := hXP.symm
  obtain ⟨R, hR⟩ : ∃ R, w.heap.size = R := ⟨_, rfl⟩
  rw [hR] at xR2 hRP hXR hRX
  obtain ⟨x0, x1, x2, x3⟩ := xX.cell
  obtain ⟨y0, y1, y2, y3⟩ := xR2.cell
  have f0 := xR2.frozen 0
  have f1 := xR2.frozen 1
  have f2 := xR2.frozen 2
  have f3 := xR2.frozen 3
  have g1 := xX.frozen 1
  have g2 := xX.frozen 2
  have g3 := xX.frozen 3
  go_wp2_with fail
  refine (sig_any P 64 (Or.inr rfl) l1 a1 _ r2).mono ?_
  rintro e w3 ⟨rfl, r3, c3⟩
  have xX3 := XS.chg (xX) c3 hXP
  have xR3 := XS.chg (xR2) c3 hRP
  have d3 := (c2).trans c3
  obtain ⟨x0, x1, x2, x3⟩ := xX3.cell
  obtain ⟨y0, y1, y2, y3⟩ := xR3.cell
  have f0 := xR3.frozen 0
  have f1 := xR3.frozen 1
  have f2 := xR3.frozen 2
  have f3 := xR3.frozen 3
  have g1 := xX3.frozen 1
  have g2 := xX3.frozen 2
  have g3 := xX3.frozen 3
  have HFX : Hid _ := ((((xR3.far X 1 (.int .i64 (mSig 64 l1 a1).1) hRX).set0 (.int .u8 op)).set1 (.int .i64 (mSig 64 l1 a1).1)).set2 (.int .i64 0)).set3 (.slice none 0 0)
  have HR : Hid (type_of% (r3.far X 1 (.int .i64 (mSig 64 l1 a1).1) hPX)) := (r3.far X 1 (.int .i64 (mSig 64 l1 a1).1) hPX)
  have HCC : Hid (type_of% (d3.far X 1 (.int .i64 (mSig 64 l1 a1).1) hXw)) := (d3.far X 1 (.int .i64 (mSig 64 l1 a1).1) hXw)
  go_wp2
  obtain ⟨q0, q1, q2, q3⟩ := XS.cell HFX.out
  refine bodyPost_ret (v := .agg #[(.int .u8 op), (.int .i64 (mSig 64 l1 a1).1), (.int .i64 0), (.slice none 0 0)]) (by simp [results, Tryz.results242, go_sem, q0, q1, q2, q3]) rfl ?_
  exact ⟨rfl, ((((HR.out.far R 0 _ hRP.symm).far R 1 _ hRP.symm).far R 2 _ hRP.symm).far R 3 _ hRP.symm), ((((HCC.out.far R 0 _ (Nat.le_of_eq hR)).far R 1 _ (Nat.le_of_eq hR)).far R 2 _ (Nat.le_of_eq hR)).far R 3 _ (Nat.le_of_eq hR))⟩
theorem instr_4 (P : Nat) (l l1 : List Int) (a a1 op : Int) (w : World) (HN : Hid (∀ w, RL w P l a → Calls Tryz.prog 250 #[.pointer (some ⟨P, 0, none⟩)] w fun r w' => r = .returned (.int .u8 op) ∧ RL w' P l1 a1 ∧ Chg P w w')) (HB : Hid (∀ w, TabIn w → Calls Tryz.prog 219 #[.int .u8 op] w fun r w' => r = .returned (.int .i64 4) ∧ Below w.heap.size w w')) (hr : RL w P l a) (hT : TabIn w) (hTP : 3 ≠ P) (_ht0 : 3 < w.heap.size) :
    Calls Tryz.prog 242 #[.pointer (some ⟨P, 0, none⟩)] w fun r w' => ∃ v, r = .returned (.agg #[.int .u8 op, .int .i64 ((mNum (mNums l1 a1).2.1 (mNums l1 a1).2.2).1), .int .i64 (0), v]) ∧ RL w' P ((mNum (mNums l1 a1).2.1 (mNums l1 a1).2.2).2.1) ((mNum (mNums l1 a1).2.1 (mNums l1 a1).2.2).2.2) ∧ Chg P w w' ∧ IsI w' w.heap.size v ((mNums l1 a1).1) := by
  have hPw := hr.lt
  go_enter Tryz.func242, Tryz.ntmps242
  go_wp2_with fail
  refine (HN.out _ (hr.below ((Below.refl _ _).alloc (Nat.le_refl _) _))).mono ?_
  rintro e w1 ⟨rfl, r1, c1⟩
  have hs1 : w.heap.size < w1.heap.size := by have := c1.size; simp at this; omega
  have hXP : w1.heap.size ≠ P := by omega
  have hRP : w.heap.size ≠ P := by omega
  have xR : XS w1 w.heap.size (.int .u8 0) (.int .i64 0) (.int .i64 0) (.slice none 0 0) := by
    unfold XS
    rw [c1.block w.heap.size (by simp) hRP]
    exact new_block _ _
  have HC1 : Hid (Chg P w w1) := (Chg.of_below ((Below.refl _ _).alloc (Nat.le_refl _) _)).trans c1
  have HR1 : Hid (RL w1 P l1 a1) := r1
  have HT1 : Hid (TabIn w1) := hT.chg HC1.out (by omega) hTP
  clear r1 c1 hr
  go_wp2_with fail
  refine (HB.out _ (HT1.out.chg (Chg.of_below (P := P) ((Below.refl _ _).alloc (Nat.le_refl _) _)) (by omega) hTP)).mono ?_
  rintro e w2 ⟨rfl, b2⟩
  have xX : XS w2 w1.heap.size (.int .u8 op) (.int .i64 0) (.int .i64 0) (.slice none 0 0) := by
    unfold XS
    rw [b2.block w1.heap.size (by simp)]
    exact new_block _ _
  have xR2 : XS w2 w.heap.size (.int .u8 0) (.int .i64 0) (.int .i64 0) (.slice none 0 0) := by
    unfold XS at xR ⊢
    rw [b2.block w.heap.size (by simp; omega), Below.heap_alloc _ _ _ hs1]
    exact xR
  have r2 : RL w2 P l1 a1 := (HR1.out.below ((Below.refl _ _).alloc (Nat.le_refl _) _)).below b2
  have c2 : Chg P w w2 := HC1.out.trans ((Chg.of_below ((Below.refl _ _).alloc (Nat.le_refl _) _)).trans (Chg.of_below b2))
  clear b2 HR1 HC1 HT1 xR
  have hXR : w1.heap.size ≠ w.heap.size := by omega
  have hRX : w.heap.size ≠ w1.heap.size := by omega
  have hXw : w.heap.size ≤ w1.heap.size := by omega
  generalize w1.heap.size = X at xX hXP hXR hRX hs1 hXw
  have hPX : P ≠ X := hXP.symm
  obtain ⟨R, hR⟩ : ∃ R, w.heap.size = R := ⟨_, rfl⟩
  rw [hR] at xR2 hRP hXR hRX
  obtain ⟨x0, x1, x2, x3⟩ := xX.cell
  obtain ⟨y0, y1, y2, y3⟩ := xR2.cell
  have f0 := xR2.frozen 0
  have f1 := xR2.frozen 1
  have f2 := xR2.frozen 2
  have f3 := xR2.frozen 3
  have g1 := xX.frozen 1
  have g2 := xX.frozen 2
  have g3 := xX.frozen 3
  have hx2 := xX.lt
  have hr2 := xR2.lt
  have hp2 := r2.lt
  have hb2 : w.heap.size ≤ w2.heap.size := c2.size
  go_wp2_with fail
  refine (numbers_any P l1 a1 _ r2).mono ?_
  rintro e w3 ⟨v, rfl, i3, r3, c3⟩
  rcases i3 with ⟨rfl, hx⟩ | ⟨g, rfl, ho⟩
  · skip
    have xX3 := XS.chg xX c3 hXP
    have xR3 := XS.chg xR2 c3 hRP
    have d3 := c2.trans c3
    obtain ⟨x0, x1, x2, x3⟩ := xX3.cell
    obtain ⟨y0, y1, y2, y3⟩ := xR3.cell
    have f0 := xR3.frozen 0
    have f1 := xR3.frozen 1
    have f2 := xR3.frozen 2
    have f3 := xR3.frozen 3
    have g1 := xX3.frozen 1
    have g2 := xX3.frozen 2
    have g3 := xX3.frozen 3
    go_wp2_with fail
    refine (number_any P (mNums l1 a1).2.1 (mNums l1 a1).2.2 _ (r3.far X 3 (.slice none 0 0) hPX)).mono ?_
    rintro e w4 ⟨rfl, r4, c4⟩
    have xX4 := XS.chg (xX3.set3 (.slice none 0 0)) c4 hXP
    have xR4 := XS.chg (xR3.far X 3 (.slice none 0 0) hRX) c4 hRP
    have d4 := (d3.far X 3 (.slice none 0 0) hXw).trans c4
    obtain ⟨x0, x1, x2, x3⟩ := xX4.cell
    obtain ⟨y0, y1, y2, y3⟩ := xR4.cell
    have f0 := xR4.frozen 0
    have f1 := xR4.frozen 1
    have f2 := xR4.frozen 2
    have f3 := xR4.frozen 3
    have g1 := xX4.frozen 1
    have g2 := xX4.frozen 2
    have g3 := xX4.frozen 3
    have HFX : Hid _ := ((((xR4.far X 1 (.int .i64 (mNum (mNums l1 a1).2.1 (mNums l1 a1).2.2).1) hRX).set0 (.int .u8 op)).set1 (.int .i64 (mNum (mNums l1 a1).2.1 (mNums l1 a1).2.2).1)).set2 (.int .i64 0)).set3 (.slice none 0 0)
    have HR : Hid (type_of% (r4.far X 1 (.int .i64 (mNum (mNums l1 a1).2.1 (mNums l1 a1).2.2).1) hPX)) := (r4.far X 1 (.int .i64 (mNum (mNums l1 a1).2.1 (mNums l1 a1).2.2).1) hPX)
    have HCC : Hid (type_of% (d4.far X 1 (.int .i64 (mNum (mNums l1 a1).2.1 (mNums l1 a1).2.2).1) hXw)) := (d4.far X 1 (.int .i64 (mNum (mNums l1 a1).2.1 (mNums l1 a1).2.2).1) hXw)
    go_wp2
    obtain ⟨q0, q1, q2, q3⟩ := XS.cell HFX.out
    refine bodyPost_ret (v := .agg #[(.int .u8 op), (.int .i64 (mNum (mNums l1 a1).2.1 (mNums l1 a1).2.2).1), (.int .i64 0), (.slice none 0 0)]) (by simp [results, Tryz.results242, go_sem, q0, q1, q2, q3]) rfl ?_
    exact ⟨_, rfl, ((((HR.out.far R 0 _ hRP.symm).far R 1 _ hRP.symm).far R 2 _ hRP.symm).far R 3 _ hRP.symm), ((((HCC.out.far R 0 _ (Nat.le_of_eq hR)).far R 1 _ (Nat.le_of_eq hR)).far R 2 _ (Nat.le_of_eq hR)).far R 3 _ (Nat.le_of_eq hR)), Or.inl ⟨rfl, hx⟩⟩
  · have hg := (ho.lt g rfl).1
    have xX3 := XS.chg xX c3 hXP
    have xR3 := XS.chg xR2 c3 hRP
    have d3 := c2.trans c3
    obtain ⟨x0, x1, x2, x3⟩ := xX3.cell
    obtain ⟨y0, y1, y2, y3⟩ := xR3.cell
    have f0 := xR3.frozen 0
    have f1 := xR3.frozen 1
    have f2 := xR3.frozen 2
    have f3 := xR3.frozen 3
    have g1 := xX3.frozen 1
    have g2 := xX3.frozen 2
    have g3 := xX3.frozen 3
    go_wp2_with fail
    refine (number_any P (mNums l1 a1).2.1 (mNums l1 a1).2.2 _ (r3.far X 3 (.slice (some ⟨g, 0, none⟩) (mNums l1 a1).1.length (mNums l1 a1).1.length) hPX)).mono ?_
    rintro e w4 ⟨rfl, r4, c4⟩
    have xX4 := XS.chg (xX3.set3 (.slice (some ⟨g, 0, none⟩) (mNums l1 a1).1.length (mNums l1 a1).1.length)) c4 hXP
    have xR4 := XS.chg (xR3.far X 3 (.slice (some ⟨g, 0, none⟩) (mNums l1 a1).1.length (mNums l1 a1).1.length) hRX) c4 hRP
    have d4 := (d3.far X 3 (.slice (some ⟨g, 0, none⟩) (mNums l1 a1).1.length (mNums l1 a1).1.length) hXw).trans c4
    have hgX : g ≠ X := by omega
    have hgR : g ≠ R := by omega
    have hgP : g ≠ P := by omega
    have HO4 : Hid (w4.ownsRow w2.heap.size 2 1 (.slice (some ⟨g, 0, none⟩) (mNums l1 a1).1.length (mNums l1 a1).1.length) (mNums l1 a1).1.length ((mNums l1 a1).1.map (Value.int .i64))) := ownsRow_chg (ownsRow_far ho hgX) c4 hgP
    obtain ⟨x0, x1, x2, x3⟩ := xX4.cell
    obtain ⟨y0, y1, y2, y3⟩ := xR4.cell
    have f0 := xR4.frozen 0
    have f1 := xR4.frozen 1
    have f2 := xR4.frozen 2
    have f3 := xR4.frozen 3
    have g1 := xX4.frozen 1
    have g2 := xX4.frozen 2
    have g3 := xX4.frozen 3
    have HFX : Hid _ := ((((xR4.far X 1 (.int .i64 (mNum (mNums l1 a1).2.1 (mNums l1 a1).2.2).1) hRX).set0 (.int .u8 op)).set1 (.int .i64 (mNum (mNums l1 a1).2.1 (mNums l1 a1).2.2).1)).set2 (.int .i64 0)).set3 (.slice (some ⟨g, 0, none⟩) (mNums l1 a1).1.length (mNums l1 a1).1.length)
    have HR : Hid (type_of% (r4.far X 1 (.int .i64 (mNum (mNums l1 a1).2.1 (mNums l1 a1).2.2).1) hPX)) := (r4.far X 1 (.int .i64 (mNum (mNums l1 a1).2.1 (mNums l1 a1).2.2).1) hPX)
    have HCC : Hid (type_of% (d4.far X 1 (.int .i64 (mNum (mNums l1 a1).2.1 (mNums l1 a1).2.2).1) hXw)) := (d4.far X 1 (.int .i64 (mNum (mNums l1 a1).2.1 (mNums l1 a1).2.2).1) hXw)
    go_wp2
    obtain ⟨q0, q1, q2, q3⟩ := XS.cell HFX.out
    refine bodyPost_ret (v := .agg #[(.int .u8 op), (.int .i64 (mNum (mNums l1 a1).2.1 (mNums l1 a1).2.2).1), (.int .i64 0), (.slice (some ⟨g, 0, none⟩) (mNums l1 a1).1.length (mNums l1 a1).1.length)]) (by simp [results, Tryz.results242, go_sem, q0, q1, q2, q3]) rfl ?_
    exact ⟨_, rfl, ((((HR.out.far R 0 _ hRP.symm).far R 1 _ hRP.symm).far R 2 _ hRP.symm).far R 3 _ hRP.symm), ((((HCC.out.far R 0 _ (Nat.le_of_eq hR)).far R 1 _ (Nat.le_of_eq hR)).far R 2 _ (Nat.le_of_eq hR)).far R 3 _ (Nat.le_of_eq hR)), Or.inr ⟨g, rfl, ownsRow_down (ownsRow_far (ownsRow_far (ownsRow_far (ownsRow_far (ownsRow_far HO4.out hgX) hgR) hgR) hgR) hgR) hb2⟩⟩
end Go.Proofs.YtakpkdckajjooaaGreatDoor
