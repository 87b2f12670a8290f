/-
 The law of a body within a block of its own kind.
-/
import Derived.Test.YtgleeocebnjliaaGreatDoorAVO
set_option maxHeartbeats 8000000
set_option maxRecDepth 1000000
namespace Go.Proofs.YtgleeocebnjliaaGreatDoor
open Go.RowKit
set_option linter.unusedVariables false
theorem below_drewN {B : Nat} {w w' : World} (h : Below B w w') (n : Nat) : Below B w (w'.drewN n) := ⟨h.os, h.tape, h.output, h.size, h.block⟩
theorem setCell_off (w : World) (g i X k : Nat) {x : Value} (h : X ≠ g) : (w.setCell ⟨g, i, none⟩ x).cell? ⟨X, k, none⟩ = w.cell? ⟨X, k, none⟩ := World.cell?_of_block (Below.heap_setCell _ ⟨g, i, none⟩ _ X h)
theorem wraps_no (m : ModD) (at' : Int) (w : World) (HA : Hid (Amb w)) (HG : Hid (2 < w.heap.size))
  (HSO : Hid (∀ W, Below w.heap.size w W → Calls Tryz.prog 21 #[.agg #[.slice m.oT m.types.length m.cT, .slice m.oI m.imports.length m.cI, .slice m.oF m.funcs.length m.cF, .int .i64 m.table, .int .i64 m.pages, .int .i64 m.most, .slice m.oG m.globals.length m.cG, .slice m.oE m.exports.length m.cE, .int .i64 m.start, .slice m.oL m.elems.length m.cL, .slice m.oD m.data.length m.cD], .int .i64 at', .int .i64 0] W fun r w' => r = .returned (.tuple #[.int .i64 0, .int .i64 0, .bool false]) ∧ Below W.heap.size W w')) :
  Calls Tryz.prog 7 #[.agg #[.slice m.oT m.types.length m.cT, .slice m.oI m.imports.length m.cI, .slice m.oF m.funcs.length m.cF, .int .i64 m.table, .int .i64 m.pages, .int .i64 m.most, .slice m.oG m.globals.length m.cG, .slice m.oE m.exports.length m.cE, .int .i64 m.start, .slice m.oL m.elems.length m.cL, .slice m.oD m.data.length m.cD], .int .i64 at'] w fun r w' => r = .returned (.bool true) ∧ Below w.heap.size w w' := by
 have hb1 : Below w.heap.size w (w.alloc (.cells #[.slice m.oT m.types.length m.cT, .slice m.oI m.imports.length m.cI, .slice m.oF m.funcs.length m.cF, .int .i64 m.table, .int .i64 m.pages, .int .i64 m.most, .slice m.oG m.globals.length m.cG, .slice m.oE m.exports.length m.cE, .int .i64 m.start, .slice m.oL m.elems.length m.cL, .slice m.oD m.data.length m.cD] 30)) := (Below.refl _ _).alloc (Nat.le_refl _) _
 have HB1 : Hid (type_of% hb1) := hb1
 have HS : Hid (∀ w', Below (w.alloc (.cells #[.slice m.oT m.types.length m.cT, .slice m.oI m.imports.length m.cI, .slice m.oF m.funcs.length m.cF, .int .i64 m.table, .int .i64 m.pages, .int .i64 m.most, .slice m.oG m.globals.length m.cG, .slice m.oE m.exports.length m.cE, .int .i64 m.start, .slice m.oL m.elems.length m.cL, .slice m.oD m.data.length m.cD] 30)).heap.size (w.alloc (.cells #[.slice m.oT m.types.length m.cT, .slice m.oI m.imports.length m.cI, .slice m.oF m.funcs.length m.cF, .int .i64 m.table, .int .i64 m.pages, .int .i64 m.most, .slice m.oG m.globals.length m.cG, .slice m.oE m.exports.length m.cE, .int .i64 m.start, .slice m.oL m.elems.length m.cL, .slice m.oD m.data.length m.cD] 30)) w' → w'.cell? ⟨w.heap.size, 0, none⟩ = some (.slice m.oT m.types.length m.cT) ∧ w'.cell? ⟨w.heap.size, 1, none⟩ = some (.slice m.oI m.imports.length m.cI) ∧ w'.cell? ⟨w.heap.size, 2, none⟩ = some (.slice m.oF m.funcs.length m.cF) ∧ w'.cell? ⟨w.heap.size, 3, none⟩ = some (.int .i64 m.table) ∧ w'.cell? ⟨w.heap.size, 4, none⟩ = some (.int .i64 m.pages) ∧ w'.cell? ⟨w.heap.size, 5, none⟩ = some (.int .i64 m.most) ∧ w'.cell? ⟨w.heap.size, 6, none⟩ = some (.slice m.oG m.globals.length m.cG) ∧ w'.cell? ⟨w.heap.size, 7, none⟩ = some (.slice m.oE m.exports.length m.cE) ∧ w'.cell? ⟨w.heap.size, 8, none⟩ = some (.int .i64 m.start) ∧ w'.cell? ⟨w.heap.size, 9, none⟩ = some (.slice m.oL m.elems.length m.cL) ∧ w'.cell? ⟨w.heap.size, 10, none⟩ = some (.slice m.oD m.data.length m.cD)) := fun w' bz => by
  have a1 := (bz.block w.heap.size (by simp)).trans (new_block w (.cells #[.slice m.oT m.types.length m.cT, .slice m.oI m.imports.length m.cI, .slice m.oF m.funcs.length m.cF, .int .i64 m.table, .int .i64 m.pages, .int .i64 m.most, .slice m.oG m.globals.length m.cG, .slice m.oE m.exports.length m.cE, .int .i64 m.start, .slice m.oL m.elems.length m.cL, .slice m.oD m.data.length m.cD] 30))
  exact ⟨cell_at a1 0 rfl, cell_at a1 1 rfl, cell_at a1 2 rfl, cell_at a1 3 rfl, cell_at a1 4 rfl, cell_at a1 5 rfl, cell_at a1 6 rfl, cell_at a1 7 rfl, cell_at a1 8 rfl, cell_at a1 9 rfl, cell_at a1 10 rfl⟩
 obtain ⟨f0, f1, f2, f3, f4, f5, f6, f7, f8, f9, f10⟩ := HS.out _ (Below.refl _ _)
 clear hb1
 go_enter Tryz.func7, Tryz.ntmps7
 go_wp2_with fail
 refine (HSO.out _ HB1.out).mono ?_
 rintro r w1 ⟨rfl, b1⟩
 have HB3 : Hid (Below w.heap.size w w1) := HB1.out.trans (b1.mono (by simp))
 clear b1 HSO f0 f1 f2 f3 f4 f5 f6 f7 f8 f9 f10
 have HRF : Hid (type_of% (vrefused w1 (HA.out.to (HB3.out.mono (by have := HA.out.2.2; omega))) (Nat.lt_of_lt_of_le HG.out HB3.out.size))) := vrefused w1 (HA.out.to (HB3.out.mono (by have := HA.out.2.2; omega))) (Nat.lt_of_lt_of_le HG.out HB3.out.size)
 go_wp2_with fail
 refine HRF.out.mono ?_
 rintro r w2 ⟨rfl, b2⟩
 have HB5 : Hid (Below w.heap.size w w2) := HB3.out.trans (b2.mono HB3.out.size)
 clear b2 HB3 HRF
 go_wp2
 go_ret
 exact ⟨rfl, HB5.out⟩
theorem wraps_sound (m : ModD) (at' : Int) (j q n : Nat) (w : World) (HA : Hid (Amb w)) (HG : Hid (2 < w.heap.size)) (HM : Hid (m.ok w)) (hj : j < m.funcs.length) (hf : m.funcs.length ≤ 16) (hn : n ≤ 200) (hn0 : 0 < n)
  (HD : Hid ((m.funcs[j]!).b.length = n)) (HZ : Hid (modE m = 0)) (t : Nat) (ht : t < m.types.length) (HT : Hid ((m.funcs[j]!).t = (t : Int))) (HR : Hid ((m.types[t]!).r.n ≤ 1 ∧ (m.types[t]!).r.ok .u8 w ∧ ∀ k ∈ (m.types[t]!).r.xs, k = 127 ∨ k = 126))
  (HSO : Hid (∀ W, Below w.heap.size w W → Calls Tryz.prog 21 #[.agg #[.slice m.oT m.types.length m.cT, .slice m.oI m.imports.length m.cI, .slice m.oF m.funcs.length m.cF, .int .i64 m.table, .int .i64 m.pages, .int .i64 m.most, .slice m.oG m.globals.length m.cG, .slice m.oE m.exports.length m.cE, .int .i64 m.start, .slice m.oL m.elems.length m.cL, .slice m.oD m.data.length m.cD], .int .i64 at', .int .i64 0] W fun r w' => r = .returned (.tuple #[.int .i64 (j : Int), .int .i64 (q : Int), .bool true]) ∧ Below W.heap.size W w')) :
  Calls Tryz.prog 7 #[.agg #[.slice m.oT m.types.length m.cT, .slice m.oI m.imports.length m.cI, .slice m.oF m.funcs.length m.cF, .int .i64 m.table, .int .i64 m.pages, .int .i64 m.most, .slice m.oG m.globals.length m.cG, .slice m.oE m.exports.length m.cE, .int .i64 m.start, .slice m.oL m.elems.length m.cL, .slice m.oD m.data.length m.cD], .int .i64 at'] w fun r w' => r = .returned (.bool true) ∧ Below w.heap.size w w' := by
 obtain ⟨bb, ff, ho, hbN, hc⟩ := HM.out.funcs.cellAt (fun e => by rw [e] at hj; exact absurd hj (by simp))
 obtain ⟨tb, tf, hto, htN, htc⟩ := HM.out.types.cellAt (fun e => by rw [e] at ht; exact absurd ht (by simp))
 have hcm := HM.out.funcs.most
 have hcl := HM.out.funcs.le
 have htm := HM.out.types.most
 have htl := HM.out.types.le
 unfold maxLen at hcm htm
 have hmem : m.funcs[j]! ∈ m.funcs := by rw [getElem!_pos m.funcs j hj]; exact List.getElem_mem hj
 have hfd := HM.out.funcs.all _ hmem
 obtain ⟨pb, pf, hbo, hbw, hbc⟩ := hfd.2.2.1.cells (fun e => by have := HD.out; rw [e] at this; simp at this; omega)
 obtain ⟨dc, hdc⟩ : ∃ c, (m.funcs[j]!).cap = c := ⟨_, rfl⟩
 obtain ⟨ks, hks⟩ : ∃ d, (m.types[t]!).r = d := ⟨_, rfl⟩
 have HC : Hid (∀ w', Below w.heap.size w w' → w'.cell? ⟨bb, ff + j * 3 + 2, none⟩ = some (.slice (some ⟨pb, pf, none⟩) n dc)) := fun w' b => by
  have := hc w' b j hj 2 (by omega)
  rw [← HD.out, ← hbo, ← hdc]
  exact this
 have HC0 : Hid (∀ w', Below w.heap.size w w' → w'.cell? ⟨bb, ff + j * 3, none⟩ = some (.int .i64 (t : Int))) := fun w' b => by
  have := hc w' b j hj 0 (by omega)
  rw [← HT.out]
  exact this
 have HC1 : Hid (∀ w', Below w.heap.size w w' → w'.cell? ⟨tb, tf + t * 2 + 1, none⟩ = some (.slice ks.o ks.n ks.cap)) := fun w' b => by
  have := htc w' b t ht 1 (by omega)
  rw [← hks]
  exact this
 have HKS : Hid (ks.n ≤ 1 ∧ ks.ok .u8 w ∧ ∀ k ∈ ks.xs, k = 127 ∨ k = 126) := by rw [← hks]; exact HR.out
 have HKD : Hid ((m.types[(m.funcs[j]!).t.toNat]!).r.xs = ks.xs) := by
  unfold Hid
  rw [HT.out, Int.toNat_natCast, hks]
 have HOF : Hid (m.oF = some ⟨bb, ff, none⟩) := ho
 have HOT : Hid (m.oT = some ⟨tb, tf, none⟩) := hto
 have HBC : Hid (type_of% hbc) := hbc
 have HFD : Hid (type_of% hfd) := hfd
 have HDC : Hid ((m.funcs[j]!).cap = dc ∧ (m.funcs[j]!).o = some ⟨pb, pf, none⟩) := ⟨hdc, hbo⟩
 have hb1 : Below w.heap.size w (w.alloc (.cells #[.slice m.oT m.types.length m.cT, .slice m.oI m.imports.length m.cI, .slice m.oF m.funcs.length m.cF, .int .i64 m.table, .int .i64 m.pages, .int .i64 m.most, .slice m.oG m.globals.length m.cG, .slice m.oE m.exports.length m.cE, .int .i64 m.start, .slice m.oL m.elems.length m.cL, .slice m.oD m.data.length m.cD] 30)) := (Below.refl _ _).alloc (Nat.le_refl _) _
 have HB1 : Hid (type_of% hb1) := hb1
 have HS : Hid (∀ w', Below (w.alloc (.cells #[.slice m.oT m.types.length m.cT, .slice m.oI m.imports.length m.cI, .slice m.oF m.funcs.length m.cF, .int .i64 m.table, .int .i64 m.pages, .int .i64 m.most, .slice m.oG m.globals.length m.cG, .slice m.oE m.exports.length m.cE, .int .i64 m.start, .slice m.oL m.elems.length m.cL, .slice m.oD m.data.length m.cD] 30)).heap.size (w.alloc (.cells #[.slice m.oT m.types.length m.cT, .slice m.oI m.imports.length m.cI, .slice m.oF m.funcs.length m.cF, .int .i64 m.table, .int .i64 m.pages, .int .i64 m.most, .slice m.oG m.globals.length m.cG, .slice m.oE m.exports.length m.cE, .int .i64 m.start, .slice m.oL m.elems.length m.cL, .slice m.oD m.data.length m.cD] 30)) w' → w'.cell? ⟨w.heap.size, 0, none⟩ = some (.slice m.oT m.types.length m.cT) ∧ w'.cell? ⟨w.heap.size, 1, none⟩ = some (.slice m.oI m.imports.length m.cI) ∧ w'.cell? ⟨w.heap.size, 2, none⟩ = some (.slice m.oF m.funcs.length m.cF) ∧ w'.cell? ⟨w.heap.size, 3, none⟩ = some (.int .i64 m.table) ∧ w'.cell? ⟨w.heap.size, 4, none⟩ = some (.int .i64 m.pages) ∧ w'.cell? ⟨w.heap.size, 5, none⟩ = some (.int .i64 m.most) ∧ w'.cell? ⟨w.heap.size, 6, none⟩ = some (.slice m.oG m.globals.length m.cG) ∧ w'.cell? ⟨w.heap.size, 7, none⟩ = some (.slice m.oE m.exports.length m.cE) ∧ w'.cell? ⟨w.heap.size, 8, none⟩ = some (.int .i64 m.start) ∧ w'.cell? ⟨w.heap.size, 9, none⟩ = some (.slice m.oL m.elems.length m.cL) ∧ w'.cell? ⟨w.heap.size, 10, none⟩ = some (.slice m.oD m.data.length m.cD)) := fun w' bz => by
  have a1 := (bz.block w.heap.size (by simp)).trans (new_block w (.cells #[.slice m.oT m.types.length m.cT, .slice m.oI m.imports.length m.cI, .slice m.oF m.funcs.length m.cF, .int .i64 m.table, .int .i64 m.pages, .int .i64 m.most, .slice m.oG m.globals.length m.cG, .slice m.oE m.exports.length m.cE, .int .i64 m.start, .slice m.oL m.elems.length m.cL, .slice m.oD m.data.length m.cD] 30))
  exact ⟨cell_at a1 0 rfl, cell_at a1 1 rfl, cell_at a1 2 rfl, cell_at a1 3 rfl, cell_at a1 4 rfl, cell_at a1 5 rfl, cell_at a1 6 rfl, cell_at a1 7 rfl, cell_at a1 8 rfl, cell_at a1 9 rfl, cell_at a1 10 rfl⟩
 obtain ⟨f0, f1, f2, f3, f4, f5, f6, f7, f8, f9, f10⟩ := HS.out _ (Below.refl _ _)
 have hji0 : (0 : Int) ≤ (j : Int) := by omega
 have hji1 : (j : Int) < (m.funcs.length : Int) := by omega
 have hti0 : (0 : Int) ≤ (t : Int) := by omega
 have hti1 : (t : Int) < (m.types.length : Int) := by omega
 clear hb1 hc ho htc hto hfd hbo hbc hks hdc hmem HR HT
 go_enter Tryz.func7, Tryz.ntmps7
 go_wp2_with fail
 refine (HSO.out _ HB1.out).mono ?_
 rintro r w1 ⟨rfl, b1⟩
 have HB2 : Hid (Below (w.alloc (.cells #[.slice m.oT m.types.length m.cT, .slice m.oI m.imports.length m.cI, .slice m.oF m.funcs.length m.cF, .int .i64 m.table, .int .i64 m.pages, .int .i64 m.most, .slice m.oG m.globals.length m.cG, .slice m.oE m.exports.length m.cE, .int .i64 m.start, .slice m.oL m.elems.length m.cL, .slice m.oD m.data.length m.cD] 30)).heap.size (w.alloc (.cells #[.slice m.oT m.types.length m.cT, .slice m.oI m.imports.length m.cI, .slice m.oF m.funcs.length m.cF, .int .i64 m.table, .int .i64 m.pages, .int .i64 m.most, .slice m.oG m.globals.length m.cG, .slice m.oE m.exports.length m.cE, .int .i64 m.start, .slice m.oL m.elems.length m.cL, .slice m.oD m.data.length m.cD] 30)) w1) := b1
 have HB3 : Hid (Below w.heap.size w w1) := HB1.out.trans (b1.mono (by simp))
 clear b1 HSO f0 f1 f2 f3 f4 f5 f6 f7 f8 f9 f10
 have HRF : Hid (type_of% (vrefused w1 (HA.out.to (HB3.out.mono (by have := HA.out.2.2; omega))) (Nat.lt_of_lt_of_le HG.out HB3.out.size))) := vrefused w1 (HA.out.to (HB3.out.mono (by have := HA.out.2.2; omega))) (Nat.lt_of_lt_of_le HG.out HB3.out.size)
 go_wp2_with fail
 refine HRF.out.mono ?_
 rintro r w2 ⟨rfl, b2⟩
 have HB4 : Hid (Below (w.alloc (.cells #[.slice m.oT m.types.length m.cT, .slice m.oI m.imports.length m.cI, .slice m.oF m.funcs.length m.cF, .int .i64 m.table, .int .i64 m.pages, .int .i64 m.most, .slice m.oG m.globals.length m.cG, .slice m.oE m.exports.length m.cE, .int .i64 m.start, .slice m.oL m.elems.length m.cL, .slice m.oD m.data.length m.cD] 30)).heap.size (w.alloc (.cells #[.slice m.oT m.types.length m.cT, .slice m.oI m.imports.length m.cI, .slice m.oF m.funcs.length m.cF, .int .i64 m.table, .int .i64 m.pages, .int .i64 m.most, .slice m.oG m.globals.length m.cG, .slice m.oE m.exports.length m.cE, .int .i64 m.start, .slice m.oL m.elems.length m.cL, .slice m.oD m.data.length m.cD] 30)) w2) := HB2.out.trans (b2.mono HB2.out.size)
 have HB5 : Hid (Below w.heap.size w w2) := HB3.out.trans (b2.mono HB3.out.size)
 obtain ⟨g0, g1, g2, g3, g4, g5, g6, g7, g8, g9, g10⟩ := HS.out _ HB4.out
 have c9 := HC.out _ HB5.out
 have c7 := HC0.out _ HB5.out
 have c8 := HC1.out _ HB5.out
 rw [HOF.out] at g2
 rw [HOT.out] at g0
 clear b2 HB2 HB3 HRF
 go_wp2_with fail
 go_quiet (fail)
 obtain ⟨n1, hn1⟩ : ∃ n1, ks.n = n1 := ⟨_, rfl⟩
 have hn11 : n1 ≤ 1 := by rw [← hn1]; exact HKS.out.1
 have HN1 : Hid (ks.n = n1) := hn1
 have HW : Hid (Below (w.alloc (.cells #[.slice m.oT m.types.length m.cT, .slice m.oI m.imports.length m.cI, .slice m.oF m.funcs.length m.cF, .int .i64 m.table, .int .i64 m.pages, .int .i64 m.most, .slice m.oG m.globals.length m.cG, .slice m.oE m.exports.length m.cE, .int .i64 m.start, .slice m.oL m.elems.length m.cL, .slice m.oD m.data.length m.cD] 30)).heap.size (w.alloc (.cells #[.slice m.oT m.types.length m.cT, .slice m.oI m.imports.length m.cI, .slice m.oF m.funcs.length m.cF, .int .i64 m.table, .int .i64 m.pages, .int .i64 m.most, .slice m.oG m.globals.length m.cG, .slice m.oE m.exports.length m.cE, .int .i64 m.start, .slice m.oL m.elems.length m.cL, .slice m.oD m.data.length m.cD] 30)) (w2.drewN nq)) := below_drewN HB4.out nq
 have HW2 : Hid (Below w.heap.size w (w2.drewN nq)) := below_drewN HB5.out nq
 rw [hn1]
 clear hn1 HB4 HB5 c7 c8 c9 g0 g1 g2 g3 g4 g5 g6 g7 g8 g9 g10
 go_wp2_with fail
 go_loopw [7, 35] (fun kd i wr => ∃ k : Nat, i = .int .i64 k ∧ k ≤ n1 ∧ kd = .int .u8 (if k = 0 then 64 else ks.xs.getD 0 0) ∧ Hid (Below (w.alloc (.cells #[.slice m.oT m.types.length m.cT, .slice m.oI m.imports.length m.cI, .slice m.oF m.funcs.length m.cF, .int .i64 m.table, .int .i64 m.pages, .int .i64 m.most, .slice m.oG m.globals.length m.cG, .slice m.oE m.exports.length m.cE, .int .i64 m.start, .slice m.oL m.elems.length m.cL, .slice m.oD m.data.length m.cD] 30)).heap.size (w.alloc (.cells #[.slice m.oT m.types.length m.cT, .slice m.oI m.imports.length m.cI, .slice m.oF m.funcs.length m.cF, .int .i64 m.table, .int .i64 m.pages, .int .i64 m.most, .slice m.oG m.globals.length m.cG, .slice m.oE m.exports.length m.cE, .int .i64 m.start, .slice m.oL m.elems.length m.cL, .slice m.oD m.data.length m.cD] 30)) wr) ∧ Hid (Below w.heap.size w wr)) (fun _ i _ => n1 - (intOf i).toNat)
 case atStart => exact ⟨0, rfl, by omega, rfl, HW, HW2⟩
 case round =>
  obtain ⟨k, rfl, hk, rfl, HW3, HW4⟩ := hrel
  clear HW HW2
  by_cases hlt : k < n1
  ·obtain rfl : k = 0 := by omega
   have hki1 : (((0 : Nat) : Int)) < (n1 : Int) := by omega
   obtain ⟨a, ha, hab, hac⟩ := HKS.out.2.1.at'.resolve_left (by rw [HN1.out]; omega)
   have hcell := hac 0 (by rw [HN1.out]; omega)
   rw [← HW4.out.cell (p := a.add 0) (by rw [add_block]; exact hab)] at hcell
   obtain ⟨kb, kf, sp⟩ := a
   have hsp : sp = none := by simpa [Addr.add] using World.cell?_spot hcell
   subst hsp
   rw [show (⟨kb, kf, none⟩ : Addr).add 0 = ⟨kb, kf, none⟩ from by unfold Addr.add; split <;> simp_all] at hcell
   rw [ha]
   have HX0 : Hid (ks.xs.getD 0 0 = ks.xs.getD 0 0) := rfl
   generalize ks.xs.getD 0 0 = kx at *
   go_wp2
   go_roundw
   case rel => exact ⟨1, rfl, by omega, rfl, HW3, HW4⟩
   case measure => simp [intOf]; omega
  ·obtain rfl : k = n1 := by omega
   have HKX : Hid ((if k = 0 then 64 else ks.xs.getD 0 0) = kdV ks.xs ∧ 0 ≤ kdV ks.xs ∧ kdV ks.xs ≤ 255) := by
    have h1 := HKS.out.2.1.len
    have h2 := HKS.out.2.2
    rw [HN1.out] at h1
    unfold Hid kdV
    match hx : ks.xs with
    | [] =>
     rw [hx] at h1
     have : k = 0 := by simpa using h1.symm
     rw [if_pos this]
     exact ⟨rfl, by decide, by decide⟩
    | [x] =>
     rw [hx] at h1 h2
     have : k = 1 := by simpa using h1.symm
     rw [if_neg (by omega)]
     have := h2 x (by simp)
     exact ⟨rfl, by show (0 : Int) ≤ x; omega, by show x ≤ 255; omega⟩
    | x :: y :: l => rw [hx] at h1; simp at h1; omega
   rw [HKX.out.1]
   obtain ⟨kx, hkx⟩ : ∃ kx, kx = kdV ks.xs := ⟨_, rfl⟩
   have HKV : Hid (kx = kdV ks.xs) := hkx
   rw [← hkx] at HKX
   rw [← hkx]
   clear hkx hlt hk
   have hki1 : ¬ ((k : Int) < (k : Int)) := by omega
   obtain ⟨g0, g1, g2, g3, g4, g5, g6, g7, g8, g9, g10⟩ := HS.out _ HW3.out
   rw [HOF.out] at g2
   have hs3 := HW4.out.size
   have hs4 := HW3.out.size
   have hx1 : w.heap.size < wr.heap.size := by simp at hs4; omega
   have HX1 : Hid (w.heap.size < wr.heap.size) := hx1
   have HV2 : Hid (Below (w.alloc (.cells #[.slice m.oT m.types.length m.cT, .slice m.oI m.imports.length m.cI, .slice m.oF m.funcs.length m.cF, .int .i64 m.table, .int .i64 m.pages, .int .i64 m.most, .slice m.oG m.globals.length m.cG, .slice m.oE m.exports.length m.cE, .int .i64 m.start, .slice m.oL m.elems.length m.cL, .slice m.oD m.data.length m.cD] 30)).heap.size (w.alloc (.cells #[.slice m.oT m.types.length m.cT, .slice m.oI m.imports.length m.cI, .slice m.oF m.funcs.length m.cF, .int .i64 m.table, .int .i64 m.pages, .int .i64 m.most, .slice m.oG m.globals.length m.cG, .slice m.oE m.exports.length m.cE, .int .i64 m.start, .slice m.oL m.elems.length m.cL, .slice m.oD m.data.length m.cD] 30)) (wr.alloc (.cells #[.slice m.oT m.types.length m.cT, .slice m.oI m.imports.length m.cI, .slice (some ⟨bb, ff, none⟩) m.funcs.length m.cF, .int .i64 m.table, .int .i64 m.pages, .int .i64 m.most, .slice m.oG m.globals.length m.cG, .slice m.oE m.exports.length m.cE, .int .i64 m.start, .slice m.oL m.elems.length m.cL, .slice m.oD m.data.length m.cD] 30))) := HW3.out.alloc HW3.out.size _
   have HV3 : Hid (Below w.heap.size w (wr.alloc (.cells #[.slice m.oT m.types.length m.cT, .slice m.oI m.imports.length m.cI, .slice (some ⟨bb, ff, none⟩) m.funcs.length m.cF, .int .i64 m.table, .int .i64 m.pages, .int .i64 m.most, .slice m.oG m.globals.length m.cG, .slice m.oE m.exports.length m.cE, .int .i64 m.start, .slice m.oL m.elems.length m.cL, .slice m.oD m.data.length m.cD] 30))) := HW4.out.alloc HW4.out.size _
   have HY : Hid ((wr.alloc (.cells #[.slice m.oT m.types.length m.cT, .slice m.oI m.imports.length m.cI, .slice (some ⟨bb, ff, none⟩) m.funcs.length m.cF, .int .i64 m.table, .int .i64 m.pages, .int .i64 m.most, .slice m.oG m.globals.length m.cG, .slice m.oE m.exports.length m.cE, .int .i64 m.start, .slice m.oL m.elems.length m.cL, .slice m.oD m.data.length m.cD] 30)).heap[wr.heap.size]? = some (.cells #[.slice m.oT m.types.length m.cT, .slice m.oI m.imports.length m.cI, .slice (some ⟨bb, ff, none⟩) m.funcs.length m.cF, .int .i64 m.table, .int .i64 m.pages, .int .i64 m.most, .slice m.oG m.globals.length m.cG, .slice m.oE m.exports.length m.cE, .int .i64 m.start, .slice m.oL m.elems.length m.cL, .slice m.oD m.data.length m.cD] 30 (0, 0))) := heap_alloc_new wr _
   obtain ⟨_, _, k2, _, _, _, _, _, _, _, _⟩ := HS.out _ HV2.out
   rw [HOF.out] at k2
   have hz2 : (wr.alloc (.cells #[.slice m.oT m.types.length m.cT, .slice m.oI m.imports.length m.cI, .slice (some ⟨bb, ff, none⟩) m.funcs.length m.cF, .int .i64 m.table, .int .i64 m.pages, .int .i64 m.most, .slice m.oG m.globals.length m.cG, .slice m.oE m.exports.length m.cE, .int .i64 m.start, .slice m.oL m.elems.length m.cL, .slice m.oD m.data.length m.cD] 30)).heap.size = wr.heap.size + 1 := by simp
   have HCF : Hid (type_of% (vcopyF m.oF m.funcs.length m.cF (m.funcs.flatMap FunD.cells) (flat_len3 _) (fun_one _) HM.out.funcs.nil (by omega) (wr.alloc (.cells #[.slice m.oT m.types.length m.cT, .slice m.oI m.imports.length m.cI, .slice (some ⟨bb, ff, none⟩) m.funcs.length m.cF, .int .i64 m.table, .int .i64 m.pages, .int .i64 m.most, .slice m.oG m.globals.length m.cG, .slice m.oE m.exports.length m.cE, .int .i64 m.start, .slice m.oL m.elems.length m.cL, .slice m.oD m.data.length m.cD] 30)) (rows_news (HM.out.below HV3.out).funcs))) := vcopyF m.oF m.funcs.length m.cF (m.funcs.flatMap FunD.cells) (flat_len3 _) (fun_one _) HM.out.funcs.nil (by omega) (wr.alloc (.cells #[.slice m.oT m.types.length m.cT, .slice m.oI m.imports.length m.cI, .slice (some ⟨bb, ff, none⟩) m.funcs.length m.cF, .int .i64 m.table, .int .i64 m.pages, .int .i64 m.most, .slice m.oG m.globals.length m.cG, .slice m.oE m.exports.length m.cE, .int .i64 m.start, .slice m.oL m.elems.length m.cL, .slice m.oD m.data.length m.cD] 30)) (rows_news (HM.out.below HV3.out).funcs)
   rw [HOF.out] at HCF
   clear hs3 hs4
   go_wp2_with fail
   refine HCF.out.mono ?_
   rintro r w3 ⟨o', cF, rfl, how, b3⟩
   obtain ⟨g, rfl⟩ : ∃ g, o' = some ⟨g, 0, none⟩ := by
    rcases how.2 with ⟨_, hz⟩ | ⟨g, c, cur, hv, _⟩
    ·omega
    ·simp only [Value.slice.injEq] at hv
     exact ⟨g, hv.1⟩
   have hgb : wr.heap.size + 1 ≤ g := by
    rcases how.2 with ⟨_, hz⟩ | ⟨g', c, cur, hv, hb, _⟩
    ·omega
    ·simp only [Value.slice.injEq, Option.some.injEq, Addr.mk.injEq] at hv
     obtain ⟨⟨rfl, _⟩, _⟩ := hv
     rw [hz2] at hb
     exact hb
   have q1 := (b3.block wr.heap.size (by rw [hz2]; omega)).trans HY.out
   have fz : w3.frozen? ⟨wr.heap.size, 2, none⟩ = false := by simp [World.frozen?, q1]
   have c2 : w3.cell? ⟨wr.heap.size, 2, none⟩ = some (.slice (some ⟨bb, ff, none⟩) m.funcs.length m.cF) := cell_at q1 2 rfl
   have hch : Chg wr.heap.size w3 (w3.setCell ⟨wr.heap.size, 2, none⟩ (.slice (some ⟨g, 0, none⟩) m.funcs.length cF)) := Chg.set _ _ _ _
   have how2 := own_chg how hch (by simp only [Value.ownBlock, ne_eq, Option.some.injEq]; omega)
   have q2 : (w3.setCell ⟨wr.heap.size, 2, none⟩ (.slice (some ⟨g, 0, none⟩) m.funcs.length cF)).heap[wr.heap.size]? = some (.cells #[.slice m.oT m.types.length m.cT, .slice m.oI m.imports.length m.cI, .slice (some ⟨g, 0, none⟩) m.funcs.length cF, .int .i64 m.table, .int .i64 m.pages, .int .i64 m.most, .slice m.oG m.globals.length m.cG, .slice m.oE m.exports.length m.cE, .int .i64 m.start, .slice m.oL m.elems.length m.cL, .slice m.oD m.data.length m.cD] 30 (0, 0)) := by simp [World.setCell, Array.getElem?_modify, q1]
   have hv1 : Below (w.alloc (.cells #[.slice m.oT m.types.length m.cT, .slice m.oI m.imports.length m.cI, .slice m.oF m.funcs.length m.cF, .int .i64 m.table, .int .i64 m.pages, .int .i64 m.most, .slice m.oG m.globals.length m.cG, .slice m.oE m.exports.length m.cE, .int .i64 m.start, .slice m.oL m.elems.length m.cL, .slice m.oD m.data.length m.cD] 30)).heap.size (w.alloc (.cells #[.slice m.oT m.types.length m.cT, .slice m.oI m.imports.length m.cI, .slice m.oF m.funcs.length m.cF, .int .i64 m.table, .int .i64 m.pages, .int .i64 m.most, .slice m.oG m.globals.length m.cG, .slice m.oE m.exports.length m.cE, .int .i64 m.start, .slice m.oL m.elems.length m.cL, .slice m.oD m.data.length m.cD] 30)) (w3.setCell ⟨wr.heap.size, 2, none⟩ (.slice (some ⟨g, 0, none⟩) m.funcs.length cF)) := (HV2.out.trans (b3.mono HV2.out.size)).trans (hch.below (by simp; omega) (by have := b3.size; have := HV2.out.size; omega))
   have hv2 : Below w.heap.size w (w3.setCell ⟨wr.heap.size, 2, none⟩ (.slice (some ⟨g, 0, none⟩) m.funcs.length cF)) := HB1.out.trans (hv1.mono HB1.out.size)
   have hsz : wr.heap.size + 1 ≤ (w3.setCell ⟨wr.heap.size, 2, none⟩ (.slice (some ⟨g, 0, none⟩) m.funcs.length cF)).heap.size := by have h1 := b3.size; rw [hz2] at h1; have h2 := hch.size; omega
   obtain ⟨v, hv⟩ : ∃ v, v = (w3.setCell ⟨wr.heap.size, 2, none⟩ (.slice (some ⟨g, 0, none⟩) m.funcs.length cF)) := ⟨_, rfl⟩
   have HVV : Hid (v = (w3.setCell ⟨wr.heap.size, 2, none⟩ (.slice (some ⟨g, 0, none⟩) m.funcs.length cF))) := hv
   rw [← hv] at how2 q2 hv1 hv2 hsz
   rw [hz2] at how2
   have HOW2 : Hid (type_of% how2) := how2
   have HQ2 : Hid (type_of% q2) := q2
   have HVB1 : Hid (type_of% hv1) := hv1
   have HVB2 : Hid (type_of% hv2) := hv2
   have HSZ : Hid (wr.heap.size + 1 ≤ v.heap.size) := hsz
   have HGB : Hid (wr.heap.size + 1 ≤ g) := hgb
   have HGV : Hid (g < v.heap.size) := by
    rcases how2.2 with ⟨h1, _⟩ | ⟨g', c', cur, h1, _, h3, _⟩
    ·cases h1
    ·simp only [Value.slice.injEq, Option.some.injEq, Addr.mk.injEq] at h1
     obtain ⟨⟨rfl, _⟩, _⟩ := h1
     exact some_lt h3
   have HKP : Hid (∀ W, Below v.heap.size v W → W.cell? ⟨wr.heap.size, 2, none⟩ = some (.slice (some ⟨g, 0, none⟩) m.funcs.length cF) ∧ W.cell? ⟨w.heap.size, 2, none⟩ = some (.slice (some ⟨bb, ff, none⟩) m.funcs.length m.cF) ∧ W.cell? ⟨bb, ff + j * 3 + 2, none⟩ = some (.slice (some ⟨pb, pf, none⟩) n dc)) := fun W hW => by
    obtain ⟨_, _, p2, _, _, _, _, _, _, _, _⟩ := HS.out W (HVB1.out.trans (hW.mono HVB1.out.size))
    rw [HOF.out] at p2
    exact ⟨cell_at ((hW.block _ (by have := HSZ.out; omega)).trans HQ2.out) 2 rfl, p2, HC.out W (HVB2.out.trans (hW.mono HVB2.out.size))⟩
   have HWR : Hid (∀ W, Below v.heap.size v W → Calls Tryz.prog 28 #[.slice (some ⟨pb, pf, none⟩) n dc, .int .u8 2, .int .u8 kx] W fun r w' => ∃ g cap', r = .returned (.slice (some ⟨g, 0, none⟩) (n + 2) cap') ∧ w'.ownsRow W.heap.size 66 4 (.slice (some ⟨g, 0, none⟩) (n + 2) cap') (n + 2) (cellsOf (wrapB kx (m.funcs[j]!).b)) ∧ W.heap.size ≤ g ∧ Below W.heap.size W w') := fun W hW => by
    have hwW : Below w.heap.size w W := HVB2.out.trans (hW.mono HVB2.out.size)
    refine vwrapped pb pf n dc (m.funcs[j]!).b HD.out hn hn0 kx HKX.out.2.1 HKX.out.2.2 W (Nat.lt_of_lt_of_le hbw hwW.size) (fun d hd => (HFD.out.2.2.1.1 d hd).below hwW) (fun i u hu => ?_)
    rw [hwW.cell (p := ⟨pb, pf + i, none⟩) hbw]
    exact HBC.out i u hu
   have HROW : Hid (∀ W, Below v.heap.size v W → W.frozen? ⟨g, j * 3 + 2, none⟩ = false ∧ W.cell? ⟨g, j * 3 + 2, none⟩ = some (.slice (some ⟨pb, pf, none⟩) n dc)) := fun W hW => by
    have hb := hW.block g HGV.out
    constructor
    ·rcases how2.2 with ⟨h1, _⟩ | ⟨g', c', cur, h1, _, h3, _⟩
     ·cases h1
     ·simp only [Value.slice.injEq, Option.some.injEq, Addr.mk.injEq] at h1
      obtain ⟨⟨rfl, _⟩, _⟩ := h1
      rw [h3] at hb
      simp [World.frozen?, hb]
    ·rw [World.cell?_of_block hb]
     have a := flat_at FunD.cells 3 (fun _ => rfl) m.funcs j 2 hj (by omega)
     rw [← how2.cellAt (j * 3 + 2) (by omega), ← getElem!_pos m.funcs j hj] at a
     refine a.trans ?_
     show some (Value.slice (m.funcs[j]!).o (m.funcs[j]!).b.length (m.funcs[j]!).cap) = _
     rw [HDC.out.1, HDC.out.2, HD.out]
   clear how how2 hv1 hv2 hsz hgb q1 q2 hch b3 HCF HS HV2 HV3 HY k2 g0 g1 g2 g3 g4 g5 g6 g7 g8 g9 g10 HW3 HW4 HC HC0 HC1
   have HBN : Hid (bb < w.heap.size) := hbN
   go_wp2_with fail
   rw [← HVV.out]
   clear hv HVV
   go_region_held3 (fun w' => w'.cell? ⟨wr.heap.size, 2, none⟩ = some (.slice (some ⟨g, 0, none⟩) m.funcs.length cF) ∧ w'.cell? ⟨w.heap.size, 2, none⟩ = some (.slice (some ⟨bb, ff, none⟩) m.funcs.length m.cF) ∧ w'.cell? ⟨bb, ff + j * 3 + 2, none⟩ = some (.slice (some ⟨pb, pf, none⟩) n dc))
    (first | exact HKP.out _ (Below.refl _ _).drew | exact HKP.out _ HB6.out | exact HKW.out _ | go_keep)
    ((go_at_call 28; refine (HWR.out _ (Below.refl _ _).drew).mono ?_; rintro r w4 ⟨g4, cap4, rfl, hL, hg4, b4⟩; have HB6 : Hid (Below v.heap.size v w4) := (Below.refl _ _).drew.trans b4; obtain ⟨fz4, cc4⟩ := HROW.out _ HB6.out; have HL4 : Hid (type_of% hL) := hL; have HG4 : Hid (v.heap.size ≤ g4) := hg4; have HKW : Hid (∀ x : Value, (w4.setCell ⟨g, j * 3 + 2, none⟩ x).cell? ⟨wr.heap.size, 2, none⟩ = some (.slice (some ⟨g, 0, none⟩) m.funcs.length cF) ∧ (w4.setCell ⟨g, j * 3 + 2, none⟩ x).cell? ⟨w.heap.size, 2, none⟩ = some (.slice (some ⟨bb, ff, none⟩) m.funcs.length m.cF) ∧ (w4.setCell ⟨g, j * 3 + 2, none⟩ x).cell? ⟨bb, ff + j * 3 + 2, none⟩ = some (.slice (some ⟨pb, pf, none⟩) n dc)) := (fun x => by (obtain ⟨a1, a2, a3⟩ := HKP.out _ HB6.out; have := HGB.out; have := HX1.out; have := HBN.out; exact ⟨(setCell_off _ _ _ _ _ (by omega)).trans a1, (setCell_off _ _ _ _ _ (by omega)).trans a2, (setCell_off _ _ _ _ _ (by omega)).trans a3⟩)); clear hL hg4 b4))
   have hch : Chg g w4 (w4.setCell ⟨g, j * 3 + 2, none⟩ (.slice (some ⟨g4, 0, none⟩) (n + 2) cap4)) := Chg.set _ _ _ _
   have hg4' := HG4.out
   have hgv' := HGV.out
   have hzz : Below w.heap.size w (w4.setCell ⟨g, j * 3 + 2, none⟩ (.slice (some ⟨g4, 0, none⟩) (n + 2) cap4)) := (HVB2.out.trans (HB6.out.mono HVB2.out.size)).trans (hch.below (by have := HGB.out; have := HX1.out; omega) (by have := HB6.out.size; have := HSZ.out; have := HX1.out; omega))
   have hlen : (wrapB kx (m.funcs[j]!).b).length = n + 2 := by
    unfold wrapB
    rw [List.length_cons, List.length_append, HD.out]
    rfl
   have hLD := own_LD (own_chg HL4.out hch (by simp only [Value.ownBlock, ne_eq, Option.some.injEq]; omega)) hlen (fun d hd => by
    unfold wrapB at hd
    rw [List.mem_cons, List.mem_append, List.mem_singleton] at hd
    rcases hd with rfl | hd | rfl
    ·have := HKX.out.2
     exact ⟨by show (0 : Int) ≤ 2; omega, by show (2 : Int) ≤ 255; omega, ⟨by show (-9223372036854775808 : Int) ≤ kx; omega, by show kx ≤ 9223372036854775807; omega⟩, Nat.le_refl _, Nat.zero_le _, ⟨rfl, Or.inl rfl⟩, fun _ => rfl⟩
    ·exact (HFD.out.2.2.1.1 d hd).below hzz
    ·exact bare_ok _ (by omega) (by omega))
   obtain ⟨d, hd⟩ : ∃ d : FunD, d = ⟨(m.funcs[j]!).t, (m.funcs[j]!).l, some ⟨g4, 0, none⟩, cap4, wrapB kx (m.funcs[j]!).b⟩ := ⟨_, rfl⟩
   have hput := set_put (d := d) (cF := cF) HM.out hj HVB2.out (by have := HX1.out; omega) HOW2.out HB6.out (by rw [hd]) (by rw [hd]) (.slice (some ⟨g4, 0, none⟩) (n + 2) cap4) (by rw [hd]; show _ = Value.slice _ (wrapB kx (m.funcs[j]!).b).length _; rw [hlen]) (by rw [hd]; exact ⟨HFD.out.1, HFD.out.2.1.below hzz, hLD.1, by show (wrapB kx (m.funcs[j]!).b).length ≤ cap4; rw [hlen]; exact hLD.2.1, hLD.2.2⟩)
   have hq5 : (w4.setCell ⟨g, j * 3 + 2, none⟩ (.slice (some ⟨g4, 0, none⟩) (n + 2) cap4)).heap[wr.heap.size]? = some (.cells #[.slice m.oT m.types.length m.cT, .slice m.oI m.imports.length m.cI, .slice (some ⟨g, 0, none⟩) m.funcs.length cF, .int .i64 m.table, .int .i64 m.pages, .int .i64 m.most, .slice m.oG m.globals.length m.cG, .slice m.oE m.exports.length m.cE, .int .i64 m.start, .slice m.oL m.elems.length m.cL, .slice m.oD m.data.length m.cD] 30 (0, 0)) := by
    rw [hch.block _ (by have := HB6.out.size; have := HSZ.out; omega) (by have := HGB.out; omega), HB6.out.block _ (by have := HSZ.out; omega)]
    exact HQ2.out
   have HCA : Hid (∀ W, Below (w4.setCell ⟨g, j * 3 + 2, none⟩ (.slice (some ⟨g4, 0, none⟩) (n + 2) cap4)).heap.size (w4.setCell ⟨g, j * 3 + 2, none⟩ (.slice (some ⟨g4, 0, none⟩) (n + 2) cap4)) W → W.cell? ⟨wr.heap.size, 0, none⟩ = some (.slice m.oT m.types.length m.cT) ∧ W.cell? ⟨wr.heap.size, 1, none⟩ = some (.slice m.oI m.imports.length m.cI) ∧ W.cell? ⟨wr.heap.size, 2, none⟩ = some (.slice (some ⟨g, 0, none⟩) m.funcs.length cF) ∧ W.cell? ⟨wr.heap.size, 3, none⟩ = some (.int .i64 m.table) ∧ W.cell? ⟨wr.heap.size, 4, none⟩ = some (.int .i64 m.pages) ∧ W.cell? ⟨wr.heap.size, 5, none⟩ = some (.int .i64 m.most) ∧ W.cell? ⟨wr.heap.size, 6, none⟩ = some (.slice m.oG m.globals.length m.cG) ∧ W.cell? ⟨wr.heap.size, 7, none⟩ = some (.slice m.oE m.exports.length m.cE) ∧ W.cell? ⟨wr.heap.size, 8, none⟩ = some (.int .i64 m.start) ∧ W.cell? ⟨wr.heap.size, 9, none⟩ = some (.slice m.oL m.elems.length m.cL) ∧ W.cell? ⟨wr.heap.size, 10, none⟩ = some (.slice m.oD m.data.length m.cD)) := fun W hW => by
    have q := (hW.block wr.heap.size (some_lt hq5)).trans hq5
    exact ⟨cell_at q 0 rfl, cell_at q 1 rfl, cell_at q 2 rfl, cell_at q 3 rfl, cell_at q 4 rfl, cell_at q 5 rfl, cell_at q 6 rfl, cell_at q 7 rfl, cell_at q 8 rfl, cell_at q 9 rfl, cell_at q 10 rfl⟩
   have HMC : Hid ((#[.slice m.oT m.types.length m.cT, .slice m.oI m.imports.length m.cI, .slice (some ⟨g, 0, none⟩) m.funcs.length cF, .int .i64 m.table, .int .i64 m.pages, .int .i64 m.most, .slice m.oG m.globals.length m.cG, .slice m.oE m.exports.length m.cE, .int .i64 m.start, .slice m.oL m.elems.length m.cL, .slice m.oD m.data.length m.cD] : Array Value) = mcA (setM m j d (some ⟨g, 0, none⟩) cF)) := by unfold Hid; simp [mcA, setM, List.length_set]
   have HPUT : Hid (type_of% hput) := hput
   have HWS : Hid (mChk (setM m j d (some ⟨g, 0, none⟩) cF) = 0 → modE (setM m j d (some ⟨g, 0, none⟩) cF) = 0) := fun hc0 => wrap_sound HM.out hj HZ.out d (by rw [hd]) (by rw [hd]) (by rw [hd, HKD.out, ← HKV.out]) hc0
   clear hch hg4' hgv' hzz hlen hLD hd hput hq5 fz4 cc4 HKP HWR HROW HL4 HG4 HQ2 HOW2 HVB1 HSZ HGB HKW
   generalize (w4.setCell ⟨g, j * 3 + 2, none⟩ (.slice (some ⟨g4, 0, none⟩) (n + 2) cap4)) = z at *
   generalize setM m j d (some ⟨g, 0, none⟩) cF = m' at *
   have HCK : Hid (∀ W, Below z.heap.size z W → Calls Tryz.prog 27 #[.agg #[.slice m.oT m.types.length m.cT, .slice m.oI m.imports.length m.cI, .slice (some ⟨g, 0, none⟩) m.funcs.length cF, .int .i64 m.table, .int .i64 m.pages, .int .i64 m.most, .slice m.oG m.globals.length m.cG, .slice m.oE m.exports.length m.cE, .int .i64 m.start, .slice m.oL m.elems.length m.cL, .slice m.oD m.data.length m.cD]] W fun r w' => r = .returned (.int .i64 (mChk m')) ∧ Below W.heap.size W w') := fun W hW => check_mod m' _ HMC W (HA.out.to ((HPUT.out.2.trans (hW.mono HPUT.out.2.size)).mono (by have := HA.out.2.2; omega))) (HPUT.out.1.below hW)
   have HMD : Hid (∀ W, Below z.heap.size z W → Calls Tryz.prog 15 #[.agg #[.slice m.oT m.types.length m.cT, .slice m.oI m.imports.length m.cI, .slice (some ⟨g, 0, none⟩) m.funcs.length cF, .int .i64 m.table, .int .i64 m.pages, .int .i64 m.most, .slice m.oG m.globals.length m.cG, .slice m.oE m.exports.length m.cE, .int .i64 m.start, .slice m.oL m.elems.length m.cL, .slice m.oD m.data.length m.cD]] W fun r w' => r = .returned (.int .i64 (modE m')) ∧ Below W.heap.size W w') := fun W hW => by
    rw [HMC.out]
    exact vmodule m' W (HA.out.to ((HPUT.out.2.trans (hW.mono HPUT.out.2.size)).mono (by have := HA.out.2.2; omega))) (HPUT.out.1.below hW) (Nat.lt_of_lt_of_le HG.out (HPUT.out.2.trans (hW.mono HPUT.out.2.size)).size)
   have HZB : Hid (Below w.heap.size w z) := HPUT.out.2
   obtain ⟨p0, p1, p2, p3, p4, p5, p6, p7, p8, p9, p10⟩ := HCA.out _ (Below.refl _ _)
   clear HPUT HMC
   by_cases hc0 : mChk m' = 0
   ·have hm0 := HWS.out hc0
    rw [hc0] at HCK
    rw [hm0] at HMD
    clear hm0 hc0 HWS
    go_wp2_with (first | (go_at_call 27; refine (HCK.out _ (Below.refl _ _)).mono ?_; rintro r w6 ⟨rfl, b6⟩; have HB7 : Hid (Below z.heap.size z w6) := b6; obtain ⟨q0, q1, q2, q3, q4, q5, q6, q7, q8, q9, q10⟩ := HCA.out _ b6; clear b6 p0 p1 p2 p3 p4 p5 p6 p7 p8 p9 p10) | (go_at_call 15; refine (HMD.out _ HB7.out).mono ?_; rintro r w7 ⟨rfl, b7⟩; have HB8 : Hid (Below z.heap.size z w7) := HB7.out.trans (b7.mono HB7.out.size); clear b7))
    go_ret
    exact ⟨rfl, HZB.out.trans (HB8.out.mono HZB.out.size)⟩
   ·have hm1 := modE_chk hc0
    rw [hm1] at HMD
    clear hm1 HWS
    generalize mChk m' = e at *
    have he : (e == 0) = false := by simpa using hc0
    go_wp2_with (first | (go_at_call 27; refine (HCK.out _ (Below.refl _ _)).mono ?_; rintro r w6 ⟨rfl, b6⟩; have HB7 : Hid (Below z.heap.size z w6) := b6; obtain ⟨q0, q1, q2, q3, q4, q5, q6, q7, q8, q9, q10⟩ := HCA.out _ b6; clear b6 p0 p1 p2 p3 p4 p5 p6 p7 p8 p9 p10) | (go_at_call 15; refine (HMD.out _ HB7.out).mono ?_; rintro r w7 ⟨rfl, b7⟩; have HB8 : Hid (Below z.heap.size z w7) := HB7.out.trans (b7.mono HB7.out.size); clear b7))
    go_ret
    exact ⟨rfl, HZB.out.trans (HB8.out.mono HZB.out.size)⟩
theorem validWraps_walk (m : ModD) (at' : Int) (ha : -9223372036854775808 ≤ at' ∧ at' ≤ 9223372036854775807) (w : World) (hA : Amb w) (hm : m.ok w) :
  Calls Tryz.prog 7 #[.agg (mcA m), .int .i64 at'] w fun r w' => r = .returned (.bool true) ∧ Below w.heap.size w w' := by
 have hg : 2 < w.heap.size := by have := hA.2.2; omega
 have hs : ∀ W, Below w.heap.size w W → Calls Tryz.prog 21 #[.agg #[.slice m.oT m.types.length m.cT, .slice m.oI m.imports.length m.cI, .slice m.oF m.funcs.length m.cF, .int .i64 m.table, .int .i64 m.pages, .int .i64 m.most, .slice m.oG m.globals.length m.cG, .slice m.oE m.exports.length m.cE, .int .i64 m.start, .slice m.oL m.elems.length m.cL, .slice m.oD m.data.length m.cD], .int .i64 at', .int .i64 0] W fun r w' => r = .returned (.tuple #[.int .i64 (soundV m at' 0).1, .int .i64 (soundV m at' 0).2.1, .bool (soundV m at' 0).2.2]) ∧ Below W.heap.size W w' := fun W b => vsound m at' 0 W (hA.to (b.mono (by have := hA.2.2; omega))) (hm.below b) (Nat.lt_of_lt_of_le hg b.size) ha ⟨by decide, by decide⟩
 by_cases hz : modE m = 0 ∧ m.funcs.length ≠ 0
 ·have e : soundV m at' 0 = (at' % (m.funcs.length : Int), 0 % ((m.funcs[(at' % (m.funcs.length : Int)).toNat]!).b.length : Int), true) := if_pos hz
  have hc := (head_zero (mod_zero hz.1).1).1
  have sm := mod_small hm hc
  have gf := fair_of hm hc
  have a0 := Int.emod_nonneg at' (b := (m.funcs.length : Int)) (by omega)
  have a1 := Int.emod_lt_of_pos at' (b := (m.funcs.length : Int)) (by omega)
  obtain ⟨j, hj⟩ : ∃ j : Nat, at' % (m.funcs.length : Int) = (j : Int) := ⟨_, (Int.toNat_of_nonneg a0).symm⟩
  rw [hj, Int.toNat_natCast] at e
  rw [hj] at a1
  have hjl : j < m.funcs.length := by omega
  have hmem : m.funcs[j]! ∈ m.funcs := by rw [getElem!_pos m.funcs j hjl]; exact List.getElem_mem hjl
  have hn := (sm.2 _ hmem).1
  have hb := body_some hn
  have q0 := Int.emod_nonneg 0 (b := ((m.funcs[j]!).b.length : Int)) (by omega)
  have q1 := Int.emod_lt_of_pos 0 (b := ((m.funcs[j]!).b.length : Int)) (by omega)
  obtain ⟨q, hq⟩ : ∃ q : Nat, 0 % ((m.funcs[j]!).b.length : Int) = (q : Int) := ⟨_, (Int.toNat_of_nonneg q0).symm⟩
  rw [hq] at e q1
  rw [e] at hs
  have htp := typD_parts (head_zero (mod_zero hz.1).1).2
  have hft := htp.2 _ hmem
  have hf0 := (sm.2 _ hmem).2.2
  have htl : (m.funcs[j]!).t.toNat < m.types.length := by omega
  have htm : m.types[(m.funcs[j]!).t.toNat]! ∈ m.types := by rw [getElem!_pos m.types _ htl]; exact List.getElem_mem htl
  exact wraps_sound m at' j q _ w hA hg hm hjl gf.nF (RunI.len hn) (by omega) rfl hz.1 (m.funcs[j]!).t.toNat htl (by unfold Hid; omega) ⟨(sm.1 _ htm).2, (hm.types.all _ htm).2, (out_kinds hm hc _ htm).2⟩ hs
 ·have e : soundV m at' 0 = (0, 0, false) := if_neg hz
  rw [e] at hs
  exact wraps_no m at' w hA hg hs
end Go.Proofs.YtgleeocebnjliaaGreatDoor
