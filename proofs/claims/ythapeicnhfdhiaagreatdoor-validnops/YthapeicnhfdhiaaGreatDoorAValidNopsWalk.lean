/-
 The law of one instruction more.
-/
import Derived.Test.YthapeicnhfdhiaaGreatDoorAVN
set_option maxHeartbeats 4000000
set_option maxRecDepth 1000000
namespace Go.Proofs.YthapeicnhfdhiaaGreatDoor
open Go.RowKit
set_option linter.unusedVariables false
theorem nops_sound (m : ModD) (at' k : Int) (stop : Bool) (j q n : Nat) (o : Option Addr) (cap : Nat) (w : World) (HA : Hid (Amb w)) (HG : Hid (2 < w.heap.size)) (HM : Hid (m.ok w)) (hj : j < m.funcs.length) (hf : m.funcs.length ≤ 16) (hq : q < n) (hn : n ≤ 200)
  (HD : Hid ((m.funcs[j]!).b.length = n ∧ (m.funcs[j]!).o = o ∧ (m.funcs[j]!).cap = cap)) (HZ : Hid (modE m = 0))
  (HSO : Hid (∀ W, Below w.heap.size w W → Calls Tryz.prog 18 #[.agg #[.slice m.oT m.types.length m.cT, .slice m.oI m.imports.length m.cI, .slice m.oF m.funcs.length m.cF, .int .i64 m.table, .int .i64 m.pages, .int .i64 m.most, .slice m.oG m.globals.length m.cG, .slice m.oE m.exports.length m.cE, .int .i64 m.start, .slice m.oL m.elems.length m.cL, .slice m.oD m.data.length m.cD], .int .i64 at', .int .i64 k] W fun r w' => r = .returned (.tuple #[.int .i64 (j : Int), .int .i64 (q : Int), .bool true]) ∧ Below W.heap.size W w')) :
  Calls Tryz.prog 6 #[.agg #[.slice m.oT m.types.length m.cT, .slice m.oI m.imports.length m.cI, .slice m.oF m.funcs.length m.cF, .int .i64 m.table, .int .i64 m.pages, .int .i64 m.most, .slice m.oG m.globals.length m.cG, .slice m.oE m.exports.length m.cE, .int .i64 m.start, .slice m.oL m.elems.length m.cL, .slice m.oD m.data.length m.cD], .int .i64 at', .int .i64 k, .bool stop] w fun r w' => r = .returned (.bool true) ∧ Below w.heap.size w w' := by
 obtain ⟨bb, ff, ho, hbN, hc⟩ := HM.out.funcs.cellAt (fun e => by rw [e] at hj; exact absurd hj (by simp))
 have hcm := HM.out.funcs.most
 have hcl := HM.out.funcs.le
 unfold maxLen at hcm
 have HC : Hid (∀ w', Below w.heap.size w w' → w'.cell? ⟨bb, ff + j * 3 + 2, none⟩ = some (.slice o n cap)) := fun w' b => by
  have := hc w' b j hj 2 (by omega)
  rw [← HD.out.1, ← HD.out.2.1, ← HD.out.2.2]
  exact this
 have HOF : Hid (m.oF = some ⟨bb, ff, none⟩) := ho
 have hb1 : Below w.heap.size w (w.alloc (.cells #[.slice m.oT m.types.length m.cT, .slice m.oI m.imports.length m.cI, .slice m.oF m.funcs.length m.cF, .int .i64 m.table, .int .i64 m.pages, .int .i64 m.most, .slice m.oG m.globals.length m.cG, .slice m.oE m.exports.length m.cE, .int .i64 m.start, .slice m.oL m.elems.length m.cL, .slice m.oD m.data.length m.cD] 30)) := (Below.refl _ _).alloc (Nat.le_refl _) _
 have HB1 : Hid (type_of% hb1) := hb1
 have HS : Hid (∀ w', Below (w.alloc (.cells #[.slice m.oT m.types.length m.cT, .slice m.oI m.imports.length m.cI, .slice m.oF m.funcs.length m.cF, .int .i64 m.table, .int .i64 m.pages, .int .i64 m.most, .slice m.oG m.globals.length m.cG, .slice m.oE m.exports.length m.cE, .int .i64 m.start, .slice m.oL m.elems.length m.cL, .slice m.oD m.data.length m.cD] 30)).heap.size (w.alloc (.cells #[.slice m.oT m.types.length m.cT, .slice m.oI m.imports.length m.cI, .slice m.oF m.funcs.length m.cF, .int .i64 m.table, .int .i64 m.pages, .int .i64 m.most, .slice m.oG m.globals.length m.cG, .slice m.oE m.exports.length m.cE, .int .i64 m.start, .slice m.oL m.elems.length m.cL, .slice m.oD m.data.length m.cD] 30)) w' → w'.cell? ⟨w.heap.size, 0, none⟩ = some (.slice m.oT m.types.length m.cT) ∧ w'.cell? ⟨w.heap.size, 1, none⟩ = some (.slice m.oI m.imports.length m.cI) ∧ w'.cell? ⟨w.heap.size, 2, none⟩ = some (.slice m.oF m.funcs.length m.cF) ∧ w'.cell? ⟨w.heap.size, 3, none⟩ = some (.int .i64 m.table) ∧ w'.cell? ⟨w.heap.size, 4, none⟩ = some (.int .i64 m.pages) ∧ w'.cell? ⟨w.heap.size, 5, none⟩ = some (.int .i64 m.most) ∧ w'.cell? ⟨w.heap.size, 6, none⟩ = some (.slice m.oG m.globals.length m.cG) ∧ w'.cell? ⟨w.heap.size, 7, none⟩ = some (.slice m.oE m.exports.length m.cE) ∧ w'.cell? ⟨w.heap.size, 8, none⟩ = some (.int .i64 m.start) ∧ w'.cell? ⟨w.heap.size, 9, none⟩ = some (.slice m.oL m.elems.length m.cL) ∧ w'.cell? ⟨w.heap.size, 10, none⟩ = some (.slice m.oD m.data.length m.cD)) := fun w' bz => by
  have a1 := (bz.block w.heap.size (by simp)).trans (new_block w (.cells #[.slice m.oT m.types.length m.cT, .slice m.oI m.imports.length m.cI, .slice m.oF m.funcs.length m.cF, .int .i64 m.table, .int .i64 m.pages, .int .i64 m.most, .slice m.oG m.globals.length m.cG, .slice m.oE m.exports.length m.cE, .int .i64 m.start, .slice m.oL m.elems.length m.cL, .slice m.oD m.data.length m.cD] 30))
  exact ⟨cell_at a1 0 rfl, cell_at a1 1 rfl, cell_at a1 2 rfl, cell_at a1 3 rfl, cell_at a1 4 rfl, cell_at a1 5 rfl, cell_at a1 6 rfl, cell_at a1 7 rfl, cell_at a1 8 rfl, cell_at a1 9 rfl, cell_at a1 10 rfl⟩
 obtain ⟨f0, f1, f2, f3, f4, f5, f6, f7, f8, f9, f10⟩ := HS.out _ (Below.refl _ _)
 have hji0 : (0 : Int) ≤ (j : Int) := by omega
 have hji1 : (j : Int) < (m.funcs.length : Int) := by omega
 have hqi : (q : Int) < (n : Int) := by omega
 clear hb1 hc ho
 go_enter Tryz.func6, Tryz.ntmps6
 go_wp2_with fail
 refine (HSO.out _ HB1.out).mono ?_
 rintro r w1 ⟨rfl, b1⟩
 have HB2 : Hid (Below (w.alloc (.cells #[.slice m.oT m.types.length m.cT, .slice m.oI m.imports.length m.cI, .slice m.oF m.funcs.length m.cF, .int .i64 m.table, .int .i64 m.pages, .int .i64 m.most, .slice m.oG m.globals.length m.cG, .slice m.oE m.exports.length m.cE, .int .i64 m.start, .slice m.oL m.elems.length m.cL, .slice m.oD m.data.length m.cD] 30)).heap.size (w.alloc (.cells #[.slice m.oT m.types.length m.cT, .slice m.oI m.imports.length m.cI, .slice m.oF m.funcs.length m.cF, .int .i64 m.table, .int .i64 m.pages, .int .i64 m.most, .slice m.oG m.globals.length m.cG, .slice m.oE m.exports.length m.cE, .int .i64 m.start, .slice m.oL m.elems.length m.cL, .slice m.oD m.data.length m.cD] 30)) w1) := b1
 have HB3 : Hid (Below w.heap.size w w1) := HB1.out.trans (b1.mono (by simp))
 clear b1 HSO f0 f1 f2 f3 f4 f5 f6 f7 f8 f9 f10
 have HRF : Hid (type_of% (vrefused w1 (HA.out.to (HB3.out.mono (by have := HA.out.2.2; omega))) (Nat.lt_of_lt_of_le HG.out HB3.out.size))) := vrefused w1 (HA.out.to (HB3.out.mono (by have := HA.out.2.2; omega))) (Nat.lt_of_lt_of_le HG.out HB3.out.size)
 go_wp2_with fail
 refine HRF.out.mono ?_
 rintro r w2 ⟨rfl, b2⟩
 have HB4 : Hid (Below (w.alloc (.cells #[.slice m.oT m.types.length m.cT, .slice m.oI m.imports.length m.cI, .slice m.oF m.funcs.length m.cF, .int .i64 m.table, .int .i64 m.pages, .int .i64 m.most, .slice m.oG m.globals.length m.cG, .slice m.oE m.exports.length m.cE, .int .i64 m.start, .slice m.oL m.elems.length m.cL, .slice m.oD m.data.length m.cD] 30)).heap.size (w.alloc (.cells #[.slice m.oT m.types.length m.cT, .slice m.oI m.imports.length m.cI, .slice m.oF m.funcs.length m.cF, .int .i64 m.table, .int .i64 m.pages, .int .i64 m.most, .slice m.oG m.globals.length m.cG, .slice m.oE m.exports.length m.cE, .int .i64 m.start, .slice m.oL m.elems.length m.cL, .slice m.oD m.data.length m.cD] 30)) w2) := HB2.out.trans (b2.mono HB2.out.size)
 have HB5 : Hid (Below w.heap.size w w2) := HB3.out.trans (b2.mono HB3.out.size)
 obtain ⟨g0, g1, g2, g3, g4, g5, g6, g7, g8, g9, g10⟩ := HS.out _ HB4.out
 have c9 := HC.out _ HB5.out
 rw [HOF.out] at g2
 clear b2 HB2 HB3 HRF HC
 by_cases h200 : n = 200
 ·have hn2 : ((n : Int) == 200) = true := by rw [h200]; rfl
  go_wp2
  go_ret
  exact ⟨rfl, HB5.out⟩
 ·have hn2 : ((n : Int) == 200) = false := by rw [beq_eq_false_iff_ne]; omega
  have HPU : Hid (∀ op X W, (op = 0 ∨ op = 1) → Below w.heap.size w W → W.heap[X]? = some (.cells #[.int .u8 op, .int .i64 0, .int .i64 0, .slice none 0 0] 53 (0, 0)) → Calls Tryz.prog 20 #[.agg #[.slice m.oT m.types.length m.cT, .slice m.oI m.imports.length m.cI, .slice m.oF m.funcs.length m.cF, .int .i64 m.table, .int .i64 m.pages, .int .i64 m.most, .slice m.oG m.globals.length m.cG, .slice m.oE m.exports.length m.cE, .int .i64 m.start, .slice m.oL m.elems.length m.cL, .slice m.oD m.data.length m.cD], .int .i64 (j : Int), .int .i64 (q : Int), .slice (some ⟨X, 0, none⟩) 1 1] W fun r w' => ∃ m' : ModD, r = .returned (.agg (mcA m')) ∧ m'.ok w' ∧ modE m' = 0 ∧ Below W.heap.size W w') := fun op X W hop b hX => by
   refine (vput m j q op X W (HM.out.below b) hj (by rw [HD.out.1]; exact hq) (by rw [HD.out.1]; exact hn) hf (by omega) (by omega) hX).mono ?_
   rintro r w' ⟨oF, cF, o9, c9, rfl, k1, k2⟩
   exact ⟨_, rfl, k1, more_sound HM.out hj (by rw [HD.out.1]; exact hq) (by rw [HD.out.1]; omega) hop HZ.out, k2⟩
  have HMD : Hid (∀ m' W, Below w.heap.size w W → m'.ok W → modE m' = 0 → Calls Tryz.prog 12 #[.agg (mcA m')] W fun r w' => r = .returned (.int .i64 0) ∧ Below W.heap.size W w') := fun m' W b hm' hz => by
   have := vmodule m' W (HA.out.to (b.mono (by have := HA.out.2.2; omega))) hm' (Nat.lt_of_lt_of_le HG.out b.size)
   rw [hz] at this
   exact this
  cases stop
  ·have hb6 : Below (w.alloc (.cells #[.slice m.oT m.types.length m.cT, .slice m.oI m.imports.length m.cI, .slice m.oF m.funcs.length m.cF, .int .i64 m.table, .int .i64 m.pages, .int .i64 m.most, .slice m.oG m.globals.length m.cG, .slice m.oE m.exports.length m.cE, .int .i64 m.start, .slice m.oL m.elems.length m.cL, .slice m.oD m.data.length m.cD] 30)).heap.size (w.alloc (.cells #[.slice m.oT m.types.length m.cT, .slice m.oI m.imports.length m.cI, .slice m.oF m.funcs.length m.cF, .int .i64 m.table, .int .i64 m.pages, .int .i64 m.most, .slice m.oG m.globals.length m.cG, .slice m.oE m.exports.length m.cE, .int .i64 m.start, .slice m.oL m.elems.length m.cL, .slice m.oD m.data.length m.cD] 30)) (w2.alloc (.cells #[.int .u8 1, .int .i64 0, .int .i64 0, .slice none 0 0] 53)) := HB4.out.alloc HB4.out.size _
   obtain ⟨k0, k1, k2, k3, k4, k5, k6, k7, k8, k9, k10⟩ := HS.out _ hb6
   have HB7 : Hid (Below w.heap.size w ((w2.alloc (.cells #[.int .u8 1, .int .i64 0, .int .i64 0, .slice none 0 0] 53)).alloc (.cells #[.int .u8 1, .int .i64 0, .int .i64 0, .slice none 0 0] 53))) := (HB5.out.alloc HB5.out.size _).alloc (by have := HB5.out.size; simp; omega) _
   have HX : Hid (((w2.alloc (.cells #[.int .u8 1, .int .i64 0, .int .i64 0, .slice none 0 0] 53)).alloc (.cells #[.int .u8 1, .int .i64 0, .int .i64 0, .slice none 0 0] 53)).heap[w2.heap.size + 1]? = some (.cells #[.int .u8 1, .int .i64 0, .int .i64 0, .slice none 0 0] 53 (0, 0))) := new_block' _ _ _ _ (by simp)
   clear hb6
   go_wp2_with fail
   refine (HPU.out 1 _ _ (Or.inr rfl) HB7.out HX.out).mono ?_
   rintro r w4 ⟨m', rfl, hok, hz, b4⟩
   have HB8 : Hid (Below w.heap.size w w4) := HB7.out.trans (b4.mono HB7.out.size)
   have HMM : Hid (type_of% (HMD.out m' w4 HB8.out hok hz)) := HMD.out m' w4 HB8.out hok hz
   clear hok hz b4 HPU HX k0 k1 k2 k3 k4 k5 k6 k7 k8 k9 k10
   go_wp2_with fail
   refine HMM.out.mono ?_
   rintro r w5 ⟨rfl, b5⟩
   have HB9 : Hid (Below w.heap.size w w5) := HB8.out.trans (b5.mono HB8.out.size)
   clear b5 HMM
   go_wp2
   go_ret
   exact ⟨rfl, HB9.out⟩
  ·have hb6 : Below (w.alloc (.cells #[.slice m.oT m.types.length m.cT, .slice m.oI m.imports.length m.cI, .slice m.oF m.funcs.length m.cF, .int .i64 m.table, .int .i64 m.pages, .int .i64 m.most, .slice m.oG m.globals.length m.cG, .slice m.oE m.exports.length m.cE, .int .i64 m.start, .slice m.oL m.elems.length m.cL, .slice m.oD m.data.length m.cD] 30)).heap.size (w.alloc (.cells #[.slice m.oT m.types.length m.cT, .slice m.oI m.imports.length m.cI, .slice m.oF m.funcs.length m.cF, .int .i64 m.table, .int .i64 m.pages, .int .i64 m.most, .slice m.oG m.globals.length m.cG, .slice m.oE m.exports.length m.cE, .int .i64 m.start, .slice m.oL m.elems.length m.cL, .slice m.oD m.data.length m.cD] 30)) (w2.alloc (.cells #[.int .u8 0, .int .i64 0, .int .i64 0, .slice none 0 0] 53)) := HB4.out.alloc HB4.out.size _
   obtain ⟨k0, k1, k2, k3, k4, k5, k6, k7, k8, k9, k10⟩ := HS.out _ hb6
   have HB7 : Hid (Below w.heap.size w ((w2.alloc (.cells #[.int .u8 0, .int .i64 0, .int .i64 0, .slice none 0 0] 53)).alloc (.cells #[.int .u8 0, .int .i64 0, .int .i64 0, .slice none 0 0] 53))) := (HB5.out.alloc HB5.out.size _).alloc (by have := HB5.out.size; simp; omega) _
   have HX : Hid (((w2.alloc (.cells #[.int .u8 0, .int .i64 0, .int .i64 0, .slice none 0 0] 53)).alloc (.cells #[.int .u8 0, .int .i64 0, .int .i64 0, .slice none 0 0] 53)).heap[w2.heap.size + 1]? = some (.cells #[.int .u8 0, .int .i64 0, .int .i64 0, .slice none 0 0] 53 (0, 0))) := new_block' _ _ _ _ (by simp)
   clear hb6
   go_wp2_with fail
   refine (HPU.out 0 _ _ (Or.inl rfl) HB7.out HX.out).mono ?_
   rintro r w4 ⟨m', rfl, hok, hz, b4⟩
   have HB8 : Hid (Below w.heap.size w w4) := HB7.out.trans (b4.mono HB7.out.size)
   have HMM : Hid (type_of% (HMD.out m' w4 HB8.out hok hz)) := HMD.out m' w4 HB8.out hok hz
   clear hok hz b4 HPU HX k0 k1 k2 k3 k4 k5 k6 k7 k8 k9 k10
   go_wp2_with fail
   refine HMM.out.mono ?_
   rintro r w5 ⟨rfl, b5⟩
   have HB9 : Hid (Below w.heap.size w w5) := HB8.out.trans (b5.mono HB8.out.size)
   clear b5 HMM
   go_wp2
   go_ret
   exact ⟨rfl, HB9.out⟩
theorem nops_no (m : ModD) (at' k : Int) (stop : Bool) (w : World) (HA : Hid (Amb w)) (HG : Hid (2 < w.heap.size))
  (HSO : Hid (∀ W, Below w.heap.size w W → Calls Tryz.prog 18 #[.agg #[.slice m.oT m.types.length m.cT, .slice m.oI m.imports.length m.cI, .slice m.oF m.funcs.length m.cF, .int .i64 m.table, .int .i64 m.pages, .int .i64 m.most, .slice m.oG m.globals.length m.cG, .slice m.oE m.exports.length m.cE, .int .i64 m.start, .slice m.oL m.elems.length m.cL, .slice m.oD m.data.length m.cD], .int .i64 at', .int .i64 k] W fun r w' => r = .returned (.tuple #[.int .i64 0, .int .i64 0, .bool false]) ∧ Below W.heap.size W w')) :
  Calls Tryz.prog 6 #[.agg #[.slice m.oT m.types.length m.cT, .slice m.oI m.imports.length m.cI, .slice m.oF m.funcs.length m.cF, .int .i64 m.table, .int .i64 m.pages, .int .i64 m.most, .slice m.oG m.globals.length m.cG, .slice m.oE m.exports.length m.cE, .int .i64 m.start, .slice m.oL m.elems.length m.cL, .slice m.oD m.data.length m.cD], .int .i64 at', .int .i64 k, .bool stop] w fun r w' => r = .returned (.bool true) ∧ Below w.heap.size w w' := by
 have hb1 : Below w.heap.size w (w.alloc (.cells #[.slice m.oT m.types.length m.cT, .slice m.oI m.imports.length m.cI, .slice m.oF m.funcs.length m.cF, .int .i64 m.table, .int .i64 m.pages, .int .i64 m.most, .slice m.oG m.globals.length m.cG, .slice m.oE m.exports.length m.cE, .int .i64 m.start, .slice m.oL m.elems.length m.cL, .slice m.oD m.data.length m.cD] 30)) := (Below.refl _ _).alloc (Nat.le_refl _) _
 have HB1 : Hid (type_of% hb1) := hb1
 have HS : Hid (∀ w', Below (w.alloc (.cells #[.slice m.oT m.types.length m.cT, .slice m.oI m.imports.length m.cI, .slice m.oF m.funcs.length m.cF, .int .i64 m.table, .int .i64 m.pages, .int .i64 m.most, .slice m.oG m.globals.length m.cG, .slice m.oE m.exports.length m.cE, .int .i64 m.start, .slice m.oL m.elems.length m.cL, .slice m.oD m.data.length m.cD] 30)).heap.size (w.alloc (.cells #[.slice m.oT m.types.length m.cT, .slice m.oI m.imports.length m.cI, .slice m.oF m.funcs.length m.cF, .int .i64 m.table, .int .i64 m.pages, .int .i64 m.most, .slice m.oG m.globals.length m.cG, .slice m.oE m.exports.length m.cE, .int .i64 m.start, .slice m.oL m.elems.length m.cL, .slice m.oD m.data.length m.cD] 30)) w' → w'.cell? ⟨w.heap.size, 0, none⟩ = some (.slice m.oT m.types.length m.cT) ∧ w'.cell? ⟨w.heap.size, 1, none⟩ = some (.slice m.oI m.imports.length m.cI) ∧ w'.cell? ⟨w.heap.size, 2, none⟩ = some (.slice m.oF m.funcs.length m.cF) ∧ w'.cell? ⟨w.heap.size, 3, none⟩ = some (.int .i64 m.table) ∧ w'.cell? ⟨w.heap.size, 4, none⟩ = some (.int .i64 m.pages) ∧ w'.cell? ⟨w.heap.size, 5, none⟩ = some (.int .i64 m.most) ∧ w'.cell? ⟨w.heap.size, 6, none⟩ = some (.slice m.oG m.globals.length m.cG) ∧ w'.cell? ⟨w.heap.size, 7, none⟩ = some (.slice m.oE m.exports.length m.cE) ∧ w'.cell? ⟨w.heap.size, 8, none⟩ = some (.int .i64 m.start) ∧ w'.cell? ⟨w.heap.size, 9, none⟩ = some (.slice m.oL m.elems.length m.cL) ∧ w'.cell? ⟨w.heap.size, 10, none⟩ = some (.slice m.oD m.data.length m.cD)) := fun w' bz => by
  have a1 := (bz.block w.heap.size (by simp)).trans (new_block w (.cells #[.slice m.oT m.types.length m.cT, .slice m.oI m.imports.length m.cI, .slice m.oF m.funcs.length m.cF, .int .i64 m.table, .int .i64 m.pages, .int .i64 m.most, .slice m.oG m.globals.length m.cG, .slice m.oE m.exports.length m.cE, .int .i64 m.start, .slice m.oL m.elems.length m.cL, .slice m.oD m.data.length m.cD] 30))
  exact ⟨cell_at a1 0 rfl, cell_at a1 1 rfl, cell_at a1 2 rfl, cell_at a1 3 rfl, cell_at a1 4 rfl, cell_at a1 5 rfl, cell_at a1 6 rfl, cell_at a1 7 rfl, cell_at a1 8 rfl, cell_at a1 9 rfl, cell_at a1 10 rfl⟩
 obtain ⟨f0, f1, f2, f3, f4, f5, f6, f7, f8, f9, f10⟩ := HS.out _ (Below.refl _ _)
 clear hb1
 go_enter Tryz.func6, Tryz.ntmps6
 go_wp2_with fail
 refine (HSO.out _ HB1.out).mono ?_
 rintro r w1 ⟨rfl, b1⟩
 have HB3 : Hid (Below w.heap.size w w1) := HB1.out.trans (b1.mono (by simp))
 clear b1 HSO f0 f1 f2 f3 f4 f5 f6 f7 f8 f9 f10
 have HRF : Hid (type_of% (vrefused w1 (HA.out.to (HB3.out.mono (by have := HA.out.2.2; omega))) (Nat.lt_of_lt_of_le HG.out HB3.out.size))) := vrefused w1 (HA.out.to (HB3.out.mono (by have := HA.out.2.2; omega))) (Nat.lt_of_lt_of_le HG.out HB3.out.size)
 go_wp2_with fail
 refine HRF.out.mono ?_
 rintro r w2 ⟨rfl, b2⟩
 have HB5 : Hid (Below w.heap.size w w2) := HB3.out.trans (b2.mono HB3.out.size)
 clear b2 HB3 HRF
 go_wp2
 go_ret
 exact ⟨rfl, HB5.out⟩
theorem validNops_walk (m : ModD) (at' : Int) (ha : -9223372036854775808 ≤ at' ∧ at' ≤ 9223372036854775807) (k : Int) (hk : -9223372036854775808 ≤ k ∧ k ≤ 9223372036854775807) (stop : Bool) (w : World) (hA : Amb w) (hm : m.ok w) :
  Calls Tryz.prog 6 #[.agg (mcA m), .int .i64 at', .int .i64 k, .bool stop] w fun r w' => r = .returned (.bool true) ∧ Below w.heap.size w w' := by
 have hg : 2 < w.heap.size := by have := hA.2.2; omega
 have hs : ∀ W, Below w.heap.size w W → Calls Tryz.prog 18 #[.agg #[.slice m.oT m.types.length m.cT, .slice m.oI m.imports.length m.cI, .slice m.oF m.funcs.length m.cF, .int .i64 m.table, .int .i64 m.pages, .int .i64 m.most, .slice m.oG m.globals.length m.cG, .slice m.oE m.exports.length m.cE, .int .i64 m.start, .slice m.oL m.elems.length m.cL, .slice m.oD m.data.length m.cD], .int .i64 at', .int .i64 k] W fun r w' => r = .returned (.tuple #[.int .i64 (soundV m at' k).1, .int .i64 (soundV m at' k).2.1, .bool (soundV m at' k).2.2]) ∧ Below W.heap.size W w' := fun W b => vsound m at' k W (hA.to (b.mono (by have := hA.2.2; omega))) (hm.below b) (Nat.lt_of_lt_of_le hg b.size) ha hk
 by_cases hz : modE m = 0 ∧ m.funcs.length ≠ 0
 ·have e : soundV m at' k = (at' % (m.funcs.length : Int), k % ((m.funcs[(at' % (m.funcs.length : Int)).toNat]!).b.length : Int), true) := if_pos hz
  have hc := (head_zero (mod_zero hz.1).1).1
  have sm := mod_small hm hc
  have gf := fair_of hm hc
  have a0 := Int.emod_nonneg at' (b := (m.funcs.length : Int)) (by omega)
  have a1 := Int.emod_lt_of_pos at' (b := (m.funcs.length : Int)) (by omega)
  obtain ⟨j, hj⟩ : ∃ j : Nat, at' % (m.funcs.length : Int) = (j : Int) := ⟨_, (Int.toNat_of_nonneg a0).symm⟩
  rw [hj, Int.toNat_natCast] at e
  rw [hj] at a1
  have hjl : j < m.funcs.length := by omega
  have hmem : m.funcs[j]! ∈ m.funcs := by rw [getElem!_pos m.funcs j hjl]; exact List.getElem_mem hjl
  have hn := (sm.2 _ hmem).1
  have hb := body_some hn
  have q0 := Int.emod_nonneg k (b := ((m.funcs[j]!).b.length : Int)) (by omega)
  have q1 := Int.emod_lt_of_pos k (b := ((m.funcs[j]!).b.length : Int)) (by omega)
  obtain ⟨q, hq⟩ : ∃ q : Nat, k % ((m.funcs[j]!).b.length : Int) = (q : Int) := ⟨_, (Int.toNat_of_nonneg q0).symm⟩
  rw [hq] at e q1
  rw [e] at hs
  exact nops_sound m at' k stop j q _ _ _ w hA hg hm hjl gf.nF (by omega) (RunI.len hn) ⟨rfl, rfl, rfl⟩ hz.1 hs
 ·have e : soundV m at' k = (0, 0, false) := if_neg hz
  rw [e] at hs
  exact nops_no m at' k stop w hA hg hs
end Go.Proofs.YthapeicnhfdhiaaGreatDoor
