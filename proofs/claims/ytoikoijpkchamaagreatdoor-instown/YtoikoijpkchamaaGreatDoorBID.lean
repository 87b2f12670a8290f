/-
 Whether an instance may have an image: Fits.
 What an instance has at first fits.
 Whether two images are the same.
 The law of what an instance has at first, where there is none.
-/
import Derived.Test.YtoikoijpkchamaaGreatDoorBIC
import Derived.Test.YtoikoijpkchamaaGreatDoorBQY
set_option maxHeartbeats 8000000
set_option maxRecDepth 1000000
namespace Go.Proofs.YtoikoijpkchamaaGreatDoor
open Go.RowKit
set_option linter.unusedVariables false
def fitsE (m : ModD) (n : Nat) (t v : List Int) : Int := if modE m = 0 then (if bytB m n = true ∧ tabB m t = true ∧ gloB m v = true then 0 else 1) else modE m
theorem ifits (m : ModD) (s : ByteArray) (hs : s.size ≤ 9223372036854775807) (t v : NumD) (w : World) (hA : Amb w) (hm : m.ok w) (hg : 2 < w.heap.size) (ht : t.ok .i64 w) (hv : v.ok .i64 w) :
  Calls Tryz.prog 41 #[.agg #[.slice m.oT m.types.length m.cT, .slice m.oI m.imports.length m.cI, .slice m.oF m.funcs.length m.cF, .int .i64 m.table, .int .i64 m.pages, .int .i64 m.most, .slice m.oG m.globals.length m.cG, .slice m.oE m.exports.length m.cE, .int .i64 m.start, .slice m.oL m.elems.length m.cL, .slice m.oD m.data.length m.cD], .agg #[.string s, .slice t.o t.n t.cap, .slice v.o v.n v.cap]] w fun r w' => r = .returned (.int .i64 (fitsE m s.size t.xs v.xs)) ∧ Below w.heap.size w w' := by
 have HMO : Hid (∀ W, Below w.heap.size w W → Calls Tryz.prog 17 #[.agg #[.slice m.oT m.types.length m.cT, .slice m.oI m.imports.length m.cI, .slice m.oF m.funcs.length m.cF, .int .i64 m.table, .int .i64 m.pages, .int .i64 m.most, .slice m.oG m.globals.length m.cG, .slice m.oE m.exports.length m.cE, .int .i64 m.start, .slice m.oL m.elems.length m.cL, .slice m.oD m.data.length m.cD]] W fun r w' => r = .returned (.int .i64 (modE m)) ∧ Below W.heap.size W w') := fun W b => vmodule m W (hA.to (b.mono (by have := hA.2.2; omega))) (hm.below b) (Nat.lt_of_lt_of_le hg b.size)
 have hb1 : Below w.heap.size w (w.alloc (.cells #[.slice m.oT m.types.length m.cT, .slice m.oI m.imports.length m.cI, .slice m.oF m.funcs.length m.cF, .int .i64 m.table, .int .i64 m.pages, .int .i64 m.most, .slice m.oG m.globals.length m.cG, .slice m.oE m.exports.length m.cE, .int .i64 m.start, .slice m.oL m.elems.length m.cL, .slice m.oD m.data.length m.cD] 30)) := (Below.refl _ _).alloc (Nat.le_refl _) _
 have HB1 : Hid (type_of% hb1) := hb1
 have HS : Hid (∀ w', Below (w.alloc (.cells #[.slice m.oT m.types.length m.cT, .slice m.oI m.imports.length m.cI, .slice m.oF m.funcs.length m.cF, .int .i64 m.table, .int .i64 m.pages, .int .i64 m.most, .slice m.oG m.globals.length m.cG, .slice m.oE m.exports.length m.cE, .int .i64 m.start, .slice m.oL m.elems.length m.cL, .slice m.oD m.data.length m.cD] 30)).heap.size (w.alloc (.cells #[.slice m.oT m.types.length m.cT, .slice m.oI m.imports.length m.cI, .slice m.oF m.funcs.length m.cF, .int .i64 m.table, .int .i64 m.pages, .int .i64 m.most, .slice m.oG m.globals.length m.cG, .slice m.oE m.exports.length m.cE, .int .i64 m.start, .slice m.oL m.elems.length m.cL, .slice m.oD m.data.length m.cD] 30)) w' → w'.cell? ⟨w.heap.size, 0, none⟩ = some (.slice m.oT m.types.length m.cT) ∧ w'.cell? ⟨w.heap.size, 1, none⟩ = some (.slice m.oI m.imports.length m.cI) ∧ w'.cell? ⟨w.heap.size, 2, none⟩ = some (.slice m.oF m.funcs.length m.cF) ∧ w'.cell? ⟨w.heap.size, 3, none⟩ = some (.int .i64 m.table) ∧ w'.cell? ⟨w.heap.size, 4, none⟩ = some (.int .i64 m.pages) ∧ w'.cell? ⟨w.heap.size, 5, none⟩ = some (.int .i64 m.most) ∧ w'.cell? ⟨w.heap.size, 6, none⟩ = some (.slice m.oG m.globals.length m.cG) ∧ w'.cell? ⟨w.heap.size, 7, none⟩ = some (.slice m.oE m.exports.length m.cE) ∧ w'.cell? ⟨w.heap.size, 8, none⟩ = some (.int .i64 m.start) ∧ w'.cell? ⟨w.heap.size, 9, none⟩ = some (.slice m.oL m.elems.length m.cL) ∧ w'.cell? ⟨w.heap.size, 10, none⟩ = some (.slice m.oD m.data.length m.cD)) := fun w' bz => by
  have a1 := (bz.block w.heap.size (by simp)).trans (new_block w (.cells #[.slice m.oT m.types.length m.cT, .slice m.oI m.imports.length m.cI, .slice m.oF m.funcs.length m.cF, .int .i64 m.table, .int .i64 m.pages, .int .i64 m.most, .slice m.oG m.globals.length m.cG, .slice m.oE m.exports.length m.cE, .int .i64 m.start, .slice m.oL m.elems.length m.cL, .slice m.oD m.data.length m.cD] 30))
  exact ⟨cell_at a1 0 rfl, cell_at a1 1 rfl, cell_at a1 2 rfl, cell_at a1 3 rfl, cell_at a1 4 rfl, cell_at a1 5 rfl, cell_at a1 6 rfl, cell_at a1 7 rfl, cell_at a1 8 rfl, cell_at a1 9 rfl, cell_at a1 10 rfl⟩
 obtain ⟨f0, f1, f2, f3, f4, f5, f6, f7, f8, f9, f10⟩ := HS.out _ (Below.refl _ _)
 have hI : Below w.heap.size w ((w.alloc (.cells #[.slice m.oT m.types.length m.cT, .slice m.oI m.imports.length m.cI, .slice m.oF m.funcs.length m.cF, .int .i64 m.table, .int .i64 m.pages, .int .i64 m.most, .slice m.oG m.globals.length m.cG, .slice m.oE m.exports.length m.cE, .int .i64 m.start, .slice m.oL m.elems.length m.cL, .slice m.oD m.data.length m.cD] 30)).alloc (.cells #[.string s, .slice t.o t.n t.cap, .slice v.o v.n v.cap] 80)) := hb1.alloc (by simp) _
 have HI : Hid (type_of% hI) := hI
 have hJ : Below (w.alloc (.cells #[.slice m.oT m.types.length m.cT, .slice m.oI m.imports.length m.cI, .slice m.oF m.funcs.length m.cF, .int .i64 m.table, .int .i64 m.pages, .int .i64 m.most, .slice m.oG m.globals.length m.cG, .slice m.oE m.exports.length m.cE, .int .i64 m.start, .slice m.oL m.elems.length m.cL, .slice m.oD m.data.length m.cD] 30)).heap.size (w.alloc (.cells #[.slice m.oT m.types.length m.cT, .slice m.oI m.imports.length m.cI, .slice m.oF m.funcs.length m.cF, .int .i64 m.table, .int .i64 m.pages, .int .i64 m.most, .slice m.oG m.globals.length m.cG, .slice m.oE m.exports.length m.cE, .int .i64 m.start, .slice m.oL m.elems.length m.cL, .slice m.oD m.data.length m.cD] 30)) ((w.alloc (.cells #[.slice m.oT m.types.length m.cT, .slice m.oI m.imports.length m.cI, .slice m.oF m.funcs.length m.cF, .int .i64 m.table, .int .i64 m.pages, .int .i64 m.most, .slice m.oG m.globals.length m.cG, .slice m.oE m.exports.length m.cE, .int .i64 m.start, .slice m.oL m.elems.length m.cL, .slice m.oD m.data.length m.cD] 30)).alloc (.cells #[.string s, .slice t.o t.n t.cap, .slice v.o v.n v.cap] 80)) := (Below.refl _ _).alloc (Nat.le_refl _) _
 have HCC : Hid (∀ W, Below ((w.alloc (.cells #[.slice m.oT m.types.length m.cT, .slice m.oI m.imports.length m.cI, .slice m.oF m.funcs.length m.cF, .int .i64 m.table, .int .i64 m.pages, .int .i64 m.most, .slice m.oG m.globals.length m.cG, .slice m.oE m.exports.length m.cE, .int .i64 m.start, .slice m.oL m.elems.length m.cL, .slice m.oD m.data.length m.cD] 30)).alloc (.cells #[.string s, .slice t.o t.n t.cap, .slice v.o v.n v.cap] 80)).heap.size ((w.alloc (.cells #[.slice m.oT m.types.length m.cT, .slice m.oI m.imports.length m.cI, .slice m.oF m.funcs.length m.cF, .int .i64 m.table, .int .i64 m.pages, .int .i64 m.most, .slice m.oG m.globals.length m.cG, .slice m.oE m.exports.length m.cE, .int .i64 m.start, .slice m.oL m.elems.length m.cL, .slice m.oD m.data.length m.cD] 30)).alloc (.cells #[.string s, .slice t.o t.n t.cap, .slice v.o v.n v.cap] 80)) W → (W.cell? ⟨w.heap.size, 0, none⟩ = some (.slice m.oT m.types.length m.cT) ∧ W.cell? ⟨w.heap.size, 1, none⟩ = some (.slice m.oI m.imports.length m.cI) ∧ W.cell? ⟨w.heap.size, 2, none⟩ = some (.slice m.oF m.funcs.length m.cF) ∧ W.cell? ⟨w.heap.size, 3, none⟩ = some (.int .i64 m.table) ∧ W.cell? ⟨w.heap.size, 4, none⟩ = some (.int .i64 m.pages) ∧ W.cell? ⟨w.heap.size, 5, none⟩ = some (.int .i64 m.most) ∧ W.cell? ⟨w.heap.size, 6, none⟩ = some (.slice m.oG m.globals.length m.cG) ∧ W.cell? ⟨w.heap.size, 7, none⟩ = some (.slice m.oE m.exports.length m.cE) ∧ W.cell? ⟨w.heap.size, 8, none⟩ = some (.int .i64 m.start) ∧ W.cell? ⟨w.heap.size, 9, none⟩ = some (.slice m.oL m.elems.length m.cL) ∧ W.cell? ⟨w.heap.size, 10, none⟩ = some (.slice m.oD m.data.length m.cD)) ∧ W.cell? ⟨w.heap.size + 1, 0, none⟩ = some (.string s) ∧ W.cell? ⟨w.heap.size + 1, 1, none⟩ = some (.slice t.o t.n t.cap) ∧ W.cell? ⟨w.heap.size + 1, 2, none⟩ = some (.slice v.o v.n v.cap)) := fun W bW => by
  have h := heap_alloc_new (w.alloc (.cells #[.slice m.oT m.types.length m.cT, .slice m.oI m.imports.length m.cI, .slice m.oF m.funcs.length m.cF, .int .i64 m.table, .int .i64 m.pages, .int .i64 m.most, .slice m.oG m.globals.length m.cG, .slice m.oE m.exports.length m.cE, .int .i64 m.start, .slice m.oL m.elems.length m.cL, .slice m.oD m.data.length m.cD] 30)) (.cells #[.string s, .slice t.o t.n t.cap, .slice v.o v.n v.cap] 80)
  rw [show (w.alloc (.cells #[.slice m.oT m.types.length m.cT, .slice m.oI m.imports.length m.cI, .slice m.oF m.funcs.length m.cF, .int .i64 m.table, .int .i64 m.pages, .int .i64 m.most, .slice m.oG m.globals.length m.cG, .slice m.oE m.exports.length m.cE, .int .i64 m.start, .slice m.oL m.elems.length m.cL, .slice m.oD m.data.length m.cD] 30)).heap.size = w.heap.size + 1 by simp] at h
  have h2 := (bW.block (w.heap.size + 1) (by simp)).trans h
  exact ⟨HS.out _ (hJ.trans (bW.mono hJ.size)), cell_at h2 0 rfl, cell_at h2 1 rfl, cell_at h2 2 rfl⟩
 obtain ⟨⟨g0, g1, g2, g3, g4, g5, g6, g7, g8, g9, g10⟩, q0, q1, q2⟩ := HCC.out _ (Below.refl _ _)
 clear hb1 hI hJ f0 f1 f2 f3 f4 f5 f6 f7 f8 f9 f10 hA hg
 unfold fitsE
 by_cases hz : modE m = 0
 ·have hc := (head_zero (mod_zero hz).1).1
  have gf := fair_of hm hc
  have HBY : Hid (∀ W, Calls Tryz.prog 69 #[.agg #[.slice m.oT m.types.length m.cT, .slice m.oI m.imports.length m.cI, .slice m.oF m.funcs.length m.cF, .int .i64 m.table, .int .i64 m.pages, .int .i64 m.most, .slice m.oG m.globals.length m.cG, .slice m.oE m.exports.length m.cE, .int .i64 m.start, .slice m.oL m.elems.length m.cL, .slice m.oD m.data.length m.cD], .string s] W fun r w' => r = .returned (.bool (bytB m s.size)) ∧ Below W.heap.size W w') := fun W => ibyt m s W hs
  have HTB : Hid (∀ W, Below w.heap.size w W → Calls Tryz.prog 70 #[.agg #[.slice m.oT m.types.length m.cT, .slice m.oI m.imports.length m.cI, .slice m.oF m.funcs.length m.cF, .int .i64 m.table, .int .i64 m.pages, .int .i64 m.most, .slice m.oG m.globals.length m.cG, .slice m.oE m.exports.length m.cE, .int .i64 m.start, .slice m.oL m.elems.length m.cL, .slice m.oD m.data.length m.cD], .slice t.o t.n t.cap] W fun r w' => r = .returned (.bool (tabB m t.xs)) ∧ Below W.heap.size W w') := fun W b => itab m t W (ht.below b) gf.nI gf.nF
  have HGL : Hid (∀ W, Below w.heap.size w W → Calls Tryz.prog 71 #[.agg #[.slice m.oT m.types.length m.cT, .slice m.oI m.imports.length m.cI, .slice m.oF m.funcs.length m.cF, .int .i64 m.table, .int .i64 m.pages, .int .i64 m.most, .slice m.oG m.globals.length m.cG, .slice m.oE m.exports.length m.cE, .int .i64 m.start, .slice m.oL m.elems.length m.cL, .slice m.oD m.data.length m.cD], .slice v.o v.n v.cap] W fun r w' => r = .returned (.bool (gloB m v.xs)) ∧ Below W.heap.size W w') := fun W b => iglo m v W (hv.below b) (hm.below b)
  rw [if_pos hz]
  rw [hz] at HMO
  generalize bytB m s.size = eb at *
  generalize tabB m t.xs = et at *
  generalize gloB m v.xs = eg at *
  clear hz hc gf hm ht hv hs
  cases eb with
  | false =>
   rw [if_neg (by simp)]
   go_enter Tryz.func41, Tryz.ntmps41
   go_wp2_with (first | (go_at_call 17; refine (HMO.out _ HI.out).mono ?_; rintro r w1 ⟨rfl, b1⟩; have HW1 : Hid (Below ((w.alloc (.cells #[.slice m.oT m.types.length m.cT, .slice m.oI m.imports.length m.cI, .slice m.oF m.funcs.length m.cF, .int .i64 m.table, .int .i64 m.pages, .int .i64 m.most, .slice m.oG m.globals.length m.cG, .slice m.oE m.exports.length m.cE, .int .i64 m.start, .slice m.oL m.elems.length m.cL, .slice m.oD m.data.length m.cD] 30)).alloc (.cells #[.string s, .slice t.o t.n t.cap, .slice v.o v.n v.cap] 80)).heap.size ((w.alloc (.cells #[.slice m.oT m.types.length m.cT, .slice m.oI m.imports.length m.cI, .slice m.oF m.funcs.length m.cF, .int .i64 m.table, .int .i64 m.pages, .int .i64 m.most, .slice m.oG m.globals.length m.cG, .slice m.oE m.exports.length m.cE, .int .i64 m.start, .slice m.oL m.elems.length m.cL, .slice m.oD m.data.length m.cD] 30)).alloc (.cells #[.string s, .slice t.o t.n t.cap, .slice v.o v.n v.cap] 80)) w1) := b1; have HV1 : Hid (Below w.heap.size w w1) := HI.out.trans (b1.mono HI.out.size); (obtain ⟨⟨h0, h1, h2, h3, h4, h5, h6, h7, h8, h9, h10⟩, i0, i1, i2⟩ := HCC.out _ b1); clear b1) | (go_at_call 69; refine (HBY.out _).mono ?_; rintro r w2 ⟨rfl, b2⟩; have HW2 : Hid (Below ((w.alloc (.cells #[.slice m.oT m.types.length m.cT, .slice m.oI m.imports.length m.cI, .slice m.oF m.funcs.length m.cF, .int .i64 m.table, .int .i64 m.pages, .int .i64 m.most, .slice m.oG m.globals.length m.cG, .slice m.oE m.exports.length m.cE, .int .i64 m.start, .slice m.oL m.elems.length m.cL, .slice m.oD m.data.length m.cD] 30)).alloc (.cells #[.string s, .slice t.o t.n t.cap, .slice v.o v.n v.cap] 80)).heap.size ((w.alloc (.cells #[.slice m.oT m.types.length m.cT, .slice m.oI m.imports.length m.cI, .slice m.oF m.funcs.length m.cF, .int .i64 m.table, .int .i64 m.pages, .int .i64 m.most, .slice m.oG m.globals.length m.cG, .slice m.oE m.exports.length m.cE, .int .i64 m.start, .slice m.oL m.elems.length m.cL, .slice m.oD m.data.length m.cD] 30)).alloc (.cells #[.string s, .slice t.o t.n t.cap, .slice v.o v.n v.cap] 80)) w2) := HW1.out.trans (b2.mono HW1.out.size); have HV2 : Hid (Below w.heap.size w w2) := HV1.out.trans (b2.mono HV1.out.size); (obtain ⟨⟨j0, j1, j2, j3, j4, j5, j6, j7, j8, j9, j10⟩, k0, k1, k2⟩ := HCC.out _ HW2.out); clear b2) | (go_at_call 70; refine (HTB.out _ HV2.out).mono ?_; rintro r w3 ⟨rfl, b3⟩; have HW3 : Hid (Below ((w.alloc (.cells #[.slice m.oT m.types.length m.cT, .slice m.oI m.imports.length m.cI, .slice m.oF m.funcs.length m.cF, .int .i64 m.table, .int .i64 m.pages, .int .i64 m.most, .slice m.oG m.globals.length m.cG, .slice m.oE m.exports.length m.cE, .int .i64 m.start, .slice m.oL m.elems.length m.cL, .slice m.oD m.data.length m.cD] 30)).alloc (.cells #[.string s, .slice t.o t.n t.cap, .slice v.o v.n v.cap] 80)).heap.size ((w.alloc (.cells #[.slice m.oT m.types.length m.cT, .slice m.oI m.imports.length m.cI, .slice m.oF m.funcs.length m.cF, .int .i64 m.table, .int .i64 m.pages, .int .i64 m.most, .slice m.oG m.globals.length m.cG, .slice m.oE m.exports.length m.cE, .int .i64 m.start, .slice m.oL m.elems.length m.cL, .slice m.oD m.data.length m.cD] 30)).alloc (.cells #[.string s, .slice t.o t.n t.cap, .slice v.o v.n v.cap] 80)) w3) := HW2.out.trans (b3.mono HW2.out.size); have HV3 : Hid (Below w.heap.size w w3) := HV2.out.trans (b3.mono HV2.out.size); (obtain ⟨⟨l0, l1, l2, l3, l4, l5, l6, l7, l8, l9, l10⟩, n0, n1, n2⟩ := HCC.out _ HW3.out); clear b3) | (go_at_call 71; refine (HGL.out _ HV3.out).mono ?_; rintro r w4 ⟨rfl, b4⟩; have HV4 : Hid (Below w.heap.size w w4) := HV3.out.trans (b4.mono HV3.out.size); clear b4))
   go_ret
   exact ⟨rfl, HV2.out⟩
  | true =>
   cases et with
   | false =>
    rw [if_neg (by simp)]
    go_enter Tryz.func41, Tryz.ntmps41
    go_wp2_with (first | (go_at_call 17; refine (HMO.out _ HI.out).mono ?_; rintro r w1 ⟨rfl, b1⟩; have HW1 : Hid (Below ((w.alloc (.cells #[.slice m.oT m.types.length m.cT, .slice m.oI m.imports.length m.cI, .slice m.oF m.funcs.length m.cF, .int .i64 m.table, .int .i64 m.pages, .int .i64 m.most, .slice m.oG m.globals.length m.cG, .slice m.oE m.exports.length m.cE, .int .i64 m.start, .slice m.oL m.elems.length m.cL, .slice m.oD m.data.length m.cD] 30)).alloc (.cells #[.string s, .slice t.o t.n t.cap, .slice v.o v.n v.cap] 80)).heap.size ((w.alloc (.cells #[.slice m.oT m.types.length m.cT, .slice m.oI m.imports.length m.cI, .slice m.oF m.funcs.length m.cF, .int .i64 m.table, .int .i64 m.pages, .int .i64 m.most, .slice m.oG m.globals.length m.cG, .slice m.oE m.exports.length m.cE, .int .i64 m.start, .slice m.oL m.elems.length m.cL, .slice m.oD m.data.length m.cD] 30)).alloc (.cells #[.string s, .slice t.o t.n t.cap, .slice v.o v.n v.cap] 80)) w1) := b1; have HV1 : Hid (Below w.heap.size w w1) := HI.out.trans (b1.mono HI.out.size); (obtain ⟨⟨h0, h1, h2, h3, h4, h5, h6, h7, h8, h9, h10⟩, i0, i1, i2⟩ := HCC.out _ b1); clear b1) | (go_at_call 69; refine (HBY.out _).mono ?_; rintro r w2 ⟨rfl, b2⟩; have HW2 : Hid (Below ((w.alloc (.cells #[.slice m.oT m.types.length m.cT, .slice m.oI m.imports.length m.cI, .slice m.oF m.funcs.length m.cF, .int .i64 m.table, .int .i64 m.pages, .int .i64 m.most, .slice m.oG m.globals.length m.cG, .slice m.oE m.exports.length m.cE, .int .i64 m.start, .slice m.oL m.elems.length m.cL, .slice m.oD m.data.length m.cD] 30)).alloc (.cells #[.string s, .slice t.o t.n t.cap, .slice v.o v.n v.cap] 80)).heap.size ((w.alloc (.cells #[.slice m.oT m.types.length m.cT, .slice m.oI m.imports.length m.cI, .slice m.oF m.funcs.length m.cF, .int .i64 m.table, .int .i64 m.pages, .int .i64 m.most, .slice m.oG m.globals.length m.cG, .slice m.oE m.exports.length m.cE, .int .i64 m.start, .slice m.oL m.elems.length m.cL, .slice m.oD m.data.length m.cD] 30)).alloc (.cells #[.string s, .slice t.o t.n t.cap, .slice v.o v.n v.cap] 80)) w2) := HW1.out.trans (b2.mono HW1.out.size); have HV2 : Hid (Below w.heap.size w w2) := HV1.out.trans (b2.mono HV1.out.size); (obtain ⟨⟨j0, j1, j2, j3, j4, j5, j6, j7, j8, j9, j10⟩, k0, k1, k2⟩ := HCC.out _ HW2.out); clear b2) | (go_at_call 70; refine (HTB.out _ HV2.out).mono ?_; rintro r w3 ⟨rfl, b3⟩; have HW3 : Hid (Below ((w.alloc (.cells #[.slice m.oT m.types.length m.cT, .slice m.oI m.imports.length m.cI, .slice m.oF m.funcs.length m.cF, .int .i64 m.table, .int .i64 m.pages, .int .i64 m.most, .slice m.oG m.globals.length m.cG, .slice m.oE m.exports.length m.cE, .int .i64 m.start, .slice m.oL m.elems.length m.cL, .slice m.oD m.data.length m.cD] 30)).alloc (.cells #[.string s, .slice t.o t.n t.cap, .slice v.o v.n v.cap] 80)).heap.size ((w.alloc (.cells #[.slice m.oT m.types.length m.cT, .slice m.oI m.imports.length m.cI, .slice m.oF m.funcs.length m.cF, .int .i64 m.table, .int .i64 m.pages, .int .i64 m.most, .slice m.oG m.globals.length m.cG, .slice m.oE m.exports.length m.cE, .int .i64 m.start, .slice m.oL m.elems.length m.cL, .slice m.oD m.data.length m.cD] 30)).alloc (.cells #[.string s, .slice t.o t.n t.cap, .slice v.o v.n v.cap] 80)) w3) := HW2.out.trans (b3.mono HW2.out.size); have HV3 : Hid (Below w.heap.size w w3) := HV2.out.trans (b3.mono HV2.out.size); (obtain ⟨⟨l0, l1, l2, l3, l4, l5, l6, l7, l8, l9, l10⟩, n0, n1, n2⟩ := HCC.out _ HW3.out); clear b3) | (go_at_call 71; refine (HGL.out _ HV3.out).mono ?_; rintro r w4 ⟨rfl, b4⟩; have HV4 : Hid (Below w.heap.size w w4) := HV3.out.trans (b4.mono HV3.out.size); clear b4))
    go_ret
    exact ⟨rfl, HV3.out⟩
   | true =>
    cases eg with
    | false =>
     rw [if_neg (by simp)]
     go_enter Tryz.func41, Tryz.ntmps41
     go_wp2_with (first | (go_at_call 17; refine (HMO.out _ HI.out).mono ?_; rintro r w1 ⟨rfl, b1⟩; have HW1 : Hid (Below ((w.alloc (.cells #[.slice m.oT m.types.length m.cT, .slice m.oI m.imports.length m.cI, .slice m.oF m.funcs.length m.cF, .int .i64 m.table, .int .i64 m.pages, .int .i64 m.most, .slice m.oG m.globals.length m.cG, .slice m.oE m.exports.length m.cE, .int .i64 m.start, .slice m.oL m.elems.length m.cL, .slice m.oD m.data.length m.cD] 30)).alloc (.cells #[.string s, .slice t.o t.n t.cap, .slice v.o v.n v.cap] 80)).heap.size ((w.alloc (.cells #[.slice m.oT m.types.length m.cT, .slice m.oI m.imports.length m.cI, .slice m.oF m.funcs.length m.cF, .int .i64 m.table, .int .i64 m.pages, .int .i64 m.most, .slice m.oG m.globals.length m.cG, .slice m.oE m.exports.length m.cE, .int .i64 m.start, .slice m.oL m.elems.length m.cL, .slice m.oD m.data.length m.cD] 30)).alloc (.cells #[.string s, .slice t.o t.n t.cap, .slice v.o v.n v.cap] 80)) w1) := b1; have HV1 : Hid (Below w.heap.size w w1) := HI.out.trans (b1.mono HI.out.size); (obtain ⟨⟨h0, h1, h2, h3, h4, h5, h6, h7, h8, h9, h10⟩, i0, i1, i2⟩ := HCC.out _ b1); clear b1) | (go_at_call 69; refine (HBY.out _).mono ?_; rintro r w2 ⟨rfl, b2⟩; have HW2 : Hid (Below ((w.alloc (.cells #[.slice m.oT m.types.length m.cT, .slice m.oI m.imports.length m.cI, .slice m.oF m.funcs.length m.cF, .int .i64 m.table, .int .i64 m.pages, .int .i64 m.most, .slice m.oG m.globals.length m.cG, .slice m.oE m.exports.length m.cE, .int .i64 m.start, .slice m.oL m.elems.length m.cL, .slice m.oD m.data.length m.cD] 30)).alloc (.cells #[.string s, .slice t.o t.n t.cap, .slice v.o v.n v.cap] 80)).heap.size ((w.alloc (.cells #[.slice m.oT m.types.length m.cT, .slice m.oI m.imports.length m.cI, .slice m.oF m.funcs.length m.cF, .int .i64 m.table, .int .i64 m.pages, .int .i64 m.most, .slice m.oG m.globals.length m.cG, .slice m.oE m.exports.length m.cE, .int .i64 m.start, .slice m.oL m.elems.length m.cL, .slice m.oD m.data.length m.cD] 30)).alloc (.cells #[.string s, .slice t.o t.n t.cap, .slice v.o v.n v.cap] 80)) w2) := HW1.out.trans (b2.mono HW1.out.size); have HV2 : Hid (Below w.heap.size w w2) := HV1.out.trans (b2.mono HV1.out.size); (obtain ⟨⟨j0, j1, j2, j3, j4, j5, j6, j7, j8, j9, j10⟩, k0, k1, k2⟩ := HCC.out _ HW2.out); clear b2) | (go_at_call 70; refine (HTB.out _ HV2.out).mono ?_; rintro r w3 ⟨rfl, b3⟩; have HW3 : Hid (Below ((w.alloc (.cells #[.slice m.oT m.types.length m.cT, .slice m.oI m.imports.length m.cI, .slice m.oF m.funcs.length m.cF, .int .i64 m.table, .int .i64 m.pages, .int .i64 m.most, .slice m.oG m.globals.length m.cG, .slice m.oE m.exports.length m.cE, .int .i64 m.start, .slice m.oL m.elems.length m.cL, .slice m.oD m.data.length m.cD] 30)).alloc (.cells #[.string s, .slice t.o t.n t.cap, .slice v.o v.n v.cap] 80)).heap.size ((w.alloc (.cells #[.slice m.oT m.types.length m.cT, .slice m.oI m.imports.length m.cI, .slice m.oF m.funcs.length m.cF, .int .i64 m.table, .int .i64 m.pages, .int .i64 m.most, .slice m.oG m.globals.length m.cG, .slice m.oE m.exports.length m.cE, .int .i64 m.start, .slice m.oL m.elems.length m.cL, .slice m.oD m.data.length m.cD] 30)).alloc (.cells #[.string s, .slice t.o t.n t.cap, .slice v.o v.n v.cap] 80)) w3) := HW2.out.trans (b3.mono HW2.out.size); have HV3 : Hid (Below w.heap.size w w3) := HV2.out.trans (b3.mono HV2.out.size); (obtain ⟨⟨l0, l1, l2, l3, l4, l5, l6, l7, l8, l9, l10⟩, n0, n1, n2⟩ := HCC.out _ HW3.out); clear b3) | (go_at_call 71; refine (HGL.out _ HV3.out).mono ?_; rintro r w4 ⟨rfl, b4⟩; have HV4 : Hid (Below w.heap.size w w4) := HV3.out.trans (b4.mono HV3.out.size); clear b4))
     go_ret
     exact ⟨rfl, HV4.out⟩
    | true =>
     rw [if_pos ⟨rfl, rfl, rfl⟩]
     go_enter Tryz.func41, Tryz.ntmps41
     go_wp2_with (first | (go_at_call 17; refine (HMO.out _ HI.out).mono ?_; rintro r w1 ⟨rfl, b1⟩; have HW1 : Hid (Below ((w.alloc (.cells #[.slice m.oT m.types.length m.cT, .slice m.oI m.imports.length m.cI, .slice m.oF m.funcs.length m.cF, .int .i64 m.table, .int .i64 m.pages, .int .i64 m.most, .slice m.oG m.globals.length m.cG, .slice m.oE m.exports.length m.cE, .int .i64 m.start, .slice m.oL m.elems.length m.cL, .slice m.oD m.data.length m.cD] 30)).alloc (.cells #[.string s, .slice t.o t.n t.cap, .slice v.o v.n v.cap] 80)).heap.size ((w.alloc (.cells #[.slice m.oT m.types.length m.cT, .slice m.oI m.imports.length m.cI, .slice m.oF m.funcs.length m.cF, .int .i64 m.table, .int .i64 m.pages, .int .i64 m.most, .slice m.oG m.globals.length m.cG, .slice m.oE m.exports.length m.cE, .int .i64 m.start, .slice m.oL m.elems.length m.cL, .slice m.oD m.data.length m.cD] 30)).alloc (.cells #[.string s, .slice t.o t.n t.cap, .slice v.o v.n v.cap] 80)) w1) := b1; have HV1 : Hid (Below w.heap.size w w1) := HI.out.trans (b1.mono HI.out.size); (obtain ⟨⟨h0, h1, h2, h3, h4, h5, h6, h7, h8, h9, h10⟩, i0, i1, i2⟩ := HCC.out _ b1); clear b1) | (go_at_call 69; refine (HBY.out _).mono ?_; rintro r w2 ⟨rfl, b2⟩; have HW2 : Hid (Below ((w.alloc (.cells #[.slice m.oT m.types.length m.cT, .slice m.oI m.imports.length m.cI, .slice m.oF m.funcs.length m.cF, .int .i64 m.table, .int .i64 m.pages, .int .i64 m.most, .slice m.oG m.globals.length m.cG, .slice m.oE m.exports.length m.cE, .int .i64 m.start, .slice m.oL m.elems.length m.cL, .slice m.oD m.data.length m.cD] 30)).alloc (.cells #[.string s, .slice t.o t.n t.cap, .slice v.o v.n v.cap] 80)).heap.size ((w.alloc (.cells #[.slice m.oT m.types.length m.cT, .slice m.oI m.imports.length m.cI, .slice m.oF m.funcs.length m.cF, .int .i64 m.table, .int .i64 m.pages, .int .i64 m.most, .slice m.oG m.globals.length m.cG, .slice m.oE m.exports.length m.cE, .int .i64 m.start, .slice m.oL m.elems.length m.cL, .slice m.oD m.data.length m.cD] 30)).alloc (.cells #[.string s, .slice t.o t.n t.cap, .slice v.o v.n v.cap] 80)) w2) := HW1.out.trans (b2.mono HW1.out.size); have HV2 : Hid (Below w.heap.size w w2) := HV1.out.trans (b2.mono HV1.out.size); (obtain ⟨⟨j0, j1, j2, j3, j4, j5, j6, j7, j8, j9, j10⟩, k0, k1, k2⟩ := HCC.out _ HW2.out); clear b2) | (go_at_call 70; refine (HTB.out _ HV2.out).mono ?_; rintro r w3 ⟨rfl, b3⟩; have HW3 : Hid (Below ((w.alloc (.cells #[.slice m.oT m.types.length m.cT, .slice m.oI m.imports.length m.cI, .slice m.oF m.funcs.length m.cF, .int .i64 m.table, .int .i64 m.pages, .int .i64 m.most, .slice m.oG m.globals.length m.cG, .slice m.oE m.exports.length m.cE, .int .i64 m.start, .slice m.oL m.elems.length m.cL, .slice m.oD m.data.length m.cD] 30)).alloc (.cells #[.string s, .slice t.o t.n t.cap, .slice v.o v.n v.cap] 80)).heap.size ((w.alloc (.cells #[.slice m.oT m.types.length m.cT, .slice m.oI m.imports.length m.cI, .slice m.oF m.funcs.length m.cF, .int .i64 m.table, .int .i64 m.pages, .int .i64 m.most, .slice m.oG m.globals.length m.cG, .slice m.oE m.exports.length m.cE, .int .i64 m.start, .slice m.oL m.elems.length m.cL, .slice m.oD m.data.length m.cD] 30)).alloc (.cells #[.string s, .slice t.o t.n t.cap, .slice v.o v.n v.cap] 80)) w3) := HW2.out.trans (b3.mono HW2.out.size); have HV3 : Hid (Below w.heap.size w w3) := HV2.out.trans (b3.mono HV2.out.size); (obtain ⟨⟨l0, l1, l2, l3, l4, l5, l6, l7, l8, l9, l10⟩, n0, n1, n2⟩ := HCC.out _ HW3.out); clear b3) | (go_at_call 71; refine (HGL.out _ HV3.out).mono ?_; rintro r w4 ⟨rfl, b4⟩; have HV4 : Hid (Below w.heap.size w w4) := HV3.out.trans (b4.mono HV3.out.size); clear b4))
     go_ret
     exact ⟨rfl, HV4.out⟩
 ·rw [if_neg hz]
  obtain ⟨E, hE⟩ : ∃ E, modE m = E := ⟨_, rfl⟩
  rw [hE] at HMO hz ⊢
  have hb0 : (E == 0) = false := by rw [beq_eq_false_iff_ne]; exact hz
  have hn0 : (E != 0) = true := by rw [bne, hb0]; rfl
  clear hE hm ht hv hs
  go_enter Tryz.func41, Tryz.ntmps41
  go_wp2_with fail
  refine (HMO.out _ HI.out).mono ?_
  rintro r w1 ⟨rfl, b1⟩
  have HV1 : Hid (Below w.heap.size w w1) := HI.out.trans (b1.mono HI.out.size)
  clear b1 g0 g1 g2 g3 g4 g5 g6 g7 g8 g9 g10 q0 q1 q2
  go_wp2
  go_ret
  exact ⟨rfl, HV1.out⟩
end Go.Proofs.YtoikoijpkchamaaGreatDoor
namespace Go.Proofs.YtoikoijpkchamaaGreatDoor
open Go.RowKit
set_option linter.unusedVariables false
theorem puts_len : ∀ (L : List DatD) (b : List Int), (putsV L b).1 = 0 → (putsV L b).2.length = b.length
 | [], b, _ => rfl
 | d :: L, b, h => by
  unfold putsV at h ⊢
  split at h
  ·rename_i hh
   rw [if_pos hh]
   rw [puts_len L _ h]
   apply length_splice
   unfold hasB at hh
   have := of_decide_eq_true hh
   rw [nums_length]
   omega
  ·exact absurd h (by decide)
theorem mem_splice {l d : List Int} {o : Nat} {x : Int} (h : x ∈ splice l o d) : x ∈ l ∨ x ∈ d := by
 unfold splice at h
 simp only [List.mem_append] at h
 rcases h with h | h | h
 ·exact Or.inl (List.mem_of_mem_take h)
 ·exact Or.inr h
 ·exact Or.inl (List.mem_of_mem_drop h)
theorem tabs_all (P : Int → Prop) : ∀ (L : List EleD) (t : List Int), (∀ d ∈ L, ∀ x ∈ d.f.xs, P x) → (∀ x ∈ t, P x) → (tabsV L t).1 = 0 → ∀ x ∈ (tabsV L t).2, P x
 | [], t, _, ht, _ => ht
 | d :: L, t, hL, ht, h => by
  unfold tabsV at h ⊢
  split at h
  ·rename_i hh
   rw [if_pos hh]
   refine tabs_all P L _ (fun e he => hL e (List.mem_cons_of_mem _ he)) (fun x hx => ?_) h
   rcases mem_splice hx with hx | hx
   ·exact ht x hx
   ·exact hL d (by simp) x hx
  ·exact absurd h (by decide)
theorem ele_there {m : ModD} {w : World} (hm : m.ok w) (h : headErr m = 0) : ∀ d ∈ m.elems, ∀ x ∈ d.f.xs, fnB m x = true := by
 have hc := (head_zero h).1
 have gf := fair_of hm hc
 unfold headErr at h
 rw [if_pos hc] at h
 split at h
 ·have h2 := (fstE_eq0 (fstE_eq0 h).2).2
  have h3 := okE_eq0 (by decide) h2
  rw [Bool.and_eq_true, List.all_eq_true] at h3
  intro d hd x hx
  have h4 := h3.1 d hd
  have h5 := (gf.el d hd).2 x hx
  unfold eleOk at h4
  rw [Bool.and_eq_true, List.all_eq_true] at h4
  have h6 := h4.2 x hx
  unfold fnB
  rw [Bool.and_eq_true]
  exact ⟨decide_eq_true h5, by simpa using h6⟩
 ·exact absurd h (by decide)
theorem zip_own : ∀ L : List GloD, L.zip (L.map GloD.s) = L.map (fun d => (d, d.s))
 | [] => rfl
 | d :: L => by rw [List.map_cons, List.zip_cons_cons, zip_own L, List.map_cons]
theorem glo_first {m : ModD} (h : mChk m = 0) : gloB m (globsV m) = true := by
 unfold gloB globsV
 rw [List.length_map, decide_eq_true rfl, Bool.true_and, List.all_eq_true]
 intro p hp
 have hz := zip_own m.globals
 rw [hz] at hp
 obtain ⟨d, hd, rfl⟩ := List.mem_map.1 hp
 unfold mayB
 dsimp only
 split
 ·have hg : chkGlo d = 0 := by
   unfold mChk at h
   obtain ⟨_, h⟩ := fstE_eq0 h
   obtain ⟨_, h⟩ := fstE_eq0 h
   obtain ⟨_, h⟩ := fstE_eq0 h
   obtain ⟨_, h⟩ := fstE_eq0 h
   obtain ⟨_, h⟩ := fstE_eq0 h
   obtain ⟨_, h⟩ := fstE_eq0 h
   obtain ⟨_, h⟩ := fstE_eq0 h
   obtain ⟨h8, _⟩ := fstE_eq0 h
   exact (chkL_eq0 h8).2 d hd
  have hg2 := okE_eq0 (by decide) (fstE_eq0 hg).2
  apply decide_eq_true
  split
  ·rename_i hk
   rw [Bool.or_eq_true] at hg2
   rcases hg2 with e | e
   ·have : d.k = 126 := by simpa using e
    omega
   ·unfold s32 at e
    rw [Bool.and_eq_true] at e
    have e1 := of_decide_eq_true e.1
    have e2 := of_decide_eq_true e.2
    unfold wrap32
    omega
  ·rfl
 ·exact decide_eq_true rfl
theorem first_fits {m : ModD} {w : World} (hm : m.ok w) (h : makeE m = 0) (k : Nat) : modE m = 0 ∧ (bytsV m).2.length = 256 * m.pages.toNat ∧ ((tablV m).2.length = m.table.toNat → fitsE m ((bytsV m).2.length + 256 * k) (tablV m).2 (globsV m) = if m.pages + (k : Int) ≤ m.most then 0 else 1) := by
 unfold makeE at h
 split at h
 ·rename_i hz
  split at h
  ·rename_i ht
   obtain ⟨hh, _⟩ := mod_zero hz
   have hc := (head_zero hh).1
   obtain ⟨⟨t0, t1⟩, ⟨p0, p1, p2⟩, _, _, _⟩ := mChk_size hc
   have hl : (bytsV m).2.length = 256 * m.pages.toNat := by
    unfold bytsV at h ⊢
    rw [puts_len _ _ h, List.length_replicate]
   refine ⟨hz, hl, fun htl => ?_⟩
   have hg := glo_first hc
   have htab : tabB m (tablV m).2 = true := by
    unfold tabB
    rw [htl, decide_eq_true (by omega), Bool.true_and, List.all_eq_true]
    refine tabs_all (fun x => plcB m x = true) _ _ (fun d hd x hx => ?_) (fun x hx => ?_) ht
    ·unfold plcB
     rw [ele_there hm hh d hd x hx, Bool.or_true]
    ·rw [List.eq_of_mem_replicate hx]
     rfl
   have hb : bytB m ((bytsV m).2.length + 256 * k) = decide (m.pages + (k : Int) ≤ m.most) := by
    unfold bytB
    rw [hl, show (256 * m.pages.toNat + 256 * k) % 256 = 0 by omega, show (256 * m.pages.toNat + 256 * k) / 256 = m.pages.toNat + k by omega, decide_eq_true rfl, Bool.true_and, decide_eq_true (by omega), Bool.true_and]
    congr 1
    simp only [eq_iff_iff]
    omega
   unfold fitsE
   rw [if_pos hz, hb, htab, hg]
   by_cases hk : m.pages + (k : Int) ≤ m.most
   ·rw [if_pos hk, if_pos ⟨decide_eq_true hk, rfl, rfl⟩]
   ·rw [if_neg hk, if_neg (fun e => hk (of_decide_eq_true e.1))]
  ·rename_i ht
   exact absurd h ht
 ·rename_i hz
  exact absurd h hz
end Go.Proofs.YtoikoijpkchamaaGreatDoor
namespace Go.Proofs.YtoikoijpkchamaaGreatDoor
open Go.RowKit
set_option linter.unusedVariables false
theorem bytes_inj5 {s t : ByteArray} (h : s.toList = t.toList) : s = t := by
 rw [ByteArray.toList_eq, ByteArray.toList_eq] at h
 cases s; cases t
 simpa using h
theorem sameImage_any (a b : ByteArray) (t1 t2 g1 g2 : NumD) (w : World) (ht1 : t1.ok .i64 w) (ht2 : t2.ok .i64 w) (hg1 : g1.ok .i64 w) (hg2 : g2.ok .i64 w) :
  Calls Tryz.prog 40 #[.agg #[.string a, .slice t1.o t1.n t1.cap, .slice g1.o g1.n g1.cap], .agg #[.string b, .slice t2.o t2.n t2.cap, .slice g2.o g2.n g2.cap]] w fun r w' => r = .returned (.bool (decide (a = b) && (decide (t1.xs = t2.xs) && decide (g1.xs = g2.xs)))) ∧ Below w.heap.size w w' := by
 have hb : Below w.heap.size w ((w.alloc (.cells #[.string a, .slice t1.o t1.n t1.cap, .slice g1.o g1.n g1.cap] 80)).alloc (.cells #[.string b, .slice t2.o t2.n t2.cap, .slice g2.o g2.n g2.cap] 80)) := ((Below.refl _ _).alloc (Nat.le_refl _) _).alloc (by simp) _
 have HB : Hid (type_of% hb) := hb
 have HT : Hid (Calls Tryz.prog 67 #[.slice t1.o t1.n t1.cap, .slice t2.o t2.n t2.cap] ((w.alloc (.cells #[.string a, .slice t1.o t1.n t1.cap, .slice g1.o g1.n g1.cap] 80)).alloc (.cells #[.string b, .slice t2.o t2.n t2.cap, .slice g2.o g2.n g2.cap] 80)) fun r w' => r = .returned (.bool (decide (t1.xs = t2.xs))) ∧ w' = ((w.alloc (.cells #[.string a, .slice t1.o t1.n t1.cap, .slice g1.o g1.n g1.cap] 80)).alloc (.cells #[.string b, .slice t2.o t2.n t2.cap, .slice g2.o g2.n g2.cap] 80))) := eqB_int _ t1 t2 (ht1.below hb) (ht2.below hb)
 have HG : Hid (Calls Tryz.prog 68 #[.slice g1.o g1.n g1.cap, .slice g2.o g2.n g2.cap] ((w.alloc (.cells #[.string a, .slice t1.o t1.n t1.cap, .slice g1.o g1.n g1.cap] 80)).alloc (.cells #[.string b, .slice t2.o t2.n t2.cap, .slice g2.o g2.n g2.cap] 80)) fun r w' => r = .returned (.bool (decide (g1.xs = g2.xs))) ∧ w' = ((w.alloc (.cells #[.string a, .slice t1.o t1.n t1.cap, .slice g1.o g1.n g1.cap] 80)).alloc (.cells #[.string b, .slice t2.o t2.n t2.cap, .slice g2.o g2.n g2.cap] 80))) := eqB_i64 _ g1 g2 (hg1.below hb) (hg2.below hb)
 have hn1 : ((w.alloc (.cells #[.string a, .slice t1.o t1.n t1.cap, .slice g1.o g1.n g1.cap] 80)).alloc (.cells #[.string b, .slice t2.o t2.n t2.cap, .slice g2.o g2.n g2.cap] 80)).heap[w.heap.size]? = some (.cells #[.string a, .slice t1.o t1.n t1.cap, .slice g1.o g1.n g1.cap] 80 (0, 0)) := (Below.heap_alloc _ _ _ (by simp)).trans (heap_alloc_new w _)
 have hn2 : ((w.alloc (.cells #[.string a, .slice t1.o t1.n t1.cap, .slice g1.o g1.n g1.cap] 80)).alloc (.cells #[.string b, .slice t2.o t2.n t2.cap, .slice g2.o g2.n g2.cap] 80)).heap[w.heap.size + 1]? = some (.cells #[.string b, .slice t2.o t2.n t2.cap, .slice g2.o g2.n g2.cap] 80 (0, 0)) := by
  have h := heap_alloc_new (w.alloc (.cells #[.string a, .slice t1.o t1.n t1.cap, .slice g1.o g1.n g1.cap] 80)) (.cells #[.string b, .slice t2.o t2.n t2.cap, .slice g2.o g2.n g2.cap] 80)
  rw [show (w.alloc (.cells #[.string a, .slice t1.o t1.n t1.cap, .slice g1.o g1.n g1.cap] 80)).heap.size = w.heap.size + 1 by simp] at h
  exact h
 have a0 := cell_at hn1 0 rfl
 have a1 := cell_at hn1 1 rfl
 have a2 := cell_at hn1 2 rfl
 have b0 := cell_at hn2 0 rfl
 have b1 := cell_at hn2 1 rfl
 have b2 := cell_at hn2 2 rfl
 clear hb hn1 hn2 ht1 ht2 hg1 hg2
 generalize decide (t1.xs = t2.xs) = e1 at *
 generalize decide (g1.xs = g2.xs) = e2 at *
 generalize t1.o = o1 at *
 generalize t1.n = n1 at *
 generalize t1.cap = c1 at *
 generalize t2.o = o2 at *
 generalize t2.n = n2 at *
 generalize t2.cap = c2 at *
 generalize g1.o = o3 at *
 generalize g1.n = n3 at *
 generalize g1.cap = c3 at *
 generalize g2.o = o4 at *
 generalize g2.n = n4 at *
 generalize g2.cap = c4 at *
 by_cases hab : a = b
 ·rw [decide_eq_true hab]
  subst hab
  cases e1 with
  | false =>
   go_enter Tryz.func40, Tryz.ntmps40
   go_wp2_with (go_at_call 67; refine HT.out.mono ?_; rintro r w1 ⟨rfl, rfl⟩)
   go_ret
   exact ⟨rfl, HB.out⟩
  | true =>
   go_enter Tryz.func40, Tryz.ntmps40
   go_wp2_with (first | (go_at_call 67; refine HT.out.mono ?_; rintro r w1 ⟨rfl, rfl⟩) | (go_at_call 68; refine HG.out.mono ?_; rintro r w1 ⟨rfl, rfl⟩))
   go_ret
   exact ⟨by simp, HB.out⟩
 ·rw [decide_eq_false hab]
  have hab1 : ¬ a.toList = b.toList := fun e => hab (bytes_inj5 e)
  have hab2 : (a.toList == b.toList) = false := by rw [beq_eq_false_iff_ne]; exact hab1
  have hab3 : decide (a.toList = b.toList) = false := decide_eq_false hab1
  clear hab
  clear a1 a2 b1 b2
  go_enter Tryz.func40, Tryz.ntmps40
  go_wp2
  go_ret
  exact ⟨rfl, HB.out⟩
end Go.Proofs.YtoikoijpkchamaaGreatDoor
namespace Go.Proofs.YtoikoijpkchamaaGreatDoor
open Go.RowKit
set_option linter.unusedVariables false
theorem puts_err : ∀ (L : List DatD) (b : List Int), (putsV L b).1 = 0 ∨ (putsV L b).1 = 23
 | [], _ => Or.inl rfl
 | d :: L, b => by
  unfold putsV
  split
  ·exact puts_err L _
  ·exact Or.inr rfl
theorem tabs_err : ∀ (L : List EleD) (t : List Int), (tabsV L t).1 = 0 ∨ (tabsV L t).1 = 23
 | [], _ => Or.inl rfl
 | d :: L, t => by
  unfold tabsV
  split
  ·exact tabs_err L _
  ·exact Or.inr rfl
theorem make_err {m : ModD} (h0 : makeE m ≠ 0) (h1 : makeE m ≠ 23) : modE m ≠ 0 := fun hz => by
 unfold makeE at h0 h1
 rw [if_pos hz] at h0 h1
 split at h0
 ·rename_i ht
  rw [if_pos ht] at h1
  rcases puts_err m.data (List.replicate (256 * m.pages.toNat) 0) with e | e
  ·exact h0 e
  ·exact h1 e
 ·rename_i ht
  rw [if_neg ht] at h1
  rcases tabs_err m.elems (List.replicate m.table.toNat (-1)) with e | e
  ·exact h0 e
  ·exact h1 e
theorem nil_ok (w : World) : NumD.ok .i64 w ⟨none, 0, 0, []⟩ := ⟨Nat.le_refl _, Nat.zero_le _, rfl, fun _ => rfl, fun x hx => (by cases hx), Or.inl rfl⟩
end Go.Proofs.YtoikoijpkchamaaGreatDoor
