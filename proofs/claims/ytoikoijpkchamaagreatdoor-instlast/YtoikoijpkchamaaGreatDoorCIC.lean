/-
 What an instance has at first: Make.
-/
import Derived.Test.YtoikoijpkchamaaGreatDoorCIB
set_option maxHeartbeats 8000000
set_option maxRecDepth 1000000
namespace Go.Proofs.YtoikoijpkchamaaGreatDoor
open Go.RowKit
set_option linter.unusedVariables false
theorem mChk_size {m : ModD} (h : mChk m = 0) : (0 ≤ m.table ∧ m.table ≤ 16) ∧ (0 ≤ m.pages ∧ m.pages ≤ m.most ∧ m.most ≤ 8) ∧ m.globals.length ≤ 8 ∧ (∀ d ∈ m.elems, (d.f.xs.length : Int) ≤ 16) ∧ ∀ d ∈ m.data, (d.s.size : Int) ≤ 64 ∧ -2147483648 ≤ d.a ∧ d.a ≤ 2147483647 := by
 unfold mChk at h
 obtain ⟨_, h⟩ := fstE_eq0 h
 obtain ⟨_, h⟩ := fstE_eq0 h
 obtain ⟨_, h⟩ := fstE_eq0 h
 obtain ⟨h4, h⟩ := fstE_eq0 h
 obtain ⟨h5, h⟩ := fstE_eq0 h
 obtain ⟨h6, h⟩ := fstE_eq0 h
 obtain ⟨h7, h⟩ := fstE_eq0 h
 obtain ⟨h8, h⟩ := fstE_eq0 h
 obtain ⟨_, h⟩ := fstE_eq0 h
 obtain ⟨_, h⟩ := fstE_eq0 h
 obtain ⟨h11, h12⟩ := fstE_eq0 h
 have e6 := okE_eq0 (by decide) h6
 unfold pgOk at e6
 rw [Bool.and_eq_true] at e6
 refine ⟨⟨of_decide_eq_true (okE_eq0 (by decide) h4), of_decide_eq_true (okE_eq0 (by decide) h5)⟩, ⟨of_decide_eq_true e6.1, of_decide_eq_true e6.2, of_decide_eq_true (okE_eq0 (by decide) h7)⟩, by have := (chkL_eq0 h8).1; omega, fun d hd => ?_, fun d hd => ?_⟩
 ·exact (chkL_eq0 (fstE_eq0 ((chkL_eq0 h11).2 d hd)).2).1
 ·have a := fstE_eq0 ((chkL_eq0 h12).2 d hd)
  have b := okE_eq0 (by decide) a.1
  unfold s32 at b
  rw [Bool.and_eq_true] at b
  exact ⟨of_decide_eq_true (okE_eq0 (by decide) a.2), of_decide_eq_true b.1, of_decide_eq_true b.2⟩
def makeE (m : ModD) : Int := if modE m = 0 then (if (tablV m).1 = 0 then (bytsV m).1 else (tablV m).1) else modE m
def MakeOut (w : World) (m : ModD) (r : Ending) (w' : World) : Prop := Below w.heap.size w w' ∧ (makeE m = 0 → ∃ g g2 : Nat, r = .returned (.tuple #[.agg #[.string (strOfNums (bytsV m).2), .slice (some ⟨g, 0, none⟩) m.table.toNat m.table.toNat, .slice (some ⟨g2, 0, none⟩) m.globals.length m.globals.length], .int .i64 0]) ∧ w.heap.size ≤ g ∧ w.heap.size ≤ g2 ∧ IRow w' g 3 (tablV m).2 ∧ (tablV m).2.length = m.table.toNat ∧ IRow w' g2 2 (globsV m)) ∧ (makeE m ≠ 0 → r = .returned (.tuple #[.agg #[.string ByteArray.empty, .slice none 0 0, .slice none 0 0], .int .i64 (makeE m)]))
theorem infoImg : (Tryz.prog.info? 80).map (·.size) = some (3 : Nat) := by kernel_rfl
theorem img_set {W : World} {I : Nat} {x y z : Value} (a b c : Value) (h : W.heap[I]? = some (.cells #[x, y, z] 80 (0, 0))) : (((W.setCell ⟨I, 0, none⟩ a).setCell ⟨I, 1, none⟩ b).setCell ⟨I, 2, none⟩ c).heap[I]? = some (.cells #[a, b, c] 80 (0, 0)) ∧ Chg I W (((W.setCell ⟨I, 0, none⟩ a).setCell ⟨I, 1, none⟩ b).setCell ⟨I, 2, none⟩ c) ∧ W.frozen? ⟨I, 0, none⟩ = false ∧ W.frozen? ⟨I, 1, none⟩ = false ∧ W.frozen? ⟨I, 2, none⟩ = false := by
 refine ⟨by simp [World.setCell, Array.getElem?_modify, h], (Chg.set _ _ _ _).trans ((Chg.set _ _ _ _).trans (Chg.set _ _ _ _)), by simp [World.frozen?, h], by simp [World.frozen?, h], by simp [World.frozen?, h]⟩
theorem imake (m : ModD) (w : World) (hA : Amb w) (hm : m.ok w) (hg : 2 < w.heap.size) :
  Calls Tryz.prog 38 #[.agg #[.slice m.oT m.types.length m.cT, .slice m.oI m.imports.length m.cI, .slice m.oF m.funcs.length m.cF, .int .i64 m.table, .int .i64 m.pages, .int .i64 m.most, .slice m.oG m.globals.length m.cG, .slice m.oE m.exports.length m.cE, .int .i64 m.start, .slice m.oL m.elems.length m.cL, .slice m.oD m.data.length m.cD]] w (MakeOut w m) := by
 have HMO : Hid (∀ W, Below w.heap.size w W → Calls Tryz.prog 17 #[.agg #[.slice m.oT m.types.length m.cT, .slice m.oI m.imports.length m.cI, .slice m.oF m.funcs.length m.cF, .int .i64 m.table, .int .i64 m.pages, .int .i64 m.most, .slice m.oG m.globals.length m.cG, .slice m.oE m.exports.length m.cE, .int .i64 m.start, .slice m.oL m.elems.length m.cL, .slice m.oD m.data.length m.cD]] W fun r w' => r = .returned (.int .i64 (modE m)) ∧ Below W.heap.size W w') := fun W b => vmodule m W (hA.to (b.mono (by have := hA.2.2; omega))) (hm.below b) (Nat.lt_of_lt_of_le hg b.size)
 have HM : Hid (m.ok w) := hm
 have hb1 : Below w.heap.size w (w.alloc (.cells #[.slice m.oT m.types.length m.cT, .slice m.oI m.imports.length m.cI, .slice m.oF m.funcs.length m.cF, .int .i64 m.table, .int .i64 m.pages, .int .i64 m.most, .slice m.oG m.globals.length m.cG, .slice m.oE m.exports.length m.cE, .int .i64 m.start, .slice m.oL m.elems.length m.cL, .slice m.oD m.data.length m.cD] 30)) := (Below.refl _ _).alloc (Nat.le_refl _) _
 have HB1 : Hid (type_of% hb1) := hb1
 have HS : Hid (∀ w', Below (w.alloc (.cells #[.slice m.oT m.types.length m.cT, .slice m.oI m.imports.length m.cI, .slice m.oF m.funcs.length m.cF, .int .i64 m.table, .int .i64 m.pages, .int .i64 m.most, .slice m.oG m.globals.length m.cG, .slice m.oE m.exports.length m.cE, .int .i64 m.start, .slice m.oL m.elems.length m.cL, .slice m.oD m.data.length m.cD] 30)).heap.size (w.alloc (.cells #[.slice m.oT m.types.length m.cT, .slice m.oI m.imports.length m.cI, .slice m.oF m.funcs.length m.cF, .int .i64 m.table, .int .i64 m.pages, .int .i64 m.most, .slice m.oG m.globals.length m.cG, .slice m.oE m.exports.length m.cE, .int .i64 m.start, .slice m.oL m.elems.length m.cL, .slice m.oD m.data.length m.cD] 30)) w' → w'.cell? ⟨w.heap.size, 0, none⟩ = some (.slice m.oT m.types.length m.cT) ∧ w'.cell? ⟨w.heap.size, 1, none⟩ = some (.slice m.oI m.imports.length m.cI) ∧ w'.cell? ⟨w.heap.size, 2, none⟩ = some (.slice m.oF m.funcs.length m.cF) ∧ w'.cell? ⟨w.heap.size, 3, none⟩ = some (.int .i64 m.table) ∧ w'.cell? ⟨w.heap.size, 4, none⟩ = some (.int .i64 m.pages) ∧ w'.cell? ⟨w.heap.size, 5, none⟩ = some (.int .i64 m.most) ∧ w'.cell? ⟨w.heap.size, 6, none⟩ = some (.slice m.oG m.globals.length m.cG) ∧ w'.cell? ⟨w.heap.size, 7, none⟩ = some (.slice m.oE m.exports.length m.cE) ∧ w'.cell? ⟨w.heap.size, 8, none⟩ = some (.int .i64 m.start) ∧ w'.cell? ⟨w.heap.size, 9, none⟩ = some (.slice m.oL m.elems.length m.cL) ∧ w'.cell? ⟨w.heap.size, 10, none⟩ = some (.slice m.oD m.data.length m.cD)) := fun w' bz => by
  have a1 := (bz.block w.heap.size (by simp)).trans (new_block w (.cells #[.slice m.oT m.types.length m.cT, .slice m.oI m.imports.length m.cI, .slice m.oF m.funcs.length m.cF, .int .i64 m.table, .int .i64 m.pages, .int .i64 m.most, .slice m.oG m.globals.length m.cG, .slice m.oE m.exports.length m.cE, .int .i64 m.start, .slice m.oL m.elems.length m.cL, .slice m.oD m.data.length m.cD] 30))
  exact ⟨cell_at a1 0 rfl, cell_at a1 1 rfl, cell_at a1 2 rfl, cell_at a1 3 rfl, cell_at a1 4 rfl, cell_at a1 5 rfl, cell_at a1 6 rfl, cell_at a1 7 rfl, cell_at a1 8 rfl, cell_at a1 9 rfl, cell_at a1 10 rfl⟩
 obtain ⟨f0, f1, f2, f3, f4, f5, f6, f7, f8, f9, f10⟩ := HS.out _ (Below.refl _ _)
 have hI : Below w.heap.size w ((w.alloc (.cells #[.slice m.oT m.types.length m.cT, .slice m.oI m.imports.length m.cI, .slice m.oF m.funcs.length m.cF, .int .i64 m.table, .int .i64 m.pages, .int .i64 m.most, .slice m.oG m.globals.length m.cG, .slice m.oE m.exports.length m.cE, .int .i64 m.start, .slice m.oL m.elems.length m.cL, .slice m.oD m.data.length m.cD] 30)).alloc (.cells #[.string ByteArray.empty, .slice none 0 0, .slice none 0 0] 80)) := hb1.alloc (by simp) _
 have HI : Hid (type_of% hI) := hI
 have hJ : Below (w.alloc (.cells #[.slice m.oT m.types.length m.cT, .slice m.oI m.imports.length m.cI, .slice m.oF m.funcs.length m.cF, .int .i64 m.table, .int .i64 m.pages, .int .i64 m.most, .slice m.oG m.globals.length m.cG, .slice m.oE m.exports.length m.cE, .int .i64 m.start, .slice m.oL m.elems.length m.cL, .slice m.oD m.data.length m.cD] 30)).heap.size (w.alloc (.cells #[.slice m.oT m.types.length m.cT, .slice m.oI m.imports.length m.cI, .slice m.oF m.funcs.length m.cF, .int .i64 m.table, .int .i64 m.pages, .int .i64 m.most, .slice m.oG m.globals.length m.cG, .slice m.oE m.exports.length m.cE, .int .i64 m.start, .slice m.oL m.elems.length m.cL, .slice m.oD m.data.length m.cD] 30)) ((w.alloc (.cells #[.slice m.oT m.types.length m.cT, .slice m.oI m.imports.length m.cI, .slice m.oF m.funcs.length m.cF, .int .i64 m.table, .int .i64 m.pages, .int .i64 m.most, .slice m.oG m.globals.length m.cG, .slice m.oE m.exports.length m.cE, .int .i64 m.start, .slice m.oL m.elems.length m.cL, .slice m.oD m.data.length m.cD] 30)).alloc (.cells #[.string ByteArray.empty, .slice none 0 0, .slice none 0 0] 80)) := (Below.refl _ _).alloc (Nat.le_refl _) _
 have HJ : Hid (type_of% hJ) := hJ
 have HIB : Hid (∀ W, Below ((w.alloc (.cells #[.slice m.oT m.types.length m.cT, .slice m.oI m.imports.length m.cI, .slice m.oF m.funcs.length m.cF, .int .i64 m.table, .int .i64 m.pages, .int .i64 m.most, .slice m.oG m.globals.length m.cG, .slice m.oE m.exports.length m.cE, .int .i64 m.start, .slice m.oL m.elems.length m.cL, .slice m.oD m.data.length m.cD] 30)).alloc (.cells #[.string ByteArray.empty, .slice none 0 0, .slice none 0 0] 80)).heap.size ((w.alloc (.cells #[.slice m.oT m.types.length m.cT, .slice m.oI m.imports.length m.cI, .slice m.oF m.funcs.length m.cF, .int .i64 m.table, .int .i64 m.pages, .int .i64 m.most, .slice m.oG m.globals.length m.cG, .slice m.oE m.exports.length m.cE, .int .i64 m.start, .slice m.oL m.elems.length m.cL, .slice m.oD m.data.length m.cD] 30)).alloc (.cells #[.string ByteArray.empty, .slice none 0 0, .slice none 0 0] 80)) W → W.heap[w.heap.size + 1]? = some (.cells #[.string ByteArray.empty, .slice none 0 0, .slice none 0 0] 80 (0, 0))) := fun W bW => by
  have h := heap_alloc_new (w.alloc (.cells #[.slice m.oT m.types.length m.cT, .slice m.oI m.imports.length m.cI, .slice m.oF m.funcs.length m.cF, .int .i64 m.table, .int .i64 m.pages, .int .i64 m.most, .slice m.oG m.globals.length m.cG, .slice m.oE m.exports.length m.cE, .int .i64 m.start, .slice m.oL m.elems.length m.cL, .slice m.oD m.data.length m.cD] 30)) (.cells #[.string ByteArray.empty, .slice none 0 0, .slice none 0 0] 80)
  rw [show (w.alloc (.cells #[.slice m.oT m.types.length m.cT, .slice m.oI m.imports.length m.cI, .slice m.oF m.funcs.length m.cF, .int .i64 m.table, .int .i64 m.pages, .int .i64 m.most, .slice m.oG m.globals.length m.cG, .slice m.oE m.exports.length m.cE, .int .i64 m.start, .slice m.oL m.elems.length m.cL, .slice m.oD m.data.length m.cD] 30)).heap.size = w.heap.size + 1 by simp] at h
  exact (bW.block (w.heap.size + 1) (by simp)).trans h
 have HSZ : Hid (((w.alloc (.cells #[.slice m.oT m.types.length m.cT, .slice m.oI m.imports.length m.cI, .slice m.oF m.funcs.length m.cF, .int .i64 m.table, .int .i64 m.pages, .int .i64 m.most, .slice m.oG m.globals.length m.cG, .slice m.oE m.exports.length m.cE, .int .i64 m.start, .slice m.oL m.elems.length m.cL, .slice m.oD m.data.length m.cD] 30)).alloc (.cells #[.string ByteArray.empty, .slice none 0 0, .slice none 0 0] 80)).heap.size = w.heap.size + 2) := by unfold Hid; simp
 obtain ⟨g0, g1, g2, g3, g4, g5, g6, g7, g8, g9, g10⟩ := HS.out _ hJ
 clear hb1 hm hA hI hJ f0 f1 f2 f3 f4 f5 f6 f7 f8 f9 f10 hg
 by_cases hz : modE m = 0
 ·have hc := (head_zero (mod_zero hz).1).1
  obtain ⟨⟨t0, t1⟩, ⟨p0, p1, p2⟩, gl, el, _⟩ := mChk_size hc
  have HTB : Hid (∀ W, Below w.heap.size w W → Calls Tryz.prog 64 #[.agg #[.slice m.oT m.types.length m.cT, .slice m.oI m.imports.length m.cI, .slice m.oF m.funcs.length m.cF, .int .i64 m.table, .int .i64 m.pages, .int .i64 m.most, .slice m.oG m.globals.length m.cG, .slice m.oE m.exports.length m.cE, .int .i64 m.start, .slice m.oL m.elems.length m.cL, .slice m.oD m.data.length m.cD]] W (TabOut W m.table.toNat (tablV m))) := fun W b => itable m W (HM.out.below b) m.table.toNat (by omega) (by omega) (fun d hd => by have h1 := el d hd; have h2 := ((HM.out.elems.all d hd).2).len; omega)
  have HBT : Hid (∀ W, Below w.heap.size w W → Calls Tryz.prog 65 #[.agg #[.slice m.oT m.types.length m.cT, .slice m.oI m.imports.length m.cI, .slice m.oF m.funcs.length m.cF, .int .i64 m.table, .int .i64 m.pages, .int .i64 m.most, .slice m.oG m.globals.length m.cG, .slice m.oE m.exports.length m.cE, .int .i64 m.start, .slice m.oL m.elems.length m.cL, .slice m.oD m.data.length m.cD]] W fun r w' => r = .returned (.tuple #[.string (strOfNums (bytsV m).2), .int .i64 (bytsV m).1]) ∧ Below W.heap.size W w') := fun W b => ibytes m W (HM.out.below b) p0 p1 p2
  have HGT : Hid (∀ W, Below w.heap.size w W → Calls Tryz.prog 66 #[.agg #[.slice m.oT m.types.length m.cT, .slice m.oI m.imports.length m.cI, .slice m.oF m.funcs.length m.cF, .int .i64 m.table, .int .i64 m.pages, .int .i64 m.most, .slice m.oG m.globals.length m.cG, .slice m.oE m.exports.length m.cE, .int .i64 m.start, .slice m.oL m.elems.length m.cL, .slice m.oD m.data.length m.cD]] W fun r w' => ∃ g, r = .returned (.slice (some ⟨g, 0, none⟩) m.globals.length m.globals.length) ∧ W.heap.size ≤ g ∧ IRow w' g 2 (globsV m) ∧ Below W.heap.size W w') := fun W b => iglobals m W (HM.out.below b) gl
  have HE : Hid (makeE m = if (tablV m).1 = 0 then (bytsV m).1 else (tablV m).1) := if_pos hz
  rw [hz] at HMO
  clear hz hc t0 t1 p0 p1 p2 gl el
  unfold MakeOut
  obtain ⟨⟨TE, TL⟩, hT⟩ : ∃ x, tablV m = x := ⟨_, rfl⟩
  obtain ⟨⟨BE, BL⟩, hB⟩ : ∃ x, bytsV m = x := ⟨_, rfl⟩
  rw [hT] at HTB HE ⊢
  rw [hB] at HBT HE ⊢
  clear hT hB
  dsimp only at HBT HE ⊢
  go_enter Tryz.func38, Tryz.ntmps38
  go_wp2_with fail
  refine (HMO.out _ HI.out).mono ?_
  rintro r w1 ⟨rfl, b1⟩
  have HW1 : Hid (Below ((w.alloc (.cells #[.slice m.oT m.types.length m.cT, .slice m.oI m.imports.length m.cI, .slice m.oF m.funcs.length m.cF, .int .i64 m.table, .int .i64 m.pages, .int .i64 m.most, .slice m.oG m.globals.length m.cG, .slice m.oE m.exports.length m.cE, .int .i64 m.start, .slice m.oL m.elems.length m.cL, .slice m.oD m.data.length m.cD] 30)).alloc (.cells #[.string ByteArray.empty, .slice none 0 0, .slice none 0 0] 80)).heap.size ((w.alloc (.cells #[.slice m.oT m.types.length m.cT, .slice m.oI m.imports.length m.cI, .slice m.oF m.funcs.length m.cF, .int .i64 m.table, .int .i64 m.pages, .int .i64 m.most, .slice m.oG m.globals.length m.cG, .slice m.oE m.exports.length m.cE, .int .i64 m.start, .slice m.oL m.elems.length m.cL, .slice m.oD m.data.length m.cD] 30)).alloc (.cells #[.string ByteArray.empty, .slice none 0 0, .slice none 0 0] 80)) w1) := b1
  have HB1' : Hid (Below w.heap.size w w1) := HI.out.trans (b1.mono HI.out.size)
  clear b1 g0 g1 g2 g3 g4 g5 g6 g7 g8 g9 g10
  obtain ⟨g0, g1, g2, g3, g4, g5, g6, g7, g8, g9, g10⟩ := HS.out _ (HJ.out.trans (HW1.out.mono HJ.out.size))
  go_wp2_with fail
  refine (HTB.out _ HB1'.out).mono ?_
  rintro r w2 ⟨b2, hy, hn⟩
  have HW2 : Hid (Below ((w.alloc (.cells #[.slice m.oT m.types.length m.cT, .slice m.oI m.imports.length m.cI, .slice m.oF m.funcs.length m.cF, .int .i64 m.table, .int .i64 m.pages, .int .i64 m.most, .slice m.oG m.globals.length m.cG, .slice m.oE m.exports.length m.cE, .int .i64 m.start, .slice m.oL m.elems.length m.cL, .slice m.oD m.data.length m.cD] 30)).alloc (.cells #[.string ByteArray.empty, .slice none 0 0, .slice none 0 0] 80)).heap.size ((w.alloc (.cells #[.slice m.oT m.types.length m.cT, .slice m.oI m.imports.length m.cI, .slice m.oF m.funcs.length m.cF, .int .i64 m.table, .int .i64 m.pages, .int .i64 m.most, .slice m.oG m.globals.length m.cG, .slice m.oE m.exports.length m.cE, .int .i64 m.start, .slice m.oL m.elems.length m.cL, .slice m.oD m.data.length m.cD] 30)).alloc (.cells #[.string ByteArray.empty, .slice none 0 0, .slice none 0 0] 80)) w2) := HW1.out.trans (b2.mono HW1.out.size)
  have HB2' : Hid (Below w.heap.size w w2) := HB1'.out.trans (b2.mono HB1'.out.size)
  clear g0 g1 g2 g3 g4 g5 g6 g7 g8 g9 g10
  by_cases hTE : TE = 0
  ·subst hTE
   obtain ⟨g, rfl, hgl, hrow, hlen⟩ := hy rfl
   have HRW : Hid (IRow w2 g 3 TL) := hrow
   have HGL : Hid (w.heap.size + 2 ≤ g) := by have h1 := HW1.out.size; have h2 := HSZ.out; unfold Hid; omega
   have HLN : Hid (TL.length = m.table.toNat) := hlen
   have HE2 : Hid (makeE m = BE) := HE.out
   clear hy hn hrow hgl hlen HTB HMO b2 HE
   obtain ⟨g0, g1, g2, g3, g4, g5, g6, g7, g8, g9, g10⟩ := HS.out _ (HJ.out.trans (HW2.out.mono HJ.out.size))
   go_wp2_with fail
   refine (HBT.out _ HB2'.out).mono ?_
   rintro r w3 ⟨rfl, b3⟩
   have HW3 : Hid (Below ((w.alloc (.cells #[.slice m.oT m.types.length m.cT, .slice m.oI m.imports.length m.cI, .slice m.oF m.funcs.length m.cF, .int .i64 m.table, .int .i64 m.pages, .int .i64 m.most, .slice m.oG m.globals.length m.cG, .slice m.oE m.exports.length m.cE, .int .i64 m.start, .slice m.oL m.elems.length m.cL, .slice m.oD m.data.length m.cD] 30)).alloc (.cells #[.string ByteArray.empty, .slice none 0 0, .slice none 0 0] 80)).heap.size ((w.alloc (.cells #[.slice m.oT m.types.length m.cT, .slice m.oI m.imports.length m.cI, .slice m.oF m.funcs.length m.cF, .int .i64 m.table, .int .i64 m.pages, .int .i64 m.most, .slice m.oG m.globals.length m.cG, .slice m.oE m.exports.length m.cE, .int .i64 m.start, .slice m.oL m.elems.length m.cL, .slice m.oD m.data.length m.cD] 30)).alloc (.cells #[.string ByteArray.empty, .slice none 0 0, .slice none 0 0] 80)) w3) := HW2.out.trans (b3.mono HW2.out.size)
   have HB3' : Hid (Below w.heap.size w w3) := HB2'.out.trans (b3.mono HB2'.out.size)
   have HRW3 : Hid (IRow w3 g 3 TL) := HRW.out.under b3
   clear g0 g1 g2 g3 g4 g5 g6 g7 g8 g9 g10 b3 HBT HRW
   by_cases hBE : BE = 0
   ·subst hBE
    obtain ⟨g0, g1, g2, g3, g4, g5, g6, g7, g8, g9, g10⟩ := HS.out _ (HJ.out.trans (HW3.out.mono HJ.out.size))
    go_wp2_with fail
    refine (HGT.out _ HB3'.out).mono ?_
    rintro r w4 ⟨g', rfl, hgl, hrow, b4⟩
    have HW4 : Hid (Below ((w.alloc (.cells #[.slice m.oT m.types.length m.cT, .slice m.oI m.imports.length m.cI, .slice m.oF m.funcs.length m.cF, .int .i64 m.table, .int .i64 m.pages, .int .i64 m.most, .slice m.oG m.globals.length m.cG, .slice m.oE m.exports.length m.cE, .int .i64 m.start, .slice m.oL m.elems.length m.cL, .slice m.oD m.data.length m.cD] 30)).alloc (.cells #[.string ByteArray.empty, .slice none 0 0, .slice none 0 0] 80)).heap.size ((w.alloc (.cells #[.slice m.oT m.types.length m.cT, .slice m.oI m.imports.length m.cI, .slice m.oF m.funcs.length m.cF, .int .i64 m.table, .int .i64 m.pages, .int .i64 m.most, .slice m.oG m.globals.length m.cG, .slice m.oE m.exports.length m.cE, .int .i64 m.start, .slice m.oL m.elems.length m.cL, .slice m.oD m.data.length m.cD] 30)).alloc (.cells #[.string ByteArray.empty, .slice none 0 0, .slice none 0 0] 80)) w4) := HW3.out.trans (b4.mono HW3.out.size)
    have HB4' : Hid (Below w.heap.size w w4) := HB3'.out.trans (b4.mono HB3'.out.size)
    have hi := HIB.out _ HW4.out
    have q0 := cell_at hi 0 rfl
    have q1 := cell_at hi 1 rfl
    have q2 := cell_at hi 2 rfl
    obtain ⟨s1, s2, s3, s4, s5⟩ := img_set (.string (strOfNums BL)) (.slice (some ⟨g, 0, none⟩) m.table.toNat m.table.toNat) (.slice (some ⟨g', 0, none⟩) m.globals.length m.globals.length) hi
    have HS1 : Hid (type_of% s1) := s1
    have HFN : Hid (Below w.heap.size w (((w4.setCell ⟨w.heap.size + 1, 0, none⟩ (.string (strOfNums BL))).setCell ⟨w.heap.size + 1, 1, none⟩ (.slice (some ⟨g, 0, none⟩) m.table.toNat m.table.toNat)).setCell ⟨w.heap.size + 1, 2, none⟩ (.slice (some ⟨g', 0, none⟩) m.globals.length m.globals.length))) := HB4'.out.trans (s2.below (by omega) (by have := HB4'.out.size; omega))
    have HR4 : Hid (IRow (((w4.setCell ⟨w.heap.size + 1, 0, none⟩ (.string (strOfNums BL))).setCell ⟨w.heap.size + 1, 1, none⟩ (.slice (some ⟨g, 0, none⟩) m.table.toNat m.table.toNat)).setCell ⟨w.heap.size + 1, 2, none⟩ (.slice (some ⟨g', 0, none⟩) m.globals.length m.globals.length)) g 3 TL) := (HRW3.out.under b4).chg s2 (by have := HGL.out; omega)
    have HR5 : Hid (IRow (((w4.setCell ⟨w.heap.size + 1, 0, none⟩ (.string (strOfNums BL))).setCell ⟨w.heap.size + 1, 1, none⟩ (.slice (some ⟨g, 0, none⟩) m.table.toNat m.table.toNat)).setCell ⟨w.heap.size + 1, 2, none⟩ (.slice (some ⟨g', 0, none⟩) m.globals.length m.globals.length)) g' 2 (globsV m)) := hrow.chg s2 (by have h1 := HB3'.out.size; have h2 := HW3.out.size; have h3 := HSZ.out; omega)
    have HG5 : Hid (w.heap.size ≤ g') := by have h1 := HB3'.out.size; unfold Hid; omega
    clear b4 hi s1 s2 hgl hrow g0 g1 g2 g3 g4 g5 g6 g7 g8 g9 g10 HGT HRW3
    go_wp2
    refine bodyPost_ret (results_row_tmp rfl _ _ (w.heap.size + 1) 80 _ (0, 0) _ rfl HS1.out Tryz.underlying80 rfl infoImg _ rfl) rfl ?_
    exact ⟨HFN.out, fun _ => ⟨g, g', rfl, by have := HGL.out; omega, HG5.out, HR4.out, HLN.out, HR5.out⟩, fun e => absurd HE2.out e⟩
   ·have hb0 : (BE == 0) = false := by rw [beq_eq_false_iff_ne]; exact hBE
    have hn0 : (BE != 0) = true := by rw [bne, hb0]; rfl
    have hi := HIB.out _ HW3.out
    have q0 := cell_at hi 0 rfl
    have q1 := cell_at hi 1 rfl
    have q2 := cell_at hi 2 rfl
    obtain ⟨s1, s2, s3, s4, s5⟩ := img_set (.string ByteArray.empty) (.slice none 0 0) (.slice none 0 0) hi
    have HS1 : Hid (type_of% s1) := s1
    have HFN : Hid (Below w.heap.size w (((w3.setCell ⟨w.heap.size + 1, 0, none⟩ (.string ByteArray.empty)).setCell ⟨w.heap.size + 1, 1, none⟩ (.slice none 0 0)).setCell ⟨w.heap.size + 1, 2, none⟩ (.slice none 0 0))) := HB3'.out.trans (s2.below (by omega) (by have := HB3'.out.size; omega))
    have HNE : Hid (BE ≠ 0) := hBE
    clear hi s1 s2 hBE
    go_wp2
    refine bodyPost_ret (results_row_tmp rfl _ _ (w.heap.size + 1) 80 _ (0, 0) _ rfl HS1.out Tryz.underlying80 rfl infoImg _ rfl) rfl ?_
    exact ⟨HFN.out, fun e => absurd (HE2.out.symm.trans e) HNE.out, fun _ => by rw [HE2.out]; rfl⟩
  ·have hr := hn hTE
   dsimp only at hr
   subst hr
   have hb0 : (TE == 0) = false := by rw [beq_eq_false_iff_ne]; exact hTE
   have hn0 : (TE != 0) = true := by rw [bne, hb0]; rfl
   have HE2 : Hid (makeE m = TE) := HE.out.trans (if_neg hTE)
   clear hy hn HTB HMO b2 HBT HGT HE
   have hi := HIB.out _ HW2.out
   have q0 := cell_at hi 0 rfl
   have q1 := cell_at hi 1 rfl
   have q2 := cell_at hi 2 rfl
   obtain ⟨s1, s2, s3, s4, s5⟩ := img_set (.string ByteArray.empty) (.slice none 0 0) (.slice none 0 0) hi
   have HS1 : Hid (type_of% s1) := s1
   have HFN : Hid (Below w.heap.size w (((w2.setCell ⟨w.heap.size + 1, 0, none⟩ (.string ByteArray.empty)).setCell ⟨w.heap.size + 1, 1, none⟩ (.slice none 0 0)).setCell ⟨w.heap.size + 1, 2, none⟩ (.slice none 0 0))) := HB2'.out.trans (s2.below (by omega) (by have := HB2'.out.size; omega))
   have HNE : Hid (TE ≠ 0) := hTE
   clear hi s1 s2 hTE
   go_wp2
   refine bodyPost_ret (results_row_tmp rfl _ _ (w.heap.size + 1) 80 _ (0, 0) _ rfl HS1.out Tryz.underlying80 rfl infoImg _ rfl) rfl ?_
   exact ⟨HFN.out, fun e => absurd (HE2.out.symm.trans e) HNE.out, fun _ => by rw [HE2.out]; rfl⟩
 ·have HE2 : Hid (makeE m = modE m) := if_neg hz
  obtain ⟨ME, hME⟩ : ∃ x, modE m = x := ⟨_, rfl⟩
  rw [hME] at HMO HE2 hz
  clear hME
  have hb0 : (ME == 0) = false := by rw [beq_eq_false_iff_ne]; exact hz
  have hn0 : (ME != 0) = true := by rw [bne, hb0]; rfl
  go_enter Tryz.func38, Tryz.ntmps38
  go_wp2_with fail
  refine (HMO.out _ HI.out).mono ?_
  rintro r w1 ⟨rfl, b1⟩
  have HW1 : Hid (Below ((w.alloc (.cells #[.slice m.oT m.types.length m.cT, .slice m.oI m.imports.length m.cI, .slice m.oF m.funcs.length m.cF, .int .i64 m.table, .int .i64 m.pages, .int .i64 m.most, .slice m.oG m.globals.length m.cG, .slice m.oE m.exports.length m.cE, .int .i64 m.start, .slice m.oL m.elems.length m.cL, .slice m.oD m.data.length m.cD] 30)).alloc (.cells #[.string ByteArray.empty, .slice none 0 0, .slice none 0 0] 80)).heap.size ((w.alloc (.cells #[.slice m.oT m.types.length m.cT, .slice m.oI m.imports.length m.cI, .slice m.oF m.funcs.length m.cF, .int .i64 m.table, .int .i64 m.pages, .int .i64 m.most, .slice m.oG m.globals.length m.cG, .slice m.oE m.exports.length m.cE, .int .i64 m.start, .slice m.oL m.elems.length m.cL, .slice m.oD m.data.length m.cD] 30)).alloc (.cells #[.string ByteArray.empty, .slice none 0 0, .slice none 0 0] 80)) w1) := b1
  have HB1' : Hid (Below w.heap.size w w1) := HI.out.trans (b1.mono HI.out.size)
  clear b1 g0 g1 g2 g3 g4 g5 g6 g7 g8 g9 g10
  have hi := HIB.out _ HW1.out
  have q0 := cell_at hi 0 rfl
  have q1 := cell_at hi 1 rfl
  have q2 := cell_at hi 2 rfl
  obtain ⟨s1, s2, s3, s4, s5⟩ := img_set (.string ByteArray.empty) (.slice none 0 0) (.slice none 0 0) hi
  have HS1 : Hid (type_of% s1) := s1
  have HFN : Hid (Below w.heap.size w (((w1.setCell ⟨w.heap.size + 1, 0, none⟩ (.string ByteArray.empty)).setCell ⟨w.heap.size + 1, 1, none⟩ (.slice none 0 0)).setCell ⟨w.heap.size + 1, 2, none⟩ (.slice none 0 0))) := HB1'.out.trans (s2.below (by omega) (by have := HB1'.out.size; omega))
  have HNE : Hid (ME ≠ 0) := hz
  clear hi s1 s2 hz
  go_wp2
  refine bodyPost_ret (results_row_tmp rfl _ _ (w.heap.size + 1) 80 _ (0, 0) _ rfl HS1.out Tryz.underlying80 rfl infoImg _ rfl) rfl ?_
  exact ⟨HFN.out, fun e => absurd (HE2.out.symm.trans e) HNE.out, fun _ => by rw [HE2.out]; rfl⟩
end Go.Proofs.YtoikoijpkchamaaGreatDoor
