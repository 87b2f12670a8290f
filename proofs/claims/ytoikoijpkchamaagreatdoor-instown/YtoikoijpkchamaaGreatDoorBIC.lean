/-
 What an instance has at first: Make.
 Whether an instance may have a memory and a table.
 Whether an instance may have an image.
 Whether an instance may have an image: its globals; Fits.
-/
import Derived.Test.YtoikoijpkchamaaGreatDoorBIB
import Derived.Test.YtoikoijpkchamaaGreatDoorBPFit
set_option maxHeartbeats 8000000
set_option maxRecDepth 1000000
namespace Go.Proofs.YtoikoijpkchamaaGreatDoor
open Go.RowKit
set_option linter.unusedVariables false
theorem mChk_size {m : ModD} (h : mChk m = 0) : (0 ≤ m.table ∧ m.table ≤ 16) ∧ (0 ≤ m.pages ∧ m.pages ≤ m.most ∧ m.most ≤ 8) ∧ m.globals.length ≤ 8 ∧ (∀ d ∈ m.elems, (d.f.xs.length : Int) ≤ 16) ∧ ∀ d ∈ m.data, (d.s.size : Int) ≤ 64 ∧ -2147483648 ≤ d.a ∧ d.a ≤ 2147483647 := by
 unfold mChk at h
 obtain ⟨_, h⟩ := fstE_eq0 h
 obtain ⟨_, h⟩ := fstE_eq0 h
 obtain ⟨_, h⟩ := fstE_eq0 h
 obtain ⟨h4, h⟩ := fstE_eq0 h
 obtain ⟨h5, h⟩ := fstE_eq0 h
 obtain ⟨h6, h⟩ := fstE_eq0 h
 obtain ⟨h7, h⟩ := fstE_eq0 h
 obtain ⟨h8, h⟩ := fstE_eq0 h
 obtain ⟨_, h⟩ := fstE_eq0 h
 obtain ⟨_, h⟩ := fstE_eq0 h
 obtain ⟨h11, h12⟩ := fstE_eq0 h
 have e6 := okE_eq0 (by decide) h6
 unfold pgOk at e6
 rw [Bool.and_eq_true] at e6
 refine ⟨⟨of_decide_eq_true (okE_eq0 (by decide) h4), of_decide_eq_true (okE_eq0 (by decide) h5)⟩, ⟨of_decide_eq_true e6.1, of_decide_eq_true e6.2, of_decide_eq_true (okE_eq0 (by decide) h7)⟩, by have := (chkL_eq0 h8).1; omega, fun d hd => ?_, fun d hd => ?_⟩
 ·exact (chkL_eq0 (fstE_eq0 ((chkL_eq0 h11).2 d hd)).2).1
 ·have a := fstE_eq0 ((chkL_eq0 h12).2 d hd)
  have b := okE_eq0 (by decide) a.1
  unfold s32 at b
  rw [Bool.and_eq_true] at b
  exact ⟨of_decide_eq_true (okE_eq0 (by decide) a.2), of_decide_eq_true b.1, of_decide_eq_true b.2⟩
def makeE (m : ModD) : Int := if modE m = 0 then (if (tablV m).1 = 0 then (bytsV m).1 else (tablV m).1) else modE m
def MakeOut (w : World) (m : ModD) (r : Ending) (w' : World) : Prop := Below w.heap.size w w' ∧ (makeE m = 0 → ∃ g g2 : Nat, r = .returned (.tuple #[.agg #[.string (strOfNums (bytsV m).2), .slice (some ⟨g, 0, none⟩) m.table.toNat m.table.toNat, .slice (some ⟨g2, 0, none⟩) m.globals.length m.globals.length], .int .i64 0]) ∧ w.heap.size ≤ g ∧ w.heap.size ≤ g2 ∧ IRow w' g 3 (tablV m).2 ∧ (tablV m).2.length = m.table.toNat ∧ IRow w' g2 2 (globsV m)) ∧ (makeE m ≠ 0 → r = .returned (.tuple #[.agg #[.string ByteArray.empty, .slice none 0 0, .slice none 0 0], .int .i64 (makeE m)]))
theorem infoImg : (Tryz.prog.info? 80).map (·.size) = some (3 : Nat) := by kernel_rfl
theorem img_set {W : World} {I : Nat} {x y z : Value} (a b c : Value) (h : W.heap[I]? = some (.cells #[x, y, z] 80 (0, 0))) : (((W.setCell ⟨I, 0, none⟩ a).setCell ⟨I, 1, none⟩ b).setCell ⟨I, 2, none⟩ c).heap[I]? = some (.cells #[a, b, c] 80 (0, 0)) ∧ Chg I W (((W.setCell ⟨I, 0, none⟩ a).setCell ⟨I, 1, none⟩ b).setCell ⟨I, 2, none⟩ c) ∧ W.frozen? ⟨I, 0, none⟩ = false ∧ W.frozen? ⟨I, 1, none⟩ = false ∧ W.frozen? ⟨I, 2, none⟩ = false := by
 refine ⟨by simp [World.setCell, Array.getElem?_modify, h], (Chg.set _ _ _ _).trans ((Chg.set _ _ _ _).trans (Chg.set _ _ _ _)), by simp [World.frozen?, h], by simp [World.frozen?, h], by simp [World.frozen?, h]⟩
theorem imake (m : ModD) (w : World) (hA : Amb w) (hm : m.ok w) (hg : 2 < w.heap.size) :
  Calls Tryz.prog 38 #[.agg #[.slice m.oT m.types.length m.cT, .slice m.oI m.imports.length m.cI, .slice m.oF m.funcs.length m.cF, .int .i64 m.table, .int .i64 m.pages, .int .i64 m.most, .slice m.oG m.globals.length m.cG, .slice m.oE m.exports.length m.cE, .int .i64 m.start, .slice m.oL m.elems.length m.cL, .slice m.oD m.data.length m.cD]] w (MakeOut w m) := by
 have HMO : Hid (∀ W, Below w.heap.size w W → Calls Tryz.prog 17 #[.agg #[.slice m.oT m.types.length m.cT, .slice m.oI m.imports.length m.cI, .slice m.oF m.funcs.length m.cF, .int .i64 m.table, .int .i64 m.pages, .int .i64 m.most, .slice m.oG m.globals.length m.cG, .slice m.oE m.exports.length m.cE, .int .i64 m.start, .slice m.oL m.elems.length m.cL, .slice m.oD m.data.length m.cD]] W fun r w' => r = .returned (.int .i64 (modE m)) ∧ Below W.heap.size W w') := fun W b => vmodule m W (hA.to (b.mono (by have := hA.2.2; omega))) (hm.below b) (Nat.lt_of_lt_of_le hg b.size)
 have HM : Hid (m.ok w) := hm
 have hb1 : Below w.heap.size w (w.alloc (.cells #[.slice m.oT m.types.length m.cT, .slice m.oI m.imports.length m.cI, .slice m.oF m.funcs.length m.cF, .int .i64 m.table, .int .i64 m.pages, .int .i64 m.most, .slice m.oG m.globals.length m.cG, .slice m.oE m.exports.length m.cE, .int .i64 m.start, .slice m.oL m.elems.length m.cL, .slice m.oD m.data.length m.cD] 30)) := (Below.refl _ _).alloc (Nat.le_refl _) _
 have HB1 : Hid (type_of% hb1) := hb1
 have HS : Hid (∀ w', Below (w.alloc (.cells #[.slice m.oT m.types.length m.cT, .slice m.oI m.imports.length m.cI, .slice m.oF m.funcs.length m.cF, .int .i64 m.table, .int .i64 m.pages, .int .i64 m.most, .slice m.oG m.globals.length m.cG, .slice m.oE m.exports.length m.cE, .int .i64 m.start, .slice m.oL m.elems.length m.cL, .slice m.oD m.data.length m.cD] 30)).heap.size (w.alloc (.cells #[.slice m.oT m.types.length m.cT, .slice m.oI m.imports.length m.cI, .slice m.oF m.funcs.length m.cF, .int .i64 m.table, .int .i64 m.pages, .int .i64 m.most, .slice m.oG m.globals.length m.cG, .slice m.oE m.exports.length m.cE, .int .i64 m.start, .slice m.oL m.elems.length m.cL, .slice m.oD m.data.length m.cD] 30)) w' → w'.cell? ⟨w.heap.size, 0, none⟩ = some (.slice m.oT m.types.length m.cT) ∧ w'.cell? ⟨w.heap.size, 1, none⟩ = some (.slice m.oI m.imports.length m.cI) ∧ w'.cell? ⟨w.heap.size, 2, none⟩ = some (.slice m.oF m.funcs.length m.cF) ∧ w'.cell? ⟨w.heap.size, 3, none⟩ = some (.int .i64 m.table) ∧ w'.cell? ⟨w.heap.size, 4, none⟩ = some (.int .i64 m.pages) ∧ w'.cell? ⟨w.heap.size, 5, none⟩ = some (.int .i64 m.most) ∧ w'.cell? ⟨w.heap.size, 6, none⟩ = some (.slice m.oG m.globals.length m.cG) ∧ w'.cell? ⟨w.heap.size, 7, none⟩ = some (.slice m.oE m.exports.length m.cE) ∧ w'.cell? ⟨w.heap.size, 8, none⟩ = some (.int .i64 m.start) ∧ w'.cell? ⟨w.heap.size, 9, none⟩ = some (.slice m.oL m.elems.length m.cL) ∧ w'.cell? ⟨w.heap.size, 10, none⟩ = some (.slice m.oD m.data.length m.cD)) := fun w' bz => by
  have a1 := (bz.block w.heap.size (by simp)).trans (new_block w (.cells #[.slice m.oT m.types.length m.cT, .slice m.oI m.imports.length m.cI, .slice m.oF m.funcs.length m.cF, .int .i64 m.table, .int .i64 m.pages, .int .i64 m.most, .slice m.oG m.globals.length m.cG, .slice m.oE m.exports.length m.cE, .int .i64 m.start, .slice m.oL m.elems.length m.cL, .slice m.oD m.data.length m.cD] 30))
  exact ⟨cell_at a1 0 rfl, cell_at a1 1 rfl, cell_at a1 2 rfl, cell_at a1 3 rfl, cell_at a1 4 rfl, cell_at a1 5 rfl, cell_at a1 6 rfl, cell_at a1 7 rfl, cell_at a1 8 rfl, cell_at a1 9 rfl, cell_at a1 10 rfl⟩
 obtain ⟨f0, f1, f2, f3, f4, f5, f6, f7, f8, f9, f10⟩ := HS.out _ (Below.refl _ _)
 have hI : Below w.heap.size w ((w.alloc (.cells #[.slice m.oT m.types.length m.cT, .slice m.oI m.imports.length m.cI, .slice m.oF m.funcs.length m.cF, .int .i64 m.table, .int .i64 m.pages, .int .i64 m.most, .slice m.oG m.globals.length m.cG, .slice m.oE m.exports.length m.cE, .int .i64 m.start, .slice m.oL m.elems.length m.cL, .slice m.oD m.data.length m.cD] 30)).alloc (.cells #[.string ByteArray.empty, .slice none 0 0, .slice none 0 0] 80)) := hb1.alloc (by simp) _
 have HI : Hid (type_of% hI) := hI
 have hJ : Below (w.alloc (.cells #[.slice m.oT m.types.length m.cT, .slice m.oI m.imports.length m.cI, .slice m.oF m.funcs.length m.cF, .int .i64 m.table, .int .i64 m.pages, .int .i64 m.most, .slice m.oG m.globals.length m.cG, .slice m.oE m.exports.length m.cE, .int .i64 m.start, .slice m.oL m.elems.length m.cL, .slice m.oD m.data.length m.cD] 30)).heap.size (w.alloc (.cells #[.slice m.oT m.types.length m.cT, .slice m.oI m.imports.length m.cI, .slice m.oF m.funcs.length m.cF, .int .i64 m.table, .int .i64 m.pages, .int .i64 m.most, .slice m.oG m.globals.length m.cG, .slice m.oE m.exports.length m.cE, .int .i64 m.start, .slice m.oL m.elems.length m.cL, .slice m.oD m.data.length m.cD] 30)) ((w.alloc (.cells #[.slice m.oT m.types.length m.cT, .slice m.oI m.imports.length m.cI, .slice m.oF m.funcs.length m.cF, .int .i64 m.table, .int .i64 m.pages, .int .i64 m.most, .slice m.oG m.globals.length m.cG, .slice m.oE m.exports.length m.cE, .int .i64 m.start, .slice m.oL m.elems.length m.cL, .slice m.oD m.data.length m.cD] 30)).alloc (.cells #[.string ByteArray.empty, .slice none 0 0, .slice none 0 0] 80)) := (Below.refl _ _).alloc (Nat.le_refl _) _
 have HJ : Hid (type_of% hJ) := hJ
 have HIB : Hid (∀ W, Below ((w.alloc (.cells #[.slice m.oT m.types.length m.cT, .slice m.oI m.imports.length m.cI, .slice m.oF m.funcs.length m.cF, .int .i64 m.table, .int .i64 m.pages, .int .i64 m.most, .slice m.oG m.globals.length m.cG, .slice m.oE m.exports.length m.cE, .int .i64 m.start, .slice m.oL m.elems.length m.cL, .slice m.oD m.data.length m.cD] 30)).alloc (.cells #[.string ByteArray.empty, .slice none 0 0, .slice none 0 0] 80)).heap.size ((w.alloc (.cells #[.slice m.oT m.types.length m.cT, .slice m.oI m.imports.length m.cI, .slice m.oF m.funcs.length m.cF, .int .i64 m.table, .int .i64 m.pages, .int .i64 m.most, .slice m.oG m.globals.length m.cG, .slice m.oE m.exports.length m.cE, .int .i64 m.start, .slice m.oL m.elems.length m.cL, .slice m.oD m.data.length m.cD] 30)).alloc (.cells #[.string ByteArray.empty, .slice none 0 0, .slice none 0 0] 80)) W → W.heap[w.heap.size + 1]? = some (.cells #[.string ByteArray.empty, .slice none 0 0, .slice none 0 0] 80 (0, 0))) := fun W bW => by
  have h := heap_alloc_new (w.alloc (.cells #[.slice m.oT m.types.length m.cT, .slice m.oI m.imports.length m.cI, .slice m.oF m.funcs.length m.cF, .int .i64 m.table, .int .i64 m.pages, .int .i64 m.most, .slice m.oG m.globals.length m.cG, .slice m.oE m.exports.length m.cE, .int .i64 m.start, .slice m.oL m.elems.length m.cL, .slice m.oD m.data.length m.cD] 30)) (.cells #[.string ByteArray.empty, .slice none 0 0, .slice none 0 0] 80)
  rw [show (w.alloc (.cells #[.slice m.oT m.types.length m.cT, .slice m.oI m.imports.length m.cI, .slice m.oF m.funcs.length m.cF, .int .i64 m.table, .int .i64 m.pages, .int .i64 m.most, .slice m.oG m.globals.length m.cG, .slice m.oE m.exports.length m.cE, .int .i64 m.start, .slice m.oL m.elems.length m.cL, .slice m.oD m.data.length m.cD] 30)).heap.size = w.heap.size + 1 by simp] at h
  exact (bW.block (w.heap.size + 1) (by simp)).trans h
 have HSZ : Hid (((w.alloc (.cells #[.slice m.oT m.types.length m.cT, .slice m.oI m.imports.length m.cI, .slice m.oF m.funcs.length m.cF, .int .i64 m.table, .int .i64 m.pages, .int .i64 m.most, .slice m.oG m.globals.length m.cG, .slice m.oE m.exports.length m.cE, .int .i64 m.start, .slice m.oL m.elems.length m.cL, .slice m.oD m.data.length m.cD] 30)).alloc (.cells #[.string ByteArray.empty, .slice none 0 0, .slice none 0 0] 80)).heap.size = w.heap.size + 2) := by unfold Hid; simp
 obtain ⟨g0, g1, g2, g3, g4, g5, g6, g7, g8, g9, g10⟩ := HS.out _ hJ
 clear hb1 hm hA hI hJ f0 f1 f2 f3 f4 f5 f6 f7 f8 f9 f10 hg
 by_cases hz : modE m = 0
 ·have hc := (head_zero (mod_zero hz).1).1
  obtain ⟨⟨t0, t1⟩, ⟨p0, p1, p2⟩, gl, el, _⟩ := mChk_size hc
  have HTB : Hid (∀ W, Below w.heap.size w W → Calls Tryz.prog 64 #[.agg #[.slice m.oT m.types.length m.cT, .slice m.oI m.imports.length m.cI, .slice m.oF m.funcs.length m.cF, .int .i64 m.table, .int .i64 m.pages, .int .i64 m.most, .slice m.oG m.globals.length m.cG, .slice m.oE m.exports.length m.cE, .int .i64 m.start, .slice m.oL m.elems.length m.cL, .slice m.oD m.data.length m.cD]] W (TabOut W m.table.toNat (tablV m))) := fun W b => itable m W (HM.out.below b) m.table.toNat (by omega) (by omega) (fun d hd => by have h1 := el d hd; have h2 := ((HM.out.elems.all d hd).2).len; omega)
  have HBT : Hid (∀ W, Below w.heap.size w W → Calls Tryz.prog 65 #[.agg #[.slice m.oT m.types.length m.cT, .slice m.oI m.imports.length m.cI, .slice m.oF m.funcs.length m.cF, .int .i64 m.table, .int .i64 m.pages, .int .i64 m.most, .slice m.oG m.globals.length m.cG, .slice m.oE m.exports.length m.cE, .int .i64 m.start, .slice m.oL m.elems.length m.cL, .slice m.oD m.data.length m.cD]] W fun r w' => r = .returned (.tuple #[.string (strOfNums (bytsV m).2), .int .i64 (bytsV m).1]) ∧ Below W.heap.size W w') := fun W b => ibytes m W (HM.out.below b) p0 p1 p2
  have HGT : Hid (∀ W, Below w.heap.size w W → Calls Tryz.prog 66 #[.agg #[.slice m.oT m.types.length m.cT, .slice m.oI m.imports.length m.cI, .slice m.oF m.funcs.length m.cF, .int .i64 m.table, .int .i64 m.pages, .int .i64 m.most, .slice m.oG m.globals.length m.cG, .slice m.oE m.exports.length m.cE, .int .i64 m.start, .slice m.oL m.elems.length m.cL, .slice m.oD m.data.length m.cD]] W fun r w' => ∃ g, r = .returned (.slice (some ⟨g, 0, none⟩) m.globals.length m.globals.length) ∧ W.heap.size ≤ g ∧ IRow w' g 2 (globsV m) ∧ Below W.heap.size W w') := fun W b => iglobals m W (HM.out.below b) gl
  have HE : Hid (makeE m = if (tablV m).1 = 0 then (bytsV m).1 else (tablV m).1) := if_pos hz
  rw [hz] at HMO
  clear hz hc t0 t1 p0 p1 p2 gl el
  unfold MakeOut
  obtain ⟨⟨TE, TL⟩, hT⟩ : ∃ x, tablV m = x := ⟨_, rfl⟩
  obtain ⟨⟨BE, BL⟩, hB⟩ : ∃ x, bytsV m = x := ⟨_, rfl⟩
  rw [hT] at HTB HE ⊢
  rw [hB] at HBT HE ⊢
  clear hT hB
  dsimp only at HBT HE ⊢
  go_enter Tryz.func38, Tryz.ntmps38
  go_wp2_with fail
  refine (HMO.out _ HI.out).mono ?_
  rintro r w1 ⟨rfl, b1⟩
  have HW1 : Hid (Below ((w.alloc (.cells #[.slice m.oT m.types.length m.cT, .slice m.oI m.imports.length m.cI, .slice m.oF m.funcs.length m.cF, .int .i64 m.table, .int .i64 m.pages, .int .i64 m.most, .slice m.oG m.globals.length m.cG, .slice m.oE m.exports.length m.cE, .int .i64 m.start, .slice m.oL m.elems.length m.cL, .slice m.oD m.data.length m.cD] 30)).alloc (.cells #[.string ByteArray.empty, .slice none 0 0, .slice none 0 0] 80)).heap.size ((w.alloc (.cells #[.slice m.oT m.types.length m.cT, .slice m.oI m.imports.length m.cI, .slice m.oF m.funcs.length m.cF, .int .i64 m.table, .int .i64 m.pages, .int .i64 m.most, .slice m.oG m.globals.length m.cG, .slice m.oE m.exports.length m.cE, .int .i64 m.start, .slice m.oL m.elems.length m.cL, .slice m.oD m.data.length m.cD] 30)).alloc (.cells #[.string ByteArray.empty, .slice none 0 0, .slice none 0 0] 80)) w1) := b1
  have HB1' : Hid (Below w.heap.size w w1) := HI.out.trans (b1.mono HI.out.size)
  clear b1 g0 g1 g2 g3 g4 g5 g6 g7 g8 g9 g10
  obtain ⟨g0, g1, g2, g3, g4, g5, g6, g7, g8, g9, g10⟩ := HS.out _ (HJ.out.trans (HW1.out.mono HJ.out.size))
  go_wp2_with fail
  refine (HTB.out _ HB1'.out).mono ?_
  rintro r w2 ⟨b2, hy, hn⟩
  have HW2 : Hid (Below ((w.alloc (.cells #[.slice m.oT m.types.length m.cT, .slice m.oI m.imports.length m.cI, .slice m.oF m.funcs.length m.cF, .int .i64 m.table, .int .i64 m.pages, .int .i64 m.most, .slice m.oG m.globals.length m.cG, .slice m.oE m.exports.length m.cE, .int .i64 m.start, .slice m.oL m.elems.length m.cL, .slice m.oD m.data.length m.cD] 30)).alloc (.cells #[.string ByteArray.empty, .slice none 0 0, .slice none 0 0] 80)).heap.size ((w.alloc (.cells #[.slice m.oT m.types.length m.cT, .slice m.oI m.imports.length m.cI, .slice m.oF m.funcs.length m.cF, .int .i64 m.table, .int .i64 m.pages, .int .i64 m.most, .slice m.oG m.globals.length m.cG, .slice m.oE m.exports.length m.cE, .int .i64 m.start, .slice m.oL m.elems.length m.cL, .slice m.oD m.data.length m.cD] 30)).alloc (.cells #[.string ByteArray.empty, .slice none 0 0, .slice none 0 0] 80)) w2) := HW1.out.trans (b2.mono HW1.out.size)
  have HB2' : Hid (Below w.heap.size w w2) := HB1'.out.trans (b2.mono HB1'.out.size)
  clear g0 g1 g2 g3 g4 g5 g6 g7 g8 g9 g10
  by_cases hTE : TE = 0
  ·subst hTE
   obtain ⟨g, rfl, hgl, hrow, hlen⟩ := hy rfl
   have HRW : Hid (IRow w2 g 3 TL) := hrow
   have HGL : Hid (w.heap.size + 2 ≤ g) := by have h1 := HW1.out.size; have h2 := HSZ.out; unfold Hid; omega
   have HLN : Hid (TL.length = m.table.toNat) := hlen
   have HE2 : Hid (makeE m = BE) := HE.out
   clear hy hn hrow hgl hlen HTB HMO b2 HE
   obtain ⟨g0, g1, g2, g3, g4, g5, g6, g7, g8, g9, g10⟩ := HS.out _ (HJ.out.trans (HW2.out.mono HJ.out.size))
   go_wp2_with fail
   refine (HBT.out _ HB2'.out).mono ?_
   rintro r w3 ⟨rfl, b3⟩
   have HW3 : Hid (Below ((w.alloc (.cells #[.slice m.oT m.types.length m.cT, .slice m.oI m.imports.length m.cI, .slice m.oF m.funcs.length m.cF, .int .i64 m.table, .int .i64 m.pages, .int .i64 m.most, .slice m.oG m.globals.length m.cG, .slice m.oE m.exports.length m.cE, .int .i64 m.start, .slice m.oL m.elems.length m.cL, .slice m.oD m.data.length m.cD] 30)).alloc (.cells #[.string ByteArray.empty, .slice none 0 0, .slice none 0 0] 80)).heap.size ((w.alloc (.cells #[.slice m.oT m.types.length m.cT, .slice m.oI m.imports.length m.cI, .slice m.oF m.funcs.length m.cF, .int .i64 m.table, .int .i64 m.pages, .int .i64 m.most, .slice m.oG m.globals.length m.cG, .slice m.oE m.exports.length m.cE, .int .i64 m.start, .slice m.oL m.elems.length m.cL, .slice m.oD m.data.length m.cD] 30)).alloc (.cells #[.string ByteArray.empty, .slice none 0 0, .slice none 0 0] 80)) w3) := HW2.out.trans (b3.mono HW2.out.size)
   have HB3' : Hid (Below w.heap.size w w3) := HB2'.out.trans (b3.mono HB2'.out.size)
   have HRW3 : Hid (IRow w3 g 3 TL) := HRW.out.under b3
   clear g0 g1 g2 g3 g4 g5 g6 g7 g8 g9 g10 b3 HBT HRW
   by_cases hBE : BE = 0
   ·subst hBE
    obtain ⟨g0, g1, g2, g3, g4, g5, g6, g7, g8, g9, g10⟩ := HS.out _ (HJ.out.trans (HW3.out.mono HJ.out.size))
    go_wp2_with fail
    refine (HGT.out _ HB3'.out).mono ?_
    rintro r w4 ⟨g', rfl, hgl, hrow, b4⟩
    have HW4 : Hid (Below ((w.alloc (.cells #[.slice m.oT m.types.length m.cT, .slice m.oI m.imports.length m.cI, .slice m.oF m.funcs.length m.cF, .int .i64 m.table, .int .i64 m.pages, .int .i64 m.most, .slice m.oG m.globals.length m.cG, .slice m.oE m.exports.length m.cE, .int .i64 m.start, .slice m.oL m.elems.length m.cL, .slice m.oD m.data.length m.cD] 30)).alloc (.cells #[.string ByteArray.empty, .slice none 0 0, .slice none 0 0] 80)).heap.size ((w.alloc (.cells #[.slice m.oT m.types.length m.cT, .slice m.oI m.imports.length m.cI, .slice m.oF m.funcs.length m.cF, .int .i64 m.table, .int .i64 m.pages, .int .i64 m.most, .slice m.oG m.globals.length m.cG, .slice m.oE m.exports.length m.cE, .int .i64 m.start, .slice m.oL m.elems.length m.cL, .slice m.oD m.data.length m.cD] 30)).alloc (.cells #[.string ByteArray.empty, .slice none 0 0, .slice none 0 0] 80)) w4) := HW3.out.trans (b4.mono HW3.out.size)
    have HB4' : Hid (Below w.heap.size w w4) := HB3'.out.trans (b4.mono HB3'.out.size)
    have hi := HIB.out _ HW4.out
    have q0 := cell_at hi 0 rfl
    have q1 := cell_at hi 1 rfl
    have q2 := cell_at hi 2 rfl
    obtain ⟨s1, s2, s3, s4, s5⟩ := img_set (.string (strOfNums BL)) (.slice (some ⟨g, 0, none⟩) m.table.toNat m.table.toNat) (.slice (some ⟨g', 0, none⟩) m.globals.length m.globals.length) hi
    have HS1 : Hid (type_of% s1) := s1
    have HFN : Hid (Below w.heap.size w (((w4.setCell ⟨w.heap.size + 1, 0, none⟩ (.string (strOfNums BL))).setCell ⟨w.heap.size + 1, 1, none⟩ (.slice (some ⟨g, 0, none⟩) m.table.toNat m.table.toNat)).setCell ⟨w.heap.size + 1, 2, none⟩ (.slice (some ⟨g', 0, none⟩) m.globals.length m.globals.length))) := HB4'.out.trans (s2.below (by omega) (by have := HB4'.out.size; omega))
    have HR4 : Hid (IRow (((w4.setCell ⟨w.heap.size + 1, 0, none⟩ (.string (strOfNums BL))).setCell ⟨w.heap.size + 1, 1, none⟩ (.slice (some ⟨g, 0, none⟩) m.table.toNat m.table.toNat)).setCell ⟨w.heap.size + 1, 2, none⟩ (.slice (some ⟨g', 0, none⟩) m.globals.length m.globals.length)) g 3 TL) := (HRW3.out.under b4).chg s2 (by have := HGL.out; omega)
    have HR5 : Hid (IRow (((w4.setCell ⟨w.heap.size + 1, 0, none⟩ (.string (strOfNums BL))).setCell ⟨w.heap.size + 1, 1, none⟩ (.slice (some ⟨g, 0, none⟩) m.table.toNat m.table.toNat)).setCell ⟨w.heap.size + 1, 2, none⟩ (.slice (some ⟨g', 0, none⟩) m.globals.length m.globals.length)) g' 2 (globsV m)) := hrow.chg s2 (by have h1 := HB3'.out.size; have h2 := HW3.out.size; have h3 := HSZ.out; omega)
    have HG5 : Hid (w.heap.size ≤ g') := by have h1 := HB3'.out.size; unfold Hid; omega
    clear b4 hi s1 s2 hgl hrow g0 g1 g2 g3 g4 g5 g6 g7 g8 g9 g10 HGT HRW3
    go_wp2
    refine bodyPost_ret (results_row_tmp rfl _ _ (w.heap.size + 1) 80 _ (0, 0) _ rfl HS1.out Tryz.underlying80 rfl infoImg _ rfl) rfl ?_
    exact ⟨HFN.out, fun _ => ⟨g, g', rfl, by have := HGL.out; omega, HG5.out, HR4.out, HLN.out, HR5.out⟩, fun e => absurd HE2.out e⟩
   ·have hb0 : (BE == 0) = false := by rw [beq_eq_false_iff_ne]; exact hBE
    have hn0 : (BE != 0) = true := by rw [bne, hb0]; rfl
    have hi := HIB.out _ HW3.out
    have q0 := cell_at hi 0 rfl
    have q1 := cell_at hi 1 rfl
    have q2 := cell_at hi 2 rfl
    obtain ⟨s1, s2, s3, s4, s5⟩ := img_set (.string ByteArray.empty) (.slice none 0 0) (.slice none 0 0) hi
    have HS1 : Hid (type_of% s1) := s1
    have HFN : Hid (Below w.heap.size w (((w3.setCell ⟨w.heap.size + 1, 0, none⟩ (.string ByteArray.empty)).setCell ⟨w.heap.size + 1, 1, none⟩ (.slice none 0 0)).setCell ⟨w.heap.size + 1, 2, none⟩ (.slice none 0 0))) := HB3'.out.trans (s2.below (by omega) (by have := HB3'.out.size; omega))
    have HNE : Hid (BE ≠ 0) := hBE
    clear hi s1 s2 hBE
    go_wp2
    refine bodyPost_ret (results_row_tmp rfl _ _ (w.heap.size + 1) 80 _ (0, 0) _ rfl HS1.out Tryz.underlying80 rfl infoImg _ rfl) rfl ?_
    exact ⟨HFN.out, fun e => absurd (HE2.out.symm.trans e) HNE.out, fun _ => by rw [HE2.out]; rfl⟩
  ·have hr := hn hTE
   dsimp only at hr
   subst hr
   have hb0 : (TE == 0) = false := by rw [beq_eq_false_iff_ne]; exact hTE
   have hn0 : (TE != 0) = true := by rw [bne, hb0]; rfl
   have HE2 : Hid (makeE m = TE) := HE.out.trans (if_neg hTE)
   clear hy hn HTB HMO b2 HBT HGT HE
   have hi := HIB.out _ HW2.out
   have q0 := cell_at hi 0 rfl
   have q1 := cell_at hi 1 rfl
   have q2 := cell_at hi 2 rfl
   obtain ⟨s1, s2, s3, s4, s5⟩ := img_set (.string ByteArray.empty) (.slice none 0 0) (.slice none 0 0) hi
   have HS1 : Hid (type_of% s1) := s1
   have HFN : Hid (Below w.heap.size w (((w2.setCell ⟨w.heap.size + 1, 0, none⟩ (.string ByteArray.empty)).setCell ⟨w.heap.size + 1, 1, none⟩ (.slice none 0 0)).setCell ⟨w.heap.size + 1, 2, none⟩ (.slice none 0 0))) := HB2'.out.trans (s2.below (by omega) (by have := HB2'.out.size; omega))
   have HNE : Hid (TE ≠ 0) := hTE
   clear hi s1 s2 hTE
   go_wp2
   refine bodyPost_ret (results_row_tmp rfl _ _ (w.heap.size + 1) 80 _ (0, 0) _ rfl HS1.out Tryz.underlying80 rfl infoImg _ rfl) rfl ?_
   exact ⟨HFN.out, fun e => absurd (HE2.out.symm.trans e) HNE.out, fun _ => by rw [HE2.out]; rfl⟩
 ·have HE2 : Hid (makeE m = modE m) := if_neg hz
  obtain ⟨ME, hME⟩ : ∃ x, modE m = x := ⟨_, rfl⟩
  rw [hME] at HMO HE2 hz
  clear hME
  have hb0 : (ME == 0) = false := by rw [beq_eq_false_iff_ne]; exact hz
  have hn0 : (ME != 0) = true := by rw [bne, hb0]; rfl
  go_enter Tryz.func38, Tryz.ntmps38
  go_wp2_with fail
  refine (HMO.out _ HI.out).mono ?_
  rintro r w1 ⟨rfl, b1⟩
  have HW1 : Hid (Below ((w.alloc (.cells #[.slice m.oT m.types.length m.cT, .slice m.oI m.imports.length m.cI, .slice m.oF m.funcs.length m.cF, .int .i64 m.table, .int .i64 m.pages, .int .i64 m.most, .slice m.oG m.globals.length m.cG, .slice m.oE m.exports.length m.cE, .int .i64 m.start, .slice m.oL m.elems.length m.cL, .slice m.oD m.data.length m.cD] 30)).alloc (.cells #[.string ByteArray.empty, .slice none 0 0, .slice none 0 0] 80)).heap.size ((w.alloc (.cells #[.slice m.oT m.types.length m.cT, .slice m.oI m.imports.length m.cI, .slice m.oF m.funcs.length m.cF, .int .i64 m.table, .int .i64 m.pages, .int .i64 m.most, .slice m.oG m.globals.length m.cG, .slice m.oE m.exports.length m.cE, .int .i64 m.start, .slice m.oL m.elems.length m.cL, .slice m.oD m.data.length m.cD] 30)).alloc (.cells #[.string ByteArray.empty, .slice none 0 0, .slice none 0 0] 80)) w1) := b1
  have HB1' : Hid (Below w.heap.size w w1) := HI.out.trans (b1.mono HI.out.size)
  clear b1 g0 g1 g2 g3 g4 g5 g6 g7 g8 g9 g10
  have hi := HIB.out _ HW1.out
  have q0 := cell_at hi 0 rfl
  have q1 := cell_at hi 1 rfl
  have q2 := cell_at hi 2 rfl
  obtain ⟨s1, s2, s3, s4, s5⟩ := img_set (.string ByteArray.empty) (.slice none 0 0) (.slice none 0 0) hi
  have HS1 : Hid (type_of% s1) := s1
  have HFN : Hid (Below w.heap.size w (((w1.setCell ⟨w.heap.size + 1, 0, none⟩ (.string ByteArray.empty)).setCell ⟨w.heap.size + 1, 1, none⟩ (.slice none 0 0)).setCell ⟨w.heap.size + 1, 2, none⟩ (.slice none 0 0))) := HB1'.out.trans (s2.below (by omega) (by have := HB1'.out.size; omega))
  have HNE : Hid (ME ≠ 0) := hz
  clear hi s1 s2 hz
  go_wp2
  refine bodyPost_ret (results_row_tmp rfl _ _ (w.heap.size + 1) 80 _ (0, 0) _ rfl HS1.out Tryz.underlying80 rfl infoImg _ rfl) rfl ?_
  exact ⟨HFN.out, fun e => absurd (HE2.out.symm.trans e) HNE.out, fun _ => by rw [HE2.out]; rfl⟩
end Go.Proofs.YtoikoijpkchamaaGreatDoor
namespace Go.Proofs.YtoikoijpkchamaaGreatDoor
open Go.RowKit
set_option linter.unusedVariables false
def fnB (m : ModD) (n : Int) : Bool := decide (0 ≤ n) && decide (n < (m.imports.length : Int) + (m.funcs.length : Int))
theorem ifun (m : ModD) (n : Int) (w : World) (hI : m.imports.length ≤ 16) (hF : m.funcs.length ≤ 16) :
  Calls Tryz.prog 105 #[.agg #[.slice m.oT m.types.length m.cT, .slice m.oI m.imports.length m.cI, .slice m.oF m.funcs.length m.cF, .int .i64 m.table, .int .i64 m.pages, .int .i64 m.most, .slice m.oG m.globals.length m.cG, .slice m.oE m.exports.length m.cE, .int .i64 m.start, .slice m.oL m.elems.length m.cL, .slice m.oD m.data.length m.cD], .int .i64 n] w fun r w' => r = .returned (.bool (fnB m n)) ∧ Below w.heap.size w w' := by
 have hb1 : Below w.heap.size w (w.alloc (.cells #[.slice m.oT m.types.length m.cT, .slice m.oI m.imports.length m.cI, .slice m.oF m.funcs.length m.cF, .int .i64 m.table, .int .i64 m.pages, .int .i64 m.most, .slice m.oG m.globals.length m.cG, .slice m.oE m.exports.length m.cE, .int .i64 m.start, .slice m.oL m.elems.length m.cL, .slice m.oD m.data.length m.cD] 30)) := (Below.refl _ _).alloc (Nat.le_refl _) _
 have HB1 : Hid (type_of% hb1) := hb1
 have HS : Hid (∀ w', Below (w.alloc (.cells #[.slice m.oT m.types.length m.cT, .slice m.oI m.imports.length m.cI, .slice m.oF m.funcs.length m.cF, .int .i64 m.table, .int .i64 m.pages, .int .i64 m.most, .slice m.oG m.globals.length m.cG, .slice m.oE m.exports.length m.cE, .int .i64 m.start, .slice m.oL m.elems.length m.cL, .slice m.oD m.data.length m.cD] 30)).heap.size (w.alloc (.cells #[.slice m.oT m.types.length m.cT, .slice m.oI m.imports.length m.cI, .slice m.oF m.funcs.length m.cF, .int .i64 m.table, .int .i64 m.pages, .int .i64 m.most, .slice m.oG m.globals.length m.cG, .slice m.oE m.exports.length m.cE, .int .i64 m.start, .slice m.oL m.elems.length m.cL, .slice m.oD m.data.length m.cD] 30)) w' → w'.cell? ⟨w.heap.size, 0, none⟩ = some (.slice m.oT m.types.length m.cT) ∧ w'.cell? ⟨w.heap.size, 1, none⟩ = some (.slice m.oI m.imports.length m.cI) ∧ w'.cell? ⟨w.heap.size, 2, none⟩ = some (.slice m.oF m.funcs.length m.cF) ∧ w'.cell? ⟨w.heap.size, 3, none⟩ = some (.int .i64 m.table) ∧ w'.cell? ⟨w.heap.size, 4, none⟩ = some (.int .i64 m.pages) ∧ w'.cell? ⟨w.heap.size, 5, none⟩ = some (.int .i64 m.most) ∧ w'.cell? ⟨w.heap.size, 6, none⟩ = some (.slice m.oG m.globals.length m.cG) ∧ w'.cell? ⟨w.heap.size, 7, none⟩ = some (.slice m.oE m.exports.length m.cE) ∧ w'.cell? ⟨w.heap.size, 8, none⟩ = some (.int .i64 m.start) ∧ w'.cell? ⟨w.heap.size, 9, none⟩ = some (.slice m.oL m.elems.length m.cL) ∧ w'.cell? ⟨w.heap.size, 10, none⟩ = some (.slice m.oD m.data.length m.cD)) := fun w' bz => by
  have a1 := (bz.block w.heap.size (by simp)).trans (new_block w (.cells #[.slice m.oT m.types.length m.cT, .slice m.oI m.imports.length m.cI, .slice m.oF m.funcs.length m.cF, .int .i64 m.table, .int .i64 m.pages, .int .i64 m.most, .slice m.oG m.globals.length m.cG, .slice m.oE m.exports.length m.cE, .int .i64 m.start, .slice m.oL m.elems.length m.cL, .slice m.oD m.data.length m.cD] 30))
  exact ⟨cell_at a1 0 rfl, cell_at a1 1 rfl, cell_at a1 2 rfl, cell_at a1 3 rfl, cell_at a1 4 rfl, cell_at a1 5 rfl, cell_at a1 6 rfl, cell_at a1 7 rfl, cell_at a1 8 rfl, cell_at a1 9 rfl, cell_at a1 10 rfl⟩
 obtain ⟨f0, f1, f2, f3, f4, f5, f6, f7, f8, f9, f10⟩ := HS.out _ (Below.refl _ _)
 clear hb1 HS
 have hw : ∀ z : Int, z = (m.imports.length : Int) + (m.funcs.length : Int) → IntKind.i64.wrap z = z := fun z hz => by rw [IntKind.wrap_i64]; omega
 unfold fnB
 by_cases h0 : 0 ≤ n
 ·rw [decide_eq_true h0, Bool.true_and]
  go_enter Tryz.func105, Tryz.ntmps105
  go_wp2
  go_ret
  exact ⟨by simp, HB1.out⟩
 ·rw [decide_eq_false h0, Bool.false_and]
  go_enter Tryz.func105, Tryz.ntmps105
  go_wp2
  go_ret
  exact ⟨rfl, HB1.out⟩
def bytB (m : ModD) (n : Nat) : Bool := decide (n % 256 = 0) && (decide (m.pages ≤ ((n / 256 : Nat) : Int)) && decide (((n / 256 : Nat) : Int) ≤ m.most))
theorem ibyt (m : ModD) (s : ByteArray) (w : World) (hs : s.size ≤ 9223372036854775807) :
  Calls Tryz.prog 69 #[.agg #[.slice m.oT m.types.length m.cT, .slice m.oI m.imports.length m.cI, .slice m.oF m.funcs.length m.cF, .int .i64 m.table, .int .i64 m.pages, .int .i64 m.most, .slice m.oG m.globals.length m.cG, .slice m.oE m.exports.length m.cE, .int .i64 m.start, .slice m.oL m.elems.length m.cL, .slice m.oD m.data.length m.cD], .string s] w fun r w' => r = .returned (.bool (bytB m s.size)) ∧ Below w.heap.size w w' := by
 have hb1 : Below w.heap.size w (w.alloc (.cells #[.slice m.oT m.types.length m.cT, .slice m.oI m.imports.length m.cI, .slice m.oF m.funcs.length m.cF, .int .i64 m.table, .int .i64 m.pages, .int .i64 m.most, .slice m.oG m.globals.length m.cG, .slice m.oE m.exports.length m.cE, .int .i64 m.start, .slice m.oL m.elems.length m.cL, .slice m.oD m.data.length m.cD] 30)) := (Below.refl _ _).alloc (Nat.le_refl _) _
 have HB1 : Hid (type_of% hb1) := hb1
 have HS : Hid (∀ w', Below (w.alloc (.cells #[.slice m.oT m.types.length m.cT, .slice m.oI m.imports.length m.cI, .slice m.oF m.funcs.length m.cF, .int .i64 m.table, .int .i64 m.pages, .int .i64 m.most, .slice m.oG m.globals.length m.cG, .slice m.oE m.exports.length m.cE, .int .i64 m.start, .slice m.oL m.elems.length m.cL, .slice m.oD m.data.length m.cD] 30)).heap.size (w.alloc (.cells #[.slice m.oT m.types.length m.cT, .slice m.oI m.imports.length m.cI, .slice m.oF m.funcs.length m.cF, .int .i64 m.table, .int .i64 m.pages, .int .i64 m.most, .slice m.oG m.globals.length m.cG, .slice m.oE m.exports.length m.cE, .int .i64 m.start, .slice m.oL m.elems.length m.cL, .slice m.oD m.data.length m.cD] 30)) w' → w'.cell? ⟨w.heap.size, 0, none⟩ = some (.slice m.oT m.types.length m.cT) ∧ w'.cell? ⟨w.heap.size, 1, none⟩ = some (.slice m.oI m.imports.length m.cI) ∧ w'.cell? ⟨w.heap.size, 2, none⟩ = some (.slice m.oF m.funcs.length m.cF) ∧ w'.cell? ⟨w.heap.size, 3, none⟩ = some (.int .i64 m.table) ∧ w'.cell? ⟨w.heap.size, 4, none⟩ = some (.int .i64 m.pages) ∧ w'.cell? ⟨w.heap.size, 5, none⟩ = some (.int .i64 m.most) ∧ w'.cell? ⟨w.heap.size, 6, none⟩ = some (.slice m.oG m.globals.length m.cG) ∧ w'.cell? ⟨w.heap.size, 7, none⟩ = some (.slice m.oE m.exports.length m.cE) ∧ w'.cell? ⟨w.heap.size, 8, none⟩ = some (.int .i64 m.start) ∧ w'.cell? ⟨w.heap.size, 9, none⟩ = some (.slice m.oL m.elems.length m.cL) ∧ w'.cell? ⟨w.heap.size, 10, none⟩ = some (.slice m.oD m.data.length m.cD)) := fun w' bz => by
  have a1 := (bz.block w.heap.size (by simp)).trans (new_block w (.cells #[.slice m.oT m.types.length m.cT, .slice m.oI m.imports.length m.cI, .slice m.oF m.funcs.length m.cF, .int .i64 m.table, .int .i64 m.pages, .int .i64 m.most, .slice m.oG m.globals.length m.cG, .slice m.oE m.exports.length m.cE, .int .i64 m.start, .slice m.oL m.elems.length m.cL, .slice m.oD m.data.length m.cD] 30))
  exact ⟨cell_at a1 0 rfl, cell_at a1 1 rfl, cell_at a1 2 rfl, cell_at a1 3 rfl, cell_at a1 4 rfl, cell_at a1 5 rfl, cell_at a1 6 rfl, cell_at a1 7 rfl, cell_at a1 8 rfl, cell_at a1 9 rfl, cell_at a1 10 rfl⟩
 obtain ⟨f0, f1, f2, f3, f4, f5, f6, f7, f8, f9, f10⟩ := HS.out _ (Below.refl _ _)
 clear hb1 HS
 obtain ⟨n, hn⟩ : ∃ n, s.size = n := ⟨_, rfl⟩
 obtain ⟨q, hq⟩ : ∃ q, n / 256 = q := ⟨_, rfl⟩
 obtain ⟨e, he⟩ : ∃ e, n % 256 = e := ⟨_, rfl⟩
 have HQX : Hid (∀ x y W, (do eqGuard .quo 3 x y (.int .i64 (n : Int)) (.int .i64 256); binOp .quo 3 (.int .i64 (n : Int)) (.int .i64 256) : Sem Value).run Tryz.prog W = .ok (.int .i64 (q : Int)) W) := fun x y W => quo256 x y n q (by rw [← hq]; rfl) (by unfold wrap64; omega) W
 have HRX : Hid (∀ x y W, (do eqGuard .rem 3 x y (.int .i64 (n : Int)) (.int .i64 256); binOp .rem 3 (.int .i64 (n : Int)) (.int .i64 256) : Sem Value).run Tryz.prog W = .ok (.int .i64 (e : Int)) W) := fun x y W => rem256 x y n e (by rw [← he]; rfl) W
 unfold bytB
 rw [hn, hq, he]
 have HN : Hid (s.size = n) := hn
 clear hq he
 by_cases h0 : e = 0
 ·subst h0
  rw [decide_eq_true rfl, Bool.true_and]
  by_cases h1 : m.pages ≤ (q : Int)
  ·rw [decide_eq_true h1, Bool.true_and]
   go_enter Tryz.func69, Tryz.ntmps69
   go_wp2_with (first | (refine wp_binX rfl .quo 3 3 (.tmp 7) (.const (.int .i64 256)) rfl _ _ rfl rfl _ (HQX.out _ _ _) ?_) | (refine wp_binX rfl .rem 3 3 (.tmp 10) (.const (.int .i64 256)) rfl _ _ rfl rfl _ (HRX.out _ _ _) ?_))
   go_ret
   exact ⟨by simp, HB1.out⟩
  ·rw [decide_eq_false h1, Bool.false_and]
   go_enter Tryz.func69, Tryz.ntmps69
   go_wp2_with (first | (refine wp_binX rfl .quo 3 3 (.tmp 7) (.const (.int .i64 256)) rfl _ _ rfl rfl _ (HQX.out _ _ _) ?_) | (refine wp_binX rfl .rem 3 3 (.tmp 10) (.const (.int .i64 256)) rfl _ _ rfl rfl _ (HRX.out _ _ _) ?_))
   go_ret
   exact ⟨rfl, HB1.out⟩
 ·have h0i : ¬ ((e : Int) = 0) := by omega
  rw [decide_eq_false h0, Bool.false_and]
  go_enter Tryz.func69, Tryz.ntmps69
  go_wp2_with (first | (refine wp_binX rfl .quo 3 3 (.tmp 7) (.const (.int .i64 256)) rfl _ _ rfl rfl _ (HQX.out _ _ _) ?_) | (refine wp_binX rfl .rem 3 3 (.tmp 10) (.const (.int .i64 256)) rfl _ _ rfl rfl _ (HRX.out _ _ _) ?_))
  go_ret
  exact ⟨rfl, HB1.out⟩
end Go.Proofs.YtoikoijpkchamaaGreatDoor
namespace Go.Proofs.YtoikoijpkchamaaGreatDoor
open Go.RowKit
set_option linter.unusedVariables false
def plcB (m : ModD) (x : Int) : Bool := x == -1 || fnB m x
def tabB (m : ModD) (t : List Int) : Bool := decide ((t.length : Int) = m.table) && t.all (plcB m)
theorem NumD.ok.c {w : World} {d : NumD} {k : IntKind} (h : d.ok k w) (hn : d.n ≠ 0) : ∃ b f, d.o = some ⟨b, f, none⟩ ∧ b < w.heap.size ∧ ∀ W, Below w.heap.size w W → ∀ i, i < d.n → W.cell? ⟨b, f + i, none⟩ = some (.int k (d.xs.getD i 0)) := by
 obtain ⟨a, ha, hab, hac⟩ := h.at'.resolve_left hn
 have hcell := hac 0 (by omega)
 obtain ⟨b, f, sp⟩ := a
 have hsp : sp = none := by simpa [Addr.add] using World.cell?_spot hcell
 subst hsp
 refine ⟨b, f, ha, hab, fun W bW i hi => ?_⟩
 rw [bW.cell (p := ⟨b, f + i, none⟩) hab]
 have := hac i hi
 rw [show (⟨b, f, none⟩ : Addr).add i = ⟨b, f + i, none⟩ from by unfold Addr.add; split <;> simp_all] at this
 exact this
theorem itab (m : ModD) (t : NumD) (w : World) (ht : t.ok .i64 w) (hI : m.imports.length ≤ 16) (hF : m.funcs.length ≤ 16) :
  Calls Tryz.prog 70 #[.agg #[.slice m.oT m.types.length m.cT, .slice m.oI m.imports.length m.cI, .slice m.oF m.funcs.length m.cF, .int .i64 m.table, .int .i64 m.pages, .int .i64 m.most, .slice m.oG m.globals.length m.cG, .slice m.oE m.exports.length m.cE, .int .i64 m.start, .slice m.oL m.elems.length m.cL, .slice m.oD m.data.length m.cD], .slice t.o t.n t.cap] w fun r w' => r = .returned (.bool (tabB m t.xs)) ∧ Below w.heap.size w w' := by
 have hle := ht.le
 have hmost := ht.most
 unfold maxLen at hmost
 have HT : Hid (t.ok .i64 w) := ht
 have HLN : Hid (t.xs.length = t.n) := ht.len
 have hb1 : Below w.heap.size w (w.alloc (.cells #[.slice m.oT m.types.length m.cT, .slice m.oI m.imports.length m.cI, .slice m.oF m.funcs.length m.cF, .int .i64 m.table, .int .i64 m.pages, .int .i64 m.most, .slice m.oG m.globals.length m.cG, .slice m.oE m.exports.length m.cE, .int .i64 m.start, .slice m.oL m.elems.length m.cL, .slice m.oD m.data.length m.cD] 30)) := (Below.refl _ _).alloc (Nat.le_refl _) _
 have HB1 : Hid (type_of% hb1) := hb1
 have HS : Hid (∀ w', Below (w.alloc (.cells #[.slice m.oT m.types.length m.cT, .slice m.oI m.imports.length m.cI, .slice m.oF m.funcs.length m.cF, .int .i64 m.table, .int .i64 m.pages, .int .i64 m.most, .slice m.oG m.globals.length m.cG, .slice m.oE m.exports.length m.cE, .int .i64 m.start, .slice m.oL m.elems.length m.cL, .slice m.oD m.data.length m.cD] 30)).heap.size (w.alloc (.cells #[.slice m.oT m.types.length m.cT, .slice m.oI m.imports.length m.cI, .slice m.oF m.funcs.length m.cF, .int .i64 m.table, .int .i64 m.pages, .int .i64 m.most, .slice m.oG m.globals.length m.cG, .slice m.oE m.exports.length m.cE, .int .i64 m.start, .slice m.oL m.elems.length m.cL, .slice m.oD m.data.length m.cD] 30)) w' → w'.cell? ⟨w.heap.size, 0, none⟩ = some (.slice m.oT m.types.length m.cT) ∧ w'.cell? ⟨w.heap.size, 1, none⟩ = some (.slice m.oI m.imports.length m.cI) ∧ w'.cell? ⟨w.heap.size, 2, none⟩ = some (.slice m.oF m.funcs.length m.cF) ∧ w'.cell? ⟨w.heap.size, 3, none⟩ = some (.int .i64 m.table) ∧ w'.cell? ⟨w.heap.size, 4, none⟩ = some (.int .i64 m.pages) ∧ w'.cell? ⟨w.heap.size, 5, none⟩ = some (.int .i64 m.most) ∧ w'.cell? ⟨w.heap.size, 6, none⟩ = some (.slice m.oG m.globals.length m.cG) ∧ w'.cell? ⟨w.heap.size, 7, none⟩ = some (.slice m.oE m.exports.length m.cE) ∧ w'.cell? ⟨w.heap.size, 8, none⟩ = some (.int .i64 m.start) ∧ w'.cell? ⟨w.heap.size, 9, none⟩ = some (.slice m.oL m.elems.length m.cL) ∧ w'.cell? ⟨w.heap.size, 10, none⟩ = some (.slice m.oD m.data.length m.cD)) := fun w' bz => by
  have a1 := (bz.block w.heap.size (by simp)).trans (new_block w (.cells #[.slice m.oT m.types.length m.cT, .slice m.oI m.imports.length m.cI, .slice m.oF m.funcs.length m.cF, .int .i64 m.table, .int .i64 m.pages, .int .i64 m.most, .slice m.oG m.globals.length m.cG, .slice m.oE m.exports.length m.cE, .int .i64 m.start, .slice m.oL m.elems.length m.cL, .slice m.oD m.data.length m.cD] 30))
  exact ⟨cell_at a1 0 rfl, cell_at a1 1 rfl, cell_at a1 2 rfl, cell_at a1 3 rfl, cell_at a1 4 rfl, cell_at a1 5 rfl, cell_at a1 6 rfl, cell_at a1 7 rfl, cell_at a1 8 rfl, cell_at a1 9 rfl, cell_at a1 10 rfl⟩
 obtain ⟨f0, f1, f2, f3, f4, f5, f6, f7, f8, f9, f10⟩ := HS.out _ (Below.refl _ _)
 have HFN : Hid (∀ x W, Calls Tryz.prog 105 #[.agg #[.slice m.oT m.types.length m.cT, .slice m.oI m.imports.length m.cI, .slice m.oF m.funcs.length m.cF, .int .i64 m.table, .int .i64 m.pages, .int .i64 m.most, .slice m.oG m.globals.length m.cG, .slice m.oE m.exports.length m.cE, .int .i64 m.start, .slice m.oL m.elems.length m.cL, .slice m.oD m.data.length m.cD], .int .i64 x] W fun r w' => r = .returned (.bool (fnB m x)) ∧ Below W.heap.size W w') := fun x W => ifun m x W hI hF
 have HR : Hid (tabB m t.xs = (decide ((t.n : Int) = m.table) && t.xs.all (plcB m))) := by unfold Hid tabB; rw [HLN.out]
 rw [HR.out]
 clear hb1 ht HR hI hF
 by_cases h0 : (t.n : Int) = m.table
 ·rw [decide_eq_true h0, Bool.true_and]
  obtain ⟨R, hR⟩ : ∃ R, t.xs.all (plcB m) = R := ⟨_, rfl⟩
  have HRR : Hid (R = (t.xs.drop 0).all (plcB m)) := hR.symm
  rw [hR]
  have hne : ((t.n : Int) != m.table) = false := by rw [h0]; simp
  clear h0 hR
  go_enter Tryz.func70, Tryz.ntmps70
  go_wp2
  clear f0 f1 f2 f3 f4 f5 f6 f7 f8 f9 f10
  go_loopw [14] (fun i wr => ∃ k : Nat, i = .int .i64 k ∧ k ≤ t.n ∧ Hid (R = (t.xs.drop k).all (plcB m)) ∧ Hid (Below (w.alloc (.cells #[.slice m.oT m.types.length m.cT, .slice m.oI m.imports.length m.cI, .slice m.oF m.funcs.length m.cF, .int .i64 m.table, .int .i64 m.pages, .int .i64 m.most, .slice m.oG m.globals.length m.cG, .slice m.oE m.exports.length m.cE, .int .i64 m.start, .slice m.oL m.elems.length m.cL, .slice m.oD m.data.length m.cD] 30)).heap.size (w.alloc (.cells #[.slice m.oT m.types.length m.cT, .slice m.oI m.imports.length m.cI, .slice m.oF m.funcs.length m.cF, .int .i64 m.table, .int .i64 m.pages, .int .i64 m.most, .slice m.oG m.globals.length m.cG, .slice m.oE m.exports.length m.cE, .int .i64 m.start, .slice m.oL m.elems.length m.cL, .slice m.oD m.data.length m.cD] 30)) wr)) (fun i _ => t.n - (intOf i).toNat)
  case atStart => exact ⟨0, rfl, by omega, HRR, Below.refl _ _⟩
  case round =>
   obtain ⟨k, rfl, hk, HP, HB⟩ := hrel
   have HBW : Hid (Below w.heap.size w wr) := HB1.out.trans (HB.out.mono HB1.out.size)
   by_cases hlt : k < t.n
   ·have hki1 : (k : Int) < (t.n : Int) := by omega
    have hki0 : (0 : Int) ≤ (k : Int) := by omega
    obtain ⟨bb, ff, ho, hbN, hc⟩ := HT.out.c (by omega)
    have c0 := hc wr HBW.out k hlt
    obtain ⟨x, hx⟩ : ∃ x, t.xs.getD k 0 = x := ⟨_, rfl⟩
    rw [hx] at c0
    have HDr : Hid (t.xs.drop k = x :: t.xs.drop (k + 1)) := by
     have hl : k < t.xs.length := by rw [HLN.out]; exact hlt
     unfold Hid
     rw [List.drop_eq_getElem_cons hl, ← hx, List.getD_eq_getElem?_getD, List.getElem?_eq_getElem hl]
     rfl
    have HP2 : Hid (R = (plcB m x && (t.xs.drop (k + 1)).all (plcB m))) := by
     have := HP.out
     rw [HDr.out, List.all_cons] at this
     exact this
    obtain ⟨g0, g1, g2, g3, g4, g5, g6, g7, g8, g9, g10⟩ := HS.out _ HB.out
    have HFX : Hid (type_of% (HFN.out x wr)) := HFN.out x wr
    rw [ho]
    clear hc hx HP HRR HDr
    by_cases hx1 : x = -1
    ·subst hx1
     have HP3 : Hid (R = (t.xs.drop (k + 1)).all (plcB m)) := by
      have := HP2.out
      rw [show plcB m (-1) = true from rfl, Bool.true_and] at this
      exact this
     clear HP2
     go_wp2
     go_roundw
     case rel => exact ⟨k + 1, rfl, by omega, HP3, HB⟩
     case measure => simp [intOf]; omega
    ·have hpx : plcB m x = fnB m x := by
      unfold plcB
      rw [show (x == -1) = false by rw [beq_eq_false_iff_ne]; exact hx1, Bool.false_or]
     rw [hpx] at HP2
     obtain ⟨e, he⟩ : ∃ e, fnB m x = e := ⟨_, rfl⟩
     rw [he] at HP2 HFX
     clear hpx he
     cases e with
     | true =>
      have HP3 : Hid (R = (t.xs.drop (k + 1)).all (plcB m)) := HP2.out
      go_wp2_with (go_at_call 105; refine HFX.out.mono ?_; rintro r w1 ⟨rfl, b1⟩; have HB4 : Hid (Below (w.alloc (.cells #[.slice m.oT m.types.length m.cT, .slice m.oI m.imports.length m.cI, .slice m.oF m.funcs.length m.cF, .int .i64 m.table, .int .i64 m.pages, .int .i64 m.most, .slice m.oG m.globals.length m.cG, .slice m.oE m.exports.length m.cE, .int .i64 m.start, .slice m.oL m.elems.length m.cL, .slice m.oD m.data.length m.cD] 30)).heap.size (w.alloc (.cells #[.slice m.oT m.types.length m.cT, .slice m.oI m.imports.length m.cI, .slice m.oF m.funcs.length m.cF, .int .i64 m.table, .int .i64 m.pages, .int .i64 m.most, .slice m.oG m.globals.length m.cG, .slice m.oE m.exports.length m.cE, .int .i64 m.start, .slice m.oL m.elems.length m.cL, .slice m.oD m.data.length m.cD] 30)) w1) := HB.out.trans (b1.mono HB.out.size); clear b1)
      go_roundw
      case rel => exact ⟨k + 1, rfl, by omega, HP3, HB4⟩
      case measure => simp [intOf]; omega
     | false =>
      have HP3 : Hid (R = false) := HP2.out
      go_wp2_with (go_at_call 105; refine HFX.out.mono ?_; rintro r w1 ⟨rfl, b1⟩; have HB4 : Hid (Below w.heap.size w w1) := HBW.out.trans (b1.mono HBW.out.size); clear b1)
      rw [HP3.out]
      go_ret
      exact ⟨rfl, HB4.out⟩
   ·obtain rfl : k = t.n := by omega
    have hki1 : ¬ ((t.n : Int) < (t.n : Int)) := by omega
    have HP3 : Hid (R = true) := by
     have := HP.out
     rw [List.drop_of_length_le (by rw [HLN.out]; exact Nat.le_refl _)] at this
     exact this
    clear hlt hk HP HRR
    go_wp2
    rw [HP3.out]
    go_ret
    exact ⟨rfl, HBW.out⟩
 ·rw [decide_eq_false h0, Bool.false_and]
  go_enter Tryz.func70, Tryz.ntmps70
  go_wp2
  go_ret
  exact ⟨rfl, HB1.out⟩
end Go.Proofs.YtoikoijpkchamaaGreatDoor
namespace Go.Proofs.YtoikoijpkchamaaGreatDoor
open Go.RowKit
set_option linter.unusedVariables false
def mayB (d : GloD) (n : Int) : Bool := if d.m = true then decide ((if d.k = 127 then wrap32 n else n) = n) else decide (n = d.s)
theorem imay (d : GloD) (n : Int) (w : World) : Calls Tryz.prog 106 #[.agg #[.int .u8 d.k, .bool d.m, .int .i64 d.s], .int .i64 n] w fun r w' => r = .returned (.bool (mayB d n)) ∧ Below w.heap.size w w' := by
 obtain ⟨k, mu, s⟩ := d
 have hb1 : Below w.heap.size w (w.alloc (.cells #[.int .u8 k, .bool mu, .int .i64 s] 129)) := (Below.refl _ _).alloc (Nat.le_refl _) _
 have HB1 : Hid (type_of% hb1) := hb1
 have a1 := new_block w (.cells #[.int .u8 k, .bool mu, .int .i64 s] 129)
 have c0 : (w.alloc (.cells #[.int .u8 k, .bool mu, .int .i64 s] 129)).cell? ⟨w.heap.size, 0, none⟩ = some (.int .u8 k) := cell_at a1 0 rfl
 have c1 : (w.alloc (.cells #[.int .u8 k, .bool mu, .int .i64 s] 129)).cell? ⟨w.heap.size, 1, none⟩ = some (.bool mu) := cell_at a1 1 rfl
 have c2 : (w.alloc (.cells #[.int .u8 k, .bool mu, .int .i64 s] 129)).cell? ⟨w.heap.size, 2, none⟩ = some (.int .i64 s) := cell_at a1 2 rfl
 clear hb1 a1
 dsimp only
 unfold mayB
 dsimp only
 cases mu with
 | false =>
  rw [if_neg (by decide)]
  go_enter Tryz.func106, Tryz.ntmps106
  go_wp2
  go_ret
  exact ⟨by simp; rfl, HB1.out⟩
 | true =>
  rw [if_pos rfl]
  have HF : Hid (∀ W, Calls Tryz.prog 159 #[.int .u8 k, .int .i64 n] W fun e w' => e = .returned (.int .i64 (if k = 127 then wrap32 n else n)) ∧ w' = W) := fun W => by
   by_cases hk : k = 127
   ·rw [if_pos hk]
    subst hk
    exact pfit_32 n W
   ·rw [if_neg hk]
    exact pfit_else k n (by rw [beq_eq_false_iff_ne]; exact hk) W
  generalize (if k = 127 then wrap32 n else n) = v at *
  go_enter Tryz.func106, Tryz.ntmps106
  go_wp2_with (go_at_call 159; refine (HF.out _).mono ?_; rintro r w1 ⟨rfl, rfl⟩)
  go_ret
  exact ⟨by simp; rfl, HB1.out⟩
def gloB (m : ModD) (v : List Int) : Bool := decide ((v.length : Int) = (m.globals.length : Int)) && (m.globals.zip v).all (fun p => mayB p.1 p.2)
theorem iglo (m : ModD) (t : NumD) (w : World) (ht : t.ok .i64 w) (hm : m.ok w) :
  Calls Tryz.prog 71 #[.agg #[.slice m.oT m.types.length m.cT, .slice m.oI m.imports.length m.cI, .slice m.oF m.funcs.length m.cF, .int .i64 m.table, .int .i64 m.pages, .int .i64 m.most, .slice m.oG m.globals.length m.cG, .slice m.oE m.exports.length m.cE, .int .i64 m.start, .slice m.oL m.elems.length m.cL, .slice m.oD m.data.length m.cD], .slice t.o t.n t.cap] w fun r w' => r = .returned (.bool (gloB m t.xs)) ∧ Below w.heap.size w w' := by
 have hle := ht.le
 have hmost := ht.most
 have hgm := hm.globals.most
 have hgl := hm.globals.le
 unfold maxLen at hmost hgm
 have HT : Hid (t.ok .i64 w) := ht
 have HM : Hid (m.ok w) := hm
 have HLN : Hid (t.xs.length = t.n) := ht.len
 have hb1 : Below w.heap.size w (w.alloc (.cells #[.slice m.oT m.types.length m.cT, .slice m.oI m.imports.length m.cI, .slice m.oF m.funcs.length m.cF, .int .i64 m.table, .int .i64 m.pages, .int .i64 m.most, .slice m.oG m.globals.length m.cG, .slice m.oE m.exports.length m.cE, .int .i64 m.start, .slice m.oL m.elems.length m.cL, .slice m.oD m.data.length m.cD] 30)) := (Below.refl _ _).alloc (Nat.le_refl _) _
 have HB1 : Hid (type_of% hb1) := hb1
 have HS : Hid (∀ w', Below (w.alloc (.cells #[.slice m.oT m.types.length m.cT, .slice m.oI m.imports.length m.cI, .slice m.oF m.funcs.length m.cF, .int .i64 m.table, .int .i64 m.pages, .int .i64 m.most, .slice m.oG m.globals.length m.cG, .slice m.oE m.exports.length m.cE, .int .i64 m.start, .slice m.oL m.elems.length m.cL, .slice m.oD m.data.length m.cD] 30)).heap.size (w.alloc (.cells #[.slice m.oT m.types.length m.cT, .slice m.oI m.imports.length m.cI, .slice m.oF m.funcs.length m.cF, .int .i64 m.table, .int .i64 m.pages, .int .i64 m.most, .slice m.oG m.globals.length m.cG, .slice m.oE m.exports.length m.cE, .int .i64 m.start, .slice m.oL m.elems.length m.cL, .slice m.oD m.data.length m.cD] 30)) w' → w'.cell? ⟨w.heap.size, 0, none⟩ = some (.slice m.oT m.types.length m.cT) ∧ w'.cell? ⟨w.heap.size, 1, none⟩ = some (.slice m.oI m.imports.length m.cI) ∧ w'.cell? ⟨w.heap.size, 2, none⟩ = some (.slice m.oF m.funcs.length m.cF) ∧ w'.cell? ⟨w.heap.size, 3, none⟩ = some (.int .i64 m.table) ∧ w'.cell? ⟨w.heap.size, 4, none⟩ = some (.int .i64 m.pages) ∧ w'.cell? ⟨w.heap.size, 5, none⟩ = some (.int .i64 m.most) ∧ w'.cell? ⟨w.heap.size, 6, none⟩ = some (.slice m.oG m.globals.length m.cG) ∧ w'.cell? ⟨w.heap.size, 7, none⟩ = some (.slice m.oE m.exports.length m.cE) ∧ w'.cell? ⟨w.heap.size, 8, none⟩ = some (.int .i64 m.start) ∧ w'.cell? ⟨w.heap.size, 9, none⟩ = some (.slice m.oL m.elems.length m.cL) ∧ w'.cell? ⟨w.heap.size, 10, none⟩ = some (.slice m.oD m.data.length m.cD)) := fun w' bz => by
  have a1 := (bz.block w.heap.size (by simp)).trans (new_block w (.cells #[.slice m.oT m.types.length m.cT, .slice m.oI m.imports.length m.cI, .slice m.oF m.funcs.length m.cF, .int .i64 m.table, .int .i64 m.pages, .int .i64 m.most, .slice m.oG m.globals.length m.cG, .slice m.oE m.exports.length m.cE, .int .i64 m.start, .slice m.oL m.elems.length m.cL, .slice m.oD m.data.length m.cD] 30))
  exact ⟨cell_at a1 0 rfl, cell_at a1 1 rfl, cell_at a1 2 rfl, cell_at a1 3 rfl, cell_at a1 4 rfl, cell_at a1 5 rfl, cell_at a1 6 rfl, cell_at a1 7 rfl, cell_at a1 8 rfl, cell_at a1 9 rfl, cell_at a1 10 rfl⟩
 obtain ⟨f0, f1, f2, f3, f4, f5, f6, f7, f8, f9, f10⟩ := HS.out _ (Below.refl _ _)
 have HR : Hid (gloB m t.xs = (decide ((t.n : Int) = (m.globals.length : Int)) && (m.globals.zip t.xs).all (fun p => mayB p.1 p.2))) := by unfold Hid gloB; rw [HLN.out]
 rw [HR.out]
 clear hb1 ht hm HR
 by_cases h0 : (t.n : Int) = (m.globals.length : Int)
 ·rw [decide_eq_true h0, Bool.true_and]
  obtain ⟨R, hR⟩ : ∃ R, (m.globals.zip t.xs).all (fun p => mayB p.1 p.2) = R := ⟨_, rfl⟩
  have HRR : Hid (R = ((m.globals.zip t.xs).drop 0).all (fun p => mayB p.1 p.2)) := hR.symm
  rw [hR]
  have hne : ((t.n : Int) != (m.globals.length : Int)) = false := by rw [h0]; simp
  have HNN : Hid (t.n = m.globals.length) := by unfold Hid; omega
  clear h0 hR
  go_enter Tryz.func71, Tryz.ntmps71
  go_wp2
  clear f0 f1 f2 f3 f4 f5 f6 f7 f8 f9 f10 hne
  go_loopw [16] (fun i wr => ∃ k : Nat, i = .int .i64 k ∧ k ≤ m.globals.length ∧ Hid (R = ((m.globals.zip t.xs).drop k).all (fun p => mayB p.1 p.2)) ∧ Hid (Below w.heap.size w wr)) (fun i _ => m.globals.length - (intOf i).toNat)
  case atStart => exact ⟨0, rfl, by omega, HRR, HB1⟩
  case round =>
   obtain ⟨k, rfl, hk, HP, HB⟩ := hrel
   by_cases hlt : k < m.globals.length
   ·have hki1 : (k : Int) < (m.globals.length : Int) := by omega
    have hki0 : (0 : Int) ≤ (k : Int) := by omega
    have hkt : (k : Int) < (t.n : Int) := by have := HNN.out; omega
    obtain ⟨tb, tf, hto, htN, htc⟩ := HT.out.c (by have := HNN.out; omega)
    obtain ⟨bb, ff, ho, hbN, hc⟩ := HM.out.globals.cellAt (fun e => by rw [e] at hlt; exact absurd hlt (by simp))
    obtain ⟨d, hd⟩ : ∃ d, m.globals[k]! = d := ⟨_, rfl⟩
    have c0 := hc wr HB.out k hlt 0 (by omega)
    have c1 := hc wr HB.out k hlt 1 (by omega)
    have c2 := hc wr HB.out k hlt 2 (by omega)
    rw [hd] at c0 c1 c2
    obtain ⟨dk, dm, ds⟩ := d
    have c0' : wr.cell? ⟨bb, ff + k * 3, none⟩ = some (.int .u8 dk) := c0
    have c1' : wr.cell? ⟨bb, ff + k * 3 + 1, none⟩ = some (.bool dm) := c1
    have c2' : wr.cell? ⟨bb, ff + k * 3 + 2, none⟩ = some (.int .i64 ds) := c2
    obtain ⟨x, hx⟩ : ∃ x, t.xs.getD k 0 = x := ⟨_, rfl⟩
    have HBX : Hid (Below wr.heap.size wr (wr.alloc (.cells #[.int .u8 dk, .bool dm, .int .i64 ds] 129))) := (Below.refl _ _).alloc (Nat.le_refl _) _
    have HBY : Hid (Below w.heap.size w (wr.alloc (.cells #[.int .u8 dk, .bool dm, .int .i64 ds] 129))) := HB.out.trans (HBX.out.mono HB.out.size)
    have x0 := htc _ HBY.out k (by have := HNN.out; omega)
    rw [hx] at x0
    have a1 := new_block wr (.cells #[.int .u8 dk, .bool dm, .int .i64 ds] 129)
    have e0 : (wr.alloc (.cells #[.int .u8 dk, .bool dm, .int .i64 ds] 129)).cell? ⟨wr.heap.size, 0, none⟩ = some (.int .u8 dk) := cell_at a1 0 rfl
    have e1 : (wr.alloc (.cells #[.int .u8 dk, .bool dm, .int .i64 ds] 129)).cell? ⟨wr.heap.size, 1, none⟩ = some (.bool dm) := cell_at a1 1 rfl
    have e2 : (wr.alloc (.cells #[.int .u8 dk, .bool dm, .int .i64 ds] 129)).cell? ⟨wr.heap.size, 2, none⟩ = some (.int .i64 ds) := cell_at a1 2 rfl
    have HP2 : Hid (R = (mayB ⟨dk, dm, ds⟩ x && ((m.globals.zip t.xs).drop (k + 1)).all (fun p => mayB p.1 p.2))) := by
     have := HP.out
     have hl : k < (m.globals.zip t.xs).length := by rw [List.length_zip, HLN.out, HNN.out]; omega
     have hlx : k < t.xs.length := by rw [HLN.out, HNN.out]; exact hlt
     rw [List.drop_eq_getElem_cons hl, List.all_cons, List.getElem_zip] at this
     rw [getElem!_pos m.globals k hlt] at hd
     rw [List.getD_eq_getElem?_getD, List.getElem?_eq_getElem hlx] at hx
     rw [hd, show t.xs[k] = x from hx] at this
     exact this
    have HMY : Hid (∀ W, Calls Tryz.prog 106 #[.agg #[.int .u8 dk, .bool dm, .int .i64 ds], .int .i64 x] W fun r w' => r = .returned (.bool (mayB ⟨dk, dm, ds⟩ x)) ∧ Below W.heap.size W w') := fun W => imay ⟨dk, dm, ds⟩ x W
    obtain ⟨e, he⟩ : ∃ e, mayB ⟨dk, dm, ds⟩ x = e := ⟨_, rfl⟩
    rw [he] at HP2 HMY
    have HBX2 : Hid (∀ W, Below (wr.alloc (.cells #[.int .u8 dk, .bool dm, .int .i64 ds] 129)).heap.size (wr.alloc (.cells #[.int .u8 dk, .bool dm, .int .i64 ds] 129)) W → W.cell? ⟨wr.heap.size, 0, none⟩ = some (.int .u8 dk) ∧ W.cell? ⟨wr.heap.size, 1, none⟩ = some (.bool dm) ∧ W.cell? ⟨wr.heap.size, 2, none⟩ = some (.int .i64 ds) ∧ W.cell? ⟨tb, tf + k, none⟩ = some (.int .i64 x)) := fun W bW => by
     have q := (bW.block wr.heap.size (by simp)).trans a1
     exact ⟨cell_at q 0 rfl, cell_at q 1 rfl, cell_at q 2 rfl, (bW.cell (p := ⟨tb, tf + k, none⟩) (by have h1 := HB.out.size; simp; omega)).trans x0⟩
    rw [ho, hto]
    clear hc hx hd HP HRR a1 he c0 c1 c2 htc
    cases e with
    | true =>
     have HP3 : Hid (R = ((m.globals.zip t.xs).drop (k + 1)).all (fun p => mayB p.1 p.2)) := HP2.out
     go_wp2_with fail
     go_region_held3 (fun w' => w'.cell? ⟨wr.heap.size, 0, none⟩ = some (.int .u8 dk) ∧ w'.cell? ⟨wr.heap.size, 1, none⟩ = some (.bool dm) ∧ w'.cell? ⟨wr.heap.size, 2, none⟩ = some (.int .i64 ds) ∧ w'.cell? ⟨tb, tf + k, none⟩ = some (.int .i64 x))
      (first | exact HBX2.out _ (Below.refl _ _).drew | exact HBX2.out _ HBZ.out | go_keep)
      ((go_at_call 106; refine (HMY.out _).mono ?_; rintro r w1 ⟨rfl, b1⟩; have HBZ : Hid (Below (wr.alloc (.cells #[.int .u8 dk, .bool dm, .int .i64 ds] 129)).heap.size (wr.alloc (.cells #[.int .u8 dk, .bool dm, .int .i64 ds] 129)) w1) := (Below.refl _ _).drew.trans b1; have HB4 : Hid (Below w.heap.size w w1) := HBY.out.trans (HBZ.out.mono HBY.out.size); clear b1))
     go_wp2
     go_roundw
     case rel => exact ⟨k + 1, rfl, by omega, HP3, HB4⟩
     case measure => simp [intOf]; omega
    | false =>
     have HP3 : Hid (R = false) := HP2.out
     go_wp2_with fail
     go_region_held3 (fun w' => w'.cell? ⟨wr.heap.size, 0, none⟩ = some (.int .u8 dk) ∧ w'.cell? ⟨wr.heap.size, 1, none⟩ = some (.bool dm) ∧ w'.cell? ⟨wr.heap.size, 2, none⟩ = some (.int .i64 ds) ∧ w'.cell? ⟨tb, tf + k, none⟩ = some (.int .i64 x))
      (first | exact HBX2.out _ (Below.refl _ _).drew | exact HBX2.out _ HBZ.out | go_keep)
      ((go_at_call 106; refine (HMY.out _).mono ?_; rintro r w1 ⟨rfl, b1⟩; have HBZ : Hid (Below (wr.alloc (.cells #[.int .u8 dk, .bool dm, .int .i64 ds] 129)).heap.size (wr.alloc (.cells #[.int .u8 dk, .bool dm, .int .i64 ds] 129)) w1) := (Below.refl _ _).drew.trans b1; have HB4 : Hid (Below w.heap.size w w1) := HBY.out.trans (HBZ.out.mono HBY.out.size); clear b1))
     go_wp2
     rw [HP3.out]
     go_ret
     exact ⟨rfl, HB4.out⟩
   ·obtain rfl : k = m.globals.length := by omega
    have hki1 : ¬ ((m.globals.length : Int) < (m.globals.length : Int)) := by omega
    have HP3 : Hid (R = true) := by
     have := HP.out
     rw [List.drop_of_length_le (by rw [List.length_zip]; omega)] at this
     exact this
    clear hlt hk HP HRR
    go_wp2
    rw [HP3.out]
    go_ret
    exact ⟨rfl, HB.out⟩
 ·rw [decide_eq_false h0, Bool.false_and]
  go_enter Tryz.func71, Tryz.ntmps71
  go_wp2
  go_ret
  exact ⟨rfl, HB1.out⟩
end Go.Proofs.YtoikoijpkchamaaGreatDoor
