/-
 The program's own hasFunc, Func and Module.
 The laws' own sound.
 The laws' own bare and refused.
 The document's own Copy, of lists of parts.
-/
import Derived.Test.YtlfihndbnaaodaaGreatDoorIVL
import Derived.Laws.AppendOwn
import Derived.Laws.AppendOwnNone
import Derived.Laws.OwnMore
set_option maxHeartbeats 8000000
set_option maxRecDepth 1000000
namespace Go.Proofs.YtlfihndbnaaodaaGreatDoor
open Go.RowKit
set_option linter.unusedVariables false
theorem head_zero {m : ModD} (h : headErr m = 0) : mChk m = 0 ∧ typD m = 0 := by
 unfold headErr at h
 split at h
 ·rename_i h1
  refine ⟨h1, ?_⟩
  split at h
  ·rename_i h2
   rw [typD_eq, h2]
   rfl
  ·exact absurd h (by decide)
 ·rename_i h1
  exact absurd h h1
def hasE (m : ModD) (k : Int) : Int := if headErr m = 0 then (if 0 ≤ k ∧ k < (m.funcs.length : Int) then 0 else 1) else headErr m
def funV (m : ModD) (k : Int) : Int × Int := if hasE m k = 0 then firstV m k.toNat else (0, hasE m k)
def modE (m : ModD) : Int := fstE (headErr m) (frst (fun k => (firstV m k).2) (List.range' 0 m.funcs.length))
theorem has_zero {m : ModD} {k : Int} (h : hasE m k = 0) : headErr m = 0 ∧ 0 ≤ k ∧ k < (m.funcs.length : Int) := by
 unfold hasE at h
 split at h
 ·rename_i h1
  split at h
  ·rename_i h2
   exact ⟨h1, h2⟩
  ·exact absurd h (by decide)
 ·rename_i h1
  exact absurd h h1
theorem vhas (m : ModD) (k : Int) (w : World) (hA : Amb w) (hm : m.ok w) :
  Calls Tryz.prog 20 #[.agg #[.slice m.oT m.types.length m.cT, .slice m.oI m.imports.length m.cI, .slice m.oF m.funcs.length m.cF, .int .i64 m.table, .int .i64 m.pages, .int .i64 m.most, .slice m.oG m.globals.length m.cG, .slice m.oE m.exports.length m.cE, .int .i64 m.start, .slice m.oL m.elems.length m.cL, .slice m.oD m.data.length m.cD], .int .i64 k] w fun r w' => r = .returned (.int .i64 (hasE m k)) ∧ Below w.heap.size w w' := by
 have HHD : Hid (∀ W, Below w.heap.size w W → Calls Tryz.prog 24 #[.agg #[.slice m.oT m.types.length m.cT, .slice m.oI m.imports.length m.cI, .slice m.oF m.funcs.length m.cF, .int .i64 m.table, .int .i64 m.pages, .int .i64 m.most, .slice m.oG m.globals.length m.cG, .slice m.oE m.exports.length m.cE, .int .i64 m.start, .slice m.oL m.elems.length m.cL, .slice m.oD m.data.length m.cD]] W fun r w' => r = .returned (.int .i64 (headErr m)) ∧ Below W.heap.size W w') := fun W b => head_mod m W (hA.to (b.mono (by have := hA.2.2; omega))) (hm.below b)
 have hb1 : Below w.heap.size w (w.alloc (.cells #[.slice m.oT m.types.length m.cT, .slice m.oI m.imports.length m.cI, .slice m.oF m.funcs.length m.cF, .int .i64 m.table, .int .i64 m.pages, .int .i64 m.most, .slice m.oG m.globals.length m.cG, .slice m.oE m.exports.length m.cE, .int .i64 m.start, .slice m.oL m.elems.length m.cL, .slice m.oD m.data.length m.cD] 30)) := (Below.refl _ _).alloc (Nat.le_refl _) _
 have HB1 : Hid (type_of% hb1) := hb1
 have HS : Hid (∀ w', Below (w.alloc (.cells #[.slice m.oT m.types.length m.cT, .slice m.oI m.imports.length m.cI, .slice m.oF m.funcs.length m.cF, .int .i64 m.table, .int .i64 m.pages, .int .i64 m.most, .slice m.oG m.globals.length m.cG, .slice m.oE m.exports.length m.cE, .int .i64 m.start, .slice m.oL m.elems.length m.cL, .slice m.oD m.data.length m.cD] 30)).heap.size (w.alloc (.cells #[.slice m.oT m.types.length m.cT, .slice m.oI m.imports.length m.cI, .slice m.oF m.funcs.length m.cF, .int .i64 m.table, .int .i64 m.pages, .int .i64 m.most, .slice m.oG m.globals.length m.cG, .slice m.oE m.exports.length m.cE, .int .i64 m.start, .slice m.oL m.elems.length m.cL, .slice m.oD m.data.length m.cD] 30)) w' → w'.cell? ⟨w.heap.size, 0, none⟩ = some (.slice m.oT m.types.length m.cT) ∧ w'.cell? ⟨w.heap.size, 1, none⟩ = some (.slice m.oI m.imports.length m.cI) ∧ w'.cell? ⟨w.heap.size, 2, none⟩ = some (.slice m.oF m.funcs.length m.cF) ∧ w'.cell? ⟨w.heap.size, 3, none⟩ = some (.int .i64 m.table) ∧ w'.cell? ⟨w.heap.size, 4, none⟩ = some (.int .i64 m.pages) ∧ w'.cell? ⟨w.heap.size, 5, none⟩ = some (.int .i64 m.most) ∧ w'.cell? ⟨w.heap.size, 6, none⟩ = some (.slice m.oG m.globals.length m.cG) ∧ w'.cell? ⟨w.heap.size, 7, none⟩ = some (.slice m.oE m.exports.length m.cE) ∧ w'.cell? ⟨w.heap.size, 8, none⟩ = some (.int .i64 m.start) ∧ w'.cell? ⟨w.heap.size, 9, none⟩ = some (.slice m.oL m.elems.length m.cL) ∧ w'.cell? ⟨w.heap.size, 10, none⟩ = some (.slice m.oD m.data.length m.cD)) := fun w' bz => by
  have a1 := (bz.block w.heap.size (by simp)).trans (new_block w (.cells #[.slice m.oT m.types.length m.cT, .slice m.oI m.imports.length m.cI, .slice m.oF m.funcs.length m.cF, .int .i64 m.table, .int .i64 m.pages, .int .i64 m.most, .slice m.oG m.globals.length m.cG, .slice m.oE m.exports.length m.cE, .int .i64 m.start, .slice m.oL m.elems.length m.cL, .slice m.oD m.data.length m.cD] 30))
  exact ⟨cell_at a1 0 rfl, cell_at a1 1 rfl, cell_at a1 2 rfl, cell_at a1 3 rfl, cell_at a1 4 rfl, cell_at a1 5 rfl, cell_at a1 6 rfl, cell_at a1 7 rfl, cell_at a1 8 rfl, cell_at a1 9 rfl, cell_at a1 10 rfl⟩
 obtain ⟨f0, f1, f2, f3, f4, f5, f6, f7, f8, f9, f10⟩ := HS.out _ (Below.refl _ _)
 have HE : Hid (hasE m k = if headErr m = 0 then (if 0 ≤ k ∧ k < (m.funcs.length : Int) then 0 else 1) else headErr m) := rfl
 generalize hasE m k = V at *
 generalize headErr m = E at *
 clear hb1 hm hA
 go_enter Tryz.func20, Tryz.ntmps20
 go_wp2_with fail
 refine (HHD.out _ HB1.out).mono ?_
 rintro r w1 ⟨rfl, b1⟩
 obtain ⟨g0, g1, g2, g3, g4, g5, g6, g7, g8, g9, g10⟩ := HS.out _ b1
 have HB2 : Hid (Below w.heap.size w w1) := HB1.out.trans (b1.mono (by simp))
 clear b1 HS HHD HB1 f0 f1 f2 f3 f4 f5 f6 f7 f8 f9 f10
 by_cases hE : E = 0
 ·subst hE
  by_cases h0 : k < 0
  ·have HV : Hid (V = 1) := HE.out.trans ((if_pos rfl).trans (if_neg (by omega)))
   go_wp2
   go_ret
   exact ⟨by rw [HV.out]; rfl, HB2.out⟩
  ·by_cases h1 : k < (m.funcs.length : Int)
   ·have HV : Hid (V = 0) := HE.out.trans ((if_pos rfl).trans (if_pos (by omega)))
    go_wp2
    go_ret
    exact ⟨by rw [HV.out]; rfl, HB2.out⟩
   ·have HV : Hid (V = 1) := HE.out.trans ((if_pos rfl).trans (if_neg (by omega)))
    go_wp2
    go_ret
    exact ⟨by rw [HV.out]; rfl, HB2.out⟩
 ·have hb0 : (E == 0) = false := by rw [beq_eq_false_iff_ne]; exact hE
  have hn0 : (E != 0) = true := by rw [bne, hb0]; rfl
  go_wp2
  go_ret
  exact ⟨by rw [HE.out, if_neg hE]; rfl, HB2.out⟩
theorem vmodule (m : ModD) (w : World) (hA : Amb w) (hm : m.ok w) (hg : 1 < w.heap.size) :
  Calls Tryz.prog 10 #[.agg #[.slice m.oT m.types.length m.cT, .slice m.oI m.imports.length m.cI, .slice m.oF m.funcs.length m.cF, .int .i64 m.table, .int .i64 m.pages, .int .i64 m.most, .slice m.oG m.globals.length m.cG, .slice m.oE m.exports.length m.cE, .int .i64 m.start, .slice m.oL m.elems.length m.cL, .slice m.oD m.data.length m.cD]] w fun r w' => r = .returned (.int .i64 (modE m)) ∧ Below w.heap.size w w' := by
 have HHD : Hid (∀ W, Below w.heap.size w W → Calls Tryz.prog 24 #[.agg #[.slice m.oT m.types.length m.cT, .slice m.oI m.imports.length m.cI, .slice m.oF m.funcs.length m.cF, .int .i64 m.table, .int .i64 m.pages, .int .i64 m.most, .slice m.oG m.globals.length m.cG, .slice m.oE m.exports.length m.cE, .int .i64 m.start, .slice m.oL m.elems.length m.cL, .slice m.oD m.data.length m.cD]] W fun r w' => r = .returned (.int .i64 (headErr m)) ∧ Below W.heap.size W w') := fun W b => head_mod m W (hA.to (b.mono (by have := hA.2.2; omega))) (hm.below b)
 obtain ⟨n, hn⟩ : ∃ n, m.funcs.length = n := ⟨_, rfl⟩
 have hcm := hm.funcs.most
 have hcl := hm.funcs.le
 unfold maxLen at hcm
 rw [hn] at hcl
 have HFW : Hid (headErr m = 0 → ∀ j : Nat, j < n → ∀ W, Below w.heap.size w W → Calls Tryz.prog 21 #[.agg #[.slice m.oT m.types.length m.cT, .slice m.oI m.imports.length m.cI, .slice m.oF m.funcs.length m.cF, .int .i64 m.table, .int .i64 m.pages, .int .i64 m.most, .slice m.oG m.globals.length m.cG, .slice m.oE m.exports.length m.cE, .int .i64 m.start, .slice m.oL m.elems.length m.cL, .slice m.oD m.data.length m.cD], .int .i64 (j : Int)] W fun r w' => r = .returned (.tuple #[.int .i64 (firstV m j).1, .int .i64 (firstV m j).2]) ∧ Below W.heap.size W w') := fun hz j hj W b => by
  have := vfirst m (j : Int) W (hm.below b) (head_zero hz).1 (head_zero hz).2 (by omega) (by omega) (hA.to (b.mono (by have := hA.2.2; omega))).1 (Nat.lt_of_lt_of_le hg b.size)
  rw [Int.toNat_natCast] at this
  exact this
 have hb1 : Below w.heap.size w (w.alloc (.cells #[.slice m.oT m.types.length m.cT, .slice m.oI m.imports.length m.cI, .slice m.oF m.funcs.length m.cF, .int .i64 m.table, .int .i64 m.pages, .int .i64 m.most, .slice m.oG m.globals.length m.cG, .slice m.oE m.exports.length m.cE, .int .i64 m.start, .slice m.oL m.elems.length m.cL, .slice m.oD m.data.length m.cD] 30)) := (Below.refl _ _).alloc (Nat.le_refl _) _
 have HB1 : Hid (type_of% hb1) := hb1
 have HS : Hid (∀ w', Below (w.alloc (.cells #[.slice m.oT m.types.length m.cT, .slice m.oI m.imports.length m.cI, .slice m.oF m.funcs.length m.cF, .int .i64 m.table, .int .i64 m.pages, .int .i64 m.most, .slice m.oG m.globals.length m.cG, .slice m.oE m.exports.length m.cE, .int .i64 m.start, .slice m.oL m.elems.length m.cL, .slice m.oD m.data.length m.cD] 30)).heap.size (w.alloc (.cells #[.slice m.oT m.types.length m.cT, .slice m.oI m.imports.length m.cI, .slice m.oF m.funcs.length m.cF, .int .i64 m.table, .int .i64 m.pages, .int .i64 m.most, .slice m.oG m.globals.length m.cG, .slice m.oE m.exports.length m.cE, .int .i64 m.start, .slice m.oL m.elems.length m.cL, .slice m.oD m.data.length m.cD] 30)) w' → w'.cell? ⟨w.heap.size, 0, none⟩ = some (.slice m.oT m.types.length m.cT) ∧ w'.cell? ⟨w.heap.size, 1, none⟩ = some (.slice m.oI m.imports.length m.cI) ∧ w'.cell? ⟨w.heap.size, 2, none⟩ = some (.slice m.oF m.funcs.length m.cF) ∧ w'.cell? ⟨w.heap.size, 3, none⟩ = some (.int .i64 m.table) ∧ w'.cell? ⟨w.heap.size, 4, none⟩ = some (.int .i64 m.pages) ∧ w'.cell? ⟨w.heap.size, 5, none⟩ = some (.int .i64 m.most) ∧ w'.cell? ⟨w.heap.size, 6, none⟩ = some (.slice m.oG m.globals.length m.cG) ∧ w'.cell? ⟨w.heap.size, 7, none⟩ = some (.slice m.oE m.exports.length m.cE) ∧ w'.cell? ⟨w.heap.size, 8, none⟩ = some (.int .i64 m.start) ∧ w'.cell? ⟨w.heap.size, 9, none⟩ = some (.slice m.oL m.elems.length m.cL) ∧ w'.cell? ⟨w.heap.size, 10, none⟩ = some (.slice m.oD m.data.length m.cD)) := fun w' bz => by
  have a1 := (bz.block w.heap.size (by simp)).trans (new_block w (.cells #[.slice m.oT m.types.length m.cT, .slice m.oI m.imports.length m.cI, .slice m.oF m.funcs.length m.cF, .int .i64 m.table, .int .i64 m.pages, .int .i64 m.most, .slice m.oG m.globals.length m.cG, .slice m.oE m.exports.length m.cE, .int .i64 m.start, .slice m.oL m.elems.length m.cL, .slice m.oD m.data.length m.cD] 30))
  exact ⟨cell_at a1 0 rfl, cell_at a1 1 rfl, cell_at a1 2 rfl, cell_at a1 3 rfl, cell_at a1 4 rfl, cell_at a1 5 rfl, cell_at a1 6 rfl, cell_at a1 7 rfl, cell_at a1 8 rfl, cell_at a1 9 rfl, cell_at a1 10 rfl⟩
 obtain ⟨f0, f1, f2, f3, f4, f5, f6, f7, f8, f9, f10⟩ := HS.out _ (Below.refl _ _)
 have HE : Hid (modE m = fstE (headErr m) (frst (fun k => (firstV m k).2) (List.range' 0 n))) := by rw [← hn]; rfl
 generalize modE m = V at *
 generalize firstV m = F at *
 generalize headErr m = E at *
 rw [hn] at f0 f1 f2 f3 f4 f5 f6 f7 f8 f9 f10 HFW HHD HS HB1
 rw [hn]
 clear hb1 hm hA hn
 go_enter Tryz.func10, Tryz.ntmps10
 go_wp2_with fail
 refine (HHD.out _ HB1.out).mono ?_
 rintro r w1 ⟨rfl, b1⟩
 obtain ⟨g0, g1, g2, g3, g4, g5, g6, g7, g8, g9, g10⟩ := HS.out _ b1
 have HB2 : Hid (Below w.heap.size w w1) := HB1.out.trans (b1.mono (by simp))
 have HBV : Hid (type_of% b1) := b1
 clear b1 HHD f0 f1 f2 f3 f4 f5 f6 f7 f8 f9 f10
 by_cases hE : E = 0
 ·subst hE
  have HFZ : Hid (type_of% (HFW.out rfl)) := HFW.out rfl
  have HV0 : Hid (V = frst (fun k => (F k).2) (List.range' 0 (n - 0))) := HE.out.trans (if_pos rfl)
  clear HFW HE
  go_wp2
  go_loopw [15] (fun i wr => ∃ k : Nat, i = .int .i64 k ∧ k ≤ n ∧ Hid (V = frst (fun k => (F k).2) (List.range' k (n - k))) ∧ Hid (Below (w.alloc (.cells #[.slice m.oT m.types.length m.cT, .slice m.oI m.imports.length m.cI, .slice m.oF n m.cF, .int .i64 m.table, .int .i64 m.pages, .int .i64 m.most, .slice m.oG m.globals.length m.cG, .slice m.oE m.exports.length m.cE, .int .i64 m.start, .slice m.oL m.elems.length m.cL, .slice m.oD m.data.length m.cD] 30)).heap.size (w.alloc (.cells #[.slice m.oT m.types.length m.cT, .slice m.oI m.imports.length m.cI, .slice m.oF n m.cF, .int .i64 m.table, .int .i64 m.pages, .int .i64 m.most, .slice m.oG m.globals.length m.cG, .slice m.oE m.exports.length m.cE, .int .i64 m.start, .slice m.oL m.elems.length m.cL, .slice m.oD m.data.length m.cD] 30)) wr)) (fun i _ => n - (intOf i).toNat)
  case atStart => exact ⟨0, rfl, by omega, HV0, HBV⟩
  case round =>
   obtain ⟨k, rfl, hk, HV, HBR⟩ := hrel
   clear HV0 HBV HB2 g0 g1 g2 g3 g4 g5 g6 g7 g8 g9 g10
   obtain ⟨f0, f1, f2, f3, f4, f5, f6, f7, f8, f9, f10⟩ := HS.out _ HBR.out
   have HB4 : Hid (Below w.heap.size w wr) := HB1.out.trans (HBR.out.mono (by simp))
   by_cases hlt : k < n
   ·have HFK : Hid (type_of% (HFZ.out k hlt)) := HFZ.out k hlt
    have HV1 : Hid (V = fstE (F k).2 (frst (fun k => (F k).2) (List.range' (k + 1) (n - (k + 1))))) := by
     have := HV.out
     rw [show n - k = (n - (k + 1)) + 1 by omega, List.range'_succ] at this
     exact this
    clear HV HFZ
    have hki0 : (0 : Int) ≤ (k : Int) := by omega
    have hki1 : (k : Int) < (n : Int) := by omega
    generalize F k = z at *
    obtain ⟨z1, z2⟩ := z
    dsimp only at *
    go_wp2_with fail
    refine (HFK.out _ HB4.out).mono ?_
    rintro r w2 ⟨rfl, b2⟩
    have HB5 : Hid (Below (w.alloc (.cells #[.slice m.oT m.types.length m.cT, .slice m.oI m.imports.length m.cI, .slice m.oF n m.cF, .int .i64 m.table, .int .i64 m.pages, .int .i64 m.most, .slice m.oG m.globals.length m.cG, .slice m.oE m.exports.length m.cE, .int .i64 m.start, .slice m.oL m.elems.length m.cL, .slice m.oD m.data.length m.cD] 30)).heap.size (w.alloc (.cells #[.slice m.oT m.types.length m.cT, .slice m.oI m.imports.length m.cI, .slice m.oF n m.cF, .int .i64 m.table, .int .i64 m.pages, .int .i64 m.most, .slice m.oG m.globals.length m.cG, .slice m.oE m.exports.length m.cE, .int .i64 m.start, .slice m.oL m.elems.length m.cL, .slice m.oD m.data.length m.cD] 30)) w2) := HBR.out.trans (b2.mono HBR.out.size)
    have HB6 : Hid (Below w.heap.size w w2) := HB4.out.trans (b2.mono HB4.out.size)
    clear b2 HFK HBR HB4 f0 f1 f2 f3 f4 f5 f6 f7 f8 f9 f10
    by_cases hz : z2 = 0
    ·subst hz
     have HV2 : Hid (V = frst (fun k => (F k).2) (List.range' (k + 1) (n - (k + 1)))) := HV1.out.trans (if_pos rfl)
     clear HV1
     go_wp2
     go_roundw
     case rel => exact ⟨k + 1, by go_num, by omega, HV2, HB5⟩
     case measure => simp [intOf]; omega
    ·have hb0 : (z2 == 0) = false := by rw [beq_eq_false_iff_ne]; exact hz
     have hn0 : (z2 != 0) = true := by rw [bne, hb0]; rfl
     have HV2 : Hid (V = z2) := HV1.out.trans (if_neg hz)
     clear HV1
     go_wp2
     go_ret
     exact ⟨by rw [HV2.out]; rfl, HB6.out⟩
   ·have HV2 : Hid (V = 0) := by
     have := HV.out
     rw [show n - k = 0 by omega] at this
     exact this
    clear HV HFZ
    go_wp2
    go_ret
    exact ⟨by rw [HV2.out]; rfl, HB4.out⟩
 ·have hb0 : (E == 0) = false := by rw [beq_eq_false_iff_ne]; exact hE
  have hn0 : (E != 0) = true := by rw [bne, hb0]; rfl
  have HV : Hid (V = E) := HE.out.trans (if_neg hE)
  go_wp2
  go_ret
  exact ⟨by rw [HV.out]; rfl, HB2.out⟩
end Go.Proofs.YtlfihndbnaaodaaGreatDoor
namespace Go.Proofs.YtlfihndbnaaodaaGreatDoor
open Go.RowKit
set_option linter.unusedVariables false
theorem rest_v (n m k : Int) (_hm0 : 0 < m) (_hm1 : m ≤ 1000000) (hk : n % m = k) (_hn0 : -9223372036854775808 ≤ n) (_hn1 : n ≤ 9223372036854775807) (w : World) :
  Calls Tryz.prog 29 #[.int .i64 n, .int .i64 m] w fun e w' => e = .returned (.int .i64 k) ∧ w' = w := by
 have ht : n.tmod m = if 0 ≤ n ∨ n % m = 0 then n % m else n % m - m := by
  rw [Int.tmod_eq_emod]
  have hd : (m ∣ n) ↔ n % m = 0 := Int.dvd_iff_emod_eq_zero
  by_cases h1 : 0 ≤ n ∨ n % m = 0
  ·rw [if_pos h1, if_pos (by rcases h1 with h1 | h1; exact Or.inl h1; exact Or.inr (hd.2 h1))]
   omega
  ·rw [if_neg h1, if_neg (by intro h; apply h1; rcases h with h | h; exact Or.inl h; exact Or.inr (hd.1 h))]
   omega
 have h0 := Int.emod_nonneg n (b := m) (by omega)
 have h1 := Int.emod_lt_of_pos n _hm0
 rw [hk] at h0 h1 ht
 obtain ⟨t, htt⟩ : ∃ t, n.tmod m = t := ⟨_, rfl⟩
 rw [htt] at ht
 by_cases hneg : t < 0
 ·have e : t + m = k := by
   split at ht <;> omega
  have e' : k = t + m := e.symm
  subst e'
  have hlo : -1000000 ≤ t := by omega
  clear ht hk h0 h1
  go_enter Tryz.func29, Tryz.ntmps29
  go_wp2
  go_ret
  exact ⟨rfl, rfl⟩
 ·have e : t = k := by
   split at ht <;> omega
  subst e
  clear ht hk
  go_enter Tryz.func29, Tryz.ntmps29
  go_wp2
  go_ret
  exact ⟨rfl, rfl⟩
def soundV (m : ModD) (at' k : Int) : Int × Int × Bool := if modE m = 0 ∧ m.funcs.length ≠ 0 then (at' % (m.funcs.length : Int), k % ((m.funcs[(at' % (m.funcs.length : Int)).toNat]!).b.length : Int), true) else (0, 0, false)
theorem mod_zero {m : ModD} (h : modE m = 0) : headErr m = 0 ∧ ∀ k, k < m.funcs.length → (firstV m k).2 = 0 := by
 obtain ⟨h1, h2⟩ := fstE_eq0 h
 exact ⟨h1, fun k hk => frst_eq0 h2 k (by rw [List.mem_range'_1]; omega)⟩
theorem body_some {L : List InsD} (h : nChk L = 0) : 0 < L.length := by
 cases L with
 | nil => exact absurd h (by decide)
 | cons x L => simp
theorem vsound (m : ModD) (at' k : Int) (w : World) (hA : Amb w) (hm : m.ok w) (hg : 1 < w.heap.size) (ha : inI at') (hk : inI k) :
  Calls Tryz.prog 16 #[.agg #[.slice m.oT m.types.length m.cT, .slice m.oI m.imports.length m.cI, .slice m.oF m.funcs.length m.cF, .int .i64 m.table, .int .i64 m.pages, .int .i64 m.most, .slice m.oG m.globals.length m.cG, .slice m.oE m.exports.length m.cE, .int .i64 m.start, .slice m.oL m.elems.length m.cL, .slice m.oD m.data.length m.cD], .int .i64 at', .int .i64 k] w fun r w' => r = .returned (.tuple #[.int .i64 (soundV m at' k).1, .int .i64 (soundV m at' k).2.1, .bool (soundV m at' k).2.2]) ∧ Below w.heap.size w w' := by
 have HMD : Hid (∀ W, Below w.heap.size w W → Calls Tryz.prog 10 #[.agg #[.slice m.oT m.types.length m.cT, .slice m.oI m.imports.length m.cI, .slice m.oF m.funcs.length m.cF, .int .i64 m.table, .int .i64 m.pages, .int .i64 m.most, .slice m.oG m.globals.length m.cG, .slice m.oE m.exports.length m.cE, .int .i64 m.start, .slice m.oL m.elems.length m.cL, .slice m.oD m.data.length m.cD]] W fun r w' => r = .returned (.int .i64 (modE m)) ∧ Below W.heap.size W w') := fun W b => vmodule m W (hA.to (b.mono (by have := hA.2.2; omega))) (hm.below b) (Nat.lt_of_lt_of_le hg b.size)
 have hcm := hm.funcs.most
 have hcl := hm.funcs.le
 unfold maxLen at hcm
 have hb1 : Below w.heap.size w (w.alloc (.cells #[.slice m.oT m.types.length m.cT, .slice m.oI m.imports.length m.cI, .slice m.oF m.funcs.length m.cF, .int .i64 m.table, .int .i64 m.pages, .int .i64 m.most, .slice m.oG m.globals.length m.cG, .slice m.oE m.exports.length m.cE, .int .i64 m.start, .slice m.oL m.elems.length m.cL, .slice m.oD m.data.length m.cD] 30)) := (Below.refl _ _).alloc (Nat.le_refl _) _
 have HB1 : Hid (type_of% hb1) := hb1
 have HS : Hid (∀ w', Below (w.alloc (.cells #[.slice m.oT m.types.length m.cT, .slice m.oI m.imports.length m.cI, .slice m.oF m.funcs.length m.cF, .int .i64 m.table, .int .i64 m.pages, .int .i64 m.most, .slice m.oG m.globals.length m.cG, .slice m.oE m.exports.length m.cE, .int .i64 m.start, .slice m.oL m.elems.length m.cL, .slice m.oD m.data.length m.cD] 30)).heap.size (w.alloc (.cells #[.slice m.oT m.types.length m.cT, .slice m.oI m.imports.length m.cI, .slice m.oF m.funcs.length m.cF, .int .i64 m.table, .int .i64 m.pages, .int .i64 m.most, .slice m.oG m.globals.length m.cG, .slice m.oE m.exports.length m.cE, .int .i64 m.start, .slice m.oL m.elems.length m.cL, .slice m.oD m.data.length m.cD] 30)) w' → w'.cell? ⟨w.heap.size, 0, none⟩ = some (.slice m.oT m.types.length m.cT) ∧ w'.cell? ⟨w.heap.size, 1, none⟩ = some (.slice m.oI m.imports.length m.cI) ∧ w'.cell? ⟨w.heap.size, 2, none⟩ = some (.slice m.oF m.funcs.length m.cF) ∧ w'.cell? ⟨w.heap.size, 3, none⟩ = some (.int .i64 m.table) ∧ w'.cell? ⟨w.heap.size, 4, none⟩ = some (.int .i64 m.pages) ∧ w'.cell? ⟨w.heap.size, 5, none⟩ = some (.int .i64 m.most) ∧ w'.cell? ⟨w.heap.size, 6, none⟩ = some (.slice m.oG m.globals.length m.cG) ∧ w'.cell? ⟨w.heap.size, 7, none⟩ = some (.slice m.oE m.exports.length m.cE) ∧ w'.cell? ⟨w.heap.size, 8, none⟩ = some (.int .i64 m.start) ∧ w'.cell? ⟨w.heap.size, 9, none⟩ = some (.slice m.oL m.elems.length m.cL) ∧ w'.cell? ⟨w.heap.size, 10, none⟩ = some (.slice m.oD m.data.length m.cD)) := fun w' bz => by
  have a1 := (bz.block w.heap.size (by simp)).trans (new_block w (.cells #[.slice m.oT m.types.length m.cT, .slice m.oI m.imports.length m.cI, .slice m.oF m.funcs.length m.cF, .int .i64 m.table, .int .i64 m.pages, .int .i64 m.most, .slice m.oG m.globals.length m.cG, .slice m.oE m.exports.length m.cE, .int .i64 m.start, .slice m.oL m.elems.length m.cL, .slice m.oD m.data.length m.cD] 30))
  exact ⟨cell_at a1 0 rfl, cell_at a1 1 rfl, cell_at a1 2 rfl, cell_at a1 3 rfl, cell_at a1 4 rfl, cell_at a1 5 rfl, cell_at a1 6 rfl, cell_at a1 7 rfl, cell_at a1 8 rfl, cell_at a1 9 rfl, cell_at a1 10 rfl⟩
 obtain ⟨f0, f1, f2, f3, f4, f5, f6, f7, f8, f9, f10⟩ := HS.out _ (Below.refl _ _)
 have HSV : Hid (soundV m at' k = if modE m = 0 ∧ m.funcs.length ≠ 0 then (at' % (m.funcs.length : Int), k % ((m.funcs[(at' % (m.funcs.length : Int)).toNat]!).b.length : Int), true) else (0, 0, false)) := rfl
 generalize soundV m at' k = V at *
 have HM : Hid (m.ok w) := hm
 have HZ : Hid (modE m = 0 → mChk m = 0) := fun h => (head_zero (mod_zero h).1).1
 generalize modE m = E at *
 clear hb1 hm hA hg
 by_cases hE : E = 0
 ·subst hE
  by_cases hn : m.funcs.length = 0
  ·have HV : Hid (V = (0, 0, false)) := HSV.out.trans (if_neg (fun c => c.2 hn))
   have hn' : ((m.funcs.length : Nat) : Int) = 0 := by omega
   have HN : Hid (type_of% hn') := hn'
   have hn2 : (((m.funcs.length : Nat) : Int) == 0) = true := by rw [hn']; rfl
   clear HSV HZ hn hn'
   go_enter Tryz.func16, Tryz.ntmps16
   go_wp2_with fail
   refine (HMD.out _ HB1.out).mono ?_
   rintro r w1 ⟨rfl, b1⟩
   obtain ⟨g0, g1, g2, g3, g4, g5, g6, g7, g8, g9, g10⟩ := HS.out _ b1
   have HB2 : Hid (Below w.heap.size w w1) := HB1.out.trans (b1.mono (by simp))
   clear b1 HS HMD HB1 f0 f1 f2 f3 f4 f5 f6 f7 f8 f9 f10
   go_wp2
   go_ret3
   exact ⟨by rw [HV.out]; rfl, HB2.out⟩
  ·have HV := HSV.out.trans (if_pos ⟨rfl, hn⟩)
   have sm := mod_small HM.out (HZ.out rfl)
   have gf := fair_of HM.out (HZ.out rfl)
   have hnF := gf.nF
   obtain ⟨F, hF⟩ : ∃ F, m.funcs.length = F := ⟨_, rfl⟩
   have hp : 0 < F := by omega
   have a0 := Int.emod_nonneg at' (b := (F : Int)) (by omega)
   have a1 := Int.emod_lt_of_pos at' (b := (F : Int)) (by omega)
   have HR1 : Hid (∀ W, Calls Tryz.prog 29 #[.int .i64 at', .int .i64 (F : Int)] W fun e w' => e = .returned (.int .i64 (at' % (F : Int))) ∧ w' = W) := fun W => rest_v at' F _ (by omega) (by omega) rfl ha.1 ha.2 W
   rw [hF] at HV
   obtain ⟨j, hj⟩ : ∃ j, at' % (F : Int) = j := ⟨_, rfl⟩
   rw [hj] at HV HR1 a0 a1
   have hi : j.toNat < m.funcs.length := by omega
   obtain ⟨bb, ff, ho, hbN, hc⟩ := HM.out.funcs.cellAt (fun e => by rw [e] at hi; exact absurd hi (by simp))
   have hfs := sm.2 _ (List.getElem_mem hi)
   rw [← getElem!_pos m.funcs _ hi] at hfs
   have hcc := fun w' b => hc w' b j.toNat hi 2 (by omega)
   clear hc
   generalize m.funcs[j.toNat]! = d at *
   have hbp := body_some hfs.1
   have hbl := RunI.len hfs.1
   have e2 : ∀ w', Below w.heap.size w w' → w'.cell? ⟨bb, ff + j.toNat * 3 + 2, none⟩ = some (.slice d.o d.b.length d.cap) := fun w' b => hcc w' b
   have HE2 : Hid (type_of% e2) := e2
   have HR2 : Hid (∀ W, Calls Tryz.prog 29 #[.int .i64 k, .int .i64 (d.b.length : Int)] W fun e w' => e = .returned (.int .i64 (k % (d.b.length : Int))) ∧ w' = W) := fun W => rest_v k d.b.length _ (by omega) (by omega) rfl hk.1 hk.2 W
   have HVV : Hid (type_of% HV) := HV
   obtain ⟨bo, bl, bc, hbo⟩ : ∃ bo bl bc, bo = d.o ∧ bl = d.b.length ∧ bc = d.cap := ⟨_, _, _, rfl, rfl, rfl⟩
   rw [← hbo.1, ← hbo.2.1, ← hbo.2.2] at HE2
   rw [← hbo.2.1] at HR2 HVV hbp hbl
   have hnz : ((F : Int) == 0) = false := by rw [beq_eq_false_iff_ne]; omega
   have hF0 : F ≤ m.cF := by omega
   rw [ho, hF] at f2
   rw [ho, hF] at HS HMD HB1
   rw [ho, hF]
   clear HSV HZ HV hcc e2 hfs sm gf hi hj hF ho hbo hn hcl HM hnF
   go_enter Tryz.func16, Tryz.ntmps16
   go_wp2_with fail
   refine (HMD.out _ HB1.out).mono ?_
   rintro r w1 ⟨rfl, b1⟩
   obtain ⟨g0, g1, g2, g3, g4, g5, g6, g7, g8, g9, g10⟩ := HS.out _ b1
   have HB2 : Hid (Below w.heap.size w w1) := HB1.out.trans (b1.mono (by simp))
   have c9 := HE2.out _ HB2.out
   clear b1 HS HMD HB1 HE2 f0 f1 f2 f3 f4 f5 f6 f7 f8 f9 f10
   go_wp2_with fail
   refine (HR1.out _).mono ?_
   rintro r _ ⟨rfl, rfl⟩
   go_wp2_with fail
   refine (HR2.out _).mono ?_
   rintro r _ ⟨rfl, rfl⟩
   go_wp2
   go_ret3
   exact ⟨by rw [HVV.out]; rfl, HB2.out⟩
 ·have hb0 : (E == 0) = false := by rw [beq_eq_false_iff_ne]; exact hE
  have hn0 : (E != 0) = true := by rw [bne, hb0]; rfl
  have HV : Hid (V = (0, 0, false)) := HSV.out.trans (if_neg (fun c => hE c.1))
  clear HSV HZ
  go_enter Tryz.func16, Tryz.ntmps16
  go_wp2_with fail
  refine (HMD.out _ HB1.out).mono ?_
  rintro r w1 ⟨rfl, b1⟩
  obtain ⟨g0, g1, g2, g3, g4, g5, g6, g7, g8, g9, g10⟩ := HS.out _ b1
  have HB2 : Hid (Below w.heap.size w w1) := HB1.out.trans (b1.mono (by simp))
  clear b1 HS HMD HB1 f0 f1 f2 f3 f4 f5 f6 f7 f8 f9 f10
  go_wp2
  go_ret3
  exact ⟨by rw [HV.out]; rfl, HB2.out⟩
end Go.Proofs.YtlfihndbnaaodaaGreatDoor
namespace Go.Proofs.YtlfihndbnaaodaaGreatDoor
open Go.RowKit
set_option linter.unusedVariables false
theorem vbare (o : Option Addr) (n cap : Nat) (w : World) :
  Calls Tryz.prog 18 #[.slice o n cap] w fun r w' => ∃ T F : Nat, r = .returned (.agg #[.slice (some ⟨T, 0, none⟩) 1 1, .slice none 0 0, .slice (some ⟨F, 0, none⟩) 1 1, .int .i64 0, .int .i64 0, .int .i64 0, .slice none 0 0, .slice none 0 0, .int .i64 0, .slice none 0 0, .slice none 0 0]) ∧ w'.heap[T]? = some (.cells #[.slice none 0 0, .slice none 0 0] 83 (0, 0)) ∧ w'.heap[F]? = some (.cells #[.int .i64 0, .slice none 0 0, .slice o n cap] 59 (0, 0)) ∧ Below w.heap.size w w' := by
 have z2 : ((w.alloc (.cells #[.slice (some ⟨w.heap.size + 1, 0, none⟩) 1 1, .slice none 0 0, .slice (some ⟨w.heap.size + 1 + 1, 0, none⟩) 1 1, .int .i64 0, .int .i64 0, .int .i64 0, .slice none 0 0, .slice none 0 0, .int .i64 0, .slice none 0 0, .slice none 0 0] 30)).alloc (.cells #[.slice none 0 0, .slice none 0 0] 83)).heap.size = w.heap.size + 1 + 1 := by simp
 have HQ : Hid ((((w.alloc (.cells #[.slice (some ⟨w.heap.size + 1, 0, none⟩) 1 1, .slice none 0 0, .slice (some ⟨w.heap.size + 1 + 1, 0, none⟩) 1 1, .int .i64 0, .int .i64 0, .int .i64 0, .slice none 0 0, .slice none 0 0, .int .i64 0, .slice none 0 0, .slice none 0 0] 30)).alloc (.cells #[.slice none 0 0, .slice none 0 0] 83)).alloc (.cells #[.int .i64 0, .slice none 0 0, .slice o n cap] 59)).heap[w.heap.size]? = some (.cells #[.slice (some ⟨w.heap.size + 1, 0, none⟩) 1 1, .slice none 0 0, .slice (some ⟨w.heap.size + 1 + 1, 0, none⟩) 1 1, .int .i64 0, .int .i64 0, .int .i64 0, .slice none 0 0, .slice none 0 0, .int .i64 0, .slice none 0 0, .slice none 0 0] 30 (0, 0))) := old_block' _ _ _ (by rw [z2]; omega) (old_block' _ _ _ (by simp) (new_block' _ _ _ _ rfl))
 have HT : Hid ((((w.alloc (.cells #[.slice (some ⟨w.heap.size + 1, 0, none⟩) 1 1, .slice none 0 0, .slice (some ⟨w.heap.size + 1 + 1, 0, none⟩) 1 1, .int .i64 0, .int .i64 0, .int .i64 0, .slice none 0 0, .slice none 0 0, .int .i64 0, .slice none 0 0, .slice none 0 0] 30)).alloc (.cells #[.slice none 0 0, .slice none 0 0] 83)).alloc (.cells #[.int .i64 0, .slice none 0 0, .slice o n cap] 59)).heap[w.heap.size + 1]? = some (.cells #[.slice none 0 0, .slice none 0 0] 83 (0, 0))) := old_block' _ _ _ (by rw [z2]; omega) (new_block' _ _ _ _ (by simp))
 have HF : Hid ((((w.alloc (.cells #[.slice (some ⟨w.heap.size + 1, 0, none⟩) 1 1, .slice none 0 0, .slice (some ⟨w.heap.size + 1 + 1, 0, none⟩) 1 1, .int .i64 0, .int .i64 0, .int .i64 0, .slice none 0 0, .slice none 0 0, .int .i64 0, .slice none 0 0, .slice none 0 0] 30)).alloc (.cells #[.slice none 0 0, .slice none 0 0] 83)).alloc (.cells #[.int .i64 0, .slice none 0 0, .slice o n cap] 59)).heap[w.heap.size + 1 + 1]? = some (.cells #[.int .i64 0, .slice none 0 0, .slice o n cap] 59 (0, 0))) := new_block' _ _ _ _ z2.symm
 have HB : Hid (Below w.heap.size w (((w.alloc (.cells #[.slice (some ⟨w.heap.size + 1, 0, none⟩) 1 1, .slice none 0 0, .slice (some ⟨w.heap.size + 1 + 1, 0, none⟩) 1 1, .int .i64 0, .int .i64 0, .int .i64 0, .slice none 0 0, .slice none 0 0, .int .i64 0, .slice none 0 0, .slice none 0 0] 30)).alloc (.cells #[.slice none 0 0, .slice none 0 0] 83)).alloc (.cells #[.int .i64 0, .slice none 0 0, .slice o n cap] 59))) := (((Below.refl _ _).alloc (Nat.le_refl _) _).alloc (by simp) _).alloc (by rw [z2]; omega) _
 clear z2
 go_enter Tryz.func18, Tryz.ntmps18
 go_wp2
 refine bodyPost_ret (results_cell_row rfl _ _ w.heap.size 30 #[.slice (some ⟨w.heap.size + 1, 0, none⟩) 1 1, .slice none 0 0, .slice (some ⟨w.heap.size + 1 + 1, 0, none⟩) 1 1, .int .i64 0, .int .i64 0, .int .i64 0, .slice none 0 0, .slice none 0 0, .int .i64 0, .slice none 0 0, .slice none 0 0] (0, 0) _ rfl HQ.out Tryz.underlying30 rfl infoMod) rfl ?_
 exact ⟨_, _, rfl, HT.out, HF.out, HB.out⟩
theorem rows_none {α : Type} (w : World) (k : Nat) (cs : α → List Value) (ok : World → α → Prop) : RowsOf w k cs ok none 0 [] := ⟨Nat.le_refl _, Nat.zero_le _, fun _ => rfl, fun _ h => (by cases h), Or.inl rfl⟩
theorem num_none (w : World) : (default : NumD).ok .u8 w := ⟨Nat.le_refl _, Nat.zero_le _, rfl, fun _ => rfl, fun _ h => (by cases h), Or.inl rfl⟩
end Go.Proofs.YtlfihndbnaaodaaGreatDoor
namespace Go.Proofs.YtlfihndbnaaodaaGreatDoor
open Go.RowKit
set_option linter.unusedVariables false
theorem infoK9 : (Tryz.prog.info? 69).map (fun i => (i.zero, i.size, i.bytes)) = some (some (.int .u8 0), 1, 1) := by kernel_rfl
end Go.Proofs.YtlfihndbnaaodaaGreatDoor
