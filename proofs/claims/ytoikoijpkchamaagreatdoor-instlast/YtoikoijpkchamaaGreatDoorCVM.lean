/-
 The program's own hasFunc, Func and Module.
 The laws' own sound.
 The document's own Copy, of lists of parts.
-/
import Derived.Test.YtoikoijpkchamaaGreatDoorCVL
import Derived.Laws.AppendOwn
import Derived.Laws.AppendOwnNone
import Derived.Laws.OwnMore
set_option maxHeartbeats 4000000
set_option maxRecDepth 1000000
namespace Go.Proofs.YtoikoijpkchamaaGreatDoor
open Go.RowKit
set_option linter.unusedVariables false
theorem head_zero {m : ModD} (h : headErr m = 0) : mChk m = 0 ∧ typD m = 0 := by
 unfold headErr at h
 split at h
 ·rename_i h1
  refine ⟨h1, ?_⟩
  split at h
  ·rename_i h2
   rw [typD_eq, h2]
   rfl
  ·exact absurd h (by decide)
 ·rename_i h1
  exact absurd h h1
def hasE (m : ModD) (k : Int) : Int := if headErr m = 0 then (if 0 ≤ k ∧ k < (m.funcs.length : Int) then 0 else 1) else headErr m
def modE (m : ModD) : Int := fstE (headErr m) (frst (fun k => (firstV m k).2) (List.range' 0 m.funcs.length))
theorem vhas (m : ModD) (k : Int) (w : World) (hA : Amb w) (hm : m.ok w) :
  Calls Tryz.prog 45 #[.agg #[.slice m.oT m.types.length m.cT, .slice m.oI m.imports.length m.cI, .slice m.oF m.funcs.length m.cF, .int .i64 m.table, .int .i64 m.pages, .int .i64 m.most, .slice m.oG m.globals.length m.cG, .slice m.oE m.exports.length m.cE, .int .i64 m.start, .slice m.oL m.elems.length m.cL, .slice m.oD m.data.length m.cD], .int .i64 k] w fun r w' => r = .returned (.int .i64 (hasE m k)) ∧ Below w.heap.size w w' := by
 have HHD : Hid (∀ W, Below w.heap.size w W → Calls Tryz.prog 49 #[.agg #[.slice m.oT m.types.length m.cT, .slice m.oI m.imports.length m.cI, .slice m.oF m.funcs.length m.cF, .int .i64 m.table, .int .i64 m.pages, .int .i64 m.most, .slice m.oG m.globals.length m.cG, .slice m.oE m.exports.length m.cE, .int .i64 m.start, .slice m.oL m.elems.length m.cL, .slice m.oD m.data.length m.cD]] W fun r w' => r = .returned (.int .i64 (headErr m)) ∧ Below W.heap.size W w') := fun W b => head_mod m W (hA.to (b.mono (by have := hA.2.2; omega))) (hm.below b)
 have hb1 : Below w.heap.size w (w.alloc (.cells #[.slice m.oT m.types.length m.cT, .slice m.oI m.imports.length m.cI, .slice m.oF m.funcs.length m.cF, .int .i64 m.table, .int .i64 m.pages, .int .i64 m.most, .slice m.oG m.globals.length m.cG, .slice m.oE m.exports.length m.cE, .int .i64 m.start, .slice m.oL m.elems.length m.cL, .slice m.oD m.data.length m.cD] 30)) := (Below.refl _ _).alloc (Nat.le_refl _) _
 have HB1 : Hid (type_of% hb1) := hb1
 have HS : Hid (∀ w', Below (w.alloc (.cells #[.slice m.oT m.types.length m.cT, .slice m.oI m.imports.length m.cI, .slice m.oF m.funcs.length m.cF, .int .i64 m.table, .int .i64 m.pages, .int .i64 m.most, .slice m.oG m.globals.length m.cG, .slice m.oE m.exports.length m.cE, .int .i64 m.start, .slice m.oL m.elems.length m.cL, .slice m.oD m.data.length m.cD] 30)).heap.size (w.alloc (.cells #[.slice m.oT m.types.length m.cT, .slice m.oI m.imports.length m.cI, .slice m.oF m.funcs.length m.cF, .int .i64 m.table, .int .i64 m.pages, .int .i64 m.most, .slice m.oG m.globals.length m.cG, .slice m.oE m.exports.length m.cE, .int .i64 m.start, .slice m.oL m.elems.length m.cL, .slice m.oD m.data.length m.cD] 30)) w' → w'.cell? ⟨w.heap.size, 0, none⟩ = some (.slice m.oT m.types.length m.cT) ∧ w'.cell? ⟨w.heap.size, 1, none⟩ = some (.slice m.oI m.imports.length m.cI) ∧ w'.cell? ⟨w.heap.size, 2, none⟩ = some (.slice m.oF m.funcs.length m.cF) ∧ w'.cell? ⟨w.heap.size, 3, none⟩ = some (.int .i64 m.table) ∧ w'.cell? ⟨w.heap.size, 4, none⟩ = some (.int .i64 m.pages) ∧ w'.cell? ⟨w.heap.size, 5, none⟩ = some (.int .i64 m.most) ∧ w'.cell? ⟨w.heap.size, 6, none⟩ = some (.slice m.oG m.globals.length m.cG) ∧ w'.cell? ⟨w.heap.size, 7, none⟩ = some (.slice m.oE m.exports.length m.cE) ∧ w'.cell? ⟨w.heap.size, 8, none⟩ = some (.int .i64 m.start) ∧ w'.cell? ⟨w.heap.size, 9, none⟩ = some (.slice m.oL m.elems.length m.cL) ∧ w'.cell? ⟨w.heap.size, 10, none⟩ = some (.slice m.oD m.data.length m.cD)) := fun w' bz => by
  have a1 := (bz.block w.heap.size (by simp)).trans (new_block w (.cells #[.slice m.oT m.types.length m.cT, .slice m.oI m.imports.length m.cI, .slice m.oF m.funcs.length m.cF, .int .i64 m.table, .int .i64 m.pages, .int .i64 m.most, .slice m.oG m.globals.length m.cG, .slice m.oE m.exports.length m.cE, .int .i64 m.start, .slice m.oL m.elems.length m.cL, .slice m.oD m.data.length m.cD] 30))
  exact ⟨cell_at a1 0 rfl, cell_at a1 1 rfl, cell_at a1 2 rfl, cell_at a1 3 rfl, cell_at a1 4 rfl, cell_at a1 5 rfl, cell_at a1 6 rfl, cell_at a1 7 rfl, cell_at a1 8 rfl, cell_at a1 9 rfl, cell_at a1 10 rfl⟩
 obtain ⟨f0, f1, f2, f3, f4, f5, f6, f7, f8, f9, f10⟩ := HS.out _ (Below.refl _ _)
 have HE : Hid (hasE m k = if headErr m = 0 then (if 0 ≤ k ∧ k < (m.funcs.length : Int) then 0 else 1) else headErr m) := rfl
 generalize hasE m k = V at *
 generalize headErr m = E at *
 clear hb1 hm hA
 go_enter Tryz.func45, Tryz.ntmps45
 go_wp2_with fail
 refine (HHD.out _ HB1.out).mono ?_
 rintro r w1 ⟨rfl, b1⟩
 obtain ⟨g0, g1, g2, g3, g4, g5, g6, g7, g8, g9, g10⟩ := HS.out _ b1
 have HB2 : Hid (Below w.heap.size w w1) := HB1.out.trans (b1.mono (by simp))
 clear b1 HS HHD HB1 f0 f1 f2 f3 f4 f5 f6 f7 f8 f9 f10
 by_cases hE : E = 0
 ·subst hE
  by_cases h0 : k < 0
  ·have HV : Hid (V = 1) := HE.out.trans ((if_pos rfl).trans (if_neg (by omega)))
   go_wp2
   go_ret
   exact ⟨by rw [HV.out]; rfl, HB2.out⟩
  ·by_cases h1 : k < (m.funcs.length : Int)
   ·have HV : Hid (V = 0) := HE.out.trans ((if_pos rfl).trans (if_pos (by omega)))
    go_wp2
    go_ret
    exact ⟨by rw [HV.out]; rfl, HB2.out⟩
   ·have HV : Hid (V = 1) := HE.out.trans ((if_pos rfl).trans (if_neg (by omega)))
    go_wp2
    go_ret
    exact ⟨by rw [HV.out]; rfl, HB2.out⟩
 ·have hb0 : (E == 0) = false := by rw [beq_eq_false_iff_ne]; exact hE
  have hn0 : (E != 0) = true := by rw [bne, hb0]; rfl
  go_wp2
  go_ret
  exact ⟨by rw [HE.out, if_neg hE]; rfl, HB2.out⟩
theorem vmodule (m : ModD) (w : World) (hA : Amb w) (hm : m.ok w) (hg : 2 < w.heap.size) :
  Calls Tryz.prog 17 #[.agg #[.slice m.oT m.types.length m.cT, .slice m.oI m.imports.length m.cI, .slice m.oF m.funcs.length m.cF, .int .i64 m.table, .int .i64 m.pages, .int .i64 m.most, .slice m.oG m.globals.length m.cG, .slice m.oE m.exports.length m.cE, .int .i64 m.start, .slice m.oL m.elems.length m.cL, .slice m.oD m.data.length m.cD]] w fun r w' => r = .returned (.int .i64 (modE m)) ∧ Below w.heap.size w w' := by
 have HHD : Hid (∀ W, Below w.heap.size w W → Calls Tryz.prog 49 #[.agg #[.slice m.oT m.types.length m.cT, .slice m.oI m.imports.length m.cI, .slice m.oF m.funcs.length m.cF, .int .i64 m.table, .int .i64 m.pages, .int .i64 m.most, .slice m.oG m.globals.length m.cG, .slice m.oE m.exports.length m.cE, .int .i64 m.start, .slice m.oL m.elems.length m.cL, .slice m.oD m.data.length m.cD]] W fun r w' => r = .returned (.int .i64 (headErr m)) ∧ Below W.heap.size W w') := fun W b => head_mod m W (hA.to (b.mono (by have := hA.2.2; omega))) (hm.below b)
 obtain ⟨n, hn⟩ : ∃ n, m.funcs.length = n := ⟨_, rfl⟩
 have hcm := hm.funcs.most
 have hcl := hm.funcs.le
 unfold maxLen at hcm
 rw [hn] at hcl
 have HFW : Hid (headErr m = 0 → ∀ j : Nat, j < n → ∀ W, Below w.heap.size w W → Calls Tryz.prog 46 #[.agg #[.slice m.oT m.types.length m.cT, .slice m.oI m.imports.length m.cI, .slice m.oF m.funcs.length m.cF, .int .i64 m.table, .int .i64 m.pages, .int .i64 m.most, .slice m.oG m.globals.length m.cG, .slice m.oE m.exports.length m.cE, .int .i64 m.start, .slice m.oL m.elems.length m.cL, .slice m.oD m.data.length m.cD], .int .i64 (j : Int)] W fun r w' => r = .returned (.tuple #[.int .i64 (firstV m j).1, .int .i64 (firstV m j).2]) ∧ Below W.heap.size W w') := fun hz j hj W b => by
  have := vfirst m (j : Int) W (hm.below b) (head_zero hz).1 (head_zero hz).2 (by omega) (by omega) (hA.to (b.mono (by have := hA.2.2; omega))).1 (Nat.lt_of_lt_of_le hg b.size)
  rw [Int.toNat_natCast] at this
  exact this
 have hb1 : Below w.heap.size w (w.alloc (.cells #[.slice m.oT m.types.length m.cT, .slice m.oI m.imports.length m.cI, .slice m.oF m.funcs.length m.cF, .int .i64 m.table, .int .i64 m.pages, .int .i64 m.most, .slice m.oG m.globals.length m.cG, .slice m.oE m.exports.length m.cE, .int .i64 m.start, .slice m.oL m.elems.length m.cL, .slice m.oD m.data.length m.cD] 30)) := (Below.refl _ _).alloc (Nat.le_refl _) _
 have HB1 : Hid (type_of% hb1) := hb1
 have HS : Hid (∀ w', Below (w.alloc (.cells #[.slice m.oT m.types.length m.cT, .slice m.oI m.imports.length m.cI, .slice m.oF m.funcs.length m.cF, .int .i64 m.table, .int .i64 m.pages, .int .i64 m.most, .slice m.oG m.globals.length m.cG, .slice m.oE m.exports.length m.cE, .int .i64 m.start, .slice m.oL m.elems.length m.cL, .slice m.oD m.data.length m.cD] 30)).heap.size (w.alloc (.cells #[.slice m.oT m.types.length m.cT, .slice m.oI m.imports.length m.cI, .slice m.oF m.funcs.length m.cF, .int .i64 m.table, .int .i64 m.pages, .int .i64 m.most, .slice m.oG m.globals.length m.cG, .slice m.oE m.exports.length m.cE, .int .i64 m.start, .slice m.oL m.elems.length m.cL, .slice m.oD m.data.length m.cD] 30)) w' → w'.cell? ⟨w.heap.size, 0, none⟩ = some (.slice m.oT m.types.length m.cT) ∧ w'.cell? ⟨w.heap.size, 1, none⟩ = some (.slice m.oI m.imports.length m.cI) ∧ w'.cell? ⟨w.heap.size, 2, none⟩ = some (.slice m.oF m.funcs.length m.cF) ∧ w'.cell? ⟨w.heap.size, 3, none⟩ = some (.int .i64 m.table) ∧ w'.cell? ⟨w.heap.size, 4, none⟩ = some (.int .i64 m.pages) ∧ w'.cell? ⟨w.heap.size, 5, none⟩ = some (.int .i64 m.most) ∧ w'.cell? ⟨w.heap.size, 6, none⟩ = some (.slice m.oG m.globals.length m.cG) ∧ w'.cell? ⟨w.heap.size, 7, none⟩ = some (.slice m.oE m.exports.length m.cE) ∧ w'.cell? ⟨w.heap.size, 8, none⟩ = some (.int .i64 m.start) ∧ w'.cell? ⟨w.heap.size, 9, none⟩ = some (.slice m.oL m.elems.length m.cL) ∧ w'.cell? ⟨w.heap.size, 10, none⟩ = some (.slice m.oD m.data.length m.cD)) := fun w' bz => by
  have a1 := (bz.block w.heap.size (by simp)).trans (new_block w (.cells #[.slice m.oT m.types.length m.cT, .slice m.oI m.imports.length m.cI, .slice m.oF m.funcs.length m.cF, .int .i64 m.table, .int .i64 m.pages, .int .i64 m.most, .slice m.oG m.globals.length m.cG, .slice m.oE m.exports.length m.cE, .int .i64 m.start, .slice m.oL m.elems.length m.cL, .slice m.oD m.data.length m.cD] 30))
  exact ⟨cell_at a1 0 rfl, cell_at a1 1 rfl, cell_at a1 2 rfl, cell_at a1 3 rfl, cell_at a1 4 rfl, cell_at a1 5 rfl, cell_at a1 6 rfl, cell_at a1 7 rfl, cell_at a1 8 rfl, cell_at a1 9 rfl, cell_at a1 10 rfl⟩
 obtain ⟨f0, f1, f2, f3, f4, f5, f6, f7, f8, f9, f10⟩ := HS.out _ (Below.refl _ _)
 have HE : Hid (modE m = fstE (headErr m) (frst (fun k => (firstV m k).2) (List.range' 0 n))) := by rw [← hn]; rfl
 generalize modE m = V at *
 generalize firstV m = F at *
 generalize headErr m = E at *
 rw [hn] at f0 f1 f2 f3 f4 f5 f6 f7 f8 f9 f10 HFW HHD HS HB1
 rw [hn]
 clear hb1 hm hA hn
 go_enter Tryz.func17, Tryz.ntmps17
 go_wp2_with fail
 refine (HHD.out _ HB1.out).mono ?_
 rintro r w1 ⟨rfl, b1⟩
 obtain ⟨g0, g1, g2, g3, g4, g5, g6, g7, g8, g9, g10⟩ := HS.out _ b1
 have HB2 : Hid (Below w.heap.size w w1) := HB1.out.trans (b1.mono (by simp))
 have HBV : Hid (type_of% b1) := b1
 clear b1 HHD f0 f1 f2 f3 f4 f5 f6 f7 f8 f9 f10
 by_cases hE : E = 0
 ·subst hE
  have HFZ : Hid (type_of% (HFW.out rfl)) := HFW.out rfl
  have HV0 : Hid (V = frst (fun k => (F k).2) (List.range' 0 (n - 0))) := HE.out.trans (if_pos rfl)
  clear HFW HE
  go_wp2
  go_loopw [15] (fun i wr => ∃ k : Nat, i = .int .i64 k ∧ k ≤ n ∧ Hid (V = frst (fun k => (F k).2) (List.range' k (n - k))) ∧ Hid (Below (w.alloc (.cells #[.slice m.oT m.types.length m.cT, .slice m.oI m.imports.length m.cI, .slice m.oF n m.cF, .int .i64 m.table, .int .i64 m.pages, .int .i64 m.most, .slice m.oG m.globals.length m.cG, .slice m.oE m.exports.length m.cE, .int .i64 m.start, .slice m.oL m.elems.length m.cL, .slice m.oD m.data.length m.cD] 30)).heap.size (w.alloc (.cells #[.slice m.oT m.types.length m.cT, .slice m.oI m.imports.length m.cI, .slice m.oF n m.cF, .int .i64 m.table, .int .i64 m.pages, .int .i64 m.most, .slice m.oG m.globals.length m.cG, .slice m.oE m.exports.length m.cE, .int .i64 m.start, .slice m.oL m.elems.length m.cL, .slice m.oD m.data.length m.cD] 30)) wr)) (fun i _ => n - (intOf i).toNat)
  case atStart => exact ⟨0, rfl, by omega, HV0, HBV⟩
  case round =>
   obtain ⟨k, rfl, hk, HV, HBR⟩ := hrel
   clear HV0 HBV HB2 g0 g1 g2 g3 g4 g5 g6 g7 g8 g9 g10
   obtain ⟨f0, f1, f2, f3, f4, f5, f6, f7, f8, f9, f10⟩ := HS.out _ HBR.out
   have HB4 : Hid (Below w.heap.size w wr) := HB1.out.trans (HBR.out.mono (by simp))
   by_cases hlt : k < n
   ·have HFK : Hid (type_of% (HFZ.out k hlt)) := HFZ.out k hlt
    have HV1 : Hid (V = fstE (F k).2 (frst (fun k => (F k).2) (List.range' (k + 1) (n - (k + 1))))) := by
     have := HV.out
     rw [show n - k = (n - (k + 1)) + 1 by omega, List.range'_succ] at this
     exact this
    clear HV HFZ
    have hki0 : (0 : Int) ≤ (k : Int) := by omega
    have hki1 : (k : Int) < (n : Int) := by omega
    generalize F k = z at *
    obtain ⟨z1, z2⟩ := z
    dsimp only at *
    go_wp2_with fail
    refine (HFK.out _ HB4.out).mono ?_
    rintro r w2 ⟨rfl, b2⟩
    have HB5 : Hid (Below (w.alloc (.cells #[.slice m.oT m.types.length m.cT, .slice m.oI m.imports.length m.cI, .slice m.oF n m.cF, .int .i64 m.table, .int .i64 m.pages, .int .i64 m.most, .slice m.oG m.globals.length m.cG, .slice m.oE m.exports.length m.cE, .int .i64 m.start, .slice m.oL m.elems.length m.cL, .slice m.oD m.data.length m.cD] 30)).heap.size (w.alloc (.cells #[.slice m.oT m.types.length m.cT, .slice m.oI m.imports.length m.cI, .slice m.oF n m.cF, .int .i64 m.table, .int .i64 m.pages, .int .i64 m.most, .slice m.oG m.globals.length m.cG, .slice m.oE m.exports.length m.cE, .int .i64 m.start, .slice m.oL m.elems.length m.cL, .slice m.oD m.data.length m.cD] 30)) w2) := HBR.out.trans (b2.mono HBR.out.size)
    have HB6 : Hid (Below w.heap.size w w2) := HB4.out.trans (b2.mono HB4.out.size)
    clear b2 HFK HBR HB4 f0 f1 f2 f3 f4 f5 f6 f7 f8 f9 f10
    by_cases hz : z2 = 0
    ·subst hz
     have HV2 : Hid (V = frst (fun k => (F k).2) (List.range' (k + 1) (n - (k + 1)))) := HV1.out.trans (if_pos rfl)
     clear HV1
     go_wp2
     go_roundw
     case rel => exact ⟨k + 1, by go_num, by omega, HV2, HB5⟩
     case measure => simp [intOf]; omega
    ·have hb0 : (z2 == 0) = false := by rw [beq_eq_false_iff_ne]; exact hz
     have hn0 : (z2 != 0) = true := by rw [bne, hb0]; rfl
     have HV2 : Hid (V = z2) := HV1.out.trans (if_neg hz)
     clear HV1
     go_wp2
     go_ret
     exact ⟨by rw [HV2.out]; rfl, HB6.out⟩
   ·have HV2 : Hid (V = 0) := by
     have := HV.out
     rw [show n - k = 0 by omega] at this
     exact this
    clear HV HFZ
    go_wp2
    go_ret
    exact ⟨by rw [HV2.out]; rfl, HB4.out⟩
 ·have hb0 : (E == 0) = false := by rw [beq_eq_false_iff_ne]; exact hE
  have hn0 : (E != 0) = true := by rw [bne, hb0]; rfl
  have HV : Hid (V = E) := HE.out.trans (if_neg hE)
  go_wp2
  go_ret
  exact ⟨by rw [HV.out]; rfl, HB2.out⟩
end Go.Proofs.YtoikoijpkchamaaGreatDoor
namespace Go.Proofs.YtoikoijpkchamaaGreatDoor
open Go.RowKit
set_option linter.unusedVariables false
theorem mod_zero {m : ModD} (h : modE m = 0) : headErr m = 0 ∧ ∀ k, k < m.funcs.length → (firstV m k).2 = 0 := by
 obtain ⟨h1, h2⟩ := fstE_eq0 h
 exact ⟨h1, fun k hk => frst_eq0 h2 k (by rw [List.mem_range'_1]; omega)⟩
end Go.Proofs.YtoikoijpkchamaaGreatDoor
namespace Go.Proofs.YtoikoijpkchamaaGreatDoor
open Go.RowKit
set_option linter.unusedVariables false
theorem own_slice {w : World} {B : Nat} {t : TypeId} {k : Nat} {v : Value} {n : Nat} {xs : List Value} (h : w.ownsRow B t k v n xs) : ∃ o c, v = .slice o n c := by
 rcases h.2 with ⟨h1, h2⟩ | ⟨g, c, cur, h1, _⟩
 ·exact ⟨none, 0, by rw [h1, h2]⟩
 ·exact ⟨_, _, h1⟩
end Go.Proofs.YtoikoijpkchamaaGreatDoor
