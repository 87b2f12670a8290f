/-
 What an instance has at first: where a part begins, the memory's bytes.
 What an instance has at first: its globals.
 What an instance has at first: its table.
-/
import Derived.Test.YtoikoijpkchamaaGreatDoorCIA
import Derived.Test.YtoikoijpkchamaaGreatDoorCVN
import Derived.Deep.RegionLaw
set_option maxHeartbeats 8000000
set_option maxRecDepth 1000000
namespace Go.Proofs.YtoikoijpkchamaaGreatDoor
open Go.RowKit
set_option linter.unusedVariables false
def plc (a : Int) : Int := a % 4294967296
theorem plc_range (a : Int) : 0 ≤ plc a ∧ plc a < 4294967296 := ⟨Int.emod_nonneg _ (by decide), Int.emod_lt_of_pos _ (by decide)⟩
theorem iplace (a : Int) (w : World) : Calls Tryz.prog 101 #[.int .i64 a] w fun r w' => r = .returned (.int .i64 (plc a)) ∧ w' = w := by
 have h1 : IntKind.u32.wrap a = plc a := by
  unfold plc
  rw [IntKind.wrap_u32]
 have h2 : IntKind.i64.wrap (plc a) = plc a := by
  have := plc_range a
  rw [IntKind.wrap_i64]
  omega
 have h3 : wrap64 (plc a) = plc a := by
  have := plc_range a
  unfold wrap64
  omega
 go_enter Tryz.func101, Tryz.ntmps101
 go_wp2
 go_ret
 refine ⟨?_, rfl⟩
 simp [plc]
def putsV : List DatD → List Int → Int × List Int
 | [], b => (0, b)
 | d :: L, b => if hasB b.length (plc d.a) d.s.size then putsV L (splice b (plc d.a).toNat (nums d.s)) else (23, [])
theorem has_fits {K a n : Nat} (h : hasB (K : Int) (a : Int) (n : Int) = true) : a + n ≤ K := by
 unfold hasB at h
 have := of_decide_eq_true h
 omega
def bytsV (m : ModD) : Int × List Int := putsV m.data (List.replicate (256 * m.pages.toNat) 0)
theorem ibytes (m : ModD) (w : World) (hm : m.ok w) (hp0 : 0 ≤ m.pages) (hp1 : m.pages ≤ m.most) (hp2 : m.most ≤ 8) :
  Calls Tryz.prog 65 #[.agg #[.slice m.oT m.types.length m.cT, .slice m.oI m.imports.length m.cI, .slice m.oF m.funcs.length m.cF, .int .i64 m.table, .int .i64 m.pages, .int .i64 m.most, .slice m.oG m.globals.length m.cG, .slice m.oE m.exports.length m.cE, .int .i64 m.start, .slice m.oL m.elems.length m.cL, .slice m.oD m.data.length m.cD]] w fun r w' => r = .returned (.tuple #[.string (strOfNums (bytsV m).2), .int .i64 (bytsV m).1]) ∧ Below w.heap.size w w' := by
 obtain ⟨pg, hpg⟩ : ∃ k : Nat, m.pages = (k : Int) := ⟨_, (Int.toNat_of_nonneg hp0).symm⟩
 have hdm := hm.data.most
 have hdl := hm.data.le
 unfold maxLen at hdm
 have HR : Hid (bytsV m = putsV m.data (List.replicate (256 * pg) 0)) := by unfold Hid bytsV; rw [hpg, Int.toNat_natCast]
 obtain ⟨R, hR⟩ : ∃ R, R = bytsV m := ⟨_, rfl⟩
 rw [← hR] at HR ⊢
 have HM : Hid (m.ok w) := hm
 have HN : Hid (∀ W, Calls Tryz.prog 102 #[.int .i64 m.pages, .int .i64 m.most] W fun r w' => r = .returned (.tuple #[.pointer (some ⟨W.heap.size + 1, 0, none⟩), .int .i64 0]) ∧ MB w' (W.heap.size + 1) W.heap.size pg m.most (List.replicate (256 * pg) 0) ∧ Below W.heap.size W w') := fun W => by rw [hpg]; exact mnew_yes pg m.most (by omega) hp2 W
 have hb1 : Below w.heap.size w (w.alloc (.cells #[.slice m.oT m.types.length m.cT, .slice m.oI m.imports.length m.cI, .slice m.oF m.funcs.length m.cF, .int .i64 m.table, .int .i64 m.pages, .int .i64 m.most, .slice m.oG m.globals.length m.cG, .slice m.oE m.exports.length m.cE, .int .i64 m.start, .slice m.oL m.elems.length m.cL, .slice m.oD m.data.length m.cD] 30)) := (Below.refl _ _).alloc (Nat.le_refl _) _
 have HB1 : Hid (type_of% hb1) := hb1
 have HS : Hid (∀ w', Below (w.alloc (.cells #[.slice m.oT m.types.length m.cT, .slice m.oI m.imports.length m.cI, .slice m.oF m.funcs.length m.cF, .int .i64 m.table, .int .i64 m.pages, .int .i64 m.most, .slice m.oG m.globals.length m.cG, .slice m.oE m.exports.length m.cE, .int .i64 m.start, .slice m.oL m.elems.length m.cL, .slice m.oD m.data.length m.cD] 30)).heap.size (w.alloc (.cells #[.slice m.oT m.types.length m.cT, .slice m.oI m.imports.length m.cI, .slice m.oF m.funcs.length m.cF, .int .i64 m.table, .int .i64 m.pages, .int .i64 m.most, .slice m.oG m.globals.length m.cG, .slice m.oE m.exports.length m.cE, .int .i64 m.start, .slice m.oL m.elems.length m.cL, .slice m.oD m.data.length m.cD] 30)) w' → w'.cell? ⟨w.heap.size, 0, none⟩ = some (.slice m.oT m.types.length m.cT) ∧ w'.cell? ⟨w.heap.size, 1, none⟩ = some (.slice m.oI m.imports.length m.cI) ∧ w'.cell? ⟨w.heap.size, 2, none⟩ = some (.slice m.oF m.funcs.length m.cF) ∧ w'.cell? ⟨w.heap.size, 3, none⟩ = some (.int .i64 m.table) ∧ w'.cell? ⟨w.heap.size, 4, none⟩ = some (.int .i64 m.pages) ∧ w'.cell? ⟨w.heap.size, 5, none⟩ = some (.int .i64 m.most) ∧ w'.cell? ⟨w.heap.size, 6, none⟩ = some (.slice m.oG m.globals.length m.cG) ∧ w'.cell? ⟨w.heap.size, 7, none⟩ = some (.slice m.oE m.exports.length m.cE) ∧ w'.cell? ⟨w.heap.size, 8, none⟩ = some (.int .i64 m.start) ∧ w'.cell? ⟨w.heap.size, 9, none⟩ = some (.slice m.oL m.elems.length m.cL) ∧ w'.cell? ⟨w.heap.size, 10, none⟩ = some (.slice m.oD m.data.length m.cD)) := fun w' bz => by
  have a1 := (bz.block w.heap.size (by simp)).trans (new_block w (.cells #[.slice m.oT m.types.length m.cT, .slice m.oI m.imports.length m.cI, .slice m.oF m.funcs.length m.cF, .int .i64 m.table, .int .i64 m.pages, .int .i64 m.most, .slice m.oG m.globals.length m.cG, .slice m.oE m.exports.length m.cE, .int .i64 m.start, .slice m.oL m.elems.length m.cL, .slice m.oD m.data.length m.cD] 30))
  exact ⟨cell_at a1 0 rfl, cell_at a1 1 rfl, cell_at a1 2 rfl, cell_at a1 3 rfl, cell_at a1 4 rfl, cell_at a1 5 rfl, cell_at a1 6 rfl, cell_at a1 7 rfl, cell_at a1 8 rfl, cell_at a1 9 rfl, cell_at a1 10 rfl⟩
 obtain ⟨f0, f1, f2, f3, f4, f5, f6, f7, f8, f9, f10⟩ := HS.out _ (Below.refl _ _)
 clear hb1 hp0 hp1 hp2 hm hpg hR
 go_enter Tryz.func65, Tryz.ntmps65
 go_wp2_with fail
 refine (HN.out _).mono ?_
 rintro r w1 ⟨rfl, hMB, b1⟩
 obtain ⟨P, hP⟩ : ∃ P, P = (w.alloc (.cells #[.slice m.oT m.types.length m.cT, .slice m.oI m.imports.length m.cI, .slice m.oF m.funcs.length m.cF, .int .i64 m.table, .int .i64 m.pages, .int .i64 m.most, .slice m.oG m.globals.length m.cG, .slice m.oE m.exports.length m.cE, .int .i64 m.start, .slice m.oL m.elems.length m.cL, .slice m.oD m.data.length m.cD] 30)).heap.size + 1 := ⟨_, rfl⟩
 obtain ⟨g, hg⟩ : ∃ g, g = (w.alloc (.cells #[.slice m.oT m.types.length m.cT, .slice m.oI m.imports.length m.cI, .slice m.oF m.funcs.length m.cF, .int .i64 m.table, .int .i64 m.pages, .int .i64 m.most, .slice m.oG m.globals.length m.cG, .slice m.oE m.exports.length m.cE, .int .i64 m.start, .slice m.oL m.elems.length m.cL, .slice m.oD m.data.length m.cD] 30)).heap.size := ⟨_, rfl⟩
 have HG : Hid (w.heap.size < g ∧ w.heap.size < P ∧ g ≠ P) := by unfold Hid; rw [hg, hP]; simp; omega
 rw [← hP, ← hg] at hMB
 rw [← hP]
 have HMB : Hid (MB w1 P g pg m.most (List.replicate (256 * pg) 0)) := hMB
 have HB2 : Hid (Below (w.alloc (.cells #[.slice m.oT m.types.length m.cT, .slice m.oI m.imports.length m.cI, .slice m.oF m.funcs.length m.cF, .int .i64 m.table, .int .i64 m.pages, .int .i64 m.most, .slice m.oG m.globals.length m.cG, .slice m.oE m.exports.length m.cE, .int .i64 m.start, .slice m.oL m.elems.length m.cL, .slice m.oD m.data.length m.cD] 30)).heap.size (w.alloc (.cells #[.slice m.oT m.types.length m.cT, .slice m.oI m.imports.length m.cI, .slice m.oF m.funcs.length m.cF, .int .i64 m.table, .int .i64 m.pages, .int .i64 m.most, .slice m.oG m.globals.length m.cG, .slice m.oE m.exports.length m.cE, .int .i64 m.start, .slice m.oL m.elems.length m.cL, .slice m.oD m.data.length m.cD] 30)) w1) := b1
 have HB3 : Hid (Below w.heap.size w w1) := HB1.out.trans (b1.mono (by simp))
 obtain ⟨_, _, _, _, _, _, _, _, _, _, k10⟩ := HS.out _ b1
 clear b1 hMB HN f0 f1 f2 f3 f4 f5 f6 f7 f8 f9 f10 hP hg
 go_wp2_with fail
 clear k10
 go_loopw [20] (fun i wr => ∃ (k : Nat) (b : List Int), i = .int .i64 k ∧ k ≤ m.data.length ∧ Hid (R = putsV (m.data.drop k) b) ∧ Hid (MB wr P g pg m.most b) ∧ Hid (Below w.heap.size w wr)) (fun i _ => m.data.length - (intOf i).toNat)
 case atStart => exact ⟨0, _, rfl, by omega, HR, HMB, HB3⟩
 case round =>
  obtain ⟨k, b, rfl, hk, HP, HMB', HBW⟩ := hrel
  clear HMB HB2 HB3
  by_cases hlt : k < m.data.length
  ·have hki1 : (k : Int) < (m.data.length : Int) := by omega
   have hki0 : (0 : Int) ≤ (k : Int) := by omega
   obtain ⟨bb, ff, ho, hbN, hc⟩ := HM.out.data.cellAt (fun e => by rw [e] at hlt; exact absurd hlt (by simp))
   obtain ⟨d, hd⟩ : ∃ d, m.data[k]! = d := ⟨_, rfl⟩
   have c0 := hc wr HBW.out k hlt 0 (by omega)
   have c1 := hc wr HBW.out k hlt 1 (by omega)
   rw [hd] at c0 c1
   obtain ⟨da, ds⟩ := d
   have c0' : wr.cell? ⟨bb, ff + k * 2, none⟩ = some (.int .i64 da) := c0
   have c1' : wr.cell? ⟨bb, ff + k * 2 + 1, none⟩ = some (.string ds) := c1
   have HDr : Hid (m.data.drop k = ⟨da, ds⟩ :: m.data.drop (k + 1)) := by
    unfold Hid
    rw [List.drop_eq_getElem_cons hlt, ← hd, getElem!_pos m.data k hlt]
   rw [HDr.out] at HP
   rw [ho]
   have HBX : Hid (Below wr.heap.size wr (wr.alloc (.cells #[.int .i64 da, .string ds] 91))) := (Below.refl _ _).alloc (Nat.le_refl _) _
   have HNB : Hid (∀ W, Below (wr.alloc (.cells #[.int .i64 da, .string ds] 91)).heap.size (wr.alloc (.cells #[.int .i64 da, .string ds] 91)) W → W.cell? ⟨wr.heap.size, 0, none⟩ = some (.int .i64 da) ∧ W.cell? ⟨wr.heap.size, 1, none⟩ = some (.string ds)) := fun W bW => by
    have a1 := (bW.block wr.heap.size (by simp)).trans (new_block wr (.cells #[.int .i64 da, .string ds] 91))
    exact ⟨cell_at a1 0 rfl, cell_at a1 1 rfl⟩
   obtain ⟨pn, hpn⟩ : ∃ k : Nat, plc da = (k : Int) := ⟨_, (Int.toNat_of_nonneg (plc_range da).1).symm⟩
   have HPL : Hid (∀ W, Calls Tryz.prog 101 #[.int .i64 da] W fun r w' => r = .returned (.int .i64 (pn : Int)) ∧ w' = W) := fun W => by rw [← hpn]; exact iplace da W
   have hpr := plc_range da
   have HMX : Hid (∀ W, Below wr.heap.size wr W → MB W P g pg m.most b) := fun W bW => HMB'.out.under bW
   clear c0 c1 hc
   by_cases hh : hasB b.length (pn : Int) ds.size = true
   ·have HP2 : Hid (R = putsV (m.data.drop (k + 1)) (splice b pn (nums ds))) := by
     have := HP.out
     unfold putsV at this
     dsimp only at this
     rw [hpn, if_pos hh, Int.toNat_natCast] at this
     exact this
    have HPT : Hid (∀ W, Below wr.heap.size wr W → Calls Tryz.prog 103 #[.pointer (some ⟨P, 0, none⟩), .int .i64 (pn : Int), .string ds] W fun r w' => r = .returned (.int .i64 0) ∧ MB w' P g pg m.most (splice b pn (nums ds)) ∧ Chg g W w') := fun W bW => mput_yes P g pg m.most b pn ds (has_fits hh) W (HMX.out W bW)
    clear hh hpn hpr HP
    go_wp2_with fail
    go_region_held3 (fun w' => w'.cell? ⟨wr.heap.size, 0, none⟩ = some (.int .i64 da) ∧ w'.cell? ⟨wr.heap.size, 1, none⟩ = some (.string ds))
     (first | exact HNB.out _ (Below.refl _ _).drew | exact HNC.out | go_keep)
     (first | (go_at_call 101; refine (HPL.out _).mono ?_; rintro r wq ⟨rfl, rfl⟩) | (go_at_call 103; refine (HPT.out _ ?_).mono ?_; (exact HBX.out.drew); rintro r wp ⟨rfl, hMp, hCp⟩; have HMP : Hid (type_of% hMp) := hMp; have HVB : Hid (Below wr.heap.size wr (wr.alloc (.cells #[.int .i64 da, .string ds] 91)).drew) := HBX.out.drew; have HCG : Hid (type_of% hCp) := hCp; have HNC : Hid (wp.cell? ⟨wr.heap.size, 0, none⟩ = some (.int .i64 da) ∧ wp.cell? ⟨wr.heap.size, 1, none⟩ = some (.string ds)) := (by have h1 := HNB.out _ (Below.refl _ _).drew; have h2 := (hCp.block wr.heap.size (by simp) (by have := HMB'.out.lt; omega)); exact ⟨(World.cell?_of_block h2).trans h1.1, (World.cell?_of_block h2).trans h1.2⟩); clear hMp hCp))
    have HB4 : Hid (Below w.heap.size w wp) := HBW.out.trans ((HVB.out.mono HBW.out.size).trans ((HCG.out.below (by have := HG.out; omega) (by have := HBW.out.size; have := HVB.out.size; omega))))
    clear HVB HCG HNB HBX HPL HMX HPT c0' c1'
    go_wp2
    go_roundw
    case rel => exact ⟨k + 1, _, rfl, by omega, HP2, HMP, HB4⟩
    case measure => simp [intOf]; omega
   ·have HP2 : Hid (R = (23, [])) := by
     have := HP.out
     unfold putsV at this
     dsimp only at this
     rw [hpn, if_neg hh] at this
     exact this
    have hhf : hasB b.length (pn : Int) ds.size = false := by simpa using hh
    have HPT : Hid (∀ W, Below wr.heap.size wr W → Calls Tryz.prog 103 #[.pointer (some ⟨P, 0, none⟩), .int .i64 (pn : Int), .string ds] W fun r w' => r = .returned (.int .i64 23) ∧ w' = W) := fun W bW => mput_no P g pg m.most b pn (by omega) ds hhf W (HMX.out W bW)
    clear hh hhf hpn hpr HP
    go_wp2_with fail
    go_region_held3 (fun w' => w'.cell? ⟨wr.heap.size, 0, none⟩ = some (.int .i64 da) ∧ w'.cell? ⟨wr.heap.size, 1, none⟩ = some (.string ds))
     (first | exact HNB.out _ (Below.refl _ _).drew | exact HNC.out | go_keep)
     (first | (go_at_call 101; refine (HPL.out _).mono ?_; rintro r wq ⟨rfl, rfl⟩) | (go_at_call 103; refine (HPT.out _ ?_).mono ?_; (exact HBX.out.drew); rintro r wp ⟨rfl, rfl⟩; have HVB : Hid (Below wr.heap.size wr (wr.alloc (.cells #[.int .i64 da, .string ds] 91)).drew) := HBX.out.drew))
    have HB4 : Hid (Below w.heap.size w (wr.alloc (.cells #[.int .i64 da, .string ds] 91)).drew) := HBW.out.trans (HVB.out.mono HBW.out.size)
    clear HVB HNB HBX HPL HMX HPT c0' c1'
    go_wp2
    rw [HP2.out]
    refine bodyPost_ret (results_tmp2 rfl _ _ _) rfl ?_
    exact ⟨rfl, HB4.out⟩
  ·obtain rfl : k = m.data.length := by omega
   have hki1 : ¬ ((m.data.length : Int) < (m.data.length : Int)) := by omega
   have HP2 : Hid (R = (0, b)) := by
    have := HP.out
    rw [List.drop_length] at this
    exact this
   have HMl : Hid (type_of% (mall_any P g pg m.most b wr HMB'.out)) := mall_any P g pg m.most b wr HMB'.out
   clear HP hlt hk
   go_wp2_with fail
   refine HMl.out.mono ?_
   rintro r w2 ⟨rfl, b2⟩
   have HB4 : Hid (Below w.heap.size w w2) := HBW.out.trans (b2.mono HBW.out.size)
   clear b2 HMl
   go_wp2
   rw [HP2.out]
   refine bodyPost_ret (results_tmp2 rfl _ _ _) rfl ?_
   exact ⟨rfl, HB4.out⟩
end Go.Proofs.YtoikoijpkchamaaGreatDoor
namespace Go.Proofs.YtoikoijpkchamaaGreatDoor
open Go.RowKit
set_option linter.unusedVariables false
def IRow (w : World) (g : Nat) (t : TypeId) (l : List Int) : Prop := w.heap[g]? = some (.cells (l.map (Value.int .i64)).toArray t (0, 0))
theorem IRow.lt {w : World} {g : Nat} {t : TypeId} {l : List Int} (h : IRow w g t l) : g < w.heap.size := some_lt h
theorem IRow.cell {w : World} {g : Nat} {t : TypeId} {l : List Int} (h : IRow w g t l) {i : Nat} {x : Int} (hx : l[i]? = some x) : w.cell? ⟨g, i, none⟩ = some (.int .i64 x) := cell_at h i (by simp [hx])
theorem IRow.fz {w : World} {g : Nat} {t : TypeId} {l : List Int} (h : IRow w g t l) (i : Nat) : w.frozen? ⟨g, i, none⟩ = false := by
 unfold IRow at h
 simp [World.frozen?, h]
theorem IRow.set {w : World} {g : Nat} {t : TypeId} {l : List Int} (h : IRow w g t l) (i : Nat) (x : Int) : IRow (w.setCell ⟨g, i, none⟩ (.int .i64 x)) g t (l.set i x) := by
 unfold IRow at h ⊢
 simp [World.setCell, Array.getElem?_modify, h, List.map_set]
theorem IRow.under {w w' : World} {g : Nat} {t : TypeId} {l : List Int} (h : IRow w g t l) (b : Below w.heap.size w w') : IRow w' g t l := (b.block g h.lt).trans h
theorem IRow.chg {w w' : World} {g G : Nat} {t : TypeId} {l : List Int} (h : IRow w g t l) (c : Chg G w w') (hne : g ≠ G) : IRow w' g t l := (c.block g h.lt hne).trans h
theorem infoI64 : (Tryz.prog.info? 2).bind (fun i => i.zero.map fun z => (z.cells, i.size, i.bytes)) = some (#[.int .i64 0], 1, 8) := by kernel_rfl
theorem infoInt : (Tryz.prog.info? 3).bind (fun i => i.zero.map fun z => (z.cells, i.size, i.bytes)) = some (#[.int .i64 0], 1, 8) := by kernel_rfl
theorem imake_row {st e : TypeId} (hu : Tryz.prog.underlying st = some (.slice e)) (hI : (Tryz.prog.info? e).bind (fun i => i.zero.map fun z => (z.cells, i.size, i.bytes)) = some (#[.int .i64 0], 1, 8)) (n : Nat) (hn : n ≤ 1000000) (w : World) : ∃ W, Hid ((Instr.makeSlice st (.int .i64 (n : Int)) (.int .i64 (n : Int))).run Tryz.prog w = .ok (.slice (some ⟨w.heap.size, 0, none⟩) n n) W) ∧ Below w.heap.size w W ∧ IRow W w.heap.size e (List.replicate n 0) ∧ W.heap.size = w.heap.size + 1 := by
 obtain ⟨i, hi, h2⟩ := Option.bind_eq_some_iff.1 hI
 obtain ⟨z, hz, h3⟩ := Option.map_eq_some_iff.1 h2
 simp only [Prod.mk.injEq] at h3
 obtain ⟨hzc, hs, hb⟩ := h3
 have := run_make (P := Tryz.prog) w st e i z hu hi hz .i64 .i64 (n : Int) (n : Int) (by omega) (by omega) (by rw [hb]; omega) (by omega)
 rw [made_any z.cells 1 _ (.int .i64 0) (by rw [hzc]; rfl) (by decide), hs, Int.toNat_natCast, Nat.mul_one] at this
 refine ⟨_, this, (Below.refl _ _).alloc (Nat.le_refl _) _, ?_, World.size_alloc ..⟩
 unfold IRow
 rw [heap_alloc_new, List.map_replicate]
def globsV (m : ModD) : List Int := m.globals.map GloD.s
theorem iglobals (m : ModD) (w : World) (hm : m.ok w) (hn : m.globals.length ≤ 8) :
  Calls Tryz.prog 66 #[.agg #[.slice m.oT m.types.length m.cT, .slice m.oI m.imports.length m.cI, .slice m.oF m.funcs.length m.cF, .int .i64 m.table, .int .i64 m.pages, .int .i64 m.most, .slice m.oG m.globals.length m.cG, .slice m.oE m.exports.length m.cE, .int .i64 m.start, .slice m.oL m.elems.length m.cL, .slice m.oD m.data.length m.cD]] w fun r w' => ∃ g, r = .returned (.slice (some ⟨g, 0, none⟩) m.globals.length m.globals.length) ∧ w.heap.size ≤ g ∧ IRow w' g 2 (globsV m) ∧ Below w.heap.size w w' := by
 have hgm := hm.globals.most
 have hgl := hm.globals.le
 unfold maxLen at hgm
 have HM : Hid (m.ok w) := hm
 obtain ⟨n, hnn⟩ : ∃ n, n = m.globals.length := ⟨_, rfl⟩
 have HNN : Hid (n = m.globals.length) := hnn
 have hb1 : Below w.heap.size w (w.alloc (.cells #[.slice m.oT m.types.length m.cT, .slice m.oI m.imports.length m.cI, .slice m.oF m.funcs.length m.cF, .int .i64 m.table, .int .i64 m.pages, .int .i64 m.most, .slice m.oG m.globals.length m.cG, .slice m.oE m.exports.length m.cE, .int .i64 m.start, .slice m.oL m.elems.length m.cL, .slice m.oD m.data.length m.cD] 30)) := (Below.refl _ _).alloc (Nat.le_refl _) _
 have HB1 : Hid (type_of% hb1) := hb1
 have HS : Hid (∀ w', Below (w.alloc (.cells #[.slice m.oT m.types.length m.cT, .slice m.oI m.imports.length m.cI, .slice m.oF m.funcs.length m.cF, .int .i64 m.table, .int .i64 m.pages, .int .i64 m.most, .slice m.oG m.globals.length m.cG, .slice m.oE m.exports.length m.cE, .int .i64 m.start, .slice m.oL m.elems.length m.cL, .slice m.oD m.data.length m.cD] 30)).heap.size (w.alloc (.cells #[.slice m.oT m.types.length m.cT, .slice m.oI m.imports.length m.cI, .slice m.oF m.funcs.length m.cF, .int .i64 m.table, .int .i64 m.pages, .int .i64 m.most, .slice m.oG m.globals.length m.cG, .slice m.oE m.exports.length m.cE, .int .i64 m.start, .slice m.oL m.elems.length m.cL, .slice m.oD m.data.length m.cD] 30)) w' → w'.cell? ⟨w.heap.size, 0, none⟩ = some (.slice m.oT m.types.length m.cT) ∧ w'.cell? ⟨w.heap.size, 1, none⟩ = some (.slice m.oI m.imports.length m.cI) ∧ w'.cell? ⟨w.heap.size, 2, none⟩ = some (.slice m.oF m.funcs.length m.cF) ∧ w'.cell? ⟨w.heap.size, 3, none⟩ = some (.int .i64 m.table) ∧ w'.cell? ⟨w.heap.size, 4, none⟩ = some (.int .i64 m.pages) ∧ w'.cell? ⟨w.heap.size, 5, none⟩ = some (.int .i64 m.most) ∧ w'.cell? ⟨w.heap.size, 6, none⟩ = some (.slice m.oG m.globals.length m.cG) ∧ w'.cell? ⟨w.heap.size, 7, none⟩ = some (.slice m.oE m.exports.length m.cE) ∧ w'.cell? ⟨w.heap.size, 8, none⟩ = some (.int .i64 m.start) ∧ w'.cell? ⟨w.heap.size, 9, none⟩ = some (.slice m.oL m.elems.length m.cL) ∧ w'.cell? ⟨w.heap.size, 10, none⟩ = some (.slice m.oD m.data.length m.cD)) := fun w' bz => by
  have a1 := (bz.block w.heap.size (by simp)).trans (new_block w (.cells #[.slice m.oT m.types.length m.cT, .slice m.oI m.imports.length m.cI, .slice m.oF m.funcs.length m.cF, .int .i64 m.table, .int .i64 m.pages, .int .i64 m.most, .slice m.oG m.globals.length m.cG, .slice m.oE m.exports.length m.cE, .int .i64 m.start, .slice m.oL m.elems.length m.cL, .slice m.oD m.data.length m.cD] 30))
  exact ⟨cell_at a1 0 rfl, cell_at a1 1 rfl, cell_at a1 2 rfl, cell_at a1 3 rfl, cell_at a1 4 rfl, cell_at a1 5 rfl, cell_at a1 6 rfl, cell_at a1 7 rfl, cell_at a1 8 rfl, cell_at a1 9 rfl, cell_at a1 10 rfl⟩
 obtain ⟨f0, f1, f2, f3, f4, f5, f6, f7, f8, f9, f10⟩ := HS.out _ (Below.refl _ _)
 obtain ⟨W, HMK, hbW, hrow, hsz⟩ := imake_row Tryz.underlying53 infoI64 m.globals.length (by omega) (w.alloc (.cells #[.slice m.oT m.types.length m.cT, .slice m.oI m.imports.length m.cI, .slice m.oF m.funcs.length m.cF, .int .i64 m.table, .int .i64 m.pages, .int .i64 m.most, .slice m.oG m.globals.length m.cG, .slice m.oE m.exports.length m.cE, .int .i64 m.start, .slice m.oL m.elems.length m.cL, .slice m.oD m.data.length m.cD] 30))
 obtain ⟨g, hg⟩ : ∃ g, g = (w.alloc (.cells #[.slice m.oT m.types.length m.cT, .slice m.oI m.imports.length m.cI, .slice m.oF m.funcs.length m.cF, .int .i64 m.table, .int .i64 m.pages, .int .i64 m.most, .slice m.oG m.globals.length m.cG, .slice m.oE m.exports.length m.cE, .int .i64 m.start, .slice m.oL m.elems.length m.cL, .slice m.oD m.data.length m.cD] 30)).heap.size := ⟨_, rfl⟩
 rw [← hg] at HMK hrow
 have HGG : Hid (w.heap.size < g) := by unfold Hid; rw [hg]; simp
 have HR0 : Hid (IRow W g 2 (List.replicate m.globals.length 0)) := hrow
 have HBW : Hid (Below (w.alloc (.cells #[.slice m.oT m.types.length m.cT, .slice m.oI m.imports.length m.cI, .slice m.oF m.funcs.length m.cF, .int .i64 m.table, .int .i64 m.pages, .int .i64 m.most, .slice m.oG m.globals.length m.cG, .slice m.oE m.exports.length m.cE, .int .i64 m.start, .slice m.oL m.elems.length m.cL, .slice m.oD m.data.length m.cD] 30)).heap.size (w.alloc (.cells #[.slice m.oT m.types.length m.cT, .slice m.oI m.imports.length m.cI, .slice m.oF m.funcs.length m.cF, .int .i64 m.table, .int .i64 m.pages, .int .i64 m.most, .slice m.oG m.globals.length m.cG, .slice m.oE m.exports.length m.cE, .int .i64 m.start, .slice m.oL m.elems.length m.cL, .slice m.oD m.data.length m.cD] 30)) W) := hbW
 have HBV : Hid (Below w.heap.size w W) := HB1.out.trans (hbW.mono (by simp))
 obtain ⟨_, _, _, _, _, _, k6, _, _, _, _⟩ := HS.out _ hbW
 clear hb1 hm hrow hbW hsz hg hnn
 have hl0 : (0 : Int) ≤ (m.globals.length : Int) := by omega
 go_enter Tryz.func66, Tryz.ntmps66
 go_wp2_with (refine wp_makeX rfl (.tmp 8) (.tmp 8) 53 rfl _ _ rfl rfl _ _ HMK.out ?_)
 clear k6 f0 f1 f2 f3 f4 f5 f6 f7 f8 f9 f10 HMK
 go_loopw [13] (fun i wr => ∃ k : Nat, i = .int .i64 k ∧ k ≤ m.globals.length ∧ Hid (IRow wr g 2 ((m.globals.map GloD.s).take k ++ List.replicate (m.globals.length - k) 0)) ∧ Hid (Below w.heap.size w wr)) (fun i _ => m.globals.length - (intOf i).toNat)
 case atStart => exact ⟨0, rfl, by omega, HR0, HBV⟩
 case round =>
  obtain ⟨k, rfl, hk, HR, HB⟩ := hrel
  clear HR0 HBV HBW
  by_cases hlt : k < m.globals.length
  ·have hki1 : (k : Int) < (m.globals.length : Int) := by omega
   have hki0 : (0 : Int) ≤ (k : Int) := by omega
   obtain ⟨bb, ff, ho, hbN, hc⟩ := HM.out.globals.cellAt (fun e => by rw [e] at hlt; exact absurd hlt (by simp))
   obtain ⟨d, hd⟩ : ∃ d, m.globals[k]! = d := ⟨_, rfl⟩
   have c0 := hc wr HB.out k hlt 0 (by omega)
   have c1 := hc wr HB.out k hlt 1 (by omega)
   have c2 := hc wr HB.out k hlt 2 (by omega)
   rw [hd] at c0 c1 c2
   obtain ⟨dk, dm, ds⟩ := d
   have c0' : wr.cell? ⟨bb, ff + k * 3, none⟩ = some (.int .u8 dk) := c0
   have c1' : wr.cell? ⟨bb, ff + k * 3 + 1, none⟩ = some (.bool dm) := c1
   have c2' : wr.cell? ⟨bb, ff + k * 3 + 2, none⟩ = some (.int .i64 ds) := c2
   obtain ⟨l, hl⟩ : ∃ l, (m.globals.map GloD.s).take k ++ List.replicate (m.globals.length - k) 0 = l := ⟨_, rfl⟩
   have HNX : Hid (l.set k ds = (m.globals.map GloD.s).take (k + 1) ++ List.replicate (m.globals.length - (k + 1)) 0) := by
    unfold Hid
    have e1 : (m.globals.map GloD.s)[k]'(by rw [List.length_map]; exact hlt) = ds := by
     rw [List.getElem_map, ← getElem!_pos m.globals k hlt, hd]
    have e2 : ((m.globals.map GloD.s).take k).length = k := by rw [List.length_take, List.length_map]; omega
    rw [← hl, List.set_append_right _ _ (by omega), e2, Nat.sub_self, List.take_succ_eq_append_getElem (by rw [List.length_map]; exact hlt), e1, List.append_assoc]
    congr 1
    rw [show m.globals.length - k = (m.globals.length - (k + 1)) + 1 by omega, List.replicate_succ, List.set_cons_zero]
    rfl
   rw [hl] at HR
   have hx : ∃ x, l[k]? = some x := ⟨_, List.getElem?_eq_getElem (by rw [← hl, List.length_append, List.length_take, List.length_map, List.length_replicate]; omega)⟩
   obtain ⟨x, hx⟩ := hx
   have hgw := HR.out.lt
   have HBX : Hid (Below wr.heap.size wr (wr.alloc (.cells #[.int .u8 dk, .bool dm, .int .i64 ds] 129))) := (Below.refl _ _).alloc (Nat.le_refl _) _
   have a1 := new_block wr (.cells #[.int .u8 dk, .bool dm, .int .i64 ds] 129)
   have n2 := cell_at a1 2 rfl
   have HRX : Hid (IRow (wr.alloc (.cells #[.int .u8 dk, .bool dm, .int .i64 ds] 129)) g 2 l) := HR.out.under HBX.out
   have n3 := HRX.out.cell hx
   have n4 := HRX.out.fz k
   rw [ho]
   have HRS : Hid (IRow ((wr.setCell ⟨g, k, none⟩ (.int .i64 ds)).alloc (.cells #[.int .u8 dk, .bool dm, .int .i64 ds] 129)) g 2 (l.set k ds)) := (HR.out.set k ds).under ((Below.refl _ _).alloc (Nat.le_refl _) _)
   have HB4 : Hid (Below w.heap.size w ((wr.setCell ⟨g, k, none⟩ (.int .i64 ds)).alloc (.cells #[.int .u8 dk, .bool dm, .int .i64 ds] 129))) := (HB.out.trans ((Chg.set g k _ _).below (by have := HGG.out; omega) (by have := HB.out.size; omega))).alloc (by have h1 := HB.out.size; have h2 := (Chg.set g k wr (.int .i64 ds)).size; omega) _
   rw [HNX.out] at HRS
   clear c0 c1 c2 hc hl hd a1 hx HNX HR HRX
   go_wp2
   go_roundw
   case rel => exact ⟨k + 1, rfl, by omega, HRS, HB4⟩
   case measure => simp [intOf]; omega
  ·obtain rfl : k = m.globals.length := by omega
   have hki1 : ¬ ((m.globals.length : Int) < (m.globals.length : Int)) := by omega
   have HRZ : Hid (IRow wr g 2 (globsV m)) := by
    have := HR.out
    rw [Nat.sub_self, List.take_of_length_le (by simp)] at this
    unfold globsV Hid
    simpa using this
   clear hlt hk HR
   go_wp2
   go_ret
   exact ⟨g, rfl, Nat.le_of_lt HGG.out, HRZ.out, HB.out⟩
end Go.Proofs.YtoikoijpkchamaaGreatDoor
namespace Go.Proofs.YtoikoijpkchamaaGreatDoor
open Go.RowKit
set_option linter.unusedVariables false
theorem infoInt1 : (Tryz.prog.info? 3).map (·.size) = some 1 := by kernel_rfl
def tabsV : List EleD → List Int → Int × List Int
 | [], t => (0, t)
 | d :: L, t => if plc d.a + d.f.n ≤ t.length then tabsV L (splice t (plc d.a).toNat d.f.xs) else (23, [])
def tablV (m : ModD) : Int × List Int := tabsV m.elems (List.replicate m.table.toNat (-1))
def TabOut (w : World) (n : Nat) (R : Int × List Int) (r : Ending) (w' : World) : Prop := Below w.heap.size w w' ∧ (R.1 = 0 → ∃ g, r = .returned (.tuple #[.slice (some ⟨g, 0, none⟩) n n, .int .i64 0]) ∧ w.heap.size ≤ g ∧ IRow w' g 3 R.2 ∧ R.2.length = n) ∧ (R.1 ≠ 0 → r = .returned (.tuple #[.slice none 0 0, .int .i64 R.1]))
theorem fill_step (n k : Nat) (h : k < n) : (List.replicate k (-1 : Int) ++ List.replicate (n - k) 0).set k (-1) = List.replicate (k + 1) (-1) ++ List.replicate (n - (k + 1)) 0 := by
 rw [List.set_append_right _ _ (by simp), List.length_replicate, Nat.sub_self, show n - k = (n - (k + 1)) + 1 by omega, List.replicate_succ, List.set_cons_zero, List.replicate_succ', List.append_assoc]
 rfl
theorem itable (m : ModD) (w : World) (hm : m.ok w) (n : Nat) (hn : m.table = (n : Int)) (hn16 : n ≤ 16) (hfs : ∀ d ∈ m.elems, d.f.n ≤ 16) :
  Calls Tryz.prog 64 #[.agg #[.slice m.oT m.types.length m.cT, .slice m.oI m.imports.length m.cI, .slice m.oF m.funcs.length m.cF, .int .i64 m.table, .int .i64 m.pages, .int .i64 m.most, .slice m.oG m.globals.length m.cG, .slice m.oE m.exports.length m.cE, .int .i64 m.start, .slice m.oL m.elems.length m.cL, .slice m.oD m.data.length m.cD]] w (TabOut w n (tablV m)) := by
 have hem := hm.elems.most
 have hel := hm.elems.le
 unfold maxLen at hem
 have HM : Hid (m.ok w) := hm
 have HFS : Hid (∀ d ∈ m.elems, d.f.n ≤ 16) := hfs
 have HR : Hid (tablV m = tabsV m.elems (List.replicate n (-1))) := by unfold Hid tablV; rw [hn, Int.toNat_natCast]
 obtain ⟨R, hR⟩ : ∃ R, R = tablV m := ⟨_, rfl⟩
 rw [← hR] at HR ⊢
 have hb1 : Below w.heap.size w (w.alloc (.cells #[.slice m.oT m.types.length m.cT, .slice m.oI m.imports.length m.cI, .slice m.oF m.funcs.length m.cF, .int .i64 m.table, .int .i64 m.pages, .int .i64 m.most, .slice m.oG m.globals.length m.cG, .slice m.oE m.exports.length m.cE, .int .i64 m.start, .slice m.oL m.elems.length m.cL, .slice m.oD m.data.length m.cD] 30)) := (Below.refl _ _).alloc (Nat.le_refl _) _
 have HB1 : Hid (type_of% hb1) := hb1
 have HS : Hid (∀ w', Below (w.alloc (.cells #[.slice m.oT m.types.length m.cT, .slice m.oI m.imports.length m.cI, .slice m.oF m.funcs.length m.cF, .int .i64 m.table, .int .i64 m.pages, .int .i64 m.most, .slice m.oG m.globals.length m.cG, .slice m.oE m.exports.length m.cE, .int .i64 m.start, .slice m.oL m.elems.length m.cL, .slice m.oD m.data.length m.cD] 30)).heap.size (w.alloc (.cells #[.slice m.oT m.types.length m.cT, .slice m.oI m.imports.length m.cI, .slice m.oF m.funcs.length m.cF, .int .i64 m.table, .int .i64 m.pages, .int .i64 m.most, .slice m.oG m.globals.length m.cG, .slice m.oE m.exports.length m.cE, .int .i64 m.start, .slice m.oL m.elems.length m.cL, .slice m.oD m.data.length m.cD] 30)) w' → w'.cell? ⟨w.heap.size, 0, none⟩ = some (.slice m.oT m.types.length m.cT) ∧ w'.cell? ⟨w.heap.size, 1, none⟩ = some (.slice m.oI m.imports.length m.cI) ∧ w'.cell? ⟨w.heap.size, 2, none⟩ = some (.slice m.oF m.funcs.length m.cF) ∧ w'.cell? ⟨w.heap.size, 3, none⟩ = some (.int .i64 m.table) ∧ w'.cell? ⟨w.heap.size, 4, none⟩ = some (.int .i64 m.pages) ∧ w'.cell? ⟨w.heap.size, 5, none⟩ = some (.int .i64 m.most) ∧ w'.cell? ⟨w.heap.size, 6, none⟩ = some (.slice m.oG m.globals.length m.cG) ∧ w'.cell? ⟨w.heap.size, 7, none⟩ = some (.slice m.oE m.exports.length m.cE) ∧ w'.cell? ⟨w.heap.size, 8, none⟩ = some (.int .i64 m.start) ∧ w'.cell? ⟨w.heap.size, 9, none⟩ = some (.slice m.oL m.elems.length m.cL) ∧ w'.cell? ⟨w.heap.size, 10, none⟩ = some (.slice m.oD m.data.length m.cD)) := fun w' bz => by
  have a1 := (bz.block w.heap.size (by simp)).trans (new_block w (.cells #[.slice m.oT m.types.length m.cT, .slice m.oI m.imports.length m.cI, .slice m.oF m.funcs.length m.cF, .int .i64 m.table, .int .i64 m.pages, .int .i64 m.most, .slice m.oG m.globals.length m.cG, .slice m.oE m.exports.length m.cE, .int .i64 m.start, .slice m.oL m.elems.length m.cL, .slice m.oD m.data.length m.cD] 30))
  exact ⟨cell_at a1 0 rfl, cell_at a1 1 rfl, cell_at a1 2 rfl, cell_at a1 3 rfl, cell_at a1 4 rfl, cell_at a1 5 rfl, cell_at a1 6 rfl, cell_at a1 7 rfl, cell_at a1 8 rfl, cell_at a1 9 rfl, cell_at a1 10 rfl⟩
 obtain ⟨f0, f1, f2, f3, f4, f5, f6, f7, f8, f9, f10⟩ := HS.out _ (Below.refl _ _)
 obtain ⟨W, HMK, hbW, hrow, hsz⟩ := imake_row Tryz.underlying76 infoInt n (by omega) (w.alloc (.cells #[.slice m.oT m.types.length m.cT, .slice m.oI m.imports.length m.cI, .slice m.oF m.funcs.length m.cF, .int .i64 m.table, .int .i64 m.pages, .int .i64 m.most, .slice m.oG m.globals.length m.cG, .slice m.oE m.exports.length m.cE, .int .i64 m.start, .slice m.oL m.elems.length m.cL, .slice m.oD m.data.length m.cD] 30))
 rw [← hn] at HMK
 obtain ⟨g, hg⟩ : ∃ g, g = (w.alloc (.cells #[.slice m.oT m.types.length m.cT, .slice m.oI m.imports.length m.cI, .slice m.oF m.funcs.length m.cF, .int .i64 m.table, .int .i64 m.pages, .int .i64 m.most, .slice m.oG m.globals.length m.cG, .slice m.oE m.exports.length m.cE, .int .i64 m.start, .slice m.oL m.elems.length m.cL, .slice m.oD m.data.length m.cD] 30)).heap.size := ⟨_, rfl⟩
 rw [← hg] at HMK hrow
 have HGG : Hid (w.heap.size < g) := by unfold Hid; rw [hg]; simp
 have HR0 : Hid (IRow W g 3 (List.replicate n 0)) := hrow
 have HBW : Hid (Below (w.alloc (.cells #[.slice m.oT m.types.length m.cT, .slice m.oI m.imports.length m.cI, .slice m.oF m.funcs.length m.cF, .int .i64 m.table, .int .i64 m.pages, .int .i64 m.most, .slice m.oG m.globals.length m.cG, .slice m.oE m.exports.length m.cE, .int .i64 m.start, .slice m.oL m.elems.length m.cL, .slice m.oD m.data.length m.cD] 30)).heap.size (w.alloc (.cells #[.slice m.oT m.types.length m.cT, .slice m.oI m.imports.length m.cI, .slice m.oF m.funcs.length m.cF, .int .i64 m.table, .int .i64 m.pages, .int .i64 m.most, .slice m.oG m.globals.length m.cG, .slice m.oE m.exports.length m.cE, .int .i64 m.start, .slice m.oL m.elems.length m.cL, .slice m.oD m.data.length m.cD] 30)) W) := hbW
 have HBV : Hid (Below w.heap.size w W) := HB1.out.trans (hbW.mono (by simp))
 clear hb1 hm hrow hbW hsz hg hR hn hfs
 go_enter Tryz.func64, Tryz.ntmps64
 go_wp2_with (refine wp_makeX rfl (.tmp 10) (.tmp 10) 76 rfl _ _ rfl rfl _ _ HMK.out ?_)
 clear f0 f1 f2 f3 f4 f5 f6 f7 f8 f9 f10 HMK
 go_loopw [14] (fun i wr => ∃ k : Nat, i = .int .i64 k ∧ k ≤ n ∧ Hid (IRow wr g 3 (List.replicate k (-1) ++ List.replicate (n - k) 0)) ∧ Hid (Below w.heap.size w wr) ∧ Hid (∀ W', Chg g W W' → True) ∧ Hid (Chg g W wr)) (fun i _ => n - (intOf i).toNat)
 case atStart => exact ⟨0, rfl, by omega, HR0, HBV, fun _ _ => trivial, Chg.refl _ _⟩
 case round =>
  obtain ⟨k, rfl, hk, HRo, HB, _, HCh⟩ := hrel
  clear HR0 HBV
  by_cases hlt : k < n
  ·have hki1 : (k : Int) < (n : Int) := by omega
   have hki0 : (0 : Int) ≤ (k : Int) := by omega
   have hl : ∃ x, (List.replicate k (-1 : Int) ++ List.replicate (n - k) 0)[k]? = some x := ⟨_, List.getElem?_eq_getElem (by rw [List.length_append, List.length_replicate, List.length_replicate]; omega)⟩
   obtain ⟨x, hx⟩ := hl
   have n3 := HRo.out.cell hx
   have n4 := HRo.out.fz k
   have HRS : Hid (IRow (wr.setCell ⟨g, k, none⟩ (.int .i64 (-1))) g 3 (List.replicate (k + 1) (-1) ++ List.replicate (n - (k + 1)) 0)) := by
    rw [← fill_step n k hlt]
    exact HRo.out.set k (-1)
   have HB4 : Hid (Below w.heap.size w (wr.setCell ⟨g, k, none⟩ (.int .i64 (-1)))) := HB.out.trans ((Chg.set g k _ _).below (by have := HGG.out; omega) (by have := HB.out.size; omega))
   have HC4 : Hid (Chg g W (wr.setCell ⟨g, k, none⟩ (.int .i64 (-1)))) := HCh.out.trans (Chg.set g k _ _)
   clear hx HRo HB HCh
   go_wp2
   go_roundw
   case rel => exact ⟨k + 1, rfl, by omega, HRS, HB4, fun _ _ => trivial, HC4⟩
   case measure => simp [intOf]; omega
  ·obtain rfl : k = n := by omega
   have hki1 : ¬ ((k : Int) < (k : Int)) := by omega
   have HRZ : Hid (IRow wr g 3 (List.replicate k (-1))) := by
    have := HRo.out
    rw [Nat.sub_self] at this
    unfold Hid
    simpa using this
   have k9 : wr.cell? ⟨w.heap.size, 9, none⟩ = some (.slice m.oL m.elems.length m.cL) := by
    have h := HS.out _ HBW.out
    have hb := HCh.out.block w.heap.size (by have := HBW.out.size; simp at this; omega) (by have := HGG.out; omega)
    exact (World.cell?_of_block hb).trans h.2.2.2.2.2.2.2.2.2.1
   clear hlt hk HRo HCh HBW HS HB1
   go_wp2_with fail
   clear k9
   go_loopw [24] (fun i wr => ∃ (q : Nat) (t : List Int), i = .int .i64 q ∧ q ≤ m.elems.length ∧ t.length = k ∧ Hid (R = tabsV (m.elems.drop q) t) ∧ Hid (IRow wr g 3 t) ∧ Hid (Below w.heap.size w wr)) (fun i _ => m.elems.length - (intOf i).toNat)
   case atStart => exact ⟨0, _, rfl, by omega, List.length_replicate, HR, HRZ, HB⟩
   case round =>
    obtain ⟨q, t, rfl, hq, htl, HT, HRW, HBr⟩ := hrel
    clear HRZ HB HR
    by_cases hlt : q < m.elems.length
    ·have hqi1 : (q : Int) < (m.elems.length : Int) := by omega
     have hqi0 : (0 : Int) ≤ (q : Int) := by omega
     obtain ⟨bb, ff, ho, hbN, hc⟩ := HM.out.elems.cellAt (fun e => by rw [e] at hlt; exact absurd hlt (by simp))
     obtain ⟨d, hd⟩ : ∃ d, m.elems[q]! = d := ⟨_, rfl⟩
     have hdm : m.elems[q]! ∈ m.elems := by rw [getElem!_pos m.elems q hlt]; exact List.getElem_mem hlt
     have hdk := (HM.out.elems.all _ hdm).2
     have hf16 := HFS.out _ hdm
     have c0 := hc wr HBr.out q hlt 0 (by omega)
     have c1 := hc wr HBr.out q hlt 1 (by omega)
     rw [hd] at c0 c1 hdk hf16
     obtain ⟨da, ⟨fo, fn, fc, fx⟩⟩ := d
     dsimp only at hdk hf16
     have c0' : wr.cell? ⟨bb, ff + q * 2, none⟩ = some (.int .i64 da) := c0
     have c1' : wr.cell? ⟨bb, ff + q * 2 + 1, none⟩ = some (.slice fo fn fc) := c1
     have HDr : Hid (m.elems.drop q = ⟨da, ⟨fo, fn, fc, fx⟩⟩ :: m.elems.drop (q + 1)) := by
      unfold Hid
      rw [List.drop_eq_getElem_cons hlt, ← hd, getElem!_pos m.elems q hlt]
     rw [HDr.out] at HT
     obtain ⟨pn, hpn⟩ : ∃ k : Nat, plc da = (k : Int) := ⟨_, (Int.toNat_of_nonneg (plc_range da).1).symm⟩
     have HPL : Hid (∀ W, Calls Tryz.prog 101 #[.int .i64 da] W fun r w' => r = .returned (.int .i64 (pn : Int)) ∧ w' = W) := fun W => by rw [← hpn]; exact iplace da W
     have hpb : (pn : Int) < 4294967296 := by have := plc_range da; omega
     have hpb0 : (0 : Int) ≤ (pn : Int) := by omega
     have HFL : Hid (fx.length = fn) := hdk.len
     have HBX : Hid (Below wr.heap.size wr (wr.alloc (.cells #[.int .i64 da, .slice fo fn fc] 127))) := (Below.refl _ _).alloc (Nat.le_refl _) _
     have HRX : Hid (IRow (wr.alloc (.cells #[.int .i64 da, .slice fo fn fc] 127)) g 3 t) := HRW.out.under HBX.out
     have HBY : Hid (Below w.heap.size w (wr.alloc (.cells #[.int .i64 da, .slice fo fn fc] 127))) := HBr.out.trans (HBX.out.mono HBr.out.size)
     have a1 := new_block wr (.cells #[.int .i64 da, .slice fo fn fc] 127)
     have e0 := cell_at a1 0 rfl
     have e1 := cell_at a1 1 rfl
     have hfc : fn ≤ fc := hdk.le
     have hfm : fc ≤ maxLen := hdk.most
     unfold maxLen at hfm
     rw [ho]
     by_cases hfit : pn + fn ≤ k
     ·have HP2 : Hid (R = tabsV (m.elems.drop (q + 1)) (splice t pn fx)) := by
       have := HT.out
       unfold tabsV at this
       dsimp only at this
       rw [hpn, if_pos (by omega), Int.toNat_natCast] at this
       exact this
      have HFIT : Hid (pn + fx.length ≤ t.length) := by rw [HFL.out, htl]; exact hfit
      have HLN : Hid ((splice t pn fx).length = k) := by
       unfold Hid
       rw [length_splice _ _ _ HFIT.out, htl]
      have hf1 : ¬ ((k : Int) < (pn : Int) + (fn : Int)) := by omega
      have hf2 : (pn : Int) ≤ (k : Int) := by omega
      have HSP : Hid ((splice (t.map (Value.int .i64)) pn (fx.map (Value.int .i64))) = (splice t pn fx).map (Value.int .i64)) := by
       unfold Hid splice
       simp [List.map_take, List.map_drop]
      have HFO : Hid (0 < fx.length → ∃ ad : Addr, fo = some ad ∧ ∀ W', Below w.heap.size w W' → ∀ j v, (fx.map (Value.int .i64))[j]? = some v → W'.cell? (ad.add j) = some v) := fun h0 => by
       rcases hdk.at' with h | ⟨ad, h, hab, hac⟩
       ·dsimp only at h
        have := HFL.out
        omega
       ·refine ⟨ad, h, fun W' bW j v hv => ?_⟩
        rw [List.getElem?_map] at hv
        obtain ⟨x, hx, rfl⟩ := Option.map_eq_some_iff.1 hv
        have hj : j < fn := by have := (List.getElem?_eq_some_iff.1 hx).1; have := HFL.out; omega
        rw [bW.cell (p := ad.add j) (by rw [add_block]; exact hab), hac j hj]
        dsimp only
        rw [List.getD_eq_getElem?_getD, hx]
        rfl
      clear c0 c1 hc hd hdm HT hpn a1 hdk ho
      by_cases hpk : pn = k
      ·obtain rfl : fn = 0 := by omega
       have hfx : fx = [] := List.length_eq_zero_iff.1 HFL.out
       subst hpk
       have hf0 : ¬ ((pn : Int) < (pn : Int) + 0) := by omega
       clear hf1
       go_wp2_with (go_at_call 101; refine (HPL.out _).mono ?_; rintro r wq ⟨rfl, rfl⟩)
       go_region_law (refine step_copy_splice rfl (.tmp 41) (.tmp 43) 76 76 rfl 3 Tryz.underlying76 infoInt1 _ _ _ _ _ _ rfl rfl g pn (t.map (Value.int .i64)) 3 HRX.out (fx.map (Value.int .i64)) ?hn ?hpos ?hfit ?h1 w.heap.size w HBY.out.drew (Nat.le_of_lt HGG.out) ?_; (case hn => (rw [hfx]; simp)); (case hpos => (intro h0; rw [hfx] at h0; exact absurd h0 (by simp))); (case hfit => (rw [List.length_map, List.length_map]; exact HFIT.out)); (case h1 => (intro u hu; obtain ⟨x, _, rfl⟩ := List.mem_map.1 hu; rfl)); intro w4 hg4 hb4)
       rw [HSP.out] at hg4
       have HR4 : Hid (IRow w4 g 3 (splice t pn fx)) := hg4.out
       have HB4 : Hid (Below w.heap.size w w4) := hb4
       clear hg4 hb4 e0 e1 c0' c1'
       go_wp2
       go_roundw
       case rel => exact ⟨q + 1, _, rfl, by omega, HLN.out, HP2, HR4, HB4⟩
       case measure => simp [intOf]; omega
      ·have HPK : Hid (¬ k = pn) := fun e => hpk e.symm
       obtain ⟨sm, hsm⟩ : ∃ z : Int, z = (pn : Int) + (fn : Int) := ⟨_, rfl⟩
       have hwr : ∀ z : Int, z = (pn : Int) + (fn : Int) → IntKind.i64.wrap z = sm := fun z hz => by rw [hz, IntKind.wrap_i64]; omega
       have hf1 : ¬ ((k : Int) < sm) := by omega
       have HF2 : Hid ((pn : Int) ≤ (k : Int)) := hf2
       have HFT : Hid (pn + fn ≤ k) := hfit
       clear hpk hf2 hfit hsm hf16 hfc hfm hpb
       go_wp2_with (go_at_call 101; refine (HPL.out _).mono ?_; rintro r wq ⟨rfl, rfl⟩)
       have hpk' : ¬ k = pn := HPK.out
       have hf2 : (pn : Int) ≤ (k : Int) := HF2.out
       go_region_law (refine step_copy_splice rfl (.tmp 41) (.tmp 43) 76 76 rfl 3 Tryz.underlying76 infoInt1 _ _ _ _ _ _ rfl rfl g pn (t.map (Value.int .i64)) 3 HRX.out (fx.map (Value.int .i64)) ?hn ?hpos ?hfit ?h1 w.heap.size w HBY.out.drew (Nat.le_of_lt HGG.out) ?_; (case hn => (rw [List.length_map, HFL.out]; exact (Nat.min_eq_left (by have := HFT.out; omega)).symm)); (case hpos => (intro h0; rw [List.length_map] at h0; obtain ⟨ad, had, hcc⟩ := HFO.out h0; exact ⟨by simp, ad, had, hcc _ HBY.out.drew⟩)); (case hfit => (rw [List.length_map, List.length_map]; exact HFIT.out)); (case h1 => (intro u hu; obtain ⟨x, _, rfl⟩ := List.mem_map.1 hu; rfl)); intro w4 hg4 hb4)
       rw [HSP.out] at hg4
       have HR4 : Hid (IRow w4 g 3 (splice t pn fx)) := hg4.out
       have HB4 : Hid (Below w.heap.size w w4) := hb4
       clear hg4 hb4 e0 e1 c0' c1'
       go_wp2
       go_roundw
       case rel => exact ⟨q + 1, _, rfl, by omega, HLN.out, HP2, HR4, HB4⟩
       case measure => simp [intOf]; omega
     ·have HP2 : Hid (R = (23, [])) := by
       have := HT.out
       unfold tabsV at this
       dsimp only at this
       rw [hpn, if_neg (by omega)] at this
       exact this
      have hf1 : (k : Int) < (pn : Int) + (fn : Int) := by omega
      clear c0 c1 hc hd hdm HT hpn a1 hdk ho hfit
      go_wp2_with (go_at_call 101; refine (HPL.out _).mono ?_; rintro r wq ⟨rfl, rfl⟩)
      refine bodyPost_ret (results_tmp2 rfl _ _ _) rfl ?_
      rw [HP2.out]
      exact ⟨HBY.out, fun e => absurd e (by decide), fun _ => rfl⟩
    ·obtain rfl : q = m.elems.length := by omega
     have hqi1 : ¬ ((m.elems.length : Int) < (m.elems.length : Int)) := by omega
     have HP2 : Hid (R = (0, t)) := by
      have := HT.out
      rw [List.drop_length] at this
      exact this
     clear hlt hq HT
     go_wp2
     refine bodyPost_ret (results_tmp2 rfl _ _ _) rfl ?_
     rw [HP2.out]
     exact ⟨HBr.out, fun _ => ⟨g, rfl, Nat.le_of_lt HGG.out, HRW.out, htl⟩, fun e => absurd rfl e⟩
end Go.Proofs.YtoikoijpkchamaaGreatDoor
