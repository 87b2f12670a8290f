/-
 The law of more types, values and locals.
-/
import Derived.Test.YtgleeocebnjliaaGreatDoorBVM1
import Derived.Test.YtgleeocebnjliaaGreatDoorBVM2
import Derived.Test.YtgleeocebnjliaaGreatDoorBVM3
import Derived.Test.YtgleeocebnjliaaGreatDoorBVM4
import Derived.Test.YtgleeocebnjliaaGreatDoorBVXO
set_option maxHeartbeats 8000000
set_option maxRecDepth 1000000
namespace Go.Proofs.YtgleeocebnjliaaGreatDoor
open Go.RowKit
set_option linter.unusedVariables false
theorem vmore_sound (m : ModD) (td : SigD) (gd : GloD) (lk : Int) (q : Nat) (w : World) (HA : Hid (Amb w)) (HG : Hid (2 < w.heap.size)) (HM : Hid (m.ok w)) (HTD : Hid (SigD.ok w td)) (HGD : Hid (GloD.ok w gd)) (hl0 : 0 ≤ lk) (hl1 : lk ≤ 255) (hf0 : 0 < m.funcs.length) (hf : m.funcs.length ≤ 16) (htl : m.types.length ≤ 16) (hgl : m.globals.length ≤ 8) (HZ : Hid (modE m = 0))
  (HSO : Hid (∀ W, Below w.heap.size w W → Calls Tryz.prog 21 #[.agg #[.slice m.oT m.types.length m.cT, .slice m.oI m.imports.length m.cI, .slice m.oF m.funcs.length m.cF, .int .i64 m.table, .int .i64 m.pages, .int .i64 m.most, .slice m.oG m.globals.length m.cG, .slice m.oE m.exports.length m.cE, .int .i64 m.start, .slice m.oL m.elems.length m.cL, .slice m.oD m.data.length m.cD], .int .i64 0, .int .i64 0] W fun r w' => r = .returned (.tuple #[.int .i64 0, .int .i64 (q : Int), .bool true]) ∧ Below W.heap.size W w')) :
  Calls Tryz.prog 6 #[.agg #[.slice m.oT m.types.length m.cT, .slice m.oI m.imports.length m.cI, .slice m.oF m.funcs.length m.cF, .int .i64 m.table, .int .i64 m.pages, .int .i64 m.most, .slice m.oG m.globals.length m.cG, .slice m.oE m.exports.length m.cE, .int .i64 m.start, .slice m.oL m.elems.length m.cL, .slice m.oD m.data.length m.cD], .agg #[.slice td.i.o td.i.n td.i.cap, .slice td.r.o td.r.n td.r.cap], .agg #[.int .u8 gd.k, .bool gd.m, .int .i64 gd.s], .int .u8 lk] w fun r w' => r = .returned (.bool true) ∧ Below w.heap.size w w' := by
 by_cases ht : m.types.length < 16
 ·by_cases hg : m.globals.length < 8
  ·exact vmore_11 m td gd lk q w HA HG HM HTD HGD hl0 hl1 hf0 hf htl hgl HZ ht hg HSO
  ·exact vmore_10 m td gd lk q w HA HG HM HTD HGD hl0 hl1 hf0 hf htl hgl HZ ht hg HSO
 ·by_cases hg : m.globals.length < 8
  ·exact vmore_01 m td gd lk q w HA HG HM HTD HGD hl0 hl1 hf0 hf htl hgl HZ ht hg HSO
  ·exact vmore_00 m td gd lk q w HA HG HM HTD HGD hl0 hl1 hf0 hf htl hgl HZ ht hg HSO
theorem vmore_no (m : ModD) (td : SigD) (gd : GloD) (lk : Int) (w : World) (HA : Hid (Amb w)) (HG : Hid (2 < w.heap.size))
  (HSO : Hid (∀ W, Below w.heap.size w W → Calls Tryz.prog 21 #[.agg #[.slice m.oT m.types.length m.cT, .slice m.oI m.imports.length m.cI, .slice m.oF m.funcs.length m.cF, .int .i64 m.table, .int .i64 m.pages, .int .i64 m.most, .slice m.oG m.globals.length m.cG, .slice m.oE m.exports.length m.cE, .int .i64 m.start, .slice m.oL m.elems.length m.cL, .slice m.oD m.data.length m.cD], .int .i64 0, .int .i64 0] W fun r w' => r = .returned (.tuple #[.int .i64 0, .int .i64 0, .bool false]) ∧ Below W.heap.size W w')) :
  Calls Tryz.prog 6 #[.agg #[.slice m.oT m.types.length m.cT, .slice m.oI m.imports.length m.cI, .slice m.oF m.funcs.length m.cF, .int .i64 m.table, .int .i64 m.pages, .int .i64 m.most, .slice m.oG m.globals.length m.cG, .slice m.oE m.exports.length m.cE, .int .i64 m.start, .slice m.oL m.elems.length m.cL, .slice m.oD m.data.length m.cD], .agg #[.slice td.i.o td.i.n td.i.cap, .slice td.r.o td.r.n td.r.cap], .agg #[.int .u8 gd.k, .bool gd.m, .int .i64 gd.s], .int .u8 lk] w fun r w' => r = .returned (.bool true) ∧ Below w.heap.size w w' := by
 have HB : Hid (BX m td gd w (((w.alloc (.cells #[.slice m.oT m.types.length m.cT, .slice m.oI m.imports.length m.cI, .slice m.oF m.funcs.length m.cF, .int .i64 m.table, .int .i64 m.pages, .int .i64 m.most, .slice m.oG m.globals.length m.cG, .slice m.oE m.exports.length m.cE, .int .i64 m.start, .slice m.oL m.elems.length m.cL, .slice m.oD m.data.length m.cD] 30)).alloc (.cells #[.slice td.i.o td.i.n td.i.cap, .slice td.r.o td.r.n td.r.cap] 46)).alloc (.cells #[.int .u8 gd.k, .bool gd.m, .int .i64 gd.s] 49))) := BX.first m td gd w
 have f0 := cell_at HB.out.b0 0 rfl
 have f1 := cell_at HB.out.b0 1 rfl
 have f2 := cell_at HB.out.b0 2 rfl
 have f3 := cell_at HB.out.b0 3 rfl
 have f4 := cell_at HB.out.b0 4 rfl
 have f5 := cell_at HB.out.b0 5 rfl
 have f6 := cell_at HB.out.b0 6 rfl
 have f7 := cell_at HB.out.b0 7 rfl
 have f8 := cell_at HB.out.b0 8 rfl
 have f9 := cell_at HB.out.b0 9 rfl
 have f10 := cell_at HB.out.b0 10 rfl
 go_enter Tryz.func6, Tryz.ntmps6
 go_wp2_with fail
 refine (HSO.out _ HB.out.bel).mono ?_
 rintro r w1 ⟨rfl, b1⟩
 have HB1 : Hid (BX m td gd w w1) := HB.out.under b1
 clear b1 HSO HB f0 f1 f2 f3 f4 f5 f6 f7 f8 f9 f10
 have HRF : Hid (type_of% (vrefused w1 (HA.out.to (HB1.out.bel.mono (by have := HA.out.2.2; omega))) (Nat.lt_of_lt_of_le HG.out HB1.out.bel.size))) := vrefused w1 (HA.out.to (HB1.out.bel.mono (by have := HA.out.2.2; omega))) (Nat.lt_of_lt_of_le HG.out HB1.out.bel.size)
 go_wp2_with fail
 refine HRF.out.mono ?_
 rintro r w2 ⟨rfl, b2⟩
 have HB5 : Hid (Below w.heap.size w w2) := (HB1.out.under b2).bel
 clear b2 HB1 HRF
 go_wp2
 go_ret
 exact ⟨rfl, HB5.out⟩
theorem validMore_walk (m : ModD) (td : SigD) (gd : GloD) (lk : Int) (w : World) (hA : Amb w) (hm : m.ok w) (htd : SigD.ok w td) (hgd : GloD.ok w gd) (hl0 : 0 ≤ lk) (hl1 : lk ≤ 255) :
  Calls Tryz.prog 6 #[.agg (mcA m), .agg #[.slice td.i.o td.i.n td.i.cap, .slice td.r.o td.r.n td.r.cap], .agg #[.int .u8 gd.k, .bool gd.m, .int .i64 gd.s], .int .u8 lk] w fun r w' => r = .returned (.bool true) ∧ Below w.heap.size w w' := by
 have hg : 2 < w.heap.size := by have := hA.2.2; omega
 have hs : ∀ W, Below w.heap.size w W → Calls Tryz.prog 21 #[.agg #[.slice m.oT m.types.length m.cT, .slice m.oI m.imports.length m.cI, .slice m.oF m.funcs.length m.cF, .int .i64 m.table, .int .i64 m.pages, .int .i64 m.most, .slice m.oG m.globals.length m.cG, .slice m.oE m.exports.length m.cE, .int .i64 m.start, .slice m.oL m.elems.length m.cL, .slice m.oD m.data.length m.cD], .int .i64 0, .int .i64 0] W fun r w' => r = .returned (.tuple #[.int .i64 (soundV m 0 0).1, .int .i64 (soundV m 0 0).2.1, .bool (soundV m 0 0).2.2]) ∧ Below W.heap.size W w' := fun W b => vsound m 0 0 W (hA.to (b.mono (by have := hA.2.2; omega))) (hm.below b) (Nat.lt_of_lt_of_le hg b.size) ⟨by decide, by decide⟩ ⟨by decide, by decide⟩
 by_cases hz : modE m = 0 ∧ m.funcs.length ≠ 0
 ·have e : soundV m 0 0 = (0 % (m.funcs.length : Int), 0 % ((m.funcs[(0 % (m.funcs.length : Int)).toNat]!).b.length : Int), true) := if_pos hz
  rw [Int.zero_emod, Int.zero_emod] at e
  rw [e] at hs
  have hc := (head_zero (mod_zero hz.1).1).1
  have gf := fair_of hm hc
  have htl : m.types.length ≤ 16 := by
   have h := hc
   unfold mChk at h
   have := (chkL_eq0 (fstE_eq0 h).1).1
   omega
  exact vmore_sound m td gd lk 0 w hA hg hm htd hgd hl0 hl1 (by omega) gf.nF htl (few_glob hc) hz.1 hs
 ·have e : soundV m 0 0 = (0, 0, false) := if_neg hz
  rw [e] at hs
  exact vmore_no m td gd lk w hA hg hs
end Go.Proofs.YtgleeocebnjliaaGreatDoor
