/-
 The law of what an instance has at first, where there is none.
 The law of what an instance has at first, where there is one.
 The law of what an instance has at first.
 For every module and every number, what an instance has at first fits its module, and a memory that is grown fits just as long as it may be: the law InstOwn says true.
-/
import Derived.Test.YtoikoijpkchamaaGreatDoorBID
import Derived.Test.YtoikoijpkchamaaGreatDoorTie
import Derived.Test.YtoikoijpkchamaaGreatDoorCards
import Derived.ProofKit
import Derived.OpenShut
import Derived.ShutString
import Derived.SizedLaws
import Derived.LaidMore
import Derived.Stop.Joined
import Derived.SevenTiedAt
import Derived.PinnedBridge
import Derived.Lib.LaidTab
import Derived.Lib.LaidU8T
import Derived.Below
import Derived.Stop.LaidErr
import Derived.Carry
import Derived.ChangeSame
set_option maxHeartbeats 8000000
set_option maxRecDepth 1000000
namespace Go.Proofs.YtoikoijpkchamaaGreatDoor
open Go.RowKit
set_option linter.unusedVariables false
theorem own_err (m : ModD) (more : Int) (w : World) (hA : Amb w) (hm : m.ok w) (hg : 2 < w.heap.size) (h0 : makeE m ≠ 0) :
  Calls Tryz.prog 13 #[.agg #[.slice m.oT m.types.length m.cT, .slice m.oI m.imports.length m.cI, .slice m.oF m.funcs.length m.cF, .int .i64 m.table, .int .i64 m.pages, .int .i64 m.most, .slice m.oG m.globals.length m.cG, .slice m.oE m.exports.length m.cE, .int .i64 m.start, .slice m.oL m.elems.length m.cL, .slice m.oD m.data.length m.cD], .int .i64 more] w fun r w' => r = .returned (.bool true) ∧ Below w.heap.size w w' := by
 obtain ⟨E, hE⟩ : ∃ E, makeE m = E := ⟨_, rfl⟩
 have HMK : Hid (∀ W, Below w.heap.size w W → Calls Tryz.prog 38 #[.agg #[.slice m.oT m.types.length m.cT, .slice m.oI m.imports.length m.cI, .slice m.oF m.funcs.length m.cF, .int .i64 m.table, .int .i64 m.pages, .int .i64 m.most, .slice m.oG m.globals.length m.cG, .slice m.oE m.exports.length m.cE, .int .i64 m.start, .slice m.oL m.elems.length m.cL, .slice m.oD m.data.length m.cD]] W fun r w' => r = .returned (.tuple #[.agg #[.string ByteArray.empty, .slice none 0 0, .slice none 0 0], .int .i64 E]) ∧ Below W.heap.size W w') := fun W b => (imake m W (hA.to (b.mono (by have := hA.2.2; omega))) (hm.below b) (Nat.lt_of_lt_of_le hg b.size)).mono fun r w' h => ⟨by rw [← hE]; exact h.2.2 h0, h.1⟩
 have HSI : Hid (∀ W, Calls Tryz.prog 40 #[.agg #[.string ByteArray.empty, .slice none 0 0, .slice none 0 0], .agg #[.string ByteArray.empty, .slice none 0 0, .slice none 0 0]] W fun r w' => r = .returned (.bool true) ∧ Below W.heap.size W w') := fun W => (sameImage_any ByteArray.empty ByteArray.empty ⟨none, 0, 0, []⟩ ⟨none, 0, 0, []⟩ ⟨none, 0, 0, []⟩ ⟨none, 0, 0, []⟩ W (nil_ok W) (nil_ok W) (nil_ok W) (nil_ok W)).mono fun r w' h => ⟨by rw [h.1]; simp, h.2⟩
 have HFT : Hid (E ≠ 23 → ∃ e, e ≠ 0 ∧ ∀ W, Below w.heap.size w W → Calls Tryz.prog 41 #[.agg #[.slice m.oT m.types.length m.cT, .slice m.oI m.imports.length m.cI, .slice m.oF m.funcs.length m.cF, .int .i64 m.table, .int .i64 m.pages, .int .i64 m.most, .slice m.oG m.globals.length m.cG, .slice m.oE m.exports.length m.cE, .int .i64 m.start, .slice m.oL m.elems.length m.cL, .slice m.oD m.data.length m.cD], .agg #[.string ByteArray.empty, .slice none 0 0, .slice none 0 0]] W fun r w' => r = .returned (.int .i64 e) ∧ Below W.heap.size W w') := fun h23 => by
  have hmo : modE m ≠ 0 := make_err h0 (by rw [hE]; exact h23)
  refine ⟨modE m, hmo, fun W b => ?_⟩
  have := ifits m ByteArray.empty (by decide) ⟨none, 0, 0, []⟩ ⟨none, 0, 0, []⟩ W (hA.to (b.mono (by have := hA.2.2; omega))) (hm.below b) (Nat.lt_of_lt_of_le hg b.size) (nil_ok W) (nil_ok W)
  refine this.mono fun r w' h => ⟨?_, h.2⟩
  rw [h.1]
  unfold fitsE
  rw [if_neg hmo]
 have hb1 : Below w.heap.size w (w.alloc (.cells #[.slice m.oT m.types.length m.cT, .slice m.oI m.imports.length m.cI, .slice m.oF m.funcs.length m.cF, .int .i64 m.table, .int .i64 m.pages, .int .i64 m.most, .slice m.oG m.globals.length m.cG, .slice m.oE m.exports.length m.cE, .int .i64 m.start, .slice m.oL m.elems.length m.cL, .slice m.oD m.data.length m.cD] 30)) := (Below.refl _ _).alloc (Nat.le_refl _) _
 have HB1 : Hid (type_of% hb1) := hb1
 have HS : Hid (∀ w', Below (w.alloc (.cells #[.slice m.oT m.types.length m.cT, .slice m.oI m.imports.length m.cI, .slice m.oF m.funcs.length m.cF, .int .i64 m.table, .int .i64 m.pages, .int .i64 m.most, .slice m.oG m.globals.length m.cG, .slice m.oE m.exports.length m.cE, .int .i64 m.start, .slice m.oL m.elems.length m.cL, .slice m.oD m.data.length m.cD] 30)).heap.size (w.alloc (.cells #[.slice m.oT m.types.length m.cT, .slice m.oI m.imports.length m.cI, .slice m.oF m.funcs.length m.cF, .int .i64 m.table, .int .i64 m.pages, .int .i64 m.most, .slice m.oG m.globals.length m.cG, .slice m.oE m.exports.length m.cE, .int .i64 m.start, .slice m.oL m.elems.length m.cL, .slice m.oD m.data.length m.cD] 30)) w' → w'.cell? ⟨w.heap.size, 0, none⟩ = some (.slice m.oT m.types.length m.cT) ∧ w'.cell? ⟨w.heap.size, 1, none⟩ = some (.slice m.oI m.imports.length m.cI) ∧ w'.cell? ⟨w.heap.size, 2, none⟩ = some (.slice m.oF m.funcs.length m.cF) ∧ w'.cell? ⟨w.heap.size, 3, none⟩ = some (.int .i64 m.table) ∧ w'.cell? ⟨w.heap.size, 4, none⟩ = some (.int .i64 m.pages) ∧ w'.cell? ⟨w.heap.size, 5, none⟩ = some (.int .i64 m.most) ∧ w'.cell? ⟨w.heap.size, 6, none⟩ = some (.slice m.oG m.globals.length m.cG) ∧ w'.cell? ⟨w.heap.size, 7, none⟩ = some (.slice m.oE m.exports.length m.cE) ∧ w'.cell? ⟨w.heap.size, 8, none⟩ = some (.int .i64 m.start) ∧ w'.cell? ⟨w.heap.size, 9, none⟩ = some (.slice m.oL m.elems.length m.cL) ∧ w'.cell? ⟨w.heap.size, 10, none⟩ = some (.slice m.oD m.data.length m.cD)) := fun w' bz => by
  have a1 := (bz.block w.heap.size (by simp)).trans (new_block w (.cells #[.slice m.oT m.types.length m.cT, .slice m.oI m.imports.length m.cI, .slice m.oF m.funcs.length m.cF, .int .i64 m.table, .int .i64 m.pages, .int .i64 m.most, .slice m.oG m.globals.length m.cG, .slice m.oE m.exports.length m.cE, .int .i64 m.start, .slice m.oL m.elems.length m.cL, .slice m.oD m.data.length m.cD] 30))
  exact ⟨cell_at a1 0 rfl, cell_at a1 1 rfl, cell_at a1 2 rfl, cell_at a1 3 rfl, cell_at a1 4 rfl, cell_at a1 5 rfl, cell_at a1 6 rfl, cell_at a1 7 rfl, cell_at a1 8 rfl, cell_at a1 9 rfl, cell_at a1 10 rfl⟩
 obtain ⟨f0, f1, f2, f3, f4, f5, f6, f7, f8, f9, f10⟩ := HS.out _ (Below.refl _ _)
 rw [hE] at h0
 have hb0 : (E == 0) = false := by rw [beq_eq_false_iff_ne]; exact h0
 have hn0 : (E != 0) = true := by rw [bne, hb0]; rfl
 clear hb1 hm hA hE hg
 go_enter Tryz.func13, Tryz.ntmps13
 go_wp2_with fail
 refine (HMK.out _ HB1.out).mono ?_
 rintro r w1 ⟨rfl, b1⟩
 have HW1 : Hid (Below (w.alloc (.cells #[.slice m.oT m.types.length m.cT, .slice m.oI m.imports.length m.cI, .slice m.oF m.funcs.length m.cF, .int .i64 m.table, .int .i64 m.pages, .int .i64 m.most, .slice m.oG m.globals.length m.cG, .slice m.oE m.exports.length m.cE, .int .i64 m.start, .slice m.oL m.elems.length m.cL, .slice m.oD m.data.length m.cD] 30)).heap.size (w.alloc (.cells #[.slice m.oT m.types.length m.cT, .slice m.oI m.imports.length m.cI, .slice m.oF m.funcs.length m.cF, .int .i64 m.table, .int .i64 m.pages, .int .i64 m.most, .slice m.oG m.globals.length m.cG, .slice m.oE m.exports.length m.cE, .int .i64 m.start, .slice m.oL m.elems.length m.cL, .slice m.oD m.data.length m.cD] 30)) w1) := b1
 have HV1 : Hid (Below w.heap.size w w1) := HB1.out.trans (b1.mono HB1.out.size)
 have HX : Hid (Below w1.heap.size w1 (w1.alloc (.cells #[.string ByteArray.empty, .slice none 0 0, .slice none 0 0] 80))) := (Below.refl _ _).alloc (Nat.le_refl _) _
 have HCC : Hid (∀ W, Below (w1.alloc (.cells #[.string ByteArray.empty, .slice none 0 0, .slice none 0 0] 80)).heap.size (w1.alloc (.cells #[.string ByteArray.empty, .slice none 0 0, .slice none 0 0] 80)) W → W.cell? ⟨w1.heap.size, 0, none⟩ = some (.string ByteArray.empty) ∧ W.cell? ⟨w1.heap.size, 1, none⟩ = some (.slice none 0 0) ∧ W.cell? ⟨w1.heap.size, 2, none⟩ = some (.slice none 0 0)) := fun W bW => by
  have q := (bW.block w1.heap.size (by simp)).trans (new_block w1 (.cells #[.string ByteArray.empty, .slice none 0 0, .slice none 0 0] 80))
  exact ⟨cell_at q 0 rfl, cell_at q 1 rfl, cell_at q 2 rfl⟩
 obtain ⟨x0, x1, x2⟩ := HCC.out _ (Below.refl _ _)
 clear b1 f0 f1 f2 f3 f4 f5 f6 f7 f8 f9 f10 HMK
 by_cases h23 : E = 23
 ·subst h23
  go_wp2_with (go_at_call 40; refine (HSI.out _).mono ?_; rintro r w2 ⟨rfl, b2⟩; have HV2 : Hid (Below w.heap.size w w2) := (HV1.out.trans (HX.out.mono HV1.out.size)).trans (b2.mono (by have h1 := HV1.out.size; simp; omega)); clear b2)
  go_ret
  exact ⟨rfl, HV2.out⟩
 ·obtain ⟨e, he, hfit⟩ := HFT.out h23
  have HFI : Hid (type_of% hfit) := hfit
  have he0 : (e == 0) = false := by rw [beq_eq_false_iff_ne]; exact he
  have hen : (e != 0) = true := by rw [bne, he0]; rfl
  have h230 : (E == 23) = false := by rw [beq_eq_false_iff_ne]; exact h23
  clear hfit HFT
  go_wp2_with (first | (go_at_call 40; refine (HSI.out _).mono ?_; rintro r w2 ⟨rfl, b2⟩; have HW2 : Hid (Below (w1.alloc (.cells #[.string ByteArray.empty, .slice none 0 0, .slice none 0 0] 80)).heap.size (w1.alloc (.cells #[.string ByteArray.empty, .slice none 0 0, .slice none 0 0] 80)) w2) := b2; have HV2 : Hid (Below w.heap.size w w2) := (HV1.out.trans (HX.out.mono HV1.out.size)).trans (b2.mono (by have h1 := HV1.out.size; simp; omega)); (obtain ⟨y0, y1, y2⟩ := HCC.out _ b2); (obtain ⟨g0, g1, g2, g3, g4, g5, g6, g7, g8, g9, g10⟩ := HS.out w2 ((HW1.out.trans (HX.out.mono HW1.out.size)).trans (b2.mono (by have h1 := HW1.out.size; simp at h1 ⊢; omega)))); clear b2) | (go_at_call 41; refine (HFI.out _ HV2.out).mono ?_; rintro r w3 ⟨rfl, b3⟩; have HV3 : Hid (Below w.heap.size w w3) := HV2.out.trans (b3.mono HV2.out.size); clear b3))
  go_ret
  exact ⟨rfl, HV3.out⟩
end Go.Proofs.YtoikoijpkchamaaGreatDoor
namespace Go.Proofs.YtoikoijpkchamaaGreatDoor
open Go.RowKit
set_option linter.unusedVariables false
theorem own_bytes (n : Nat) (hn : n ≤ 1000000) (w : World) : (Instr.makeSlice 87 (.int .i64 (n : Int)) (.int .i64 (n : Int))).run Tryz.prog w = .ok (.slice (some ⟨w.heap.size, 0, none⟩) n n) (w.alloc (.cells (bC (List.replicate n 0)).toArray 5)) := by
 obtain ⟨i0, hi, hz0, hz1, hz2⟩ := info_parts Tryz.infoU8m
 have := run_make (P := Tryz.prog) w 87 5 i0 (.int .u8 0) Tryz.underlying87 hi hz0 .i64 .i64 (n : Int) (n : Int) (by omega) (by omega) (by rw [hz2]; omega) (by omega)
 rw [this, hz1, Int.toNat_natCast, Nat.mul_one, made_zeros]
theorem op_makeX {P : Program} {w : World} {o : Oper} {a : Act} {K : Act → World → Prop} {R : Exit → Act → World → Prop} (l c : Operand) (t : TypeId) (ho : o.op = .makeSlice t l c)
  (vl vc : Value) (hl : a.eval l = vl) (hc : a.eval c = vc) (p : Value) (w' : World) (hr : (Instr.makeSlice t vl vc).run P w = .ok p w') (h : K (a.put o.dst p) w') : Oper.wp P o a w K R := by
 unfold Oper.wp
 simp [execOp, ho, hl, hc, hr, Result.andThen]
 exact h
theorem op_convX {P : Program} {w : World} {o : Oper} {a : Act} {K : Act → World → Prop} {R : Exit → Act → World → Prop} (x : Operand) (s t : TypeId) (ho : o.op = .convert s t x)
  (vx : Value) (hx : a.eval x = vx) (p : Value) (w' : World) (hr : (convert s t vx).run P w = .ok p w') (h : K (a.put o.dst p) w') : Oper.wp P o a w K R := by
 unfold Oper.wp
 simp [execOp, ho, hx, hr, Result.andThen]
 exact h
theorem own_core (oT oI oF oG oE oL oD : Option Addr) (nT kT nI kI nF kF nG kG nE kE nL kL nD kD : Nat) (t p q s : Int) (S : ByteArray) (tn gn k : Nat) (more : Int) (w : World)
  (hS : (S.size : Int) = 256 * p) (htn : (tn : Int) = t) (hk : more % 10 = (k : Int)) (hm0 : -9223372036854775808 ≤ more) (hm1 : more ≤ 9223372036854775807) (hp0 : 0 ≤ p) (hp1 : p ≤ q) (hp2 : q ≤ 8)
  (HMK : Hid (∀ W, Below w.heap.size w W → Calls Tryz.prog 38 #[.agg #[.slice oT nT kT, .slice oI nI kI, .slice oF nF kF, .int .i64 t, .int .i64 p, .int .i64 q, .slice oG nG kG, .slice oE nE kE, .int .i64 s, .slice oL nL kL, .slice oD nD kD]] W fun r w' => ∃ g g2 : Nat, r = .returned (.tuple #[.agg #[.string S, .slice (some ⟨g, 0, none⟩) tn tn, .slice (some ⟨g2, 0, none⟩) gn gn], .int .i64 0]) ∧ Below W.heap.size W w' ∧ Hid (∀ W', Below w'.heap.size w' W' → ∀ (u : ByteArray) (j : Nat), j ≤ 9 → u.size = S.size + 256 * j → Calls Tryz.prog 41 #[.agg #[.slice oT nT kT, .slice oI nI kI, .slice oF nF kF, .int .i64 t, .int .i64 p, .int .i64 q, .slice oG nG kG, .slice oE nE kE, .int .i64 s, .slice oL nL kL, .slice oD nD kD], .agg #[.string u, .slice (some ⟨g, 0, none⟩) tn tn, .slice (some ⟨g2, 0, none⟩) gn gn]] W' fun r w'' => r = .returned (.int .i64 (if p + (j : Int) ≤ q then 0 else 1)) ∧ Below W'.heap.size W' w''))) :
  Calls Tryz.prog 13 #[.agg #[.slice oT nT kT, .slice oI nI kI, .slice oF nF kF, .int .i64 t, .int .i64 p, .int .i64 q, .slice oG nG kG, .slice oE nE kE, .int .i64 s, .slice oL nL kL, .slice oD nD kD], .int .i64 more] w fun r w' => r = .returned (.bool true) ∧ Below w.heap.size w w' := by
 have hk9 : k ≤ 9 := by omega
 have HRS : Hid (∀ W, Calls Tryz.prog 43 #[.int .i64 more, .int .i64 10] W fun e w' => e = .returned (.int .i64 (k : Int)) ∧ w' = W) := fun W => rest_v more 10 (k : Int) (by omega) (by omega) hk hm0 hm1 W
 have HK9 : Hid (k ≤ 9) := hk9
 obtain ⟨K, hK⟩ : ∃ K : Nat, K = 256 * k := ⟨_, rfl⟩
 have HKK : Hid (K = 256 * k) := hK
 have HKL : Hid (K ≤ 1000000) := by unfold Hid; omega
 have HSS : Hid (S.size ≤ 2048) := by unfold Hid; omega
 have hw1 : ∀ z : Int, z = 256 * p → wrap64 z = (S.size : Int) := fun z hz => by rw [hz, ← hS]; unfold wrap64; have := HSS.out; omega
 have hw2 : ∀ z : Int, z = 256 * (k : Int) → IntKind.i64.wrap z = (K : Int) := fun z hz => by rw [hz, IntKind.wrap_i64]; omega
 have hw3 : ∀ z : Int, z = p + (k : Int) → IntKind.i64.wrap z = p + (k : Int) := fun z hz => by rw [hz, IntKind.wrap_i64]; omega
 have hw4 : ∀ z : Int, z = p + (k : Int) → wrap64 z = p + (k : Int) := fun z hz => by rw [hz]; unfold wrap64; omega
 have ht1 : ((tn : Int) != t) = false := by rw [htn]; simp
 have ht2 : ((tn : Int) == t) = true := by rw [htn]; simp
 have hb1 : Below w.heap.size w (w.alloc (.cells #[.slice oT nT kT, .slice oI nI kI, .slice oF nF kF, .int .i64 t, .int .i64 p, .int .i64 q, .slice oG nG kG, .slice oE nE kE, .int .i64 s, .slice oL nL kL, .slice oD nD kD] 30)) := (Below.refl _ _).alloc (Nat.le_refl _) _
 have HB1 : Hid (type_of% hb1) := hb1
 have HS : Hid (∀ w', Below (w.alloc (.cells #[.slice oT nT kT, .slice oI nI kI, .slice oF nF kF, .int .i64 t, .int .i64 p, .int .i64 q, .slice oG nG kG, .slice oE nE kE, .int .i64 s, .slice oL nL kL, .slice oD nD kD] 30)).heap.size (w.alloc (.cells #[.slice oT nT kT, .slice oI nI kI, .slice oF nF kF, .int .i64 t, .int .i64 p, .int .i64 q, .slice oG nG kG, .slice oE nE kE, .int .i64 s, .slice oL nL kL, .slice oD nD kD] 30)) w' → w'.cell? ⟨w.heap.size, 0, none⟩ = some (.slice oT nT kT) ∧ w'.cell? ⟨w.heap.size, 1, none⟩ = some (.slice oI nI kI) ∧ w'.cell? ⟨w.heap.size, 2, none⟩ = some (.slice oF nF kF) ∧ w'.cell? ⟨w.heap.size, 3, none⟩ = some (.int .i64 t) ∧ w'.cell? ⟨w.heap.size, 4, none⟩ = some (.int .i64 p) ∧ w'.cell? ⟨w.heap.size, 5, none⟩ = some (.int .i64 q) ∧ w'.cell? ⟨w.heap.size, 6, none⟩ = some (.slice oG nG kG) ∧ w'.cell? ⟨w.heap.size, 7, none⟩ = some (.slice oE nE kE) ∧ w'.cell? ⟨w.heap.size, 8, none⟩ = some (.int .i64 s) ∧ w'.cell? ⟨w.heap.size, 9, none⟩ = some (.slice oL nL kL) ∧ w'.cell? ⟨w.heap.size, 10, none⟩ = some (.slice oD nD kD)) := fun w' bz => by
  have a1 := (bz.block w.heap.size (by simp)).trans (new_block w (.cells #[.slice oT nT kT, .slice oI nI kI, .slice oF nF kF, .int .i64 t, .int .i64 p, .int .i64 q, .slice oG nG kG, .slice oE nE kE, .int .i64 s, .slice oL nL kL, .slice oD nD kD] 30))
  exact ⟨cell_at a1 0 rfl, cell_at a1 1 rfl, cell_at a1 2 rfl, cell_at a1 3 rfl, cell_at a1 4 rfl, cell_at a1 5 rfl, cell_at a1 6 rfl, cell_at a1 7 rfl, cell_at a1 8 rfl, cell_at a1 9 rfl, cell_at a1 10 rfl⟩
 obtain ⟨f0, f1, f2, f3, f4, f5, f6, f7, f8, f9, f10⟩ := HS.out _ (Below.refl _ _)
 have HPQ : Hid (0 ≤ p ∧ p ≤ q ∧ q ≤ 8) := ⟨hp0, hp1, hp2⟩
 have HF0 : Hid ((if p + ((0 : Nat) : Int) ≤ q then (0 : Int) else 1) = 0) := by unfold Hid; rw [if_pos (by omega)]
 clear hb1 hS htn hk hm0 hm1 hp0 hp1 hp2 hk9 hK
 go_enter Tryz.func13, Tryz.ntmps13
 go_wp2_with fail
 refine (HMK.out _ HB1.out).mono ?_
 rintro r w1 ⟨g, g2, rfl, b1, HFT⟩
 have HW1 : Hid (Below (w.alloc (.cells #[.slice oT nT kT, .slice oI nI kI, .slice oF nF kF, .int .i64 t, .int .i64 p, .int .i64 q, .slice oG nG kG, .slice oE nE kE, .int .i64 s, .slice oL nL kL, .slice oD nD kD] 30)).heap.size (w.alloc (.cells #[.slice oT nT kT, .slice oI nI kI, .slice oF nF kF, .int .i64 t, .int .i64 p, .int .i64 q, .slice oG nG kG, .slice oE nE kE, .int .i64 s, .slice oL nL kL, .slice oD nD kD] 30)) w1) := b1
 have HV1 : Hid (Below w.heap.size w w1) := HB1.out.trans (b1.mono HB1.out.size)
 have HX : Hid (Below w1.heap.size w1 (w1.alloc (.cells #[.string S, .slice (some ⟨g, 0, none⟩) tn tn, .slice (some ⟨g2, 0, none⟩) gn gn] 80))) := (Below.refl _ _).alloc (Nat.le_refl _) _
 have HVX : Hid (Below (w.alloc (.cells #[.slice oT nT kT, .slice oI nI kI, .slice oF nF kF, .int .i64 t, .int .i64 p, .int .i64 q, .slice oG nG kG, .slice oE nE kE, .int .i64 s, .slice oL nL kL, .slice oD nD kD] 30)).heap.size (w.alloc (.cells #[.slice oT nT kT, .slice oI nI kI, .slice oF nF kF, .int .i64 t, .int .i64 p, .int .i64 q, .slice oG nG kG, .slice oE nE kE, .int .i64 s, .slice oL nL kL, .slice oD nD kD] 30)) (w1.alloc (.cells #[.string S, .slice (some ⟨g, 0, none⟩) tn tn, .slice (some ⟨g2, 0, none⟩) gn gn] 80))) := HW1.out.trans (HX.out.mono HW1.out.size)
 have HCC : Hid (∀ W, Below (w1.alloc (.cells #[.string S, .slice (some ⟨g, 0, none⟩) tn tn, .slice (some ⟨g2, 0, none⟩) gn gn] 80)).heap.size (w1.alloc (.cells #[.string S, .slice (some ⟨g, 0, none⟩) tn tn, .slice (some ⟨g2, 0, none⟩) gn gn] 80)) W → W.cell? ⟨w1.heap.size, 0, none⟩ = some (.string S) ∧ W.cell? ⟨w1.heap.size, 1, none⟩ = some (.slice (some ⟨g, 0, none⟩) tn tn) ∧ W.cell? ⟨w1.heap.size, 2, none⟩ = some (.slice (some ⟨g2, 0, none⟩) gn gn)) := fun W bW => by
  have q := (bW.block w1.heap.size (by simp)).trans (new_block w1 (.cells #[.string S, .slice (some ⟨g, 0, none⟩) tn tn, .slice (some ⟨g2, 0, none⟩) gn gn] 80))
  exact ⟨cell_at q 0 rfl, cell_at q 1 rfl, cell_at q 2 rfl⟩
 clear b1 f0 f1 f2 f3 f4 f5 f6 f7 f8 f9 f10 HMK
 obtain ⟨x0, x1, x2⟩ := HCC.out _ (Below.refl _ _)
 obtain ⟨f0, f1, f2, f3, f4, f5, f6, f7, f8, f9, f10⟩ := HS.out _ HVX.out
 go_wp2_with fail
 refine (HFT.out _ HX.out S 0 (by omega) (by omega)).mono ?_
 rintro r w2 ⟨rfl, b2⟩
 rw [HF0.out]
 have HW2 : Hid (Below (w1.alloc (.cells #[.string S, .slice (some ⟨g, 0, none⟩) tn tn, .slice (some ⟨g2, 0, none⟩) gn gn] 80)).heap.size (w1.alloc (.cells #[.string S, .slice (some ⟨g, 0, none⟩) tn tn, .slice (some ⟨g2, 0, none⟩) gn gn] 80)) w2) := b2
 have HV2 : Hid (Below (w.alloc (.cells #[.slice oT nT kT, .slice oI nI kI, .slice oF nF kF, .int .i64 t, .int .i64 p, .int .i64 q, .slice oG nG kG, .slice oE nE kE, .int .i64 s, .slice oL nL kL, .slice oD nD kD] 30)).heap.size (w.alloc (.cells #[.slice oT nT kT, .slice oI nI kI, .slice oF nF kF, .int .i64 t, .int .i64 p, .int .i64 q, .slice oG nG kG, .slice oE nE kE, .int .i64 s, .slice oL nL kL, .slice oD nD kD] 30)) w2) := HVX.out.trans (b2.mono HVX.out.size)
 have HX2 : Hid (Below w1.heap.size w1 w2) := HX.out.trans (b2.mono HX.out.size)
 clear b2 x0 x1 x2 f0 f1 f2 f3 f4 f5 f6 f7 f8 f9 f10 HF0
 obtain ⟨x0, x1, x2⟩ := HCC.out _ HW2.out
 obtain ⟨f0, f1, f2, f3, f4, f5, f6, f7, f8, f9, f10⟩ := HS.out _ HV2.out
 go_wp2_with fail
 refine (HRS.out _).mono ?_
 rintro r w2 ⟨rfl, rfl⟩
 clear f0 f1 f2 f3 f4 f5 f6 f7 f8 f9 f10
 go_wp2_with fail
 have HY : Hid (Below w2.heap.size w2 (w2.alloc (.cells #[.string S, .slice (some ⟨g, 0, none⟩) tn tn, .slice (some ⟨g2, 0, none⟩) gn gn] 80))) := (Below.refl _ _).alloc (Nat.le_refl _) _
 refine wp_region_z (S := fun w' => w'.cell? ⟨w2.heap.size, 0, none⟩ = some (.string S)) (z := 8) (by kernel_rfl) ?_
 obtain ⟨z0, hz0⟩ : ∃ z, z = World.drew (w2.alloc (.cells #[.string S, .slice (some ⟨g, 0, none⟩) tn tn, .slice (some ⟨g2, 0, none⟩) gn gn] 80)) := ⟨_, rfl⟩
 have HZ0 : Hid (Below (w2.alloc (.cells #[.string S, .slice (some ⟨g, 0, none⟩) tn tn, .slice (some ⟨g2, 0, none⟩) gn gn] 80)).heap.size (w2.alloc (.cells #[.string S, .slice (some ⟨g, 0, none⟩) tn tn, .slice (some ⟨g2, 0, none⟩) gn gn] 80)) z0) := by unfold Hid; rw [hz0]; exact (Below.refl _ _).drew
 have HZB : Hid (z0.heap[w2.heap.size]? = some (.cells #[.string S, .slice (some ⟨g, 0, none⟩) tn tn, .slice (some ⟨g2, 0, none⟩) gn gn] 80 (0, 0))) := (HZ0.out.block w2.heap.size (by simp)).trans (new_block w2 (.cells #[.string S, .slice (some ⟨g, 0, none⟩) tn tn, .slice (some ⟨g2, 0, none⟩) gn gn] 80))
 have HS0 : Hid (z0.cell? ⟨w2.heap.size, 0, none⟩ = some (.string S)) := cell_at HZB.out 0 rfl
 rw [← hz0]
 clear hz0 x0 x1 x2
 have hHeld : (fun w' : World => w'.cell? ⟨w2.heap.size, 0, none⟩ = some (.string S)) z0 := HS0.out
 refine wpZ_take (i := 0) (v := _) rfl (by kernel_rfl) (by kernel_rfl) (by kernel_rfl) (by kernel_rfl) (fun _ _ _ h => h) (Or.inl ⟨by rfl, by intro w' hSw; go_simp <;> with_reducible rfl⟩) hHeld ?_
 refine wpZ_load (i := 1) [6, 7, 8] (v := _) rfl (by kernel_rfl) (by kernel_rfl) (by kernel_rfl) (by kernel_rfl) (by kernel_rfl) (by kernel_rfl) (fun _ _ _ h => h) (Or.inl ⟨by rfl, by intro w' hSw; (try dsimp only at hSw); go_simp <;> with_reducible rfl⟩) hHeld ?_
 refine wpZ_take (i := 2) (v := _) rfl (by kernel_rfl) (by kernel_rfl) (by kernel_rfl) (by kernel_rfl) (fun _ _ _ h => h) (Or.inl ⟨by rfl, by intro w' hSw; go_simp <;> with_reducible rfl⟩) hHeld ?_
 refine wpZ_take (i := 3) (v := _) rfl (by kernel_rfl) (by kernel_rfl) (by kernel_rfl) (by kernel_rfl) (fun _ _ _ h => h) (Or.inl ⟨by rfl, by intro w' hSw; go_simp <;> with_reducible rfl⟩) hHeld ?_
 obtain ⟨z1, hz1⟩ : ∃ z, z = z0.alloc (.cells (bC (List.replicate K 0)).toArray 5) := ⟨_, rfl⟩
 have HB4 : Hid (Below z0.heap.size z0 z1) := by unfold Hid; rw [hz1]; exact (Below.refl _ _).alloc (Nat.le_refl _) _
 have HMR : Hid ((Instr.makeSlice 87 (.int .i64 (K : Int)) (.int .i64 (K : Int))).run Tryz.prog z0 = .ok (.slice (some ⟨z0.heap.size, 0, none⟩) K K) z1) := by unfold Hid; rw [hz1]; exact own_bytes K HKL.out z0
 have HCV : Hid ((convert 87 9 (.slice (some ⟨z0.heap.size, 0, none⟩) K K)).run Tryz.prog z1 = .ok (.string (strOfNums (List.replicate K 0))) z1) := by unfold Hid; rw [hz1]; exact row_string (heap_alloc_new z0 _) List.length_replicate
 have HZB1 : Hid (z1.heap[w2.heap.size]? = some (.cells #[.string S, .slice (some ⟨g, 0, none⟩) tn tn, .slice (some ⟨g2, 0, none⟩) gn gn] 80 (0, 0))) := (HB4.out.block w2.heap.size (some_lt HZB.out)).trans HZB.out
 have HS1 : Hid (z1.cell? ⟨w2.heap.size, 0, none⟩ = some (.string S)) := cell_at HZB1.out 0 rfl
 clear hz1
 refine wpZ_one (i := 4) rfl (by kernel_rfl) rfl (fun K1 R1 hK1 => ?_)
 refine op_makeX _ _ _ rfl _ _ rfl rfl _ _ HMR.out ?_
 refine hK1.out _ _ HS1.out (fun hHeld => wpZ_put ?_)
 clear hK1 hHeld
 rename_i hHeld
 obtain ⟨u, hu⟩ : ∃ u, u = strOfNums (List.replicate K 0) := ⟨_, rfl⟩
 have HUS : Hid (u.size = K) := by unfold Hid; rw [hu, strOfNums_size, List.length_replicate]
 rw [← hu] at HCV
 clear hu
 have hadd : ¬ 9223372036854775807 < S.size + u.size := by have h1 := HUS.out; have h2 := HSS.out; have h3 := HKL.out; omega
 refine wpZ_one (i := 5) rfl (by kernel_rfl) rfl (fun K1 R1 hK1 => ?_)
 refine op_convX _ _ _ rfl _ rfl _ _ HCV.out ?_
 refine hK1.out _ _ HS1.out (fun hHeld => wpZ_put ?_)
 clear hK1
 refine wpZ_take (i := 6) (v := _) rfl (by kernel_rfl) (by kernel_rfl) (by kernel_rfl) (by kernel_rfl) (fun _ _ _ h => h) (Or.inl ⟨by rfl, by intro w' hSw; go_simp <;> with_reducible rfl⟩) hHeld ?_
 refine wpZ_take (i := 7) (v := _) rfl (by kernel_rfl) (by kernel_rfl) (by kernel_rfl) (by kernel_rfl) (fun _ _ _ h => h) (Or.inl ⟨by rfl, by intro w' hSw; go_simp <;> with_reducible rfl⟩) hHeld ?_
 obtain ⟨z2, hz2⟩ : ∃ z, z = z1.setCell ⟨w2.heap.size, 0, none⟩ (.string (S ++ u)) := ⟨_, rfl⟩
 have hfz : z1.frozen? ⟨w2.heap.size, 0, none⟩ = false := by have := HZB1.out; simp [World.frozen?, this]
 have hc0 := HS1.out
 refine wpZ_last rfl (by kernel_rfl) (by kernel_rfl) (by kernel_rfl) rfl (fun K1 R1 hK1 => ?_)
 go_simp
 refine hK1.out _ _ ?_
 clear hK1 K1 R1 hHeld
 rw [← hz2]
 have HZ2C : Hid (Chg w2.heap.size z1 z2) := by unfold Hid; rw [hz2]; exact Chg.set _ _ _ _
 have HYQ : Hid (z2.heap[w2.heap.size]? = some (.cells #[.string (S ++ u), .slice (some ⟨g, 0, none⟩) tn tn, .slice (some ⟨g2, 0, none⟩) gn gn] 80 (0, 0))) := by
  unfold Hid
  rw [hz2]
  have := HZB1.out
  simp [World.setCell, Array.getElem?_modify, this]
 have HBZ : Hid (Below w2.heap.size w2 z2) := by
  have h1 := HY.out.trans (HZ0.out.mono HY.out.size)
  have h2 := h1.trans (HB4.out.mono h1.size)
  exact h2.trans (HZ2C.out.below (Nat.le_refl _) h2.size)
 have HZF : Hid (Below w1.heap.size w1 z2.drew) := (HX2.out.trans (HBZ.out.mono HX2.out.size)).drew
 have HSU : Hid ((S ++ u).size = S.size + 256 * k) := by unfold Hid; rw [ByteArray.size_append, HUS.out, HKK.out]
 have HCE : Hid (∀ W, Below z2.heap.size z2 W → (W.cell? ⟨w.heap.size, 0, none⟩ = some (.slice oT nT kT) ∧ W.cell? ⟨w.heap.size, 1, none⟩ = some (.slice oI nI kI) ∧ W.cell? ⟨w.heap.size, 2, none⟩ = some (.slice oF nF kF) ∧ W.cell? ⟨w.heap.size, 3, none⟩ = some (.int .i64 t) ∧ W.cell? ⟨w.heap.size, 4, none⟩ = some (.int .i64 p) ∧ W.cell? ⟨w.heap.size, 5, none⟩ = some (.int .i64 q) ∧ W.cell? ⟨w.heap.size, 6, none⟩ = some (.slice oG nG kG) ∧ W.cell? ⟨w.heap.size, 7, none⟩ = some (.slice oE nE kE) ∧ W.cell? ⟨w.heap.size, 8, none⟩ = some (.int .i64 s) ∧ W.cell? ⟨w.heap.size, 9, none⟩ = some (.slice oL nL kL) ∧ W.cell? ⟨w.heap.size, 10, none⟩ = some (.slice oD nD kD)) ∧ W.cell? ⟨w2.heap.size, 0, none⟩ = some (.string (S ++ u)) ∧ W.cell? ⟨w2.heap.size, 1, none⟩ = some (.slice (some ⟨g, 0, none⟩) tn tn) ∧ W.cell? ⟨w2.heap.size, 2, none⟩ = some (.slice (some ⟨g2, 0, none⟩) gn gn)) := fun W bW => by
  have h1 := HV2.out.trans (HBZ.out.mono HV2.out.size)
  have h2 := HS.out _ (h1.trans (bW.mono h1.size))
  have h3 := (bW.block w2.heap.size (some_lt HYQ.out)).trans HYQ.out
  exact ⟨h2, cell_at h3 0 rfl, cell_at h3 1 rfl, cell_at h3 2 rfl⟩
 have HEND : Hid (∀ W, Below z2.heap.size z2 W → Below w.heap.size w W) := fun W bW => by
  have h1 := HV1.out.trans (HX2.out.mono HV1.out.size)
  have h2 := h1.trans (HBZ.out.mono h1.size)
  exact h2.trans (bW.mono h2.size)
 clear hz2 HCV HMR hadd hfz hc0 HZB1 HS1 HB4 HZB HS0 HZ0 hw1 hw2 ht1 ht2
 by_cases hpq : p + (k : Int) ≤ q
 ·have HFE : Hid ((if p + (k : Int) ≤ q then (0 : Int) else 1) = 0) := if_pos hpq
  go_wp2_with fail
  go_region_held3 (fun w' => (w'.cell? ⟨w.heap.size, 0, none⟩ = some (.slice oT nT kT) ∧ w'.cell? ⟨w.heap.size, 1, none⟩ = some (.slice oI nI kI) ∧ w'.cell? ⟨w.heap.size, 2, none⟩ = some (.slice oF nF kF) ∧ w'.cell? ⟨w.heap.size, 3, none⟩ = some (.int .i64 t) ∧ w'.cell? ⟨w.heap.size, 4, none⟩ = some (.int .i64 p) ∧ w'.cell? ⟨w.heap.size, 5, none⟩ = some (.int .i64 q) ∧ w'.cell? ⟨w.heap.size, 6, none⟩ = some (.slice oG nG kG) ∧ w'.cell? ⟨w.heap.size, 7, none⟩ = some (.slice oE nE kE) ∧ w'.cell? ⟨w.heap.size, 8, none⟩ = some (.int .i64 s) ∧ w'.cell? ⟨w.heap.size, 9, none⟩ = some (.slice oL nL kL) ∧ w'.cell? ⟨w.heap.size, 10, none⟩ = some (.slice oD nD kD)) ∧ w'.cell? ⟨w2.heap.size, 0, none⟩ = some (.string (S ++ u)) ∧ w'.cell? ⟨w2.heap.size, 1, none⟩ = some (.slice (some ⟨g, 0, none⟩) tn tn) ∧ w'.cell? ⟨w2.heap.size, 2, none⟩ = some (.slice (some ⟨g2, 0, none⟩) gn gn))
   (first | exact HCE.out _ (Below.refl _ _).drew | exact HCE.out _ HBW.out | go_keep)
   ((go_at_call 41; refine (HFT.out _ HZF.out (S ++ u) k HK9.out HSU.out).mono ?_; rintro r w5 ⟨rfl, b5⟩; rw [HFE.out]; have HBW : Hid (Below z2.heap.size z2 w5) := (Below.refl _ _).drew.trans b5; clear b5))
  go_wp2
  go_ret
  exact ⟨rfl, HEND.out _ HBW.out⟩
 ·have HFE : Hid ((if p + (k : Int) ≤ q then (0 : Int) else 1) = 1) := if_neg hpq
  go_wp2_with fail
  go_region_held3 (fun w' => (w'.cell? ⟨w.heap.size, 0, none⟩ = some (.slice oT nT kT) ∧ w'.cell? ⟨w.heap.size, 1, none⟩ = some (.slice oI nI kI) ∧ w'.cell? ⟨w.heap.size, 2, none⟩ = some (.slice oF nF kF) ∧ w'.cell? ⟨w.heap.size, 3, none⟩ = some (.int .i64 t) ∧ w'.cell? ⟨w.heap.size, 4, none⟩ = some (.int .i64 p) ∧ w'.cell? ⟨w.heap.size, 5, none⟩ = some (.int .i64 q) ∧ w'.cell? ⟨w.heap.size, 6, none⟩ = some (.slice oG nG kG) ∧ w'.cell? ⟨w.heap.size, 7, none⟩ = some (.slice oE nE kE) ∧ w'.cell? ⟨w.heap.size, 8, none⟩ = some (.int .i64 s) ∧ w'.cell? ⟨w.heap.size, 9, none⟩ = some (.slice oL nL kL) ∧ w'.cell? ⟨w.heap.size, 10, none⟩ = some (.slice oD nD kD)) ∧ w'.cell? ⟨w2.heap.size, 0, none⟩ = some (.string (S ++ u)) ∧ w'.cell? ⟨w2.heap.size, 1, none⟩ = some (.slice (some ⟨g, 0, none⟩) tn tn) ∧ w'.cell? ⟨w2.heap.size, 2, none⟩ = some (.slice (some ⟨g2, 0, none⟩) gn gn))
   (first | exact HCE.out _ (Below.refl _ _).drew | exact HCE.out _ HBW.out | go_keep)
   ((go_at_call 41; refine (HFT.out _ HZF.out (S ++ u) k HK9.out HSU.out).mono ?_; rintro r w5 ⟨rfl, b5⟩; rw [HFE.out]; have HBW : Hid (Below z2.heap.size z2 w5) := (Below.refl _ _).drew.trans b5; clear b5))
  go_wp2
  go_ret
  exact ⟨(by rw [decide_eq_false (Int.not_le.2 hpq)]; rfl), HEND.out _ HBW.out⟩
end Go.Proofs.YtoikoijpkchamaaGreatDoor
namespace Go.Proofs.YtoikoijpkchamaaGreatDoor
open Go.RowKit
set_option linter.unusedVariables false
theorem in_wf {n : Int} (h : (Lit.int .i64 n).wf = true) : inI n := by
 have a : IntKind.i64.min = -9223372036854775808 := by decide
 have b : IntKind.i64.max = 9223372036854775807 := by decide
 simp [Lit.wf, a, b] at h
 exact h
theorem row_num {w : World} {g : Nat} {t : TypeId} {l : List Int} (h : IRow w g t l) (n : Nat) (hn : l.length = n) (hm : n ≤ 1000000) (hw : ∀ x ∈ l, inI x) : NumD.ok .i64 w ⟨some ⟨g, 0, none⟩, n, n, l⟩ := by
 refine ⟨Nat.le_refl _, (by unfold maxLen; dsimp only; omega), hn, fun e => (by cases e), fun x hx => wf_i64 (hw x hx), Or.inr ⟨_, rfl, h.lt, fun i hi => ?_⟩⟩
 have hl : i < l.length := by rw [hn]; exact hi
 have := h.cell (i := i) (x := l.getD i 0) (by rw [List.getD_eq_getElem?_getD, List.getElem?_eq_getElem hl]; rfl)
 have hadd : (⟨g, 0, none⟩ : Addr).add i = ⟨g, i, none⟩ := by unfold Addr.add; split <;> simp_all
 rw [hadd]
 exact this
theorem instOwn_walk (m : ModD) (more : Int) (hi : inI more) (w : World) (hA : Amb w) (hm : m.ok w) :
  Calls Tryz.prog 13 #[.agg #[.slice m.oT m.types.length m.cT, .slice m.oI m.imports.length m.cI, .slice m.oF m.funcs.length m.cF, .int .i64 m.table, .int .i64 m.pages, .int .i64 m.most, .slice m.oG m.globals.length m.cG, .slice m.oE m.exports.length m.cE, .int .i64 m.start, .slice m.oL m.elems.length m.cL, .slice m.oD m.data.length m.cD], .int .i64 more] w fun r w' => r = .returned (.bool true) ∧ Below w.heap.size w w' := by
 have hg : 2 < w.heap.size := by have := hA.2.2; omega
 by_cases h0 : makeE m = 0
 ·obtain ⟨hz, hl, _⟩ := first_fits hm h0 0
  have hc := (head_zero (mod_zero hz).1).1
  obtain ⟨⟨t0, t1⟩, ⟨p0, p1, p2⟩, gl, _, _⟩ := mChk_size hc
  have h10 := Int.emod_nonneg more (b := 10) (by decide)
  refine own_core m.oT m.oI m.oF m.oG m.oE m.oL m.oD m.types.length m.cT m.imports.length m.cI m.funcs.length m.cF m.globals.length m.cG m.exports.length m.cE m.elems.length m.cL m.data.length m.cD m.table m.pages m.most m.start (strOfNums (bytsV m).2) m.table.toNat m.globals.length (more % 10).toNat more w (by rw [strOfNums_size, hl]; omega) (by omega) (by omega) hi.1 hi.2 p0 p1 p2 (fun W b => ?_)
  refine (imake m W (hA.to (b.mono (by have := hA.2.2; omega))) (hm.below b) (Nat.lt_of_lt_of_le hg b.size)).mono fun r w1 h => ?_
  obtain ⟨g, g2, hr, _, _, hrow, hlen, hrow2⟩ := h.2.1 h0
  refine ⟨g, g2, hr, h.1, fun W' b' u j hj hu => ?_⟩
  have b1 : Below w.heap.size w w1 := b.trans (h.1.mono b.size)
  have b2 : Below w.heap.size w W' := b1.trans (b'.mono b1.size)
  have htab : (tablV m).1 = 0 := by
   have := h0
   unfold makeE at this
   rw [if_pos hz] at this
   by_cases e : (tablV m).1 = 0
   ·exact e
   ·rw [if_neg e] at this; exact this
  have ht : NumD.ok .i64 W' ⟨some ⟨g, 0, none⟩, m.table.toNat, m.table.toNat, (tablV m).2⟩ := row_num (hrow.under b') _ hlen (by omega) (tabs_all inI _ _ (fun d hd x hx => in_wf (((hm.elems.all d hd).2).wf x hx)) (fun x hx => by rw [List.eq_of_mem_replicate hx]; exact ⟨by decide, by decide⟩) htab)
  have hv : NumD.ok .i64 W' ⟨some ⟨g2, 0, none⟩, m.globals.length, m.globals.length, globsV m⟩ := row_num (hrow2.under b') _ (by unfold globsV; rw [List.length_map]) (by omega) (fun x hx => by
   obtain ⟨d, hd, rfl⟩ := List.mem_map.1 hx
   exact (hm.globals.all d hd).2.2)
  refine (ifits m u (by rw [hu, strOfNums_size, hl]; omega) _ _ W' (hA.to (b2.mono (by have := hA.2.2; omega))) (hm.below b2) (Nat.lt_of_lt_of_le hg b2.size) ht hv).mono fun r w'' h' => ⟨?_, h'.2⟩
  rw [h'.1, hu, strOfNums_size, (first_fits hm h0 j).2.2 hlen]
 ·exact own_err m more w hA hm hg h0
end Go.Proofs.YtoikoijpkchamaaGreatDoor
namespace Go.Proofs.YtoikoijpkchamaaGreatDoor
open Go.ChangeShapes Go.WideShapes Go.ChangeAt Go.RowKit
open Go.ChangeMaps (open_string shut_string)
set_option linter.unusedVariables false
theorem own : ownKnob Tryz.prog.godebug = none := by kernel_rfl
def withTabs (w0 : World) : World :=
 { w0 with heap := (w0.heap.modify 3 fun
  | .cells _ t frozen => .cells (Lib.firstTab.map fun z => Value.int .u8 z).toArray t frozen
  | o => o).modify 2 fun
  | .cells _ t frozen => .cells (Lib.deBruijn64tab.map fun (z : Nat) => Value.int .u8 (z : Int)).toArray t frozen
  | o => o }
theorem door_met (os : Os) (args : Array Value) : laidMetH Tryz.prog Rows.instOwnRow.laid ((withTabs (World.doorLaid Tryz.prog 400 os)).forCall (fun _ _ => 0) ⟨#[], args, []⟩).memory :=
 laidMetH_of_parts3 (fuel := 8) (laidMet_of_run' 8 (by kernel_rfl) (by kernel_rfl)) (by kernel_rfl) (by kernel_rfl)
theorem tab_eq : (Rows.laid_math_bits_deBruijn64tab : DataW Unit) = Lib.tabData .u8 (Lib.deBruijn64tab.map fun (z : Nat) => (z : Int)) := by kernel_rfl
theorem tabs_of {W : World} (h : laidMetH Tryz.prog Rows.instOwnRow.laid W) : Amb W := by
 rw [MakeChecks.laidMetH_plain _ _ _ (by kernel_rfl)] at h
 have e1 : Rows.laid_unicode_utf8_first = Lib.firstData := Pinned.utf8First_eq
 have e2 : (Rows.laid_unicode_utf8_acceptRanges : DataW Unit) = Lib.acceptData := by kernel_rfl
 have r1 := Lib.laidMet.reads h (d := Rows.laid_unicode_utf8_first) (.tail _ (.tail _ (.tail _ (.head _))))
 have r2 := Lib.laidMet.reads h (d := Rows.laid_unicode_utf8_acceptRanges) (.tail _ (.tail _ (.head _)))
 rw [e1] at r1
 rw [e2] at r2
 have hU := utf8Tabs_of_readsT (U8Types.of196 vLays) ⟨by kernel_rfl, by kernel_rfl, by kernel_rfl, by kernel_rfl, by kernel_rfl, by kernel_rfl, by kernel_rfl⟩ r1 r2
 have h2 : laidMet Tryz.prog (("math/bits.deBruijn64tab", Lib.tabData .u8 (Lib.deBruijn64tab.map fun (z : Nat) => (z : Int))) :: [("unicode/utf8.acceptRanges", Rows.laid_unicode_utf8_acceptRanges), ("unicode/utf8.first", Rows.laid_unicode_utf8_first)]) W := by
  rw [← tab_eq]
  exact h.tail
 have h3 := Lib.tabIs_of_head (g := 2) (t := 275) (e := 5) (n := 64) (by kernel_rfl) (by kernel_rfl) (by kernel_rfl) (by kernel_rfl) (by kernel_rfl) (by kernel_rfl) h2
 have hT : TabIn W := by
  intro j hj
  have h4 := h3.cell (g := 2) (by kernel_rfl) j (by rw [List.length_map]; exact hj)
  rw [h4]
  have hl : Lib.deBruijn64tab.length = 64 := rfl
  simp [List.getD_eq_getElem?_getD, List.getElem?_eq_getElem (show j < Lib.deBruijn64tab.length by omega)]
 refine ⟨hT, hU, ?_⟩
 have hc := ((show Lib.Utf8Tabs 3 4 W from hU).2 0 (by omega)).1
 apply Nat.lt_of_not_le
 intro hle
 have : W.heap[4]? = none := Array.getElem?_eq_none hle
 simp [World.cell?, this] at hc
theorem laidOut : laidOutB Tryz.prog = true := by kernel_rfl
theorem lifted (os : Os) (started : os.Started) (H : Type) (enc : TypeId × Value → H) :
  ReturnsInHanded {} Tryz.checked os 13 .any (fun w args => (Rows.instOwnSpec.pre enc Tryz.prog Tryz.f13 [] false w args ∧ laidMetH Tryz.prog Rows.instOwnRow.laid w) ∧ sizedMet enc Tryz.prog Tryz.f13 (OpenSpec.ofChange Rows.instOwnSpec) false w args)
   (Rows.instOwnSpec.post enc Tryz.prog Tryz.f13 false true false false) := by
 refine returnsInHanded_of_change_and (C := Tryz.checked) (X := fun w _ => laidMetH Tryz.prog Rows.instOwnRow.laid w) (fun _ _ _ hh h => h.of_heap hh) own started (by kernel_rfl) Tryz.func13
  (ChangeSpec.witness_shaped (enc := enc) (C := Tryz.checked) (os := os) (X := fun w _ => laidMetH Tryz.prog Rows.instOwnRow.laid w) false (withTabs (World.doorLaid Tryz.prog 400 os)) #[.agg #[.slice none 0 0, .slice none 0 0, .slice none 0 0, .int .i64 0, .int .i64 0, .int .i64 0, .slice none 0 0, .slice none 0 0, .int .i64 0, .slice none 0 0, .slice none 0 0], .int .i64 0] 8 rfl (World.shaped_of_RefB (by kernel_rfl) (by kernel_rfl)) (by kernel_rfl) (by kernel_rfl) (by kernel_rfl) (door_met os _)) ?_
 intro W base args ds gs before hval0 hW _ hsz0 hL _
 have hsz : (DataW.weightsEach Tryz.prog (Tryz.f13.params.toList ++ Rows.instOwnSpec.plain.varTypes Tryz.prog) (ds ++ gs)).all (· ≤ reachBytes) = true := hsz0
 have hval : ∀ (j : Nat) t v, Tryz.f13.params[j]? = some t → args[j]? = some v → Value.okWide Tryz.prog W .any base t v := hval0
 have hW' := hW
 obtain ⟨p, q, hA0, hV, rfl, hfz, hnd⟩ := hW
 have hA : DataW.TrodAll enc Tryz.prog W 0 (fun _ => true) true Tryz.f13.params.toList args.toList ds p := hA0
 rw [Tryz.params13] at hA hval hsz
 obtain ⟨v0, vs0, d0, ds0, p0, q0, hargs0, rfl, rfl, h0, r0⟩ := trodAll_cons hA
 obtain ⟨v1, vs1, d1, ds1, p1, q1, hargs1, rfl, rfl, h1, r1⟩ := trodAll_cons r0
 obtain ⟨rfl, rfl, rfl⟩ := trodAll_nil r1
 obtain rfl : args = #[v0, v1] := by cases args; simp_all
 obtain ⟨rfl, rfl⟩ := trodVars_none hV
 have h0k := h0
 have hlt0 : ∀ x ∈ p0, x.block < W.heap.size := fun x hx => hW'.lt x (by simp [hx])
 obtain ⟨m0, rfl, hm0⟩ := open_module (hval 0 30 v0 rfl rfl) h0
 obtain ⟨a1, rfl, rfl, rfl, w1⟩ := open_int Tryz.underlying2 (hval 1 2 v1 rfl rfl) h1
 clear hA0 hval0 hval hA
 simp only [List.append_nil] at hW'
 refine (instOwn_walk m0 a1 (bounds_i64 w1) W (tabs_of hL) hm0).mono fun e W' ⟨he, bel⟩ => ?_
 subst he
 exact ⟨_, rfl, _, _, _, [], _, [], hW', trodAll_mk1 (shut_bool Tryz.underlying4 _), (trodAll_cons_mk (Below.trod laidOut (by kernel_rfl) (of_decide_eq_true (by kernel_rfl)) h0k bel hlt0) (trodAll_cons_mk (shut_int Tryz.underlying2 w1) trodAll_mk0)), rfl, bel.frame _, fun h => by cases h⟩
end Go.Proofs.YtoikoijpkchamaaGreatDoor
