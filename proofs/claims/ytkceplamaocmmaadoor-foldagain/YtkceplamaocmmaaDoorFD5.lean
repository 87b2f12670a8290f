/-
  Folding: numbers that are reckoned.
-/
import Derived.Test.YtkceplamaocmmaaDoorFD4
namespace Go.Proofs.YtkceplamaocmmaaDoor
open Go.RowKit
set_option linter.unusedVariables false

theorem rout_oneB {w wa : World} (b : Below w.heap.size w wa) (k : Nat) (d : InsD) (hd : d.ok wa) : ROut w ((wa.alloc (.cells #[.int .u8 d.op, .int .i64 d.A, .int .i64 d.B, .slice d.o d.n d.cap] 30)).alloc (.cells #[.int .i64 k, .slice (some ⟨wa.heap.size, 0, none⟩) 1 1] 46)) (.returned (.pointer (some ⟨wa.heap.size + 1, 0, none⟩))) (some (k, [d])) := by
  have := ROut.put (w := w) (wa := wa.alloc (.cells #[.int .u8 d.op, .int .i64 d.A, .int .i64 d.B, .slice d.o d.n d.cap] 30)) (b.alloc b.size _) k (some ⟨wa.heap.size, 0, none⟩) 1 [d] (ld_one wa d hd) (by simp) (by omega)
  simpa using this
theorem LD.part {w : World} {b f : Nat} {L : List InsD} (h : LD w (some ⟨b, f, none⟩) L) (i k : Nat) (hk : i + k ≤ L.length) : LD w (some ⟨b, f + i * 4, none⟩) ((L.drop i).take k) := by
  refine ⟨fun d hd => h.1 d (List.drop_subset _ _ (List.take_subset _ _ hd)), ?_⟩
  rcases h.2 with h0 | ⟨b', f', e, hb, hc⟩
  · left; rw [h0]; simp
  · right
    cases e
    refine ⟨b, f + i * 4, rfl, hb, fun j hj => ?_⟩
    have hj2 : j < k := by have := hj; simp at this; omega
    have hj3 : i + j < L.length := by omega
    have e : ((L.drop i).take k)[j] = L[i + j] := by simp
    rw [e, show f + i * 4 + j * 4 = f + (i + j) * 4 by omega]
    exact hc (i + j) hj3
theorem drop_one (L : List InsD) (i : Nat) (hi : i < L.length) : (L.drop i).take 1 = [L[i]!] := by
  rw [getElem!_pos L i hi, List.drop_eq_getElem_cons hi]
  rfl
theorem drop_two (L : List InsD) (i : Nat) (hi : i + 1 < L.length) : (L.drop i).take 2 = [L[i]!, L[i+1]!] := by
  rw [getElem!_pos L i (by omega), getElem!_pos L (i+1) hi, List.drop_eq_getElem_cons (by omega), List.drop_eq_getElem_cons hi]
  rfl
def chg1 (x y : InsD) : Option (Nat × List InsD) := if isC x.op = true ∧ feedB [x] (pIn y.op) = true ∧ isOne y.op = true then some (2, [gaveD y.op (oneP y.op x.A)]) else none
def chg2 (x y z : InsD) : Option (Nat × List InsD) := if isC x.op = true ∧ isC y.op = true ∧ feedB [x, y] (pIn z.op) = true ∧ (twoV z.op x.A y.A).2 = 0 then some (3, [gaveD z.op (twoV z.op x.A y.A).1]) else none
theorem isOne_out (op : Int) (h : isOne op = true) : pOut op = [kGive op] := by
  simp only [isOne, Bool.or_eq_true, Bool.and_eq_true, beq_iff_eq, decide_eq_true_eq] at h
  have e : insN op = 1 := by
    unfold insN
    rw [if_pos]
    simp only [isOne, Bool.or_eq_true, Bool.and_eq_true, beq_iff_eq, decide_eq_true_eq]
    exact h
  have e0 : ¬ 0 < insW op := by
    unfold insW
    rw [if_neg (by omega), if_neg (by omega), if_neg (by omega), if_neg (by omega)]
    decide
  unfold pOut
  rw [if_neg (by omega), if_neg (by omega), if_neg (by omega), if_neg e0, if_pos e]
theorem isTwo_out (op : Int) (h : isTwo op = true) : pOut op = [kGive op] := by
  simp only [isTwo, Bool.or_eq_true, Bool.and_eq_true, decide_eq_true_eq] at h
  have e1 : isOne op = false := by
    simp only [isOne, Bool.or_eq_false_iff, Bool.and_eq_false_iff, beq_eq_false_iff_ne, decide_eq_false_iff_not]
    omega
  have e : insN op = 2 := by
    unfold insN
    rw [e1, if_neg (by decide), if_pos]
    simp only [isTwo, Bool.or_eq_true, Bool.and_eq_true, decide_eq_true_eq]
    exact h
  have e0 : ¬ 0 < insW op := by
    unfold insW
    rw [if_neg (by omega), if_neg (by omega), if_neg (by omega), if_neg (by omega)]
    decide
  unfold pOut
  rw [if_neg (by omega), if_neg (by omega), if_neg (by omega), if_neg e0, if_neg (by omega), if_pos e]
theorem twoV_two (op a b : Int) (h : (twoV op a b).2 = 0) : isTwo op = true := by
  unfold twoV at h
  simp only [isTwo, Bool.or_eq_true, Bool.and_eq_true, decide_eq_true_eq]
  split at h
  · omega
  split at h
  · omega
  split at h
  · omega
  split at h
  · omega
  · exact absurd h (by decide)
theorem cOf_range (k : Int) : 65 ≤ cOf k ∧ cOf k ≤ 66 := by unfold cOf; split <;> omega
theorem gaveD_ok (w : World) (op x : Int) (hx : -9223372036854775808 ≤ x ∧ x ≤ 9223372036854775807) : (gaveD op x).ok w := by
  have := cOf_range ((pOut op).getD 0 0)
  exact mkD_ok w _ _ (by omega) (by omega) hx
set_option maxHeartbeats 4000000 in
set_option maxRecDepth 1000000 in
theorem rule1 (o : Option Addr) (cap : Nat) (L : List InsD) (i : Nat) (w : World) (h : LD w o L) (hn : L.length ≤ 200) (hcap : L.length ≤ cap ∧ cap ≤ 9223372036854775807) (hi : i + 1 < L.length) (hF : FA w) :
    Calls Tryd.prog 28 #[.slice o L.length cap, .int .i64 (i : Int)] w fun r w' => ROut w w' r (chg1 (L[i]!) (L[i+1]!)) := by
  have hxo := h.at_ok i (by omega)
  have hyo := h.at_ok (i + 1) hi
  obtain ⟨b, f, rfl, hb, hx4, hy4⟩ := h.two i hi
  have hs1 := h.part i 1 (by omega)
  rw [drop_one L i (by omega)] at hs1
  have HS1 : Hid (type_of% hs1) := hs1
  have hi0 : (0 : Int) ≤ (i : Int) := by omega
  have hi1 : (i : Int) < (L.length : Int) := by omega
  have hj0 : (0 : Int) ≤ (i : Int) + 1 := by omega
  have hj1 : (i : Int) + 1 < (L.length : Int) := by omega
  have hj2 : (i : Int) + 1 ≤ (cap : Int) := by omega
  have hw1 : IntKind.i64.wrap ((i : Int) + 1) = (i : Int) + 1 := by rw [IntKind.wrap_i64]; omega
  generalize L.length = n at *
  unfold chg1
  generalize L[i]! = x at *
  generalize L[i+1]! = y at *
  clear h hs1
  have hxA := hxo.a
  have hy0 := hyo.op0
  have hy1 := hyo.op1
  obtain ⟨op, A, B, xo, xn, xc, xs⟩ := x
  obtain ⟨op', A', B', yo, yn, yc, ys⟩ := y
  simp only at *
  have HC : Hid (∀ W, Below w.heap.size w W → (W.cell? ⟨b, f + i * 4, none⟩ = some (.int .u8 op) ∧ W.cell? ⟨b, f + i * 4 + 1, none⟩ = some (.int .i64 A) ∧ W.cell? ⟨b, f + i * 4 + 2, none⟩ = some (.int .i64 B) ∧ W.cell? ⟨b, f + i * 4 + 3, none⟩ = some (.slice xo xn xc)) ∧ W.cell? ⟨b, f + (i + 1) * 4, none⟩ = some (.int .u8 op') ∧ W.cell? ⟨b, f + (i + 1) * 4 + 1, none⟩ = some (.int .i64 A')) := fun W bb => ⟨⟨(bb.cell (p := ⟨b, _, none⟩) hb).trans hx4.1, (bb.cell (p := ⟨b, _, none⟩) hb).trans hx4.2.1, (bb.cell (p := ⟨b, _, none⟩) hb).trans hx4.2.2.1, (bb.cell (p := ⟨b, _, none⟩) hb).trans hx4.2.2.2⟩, (bb.cell (p := ⟨b, _, none⟩) hb).trans hy4.1, (bb.cell (p := ⟨b, _, none⟩) hb).trans hy4.2.1⟩
  have HFF : Hid (FA w) := hF
  have HOK : Hid (-9223372036854775808 ≤ A ∧ A ≤ 9223372036854775807) := hxA
  have HY : Hid (0 ≤ op' ∧ op' ≤ 255) := ⟨hy0, hy1⟩
  clear hF hxo hyo hxA hy0 hy1
  obtain ⟨⟨x0, x1, x2, x3⟩, y0, y1⟩ := HC.out w (Below.refl _ _)
  clear hx4 hy4
  cases hc : isC op
  · rw [if_neg (by simp)]
    have HIC : Hid (type_of% hc) := hc
    clear hc
    go_enter Tryd.func28, Tryd.ntmps28
    go_wp2_with (go_at_call 44; refine (fisConst _ _ _ _ _ _ _).mono ?_; rw [HIC.out]; rintro r w1 ⟨rfl, b1⟩)
    go_ret
    exact ROut.none b1
  have HIC : Hid (type_of% hc) := hc
  clear hc
  cases hf : feedB [⟨op, A, B, xo, xn, xc, xs⟩] (pIn op')
  · rw [if_neg (by simp)]
    have HFE : Hid (type_of% hf) := hf
    clear hf
    go_enter Tryd.func28, Tryd.ntmps28
    go_wp2_with fail
    refine (fisConst _ _ _ _ _ _ _).mono ?_
    rw [HIC.out]
    rintro r w1 ⟨rfl, b1⟩
    obtain ⟨⟨x0', x1', x2', x3'⟩, y0', y1'⟩ := HC.out w1 b1
    have HB1 : Hid (type_of% b1) := b1
    clear b1
    go_wp2_with fail
    refine (ffeed _ _ 1 [⟨op, A, B, xo, xn, xc, xs⟩] op' HY.out.1 HY.out.2 _ rfl (by omega) (HS1.out.below HB1.out) (HFF.out.under HB1.out).tab).mono ?_
    rw [HFE.out]
    rintro r w2 ⟨rfl, b2⟩
    have b12 := HB1.out.trans (b2.mono HB1.out.size)
    obtain ⟨⟨x0'', x1'', x2'', x3''⟩, y0'', y1''⟩ := HC.out w2 b12
    have HB2 : Hid (type_of% b12) := b12
    clear b2 b12
    go_wp2
    go_ret
    exact ROut.none HB2.out
  have HFE : Hid (type_of% hf) := hf
  clear hf
  have HO : Hid (∀ w1, FA w1 → _) := fun w1 hh => fone op' A HY.out.1 HY.out.2 w1 hh.tab
  cases ho : isOne op'
  · rw [if_neg (by simp)]
    have HOE : Hid (type_of% ho) := ho
    clear ho
    go_enter Tryd.func28, Tryd.ntmps28
    go_wp2_with fail
    refine (fisConst _ _ _ _ _ _ _).mono ?_
    rw [HIC.out]
    rintro r w1 ⟨rfl, b1⟩
    obtain ⟨⟨x0', x1', x2', x3'⟩, y0', y1'⟩ := HC.out w1 b1
    have HB1 : Hid (type_of% b1) := b1
    clear b1
    go_wp2_with fail
    refine (ffeed _ _ 1 [⟨op, A, B, xo, xn, xc, xs⟩] op' HY.out.1 HY.out.2 _ rfl (by omega) (HS1.out.below HB1.out) (HFF.out.under HB1.out).tab).mono ?_
    rw [HFE.out]
    rintro r w2 ⟨rfl, b2⟩
    have b12 := HB1.out.trans (b2.mono HB1.out.size)
    obtain ⟨⟨x0'', x1'', x2'', x3''⟩, y0'', y1''⟩ := HC.out w2 b12
    have HB2 : Hid (type_of% b12) := b12
    clear b2 b12
    go_wp2_with fail
    refine (HO.out _ (HFF.out.under HB2.out)).mono ?_
    rw [HOE.out]
    rintro r w3 ⟨rfl, rfl⟩
    go_wp2
    go_ret
    exact ROut.none HB2.out
  · rw [if_pos ⟨rfl, rfl, rfl⟩]
    have HOE : Hid (type_of% ho) := ho
    have HGV : Hid (∀ w1, FA w1 → _) := fun w1 hh => fgiven op' (oneP op' A) HY.out.1 HY.out.2 (by rw [isOne_out op' ho]; simp) w1 hh
    have hfit := (oneP_fit op' A HOK.out).1
    have HFI : Hid (type_of% hfit) := hfit
    clear ho hfit
    go_enter Tryd.func28, Tryd.ntmps28
    go_wp2_with fail
    refine (fisConst _ _ _ _ _ _ _).mono ?_
    rw [HIC.out]
    rintro r w1 ⟨rfl, b1⟩
    obtain ⟨⟨x0', x1', x2', x3'⟩, y0', y1'⟩ := HC.out w1 b1
    have HB1 : Hid (type_of% b1) := b1
    clear b1
    go_wp2_with fail
    refine (ffeed _ _ 1 [⟨op, A, B, xo, xn, xc, xs⟩] op' HY.out.1 HY.out.2 _ rfl (by omega) (HS1.out.below HB1.out) (HFF.out.under HB1.out).tab).mono ?_
    rw [HFE.out]
    rintro r w2 ⟨rfl, b2⟩
    have b12 := HB1.out.trans (b2.mono HB1.out.size)
    obtain ⟨⟨x0'', x1'', x2'', x3''⟩, y0'', y1''⟩ := HC.out w2 b12
    have HB2 : Hid (type_of% b12) := b12
    clear b2 b12
    go_wp2_with fail
    refine (HO.out _ (HFF.out.under HB2.out)).mono ?_
    rw [HOE.out]
    rintro r w3 ⟨rfl, rfl⟩
    go_wp2_with fail
    refine (HGV.out _ (HFF.out.under HB2.out)).mono ?_
    rintro r w4 ⟨rfl, b4⟩
    have HB4 : Hid (type_of% (HB2.out.trans (b4.mono HB2.out.size))) := HB2.out.trans (b4.mono HB2.out.size)
    clear b4
    go_wp2_with (go_at_call 43; refine (fbecomes _ _ _ _ _).mono ?_; rintro r w5 ⟨rfl, rfl⟩)
    go_ret
    exact rout_oneB HB4.out 2 (gaveD op' (oneP op' A)) (gaveD_ok _ _ _ HFI.out)
end Go.Proofs.YtkceplamaocmmaaDoor
