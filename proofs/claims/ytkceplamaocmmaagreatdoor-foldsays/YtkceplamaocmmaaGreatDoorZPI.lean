/-
  Folding: numbers that are reckoned.
  Folding: two numbers that are reckoned.
-/
import Derived.Test.YtkceplamaocmmaaGreatDoorZFD4
set_option maxHeartbeats 8000000
set_option maxRecDepth 1000000
namespace Go.Proofs.YtkceplamaocmmaaGreatDoor
open Go.RowKit
set_option linter.unusedVariables false
theorem rout_oneB {w wa : World} (b : Below w.heap.size w wa) (k : Nat) (d : InsD) (hd : d.ok wa) : ROut w ((wa.alloc (.cells #[.int .u8 d.op, .int .i64 d.A, .int .i64 d.B, .slice d.o d.n d.cap] 34)).alloc (.cells #[.int .i64 k, .slice (some ⟨wa.heap.size, 0, none⟩) 1 1] 46)) (.returned (.pointer (some ⟨wa.heap.size + 1, 0, none⟩))) (some (k, [d])) := by
  have := ROut.put (w := w) (wa := wa.alloc (.cells #[.int .u8 d.op, .int .i64 d.A, .int .i64 d.B, .slice d.o d.n d.cap] 34)) (b.alloc b.size _) k (some ⟨wa.heap.size, 0, none⟩) 1 [d] (ld_one wa d hd) (by simp) (by omega)
  simpa using this
theorem LD.part {w : World} {b f : Nat} {L : List InsD} (h : LD w (some ⟨b, f, none⟩) L) (i k : Nat) (hk : i + k ≤ L.length) : LD w (some ⟨b, f + i * 4, none⟩) ((L.drop i).take k) := by
  refine ⟨fun d hd => h.1 d (List.drop_subset _ _ (List.take_subset _ _ hd)), ?_⟩
  rcases h.2 with h0 | ⟨b', f', e, hb, hc⟩
  · left; rw [h0]; simp
  · right
    cases e
    refine ⟨b, f + i * 4, rfl, hb, fun j hj => ?_⟩
    have hj2 : j < k := by have := hj; simp at this; omega
    have hj3 : i + j < L.length := by omega
    have e : ((L.drop i).take k)[j] = L[i + j] := by simp
    rw [e, show f + i * 4 + j * 4 = f + (i + j) * 4 by omega]
    exact hc (i + j) hj3
theorem drop_one (L : List InsD) (i : Nat) (hi : i < L.length) : (L.drop i).take 1 = [L[i]!] := by
  rw [getElem!_pos L i hi, List.drop_eq_getElem_cons hi]
  rfl
theorem drop_two (L : List InsD) (i : Nat) (hi : i + 1 < L.length) : (L.drop i).take 2 = [L[i]!, L[i+1]!] := by
  rw [getElem!_pos L i (by omega), getElem!_pos L (i+1) hi, List.drop_eq_getElem_cons (by omega), List.drop_eq_getElem_cons hi]
  rfl
def chg1 (x y : InsD) : Option (Nat × List InsD) := if isC x.op = true ∧ feedB [x] (pIn y.op) = true ∧ isOne y.op = true then some (2, [gaveD y.op (oneP y.op x.A)]) else none
def chg2 (x y z : InsD) : Option (Nat × List InsD) := if isC x.op = true ∧ isC y.op = true ∧ feedB [x, y] (pIn z.op) = true ∧ (twoV z.op x.A y.A).2 = 0 then some (3, [gaveD z.op (twoV z.op x.A y.A).1]) else none
theorem isOne_out (op : Int) (h : isOne op = true) : pOut op = [kGive op] := by
  simp only [isOne, Bool.or_eq_true, Bool.and_eq_true, beq_iff_eq, decide_eq_true_eq] at h
  have e : insN op = 1 := by
    unfold insN
    rw [if_pos]
    simp only [isOne, Bool.or_eq_true, Bool.and_eq_true, beq_iff_eq, decide_eq_true_eq]
    exact h
  have e0 : ¬ 0 < insW op := by
    unfold insW
    rw [if_neg (by omega), if_neg (by omega), if_neg (by omega), if_neg (by omega)]
    decide
  unfold pOut
  rw [if_neg (by omega), if_neg (by omega), if_neg (by omega), if_neg e0, if_pos e]
theorem isTwo_out (op : Int) (h : isTwo op = true) : pOut op = [kGive op] := by
  simp only [isTwo, Bool.or_eq_true, Bool.and_eq_true, decide_eq_true_eq] at h
  have e1 : isOne op = false := by
    simp only [isOne, Bool.or_eq_false_iff, Bool.and_eq_false_iff, beq_eq_false_iff_ne, decide_eq_false_iff_not]
    omega
  have e : insN op = 2 := by
    unfold insN
    rw [e1, if_neg (by decide), if_pos]
    simp only [isTwo, Bool.or_eq_true, Bool.and_eq_true, decide_eq_true_eq]
    exact h
  have e0 : ¬ 0 < insW op := by
    unfold insW
    rw [if_neg (by omega), if_neg (by omega), if_neg (by omega), if_neg (by omega)]
    decide
  unfold pOut
  rw [if_neg (by omega), if_neg (by omega), if_neg (by omega), if_neg e0, if_neg (by omega), if_pos e]
theorem twoV_two (op a b : Int) (h : (twoV op a b).2 = 0) : isTwo op = true := by
  unfold twoV at h
  simp only [isTwo, Bool.or_eq_true, Bool.and_eq_true, decide_eq_true_eq]
  split at h
  · omega
  split at h
  · omega
  split at h
  · omega
  split at h
  · omega
  · exact absurd h (by decide)
theorem cOf_range (k : Int) : 65 ≤ cOf k ∧ cOf k ≤ 66 := by unfold cOf; split <;> omega
theorem gaveD_ok (w : World) (op x : Int) (hx : -9223372036854775808 ≤ x ∧ x ≤ 9223372036854775807) : (gaveD op x).ok w := by
  have := cOf_range ((pOut op).getD 0 0)
  exact mkD_ok w _ _ (by omega) (by omega) hx
theorem rule1 (o : Option Addr) (cap : Nat) (L : List InsD) (i : Nat) (w : World) (h : LD w o L) (hn : L.length ≤ 200) (hcap : L.length ≤ cap ∧ cap ≤ 9223372036854775807) (hi : i + 1 < L.length) (hF : FA w) :
    Calls Tryz.prog 47 #[.slice o L.length cap, .int .i64 (i : Int)] w fun r w' => ROut w w' r (chg1 (L[i]!) (L[i+1]!)) := by
  have hxo := h.at_ok i (by omega)
  have hyo := h.at_ok (i + 1) hi
  obtain ⟨b, f, rfl, hb, hx4, hy4⟩ := h.two i hi
  have hs1 := h.part i 1 (by omega)
  rw [drop_one L i (by omega)] at hs1
  have HS1 : Hid (type_of% hs1) := hs1
  have hi0 : (0 : Int) ≤ (i : Int) := by omega
  have hi1 : (i : Int) < (L.length : Int) := by omega
  have hj0 : (0 : Int) ≤ (i : Int) + 1 := by omega
  have hj1 : (i : Int) + 1 < (L.length : Int) := by omega
  have hj2 : (i : Int) + 1 ≤ (cap : Int) := by omega
  have hw1 : IntKind.i64.wrap ((i : Int) + 1) = (i : Int) + 1 := by rw [IntKind.wrap_i64]; omega
  generalize L.length = n at *
  unfold chg1
  generalize L[i]! = x at *
  generalize L[i+1]! = y at *
  clear h hs1
  have hxA := hxo.a
  have hy0 := hyo.op0
  have hy1 := hyo.op1
  obtain ⟨op, A, B, xo, xn, xc, xs⟩ := x
  obtain ⟨op', A', B', yo, yn, yc, ys⟩ := y
  simp only at *
  have HC : Hid (∀ W, Below w.heap.size w W → (W.cell? ⟨b, f + i * 4, none⟩ = some (.int .u8 op) ∧ W.cell? ⟨b, f + i * 4 + 1, none⟩ = some (.int .i64 A) ∧ W.cell? ⟨b, f + i * 4 + 2, none⟩ = some (.int .i64 B) ∧ W.cell? ⟨b, f + i * 4 + 3, none⟩ = some (.slice xo xn xc)) ∧ W.cell? ⟨b, f + (i + 1) * 4, none⟩ = some (.int .u8 op') ∧ W.cell? ⟨b, f + (i + 1) * 4 + 1, none⟩ = some (.int .i64 A')) := fun W bb => ⟨⟨(bb.cell (p := ⟨b, _, none⟩) hb).trans hx4.1, (bb.cell (p := ⟨b, _, none⟩) hb).trans hx4.2.1, (bb.cell (p := ⟨b, _, none⟩) hb).trans hx4.2.2.1, (bb.cell (p := ⟨b, _, none⟩) hb).trans hx4.2.2.2⟩, (bb.cell (p := ⟨b, _, none⟩) hb).trans hy4.1, (bb.cell (p := ⟨b, _, none⟩) hb).trans hy4.2.1⟩
  have HFF : Hid (FA w) := hF
  have HOK : Hid (-9223372036854775808 ≤ A ∧ A ≤ 9223372036854775807) := hxA
  have HY : Hid (0 ≤ op' ∧ op' ≤ 255) := ⟨hy0, hy1⟩
  clear hF hxo hyo hxA hy0 hy1
  obtain ⟨⟨x0, x1, x2, x3⟩, y0, y1⟩ := HC.out w (Below.refl _ _)
  clear hx4 hy4
  cases hc : isC op
  · rw [if_neg (by simp)]
    have HIC : Hid (type_of% hc) := hc
    clear hc
    go_enter Tryz.func47, Tryz.ntmps47
    go_wp2_with (go_at_call 74; refine (fisConst _ _ _ _ _ _ _).mono ?_; rw [HIC.out]; rintro r w1 ⟨rfl, b1⟩)
    go_ret
    exact ROut.none b1
  have HIC : Hid (type_of% hc) := hc
  clear hc
  cases hf : feedB [⟨op, A, B, xo, xn, xc, xs⟩] (pIn op')
  · rw [if_neg (by simp)]
    have HFE : Hid (type_of% hf) := hf
    clear hf
    go_enter Tryz.func47, Tryz.ntmps47
    go_wp2_with fail
    refine (fisConst _ _ _ _ _ _ _).mono ?_
    rw [HIC.out]
    rintro r w1 ⟨rfl, b1⟩
    obtain ⟨⟨x0', x1', x2', x3'⟩, y0', y1'⟩ := HC.out w1 b1
    have HB1 : Hid (type_of% b1) := b1
    clear b1
    go_wp2_with fail
    refine (ffeed _ _ 1 [⟨op, A, B, xo, xn, xc, xs⟩] op' HY.out.1 HY.out.2 _ rfl (by omega) (HS1.out.below HB1.out) (HFF.out.under HB1.out).tab).mono ?_
    rw [HFE.out]
    rintro r w2 ⟨rfl, b2⟩
    have b12 := HB1.out.trans (b2.mono HB1.out.size)
    obtain ⟨⟨x0'', x1'', x2'', x3''⟩, y0'', y1''⟩ := HC.out w2 b12
    have HB2 : Hid (type_of% b12) := b12
    clear b2 b12
    go_wp2
    go_ret
    exact ROut.none HB2.out
  have HFE : Hid (type_of% hf) := hf
  clear hf
  have HO : Hid (∀ w1, FA w1 → _) := fun w1 hh => fone op' A HY.out.1 HY.out.2 w1 hh.tab
  cases ho : isOne op'
  · rw [if_neg (by simp)]
    have HOE : Hid (type_of% ho) := ho
    clear ho
    go_enter Tryz.func47, Tryz.ntmps47
    go_wp2_with fail
    refine (fisConst _ _ _ _ _ _ _).mono ?_
    rw [HIC.out]
    rintro r w1 ⟨rfl, b1⟩
    obtain ⟨⟨x0', x1', x2', x3'⟩, y0', y1'⟩ := HC.out w1 b1
    have HB1 : Hid (type_of% b1) := b1
    clear b1
    go_wp2_with fail
    refine (ffeed _ _ 1 [⟨op, A, B, xo, xn, xc, xs⟩] op' HY.out.1 HY.out.2 _ rfl (by omega) (HS1.out.below HB1.out) (HFF.out.under HB1.out).tab).mono ?_
    rw [HFE.out]
    rintro r w2 ⟨rfl, b2⟩
    have b12 := HB1.out.trans (b2.mono HB1.out.size)
    obtain ⟨⟨x0'', x1'', x2'', x3''⟩, y0'', y1''⟩ := HC.out w2 b12
    have HB2 : Hid (type_of% b12) := b12
    clear b2 b12
    go_wp2_with fail
    refine (HO.out _ (HFF.out.under HB2.out)).mono ?_
    rw [HOE.out]
    rintro r w3 ⟨rfl, rfl⟩
    go_wp2
    go_ret
    exact ROut.none HB2.out
  · rw [if_pos ⟨rfl, rfl, rfl⟩]
    have HOE : Hid (type_of% ho) := ho
    have HGV : Hid (∀ w1, FA w1 → _) := fun w1 hh => fgiven op' (oneP op' A) HY.out.1 HY.out.2 (by rw [isOne_out op' ho]; simp) w1 hh
    have hfit := (oneP_fit op' A HOK.out).1
    have HFI : Hid (type_of% hfit) := hfit
    clear ho hfit
    go_enter Tryz.func47, Tryz.ntmps47
    go_wp2_with fail
    refine (fisConst _ _ _ _ _ _ _).mono ?_
    rw [HIC.out]
    rintro r w1 ⟨rfl, b1⟩
    obtain ⟨⟨x0', x1', x2', x3'⟩, y0', y1'⟩ := HC.out w1 b1
    have HB1 : Hid (type_of% b1) := b1
    clear b1
    go_wp2_with fail
    refine (ffeed _ _ 1 [⟨op, A, B, xo, xn, xc, xs⟩] op' HY.out.1 HY.out.2 _ rfl (by omega) (HS1.out.below HB1.out) (HFF.out.under HB1.out).tab).mono ?_
    rw [HFE.out]
    rintro r w2 ⟨rfl, b2⟩
    have b12 := HB1.out.trans (b2.mono HB1.out.size)
    obtain ⟨⟨x0'', x1'', x2'', x3''⟩, y0'', y1''⟩ := HC.out w2 b12
    have HB2 : Hid (type_of% b12) := b12
    clear b2 b12
    go_wp2_with fail
    refine (HO.out _ (HFF.out.under HB2.out)).mono ?_
    rw [HOE.out]
    rintro r w3 ⟨rfl, rfl⟩
    go_wp2_with fail
    refine (HGV.out _ (HFF.out.under HB2.out)).mono ?_
    rintro r w4 ⟨rfl, b4⟩
    have HB4 : Hid (type_of% (HB2.out.trans (b4.mono HB2.out.size))) := HB2.out.trans (b4.mono HB2.out.size)
    clear b4
    go_wp2_with (go_at_call 73; refine (fbecomes _ _ _ _ _).mono ?_; rintro r w5 ⟨rfl, rfl⟩)
    go_ret
    exact rout_oneB HB4.out 2 (gaveD op' (oneP op' A)) (gaveD_ok _ _ _ HFI.out)
end Go.Proofs.YtkceplamaocmmaaGreatDoor
namespace Go.Proofs.YtkceplamaocmmaaGreatDoor
open Go.RowKit
set_option linter.unusedVariables false
theorem LD.opz {w : World} {b f : Nat} {L : List InsD} (h : LD w (some ⟨b, f, none⟩) L) (i : Nat) (hi : i < L.length) : b < w.heap.size ∧ w.cell? ⟨b, f + i * 4, none⟩ = some (.int .u8 (L[i]!).op) := by
  rcases h.2 with h0 | ⟨b', f', e, hb, hc⟩
  · rw [h0] at hi; simp at hi
  · cases e
    rw [getElem!_pos L i hi]
    exact ⟨hb, (hc i hi).1⟩
theorem rule2 (o : Option Addr) (cap : Nat) (L : List InsD) (i : Nat) (w : World) (h : LD w o L) (hn : L.length ≤ 200) (hcap : L.length ≤ cap ∧ cap ≤ 9223372036854775807) (hi : i + 1 < L.length) (hi2 : isC (L[i+1]!).op = true → i + 2 < L.length) (hF : FA w) :
    Calls Tryz.prog 48 #[.slice o L.length cap, .int .i64 (i : Int)] w fun r w' => ROut w w' r (chg2 (L[i]!) (L[i+1]!) (L[i+2]!)) := by
  have hxo := h.at_ok i (by omega)
  have hyo := h.at_ok (i + 1) hi
  obtain ⟨b, f, rfl, hb, hx4, hy4⟩ := h.two i hi
  have HZ2 : Hid (i + 2 < L.length → (∀ W, Below w.heap.size w W → W.cell? ⟨b, f + (i + 2) * 4, none⟩ = some (.int .u8 (L[i+2]!).op)) ∧ (0 ≤ (L[i+2]!).op ∧ (L[i+2]!).op ≤ 255) ∧ LD w (some ⟨b, f + i * 4, none⟩) [L[i]!, L[i+1]!]) := fun hi3 => by
    refine ⟨fun W bb => (bb.cell (p := ⟨b, _, none⟩) hb).trans (h.opz (i + 2) hi3).2, ⟨(h.at_ok (i + 2) hi3).op0, (h.at_ok (i + 2) hi3).op1⟩, ?_⟩
    have := h.part i 2 (by omega)
    rw [drop_two L i (by omega)] at this
    exact this
  have hi0 : (0 : Int) ≤ (i : Int) := by omega
  have hi1 : (i : Int) < (L.length : Int) := by omega
  have hj0 : (0 : Int) ≤ (i : Int) + 1 := by omega
  have hj1 : (i : Int) + 1 < (L.length : Int) := by omega
  have hw1 : IntKind.i64.wrap ((i : Int) + 1) = (i : Int) + 1 := by rw [IntKind.wrap_i64]; omega
  generalize L.length = n at *
  unfold chg2
  generalize L[i]! = x at *
  generalize L[i+1]! = y at *
  generalize L[i+2]! = z at *
  clear h
  have hxA := hxo.a
  have hyA := hyo.a
  obtain ⟨op, A, B, xo, xn, xc, xs⟩ := x
  obtain ⟨op', A', B', yo, yn, yc, ys⟩ := y
  obtain ⟨oq, Aq, Bq, zo, zn, zc, zs⟩ := z
  simp only at *
  have HC : Hid (∀ W, Below w.heap.size w W → (W.cell? ⟨b, f + i * 4, none⟩ = some (.int .u8 op) ∧ W.cell? ⟨b, f + i * 4 + 1, none⟩ = some (.int .i64 A) ∧ W.cell? ⟨b, f + i * 4 + 2, none⟩ = some (.int .i64 B) ∧ W.cell? ⟨b, f + i * 4 + 3, none⟩ = some (.slice xo xn xc)) ∧ W.cell? ⟨b, f + (i + 1) * 4, none⟩ = some (.int .u8 op') ∧ W.cell? ⟨b, f + (i + 1) * 4 + 1, none⟩ = some (.int .i64 A') ∧ W.cell? ⟨b, f + (i + 1) * 4 + 2, none⟩ = some (.int .i64 B') ∧ W.cell? ⟨b, f + (i + 1) * 4 + 3, none⟩ = some (.slice yo yn yc)) := fun W bb => ⟨⟨(bb.cell (p := ⟨b, _, none⟩) hb).trans hx4.1, (bb.cell (p := ⟨b, _, none⟩) hb).trans hx4.2.1, (bb.cell (p := ⟨b, _, none⟩) hb).trans hx4.2.2.1, (bb.cell (p := ⟨b, _, none⟩) hb).trans hx4.2.2.2⟩, (bb.cell (p := ⟨b, _, none⟩) hb).trans hy4.1, (bb.cell (p := ⟨b, _, none⟩) hb).trans hy4.2.1, (bb.cell (p := ⟨b, _, none⟩) hb).trans hy4.2.2.1, (bb.cell (p := ⟨b, _, none⟩) hb).trans hy4.2.2.2⟩
  have HFF : Hid (FA w) := hF
  have HOK : Hid ((-9223372036854775808 ≤ A ∧ A ≤ 9223372036854775807) ∧ (-9223372036854775808 ≤ A' ∧ A' ≤ 9223372036854775807)) := ⟨hxA, hyA⟩
  clear hF hxo hyo hxA hyA
  obtain ⟨⟨x0, x1, x2, x3⟩, y0, y1, y2, y3⟩ := HC.out w (Below.refl _ _)
  clear hx4 hy4
  cases hc : isC op
  · rw [if_neg (by simp)]
    have HIC : Hid (type_of% hc) := hc
    clear hc hi2
    go_enter Tryz.func48, Tryz.ntmps48
    go_wp2_with fail
    refine (fisConst _ _ _ _ _ _ _).mono ?_
    rw [HIC.out]
    rintro r w1 ⟨rfl, b1⟩
    go_wp2
    go_ret
    exact ROut.none b1
  have HIC : Hid (type_of% hc) := hc
  clear hc
  cases hd : isC op'
  · rw [if_neg (by simp)]
    have HID : Hid (type_of% hd) := hd
    clear hd hi2
    go_enter Tryz.func48, Tryz.ntmps48
    go_wp2_with fail
    refine (fisConst _ _ _ _ _ _ _).mono ?_
    rw [HIC.out]
    rintro r w1 ⟨rfl, b1⟩
    obtain ⟨_, y0', y1', y2', y3'⟩ := HC.out w1 b1
    have HB1 : Hid (type_of% b1) := b1
    clear b1
    go_wp2_with fail
    refine (fisConst _ _ _ _ _ _ _).mono ?_
    rw [HID.out]
    rintro r w2 ⟨rfl, b2⟩
    go_wp2
    go_ret
    exact ROut.none (HB1.out.trans (b2.mono HB1.out.size))
  have HID : Hid (type_of% hd) := hd
  have hi3 := hi2 hd
  clear hi2 hd
  obtain ⟨hz, hq, hs2⟩ := HZ2.out hi3
  have HZ : Hid (type_of% hz) := hz
  have HY : Hid (type_of% hq) := hq
  have HS2 : Hid (type_of% hs2) := hs2
  clear hz hq hs2 HZ2
  have hk0 : (0 : Int) ≤ (i : Int) + 2 := by omega
  have hk1 : (i : Int) + 2 < (n : Int) := by omega
  have hk2 : (i : Int) + 2 ≤ (cap : Int) := by omega
  have hw2 : IntKind.i64.wrap ((i : Int) + 2) = (i : Int) + 2 := by rw [IntKind.wrap_i64]; omega
  have hlen : (i : Int) + 2 - (i : Int) = 2 := by omega
  cases hf : feedB [⟨op, A, B, xo, xn, xc, xs⟩, ⟨op', A', B', yo, yn, yc, ys⟩] (pIn oq)
  · rw [if_neg (by simp)]
    have HFE : Hid (type_of% hf) := hf
    clear hf
    go_enter Tryz.func48, Tryz.ntmps48
    go_wp2_with fail
    refine (fisConst _ _ _ _ _ _ _).mono ?_
    rw [HIC.out]
    rintro r w1 ⟨rfl, b1⟩
    obtain ⟨_, y0', y1', y2', y3'⟩ := HC.out w1 b1
    have HB1 : Hid (type_of% b1) := b1
    clear b1
    go_wp2_with fail
    refine (fisConst _ _ _ _ _ _ _).mono ?_
    rw [HID.out]
    rintro r w2 ⟨rfl, b2⟩
    have b12 := HB1.out.trans (b2.mono HB1.out.size)
    have z0 := HZ.out w2 b12
    have HB2 : Hid (type_of% b12) := b12
    clear b2 b12
    go_wp2_with fail
    refine (ffeed _ _ 2 [⟨op, A, B, xo, xn, xc, xs⟩, ⟨op', A', B', yo, yn, yc, ys⟩] oq HY.out.1 HY.out.2 _ rfl (by omega) (HS2.out.below HB2.out) (HFF.out.under HB2.out).tab).mono ?_
    rw [HFE.out]
    rintro r w3 ⟨rfl, b3⟩
    have b13 := HB2.out.trans (b3.mono HB2.out.size)
    obtain ⟨⟨u0, u1, u2, u3⟩, v0, v1, v2, v3⟩ := HC.out w3 b13
    have HB3 : Hid (type_of% b13) := b13
    clear b3 b13
    go_wp2
    go_ret
    exact ROut.none HB3.out
  have HFE : Hid (type_of% hf) := hf
  clear hf
  have HT : Hid (∀ w1, type_of% (ftwo oq A A' HY.out.1 HY.out.2 HOK.out.1 HOK.out.2 w1)) := fun w1 => ftwo oq A A' HY.out.1 HY.out.2 HOK.out.1 HOK.out.2 w1
  have HFT : Hid (type_of% (twoV_fit oq A A').1) := (twoV_fit oq A A').1
  have HGV : Hid (∀ T1 w1, (twoV oq A A').2 = 0 → FA w1 → Calls Tryz.prog 77 #[.int .u8 oq, .int .i64 T1] w1 _) := fun T1 w1 h0 hh => fgiven oq T1 HY.out.1 HY.out.2 (by rw [isTwo_out oq (twoV_two _ _ _ h0)]; simp) w1 hh
  generalize (twoV oq A A').1 = T1 at *
  generalize (twoV oq A A').2 = T2 at *
  by_cases ht : T2 = 0
  · rw [if_pos ⟨rfl, rfl, rfl, ht⟩]
    subst ht
    go_enter Tryz.func48, Tryz.ntmps48
    go_wp2_with fail
    refine (fisConst _ _ _ _ _ _ _).mono ?_
    rw [HIC.out]
    rintro r w1 ⟨rfl, b1⟩
    obtain ⟨_, y0', y1', y2', y3'⟩ := HC.out w1 b1
    have HB1 : Hid (type_of% b1) := b1
    clear b1
    go_wp2_with fail
    refine (fisConst _ _ _ _ _ _ _).mono ?_
    rw [HID.out]
    rintro r w2 ⟨rfl, b2⟩
    have b12 := HB1.out.trans (b2.mono HB1.out.size)
    have z0 := HZ.out w2 b12
    have HB2 : Hid (type_of% b12) := b12
    clear b2 b12
    go_wp2_with fail
    refine (ffeed _ _ 2 [⟨op, A, B, xo, xn, xc, xs⟩, ⟨op', A', B', yo, yn, yc, ys⟩] oq HY.out.1 HY.out.2 _ rfl (by omega) (HS2.out.below HB2.out) (HFF.out.under HB2.out).tab).mono ?_
    rw [HFE.out]
    rintro r w3 ⟨rfl, b3⟩
    have b13 := HB2.out.trans (b3.mono HB2.out.size)
    obtain ⟨⟨u0, u1, u2, u3⟩, v0, v1, v2, v3⟩ := HC.out w3 b13
    have HB3 : Hid (type_of% b13) := b13
    clear b3 b13
    go_wp2_with fail
    go_region_held3 (fun w' => w'.cell? ⟨b, f + i * 4 + 1, none⟩ = some (.int .i64 A) ∧ w'.cell? ⟨b, f + (i + 1) * 4 + 1, none⟩ = some (.int .i64 A')) (first | (exact ⟨(HC.out _ fch).1.2.1, (HC.out _ fch).2.2.1⟩) | go_keep) ((go_at_call 78; refine (HT.out _).mono ?_; rintro r w4 ⟨rfl, b4⟩; have HB4 : Hid (Below w.heap.size w w4) := Below.trans fch (b4.mono (by first | exact HB3.out.size | (simp only [World.size_drew]; exact HB3.out.size))); clear b4))
    all_goals
      go_wp2_with fail
      refine (HGV.out _ _ (by first | trivial | rfl) (HFF.out.under HB4.out)).mono ?_
      rintro r w5 ⟨rfl, b5⟩
      have HB5 : Hid (Below w.heap.size w w5) := HB4.out.trans (b5.mono HB4.out.size)
      clear b5
      go_wp2_with (go_at_call 73; refine (fbecomes _ _ _ _ _).mono ?_; rintro r w6 ⟨rfl, rfl⟩)
      go_ret
      exact rout_oneB HB5.out 3 (gaveD oq T1) (gaveD_ok _ _ _ HFT.out)
  · rw [if_neg (by simp [ht])]
    have ht1 : (T2 == 0) = false := by rw [beq_eq_false_iff_ne]; exact ht
    have ht2 : (T2 != 0) = true := by simp [ht]
    clear ht
    go_enter Tryz.func48, Tryz.ntmps48
    go_wp2_with fail
    refine (fisConst _ _ _ _ _ _ _).mono ?_
    rw [HIC.out]
    rintro r w1 ⟨rfl, b1⟩
    obtain ⟨_, y0', y1', y2', y3'⟩ := HC.out w1 b1
    have HB1 : Hid (type_of% b1) := b1
    clear b1
    go_wp2_with fail
    refine (fisConst _ _ _ _ _ _ _).mono ?_
    rw [HID.out]
    rintro r w2 ⟨rfl, b2⟩
    have b12 := HB1.out.trans (b2.mono HB1.out.size)
    have z0 := HZ.out w2 b12
    have HB2 : Hid (type_of% b12) := b12
    clear b2 b12
    go_wp2_with fail
    refine (ffeed _ _ 2 [⟨op, A, B, xo, xn, xc, xs⟩, ⟨op', A', B', yo, yn, yc, ys⟩] oq HY.out.1 HY.out.2 _ rfl (by omega) (HS2.out.below HB2.out) (HFF.out.under HB2.out).tab).mono ?_
    rw [HFE.out]
    rintro r w3 ⟨rfl, b3⟩
    have b13 := HB2.out.trans (b3.mono HB2.out.size)
    obtain ⟨⟨u0, u1, u2, u3⟩, v0, v1, v2, v3⟩ := HC.out w3 b13
    have HB3 : Hid (type_of% b13) := b13
    clear b3 b13
    go_wp2_with fail
    go_region_held3 (fun w' => w'.cell? ⟨b, f + i * 4 + 1, none⟩ = some (.int .i64 A) ∧ w'.cell? ⟨b, f + (i + 1) * 4 + 1, none⟩ = some (.int .i64 A')) (first | (exact ⟨(HC.out _ fch).1.2.1, (HC.out _ fch).2.2.1⟩) | go_keep) ((go_at_call 78; refine (HT.out _).mono ?_; rintro r w4 ⟨rfl, b4⟩; have HB4 : Hid (Below w.heap.size w w4) := Below.trans fch (b4.mono (by first | exact HB3.out.size | (simp only [World.size_drew]; exact HB3.out.size))); clear b4))
    all_goals
      go_wp2
      go_ret
      exact ROut.none HB4.out
end Go.Proofs.YtkceplamaocmmaaGreatDoor
