/-
  Folding, the document's own way: letters and rules; plain mathematics.
  Folding, the document's own way: what comes instead.
-/
import Derived.Test.YtkceplamaocmmaaGreatDoorZFU3
import Derived.Test.YtkceplamaocmmaaGreatDoorZFV1
import Derived.Test.YtkceplamaocmmaaGreatDoorZGWid
set_option maxHeartbeats 2000000
set_option maxRecDepth 1000000
namespace Go.Proofs.YtkceplamaocmmaaGreatDoor
open Go.RowKit
set_option linter.unusedVariables false
theorem one_tak (op : Int) (h : isOne op = true) : (takL op = ⟨#[105, 62, 105]⟩ ∧ kTake op = 127 ∧ kGive op = 127) ∨ (takL op = ⟨#[105, 62, 108]⟩ ∧ kTake op = 127 ∧ kGive op = 126) ∨ (takL op = ⟨#[108, 62, 105]⟩ ∧ kTake op = 126 ∧ kGive op = 127) ∨ (takL op = ⟨#[108, 62, 108]⟩ ∧ kTake op = 126 ∧ kGive op = 126) := by
  simp only [isOne, Bool.or_eq_true, Bool.and_eq_true, beq_iff_eq, decide_eq_true_eq] at h
  have h2 : op = 69 ∨ op = 80 ∨ op = 103 ∨ op = 104 ∨ op = 105 ∨ op = 121 ∨ op = 122 ∨ op = 123 ∨ op = 167 ∨ op = 172 ∨ op = 173 ∨ op = 192 ∨ op = 193 ∨ op = 194 ∨ op = 195 ∨ op = 196 := by omega
  rcases h2 with rfl | rfl | rfl | rfl | rfl | rfl | rfl | rfl | rfl | rfl | rfl | rfl | rfl | rfl | rfl | rfl
  all_goals first
    | exact Or.inl ⟨rfl, rfl, rfl⟩
    | exact Or.inr (Or.inl ⟨rfl, rfl, rfl⟩)
    | exact Or.inr (Or.inr (Or.inl ⟨rfl, rfl, rfl⟩))
    | exact Or.inr (Or.inr (Or.inr ⟨rfl, rfl, rfl⟩))
theorem two_tak (op : Int) (h : isTwo op = true) : (takL op = ⟨#[105, 105, 62, 105]⟩ ∧ kTake op = 127 ∧ kGive op = 127) ∨ (takL op = ⟨#[108, 108, 62, 105]⟩ ∧ kTake op = 126 ∧ kGive op = 127) ∨ (takL op = ⟨#[108, 108, 62, 108]⟩ ∧ kTake op = 126 ∧ kGive op = 126) := by
  simp only [isTwo, Bool.or_eq_true, Bool.and_eq_true, decide_eq_true_eq] at h
  by_cases h1 : (70 ≤ op ∧ op ≤ 79) ∨ (106 ≤ op ∧ op ≤ 120)
  · left
    unfold takL kTake kGive
    rw [if_neg (by omega), if_neg (by omega), if_pos h1]
    refine ⟨rfl, ?_, ?_⟩
    · rcases h1 with h1 | h1 <;> repeat (first | rw [if_pos (by omega)] | rw [if_neg (by omega)])
    · rcases h1 with h1 | h1 <;> repeat (first | rw [if_pos (by omega)] | rw [if_neg (by omega)])
  by_cases h2 : 81 ≤ op ∧ op ≤ 90
  · right; left
    unfold takL kTake kGive
    rw [if_neg (by omega), if_neg (by omega), if_neg h1, if_pos h2]
    refine ⟨rfl, ?_, ?_⟩
    · repeat (first | rw [if_pos (by omega)] | rw [if_neg (by omega)])
    · repeat (first | rw [if_pos (by omega)] | rw [if_neg (by omega)])
  · right; right
    unfold takL kTake kGive
    rw [if_neg (by omega), if_neg (by omega), if_neg h1, if_neg h2, if_neg (by omega), if_pos (by omega)]
    refine ⟨rfl, ?_, ?_⟩
    · repeat (first | rw [if_pos (by omega)] | rw [if_neg (by omega)])
    · repeat (first | rw [if_pos (by omega)] | rw [if_neg (by omega)])
theorem isOne_in (op : Int) (h : isOne op = true) : pIn op = [kTake op] := by
  simp only [isOne, Bool.or_eq_true, Bool.and_eq_true, beq_iff_eq, decide_eq_true_eq] at h
  have e : insN op = 1 := by
    unfold insN
    rw [if_pos]
    simp only [isOne, Bool.or_eq_true, Bool.and_eq_true, beq_iff_eq, decide_eq_true_eq]
    exact h
  have e0 : ¬ 0 < insW op := by
    unfold insW
    rw [if_neg (by omega), if_neg (by omega), if_neg (by omega), if_neg (by omega)]
    decide
  unfold pIn
  rw [if_neg (by omega), if_neg (by omega), if_neg e0, if_pos e]
theorem isTwo_in (op : Int) (h : isTwo op = true) : pIn op = [kTake op, kTake op] := by
  simp only [isTwo, Bool.or_eq_true, Bool.and_eq_true, decide_eq_true_eq] at h
  have e1 : isOne op = false := by
    simp only [isOne, Bool.or_eq_false_iff, Bool.and_eq_false_iff, beq_eq_false_iff_ne, decide_eq_false_iff_not]
    omega
  have e : insN op = 2 := by
    unfold insN
    rw [e1, if_neg (by decide), if_pos]
    simp only [isTwo, Bool.or_eq_true, Bool.and_eq_true, decide_eq_true_eq]
    exact h
  have e0 : ¬ 0 < insW op := by
    unfold insW
    rw [if_neg (by omega), if_neg (by omega), if_neg (by omega), if_neg (by omega)]
    decide
  unfold pIn
  rw [if_neg (by omega), if_neg (by omega), if_neg e0, if_neg (by omega), if_pos e]
theorem feed1_iff (x : InsD) (k : Int) : feedB [x] [k] = decide (x.op = cOf k) := by
  unfold feedB
  simp
theorem feed2_iff (x y : InsD) (k : Int) : feedB [x, y] [k, k] = decide (x.op = cOf k ∧ y.op = cOf k) := by
  unfold feedB
  simp
theorem chg1_hit (x y : InsD) (h : isOne y.op = true) (hk : x.op = cOf (kTake y.op)) : chg1 x y = some (2, [mkD (cOf (kGive y.op)) (oneP y.op x.A)]) := by
  unfold chg1
  rw [if_pos]
  · unfold gaveD
    rw [isOne_out _ h]
    rfl
  · refine ⟨?_, ?_, h⟩
    · rw [hk]; unfold cOf isC; split <;> rfl
    · rw [isOne_in _ h, feed1_iff, decide_eq_true_eq]; exact hk
theorem chg1_no (x y : InsD) (h : isOne y.op = false ∨ x.op ≠ cOf (kTake y.op)) : chg1 x y = none := by
  unfold chg1
  rw [if_neg]
  rintro ⟨_, h2, h3⟩
  rcases h with h | h
  · rw [h] at h3; cases h3
  · rw [isOne_in _ h3, feed1_iff, decide_eq_true_eq] at h2
    exact h h2
theorem chg2_hit (x y z : InsD) (h : (twoV z.op x.A y.A).2 = 0) (hk : x.op = cOf (kTake z.op)) (hy : y.op = x.op) : chg2 x y z = some (3, [mkD (cOf (kGive z.op)) (twoV z.op x.A y.A).1]) := by
  have h2 := twoV_two _ _ _ h
  unfold chg2
  rw [if_pos]
  · unfold gaveD
    rw [isTwo_out _ h2]
    rfl
  · have hc : isC x.op = true := by rw [hk]; unfold cOf isC; split <;> rfl
    refine ⟨hc, by rw [hy]; exact hc, ?_, h⟩
    rw [isTwo_in _ h2, feed2_iff, decide_eq_true_eq]
    exact ⟨hk, by rw [hy]; exact hk⟩
theorem chg2_no (x y z : InsD) (h : (twoV z.op x.A y.A).2 ≠ 0 ∨ x.op ≠ cOf (kTake z.op) ∨ y.op ≠ x.op ∨ isC x.op = false) : chg2 x y z = none := by
  unfold chg2
  rw [if_neg]
  rintro ⟨h0, _, h2, h3⟩
  rcases h with h | h | h | h
  · exact h h3
  · rw [isTwo_in _ (twoV_two _ _ _ h3), feed2_iff, decide_eq_true_eq] at h2
    exact h h2.1
  · rw [isTwo_in _ (twoV_two _ _ _ h3), feed2_iff, decide_eq_true_eq] at h2
    exact h (h2.2.trans h2.1.symm)
  · rw [h] at h0; cases h0
def chg5D (x y : InsD) (e : Nat) : Option (Nat × List InsD) := if (x.op = 12 ∨ x.op = 14 ∨ x.op = 15 ∨ x.op = 0) ∧ y.op ≠ 11 ∧ y.op ≠ 5 then some (1 + (if 2 ≤ y.op ∧ y.op ≤ 4 then e + 1 else 1), [x]) else none
def insV (Ls : List InsD) (x y z : InsD) (e : Nat) (hf : Int) : Option (Nat × List InsD) := (chg0 x).or ((chg1 x y).or ((chg2 x y z).or ((chg3 x y).or ((chg4 x y).or ((chg5D x y e).or ((chg6 x y).or (laterV Ls x y e hf)))))))
end Go.Proofs.YtkceplamaocmmaaGreatDoor
namespace Go.Proofs.YtkceplamaocmmaaGreatDoor
open Go.RowKit
set_option linter.unusedVariables false
theorem rinst_one (b f cap : Nat) (x : InsD) (w : World) (h : LD w (some ⟨b, f, none⟩) [x]) :
    Calls Tryz.prog 11 #[.slice (some ⟨b, f, none⟩) 1 cap] w fun r w' => DOut w w' r (chg0 x) := by
  obtain ⟨b', f', e1, hb, hc⟩ := h.2.resolve_left (by simp)
  cases e1
  obtain ⟨x0, x1, x2, x3⟩ := hc 0 (by simp)
  rw [show f + 0 * 4 = f by omega] at x0 x1 x2 x3
  simp only [List.getElem_cons_zero] at x0 x1 x2 x3
  clear hc h
  unfold chg0
  obtain ⟨op, A, B, xo, xn, xc, xs⟩ := x
  simp only at *
  by_cases e : op = 1
  · subst e
    rw [if_pos rfl]
    go_enter Tryz.func11, Tryz.ntmps11
    go_wp2
    go_ret2
    exact DOut.gone fch2 1 1 rfl (by omega)
  · rw [if_neg e]
    have e1 : (op == 1) = false := by rw [beq_eq_false_iff_ne]; exact e
    clear e
    go_enter Tryz.func11, Tryz.ntmps11
    go_wp2
    go_ret2
    exact ⟨fch2, rfl⟩
theorem DOut.oneAt {w wa : World} (b : Below w.heap.size w wa) (k : Nat) (kk : Int) (hk : kk = (k : Int)) (h0 : 0 < k) (d : InsD) (hd : d.ok wa) (H : Nat) (hH : wa.heap.size = H) : DOut w (wa.alloc (.cells #[.int .u8 d.op, .int .i64 d.A, .int .i64 d.B, .slice d.o d.n d.cap] 34)) (.returned (.tuple #[.slice (some ⟨H, 0, none⟩) 1 1, .int .i64 kk])) (some (k, [d])) := by
  subst hH
  exact DOut.one b k kk hk h0 d hd
end Go.Proofs.YtkceplamaocmmaaGreatDoor
