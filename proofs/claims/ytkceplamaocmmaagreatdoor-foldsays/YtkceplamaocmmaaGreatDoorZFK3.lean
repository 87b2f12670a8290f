/-
  What becomes of a body hangs on what it says alone: plain mathematics.
-/
import Derived.Test.YtkceplamaocmmaaGreatDoorZFK2
namespace Go.Proofs.YtkceplamaocmmaaGreatDoor
open Go.RowKit
set_option linter.unusedVariables false
section
variable {L M : List InsD}
theorem val_len (h : L.map InsD.val = M.map InsD.val) : L.length = M.length := by have := congrArg List.length h; simpa using this
theorem val_at (h : L.map InsD.val = M.map InsD.val) (i : Nat) : (L[i]!).val = (M[i]!).val := by
  have hl := val_len h
  by_cases hi : i < L.length
  · have hi2 : i < M.length := by omega
    rw [getElem!_pos L i hi, getElem!_pos M i hi2]
    have := congrArg (fun X => X[i]?) h
    simpa [hi, hi2] using this
  · rw [getElem!_neg L i hi, getElem!_neg M i (by omega)]
theorem val_op {x y : InsD} (h : x.val = y.val) : x.op = y.op := congrArg V4.op h
theorem val_A {x y : InsD} (h : x.val = y.val) : x.A = y.A := congrArg V4.A h
theorem val_ops : ∀ {L M : List InsD}, L.map InsD.val = M.map InsD.val → L.map InsD.op = M.map InsD.op := fun {L M} h => by
  have := congrArg (List.map V4.op) h
  rw [List.map_map, List.map_map] at this
  exact this
theorem mRun_val : ∀ (L M : List InsD) (k : Nat) (q : List Nat × List Int × List Int), L.map InsD.op = M.map InsD.op → mRun k L q = mRun k M q
  | [], [], _, _, _ => rfl
  | [], _ :: _, _, _, h => by simp at h
  | _ :: _, [], _, _, h => by simp at h
  | x :: L, y :: M, k, q, h => by
    simp only [List.map_cons, List.cons.injEq] at h
    rw [mRun, mRun, h.1]
    exact mRun_val L M _ _ h.2
theorem matchOf_val (h : L.map InsD.val = M.map InsD.val) : matchOf L = matchOf M := by
  unfold matchOf
  rw [val_len h]
  exact mRun_val L M _ _ (val_ops h)
def cV (c : Option (Nat × List InsD)) : Option (Nat × List V4) := c.map fun q => (q.1, q.2.map InsD.val)
theorem sgI_val (h : L.map InsD.val = M.map InsD.val) (i j : Nat) : (sgI L i j).map InsD.val = (sgI M i j).map InsD.val := by
  unfold sgI
  rw [List.map_take, List.map_drop, h, ← List.map_drop, ← List.map_take]
theorem chgs_val (h : L.map InsD.val = M.map InsD.val) (i : Nat) : (chgs L i).map cV = (chgs M i).map cV := by
  have hx := val_at h i
  have hy := val_at h (i + 1)
  have hz := val_at h (i + 2)
  have hm := matchOf_val h
  unfold chgs
  simp only [List.map_cons, List.map_nil, List.cons.injEq, and_true]
  rw [hm]
  generalize (matchOf M).2.1 = E
  generalize (matchOf M).2.2 = S
  generalize L[i]! = x at *
  generalize L[i+1]! = y at *
  generalize L[i+2]! = z at *
  generalize M[i]! = x' at *
  generalize M[i+1]! = y' at *
  generalize M[i+2]! = z' at *
  have x1 := val_op hx
  have x2 := val_A hx
  have y1 := val_op hy
  have y2 := val_A hy
  have z1 := val_op hz
  have f1 : ∀ ks, feedB [x] ks = feedB [x'] ks := fun ks => by unfold feedB; rw [List.map_cons, List.map_cons, x1]
  have f2 : ∀ ks, feedB [x, y] ks = feedB [x', y'] ks := fun ks => by unfold feedB; rw [List.map_cons, List.map_cons, List.map_cons, List.map_cons, x1, y1]
  refine ⟨?_, ?_, ?_, ?_, ?_, ?_, ?_, ?_, ?_, ?_, ?_⟩
  · unfold chg0; rw [x1]
  · unfold chg1; rw [x1, y1, f1, x2]
  · unfold chg2; rw [x1, y1, z1, f2, x2, y2]
  · unfold chg3; rw [x1, y1]
  · unfold chg4; rw [x1, y1, x2, y2]
  · unfold chg5
    rw [x1, y1]
    split
    · show some (_, [x.val]) = some (_, [x'.val])
      rw [hx]
    · rfl
  · unfold chg6; rw [x1, y1, x2, y2]
  · unfold chg7 ifV
    rw [x1, y1, x2, y2]
    split
    · show some (_, _) = some (_, _)
      split
      · split
        · show some (_, (mkD 2 y'.A).val :: (sgI L (i + 2) _).map InsD.val) = some (_, (mkD 2 y'.A).val :: (sgI M (i + 2) _).map InsD.val)
          rw [sgI_val h]
        · rfl
      · split <;> rfl
    · rfl
  · unfold chg8; rw [x1, x2, y1]
  · unfold chg9; rw [x1, x2, y1]
  · unfold chg10; rw [x1, x2, y1]
theorem fstS_val : ∀ (l m : List (Option (Nat × List InsD))), l.map cV = m.map cV → cV (fstS l) = cV (fstS m)
  | [], [], _ => rfl
  | [], _ :: _, h => by simp at h
  | _ :: _, [], h => by simp at h
  | x :: l, y :: m, h => by
    simp only [List.map_cons, List.cons.injEq] at h
    cases x with
    | none =>
      cases y with
      | none => exact fstS_val l m h.2
      | some y => exact absurd h.1 (by intro e; cases e)
    | some x =>
      cases y with
      | none => exact absurd h.1 (by intro e; cases e)
      | some y => exact h.1
theorem chgAt_val (h : L.map InsD.val = M.map InsD.val) (i : Nat) : cV (chgAt L i) = cV (chgAt M i) := fstS_val _ _ (chgs_val h i)
def cV3 (c : Option (Nat × Nat × List InsD)) : Option (Nat × Nat × List V4) := c.map fun q => (q.1, q.2.1, q.2.2.map InsD.val)
theorem fstFrom_val (h : L.map InsD.val = M.map InsD.val) : ∀ f i, cV3 (fstFrom L f i) = cV3 (fstFrom M f i)
  | 0, i => rfl
  | f + 1, i => by
    have hc := chgAt_val h i
    rw [fstFrom, fstFrom]
    cases hL : chgAt L i with
    | none =>
      cases hM : chgAt M i with
      | none => exact fstFrom_val h f (i + 1)
      | some q => rw [hL, hM] at hc; cases hc
    | some p =>
      cases hM : chgAt M i with
      | none => rw [hL, hM] at hc; cases hc
      | some q =>
        rw [hL, hM] at hc
        unfold cV at hc
        simp only [Option.map_some, Option.some.injEq, Prod.mk.injEq] at hc
        unfold cV3
        simp only [Option.map_some, hc.1, hc.2]
theorem fstC_val (h : L.map InsD.val = M.map InsD.val) : cV3 (fstC L) = cV3 (fstC M) := by
  unfold fstC
  rw [val_len h]
  exact fstFrom_val h _ _
theorem fstC_none (h : L.map InsD.val = M.map InsD.val) (h0 : fstC L = none) : fstC M = none := by
  have := fstC_val h
  rw [h0] at this
  cases hM : fstC M with
  | none => rfl
  | some q => rw [hM] at this; cases this
theorem nRun_val : ∀ (L M : List InsD) (bs : List Int) (en : Bool), L.map InsD.op = M.map InsD.op → L.map chkD = M.map chkD → nRun L bs en = nRun M bs en
  | [], [], _, _, _, _ => rfl
  | [], _ :: _, _, _, h, _ => by simp at h
  | _ :: _, [], _, _, h, _ => by simp at h
  | x :: L, y :: M, bs, en, h, h2 => by
    simp only [List.map_cons, List.cons.injEq] at h h2
    rw [nRun, nRun, h.1, h2.1, nRun_val L M _ _ h.2 h2.2]
theorem nChk_val (h : L.map InsD.val = M.map InsD.val) (hL : ∀ d ∈ L, d.xs.length = d.n) (hM : ∀ d ∈ M, d.xs.length = d.n) : nChk L = nChk M := by
  have hc : ∀ (X : List InsD), (∀ d ∈ X, d.xs.length = d.n) → X.map chkD = (X.map InsD.val).map V4.chk := fun X hX => by
    rw [List.map_map]
    refine List.map_congr_left fun d hd => ?_
    show chkV d.op d.A d.B d.n d.xs = chkV d.op d.A d.B d.xs.length d.xs
    rw [hX d hd]
  unfold nChk
  rw [val_len h, nRun_val L M [] false (val_ops h) (by rw [hc L hL, hc M hM, h])]
end
end Go.Proofs.YtkceplamaocmmaaGreatDoor
