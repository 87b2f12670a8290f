/-
 A body with one instruction more: what is the same.
 Who knows less finds no more wrong: what is known behind an unreachable against what is known without it.
 A nop or an unreachable more leaves a sound module sound: over values.
 A body with one instruction more, in memory.
 The laws' own put.
-/
import Derived.Test.YtoikoijpkchamaaGreatDoorAVM
import Derived.Test.YtoikoijpkchamaaGreatDoorARZ
namespace Go.Proofs.YtoikoijpkchamaaGreatDoor
open Go.RowKit
set_option linter.unusedVariables false
def stV (m : ModD) (loc : List Int) : List InsD → TrkV → TrkV
 | [], T => T
 | d :: L, T => stV m loc L (nextV m loc T d).2
end Go.Proofs.YtoikoijpkchamaaGreatDoor
namespace Go.Proofs.YtoikoijpkchamaaGreatDoor
open Go.RowKit
set_option linter.unusedVariables false
theorem takeV_bad (k : Int) (st : List Int) (b : BlkV) : (takeV k st b true).2.2 = true := by
 unfold takeV
 split
 ·rfl
 ·dsimp only
  split <;> rfl
theorem tksV_cons (b : BlkV) (k : Int) (l : List Int) (s : List Int × Bool) : tksV b (k :: l) s = tksV b l ((takeV k s.1 b s.2).2.1, (takeV k s.1 b s.2).2.2) := rfl
theorem tksV_bad (b : BlkV) : ∀ (l : List Int) (st : List Int), (tksV b l (st, true)).2 = true
 | [], _ => rfl
 | k :: l, st => by
  rw [tksV_cons]
  show (tksV b l ((takeV k st b true).2.1, (takeV k st b true).2.2)).2 = true
  rw [takeV_bad]
  exact tksV_bad b l _
section
variable {pre pre' : List BlkV} {r r' g g' : List Int} {b b' : BlkV}
end
theorem chooseV_bad (st : List Int) (b : BlkV) : (chooseV st b true).2 = true := by
 unfold chooseV
 dsimp only
 rw [takeV_bad, takeV_bad, takeV_bad]
theorem pass1_bad (m : ModD) (loc st : List Int) (pre : List BlkV) (b : BlkV) (op a : Int) : (pass1 m loc st pre b true op a).bad = true := by
 unfold pass1
 split
 ·exact takeV_bad _ _ _
 split
 ·exact chooseV_bad _ _
 have hf : (finV st b true).2 = true := by
  unfold finV
  rw [tksV_bad]
  rfl
 split
 ·exact hf
 split
 ·show ((finV st b true).2 || _) = true
  rw [hf]
  rfl
 ·exact tksV_bad _ _ _
theorem passV_bad (m : ModD) (loc st : List Int) (pre : List BlkV) (b : BlkV) (op a : Int) : (passV m loc st pre b true op a).bad = true := by
 unfold passV
 split
 ·exact pass1_bad ..
 split
 ·exact pass1_bad ..
 ·exact pass1_bad ..
end Go.Proofs.YtoikoijpkchamaaGreatDoor
namespace Go.Proofs.YtoikoijpkchamaaGreatDoor
open Go.RowKit
set_option linter.unusedVariables false
theorem stV_snoc (m : ModD) (loc : List Int) (d : InsD) : ∀ (A : List InsD) (T : TrkV), stV m loc (A ++ [d]) T = (nextV m loc (stV m loc A T) d).2
 | [], _ => rfl
 | a :: A, T => stV_snoc m loc d A _
theorem RunI.at {m : ModD} {loc : List Int} {L : List InsD} {R : Int × Int} {T0 : TrkV} (hm : ∀ d ∈ m.types, d.r.xs.length ≤ 10) (h : RunI m loc L R 0 T0) (hz : R.2 = 0) : ∀ i, i ≤ L.length → RunI m loc L R i (stV m loc (L.take i) T0)
 | 0, _ => h
 | i + 1, hi => by
  have ih := RunI.at hm h hz i (by omega)
  have hlt : i < L.length := by omega
  obtain ⟨_, pre, b, ho, _⟩ := ih.here hlt
  rw [List.take_succ_eq_append_getElem hlt, stV_snoc]
  revert ih ho
  generalize stV m loc (L.take i) T0 = T
  intro ih ho
  obtain ⟨st, ops, bad⟩ := T
  dsimp only at ho
  subst ho
  rw [nextV_eq]
  refine ih.next hm hlt ?_
  by_cases hE : (stepV m loc st pre b bad (L[i]).op (L[i]).A (L[i]).xs).1 = 0
  ·exact hE
  ·have := ih.stop hlt hE
   rw [this] at hz
   exact absurd hz hE
section
variable {m : ModD} {j k : Nat} {op : Int} {oF : Option Addr} {cF : Nat} {o : Option Addr} {cap : Nat}
end
end Go.Proofs.YtoikoijpkchamaaGreatDoor
namespace Go.Proofs.YtoikoijpkchamaaGreatDoor
open Go.RowKit
set_option linter.unusedVariables false
theorem cellsOf_len (L : List InsD) : (cellsOf L).length = L.length * 4 := by
 unfold cellsOf
 induction L with
 | nil => rfl
 | cons d L ih => rw [List.flatMap_cons, List.length_append, ih, List.length_cons]; simp [InsD.cells]; omega
theorem LD.cells {w : World} {o : Option Addr} {L : List InsD} (h : LD w o L) (hL : L ≠ []) : ∃ b f, o = some ⟨b, f, none⟩ ∧ b < w.heap.size ∧ ∀ j u, (cellsOf L)[j]? = some u → w.cell? ⟨b, f + j, none⟩ = some u := by
 rcases h.2 with h0 | ⟨b, f, e, hb, hc⟩
 ·exact absurd h0 hL
 refine ⟨b, f, e, hb, fun j u hu => ?_⟩
 have hj : j < L.length * 4 := by
  have := (List.getElem?_eq_some_iff.1 hu).1
  rwa [cellsOf_len] at this
 have hi : j / 4 < L.length := by omega
 have hf := flat_at InsD.cells 4 (fun _ => rfl) L (j / 4) (j % 4) hi (by omega)
 rw [show j / 4 * 4 + j % 4 = j by omega, show L.flatMap InsD.cells = cellsOf L from rfl, hu] at hf
 obtain ⟨c0, c1, c2, c3⟩ := hc (j / 4) hi
 have h4 : j % 4 = 0 ∨ j % 4 = 1 ∨ j % 4 = 2 ∨ j % 4 = 3 := by omega
 rcases h4 with q | q | q | q <;> rw [q] at hf
 ·rw [show f + j = f + j / 4 * 4 by omega, c0]; exact hf.symm
 ·rw [show f + j = f + j / 4 * 4 + 1 by omega, c1]; exact hf.symm
 ·rw [show f + j = f + j / 4 * 4 + 2 by omega, c2]; exact hf.symm
 ·rw [show f + j = f + j / 4 * 4 + 3 by omega, c3]; exact hf.symm
end Go.Proofs.YtoikoijpkchamaaGreatDoor
namespace Go.Proofs.YtoikoijpkchamaaGreatDoor
open Go.RowKit
set_option linter.unusedVariables false
theorem own_base {w : World} {B : Nat} {t : TypeId} {k : Nat} {v : Value} {n : Nat} {xs : List Value} (h : w.ownsRow B t k v n xs) {i : Nat} (e : v.ownBlock = some i) : B ≤ i := by
 rcases h.2 with ⟨h1, _⟩ | ⟨g, c, cur, h1, hb, _⟩
 ·rw [h1] at e; cases e
 ·rw [h1] at e
  simp only [Value.ownBlock, Option.some.injEq] at e
  omega
end Go.Proofs.YtoikoijpkchamaaGreatDoor
