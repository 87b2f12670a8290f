/-
 A body with one instruction more: what is the same.
 Who knows less finds no more wrong: what is known behind an unreachable against what is known without it.
 A nop or an unreachable more leaves a sound module sound: over values.
 The laws' own put.
-/
import Derived.Test.YtgleeocebnjliaaGreatDoorBVM
import Derived.Test.YtgleeocebnjliaaGreatDoorBRZ
namespace Go.Proofs.YtgleeocebnjliaaGreatDoor
open Go.RowKit
set_option linter.unusedVariables false
theorem runV_cons (m : ModD) (loc : List Int) (d : InsD) (L : List InsD) (i : Nat) (T : TrkV) : runV m loc (d :: L) i T = if (nextV m loc T d).1 = 0 then runV m loc L (i + 1) (nextV m loc T d).2 else ((i : Int), (nextV m loc T d).1) := rfl
end Go.Proofs.YtgleeocebnjliaaGreatDoor
namespace Go.Proofs.YtgleeocebnjliaaGreatDoor
open Go.RowKit
set_option linter.unusedVariables false
theorem takeV_bad (k : Int) (st : List Int) (b : BlkV) : (takeV k st b true).2.2 = true := by
 unfold takeV
 split
 ·rfl
 ·dsimp only
  split <;> rfl
theorem tksV_cons (b : BlkV) (k : Int) (l : List Int) (s : List Int × Bool) : tksV b (k :: l) s = tksV b l ((takeV k s.1 b s.2).2.1, (takeV k s.1 b s.2).2.2) := rfl
theorem tksV_bad (b : BlkV) : ∀ (l : List Int) (st : List Int), (tksV b l (st, true)).2 = true
 | [], _ => rfl
 | k :: l, st => by
  rw [tksV_cons]
  show (tksV b l ((takeV k st b true).2.1, (takeV k st b true).2.2)).2 = true
  rw [takeV_bad]
  exact tksV_bad b l _
section
variable {pre pre' : List BlkV} {r r' g g' : List Int} {b b' : BlkV}
end
theorem chooseV_bad (st : List Int) (b : BlkV) : (chooseV st b true).2 = true := by
 unfold chooseV
 dsimp only
 rw [takeV_bad, takeV_bad, takeV_bad]
theorem pass1_bad (m : ModD) (loc st : List Int) (pre : List BlkV) (b : BlkV) (op a : Int) : (pass1 m loc st pre b true op a).bad = true := by
 unfold pass1
 split
 ·exact takeV_bad _ _ _
 split
 ·exact chooseV_bad _ _
 have hf : (finV st b true).2 = true := by
  unfold finV
  rw [tksV_bad]
  rfl
 split
 ·exact hf
 split
 ·show ((finV st b true).2 || _) = true
  rw [hf]
  rfl
 ·exact tksV_bad _ _ _
theorem passV_bad (m : ModD) (loc st : List Int) (pre : List BlkV) (b : BlkV) (op a : Int) : (passV m loc st pre b true op a).bad = true := by
 unfold passV
 split
 ·exact pass1_bad ..
 split
 ·exact pass1_bad ..
 ·exact pass1_bad ..
end Go.Proofs.YtgleeocebnjliaaGreatDoor
namespace Go.Proofs.YtgleeocebnjliaaGreatDoor
open Go.RowKit
set_option linter.unusedVariables false
section
variable {m : ModD} {j k : Nat} {op : Int} {oF : Option Addr} {cF : Nat} {o : Option Addr} {cap : Nat}
end
theorem frst_zero {α : Type} {f : α → Int} : ∀ {L : List α}, (∀ x ∈ L, f x = 0) → frst f L = 0
 | [], _ => rfl
 | x :: L, h => by
  show fstE (f x) (frst f L) = 0
  rw [h x (by simp), frst_zero (L := L) (fun y hy => h y (by simp [hy]))]
  rfl
end Go.Proofs.YtgleeocebnjliaaGreatDoor
namespace Go.Proofs.YtgleeocebnjliaaGreatDoor
open Go.RowKit
set_option linter.unusedVariables false
theorem own_base {w : World} {B : Nat} {t : TypeId} {k : Nat} {v : Value} {n : Nat} {xs : List Value} (h : w.ownsRow B t k v n xs) {i : Nat} (e : v.ownBlock = some i) : B ≤ i := by
 rcases h.2 with ⟨h1, _⟩ | ⟨g, c, cur, h1, hb, _⟩
 ·rw [h1] at e; cases e
 ·rw [h1] at e
  simp only [Value.ownBlock, Option.some.injEq] at e
  omega
theorem flat_len3 (L : List FunD) : (L.flatMap FunD.cells).length = L.length * 3 := by
 induction L with
 | nil => rfl
 | cons d L ih => rw [List.flatMap_cons, List.length_append, ih, List.length_cons]; simp [FunD.cells]; omega
theorem rows_news {w : World} {o : Option Addr} {cap : Nat} {L : List FunD} (h : RowsOf w 3 FunD.cells FunD.ok o cap L) : L.length = 0 ∨ ∃ a : Addr, o = some a ∧ ∀ j u, (L.flatMap FunD.cells)[j]? = some u → w.cell? (a.add j) = some u := by
 rcases h.at' with h0 | ⟨b, f, e, hb, hc⟩
 ·exact Or.inl (by rw [h0]; rfl)
 refine Or.inr ⟨_, e, fun j u hu => ?_⟩
 have hj : j < L.length * 3 := by
  have := (List.getElem?_eq_some_iff.1 hu).1
  rwa [flat_len3] at this
 have hi : j / 3 < L.length := by omega
 have hf := flat_at FunD.cells 3 (fun _ => rfl) L (j / 3) (j % 3) hi (by omega)
 rw [show j / 3 * 3 + j % 3 = j by omega, hu, ← hc (j / 3) hi (j % 3) (by omega)] at hf
 rw [show (⟨b, f, none⟩ : Addr).add j = ⟨b, f + j, none⟩ from by unfold Addr.add; split <;> simp_all, show f + j = f + j / 3 * 3 + j % 3 by omega]
 exact hf.symm
theorem fun_one (L : List FunD) : ∀ u ∈ L.flatMap FunD.cells, u.oneCell' = true := by
 intro u hu
 obtain ⟨d, _, hd⟩ := List.mem_flatMap.1 hu
 simp only [FunD.cells, NumD.v, List.mem_cons, List.not_mem_nil, or_false] at hd
 rcases hd with rfl | rfl | rfl <;> rfl
end Go.Proofs.YtgleeocebnjliaaGreatDoor
