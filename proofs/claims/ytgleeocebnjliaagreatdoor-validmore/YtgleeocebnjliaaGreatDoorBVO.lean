/-
 A body within a block of its own kind: over values.
 A module with another function in one place; a body within a block leaves a sound module sound: over values.
-/
import Derived.Test.YtgleeocebnjliaaGreatDoorBVN
namespace Go.Proofs.YtgleeocebnjliaaGreatDoor
open Go.RowKit
set_option linter.unusedVariables false
theorem step_zero {m : ModD} {loc st : List Int} {pre : List BlkV} {b : BlkV} {op a : Int} {xs : List Int} (h : (stepV m loc st pre b false op a xs).1 = 0) :
  thereK m loc.length (pre.length + 1) op a xs = true ∧ skewK op a = false ∧ allowedV m (pre ++ [b]) op a xs = true ∧ (passV m loc st pre b false op a).bad = false ∧ stepV m loc st pre b false op a xs = (0, passV m loc st pre b false op a) := by
 unfold stepV at h ⊢
 split at h
 ·exact absurd h (by decide)
 rename_i n1
 split at h
 ·exact absurd h (by decide)
 rename_i n2
 split at h
 ·exact absurd h (by decide)
 rename_i n3
 have hal : allowedV m (pre ++ [b]) op a xs = true := by
  cases e : allowedV m (pre ++ [b]) op a xs with
  | true => rfl
  | false =>
   rw [e] at n3
   exact absurd (passV_bad m loc st pre b op a) n3
 rw [hal] at n3 ⊢
 rw [if_neg n1, if_neg n2, if_neg n3]
 exact ⟨by simpa using n1, by simpa using n2, rfl, by simpa using n3, rfl⟩
theorem step_of {m : ModD} {loc st : List Int} {pre : List BlkV} {b : BlkV} {op a : Int} {xs : List Int} (h1 : thereK m loc.length (pre.length + 1) op a xs = true) (h2 : skewK op a = false) (h3 : allowedV m (pre ++ [b]) op a xs = true) (h4 : (passV m loc st pre b false op a).bad = false) : stepV m loc st pre b false op a xs = (0, passV m loc st pre b false op a) := by
 unfold stepV
 rw [h3, if_neg (by rw [h1]; decide), if_neg (by rw [h2]; decide), if_neg]
 ·rfl
 ·show ¬ (passV m loc st pre b false op a).bad = true
  rw [h4]
  decide
end Go.Proofs.YtgleeocebnjliaaGreatDoor
namespace Go.Proofs.YtgleeocebnjliaaGreatDoor
open Go.RowKit
set_option linter.unusedVariables false
def setM (m : ModD) (j : Nat) (d : FunD) (oF : Option Addr) (cF : Nat) : ModD := { m with oF := oF, cF := cF, funcs := m.funcs.set j d }
section
variable {m : ModD} {j : Nat} {d : FunD} {oF : Option Addr} {cF : Nat}
end
theorem modE_chk {m : ModD} (h : mChk m ≠ 0) : modE m = mChk m := by
 have : headErr m = mChk m := by
  unfold headErr
  rw [if_neg h]
 unfold modE fstE
 rw [this, if_neg h]
theorem set_ok {m : ModD} {j g cF B : Nat} {d : FunD} {w z3 z5 : World} (hm : m.ok w) (hj : j < m.funcs.length) (hB : Below w.heap.size w z5) (hrow : z3.ownsRow B 57 3 (.slice (some ⟨g, 0, none⟩) m.funcs.length cF) m.funcs.length (m.funcs.flatMap FunD.cells)) (hd : d.ok z5)
  (hset : ∀ i r, i ≠ j → r < 3 → z5.cell? ⟨g, i * 3 + r, none⟩ = z3.cell? ⟨g, i * 3 + r, none⟩) (hnew : ∀ r, r < 3 → z5.cell? ⟨g, j * 3 + r, none⟩ = (FunD.cells d)[r]?) (hg : g < z5.heap.size) : (setM m j d (some ⟨g, 0, none⟩) cF).ok z5 := by
 have h5 := hm.below hB
 have hcap : m.funcs.length ≤ cF ∧ cF ≤ maxLen := by
  rcases hrow.2 with ⟨h1, _⟩ | ⟨g', c', cur, h1, _, _, h3, h4, _⟩
  ·cases h1
  ·simp only [Value.slice.injEq] at h1
   obtain ⟨_, _, rfl⟩ := h1
   exact ⟨h3, h4⟩
 have hF : RowsOf z5 3 FunD.cells FunD.ok (some ⟨g, 0, none⟩) cF (m.funcs.set j d) := by
  refine ⟨by rw [List.length_set]; exact hcap.1, hcap.2, (fun h => by cases h), fun x hx => ?_, Or.inr ⟨g, 0, rfl, hg, fun i hi r hr => ?_⟩⟩
  ·rcases List.mem_or_eq_of_mem_set hx with q | rfl
   ·exact h5.funcs.all x q
   ·exact hd
  ·have hi' : i < m.funcs.length := by rwa [List.length_set] at hi
   have ho : z3.cell? ⟨g, i * 3 + r, none⟩ = (FunD.cells m.funcs[i])[r]? := (hrow.cellAt (i * 3 + r) (by omega)).trans (flat_at FunD.cells 3 (fun _ => rfl) m.funcs i r hi' hr)
   rw [Nat.zero_add]
   by_cases e : i = j
   ·subst e
    rw [List.getElem_set_self]
    exact hnew r hr
   ·rw [List.getElem_set_ne (by omega), hset i r e hr, ho]
 exact ⟨h5.types, h5.imports, hF, h5.table, h5.pages, h5.most, h5.globals, h5.exports, h5.start, h5.elems, h5.data⟩
end Go.Proofs.YtgleeocebnjliaaGreatDoor
