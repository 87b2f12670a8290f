/-
 The document's own ValidHead.
 ValidHeads: what the program's Head says of a module is what the document's own ValidHead says.
-/
import Derived.Test.YtlfihndbnaaodaaGreatDoorIVC
import Derived.Laws.ResultCell
import Derived.Deep.RegionHeld3
namespace Go.Proofs.YtlfihndbnaaodaaGreatDoor
open Go.RowKit
set_option linter.unusedVariables false
theorem cell_at {w : World} {P : Nat} {cs : Array Value} {t : TypeId} {fr : Nat × Nat} (h : w.heap[P]? = some (.cells cs t fr)) (i : Nat) {v : Value} (hv : cs[i]? = some v) : w.cell? ⟨P, i, none⟩ = some v := by
 simp only [World.cell?, h]
 exact hv
end Go.Proofs.YtlfihndbnaaodaaGreatDoor
namespace Go.Proofs.YtlfihndbnaaodaaGreatDoor
open Go.RowKit
set_option linter.unusedVariables false
theorem typD_parts {m : ModD} (h : typD m = 0) : (∀ d ∈ m.imports, d.n < (m.types.length : Int)) ∧ ∀ d ∈ m.funcs, d.t < (m.types.length : Int) := by
 rw [typD_eq] at h
 have h1 := okE_eq0 (by decide) h
 rw [Bool.and_eq_true, List.all_eq_true, List.all_eq_true] at h1
 exact ⟨fun d hd => of_decide_eq_true (h1.1 d hd), fun d hd => of_decide_eq_true (h1.2 d hd)⟩
theorem sigAt_mem {w : World} {m : ModD} (hm : m.ok w) (h0 : mChk m = 0) (h2 : typD m = 0) (k : Nat) (hk : k < m.imports.length + m.funcs.length) : sigAt m.types m.imports m.funcs k ∈ m.types := by
 have g := fair_of hm h0
 have p := typD_parts h2
 unfold sigAt
 by_cases h : k < m.imports.length
 ·rw [if_pos h, getElem!_pos m.imports k h]
  have a := p.1 _ (List.getElem_mem h)
  have b := g.im _ (List.getElem_mem h)
  rw [getElem!_pos m.types _ (by omega)]
  exact List.getElem_mem _
 ·rw [if_neg h, getElem!_pos m.funcs (k - m.imports.length) (by omega)]
  have a := p.2 _ (List.getElem_mem (show k - m.imports.length < m.funcs.length by omega))
  have b := g.fu _ (List.getElem_mem (show k - m.imports.length < m.funcs.length by omega))
  rw [getElem!_pos m.types _ (by omega)]
  exact List.getElem_mem _
end Go.Proofs.YtlfihndbnaaodaaGreatDoor
