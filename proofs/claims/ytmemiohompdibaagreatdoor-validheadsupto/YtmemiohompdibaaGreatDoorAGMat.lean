/-
 What the small functions of nest.Match do. What the program's own nest.Match does. What belongs together lies within one another, or apart: plain mathematics of a match. What belongs together lies within one another, or apart: of a whole body. The law of pairs: its small functions.
-/
import Derived.Test.YtmemiohompdibaaGreatDoorAGNst
import Derived.Laws.MakeOwn
namespace Go.Proofs.YtmemiohompdibaaGreatDoor
set_option linter.unusedVariables false
open Go.RowKit
theorem Tryz.infoInt : (Tryz.prog.info? 3).map (fun i => (i.zero, i.size, i.bytes)) = some (some (.int .i64 0), 1, 8) := by kernel_rfl
section
variable {w wr w' : World} {gE gS n : Nat} {op : List Nat} {E S : List Int} {o : Option Addr} {cap : Nat}
theorem own3_under {w1 w2 : World} {base k : Nat} {v : Value} {xs : List Value} (h : w1.ownsRow base 3 1 v k xs) (b : Below w1.heap.size w1 w2) : w2.ownsRow base 3 1 v k xs :=
 h.kept (row := none) ⟨b.os, b.tape, b.output, b.size, fun k hk _ => b.block k hk⟩ (by cases hv : v.ownBlock <;> simp)
theorem far_block {P k c : Nat} (h : ∀ g, o = some g → g.block ≠ P) : (Value.slice o k c).ownBlock ≠ some P := by
 cases o with
 | none => simp [Value.ownBlock]
 | some g => simpa [Value.ownBlock] using h g rfl
end
def tieE (E S : List Int) (f t : Nat) : List Int := if S.getD f 0 = -1 then (E.set f (t : Int)).set t (f : Int) else ((E.set f (t : Int)).set t (f : Int)).set (S.getD f 0).toNat (t : Int)
end Go.Proofs.YtmemiohompdibaaGreatDoor
namespace Go.Proofs.YtmemiohompdibaaGreatDoor
open Go.RowKit
def mStep (k : Nat) (op : Int) (q : List Nat × List Int × List Int) : List Nat × List Int × List Int :=
 if op = 2 ∨ op = 3 ∨ op = 4 then (q.1 ++ [k], q.2.1, q.2.2)
 else if op = 5 then (match q.1.getLast? with | some f => (q.1, q.2.1, (q.2.2.set k (f : Int)).set f (k : Int)) | none => q)
 else if op = 11 then (match q.1.getLast? with | some f => (q.1.dropLast, tieE q.2.1 q.2.2 f k, q.2.2) | none => q)
 else q
def mRun : Nat → List InsD → List Nat × List Int × List Int → List Nat × List Int × List Int
 | _, [], q => q
 | k, d :: L, q => mRun (k + 1) L (mStep k d.op q)
theorem nStep_11 (ini : List Int) (x : Int) : nStep 0 11 (ini ++ [x]) false = (0, ini, false) := by
 unfold nStep
 rw [if_neg (by simp), if_neg (by simp), if_neg (by omega), if_neg (by omega), if_pos rfl, List.dropLast_concat]
 cases ini <;> rfl
theorem getD_set (S : List Int) (i j : Nat) (v : Int) : (S.set i v).getD j 0 = if i = j ∧ j < S.length then v else S.getD j 0 := by
 rw [List.getD_eq_getElem?_getD, List.getElem?_set, List.getD_eq_getElem?_getD]
 by_cases h : i = j
 ·subst h
  by_cases h2 : i < S.length
  ·simp [h2]
  ·simp [h2]
 ·simp [h]
end Go.Proofs.YtmemiohompdibaaGreatDoor
namespace Go.Proofs.YtmemiohompdibaaGreatDoor
def isO (x : Int) : Prop := x = 2 ∨ x = 3 ∨ x = 4
section
variable {ops : Nat → Int} {n k : Nat} {st ini : List (Nat × Int)} {E S : List Int}
end
end Go.Proofs.YtmemiohompdibaaGreatDoor
namespace Go.Proofs.YtmemiohompdibaaGreatDoor
def opAt (L : List InsD) (i : Nat) : Int := (L.map InsD.op).getD i 0
theorem opAt_get (L : List InsD) (i : Nat) (h : i < L.length) : opAt L i = (L[i]).op := by
 unfold opAt
 rw [List.getD_eq_getElem?_getD, List.getElem?_map, List.getElem?_eq_getElem h]
 rfl
def matchOf (L : List InsD) : List Nat × List Int × List Int := mRun 0 L ([], List.replicate L.length (-1), List.replicate L.length (-1))
end Go.Proofs.YtmemiohompdibaaGreatDoor
namespace Go.Proofs.YtmemiohompdibaaGreatDoor
open Go.RowKit
theorem LD.cellOp {w : World} {o : Option Addr} {L : List InsD} (h : LD w o L) (i : Nat) (hi : i < L.length) : ∃ b f, o = some ⟨b, f, none⟩ ∧ w.cell? ⟨b, f + i * 4, none⟩ = some (.int .u8 (opAt L i)) := by
 rcases h.2 with h0 | ⟨b, f, e, _, hc⟩
 ·rw [h0] at hi; simp at hi
 ·exact ⟨b, f, e, by rw [opAt_get L i hi]; exact (hc i hi).1⟩
end Go.Proofs.YtmemiohompdibaaGreatDoor
