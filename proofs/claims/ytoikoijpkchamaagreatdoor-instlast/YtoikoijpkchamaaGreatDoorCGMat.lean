/-
 What the small functions of nest.Match do. What the program's own nest.Match does. What belongs together lies within one another, or apart: plain mathematics of a match. What belongs together lies within one another, or apart: of a whole body. The law of pairs: its small functions.
-/
import Derived.Test.YtoikoijpkchamaaGreatDoorCGNst
import Derived.Laws.MakeOwn
namespace Go.Proofs.YtoikoijpkchamaaGreatDoor
set_option linter.unusedVariables false
open Go.RowKit
section
variable {w wr w' : World} {gE gS n : Nat} {op : List Nat} {E S : List Int} {o : Option Addr} {cap : Nat}
end
end Go.Proofs.YtoikoijpkchamaaGreatDoor
namespace Go.Proofs.YtoikoijpkchamaaGreatDoor
open Go.RowKit
end Go.Proofs.YtoikoijpkchamaaGreatDoor
namespace Go.Proofs.YtoikoijpkchamaaGreatDoor
def isO (x : Int) : Prop := x = 2 ∨ x = 3 ∨ x = 4
def OpK (ops : Nat → Int) (k : Nat) (S : List Int) (x : Nat × Int) : Prop :=
 isO (ops x.1) ∧ x.1 < k ∧ ((x.2 = 5 ∧ ops x.1 = 4 ∧ ∃ h : Nat, S.getD x.1 0 = (h : Int) ∧ x.1 < h ∧ h < k ∧ ops h = 5 ∧ S.getD h 0 = (x.1 : Int)) ∨ (x.2 = ops x.1 ∧ S.getD x.1 0 = -1))
def ClK (ops : Nat → Int) (k : Nat) (E S : List Int) (p q : Nat) : Prop :=
 E.getD p 0 = (q : Int) ∧ p < q ∧ q < k ∧ ops q = 11 ∧ E.getD q 0 = (p : Int) ∧ (S.getD p 0 = -1 ∨ ∃ h : Nat, S.getD p 0 = (h : Int) ∧ p < h ∧ h < q ∧ ops p = 4 ∧ ops h = 5 ∧ S.getD h 0 = (p : Int) ∧ E.getD h 0 = (q : Int))
structure Inv (ops : Nat → Int) (n k : Nat) (st : List (Nat × Int)) (E S : List Int) : Prop where
 lenE : E.length = n
 lenS : S.length = n
 kn : k ≤ n
 sorted : (st.map Prod.fst).Pairwise (· < ·)
 kind : ∀ x ∈ st, OpK ops k S x
 closed : ∀ p, p < k → isO (ops p) → p ∉ st.map Prod.fst → ∃ q, ClK ops k E S p q
 nest : ∀ p1 p2, p1 < p2 → p2 < k → isO (ops p1) → isO (ops p2) → p1 ∉ st.map Prod.fst → (p2 ∈ st.map Prod.fst → E.getD p1 0 < (p2 : Int)) ∧ (p2 ∉ st.map Prod.fst → E.getD p2 0 < E.getD p1 0 ∨ E.getD p1 0 < (p2 : Int))
 fresh : ∀ p, k ≤ p → p < n → S.getD p 0 = -1
section
variable {ops : Nat → Int} {n k : Nat} {st ini : List (Nat × Int)} {E S : List Int}
end
end Go.Proofs.YtoikoijpkchamaaGreatDoor
namespace Go.Proofs.YtoikoijpkchamaaGreatDoor
end Go.Proofs.YtoikoijpkchamaaGreatDoor
namespace Go.Proofs.YtoikoijpkchamaaGreatDoor
open Go.RowKit
end Go.Proofs.YtoikoijpkchamaaGreatDoor
