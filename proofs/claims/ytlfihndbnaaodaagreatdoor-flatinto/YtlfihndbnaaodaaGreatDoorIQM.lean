/-
 The parts of a module as bytes: plain mathematics.
 What the program's own nest.Read does.
 Lists that a call itself makes, of whatever parts.
-/
import Derived.Test.YtlfihndbnaaodaaGreatDoorIQS
import Derived.Lib.Builder
import Derived.Lib.AppendStr
import Derived.WalkKit
import Derived.Laws.Externs
import Derived.Lib.ValidU
import Derived.WalkLawsBesides
import Derived.Test.YtlfihndbnaaodaaGreatDoorIQO
namespace Go.Proofs.YtlfihndbnaaodaaGreatDoor
set_option linter.unusedVariables false
open Go.RowKit
def isK (k : Int) : Bool := k == 127 || k == 126
def txt (l : List Int) : List UInt8 := l.map fun n => UInt8.ofNat n.toNat
def okName (s : List Int) : Bool := Lib.validD (txt s)
def tName (s : List Int) : List Int := uB s.length ++ s
end Go.Proofs.YtlfihndbnaaodaaGreatDoor
namespace Go.Proofs.YtlfihndbnaaodaaGreatDoor
set_option linter.unusedVariables false
open Go.RowKit
def fin (en : Bool) (V : List V4) (f : Nat) (l bs : List Int) (R : Int × List V4 × List Int) : Prop := if en = true then (0, V, l) = R else appR V (nRd f l bs) = R
end Go.Proofs.YtlfihndbnaaodaaGreatDoor
namespace Go.Proofs.YtlfihndbnaaodaaGreatDoor
set_option linter.unusedVariables false
open Go.RowKit
section
variable {D : Type} {w w' : World} {B : Nat} {t : TypeId} {k : Nat} {cs : D → List Value} {ok : World → D → Prop} {o : Option Addr} {n cap : Nat} {L : List D}
theorem flat_at (cs : D → List Value) (k : Nat) (hl : ∀ d, (cs d).length = k) : ∀ (L : List D) (i r : Nat) (h : i < L.length), r < k → (L.flatMap cs)[i * k + r]? = (cs L[i])[r]?
 | [], i, r, h, _ => absurd h (by simp)
 | d :: L, 0, r, h, hr => by
  rw [List.flatMap_cons, List.getElem?_append_left (by rw [hl]; omega)]
  simp
 | d :: L, i + 1, r, h, hr => by
  have h2 : i < L.length := by simpa using h
  have := flat_at cs k hl L i r h2 hr
  rw [List.flatMap_cons, List.getElem?_append_right (by rw [hl, Nat.add_mul]; omega), hl, show (i + 1) * k + r - k = i * k + r by rw [Nat.add_mul]; omega, this]
  simp
end
end Go.Proofs.YtlfihndbnaaodaaGreatDoor
