/-
 Lists that a call itself makes, of whatever parts.
-/
import Derived.Test.YtlfihndbnaaodaaGreatDoorFQS
import Derived.WalkLawsBesides
import Derived.Test.YtlfihndbnaaodaaGreatDoorFQO
namespace Go.Proofs.YtlfihndbnaaodaaGreatDoor
set_option linter.unusedVariables false
open Go.RowKit
section
variable {D : Type} {w w' : World} {B : Nat} {t : TypeId} {k : Nat} {cs : D → List Value} {ok : World → D → Prop} {o : Option Addr} {n cap : Nat} {L : List D}
theorem flat_at (cs : D → List Value) (k : Nat) (hl : ∀ d, (cs d).length = k) : ∀ (L : List D) (i r : Nat) (h : i < L.length), r < k → (L.flatMap cs)[i * k + r]? = (cs L[i])[r]?
 | [], i, r, h, _ => absurd h (by simp)
 | d :: L, 0, r, h, hr => by
  rw [List.flatMap_cons, List.getElem?_append_left (by rw [hl]; omega)]
  simp
 | d :: L, i + 1, r, h, hr => by
  have h2 : i < L.length := by simpa using h
  have := flat_at cs k hl L i r h2 hr
  rw [List.flatMap_cons, List.getElem?_append_right (by rw [hl, Nat.add_mul]; omega), hl, show (i + 1) * k + r - k = i * k + r by rw [Nat.add_mul]; omega, this]
  simp
end
end Go.Proofs.YtlfihndbnaaodaaGreatDoor
