/-
  Images and states that are the same; those without anything.
-/
import Derived.Test.YtfmmefmpjejioaaSE1
import Derived.Test.YtfmmefmpjejioaaSR4
namespace Go.Proofs.Ytfmmefmpjejioaa
open Go.RowKit

theorem sameImage_yes (x y : ImgD) (w : World) (hx : x.ok w) (hy : y.ok w) (h : x.val = y.val) :
    Calls Try.prog 8 #[x.v, y.v] w fun r w' => r = .returned (.bool true) ∧ Below w.heap.size w w' :=
  (sameImage_any x y w hx hy).mono (by
    rintro r w1 ⟨e, rfl, he, b⟩
    rw [he.2 h]
    exact ⟨rfl, b⟩)
theorem sameState_yes (x y : StaD) (w : World) (hx : x.ok w) (hy : y.ok w) (h : x.val = y.val) :
    Calls Try.prog 9 #[x.v, y.v] w fun r w' => r = .returned (.bool true) ∧ Below w.heap.size w w' :=
  (sameState_any x y w hx hy).mono (by
    rintro r w1 ⟨e, rfl, he, b⟩
    rw [he.2 h]
    exact ⟨rfl, b⟩)
def numZ : NumD := ⟨none, 0, 0, []⟩
theorem numZ_ok (w : World) : numZ.ok .i64 w := ⟨Nat.le_refl _, Nat.zero_le _, rfl, fun _ => rfl, fun x hx => absurd hx (by simp [numZ]), Or.inl rfl⟩
def imgZ : ImgD := ⟨⟨#[]⟩, numZ, numZ⟩
def staZ : StaD := ⟨none, 0, [], 0⟩
theorem imgZ_ok (w : World) : imgZ.ok w := ⟨Nat.zero_le _, numZ_ok w, numZ_ok w⟩
theorem staZ_ok (w : World) : staZ.ok w := ⟨⟨by decide, by decide⟩, ⟨Nat.zero_le _, Nat.zero_le _, fun _ => rfl, fun d hd => absurd hd (by simp [staZ]), Or.inl rfl⟩⟩
theorem sameImage_zero (w : World) : Calls Try.prog 8 #[.agg #[.string ⟨#[]⟩, .slice none 0 0, .slice none 0 0], .agg #[.string ⟨#[]⟩, .slice none 0 0, .slice none 0 0]] w fun r w' => r = .returned (.bool true) ∧ Below w.heap.size w w' := sameImage_yes imgZ imgZ w (imgZ_ok w) (imgZ_ok w) rfl
theorem sameState_zero (w : World) : Calls Try.prog 9 #[.agg #[.slice none 0 0, .int .i64 0], .agg #[.slice none 0 0, .int .i64 0]] w fun r w' => r = .returned (.bool true) ∧ Below w.heap.size w w' := sameState_yes staZ staZ w (staZ_ok w) (staZ_ok w) rfl
end Go.Proofs.Ytfmmefmpjejioaa
