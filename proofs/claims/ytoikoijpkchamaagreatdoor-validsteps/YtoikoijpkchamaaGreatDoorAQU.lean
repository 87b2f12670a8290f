/-
 What the document's own InsRead does.
 What the document's own InsRead answers is what the program's own Read answers.
-/
import Derived.Test.YtoikoijpkchamaaGreatDoorARRd1
import Derived.Test.YtoikoijpkchamaaGreatDoorAGWid
import Derived.Deep.RegionLaw
import Derived.Deep.AppendLies
import Derived.Deep.RegionWith
import Derived.Test.YtoikoijpkchamaaGreatDoorAGMth
namespace Go.Proofs.YtoikoijpkchamaaGreatDoor
set_option linter.unusedVariables false
open Go.RowKit
def LettersOk (F : ByteArray) : Prop := ∀ pos (h : pos < F.size), (((F[pos]'h).toNat = 107 ∨ (F[pos]'h).toNat = 97 ∨ (F[pos]'h).toNat = 98 ∨ (F[pos]'h).toNat = 122 ∨ (F[pos]'h).toNat = 99 ∨ (F[pos]'h).toNat = 100 ∨ (F[pos]'h).toNat = 63) ∨ ((F[pos]'h).toNat = 116 ∧ pos = 0))
end Go.Proofs.YtoikoijpkchamaaGreatDoor
namespace Go.Proofs.YtoikoijpkchamaaGreatDoor
set_option linter.unusedVariables false
open Go.RowKit
theorem ok1 (c : UInt8) (hc : (c.toNat = 107 ∨ c.toNat = 97 ∨ c.toNat = 98 ∨ c.toNat = 122 ∨ c.toNat = 99 ∨ c.toNat = 100 ∨ c.toNat = 63) ∨ (c.toNat = 116 ∧ 0 = 0)) : LettersOk ⟨#[c]⟩ := by
 intro pos h
 have h1 : (⟨#[c]⟩ : ByteArray).size = 1 := rfl
 obtain rfl : pos = 0 := by omega
 exact hc
theorem ok2 (c d : UInt8) (hc : c.toNat = 107 ∨ c.toNat = 97 ∨ c.toNat = 98 ∨ c.toNat = 122 ∨ c.toNat = 99 ∨ c.toNat = 100 ∨ c.toNat = 63) (hd : d.toNat = 107 ∨ d.toNat = 97 ∨ d.toNat = 98 ∨ d.toNat = 122 ∨ d.toNat = 99 ∨ d.toNat = 100 ∨ d.toNat = 63) : LettersOk ⟨#[c, d]⟩ := by
 intro pos h
 have h1 : (⟨#[c, d]⟩ : ByteArray).size = 2 := rfl
 rcases (show pos = 0 ∨ pos = 1 by omega) with rfl | rfl
 ·exact Or.inl hc
 ·exact Or.inl hd
end Go.Proofs.YtoikoijpkchamaaGreatDoor
