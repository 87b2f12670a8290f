/-
  DERIVED. GIVEN WITH THE SEED: THE CARDS: each row of YtkceplamaocmmaaGreatDoorRows.lean that lists a variable, with what it lists TIED to the program's text (the seventh form; the later family's looks); each row that meets fmt, with fmt's text TOLD by the authors' own Lean function (tested against real Go, not proved from fmt's source: count such statements apart). THE CARD IS WHAT COUNTS. Prove the row's statement (the work); the ties are given (YtkceplamaocmmaaGreatDoorTie.lean); close each card by the builder's one call (the guide's Derived/Test/ToyasCard.lean, 'card_holds'). Laid BY PROGRAM, IN A SANDBOX (cutbox-door.mjs). By AI agents, Wed Nov 11 2026. No macro, syntax, notation, axiom, sorry.
-/
import Derived.Test.YtkceplamaocmmaaGreatDoorRows
import GoSem.ClaimSeven
namespace Go.Proofs.YtkceplamaocmmaaGreatDoor
namespace Rows

/-- THE TIED CARD OF 'troupelaw.FoldSays'. -/
def foldSaysCard : Claim7 := { stood := { row := foldSaysRow, standIns := [], harness := (true, "3a9134993bcb3de240fd3bd85c4cc1779bfa754fde5c5b4ce17b06c48d35d78d"), looks := false }, kinds := [], alts := [], laidByText := true, laidKinds := [.data], laidTests := true, laidLooks := .later }
def FoldSaysCardSaid : Prop := Claim7.holds Tryz.pinned (.plain (OpenSpec.ofChange foldSaysSpec)) foldSaysCard

/-- THE SECOND FORM's CARD OF 'troupelaw.FoldSays'. -/
def foldSaysUptoCard : Claim7 := { stood := { row := foldSaysUptoRow, standIns := [], harness := (true, "3a9134993bcb3de240fd3bd85c4cc1779bfa754fde5c5b4ce17b06c48d35d78d"), looks := false }, kinds := [], alts := [], laidByText := true, laidKinds := [.data], laidTests := true, laidLooks := .later }
def FoldSaysUptoCardSaid : Prop := Claim7.holds Tryz.pinned (.plain (OpenSpec.upto foldSaysSpec)) foldSaysUptoCard
end Rows
end Go.Proofs.YtkceplamaocmmaaGreatDoor
