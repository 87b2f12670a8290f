/-
  DERIVED. GIVEN WITH THE SEED: THE CARDS: each row of YtakpkdckajjooabGreatDoorRows.lean that lists a variable, with what it lists TIED to the program's text (the seventh form; the later family's looks); each row that meets fmt, with fmt's text TOLD by the authors' own Lean function (tested against real Go, not proved from fmt's source: count such statements apart). THE CARD IS WHAT COUNTS. Prove the row's statement (the work); the ties are given (YtakpkdckajjooabGreatDoorTie.lean); close each card by the builder's one call (the guide's Derived/Test/ToyasCard.lean, 'card_holds'). Laid BY PROGRAM, IN A SANDBOX (cutbox-door.mjs). By AI agents, Wed Nov 11 2026. No macro, syntax, notation, axiom, sorry.
-/
import Derived.Test.YtakpkdckajjooabGreatDoorRows
import GoSem.ClaimSeven
namespace Go.Proofs.YtakpkdckajjooabGreatDoor
namespace Rows

/-- THE TIED CARD OF 'troupekeep.BinApart'. -/
def binApartCard : Claim7 := { stood := { row := binApartRow, standIns := [], harness := (true, "f934a03c4ee795e1188ccc209fa96dff2b0e20e92eb691bd85210fd5c229dfc6"), looks := false }, kinds := [], alts := [], laidByText := true, laidKinds := [.data, .data, .pinned], laidTests := true, laidLooks := .later }
def BinApartCardSaid : Prop := Claim7.holds Tryz.pinned (.plain (OpenSpec.ofChange binApartSpec)) binApartCard

/-- THE SECOND FORM's CARD OF 'troupekeep.BinApart'. -/
def binApartUptoCard : Claim7 := { stood := { row := binApartUptoRow, standIns := [], harness := (true, "f934a03c4ee795e1188ccc209fa96dff2b0e20e92eb691bd85210fd5c229dfc6"), looks := false }, kinds := [], alts := [], laidByText := true, laidKinds := [.data, .data, .pinned], laidTests := true, laidLooks := .later }
def BinApartUptoCardSaid : Prop := Claim7.holds Tryz.pinned (.plain (OpenSpec.upto binApartSpec)) binApartUptoCard
end Rows
end Go.Proofs.YtakpkdckajjooabGreatDoor
