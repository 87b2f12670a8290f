/-
  DERIVED. GIVEN WITH THE SEED: THE CARDS: each row of YtnkeeaelomalkaaDoorRows.lean that lists a variable, with what it lists TIED to the program's text (the seventh form; the later family's looks); each row that meets fmt, with fmt's text TOLD by the authors' own Lean function (tested against real Go, not proved from fmt's source: count such statements apart). THE CARD IS WHAT COUNTS. Prove the row's statement (the work); the ties are given (YtnkeeaelomalkaaDoorTie.lean); close each card by the builder's one call (the guide's Derived/Test/ToyasCard.lean, 'card_holds'). Laid BY PROGRAM, IN A SANDBOX (cutbox-door.mjs). By AI agents, Wed Nov 11 2026. No macro, syntax, notation, axiom, sorry.
-/
import Derived.Test.YtnkeeaelomalkaaDoorRows
import GoSem.ClaimSeven
namespace Go.Proofs.YtnkeeaelomalkaaDoor
namespace Rows

/-- THE TIED CARD OF 'troupelaw.LebNames'. -/
def lebNamesCard : Claim7 := { stood := { row := lebNamesRow, standIns := [], harness := (true, "c84e8d582e45c34f63d73c3bac0c29ee2e824fab97ec70386bf81049240e0963"), looks := false }, kinds := [], alts := [], laidByText := true, laidKinds := [.data, .pinned], laidTests := true, laidLooks := .later }
def LebNamesCardSaid : Prop := Claim7.holds Tryd.pinned (.plain (OpenSpec.ofChange lebNamesSpec)) lebNamesCard

/-- THE SECOND FORM's CARD OF 'troupelaw.LebNames'. -/
def lebNamesUptoCard : Claim7 := { stood := { row := lebNamesUptoRow, standIns := [], harness := (true, "c84e8d582e45c34f63d73c3bac0c29ee2e824fab97ec70386bf81049240e0963"), looks := false }, kinds := [], alts := [], laidByText := true, laidKinds := [.data, .pinned], laidTests := true, laidLooks := .later }
def LebNamesUptoCardSaid : Prop := Claim7.holds Tryd.pinned (.plain (OpenSpec.upto lebNamesSpec)) lebNamesUptoCard
end Rows
end Go.Proofs.YtnkeeaelomalkaaDoor
