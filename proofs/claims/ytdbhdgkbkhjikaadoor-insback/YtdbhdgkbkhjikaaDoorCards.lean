/-
  DERIVED. GIVEN WITH THE SEED: THE CARDS: each row of YtdbhdgkbkhjikaaDoorRows.lean that lists a variable, with what it lists TIED to the program's text (the seventh form; the later family's looks); each row that meets fmt, with fmt's text TOLD by the authors' own Lean function (tested against real Go, not proved from fmt's source: count such statements apart). THE CARD IS WHAT COUNTS. Prove the row's statement (the work); the ties are given (YtdbhdgkbkhjikaaDoorTie.lean); close each card by the builder's one call (the guide's Derived/Test/ToyasCard.lean, 'card_holds'). Laid BY PROGRAM, IN A SANDBOX (cutbox-door.mjs). By AI agents, Wed Nov 11 2026. No macro, syntax, notation, axiom, sorry.
-/
import Derived.Test.YtdbhdgkbkhjikaaDoorRows
import GoSem.ClaimSeven
namespace Go.Proofs.YtdbhdgkbkhjikaaDoor
namespace Rows

/-- THE TIED CARD OF 'troupelaw.InsSays'. -/
def insSaysCard : Claim7 := { stood := { row := insSaysRow, standIns := [], harness := (true, "5682218e98a88f0bb550f9c3bcdaef36439e61c1239a695d43010b834b8eea8c"), looks := false }, kinds := [], alts := [], laidByText := true, laidKinds := [.data], laidTests := true, laidLooks := .later }
def InsSaysCardSaid : Prop := Claim7.holds Tryd.pinned (.plain (OpenSpec.ofChange insSaysSpec)) insSaysCard

/-- THE TIED CARD OF 'troupelaw.InsReads'. -/
def insReadsCard : Claim7 := { stood := { row := insReadsRow, standIns := [], harness := (true, "5682218e98a88f0bb550f9c3bcdaef36439e61c1239a695d43010b834b8eea8c"), looks := false }, kinds := [], alts := [], laidByText := true, laidKinds := [.data], laidTests := true, laidLooks := .later }
def InsReadsCardSaid : Prop := Claim7.holds Tryd.pinned (.plain (OpenSpec.ofChange insReadsSpec)) insReadsCard

/-- THE TIED CARD OF 'troupekeep.InsBack'. -/
def insBackCard : Claim7 := { stood := { row := insBackRow, standIns := [], harness := (true, "5682218e98a88f0bb550f9c3bcdaef36439e61c1239a695d43010b834b8eea8c"), looks := false }, kinds := [], alts := [], laidByText := true, laidKinds := [.data], laidTests := true, laidLooks := .later }
def InsBackCardSaid : Prop := Claim7.holds Tryd.pinned (.plain (OpenSpec.ofChange insBackSpec)) insBackCard

/-- THE TIED CARD OF 'troupekeep.InsAgain'. -/
def insAgainCard : Claim7 := { stood := { row := insAgainRow, standIns := [], harness := (true, "5682218e98a88f0bb550f9c3bcdaef36439e61c1239a695d43010b834b8eea8c"), looks := false }, kinds := [], alts := [], laidByText := true, laidKinds := [.data], laidTests := true, laidLooks := .later }
def InsAgainCardSaid : Prop := Claim7.holds Tryd.pinned (.plain (OpenSpec.ofChange insAgainSpec)) insAgainCard

/-- THE TIED CARD OF 'troupekeep.InsKinds'. -/
def insKindsCard : Claim7 := { stood := { row := insKindsRow, standIns := [], harness := (true, "5682218e98a88f0bb550f9c3bcdaef36439e61c1239a695d43010b834b8eea8c"), looks := false }, kinds := [], alts := [], laidByText := true, laidKinds := [.data], laidTests := true, laidLooks := .later }
def InsKindsCardSaid : Prop := Claim7.holds Tryd.pinned (.plain (OpenSpec.ofChange insKindsSpec)) insKindsCard

/-- THE SECOND FORM's CARD OF 'troupelaw.InsSays'. -/
def insSaysUptoCard : Claim7 := { stood := { row := insSaysUptoRow, standIns := [], harness := (true, "5682218e98a88f0bb550f9c3bcdaef36439e61c1239a695d43010b834b8eea8c"), looks := false }, kinds := [], alts := [], laidByText := true, laidKinds := [.data], laidTests := true, laidLooks := .later }
def InsSaysUptoCardSaid : Prop := Claim7.holds Tryd.pinned (.plain (OpenSpec.upto insSaysSpec)) insSaysUptoCard

/-- THE SECOND FORM's CARD OF 'troupelaw.InsReads'. -/
def insReadsUptoCard : Claim7 := { stood := { row := insReadsUptoRow, standIns := [], harness := (true, "5682218e98a88f0bb550f9c3bcdaef36439e61c1239a695d43010b834b8eea8c"), looks := false }, kinds := [], alts := [], laidByText := true, laidKinds := [.data], laidTests := true, laidLooks := .later }
def InsReadsUptoCardSaid : Prop := Claim7.holds Tryd.pinned (.plain (OpenSpec.upto insReadsSpec)) insReadsUptoCard

/-- THE SECOND FORM's CARD OF 'troupekeep.InsBack'. -/
def insBackUptoCard : Claim7 := { stood := { row := insBackUptoRow, standIns := [], harness := (true, "5682218e98a88f0bb550f9c3bcdaef36439e61c1239a695d43010b834b8eea8c"), looks := false }, kinds := [], alts := [], laidByText := true, laidKinds := [.data], laidTests := true, laidLooks := .later }
def InsBackUptoCardSaid : Prop := Claim7.holds Tryd.pinned (.plain (OpenSpec.upto insBackSpec)) insBackUptoCard

/-- THE SECOND FORM's CARD OF 'troupekeep.InsAgain'. -/
def insAgainUptoCard : Claim7 := { stood := { row := insAgainUptoRow, standIns := [], harness := (true, "5682218e98a88f0bb550f9c3bcdaef36439e61c1239a695d43010b834b8eea8c"), looks := false }, kinds := [], alts := [], laidByText := true, laidKinds := [.data], laidTests := true, laidLooks := .later }
def InsAgainUptoCardSaid : Prop := Claim7.holds Tryd.pinned (.plain (OpenSpec.upto insAgainSpec)) insAgainUptoCard

/-- THE SECOND FORM's CARD OF 'troupekeep.InsKinds'. -/
def insKindsUptoCard : Claim7 := { stood := { row := insKindsUptoRow, standIns := [], harness := (true, "5682218e98a88f0bb550f9c3bcdaef36439e61c1239a695d43010b834b8eea8c"), looks := false }, kinds := [], alts := [], laidByText := true, laidKinds := [.data], laidTests := true, laidLooks := .later }
def InsKindsUptoCardSaid : Prop := Claim7.holds Tryd.pinned (.plain (OpenSpec.upto insKindsSpec)) insKindsUptoCard
end Rows
end Go.Proofs.YtdbhdgkbkhjikaaDoor
