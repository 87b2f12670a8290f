/-
  DERIVED. GIVEN WITH THE SEED: THE CARDS: each row of YtakpkdckajjooaaGreatDoorRows.lean that lists a variable, with what it lists TIED to the program's text (the seventh form; the later family's looks); each row that meets fmt, with fmt's text TOLD by the authors' own Lean function (tested against real Go, not proved from fmt's source: count such statements apart). THE CARD IS WHAT COUNTS. Prove the row's statement (the work); the ties are given (YtakpkdckajjooaaGreatDoorTie.lean); close each card by the builder's one call (the guide's Derived/Test/ToyasCard.lean, 'card_holds'). Laid BY PROGRAM, IN A SANDBOX (cutbox-door.mjs). By AI agents, Wed Nov 11 2026. No macro, syntax, notation, axiom, sorry.
-/
import Derived.Test.YtakpkdckajjooaaGreatDoorRows
import GoSem.ClaimSeven
namespace Go.Proofs.YtakpkdckajjooaaGreatDoor
namespace Rows

/-- THE TIED CARD OF 'troupelaw.BinChecks'. -/
def binChecksCard : Claim7 := { stood := { row := binChecksRow, standIns := [], harness := (true, "680bb750aad7bb37a88a1af2648a023a48bb713805e74ee613cf3825efc7ee69"), looks := true }, kinds := [], alts := [], laidByText := true, laidKinds := [.data, .data, .pinned], laidTests := true, laidLooks := .later }
def BinChecksCardSaid : Prop := Claim7.holds Tryz.pinned (.plain (OpenSpec.ofChange binChecksSpec)) binChecksCard

/-- THE TIED CARD OF 'troupelaw.BinWrites'. -/
def binWritesCard : Claim7 := { stood := { row := binWritesRow, standIns := [], harness := (true, "680bb750aad7bb37a88a1af2648a023a48bb713805e74ee613cf3825efc7ee69"), looks := true }, kinds := [], alts := [], laidByText := true, laidKinds := [.data, .data, .pinned], laidTests := true, laidLooks := .later }
def BinWritesCardSaid : Prop := Claim7.holds Tryz.pinned (.plain (OpenSpec.ofChange binWritesSpec)) binWritesCard

/-- THE TIED CARD OF 'troupelaw.BinReads'. -/
def binReadsCard : Claim7 := { stood := { row := binReadsRow, standIns := [], harness := (true, "680bb750aad7bb37a88a1af2648a023a48bb713805e74ee613cf3825efc7ee69"), looks := true }, kinds := [], alts := [], laidByText := true, laidKinds := [.data, .data, .pinned], laidTests := true, laidLooks := .later }
def BinReadsCardSaid : Prop := Claim7.holds Tryz.pinned (.plain (OpenSpec.ofChange binReadsSpec)) binReadsCard

/-- THE TIED CARD OF 'troupekeep.BinBack'. -/
def binBackCard : Claim7 := { stood := { row := binBackRow, standIns := [], harness := (true, "680bb750aad7bb37a88a1af2648a023a48bb713805e74ee613cf3825efc7ee69"), looks := true }, kinds := [], alts := [], laidByText := true, laidKinds := [.data, .data, .pinned], laidTests := true, laidLooks := .later }
def BinBackCardSaid : Prop := Claim7.holds Tryz.pinned (.plain (OpenSpec.ofChange binBackSpec)) binBackCard

/-- THE TIED CARD OF 'troupekeep.BinAgain'. -/
def binAgainCard : Claim7 := { stood := { row := binAgainRow, standIns := [], harness := (true, "680bb750aad7bb37a88a1af2648a023a48bb713805e74ee613cf3825efc7ee69"), looks := true }, kinds := [], alts := [], laidByText := true, laidKinds := [.data, .data, .pinned], laidTests := true, laidLooks := .later }
def BinAgainCardSaid : Prop := Claim7.holds Tryz.pinned (.plain (OpenSpec.ofChange binAgainSpec)) binAgainCard

/-- THE TIED CARD OF 'troupekeep.BinTorn'. -/
def binTornCard : Claim7 := { stood := { row := binTornRow, standIns := [], harness := (true, "680bb750aad7bb37a88a1af2648a023a48bb713805e74ee613cf3825efc7ee69"), looks := true }, kinds := [], alts := [], laidByText := true, laidKinds := [.data, .data, .pinned], laidTests := true, laidLooks := .later }
def BinTornCardSaid : Prop := Claim7.holds Tryz.pinned (.plain (OpenSpec.ofChange binTornSpec)) binTornCard

/-- THE SECOND FORM's CARD OF 'troupelaw.BinChecks'. -/
def binChecksUptoCard : Claim7 := { stood := { row := binChecksUptoRow, standIns := [], harness := (true, "680bb750aad7bb37a88a1af2648a023a48bb713805e74ee613cf3825efc7ee69"), looks := true }, kinds := [], alts := [], laidByText := true, laidKinds := [.data, .data, .pinned], laidTests := true, laidLooks := .later }
def BinChecksUptoCardSaid : Prop := Claim7.holds Tryz.pinned (.plain (OpenSpec.upto binChecksSpec)) binChecksUptoCard

/-- THE SECOND FORM's CARD OF 'troupelaw.BinWrites'. -/
def binWritesUptoCard : Claim7 := { stood := { row := binWritesUptoRow, standIns := [], harness := (true, "680bb750aad7bb37a88a1af2648a023a48bb713805e74ee613cf3825efc7ee69"), looks := true }, kinds := [], alts := [], laidByText := true, laidKinds := [.data, .data, .pinned], laidTests := true, laidLooks := .later }
def BinWritesUptoCardSaid : Prop := Claim7.holds Tryz.pinned (.plain (OpenSpec.upto binWritesSpec)) binWritesUptoCard

/-- THE SECOND FORM's CARD OF 'troupelaw.BinReads'. -/
def binReadsUptoCard : Claim7 := { stood := { row := binReadsUptoRow, standIns := [], harness := (true, "680bb750aad7bb37a88a1af2648a023a48bb713805e74ee613cf3825efc7ee69"), looks := true }, kinds := [], alts := [], laidByText := true, laidKinds := [.data, .data, .pinned], laidTests := true, laidLooks := .later }
def BinReadsUptoCardSaid : Prop := Claim7.holds Tryz.pinned (.plain (OpenSpec.upto binReadsSpec)) binReadsUptoCard

/-- THE SECOND FORM's CARD OF 'troupekeep.BinBack'. -/
def binBackUptoCard : Claim7 := { stood := { row := binBackUptoRow, standIns := [], harness := (true, "680bb750aad7bb37a88a1af2648a023a48bb713805e74ee613cf3825efc7ee69"), looks := true }, kinds := [], alts := [], laidByText := true, laidKinds := [.data, .data, .pinned], laidTests := true, laidLooks := .later }
def BinBackUptoCardSaid : Prop := Claim7.holds Tryz.pinned (.plain (OpenSpec.upto binBackSpec)) binBackUptoCard

/-- THE SECOND FORM's CARD OF 'troupekeep.BinAgain'. -/
def binAgainUptoCard : Claim7 := { stood := { row := binAgainUptoRow, standIns := [], harness := (true, "680bb750aad7bb37a88a1af2648a023a48bb713805e74ee613cf3825efc7ee69"), looks := true }, kinds := [], alts := [], laidByText := true, laidKinds := [.data, .data, .pinned], laidTests := true, laidLooks := .later }
def BinAgainUptoCardSaid : Prop := Claim7.holds Tryz.pinned (.plain (OpenSpec.upto binAgainSpec)) binAgainUptoCard

/-- THE SECOND FORM's CARD OF 'troupekeep.BinTorn'. -/
def binTornUptoCard : Claim7 := { stood := { row := binTornUptoRow, standIns := [], harness := (true, "680bb750aad7bb37a88a1af2648a023a48bb713805e74ee613cf3825efc7ee69"), looks := true }, kinds := [], alts := [], laidByText := true, laidKinds := [.data, .data, .pinned], laidTests := true, laidLooks := .later }
def BinTornUptoCardSaid : Prop := Claim7.holds Tryz.pinned (.plain (OpenSpec.upto binTornSpec)) binTornUptoCard
end Rows
end Go.Proofs.YtakpkdckajjooaaGreatDoor
