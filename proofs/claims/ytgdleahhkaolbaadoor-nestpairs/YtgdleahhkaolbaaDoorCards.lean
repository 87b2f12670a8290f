/-
  DERIVED. GIVEN WITH THE SEED: THE CARDS: each row of YtgdleahhkaolbaaDoorRows.lean that lists a variable, with what it lists TIED to the program's text (the seventh form; the later family's looks); each row that meets fmt, with fmt's text TOLD by the authors' own Lean function (tested against real Go, not proved from fmt's source: count such statements apart). THE CARD IS WHAT COUNTS. Prove the row's statement (the work); the ties are given (YtgdleahhkaolbaaDoorTie.lean); close each card by the builder's one call (the guide's Derived/Test/ToyasCard.lean, 'card_holds'). Laid BY PROGRAM, IN A SANDBOX (cutbox-door.mjs). By AI agents, Wed Nov 11 2026. No macro, syntax, notation, axiom, sorry.
-/
import Derived.Test.YtgdleahhkaolbaaDoorRows
import GoSem.ClaimSeven
namespace Go.Proofs.YtgdleahhkaolbaaDoor
namespace Rows

/-- THE TIED CARD OF 'troupelaw.InsSays'. -/
def insSaysCard : Claim7 := { stood := { row := insSaysRow, standIns := [], harness := (true, "bf507512960e4ed3573bee5923dda19fb95131edeb775b4f40418c72c3b76870"), looks := true }, kinds := [], alts := [], laidByText := true, laidKinds := [.data], laidTests := true, laidLooks := .later }
def InsSaysCardSaid : Prop := Claim7.holds Tryd.pinned (.plain (OpenSpec.ofChange insSaysSpec)) insSaysCard

/-- THE TIED CARD OF 'troupelaw.InsReads'. -/
def insReadsCard : Claim7 := { stood := { row := insReadsRow, standIns := [], harness := (true, "bf507512960e4ed3573bee5923dda19fb95131edeb775b4f40418c72c3b76870"), looks := true }, kinds := [], alts := [], laidByText := true, laidKinds := [.data], laidTests := true, laidLooks := .later }
def InsReadsCardSaid : Prop := Claim7.holds Tryd.pinned (.plain (OpenSpec.ofChange insReadsSpec)) insReadsCard

/-- THE TIED CARD OF 'troupelaw.NestSays'. -/
def nestSaysCard : Claim7 := { stood := { row := nestSaysRow, standIns := [], harness := (true, "bf507512960e4ed3573bee5923dda19fb95131edeb775b4f40418c72c3b76870"), looks := true }, kinds := [], alts := [], laidByText := true, laidKinds := [.data], laidTests := true, laidLooks := .later }
def NestSaysCardSaid : Prop := Claim7.holds Tryd.pinned (.plain (OpenSpec.ofChange nestSaysSpec)) nestSaysCard

/-- THE TIED CARD OF 'troupelaw.NestReads'. -/
def nestReadsCard : Claim7 := { stood := { row := nestReadsRow, standIns := [], harness := (true, "bf507512960e4ed3573bee5923dda19fb95131edeb775b4f40418c72c3b76870"), looks := true }, kinds := [], alts := [], laidByText := true, laidKinds := [.data], laidTests := true, laidLooks := .later }
def NestReadsCardSaid : Prop := Claim7.holds Tryd.pinned (.plain (OpenSpec.ofChange nestReadsSpec)) nestReadsCard

/-- THE TIED CARD OF 'troupelaw.NestTrees'. -/
def nestTreesCard : Claim7 := { stood := { row := nestTreesRow, standIns := [], harness := (true, "bf507512960e4ed3573bee5923dda19fb95131edeb775b4f40418c72c3b76870"), looks := true }, kinds := [], alts := [], laidByText := true, laidKinds := [.data], laidTests := true, laidLooks := .later }
def NestTreesCardSaid : Prop := Claim7.holds Tryd.pinned (.plain (OpenSpec.ofChange nestTreesSpec)) nestTreesCard

/-- THE TIED CARD OF 'troupekeep.NestPairs'. -/
def nestPairsCard : Claim7 := { stood := { row := nestPairsRow, standIns := [], harness := (true, "bf507512960e4ed3573bee5923dda19fb95131edeb775b4f40418c72c3b76870"), looks := true }, kinds := [], alts := [], laidByText := true, laidKinds := [.data], laidTests := true, laidLooks := .later }
def NestPairsCardSaid : Prop := Claim7.holds Tryd.pinned (.plain (OpenSpec.ofChange nestPairsSpec)) nestPairsCard

/-- THE SECOND FORM's CARD OF 'troupelaw.InsSays'. -/
def insSaysUptoCard : Claim7 := { stood := { row := insSaysUptoRow, standIns := [], harness := (true, "bf507512960e4ed3573bee5923dda19fb95131edeb775b4f40418c72c3b76870"), looks := true }, kinds := [], alts := [], laidByText := true, laidKinds := [.data], laidTests := true, laidLooks := .later }
def InsSaysUptoCardSaid : Prop := Claim7.holds Tryd.pinned (.plain (OpenSpec.upto insSaysSpec)) insSaysUptoCard

/-- THE SECOND FORM's CARD OF 'troupelaw.InsReads'. -/
def insReadsUptoCard : Claim7 := { stood := { row := insReadsUptoRow, standIns := [], harness := (true, "bf507512960e4ed3573bee5923dda19fb95131edeb775b4f40418c72c3b76870"), looks := true }, kinds := [], alts := [], laidByText := true, laidKinds := [.data], laidTests := true, laidLooks := .later }
def InsReadsUptoCardSaid : Prop := Claim7.holds Tryd.pinned (.plain (OpenSpec.upto insReadsSpec)) insReadsUptoCard

/-- THE SECOND FORM's CARD OF 'troupelaw.NestSays'. -/
def nestSaysUptoCard : Claim7 := { stood := { row := nestSaysUptoRow, standIns := [], harness := (true, "bf507512960e4ed3573bee5923dda19fb95131edeb775b4f40418c72c3b76870"), looks := true }, kinds := [], alts := [], laidByText := true, laidKinds := [.data], laidTests := true, laidLooks := .later }
def NestSaysUptoCardSaid : Prop := Claim7.holds Tryd.pinned (.plain (OpenSpec.upto nestSaysSpec)) nestSaysUptoCard

/-- THE SECOND FORM's CARD OF 'troupelaw.NestReads'. -/
def nestReadsUptoCard : Claim7 := { stood := { row := nestReadsUptoRow, standIns := [], harness := (true, "bf507512960e4ed3573bee5923dda19fb95131edeb775b4f40418c72c3b76870"), looks := true }, kinds := [], alts := [], laidByText := true, laidKinds := [.data], laidTests := true, laidLooks := .later }
def NestReadsUptoCardSaid : Prop := Claim7.holds Tryd.pinned (.plain (OpenSpec.upto nestReadsSpec)) nestReadsUptoCard

/-- THE SECOND FORM's CARD OF 'troupelaw.NestTrees'. -/
def nestTreesUptoCard : Claim7 := { stood := { row := nestTreesUptoRow, standIns := [], harness := (true, "bf507512960e4ed3573bee5923dda19fb95131edeb775b4f40418c72c3b76870"), looks := true }, kinds := [], alts := [], laidByText := true, laidKinds := [.data], laidTests := true, laidLooks := .later }
def NestTreesUptoCardSaid : Prop := Claim7.holds Tryd.pinned (.plain (OpenSpec.upto nestTreesSpec)) nestTreesUptoCard

/-- THE SECOND FORM's CARD OF 'troupekeep.NestPairs'. -/
def nestPairsUptoCard : Claim7 := { stood := { row := nestPairsUptoRow, standIns := [], harness := (true, "bf507512960e4ed3573bee5923dda19fb95131edeb775b4f40418c72c3b76870"), looks := true }, kinds := [], alts := [], laidByText := true, laidKinds := [.data], laidTests := true, laidLooks := .later }
def NestPairsUptoCardSaid : Prop := Claim7.holds Tryd.pinned (.plain (OpenSpec.upto nestPairsSpec)) nestPairsUptoCard
end Rows
end Go.Proofs.YtgdleahhkaolbaaDoor
