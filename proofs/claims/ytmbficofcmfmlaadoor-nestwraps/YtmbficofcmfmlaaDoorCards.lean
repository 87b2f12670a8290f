/-
  DERIVED. GIVEN WITH THE SEED: THE CARDS: each row of YtmbficofcmfmlaaDoorRows.lean that lists a variable, with what it lists TIED to the program's text (the seventh form; the later family's looks); each row that meets fmt, with fmt's text TOLD by the authors' own Lean function (tested against real Go, not proved from fmt's source: count such statements apart). THE CARD IS WHAT COUNTS. Prove the row's statement (the work); the ties are given (YtmbficofcmfmlaaDoorTie.lean); close each card by the builder's one call (the guide's Derived/Test/ToyasCard.lean, 'card_holds'). Laid BY PROGRAM, IN A SANDBOX (cutbox-door.mjs). By AI agents, Wed Nov 11 2026. No macro, syntax, notation, axiom, sorry.
-/
import Derived.Test.YtmbficofcmfmlaaDoorRows
import GoSem.ClaimSeven
namespace Go.Proofs.YtmbficofcmfmlaaDoor
namespace Rows

/-- THE TIED CARD OF 'troupelaw.NestSays'. -/
def nestSaysCard : Claim7 := { stood := { row := nestSaysRow, standIns := [], harness := (true, "0ed4e2a3fe7475bb6d39bc1a3f838c9457d70e6372c49cd49817770e6bf73e04"), looks := true }, kinds := [], alts := [], laidByText := true, laidKinds := [.data], laidTests := true, laidLooks := .later }
def NestSaysCardSaid : Prop := Claim7.holds Tryd.pinned (.plain (OpenSpec.ofChange nestSaysSpec)) nestSaysCard

/-- THE TIED CARD OF 'troupelaw.NestReads'. -/
def nestReadsCard : Claim7 := { stood := { row := nestReadsRow, standIns := [], harness := (true, "0ed4e2a3fe7475bb6d39bc1a3f838c9457d70e6372c49cd49817770e6bf73e04"), looks := true }, kinds := [], alts := [], laidByText := true, laidKinds := [.data], laidTests := true, laidLooks := .later }
def NestReadsCardSaid : Prop := Claim7.holds Tryd.pinned (.plain (OpenSpec.ofChange nestReadsSpec)) nestReadsCard

/-- THE TIED CARD OF 'troupelaw.NestTrees'. -/
def nestTreesCard : Claim7 := { stood := { row := nestTreesRow, standIns := [], harness := (true, "0ed4e2a3fe7475bb6d39bc1a3f838c9457d70e6372c49cd49817770e6bf73e04"), looks := true }, kinds := [], alts := [], laidByText := true, laidKinds := [.data], laidTests := true, laidLooks := .later }
def NestTreesCardSaid : Prop := Claim7.holds Tryd.pinned (.plain (OpenSpec.ofChange nestTreesSpec)) nestTreesCard

/-- THE TIED CARD OF 'troupekeep.NestBack'. -/
def nestBackCard : Claim7 := { stood := { row := nestBackRow, standIns := [], harness := (true, "0ed4e2a3fe7475bb6d39bc1a3f838c9457d70e6372c49cd49817770e6bf73e04"), looks := true }, kinds := [], alts := [], laidByText := true, laidKinds := [.data], laidTests := true, laidLooks := .later }
def NestBackCardSaid : Prop := Claim7.holds Tryd.pinned (.plain (OpenSpec.ofChange nestBackSpec)) nestBackCard

/-- THE TIED CARD OF 'troupekeep.NestAgain'. -/
def nestAgainCard : Claim7 := { stood := { row := nestAgainRow, standIns := [], harness := (true, "0ed4e2a3fe7475bb6d39bc1a3f838c9457d70e6372c49cd49817770e6bf73e04"), looks := true }, kinds := [], alts := [], laidByText := true, laidKinds := [.data], laidTests := true, laidLooks := .later }
def NestAgainCardSaid : Prop := Claim7.holds Tryd.pinned (.plain (OpenSpec.ofChange nestAgainSpec)) nestAgainCard

/-- THE TIED CARD OF 'troupekeep.NestWraps'. -/
def nestWrapsCard : Claim7 := { stood := { row := nestWrapsRow, standIns := [], harness := (true, "0ed4e2a3fe7475bb6d39bc1a3f838c9457d70e6372c49cd49817770e6bf73e04"), looks := true }, kinds := [], alts := [], laidByText := true, laidKinds := [.data], laidTests := true, laidLooks := .later }
def NestWrapsCardSaid : Prop := Claim7.holds Tryd.pinned (.plain (OpenSpec.ofChange nestWrapsSpec)) nestWrapsCard

/-- THE SECOND FORM's CARD OF 'troupelaw.NestSays'. -/
def nestSaysUptoCard : Claim7 := { stood := { row := nestSaysUptoRow, standIns := [], harness := (true, "0ed4e2a3fe7475bb6d39bc1a3f838c9457d70e6372c49cd49817770e6bf73e04"), looks := true }, kinds := [], alts := [], laidByText := true, laidKinds := [.data], laidTests := true, laidLooks := .later }
def NestSaysUptoCardSaid : Prop := Claim7.holds Tryd.pinned (.plain (OpenSpec.upto nestSaysSpec)) nestSaysUptoCard

/-- THE SECOND FORM's CARD OF 'troupelaw.NestReads'. -/
def nestReadsUptoCard : Claim7 := { stood := { row := nestReadsUptoRow, standIns := [], harness := (true, "0ed4e2a3fe7475bb6d39bc1a3f838c9457d70e6372c49cd49817770e6bf73e04"), looks := true }, kinds := [], alts := [], laidByText := true, laidKinds := [.data], laidTests := true, laidLooks := .later }
def NestReadsUptoCardSaid : Prop := Claim7.holds Tryd.pinned (.plain (OpenSpec.upto nestReadsSpec)) nestReadsUptoCard

/-- THE SECOND FORM's CARD OF 'troupelaw.NestTrees'. -/
def nestTreesUptoCard : Claim7 := { stood := { row := nestTreesUptoRow, standIns := [], harness := (true, "0ed4e2a3fe7475bb6d39bc1a3f838c9457d70e6372c49cd49817770e6bf73e04"), looks := true }, kinds := [], alts := [], laidByText := true, laidKinds := [.data], laidTests := true, laidLooks := .later }
def NestTreesUptoCardSaid : Prop := Claim7.holds Tryd.pinned (.plain (OpenSpec.upto nestTreesSpec)) nestTreesUptoCard

/-- THE SECOND FORM's CARD OF 'troupekeep.NestBack'. -/
def nestBackUptoCard : Claim7 := { stood := { row := nestBackUptoRow, standIns := [], harness := (true, "0ed4e2a3fe7475bb6d39bc1a3f838c9457d70e6372c49cd49817770e6bf73e04"), looks := true }, kinds := [], alts := [], laidByText := true, laidKinds := [.data], laidTests := true, laidLooks := .later }
def NestBackUptoCardSaid : Prop := Claim7.holds Tryd.pinned (.plain (OpenSpec.upto nestBackSpec)) nestBackUptoCard

/-- THE SECOND FORM's CARD OF 'troupekeep.NestAgain'. -/
def nestAgainUptoCard : Claim7 := { stood := { row := nestAgainUptoRow, standIns := [], harness := (true, "0ed4e2a3fe7475bb6d39bc1a3f838c9457d70e6372c49cd49817770e6bf73e04"), looks := true }, kinds := [], alts := [], laidByText := true, laidKinds := [.data], laidTests := true, laidLooks := .later }
def NestAgainUptoCardSaid : Prop := Claim7.holds Tryd.pinned (.plain (OpenSpec.upto nestAgainSpec)) nestAgainUptoCard

/-- THE SECOND FORM's CARD OF 'troupekeep.NestWraps'. -/
def nestWrapsUptoCard : Claim7 := { stood := { row := nestWrapsUptoRow, standIns := [], harness := (true, "0ed4e2a3fe7475bb6d39bc1a3f838c9457d70e6372c49cd49817770e6bf73e04"), looks := true }, kinds := [], alts := [], laidByText := true, laidKinds := [.data], laidTests := true, laidLooks := .later }
def NestWrapsUptoCardSaid : Prop := Claim7.holds Tryd.pinned (.plain (OpenSpec.upto nestWrapsSpec)) nestWrapsUptoCard
end Rows
end Go.Proofs.YtmbficofcmfmlaaDoor
