/-
  DERIVED. GIVEN WITH THE SEED: THE CARDS: each row of YthapeicnhfdhiaaGreatDoorRows.lean that lists a variable, with what it lists TIED to the program's text (the seventh form; the later family's looks); each row that meets fmt, with fmt's text TOLD by the authors' own Lean function (tested against real Go, not proved from fmt's source: count such statements apart). THE CARD IS WHAT COUNTS. Prove the row's statement (the work); the ties are given (YthapeicnhfdhiaaGreatDoorTie.lean); close each card by the builder's one call (the guide's Derived/Test/ToyasCard.lean, 'card_holds'). Laid BY PROGRAM, IN A SANDBOX (cutbox-door.mjs). By AI agents, Wed Nov 11 2026. No macro, syntax, notation, axiom, sorry.
-/
import Derived.Test.YthapeicnhfdhiaaGreatDoorRows
import GoSem.ClaimSeven
namespace Go.Proofs.YthapeicnhfdhiaaGreatDoor
namespace Rows

/-- THE TIED CARD OF 'troupelaw.ValidFuncs'. -/
def validFuncsCard : Claim7 := { stood := { row := validFuncsRow, standIns := [], harness := (true, "32faaadf083ce70ae5b06ffaabf1a5be643da4c02ced69390b19cf5e4e2e660e"), looks := false }, kinds := [], alts := [], laidByText := true, laidKinds := [.data, .data, .data, .pinned], laidTests := true, laidLooks := .later }
def ValidFuncsCardSaid : Prop := Claim7.holds Tryz.pinned (.plain (OpenSpec.ofChange validFuncsSpec)) validFuncsCard

/-- THE TIED CARD OF 'troupelaw.ValidModules'. -/
def validModulesCard : Claim7 := { stood := { row := validModulesRow, standIns := [], harness := (true, "32faaadf083ce70ae5b06ffaabf1a5be643da4c02ced69390b19cf5e4e2e660e"), looks := false }, kinds := [], alts := [], laidByText := true, laidKinds := [.data, .data, .data, .pinned], laidTests := true, laidLooks := .later }
def ValidModulesCardSaid : Prop := Claim7.holds Tryz.pinned (.plain (OpenSpec.ofChange validModulesSpec)) validModulesCard

/-- THE TIED CARD OF 'troupelaw.ValidShows'. -/
def validShowsCard : Claim7 := { stood := { row := validShowsRow, standIns := [], harness := (true, "32faaadf083ce70ae5b06ffaabf1a5be643da4c02ced69390b19cf5e4e2e660e"), looks := false }, kinds := [], alts := [], laidByText := true, laidKinds := [.data, .data, .data, .pinned], laidTests := true, laidLooks := .later }
def ValidShowsCardSaid : Prop := Claim7.holds Tryz.pinned (.plain (OpenSpec.ofChange validShowsSpec)) validShowsCard

/-- THE TIED CARD OF 'troupekeep.ValidNops'. -/
def validNopsCard : Claim7 := { stood := { row := validNopsRow, standIns := [], harness := (true, "32faaadf083ce70ae5b06ffaabf1a5be643da4c02ced69390b19cf5e4e2e660e"), looks := false }, kinds := [], alts := [], laidByText := true, laidKinds := [.data, .data, .data, .pinned], laidTests := true, laidLooks := .later }
def ValidNopsCardSaid : Prop := Claim7.holds Tryz.pinned (.plain (OpenSpec.ofChange validNopsSpec)) validNopsCard

/-- THE TIED CARD OF 'troupekeep.ValidMore'. -/
def validMoreCard : Claim7 := { stood := { row := validMoreRow, standIns := [], harness := (true, "32faaadf083ce70ae5b06ffaabf1a5be643da4c02ced69390b19cf5e4e2e660e"), looks := false }, kinds := [], alts := [], laidByText := true, laidKinds := [.data, .data, .data, .pinned], laidTests := true, laidLooks := .later }
def ValidMoreCardSaid : Prop := Claim7.holds Tryz.pinned (.plain (OpenSpec.ofChange validMoreSpec)) validMoreCard

/-- THE TIED CARD OF 'troupekeep.ValidWraps'. -/
def validWrapsCard : Claim7 := { stood := { row := validWrapsRow, standIns := [], harness := (true, "32faaadf083ce70ae5b06ffaabf1a5be643da4c02ced69390b19cf5e4e2e660e"), looks := false }, kinds := [], alts := [], laidByText := true, laidKinds := [.data, .data, .data, .pinned], laidTests := true, laidLooks := .later }
def ValidWrapsCardSaid : Prop := Claim7.holds Tryz.pinned (.plain (OpenSpec.ofChange validWrapsSpec)) validWrapsCard

/-- THE TIED CARD OF 'troupekeep.ValidSteps'. -/
def validStepsCard : Claim7 := { stood := { row := validStepsRow, standIns := [], harness := (true, "32faaadf083ce70ae5b06ffaabf1a5be643da4c02ced69390b19cf5e4e2e660e"), looks := false }, kinds := [], alts := [], laidByText := true, laidKinds := [.data, .data, .data, .pinned], laidTests := true, laidLooks := .later }
def ValidStepsCardSaid : Prop := Claim7.holds Tryz.pinned (.plain (OpenSpec.ofChange validStepsSpec)) validStepsCard

/-- THE SECOND FORM's CARD OF 'troupelaw.ValidFuncs'. -/
def validFuncsUptoCard : Claim7 := { stood := { row := validFuncsUptoRow, standIns := [], harness := (true, "32faaadf083ce70ae5b06ffaabf1a5be643da4c02ced69390b19cf5e4e2e660e"), looks := false }, kinds := [], alts := [], laidByText := true, laidKinds := [.data, .data, .data, .pinned], laidTests := true, laidLooks := .later }
def ValidFuncsUptoCardSaid : Prop := Claim7.holds Tryz.pinned (.plain (OpenSpec.upto validFuncsSpec)) validFuncsUptoCard

/-- THE SECOND FORM's CARD OF 'troupelaw.ValidModules'. -/
def validModulesUptoCard : Claim7 := { stood := { row := validModulesUptoRow, standIns := [], harness := (true, "32faaadf083ce70ae5b06ffaabf1a5be643da4c02ced69390b19cf5e4e2e660e"), looks := false }, kinds := [], alts := [], laidByText := true, laidKinds := [.data, .data, .data, .pinned], laidTests := true, laidLooks := .later }
def ValidModulesUptoCardSaid : Prop := Claim7.holds Tryz.pinned (.plain (OpenSpec.upto validModulesSpec)) validModulesUptoCard

/-- THE SECOND FORM's CARD OF 'troupelaw.ValidShows'. -/
def validShowsUptoCard : Claim7 := { stood := { row := validShowsUptoRow, standIns := [], harness := (true, "32faaadf083ce70ae5b06ffaabf1a5be643da4c02ced69390b19cf5e4e2e660e"), looks := false }, kinds := [], alts := [], laidByText := true, laidKinds := [.data, .data, .data, .pinned], laidTests := true, laidLooks := .later }
def ValidShowsUptoCardSaid : Prop := Claim7.holds Tryz.pinned (.plain (OpenSpec.upto validShowsSpec)) validShowsUptoCard

/-- THE SECOND FORM's CARD OF 'troupekeep.ValidNops'. -/
def validNopsUptoCard : Claim7 := { stood := { row := validNopsUptoRow, standIns := [], harness := (true, "32faaadf083ce70ae5b06ffaabf1a5be643da4c02ced69390b19cf5e4e2e660e"), looks := false }, kinds := [], alts := [], laidByText := true, laidKinds := [.data, .data, .data, .pinned], laidTests := true, laidLooks := .later }
def ValidNopsUptoCardSaid : Prop := Claim7.holds Tryz.pinned (.plain (OpenSpec.upto validNopsSpec)) validNopsUptoCard

/-- THE SECOND FORM's CARD OF 'troupekeep.ValidMore'. -/
def validMoreUptoCard : Claim7 := { stood := { row := validMoreUptoRow, standIns := [], harness := (true, "32faaadf083ce70ae5b06ffaabf1a5be643da4c02ced69390b19cf5e4e2e660e"), looks := false }, kinds := [], alts := [], laidByText := true, laidKinds := [.data, .data, .data, .pinned], laidTests := true, laidLooks := .later }
def ValidMoreUptoCardSaid : Prop := Claim7.holds Tryz.pinned (.plain (OpenSpec.upto validMoreSpec)) validMoreUptoCard

/-- THE SECOND FORM's CARD OF 'troupekeep.ValidWraps'. -/
def validWrapsUptoCard : Claim7 := { stood := { row := validWrapsUptoRow, standIns := [], harness := (true, "32faaadf083ce70ae5b06ffaabf1a5be643da4c02ced69390b19cf5e4e2e660e"), looks := false }, kinds := [], alts := [], laidByText := true, laidKinds := [.data, .data, .data, .pinned], laidTests := true, laidLooks := .later }
def ValidWrapsUptoCardSaid : Prop := Claim7.holds Tryz.pinned (.plain (OpenSpec.upto validWrapsSpec)) validWrapsUptoCard

/-- THE SECOND FORM's CARD OF 'troupekeep.ValidSteps'. -/
def validStepsUptoCard : Claim7 := { stood := { row := validStepsUptoRow, standIns := [], harness := (true, "32faaadf083ce70ae5b06ffaabf1a5be643da4c02ced69390b19cf5e4e2e660e"), looks := false }, kinds := [], alts := [], laidByText := true, laidKinds := [.data, .data, .data, .pinned], laidTests := true, laidLooks := .later }
def ValidStepsUptoCardSaid : Prop := Claim7.holds Tryz.pinned (.plain (OpenSpec.upto validStepsSpec)) validStepsUptoCard
end Rows
end Go.Proofs.YthapeicnhfdhiaaGreatDoor
