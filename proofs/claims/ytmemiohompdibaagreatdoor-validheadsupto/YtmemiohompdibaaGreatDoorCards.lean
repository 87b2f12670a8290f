/-
  DERIVED. GIVEN WITH THE SEED: THE CARDS: each row of YtmemiohompdibaaGreatDoorRows.lean that lists a variable, with what it lists TIED to the program's text (the seventh form; the later family's looks); each row that meets fmt, with fmt's text TOLD by the authors' own Lean function (tested against real Go, not proved from fmt's source: count such statements apart). THE CARD IS WHAT COUNTS. Prove the row's statement (the work); the ties are given (YtmemiohompdibaaGreatDoorTie.lean); close each card by the builder's one call (the guide's Derived/Test/ToyasCard.lean, 'card_holds'). Laid BY PROGRAM, IN A SANDBOX (cutbox-door.mjs). By AI agents, Wed Nov 11 2026. No macro, syntax, notation, axiom, sorry.
-/
import Derived.Test.YtmemiohompdibaaGreatDoorRows
import GoSem.ClaimSeven
namespace Go.Proofs.YtmemiohompdibaaGreatDoor
namespace Rows

/-- THE TIED CARD OF 'troupelaw.ValidHeads'. -/
def validHeadsCard : Claim7 := { stood := { row := validHeadsRow, standIns := [], harness := (true, "bc178f38eabd5fafc7f7c4f2a9b400c9b55c7924a5eb7d7d76220f3e6debf313"), looks := false }, kinds := [], alts := [], laidByText := true, laidKinds := [.data, .data, .pinned], laidTests := true, laidLooks := .later }
def ValidHeadsCardSaid : Prop := Claim7.holds Tryz.pinned (.plain (OpenSpec.ofChange validHeadsSpec)) validHeadsCard

/-- THE TIED CARD OF 'troupelaw.ValidFuncs'. -/
def validFuncsCard : Claim7 := { stood := { row := validFuncsRow, standIns := [], harness := (true, "bc178f38eabd5fafc7f7c4f2a9b400c9b55c7924a5eb7d7d76220f3e6debf313"), looks := false }, kinds := [], alts := [], laidByText := true, laidKinds := [.data, .data, .data, .pinned], laidTests := true, laidLooks := .later }
def ValidFuncsCardSaid : Prop := Claim7.holds Tryz.pinned (.plain (OpenSpec.ofChange validFuncsSpec)) validFuncsCard

/-- THE TIED CARD OF 'troupelaw.ValidModules'. -/
def validModulesCard : Claim7 := { stood := { row := validModulesRow, standIns := [], harness := (true, "bc178f38eabd5fafc7f7c4f2a9b400c9b55c7924a5eb7d7d76220f3e6debf313"), looks := false }, kinds := [], alts := [], laidByText := true, laidKinds := [.data, .data, .data, .pinned], laidTests := true, laidLooks := .later }
def ValidModulesCardSaid : Prop := Claim7.holds Tryz.pinned (.plain (OpenSpec.ofChange validModulesSpec)) validModulesCard

/-- THE TIED CARD OF 'troupelaw.ValidShows'. -/
def validShowsCard : Claim7 := { stood := { row := validShowsRow, standIns := [], harness := (true, "bc178f38eabd5fafc7f7c4f2a9b400c9b55c7924a5eb7d7d76220f3e6debf313"), looks := false }, kinds := [], alts := [], laidByText := true, laidKinds := [.data, .data, .data, .pinned], laidTests := true, laidLooks := .later }
def ValidShowsCardSaid : Prop := Claim7.holds Tryz.pinned (.plain (OpenSpec.ofChange validShowsSpec)) validShowsCard

/-- THE TIED CARD OF 'troupekeep.ValidNops'. -/
def validNopsCard : Claim7 := { stood := { row := validNopsRow, standIns := [], harness := (true, "bc178f38eabd5fafc7f7c4f2a9b400c9b55c7924a5eb7d7d76220f3e6debf313"), looks := false }, kinds := [], alts := [], laidByText := true, laidKinds := [.data, .data, .data, .pinned], laidTests := true, laidLooks := .later }
def ValidNopsCardSaid : Prop := Claim7.holds Tryz.pinned (.plain (OpenSpec.ofChange validNopsSpec)) validNopsCard

/-- THE TIED CARD OF 'troupekeep.ValidMore'. -/
def validMoreCard : Claim7 := { stood := { row := validMoreRow, standIns := [], harness := (true, "bc178f38eabd5fafc7f7c4f2a9b400c9b55c7924a5eb7d7d76220f3e6debf313"), looks := false }, kinds := [], alts := [], laidByText := true, laidKinds := [.data, .data, .data, .pinned], laidTests := true, laidLooks := .later }
def ValidMoreCardSaid : Prop := Claim7.holds Tryz.pinned (.plain (OpenSpec.ofChange validMoreSpec)) validMoreCard

/-- THE SECOND FORM's CARD OF 'troupelaw.ValidHeads'. -/
def validHeadsUptoCard : Claim7 := { stood := { row := validHeadsUptoRow, standIns := [], harness := (true, "bc178f38eabd5fafc7f7c4f2a9b400c9b55c7924a5eb7d7d76220f3e6debf313"), looks := false }, kinds := [], alts := [], laidByText := true, laidKinds := [.data, .data, .pinned], laidTests := true, laidLooks := .later }
def ValidHeadsUptoCardSaid : Prop := Claim7.holds Tryz.pinned (.plain (OpenSpec.upto validHeadsSpec)) validHeadsUptoCard

/-- THE SECOND FORM's CARD OF 'troupelaw.ValidFuncs'. -/
def validFuncsUptoCard : Claim7 := { stood := { row := validFuncsUptoRow, standIns := [], harness := (true, "bc178f38eabd5fafc7f7c4f2a9b400c9b55c7924a5eb7d7d76220f3e6debf313"), looks := false }, kinds := [], alts := [], laidByText := true, laidKinds := [.data, .data, .data, .pinned], laidTests := true, laidLooks := .later }
def ValidFuncsUptoCardSaid : Prop := Claim7.holds Tryz.pinned (.plain (OpenSpec.upto validFuncsSpec)) validFuncsUptoCard

/-- THE SECOND FORM's CARD OF 'troupelaw.ValidModules'. -/
def validModulesUptoCard : Claim7 := { stood := { row := validModulesUptoRow, standIns := [], harness := (true, "bc178f38eabd5fafc7f7c4f2a9b400c9b55c7924a5eb7d7d76220f3e6debf313"), looks := false }, kinds := [], alts := [], laidByText := true, laidKinds := [.data, .data, .data, .pinned], laidTests := true, laidLooks := .later }
def ValidModulesUptoCardSaid : Prop := Claim7.holds Tryz.pinned (.plain (OpenSpec.upto validModulesSpec)) validModulesUptoCard

/-- THE SECOND FORM's CARD OF 'troupelaw.ValidShows'. -/
def validShowsUptoCard : Claim7 := { stood := { row := validShowsUptoRow, standIns := [], harness := (true, "bc178f38eabd5fafc7f7c4f2a9b400c9b55c7924a5eb7d7d76220f3e6debf313"), looks := false }, kinds := [], alts := [], laidByText := true, laidKinds := [.data, .data, .data, .pinned], laidTests := true, laidLooks := .later }
def ValidShowsUptoCardSaid : Prop := Claim7.holds Tryz.pinned (.plain (OpenSpec.upto validShowsSpec)) validShowsUptoCard

/-- THE SECOND FORM's CARD OF 'troupekeep.ValidNops'. -/
def validNopsUptoCard : Claim7 := { stood := { row := validNopsUptoRow, standIns := [], harness := (true, "bc178f38eabd5fafc7f7c4f2a9b400c9b55c7924a5eb7d7d76220f3e6debf313"), looks := false }, kinds := [], alts := [], laidByText := true, laidKinds := [.data, .data, .data, .pinned], laidTests := true, laidLooks := .later }
def ValidNopsUptoCardSaid : Prop := Claim7.holds Tryz.pinned (.plain (OpenSpec.upto validNopsSpec)) validNopsUptoCard

/-- THE SECOND FORM's CARD OF 'troupekeep.ValidMore'. -/
def validMoreUptoCard : Claim7 := { stood := { row := validMoreUptoRow, standIns := [], harness := (true, "bc178f38eabd5fafc7f7c4f2a9b400c9b55c7924a5eb7d7d76220f3e6debf313"), looks := false }, kinds := [], alts := [], laidByText := true, laidKinds := [.data, .data, .data, .pinned], laidTests := true, laidLooks := .later }
def ValidMoreUptoCardSaid : Prop := Claim7.holds Tryz.pinned (.plain (OpenSpec.upto validMoreSpec)) validMoreUptoCard
end Rows
end Go.Proofs.YtmemiohompdibaaGreatDoor
