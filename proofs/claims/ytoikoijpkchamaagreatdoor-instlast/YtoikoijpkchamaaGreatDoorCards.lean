/-
  DERIVED. GIVEN WITH THE SEED: THE CARDS: each row of YtoikoijpkchamaaGreatDoorRows.lean that lists a variable, with what it lists TIED to the program's text (the seventh form; the later family's looks); each row that meets fmt, with fmt's text TOLD by the authors' own Lean function (tested against real Go, not proved from fmt's source: count such statements apart). THE CARD IS WHAT COUNTS. Prove the row's statement (the work); the ties are given (YtoikoijpkchamaaGreatDoorTie.lean); close each card by the builder's one call (the guide's Derived/Test/ToyasCard.lean, 'card_holds'). Laid BY PROGRAM, IN A SANDBOX (cutbox-door.mjs). By AI agents, Wed Nov 11 2026. No macro, syntax, notation, axiom, sorry.
-/
import Derived.Test.YtoikoijpkchamaaGreatDoorRows
import GoSem.ClaimSeven
namespace Go.Proofs.YtoikoijpkchamaaGreatDoor
namespace Rows

/-- THE TIED CARD OF 'troupelaw.ValidFuncs'. -/
def validFuncsCard : Claim7 := { stood := { row := validFuncsRow, standIns := [], harness := (true, "f56a3844e061e4325c2357f379b7f038603627cf60721af9355209d5db066688"), looks := false }, kinds := [], alts := [], laidByText := true, laidKinds := [.data, .data, .data, .pinned], laidTests := true, laidLooks := .later }
def ValidFuncsCardSaid : Prop := Claim7.holds Tryz.pinned (.plain (OpenSpec.ofChange validFuncsSpec)) validFuncsCard

/-- THE TIED CARD OF 'troupelaw.ValidModules'. -/
def validModulesCard : Claim7 := { stood := { row := validModulesRow, standIns := [], harness := (true, "f56a3844e061e4325c2357f379b7f038603627cf60721af9355209d5db066688"), looks := false }, kinds := [], alts := [], laidByText := true, laidKinds := [.data, .data, .data, .pinned], laidTests := true, laidLooks := .later }
def ValidModulesCardSaid : Prop := Claim7.holds Tryz.pinned (.plain (OpenSpec.ofChange validModulesSpec)) validModulesCard

/-- THE TIED CARD OF 'troupelaw.ValidShows'. -/
def validShowsCard : Claim7 := { stood := { row := validShowsRow, standIns := [], harness := (true, "f56a3844e061e4325c2357f379b7f038603627cf60721af9355209d5db066688"), looks := false }, kinds := [], alts := [], laidByText := true, laidKinds := [.data, .data, .data, .pinned], laidTests := true, laidLooks := .later }
def ValidShowsCardSaid : Prop := Claim7.holds Tryz.pinned (.plain (OpenSpec.ofChange validShowsSpec)) validShowsCard

/-- THE TIED CARD OF 'troupekeep.ValidSteps'. -/
def validStepsCard : Claim7 := { stood := { row := validStepsRow, standIns := [], harness := (true, "f56a3844e061e4325c2357f379b7f038603627cf60721af9355209d5db066688"), looks := false }, kinds := [], alts := [], laidByText := true, laidKinds := [.data, .data, .data, .pinned], laidTests := true, laidLooks := .later }
def ValidStepsCardSaid : Prop := Claim7.holds Tryz.pinned (.plain (OpenSpec.ofChange validStepsSpec)) validStepsCard

/-- THE TIED CARD OF 'troupelaw.FlatSays'. -/
def flatSaysCard : Claim7 := { stood := { row := flatSaysRow, standIns := [], harness := (true, "f56a3844e061e4325c2357f379b7f038603627cf60721af9355209d5db066688"), looks := false }, kinds := [], alts := [], laidByText := true, laidKinds := [.data, .data, .data, .pinned], laidTests := true, laidLooks := .later }
def FlatSaysCardSaid : Prop := Claim7.holds Tryz.pinned (.plain (OpenSpec.ofChange flatSaysSpec)) flatSaysCard

/-- THE TIED CARD OF 'troupelaw.FlatAll'. -/
def flatAllCard : Claim7 := { stood := { row := flatAllRow, standIns := [], harness := (true, "f56a3844e061e4325c2357f379b7f038603627cf60721af9355209d5db066688"), looks := false }, kinds := [], alts := [], laidByText := true, laidKinds := [.data, .data, .data, .pinned], laidTests := true, laidLooks := .later }
def FlatAllCardSaid : Prop := Claim7.holds Tryz.pinned (.plain (OpenSpec.ofChange flatAllSpec)) flatAllCard

/-- THE TIED CARD OF 'troupekeep.FlatFits'. -/
def flatFitsCard : Claim7 := { stood := { row := flatFitsRow, standIns := [], harness := (true, "f56a3844e061e4325c2357f379b7f038603627cf60721af9355209d5db066688"), looks := false }, kinds := [], alts := [], laidByText := true, laidKinds := [.data, .data, .data, .pinned], laidTests := true, laidLooks := .later }
def FlatFitsCardSaid : Prop := Claim7.holds Tryz.pinned (.plain (OpenSpec.ofChange flatFitsSpec)) flatFitsCard

/-- THE TIED CARD OF 'troupekeep.FlatInto'. -/
def flatIntoCard : Claim7 := { stood := { row := flatIntoRow, standIns := [], harness := (true, "f56a3844e061e4325c2357f379b7f038603627cf60721af9355209d5db066688"), looks := false }, kinds := [], alts := [], laidByText := true, laidKinds := [.data, .data, .data, .pinned], laidTests := true, laidLooks := .later }
def FlatIntoCardSaid : Prop := Claim7.holds Tryz.pinned (.plain (OpenSpec.ofChange flatIntoSpec)) flatIntoCard

/-- THE TIED CARD OF 'troupelaw.InstMakes'. -/
def instMakesCard : Claim7 := { stood := { row := instMakesRow, standIns := [], harness := (true, "f56a3844e061e4325c2357f379b7f038603627cf60721af9355209d5db066688"), looks := false }, kinds := [], alts := [], laidByText := true, laidKinds := [.data, .data, .data, .pinned], laidTests := true, laidLooks := .later }
def InstMakesCardSaid : Prop := Claim7.holds Tryz.pinned (.plain (OpenSpec.ofChange instMakesSpec)) instMakesCard

/-- THE TIED CARD OF 'troupelaw.InstFits'. -/
def instFitsCard : Claim7 := { stood := { row := instFitsRow, standIns := [], harness := (true, "f56a3844e061e4325c2357f379b7f038603627cf60721af9355209d5db066688"), looks := false }, kinds := [], alts := [], laidByText := true, laidKinds := [.data, .data, .data, .pinned], laidTests := true, laidLooks := .later }
def InstFitsCardSaid : Prop := Claim7.holds Tryz.pinned (.plain (OpenSpec.ofChange instFitsSpec)) instFitsCard

/-- THE TIED CARD OF 'troupekeep.InstOwn'. -/
def instOwnCard : Claim7 := { stood := { row := instOwnRow, standIns := [], harness := (true, "f56a3844e061e4325c2357f379b7f038603627cf60721af9355209d5db066688"), looks := false }, kinds := [], alts := [], laidByText := true, laidKinds := [.data, .data, .data, .pinned], laidTests := true, laidLooks := .later }
def InstOwnCardSaid : Prop := Claim7.holds Tryz.pinned (.plain (OpenSpec.ofChange instOwnSpec)) instOwnCard

/-- THE TIED CARD OF 'troupekeep.InstLast'. -/
def instLastCard : Claim7 := { stood := { row := instLastRow, standIns := [], harness := (true, "f56a3844e061e4325c2357f379b7f038603627cf60721af9355209d5db066688"), looks := false }, kinds := [], alts := [], laidByText := true, laidKinds := [.data, .data, .data, .pinned], laidTests := true, laidLooks := .later }
def InstLastCardSaid : Prop := Claim7.holds Tryz.pinned (.plain (OpenSpec.ofChange instLastSpec)) instLastCard

/-- THE SECOND FORM's CARD OF 'troupelaw.ValidFuncs'. -/
def validFuncsUptoCard : Claim7 := { stood := { row := validFuncsUptoRow, standIns := [], harness := (true, "f56a3844e061e4325c2357f379b7f038603627cf60721af9355209d5db066688"), looks := false }, kinds := [], alts := [], laidByText := true, laidKinds := [.data, .data, .data, .pinned], laidTests := true, laidLooks := .later }
def ValidFuncsUptoCardSaid : Prop := Claim7.holds Tryz.pinned (.plain (OpenSpec.upto validFuncsSpec)) validFuncsUptoCard

/-- THE SECOND FORM's CARD OF 'troupelaw.ValidModules'. -/
def validModulesUptoCard : Claim7 := { stood := { row := validModulesUptoRow, standIns := [], harness := (true, "f56a3844e061e4325c2357f379b7f038603627cf60721af9355209d5db066688"), looks := false }, kinds := [], alts := [], laidByText := true, laidKinds := [.data, .data, .data, .pinned], laidTests := true, laidLooks := .later }
def ValidModulesUptoCardSaid : Prop := Claim7.holds Tryz.pinned (.plain (OpenSpec.upto validModulesSpec)) validModulesUptoCard

/-- THE SECOND FORM's CARD OF 'troupelaw.ValidShows'. -/
def validShowsUptoCard : Claim7 := { stood := { row := validShowsUptoRow, standIns := [], harness := (true, "f56a3844e061e4325c2357f379b7f038603627cf60721af9355209d5db066688"), looks := false }, kinds := [], alts := [], laidByText := true, laidKinds := [.data, .data, .data, .pinned], laidTests := true, laidLooks := .later }
def ValidShowsUptoCardSaid : Prop := Claim7.holds Tryz.pinned (.plain (OpenSpec.upto validShowsSpec)) validShowsUptoCard

/-- THE SECOND FORM's CARD OF 'troupekeep.ValidSteps'. -/
def validStepsUptoCard : Claim7 := { stood := { row := validStepsUptoRow, standIns := [], harness := (true, "f56a3844e061e4325c2357f379b7f038603627cf60721af9355209d5db066688"), looks := false }, kinds := [], alts := [], laidByText := true, laidKinds := [.data, .data, .data, .pinned], laidTests := true, laidLooks := .later }
def ValidStepsUptoCardSaid : Prop := Claim7.holds Tryz.pinned (.plain (OpenSpec.upto validStepsSpec)) validStepsUptoCard

/-- THE SECOND FORM's CARD OF 'troupelaw.FlatSays'. -/
def flatSaysUptoCard : Claim7 := { stood := { row := flatSaysUptoRow, standIns := [], harness := (true, "f56a3844e061e4325c2357f379b7f038603627cf60721af9355209d5db066688"), looks := false }, kinds := [], alts := [], laidByText := true, laidKinds := [.data, .data, .data, .pinned], laidTests := true, laidLooks := .later }
def FlatSaysUptoCardSaid : Prop := Claim7.holds Tryz.pinned (.plain (OpenSpec.upto flatSaysSpec)) flatSaysUptoCard

/-- THE SECOND FORM's CARD OF 'troupelaw.FlatAll'. -/
def flatAllUptoCard : Claim7 := { stood := { row := flatAllUptoRow, standIns := [], harness := (true, "f56a3844e061e4325c2357f379b7f038603627cf60721af9355209d5db066688"), looks := false }, kinds := [], alts := [], laidByText := true, laidKinds := [.data, .data, .data, .pinned], laidTests := true, laidLooks := .later }
def FlatAllUptoCardSaid : Prop := Claim7.holds Tryz.pinned (.plain (OpenSpec.upto flatAllSpec)) flatAllUptoCard

/-- THE SECOND FORM's CARD OF 'troupekeep.FlatFits'. -/
def flatFitsUptoCard : Claim7 := { stood := { row := flatFitsUptoRow, standIns := [], harness := (true, "f56a3844e061e4325c2357f379b7f038603627cf60721af9355209d5db066688"), looks := false }, kinds := [], alts := [], laidByText := true, laidKinds := [.data, .data, .data, .pinned], laidTests := true, laidLooks := .later }
def FlatFitsUptoCardSaid : Prop := Claim7.holds Tryz.pinned (.plain (OpenSpec.upto flatFitsSpec)) flatFitsUptoCard

/-- THE SECOND FORM's CARD OF 'troupekeep.FlatInto'. -/
def flatIntoUptoCard : Claim7 := { stood := { row := flatIntoUptoRow, standIns := [], harness := (true, "f56a3844e061e4325c2357f379b7f038603627cf60721af9355209d5db066688"), looks := false }, kinds := [], alts := [], laidByText := true, laidKinds := [.data, .data, .data, .pinned], laidTests := true, laidLooks := .later }
def FlatIntoUptoCardSaid : Prop := Claim7.holds Tryz.pinned (.plain (OpenSpec.upto flatIntoSpec)) flatIntoUptoCard

/-- THE SECOND FORM's CARD OF 'troupelaw.InstMakes'. -/
def instMakesUptoCard : Claim7 := { stood := { row := instMakesUptoRow, standIns := [], harness := (true, "f56a3844e061e4325c2357f379b7f038603627cf60721af9355209d5db066688"), looks := false }, kinds := [], alts := [], laidByText := true, laidKinds := [.data, .data, .data, .pinned], laidTests := true, laidLooks := .later }
def InstMakesUptoCardSaid : Prop := Claim7.holds Tryz.pinned (.plain (OpenSpec.upto instMakesSpec)) instMakesUptoCard

/-- THE SECOND FORM's CARD OF 'troupelaw.InstFits'. -/
def instFitsUptoCard : Claim7 := { stood := { row := instFitsUptoRow, standIns := [], harness := (true, "f56a3844e061e4325c2357f379b7f038603627cf60721af9355209d5db066688"), looks := false }, kinds := [], alts := [], laidByText := true, laidKinds := [.data, .data, .data, .pinned], laidTests := true, laidLooks := .later }
def InstFitsUptoCardSaid : Prop := Claim7.holds Tryz.pinned (.plain (OpenSpec.upto instFitsSpec)) instFitsUptoCard

/-- THE SECOND FORM's CARD OF 'troupekeep.InstOwn'. -/
def instOwnUptoCard : Claim7 := { stood := { row := instOwnUptoRow, standIns := [], harness := (true, "f56a3844e061e4325c2357f379b7f038603627cf60721af9355209d5db066688"), looks := false }, kinds := [], alts := [], laidByText := true, laidKinds := [.data, .data, .data, .pinned], laidTests := true, laidLooks := .later }
def InstOwnUptoCardSaid : Prop := Claim7.holds Tryz.pinned (.plain (OpenSpec.upto instOwnSpec)) instOwnUptoCard

/-- THE SECOND FORM's CARD OF 'troupekeep.InstLast'. -/
def instLastUptoCard : Claim7 := { stood := { row := instLastUptoRow, standIns := [], harness := (true, "f56a3844e061e4325c2357f379b7f038603627cf60721af9355209d5db066688"), looks := false }, kinds := [], alts := [], laidByText := true, laidKinds := [.data, .data, .data, .pinned], laidTests := true, laidLooks := .later }
def InstLastUptoCardSaid : Prop := Claim7.holds Tryz.pinned (.plain (OpenSpec.upto instLastSpec)) instLastUptoCard
end Rows
end Go.Proofs.YtoikoijpkchamaaGreatDoor
