/-
  DERIVED. GIVEN WITH THE SEED: THE CARDS: each row of YtlfihndbnaaodaaGreatDoorRows.lean that lists a variable, with what it lists TIED to the program's text (the seventh form; the later family's looks); each row that meets fmt, with fmt's text TOLD by the authors' own Lean function (tested against real Go, not proved from fmt's source: count such statements apart). THE CARD IS WHAT COUNTS. Prove the row's statement (the work); the ties are given (YtlfihndbnaaodaaGreatDoorTie.lean); close each card by the builder's one call (the guide's Derived/Test/ToyasCard.lean, 'card_holds'). Laid BY PROGRAM, IN A SANDBOX (cutbox-door.mjs). By AI agents, Wed Nov 11 2026. No macro, syntax, notation, axiom, sorry.
-/
import Derived.Test.YtlfihndbnaaodaaGreatDoorRows
import GoSem.ClaimSeven
namespace Go.Proofs.YtlfihndbnaaodaaGreatDoor
namespace Rows

/-- THE TIED CARD OF 'troupelaw.ValidFuncs'. -/
def validFuncsCard : Claim7 := { stood := { row := validFuncsRow, standIns := [], harness := (true, "1c0a3dd98211dc25ee75ea1919464f0578621c042c3b2880b2dfcb89cf71a1ef"), looks := false }, kinds := [], alts := [], laidByText := true, laidKinds := [.data, .data, .data, .pinned], laidTests := true, laidLooks := .later }
def ValidFuncsCardSaid : Prop := Claim7.holds Tryz.pinned (.plain (OpenSpec.ofChange validFuncsSpec)) validFuncsCard

/-- THE TIED CARD OF 'troupelaw.ValidModules'. -/
def validModulesCard : Claim7 := { stood := { row := validModulesRow, standIns := [], harness := (true, "1c0a3dd98211dc25ee75ea1919464f0578621c042c3b2880b2dfcb89cf71a1ef"), looks := false }, kinds := [], alts := [], laidByText := true, laidKinds := [.data, .data, .data, .pinned], laidTests := true, laidLooks := .later }
def ValidModulesCardSaid : Prop := Claim7.holds Tryz.pinned (.plain (OpenSpec.ofChange validModulesSpec)) validModulesCard

/-- THE TIED CARD OF 'troupelaw.ValidShows'. -/
def validShowsCard : Claim7 := { stood := { row := validShowsRow, standIns := [], harness := (true, "1c0a3dd98211dc25ee75ea1919464f0578621c042c3b2880b2dfcb89cf71a1ef"), looks := false }, kinds := [], alts := [], laidByText := true, laidKinds := [.data, .data, .data, .pinned], laidTests := true, laidLooks := .later }
def ValidShowsCardSaid : Prop := Claim7.holds Tryz.pinned (.plain (OpenSpec.ofChange validShowsSpec)) validShowsCard

/-- THE TIED CARD OF 'troupekeep.FlatFits'. -/
def flatFitsCard : Claim7 := { stood := { row := flatFitsRow, standIns := [], harness := (true, "1c0a3dd98211dc25ee75ea1919464f0578621c042c3b2880b2dfcb89cf71a1ef"), looks := false }, kinds := [], alts := [], laidByText := true, laidKinds := [.data, .data, .data, .pinned], laidTests := true, laidLooks := .later }
def FlatFitsCardSaid : Prop := Claim7.holds Tryz.pinned (.plain (OpenSpec.ofChange flatFitsSpec)) flatFitsCard

/-- THE TIED CARD OF 'troupekeep.FlatInto'. -/
def flatIntoCard : Claim7 := { stood := { row := flatIntoRow, standIns := [], harness := (true, "1c0a3dd98211dc25ee75ea1919464f0578621c042c3b2880b2dfcb89cf71a1ef"), looks := false }, kinds := [], alts := [], laidByText := true, laidKinds := [.data, .data, .data, .pinned], laidTests := true, laidLooks := .later }
def FlatIntoCardSaid : Prop := Claim7.holds Tryz.pinned (.plain (OpenSpec.ofChange flatIntoSpec)) flatIntoCard

/-- THE SECOND FORM's CARD OF 'troupelaw.ValidFuncs'. -/
def validFuncsUptoCard : Claim7 := { stood := { row := validFuncsUptoRow, standIns := [], harness := (true, "1c0a3dd98211dc25ee75ea1919464f0578621c042c3b2880b2dfcb89cf71a1ef"), looks := false }, kinds := [], alts := [], laidByText := true, laidKinds := [.data, .data, .data, .pinned], laidTests := true, laidLooks := .later }
def ValidFuncsUptoCardSaid : Prop := Claim7.holds Tryz.pinned (.plain (OpenSpec.upto validFuncsSpec)) validFuncsUptoCard

/-- THE SECOND FORM's CARD OF 'troupelaw.ValidModules'. -/
def validModulesUptoCard : Claim7 := { stood := { row := validModulesUptoRow, standIns := [], harness := (true, "1c0a3dd98211dc25ee75ea1919464f0578621c042c3b2880b2dfcb89cf71a1ef"), looks := false }, kinds := [], alts := [], laidByText := true, laidKinds := [.data, .data, .data, .pinned], laidTests := true, laidLooks := .later }
def ValidModulesUptoCardSaid : Prop := Claim7.holds Tryz.pinned (.plain (OpenSpec.upto validModulesSpec)) validModulesUptoCard

/-- THE SECOND FORM's CARD OF 'troupelaw.ValidShows'. -/
def validShowsUptoCard : Claim7 := { stood := { row := validShowsUptoRow, standIns := [], harness := (true, "1c0a3dd98211dc25ee75ea1919464f0578621c042c3b2880b2dfcb89cf71a1ef"), looks := false }, kinds := [], alts := [], laidByText := true, laidKinds := [.data, .data, .data, .pinned], laidTests := true, laidLooks := .later }
def ValidShowsUptoCardSaid : Prop := Claim7.holds Tryz.pinned (.plain (OpenSpec.upto validShowsSpec)) validShowsUptoCard

/-- THE SECOND FORM's CARD OF 'troupekeep.FlatFits'. -/
def flatFitsUptoCard : Claim7 := { stood := { row := flatFitsUptoRow, standIns := [], harness := (true, "1c0a3dd98211dc25ee75ea1919464f0578621c042c3b2880b2dfcb89cf71a1ef"), looks := false }, kinds := [], alts := [], laidByText := true, laidKinds := [.data, .data, .data, .pinned], laidTests := true, laidLooks := .later }
def FlatFitsUptoCardSaid : Prop := Claim7.holds Tryz.pinned (.plain (OpenSpec.upto flatFitsSpec)) flatFitsUptoCard

/-- THE SECOND FORM's CARD OF 'troupekeep.FlatInto'. -/
def flatIntoUptoCard : Claim7 := { stood := { row := flatIntoUptoRow, standIns := [], harness := (true, "1c0a3dd98211dc25ee75ea1919464f0578621c042c3b2880b2dfcb89cf71a1ef"), looks := false }, kinds := [], alts := [], laidByText := true, laidKinds := [.data, .data, .data, .pinned], laidTests := true, laidLooks := .later }
def FlatIntoUptoCardSaid : Prop := Claim7.holds Tryz.pinned (.plain (OpenSpec.upto flatIntoSpec)) flatIntoUptoCard
end Rows
end Go.Proofs.YtlfihndbnaaodaaGreatDoor
