/-
  DERIVED. GIVEN WITH THE SEED: THE CARDS: each row of YtlbilmgpnpghlabDoorRows.lean that lists a variable, with what it lists TIED to the program's text (the seventh form; the later family's looks); each row that meets fmt, with fmt's text TOLD by the authors' own Lean function (tested against real Go, not proved from fmt's source: count such statements apart). THE CARD IS WHAT COUNTS. Prove the row's statement (the work); the ties are given (YtlbilmgpnpghlabDoorTie.lean); close each card by the builder's one call (the guide's Derived/Test/ToyasCard.lean, 'card_holds'). Laid BY PROGRAM, IN A SANDBOX (cutbox-door.mjs). By AI agents, Wed Nov 11 2026. No macro, syntax, notation, axiom, sorry.
-/
import Derived.Test.YtlbilmgpnpghlabDoorRows
import GoSem.ClaimSeven
namespace Go.Proofs.YtlbilmgpnpghlabDoor
namespace Rows

/-- THE TIED CARD OF 'troupekeep.NumCounts'. -/
def numCountsCard : Claim7 := { stood := { row := numCountsRow, standIns := [], harness := (true, "ecd43b9ed08a6aa2d8344d86fad079464cdb4faed3d8f755da31fded7e26cc53"), looks := false }, kinds := [], alts := [], laidByText := true, laidKinds := [.data], laidTests := true, laidLooks := .later }
def NumCountsCardSaid : Prop := Claim7.holds Tryd.pinned (.plain (OpenSpec.ofChange numCountsSpec)) numCountsCard

/-- THE TIED CARD OF 'troupekeep.NumNarrow'. -/
def numNarrowCard : Claim7 := { stood := { row := numNarrowRow, standIns := [], harness := (true, "ecd43b9ed08a6aa2d8344d86fad079464cdb4faed3d8f755da31fded7e26cc53"), looks := false }, kinds := [], alts := [], laidByText := true, laidKinds := [.data], laidTests := true, laidLooks := .later }
def NumNarrowCardSaid : Prop := Claim7.holds Tryd.pinned (.plain (OpenSpec.ofChange numNarrowSpec)) numNarrowCard

/-- THE SECOND FORM's CARD OF 'troupekeep.NumCounts'. -/
def numCountsUptoCard : Claim7 := { stood := { row := numCountsUptoRow, standIns := [], harness := (true, "ecd43b9ed08a6aa2d8344d86fad079464cdb4faed3d8f755da31fded7e26cc53"), looks := false }, kinds := [], alts := [], laidByText := true, laidKinds := [.data], laidTests := true, laidLooks := .later }
def NumCountsUptoCardSaid : Prop := Claim7.holds Tryd.pinned (.plain (OpenSpec.upto numCountsSpec)) numCountsUptoCard

/-- THE SECOND FORM's CARD OF 'troupekeep.NumNarrow'. -/
def numNarrowUptoCard : Claim7 := { stood := { row := numNarrowUptoRow, standIns := [], harness := (true, "ecd43b9ed08a6aa2d8344d86fad079464cdb4faed3d8f755da31fded7e26cc53"), looks := false }, kinds := [], alts := [], laidByText := true, laidKinds := [.data], laidTests := true, laidLooks := .later }
def NumNarrowUptoCardSaid : Prop := Claim7.holds Tryd.pinned (.plain (OpenSpec.upto numNarrowSpec)) numNarrowUptoCard
end Rows
end Go.Proofs.YtlbilmgpnpghlabDoor
