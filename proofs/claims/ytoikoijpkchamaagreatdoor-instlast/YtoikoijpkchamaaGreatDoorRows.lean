/-
  NARROWER THAN 'FOR EVERY INPUT', by the rows' own cells (each row's printed sentence says how): ValidFuncs: laid · ValidModules: laid · ValidShows: laid · ValidSteps: laid · FlatSays: laid · FlatAll: laid · FlatFits: laid · FlatInto: laid · InstMakes: laid · InstFits: laid · InstOwn: laid · InstLast: laid.
  DERIVED. THE GIVEN ROWS OF THIS SEAT. 12 by the template 'for every input the law returns true; each argument reads behind the call as it read before'; 0 by the template 'total and deterministic' (their statements: YtoikoijpkchamaaGreatDoorTotals.lean).
  GIVEN WITH THE SEED: the statements are not yours to turn. If you find one false, say at which input.
  Laid BY PROGRAM, IN A SANDBOX (cutbox-rows.mjs): the forced cells as the released guide's own fill.sh prints them over the translation 99046dd8c3775a3f… (all of the seat's roots in one cut). By AI agents, Wed Nov 11 2026. No macro, syntax, notation, axiom, sorry.
-/
import Derived.Test.YtoikoijpkchamaaGreatDoorChecked
import GoSem.PinnedTables
import GoSem.Claim
import GoSem.ClaimJoined
import GoSem.ClaimMapViews
import Derived.JoinedTies
import Derived.KernelRfl
namespace Go.Proofs.YtoikoijpkchamaaGreatDoor
/- THE CELL 'sum', in the pinned program and in every row, IS THE sha256 OF THE DUMP (.gsa) THAT YtoikoijpkchamaaGreatDoorProg.lean LOADS. Nothing in Lean hashes anything: it is a label: what it is worth is what the hold of that sum in a sandbox is worth. -/
noncomputable def Tryz.pinned : Pinned := { name := "ytoikoijpkchamaagreatdoor", sum := "99046dd8c3775a3f7af13c28d05ac18a1ae00832748a6d0fdfd8ec0fa67c6686", checked := Tryz.checked }
namespace Rows
def none {H : Type} : Left H := { results := [], args := [] }

/- WHAT THE LISTED PACKAGE-LEVEL VARIABLES READ AS WHEN THE CALL BEGINS. Each datum BY PROGRAM (the guide's laid-datum.mjs) off the statement by which the dump's own 'gosem.cut.vars' lays the variable. In a bare row this is a premise. The card (YtoikoijpkchamaaGreatDoorCards.lean) ties it to the program's text. -/
def laid_math_bits_deBruijn32tab {H : Type} : DataW H := .agg [.lit (.int .u8 0), .lit (.int .u8 1), .lit (.int .u8 28), .lit (.int .u8 2), .lit (.int .u8 29), .lit (.int .u8 14), .lit (.int .u8 24), .lit (.int .u8 3), .lit (.int .u8 30), .lit (.int .u8 22), .lit (.int .u8 20), .lit (.int .u8 15), .lit (.int .u8 25), .lit (.int .u8 17), .lit (.int .u8 4), .lit (.int .u8 8), .lit (.int .u8 31), .lit (.int .u8 27), .lit (.int .u8 13), .lit (.int .u8 23), .lit (.int .u8 21), .lit (.int .u8 19), .lit (.int .u8 16), .lit (.int .u8 7), .lit (.int .u8 26), .lit (.int .u8 12), .lit (.int .u8 18), .lit (.int .u8 6), .lit (.int .u8 11), .lit (.int .u8 5), .lit (.int .u8 10), .lit (.int .u8 9)]
def laid_math_bits_deBruijn64tab {H : Type} : DataW H := .agg [.lit (.int .u8 0), .lit (.int .u8 1), .lit (.int .u8 56), .lit (.int .u8 2), .lit (.int .u8 57), .lit (.int .u8 49), .lit (.int .u8 28), .lit (.int .u8 3), .lit (.int .u8 61), .lit (.int .u8 58), .lit (.int .u8 42), .lit (.int .u8 50), .lit (.int .u8 38), .lit (.int .u8 29), .lit (.int .u8 17), .lit (.int .u8 4), .lit (.int .u8 62), .lit (.int .u8 47), .lit (.int .u8 59), .lit (.int .u8 36), .lit (.int .u8 45), .lit (.int .u8 43), .lit (.int .u8 51), .lit (.int .u8 22), .lit (.int .u8 53), .lit (.int .u8 39), .lit (.int .u8 33), .lit (.int .u8 30), .lit (.int .u8 24), .lit (.int .u8 18), .lit (.int .u8 12), .lit (.int .u8 5), .lit (.int .u8 63), .lit (.int .u8 55), .lit (.int .u8 48), .lit (.int .u8 27), .lit (.int .u8 60), .lit (.int .u8 41), .lit (.int .u8 37), .lit (.int .u8 16), .lit (.int .u8 46), .lit (.int .u8 35), .lit (.int .u8 44), .lit (.int .u8 21), .lit (.int .u8 52), .lit (.int .u8 32), .lit (.int .u8 23), .lit (.int .u8 11), .lit (.int .u8 54), .lit (.int .u8 26), .lit (.int .u8 40), .lit (.int .u8 15), .lit (.int .u8 34), .lit (.int .u8 20), .lit (.int .u8 31), .lit (.int .u8 10), .lit (.int .u8 25), .lit (.int .u8 14), .lit (.int .u8 19), .lit (.int .u8 9), .lit (.int .u8 13), .lit (.int .u8 8), .lit (.int .u8 7), .lit (.int .u8 6)]
def laid_unicode_utf8_acceptRanges {H : Type} : DataW H := .agg [.agg [.lit (.int .u8 128), .lit (.int .u8 191)], .agg [.lit (.int .u8 160), .lit (.int .u8 191)], .agg [.lit (.int .u8 128), .lit (.int .u8 159)], .agg [.lit (.int .u8 144), .lit (.int .u8 191)], .agg [.lit (.int .u8 128), .lit (.int .u8 143)], .agg [.lit (.int .u8 0), .lit (.int .u8 0)], .agg [.lit (.int .u8 0), .lit (.int .u8 0)], .agg [.lit (.int .u8 0), .lit (.int .u8 0)], .agg [.lit (.int .u8 0), .lit (.int .u8 0)], .agg [.lit (.int .u8 0), .lit (.int .u8 0)], .agg [.lit (.int .u8 0), .lit (.int .u8 0)], .agg [.lit (.int .u8 0), .lit (.int .u8 0)], .agg [.lit (.int .u8 0), .lit (.int .u8 0)], .agg [.lit (.int .u8 0), .lit (.int .u8 0)], .agg [.lit (.int .u8 0), .lit (.int .u8 0)], .agg [.lit (.int .u8 0), .lit (.int .u8 0)]]
/-- One of Go's own tables, pinned by name: the form's constant. -/
def laid_unicode_utf8_first : DataW Unit := Go.Pinned.utf8First

/-- 'troupelaw.ValidFuncs': WHATEVER THE INPUT: true; the input reads as it did. -/
def validFuncsSpec : ChangeSpec := { name := "validFuncs", fn := fun _ => fun
  | [d1, d2] => { results := [.lit (.bool true)], args := [d1, d2] }
  | _ => none }
def validFuncsRow : OpenClaim := { program := "ytoikoijpkchamaagreatdoor", sum := "99046dd8c3775a3f7af13c28d05ac18a1ae00832748a6d0fdfd8ec0fa67c6686", func := "troupe/troupelaw.ValidFuncs", spec := "validFuncs", inPlace := ["internal/bytealg.IndexByteString", "internal/bytealg.IndexString"], unfollowed := true, recurses := true, named := ["unicode/utf8.first", "unicode/utf8.acceptRanges", "math/bits.deBruijn64tab", "math/bits.deBruijn32tab", "internal/bytealg.MaxLen"], apart := false, laid := [("math/bits.deBruijn32tab", laid_math_bits_deBruijn32tab), ("math/bits.deBruijn64tab", laid_math_bits_deBruijn64tab), ("unicode/utf8.acceptRanges", laid_unicode_utf8_acceptRanges), ("unicode/utf8.first", laid_unicode_utf8_first)] }
def ValidFuncsSaid : Prop := validFuncsRow.holds Tryz.pinned (OpenSpec.ofChange validFuncsSpec)

/-- ITS FALSE NEIGHBOUR: 'it returns false'. Refute it at one input. -/
def validFuncsWrong : ChangeSpec := { name := "validFuncs", fn := fun _ => fun
  | [d1, d2] => { results := [.lit (.bool false)], args := [d1, d2] }
  | _ => none }
def ValidFuncsWrongFalsely : Prop := validFuncsRow.holds Tryz.pinned (OpenSpec.ofChange validFuncsWrong)

/-- 'troupelaw.ValidModules': WHATEVER THE INPUT: true; the input reads as it did. -/
def validModulesSpec : ChangeSpec := { name := "validModules", fn := fun _ => fun
  | [d] => { results := [.lit (.bool true)], args := [d] }
  | _ => none }
def validModulesRow : OpenClaim := { program := "ytoikoijpkchamaagreatdoor", sum := "99046dd8c3775a3f7af13c28d05ac18a1ae00832748a6d0fdfd8ec0fa67c6686", func := "troupe/troupelaw.ValidModules", spec := "validModules", inPlace := ["internal/bytealg.IndexByteString", "internal/bytealg.IndexString"], unfollowed := true, recurses := true, named := ["unicode/utf8.first", "unicode/utf8.acceptRanges", "math/bits.deBruijn64tab", "math/bits.deBruijn32tab", "internal/bytealg.MaxLen"], apart := false, laid := [("math/bits.deBruijn32tab", laid_math_bits_deBruijn32tab), ("math/bits.deBruijn64tab", laid_math_bits_deBruijn64tab), ("unicode/utf8.acceptRanges", laid_unicode_utf8_acceptRanges), ("unicode/utf8.first", laid_unicode_utf8_first)] }
def ValidModulesSaid : Prop := validModulesRow.holds Tryz.pinned (OpenSpec.ofChange validModulesSpec)

/-- ITS FALSE NEIGHBOUR: 'it returns false'. Refute it at one input. -/
def validModulesWrong : ChangeSpec := { name := "validModules", fn := fun _ => fun
  | [d] => { results := [.lit (.bool false)], args := [d] }
  | _ => none }
def ValidModulesWrongFalsely : Prop := validModulesRow.holds Tryz.pinned (OpenSpec.ofChange validModulesWrong)

/-- 'troupelaw.ValidShows': WHATEVER THE INPUT: true; the input reads as it did. -/
def validShowsSpec : ChangeSpec := { name := "validShows", fn := fun _ => fun
  | [d1, d2] => { results := [.lit (.bool true)], args := [d1, d2] }
  | _ => none }
def validShowsRow : OpenClaim := { program := "ytoikoijpkchamaagreatdoor", sum := "99046dd8c3775a3f7af13c28d05ac18a1ae00832748a6d0fdfd8ec0fa67c6686", func := "troupe/troupelaw.ValidShows", spec := "validShows", inPlace := ["internal/bytealg.IndexByteString", "internal/bytealg.IndexString"], unfollowed := true, recurses := true, named := ["unicode/utf8.first", "unicode/utf8.acceptRanges", "math/bits.deBruijn64tab", "math/bits.deBruijn32tab", "internal/bytealg.MaxLen"], apart := false, laid := [("math/bits.deBruijn32tab", laid_math_bits_deBruijn32tab), ("math/bits.deBruijn64tab", laid_math_bits_deBruijn64tab), ("unicode/utf8.acceptRanges", laid_unicode_utf8_acceptRanges), ("unicode/utf8.first", laid_unicode_utf8_first)] }
def ValidShowsSaid : Prop := validShowsRow.holds Tryz.pinned (OpenSpec.ofChange validShowsSpec)

/-- ITS FALSE NEIGHBOUR: 'it returns false'. Refute it at one input. -/
def validShowsWrong : ChangeSpec := { name := "validShows", fn := fun _ => fun
  | [d1, d2] => { results := [.lit (.bool false)], args := [d1, d2] }
  | _ => none }
def ValidShowsWrongFalsely : Prop := validShowsRow.holds Tryz.pinned (OpenSpec.ofChange validShowsWrong)

/-- 'troupekeep.ValidSteps': WHATEVER THE INPUT: true; the input reads as it did. -/
def validStepsSpec : ChangeSpec := { name := "validSteps", fn := fun _ => fun
  | [d1, d2, d3] => { results := [.lit (.bool true)], args := [d1, d2, d3] }
  | _ => none }
def validStepsRow : OpenClaim := { program := "ytoikoijpkchamaagreatdoor", sum := "99046dd8c3775a3f7af13c28d05ac18a1ae00832748a6d0fdfd8ec0fa67c6686", func := "troupe/troupekeep.ValidSteps", spec := "validSteps", inPlace := ["internal/bytealg.IndexByteString", "internal/bytealg.IndexString"], unfollowed := true, recurses := true, named := ["unicode/utf8.first", "unicode/utf8.acceptRanges", "math/bits.deBruijn64tab", "math/bits.deBruijn32tab", "internal/bytealg.MaxLen"], apart := false, laid := [("math/bits.deBruijn32tab", laid_math_bits_deBruijn32tab), ("math/bits.deBruijn64tab", laid_math_bits_deBruijn64tab), ("unicode/utf8.acceptRanges", laid_unicode_utf8_acceptRanges), ("unicode/utf8.first", laid_unicode_utf8_first)] }
def ValidStepsSaid : Prop := validStepsRow.holds Tryz.pinned (OpenSpec.ofChange validStepsSpec)

/-- ITS FALSE NEIGHBOUR: 'it returns false'. Refute it at one input. -/
def validStepsWrong : ChangeSpec := { name := "validSteps", fn := fun _ => fun
  | [d1, d2, d3] => { results := [.lit (.bool false)], args := [d1, d2, d3] }
  | _ => none }
def ValidStepsWrongFalsely : Prop := validStepsRow.holds Tryz.pinned (OpenSpec.ofChange validStepsWrong)

/-- 'troupelaw.FlatSays': WHATEVER THE INPUT: true; the input reads as it did. -/
def flatSaysSpec : ChangeSpec := { name := "flatSays", fn := fun _ => fun
  | [d1, d2] => { results := [.lit (.bool true)], args := [d1, d2] }
  | _ => none }
def flatSaysRow : OpenClaim := { program := "ytoikoijpkchamaagreatdoor", sum := "99046dd8c3775a3f7af13c28d05ac18a1ae00832748a6d0fdfd8ec0fa67c6686", func := "troupe/troupelaw.FlatSays", spec := "flatSays", inPlace := ["internal/bytealg.IndexByteString", "internal/bytealg.IndexString"], unfollowed := true, recurses := true, named := ["unicode/utf8.first", "unicode/utf8.acceptRanges", "math/bits.deBruijn64tab", "math/bits.deBruijn32tab", "internal/bytealg.MaxLen"], apart := false, laid := [("math/bits.deBruijn32tab", laid_math_bits_deBruijn32tab), ("math/bits.deBruijn64tab", laid_math_bits_deBruijn64tab), ("unicode/utf8.acceptRanges", laid_unicode_utf8_acceptRanges), ("unicode/utf8.first", laid_unicode_utf8_first)] }
def FlatSaysSaid : Prop := flatSaysRow.holds Tryz.pinned (OpenSpec.ofChange flatSaysSpec)

/-- ITS FALSE NEIGHBOUR: 'it returns false'. Refute it at one input. -/
def flatSaysWrong : ChangeSpec := { name := "flatSays", fn := fun _ => fun
  | [d1, d2] => { results := [.lit (.bool false)], args := [d1, d2] }
  | _ => none }
def FlatSaysWrongFalsely : Prop := flatSaysRow.holds Tryz.pinned (OpenSpec.ofChange flatSaysWrong)

/-- 'troupelaw.FlatAll': WHATEVER THE INPUT: true; the input reads as it did. -/
def flatAllSpec : ChangeSpec := { name := "flatAll", fn := fun _ => fun
  | [d] => { results := [.lit (.bool true)], args := [d] }
  | _ => none }
def flatAllRow : OpenClaim := { program := "ytoikoijpkchamaagreatdoor", sum := "99046dd8c3775a3f7af13c28d05ac18a1ae00832748a6d0fdfd8ec0fa67c6686", func := "troupe/troupelaw.FlatAll", spec := "flatAll", inPlace := ["internal/bytealg.IndexByteString", "internal/bytealg.IndexString"], unfollowed := true, recurses := true, named := ["unicode/utf8.first", "unicode/utf8.acceptRanges", "math/bits.deBruijn64tab", "math/bits.deBruijn32tab", "internal/bytealg.MaxLen"], apart := false, laid := [("math/bits.deBruijn32tab", laid_math_bits_deBruijn32tab), ("math/bits.deBruijn64tab", laid_math_bits_deBruijn64tab), ("unicode/utf8.acceptRanges", laid_unicode_utf8_acceptRanges), ("unicode/utf8.first", laid_unicode_utf8_first)] }
def FlatAllSaid : Prop := flatAllRow.holds Tryz.pinned (OpenSpec.ofChange flatAllSpec)

/-- ITS FALSE NEIGHBOUR: 'it returns false'. Refute it at one input. -/
def flatAllWrong : ChangeSpec := { name := "flatAll", fn := fun _ => fun
  | [d] => { results := [.lit (.bool false)], args := [d] }
  | _ => none }
def FlatAllWrongFalsely : Prop := flatAllRow.holds Tryz.pinned (OpenSpec.ofChange flatAllWrong)

/-- 'troupekeep.FlatFits': WHATEVER THE INPUT: true; the input reads as it did. -/
def flatFitsSpec : ChangeSpec := { name := "flatFits", fn := fun _ => fun
  | [d1, d2, d3] => { results := [.lit (.bool true)], args := [d1, d2, d3] }
  | _ => none }
def flatFitsRow : OpenClaim := { program := "ytoikoijpkchamaagreatdoor", sum := "99046dd8c3775a3f7af13c28d05ac18a1ae00832748a6d0fdfd8ec0fa67c6686", func := "troupe/troupekeep.FlatFits", spec := "flatFits", unfollowed := true, recurses := true, named := ["unicode/utf8.first", "unicode/utf8.acceptRanges", "math/bits.deBruijn64tab", "math/bits.deBruijn32tab"], apart := false, laid := [("math/bits.deBruijn32tab", laid_math_bits_deBruijn32tab), ("math/bits.deBruijn64tab", laid_math_bits_deBruijn64tab), ("unicode/utf8.acceptRanges", laid_unicode_utf8_acceptRanges), ("unicode/utf8.first", laid_unicode_utf8_first)] }
def FlatFitsSaid : Prop := flatFitsRow.holds Tryz.pinned (OpenSpec.ofChange flatFitsSpec)

/-- ITS FALSE NEIGHBOUR: 'it returns false'. Refute it at one input. -/
def flatFitsWrong : ChangeSpec := { name := "flatFits", fn := fun _ => fun
  | [d1, d2, d3] => { results := [.lit (.bool false)], args := [d1, d2, d3] }
  | _ => none }
def FlatFitsWrongFalsely : Prop := flatFitsRow.holds Tryz.pinned (OpenSpec.ofChange flatFitsWrong)

/-- 'troupekeep.FlatInto': WHATEVER THE INPUT: true; the input reads as it did. -/
def flatIntoSpec : ChangeSpec := { name := "flatInto", fn := fun _ => fun
  | [d1, d2, d3] => { results := [.lit (.bool true)], args := [d1, d2, d3] }
  | _ => none }
def flatIntoRow : OpenClaim := { program := "ytoikoijpkchamaagreatdoor", sum := "99046dd8c3775a3f7af13c28d05ac18a1ae00832748a6d0fdfd8ec0fa67c6686", func := "troupe/troupekeep.FlatInto", spec := "flatInto", inPlace := ["internal/bytealg.IndexByteString", "internal/bytealg.IndexString"], unfollowed := true, recurses := true, named := ["unicode/utf8.first", "unicode/utf8.acceptRanges", "math/bits.deBruijn64tab", "math/bits.deBruijn32tab", "internal/bytealg.MaxLen"], apart := false, laid := [("math/bits.deBruijn32tab", laid_math_bits_deBruijn32tab), ("math/bits.deBruijn64tab", laid_math_bits_deBruijn64tab), ("unicode/utf8.acceptRanges", laid_unicode_utf8_acceptRanges), ("unicode/utf8.first", laid_unicode_utf8_first)] }
def FlatIntoSaid : Prop := flatIntoRow.holds Tryz.pinned (OpenSpec.ofChange flatIntoSpec)

/-- ITS FALSE NEIGHBOUR: 'it returns false'. Refute it at one input. -/
def flatIntoWrong : ChangeSpec := { name := "flatInto", fn := fun _ => fun
  | [d1, d2, d3] => { results := [.lit (.bool false)], args := [d1, d2, d3] }
  | _ => none }
def FlatIntoWrongFalsely : Prop := flatIntoRow.holds Tryz.pinned (OpenSpec.ofChange flatIntoWrong)

/-- 'troupelaw.InstMakes': WHATEVER THE INPUT: true; the input reads as it did. -/
def instMakesSpec : ChangeSpec := { name := "instMakes", fn := fun _ => fun
  | [d] => { results := [.lit (.bool true)], args := [d] }
  | _ => none }
def instMakesRow : OpenClaim := { program := "ytoikoijpkchamaagreatdoor", sum := "99046dd8c3775a3f7af13c28d05ac18a1ae00832748a6d0fdfd8ec0fa67c6686", func := "troupe/troupelaw.InstMakes", spec := "instMakes", inPlace := ["internal/bytealg.IndexByteString", "internal/bytealg.IndexString"], unfollowed := true, recurses := true, named := ["unicode/utf8.first", "unicode/utf8.acceptRanges", "math/bits.deBruijn64tab", "math/bits.deBruijn32tab", "internal/bytealg.MaxLen"], apart := false, laid := [("math/bits.deBruijn32tab", laid_math_bits_deBruijn32tab), ("math/bits.deBruijn64tab", laid_math_bits_deBruijn64tab), ("unicode/utf8.acceptRanges", laid_unicode_utf8_acceptRanges), ("unicode/utf8.first", laid_unicode_utf8_first)] }
def InstMakesSaid : Prop := instMakesRow.holds Tryz.pinned (OpenSpec.ofChange instMakesSpec)

/-- ITS FALSE NEIGHBOUR: 'it returns false'. Refute it at one input. -/
def instMakesWrong : ChangeSpec := { name := "instMakes", fn := fun _ => fun
  | [d] => { results := [.lit (.bool false)], args := [d] }
  | _ => none }
def InstMakesWrongFalsely : Prop := instMakesRow.holds Tryz.pinned (OpenSpec.ofChange instMakesWrong)

/-- 'troupelaw.InstFits': WHATEVER THE INPUT: true; the input reads as it did. -/
def instFitsSpec : ChangeSpec := { name := "instFits", fn := fun _ => fun
  | [d1, d2] => { results := [.lit (.bool true)], args := [d1, d2] }
  | _ => none }
def instFitsRow : OpenClaim := { program := "ytoikoijpkchamaagreatdoor", sum := "99046dd8c3775a3f7af13c28d05ac18a1ae00832748a6d0fdfd8ec0fa67c6686", func := "troupe/troupelaw.InstFits", spec := "instFits", inPlace := ["internal/bytealg.IndexByteString", "internal/bytealg.IndexString"], unfollowed := true, recurses := true, named := ["unicode/utf8.first", "unicode/utf8.acceptRanges", "math/bits.deBruijn64tab", "math/bits.deBruijn32tab", "internal/bytealg.MaxLen"], apart := false, laid := [("math/bits.deBruijn32tab", laid_math_bits_deBruijn32tab), ("math/bits.deBruijn64tab", laid_math_bits_deBruijn64tab), ("unicode/utf8.acceptRanges", laid_unicode_utf8_acceptRanges), ("unicode/utf8.first", laid_unicode_utf8_first)] }
def InstFitsSaid : Prop := instFitsRow.holds Tryz.pinned (OpenSpec.ofChange instFitsSpec)

/-- ITS FALSE NEIGHBOUR: 'it returns false'. Refute it at one input. -/
def instFitsWrong : ChangeSpec := { name := "instFits", fn := fun _ => fun
  | [d1, d2] => { results := [.lit (.bool false)], args := [d1, d2] }
  | _ => none }
def InstFitsWrongFalsely : Prop := instFitsRow.holds Tryz.pinned (OpenSpec.ofChange instFitsWrong)

/-- 'troupekeep.InstOwn': WHATEVER THE INPUT: true; the input reads as it did. -/
def instOwnSpec : ChangeSpec := { name := "instOwn", fn := fun _ => fun
  | [d1, d2] => { results := [.lit (.bool true)], args := [d1, d2] }
  | _ => none }
def instOwnRow : OpenClaim := { program := "ytoikoijpkchamaagreatdoor", sum := "99046dd8c3775a3f7af13c28d05ac18a1ae00832748a6d0fdfd8ec0fa67c6686", func := "troupe/troupekeep.InstOwn", spec := "instOwn", unfollowed := true, recurses := true, named := ["unicode/utf8.first", "unicode/utf8.acceptRanges", "math/bits.deBruijn64tab", "math/bits.deBruijn32tab"], apart := false, laid := [("math/bits.deBruijn32tab", laid_math_bits_deBruijn32tab), ("math/bits.deBruijn64tab", laid_math_bits_deBruijn64tab), ("unicode/utf8.acceptRanges", laid_unicode_utf8_acceptRanges), ("unicode/utf8.first", laid_unicode_utf8_first)] }
def InstOwnSaid : Prop := instOwnRow.holds Tryz.pinned (OpenSpec.ofChange instOwnSpec)

/-- ITS FALSE NEIGHBOUR: 'it returns false'. Refute it at one input. -/
def instOwnWrong : ChangeSpec := { name := "instOwn", fn := fun _ => fun
  | [d1, d2] => { results := [.lit (.bool false)], args := [d1, d2] }
  | _ => none }
def InstOwnWrongFalsely : Prop := instOwnRow.holds Tryz.pinned (OpenSpec.ofChange instOwnWrong)

/-- 'troupekeep.InstLast': WHATEVER THE INPUT: true; the input reads as it did. -/
def instLastSpec : ChangeSpec := { name := "instLast", fn := fun _ => fun
  | [d1, d2, d3] => { results := [.lit (.bool true)], args := [d1, d2, d3] }
  | _ => none }
def instLastRow : OpenClaim := { program := "ytoikoijpkchamaagreatdoor", sum := "99046dd8c3775a3f7af13c28d05ac18a1ae00832748a6d0fdfd8ec0fa67c6686", func := "troupe/troupekeep.InstLast", spec := "instLast", unfollowed := true, recurses := true, named := ["unicode/utf8.first", "unicode/utf8.acceptRanges", "math/bits.deBruijn64tab", "math/bits.deBruijn32tab"], apart := false, laid := [("math/bits.deBruijn32tab", laid_math_bits_deBruijn32tab), ("math/bits.deBruijn64tab", laid_math_bits_deBruijn64tab), ("unicode/utf8.acceptRanges", laid_unicode_utf8_acceptRanges), ("unicode/utf8.first", laid_unicode_utf8_first)] }
def InstLastSaid : Prop := instLastRow.holds Tryz.pinned (OpenSpec.ofChange instLastSpec)

/-- ITS FALSE NEIGHBOUR: 'it returns false'. Refute it at one input. -/
def instLastWrong : ChangeSpec := { name := "instLast", fn := fun _ => fun
  | [d1, d2, d3] => { results := [.lit (.bool false)], args := [d1, d2, d3] }
  | _ => none }
def InstLastWrongFalsely : Prop := instLastRow.holds Tryz.pinned (OpenSpec.ofChange instLastWrong)

/- THE SECOND FORM. 'bulk': how many values and letters a reading holds, each counted each time it is reached (what is shared counts as often as it is met; a slice's spare places count too). A statement '..UptoSaid' is the law's where the arguments, and the package variables that the reading takes, are together of bulk at most 1048576: NARROWER than '..Said'. Prove '..Said' where nothing that the law and all that it calls make is longer than what came in: it says more and counts as full. Else prove '..UptoSaid'. A law counts once. -/
mutual
def uptoBulk {H : Type} : DataW H → Nat
  | .lit (.string bytes) => bytes.length + 1
  | .lit _ => 1
  | .nil => 1
  | .ptr d => uptoBulk d + 1
  | .slice elems spare => uptoBulkAll elems + uptoBulkAll spare + 1
  | .agg parts => uptoBulkAll parts + 1
  | .iface _ d => uptoBulk d + 1
  | .map entries => uptoBulkEntries entries + 1
  | .held _ => 1
def uptoBulkAll {H : Type} : List (DataW H) → Nat
  | [] => 0
  | d :: r => uptoBulk d + uptoBulkAll r
def uptoBulkEntries {H : Type} : List (Lit × DataW H) → Nat
  | [] => 0
  | x :: r => uptoBulkEntry x + uptoBulkEntries r
def uptoBulkEntry {H : Type} : Lit × DataW H → Nat
  | (.string bytes, d) => bytes.length + uptoBulk d + 1
  | (_, d) => uptoBulk d + 1
 end
def uptoSmall : (H : Type) → List (DataW H) → Bool := fun _ ds => decide (uptoBulkAll ds ≤ 1048576)
def OpenSpec.upto (s : _root_.Go.ChangeSpec) : _root_.Go.OpenSpec := { _root_.Go.OpenSpec.ofChange s with cond := some uptoSmall }

/-- 'troupelaw.ValidFuncs', WHERE WHAT IT READS IS OF BULK AT MOST 1048576: true; the input reads as it did. -/
def validFuncsUptoRow : OpenClaim := { program := "ytoikoijpkchamaagreatdoor", sum := "99046dd8c3775a3f7af13c28d05ac18a1ae00832748a6d0fdfd8ec0fa67c6686", func := "troupe/troupelaw.ValidFuncs", spec := "validFuncs", inPlace := ["internal/bytealg.IndexByteString", "internal/bytealg.IndexString"], unfollowed := true, recurses := true, named := ["unicode/utf8.first", "unicode/utf8.acceptRanges", "math/bits.deBruijn64tab", "math/bits.deBruijn32tab", "internal/bytealg.MaxLen"], apart := false, laid := [("math/bits.deBruijn32tab", laid_math_bits_deBruijn32tab), ("math/bits.deBruijn64tab", laid_math_bits_deBruijn64tab), ("unicode/utf8.acceptRanges", laid_unicode_utf8_acceptRanges), ("unicode/utf8.first", laid_unicode_utf8_first)], narrowed := true }
def ValidFuncsUptoSaid : Prop := validFuncsUptoRow.holds Tryz.pinned (OpenSpec.upto validFuncsSpec)

/-- 'troupelaw.ValidModules', WHERE WHAT IT READS IS OF BULK AT MOST 1048576: true; the input reads as it did. -/
def validModulesUptoRow : OpenClaim := { program := "ytoikoijpkchamaagreatdoor", sum := "99046dd8c3775a3f7af13c28d05ac18a1ae00832748a6d0fdfd8ec0fa67c6686", func := "troupe/troupelaw.ValidModules", spec := "validModules", inPlace := ["internal/bytealg.IndexByteString", "internal/bytealg.IndexString"], unfollowed := true, recurses := true, named := ["unicode/utf8.first", "unicode/utf8.acceptRanges", "math/bits.deBruijn64tab", "math/bits.deBruijn32tab", "internal/bytealg.MaxLen"], apart := false, laid := [("math/bits.deBruijn32tab", laid_math_bits_deBruijn32tab), ("math/bits.deBruijn64tab", laid_math_bits_deBruijn64tab), ("unicode/utf8.acceptRanges", laid_unicode_utf8_acceptRanges), ("unicode/utf8.first", laid_unicode_utf8_first)], narrowed := true }
def ValidModulesUptoSaid : Prop := validModulesUptoRow.holds Tryz.pinned (OpenSpec.upto validModulesSpec)

/-- 'troupelaw.ValidShows', WHERE WHAT IT READS IS OF BULK AT MOST 1048576: true; the input reads as it did. -/
def validShowsUptoRow : OpenClaim := { program := "ytoikoijpkchamaagreatdoor", sum := "99046dd8c3775a3f7af13c28d05ac18a1ae00832748a6d0fdfd8ec0fa67c6686", func := "troupe/troupelaw.ValidShows", spec := "validShows", inPlace := ["internal/bytealg.IndexByteString", "internal/bytealg.IndexString"], unfollowed := true, recurses := true, named := ["unicode/utf8.first", "unicode/utf8.acceptRanges", "math/bits.deBruijn64tab", "math/bits.deBruijn32tab", "internal/bytealg.MaxLen"], apart := false, laid := [("math/bits.deBruijn32tab", laid_math_bits_deBruijn32tab), ("math/bits.deBruijn64tab", laid_math_bits_deBruijn64tab), ("unicode/utf8.acceptRanges", laid_unicode_utf8_acceptRanges), ("unicode/utf8.first", laid_unicode_utf8_first)], narrowed := true }
def ValidShowsUptoSaid : Prop := validShowsUptoRow.holds Tryz.pinned (OpenSpec.upto validShowsSpec)

/-- 'troupekeep.ValidSteps', WHERE WHAT IT READS IS OF BULK AT MOST 1048576: true; the input reads as it did. -/
def validStepsUptoRow : OpenClaim := { program := "ytoikoijpkchamaagreatdoor", sum := "99046dd8c3775a3f7af13c28d05ac18a1ae00832748a6d0fdfd8ec0fa67c6686", func := "troupe/troupekeep.ValidSteps", spec := "validSteps", inPlace := ["internal/bytealg.IndexByteString", "internal/bytealg.IndexString"], unfollowed := true, recurses := true, named := ["unicode/utf8.first", "unicode/utf8.acceptRanges", "math/bits.deBruijn64tab", "math/bits.deBruijn32tab", "internal/bytealg.MaxLen"], apart := false, laid := [("math/bits.deBruijn32tab", laid_math_bits_deBruijn32tab), ("math/bits.deBruijn64tab", laid_math_bits_deBruijn64tab), ("unicode/utf8.acceptRanges", laid_unicode_utf8_acceptRanges), ("unicode/utf8.first", laid_unicode_utf8_first)], narrowed := true }
def ValidStepsUptoSaid : Prop := validStepsUptoRow.holds Tryz.pinned (OpenSpec.upto validStepsSpec)

/-- 'troupelaw.FlatSays', WHERE WHAT IT READS IS OF BULK AT MOST 1048576: true; the input reads as it did. -/
def flatSaysUptoRow : OpenClaim := { program := "ytoikoijpkchamaagreatdoor", sum := "99046dd8c3775a3f7af13c28d05ac18a1ae00832748a6d0fdfd8ec0fa67c6686", func := "troupe/troupelaw.FlatSays", spec := "flatSays", inPlace := ["internal/bytealg.IndexByteString", "internal/bytealg.IndexString"], unfollowed := true, recurses := true, named := ["unicode/utf8.first", "unicode/utf8.acceptRanges", "math/bits.deBruijn64tab", "math/bits.deBruijn32tab", "internal/bytealg.MaxLen"], apart := false, laid := [("math/bits.deBruijn32tab", laid_math_bits_deBruijn32tab), ("math/bits.deBruijn64tab", laid_math_bits_deBruijn64tab), ("unicode/utf8.acceptRanges", laid_unicode_utf8_acceptRanges), ("unicode/utf8.first", laid_unicode_utf8_first)], narrowed := true }
def FlatSaysUptoSaid : Prop := flatSaysUptoRow.holds Tryz.pinned (OpenSpec.upto flatSaysSpec)

/-- 'troupelaw.FlatAll', WHERE WHAT IT READS IS OF BULK AT MOST 1048576: true; the input reads as it did. -/
def flatAllUptoRow : OpenClaim := { program := "ytoikoijpkchamaagreatdoor", sum := "99046dd8c3775a3f7af13c28d05ac18a1ae00832748a6d0fdfd8ec0fa67c6686", func := "troupe/troupelaw.FlatAll", spec := "flatAll", inPlace := ["internal/bytealg.IndexByteString", "internal/bytealg.IndexString"], unfollowed := true, recurses := true, named := ["unicode/utf8.first", "unicode/utf8.acceptRanges", "math/bits.deBruijn64tab", "math/bits.deBruijn32tab", "internal/bytealg.MaxLen"], apart := false, laid := [("math/bits.deBruijn32tab", laid_math_bits_deBruijn32tab), ("math/bits.deBruijn64tab", laid_math_bits_deBruijn64tab), ("unicode/utf8.acceptRanges", laid_unicode_utf8_acceptRanges), ("unicode/utf8.first", laid_unicode_utf8_first)], narrowed := true }
def FlatAllUptoSaid : Prop := flatAllUptoRow.holds Tryz.pinned (OpenSpec.upto flatAllSpec)

/-- 'troupekeep.FlatFits', WHERE WHAT IT READS IS OF BULK AT MOST 1048576: true; the input reads as it did. -/
def flatFitsUptoRow : OpenClaim := { program := "ytoikoijpkchamaagreatdoor", sum := "99046dd8c3775a3f7af13c28d05ac18a1ae00832748a6d0fdfd8ec0fa67c6686", func := "troupe/troupekeep.FlatFits", spec := "flatFits", unfollowed := true, recurses := true, named := ["unicode/utf8.first", "unicode/utf8.acceptRanges", "math/bits.deBruijn64tab", "math/bits.deBruijn32tab"], apart := false, laid := [("math/bits.deBruijn32tab", laid_math_bits_deBruijn32tab), ("math/bits.deBruijn64tab", laid_math_bits_deBruijn64tab), ("unicode/utf8.acceptRanges", laid_unicode_utf8_acceptRanges), ("unicode/utf8.first", laid_unicode_utf8_first)], narrowed := true }
def FlatFitsUptoSaid : Prop := flatFitsUptoRow.holds Tryz.pinned (OpenSpec.upto flatFitsSpec)

/-- 'troupekeep.FlatInto', WHERE WHAT IT READS IS OF BULK AT MOST 1048576: true; the input reads as it did. -/
def flatIntoUptoRow : OpenClaim := { program := "ytoikoijpkchamaagreatdoor", sum := "99046dd8c3775a3f7af13c28d05ac18a1ae00832748a6d0fdfd8ec0fa67c6686", func := "troupe/troupekeep.FlatInto", spec := "flatInto", inPlace := ["internal/bytealg.IndexByteString", "internal/bytealg.IndexString"], unfollowed := true, recurses := true, named := ["unicode/utf8.first", "unicode/utf8.acceptRanges", "math/bits.deBruijn64tab", "math/bits.deBruijn32tab", "internal/bytealg.MaxLen"], apart := false, laid := [("math/bits.deBruijn32tab", laid_math_bits_deBruijn32tab), ("math/bits.deBruijn64tab", laid_math_bits_deBruijn64tab), ("unicode/utf8.acceptRanges", laid_unicode_utf8_acceptRanges), ("unicode/utf8.first", laid_unicode_utf8_first)], narrowed := true }
def FlatIntoUptoSaid : Prop := flatIntoUptoRow.holds Tryz.pinned (OpenSpec.upto flatIntoSpec)

/-- 'troupelaw.InstMakes', WHERE WHAT IT READS IS OF BULK AT MOST 1048576: true; the input reads as it did. -/
def instMakesUptoRow : OpenClaim := { program := "ytoikoijpkchamaagreatdoor", sum := "99046dd8c3775a3f7af13c28d05ac18a1ae00832748a6d0fdfd8ec0fa67c6686", func := "troupe/troupelaw.InstMakes", spec := "instMakes", inPlace := ["internal/bytealg.IndexByteString", "internal/bytealg.IndexString"], unfollowed := true, recurses := true, named := ["unicode/utf8.first", "unicode/utf8.acceptRanges", "math/bits.deBruijn64tab", "math/bits.deBruijn32tab", "internal/bytealg.MaxLen"], apart := false, laid := [("math/bits.deBruijn32tab", laid_math_bits_deBruijn32tab), ("math/bits.deBruijn64tab", laid_math_bits_deBruijn64tab), ("unicode/utf8.acceptRanges", laid_unicode_utf8_acceptRanges), ("unicode/utf8.first", laid_unicode_utf8_first)], narrowed := true }
def InstMakesUptoSaid : Prop := instMakesUptoRow.holds Tryz.pinned (OpenSpec.upto instMakesSpec)

/-- 'troupelaw.InstFits', WHERE WHAT IT READS IS OF BULK AT MOST 1048576: true; the input reads as it did. -/
def instFitsUptoRow : OpenClaim := { program := "ytoikoijpkchamaagreatdoor", sum := "99046dd8c3775a3f7af13c28d05ac18a1ae00832748a6d0fdfd8ec0fa67c6686", func := "troupe/troupelaw.InstFits", spec := "instFits", inPlace := ["internal/bytealg.IndexByteString", "internal/bytealg.IndexString"], unfollowed := true, recurses := true, named := ["unicode/utf8.first", "unicode/utf8.acceptRanges", "math/bits.deBruijn64tab", "math/bits.deBruijn32tab", "internal/bytealg.MaxLen"], apart := false, laid := [("math/bits.deBruijn32tab", laid_math_bits_deBruijn32tab), ("math/bits.deBruijn64tab", laid_math_bits_deBruijn64tab), ("unicode/utf8.acceptRanges", laid_unicode_utf8_acceptRanges), ("unicode/utf8.first", laid_unicode_utf8_first)], narrowed := true }
def InstFitsUptoSaid : Prop := instFitsUptoRow.holds Tryz.pinned (OpenSpec.upto instFitsSpec)

/-- 'troupekeep.InstOwn', WHERE WHAT IT READS IS OF BULK AT MOST 1048576: true; the input reads as it did. -/
def instOwnUptoRow : OpenClaim := { program := "ytoikoijpkchamaagreatdoor", sum := "99046dd8c3775a3f7af13c28d05ac18a1ae00832748a6d0fdfd8ec0fa67c6686", func := "troupe/troupekeep.InstOwn", spec := "instOwn", unfollowed := true, recurses := true, named := ["unicode/utf8.first", "unicode/utf8.acceptRanges", "math/bits.deBruijn64tab", "math/bits.deBruijn32tab"], apart := false, laid := [("math/bits.deBruijn32tab", laid_math_bits_deBruijn32tab), ("math/bits.deBruijn64tab", laid_math_bits_deBruijn64tab), ("unicode/utf8.acceptRanges", laid_unicode_utf8_acceptRanges), ("unicode/utf8.first", laid_unicode_utf8_first)], narrowed := true }
def InstOwnUptoSaid : Prop := instOwnUptoRow.holds Tryz.pinned (OpenSpec.upto instOwnSpec)

/-- 'troupekeep.InstLast', WHERE WHAT IT READS IS OF BULK AT MOST 1048576: true; the input reads as it did. -/
def instLastUptoRow : OpenClaim := { program := "ytoikoijpkchamaagreatdoor", sum := "99046dd8c3775a3f7af13c28d05ac18a1ae00832748a6d0fdfd8ec0fa67c6686", func := "troupe/troupekeep.InstLast", spec := "instLast", unfollowed := true, recurses := true, named := ["unicode/utf8.first", "unicode/utf8.acceptRanges", "math/bits.deBruijn64tab", "math/bits.deBruijn32tab"], apart := false, laid := [("math/bits.deBruijn32tab", laid_math_bits_deBruijn32tab), ("math/bits.deBruijn64tab", laid_math_bits_deBruijn64tab), ("unicode/utf8.acceptRanges", laid_unicode_utf8_acceptRanges), ("unicode/utf8.first", laid_unicode_utf8_first)], narrowed := true }
def InstLastUptoSaid : Prop := instLastUptoRow.holds Tryz.pinned (OpenSpec.upto instLastSpec)

end Rows
end Go.Proofs.YtoikoijpkchamaaGreatDoor
