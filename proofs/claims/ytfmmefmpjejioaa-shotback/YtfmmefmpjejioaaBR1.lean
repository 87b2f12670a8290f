/-
  What the small methods of the reader of modules do.
-/
import Derived.Test.YtfmmefmpjejioaaBRd
import Derived.Test.YtfmmefmpjejioaaNRow
import Derived.WalkLawsBesides
namespace Go.Proofs.Ytfmmefmpjejioaa
open Go.RowKit

/-- What is thrown. -/
abbrev pan (e : Int) : Ending := .panicked [{ v := .iface 29 (.int .i64 e), recovered := false }]
/-- A piece is taken. -/
def vStr (s : List Int) (_ : World) (v : Value) : Prop := ∃ t, nums t = s ∧ v = .string t
def vNum (n : Int) (_ : World) (v : Value) : Prop := v = .int .i64 n
def vByte (n : Int) (_ : World) (v : Value) : Prop := v = .int .u8 n
def vUnit (_ : Unit) (_ : World) (v : Value) : Prop := v = .tuple #[]
end Go.Proofs.Ytfmmefmpjejioaa
