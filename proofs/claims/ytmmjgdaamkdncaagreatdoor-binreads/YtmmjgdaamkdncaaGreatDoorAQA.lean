import Derived.Test.YtmmjgdaamkdncaaGreatDoorANQ
import Derived.Lib.Builder
import Derived.Lib.AppendStr
import Derived.Laws.Externs
namespace Go.Proofs.YtmmjgdaamkdncaaGreatDoor
set_option linter.unusedVariables false
open Go.RowKit
def ylF (V : List V4) : List Int := V.flatMap V4.text
end Go.Proofs.YtmmjgdaamkdncaaGreatDoor
