import Derived.Below
import Derived.Test.YtmmjgdaamkdncaaGreatDoorProg
namespace Go.Proofs.YtmmjgdaamkdncaaGreatDoor
open Go.RowKit
theorem kZz {p : Prop} (h : p) : Hid p := h
theorem kZb {a b : Int} (h : a ≠ b) : (a == b) = false := beq_eq_false_iff_ne.2 h
end Go.Proofs.YtmmjgdaamkdncaaGreatDoor
