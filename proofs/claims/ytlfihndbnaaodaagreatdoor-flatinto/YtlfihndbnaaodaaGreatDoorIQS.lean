/-
 What the reading of a body says, over lists of bytes: plain mathematics.
 A list of instructions that a call itself makes.
-/
import Derived.Test.YtlfihndbnaaodaaGreatDoorIGNst
import Derived.Test.YtlfihndbnaaodaaGreatDoorIGVal
namespace Go.Proofs.YtlfihndbnaaodaaGreatDoor
set_option linter.unusedVariables false
open Go.RowKit
structure V4 where
 op : Int
 A : Int
 B : Int
 xs : List Int
def Got.val (g : Got) : V4 := ⟨g.op, g.A, g.B, g.To⟩
def V4.chk (v : V4) : Int := chkV v.op v.A v.B v.xs.length v.xs
def appR (pre : List V4) (q : Int × List V4 × List Int) : Int × List V4 × List Int := if q.1 = 0 then (0, pre ++ q.2.1, q.2.2) else (q.1, [], [])
def nRd : Nat → List Int → List Int → Int × List V4 × List Int
 | 0, l, _ => if (mIns l 0).e = 0 then (2, [], []) else ((mIns l 0).e, [], [])
 | f + 1, l, bs => if (mIns l 0).e = 0 then
   (if (nStep (mIns l 0).val.chk (mIns l 0).op bs false).1 = 0 then
    (if (nStep (mIns l 0).val.chk (mIns l 0).op bs false).2.2 = true then (0, [(mIns l 0).val], (mIns l 0).l)
     else appR [(mIns l 0).val] (nRd f (mIns l 0).l (nStep (mIns l 0).val.chk (mIns l 0).op bs false).2.1))
    else ((nStep (mIns l 0).val.chk (mIns l 0).op bs false).1, [], []))
   else ((mIns l 0).e, [], [])
end Go.Proofs.YtlfihndbnaaodaaGreatDoor
namespace Go.Proofs.YtlfihndbnaaodaaGreatDoor
set_option linter.unusedVariables false
open Go.RowKit
theorem some_lt {w : World} {j : Nat} {x : Obj} (h : w.heap[j]? = some x) : j < w.heap.size := (Array.getElem?_eq_some_iff.1 h).1
end Go.Proofs.YtlfihndbnaaodaaGreatDoor
