/-
  What the program's own Read does.
  What the program's own Read does.
  What the program's own Read does, over lists of bytes.
-/
import Derived.Test.YtfmmefmpjejioaaInsR5
import Derived.Deep.RegionWith
import Derived.RegionTactic
import Derived.BigRegion
namespace Go.Proofs.Ytfmmefmpjejioaa
open Go.RowKit

/-- An instruction, what is left behind it, and the first error. -/
structure Got where
  op : Int
  A : Int
  B : Int
  To : List Int
  l : List Int
  e : Int
/-- What is read behind the first byte. -/
def mBes (k op : Int) (l1 : List Int) (a1 : Int) : Got :=
  if k = 0 then ⟨op, 0, 0, [], l1, fstE a1 6⟩
  else if k = 1 then ⟨op, 0, 0, [], l1, a1⟩
  else if k = 2 then ⟨op, (mKind l1 a1).1, 0, [], (mKind l1 a1).2.1, (mKind l1 a1).2.2⟩
  else if k = 3 then ⟨op, (mNum l1 a1).1, 0, [], (mNum l1 a1).2.1, (mNum l1 a1).2.2⟩
  else if k = 4 then ⟨op, (mNum (mNums l1 a1).2.1 (mNums l1 a1).2.2).1, 0, (mNums l1 a1).1, (mNum (mNums l1 a1).2.1 (mNums l1 a1).2.2).2.1, (mNum (mNums l1 a1).2.1 (mNums l1 a1).2.2).2.2⟩
  else if k = 5 then ⟨op, (mNum l1 a1).1, 0, [], (mZero (mNum l1 a1).2.1 (mNum l1 a1).2.2).1, (mZero (mNum l1 a1).2.1 (mNum l1 a1).2.2).2⟩
  else if k = 6 then ⟨op, (mNum l1 a1).1, (mNum (mNum l1 a1).2.1 (mNum l1 a1).2.2).1, [], (mNum (mNum l1 a1).2.1 (mNum l1 a1).2.2).2.1, (mNum (mNum l1 a1).2.1 (mNum l1 a1).2.2).2.2⟩
  else if k = 7 then ⟨op, 0, 0, [], (mZero l1 a1).1, (mZero l1 a1).2⟩
  else if k = 8 then ⟨op, (mSig 32 l1 a1).1, 0, [], (mSig 32 l1 a1).2.1, (mSig 32 l1 a1).2.2⟩
  else ⟨op, (mSig 64 l1 a1).1, 0, [], (mSig 64 l1 a1).2.1, (mSig 64 l1 a1).2.2⟩
/-- What is read. -/
def mIns (l : List Int) (a : Int) : Got := mBes (besV (mNext l a).1) (mNext l a).1 (mNext l a).2.1 (mNext l a).2.2
theorem besV_range (op : Int) : 0 ≤ besV op ∧ besV op ≤ 9 := by
  unfold besV
  repeat' split
  all_goals omega
end Go.Proofs.Ytfmmefmpjejioaa
namespace Go.Proofs.Ytfmmefmpjejioaa
open Go.RowKit

end Go.Proofs.Ytfmmefmpjejioaa
namespace Go.Proofs.Ytfmmefmpjejioaa
open Go.RowKit

end Go.Proofs.Ytfmmefmpjejioaa
