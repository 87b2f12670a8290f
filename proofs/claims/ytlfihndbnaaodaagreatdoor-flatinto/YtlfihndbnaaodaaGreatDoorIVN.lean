/-
 A body with one instruction more: what is the same.
 Who knows less finds no more wrong: what is known behind an unreachable against what is known without it.
 A nop or an unreachable more leaves a sound module sound: over values.
-/
import Derived.Test.YtlfihndbnaaodaaGreatDoorIVM
namespace Go.Proofs.YtlfihndbnaaodaaGreatDoor
open Go.RowKit
set_option linter.unusedVariables false
def stV (m : ModD) (loc : List Int) : List InsD → TrkV → TrkV
 | [], T => T
 | d :: L, T => stV m loc L (nextV m loc T d).2
end Go.Proofs.YtlfihndbnaaodaaGreatDoor
namespace Go.Proofs.YtlfihndbnaaodaaGreatDoor
open Go.RowKit
set_option linter.unusedVariables false
theorem takeV_bad (k : Int) (st : List Int) (b : BlkV) : (takeV k st b true).2.2 = true := by
 unfold takeV
 split
 ·rfl
 ·dsimp only
  split <;> rfl
theorem tksV_cons (b : BlkV) (k : Int) (l : List Int) (s : List Int × Bool) : tksV b (k :: l) s = tksV b l ((takeV k s.1 b s.2).2.1, (takeV k s.1 b s.2).2.2) := rfl
theorem tksV_bad (b : BlkV) : ∀ (l : List Int) (st : List Int), (tksV b l (st, true)).2 = true
 | [], _ => rfl
 | k :: l, st => by
  rw [tksV_cons]
  show (tksV b l ((takeV k st b true).2.1, (takeV k st b true).2.2)).2 = true
  rw [takeV_bad]
  exact tksV_bad b l _
section
variable {pre pre' : List BlkV} {r r' g g' : List Int} {b b' : BlkV}
end
theorem chooseV_bad (st : List Int) (b : BlkV) : (chooseV st b true).2 = true := by
 unfold chooseV
 dsimp only
 rw [takeV_bad, takeV_bad, takeV_bad]
theorem pass1_bad (m : ModD) (loc st : List Int) (pre : List BlkV) (b : BlkV) (op a : Int) : (pass1 m loc st pre b true op a).bad = true := by
 unfold pass1
 split
 ·exact takeV_bad _ _ _
 split
 ·exact chooseV_bad _ _
 have hf : (finV st b true).2 = true := by
  unfold finV
  rw [tksV_bad]
  rfl
 split
 ·exact hf
 split
 ·show ((finV st b true).2 || _) = true
  rw [hf]
  rfl
 ·exact tksV_bad _ _ _
theorem passV_bad (m : ModD) (loc st : List Int) (pre : List BlkV) (b : BlkV) (op a : Int) : (passV m loc st pre b true op a).bad = true := by
 unfold passV
 split
 ·exact pass1_bad ..
 split
 ·exact pass1_bad ..
 ·exact pass1_bad ..
end Go.Proofs.YtlfihndbnaaodaaGreatDoor
namespace Go.Proofs.YtlfihndbnaaodaaGreatDoor
open Go.RowKit
set_option linter.unusedVariables false
theorem stV_snoc (m : ModD) (loc : List Int) (d : InsD) : ∀ (A : List InsD) (T : TrkV), stV m loc (A ++ [d]) T = (nextV m loc (stV m loc A T) d).2
 | [], _ => rfl
 | a :: A, T => stV_snoc m loc d A _
section
variable {m : ModD} {j k : Nat} {op : Int} {oF : Option Addr} {cF : Nat} {o : Option Addr} {cap : Nat}
end
end Go.Proofs.YtlfihndbnaaodaaGreatDoor
