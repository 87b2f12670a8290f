/-
 What the document's own InsRead answers is what the program's own Read answers.
-/
import Derived.Test.YtlfihndbnaaodaaGreatDoorIQQ
import Derived.Test.YtlfihndbnaaodaaGreatDoorIGWid
import Derived.Deep.RegionLaw
import Derived.Deep.AppendLies
import Derived.Deep.RegionWith
namespace Go.Proofs.YtlfihndbnaaodaaGreatDoor
set_option linter.unusedVariables false
open Go.RowKit
def letF (k : Int) : ByteArray :=
 if k = 0 then ⟨#[63]⟩ else if k = 1 then ⟨#[]⟩ else if k = 2 then ⟨#[107]⟩ else if k = 3 then ⟨#[97]⟩ else if k = 4 then ⟨#[116]⟩ else
 if k = 5 then ⟨#[97, 122]⟩ else if k = 6 then ⟨#[97, 98]⟩ else if k = 7 then ⟨#[122]⟩ else if k = 8 then ⟨#[99]⟩ else ⟨#[100]⟩
def besF2 (n V : Int) (T : List UInt8) : List UInt8 :=
 if 2 ≤ n ∧ n ≤ 4 then [107] else
 if n = 12 ∨ n = 13 ∨ n = 16 ∨ (32 ≤ n ∧ n ≤ 36) then [97] else
 if n = 14 then [116] else
 if n = 17 then [97, 122] else
 if 0 < V then [97, 98] else
 if n = 63 ∨ n = 64 then [122] else
 if n = 65 then [99] else
 if n = 66 then [100] else
 if n = 0 ∨ n = 1 ∨ n = 5 ∨ n = 11 ∨ n = 15 ∨ n = 26 ∨ n = 27 ∨ (!T == [63]) = true then [] else
 [63]
theorem besF_2 (n V : Int) (T : ByteArray) : (besF n V T).data.toList = besF2 n V T.data.toList := by
 simp only [besF, besF2, Lib.toList_data]
 repeat' split
 all_goals rfl
theorem bes_letF (op : Nat) (h : op < 256) : besL op = letF (besV op) := by
 have key : ∀ op : Fin 256, besF2 (op.val : Int) (insW (op.val : Int)) (takL (op.val : Int)).data.toList = (letF (besV (op.val : Int))).data.toList := by decide +kernel
 have := key ⟨op, h⟩
 have e := besF_2 op (insW op) (takL op)
 rw [this] at e
 apply ByteArray.ext
 exact Array.toList_inj.1 e
theorem quest_letF (k : Int) (h : k ≠ 0) : ((letF k).toList == [63]) = false := by
 rw [Lib.toList_data]
 unfold letF
 rw [if_neg h]
 repeat' split
 all_goals rfl
end Go.Proofs.YtlfihndbnaaodaaGreatDoor
