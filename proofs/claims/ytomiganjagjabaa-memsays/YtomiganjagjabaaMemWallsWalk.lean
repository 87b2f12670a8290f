/-
  MemWalls, walked: what is put changes those bytes alone; what does not fit changes nothing.
-/
import Derived.Test.YtomiganjagjabaaMM4
import Derived.BigQuiet
import Derived.Deep.QuietTactic
namespace Go.Proofs.Ytomiganjagjabaa
open Go.RowKit

theorem nums_extract (s : ByteArray) (i j : Nat) : nums (s.extract i j) = ((nums s).drop i).take (j - i) := by
  simp [nums, ByteArray.data_extract, Array.toList_extract, List.extract_eq_take_drop, List.map_drop, List.map_take]
theorem nums_inj {s t : ByteArray} (h : nums s = nums t) : s = t := by rw [← str_nums s, h, str_nums]
theorem str_size {l : List Int} : (strOfNums l).size = l.length := strOfNums_size l
end Go.Proofs.Ytomiganjagjabaa
