/-
  LebNames, walked: leb.Name and leb.ReadName answer what the document's own functions answer.
-/
import Derived.Test.YtnkeeaelomalkaaDoorRefNames
import Derived.SizedLaws
namespace Go.Proofs.YtnkeeaelomalkaaDoor
open Go.RowKit

set_option maxHeartbeats 400000 in
set_option maxRecDepth 100000 in
theorem lebNames_walk (a0 a1 : ByteArray) (_z0 : a0.data.toList.length ≤ reachBytes) (z1 : a1.data.toList.length ≤ reachBytes) (w : World) (hT : Lib.Utf8Tabs 0 1 w) :
    Calls Tryd.prog 3 #[.string a0, .string a1] w fun e w' => e = .returned (.bool true) ∧ Below w.heap.size w w' := by
  have h1 : a1.size ≤ maxLen := by
    have : a1.size ≤ 140737488351232 := by rw [Lib.size_eq]; exact z1
    unfold maxLen; omega
  obtain ⟨X, e, hA, hB⟩ := name_both a0
  obtain ⟨Y, j, g, hC, hD⟩ := readName_both a1 h1
  have HT : Hid _ := hT
  have HA : Hid _ := hA
  have HB : Hid _ := hB
  have HC : Hid _ := hC
  have HD : Hid _ := hD
  clear hA hB hC hD hT h1 z1
  go_enter Tryd.func3, Tryd.ntmps3
  go_wp2_with fail
  refine (HA.out _ HT.out).mono ?_
  rintro e' w1 ⟨rfl, b1⟩
  go_wp2_with fail
  refine (HB.out _).mono ?_
  rintro e' w2 ⟨rfl, b2⟩
  have b12 := b1.trans (b2.mono b1.size)
  go_wp2_with fail
  refine (HC.out _ (Utf8Tabs_below HT.out b12)).mono ?_
  rintro e' w3 ⟨rfl, b3⟩
  have b13 := b12.trans (b3.mono b12.size)
  go_wp2_with fail
  refine (HD.out _).mono ?_
  rintro e' w4 ⟨rfl, b4⟩
  go_wp2
  go_ret
  exact ⟨by simp, b13.trans (b4.mono b13.size)⟩

end Go.Proofs.YtnkeeaelomalkaaDoor
