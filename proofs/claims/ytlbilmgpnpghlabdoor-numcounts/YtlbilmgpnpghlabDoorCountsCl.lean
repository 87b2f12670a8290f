/-
  The closure of the law of counts.
-/
import Derived.Test.YtlbilmgpnpghlabDoorKeep2
import Derived.Test.YtlbilmgpnpghlabDoorPFit
import Derived.Laws.EntriesVeiled
import Derived.Deep.RegionWith
namespace Go.Proofs.YtlbilmgpnpghlabDoor
open Go.RowKit

set_option maxHeartbeats 4000000 in
set_option maxRecDepth 1000000 in
theorem kone (op a R E : Int) (w : World) (HL : Hid (Calls Tryd.prog 12 #[.int .u8 op, .int .i64 a] w fun e w' => e = .returned (.tuple #[.int .i64 R, .int .i64 E]) ∧ w' = w)) :
    Calls Tryd.prog 7 #[.int .u8 op, .int .i64 a] w fun e w' => e = .returned (.int .i64 R) ∧ w' = w := by
  go_enter Tryd.func7, Tryd.ntmps7
  go_wp2_with fail
  refine HL.out.mono ?_
  rintro e w1 ⟨rfl, rfl⟩
  go_wp2
  go_ret
  exact ⟨rfl, rfl⟩
set_option maxHeartbeats 4000000 in
set_option maxRecDepth 1000000 in
theorem c_countN (P : Nat) (n x z : Int) (_h0 : 0 ≤ n) (_h1 : n < 200) (w : World) (HL : Hid (Calls Tryd.prog 7 #[.int .u8 (n), .int .i64 x] w fun e w' => e = .returned (.int .i64 z) ∧ w' = w)) (_hc : w.cell? ⟨P, 0, none⟩ = some (.bool false)) :
    Calls Tryd.prog 6 #[.int .u8 n, .int .i64 x, .pointer (some ⟨P, 0, none⟩)] w fun e w' => e = .returned (.int .i64 z) ∧ w' = w := by
  go_enter Tryd.func6, Tryd.ntmps6
  go_wp2_with fail
  refine HL.out.mono ?_
  rintro e w1 ⟨rfl, rfl⟩
  go_wp2
  go_ret
  exact ⟨rfl, rfl⟩
set_option maxHeartbeats 4000000 in
set_option maxRecDepth 1000000 in
theorem c_countW (P : Nat) (n x z : Int) (_h0 : 0 ≤ n) (_h1 : n < 200) (w : World) (HL : Hid (Calls Tryd.prog 7 #[.int .u8 (n + 18), .int .i64 x] w fun e w' => e = .returned (.int .i64 z) ∧ w' = w)) (_hc : w.cell? ⟨P, 0, none⟩ = some (.bool true)) :
    Calls Tryd.prog 6 #[.int .u8 n, .int .i64 x, .pointer (some ⟨P, 0, none⟩)] w fun e w' => e = .returned (.int .i64 z) ∧ w' = w := by
  go_enter Tryd.func6, Tryd.ntmps6
  go_wp2_with fail
  refine HL.out.mono ?_
  rintro e w1 ⟨rfl, rfl⟩
  go_wp2
  go_ret
  exact ⟨rfl, rfl⟩
theorem TabIn.below {w w' : World} (h : TabIn w) (hb : Below w.heap.size w w') : TabIn w' := by
  have h0 : 0 < w.heap.size := by
    have hc := h 0 (by omega)
    apply Nat.lt_of_not_le
    intro hle
    have : w.heap[0]? = none := Array.getElem?_eq_none hle
    simp [World.cell?, this] at hc
  exact h.of_cells fun j => hb.cell (p := ⟨0, j, none⟩) h0
end Go.Proofs.YtlbilmgpnpghlabDoor
