/-
  LebSize, walked: the count of a number's bits, and the bytes of leb.U.
-/
import Derived.Test.YtnkeeaelomalkabWriteS
import Derived.OpenShut
namespace Go.Proofs.Ytnkeeaelomalkab
open Go.RowKit

theorem ret_true {b : Bool} (h : b = true) : Ending.returned (.bool b) = .returned (.bool true) := by rw [h]

set_option maxHeartbeats 400000 in
set_option maxRecDepth 1000000 in
theorem lebSize_walk (a0 : Int) (w0 : (Lit.int .u64 a0).wf = true) (w : World) :
     Calls Try.prog 5 #[.int .u64 a0] w fun e w' => e = .returned (.bool true) ∧ Below w.heap.size w w' := by
  have hb0 := bounds_u64 w0
  obtain ⟨n, rfl⟩ : ∃ n : Nat, a0 = n := ⟨a0.toNat, by omega⟩
  have hn : n ≤ 18446744073709551615 := by omega
  have hl := uB_bits n
  have hbn := bl_le 64 n (by omega)
  clear w0 hb0
  go_enter Try.func5, Try.ntmps5
  go_wp2
  go_loop [3, 4] (fun b t => ∃ m k : Nat, t = .int .u64 m ∧ b = .int .i64 k ∧ m ≤ 18446744073709551615 ∧ k ≤ 64 ∧ Hid (k + bl m = bl n)) (fun _ t => (intOf t).toNat)
  case atStart => exact ⟨n, 0, rfl, rfl, hn, by omega, by unfold Hid; omega⟩
  case round =>
    obtain ⟨m, k, rfl, rfl, hm, hk, H⟩ := hrel
    by_cases h0 : m = 0
    · have HK : Hid (k = bl n) := by unfold Hid; have := H.out; rw [h0, bl_zero] at this; omega
      have HL : Hid ((uB n).length = max 1 ((k + 6) / 7)) := by unfold Hid; rw [HK.out]; exact hl
      clear hl hbn
      subst h0
      go_wp2_with (go_at_call 7; refine (u_any n hn _).mono ?_; rintro e w' ⟨rfl, hb⟩)
      all_goals
        go_ret
        refine ⟨ret_true ?_, hb⟩
        have := HL.out
        rw [beq_iff_eq, strOfNums_size]
        omega
    · have HB := bl_half h0
      have hb1 := H.out
      have hk2 : k + 1 ≤ 64 := by omega
      have HN : Hid ((k + 1) + bl (m / 2) = bl n) := by unfold Hid; omega
      clear HB hb1 hl hbn H
      go_wp2
      go_round
      case rel => exact ⟨m / 2, k + 1, by go_num, by go_num, by omega, hk2, HN⟩
      case measure => simp [intOf]; omega
end Go.Proofs.Ytnkeeaelomalkab
