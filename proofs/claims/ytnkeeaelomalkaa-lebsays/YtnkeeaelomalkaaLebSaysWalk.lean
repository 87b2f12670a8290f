/-
  LebSays, walked: leb.U and leb.S write what the document's own functions write.
-/
import Derived.Test.YtnkeeaelomalkaaRefS
import Derived.OpenShut
namespace Go.Proofs.Ytnkeeaelomalkaa
open Go.RowKit

set_option maxHeartbeats 400000 in
set_option maxRecDepth 1000000 in
theorem lebSays_walk (a0 : Int) (a1 : Int) (w0 : (Lit.int .u64 a0).wf = true) (w1 : (Lit.int .i64 a1).wf = true) (w : World) :
     Calls Try.prog 4 #[.int .u64 a0, .int .i64 a1] w fun e w' => e = .returned (.bool true) ∧ Below w.heap.size w w' := by
  have b0 := bounds_u64 w0
  obtain ⟨h1, h2⟩ := bounds_i64 w1
  obtain ⟨n, rfl⟩ : ∃ n : Nat, a0 = n := ⟨a0.toNat, by omega⟩
  have hn : n ≤ 18446744073709551615 := by omega
  have HU : Hid (∀ w, Calls Try.prog 10 #[.int .u64 n] w fun e w' => e = .returned (.string (strOfNums (uB n))) ∧ Below w.heap.size w w') := fun w => refU_any n hn w
  have HS : Hid (∀ w, Calls Try.prog 12 #[.int .i64 a1] w fun e w' => e = .returned (.string (strOfNums (sB a1))) ∧ Below w.heap.size w w') := fun w => refS_any a1 h1 h2 w
  have GU : Hid (∀ w, Calls Try.prog 9 #[.int .u64 n] w fun e w' => e = .returned (.string (strOfNums (uB n))) ∧ Below w.heap.size w w') := fun w => u_any n hn w
  have GS : Hid (∀ w, Calls Try.prog 11 #[.int .i64 a1] w fun e w' => e = .returned (.string (strOfNums (sB a1))) ∧ Below w.heap.size w w') := fun w => s_any a1 h1 h2 w
  obtain ⟨S, hS⟩ : ∃ S, strOfNums (uB n) = S := ⟨_, rfl⟩
  obtain ⟨T, hT⟩ : ∃ T, strOfNums (sB a1) = T := ⟨_, rfl⟩
  rw [hS] at HU GU
  rw [hT] at HS GS
  clear hS hT w0 w1 b0 h1 h2 hn
  go_enter Try.func4, Try.ntmps4
  go_wp2_with fail
  refine (GU.out _).mono ?_
  rintro e w1 ⟨rfl, b1⟩
  go_wp2_with fail
  refine (HU.out _).mono ?_
  rintro e w2 ⟨rfl, b2⟩
  go_wp2_with fail
  refine (GS.out _).mono ?_
  rintro e w3 ⟨rfl, b3⟩
  go_wp2_with fail
  refine (HS.out _).mono ?_
  rintro e w4 ⟨rfl, b4⟩
  go_wp2
  go_ret
  have z1 := b1.size
  have z2 := b2.size
  have z3 := b3.size
  exact ⟨by simp, ((b1.trans (b2.mono z1)).trans (b3.mono (by omega))).trans (b4.mono (by omega))⟩
end Go.Proofs.Ytnkeeaelomalkaa
