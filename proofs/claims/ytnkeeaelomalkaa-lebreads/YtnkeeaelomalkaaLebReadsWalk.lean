/-
  LebReads, walked: leb.ReadU and leb.ReadS read what the document's own functions read.
-/
import Derived.Test.YtnkeeaelomalkaaRefReads
import Derived.OpenShut
namespace Go.Proofs.Ytnkeeaelomalkaa
open Go.RowKit

set_option maxHeartbeats 400000 in
set_option maxRecDepth 1000000 in
theorem lebReads_walk (a0 : ByteArray) (a1 : Int) (w0 : a0.size ≤ maxLen) (_w1 : (Lit.int .i64 a1).wf = true) (w : World) :
     Calls Try.prog 5 #[.string a0, .int .i64 a1] w fun e w' => e = .returned (.bool true) ∧ Below w.heap.size w w' := by
  obtain ⟨⟨n, k, e⟩, hU⟩ : ∃ r, rU a1 (nums a0) = r := ⟨_, rfl⟩
  obtain ⟨⟨m, j, g⟩, hS⟩ : ∃ r, rS a1 (nums a0) = r := ⟨_, rfl⟩
  have HU : Hid _ := hU
  have HS : Hid _ := hS
  clear hU hS
  go_enter Try.func5, Try.ntmps5
  go_wp2_with fail
  refine (readU_at _ _ _ _ _ w0 HU _).mono ?_
  rintro e' w1 ⟨rfl, rfl⟩
  go_wp2_with fail
  refine (refReadU_at _ _ _ _ _ w0 HU _).mono ?_
  rintro e' w2 ⟨rfl, b2⟩
  go_wp2_with fail
  refine (readS_at _ _ _ _ _ w0 HS _).mono ?_
  rintro e' w3 ⟨rfl, rfl⟩
  go_wp2_with fail
  refine (refReadS_at _ _ _ _ _ w0 HS _).mono ?_
  rintro e' w4 ⟨rfl, b4⟩
  go_wp2
  go_ret
  exact ⟨by simp, b2.trans (b4.mono b2.size)⟩
end Go.Proofs.Ytnkeeaelomalkaa
