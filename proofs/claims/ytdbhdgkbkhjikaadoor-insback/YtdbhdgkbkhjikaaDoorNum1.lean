/-
  What the program's own package num does: its inner functions.
-/
import Derived.Test.YtdbhdgkbkhjikaaDoorProg
import Derived.Test.YtdbhdgkbkhjikaaDoorVMaths
import Derived.WalkKit
import Derived.WalkSpells
import Derived.WalkSmall
import Derived.Deep.QuietTactic
import Derived.BigQuiet
import Derived.Laws.Bits128
import Derived.Laws.BitsAllLaws
import Derived.Laws.BitsLemmas
namespace Go.Proofs.YtdbhdgkbkhjikaaDoor
open Go.RowKit
set_option maxHeartbeats 1000000 in
set_option maxRecDepth 1000000 in
theorem ptruth (b : Bool) (w : World) :
    Calls Tryd.prog 90 #[.bool b] w fun e w' => e = .returned (.int .i64 (t2i b)) ∧ w' = w := by
  cases b
  · go_enter Tryd.func90, Tryd.ntmps90
    go_wp2
    go_ret
    exact ⟨rfl, rfl⟩
  · go_enter Tryd.func90, Tryd.ntmps90
    go_wp2
    go_ret
    exact ⟨rfl, rfl⟩
theorem ri {k : IntKind} {a b : Int} {w : World} (h : a = b) : Ending.returned (.int k a) = .returned (.int k b) ∧ w = w := by rw [h]; exact ⟨rfl, rfl⟩
theorem w64_w32 (x : Int) : wrap64 (wrap32 x) = wrap32 x := by simp only [wrap64, wrap32]; omega
theorem rb {a b : Bool} {w : World} (h : a = b) : Ending.returned (.bool a) = .returned (.bool b) ∧ w = w := by rw [h]; exact ⟨rfl, rfl⟩
theorem r2 {k l : IntKind} {a b c d : Int} {w : World} (h : a = b) (h' : c = d) : Ending.returned (.tuple #[.int k a, .int l c]) = .returned (.tuple #[.int k b, .int l d]) ∧ w = w := by rw [h, h']; exact ⟨rfl, rfl⟩
set_option maxHeartbeats 1000000 in
set_option maxRecDepth 1000000 in
theorem plen32 (x : Int) (h0 : 4294967295 ≤ x) (h1 : x ≤ 4294967295) (w : World) :
    Calls Tryd.prog 92 #[.int .u64 x] w fun e w' => e = .returned (.int .i64 32) ∧ w' = w := by
  go_enter Tryd.func92, Tryd.ntmps92
  go_wp2
  go_ret
  have hx : x = 4294967295 := by omega
  subst hx
  exact ri (by decide +kernel +revert)
set_option maxHeartbeats 1000000 in
set_option maxRecDepth 1000000 in
theorem pwidth32 (w : World) :
    Calls Tryd.prog 95 #[] w fun e w' => e = .returned (.int .i64 32) ∧ w' = w := by
  go_enter Tryd.func95, Tryd.ntmps95
  go_wp2_with fail
  refine (plen32 _ (by decide +kernel) (by decide +kernel) _).mono ?_
  rintro e w1 ⟨rfl, rfl⟩
  go_wp2
  go_ret
  exact ri rfl
set_option maxHeartbeats 1000000 in
set_option maxRecDepth 1000000 in
theorem combine32_106 (a b : Int) (w : World) :
    Calls Tryd.prog 104 #[.int .u8 106, .int .i32 a, .int .i32 b] w fun e w' => e = .returned (.int .i32 ((BitVec.ofInt 32 a + BitVec.ofInt 32 b).toInt)) ∧ w' = w := by
  go_enter Tryd.func104, Tryd.ntmps104
  go_wp2
  go_ret
  exact ri (by rw [w32_bv, BitVec.ofInt_add])
set_option maxHeartbeats 1000000 in
set_option maxRecDepth 1000000 in
theorem combine32_107 (a b : Int) (w : World) :
    Calls Tryd.prog 104 #[.int .u8 107, .int .i32 a, .int .i32 b] w fun e w' => e = .returned (.int .i32 ((BitVec.ofInt 32 a - BitVec.ofInt 32 b).toInt)) ∧ w' = w := by
  go_enter Tryd.func104, Tryd.ntmps104
  go_wp2
  go_ret
  exact ri (by rw [w32_bv, ofInt_sub'])
set_option maxHeartbeats 1000000 in
set_option maxRecDepth 1000000 in
theorem combine32_108 (a b : Int) (w : World) :
    Calls Tryd.prog 104 #[.int .u8 108, .int .i32 a, .int .i32 b] w fun e w' => e = .returned (.int .i32 ((BitVec.ofInt 32 a * BitVec.ofInt 32 b).toInt)) ∧ w' = w := by
  go_enter Tryd.func104, Tryd.ntmps104
  go_wp2
  go_ret
  exact ri (by rw [w32_bv, BitVec.ofInt_mul])
set_option maxHeartbeats 1000000 in
set_option maxRecDepth 1000000 in
theorem combine32_113 (a b : Int) (w : World) :
    Calls Tryd.prog 104 #[.int .u8 113, .int .i32 a, .int .i32 b] w fun e w' => e = .returned (.int .i32 ((BitVec.ofInt 32 a &&& BitVec.ofInt 32 b).toInt)) ∧ w' = w := by
  go_enter Tryd.func104, Tryd.ntmps104
  go_wp2
  go_ret
  exact ri (and32_bv a b)
set_option maxHeartbeats 1000000 in
set_option maxRecDepth 1000000 in
theorem combine32_114 (a b : Int) (w : World) :
    Calls Tryd.prog 104 #[.int .u8 114, .int .i32 a, .int .i32 b] w fun e w' => e = .returned (.int .i32 ((BitVec.ofInt 32 a ||| BitVec.ofInt 32 b).toInt)) ∧ w' = w := by
  go_enter Tryd.func104, Tryd.ntmps104
  go_wp2
  go_ret
  exact ri (or32_bv a b)
set_option maxHeartbeats 1000000 in
set_option maxRecDepth 1000000 in
theorem combine32_115 (a b : Int) (w : World) :
    Calls Tryd.prog 104 #[.int .u8 115, .int .i32 a, .int .i32 b] w fun e w' => e = .returned (.int .i32 ((BitVec.ofInt 32 a ^^^ BitVec.ofInt 32 b).toInt)) ∧ w' = w := by
  go_enter Tryd.func104, Tryd.ntmps104
  go_wp2
  go_ret
  exact ri (xor32_bv a b)
set_option maxHeartbeats 1000000 in
set_option maxRecDepth 1000000 in
theorem plen64 (x : Int) (h0 : 18446744073709551615 ≤ x) (h1 : x ≤ 18446744073709551615) (w : World) :
    Calls Tryd.prog 92 #[.int .u64 x] w fun e w' => e = .returned (.int .i64 64) ∧ w' = w := by
  go_enter Tryd.func92, Tryd.ntmps92
  go_wp2
  go_ret
  have hx : x = 18446744073709551615 := by omega
  subst hx
  exact ri (by decide +kernel +revert)
set_option maxHeartbeats 1000000 in
set_option maxRecDepth 1000000 in
theorem pwidth64 (w : World) :
    Calls Tryd.prog 91 #[] w fun e w' => e = .returned (.int .i64 64) ∧ w' = w := by
  go_enter Tryd.func91, Tryd.ntmps91
  go_wp2_with fail
  refine (plen64 _ (by decide +kernel) (by decide +kernel) _).mono ?_
  rintro e w1 ⟨rfl, rfl⟩
  go_wp2
  go_ret
  exact ri rfl
set_option maxHeartbeats 1000000 in
set_option maxRecDepth 1000000 in
theorem combine64_106 (a b : Int) (w : World) :
    Calls Tryd.prog 98 #[.int .u8 106, .int .i64 a, .int .i64 b] w fun e w' => e = .returned (.int .i64 ((BitVec.ofInt 64 a + BitVec.ofInt 64 b).toInt)) ∧ w' = w := by
  go_enter Tryd.func98, Tryd.ntmps98
  go_wp2
  go_ret
  exact ri (by rw [w64_bv, BitVec.ofInt_add])
set_option maxHeartbeats 1000000 in
set_option maxRecDepth 1000000 in
theorem combine64_107 (a b : Int) (w : World) :
    Calls Tryd.prog 98 #[.int .u8 107, .int .i64 a, .int .i64 b] w fun e w' => e = .returned (.int .i64 ((BitVec.ofInt 64 a - BitVec.ofInt 64 b).toInt)) ∧ w' = w := by
  go_enter Tryd.func98, Tryd.ntmps98
  go_wp2
  go_ret
  exact ri (by rw [w64_bv, ofInt_sub'])
set_option maxHeartbeats 1000000 in
set_option maxRecDepth 1000000 in
theorem combine64_108 (a b : Int) (w : World) :
    Calls Tryd.prog 98 #[.int .u8 108, .int .i64 a, .int .i64 b] w fun e w' => e = .returned (.int .i64 ((BitVec.ofInt 64 a * BitVec.ofInt 64 b).toInt)) ∧ w' = w := by
  go_enter Tryd.func98, Tryd.ntmps98
  go_wp2
  go_ret
  exact ri (by rw [w64_bv, BitVec.ofInt_mul])
set_option maxHeartbeats 1000000 in
set_option maxRecDepth 1000000 in
theorem combine64_113 (a b : Int) (w : World) :
    Calls Tryd.prog 98 #[.int .u8 113, .int .i64 a, .int .i64 b] w fun e w' => e = .returned (.int .i64 ((BitVec.ofInt 64 a &&& BitVec.ofInt 64 b).toInt)) ∧ w' = w := by
  go_enter Tryd.func98, Tryd.ntmps98
  go_wp2
  go_ret
  exact ri (and64_bv a b)
set_option maxHeartbeats 1000000 in
set_option maxRecDepth 1000000 in
theorem combine64_114 (a b : Int) (w : World) :
    Calls Tryd.prog 98 #[.int .u8 114, .int .i64 a, .int .i64 b] w fun e w' => e = .returned (.int .i64 ((BitVec.ofInt 64 a ||| BitVec.ofInt 64 b).toInt)) ∧ w' = w := by
  go_enter Tryd.func98, Tryd.ntmps98
  go_wp2
  go_ret
  exact ri (or64_bv a b)
set_option maxHeartbeats 1000000 in
set_option maxRecDepth 1000000 in
theorem combine64_115 (a b : Int) (w : World) :
    Calls Tryd.prog 98 #[.int .u8 115, .int .i64 a, .int .i64 b] w fun e w' => e = .returned (.int .i64 ((BitVec.ofInt 64 a ^^^ BitVec.ofInt 64 b).toInt)) ∧ w' = w := by
  go_enter Tryd.func98, Tryd.ntmps98
  go_wp2
  go_ret
  exact ri (xor64_bv a b)
end Go.Proofs.YtdbhdgkbkhjikaaDoor
