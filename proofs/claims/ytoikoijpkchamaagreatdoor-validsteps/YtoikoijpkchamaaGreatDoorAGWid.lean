/-
 What the document's own takes does. What the document's own digits does. What the document's own InsWidth does. What the document's own InsWidth does. What the document's own beside does.
-/
import Derived.Test.YtoikoijpkchamaaGreatDoorAGRef
import Derived.Test.YtoikoijpkchamaaGreatDoorAQF
import Derived.Test.YtoikoijpkchamaaGreatDoorAGIns
import Derived.Test.YtoikoijpkchamaaGreatDoorAInsR5
set_option maxHeartbeats 2000000
set_option maxRecDepth 1000000
namespace Go.Proofs.YtoikoijpkchamaaGreatDoor
set_option linter.unusedVariables false
open Go.RowKit
def takL (n : Int) : ByteArray :=
 if n = 69 ∨ (103 ≤ n ∧ n ≤ 105) ∨ n = 192 ∨ n = 193 ∨ n = 64 ∨ n = 40 ∨ (44 ≤ n ∧ n ≤ 47) then ⟨#[105, 62, 105]⟩ else
 if n = 80 ∨ n = 167 then ⟨#[108, 62, 105]⟩ else
 if (70 ≤ n ∧ n ≤ 79) ∨ (106 ≤ n ∧ n ≤ 120) then ⟨#[105, 105, 62, 105]⟩ else
 if (81 ≤ n ∧ n ≤ 90) then ⟨#[108, 108, 62, 105]⟩ else
 if (121 ≤ n ∧ n ≤ 123) ∨ (194 ≤ n ∧ n ≤ 196) then ⟨#[108, 62, 108]⟩ else
 if (124 ≤ n ∧ n ≤ 138) then ⟨#[108, 108, 62, 108]⟩ else
 if n = 172 ∨ n = 173 ∨ n = 41 ∨ (48 ≤ n ∧ n ≤ 53) then ⟨#[105, 62, 108]⟩ else
 if n = 54 ∨ n = 58 ∨ n = 59 then ⟨#[105, 105, 62]⟩ else
 if n = 55 ∨ (60 ≤ n ∧ n ≤ 62) then ⟨#[105, 108, 62]⟩ else
 if n = 63 ∨ n = 65 then ⟨#[62, 105]⟩ else
 if n = 66 then ⟨#[62, 108]⟩ else
 ⟨#[63]⟩
theorem takes_any (op : Int) (h0 : 0 ≤ op) (h1 : op < 256) (w : World) :
  Calls Tryz.prog 53 #[.int .u8 op] w fun e w' => e = .returned (.string (takL op)) ∧ w' = w := by
 have hwr : IntKind.i64.wrap op = op := by
  have : ∀ n : Nat, n < 256 → IntKind.i64.wrap (n : Int) = n := by decide +kernel
  have := this op.toNat (by omega)
  rwa [Int.toNat_of_nonneg h0] at this
 go_enter Tryz.func53, Tryz.ntmps53
 go_wp2
 all_goals
  go_ret
  refine ⟨ret_s ?_, rfl⟩
  try simp only [beq_iff_eq, beq_eq_false_iff_ne, ne_eq] at *
  rw [takL]
  repeat (first | rw [if_pos (by omega)] | rw [if_neg (by omega)])
  try rfl
end Go.Proofs.YtoikoijpkchamaaGreatDoor
namespace Go.Proofs.YtoikoijpkchamaaGreatDoor
open Go.RowKit
end Go.Proofs.YtoikoijpkchamaaGreatDoor
namespace Go.Proofs.YtoikoijpkchamaaGreatDoor
open Go.RowKit
end Go.Proofs.YtoikoijpkchamaaGreatDoor
namespace Go.Proofs.YtoikoijpkchamaaGreatDoor
open Go.RowKit
end Go.Proofs.YtoikoijpkchamaaGreatDoor
namespace Go.Proofs.YtoikoijpkchamaaGreatDoor
open Go.RowKit
end Go.Proofs.YtoikoijpkchamaaGreatDoor
