/-
  The law of quotients without signs: its walk.
-/
import Derived.Test.YtlbilmgpnpghlabPlainCore
import Derived.OpenShut
namespace Go.Proofs.Ytlbilmgpnpghlab
open Go.RowKit

theorem pl32 (X : BitVec 32) (P : Nat) (w : World) (hc : w.cell? ⟨P, 0, none⟩ = some (.bool false)) : Calls Try.prog 6 #[.int .i64 X.toInt, .pointer (some ⟨P, 0, none⟩)] w fun e w' => e = .returned (.int .u64 (X.toNat : Int)) ∧ w' = w := by
  have h := plain_false X.toInt P w hc
  rw [u32_of] at h
  exact h
theorem plainEq32 (A B : BitVec 32) (a0 b0 : Int) (ha : fitW false a0 = A.toInt) (hb : fitW false b0 = B.toInt) (w : World) :
    Calls Try.prog 3 #[.int .i64 a0, .int .i64 b0, .bool false] w fun e w' => e = .returned (.bool true) ∧ Below w.heap.size w w' := by
  have hA := toInt_lt32 A
  have hB := toInt_lt32 B
  have HQ : ∀ w, Calls Try.prog 7 #[.int .u8 110, .int .i64 A.toInt, .int .i64 B.toInt] w fun e w' => e = .returned (.tuple #[.int .i64 (recV 4 A B).1, .int .i64 (recV 4 A B).2]) ∧ w' = w := by
    intro w
    have h := num_110 A.toInt B.toInt  w
    rw [of_toInt, of_toInt] at h
    exact h
  have HM : ∀ w, Calls Try.prog 7 #[.int .u8 112, .int .i64 A.toInt, .int .i64 B.toInt] w fun e w' => e = .returned (.tuple #[.int .i64 (recV 6 A B).1, .int .i64 (recV 6 A B).2]) ∧ w' = w := by
    intro w
    have h := num_112 A.toInt B.toInt  w
    rw [of_toInt, of_toInt] at h
    exact h
  by_cases h0 : B.toInt = 0
  · rw [show recV 4 A B = (0, 21) from if_pos h0] at HQ
    rw [show recV 6 A B = (0, 21) from if_pos h0] at HM
    have hz := (toNat_zero B).1 h0
    exact plain_zero false w.heap.size a0 b0 A.toInt B.toInt 0 0 A.toNat 110 112 ha hb (fun w => kwidth_n 110 w) (fun w => kwidth_n 112 w) HQ HM (fun w h => pl32 A _ w h) (fun w h => by have g := pl32 B _ w h; rw [hz] at g; exact g) w rfl
  · rw [show recV 4 A B = ((A / B).toInt, 0) from if_neg h0] at HQ
    rw [show recV 6 A B = ((A % B).toInt, 0) from if_neg h0] at HM
    have hz : ¬ B.toNat = 0 := fun h => h0 ((toNat_zero B).2 h)
    have e1 : (A / B).toNat = A.toNat / B.toNat := BitVec.toNat_udiv
    have e2 : (A % B).toNat = A.toNat % B.toNat := BitVec.toNat_umod
    have e3 := Nat.div_add_mod A.toNat B.toNat
    have e4 := Nat.mod_lt A.toNat (show 0 < B.toNat by omega)
    have e5 := Nat.div_le_self A.toNat B.toNat
    have e6 := A.isLt
    have e7 : (A / B).toNat * B.toNat ≤ A.toNat := by rw [e1]; exact Nat.div_mul_le_self _ _
    have e8 : (A / B).toNat * B.toNat + (A % B).toNat = A.toNat := by rw [e1, e2, Nat.mul_comm]; exact e3
    have m1 : IntKind.u64.wrap (((A / B).toNat : Int) * (B.toNat : Int)) = (((A / B).toNat * B.toNat : Nat) : Int) := by
      rw [IntKind.wrap_u64, ← Int.natCast_mul]; omega
    exact plain_norm false w.heap.size a0 b0 A.toInt B.toInt (A / B).toInt (A % B).toInt A.toNat B.toNat (A % B).toNat (A / B).toNat (((A / B).toNat * B.toNat : Nat) : Int) 110 112 ha hb (fun w => kwidth_n 110 w) (fun w => kwidth_n 112 w) HQ HM (fun w h => pl32 A _ w h) (fun w h => pl32 B _ w h) (fun w h => pl32 (A / B) _ w h) (fun w h => pl32 (A % B) _ w h)
      (by rw [beq_eq_false_iff_ne]; omega) (by omega) m1 (by rw [IntKind.wrap_u64]; omega) (by omega) w rfl
theorem pl64 (X : BitVec 64) (P : Nat) (w : World) (hc : w.cell? ⟨P, 0, none⟩ = some (.bool true)) : Calls Try.prog 6 #[.int .i64 X.toInt, .pointer (some ⟨P, 0, none⟩)] w fun e w' => e = .returned (.int .u64 (X.toNat : Int)) ∧ w' = w := by
  have h := plain_true X.toInt P w hc
  rw [u64_of] at h
  exact h
theorem plainEq64 (A B : BitVec 64) (a0 b0 : Int) (ha : fitW true a0 = A.toInt) (hb : fitW true b0 = B.toInt) (w : World) :
    Calls Try.prog 3 #[.int .i64 a0, .int .i64 b0, .bool true] w fun e w' => e = .returned (.bool true) ∧ Below w.heap.size w w' := by
  have hA := toInt_lt64 A
  have hB := toInt_lt64 B
  have HQ : ∀ w, Calls Try.prog 7 #[.int .u8 128, .int .i64 A.toInt, .int .i64 B.toInt] w fun e w' => e = .returned (.tuple #[.int .i64 (recV 4 A B).1, .int .i64 (recV 4 A B).2]) ∧ w' = w := by
    intro w
    have h := num_128 A.toInt B.toInt (by omega) (by omega) w
    rw [of_toInt, of_toInt] at h
    exact h
  have HM : ∀ w, Calls Try.prog 7 #[.int .u8 130, .int .i64 A.toInt, .int .i64 B.toInt] w fun e w' => e = .returned (.tuple #[.int .i64 (recV 6 A B).1, .int .i64 (recV 6 A B).2]) ∧ w' = w := by
    intro w
    have h := num_130 A.toInt B.toInt (by omega) (by omega) w
    rw [of_toInt, of_toInt] at h
    exact h
  by_cases h0 : B.toInt = 0
  · rw [show recV 4 A B = (0, 21) from if_pos h0] at HQ
    rw [show recV 6 A B = (0, 21) from if_pos h0] at HM
    have hz := (toNat_zero B).1 h0
    exact plain_zero true w.heap.size a0 b0 A.toInt B.toInt 0 0 A.toNat 128 130 ha hb (fun w => kwidth_b 110 (by omega) (by omega) w) (fun w => kwidth_b 112 (by omega) (by omega) w) HQ HM (fun w h => pl64 A _ w h) (fun w h => by have g := pl64 B _ w h; rw [hz] at g; exact g) w rfl
  · rw [show recV 4 A B = ((A / B).toInt, 0) from if_neg h0] at HQ
    rw [show recV 6 A B = ((A % B).toInt, 0) from if_neg h0] at HM
    have hz : ¬ B.toNat = 0 := fun h => h0 ((toNat_zero B).2 h)
    have e1 : (A / B).toNat = A.toNat / B.toNat := BitVec.toNat_udiv
    have e2 : (A % B).toNat = A.toNat % B.toNat := BitVec.toNat_umod
    have e3 := Nat.div_add_mod A.toNat B.toNat
    have e4 := Nat.mod_lt A.toNat (show 0 < B.toNat by omega)
    have e5 := Nat.div_le_self A.toNat B.toNat
    have e6 := A.isLt
    have e7 : (A / B).toNat * B.toNat ≤ A.toNat := by rw [e1]; exact Nat.div_mul_le_self _ _
    have e8 : (A / B).toNat * B.toNat + (A % B).toNat = A.toNat := by rw [e1, e2, Nat.mul_comm]; exact e3
    have m1 : IntKind.u64.wrap (((A / B).toNat : Int) * (B.toNat : Int)) = (((A / B).toNat * B.toNat : Nat) : Int) := by
      rw [IntKind.wrap_u64, ← Int.natCast_mul]; omega
    exact plain_norm true w.heap.size a0 b0 A.toInt B.toInt (A / B).toInt (A % B).toInt A.toNat B.toNat (A % B).toNat (A / B).toNat (((A / B).toNat * B.toNat : Nat) : Int) 128 130 ha hb (fun w => kwidth_b 110 (by omega) (by omega) w) (fun w => kwidth_b 112 (by omega) (by omega) w) HQ HM (fun w h => pl64 A _ w h) (fun w h => pl64 B _ w h) (fun w h => pl64 (A / B) _ w h) (fun w h => pl64 (A % B) _ w h)
      (by rw [beq_eq_false_iff_ne]; omega) (by omega) m1 (by rw [IntKind.wrap_u64]; omega) (by omega) w rfl
theorem numPlainly_walk (a0 : Int) (a1 : Int) (a2 : Bool) (w0 : (Lit.int .i64 a0).wf = true) (w1 : (Lit.int .i64 a1).wf = true) (w : World) :
    Calls Try.prog 3 #[.int .i64 a0, .int .i64 a1, .bool a2] w fun e w' => e = .returned (.bool true) ∧ Below w.heap.size w w' := by
  cases a2 with
  | false => exact plainEq32 (BitVec.ofInt 32 a0) (BitVec.ofInt 32 a1) a0 a1 (w32_bv _) (w32_bv _) w
  | true => exact plainEq64 (BitVec.ofInt 64 a0) (BitVec.ofInt 64 a1) a0 a1 (of64_toInt a0 (bounds_i64 w0)).symm (of64_toInt a1 (bounds_i64 w1)).symm w

end Go.Proofs.Ytlbilmgpnpghlab
