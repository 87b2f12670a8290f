/-
  The law of rings: its walk.
-/
import Derived.Test.YtlbilmgpnpghlaaRingCore
import Derived.OpenShut
namespace Go.Proofs.Ytlbilmgpnpghlaa
open Go.RowKit

theorem r64_32 (X : BitVec 32) : R64 X.toInt := by have := toInt_lt32 X; unfold R64; omega
theorem addE32 (X Y Z : BitVec 32) (h : X + Y = Z) : (fun x y z => R64 x ∧ R64 y ∧ (BitVec.ofInt 32 x + BitVec.ofInt 32 y).toInt = z) X.toInt Y.toInt Z.toInt := ⟨r64_32 X, r64_32 Y, by rw [of_toInt, of_toInt, h]⟩
theorem ring1_32 (P : Nat) : Hid (∀ x y z, (fun x y z => R64 x ∧ R64 y ∧ (BitVec.ofInt 32 x + BitVec.ofInt 32 y).toInt = z) x y z → ∀ w, w.cell? ⟨P, 0, none⟩ = some (.bool false) → Calls Try.prog 10 #[.int .i64 x, .int .i64 y, .pointer (some ⟨P, 0, none⟩)] w fun e w' => e = .returned (.int .i64 z) ∧ w' = w) := by
  intro x y z h w hc
  obtain ⟨_, _, hz⟩ := h
  rw [← hz]
  exact c_NumRing_1 false P x y _ 106 (fun w => kwidth_n 106 w) (fun w w' => w' = w) (fun w => ktwo 106 x y _ _ (fun w w' => w' = w) (fun w => num_106 x y w) w) w hc
theorem subE32 (X Y Z : BitVec 32) (h : X - Y = Z) : (fun x y z => R64 x ∧ R64 y ∧ (BitVec.ofInt 32 x - BitVec.ofInt 32 y).toInt = z) X.toInt Y.toInt Z.toInt := ⟨r64_32 X, r64_32 Y, by rw [of_toInt, of_toInt, h]⟩
theorem ring2_32 (P : Nat) : Hid (∀ x y z, (fun x y z => R64 x ∧ R64 y ∧ (BitVec.ofInt 32 x - BitVec.ofInt 32 y).toInt = z) x y z → ∀ w, w.cell? ⟨P, 0, none⟩ = some (.bool false) → Calls Try.prog 13 #[.int .i64 x, .int .i64 y, .pointer (some ⟨P, 0, none⟩)] w fun e w' => e = .returned (.int .i64 z) ∧ w' = w) := by
  intro x y z h w hc
  obtain ⟨_, _, hz⟩ := h
  rw [← hz]
  exact c_NumRing_2 false P x y _ 107 (fun w => kwidth_n 107 w) (fun w w' => w' = w) (fun w => ktwo 107 x y _ _ (fun w w' => w' = w) (fun w => num_107 x y w) w) w hc
theorem mulE32 (X Y Z : BitVec 32) (h : X * Y = Z) : (fun x y z => R64 x ∧ R64 y ∧ (BitVec.ofInt 32 x * BitVec.ofInt 32 y).toInt = z) X.toInt Y.toInt Z.toInt := ⟨r64_32 X, r64_32 Y, by rw [of_toInt, of_toInt, h]⟩
theorem ring3_32 (P : Nat) : Hid (∀ x y z, (fun x y z => R64 x ∧ R64 y ∧ (BitVec.ofInt 32 x * BitVec.ofInt 32 y).toInt = z) x y z → ∀ w, w.cell? ⟨P, 0, none⟩ = some (.bool false) → Calls Try.prog 14 #[.int .i64 x, .int .i64 y, .pointer (some ⟨P, 0, none⟩)] w fun e w' => e = .returned (.int .i64 z) ∧ w' = w) := by
  intro x y z h w hc
  obtain ⟨_, _, hz⟩ := h
  rw [← hz]
  exact c_NumRing_3 false P x y _ 108 (fun w => kwidth_n 108 w) (fun w w' => w' = w) (fun w => ktwo 108 x y _ _ (fun w w' => w' = w) (fun w => num_108 x y w) w) w hc
theorem ringEq32 (A B C : BitVec 32) (a0 b0 c0 : Int) (ha : fitW false a0 = A.toInt) (hb : fitW false b0 = B.toInt) (hc : fitW false c0 = C.toInt) (w : World) :
    Calls Try.prog 4 #[.int .i64 a0, .int .i64 b0, .int .i64 c0, .bool false] w fun e w' => e = .returned (.bool true) ∧ Below w.heap.size w w' := by
  have z0 : (0 : Int) = (0#32).toInt := by decide
  have z1 : (1 : Int) = (1#32).toInt := by decide
  have z2 : (-1 : Int) = (-1#32).toInt := by decide
  refine numRing_core false a0 b0 c0 A.toInt B.toInt C.toInt (A + B).toInt (A + B + C).toInt (B + C).toInt (A - B).toInt (A * B).toInt (A * B * C).toInt (B * C).toInt (A * (B + C)).toInt (A * C).toInt (0#32 - A).toInt w.heap.size _ _ _ (ring1_32 _) (ring2_32 _) (ring3_32 _) ha hb hc
    (addE32 _ _ _ rfl) (addE32 _ _ _ (BitVec.add_comm _ _)) (addE32 _ _ _ rfl) (addE32 _ _ _ rfl) (addE32 _ _ _ (BitVec.add_assoc _ _ _).symm) (by rw [z0]; exact addE32 _ _ _ (BitVec.add_zero _))
    (by rw [z0]; exact subE32 _ _ _ (BitVec.sub_self _)) (subE32 _ _ _ rfl) (addE32 _ _ _ (BitVec.sub_add_cancel _ _))
    (mulE32 _ _ _ rfl) (mulE32 _ _ _ (BitVec.mul_comm _ _)) (mulE32 _ _ _ rfl) (mulE32 _ _ _ rfl) (mulE32 _ _ _ (BitVec.mul_assoc _ _ _).symm) (by rw [z1]; exact mulE32 _ _ _ (BitVec.mul_one _))
    (mulE32 _ _ _ rfl) (mulE32 _ _ _ rfl) (addE32 _ _ _ BitVec.mul_add.symm) (by rw [z0]; exact subE32 _ _ _ rfl) (by rw [z2]; exact mulE32 _ _ _ (by rw [BitVec.mul_neg, BitVec.mul_one, BitVec.zero_sub])) w rfl
theorem r64_64 (X : BitVec 64) : R64 X.toInt := by have := toInt_lt64 X; unfold R64; omega
theorem addE64 (X Y Z : BitVec 64) (h : X + Y = Z) : (fun x y z => R64 x ∧ R64 y ∧ (BitVec.ofInt 64 x + BitVec.ofInt 64 y).toInt = z) X.toInt Y.toInt Z.toInt := ⟨r64_64 X, r64_64 Y, by rw [of_toInt, of_toInt, h]⟩
theorem ring1_64 (P : Nat) : Hid (∀ x y z, (fun x y z => R64 x ∧ R64 y ∧ (BitVec.ofInt 64 x + BitVec.ofInt 64 y).toInt = z) x y z → ∀ w, w.cell? ⟨P, 0, none⟩ = some (.bool true) → Calls Try.prog 10 #[.int .i64 x, .int .i64 y, .pointer (some ⟨P, 0, none⟩)] w fun e w' => e = .returned (.int .i64 z) ∧ w' = w) := by
  intro x y z h w hc
  obtain ⟨hx, hy, hz⟩ := h
  rw [← hz]
  exact c_NumRing_1 true P x y _ 124 (fun w => kwidth_b 106 (by omega) (by omega) w) (fun w w' => w' = w) (fun w => ktwo 124 x y _ _ (fun w w' => w' = w) (fun w => num_124 x y hx hy w) w) w hc
theorem subE64 (X Y Z : BitVec 64) (h : X - Y = Z) : (fun x y z => R64 x ∧ R64 y ∧ (BitVec.ofInt 64 x - BitVec.ofInt 64 y).toInt = z) X.toInt Y.toInt Z.toInt := ⟨r64_64 X, r64_64 Y, by rw [of_toInt, of_toInt, h]⟩
theorem ring2_64 (P : Nat) : Hid (∀ x y z, (fun x y z => R64 x ∧ R64 y ∧ (BitVec.ofInt 64 x - BitVec.ofInt 64 y).toInt = z) x y z → ∀ w, w.cell? ⟨P, 0, none⟩ = some (.bool true) → Calls Try.prog 13 #[.int .i64 x, .int .i64 y, .pointer (some ⟨P, 0, none⟩)] w fun e w' => e = .returned (.int .i64 z) ∧ w' = w) := by
  intro x y z h w hc
  obtain ⟨hx, hy, hz⟩ := h
  rw [← hz]
  exact c_NumRing_2 true P x y _ 125 (fun w => kwidth_b 107 (by omega) (by omega) w) (fun w w' => w' = w) (fun w => ktwo 125 x y _ _ (fun w w' => w' = w) (fun w => num_125 x y hx hy w) w) w hc
theorem mulE64 (X Y Z : BitVec 64) (h : X * Y = Z) : (fun x y z => R64 x ∧ R64 y ∧ (BitVec.ofInt 64 x * BitVec.ofInt 64 y).toInt = z) X.toInt Y.toInt Z.toInt := ⟨r64_64 X, r64_64 Y, by rw [of_toInt, of_toInt, h]⟩
theorem ring3_64 (P : Nat) : Hid (∀ x y z, (fun x y z => R64 x ∧ R64 y ∧ (BitVec.ofInt 64 x * BitVec.ofInt 64 y).toInt = z) x y z → ∀ w, w.cell? ⟨P, 0, none⟩ = some (.bool true) → Calls Try.prog 14 #[.int .i64 x, .int .i64 y, .pointer (some ⟨P, 0, none⟩)] w fun e w' => e = .returned (.int .i64 z) ∧ w' = w) := by
  intro x y z h w hc
  obtain ⟨hx, hy, hz⟩ := h
  rw [← hz]
  exact c_NumRing_3 true P x y _ 126 (fun w => kwidth_b 108 (by omega) (by omega) w) (fun w w' => w' = w) (fun w => ktwo 126 x y _ _ (fun w w' => w' = w) (fun w => num_126 x y hx hy w) w) w hc
theorem ringEq64 (A B C : BitVec 64) (a0 b0 c0 : Int) (ha : fitW true a0 = A.toInt) (hb : fitW true b0 = B.toInt) (hc : fitW true c0 = C.toInt) (w : World) :
    Calls Try.prog 4 #[.int .i64 a0, .int .i64 b0, .int .i64 c0, .bool true] w fun e w' => e = .returned (.bool true) ∧ Below w.heap.size w w' := by
  have z0 : (0 : Int) = (0#64).toInt := by decide
  have z1 : (1 : Int) = (1#64).toInt := by decide
  have z2 : (-1 : Int) = (-1#64).toInt := by decide
  refine numRing_core true a0 b0 c0 A.toInt B.toInt C.toInt (A + B).toInt (A + B + C).toInt (B + C).toInt (A - B).toInt (A * B).toInt (A * B * C).toInt (B * C).toInt (A * (B + C)).toInt (A * C).toInt (0#64 - A).toInt w.heap.size _ _ _ (ring1_64 _) (ring2_64 _) (ring3_64 _) ha hb hc
    (addE64 _ _ _ rfl) (addE64 _ _ _ (BitVec.add_comm _ _)) (addE64 _ _ _ rfl) (addE64 _ _ _ rfl) (addE64 _ _ _ (BitVec.add_assoc _ _ _).symm) (by rw [z0]; exact addE64 _ _ _ (BitVec.add_zero _))
    (by rw [z0]; exact subE64 _ _ _ (BitVec.sub_self _)) (subE64 _ _ _ rfl) (addE64 _ _ _ (BitVec.sub_add_cancel _ _))
    (mulE64 _ _ _ rfl) (mulE64 _ _ _ (BitVec.mul_comm _ _)) (mulE64 _ _ _ rfl) (mulE64 _ _ _ rfl) (mulE64 _ _ _ (BitVec.mul_assoc _ _ _).symm) (by rw [z1]; exact mulE64 _ _ _ (BitVec.mul_one _))
    (mulE64 _ _ _ rfl) (mulE64 _ _ _ rfl) (addE64 _ _ _ BitVec.mul_add.symm) (by rw [z0]; exact subE64 _ _ _ rfl) (by rw [z2]; exact mulE64 _ _ _ (by rw [BitVec.mul_neg, BitVec.mul_one, BitVec.zero_sub])) w rfl
theorem wf_R64 {a : Int} (h : (Lit.int .i64 a).wf = true) : R64 a := by
  exact bounds_i64 h
theorem numRing_walk (a0 : Int) (a1 : Int) (a2 : Int) (a3 : Bool) (w0 : (Lit.int .i64 a0).wf = true) (w1 : (Lit.int .i64 a1).wf = true) (w2 : (Lit.int .i64 a2).wf = true) (w : World) :
    Calls Try.prog 4 #[.int .i64 a0, .int .i64 a1, .int .i64 a2, .bool a3] w fun e w' => e = .returned (.bool true) ∧ Below w.heap.size w w' := by
  cases a3 with
  | false => exact ringEq32 (BitVec.ofInt 32 a0) (BitVec.ofInt 32 a1) (BitVec.ofInt 32 a2) a0 a1 a2 (w32_bv _) (w32_bv _) (w32_bv _) w
  | true => exact ringEq64 (BitVec.ofInt 64 a0) (BitVec.ofInt 64 a1) (BitVec.ofInt 64 a2) a0 a1 a2 (of64_toInt a0 (wf_R64 w0)).symm (of64_toInt a1 (wf_R64 w1)).symm (of64_toInt a2 (wf_R64 w2)).symm w

end Go.Proofs.Ytlbilmgpnpghlaa
