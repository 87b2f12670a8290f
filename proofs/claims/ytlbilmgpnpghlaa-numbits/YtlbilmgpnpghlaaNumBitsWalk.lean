/-
  The law of bits: its walk.
-/
import Derived.Test.YtlbilmgpnpghlaaBitsCore
import Derived.OpenShut
namespace Go.Proofs.Ytlbilmgpnpghlaa
open Go.RowKit

theorem nat_xor_and : ∀ (n a b : Nat), a < 2 ^ n → (a ^^^ b) + 2 * (a &&& b) = a + b := by
  intro n
  induction n with
  | zero => intro a b h; have : a = 0 := by omega
            subst this; simp
  | succ n ih =>
    intro a b h
    have h1 := ih (a / 2) (b / 2) (by rw [Nat.pow_succ] at h; omega)
    have e1 : (a ^^^ b) / 2 = a / 2 ^^^ b / 2 := Nat.xor_div_two
    have e2 : (a &&& b) / 2 = a / 2 &&& b / 2 := Nat.and_div_two
    have e3 : (a ^^^ b) % 2 = (a % 2 + b % 2) % 2 := by
      have : (a ^^^ b) % 2 = (a % 2) ^^^ (b % 2) := by
        have := Nat.xor_mod_two_pow (a := a) (b := b) (n := 1)
        simpa using this
      rw [this]
      rcases (show a % 2 = 0 ∨ a % 2 = 1 by omega) with x | x <;> rcases (show b % 2 = 0 ∨ b % 2 = 1 by omega) with y | y <;> rw [x, y] <;> rfl
    have e4 : (a &&& b) % 2 = a % 2 * (b % 2) := by
      have : (a &&& b) % 2 = (a % 2) &&& (b % 2) := by
        have := Nat.and_mod_two_pow (a := a) (b := b) (n := 1)
        simpa using this
      rw [this]
      rcases (show a % 2 = 0 ∨ a % 2 = 1 by omega) with x | x <;> rcases (show b % 2 = 0 ∨ b % 2 = 1 by omega) with y | y <;> rw [x, y] <;> rfl
    have e5 := Nat.div_add_mod (a ^^^ b) 2
    have e6 := Nat.div_add_mod (a &&& b) 2
    rw [e1] at e5
    rw [e2] at e6
    rcases (show a % 2 = 0 ∨ a % 2 = 1 by omega) with x | x <;> rcases (show b % 2 = 0 ∨ b % 2 = 1 by omega) with y | y <;> rw [x, y] at e4 <;> omega
theorem xor_and_add (W : Nat) (X Y : BitVec W) : (X ^^^ Y) + (X &&& Y) <<< 1 = X + Y := by
  apply BitVec.eq_of_toNat_eq
  have h := nat_xor_and W X.toNat Y.toNat X.isLt
  rw [BitVec.toNat_add, BitVec.toNat_add, BitVec.toNat_shiftLeft, BitVec.toNat_xor, BitVec.toNat_and, Nat.shiftLeft_eq, Nat.pow_one, Nat.add_mod_mod, Nat.mul_comm, h]
theorem r64_32 (X : BitVec 32) : R64 X.toInt := by have := toInt_lt32 X; unfold R64; omega
theorem andE32 (X Y Z : BitVec 32) (h : X &&& Y = Z) : (fun x y z => R64 x ∧ R64 y ∧ (BitVec.ofInt 32 x &&& BitVec.ofInt 32 y).toInt = z) X.toInt Y.toInt Z.toInt := ⟨r64_32 X, r64_32 Y, by rw [of_toInt, of_toInt, h]⟩
theorem bits1_32 (P : Nat) : Hid (∀ x y z, (fun x y z => R64 x ∧ R64 y ∧ (BitVec.ofInt 32 x &&& BitVec.ofInt 32 y).toInt = z) x y z → ∀ w, w.cell? ⟨P, 0, none⟩ = some (.bool false) → Calls Try.prog 15 #[.int .i64 x, .int .i64 y, .pointer (some ⟨P, 0, none⟩)] w fun e w' => e = .returned (.int .i64 z) ∧ w' = w) := by
  intro x y z h w hc
  obtain ⟨_, _, hz⟩ := h
  rw [← hz]
  exact c_NumBits_1 false P x y _ 113 (fun w => kwidth_n 113 w) (fun w w' => w' = w) (fun w => ktwo 113 x y _ _ (fun w w' => w' = w) (fun w => num_113 x y w) w) w hc
theorem orE32 (X Y Z : BitVec 32) (h : X ||| Y = Z) : (fun x y z => R64 x ∧ R64 y ∧ (BitVec.ofInt 32 x ||| BitVec.ofInt 32 y).toInt = z) X.toInt Y.toInt Z.toInt := ⟨r64_32 X, r64_32 Y, by rw [of_toInt, of_toInt, h]⟩
theorem bits2_32 (P : Nat) : Hid (∀ x y z, (fun x y z => R64 x ∧ R64 y ∧ (BitVec.ofInt 32 x ||| BitVec.ofInt 32 y).toInt = z) x y z → ∀ w, w.cell? ⟨P, 0, none⟩ = some (.bool false) → Calls Try.prog 16 #[.int .i64 x, .int .i64 y, .pointer (some ⟨P, 0, none⟩)] w fun e w' => e = .returned (.int .i64 z) ∧ w' = w) := by
  intro x y z h w hc
  obtain ⟨_, _, hz⟩ := h
  rw [← hz]
  exact c_NumBits_2 false P x y _ 114 (fun w => kwidth_n 114 w) (fun w w' => w' = w) (fun w => ktwo 114 x y _ _ (fun w w' => w' = w) (fun w => num_114 x y w) w) w hc
theorem xorE32 (X Y Z : BitVec 32) (h : X ^^^ Y = Z) : (fun x y z => R64 x ∧ R64 y ∧ (BitVec.ofInt 32 x ^^^ BitVec.ofInt 32 y).toInt = z) X.toInt Y.toInt Z.toInt := ⟨r64_32 X, r64_32 Y, by rw [of_toInt, of_toInt, h]⟩
theorem bits3_32 (P : Nat) : Hid (∀ x y z, (fun x y z => R64 x ∧ R64 y ∧ (BitVec.ofInt 32 x ^^^ BitVec.ofInt 32 y).toInt = z) x y z → ∀ w, w.cell? ⟨P, 0, none⟩ = some (.bool false) → Calls Try.prog 17 #[.int .i64 x, .int .i64 y, .pointer (some ⟨P, 0, none⟩)] w fun e w' => e = .returned (.int .i64 z) ∧ w' = w) := by
  intro x y z h w hc
  obtain ⟨_, _, hz⟩ := h
  rw [← hz]
  exact c_NumBits_3 false P x y _ 115 (fun w => kwidth_n 115 w) (fun w w' => w' = w) (fun w => ktwo 115 x y _ _ (fun w w' => w' = w) (fun w => num_115 x y w) w) w hc
theorem bt106_32 : Hid (∀ x y z, (fun x y z => R64 x ∧ R64 y ∧ (BitVec.ofInt 32 x + BitVec.ofInt 32 y).toInt = z) x y z → ∀ w, Calls Try.prog 11 #[.int .u8 106, .int .i64 x, .int .i64 y] w fun e w' => e = .returned (.int .i64 z) ∧ w' = w) := by
  intro x y z h w
  obtain ⟨_, _, hz⟩ := h
  rw [← hz]
  exact ktwo 106 x y _ _ (fun w w' => w' = w) (fun w => num_106 x y w) w
theorem bt116_32 : Hid (∀ x y z, (fun x y z => R64 x ∧ R64 y ∧ (BitVec.ofInt 32 x <<< ((BitVec.ofInt 32 y).toNat % 32)).toInt = z) x y z → ∀ w, Calls Try.prog 11 #[.int .u8 116, .int .i64 x, .int .i64 y] w fun e w' => e = .returned (.int .i64 z) ∧ w' = w) := by
  intro x y z h w
  obtain ⟨_, _, hz⟩ := h
  rw [← hz]
  exact ktwo 116 x y _ _ (fun w w' => w' = w) (fun w => num_116 x y w) w
theorem bitsEq32 (A B C : BitVec 32) (a0 b0 c0 : Int) (ha : fitW false a0 = A.toInt) (hb : fitW false b0 = B.toInt) (hc : fitW false c0 = C.toInt) (w : World) :
    Calls Try.prog 5 #[.int .i64 a0, .int .i64 b0, .int .i64 c0, .bool false] w fun e w' => e = .returned (.bool true) ∧ Below w.heap.size w w' := by
  have z0 : (0 : Int) = (0#32).toInt := by decide
  have z1 : (1 : Int) = (1#32).toInt := by decide
  have z2 : (-1 : Int) = (-1#32).toInt := by decide
  have hnot : ∀ X : BitVec 32, X ^^^ -1#32 = ~~~X := by intro X; rw [show (-1#32) = BitVec.allOnes 32 by decide, BitVec.xor_allOnes]
  exact numBits_core false a0 b0 c0 A.toInt B.toInt C.toInt (A &&& B).toInt (~~~(A &&& B)).toInt (~~~A).toInt (~~~B).toInt (B ||| C).toInt (A &&& (B ||| C)).toInt (A &&& C).toInt (A ^^^ B).toInt (A ||| B).toInt ((A &&& B) <<< 1).toInt (A + B).toInt 106 116 w.heap.size _ _ _ _ _ (bits1_32 _) (bits2_32 _) (bits3_32 _) (fun w => kwidth_n 106 w) (fun w => kwidth_n 116 w) bt106_32 bt116_32 ha hb hc
    (andE32 _ _ _ rfl) (by rw [z2]; exact xorE32 _ _ _ (hnot _)) (by rw [z2]; exact xorE32 _ _ _ (hnot _)) (by rw [z2]; exact xorE32 _ _ _ (hnot _)) (orE32 _ _ _ BitVec.not_and.symm) (orE32 _ _ _ rfl) (andE32 _ _ _ rfl) (andE32 _ _ _ rfl) (orE32 _ _ _ (by apply BitVec.eq_of_getLsbD_eq; intro i hi; simp only [BitVec.getLsbD_or, BitVec.getLsbD_and]; cases A.getLsbD i <;> cases B.getLsbD i <;> cases C.getLsbD i <;> rfl)) (xorE32 _ _ _ rfl) (orE32 _ _ _ rfl) (andE32 _ _ _ (by apply BitVec.eq_of_getLsbD_eq; intro i hi; simp only [BitVec.getLsbD_or, BitVec.getLsbD_and, BitVec.getLsbD_xor, BitVec.getLsbD_not, hi, decide_true]; cases A.getLsbD i <;> cases B.getLsbD i <;> rfl)) (by rw [z2]; exact xorE32 _ _ _ (by rw [hnot, BitVec.not_not])) (by rw [z0]; exact andE32 _ _ _ (by apply BitVec.eq_of_getLsbD_eq; intro i hi; simp only [BitVec.getLsbD_and, BitVec.getLsbD_not, hi, decide_true, BitVec.getLsbD_zero]; cases A.getLsbD i <;> rfl)) (by rw [z2]; exact orE32 _ _ _ (by rw [show (-1#32) = BitVec.allOnes 32 by decide]; apply BitVec.eq_of_getLsbD_eq; intro i hi; simp only [BitVec.getLsbD_or, BitVec.getLsbD_not, hi, decide_true, BitVec.getLsbD_allOnes]; cases A.getLsbD i <;> rfl)) ⟨r64_32 _, by unfold R64; omega, by rw [of_toInt, show (BitVec.ofInt 32 1).toNat % 32 = 1 by decide]⟩ ⟨r64_32 _, r64_32 _, by rw [of_toInt, of_toInt, xor_and_add]⟩ ⟨r64_32 _, r64_32 _, by rw [of_toInt, of_toInt]⟩ w rfl
theorem r64_64 (X : BitVec 64) : R64 X.toInt := by have := toInt_lt64 X; unfold R64; omega
theorem andE64 (X Y Z : BitVec 64) (h : X &&& Y = Z) : (fun x y z => R64 x ∧ R64 y ∧ (BitVec.ofInt 64 x &&& BitVec.ofInt 64 y).toInt = z) X.toInt Y.toInt Z.toInt := ⟨r64_64 X, r64_64 Y, by rw [of_toInt, of_toInt, h]⟩
theorem bits1_64 (P : Nat) : Hid (∀ x y z, (fun x y z => R64 x ∧ R64 y ∧ (BitVec.ofInt 64 x &&& BitVec.ofInt 64 y).toInt = z) x y z → ∀ w, w.cell? ⟨P, 0, none⟩ = some (.bool true) → Calls Try.prog 15 #[.int .i64 x, .int .i64 y, .pointer (some ⟨P, 0, none⟩)] w fun e w' => e = .returned (.int .i64 z) ∧ w' = w) := by
  intro x y z h w hc
  obtain ⟨hx, hy, hz⟩ := h
  rw [← hz]
  exact c_NumBits_1 true P x y _ 131 (fun w => kwidth_b 113 (by omega) (by omega) w) (fun w w' => w' = w) (fun w => ktwo 131 x y _ _ (fun w w' => w' = w) (fun w => num_131 x y hx hy w) w) w hc
theorem orE64 (X Y Z : BitVec 64) (h : X ||| Y = Z) : (fun x y z => R64 x ∧ R64 y ∧ (BitVec.ofInt 64 x ||| BitVec.ofInt 64 y).toInt = z) X.toInt Y.toInt Z.toInt := ⟨r64_64 X, r64_64 Y, by rw [of_toInt, of_toInt, h]⟩
theorem bits2_64 (P : Nat) : Hid (∀ x y z, (fun x y z => R64 x ∧ R64 y ∧ (BitVec.ofInt 64 x ||| BitVec.ofInt 64 y).toInt = z) x y z → ∀ w, w.cell? ⟨P, 0, none⟩ = some (.bool true) → Calls Try.prog 16 #[.int .i64 x, .int .i64 y, .pointer (some ⟨P, 0, none⟩)] w fun e w' => e = .returned (.int .i64 z) ∧ w' = w) := by
  intro x y z h w hc
  obtain ⟨hx, hy, hz⟩ := h
  rw [← hz]
  exact c_NumBits_2 true P x y _ 132 (fun w => kwidth_b 114 (by omega) (by omega) w) (fun w w' => w' = w) (fun w => ktwo 132 x y _ _ (fun w w' => w' = w) (fun w => num_132 x y hx hy w) w) w hc
theorem xorE64 (X Y Z : BitVec 64) (h : X ^^^ Y = Z) : (fun x y z => R64 x ∧ R64 y ∧ (BitVec.ofInt 64 x ^^^ BitVec.ofInt 64 y).toInt = z) X.toInt Y.toInt Z.toInt := ⟨r64_64 X, r64_64 Y, by rw [of_toInt, of_toInt, h]⟩
theorem bits3_64 (P : Nat) : Hid (∀ x y z, (fun x y z => R64 x ∧ R64 y ∧ (BitVec.ofInt 64 x ^^^ BitVec.ofInt 64 y).toInt = z) x y z → ∀ w, w.cell? ⟨P, 0, none⟩ = some (.bool true) → Calls Try.prog 17 #[.int .i64 x, .int .i64 y, .pointer (some ⟨P, 0, none⟩)] w fun e w' => e = .returned (.int .i64 z) ∧ w' = w) := by
  intro x y z h w hc
  obtain ⟨hx, hy, hz⟩ := h
  rw [← hz]
  exact c_NumBits_3 true P x y _ 133 (fun w => kwidth_b 115 (by omega) (by omega) w) (fun w w' => w' = w) (fun w => ktwo 133 x y _ _ (fun w w' => w' = w) (fun w => num_133 x y hx hy w) w) w hc
theorem bt106_64 : Hid (∀ x y z, (fun x y z => R64 x ∧ R64 y ∧ (BitVec.ofInt 64 x + BitVec.ofInt 64 y).toInt = z) x y z → ∀ w, Calls Try.prog 11 #[.int .u8 124, .int .i64 x, .int .i64 y] w fun e w' => e = .returned (.int .i64 z) ∧ w' = w) := by
  intro x y z h w
  obtain ⟨hx, hy, hz⟩ := h
  rw [← hz]
  exact ktwo 124 x y _ _ (fun w w' => w' = w) (fun w => num_124 x y hx hy w) w
theorem bt116_64 : Hid (∀ x y z, (fun x y z => R64 x ∧ R64 y ∧ (BitVec.ofInt 64 x <<< ((BitVec.ofInt 64 y).toNat % 64)).toInt = z) x y z → ∀ w, Calls Try.prog 11 #[.int .u8 134, .int .i64 x, .int .i64 y] w fun e w' => e = .returned (.int .i64 z) ∧ w' = w) := by
  intro x y z h w
  obtain ⟨hx, hy, hz⟩ := h
  rw [← hz]
  exact ktwo 134 x y _ _ (fun w w' => w' = w) (fun w => num_134 x y hx hy w) w
theorem bitsEq64 (A B C : BitVec 64) (a0 b0 c0 : Int) (ha : fitW true a0 = A.toInt) (hb : fitW true b0 = B.toInt) (hc : fitW true c0 = C.toInt) (w : World) :
    Calls Try.prog 5 #[.int .i64 a0, .int .i64 b0, .int .i64 c0, .bool true] w fun e w' => e = .returned (.bool true) ∧ Below w.heap.size w w' := by
  have z0 : (0 : Int) = (0#64).toInt := by decide
  have z1 : (1 : Int) = (1#64).toInt := by decide
  have z2 : (-1 : Int) = (-1#64).toInt := by decide
  have hnot : ∀ X : BitVec 64, X ^^^ -1#64 = ~~~X := by intro X; rw [show (-1#64) = BitVec.allOnes 64 by decide, BitVec.xor_allOnes]
  exact numBits_core true a0 b0 c0 A.toInt B.toInt C.toInt (A &&& B).toInt (~~~(A &&& B)).toInt (~~~A).toInt (~~~B).toInt (B ||| C).toInt (A &&& (B ||| C)).toInt (A &&& C).toInt (A ^^^ B).toInt (A ||| B).toInt ((A &&& B) <<< 1).toInt (A + B).toInt 124 134 w.heap.size _ _ _ _ _ (bits1_64 _) (bits2_64 _) (bits3_64 _) (fun w => kwidth_b 106 (by omega) (by omega) w) (fun w => kwidth_b 116 (by omega) (by omega) w) bt106_64 bt116_64 ha hb hc
    (andE64 _ _ _ rfl) (by rw [z2]; exact xorE64 _ _ _ (hnot _)) (by rw [z2]; exact xorE64 _ _ _ (hnot _)) (by rw [z2]; exact xorE64 _ _ _ (hnot _)) (orE64 _ _ _ BitVec.not_and.symm) (orE64 _ _ _ rfl) (andE64 _ _ _ rfl) (andE64 _ _ _ rfl) (orE64 _ _ _ (by apply BitVec.eq_of_getLsbD_eq; intro i hi; simp only [BitVec.getLsbD_or, BitVec.getLsbD_and]; cases A.getLsbD i <;> cases B.getLsbD i <;> cases C.getLsbD i <;> rfl)) (xorE64 _ _ _ rfl) (orE64 _ _ _ rfl) (andE64 _ _ _ (by apply BitVec.eq_of_getLsbD_eq; intro i hi; simp only [BitVec.getLsbD_or, BitVec.getLsbD_and, BitVec.getLsbD_xor, BitVec.getLsbD_not, hi, decide_true]; cases A.getLsbD i <;> cases B.getLsbD i <;> rfl)) (by rw [z2]; exact xorE64 _ _ _ (by rw [hnot, BitVec.not_not])) (by rw [z0]; exact andE64 _ _ _ (by apply BitVec.eq_of_getLsbD_eq; intro i hi; simp only [BitVec.getLsbD_and, BitVec.getLsbD_not, hi, decide_true, BitVec.getLsbD_zero]; cases A.getLsbD i <;> rfl)) (by rw [z2]; exact orE64 _ _ _ (by rw [show (-1#64) = BitVec.allOnes 64 by decide]; apply BitVec.eq_of_getLsbD_eq; intro i hi; simp only [BitVec.getLsbD_or, BitVec.getLsbD_not, hi, decide_true, BitVec.getLsbD_allOnes]; cases A.getLsbD i <;> rfl)) ⟨r64_64 _, by unfold R64; omega, by rw [of_toInt, show (BitVec.ofInt 64 1).toNat % 64 = 1 by decide]⟩ ⟨r64_64 _, r64_64 _, by rw [of_toInt, of_toInt, xor_and_add]⟩ ⟨r64_64 _, r64_64 _, by rw [of_toInt, of_toInt]⟩ w rfl
theorem numBits_walk (a0 : Int) (a1 : Int) (a2 : Int) (a3 : Bool) (w0 : (Lit.int .i64 a0).wf = true) (w1 : (Lit.int .i64 a1).wf = true) (w2 : (Lit.int .i64 a2).wf = true) (w : World) :
    Calls Try.prog 5 #[.int .i64 a0, .int .i64 a1, .int .i64 a2, .bool a3] w fun e w' => e = .returned (.bool true) ∧ Below w.heap.size w w' := by
  cases a3 with
  | false => exact bitsEq32 (BitVec.ofInt 32 a0) (BitVec.ofInt 32 a1) (BitVec.ofInt 32 a2) a0 a1 a2 (w32_bv _) (w32_bv _) (w32_bv _) w
  | true => exact bitsEq64 (BitVec.ofInt 64 a0) (BitVec.ofInt 64 a1) (BitVec.ofInt 64 a2) a0 a1 a2 (of64_toInt a0 (bounds_i64 w0)).symm (of64_toInt a1 (bounds_i64 w1)).symm (of64_toInt a2 (bounds_i64 w2)).symm w

end Go.Proofs.Ytlbilmgpnpghlaa
