/-
  The law of narrowing: its walk.
-/
import Derived.Test.YtlbilmgpnpghlabDoorNarrowCore
import Derived.Test.YtlbilmgpnpghlabDoorPFit
import Derived.OpenShut
namespace Go.Proofs.YtlbilmgpnpghlabDoor
open Go.RowKit

theorem cut_of (Z : BitVec 64) : wrap32 Z.toInt = (Z.setWidth 32).toInt := by
  rw [w32_bv]
  congr 1
  apply BitVec.eq_of_toNat_eq
  rw [BitVec.toNat_ofInt, BitVec.toNat_setWidth]
  have h := u64_of Z
  rw [IntKind.wrap_u64] at h
  omega
theorem of_cut (a : Int) : (BitVec.ofInt 64 a).setWidth 32 = BitVec.ofInt 32 a := by
  apply BitVec.eq_of_toNat_eq
  rw [BitVec.toNat_setWidth, BitVec.toNat_ofInt, BitVec.toNat_ofInt]
  omega
theorem sub_cut (X Y : BitVec 64) : (X - Y).setWidth 32 = X.setWidth 32 - Y.setWidth 32 := by
  apply BitVec.eq_of_toNat_eq
  rw [BitVec.toNat_setWidth, BitVec.toNat_sub, BitVec.toNat_sub, BitVec.toNat_setWidth, BitVec.toNat_setWidth]
  have := X.isLt
  have := Y.isLt
  omega
/-- What an instruction of two numbers tells. -/
def TT (o x y z : Int) : Prop := ∀ w, Calls Tryd.prog 8 #[.int .u8 o, .int .i64 x, .int .i64 y] w fun e w' => e = .returned (.int .i64 z) ∧ w' = w
/-- What an instruction of one number tells. -/
def OO (o x z : Int) : Prop := ∀ w, Calls Tryd.prog 7 #[.int .u8 o, .int .i64 x] w fun e w' => e = .returned (.int .i64 z) ∧ w' = w
theorem nar_106 (a b : Int) (ha : R64 a) (hb : R64 b) : ∃ u v, TT 106 a b u ∧ TT (106 + 18) a b v ∧ OO 167 v u := by
  refine ⟨_, _, fun w => ktwo 106 a b _ _ (fun w w' => w' = w) (fun w => num_106 a b w) w, fun w => ktwo 124 a b _ _ (fun w w' => w' = w) (fun w => num_124 a b ha hb w) w, fun w => ?_⟩
  have h := kone 167 _ _ _ w (pone_167 (BitVec.ofInt 64 a + BitVec.ofInt 64 b).toInt w)
  rw [cut_of, BitVec.setWidth_add _ _ (by omega), of_cut, of_cut] at h
  exact h
theorem nar_107 (a b : Int) (ha : R64 a) (hb : R64 b) : ∃ u v, TT 107 a b u ∧ TT (107 + 18) a b v ∧ OO 167 v u := by
  refine ⟨_, _, fun w => ktwo 107 a b _ _ (fun w w' => w' = w) (fun w => num_107 a b w) w, fun w => ktwo 125 a b _ _ (fun w w' => w' = w) (fun w => num_125 a b ha hb w) w, fun w => ?_⟩
  have h := kone 167 _ _ _ w (pone_167 (BitVec.ofInt 64 a - BitVec.ofInt 64 b).toInt w)
  rw [cut_of, sub_cut _ _, of_cut, of_cut] at h
  exact h
theorem nar_108 (a b : Int) (ha : R64 a) (hb : R64 b) : ∃ u v, TT 108 a b u ∧ TT (108 + 18) a b v ∧ OO 167 v u := by
  refine ⟨_, _, fun w => ktwo 108 a b _ _ (fun w w' => w' = w) (fun w => num_108 a b w) w, fun w => ktwo 126 a b _ _ (fun w w' => w' = w) (fun w => num_126 a b ha hb w) w, fun w => ?_⟩
  have h := kone 167 _ _ _ w (pone_167 (BitVec.ofInt 64 a * BitVec.ofInt 64 b).toInt w)
  rw [cut_of, BitVec.setWidth_mul _ _ (by omega), of_cut, of_cut] at h
  exact h
theorem nar_113 (a b : Int) (ha : R64 a) (hb : R64 b) : ∃ u v, TT 113 a b u ∧ TT (113 + 18) a b v ∧ OO 167 v u := by
  refine ⟨_, _, fun w => ktwo 113 a b _ _ (fun w w' => w' = w) (fun w => num_113 a b w) w, fun w => ktwo 131 a b _ _ (fun w w' => w' = w) (fun w => num_131 a b ha hb w) w, fun w => ?_⟩
  have h := kone 167 _ _ _ w (pone_167 (BitVec.ofInt 64 a &&& BitVec.ofInt 64 b).toInt w)
  rw [cut_of, BitVec.setWidth_and, of_cut, of_cut] at h
  exact h
theorem nar_114 (a b : Int) (ha : R64 a) (hb : R64 b) : ∃ u v, TT 114 a b u ∧ TT (114 + 18) a b v ∧ OO 167 v u := by
  refine ⟨_, _, fun w => ktwo 114 a b _ _ (fun w w' => w' = w) (fun w => num_114 a b w) w, fun w => ktwo 132 a b _ _ (fun w w' => w' = w) (fun w => num_132 a b ha hb w) w, fun w => ?_⟩
  have h := kone 167 _ _ _ w (pone_167 (BitVec.ofInt 64 a ||| BitVec.ofInt 64 b).toInt w)
  rw [cut_of, BitVec.setWidth_or, of_cut, of_cut] at h
  exact h
theorem nar_115 (a b : Int) (ha : R64 a) (hb : R64 b) : ∃ u v, TT 115 a b u ∧ TT (115 + 18) a b v ∧ OO 167 v u := by
  refine ⟨_, _, fun w => ktwo 115 a b _ _ (fun w w' => w' = w) (fun w => num_115 a b w) w, fun w => ktwo 133 a b _ _ (fun w w' => w' = w) (fun w => num_133 a b ha hb w) w, fun w => ?_⟩
  have h := kone 167 _ _ _ w (pone_167 (BitVec.ofInt 64 a ^^^ BitVec.ofInt 64 b).toInt w)
  rw [cut_of, BitVec.setWidth_xor, of_cut, of_cut] at h
  exact h
theorem and_high (y : Int) (h0 : 0 ≤ y) (h1 : y < 4294967296) : (BitVec.ofInt 64 y &&& BitVec.ofInt 64 (-4294967296)).toInt = 0 := by
  have h : BitVec.ofInt 64 y &&& BitVec.ofInt 64 (-4294967296) = 0#64 := by
    apply BitVec.eq_of_getLsbD_eq
    intro i hi
    rw [BitVec.getLsbD_and, BitVec.getLsbD_zero]
    have hy : (BitVec.ofInt 64 y).toNat = y.toNat := by rw [BitVec.toNat_ofInt]; omega
    by_cases h32 : i < 32
    · have : (BitVec.ofInt 64 (-4294967296)).getLsbD i = false := by
        have e : BitVec.ofInt 64 (-4294967296) = BitVec.allOnes 64 <<< 32 := by decide
        rw [e, BitVec.getLsbD_shiftLeft]
        simp [h32]
      rw [this, Bool.and_false]
    · have : (BitVec.ofInt 64 y).getLsbD i = false := by
        rw [BitVec.getLsbD, hy]
        apply Nat.testBit_lt_two_pow
        have : 2 ^ 32 ≤ 2 ^ i := Nat.pow_le_pow_right (by omega) (by omega)
        omega
      rw [this, Bool.false_and]
  rw [h]; decide
theorem high_sign (c : Int) (h0 : -2147483648 ≤ c) (h1 : c ≤ 2147483647) : wrap32 ((BitVec.ofInt 64 c).sshiftRight ((BitVec.ofInt 64 32).toNat % 64)).toInt = ((BitVec.ofInt 32 c).sshiftRight ((BitVec.ofInt 32 31).toNat % 32)).toInt := by
  have e1 : (BitVec.ofInt 64 32).toNat % 64 = 32 := by decide
  have e2 : (BitVec.ofInt 32 31).toNat % 32 = 31 := by decide
  rw [e1, e2, sshr_bv, sshr_bv, of64_toInt c (by omega), ← w32_bv]
  simp only [wrap32]
  omega
theorem numNarrow_walk (a0 : Int) (a1 : Int) (w0 : (Lit.int .i64 a0).wf = true) (w1 : (Lit.int .i64 a1).wf = true) (w : World) (_hT : TabIn w) :
    Calls Tryd.prog 4 #[.int .i64 a0, .int .i64 a1] w fun e w' => e = .returned (.bool true) ∧ Below w.heap.size w w' := by
  have ha : R64 a0 := bounds_i64 w0
  have hb : R64 a1 := bounds_i64 w1
  have hC : -2147483648 ≤ wrap32 a0 ∧ wrap32 a0 ≤ 2147483647 := by simp only [wrap32]; omega
  have hX : R64 (wrap32 a0) := by unfold R64; omega
  have hY : R64 (a0 % 4294967296) := by unfold R64; omega
  have i32 : R64 32 := by unfold R64; omega
  have m32 : R64 (-4294967296) := by unfold R64; omega
  have ww : wrap32 (wrap32 a0) = wrap32 a0 := by simp only [wrap32]; omega
  have wy : wrap32 (a0 % 4294967296) = wrap32 a0 := by simp only [wrap32]; omega
  have c8 : cutI 8 (wrap32 a0) = cutI 8 a0 := by simp only [wrap32, cutI]; omega
  have c16 : cutI 16 (cutI 8 a0) = cutI 8 a0 := by simp only [cutI]; omega
  refine numNarrow_core a0 a1 (wrap32 a0) (a0 % 4294967296) (wrap32 a0) ((BitVec.ofInt 32 (wrap32 a0)).sshiftRight ((BitVec.ofInt 32 31).toNat % 32)).toInt ((BitVec.ofInt 64 (wrap32 a0)).sshiftRight ((BitVec.ofInt 64 32).toNat % 64)).toInt (cutI 8 a0) TT OO (fun o x y z h w => h w) (fun o x z h w => h w) (fun w => pfit_32 a0 w) (fun w => pfit_else 126 a0 (by decide) w)
    ?HS ?E1 ?E2 ?E3 ?E4 ?E5 ?E6 ?E7 ?E8 ?E9 ?E10 ?E11 ?E12 ?E13 w
  case HS =>
    rintro op (rfl | rfl | rfl | rfl | rfl | rfl)
    · exact nar_106 a0 a1 ha hb
    · exact nar_107 a0 a1 ha hb
    · exact nar_108 a0 a1 ha hb
    · exact nar_113 a0 a1 ha hb
    · exact nar_114 a0 a1 ha hb
    · exact nar_115 a0 a1 ha hb
  case E1 => exact fun w => kone 172 _ _ _ w (pone_172 a0 w)
  case E2 => exact fun w => kone 173 _ _ _ w (pone_173 a0 w)
  case E3 => intro w; have h := kone 167 _ _ _ w (pone_167 (wrap32 a0) w); rw [ww] at h; exact h
  case E4 => exact fun w => kone 167 _ _ _ w (pone_167 a0 w)
  case E5 => intro w; have h := kone 167 _ _ _ w (pone_167 (a0 % 4294967296) w); rw [wy] at h; exact h
  case E6 =>
    intro w
    have h := ktwo 131 (a0 % 4294967296) (-4294967296) (BitVec.ofInt 64 (a0 % 4294967296) &&& BitVec.ofInt 64 (-4294967296)).toInt 0 (fun w w' => w' = w) (fun w => num_131 (a0 % 4294967296) (-4294967296) hY m32 w) w
    rw [and_high (a0 % 4294967296) (by omega) (by omega)] at h
    exact h
  case E7 => exact fun w => ktwo 117 (wrap32 a0) 31 _ _ (fun w w' => w' = w) (fun w => num_117 (wrap32 a0) 31 w) w
  case E8 => exact fun w => ktwo 135 (wrap32 a0) 32 _ _ (fun w w' => w' = w) (fun w => num_135 (wrap32 a0) 32 hX i32 w) w
  case E9 => intro w; have h := kone 167 _ _ _ w (pone_167 ((BitVec.ofInt 64 (wrap32 a0)).sshiftRight ((BitVec.ofInt 64 32).toNat % 64)).toInt w); rw [high_sign _ hC.1 hC.2] at h; exact h
  case E10 => exact fun w => kone 196 _ _ _ w (pone_196 a0 w)
  case E11 => exact fun w => kone 192 _ _ _ w (pone_192 a0 w)
  case E12 => intro w; have h := kone 194 _ _ _ w (pone_194 (wrap32 a0) w); rw [c8] at h; exact h
  case E13 => intro w; have h := kone 193 _ _ _ w (pone_193 (cutI 8 a0) w); rw [c16] at h; exact h

end Go.Proofs.YtlbilmgpnpghlabDoor
