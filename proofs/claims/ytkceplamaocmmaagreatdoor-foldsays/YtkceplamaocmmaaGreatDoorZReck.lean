/-
  What the document's own reckon does.
-/
import Derived.Test.YtkceplamaocmmaaGreatDoorZNE
set_option maxHeartbeats 4000000
set_option maxRecDepth 1000000
namespace Go.Proofs.YtkceplamaocmmaaGreatDoor
set_option linter.unusedVariables false
open Go.RowKit
theorem valueR (W : Nat) (v : Value) (X : BitVec W) (R : Int) (w : World) (hv : IsV W w v X) (h1 : 1 ≤ W) (h64 : W ≤ 64) (hR : X.toInt = R) :
    Calls Tryz.prog 40 #[v] w fun e w' => e = .returned (.int .i64 R) ∧ w' = w := by rw [← hR]; exact valueV W v X w hv h1 h64
theorem sub_not (W : Nat) (X Y : BitVec W) : X + ~~~Y + 1 = X - Y := by
  rw [BitVec.sub_eq_add_neg, BitVec.neg_eq_not_add, ← BitVec.add_assoc]; rfl
theorem addV0 (W : Nat) (u v : Value) (X Y : BitVec W) (w : World) (hu : IsV W w u X) (hv : IsV W w v Y) (h1 : 1 ≤ W) (h64 : W ≤ 64) :
    Calls Tryz.prog 61 #[u, v, .bool false] w fun e w' => ∃ v', e = .returned v' ∧ IsV W w' v' (X + Y) ∧ Below w.heap.size w w' := by
  have h := addV W u v X Y false w hu hv h1 h64
  have e : X + Y + (if false = true then 1 else 0) = X + Y := by simp
  rw [e] at h
  exact h
theorem addV1 (W : Nat) (u v : Value) (X Y : BitVec W) (w : World) (hu : IsV W w u X) (hv : IsV W w v Y) (h1 : 1 ≤ W) (h64 : W ≤ 64) :
    Calls Tryz.prog 61 #[u, v, .bool true] w fun e w' => ∃ v', e = .returned v' ∧ IsV W w' v' (X + Y + 1) ∧ Below w.heap.size w w' := addV W u v X Y true w hu hv h1 h64
theorem sdiv_case (W : Nat) (X Y : BitVec W) (hc : X ≠ BitVec.intMin W ∨ Y ≠ -1#W) : (if X.msb = Y.msb then (if X.msb then -X else X) / (if Y.msb then -Y else Y) else -((if X.msb then -X else X) / (if Y.msb then -Y else Y))).toInt = X.toInt.tdiv Y.toInt := by
  rw [← BitVec.toInt_sdiv_of_ne_or_ne X Y hc, BitVec.sdiv_eq]
  cases X.msb <;> cases Y.msb <;> simp
theorem srem_case (W : Nat) (X Y : BitVec W) : (if X.msb then -((if X.msb then -X else X) % (if Y.msb then -Y else Y)) else (if X.msb then -X else X) % (if Y.msb then -Y else Y)).toInt = X.toInt.tmod Y.toInt := by
  rw [← BitVec.toInt_srem, BitVec.srem_eq]
  cases X.msb <;> cases Y.msb <;> simp
theorem size_ne (W : Nat) (Y : BitVec W) (h : ¬ Y.toInt = 0) : ¬ (if Y.msb then -Y else Y).toInt = 0 := by
  intro hz
  apply h
  rw [toNat_zero] at hz ⊢
  cases hm : Y.msb with
  | false => rw [hm] at hz; exact hz
  | true =>
    rw [hm] at hz
    simp only [if_true] at hz
    have : -Y = 0#W := BitVec.eq_of_toNat_eq (by rw [hz]; simp)
    rw [BitVec.neg_eq_zero_iff] at this
    rw [this]; simp
theorem reck32_0 (u v : Value) (X Y : BitVec 32) (w : World) (hu : IsV 32 w u X) (hv : IsV 32 w v Y) (R : Int) (HR : Hid ((recV 0 X Y).1 = R)) :
    Calls Tryz.prog 43 #[.int .i64 0, u, v] w fun e w' => e = .returned (.tuple #[.int .i64 R, .int .i64 0]) ∧ Below w.heap.size w w' := by
  have HU : Hid (IsV 32 w u X) := hu
  have HV : Hid (IsV 32 w v Y) := hv
  obtain ⟨g, cap, rfl, _hcap, hmx, _hcg⟩ := hu.form (by omega)
  obtain ⟨g', cap', rfl, _hcap', hmx', _hcg'⟩ := hv.form (by omega)
  unfold maxLen at hmx hmx'
  obtain ⟨N, hN⟩ : ∃ N : Int, (Y.toNat : Int) = N := ⟨_, rfl⟩
  have _hN0 : 0 ≤ N := by omega
  have _hN1 : N < 4294967296 := by have := Y.isLt; omega
  have HP : Hid (∀ w', IsV 32 w' (.slice (some ⟨g', 0, none⟩) 32 cap') Y → Calls Tryz.prog 41 #[.slice (some ⟨g', 0, none⟩) 32 cap'] w' fun e w'' => e = .returned (.int .u64 N) ∧ w'' = w') := by
    intro w' h
    rw [← hN]
    exact plainV 32 _ Y w' h (by omega)
  clear _hcg _hcg' hN
  go_enter Tryz.func43, Tryz.ntmps43
  go_wp2_with fail
  refine (HP.out _ HV.out).mono ?_
  rintro e w1 ⟨rfl, rfl⟩
  go_wp2_with fail
  refine (addV0 32 _ _ X Y _ HU.out HV.out (by omega) (by omega)).mono ?_
  rintro e w2 ⟨v2, rfl, hv2, b2⟩
  go_wp2_with fail
  refine (valueR 32 _ _ R _ hv2 (by omega) (by omega) (HR.out)).mono ?_
  rintro e w9 ⟨rfl, rfl⟩
  go_wp2
  go_ret2
  exact ⟨rfl, b2⟩
theorem reck32_1 (u v : Value) (X Y : BitVec 32) (w : World) (hu : IsV 32 w u X) (hv : IsV 32 w v Y) (R : Int) (HR : Hid ((recV 1 X Y).1 = R)) :
    Calls Tryz.prog 43 #[.int .i64 1, u, v] w fun e w' => e = .returned (.tuple #[.int .i64 R, .int .i64 0]) ∧ Below w.heap.size w w' := by
  have HU : Hid (IsV 32 w u X) := hu
  have HV : Hid (IsV 32 w v Y) := hv
  obtain ⟨g, cap, rfl, _hcap, hmx, _hcg⟩ := hu.form (by omega)
  obtain ⟨g', cap', rfl, _hcap', hmx', _hcg'⟩ := hv.form (by omega)
  unfold maxLen at hmx hmx'
  obtain ⟨N, hN⟩ : ∃ N : Int, (Y.toNat : Int) = N := ⟨_, rfl⟩
  have _hN0 : 0 ≤ N := by omega
  have _hN1 : N < 4294967296 := by have := Y.isLt; omega
  have HP : Hid (∀ w', IsV 32 w' (.slice (some ⟨g', 0, none⟩) 32 cap') Y → Calls Tryz.prog 41 #[.slice (some ⟨g', 0, none⟩) 32 cap'] w' fun e w'' => e = .returned (.int .u64 N) ∧ w'' = w') := by
    intro w' h
    rw [← hN]
    exact plainV 32 _ Y w' h (by omega)
  clear _hcg _hcg' hN
  go_enter Tryz.func43, Tryz.ntmps43
  go_wp2_with fail
  refine (HP.out _ HV.out).mono ?_
  rintro e w1 ⟨rfl, rfl⟩
  go_wp2_with fail
  refine (notV 32 _ Y _ HV.out (by omega) (by omega)).mono ?_
  rintro e w2 ⟨v2, rfl, hv2, b2⟩
  go_wp2_with fail
  refine (addV1 32 _ _ X _ _ (HU.out.below b2) hv2 (by omega) (by omega)).mono ?_
  rintro e w3 ⟨v3, rfl, hv3, b3⟩
  go_wp2_with fail
  refine (valueR 32 _ _ R _ hv3 (by omega) (by omega) (by rw [sub_not]; exact HR.out)).mono ?_
  rintro e w9 ⟨rfl, rfl⟩
  go_wp2
  go_ret2
  exact ⟨rfl, below_then b2 b3⟩
theorem reck32_2 (u v : Value) (X Y : BitVec 32) (w : World) (hu : IsV 32 w u X) (hv : IsV 32 w v Y) (R : Int) (HR : Hid ((recV 2 X Y).1 = R)) :
    Calls Tryz.prog 43 #[.int .i64 2, u, v] w fun e w' => e = .returned (.tuple #[.int .i64 R, .int .i64 0]) ∧ Below w.heap.size w w' := by
  have HU : Hid (IsV 32 w u X) := hu
  have HV : Hid (IsV 32 w v Y) := hv
  obtain ⟨g, cap, rfl, _hcap, hmx, _hcg⟩ := hu.form (by omega)
  obtain ⟨g', cap', rfl, _hcap', hmx', _hcg'⟩ := hv.form (by omega)
  unfold maxLen at hmx hmx'
  obtain ⟨N, hN⟩ : ∃ N : Int, (Y.toNat : Int) = N := ⟨_, rfl⟩
  have _hN0 : 0 ≤ N := by omega
  have _hN1 : N < 4294967296 := by have := Y.isLt; omega
  have HP : Hid (∀ w', IsV 32 w' (.slice (some ⟨g', 0, none⟩) 32 cap') Y → Calls Tryz.prog 41 #[.slice (some ⟨g', 0, none⟩) 32 cap'] w' fun e w'' => e = .returned (.int .u64 N) ∧ w'' = w') := by
    intro w' h
    rw [← hN]
    exact plainV 32 _ Y w' h (by omega)
  clear _hcg _hcg' hN
  go_enter Tryz.func43, Tryz.ntmps43
  go_wp2_with fail
  refine (HP.out _ HV.out).mono ?_
  rintro e w1 ⟨rfl, rfl⟩
  go_wp2_with fail
  refine (timesV 32 _ _ X Y _ HU.out HV.out (by omega) (by omega)).mono ?_
  rintro e w2 ⟨v2, rfl, hv2, b2⟩
  go_wp2_with fail
  refine (valueR 32 _ _ R _ hv2 (by omega) (by omega) (HR.out)).mono ?_
  rintro e w9 ⟨rfl, rfl⟩
  go_wp2
  go_ret2
  exact ⟨rfl, b2⟩
theorem reck32_3_zero (u v : Value) (X Y : BitVec 32) (w : World) (hu : IsV 32 w u X) (hv : IsV 32 w v Y) (h0 : Y.toInt = 0) :
    Calls Tryz.prog 43 #[.int .i64 3, u, v] w fun e w' => e = .returned (.tuple #[.int .i64 0, .int .i64 21]) ∧ Below w.heap.size w w' := by
  have HU : Hid (IsV 32 w u X) := hu
  have HV : Hid (IsV 32 w v Y) := hv
  obtain ⟨g, cap, rfl, _hcap, hmx, _hcg⟩ := hu.form (by omega)
  obtain ⟨g', cap', rfl, _hcap', hmx', _hcg'⟩ := hv.form (by omega)
  unfold maxLen at hmx hmx'
  obtain ⟨N, hN⟩ : ∃ N : Int, (Y.toNat : Int) = N := ⟨_, rfl⟩
  have _hN0 : 0 ≤ N := by omega
  have _hN1 : N < 4294967296 := by have := Y.isLt; omega
  have HP : Hid (∀ w', IsV 32 w' (.slice (some ⟨g', 0, none⟩) 32 cap') Y → Calls Tryz.prog 41 #[.slice (some ⟨g', 0, none⟩) 32 cap'] w' fun e w'' => e = .returned (.int .u64 N) ∧ w'' = w') := by
    intro w' h
    rw [← hN]
    exact plainV 32 _ Y w' h (by omega)
  have HZ : Hid (∀ w', IsV 32 w' (.slice (some ⟨g', 0, none⟩) 32 cap') Y → Calls Tryz.prog 38 #[.slice (some ⟨g', 0, none⟩) 32 cap'] w' fun e w'' => e = .returned (.bool true) ∧ w'' = w') := by
    intro w' h
    have := noneV 32 _ Y w' h
    rw [show decide (Y.toInt = 0) = true by rw [decide_eq_true_iff]; exact h0] at this
    exact this
  clear _hcg _hcg' hN
  clear h0 HP
  go_enter Tryz.func43, Tryz.ntmps43
  go_wp2_with fail
  refine (HZ.out _ HV.out).mono ?_
  rintro e w0 ⟨rfl, rfl⟩
  go_wp2
  go_ret2
  exact ⟨rfl, Below.refl _ _⟩
theorem reck32_4_zero (u v : Value) (X Y : BitVec 32) (w : World) (hu : IsV 32 w u X) (hv : IsV 32 w v Y) (h0 : Y.toInt = 0) :
    Calls Tryz.prog 43 #[.int .i64 4, u, v] w fun e w' => e = .returned (.tuple #[.int .i64 0, .int .i64 21]) ∧ Below w.heap.size w w' := by
  have HU : Hid (IsV 32 w u X) := hu
  have HV : Hid (IsV 32 w v Y) := hv
  obtain ⟨g, cap, rfl, _hcap, hmx, _hcg⟩ := hu.form (by omega)
  obtain ⟨g', cap', rfl, _hcap', hmx', _hcg'⟩ := hv.form (by omega)
  unfold maxLen at hmx hmx'
  obtain ⟨N, hN⟩ : ∃ N : Int, (Y.toNat : Int) = N := ⟨_, rfl⟩
  have _hN0 : 0 ≤ N := by omega
  have _hN1 : N < 4294967296 := by have := Y.isLt; omega
  have HP : Hid (∀ w', IsV 32 w' (.slice (some ⟨g', 0, none⟩) 32 cap') Y → Calls Tryz.prog 41 #[.slice (some ⟨g', 0, none⟩) 32 cap'] w' fun e w'' => e = .returned (.int .u64 N) ∧ w'' = w') := by
    intro w' h
    rw [← hN]
    exact plainV 32 _ Y w' h (by omega)
  have HZ : Hid (∀ w', IsV 32 w' (.slice (some ⟨g', 0, none⟩) 32 cap') Y → Calls Tryz.prog 38 #[.slice (some ⟨g', 0, none⟩) 32 cap'] w' fun e w'' => e = .returned (.bool true) ∧ w'' = w') := by
    intro w' h
    have := noneV 32 _ Y w' h
    rw [show decide (Y.toInt = 0) = true by rw [decide_eq_true_iff]; exact h0] at this
    exact this
  clear _hcg _hcg' hN
  clear h0 HP
  go_enter Tryz.func43, Tryz.ntmps43
  go_wp2_with fail
  refine (HZ.out _ HV.out).mono ?_
  rintro e w0 ⟨rfl, rfl⟩
  go_wp2
  go_ret2
  exact ⟨rfl, Below.refl _ _⟩
theorem reck32_5_zero (u v : Value) (X Y : BitVec 32) (w : World) (hu : IsV 32 w u X) (hv : IsV 32 w v Y) (h0 : Y.toInt = 0) :
    Calls Tryz.prog 43 #[.int .i64 5, u, v] w fun e w' => e = .returned (.tuple #[.int .i64 0, .int .i64 21]) ∧ Below w.heap.size w w' := by
  have HU : Hid (IsV 32 w u X) := hu
  have HV : Hid (IsV 32 w v Y) := hv
  obtain ⟨g, cap, rfl, _hcap, hmx, _hcg⟩ := hu.form (by omega)
  obtain ⟨g', cap', rfl, _hcap', hmx', _hcg'⟩ := hv.form (by omega)
  unfold maxLen at hmx hmx'
  obtain ⟨N, hN⟩ : ∃ N : Int, (Y.toNat : Int) = N := ⟨_, rfl⟩
  have _hN0 : 0 ≤ N := by omega
  have _hN1 : N < 4294967296 := by have := Y.isLt; omega
  have HP : Hid (∀ w', IsV 32 w' (.slice (some ⟨g', 0, none⟩) 32 cap') Y → Calls Tryz.prog 41 #[.slice (some ⟨g', 0, none⟩) 32 cap'] w' fun e w'' => e = .returned (.int .u64 N) ∧ w'' = w') := by
    intro w' h
    rw [← hN]
    exact plainV 32 _ Y w' h (by omega)
  have HZ : Hid (∀ w', IsV 32 w' (.slice (some ⟨g', 0, none⟩) 32 cap') Y → Calls Tryz.prog 38 #[.slice (some ⟨g', 0, none⟩) 32 cap'] w' fun e w'' => e = .returned (.bool true) ∧ w'' = w') := by
    intro w' h
    have := noneV 32 _ Y w' h
    rw [show decide (Y.toInt = 0) = true by rw [decide_eq_true_iff]; exact h0] at this
    exact this
  clear _hcg _hcg' hN
  clear h0 HP
  go_enter Tryz.func43, Tryz.ntmps43
  go_wp2_with fail
  refine (HZ.out _ HV.out).mono ?_
  rintro e w0 ⟨rfl, rfl⟩
  go_wp2
  go_ret2
  exact ⟨rfl, Below.refl _ _⟩
theorem reck32_6_zero (u v : Value) (X Y : BitVec 32) (w : World) (hu : IsV 32 w u X) (hv : IsV 32 w v Y) (h0 : Y.toInt = 0) :
    Calls Tryz.prog 43 #[.int .i64 6, u, v] w fun e w' => e = .returned (.tuple #[.int .i64 0, .int .i64 21]) ∧ Below w.heap.size w w' := by
  have HU : Hid (IsV 32 w u X) := hu
  have HV : Hid (IsV 32 w v Y) := hv
  obtain ⟨g, cap, rfl, _hcap, hmx, _hcg⟩ := hu.form (by omega)
  obtain ⟨g', cap', rfl, _hcap', hmx', _hcg'⟩ := hv.form (by omega)
  unfold maxLen at hmx hmx'
  obtain ⟨N, hN⟩ : ∃ N : Int, (Y.toNat : Int) = N := ⟨_, rfl⟩
  have _hN0 : 0 ≤ N := by omega
  have _hN1 : N < 4294967296 := by have := Y.isLt; omega
  have HP : Hid (∀ w', IsV 32 w' (.slice (some ⟨g', 0, none⟩) 32 cap') Y → Calls Tryz.prog 41 #[.slice (some ⟨g', 0, none⟩) 32 cap'] w' fun e w'' => e = .returned (.int .u64 N) ∧ w'' = w') := by
    intro w' h
    rw [← hN]
    exact plainV 32 _ Y w' h (by omega)
  have HZ : Hid (∀ w', IsV 32 w' (.slice (some ⟨g', 0, none⟩) 32 cap') Y → Calls Tryz.prog 38 #[.slice (some ⟨g', 0, none⟩) 32 cap'] w' fun e w'' => e = .returned (.bool true) ∧ w'' = w') := by
    intro w' h
    have := noneV 32 _ Y w' h
    rw [show decide (Y.toInt = 0) = true by rw [decide_eq_true_iff]; exact h0] at this
    exact this
  clear _hcg _hcg' hN
  clear h0 HP
  go_enter Tryz.func43, Tryz.ntmps43
  go_wp2_with fail
  refine (HZ.out _ HV.out).mono ?_
  rintro e w0 ⟨rfl, rfl⟩
  go_wp2
  go_ret2
  exact ⟨rfl, Below.refl _ _⟩
theorem reck32_4 (u v : Value) (X Y : BitVec 32) (w : World) (hu : IsV 32 w u X) (hv : IsV 32 w v Y) (h0 : ¬ Y.toInt = 0) (R : Int) (HR : Hid ((X / Y).toInt = R)) :
    Calls Tryz.prog 43 #[.int .i64 4, u, v] w fun e w' => e = .returned (.tuple #[.int .i64 R, .int .i64 0]) ∧ Below w.heap.size w w' := by
  have HU : Hid (IsV 32 w u X) := hu
  have HV : Hid (IsV 32 w v Y) := hv
  obtain ⟨g, cap, rfl, _hcap, hmx, _hcg⟩ := hu.form (by omega)
  obtain ⟨g', cap', rfl, _hcap', hmx', _hcg'⟩ := hv.form (by omega)
  unfold maxLen at hmx hmx'
  obtain ⟨N, hN⟩ : ∃ N : Int, (Y.toNat : Int) = N := ⟨_, rfl⟩
  have _hN0 : 0 ≤ N := by omega
  have _hN1 : N < 4294967296 := by have := Y.isLt; omega
  have HP : Hid (∀ w', IsV 32 w' (.slice (some ⟨g', 0, none⟩) 32 cap') Y → Calls Tryz.prog 41 #[.slice (some ⟨g', 0, none⟩) 32 cap'] w' fun e w'' => e = .returned (.int .u64 N) ∧ w'' = w') := by
    intro w' h
    rw [← hN]
    exact plainV 32 _ Y w' h (by omega)
  have HZ : Hid (∀ w', IsV 32 w' (.slice (some ⟨g', 0, none⟩) 32 cap') Y → Calls Tryz.prog 38 #[.slice (some ⟨g', 0, none⟩) 32 cap'] w' fun e w'' => e = .returned (.bool false) ∧ w'' = w') := by
    intro w' h
    have := noneV 32 _ Y w' h
    rw [show decide (Y.toInt = 0) = false by rw [decide_eq_false_iff_not]; exact h0] at this
    exact this
  clear _hcg _hcg' hN
  have HNZ : Hid (¬ Y.toInt = 0) := h0
  clear h0
  go_enter Tryz.func43, Tryz.ntmps43
  go_wp2_with fail
  refine (HZ.out _ HV.out).mono ?_
  rintro e w0 ⟨rfl, rfl⟩
  go_wp2_with fail
  refine (HP.out _ HV.out).mono ?_
  rintro e w1 ⟨rfl, rfl⟩
  go_wp2_with fail
  refine (splitV 32 _ _ X Y _ HU.out HV.out (by omega) (by omega) HNZ.out).mono ?_
  rintro e w2 ⟨q2, r2, rfl, hq2, hr2, b2⟩
  go_wp2_with fail
  refine (valueR 32 _ _ R _ hq2 (by omega) (by omega) (HR.out)).mono ?_
  rintro e w9 ⟨rfl, rfl⟩
  go_wp2
  go_ret2
  exact ⟨rfl, b2⟩
theorem reck32_6 (u v : Value) (X Y : BitVec 32) (w : World) (hu : IsV 32 w u X) (hv : IsV 32 w v Y) (h0 : ¬ Y.toInt = 0) (R : Int) (HR : Hid ((X % Y).toInt = R)) :
    Calls Tryz.prog 43 #[.int .i64 6, u, v] w fun e w' => e = .returned (.tuple #[.int .i64 R, .int .i64 0]) ∧ Below w.heap.size w w' := by
  have HU : Hid (IsV 32 w u X) := hu
  have HV : Hid (IsV 32 w v Y) := hv
  obtain ⟨g, cap, rfl, _hcap, hmx, _hcg⟩ := hu.form (by omega)
  obtain ⟨g', cap', rfl, _hcap', hmx', _hcg'⟩ := hv.form (by omega)
  unfold maxLen at hmx hmx'
  obtain ⟨N, hN⟩ : ∃ N : Int, (Y.toNat : Int) = N := ⟨_, rfl⟩
  have _hN0 : 0 ≤ N := by omega
  have _hN1 : N < 4294967296 := by have := Y.isLt; omega
  have HP : Hid (∀ w', IsV 32 w' (.slice (some ⟨g', 0, none⟩) 32 cap') Y → Calls Tryz.prog 41 #[.slice (some ⟨g', 0, none⟩) 32 cap'] w' fun e w'' => e = .returned (.int .u64 N) ∧ w'' = w') := by
    intro w' h
    rw [← hN]
    exact plainV 32 _ Y w' h (by omega)
  have HZ : Hid (∀ w', IsV 32 w' (.slice (some ⟨g', 0, none⟩) 32 cap') Y → Calls Tryz.prog 38 #[.slice (some ⟨g', 0, none⟩) 32 cap'] w' fun e w'' => e = .returned (.bool false) ∧ w'' = w') := by
    intro w' h
    have := noneV 32 _ Y w' h
    rw [show decide (Y.toInt = 0) = false by rw [decide_eq_false_iff_not]; exact h0] at this
    exact this
  clear _hcg _hcg' hN
  have HNZ : Hid (¬ Y.toInt = 0) := h0
  clear h0
  go_enter Tryz.func43, Tryz.ntmps43
  go_wp2_with fail
  refine (HZ.out _ HV.out).mono ?_
  rintro e w0 ⟨rfl, rfl⟩
  go_wp2_with fail
  refine (HP.out _ HV.out).mono ?_
  rintro e w1 ⟨rfl, rfl⟩
  go_wp2_with fail
  refine (splitV 32 _ _ X Y _ HU.out HV.out (by omega) (by omega) HNZ.out).mono ?_
  rintro e w2 ⟨q2, r2, rfl, hq2, hr2, b2⟩
  go_wp2_with fail
  refine (valueR 32 _ _ R _ hr2 (by omega) (by omega) (HR.out)).mono ?_
  rintro e w9 ⟨rfl, rfl⟩
  go_wp2
  go_ret2
  exact ⟨rfl, b2⟩
theorem reck32_5 (u v : Value) (X Y : BitVec 32) (w : World) (hu : IsV 32 w u X) (hv : IsV 32 w v Y) (h0 : ¬ Y.toInt = 0) (R : Int) (HR : Hid (X.toInt.tmod Y.toInt = R)) :
    Calls Tryz.prog 43 #[.int .i64 5, u, v] w fun e w' => e = .returned (.tuple #[.int .i64 R, .int .i64 0]) ∧ Below w.heap.size w w' := by
  have HU : Hid (IsV 32 w u X) := hu
  have HV : Hid (IsV 32 w v Y) := hv
  obtain ⟨g, cap, rfl, _hcap, hmx, _hcg⟩ := hu.form (by omega)
  obtain ⟨g', cap', rfl, _hcap', hmx', _hcg'⟩ := hv.form (by omega)
  unfold maxLen at hmx hmx'
  obtain ⟨N, hN⟩ : ∃ N : Int, (Y.toNat : Int) = N := ⟨_, rfl⟩
  have _hN0 : 0 ≤ N := by omega
  have _hN1 : N < 4294967296 := by have := Y.isLt; omega
  have HP : Hid (∀ w', IsV 32 w' (.slice (some ⟨g', 0, none⟩) 32 cap') Y → Calls Tryz.prog 41 #[.slice (some ⟨g', 0, none⟩) 32 cap'] w' fun e w'' => e = .returned (.int .u64 N) ∧ w'' = w') := by
    intro w' h
    rw [← hN]
    exact plainV 32 _ Y w' h (by omega)
  have HZ : Hid (∀ w', IsV 32 w' (.slice (some ⟨g', 0, none⟩) 32 cap') Y → Calls Tryz.prog 38 #[.slice (some ⟨g', 0, none⟩) 32 cap'] w' fun e w'' => e = .returned (.bool false) ∧ w'' = w') := by
    intro w' h
    have := noneV 32 _ Y w' h
    rw [show decide (Y.toInt = 0) = false by rw [decide_eq_false_iff_not]; exact h0] at this
    exact this
  clear _hcg _hcg' hN
  have HNZ : Hid (¬ Y.toInt = 0) := h0
  clear h0
  go_enter Tryz.func43, Tryz.ntmps43
  go_wp2_with fail
  refine (HZ.out _ HV.out).mono ?_
  rintro e w0 ⟨rfl, rfl⟩
  go_wp2_with fail
  refine (HP.out _ HV.out).mono ?_
  rintro e w1 ⟨rfl, rfl⟩
  go_wp2_with fail
  refine (sizeV 32 _ X _ HU.out (by omega) (by omega)).mono ?_
  rintro e w2 ⟨v2, rfl, hv2, b2⟩
  go_wp2_with fail
  refine (sizeV 32 _ Y _ (HV.out.below b2) (by omega) (by omega)).mono ?_
  rintro e w3 ⟨v3, rfl, hv3, b3⟩
  go_wp2_with fail
  have HB3 : Hid (Below w1.heap.size w1 w3) := below_then b2 b3
  refine (splitV 32 _ _ _ _ _ (hv2.below b3) hv3 (by omega) (by omega) (size_ne 32 Y HNZ.out)).mono ?_
  rintro e w4 ⟨q4, r4, rfl, hq4, hr4, b4⟩
  have HB4 : Hid (Below w1.heap.size w1 w4) := below_then HB3.out b4
  clear b2 b3 b4 hv2 hv3 HB3
  have HU4 : Hid _ := HU.out.below HB4.out
  have HV4 : Hid _ := HV.out.below HB4.out
  obtain ⟨g1, cap1, e1, _, _, hcg4⟩ := IsV.form HU4.out (by omega)
  simp only [Value.slice.injEq, Option.some.injEq, Addr.mk.injEq, and_true] at e1
  obtain ⟨rfl, _, _⟩ := e1
  have HE : Hid ((if X.msb then -((if X.msb then -X else X) % (if Y.msb then -Y else Y)) else (if X.msb then -X else X) % (if Y.msb then -Y else Y)).toInt = R) := (srem_case 32 X Y).trans HR.out
  generalize hm : X.msb = m at hcg4 HE hq4 hr4
  generalize hm2 : Y.msb = m2 at HE hq4 hr4
  have HR4 : Hid (IsV 32 w4 r4 ((if m then -X else X) % (if m2 then -Y else Y))) := hr4
  clear hr4 hq4 hm hm2 HU4 HV4
  cases m with
  | true =>
    go_wp2_with fail
    refine (minusV 32 _ _ _ HR4.out (by omega) (by omega)).mono ?_
    rintro e w5 ⟨v5, rfl, hv5, b5⟩
    go_wp2_with fail
    refine (valueR 32 _ _ R _ hv5 (by omega) (by omega) HE.out).mono ?_
    rintro e w9 ⟨rfl, rfl⟩
    go_wp2
    go_ret2
    exact ⟨rfl, below_then HB4.out b5⟩
  | false =>
    go_wp2_with fail
    refine (valueR 32 _ _ R _ HR4.out (by omega) (by omega) HE.out).mono ?_
    rintro e w9 ⟨rfl, rfl⟩
    go_wp2
    go_ret2
    exact ⟨rfl, HB4.out⟩
theorem reck32_3 (u v : Value) (X Y : BitVec 32) (w : World) (hu : IsV 32 w u X) (hv : IsV 32 w v Y) (h0 : ¬ Y.toInt = 0) (R E : Int) (hd : X.msb ≠ Y.msb → (-((if X.msb then -X else X) / (if Y.msb then -Y else Y))).toInt = R ∧ E = 0) (hs : X.msb = Y.msb → ((if X.msb then -X else X) / (if Y.msb then -Y else Y)).msb = false → ((if X.msb then -X else X) / (if Y.msb then -Y else Y)).toInt = R ∧ E = 0) (ho : X.msb = Y.msb → ((if X.msb then -X else X) / (if Y.msb then -Y else Y)).msb = true → R = 0 ∧ E = 22) :
    Calls Tryz.prog 43 #[.int .i64 3, u, v] w fun e w' => e = .returned (.tuple #[.int .i64 R, .int .i64 E]) ∧ Below w.heap.size w w' := by
  have HU : Hid (IsV 32 w u X) := hu
  have HV : Hid (IsV 32 w v Y) := hv
  obtain ⟨g, cap, rfl, _hcap, hmx, _hcg⟩ := hu.form (by omega)
  obtain ⟨g', cap', rfl, _hcap', hmx', _hcg'⟩ := hv.form (by omega)
  unfold maxLen at hmx hmx'
  obtain ⟨N, hN⟩ : ∃ N : Int, (Y.toNat : Int) = N := ⟨_, rfl⟩
  have _hN0 : 0 ≤ N := by omega
  have _hN1 : N < 4294967296 := by have := Y.isLt; omega
  have HP : Hid (∀ w', IsV 32 w' (.slice (some ⟨g', 0, none⟩) 32 cap') Y → Calls Tryz.prog 41 #[.slice (some ⟨g', 0, none⟩) 32 cap'] w' fun e w'' => e = .returned (.int .u64 N) ∧ w'' = w') := by
    intro w' h
    rw [← hN]
    exact plainV 32 _ Y w' h (by omega)
  have HZ : Hid (∀ w', IsV 32 w' (.slice (some ⟨g', 0, none⟩) 32 cap') Y → Calls Tryz.prog 38 #[.slice (some ⟨g', 0, none⟩) 32 cap'] w' fun e w'' => e = .returned (.bool false) ∧ w'' = w') := by
    intro w' h
    have := noneV 32 _ Y w' h
    rw [show decide (Y.toInt = 0) = false by rw [decide_eq_false_iff_not]; exact h0] at this
    exact this
  clear _hcg _hcg' hN
  have HNZ : Hid (¬ Y.toInt = 0) := h0
  clear h0
  go_enter Tryz.func43, Tryz.ntmps43
  go_wp2_with fail
  refine (HZ.out _ HV.out).mono ?_
  rintro e w0 ⟨rfl, rfl⟩
  go_wp2_with fail
  refine (HP.out _ HV.out).mono ?_
  rintro e w1 ⟨rfl, rfl⟩
  go_wp2_with fail
  refine (sizeV 32 _ X _ HU.out (by omega) (by omega)).mono ?_
  rintro e w2 ⟨v2, rfl, hv2, b2⟩
  go_wp2_with fail
  refine (sizeV 32 _ Y _ (HV.out.below b2) (by omega) (by omega)).mono ?_
  rintro e w3 ⟨v3, rfl, hv3, b3⟩
  go_wp2_with fail
  have HB3 : Hid (Below w1.heap.size w1 w3) := below_then b2 b3
  refine (splitV 32 _ _ _ _ _ (hv2.below b3) hv3 (by omega) (by omega) (size_ne 32 Y HNZ.out)).mono ?_
  rintro e w4 ⟨q4, r4, rfl, hq4, hr4, b4⟩
  have HB4 : Hid (Below w1.heap.size w1 w4) := below_then HB3.out b4
  clear b2 b3 b4 hv2 hv3 HB3
  have HU4 : Hid _ := HU.out.below HB4.out
  have HV4 : Hid _ := HV.out.below HB4.out
  obtain ⟨g1, cap1, e1, _, _, hcg4⟩ := IsV.form HU4.out (by omega)
  simp only [Value.slice.injEq, Option.some.injEq, Addr.mk.injEq, and_true] at e1
  obtain ⟨rfl, _, _⟩ := e1
  obtain ⟨g2, cap2, e2, _, _, hcg5⟩ := IsV.form HV4.out (by omega)
  simp only [Value.slice.injEq, Option.some.injEq, Addr.mk.injEq, and_true] at e2
  obtain ⟨rfl, _, _⟩ := e2
  obtain ⟨gq, capq, rfl, _, hmq, hcq⟩ := hq4.form (by omega)
  unfold maxLen at hmq
  have HD : Hid (X.msb ≠ Y.msb → (-((if X.msb then -X else X) / (if Y.msb then -Y else Y))).toInt = R ∧ E = 0) := hd
  have HS : Hid (X.msb = Y.msb → ((if X.msb then -X else X) / (if Y.msb then -Y else Y)).msb = false → ((if X.msb then -X else X) / (if Y.msb then -Y else Y)).toInt = R ∧ E = 0) := hs
  have HO : Hid (X.msb = Y.msb → ((if X.msb then -X else X) / (if Y.msb then -Y else Y)).msb = true → R = 0 ∧ E = 22) := ho
  have HQ4 : Hid (IsV 32 w4 (.slice (some ⟨gq, 0, none⟩) 32 capq) ((if X.msb then -X else X) / (if Y.msb then -Y else Y))) := hq4
  clear hd hs ho hq4 hr4
  generalize (if X.msb then -X else X) / (if Y.msb then -Y else Y) = Q at HD HS HO HQ4 hcq
  generalize X.msb = m at hcg4 HD HS HO
  generalize Y.msb = m2 at hcg5 HD HS HO
  clear HU4 HV4
  by_cases hmm : m = m2
  · subst hmm
    have HS2 := HS.out rfl
    have HO2 := HO.out rfl
    have HS3 : Hid _ := HS2
    have HO3 : Hid _ := HO2
    clear HS HO HD HS2 HO2
    generalize hq : Q.msb = q at hcq HS3 HO3
    clear hq
    cases q with
    | true =>
      obtain ⟨rfl, rfl⟩ := HO3.out rfl
      clear HS3 HO3
      cases m
      all_goals
        go_wp2_with fail
        go_quiet (fail)
        go_wp2
        go_ret2
        exact ⟨rfl, below_drewN HB4.out _⟩
    | false =>
      obtain ⟨HR, rfl⟩ := HS3.out rfl
      have HR2 : Hid _ := HR
      clear HS3 HO3 HR
      cases m
      all_goals
        go_wp2_with fail
        go_quiet (fail)
        go_wp2_with fail
        refine (valueR 32 _ _ R _ (HQ4.out.below (below_drewN (Below.refl _ _) _)) (by omega) (by omega) HR2.out).mono ?_
        rintro e w9 ⟨rfl, rfl⟩
        go_wp2
        go_ret2
        exact ⟨rfl, below_drewN HB4.out _⟩
  · obtain ⟨HR, rfl⟩ := HD.out hmm
    have HR2 : Hid _ := HR
    clear HS HO HD HR hcq
    cases m <;> cases m2
    all_goals first
      | (exfalso; exact hmm rfl)
      | (clear hmm
         go_wp2_with fail
         go_quiet (fail)
         go_wp2_with fail
         refine (minusV 32 _ _ _ (HQ4.out.below (below_drewN (Below.refl _ _) _)) (by omega) (by omega)).mono ?_
         rintro e w5 ⟨v5, rfl, hv5, b5⟩
         go_wp2_with fail
         refine (valueR 32 _ _ R _ hv5 (by omega) (by omega) HR2.out).mono ?_
         rintro e w9 ⟨rfl, rfl⟩
         go_wp2
         go_ret2
         exact ⟨rfl, below_then (below_drewN HB4.out _) b5⟩)
theorem reck32_7 (u v : Value) (X Y : BitVec 32) (w : World) (hu : IsV 32 w u X) (hv : IsV 32 w v Y) (R : Int) (HR : Hid ((recV 7 X Y).1 = R)) :
    Calls Tryz.prog 43 #[.int .i64 7, u, v] w fun e w' => e = .returned (.tuple #[.int .i64 R, .int .i64 0]) ∧ Below w.heap.size w w' := by
  have HU : Hid (IsV 32 w u X) := hu
  have HV : Hid (IsV 32 w v Y) := hv
  obtain ⟨g, cap, rfl, _hcap, hmx, _hcg⟩ := hu.form (by omega)
  obtain ⟨g', cap', rfl, _hcap', hmx', _hcg'⟩ := hv.form (by omega)
  unfold maxLen at hmx hmx'
  obtain ⟨N, hN⟩ : ∃ N : Int, (Y.toNat : Int) = N := ⟨_, rfl⟩
  have _hN0 : 0 ≤ N := by omega
  have _hN1 : N < 4294967296 := by have := Y.isLt; omega
  have HP : Hid (∀ w', IsV 32 w' (.slice (some ⟨g', 0, none⟩) 32 cap') Y → Calls Tryz.prog 41 #[.slice (some ⟨g', 0, none⟩) 32 cap'] w' fun e w'' => e = .returned (.int .u64 N) ∧ w'' = w') := by
    intro w' h
    rw [← hN]
    exact plainV 32 _ Y w' h (by omega)
  have HBIT : Hid (∀ w', IsV 32 w' (.slice (some ⟨g, 0, none⟩) 32 cap) X → IsV 32 w' (.slice (some ⟨g', 0, none⟩) 32 cap') Y → Calls Tryz.prog 67 #[.int .i64 7, .slice (some ⟨g, 0, none⟩) 32 cap, .slice (some ⟨g', 0, none⟩) 32 cap', .int .i64 (N % 32)] w' fun e w'' => ∃ v', e = .returned v' ∧ IsV 32 w'' v' (X &&& Y) ∧ Below w'.heap.size w' w'') := by
    intro w' h h'
    have := bitV_7 32 _ _ X Y (Y.toNat % 32) w' h h' (by omega) (by omega) (by omega)
    rw [Int.natCast_emod, hN] at this
    exact this
  clear _hcg _hcg' hN
  go_enter Tryz.func43, Tryz.ntmps43
  go_wp2_with fail
  refine (HP.out _ HV.out).mono ?_
  rintro e w1 ⟨rfl, rfl⟩
  go_wp2_with fail
  refine (HBIT.out _ HU.out HV.out).mono ?_
  rintro e w2 ⟨v2, rfl, hv2, b2⟩
  go_wp2_with fail
  refine (valueR 32 _ _ R _ hv2 (by omega) (by omega) (HR.out)).mono ?_
  rintro e w9 ⟨rfl, rfl⟩
  go_wp2
  go_ret2
  exact ⟨rfl, b2⟩
theorem reck32_8 (u v : Value) (X Y : BitVec 32) (w : World) (hu : IsV 32 w u X) (hv : IsV 32 w v Y) (R : Int) (HR : Hid ((recV 8 X Y).1 = R)) :
    Calls Tryz.prog 43 #[.int .i64 8, u, v] w fun e w' => e = .returned (.tuple #[.int .i64 R, .int .i64 0]) ∧ Below w.heap.size w w' := by
  have HU : Hid (IsV 32 w u X) := hu
  have HV : Hid (IsV 32 w v Y) := hv
  obtain ⟨g, cap, rfl, _hcap, hmx, _hcg⟩ := hu.form (by omega)
  obtain ⟨g', cap', rfl, _hcap', hmx', _hcg'⟩ := hv.form (by omega)
  unfold maxLen at hmx hmx'
  obtain ⟨N, hN⟩ : ∃ N : Int, (Y.toNat : Int) = N := ⟨_, rfl⟩
  have _hN0 : 0 ≤ N := by omega
  have _hN1 : N < 4294967296 := by have := Y.isLt; omega
  have HP : Hid (∀ w', IsV 32 w' (.slice (some ⟨g', 0, none⟩) 32 cap') Y → Calls Tryz.prog 41 #[.slice (some ⟨g', 0, none⟩) 32 cap'] w' fun e w'' => e = .returned (.int .u64 N) ∧ w'' = w') := by
    intro w' h
    rw [← hN]
    exact plainV 32 _ Y w' h (by omega)
  have HBIT : Hid (∀ w', IsV 32 w' (.slice (some ⟨g, 0, none⟩) 32 cap) X → IsV 32 w' (.slice (some ⟨g', 0, none⟩) 32 cap') Y → Calls Tryz.prog 67 #[.int .i64 8, .slice (some ⟨g, 0, none⟩) 32 cap, .slice (some ⟨g', 0, none⟩) 32 cap', .int .i64 (N % 32)] w' fun e w'' => ∃ v', e = .returned v' ∧ IsV 32 w'' v' (X ||| Y) ∧ Below w'.heap.size w' w'') := by
    intro w' h h'
    have := bitV_8 32 _ _ X Y (Y.toNat % 32) w' h h' (by omega) (by omega) (by omega)
    rw [Int.natCast_emod, hN] at this
    exact this
  clear _hcg _hcg' hN
  go_enter Tryz.func43, Tryz.ntmps43
  go_wp2_with fail
  refine (HP.out _ HV.out).mono ?_
  rintro e w1 ⟨rfl, rfl⟩
  go_wp2_with fail
  refine (HBIT.out _ HU.out HV.out).mono ?_
  rintro e w2 ⟨v2, rfl, hv2, b2⟩
  go_wp2_with fail
  refine (valueR 32 _ _ R _ hv2 (by omega) (by omega) (HR.out)).mono ?_
  rintro e w9 ⟨rfl, rfl⟩
  go_wp2
  go_ret2
  exact ⟨rfl, b2⟩
theorem reck32_9 (u v : Value) (X Y : BitVec 32) (w : World) (hu : IsV 32 w u X) (hv : IsV 32 w v Y) (R : Int) (HR : Hid ((recV 9 X Y).1 = R)) :
    Calls Tryz.prog 43 #[.int .i64 9, u, v] w fun e w' => e = .returned (.tuple #[.int .i64 R, .int .i64 0]) ∧ Below w.heap.size w w' := by
  have HU : Hid (IsV 32 w u X) := hu
  have HV : Hid (IsV 32 w v Y) := hv
  obtain ⟨g, cap, rfl, _hcap, hmx, _hcg⟩ := hu.form (by omega)
  obtain ⟨g', cap', rfl, _hcap', hmx', _hcg'⟩ := hv.form (by omega)
  unfold maxLen at hmx hmx'
  obtain ⟨N, hN⟩ : ∃ N : Int, (Y.toNat : Int) = N := ⟨_, rfl⟩
  have _hN0 : 0 ≤ N := by omega
  have _hN1 : N < 4294967296 := by have := Y.isLt; omega
  have HP : Hid (∀ w', IsV 32 w' (.slice (some ⟨g', 0, none⟩) 32 cap') Y → Calls Tryz.prog 41 #[.slice (some ⟨g', 0, none⟩) 32 cap'] w' fun e w'' => e = .returned (.int .u64 N) ∧ w'' = w') := by
    intro w' h
    rw [← hN]
    exact plainV 32 _ Y w' h (by omega)
  have HBIT : Hid (∀ w', IsV 32 w' (.slice (some ⟨g, 0, none⟩) 32 cap) X → IsV 32 w' (.slice (some ⟨g', 0, none⟩) 32 cap') Y → Calls Tryz.prog 67 #[.int .i64 9, .slice (some ⟨g, 0, none⟩) 32 cap, .slice (some ⟨g', 0, none⟩) 32 cap', .int .i64 (N % 32)] w' fun e w'' => ∃ v', e = .returned v' ∧ IsV 32 w'' v' (X ^^^ Y) ∧ Below w'.heap.size w' w'') := by
    intro w' h h'
    have := bitV_9 32 _ _ X Y (Y.toNat % 32) w' h h' (by omega) (by omega) (by omega)
    rw [Int.natCast_emod, hN] at this
    exact this
  clear _hcg _hcg' hN
  go_enter Tryz.func43, Tryz.ntmps43
  go_wp2_with fail
  refine (HP.out _ HV.out).mono ?_
  rintro e w1 ⟨rfl, rfl⟩
  go_wp2_with fail
  refine (HBIT.out _ HU.out HV.out).mono ?_
  rintro e w2 ⟨v2, rfl, hv2, b2⟩
  go_wp2_with fail
  refine (valueR 32 _ _ R _ hv2 (by omega) (by omega) (HR.out)).mono ?_
  rintro e w9 ⟨rfl, rfl⟩
  go_wp2
  go_ret2
  exact ⟨rfl, b2⟩
theorem reck32_10 (u v : Value) (X Y : BitVec 32) (w : World) (hu : IsV 32 w u X) (hv : IsV 32 w v Y) (R : Int) (HR : Hid ((recV 10 X Y).1 = R)) :
    Calls Tryz.prog 43 #[.int .i64 10, u, v] w fun e w' => e = .returned (.tuple #[.int .i64 R, .int .i64 0]) ∧ Below w.heap.size w w' := by
  have HU : Hid (IsV 32 w u X) := hu
  have HV : Hid (IsV 32 w v Y) := hv
  obtain ⟨g, cap, rfl, _hcap, hmx, _hcg⟩ := hu.form (by omega)
  obtain ⟨g', cap', rfl, _hcap', hmx', _hcg'⟩ := hv.form (by omega)
  unfold maxLen at hmx hmx'
  obtain ⟨N, hN⟩ : ∃ N : Int, (Y.toNat : Int) = N := ⟨_, rfl⟩
  have _hN0 : 0 ≤ N := by omega
  have _hN1 : N < 4294967296 := by have := Y.isLt; omega
  have HP : Hid (∀ w', IsV 32 w' (.slice (some ⟨g', 0, none⟩) 32 cap') Y → Calls Tryz.prog 41 #[.slice (some ⟨g', 0, none⟩) 32 cap'] w' fun e w'' => e = .returned (.int .u64 N) ∧ w'' = w') := by
    intro w' h
    rw [← hN]
    exact plainV 32 _ Y w' h (by omega)
  have HBIT : Hid (∀ w', IsV 32 w' (.slice (some ⟨g, 0, none⟩) 32 cap) X → IsV 32 w' (.slice (some ⟨g', 0, none⟩) 32 cap') Y → Calls Tryz.prog 67 #[.int .i64 10, .slice (some ⟨g, 0, none⟩) 32 cap, .slice (some ⟨g', 0, none⟩) 32 cap', .int .i64 (N % 32)] w' fun e w'' => ∃ v', e = .returned v' ∧ IsV 32 w'' v' (X <<< (Y.toNat % 32)) ∧ Below w'.heap.size w' w'') := by
    intro w' h h'
    have := bitV_10 32 _ _ X Y (Y.toNat % 32) w' h h' (by omega) (by omega) (by omega)
    rw [Int.natCast_emod, hN] at this
    exact this
  clear _hcg _hcg' hN
  go_enter Tryz.func43, Tryz.ntmps43
  go_wp2_with fail
  refine (HP.out _ HV.out).mono ?_
  rintro e w1 ⟨rfl, rfl⟩
  go_wp2_with fail
  refine (HBIT.out _ HU.out HV.out).mono ?_
  rintro e w2 ⟨v2, rfl, hv2, b2⟩
  go_wp2_with fail
  refine (valueR 32 _ _ R _ hv2 (by omega) (by omega) (HR.out)).mono ?_
  rintro e w9 ⟨rfl, rfl⟩
  go_wp2
  go_ret2
  exact ⟨rfl, b2⟩
theorem reck32_11 (u v : Value) (X Y : BitVec 32) (w : World) (hu : IsV 32 w u X) (hv : IsV 32 w v Y) (R : Int) (HR : Hid ((recV 11 X Y).1 = R)) :
    Calls Tryz.prog 43 #[.int .i64 11, u, v] w fun e w' => e = .returned (.tuple #[.int .i64 R, .int .i64 0]) ∧ Below w.heap.size w w' := by
  have HU : Hid (IsV 32 w u X) := hu
  have HV : Hid (IsV 32 w v Y) := hv
  obtain ⟨g, cap, rfl, _hcap, hmx, _hcg⟩ := hu.form (by omega)
  obtain ⟨g', cap', rfl, _hcap', hmx', _hcg'⟩ := hv.form (by omega)
  unfold maxLen at hmx hmx'
  obtain ⟨N, hN⟩ : ∃ N : Int, (Y.toNat : Int) = N := ⟨_, rfl⟩
  have _hN0 : 0 ≤ N := by omega
  have _hN1 : N < 4294967296 := by have := Y.isLt; omega
  have HP : Hid (∀ w', IsV 32 w' (.slice (some ⟨g', 0, none⟩) 32 cap') Y → Calls Tryz.prog 41 #[.slice (some ⟨g', 0, none⟩) 32 cap'] w' fun e w'' => e = .returned (.int .u64 N) ∧ w'' = w') := by
    intro w' h
    rw [← hN]
    exact plainV 32 _ Y w' h (by omega)
  have HBIT : Hid (∀ w', IsV 32 w' (.slice (some ⟨g, 0, none⟩) 32 cap) X → IsV 32 w' (.slice (some ⟨g', 0, none⟩) 32 cap') Y → Calls Tryz.prog 67 #[.int .i64 11, .slice (some ⟨g, 0, none⟩) 32 cap, .slice (some ⟨g', 0, none⟩) 32 cap', .int .i64 (N % 32)] w' fun e w'' => ∃ v', e = .returned v' ∧ IsV 32 w'' v' (X.sshiftRight (Y.toNat % 32)) ∧ Below w'.heap.size w' w'') := by
    intro w' h h'
    have := bitV_11 32 _ _ X Y (Y.toNat % 32) w' h h' (by omega) (by omega) (by omega)
    rw [Int.natCast_emod, hN] at this
    exact this
  clear _hcg _hcg' hN
  go_enter Tryz.func43, Tryz.ntmps43
  go_wp2_with fail
  refine (HP.out _ HV.out).mono ?_
  rintro e w1 ⟨rfl, rfl⟩
  go_wp2_with fail
  refine (HBIT.out _ HU.out HV.out).mono ?_
  rintro e w2 ⟨v2, rfl, hv2, b2⟩
  go_wp2_with fail
  refine (valueR 32 _ _ R _ hv2 (by omega) (by omega) (HR.out)).mono ?_
  rintro e w9 ⟨rfl, rfl⟩
  go_wp2
  go_ret2
  exact ⟨rfl, b2⟩
theorem reck32_12 (u v : Value) (X Y : BitVec 32) (w : World) (hu : IsV 32 w u X) (hv : IsV 32 w v Y) (R : Int) (HR : Hid ((recV 12 X Y).1 = R)) :
    Calls Tryz.prog 43 #[.int .i64 12, u, v] w fun e w' => e = .returned (.tuple #[.int .i64 R, .int .i64 0]) ∧ Below w.heap.size w w' := by
  have HU : Hid (IsV 32 w u X) := hu
  have HV : Hid (IsV 32 w v Y) := hv
  obtain ⟨g, cap, rfl, _hcap, hmx, _hcg⟩ := hu.form (by omega)
  obtain ⟨g', cap', rfl, _hcap', hmx', _hcg'⟩ := hv.form (by omega)
  unfold maxLen at hmx hmx'
  obtain ⟨N, hN⟩ : ∃ N : Int, (Y.toNat : Int) = N := ⟨_, rfl⟩
  have _hN0 : 0 ≤ N := by omega
  have _hN1 : N < 4294967296 := by have := Y.isLt; omega
  have HP : Hid (∀ w', IsV 32 w' (.slice (some ⟨g', 0, none⟩) 32 cap') Y → Calls Tryz.prog 41 #[.slice (some ⟨g', 0, none⟩) 32 cap'] w' fun e w'' => e = .returned (.int .u64 N) ∧ w'' = w') := by
    intro w' h
    rw [← hN]
    exact plainV 32 _ Y w' h (by omega)
  have HBIT : Hid (∀ w', IsV 32 w' (.slice (some ⟨g, 0, none⟩) 32 cap) X → IsV 32 w' (.slice (some ⟨g', 0, none⟩) 32 cap') Y → Calls Tryz.prog 67 #[.int .i64 12, .slice (some ⟨g, 0, none⟩) 32 cap, .slice (some ⟨g', 0, none⟩) 32 cap', .int .i64 (N % 32)] w' fun e w'' => ∃ v', e = .returned v' ∧ IsV 32 w'' v' (X >>> (Y.toNat % 32)) ∧ Below w'.heap.size w' w'') := by
    intro w' h h'
    have := bitV_12 32 _ _ X Y (Y.toNat % 32) w' h h' (by omega) (by omega) (by omega)
    rw [Int.natCast_emod, hN] at this
    exact this
  clear _hcg _hcg' hN
  go_enter Tryz.func43, Tryz.ntmps43
  go_wp2_with fail
  refine (HP.out _ HV.out).mono ?_
  rintro e w1 ⟨rfl, rfl⟩
  go_wp2_with fail
  refine (HBIT.out _ HU.out HV.out).mono ?_
  rintro e w2 ⟨v2, rfl, hv2, b2⟩
  go_wp2_with fail
  refine (valueR 32 _ _ R _ hv2 (by omega) (by omega) (HR.out)).mono ?_
  rintro e w9 ⟨rfl, rfl⟩
  go_wp2
  go_ret2
  exact ⟨rfl, b2⟩
theorem reck32_13 (u v : Value) (X Y : BitVec 32) (w : World) (hu : IsV 32 w u X) (hv : IsV 32 w v Y) (R : Int) (HR : Hid ((recV 13 X Y).1 = R)) :
    Calls Tryz.prog 43 #[.int .i64 13, u, v] w fun e w' => e = .returned (.tuple #[.int .i64 R, .int .i64 0]) ∧ Below w.heap.size w w' := by
  have HU : Hid (IsV 32 w u X) := hu
  have HV : Hid (IsV 32 w v Y) := hv
  obtain ⟨g, cap, rfl, _hcap, hmx, _hcg⟩ := hu.form (by omega)
  obtain ⟨g', cap', rfl, _hcap', hmx', _hcg'⟩ := hv.form (by omega)
  unfold maxLen at hmx hmx'
  obtain ⟨N, hN⟩ : ∃ N : Int, (Y.toNat : Int) = N := ⟨_, rfl⟩
  have _hN0 : 0 ≤ N := by omega
  have _hN1 : N < 4294967296 := by have := Y.isLt; omega
  have HP : Hid (∀ w', IsV 32 w' (.slice (some ⟨g', 0, none⟩) 32 cap') Y → Calls Tryz.prog 41 #[.slice (some ⟨g', 0, none⟩) 32 cap'] w' fun e w'' => e = .returned (.int .u64 N) ∧ w'' = w') := by
    intro w' h
    rw [← hN]
    exact plainV 32 _ Y w' h (by omega)
  have HBIT : Hid (∀ w', IsV 32 w' (.slice (some ⟨g, 0, none⟩) 32 cap) X → IsV 32 w' (.slice (some ⟨g', 0, none⟩) 32 cap') Y → Calls Tryz.prog 67 #[.int .i64 13, .slice (some ⟨g, 0, none⟩) 32 cap, .slice (some ⟨g', 0, none⟩) 32 cap', .int .i64 (N % 32)] w' fun e w'' => ∃ v', e = .returned v' ∧ IsV 32 w'' v' (X <<< (Y.toNat % 32) ||| X >>> (32 - Y.toNat % 32)) ∧ Below w'.heap.size w' w'') := by
    intro w' h h'
    have := bitV_13 32 _ _ X Y (Y.toNat % 32) w' h h' (by omega) (by omega) (by omega)
    rw [Int.natCast_emod, hN] at this
    exact this
  clear _hcg _hcg' hN
  go_enter Tryz.func43, Tryz.ntmps43
  go_wp2_with fail
  refine (HP.out _ HV.out).mono ?_
  rintro e w1 ⟨rfl, rfl⟩
  go_wp2_with fail
  refine (HBIT.out _ HU.out HV.out).mono ?_
  rintro e w2 ⟨v2, rfl, hv2, b2⟩
  go_wp2_with fail
  refine (valueR 32 _ _ R _ hv2 (by omega) (by omega) (HR.out)).mono ?_
  rintro e w9 ⟨rfl, rfl⟩
  go_wp2
  go_ret2
  exact ⟨rfl, b2⟩
theorem reck32_14 (u v : Value) (X Y : BitVec 32) (w : World) (hu : IsV 32 w u X) (hv : IsV 32 w v Y) (R : Int) (HR : Hid ((recV 14 X Y).1 = R)) :
    Calls Tryz.prog 43 #[.int .i64 14, u, v] w fun e w' => e = .returned (.tuple #[.int .i64 R, .int .i64 0]) ∧ Below w.heap.size w w' := by
  have HU : Hid (IsV 32 w u X) := hu
  have HV : Hid (IsV 32 w v Y) := hv
  obtain ⟨g, cap, rfl, _hcap, hmx, _hcg⟩ := hu.form (by omega)
  obtain ⟨g', cap', rfl, _hcap', hmx', _hcg'⟩ := hv.form (by omega)
  unfold maxLen at hmx hmx'
  obtain ⟨N, hN⟩ : ∃ N : Int, (Y.toNat : Int) = N := ⟨_, rfl⟩
  have _hN0 : 0 ≤ N := by omega
  have _hN1 : N < 4294967296 := by have := Y.isLt; omega
  have HP : Hid (∀ w', IsV 32 w' (.slice (some ⟨g', 0, none⟩) 32 cap') Y → Calls Tryz.prog 41 #[.slice (some ⟨g', 0, none⟩) 32 cap'] w' fun e w'' => e = .returned (.int .u64 N) ∧ w'' = w') := by
    intro w' h
    rw [← hN]
    exact plainV 32 _ Y w' h (by omega)
  have HBIT : Hid (∀ w', IsV 32 w' (.slice (some ⟨g, 0, none⟩) 32 cap) X → IsV 32 w' (.slice (some ⟨g', 0, none⟩) 32 cap') Y → Calls Tryz.prog 67 #[.int .i64 14, .slice (some ⟨g, 0, none⟩) 32 cap, .slice (some ⟨g', 0, none⟩) 32 cap', .int .i64 (N % 32)] w' fun e w'' => ∃ v', e = .returned v' ∧ IsV 32 w'' v' (X <<< (32 - Y.toNat % 32) ||| X >>> (Y.toNat % 32)) ∧ Below w'.heap.size w' w'') := by
    intro w' h h'
    have := bitV_14 32 _ _ X Y (Y.toNat % 32) w' h h' (by omega) (by omega) (by omega)
    rw [Int.natCast_emod, hN] at this
    exact this
  clear _hcg _hcg' hN
  go_enter Tryz.func43, Tryz.ntmps43
  go_wp2_with fail
  refine (HP.out _ HV.out).mono ?_
  rintro e w1 ⟨rfl, rfl⟩
  go_wp2_with fail
  refine (HBIT.out _ HU.out HV.out).mono ?_
  rintro e w2 ⟨v2, rfl, hv2, b2⟩
  go_wp2_with fail
  refine (valueR 32 _ _ R _ hv2 (by omega) (by omega) (HR.out)).mono ?_
  rintro e w9 ⟨rfl, rfl⟩
  go_wp2
  go_ret2
  exact ⟨rfl, b2⟩
theorem reck64_0 (u v : Value) (X Y : BitVec 64) (w : World) (hu : IsV 64 w u X) (hv : IsV 64 w v Y) (R : Int) (HR : Hid ((recV 0 X Y).1 = R)) :
    Calls Tryz.prog 43 #[.int .i64 0, u, v] w fun e w' => e = .returned (.tuple #[.int .i64 R, .int .i64 0]) ∧ Below w.heap.size w w' := by
  have HU : Hid (IsV 64 w u X) := hu
  have HV : Hid (IsV 64 w v Y) := hv
  obtain ⟨g, cap, rfl, _hcap, hmx, _hcg⟩ := hu.form (by omega)
  obtain ⟨g', cap', rfl, _hcap', hmx', _hcg'⟩ := hv.form (by omega)
  unfold maxLen at hmx hmx'
  obtain ⟨N, hN⟩ : ∃ N : Int, (Y.toNat : Int) = N := ⟨_, rfl⟩
  have _hN0 : 0 ≤ N := by omega
  have _hN1 : N < 18446744073709551616 := by have := Y.isLt; omega
  have HP : Hid (∀ w', IsV 64 w' (.slice (some ⟨g', 0, none⟩) 64 cap') Y → Calls Tryz.prog 41 #[.slice (some ⟨g', 0, none⟩) 64 cap'] w' fun e w'' => e = .returned (.int .u64 N) ∧ w'' = w') := by
    intro w' h
    rw [← hN]
    exact plainV 64 _ Y w' h (by omega)
  clear _hcg _hcg' hN
  go_enter Tryz.func43, Tryz.ntmps43
  go_wp2_with fail
  refine (HP.out _ HV.out).mono ?_
  rintro e w1 ⟨rfl, rfl⟩
  go_wp2_with fail
  refine (addV0 64 _ _ X Y _ HU.out HV.out (by omega) (by omega)).mono ?_
  rintro e w2 ⟨v2, rfl, hv2, b2⟩
  go_wp2_with fail
  refine (valueR 64 _ _ R _ hv2 (by omega) (by omega) (HR.out)).mono ?_
  rintro e w9 ⟨rfl, rfl⟩
  go_wp2
  go_ret2
  exact ⟨rfl, b2⟩
theorem reck64_1 (u v : Value) (X Y : BitVec 64) (w : World) (hu : IsV 64 w u X) (hv : IsV 64 w v Y) (R : Int) (HR : Hid ((recV 1 X Y).1 = R)) :
    Calls Tryz.prog 43 #[.int .i64 1, u, v] w fun e w' => e = .returned (.tuple #[.int .i64 R, .int .i64 0]) ∧ Below w.heap.size w w' := by
  have HU : Hid (IsV 64 w u X) := hu
  have HV : Hid (IsV 64 w v Y) := hv
  obtain ⟨g, cap, rfl, _hcap, hmx, _hcg⟩ := hu.form (by omega)
  obtain ⟨g', cap', rfl, _hcap', hmx', _hcg'⟩ := hv.form (by omega)
  unfold maxLen at hmx hmx'
  obtain ⟨N, hN⟩ : ∃ N : Int, (Y.toNat : Int) = N := ⟨_, rfl⟩
  have _hN0 : 0 ≤ N := by omega
  have _hN1 : N < 18446744073709551616 := by have := Y.isLt; omega
  have HP : Hid (∀ w', IsV 64 w' (.slice (some ⟨g', 0, none⟩) 64 cap') Y → Calls Tryz.prog 41 #[.slice (some ⟨g', 0, none⟩) 64 cap'] w' fun e w'' => e = .returned (.int .u64 N) ∧ w'' = w') := by
    intro w' h
    rw [← hN]
    exact plainV 64 _ Y w' h (by omega)
  clear _hcg _hcg' hN
  go_enter Tryz.func43, Tryz.ntmps43
  go_wp2_with fail
  refine (HP.out _ HV.out).mono ?_
  rintro e w1 ⟨rfl, rfl⟩
  go_wp2_with fail
  refine (notV 64 _ Y _ HV.out (by omega) (by omega)).mono ?_
  rintro e w2 ⟨v2, rfl, hv2, b2⟩
  go_wp2_with fail
  refine (addV1 64 _ _ X _ _ (HU.out.below b2) hv2 (by omega) (by omega)).mono ?_
  rintro e w3 ⟨v3, rfl, hv3, b3⟩
  go_wp2_with fail
  refine (valueR 64 _ _ R _ hv3 (by omega) (by omega) (by rw [sub_not]; exact HR.out)).mono ?_
  rintro e w9 ⟨rfl, rfl⟩
  go_wp2
  go_ret2
  exact ⟨rfl, below_then b2 b3⟩
theorem reck64_2 (u v : Value) (X Y : BitVec 64) (w : World) (hu : IsV 64 w u X) (hv : IsV 64 w v Y) (R : Int) (HR : Hid ((recV 2 X Y).1 = R)) :
    Calls Tryz.prog 43 #[.int .i64 2, u, v] w fun e w' => e = .returned (.tuple #[.int .i64 R, .int .i64 0]) ∧ Below w.heap.size w w' := by
  have HU : Hid (IsV 64 w u X) := hu
  have HV : Hid (IsV 64 w v Y) := hv
  obtain ⟨g, cap, rfl, _hcap, hmx, _hcg⟩ := hu.form (by omega)
  obtain ⟨g', cap', rfl, _hcap', hmx', _hcg'⟩ := hv.form (by omega)
  unfold maxLen at hmx hmx'
  obtain ⟨N, hN⟩ : ∃ N : Int, (Y.toNat : Int) = N := ⟨_, rfl⟩
  have _hN0 : 0 ≤ N := by omega
  have _hN1 : N < 18446744073709551616 := by have := Y.isLt; omega
  have HP : Hid (∀ w', IsV 64 w' (.slice (some ⟨g', 0, none⟩) 64 cap') Y → Calls Tryz.prog 41 #[.slice (some ⟨g', 0, none⟩) 64 cap'] w' fun e w'' => e = .returned (.int .u64 N) ∧ w'' = w') := by
    intro w' h
    rw [← hN]
    exact plainV 64 _ Y w' h (by omega)
  clear _hcg _hcg' hN
  go_enter Tryz.func43, Tryz.ntmps43
  go_wp2_with fail
  refine (HP.out _ HV.out).mono ?_
  rintro e w1 ⟨rfl, rfl⟩
  go_wp2_with fail
  refine (timesV 64 _ _ X Y _ HU.out HV.out (by omega) (by omega)).mono ?_
  rintro e w2 ⟨v2, rfl, hv2, b2⟩
  go_wp2_with fail
  refine (valueR 64 _ _ R _ hv2 (by omega) (by omega) (HR.out)).mono ?_
  rintro e w9 ⟨rfl, rfl⟩
  go_wp2
  go_ret2
  exact ⟨rfl, b2⟩
theorem reck64_3_zero (u v : Value) (X Y : BitVec 64) (w : World) (hu : IsV 64 w u X) (hv : IsV 64 w v Y) (h0 : Y.toInt = 0) :
    Calls Tryz.prog 43 #[.int .i64 3, u, v] w fun e w' => e = .returned (.tuple #[.int .i64 0, .int .i64 21]) ∧ Below w.heap.size w w' := by
  have HU : Hid (IsV 64 w u X) := hu
  have HV : Hid (IsV 64 w v Y) := hv
  obtain ⟨g, cap, rfl, _hcap, hmx, _hcg⟩ := hu.form (by omega)
  obtain ⟨g', cap', rfl, _hcap', hmx', _hcg'⟩ := hv.form (by omega)
  unfold maxLen at hmx hmx'
  obtain ⟨N, hN⟩ : ∃ N : Int, (Y.toNat : Int) = N := ⟨_, rfl⟩
  have _hN0 : 0 ≤ N := by omega
  have _hN1 : N < 18446744073709551616 := by have := Y.isLt; omega
  have HP : Hid (∀ w', IsV 64 w' (.slice (some ⟨g', 0, none⟩) 64 cap') Y → Calls Tryz.prog 41 #[.slice (some ⟨g', 0, none⟩) 64 cap'] w' fun e w'' => e = .returned (.int .u64 N) ∧ w'' = w') := by
    intro w' h
    rw [← hN]
    exact plainV 64 _ Y w' h (by omega)
  have HZ : Hid (∀ w', IsV 64 w' (.slice (some ⟨g', 0, none⟩) 64 cap') Y → Calls Tryz.prog 38 #[.slice (some ⟨g', 0, none⟩) 64 cap'] w' fun e w'' => e = .returned (.bool true) ∧ w'' = w') := by
    intro w' h
    have := noneV 64 _ Y w' h
    rw [show decide (Y.toInt = 0) = true by rw [decide_eq_true_iff]; exact h0] at this
    exact this
  clear _hcg _hcg' hN
  clear h0 HP
  go_enter Tryz.func43, Tryz.ntmps43
  go_wp2_with fail
  refine (HZ.out _ HV.out).mono ?_
  rintro e w0 ⟨rfl, rfl⟩
  go_wp2
  go_ret2
  exact ⟨rfl, Below.refl _ _⟩
theorem reck64_4_zero (u v : Value) (X Y : BitVec 64) (w : World) (hu : IsV 64 w u X) (hv : IsV 64 w v Y) (h0 : Y.toInt = 0) :
    Calls Tryz.prog 43 #[.int .i64 4, u, v] w fun e w' => e = .returned (.tuple #[.int .i64 0, .int .i64 21]) ∧ Below w.heap.size w w' := by
  have HU : Hid (IsV 64 w u X) := hu
  have HV : Hid (IsV 64 w v Y) := hv
  obtain ⟨g, cap, rfl, _hcap, hmx, _hcg⟩ := hu.form (by omega)
  obtain ⟨g', cap', rfl, _hcap', hmx', _hcg'⟩ := hv.form (by omega)
  unfold maxLen at hmx hmx'
  obtain ⟨N, hN⟩ : ∃ N : Int, (Y.toNat : Int) = N := ⟨_, rfl⟩
  have _hN0 : 0 ≤ N := by omega
  have _hN1 : N < 18446744073709551616 := by have := Y.isLt; omega
  have HP : Hid (∀ w', IsV 64 w' (.slice (some ⟨g', 0, none⟩) 64 cap') Y → Calls Tryz.prog 41 #[.slice (some ⟨g', 0, none⟩) 64 cap'] w' fun e w'' => e = .returned (.int .u64 N) ∧ w'' = w') := by
    intro w' h
    rw [← hN]
    exact plainV 64 _ Y w' h (by omega)
  have HZ : Hid (∀ w', IsV 64 w' (.slice (some ⟨g', 0, none⟩) 64 cap') Y → Calls Tryz.prog 38 #[.slice (some ⟨g', 0, none⟩) 64 cap'] w' fun e w'' => e = .returned (.bool true) ∧ w'' = w') := by
    intro w' h
    have := noneV 64 _ Y w' h
    rw [show decide (Y.toInt = 0) = true by rw [decide_eq_true_iff]; exact h0] at this
    exact this
  clear _hcg _hcg' hN
  clear h0 HP
  go_enter Tryz.func43, Tryz.ntmps43
  go_wp2_with fail
  refine (HZ.out _ HV.out).mono ?_
  rintro e w0 ⟨rfl, rfl⟩
  go_wp2
  go_ret2
  exact ⟨rfl, Below.refl _ _⟩
theorem reck64_5_zero (u v : Value) (X Y : BitVec 64) (w : World) (hu : IsV 64 w u X) (hv : IsV 64 w v Y) (h0 : Y.toInt = 0) :
    Calls Tryz.prog 43 #[.int .i64 5, u, v] w fun e w' => e = .returned (.tuple #[.int .i64 0, .int .i64 21]) ∧ Below w.heap.size w w' := by
  have HU : Hid (IsV 64 w u X) := hu
  have HV : Hid (IsV 64 w v Y) := hv
  obtain ⟨g, cap, rfl, _hcap, hmx, _hcg⟩ := hu.form (by omega)
  obtain ⟨g', cap', rfl, _hcap', hmx', _hcg'⟩ := hv.form (by omega)
  unfold maxLen at hmx hmx'
  obtain ⟨N, hN⟩ : ∃ N : Int, (Y.toNat : Int) = N := ⟨_, rfl⟩
  have _hN0 : 0 ≤ N := by omega
  have _hN1 : N < 18446744073709551616 := by have := Y.isLt; omega
  have HP : Hid (∀ w', IsV 64 w' (.slice (some ⟨g', 0, none⟩) 64 cap') Y → Calls Tryz.prog 41 #[.slice (some ⟨g', 0, none⟩) 64 cap'] w' fun e w'' => e = .returned (.int .u64 N) ∧ w'' = w') := by
    intro w' h
    rw [← hN]
    exact plainV 64 _ Y w' h (by omega)
  have HZ : Hid (∀ w', IsV 64 w' (.slice (some ⟨g', 0, none⟩) 64 cap') Y → Calls Tryz.prog 38 #[.slice (some ⟨g', 0, none⟩) 64 cap'] w' fun e w'' => e = .returned (.bool true) ∧ w'' = w') := by
    intro w' h
    have := noneV 64 _ Y w' h
    rw [show decide (Y.toInt = 0) = true by rw [decide_eq_true_iff]; exact h0] at this
    exact this
  clear _hcg _hcg' hN
  clear h0 HP
  go_enter Tryz.func43, Tryz.ntmps43
  go_wp2_with fail
  refine (HZ.out _ HV.out).mono ?_
  rintro e w0 ⟨rfl, rfl⟩
  go_wp2
  go_ret2
  exact ⟨rfl, Below.refl _ _⟩
theorem reck64_6_zero (u v : Value) (X Y : BitVec 64) (w : World) (hu : IsV 64 w u X) (hv : IsV 64 w v Y) (h0 : Y.toInt = 0) :
    Calls Tryz.prog 43 #[.int .i64 6, u, v] w fun e w' => e = .returned (.tuple #[.int .i64 0, .int .i64 21]) ∧ Below w.heap.size w w' := by
  have HU : Hid (IsV 64 w u X) := hu
  have HV : Hid (IsV 64 w v Y) := hv
  obtain ⟨g, cap, rfl, _hcap, hmx, _hcg⟩ := hu.form (by omega)
  obtain ⟨g', cap', rfl, _hcap', hmx', _hcg'⟩ := hv.form (by omega)
  unfold maxLen at hmx hmx'
  obtain ⟨N, hN⟩ : ∃ N : Int, (Y.toNat : Int) = N := ⟨_, rfl⟩
  have _hN0 : 0 ≤ N := by omega
  have _hN1 : N < 18446744073709551616 := by have := Y.isLt; omega
  have HP : Hid (∀ w', IsV 64 w' (.slice (some ⟨g', 0, none⟩) 64 cap') Y → Calls Tryz.prog 41 #[.slice (some ⟨g', 0, none⟩) 64 cap'] w' fun e w'' => e = .returned (.int .u64 N) ∧ w'' = w') := by
    intro w' h
    rw [← hN]
    exact plainV 64 _ Y w' h (by omega)
  have HZ : Hid (∀ w', IsV 64 w' (.slice (some ⟨g', 0, none⟩) 64 cap') Y → Calls Tryz.prog 38 #[.slice (some ⟨g', 0, none⟩) 64 cap'] w' fun e w'' => e = .returned (.bool true) ∧ w'' = w') := by
    intro w' h
    have := noneV 64 _ Y w' h
    rw [show decide (Y.toInt = 0) = true by rw [decide_eq_true_iff]; exact h0] at this
    exact this
  clear _hcg _hcg' hN
  clear h0 HP
  go_enter Tryz.func43, Tryz.ntmps43
  go_wp2_with fail
  refine (HZ.out _ HV.out).mono ?_
  rintro e w0 ⟨rfl, rfl⟩
  go_wp2
  go_ret2
  exact ⟨rfl, Below.refl _ _⟩
theorem reck64_4 (u v : Value) (X Y : BitVec 64) (w : World) (hu : IsV 64 w u X) (hv : IsV 64 w v Y) (h0 : ¬ Y.toInt = 0) (R : Int) (HR : Hid ((X / Y).toInt = R)) :
    Calls Tryz.prog 43 #[.int .i64 4, u, v] w fun e w' => e = .returned (.tuple #[.int .i64 R, .int .i64 0]) ∧ Below w.heap.size w w' := by
  have HU : Hid (IsV 64 w u X) := hu
  have HV : Hid (IsV 64 w v Y) := hv
  obtain ⟨g, cap, rfl, _hcap, hmx, _hcg⟩ := hu.form (by omega)
  obtain ⟨g', cap', rfl, _hcap', hmx', _hcg'⟩ := hv.form (by omega)
  unfold maxLen at hmx hmx'
  obtain ⟨N, hN⟩ : ∃ N : Int, (Y.toNat : Int) = N := ⟨_, rfl⟩
  have _hN0 : 0 ≤ N := by omega
  have _hN1 : N < 18446744073709551616 := by have := Y.isLt; omega
  have HP : Hid (∀ w', IsV 64 w' (.slice (some ⟨g', 0, none⟩) 64 cap') Y → Calls Tryz.prog 41 #[.slice (some ⟨g', 0, none⟩) 64 cap'] w' fun e w'' => e = .returned (.int .u64 N) ∧ w'' = w') := by
    intro w' h
    rw [← hN]
    exact plainV 64 _ Y w' h (by omega)
  have HZ : Hid (∀ w', IsV 64 w' (.slice (some ⟨g', 0, none⟩) 64 cap') Y → Calls Tryz.prog 38 #[.slice (some ⟨g', 0, none⟩) 64 cap'] w' fun e w'' => e = .returned (.bool false) ∧ w'' = w') := by
    intro w' h
    have := noneV 64 _ Y w' h
    rw [show decide (Y.toInt = 0) = false by rw [decide_eq_false_iff_not]; exact h0] at this
    exact this
  clear _hcg _hcg' hN
  have HNZ : Hid (¬ Y.toInt = 0) := h0
  clear h0
  go_enter Tryz.func43, Tryz.ntmps43
  go_wp2_with fail
  refine (HZ.out _ HV.out).mono ?_
  rintro e w0 ⟨rfl, rfl⟩
  go_wp2_with fail
  refine (HP.out _ HV.out).mono ?_
  rintro e w1 ⟨rfl, rfl⟩
  go_wp2_with fail
  refine (splitV 64 _ _ X Y _ HU.out HV.out (by omega) (by omega) HNZ.out).mono ?_
  rintro e w2 ⟨q2, r2, rfl, hq2, hr2, b2⟩
  go_wp2_with fail
  refine (valueR 64 _ _ R _ hq2 (by omega) (by omega) (HR.out)).mono ?_
  rintro e w9 ⟨rfl, rfl⟩
  go_wp2
  go_ret2
  exact ⟨rfl, b2⟩
theorem reck64_6 (u v : Value) (X Y : BitVec 64) (w : World) (hu : IsV 64 w u X) (hv : IsV 64 w v Y) (h0 : ¬ Y.toInt = 0) (R : Int) (HR : Hid ((X % Y).toInt = R)) :
    Calls Tryz.prog 43 #[.int .i64 6, u, v] w fun e w' => e = .returned (.tuple #[.int .i64 R, .int .i64 0]) ∧ Below w.heap.size w w' := by
  have HU : Hid (IsV 64 w u X) := hu
  have HV : Hid (IsV 64 w v Y) := hv
  obtain ⟨g, cap, rfl, _hcap, hmx, _hcg⟩ := hu.form (by omega)
  obtain ⟨g', cap', rfl, _hcap', hmx', _hcg'⟩ := hv.form (by omega)
  unfold maxLen at hmx hmx'
  obtain ⟨N, hN⟩ : ∃ N : Int, (Y.toNat : Int) = N := ⟨_, rfl⟩
  have _hN0 : 0 ≤ N := by omega
  have _hN1 : N < 18446744073709551616 := by have := Y.isLt; omega
  have HP : Hid (∀ w', IsV 64 w' (.slice (some ⟨g', 0, none⟩) 64 cap') Y → Calls Tryz.prog 41 #[.slice (some ⟨g', 0, none⟩) 64 cap'] w' fun e w'' => e = .returned (.int .u64 N) ∧ w'' = w') := by
    intro w' h
    rw [← hN]
    exact plainV 64 _ Y w' h (by omega)
  have HZ : Hid (∀ w', IsV 64 w' (.slice (some ⟨g', 0, none⟩) 64 cap') Y → Calls Tryz.prog 38 #[.slice (some ⟨g', 0, none⟩) 64 cap'] w' fun e w'' => e = .returned (.bool false) ∧ w'' = w') := by
    intro w' h
    have := noneV 64 _ Y w' h
    rw [show decide (Y.toInt = 0) = false by rw [decide_eq_false_iff_not]; exact h0] at this
    exact this
  clear _hcg _hcg' hN
  have HNZ : Hid (¬ Y.toInt = 0) := h0
  clear h0
  go_enter Tryz.func43, Tryz.ntmps43
  go_wp2_with fail
  refine (HZ.out _ HV.out).mono ?_
  rintro e w0 ⟨rfl, rfl⟩
  go_wp2_with fail
  refine (HP.out _ HV.out).mono ?_
  rintro e w1 ⟨rfl, rfl⟩
  go_wp2_with fail
  refine (splitV 64 _ _ X Y _ HU.out HV.out (by omega) (by omega) HNZ.out).mono ?_
  rintro e w2 ⟨q2, r2, rfl, hq2, hr2, b2⟩
  go_wp2_with fail
  refine (valueR 64 _ _ R _ hr2 (by omega) (by omega) (HR.out)).mono ?_
  rintro e w9 ⟨rfl, rfl⟩
  go_wp2
  go_ret2
  exact ⟨rfl, b2⟩
theorem reck64_5 (u v : Value) (X Y : BitVec 64) (w : World) (hu : IsV 64 w u X) (hv : IsV 64 w v Y) (h0 : ¬ Y.toInt = 0) (R : Int) (HR : Hid (X.toInt.tmod Y.toInt = R)) :
    Calls Tryz.prog 43 #[.int .i64 5, u, v] w fun e w' => e = .returned (.tuple #[.int .i64 R, .int .i64 0]) ∧ Below w.heap.size w w' := by
  have HU : Hid (IsV 64 w u X) := hu
  have HV : Hid (IsV 64 w v Y) := hv
  obtain ⟨g, cap, rfl, _hcap, hmx, _hcg⟩ := hu.form (by omega)
  obtain ⟨g', cap', rfl, _hcap', hmx', _hcg'⟩ := hv.form (by omega)
  unfold maxLen at hmx hmx'
  obtain ⟨N, hN⟩ : ∃ N : Int, (Y.toNat : Int) = N := ⟨_, rfl⟩
  have _hN0 : 0 ≤ N := by omega
  have _hN1 : N < 18446744073709551616 := by have := Y.isLt; omega
  have HP : Hid (∀ w', IsV 64 w' (.slice (some ⟨g', 0, none⟩) 64 cap') Y → Calls Tryz.prog 41 #[.slice (some ⟨g', 0, none⟩) 64 cap'] w' fun e w'' => e = .returned (.int .u64 N) ∧ w'' = w') := by
    intro w' h
    rw [← hN]
    exact plainV 64 _ Y w' h (by omega)
  have HZ : Hid (∀ w', IsV 64 w' (.slice (some ⟨g', 0, none⟩) 64 cap') Y → Calls Tryz.prog 38 #[.slice (some ⟨g', 0, none⟩) 64 cap'] w' fun e w'' => e = .returned (.bool false) ∧ w'' = w') := by
    intro w' h
    have := noneV 64 _ Y w' h
    rw [show decide (Y.toInt = 0) = false by rw [decide_eq_false_iff_not]; exact h0] at this
    exact this
  clear _hcg _hcg' hN
  have HNZ : Hid (¬ Y.toInt = 0) := h0
  clear h0
  go_enter Tryz.func43, Tryz.ntmps43
  go_wp2_with fail
  refine (HZ.out _ HV.out).mono ?_
  rintro e w0 ⟨rfl, rfl⟩
  go_wp2_with fail
  refine (HP.out _ HV.out).mono ?_
  rintro e w1 ⟨rfl, rfl⟩
  go_wp2_with fail
  refine (sizeV 64 _ X _ HU.out (by omega) (by omega)).mono ?_
  rintro e w2 ⟨v2, rfl, hv2, b2⟩
  go_wp2_with fail
  refine (sizeV 64 _ Y _ (HV.out.below b2) (by omega) (by omega)).mono ?_
  rintro e w3 ⟨v3, rfl, hv3, b3⟩
  go_wp2_with fail
  have HB3 : Hid (Below w1.heap.size w1 w3) := below_then b2 b3
  refine (splitV 64 _ _ _ _ _ (hv2.below b3) hv3 (by omega) (by omega) (size_ne 64 Y HNZ.out)).mono ?_
  rintro e w4 ⟨q4, r4, rfl, hq4, hr4, b4⟩
  have HB4 : Hid (Below w1.heap.size w1 w4) := below_then HB3.out b4
  clear b2 b3 b4 hv2 hv3 HB3
  have HU4 : Hid _ := HU.out.below HB4.out
  have HV4 : Hid _ := HV.out.below HB4.out
  obtain ⟨g1, cap1, e1, _, _, hcg4⟩ := IsV.form HU4.out (by omega)
  simp only [Value.slice.injEq, Option.some.injEq, Addr.mk.injEq, and_true] at e1
  obtain ⟨rfl, _, _⟩ := e1
  have HE : Hid ((if X.msb then -((if X.msb then -X else X) % (if Y.msb then -Y else Y)) else (if X.msb then -X else X) % (if Y.msb then -Y else Y)).toInt = R) := (srem_case 64 X Y).trans HR.out
  generalize hm : X.msb = m at hcg4 HE hq4 hr4
  generalize hm2 : Y.msb = m2 at HE hq4 hr4
  have HR4 : Hid (IsV 64 w4 r4 ((if m then -X else X) % (if m2 then -Y else Y))) := hr4
  clear hr4 hq4 hm hm2 HU4 HV4
  cases m with
  | true =>
    go_wp2_with fail
    refine (minusV 64 _ _ _ HR4.out (by omega) (by omega)).mono ?_
    rintro e w5 ⟨v5, rfl, hv5, b5⟩
    go_wp2_with fail
    refine (valueR 64 _ _ R _ hv5 (by omega) (by omega) HE.out).mono ?_
    rintro e w9 ⟨rfl, rfl⟩
    go_wp2
    go_ret2
    exact ⟨rfl, below_then HB4.out b5⟩
  | false =>
    go_wp2_with fail
    refine (valueR 64 _ _ R _ HR4.out (by omega) (by omega) HE.out).mono ?_
    rintro e w9 ⟨rfl, rfl⟩
    go_wp2
    go_ret2
    exact ⟨rfl, HB4.out⟩
theorem reck64_3 (u v : Value) (X Y : BitVec 64) (w : World) (hu : IsV 64 w u X) (hv : IsV 64 w v Y) (h0 : ¬ Y.toInt = 0) (R E : Int) (hd : X.msb ≠ Y.msb → (-((if X.msb then -X else X) / (if Y.msb then -Y else Y))).toInt = R ∧ E = 0) (hs : X.msb = Y.msb → ((if X.msb then -X else X) / (if Y.msb then -Y else Y)).msb = false → ((if X.msb then -X else X) / (if Y.msb then -Y else Y)).toInt = R ∧ E = 0) (ho : X.msb = Y.msb → ((if X.msb then -X else X) / (if Y.msb then -Y else Y)).msb = true → R = 0 ∧ E = 22) :
    Calls Tryz.prog 43 #[.int .i64 3, u, v] w fun e w' => e = .returned (.tuple #[.int .i64 R, .int .i64 E]) ∧ Below w.heap.size w w' := by
  have HU : Hid (IsV 64 w u X) := hu
  have HV : Hid (IsV 64 w v Y) := hv
  obtain ⟨g, cap, rfl, _hcap, hmx, _hcg⟩ := hu.form (by omega)
  obtain ⟨g', cap', rfl, _hcap', hmx', _hcg'⟩ := hv.form (by omega)
  unfold maxLen at hmx hmx'
  obtain ⟨N, hN⟩ : ∃ N : Int, (Y.toNat : Int) = N := ⟨_, rfl⟩
  have _hN0 : 0 ≤ N := by omega
  have _hN1 : N < 18446744073709551616 := by have := Y.isLt; omega
  have HP : Hid (∀ w', IsV 64 w' (.slice (some ⟨g', 0, none⟩) 64 cap') Y → Calls Tryz.prog 41 #[.slice (some ⟨g', 0, none⟩) 64 cap'] w' fun e w'' => e = .returned (.int .u64 N) ∧ w'' = w') := by
    intro w' h
    rw [← hN]
    exact plainV 64 _ Y w' h (by omega)
  have HZ : Hid (∀ w', IsV 64 w' (.slice (some ⟨g', 0, none⟩) 64 cap') Y → Calls Tryz.prog 38 #[.slice (some ⟨g', 0, none⟩) 64 cap'] w' fun e w'' => e = .returned (.bool false) ∧ w'' = w') := by
    intro w' h
    have := noneV 64 _ Y w' h
    rw [show decide (Y.toInt = 0) = false by rw [decide_eq_false_iff_not]; exact h0] at this
    exact this
  clear _hcg _hcg' hN
  have HNZ : Hid (¬ Y.toInt = 0) := h0
  clear h0
  go_enter Tryz.func43, Tryz.ntmps43
  go_wp2_with fail
  refine (HZ.out _ HV.out).mono ?_
  rintro e w0 ⟨rfl, rfl⟩
  go_wp2_with fail
  refine (HP.out _ HV.out).mono ?_
  rintro e w1 ⟨rfl, rfl⟩
  go_wp2_with fail
  refine (sizeV 64 _ X _ HU.out (by omega) (by omega)).mono ?_
  rintro e w2 ⟨v2, rfl, hv2, b2⟩
  go_wp2_with fail
  refine (sizeV 64 _ Y _ (HV.out.below b2) (by omega) (by omega)).mono ?_
  rintro e w3 ⟨v3, rfl, hv3, b3⟩
  go_wp2_with fail
  have HB3 : Hid (Below w1.heap.size w1 w3) := below_then b2 b3
  refine (splitV 64 _ _ _ _ _ (hv2.below b3) hv3 (by omega) (by omega) (size_ne 64 Y HNZ.out)).mono ?_
  rintro e w4 ⟨q4, r4, rfl, hq4, hr4, b4⟩
  have HB4 : Hid (Below w1.heap.size w1 w4) := below_then HB3.out b4
  clear b2 b3 b4 hv2 hv3 HB3
  have HU4 : Hid _ := HU.out.below HB4.out
  have HV4 : Hid _ := HV.out.below HB4.out
  obtain ⟨g1, cap1, e1, _, _, hcg4⟩ := IsV.form HU4.out (by omega)
  simp only [Value.slice.injEq, Option.some.injEq, Addr.mk.injEq, and_true] at e1
  obtain ⟨rfl, _, _⟩ := e1
  obtain ⟨g2, cap2, e2, _, _, hcg5⟩ := IsV.form HV4.out (by omega)
  simp only [Value.slice.injEq, Option.some.injEq, Addr.mk.injEq, and_true] at e2
  obtain ⟨rfl, _, _⟩ := e2
  obtain ⟨gq, capq, rfl, _, hmq, hcq⟩ := hq4.form (by omega)
  unfold maxLen at hmq
  have HD : Hid (X.msb ≠ Y.msb → (-((if X.msb then -X else X) / (if Y.msb then -Y else Y))).toInt = R ∧ E = 0) := hd
  have HS : Hid (X.msb = Y.msb → ((if X.msb then -X else X) / (if Y.msb then -Y else Y)).msb = false → ((if X.msb then -X else X) / (if Y.msb then -Y else Y)).toInt = R ∧ E = 0) := hs
  have HO : Hid (X.msb = Y.msb → ((if X.msb then -X else X) / (if Y.msb then -Y else Y)).msb = true → R = 0 ∧ E = 22) := ho
  have HQ4 : Hid (IsV 64 w4 (.slice (some ⟨gq, 0, none⟩) 64 capq) ((if X.msb then -X else X) / (if Y.msb then -Y else Y))) := hq4
  clear hd hs ho hq4 hr4
  generalize (if X.msb then -X else X) / (if Y.msb then -Y else Y) = Q at HD HS HO HQ4 hcq
  generalize X.msb = m at hcg4 HD HS HO
  generalize Y.msb = m2 at hcg5 HD HS HO
  clear HU4 HV4
  by_cases hmm : m = m2
  · subst hmm
    have HS2 := HS.out rfl
    have HO2 := HO.out rfl
    have HS3 : Hid _ := HS2
    have HO3 : Hid _ := HO2
    clear HS HO HD HS2 HO2
    generalize hq : Q.msb = q at hcq HS3 HO3
    clear hq
    cases q with
    | true =>
      obtain ⟨rfl, rfl⟩ := HO3.out rfl
      clear HS3 HO3
      cases m
      all_goals
        go_wp2_with fail
        go_quiet (fail)
        go_wp2
        go_ret2
        exact ⟨rfl, below_drewN HB4.out _⟩
    | false =>
      obtain ⟨HR, rfl⟩ := HS3.out rfl
      have HR2 : Hid _ := HR
      clear HS3 HO3 HR
      cases m
      all_goals
        go_wp2_with fail
        go_quiet (fail)
        go_wp2_with fail
        refine (valueR 64 _ _ R _ (HQ4.out.below (below_drewN (Below.refl _ _) _)) (by omega) (by omega) HR2.out).mono ?_
        rintro e w9 ⟨rfl, rfl⟩
        go_wp2
        go_ret2
        exact ⟨rfl, below_drewN HB4.out _⟩
  · obtain ⟨HR, rfl⟩ := HD.out hmm
    have HR2 : Hid _ := HR
    clear HS HO HD HR hcq
    cases m <;> cases m2
    all_goals first
      | (exfalso; exact hmm rfl)
      | (clear hmm
         go_wp2_with fail
         go_quiet (fail)
         go_wp2_with fail
         refine (minusV 64 _ _ _ (HQ4.out.below (below_drewN (Below.refl _ _) _)) (by omega) (by omega)).mono ?_
         rintro e w5 ⟨v5, rfl, hv5, b5⟩
         go_wp2_with fail
         refine (valueR 64 _ _ R _ hv5 (by omega) (by omega) HR2.out).mono ?_
         rintro e w9 ⟨rfl, rfl⟩
         go_wp2
         go_ret2
         exact ⟨rfl, below_then (below_drewN HB4.out _) b5⟩)
theorem reck64_7 (u v : Value) (X Y : BitVec 64) (w : World) (hu : IsV 64 w u X) (hv : IsV 64 w v Y) (R : Int) (HR : Hid ((recV 7 X Y).1 = R)) :
    Calls Tryz.prog 43 #[.int .i64 7, u, v] w fun e w' => e = .returned (.tuple #[.int .i64 R, .int .i64 0]) ∧ Below w.heap.size w w' := by
  have HU : Hid (IsV 64 w u X) := hu
  have HV : Hid (IsV 64 w v Y) := hv
  obtain ⟨g, cap, rfl, _hcap, hmx, _hcg⟩ := hu.form (by omega)
  obtain ⟨g', cap', rfl, _hcap', hmx', _hcg'⟩ := hv.form (by omega)
  unfold maxLen at hmx hmx'
  obtain ⟨N, hN⟩ : ∃ N : Int, (Y.toNat : Int) = N := ⟨_, rfl⟩
  have _hN0 : 0 ≤ N := by omega
  have _hN1 : N < 18446744073709551616 := by have := Y.isLt; omega
  have HP : Hid (∀ w', IsV 64 w' (.slice (some ⟨g', 0, none⟩) 64 cap') Y → Calls Tryz.prog 41 #[.slice (some ⟨g', 0, none⟩) 64 cap'] w' fun e w'' => e = .returned (.int .u64 N) ∧ w'' = w') := by
    intro w' h
    rw [← hN]
    exact plainV 64 _ Y w' h (by omega)
  have HBIT : Hid (∀ w', IsV 64 w' (.slice (some ⟨g, 0, none⟩) 64 cap) X → IsV 64 w' (.slice (some ⟨g', 0, none⟩) 64 cap') Y → Calls Tryz.prog 67 #[.int .i64 7, .slice (some ⟨g, 0, none⟩) 64 cap, .slice (some ⟨g', 0, none⟩) 64 cap', .int .i64 (N % 64)] w' fun e w'' => ∃ v', e = .returned v' ∧ IsV 64 w'' v' (X &&& Y) ∧ Below w'.heap.size w' w'') := by
    intro w' h h'
    have := bitV_7 64 _ _ X Y (Y.toNat % 64) w' h h' (by omega) (by omega) (by omega)
    rw [Int.natCast_emod, hN] at this
    exact this
  clear _hcg _hcg' hN
  go_enter Tryz.func43, Tryz.ntmps43
  go_wp2_with fail
  refine (HP.out _ HV.out).mono ?_
  rintro e w1 ⟨rfl, rfl⟩
  go_wp2_with fail
  refine (HBIT.out _ HU.out HV.out).mono ?_
  rintro e w2 ⟨v2, rfl, hv2, b2⟩
  go_wp2_with fail
  refine (valueR 64 _ _ R _ hv2 (by omega) (by omega) (HR.out)).mono ?_
  rintro e w9 ⟨rfl, rfl⟩
  go_wp2
  go_ret2
  exact ⟨rfl, b2⟩
theorem reck64_8 (u v : Value) (X Y : BitVec 64) (w : World) (hu : IsV 64 w u X) (hv : IsV 64 w v Y) (R : Int) (HR : Hid ((recV 8 X Y).1 = R)) :
    Calls Tryz.prog 43 #[.int .i64 8, u, v] w fun e w' => e = .returned (.tuple #[.int .i64 R, .int .i64 0]) ∧ Below w.heap.size w w' := by
  have HU : Hid (IsV 64 w u X) := hu
  have HV : Hid (IsV 64 w v Y) := hv
  obtain ⟨g, cap, rfl, _hcap, hmx, _hcg⟩ := hu.form (by omega)
  obtain ⟨g', cap', rfl, _hcap', hmx', _hcg'⟩ := hv.form (by omega)
  unfold maxLen at hmx hmx'
  obtain ⟨N, hN⟩ : ∃ N : Int, (Y.toNat : Int) = N := ⟨_, rfl⟩
  have _hN0 : 0 ≤ N := by omega
  have _hN1 : N < 18446744073709551616 := by have := Y.isLt; omega
  have HP : Hid (∀ w', IsV 64 w' (.slice (some ⟨g', 0, none⟩) 64 cap') Y → Calls Tryz.prog 41 #[.slice (some ⟨g', 0, none⟩) 64 cap'] w' fun e w'' => e = .returned (.int .u64 N) ∧ w'' = w') := by
    intro w' h
    rw [← hN]
    exact plainV 64 _ Y w' h (by omega)
  have HBIT : Hid (∀ w', IsV 64 w' (.slice (some ⟨g, 0, none⟩) 64 cap) X → IsV 64 w' (.slice (some ⟨g', 0, none⟩) 64 cap') Y → Calls Tryz.prog 67 #[.int .i64 8, .slice (some ⟨g, 0, none⟩) 64 cap, .slice (some ⟨g', 0, none⟩) 64 cap', .int .i64 (N % 64)] w' fun e w'' => ∃ v', e = .returned v' ∧ IsV 64 w'' v' (X ||| Y) ∧ Below w'.heap.size w' w'') := by
    intro w' h h'
    have := bitV_8 64 _ _ X Y (Y.toNat % 64) w' h h' (by omega) (by omega) (by omega)
    rw [Int.natCast_emod, hN] at this
    exact this
  clear _hcg _hcg' hN
  go_enter Tryz.func43, Tryz.ntmps43
  go_wp2_with fail
  refine (HP.out _ HV.out).mono ?_
  rintro e w1 ⟨rfl, rfl⟩
  go_wp2_with fail
  refine (HBIT.out _ HU.out HV.out).mono ?_
  rintro e w2 ⟨v2, rfl, hv2, b2⟩
  go_wp2_with fail
  refine (valueR 64 _ _ R _ hv2 (by omega) (by omega) (HR.out)).mono ?_
  rintro e w9 ⟨rfl, rfl⟩
  go_wp2
  go_ret2
  exact ⟨rfl, b2⟩
theorem reck64_9 (u v : Value) (X Y : BitVec 64) (w : World) (hu : IsV 64 w u X) (hv : IsV 64 w v Y) (R : Int) (HR : Hid ((recV 9 X Y).1 = R)) :
    Calls Tryz.prog 43 #[.int .i64 9, u, v] w fun e w' => e = .returned (.tuple #[.int .i64 R, .int .i64 0]) ∧ Below w.heap.size w w' := by
  have HU : Hid (IsV 64 w u X) := hu
  have HV : Hid (IsV 64 w v Y) := hv
  obtain ⟨g, cap, rfl, _hcap, hmx, _hcg⟩ := hu.form (by omega)
  obtain ⟨g', cap', rfl, _hcap', hmx', _hcg'⟩ := hv.form (by omega)
  unfold maxLen at hmx hmx'
  obtain ⟨N, hN⟩ : ∃ N : Int, (Y.toNat : Int) = N := ⟨_, rfl⟩
  have _hN0 : 0 ≤ N := by omega
  have _hN1 : N < 18446744073709551616 := by have := Y.isLt; omega
  have HP : Hid (∀ w', IsV 64 w' (.slice (some ⟨g', 0, none⟩) 64 cap') Y → Calls Tryz.prog 41 #[.slice (some ⟨g', 0, none⟩) 64 cap'] w' fun e w'' => e = .returned (.int .u64 N) ∧ w'' = w') := by
    intro w' h
    rw [← hN]
    exact plainV 64 _ Y w' h (by omega)
  have HBIT : Hid (∀ w', IsV 64 w' (.slice (some ⟨g, 0, none⟩) 64 cap) X → IsV 64 w' (.slice (some ⟨g', 0, none⟩) 64 cap') Y → Calls Tryz.prog 67 #[.int .i64 9, .slice (some ⟨g, 0, none⟩) 64 cap, .slice (some ⟨g', 0, none⟩) 64 cap', .int .i64 (N % 64)] w' fun e w'' => ∃ v', e = .returned v' ∧ IsV 64 w'' v' (X ^^^ Y) ∧ Below w'.heap.size w' w'') := by
    intro w' h h'
    have := bitV_9 64 _ _ X Y (Y.toNat % 64) w' h h' (by omega) (by omega) (by omega)
    rw [Int.natCast_emod, hN] at this
    exact this
  clear _hcg _hcg' hN
  go_enter Tryz.func43, Tryz.ntmps43
  go_wp2_with fail
  refine (HP.out _ HV.out).mono ?_
  rintro e w1 ⟨rfl, rfl⟩
  go_wp2_with fail
  refine (HBIT.out _ HU.out HV.out).mono ?_
  rintro e w2 ⟨v2, rfl, hv2, b2⟩
  go_wp2_with fail
  refine (valueR 64 _ _ R _ hv2 (by omega) (by omega) (HR.out)).mono ?_
  rintro e w9 ⟨rfl, rfl⟩
  go_wp2
  go_ret2
  exact ⟨rfl, b2⟩
theorem reck64_10 (u v : Value) (X Y : BitVec 64) (w : World) (hu : IsV 64 w u X) (hv : IsV 64 w v Y) (R : Int) (HR : Hid ((recV 10 X Y).1 = R)) :
    Calls Tryz.prog 43 #[.int .i64 10, u, v] w fun e w' => e = .returned (.tuple #[.int .i64 R, .int .i64 0]) ∧ Below w.heap.size w w' := by
  have HU : Hid (IsV 64 w u X) := hu
  have HV : Hid (IsV 64 w v Y) := hv
  obtain ⟨g, cap, rfl, _hcap, hmx, _hcg⟩ := hu.form (by omega)
  obtain ⟨g', cap', rfl, _hcap', hmx', _hcg'⟩ := hv.form (by omega)
  unfold maxLen at hmx hmx'
  obtain ⟨N, hN⟩ : ∃ N : Int, (Y.toNat : Int) = N := ⟨_, rfl⟩
  have _hN0 : 0 ≤ N := by omega
  have _hN1 : N < 18446744073709551616 := by have := Y.isLt; omega
  have HP : Hid (∀ w', IsV 64 w' (.slice (some ⟨g', 0, none⟩) 64 cap') Y → Calls Tryz.prog 41 #[.slice (some ⟨g', 0, none⟩) 64 cap'] w' fun e w'' => e = .returned (.int .u64 N) ∧ w'' = w') := by
    intro w' h
    rw [← hN]
    exact plainV 64 _ Y w' h (by omega)
  have HBIT : Hid (∀ w', IsV 64 w' (.slice (some ⟨g, 0, none⟩) 64 cap) X → IsV 64 w' (.slice (some ⟨g', 0, none⟩) 64 cap') Y → Calls Tryz.prog 67 #[.int .i64 10, .slice (some ⟨g, 0, none⟩) 64 cap, .slice (some ⟨g', 0, none⟩) 64 cap', .int .i64 (N % 64)] w' fun e w'' => ∃ v', e = .returned v' ∧ IsV 64 w'' v' (X <<< (Y.toNat % 64)) ∧ Below w'.heap.size w' w'') := by
    intro w' h h'
    have := bitV_10 64 _ _ X Y (Y.toNat % 64) w' h h' (by omega) (by omega) (by omega)
    rw [Int.natCast_emod, hN] at this
    exact this
  clear _hcg _hcg' hN
  go_enter Tryz.func43, Tryz.ntmps43
  go_wp2_with fail
  refine (HP.out _ HV.out).mono ?_
  rintro e w1 ⟨rfl, rfl⟩
  go_wp2_with fail
  refine (HBIT.out _ HU.out HV.out).mono ?_
  rintro e w2 ⟨v2, rfl, hv2, b2⟩
  go_wp2_with fail
  refine (valueR 64 _ _ R _ hv2 (by omega) (by omega) (HR.out)).mono ?_
  rintro e w9 ⟨rfl, rfl⟩
  go_wp2
  go_ret2
  exact ⟨rfl, b2⟩
theorem reck64_11 (u v : Value) (X Y : BitVec 64) (w : World) (hu : IsV 64 w u X) (hv : IsV 64 w v Y) (R : Int) (HR : Hid ((recV 11 X Y).1 = R)) :
    Calls Tryz.prog 43 #[.int .i64 11, u, v] w fun e w' => e = .returned (.tuple #[.int .i64 R, .int .i64 0]) ∧ Below w.heap.size w w' := by
  have HU : Hid (IsV 64 w u X) := hu
  have HV : Hid (IsV 64 w v Y) := hv
  obtain ⟨g, cap, rfl, _hcap, hmx, _hcg⟩ := hu.form (by omega)
  obtain ⟨g', cap', rfl, _hcap', hmx', _hcg'⟩ := hv.form (by omega)
  unfold maxLen at hmx hmx'
  obtain ⟨N, hN⟩ : ∃ N : Int, (Y.toNat : Int) = N := ⟨_, rfl⟩
  have _hN0 : 0 ≤ N := by omega
  have _hN1 : N < 18446744073709551616 := by have := Y.isLt; omega
  have HP : Hid (∀ w', IsV 64 w' (.slice (some ⟨g', 0, none⟩) 64 cap') Y → Calls Tryz.prog 41 #[.slice (some ⟨g', 0, none⟩) 64 cap'] w' fun e w'' => e = .returned (.int .u64 N) ∧ w'' = w') := by
    intro w' h
    rw [← hN]
    exact plainV 64 _ Y w' h (by omega)
  have HBIT : Hid (∀ w', IsV 64 w' (.slice (some ⟨g, 0, none⟩) 64 cap) X → IsV 64 w' (.slice (some ⟨g', 0, none⟩) 64 cap') Y → Calls Tryz.prog 67 #[.int .i64 11, .slice (some ⟨g, 0, none⟩) 64 cap, .slice (some ⟨g', 0, none⟩) 64 cap', .int .i64 (N % 64)] w' fun e w'' => ∃ v', e = .returned v' ∧ IsV 64 w'' v' (X.sshiftRight (Y.toNat % 64)) ∧ Below w'.heap.size w' w'') := by
    intro w' h h'
    have := bitV_11 64 _ _ X Y (Y.toNat % 64) w' h h' (by omega) (by omega) (by omega)
    rw [Int.natCast_emod, hN] at this
    exact this
  clear _hcg _hcg' hN
  go_enter Tryz.func43, Tryz.ntmps43
  go_wp2_with fail
  refine (HP.out _ HV.out).mono ?_
  rintro e w1 ⟨rfl, rfl⟩
  go_wp2_with fail
  refine (HBIT.out _ HU.out HV.out).mono ?_
  rintro e w2 ⟨v2, rfl, hv2, b2⟩
  go_wp2_with fail
  refine (valueR 64 _ _ R _ hv2 (by omega) (by omega) (HR.out)).mono ?_
  rintro e w9 ⟨rfl, rfl⟩
  go_wp2
  go_ret2
  exact ⟨rfl, b2⟩
theorem reck64_12 (u v : Value) (X Y : BitVec 64) (w : World) (hu : IsV 64 w u X) (hv : IsV 64 w v Y) (R : Int) (HR : Hid ((recV 12 X Y).1 = R)) :
    Calls Tryz.prog 43 #[.int .i64 12, u, v] w fun e w' => e = .returned (.tuple #[.int .i64 R, .int .i64 0]) ∧ Below w.heap.size w w' := by
  have HU : Hid (IsV 64 w u X) := hu
  have HV : Hid (IsV 64 w v Y) := hv
  obtain ⟨g, cap, rfl, _hcap, hmx, _hcg⟩ := hu.form (by omega)
  obtain ⟨g', cap', rfl, _hcap', hmx', _hcg'⟩ := hv.form (by omega)
  unfold maxLen at hmx hmx'
  obtain ⟨N, hN⟩ : ∃ N : Int, (Y.toNat : Int) = N := ⟨_, rfl⟩
  have _hN0 : 0 ≤ N := by omega
  have _hN1 : N < 18446744073709551616 := by have := Y.isLt; omega
  have HP : Hid (∀ w', IsV 64 w' (.slice (some ⟨g', 0, none⟩) 64 cap') Y → Calls Tryz.prog 41 #[.slice (some ⟨g', 0, none⟩) 64 cap'] w' fun e w'' => e = .returned (.int .u64 N) ∧ w'' = w') := by
    intro w' h
    rw [← hN]
    exact plainV 64 _ Y w' h (by omega)
  have HBIT : Hid (∀ w', IsV 64 w' (.slice (some ⟨g, 0, none⟩) 64 cap) X → IsV 64 w' (.slice (some ⟨g', 0, none⟩) 64 cap') Y → Calls Tryz.prog 67 #[.int .i64 12, .slice (some ⟨g, 0, none⟩) 64 cap, .slice (some ⟨g', 0, none⟩) 64 cap', .int .i64 (N % 64)] w' fun e w'' => ∃ v', e = .returned v' ∧ IsV 64 w'' v' (X >>> (Y.toNat % 64)) ∧ Below w'.heap.size w' w'') := by
    intro w' h h'
    have := bitV_12 64 _ _ X Y (Y.toNat % 64) w' h h' (by omega) (by omega) (by omega)
    rw [Int.natCast_emod, hN] at this
    exact this
  clear _hcg _hcg' hN
  go_enter Tryz.func43, Tryz.ntmps43
  go_wp2_with fail
  refine (HP.out _ HV.out).mono ?_
  rintro e w1 ⟨rfl, rfl⟩
  go_wp2_with fail
  refine (HBIT.out _ HU.out HV.out).mono ?_
  rintro e w2 ⟨v2, rfl, hv2, b2⟩
  go_wp2_with fail
  refine (valueR 64 _ _ R _ hv2 (by omega) (by omega) (HR.out)).mono ?_
  rintro e w9 ⟨rfl, rfl⟩
  go_wp2
  go_ret2
  exact ⟨rfl, b2⟩
theorem reck64_13 (u v : Value) (X Y : BitVec 64) (w : World) (hu : IsV 64 w u X) (hv : IsV 64 w v Y) (R : Int) (HR : Hid ((recV 13 X Y).1 = R)) :
    Calls Tryz.prog 43 #[.int .i64 13, u, v] w fun e w' => e = .returned (.tuple #[.int .i64 R, .int .i64 0]) ∧ Below w.heap.size w w' := by
  have HU : Hid (IsV 64 w u X) := hu
  have HV : Hid (IsV 64 w v Y) := hv
  obtain ⟨g, cap, rfl, _hcap, hmx, _hcg⟩ := hu.form (by omega)
  obtain ⟨g', cap', rfl, _hcap', hmx', _hcg'⟩ := hv.form (by omega)
  unfold maxLen at hmx hmx'
  obtain ⟨N, hN⟩ : ∃ N : Int, (Y.toNat : Int) = N := ⟨_, rfl⟩
  have _hN0 : 0 ≤ N := by omega
  have _hN1 : N < 18446744073709551616 := by have := Y.isLt; omega
  have HP : Hid (∀ w', IsV 64 w' (.slice (some ⟨g', 0, none⟩) 64 cap') Y → Calls Tryz.prog 41 #[.slice (some ⟨g', 0, none⟩) 64 cap'] w' fun e w'' => e = .returned (.int .u64 N) ∧ w'' = w') := by
    intro w' h
    rw [← hN]
    exact plainV 64 _ Y w' h (by omega)
  have HBIT : Hid (∀ w', IsV 64 w' (.slice (some ⟨g, 0, none⟩) 64 cap) X → IsV 64 w' (.slice (some ⟨g', 0, none⟩) 64 cap') Y → Calls Tryz.prog 67 #[.int .i64 13, .slice (some ⟨g, 0, none⟩) 64 cap, .slice (some ⟨g', 0, none⟩) 64 cap', .int .i64 (N % 64)] w' fun e w'' => ∃ v', e = .returned v' ∧ IsV 64 w'' v' (X <<< (Y.toNat % 64) ||| X >>> (64 - Y.toNat % 64)) ∧ Below w'.heap.size w' w'') := by
    intro w' h h'
    have := bitV_13 64 _ _ X Y (Y.toNat % 64) w' h h' (by omega) (by omega) (by omega)
    rw [Int.natCast_emod, hN] at this
    exact this
  clear _hcg _hcg' hN
  go_enter Tryz.func43, Tryz.ntmps43
  go_wp2_with fail
  refine (HP.out _ HV.out).mono ?_
  rintro e w1 ⟨rfl, rfl⟩
  go_wp2_with fail
  refine (HBIT.out _ HU.out HV.out).mono ?_
  rintro e w2 ⟨v2, rfl, hv2, b2⟩
  go_wp2_with fail
  refine (valueR 64 _ _ R _ hv2 (by omega) (by omega) (HR.out)).mono ?_
  rintro e w9 ⟨rfl, rfl⟩
  go_wp2
  go_ret2
  exact ⟨rfl, b2⟩
theorem reck64_14 (u v : Value) (X Y : BitVec 64) (w : World) (hu : IsV 64 w u X) (hv : IsV 64 w v Y) (R : Int) (HR : Hid ((recV 14 X Y).1 = R)) :
    Calls Tryz.prog 43 #[.int .i64 14, u, v] w fun e w' => e = .returned (.tuple #[.int .i64 R, .int .i64 0]) ∧ Below w.heap.size w w' := by
  have HU : Hid (IsV 64 w u X) := hu
  have HV : Hid (IsV 64 w v Y) := hv
  obtain ⟨g, cap, rfl, _hcap, hmx, _hcg⟩ := hu.form (by omega)
  obtain ⟨g', cap', rfl, _hcap', hmx', _hcg'⟩ := hv.form (by omega)
  unfold maxLen at hmx hmx'
  obtain ⟨N, hN⟩ : ∃ N : Int, (Y.toNat : Int) = N := ⟨_, rfl⟩
  have _hN0 : 0 ≤ N := by omega
  have _hN1 : N < 18446744073709551616 := by have := Y.isLt; omega
  have HP : Hid (∀ w', IsV 64 w' (.slice (some ⟨g', 0, none⟩) 64 cap') Y → Calls Tryz.prog 41 #[.slice (some ⟨g', 0, none⟩) 64 cap'] w' fun e w'' => e = .returned (.int .u64 N) ∧ w'' = w') := by
    intro w' h
    rw [← hN]
    exact plainV 64 _ Y w' h (by omega)
  have HBIT : Hid (∀ w', IsV 64 w' (.slice (some ⟨g, 0, none⟩) 64 cap) X → IsV 64 w' (.slice (some ⟨g', 0, none⟩) 64 cap') Y → Calls Tryz.prog 67 #[.int .i64 14, .slice (some ⟨g, 0, none⟩) 64 cap, .slice (some ⟨g', 0, none⟩) 64 cap', .int .i64 (N % 64)] w' fun e w'' => ∃ v', e = .returned v' ∧ IsV 64 w'' v' (X <<< (64 - Y.toNat % 64) ||| X >>> (Y.toNat % 64)) ∧ Below w'.heap.size w' w'') := by
    intro w' h h'
    have := bitV_14 64 _ _ X Y (Y.toNat % 64) w' h h' (by omega) (by omega) (by omega)
    rw [Int.natCast_emod, hN] at this
    exact this
  clear _hcg _hcg' hN
  go_enter Tryz.func43, Tryz.ntmps43
  go_wp2_with fail
  refine (HP.out _ HV.out).mono ?_
  rintro e w1 ⟨rfl, rfl⟩
  go_wp2_with fail
  refine (HBIT.out _ HU.out HV.out).mono ?_
  rintro e w2 ⟨v2, rfl, hv2, b2⟩
  go_wp2_with fail
  refine (valueR 64 _ _ R _ hv2 (by omega) (by omega) (HR.out)).mono ?_
  rintro e w9 ⟨rfl, rfl⟩
  go_wp2
  go_ret2
  exact ⟨rfl, b2⟩
end Go.Proofs.YtkceplamaocmmaaGreatDoor
