/-
  What the document's own NumTwo does.
-/
import Derived.Test.YtkceplamaocmmaaGreatDoorZReck
import Derived.Test.YtkceplamaocmmaaGreatDoorZND
set_option maxHeartbeats 4000000
set_option maxRecDepth 1000000
namespace Go.Proofs.YtkceplamaocmmaaGreatDoor
set_option linter.unusedVariables false
open Go.RowKit
theorem cmpU_0 (W : Nat) (X Y : BitVec W) : (if cmpB 0 (decide ((X.toNat : Int) < (Y.toNat : Int))) (decide ((Y.toNat : Int) < (X.toNat : Int))) then 1 else 0 : Int) = t2i (cmpV 0 X Y) := by
  have h : cmpB 0 (decide ((X.toNat : Int) < (Y.toNat : Int))) (decide ((Y.toNat : Int) < (X.toNat : Int))) = cmpV 0 X Y := by
    have e : X = Y ↔ X.toNat = Y.toNat := BitVec.toNat_inj.symm
    show (!decide _ && !decide _) = decide (X = Y)
    rw [← decide_not, ← decide_not, ← Bool.decide_and, decide_eq_decide, e]; omega
  rw [h]; rfl
theorem cmpU_1 (W : Nat) (X Y : BitVec W) : (if cmpB 1 (decide ((X.toNat : Int) < (Y.toNat : Int))) (decide ((Y.toNat : Int) < (X.toNat : Int))) then 1 else 0 : Int) = t2i (cmpV 1 X Y) := by
  have h : cmpB 1 (decide ((X.toNat : Int) < (Y.toNat : Int))) (decide ((Y.toNat : Int) < (X.toNat : Int))) = cmpV 1 X Y := by
    have e : X = Y ↔ X.toNat = Y.toNat := BitVec.toNat_inj.symm
    show (decide _ || decide _) = !decide (X = Y)
    rw [← Bool.decide_or, ← decide_not, decide_eq_decide, e]; omega
  rw [h]; rfl
theorem cmpU_3 (W : Nat) (X Y : BitVec W) : (if cmpB 3 (decide ((X.toNat : Int) < (Y.toNat : Int))) (decide ((Y.toNat : Int) < (X.toNat : Int))) then 1 else 0 : Int) = t2i (cmpV 3 X Y) := by
  have h : cmpB 3 (decide ((X.toNat : Int) < (Y.toNat : Int))) (decide ((Y.toNat : Int) < (X.toNat : Int))) = cmpV 3 X Y := by
    show decide _ = decide _
    rw [decide_eq_decide]; omega
  rw [h]; rfl
theorem cmpU_5 (W : Nat) (X Y : BitVec W) : (if cmpB 5 (decide ((X.toNat : Int) < (Y.toNat : Int))) (decide ((Y.toNat : Int) < (X.toNat : Int))) then 1 else 0 : Int) = t2i (cmpV 5 X Y) := by
  have h : cmpB 5 (decide ((X.toNat : Int) < (Y.toNat : Int))) (decide ((Y.toNat : Int) < (X.toNat : Int))) = cmpV 5 X Y := by
    show decide _ = decide _
    rw [decide_eq_decide]; omega
  rw [h]; rfl
theorem cmpU_7 (W : Nat) (X Y : BitVec W) : (if cmpB 7 (decide ((X.toNat : Int) < (Y.toNat : Int))) (decide ((Y.toNat : Int) < (X.toNat : Int))) then 1 else 0 : Int) = t2i (cmpV 7 X Y) := by
  have h : cmpB 7 (decide ((X.toNat : Int) < (Y.toNat : Int))) (decide ((Y.toNat : Int) < (X.toNat : Int))) = cmpV 7 X Y := by
    show (!decide _) = decide _
    rw [← decide_not, decide_eq_decide]; omega
  rw [h]; rfl
theorem cmpU_9 (W : Nat) (X Y : BitVec W) : (if cmpB 9 (decide ((X.toNat : Int) < (Y.toNat : Int))) (decide ((Y.toNat : Int) < (X.toNat : Int))) then 1 else 0 : Int) = t2i (cmpV 9 X Y) := by
  have h : cmpB 9 (decide ((X.toNat : Int) < (Y.toNat : Int))) (decide ((Y.toNat : Int) < (X.toNat : Int))) = cmpV 9 X Y := by
    show (!decide _) = decide _
    rw [← decide_not, decide_eq_decide]; omega
  rw [h]; rfl
theorem cmpU_2 (W : Nat) (X Y : BitVec W) : (if cmpB 2 (decide (X.toInt < Y.toInt)) (decide (Y.toInt < X.toInt)) then 1 else 0 : Int) = t2i (cmpV 2 X Y) := by
  have h : cmpB 2 (decide (X.toInt < Y.toInt)) (decide (Y.toInt < X.toInt)) = cmpV 2 X Y := by
    rfl
  rw [h]; rfl
theorem cmpU_4 (W : Nat) (X Y : BitVec W) : (if cmpB 4 (decide (X.toInt < Y.toInt)) (decide (Y.toInt < X.toInt)) then 1 else 0 : Int) = t2i (cmpV 4 X Y) := by
  have h : cmpB 4 (decide (X.toInt < Y.toInt)) (decide (Y.toInt < X.toInt)) = cmpV 4 X Y := by
    rfl
  rw [h]; rfl
theorem cmpU_6 (W : Nat) (X Y : BitVec W) : (if cmpB 6 (decide (X.toInt < Y.toInt)) (decide (Y.toInt < X.toInt)) then 1 else 0 : Int) = t2i (cmpV 6 X Y) := by
  have h : cmpB 6 (decide (X.toInt < Y.toInt)) (decide (Y.toInt < X.toInt)) = cmpV 6 X Y := by
    show (!decide _) = decide _
    rw [← decide_not, decide_eq_decide]; omega
  rw [h]; rfl
theorem cmpU_8 (W : Nat) (X Y : BitVec W) : (if cmpB 8 (decide (X.toInt < Y.toInt)) (decide (Y.toInt < X.toInt)) then 1 else 0 : Int) = t2i (cmpV 8 X Y) := by
  have h : cmpB 8 (decide (X.toInt < Y.toInt)) (decide (Y.toInt < X.toInt)) = cmpV 8 X Y := by
    show (!decide _) = decide _
    rw [← decide_not, decide_eq_decide]; omega
  rw [h]; rfl
theorem cmpR_0 (W : Nat) (u v : Value) (X Y : BitVec W) (w : World) (hu : IsV W w u X) (hv : IsV W w v Y) (h1 : 1 ≤ W) (h64 : W ≤ 64) :
    Calls Tryz.prog 42 #[.int .i64 0, u, v] w fun e w' => e = .returned (.int .i64 (t2i (cmpV 0 X Y))) ∧ Below w.heap.size w w' := by
  obtain ⟨bs, hb, hl, rfl⟩ := hu
  obtain ⟨cs, hc, hl', rfl⟩ := hv
  have h := cmp0_any u v bs cs w hb hc (by omega) (by omega) (by omega)
  rw [← bv_nat W bs hl, ← bv_nat W cs hl', cmpU_0] at h
  exact h
theorem cmpR_1 (W : Nat) (u v : Value) (X Y : BitVec W) (w : World) (hu : IsV W w u X) (hv : IsV W w v Y) (h1 : 1 ≤ W) (h64 : W ≤ 64) :
    Calls Tryz.prog 42 #[.int .i64 1, u, v] w fun e w' => e = .returned (.int .i64 (t2i (cmpV 1 X Y))) ∧ Below w.heap.size w w' := by
  obtain ⟨bs, hb, hl, rfl⟩ := hu
  obtain ⟨cs, hc, hl', rfl⟩ := hv
  have h := cmp1_any u v bs cs w hb hc (by omega) (by omega) (by omega)
  rw [← bv_nat W bs hl, ← bv_nat W cs hl', cmpU_1] at h
  exact h
theorem cmpR_2 (W : Nat) (u v : Value) (X Y : BitVec W) (w : World) (hu : IsV W w u X) (hv : IsV W w v Y) (h1 : 1 ≤ W) (h64 : W ≤ 64) :
    Calls Tryz.prog 42 #[.int .i64 2, u, v] w fun e w' => e = .returned (.int .i64 (t2i (cmpV 2 X Y))) ∧ Below w.heap.size w w' := by
  obtain ⟨bs, hb, hl, rfl⟩ := hu
  obtain ⟨cs, hc, hl', rfl⟩ := hv
  have h := cmp2_any u v bs cs w hb hc (by omega) (by omega) (by omega)
  rw [← bv_int W bs hl, ← bv_int W cs hl', cmpU_2] at h
  exact h
theorem cmpR_3 (W : Nat) (u v : Value) (X Y : BitVec W) (w : World) (hu : IsV W w u X) (hv : IsV W w v Y) (h1 : 1 ≤ W) (h64 : W ≤ 64) :
    Calls Tryz.prog 42 #[.int .i64 3, u, v] w fun e w' => e = .returned (.int .i64 (t2i (cmpV 3 X Y))) ∧ Below w.heap.size w w' := by
  obtain ⟨bs, hb, hl, rfl⟩ := hu
  obtain ⟨cs, hc, hl', rfl⟩ := hv
  have h := cmp3_any u v bs cs w hb hc (by omega) (by omega) (by omega)
  rw [← bv_nat W bs hl, ← bv_nat W cs hl', cmpU_3] at h
  exact h
theorem cmpR_4 (W : Nat) (u v : Value) (X Y : BitVec W) (w : World) (hu : IsV W w u X) (hv : IsV W w v Y) (h1 : 1 ≤ W) (h64 : W ≤ 64) :
    Calls Tryz.prog 42 #[.int .i64 4, u, v] w fun e w' => e = .returned (.int .i64 (t2i (cmpV 4 X Y))) ∧ Below w.heap.size w w' := by
  obtain ⟨bs, hb, hl, rfl⟩ := hu
  obtain ⟨cs, hc, hl', rfl⟩ := hv
  have h := cmp4_any u v bs cs w hb hc (by omega) (by omega) (by omega)
  rw [← bv_int W bs hl, ← bv_int W cs hl', cmpU_4] at h
  exact h
theorem cmpR_5 (W : Nat) (u v : Value) (X Y : BitVec W) (w : World) (hu : IsV W w u X) (hv : IsV W w v Y) (h1 : 1 ≤ W) (h64 : W ≤ 64) :
    Calls Tryz.prog 42 #[.int .i64 5, u, v] w fun e w' => e = .returned (.int .i64 (t2i (cmpV 5 X Y))) ∧ Below w.heap.size w w' := by
  obtain ⟨bs, hb, hl, rfl⟩ := hu
  obtain ⟨cs, hc, hl', rfl⟩ := hv
  have h := cmp5_any u v bs cs w hb hc (by omega) (by omega) (by omega)
  rw [← bv_nat W bs hl, ← bv_nat W cs hl', cmpU_5] at h
  exact h
theorem cmpR_6 (W : Nat) (u v : Value) (X Y : BitVec W) (w : World) (hu : IsV W w u X) (hv : IsV W w v Y) (h1 : 1 ≤ W) (h64 : W ≤ 64) :
    Calls Tryz.prog 42 #[.int .i64 6, u, v] w fun e w' => e = .returned (.int .i64 (t2i (cmpV 6 X Y))) ∧ Below w.heap.size w w' := by
  obtain ⟨bs, hb, hl, rfl⟩ := hu
  obtain ⟨cs, hc, hl', rfl⟩ := hv
  have h := cmp6_any u v bs cs w hb hc (by omega) (by omega) (by omega)
  rw [← bv_int W bs hl, ← bv_int W cs hl', cmpU_6] at h
  exact h
theorem cmpR_7 (W : Nat) (u v : Value) (X Y : BitVec W) (w : World) (hu : IsV W w u X) (hv : IsV W w v Y) (h1 : 1 ≤ W) (h64 : W ≤ 64) :
    Calls Tryz.prog 42 #[.int .i64 7, u, v] w fun e w' => e = .returned (.int .i64 (t2i (cmpV 7 X Y))) ∧ Below w.heap.size w w' := by
  obtain ⟨bs, hb, hl, rfl⟩ := hu
  obtain ⟨cs, hc, hl', rfl⟩ := hv
  have h := cmp7_any u v bs cs w hb hc (by omega) (by omega) (by omega)
  rw [← bv_nat W bs hl, ← bv_nat W cs hl', cmpU_7] at h
  exact h
theorem cmpR_8 (W : Nat) (u v : Value) (X Y : BitVec W) (w : World) (hu : IsV W w u X) (hv : IsV W w v Y) (h1 : 1 ≤ W) (h64 : W ≤ 64) :
    Calls Tryz.prog 42 #[.int .i64 8, u, v] w fun e w' => e = .returned (.int .i64 (t2i (cmpV 8 X Y))) ∧ Below w.heap.size w w' := by
  obtain ⟨bs, hb, hl, rfl⟩ := hu
  obtain ⟨cs, hc, hl', rfl⟩ := hv
  have h := cmp8_any u v bs cs w hb hc (by omega) (by omega) (by omega)
  rw [← bv_int W bs hl, ← bv_int W cs hl', cmpU_8] at h
  exact h
theorem cmpR_9 (W : Nat) (u v : Value) (X Y : BitVec W) (w : World) (hu : IsV W w u X) (hv : IsV W w v Y) (h1 : 1 ≤ W) (h64 : W ≤ 64) :
    Calls Tryz.prog 42 #[.int .i64 9, u, v] w fun e w' => e = .returned (.int .i64 (t2i (cmpV 9 X Y))) ∧ Below w.heap.size w w' := by
  obtain ⟨bs, hb, hl, rfl⟩ := hu
  obtain ⟨cs, hc, hl', rfl⟩ := hv
  have h := cmp9_any u v bs cs w hb hc (by omega) (by omega) (by omega)
  rw [← bv_nat W bs hl, ← bv_nat W cs hl', cmpU_9] at h
  exact h
theorem over32 (X Y : BitVec 32) (h0 : ¬ Y.toInt = 0) (u v : Value) (w : World) (hu : IsV 32 w u X) (hv : IsV 32 w v Y) :
    Calls Tryz.prog 43 #[.int .i64 3, u, v] w fun e w' => e = .returned (.tuple #[.int .i64 (recV 3 X Y).1, .int .i64 (recV 3 X Y).2]) ∧ Below w.heap.size w w' := by
  have hX := toInt_lt32 X
  have hY := toInt_lt32 Y
  by_cases h1 : X.toInt = -2 ^ (32 - 1) ∧ Y.toInt = -1
  · have e : recV 3 X Y = (0, 22) := (if_neg h0).trans (if_pos h1)
    rw [e]
    obtain rfl : X = BitVec.intMin 32 := BitVec.eq_of_toInt_eq (by rw [h1.1]; decide)
    obtain rfl : Y = -1#32 := BitVec.eq_of_toInt_eq (by rw [h1.2]; decide)
    exact reck32_3 u v _ _ w hu hv h0 0 22 (fun h => absurd (by decide) h) (fun _ h => absurd h (by decide)) (fun _ _ => ⟨rfl, rfl⟩)
  · have e : recV 3 X Y = (X.toInt.tdiv Y.toInt, 0) := (if_neg h0).trans (if_neg h1)
    rw [e]
    have hne : X ≠ BitVec.intMin 32 ∨ Y ≠ -1#32 := by
      by_cases hx : X = BitVec.intMin 32
      · refine Or.inr fun hy => h1 ⟨?_, ?_⟩
        · rw [hx]; decide
        · rw [hy]; decide
      · exact Or.inl hx
    have key := sdiv_case 32 X Y hne
    refine reck32_3 u v _ _ w hu hv h0 (X.toInt.tdiv Y.toInt) 0 (fun h => ?_) (fun h _ => ?_) (fun h hq => ?_)
    · rw [if_neg h] at key; exact ⟨key, rfl⟩
    · rw [if_pos h] at key; exact ⟨key, rfl⟩
    · exfalso
      rw [if_pos h] at key
      obtain ⟨_, _, b2⟩ := tdiv_range 2147483648 X.toInt Y.toInt (by omega) (by omega) (by omega) h0 h1
      rw [BitVec.msb_eq_toInt, decide_eq_true_iff, key] at hq
      rw [BitVec.msb_eq_toInt, BitVec.msb_eq_toInt, decide_eq_decide] at h
      rcases Int.lt_or_le X.toInt 0 with hx | hx
      · have := b2 hx (h.1 hx)
        omega
      · have := Int.tdiv_nonneg hx (show 0 ≤ Y.toInt by omega)
        omega
theorem recR32_0 (u v : Value) (X Y : BitVec 32) (w : World) (hu : IsV 32 w u X) (hv : IsV 32 w v Y) :
    Calls Tryz.prog 43 #[.int .i64 0, u, v] w fun e w' => e = .returned (.tuple #[.int .i64 (recV 0 X Y).1, .int .i64 (recV 0 X Y).2]) ∧ Below w.heap.size w w' := by
  exact reck32_0 u v X Y w hu hv _ rfl
theorem recR32_1 (u v : Value) (X Y : BitVec 32) (w : World) (hu : IsV 32 w u X) (hv : IsV 32 w v Y) :
    Calls Tryz.prog 43 #[.int .i64 1, u, v] w fun e w' => e = .returned (.tuple #[.int .i64 (recV 1 X Y).1, .int .i64 (recV 1 X Y).2]) ∧ Below w.heap.size w w' := by
  exact reck32_1 u v X Y w hu hv _ rfl
theorem recR32_2 (u v : Value) (X Y : BitVec 32) (w : World) (hu : IsV 32 w u X) (hv : IsV 32 w v Y) :
    Calls Tryz.prog 43 #[.int .i64 2, u, v] w fun e w' => e = .returned (.tuple #[.int .i64 (recV 2 X Y).1, .int .i64 (recV 2 X Y).2]) ∧ Below w.heap.size w w' := by
  exact reck32_2 u v X Y w hu hv _ rfl
theorem recR32_3 (u v : Value) (X Y : BitVec 32) (w : World) (hu : IsV 32 w u X) (hv : IsV 32 w v Y) :
    Calls Tryz.prog 43 #[.int .i64 3, u, v] w fun e w' => e = .returned (.tuple #[.int .i64 (recV 3 X Y).1, .int .i64 (recV 3 X Y).2]) ∧ Below w.heap.size w w' := by
  by_cases h0 : Y.toInt = 0
  · rw [show recV 3 X Y = (0, 21) from if_pos h0]
    exact reck32_3_zero u v X Y w hu hv h0
  · exact over32 X Y h0 u v w hu hv
theorem recR32_4 (u v : Value) (X Y : BitVec 32) (w : World) (hu : IsV 32 w u X) (hv : IsV 32 w v Y) :
    Calls Tryz.prog 43 #[.int .i64 4, u, v] w fun e w' => e = .returned (.tuple #[.int .i64 (recV 4 X Y).1, .int .i64 (recV 4 X Y).2]) ∧ Below w.heap.size w w' := by
  by_cases h0 : Y.toInt = 0
  · rw [show recV 4 X Y = (0, 21) from if_pos h0]
    exact reck32_4_zero u v X Y w hu hv h0
  · rw [show recV 4 X Y = ((X / Y).toInt, 0) from if_neg h0]
    exact reck32_4 u v X Y w hu hv h0 _ rfl
theorem recR32_5 (u v : Value) (X Y : BitVec 32) (w : World) (hu : IsV 32 w u X) (hv : IsV 32 w v Y) :
    Calls Tryz.prog 43 #[.int .i64 5, u, v] w fun e w' => e = .returned (.tuple #[.int .i64 (recV 5 X Y).1, .int .i64 (recV 5 X Y).2]) ∧ Below w.heap.size w w' := by
  by_cases h0 : Y.toInt = 0
  · rw [show recV 5 X Y = (0, 21) from if_pos h0]
    exact reck32_5_zero u v X Y w hu hv h0
  · rw [show recV 5 X Y = (X.toInt.tmod Y.toInt, 0) from if_neg h0]
    exact reck32_5 u v X Y w hu hv h0 _ rfl
theorem recR32_6 (u v : Value) (X Y : BitVec 32) (w : World) (hu : IsV 32 w u X) (hv : IsV 32 w v Y) :
    Calls Tryz.prog 43 #[.int .i64 6, u, v] w fun e w' => e = .returned (.tuple #[.int .i64 (recV 6 X Y).1, .int .i64 (recV 6 X Y).2]) ∧ Below w.heap.size w w' := by
  by_cases h0 : Y.toInt = 0
  · rw [show recV 6 X Y = (0, 21) from if_pos h0]
    exact reck32_6_zero u v X Y w hu hv h0
  · rw [show recV 6 X Y = ((X % Y).toInt, 0) from if_neg h0]
    exact reck32_6 u v X Y w hu hv h0 _ rfl
theorem recR32_7 (u v : Value) (X Y : BitVec 32) (w : World) (hu : IsV 32 w u X) (hv : IsV 32 w v Y) :
    Calls Tryz.prog 43 #[.int .i64 7, u, v] w fun e w' => e = .returned (.tuple #[.int .i64 (recV 7 X Y).1, .int .i64 (recV 7 X Y).2]) ∧ Below w.heap.size w w' := by
  exact reck32_7 u v X Y w hu hv _ rfl
theorem recR32_8 (u v : Value) (X Y : BitVec 32) (w : World) (hu : IsV 32 w u X) (hv : IsV 32 w v Y) :
    Calls Tryz.prog 43 #[.int .i64 8, u, v] w fun e w' => e = .returned (.tuple #[.int .i64 (recV 8 X Y).1, .int .i64 (recV 8 X Y).2]) ∧ Below w.heap.size w w' := by
  exact reck32_8 u v X Y w hu hv _ rfl
theorem recR32_9 (u v : Value) (X Y : BitVec 32) (w : World) (hu : IsV 32 w u X) (hv : IsV 32 w v Y) :
    Calls Tryz.prog 43 #[.int .i64 9, u, v] w fun e w' => e = .returned (.tuple #[.int .i64 (recV 9 X Y).1, .int .i64 (recV 9 X Y).2]) ∧ Below w.heap.size w w' := by
  exact reck32_9 u v X Y w hu hv _ rfl
theorem recR32_10 (u v : Value) (X Y : BitVec 32) (w : World) (hu : IsV 32 w u X) (hv : IsV 32 w v Y) :
    Calls Tryz.prog 43 #[.int .i64 10, u, v] w fun e w' => e = .returned (.tuple #[.int .i64 (recV 10 X Y).1, .int .i64 (recV 10 X Y).2]) ∧ Below w.heap.size w w' := by
  exact reck32_10 u v X Y w hu hv _ rfl
theorem recR32_11 (u v : Value) (X Y : BitVec 32) (w : World) (hu : IsV 32 w u X) (hv : IsV 32 w v Y) :
    Calls Tryz.prog 43 #[.int .i64 11, u, v] w fun e w' => e = .returned (.tuple #[.int .i64 (recV 11 X Y).1, .int .i64 (recV 11 X Y).2]) ∧ Below w.heap.size w w' := by
  exact reck32_11 u v X Y w hu hv _ rfl
theorem recR32_12 (u v : Value) (X Y : BitVec 32) (w : World) (hu : IsV 32 w u X) (hv : IsV 32 w v Y) :
    Calls Tryz.prog 43 #[.int .i64 12, u, v] w fun e w' => e = .returned (.tuple #[.int .i64 (recV 12 X Y).1, .int .i64 (recV 12 X Y).2]) ∧ Below w.heap.size w w' := by
  exact reck32_12 u v X Y w hu hv _ rfl
theorem recR32_13 (u v : Value) (X Y : BitVec 32) (w : World) (hu : IsV 32 w u X) (hv : IsV 32 w v Y) :
    Calls Tryz.prog 43 #[.int .i64 13, u, v] w fun e w' => e = .returned (.tuple #[.int .i64 (recV 13 X Y).1, .int .i64 (recV 13 X Y).2]) ∧ Below w.heap.size w w' := by
  exact reck32_13 u v X Y w hu hv _ rfl
theorem recR32_14 (u v : Value) (X Y : BitVec 32) (w : World) (hu : IsV 32 w u X) (hv : IsV 32 w v Y) :
    Calls Tryz.prog 43 #[.int .i64 14, u, v] w fun e w' => e = .returned (.tuple #[.int .i64 (recV 14 X Y).1, .int .i64 (recV 14 X Y).2]) ∧ Below w.heap.size w w' := by
  exact reck32_14 u v X Y w hu hv _ rfl
theorem over64 (X Y : BitVec 64) (h0 : ¬ Y.toInt = 0) (u v : Value) (w : World) (hu : IsV 64 w u X) (hv : IsV 64 w v Y) :
    Calls Tryz.prog 43 #[.int .i64 3, u, v] w fun e w' => e = .returned (.tuple #[.int .i64 (recV 3 X Y).1, .int .i64 (recV 3 X Y).2]) ∧ Below w.heap.size w w' := by
  have hX := toInt_lt64 X
  have hY := toInt_lt64 Y
  by_cases h1 : X.toInt = -2 ^ (64 - 1) ∧ Y.toInt = -1
  · have e : recV 3 X Y = (0, 22) := (if_neg h0).trans (if_pos h1)
    rw [e]
    obtain rfl : X = BitVec.intMin 64 := BitVec.eq_of_toInt_eq (by rw [h1.1]; decide)
    obtain rfl : Y = -1#64 := BitVec.eq_of_toInt_eq (by rw [h1.2]; decide)
    exact reck64_3 u v _ _ w hu hv h0 0 22 (fun h => absurd (by decide) h) (fun _ h => absurd h (by decide)) (fun _ _ => ⟨rfl, rfl⟩)
  · have e : recV 3 X Y = (X.toInt.tdiv Y.toInt, 0) := (if_neg h0).trans (if_neg h1)
    rw [e]
    have hne : X ≠ BitVec.intMin 64 ∨ Y ≠ -1#64 := by
      by_cases hx : X = BitVec.intMin 64
      · refine Or.inr fun hy => h1 ⟨?_, ?_⟩
        · rw [hx]; decide
        · rw [hy]; decide
      · exact Or.inl hx
    have key := sdiv_case 64 X Y hne
    refine reck64_3 u v _ _ w hu hv h0 (X.toInt.tdiv Y.toInt) 0 (fun h => ?_) (fun h _ => ?_) (fun h hq => ?_)
    · rw [if_neg h] at key; exact ⟨key, rfl⟩
    · rw [if_pos h] at key; exact ⟨key, rfl⟩
    · exfalso
      rw [if_pos h] at key
      obtain ⟨_, _, b2⟩ := tdiv_range 9223372036854775808 X.toInt Y.toInt (by omega) (by omega) (by omega) h0 h1
      rw [BitVec.msb_eq_toInt, decide_eq_true_iff, key] at hq
      rw [BitVec.msb_eq_toInt, BitVec.msb_eq_toInt, decide_eq_decide] at h
      rcases Int.lt_or_le X.toInt 0 with hx | hx
      · have := b2 hx (h.1 hx)
        omega
      · have := Int.tdiv_nonneg hx (show 0 ≤ Y.toInt by omega)
        omega
theorem recR64_0 (u v : Value) (X Y : BitVec 64) (w : World) (hu : IsV 64 w u X) (hv : IsV 64 w v Y) :
    Calls Tryz.prog 43 #[.int .i64 0, u, v] w fun e w' => e = .returned (.tuple #[.int .i64 (recV 0 X Y).1, .int .i64 (recV 0 X Y).2]) ∧ Below w.heap.size w w' := by
  exact reck64_0 u v X Y w hu hv _ rfl
theorem recR64_1 (u v : Value) (X Y : BitVec 64) (w : World) (hu : IsV 64 w u X) (hv : IsV 64 w v Y) :
    Calls Tryz.prog 43 #[.int .i64 1, u, v] w fun e w' => e = .returned (.tuple #[.int .i64 (recV 1 X Y).1, .int .i64 (recV 1 X Y).2]) ∧ Below w.heap.size w w' := by
  exact reck64_1 u v X Y w hu hv _ rfl
theorem recR64_2 (u v : Value) (X Y : BitVec 64) (w : World) (hu : IsV 64 w u X) (hv : IsV 64 w v Y) :
    Calls Tryz.prog 43 #[.int .i64 2, u, v] w fun e w' => e = .returned (.tuple #[.int .i64 (recV 2 X Y).1, .int .i64 (recV 2 X Y).2]) ∧ Below w.heap.size w w' := by
  exact reck64_2 u v X Y w hu hv _ rfl
theorem recR64_3 (u v : Value) (X Y : BitVec 64) (w : World) (hu : IsV 64 w u X) (hv : IsV 64 w v Y) :
    Calls Tryz.prog 43 #[.int .i64 3, u, v] w fun e w' => e = .returned (.tuple #[.int .i64 (recV 3 X Y).1, .int .i64 (recV 3 X Y).2]) ∧ Below w.heap.size w w' := by
  by_cases h0 : Y.toInt = 0
  · rw [show recV 3 X Y = (0, 21) from if_pos h0]
    exact reck64_3_zero u v X Y w hu hv h0
  · exact over64 X Y h0 u v w hu hv
theorem recR64_4 (u v : Value) (X Y : BitVec 64) (w : World) (hu : IsV 64 w u X) (hv : IsV 64 w v Y) :
    Calls Tryz.prog 43 #[.int .i64 4, u, v] w fun e w' => e = .returned (.tuple #[.int .i64 (recV 4 X Y).1, .int .i64 (recV 4 X Y).2]) ∧ Below w.heap.size w w' := by
  by_cases h0 : Y.toInt = 0
  · rw [show recV 4 X Y = (0, 21) from if_pos h0]
    exact reck64_4_zero u v X Y w hu hv h0
  · rw [show recV 4 X Y = ((X / Y).toInt, 0) from if_neg h0]
    exact reck64_4 u v X Y w hu hv h0 _ rfl
theorem recR64_5 (u v : Value) (X Y : BitVec 64) (w : World) (hu : IsV 64 w u X) (hv : IsV 64 w v Y) :
    Calls Tryz.prog 43 #[.int .i64 5, u, v] w fun e w' => e = .returned (.tuple #[.int .i64 (recV 5 X Y).1, .int .i64 (recV 5 X Y).2]) ∧ Below w.heap.size w w' := by
  by_cases h0 : Y.toInt = 0
  · rw [show recV 5 X Y = (0, 21) from if_pos h0]
    exact reck64_5_zero u v X Y w hu hv h0
  · rw [show recV 5 X Y = (X.toInt.tmod Y.toInt, 0) from if_neg h0]
    exact reck64_5 u v X Y w hu hv h0 _ rfl
theorem recR64_6 (u v : Value) (X Y : BitVec 64) (w : World) (hu : IsV 64 w u X) (hv : IsV 64 w v Y) :
    Calls Tryz.prog 43 #[.int .i64 6, u, v] w fun e w' => e = .returned (.tuple #[.int .i64 (recV 6 X Y).1, .int .i64 (recV 6 X Y).2]) ∧ Below w.heap.size w w' := by
  by_cases h0 : Y.toInt = 0
  · rw [show recV 6 X Y = (0, 21) from if_pos h0]
    exact reck64_6_zero u v X Y w hu hv h0
  · rw [show recV 6 X Y = ((X % Y).toInt, 0) from if_neg h0]
    exact reck64_6 u v X Y w hu hv h0 _ rfl
theorem recR64_7 (u v : Value) (X Y : BitVec 64) (w : World) (hu : IsV 64 w u X) (hv : IsV 64 w v Y) :
    Calls Tryz.prog 43 #[.int .i64 7, u, v] w fun e w' => e = .returned (.tuple #[.int .i64 (recV 7 X Y).1, .int .i64 (recV 7 X Y).2]) ∧ Below w.heap.size w w' := by
  exact reck64_7 u v X Y w hu hv _ rfl
theorem recR64_8 (u v : Value) (X Y : BitVec 64) (w : World) (hu : IsV 64 w u X) (hv : IsV 64 w v Y) :
    Calls Tryz.prog 43 #[.int .i64 8, u, v] w fun e w' => e = .returned (.tuple #[.int .i64 (recV 8 X Y).1, .int .i64 (recV 8 X Y).2]) ∧ Below w.heap.size w w' := by
  exact reck64_8 u v X Y w hu hv _ rfl
theorem recR64_9 (u v : Value) (X Y : BitVec 64) (w : World) (hu : IsV 64 w u X) (hv : IsV 64 w v Y) :
    Calls Tryz.prog 43 #[.int .i64 9, u, v] w fun e w' => e = .returned (.tuple #[.int .i64 (recV 9 X Y).1, .int .i64 (recV 9 X Y).2]) ∧ Below w.heap.size w w' := by
  exact reck64_9 u v X Y w hu hv _ rfl
theorem recR64_10 (u v : Value) (X Y : BitVec 64) (w : World) (hu : IsV 64 w u X) (hv : IsV 64 w v Y) :
    Calls Tryz.prog 43 #[.int .i64 10, u, v] w fun e w' => e = .returned (.tuple #[.int .i64 (recV 10 X Y).1, .int .i64 (recV 10 X Y).2]) ∧ Below w.heap.size w w' := by
  exact reck64_10 u v X Y w hu hv _ rfl
theorem recR64_11 (u v : Value) (X Y : BitVec 64) (w : World) (hu : IsV 64 w u X) (hv : IsV 64 w v Y) :
    Calls Tryz.prog 43 #[.int .i64 11, u, v] w fun e w' => e = .returned (.tuple #[.int .i64 (recV 11 X Y).1, .int .i64 (recV 11 X Y).2]) ∧ Below w.heap.size w w' := by
  exact reck64_11 u v X Y w hu hv _ rfl
theorem recR64_12 (u v : Value) (X Y : BitVec 64) (w : World) (hu : IsV 64 w u X) (hv : IsV 64 w v Y) :
    Calls Tryz.prog 43 #[.int .i64 12, u, v] w fun e w' => e = .returned (.tuple #[.int .i64 (recV 12 X Y).1, .int .i64 (recV 12 X Y).2]) ∧ Below w.heap.size w w' := by
  exact reck64_12 u v X Y w hu hv _ rfl
theorem recR64_13 (u v : Value) (X Y : BitVec 64) (w : World) (hu : IsV 64 w u X) (hv : IsV 64 w v Y) :
    Calls Tryz.prog 43 #[.int .i64 13, u, v] w fun e w' => e = .returned (.tuple #[.int .i64 (recV 13 X Y).1, .int .i64 (recV 13 X Y).2]) ∧ Below w.heap.size w w' := by
  exact reck64_13 u v X Y w hu hv _ rfl
theorem recR64_14 (u v : Value) (X Y : BitVec 64) (w : World) (hu : IsV 64 w u X) (hv : IsV 64 w v Y) :
    Calls Tryz.prog 43 #[.int .i64 14, u, v] w fun e w' => e = .returned (.tuple #[.int .i64 (recV 14 X Y).1, .int .i64 (recV 14 X Y).2]) ∧ Below w.heap.size w w' := by
  exact reck64_14 u v X Y w hu hv _ rfl
theorem refTwo_c32 (op a b R : Int) (_h0 : 70 ≤ op) (_h1 : op ≤ 79) (HC : Hid (∀ u v w, IsV 32 w u (BitVec.ofInt 32 a) → IsV 32 w v (BitVec.ofInt 32 b) → Calls Tryz.prog 42 #[.int .i64 (op - 70), u, v] w fun e w' => e = .returned (.int .i64 R) ∧ Below w.heap.size w w')) (w : World) :
    Calls Tryz.prog 24 #[.int .u8 op, .int .i64 a, .int .i64 b] w fun e w' => e = .returned (.tuple #[.int .i64 R, .int .i64 0]) ∧ Below w.heap.size w w' := by
  have HWO : Hid (∀ x w, Calls Tryz.prog 36 #[.int .i64 x, .int .i64 32] w fun e w' => ∃ v, e = .returned v ∧ IsV 32 w' v (BitVec.ofInt 32 x) ∧ Below w.heap.size w w') := fun x w => wordV 32 x (by omega) (by omega) w
  go_enter Tryz.func24, Tryz.ntmps24
  go_wp2_with fail
  refine (HWO.out a _).mono ?_
  rintro e w1 ⟨v1, rfl, hv1, b1⟩
  have HV1 : Hid _ := hv1
  clear hv1
  go_wp2_with fail
  refine (HWO.out b _).mono ?_
  rintro e w2 ⟨v2, rfl, hv2, b2⟩
  have HV2 : Hid _ := hv2
  clear hv2
  go_wp2_with fail
  refine (HC.out v1 v2 _ (IsV.below HV1.out b2) HV2.out).mono ?_
  rintro e w3 ⟨rfl, b3⟩
  go_wp2
  go_ret2
  exact ⟨rfl, below_then (below_then b1 b2) b3⟩
theorem refTwo_c64 (op a b R : Int) (_h0 : 81 ≤ op) (_h1 : op ≤ 90) (HC : Hid (∀ u v w, IsV 64 w u (BitVec.ofInt 64 a) → IsV 64 w v (BitVec.ofInt 64 b) → Calls Tryz.prog 42 #[.int .i64 (op - 81), u, v] w fun e w' => e = .returned (.int .i64 R) ∧ Below w.heap.size w w')) (w : World) :
    Calls Tryz.prog 24 #[.int .u8 op, .int .i64 a, .int .i64 b] w fun e w' => e = .returned (.tuple #[.int .i64 R, .int .i64 0]) ∧ Below w.heap.size w w' := by
  have HWO : Hid (∀ x w, Calls Tryz.prog 36 #[.int .i64 x, .int .i64 64] w fun e w' => ∃ v, e = .returned v ∧ IsV 64 w' v (BitVec.ofInt 64 x) ∧ Below w.heap.size w w') := fun x w => wordV 64 x (by omega) (by omega) w
  go_enter Tryz.func24, Tryz.ntmps24
  go_wp2_with fail
  refine (HWO.out a _).mono ?_
  rintro e w1 ⟨v1, rfl, hv1, b1⟩
  have HV1 : Hid _ := hv1
  clear hv1
  go_wp2_with fail
  refine (HWO.out b _).mono ?_
  rintro e w2 ⟨v2, rfl, hv2, b2⟩
  have HV2 : Hid _ := hv2
  clear hv2
  go_wp2_with fail
  refine (HC.out v1 v2 _ (IsV.below HV1.out b2) HV2.out).mono ?_
  rintro e w3 ⟨rfl, b3⟩
  go_wp2
  go_ret2
  exact ⟨rfl, below_then (below_then b1 b2) b3⟩
theorem refTwo_r32 (op a b R E : Int) (_h0 : 106 ≤ op) (_h1 : op ≤ 120) (HC : Hid (∀ u v w, IsV 32 w u (BitVec.ofInt 32 a) → IsV 32 w v (BitVec.ofInt 32 b) → Calls Tryz.prog 43 #[.int .i64 (op - 106), u, v] w fun e w' => e = .returned (.tuple #[.int .i64 R, .int .i64 E]) ∧ Below w.heap.size w w')) (w : World) :
    Calls Tryz.prog 24 #[.int .u8 op, .int .i64 a, .int .i64 b] w fun e w' => e = .returned (.tuple #[.int .i64 R, .int .i64 E]) ∧ Below w.heap.size w w' := by
  have HWO : Hid (∀ x w, Calls Tryz.prog 36 #[.int .i64 x, .int .i64 32] w fun e w' => ∃ v, e = .returned v ∧ IsV 32 w' v (BitVec.ofInt 32 x) ∧ Below w.heap.size w w') := fun x w => wordV 32 x (by omega) (by omega) w
  go_enter Tryz.func24, Tryz.ntmps24
  go_wp2_with fail
  refine (HWO.out a _).mono ?_
  rintro e w1 ⟨v1, rfl, hv1, b1⟩
  have HV1 : Hid _ := hv1
  clear hv1
  go_wp2_with fail
  refine (HWO.out b _).mono ?_
  rintro e w2 ⟨v2, rfl, hv2, b2⟩
  have HV2 : Hid _ := hv2
  clear hv2
  go_wp2_with fail
  refine (HC.out v1 v2 _ (IsV.below HV1.out b2) HV2.out).mono ?_
  rintro e w3 ⟨rfl, b3⟩
  go_wp2
  go_ret2
  exact ⟨rfl, below_then (below_then b1 b2) b3⟩
theorem refTwo_r64 (op a b R E : Int) (_h0 : 124 ≤ op) (_h1 : op ≤ 138) (HC : Hid (∀ u v w, IsV 64 w u (BitVec.ofInt 64 a) → IsV 64 w v (BitVec.ofInt 64 b) → Calls Tryz.prog 43 #[.int .i64 (op - 124), u, v] w fun e w' => e = .returned (.tuple #[.int .i64 R, .int .i64 E]) ∧ Below w.heap.size w w')) (w : World) :
    Calls Tryz.prog 24 #[.int .u8 op, .int .i64 a, .int .i64 b] w fun e w' => e = .returned (.tuple #[.int .i64 R, .int .i64 E]) ∧ Below w.heap.size w w' := by
  have HWO : Hid (∀ x w, Calls Tryz.prog 36 #[.int .i64 x, .int .i64 64] w fun e w' => ∃ v, e = .returned v ∧ IsV 64 w' v (BitVec.ofInt 64 x) ∧ Below w.heap.size w w') := fun x w => wordV 64 x (by omega) (by omega) w
  go_enter Tryz.func24, Tryz.ntmps24
  go_wp2_with fail
  refine (HWO.out a _).mono ?_
  rintro e w1 ⟨v1, rfl, hv1, b1⟩
  have HV1 : Hid _ := hv1
  clear hv1
  go_wp2_with fail
  refine (HWO.out b _).mono ?_
  rintro e w2 ⟨v2, rfl, hv2, b2⟩
  have HV2 : Hid _ := hv2
  clear hv2
  go_wp2_with fail
  refine (HC.out v1 v2 _ (IsV.below HV1.out b2) HV2.out).mono ?_
  rintro e w3 ⟨rfl, b3⟩
  go_wp2
  go_ret2
  exact ⟨rfl, below_then (below_then b1 b2) b3⟩
theorem refTwo_n0 (op a b : Int) (_h0 : 0 ≤ op) (_h1 : op < 70) (w : World) :
    Calls Tryz.prog 24 #[.int .u8 op, .int .i64 a, .int .i64 b] w fun e w' => e = .returned (.tuple #[.int .i64 0, .int .i64 6]) ∧ Below w.heap.size w w' := by
  go_enter Tryz.func24, Tryz.ntmps24
  go_wp2
  go_ret2
  exact ⟨rfl, Below.refl _ _⟩
theorem refTwo_n1 (op a b : Int) (_h0 : 79 < op) (_h1 : op < 81) (w : World) :
    Calls Tryz.prog 24 #[.int .u8 op, .int .i64 a, .int .i64 b] w fun e w' => e = .returned (.tuple #[.int .i64 0, .int .i64 6]) ∧ Below w.heap.size w w' := by
  go_enter Tryz.func24, Tryz.ntmps24
  go_wp2
  go_ret2
  exact ⟨rfl, Below.refl _ _⟩
theorem refTwo_n2 (op a b : Int) (_h0 : 90 < op) (_h1 : op < 106) (w : World) :
    Calls Tryz.prog 24 #[.int .u8 op, .int .i64 a, .int .i64 b] w fun e w' => e = .returned (.tuple #[.int .i64 0, .int .i64 6]) ∧ Below w.heap.size w w' := by
  go_enter Tryz.func24, Tryz.ntmps24
  go_wp2
  go_ret2
  exact ⟨rfl, Below.refl _ _⟩
theorem refTwo_n3 (op a b : Int) (_h0 : 120 < op) (_h1 : op < 124) (w : World) :
    Calls Tryz.prog 24 #[.int .u8 op, .int .i64 a, .int .i64 b] w fun e w' => e = .returned (.tuple #[.int .i64 0, .int .i64 6]) ∧ Below w.heap.size w w' := by
  go_enter Tryz.func24, Tryz.ntmps24
  go_wp2
  go_ret2
  exact ⟨rfl, Below.refl _ _⟩
theorem refTwo_n4 (op a b : Int) (_h0 : 138 < op) (_h1 : op ≤ 255) (w : World) :
    Calls Tryz.prog 24 #[.int .u8 op, .int .i64 a, .int .i64 b] w fun e w' => e = .returned (.tuple #[.int .i64 0, .int .i64 6]) ∧ Below w.heap.size w w' := by
  go_enter Tryz.func24, Tryz.ntmps24
  go_wp2
  go_ret2
  exact ⟨rfl, Below.refl _ _⟩
end Go.Proofs.YtkceplamaocmmaaGreatDoor
