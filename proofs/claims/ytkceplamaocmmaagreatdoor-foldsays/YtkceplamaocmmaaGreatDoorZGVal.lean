/-
 What the program's own fits and Check answer, for whatever instruction. What the program's own Check and Write answer, for whatever instruction. What is written is read back: the program's own Write, the laws' own SameIns, and the mathematics.
-/
import Derived.Test.YtkceplamaocmmaaGreatDoorZPQ
import Derived.Test.YtkceplamaocmmaaGreatDoorZPB
set_option maxHeartbeats 4000000
set_option maxRecDepth 1000000
namespace Go.Proofs.YtkceplamaocmmaaGreatDoor
set_option linter.unusedVariables false
open Go.RowKit
def LJ (w : World) (o : Option Addr) (n : Nat) (xs : List Int) : Prop := xs.length = n ∧ (n = 0 ∨ ∃ a : Addr, o = some a ∧ a.block < w.heap.size ∧ ∀ i, i < n → w.cell? (a.add i) = some (.int .i64 (xs.getD i 0)))
theorem add_block (a : Addr) (i : Nat) : (a.add i).block = a.block := by unfold Addr.add; split <;> rfl
theorem LJ.below {w w' : World} {o : Option Addr} {n : Nat} {xs : List Int} (h : LJ w o n xs) (hb : Below w.heap.size w w') : LJ w' o n xs := by
 obtain ⟨hl, h⟩ := h
 refine ⟨hl, ?_⟩
 rcases h with h | ⟨a, h1, h2, h3⟩
 ·exact Or.inl h
 ·exact Or.inr ⟨a, h1, Nat.lt_of_lt_of_le h2 hb.size, fun i hi => by rw [hb.cell (p := a.add i) (by rw [add_block]; exact h2)]; exact h3 i hi⟩
def numB (n : Int) : Bool := decide (0 ≤ n) && decide (n ≤ 4294967295)
def allB (xs : List Int) : Bool := xs.all numB
theorem isNum_any (n : Int) (w : World) : Calls Tryz.prog 71 #[.int .i64 n] w fun r w' => r = .returned (.bool (numB n)) ∧ w' = w := by
 unfold numB
 by_cases h0 : 0 ≤ n
 ·have e0 : decide (0 ≤ n) = true := decide_eq_true h0
  go_enter Tryz.func71, Tryz.ntmps71
  go_wp2
  go_ret
  exact ⟨by first | rfl | (rw [e0]; rfl), rfl⟩
 ·have e0 : decide (0 ≤ n) = false := decide_eq_false h0
  go_enter Tryz.func71, Tryz.ntmps71
  go_wp2
  go_ret
  exact ⟨by first | rfl | (rw [e0]; rfl), rfl⟩
theorem nums_any (o : Option Addr) (xs : List Int) (n cap : Nat) (_hcap : n ≤ cap) (hn : n ≤ 16) (w : World) (h : LJ w o n xs) : Calls Tryz.prog 72 #[.slice o n cap] w fun r w' => r = .returned (.bool (allB xs)) ∧ w' = w := by
 have HH : Hid (LJ w o n xs) := h
 clear h
 obtain ⟨R, hR⟩ : ∃ R, allB xs = R := ⟨_, rfl⟩
 have HR : Hid (allB xs = R) := hR
 rw [hR]
 clear hR
 go_enter Tryz.func72, Tryz.ntmps72
 go_wp2
 go_loop [7] (fun i => ∃ k : Nat, i = .int .i64 k ∧ k ≤ n ∧ Hid (allB (xs.drop k) = R)) (fun i => n - (intOf i).toNat)
 case atStart => exact ⟨0, rfl, by omega, by unfold Hid; rw [List.drop_zero]; exact HR.out⟩
 case round =>
  obtain ⟨k, rfl, hk, HK⟩ := hrel
  obtain ⟨hl, hc⟩ := HH.out
  by_cases hlt : k < n
  ·rcases hc with h0 | ⟨a, rfl, _, hc⟩
   ·omega
   have hcell := hc k hlt
   have hd : xs.drop k = xs.getD k 0 :: xs.drop (k + 1) := by
    rw [List.drop_eq_getElem_cons (by omega), List.getD_eq_getElem?_getD, List.getElem?_eq_getElem (by omega)]
    rfl
   have HK2 : Hid ((numB (xs.getD k 0) && allB (xs.drop (k + 1))) = R) := by
    unfold Hid
    rw [← HK.out, hd]
    rfl
   have HN := isNum_any (xs.getD k 0)
   generalize xs.getD k 0 = x at hcell HN HK2
   have hki0 : (0 : Int) ≤ (k : Int) := by omega
   have hki1 : (k : Int) < (n : Int) := by omega
   have hl' : Hid (xs.length = n) := hl
   clear hc hd hl HK HR
   cases hb : numB x with
   | true =>
    have HNN : Hid (∀ w, Calls Tryz.prog 71 #[.int .i64 x] w fun r w' => r = .returned (.bool true) ∧ w' = w) := fun w => by rw [← hb]; exact HN w
    have HK3 : Hid (allB (xs.drop (k + 1)) = R) := by
     have := HK2.out
     rw [hb, Bool.true_and] at this
     exact this
    clear HN hb HK2
    go_wp2_with fail
    refine (HNN.out _).mono ?_
    rintro e w1 ⟨rfl, rfl⟩
    go_wp2
    go_round
    case rel => exact ⟨k + 1, by go_num, by omega, HK3⟩
    case measure => simp [intOf]; omega
   | false =>
    have HNN : Hid (∀ w, Calls Tryz.prog 71 #[.int .i64 x] w fun r w' => r = .returned (.bool false) ∧ w' = w) := fun w => by rw [← hb]; exact HN w
    have HK3 : Hid (R = false) := by
     have := HK2.out
     rw [hb, Bool.false_and] at this
     exact this.symm
    clear HN hb HK2
    go_wp2_with fail
    refine (HNN.out _).mono ?_
    rintro e w1 ⟨rfl, rfl⟩
    go_wp2
    go_ret
    exact ⟨by rw [HK3.out]; rfl, rfl⟩
  ·have HK3 : Hid (R = true) := by
    have := HK.out
    rw [List.drop_eq_nil_of_le (by omega)] at this
    exact this.symm
   clear hc hl
   go_wp2
   go_ret
   exact ⟨by rw [HK3.out]; rfl, rfl⟩
def fitB (k A B : Int) (n : Nat) (xs : List Int) : Bool :=
 if k ≠ 4 ∧ 0 < n then false else if k ≠ 6 ∧ B ≠ 0 then false
 else if k = 2 then isKB A else if k = 8 then (decide (-2147483648 ≤ A) && decide (A ≤ 2147483647)) else if k = 9 then true
 else if k = 3 ∨ k = 4 ∨ k = 5 ∨ k = 6 then (numB A && numB B && allB xs) else A == 0
theorem fit_len (k op A B : Int) (n : Nat) (o : Option Addr) (cap : Nat) (_hk : (k != 4) = true) (_hn : 0 < n) (w : World) : Calls Tryz.prog 45 #[.int .i64 k, .agg #[.int .u8 op, .int .i64 A, .int .i64 B, .slice o n cap]] w fun r w' => r = .returned (.bool false) ∧ Below w.heap.size w w' := by
 go_enter Tryz.func45, Tryz.ntmps45
 go_wp2
 go_ret
 exact ⟨rfl, (Below.refl _ _).alloc (Nat.le_refl _) _⟩
theorem fit_b (k op A B : Int) (o : Option Addr) (cap : Nat) (_hk : (k != 4) = true) (_hk6 : (k != 6) = true) (_hB : (B != 0) = true) (w : World) : Calls Tryz.prog 45 #[.int .i64 k, .agg #[.int .u8 op, .int .i64 A, .int .i64 B, .slice o 0 cap]] w fun r w' => r = .returned (.bool false) ∧ Below w.heap.size w w' := by
 go_enter Tryz.func45, Tryz.ntmps45
 go_wp2
 go_ret
 exact ⟨rfl, (Below.refl _ _).alloc (Nat.le_refl _) _⟩
theorem fit_b4 (op A B : Int) (n : Nat) (o : Option Addr) (cap : Nat) (_hB : (B != 0) = true) (w : World) : Calls Tryz.prog 45 #[.int .i64 4, .agg #[.int .u8 op, .int .i64 A, .int .i64 B, .slice o n cap]] w fun r w' => r = .returned (.bool false) ∧ Below w.heap.size w w' := by
 go_enter Tryz.func45, Tryz.ntmps45
 go_wp2
 go_ret
 exact ⟨rfl, (Below.refl _ _).alloc (Nat.le_refl _) _⟩
theorem fit_2 (op A : Int) (b : Bool) (o : Option Addr) (cap : Nat) (HA : Hid (∀ w, Calls Tryz.prog 70 #[.int .i64 A] w fun r w' => r = .returned (.bool b) ∧ w' = w)) (w : World) : Calls Tryz.prog 45 #[.int .i64 2, .agg #[.int .u8 op, .int .i64 A, .int .i64 0, .slice o 0 cap]] w fun r w' => r = .returned (.bool b) ∧ Below w.heap.size w w' := by
 go_enter Tryz.func45, Tryz.ntmps45
 go_wp2_with fail
 refine (HA.out _).mono ?_
 rintro e w1 ⟨rfl, rfl⟩
 go_wp2
 go_ret
 exact ⟨rfl, (Below.refl _ _).alloc (Nat.le_refl _) _⟩
theorem fit_9 (op A : Int) (o : Option Addr) (cap : Nat) (w : World) : Calls Tryz.prog 45 #[.int .i64 9, .agg #[.int .u8 op, .int .i64 A, .int .i64 0, .slice o 0 cap]] w fun r w' => r = .returned (.bool true) ∧ Below w.heap.size w w' := by
 go_enter Tryz.func45, Tryz.ntmps45
 go_wp2
 go_ret
 exact ⟨rfl, (Below.refl _ _).alloc (Nat.le_refl _) _⟩
theorem fit_8a (op A : Int) (o : Option Addr) (cap : Nat) (_h0 : decide (-2147483648 ≤ A) = true) (w : World) : Calls Tryz.prog 45 #[.int .i64 8, .agg #[.int .u8 op, .int .i64 A, .int .i64 0, .slice o 0 cap]] w fun r w' => r = .returned (.bool (decide (A ≤ 2147483647))) ∧ Below w.heap.size w w' := by
 go_enter Tryz.func45, Tryz.ntmps45
 go_wp2
 go_ret
 exact ⟨rfl, (Below.refl _ _).alloc (Nat.le_refl _) _⟩
theorem fit_8b (op A : Int) (o : Option Addr) (cap : Nat) (_h0 : decide (-2147483648 ≤ A) = false) (w : World) : Calls Tryz.prog 45 #[.int .i64 8, .agg #[.int .u8 op, .int .i64 A, .int .i64 0, .slice o 0 cap]] w fun r w' => r = .returned (.bool false) ∧ Below w.heap.size w w' := by
 go_enter Tryz.func45, Tryz.ntmps45
 go_wp2
 go_ret
 exact ⟨rfl, (Below.refl _ _).alloc (Nat.le_refl _) _⟩
theorem fit_1 (op A : Int) (o : Option Addr) (cap : Nat) (w : World) : Calls Tryz.prog 45 #[.int .i64 1, .agg #[.int .u8 op, .int .i64 A, .int .i64 0, .slice o 0 cap]] w fun r w' => r = .returned (.bool (A == 0)) ∧ Below w.heap.size w w' := by
 go_enter Tryz.func45, Tryz.ntmps45
 go_wp2
 go_ret
 exact ⟨rfl, (Below.refl _ _).alloc (Nat.le_refl _) _⟩
theorem fit_7 (op A : Int) (o : Option Addr) (cap : Nat) (w : World) : Calls Tryz.prog 45 #[.int .i64 7, .agg #[.int .u8 op, .int .i64 A, .int .i64 0, .slice o 0 cap]] w fun r w' => r = .returned (.bool (A == 0)) ∧ Below w.heap.size w w' := by
 go_enter Tryz.func45, Tryz.ntmps45
 go_wp2
 go_ret
 exact ⟨rfl, (Below.refl _ _).alloc (Nat.le_refl _) _⟩
theorem fit_3f (op A : Int) (o : Option Addr) (cap : Nat) (HA : Hid (∀ w, Calls Tryz.prog 71 #[.int .i64 A] w fun r w' => r = .returned (.bool false) ∧ w' = w)) (w : World) : Calls Tryz.prog 45 #[.int .i64 3, .agg #[.int .u8 op, .int .i64 A, .int .i64 0, .slice o 0 cap]] w fun r w' => r = .returned (.bool false) ∧ Below w.heap.size w w' := by
 go_enter Tryz.func45, Tryz.ntmps45
 go_wp2_with fail
 refine (HA.out _).mono ?_
 rintro e w1 ⟨rfl, rfl⟩
 go_wp2
 go_ret
 exact ⟨rfl, (Below.refl _ _).alloc (Nat.le_refl _) _⟩
theorem fit_3g (op A : Int) (o : Option Addr) (cap : Nat) (HA : Hid (∀ w, Calls Tryz.prog 71 #[.int .i64 A] w fun r w' => r = .returned (.bool true) ∧ w' = w)) (HBB : Hid (∀ w, Calls Tryz.prog 71 #[.int .i64 0] w fun r w' => r = .returned (.bool false) ∧ w' = w)) (w : World) : Calls Tryz.prog 45 #[.int .i64 3, .agg #[.int .u8 op, .int .i64 A, .int .i64 0, .slice o 0 cap]] w fun r w' => r = .returned (.bool false) ∧ Below w.heap.size w w' := by
 go_enter Tryz.func45, Tryz.ntmps45
 go_wp2_with fail
 refine (HA.out _).mono ?_
 rintro e w1 ⟨rfl, rfl⟩
 go_wp2_with fail
 refine (HBB.out _).mono ?_
 rintro e w1 ⟨rfl, rfl⟩
 go_wp2
 go_ret
 exact ⟨rfl, (Below.refl _ _).alloc (Nat.le_refl _) _⟩
theorem fit_3t (op A : Int) (bx : Bool) (o : Option Addr) (cap : Nat) (HA : Hid (∀ w, Calls Tryz.prog 71 #[.int .i64 A] w fun r w' => r = .returned (.bool true) ∧ w' = w)) (HBB : Hid (∀ w, Calls Tryz.prog 71 #[.int .i64 0] w fun r w' => r = .returned (.bool true) ∧ w' = w)) (w : World) (HX : Hid (∀ w', Below w.heap.size w w' → Calls Tryz.prog 72 #[.slice o 0 cap] w' fun r w'' => r = .returned (.bool bx) ∧ w'' = w')) : Calls Tryz.prog 45 #[.int .i64 3, .agg #[.int .u8 op, .int .i64 A, .int .i64 0, .slice o 0 cap]] w fun r w' => r = .returned (.bool bx) ∧ Below w.heap.size w w' := by
 go_enter Tryz.func45, Tryz.ntmps45
 go_wp2_with fail
 refine (HA.out _).mono ?_
 rintro e w1 ⟨rfl, rfl⟩
 go_wp2_with fail
 refine (HBB.out _).mono ?_
 rintro e w1 ⟨rfl, rfl⟩
 go_wp2_with fail
 refine (HX.out _ ((Below.refl _ _).alloc (Nat.le_refl _) _)).mono ?_
 rintro e w1 ⟨rfl, rfl⟩
 go_wp2
 go_ret
 exact ⟨rfl, (Below.refl _ _).alloc (Nat.le_refl _) _⟩
theorem fit_5f (op A : Int) (o : Option Addr) (cap : Nat) (HA : Hid (∀ w, Calls Tryz.prog 71 #[.int .i64 A] w fun r w' => r = .returned (.bool false) ∧ w' = w)) (w : World) : Calls Tryz.prog 45 #[.int .i64 5, .agg #[.int .u8 op, .int .i64 A, .int .i64 0, .slice o 0 cap]] w fun r w' => r = .returned (.bool false) ∧ Below w.heap.size w w' := by
 go_enter Tryz.func45, Tryz.ntmps45
 go_wp2_with fail
 refine (HA.out _).mono ?_
 rintro e w1 ⟨rfl, rfl⟩
 go_wp2
 go_ret
 exact ⟨rfl, (Below.refl _ _).alloc (Nat.le_refl _) _⟩
theorem fit_5g (op A : Int) (o : Option Addr) (cap : Nat) (HA : Hid (∀ w, Calls Tryz.prog 71 #[.int .i64 A] w fun r w' => r = .returned (.bool true) ∧ w' = w)) (HBB : Hid (∀ w, Calls Tryz.prog 71 #[.int .i64 0] w fun r w' => r = .returned (.bool false) ∧ w' = w)) (w : World) : Calls Tryz.prog 45 #[.int .i64 5, .agg #[.int .u8 op, .int .i64 A, .int .i64 0, .slice o 0 cap]] w fun r w' => r = .returned (.bool false) ∧ Below w.heap.size w w' := by
 go_enter Tryz.func45, Tryz.ntmps45
 go_wp2_with fail
 refine (HA.out _).mono ?_
 rintro e w1 ⟨rfl, rfl⟩
 go_wp2_with fail
 refine (HBB.out _).mono ?_
 rintro e w1 ⟨rfl, rfl⟩
 go_wp2
 go_ret
 exact ⟨rfl, (Below.refl _ _).alloc (Nat.le_refl _) _⟩
theorem fit_5t (op A : Int) (bx : Bool) (o : Option Addr) (cap : Nat) (HA : Hid (∀ w, Calls Tryz.prog 71 #[.int .i64 A] w fun r w' => r = .returned (.bool true) ∧ w' = w)) (HBB : Hid (∀ w, Calls Tryz.prog 71 #[.int .i64 0] w fun r w' => r = .returned (.bool true) ∧ w' = w)) (w : World) (HX : Hid (∀ w', Below w.heap.size w w' → Calls Tryz.prog 72 #[.slice o 0 cap] w' fun r w'' => r = .returned (.bool bx) ∧ w'' = w')) : Calls Tryz.prog 45 #[.int .i64 5, .agg #[.int .u8 op, .int .i64 A, .int .i64 0, .slice o 0 cap]] w fun r w' => r = .returned (.bool bx) ∧ Below w.heap.size w w' := by
 go_enter Tryz.func45, Tryz.ntmps45
 go_wp2_with fail
 refine (HA.out _).mono ?_
 rintro e w1 ⟨rfl, rfl⟩
 go_wp2_with fail
 refine (HBB.out _).mono ?_
 rintro e w1 ⟨rfl, rfl⟩
 go_wp2_with fail
 refine (HX.out _ ((Below.refl _ _).alloc (Nat.le_refl _) _)).mono ?_
 rintro e w1 ⟨rfl, rfl⟩
 go_wp2
 go_ret
 exact ⟨rfl, (Below.refl _ _).alloc (Nat.le_refl _) _⟩
theorem fit_6f (op A B : Int) (o : Option Addr) (cap : Nat) (HA : Hid (∀ w, Calls Tryz.prog 71 #[.int .i64 A] w fun r w' => r = .returned (.bool false) ∧ w' = w)) (w : World) : Calls Tryz.prog 45 #[.int .i64 6, .agg #[.int .u8 op, .int .i64 A, .int .i64 B, .slice o 0 cap]] w fun r w' => r = .returned (.bool false) ∧ Below w.heap.size w w' := by
 go_enter Tryz.func45, Tryz.ntmps45
 go_wp2_with fail
 refine (HA.out _).mono ?_
 rintro e w1 ⟨rfl, rfl⟩
 go_wp2
 go_ret
 exact ⟨rfl, (Below.refl _ _).alloc (Nat.le_refl _) _⟩
theorem fit_6g (op A B : Int) (o : Option Addr) (cap : Nat) (HA : Hid (∀ w, Calls Tryz.prog 71 #[.int .i64 A] w fun r w' => r = .returned (.bool true) ∧ w' = w)) (HBB : Hid (∀ w, Calls Tryz.prog 71 #[.int .i64 B] w fun r w' => r = .returned (.bool false) ∧ w' = w)) (w : World) : Calls Tryz.prog 45 #[.int .i64 6, .agg #[.int .u8 op, .int .i64 A, .int .i64 B, .slice o 0 cap]] w fun r w' => r = .returned (.bool false) ∧ Below w.heap.size w w' := by
 go_enter Tryz.func45, Tryz.ntmps45
 go_wp2_with fail
 refine (HA.out _).mono ?_
 rintro e w1 ⟨rfl, rfl⟩
 go_wp2_with fail
 refine (HBB.out _).mono ?_
 rintro e w1 ⟨rfl, rfl⟩
 go_wp2
 go_ret
 exact ⟨rfl, (Below.refl _ _).alloc (Nat.le_refl _) _⟩
theorem fit_6t (op A B : Int) (bx : Bool) (o : Option Addr) (cap : Nat) (HA : Hid (∀ w, Calls Tryz.prog 71 #[.int .i64 A] w fun r w' => r = .returned (.bool true) ∧ w' = w)) (HBB : Hid (∀ w, Calls Tryz.prog 71 #[.int .i64 B] w fun r w' => r = .returned (.bool true) ∧ w' = w)) (w : World) (HX : Hid (∀ w', Below w.heap.size w w' → Calls Tryz.prog 72 #[.slice o 0 cap] w' fun r w'' => r = .returned (.bool bx) ∧ w'' = w')) : Calls Tryz.prog 45 #[.int .i64 6, .agg #[.int .u8 op, .int .i64 A, .int .i64 B, .slice o 0 cap]] w fun r w' => r = .returned (.bool bx) ∧ Below w.heap.size w w' := by
 go_enter Tryz.func45, Tryz.ntmps45
 go_wp2_with fail
 refine (HA.out _).mono ?_
 rintro e w1 ⟨rfl, rfl⟩
 go_wp2_with fail
 refine (HBB.out _).mono ?_
 rintro e w1 ⟨rfl, rfl⟩
 go_wp2_with fail
 refine (HX.out _ ((Below.refl _ _).alloc (Nat.le_refl _) _)).mono ?_
 rintro e w1 ⟨rfl, rfl⟩
 go_wp2
 go_ret
 exact ⟨rfl, (Below.refl _ _).alloc (Nat.le_refl _) _⟩
theorem fit_4f (op A : Int) (n : Nat) (o : Option Addr) (cap : Nat) (HA : Hid (∀ w, Calls Tryz.prog 71 #[.int .i64 A] w fun r w' => r = .returned (.bool false) ∧ w' = w)) (w : World) : Calls Tryz.prog 45 #[.int .i64 4, .agg #[.int .u8 op, .int .i64 A, .int .i64 0, .slice o n cap]] w fun r w' => r = .returned (.bool false) ∧ Below w.heap.size w w' := by
 go_enter Tryz.func45, Tryz.ntmps45
 go_wp2_with fail
 refine (HA.out _).mono ?_
 rintro e w1 ⟨rfl, rfl⟩
 go_wp2
 go_ret
 exact ⟨rfl, (Below.refl _ _).alloc (Nat.le_refl _) _⟩
theorem fit_4g (op A : Int) (n : Nat) (o : Option Addr) (cap : Nat) (HA : Hid (∀ w, Calls Tryz.prog 71 #[.int .i64 A] w fun r w' => r = .returned (.bool true) ∧ w' = w)) (HBB : Hid (∀ w, Calls Tryz.prog 71 #[.int .i64 0] w fun r w' => r = .returned (.bool false) ∧ w' = w)) (w : World) : Calls Tryz.prog 45 #[.int .i64 4, .agg #[.int .u8 op, .int .i64 A, .int .i64 0, .slice o n cap]] w fun r w' => r = .returned (.bool false) ∧ Below w.heap.size w w' := by
 go_enter Tryz.func45, Tryz.ntmps45
 go_wp2_with fail
 refine (HA.out _).mono ?_
 rintro e w1 ⟨rfl, rfl⟩
 go_wp2_with fail
 refine (HBB.out _).mono ?_
 rintro e w1 ⟨rfl, rfl⟩
 go_wp2
 go_ret
 exact ⟨rfl, (Below.refl _ _).alloc (Nat.le_refl _) _⟩
theorem fit_4t (op A : Int) (n : Nat) (bx : Bool) (o : Option Addr) (cap : Nat) (HA : Hid (∀ w, Calls Tryz.prog 71 #[.int .i64 A] w fun r w' => r = .returned (.bool true) ∧ w' = w)) (HBB : Hid (∀ w, Calls Tryz.prog 71 #[.int .i64 0] w fun r w' => r = .returned (.bool true) ∧ w' = w)) (w : World) (HX : Hid (∀ w', Below w.heap.size w w' → Calls Tryz.prog 72 #[.slice o n cap] w' fun r w'' => r = .returned (.bool bx) ∧ w'' = w')) : Calls Tryz.prog 45 #[.int .i64 4, .agg #[.int .u8 op, .int .i64 A, .int .i64 0, .slice o n cap]] w fun r w' => r = .returned (.bool bx) ∧ Below w.heap.size w w' := by
 go_enter Tryz.func45, Tryz.ntmps45
 go_wp2_with fail
 refine (HA.out _).mono ?_
 rintro e w1 ⟨rfl, rfl⟩
 go_wp2_with fail
 refine (HBB.out _).mono ?_
 rintro e w1 ⟨rfl, rfl⟩
 go_wp2_with fail
 refine (HX.out _ ((Below.refl _ _).alloc (Nat.le_refl _) _)).mono ?_
 rintro e w1 ⟨rfl, rfl⟩
 go_wp2
 go_ret
 exact ⟨rfl, (Below.refl _ _).alloc (Nat.le_refl _) _⟩
theorem fits_any (k op A B : Int) (o : Option Addr) (n cap : Nat) (xs : List Int) (hk1 : 1 ≤ k) (hk9 : k ≤ 9) (hcap : n ≤ cap) (hn : n ≤ 16) (w : World) (h : LJ w o n xs) : Calls Tryz.prog 45 #[.int .i64 k, .agg #[.int .u8 op, .int .i64 A, .int .i64 B, .slice o n cap]] w fun r w' => r = .returned (.bool (fitB k A B n xs)) ∧ Below w.heap.size w w' := by
 have bne_of : ∀ x y : Int, x ≠ y → (x != y) = true := fun x y hxy => by rw [bne, beq_eq_false_iff_ne.2 hxy]; rfl
 unfold fitB
 by_cases h1 : k ≠ 4 ∧ 0 < n
 ·rw [if_pos h1]
  exact fit_len k op A B n o cap (bne_of _ _ h1.1) h1.2 w
 rw [if_neg h1]
 by_cases h2 : k ≠ 6 ∧ B ≠ 0
 ·rw [if_pos h2]
  by_cases h4 : k = 4
  ·subst h4
   exact fit_b4 op A B n o cap (bne_of _ _ h2.2) w
  ·have hn0 : n = 0 := by omega
   subst hn0
   exact fit_b k op A B o cap (bne_of _ _ h4) (bne_of _ _ h2.1) (bne_of _ _ h2.2) w
 rw [if_neg h2]
 have hxs : ∀ w', Below w.heap.size w w' → Calls Tryz.prog 72 #[.slice o n cap] w' fun r w'' => r = .returned (.bool (allB xs)) ∧ w'' = w' := fun w' hb => nums_any o xs n cap hcap hn w' (h.below hb)
 have hA := isNum_any A
 have hB := isNum_any B
 rcases (show k = 1 ∨ k = 2 ∨ k = 3 ∨ k = 4 ∨ k = 5 ∨ k = 6 ∨ k = 7 ∨ k = 8 ∨ k = 9 by omega) with rfl | rfl | rfl | rfl | rfl | rfl | rfl | rfl | rfl
 ·skip
  have hn0 : n = 0 := by omega
  subst hn0
  have hB0 : B = 0 := by omega
  subst hB0
  exact fit_1 op A o cap w
 ·skip
  have hn0 : n = 0 := by omega
  subst hn0
  have hB0 : B = 0 := by omega
  subst hB0
  exact fit_2 op A (isKB A) o cap (fun w => isKB_any A w) w
 ·skip
  have hn0 : n = 0 := by omega
  subst hn0
  have hB0 : B = 0 := by omega
  subst hB0
  rw [if_neg (by decide), if_neg (by decide), if_neg (by decide), if_pos (by decide)]
  cases hbA : numB A with
  | false =>
   rw [Bool.false_and, Bool.false_and]
   exact fit_3f op A o cap (fun w => by rw [← hbA]; exact hA w) w
  | true =>
   cases hbB : numB 0 with
   | false =>
    rw [Bool.true_and, Bool.false_and]
    exact fit_3g op A o cap (fun w => by rw [← hbA]; exact hA w) (fun w => by rw [← hbB]; exact hB w) w
   | true =>
    rw [Bool.true_and, Bool.true_and]
    exact fit_3t op A (allB xs) o cap (fun w => by rw [← hbA]; exact hA w) (fun w => by rw [← hbB]; exact hB w) w hxs
 ·skip
  have hB0 : B = 0 := by omega
  subst hB0
  rw [if_neg (by decide), if_neg (by decide), if_neg (by decide), if_pos (by decide)]
  cases hbA : numB A with
  | false =>
   rw [Bool.false_and, Bool.false_and]
   exact fit_4f op A n o cap (fun w => by rw [← hbA]; exact hA w) w
  | true =>
   cases hbB : numB 0 with
   | false =>
    rw [Bool.true_and, Bool.false_and]
    exact fit_4g op A n o cap (fun w => by rw [← hbA]; exact hA w) (fun w => by rw [← hbB]; exact hB w) w
   | true =>
    rw [Bool.true_and, Bool.true_and]
    exact fit_4t op A n (allB xs) o cap (fun w => by rw [← hbA]; exact hA w) (fun w => by rw [← hbB]; exact hB w) w hxs
 ·skip
  have hn0 : n = 0 := by omega
  subst hn0
  have hB0 : B = 0 := by omega
  subst hB0
  rw [if_neg (by decide), if_neg (by decide), if_neg (by decide), if_pos (by decide)]
  cases hbA : numB A with
  | false =>
   rw [Bool.false_and, Bool.false_and]
   exact fit_5f op A o cap (fun w => by rw [← hbA]; exact hA w) w
  | true =>
   cases hbB : numB 0 with
   | false =>
    rw [Bool.true_and, Bool.false_and]
    exact fit_5g op A o cap (fun w => by rw [← hbA]; exact hA w) (fun w => by rw [← hbB]; exact hB w) w
   | true =>
    rw [Bool.true_and, Bool.true_and]
    exact fit_5t op A (allB xs) o cap (fun w => by rw [← hbA]; exact hA w) (fun w => by rw [← hbB]; exact hB w) w hxs
 ·skip
  have hn0 : n = 0 := by omega
  subst hn0
  rw [if_neg (by decide), if_neg (by decide), if_neg (by decide), if_pos (by decide)]
  cases hbA : numB A with
  | false =>
   rw [Bool.false_and, Bool.false_and]
   exact fit_6f op A B o cap (fun w => by rw [← hbA]; exact hA w) w
  | true =>
   cases hbB : numB B with
   | false =>
    rw [Bool.true_and, Bool.false_and]
    exact fit_6g op A B o cap (fun w => by rw [← hbA]; exact hA w) (fun w => by rw [← hbB]; exact hB w) w
   | true =>
    rw [Bool.true_and, Bool.true_and]
    exact fit_6t op A B (allB xs) o cap (fun w => by rw [← hbA]; exact hA w) (fun w => by rw [← hbB]; exact hB w) w hxs
 ·skip
  have hn0 : n = 0 := by omega
  subst hn0
  have hB0 : B = 0 := by omega
  subst hB0
  exact fit_7 op A o cap w
 ·skip
  have hn0 : n = 0 := by omega
  subst hn0
  have hB0 : B = 0 := by omega
  subst hB0
  rw [if_neg (by decide), if_pos rfl]
  cases h8 : decide (-2147483648 ≤ A) with
  | true => exact fit_8a op A o cap h8 w
  | false => exact fit_8b op A o cap h8 w
 ·skip
  have hn0 : n = 0 := by omega
  subst hn0
  have hB0 : B = 0 := by omega
  subst hB0
  exact fit_9 op A o cap w
end Go.Proofs.YtkceplamaocmmaaGreatDoor
namespace Go.Proofs.YtkceplamaocmmaaGreatDoor
open Go.RowKit
theorem vcheck_none (op A B : Int) (o : Option Addr) (n cap : Nat) (w : World)
  (HB : Hid (∀ w', Below w.heap.size w w' → Calls Tryz.prog 44 #[.int .u8 op] w' fun r w'' => r = .returned (.int .i64 0) ∧ Below w'.heap.size w' w'')) :
  Calls Tryz.prog 28 #[.agg #[.int .u8 op, .int .i64 A, .int .i64 B, .slice o n cap]] w fun r w' => r = .returned (.int .i64 6) ∧ Below w.heap.size w w' := by
 go_enter Tryz.func28, Tryz.ntmps28
 go_wp2_with fail
 refine (HB.out _ ((Below.refl _ _).alloc (Nat.le_refl _) _)).mono ?_
 rintro e w1 ⟨rfl, b1⟩
 go_wp2
 go_ret
 exact ⟨rfl, ((Below.refl _ _).alloc (Nat.le_refl _) _).trans (b1.mono (by simp))⟩
theorem vcheck_long (op A B k : Int) (o : Option Addr) (n cap : Nat) (_hn : 16 < n) (_hm : n ≤ 9223372036854775807) (_hk : (k == 0) = false) (w : World) (HB : Hid (∀ w', Below w.heap.size w w' → Calls Tryz.prog 44 #[.int .u8 op] w' fun r w'' => r = .returned (.int .i64 k) ∧ Below w'.heap.size w' w'')) :
  Calls Tryz.prog 28 #[.agg #[.int .u8 op, .int .i64 A, .int .i64 B, .slice o n cap]] w fun r w' => r = .returned (.int .i64 2) ∧ Below w.heap.size w w' := by
 go_enter Tryz.func28, Tryz.ntmps28
 go_wp2_with fail
 refine (HB.out _ ((Below.refl _ _).alloc (Nat.le_refl _) _)).mono ?_
 rintro e w1 ⟨rfl, b1⟩
 have xX : XS w1 w.heap.size (.int .u8 op) (.int .i64 A) (.int .i64 B) (.slice o n cap) := by
  unfold XS
  rw [b1.block w.heap.size (by simp)]
  exact new_block _ _
 obtain ⟨x0, x1, x2, x3⟩ := xX.cell
 have HB1 : Hid (Below w.heap.size w w1) := ((Below.refl _ _).alloc (Nat.le_refl _) _).trans (b1.mono (by simp))
 clear xX b1
 go_wp2
 go_ret
 exact ⟨rfl, HB1.out⟩
theorem vcheck_yes (op A B k : Int) (o : Option Addr) (n cap : Nat) (_hn : n ≤ 16) (_hk : (k == 0) = false) (w : World) (HB : Hid (∀ w', Below w.heap.size w w' → Calls Tryz.prog 44 #[.int .u8 op] w' fun r w'' => r = .returned (.int .i64 k) ∧ Below w'.heap.size w' w''))
  (HF : Hid (∀ w', Below w.heap.size w w' → Calls Tryz.prog 45 #[.int .i64 k, .agg #[.int .u8 op, .int .i64 A, .int .i64 B, .slice o n cap]] w' fun r w'' => r = .returned (.bool true) ∧ Below w'.heap.size w' w'')) :
  Calls Tryz.prog 28 #[.agg #[.int .u8 op, .int .i64 A, .int .i64 B, .slice o n cap]] w fun r w' => r = .returned (.int .i64 0) ∧ Below w.heap.size w w' := by
 go_enter Tryz.func28, Tryz.ntmps28
 go_wp2_with fail
 refine (HB.out _ ((Below.refl _ _).alloc (Nat.le_refl _) _)).mono ?_
 rintro e w1 ⟨rfl, b1⟩
 have xX : XS w1 w.heap.size (.int .u8 op) (.int .i64 A) (.int .i64 B) (.slice o n cap) := by
  unfold XS
  rw [b1.block w.heap.size (by simp)]
  exact new_block _ _
 obtain ⟨x0, x1, x2, x3⟩ := xX.cell
 have HB1 : Hid (Below w.heap.size w w1) := ((Below.refl _ _).alloc (Nat.le_refl _) _).trans (b1.mono (by simp))
 clear xX b1
 go_wp2_with fail
 refine (HF.out _ HB1.out).mono ?_
 rintro e w2 ⟨rfl, b2⟩
 go_wp2
 go_ret
 exact ⟨rfl, HB1.out.trans (b2.mono HB1.out.size)⟩
theorem vcheck_no (op A B k : Int) (o : Option Addr) (n cap : Nat) (_hn : n ≤ 16) (_hk : (k == 0) = false) (w : World) (HB : Hid (∀ w', Below w.heap.size w w' → Calls Tryz.prog 44 #[.int .u8 op] w' fun r w'' => r = .returned (.int .i64 k) ∧ Below w'.heap.size w' w''))
  (HF : Hid (∀ w', Below w.heap.size w w' → Calls Tryz.prog 45 #[.int .i64 k, .agg #[.int .u8 op, .int .i64 A, .int .i64 B, .slice o n cap]] w' fun r w'' => r = .returned (.bool false) ∧ Below w'.heap.size w' w'')) :
  Calls Tryz.prog 28 #[.agg #[.int .u8 op, .int .i64 A, .int .i64 B, .slice o n cap]] w fun r w' => r = .returned (.int .i64 1) ∧ Below w.heap.size w w' := by
 go_enter Tryz.func28, Tryz.ntmps28
 go_wp2_with fail
 refine (HB.out _ ((Below.refl _ _).alloc (Nat.le_refl _) _)).mono ?_
 rintro e w1 ⟨rfl, b1⟩
 have xX : XS w1 w.heap.size (.int .u8 op) (.int .i64 A) (.int .i64 B) (.slice o n cap) := by
  unfold XS
  rw [b1.block w.heap.size (by simp)]
  exact new_block _ _
 obtain ⟨x0, x1, x2, x3⟩ := xX.cell
 have HB1 : Hid (Below w.heap.size w w1) := ((Below.refl _ _).alloc (Nat.le_refl _) _).trans (b1.mono (by simp))
 clear xX b1
 go_wp2_with fail
 refine (HF.out _ HB1.out).mono ?_
 rintro e w2 ⟨rfl, b2⟩
 go_wp2
 go_ret
 exact ⟨rfl, HB1.out.trans (b2.mono HB1.out.size)⟩
def chkV (op A B : Int) (n : Nat) (xs : List Int) : Int := if besV op = 0 then 6 else if 16 < n then 2 else if fitB (besV op) A B n xs then 0 else 1
theorem check_any (op A B : Int) (o : Option Addr) (n cap : Nat) (xs : List Int) (h0 : 0 ≤ op) (h1 : op ≤ 255) (hcap : n ≤ cap) (hm : n ≤ 9223372036854775807) (w : World) (h : LJ w o n xs) (hT : TabIn w) (ht0 : 0 < w.heap.size) :
  Calls Tryz.prog 28 #[.agg #[.int .u8 op, .int .i64 A, .int .i64 B, .slice o n cap]] w fun r w' => r = .returned (.int .i64 (chkV op A B n xs)) ∧ Below w.heap.size w w' := by
 have hB : ∀ w', Below w.heap.size w w' → Calls Tryz.prog 44 #[.int .u8 op] w' fun r w'' => r = .returned (.int .i64 (besV op)) ∧ Below w'.heap.size w' w'' := fun w' hb => bes_any op h0 h1 w' (hT.chg (P := w.heap.size) (Chg.of_below hb) ht0 (by omega))
 have hrg := besV_range op
 unfold chkV
 generalize besV op = k at hB hrg ⊢
 by_cases hk : k = 0
 ·subst hk
  rw [if_pos rfl]
  exact vcheck_none op A B o n cap w hB
 rw [if_neg hk]
 have hkb : (k == 0) = false := by rw [beq_eq_false_iff_ne]; exact hk
 by_cases hn : 16 < n
 ·rw [if_pos hn]
  exact vcheck_long op A B k o n cap hn hm hkb w hB
 rw [if_neg hn]
 have hF := fun w' (hb : Below w.heap.size w w') => fits_any k op A B o n cap xs (by omega) (by omega) hcap (by omega) w' (h.below hb)
 cases hf : fitB k A B n xs with
 | true =>
  rw [hf] at hF
  exact vcheck_yes op A B k o n cap (by omega) hkb w hB hF
 | false =>
  rw [hf] at hF
  exact vcheck_no op A B k o n cap (by omega) hkb w hB hF
end Go.Proofs.YtkceplamaocmmaaGreatDoor
namespace Go.Proofs.YtkceplamaocmmaaGreatDoor
open Go.RowKit
theorem eq_any (o o' : Option Addr) (xs : List Int) (n cap cap' : Nat) (_hcap : n ≤ cap) (_hcap' : n ≤ cap') (_hm : cap ≤ 9223372036854775807) (_hm' : cap' ≤ 9223372036854775807) (w : World) (h : LJ w o n xs) (h' : LJ w o' n xs) : Calls Tryz.prog 27 #[.slice o n cap, .slice o' n cap'] w fun r w' => r = .returned (.bool true) ∧ w' = w := by
 have HH : Hid (LJ w o n xs) := h
 have HH' : Hid (LJ w o' n xs) := h'
 clear h h'
 go_enter Tryz.func27, Tryz.ntmps27
 go_wp2
 go_loop [14] (fun i => ∃ k : Nat, i = .int .i64 k ∧ k ≤ n) (fun i => n - (intOf i).toNat)
 case atStart => exact ⟨0, rfl, by omega⟩
 case round =>
  obtain ⟨k, rfl, hk⟩ := hrel
  by_cases hlt : k < n
  ·rcases HH.out.2 with h0 | ⟨a, rfl, _, hc⟩
   ·omega
   rcases HH'.out.2 with h0 | ⟨a', rfl, _, hc'⟩
   ·omega
   have hcell := hc k hlt
   have hcell' := hc' k hlt
   generalize xs.getD k 0 = x at hcell hcell'
   have hki0 : (0 : Int) ≤ (k : Int) := by omega
   have hki1 : (k : Int) < (n : Int) := by omega
   clear hc hc' HH HH'
   go_wp2
   go_round
   case rel => exact ⟨k + 1, by go_num, by omega⟩
   case measure => simp [intOf]; omega
  ·go_wp2
   go_ret
   exact ⟨rfl, rfl⟩
theorem same_any (op A B : Int) (o o2 : Option Addr) (n cap cap2 : Nat) (w : World) (HE : Hid (∀ w', Below w.heap.size w w' → Calls Tryz.prog 27 #[.slice o n cap, .slice o2 n cap2] w' fun r w'' => r = .returned (.bool true) ∧ w'' = w')) :
  Calls Tryz.prog 14 #[.agg #[.int .u8 op, .int .i64 A, .int .i64 B, .slice o n cap], .agg #[.int .u8 op, .int .i64 A, .int .i64 B, .slice o2 n cap2]] w fun r w' => r = .returned (.bool true) ∧ Below w.heap.size w w' := by
 go_enter Tryz.func14, Tryz.ntmps14
 go_wp2_with fail
 refine (HE.out _ (((Below.refl _ _).alloc (Nat.le_refl _) _).alloc (by simp) _)).mono ?_
 rintro e w1 ⟨rfl, rfl⟩
 go_wp2
 go_ret
 exact ⟨rfl, ((Below.refl _ _).alloc (Nat.le_refl _) _).alloc (by simp) _⟩
end Go.Proofs.YtkceplamaocmmaaGreatDoor
