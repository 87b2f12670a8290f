/-
 What the program's own fits and Check answer, for whatever instruction. What the program's own Check and Write answer, for whatever instruction. What is written is read back: the program's own Write, the laws' own SameIns, and the mathematics.
-/
import Derived.Test.YtakpkdckajjooaaGreatDoorWQZ
set_option maxHeartbeats 4000000
set_option maxRecDepth 1000000
namespace Go.Proofs.YtakpkdckajjooaaGreatDoor
set_option linter.unusedVariables false
open Go.RowKit
def LJ (w : World) (o : Option Addr) (n : Nat) (xs : List Int) : Prop := xs.length = n ∧ (n = 0 ∨ ∃ a : Addr, o = some a ∧ a.block < w.heap.size ∧ ∀ i, i < n → w.cell? (a.add i) = some (.int .i64 (xs.getD i 0)))
theorem add_block (a : Addr) (i : Nat) : (a.add i).block = a.block := by unfold Addr.add; split <;> rfl
theorem LJ.below {w w' : World} {o : Option Addr} {n : Nat} {xs : List Int} (h : LJ w o n xs) (hb : Below w.heap.size w w') : LJ w' o n xs := by
 obtain ⟨hl, h⟩ := h
 refine ⟨hl, ?_⟩
 rcases h with h | ⟨a, h1, h2, h3⟩
 ·exact Or.inl h
 ·exact Or.inr ⟨a, h1, Nat.lt_of_lt_of_le h2 hb.size, fun i hi => by rw [hb.cell (p := a.add i) (by rw [add_block]; exact h2)]; exact h3 i hi⟩
def numB (n : Int) : Bool := decide (0 ≤ n) && decide (n ≤ 4294967295)
def allB (xs : List Int) : Bool := xs.all numB
theorem isNum_any (n : Int) (w : World) : Calls Tryz.prog 232 #[.int .i64 n] w fun r w' => r = .returned (.bool (numB n)) ∧ w' = w := by
 unfold numB
 by_cases h0 : 0 ≤ n
 ·have e0 : decide (0 ≤ n) = true := decide_eq_true h0
  go_enter Tryz.func232, Tryz.ntmps232
  go_wp2
  go_ret
  exact ⟨by first | rfl | (rw [e0]; rfl), rfl⟩
 ·have e0 : decide (0 ≤ n) = false := decide_eq_false h0
  go_enter Tryz.func232, Tryz.ntmps232
  go_wp2
  go_ret
  exact ⟨by first | rfl | (rw [e0]; rfl), rfl⟩
theorem nums_any (o : Option Addr) (xs : List Int) (n cap : Nat) (_hcap : n ≤ cap) (hn : n ≤ 16) (w : World) (h : LJ w o n xs) : Calls Tryz.prog 233 #[.slice o n cap] w fun r w' => r = .returned (.bool (allB xs)) ∧ w' = w := by
 have HH : Hid (LJ w o n xs) := h
 clear h
 obtain ⟨R, hR⟩ : ∃ R, allB xs = R := ⟨_, rfl⟩
 have HR : Hid (allB xs = R) := hR
 rw [hR]
 clear hR
 go_enter Tryz.func233, Tryz.ntmps233
 go_wp2
 go_loop [7] (fun i => ∃ k : Nat, i = .int .i64 k ∧ k ≤ n ∧ Hid (allB (xs.drop k) = R)) (fun i => n - (intOf i).toNat)
 case atStart => exact ⟨0, rfl, by omega, by unfold Hid; rw [List.drop_zero]; exact HR.out⟩
 case round =>
  obtain ⟨k, rfl, hk, HK⟩ := hrel
  obtain ⟨hl, hc⟩ := HH.out
  by_cases hlt : k < n
  ·rcases hc with h0 | ⟨a, rfl, _, hc⟩
   ·omega
   have hcell := hc k hlt
   have hd : xs.drop k = xs.getD k 0 :: xs.drop (k + 1) := by
    rw [List.drop_eq_getElem_cons (by omega), List.getD_eq_getElem?_getD, List.getElem?_eq_getElem (by omega)]
    rfl
   have HK2 : Hid ((numB (xs.getD k 0) && allB (xs.drop (k + 1))) = R) := by
    unfold Hid
    rw [← HK.out, hd]
    rfl
   have HN := isNum_any (xs.getD k 0)
   generalize xs.getD k 0 = x at hcell HN HK2
   have hki0 : (0 : Int) ≤ (k : Int) := by omega
   have hki1 : (k : Int) < (n : Int) := by omega
   have hl' : Hid (xs.length = n) := hl
   clear hc hd hl HK HR
   cases hb : numB x with
   | true =>
    have HNN : Hid (∀ w, Calls Tryz.prog 232 #[.int .i64 x] w fun r w' => r = .returned (.bool true) ∧ w' = w) := fun w => by rw [← hb]; exact HN w
    have HK3 : Hid (allB (xs.drop (k + 1)) = R) := by
     have := HK2.out
     rw [hb, Bool.true_and] at this
     exact this
    clear HN hb HK2
    go_wp2_with fail
    refine (HNN.out _).mono ?_
    rintro e w1 ⟨rfl, rfl⟩
    go_wp2
    go_round
    case rel => exact ⟨k + 1, by go_num, by omega, HK3⟩
    case measure => simp [intOf]; omega
   | false =>
    have HNN : Hid (∀ w, Calls Tryz.prog 232 #[.int .i64 x] w fun r w' => r = .returned (.bool false) ∧ w' = w) := fun w => by rw [← hb]; exact HN w
    have HK3 : Hid (R = false) := by
     have := HK2.out
     rw [hb, Bool.false_and] at this
     exact this.symm
    clear HN hb HK2
    go_wp2_with fail
    refine (HNN.out _).mono ?_
    rintro e w1 ⟨rfl, rfl⟩
    go_wp2
    go_ret
    exact ⟨by rw [HK3.out]; rfl, rfl⟩
  ·have HK3 : Hid (R = true) := by
    have := HK.out
    rw [List.drop_eq_nil_of_le (by omega)] at this
    exact this.symm
   clear hc hl
   go_wp2
   go_ret
   exact ⟨by rw [HK3.out]; rfl, rfl⟩
def fitB (k A B : Int) (n : Nat) (xs : List Int) : Bool :=
 if k ≠ 4 ∧ 0 < n then false else if k ≠ 6 ∧ B ≠ 0 then false
 else if k = 2 then isKB A else if k = 8 then (decide (-2147483648 ≤ A) && decide (A ≤ 2147483647)) else if k = 9 then true
 else if k = 3 ∨ k = 4 ∨ k = 5 ∨ k = 6 then (numB A && numB B && allB xs) else A == 0
theorem fit_len (k op A B : Int) (n : Nat) (o : Option Addr) (cap : Nat) (_hk : (k != 4) = true) (_hn : 0 < n) (w : World) : Calls Tryz.prog 220 #[.int .i64 k, .agg #[.int .u8 op, .int .i64 A, .int .i64 B, .slice o n cap]] w fun r w' => r = .returned (.bool false) ∧ Below w.heap.size w w' := by
 go_enter Tryz.func220, Tryz.ntmps220
 go_wp2
 go_ret
 exact ⟨rfl, (Below.refl _ _).alloc (Nat.le_refl _) _⟩
theorem fit_b (k op A B : Int) (o : Option Addr) (cap : Nat) (_hk : (k != 4) = true) (_hk6 : (k != 6) = true) (_hB : (B != 0) = true) (w : World) : Calls Tryz.prog 220 #[.int .i64 k, .agg #[.int .u8 op, .int .i64 A, .int .i64 B, .slice o 0 cap]] w fun r w' => r = .returned (.bool false) ∧ Below w.heap.size w w' := by
 go_enter Tryz.func220, Tryz.ntmps220
 go_wp2
 go_ret
 exact ⟨rfl, (Below.refl _ _).alloc (Nat.le_refl _) _⟩
theorem fit_b4 (op A B : Int) (n : Nat) (o : Option Addr) (cap : Nat) (_hB : (B != 0) = true) (w : World) : Calls Tryz.prog 220 #[.int .i64 4, .agg #[.int .u8 op, .int .i64 A, .int .i64 B, .slice o n cap]] w fun r w' => r = .returned (.bool false) ∧ Below w.heap.size w w' := by
 go_enter Tryz.func220, Tryz.ntmps220
 go_wp2
 go_ret
 exact ⟨rfl, (Below.refl _ _).alloc (Nat.le_refl _) _⟩
theorem fit_2 (op A : Int) (b : Bool) (o : Option Addr) (cap : Nat) (HA : Hid (∀ w, Calls Tryz.prog 231 #[.int .i64 A] w fun r w' => r = .returned (.bool b) ∧ w' = w)) (w : World) : Calls Tryz.prog 220 #[.int .i64 2, .agg #[.int .u8 op, .int .i64 A, .int .i64 0, .slice o 0 cap]] w fun r w' => r = .returned (.bool b) ∧ Below w.heap.size w w' := by
 go_enter Tryz.func220, Tryz.ntmps220
 go_wp2_with fail
 refine (HA.out _).mono ?_
 rintro e w1 ⟨rfl, rfl⟩
 go_wp2
 go_ret
 exact ⟨rfl, (Below.refl _ _).alloc (Nat.le_refl _) _⟩
theorem fit_9 (op A : Int) (o : Option Addr) (cap : Nat) (w : World) : Calls Tryz.prog 220 #[.int .i64 9, .agg #[.int .u8 op, .int .i64 A, .int .i64 0, .slice o 0 cap]] w fun r w' => r = .returned (.bool true) ∧ Below w.heap.size w w' := by
 go_enter Tryz.func220, Tryz.ntmps220
 go_wp2
 go_ret
 exact ⟨rfl, (Below.refl _ _).alloc (Nat.le_refl _) _⟩
theorem fit_8a (op A : Int) (o : Option Addr) (cap : Nat) (_h0 : decide (-2147483648 ≤ A) = true) (w : World) : Calls Tryz.prog 220 #[.int .i64 8, .agg #[.int .u8 op, .int .i64 A, .int .i64 0, .slice o 0 cap]] w fun r w' => r = .returned (.bool (decide (A ≤ 2147483647))) ∧ Below w.heap.size w w' := by
 go_enter Tryz.func220, Tryz.ntmps220
 go_wp2
 go_ret
 exact ⟨rfl, (Below.refl _ _).alloc (Nat.le_refl _) _⟩
theorem fit_8b (op A : Int) (o : Option Addr) (cap : Nat) (_h0 : decide (-2147483648 ≤ A) = false) (w : World) : Calls Tryz.prog 220 #[.int .i64 8, .agg #[.int .u8 op, .int .i64 A, .int .i64 0, .slice o 0 cap]] w fun r w' => r = .returned (.bool false) ∧ Below w.heap.size w w' := by
 go_enter Tryz.func220, Tryz.ntmps220
 go_wp2
 go_ret
 exact ⟨rfl, (Below.refl _ _).alloc (Nat.le_refl _) _⟩
theorem fit_1 (op A : Int) (o : Option Addr) (cap : Nat) (w : World) : Calls Tryz.prog 220 #[.int .i64 1, .agg #[.int .u8 op, .int .i64 A, .int .i64 0, .slice o 0 cap]] w fun r w' => r = .returned (.bool (A == 0)) ∧ Below w.heap.size w w' := by
 go_enter Tryz.func220, Tryz.ntmps220
 go_wp2
 go_ret
 exact ⟨rfl, (Below.refl _ _).alloc (Nat.le_refl _) _⟩
theorem fit_7 (op A : Int) (o : Option Addr) (cap : Nat) (w : World) : Calls Tryz.prog 220 #[.int .i64 7, .agg #[.int .u8 op, .int .i64 A, .int .i64 0, .slice o 0 cap]] w fun r w' => r = .returned (.bool (A == 0)) ∧ Below w.heap.size w w' := by
 go_enter Tryz.func220, Tryz.ntmps220
 go_wp2
 go_ret
 exact ⟨rfl, (Below.refl _ _).alloc (Nat.le_refl _) _⟩
theorem fit_3f (op A : Int) (o : Option Addr) (cap : Nat) (HA : Hid (∀ w, Calls Tryz.prog 232 #[.int .i64 A] w fun r w' => r = .returned (.bool false) ∧ w' = w)) (w : World) : Calls Tryz.prog 220 #[.int .i64 3, .agg #[.int .u8 op, .int .i64 A, .int .i64 0, .slice o 0 cap]] w fun r w' => r = .returned (.bool false) ∧ Below w.heap.size w w' := by
 go_enter Tryz.func220, Tryz.ntmps220
 go_wp2_with fail
 refine (HA.out _).mono ?_
 rintro e w1 ⟨rfl, rfl⟩
 go_wp2
 go_ret
 exact ⟨rfl, (Below.refl _ _).alloc (Nat.le_refl _) _⟩
theorem fit_3g (op A : Int) (o : Option Addr) (cap : Nat) (HA : Hid (∀ w, Calls Tryz.prog 232 #[.int .i64 A] w fun r w' => r = .returned (.bool true) ∧ w' = w)) (HBB : Hid (∀ w, Calls Tryz.prog 232 #[.int .i64 0] w fun r w' => r = .returned (.bool false) ∧ w' = w)) (w : World) : Calls Tryz.prog 220 #[.int .i64 3, .agg #[.int .u8 op, .int .i64 A, .int .i64 0, .slice o 0 cap]] w fun r w' => r = .returned (.bool false) ∧ Below w.heap.size w w' := by
 go_enter Tryz.func220, Tryz.ntmps220
 go_wp2_with fail
 refine (HA.out _).mono ?_
 rintro e w1 ⟨rfl, rfl⟩
 go_wp2_with fail
 refine (HBB.out _).mono ?_
 rintro e w1 ⟨rfl, rfl⟩
 go_wp2
 go_ret
 exact ⟨rfl, (Below.refl _ _).alloc (Nat.le_refl _) _⟩
theorem fit_3t (op A : Int) (bx : Bool) (o : Option Addr) (cap : Nat) (HA : Hid (∀ w, Calls Tryz.prog 232 #[.int .i64 A] w fun r w' => r = .returned (.bool true) ∧ w' = w)) (HBB : Hid (∀ w, Calls Tryz.prog 232 #[.int .i64 0] w fun r w' => r = .returned (.bool true) ∧ w' = w)) (w : World) (HX : Hid (∀ w', Below w.heap.size w w' → Calls Tryz.prog 233 #[.slice o 0 cap] w' fun r w'' => r = .returned (.bool bx) ∧ w'' = w')) : Calls Tryz.prog 220 #[.int .i64 3, .agg #[.int .u8 op, .int .i64 A, .int .i64 0, .slice o 0 cap]] w fun r w' => r = .returned (.bool bx) ∧ Below w.heap.size w w' := by
 go_enter Tryz.func220, Tryz.ntmps220
 go_wp2_with fail
 refine (HA.out _).mono ?_
 rintro e w1 ⟨rfl, rfl⟩
 go_wp2_with fail
 refine (HBB.out _).mono ?_
 rintro e w1 ⟨rfl, rfl⟩
 go_wp2_with fail
 refine (HX.out _ ((Below.refl _ _).alloc (Nat.le_refl _) _)).mono ?_
 rintro e w1 ⟨rfl, rfl⟩
 go_wp2
 go_ret
 exact ⟨rfl, (Below.refl _ _).alloc (Nat.le_refl _) _⟩
theorem fit_5f (op A : Int) (o : Option Addr) (cap : Nat) (HA : Hid (∀ w, Calls Tryz.prog 232 #[.int .i64 A] w fun r w' => r = .returned (.bool false) ∧ w' = w)) (w : World) : Calls Tryz.prog 220 #[.int .i64 5, .agg #[.int .u8 op, .int .i64 A, .int .i64 0, .slice o 0 cap]] w fun r w' => r = .returned (.bool false) ∧ Below w.heap.size w w' := by
 go_enter Tryz.func220, Tryz.ntmps220
 go_wp2_with fail
 refine (HA.out _).mono ?_
 rintro e w1 ⟨rfl, rfl⟩
 go_wp2
 go_ret
 exact ⟨rfl, (Below.refl _ _).alloc (Nat.le_refl _) _⟩
theorem fit_5g (op A : Int) (o : Option Addr) (cap : Nat) (HA : Hid (∀ w, Calls Tryz.prog 232 #[.int .i64 A] w fun r w' => r = .returned (.bool true) ∧ w' = w)) (HBB : Hid (∀ w, Calls Tryz.prog 232 #[.int .i64 0] w fun r w' => r = .returned (.bool false) ∧ w' = w)) (w : World) : Calls Tryz.prog 220 #[.int .i64 5, .agg #[.int .u8 op, .int .i64 A, .int .i64 0, .slice o 0 cap]] w fun r w' => r = .returned (.bool false) ∧ Below w.heap.size w w' := by
 go_enter Tryz.func220, Tryz.ntmps220
 go_wp2_with fail
 refine (HA.out _).mono ?_
 rintro e w1 ⟨rfl, rfl⟩
 go_wp2_with fail
 refine (HBB.out _).mono ?_
 rintro e w1 ⟨rfl, rfl⟩
 go_wp2
 go_ret
 exact ⟨rfl, (Below.refl _ _).alloc (Nat.le_refl _) _⟩
theorem fit_5t (op A : Int) (bx : Bool) (o : Option Addr) (cap : Nat) (HA : Hid (∀ w, Calls Tryz.prog 232 #[.int .i64 A] w fun r w' => r = .returned (.bool true) ∧ w' = w)) (HBB : Hid (∀ w, Calls Tryz.prog 232 #[.int .i64 0] w fun r w' => r = .returned (.bool true) ∧ w' = w)) (w : World) (HX : Hid (∀ w', Below w.heap.size w w' → Calls Tryz.prog 233 #[.slice o 0 cap] w' fun r w'' => r = .returned (.bool bx) ∧ w'' = w')) : Calls Tryz.prog 220 #[.int .i64 5, .agg #[.int .u8 op, .int .i64 A, .int .i64 0, .slice o 0 cap]] w fun r w' => r = .returned (.bool bx) ∧ Below w.heap.size w w' := by
 go_enter Tryz.func220, Tryz.ntmps220
 go_wp2_with fail
 refine (HA.out _).mono ?_
 rintro e w1 ⟨rfl, rfl⟩
 go_wp2_with fail
 refine (HBB.out _).mono ?_
 rintro e w1 ⟨rfl, rfl⟩
 go_wp2_with fail
 refine (HX.out _ ((Below.refl _ _).alloc (Nat.le_refl _) _)).mono ?_
 rintro e w1 ⟨rfl, rfl⟩
 go_wp2
 go_ret
 exact ⟨rfl, (Below.refl _ _).alloc (Nat.le_refl _) _⟩
theorem fit_6f (op A B : Int) (o : Option Addr) (cap : Nat) (HA : Hid (∀ w, Calls Tryz.prog 232 #[.int .i64 A] w fun r w' => r = .returned (.bool false) ∧ w' = w)) (w : World) : Calls Tryz.prog 220 #[.int .i64 6, .agg #[.int .u8 op, .int .i64 A, .int .i64 B, .slice o 0 cap]] w fun r w' => r = .returned (.bool false) ∧ Below w.heap.size w w' := by
 go_enter Tryz.func220, Tryz.ntmps220
 go_wp2_with fail
 refine (HA.out _).mono ?_
 rintro e w1 ⟨rfl, rfl⟩
 go_wp2
 go_ret
 exact ⟨rfl, (Below.refl _ _).alloc (Nat.le_refl _) _⟩
theorem fit_6g (op A B : Int) (o : Option Addr) (cap : Nat) (HA : Hid (∀ w, Calls Tryz.prog 232 #[.int .i64 A] w fun r w' => r = .returned (.bool true) ∧ w' = w)) (HBB : Hid (∀ w, Calls Tryz.prog 232 #[.int .i64 B] w fun r w' => r = .returned (.bool false) ∧ w' = w)) (w : World) : Calls Tryz.prog 220 #[.int .i64 6, .agg #[.int .u8 op, .int .i64 A, .int .i64 B, .slice o 0 cap]] w fun r w' => r = .returned (.bool false) ∧ Below w.heap.size w w' := by
 go_enter Tryz.func220, Tryz.ntmps220
 go_wp2_with fail
 refine (HA.out _).mono ?_
 rintro e w1 ⟨rfl, rfl⟩
 go_wp2_with fail
 refine (HBB.out _).mono ?_
 rintro e w1 ⟨rfl, rfl⟩
 go_wp2
 go_ret
 exact ⟨rfl, (Below.refl _ _).alloc (Nat.le_refl _) _⟩
theorem fit_6t (op A B : Int) (bx : Bool) (o : Option Addr) (cap : Nat) (HA : Hid (∀ w, Calls Tryz.prog 232 #[.int .i64 A] w fun r w' => r = .returned (.bool true) ∧ w' = w)) (HBB : Hid (∀ w, Calls Tryz.prog 232 #[.int .i64 B] w fun r w' => r = .returned (.bool true) ∧ w' = w)) (w : World) (HX : Hid (∀ w', Below w.heap.size w w' → Calls Tryz.prog 233 #[.slice o 0 cap] w' fun r w'' => r = .returned (.bool bx) ∧ w'' = w')) : Calls Tryz.prog 220 #[.int .i64 6, .agg #[.int .u8 op, .int .i64 A, .int .i64 B, .slice o 0 cap]] w fun r w' => r = .returned (.bool bx) ∧ Below w.heap.size w w' := by
 go_enter Tryz.func220, Tryz.ntmps220
 go_wp2_with fail
 refine (HA.out _).mono ?_
 rintro e w1 ⟨rfl, rfl⟩
 go_wp2_with fail
 refine (HBB.out _).mono ?_
 rintro e w1 ⟨rfl, rfl⟩
 go_wp2_with fail
 refine (HX.out _ ((Below.refl _ _).alloc (Nat.le_refl _) _)).mono ?_
 rintro e w1 ⟨rfl, rfl⟩
 go_wp2
 go_ret
 exact ⟨rfl, (Below.refl _ _).alloc (Nat.le_refl _) _⟩
theorem fit_4f (op A : Int) (n : Nat) (o : Option Addr) (cap : Nat) (HA : Hid (∀ w, Calls Tryz.prog 232 #[.int .i64 A] w fun r w' => r = .returned (.bool false) ∧ w' = w)) (w : World) : Calls Tryz.prog 220 #[.int .i64 4, .agg #[.int .u8 op, .int .i64 A, .int .i64 0, .slice o n cap]] w fun r w' => r = .returned (.bool false) ∧ Below w.heap.size w w' := by
 go_enter Tryz.func220, Tryz.ntmps220
 go_wp2_with fail
 refine (HA.out _).mono ?_
 rintro e w1 ⟨rfl, rfl⟩
 go_wp2
 go_ret
 exact ⟨rfl, (Below.refl _ _).alloc (Nat.le_refl _) _⟩
theorem fit_4g (op A : Int) (n : Nat) (o : Option Addr) (cap : Nat) (HA : Hid (∀ w, Calls Tryz.prog 232 #[.int .i64 A] w fun r w' => r = .returned (.bool true) ∧ w' = w)) (HBB : Hid (∀ w, Calls Tryz.prog 232 #[.int .i64 0] w fun r w' => r = .returned (.bool false) ∧ w' = w)) (w : World) : Calls Tryz.prog 220 #[.int .i64 4, .agg #[.int .u8 op, .int .i64 A, .int .i64 0, .slice o n cap]] w fun r w' => r = .returned (.bool false) ∧ Below w.heap.size w w' := by
 go_enter Tryz.func220, Tryz.ntmps220
 go_wp2_with fail
 refine (HA.out _).mono ?_
 rintro e w1 ⟨rfl, rfl⟩
 go_wp2_with fail
 refine (HBB.out _).mono ?_
 rintro e w1 ⟨rfl, rfl⟩
 go_wp2
 go_ret
 exact ⟨rfl, (Below.refl _ _).alloc (Nat.le_refl _) _⟩
theorem fit_4t (op A : Int) (n : Nat) (bx : Bool) (o : Option Addr) (cap : Nat) (HA : Hid (∀ w, Calls Tryz.prog 232 #[.int .i64 A] w fun r w' => r = .returned (.bool true) ∧ w' = w)) (HBB : Hid (∀ w, Calls Tryz.prog 232 #[.int .i64 0] w fun r w' => r = .returned (.bool true) ∧ w' = w)) (w : World) (HX : Hid (∀ w', Below w.heap.size w w' → Calls Tryz.prog 233 #[.slice o n cap] w' fun r w'' => r = .returned (.bool bx) ∧ w'' = w')) : Calls Tryz.prog 220 #[.int .i64 4, .agg #[.int .u8 op, .int .i64 A, .int .i64 0, .slice o n cap]] w fun r w' => r = .returned (.bool bx) ∧ Below w.heap.size w w' := by
 go_enter Tryz.func220, Tryz.ntmps220
 go_wp2_with fail
 refine (HA.out _).mono ?_
 rintro e w1 ⟨rfl, rfl⟩
 go_wp2_with fail
 refine (HBB.out _).mono ?_
 rintro e w1 ⟨rfl, rfl⟩
 go_wp2_with fail
 refine (HX.out _ ((Below.refl _ _).alloc (Nat.le_refl _) _)).mono ?_
 rintro e w1 ⟨rfl, rfl⟩
 go_wp2
 go_ret
 exact ⟨rfl, (Below.refl _ _).alloc (Nat.le_refl _) _⟩
theorem fits_any (k op A B : Int) (o : Option Addr) (n cap : Nat) (xs : List Int) (hk1 : 1 ≤ k) (hk9 : k ≤ 9) (hcap : n ≤ cap) (hn : n ≤ 16) (w : World) (h : LJ w o n xs) : Calls Tryz.prog 220 #[.int .i64 k, .agg #[.int .u8 op, .int .i64 A, .int .i64 B, .slice o n cap]] w fun r w' => r = .returned (.bool (fitB k A B n xs)) ∧ Below w.heap.size w w' := by
 have bne_of : ∀ x y : Int, x ≠ y → (x != y) = true := fun x y hxy => by rw [bne, beq_eq_false_iff_ne.2 hxy]; rfl
 unfold fitB
 by_cases h1 : k ≠ 4 ∧ 0 < n
 ·rw [if_pos h1]
  exact fit_len k op A B n o cap (bne_of _ _ h1.1) h1.2 w
 rw [if_neg h1]
 by_cases h2 : k ≠ 6 ∧ B ≠ 0
 ·rw [if_pos h2]
  by_cases h4 : k = 4
  ·subst h4
   exact fit_b4 op A B n o cap (bne_of _ _ h2.2) w
  ·have hn0 : n = 0 := by omega
   subst hn0
   exact fit_b k op A B o cap (bne_of _ _ h4) (bne_of _ _ h2.1) (bne_of _ _ h2.2) w
 rw [if_neg h2]
 have hxs : ∀ w', Below w.heap.size w w' → Calls Tryz.prog 233 #[.slice o n cap] w' fun r w'' => r = .returned (.bool (allB xs)) ∧ w'' = w' := fun w' hb => nums_any o xs n cap hcap hn w' (h.below hb)
 have hA := isNum_any A
 have hB := isNum_any B
 rcases (show k = 1 ∨ k = 2 ∨ k = 3 ∨ k = 4 ∨ k = 5 ∨ k = 6 ∨ k = 7 ∨ k = 8 ∨ k = 9 by omega) with rfl | rfl | rfl | rfl | rfl | rfl | rfl | rfl | rfl
 ·skip
  have hn0 : n = 0 := by omega
  subst hn0
  have hB0 : B = 0 := by omega
  subst hB0
  exact fit_1 op A o cap w
 ·skip
  have hn0 : n = 0 := by omega
  subst hn0
  have hB0 : B = 0 := by omega
  subst hB0
  exact fit_2 op A (isKB A) o cap (fun w => isKB_any A w) w
 ·skip
  have hn0 : n = 0 := by omega
  subst hn0
  have hB0 : B = 0 := by omega
  subst hB0
  rw [if_neg (by decide), if_neg (by decide), if_neg (by decide), if_pos (by decide)]
  cases hbA : numB A with
  | false =>
   rw [Bool.false_and, Bool.false_and]
   exact fit_3f op A o cap (fun w => by rw [← hbA]; exact hA w) w
  | true =>
   cases hbB : numB 0 with
   | false =>
    rw [Bool.true_and, Bool.false_and]
    exact fit_3g op A o cap (fun w => by rw [← hbA]; exact hA w) (fun w => by rw [← hbB]; exact hB w) w
   | true =>
    rw [Bool.true_and, Bool.true_and]
    exact fit_3t op A (allB xs) o cap (fun w => by rw [← hbA]; exact hA w) (fun w => by rw [← hbB]; exact hB w) w hxs
 ·skip
  have hB0 : B = 0 := by omega
  subst hB0
  rw [if_neg (by decide), if_neg (by decide), if_neg (by decide), if_pos (by decide)]
  cases hbA : numB A with
  | false =>
   rw [Bool.false_and, Bool.false_and]
   exact fit_4f op A n o cap (fun w => by rw [← hbA]; exact hA w) w
  | true =>
   cases hbB : numB 0 with
   | false =>
    rw [Bool.true_and, Bool.false_and]
    exact fit_4g op A n o cap (fun w => by rw [← hbA]; exact hA w) (fun w => by rw [← hbB]; exact hB w) w
   | true =>
    rw [Bool.true_and, Bool.true_and]
    exact fit_4t op A n (allB xs) o cap (fun w => by rw [← hbA]; exact hA w) (fun w => by rw [← hbB]; exact hB w) w hxs
 ·skip
  have hn0 : n = 0 := by omega
  subst hn0
  have hB0 : B = 0 := by omega
  subst hB0
  rw [if_neg (by decide), if_neg (by decide), if_neg (by decide), if_pos (by decide)]
  cases hbA : numB A with
  | false =>
   rw [Bool.false_and, Bool.false_and]
   exact fit_5f op A o cap (fun w => by rw [← hbA]; exact hA w) w
  | true =>
   cases hbB : numB 0 with
   | false =>
    rw [Bool.true_and, Bool.false_and]
    exact fit_5g op A o cap (fun w => by rw [← hbA]; exact hA w) (fun w => by rw [← hbB]; exact hB w) w
   | true =>
    rw [Bool.true_and, Bool.true_and]
    exact fit_5t op A (allB xs) o cap (fun w => by rw [← hbA]; exact hA w) (fun w => by rw [← hbB]; exact hB w) w hxs
 ·skip
  have hn0 : n = 0 := by omega
  subst hn0
  rw [if_neg (by decide), if_neg (by decide), if_neg (by decide), if_pos (by decide)]
  cases hbA : numB A with
  | false =>
   rw [Bool.false_and, Bool.false_and]
   exact fit_6f op A B o cap (fun w => by rw [← hbA]; exact hA w) w
  | true =>
   cases hbB : numB B with
   | false =>
    rw [Bool.true_and, Bool.false_and]
    exact fit_6g op A B o cap (fun w => by rw [← hbA]; exact hA w) (fun w => by rw [← hbB]; exact hB w) w
   | true =>
    rw [Bool.true_and, Bool.true_and]
    exact fit_6t op A B (allB xs) o cap (fun w => by rw [← hbA]; exact hA w) (fun w => by rw [← hbB]; exact hB w) w hxs
 ·skip
  have hn0 : n = 0 := by omega
  subst hn0
  have hB0 : B = 0 := by omega
  subst hB0
  exact fit_7 op A o cap w
 ·skip
  have hn0 : n = 0 := by omega
  subst hn0
  have hB0 : B = 0 := by omega
  subst hB0
  rw [if_neg (by decide), if_pos rfl]
  cases h8 : decide (-2147483648 ≤ A) with
  | true => exact fit_8a op A o cap h8 w
  | false => exact fit_8b op A o cap h8 w
 ·skip
  have hn0 : n = 0 := by omega
  subst hn0
  have hB0 : B = 0 := by omega
  subst hB0
  exact fit_9 op A o cap w
end Go.Proofs.YtakpkdckajjooaaGreatDoor
namespace Go.Proofs.YtakpkdckajjooaaGreatDoor
open Go.RowKit
theorem vtext_1 (op A B : Int) (o : Option Addr) (n cap : Nat) (w : World) (HB : Hid (∀ w', Below w.heap.size w w' → Calls Tryz.prog 219 #[.int .u8 op] w' fun r w'' => r = .returned (.int .i64 1) ∧ Below w'.heap.size w' w'')) :
  Calls Tryz.prog 208 #[.agg #[.int .u8 op, .int .i64 A, .int .i64 B, .slice o n cap]] w fun r w' => r = .returned (.string ⟨#[]⟩) ∧ Below w.heap.size w w' := by
 go_enter Tryz.func208, Tryz.ntmps208
 go_wp2_with fail
 refine (HB.out _ ((Below.refl _ _).alloc (Nat.le_refl _) _)).mono ?_
 rintro e w1 ⟨rfl, b1⟩
 have xX : XS w1 w.heap.size (.int .u8 op) (.int .i64 A) (.int .i64 B) (.slice o n cap) := by
  unfold XS
  rw [b1.block w.heap.size (by simp)]
  exact new_block _ _
 obtain ⟨x0, x1, x2, x3⟩ := xX.cell
 have HB1 : Hid (Below w.heap.size w w1) := ((Below.refl _ _).alloc (Nat.le_refl _) _).trans (b1.mono (by simp))
 have hXs := xX.lt
 clear b1
 go_wp2
 go_ret
 exact ⟨rfl, HB1.out⟩
theorem vtext_2 (op A B : Int) (o : Option Addr) (n cap : Nat) (_a0 : 0 ≤ A) (_a1 : A ≤ 255) (tA : ByteArray) (HA : Hid (∀ w, Calls Tryz.prog 207 #[.int .u8 A] w fun r w' => r = .returned (.string tA) ∧ Below w.heap.size w w')) (w : World) (HB : Hid (∀ w', Below w.heap.size w w' → Calls Tryz.prog 219 #[.int .u8 op] w' fun r w'' => r = .returned (.int .i64 2) ∧ Below w'.heap.size w' w'')) :
  Calls Tryz.prog 208 #[.agg #[.int .u8 op, .int .i64 A, .int .i64 B, .slice o n cap]] w fun r w' => r = .returned (.string tA) ∧ Below w.heap.size w w' := by
 go_enter Tryz.func208, Tryz.ntmps208
 go_wp2_with fail
 refine (HB.out _ ((Below.refl _ _).alloc (Nat.le_refl _) _)).mono ?_
 rintro e w1 ⟨rfl, b1⟩
 have xX : XS w1 w.heap.size (.int .u8 op) (.int .i64 A) (.int .i64 B) (.slice o n cap) := by
  unfold XS
  rw [b1.block w.heap.size (by simp)]
  exact new_block _ _
 obtain ⟨x0, x1, x2, x3⟩ := xX.cell
 have HB1 : Hid (Below w.heap.size w w1) := ((Below.refl _ _).alloc (Nat.le_refl _) _).trans (b1.mono (by simp))
 have hXs := xX.lt
 clear b1
 go_wp2_with fail
 refine (HA.out _).mono ?_
 rintro e w2 ⟨rfl, b2⟩
 go_wp2
 go_ret
 exact ⟨rfl, HB1.out.trans (b2.mono HB1.out.size)⟩
theorem vtext_3 (op A B : Int) (o : Option Addr) (n cap : Nat) (tA : ByteArray) (HA : Hid (∀ w, Calls Tryz.prog 225 #[.int .i64 A] w fun r w' => r = .returned (.string tA) ∧ Below w.heap.size w w')) (w : World) (HB : Hid (∀ w', Below w.heap.size w w' → Calls Tryz.prog 219 #[.int .u8 op] w' fun r w'' => r = .returned (.int .i64 3) ∧ Below w'.heap.size w' w'')) :
  Calls Tryz.prog 208 #[.agg #[.int .u8 op, .int .i64 A, .int .i64 B, .slice o n cap]] w fun r w' => r = .returned (.string tA) ∧ Below w.heap.size w w' := by
 go_enter Tryz.func208, Tryz.ntmps208
 go_wp2_with fail
 refine (HB.out _ ((Below.refl _ _).alloc (Nat.le_refl _) _)).mono ?_
 rintro e w1 ⟨rfl, b1⟩
 have xX : XS w1 w.heap.size (.int .u8 op) (.int .i64 A) (.int .i64 B) (.slice o n cap) := by
  unfold XS
  rw [b1.block w.heap.size (by simp)]
  exact new_block _ _
 obtain ⟨x0, x1, x2, x3⟩ := xX.cell
 have HB1 : Hid (Below w.heap.size w w1) := ((Below.refl _ _).alloc (Nat.le_refl _) _).trans (b1.mono (by simp))
 have hXs := xX.lt
 clear b1
 go_wp2_with fail
 refine (HA.out _).mono ?_
 rintro e w2 ⟨rfl, b2⟩
 go_wp2
 go_ret
 exact ⟨rfl, HB1.out.trans (b2.mono HB1.out.size)⟩
theorem vtext_5 (op A B : Int) (o : Option Addr) (n cap : Nat) (tA : ByteArray) (HA : Hid (∀ w, Calls Tryz.prog 225 #[.int .i64 A] w fun r w' => r = .returned (.string tA) ∧ Below w.heap.size w w')) (_hz : tA.size + 1 ≤ 9223372036854775807) (w : World) (HB : Hid (∀ w', Below w.heap.size w w' → Calls Tryz.prog 219 #[.int .u8 op] w' fun r w'' => r = .returned (.int .i64 5) ∧ Below w'.heap.size w' w'')) :
  Calls Tryz.prog 208 #[.agg #[.int .u8 op, .int .i64 A, .int .i64 B, .slice o n cap]] w fun r w' => r = .returned (.string (tA ++ ⟨#[0]⟩)) ∧ Below w.heap.size w w' := by
 go_enter Tryz.func208, Tryz.ntmps208
 go_wp2_with fail
 refine (HB.out _ ((Below.refl _ _).alloc (Nat.le_refl _) _)).mono ?_
 rintro e w1 ⟨rfl, b1⟩
 have xX : XS w1 w.heap.size (.int .u8 op) (.int .i64 A) (.int .i64 B) (.slice o n cap) := by
  unfold XS
  rw [b1.block w.heap.size (by simp)]
  exact new_block _ _
 obtain ⟨x0, x1, x2, x3⟩ := xX.cell
 have HB1 : Hid (Below w.heap.size w w1) := ((Below.refl _ _).alloc (Nat.le_refl _) _).trans (b1.mono (by simp))
 have hXs := xX.lt
 clear b1
 go_wp2_with fail
 refine (HA.out _).mono ?_
 rintro e w2 ⟨rfl, b2⟩
 go_wp2
 go_ret
 exact ⟨rfl, HB1.out.trans (b2.mono HB1.out.size)⟩
theorem vtext_6 (op A B : Int) (o : Option Addr) (n cap : Nat) (tA : ByteArray) (HA : Hid (∀ w, Calls Tryz.prog 225 #[.int .i64 A] w fun r w' => r = .returned (.string tA) ∧ Below w.heap.size w w')) (tB : ByteArray) (HBB : Hid (∀ w, Calls Tryz.prog 225 #[.int .i64 B] w fun r w' => r = .returned (.string tB) ∧ Below w.heap.size w w')) (_hz : tA.size + tB.size ≤ 9223372036854775807) (w : World) (HB : Hid (∀ w', Below w.heap.size w w' → Calls Tryz.prog 219 #[.int .u8 op] w' fun r w'' => r = .returned (.int .i64 6) ∧ Below w'.heap.size w' w'')) :
  Calls Tryz.prog 208 #[.agg #[.int .u8 op, .int .i64 A, .int .i64 B, .slice o n cap]] w fun r w' => r = .returned (.string (tA ++ tB)) ∧ Below w.heap.size w w' := by
 go_enter Tryz.func208, Tryz.ntmps208
 go_wp2_with fail
 refine (HB.out _ ((Below.refl _ _).alloc (Nat.le_refl _) _)).mono ?_
 rintro e w1 ⟨rfl, b1⟩
 have xX : XS w1 w.heap.size (.int .u8 op) (.int .i64 A) (.int .i64 B) (.slice o n cap) := by
  unfold XS
  rw [b1.block w.heap.size (by simp)]
  exact new_block _ _
 obtain ⟨x0, x1, x2, x3⟩ := xX.cell
 have HB1 : Hid (Below w.heap.size w w1) := ((Below.refl _ _).alloc (Nat.le_refl _) _).trans (b1.mono (by simp))
 have hXs := xX.lt
 clear b1
 go_wp2_with fail
 go_region_with (first
  | (go_at_call_of 225 (Value.int .i64 A); refine (HA.out _).mono ?_; rintro e w2 ⟨rfl, b2⟩; have xX2 := XS.keep xX b2; obtain ⟨z0, z1, z2, z3⟩ := xX2.cell)
  | (go_at_call_of 225 (Value.int .i64 B); refine (HBB.out _).mono ?_; rintro e w3 ⟨rfl, b3⟩))
 all_goals (go_wp2; go_ret; exact ⟨rfl, (HB1.out.drew.trans (b2.mono HB1.out.size)).trans (b3.mono (Nat.le_trans HB1.out.size b2.size))⟩)
theorem vtext_7 (op A B : Int) (o : Option Addr) (n cap : Nat) (w : World) (HB : Hid (∀ w', Below w.heap.size w w' → Calls Tryz.prog 219 #[.int .u8 op] w' fun r w'' => r = .returned (.int .i64 7) ∧ Below w'.heap.size w' w'')) :
  Calls Tryz.prog 208 #[.agg #[.int .u8 op, .int .i64 A, .int .i64 B, .slice o n cap]] w fun r w' => r = .returned (.string ⟨#[0]⟩) ∧ Below w.heap.size w w' := by
 go_enter Tryz.func208, Tryz.ntmps208
 go_wp2_with fail
 refine (HB.out _ ((Below.refl _ _).alloc (Nat.le_refl _) _)).mono ?_
 rintro e w1 ⟨rfl, b1⟩
 have xX : XS w1 w.heap.size (.int .u8 op) (.int .i64 A) (.int .i64 B) (.slice o n cap) := by
  unfold XS
  rw [b1.block w.heap.size (by simp)]
  exact new_block _ _
 obtain ⟨x0, x1, x2, x3⟩ := xX.cell
 have HB1 : Hid (Below w.heap.size w w1) := ((Below.refl _ _).alloc (Nat.le_refl _) _).trans (b1.mono (by simp))
 have hXs := xX.lt
 clear b1
 go_wp2
 go_ret
 exact ⟨rfl, HB1.out⟩
theorem vtext_8 (op A B : Int) (o : Option Addr) (n cap : Nat) (tA : ByteArray) (HA : Hid (∀ w, Calls Tryz.prog 130 #[.int .i64 A] w fun r w' => r = .returned (.string tA) ∧ Below w.heap.size w w')) (w : World) (HB : Hid (∀ w', Below w.heap.size w w' → Calls Tryz.prog 219 #[.int .u8 op] w' fun r w'' => r = .returned (.int .i64 8) ∧ Below w'.heap.size w' w'')) :
  Calls Tryz.prog 208 #[.agg #[.int .u8 op, .int .i64 A, .int .i64 B, .slice o n cap]] w fun r w' => r = .returned (.string tA) ∧ Below w.heap.size w w' := by
 go_enter Tryz.func208, Tryz.ntmps208
 go_wp2_with fail
 refine (HB.out _ ((Below.refl _ _).alloc (Nat.le_refl _) _)).mono ?_
 rintro e w1 ⟨rfl, b1⟩
 have xX : XS w1 w.heap.size (.int .u8 op) (.int .i64 A) (.int .i64 B) (.slice o n cap) := by
  unfold XS
  rw [b1.block w.heap.size (by simp)]
  exact new_block _ _
 obtain ⟨x0, x1, x2, x3⟩ := xX.cell
 have HB1 : Hid (Below w.heap.size w w1) := ((Below.refl _ _).alloc (Nat.le_refl _) _).trans (b1.mono (by simp))
 have hXs := xX.lt
 clear b1
 go_wp2_with fail
 refine (HA.out _).mono ?_
 rintro e w2 ⟨rfl, b2⟩
 go_wp2
 go_ret
 exact ⟨rfl, HB1.out.trans (b2.mono HB1.out.size)⟩
theorem vtext_9 (op A B : Int) (o : Option Addr) (n cap : Nat) (tA : ByteArray) (HA : Hid (∀ w, Calls Tryz.prog 130 #[.int .i64 A] w fun r w' => r = .returned (.string tA) ∧ Below w.heap.size w w')) (w : World) (HB : Hid (∀ w', Below w.heap.size w w' → Calls Tryz.prog 219 #[.int .u8 op] w' fun r w'' => r = .returned (.int .i64 9) ∧ Below w'.heap.size w' w'')) :
  Calls Tryz.prog 208 #[.agg #[.int .u8 op, .int .i64 A, .int .i64 B, .slice o n cap]] w fun r w' => r = .returned (.string tA) ∧ Below w.heap.size w w' := by
 go_enter Tryz.func208, Tryz.ntmps208
 go_wp2_with fail
 refine (HB.out _ ((Below.refl _ _).alloc (Nat.le_refl _) _)).mono ?_
 rintro e w1 ⟨rfl, b1⟩
 have xX : XS w1 w.heap.size (.int .u8 op) (.int .i64 A) (.int .i64 B) (.slice o n cap) := by
  unfold XS
  rw [b1.block w.heap.size (by simp)]
  exact new_block _ _
 obtain ⟨x0, x1, x2, x3⟩ := xX.cell
 have HB1 : Hid (Below w.heap.size w w1) := ((Below.refl _ _).alloc (Nat.le_refl _) _).trans (b1.mono (by simp))
 have hXs := xX.lt
 clear b1
 go_wp2_with fail
 refine (HA.out _).mono ?_
 rintro e w2 ⟨rfl, b2⟩
 go_wp2
 go_ret
 exact ⟨rfl, HB1.out.trans (b2.mono HB1.out.size)⟩
theorem vtext_4 (op A : Int) (o : Option Addr) (xs : List Int) (n cap : Nat) (_hcap : n ≤ cap) (hl : xs.length = n) (hn : n ≤ 16) (hx : ∀ x ∈ xs, isNum x) (hA : isNum A) (w : World) (h : LJ w o n xs) (HB : Hid (∀ w', Below w.heap.size w w' → Calls Tryz.prog 219 #[.int .u8 op] w' fun r w'' => r = .returned (.int .i64 4) ∧ Below w'.heap.size w' w'')) :
  Calls Tryz.prog 208 #[.agg #[.int .u8 op, .int .i64 A, .int .i64 0, .slice o n cap]] w fun r w' => r = .returned (.string (catK (strOfNums (uB n)) xs n ++ strOfNums (uB A.toNat))) ∧ Below w.heap.size w w' := by
 have HL : Hid (xs.length = n) := hl
 have HX : Hid (∀ x ∈ xs, isNum x) := hx
 have HH : Hid (LJ w o n xs) := h
 have hcs : ∀ k, k ≤ n → (catK (strOfNums (uB n)) xs k).size ≤ 170 := by
  intro k hk
  have h1 := catK_size (strOfNums (uB n)) xs hx k (by omega)
  have h2 := uB_len64 n (by omega)
  rw [strOfNums_size] at h1
  omega
 have HCS : Hid _ := hcs
 have hAs : (strOfNums (uB A.toNat)).size ≤ 10 := by rw [strOfNums_size]; exact uB_num A hA
 have HT0 : Hid (∀ w, Calls Tryz.prog 225 #[.int .i64 (n : Int)] w fun e w' => e = .returned (.string (strOfNums (uB n))) ∧ Below w.heap.size w w') := fun w => by
  have := numText_any (n : Int) ⟨by omega, by omega⟩ w
  rw [Int.toNat_natCast] at this
  exact this
 have HTA : Hid (∀ w, Calls Tryz.prog 225 #[.int .i64 A] w fun e w' => e = .returned (.string (strOfNums (uB A.toNat))) ∧ Below w.heap.size w w') := fun w => numText_any A hA w
 clear hl hx h hcs hA
 obtain ⟨T0, hT0⟩ : ∃ T, strOfNums (uB n) = T := ⟨_, rfl⟩
 obtain ⟨TA, hTA⟩ : ∃ T, strOfNums (uB A.toNat) = T := ⟨_, rfl⟩
 rw [hT0] at HT0 HCS ⊢
 rw [hTA] at HTA hAs ⊢
 clear hT0 hTA
 go_enter Tryz.func208, Tryz.ntmps208
 go_wp2_with fail
 refine (HB.out _ ((Below.refl _ _).alloc (Nat.le_refl _) _)).mono ?_
 rintro e w1 ⟨rfl, b1⟩
 have xX : XS w1 w.heap.size (.int .u8 op) (.int .i64 A) (.int .i64 0) (.slice o n cap) := by
  unfold XS
  rw [b1.block w.heap.size (by simp)]
  exact new_block _ _
 obtain ⟨x0, x1, x2, x3⟩ := xX.cell
 have HB1 : Hid (Below w.heap.size w w1) := ((Below.refl _ _).alloc (Nat.le_refl _) _).trans (b1.mono (by simp))
 have hXs := xX.lt
 clear b1
 have HXX : Hid (XS w1 w.heap.size (.int .u8 op) (.int .i64 A) (.int .i64 0) (.slice o n cap)) := xX
 clear xX
 go_wp2_with fail
 refine (HT0.out _).mono ?_
 rintro e w2 ⟨rfl, b2⟩
 have xX2 := XS.below HXX.out b2
 obtain ⟨z0, z1, z2, z3⟩ := xX2.cell
 have HXX2 : Hid (type_of% xX2) := xX2
 have HB2 : Hid (Below w.heap.size w w2) := HB1.out.trans (b2.mono HB1.out.size)
 clear xX2 b2 HXX HB1 x0 x1 x2 x3 hXs
 go_wp2
 go_loopw [3, 29] (fun t i wr => ∃ k : Nat, i = .int .i64 k ∧ k ≤ n ∧ t = .string (catK T0 xs k) ∧ Hid (Below w.heap.size w wr) ∧ Hid (XS wr w.heap.size (.int .u8 op) (.int .i64 A) (.int .i64 0) (.slice o n cap))) (fun _ i _ => n - (intOf i).toNat)
 case atStart => exact ⟨0, rfl, by omega, rfl, HB2, HXX2⟩
 case round =>
  obtain ⟨k, rfl, hk, rfl, HBk, HXk⟩ := hrel
  clear z0 z1 z2 z3 HXX2 HB2
  have hck := HCS.out k hk
  by_cases hlt : k < n
  ·rcases (HH.out.below HBk.out).2 with h0 | ⟨g, rfl, _, hc⟩
   ·omega
   have hcell := hc k hlt
   have hmem : xs.getD k 0 ∈ xs := by
    rw [List.getD_eq_getElem?_getD, List.getElem?_eq_getElem (by rw [HL.out]; exact hlt)]
    exact List.getElem_mem _
   have HN : Hid (∀ w, Calls Tryz.prog 225 #[.int .i64 (xs.getD k 0)] w fun e w' => e = .returned (.string (strOfNums (uB (xs.getD k 0).toNat))) ∧ Below w.heap.size w w') := fun w => numText_any (xs.getD k 0) (HX.out _ hmem) w
   have hsz : (strOfNums (uB (xs.getD k 0).toNat)).size ≤ 10 := by rw [strOfNums_size]; exact uB_num _ (HX.out _ hmem)
   have HCK : Hid (catK T0 xs (k + 1) = catK T0 xs k ++ strOfNums (uB (xs.getD k 0).toNat)) := rfl
   generalize xs.getD k 0 = x at hcell HN hsz HCK
   generalize strOfNums (uB x.toNat) = tx at HN hsz HCK
   generalize catK T0 xs k = tk at hck HCK ⊢
   have hadd : tk.size + tx.size ≤ 9223372036854775807 := by omega
   clear hc hmem
   have hki0 : (0 : Int) ≤ (k : Int) := by omega
   have hki1 : (k : Int) < (n : Int) := by omega
   go_wp2_with fail
   refine (HN.out _).mono ?_
   rintro e w3 ⟨rfl, b3⟩
   have HB3 : Hid (Below w.heap.size w w3) := HBk.out.trans (b3.mono HBk.out.size)
   have HX3 : Hid (type_of% (XS.below HXk.out b3)) := XS.below HXk.out b3
   clear b3
   go_wp2
   all_goals first
    | (exfalso; omega)
    | skip
   go_roundw
   case rel => exact ⟨k + 1, by go_num, by omega, by rw [HCK.out], HB3, HX3⟩
   case measure => simp [intOf]; omega
  ·have hkn : k = n := by omega
   subst hkn
   have hadd : (catK T0 xs k).size + TA.size ≤ 9223372036854775807 := by omega
   obtain ⟨tk, htk⟩ : ∃ t, catK T0 xs k = t := ⟨_, rfl⟩
   have HTK : Hid (catK T0 xs k = tk) := htk
   rw [htk] at hadd hck ⊢
   clear htk
   obtain ⟨z0, z1, z2, z3⟩ := XS.cell HXk.out
   go_wp2_with fail
   refine (HTA.out _).mono ?_
   rintro e w3 ⟨rfl, b3⟩
   go_wp2
   all_goals first
    | (exfalso; omega)
    | skip
   go_ret
   exact ⟨by rw [HTK.out]; rfl, HBk.out.trans (b3.mono HBk.out.size)⟩
theorem vwrite_core (op A B : Int) (o : Option Addr) (n cap N : Nat) (L : List Int) (_hN : N ≤ 1000) (w : World)
  (HC : Hid (∀ w', Below w.heap.size w w' → Calls Tryz.prog 197 #[.agg #[.int .u8 op, .int .i64 A, .int .i64 B, .slice o n cap]] w' fun r w'' => r = .returned (.int .i64 0) ∧ Below w'.heap.size w' w''))
  (HT : Hid (∀ w', Below w.heap.size w w' → Calls Tryz.prog 208 #[.agg #[.int .u8 op, .int .i64 A, .int .i64 B, .slice o n cap]] w' fun r w'' => ∃ t, r = .returned (.string t) ∧ (nums t = L ∧ t.size = N) ∧ Below w'.heap.size w' w'')) :
  Calls Tryz.prog 179 #[.agg #[.int .u8 op, .int .i64 A, .int .i64 B, .slice o n cap]] w fun r w' => ∃ t, r = .returned (.tuple #[.string (strOfNums [op] ++ t), .int .i64 0]) ∧ nums t = L ∧ Below w.heap.size w w' := by
 have hso : (strOfNums [op]).size = 1 := rfl
 have HO : Hid (∀ w, Calls Tryz.prog 207 #[.int .u8 op] w fun e w' => e = .returned (.string (strOfNums [op])) ∧ Below w.heap.size w w') := fun w => oneByte_any op w
 generalize strOfNums [op] = T0 at hso HO ⊢
 go_enter Tryz.func179, Tryz.ntmps179
 go_wp2_with fail
 refine (HC.out _ ((Below.refl _ _).alloc (Nat.le_refl _) _)).mono ?_
 rintro e w1 ⟨rfl, b1⟩
 have xX : XS w1 w.heap.size (.int .u8 op) (.int .i64 A) (.int .i64 B) (.slice o n cap) := by
  unfold XS
  rw [b1.block w.heap.size (by simp)]
  exact new_block _ _
 obtain ⟨x0, x1, x2, x3⟩ := xX.cell
 have HB1 : Hid (Below w.heap.size w w1) := ((Below.refl _ _).alloc (Nat.le_refl _) _).trans (b1.mono (by simp))
 clear b1
 go_wp2_with fail
 go_region_with (first
  | (go_at_call_of 207 (Value.int .u8 op); refine (HO.out _).mono ?_; rintro e w2 ⟨rfl, b2⟩; have xX2 := XS.keep xX b2; obtain ⟨z0, z1, z2, z3⟩ := xX2.cell)
  | (go_at_call_of 208 (Value.agg #[.int .u8 op, .int .i64 A, .int .i64 B, .slice o n cap] : Value); refine (HT.out _ (HB1.out.drew.trans (b2.mono HB1.out.size))).mono ?_; rintro e w3 ⟨t, rfl, ⟨ht, hts⟩, b3⟩))
 all_goals (go_wp2; go_ret2; exact ⟨t, rfl, ht, (HB1.out.drew.trans (b2.mono HB1.out.size)).trans (b3.mono (Nat.le_trans HB1.out.size b2.size))⟩)
theorem vcheck_none (op A B : Int) (o : Option Addr) (n cap : Nat) (w : World)
  (HB : Hid (∀ w', Below w.heap.size w w' → Calls Tryz.prog 219 #[.int .u8 op] w' fun r w'' => r = .returned (.int .i64 0) ∧ Below w'.heap.size w' w'')) :
  Calls Tryz.prog 197 #[.agg #[.int .u8 op, .int .i64 A, .int .i64 B, .slice o n cap]] w fun r w' => r = .returned (.int .i64 6) ∧ Below w.heap.size w w' := by
 go_enter Tryz.func197, Tryz.ntmps197
 go_wp2_with fail
 refine (HB.out _ ((Below.refl _ _).alloc (Nat.le_refl _) _)).mono ?_
 rintro e w1 ⟨rfl, b1⟩
 go_wp2
 go_ret
 exact ⟨rfl, ((Below.refl _ _).alloc (Nat.le_refl _) _).trans (b1.mono (by simp))⟩
theorem vcheck_long (op A B k : Int) (o : Option Addr) (n cap : Nat) (_hn : 16 < n) (_hm : n ≤ 9223372036854775807) (_hk : (k == 0) = false) (w : World) (HB : Hid (∀ w', Below w.heap.size w w' → Calls Tryz.prog 219 #[.int .u8 op] w' fun r w'' => r = .returned (.int .i64 k) ∧ Below w'.heap.size w' w'')) :
  Calls Tryz.prog 197 #[.agg #[.int .u8 op, .int .i64 A, .int .i64 B, .slice o n cap]] w fun r w' => r = .returned (.int .i64 2) ∧ Below w.heap.size w w' := by
 go_enter Tryz.func197, Tryz.ntmps197
 go_wp2_with fail
 refine (HB.out _ ((Below.refl _ _).alloc (Nat.le_refl _) _)).mono ?_
 rintro e w1 ⟨rfl, b1⟩
 have xX : XS w1 w.heap.size (.int .u8 op) (.int .i64 A) (.int .i64 B) (.slice o n cap) := by
  unfold XS
  rw [b1.block w.heap.size (by simp)]
  exact new_block _ _
 obtain ⟨x0, x1, x2, x3⟩ := xX.cell
 have HB1 : Hid (Below w.heap.size w w1) := ((Below.refl _ _).alloc (Nat.le_refl _) _).trans (b1.mono (by simp))
 clear xX b1
 go_wp2
 go_ret
 exact ⟨rfl, HB1.out⟩
theorem vcheck_yes (op A B k : Int) (o : Option Addr) (n cap : Nat) (_hn : n ≤ 16) (_hk : (k == 0) = false) (w : World) (HB : Hid (∀ w', Below w.heap.size w w' → Calls Tryz.prog 219 #[.int .u8 op] w' fun r w'' => r = .returned (.int .i64 k) ∧ Below w'.heap.size w' w''))
  (HF : Hid (∀ w', Below w.heap.size w w' → Calls Tryz.prog 220 #[.int .i64 k, .agg #[.int .u8 op, .int .i64 A, .int .i64 B, .slice o n cap]] w' fun r w'' => r = .returned (.bool true) ∧ Below w'.heap.size w' w'')) :
  Calls Tryz.prog 197 #[.agg #[.int .u8 op, .int .i64 A, .int .i64 B, .slice o n cap]] w fun r w' => r = .returned (.int .i64 0) ∧ Below w.heap.size w w' := by
 go_enter Tryz.func197, Tryz.ntmps197
 go_wp2_with fail
 refine (HB.out _ ((Below.refl _ _).alloc (Nat.le_refl _) _)).mono ?_
 rintro e w1 ⟨rfl, b1⟩
 have xX : XS w1 w.heap.size (.int .u8 op) (.int .i64 A) (.int .i64 B) (.slice o n cap) := by
  unfold XS
  rw [b1.block w.heap.size (by simp)]
  exact new_block _ _
 obtain ⟨x0, x1, x2, x3⟩ := xX.cell
 have HB1 : Hid (Below w.heap.size w w1) := ((Below.refl _ _).alloc (Nat.le_refl _) _).trans (b1.mono (by simp))
 clear xX b1
 go_wp2_with fail
 refine (HF.out _ HB1.out).mono ?_
 rintro e w2 ⟨rfl, b2⟩
 go_wp2
 go_ret
 exact ⟨rfl, HB1.out.trans (b2.mono HB1.out.size)⟩
theorem vcheck_no (op A B k : Int) (o : Option Addr) (n cap : Nat) (_hn : n ≤ 16) (_hk : (k == 0) = false) (w : World) (HB : Hid (∀ w', Below w.heap.size w w' → Calls Tryz.prog 219 #[.int .u8 op] w' fun r w'' => r = .returned (.int .i64 k) ∧ Below w'.heap.size w' w''))
  (HF : Hid (∀ w', Below w.heap.size w w' → Calls Tryz.prog 220 #[.int .i64 k, .agg #[.int .u8 op, .int .i64 A, .int .i64 B, .slice o n cap]] w' fun r w'' => r = .returned (.bool false) ∧ Below w'.heap.size w' w'')) :
  Calls Tryz.prog 197 #[.agg #[.int .u8 op, .int .i64 A, .int .i64 B, .slice o n cap]] w fun r w' => r = .returned (.int .i64 1) ∧ Below w.heap.size w w' := by
 go_enter Tryz.func197, Tryz.ntmps197
 go_wp2_with fail
 refine (HB.out _ ((Below.refl _ _).alloc (Nat.le_refl _) _)).mono ?_
 rintro e w1 ⟨rfl, b1⟩
 have xX : XS w1 w.heap.size (.int .u8 op) (.int .i64 A) (.int .i64 B) (.slice o n cap) := by
  unfold XS
  rw [b1.block w.heap.size (by simp)]
  exact new_block _ _
 obtain ⟨x0, x1, x2, x3⟩ := xX.cell
 have HB1 : Hid (Below w.heap.size w w1) := ((Below.refl _ _).alloc (Nat.le_refl _) _).trans (b1.mono (by simp))
 clear xX b1
 go_wp2_with fail
 refine (HF.out _ HB1.out).mono ?_
 rintro e w2 ⟨rfl, b2⟩
 go_wp2
 go_ret
 exact ⟨rfl, HB1.out.trans (b2.mono HB1.out.size)⟩
def chkV (op A B : Int) (n : Nat) (xs : List Int) : Int := if besV op = 0 then 6 else if 16 < n then 2 else if fitB (besV op) A B n xs then 0 else 1
theorem check_any (op A B : Int) (o : Option Addr) (n cap : Nat) (xs : List Int) (h0 : 0 ≤ op) (h1 : op ≤ 255) (hcap : n ≤ cap) (hm : n ≤ 9223372036854775807) (w : World) (h : LJ w o n xs) (hT : TabIn w) (ht0 : 3 < w.heap.size) :
  Calls Tryz.prog 197 #[.agg #[.int .u8 op, .int .i64 A, .int .i64 B, .slice o n cap]] w fun r w' => r = .returned (.int .i64 (chkV op A B n xs)) ∧ Below w.heap.size w w' := by
 have hB : ∀ w', Below w.heap.size w w' → Calls Tryz.prog 219 #[.int .u8 op] w' fun r w'' => r = .returned (.int .i64 (besV op)) ∧ Below w'.heap.size w' w'' := fun w' hb => bes_any op h0 h1 w' (hT.chg (P := w.heap.size) (Chg.of_below hb) ht0 (by omega))
 have hrg := besV_range op
 unfold chkV
 generalize besV op = k at hB hrg ⊢
 by_cases hk : k = 0
 ·subst hk
  rw [if_pos rfl]
  exact vcheck_none op A B o n cap w hB
 rw [if_neg hk]
 have hkb : (k == 0) = false := by rw [beq_eq_false_iff_ne]; exact hk
 by_cases hn : 16 < n
 ·rw [if_pos hn]
  exact vcheck_long op A B k o n cap hn hm hkb w hB
 rw [if_neg hn]
 have hF := fun w' (hb : Below w.heap.size w w') => fits_any k op A B o n cap xs (by omega) (by omega) hcap (by omega) w' (h.below hb)
 cases hf : fitB k A B n xs with
 | true =>
  rw [hf] at hF
  exact vcheck_yes op A B k o n cap (by omega) hkb w hB hF
 | false =>
  rw [hf] at hF
  exact vcheck_no op A B k o n cap (by omega) hkb w hB hF
end Go.Proofs.YtakpkdckajjooaaGreatDoor
namespace Go.Proofs.YtakpkdckajjooaaGreatDoor
open Go.RowKit
theorem numB_num {n : Int} (h : numB n = true) : isNum n := by
 unfold numB at h
 simp only [Bool.and_eq_true, decide_eq_true_eq] at h
 exact h
theorem allB_num {xs : List Int} (h : allB xs = true) : ∀ x ∈ xs, isNum x := by
 unfold allB at h
 rw [List.all_eq_true] at h
 exact fun x hx => numB_num (h x hx)
theorem fitB_fit (k A B : Int) (n : Nat) (xs : List Int) (hk1 : 1 ≤ k) (hk9 : k ≤ 9) (hl : xs.length = n) (hn : n ≤ 16) (h : fitB k A B n xs = true) : fitC k A B xs := by
 unfold fitB at h
 by_cases h1 : k ≠ 4 ∧ 0 < n
 ·rw [if_pos h1] at h; cases h
 rw [if_neg h1] at h
 by_cases h2 : k ≠ 6 ∧ B ≠ 0
 ·rw [if_pos h2] at h; cases h
 rw [if_neg h2] at h
 have hx0 : k ≠ 4 → xs = [] := fun hk => List.length_eq_zero_iff.1 (by omega)
 rcases (show k = 1 ∨ k = 2 ∨ k = 3 ∨ k = 4 ∨ k = 5 ∨ k = 6 ∨ k = 7 ∨ k = 8 ∨ k = 9 by omega) with rfl | rfl | rfl | rfl | rfl | rfl | rfl | rfl | rfl
 ·have hA : A = 0 := by simpa using h
  exact Or.inl ⟨rfl, hA, by omega, hx0 (by decide)⟩
 ·exact Or.inr (Or.inl ⟨rfl, h, by omega, hx0 (by decide)⟩)
 ·have h' : (numB A && numB B && allB xs) = true := h
  simp only [Bool.and_eq_true] at h'
  exact Or.inr (Or.inr (Or.inl ⟨rfl, numB_num h'.1.1, by omega, hx0 (by decide)⟩))
 ·have h' : (numB A && numB B && allB xs) = true := h
  simp only [Bool.and_eq_true] at h'
  exact Or.inr (Or.inr (Or.inr (Or.inl ⟨rfl, numB_num h'.1.1, by omega, by omega, allB_num h'.2⟩)))
 ·have h' : (numB A && numB B && allB xs) = true := h
  simp only [Bool.and_eq_true] at h'
  exact Or.inr (Or.inr (Or.inr (Or.inr (Or.inl ⟨rfl, numB_num h'.1.1, by omega, hx0 (by decide)⟩))))
 ·have h' : (numB A && numB B && allB xs) = true := h
  simp only [Bool.and_eq_true] at h'
  exact Or.inr (Or.inr (Or.inr (Or.inr (Or.inr (Or.inl ⟨rfl, numB_num h'.1.1, numB_num h'.1.2, hx0 (by decide)⟩)))))
 ·have hA : A = 0 := by simpa using h
  exact Or.inr (Or.inr (Or.inr (Or.inr (Or.inr (Or.inr (Or.inl ⟨rfl, hA, by omega, hx0 (by decide)⟩))))))
 ·have h' : (decide (-2147483648 ≤ A) && decide (A ≤ 2147483647)) = true := h
  simp only [Bool.and_eq_true, decide_eq_true_eq] at h'
  exact Or.inr (Or.inr (Or.inr (Or.inr (Or.inr (Or.inr (Or.inr (Or.inl ⟨rfl, h'.1, h'.2, by omega, hx0 (by decide)⟩)))))))
 ·exact Or.inr (Or.inr (Or.inr (Or.inr (Or.inr (Or.inr (Or.inr (Or.inr ⟨rfl, by omega, hx0 (by decide)⟩)))))))
theorem vtext_ok (op A B : Int) (o : Option Addr) (n cap : Nat) (xs : List Int) (hcap : n ≤ cap) (h0 : 0 ≤ op) (h1 : op ≤ 255) (hc : fitC (besV op) A B xs) (hA : -9223372036854775808 ≤ A ∧ A ≤ 9223372036854775807) (w : World) (h : LJ w o n xs) (hT : TabIn w) (ht0 : 3 < w.heap.size) :
  Calls Tryz.prog 208 #[.agg #[.int .u8 op, .int .i64 A, .int .i64 B, .slice o n cap]] w fun r w' => ∃ t, r = .returned (.string t) ∧ nums t = besT (besV op) A B xs ∧ Below w.heap.size w w' := by
 have hB : ∀ w', Below w.heap.size w w' → Calls Tryz.prog 219 #[.int .u8 op] w' fun r w'' => r = .returned (.int .i64 (besV op)) ∧ Below w'.heap.size w' w'' := fun w' hb => bes_any op h0 h1 w' (hT.chg (P := w.heap.size) (Chg.of_below hb) ht0 (by omega))
 have hl := h.1
 generalize besV op = k at hc hB ⊢
 rcases hc with ⟨rfl, rfl, rfl, rfl⟩ | ⟨rfl, hK, rfl, rfl⟩ | ⟨rfl, hN, rfl, rfl⟩ | ⟨rfl, hN, rfl, h16, hx⟩ | ⟨rfl, hN, rfl, rfl⟩ | ⟨rfl, hN, hM, rfl⟩ | ⟨rfl, rfl, rfl, rfl⟩ | ⟨rfl, _, _, rfl, rfl⟩ | ⟨rfl, rfl, rfl⟩
 ·refine (vtext_1 op 0 0 o n cap w hB).mono ?_
  rintro r w1 ⟨rfl, b⟩
  exact ⟨_, rfl, rfl, b⟩
 ·have hr := isKB_range hK
  refine (vtext_2 op A 0 o n cap hr.1 hr.2 _ (fun w => oneByte_any A w) w hB).mono ?_
  rintro r w1 ⟨rfl, b⟩
  exact ⟨_, rfl, nums_str (by intro b hb; simp at hb; subst hb; omega), b⟩
 ·refine (vtext_3 op A 0 o n cap _ (fun w => numText_any A hN w) w hB).mono ?_
  rintro r w1 ⟨rfl, b⟩
  exact ⟨_, rfl, nums_u _, b⟩
 ·refine (vtext_4 op A o xs n cap hcap hl (by omega) hx hN w h hB).mono ?_
  rintro r w1 ⟨rfl, b⟩
  refine ⟨_, rfl, ?_, b⟩
  rw [nums_append, nums_u, nums_catK _ _ _ (by omega), nums_u, List.take_of_length_le (by omega), ← hl]
  rfl
 ·have hs := uB_num A hN
  refine (vtext_5 op A 0 o n cap _ (fun w => numText_any A hN w) (by rw [strOfNums_size]; omega) w hB).mono ?_
  rintro r w1 ⟨rfl, b⟩
  exact ⟨_, rfl, by rw [nums_append, nums_u, nums_zero]; rfl, b⟩
 ·have hs := uB_num A hN
  have hs2 := uB_num B hM
  refine (vtext_6 op A B o n cap _ (fun w => numText_any A hN w) _ (fun w => numText_any B hM w) (by rw [strOfNums_size, strOfNums_size]; omega) w hB).mono ?_
  rintro r w1 ⟨rfl, b⟩
  exact ⟨_, rfl, by rw [nums_append, nums_u, nums_u]; rfl, b⟩
 ·refine (vtext_7 op 0 0 o n cap w hB).mono ?_
  rintro r w1 ⟨rfl, b⟩
  exact ⟨_, rfl, rfl, b⟩
 ·refine (vtext_8 op A 0 o n cap _ (fun w => s_any A hA.1 hA.2 w) w hB).mono ?_
  rintro r w1 ⟨rfl, b⟩
  exact ⟨_, rfl, nums_str (sB_byte A), b⟩
 ·refine (vtext_9 op A 0 o n cap _ (fun w => s_any A hA.1 hA.2 w) w hB).mono ?_
  rintro r w1 ⟨rfl, b⟩
  exact ⟨_, rfl, nums_str (sB_byte A), b⟩
theorem vwrite_ok (op A B : Int) (o : Option Addr) (n cap : Nat) (xs : List Int) (hcap : n ≤ cap) (h0 : 0 ≤ op) (h1 : op ≤ 255) (hc : fitC (besV op) A B xs) (hchk : chkV op A B n xs = 0) (hm : n ≤ 9223372036854775807) (hA : -9223372036854775808 ≤ A ∧ A ≤ 9223372036854775807) (w : World) (h : LJ w o n xs) (hT : TabIn w) (ht0 : 3 < w.heap.size) :
  Calls Tryz.prog 179 #[.agg #[.int .u8 op, .int .i64 A, .int .i64 B, .slice o n cap]] w fun r w' => ∃ t, r = .returned (.tuple #[.string t, .int .i64 0]) ∧ nums t = op :: besT (besV op) A B xs ∧ Below w.heap.size w w' := by
 have hT' : ∀ w', Below w.heap.size w w' → TabIn w' := fun w' hb => hT.chg (P := w.heap.size) (Chg.of_below hb) ht0 (by omega)
 refine (vwrite_core op A B o n cap (besT (besV op) A B xs).length (besT (besV op) A B xs) (besT_len _ _ _ _ hc hA) w (fun w' hb => ?_) (fun w' hb => ?_)).mono ?_
 ·have := check_any op A B o n cap xs h0 h1 hcap hm w' (h.below hb) (hT' w' hb) (Nat.lt_of_lt_of_le ht0 hb.size)
  rw [hchk] at this
  exact this
 ·refine (vtext_ok op A B o n cap xs hcap h0 h1 hc hA w' (h.below hb) (hT' w' hb) (Nat.lt_of_lt_of_le ht0 hb.size)).mono ?_
  rintro r w1 ⟨t, rfl, ht, b⟩
  exact ⟨t, rfl, ⟨ht, by rw [← ht, nums_length]⟩, b⟩
 ·rintro r w1 ⟨t, rfl, ht, b⟩
  refine ⟨_, rfl, ?_, b⟩
  rw [nums_append, ht, nums_str (by intro b hb; simp at hb; subst hb; omega)]
  rfl
end Go.Proofs.YtakpkdckajjooaaGreatDoor
