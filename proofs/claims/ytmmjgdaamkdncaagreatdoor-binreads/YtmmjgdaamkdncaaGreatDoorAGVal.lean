import Derived.Test.YtmmjgdaamkdncaaGreatDoorAQZ
namespace Go.Proofs.YtmmjgdaamkdncaaGreatDoor
set_option maxHeartbeats 4000000
set_option maxRecDepth 1000000
set_option linter.unusedVariables false
open Go.RowKit
def LJ (w : World) (o : Option Addr) (n : Nat) (xs : List Int) : Prop := xs.length = n /\ (n = 0 \/ ∃ a : Addr,o = some a /\ a.block < w.heap.size /\ ∀ i,i < n -> w.cell? (a.add i) = some (.int .i64 (xs.getD i 0)))
theorem xhA (a : Addr) (i : Nat) : (a.add i).block = a.block := by unfold Addr.add; split <;> rfl
theorem LJ.below {w w' : World} {o : Option Addr} {n : Nat} {xs : List Int} (h : LJ w o n xs) (hb : Below w.heap.size w w') : LJ w' o n xs := by
 obtain ⟨hl,h⟩ := h
 refine ⟨hl,?_⟩
 rcases h with h | ⟨a,h1,h2,h3⟩
 ·exact Or.inl h
 ·exact Or.inr ⟨a,h1,Nat.lt_of_lt_of_le h2 hb.size,fun i hi => by rw [hb.cell (p := a.add i) (by rw [xhA]; exact h2)]; exact h3 i hi⟩
def xfL (n : Int) : Bool := decide (0 <= n) && decide (n <= 4294967295)
def xjN (xs : List Int) : Bool := xs.all xfL
theorem xkJ (n : Int) (w : World) : Calls Tryz.prog 139 #[.int .i64 n] w fun r w' => r = .returned (.bool (xfL n)) /\ w' = w := by
 unfold xfL
 by_cases h0 : 0 <= n
 ·have e0 : decide (0 <= n) = true := decide_eq_true h0
  go_enter Tryz.func139,Tryz.ntmps139
  go_wp2
  go_ret
  exact ⟨by first | rfl | (rw [e0]; rfl),rfl⟩
 ·have e0 : decide (0 <= n) = false := decide_eq_false h0
  go_enter Tryz.func139,Tryz.ntmps139
  go_wp2
  go_ret
  exact ⟨by first | rfl | (rw [e0]; rfl),rfl⟩
theorem yaY (o : Option Addr) (xs : List Int) (n cap : Nat) (_hcap : n <= cap) (hn : n <= 16) (w : World) (h : LJ w o n xs) : Calls Tryz.prog 140 #[.slice o n cap] w fun r w' => r = .returned (.bool (xjN xs)) /\ w' = w := by
 have HH : Hid (LJ w o n xs) := h
 clear h
 obtain ⟨R,hR⟩ : ∃ R,xjN xs = R := ⟨_,rfl⟩
 have HR : Hid (xjN xs = R) := hR
 rw [hR]
 clear hR
 go_enter Tryz.func140,Tryz.ntmps140
 go_wp2
 go_loop [7] (fun i => ∃ k : Nat,i = .int .i64 k /\ k <= n /\ Hid (xjN (xs.drop k) = R)) (fun i => n - (intOf i).toNat)
 case atStart => exact ⟨0,rfl,by omega,by unfold Hid; rw [List.drop_zero]; exact HR.out⟩
 case round =>
  obtain ⟨k,rfl,hk,HK⟩ := hrel
  obtain ⟨hl,hc⟩ := HH.out
  by_cases hlt : k < n
  ·rcases hc with h0 | ⟨a,rfl,_,hc⟩
   ·omega
   have hcell := hc k hlt
   have hd : xs.drop k = xs.getD k 0 :: xs.drop (k + 1) := by
    rw [List.drop_eq_getElem_cons (by omega),List.getD_eq_getElem?_getD,List.getElem?_eq_getElem (by omega)]
    rfl
   have HK2 : Hid ((xfL (xs.getD k 0) && xjN (xs.drop (k + 1))) = R) := by
    unfold Hid
    rw [<- HK.out,hd]
    rfl
   have HN := xkJ (xs.getD k 0)
   generalize xs.getD k 0 = x at hcell HN HK2
   have hki0 : (0 : Int) <= (k : Int) := by omega
   have hki1 : (k : Int) < (n : Int) := by omega
   have hl' : Hid (xs.length = n) := hl
   clear hc hd hl HK HR
   cases hb : xfL x with
   | true =>
    have HNN : Hid (∀ w,Calls Tryz.prog 139 #[.int .i64 x] w fun r w' => r = .returned (.bool true) /\ w' = w) := fun w => by rw [<- hb]; exact HN w
    have HK3 : Hid (xjN (xs.drop (k + 1)) = R) := by
     have := HK2.out
     rw [hb,Bool.true_and] at this
     exact this
    clear HN hb HK2
    go_wp2_with fail
    refine (HNN.out _).mono ?_
    rintro e w1 ⟨rfl,rfl⟩
    go_wp2
    go_round
    case rel => exact ⟨k + 1,by go_num,by omega,HK3⟩
    case measure => simp [intOf]; omega
   | false =>
    have HNN : Hid (∀ w,Calls Tryz.prog 139 #[.int .i64 x] w fun r w' => r = .returned (.bool false) /\ w' = w) := fun w => by rw [<- hb]; exact HN w
    have HK3 : Hid (R = false) := by
     have := HK2.out
     rw [hb,Bool.false_and] at this
     exact this.symm
    clear HN hb HK2
    go_wp2_with fail
    refine (HNN.out _).mono ?_
    rintro e w1 ⟨rfl,rfl⟩
    go_wp2
    go_ret
    exact ⟨by rw [HK3.out]; rfl,rfl⟩
  ·have HK3 : Hid (R = true) := by
    have := HK.out
    rw [List.drop_eq_nil_of_le (by omega)] at this
    exact this.symm
   clear hc hl
   go_wp2
   go_ret
   exact ⟨by rw [HK3.out]; rfl,rfl⟩
def xkH (k A B : Int) (n : Nat) (xs : List Int) : Bool :=
 if k ≠ 4 /\ 0 < n then false else if k ≠ 6 /\ B ≠ 0 then false
 else if k = 2 then xlK A else if k = 8 then (decide (-2147483648 <= A) && decide (A <= 2147483647)) else if k = 9 then true
 else if k = 3 \/ k = 4 \/ k = 5 \/ k = 6 then (xfL A && xfL B && xjN xs) else A == 0
theorem yeG (k op A B : Int) (n : Nat) (o : Option Addr) (cap : Nat) (_hk : (k != 4) = true) (_hn : 0 < n) (w : World) : Calls Tryz.prog 130 #[.int .i64 k,.agg #[.int .u8 op,.int .i64 A,.int .i64 B,.slice o n cap]] w fun r w' => r = .returned (.bool false) /\ Below w.heap.size w w' := by
 go_enter Tryz.func130,Tryz.ntmps130
 go_wp2
 go_ret
 exact ⟨rfl,(Below.refl _ _).alloc (Nat.le_refl _) _⟩
theorem ylQ (k op A B : Int) (o : Option Addr) (cap : Nat) (_hk : (k != 4) = true) (_hk6 : (k != 6) = true) (_hB : (B != 0) = true) (w : World) : Calls Tryz.prog 130 #[.int .i64 k,.agg #[.int .u8 op,.int .i64 A,.int .i64 B,.slice o 0 cap]] w fun r w' => r = .returned (.bool false) /\ Below w.heap.size w w' := by
 go_enter Tryz.func130,Tryz.ntmps130
 go_wp2
 go_ret
 exact ⟨rfl,(Below.refl _ _).alloc (Nat.le_refl _) _⟩
theorem yhD (op A B : Int) (n : Nat) (o : Option Addr) (cap : Nat) (_hB : (B != 0) = true) (w : World) : Calls Tryz.prog 130 #[.int .i64 4,.agg #[.int .u8 op,.int .i64 A,.int .i64 B,.slice o n cap]] w fun r w' => r = .returned (.bool false) /\ Below w.heap.size w w' := by
 go_enter Tryz.func130,Tryz.ntmps130
 go_wp2
 go_ret
 exact ⟨rfl,(Below.refl _ _).alloc (Nat.le_refl _) _⟩
theorem ylN (op A : Int) (b : Bool) (o : Option Addr) (cap : Nat) (HA : Hid (∀ w,Calls Tryz.prog 137 #[.int .i64 A] w fun r w' => r = .returned (.bool b) /\ w' = w)) (w : World) : Calls Tryz.prog 130 #[.int .i64 2,.agg #[.int .u8 op,.int .i64 A,.int .i64 0,.slice o 0 cap]] w fun r w' => r = .returned (.bool b) /\ Below w.heap.size w w' := by
 go_enter Tryz.func130,Tryz.ntmps130
 go_wp2_with fail
 refine (HA.out _).mono ?_
 rintro e w1 ⟨rfl,rfl⟩
 go_wp2
 go_ret
 exact ⟨rfl,(Below.refl _ _).alloc (Nat.le_refl _) _⟩
theorem ylP (op A : Int) (o : Option Addr) (cap : Nat) (w : World) : Calls Tryz.prog 130 #[.int .i64 9,.agg #[.int .u8 op,.int .i64 A,.int .i64 0,.slice o 0 cap]] w fun r w' => r = .returned (.bool true) /\ Below w.heap.size w w' := by
 go_enter Tryz.func130,Tryz.ntmps130
 go_wp2
 go_ret
 exact ⟨rfl,(Below.refl _ _).alloc (Nat.le_refl _) _⟩
theorem yhB (op A : Int) (o : Option Addr) (cap : Nat) (_h0 : decide (-2147483648 <= A) = true) (w : World) : Calls Tryz.prog 130 #[.int .i64 8,.agg #[.int .u8 op,.int .i64 A,.int .i64 0,.slice o 0 cap]] w fun r w' => r = .returned (.bool (decide (A <= 2147483647))) /\ Below w.heap.size w w' := by
 go_enter Tryz.func130,Tryz.ntmps130
 go_wp2
 go_ret
 exact ⟨rfl,(Below.refl _ _).alloc (Nat.le_refl _) _⟩
theorem yhC (op A : Int) (o : Option Addr) (cap : Nat) (_h0 : decide (-2147483648 <= A) = false) (w : World) : Calls Tryz.prog 130 #[.int .i64 8,.agg #[.int .u8 op,.int .i64 A,.int .i64 0,.slice o 0 cap]] w fun r w' => r = .returned (.bool false) /\ Below w.heap.size w w' := by
 go_enter Tryz.func130,Tryz.ntmps130
 go_wp2
 go_ret
 exact ⟨rfl,(Below.refl _ _).alloc (Nat.le_refl _) _⟩
theorem ylM (op A : Int) (o : Option Addr) (cap : Nat) (w : World) : Calls Tryz.prog 130 #[.int .i64 1,.agg #[.int .u8 op,.int .i64 A,.int .i64 0,.slice o 0 cap]] w fun r w' => r = .returned (.bool (A == 0)) /\ Below w.heap.size w w' := by
 go_enter Tryz.func130,Tryz.ntmps130
 go_wp2
 go_ret
 exact ⟨rfl,(Below.refl _ _).alloc (Nat.le_refl _) _⟩
theorem ylO (op A : Int) (o : Option Addr) (cap : Nat) (w : World) : Calls Tryz.prog 130 #[.int .i64 7,.agg #[.int .u8 op,.int .i64 A,.int .i64 0,.slice o 0 cap]] w fun r w' => r = .returned (.bool (A == 0)) /\ Below w.heap.size w w' := by
 go_enter Tryz.func130,Tryz.ntmps130
 go_wp2
 go_ret
 exact ⟨rfl,(Below.refl _ _).alloc (Nat.le_refl _) _⟩
theorem yiP (op A : Int) (o : Option Addr) (cap : Nat) (HA : Hid (∀ w,Calls Tryz.prog 139 #[.int .i64 A] w fun r w' => r = .returned (.bool false) /\ w' = w)) (w : World) : Calls Tryz.prog 130 #[.int .i64 3,.agg #[.int .u8 op,.int .i64 A,.int .i64 0,.slice o 0 cap]] w fun r w' => r = .returned (.bool false) /\ Below w.heap.size w w' := by
 go_enter Tryz.func130,Tryz.ntmps130
 go_wp2_with fail
 refine (HA.out _).mono ?_
 rintro e w1 ⟨rfl,rfl⟩
 go_wp2
 go_ret
 exact ⟨rfl,(Below.refl _ _).alloc (Nat.le_refl _) _⟩
theorem yiQ (op A : Int) (o : Option Addr) (cap : Nat) (HA : Hid (∀ w,Calls Tryz.prog 139 #[.int .i64 A] w fun r w' => r = .returned (.bool true) /\ w' = w)) (HBB : Hid (∀ w,Calls Tryz.prog 139 #[.int .i64 0] w fun r w' => r = .returned (.bool false) /\ w' = w)) (w : World) : Calls Tryz.prog 130 #[.int .i64 3,.agg #[.int .u8 op,.int .i64 A,.int .i64 0,.slice o 0 cap]] w fun r w' => r = .returned (.bool false) /\ Below w.heap.size w w' := by
 go_enter Tryz.func130,Tryz.ntmps130
 go_wp2_with fail
 refine (HA.out _).mono ?_
 rintro e w1 ⟨rfl,rfl⟩
 go_wp2_with fail
 refine (HBB.out _).mono ?_
 rintro e w1 ⟨rfl,rfl⟩
 go_wp2
 go_ret
 exact ⟨rfl,(Below.refl _ _).alloc (Nat.le_refl _) _⟩
theorem yiR (op A : Int) (bx : Bool) (o : Option Addr) (cap : Nat) (HA : Hid (∀ w,Calls Tryz.prog 139 #[.int .i64 A] w fun r w' => r = .returned (.bool true) /\ w' = w)) (HBB : Hid (∀ w,Calls Tryz.prog 139 #[.int .i64 0] w fun r w' => r = .returned (.bool true) /\ w' = w)) (w : World) (HX : Hid (∀ w',Below w.heap.size w w' -> Calls Tryz.prog 140 #[.slice o 0 cap] w' fun r w'' => r = .returned (.bool bx) /\ w'' = w')) : Calls Tryz.prog 130 #[.int .i64 3,.agg #[.int .u8 op,.int .i64 A,.int .i64 0,.slice o 0 cap]] w fun r w' => r = .returned (.bool bx) /\ Below w.heap.size w w' := by
 go_enter Tryz.func130,Tryz.ntmps130
 go_wp2_with fail
 refine (HA.out _).mono ?_
 rintro e w1 ⟨rfl,rfl⟩
 go_wp2_with fail
 refine (HBB.out _).mono ?_
 rintro e w1 ⟨rfl,rfl⟩
 go_wp2_with fail
 refine (HX.out _ ((Below.refl _ _).alloc (Nat.le_refl _) _)).mono ?_
 rintro e w1 ⟨rfl,rfl⟩
 go_wp2
 go_ret
 exact ⟨rfl,(Below.refl _ _).alloc (Nat.le_refl _) _⟩
theorem yiV (op A : Int) (o : Option Addr) (cap : Nat) (HA : Hid (∀ w,Calls Tryz.prog 139 #[.int .i64 A] w fun r w' => r = .returned (.bool false) /\ w' = w)) (w : World) : Calls Tryz.prog 130 #[.int .i64 5,.agg #[.int .u8 op,.int .i64 A,.int .i64 0,.slice o 0 cap]] w fun r w' => r = .returned (.bool false) /\ Below w.heap.size w w' := by
 go_enter Tryz.func130,Tryz.ntmps130
 go_wp2_with fail
 refine (HA.out _).mono ?_
 rintro e w1 ⟨rfl,rfl⟩
 go_wp2
 go_ret
 exact ⟨rfl,(Below.refl _ _).alloc (Nat.le_refl _) _⟩
theorem yiW (op A : Int) (o : Option Addr) (cap : Nat) (HA : Hid (∀ w,Calls Tryz.prog 139 #[.int .i64 A] w fun r w' => r = .returned (.bool true) /\ w' = w)) (HBB : Hid (∀ w,Calls Tryz.prog 139 #[.int .i64 0] w fun r w' => r = .returned (.bool false) /\ w' = w)) (w : World) : Calls Tryz.prog 130 #[.int .i64 5,.agg #[.int .u8 op,.int .i64 A,.int .i64 0,.slice o 0 cap]] w fun r w' => r = .returned (.bool false) /\ Below w.heap.size w w' := by
 go_enter Tryz.func130,Tryz.ntmps130
 go_wp2_with fail
 refine (HA.out _).mono ?_
 rintro e w1 ⟨rfl,rfl⟩
 go_wp2_with fail
 refine (HBB.out _).mono ?_
 rintro e w1 ⟨rfl,rfl⟩
 go_wp2
 go_ret
 exact ⟨rfl,(Below.refl _ _).alloc (Nat.le_refl _) _⟩
theorem yiX (op A : Int) (bx : Bool) (o : Option Addr) (cap : Nat) (HA : Hid (∀ w,Calls Tryz.prog 139 #[.int .i64 A] w fun r w' => r = .returned (.bool true) /\ w' = w)) (HBB : Hid (∀ w,Calls Tryz.prog 139 #[.int .i64 0] w fun r w' => r = .returned (.bool true) /\ w' = w)) (w : World) (HX : Hid (∀ w',Below w.heap.size w w' -> Calls Tryz.prog 140 #[.slice o 0 cap] w' fun r w'' => r = .returned (.bool bx) /\ w'' = w')) : Calls Tryz.prog 130 #[.int .i64 5,.agg #[.int .u8 op,.int .i64 A,.int .i64 0,.slice o 0 cap]] w fun r w' => r = .returned (.bool bx) /\ Below w.heap.size w w' := by
 go_enter Tryz.func130,Tryz.ntmps130
 go_wp2_with fail
 refine (HA.out _).mono ?_
 rintro e w1 ⟨rfl,rfl⟩
 go_wp2_with fail
 refine (HBB.out _).mono ?_
 rintro e w1 ⟨rfl,rfl⟩
 go_wp2_with fail
 refine (HX.out _ ((Below.refl _ _).alloc (Nat.le_refl _) _)).mono ?_
 rintro e w1 ⟨rfl,rfl⟩
 go_wp2
 go_ret
 exact ⟨rfl,(Below.refl _ _).alloc (Nat.le_refl _) _⟩
theorem yiY (op A B : Int) (o : Option Addr) (cap : Nat) (HA : Hid (∀ w,Calls Tryz.prog 139 #[.int .i64 A] w fun r w' => r = .returned (.bool false) /\ w' = w)) (w : World) : Calls Tryz.prog 130 #[.int .i64 6,.agg #[.int .u8 op,.int .i64 A,.int .i64 B,.slice o 0 cap]] w fun r w' => r = .returned (.bool false) /\ Below w.heap.size w w' := by
 go_enter Tryz.func130,Tryz.ntmps130
 go_wp2_with fail
 refine (HA.out _).mono ?_
 rintro e w1 ⟨rfl,rfl⟩
 go_wp2
 go_ret
 exact ⟨rfl,(Below.refl _ _).alloc (Nat.le_refl _) _⟩
theorem yiZ (op A B : Int) (o : Option Addr) (cap : Nat) (HA : Hid (∀ w,Calls Tryz.prog 139 #[.int .i64 A] w fun r w' => r = .returned (.bool true) /\ w' = w)) (HBB : Hid (∀ w,Calls Tryz.prog 139 #[.int .i64 B] w fun r w' => r = .returned (.bool false) /\ w' = w)) (w : World) : Calls Tryz.prog 130 #[.int .i64 6,.agg #[.int .u8 op,.int .i64 A,.int .i64 B,.slice o 0 cap]] w fun r w' => r = .returned (.bool false) /\ Below w.heap.size w w' := by
 go_enter Tryz.func130,Tryz.ntmps130
 go_wp2_with fail
 refine (HA.out _).mono ?_
 rintro e w1 ⟨rfl,rfl⟩
 go_wp2_with fail
 refine (HBB.out _).mono ?_
 rintro e w1 ⟨rfl,rfl⟩
 go_wp2
 go_ret
 exact ⟨rfl,(Below.refl _ _).alloc (Nat.le_refl _) _⟩
theorem yhA (op A B : Int) (bx : Bool) (o : Option Addr) (cap : Nat) (HA : Hid (∀ w,Calls Tryz.prog 139 #[.int .i64 A] w fun r w' => r = .returned (.bool true) /\ w' = w)) (HBB : Hid (∀ w,Calls Tryz.prog 139 #[.int .i64 B] w fun r w' => r = .returned (.bool true) /\ w' = w)) (w : World) (HX : Hid (∀ w',Below w.heap.size w w' -> Calls Tryz.prog 140 #[.slice o 0 cap] w' fun r w'' => r = .returned (.bool bx) /\ w'' = w')) : Calls Tryz.prog 130 #[.int .i64 6,.agg #[.int .u8 op,.int .i64 A,.int .i64 B,.slice o 0 cap]] w fun r w' => r = .returned (.bool bx) /\ Below w.heap.size w w' := by
 go_enter Tryz.func130,Tryz.ntmps130
 go_wp2_with fail
 refine (HA.out _).mono ?_
 rintro e w1 ⟨rfl,rfl⟩
 go_wp2_with fail
 refine (HBB.out _).mono ?_
 rintro e w1 ⟨rfl,rfl⟩
 go_wp2_with fail
 refine (HX.out _ ((Below.refl _ _).alloc (Nat.le_refl _) _)).mono ?_
 rintro e w1 ⟨rfl,rfl⟩
 go_wp2
 go_ret
 exact ⟨rfl,(Below.refl _ _).alloc (Nat.le_refl _) _⟩
theorem yiS (op A : Int) (n : Nat) (o : Option Addr) (cap : Nat) (HA : Hid (∀ w,Calls Tryz.prog 139 #[.int .i64 A] w fun r w' => r = .returned (.bool false) /\ w' = w)) (w : World) : Calls Tryz.prog 130 #[.int .i64 4,.agg #[.int .u8 op,.int .i64 A,.int .i64 0,.slice o n cap]] w fun r w' => r = .returned (.bool false) /\ Below w.heap.size w w' := by
 go_enter Tryz.func130,Tryz.ntmps130
 go_wp2_with fail
 refine (HA.out _).mono ?_
 rintro e w1 ⟨rfl,rfl⟩
 go_wp2
 go_ret
 exact ⟨rfl,(Below.refl _ _).alloc (Nat.le_refl _) _⟩
theorem yiT (op A : Int) (n : Nat) (o : Option Addr) (cap : Nat) (HA : Hid (∀ w,Calls Tryz.prog 139 #[.int .i64 A] w fun r w' => r = .returned (.bool true) /\ w' = w)) (HBB : Hid (∀ w,Calls Tryz.prog 139 #[.int .i64 0] w fun r w' => r = .returned (.bool false) /\ w' = w)) (w : World) : Calls Tryz.prog 130 #[.int .i64 4,.agg #[.int .u8 op,.int .i64 A,.int .i64 0,.slice o n cap]] w fun r w' => r = .returned (.bool false) /\ Below w.heap.size w w' := by
 go_enter Tryz.func130,Tryz.ntmps130
 go_wp2_with fail
 refine (HA.out _).mono ?_
 rintro e w1 ⟨rfl,rfl⟩
 go_wp2_with fail
 refine (HBB.out _).mono ?_
 rintro e w1 ⟨rfl,rfl⟩
 go_wp2
 go_ret
 exact ⟨rfl,(Below.refl _ _).alloc (Nat.le_refl _) _⟩
theorem yiU (op A : Int) (n : Nat) (bx : Bool) (o : Option Addr) (cap : Nat) (HA : Hid (∀ w,Calls Tryz.prog 139 #[.int .i64 A] w fun r w' => r = .returned (.bool true) /\ w' = w)) (HBB : Hid (∀ w,Calls Tryz.prog 139 #[.int .i64 0] w fun r w' => r = .returned (.bool true) /\ w' = w)) (w : World) (HX : Hid (∀ w',Below w.heap.size w w' -> Calls Tryz.prog 140 #[.slice o n cap] w' fun r w'' => r = .returned (.bool bx) /\ w'' = w')) : Calls Tryz.prog 130 #[.int .i64 4,.agg #[.int .u8 op,.int .i64 A,.int .i64 0,.slice o n cap]] w fun r w' => r = .returned (.bool bx) /\ Below w.heap.size w w' := by
 go_enter Tryz.func130,Tryz.ntmps130
 go_wp2_with fail
 refine (HA.out _).mono ?_
 rintro e w1 ⟨rfl,rfl⟩
 go_wp2_with fail
 refine (HBB.out _).mono ?_
 rintro e w1 ⟨rfl,rfl⟩
 go_wp2_with fail
 refine (HX.out _ ((Below.refl _ _).alloc (Nat.le_refl _) _)).mono ?_
 rintro e w1 ⟨rfl,rfl⟩
 go_wp2
 go_ret
 exact ⟨rfl,(Below.refl _ _).alloc (Nat.le_refl _) _⟩
theorem yaH (k op A B : Int) (o : Option Addr) (n cap : Nat) (xs : List Int) (hk1 : 1 <= k) (hk9 : k <= 9) (hcap : n <= cap) (hn : n <= 16) (w : World) (h : LJ w o n xs) : Calls Tryz.prog 130 #[.int .i64 k,.agg #[.int .u8 op,.int .i64 A,.int .i64 B,.slice o n cap]] w fun r w' => r = .returned (.bool (xkH k A B n xs)) /\ Below w.heap.size w w' := by
 have bne_of : ∀ x y : Int,x ≠ y -> (x != y) = true := fun x y hxy => by rw [bne,beq_eq_false_iff_ne.2 hxy]; rfl
 unfold xkH
 by_cases h1 : k ≠ 4 /\ 0 < n
 ·rw [if_pos h1]
  exact yeG k op A B n o cap (bne_of _ _ h1.1) h1.2 w
 rw [if_neg h1]
 by_cases h2 : k ≠ 6 /\ B ≠ 0
 ·rw [if_pos h2]
  by_cases h4 : k = 4
  ·subst h4
   exact yhD op A B n o cap (bne_of _ _ h2.2) w
  ·have hn0 : n = 0 := by omega
   subst hn0
   exact ylQ k op A B o cap (bne_of _ _ h4) (bne_of _ _ h2.1) (bne_of _ _ h2.2) w
 rw [if_neg h2]
 have hxs : ∀ w',Below w.heap.size w w' -> Calls Tryz.prog 140 #[.slice o n cap] w' fun r w'' => r = .returned (.bool (xjN xs)) /\ w'' = w' := fun w' hb => yaY o xs n cap hcap hn w' (h.below hb)
 have hA := xkJ A
 have hB := xkJ B
 rcases (show k = 1 \/ k = 2 \/ k = 3 \/ k = 4 \/ k = 5 \/ k = 6 \/ k = 7 \/ k = 8 \/ k = 9 by omega) with rfl | rfl | rfl | rfl | rfl | rfl | rfl | rfl | rfl
 ·skip
  have hn0 : n = 0 := by omega
  subst hn0
  have hB0 : B = 0 := by omega
  subst hB0
  exact ylM op A o cap w
 ·skip
  have hn0 : n = 0 := by omega
  subst hn0
  have hB0 : B = 0 := by omega
  subst hB0
  exact ylN op A (xlK A) o cap (fun w => xnZ A w) w
 ·skip
  have hn0 : n = 0 := by omega
  subst hn0
  have hB0 : B = 0 := by omega
  subst hB0
  rw [if_neg (by decide),if_neg (by decide),if_neg (by decide),if_pos (by decide)]
  cases hbA : xfL A with
  | false =>
   rw [Bool.false_and,Bool.false_and]
   exact yiP op A o cap (fun w => by rw [<- hbA]; exact hA w) w
  | true =>
   cases hbB : xfL 0 with
   | false =>
    rw [Bool.true_and,Bool.false_and]
    exact yiQ op A o cap (fun w => by rw [<- hbA]; exact hA w) (fun w => by rw [<- hbB]; exact hB w) w
   | true =>
    rw [Bool.true_and,Bool.true_and]
    exact yiR op A (xjN xs) o cap (fun w => by rw [<- hbA]; exact hA w) (fun w => by rw [<- hbB]; exact hB w) w hxs
 ·skip
  have hB0 : B = 0 := by omega
  subst hB0
  rw [if_neg (by decide),if_neg (by decide),if_neg (by decide),if_pos (by decide)]
  cases hbA : xfL A with
  | false =>
   rw [Bool.false_and,Bool.false_and]
   exact yiS op A n o cap (fun w => by rw [<- hbA]; exact hA w) w
  | true =>
   cases hbB : xfL 0 with
   | false =>
    rw [Bool.true_and,Bool.false_and]
    exact yiT op A n o cap (fun w => by rw [<- hbA]; exact hA w) (fun w => by rw [<- hbB]; exact hB w) w
   | true =>
    rw [Bool.true_and,Bool.true_and]
    exact yiU op A n (xjN xs) o cap (fun w => by rw [<- hbA]; exact hA w) (fun w => by rw [<- hbB]; exact hB w) w hxs
 ·skip
  have hn0 : n = 0 := by omega
  subst hn0
  have hB0 : B = 0 := by omega
  subst hB0
  rw [if_neg (by decide),if_neg (by decide),if_neg (by decide),if_pos (by decide)]
  cases hbA : xfL A with
  | false =>
   rw [Bool.false_and,Bool.false_and]
   exact yiV op A o cap (fun w => by rw [<- hbA]; exact hA w) w
  | true =>
   cases hbB : xfL 0 with
   | false =>
    rw [Bool.true_and,Bool.false_and]
    exact yiW op A o cap (fun w => by rw [<- hbA]; exact hA w) (fun w => by rw [<- hbB]; exact hB w) w
   | true =>
    rw [Bool.true_and,Bool.true_and]
    exact yiX op A (xjN xs) o cap (fun w => by rw [<- hbA]; exact hA w) (fun w => by rw [<- hbB]; exact hB w) w hxs
 ·skip
  have hn0 : n = 0 := by omega
  subst hn0
  rw [if_neg (by decide),if_neg (by decide),if_neg (by decide),if_pos (by decide)]
  cases hbA : xfL A with
  | false =>
   rw [Bool.false_and,Bool.false_and]
   exact yiY op A B o cap (fun w => by rw [<- hbA]; exact hA w) w
  | true =>
   cases hbB : xfL B with
   | false =>
    rw [Bool.true_and,Bool.false_and]
    exact yiZ op A B o cap (fun w => by rw [<- hbA]; exact hA w) (fun w => by rw [<- hbB]; exact hB w) w
   | true =>
    rw [Bool.true_and,Bool.true_and]
    exact yhA op A B (xjN xs) o cap (fun w => by rw [<- hbA]; exact hA w) (fun w => by rw [<- hbB]; exact hB w) w hxs
 ·skip
  have hn0 : n = 0 := by omega
  subst hn0
  have hB0 : B = 0 := by omega
  subst hB0
  exact ylO op A o cap w
 ·skip
  have hn0 : n = 0 := by omega
  subst hn0
  have hB0 : B = 0 := by omega
  subst hB0
  rw [if_neg (by decide),if_pos rfl]
  cases h8 : decide (-2147483648 <= A) with
  | true => exact yhB op A o cap h8 w
  | false => exact yhC op A o cap h8 w
 ·skip
  have hn0 : n = 0 := by omega
  subst hn0
  have hB0 : B = 0 := by omega
  subst hB0
  exact ylP op A o cap w
theorem xoB (op A B : Int) (o : Option Addr) (n cap : Nat) (w : World)
  (HB : Hid (∀ w',Below w.heap.size w w' -> Calls Tryz.prog 123 #[.int .u8 op] w' fun r w'' => r = .returned (.int .i64 0) /\ Below w'.heap.size w' w'')) :
  Calls Tryz.prog 114 #[.agg #[.int .u8 op,.int .i64 A,.int .i64 B,.slice o n cap]] w fun r w' => r = .returned (.int .i64 6) /\ Below w.heap.size w w' := by
 go_enter Tryz.func114,Tryz.ntmps114
 go_wp2_with fail
 refine (HB.out _ ((Below.refl _ _).alloc (Nat.le_refl _) _)).mono ?_
 rintro e w1 ⟨rfl,b1⟩
 go_wp2
 go_ret
 exact ⟨rfl,((Below.refl _ _).alloc (Nat.le_refl _) _).trans (b1.mono (by simp))⟩
theorem xoA (op A B k : Int) (o : Option Addr) (n cap : Nat) (_hn : 16 < n) (_hm : n <= 9223372036854775807) (_hk : (k == 0) = false) (w : World) (HB : Hid (∀ w',Below w.heap.size w w' -> Calls Tryz.prog 123 #[.int .u8 op] w' fun r w'' => r = .returned (.int .i64 k) /\ Below w'.heap.size w' w'')) :
  Calls Tryz.prog 114 #[.agg #[.int .u8 op,.int .i64 A,.int .i64 B,.slice o n cap]] w fun r w' => r = .returned (.int .i64 2) /\ Below w.heap.size w w' := by
 go_enter Tryz.func114,Tryz.ntmps114
 go_wp2_with fail
 refine (HB.out _ ((Below.refl _ _).alloc (Nat.le_refl _) _)).mono ?_
 rintro e w1 ⟨rfl,b1⟩
 have xX : XS w1 w.heap.size (.int .u8 op) (.int .i64 A) (.int .i64 B) (.slice o n cap) := by
  unfold XS
  rw [b1.block w.heap.size (by simp)]
  exact xaZ _ _
 obtain ⟨x0,x1,x2,x3⟩ := xX.cell
 have HB1 : Hid (Below w.heap.size w w1) := ((Below.refl _ _).alloc (Nat.le_refl _) _).trans (b1.mono (by simp))
 clear xX b1
 go_wp2
 go_ret
 exact ⟨rfl,HB1.out⟩
theorem xsI (op A B k : Int) (o : Option Addr) (n cap : Nat) (_hn : n <= 16) (_hk : (k == 0) = false) (w : World) (HB : Hid (∀ w',Below w.heap.size w w' -> Calls Tryz.prog 123 #[.int .u8 op] w' fun r w'' => r = .returned (.int .i64 k) /\ Below w'.heap.size w' w''))
  (HF : Hid (∀ w',Below w.heap.size w w' -> Calls Tryz.prog 130 #[.int .i64 k,.agg #[.int .u8 op,.int .i64 A,.int .i64 B,.slice o n cap]] w' fun r w'' => r = .returned (.bool true) /\ Below w'.heap.size w' w'')) :
  Calls Tryz.prog 114 #[.agg #[.int .u8 op,.int .i64 A,.int .i64 B,.slice o n cap]] w fun r w' => r = .returned (.int .i64 0) /\ Below w.heap.size w w' := by
 go_enter Tryz.func114,Tryz.ntmps114
 go_wp2_with fail
 refine (HB.out _ ((Below.refl _ _).alloc (Nat.le_refl _) _)).mono ?_
 rintro e w1 ⟨rfl,b1⟩
 have xX : XS w1 w.heap.size (.int .u8 op) (.int .i64 A) (.int .i64 B) (.slice o n cap) := by
  unfold XS
  rw [b1.block w.heap.size (by simp)]
  exact xaZ _ _
 obtain ⟨x0,x1,x2,x3⟩ := xX.cell
 have HB1 : Hid (Below w.heap.size w w1) := ((Below.refl _ _).alloc (Nat.le_refl _) _).trans (b1.mono (by simp))
 clear xX b1
 go_wp2_with fail
 refine (HF.out _ HB1.out).mono ?_
 rintro e w2 ⟨rfl,b2⟩
 go_wp2
 go_ret
 exact ⟨rfl,HB1.out.trans (b2.mono HB1.out.size)⟩
theorem xuL (op A B k : Int) (o : Option Addr) (n cap : Nat) (_hn : n <= 16) (_hk : (k == 0) = false) (w : World) (HB : Hid (∀ w',Below w.heap.size w w' -> Calls Tryz.prog 123 #[.int .u8 op] w' fun r w'' => r = .returned (.int .i64 k) /\ Below w'.heap.size w' w''))
  (HF : Hid (∀ w',Below w.heap.size w w' -> Calls Tryz.prog 130 #[.int .i64 k,.agg #[.int .u8 op,.int .i64 A,.int .i64 B,.slice o n cap]] w' fun r w'' => r = .returned (.bool false) /\ Below w'.heap.size w' w'')) :
  Calls Tryz.prog 114 #[.agg #[.int .u8 op,.int .i64 A,.int .i64 B,.slice o n cap]] w fun r w' => r = .returned (.int .i64 1) /\ Below w.heap.size w w' := by
 go_enter Tryz.func114,Tryz.ntmps114
 go_wp2_with fail
 refine (HB.out _ ((Below.refl _ _).alloc (Nat.le_refl _) _)).mono ?_
 rintro e w1 ⟨rfl,b1⟩
 have xX : XS w1 w.heap.size (.int .u8 op) (.int .i64 A) (.int .i64 B) (.slice o n cap) := by
  unfold XS
  rw [b1.block w.heap.size (by simp)]
  exact xaZ _ _
 obtain ⟨x0,x1,x2,x3⟩ := xX.cell
 have HB1 : Hid (Below w.heap.size w w1) := ((Below.refl _ _).alloc (Nat.le_refl _) _).trans (b1.mono (by simp))
 clear xX b1
 go_wp2_with fail
 refine (HF.out _ HB1.out).mono ?_
 rintro e w2 ⟨rfl,b2⟩
 go_wp2
 go_ret
 exact ⟨rfl,HB1.out.trans (b2.mono HB1.out.size)⟩
def ybV (op A B : Int) (n : Nat) (xs : List Int) : Int := if xdM op = 0 then 6 else if 16 < n then 2 else if xkH (xdM op) A B n xs then 0 else 1
theorem xxQ (op A B : Int) (o : Option Addr) (n cap : Nat) (xs : List Int) (h0 : 0 <= op) (h1 : op <= 255) (hcap : n <= cap) (hm : n <= 9223372036854775807) (w : World) (h : LJ w o n xs) (hT : TabIn w) (ht0 : 3 < w.heap.size) :
  Calls Tryz.prog 114 #[.agg #[.int .u8 op,.int .i64 A,.int .i64 B,.slice o n cap]] w fun r w' => r = .returned (.int .i64 (ybV op A B n xs)) /\ Below w.heap.size w w' := by
 have hB : ∀ w',Below w.heap.size w w' -> Calls Tryz.prog 123 #[.int .u8 op] w' fun r w'' => r = .returned (.int .i64 (xdM op)) /\ Below w'.heap.size w' w'' := fun w' hb => xxF op h0 h1 w' (hT.chg (P := w.heap.size) (Chg.of_below hb) ht0 (by omega))
 have hrg := xdF op
 unfold ybV
 generalize xdM op = k at hB hrg ⊢
 by_cases hk : k = 0
 ·subst hk
  rw [if_pos rfl]
  exact xoB op A B o n cap w hB
 rw [if_neg hk]
 have hkb : (k == 0) = false := by rw [beq_eq_false_iff_ne]; exact hk
 by_cases hn : 16 < n
 ·rw [if_pos hn]
  exact xoA op A B k o n cap hn hm hkb w hB
 rw [if_neg hn]
 have hF := fun w' (hb : Below w.heap.size w w') => yaH k op A B o n cap xs (by omega) (by omega) hcap (by omega) w' (h.below hb)
 cases hf : xkH k A B n xs with
 | true =>
  rw [hf] at hF
  exact xsI op A B k o n cap (by omega) hkb w hB hF
 | false =>
  rw [hf] at hF
  exact xuL op A B k o n cap (by omega) hkb w hB hF
theorem xgS {n : Int} (h : xfL n = true) : xfT n := by
 unfold xfL at h
 simp only [Bool.and_eq_true,decide_eq_true_eq] at h
 exact h
theorem ybP {xs : List Int} (h : xjN xs = true) : ∀ x ∈ xs,xfT x := by
 unfold xjN at h
 rw [List.all_eq_true] at h
 exact fun x hx => xgS (h x hx)
theorem yaG (k A B : Int) (n : Nat) (xs : List Int) (hk1 : 1 <= k) (hk9 : k <= 9) (hl : xs.length = n) (hn : n <= 16) (h : xkH k A B n xs = true) : ykS k A B xs := by
 unfold xkH at h
 by_cases h1 : k ≠ 4 /\ 0 < n
 ·rw [if_pos h1] at h; cases h
 rw [if_neg h1] at h
 by_cases h2 : k ≠ 6 /\ B ≠ 0
 ·rw [if_pos h2] at h; cases h
 rw [if_neg h2] at h
 have hx0 : k ≠ 4 -> xs = [] := fun hk => List.length_eq_zero_iff.1 (by omega)
 rcases (show k = 1 \/ k = 2 \/ k = 3 \/ k = 4 \/ k = 5 \/ k = 6 \/ k = 7 \/ k = 8 \/ k = 9 by omega) with rfl | rfl | rfl | rfl | rfl | rfl | rfl | rfl | rfl
 ·have hA : A = 0 := by simpa using h
  exact Or.inl ⟨rfl,hA,by omega,hx0 (by decide)⟩
 ·exact Or.inr (Or.inl ⟨rfl,h,by omega,hx0 (by decide)⟩)
 ·have h' : (xfL A && xfL B && xjN xs) = true := h
  simp only [Bool.and_eq_true] at h'
  exact Or.inr (Or.inr (Or.inl ⟨rfl,xgS h'.1.1,by omega,hx0 (by decide)⟩))
 ·have h' : (xfL A && xfL B && xjN xs) = true := h
  simp only [Bool.and_eq_true] at h'
  exact Or.inr (Or.inr (Or.inr (Or.inl ⟨rfl,xgS h'.1.1,by omega,by omega,ybP h'.2⟩)))
 ·have h' : (xfL A && xfL B && xjN xs) = true := h
  simp only [Bool.and_eq_true] at h'
  exact Or.inr (Or.inr (Or.inr (Or.inr (Or.inl ⟨rfl,xgS h'.1.1,by omega,hx0 (by decide)⟩))))
 ·have h' : (xfL A && xfL B && xjN xs) = true := h
  simp only [Bool.and_eq_true] at h'
  exact Or.inr (Or.inr (Or.inr (Or.inr (Or.inr (Or.inl ⟨rfl,xgS h'.1.1,xgS h'.1.2,hx0 (by decide)⟩)))))
 ·have hA : A = 0 := by simpa using h
  exact Or.inr (Or.inr (Or.inr (Or.inr (Or.inr (Or.inr (Or.inl ⟨rfl,hA,by omega,hx0 (by decide)⟩))))))
 ·have h' : (decide (-2147483648 <= A) && decide (A <= 2147483647)) = true := h
  simp only [Bool.and_eq_true,decide_eq_true_eq] at h'
  exact Or.inr (Or.inr (Or.inr (Or.inr (Or.inr (Or.inr (Or.inr (Or.inl ⟨rfl,h'.1,h'.2,by omega,hx0 (by decide)⟩)))))))
 ·exact Or.inr (Or.inr (Or.inr (Or.inr (Or.inr (Or.inr (Or.inr (Or.inr ⟨rfl,by omega,hx0 (by decide)⟩)))))))
theorem xoK (B x : Int) (m : Nat) (hB : (B = 32 /\ m = 4 /\ -2147483648 <= x /\ x < 2147483648) \/ (B = 64 /\ m = 9 /\ -9223372036854775808 <= x /\ x < 9223372036854775808)) (r : List Int) : xcR B (sB x ++ r) 0 = (x,r,0) := by
 have hb := ymR B x m r hB
 unfold xcR
 rw [hb]
 simp only [if_true,Int.toNat_natCast,List.drop_left]
theorem xwH (op A B : Int) (xs : List Int) (hc : ykS (xdM op) A B xs) (hA : -9223372036854775808 <= A /\ A <= 9223372036854775807) (more : List Int) : xbZ ((op :: yjD (xdM op) A B xs) ++ more) 0 = ⟨op,A,B,xs,more,0⟩ := by
 have e0 : ∀ t,xbZ (op :: t) 0 = xlY (xdM op) op t 0 := fun t => rfl
 rw [List.cons_append,e0]
 generalize xdM op = k at hc ⊢
 rcases hc with ⟨rfl,rfl,rfl,rfl⟩ | ⟨rfl,hK,rfl,rfl⟩ | ⟨rfl,hN,rfl,rfl⟩ | ⟨rfl,hN,rfl,h16,hx⟩ | ⟨rfl,hN,rfl,rfl⟩ | ⟨rfl,hN,hM,rfl⟩ | ⟨rfl,rfl,rfl,rfl⟩ | ⟨rfl,h1,h2,rfl,rfl⟩ | ⟨rfl,rfl,rfl⟩
 ·rfl
 ·show (⟨op,(xcQ (A :: more) 0).1,0,[],(xcQ (A :: more) 0).2.1,(xcQ (A :: more) 0).2.2⟩ : Got) = _
  have : xcQ (A :: more) 0 = (A,more,0) := by
   unfold xcQ
   show (A,more,if xlK A then (0 : Int) else xbD 0 6) = _
   rw [if_pos hK]
  rw [this]
 ·show (⟨op,(xaT (uB A.toNat ++ more) 0).1,0,[],(xaT (uB A.toNat ++ more) 0).2.1,(xaT (uB A.toNat ++ more) 0).2.2⟩ : Got) = _
  rw [xeY A hN]
 ·show (⟨op,(xaT (xaP (uB xs.length ++ (xs.flatMap fun x => uB x.toNat) ++ uB A.toNat ++ more) 0).2.1 (xaP (uB xs.length ++ (xs.flatMap fun x => uB x.toNat) ++ uB A.toNat ++ more) 0).2.2).1,0,(xaP (uB xs.length ++ (xs.flatMap fun x => uB x.toNat) ++ uB A.toNat ++ more) 0).1,(xaT (xaP (uB xs.length ++ (xs.flatMap fun x => uB x.toNat) ++ uB A.toNat ++ more) 0).2.1 (xaP (uB xs.length ++ (xs.flatMap fun x => uB x.toNat) ++ uB A.toNat ++ more) 0).2.2).2.1,(xaT (xaP (uB xs.length ++ (xs.flatMap fun x => uB x.toNat) ++ uB A.toNat ++ more) 0).2.1 (xaP (uB xs.length ++ (xs.flatMap fun x => uB x.toNat) ++ uB A.toNat ++ more) 0).2.2).2.2⟩ : Got) = _
  have hm : xaP (uB xs.length ++ (xs.flatMap fun x => uB x.toNat) ++ uB A.toNat ++ more) 0 = (xs,uB A.toNat ++ more,0) := by
   have hL : xfT ((xs.length : Nat) : Int) := ⟨by omega,by omega⟩
   have hb := xeY ((xs.length : Nat) : Int) hL ((xs.flatMap fun x => uB x.toNat) ++ (uB A.toNat ++ more)) 0
   rw [Int.toNat_natCast] at hb
   rw [List.append_assoc,List.append_assoc]
   unfold xaP
   rw [hb]
   dsimp only
   rw [if_neg (by omega),Int.toNat_natCast,xkM xs _ hx]
  rw [hm]
  dsimp only
  rw [xeY A hN]
 ·show (⟨op,(xaT (uB A.toNat ++ [0] ++ more) 0).1,0,[],(xdZ (xaT (uB A.toNat ++ [0] ++ more) 0).2.1 (xaT (uB A.toNat ++ [0] ++ more) 0).2.2).1,(xdZ (xaT (uB A.toNat ++ [0] ++ more) 0).2.1 (xaT (uB A.toNat ++ [0] ++ more) 0).2.2).2⟩ : Got) = _
  rw [List.append_assoc,xeY A hN]
  rfl
 ·show (⟨op,(xaT (uB A.toNat ++ uB B.toNat ++ more) 0).1,(xaT (xaT (uB A.toNat ++ uB B.toNat ++ more) 0).2.1 (xaT (uB A.toNat ++ uB B.toNat ++ more) 0).2.2).1,[],(xaT (xaT (uB A.toNat ++ uB B.toNat ++ more) 0).2.1 (xaT (uB A.toNat ++ uB B.toNat ++ more) 0).2.2).2.1,(xaT (xaT (uB A.toNat ++ uB B.toNat ++ more) 0).2.1 (xaT (uB A.toNat ++ uB B.toNat ++ more) 0).2.2).2.2⟩ : Got) = _
  rw [List.append_assoc,xeY A hN]
  dsimp only
  rw [xeY B hM]
 ·rfl
 ·show (⟨op,(xcR 32 (sB A ++ more) 0).1,0,[],(xcR 32 (sB A ++ more) 0).2.1,(xcR 32 (sB A ++ more) 0).2.2⟩ : Got) = _
  rw [xoK 32 A 4 (Or.inl ⟨rfl,rfl,h1,by omega⟩)]
 ·show (⟨op,(xcR 64 (sB A ++ more) 0).1,0,[],(xcR 64 (sB A ++ more) 0).2.1,(xcR 64 (sB A ++ more) 0).2.2⟩ : Got) = _
  rw [xoK 64 A 9 (Or.inr ⟨rfl,rfl,hA.1,by omega⟩)]
end Go.Proofs.YtmmjgdaamkdncaaGreatDoor
