import Derived.Test.YtmmjgdaamkdncaaGreatDoorAGOne
import Derived.Below
import Derived.Laws.EntriesVeiled
import Derived.OwnWalk
namespace Go.Proofs.YtmmjgdaamkdncaaGreatDoor
set_option maxHeartbeats 4000000
set_option maxRecDepth 1000000
set_option linter.unusedVariables false
open Go.RowKit
def xfB (op : Int) : Int :=
 if op = 44 \/ op = 45 \/ op = 48 \/ op = 49 \/ op = 58 \/ op = 60 then 1
 else if op = 46 \/ op = 47 \/ op = 50 \/ op = 51 \/ op = 59 \/ op = 61 then 2
 else if op = 40 \/ op = 52 \/ op = 53 \/ op = 54 \/ op = 62 then 4
 else if op = 41 \/ op = 55 then 8 else 0
theorem xyG (w : World) : Calls Tryz.prog 135 #[.int .u8 44] w fun e w' => e = .returned (.int .i64 1) /\ w' = w := by
 go_enter Tryz.func135,Tryz.ntmps135
 go_wp2
 go_ret
 exact ⟨rfl,rfl⟩
theorem xyH (w : World) : Calls Tryz.prog 135 #[.int .u8 45] w fun e w' => e = .returned (.int .i64 1) /\ w' = w := by
 go_enter Tryz.func135,Tryz.ntmps135
 go_wp2
 go_ret
 exact ⟨rfl,rfl⟩
theorem xyK (w : World) : Calls Tryz.prog 135 #[.int .u8 48] w fun e w' => e = .returned (.int .i64 1) /\ w' = w := by
 go_enter Tryz.func135,Tryz.ntmps135
 go_wp2
 go_ret
 exact ⟨rfl,rfl⟩
theorem xyL (w : World) : Calls Tryz.prog 135 #[.int .u8 49] w fun e w' => e = .returned (.int .i64 1) /\ w' = w := by
 go_enter Tryz.func135,Tryz.ntmps135
 go_wp2
 go_ret
 exact ⟨rfl,rfl⟩
theorem xyS (w : World) : Calls Tryz.prog 135 #[.int .u8 58] w fun e w' => e = .returned (.int .i64 1) /\ w' = w := by
 go_enter Tryz.func135,Tryz.ntmps135
 go_wp2
 go_ret
 exact ⟨rfl,rfl⟩
theorem xyU (w : World) : Calls Tryz.prog 135 #[.int .u8 60] w fun e w' => e = .returned (.int .i64 1) /\ w' = w := by
 go_enter Tryz.func135,Tryz.ntmps135
 go_wp2
 go_ret
 exact ⟨rfl,rfl⟩
theorem xyI (w : World) : Calls Tryz.prog 135 #[.int .u8 46] w fun e w' => e = .returned (.int .i64 2) /\ w' = w := by
 go_enter Tryz.func135,Tryz.ntmps135
 go_wp2
 go_ret
 exact ⟨rfl,rfl⟩
theorem xyJ (w : World) : Calls Tryz.prog 135 #[.int .u8 47] w fun e w' => e = .returned (.int .i64 2) /\ w' = w := by
 go_enter Tryz.func135,Tryz.ntmps135
 go_wp2
 go_ret
 exact ⟨rfl,rfl⟩
theorem xyM (w : World) : Calls Tryz.prog 135 #[.int .u8 50] w fun e w' => e = .returned (.int .i64 2) /\ w' = w := by
 go_enter Tryz.func135,Tryz.ntmps135
 go_wp2
 go_ret
 exact ⟨rfl,rfl⟩
theorem xyN (w : World) : Calls Tryz.prog 135 #[.int .u8 51] w fun e w' => e = .returned (.int .i64 2) /\ w' = w := by
 go_enter Tryz.func135,Tryz.ntmps135
 go_wp2
 go_ret
 exact ⟨rfl,rfl⟩
theorem xyT (w : World) : Calls Tryz.prog 135 #[.int .u8 59] w fun e w' => e = .returned (.int .i64 2) /\ w' = w := by
 go_enter Tryz.func135,Tryz.ntmps135
 go_wp2
 go_ret
 exact ⟨rfl,rfl⟩
theorem xyV (w : World) : Calls Tryz.prog 135 #[.int .u8 61] w fun e w' => e = .returned (.int .i64 2) /\ w' = w := by
 go_enter Tryz.func135,Tryz.ntmps135
 go_wp2
 go_ret
 exact ⟨rfl,rfl⟩
theorem xyE (w : World) : Calls Tryz.prog 135 #[.int .u8 40] w fun e w' => e = .returned (.int .i64 4) /\ w' = w := by
 go_enter Tryz.func135,Tryz.ntmps135
 go_wp2
 go_ret
 exact ⟨rfl,rfl⟩
theorem xyO (w : World) : Calls Tryz.prog 135 #[.int .u8 52] w fun e w' => e = .returned (.int .i64 4) /\ w' = w := by
 go_enter Tryz.func135,Tryz.ntmps135
 go_wp2
 go_ret
 exact ⟨rfl,rfl⟩
theorem xyP (w : World) : Calls Tryz.prog 135 #[.int .u8 53] w fun e w' => e = .returned (.int .i64 4) /\ w' = w := by
 go_enter Tryz.func135,Tryz.ntmps135
 go_wp2
 go_ret
 exact ⟨rfl,rfl⟩
theorem xyQ (w : World) : Calls Tryz.prog 135 #[.int .u8 54] w fun e w' => e = .returned (.int .i64 4) /\ w' = w := by
 go_enter Tryz.func135,Tryz.ntmps135
 go_wp2
 go_ret
 exact ⟨rfl,rfl⟩
theorem xyW (w : World) : Calls Tryz.prog 135 #[.int .u8 62] w fun e w' => e = .returned (.int .i64 4) /\ w' = w := by
 go_enter Tryz.func135,Tryz.ntmps135
 go_wp2
 go_ret
 exact ⟨rfl,rfl⟩
theorem xyF (w : World) : Calls Tryz.prog 135 #[.int .u8 41] w fun e w' => e = .returned (.int .i64 8) /\ w' = w := by
 go_enter Tryz.func135,Tryz.ntmps135
 go_wp2
 go_ret
 exact ⟨rfl,rfl⟩
theorem xyR (w : World) : Calls Tryz.prog 135 #[.int .u8 55] w fun e w' => e = .returned (.int .i64 8) /\ w' = w := by
 go_enter Tryz.func135,Tryz.ntmps135
 go_wp2
 go_ret
 exact ⟨rfl,rfl⟩
theorem xyX (op : Int) (_h44 : (op == 44) = false) (_h45 : (op == 45) = false) (_h48 : (op == 48) = false) (_h49 : (op == 49) = false) (_h58 : (op == 58) = false) (_h60 : (op == 60) = false) (_h46 : (op == 46) = false) (_h47 : (op == 47) = false) (_h50 : (op == 50) = false) (_h51 : (op == 51) = false) (_h59 : (op == 59) = false) (_h61 : (op == 61) = false) (_h40 : (op == 40) = false) (_h52 : (op == 52) = false) (_h53 : (op == 53) = false) (_h54 : (op == 54) = false) (_h62 : (op == 62) = false) (_h41 : (op == 41) = false) (_h55 : (op == 55) = false) (w : World) : Calls Tryz.prog 135 #[.int .u8 op] w fun e w' => e = .returned (.int .i64 0) /\ w' = w := by
 go_enter Tryz.func135,Tryz.ntmps135
 go_wp2
 go_ret
 exact ⟨rfl,rfl⟩
theorem xnO (op : Int) (w : World) : Calls Tryz.prog 135 #[.int .u8 op] w fun e w' => e = .returned (.int .i64 (xfB op)) /\ w' = w := by
 by_cases h44 : op = 44
 ·subst h44; exact xyG w
 by_cases h45 : op = 45
 ·subst h45; exact xyH w
 by_cases h48 : op = 48
 ·subst h48; exact xyK w
 by_cases h49 : op = 49
 ·subst h49; exact xyL w
 by_cases h58 : op = 58
 ·subst h58; exact xyS w
 by_cases h60 : op = 60
 ·subst h60; exact xyU w
 by_cases h46 : op = 46
 ·subst h46; exact xyI w
 by_cases h47 : op = 47
 ·subst h47; exact xyJ w
 by_cases h50 : op = 50
 ·subst h50; exact xyM w
 by_cases h51 : op = 51
 ·subst h51; exact xyN w
 by_cases h59 : op = 59
 ·subst h59; exact xyT w
 by_cases h61 : op = 61
 ·subst h61; exact xyV w
 by_cases h40 : op = 40
 ·subst h40; exact xyE w
 by_cases h52 : op = 52
 ·subst h52; exact xyO w
 by_cases h53 : op = 53
 ·subst h53; exact xyP w
 by_cases h54 : op = 54
 ·subst h54; exact xyQ w
 by_cases h62 : op = 62
 ·subst h62; exact xyW w
 by_cases h41 : op = 41
 ·subst h41; exact xyF w
 by_cases h55 : op = 55
 ·subst h55; exact xyR w
 have e : xfB op = 0 := by
  unfold xfB
  rw [if_neg (by omega),if_neg (by omega),if_neg (by omega),if_neg (by omega)]
 rw [e]
 exact xyX op (by rw [beq_eq_false_iff_ne]; exact h44) (by rw [beq_eq_false_iff_ne]; exact h45) (by rw [beq_eq_false_iff_ne]; exact h48) (by rw [beq_eq_false_iff_ne]; exact h49) (by rw [beq_eq_false_iff_ne]; exact h58) (by rw [beq_eq_false_iff_ne]; exact h60) (by rw [beq_eq_false_iff_ne]; exact h46) (by rw [beq_eq_false_iff_ne]; exact h47) (by rw [beq_eq_false_iff_ne]; exact h50) (by rw [beq_eq_false_iff_ne]; exact h51) (by rw [beq_eq_false_iff_ne]; exact h59) (by rw [beq_eq_false_iff_ne]; exact h61) (by rw [beq_eq_false_iff_ne]; exact h40) (by rw [beq_eq_false_iff_ne]; exact h52) (by rw [beq_eq_false_iff_ne]; exact h53) (by rw [beq_eq_false_iff_ne]; exact h54) (by rw [beq_eq_false_iff_ne]; exact h62) (by rw [beq_eq_false_iff_ne]; exact h41) (by rw [beq_eq_false_iff_ne]; exact h55) w
def xfN (op : Int) : Bool := (70 <= op && op <= 79) || (81 <= op && op <= 90) || (106 <= op && op <= 120) || (124 <= op && op <= 138)
def xxB (op : Int) : Int := if xmA op then 1 else if xfN op then 2 else 0
theorem ykJ (op : Int) (h : 70 <= op /\ op <= 79) : ∃ R,∀ w,Calls Tryz.prog 144 #[.int .u8 op,.int .i64 1,.int .i64 1] w fun e w' => e = .returned (.tuple #[.int .i64 R,.int .i64 0]) /\ Below w.heap.size w w' := by
 have h : op = 70 \/ op = 71 \/ op = 72 \/ op = 73 \/ op = 74 \/ op = 75 \/ op = 76 \/ op = 77 \/ op = 78 \/ op = 79 := by omega
 rcases h with rfl | rfl | rfl | rfl | rfl | rfl | rfl | rfl | rfl | rfl
 all_goals
  apply Exists.intro
  intro w
  go_enter Tryz.func144,Tryz.ntmps144
  go_wp2
  go_ret2
  exact ⟨rfl,Below.refl _ _⟩
theorem ykK (op : Int) (h : 81 <= op /\ op <= 90) : ∃ R,∀ w,Calls Tryz.prog 144 #[.int .u8 op,.int .i64 1,.int .i64 1] w fun e w' => e = .returned (.tuple #[.int .i64 R,.int .i64 0]) /\ Below w.heap.size w w' := by
 have h : op = 81 \/ op = 82 \/ op = 83 \/ op = 84 \/ op = 85 \/ op = 86 \/ op = 87 \/ op = 88 \/ op = 89 \/ op = 90 := by omega
 rcases h with rfl | rfl | rfl | rfl | rfl | rfl | rfl | rfl | rfl | rfl
 all_goals
  apply Exists.intro
  intro w
  go_enter Tryz.func144,Tryz.ntmps144
  go_wp2
  go_ret2
  exact ⟨rfl,Below.refl _ _⟩
theorem ykL (op : Int) (h : 106 <= op /\ op <= 115) : ∃ R,∀ w,Calls Tryz.prog 144 #[.int .u8 op,.int .i64 1,.int .i64 1] w fun e w' => e = .returned (.tuple #[.int .i64 R,.int .i64 0]) /\ Below w.heap.size w w' := by
 have h : op = 106 \/ op = 107 \/ op = 108 \/ op = 109 \/ op = 110 \/ op = 111 \/ op = 112 \/ op = 113 \/ op = 114 \/ op = 115 := by omega
 rcases h with rfl | rfl | rfl | rfl | rfl | rfl | rfl | rfl | rfl | rfl
 all_goals
  apply Exists.intro
  intro w
  go_enter Tryz.func144,Tryz.ntmps144
  go_wp2
  go_ret2
  exact ⟨rfl,Below.refl _ _⟩
theorem ykM (op : Int) (h : 124 <= op /\ op <= 133) : ∃ R,∀ w,Calls Tryz.prog 144 #[.int .u8 op,.int .i64 1,.int .i64 1] w fun e w' => e = .returned (.tuple #[.int .i64 R,.int .i64 0]) /\ Below w.heap.size w w' := by
 have h : op = 124 \/ op = 125 \/ op = 126 \/ op = 127 \/ op = 128 \/ op = 129 \/ op = 130 \/ op = 131 \/ op = 132 \/ op = 133 := by omega
 rcases h with rfl | rfl | rfl | rfl | rfl | rfl | rfl | rfl | rfl | rfl
 all_goals
  apply Exists.intro
  intro w
  go_enter Tryz.func144,Tryz.ntmps144
  go_wp2
  go_ret2
  exact ⟨rfl,Below.refl _ _⟩
theorem ykN (op : Int) (h : 116 <= op /\ op <= 120) : ∃ R,∀ w,Calls Tryz.prog 144 #[.int .u8 op,.int .i64 1,.int .i64 1] w fun e w' => e = .returned (.tuple #[.int .i64 R,.int .i64 0]) /\ Below w.heap.size w w' := by
 have h : op = 116 \/ op = 117 \/ op = 118 \/ op = 119 \/ op = 120 := by omega
 rcases h with rfl | rfl | rfl | rfl | rfl
 all_goals
  apply Exists.intro
  intro w
  go_enter Tryz.func144,Tryz.ntmps144
  go_wp2_with fail
  go_enter Tryz.func153,Tryz.ntmps153
  go_wp2_with fail
  go_enter Tryz.func157,Tryz.ntmps157
  go_wp2_with fail
  go_enter Tryz.func179,Tryz.ntmps179
  go_wp2_with fail
  refine (xmK _).mono ?_
  rintro r w1 ⟨rfl,rfl⟩
  go_wp2
  first
   | (go_ret2; exact ⟨rfl,Below.refl _ _⟩)
   | (go_region; all_goals (go_wp2; go_ret2; exact ⟨rfl,⟨rfl,rfl,rfl,Nat.le_refl _,fun _ _ => rfl⟩⟩))
theorem ykO (op : Int) (h : 134 <= op /\ op <= 138) : ∃ R,∀ w,Calls Tryz.prog 144 #[.int .u8 op,.int .i64 1,.int .i64 1] w fun e w' => e = .returned (.tuple #[.int .i64 R,.int .i64 0]) /\ Below w.heap.size w w' := by
 have h : op = 134 \/ op = 135 \/ op = 136 \/ op = 137 \/ op = 138 := by omega
 rcases h with rfl | rfl | rfl | rfl | rfl
 all_goals
  apply Exists.intro
  intro w
  go_enter Tryz.func144,Tryz.ntmps144
  go_wp2_with fail
  go_enter Tryz.func153,Tryz.ntmps153
  go_wp2_with fail
  go_enter Tryz.func156,Tryz.ntmps156
  go_wp2_with fail
  go_enter Tryz.func173,Tryz.ntmps173
  go_wp2_with fail
  refine (xmL _).mono ?_
  rintro r w1 ⟨rfl,rfl⟩
  go_wp2
  first
   | (go_ret2; exact ⟨rfl,Below.refl _ _⟩)
   | (go_region; all_goals (go_wp2; go_ret2; exact ⟨rfl,⟨rfl,rfl,rfl,Nat.le_refl _,fun _ _ => rfl⟩⟩))
theorem ylR (op : Int) (h : op = 69 \/ op = 80 \/ op = 192 \/ op = 194 \/ op = 193 \/ op = 195 \/ op = 167 \/ op = 172 \/ op = 196 \/ op = 173 \/ op = 105 \/ op = 123) : ∃ R,∀ w,Calls Tryz.prog 143 #[.int .u8 op,.int .i64 1] w fun e w' => e = .returned (.tuple #[.int .i64 R,.int .i64 0]) /\ w' = w := by
 rcases h with rfl | rfl | rfl | rfl | rfl | rfl | rfl | rfl | rfl | rfl | rfl | rfl
 all_goals
  apply Exists.intro
  intro w
  go_enter Tryz.func143,Tryz.ntmps143
  go_wp2
  go_ret2
  exact ⟨rfl,rfl⟩
theorem yhR (x : Int) (h0 : 1 <= x) (h1 : x <= 1) (_h2 : 0 <= x) (_h3 : x <= 255) (w : World) :
  Calls Tryz.prog 164 #[.int .u64 x] w fun e w' => e = .returned (.int .i64 1) /\ w' = w := by
 go_enter Tryz.func164,Tryz.ntmps164
 go_wp2
 go_ret
 obtain rfl : x = 1 := by omega
 exact ri (by decide +kernel +revert)
theorem tz1 (w : World) (hT : TabIn w) : Calls Tryz.prog 165 #[.int .u64 1] w fun e w' => e = .returned (.int .i64 0) /\ w' = w :=
 xuE 1 0 0 w rfl (by decide +kernel) (by decide) (by decide) (hT 0 (by decide))
theorem ydI (w : World) (_hT : TabIn w) : ∃ R,Calls Tryz.prog 143 #[.int .u8 103,.int .i64 1] w fun e w' => e = .returned (.tuple #[.int .i64 R,.int .i64 0]) /\ w' = w := by
 have HT : Hid (TabIn w) := _hT
 clear _hT
 apply Exists.intro
 go_enter Tryz.func143,Tryz.ntmps143
 go_wp2_with fail
 go_enter Tryz.func153,Tryz.ntmps153
 go_wp2_with fail
 go_enter Tryz.func155,Tryz.ntmps155
 go_wp2_with fail
 refine (xmK _).mono ?_
 rintro r w1 ⟨rfl,rfl⟩
 go_wp2_with fail
 refine (yhR _ (by decide +kernel) (by decide +kernel) (by decide +kernel) (by decide +kernel) _).mono ?_
 rintro r w1 ⟨rfl,rfl⟩
 go_wp2
 go_ret2
 exact ⟨rfl,rfl⟩
theorem ydK (w : World) (_hT : TabIn w) : ∃ R,Calls Tryz.prog 143 #[.int .u8 121,.int .i64 1] w fun e w' => e = .returned (.tuple #[.int .i64 R,.int .i64 0]) /\ w' = w := by
 have HT : Hid (TabIn w) := _hT
 clear _hT
 apply Exists.intro
 go_enter Tryz.func143,Tryz.ntmps143
 go_wp2_with fail
 go_enter Tryz.func153,Tryz.ntmps153
 go_wp2_with fail
 go_enter Tryz.func154,Tryz.ntmps154
 go_wp2_with fail
 refine (xmL _).mono ?_
 rintro r w1 ⟨rfl,rfl⟩
 go_wp2_with fail
 refine (yhR _ (by decide +kernel) (by decide +kernel) (by decide +kernel) (by decide +kernel) _).mono ?_
 rintro r w1 ⟨rfl,rfl⟩
 go_wp2
 go_ret2
 exact ⟨rfl,rfl⟩
theorem ydJ (w : World) (_hT : TabIn w) : ∃ R,Calls Tryz.prog 143 #[.int .u8 104,.int .i64 1] w fun e w' => e = .returned (.tuple #[.int .i64 R,.int .i64 0]) /\ w' = w := by
 have HT : Hid (TabIn w) := _hT
 clear _hT
 apply Exists.intro
 go_enter Tryz.func143,Tryz.ntmps143
 go_wp2_with fail
 go_enter Tryz.func153,Tryz.ntmps153
 go_wp2_with fail
 go_enter Tryz.func155,Tryz.ntmps155
 go_wp2_with fail
 refine (xmK _).mono ?_
 rintro r w1 ⟨rfl,rfl⟩
 go_wp2_with fail
 refine (tz1 _ HT.out).mono ?_
 rintro r w1 ⟨rfl,rfl⟩
 go_wp2
 go_ret2
 exact ⟨rfl,rfl⟩
theorem ydL (w : World) (_hT : TabIn w) : ∃ R,Calls Tryz.prog 143 #[.int .u8 122,.int .i64 1] w fun e w' => e = .returned (.tuple #[.int .i64 R,.int .i64 0]) /\ w' = w := by
 have HT : Hid (TabIn w) := _hT
 clear _hT
 apply Exists.intro
 go_enter Tryz.func143,Tryz.ntmps143
 go_wp2_with fail
 go_enter Tryz.func153,Tryz.ntmps153
 go_wp2_with fail
 go_enter Tryz.func154,Tryz.ntmps154
 go_wp2_with fail
 refine (xmL _).mono ?_
 rintro r w1 ⟨rfl,rfl⟩
 go_wp2_with fail
 refine (tz1 _ HT.out).mono ?_
 rintro r w1 ⟨rfl,rfl⟩
 go_wp2
 go_ret2
 exact ⟨rfl,rfl⟩
theorem ydO (op : Int) (h0 : 0 <= op) (h1 : op <= 255) (w : World) (hT : TabIn w) : ∃ R,Calls Tryz.prog 143 #[.int .u8 op,.int .i64 1] w fun e w' => e = .returned (.tuple #[.int .i64 R,.int .i64 (if xmA op then 0 else 6)]) /\ w' = w := by
 by_cases hA : op = 69 \/ op = 80 \/ op = 192 \/ op = 194 \/ op = 193 \/ op = 195 \/ op = 167 \/ op = 172 \/ op = 196 \/ op = 173 \/ op = 105 \/ op = 123
 ·have e : xmA op = true := by rcases hA with rfl | rfl | rfl | rfl | rfl | rfl | rfl | rfl | rfl | rfl | rfl | rfl <;> decide
  rw [e]
  obtain ⟨R,hR⟩ := ylR op hA
  exact ⟨R,hR w⟩
 by_cases h103 : op = 103
 ·subst h103
  exact ydI w hT
 by_cases h121 : op = 121
 ·subst h121
  exact ydK w hT
 by_cases h104 : op = 104
 ·subst h104
  exact ydJ w hT
 by_cases h122 : op = 122
 ·subst h122
  exact ydL w hT
 have e : xmA op = false := by
  simp only [xmA,Bool.or_eq_false_iff,Bool.and_eq_false_iff,beq_eq_false_iff_ne,decide_eq_false_iff_not]
  omega
 rw [e]
 exact ⟨_,ydV op 1 h0 h1 e w⟩
theorem xaO {Z : Value} {P : Program} {f : Nat} {args : Array Value} (h : ∀ w,Calls P f args w fun e w' => e = .returned Z /\ w' = w) (w : World) : Calls P f args w fun e w' => e = .returned Z /\ Below w.heap.size w w' := by
 refine (h w).mono ?_
 rintro e w1 ⟨rfl,rfl⟩
 exact ⟨rfl,Below.refl _ _⟩
theorem ycT (op : Int) (h0 : 0 <= op) (h1 : op <= 255) (w : World) : ∃ R,Calls Tryz.prog 144 #[.int .u8 op,.int .i64 1,.int .i64 1] w fun e w' => e = .returned (.tuple #[.int .i64 R,.int .i64 (if xfN op then 0 else 6)]) /\ Below w.heap.size w w' := by
 by_cases ha : 70 <= op /\ op <= 79
 ·have e : xfN op = true := by
   simp only [xfN,Bool.or_eq_true,Bool.and_eq_true,decide_eq_true_eq]
   omega
  rw [e]
  obtain ⟨R,hR⟩ := ykJ op ha
  exact ⟨R,hR w⟩
 by_cases hb : 81 <= op /\ op <= 90
 ·have e : xfN op = true := by
   simp only [xfN,Bool.or_eq_true,Bool.and_eq_true,decide_eq_true_eq]
   omega
  rw [e]
  obtain ⟨R,hR⟩ := ykK op hb
  exact ⟨R,hR w⟩
 by_cases hc : 106 <= op /\ op <= 115
 ·have e : xfN op = true := by
   simp only [xfN,Bool.or_eq_true,Bool.and_eq_true,decide_eq_true_eq]
   omega
  rw [e]
  obtain ⟨R,hR⟩ := ykL op hc
  exact ⟨R,hR w⟩
 by_cases hd : 124 <= op /\ op <= 133
 ·have e : xfN op = true := by
   simp only [xfN,Bool.or_eq_true,Bool.and_eq_true,decide_eq_true_eq]
   omega
  rw [e]
  obtain ⟨R,hR⟩ := ykM op hd
  exact ⟨R,hR w⟩
 by_cases hm : 116 <= op /\ op <= 120
 ·have e : xfN op = true := by
   simp only [xfN,Bool.or_eq_true,Bool.and_eq_true,decide_eq_true_eq]
   omega
  rw [e]
  obtain ⟨R,hR⟩ := ykN op hm
  exact ⟨R,hR w⟩
 by_cases hn : 134 <= op /\ op <= 138
 ·have e : xfN op = true := by
   simp only [xfN,Bool.or_eq_true,Bool.and_eq_true,decide_eq_true_eq]
   omega
  rw [e]
  obtain ⟨R,hR⟩ := ykO op hn
  exact ⟨R,hR w⟩
 have e : xfN op = false := by
  simp only [xfN,Bool.or_eq_false_iff,Bool.and_eq_false_iff,decide_eq_false_iff_not]
  omega
 rw [e]
 refine ⟨0,xaO ?_ w⟩
 intro w
 by_cases hza : 80 <= op /\ op <= 90
 ·exact xwZ op 1 1 0 6 hza.1 hza.2 (fun w w' => w' = w) (fun w => xjM (op - 11) 1 1 (kZb (by omega)) (kZb (by omega)) (kZb (by omega)) (kZb (by omega)) (kZb (by omega)) (kZb (by omega)) (kZb (by omega)) (kZb (by omega)) (kZb (by omega)) (kZb (by omega)) (kZb (by omega)) (kZb (by omega)) (kZb (by omega)) (kZb (by omega)) (kZb (by omega)) (kZb (by omega)) (kZb (by omega)) (kZb (by omega)) (kZb (by omega)) (kZb (by omega)) (kZb (by omega)) (kZb (by omega)) (kZb (by omega)) (kZb (by omega)) (kZb (by omega)) w) w
 by_cases hzm : 121 <= op /\ op <= 138
 ·exact xtJ op 1 1 0 6 hzm.1 hzm.2 (fun w w' => w' = w) (fun w => xjM (op - 18) 1 1 (kZb (by omega)) (kZb (by omega)) (kZb (by omega)) (kZb (by omega)) (kZb (by omega)) (kZb (by omega)) (kZb (by omega)) (kZb (by omega)) (kZb (by omega)) (kZb (by omega)) (kZb (by omega)) (kZb (by omega)) (kZb (by omega)) (kZb (by omega)) (kZb (by omega)) (kZb (by omega)) (kZb (by omega)) (kZb (by omega)) (kZb (by omega)) (kZb (by omega)) (kZb (by omega)) (kZb (by omega)) (kZb (by omega)) (kZb (by omega)) (kZb (by omega)) w) w
 ·exact xtK op 1 1 0 6 (by omega) (by omega) (by omega) (fun w w' => w' = w) (fun w => xpY op _ _ (kZb (by omega)) (kZb (by omega)) (kZb (by omega)) (kZb (by omega)) (kZb (by omega)) (kZb (by omega)) (kZb (by omega)) (kZb (by omega)) (kZb (by omega)) (kZb (by omega)) (kZb (by omega)) (kZb (by omega)) (kZb (by omega)) (kZb (by omega)) (kZb (by omega)) (kZb (by omega)) (kZb (by omega)) (kZb (by omega)) (kZb (by omega)) (kZb (by omega)) (kZb (by omega)) (kZb (by omega)) (kZb (by omega)) (kZb (by omega)) (kZb (by omega)) w) w
theorem xsG (op R1 E1 R2 E2 N : Int) (h : (E1 = 0 /\ N = 1) \/ (E1 = 6 /\ E2 = 0 /\ N = 2) \/ (E1 = 6 /\ E2 = 6 /\ N = 0)) (w : World) (HO : Hid (Calls Tryz.prog 143 #[.int .u8 op,.int .i64 1] w fun e w' => e = .returned (.tuple #[.int .i64 R1,.int .i64 E1]) /\ w' = w)) (HT : Hid (Calls Tryz.prog 144 #[.int .u8 op,.int .i64 1,.int .i64 1] w fun e w' => e = .returned (.tuple #[.int .i64 R2,.int .i64 E2]) /\ Below w.heap.size w w')) :
  Calls Tryz.prog 136 #[.int .u8 op] w fun e w' => e = .returned (.int .i64 N) /\ Below w.heap.size w w' := by
 rcases h with ⟨rfl,rfl⟩ | ⟨rfl,rfl,rfl⟩ | ⟨rfl,rfl,rfl⟩
 ·go_enter Tryz.func136,Tryz.ntmps136
  go_wp2_with fail
  refine HO.out.mono ?_
  rintro e w1 ⟨rfl,rfl⟩
  go_wp2
  go_ret
  exact ⟨rfl,Below.refl _ _⟩
 ·go_enter Tryz.func136,Tryz.ntmps136
  go_wp2_with fail
  refine HO.out.mono ?_
  rintro e w1 ⟨rfl,rfl⟩
  go_wp2_with fail
  refine HT.out.mono ?_
  rintro e w1 ⟨rfl,b⟩
  go_wp2
  go_ret
  exact ⟨rfl,b⟩
 ·go_enter Tryz.func136,Tryz.ntmps136
  go_wp2_with fail
  refine HO.out.mono ?_
  rintro e w1 ⟨rfl,rfl⟩
  go_wp2_with fail
  refine HT.out.mono ?_
  rintro e w1 ⟨rfl,b⟩
  go_wp2
  go_ret
  exact ⟨rfl,b⟩
theorem xuC (op : Int) (h0 : 0 <= op) (h1 : op <= 255) (w : World) (hT : TabIn w) :
  Calls Tryz.prog 136 #[.int .u8 op] w fun e w' => e = .returned (.int .i64 (xxB op)) /\ Below w.heap.size w w' := by
 obtain ⟨R1,c1⟩ := ydO op h0 h1 w hT
 obtain ⟨R2,c2⟩ := ycT op h0 h1 w
 refine xsG op R1 _ R2 _ _ ?_ w c1 c2
 unfold xxB
 cases xmA op <;> cases xfN op <;> simp
theorem xuX (op : Int) : 0 <= xfB op := by
 unfold xfB
 split
 ·omega
 ·split
  ·omega
  ·split
   ·omega
   ·split <;> omega
end Go.Proofs.YtmmjgdaamkdncaaGreatDoor
