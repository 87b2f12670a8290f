import Derived.Laws.Bits128
import Derived.Laws.BitsAllLaws
import Derived.Laws.BitsLemmas
import Derived.WalkKit
import Derived.Test.YtmmjgdaamkdncaaGreatDoorProg
import Derived.WalkSpells
import Derived.WalkSmall
import Derived.Deep.QuietTactic
import Derived.BigQuiet
import Derived.Test.YtmmjgdaamkdncaaGreatDoorAHd
namespace Go.Proofs.YtmmjgdaamkdncaaGreatDoor
set_option maxHeartbeats 1000000
set_option maxRecDepth 1000000
set_option linter.unusedVariables false
open Go.RowKit
theorem ri {k : IntKind} {a b : Int} {w : World} (h : a = b) : Ending.returned (.int k a) = .returned (.int k b) /\ w = w := by rw [h]; exact ⟨rfl,rfl⟩
theorem r2 {k l : IntKind} {a b c d : Int} {w : World} (h : a = b) (h' : c = d) : Ending.returned (.tuple #[.int k a,.int l c]) = .returned (.tuple #[.int k b,.int l d]) /\ w = w := by rw [h,h']; exact ⟨rfl,rfl⟩
theorem yhS (x : Int) (h0 : 4294967295 <= x) (h1 : x <= 4294967295) (w : World) :
  Calls Tryz.prog 164 #[.int .u64 x] w fun e w' => e = .returned (.int .i64 32) /\ w' = w := by
 go_enter Tryz.func164,Tryz.ntmps164
 go_wp2
 go_ret
 have hx : x = 4294967295 := by omega
 subst hx
 exact ri (by decide +kernel +revert)
theorem xmK (w : World) :
  Calls Tryz.prog 167 #[] w fun e w' => e = .returned (.int .i64 32) /\ w' = w := by
 go_enter Tryz.func167,Tryz.ntmps167
 go_wp2_with fail
 refine (yhS _ (by decide +kernel) (by decide +kernel) _).mono ?_
 rintro e w1 ⟨rfl,rfl⟩
 go_wp2
 go_ret
 exact ri rfl
theorem yhT (x : Int) (h0 : 18446744073709551615 <= x) (h1 : x <= 18446744073709551615) (w : World) :
  Calls Tryz.prog 164 #[.int .u64 x] w fun e w' => e = .returned (.int .i64 64) /\ w' = w := by
 go_enter Tryz.func164,Tryz.ntmps164
 go_wp2
 go_ret
 have hx : x = 18446744073709551615 := by omega
 subst hx
 exact ri (by decide +kernel +revert)
theorem xmL (w : World) :
  Calls Tryz.prog 163 #[] w fun e w' => e = .returned (.int .i64 64) /\ w' = w := by
 go_enter Tryz.func163,Tryz.ntmps163
 go_wp2_with fail
 refine (yhT _ (by decide +kernel) (by decide +kernel) _).mono ?_
 rintro e w1 ⟨rfl,rfl⟩
 go_wp2
 go_ret
 exact ri rfl
theorem xlJ (op : Int) (_h0 : 80 <= op) (_h1 : op <= 90) (w : World) :
  Calls Tryz.prog 153 #[.int .u8 op] w fun e w' => e = .returned (.tuple #[.int .u8 (op - 11),.bool true]) /\ w' = w := by
 go_enter Tryz.func153,Tryz.ntmps153
 go_wp2
 go_ret2
 exact ⟨rfl,rfl⟩
theorem xjH (op : Int) (_h0 : 121 <= op) (_h1 : op <= 138) (w : World) :
  Calls Tryz.prog 153 #[.int .u8 op] w fun e w' => e = .returned (.tuple #[.int .u8 (op - 18),.bool true]) /\ w' = w := by
 go_enter Tryz.func153,Tryz.ntmps153
 go_wp2
 go_ret2
 exact ⟨rfl,rfl⟩
theorem xvS (op : Int) (_h0 : 0 <= op) (_h1 : op < 80) (w : World) :
  Calls Tryz.prog 153 #[.int .u8 op] w fun e w' => e = .returned (.tuple #[.int .u8 (op),.bool false]) /\ w' = w := by
 go_enter Tryz.func153,Tryz.ntmps153
 go_wp2
 go_ret2
 exact ⟨rfl,rfl⟩
theorem xvT (op : Int) (_h0 : 90 < op) (_h1 : op < 121) (w : World) :
  Calls Tryz.prog 153 #[.int .u8 op] w fun e w' => e = .returned (.tuple #[.int .u8 (op),.bool false]) /\ w' = w := by
 go_enter Tryz.func153,Tryz.ntmps153
 go_wp2
 go_ret2
 exact ⟨rfl,rfl⟩
theorem xvU (op : Int) (_h0 : 138 < op) (_h1 : op <= 255) (w : World) :
  Calls Tryz.prog 153 #[.int .u8 op] w fun e w' => e = .returned (.tuple #[.int .u8 (op),.bool false]) /\ w' = w := by
 go_enter Tryz.func153,Tryz.ntmps153
 go_wp2
 go_ret2
 exact ⟨rfl,rfl⟩
theorem xwZ (op a b R E : Int) (h0 : 80 <= op) (h1 : op <= 90) (Q : World -> World -> Prop) (HL : Hid (∀ w,Calls Tryz.prog 156 #[.int .u8 (op - 11),.int .i64 a,.int .i64 b] w fun e w' => e = .returned (.tuple #[.int .i64 R,.int .i64 E]) /\ Q w w')) (w : World) :
  Calls Tryz.prog 144 #[.int .u8 op,.int .i64 a,.int .i64 b] w fun e w' => e = .returned (.tuple #[.int .i64 R,.int .i64 E]) /\ Q w w' := by
 have HS : Hid (∀ w,Calls Tryz.prog 153 #[.int .u8 op] w fun e w' => e = .returned (.tuple #[.int .u8 (op - 11),.bool true]) /\ w' = w) := fun w => xlJ op h0 h1 w
 go_enter Tryz.func144,Tryz.ntmps144
 go_wp2_with fail
 refine (HS.out _).mono ?_
 rintro e w1 ⟨rfl,rfl⟩
 go_wp2_with fail
 refine (HL.out _).mono ?_
 rintro e w2 ⟨rfl,b1⟩
 go_wp2
 go_ret2
 exact ⟨rfl,b1⟩
theorem xtJ (op a b R E : Int) (h0 : 121 <= op) (h1 : op <= 138) (Q : World -> World -> Prop) (HL : Hid (∀ w,Calls Tryz.prog 156 #[.int .u8 (op - 18),.int .i64 a,.int .i64 b] w fun e w' => e = .returned (.tuple #[.int .i64 R,.int .i64 E]) /\ Q w w')) (w : World) :
  Calls Tryz.prog 144 #[.int .u8 op,.int .i64 a,.int .i64 b] w fun e w' => e = .returned (.tuple #[.int .i64 R,.int .i64 E]) /\ Q w w' := by
 have HS : Hid (∀ w,Calls Tryz.prog 153 #[.int .u8 op] w fun e w' => e = .returned (.tuple #[.int .u8 (op - 18),.bool true]) /\ w' = w) := fun w => xjH op h0 h1 w
 go_enter Tryz.func144,Tryz.ntmps144
 go_wp2_with fail
 refine (HS.out _).mono ?_
 rintro e w1 ⟨rfl,rfl⟩
 go_wp2_with fail
 refine (HL.out _).mono ?_
 rintro e w2 ⟨rfl,b1⟩
 go_wp2
 go_ret2
 exact ⟨rfl,b1⟩
theorem xtK (op a b R E : Int) (h0 : 0 <= op) (h1 : op <= 255) (h2 : op < 80 \/ 90 < op /\ op < 121 \/ 138 < op) (Q : World -> World -> Prop) (HL : Hid (∀ w,Calls Tryz.prog 157 #[.int .u8 (op),.int .i32 (wrap32 a),.int .i32 (wrap32 b)] w fun e w' => e = .returned (.tuple #[.int .i64 R,.int .i64 E]) /\ Q w w')) (w : World) :
  Calls Tryz.prog 144 #[.int .u8 op,.int .i64 a,.int .i64 b] w fun e w' => e = .returned (.tuple #[.int .i64 R,.int .i64 E]) /\ Q w w' := by
 have HS : Hid (∀ w,Calls Tryz.prog 153 #[.int .u8 op] w fun e w' => e = .returned (.tuple #[.int .u8 (op),.bool false]) /\ w' = w) := by
  intro w
  rcases h2 with h | h | h
  ·exact xvS op h0 h w
  ·exact xvT op h.1 h.2 w
  ·exact xvU op h h1 w
 go_enter Tryz.func144,Tryz.ntmps144
 go_wp2_with fail
 refine (HS.out _).mono ?_
 rintro e w1 ⟨rfl,rfl⟩
 go_wp2_with fail
 refine (HL.out _).mono ?_
 rintro e w2 ⟨rfl,b1⟩
 go_wp2
 go_ret2
 exact ⟨rfl,b1⟩
theorem xpY (op a b : Int) (_h70 : (op == 70) = false) (_h71 : (op == 71) = false) (_h72 : (op == 72) = false) (_h73 : (op == 73) = false) (_h74 : (op == 74) = false) (_h75 : (op == 75) = false) (_h76 : (op == 76) = false) (_h77 : (op == 77) = false) (_h78 : (op == 78) = false) (_h79 : (op == 79) = false) (_h106 : (op == 106) = false) (_h107 : (op == 107) = false) (_h108 : (op == 108) = false) (_h109 : (op == 109) = false) (_h110 : (op == 110) = false) (_h111 : (op == 111) = false) (_h112 : (op == 112) = false) (_h113 : (op == 113) = false) (_h114 : (op == 114) = false) (_h115 : (op == 115) = false) (_h116 : (op == 116) = false) (_h117 : (op == 117) = false) (_h118 : (op == 118) = false) (_h119 : (op == 119) = false) (_h120 : (op == 120) = false) (w : World) :
  Calls Tryz.prog 157 #[.int .u8 op,.int .i32 a,.int .i32 b] w fun e w' => e = .returned (.tuple #[.int .i64 0,.int .i64 6]) /\ w' = w := by
 go_enter Tryz.func157,Tryz.ntmps157
 go_wp2
 go_ret2
 exact r2 rfl rfl
theorem xjM (op a b : Int) (_h70 : (op == 70) = false) (_h71 : (op == 71) = false) (_h72 : (op == 72) = false) (_h73 : (op == 73) = false) (_h74 : (op == 74) = false) (_h75 : (op == 75) = false) (_h76 : (op == 76) = false) (_h77 : (op == 77) = false) (_h78 : (op == 78) = false) (_h79 : (op == 79) = false) (_h106 : (op == 106) = false) (_h107 : (op == 107) = false) (_h108 : (op == 108) = false) (_h109 : (op == 109) = false) (_h110 : (op == 110) = false) (_h111 : (op == 111) = false) (_h112 : (op == 112) = false) (_h113 : (op == 113) = false) (_h114 : (op == 114) = false) (_h115 : (op == 115) = false) (_h116 : (op == 116) = false) (_h117 : (op == 117) = false) (_h118 : (op == 118) = false) (_h119 : (op == 119) = false) (_h120 : (op == 120) = false) (w : World) :
  Calls Tryz.prog 156 #[.int .u8 op,.int .i64 a,.int .i64 b] w fun e w' => e = .returned (.tuple #[.int .i64 0,.int .i64 6]) /\ w' = w := by
 go_enter Tryz.func156,Tryz.ntmps156
 go_wp2
 go_ret2
 exact r2 rfl rfl
end Go.Proofs.YtmmjgdaamkdncaaGreatDoor
