import Derived.Lib.BitFns
import Derived.Lib.TrailingZeros
import Derived.Laws.Bits64b
import Derived.Laws.MakeOwn
import Derived.Test.YtmmjgdaamkdncaaGreatDoorAGNum
namespace Go.Proofs.YtmmjgdaamkdncaaGreatDoor
set_option maxHeartbeats 1000000
set_option maxRecDepth 1000000
set_option linter.unusedVariables false
open Go.RowKit
def enc : List Nat -> Nat
 | [] => 0
 | b :: r => 256 * enc r + b
def s1 (M x : Nat) : Nat := (x / 2 &&& M) + (x &&& M)
def s2 (M x : Nat) : Nat := (x / 4 &&& M) + (x &&& M)
def s3 (M x : Nat) : Nat := (x / 16 + x) &&& M
def TabIn (w : World) : Prop := ∀ j,j < 64 -> w.cell? ⟨3,j,none⟩ = some (.int .u8 (Lib.deBruijn64tab.getD j 0))
theorem TabIn.of_cells {w w' : World} (h : TabIn w) (hc : ∀ j,w'.cell? ⟨3,j,none⟩ = w.cell? ⟨3,j,none⟩) : TabIn w' := fun j hj => (hc j).trans (h j hj)
theorem xuE (x k idx : Nat) (w : World) (_hx0 : ((x : Int) == 0) = false)
  (key : IntKind.u64.wrap (bits BinOp.and IntKind.u64 (x : Int) (IntKind.u64.wrap (-(x : Int))) * 285870213051353865) / 288230376151711744 = (idx : Int))
  (_hi : idx < 64) (_hk : k < 64) (_hcell : w.cell? ⟨3,idx,none⟩ = some (.int .u8 k)) :
  Calls Tryz.prog 165 #[.int .u64 x] w fun e w' => e = .returned (.int .i64 k) /\ w' = w := by
 go_enter Tryz.func165,Tryz.ntmps165
 go_wp2_with (simp only [key])
 go_ret
 exact ⟨rfl,rfl⟩
theorem xrM (op x : Int) (_h1 : (op == 69) = false) (_h2 : (op == 103) = false) (_h3 : (op == 104) = false) (_h4 : (op == 105) = false) (w : World) :
  Calls Tryz.prog 154 #[.int .u8 op,.int .u64 x] w fun e w' => e = .returned (.tuple #[.int .i64 (0),.int .i64 6]) /\ w' = w := by
 go_enter Tryz.func154,Tryz.ntmps154
 go_wp2
 go_ret2
 exact ⟨rfl,rfl⟩
theorem xmI (op x : Int) (_h1 : (op == 69) = false) (_h2 : (op == 103) = false) (_h3 : (op == 104) = false) (_h4 : (op == 105) = false) (w : World) :
  Calls Tryz.prog 155 #[.int .u8 op,.int .u32 x] w fun e w' => e = .returned (.tuple #[.int .i64 (0),.int .i64 6]) /\ w' = w := by
 go_enter Tryz.func155,Tryz.ntmps155
 go_wp2
 go_ret2
 exact ⟨rfl,rfl⟩
def ybZ (W : Nat) (a : Int) : Nat := (a % 2 ^ W).toNat
theorem xxT (a : Int) : a % 4294967296 = (ybZ 32 a : Int) := by
 unfold ybZ
 omega
theorem ycY (a : Int) : IntKind.u64.wrap a = (ybZ 64 a : Int) := by
 rw [IntKind.wrap_u64]
 unfold ybZ
 omega
theorem xiK (op o a R E : Int) (x : Int) (_h1 : (op == 192) = false) (_h2 : (op == 194) = false) (_h3 : (op == 193) = false) (_h4 : (op == 195) = false) (_h5 : (op == 196) = false) (_h6 : (op == 167) = false) (_h7 : (op == 172) = false) (_h8 : (op == 173) = false)
  (HS : Hid (∀ w,Calls Tryz.prog 153 #[.int .u8 op] w fun e w' => e = .returned (.tuple #[.int .u8 o,.bool false]) /\ w' = w)) (_hx : a % 4294967296 = x) (w : World) (HL : Hid (Calls Tryz.prog 155 #[.int .u8 o,.int .u32 x] w fun e w' => e = .returned (.tuple #[.int .i64 R,.int .i64 E]) /\ w' = w)) :
  Calls Tryz.prog 143 #[.int .u8 op,.int .i64 a] w fun e w' => e = .returned (.tuple #[.int .i64 (R),.int .i64 E]) /\ w' = w := by
 go_enter Tryz.func143,Tryz.ntmps143
 go_wp2_with fail
 refine (HS.out _).mono ?_
 rintro e w1 ⟨rfl,rfl⟩
 go_wp2_with fail
 refine HL.out.mono ?_
 rintro e w1 ⟨rfl,rfl⟩
 go_wp2
 go_ret2
 exact ⟨rfl,rfl⟩
theorem xoR (op o a R E : Int) (x : Int) (_h1 : (op == 192) = false) (_h2 : (op == 194) = false) (_h3 : (op == 193) = false) (_h4 : (op == 195) = false) (_h5 : (op == 196) = false) (_h6 : (op == 167) = false) (_h7 : (op == 172) = false) (_h8 : (op == 173) = false)
  (HS : Hid (∀ w,Calls Tryz.prog 153 #[.int .u8 op] w fun e w' => e = .returned (.tuple #[.int .u8 o,.bool true]) /\ w' = w)) (_hx : IntKind.u64.wrap a = x) (w : World) (HL : Hid (Calls Tryz.prog 154 #[.int .u8 o,.int .u64 x] w fun e w' => e = .returned (.tuple #[.int .i64 R,.int .i64 E]) /\ w' = w)) :
  Calls Tryz.prog 143 #[.int .u8 op,.int .i64 a] w fun e w' => e = .returned (.tuple #[.int .i64 (R),.int .i64 E]) /\ w' = w := by
 go_enter Tryz.func143,Tryz.ntmps143
 go_wp2_with fail
 refine (HS.out _).mono ?_
 rintro e w1 ⟨rfl,rfl⟩
 go_wp2_with fail
 refine HL.out.mono ?_
 rintro e w1 ⟨rfl,rfl⟩
 go_wp2
 go_ret2
 exact ⟨rfl,rfl⟩
def xmA (op : Int) : Bool := op == 69 || op == 80 || (103 <= op && op <= 105) || (121 <= op && op <= 123) || op == 167 || op == 172 || op == 173 || (192 <= op && op <= 196)
theorem ydV (op a : Int) (h0 : 0 <= op) (h1 : op <= 255) (h : xmA op = false) (w : World) :
  Calls Tryz.prog 143 #[.int .u8 op,.int .i64 a] w fun e w' => e = .returned (.tuple #[.int .i64 (0),.int .i64 6]) /\ w' = w := by
 have hh : op ≠ 69 /\ op ≠ 80 /\ ¬ (103 <= op /\ op <= 105) /\ ¬ (121 <= op /\ op <= 123) /\ op ≠ 167 /\ op ≠ 172 /\ op ≠ 173 /\ ¬ (192 <= op /\ op <= 196) := by
  simp only [xmA,Bool.or_eq_false_iff,Bool.and_eq_false_iff,beq_eq_false_iff_ne,decide_eq_false_iff_not] at h
  omega
 clear h
 have ne : ∀ k : Int,op ≠ k -> (op == k) = false := fun k hk => by rw [beq_eq_false_iff_ne]; exact hk
 by_cases c1 : op < 80
 ·exact xiK op op a 0 6 (ybZ 32 a : Int) (ne 192 (by omega)) (ne 194 (by omega)) (ne 193 (by omega)) (ne 195 (by omega)) (ne 196 (by omega)) (ne 167 (by omega)) (ne 172 (by omega)) (ne 173 (by omega)) (fun w => xvS op h0 c1 w) (xxT a) w (xmI op _ (ne 69 (by omega)) (ne 103 (by omega)) (ne 104 (by omega)) (ne 105 (by omega)) w)
 by_cases c2 : op <= 90
 ·exact xoR op (op - 11) a 0 6 (ybZ 64 a : Int) (ne 192 (by omega)) (ne 194 (by omega)) (ne 193 (by omega)) (ne 195 (by omega)) (ne 196 (by omega)) (ne 167 (by omega)) (ne 172 (by omega)) (ne 173 (by omega)) (fun w => xlJ op (by omega) c2 w) (ycY a) w (xrM (op - 11) _ (kZb (by omega)) (kZb (by omega)) (kZb (by omega)) (kZb (by omega)) w)
 by_cases c3 : op < 121
 ·exact xiK op op a 0 6 (ybZ 32 a : Int) (ne 192 (by omega)) (ne 194 (by omega)) (ne 193 (by omega)) (ne 195 (by omega)) (ne 196 (by omega)) (ne 167 (by omega)) (ne 172 (by omega)) (ne 173 (by omega)) (fun w => xvT op (by omega) c3 w) (xxT a) w (xmI op _ (ne 69 (by omega)) (ne 103 (by omega)) (ne 104 (by omega)) (ne 105 (by omega)) w)
 by_cases c4 : op <= 138
 ·exact xoR op (op - 18) a 0 6 (ybZ 64 a : Int) (ne 192 (by omega)) (ne 194 (by omega)) (ne 193 (by omega)) (ne 195 (by omega)) (ne 196 (by omega)) (ne 167 (by omega)) (ne 172 (by omega)) (ne 173 (by omega)) (fun w => xjH op (by omega) c4 w) (ycY a) w (xrM (op - 18) _ (kZb (by omega)) (kZb (by omega)) (kZb (by omega)) (kZb (by omega)) w)
 exact xiK op op a 0 6 (ybZ 32 a : Int) (ne 192 (by omega)) (ne 194 (by omega)) (ne 193 (by omega)) (ne 195 (by omega)) (ne 196 (by omega)) (ne 167 (by omega)) (ne 172 (by omega)) (ne 173 (by omega)) (fun w => xvU op (by omega) h1 w) (xxT a) w (xmI op _ (ne 69 (by omega)) (ne 103 (by omega)) (ne 104 (by omega)) (ne 105 (by omega)) w)
end Go.Proofs.YtmmjgdaamkdncaaGreatDoor
