/-
  The law of orders: its walk.
-/
import Derived.Test.YtlbilmgpnpghlaaDoorOrdersCore
import Derived.Test.YtlbilmgpnpghlaaDoorPFit
import Derived.OpenShut
namespace Go.Proofs.YtlbilmgpnpghlaaDoor
open Go.RowKit

theorem says_of (T : Int → Int → Int → Int → Prop) (op a b c u v t : Int) (hinj : u = v ↔ a = b) (h1 : T op a a (t2i (decide (u < u)))) (h2 : T op a b (t2i (decide (u < v)))) (h3 : T op b a (t2i (decide (v < u)))) (h4 : T op b c (t2i (decide (v < t)))) (h5 : T op a c (t2i (decide (u < t)))) (h6 : T (op + 2) a b (t2i (decide (v < u)))) (h7 : T (op + 4) a b (t2i (decide (u ≤ v)))) (h8 : T (op + 6) a b (t2i (decide (v ≤ u)))) : Says T op a b c := by
  have tt : t2i true = 1 := rfl
  have tf : t2i false = 0 := rfl
  rw [decide_eq_false (by omega), tf] at h1
  refine ⟨h1, ?_⟩
  by_cases huv : u < v
  · left
    rw [decide_eq_true huv, tt] at h2
    rw [decide_eq_false (by omega), tf] at h3 h6 h8
    rw [decide_eq_true (by omega), tt] at h7
    refine ⟨by rw [← hinj]; omega, h2, h3, ?_, h6, h7, h8⟩
    by_cases hvt : v < t
    · left
      rw [decide_eq_true hvt, tt] at h4
      rw [decide_eq_true (by omega), tt] at h5
      exact ⟨h4, h5⟩
    · right
      rw [decide_eq_false hvt, tf] at h4
      exact h4
  · right
    rw [decide_eq_false huv, tf] at h2
    rw [decide_eq_true (by omega), tt] at h8
    by_cases he : u = v
    · left
      rw [decide_eq_false (by omega), tf] at h3 h6
      rw [decide_eq_true (by omega), tt] at h7
      exact ⟨hinj.1 he, h2, h3, h6, h7, h8⟩
    · right
      rw [decide_eq_true (by omega), tt] at h3 h6
      rw [decide_eq_false (by omega), tf] at h7
      exact ⟨fun h => he (hinj.2 h), h2, h3, h6, h7, h8⟩
/-- What an instruction of two numbers tells. -/
def TT32 (o x y z : Int) : Prop := ∀ w, Calls Tryd.prog 11 #[.int .u8 ((fun o => o) o), .int .i64 x, .int .i64 y] w fun e w' => e = .returned (.int .i64 z) ∧ w' = w
theorem r64_32 (X : BitVec 32) : R64 X.toInt := by have := toInt_lt32 X; unfold R64; omega
theorem cutN_32 (A : BitVec 32) : cutN 32 A.toInt = A.toNat := by
  have h := u32_of A
  
  unfold cutN
  omega
theorem tt70_32 (X Y : BitVec 32) : TT32 70 X.toInt Y.toInt (t2i (cmpV 0 X Y)) := by
  intro w
  have h := ktwo 70 X.toInt Y.toInt _ _ (fun w w' => w' = w) (fun w => num_70 X.toInt Y.toInt w) w
  rw [of_toInt, of_toInt] at h
  exact h
theorem tt71_32 (X Y : BitVec 32) : TT32 71 X.toInt Y.toInt (t2i (cmpV 1 X Y)) := by
  intro w
  have h := ktwo 71 X.toInt Y.toInt _ _ (fun w w' => w' = w) (fun w => num_71 X.toInt Y.toInt w) w
  rw [of_toInt, of_toInt] at h
  exact h
theorem tt72_32 (X Y : BitVec 32) : TT32 72 X.toInt Y.toInt (t2i (cmpV 2 X Y)) := by
  intro w
  have h := ktwo 72 X.toInt Y.toInt _ _ (fun w w' => w' = w) (fun w => num_72 X.toInt Y.toInt w) w
  rw [of_toInt, of_toInt] at h
  exact h
theorem tt73_32 (X Y : BitVec 32) : TT32 73 X.toInt Y.toInt (t2i (cmpV 3 X Y)) := by
  intro w
  have h := ktwo 73 X.toInt Y.toInt _ _ (fun w w' => w' = w) (fun w => num_73 X.toInt Y.toInt w) w
  rw [of_toInt, of_toInt] at h
  exact h
theorem tt74_32 (X Y : BitVec 32) : TT32 74 X.toInt Y.toInt (t2i (cmpV 4 X Y)) := by
  intro w
  have h := ktwo 74 X.toInt Y.toInt _ _ (fun w w' => w' = w) (fun w => num_74 X.toInt Y.toInt w) w
  rw [of_toInt, of_toInt] at h
  exact h
theorem tt75_32 (X Y : BitVec 32) : TT32 75 X.toInt Y.toInt (t2i (cmpV 5 X Y)) := by
  intro w
  have h := ktwo 75 X.toInt Y.toInt _ _ (fun w w' => w' = w) (fun w => num_75 X.toInt Y.toInt w) w
  rw [of_toInt, of_toInt] at h
  exact h
theorem tt76_32 (X Y : BitVec 32) : TT32 76 X.toInt Y.toInt (t2i (cmpV 6 X Y)) := by
  intro w
  have h := ktwo 76 X.toInt Y.toInt _ _ (fun w w' => w' = w) (fun w => num_76 X.toInt Y.toInt w) w
  rw [of_toInt, of_toInt] at h
  exact h
theorem tt77_32 (X Y : BitVec 32) : TT32 77 X.toInt Y.toInt (t2i (cmpV 7 X Y)) := by
  intro w
  have h := ktwo 77 X.toInt Y.toInt _ _ (fun w w' => w' = w) (fun w => num_77 X.toInt Y.toInt w) w
  rw [of_toInt, of_toInt] at h
  exact h
theorem tt78_32 (X Y : BitVec 32) : TT32 78 X.toInt Y.toInt (t2i (cmpV 8 X Y)) := by
  intro w
  have h := ktwo 78 X.toInt Y.toInt _ _ (fun w w' => w' = w) (fun w => num_78 X.toInt Y.toInt w) w
  rw [of_toInt, of_toInt] at h
  exact h
theorem tt79_32 (X Y : BitVec 32) : TT32 79 X.toInt Y.toInt (t2i (cmpV 9 X Y)) := by
  intro w
  have h := ktwo 79 X.toInt Y.toInt _ _ (fun w w' => w' = w) (fun w => num_79 X.toInt Y.toInt w) w
  rw [of_toInt, of_toInt] at h
  exact h
theorem ordersEq32 (A B C : BitVec 32) (a0 b0 c0 : Int) (ha : fitW false a0 = A.toInt) (hb : fitW false b0 = B.toInt) (hc : fitW false c0 = C.toInt) (w : World) :
    Calls Tryd.prog 4 #[.int .i64 a0, .int .i64 b0, .int .i64 c0, .bool false] w fun e w' => e = .returned (.bool true) ∧ Below w.heap.size w w' := by
  have hAB : A = B ↔ A.toInt = B.toInt := ⟨fun h => by rw [h], fun h => BitVec.eq_of_toInt_eq h⟩
  have hN : ((A.toNat : Int) = (B.toNat : Int)) ↔ A.toInt = B.toInt := by
    rw [← hAB]
    exact ⟨fun h => BitVec.eq_of_toNat_eq (by omega), fun h => by rw [h]⟩
  have nat_lt : ∀ X Y : BitVec 32, decide (X.toNat < Y.toNat) = decide ((X.toNat : Int) < (Y.toNat : Int)) := fun X Y => decide_eq_decide.2 (by omega)
  have nat_le : ∀ X Y : BitVec 32, decide (X.toNat ≤ Y.toNat) = decide ((X.toNat : Int) ≤ (Y.toNat : Int)) := fun X Y => decide_eq_decide.2 (by omega)
  have z0 : (0 : Int) = (0#32).toInt := by decide
  refine numOrders_core false a0 b0 c0 A.toInt B.toInt C.toInt (t2i (decide (A = B))) (t2i (decide (A = 0#32))) (fun o => o) TT32 (fun o _ _ w => kwidth_n o w) (fun o x y z h w => h w) ?HO ha hb hc ?HS (tt70_32 A B) ?hS ?E71 ?EZ w
  case HO =>
    intro w
    have h := kone 69 _ _ _ w (pone_69 A.toInt w)
    rw [cutN_32] at h
    have e : decide (A.toNat = 0) = decide (A = 0#32) := decide_eq_decide.2 ⟨fun h => BitVec.eq_of_toNat_eq (h.trans (by decide)), fun h => by rw [h]; decide⟩
    rw [e] at h
    exact h
  case HS =>
    intro op h0 h1
    rcases (show op = 72 ∨ op = 73 by omega) with rfl | rfl
    · exact says_of TT32 72 _ _ _ A.toInt B.toInt C.toInt Iff.rfl (tt72_32 A A) (tt72_32 A B) (tt72_32 B A) (tt72_32 B C) (tt72_32 A C) (tt74_32 A B) (tt76_32 A B) (tt78_32 A B)
    · refine says_of TT32 73 _ _ _ (A.toNat : Int) (B.toNat : Int) (C.toNat : Int) hN ?_ ?_ ?_ ?_ ?_ ?_ ?_ ?_
      · rw [← nat_lt]; exact tt73_32 A A
      · rw [← nat_lt]; exact tt73_32 A B
      · rw [← nat_lt]; exact tt73_32 B A
      · rw [← nat_lt]; exact tt73_32 B C
      · rw [← nat_lt]; exact tt73_32 A C
      · rw [← nat_lt]; exact tt75_32 A B
      · rw [← nat_le]; exact tt77_32 A B
      · rw [← nat_le]; exact tt79_32 A B
  case hS =>
    unfold Hid
    by_cases h : A = B
    · left; rw [decide_eq_true h]; exact ⟨rfl, hAB.1 h⟩
    · right; rw [decide_eq_false h]; exact ⟨rfl, fun h' => h (hAB.2 h')⟩
  case E71 =>
    have h := tt71_32 A B
    have e : t2i (cmpV 1 A B) = 1 - t2i (decide (A = B)) := by
      unfold cmpV
      by_cases h : A = B <;> simp [h, t2i]
    rw [e] at h
    exact h
  case EZ => rw [z0]; exact tt70_32 A 0#32
/-- What an instruction of two numbers tells. -/
def TT64 (o x y z : Int) : Prop := ∀ w, Calls Tryd.prog 11 #[.int .u8 ((fun o => o + 11) o), .int .i64 x, .int .i64 y] w fun e w' => e = .returned (.int .i64 z) ∧ w' = w
theorem r64_64 (X : BitVec 64) : R64 X.toInt := by have := toInt_lt64 X; unfold R64; omega
theorem cutN_64 (A : BitVec 64) : cutN 64 A.toInt = A.toNat := by
  have h := u64_of A
  rw [IntKind.wrap_u64] at h
  unfold cutN
  omega
theorem tt70_64 (X Y : BitVec 64) : TT64 70 X.toInt Y.toInt (t2i (cmpV 0 X Y)) := by
  intro w
  have h := ktwo 81 X.toInt Y.toInt _ _ (fun w w' => w' = w) (fun w => num_81 X.toInt Y.toInt (r64_64 _) (r64_64 _) w) w
  rw [of_toInt, of_toInt] at h
  exact h
theorem tt71_64 (X Y : BitVec 64) : TT64 71 X.toInt Y.toInt (t2i (cmpV 1 X Y)) := by
  intro w
  have h := ktwo 82 X.toInt Y.toInt _ _ (fun w w' => w' = w) (fun w => num_82 X.toInt Y.toInt (r64_64 _) (r64_64 _) w) w
  rw [of_toInt, of_toInt] at h
  exact h
theorem tt72_64 (X Y : BitVec 64) : TT64 72 X.toInt Y.toInt (t2i (cmpV 2 X Y)) := by
  intro w
  have h := ktwo 83 X.toInt Y.toInt _ _ (fun w w' => w' = w) (fun w => num_83 X.toInt Y.toInt (r64_64 _) (r64_64 _) w) w
  rw [of_toInt, of_toInt] at h
  exact h
theorem tt73_64 (X Y : BitVec 64) : TT64 73 X.toInt Y.toInt (t2i (cmpV 3 X Y)) := by
  intro w
  have h := ktwo 84 X.toInt Y.toInt _ _ (fun w w' => w' = w) (fun w => num_84 X.toInt Y.toInt (r64_64 _) (r64_64 _) w) w
  rw [of_toInt, of_toInt] at h
  exact h
theorem tt74_64 (X Y : BitVec 64) : TT64 74 X.toInt Y.toInt (t2i (cmpV 4 X Y)) := by
  intro w
  have h := ktwo 85 X.toInt Y.toInt _ _ (fun w w' => w' = w) (fun w => num_85 X.toInt Y.toInt (r64_64 _) (r64_64 _) w) w
  rw [of_toInt, of_toInt] at h
  exact h
theorem tt75_64 (X Y : BitVec 64) : TT64 75 X.toInt Y.toInt (t2i (cmpV 5 X Y)) := by
  intro w
  have h := ktwo 86 X.toInt Y.toInt _ _ (fun w w' => w' = w) (fun w => num_86 X.toInt Y.toInt (r64_64 _) (r64_64 _) w) w
  rw [of_toInt, of_toInt] at h
  exact h
theorem tt76_64 (X Y : BitVec 64) : TT64 76 X.toInt Y.toInt (t2i (cmpV 6 X Y)) := by
  intro w
  have h := ktwo 87 X.toInt Y.toInt _ _ (fun w w' => w' = w) (fun w => num_87 X.toInt Y.toInt (r64_64 _) (r64_64 _) w) w
  rw [of_toInt, of_toInt] at h
  exact h
theorem tt77_64 (X Y : BitVec 64) : TT64 77 X.toInt Y.toInt (t2i (cmpV 7 X Y)) := by
  intro w
  have h := ktwo 88 X.toInt Y.toInt _ _ (fun w w' => w' = w) (fun w => num_88 X.toInt Y.toInt (r64_64 _) (r64_64 _) w) w
  rw [of_toInt, of_toInt] at h
  exact h
theorem tt78_64 (X Y : BitVec 64) : TT64 78 X.toInt Y.toInt (t2i (cmpV 8 X Y)) := by
  intro w
  have h := ktwo 89 X.toInt Y.toInt _ _ (fun w w' => w' = w) (fun w => num_89 X.toInt Y.toInt (r64_64 _) (r64_64 _) w) w
  rw [of_toInt, of_toInt] at h
  exact h
theorem tt79_64 (X Y : BitVec 64) : TT64 79 X.toInt Y.toInt (t2i (cmpV 9 X Y)) := by
  intro w
  have h := ktwo 90 X.toInt Y.toInt _ _ (fun w w' => w' = w) (fun w => num_90 X.toInt Y.toInt (r64_64 _) (r64_64 _) w) w
  rw [of_toInt, of_toInt] at h
  exact h
theorem ordersEq64 (A B C : BitVec 64) (a0 b0 c0 : Int) (ha : fitW true a0 = A.toInt) (hb : fitW true b0 = B.toInt) (hc : fitW true c0 = C.toInt) (w : World) :
    Calls Tryd.prog 4 #[.int .i64 a0, .int .i64 b0, .int .i64 c0, .bool true] w fun e w' => e = .returned (.bool true) ∧ Below w.heap.size w w' := by
  have hAB : A = B ↔ A.toInt = B.toInt := ⟨fun h => by rw [h], fun h => BitVec.eq_of_toInt_eq h⟩
  have hN : ((A.toNat : Int) = (B.toNat : Int)) ↔ A.toInt = B.toInt := by
    rw [← hAB]
    exact ⟨fun h => BitVec.eq_of_toNat_eq (by omega), fun h => by rw [h]⟩
  have nat_lt : ∀ X Y : BitVec 64, decide (X.toNat < Y.toNat) = decide ((X.toNat : Int) < (Y.toNat : Int)) := fun X Y => decide_eq_decide.2 (by omega)
  have nat_le : ∀ X Y : BitVec 64, decide (X.toNat ≤ Y.toNat) = decide ((X.toNat : Int) ≤ (Y.toNat : Int)) := fun X Y => decide_eq_decide.2 (by omega)
  have z0 : (0 : Int) = (0#64).toInt := by decide
  refine numOrders_core true a0 b0 c0 A.toInt B.toInt C.toInt (t2i (decide (A = B))) (t2i (decide (A = 0#64))) (fun o => o + 11) TT64 (fun o h0 h1 w => kwidth_a o h0 h1 w) (fun o x y z h w => h w) ?HO ha hb hc ?HS (tt70_64 A B) ?hS ?E71 ?EZ w
  case HO =>
    intro w
    have h := kone 80 _ _ _ w (pone_80 A.toInt w)
    rw [cutN_64] at h
    have e : decide (A.toNat = 0) = decide (A = 0#64) := decide_eq_decide.2 ⟨fun h => BitVec.eq_of_toNat_eq (h.trans (by decide)), fun h => by rw [h]; decide⟩
    rw [e] at h
    exact h
  case HS =>
    intro op h0 h1
    rcases (show op = 72 ∨ op = 73 by omega) with rfl | rfl
    · exact says_of TT64 72 _ _ _ A.toInt B.toInt C.toInt Iff.rfl (tt72_64 A A) (tt72_64 A B) (tt72_64 B A) (tt72_64 B C) (tt72_64 A C) (tt74_64 A B) (tt76_64 A B) (tt78_64 A B)
    · refine says_of TT64 73 _ _ _ (A.toNat : Int) (B.toNat : Int) (C.toNat : Int) hN ?_ ?_ ?_ ?_ ?_ ?_ ?_ ?_
      · rw [← nat_lt]; exact tt73_64 A A
      · rw [← nat_lt]; exact tt73_64 A B
      · rw [← nat_lt]; exact tt73_64 B A
      · rw [← nat_lt]; exact tt73_64 B C
      · rw [← nat_lt]; exact tt73_64 A C
      · rw [← nat_lt]; exact tt75_64 A B
      · rw [← nat_le]; exact tt77_64 A B
      · rw [← nat_le]; exact tt79_64 A B
  case hS =>
    unfold Hid
    by_cases h : A = B
    · left; rw [decide_eq_true h]; exact ⟨rfl, hAB.1 h⟩
    · right; rw [decide_eq_false h]; exact ⟨rfl, fun h' => h (hAB.2 h')⟩
  case E71 =>
    have h := tt71_64 A B
    have e : t2i (cmpV 1 A B) = 1 - t2i (decide (A = B)) := by
      unfold cmpV
      by_cases h : A = B <;> simp [h, t2i]
    rw [e] at h
    exact h
  case EZ => rw [z0]; exact tt70_64 A 0#64
theorem numOrders_walk (a0 : Int) (a1 : Int) (a2 : Int) (a3 : Bool) (w0 : (Lit.int .i64 a0).wf = true) (w1 : (Lit.int .i64 a1).wf = true) (w2 : (Lit.int .i64 a2).wf = true) (w : World) (_hT : TabIn w) :
    Calls Tryd.prog 4 #[.int .i64 a0, .int .i64 a1, .int .i64 a2, .bool a3] w fun e w' => e = .returned (.bool true) ∧ Below w.heap.size w w' := by
  cases a3 with
  | false => exact ordersEq32 (BitVec.ofInt 32 a0) (BitVec.ofInt 32 a1) (BitVec.ofInt 32 a2) a0 a1 a2 (w32_bv _) (w32_bv _) (w32_bv _) w
  | true => exact ordersEq64 (BitVec.ofInt 64 a0) (BitVec.ofInt 64 a1) (BitVec.ofInt 64 a2) a0 a1 a2 (of64_toInt a0 (bounds_i64 w0)).symm (of64_toInt a1 (bounds_i64 w1)).symm (of64_toInt a2 (bounds_i64 w2)).symm w

end Go.Proofs.YtlbilmgpnpghlaaDoor
