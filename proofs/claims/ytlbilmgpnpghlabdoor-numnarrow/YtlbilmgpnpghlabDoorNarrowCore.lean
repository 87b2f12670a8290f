/-
  The walk of the law of narrowing, for whatever its instructions answer.
-/
import Derived.Test.YtlbilmgpnpghlabDoorKeep2
import Derived.Laws.EntriesVeiled
namespace Go.Proofs.YtlbilmgpnpghlabDoor
open Go.RowKit

set_option maxHeartbeats 4000000 in
set_option maxRecDepth 1000000 in
theorem kone (op a R E : Int) (w : World) (HL : Hid (Calls Tryd.prog 12 #[.int .u8 op, .int .i64 a] w fun e w' => e = .returned (.tuple #[.int .i64 R, .int .i64 E]) ∧ w' = w)) :
    Calls Tryd.prog 7 #[.int .u8 op, .int .i64 a] w fun e w' => e = .returned (.int .i64 R) ∧ w' = w := by
  go_enter Tryd.func7, Tryd.ntmps7
  go_wp2_with fail
  refine HL.out.mono ?_
  rintro e w1 ⟨rfl, rfl⟩
  go_wp2
  go_ret
  exact ⟨rfl, rfl⟩
set_option maxHeartbeats 4000000 in
set_option maxRecDepth 1000000 in
theorem c_cut (a R : Int) (w : World) (HL : Hid (Calls Tryd.prog 7 #[.int .u8 167, .int .i64 a] w fun e w' => e = .returned (.int .i64 R) ∧ w' = w)) :
    Calls Tryd.prog 10 #[.int .i64 a] w fun e w' => e = .returned (.int .i64 R) ∧ w' = w := by
  go_enter Tryd.func10, Tryd.ntmps10
  go_wp2_with fail
  refine HL.out.mono ?_
  rintro e w1 ⟨rfl, rfl⟩
  go_wp2
  go_ret
  exact ⟨rfl, rfl⟩
set_option maxHeartbeats 40000000 in
set_option maxRecDepth 1000000 in
theorem numNarrow_core (a b X Y Cc D G B : Int) (T : Int → Int → Int → Int → Prop) (O : Int → Int → Int → Prop)
    (HT : Hid (∀ o x y z, T o x y z → ∀ w, Calls Tryd.prog 8 #[.int .u8 o, .int .i64 x, .int .i64 y] w fun e w' => e = .returned (.int .i64 z) ∧ w' = w))
    (HO : Hid (∀ o x z, O o x z → ∀ w, Calls Tryd.prog 7 #[.int .u8 o, .int .i64 x] w fun e w' => e = .returned (.int .i64 z) ∧ w' = w))
    (HF : Hid (∀ w, Calls Tryd.prog 11 #[.int .u8 127, .int .i64 a] w fun e w' => e = .returned (.int .i64 Cc) ∧ w' = w))
    (HG : Hid (∀ w, Calls Tryd.prog 11 #[.int .u8 126, .int .i64 a] w fun e w' => e = .returned (.int .i64 a) ∧ w' = w))
    (HS : Hid (∀ op, op = 106 ∨ op = 107 ∨ op = 108 ∨ op = 113 ∨ op = 114 ∨ op = 115 → ∃ u v, T op a b u ∧ T (op + 18) a b v ∧ O 167 v u))
    (E1 : Hid (O 172 a X)) (E2 : Hid (O 173 a Y)) (E3 : Hid (O 167 X Cc)) (E4 : Hid (O 167 a Cc)) (E5 : Hid (O 167 Y Cc)) (E6 : Hid (T 131 Y (-4294967296) 0)) (E7 : Hid (T 117 Cc 31 D)) (E8 : Hid (T 135 X 32 G)) (E9 : Hid (O 167 G D)) (E10 : Hid (O 196 a X)) (E11 : Hid (O 192 a B)) (E12 : Hid (O 194 Cc B)) (E13 : Hid (O 193 B B)) (w : World) :
    Calls Tryd.prog 4 #[.int .i64 a, .int .i64 b] w fun e w' => e = .returned (.bool true) ∧ Below w.heap.size w w' := by
  have HC : Hid (∀ x z, O 167 x z → ∀ w, Calls Tryd.prog 10 #[.int .i64 x] w fun e w' => e = .returned (.int .i64 z) ∧ w' = w) := fun x z h w => c_cut x z w (HO.out 167 x z h w)
  go_enter Tryd.func4, Tryd.ntmps4
  go_wp2
  go_loopw [12] (fun i wr => ∃ k : Nat, i = .int .i64 k ∧ k ≤ 6 ∧ (wr.cell? ⟨w.heap.size, 0, none⟩ = some (.int .u8 106) ∧ wr.cell? ⟨w.heap.size, 1, none⟩ = some (.int .u8 107) ∧ wr.cell? ⟨w.heap.size, 2, none⟩ = some (.int .u8 108) ∧ wr.cell? ⟨w.heap.size, 3, none⟩ = some (.int .u8 113) ∧ wr.cell? ⟨w.heap.size, 4, none⟩ = some (.int .u8 114) ∧ wr.cell? ⟨w.heap.size, 5, none⟩ = some (.int .u8 115)) ∧ Hid (Below w.heap.size w wr)) (fun i _ => 6 - (intOf i).toNat)
  case atStart =>
    refine ⟨0, rfl, by omega, ⟨by simp, by simp, by simp, by simp, by simp, by simp⟩, (Below.refl _ _).alloc (Nat.le_refl _) _⟩
  case round =>
    obtain ⟨k, rfl, hk, hcs, HBB⟩ := hrel
    have HCS : Hid _ := hcs
    clear hcs
    by_cases hlt : k < 6
    · obtain ⟨op, hop, hcell⟩ : ∃ op : Int, (op = 106 ∨ op = 107 ∨ op = 108 ∨ op = 113 ∨ op = 114 ∨ op = 115) ∧ wr.cell? ⟨w.heap.size, k, none⟩ = some (.int .u8 op) := by
        obtain ⟨c0, c1, c2, c3, c4, c5⟩ := HCS.out
        rcases (show k = 0 ∨ k = 1 ∨ k = 2 ∨ k = 3 ∨ k = 4 ∨ k = 5 by omega) with rfl | rfl | rfl | rfl | rfl | rfl
        · exact ⟨106, by omega, c0⟩
        · exact ⟨107, by omega, c1⟩
        · exact ⟨108, by omega, c2⟩
        · exact ⟨113, by omega, c3⟩
        · exact ⟨114, by omega, c4⟩
        · exact ⟨115, by omega, c5⟩
      obtain ⟨u, v, t1, t2, t3⟩ := HS.out op hop
      have T1 : Hid _ := t1
      have T2 : Hid _ := t2
      have T3 : Hid _ := t3
      clear t1 t2 t3 E1 E2 E3 E4 E5 E6 E7 E8 E9 E10 E11 E12 E13 HS HF HG
      have ho0 : 0 ≤ op := by omega
      have ho1 : op ≤ 115 := by omega
      have hki0 : (0 : Int) ≤ (k : Int) := by omega
      have hki1 : (k : Int) < 6 := by omega
      clear hop
      go_wp2_with fail
      refine (HT.out op a b u T1.out _).mono ?_
      rintro e w4 ⟨rfl, rfl⟩
      go_wp2_with fail
      refine (HT.out (op + 18) a b v T2.out _).mono ?_
      rintro e w4 ⟨rfl, rfl⟩
      go_wp2_with fail
      refine (HC.out v u T3.out _).mono ?_
      rintro e w4 ⟨rfl, rfl⟩
      go_wp2
      go_roundw
      case rel => exact ⟨k + 1, by go_num, by omega, HCS.out, HBB⟩
      case measure => simp [intOf]; omega
    · have hk6 : k = 6 := by omega
      subst hk6
      clear HS
      go_wp2_with fail
      refine (HO.out 172 a X E1.out _).mono ?_
      rintro e w4 ⟨rfl, rfl⟩
      go_wp2_with fail
      refine (HO.out 173 a Y E2.out _).mono ?_
      rintro e w4 ⟨rfl, rfl⟩
      go_wp2_with fail
      refine (HC.out X Cc E3.out _).mono ?_
      rintro e w4 ⟨rfl, rfl⟩
      go_wp2_with fail
      refine (HC.out a Cc E4.out _).mono ?_
      rintro e w4 ⟨rfl, rfl⟩
      go_wp2_with fail
      refine (HC.out Y Cc E5.out _).mono ?_
      rintro e w4 ⟨rfl, rfl⟩
      go_wp2_with fail
      refine (HC.out a Cc E4.out _).mono ?_
      rintro e w4 ⟨rfl, rfl⟩
      go_wp2_with fail
      refine (HT.out 131 Y (-4294967296) 0 E6.out _).mono ?_
      rintro e w4 ⟨rfl, rfl⟩
      go_wp2_with fail
      refine (HC.out a Cc E4.out _).mono ?_
      rintro e w4 ⟨rfl, rfl⟩
      go_wp2_with fail
      refine (HT.out 117 Cc 31 D E7.out _).mono ?_
      rintro e w4 ⟨rfl, rfl⟩
      go_wp2_with fail
      refine (HT.out 135 X 32 G E8.out _).mono ?_
      rintro e w4 ⟨rfl, rfl⟩
      go_wp2_with fail
      refine (HC.out G D E9.out _).mono ?_
      rintro e w4 ⟨rfl, rfl⟩
      go_wp2_with fail
      refine (HF.out _).mono ?_
      rintro e w4 ⟨rfl, rfl⟩
      go_wp2_with fail
      refine (HC.out a Cc E4.out _).mono ?_
      rintro e w4 ⟨rfl, rfl⟩
      go_wp2_with fail
      refine (HG.out _).mono ?_
      rintro e w4 ⟨rfl, rfl⟩
      go_wp2_with fail
      refine (HO.out 196 a X E10.out _).mono ?_
      rintro e w4 ⟨rfl, rfl⟩
      go_wp2_with fail
      refine (HO.out 192 a B E11.out _).mono ?_
      rintro e w4 ⟨rfl, rfl⟩
      go_wp2_with fail
      refine (HC.out a Cc E4.out _).mono ?_
      rintro e w4 ⟨rfl, rfl⟩
      go_wp2_with fail
      refine (HO.out 194 Cc B E12.out _).mono ?_
      rintro e w4 ⟨rfl, rfl⟩
      go_wp2_with fail
      refine (HO.out 192 a B E11.out _).mono ?_
      rintro e w4 ⟨rfl, rfl⟩
      go_wp2_with fail
      refine (HO.out 193 B B E13.out _).mono ?_
      rintro e w4 ⟨rfl, rfl⟩
      go_wp2_with fail
      refine (HO.out 192 a B E11.out _).mono ?_
      rintro e w4 ⟨rfl, rfl⟩
      go_wp2
      go_ret
      exact ⟨rfl, HBB.out⟩
end Go.Proofs.YtlbilmgpnpghlabDoor
