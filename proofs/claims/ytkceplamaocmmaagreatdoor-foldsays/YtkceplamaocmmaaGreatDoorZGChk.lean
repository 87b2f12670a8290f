/-
  What the document's own InsCheck does. What the document's own InsCheck answers is what the program's own Check answers.
-/
import Derived.Test.YtkceplamaocmmaaGreatDoorZPS
import Derived.Test.YtkceplamaocmmaaGreatDoorZPQ
import Derived.Test.YtkceplamaocmmaaGreatDoorZGVal
set_option maxHeartbeats 8000000
set_option maxRecDepth 1000000
namespace Go.Proofs.YtkceplamaocmmaaGreatDoor
set_option linter.unusedVariables false
open Go.RowKit
def wideB (x : Int) : Bool := decide (x < 0) || decide (4294967295 < x)
theorem wideB_num (x : Int) : wideB x = !numB x := by
  unfold wideB numB
  by_cases h0 : x < 0
  · rw [decide_eq_true h0, decide_eq_false (show ¬ 0 ≤ x by omega)]; rfl
  · rw [decide_eq_false h0, decide_eq_true (show 0 ≤ x by omega)]
    by_cases h1 : 4294967295 < x
    · rw [decide_eq_true h1, decide_eq_false (show ¬ x ≤ 4294967295 by omega)]; rfl
    · rw [decide_eq_false h1, decide_eq_true (show x ≤ 4294967295 by omega)]; rfl
theorem wide_any (x : Int) (w : World) : Calls Tryz.prog 82 #[.int .i64 x] w fun r w' => r = .returned (.bool (wideB x)) ∧ w' = w := by
  unfold wideB
  by_cases h0 : x < 0
  · have e0 : decide (x < 0) = true := decide_eq_true h0
    go_enter Tryz.func82, Tryz.ntmps82
    go_wp2
    go_ret
    exact ⟨by first | rfl | (rw [e0]; rfl), rfl⟩
  · have e0 : decide (x < 0) = false := decide_eq_false h0
    go_enter Tryz.func82, Tryz.ntmps82
    go_wp2
    go_ret
    exact ⟨by first | rfl | (rw [e0]; rfl), rfl⟩
theorem rchk_0 (op A B : Int) (o : Option Addr) (n cap : Nat) (F : ByteArray) (_q63 : (F.toList == [63]) = true) (w : World) (HB : Hid (∀ w', Below w.heap.size w w' → Calls Tryz.prog 81 #[.int .u8 op] w' fun e w'' => e = .returned (.string F) ∧ Below w'.heap.size w' w'')) :
    Calls Tryz.prog 58 #[.agg #[.int .u8 op, .int .i64 A, .int .i64 B, .slice o n cap]] w fun r w' => r = .returned (.int .i64 6) ∧ Below w.heap.size w w' := by
  go_enter Tryz.func58, Tryz.ntmps58
  go_wp2_with fail
  refine (HB.out _ ((Below.refl _ _).alloc (Nat.le_refl _) _)).mono ?_
  rintro e w1 ⟨rfl, b1⟩
  have xX : XS w1 w.heap.size (.int .u8 op) (.int .i64 A) (.int .i64 B) (.slice o n cap) := by
    unfold XS
    rw [b1.block w.heap.size (by simp)]
    exact new_block _ _
  obtain ⟨x0, x1, x2, x3⟩ := xX.cell
  have HX1 : Hid (type_of% xX) := xX
  have HB1 : Hid (Below w.heap.size w w1) := ((Below.refl _ _).alloc (Nat.le_refl _) _).trans (b1.mono (by simp))
  clear xX b1 HB
  clear HX1
  go_wp2
  go_ret
  exact ⟨rfl, HB1.out⟩
theorem rchk_l (op A B : Int) (o : Option Addr) (n cap : Nat) (F : ByteArray) (_q63 : (F.toList == [63]) = false) (_hn : 16 < n) (w : World) (HB : Hid (∀ w', Below w.heap.size w w' → Calls Tryz.prog 81 #[.int .u8 op] w' fun e w'' => e = .returned (.string F) ∧ Below w'.heap.size w' w'')) :
    Calls Tryz.prog 58 #[.agg #[.int .u8 op, .int .i64 A, .int .i64 B, .slice o n cap]] w fun r w' => r = .returned (.int .i64 2) ∧ Below w.heap.size w w' := by
  go_enter Tryz.func58, Tryz.ntmps58
  go_wp2_with fail
  refine (HB.out _ ((Below.refl _ _).alloc (Nat.le_refl _) _)).mono ?_
  rintro e w1 ⟨rfl, b1⟩
  have xX : XS w1 w.heap.size (.int .u8 op) (.int .i64 A) (.int .i64 B) (.slice o n cap) := by
    unfold XS
    rw [b1.block w.heap.size (by simp)]
    exact new_block _ _
  obtain ⟨x0, x1, x2, x3⟩ := xX.cell
  have HX1 : Hid (type_of% xX) := xX
  have HB1 : Hid (Below w.heap.size w w1) := ((Below.refl _ _).alloc (Nat.le_refl _) _).trans (b1.mono (by simp))
  clear xX b1 HB
  clear HX1
  go_wp2
  go_ret
  exact ⟨rfl, HB1.out⟩
theorem rchk_z (op A B : Int) (o : Option Addr) (n cap : Nat) (xs : List Int) (F : ByteArray) (_hcap : n ≤ cap) (_q63 : (F.toList == [63]) = false) (_q107 : (F.toList == [107]) = false) (_q99 : (F.toList == [99]) = false) (_q100 : (F.toList == [100]) = false) (HCA : Hid (∀ w, Calls Tryz.prog 83 #[.string F, .string ⟨#[97, 116]⟩] w fun e w' => e = .returned (.bool false) ∧ Below w.heap.size w w')) (_q97 : (F.toList == [97, 98]) = false) (_q116 : (F.toList == [116]) = false) (hn : n ≤ 16) (w : World) (h : LJ w o n xs) (HB : Hid (∀ w', Below w.heap.size w w' → Calls Tryz.prog 81 #[.int .u8 op] w' fun e w'' => e = .returned (.string F) ∧ Below w'.heap.size w' w'')) :
    Calls Tryz.prog 58 #[.agg #[.int .u8 op, .int .i64 A, .int .i64 B, .slice o n cap]] w fun r w' => r = .returned (.int .i64 (if ((A != 0) || ((B != 0) || ((decide (0 < (n : Int))) || xs.any wideB))) = true then 1 else 0)) ∧ Below w.heap.size w w' := by
  have HH : Hid (LJ w o n xs) := h
  clear h
  obtain ⟨a, ha⟩ : ∃ a, (A != 0) = a := ⟨_, rfl⟩
  obtain ⟨b, hb⟩ : ∃ b, (B != 0) = b := ⟨_, rfl⟩
  obtain ⟨t, ht⟩ : ∃ t, (decide (0 < (n : Int))) = t := ⟨_, rfl⟩
  obtain ⟨R, hR⟩ : ∃ R, (t || xs.any wideB) = R := ⟨_, rfl⟩
  rw [ha, hb, ht, hR]
  have HR : Hid ((t || xs.any wideB) = R) := hR
  clear hR
  have hn0 : (0 : Int) ≤ (n : Int) := by omega
  go_enter Tryz.func58, Tryz.ntmps58
  go_wp2_with fail
  refine (HB.out _ ((Below.refl _ _).alloc (Nat.le_refl _) _)).mono ?_
  rintro e w1 ⟨rfl, b1⟩
  have xX : XS w1 w.heap.size (.int .u8 op) (.int .i64 A) (.int .i64 B) (.slice o n cap) := by
    unfold XS
    rw [b1.block w.heap.size (by simp)]
    exact new_block _ _
  obtain ⟨x0, x1, x2, x3⟩ := xX.cell
  have HX1 : Hid (type_of% xX) := xX
  have HB1 : Hid (Below w.heap.size w w1) := ((Below.refl _ _).alloc (Nat.le_refl _) _).trans (b1.mono (by simp))
  clear xX b1 HB
  go_wp2_with fail
  refine (HCA.out _).mono ?_
  rintro e w2 ⟨rfl, b2⟩
  obtain ⟨x0, x1, x2, x3⟩ := (XS.under HX1.out b2).cell
  have HBE : Hid (Below w.heap.size w w2) := HB1.out.trans (b2.mono HB1.out.size)
  have HJ : Hid (LJ w2 o n xs) := HH.out.below HBE.out
  clear b2 HX1 HB1 HCA
  rcases Nat.eq_zero_or_pos n with hn00 | hpos
  · subst hn00
    obtain rfl : false = t := by rw [← ht]; rfl
    go_wp2
    go_loop [7, 79] (fun v i => v = .bool false ∧ i = .int .i64 0) (fun _ _ => 0)
    case atStart => exact ⟨rfl, rfl⟩
    case round =>
      obtain ⟨rfl, rfl⟩ := hrel
      have e : R = false := by
        have h1 := HR.out
        have h2 : xs = [] := List.length_eq_zero_iff.1 HJ.out.1
        rw [h2] at h1
        exact h1.symm
      subst e
      clear HR
      cases a <;> cases b
      all_goals
        go_wp2
        go_ret
        exact ⟨rfl, HBE.out⟩
  · have hposi : (0 : Int) < (n : Int) := by omega
    obtain rfl : true = t := by rw [← ht]; exact (decide_eq_true (by omega)).symm
    clear ht
    go_wp2
    go_loop [7, 79] (fun v i => ∃ k : Nat, ∃ u : Bool, v = .bool u ∧ i = .int .i64 k ∧ k ≤ n ∧ Hid ((u || (xs.drop k).any wideB) = R)) (fun _ i => n - (intOf i).toNat)
    case atStart => exact ⟨0, _, rfl, rfl, by omega, by unfold Hid; rw [List.drop_zero]; exact HR.out⟩
    case round =>
      obtain ⟨k, u, rfl, rfl, hk, HK⟩ := hrel
      obtain ⟨hl, hc⟩ := HJ.out
      by_cases hlt : k < n
      · rcases hc with h0 | ⟨ad, rfl, _, hc⟩
        · omega
        have hcell := hc k hlt
        have hd : xs.drop k = xs.getD k 0 :: xs.drop (k + 1) := by
          rw [List.drop_eq_getElem_cons (by omega), List.getD_eq_getElem?_getD, List.getElem?_eq_getElem (by omega)]
          rfl
        have HK2 : Hid ((u || (wideB (xs.getD k 0) || (xs.drop (k + 1)).any wideB)) = R) := by
          unfold Hid
          rw [← HK.out, hd]
          rfl
        have HN := wide_any (xs.getD k 0)
        generalize xs.getD k 0 = x at hcell HN HK2
        have hki0 : (0 : Int) ≤ (k : Int) := by omega
        have hki1 : (k : Int) < (n : Int) := by omega
        clear hc hd hl HK HR
        cases u
        · obtain ⟨y, hy⟩ : ∃ y, wideB x = y := ⟨_, rfl⟩
          have HNN : Hid (∀ w, Calls Tryz.prog 82 #[.int .i64 x] w fun r w' => r = .returned (.bool y) ∧ w' = w) := fun w => by rw [← hy]; exact HN w
          have HK3 : Hid ((y || (xs.drop (k + 1)).any wideB) = R) := by
            have := HK2.out
            rw [hy, Bool.false_or] at this
            exact this
          clear HN hy HK2
          go_wp2_with fail
          refine (HNN.out _).mono ?_
          rintro e w5 ⟨rfl, rfl⟩
          go_wp2
          go_round
          case rel => exact ⟨k + 1, y, rfl, by go_num, by omega, HK3⟩
          case measure => simp [intOf]; omega
        · have HK3 : Hid ((true || (xs.drop (k + 1)).any wideB) = R) := by
            have := HK2.out
            rw [Bool.true_or] at this
            unfold Hid
            rw [Bool.true_or]
            exact this
          clear HN HK2
          go_wp2
          go_round
          case rel => exact ⟨k + 1, true, rfl, by go_num, by omega, HK3⟩
          case measure => simp [intOf]; omega
      · have e : u = R := by
          have := HK.out
          rw [List.drop_eq_nil_of_le (by omega), List.any_nil, Bool.or_false] at this
          exact this
        subst e
        clear hc hl HK HR
        cases a <;> cases b <;> cases u
        all_goals
          go_wp2
          go_ret
          exact ⟨rfl, HBE.out⟩
theorem rchk_k (op A B : Int) (o : Option Addr) (n cap : Nat) (xs : List Int) (F : ByteArray) (_hcap : n ≤ cap) (_q63 : (F.toList == [63]) = false) (_q107 : (F.toList == [107]) = true) (_q97 : (F.toList == [97, 98]) = false) (_q116 : (F.toList == [116]) = false) (hn : n ≤ 16) (w : World) (h : LJ w o n xs) (HB : Hid (∀ w', Below w.heap.size w w' → Calls Tryz.prog 81 #[.int .u8 op] w' fun e w'' => e = .returned (.string F) ∧ Below w'.heap.size w' w'')) :
    Calls Tryz.prog 58 #[.agg #[.int .u8 op, .int .i64 A, .int .i64 B, .slice o n cap]] w fun r w' => r = .returned (.int .i64 (if ((A != 64 && (A != 126 && A != 127)) || ((B != 0) || ((decide (0 < (n : Int))) || xs.any wideB))) = true then 1 else 0)) ∧ Below w.heap.size w w' := by
  have HH : Hid (LJ w o n xs) := h
  clear h
  obtain ⟨a, ha⟩ : ∃ a, (A != 64 && (A != 126 && A != 127)) = a := ⟨_, rfl⟩
  obtain ⟨b, hb⟩ : ∃ b, (B != 0) = b := ⟨_, rfl⟩
  obtain ⟨t, ht⟩ : ∃ t, (decide (0 < (n : Int))) = t := ⟨_, rfl⟩
  obtain ⟨R, hR⟩ : ∃ R, (t || xs.any wideB) = R := ⟨_, rfl⟩
  rw [ha, hb, ht, hR]
  have HR : Hid ((t || xs.any wideB) = R) := hR
  clear hR
  have hn0 : (0 : Int) ≤ (n : Int) := by omega
  have HA : Hid ((A != 64 && (A != 126 && A != 127)) = a) := ha
  clear ha
  go_enter Tryz.func58, Tryz.ntmps58
  go_wp2_with fail
  refine (HB.out _ ((Below.refl _ _).alloc (Nat.le_refl _) _)).mono ?_
  rintro e w1 ⟨rfl, b1⟩
  have xX : XS w1 w.heap.size (.int .u8 op) (.int .i64 A) (.int .i64 B) (.slice o n cap) := by
    unfold XS
    rw [b1.block w.heap.size (by simp)]
    exact new_block _ _
  obtain ⟨x0, x1, x2, x3⟩ := xX.cell
  have HX1 : Hid (type_of% xX) := xX
  have HB1 : Hid (Below w.heap.size w w1) := ((Below.refl _ _).alloc (Nat.le_refl _) _).trans (b1.mono (by simp))
  clear xX b1 HB
  have HBE : Hid (Below w.heap.size w w1) := HB1.out
  have HJ : Hid (LJ w1 o n xs) := HH.out.below HB1.out
  clear HX1 HB1
  have hxs : A = 64 ∨ A = 126 ∨ A = 127 ∨ (A ≠ 64 ∧ A ≠ 126 ∧ A ≠ 127) := by omega
  rcases hxs with rfl | rfl | rfl | ⟨n1, n2, n3⟩
  · have ea : false = a := HA.out
    subst ea
    clear HA
    rcases Nat.eq_zero_or_pos n with hn00 | hpos
    · subst hn00
      obtain rfl : false = t := by rw [← ht]; rfl
      go_wp2
      go_loop [7, 79] (fun v i => v = .bool false ∧ i = .int .i64 0) (fun _ _ => 0)
      case atStart => exact ⟨rfl, rfl⟩
      case round =>
        obtain ⟨rfl, rfl⟩ := hrel
        have e : R = false := by
          have h1 := HR.out
          have h2 : xs = [] := List.length_eq_zero_iff.1 HJ.out.1
          rw [h2] at h1
          exact h1.symm
        subst e
        clear HR
        cases b
        all_goals
          go_wp2
          go_ret
          exact ⟨rfl, HBE.out⟩
    · have hposi : (0 : Int) < (n : Int) := by omega
      obtain rfl : true = t := by rw [← ht]; exact (decide_eq_true (by omega)).symm
      clear ht
      go_wp2
      go_loop [7, 79] (fun v i => ∃ k : Nat, ∃ u : Bool, v = .bool u ∧ i = .int .i64 k ∧ k ≤ n ∧ Hid ((u || (xs.drop k).any wideB) = R)) (fun _ i => n - (intOf i).toNat)
      case atStart => exact ⟨0, _, rfl, rfl, by omega, by unfold Hid; rw [List.drop_zero]; exact HR.out⟩
      case round =>
        obtain ⟨k, u, rfl, rfl, hk, HK⟩ := hrel
        obtain ⟨hl, hc⟩ := HJ.out
        by_cases hlt : k < n
        · rcases hc with h0 | ⟨ad, rfl, _, hc⟩
          · omega
          have hcell := hc k hlt
          have hd : xs.drop k = xs.getD k 0 :: xs.drop (k + 1) := by
            rw [List.drop_eq_getElem_cons (by omega), List.getD_eq_getElem?_getD, List.getElem?_eq_getElem (by omega)]
            rfl
          have HK2 : Hid ((u || (wideB (xs.getD k 0) || (xs.drop (k + 1)).any wideB)) = R) := by
            unfold Hid
            rw [← HK.out, hd]
            rfl
          have HN := wide_any (xs.getD k 0)
          generalize xs.getD k 0 = x at hcell HN HK2
          have hki0 : (0 : Int) ≤ (k : Int) := by omega
          have hki1 : (k : Int) < (n : Int) := by omega
          clear hc hd hl HK HR
          cases u
          · obtain ⟨y, hy⟩ : ∃ y, wideB x = y := ⟨_, rfl⟩
            have HNN : Hid (∀ w, Calls Tryz.prog 82 #[.int .i64 x] w fun r w' => r = .returned (.bool y) ∧ w' = w) := fun w => by rw [← hy]; exact HN w
            have HK3 : Hid ((y || (xs.drop (k + 1)).any wideB) = R) := by
              have := HK2.out
              rw [hy, Bool.false_or] at this
              exact this
            clear HN hy HK2
            go_wp2_with fail
            refine (HNN.out _).mono ?_
            rintro e w5 ⟨rfl, rfl⟩
            go_wp2
            go_round
            case rel => exact ⟨k + 1, y, rfl, by go_num, by omega, HK3⟩
            case measure => simp [intOf]; omega
          · have HK3 : Hid ((true || (xs.drop (k + 1)).any wideB) = R) := by
              have := HK2.out
              rw [Bool.true_or] at this
              unfold Hid
              rw [Bool.true_or]
              exact this
            clear HN HK2
            go_wp2
            go_round
            case rel => exact ⟨k + 1, true, rfl, by go_num, by omega, HK3⟩
            case measure => simp [intOf]; omega
        · have e : u = R := by
            have := HK.out
            rw [List.drop_eq_nil_of_le (by omega), List.any_nil, Bool.or_false] at this
            exact this
          subst e
          clear hc hl HK HR
          cases b <;> cases u
          all_goals
            go_wp2
            go_ret
            exact ⟨rfl, HBE.out⟩
  · have ea : false = a := HA.out
    subst ea
    clear HA
    rcases Nat.eq_zero_or_pos n with hn00 | hpos
    · subst hn00
      obtain rfl : false = t := by rw [← ht]; rfl
      go_wp2
      go_loop [7, 79] (fun v i => v = .bool false ∧ i = .int .i64 0) (fun _ _ => 0)
      case atStart => exact ⟨rfl, rfl⟩
      case round =>
        obtain ⟨rfl, rfl⟩ := hrel
        have e : R = false := by
          have h1 := HR.out
          have h2 : xs = [] := List.length_eq_zero_iff.1 HJ.out.1
          rw [h2] at h1
          exact h1.symm
        subst e
        clear HR
        cases b
        all_goals
          go_wp2
          go_ret
          exact ⟨rfl, HBE.out⟩
    · have hposi : (0 : Int) < (n : Int) := by omega
      obtain rfl : true = t := by rw [← ht]; exact (decide_eq_true (by omega)).symm
      clear ht
      go_wp2
      go_loop [7, 79] (fun v i => ∃ k : Nat, ∃ u : Bool, v = .bool u ∧ i = .int .i64 k ∧ k ≤ n ∧ Hid ((u || (xs.drop k).any wideB) = R)) (fun _ i => n - (intOf i).toNat)
      case atStart => exact ⟨0, _, rfl, rfl, by omega, by unfold Hid; rw [List.drop_zero]; exact HR.out⟩
      case round =>
        obtain ⟨k, u, rfl, rfl, hk, HK⟩ := hrel
        obtain ⟨hl, hc⟩ := HJ.out
        by_cases hlt : k < n
        · rcases hc with h0 | ⟨ad, rfl, _, hc⟩
          · omega
          have hcell := hc k hlt
          have hd : xs.drop k = xs.getD k 0 :: xs.drop (k + 1) := by
            rw [List.drop_eq_getElem_cons (by omega), List.getD_eq_getElem?_getD, List.getElem?_eq_getElem (by omega)]
            rfl
          have HK2 : Hid ((u || (wideB (xs.getD k 0) || (xs.drop (k + 1)).any wideB)) = R) := by
            unfold Hid
            rw [← HK.out, hd]
            rfl
          have HN := wide_any (xs.getD k 0)
          generalize xs.getD k 0 = x at hcell HN HK2
          have hki0 : (0 : Int) ≤ (k : Int) := by omega
          have hki1 : (k : Int) < (n : Int) := by omega
          clear hc hd hl HK HR
          cases u
          · obtain ⟨y, hy⟩ : ∃ y, wideB x = y := ⟨_, rfl⟩
            have HNN : Hid (∀ w, Calls Tryz.prog 82 #[.int .i64 x] w fun r w' => r = .returned (.bool y) ∧ w' = w) := fun w => by rw [← hy]; exact HN w
            have HK3 : Hid ((y || (xs.drop (k + 1)).any wideB) = R) := by
              have := HK2.out
              rw [hy, Bool.false_or] at this
              exact this
            clear HN hy HK2
            go_wp2_with fail
            refine (HNN.out _).mono ?_
            rintro e w5 ⟨rfl, rfl⟩
            go_wp2
            go_round
            case rel => exact ⟨k + 1, y, rfl, by go_num, by omega, HK3⟩
            case measure => simp [intOf]; omega
          · have HK3 : Hid ((true || (xs.drop (k + 1)).any wideB) = R) := by
              have := HK2.out
              rw [Bool.true_or] at this
              unfold Hid
              rw [Bool.true_or]
              exact this
            clear HN HK2
            go_wp2
            go_round
            case rel => exact ⟨k + 1, true, rfl, by go_num, by omega, HK3⟩
            case measure => simp [intOf]; omega
        · have e : u = R := by
            have := HK.out
            rw [List.drop_eq_nil_of_le (by omega), List.any_nil, Bool.or_false] at this
            exact this
          subst e
          clear hc hl HK HR
          cases b <;> cases u
          all_goals
            go_wp2
            go_ret
            exact ⟨rfl, HBE.out⟩
  · have ea : false = a := HA.out
    subst ea
    clear HA
    rcases Nat.eq_zero_or_pos n with hn00 | hpos
    · subst hn00
      obtain rfl : false = t := by rw [← ht]; rfl
      go_wp2
      go_loop [7, 79] (fun v i => v = .bool false ∧ i = .int .i64 0) (fun _ _ => 0)
      case atStart => exact ⟨rfl, rfl⟩
      case round =>
        obtain ⟨rfl, rfl⟩ := hrel
        have e : R = false := by
          have h1 := HR.out
          have h2 : xs = [] := List.length_eq_zero_iff.1 HJ.out.1
          rw [h2] at h1
          exact h1.symm
        subst e
        clear HR
        cases b
        all_goals
          go_wp2
          go_ret
          exact ⟨rfl, HBE.out⟩
    · have hposi : (0 : Int) < (n : Int) := by omega
      obtain rfl : true = t := by rw [← ht]; exact (decide_eq_true (by omega)).symm
      clear ht
      go_wp2
      go_loop [7, 79] (fun v i => ∃ k : Nat, ∃ u : Bool, v = .bool u ∧ i = .int .i64 k ∧ k ≤ n ∧ Hid ((u || (xs.drop k).any wideB) = R)) (fun _ i => n - (intOf i).toNat)
      case atStart => exact ⟨0, _, rfl, rfl, by omega, by unfold Hid; rw [List.drop_zero]; exact HR.out⟩
      case round =>
        obtain ⟨k, u, rfl, rfl, hk, HK⟩ := hrel
        obtain ⟨hl, hc⟩ := HJ.out
        by_cases hlt : k < n
        · rcases hc with h0 | ⟨ad, rfl, _, hc⟩
          · omega
          have hcell := hc k hlt
          have hd : xs.drop k = xs.getD k 0 :: xs.drop (k + 1) := by
            rw [List.drop_eq_getElem_cons (by omega), List.getD_eq_getElem?_getD, List.getElem?_eq_getElem (by omega)]
            rfl
          have HK2 : Hid ((u || (wideB (xs.getD k 0) || (xs.drop (k + 1)).any wideB)) = R) := by
            unfold Hid
            rw [← HK.out, hd]
            rfl
          have HN := wide_any (xs.getD k 0)
          generalize xs.getD k 0 = x at hcell HN HK2
          have hki0 : (0 : Int) ≤ (k : Int) := by omega
          have hki1 : (k : Int) < (n : Int) := by omega
          clear hc hd hl HK HR
          cases u
          · obtain ⟨y, hy⟩ : ∃ y, wideB x = y := ⟨_, rfl⟩
            have HNN : Hid (∀ w, Calls Tryz.prog 82 #[.int .i64 x] w fun r w' => r = .returned (.bool y) ∧ w' = w) := fun w => by rw [← hy]; exact HN w
            have HK3 : Hid ((y || (xs.drop (k + 1)).any wideB) = R) := by
              have := HK2.out
              rw [hy, Bool.false_or] at this
              exact this
            clear HN hy HK2
            go_wp2_with fail
            refine (HNN.out _).mono ?_
            rintro e w5 ⟨rfl, rfl⟩
            go_wp2
            go_round
            case rel => exact ⟨k + 1, y, rfl, by go_num, by omega, HK3⟩
            case measure => simp [intOf]; omega
          · have HK3 : Hid ((true || (xs.drop (k + 1)).any wideB) = R) := by
              have := HK2.out
              rw [Bool.true_or] at this
              unfold Hid
              rw [Bool.true_or]
              exact this
            clear HN HK2
            go_wp2
            go_round
            case rel => exact ⟨k + 1, true, rfl, by go_num, by omega, HK3⟩
            case measure => simp [intOf]; omega
        · have e : u = R := by
            have := HK.out
            rw [List.drop_eq_nil_of_le (by omega), List.any_nil, Bool.or_false] at this
            exact this
          subst e
          clear hc hl HK HR
          cases b <;> cases u
          all_goals
            go_wp2
            go_ret
            exact ⟨rfl, HBE.out⟩
  · have e1 : (A == 64) = false := by rw [beq_eq_false_iff_ne]; exact n1
    have e2 : (A == 126) = false := by rw [beq_eq_false_iff_ne]; exact n2
    have e3 : (A == 127) = false := by rw [beq_eq_false_iff_ne]; exact n3
    have e4 : (A != 64) = true := by rw [bne, e1]; rfl
    have e5 : (A != 126) = true := by rw [bne, e2]; rfl
    have e6 : (A != 127) = true := by rw [bne, e3]; rfl
    have ea : true = a := by rw [← HA.out, e4, e5, e6]; rfl
    subst ea
    clear HA n1 n2 n3
    rcases Nat.eq_zero_or_pos n with hn00 | hpos
    · subst hn00
      obtain rfl : false = t := by rw [← ht]; rfl
      go_wp2
      go_loop [7, 79] (fun v i => v = .bool false ∧ i = .int .i64 0) (fun _ _ => 0)
      case atStart => exact ⟨rfl, rfl⟩
      case round =>
        obtain ⟨rfl, rfl⟩ := hrel
        have e : R = false := by
          have h1 := HR.out
          have h2 : xs = [] := List.length_eq_zero_iff.1 HJ.out.1
          rw [h2] at h1
          exact h1.symm
        subst e
        clear HR
        cases b
        all_goals
          go_wp2
          go_ret
          exact ⟨rfl, HBE.out⟩
    · have hposi : (0 : Int) < (n : Int) := by omega
      obtain rfl : true = t := by rw [← ht]; exact (decide_eq_true (by omega)).symm
      clear ht
      go_wp2
      go_loop [7, 79] (fun v i => ∃ k : Nat, ∃ u : Bool, v = .bool u ∧ i = .int .i64 k ∧ k ≤ n ∧ Hid ((u || (xs.drop k).any wideB) = R)) (fun _ i => n - (intOf i).toNat)
      case atStart => exact ⟨0, _, rfl, rfl, by omega, by unfold Hid; rw [List.drop_zero]; exact HR.out⟩
      case round =>
        obtain ⟨k, u, rfl, rfl, hk, HK⟩ := hrel
        obtain ⟨hl, hc⟩ := HJ.out
        by_cases hlt : k < n
        · rcases hc with h0 | ⟨ad, rfl, _, hc⟩
          · omega
          have hcell := hc k hlt
          have hd : xs.drop k = xs.getD k 0 :: xs.drop (k + 1) := by
            rw [List.drop_eq_getElem_cons (by omega), List.getD_eq_getElem?_getD, List.getElem?_eq_getElem (by omega)]
            rfl
          have HK2 : Hid ((u || (wideB (xs.getD k 0) || (xs.drop (k + 1)).any wideB)) = R) := by
            unfold Hid
            rw [← HK.out, hd]
            rfl
          have HN := wide_any (xs.getD k 0)
          generalize xs.getD k 0 = x at hcell HN HK2
          have hki0 : (0 : Int) ≤ (k : Int) := by omega
          have hki1 : (k : Int) < (n : Int) := by omega
          clear hc hd hl HK HR
          cases u
          · obtain ⟨y, hy⟩ : ∃ y, wideB x = y := ⟨_, rfl⟩
            have HNN : Hid (∀ w, Calls Tryz.prog 82 #[.int .i64 x] w fun r w' => r = .returned (.bool y) ∧ w' = w) := fun w => by rw [← hy]; exact HN w
            have HK3 : Hid ((y || (xs.drop (k + 1)).any wideB) = R) := by
              have := HK2.out
              rw [hy, Bool.false_or] at this
              exact this
            clear HN hy HK2
            go_wp2_with fail
            refine (HNN.out _).mono ?_
            rintro e w5 ⟨rfl, rfl⟩
            go_wp2
            go_round
            case rel => exact ⟨k + 1, y, rfl, by go_num, by omega, HK3⟩
            case measure => simp [intOf]; omega
          · have HK3 : Hid ((true || (xs.drop (k + 1)).any wideB) = R) := by
              have := HK2.out
              rw [Bool.true_or] at this
              unfold Hid
              rw [Bool.true_or]
              exact this
            clear HN HK2
            go_wp2
            go_round
            case rel => exact ⟨k + 1, true, rfl, by go_num, by omega, HK3⟩
            case measure => simp [intOf]; omega
        · have e : u = R := by
            have := HK.out
            rw [List.drop_eq_nil_of_le (by omega), List.any_nil, Bool.or_false] at this
            exact this
          subst e
          clear hc hl HK HR
          cases b <;> cases u
          all_goals
            go_wp2
            go_ret
            exact ⟨rfl, HBE.out⟩
theorem rchk_c (op A B : Int) (o : Option Addr) (n cap : Nat) (xs : List Int) (F : ByteArray) (_hcap : n ≤ cap) (_q63 : (F.toList == [63]) = false) (_q107 : (F.toList == [107]) = false) (_q99 : (F.toList == [99]) = true) (_q97 : (F.toList == [97, 98]) = false) (_q116 : (F.toList == [116]) = false) (hn : n ≤ 16) (w : World) (h : LJ w o n xs) (HB : Hid (∀ w', Below w.heap.size w w' → Calls Tryz.prog 81 #[.int .u8 op] w' fun e w'' => e = .returned (.string F) ∧ Below w'.heap.size w' w'')) :
    Calls Tryz.prog 58 #[.agg #[.int .u8 op, .int .i64 A, .int .i64 B, .slice o n cap]] w fun r w' => r = .returned (.int .i64 (if ((decide (A < -2147483648) || decide (2147483647 < A)) || ((B != 0) || ((decide (0 < (n : Int))) || xs.any wideB))) = true then 1 else 0)) ∧ Below w.heap.size w w' := by
  have HH : Hid (LJ w o n xs) := h
  clear h
  obtain ⟨a, ha⟩ : ∃ a, (decide (A < -2147483648) || decide (2147483647 < A)) = a := ⟨_, rfl⟩
  obtain ⟨b, hb⟩ : ∃ b, (B != 0) = b := ⟨_, rfl⟩
  obtain ⟨t, ht⟩ : ∃ t, (decide (0 < (n : Int))) = t := ⟨_, rfl⟩
  obtain ⟨R, hR⟩ : ∃ R, (t || xs.any wideB) = R := ⟨_, rfl⟩
  rw [ha, hb, ht, hR]
  have HR : Hid ((t || xs.any wideB) = R) := hR
  clear hR
  have hn0 : (0 : Int) ≤ (n : Int) := by omega
  have HA : Hid ((decide (A < -2147483648) || decide (2147483647 < A)) = a) := ha
  clear ha
  go_enter Tryz.func58, Tryz.ntmps58
  go_wp2_with fail
  refine (HB.out _ ((Below.refl _ _).alloc (Nat.le_refl _) _)).mono ?_
  rintro e w1 ⟨rfl, b1⟩
  have xX : XS w1 w.heap.size (.int .u8 op) (.int .i64 A) (.int .i64 B) (.slice o n cap) := by
    unfold XS
    rw [b1.block w.heap.size (by simp)]
    exact new_block _ _
  obtain ⟨x0, x1, x2, x3⟩ := xX.cell
  have HX1 : Hid (type_of% xX) := xX
  have HB1 : Hid (Below w.heap.size w w1) := ((Below.refl _ _).alloc (Nat.le_refl _) _).trans (b1.mono (by simp))
  clear xX b1 HB
  have HBE : Hid (Below w.heap.size w w1) := HB1.out
  have HJ : Hid (LJ w1 o n xs) := HH.out.below HB1.out
  clear HX1 HB1
  by_cases g1 : A < -2147483648
  · have ea : true = a := by rw [← HA.out, decide_eq_true g1]; rfl
    subst ea
    clear HA
    rcases Nat.eq_zero_or_pos n with hn00 | hpos
    · subst hn00
      obtain rfl : false = t := by rw [← ht]; rfl
      go_wp2
      go_loop [7, 79] (fun v i => v = .bool false ∧ i = .int .i64 0) (fun _ _ => 0)
      case atStart => exact ⟨rfl, rfl⟩
      case round =>
        obtain ⟨rfl, rfl⟩ := hrel
        have e : R = false := by
          have h1 := HR.out
          have h2 : xs = [] := List.length_eq_zero_iff.1 HJ.out.1
          rw [h2] at h1
          exact h1.symm
        subst e
        clear HR
        cases b
        all_goals
          go_wp2
          go_ret
          exact ⟨rfl, HBE.out⟩
    · have hposi : (0 : Int) < (n : Int) := by omega
      obtain rfl : true = t := by rw [← ht]; exact (decide_eq_true (by omega)).symm
      clear ht
      go_wp2
      go_loop [7, 79] (fun v i => ∃ k : Nat, ∃ u : Bool, v = .bool u ∧ i = .int .i64 k ∧ k ≤ n ∧ Hid ((u || (xs.drop k).any wideB) = R)) (fun _ i => n - (intOf i).toNat)
      case atStart => exact ⟨0, _, rfl, rfl, by omega, by unfold Hid; rw [List.drop_zero]; exact HR.out⟩
      case round =>
        obtain ⟨k, u, rfl, rfl, hk, HK⟩ := hrel
        obtain ⟨hl, hc⟩ := HJ.out
        by_cases hlt : k < n
        · rcases hc with h0 | ⟨ad, rfl, _, hc⟩
          · omega
          have hcell := hc k hlt
          have hd : xs.drop k = xs.getD k 0 :: xs.drop (k + 1) := by
            rw [List.drop_eq_getElem_cons (by omega), List.getD_eq_getElem?_getD, List.getElem?_eq_getElem (by omega)]
            rfl
          have HK2 : Hid ((u || (wideB (xs.getD k 0) || (xs.drop (k + 1)).any wideB)) = R) := by
            unfold Hid
            rw [← HK.out, hd]
            rfl
          have HN := wide_any (xs.getD k 0)
          generalize xs.getD k 0 = x at hcell HN HK2
          have hki0 : (0 : Int) ≤ (k : Int) := by omega
          have hki1 : (k : Int) < (n : Int) := by omega
          clear hc hd hl HK HR
          cases u
          · obtain ⟨y, hy⟩ : ∃ y, wideB x = y := ⟨_, rfl⟩
            have HNN : Hid (∀ w, Calls Tryz.prog 82 #[.int .i64 x] w fun r w' => r = .returned (.bool y) ∧ w' = w) := fun w => by rw [← hy]; exact HN w
            have HK3 : Hid ((y || (xs.drop (k + 1)).any wideB) = R) := by
              have := HK2.out
              rw [hy, Bool.false_or] at this
              exact this
            clear HN hy HK2
            go_wp2_with fail
            refine (HNN.out _).mono ?_
            rintro e w5 ⟨rfl, rfl⟩
            go_wp2
            go_round
            case rel => exact ⟨k + 1, y, rfl, by go_num, by omega, HK3⟩
            case measure => simp [intOf]; omega
          · have HK3 : Hid ((true || (xs.drop (k + 1)).any wideB) = R) := by
              have := HK2.out
              rw [Bool.true_or] at this
              unfold Hid
              rw [Bool.true_or]
              exact this
            clear HN HK2
            go_wp2
            go_round
            case rel => exact ⟨k + 1, true, rfl, by go_num, by omega, HK3⟩
            case measure => simp [intOf]; omega
        · have e : u = R := by
            have := HK.out
            rw [List.drop_eq_nil_of_le (by omega), List.any_nil, Bool.or_false] at this
            exact this
          subst e
          clear hc hl HK HR
          cases b <;> cases u
          all_goals
            go_wp2
            go_ret
            exact ⟨rfl, HBE.out⟩
  · by_cases g2 : 2147483647 < A
    · have ea : true = a := by rw [← HA.out, decide_eq_true g2, Bool.or_true]
      subst ea
      clear HA
      rcases Nat.eq_zero_or_pos n with hn00 | hpos
      · subst hn00
        obtain rfl : false = t := by rw [← ht]; rfl
        go_wp2
        go_loop [7, 79] (fun v i => v = .bool false ∧ i = .int .i64 0) (fun _ _ => 0)
        case atStart => exact ⟨rfl, rfl⟩
        case round =>
          obtain ⟨rfl, rfl⟩ := hrel
          have e : R = false := by
            have h1 := HR.out
            have h2 : xs = [] := List.length_eq_zero_iff.1 HJ.out.1
            rw [h2] at h1
            exact h1.symm
          subst e
          clear HR
          cases b
          all_goals
            go_wp2
            go_ret
            exact ⟨rfl, HBE.out⟩
      · have hposi : (0 : Int) < (n : Int) := by omega
        obtain rfl : true = t := by rw [← ht]; exact (decide_eq_true (by omega)).symm
        clear ht
        go_wp2
        go_loop [7, 79] (fun v i => ∃ k : Nat, ∃ u : Bool, v = .bool u ∧ i = .int .i64 k ∧ k ≤ n ∧ Hid ((u || (xs.drop k).any wideB) = R)) (fun _ i => n - (intOf i).toNat)
        case atStart => exact ⟨0, _, rfl, rfl, by omega, by unfold Hid; rw [List.drop_zero]; exact HR.out⟩
        case round =>
          obtain ⟨k, u, rfl, rfl, hk, HK⟩ := hrel
          obtain ⟨hl, hc⟩ := HJ.out
          by_cases hlt : k < n
          · rcases hc with h0 | ⟨ad, rfl, _, hc⟩
            · omega
            have hcell := hc k hlt
            have hd : xs.drop k = xs.getD k 0 :: xs.drop (k + 1) := by
              rw [List.drop_eq_getElem_cons (by omega), List.getD_eq_getElem?_getD, List.getElem?_eq_getElem (by omega)]
              rfl
            have HK2 : Hid ((u || (wideB (xs.getD k 0) || (xs.drop (k + 1)).any wideB)) = R) := by
              unfold Hid
              rw [← HK.out, hd]
              rfl
            have HN := wide_any (xs.getD k 0)
            generalize xs.getD k 0 = x at hcell HN HK2
            have hki0 : (0 : Int) ≤ (k : Int) := by omega
            have hki1 : (k : Int) < (n : Int) := by omega
            clear hc hd hl HK HR
            cases u
            · obtain ⟨y, hy⟩ : ∃ y, wideB x = y := ⟨_, rfl⟩
              have HNN : Hid (∀ w, Calls Tryz.prog 82 #[.int .i64 x] w fun r w' => r = .returned (.bool y) ∧ w' = w) := fun w => by rw [← hy]; exact HN w
              have HK3 : Hid ((y || (xs.drop (k + 1)).any wideB) = R) := by
                have := HK2.out
                rw [hy, Bool.false_or] at this
                exact this
              clear HN hy HK2
              go_wp2_with fail
              refine (HNN.out _).mono ?_
              rintro e w5 ⟨rfl, rfl⟩
              go_wp2
              go_round
              case rel => exact ⟨k + 1, y, rfl, by go_num, by omega, HK3⟩
              case measure => simp [intOf]; omega
            · have HK3 : Hid ((true || (xs.drop (k + 1)).any wideB) = R) := by
                have := HK2.out
                rw [Bool.true_or] at this
                unfold Hid
                rw [Bool.true_or]
                exact this
              clear HN HK2
              go_wp2
              go_round
              case rel => exact ⟨k + 1, true, rfl, by go_num, by omega, HK3⟩
              case measure => simp [intOf]; omega
          · have e : u = R := by
              have := HK.out
              rw [List.drop_eq_nil_of_le (by omega), List.any_nil, Bool.or_false] at this
              exact this
            subst e
            clear hc hl HK HR
            cases b <;> cases u
            all_goals
              go_wp2
              go_ret
              exact ⟨rfl, HBE.out⟩
    · have ea : false = a := by rw [← HA.out, decide_eq_false g1, decide_eq_false g2]; rfl
      subst ea
      clear HA
      rcases Nat.eq_zero_or_pos n with hn00 | hpos
      · subst hn00
        obtain rfl : false = t := by rw [← ht]; rfl
        go_wp2
        go_loop [7, 79] (fun v i => v = .bool false ∧ i = .int .i64 0) (fun _ _ => 0)
        case atStart => exact ⟨rfl, rfl⟩
        case round =>
          obtain ⟨rfl, rfl⟩ := hrel
          have e : R = false := by
            have h1 := HR.out
            have h2 : xs = [] := List.length_eq_zero_iff.1 HJ.out.1
            rw [h2] at h1
            exact h1.symm
          subst e
          clear HR
          cases b
          all_goals
            go_wp2
            go_ret
            exact ⟨rfl, HBE.out⟩
      · have hposi : (0 : Int) < (n : Int) := by omega
        obtain rfl : true = t := by rw [← ht]; exact (decide_eq_true (by omega)).symm
        clear ht
        go_wp2
        go_loop [7, 79] (fun v i => ∃ k : Nat, ∃ u : Bool, v = .bool u ∧ i = .int .i64 k ∧ k ≤ n ∧ Hid ((u || (xs.drop k).any wideB) = R)) (fun _ i => n - (intOf i).toNat)
        case atStart => exact ⟨0, _, rfl, rfl, by omega, by unfold Hid; rw [List.drop_zero]; exact HR.out⟩
        case round =>
          obtain ⟨k, u, rfl, rfl, hk, HK⟩ := hrel
          obtain ⟨hl, hc⟩ := HJ.out
          by_cases hlt : k < n
          · rcases hc with h0 | ⟨ad, rfl, _, hc⟩
            · omega
            have hcell := hc k hlt
            have hd : xs.drop k = xs.getD k 0 :: xs.drop (k + 1) := by
              rw [List.drop_eq_getElem_cons (by omega), List.getD_eq_getElem?_getD, List.getElem?_eq_getElem (by omega)]
              rfl
            have HK2 : Hid ((u || (wideB (xs.getD k 0) || (xs.drop (k + 1)).any wideB)) = R) := by
              unfold Hid
              rw [← HK.out, hd]
              rfl
            have HN := wide_any (xs.getD k 0)
            generalize xs.getD k 0 = x at hcell HN HK2
            have hki0 : (0 : Int) ≤ (k : Int) := by omega
            have hki1 : (k : Int) < (n : Int) := by omega
            clear hc hd hl HK HR
            cases u
            · obtain ⟨y, hy⟩ : ∃ y, wideB x = y := ⟨_, rfl⟩
              have HNN : Hid (∀ w, Calls Tryz.prog 82 #[.int .i64 x] w fun r w' => r = .returned (.bool y) ∧ w' = w) := fun w => by rw [← hy]; exact HN w
              have HK3 : Hid ((y || (xs.drop (k + 1)).any wideB) = R) := by
                have := HK2.out
                rw [hy, Bool.false_or] at this
                exact this
              clear HN hy HK2
              go_wp2_with fail
              refine (HNN.out _).mono ?_
              rintro e w5 ⟨rfl, rfl⟩
              go_wp2
              go_round
              case rel => exact ⟨k + 1, y, rfl, by go_num, by omega, HK3⟩
              case measure => simp [intOf]; omega
            · have HK3 : Hid ((true || (xs.drop (k + 1)).any wideB) = R) := by
                have := HK2.out
                rw [Bool.true_or] at this
                unfold Hid
                rw [Bool.true_or]
                exact this
              clear HN HK2
              go_wp2
              go_round
              case rel => exact ⟨k + 1, true, rfl, by go_num, by omega, HK3⟩
              case measure => simp [intOf]; omega
          · have e : u = R := by
              have := HK.out
              rw [List.drop_eq_nil_of_le (by omega), List.any_nil, Bool.or_false] at this
              exact this
            subst e
            clear hc hl HK HR
            cases b <;> cases u
            all_goals
              go_wp2
              go_ret
              exact ⟨rfl, HBE.out⟩
theorem rchk_d (op A B : Int) (o : Option Addr) (n cap : Nat) (xs : List Int) (F : ByteArray) (_hcap : n ≤ cap) (_q63 : (F.toList == [63]) = false) (_q107 : (F.toList == [107]) = false) (_q99 : (F.toList == [99]) = false) (_q100 : (F.toList == [100]) = true) (_q97 : (F.toList == [97, 98]) = false) (_q116 : (F.toList == [116]) = false) (hn : n ≤ 16) (w : World) (h : LJ w o n xs) (HB : Hid (∀ w', Below w.heap.size w w' → Calls Tryz.prog 81 #[.int .u8 op] w' fun e w'' => e = .returned (.string F) ∧ Below w'.heap.size w' w'')) :
    Calls Tryz.prog 58 #[.agg #[.int .u8 op, .int .i64 A, .int .i64 B, .slice o n cap]] w fun r w' => r = .returned (.int .i64 (if ((false) || ((B != 0) || ((decide (0 < (n : Int))) || xs.any wideB))) = true then 1 else 0)) ∧ Below w.heap.size w w' := by
  have HH : Hid (LJ w o n xs) := h
  clear h
  obtain ⟨a, ha⟩ : ∃ a, (false) = a := ⟨_, rfl⟩
  obtain ⟨b, hb⟩ : ∃ b, (B != 0) = b := ⟨_, rfl⟩
  obtain ⟨t, ht⟩ : ∃ t, (decide (0 < (n : Int))) = t := ⟨_, rfl⟩
  obtain ⟨R, hR⟩ : ∃ R, (t || xs.any wideB) = R := ⟨_, rfl⟩
  rw [ha, hb, ht, hR]
  have HR : Hid ((t || xs.any wideB) = R) := hR
  clear hR
  have hn0 : (0 : Int) ≤ (n : Int) := by omega
  subst ha
  go_enter Tryz.func58, Tryz.ntmps58
  go_wp2_with fail
  refine (HB.out _ ((Below.refl _ _).alloc (Nat.le_refl _) _)).mono ?_
  rintro e w1 ⟨rfl, b1⟩
  have xX : XS w1 w.heap.size (.int .u8 op) (.int .i64 A) (.int .i64 B) (.slice o n cap) := by
    unfold XS
    rw [b1.block w.heap.size (by simp)]
    exact new_block _ _
  obtain ⟨x0, x1, x2, x3⟩ := xX.cell
  have HX1 : Hid (type_of% xX) := xX
  have HB1 : Hid (Below w.heap.size w w1) := ((Below.refl _ _).alloc (Nat.le_refl _) _).trans (b1.mono (by simp))
  clear xX b1 HB
  have HBE : Hid (Below w.heap.size w w1) := HB1.out
  have HJ : Hid (LJ w1 o n xs) := HH.out.below HB1.out
  clear HX1 HB1
  rcases Nat.eq_zero_or_pos n with hn00 | hpos
  · subst hn00
    obtain rfl : false = t := by rw [← ht]; rfl
    go_wp2
    go_loop [7, 79] (fun v i => v = .bool false ∧ i = .int .i64 0) (fun _ _ => 0)
    case atStart => exact ⟨rfl, rfl⟩
    case round =>
      obtain ⟨rfl, rfl⟩ := hrel
      have e : R = false := by
        have h1 := HR.out
        have h2 : xs = [] := List.length_eq_zero_iff.1 HJ.out.1
        rw [h2] at h1
        exact h1.symm
      subst e
      clear HR
      cases b
      all_goals
        go_wp2
        go_ret
        exact ⟨rfl, HBE.out⟩
  · have hposi : (0 : Int) < (n : Int) := by omega
    obtain rfl : true = t := by rw [← ht]; exact (decide_eq_true (by omega)).symm
    clear ht
    go_wp2
    go_loop [7, 79] (fun v i => ∃ k : Nat, ∃ u : Bool, v = .bool u ∧ i = .int .i64 k ∧ k ≤ n ∧ Hid ((u || (xs.drop k).any wideB) = R)) (fun _ i => n - (intOf i).toNat)
    case atStart => exact ⟨0, _, rfl, rfl, by omega, by unfold Hid; rw [List.drop_zero]; exact HR.out⟩
    case round =>
      obtain ⟨k, u, rfl, rfl, hk, HK⟩ := hrel
      obtain ⟨hl, hc⟩ := HJ.out
      by_cases hlt : k < n
      · rcases hc with h0 | ⟨ad, rfl, _, hc⟩
        · omega
        have hcell := hc k hlt
        have hd : xs.drop k = xs.getD k 0 :: xs.drop (k + 1) := by
          rw [List.drop_eq_getElem_cons (by omega), List.getD_eq_getElem?_getD, List.getElem?_eq_getElem (by omega)]
          rfl
        have HK2 : Hid ((u || (wideB (xs.getD k 0) || (xs.drop (k + 1)).any wideB)) = R) := by
          unfold Hid
          rw [← HK.out, hd]
          rfl
        have HN := wide_any (xs.getD k 0)
        generalize xs.getD k 0 = x at hcell HN HK2
        have hki0 : (0 : Int) ≤ (k : Int) := by omega
        have hki1 : (k : Int) < (n : Int) := by omega
        clear hc hd hl HK HR
        cases u
        · obtain ⟨y, hy⟩ : ∃ y, wideB x = y := ⟨_, rfl⟩
          have HNN : Hid (∀ w, Calls Tryz.prog 82 #[.int .i64 x] w fun r w' => r = .returned (.bool y) ∧ w' = w) := fun w => by rw [← hy]; exact HN w
          have HK3 : Hid ((y || (xs.drop (k + 1)).any wideB) = R) := by
            have := HK2.out
            rw [hy, Bool.false_or] at this
            exact this
          clear HN hy HK2
          go_wp2_with fail
          refine (HNN.out _).mono ?_
          rintro e w5 ⟨rfl, rfl⟩
          go_wp2
          go_round
          case rel => exact ⟨k + 1, y, rfl, by go_num, by omega, HK3⟩
          case measure => simp [intOf]; omega
        · have HK3 : Hid ((true || (xs.drop (k + 1)).any wideB) = R) := by
            have := HK2.out
            rw [Bool.true_or] at this
            unfold Hid
            rw [Bool.true_or]
            exact this
          clear HN HK2
          go_wp2
          go_round
          case rel => exact ⟨k + 1, true, rfl, by go_num, by omega, HK3⟩
          case measure => simp [intOf]; omega
      · have e : u = R := by
          have := HK.out
          rw [List.drop_eq_nil_of_le (by omega), List.any_nil, Bool.or_false] at this
          exact this
        subst e
        clear hc hl HK HR
        cases b <;> cases u
        all_goals
          go_wp2
          go_ret
          exact ⟨rfl, HBE.out⟩
theorem rchk_a (op A B : Int) (o : Option Addr) (n cap : Nat) (xs : List Int) (F : ByteArray) (_hcap : n ≤ cap) (_q63 : (F.toList == [63]) = false) (_q107 : (F.toList == [107]) = false) (_q99 : (F.toList == [99]) = false) (_q100 : (F.toList == [100]) = false) (HCA : Hid (∀ w, Calls Tryz.prog 83 #[.string F, .string ⟨#[97, 116]⟩] w fun e w' => e = .returned (.bool true) ∧ Below w.heap.size w w')) (_q97 : (F.toList == [97, 98]) = false) (_q116 : (F.toList == [116]) = false) (hn : n ≤ 16) (w : World) (h : LJ w o n xs) (HB : Hid (∀ w', Below w.heap.size w w' → Calls Tryz.prog 81 #[.int .u8 op] w' fun e w'' => e = .returned (.string F) ∧ Below w'.heap.size w' w'')) :
    Calls Tryz.prog 58 #[.agg #[.int .u8 op, .int .i64 A, .int .i64 B, .slice o n cap]] w fun r w' => r = .returned (.int .i64 (if ((wideB A) || ((B != 0) || ((decide (0 < (n : Int))) || xs.any wideB))) = true then 1 else 0)) ∧ Below w.heap.size w w' := by
  have HH : Hid (LJ w o n xs) := h
  clear h
  obtain ⟨a, ha⟩ : ∃ a, (wideB A) = a := ⟨_, rfl⟩
  obtain ⟨b, hb⟩ : ∃ b, (B != 0) = b := ⟨_, rfl⟩
  obtain ⟨t, ht⟩ : ∃ t, (decide (0 < (n : Int))) = t := ⟨_, rfl⟩
  obtain ⟨R, hR⟩ : ∃ R, (t || xs.any wideB) = R := ⟨_, rfl⟩
  rw [ha, hb, ht, hR]
  have HR : Hid ((t || xs.any wideB) = R) := hR
  clear hR
  have hn0 : (0 : Int) ≤ (n : Int) := by omega
  have HWA : Hid (∀ w, Calls Tryz.prog 82 #[.int .i64 A] w fun r w' => r = .returned (.bool a) ∧ w' = w) := fun w => by rw [← ha]; exact wide_any A w
  clear ha
  go_enter Tryz.func58, Tryz.ntmps58
  go_wp2_with fail
  refine (HB.out _ ((Below.refl _ _).alloc (Nat.le_refl _) _)).mono ?_
  rintro e w1 ⟨rfl, b1⟩
  have xX : XS w1 w.heap.size (.int .u8 op) (.int .i64 A) (.int .i64 B) (.slice o n cap) := by
    unfold XS
    rw [b1.block w.heap.size (by simp)]
    exact new_block _ _
  obtain ⟨x0, x1, x2, x3⟩ := xX.cell
  have HX1 : Hid (type_of% xX) := xX
  have HB1 : Hid (Below w.heap.size w w1) := ((Below.refl _ _).alloc (Nat.le_refl _) _).trans (b1.mono (by simp))
  clear xX b1 HB
  go_wp2_with fail
  refine (HCA.out _).mono ?_
  rintro e w2 ⟨rfl, b2⟩
  obtain ⟨x0, x1, x2, x3⟩ := (XS.under HX1.out b2).cell
  have HBE : Hid (Below w.heap.size w w2) := HB1.out.trans (b2.mono HB1.out.size)
  have HJ : Hid (LJ w2 o n xs) := HH.out.below HBE.out
  clear b2 HX1 HB1 HCA
  go_wp2_with fail
  refine (HWA.out _).mono ?_
  rintro e w3 ⟨rfl, rfl⟩
  rcases Nat.eq_zero_or_pos n with hn00 | hpos
  · subst hn00
    obtain rfl : false = t := by rw [← ht]; rfl
    go_wp2
    go_loop [7, 79] (fun v i => v = .bool false ∧ i = .int .i64 0) (fun _ _ => 0)
    case atStart => exact ⟨rfl, rfl⟩
    case round =>
      obtain ⟨rfl, rfl⟩ := hrel
      have e : R = false := by
        have h1 := HR.out
        have h2 : xs = [] := List.length_eq_zero_iff.1 HJ.out.1
        rw [h2] at h1
        exact h1.symm
      subst e
      clear HR
      cases a <;> cases b
      all_goals
        go_wp2
        go_ret
        exact ⟨rfl, HBE.out⟩
  · have hposi : (0 : Int) < (n : Int) := by omega
    obtain rfl : true = t := by rw [← ht]; exact (decide_eq_true (by omega)).symm
    clear ht
    go_wp2
    go_loop [7, 79] (fun v i => ∃ k : Nat, ∃ u : Bool, v = .bool u ∧ i = .int .i64 k ∧ k ≤ n ∧ Hid ((u || (xs.drop k).any wideB) = R)) (fun _ i => n - (intOf i).toNat)
    case atStart => exact ⟨0, _, rfl, rfl, by omega, by unfold Hid; rw [List.drop_zero]; exact HR.out⟩
    case round =>
      obtain ⟨k, u, rfl, rfl, hk, HK⟩ := hrel
      obtain ⟨hl, hc⟩ := HJ.out
      by_cases hlt : k < n
      · rcases hc with h0 | ⟨ad, rfl, _, hc⟩
        · omega
        have hcell := hc k hlt
        have hd : xs.drop k = xs.getD k 0 :: xs.drop (k + 1) := by
          rw [List.drop_eq_getElem_cons (by omega), List.getD_eq_getElem?_getD, List.getElem?_eq_getElem (by omega)]
          rfl
        have HK2 : Hid ((u || (wideB (xs.getD k 0) || (xs.drop (k + 1)).any wideB)) = R) := by
          unfold Hid
          rw [← HK.out, hd]
          rfl
        have HN := wide_any (xs.getD k 0)
        generalize xs.getD k 0 = x at hcell HN HK2
        have hki0 : (0 : Int) ≤ (k : Int) := by omega
        have hki1 : (k : Int) < (n : Int) := by omega
        clear hc hd hl HK HR
        cases u
        · obtain ⟨y, hy⟩ : ∃ y, wideB x = y := ⟨_, rfl⟩
          have HNN : Hid (∀ w, Calls Tryz.prog 82 #[.int .i64 x] w fun r w' => r = .returned (.bool y) ∧ w' = w) := fun w => by rw [← hy]; exact HN w
          have HK3 : Hid ((y || (xs.drop (k + 1)).any wideB) = R) := by
            have := HK2.out
            rw [hy, Bool.false_or] at this
            exact this
          clear HN hy HK2
          go_wp2_with fail
          refine (HNN.out _).mono ?_
          rintro e w5 ⟨rfl, rfl⟩
          go_wp2
          go_round
          case rel => exact ⟨k + 1, y, rfl, by go_num, by omega, HK3⟩
          case measure => simp [intOf]; omega
        · have HK3 : Hid ((true || (xs.drop (k + 1)).any wideB) = R) := by
            have := HK2.out
            rw [Bool.true_or] at this
            unfold Hid
            rw [Bool.true_or]
            exact this
          clear HN HK2
          go_wp2
          go_round
          case rel => exact ⟨k + 1, true, rfl, by go_num, by omega, HK3⟩
          case measure => simp [intOf]; omega
      · have e : u = R := by
          have := HK.out
          rw [List.drop_eq_nil_of_le (by omega), List.any_nil, Bool.or_false] at this
          exact this
        subst e
        clear hc hl HK HR
        cases a <;> cases b <;> cases u
        all_goals
          go_wp2
          go_ret
          exact ⟨rfl, HBE.out⟩
theorem rchk_t (op A B : Int) (o : Option Addr) (n cap : Nat) (xs : List Int) (F : ByteArray) (_hcap : n ≤ cap) (_q63 : (F.toList == [63]) = false) (_q107 : (F.toList == [107]) = false) (_q99 : (F.toList == [99]) = false) (_q100 : (F.toList == [100]) = false) (HCA : Hid (∀ w, Calls Tryz.prog 83 #[.string F, .string ⟨#[97, 116]⟩] w fun e w' => e = .returned (.bool true) ∧ Below w.heap.size w w')) (_q97 : (F.toList == [97, 98]) = false) (_q116 : (F.toList == [116]) = true) (hn : n ≤ 16) (w : World) (h : LJ w o n xs) (HB : Hid (∀ w', Below w.heap.size w w' → Calls Tryz.prog 81 #[.int .u8 op] w' fun e w'' => e = .returned (.string F) ∧ Below w'.heap.size w' w'')) :
    Calls Tryz.prog 58 #[.agg #[.int .u8 op, .int .i64 A, .int .i64 B, .slice o n cap]] w fun r w' => r = .returned (.int .i64 (if ((wideB A) || ((B != 0) || ((false) || xs.any wideB))) = true then 1 else 0)) ∧ Below w.heap.size w w' := by
  have HH : Hid (LJ w o n xs) := h
  clear h
  obtain ⟨a, ha⟩ : ∃ a, (wideB A) = a := ⟨_, rfl⟩
  obtain ⟨b, hb⟩ : ∃ b, (B != 0) = b := ⟨_, rfl⟩
  obtain ⟨t, ht⟩ : ∃ t, (false) = t := ⟨_, rfl⟩
  obtain ⟨R, hR⟩ : ∃ R, (t || xs.any wideB) = R := ⟨_, rfl⟩
  rw [ha, hb, ht, hR]
  have HR : Hid ((t || xs.any wideB) = R) := hR
  clear hR
  have hn0 : (0 : Int) ≤ (n : Int) := by omega
  have HWA : Hid (∀ w, Calls Tryz.prog 82 #[.int .i64 A] w fun r w' => r = .returned (.bool a) ∧ w' = w) := fun w => by rw [← ha]; exact wide_any A w
  clear ha
  subst ht
  go_enter Tryz.func58, Tryz.ntmps58
  go_wp2_with fail
  refine (HB.out _ ((Below.refl _ _).alloc (Nat.le_refl _) _)).mono ?_
  rintro e w1 ⟨rfl, b1⟩
  have xX : XS w1 w.heap.size (.int .u8 op) (.int .i64 A) (.int .i64 B) (.slice o n cap) := by
    unfold XS
    rw [b1.block w.heap.size (by simp)]
    exact new_block _ _
  obtain ⟨x0, x1, x2, x3⟩ := xX.cell
  have HX1 : Hid (type_of% xX) := xX
  have HB1 : Hid (Below w.heap.size w w1) := ((Below.refl _ _).alloc (Nat.le_refl _) _).trans (b1.mono (by simp))
  clear xX b1 HB
  go_wp2_with fail
  refine (HCA.out _).mono ?_
  rintro e w2 ⟨rfl, b2⟩
  obtain ⟨x0, x1, x2, x3⟩ := (XS.under HX1.out b2).cell
  have HBE : Hid (Below w.heap.size w w2) := HB1.out.trans (b2.mono HB1.out.size)
  have HJ : Hid (LJ w2 o n xs) := HH.out.below HBE.out
  clear b2 HX1 HB1 HCA
  go_wp2_with fail
  refine (HWA.out _).mono ?_
  rintro e w3 ⟨rfl, rfl⟩
  rcases Nat.eq_zero_or_pos n with hn00 | hpos
  · subst hn00
    go_wp2
    go_loop [7, 79] (fun v i => v = .bool false ∧ i = .int .i64 0) (fun _ _ => 0)
    case atStart => exact ⟨rfl, rfl⟩
    case round =>
      obtain ⟨rfl, rfl⟩ := hrel
      have e : R = false := by
        have h1 := HR.out
        have h2 : xs = [] := List.length_eq_zero_iff.1 HJ.out.1
        rw [h2] at h1
        exact h1.symm
      subst e
      clear HR
      cases a <;> cases b
      all_goals
        go_wp2
        go_ret
        exact ⟨rfl, HBE.out⟩
  · have hposi : (0 : Int) < (n : Int) := by omega
    go_wp2
    go_loop [7, 79] (fun v i => ∃ k : Nat, ∃ u : Bool, v = .bool u ∧ i = .int .i64 k ∧ k ≤ n ∧ Hid ((u || (xs.drop k).any wideB) = R)) (fun _ i => n - (intOf i).toNat)
    case atStart => exact ⟨0, _, rfl, rfl, by omega, by unfold Hid; rw [List.drop_zero]; exact HR.out⟩
    case round =>
      obtain ⟨k, u, rfl, rfl, hk, HK⟩ := hrel
      obtain ⟨hl, hc⟩ := HJ.out
      by_cases hlt : k < n
      · rcases hc with h0 | ⟨ad, rfl, _, hc⟩
        · omega
        have hcell := hc k hlt
        have hd : xs.drop k = xs.getD k 0 :: xs.drop (k + 1) := by
          rw [List.drop_eq_getElem_cons (by omega), List.getD_eq_getElem?_getD, List.getElem?_eq_getElem (by omega)]
          rfl
        have HK2 : Hid ((u || (wideB (xs.getD k 0) || (xs.drop (k + 1)).any wideB)) = R) := by
          unfold Hid
          rw [← HK.out, hd]
          rfl
        have HN := wide_any (xs.getD k 0)
        generalize xs.getD k 0 = x at hcell HN HK2
        have hki0 : (0 : Int) ≤ (k : Int) := by omega
        have hki1 : (k : Int) < (n : Int) := by omega
        clear hc hd hl HK HR
        cases u
        · obtain ⟨y, hy⟩ : ∃ y, wideB x = y := ⟨_, rfl⟩
          have HNN : Hid (∀ w, Calls Tryz.prog 82 #[.int .i64 x] w fun r w' => r = .returned (.bool y) ∧ w' = w) := fun w => by rw [← hy]; exact HN w
          have HK3 : Hid ((y || (xs.drop (k + 1)).any wideB) = R) := by
            have := HK2.out
            rw [hy, Bool.false_or] at this
            exact this
          clear HN hy HK2
          go_wp2_with fail
          refine (HNN.out _).mono ?_
          rintro e w5 ⟨rfl, rfl⟩
          go_wp2
          go_round
          case rel => exact ⟨k + 1, y, rfl, by go_num, by omega, HK3⟩
          case measure => simp [intOf]; omega
        · have HK3 : Hid ((true || (xs.drop (k + 1)).any wideB) = R) := by
            have := HK2.out
            rw [Bool.true_or] at this
            unfold Hid
            rw [Bool.true_or]
            exact this
          clear HN HK2
          go_wp2
          go_round
          case rel => exact ⟨k + 1, true, rfl, by go_num, by omega, HK3⟩
          case measure => simp [intOf]; omega
      · have e : u = R := by
          have := HK.out
          rw [List.drop_eq_nil_of_le (by omega), List.any_nil, Bool.or_false] at this
          exact this
        subst e
        clear hc hl HK HR
        cases a <;> cases b <;> cases u
        all_goals
          go_wp2
          go_ret
          exact ⟨rfl, HBE.out⟩
theorem rchk_b (op A B : Int) (o : Option Addr) (n cap : Nat) (xs : List Int) (F : ByteArray) (_hcap : n ≤ cap) (_q63 : (F.toList == [63]) = false) (_q107 : (F.toList == [107]) = false) (_q99 : (F.toList == [99]) = false) (_q100 : (F.toList == [100]) = false) (HCA : Hid (∀ w, Calls Tryz.prog 83 #[.string F, .string ⟨#[97, 116]⟩] w fun e w' => e = .returned (.bool true) ∧ Below w.heap.size w w')) (_q97 : (F.toList == [97, 98]) = true) (_q116 : (F.toList == [116]) = false) (hn : n ≤ 16) (w : World) (h : LJ w o n xs) (HB : Hid (∀ w', Below w.heap.size w w' → Calls Tryz.prog 81 #[.int .u8 op] w' fun e w'' => e = .returned (.string F) ∧ Below w'.heap.size w' w'')) :
    Calls Tryz.prog 58 #[.agg #[.int .u8 op, .int .i64 A, .int .i64 B, .slice o n cap]] w fun r w' => r = .returned (.int .i64 (if ((wideB A) || ((wideB B) || ((decide (0 < (n : Int))) || xs.any wideB))) = true then 1 else 0)) ∧ Below w.heap.size w w' := by
  have HH : Hid (LJ w o n xs) := h
  clear h
  obtain ⟨a, ha⟩ : ∃ a, (wideB A) = a := ⟨_, rfl⟩
  obtain ⟨b, hb⟩ : ∃ b, (wideB B) = b := ⟨_, rfl⟩
  obtain ⟨t, ht⟩ : ∃ t, (decide (0 < (n : Int))) = t := ⟨_, rfl⟩
  obtain ⟨R, hR⟩ : ∃ R, (t || xs.any wideB) = R := ⟨_, rfl⟩
  rw [ha, hb, ht, hR]
  have HR : Hid ((t || xs.any wideB) = R) := hR
  clear hR
  have hn0 : (0 : Int) ≤ (n : Int) := by omega
  have HWA : Hid (∀ w, Calls Tryz.prog 82 #[.int .i64 A] w fun r w' => r = .returned (.bool a) ∧ w' = w) := fun w => by rw [← ha]; exact wide_any A w
  clear ha
  have HWB : Hid (∀ w, Calls Tryz.prog 82 #[.int .i64 B] w fun r w' => r = .returned (.bool b) ∧ w' = w) := fun w => by rw [← hb]; exact wide_any B w
  clear hb
  go_enter Tryz.func58, Tryz.ntmps58
  go_wp2_with fail
  refine (HB.out _ ((Below.refl _ _).alloc (Nat.le_refl _) _)).mono ?_
  rintro e w1 ⟨rfl, b1⟩
  have xX : XS w1 w.heap.size (.int .u8 op) (.int .i64 A) (.int .i64 B) (.slice o n cap) := by
    unfold XS
    rw [b1.block w.heap.size (by simp)]
    exact new_block _ _
  obtain ⟨x0, x1, x2, x3⟩ := xX.cell
  have HX1 : Hid (type_of% xX) := xX
  have HB1 : Hid (Below w.heap.size w w1) := ((Below.refl _ _).alloc (Nat.le_refl _) _).trans (b1.mono (by simp))
  clear xX b1 HB
  go_wp2_with fail
  refine (HCA.out _).mono ?_
  rintro e w2 ⟨rfl, b2⟩
  obtain ⟨x0, x1, x2, x3⟩ := (XS.under HX1.out b2).cell
  have HBE : Hid (Below w.heap.size w w2) := HB1.out.trans (b2.mono HB1.out.size)
  have HJ : Hid (LJ w2 o n xs) := HH.out.below HBE.out
  clear b2 HX1 HB1 HCA
  go_wp2_with fail
  refine (HWA.out _).mono ?_
  rintro e w3 ⟨rfl, rfl⟩
  go_wp2_with fail
  refine (HWB.out _).mono ?_
  rintro e w4 ⟨rfl, rfl⟩
  rcases Nat.eq_zero_or_pos n with hn00 | hpos
  · subst hn00
    obtain rfl : false = t := by rw [← ht]; rfl
    go_wp2
    go_loop [7, 79] (fun v i => v = .bool false ∧ i = .int .i64 0) (fun _ _ => 0)
    case atStart => exact ⟨rfl, rfl⟩
    case round =>
      obtain ⟨rfl, rfl⟩ := hrel
      have e : R = false := by
        have h1 := HR.out
        have h2 : xs = [] := List.length_eq_zero_iff.1 HJ.out.1
        rw [h2] at h1
        exact h1.symm
      subst e
      clear HR
      cases a <;> cases b
      all_goals
        go_wp2
        go_ret
        exact ⟨rfl, HBE.out⟩
  · have hposi : (0 : Int) < (n : Int) := by omega
    obtain rfl : true = t := by rw [← ht]; exact (decide_eq_true (by omega)).symm
    clear ht
    go_wp2
    go_loop [7, 79] (fun v i => ∃ k : Nat, ∃ u : Bool, v = .bool u ∧ i = .int .i64 k ∧ k ≤ n ∧ Hid ((u || (xs.drop k).any wideB) = R)) (fun _ i => n - (intOf i).toNat)
    case atStart => exact ⟨0, _, rfl, rfl, by omega, by unfold Hid; rw [List.drop_zero]; exact HR.out⟩
    case round =>
      obtain ⟨k, u, rfl, rfl, hk, HK⟩ := hrel
      obtain ⟨hl, hc⟩ := HJ.out
      by_cases hlt : k < n
      · rcases hc with h0 | ⟨ad, rfl, _, hc⟩
        · omega
        have hcell := hc k hlt
        have hd : xs.drop k = xs.getD k 0 :: xs.drop (k + 1) := by
          rw [List.drop_eq_getElem_cons (by omega), List.getD_eq_getElem?_getD, List.getElem?_eq_getElem (by omega)]
          rfl
        have HK2 : Hid ((u || (wideB (xs.getD k 0) || (xs.drop (k + 1)).any wideB)) = R) := by
          unfold Hid
          rw [← HK.out, hd]
          rfl
        have HN := wide_any (xs.getD k 0)
        generalize xs.getD k 0 = x at hcell HN HK2
        have hki0 : (0 : Int) ≤ (k : Int) := by omega
        have hki1 : (k : Int) < (n : Int) := by omega
        clear hc hd hl HK HR
        cases u
        · obtain ⟨y, hy⟩ : ∃ y, wideB x = y := ⟨_, rfl⟩
          have HNN : Hid (∀ w, Calls Tryz.prog 82 #[.int .i64 x] w fun r w' => r = .returned (.bool y) ∧ w' = w) := fun w => by rw [← hy]; exact HN w
          have HK3 : Hid ((y || (xs.drop (k + 1)).any wideB) = R) := by
            have := HK2.out
            rw [hy, Bool.false_or] at this
            exact this
          clear HN hy HK2
          go_wp2_with fail
          refine (HNN.out _).mono ?_
          rintro e w5 ⟨rfl, rfl⟩
          go_wp2
          go_round
          case rel => exact ⟨k + 1, y, rfl, by go_num, by omega, HK3⟩
          case measure => simp [intOf]; omega
        · have HK3 : Hid ((true || (xs.drop (k + 1)).any wideB) = R) := by
            have := HK2.out
            rw [Bool.true_or] at this
            unfold Hid
            rw [Bool.true_or]
            exact this
          clear HN HK2
          go_wp2
          go_round
          case rel => exact ⟨k + 1, true, rfl, by go_num, by omega, HK3⟩
          case measure => simp [intOf]; omega
      · have e : u = R := by
          have := HK.out
          rw [List.drop_eq_nil_of_le (by omega), List.any_nil, Bool.or_false] at this
          exact this
        subst e
        clear hc hl HK HR
        cases a <;> cases b <;> cases u
        all_goals
          go_wp2
          go_ret
          exact ⟨rfl, HBE.out⟩
end Go.Proofs.YtkceplamaocmmaaGreatDoor
namespace Go.Proofs.YtkceplamaocmmaaGreatDoor
open Go.RowKit
theorem flip_if (f g : Bool) (h : g = !f) : (if g = true then (1 : Int) else 0) = if f = true then 0 else 1 := by
  subst h
  cases f <;> rfl
theorem any_wide (xs : List Int) : xs.any wideB = !allB xs := by
  unfold allB
  induction xs with
  | nil => rfl
  | cons x r ih => rw [List.any_cons, List.all_cons, ih, wideB_num]; cases numB x <;> rfl
theorem isKB_not (A : Int) : (A != 64 && (A != 126 && A != 127)) = !isKB A := by
  unfold isKB
  simp only [bne]
  cases (A == 64) <;> cases (A == 126) <;> cases (A == 127) <;> rfl
theorem numB_zero : numB 0 = true := by decide
theorem notB (B : Int) : (B != 0) = !(B == 0) := rfl
theorem pos_dec (n : Nat) (h : 0 < n) : decide (0 < (n : Int)) = true := decide_eq_true (by omega)
theorem notC (A : Int) : (decide (A < -2147483648) || decide (2147483647 < A)) = !(decide (-2147483648 ≤ A) && decide (A ≤ 2147483647)) := by
  by_cases h0 : A < -2147483648
  · rw [decide_eq_true h0, decide_eq_false (show ¬ -2147483648 ≤ A by omega)]; rfl
  · rw [decide_eq_false h0, decide_eq_true (show -2147483648 ≤ A by omega)]
    by_cases h1 : 2147483647 < A
    · rw [decide_eq_true h1, decide_eq_false (show ¬ A ≤ 2147483647 by omega)]; rfl
    · rw [decide_eq_false h1, decide_eq_true (show A ≤ 2147483647 by omega)]; rfl
def badA (k A : Int) : Bool := if k = 2 then (A != 64 && (A != 126 && A != 127)) else if k = 8 then (decide (A < -2147483648) || decide (2147483647 < A)) else if k = 9 then false else if k = 3 ∨ k = 4 ∨ k = 5 ∨ k = 6 then wideB A else A != 0
theorem fit_flip (k A B : Int) (n : Nat) (xs : List Int) (hk4 : k ≠ 4) (hk6 : k ≠ 6) (hl : xs.length = n) : (badA k A || ((B != 0) || (decide (0 < (n : Int)) || xs.any wideB))) = !fitB k A B n xs := by
  by_cases hn : 0 < n
  · have e : fitB k A B n xs = false := by unfold fitB; rw [if_pos ⟨hk4, hn⟩]
    rw [e, pos_dec n hn]
    simp
  · have h0 : n = 0 := by omega
    subst h0
    have hx : xs = [] := List.length_eq_zero_iff.1 hl
    subst hx
    by_cases hB : B = 0
    · subst hB
      have e : fitB k A 0 0 [] = !badA k A := by
        unfold fitB badA
        rw [if_neg (by omega), if_neg (by omega)]
        by_cases h2 : k = 2
        · rw [if_pos h2, if_pos h2, isKB_not, Bool.not_not]
        rw [if_neg h2, if_neg h2]
        by_cases h8 : k = 8
        · rw [if_pos h8, if_pos h8, notC, Bool.not_not]
        rw [if_neg h8, if_neg h8]
        by_cases h9 : k = 9
        · rw [if_pos h9, if_pos h9]; rfl
        rw [if_neg h9, if_neg h9]
        by_cases h3 : k = 3 ∨ k = 4 ∨ k = 5 ∨ k = 6
        · rw [if_pos h3, if_pos h3, wideB_num, Bool.not_not, numB_zero]
          simp [allB]
        · rw [if_neg h3, if_neg h3, notB, Bool.not_not]
      rw [e]
      simp
    · have e : fitB k A B 0 [] = false := by unfold fitB; rw [if_neg (by omega), if_pos ⟨hk6, hB⟩]
      have eb : (B != 0) = true := by rw [bne_iff_ne]; exact hB
      rw [e, eb]
      simp
theorem fit_flip4 (A B : Int) (n : Nat) (xs : List Int) : (wideB A || ((B != 0) || (false || xs.any wideB))) = !fitB 4 A B n xs := by
  by_cases hB : B = 0
  · subst hB
    have e : fitB 4 A 0 n xs = (numB A && numB 0 && allB xs) := by
      unfold fitB
      rw [if_neg (by omega), if_neg (by omega)]
      simp
    rw [e, wideB_num, any_wide, numB_zero]
    cases numB A <;> cases allB xs <;> rfl
  · have e : fitB 4 A B n xs = false := by unfold fitB; rw [if_neg (by omega), if_pos ⟨by decide, hB⟩]
    have eb : (B != 0) = true := by rw [bne_iff_ne]; exact hB
    rw [e, eb]
    simp
theorem fit_flip6 (A B : Int) (n : Nat) (xs : List Int) (hl : xs.length = n) : (wideB A || (wideB B || (decide (0 < (n : Int)) || xs.any wideB))) = !fitB 6 A B n xs := by
  by_cases hn : 0 < n
  · have e : fitB 6 A B n xs = false := by unfold fitB; rw [if_pos ⟨by decide, hn⟩]
    rw [e, pos_dec n hn]
    simp
  · have h0 : n = 0 := by omega
    subst h0
    have hx : xs = [] := List.length_eq_zero_iff.1 hl
    subst hx
    have e : fitB 6 A B 0 [] = (numB A && numB B && allB []) := by
      unfold fitB
      rw [if_neg (by omega), if_neg (by omega)]
      simp
    rw [e, wideB_num, wideB_num]
    cases numB A <;> cases numB B <;> rfl
theorem any_letF (k : Int) (b : Bool) (h : Lib.containsAny (letF k).data.toList [97, 116] = b) (w : World) :
    Calls Tryz.prog 83 #[.string (letF k), .string ⟨#[97, 116]⟩] w fun e w' => e = .returned (.bool b) ∧ Below w.heap.size w w' := by
  have hb : ∀ (j : Nat) c, (letF k).data.toList[j]? = some c → c.toNat < 128 := by
    intro j c hj
    have hm := List.mem_of_getElem? hj
    have hall : ∀ c ∈ (letF k).data.toList, c.toNat < 128 := by
      unfold letF
      repeat' split
      all_goals decide
    exact hall c hm
  have hs : (letF k).size < 4294967281 := by
    unfold letF
    repeat' split
    all_goals decide
  have := containsAny_any (letF k) ⟨#[97, 116]⟩ w hs (by decide) hb (by
    intro j c hj
    have hm := List.mem_of_getElem? hj
    have hall : ∀ c ∈ ([97, 116] : List UInt8), c.toNat < 128 := by decide
    exact hall c hm)
  rw [← h]
  exact this
theorem eq_letF (k : Int) (l : List UInt8) (b : Bool) (h : ((letF k).data.toList == l) = b) : ((letF k).toList == l) = b := by
  rw [Lib.toList_data]
  exact h
theorem rcheck_any (op A B : Int) (o : Option Addr) (n cap : Nat) (xs : List Int) (h0 : 0 ≤ op) (h1 : op ≤ 255) (hcap : n ≤ cap) (w : World) (h : LJ w o n xs) (hM : MaxIn w) :
    Calls Tryz.prog 58 #[.agg #[.int .u8 op, .int .i64 A, .int .i64 B, .slice o n cap]] w fun r w' => r = .returned (.int .i64 (chkV op A B n xs)) ∧ Below w.heap.size w w' := by
  have hbes : ∀ w', Below w.heap.size w w' → Calls Tryz.prog 81 #[.int .u8 op] w' fun e w'' => e = .returned (.string (letF (besV op))) ∧ Below w'.heap.size w' w'' := fun w' b => by
    obtain ⟨k, rfl⟩ : ∃ k : Nat, op = (k : Int) := ⟨op.toNat, by omega⟩
    rw [← bes_letF k (by omega)]
    exact rbeside_any k (by omega) w' (hM.below b)
  have hrg := besV_range op
  unfold chkV
  generalize besV op = k at hbes hrg ⊢
  by_cases hk0 : k = 0
  · subst hk0
    rw [if_pos rfl]
    exact rchk_0 op A B o n cap (letF 0) (eq_letF 0 _ _ rfl) w hbes
  rw [if_neg hk0]
  by_cases hn : 16 < n
  · rw [if_pos hn]
    exact rchk_l op A B o n cap (letF k) (quest_letF k hk0) hn w hbes
  rw [if_neg hn]
  have hq := quest_letF k hk0
  rcases (show k = 1 ∨ k = 2 ∨ k = 3 ∨ k = 4 ∨ k = 5 ∨ k = 6 ∨ k = 7 ∨ k = 8 ∨ k = 9 by omega) with rfl | rfl | rfl | rfl | rfl | rfl | rfl | rfl | rfl
  · rw [← flip_if _ _ (fit_flip 1 A B n xs (by decide) (by decide) h.1)]
    exact rchk_z op A B o n cap xs (letF 1) hcap hq (eq_letF 1 _ _ rfl) (eq_letF 1 _ _ rfl) (eq_letF 1 _ _ rfl) (fun w => any_letF 1 false (by decide) w) (eq_letF 1 _ _ rfl) (eq_letF 1 _ _ rfl) (by omega) w h hbes
  · rw [← flip_if _ _ (fit_flip 2 A B n xs (by decide) (by decide) h.1)]
    exact rchk_k op A B o n cap xs (letF 2) hcap hq (eq_letF 2 _ _ rfl) (eq_letF 2 _ _ rfl) (eq_letF 2 _ _ rfl) (by omega) w h hbes
  · rw [← flip_if _ _ (fit_flip 3 A B n xs (by decide) (by decide) h.1)]
    exact rchk_a op A B o n cap xs (letF 3) hcap hq (eq_letF 3 _ _ rfl) (eq_letF 3 _ _ rfl) (eq_letF 3 _ _ rfl) (fun w => any_letF 3 true (by decide) w) (eq_letF 3 _ _ rfl) (eq_letF 3 _ _ rfl) (by omega) w h hbes
  · rw [← flip_if _ _ (fit_flip4 A B n xs)]
    exact rchk_t op A B o n cap xs (letF 4) hcap hq (eq_letF 4 _ _ rfl) (eq_letF 4 _ _ rfl) (eq_letF 4 _ _ rfl) (fun w => any_letF 4 true (by decide) w) (eq_letF 4 _ _ rfl) (eq_letF 4 _ _ rfl) (by omega) w h hbes
  · rw [← flip_if _ _ (fit_flip 5 A B n xs (by decide) (by decide) h.1)]
    exact rchk_a op A B o n cap xs (letF 5) hcap hq (eq_letF 5 _ _ rfl) (eq_letF 5 _ _ rfl) (eq_letF 5 _ _ rfl) (fun w => any_letF 5 true (by decide) w) (eq_letF 5 _ _ rfl) (eq_letF 5 _ _ rfl) (by omega) w h hbes
  · rw [← flip_if _ _ (fit_flip6 A B n xs h.1)]
    exact rchk_b op A B o n cap xs (letF 6) hcap hq (eq_letF 6 _ _ rfl) (eq_letF 6 _ _ rfl) (eq_letF 6 _ _ rfl) (fun w => any_letF 6 true (by decide) w) (eq_letF 6 _ _ rfl) (eq_letF 6 _ _ rfl) (by omega) w h hbes
  · rw [← flip_if _ _ (fit_flip 7 A B n xs (by decide) (by decide) h.1)]
    exact rchk_z op A B o n cap xs (letF 7) hcap hq (eq_letF 7 _ _ rfl) (eq_letF 7 _ _ rfl) (eq_letF 7 _ _ rfl) (fun w => any_letF 7 false (by decide) w) (eq_letF 7 _ _ rfl) (eq_letF 7 _ _ rfl) (by omega) w h hbes
  · rw [← flip_if _ _ (fit_flip 8 A B n xs (by decide) (by decide) h.1)]
    exact rchk_c op A B o n cap xs (letF 8) hcap hq (eq_letF 8 _ _ rfl) (eq_letF 8 _ _ rfl) (eq_letF 8 _ _ rfl) (eq_letF 8 _ _ rfl) (by omega) w h hbes
  · rw [← flip_if _ _ (fit_flip 9 A B n xs (by decide) (by decide) h.1)]
    exact rchk_d op A B o n cap xs (letF 9) hcap hq (eq_letF 9 _ _ rfl) (eq_letF 9 _ _ rfl) (eq_letF 9 _ _ rfl) (eq_letF 9 _ _ rfl) (eq_letF 9 _ _ rfl) (by omega) w h hbes
end Go.Proofs.YtkceplamaocmmaaGreatDoor
