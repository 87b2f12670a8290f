/-
  What the document's own InsCheck does.
-/
import Derived.Test.YtgdleahhkaolbaaDoorRRd3
import Derived.Test.YtgdleahhkaolbaaDoorShelfA
import Derived.Test.YtgdleahhkaolbaaDoorInsV2
namespace Go.Proofs.YtgdleahhkaolbaaDoor
open Go.RowKit

/-- Too wide for a number. -/
def wideB (x : Int) : Bool := decide (x < 0) || decide (4294967295 < x)
theorem wideB_num (x : Int) : wideB x = !numB x := by
  unfold wideB numB
  by_cases h0 : x < 0
  · rw [decide_eq_true h0, decide_eq_false (show ¬ 0 ≤ x by omega)]; rfl
  · rw [decide_eq_false h0, decide_eq_true (show 0 ≤ x by omega)]
    by_cases h1 : 4294967295 < x
    · rw [decide_eq_true h1, decide_eq_false (show ¬ x ≤ 4294967295 by omega)]; rfl
    · rw [decide_eq_false h1, decide_eq_true (show x ≤ 4294967295 by omega)]; rfl
set_option maxHeartbeats 2000000 in
set_option maxRecDepth 1000000 in
theorem wide_any (x : Int) (w : World) : Calls Tryd.prog 55 #[.int .i64 x] w fun r w' => r = .returned (.bool (wideB x)) ∧ w' = w := by
  unfold wideB
  by_cases h0 : x < 0
  · have e0 : decide (x < 0) = true := decide_eq_true h0
    go_enter Tryd.func55, Tryd.ntmps55
    go_wp2
    go_ret
    exact ⟨by first | rfl | (rw [e0]; rfl), rfl⟩
  · have e0 : decide (x < 0) = false := decide_eq_false h0
    go_enter Tryd.func55, Tryd.ntmps55
    go_wp2
    go_ret
    exact ⟨by first | rfl | (rw [e0]; rfl), rfl⟩
set_option maxHeartbeats 4000000 in
set_option maxRecDepth 1000000 in
theorem rchk_0 (op A B : Int) (o : Option Addr) (n cap : Nat) (F : ByteArray) (_q63 : (F.toList == [63]) = true) (w : World) (HB : Hid (∀ w', Below w.heap.size w w' → Calls Tryd.prog 41 #[.int .u8 op] w' fun e w'' => e = .returned (.string F) ∧ Below w'.heap.size w' w'')) :
    Calls Tryd.prog 17 #[.agg #[.int .u8 op, .int .i64 A, .int .i64 B, .slice o n cap]] w fun r w' => r = .returned (.int .i64 6) ∧ Below w.heap.size w w' := by
  go_enter Tryd.func17, Tryd.ntmps17
  go_wp2_with fail
  refine (HB.out _ ((Below.refl _ _).alloc (Nat.le_refl _) _)).mono ?_
  rintro e w1 ⟨rfl, b1⟩
  have xX : XS w1 w.heap.size (.int .u8 op) (.int .i64 A) (.int .i64 B) (.slice o n cap) := by
    unfold XS
    rw [b1.block w.heap.size (by simp)]
    exact new_block _ _
  obtain ⟨x0, x1, x2, x3⟩ := xX.cell
  have HX1 : Hid (type_of% xX) := xX
  have HB1 : Hid (Below w.heap.size w w1) := ((Below.refl _ _).alloc (Nat.le_refl _) _).trans (b1.mono (by simp))
  clear xX b1 HB
  clear HX1
  go_wp2
  go_ret
  exact ⟨rfl, HB1.out⟩
set_option maxHeartbeats 4000000 in
set_option maxRecDepth 1000000 in
theorem rchk_l (op A B : Int) (o : Option Addr) (n cap : Nat) (F : ByteArray) (_q63 : (F.toList == [63]) = false) (_hn : 16 < n) (w : World) (HB : Hid (∀ w', Below w.heap.size w w' → Calls Tryd.prog 41 #[.int .u8 op] w' fun e w'' => e = .returned (.string F) ∧ Below w'.heap.size w' w'')) :
    Calls Tryd.prog 17 #[.agg #[.int .u8 op, .int .i64 A, .int .i64 B, .slice o n cap]] w fun r w' => r = .returned (.int .i64 2) ∧ Below w.heap.size w w' := by
  go_enter Tryd.func17, Tryd.ntmps17
  go_wp2_with fail
  refine (HB.out _ ((Below.refl _ _).alloc (Nat.le_refl _) _)).mono ?_
  rintro e w1 ⟨rfl, b1⟩
  have xX : XS w1 w.heap.size (.int .u8 op) (.int .i64 A) (.int .i64 B) (.slice o n cap) := by
    unfold XS
    rw [b1.block w.heap.size (by simp)]
    exact new_block _ _
  obtain ⟨x0, x1, x2, x3⟩ := xX.cell
  have HX1 : Hid (type_of% xX) := xX
  have HB1 : Hid (Below w.heap.size w w1) := ((Below.refl _ _).alloc (Nat.le_refl _) _).trans (b1.mono (by simp))
  clear xX b1 HB
  clear HX1
  go_wp2
  go_ret
  exact ⟨rfl, HB1.out⟩
set_option maxHeartbeats 8000000 in
set_option maxRecDepth 1000000 in
theorem rchk_z (op A B : Int) (o : Option Addr) (n cap : Nat) (xs : List Int) (F : ByteArray) (_hcap : n ≤ cap) (_q63 : (F.toList == [63]) = false) (_q107 : (F.toList == [107]) = false) (_q99 : (F.toList == [99]) = false) (_q100 : (F.toList == [100]) = false) (HCA : Hid (∀ w, Calls Tryd.prog 56 #[.string F, .string ⟨#[97, 116]⟩] w fun e w' => e = .returned (.bool false) ∧ Below w.heap.size w w')) (_q97 : (F.toList == [97, 98]) = false) (_q116 : (F.toList == [116]) = false) (hn : n ≤ 16) (w : World) (h : LJ w o n xs) (HB : Hid (∀ w', Below w.heap.size w w' → Calls Tryd.prog 41 #[.int .u8 op] w' fun e w'' => e = .returned (.string F) ∧ Below w'.heap.size w' w'')) :
    Calls Tryd.prog 17 #[.agg #[.int .u8 op, .int .i64 A, .int .i64 B, .slice o n cap]] w fun r w' => r = .returned (.int .i64 (if ((A != 0) || ((B != 0) || ((decide (0 < (n : Int))) || xs.any wideB))) = true then 1 else 0)) ∧ Below w.heap.size w w' := by
  have HH : Hid (LJ w o n xs) := h
  clear h
  obtain ⟨a, ha⟩ : ∃ a, (A != 0) = a := ⟨_, rfl⟩
  obtain ⟨b, hb⟩ : ∃ b, (B != 0) = b := ⟨_, rfl⟩
  obtain ⟨t, ht⟩ : ∃ t, (decide (0 < (n : Int))) = t := ⟨_, rfl⟩
  obtain ⟨R, hR⟩ : ∃ R, (t || xs.any wideB) = R := ⟨_, rfl⟩
  rw [ha, hb, ht, hR]
  have HR : Hid ((t || xs.any wideB) = R) := hR
  clear hR
  have hn0 : (0 : Int) ≤ (n : Int) := by omega
  go_enter Tryd.func17, Tryd.ntmps17
  go_wp2_with fail
  refine (HB.out _ ((Below.refl _ _).alloc (Nat.le_refl _) _)).mono ?_
  rintro e w1 ⟨rfl, b1⟩
  have xX : XS w1 w.heap.size (.int .u8 op) (.int .i64 A) (.int .i64 B) (.slice o n cap) := by
    unfold XS
    rw [b1.block w.heap.size (by simp)]
    exact new_block _ _
  obtain ⟨x0, x1, x2, x3⟩ := xX.cell
  have HX1 : Hid (type_of% xX) := xX
  have HB1 : Hid (Below w.heap.size w w1) := ((Below.refl _ _).alloc (Nat.le_refl _) _).trans (b1.mono (by simp))
  clear xX b1 HB
  go_wp2_with fail
  refine (HCA.out _).mono ?_
  rintro e w2 ⟨rfl, b2⟩
  obtain ⟨x0, x1, x2, x3⟩ := (XS.under HX1.out b2).cell
  have HBE : Hid (Below w.heap.size w w2) := HB1.out.trans (b2.mono HB1.out.size)
  have HJ : Hid (LJ w2 o n xs) := HH.out.below HBE.out
  clear b2 HX1 HB1 HCA
  rcases Nat.eq_zero_or_pos n with hn00 | hpos
  · subst hn00
    obtain rfl : false = t := by rw [← ht]; rfl
    go_wp2
    go_loop [7, 79] (fun v i => v = .bool false ∧ i = .int .i64 0) (fun _ _ => 0)
    case atStart => exact ⟨rfl, rfl⟩
    case round =>
      obtain ⟨rfl, rfl⟩ := hrel
      have e : R = false := by
        have h1 := HR.out
        have h2 : xs = [] := List.length_eq_zero_iff.1 HJ.out.1
        rw [h2] at h1
        exact h1.symm
      subst e
      clear HR
      cases a <;> cases b
      all_goals
        go_wp2
        go_ret
        exact ⟨rfl, HBE.out⟩
  · have hposi : (0 : Int) < (n : Int) := by omega
    obtain rfl : true = t := by rw [← ht]; exact (decide_eq_true (by omega)).symm
    clear ht
    go_wp2
    go_loop [7, 79] (fun v i => ∃ k : Nat, ∃ u : Bool, v = .bool u ∧ i = .int .i64 k ∧ k ≤ n ∧ Hid ((u || (xs.drop k).any wideB) = R)) (fun _ i => n - (intOf i).toNat)
    case atStart => exact ⟨0, _, rfl, rfl, by omega, by unfold Hid; rw [List.drop_zero]; exact HR.out⟩
    case round =>
      obtain ⟨k, u, rfl, rfl, hk, HK⟩ := hrel
      obtain ⟨hl, hc⟩ := HJ.out
      by_cases hlt : k < n
      · rcases hc with h0 | ⟨ad, rfl, _, hc⟩
        · omega
        have hcell := hc k hlt
        have hd : xs.drop k = xs.getD k 0 :: xs.drop (k + 1) := by
          rw [List.drop_eq_getElem_cons (by omega), List.getD_eq_getElem?_getD, List.getElem?_eq_getElem (by omega)]
          rfl
        have HK2 : Hid ((u || (wideB (xs.getD k 0) || (xs.drop (k + 1)).any wideB)) = R) := by
          unfold Hid
          rw [← HK.out, hd]
          rfl
        have HN := wide_any (xs.getD k 0)
        generalize xs.getD k 0 = x at hcell HN HK2
        have hki0 : (0 : Int) ≤ (k : Int) := by omega
        have hki1 : (k : Int) < (n : Int) := by omega
        clear hc hd hl HK HR
        cases u
        · obtain ⟨y, hy⟩ : ∃ y, wideB x = y := ⟨_, rfl⟩
          have HNN : Hid (∀ w, Calls Tryd.prog 55 #[.int .i64 x] w fun r w' => r = .returned (.bool y) ∧ w' = w) := fun w => by rw [← hy]; exact HN w
          have HK3 : Hid ((y || (xs.drop (k + 1)).any wideB) = R) := by
            have := HK2.out
            rw [hy, Bool.false_or] at this
            exact this
          clear HN hy HK2
          go_wp2_with fail
          refine (HNN.out _).mono ?_
          rintro e w5 ⟨rfl, rfl⟩
          go_wp2
          go_round
          case rel => exact ⟨k + 1, y, rfl, by go_num, by omega, HK3⟩
          case measure => simp [intOf]; omega
        · have HK3 : Hid ((true || (xs.drop (k + 1)).any wideB) = R) := by
            have := HK2.out
            rw [Bool.true_or] at this
            unfold Hid
            rw [Bool.true_or]
            exact this
          clear HN HK2
          go_wp2
          go_round
          case rel => exact ⟨k + 1, true, rfl, by go_num, by omega, HK3⟩
          case measure => simp [intOf]; omega
      · have e : u = R := by
          have := HK.out
          rw [List.drop_eq_nil_of_le (by omega), List.any_nil, Bool.or_false] at this
          exact this
        subst e
        clear hc hl HK HR
        cases a <;> cases b <;> cases u
        all_goals
          go_wp2
          go_ret
          exact ⟨rfl, HBE.out⟩
set_option maxHeartbeats 8000000 in
set_option maxRecDepth 1000000 in
theorem rchk_k (op A B : Int) (o : Option Addr) (n cap : Nat) (xs : List Int) (F : ByteArray) (_hcap : n ≤ cap) (_q63 : (F.toList == [63]) = false) (_q107 : (F.toList == [107]) = true) (_q97 : (F.toList == [97, 98]) = false) (_q116 : (F.toList == [116]) = false) (hn : n ≤ 16) (w : World) (h : LJ w o n xs) (HB : Hid (∀ w', Below w.heap.size w w' → Calls Tryd.prog 41 #[.int .u8 op] w' fun e w'' => e = .returned (.string F) ∧ Below w'.heap.size w' w'')) :
    Calls Tryd.prog 17 #[.agg #[.int .u8 op, .int .i64 A, .int .i64 B, .slice o n cap]] w fun r w' => r = .returned (.int .i64 (if ((A != 64 && (A != 126 && A != 127)) || ((B != 0) || ((decide (0 < (n : Int))) || xs.any wideB))) = true then 1 else 0)) ∧ Below w.heap.size w w' := by
  have HH : Hid (LJ w o n xs) := h
  clear h
  obtain ⟨a, ha⟩ : ∃ a, (A != 64 && (A != 126 && A != 127)) = a := ⟨_, rfl⟩
  obtain ⟨b, hb⟩ : ∃ b, (B != 0) = b := ⟨_, rfl⟩
  obtain ⟨t, ht⟩ : ∃ t, (decide (0 < (n : Int))) = t := ⟨_, rfl⟩
  obtain ⟨R, hR⟩ : ∃ R, (t || xs.any wideB) = R := ⟨_, rfl⟩
  rw [ha, hb, ht, hR]
  have HR : Hid ((t || xs.any wideB) = R) := hR
  clear hR
  have hn0 : (0 : Int) ≤ (n : Int) := by omega
  have HA : Hid ((A != 64 && (A != 126 && A != 127)) = a) := ha
  clear ha
  go_enter Tryd.func17, Tryd.ntmps17
  go_wp2_with fail
  refine (HB.out _ ((Below.refl _ _).alloc (Nat.le_refl _) _)).mono ?_
  rintro e w1 ⟨rfl, b1⟩
  have xX : XS w1 w.heap.size (.int .u8 op) (.int .i64 A) (.int .i64 B) (.slice o n cap) := by
    unfold XS
    rw [b1.block w.heap.size (by simp)]
    exact new_block _ _
  obtain ⟨x0, x1, x2, x3⟩ := xX.cell
  have HX1 : Hid (type_of% xX) := xX
  have HB1 : Hid (Below w.heap.size w w1) := ((Below.refl _ _).alloc (Nat.le_refl _) _).trans (b1.mono (by simp))
  clear xX b1 HB
  have HBE : Hid (Below w.heap.size w w1) := HB1.out
  have HJ : Hid (LJ w1 o n xs) := HH.out.below HB1.out
  clear HX1 HB1
  have hxs : A = 64 ∨ A = 126 ∨ A = 127 ∨ (A ≠ 64 ∧ A ≠ 126 ∧ A ≠ 127) := by omega
  rcases hxs with rfl | rfl | rfl | ⟨n1, n2, n3⟩
  · have ea : false = a := HA.out
    subst ea
    clear HA
    rcases Nat.eq_zero_or_pos n with hn00 | hpos
    · subst hn00
      obtain rfl : false = t := by rw [← ht]; rfl
      go_wp2
      go_loop [7, 79] (fun v i => v = .bool false ∧ i = .int .i64 0) (fun _ _ => 0)
      case atStart => exact ⟨rfl, rfl⟩
      case round =>
        obtain ⟨rfl, rfl⟩ := hrel
        have e : R = false := by
          have h1 := HR.out
          have h2 : xs = [] := List.length_eq_zero_iff.1 HJ.out.1
          rw [h2] at h1
          exact h1.symm
        subst e
        clear HR
        cases b
        all_goals
          go_wp2
          go_ret
          exact ⟨rfl, HBE.out⟩
    · have hposi : (0 : Int) < (n : Int) := by omega
      obtain rfl : true = t := by rw [← ht]; exact (decide_eq_true (by omega)).symm
      clear ht
      go_wp2
      go_loop [7, 79] (fun v i => ∃ k : Nat, ∃ u : Bool, v = .bool u ∧ i = .int .i64 k ∧ k ≤ n ∧ Hid ((u || (xs.drop k).any wideB) = R)) (fun _ i => n - (intOf i).toNat)
      case atStart => exact ⟨0, _, rfl, rfl, by omega, by unfold Hid; rw [List.drop_zero]; exact HR.out⟩
      case round =>
        obtain ⟨k, u, rfl, rfl, hk, HK⟩ := hrel
        obtain ⟨hl, hc⟩ := HJ.out
        by_cases hlt : k < n
        · rcases hc with h0 | ⟨ad, rfl, _, hc⟩
          · omega
          have hcell := hc k hlt
          have hd : xs.drop k = xs.getD k 0 :: xs.drop (k + 1) := by
            rw [List.drop_eq_getElem_cons (by omega), List.getD_eq_getElem?_getD, List.getElem?_eq_getElem (by omega)]
            rfl
          have HK2 : Hid ((u || (wideB (xs.getD k 0) || (xs.drop (k + 1)).any wideB)) = R) := by
            unfold Hid
            rw [← HK.out, hd]
            rfl
          have HN := wide_any (xs.getD k 0)
          generalize xs.getD k 0 = x at hcell HN HK2
          have hki0 : (0 : Int) ≤ (k : Int) := by omega
          have hki1 : (k : Int) < (n : Int) := by omega
          clear hc hd hl HK HR
          cases u
          · obtain ⟨y, hy⟩ : ∃ y, wideB x = y := ⟨_, rfl⟩
            have HNN : Hid (∀ w, Calls Tryd.prog 55 #[.int .i64 x] w fun r w' => r = .returned (.bool y) ∧ w' = w) := fun w => by rw [← hy]; exact HN w
            have HK3 : Hid ((y || (xs.drop (k + 1)).any wideB) = R) := by
              have := HK2.out
              rw [hy, Bool.false_or] at this
              exact this
            clear HN hy HK2
            go_wp2_with fail
            refine (HNN.out _).mono ?_
            rintro e w5 ⟨rfl, rfl⟩
            go_wp2
            go_round
            case rel => exact ⟨k + 1, y, rfl, by go_num, by omega, HK3⟩
            case measure => simp [intOf]; omega
          · have HK3 : Hid ((true || (xs.drop (k + 1)).any wideB) = R) := by
              have := HK2.out
              rw [Bool.true_or] at this
              unfold Hid
              rw [Bool.true_or]
              exact this
            clear HN HK2
            go_wp2
            go_round
            case rel => exact ⟨k + 1, true, rfl, by go_num, by omega, HK3⟩
            case measure => simp [intOf]; omega
        · have e : u = R := by
            have := HK.out
            rw [List.drop_eq_nil_of_le (by omega), List.any_nil, Bool.or_false] at this
            exact this
          subst e
          clear hc hl HK HR
          cases b <;> cases u
          all_goals
            go_wp2
            go_ret
            exact ⟨rfl, HBE.out⟩
  · have ea : false = a := HA.out
    subst ea
    clear HA
    rcases Nat.eq_zero_or_pos n with hn00 | hpos
    · subst hn00
      obtain rfl : false = t := by rw [← ht]; rfl
      go_wp2
      go_loop [7, 79] (fun v i => v = .bool false ∧ i = .int .i64 0) (fun _ _ => 0)
      case atStart => exact ⟨rfl, rfl⟩
      case round =>
        obtain ⟨rfl, rfl⟩ := hrel
        have e : R = false := by
          have h1 := HR.out
          have h2 : xs = [] := List.length_eq_zero_iff.1 HJ.out.1
          rw [h2] at h1
          exact h1.symm
        subst e
        clear HR
        cases b
        all_goals
          go_wp2
          go_ret
          exact ⟨rfl, HBE.out⟩
    · have hposi : (0 : Int) < (n : Int) := by omega
      obtain rfl : true = t := by rw [← ht]; exact (decide_eq_true (by omega)).symm
      clear ht
      go_wp2
      go_loop [7, 79] (fun v i => ∃ k : Nat, ∃ u : Bool, v = .bool u ∧ i = .int .i64 k ∧ k ≤ n ∧ Hid ((u || (xs.drop k).any wideB) = R)) (fun _ i => n - (intOf i).toNat)
      case atStart => exact ⟨0, _, rfl, rfl, by omega, by unfold Hid; rw [List.drop_zero]; exact HR.out⟩
      case round =>
        obtain ⟨k, u, rfl, rfl, hk, HK⟩ := hrel
        obtain ⟨hl, hc⟩ := HJ.out
        by_cases hlt : k < n
        · rcases hc with h0 | ⟨ad, rfl, _, hc⟩
          · omega
          have hcell := hc k hlt
          have hd : xs.drop k = xs.getD k 0 :: xs.drop (k + 1) := by
            rw [List.drop_eq_getElem_cons (by omega), List.getD_eq_getElem?_getD, List.getElem?_eq_getElem (by omega)]
            rfl
          have HK2 : Hid ((u || (wideB (xs.getD k 0) || (xs.drop (k + 1)).any wideB)) = R) := by
            unfold Hid
            rw [← HK.out, hd]
            rfl
          have HN := wide_any (xs.getD k 0)
          generalize xs.getD k 0 = x at hcell HN HK2
          have hki0 : (0 : Int) ≤ (k : Int) := by omega
          have hki1 : (k : Int) < (n : Int) := by omega
          clear hc hd hl HK HR
          cases u
          · obtain ⟨y, hy⟩ : ∃ y, wideB x = y := ⟨_, rfl⟩
            have HNN : Hid (∀ w, Calls Tryd.prog 55 #[.int .i64 x] w fun r w' => r = .returned (.bool y) ∧ w' = w) := fun w => by rw [← hy]; exact HN w
            have HK3 : Hid ((y || (xs.drop (k + 1)).any wideB) = R) := by
              have := HK2.out
              rw [hy, Bool.false_or] at this
              exact this
            clear HN hy HK2
            go_wp2_with fail
            refine (HNN.out _).mono ?_
            rintro e w5 ⟨rfl, rfl⟩
            go_wp2
            go_round
            case rel => exact ⟨k + 1, y, rfl, by go_num, by omega, HK3⟩
            case measure => simp [intOf]; omega
          · have HK3 : Hid ((true || (xs.drop (k + 1)).any wideB) = R) := by
              have := HK2.out
              rw [Bool.true_or] at this
              unfold Hid
              rw [Bool.true_or]
              exact this
            clear HN HK2
            go_wp2
            go_round
            case rel => exact ⟨k + 1, true, rfl, by go_num, by omega, HK3⟩
            case measure => simp [intOf]; omega
        · have e : u = R := by
            have := HK.out
            rw [List.drop_eq_nil_of_le (by omega), List.any_nil, Bool.or_false] at this
            exact this
          subst e
          clear hc hl HK HR
          cases b <;> cases u
          all_goals
            go_wp2
            go_ret
            exact ⟨rfl, HBE.out⟩
  · have ea : false = a := HA.out
    subst ea
    clear HA
    rcases Nat.eq_zero_or_pos n with hn00 | hpos
    · subst hn00
      obtain rfl : false = t := by rw [← ht]; rfl
      go_wp2
      go_loop [7, 79] (fun v i => v = .bool false ∧ i = .int .i64 0) (fun _ _ => 0)
      case atStart => exact ⟨rfl, rfl⟩
      case round =>
        obtain ⟨rfl, rfl⟩ := hrel
        have e : R = false := by
          have h1 := HR.out
          have h2 : xs = [] := List.length_eq_zero_iff.1 HJ.out.1
          rw [h2] at h1
          exact h1.symm
        subst e
        clear HR
        cases b
        all_goals
          go_wp2
          go_ret
          exact ⟨rfl, HBE.out⟩
    · have hposi : (0 : Int) < (n : Int) := by omega
      obtain rfl : true = t := by rw [← ht]; exact (decide_eq_true (by omega)).symm
      clear ht
      go_wp2
      go_loop [7, 79] (fun v i => ∃ k : Nat, ∃ u : Bool, v = .bool u ∧ i = .int .i64 k ∧ k ≤ n ∧ Hid ((u || (xs.drop k).any wideB) = R)) (fun _ i => n - (intOf i).toNat)
      case atStart => exact ⟨0, _, rfl, rfl, by omega, by unfold Hid; rw [List.drop_zero]; exact HR.out⟩
      case round =>
        obtain ⟨k, u, rfl, rfl, hk, HK⟩ := hrel
        obtain ⟨hl, hc⟩ := HJ.out
        by_cases hlt : k < n
        · rcases hc with h0 | ⟨ad, rfl, _, hc⟩
          · omega
          have hcell := hc k hlt
          have hd : xs.drop k = xs.getD k 0 :: xs.drop (k + 1) := by
            rw [List.drop_eq_getElem_cons (by omega), List.getD_eq_getElem?_getD, List.getElem?_eq_getElem (by omega)]
            rfl
          have HK2 : Hid ((u || (wideB (xs.getD k 0) || (xs.drop (k + 1)).any wideB)) = R) := by
            unfold Hid
            rw [← HK.out, hd]
            rfl
          have HN := wide_any (xs.getD k 0)
          generalize xs.getD k 0 = x at hcell HN HK2
          have hki0 : (0 : Int) ≤ (k : Int) := by omega
          have hki1 : (k : Int) < (n : Int) := by omega
          clear hc hd hl HK HR
          cases u
          · obtain ⟨y, hy⟩ : ∃ y, wideB x = y := ⟨_, rfl⟩
            have HNN : Hid (∀ w, Calls Tryd.prog 55 #[.int .i64 x] w fun r w' => r = .returned (.bool y) ∧ w' = w) := fun w => by rw [← hy]; exact HN w
            have HK3 : Hid ((y || (xs.drop (k + 1)).any wideB) = R) := by
              have := HK2.out
              rw [hy, Bool.false_or] at this
              exact this
            clear HN hy HK2
            go_wp2_with fail
            refine (HNN.out _).mono ?_
            rintro e w5 ⟨rfl, rfl⟩
            go_wp2
            go_round
            case rel => exact ⟨k + 1, y, rfl, by go_num, by omega, HK3⟩
            case measure => simp [intOf]; omega
          · have HK3 : Hid ((true || (xs.drop (k + 1)).any wideB) = R) := by
              have := HK2.out
              rw [Bool.true_or] at this
              unfold Hid
              rw [Bool.true_or]
              exact this
            clear HN HK2
            go_wp2
            go_round
            case rel => exact ⟨k + 1, true, rfl, by go_num, by omega, HK3⟩
            case measure => simp [intOf]; omega
        · have e : u = R := by
            have := HK.out
            rw [List.drop_eq_nil_of_le (by omega), List.any_nil, Bool.or_false] at this
            exact this
          subst e
          clear hc hl HK HR
          cases b <;> cases u
          all_goals
            go_wp2
            go_ret
            exact ⟨rfl, HBE.out⟩
  · have e1 : (A == 64) = false := by rw [beq_eq_false_iff_ne]; exact n1
    have e2 : (A == 126) = false := by rw [beq_eq_false_iff_ne]; exact n2
    have e3 : (A == 127) = false := by rw [beq_eq_false_iff_ne]; exact n3
    have e4 : (A != 64) = true := by rw [bne, e1]; rfl
    have e5 : (A != 126) = true := by rw [bne, e2]; rfl
    have e6 : (A != 127) = true := by rw [bne, e3]; rfl
    have ea : true = a := by rw [← HA.out, e4, e5, e6]; rfl
    subst ea
    clear HA n1 n2 n3
    rcases Nat.eq_zero_or_pos n with hn00 | hpos
    · subst hn00
      obtain rfl : false = t := by rw [← ht]; rfl
      go_wp2
      go_loop [7, 79] (fun v i => v = .bool false ∧ i = .int .i64 0) (fun _ _ => 0)
      case atStart => exact ⟨rfl, rfl⟩
      case round =>
        obtain ⟨rfl, rfl⟩ := hrel
        have e : R = false := by
          have h1 := HR.out
          have h2 : xs = [] := List.length_eq_zero_iff.1 HJ.out.1
          rw [h2] at h1
          exact h1.symm
        subst e
        clear HR
        cases b
        all_goals
          go_wp2
          go_ret
          exact ⟨rfl, HBE.out⟩
    · have hposi : (0 : Int) < (n : Int) := by omega
      obtain rfl : true = t := by rw [← ht]; exact (decide_eq_true (by omega)).symm
      clear ht
      go_wp2
      go_loop [7, 79] (fun v i => ∃ k : Nat, ∃ u : Bool, v = .bool u ∧ i = .int .i64 k ∧ k ≤ n ∧ Hid ((u || (xs.drop k).any wideB) = R)) (fun _ i => n - (intOf i).toNat)
      case atStart => exact ⟨0, _, rfl, rfl, by omega, by unfold Hid; rw [List.drop_zero]; exact HR.out⟩
      case round =>
        obtain ⟨k, u, rfl, rfl, hk, HK⟩ := hrel
        obtain ⟨hl, hc⟩ := HJ.out
        by_cases hlt : k < n
        · rcases hc with h0 | ⟨ad, rfl, _, hc⟩
          · omega
          have hcell := hc k hlt
          have hd : xs.drop k = xs.getD k 0 :: xs.drop (k + 1) := by
            rw [List.drop_eq_getElem_cons (by omega), List.getD_eq_getElem?_getD, List.getElem?_eq_getElem (by omega)]
            rfl
          have HK2 : Hid ((u || (wideB (xs.getD k 0) || (xs.drop (k + 1)).any wideB)) = R) := by
            unfold Hid
            rw [← HK.out, hd]
            rfl
          have HN := wide_any (xs.getD k 0)
          generalize xs.getD k 0 = x at hcell HN HK2
          have hki0 : (0 : Int) ≤ (k : Int) := by omega
          have hki1 : (k : Int) < (n : Int) := by omega
          clear hc hd hl HK HR
          cases u
          · obtain ⟨y, hy⟩ : ∃ y, wideB x = y := ⟨_, rfl⟩
            have HNN : Hid (∀ w, Calls Tryd.prog 55 #[.int .i64 x] w fun r w' => r = .returned (.bool y) ∧ w' = w) := fun w => by rw [← hy]; exact HN w
            have HK3 : Hid ((y || (xs.drop (k + 1)).any wideB) = R) := by
              have := HK2.out
              rw [hy, Bool.false_or] at this
              exact this
            clear HN hy HK2
            go_wp2_with fail
            refine (HNN.out _).mono ?_
            rintro e w5 ⟨rfl, rfl⟩
            go_wp2
            go_round
            case rel => exact ⟨k + 1, y, rfl, by go_num, by omega, HK3⟩
            case measure => simp [intOf]; omega
          · have HK3 : Hid ((true || (xs.drop (k + 1)).any wideB) = R) := by
              have := HK2.out
              rw [Bool.true_or] at this
              unfold Hid
              rw [Bool.true_or]
              exact this
            clear HN HK2
            go_wp2
            go_round
            case rel => exact ⟨k + 1, true, rfl, by go_num, by omega, HK3⟩
            case measure => simp [intOf]; omega
        · have e : u = R := by
            have := HK.out
            rw [List.drop_eq_nil_of_le (by omega), List.any_nil, Bool.or_false] at this
            exact this
          subst e
          clear hc hl HK HR
          cases b <;> cases u
          all_goals
            go_wp2
            go_ret
            exact ⟨rfl, HBE.out⟩
set_option maxHeartbeats 8000000 in
set_option maxRecDepth 1000000 in
theorem rchk_c (op A B : Int) (o : Option Addr) (n cap : Nat) (xs : List Int) (F : ByteArray) (_hcap : n ≤ cap) (_q63 : (F.toList == [63]) = false) (_q107 : (F.toList == [107]) = false) (_q99 : (F.toList == [99]) = true) (_q97 : (F.toList == [97, 98]) = false) (_q116 : (F.toList == [116]) = false) (hn : n ≤ 16) (w : World) (h : LJ w o n xs) (HB : Hid (∀ w', Below w.heap.size w w' → Calls Tryd.prog 41 #[.int .u8 op] w' fun e w'' => e = .returned (.string F) ∧ Below w'.heap.size w' w'')) :
    Calls Tryd.prog 17 #[.agg #[.int .u8 op, .int .i64 A, .int .i64 B, .slice o n cap]] w fun r w' => r = .returned (.int .i64 (if ((decide (A < -2147483648) || decide (2147483647 < A)) || ((B != 0) || ((decide (0 < (n : Int))) || xs.any wideB))) = true then 1 else 0)) ∧ Below w.heap.size w w' := by
  have HH : Hid (LJ w o n xs) := h
  clear h
  obtain ⟨a, ha⟩ : ∃ a, (decide (A < -2147483648) || decide (2147483647 < A)) = a := ⟨_, rfl⟩
  obtain ⟨b, hb⟩ : ∃ b, (B != 0) = b := ⟨_, rfl⟩
  obtain ⟨t, ht⟩ : ∃ t, (decide (0 < (n : Int))) = t := ⟨_, rfl⟩
  obtain ⟨R, hR⟩ : ∃ R, (t || xs.any wideB) = R := ⟨_, rfl⟩
  rw [ha, hb, ht, hR]
  have HR : Hid ((t || xs.any wideB) = R) := hR
  clear hR
  have hn0 : (0 : Int) ≤ (n : Int) := by omega
  have HA : Hid ((decide (A < -2147483648) || decide (2147483647 < A)) = a) := ha
  clear ha
  go_enter Tryd.func17, Tryd.ntmps17
  go_wp2_with fail
  refine (HB.out _ ((Below.refl _ _).alloc (Nat.le_refl _) _)).mono ?_
  rintro e w1 ⟨rfl, b1⟩
  have xX : XS w1 w.heap.size (.int .u8 op) (.int .i64 A) (.int .i64 B) (.slice o n cap) := by
    unfold XS
    rw [b1.block w.heap.size (by simp)]
    exact new_block _ _
  obtain ⟨x0, x1, x2, x3⟩ := xX.cell
  have HX1 : Hid (type_of% xX) := xX
  have HB1 : Hid (Below w.heap.size w w1) := ((Below.refl _ _).alloc (Nat.le_refl _) _).trans (b1.mono (by simp))
  clear xX b1 HB
  have HBE : Hid (Below w.heap.size w w1) := HB1.out
  have HJ : Hid (LJ w1 o n xs) := HH.out.below HB1.out
  clear HX1 HB1
  by_cases g1 : A < -2147483648
  · have ea : true = a := by rw [← HA.out, decide_eq_true g1]; rfl
    subst ea
    clear HA
    rcases Nat.eq_zero_or_pos n with hn00 | hpos
    · subst hn00
      obtain rfl : false = t := by rw [← ht]; rfl
      go_wp2
      go_loop [7, 79] (fun v i => v = .bool false ∧ i = .int .i64 0) (fun _ _ => 0)
      case atStart => exact ⟨rfl, rfl⟩
      case round =>
        obtain ⟨rfl, rfl⟩ := hrel
        have e : R = false := by
          have h1 := HR.out
          have h2 : xs = [] := List.length_eq_zero_iff.1 HJ.out.1
          rw [h2] at h1
          exact h1.symm
        subst e
        clear HR
        cases b
        all_goals
          go_wp2
          go_ret
          exact ⟨rfl, HBE.out⟩
    · have hposi : (0 : Int) < (n : Int) := by omega
      obtain rfl : true = t := by rw [← ht]; exact (decide_eq_true (by omega)).symm
      clear ht
      go_wp2
      go_loop [7, 79] (fun v i => ∃ k : Nat, ∃ u : Bool, v = .bool u ∧ i = .int .i64 k ∧ k ≤ n ∧ Hid ((u || (xs.drop k).any wideB) = R)) (fun _ i => n - (intOf i).toNat)
      case atStart => exact ⟨0, _, rfl, rfl, by omega, by unfold Hid; rw [List.drop_zero]; exact HR.out⟩
      case round =>
        obtain ⟨k, u, rfl, rfl, hk, HK⟩ := hrel
        obtain ⟨hl, hc⟩ := HJ.out
        by_cases hlt : k < n
        · rcases hc with h0 | ⟨ad, rfl, _, hc⟩
          · omega
          have hcell := hc k hlt
          have hd : xs.drop k = xs.getD k 0 :: xs.drop (k + 1) := by
            rw [List.drop_eq_getElem_cons (by omega), List.getD_eq_getElem?_getD, List.getElem?_eq_getElem (by omega)]
            rfl
          have HK2 : Hid ((u || (wideB (xs.getD k 0) || (xs.drop (k + 1)).any wideB)) = R) := by
            unfold Hid
            rw [← HK.out, hd]
            rfl
          have HN := wide_any (xs.getD k 0)
          generalize xs.getD k 0 = x at hcell HN HK2
          have hki0 : (0 : Int) ≤ (k : Int) := by omega
          have hki1 : (k : Int) < (n : Int) := by omega
          clear hc hd hl HK HR
          cases u
          · obtain ⟨y, hy⟩ : ∃ y, wideB x = y := ⟨_, rfl⟩
            have HNN : Hid (∀ w, Calls Tryd.prog 55 #[.int .i64 x] w fun r w' => r = .returned (.bool y) ∧ w' = w) := fun w => by rw [← hy]; exact HN w
            have HK3 : Hid ((y || (xs.drop (k + 1)).any wideB) = R) := by
              have := HK2.out
              rw [hy, Bool.false_or] at this
              exact this
            clear HN hy HK2
            go_wp2_with fail
            refine (HNN.out _).mono ?_
            rintro e w5 ⟨rfl, rfl⟩
            go_wp2
            go_round
            case rel => exact ⟨k + 1, y, rfl, by go_num, by omega, HK3⟩
            case measure => simp [intOf]; omega
          · have HK3 : Hid ((true || (xs.drop (k + 1)).any wideB) = R) := by
              have := HK2.out
              rw [Bool.true_or] at this
              unfold Hid
              rw [Bool.true_or]
              exact this
            clear HN HK2
            go_wp2
            go_round
            case rel => exact ⟨k + 1, true, rfl, by go_num, by omega, HK3⟩
            case measure => simp [intOf]; omega
        · have e : u = R := by
            have := HK.out
            rw [List.drop_eq_nil_of_le (by omega), List.any_nil, Bool.or_false] at this
            exact this
          subst e
          clear hc hl HK HR
          cases b <;> cases u
          all_goals
            go_wp2
            go_ret
            exact ⟨rfl, HBE.out⟩
  · by_cases g2 : 2147483647 < A
    · have ea : true = a := by rw [← HA.out, decide_eq_true g2, Bool.or_true]
      subst ea
      clear HA
      rcases Nat.eq_zero_or_pos n with hn00 | hpos
      · subst hn00
        obtain rfl : false = t := by rw [← ht]; rfl
        go_wp2
        go_loop [7, 79] (fun v i => v = .bool false ∧ i = .int .i64 0) (fun _ _ => 0)
        case atStart => exact ⟨rfl, rfl⟩
        case round =>
          obtain ⟨rfl, rfl⟩ := hrel
          have e : R = false := by
            have h1 := HR.out
            have h2 : xs = [] := List.length_eq_zero_iff.1 HJ.out.1
            rw [h2] at h1
            exact h1.symm
          subst e
          clear HR
          cases b
          all_goals
            go_wp2
            go_ret
            exact ⟨rfl, HBE.out⟩
      · have hposi : (0 : Int) < (n : Int) := by omega
        obtain rfl : true = t := by rw [← ht]; exact (decide_eq_true (by omega)).symm
        clear ht
        go_wp2
        go_loop [7, 79] (fun v i => ∃ k : Nat, ∃ u : Bool, v = .bool u ∧ i = .int .i64 k ∧ k ≤ n ∧ Hid ((u || (xs.drop k).any wideB) = R)) (fun _ i => n - (intOf i).toNat)
        case atStart => exact ⟨0, _, rfl, rfl, by omega, by unfold Hid; rw [List.drop_zero]; exact HR.out⟩
        case round =>
          obtain ⟨k, u, rfl, rfl, hk, HK⟩ := hrel
          obtain ⟨hl, hc⟩ := HJ.out
          by_cases hlt : k < n
          · rcases hc with h0 | ⟨ad, rfl, _, hc⟩
            · omega
            have hcell := hc k hlt
            have hd : xs.drop k = xs.getD k 0 :: xs.drop (k + 1) := by
              rw [List.drop_eq_getElem_cons (by omega), List.getD_eq_getElem?_getD, List.getElem?_eq_getElem (by omega)]
              rfl
            have HK2 : Hid ((u || (wideB (xs.getD k 0) || (xs.drop (k + 1)).any wideB)) = R) := by
              unfold Hid
              rw [← HK.out, hd]
              rfl
            have HN := wide_any (xs.getD k 0)
            generalize xs.getD k 0 = x at hcell HN HK2
            have hki0 : (0 : Int) ≤ (k : Int) := by omega
            have hki1 : (k : Int) < (n : Int) := by omega
            clear hc hd hl HK HR
            cases u
            · obtain ⟨y, hy⟩ : ∃ y, wideB x = y := ⟨_, rfl⟩
              have HNN : Hid (∀ w, Calls Tryd.prog 55 #[.int .i64 x] w fun r w' => r = .returned (.bool y) ∧ w' = w) := fun w => by rw [← hy]; exact HN w
              have HK3 : Hid ((y || (xs.drop (k + 1)).any wideB) = R) := by
                have := HK2.out
                rw [hy, Bool.false_or] at this
                exact this
              clear HN hy HK2
              go_wp2_with fail
              refine (HNN.out _).mono ?_
              rintro e w5 ⟨rfl, rfl⟩
              go_wp2
              go_round
              case rel => exact ⟨k + 1, y, rfl, by go_num, by omega, HK3⟩
              case measure => simp [intOf]; omega
            · have HK3 : Hid ((true || (xs.drop (k + 1)).any wideB) = R) := by
                have := HK2.out
                rw [Bool.true_or] at this
                unfold Hid
                rw [Bool.true_or]
                exact this
              clear HN HK2
              go_wp2
              go_round
              case rel => exact ⟨k + 1, true, rfl, by go_num, by omega, HK3⟩
              case measure => simp [intOf]; omega
          · have e : u = R := by
              have := HK.out
              rw [List.drop_eq_nil_of_le (by omega), List.any_nil, Bool.or_false] at this
              exact this
            subst e
            clear hc hl HK HR
            cases b <;> cases u
            all_goals
              go_wp2
              go_ret
              exact ⟨rfl, HBE.out⟩
    · have ea : false = a := by rw [← HA.out, decide_eq_false g1, decide_eq_false g2]; rfl
      subst ea
      clear HA
      rcases Nat.eq_zero_or_pos n with hn00 | hpos
      · subst hn00
        obtain rfl : false = t := by rw [← ht]; rfl
        go_wp2
        go_loop [7, 79] (fun v i => v = .bool false ∧ i = .int .i64 0) (fun _ _ => 0)
        case atStart => exact ⟨rfl, rfl⟩
        case round =>
          obtain ⟨rfl, rfl⟩ := hrel
          have e : R = false := by
            have h1 := HR.out
            have h2 : xs = [] := List.length_eq_zero_iff.1 HJ.out.1
            rw [h2] at h1
            exact h1.symm
          subst e
          clear HR
          cases b
          all_goals
            go_wp2
            go_ret
            exact ⟨rfl, HBE.out⟩
      · have hposi : (0 : Int) < (n : Int) := by omega
        obtain rfl : true = t := by rw [← ht]; exact (decide_eq_true (by omega)).symm
        clear ht
        go_wp2
        go_loop [7, 79] (fun v i => ∃ k : Nat, ∃ u : Bool, v = .bool u ∧ i = .int .i64 k ∧ k ≤ n ∧ Hid ((u || (xs.drop k).any wideB) = R)) (fun _ i => n - (intOf i).toNat)
        case atStart => exact ⟨0, _, rfl, rfl, by omega, by unfold Hid; rw [List.drop_zero]; exact HR.out⟩
        case round =>
          obtain ⟨k, u, rfl, rfl, hk, HK⟩ := hrel
          obtain ⟨hl, hc⟩ := HJ.out
          by_cases hlt : k < n
          · rcases hc with h0 | ⟨ad, rfl, _, hc⟩
            · omega
            have hcell := hc k hlt
            have hd : xs.drop k = xs.getD k 0 :: xs.drop (k + 1) := by
              rw [List.drop_eq_getElem_cons (by omega), List.getD_eq_getElem?_getD, List.getElem?_eq_getElem (by omega)]
              rfl
            have HK2 : Hid ((u || (wideB (xs.getD k 0) || (xs.drop (k + 1)).any wideB)) = R) := by
              unfold Hid
              rw [← HK.out, hd]
              rfl
            have HN := wide_any (xs.getD k 0)
            generalize xs.getD k 0 = x at hcell HN HK2
            have hki0 : (0 : Int) ≤ (k : Int) := by omega
            have hki1 : (k : Int) < (n : Int) := by omega
            clear hc hd hl HK HR
            cases u
            · obtain ⟨y, hy⟩ : ∃ y, wideB x = y := ⟨_, rfl⟩
              have HNN : Hid (∀ w, Calls Tryd.prog 55 #[.int .i64 x] w fun r w' => r = .returned (.bool y) ∧ w' = w) := fun w => by rw [← hy]; exact HN w
              have HK3 : Hid ((y || (xs.drop (k + 1)).any wideB) = R) := by
                have := HK2.out
                rw [hy, Bool.false_or] at this
                exact this
              clear HN hy HK2
              go_wp2_with fail
              refine (HNN.out _).mono ?_
              rintro e w5 ⟨rfl, rfl⟩
              go_wp2
              go_round
              case rel => exact ⟨k + 1, y, rfl, by go_num, by omega, HK3⟩
              case measure => simp [intOf]; omega
            · have HK3 : Hid ((true || (xs.drop (k + 1)).any wideB) = R) := by
                have := HK2.out
                rw [Bool.true_or] at this
                unfold Hid
                rw [Bool.true_or]
                exact this
              clear HN HK2
              go_wp2
              go_round
              case rel => exact ⟨k + 1, true, rfl, by go_num, by omega, HK3⟩
              case measure => simp [intOf]; omega
          · have e : u = R := by
              have := HK.out
              rw [List.drop_eq_nil_of_le (by omega), List.any_nil, Bool.or_false] at this
              exact this
            subst e
            clear hc hl HK HR
            cases b <;> cases u
            all_goals
              go_wp2
              go_ret
              exact ⟨rfl, HBE.out⟩
set_option maxHeartbeats 8000000 in
set_option maxRecDepth 1000000 in
theorem rchk_d (op A B : Int) (o : Option Addr) (n cap : Nat) (xs : List Int) (F : ByteArray) (_hcap : n ≤ cap) (_q63 : (F.toList == [63]) = false) (_q107 : (F.toList == [107]) = false) (_q99 : (F.toList == [99]) = false) (_q100 : (F.toList == [100]) = true) (_q97 : (F.toList == [97, 98]) = false) (_q116 : (F.toList == [116]) = false) (hn : n ≤ 16) (w : World) (h : LJ w o n xs) (HB : Hid (∀ w', Below w.heap.size w w' → Calls Tryd.prog 41 #[.int .u8 op] w' fun e w'' => e = .returned (.string F) ∧ Below w'.heap.size w' w'')) :
    Calls Tryd.prog 17 #[.agg #[.int .u8 op, .int .i64 A, .int .i64 B, .slice o n cap]] w fun r w' => r = .returned (.int .i64 (if ((false) || ((B != 0) || ((decide (0 < (n : Int))) || xs.any wideB))) = true then 1 else 0)) ∧ Below w.heap.size w w' := by
  have HH : Hid (LJ w o n xs) := h
  clear h
  obtain ⟨a, ha⟩ : ∃ a, (false) = a := ⟨_, rfl⟩
  obtain ⟨b, hb⟩ : ∃ b, (B != 0) = b := ⟨_, rfl⟩
  obtain ⟨t, ht⟩ : ∃ t, (decide (0 < (n : Int))) = t := ⟨_, rfl⟩
  obtain ⟨R, hR⟩ : ∃ R, (t || xs.any wideB) = R := ⟨_, rfl⟩
  rw [ha, hb, ht, hR]
  have HR : Hid ((t || xs.any wideB) = R) := hR
  clear hR
  have hn0 : (0 : Int) ≤ (n : Int) := by omega
  subst ha
  go_enter Tryd.func17, Tryd.ntmps17
  go_wp2_with fail
  refine (HB.out _ ((Below.refl _ _).alloc (Nat.le_refl _) _)).mono ?_
  rintro e w1 ⟨rfl, b1⟩
  have xX : XS w1 w.heap.size (.int .u8 op) (.int .i64 A) (.int .i64 B) (.slice o n cap) := by
    unfold XS
    rw [b1.block w.heap.size (by simp)]
    exact new_block _ _
  obtain ⟨x0, x1, x2, x3⟩ := xX.cell
  have HX1 : Hid (type_of% xX) := xX
  have HB1 : Hid (Below w.heap.size w w1) := ((Below.refl _ _).alloc (Nat.le_refl _) _).trans (b1.mono (by simp))
  clear xX b1 HB
  have HBE : Hid (Below w.heap.size w w1) := HB1.out
  have HJ : Hid (LJ w1 o n xs) := HH.out.below HB1.out
  clear HX1 HB1
  rcases Nat.eq_zero_or_pos n with hn00 | hpos
  · subst hn00
    obtain rfl : false = t := by rw [← ht]; rfl
    go_wp2
    go_loop [7, 79] (fun v i => v = .bool false ∧ i = .int .i64 0) (fun _ _ => 0)
    case atStart => exact ⟨rfl, rfl⟩
    case round =>
      obtain ⟨rfl, rfl⟩ := hrel
      have e : R = false := by
        have h1 := HR.out
        have h2 : xs = [] := List.length_eq_zero_iff.1 HJ.out.1
        rw [h2] at h1
        exact h1.symm
      subst e
      clear HR
      cases b
      all_goals
        go_wp2
        go_ret
        exact ⟨rfl, HBE.out⟩
  · have hposi : (0 : Int) < (n : Int) := by omega
    obtain rfl : true = t := by rw [← ht]; exact (decide_eq_true (by omega)).symm
    clear ht
    go_wp2
    go_loop [7, 79] (fun v i => ∃ k : Nat, ∃ u : Bool, v = .bool u ∧ i = .int .i64 k ∧ k ≤ n ∧ Hid ((u || (xs.drop k).any wideB) = R)) (fun _ i => n - (intOf i).toNat)
    case atStart => exact ⟨0, _, rfl, rfl, by omega, by unfold Hid; rw [List.drop_zero]; exact HR.out⟩
    case round =>
      obtain ⟨k, u, rfl, rfl, hk, HK⟩ := hrel
      obtain ⟨hl, hc⟩ := HJ.out
      by_cases hlt : k < n
      · rcases hc with h0 | ⟨ad, rfl, _, hc⟩
        · omega
        have hcell := hc k hlt
        have hd : xs.drop k = xs.getD k 0 :: xs.drop (k + 1) := by
          rw [List.drop_eq_getElem_cons (by omega), List.getD_eq_getElem?_getD, List.getElem?_eq_getElem (by omega)]
          rfl
        have HK2 : Hid ((u || (wideB (xs.getD k 0) || (xs.drop (k + 1)).any wideB)) = R) := by
          unfold Hid
          rw [← HK.out, hd]
          rfl
        have HN := wide_any (xs.getD k 0)
        generalize xs.getD k 0 = x at hcell HN HK2
        have hki0 : (0 : Int) ≤ (k : Int) := by omega
        have hki1 : (k : Int) < (n : Int) := by omega
        clear hc hd hl HK HR
        cases u
        · obtain ⟨y, hy⟩ : ∃ y, wideB x = y := ⟨_, rfl⟩
          have HNN : Hid (∀ w, Calls Tryd.prog 55 #[.int .i64 x] w fun r w' => r = .returned (.bool y) ∧ w' = w) := fun w => by rw [← hy]; exact HN w
          have HK3 : Hid ((y || (xs.drop (k + 1)).any wideB) = R) := by
            have := HK2.out
            rw [hy, Bool.false_or] at this
            exact this
          clear HN hy HK2
          go_wp2_with fail
          refine (HNN.out _).mono ?_
          rintro e w5 ⟨rfl, rfl⟩
          go_wp2
          go_round
          case rel => exact ⟨k + 1, y, rfl, by go_num, by omega, HK3⟩
          case measure => simp [intOf]; omega
        · have HK3 : Hid ((true || (xs.drop (k + 1)).any wideB) = R) := by
            have := HK2.out
            rw [Bool.true_or] at this
            unfold Hid
            rw [Bool.true_or]
            exact this
          clear HN HK2
          go_wp2
          go_round
          case rel => exact ⟨k + 1, true, rfl, by go_num, by omega, HK3⟩
          case measure => simp [intOf]; omega
      · have e : u = R := by
          have := HK.out
          rw [List.drop_eq_nil_of_le (by omega), List.any_nil, Bool.or_false] at this
          exact this
        subst e
        clear hc hl HK HR
        cases b <;> cases u
        all_goals
          go_wp2
          go_ret
          exact ⟨rfl, HBE.out⟩
set_option maxHeartbeats 8000000 in
set_option maxRecDepth 1000000 in
theorem rchk_a (op A B : Int) (o : Option Addr) (n cap : Nat) (xs : List Int) (F : ByteArray) (_hcap : n ≤ cap) (_q63 : (F.toList == [63]) = false) (_q107 : (F.toList == [107]) = false) (_q99 : (F.toList == [99]) = false) (_q100 : (F.toList == [100]) = false) (HCA : Hid (∀ w, Calls Tryd.prog 56 #[.string F, .string ⟨#[97, 116]⟩] w fun e w' => e = .returned (.bool true) ∧ Below w.heap.size w w')) (_q97 : (F.toList == [97, 98]) = false) (_q116 : (F.toList == [116]) = false) (hn : n ≤ 16) (w : World) (h : LJ w o n xs) (HB : Hid (∀ w', Below w.heap.size w w' → Calls Tryd.prog 41 #[.int .u8 op] w' fun e w'' => e = .returned (.string F) ∧ Below w'.heap.size w' w'')) :
    Calls Tryd.prog 17 #[.agg #[.int .u8 op, .int .i64 A, .int .i64 B, .slice o n cap]] w fun r w' => r = .returned (.int .i64 (if ((wideB A) || ((B != 0) || ((decide (0 < (n : Int))) || xs.any wideB))) = true then 1 else 0)) ∧ Below w.heap.size w w' := by
  have HH : Hid (LJ w o n xs) := h
  clear h
  obtain ⟨a, ha⟩ : ∃ a, (wideB A) = a := ⟨_, rfl⟩
  obtain ⟨b, hb⟩ : ∃ b, (B != 0) = b := ⟨_, rfl⟩
  obtain ⟨t, ht⟩ : ∃ t, (decide (0 < (n : Int))) = t := ⟨_, rfl⟩
  obtain ⟨R, hR⟩ : ∃ R, (t || xs.any wideB) = R := ⟨_, rfl⟩
  rw [ha, hb, ht, hR]
  have HR : Hid ((t || xs.any wideB) = R) := hR
  clear hR
  have hn0 : (0 : Int) ≤ (n : Int) := by omega
  have HWA : Hid (∀ w, Calls Tryd.prog 55 #[.int .i64 A] w fun r w' => r = .returned (.bool a) ∧ w' = w) := fun w => by rw [← ha]; exact wide_any A w
  clear ha
  go_enter Tryd.func17, Tryd.ntmps17
  go_wp2_with fail
  refine (HB.out _ ((Below.refl _ _).alloc (Nat.le_refl _) _)).mono ?_
  rintro e w1 ⟨rfl, b1⟩
  have xX : XS w1 w.heap.size (.int .u8 op) (.int .i64 A) (.int .i64 B) (.slice o n cap) := by
    unfold XS
    rw [b1.block w.heap.size (by simp)]
    exact new_block _ _
  obtain ⟨x0, x1, x2, x3⟩ := xX.cell
  have HX1 : Hid (type_of% xX) := xX
  have HB1 : Hid (Below w.heap.size w w1) := ((Below.refl _ _).alloc (Nat.le_refl _) _).trans (b1.mono (by simp))
  clear xX b1 HB
  go_wp2_with fail
  refine (HCA.out _).mono ?_
  rintro e w2 ⟨rfl, b2⟩
  obtain ⟨x0, x1, x2, x3⟩ := (XS.under HX1.out b2).cell
  have HBE : Hid (Below w.heap.size w w2) := HB1.out.trans (b2.mono HB1.out.size)
  have HJ : Hid (LJ w2 o n xs) := HH.out.below HBE.out
  clear b2 HX1 HB1 HCA
  go_wp2_with fail
  refine (HWA.out _).mono ?_
  rintro e w3 ⟨rfl, rfl⟩
  rcases Nat.eq_zero_or_pos n with hn00 | hpos
  · subst hn00
    obtain rfl : false = t := by rw [← ht]; rfl
    go_wp2
    go_loop [7, 79] (fun v i => v = .bool false ∧ i = .int .i64 0) (fun _ _ => 0)
    case atStart => exact ⟨rfl, rfl⟩
    case round =>
      obtain ⟨rfl, rfl⟩ := hrel
      have e : R = false := by
        have h1 := HR.out
        have h2 : xs = [] := List.length_eq_zero_iff.1 HJ.out.1
        rw [h2] at h1
        exact h1.symm
      subst e
      clear HR
      cases a <;> cases b
      all_goals
        go_wp2
        go_ret
        exact ⟨rfl, HBE.out⟩
  · have hposi : (0 : Int) < (n : Int) := by omega
    obtain rfl : true = t := by rw [← ht]; exact (decide_eq_true (by omega)).symm
    clear ht
    go_wp2
    go_loop [7, 79] (fun v i => ∃ k : Nat, ∃ u : Bool, v = .bool u ∧ i = .int .i64 k ∧ k ≤ n ∧ Hid ((u || (xs.drop k).any wideB) = R)) (fun _ i => n - (intOf i).toNat)
    case atStart => exact ⟨0, _, rfl, rfl, by omega, by unfold Hid; rw [List.drop_zero]; exact HR.out⟩
    case round =>
      obtain ⟨k, u, rfl, rfl, hk, HK⟩ := hrel
      obtain ⟨hl, hc⟩ := HJ.out
      by_cases hlt : k < n
      · rcases hc with h0 | ⟨ad, rfl, _, hc⟩
        · omega
        have hcell := hc k hlt
        have hd : xs.drop k = xs.getD k 0 :: xs.drop (k + 1) := by
          rw [List.drop_eq_getElem_cons (by omega), List.getD_eq_getElem?_getD, List.getElem?_eq_getElem (by omega)]
          rfl
        have HK2 : Hid ((u || (wideB (xs.getD k 0) || (xs.drop (k + 1)).any wideB)) = R) := by
          unfold Hid
          rw [← HK.out, hd]
          rfl
        have HN := wide_any (xs.getD k 0)
        generalize xs.getD k 0 = x at hcell HN HK2
        have hki0 : (0 : Int) ≤ (k : Int) := by omega
        have hki1 : (k : Int) < (n : Int) := by omega
        clear hc hd hl HK HR
        cases u
        · obtain ⟨y, hy⟩ : ∃ y, wideB x = y := ⟨_, rfl⟩
          have HNN : Hid (∀ w, Calls Tryd.prog 55 #[.int .i64 x] w fun r w' => r = .returned (.bool y) ∧ w' = w) := fun w => by rw [← hy]; exact HN w
          have HK3 : Hid ((y || (xs.drop (k + 1)).any wideB) = R) := by
            have := HK2.out
            rw [hy, Bool.false_or] at this
            exact this
          clear HN hy HK2
          go_wp2_with fail
          refine (HNN.out _).mono ?_
          rintro e w5 ⟨rfl, rfl⟩
          go_wp2
          go_round
          case rel => exact ⟨k + 1, y, rfl, by go_num, by omega, HK3⟩
          case measure => simp [intOf]; omega
        · have HK3 : Hid ((true || (xs.drop (k + 1)).any wideB) = R) := by
            have := HK2.out
            rw [Bool.true_or] at this
            unfold Hid
            rw [Bool.true_or]
            exact this
          clear HN HK2
          go_wp2
          go_round
          case rel => exact ⟨k + 1, true, rfl, by go_num, by omega, HK3⟩
          case measure => simp [intOf]; omega
      · have e : u = R := by
          have := HK.out
          rw [List.drop_eq_nil_of_le (by omega), List.any_nil, Bool.or_false] at this
          exact this
        subst e
        clear hc hl HK HR
        cases a <;> cases b <;> cases u
        all_goals
          go_wp2
          go_ret
          exact ⟨rfl, HBE.out⟩
set_option maxHeartbeats 8000000 in
set_option maxRecDepth 1000000 in
theorem rchk_t (op A B : Int) (o : Option Addr) (n cap : Nat) (xs : List Int) (F : ByteArray) (_hcap : n ≤ cap) (_q63 : (F.toList == [63]) = false) (_q107 : (F.toList == [107]) = false) (_q99 : (F.toList == [99]) = false) (_q100 : (F.toList == [100]) = false) (HCA : Hid (∀ w, Calls Tryd.prog 56 #[.string F, .string ⟨#[97, 116]⟩] w fun e w' => e = .returned (.bool true) ∧ Below w.heap.size w w')) (_q97 : (F.toList == [97, 98]) = false) (_q116 : (F.toList == [116]) = true) (hn : n ≤ 16) (w : World) (h : LJ w o n xs) (HB : Hid (∀ w', Below w.heap.size w w' → Calls Tryd.prog 41 #[.int .u8 op] w' fun e w'' => e = .returned (.string F) ∧ Below w'.heap.size w' w'')) :
    Calls Tryd.prog 17 #[.agg #[.int .u8 op, .int .i64 A, .int .i64 B, .slice o n cap]] w fun r w' => r = .returned (.int .i64 (if ((wideB A) || ((B != 0) || ((false) || xs.any wideB))) = true then 1 else 0)) ∧ Below w.heap.size w w' := by
  have HH : Hid (LJ w o n xs) := h
  clear h
  obtain ⟨a, ha⟩ : ∃ a, (wideB A) = a := ⟨_, rfl⟩
  obtain ⟨b, hb⟩ : ∃ b, (B != 0) = b := ⟨_, rfl⟩
  obtain ⟨t, ht⟩ : ∃ t, (false) = t := ⟨_, rfl⟩
  obtain ⟨R, hR⟩ : ∃ R, (t || xs.any wideB) = R := ⟨_, rfl⟩
  rw [ha, hb, ht, hR]
  have HR : Hid ((t || xs.any wideB) = R) := hR
  clear hR
  have hn0 : (0 : Int) ≤ (n : Int) := by omega
  have HWA : Hid (∀ w, Calls Tryd.prog 55 #[.int .i64 A] w fun r w' => r = .returned (.bool a) ∧ w' = w) := fun w => by rw [← ha]; exact wide_any A w
  clear ha
  subst ht
  go_enter Tryd.func17, Tryd.ntmps17
  go_wp2_with fail
  refine (HB.out _ ((Below.refl _ _).alloc (Nat.le_refl _) _)).mono ?_
  rintro e w1 ⟨rfl, b1⟩
  have xX : XS w1 w.heap.size (.int .u8 op) (.int .i64 A) (.int .i64 B) (.slice o n cap) := by
    unfold XS
    rw [b1.block w.heap.size (by simp)]
    exact new_block _ _
  obtain ⟨x0, x1, x2, x3⟩ := xX.cell
  have HX1 : Hid (type_of% xX) := xX
  have HB1 : Hid (Below w.heap.size w w1) := ((Below.refl _ _).alloc (Nat.le_refl _) _).trans (b1.mono (by simp))
  clear xX b1 HB
  go_wp2_with fail
  refine (HCA.out _).mono ?_
  rintro e w2 ⟨rfl, b2⟩
  obtain ⟨x0, x1, x2, x3⟩ := (XS.under HX1.out b2).cell
  have HBE : Hid (Below w.heap.size w w2) := HB1.out.trans (b2.mono HB1.out.size)
  have HJ : Hid (LJ w2 o n xs) := HH.out.below HBE.out
  clear b2 HX1 HB1 HCA
  go_wp2_with fail
  refine (HWA.out _).mono ?_
  rintro e w3 ⟨rfl, rfl⟩
  rcases Nat.eq_zero_or_pos n with hn00 | hpos
  · subst hn00
    go_wp2
    go_loop [7, 79] (fun v i => v = .bool false ∧ i = .int .i64 0) (fun _ _ => 0)
    case atStart => exact ⟨rfl, rfl⟩
    case round =>
      obtain ⟨rfl, rfl⟩ := hrel
      have e : R = false := by
        have h1 := HR.out
        have h2 : xs = [] := List.length_eq_zero_iff.1 HJ.out.1
        rw [h2] at h1
        exact h1.symm
      subst e
      clear HR
      cases a <;> cases b
      all_goals
        go_wp2
        go_ret
        exact ⟨rfl, HBE.out⟩
  · have hposi : (0 : Int) < (n : Int) := by omega
    go_wp2
    go_loop [7, 79] (fun v i => ∃ k : Nat, ∃ u : Bool, v = .bool u ∧ i = .int .i64 k ∧ k ≤ n ∧ Hid ((u || (xs.drop k).any wideB) = R)) (fun _ i => n - (intOf i).toNat)
    case atStart => exact ⟨0, _, rfl, rfl, by omega, by unfold Hid; rw [List.drop_zero]; exact HR.out⟩
    case round =>
      obtain ⟨k, u, rfl, rfl, hk, HK⟩ := hrel
      obtain ⟨hl, hc⟩ := HJ.out
      by_cases hlt : k < n
      · rcases hc with h0 | ⟨ad, rfl, _, hc⟩
        · omega
        have hcell := hc k hlt
        have hd : xs.drop k = xs.getD k 0 :: xs.drop (k + 1) := by
          rw [List.drop_eq_getElem_cons (by omega), List.getD_eq_getElem?_getD, List.getElem?_eq_getElem (by omega)]
          rfl
        have HK2 : Hid ((u || (wideB (xs.getD k 0) || (xs.drop (k + 1)).any wideB)) = R) := by
          unfold Hid
          rw [← HK.out, hd]
          rfl
        have HN := wide_any (xs.getD k 0)
        generalize xs.getD k 0 = x at hcell HN HK2
        have hki0 : (0 : Int) ≤ (k : Int) := by omega
        have hki1 : (k : Int) < (n : Int) := by omega
        clear hc hd hl HK HR
        cases u
        · obtain ⟨y, hy⟩ : ∃ y, wideB x = y := ⟨_, rfl⟩
          have HNN : Hid (∀ w, Calls Tryd.prog 55 #[.int .i64 x] w fun r w' => r = .returned (.bool y) ∧ w' = w) := fun w => by rw [← hy]; exact HN w
          have HK3 : Hid ((y || (xs.drop (k + 1)).any wideB) = R) := by
            have := HK2.out
            rw [hy, Bool.false_or] at this
            exact this
          clear HN hy HK2
          go_wp2_with fail
          refine (HNN.out _).mono ?_
          rintro e w5 ⟨rfl, rfl⟩
          go_wp2
          go_round
          case rel => exact ⟨k + 1, y, rfl, by go_num, by omega, HK3⟩
          case measure => simp [intOf]; omega
        · have HK3 : Hid ((true || (xs.drop (k + 1)).any wideB) = R) := by
            have := HK2.out
            rw [Bool.true_or] at this
            unfold Hid
            rw [Bool.true_or]
            exact this
          clear HN HK2
          go_wp2
          go_round
          case rel => exact ⟨k + 1, true, rfl, by go_num, by omega, HK3⟩
          case measure => simp [intOf]; omega
      · have e : u = R := by
          have := HK.out
          rw [List.drop_eq_nil_of_le (by omega), List.any_nil, Bool.or_false] at this
          exact this
        subst e
        clear hc hl HK HR
        cases a <;> cases b <;> cases u
        all_goals
          go_wp2
          go_ret
          exact ⟨rfl, HBE.out⟩
set_option maxHeartbeats 8000000 in
set_option maxRecDepth 1000000 in
theorem rchk_b (op A B : Int) (o : Option Addr) (n cap : Nat) (xs : List Int) (F : ByteArray) (_hcap : n ≤ cap) (_q63 : (F.toList == [63]) = false) (_q107 : (F.toList == [107]) = false) (_q99 : (F.toList == [99]) = false) (_q100 : (F.toList == [100]) = false) (HCA : Hid (∀ w, Calls Tryd.prog 56 #[.string F, .string ⟨#[97, 116]⟩] w fun e w' => e = .returned (.bool true) ∧ Below w.heap.size w w')) (_q97 : (F.toList == [97, 98]) = true) (_q116 : (F.toList == [116]) = false) (hn : n ≤ 16) (w : World) (h : LJ w o n xs) (HB : Hid (∀ w', Below w.heap.size w w' → Calls Tryd.prog 41 #[.int .u8 op] w' fun e w'' => e = .returned (.string F) ∧ Below w'.heap.size w' w'')) :
    Calls Tryd.prog 17 #[.agg #[.int .u8 op, .int .i64 A, .int .i64 B, .slice o n cap]] w fun r w' => r = .returned (.int .i64 (if ((wideB A) || ((wideB B) || ((decide (0 < (n : Int))) || xs.any wideB))) = true then 1 else 0)) ∧ Below w.heap.size w w' := by
  have HH : Hid (LJ w o n xs) := h
  clear h
  obtain ⟨a, ha⟩ : ∃ a, (wideB A) = a := ⟨_, rfl⟩
  obtain ⟨b, hb⟩ : ∃ b, (wideB B) = b := ⟨_, rfl⟩
  obtain ⟨t, ht⟩ : ∃ t, (decide (0 < (n : Int))) = t := ⟨_, rfl⟩
  obtain ⟨R, hR⟩ : ∃ R, (t || xs.any wideB) = R := ⟨_, rfl⟩
  rw [ha, hb, ht, hR]
  have HR : Hid ((t || xs.any wideB) = R) := hR
  clear hR
  have hn0 : (0 : Int) ≤ (n : Int) := by omega
  have HWA : Hid (∀ w, Calls Tryd.prog 55 #[.int .i64 A] w fun r w' => r = .returned (.bool a) ∧ w' = w) := fun w => by rw [← ha]; exact wide_any A w
  clear ha
  have HWB : Hid (∀ w, Calls Tryd.prog 55 #[.int .i64 B] w fun r w' => r = .returned (.bool b) ∧ w' = w) := fun w => by rw [← hb]; exact wide_any B w
  clear hb
  go_enter Tryd.func17, Tryd.ntmps17
  go_wp2_with fail
  refine (HB.out _ ((Below.refl _ _).alloc (Nat.le_refl _) _)).mono ?_
  rintro e w1 ⟨rfl, b1⟩
  have xX : XS w1 w.heap.size (.int .u8 op) (.int .i64 A) (.int .i64 B) (.slice o n cap) := by
    unfold XS
    rw [b1.block w.heap.size (by simp)]
    exact new_block _ _
  obtain ⟨x0, x1, x2, x3⟩ := xX.cell
  have HX1 : Hid (type_of% xX) := xX
  have HB1 : Hid (Below w.heap.size w w1) := ((Below.refl _ _).alloc (Nat.le_refl _) _).trans (b1.mono (by simp))
  clear xX b1 HB
  go_wp2_with fail
  refine (HCA.out _).mono ?_
  rintro e w2 ⟨rfl, b2⟩
  obtain ⟨x0, x1, x2, x3⟩ := (XS.under HX1.out b2).cell
  have HBE : Hid (Below w.heap.size w w2) := HB1.out.trans (b2.mono HB1.out.size)
  have HJ : Hid (LJ w2 o n xs) := HH.out.below HBE.out
  clear b2 HX1 HB1 HCA
  go_wp2_with fail
  refine (HWA.out _).mono ?_
  rintro e w3 ⟨rfl, rfl⟩
  go_wp2_with fail
  refine (HWB.out _).mono ?_
  rintro e w4 ⟨rfl, rfl⟩
  rcases Nat.eq_zero_or_pos n with hn00 | hpos
  · subst hn00
    obtain rfl : false = t := by rw [← ht]; rfl
    go_wp2
    go_loop [7, 79] (fun v i => v = .bool false ∧ i = .int .i64 0) (fun _ _ => 0)
    case atStart => exact ⟨rfl, rfl⟩
    case round =>
      obtain ⟨rfl, rfl⟩ := hrel
      have e : R = false := by
        have h1 := HR.out
        have h2 : xs = [] := List.length_eq_zero_iff.1 HJ.out.1
        rw [h2] at h1
        exact h1.symm
      subst e
      clear HR
      cases a <;> cases b
      all_goals
        go_wp2
        go_ret
        exact ⟨rfl, HBE.out⟩
  · have hposi : (0 : Int) < (n : Int) := by omega
    obtain rfl : true = t := by rw [← ht]; exact (decide_eq_true (by omega)).symm
    clear ht
    go_wp2
    go_loop [7, 79] (fun v i => ∃ k : Nat, ∃ u : Bool, v = .bool u ∧ i = .int .i64 k ∧ k ≤ n ∧ Hid ((u || (xs.drop k).any wideB) = R)) (fun _ i => n - (intOf i).toNat)
    case atStart => exact ⟨0, _, rfl, rfl, by omega, by unfold Hid; rw [List.drop_zero]; exact HR.out⟩
    case round =>
      obtain ⟨k, u, rfl, rfl, hk, HK⟩ := hrel
      obtain ⟨hl, hc⟩ := HJ.out
      by_cases hlt : k < n
      · rcases hc with h0 | ⟨ad, rfl, _, hc⟩
        · omega
        have hcell := hc k hlt
        have hd : xs.drop k = xs.getD k 0 :: xs.drop (k + 1) := by
          rw [List.drop_eq_getElem_cons (by omega), List.getD_eq_getElem?_getD, List.getElem?_eq_getElem (by omega)]
          rfl
        have HK2 : Hid ((u || (wideB (xs.getD k 0) || (xs.drop (k + 1)).any wideB)) = R) := by
          unfold Hid
          rw [← HK.out, hd]
          rfl
        have HN := wide_any (xs.getD k 0)
        generalize xs.getD k 0 = x at hcell HN HK2
        have hki0 : (0 : Int) ≤ (k : Int) := by omega
        have hki1 : (k : Int) < (n : Int) := by omega
        clear hc hd hl HK HR
        cases u
        · obtain ⟨y, hy⟩ : ∃ y, wideB x = y := ⟨_, rfl⟩
          have HNN : Hid (∀ w, Calls Tryd.prog 55 #[.int .i64 x] w fun r w' => r = .returned (.bool y) ∧ w' = w) := fun w => by rw [← hy]; exact HN w
          have HK3 : Hid ((y || (xs.drop (k + 1)).any wideB) = R) := by
            have := HK2.out
            rw [hy, Bool.false_or] at this
            exact this
          clear HN hy HK2
          go_wp2_with fail
          refine (HNN.out _).mono ?_
          rintro e w5 ⟨rfl, rfl⟩
          go_wp2
          go_round
          case rel => exact ⟨k + 1, y, rfl, by go_num, by omega, HK3⟩
          case measure => simp [intOf]; omega
        · have HK3 : Hid ((true || (xs.drop (k + 1)).any wideB) = R) := by
            have := HK2.out
            rw [Bool.true_or] at this
            unfold Hid
            rw [Bool.true_or]
            exact this
          clear HN HK2
          go_wp2
          go_round
          case rel => exact ⟨k + 1, true, rfl, by go_num, by omega, HK3⟩
          case measure => simp [intOf]; omega
      · have e : u = R := by
          have := HK.out
          rw [List.drop_eq_nil_of_le (by omega), List.any_nil, Bool.or_false] at this
          exact this
        subst e
        clear hc hl HK HR
        cases a <;> cases b <;> cases u
        all_goals
          go_wp2
          go_ret
          exact ⟨rfl, HBE.out⟩
end Go.Proofs.YtgdleahhkaolbaaDoor
