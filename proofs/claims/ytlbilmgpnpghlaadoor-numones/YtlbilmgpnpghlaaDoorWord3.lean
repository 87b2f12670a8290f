/-
  What the document's own count and Fit do.
-/
import Derived.Test.YtlbilmgpnpghlaaDoorWord2
namespace Go.Proofs.YtlbilmgpnpghlaaDoor
open Go.RowKit

/-- How many bits ahead of the first one that is set. -/
def tz : List Bool → Nat
  | [] => 0
  | true :: _ => 0
  | false :: r => tz r + 1
theorem tz_le : ∀ l : List Bool, tz l ≤ l.length
  | [] => by simp [tz]
  | true :: _ => by simp [tz]
  | false :: r => by have := tz_le r; simp [tz]; omega
/-- How many bits are set. -/
def ones : List Bool → Nat
  | [] => 0
  | b :: r => (if b then 1 else 0) + ones r
theorem ones_append : ∀ f g : List Bool, ones (f ++ g) = ones f + ones g
  | [], g => by simp [ones]
  | b :: f, g => by rw [List.cons_append, ones, ones, ones_append f g]; omega
theorem ones_le : ∀ l : List Bool, ones l ≤ l.length
  | [] => by simp [ones]
  | b :: r => by have := ones_le r; cases b <;> simp [ones] <;> omega

set_option maxHeartbeats 400000 in
set_option maxRecDepth 1000000 in
theorem countUp_any (v : Value) (bs : List Bool) (w : World) (hv : IsW w v bs) (h64 : bs.length ≤ 64) :
    Calls Tryd.prog 20 #[v, .int .i64 0, .int .i64 1, .bool true] w fun e w' => e = .returned (.int .i64 (tz bs)) ∧ w' = w := by
  obtain ⟨g, cap, rfl, hcap, hmx, hg, hc⟩ := hv
  unfold maxLen at hmx
  obtain ⟨R, hR⟩ : ∃ R, tz bs = R := ⟨_, rfl⟩
  rw [hR]
  have HR : Hid (tz bs = R) := hR
  clear hR
  go_enter Tryd.func20, Tryd.ntmps20
  go_wp2
  go_loop [9, 10] (fun t i => ∃ k : Nat, i = .int .i64 k ∧ t = .int .i64 k ∧ k ≤ bs.length ∧ Hid (k + tz (bs.drop k) = R)) (fun _ i => bs.length - (intOf i).toNat)
  case atStart => exact ⟨0, rfl, rfl, by omega, by unfold Hid; rw [List.drop_zero, Nat.zero_add]; exact HR⟩
  case round =>
    obtain ⟨k, rfl, rfl, hk, HK⟩ := hrel
    clear HR
    by_cases hlt : k < bs.length
    · have hcell := hc k hlt
      have hd := List.drop_eq_getElem_cons hlt
      have hgd : bs.getD k false = bs[k] := by rw [List.getD_eq_getElem?_getD, List.getElem?_eq_getElem hlt, Option.getD_some]
      cases hb : bs.getD k false with
      | true =>
        have HE : Hid (k = R) := by unfold Hid; rw [← HK.out, hd, ← hgd, hb]; rfl
        rw [hb] at hcell
        clear HK hd hgd hb hc
        go_wp2
        go_ret
        exact ⟨ret_i (by rw [HE.out]), rfl⟩
      | false =>
        have HE : Hid (k + 1 + tz (bs.drop (k + 1)) = R) := by unfold Hid; rw [← HK.out, hd, ← hgd, hb, tz]; omega
        rw [hb] at hcell
        clear HK hd hgd hb hc
        go_wp2
        go_round
        case rel => exact ⟨k + 1, by go_num, by go_num, by omega, HE⟩
        case measure => simp [intOf]; omega
    · have HE : Hid (k = R) := by unfold Hid; rw [← HK.out, List.drop_eq_nil_of_le (by omega)]; rfl
      clear HK hc
      go_wp2
      go_ret
      exact ⟨ret_i (by rw [HE.out]), rfl⟩

set_option maxHeartbeats 400000 in
set_option maxRecDepth 1000000 in
theorem countDown_any (v : Value) (bs : List Bool) (w : World) (hv : IsW w v bs) (h64 : bs.length ≤ 64) :
    Calls Tryd.prog 20 #[v, .int .i64 ((bs.length : Int) - 1), .int .i64 (-1), .bool true] w fun e w' => e = .returned (.int .i64 (tz bs.reverse)) ∧ w' = w := by
  obtain ⟨g, cap, rfl, hcap, hmx, hg, hc⟩ := hv
  unfold maxLen at hmx
  obtain ⟨R, hR⟩ : ∃ R, tz bs.reverse = R := ⟨_, rfl⟩
  rw [hR]
  have HR : Hid (tz bs.reverse = R) := hR
  clear hR
  go_enter Tryd.func20, Tryd.ntmps20
  go_wp2
  go_loop [9, 10] (fun t i => ∃ j k : Nat, i = .int .i64 ((j : Int) - 1) ∧ t = .int .i64 k ∧ j + k = bs.length ∧ Hid (k + tz (bs.reverse.drop k) = R)) (fun _ i => (intOf i + 1).toNat)
  case atStart => exact ⟨bs.length, 0, rfl, rfl, by omega, by unfold Hid; rw [List.drop_zero, Nat.zero_add]; exact HR⟩
  case round =>
    obtain ⟨j, k, rfl, rfl, hjk, HK⟩ := hrel
    clear HR
    have hjk1 : j ≤ bs.length := by omega
    have hjk2 : k ≤ 64 := by omega
    cases j with
    | succ j =>
      have e : (((j + 1 : Nat) : Int) - 1) = (j : Int) := by omega
      rw [e]
      have hlt : j < bs.length := by omega
      have hcell := hc j hlt
      have hkr : k < bs.reverse.length := by rw [List.length_reverse]; omega
      have hd := List.drop_eq_getElem_cons hkr
      have hgd : bs.getD j false = bs.reverse[k] := by
        rw [List.getD_eq_getElem?_getD, List.getElem?_eq_getElem hlt, Option.getD_some, List.getElem_reverse]
        congr 1; omega
      have HJ : Hid _ := hjk
      clear hjk
      cases hb : bs.getD j false with
      | true =>
        have HE : Hid (k = R) := by unfold Hid; rw [← HK.out, hd, ← hgd, hb]; rfl
        rw [hb] at hcell
        clear HK hd hgd hb hc
        go_wp2
        go_ret
        exact ⟨ret_i (by rw [HE.out]), rfl⟩
      | false =>
        have HE : Hid (k + 1 + tz (bs.reverse.drop (k + 1)) = R) := by unfold Hid; rw [← HK.out, hd, ← hgd, hb, tz]; omega
        rw [hb] at hcell
        clear HK hd hgd hb hc e
        go_wp2
        go_round
        case rel => exact ⟨j, k + 1, by go_num, by go_num, by have := HJ.out; omega, HE⟩
        case measure => simp [intOf]; omega
    | zero =>
      have HE : Hid (k = R) := by unfold Hid; rw [← HK.out, List.drop_eq_nil_of_le (by rw [List.length_reverse]; omega)]; rfl
      clear HK hc hjk
      go_wp2
      go_ret
      exact ⟨ret_i (by rw [HE.out]), rfl⟩

theorem word_isW_len {w : World} {v : Value} {a : Int} {W : Nat} (h : IsW w v (wordB a W)) : ∃ g cap, v = .slice (some ⟨g, 0, none⟩) W cap := by
  obtain ⟨g, cap, h1, _⟩ := h
  rw [wordB_length] at h1
  exact ⟨g, cap, h1⟩

theorem wordOf_32 (a : Int) (w : World) : Calls Tryd.prog 17 #[.int .i64 a, .int .i64 32] w fun e w' => ∃ v, e = .returned v ∧ IsW w' v (wordB a 32) ∧ Below w.heap.size w w' := wordOf_any a 32 (by omega) (by omega) w
theorem wordOf_64 (a : Int) (w : World) : Calls Tryd.prog 17 #[.int .i64 a, .int .i64 64] w fun e w' => ∃ v, e = .returned v ∧ IsW w' v (wordB a 64) ∧ Below w.heap.size w w' := wordOf_any a 64 (by omega) (by omega) w

/-- What the lowest W bits of a number stand for, with a sign. -/
def cutS (a : Int) (W : Nat) : Int := wsgn (wordB a W)

set_option maxHeartbeats 400000 in
set_option maxRecDepth 1000000 in
theorem refFit_any (k a : Int) (w : World) :
    Calls Tryd.prog 8 #[.int .u8 k, .int .i64 a] w fun e w' => e = .returned (.int .i64 (if k = 127 then cutS a 32 else a)) ∧ Below w.heap.size w w' := by
  by_cases hk : k = 127
  · subst hk
    have HV : Hid (∀ v w, IsW w v (wordB a 32) → Calls Tryd.prog 21 #[v] w fun e w' => e = .returned (.int .i64 (cutS a 32)) ∧ w' = w) := fun v w h => value_any v _ w h (by rw [wordB_length]; omega) (by rw [wordB_length]; omega)
    go_enter Tryd.func8, Tryd.ntmps8
    go_wp2_with fail
    refine (wordOf_32 a _).mono ?_
    rintro e w1 ⟨v, rfl, hv, b1⟩
    go_wp2_with fail
    refine (HV.out v _ hv).mono ?_
    rintro e w2 ⟨rfl, rfl⟩
    go_wp2
    go_ret
    exact ⟨rfl, b1⟩
  · have hkb : (k == 127) = false := by rw [beq_eq_false_iff_ne]; exact hk
    rw [if_neg hk]
    go_enter Tryd.func8, Tryd.ntmps8
    go_wp2
    go_ret
    exact ⟨rfl, Below.refl _ _⟩

end Go.Proofs.YtlbilmgpnpghlaaDoor
