/-
  What the document's own LebReadU does.
-/
import Derived.Test.YtnkeeaelomalkaaDoorSpanD
import Derived.WalkSmall
namespace Go.Proofs.YtnkeeaelomalkaaDoor
open Go.RowKit

/-- What bytes stand for, seven bits each, less c times what is one too many. -/
def sv (c : Int) : List Int → Int
  | [] => -c
  | b :: r => b % 128 + 128 * sv c r
theorem sv_zero : ∀ l : List Int, sv 0 l = val l
  | [] => rfl
  | b :: r => by rw [sv, val, sv_zero r]
theorem sv_val (c : Int) : ∀ l : List Int, sv c l = val l - c * 128 ^ l.length
  | [] => by simp [sv, val]
  | b :: r => by
    rw [sv, val, sv_val c r, List.length_cons, Int.pow_succ, Int.mul_sub, Int.mul_comm (128 ^ r.length) 128, ← Int.mul_assoc c 128, Int.mul_comm c 128, Int.mul_assoc 128 c]
    omega
theorem sv_le (l : List Int) (j : Nat) : val (l.drop j) ≤ val l := by
  induction l generalizing j with
  | nil => simp
  | cons b r ih =>
    cases j with
    | zero => simp
    | succ j =>
      have := ih j
      have h0 := (val_bound r).1
      rw [List.drop_succ_cons, val]
      omega
theorem sv_in (c : Int) (l : List Int) (j : Nat) (h1 : -9223372036854775808 ≤ sv c l) (h2 : sv c l ≤ 9223372036854775807) : -9223372036854775808 ≤ sv c (l.drop j) ∧ sv c (l.drop j) ≤ 9223372036854775807 := by
  induction l generalizing j with
  | nil => simp at *; omega
  | cons b r ih =>
    cases j with
    | zero => simp; omega
    | succ j =>
      rw [List.drop_succ_cons]
      rw [sv] at h1 h2
      exact ih j (by omega) (by omega)
theorem take_drop (s : ByteArray) (K j : Nat) (hj : j ≤ K) (hK : K < s.size) : ((nums s).take (K + 1)).drop j = (s[j].toNat : Int) :: ((nums s).take (K + 1)).drop (j + 1) := by
  have hl : j < ((nums s).take (K + 1)).length := by rw [List.length_take, nums_length]; omega
  rw [List.drop_eq_getElem_cons hl, List.getElem_take]
  congr 1
  simp only [nums, List.getElem_map]
  rfl

set_option maxHeartbeats 400000 in
theorem refReadU_err32 (s : ByteArray) (e : Int) (he : (e != 0) = true) (H : Hid (∀ w, Calls Tryd.prog 22 #[.string s, .int .i64 32] w fun e' w' => e' = .returned (.tuple #[.int .i64 0, .int .i64 0, .int .i64 e]) ∧ w' = w)) (w : World) :
    Calls Tryd.prog 14 #[.string s, .int .i64 32] w fun e' w' => e' = .returned (.tuple #[.int .u64 0, .int .i64 0, .int .i64 e]) ∧ Below w.heap.size w w' := by
  go_enter Tryd.func14, Tryd.ntmps14
  go_wp2_with (go_at_call 22; refine (H.out _).mono ?_; rintro e' w' ⟨rfl, rfl⟩)
  go_ret3
  exact ⟨rfl, Below.refl _ _⟩

set_option maxHeartbeats 1000000 in
set_option maxRecDepth 100000 in
theorem refReadU_good32 (s : ByteArray) (K : Nat) (hK : K < 5) (hKs : K < s.size) (N : Int) (hN1 : N ≤ 18446744073709551615) (HN : Hid (val ((nums s).take (K + 1)) = N)) (hfit : K = 4 → (s[K].toNat : Int) < 16)
    (H : Hid (∀ w, Calls Tryd.prog 22 #[.string s, .int .i64 32] w fun e' w' => e' = .returned (.tuple #[.int .i64 ((K : Int) + 1), .int .i64 5, .int .i64 0]) ∧ w' = w)) (w : World) :
    Calls Tryd.prog 14 #[.string s, .int .i64 32] w fun e' w' => e' = .returned (.tuple #[.int .u64 N, .int .i64 ((K : Int) + 1), .int .i64 0]) ∧ Below w.heap.size w w' := by
  by_cases hk : K = 4
  · have hb := hfit hk
    clear hfit
    subst hk
    have hin : (4 : Int) < (s.size : Int) := by omega
    go_enter Tryd.func14, Tryd.ntmps14
    go_wp2_with (go_at_call 22; refine (H.out _).mono ?_; rintro e' w' ⟨rfl, rfl⟩)
    go_quiet (fail)
    go_wp2
    go_loop [10, 11] (fun t i => ∃ j : Nat, ∃ v : Int, i = .int .i64 ((j : Int) - 1) ∧ t = .int .u64 v ∧ j ≤ 5 ∧ 0 ≤ v ∧ Hid (val (((nums s).take (5)).drop j) = v)) (fun _ i => (intOf i + 1).toNat)
    case atStart => exact ⟨5, 0, by go_num, rfl, Nat.le_refl _, by omega, by unfold Hid; rw [List.drop_eq_nil_of_le (by rw [List.length_take]; omega)]; rfl⟩
    case round =>
      obtain ⟨j, v, rfl, rfl, hj, hv0, HV⟩ := hrel
      cases j with
      | zero =>
        have HE : Hid (v = N) := by unfold Hid; rw [← HV.out, List.drop_zero]; exact HN.out
        clear HV
        go_wp2
        go_ret3
        exact ⟨ret_3 HE.out (by omega) rfl, below_drewN (Below.refl _ _) nq⟩
      | succ j =>
        have e : (((j + 1 : Nat) : Int) - 1) = (j : Int) := by omega
        rw [e]
        have hjs : j < s.size := by omega
        have hd := take_drop s 4 j (by omega) hKs
        have hle := sv_le ((nums s).take (5)) j
        rw [HN.out, hd, val, HV.out] at hle
        have hbd : v * 128 + (s[j].toNat : Int) % 128 ≤ 18446744073709551615 := by omega
        have HNew : Hid (val (((nums s).take (5)).drop j) = v * 128 + (s[j].toNat : Int) % 128) := by unfold Hid; rw [hd, val, HV.out]; omega
        have hb8 : s[j].toNat < 256 := s[j].toNat_lt
        clear hd hle HV e
        go_wp2
        go_round
        case rel => exact ⟨j, _, rfl, rfl, by omega, by omega, HNew⟩
        case measure => simp [intOf]

  · have hkk : (((K : Int) + 1) == 5) = false := by rw [beq_eq_false_iff_ne]; omega
    clear hfit
    go_enter Tryd.func14, Tryd.ntmps14
    go_wp2_with (go_at_call 22; refine (H.out _).mono ?_; rintro e' w' ⟨rfl, rfl⟩)
    go_quiet (fail)
    go_wp2
    go_loop [10, 11] (fun t i => ∃ j : Nat, ∃ v : Int, i = .int .i64 ((j : Int) - 1) ∧ t = .int .u64 v ∧ j ≤ K + 1 ∧ 0 ≤ v ∧ Hid (val (((nums s).take (K + 1)).drop j) = v)) (fun _ i => (intOf i + 1).toNat)
    case atStart => exact ⟨K + 1, 0, by go_num, rfl, Nat.le_refl _, by omega, by unfold Hid; rw [List.drop_eq_nil_of_le (by rw [List.length_take]; omega)]; rfl⟩
    case round =>
      obtain ⟨j, v, rfl, rfl, hj, hv0, HV⟩ := hrel
      cases j with
      | zero =>
        have HE : Hid (v = N) := by unfold Hid; rw [← HV.out, List.drop_zero]; exact HN.out
        clear HV
        go_wp2
        go_ret3
        exact ⟨ret_3 HE.out (by omega) rfl, below_drewN (Below.refl _ _) nq⟩
      | succ j =>
        have e : (((j + 1 : Nat) : Int) - 1) = (j : Int) := by omega
        rw [e]
        have hjs : j < s.size := by omega
        have hd := take_drop s K j (by omega) hKs
        have hle := sv_le ((nums s).take (K + 1)) j
        rw [HN.out, hd, val, HV.out] at hle
        have hbd : v * 128 + (s[j].toNat : Int) % 128 ≤ 18446744073709551615 := by omega
        have HNew : Hid (val (((nums s).take (K + 1)).drop j) = v * 128 + (s[j].toNat : Int) % 128) := by unfold Hid; rw [hd, val, HV.out]; omega
        have hb8 : s[j].toNat < 256 := s[j].toNat_lt
        clear hd hle HV e
        go_wp2
        go_round
        case rel => exact ⟨j, _, rfl, rfl, by omega, by omega, HNew⟩
        case measure => simp [intOf]

set_option maxHeartbeats 400000 in
set_option maxRecDepth 100000 in
theorem refReadU_form32 (s : ByteArray) (hKs : 4 < s.size) (hfit : (16 : Int) ≤ (s[4].toNat : Int))
    (H : Hid (∀ w, Calls Tryd.prog 22 #[.string s, .int .i64 32] w fun e' w' => e' = .returned (.tuple #[.int .i64 5, .int .i64 5, .int .i64 0]) ∧ w' = w)) (w : World) :
    Calls Tryd.prog 14 #[.string s, .int .i64 32] w fun e' w' => e' = .returned (.tuple #[.int .u64 0, .int .i64 0, .int .i64 4]) ∧ Below w.heap.size w w' := by
  have hin : (4 : Int) < (s.size : Int) := by omega
  have hb8 : s[4].toNat < 256 := s[4].toNat_lt
  go_enter Tryd.func14, Tryd.ntmps14
  go_wp2_with (go_at_call 22; refine (H.out _).mono ?_; rintro e' w' ⟨rfl, rfl⟩)
  go_quiet (fail)
  go_wp2
  go_ret3
  exact ⟨rfl, below_drewN (Below.refl _ _) nq⟩

end Go.Proofs.YtnkeeaelomalkaaDoor
