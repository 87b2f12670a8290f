/-
  What the document's own LebReadS does.
-/
import Derived.Test.YtnkeeaelomalkaaRefReadU
namespace Go.Proofs.Ytnkeeaelomalkaa
open Go.RowKit

set_option maxHeartbeats 400000 in
theorem refReadS_err32 (s : ByteArray) (e : Int) (he : (e != 0) = true) (H : Hid (∀ w, Calls Try.prog 24 #[.string s, .int .i64 32] w fun e' w' => e' = .returned (.tuple #[.int .i64 0, .int .i64 0, .int .i64 e]) ∧ w' = w)) (w : World) :
    Calls Try.prog 16 #[.string s, .int .i64 32] w fun e' w' => e' = .returned (.tuple #[.int .i64 0, .int .i64 0, .int .i64 e]) ∧ Below w.heap.size w w' := by
  go_enter Try.func16, Try.ntmps16
  go_wp2_with (go_at_call 24; refine (H.out _).mono ?_; rintro e' w' ⟨rfl, rfl⟩)
  go_ret3
  exact ⟨rfl, Below.refl _ _⟩

set_option maxHeartbeats 1000000 in
set_option maxRecDepth 100000 in
theorem refReadS_good32c0 (s : ByteArray) (K : Nat) (hK : K < 5) (hKs : K < s.size) (N : Int) (hN0 : -9223372036854775808 ≤ N) (hN1 : N ≤ 9223372036854775807) (HN : Hid (sv 0 ((nums s).take (K + 1)) = N)) (hc : (s[K].toNat : Int) < 64) (hfit : K = 4 → (s[K].toNat : Int) < 8)
    (H : Hid (∀ w, Calls Try.prog 24 #[.string s, .int .i64 32] w fun e' w' => e' = .returned (.tuple #[.int .i64 ((K : Int) + 1), .int .i64 5, .int .i64 0]) ∧ w' = w)) (w : World) :
    Calls Try.prog 16 #[.string s, .int .i64 32] w fun e' w' => e' = .returned (.tuple #[.int .i64 N, .int .i64 ((K : Int) + 1), .int .i64 0]) ∧ Below w.heap.size w w' := by
  have hbase : sv 0 (((nums s).take (K + 1)).drop K) = (s[K].toNat : Int) - 128 * 0 := by
    rw [take_drop s K K (Nat.le_refl _) hKs, List.drop_eq_nil_of_le (by rw [List.length_take]; omega), sv, sv]; omega
  by_cases hk : K = 4
  · have hb := hfit hk
    clear hfit
    subst hk
    have hin : (4 : Int) < (s.size : Int) := by omega
    go_enter Try.func16, Try.ntmps16
    go_wp2_with (go_at_call 24; refine (H.out _).mono ?_; rintro e' w' ⟨rfl, rfl⟩)
    go_loop [10, 12] (fun t i => ∃ j : Nat, ∃ v : Int, i = .int .i64 ((j : Int) - 1) ∧ t = .int .i64 v ∧ j ≤ 4 ∧ -9223372036854775808 ≤ v ∧ v ≤ 9223372036854775807 ∧ Hid (sv 0 (((nums s).take (5)).drop j) = v)) (fun _ i => (intOf i + 1).toNat)
    case atStart => exact ⟨4, _, by go_num, rfl, Nat.le_refl _, by omega, by omega, by unfold Hid; rw [hbase]; omega⟩
    case round =>
      obtain ⟨j, v, rfl, rfl, hj, hv0, hv1, HV⟩ := hrel
      cases j with
      | zero =>
        have HE : Hid (v = N) := by unfold Hid; rw [← HV.out, List.drop_zero]; exact HN.out
        clear HV
        go_wp2
        go_ret3
        exact ⟨ret_3 HE.out (by omega) rfl, Below.refl _ _⟩
      | succ j =>
        have e : (((j + 1 : Nat) : Int) - 1) = (j : Int) := by omega
        rw [e]
        have hjs : j < s.size := by omega
        have hd := take_drop s 4 j (by omega) hKs
        have hin := sv_in 0 ((nums s).take (5)) j (by rw [HN.out]; exact hN0) (by rw [HN.out]; exact hN1)
        rw [hd, sv, HV.out] at hin
        have hbd0 : -9223372036854775808 ≤ v * 128 + (s[j].toNat : Int) % 128 := by omega
        have hbd1 : v * 128 + (s[j].toNat : Int) % 128 ≤ 9223372036854775807 := by omega
        have HNew : Hid (sv 0 (((nums s).take (5)).drop j) = v * 128 + (s[j].toNat : Int) % 128) := by unfold Hid; rw [hd, sv, HV.out]; omega
        have hb8 : s[j].toNat < 256 := s[j].toNat_lt
        clear hd hin HV e
        go_wp2
        go_round
        case rel => exact ⟨j, _, rfl, rfl, by omega, by omega, by omega, HNew⟩
        case measure => simp [intOf]

  · have hkk : (((K : Int) + 1) == 5) = false := by rw [beq_eq_false_iff_ne]; omega
    clear hfit
    go_enter Try.func16, Try.ntmps16
    go_wp2_with (go_at_call 24; refine (H.out _).mono ?_; rintro e' w' ⟨rfl, rfl⟩)
    go_loop [10, 12] (fun t i => ∃ j : Nat, ∃ v : Int, i = .int .i64 ((j : Int) - 1) ∧ t = .int .i64 v ∧ j ≤ K ∧ -9223372036854775808 ≤ v ∧ v ≤ 9223372036854775807 ∧ Hid (sv 0 (((nums s).take (K + 1)).drop j) = v)) (fun _ i => (intOf i + 1).toNat)
    case atStart => exact ⟨K, _, by go_num, rfl, Nat.le_refl _, by omega, by omega, by unfold Hid; rw [hbase]; omega⟩
    case round =>
      obtain ⟨j, v, rfl, rfl, hj, hv0, hv1, HV⟩ := hrel
      cases j with
      | zero =>
        have HE : Hid (v = N) := by unfold Hid; rw [← HV.out, List.drop_zero]; exact HN.out
        clear HV
        go_wp2
        go_ret3
        exact ⟨ret_3 HE.out (by omega) rfl, Below.refl _ _⟩
      | succ j =>
        have e : (((j + 1 : Nat) : Int) - 1) = (j : Int) := by omega
        rw [e]
        have hjs : j < s.size := by omega
        have hd := take_drop s K j (by omega) hKs
        have hin := sv_in 0 ((nums s).take (K + 1)) j (by rw [HN.out]; exact hN0) (by rw [HN.out]; exact hN1)
        rw [hd, sv, HV.out] at hin
        have hbd0 : -9223372036854775808 ≤ v * 128 + (s[j].toNat : Int) % 128 := by omega
        have hbd1 : v * 128 + (s[j].toNat : Int) % 128 ≤ 9223372036854775807 := by omega
        have HNew : Hid (sv 0 (((nums s).take (K + 1)).drop j) = v * 128 + (s[j].toNat : Int) % 128) := by unfold Hid; rw [hd, sv, HV.out]; omega
        have hb8 : s[j].toNat < 256 := s[j].toNat_lt
        clear hd hin HV e
        go_wp2
        go_round
        case rel => exact ⟨j, _, rfl, rfl, by omega, by omega, by omega, HNew⟩
        case measure => simp [intOf]

set_option maxHeartbeats 400000 in
set_option maxRecDepth 100000 in
theorem refReadS_form32c0 (s : ByteArray) (hKs : 4 < s.size) (hc : (s[4].toNat : Int) < 64) (hn : (8 : Int) ≤ (s[4].toNat : Int))
    (H : Hid (∀ w, Calls Try.prog 24 #[.string s, .int .i64 32] w fun e' w' => e' = .returned (.tuple #[.int .i64 5, .int .i64 5, .int .i64 0]) ∧ w' = w)) (w : World) :
    Calls Try.prog 16 #[.string s, .int .i64 32] w fun e' w' => e' = .returned (.tuple #[.int .i64 0, .int .i64 0, .int .i64 4]) ∧ Below w.heap.size w w' := by
  have hin : (4 : Int) < (s.size : Int) := by omega
  have hb8 : s[4].toNat < 256 := s[4].toNat_lt
  go_enter Try.func16, Try.ntmps16
  go_wp2_with (go_at_call 24; refine (H.out _).mono ?_; rintro e' w' ⟨rfl, rfl⟩)
  go_ret3
  exact ⟨rfl, Below.refl _ _⟩

set_option maxHeartbeats 1000000 in
set_option maxRecDepth 100000 in
theorem refReadS_good32c1 (s : ByteArray) (K : Nat) (hK : K < 5) (hKs : K < s.size) (N : Int) (hN0 : -9223372036854775808 ≤ N) (hN1 : N ≤ 9223372036854775807) (HN : Hid (sv 1 ((nums s).take (K + 1)) = N)) (hc : (64 : Int) ≤ (s[K].toNat : Int)) (hc1 : (s[K].toNat : Int) < 128) (hfit : K = 4 → (120 : Int) ≤ (s[K].toNat : Int))
    (H : Hid (∀ w, Calls Try.prog 24 #[.string s, .int .i64 32] w fun e' w' => e' = .returned (.tuple #[.int .i64 ((K : Int) + 1), .int .i64 5, .int .i64 0]) ∧ w' = w)) (w : World) :
    Calls Try.prog 16 #[.string s, .int .i64 32] w fun e' w' => e' = .returned (.tuple #[.int .i64 N, .int .i64 ((K : Int) + 1), .int .i64 0]) ∧ Below w.heap.size w w' := by
  have hbase : sv 1 (((nums s).take (K + 1)).drop K) = (s[K].toNat : Int) - 128 * 1 := by
    rw [take_drop s K K (Nat.le_refl _) hKs, List.drop_eq_nil_of_le (by rw [List.length_take]; omega), sv, sv]; omega
  by_cases hk : K = 4
  · have hb := hfit hk
    clear hfit
    subst hk
    have hin : (4 : Int) < (s.size : Int) := by omega
    go_enter Try.func16, Try.ntmps16
    go_wp2_with (go_at_call 24; refine (H.out _).mono ?_; rintro e' w' ⟨rfl, rfl⟩)
    go_loop [10, 12] (fun t i => ∃ j : Nat, ∃ v : Int, i = .int .i64 ((j : Int) - 1) ∧ t = .int .i64 v ∧ j ≤ 4 ∧ -9223372036854775808 ≤ v ∧ v ≤ 9223372036854775807 ∧ Hid (sv 1 (((nums s).take (5)).drop j) = v)) (fun _ i => (intOf i + 1).toNat)
    case atStart => exact ⟨4, _, by go_num, rfl, Nat.le_refl _, by omega, by omega, by unfold Hid; rw [hbase]; omega⟩
    case round =>
      obtain ⟨j, v, rfl, rfl, hj, hv0, hv1, HV⟩ := hrel
      cases j with
      | zero =>
        have HE : Hid (v = N) := by unfold Hid; rw [← HV.out, List.drop_zero]; exact HN.out
        clear HV
        go_wp2
        go_ret3
        exact ⟨ret_3 HE.out (by omega) rfl, Below.refl _ _⟩
      | succ j =>
        have e : (((j + 1 : Nat) : Int) - 1) = (j : Int) := by omega
        rw [e]
        have hjs : j < s.size := by omega
        have hd := take_drop s 4 j (by omega) hKs
        have hin := sv_in 1 ((nums s).take (5)) j (by rw [HN.out]; exact hN0) (by rw [HN.out]; exact hN1)
        rw [hd, sv, HV.out] at hin
        have hbd0 : -9223372036854775808 ≤ v * 128 + (s[j].toNat : Int) % 128 := by omega
        have hbd1 : v * 128 + (s[j].toNat : Int) % 128 ≤ 9223372036854775807 := by omega
        have HNew : Hid (sv 1 (((nums s).take (5)).drop j) = v * 128 + (s[j].toNat : Int) % 128) := by unfold Hid; rw [hd, sv, HV.out]; omega
        have hb8 : s[j].toNat < 256 := s[j].toNat_lt
        clear hd hin HV e
        go_wp2
        go_round
        case rel => exact ⟨j, _, rfl, rfl, by omega, by omega, by omega, HNew⟩
        case measure => simp [intOf]

  · have hkk : (((K : Int) + 1) == 5) = false := by rw [beq_eq_false_iff_ne]; omega
    clear hfit
    go_enter Try.func16, Try.ntmps16
    go_wp2_with (go_at_call 24; refine (H.out _).mono ?_; rintro e' w' ⟨rfl, rfl⟩)
    go_loop [10, 12] (fun t i => ∃ j : Nat, ∃ v : Int, i = .int .i64 ((j : Int) - 1) ∧ t = .int .i64 v ∧ j ≤ K ∧ -9223372036854775808 ≤ v ∧ v ≤ 9223372036854775807 ∧ Hid (sv 1 (((nums s).take (K + 1)).drop j) = v)) (fun _ i => (intOf i + 1).toNat)
    case atStart => exact ⟨K, _, by go_num, rfl, Nat.le_refl _, by omega, by omega, by unfold Hid; rw [hbase]; omega⟩
    case round =>
      obtain ⟨j, v, rfl, rfl, hj, hv0, hv1, HV⟩ := hrel
      cases j with
      | zero =>
        have HE : Hid (v = N) := by unfold Hid; rw [← HV.out, List.drop_zero]; exact HN.out
        clear HV
        go_wp2
        go_ret3
        exact ⟨ret_3 HE.out (by omega) rfl, Below.refl _ _⟩
      | succ j =>
        have e : (((j + 1 : Nat) : Int) - 1) = (j : Int) := by omega
        rw [e]
        have hjs : j < s.size := by omega
        have hd := take_drop s K j (by omega) hKs
        have hin := sv_in 1 ((nums s).take (K + 1)) j (by rw [HN.out]; exact hN0) (by rw [HN.out]; exact hN1)
        rw [hd, sv, HV.out] at hin
        have hbd0 : -9223372036854775808 ≤ v * 128 + (s[j].toNat : Int) % 128 := by omega
        have hbd1 : v * 128 + (s[j].toNat : Int) % 128 ≤ 9223372036854775807 := by omega
        have HNew : Hid (sv 1 (((nums s).take (K + 1)).drop j) = v * 128 + (s[j].toNat : Int) % 128) := by unfold Hid; rw [hd, sv, HV.out]; omega
        have hb8 : s[j].toNat < 256 := s[j].toNat_lt
        clear hd hin HV e
        go_wp2
        go_round
        case rel => exact ⟨j, _, rfl, rfl, by omega, by omega, by omega, HNew⟩
        case measure => simp [intOf]

set_option maxHeartbeats 400000 in
set_option maxRecDepth 100000 in
theorem refReadS_form32c1 (s : ByteArray) (hKs : 4 < s.size) (hc : (64 : Int) ≤ (s[4].toNat : Int)) (hc1 : (s[4].toNat : Int) < 128) (hn : (s[4].toNat : Int) < 120)
    (H : Hid (∀ w, Calls Try.prog 24 #[.string s, .int .i64 32] w fun e' w' => e' = .returned (.tuple #[.int .i64 5, .int .i64 5, .int .i64 0]) ∧ w' = w)) (w : World) :
    Calls Try.prog 16 #[.string s, .int .i64 32] w fun e' w' => e' = .returned (.tuple #[.int .i64 0, .int .i64 0, .int .i64 4]) ∧ Below w.heap.size w w' := by
  have hin : (4 : Int) < (s.size : Int) := by omega
  have hb8 : s[4].toNat < 256 := s[4].toNat_lt
  go_enter Try.func16, Try.ntmps16
  go_wp2_with (go_at_call 24; refine (H.out _).mono ?_; rintro e' w' ⟨rfl, rfl⟩)
  go_ret3
  exact ⟨rfl, Below.refl _ _⟩

set_option maxHeartbeats 400000 in
theorem refReadS_err64 (s : ByteArray) (e : Int) (he : (e != 0) = true) (H : Hid (∀ w, Calls Try.prog 24 #[.string s, .int .i64 64] w fun e' w' => e' = .returned (.tuple #[.int .i64 0, .int .i64 0, .int .i64 e]) ∧ w' = w)) (w : World) :
    Calls Try.prog 16 #[.string s, .int .i64 64] w fun e' w' => e' = .returned (.tuple #[.int .i64 0, .int .i64 0, .int .i64 e]) ∧ Below w.heap.size w w' := by
  go_enter Try.func16, Try.ntmps16
  go_wp2_with (go_at_call 24; refine (H.out _).mono ?_; rintro e' w' ⟨rfl, rfl⟩)
  go_ret3
  exact ⟨rfl, Below.refl _ _⟩

set_option maxHeartbeats 1000000 in
set_option maxRecDepth 100000 in
theorem refReadS_good64c0 (s : ByteArray) (K : Nat) (hK : K < 10) (hKs : K < s.size) (N : Int) (hN0 : -9223372036854775808 ≤ N) (hN1 : N ≤ 9223372036854775807) (HN : Hid (sv 0 ((nums s).take (K + 1)) = N)) (hc : (s[K].toNat : Int) < 64) (hfit : K = 9 → (s[K].toNat : Int) = 0)
    (H : Hid (∀ w, Calls Try.prog 24 #[.string s, .int .i64 64] w fun e' w' => e' = .returned (.tuple #[.int .i64 ((K : Int) + 1), .int .i64 10, .int .i64 0]) ∧ w' = w)) (w : World) :
    Calls Try.prog 16 #[.string s, .int .i64 64] w fun e' w' => e' = .returned (.tuple #[.int .i64 N, .int .i64 ((K : Int) + 1), .int .i64 0]) ∧ Below w.heap.size w w' := by
  have hbase : sv 0 (((nums s).take (K + 1)).drop K) = (s[K].toNat : Int) - 128 * 0 := by
    rw [take_drop s K K (Nat.le_refl _) hKs, List.drop_eq_nil_of_le (by rw [List.length_take]; omega), sv, sv]; omega
  by_cases hk : K = 9
  · have hb := hfit hk
    clear hfit
    subst hk
    have hin : (9 : Int) < (s.size : Int) := by omega
    go_enter Try.func16, Try.ntmps16
    go_wp2_with (go_at_call 24; refine (H.out _).mono ?_; rintro e' w' ⟨rfl, rfl⟩)
    go_loop [10, 12] (fun t i => ∃ j : Nat, ∃ v : Int, i = .int .i64 ((j : Int) - 1) ∧ t = .int .i64 v ∧ j ≤ 9 ∧ -9223372036854775808 ≤ v ∧ v ≤ 9223372036854775807 ∧ Hid (sv 0 (((nums s).take (10)).drop j) = v)) (fun _ i => (intOf i + 1).toNat)
    case atStart => exact ⟨9, _, by go_num, rfl, Nat.le_refl _, by omega, by omega, by unfold Hid; rw [hbase]; omega⟩
    case round =>
      obtain ⟨j, v, rfl, rfl, hj, hv0, hv1, HV⟩ := hrel
      cases j with
      | zero =>
        have HE : Hid (v = N) := by unfold Hid; rw [← HV.out, List.drop_zero]; exact HN.out
        clear HV
        go_wp2
        go_ret3
        exact ⟨ret_3 HE.out (by omega) rfl, Below.refl _ _⟩
      | succ j =>
        have e : (((j + 1 : Nat) : Int) - 1) = (j : Int) := by omega
        rw [e]
        have hjs : j < s.size := by omega
        have hd := take_drop s 9 j (by omega) hKs
        have hin := sv_in 0 ((nums s).take (10)) j (by rw [HN.out]; exact hN0) (by rw [HN.out]; exact hN1)
        rw [hd, sv, HV.out] at hin
        have hbd0 : -9223372036854775808 ≤ v * 128 + (s[j].toNat : Int) % 128 := by omega
        have hbd1 : v * 128 + (s[j].toNat : Int) % 128 ≤ 9223372036854775807 := by omega
        have HNew : Hid (sv 0 (((nums s).take (10)).drop j) = v * 128 + (s[j].toNat : Int) % 128) := by unfold Hid; rw [hd, sv, HV.out]; omega
        have hb8 : s[j].toNat < 256 := s[j].toNat_lt
        clear hd hin HV e
        go_wp2
        go_round
        case rel => exact ⟨j, _, rfl, rfl, by omega, by omega, by omega, HNew⟩
        case measure => simp [intOf]

  · have hkk : (((K : Int) + 1) == 10) = false := by rw [beq_eq_false_iff_ne]; omega
    clear hfit
    go_enter Try.func16, Try.ntmps16
    go_wp2_with (go_at_call 24; refine (H.out _).mono ?_; rintro e' w' ⟨rfl, rfl⟩)
    go_loop [10, 12] (fun t i => ∃ j : Nat, ∃ v : Int, i = .int .i64 ((j : Int) - 1) ∧ t = .int .i64 v ∧ j ≤ K ∧ -9223372036854775808 ≤ v ∧ v ≤ 9223372036854775807 ∧ Hid (sv 0 (((nums s).take (K + 1)).drop j) = v)) (fun _ i => (intOf i + 1).toNat)
    case atStart => exact ⟨K, _, by go_num, rfl, Nat.le_refl _, by omega, by omega, by unfold Hid; rw [hbase]; omega⟩
    case round =>
      obtain ⟨j, v, rfl, rfl, hj, hv0, hv1, HV⟩ := hrel
      cases j with
      | zero =>
        have HE : Hid (v = N) := by unfold Hid; rw [← HV.out, List.drop_zero]; exact HN.out
        clear HV
        go_wp2
        go_ret3
        exact ⟨ret_3 HE.out (by omega) rfl, Below.refl _ _⟩
      | succ j =>
        have e : (((j + 1 : Nat) : Int) - 1) = (j : Int) := by omega
        rw [e]
        have hjs : j < s.size := by omega
        have hd := take_drop s K j (by omega) hKs
        have hin := sv_in 0 ((nums s).take (K + 1)) j (by rw [HN.out]; exact hN0) (by rw [HN.out]; exact hN1)
        rw [hd, sv, HV.out] at hin
        have hbd0 : -9223372036854775808 ≤ v * 128 + (s[j].toNat : Int) % 128 := by omega
        have hbd1 : v * 128 + (s[j].toNat : Int) % 128 ≤ 9223372036854775807 := by omega
        have HNew : Hid (sv 0 (((nums s).take (K + 1)).drop j) = v * 128 + (s[j].toNat : Int) % 128) := by unfold Hid; rw [hd, sv, HV.out]; omega
        have hb8 : s[j].toNat < 256 := s[j].toNat_lt
        clear hd hin HV e
        go_wp2
        go_round
        case rel => exact ⟨j, _, rfl, rfl, by omega, by omega, by omega, HNew⟩
        case measure => simp [intOf]

set_option maxHeartbeats 400000 in
set_option maxRecDepth 100000 in
theorem refReadS_form64c0 (s : ByteArray) (hKs : 9 < s.size) (hc : (s[9].toNat : Int) < 64) (hn : (1 : Int) ≤ (s[9].toNat : Int))
    (H : Hid (∀ w, Calls Try.prog 24 #[.string s, .int .i64 64] w fun e' w' => e' = .returned (.tuple #[.int .i64 10, .int .i64 10, .int .i64 0]) ∧ w' = w)) (w : World) :
    Calls Try.prog 16 #[.string s, .int .i64 64] w fun e' w' => e' = .returned (.tuple #[.int .i64 0, .int .i64 0, .int .i64 4]) ∧ Below w.heap.size w w' := by
  have hin : (9 : Int) < (s.size : Int) := by omega
  have hb8 : s[9].toNat < 256 := s[9].toNat_lt
  have f0 : ((s[9].toNat : Int) != 0) = true := by rw [bne_iff_ne]; omega
  have f1 : ((s[9].toNat : Int) != -1) = true := by rw [bne_iff_ne]; omega
  go_enter Try.func16, Try.ntmps16
  go_wp2_with (go_at_call 24; refine (H.out _).mono ?_; rintro e' w' ⟨rfl, rfl⟩)
  go_ret3
  exact ⟨rfl, Below.refl _ _⟩

set_option maxHeartbeats 1000000 in
set_option maxRecDepth 100000 in
theorem refReadS_good64c1 (s : ByteArray) (K : Nat) (hK : K < 10) (hKs : K < s.size) (N : Int) (hN0 : -9223372036854775808 ≤ N) (hN1 : N ≤ 9223372036854775807) (HN : Hid (sv 1 ((nums s).take (K + 1)) = N)) (hc : (64 : Int) ≤ (s[K].toNat : Int)) (hc1 : (s[K].toNat : Int) < 128) (hfit : K = 9 → (s[K].toNat : Int) = 127)
    (H : Hid (∀ w, Calls Try.prog 24 #[.string s, .int .i64 64] w fun e' w' => e' = .returned (.tuple #[.int .i64 ((K : Int) + 1), .int .i64 10, .int .i64 0]) ∧ w' = w)) (w : World) :
    Calls Try.prog 16 #[.string s, .int .i64 64] w fun e' w' => e' = .returned (.tuple #[.int .i64 N, .int .i64 ((K : Int) + 1), .int .i64 0]) ∧ Below w.heap.size w w' := by
  have hbase : sv 1 (((nums s).take (K + 1)).drop K) = (s[K].toNat : Int) - 128 * 1 := by
    rw [take_drop s K K (Nat.le_refl _) hKs, List.drop_eq_nil_of_le (by rw [List.length_take]; omega), sv, sv]; omega
  by_cases hk : K = 9
  · have hb := hfit hk
    clear hfit
    subst hk
    have hin : (9 : Int) < (s.size : Int) := by omega
    go_enter Try.func16, Try.ntmps16
    go_wp2_with (go_at_call 24; refine (H.out _).mono ?_; rintro e' w' ⟨rfl, rfl⟩)
    go_loop [10, 12] (fun t i => ∃ j : Nat, ∃ v : Int, i = .int .i64 ((j : Int) - 1) ∧ t = .int .i64 v ∧ j ≤ 9 ∧ -9223372036854775808 ≤ v ∧ v ≤ 9223372036854775807 ∧ Hid (sv 1 (((nums s).take (10)).drop j) = v)) (fun _ i => (intOf i + 1).toNat)
    case atStart => exact ⟨9, _, by go_num, rfl, Nat.le_refl _, by omega, by omega, by unfold Hid; rw [hbase]; omega⟩
    case round =>
      obtain ⟨j, v, rfl, rfl, hj, hv0, hv1, HV⟩ := hrel
      cases j with
      | zero =>
        have HE : Hid (v = N) := by unfold Hid; rw [← HV.out, List.drop_zero]; exact HN.out
        clear HV
        go_wp2
        go_ret3
        exact ⟨ret_3 HE.out (by omega) rfl, Below.refl _ _⟩
      | succ j =>
        have e : (((j + 1 : Nat) : Int) - 1) = (j : Int) := by omega
        rw [e]
        have hjs : j < s.size := by omega
        have hd := take_drop s 9 j (by omega) hKs
        have hin := sv_in 1 ((nums s).take (10)) j (by rw [HN.out]; exact hN0) (by rw [HN.out]; exact hN1)
        rw [hd, sv, HV.out] at hin
        have hbd0 : -9223372036854775808 ≤ v * 128 + (s[j].toNat : Int) % 128 := by omega
        have hbd1 : v * 128 + (s[j].toNat : Int) % 128 ≤ 9223372036854775807 := by omega
        have HNew : Hid (sv 1 (((nums s).take (10)).drop j) = v * 128 + (s[j].toNat : Int) % 128) := by unfold Hid; rw [hd, sv, HV.out]; omega
        have hb8 : s[j].toNat < 256 := s[j].toNat_lt
        clear hd hin HV e
        go_wp2
        go_round
        case rel => exact ⟨j, _, rfl, rfl, by omega, by omega, by omega, HNew⟩
        case measure => simp [intOf]

  · have hkk : (((K : Int) + 1) == 10) = false := by rw [beq_eq_false_iff_ne]; omega
    clear hfit
    go_enter Try.func16, Try.ntmps16
    go_wp2_with (go_at_call 24; refine (H.out _).mono ?_; rintro e' w' ⟨rfl, rfl⟩)
    go_loop [10, 12] (fun t i => ∃ j : Nat, ∃ v : Int, i = .int .i64 ((j : Int) - 1) ∧ t = .int .i64 v ∧ j ≤ K ∧ -9223372036854775808 ≤ v ∧ v ≤ 9223372036854775807 ∧ Hid (sv 1 (((nums s).take (K + 1)).drop j) = v)) (fun _ i => (intOf i + 1).toNat)
    case atStart => exact ⟨K, _, by go_num, rfl, Nat.le_refl _, by omega, by omega, by unfold Hid; rw [hbase]; omega⟩
    case round =>
      obtain ⟨j, v, rfl, rfl, hj, hv0, hv1, HV⟩ := hrel
      cases j with
      | zero =>
        have HE : Hid (v = N) := by unfold Hid; rw [← HV.out, List.drop_zero]; exact HN.out
        clear HV
        go_wp2
        go_ret3
        exact ⟨ret_3 HE.out (by omega) rfl, Below.refl _ _⟩
      | succ j =>
        have e : (((j + 1 : Nat) : Int) - 1) = (j : Int) := by omega
        rw [e]
        have hjs : j < s.size := by omega
        have hd := take_drop s K j (by omega) hKs
        have hin := sv_in 1 ((nums s).take (K + 1)) j (by rw [HN.out]; exact hN0) (by rw [HN.out]; exact hN1)
        rw [hd, sv, HV.out] at hin
        have hbd0 : -9223372036854775808 ≤ v * 128 + (s[j].toNat : Int) % 128 := by omega
        have hbd1 : v * 128 + (s[j].toNat : Int) % 128 ≤ 9223372036854775807 := by omega
        have HNew : Hid (sv 1 (((nums s).take (K + 1)).drop j) = v * 128 + (s[j].toNat : Int) % 128) := by unfold Hid; rw [hd, sv, HV.out]; omega
        have hb8 : s[j].toNat < 256 := s[j].toNat_lt
        clear hd hin HV e
        go_wp2
        go_round
        case rel => exact ⟨j, _, rfl, rfl, by omega, by omega, by omega, HNew⟩
        case measure => simp [intOf]

set_option maxHeartbeats 400000 in
set_option maxRecDepth 100000 in
theorem refReadS_form64c1 (s : ByteArray) (hKs : 9 < s.size) (hc : (64 : Int) ≤ (s[9].toNat : Int)) (hc1 : (s[9].toNat : Int) < 128) (hn : (s[9].toNat : Int) < 127)
    (H : Hid (∀ w, Calls Try.prog 24 #[.string s, .int .i64 64] w fun e' w' => e' = .returned (.tuple #[.int .i64 10, .int .i64 10, .int .i64 0]) ∧ w' = w)) (w : World) :
    Calls Try.prog 16 #[.string s, .int .i64 64] w fun e' w' => e' = .returned (.tuple #[.int .i64 0, .int .i64 0, .int .i64 4]) ∧ Below w.heap.size w w' := by
  have hin : (9 : Int) < (s.size : Int) := by omega
  have hb8 : s[9].toNat < 256 := s[9].toNat_lt
  have f0 : ((s[9].toNat : Int) - 128 != 0) = true := by rw [bne_iff_ne]; omega
  have f1 : ((s[9].toNat : Int) - 128 != -1) = true := by rw [bne_iff_ne]; omega
  go_enter Try.func16, Try.ntmps16
  go_wp2_with (go_at_call 24; refine (H.out _).mono ?_; rintro e' w' ⟨rfl, rfl⟩)
  go_ret3
  exact ⟨rfl, Below.refl _ _⟩

end Go.Proofs.Ytnkeeaelomalkaa
