/-
  The walk of the law of bits that are turned round, for whatever its closures do: 32 bits.
-/
import Derived.Test.YtlbilmgpnpghlabTurnsCl
namespace Go.Proofs.Ytlbilmgpnpghlab
open Go.RowKit

set_option maxHeartbeats 40000000 in
set_option maxRecDepth 1000000 in
theorem numTurns_coreN (a0 n0 m0 a n m k rm power down ud back la lb ua da sg : Int) (o107 o108 o110 o117 o118 o73 : Int) (P : Nat) (left right up t107 t108 t110 t117 t118 t73 : Int → Int → Int → Prop)
    (Hleft : Hid (∀ x y z, left x y z → ∀ w, w.cell? ⟨P, 0, none⟩ = some (.bool false) → Calls Try.prog 9 #[.int .i64 x, .int .i64 y, .pointer (some ⟨P, 0, none⟩)] w fun e w' => e = .returned (.int .i64 z) ∧ ∃ n, w' = w.drewN n))
    (Hright : Hid (∀ x y z, right x y z → ∀ w, w.cell? ⟨P, 0, none⟩ = some (.bool false) → Calls Try.prog 11 #[.int .i64 x, .int .i64 y, .pointer (some ⟨P, 0, none⟩)] w fun e w' => e = .returned (.int .i64 z) ∧ ∃ n, w' = w.drewN n))
    (Hup : Hid (∀ x y z, up x y z → ∀ w, w.cell? ⟨P, 0, none⟩ = some (.bool false) → Calls Try.prog 12 #[.int .i64 x, .int .i64 y, .pointer (some ⟨P, 0, none⟩)] w fun e w' => e = .returned (.int .i64 z) ∧ w' = w))
    (HW107 : Hid (∀ w, Calls Try.prog 8 #[.int .u8 107, .bool false] w fun e w' => e = .returned (.int .u8 o107) ∧ w' = w)) (HT107 : Hid (∀ x y z, t107 x y z → ∀ w, Calls Try.prog 10 #[.int .u8 o107, .int .i64 x, .int .i64 y] w fun e w' => e = .returned (.int .i64 z) ∧ w' = w))
    (HW108 : Hid (∀ w, Calls Try.prog 8 #[.int .u8 108, .bool false] w fun e w' => e = .returned (.int .u8 o108) ∧ w' = w)) (HT108 : Hid (∀ x y z, t108 x y z → ∀ w, Calls Try.prog 10 #[.int .u8 o108, .int .i64 x, .int .i64 y] w fun e w' => e = .returned (.int .i64 z) ∧ w' = w))
    (HW110 : Hid (∀ w, Calls Try.prog 8 #[.int .u8 110, .bool false] w fun e w' => e = .returned (.int .u8 o110) ∧ w' = w)) (HT110 : Hid (∀ x y z, t110 x y z → ∀ w, Calls Try.prog 10 #[.int .u8 o110, .int .i64 x, .int .i64 y] w fun e w' => e = .returned (.int .i64 z) ∧ w' = w))
    (HW117 : Hid (∀ w, Calls Try.prog 8 #[.int .u8 117, .bool false] w fun e w' => e = .returned (.int .u8 o117) ∧ w' = w)) (HT117 : Hid (∀ x y z, t117 x y z → ∀ w, Calls Try.prog 10 #[.int .u8 o117, .int .i64 x, .int .i64 y] w fun e w' => e = .returned (.int .i64 z) ∧ w' = w))
    (HW118 : Hid (∀ w, Calls Try.prog 8 #[.int .u8 118, .bool false] w fun e w' => e = .returned (.int .u8 o118) ∧ w' = w)) (HT118 : Hid (∀ x y z, t118 x y z → ∀ w, Calls Try.prog 10 #[.int .u8 o118, .int .i64 x, .int .i64 y] w fun e w' => e = .returned (.int .i64 z) ∧ w' = w))
    (HW73 : Hid (∀ w, Calls Try.prog 8 #[.int .u8 73, .bool false] w fun e w' => e = .returned (.int .u8 o73) ∧ w' = w)) (HT73 : Hid (∀ x y z, t73 x y z → ∀ w, Calls Try.prog 10 #[.int .u8 o73, .int .i64 x, .int .i64 y] w fun e w' => e = .returned (.int .i64 z) ∧ w' = w))
    (HRN : Hid (∀ w, Calls Try.prog 13 #[.int .i64 n, .int .i64 32] w fun e w' => e = .returned (.int .i64 k) ∧ w' = w)) (HRM : Hid (∀ w, Calls Try.prog 13 #[.int .i64 m, .int .i64 32] w fun e w' => e = .returned (.int .i64 rm) ∧ w' = w))
    (_hk0 : 0 ≤ k) (_hk1 : k < 64) (_hr0 : 0 ≤ rm) (_hr1 : rm < 64) (ha : fitW false a0 = a) (hb : fitW false n0 = n) (hc : fitW false m0 = m)
    (E0 : Hid (up 1 k power)) (E1 : Hid (t117 a n down)) (E2 : Hid (up down n ud)) (E3 : Hid (t107 a ud back))
    (F0 : Hid (left a n la)) (F1 : Hid (right la n a)) (F2 : Hid (left la m lb)) (F3 : Hid (left a (k + rm) lb)) (F4 : Hid (right a (32 - k) la)) (F5 : Hid (up a n ua)) (F6 : Hid (t108 a power ua)) (F7 : Hid (t118 a n da)) (F8 : Hid (t110 a power da)) (F9 : Hid (back = 0 ∨ t73 back power 1)) (F10 : Hid (t117 a 31 sg)) (F11 : Hid ((a < 0) = (sg = -1))) (w : World) (hP : w.heap.size = P) :
    Calls Try.prog 4 #[.int .i64 a0, .int .i64 n0, .int .i64 m0, .bool false] w fun e w' => e = .returned (.bool true) ∧ Below w.heap.size w w' := by
  have HFIT : Hid (Calls Try.prog 5 #[.bool false, .slice (some ⟨w.heap.size + 1, 0, none⟩) 3 3] ((w.alloc (.cells #[.bool false] 4)).alloc (.cells #[.int .i64 a0, .int .i64 n0, .int .i64 m0] 2)) fun e w' => e = .returned (.slice (some ⟨w.heap.size + 1, 0, none⟩) 3 3) ∧ (w'.cell? ⟨w.heap.size + 1, 0, none⟩ = some (.int .i64 a) ∧ w'.cell? ⟨w.heap.size + 1, 1, none⟩ = some (.int .i64 n) ∧ w'.cell? ⟨w.heap.size + 1, 2, none⟩ = some (.int .i64 m)) ∧ w'.cell? ⟨w.heap.size, 0, none⟩ = some (.bool false) ∧ Below w.heap.size w w' ∧ w.heap.size < w'.heap.size) := by
    refine (fits_new false [a0, n0, m0] _ 3 (w.heap.size + 1) rfl (by omega) rfl (w.alloc (.cells #[.bool false] 4)) (by simp)).mono ?_
    rintro e w1 ⟨rfl, hcs, hb1⟩
    have c0 := hcs 0 (by omega)
    have c1 := hcs 1 (by omega)
    have c2 := hcs 2 (by omega)
    refine ⟨rfl, ⟨by rw [← ha]; exact c0, by rw [← hb]; exact c1, by rw [← hc]; exact c2⟩, ?_, ((Below.refl _ _).alloc (Nat.le_refl _) _).trans (hb1.mono (by simp)), by have := hb1.size; simp at this; omega⟩
    rw [hb1.cell (p := ⟨w.heap.size, 0, none⟩) (by simp)]
    exact cell_one_new _ _ _ 0 _ rfl
  subst hP
  go_enter Try.func4, Try.ntmps4
  go_wp2_with fail
  refine HFIT.out.mono ?_
  rintro e w1 ⟨rfl, ⟨hc0, hc1, hc2⟩, hcw, hbel, hsz⟩
  clear HFIT ha hb hc
  go_wp2_with fail
  go_quiet (fail)
  have hcw2 : (w1.drewN nq).cell? ⟨w.heap.size, 0, none⟩ = some (.bool false) := hcw
  have HB : Hid (Below w.heap.size w (w1.drewN nq)) := below_drewN hbel _
  generalize w1.drewN nq = w2 at hcw2 HB
  clear hcw hbel hc0 hc1 hc2 hsz
  have HC : Hid _ := hcw2
  go_wp2_with fail
  refine (HRN.out _).mono ?_
  rintro e w3 ⟨rfl, rfl⟩
  go_wp2_with fail
  refine (Hup.out _ _ _ E0.out _ HC.out).mono ?_
  rintro e w3 ⟨rfl, rfl⟩
  go_wp2_with fail
  refine (HW117.out _).mono ?_
  rintro e w3 ⟨rfl, rfl⟩
  go_wp2_with fail
  refine (HT117.out _ _ _ E1.out _).mono ?_
  rintro e w3 ⟨rfl, rfl⟩
  go_wp2_with fail
  refine (HW107.out _).mono ?_
  rintro e w3 ⟨rfl, rfl⟩
  go_wp2_with fail
  refine (Hup.out _ _ _ E2.out _ HC.out).mono ?_
  rintro e w3 ⟨rfl, rfl⟩
  go_wp2_with fail
  refine (HT107.out _ _ _ E3.out _).mono ?_
  rintro e w3 ⟨rfl, rfl⟩
  go_wp2_with fail
  refine wp_region_quiet_lit (by kernel_rfl) ?hB ?_
  case hB =>
    refine lexB_90 _ ?_ ?_ ?_ ?_ ?_ ?_ ?_ ?_ ?_ ?_ ?_ ?_ ?_ ?_ ?_
    all_goals as_aux_lemma => kernel_rfl
  dsimp only [List.append]
  by_cases hz : back = 0
  · subst hz
    clear F9 HT73
    repeat (go_big_quiet_step (first
      | (go_at_call_of 9 (Value.int .i64 a); go_at_call_of 9 (Value.int .i64 n); exact Calls.quiet_of (Hleft.out _ _ _ F0.out _ HC.out))
      | (go_at_call_of 11 (Value.int .i64 la); go_at_call_of 11 (Value.int .i64 n); exact Calls.quiet_of (Hright.out _ _ _ F1.out _ HC.out))
      | (go_at_call_of 9 (Value.int .i64 la); go_at_call_of 9 (Value.int .i64 m); exact Calls.quiet_of (Hleft.out _ _ _ F2.out _ HC.out))
      | (go_at_call_of 13 (Value.int .i64 m); exact Calls.quiet_of_same (HRM.out _))
      | (go_at_call_of 9 (Value.int .i64 a); go_at_call_of 9 (Value.int .i64 (k + rm)); exact Calls.quiet_of (Hleft.out _ _ _ F3.out _ HC.out))
      | (go_at_call_of 11 (Value.int .i64 a); exact Calls.quiet_of (Hright.out _ _ _ F4.out _ HC.out))
      | (go_at_call_of 12 (Value.int .i64 a); go_at_call_of 12 (Value.int .i64 n); exact Calls.quiet_of_same (Hup.out _ _ _ F5.out _ HC.out))
      | (go_at_call_of 8 (Value.int .u8 107); exact Calls.quiet_of_same (HW107.out _))
      | (go_at_call_of 8 (Value.int .u8 108); exact Calls.quiet_of_same (HW108.out _))
      | (go_at_call_of 8 (Value.int .u8 110); exact Calls.quiet_of_same (HW110.out _))
      | (go_at_call_of 8 (Value.int .u8 117); exact Calls.quiet_of_same (HW117.out _))
      | (go_at_call_of 8 (Value.int .u8 118); exact Calls.quiet_of_same (HW118.out _))
      | (go_at_call_of 8 (Value.int .u8 73); exact Calls.quiet_of_same (HW73.out _))
      | (go_at_call_of 10 (Value.int .u8 o108); go_at_call_of 10 (Value.int .i64 a); go_at_call_of 10 (Value.int .i64 power); exact Calls.quiet_of_same (HT108.out _ _ _ F6.out _))
      | (go_at_call_of 10 (Value.int .u8 o118); go_at_call_of 10 (Value.int .i64 a); go_at_call_of 10 (Value.int .i64 n); exact Calls.quiet_of_same (HT118.out _ _ _ F7.out _))
      | (go_at_call_of 10 (Value.int .u8 o110); go_at_call_of 10 (Value.int .i64 a); go_at_call_of 10 (Value.int .i64 power); exact Calls.quiet_of_same (HT110.out _ _ _ F8.out _))
      | (go_at_call_of 10 (Value.int .u8 o117); go_at_call_of 10 (Value.int .i64 a); exact Calls.quiet_of_same (HT117.out _ _ _ F10.out _))))
    refine wpQuiet_nil ?_
    intro _ hw'
    obtain ⟨nq, hw''⟩ := hw'
    subst hw''
    go_wp2
    go_ret
    refine ⟨congrArg Ending.returned (congrArg Value.bool ?_), below_drewN HB.out _⟩
    have h11 := F11.out
    by_cases hneg : a < 0
    · have : sg = -1 := by rw [← h11]; exact hneg
      simp [hneg, this]
    · have : ¬ sg = -1 := by rw [← h11]; exact hneg
      simp [hneg, this]
  · have F : Hid (t73 back power 1) := F9.out.resolve_left hz
    have hzb : (back == 0) = false := by rw [beq_eq_false_iff_ne]; exact hz
    clear F9
    repeat (go_big_quiet_step (first
      | (go_at_call_of 9 (Value.int .i64 a); go_at_call_of 9 (Value.int .i64 n); exact Calls.quiet_of (Hleft.out _ _ _ F0.out _ HC.out))
      | (go_at_call_of 11 (Value.int .i64 la); go_at_call_of 11 (Value.int .i64 n); exact Calls.quiet_of (Hright.out _ _ _ F1.out _ HC.out))
      | (go_at_call_of 9 (Value.int .i64 la); go_at_call_of 9 (Value.int .i64 m); exact Calls.quiet_of (Hleft.out _ _ _ F2.out _ HC.out))
      | (go_at_call_of 13 (Value.int .i64 m); exact Calls.quiet_of_same (HRM.out _))
      | (go_at_call_of 9 (Value.int .i64 a); go_at_call_of 9 (Value.int .i64 (k + rm)); exact Calls.quiet_of (Hleft.out _ _ _ F3.out _ HC.out))
      | (go_at_call_of 11 (Value.int .i64 a); exact Calls.quiet_of (Hright.out _ _ _ F4.out _ HC.out))
      | (go_at_call_of 12 (Value.int .i64 a); go_at_call_of 12 (Value.int .i64 n); exact Calls.quiet_of_same (Hup.out _ _ _ F5.out _ HC.out))
      | (go_at_call_of 8 (Value.int .u8 107); exact Calls.quiet_of_same (HW107.out _))
      | (go_at_call_of 8 (Value.int .u8 108); exact Calls.quiet_of_same (HW108.out _))
      | (go_at_call_of 8 (Value.int .u8 110); exact Calls.quiet_of_same (HW110.out _))
      | (go_at_call_of 8 (Value.int .u8 117); exact Calls.quiet_of_same (HW117.out _))
      | (go_at_call_of 8 (Value.int .u8 118); exact Calls.quiet_of_same (HW118.out _))
      | (go_at_call_of 8 (Value.int .u8 73); exact Calls.quiet_of_same (HW73.out _))
      | (go_at_call_of 10 (Value.int .u8 o108); go_at_call_of 10 (Value.int .i64 a); go_at_call_of 10 (Value.int .i64 power); exact Calls.quiet_of_same (HT108.out _ _ _ F6.out _))
      | (go_at_call_of 10 (Value.int .u8 o118); go_at_call_of 10 (Value.int .i64 a); go_at_call_of 10 (Value.int .i64 n); exact Calls.quiet_of_same (HT118.out _ _ _ F7.out _))
      | (go_at_call_of 10 (Value.int .u8 o110); go_at_call_of 10 (Value.int .i64 a); go_at_call_of 10 (Value.int .i64 power); exact Calls.quiet_of_same (HT110.out _ _ _ F8.out _))
      | (go_at_call_of 10 (Value.int .u8 o117); go_at_call_of 10 (Value.int .i64 a); exact Calls.quiet_of_same (HT117.out _ _ _ F10.out _))
      | (go_at_call_of 10 (Value.int .u8 o73); go_at_call_of 10 (Value.int .i64 back); go_at_call_of 10 (Value.int .i64 power); exact Calls.quiet_of_same (HT73.out _ _ _ F.out _))))
    refine wpQuiet_nil ?_
    intro _ hw'
    obtain ⟨nq, hw''⟩ := hw'
    subst hw''
    go_wp2
    go_ret
    refine ⟨congrArg Ending.returned (congrArg Value.bool ?_), below_drewN HB.out _⟩
    have h11 := F11.out
    by_cases hneg : a < 0
    · have : sg = -1 := by rw [← h11]; exact hneg
      simp [hneg, this]
    · have : ¬ sg = -1 := by rw [← h11]; exact hneg
      simp [hneg, this]
end Go.Proofs.Ytlbilmgpnpghlab
