/-
  The walk of the law of quotients without signs.
-/
import Derived.Test.YtlbilmgpnpghlabKeep2
import Derived.Deep.RegionWith
namespace Go.Proofs.Ytlbilmgpnpghlab
open Go.RowKit

set_option maxHeartbeats 4000000 in
set_option maxRecDepth 1000000 in
theorem plain_false (n : Int) (P : Nat) (w : World) (_hc : w.cell? ⟨P, 0, none⟩ = some (.bool false)) :
    Calls Try.prog 6 #[.int .i64 n, .pointer (some ⟨P, 0, none⟩)] w fun e w' => e = .returned (.int .u64 (n % 4294967296)) ∧ w' = w := by
  go_enter Try.func6, Try.ntmps6
  go_wp2
  go_ret
  exact ⟨rfl, rfl⟩
set_option maxHeartbeats 4000000 in
set_option maxRecDepth 1000000 in
theorem plain_true (n : Int) (P : Nat) (w : World) (_hc : w.cell? ⟨P, 0, none⟩ = some (.bool true)) :
    Calls Try.prog 6 #[.int .i64 n, .pointer (some ⟨P, 0, none⟩)] w fun e w' => e = .returned (.int .u64 (IntKind.u64.wrap n)) ∧ w' = w := by
  go_enter Try.func6, Try.ntmps6
  go_wp2
  go_ret
  exact ⟨rfl, rfl⟩
set_option maxHeartbeats 4000000 in
set_option maxRecDepth 1000000 in
theorem plain_zero (wd : Bool) (P : Nat) (a0 b0 a b q r x o110 o112 : Int) (HA : Hid (fitW wd a0 = a)) (HB0 : Hid (fitW wd b0 = b)) (HW110 : Hid (∀ w, Calls Try.prog 8 #[.int .u8 110, .bool wd] w fun e w' => e = .returned (.int .u8 o110) ∧ w' = w)) (HW112 : Hid (∀ w, Calls Try.prog 8 #[.int .u8 112, .bool wd] w fun e w' => e = .returned (.int .u8 o112) ∧ w' = w)) (HQ : Hid (∀ w, Calls Try.prog 7 #[.int .u8 o110, .int .i64 a, .int .i64 b] w fun e w' => e = .returned (.tuple #[.int .i64 q, .int .i64 21]) ∧ w' = w)) (HM : Hid (∀ w, Calls Try.prog 7 #[.int .u8 o112, .int .i64 a, .int .i64 b] w fun e w' => e = .returned (.tuple #[.int .i64 r, .int .i64 21]) ∧ w' = w)) (HPa : Hid (∀ w, w.cell? ⟨P, 0, none⟩ = some (.bool wd) → Calls Try.prog 6 #[.int .i64 a, .pointer (some ⟨P, 0, none⟩)] w fun e w' => e = .returned (.int .u64 x) ∧ w' = w)) (HPb : Hid (∀ w, w.cell? ⟨P, 0, none⟩ = some (.bool wd) → Calls Try.prog 6 #[.int .i64 b, .pointer (some ⟨P, 0, none⟩)] w fun e w' => e = .returned (.int .u64 0) ∧ w' = w)) (w : World) (hP : w.heap.size = P) :
    Calls Try.prog 3 #[.int .i64 a0, .int .i64 b0, .bool wd] w fun e w' => e = .returned (.bool true) ∧ Below w.heap.size w w' := by
  subst hP
  have HFIT : Hid (Calls Try.prog 5 #[.bool wd, .slice (some ⟨w.heap.size + 1, 0, none⟩) 2 2] ((w.alloc (.cells #[.bool wd] 4)).alloc (.cells #[.int .i64 a0, .int .i64 b0] 2)) fun e w' => e = .returned (.slice (some ⟨w.heap.size + 1, 0, none⟩) 2 2) ∧ (w'.cell? ⟨w.heap.size + 1, 0, none⟩ = some (.int .i64 a) ∧ w'.cell? ⟨w.heap.size + 1, 1, none⟩ = some (.int .i64 b)) ∧ w'.cell? ⟨w.heap.size, 0, none⟩ = some (.bool wd) ∧ Below w.heap.size w w') := by
    refine (fits_new wd [a0, b0] _ 2 (w.heap.size + 1) rfl (by omega) rfl (w.alloc (.cells #[.bool wd] 4)) (by simp)).mono ?_
    rintro e w1 ⟨rfl, hcs, hb1⟩
    have c0 := hcs 0 (by omega)
    have c1 := hcs 1 (by omega)
    refine ⟨rfl, ⟨by rw [← HA.out]; exact c0, by rw [← HB0.out]; exact c1⟩, ?_, ((Below.refl _ _).alloc (Nat.le_refl _) _).trans (hb1.mono (by simp))⟩
    rw [hb1.cell (p := ⟨w.heap.size, 0, none⟩) (by simp)]
    exact cell_one_new _ _ _ 0 _ rfl
  clear HA HB0
  go_enter Try.func3, Try.ntmps3
  go_wp2_with fail
  refine HFIT.out.mono ?_
  rintro e w1 ⟨rfl, ⟨hc0, hc1⟩, hcw, hbel⟩
  clear HFIT
  go_wp2_with fail
  go_quiet (first
    | (go_at_call_of 8 (Value.int .u8 110); exact Calls.quiet_of_same (HW110.out _))
    | (go_at_call_of 7 (Value.int .u8 o110); exact Calls.quiet_of_same (HQ.out _)))
  have d01 : (w1.drewN nq).cell? ⟨w.heap.size + 1, 0, none⟩ = some (.int .i64 a) := hc0
  have d11 : (w1.drewN nq).cell? ⟨w.heap.size + 1, 1, none⟩ = some (.int .i64 b) := hc1
  have d21 : (w1.drewN nq).cell? ⟨w.heap.size, 0, none⟩ = some (.bool wd) := hcw
  have d31 : Below w.heap.size w (w1.drewN nq) := below_drewN hbel _
  clear hc0 hc1 hcw hbel
  generalize w1.drewN nq = w2 at d01 d11 d21 d31
  have hc0 := d01
  have hc1 := d11
  have hcw := d21
  have hbel := d31
  clear d01 d11 d21 d31
  go_wp2_with fail
  go_quiet (first
    | (go_at_call_of 8 (Value.int .u8 112); exact Calls.quiet_of_same (HW112.out _))
    | (go_at_call_of 7 (Value.int .u8 o112); exact Calls.quiet_of_same (HM.out _)))
  have d02 : (w2.drewN nq).cell? ⟨w.heap.size + 1, 0, none⟩ = some (.int .i64 a) := hc0
  have d12 : (w2.drewN nq).cell? ⟨w.heap.size + 1, 1, none⟩ = some (.int .i64 b) := hc1
  have d22 : (w2.drewN nq).cell? ⟨w.heap.size, 0, none⟩ = some (.bool wd) := hcw
  have d32 : Below w.heap.size w (w2.drewN nq) := below_drewN hbel _
  clear hc0 hc1 hcw hbel
  generalize w2.drewN nq = w3 at d02 d12 d22 d32
  have hc0 := d02
  have hc1 := d12
  have hcw := d22
  have hbel := d32
  clear d02 d12 d22 d32
  go_wp2_with fail
  go_quiet (first
    | (go_at_call_of 6 (Value.int .i64 a); exact Calls.quiet_of_same (HPa.out _ hcw))
    | (go_at_call_of 6 (Value.int .i64 b); exact Calls.quiet_of_same (HPb.out _ hcw)))
  have d03 : (w3.drewN nq).cell? ⟨w.heap.size + 1, 0, none⟩ = some (.int .i64 a) := hc0
  have d13 : (w3.drewN nq).cell? ⟨w.heap.size + 1, 1, none⟩ = some (.int .i64 b) := hc1
  have d23 : (w3.drewN nq).cell? ⟨w.heap.size, 0, none⟩ = some (.bool wd) := hcw
  have d33 : Below w.heap.size w (w3.drewN nq) := below_drewN hbel _
  clear hc0 hc1 hcw hbel
  generalize w3.drewN nq = w4 at d03 d13 d23 d33
  have hc0 := d03
  have hc1 := d13
  have hcw := d23
  have hbel := d33
  clear d03 d13 d23 d33
  have HC : Hid _ := hcw
  have HB : Hid _ := hbel
  clear hcw hbel hc0 hc1
  go_wp2
  go_ret
  exact ⟨rfl, HB.out⟩
set_option maxHeartbeats 4000000 in
set_option maxRecDepth 1000000 in
theorem plain_norm (wd : Bool) (P : Nat) (a0 b0 a b q r x y rp qp m o110 o112 : Int) (HA : Hid (fitW wd a0 = a)) (HB0 : Hid (fitW wd b0 = b)) (HW110 : Hid (∀ w, Calls Try.prog 8 #[.int .u8 110, .bool wd] w fun e w' => e = .returned (.int .u8 o110) ∧ w' = w)) (HW112 : Hid (∀ w, Calls Try.prog 8 #[.int .u8 112, .bool wd] w fun e w' => e = .returned (.int .u8 o112) ∧ w' = w)) (HQ : Hid (∀ w, Calls Try.prog 7 #[.int .u8 o110, .int .i64 a, .int .i64 b] w fun e w' => e = .returned (.tuple #[.int .i64 q, .int .i64 0]) ∧ w' = w)) (HM : Hid (∀ w, Calls Try.prog 7 #[.int .u8 o112, .int .i64 a, .int .i64 b] w fun e w' => e = .returned (.tuple #[.int .i64 r, .int .i64 0]) ∧ w' = w)) (HPa : Hid (∀ w, w.cell? ⟨P, 0, none⟩ = some (.bool wd) → Calls Try.prog 6 #[.int .i64 a, .pointer (some ⟨P, 0, none⟩)] w fun e w' => e = .returned (.int .u64 x) ∧ w' = w)) (HPb : Hid (∀ w, w.cell? ⟨P, 0, none⟩ = some (.bool wd) → Calls Try.prog 6 #[.int .i64 b, .pointer (some ⟨P, 0, none⟩)] w fun e w' => e = .returned (.int .u64 y) ∧ w' = w)) (HPq : Hid (∀ w, w.cell? ⟨P, 0, none⟩ = some (.bool wd) → Calls Try.prog 6 #[.int .i64 q, .pointer (some ⟨P, 0, none⟩)] w fun e w' => e = .returned (.int .u64 qp) ∧ w' = w)) (HPr : Hid (∀ w, w.cell? ⟨P, 0, none⟩ = some (.bool wd) → Calls Try.prog 6 #[.int .i64 r, .pointer (some ⟨P, 0, none⟩)] w fun e w' => e = .returned (.int .u64 rp) ∧ w' = w)) (_hy : (y == 0) = false) (_hr : rp < y) (_hm : IntKind.u64.wrap (qp * y) = m) (_ha : IntKind.u64.wrap (m + rp) = x) (_hq : qp ≤ x) (w : World) (hP : w.heap.size = P) :
    Calls Try.prog 3 #[.int .i64 a0, .int .i64 b0, .bool wd] w fun e w' => e = .returned (.bool true) ∧ Below w.heap.size w w' := by
  subst hP
  have HFIT : Hid (Calls Try.prog 5 #[.bool wd, .slice (some ⟨w.heap.size + 1, 0, none⟩) 2 2] ((w.alloc (.cells #[.bool wd] 4)).alloc (.cells #[.int .i64 a0, .int .i64 b0] 2)) fun e w' => e = .returned (.slice (some ⟨w.heap.size + 1, 0, none⟩) 2 2) ∧ (w'.cell? ⟨w.heap.size + 1, 0, none⟩ = some (.int .i64 a) ∧ w'.cell? ⟨w.heap.size + 1, 1, none⟩ = some (.int .i64 b)) ∧ w'.cell? ⟨w.heap.size, 0, none⟩ = some (.bool wd) ∧ Below w.heap.size w w') := by
    refine (fits_new wd [a0, b0] _ 2 (w.heap.size + 1) rfl (by omega) rfl (w.alloc (.cells #[.bool wd] 4)) (by simp)).mono ?_
    rintro e w1 ⟨rfl, hcs, hb1⟩
    have c0 := hcs 0 (by omega)
    have c1 := hcs 1 (by omega)
    refine ⟨rfl, ⟨by rw [← HA.out]; exact c0, by rw [← HB0.out]; exact c1⟩, ?_, ((Below.refl _ _).alloc (Nat.le_refl _) _).trans (hb1.mono (by simp))⟩
    rw [hb1.cell (p := ⟨w.heap.size, 0, none⟩) (by simp)]
    exact cell_one_new _ _ _ 0 _ rfl
  clear HA HB0
  go_enter Try.func3, Try.ntmps3
  go_wp2_with fail
  refine HFIT.out.mono ?_
  rintro e w1 ⟨rfl, ⟨hc0, hc1⟩, hcw, hbel⟩
  clear HFIT
  go_wp2_with fail
  go_quiet (first
    | (go_at_call_of 8 (Value.int .u8 110); exact Calls.quiet_of_same (HW110.out _))
    | (go_at_call_of 7 (Value.int .u8 o110); exact Calls.quiet_of_same (HQ.out _)))
  have d01 : (w1.drewN nq).cell? ⟨w.heap.size + 1, 0, none⟩ = some (.int .i64 a) := hc0
  have d11 : (w1.drewN nq).cell? ⟨w.heap.size + 1, 1, none⟩ = some (.int .i64 b) := hc1
  have d21 : (w1.drewN nq).cell? ⟨w.heap.size, 0, none⟩ = some (.bool wd) := hcw
  have d31 : Below w.heap.size w (w1.drewN nq) := below_drewN hbel _
  clear hc0 hc1 hcw hbel
  generalize w1.drewN nq = w2 at d01 d11 d21 d31
  have hc0 := d01
  have hc1 := d11
  have hcw := d21
  have hbel := d31
  clear d01 d11 d21 d31
  go_wp2_with fail
  go_quiet (first
    | (go_at_call_of 8 (Value.int .u8 112); exact Calls.quiet_of_same (HW112.out _))
    | (go_at_call_of 7 (Value.int .u8 o112); exact Calls.quiet_of_same (HM.out _)))
  have d02 : (w2.drewN nq).cell? ⟨w.heap.size + 1, 0, none⟩ = some (.int .i64 a) := hc0
  have d12 : (w2.drewN nq).cell? ⟨w.heap.size + 1, 1, none⟩ = some (.int .i64 b) := hc1
  have d22 : (w2.drewN nq).cell? ⟨w.heap.size, 0, none⟩ = some (.bool wd) := hcw
  have d32 : Below w.heap.size w (w2.drewN nq) := below_drewN hbel _
  clear hc0 hc1 hcw hbel
  generalize w2.drewN nq = w3 at d02 d12 d22 d32
  have hc0 := d02
  have hc1 := d12
  have hcw := d22
  have hbel := d32
  clear d02 d12 d22 d32
  go_wp2_with fail
  go_quiet (first
    | (go_at_call_of 6 (Value.int .i64 a); exact Calls.quiet_of_same (HPa.out _ hcw))
    | (go_at_call_of 6 (Value.int .i64 b); exact Calls.quiet_of_same (HPb.out _ hcw)))
  have d03 : (w3.drewN nq).cell? ⟨w.heap.size + 1, 0, none⟩ = some (.int .i64 a) := hc0
  have d13 : (w3.drewN nq).cell? ⟨w.heap.size + 1, 1, none⟩ = some (.int .i64 b) := hc1
  have d23 : (w3.drewN nq).cell? ⟨w.heap.size, 0, none⟩ = some (.bool wd) := hcw
  have d33 : Below w.heap.size w (w3.drewN nq) := below_drewN hbel _
  clear hc0 hc1 hcw hbel
  generalize w3.drewN nq = w4 at d03 d13 d23 d33
  have hc0 := d03
  have hc1 := d13
  have hcw := d23
  have hbel := d33
  clear d03 d13 d23 d33
  have HC : Hid _ := hcw
  have HB : Hid _ := hbel
  clear hcw hbel hc0 hc1
  go_wp2_with fail
  refine (HPr.out _ HC.out).mono ?_
  rintro e w51 ⟨rfl, rfl⟩
  go_wp2_with fail
  refine (HPq.out _ HC.out).mono ?_
  rintro e w52 ⟨rfl, rfl⟩
  go_wp2_with fail
  refine (HPr.out _ HC.out).mono ?_
  rintro e w53 ⟨rfl, rfl⟩
  go_wp2_with fail
  refine (HPq.out _ HC.out).mono ?_
  rintro e w54 ⟨rfl, rfl⟩
  go_wp2
  go_ret
  exact ⟨rfl, HB.out⟩
end Go.Proofs.Ytlbilmgpnpghlab
