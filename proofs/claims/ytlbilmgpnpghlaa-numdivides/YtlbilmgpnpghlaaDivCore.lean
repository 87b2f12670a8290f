/-
  The walk of the law of quotients with signs.
-/
import Derived.Test.YtlbilmgpnpghlaaKeep2
namespace Go.Proofs.Ytlbilmgpnpghlaa
open Go.RowKit

set_option maxHeartbeats 4000000 in
set_option maxRecDepth 1000000 in
theorem size_neg (n u : Int) (_h : n < 0) (_hu : IntKind.u64.wrap n = u) (_hv : IntKind.u64.wrap (-u) = -n) (w : World) :
    Calls Try.prog 19 #[.int .i64 n] w fun e w' => e = .returned (.int .u64 (-n)) ∧ w' = w := by
  go_enter Try.func19, Try.ntmps19
  go_wp2
  go_ret
  exact ⟨rfl, rfl⟩
set_option maxHeartbeats 4000000 in
set_option maxRecDepth 1000000 in
theorem size_pos (n : Int) (_h : 0 ≤ n) (_hu : IntKind.u64.wrap n = n) (w : World) :
    Calls Try.prog 19 #[.int .i64 n] w fun e w' => e = .returned (.int .u64 n) ∧ w' = w := by
  go_enter Try.func19, Try.ntmps19
  go_wp2
  go_ret
  exact ⟨rfl, rfl⟩
theorem size_abs (n : Int) (h : R64 n) (w : World) :
    Calls Try.prog 19 #[.int .i64 n] w fun e w' => e = .returned (.int .u64 (n.natAbs : Int)) ∧ w' = w := by
  unfold R64 at h
  rcases Int.lt_or_le n 0 with hn | hn
  · rw [show (n.natAbs : Int) = -n by omega]
    exact size_neg n _ hn rfl (by rw [IntKind.wrap_u64, IntKind.wrap_u64]; omega) w
  · rw [show (n.natAbs : Int) = n by omega]
    exact size_pos n hn (by rw [IntKind.wrap_u64]; omega) w
theorem retb {b : Bool} (h : b = true) : Ending.returned (.bool b) = .returned (.bool true) := by rw [h]
set_option maxHeartbeats 4000000 in
set_option maxRecDepth 1000000 in
theorem div_zero32 (a : Int) (a0 b0 : Int) (HA : Hid (fitW false a0 = a)) (HB0 : Hid (fitW false b0 = 0)) (HW109 : Hid (∀ w, Calls Try.prog 12 #[.int .u8 109, .bool false] w fun e w' => e = .returned (.int .u8 109) ∧ w' = w)) (HW111 : Hid (∀ w, Calls Try.prog 12 #[.int .u8 111, .bool false] w fun e w' => e = .returned (.int .u8 111) ∧ w' = w)) (HQ : Hid (∀ w, Calls Try.prog 7 #[.int .u8 109, .int .i64 a, .int .i64 0] w fun e w' => e = .returned (.tuple #[.int .i64 0, .int .i64 21]) ∧ w' = w)) (HM : Hid (∀ w, Calls Try.prog 7 #[.int .u8 111, .int .i64 a, .int .i64 0] w fun e w' => e = .returned (.tuple #[.int .i64 0, .int .i64 21]) ∧ w' = w)) (w : World) :
    Calls Try.prog 6 #[.int .i64 a0, .int .i64 b0, .bool false] w fun e w' => e = .returned (.bool true) ∧ Below w.heap.size w w' := by
  have HFIT : Hid (Calls Try.prog 9 #[.bool false, .slice (some ⟨w.heap.size, 0, none⟩) 2 2] (w.alloc (.cells #[.int .i64 a0, .int .i64 b0] 2)) fun e w' => e = .returned (.slice (some ⟨w.heap.size, 0, none⟩) 2 2) ∧ (w'.cell? ⟨w.heap.size, 0, none⟩ = some (.int .i64 a) ∧ w'.cell? ⟨w.heap.size, 1, none⟩ = some (.int .i64 0)) ∧ Below w.heap.size w w') := by
    refine (fits_new false [a0, b0] _ 2 w.heap.size rfl (by omega) rfl w rfl).mono ?_
    rintro e w1 ⟨rfl, hcs, hb1⟩
    have c0 := hcs 0 (by omega)
    have c1 := hcs 1 (by omega)
    exact ⟨rfl, ⟨by rw [← HA.out]; exact c0, by rw [← HB0.out]; exact c1⟩, hb1⟩
  clear HA HB0
  go_enter Try.func6, Try.ntmps6
  go_wp2_with fail
  refine HFIT.out.mono ?_
  rintro e w1 ⟨rfl, ⟨hc0, hc1⟩, hbel⟩
  clear HFIT
  go_wp2_with fail
  go_quiet (fail)
  have HB : Hid (Below w.heap.size w (w1.drewN nq)) := below_drewN hbel _
  generalize w1.drewN nq = w2 at HB
  clear hc0 hc1 hbel
  go_wp2_with fail
  refine (HW109.out _).mono ?_
  rintro e w3 ⟨rfl, rfl⟩
  go_wp2_with fail
  refine (HQ.out _).mono ?_
  rintro e w4 ⟨rfl, rfl⟩
  go_wp2_with fail
  refine (HW111.out _).mono ?_
  rintro e w5 ⟨rfl, rfl⟩
  go_wp2_with fail
  refine (HM.out _).mono ?_
  rintro e w6 ⟨rfl, rfl⟩
  go_wp2
  go_ret
  exact ⟨rfl, HB.out⟩
set_option maxHeartbeats 4000000 in
set_option maxRecDepth 1000000 in
theorem div_over32 (a0 b0 : Int) (HA : Hid (fitW false a0 = (-2147483648))) (HB0 : Hid (fitW false b0 = (-1))) (HW109 : Hid (∀ w, Calls Try.prog 12 #[.int .u8 109, .bool false] w fun e w' => e = .returned (.int .u8 109) ∧ w' = w)) (HW111 : Hid (∀ w, Calls Try.prog 12 #[.int .u8 111, .bool false] w fun e w' => e = .returned (.int .u8 111) ∧ w' = w)) (HQ : Hid (∀ w, Calls Try.prog 7 #[.int .u8 109, .int .i64 (-2147483648), .int .i64 (-1)] w fun e w' => e = .returned (.tuple #[.int .i64 0, .int .i64 22]) ∧ w' = w)) (HM : Hid (∀ w, Calls Try.prog 7 #[.int .u8 111, .int .i64 (-2147483648), .int .i64 (-1)] w fun e w' => e = .returned (.tuple #[.int .i64 0, .int .i64 0]) ∧ w' = w)) (w : World) :
    Calls Try.prog 6 #[.int .i64 a0, .int .i64 b0, .bool false] w fun e w' => e = .returned (.bool true) ∧ Below w.heap.size w w' := by
  have HFIT : Hid (Calls Try.prog 9 #[.bool false, .slice (some ⟨w.heap.size, 0, none⟩) 2 2] (w.alloc (.cells #[.int .i64 a0, .int .i64 b0] 2)) fun e w' => e = .returned (.slice (some ⟨w.heap.size, 0, none⟩) 2 2) ∧ (w'.cell? ⟨w.heap.size, 0, none⟩ = some (.int .i64 (-2147483648)) ∧ w'.cell? ⟨w.heap.size, 1, none⟩ = some (.int .i64 (-1))) ∧ Below w.heap.size w w') := by
    refine (fits_new false [a0, b0] _ 2 w.heap.size rfl (by omega) rfl w rfl).mono ?_
    rintro e w1 ⟨rfl, hcs, hb1⟩
    have c0 := hcs 0 (by omega)
    have c1 := hcs 1 (by omega)
    exact ⟨rfl, ⟨by rw [← HA.out]; exact c0, by rw [← HB0.out]; exact c1⟩, hb1⟩
  clear HA HB0
  go_enter Try.func6, Try.ntmps6
  go_wp2_with fail
  refine HFIT.out.mono ?_
  rintro e w1 ⟨rfl, ⟨hc0, hc1⟩, hbel⟩
  clear HFIT
  go_wp2_with fail
  go_quiet (fail)
  have HB : Hid (Below w.heap.size w (w1.drewN nq)) := below_drewN hbel _
  generalize w1.drewN nq = w2 at HB
  clear hc0 hc1 hbel
  go_wp2_with fail
  refine (HW109.out _).mono ?_
  rintro e w3 ⟨rfl, rfl⟩
  go_wp2_with fail
  refine (HQ.out _).mono ?_
  rintro e w4 ⟨rfl, rfl⟩
  go_wp2_with fail
  refine (HW111.out _).mono ?_
  rintro e w5 ⟨rfl, rfl⟩
  go_wp2_with fail
  refine (HM.out _).mono ?_
  rintro e w6 ⟨rfl, rfl⟩
  go_wp2
  go_ret
  exact ⟨rfl, HB.out⟩
set_option maxHeartbeats 4000000 in
set_option maxRecDepth 1000000 in
theorem div_norm32_az (a b q m sr sb : Int) (a0 b0 : Int) (HA : Hid (fitW false a0 = a)) (HB0 : Hid (fitW false b0 = b)) (HW109 : Hid (∀ w, Calls Try.prog 12 #[.int .u8 109, .bool false] w fun e w' => e = .returned (.int .u8 109) ∧ w' = w)) (HW111 : Hid (∀ w, Calls Try.prog 12 #[.int .u8 111, .bool false] w fun e w' => e = .returned (.int .u8 111) ∧ w' = w)) (HQ : Hid (∀ w, Calls Try.prog 7 #[.int .u8 109, .int .i64 a, .int .i64 b] w fun e w' => e = .returned (.tuple #[.int .i64 q, .int .i64 0]) ∧ w' = w)) (HM : Hid (∀ w, Calls Try.prog 7 #[.int .u8 111, .int .i64 a, .int .i64 b] w fun e w' => e = .returned (.tuple #[.int .i64 0, .int .i64 0]) ∧ w' = w)) (HW106 : Hid (∀ w, Calls Try.prog 12 #[.int .u8 106, .bool false] w fun e w' => e = .returned (.int .u8 106) ∧ w' = w)) (HW108 : Hid (∀ w, Calls Try.prog 12 #[.int .u8 108, .bool false] w fun e w' => e = .returned (.int .u8 108) ∧ w' = w)) (HTm : Hid (∀ w, Calls Try.prog 11 #[.int .u8 108, .int .i64 q, .int .i64 b] w fun e w' => e = .returned (.int .i64 m) ∧ w' = w)) (HTa : Hid (∀ w, Calls Try.prog 11 #[.int .u8 106, .int .i64 m, .int .i64 0] w fun e w' => e = .returned (.int .i64 a) ∧ w' = w)) (HSr : Hid (∀ w, Calls Try.prog 19 #[.int .i64 0] w fun e w' => e = .returned (.int .u64 sr) ∧ w' = w)) (HSb : Hid (∀ w, Calls Try.prog 19 #[.int .i64 b] w fun e w' => e = .returned (.int .u64 sb) ∧ w' = w)) (_hlt : sr < sb) (_hb0 : (b == 0) = false) (_hn : (a == -2147483648) = false)  (w : World) :
    Calls Try.prog 6 #[.int .i64 a0, .int .i64 b0, .bool false] w fun e w' => e = .returned (.bool true) ∧ Below w.heap.size w w' := by
  have HFIT : Hid (Calls Try.prog 9 #[.bool false, .slice (some ⟨w.heap.size, 0, none⟩) 2 2] (w.alloc (.cells #[.int .i64 a0, .int .i64 b0] 2)) fun e w' => e = .returned (.slice (some ⟨w.heap.size, 0, none⟩) 2 2) ∧ (w'.cell? ⟨w.heap.size, 0, none⟩ = some (.int .i64 a) ∧ w'.cell? ⟨w.heap.size, 1, none⟩ = some (.int .i64 b)) ∧ Below w.heap.size w w') := by
    refine (fits_new false [a0, b0] _ 2 w.heap.size rfl (by omega) rfl w rfl).mono ?_
    rintro e w1 ⟨rfl, hcs, hb1⟩
    have c0 := hcs 0 (by omega)
    have c1 := hcs 1 (by omega)
    exact ⟨rfl, ⟨by rw [← HA.out]; exact c0, by rw [← HB0.out]; exact c1⟩, hb1⟩
  clear HA HB0
  go_enter Try.func6, Try.ntmps6
  go_wp2_with fail
  refine HFIT.out.mono ?_
  rintro e w1 ⟨rfl, ⟨hc0, hc1⟩, hbel⟩
  clear HFIT
  go_wp2_with fail
  go_quiet (fail)
  have HB : Hid (Below w.heap.size w (w1.drewN nq)) := below_drewN hbel _
  generalize w1.drewN nq = w2 at HB
  clear hc0 hc1 hbel
  go_wp2_with fail
  refine (HW109.out _).mono ?_
  rintro e w3 ⟨rfl, rfl⟩
  go_wp2_with fail
  refine (HQ.out _).mono ?_
  rintro e w4 ⟨rfl, rfl⟩
  go_wp2_with fail
  refine (HW111.out _).mono ?_
  rintro e w5 ⟨rfl, rfl⟩
  go_wp2_with fail
  refine (HM.out _).mono ?_
  rintro e w6 ⟨rfl, rfl⟩
  go_wp2_with fail
  refine (HW106.out _).mono ?_
  rintro e w7 ⟨rfl, rfl⟩
  go_wp2_with fail
  refine (HW108.out _).mono ?_
  rintro e w8 ⟨rfl, rfl⟩
  go_wp2_with fail
  refine (HTm.out _).mono ?_
  rintro e w9 ⟨rfl, rfl⟩
  go_wp2_with fail
  refine (HTa.out _).mono ?_
  rintro e w10 ⟨rfl, rfl⟩
  go_wp2_with fail
  refine (HSr.out _).mono ?_
  rintro e w11 ⟨rfl, rfl⟩
  go_wp2_with fail
  refine (HSb.out _).mono ?_
  rintro e w12 ⟨rfl, rfl⟩
  go_wp2
  go_ret
  exact ⟨rfl, HB.out⟩
set_option maxHeartbeats 4000000 in
set_option maxRecDepth 1000000 in
theorem div_norm32_an (a b q r m sr sb : Int) (a0 b0 : Int) (HA : Hid (fitW false a0 = a)) (HB0 : Hid (fitW false b0 = b)) (HW109 : Hid (∀ w, Calls Try.prog 12 #[.int .u8 109, .bool false] w fun e w' => e = .returned (.int .u8 109) ∧ w' = w)) (HW111 : Hid (∀ w, Calls Try.prog 12 #[.int .u8 111, .bool false] w fun e w' => e = .returned (.int .u8 111) ∧ w' = w)) (HQ : Hid (∀ w, Calls Try.prog 7 #[.int .u8 109, .int .i64 a, .int .i64 b] w fun e w' => e = .returned (.tuple #[.int .i64 q, .int .i64 0]) ∧ w' = w)) (HM : Hid (∀ w, Calls Try.prog 7 #[.int .u8 111, .int .i64 a, .int .i64 b] w fun e w' => e = .returned (.tuple #[.int .i64 r, .int .i64 0]) ∧ w' = w)) (HW106 : Hid (∀ w, Calls Try.prog 12 #[.int .u8 106, .bool false] w fun e w' => e = .returned (.int .u8 106) ∧ w' = w)) (HW108 : Hid (∀ w, Calls Try.prog 12 #[.int .u8 108, .bool false] w fun e w' => e = .returned (.int .u8 108) ∧ w' = w)) (HTm : Hid (∀ w, Calls Try.prog 11 #[.int .u8 108, .int .i64 q, .int .i64 b] w fun e w' => e = .returned (.int .i64 m) ∧ w' = w)) (HTa : Hid (∀ w, Calls Try.prog 11 #[.int .u8 106, .int .i64 m, .int .i64 r] w fun e w' => e = .returned (.int .i64 a) ∧ w' = w)) (HSr : Hid (∀ w, Calls Try.prog 19 #[.int .i64 r] w fun e w' => e = .returned (.int .u64 sr) ∧ w' = w)) (HSb : Hid (∀ w, Calls Try.prog 19 #[.int .i64 b] w fun e w' => e = .returned (.int .u64 sb) ∧ w' = w)) (_hlt : sr < sb) (_hb0 : (b == 0) = false) (_hn : (a == -2147483648) = false) (_hr0 : (r == 0) = false) (_hr : r < 0) (_ha : a < 0) (w : World) :
    Calls Try.prog 6 #[.int .i64 a0, .int .i64 b0, .bool false] w fun e w' => e = .returned (.bool true) ∧ Below w.heap.size w w' := by
  have HFIT : Hid (Calls Try.prog 9 #[.bool false, .slice (some ⟨w.heap.size, 0, none⟩) 2 2] (w.alloc (.cells #[.int .i64 a0, .int .i64 b0] 2)) fun e w' => e = .returned (.slice (some ⟨w.heap.size, 0, none⟩) 2 2) ∧ (w'.cell? ⟨w.heap.size, 0, none⟩ = some (.int .i64 a) ∧ w'.cell? ⟨w.heap.size, 1, none⟩ = some (.int .i64 b)) ∧ Below w.heap.size w w') := by
    refine (fits_new false [a0, b0] _ 2 w.heap.size rfl (by omega) rfl w rfl).mono ?_
    rintro e w1 ⟨rfl, hcs, hb1⟩
    have c0 := hcs 0 (by omega)
    have c1 := hcs 1 (by omega)
    exact ⟨rfl, ⟨by rw [← HA.out]; exact c0, by rw [← HB0.out]; exact c1⟩, hb1⟩
  clear HA HB0
  go_enter Try.func6, Try.ntmps6
  go_wp2_with fail
  refine HFIT.out.mono ?_
  rintro e w1 ⟨rfl, ⟨hc0, hc1⟩, hbel⟩
  clear HFIT
  go_wp2_with fail
  go_quiet (fail)
  have HB : Hid (Below w.heap.size w (w1.drewN nq)) := below_drewN hbel _
  generalize w1.drewN nq = w2 at HB
  clear hc0 hc1 hbel
  go_wp2_with fail
  refine (HW109.out _).mono ?_
  rintro e w3 ⟨rfl, rfl⟩
  go_wp2_with fail
  refine (HQ.out _).mono ?_
  rintro e w4 ⟨rfl, rfl⟩
  go_wp2_with fail
  refine (HW111.out _).mono ?_
  rintro e w5 ⟨rfl, rfl⟩
  go_wp2_with fail
  refine (HM.out _).mono ?_
  rintro e w6 ⟨rfl, rfl⟩
  go_wp2_with fail
  refine (HW106.out _).mono ?_
  rintro e w7 ⟨rfl, rfl⟩
  go_wp2_with fail
  refine (HW108.out _).mono ?_
  rintro e w8 ⟨rfl, rfl⟩
  go_wp2_with fail
  refine (HTm.out _).mono ?_
  rintro e w9 ⟨rfl, rfl⟩
  go_wp2_with fail
  refine (HTa.out _).mono ?_
  rintro e w10 ⟨rfl, rfl⟩
  go_wp2_with fail
  refine (HSr.out _).mono ?_
  rintro e w11 ⟨rfl, rfl⟩
  go_wp2_with fail
  refine (HSb.out _).mono ?_
  rintro e w12 ⟨rfl, rfl⟩
  go_wp2
  go_ret
  exact ⟨rfl, HB.out⟩
set_option maxHeartbeats 4000000 in
set_option maxRecDepth 1000000 in
theorem div_norm32_ap (a b q r m sr sb : Int) (a0 b0 : Int) (HA : Hid (fitW false a0 = a)) (HB0 : Hid (fitW false b0 = b)) (HW109 : Hid (∀ w, Calls Try.prog 12 #[.int .u8 109, .bool false] w fun e w' => e = .returned (.int .u8 109) ∧ w' = w)) (HW111 : Hid (∀ w, Calls Try.prog 12 #[.int .u8 111, .bool false] w fun e w' => e = .returned (.int .u8 111) ∧ w' = w)) (HQ : Hid (∀ w, Calls Try.prog 7 #[.int .u8 109, .int .i64 a, .int .i64 b] w fun e w' => e = .returned (.tuple #[.int .i64 q, .int .i64 0]) ∧ w' = w)) (HM : Hid (∀ w, Calls Try.prog 7 #[.int .u8 111, .int .i64 a, .int .i64 b] w fun e w' => e = .returned (.tuple #[.int .i64 r, .int .i64 0]) ∧ w' = w)) (HW106 : Hid (∀ w, Calls Try.prog 12 #[.int .u8 106, .bool false] w fun e w' => e = .returned (.int .u8 106) ∧ w' = w)) (HW108 : Hid (∀ w, Calls Try.prog 12 #[.int .u8 108, .bool false] w fun e w' => e = .returned (.int .u8 108) ∧ w' = w)) (HTm : Hid (∀ w, Calls Try.prog 11 #[.int .u8 108, .int .i64 q, .int .i64 b] w fun e w' => e = .returned (.int .i64 m) ∧ w' = w)) (HTa : Hid (∀ w, Calls Try.prog 11 #[.int .u8 106, .int .i64 m, .int .i64 r] w fun e w' => e = .returned (.int .i64 a) ∧ w' = w)) (HSr : Hid (∀ w, Calls Try.prog 19 #[.int .i64 r] w fun e w' => e = .returned (.int .u64 sr) ∧ w' = w)) (HSb : Hid (∀ w, Calls Try.prog 19 #[.int .i64 b] w fun e w' => e = .returned (.int .u64 sb) ∧ w' = w)) (_hlt : sr < sb) (_hb0 : (b == 0) = false) (_hn : (a == -2147483648) = false) (_hr0 : (r == 0) = false) (_hr : 0 < r) (_ha : 0 ≤ a) (w : World) :
    Calls Try.prog 6 #[.int .i64 a0, .int .i64 b0, .bool false] w fun e w' => e = .returned (.bool true) ∧ Below w.heap.size w w' := by
  have HFIT : Hid (Calls Try.prog 9 #[.bool false, .slice (some ⟨w.heap.size, 0, none⟩) 2 2] (w.alloc (.cells #[.int .i64 a0, .int .i64 b0] 2)) fun e w' => e = .returned (.slice (some ⟨w.heap.size, 0, none⟩) 2 2) ∧ (w'.cell? ⟨w.heap.size, 0, none⟩ = some (.int .i64 a) ∧ w'.cell? ⟨w.heap.size, 1, none⟩ = some (.int .i64 b)) ∧ Below w.heap.size w w') := by
    refine (fits_new false [a0, b0] _ 2 w.heap.size rfl (by omega) rfl w rfl).mono ?_
    rintro e w1 ⟨rfl, hcs, hb1⟩
    have c0 := hcs 0 (by omega)
    have c1 := hcs 1 (by omega)
    exact ⟨rfl, ⟨by rw [← HA.out]; exact c0, by rw [← HB0.out]; exact c1⟩, hb1⟩
  clear HA HB0
  go_enter Try.func6, Try.ntmps6
  go_wp2_with fail
  refine HFIT.out.mono ?_
  rintro e w1 ⟨rfl, ⟨hc0, hc1⟩, hbel⟩
  clear HFIT
  go_wp2_with fail
  go_quiet (fail)
  have HB : Hid (Below w.heap.size w (w1.drewN nq)) := below_drewN hbel _
  generalize w1.drewN nq = w2 at HB
  clear hc0 hc1 hbel
  go_wp2_with fail
  refine (HW109.out _).mono ?_
  rintro e w3 ⟨rfl, rfl⟩
  go_wp2_with fail
  refine (HQ.out _).mono ?_
  rintro e w4 ⟨rfl, rfl⟩
  go_wp2_with fail
  refine (HW111.out _).mono ?_
  rintro e w5 ⟨rfl, rfl⟩
  go_wp2_with fail
  refine (HM.out _).mono ?_
  rintro e w6 ⟨rfl, rfl⟩
  go_wp2_with fail
  refine (HW106.out _).mono ?_
  rintro e w7 ⟨rfl, rfl⟩
  go_wp2_with fail
  refine (HW108.out _).mono ?_
  rintro e w8 ⟨rfl, rfl⟩
  go_wp2_with fail
  refine (HTm.out _).mono ?_
  rintro e w9 ⟨rfl, rfl⟩
  go_wp2_with fail
  refine (HTa.out _).mono ?_
  rintro e w10 ⟨rfl, rfl⟩
  go_wp2_with fail
  refine (HSr.out _).mono ?_
  rintro e w11 ⟨rfl, rfl⟩
  go_wp2_with fail
  refine (HSb.out _).mono ?_
  rintro e w12 ⟨rfl, rfl⟩
  go_wp2
  go_ret
  exact ⟨retb (by rw [decide_eq_false (show ¬ r < 0 by omega), decide_eq_false (show ¬ a < 0 by omega)]; rfl), HB.out⟩
set_option maxHeartbeats 4000000 in
set_option maxRecDepth 1000000 in
theorem div_norm32_bz (a b q m sr sb : Int) (a0 b0 : Int) (HA : Hid (fitW false a0 = a)) (HB0 : Hid (fitW false b0 = b)) (HW109 : Hid (∀ w, Calls Try.prog 12 #[.int .u8 109, .bool false] w fun e w' => e = .returned (.int .u8 109) ∧ w' = w)) (HW111 : Hid (∀ w, Calls Try.prog 12 #[.int .u8 111, .bool false] w fun e w' => e = .returned (.int .u8 111) ∧ w' = w)) (HQ : Hid (∀ w, Calls Try.prog 7 #[.int .u8 109, .int .i64 a, .int .i64 b] w fun e w' => e = .returned (.tuple #[.int .i64 q, .int .i64 0]) ∧ w' = w)) (HM : Hid (∀ w, Calls Try.prog 7 #[.int .u8 111, .int .i64 a, .int .i64 b] w fun e w' => e = .returned (.tuple #[.int .i64 0, .int .i64 0]) ∧ w' = w)) (HW106 : Hid (∀ w, Calls Try.prog 12 #[.int .u8 106, .bool false] w fun e w' => e = .returned (.int .u8 106) ∧ w' = w)) (HW108 : Hid (∀ w, Calls Try.prog 12 #[.int .u8 108, .bool false] w fun e w' => e = .returned (.int .u8 108) ∧ w' = w)) (HTm : Hid (∀ w, Calls Try.prog 11 #[.int .u8 108, .int .i64 q, .int .i64 b] w fun e w' => e = .returned (.int .i64 m) ∧ w' = w)) (HTa : Hid (∀ w, Calls Try.prog 11 #[.int .u8 106, .int .i64 m, .int .i64 0] w fun e w' => e = .returned (.int .i64 a) ∧ w' = w)) (HSr : Hid (∀ w, Calls Try.prog 19 #[.int .i64 0] w fun e w' => e = .returned (.int .u64 sr) ∧ w' = w)) (HSb : Hid (∀ w, Calls Try.prog 19 #[.int .i64 b] w fun e w' => e = .returned (.int .u64 sb) ∧ w' = w)) (_hlt : sr < sb) (_hb0 : (b == 0) = false) (_hn : (a == -2147483648) = true) (_hn2 : (b == -1) = false)  (w : World) :
    Calls Try.prog 6 #[.int .i64 a0, .int .i64 b0, .bool false] w fun e w' => e = .returned (.bool true) ∧ Below w.heap.size w w' := by
  have HFIT : Hid (Calls Try.prog 9 #[.bool false, .slice (some ⟨w.heap.size, 0, none⟩) 2 2] (w.alloc (.cells #[.int .i64 a0, .int .i64 b0] 2)) fun e w' => e = .returned (.slice (some ⟨w.heap.size, 0, none⟩) 2 2) ∧ (w'.cell? ⟨w.heap.size, 0, none⟩ = some (.int .i64 a) ∧ w'.cell? ⟨w.heap.size, 1, none⟩ = some (.int .i64 b)) ∧ Below w.heap.size w w') := by
    refine (fits_new false [a0, b0] _ 2 w.heap.size rfl (by omega) rfl w rfl).mono ?_
    rintro e w1 ⟨rfl, hcs, hb1⟩
    have c0 := hcs 0 (by omega)
    have c1 := hcs 1 (by omega)
    exact ⟨rfl, ⟨by rw [← HA.out]; exact c0, by rw [← HB0.out]; exact c1⟩, hb1⟩
  clear HA HB0
  go_enter Try.func6, Try.ntmps6
  go_wp2_with fail
  refine HFIT.out.mono ?_
  rintro e w1 ⟨rfl, ⟨hc0, hc1⟩, hbel⟩
  clear HFIT
  go_wp2_with fail
  go_quiet (fail)
  have HB : Hid (Below w.heap.size w (w1.drewN nq)) := below_drewN hbel _
  generalize w1.drewN nq = w2 at HB
  clear hc0 hc1 hbel
  go_wp2_with fail
  refine (HW109.out _).mono ?_
  rintro e w3 ⟨rfl, rfl⟩
  go_wp2_with fail
  refine (HQ.out _).mono ?_
  rintro e w4 ⟨rfl, rfl⟩
  go_wp2_with fail
  refine (HW111.out _).mono ?_
  rintro e w5 ⟨rfl, rfl⟩
  go_wp2_with fail
  refine (HM.out _).mono ?_
  rintro e w6 ⟨rfl, rfl⟩
  go_wp2_with fail
  refine (HW106.out _).mono ?_
  rintro e w7 ⟨rfl, rfl⟩
  go_wp2_with fail
  refine (HW108.out _).mono ?_
  rintro e w8 ⟨rfl, rfl⟩
  go_wp2_with fail
  refine (HTm.out _).mono ?_
  rintro e w9 ⟨rfl, rfl⟩
  go_wp2_with fail
  refine (HTa.out _).mono ?_
  rintro e w10 ⟨rfl, rfl⟩
  go_wp2_with fail
  refine (HSr.out _).mono ?_
  rintro e w11 ⟨rfl, rfl⟩
  go_wp2_with fail
  refine (HSb.out _).mono ?_
  rintro e w12 ⟨rfl, rfl⟩
  go_wp2
  go_ret
  exact ⟨rfl, HB.out⟩
set_option maxHeartbeats 4000000 in
set_option maxRecDepth 1000000 in
theorem div_norm32_bn (a b q r m sr sb : Int) (a0 b0 : Int) (HA : Hid (fitW false a0 = a)) (HB0 : Hid (fitW false b0 = b)) (HW109 : Hid (∀ w, Calls Try.prog 12 #[.int .u8 109, .bool false] w fun e w' => e = .returned (.int .u8 109) ∧ w' = w)) (HW111 : Hid (∀ w, Calls Try.prog 12 #[.int .u8 111, .bool false] w fun e w' => e = .returned (.int .u8 111) ∧ w' = w)) (HQ : Hid (∀ w, Calls Try.prog 7 #[.int .u8 109, .int .i64 a, .int .i64 b] w fun e w' => e = .returned (.tuple #[.int .i64 q, .int .i64 0]) ∧ w' = w)) (HM : Hid (∀ w, Calls Try.prog 7 #[.int .u8 111, .int .i64 a, .int .i64 b] w fun e w' => e = .returned (.tuple #[.int .i64 r, .int .i64 0]) ∧ w' = w)) (HW106 : Hid (∀ w, Calls Try.prog 12 #[.int .u8 106, .bool false] w fun e w' => e = .returned (.int .u8 106) ∧ w' = w)) (HW108 : Hid (∀ w, Calls Try.prog 12 #[.int .u8 108, .bool false] w fun e w' => e = .returned (.int .u8 108) ∧ w' = w)) (HTm : Hid (∀ w, Calls Try.prog 11 #[.int .u8 108, .int .i64 q, .int .i64 b] w fun e w' => e = .returned (.int .i64 m) ∧ w' = w)) (HTa : Hid (∀ w, Calls Try.prog 11 #[.int .u8 106, .int .i64 m, .int .i64 r] w fun e w' => e = .returned (.int .i64 a) ∧ w' = w)) (HSr : Hid (∀ w, Calls Try.prog 19 #[.int .i64 r] w fun e w' => e = .returned (.int .u64 sr) ∧ w' = w)) (HSb : Hid (∀ w, Calls Try.prog 19 #[.int .i64 b] w fun e w' => e = .returned (.int .u64 sb) ∧ w' = w)) (_hlt : sr < sb) (_hb0 : (b == 0) = false) (_hn : (a == -2147483648) = true) (_hn2 : (b == -1) = false) (_hr0 : (r == 0) = false) (_hr : r < 0) (_ha : a < 0) (w : World) :
    Calls Try.prog 6 #[.int .i64 a0, .int .i64 b0, .bool false] w fun e w' => e = .returned (.bool true) ∧ Below w.heap.size w w' := by
  have HFIT : Hid (Calls Try.prog 9 #[.bool false, .slice (some ⟨w.heap.size, 0, none⟩) 2 2] (w.alloc (.cells #[.int .i64 a0, .int .i64 b0] 2)) fun e w' => e = .returned (.slice (some ⟨w.heap.size, 0, none⟩) 2 2) ∧ (w'.cell? ⟨w.heap.size, 0, none⟩ = some (.int .i64 a) ∧ w'.cell? ⟨w.heap.size, 1, none⟩ = some (.int .i64 b)) ∧ Below w.heap.size w w') := by
    refine (fits_new false [a0, b0] _ 2 w.heap.size rfl (by omega) rfl w rfl).mono ?_
    rintro e w1 ⟨rfl, hcs, hb1⟩
    have c0 := hcs 0 (by omega)
    have c1 := hcs 1 (by omega)
    exact ⟨rfl, ⟨by rw [← HA.out]; exact c0, by rw [← HB0.out]; exact c1⟩, hb1⟩
  clear HA HB0
  go_enter Try.func6, Try.ntmps6
  go_wp2_with fail
  refine HFIT.out.mono ?_
  rintro e w1 ⟨rfl, ⟨hc0, hc1⟩, hbel⟩
  clear HFIT
  go_wp2_with fail
  go_quiet (fail)
  have HB : Hid (Below w.heap.size w (w1.drewN nq)) := below_drewN hbel _
  generalize w1.drewN nq = w2 at HB
  clear hc0 hc1 hbel
  go_wp2_with fail
  refine (HW109.out _).mono ?_
  rintro e w3 ⟨rfl, rfl⟩
  go_wp2_with fail
  refine (HQ.out _).mono ?_
  rintro e w4 ⟨rfl, rfl⟩
  go_wp2_with fail
  refine (HW111.out _).mono ?_
  rintro e w5 ⟨rfl, rfl⟩
  go_wp2_with fail
  refine (HM.out _).mono ?_
  rintro e w6 ⟨rfl, rfl⟩
  go_wp2_with fail
  refine (HW106.out _).mono ?_
  rintro e w7 ⟨rfl, rfl⟩
  go_wp2_with fail
  refine (HW108.out _).mono ?_
  rintro e w8 ⟨rfl, rfl⟩
  go_wp2_with fail
  refine (HTm.out _).mono ?_
  rintro e w9 ⟨rfl, rfl⟩
  go_wp2_with fail
  refine (HTa.out _).mono ?_
  rintro e w10 ⟨rfl, rfl⟩
  go_wp2_with fail
  refine (HSr.out _).mono ?_
  rintro e w11 ⟨rfl, rfl⟩
  go_wp2_with fail
  refine (HSb.out _).mono ?_
  rintro e w12 ⟨rfl, rfl⟩
  go_wp2
  go_ret
  exact ⟨rfl, HB.out⟩
set_option maxHeartbeats 4000000 in
set_option maxRecDepth 1000000 in
theorem div_norm32_bp (a b q r m sr sb : Int) (a0 b0 : Int) (HA : Hid (fitW false a0 = a)) (HB0 : Hid (fitW false b0 = b)) (HW109 : Hid (∀ w, Calls Try.prog 12 #[.int .u8 109, .bool false] w fun e w' => e = .returned (.int .u8 109) ∧ w' = w)) (HW111 : Hid (∀ w, Calls Try.prog 12 #[.int .u8 111, .bool false] w fun e w' => e = .returned (.int .u8 111) ∧ w' = w)) (HQ : Hid (∀ w, Calls Try.prog 7 #[.int .u8 109, .int .i64 a, .int .i64 b] w fun e w' => e = .returned (.tuple #[.int .i64 q, .int .i64 0]) ∧ w' = w)) (HM : Hid (∀ w, Calls Try.prog 7 #[.int .u8 111, .int .i64 a, .int .i64 b] w fun e w' => e = .returned (.tuple #[.int .i64 r, .int .i64 0]) ∧ w' = w)) (HW106 : Hid (∀ w, Calls Try.prog 12 #[.int .u8 106, .bool false] w fun e w' => e = .returned (.int .u8 106) ∧ w' = w)) (HW108 : Hid (∀ w, Calls Try.prog 12 #[.int .u8 108, .bool false] w fun e w' => e = .returned (.int .u8 108) ∧ w' = w)) (HTm : Hid (∀ w, Calls Try.prog 11 #[.int .u8 108, .int .i64 q, .int .i64 b] w fun e w' => e = .returned (.int .i64 m) ∧ w' = w)) (HTa : Hid (∀ w, Calls Try.prog 11 #[.int .u8 106, .int .i64 m, .int .i64 r] w fun e w' => e = .returned (.int .i64 a) ∧ w' = w)) (HSr : Hid (∀ w, Calls Try.prog 19 #[.int .i64 r] w fun e w' => e = .returned (.int .u64 sr) ∧ w' = w)) (HSb : Hid (∀ w, Calls Try.prog 19 #[.int .i64 b] w fun e w' => e = .returned (.int .u64 sb) ∧ w' = w)) (_hlt : sr < sb) (_hb0 : (b == 0) = false) (_hn : (a == -2147483648) = true) (_hn2 : (b == -1) = false) (_hr0 : (r == 0) = false) (_hr : 0 < r) (_ha : 0 ≤ a) (w : World) :
    Calls Try.prog 6 #[.int .i64 a0, .int .i64 b0, .bool false] w fun e w' => e = .returned (.bool true) ∧ Below w.heap.size w w' := by
  have HFIT : Hid (Calls Try.prog 9 #[.bool false, .slice (some ⟨w.heap.size, 0, none⟩) 2 2] (w.alloc (.cells #[.int .i64 a0, .int .i64 b0] 2)) fun e w' => e = .returned (.slice (some ⟨w.heap.size, 0, none⟩) 2 2) ∧ (w'.cell? ⟨w.heap.size, 0, none⟩ = some (.int .i64 a) ∧ w'.cell? ⟨w.heap.size, 1, none⟩ = some (.int .i64 b)) ∧ Below w.heap.size w w') := by
    refine (fits_new false [a0, b0] _ 2 w.heap.size rfl (by omega) rfl w rfl).mono ?_
    rintro e w1 ⟨rfl, hcs, hb1⟩
    have c0 := hcs 0 (by omega)
    have c1 := hcs 1 (by omega)
    exact ⟨rfl, ⟨by rw [← HA.out]; exact c0, by rw [← HB0.out]; exact c1⟩, hb1⟩
  clear HA HB0
  go_enter Try.func6, Try.ntmps6
  go_wp2_with fail
  refine HFIT.out.mono ?_
  rintro e w1 ⟨rfl, ⟨hc0, hc1⟩, hbel⟩
  clear HFIT
  go_wp2_with fail
  go_quiet (fail)
  have HB : Hid (Below w.heap.size w (w1.drewN nq)) := below_drewN hbel _
  generalize w1.drewN nq = w2 at HB
  clear hc0 hc1 hbel
  go_wp2_with fail
  refine (HW109.out _).mono ?_
  rintro e w3 ⟨rfl, rfl⟩
  go_wp2_with fail
  refine (HQ.out _).mono ?_
  rintro e w4 ⟨rfl, rfl⟩
  go_wp2_with fail
  refine (HW111.out _).mono ?_
  rintro e w5 ⟨rfl, rfl⟩
  go_wp2_with fail
  refine (HM.out _).mono ?_
  rintro e w6 ⟨rfl, rfl⟩
  go_wp2_with fail
  refine (HW106.out _).mono ?_
  rintro e w7 ⟨rfl, rfl⟩
  go_wp2_with fail
  refine (HW108.out _).mono ?_
  rintro e w8 ⟨rfl, rfl⟩
  go_wp2_with fail
  refine (HTm.out _).mono ?_
  rintro e w9 ⟨rfl, rfl⟩
  go_wp2_with fail
  refine (HTa.out _).mono ?_
  rintro e w10 ⟨rfl, rfl⟩
  go_wp2_with fail
  refine (HSr.out _).mono ?_
  rintro e w11 ⟨rfl, rfl⟩
  go_wp2_with fail
  refine (HSb.out _).mono ?_
  rintro e w12 ⟨rfl, rfl⟩
  go_wp2
  go_ret
  exact ⟨retb (by rw [decide_eq_false (show ¬ r < 0 by omega), decide_eq_false (show ¬ a < 0 by omega)]; rfl), HB.out⟩
set_option maxHeartbeats 4000000 in
set_option maxRecDepth 1000000 in
theorem div_zero64 (a : Int) (a0 b0 : Int) (HA : Hid (fitW true a0 = a)) (HB0 : Hid (fitW true b0 = 0)) (HW109 : Hid (∀ w, Calls Try.prog 12 #[.int .u8 109, .bool true] w fun e w' => e = .returned (.int .u8 127) ∧ w' = w)) (HW111 : Hid (∀ w, Calls Try.prog 12 #[.int .u8 111, .bool true] w fun e w' => e = .returned (.int .u8 129) ∧ w' = w)) (HQ : Hid (∀ w, Calls Try.prog 7 #[.int .u8 127, .int .i64 a, .int .i64 0] w fun e w' => e = .returned (.tuple #[.int .i64 0, .int .i64 21]) ∧ w' = w)) (HM : Hid (∀ w, Calls Try.prog 7 #[.int .u8 129, .int .i64 a, .int .i64 0] w fun e w' => e = .returned (.tuple #[.int .i64 0, .int .i64 21]) ∧ w' = w)) (w : World) :
    Calls Try.prog 6 #[.int .i64 a0, .int .i64 b0, .bool true] w fun e w' => e = .returned (.bool true) ∧ Below w.heap.size w w' := by
  have HFIT : Hid (Calls Try.prog 9 #[.bool true, .slice (some ⟨w.heap.size, 0, none⟩) 2 2] (w.alloc (.cells #[.int .i64 a0, .int .i64 b0] 2)) fun e w' => e = .returned (.slice (some ⟨w.heap.size, 0, none⟩) 2 2) ∧ (w'.cell? ⟨w.heap.size, 0, none⟩ = some (.int .i64 a) ∧ w'.cell? ⟨w.heap.size, 1, none⟩ = some (.int .i64 0)) ∧ Below w.heap.size w w') := by
    refine (fits_new true [a0, b0] _ 2 w.heap.size rfl (by omega) rfl w rfl).mono ?_
    rintro e w1 ⟨rfl, hcs, hb1⟩
    have c0 := hcs 0 (by omega)
    have c1 := hcs 1 (by omega)
    exact ⟨rfl, ⟨by rw [← HA.out]; exact c0, by rw [← HB0.out]; exact c1⟩, hb1⟩
  clear HA HB0
  go_enter Try.func6, Try.ntmps6
  go_wp2_with fail
  refine HFIT.out.mono ?_
  rintro e w1 ⟨rfl, ⟨hc0, hc1⟩, hbel⟩
  clear HFIT
  go_wp2_with fail
  go_quiet (fail)
  have HB : Hid (Below w.heap.size w (w1.drewN nq)) := below_drewN hbel _
  generalize w1.drewN nq = w2 at HB
  clear hc0 hc1 hbel
  go_wp2_with fail
  refine (HW109.out _).mono ?_
  rintro e w3 ⟨rfl, rfl⟩
  go_wp2_with fail
  refine (HQ.out _).mono ?_
  rintro e w4 ⟨rfl, rfl⟩
  go_wp2_with fail
  refine (HW111.out _).mono ?_
  rintro e w5 ⟨rfl, rfl⟩
  go_wp2_with fail
  refine (HM.out _).mono ?_
  rintro e w6 ⟨rfl, rfl⟩
  go_wp2
  go_ret
  exact ⟨rfl, HB.out⟩
set_option maxHeartbeats 4000000 in
set_option maxRecDepth 1000000 in
theorem div_over64 (a0 b0 : Int) (HA : Hid (fitW true a0 = (-9223372036854775808))) (HB0 : Hid (fitW true b0 = (-1))) (HW109 : Hid (∀ w, Calls Try.prog 12 #[.int .u8 109, .bool true] w fun e w' => e = .returned (.int .u8 127) ∧ w' = w)) (HW111 : Hid (∀ w, Calls Try.prog 12 #[.int .u8 111, .bool true] w fun e w' => e = .returned (.int .u8 129) ∧ w' = w)) (HQ : Hid (∀ w, Calls Try.prog 7 #[.int .u8 127, .int .i64 (-9223372036854775808), .int .i64 (-1)] w fun e w' => e = .returned (.tuple #[.int .i64 0, .int .i64 22]) ∧ w' = w)) (HM : Hid (∀ w, Calls Try.prog 7 #[.int .u8 129, .int .i64 (-9223372036854775808), .int .i64 (-1)] w fun e w' => e = .returned (.tuple #[.int .i64 0, .int .i64 0]) ∧ w' = w)) (w : World) :
    Calls Try.prog 6 #[.int .i64 a0, .int .i64 b0, .bool true] w fun e w' => e = .returned (.bool true) ∧ Below w.heap.size w w' := by
  have HFIT : Hid (Calls Try.prog 9 #[.bool true, .slice (some ⟨w.heap.size, 0, none⟩) 2 2] (w.alloc (.cells #[.int .i64 a0, .int .i64 b0] 2)) fun e w' => e = .returned (.slice (some ⟨w.heap.size, 0, none⟩) 2 2) ∧ (w'.cell? ⟨w.heap.size, 0, none⟩ = some (.int .i64 (-9223372036854775808)) ∧ w'.cell? ⟨w.heap.size, 1, none⟩ = some (.int .i64 (-1))) ∧ Below w.heap.size w w') := by
    refine (fits_new true [a0, b0] _ 2 w.heap.size rfl (by omega) rfl w rfl).mono ?_
    rintro e w1 ⟨rfl, hcs, hb1⟩
    have c0 := hcs 0 (by omega)
    have c1 := hcs 1 (by omega)
    exact ⟨rfl, ⟨by rw [← HA.out]; exact c0, by rw [← HB0.out]; exact c1⟩, hb1⟩
  clear HA HB0
  go_enter Try.func6, Try.ntmps6
  go_wp2_with fail
  refine HFIT.out.mono ?_
  rintro e w1 ⟨rfl, ⟨hc0, hc1⟩, hbel⟩
  clear HFIT
  go_wp2_with fail
  go_quiet (fail)
  have HB : Hid (Below w.heap.size w (w1.drewN nq)) := below_drewN hbel _
  generalize w1.drewN nq = w2 at HB
  clear hc0 hc1 hbel
  go_wp2_with fail
  refine (HW109.out _).mono ?_
  rintro e w3 ⟨rfl, rfl⟩
  go_wp2_with fail
  refine (HQ.out _).mono ?_
  rintro e w4 ⟨rfl, rfl⟩
  go_wp2_with fail
  refine (HW111.out _).mono ?_
  rintro e w5 ⟨rfl, rfl⟩
  go_wp2_with fail
  refine (HM.out _).mono ?_
  rintro e w6 ⟨rfl, rfl⟩
  go_wp2
  go_ret
  exact ⟨rfl, HB.out⟩
set_option maxHeartbeats 4000000 in
set_option maxRecDepth 1000000 in
theorem div_norm64_az (a b q m sr sb : Int) (a0 b0 : Int) (HA : Hid (fitW true a0 = a)) (HB0 : Hid (fitW true b0 = b)) (HW109 : Hid (∀ w, Calls Try.prog 12 #[.int .u8 109, .bool true] w fun e w' => e = .returned (.int .u8 127) ∧ w' = w)) (HW111 : Hid (∀ w, Calls Try.prog 12 #[.int .u8 111, .bool true] w fun e w' => e = .returned (.int .u8 129) ∧ w' = w)) (HQ : Hid (∀ w, Calls Try.prog 7 #[.int .u8 127, .int .i64 a, .int .i64 b] w fun e w' => e = .returned (.tuple #[.int .i64 q, .int .i64 0]) ∧ w' = w)) (HM : Hid (∀ w, Calls Try.prog 7 #[.int .u8 129, .int .i64 a, .int .i64 b] w fun e w' => e = .returned (.tuple #[.int .i64 0, .int .i64 0]) ∧ w' = w)) (HW106 : Hid (∀ w, Calls Try.prog 12 #[.int .u8 106, .bool true] w fun e w' => e = .returned (.int .u8 124) ∧ w' = w)) (HW108 : Hid (∀ w, Calls Try.prog 12 #[.int .u8 108, .bool true] w fun e w' => e = .returned (.int .u8 126) ∧ w' = w)) (HTm : Hid (∀ w, Calls Try.prog 11 #[.int .u8 126, .int .i64 q, .int .i64 b] w fun e w' => e = .returned (.int .i64 m) ∧ w' = w)) (HTa : Hid (∀ w, Calls Try.prog 11 #[.int .u8 124, .int .i64 m, .int .i64 0] w fun e w' => e = .returned (.int .i64 a) ∧ w' = w)) (HSr : Hid (∀ w, Calls Try.prog 19 #[.int .i64 0] w fun e w' => e = .returned (.int .u64 sr) ∧ w' = w)) (HSb : Hid (∀ w, Calls Try.prog 19 #[.int .i64 b] w fun e w' => e = .returned (.int .u64 sb) ∧ w' = w)) (_hlt : sr < sb) (_hb0 : (b == 0) = false) (_hn : (a == -9223372036854775808) = false)  (w : World) :
    Calls Try.prog 6 #[.int .i64 a0, .int .i64 b0, .bool true] w fun e w' => e = .returned (.bool true) ∧ Below w.heap.size w w' := by
  have HFIT : Hid (Calls Try.prog 9 #[.bool true, .slice (some ⟨w.heap.size, 0, none⟩) 2 2] (w.alloc (.cells #[.int .i64 a0, .int .i64 b0] 2)) fun e w' => e = .returned (.slice (some ⟨w.heap.size, 0, none⟩) 2 2) ∧ (w'.cell? ⟨w.heap.size, 0, none⟩ = some (.int .i64 a) ∧ w'.cell? ⟨w.heap.size, 1, none⟩ = some (.int .i64 b)) ∧ Below w.heap.size w w') := by
    refine (fits_new true [a0, b0] _ 2 w.heap.size rfl (by omega) rfl w rfl).mono ?_
    rintro e w1 ⟨rfl, hcs, hb1⟩
    have c0 := hcs 0 (by omega)
    have c1 := hcs 1 (by omega)
    exact ⟨rfl, ⟨by rw [← HA.out]; exact c0, by rw [← HB0.out]; exact c1⟩, hb1⟩
  clear HA HB0
  go_enter Try.func6, Try.ntmps6
  go_wp2_with fail
  refine HFIT.out.mono ?_
  rintro e w1 ⟨rfl, ⟨hc0, hc1⟩, hbel⟩
  clear HFIT
  go_wp2_with fail
  go_quiet (fail)
  have HB : Hid (Below w.heap.size w (w1.drewN nq)) := below_drewN hbel _
  generalize w1.drewN nq = w2 at HB
  clear hc0 hc1 hbel
  go_wp2_with fail
  refine (HW109.out _).mono ?_
  rintro e w3 ⟨rfl, rfl⟩
  go_wp2_with fail
  refine (HQ.out _).mono ?_
  rintro e w4 ⟨rfl, rfl⟩
  go_wp2_with fail
  refine (HW111.out _).mono ?_
  rintro e w5 ⟨rfl, rfl⟩
  go_wp2_with fail
  refine (HM.out _).mono ?_
  rintro e w6 ⟨rfl, rfl⟩
  go_wp2_with fail
  refine (HW106.out _).mono ?_
  rintro e w7 ⟨rfl, rfl⟩
  go_wp2_with fail
  refine (HW108.out _).mono ?_
  rintro e w8 ⟨rfl, rfl⟩
  go_wp2_with fail
  refine (HTm.out _).mono ?_
  rintro e w9 ⟨rfl, rfl⟩
  go_wp2_with fail
  refine (HTa.out _).mono ?_
  rintro e w10 ⟨rfl, rfl⟩
  go_wp2_with fail
  refine (HSr.out _).mono ?_
  rintro e w11 ⟨rfl, rfl⟩
  go_wp2_with fail
  refine (HSb.out _).mono ?_
  rintro e w12 ⟨rfl, rfl⟩
  go_wp2
  go_ret
  exact ⟨rfl, HB.out⟩
set_option maxHeartbeats 4000000 in
set_option maxRecDepth 1000000 in
theorem div_norm64_an (a b q r m sr sb : Int) (a0 b0 : Int) (HA : Hid (fitW true a0 = a)) (HB0 : Hid (fitW true b0 = b)) (HW109 : Hid (∀ w, Calls Try.prog 12 #[.int .u8 109, .bool true] w fun e w' => e = .returned (.int .u8 127) ∧ w' = w)) (HW111 : Hid (∀ w, Calls Try.prog 12 #[.int .u8 111, .bool true] w fun e w' => e = .returned (.int .u8 129) ∧ w' = w)) (HQ : Hid (∀ w, Calls Try.prog 7 #[.int .u8 127, .int .i64 a, .int .i64 b] w fun e w' => e = .returned (.tuple #[.int .i64 q, .int .i64 0]) ∧ w' = w)) (HM : Hid (∀ w, Calls Try.prog 7 #[.int .u8 129, .int .i64 a, .int .i64 b] w fun e w' => e = .returned (.tuple #[.int .i64 r, .int .i64 0]) ∧ w' = w)) (HW106 : Hid (∀ w, Calls Try.prog 12 #[.int .u8 106, .bool true] w fun e w' => e = .returned (.int .u8 124) ∧ w' = w)) (HW108 : Hid (∀ w, Calls Try.prog 12 #[.int .u8 108, .bool true] w fun e w' => e = .returned (.int .u8 126) ∧ w' = w)) (HTm : Hid (∀ w, Calls Try.prog 11 #[.int .u8 126, .int .i64 q, .int .i64 b] w fun e w' => e = .returned (.int .i64 m) ∧ w' = w)) (HTa : Hid (∀ w, Calls Try.prog 11 #[.int .u8 124, .int .i64 m, .int .i64 r] w fun e w' => e = .returned (.int .i64 a) ∧ w' = w)) (HSr : Hid (∀ w, Calls Try.prog 19 #[.int .i64 r] w fun e w' => e = .returned (.int .u64 sr) ∧ w' = w)) (HSb : Hid (∀ w, Calls Try.prog 19 #[.int .i64 b] w fun e w' => e = .returned (.int .u64 sb) ∧ w' = w)) (_hlt : sr < sb) (_hb0 : (b == 0) = false) (_hn : (a == -9223372036854775808) = false) (_hr0 : (r == 0) = false) (_hr : r < 0) (_ha : a < 0) (w : World) :
    Calls Try.prog 6 #[.int .i64 a0, .int .i64 b0, .bool true] w fun e w' => e = .returned (.bool true) ∧ Below w.heap.size w w' := by
  have HFIT : Hid (Calls Try.prog 9 #[.bool true, .slice (some ⟨w.heap.size, 0, none⟩) 2 2] (w.alloc (.cells #[.int .i64 a0, .int .i64 b0] 2)) fun e w' => e = .returned (.slice (some ⟨w.heap.size, 0, none⟩) 2 2) ∧ (w'.cell? ⟨w.heap.size, 0, none⟩ = some (.int .i64 a) ∧ w'.cell? ⟨w.heap.size, 1, none⟩ = some (.int .i64 b)) ∧ Below w.heap.size w w') := by
    refine (fits_new true [a0, b0] _ 2 w.heap.size rfl (by omega) rfl w rfl).mono ?_
    rintro e w1 ⟨rfl, hcs, hb1⟩
    have c0 := hcs 0 (by omega)
    have c1 := hcs 1 (by omega)
    exact ⟨rfl, ⟨by rw [← HA.out]; exact c0, by rw [← HB0.out]; exact c1⟩, hb1⟩
  clear HA HB0
  go_enter Try.func6, Try.ntmps6
  go_wp2_with fail
  refine HFIT.out.mono ?_
  rintro e w1 ⟨rfl, ⟨hc0, hc1⟩, hbel⟩
  clear HFIT
  go_wp2_with fail
  go_quiet (fail)
  have HB : Hid (Below w.heap.size w (w1.drewN nq)) := below_drewN hbel _
  generalize w1.drewN nq = w2 at HB
  clear hc0 hc1 hbel
  go_wp2_with fail
  refine (HW109.out _).mono ?_
  rintro e w3 ⟨rfl, rfl⟩
  go_wp2_with fail
  refine (HQ.out _).mono ?_
  rintro e w4 ⟨rfl, rfl⟩
  go_wp2_with fail
  refine (HW111.out _).mono ?_
  rintro e w5 ⟨rfl, rfl⟩
  go_wp2_with fail
  refine (HM.out _).mono ?_
  rintro e w6 ⟨rfl, rfl⟩
  go_wp2_with fail
  refine (HW106.out _).mono ?_
  rintro e w7 ⟨rfl, rfl⟩
  go_wp2_with fail
  refine (HW108.out _).mono ?_
  rintro e w8 ⟨rfl, rfl⟩
  go_wp2_with fail
  refine (HTm.out _).mono ?_
  rintro e w9 ⟨rfl, rfl⟩
  go_wp2_with fail
  refine (HTa.out _).mono ?_
  rintro e w10 ⟨rfl, rfl⟩
  go_wp2_with fail
  refine (HSr.out _).mono ?_
  rintro e w11 ⟨rfl, rfl⟩
  go_wp2_with fail
  refine (HSb.out _).mono ?_
  rintro e w12 ⟨rfl, rfl⟩
  go_wp2
  go_ret
  exact ⟨rfl, HB.out⟩
set_option maxHeartbeats 4000000 in
set_option maxRecDepth 1000000 in
theorem div_norm64_ap (a b q r m sr sb : Int) (a0 b0 : Int) (HA : Hid (fitW true a0 = a)) (HB0 : Hid (fitW true b0 = b)) (HW109 : Hid (∀ w, Calls Try.prog 12 #[.int .u8 109, .bool true] w fun e w' => e = .returned (.int .u8 127) ∧ w' = w)) (HW111 : Hid (∀ w, Calls Try.prog 12 #[.int .u8 111, .bool true] w fun e w' => e = .returned (.int .u8 129) ∧ w' = w)) (HQ : Hid (∀ w, Calls Try.prog 7 #[.int .u8 127, .int .i64 a, .int .i64 b] w fun e w' => e = .returned (.tuple #[.int .i64 q, .int .i64 0]) ∧ w' = w)) (HM : Hid (∀ w, Calls Try.prog 7 #[.int .u8 129, .int .i64 a, .int .i64 b] w fun e w' => e = .returned (.tuple #[.int .i64 r, .int .i64 0]) ∧ w' = w)) (HW106 : Hid (∀ w, Calls Try.prog 12 #[.int .u8 106, .bool true] w fun e w' => e = .returned (.int .u8 124) ∧ w' = w)) (HW108 : Hid (∀ w, Calls Try.prog 12 #[.int .u8 108, .bool true] w fun e w' => e = .returned (.int .u8 126) ∧ w' = w)) (HTm : Hid (∀ w, Calls Try.prog 11 #[.int .u8 126, .int .i64 q, .int .i64 b] w fun e w' => e = .returned (.int .i64 m) ∧ w' = w)) (HTa : Hid (∀ w, Calls Try.prog 11 #[.int .u8 124, .int .i64 m, .int .i64 r] w fun e w' => e = .returned (.int .i64 a) ∧ w' = w)) (HSr : Hid (∀ w, Calls Try.prog 19 #[.int .i64 r] w fun e w' => e = .returned (.int .u64 sr) ∧ w' = w)) (HSb : Hid (∀ w, Calls Try.prog 19 #[.int .i64 b] w fun e w' => e = .returned (.int .u64 sb) ∧ w' = w)) (_hlt : sr < sb) (_hb0 : (b == 0) = false) (_hn : (a == -9223372036854775808) = false) (_hr0 : (r == 0) = false) (_hr : 0 < r) (_ha : 0 ≤ a) (w : World) :
    Calls Try.prog 6 #[.int .i64 a0, .int .i64 b0, .bool true] w fun e w' => e = .returned (.bool true) ∧ Below w.heap.size w w' := by
  have HFIT : Hid (Calls Try.prog 9 #[.bool true, .slice (some ⟨w.heap.size, 0, none⟩) 2 2] (w.alloc (.cells #[.int .i64 a0, .int .i64 b0] 2)) fun e w' => e = .returned (.slice (some ⟨w.heap.size, 0, none⟩) 2 2) ∧ (w'.cell? ⟨w.heap.size, 0, none⟩ = some (.int .i64 a) ∧ w'.cell? ⟨w.heap.size, 1, none⟩ = some (.int .i64 b)) ∧ Below w.heap.size w w') := by
    refine (fits_new true [a0, b0] _ 2 w.heap.size rfl (by omega) rfl w rfl).mono ?_
    rintro e w1 ⟨rfl, hcs, hb1⟩
    have c0 := hcs 0 (by omega)
    have c1 := hcs 1 (by omega)
    exact ⟨rfl, ⟨by rw [← HA.out]; exact c0, by rw [← HB0.out]; exact c1⟩, hb1⟩
  clear HA HB0
  go_enter Try.func6, Try.ntmps6
  go_wp2_with fail
  refine HFIT.out.mono ?_
  rintro e w1 ⟨rfl, ⟨hc0, hc1⟩, hbel⟩
  clear HFIT
  go_wp2_with fail
  go_quiet (fail)
  have HB : Hid (Below w.heap.size w (w1.drewN nq)) := below_drewN hbel _
  generalize w1.drewN nq = w2 at HB
  clear hc0 hc1 hbel
  go_wp2_with fail
  refine (HW109.out _).mono ?_
  rintro e w3 ⟨rfl, rfl⟩
  go_wp2_with fail
  refine (HQ.out _).mono ?_
  rintro e w4 ⟨rfl, rfl⟩
  go_wp2_with fail
  refine (HW111.out _).mono ?_
  rintro e w5 ⟨rfl, rfl⟩
  go_wp2_with fail
  refine (HM.out _).mono ?_
  rintro e w6 ⟨rfl, rfl⟩
  go_wp2_with fail
  refine (HW106.out _).mono ?_
  rintro e w7 ⟨rfl, rfl⟩
  go_wp2_with fail
  refine (HW108.out _).mono ?_
  rintro e w8 ⟨rfl, rfl⟩
  go_wp2_with fail
  refine (HTm.out _).mono ?_
  rintro e w9 ⟨rfl, rfl⟩
  go_wp2_with fail
  refine (HTa.out _).mono ?_
  rintro e w10 ⟨rfl, rfl⟩
  go_wp2_with fail
  refine (HSr.out _).mono ?_
  rintro e w11 ⟨rfl, rfl⟩
  go_wp2_with fail
  refine (HSb.out _).mono ?_
  rintro e w12 ⟨rfl, rfl⟩
  go_wp2
  go_ret
  exact ⟨retb (by rw [decide_eq_false (show ¬ r < 0 by omega), decide_eq_false (show ¬ a < 0 by omega)]; rfl), HB.out⟩
set_option maxHeartbeats 4000000 in
set_option maxRecDepth 1000000 in
theorem div_norm64_bz (a b q m sr sb : Int) (a0 b0 : Int) (HA : Hid (fitW true a0 = a)) (HB0 : Hid (fitW true b0 = b)) (HW109 : Hid (∀ w, Calls Try.prog 12 #[.int .u8 109, .bool true] w fun e w' => e = .returned (.int .u8 127) ∧ w' = w)) (HW111 : Hid (∀ w, Calls Try.prog 12 #[.int .u8 111, .bool true] w fun e w' => e = .returned (.int .u8 129) ∧ w' = w)) (HQ : Hid (∀ w, Calls Try.prog 7 #[.int .u8 127, .int .i64 a, .int .i64 b] w fun e w' => e = .returned (.tuple #[.int .i64 q, .int .i64 0]) ∧ w' = w)) (HM : Hid (∀ w, Calls Try.prog 7 #[.int .u8 129, .int .i64 a, .int .i64 b] w fun e w' => e = .returned (.tuple #[.int .i64 0, .int .i64 0]) ∧ w' = w)) (HW106 : Hid (∀ w, Calls Try.prog 12 #[.int .u8 106, .bool true] w fun e w' => e = .returned (.int .u8 124) ∧ w' = w)) (HW108 : Hid (∀ w, Calls Try.prog 12 #[.int .u8 108, .bool true] w fun e w' => e = .returned (.int .u8 126) ∧ w' = w)) (HTm : Hid (∀ w, Calls Try.prog 11 #[.int .u8 126, .int .i64 q, .int .i64 b] w fun e w' => e = .returned (.int .i64 m) ∧ w' = w)) (HTa : Hid (∀ w, Calls Try.prog 11 #[.int .u8 124, .int .i64 m, .int .i64 0] w fun e w' => e = .returned (.int .i64 a) ∧ w' = w)) (HSr : Hid (∀ w, Calls Try.prog 19 #[.int .i64 0] w fun e w' => e = .returned (.int .u64 sr) ∧ w' = w)) (HSb : Hid (∀ w, Calls Try.prog 19 #[.int .i64 b] w fun e w' => e = .returned (.int .u64 sb) ∧ w' = w)) (_hlt : sr < sb) (_hb0 : (b == 0) = false) (_hn : (a == -9223372036854775808) = true) (_hn2 : (b == -1) = false)  (w : World) :
    Calls Try.prog 6 #[.int .i64 a0, .int .i64 b0, .bool true] w fun e w' => e = .returned (.bool true) ∧ Below w.heap.size w w' := by
  have HFIT : Hid (Calls Try.prog 9 #[.bool true, .slice (some ⟨w.heap.size, 0, none⟩) 2 2] (w.alloc (.cells #[.int .i64 a0, .int .i64 b0] 2)) fun e w' => e = .returned (.slice (some ⟨w.heap.size, 0, none⟩) 2 2) ∧ (w'.cell? ⟨w.heap.size, 0, none⟩ = some (.int .i64 a) ∧ w'.cell? ⟨w.heap.size, 1, none⟩ = some (.int .i64 b)) ∧ Below w.heap.size w w') := by
    refine (fits_new true [a0, b0] _ 2 w.heap.size rfl (by omega) rfl w rfl).mono ?_
    rintro e w1 ⟨rfl, hcs, hb1⟩
    have c0 := hcs 0 (by omega)
    have c1 := hcs 1 (by omega)
    exact ⟨rfl, ⟨by rw [← HA.out]; exact c0, by rw [← HB0.out]; exact c1⟩, hb1⟩
  clear HA HB0
  go_enter Try.func6, Try.ntmps6
  go_wp2_with fail
  refine HFIT.out.mono ?_
  rintro e w1 ⟨rfl, ⟨hc0, hc1⟩, hbel⟩
  clear HFIT
  go_wp2_with fail
  go_quiet (fail)
  have HB : Hid (Below w.heap.size w (w1.drewN nq)) := below_drewN hbel _
  generalize w1.drewN nq = w2 at HB
  clear hc0 hc1 hbel
  go_wp2_with fail
  refine (HW109.out _).mono ?_
  rintro e w3 ⟨rfl, rfl⟩
  go_wp2_with fail
  refine (HQ.out _).mono ?_
  rintro e w4 ⟨rfl, rfl⟩
  go_wp2_with fail
  refine (HW111.out _).mono ?_
  rintro e w5 ⟨rfl, rfl⟩
  go_wp2_with fail
  refine (HM.out _).mono ?_
  rintro e w6 ⟨rfl, rfl⟩
  go_wp2_with fail
  refine (HW106.out _).mono ?_
  rintro e w7 ⟨rfl, rfl⟩
  go_wp2_with fail
  refine (HW108.out _).mono ?_
  rintro e w8 ⟨rfl, rfl⟩
  go_wp2_with fail
  refine (HTm.out _).mono ?_
  rintro e w9 ⟨rfl, rfl⟩
  go_wp2_with fail
  refine (HTa.out _).mono ?_
  rintro e w10 ⟨rfl, rfl⟩
  go_wp2_with fail
  refine (HSr.out _).mono ?_
  rintro e w11 ⟨rfl, rfl⟩
  go_wp2_with fail
  refine (HSb.out _).mono ?_
  rintro e w12 ⟨rfl, rfl⟩
  go_wp2
  go_ret
  exact ⟨rfl, HB.out⟩
set_option maxHeartbeats 4000000 in
set_option maxRecDepth 1000000 in
theorem div_norm64_bn (a b q r m sr sb : Int) (a0 b0 : Int) (HA : Hid (fitW true a0 = a)) (HB0 : Hid (fitW true b0 = b)) (HW109 : Hid (∀ w, Calls Try.prog 12 #[.int .u8 109, .bool true] w fun e w' => e = .returned (.int .u8 127) ∧ w' = w)) (HW111 : Hid (∀ w, Calls Try.prog 12 #[.int .u8 111, .bool true] w fun e w' => e = .returned (.int .u8 129) ∧ w' = w)) (HQ : Hid (∀ w, Calls Try.prog 7 #[.int .u8 127, .int .i64 a, .int .i64 b] w fun e w' => e = .returned (.tuple #[.int .i64 q, .int .i64 0]) ∧ w' = w)) (HM : Hid (∀ w, Calls Try.prog 7 #[.int .u8 129, .int .i64 a, .int .i64 b] w fun e w' => e = .returned (.tuple #[.int .i64 r, .int .i64 0]) ∧ w' = w)) (HW106 : Hid (∀ w, Calls Try.prog 12 #[.int .u8 106, .bool true] w fun e w' => e = .returned (.int .u8 124) ∧ w' = w)) (HW108 : Hid (∀ w, Calls Try.prog 12 #[.int .u8 108, .bool true] w fun e w' => e = .returned (.int .u8 126) ∧ w' = w)) (HTm : Hid (∀ w, Calls Try.prog 11 #[.int .u8 126, .int .i64 q, .int .i64 b] w fun e w' => e = .returned (.int .i64 m) ∧ w' = w)) (HTa : Hid (∀ w, Calls Try.prog 11 #[.int .u8 124, .int .i64 m, .int .i64 r] w fun e w' => e = .returned (.int .i64 a) ∧ w' = w)) (HSr : Hid (∀ w, Calls Try.prog 19 #[.int .i64 r] w fun e w' => e = .returned (.int .u64 sr) ∧ w' = w)) (HSb : Hid (∀ w, Calls Try.prog 19 #[.int .i64 b] w fun e w' => e = .returned (.int .u64 sb) ∧ w' = w)) (_hlt : sr < sb) (_hb0 : (b == 0) = false) (_hn : (a == -9223372036854775808) = true) (_hn2 : (b == -1) = false) (_hr0 : (r == 0) = false) (_hr : r < 0) (_ha : a < 0) (w : World) :
    Calls Try.prog 6 #[.int .i64 a0, .int .i64 b0, .bool true] w fun e w' => e = .returned (.bool true) ∧ Below w.heap.size w w' := by
  have HFIT : Hid (Calls Try.prog 9 #[.bool true, .slice (some ⟨w.heap.size, 0, none⟩) 2 2] (w.alloc (.cells #[.int .i64 a0, .int .i64 b0] 2)) fun e w' => e = .returned (.slice (some ⟨w.heap.size, 0, none⟩) 2 2) ∧ (w'.cell? ⟨w.heap.size, 0, none⟩ = some (.int .i64 a) ∧ w'.cell? ⟨w.heap.size, 1, none⟩ = some (.int .i64 b)) ∧ Below w.heap.size w w') := by
    refine (fits_new true [a0, b0] _ 2 w.heap.size rfl (by omega) rfl w rfl).mono ?_
    rintro e w1 ⟨rfl, hcs, hb1⟩
    have c0 := hcs 0 (by omega)
    have c1 := hcs 1 (by omega)
    exact ⟨rfl, ⟨by rw [← HA.out]; exact c0, by rw [← HB0.out]; exact c1⟩, hb1⟩
  clear HA HB0
  go_enter Try.func6, Try.ntmps6
  go_wp2_with fail
  refine HFIT.out.mono ?_
  rintro e w1 ⟨rfl, ⟨hc0, hc1⟩, hbel⟩
  clear HFIT
  go_wp2_with fail
  go_quiet (fail)
  have HB : Hid (Below w.heap.size w (w1.drewN nq)) := below_drewN hbel _
  generalize w1.drewN nq = w2 at HB
  clear hc0 hc1 hbel
  go_wp2_with fail
  refine (HW109.out _).mono ?_
  rintro e w3 ⟨rfl, rfl⟩
  go_wp2_with fail
  refine (HQ.out _).mono ?_
  rintro e w4 ⟨rfl, rfl⟩
  go_wp2_with fail
  refine (HW111.out _).mono ?_
  rintro e w5 ⟨rfl, rfl⟩
  go_wp2_with fail
  refine (HM.out _).mono ?_
  rintro e w6 ⟨rfl, rfl⟩
  go_wp2_with fail
  refine (HW106.out _).mono ?_
  rintro e w7 ⟨rfl, rfl⟩
  go_wp2_with fail
  refine (HW108.out _).mono ?_
  rintro e w8 ⟨rfl, rfl⟩
  go_wp2_with fail
  refine (HTm.out _).mono ?_
  rintro e w9 ⟨rfl, rfl⟩
  go_wp2_with fail
  refine (HTa.out _).mono ?_
  rintro e w10 ⟨rfl, rfl⟩
  go_wp2_with fail
  refine (HSr.out _).mono ?_
  rintro e w11 ⟨rfl, rfl⟩
  go_wp2_with fail
  refine (HSb.out _).mono ?_
  rintro e w12 ⟨rfl, rfl⟩
  go_wp2
  go_ret
  exact ⟨rfl, HB.out⟩
set_option maxHeartbeats 4000000 in
set_option maxRecDepth 1000000 in
theorem div_norm64_bp (a b q r m sr sb : Int) (a0 b0 : Int) (HA : Hid (fitW true a0 = a)) (HB0 : Hid (fitW true b0 = b)) (HW109 : Hid (∀ w, Calls Try.prog 12 #[.int .u8 109, .bool true] w fun e w' => e = .returned (.int .u8 127) ∧ w' = w)) (HW111 : Hid (∀ w, Calls Try.prog 12 #[.int .u8 111, .bool true] w fun e w' => e = .returned (.int .u8 129) ∧ w' = w)) (HQ : Hid (∀ w, Calls Try.prog 7 #[.int .u8 127, .int .i64 a, .int .i64 b] w fun e w' => e = .returned (.tuple #[.int .i64 q, .int .i64 0]) ∧ w' = w)) (HM : Hid (∀ w, Calls Try.prog 7 #[.int .u8 129, .int .i64 a, .int .i64 b] w fun e w' => e = .returned (.tuple #[.int .i64 r, .int .i64 0]) ∧ w' = w)) (HW106 : Hid (∀ w, Calls Try.prog 12 #[.int .u8 106, .bool true] w fun e w' => e = .returned (.int .u8 124) ∧ w' = w)) (HW108 : Hid (∀ w, Calls Try.prog 12 #[.int .u8 108, .bool true] w fun e w' => e = .returned (.int .u8 126) ∧ w' = w)) (HTm : Hid (∀ w, Calls Try.prog 11 #[.int .u8 126, .int .i64 q, .int .i64 b] w fun e w' => e = .returned (.int .i64 m) ∧ w' = w)) (HTa : Hid (∀ w, Calls Try.prog 11 #[.int .u8 124, .int .i64 m, .int .i64 r] w fun e w' => e = .returned (.int .i64 a) ∧ w' = w)) (HSr : Hid (∀ w, Calls Try.prog 19 #[.int .i64 r] w fun e w' => e = .returned (.int .u64 sr) ∧ w' = w)) (HSb : Hid (∀ w, Calls Try.prog 19 #[.int .i64 b] w fun e w' => e = .returned (.int .u64 sb) ∧ w' = w)) (_hlt : sr < sb) (_hb0 : (b == 0) = false) (_hn : (a == -9223372036854775808) = true) (_hn2 : (b == -1) = false) (_hr0 : (r == 0) = false) (_hr : 0 < r) (_ha : 0 ≤ a) (w : World) :
    Calls Try.prog 6 #[.int .i64 a0, .int .i64 b0, .bool true] w fun e w' => e = .returned (.bool true) ∧ Below w.heap.size w w' := by
  have HFIT : Hid (Calls Try.prog 9 #[.bool true, .slice (some ⟨w.heap.size, 0, none⟩) 2 2] (w.alloc (.cells #[.int .i64 a0, .int .i64 b0] 2)) fun e w' => e = .returned (.slice (some ⟨w.heap.size, 0, none⟩) 2 2) ∧ (w'.cell? ⟨w.heap.size, 0, none⟩ = some (.int .i64 a) ∧ w'.cell? ⟨w.heap.size, 1, none⟩ = some (.int .i64 b)) ∧ Below w.heap.size w w') := by
    refine (fits_new true [a0, b0] _ 2 w.heap.size rfl (by omega) rfl w rfl).mono ?_
    rintro e w1 ⟨rfl, hcs, hb1⟩
    have c0 := hcs 0 (by omega)
    have c1 := hcs 1 (by omega)
    exact ⟨rfl, ⟨by rw [← HA.out]; exact c0, by rw [← HB0.out]; exact c1⟩, hb1⟩
  clear HA HB0
  go_enter Try.func6, Try.ntmps6
  go_wp2_with fail
  refine HFIT.out.mono ?_
  rintro e w1 ⟨rfl, ⟨hc0, hc1⟩, hbel⟩
  clear HFIT
  go_wp2_with fail
  go_quiet (fail)
  have HB : Hid (Below w.heap.size w (w1.drewN nq)) := below_drewN hbel _
  generalize w1.drewN nq = w2 at HB
  clear hc0 hc1 hbel
  go_wp2_with fail
  refine (HW109.out _).mono ?_
  rintro e w3 ⟨rfl, rfl⟩
  go_wp2_with fail
  refine (HQ.out _).mono ?_
  rintro e w4 ⟨rfl, rfl⟩
  go_wp2_with fail
  refine (HW111.out _).mono ?_
  rintro e w5 ⟨rfl, rfl⟩
  go_wp2_with fail
  refine (HM.out _).mono ?_
  rintro e w6 ⟨rfl, rfl⟩
  go_wp2_with fail
  refine (HW106.out _).mono ?_
  rintro e w7 ⟨rfl, rfl⟩
  go_wp2_with fail
  refine (HW108.out _).mono ?_
  rintro e w8 ⟨rfl, rfl⟩
  go_wp2_with fail
  refine (HTm.out _).mono ?_
  rintro e w9 ⟨rfl, rfl⟩
  go_wp2_with fail
  refine (HTa.out _).mono ?_
  rintro e w10 ⟨rfl, rfl⟩
  go_wp2_with fail
  refine (HSr.out _).mono ?_
  rintro e w11 ⟨rfl, rfl⟩
  go_wp2_with fail
  refine (HSb.out _).mono ?_
  rintro e w12 ⟨rfl, rfl⟩
  go_wp2
  go_ret
  exact ⟨retb (by rw [decide_eq_false (show ¬ r < 0 by omega), decide_eq_false (show ¬ a < 0 by omega)]; rfl), HB.out⟩
end Go.Proofs.Ytlbilmgpnpghlaa
