/-
  The walk of the law of counts, for whatever its instructions answer: 32 bits.
-/
import Derived.Test.YtlbilmgpnpghlabDoorCountsCl
namespace Go.Proofs.YtlbilmgpnpghlabDoor
open Go.RowKit

set_option maxHeartbeats 40000000 in
set_option maxRecDepth 1000000 in
theorem numCounts_coreN (a0 b0 a b both either neg low nota c1 c2 c3 c4 c5 t z y : Int) (o113 o114 o107 o115 : Int) (P : Nat) (O : Int → Int → Int → Prop) (t113 t114 t107 t115 : Int → Int → Int → Prop)
    (HO : Hid (∀ n x z, O n x z → ∀ w, w.cell? ⟨P, 0, none⟩ = some (.bool false) → TabIn w → Calls Tryd.prog 6 #[.int .u8 n, .int .i64 x, .pointer (some ⟨P, 0, none⟩)] w fun e w' => e = .returned (.int .i64 z) ∧ w' = w))
    (HW113 : Hid (∀ w, Calls Tryd.prog 9 #[.int .u8 113, .bool false] w fun e w' => e = .returned (.int .u8 o113) ∧ w' = w)) (HT113 : Hid (∀ x y z, t113 x y z → ∀ w, Calls Tryd.prog 8 #[.int .u8 o113, .int .i64 x, .int .i64 y] w fun e w' => e = .returned (.int .i64 z) ∧ w' = w))
    (HW114 : Hid (∀ w, Calls Tryd.prog 9 #[.int .u8 114, .bool false] w fun e w' => e = .returned (.int .u8 o114) ∧ w' = w)) (HT114 : Hid (∀ x y z, t114 x y z → ∀ w, Calls Tryd.prog 8 #[.int .u8 o114, .int .i64 x, .int .i64 y] w fun e w' => e = .returned (.int .i64 z) ∧ w' = w))
    (HW107 : Hid (∀ w, Calls Tryd.prog 9 #[.int .u8 107, .bool false] w fun e w' => e = .returned (.int .u8 o107) ∧ w' = w)) (HT107 : Hid (∀ x y z, t107 x y z → ∀ w, Calls Tryd.prog 8 #[.int .u8 o107, .int .i64 x, .int .i64 y] w fun e w' => e = .returned (.int .i64 z) ∧ w' = w))
    (HW115 : Hid (∀ w, Calls Tryd.prog 9 #[.int .u8 115, .bool false] w fun e w' => e = .returned (.int .u8 o115) ∧ w' = w)) (HT115 : Hid (∀ x y z, t115 x y z → ∀ w, Calls Tryd.prog 8 #[.int .u8 o115, .int .i64 x, .int .i64 y] w fun e w' => e = .returned (.int .i64 z) ∧ w' = w))
    (ha : fitW false a0 = a) (hb : fitW false b0 = b) (_lc1 : 0 ≤ c1) (_uc1 : c1 ≤ 64) (_lc2 : 0 ≤ c2) (_uc2 : c2 ≤ 64) (_lc3 : 0 ≤ c3) (_uc3 : c3 ≤ 64) (_lc4 : 0 ≤ c4) (_uc4 : c4 ≤ 64) (_lc5 : 0 ≤ c5) (_uc5 : c5 ≤ 64) (_lt : 0 ≤ t) (_ut : t ≤ 64) (_lz : 0 ≤ z) (_uz : z ≤ 64) (hsum : Hid (c1 + c2 = c3 + c4)) (hnot : Hid (c3 + c5 = 32))
    (E1 : Hid (t113 a b both)) (E2 : Hid (t114 a b either)) (E3 : Hid (t107 0 a neg)) (E4 : Hid (t113 a neg low)) (E5 : Hid (O 105 both c1)) (E6 : Hid (O 105 either c2)) (E7 : Hid (O 105 a c3)) (E8 : Hid (O 105 b c4)) (E9 : Hid (t115 a (-1) nota)) (E10 : Hid (O 105 nota c5))
    (Z : Hid (a = 0 → O 103 a 32 ∧ O 104 a 32)) (F : Hid (¬ a = 0 → O 105 low 1 ∧ O 104 a t ∧ O 104 low t ∧ O 103 low z ∧ O 103 a y ∧ z + t = 31 ∧ y ≤ z ∧ (y = 0) = (a < 0)))
    (w : World) (hTab : TabIn w) (hP : w.heap.size = P) :
    Calls Tryd.prog 3 #[.int .i64 a0, .int .i64 b0, .bool false] w fun e w' => e = .returned (.bool true) ∧ Below w.heap.size w w' := by
  have HFIT : Hid (Calls Tryd.prog 5 #[.bool false, .slice (some ⟨w.heap.size + 1, 0, none⟩) 2 2] ((w.alloc (.cells #[.bool false] 4)).alloc (.cells #[.int .i64 a0, .int .i64 b0] 2)) fun e w' => e = .returned (.slice (some ⟨w.heap.size + 1, 0, none⟩) 2 2) ∧ (w'.cell? ⟨w.heap.size + 1, 0, none⟩ = some (.int .i64 a) ∧ w'.cell? ⟨w.heap.size + 1, 1, none⟩ = some (.int .i64 b)) ∧ w'.cell? ⟨w.heap.size, 0, none⟩ = some (.bool false) ∧ Below w.heap.size w w') := by
    refine (fits_new false [a0, b0] _ 2 (w.heap.size + 1) rfl (by omega) rfl (w.alloc (.cells #[.bool false] 4)) (by simp)).mono ?_
    rintro e w1 ⟨rfl, hcs, hb1⟩
    have c0 := hcs 0 (by omega)
    have c1 := hcs 1 (by omega)
    refine ⟨rfl, ⟨by rw [← ha]; exact c0, by rw [← hb]; exact c1⟩, ?_, ((Below.refl _ _).alloc (Nat.le_refl _) _).trans (hb1.mono (by simp))⟩
    rw [hb1.cell (p := ⟨w.heap.size, 0, none⟩) (by simp)]
    exact cell_one_new _ _ _ 0 _ rfl
  subst hP
  go_enter Tryd.func3, Tryd.ntmps3
  go_wp2_with fail
  refine HFIT.out.mono ?_
  rintro e w1 ⟨rfl, ⟨hc0, hc1⟩, hcw, hbel⟩
  clear HFIT ha hb
  go_wp2_with fail
  go_quiet (fail)
  have hcw2 : (w1.drewN nq).cell? ⟨w.heap.size, 0, none⟩ = some (.bool false) := hcw
  have HB : Hid (Below w.heap.size w (w1.drewN nq)) := below_drewN hbel _
  generalize w1.drewN nq = w2 at hcw2 HB
  clear hcw hbel hc0 hc1
  go_wp2_with fail
  go_quiet (first
    | (go_at_call_of 9 (Value.int .u8 113); exact Calls.quiet_of_same (HW113.out _))
    | (go_at_call_of 9 (Value.int .u8 114); exact Calls.quiet_of_same (HW114.out _))
    | (go_at_call_of 8 (Value.int .u8 o113); exact Calls.quiet_of_same (HT113.out _ _ _ E1.out _))
    | (go_at_call_of 8 (Value.int .u8 o114); exact Calls.quiet_of_same (HT114.out _ _ _ E2.out _)))
  have hcw3 : (w2.drewN nq).cell? ⟨w.heap.size, 0, none⟩ = some (.bool false) := hcw2
  have HB3 : Hid (Below w.heap.size w (w2.drewN nq)) := below_drewN HB.out _
  generalize w2.drewN nq = w3 at hcw3 HB3
  clear hcw2 HB
  go_wp2_with fail
  go_quiet (first
    | (go_at_call_of 9 (Value.int .u8 113); exact Calls.quiet_of_same (HW113.out _))
    | (go_at_call_of 9 (Value.int .u8 107); exact Calls.quiet_of_same (HW107.out _))
    | (go_at_call_of 8 (Value.int .u8 o107); exact Calls.quiet_of_same (HT107.out _ _ _ E3.out _))
    | (go_at_call_of 8 (Value.int .u8 o113); exact Calls.quiet_of_same (HT113.out _ _ _ E4.out _)))
  have hcw4 : (w3.drewN nq).cell? ⟨w.heap.size, 0, none⟩ = some (.bool false) := hcw3
  have HB4 : Hid (Below w.heap.size w (w3.drewN nq)) := below_drewN HB3.out _
  have HTAB : Hid (TabIn (w3.drewN nq)) := hTab.below HB4.out
  generalize w3.drewN nq = w4 at hcw4 HB4 HTAB
  clear hcw3 HB3
  have HC : Hid _ := hcw4
  have hsm := hsum.out
  have hnt := hnot.out
  go_wp2_with fail
  go_quiet (first
    | (go_at_call_of 6 (Value.int .i64 both); exact Calls.quiet_of_same (HO.out _ _ _ E5.out _ HC.out HTAB.out))
    | (go_at_call_of 6 (Value.int .i64 either); exact Calls.quiet_of_same (HO.out _ _ _ E6.out _ HC.out HTAB.out))
    | (go_at_call_of 6 (Value.int .i64 a); exact Calls.quiet_of_same (HO.out _ _ _ E7.out _ HC.out HTAB.out))
    | (go_at_call_of 6 (Value.int .i64 b); exact Calls.quiet_of_same (HO.out _ _ _ E8.out _ HC.out HTAB.out))
    | (go_at_call_of 6 (Value.int .i64 nota); exact Calls.quiet_of_same (HO.out _ _ _ E10.out _ HC.out HTAB.out))
    | (go_at_call_of 9 (Value.int .u8 115); exact Calls.quiet_of_same (HW115.out _))
    | (go_at_call_of 8 (Value.int .u8 o115); exact Calls.quiet_of_same (HT115.out _ _ _ E9.out _)))
  have hcw5 : (w4.drewN nq).cell? ⟨w.heap.size, 0, none⟩ = some (.bool false) := hcw4
  have HB5 : Hid (Below w.heap.size w (w4.drewN nq)) := below_drewN HB4.out _
  have HTAB5 : Hid (TabIn (w4.drewN nq)) := hTab.below HB5.out
  generalize w4.drewN nq = w5 at hcw5 HB5 HTAB5
  clear hcw4 HB4 HTAB HC hsm hnt
  have HC : Hid _ := hcw5
  by_cases hz : a = 0
  · obtain ⟨z1, z2⟩ := Z.out hz
    have Z1 : Hid _ := z1
    have Z2 : Hid _ := z2
    have hzb : (a == 0) = true := by rw [beq_iff_eq]; exact hz
    clear z1 z2 Z F hz
    go_wp2_with fail
    refine (HO.out _ _ _ Z1.out _ HC.out HTAB5.out).mono ?_
    rintro e w6 ⟨rfl, rfl⟩
    go_wp2_with fail
    refine (HO.out _ _ _ Z2.out _ HC.out HTAB5.out).mono ?_
    rintro e w6 ⟨rfl, rfl⟩
    go_wp2
    go_ret
    exact ⟨rfl, HB5.out⟩
  · obtain ⟨f1, f2, f3, f4, f5, hzt, hyz, hsg⟩ := F.out hz
    have F1 : Hid _ := f1
    have F2 : Hid _ := f2
    have F3 : Hid _ := f3
    have F4 : Hid _ := f4
    have F5 : Hid _ := f5
    have HSG : Hid _ := hsg
    have hzb : (a == 0) = false := by rw [beq_eq_false_iff_ne]; exact hz
    clear f1 f2 f3 f4 f5 Z F hz hsg
    go_wp2_with fail
    refine (HO.out _ _ _ F1.out _ HC.out HTAB5.out).mono ?_
    rintro e w6 ⟨rfl, rfl⟩
    go_wp2_with fail
    refine (HO.out _ _ _ F2.out _ HC.out HTAB5.out).mono ?_
    rintro e w6 ⟨rfl, rfl⟩
    go_wp2_with fail
    refine (HO.out _ _ _ F3.out _ HC.out HTAB5.out).mono ?_
    rintro e w6 ⟨rfl, rfl⟩
    go_wp2_with fail
    refine (HO.out _ _ _ F4.out _ HC.out HTAB5.out).mono ?_
    rintro e w6 ⟨rfl, rfl⟩
    go_wp2_with fail
    refine (HO.out _ _ _ F3.out _ HC.out HTAB5.out).mono ?_
    rintro e w6 ⟨rfl, rfl⟩
    go_wp2_with fail
    refine (HO.out _ _ _ F5.out _ HC.out HTAB5.out).mono ?_
    rintro e w6 ⟨rfl, rfl⟩
    go_wp2_with fail
    refine (HO.out _ _ _ F4.out _ HC.out HTAB5.out).mono ?_
    rintro e w6 ⟨rfl, rfl⟩
    go_wp2_with fail
    refine (HO.out _ _ _ F5.out _ HC.out HTAB5.out).mono ?_
    rintro e w6 ⟨rfl, rfl⟩
    go_wp2
    go_ret
    refine ⟨congrArg Ending.returned (congrArg Value.bool ?_), HB5.out⟩
    have h11 := HSG.out
    by_cases hneg : a < 0
    · have : y = 0 := by rw [h11]; exact hneg
      simp [hneg, this]
    · have : ¬ y = 0 := by rw [h11]; exact hneg
      simp [hneg, this]
end Go.Proofs.YtlbilmgpnpghlabDoor
