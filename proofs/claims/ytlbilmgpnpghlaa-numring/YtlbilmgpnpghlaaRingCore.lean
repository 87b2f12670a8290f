/-
  The walk of the law of rings, for whatever its three closures do.
-/
import Derived.Test.YtlbilmgpnpghlaaKeep2
namespace Go.Proofs.Ytlbilmgpnpghlaa
open Go.RowKit

set_option maxHeartbeats 4000000 in
set_option maxRecDepth 1000000 in
theorem c_NumRing_1 (wd : Bool) (P : Nat) (x y z o : Int) (HW : Hid (∀ w, Calls Try.prog 12 #[.int .u8 106, .bool wd] w fun e w' => e = .returned (.int .u8 o) ∧ w' = w)) (Q : World → World → Prop) (HT : Hid (∀ w, Calls Try.prog 11 #[.int .u8 o, .int .i64 x, .int .i64 y] w fun e w' => e = .returned (.int .i64 z) ∧ Q w w')) (w : World) (_hc : w.cell? ⟨P, 0, none⟩ = some (.bool wd)) :
    Calls Try.prog 10 #[.int .i64 x, .int .i64 y, .pointer (some ⟨P, 0, none⟩)] w fun e w' => e = .returned (.int .i64 z) ∧ Q w w' := by
  go_enter Try.func10, Try.ntmps10
  go_wp2_with fail
  refine (HW.out _).mono ?_
  rintro e w1 ⟨rfl, rfl⟩
  go_wp2_with fail
  refine (HT.out _).mono ?_
  rintro e w2 ⟨rfl, b1⟩
  go_wp2
  go_ret
  exact ⟨rfl, b1⟩
set_option maxHeartbeats 4000000 in
set_option maxRecDepth 1000000 in
theorem c_NumRing_2 (wd : Bool) (P : Nat) (x y z o : Int) (HW : Hid (∀ w, Calls Try.prog 12 #[.int .u8 107, .bool wd] w fun e w' => e = .returned (.int .u8 o) ∧ w' = w)) (Q : World → World → Prop) (HT : Hid (∀ w, Calls Try.prog 11 #[.int .u8 o, .int .i64 x, .int .i64 y] w fun e w' => e = .returned (.int .i64 z) ∧ Q w w')) (w : World) (_hc : w.cell? ⟨P, 0, none⟩ = some (.bool wd)) :
    Calls Try.prog 13 #[.int .i64 x, .int .i64 y, .pointer (some ⟨P, 0, none⟩)] w fun e w' => e = .returned (.int .i64 z) ∧ Q w w' := by
  go_enter Try.func13, Try.ntmps13
  go_wp2_with fail
  refine (HW.out _).mono ?_
  rintro e w1 ⟨rfl, rfl⟩
  go_wp2_with fail
  refine (HT.out _).mono ?_
  rintro e w2 ⟨rfl, b1⟩
  go_wp2
  go_ret
  exact ⟨rfl, b1⟩
set_option maxHeartbeats 4000000 in
set_option maxRecDepth 1000000 in
theorem c_NumRing_3 (wd : Bool) (P : Nat) (x y z o : Int) (HW : Hid (∀ w, Calls Try.prog 12 #[.int .u8 108, .bool wd] w fun e w' => e = .returned (.int .u8 o) ∧ w' = w)) (Q : World → World → Prop) (HT : Hid (∀ w, Calls Try.prog 11 #[.int .u8 o, .int .i64 x, .int .i64 y] w fun e w' => e = .returned (.int .i64 z) ∧ Q w w')) (w : World) (_hc : w.cell? ⟨P, 0, none⟩ = some (.bool wd)) :
    Calls Try.prog 14 #[.int .i64 x, .int .i64 y, .pointer (some ⟨P, 0, none⟩)] w fun e w' => e = .returned (.int .i64 z) ∧ Q w w' := by
  go_enter Try.func14, Try.ntmps14
  go_wp2_with fail
  refine (HW.out _).mono ?_
  rintro e w1 ⟨rfl, rfl⟩
  go_wp2_with fail
  refine (HT.out _).mono ?_
  rintro e w2 ⟨rfl, b1⟩
  go_wp2
  go_ret
  exact ⟨rfl, b1⟩
set_option maxHeartbeats 4000000 in
set_option maxRecDepth 1000000 in
theorem numRing_core (wd : Bool) (a0 b0 c0 a b c s1 s2 s3 d m1 m2 m3 m4 m5 n : Int) (P : Nat) (add sub mul : Int → Int → Int → Prop) (Hadd : Hid (∀ x y z, add x y z → ∀ w, w.cell? ⟨P, 0, none⟩ = some (.bool wd) → Calls Try.prog 10 #[.int .i64 x, .int .i64 y, .pointer (some ⟨P, 0, none⟩)] w fun e w' => e = .returned (.int .i64 z) ∧ w' = w)) (Hsub : Hid (∀ x y z, sub x y z → ∀ w, w.cell? ⟨P, 0, none⟩ = some (.bool wd) → Calls Try.prog 13 #[.int .i64 x, .int .i64 y, .pointer (some ⟨P, 0, none⟩)] w fun e w' => e = .returned (.int .i64 z) ∧ w' = w)) (Hmul : Hid (∀ x y z, mul x y z → ∀ w, w.cell? ⟨P, 0, none⟩ = some (.bool wd) → Calls Try.prog 14 #[.int .i64 x, .int .i64 y, .pointer (some ⟨P, 0, none⟩)] w fun e w' => e = .returned (.int .i64 z) ∧ w' = w))
    (ha : fitW wd a0 = a) (hb : fitW wd b0 = b) (hc : fitW wd c0 = c) (E0 : Hid (add a b s1)) (E1 : Hid (add b a s1)) (E2 : Hid (add s1 c s2)) (E3 : Hid (add b c s3)) (E4 : Hid (add a s3 s2)) (E5 : Hid (add a 0 a)) (E6 : Hid (sub a a 0)) (E7 : Hid (sub a b d)) (E8 : Hid (add d b a)) (E9 : Hid (mul a b m1)) (E10 : Hid (mul b a m1)) (E11 : Hid (mul m1 c m2)) (E12 : Hid (mul b c m3)) (E13 : Hid (mul a m3 m2)) (E14 : Hid (mul a 1 a)) (E15 : Hid (mul a s3 m4)) (E16 : Hid (mul a c m5)) (E17 : Hid (add m1 m5 m4)) (E18 : Hid (sub 0 a n)) (E19 : Hid (mul a (-1) n)) (w : World) (hP : w.heap.size = P) :
    Calls Try.prog 4 #[.int .i64 a0, .int .i64 b0, .int .i64 c0, .bool wd] w fun e w' => e = .returned (.bool true) ∧ Below w.heap.size w w' := by
  have HFIT : Hid (Calls Try.prog 9 #[.bool wd, .slice (some ⟨w.heap.size + 1, 0, none⟩) 5 5] ((w.alloc (.cells #[.bool wd] 4)).alloc (.cells #[.int .i64 a0, .int .i64 b0, .int .i64 c0, .int .i64 1, .int .i64 (-1)] 2)) fun e w' => e = .returned (.slice (some ⟨w.heap.size + 1, 0, none⟩) 5 5) ∧ (w'.cell? ⟨w.heap.size + 1, 0, none⟩ = some (.int .i64 a) ∧ w'.cell? ⟨w.heap.size + 1, 1, none⟩ = some (.int .i64 b) ∧ w'.cell? ⟨w.heap.size + 1, 2, none⟩ = some (.int .i64 c)) ∧ w'.cell? ⟨w.heap.size, 0, none⟩ = some (.bool wd) ∧ Below w.heap.size w w') := by
    refine (fits_new wd [a0, b0, c0, 1, -1] _ 5 (w.heap.size + 1) rfl (by omega) rfl (w.alloc (.cells #[.bool wd] 4)) (by simp)).mono ?_
    rintro e w1 ⟨rfl, hcs, hb1⟩
    have c0 := hcs 0 (by omega)
    have c1 := hcs 1 (by omega)
    have c2 := hcs 2 (by omega)
    refine ⟨rfl, ⟨by rw [← ha]; exact c0, by rw [← hb]; exact c1, by rw [← hc]; exact c2⟩, ?_, ((Below.refl _ _).alloc (Nat.le_refl _) _).trans (hb1.mono (by simp))⟩
    rw [hb1.cell (p := ⟨w.heap.size, 0, none⟩) (by simp)]
    exact cell_one_new _ _ _ 0 _ rfl
  subst hP
  go_enter Try.func4, Try.ntmps4
  go_wp2_with fail
  refine HFIT.out.mono ?_
  rintro e w1 ⟨rfl, ⟨hc0, hc1, hc2⟩, hcw, hbel⟩
  clear HFIT ha hb hc
  go_wp2_with fail
  go_quiet (fail)
  have hcw2 : (w1.drewN nq).cell? ⟨w.heap.size, 0, none⟩ = some (.bool wd) := hcw
  have HB : Hid (Below w.heap.size w (w1.drewN nq)) := below_drewN hbel _
  generalize w1.drewN nq = w2 at hcw2 HB
  clear hcw hbel hc0 hc1 hc2
  have HC : Hid _ := hcw2
  clear hcw2
  go_wp2_with fail
  refine (Hadd.out _ _ _ E0.out _ HC.out).mono ?_
  rintro e w3 ⟨rfl, rfl⟩
  go_wp2_with fail
  refine (Hadd.out _ _ _ E1.out _ HC.out).mono ?_
  rintro e w3 ⟨rfl, rfl⟩
  go_wp2_with fail
  refine (Hadd.out _ _ _ E0.out _ HC.out).mono ?_
  rintro e w3 ⟨rfl, rfl⟩
  go_wp2_with fail
  refine (Hadd.out _ _ _ E2.out _ HC.out).mono ?_
  rintro e w3 ⟨rfl, rfl⟩
  go_wp2_with fail
  refine (Hadd.out _ _ _ E3.out _ HC.out).mono ?_
  rintro e w3 ⟨rfl, rfl⟩
  go_wp2_with fail
  refine (Hadd.out _ _ _ E4.out _ HC.out).mono ?_
  rintro e w3 ⟨rfl, rfl⟩
  go_wp2_with fail
  refine (Hadd.out _ _ _ E5.out _ HC.out).mono ?_
  rintro e w3 ⟨rfl, rfl⟩
  go_wp2_with fail
  refine (Hsub.out _ _ _ E6.out _ HC.out).mono ?_
  rintro e w3 ⟨rfl, rfl⟩
  go_wp2_with fail
  refine (Hsub.out _ _ _ E7.out _ HC.out).mono ?_
  rintro e w3 ⟨rfl, rfl⟩
  go_wp2_with fail
  refine (Hadd.out _ _ _ E8.out _ HC.out).mono ?_
  rintro e w3 ⟨rfl, rfl⟩
  go_wp2_with fail
  refine (Hmul.out _ _ _ E9.out _ HC.out).mono ?_
  rintro e w3 ⟨rfl, rfl⟩
  go_wp2_with fail
  refine (Hmul.out _ _ _ E10.out _ HC.out).mono ?_
  rintro e w3 ⟨rfl, rfl⟩
  go_wp2_with fail
  refine (Hmul.out _ _ _ E9.out _ HC.out).mono ?_
  rintro e w3 ⟨rfl, rfl⟩
  go_wp2_with fail
  refine (Hmul.out _ _ _ E11.out _ HC.out).mono ?_
  rintro e w3 ⟨rfl, rfl⟩
  go_wp2_with fail
  refine (Hmul.out _ _ _ E12.out _ HC.out).mono ?_
  rintro e w3 ⟨rfl, rfl⟩
  go_wp2_with fail
  refine (Hmul.out _ _ _ E13.out _ HC.out).mono ?_
  rintro e w3 ⟨rfl, rfl⟩
  go_wp2_with fail
  refine (Hmul.out _ _ _ E14.out _ HC.out).mono ?_
  rintro e w3 ⟨rfl, rfl⟩
  go_wp2_with fail
  refine (Hadd.out _ _ _ E3.out _ HC.out).mono ?_
  rintro e w3 ⟨rfl, rfl⟩
  go_wp2_with fail
  refine (Hmul.out _ _ _ E15.out _ HC.out).mono ?_
  rintro e w3 ⟨rfl, rfl⟩
  go_wp2_with fail
  refine (Hmul.out _ _ _ E9.out _ HC.out).mono ?_
  rintro e w3 ⟨rfl, rfl⟩
  go_wp2_with fail
  refine (Hmul.out _ _ _ E16.out _ HC.out).mono ?_
  rintro e w3 ⟨rfl, rfl⟩
  go_wp2_with fail
  refine (Hadd.out _ _ _ E17.out _ HC.out).mono ?_
  rintro e w3 ⟨rfl, rfl⟩
  go_wp2_with fail
  refine (Hsub.out _ _ _ E18.out _ HC.out).mono ?_
  rintro e w3 ⟨rfl, rfl⟩
  go_wp2_with fail
  refine (Hmul.out _ _ _ E19.out _ HC.out).mono ?_
  rintro e w3 ⟨rfl, rfl⟩
  go_wp2_with fail
  go_ret
  exact ⟨rfl, HB.out⟩
end Go.Proofs.Ytlbilmgpnpghlaa
