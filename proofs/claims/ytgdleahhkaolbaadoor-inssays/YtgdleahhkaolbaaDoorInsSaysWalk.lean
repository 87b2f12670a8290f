/-
  The law of what is said of an instruction, held against the document's answer: its walk.
-/
import Derived.Test.YtgdleahhkaolbaaDoorRWr2
import Derived.Test.YtgdleahhkaolbaaDoorREqK
import Derived.Deep.RegionHeld3
import Derived.Deep.RegionWith
namespace Go.Proofs.YtgdleahhkaolbaaDoor
open Go.RowKit

set_option maxHeartbeats 16000000 in
set_option maxRecDepth 1000000 in
theorem says_core (op A B : Int) (o : Option Addr) (n cap : Nat) (W : ByteArray) (f wd : Int) (is : Bool) (k1 k2 : List Int) (w : World)
    (HPW : Hid (∀ w', Below w.heap.size w w' → Calls Tryd.prog 9 #[.agg #[.int .u8 op, .int .i64 A, .int .i64 B, .slice o n cap]] w' fun r w'' => r = .returned (.tuple #[.string W, .int .i64 f]) ∧ Below w'.heap.size w' w''))
    (HRW : Hid (∀ w', Below w.heap.size w w' → Calls Tryd.prog 10 #[.agg #[.int .u8 op, .int .i64 A, .int .i64 B, .slice o n cap]] w' fun r w'' => r = .returned (.tuple #[.string W, .int .i64 f]) ∧ Below w'.heap.size w' w''))
    (HPP : Hid (∀ w', Below w.heap.size w w' → Calls Tryd.prog 11 #[.int .u8 op] w' fun r w'' => ∃ o1 c1 o2 c2, r = .returned (.tuple #[.slice o1 k1.length c1, .slice o2 k2.length c2, .bool is]) ∧ (LK w'' o1 k1.length k1 ∧ c1 = k1.length) ∧ (LK w'' o2 k2.length k2 ∧ c2 = k2.length) ∧ Below w'.heap.size w' w''))
    (HRP : Hid (∀ w', Below w.heap.size w w' → Calls Tryd.prog 12 #[.int .u8 op] w' fun r w'' => ∃ o1 c1 o2 c2, r = .returned (.tuple #[.slice o1 k1.length c1, .slice o2 k2.length c2, .bool is]) ∧ (LK w'' o1 k1.length k1 ∧ k1.length ≤ c1 ∧ c1 ≤ maxLen) ∧ (LK w'' o2 k2.length k2 ∧ k2.length ≤ c2 ∧ c2 ≤ maxLen) ∧ Below w'.heap.size w' w''))
    (HEQ : Hid (∀ w' k o1 c1 o2 c2, (LK w' o1 (List.length k) k ∧ c1 = k.length) → (LK w' o2 k.length k ∧ k.length ≤ c2 ∧ c2 ≤ maxLen) → Calls Tryd.prog 13 #[.slice o1 k.length c1, .slice o2 k.length c2] w' fun r w'' => r = .returned (.bool true) ∧ w'' = w'))
    (HWD : Hid (∀ w', Calls Tryd.prog 14 #[.int .u8 op] w' fun r w'' => r = .returned (.int .i64 wd) ∧ w'' = w'))
    (HRD : Hid (∀ w', Below w.heap.size w w' → Calls Tryd.prog 15 #[.int .u8 op] w' fun r w'' => r = .returned (.int .i64 wd) ∧ Below w'.heap.size w' w''))
    (HPC : Hid (∀ w', Below w.heap.size w w' → Calls Tryd.prog 16 #[.agg #[.int .u8 op, .int .i64 A, .int .i64 B, .slice o n cap]] w' fun r w'' => r = .returned (.int .i64 f) ∧ Below w'.heap.size w' w''))
    (HRC : Hid (∀ w', Below w.heap.size w w' → Calls Tryd.prog 17 #[.agg #[.int .u8 op, .int .i64 A, .int .i64 B, .slice o n cap]] w' fun r w'' => r = .returned (.int .i64 f) ∧ Below w'.heap.size w' w'')) :
    Calls Tryd.prog 3 #[.agg #[.int .u8 op, .int .i64 A, .int .i64 B, .slice o n cap]] w fun r w' => r = .returned (.bool true) ∧ Below w.heap.size w w' := by
  go_enter Tryd.func3, Tryd.ntmps3
  go_wp2_with fail
  refine (HPW.out _ ((Below.refl _ _).alloc (Nat.le_refl _) _)).mono ?_
  rintro e w1 ⟨rfl, b1⟩
  have HX1 : Hid (XS w1 w.heap.size (.int .u8 op) (.int .i64 A) (.int .i64 B) (.slice o n cap)) := by
    unfold Hid XS
    rw [b1.block w.heap.size (by simp)]
    exact new_block _ _
  have HB1 : Hid (Below w.heap.size w w1) := ((Below.refl _ _).alloc (Nat.le_refl _) _).trans (b1.mono (by simp))
  obtain ⟨x0, x1, x2, x3⟩ := XS.cell HX1.out
  clear b1 HPW
  go_wp2_with fail
  refine (HRW.out _ HB1.out).mono ?_
  rintro e w2 ⟨rfl, b2⟩
  have HX2 : Hid (type_of% (XS.under HX1.out b2)) := XS.under HX1.out b2
  have HB2 : Hid (Below w.heap.size w w2) := HB1.out.trans (b2.mono HB1.out.size)
  obtain ⟨x0, x1, x2, x3⟩ := XS.cell HX2.out
  clear b2 HRW HX1 HB1
  go_wp2_with fail
  refine (HPP.out _ HB2.out).mono ?_
  rintro e w3 ⟨o1, c1, o2, c2, rfl, j1, j2, b3⟩
  have HX3 : Hid (type_of% (XS.under HX2.out b3)) := XS.under HX2.out b3
  have HB3 : Hid (Below w.heap.size w w3) := HB2.out.trans (b3.mono HB2.out.size)
  have HJ1 : Hid (type_of% j1) := j1
  have HJ2 : Hid (type_of% j2) := j2
  obtain ⟨x0, x1, x2, x3⟩ := XS.cell HX3.out
  clear b3 HPP HX2 HB2 j1 j2
  go_wp2_with fail
  refine (HRP.out _ HB3.out).mono ?_
  rintro e w4 ⟨p1, d1, p2, d2, rfl, q1, q2, b4⟩
  have HX4 : Hid (type_of% (XS.under HX3.out b4)) := XS.under HX3.out b4
  have HB4 : Hid (Below w.heap.size w w4) := HB3.out.trans (b4.mono HB3.out.size)
  have HE1 : Hid (∀ w', Below w4.heap.size w4 w' → Calls Tryd.prog 13 #[.slice o1 k1.length c1, .slice p1 k1.length d1] w' fun r w'' => r = .returned (.bool true) ∧ w'' = w') := fun w' b => HEQ.out w' k1 o1 c1 p1 d1 ⟨(HJ1.out.1.below b4).below b, HJ1.out.2⟩ ⟨q1.1.below b, q1.2⟩
  have HE2 : Hid (∀ w', Below w4.heap.size w4 w' → Calls Tryd.prog 13 #[.slice o2 k2.length c2, .slice p2 k2.length d2] w' fun r w'' => r = .returned (.bool true) ∧ w'' = w') := fun w' b => HEQ.out w' k2 o2 c2 p2 d2 ⟨(HJ2.out.1.below b4).below b, HJ2.out.2⟩ ⟨q2.1.below b, q2.2⟩
  obtain ⟨x0, x1, x2, x3⟩ := XS.cell HX4.out
  clear b4 HRP HX3 HB3 q1 q2 HJ1 HJ2 HEQ
  generalize k1.length = n1 at HE1 ⊢
  generalize k2.length = n2 at HE2 ⊢
  have hX4 : w.heap.size < w4.heap.size := XS.lt HX4.out
  have hX4d : w.heap.size < w4.drew.heap.size := hX4
  go_wp2
  go_region_held3 (fun w' => w'.cell? ⟨w.heap.size, 0, none⟩ = some (.int .u8 op) ∧ w'.cell? ⟨w.heap.size, 1, none⟩ = some (.int .i64 A) ∧ w'.cell? ⟨w.heap.size, 2, none⟩ = some (.int .i64 B) ∧ w'.cell? ⟨w.heap.size, 3, none⟩ = some (.slice o n cap))
    (first
      | go_keep
      | (go_split_ands
         refine ⟨?_, ?_, ?_, ?_⟩
         · (rw [b9.cell (p := ⟨w.heap.size, 0, none⟩) h9]; assumption)
         · (rw [b9.cell (p := ⟨w.heap.size, 1, none⟩) h9]; assumption)
         · (rw [b9.cell (p := ⟨w.heap.size, 2, none⟩) h9]; assumption)
         · (rw [b9.cell (p := ⟨w.heap.size, 3, none⟩) h9]; assumption))
      | (go_split_ands
         refine ⟨?_, ?_, ?_, ?_⟩
         · (rw [b8.cell (p := ⟨w.heap.size, 0, none⟩) h8]; assumption)
         · (rw [b8.cell (p := ⟨w.heap.size, 1, none⟩) h8]; assumption)
         · (rw [b8.cell (p := ⟨w.heap.size, 2, none⟩) h8]; assumption)
         · (rw [b8.cell (p := ⟨w.heap.size, 3, none⟩) h8]; assumption))
      | (go_split_ands
         refine ⟨?_, ?_, ?_, ?_⟩
         · (rw [b7.cell (p := ⟨w.heap.size, 0, none⟩) hX4d]; assumption)
         · (rw [b7.cell (p := ⟨w.heap.size, 1, none⟩) hX4d]; assumption)
         · (rw [b7.cell (p := ⟨w.heap.size, 2, none⟩) hX4d]; assumption)
         · (rw [b7.cell (p := ⟨w.heap.size, 3, none⟩) hX4d]; assumption)))
    (first
      | (go_at_call_of 13 (Value.slice o1 n1 c1); refine (HE1.out _ (Below.refl _ _).drew).mono ?_; rintro e w5 ⟨rfl, rfl⟩)
      | (go_at_call_of 13 (Value.slice o2 n2 c2); refine (HE2.out _ (Below.refl _ _).drew).mono ?_; rintro e w6 ⟨rfl, rfl⟩)
      | (go_at_call 14; refine (HWD.out _).mono ?_; rintro e w7 ⟨rfl, rfl⟩)
      | (go_at_call 15; refine (HRD.out _ HB4.out.drew).mono ?_; rintro e w8 ⟨rfl, b7⟩; have HB5 : Hid (Below w.heap.size w w8) := HB4.out.drew.trans (b7.mono HB4.out.size); have h8 : w.heap.size < w8.heap.size := Nat.lt_of_lt_of_le hX4 b7.size)
      | (go_at_call 16; refine (HPC.out _ HB5.out).mono ?_; rintro e w9 ⟨rfl, b8⟩; have HB6 : Hid (Below w.heap.size w w9) := HB5.out.trans (b8.mono HB5.out.size); have h9 : w.heap.size < w9.heap.size := Nat.lt_of_lt_of_le h8 b8.size)
      | (go_at_call 17; refine (HRC.out _ HB6.out).mono ?_; rintro e wa ⟨rfl, b9⟩; have HB7 : Hid (Below w.heap.size w wa) := HB6.out.trans (b9.mono HB6.out.size)))
  all_goals
    clear HE1 HE2 HWD HRD HPC HRC b7 b8 b9
    go_wp2
    go_ret
    exact ⟨rfl, HB7.out⟩
theorem insSays_walk (op A B : Int) (o : Option Addr) (n cap : Nat) (xs : List Int) (h0 : 0 ≤ op) (h1 : op ≤ 255) (hA : -9223372036854775808 ≤ A ∧ A ≤ 9223372036854775807) (hcap : n ≤ cap) (hcm : cap ≤ maxLen) (hnil : o = none → cap = 0) (w : World) (hT : TabIn w) (hM : MaxIn w) (h : LJ w o n xs) :
    Calls Tryd.prog 3 #[.agg #[.int .u8 op, .int .i64 A, .int .i64 B, .slice o n cap]] w fun r w' => r = .returned (.bool true) ∧ Below w.heap.size w w' := by
  have ht0 : 1 < w.heap.size := by
    have hc := hT 0 (by omega)
    apply Nat.lt_of_not_le
    intro hle
    have : w.heap[1]? = none := Array.getElem?_eq_none hle
    simp [World.cell?, this] at hc
  have hT' : ∀ w', Below w.heap.size w w' → TabIn w' := fun w' hb => hT.chg (P := w.heap.size) (Chg.of_below hb) ht0 (by omega)
  have hm : n ≤ 9223372036854775807 := by unfold maxLen at hcm; omega
  obtain ⟨k, rfl⟩ : ∃ k : Nat, op = (k : Int) := ⟨op.toNat, by omega⟩
  refine says_core k A B o n cap (wrT k A B n xs) (chkV k A B n xs) (insW k) (pIs k) (pIn k) (pOut k) w
    (fun w' b => pwrite_any k A B o n cap xs h0 h1 hA hcap hm w' (h.below b) (hT' w' b) (Nat.lt_of_lt_of_le ht0 b.size))
    (fun w' b => rwrite_any k A B o n cap xs h0 h1 hA hcap hnil w' (h.below b) (hM.below b))
    (fun w' b => (plain_any k h0 h1 w' (hT' w' b)).mono ?_)
    (fun w' b => (rplain_any k (by omega) w' (hM.below b)).mono ?_)
    (fun w' ks o1 c1 o2 c2 j1 j2 => ?_)
    (fun w' => width_any k w')
    (fun w' b => rwidth_any k (by omega) w' (hM.below b))
    (fun w' b => check_any k A B o n cap xs h0 h1 hcap hm w' (h.below b) (hT' w' b) (Nat.lt_of_lt_of_le ht0 b.size))
    (fun w' b => rcheck_any k A B o n cap xs h0 h1 hcap w' (h.below b) (hM.below b))
  · rintro r w1 ⟨v1, v2, rfl, i1, i2, b1⟩
    obtain ⟨o1, c1, rfl, j1⟩ := LK_is i1
    obtain ⟨o2, c2, rfl, j2⟩ := LK_is i2
    exact ⟨o1, c1, o2, c2, rfl, j1, j2, b1⟩
  · rintro r w1 ⟨v1, v2, rfl, i1, i2, b1⟩
    obtain ⟨o1, c1, rfl, j1⟩ := LK_own i1 rfl
    obtain ⟨o2, c2, rfl, j2⟩ := LK_own i2 rfl
    exact ⟨o1, c1, o2, c2, rfl, j1, j2, b1⟩
  · obtain ⟨j1, rfl⟩ := j1
    obtain ⟨j2, hc2, hm2⟩ := j2
    unfold maxLen at hm2
    exact eqK_any o1 o2 ks ks.length ks.length c2 (Nat.le_refl _) hc2 (by omega) (by omega) w' j1 j2

end Go.Proofs.YtgdleahhkaolbaaDoor
