/-
  What the document's own InsWidth does.
-/
import Derived.Test.YtomiganjagjabaaMWid1
namespace Go.Proofs.Ytomiganjagjabaa
open Go.RowKit

set_option maxHeartbeats 2000000 in
set_option maxRecDepth 1000000 in
theorem rwidth_any (op : Nat) (h1 : op < 256) (w : World) (hM : MaxIn w) :
    Calls Try.prog 39 #[.int .u8 op] w fun e w' => e = .returned (.int .i64 (insW op)) ∧ Below w.heap.size w w' := by
  have HM : Hid (∀ w', Below w.heap.size w w' → MaxIn w') := fun w' b => hM.below b
  have HD : Hid (∀ w, Calls Try.prog 41 #[.int .i64 (IntKind.i64.wrap (op : Int))] w fun e w' => e = .returned (.string (strOfNums (digB op))) ∧ Below w.heap.size w w') := fun w => by
    rw [wrap_byte op h1]
    exact digits_any op (by omega) w
  have hds : (strOfNums (digB op)).size ≤ 20 := by rw [strOfNums_size]; exact digB_len64 op (by omega)
  have HC0 : Hid (∀ b, decide (insW op = 1) = b → ∀ w, MaxIn w → Calls Try.prog 40 #[.string ⟨#[44, 52, 52, 44, 52, 53, 44, 52, 56, 44, 52, 57, 44, 53, 56, 44, 54, 48, 44]⟩, .string ((ByteArray.mk #[44] ++ strOfNums (digB op)) ++ ByteArray.mk #[44])] w fun e w' => e = .returned (.bool b) ∧ w' = w) := fun b hb w hM => conc_0 op h1 b hb w hM
  have HC1 : Hid (∀ b, decide (insW op = 2) = b → ∀ w, MaxIn w → Calls Try.prog 40 #[.string ⟨#[44, 52, 54, 44, 52, 55, 44, 53, 48, 44, 53, 49, 44, 53, 57, 44, 54, 49, 44]⟩, .string ((ByteArray.mk #[44] ++ strOfNums (digB op)) ++ ByteArray.mk #[44])] w fun e w' => e = .returned (.bool b) ∧ w' = w) := fun b hb w hM => conc_1 op h1 b hb w hM
  have HC2 : Hid (∀ b, decide (insW op = 4) = b → ∀ w, MaxIn w → Calls Try.prog 40 #[.string ⟨#[44, 52, 48, 44, 53, 50, 44, 53, 51, 44, 53, 52, 44, 54, 50, 44]⟩, .string ((ByteArray.mk #[44] ++ strOfNums (digB op)) ++ ByteArray.mk #[44])] w fun e w' => e = .returned (.bool b) ∧ w' = w) := fun b hb w hM => conc_2 op h1 b hb w hM
  have HC3 : Hid (∀ b, decide (insW op = 8) = b → ∀ w, MaxIn w → Calls Try.prog 40 #[.string ⟨#[44, 52, 49, 44, 53, 53, 44]⟩, .string ((ByteArray.mk #[44] ++ strOfNums (digB op)) ++ ByteArray.mk #[44])] w fun e w' => e = .returned (.bool b) ∧ w' = w) := fun b hb w hM => conc_3 op h1 b hb w hM
  clear hM
  obtain ⟨D, hD⟩ : ∃ D, strOfNums (digB op) = D := ⟨_, rfl⟩
  rw [hD] at HD hds HC0 HC1 HC2 HC3
  clear hD
  obtain ⟨W, hW⟩ : ∃ W, insW (op : Int) = W := ⟨_, rfl⟩
  have HWr : Hid (W ≠ 1 → W ≠ 2 → W ≠ 4 → W ≠ 8 → W = 0) := by rw [← hW]; exact insW_rest op
  rw [hW] at HC0 HC1 HC2 HC3 ⊢
  clear hW
  go_enter Try.func39, Try.ntmps39
  go_wp2_with fail
  go_loopw [11] (fun i wr => ∃ k : Int, i = .int .i64 k ∧ 0 ≤ k ∧ k ≤ 4 ∧ Hid (WT wr w.heap.size) ∧ Hid (Below w.heap.size w wr) ∧ Hid ((0 < k → W ≠ 1) ∧ (1 < k → W ≠ 2) ∧ (2 < k → W ≠ 4) ∧ (3 < k → W ≠ 8))) (fun i _ => 4 - (intOf i).toNat)
  case atStart => exact ⟨0, rfl, by omega, by omega, new_block _ _, (Below.refl _ _).alloc (Nat.le_refl _) _, by unfold Hid; omega⟩
  case round =>
    obtain ⟨k, rfl, hk0, hk, HT, HB, HN⟩ := hrel
    by_cases hlt : k < 4
    · have hc : k = 0 ∨ k = 1 ∨ k = 2 ∨ k = 3 := by omega
      clear hk0 hk hlt
      rcases hc with rfl | rfl | rfl | rfl
      · obtain ⟨c0, c1⟩ := HT.out.cell0
        have xX : Hid (XW2 (wr.alloc (.cells #[.int .i64 1, .string ⟨#[44, 52, 52, 44, 52, 53, 44, 52, 56, 44, 52, 57, 44, 53, 56, 44, 54, 48, 44]⟩] 76)) wr.heap.size (.int .i64 1) (.string ⟨#[44, 52, 52, 44, 52, 53, 44, 52, 56, 44, 52, 57, 44, 53, 56, 44, 54, 48, 44]⟩)) := new_block _ _
        have HA : Hid (Below w.heap.size w (wr.alloc (.cells #[.int .i64 1, .string ⟨#[44, 52, 52, 44, 52, 53, 44, 52, 56, 44, 52, 57, 44, 53, 56, 44, 54, 48, 44]⟩] 76))) := HB.out.alloc HB.out.size _
        have HTA : Hid (WT (wr.alloc (.cells #[.int .i64 1, .string ⟨#[44, 52, 52, 44, 52, 53, 44, 52, 56, 44, 52, 57, 44, 53, 56, 44, 54, 48, 44]⟩] 76)) w.heap.size) := HT.out.keep ((Below.refl _ _).alloc (Nat.le_refl _) _)
        obtain ⟨b, hb⟩ : ∃ b, decide (W = 1) = b := ⟨_, rfl⟩
        have HCb : Hid (type_of% (HC0.out b hb)) := HC0.out b hb
        have Hb : Hid (decide (W = 1) = b) := hb
        clear hb HC0 HC1 HC2 HC3 HWr
        go_wp2_with fail
        clear HT c0 c1
        go_region_with (first
          | (go_at_call 41; refine (HD.out _).mono ?_; rintro e w2 ⟨rfl, b2⟩; have xX2 := XW2.keep xX.out b2; obtain ⟨z0, z1⟩ := xX2.cell)
          | (go_at_call 40; refine (HCb.out _ (HM.out _ (HA.out.drew.trans (b2.mono HA.out.size)))).mono ?_; rintro e w3 ⟨rfl, rfl⟩))
        all_goals
          have HBE : Hid (Below w.heap.size w w3) := HA.out.drew.trans (b2.mono HA.out.size)
          have HTE : Hid (WT w3 w.heap.size) := HTA.out.keepD b2
          clear HA HTA b2 HCb HD HM xX xX2
          cases b
          · have hw : W ≠ 1 := of_decide_eq_false Hb.out
            go_wp2
            go_roundw
            case rel => exact ⟨1, by first | rfl | go_num, by omega, by omega, HTE, HBE, by unfold Hid; have := HN.out; refine ⟨?_, ?_, ?_, ?_⟩ <;> intro _ <;> first | exact hw | (apply this.1; omega) | (apply this.2.1; omega) | (apply this.2.2.1; omega) | (exfalso; omega)⟩
            case measure => simp [intOf]
          · have hw : W = 1 := of_decide_eq_true Hb.out
            go_wp2
            go_ret
            subst hw
            exact ⟨rfl, HBE.out⟩
      · obtain ⟨c0, c1⟩ := HT.out.cell1
        have xX : Hid (XW2 (wr.alloc (.cells #[.int .i64 2, .string ⟨#[44, 52, 54, 44, 52, 55, 44, 53, 48, 44, 53, 49, 44, 53, 57, 44, 54, 49, 44]⟩] 76)) wr.heap.size (.int .i64 2) (.string ⟨#[44, 52, 54, 44, 52, 55, 44, 53, 48, 44, 53, 49, 44, 53, 57, 44, 54, 49, 44]⟩)) := new_block _ _
        have HA : Hid (Below w.heap.size w (wr.alloc (.cells #[.int .i64 2, .string ⟨#[44, 52, 54, 44, 52, 55, 44, 53, 48, 44, 53, 49, 44, 53, 57, 44, 54, 49, 44]⟩] 76))) := HB.out.alloc HB.out.size _
        have HTA : Hid (WT (wr.alloc (.cells #[.int .i64 2, .string ⟨#[44, 52, 54, 44, 52, 55, 44, 53, 48, 44, 53, 49, 44, 53, 57, 44, 54, 49, 44]⟩] 76)) w.heap.size) := HT.out.keep ((Below.refl _ _).alloc (Nat.le_refl _) _)
        obtain ⟨b, hb⟩ : ∃ b, decide (W = 2) = b := ⟨_, rfl⟩
        have HCb : Hid (type_of% (HC1.out b hb)) := HC1.out b hb
        have Hb : Hid (decide (W = 2) = b) := hb
        clear hb HC0 HC1 HC2 HC3 HWr
        go_wp2_with fail
        clear HT c0 c1
        go_region_with (first
          | (go_at_call 41; refine (HD.out _).mono ?_; rintro e w2 ⟨rfl, b2⟩; have xX2 := XW2.keep xX.out b2; obtain ⟨z0, z1⟩ := xX2.cell)
          | (go_at_call 40; refine (HCb.out _ (HM.out _ (HA.out.drew.trans (b2.mono HA.out.size)))).mono ?_; rintro e w3 ⟨rfl, rfl⟩))
        all_goals
          have HBE : Hid (Below w.heap.size w w3) := HA.out.drew.trans (b2.mono HA.out.size)
          have HTE : Hid (WT w3 w.heap.size) := HTA.out.keepD b2
          clear HA HTA b2 HCb HD HM xX xX2
          cases b
          · have hw : W ≠ 2 := of_decide_eq_false Hb.out
            go_wp2
            go_roundw
            case rel => exact ⟨2, by first | rfl | go_num, by omega, by omega, HTE, HBE, by unfold Hid; have := HN.out; refine ⟨?_, ?_, ?_, ?_⟩ <;> intro _ <;> first | exact hw | (apply this.1; omega) | (apply this.2.1; omega) | (apply this.2.2.1; omega) | (exfalso; omega)⟩
            case measure => simp [intOf]
          · have hw : W = 2 := of_decide_eq_true Hb.out
            go_wp2
            go_ret
            subst hw
            exact ⟨rfl, HBE.out⟩
      · obtain ⟨c0, c1⟩ := HT.out.cell2
        have xX : Hid (XW2 (wr.alloc (.cells #[.int .i64 4, .string ⟨#[44, 52, 48, 44, 53, 50, 44, 53, 51, 44, 53, 52, 44, 54, 50, 44]⟩] 76)) wr.heap.size (.int .i64 4) (.string ⟨#[44, 52, 48, 44, 53, 50, 44, 53, 51, 44, 53, 52, 44, 54, 50, 44]⟩)) := new_block _ _
        have HA : Hid (Below w.heap.size w (wr.alloc (.cells #[.int .i64 4, .string ⟨#[44, 52, 48, 44, 53, 50, 44, 53, 51, 44, 53, 52, 44, 54, 50, 44]⟩] 76))) := HB.out.alloc HB.out.size _
        have HTA : Hid (WT (wr.alloc (.cells #[.int .i64 4, .string ⟨#[44, 52, 48, 44, 53, 50, 44, 53, 51, 44, 53, 52, 44, 54, 50, 44]⟩] 76)) w.heap.size) := HT.out.keep ((Below.refl _ _).alloc (Nat.le_refl _) _)
        obtain ⟨b, hb⟩ : ∃ b, decide (W = 4) = b := ⟨_, rfl⟩
        have HCb : Hid (type_of% (HC2.out b hb)) := HC2.out b hb
        have Hb : Hid (decide (W = 4) = b) := hb
        clear hb HC0 HC1 HC2 HC3 HWr
        go_wp2_with fail
        clear HT c0 c1
        go_region_with (first
          | (go_at_call 41; refine (HD.out _).mono ?_; rintro e w2 ⟨rfl, b2⟩; have xX2 := XW2.keep xX.out b2; obtain ⟨z0, z1⟩ := xX2.cell)
          | (go_at_call 40; refine (HCb.out _ (HM.out _ (HA.out.drew.trans (b2.mono HA.out.size)))).mono ?_; rintro e w3 ⟨rfl, rfl⟩))
        all_goals
          have HBE : Hid (Below w.heap.size w w3) := HA.out.drew.trans (b2.mono HA.out.size)
          have HTE : Hid (WT w3 w.heap.size) := HTA.out.keepD b2
          clear HA HTA b2 HCb HD HM xX xX2
          cases b
          · have hw : W ≠ 4 := of_decide_eq_false Hb.out
            go_wp2
            go_roundw
            case rel => exact ⟨3, by first | rfl | go_num, by omega, by omega, HTE, HBE, by unfold Hid; have := HN.out; refine ⟨?_, ?_, ?_, ?_⟩ <;> intro _ <;> first | exact hw | (apply this.1; omega) | (apply this.2.1; omega) | (apply this.2.2.1; omega) | (exfalso; omega)⟩
            case measure => simp [intOf]
          · have hw : W = 4 := of_decide_eq_true Hb.out
            go_wp2
            go_ret
            subst hw
            exact ⟨rfl, HBE.out⟩
      · obtain ⟨c0, c1⟩ := HT.out.cell3
        have xX : Hid (XW2 (wr.alloc (.cells #[.int .i64 8, .string ⟨#[44, 52, 49, 44, 53, 53, 44]⟩] 76)) wr.heap.size (.int .i64 8) (.string ⟨#[44, 52, 49, 44, 53, 53, 44]⟩)) := new_block _ _
        have HA : Hid (Below w.heap.size w (wr.alloc (.cells #[.int .i64 8, .string ⟨#[44, 52, 49, 44, 53, 53, 44]⟩] 76))) := HB.out.alloc HB.out.size _
        have HTA : Hid (WT (wr.alloc (.cells #[.int .i64 8, .string ⟨#[44, 52, 49, 44, 53, 53, 44]⟩] 76)) w.heap.size) := HT.out.keep ((Below.refl _ _).alloc (Nat.le_refl _) _)
        obtain ⟨b, hb⟩ : ∃ b, decide (W = 8) = b := ⟨_, rfl⟩
        have HCb : Hid (type_of% (HC3.out b hb)) := HC3.out b hb
        have Hb : Hid (decide (W = 8) = b) := hb
        clear hb HC0 HC1 HC2 HC3 HWr
        go_wp2_with fail
        clear HT c0 c1
        go_region_with (first
          | (go_at_call 41; refine (HD.out _).mono ?_; rintro e w2 ⟨rfl, b2⟩; have xX2 := XW2.keep xX.out b2; obtain ⟨z0, z1⟩ := xX2.cell)
          | (go_at_call 40; refine (HCb.out _ (HM.out _ (HA.out.drew.trans (b2.mono HA.out.size)))).mono ?_; rintro e w3 ⟨rfl, rfl⟩))
        all_goals
          have HBE : Hid (Below w.heap.size w w3) := HA.out.drew.trans (b2.mono HA.out.size)
          have HTE : Hid (WT w3 w.heap.size) := HTA.out.keepD b2
          clear HA HTA b2 HCb HD HM xX xX2
          cases b
          · have hw : W ≠ 8 := of_decide_eq_false Hb.out
            go_wp2
            go_roundw
            case rel => exact ⟨4, by first | rfl | go_num, by omega, by omega, HTE, HBE, by unfold Hid; have := HN.out; refine ⟨?_, ?_, ?_, ?_⟩ <;> intro _ <;> first | exact hw | (apply this.1; omega) | (apply this.2.1; omega) | (apply this.2.2.1; omega) | (exfalso; omega)⟩
            case measure => simp [intOf]
          · have hw : W = 8 := of_decide_eq_true Hb.out
            go_wp2
            go_ret
            subst hw
            exact ⟨rfl, HBE.out⟩
    · have hk4 : k = 4 := by omega
      subst hk4
      have hn := HN.out
      have hz := HWr.out (hn.1 (by omega)) (hn.2.1 (by omega)) (hn.2.2.1 (by omega)) (hn.2.2.2 (by omega))
      clear hn
      go_wp2
      go_ret
      subst hz
      exact ⟨rfl, HB.out⟩

end Go.Proofs.Ytomiganjagjabaa
