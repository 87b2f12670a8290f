/-
  BinAgain: what is read can be told: written it has no more bytes, and is read as it was.
-/
import Derived.Test.YtakpkdckajjooaaGreatDoorPBLaw
set_option maxHeartbeats 1000000
set_option maxRecDepth 1000000
namespace Go.Proofs.YtakpkdckajjooaaGreatDoor
set_option linter.unusedVariables false
open Go.RowKit
theorem bagain_err (s : ByteArray) (e : Int) (_he : (e == 0) = false) (w : World) (D : Array Value) (HID : Hid ((Tryz.prog.info? 30).map (·.size) = some D.size)) (HSD : Hid ((#[.slice none 0 0, .slice none 0 0, .slice none 0 0, .int .i64 0, .int .i64 0, .int .i64 0, .slice none 0 0, .slice none 0 0, .int .i64 0, .slice none 0 0, .slice none 0 0] : Array Value).size = D.size)) (HOD : Hid (D.all (·.oneCell') = true)) (HDZ : Hid (D = #[.slice none 0 0, .slice none 0 0, .slice none 0 0, .int .i64 0, .int .i64 0, .int .i64 0, .slice none 0 0, .slice none 0 0, .int .i64 0, .slice none 0 0, .slice none 0 0]))
    (HR : Hid (∀ w', Below w.heap.size w w' → Calls Tryz.prog 13 #[.string s] w' fun r w'' => r = .returned (.tuple #[.agg D, .int .i64 e]) ∧ Below w'.heap.size w' w''))
    (HSM : Hid (∀ w', Below w.heap.size w w' → Calls Tryz.prog 15 #[.agg D, .agg #[.slice none 0 0, .slice none 0 0, .slice none 0 0, .int .i64 0, .int .i64 0, .int .i64 0, .slice none 0 0, .slice none 0 0, .int .i64 0, .slice none 0 0, .slice none 0 0]] w' fun r w'' => r = .returned (.bool true) ∧ Below w'.heap.size w' w'')) :
    Calls Tryz.prog 7 #[.string s] w fun r w' => r = .returned (.bool true) ∧ Below w.heap.size w w' := by
  have hne : (e != 0) = true := by rw [bne, _he]; rfl
  go_enter Tryz.func7, Tryz.ntmps7
  go_wp2_with fail
  refine (HR.out _ (Below.refl _ _)).mono ?_
  rintro r w1 ⟨rfl, b1⟩
  have HB1 : Hid (Below w.heap.size w w1) := b1
  clear b1 HR
  obtain ⟨W2, hW2⟩ : ∃ W2, W2 = (w1.alloc (.cells #[.slice none 0 0, .slice none 0 0, .slice none 0 0, .int .i64 0, .int .i64 0, .int .i64 0, .slice none 0 0, .slice none 0 0, .int .i64 0, .slice none 0 0, .slice none 0 0] 30)).setRow w1.heap.size D := ⟨_, rfl⟩
  have hnr := new_row w1 #[.slice none 0 0, .slice none 0 0, .slice none 0 0, .int .i64 0, .int .i64 0, .int .i64 0, .slice none 0 0, .slice none 0 0, .int .i64 0, .slice none 0 0, .slice none 0 0] D 30
  rw [← hW2] at hnr
  have HRow2 : Hid (W2.heap[w1.heap.size]? = some (.cells D 30 (0, 0))) := hnr.1
  have HN2 : Hid (Below w1.heap.size w1 W2) := hnr.2
  have HZL2 : Hid (w1.heap.size < W2.heap.size) := (Array.getElem?_eq_some_iff.1 hnr.1).1
  have HZR2 : Hid ((w1.alloc (.cells #[.slice none 0 0, .slice none 0 0, .slice none 0 0, .int .i64 0, .int .i64 0, .int .i64 0, .slice none 0 0, .slice none 0 0, .int .i64 0, .slice none 0 0, .slice none 0 0] 30)).heap[w1.heap.size]? = some (.cells #[.slice none 0 0, .slice none 0 0, .slice none 0 0, .int .i64 0, .int .i64 0, .int .i64 0, .slice none 0 0, .slice none 0 0, .int .i64 0, .slice none 0 0, .slice none 0 0] 30 (0, 0))) := new_block _ _
  have HW2 : Hid (type_of% hW2) := hW2
  clear hnr hW2
  have HB2 : Hid (Below w.heap.size w W2) := HB1.out.trans (HN2.out.mono HB1.out.size)
  go_wp2_with (first | (refine wpList_store_row rfl 30 (.tmp 3) (.tmp 10) rfl w1.heap.size D rfl rfl 30 _ HZR2.out HID.out HSD.out HOD.out ?_; rw [← HW2.out]) | (refine wpList_load_row rfl 30 (.tmp 3) rfl w1.heap.size rfl 30 D (0, 0) _ HRow2.out Tryz.underlying30 rfl HID.out ?_))
  refine (HSM.out _ HB2.out).mono ?_
  rintro r w7 ⟨rfl, b7⟩
  have HB7 : Hid (Below w.heap.size w w7) := HB2.out.trans (b7.mono HB2.out.size)
  clear b7
  go_wp2
  go_ret
  exact ⟨rfl, HB7.out⟩
theorem bagain_ok (s : ByteArray) (_hs : s.size ≤ 9223372036854775807) (n : Nat) (_hn : n ≤ s.size) (_hn8 : 8 ≤ n) (w : World)
    (HR : Hid (∀ w', Below w.heap.size w w' → Calls Tryz.prog 13 #[.string s] w' fun r w'' => ∃ D : Array Value, r = .returned (.tuple #[.agg D, .int .i64 0]) ∧ Hid ((Tryz.prog.info? 30).map (·.size) = some D.size) ∧ Hid ((#[.slice none 0 0, .slice none 0 0, .slice none 0 0, .int .i64 0, .int .i64 0, .int .i64 0, .slice none 0 0, .slice none 0 0, .int .i64 0, .slice none 0 0, .slice none 0 0] : Array Value).size = D.size) ∧ Hid (D.all (·.oneCell') = true) ∧ Below w'.heap.size w' w'' ∧
      Hid (∀ w3, Below w''.heap.size w'' w3 → Below w.heap.size w w3 → Calls Tryz.prog 9 #[.agg D] w3 fun r w4 => r = .returned (.int .i64 0) ∧ Below w3.heap.size w3 w4) ∧
      Hid (∀ w3, Below w''.heap.size w'' w3 → Below w.heap.size w w3 → Calls Tryz.prog 11 #[.agg D] w3 fun r w4 => ∃ t, r = .returned (.tuple #[.string t, .int .i64 0]) ∧ t.size = n ∧ Below w3.heap.size w3 w4 ∧
        Hid (∀ w5, Below w''.heap.size w'' w5 → Below w.heap.size w w5 → Calls Tryz.prog 13 #[.string t] w5 fun r w6 => ∃ E : Array Value, r = .returned (.tuple #[.agg E, .int .i64 0]) ∧ Hid ((Tryz.prog.info? 30).map (·.size) = some E.size) ∧ Hid ((#[.slice none 0 0, .slice none 0 0, .slice none 0 0, .int .i64 0, .int .i64 0, .int .i64 0, .slice none 0 0, .slice none 0 0, .int .i64 0, .slice none 0 0, .slice none 0 0] : Array Value).size = E.size) ∧ Hid (E.all (·.oneCell') = true) ∧ Below w5.heap.size w5 w6 ∧
          Hid (∀ w7, Below w6.heap.size w6 w7 → Below w''.heap.size w'' w7 → Calls Tryz.prog 15 #[.agg D, .agg E] w7 fun r w8 => r = .returned (.bool true) ∧ Below w7.heap.size w7 w8))))) :
    Calls Tryz.prog 7 #[.string s] w fun r w' => r = .returned (.bool true) ∧ Below w.heap.size w w' := by
  go_enter Tryz.func7, Tryz.ntmps7
  go_wp2_with fail
  refine (HR.out _ (Below.refl _ _)).mono ?_
  rintro r w1 ⟨D, rfl, HID, HSD, HOD, b1, HCK, HWR⟩
  have HB1 : Hid (Below w.heap.size w w1) := b1
  clear b1 HR
  obtain ⟨W2, hW2⟩ : ∃ W2, W2 = (w1.alloc (.cells #[.slice none 0 0, .slice none 0 0, .slice none 0 0, .int .i64 0, .int .i64 0, .int .i64 0, .slice none 0 0, .slice none 0 0, .int .i64 0, .slice none 0 0, .slice none 0 0] 30)).setRow w1.heap.size D := ⟨_, rfl⟩
  have hnr := new_row w1 #[.slice none 0 0, .slice none 0 0, .slice none 0 0, .int .i64 0, .int .i64 0, .int .i64 0, .slice none 0 0, .slice none 0 0, .int .i64 0, .slice none 0 0, .slice none 0 0] D 30
  rw [← hW2] at hnr
  have HRow2 : Hid (W2.heap[w1.heap.size]? = some (.cells D 30 (0, 0))) := hnr.1
  have HN2 : Hid (Below w1.heap.size w1 W2) := hnr.2
  have HZL2 : Hid (w1.heap.size < W2.heap.size) := (Array.getElem?_eq_some_iff.1 hnr.1).1
  have HZR2 : Hid ((w1.alloc (.cells #[.slice none 0 0, .slice none 0 0, .slice none 0 0, .int .i64 0, .int .i64 0, .int .i64 0, .slice none 0 0, .slice none 0 0, .int .i64 0, .slice none 0 0, .slice none 0 0] 30)).heap[w1.heap.size]? = some (.cells #[.slice none 0 0, .slice none 0 0, .slice none 0 0, .int .i64 0, .int .i64 0, .int .i64 0, .slice none 0 0, .slice none 0 0, .int .i64 0, .slice none 0 0, .slice none 0 0] 30 (0, 0))) := new_block _ _
  have HW2 : Hid (type_of% hW2) := hW2
  clear hnr hW2
  have HB2 : Hid (Below w.heap.size w W2) := HB1.out.trans (HN2.out.mono HB1.out.size)
  go_wp2_with (first | (refine wpList_store_row rfl 30 (.tmp 3) (.tmp 10) rfl w1.heap.size D rfl rfl 30 _ HZR2.out HID.out HSD.out HOD.out ?_; rw [← HW2.out]) | (refine wpList_load_row rfl 30 (.tmp 3) rfl w1.heap.size rfl 30 D (0, 0) _ HRow2.out Tryz.underlying30 rfl HID.out ?_))
  refine (HWR.out _ HN2.out HB2.out).mono ?_
  rintro r w3 ⟨t, rfl, ht, b3, HRE⟩
  have HRow3 : Hid (w3.heap[w1.heap.size]? = some (.cells D 30 (0, 0))) := (b3.block _ HZL2.out).trans HRow2.out
  have HN3 : Hid (Below w1.heap.size w1 w3) := HN2.out.trans (b3.mono HN2.out.size)
  have HB3 : Hid (Below w.heap.size w w3) := HB2.out.trans (b3.mono HB2.out.size)
  have HZL3 : Hid (w1.heap.size < w3.heap.size) := Nat.lt_of_lt_of_le HZL2.out b3.size
  have hg1 : ¬ (s.size < t.size) := by omega
  have hg2 : decide ((t.size : Int) < 8) = false := decide_eq_false (by omega)
  clear b3 HWR HRow2 HB2 HN2 HZL2 HZR2 HW2 ht
  go_wp2_with (refine wpList_load_row_g rfl 30 (.tmp 3) rfl w1.heap.size rfl 30 D (0, 0) _ HRow3.out Tryz.underlying30 rfl HID.out ?_)
  refine (HCK.out _ HN3.out HB3.out).mono ?_
  rintro r w4 ⟨rfl, b4⟩
  have HRow4 : Hid (w4.heap[w1.heap.size]? = some (.cells D 30 (0, 0))) := (b4.block _ HZL3.out).trans HRow3.out
  have HN4 : Hid (Below w1.heap.size w1 w4) := HN3.out.trans (b4.mono HN3.out.size)
  have HB4 : Hid (Below w.heap.size w w4) := HB3.out.trans (b4.mono HB3.out.size)
  have HZL4 : Hid (w1.heap.size < w4.heap.size) := Nat.lt_of_lt_of_le HZL3.out b4.size
  clear b4 HCK HRow3 HB3 HN3 HZL3
  go_wp2_with fail
  refine (HRE.out _ HN4.out HB4.out).mono ?_
  rintro r w5 ⟨E, rfl, HIE, HSE, HOE, b5, HSM⟩
  have HRow5 : Hid (w5.heap[w1.heap.size]? = some (.cells D 30 (0, 0))) := (b5.block _ HZL4.out).trans HRow4.out
  have HN5 : Hid (Below w1.heap.size w1 w5) := HN4.out.trans (b5.mono HN4.out.size)
  have HB5 : Hid (Below w.heap.size w w5) := HB4.out.trans (b5.mono HB4.out.size)
  have HZL5 : Hid (w1.heap.size < w5.heap.size) := Nat.lt_of_lt_of_le HZL4.out b5.size
  clear b5 HRE HRow4 HB4 HN4 HZL4
  obtain ⟨W6, hW6⟩ : ∃ W6, W6 = (w5.alloc (.cells #[.slice none 0 0, .slice none 0 0, .slice none 0 0, .int .i64 0, .int .i64 0, .int .i64 0, .slice none 0 0, .slice none 0 0, .int .i64 0, .slice none 0 0, .slice none 0 0] 30)).setRow w5.heap.size E := ⟨_, rfl⟩
  have hnr := new_row w5 #[.slice none 0 0, .slice none 0 0, .slice none 0 0, .int .i64 0, .int .i64 0, .int .i64 0, .slice none 0 0, .slice none 0 0, .int .i64 0, .slice none 0 0, .slice none 0 0] E 30
  rw [← hW6] at hnr
  have HRow6 : Hid (W6.heap[w5.heap.size]? = some (.cells E 30 (0, 0))) := hnr.1
  have HN6 : Hid (Below w5.heap.size w5 W6) := hnr.2
  have HZL6 : Hid (w5.heap.size < W6.heap.size) := (Array.getElem?_eq_some_iff.1 hnr.1).1
  have HZR6 : Hid ((w5.alloc (.cells #[.slice none 0 0, .slice none 0 0, .slice none 0 0, .int .i64 0, .int .i64 0, .int .i64 0, .slice none 0 0, .slice none 0 0, .int .i64 0, .slice none 0 0, .slice none 0 0] 30)).heap[w5.heap.size]? = some (.cells #[.slice none 0 0, .slice none 0 0, .slice none 0 0, .int .i64 0, .int .i64 0, .int .i64 0, .slice none 0 0, .slice none 0 0, .int .i64 0, .slice none 0 0, .slice none 0 0] 30 (0, 0))) := new_block _ _
  have HW6 : Hid (type_of% hW6) := hW6
  clear hnr hW6
  have HN56 : Hid (Below w1.heap.size w1 W6) := HN5.out.trans (HN6.out.mono HN5.out.size)
  have HB6 : Hid (Below w.heap.size w W6) := HB5.out.trans (HN6.out.mono HB5.out.size)
  have HRowD : Hid (W6.heap[w1.heap.size]? = some (.cells D 30 (0, 0))) := (HN6.out.block _ HZL5.out).trans HRow5.out
  go_wp2_with (first | (refine wpList_store_row rfl 30 (.tmp 6) (.tmp 44) rfl w5.heap.size E rfl rfl 30 _ HZR6.out HIE.out HSE.out HOE.out ?_; rw [← HW6.out]) | (refine wpList_load_row_g rfl 30 (.tmp 3) rfl w1.heap.size rfl 30 D (0, 0) _ HRowD.out Tryz.underlying30 rfl HID.out ?_) | (refine wpList_load_row_g rfl 30 (.tmp 6) rfl w5.heap.size rfl 30 E (0, 0) _ HRow6.out Tryz.underlying30 rfl HIE.out ?_))
  refine (HSM.out _ HN6.out HN56.out).mono ?_
  rintro r w7 ⟨rfl, b7⟩
  have HB7 : Hid (Below w.heap.size w w7) := HB6.out.trans (b7.mono HB6.out.size)
  clear b7
  go_wp2
  go_ret
  exact ⟨rfl, HB7.out⟩
theorem binAgain_walk (s : ByteArray) (hs : s.size ≤ 140737488355328) (w : World) (hA : Amb w) :
    Calls Tryz.prog 7 #[.string s] w fun r w' => r = .returned (.bool true) ∧ Below w.heap.size w w' := by
  have hsm : s.size ≤ maxLen := by unfold maxLen; omega
  have hR := fun w' (b : Below w.heap.size w w') => read_law s hsm w' (hA.below b)
  have same : ∀ (m n : ModD) (w' : World), m.ok w' → n.ok w' → m.val = n.val → Calls Tryz.prog 15 #[.agg (mcA m), .agg (mcA n)] w' fun r w'' => r = .returned (.bool true) ∧ Below w'.heap.size w' w'' := by
    intro m n w' h1 h2 h
    refine (sameModule_any m n w' h1 h2).mono ?_
    rintro r w4 ⟨e, rfl, he, b4⟩
    rw [he.2 h]
    exact ⟨rfl, b4⟩
  cases hr : rMod (nums s) with
  | error e =>
    refine bagain_err s e (beq_eq_false_iff_ne.2 (rMod_ne _ hr)) w (mcA modZero) infoMod rfl (one11 _) mcA_zero (fun w' b => (hR w' b).mono ?_) (fun w' b => ?_)
    · rintro r w2 ⟨b2, h⟩
      rw [hr] at h
      rcases h with ⟨e', he, _, rfl⟩ | ⟨m, hm, _⟩
      · simp only [Except.error.injEq] at he
        rw [he]
        exact ⟨rfl, b2⟩
      · cases hm
    · rw [← mcA_zero]
      exact same _ _ w' (zero_ok w') (zero_ok w') rfl
  | ok d =>
    obtain ⟨hg, hl, hl2⟩ := mod_ok (nums s) d (nums_byte s) hr
    rw [nums_length] at hl hl2
    have h8 : 8 ≤ (tMod d).length := by
      unfold tMod
      rw [List.length_append]
      have : head8.length = 8 := rfl
      omega
    refine bagain_ok s (by omega) (tMod d).length hl h8 w (fun w' b => (hR w' b).mono ?_)
    rintro r w2 ⟨b2, h⟩
    rw [hr] at h
    rcases h with ⟨e', he, _⟩ | ⟨m, hm, rfl, hok⟩
    · cases he
    · simp only [Except.ok.injEq] at hm
      subst hm
      have h0 : mChk m = 0 := (mChk0 m hok).2 hg
      refine ⟨mcA m, rfl, infoMod, rfl, one11 m, b2, fun w3 b3 b03 => ?_, fun w3 b3 b03 => ?_⟩
      · have := check_mod m (mcA m) rfl w3 (hA.below b03) (hok.below b3)
        rw [h0] at this
        exact this
      · refine (write_mod m (mcA m) rfl w3 (hA.below b03) (hok.below b3)).mono ?_
        rintro r w4 ⟨b4, h⟩
        rcases h with ⟨h, _⟩ | ⟨_, h, _⟩ | ⟨_, _, t, rfl, ht⟩
        · exact absurd h0 h
        · omega
        · have hts : t.size = (tMod m.val).length := by rw [← ht, nums_length]
          refine ⟨t, rfl, hts, b4, fun w5 b5 b05 => (read_law t (by unfold maxLen; omega) w5 (hA.below b05)).mono ?_⟩
          rintro r w6 ⟨b6, h⟩
          rw [ht, mod_back _ hg (by omega)] at h
          rcases h with ⟨e', he, _⟩ | ⟨n, hn, rfl, hnok⟩
          · cases he
          · simp only [Except.ok.injEq] at hn
            exact ⟨mcA n, rfl, infoMod, rfl, one11 n, b6, fun w7 b7 b27 => same m n w7 (hok.below b27) (hnok.below b7) hn⟩
end Go.Proofs.YtakpkdckajjooaaGreatDoor
