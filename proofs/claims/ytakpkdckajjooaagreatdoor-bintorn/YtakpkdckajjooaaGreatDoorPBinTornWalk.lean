/-
  BinTorn: no proper beginning of what is written is read as that module.
-/
import Derived.Test.YtakpkdckajjooaaGreatDoorPBLaw
import Derived.Test.YtakpkdckajjooaaGreatDoorPGMat
set_option maxHeartbeats 1000000
set_option maxRecDepth 1000000
namespace Go.Proofs.YtakpkdckajjooaaGreatDoor
set_option linter.unusedVariables false
open Go.RowKit
theorem btorn_bad (C : Array Value) (at_ e : Int) (_he : (e == 0) = false) (w : World) (HIC : Hid ((Tryz.prog.info? 30).map (·.size) = some C.size))
    (HW : Hid (∀ w', Below w.heap.size w w' → Calls Tryz.prog 11 #[.agg C] w' fun r w'' => r = .returned (.tuple #[.string ⟨#[]⟩, .int .i64 e]) ∧ Below w'.heap.size w' w'')) :
    Calls Tryz.prog 8 #[.agg C, .int .i64 at_] w fun r w' => r = .returned (.bool true) ∧ Below w.heap.size w w' := by
  have hne : (e != 0) = true := by rw [bne, _he]; rfl
  have b1 : Below w.heap.size w (w.alloc (.cells C 30)) := (Below.refl _ _).alloc (Nat.le_refl _) _
  have HR : Hid ((w.alloc (.cells C 30)).heap[w.heap.size]? = some (.cells C 30 (0, 0))) := new_block _ _
  have HB1 : Hid (type_of% b1) := b1
  clear b1
  go_enter Tryz.func8, Tryz.ntmps8
  go_wp2_with (refine wpList_load_row rfl 30 (.tmp 2) rfl w.heap.size rfl 30 C (0, 0) _ HR.out Tryz.underlying30 rfl HIC.out ?_)
  refine (HW.out _ HB1.out).mono ?_
  rintro r w1 ⟨rfl, b2⟩
  have HB2 : Hid (Below w.heap.size w w1) := HB1.out.trans (b2.mono HB1.out.size)
  clear b2 HW HR HB1
  go_wp2
  go_ret
  exact ⟨rfl, HB2.out⟩
theorem btorn_any (C : Array Value) (at_ rr : Int) (T : List Int) (_hT0 : 0 < T.length) (_hT1 : T.length ≤ 4096) (_hr0 : 0 ≤ rr) (_hr1 : rr < (T.length : Int)) (w : World) (HIC : Hid ((Tryz.prog.info? 30).map (·.size) = some C.size))
    (HW : Hid (∀ w', Below w.heap.size w w' → Calls Tryz.prog 11 #[.agg C] w' fun r w'' => ∃ t, r = .returned (.tuple #[.string t, .int .i64 0]) ∧ nums t = T ∧ Below w'.heap.size w' w''))
    (HRE : Hid (∀ w, Calls Tryz.prog 16 #[.int .i64 at_, .int .i64 (T.length : Int)] w fun e w' => e = .returned (.int .i64 rr) ∧ w' = w))
    (HRD : Hid (∀ t, nums t = T → ∀ w', Below w.heap.size w w' → Calls Tryz.prog 13 #[.string (t.extract 0 rr.toNat)] w' fun r w'' => ∃ (D : Array Value) (e : Int), r = .returned (.tuple #[.agg D, .int .i64 e]) ∧ Hid ((Tryz.prog.info? 30).map (·.size) = some D.size) ∧ Hid ((#[.slice none 0 0, .slice none 0 0, .slice none 0 0, .int .i64 0, .int .i64 0, .int .i64 0, .slice none 0 0, .slice none 0 0, .int .i64 0, .slice none 0 0, .slice none 0 0] : Array Value).size = D.size) ∧ Hid (D.all (·.oneCell') = true) ∧ Below w'.heap.size w' w'' ∧
      (e ≠ 0 ∨ (e = 0 ∧ Hid (∀ w3, Below w''.heap.size w'' w3 → Below w.heap.size w w3 → Calls Tryz.prog 15 #[.agg C, .agg D] w3 fun r w4 => r = .returned (.bool false) ∧ Below w3.heap.size w3 w4))))) :
    Calls Tryz.prog 8 #[.agg C, .int .i64 at_] w fun r w' => r = .returned (.bool true) ∧ Below w.heap.size w w' := by
  have b1 : Below w.heap.size w (w.alloc (.cells C 30)) := (Below.refl _ _).alloc (Nat.le_refl _) _
  have HR : Hid ((w.alloc (.cells C 30)).heap[w.heap.size]? = some (.cells C 30 (0, 0))) := new_block _ _
  have hs1 : (w.alloc (.cells C 30)).heap.size = w.heap.size + 1 := by simp
  have HS1 : Hid (type_of% hs1) := hs1
  have HB1 : Hid (type_of% b1) := b1
  clear b1 hs1
  go_enter Tryz.func8, Tryz.ntmps8
  go_wp2_with (refine wpList_load_row rfl 30 (.tmp 2) rfl w.heap.size rfl 30 C (0, 0) _ HR.out Tryz.underlying30 rfl HIC.out ?_)
  refine (HW.out _ HB1.out).mono ?_
  rintro r w1 ⟨t, rfl, ht, b2⟩
  have HT : Hid (nums t = T) := ht
  have hts : t.size = T.length := by rw [← ht, nums_length]
  have HR1 : Hid (w1.heap[w.heap.size]? = some (.cells C 30 (0, 0))) := (b2.block _ (by rw [HS1.out]; omega)).trans HR.out
  have HBB : Hid (Below w.heap.size w w1) := HB1.out.trans (b2.mono (by rw [HS1.out]; omega))
  have HZ1 : Hid (w.heap.size < w1.heap.size) := by have := b2.size; rw [HS1.out] at this; exact this
  have hte : t.toList.isEmpty = false := str_ne' t (by omega)
  rw [← hts] at HRE
  have _hr2 : rr < (t.size : Int) := by omega
  have _hsz : t.size ≤ 4096 := by omega
  clear b2 HW ht HR HB1 HS1 hts
  go_wp2_with fail
  refine (HRE.out _).mono ?_
  rintro e w1 ⟨rfl, rfl⟩
  go_wp2_with fail
  refine (HRD.out t HT.out _ HBB.out).mono ?_
  rintro r w4 ⟨D, e, rfl, HID, HSD, HOD, b4, hor⟩
  have HR4 : Hid (w4.heap[w.heap.size]? = some (.cells C 30 (0, 0))) := (b4.block _ HZ1.out).trans HR1.out
  have HB4 : Hid (Below w.heap.size w w4) := HBB.out.trans (b4.mono HBB.out.size)
  have HZ4 : Hid (w.heap.size < w4.heap.size) := Nat.lt_of_lt_of_le HZ1.out b4.size
  clear b4 HRD HR1 HBB HZ1 HRE
  obtain ⟨W6, hW6⟩ : ∃ W6, W6 = (w4.alloc (.cells #[.slice none 0 0, .slice none 0 0, .slice none 0 0, .int .i64 0, .int .i64 0, .int .i64 0, .slice none 0 0, .slice none 0 0, .int .i64 0, .slice none 0 0, .slice none 0 0] 30)).setRow w4.heap.size D := ⟨_, rfl⟩
  have hnr := new_row w4 #[.slice none 0 0, .slice none 0 0, .slice none 0 0, .int .i64 0, .int .i64 0, .int .i64 0, .slice none 0 0, .slice none 0 0, .int .i64 0, .slice none 0 0, .slice none 0 0] D 30
  rw [← hW6] at hnr
  have HRow6 : Hid (W6.heap[w4.heap.size]? = some (.cells D 30 (0, 0))) := hnr.1
  have HN6 : Hid (Below w4.heap.size w4 W6) := hnr.2
  have HZL6 : Hid (w4.heap.size < W6.heap.size) := (Array.getElem?_eq_some_iff.1 hnr.1).1
  have HZR6 : Hid ((w4.alloc (.cells #[.slice none 0 0, .slice none 0 0, .slice none 0 0, .int .i64 0, .int .i64 0, .int .i64 0, .slice none 0 0, .slice none 0 0, .int .i64 0, .slice none 0 0, .slice none 0 0] 30)).heap[w4.heap.size]? = some (.cells #[.slice none 0 0, .slice none 0 0, .slice none 0 0, .int .i64 0, .int .i64 0, .int .i64 0, .slice none 0 0, .slice none 0 0, .int .i64 0, .slice none 0 0, .slice none 0 0] 30 (0, 0))) := new_block _ _
  have HW6 : Hid (type_of% hW6) := hW6
  clear hnr hW6
  have HR6 : Hid (W6.heap[w.heap.size]? = some (.cells C 30 (0, 0))) := (HN6.out.block _ HZ4.out).trans HR4.out
  have HB6 : Hid (Below w.heap.size w W6) := HB4.out.trans (HN6.out.mono HB4.out.size)
  rcases hor with he | ⟨rfl, HSM⟩
  · have hb0 : (e == 0) = false := beq_eq_false_iff_ne.2 he
    have hne : (e != 0) = true := by rw [bne, hb0]; rfl
    clear he
    go_wp2_with (refine wpList_store_row rfl 30 (.tmp 7) (.tmp 27) rfl w4.heap.size D rfl rfl 30 _ HZR6.out HID.out HSD.out HOD.out ?_; rw [← HW6.out])
    go_ret
    exact ⟨rfl, HB6.out⟩
  · go_wp2_with (first | (refine wpList_store_row rfl 30 (.tmp 7) (.tmp 27) rfl w4.heap.size D rfl rfl 30 _ HZR6.out HID.out HSD.out HOD.out ?_; rw [← HW6.out]) | (refine wpList_load_row_g rfl 30 (.tmp 2) rfl w.heap.size rfl 30 C (0, 0) _ HR6.out Tryz.underlying30 rfl HIC.out ?_) | (refine wpList_load_row_g rfl 30 (.tmp 7) rfl w4.heap.size rfl 30 D (0, 0) _ HRow6.out Tryz.underlying30 rfl HID.out ?_))
    refine (HSM.out _ HN6.out HB6.out).mono ?_
    rintro r w7 ⟨rfl, b7⟩
    have HB7 : Hid (Below w.heap.size w w7) := HB6.out.trans (b7.mono HB6.out.size)
    clear b7
    go_wp2
    go_ret
    exact ⟨rfl, HB7.out⟩
theorem binTorn_walk (m : ModD) (at_ : Int) (ha : -9223372036854775808 ≤ at_ ∧ at_ ≤ 9223372036854775807) (w : World) (hA : Amb w) (hm : m.ok w) :
    Calls Tryz.prog 8 #[.agg (mcA m), .int .i64 at_] w fun r w' => r = .returned (.bool true) ∧ Below w.heap.size w w' := by
  have hW := fun w' (b : Below w.heap.size w w') => write_mod m (mcA m) rfl w' (hA.below b) (hm.below b)
  by_cases h0 : mChk m = 0
  · by_cases hl : (tMod m.val).length ≤ 4096
    · have hg := (mChk0 m hm).1 h0
      have h8 : 8 ≤ (tMod m.val).length := by
        unfold tMod
        rw [List.length_append]
        have : head8.length = 8 := rfl
        omega
      have hr0 := Int.emod_nonneg at_ (b := ((tMod m.val).length : Int)) (by omega)
      have hr1 := Int.emod_lt_of_pos at_ (b := ((tMod m.val).length : Int)) (by omega)
      have hRE := fun w => rest_any at_ ((tMod m.val).length : Int) _ (by omega) (by omega) rfl ha.1 ha.2 w
      have hW2 : ∀ w', Below w.heap.size w w' → Calls Tryz.prog 11 #[.agg (mcA m)] w' fun r w'' => ∃ t, r = .returned (.tuple #[.string t, .int .i64 0]) ∧ nums t = tMod m.val ∧ Below w'.heap.size w' w'' := fun w' b => (hW w' b).mono (by
        rintro r w2 ⟨b2, h⟩
        rcases h with ⟨h, _⟩ | ⟨_, h, _⟩ | ⟨_, _, t, rfl, ht⟩
        · exact absurd h0 h
        · omega
        · exact ⟨t, rfl, ht, b2⟩)
      have hRD : ∀ t, nums t = tMod m.val → ∀ w', Below w.heap.size w w' → _ := fun t ht w' (b : Below w.heap.size w w') => read_law (t.extract 0 (at_ % ((tMod m.val).length : Int)).toNat) (by have : t.size = (tMod m.val).length := (by rw [← ht, nums_length]); rw [ByteArray.size_extract]; unfold maxLen; omega) w' (hA.below b)
      have hnx : ∀ t, nums t = tMod m.val → nums (t.extract 0 (at_ % ((tMod m.val).length : Int)).toNat) = (tMod m.val).take (at_ % ((tMod m.val).length : Int)).toNat := fun t ht => by rw [nums_extract, List.drop_zero, Nat.sub_zero, ht]
      generalize hrr : at_ % ((tMod m.val).length : Int) = rr at hr0 hr1 hRE hRD hnx
      refine btorn_any (mcA m) at_ rr (tMod m.val) (by omega) hl hr0 hr1 w infoMod hW2 hRE (fun t ht w' b => (hRD t ht w' b).mono ?_)
      rintro r w2 ⟨b2, h⟩
      have hby := nums_byte (t.extract 0 rr.toNat)
      rw [hnx t ht] at h hby
      rcases h with ⟨e, he, hne, rfl⟩ | ⟨n, hn, rfl, hok⟩
      · exact ⟨mcA modZero, e, rfl, infoMod, rfl, one11 _, b2, Or.inl hne⟩
      · obtain ⟨_, q2, _⟩ := mod_ok _ _ hby hn
        rw [List.length_take] at q2
        have hne : m.val ≠ n.val := by
          intro e
          rw [← e] at q2
          omega
        refine ⟨mcA n, 0, rfl, infoMod, rfl, one11 n, b2, Or.inr ⟨rfl, fun w3 b3 b03 => (sameModule_any m n w3 (hm.below b03) (hok.below b3)).mono ?_⟩⟩
        rintro r w4 ⟨e, rfl, he, b4⟩
        have hf : e = false := by
          cases e with
          | false => rfl
          | true => exact absurd (he.1 rfl) hne
        rw [hf]
        exact ⟨rfl, b4⟩
    · refine btorn_bad (mcA m) at_ 2 (by decide) w infoMod (fun w' b => (hW w' b).mono ?_)
      rintro r w2 ⟨b2, h⟩
      rcases h with ⟨h, _⟩ | ⟨_, _, rfl⟩ | ⟨_, h, _⟩
      · exact absurd h0 h
      · exact ⟨rfl, b2⟩
      · exact absurd h hl
  · refine btorn_bad (mcA m) at_ (mChk m) (beq_eq_false_iff_ne.2 h0) w infoMod (fun w' b => (hW w' b).mono ?_)
    rintro r w2 ⟨b2, h⟩
    rcases h with ⟨_, rfl⟩ | ⟨h, _⟩ | ⟨h, _⟩
    · exact ⟨rfl, b2⟩
    · exact absurd h h0
    · exact absurd h h0
end Go.Proofs.YtakpkdckajjooaaGreatDoor
