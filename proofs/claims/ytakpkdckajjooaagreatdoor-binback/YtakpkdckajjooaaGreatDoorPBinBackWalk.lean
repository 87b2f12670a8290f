/-
  BinBack: a module that is written is read as it was.
-/
import Derived.Test.YtakpkdckajjooaaGreatDoorPBLaw
set_option maxHeartbeats 4000000
set_option maxRecDepth 1000000
namespace Go.Proofs.YtakpkdckajjooaaGreatDoor
set_option linter.unusedVariables false
open Go.RowKit
theorem bback_bad (C : Array Value) (e : Int) (_he : (e == 0) = false) (w : World) (HI30 : Hid ((Tryz.prog.info? 30).map (·.size) = some C.size))
    (HW : Hid (∀ w', Below w.heap.size w w' → Calls Tryz.prog 11 #[.agg C] w' fun r w'' => r = .returned (.tuple #[.string ⟨#[]⟩, .int .i64 e]) ∧ Below w'.heap.size w' w''))
    (HC : Hid (∀ w', Below w.heap.size w w' → Calls Tryz.prog 9 #[.agg C] w' fun r w'' => r = .returned (.int .i64 e) ∧ Below w'.heap.size w' w'')) :
    Calls Tryz.prog 6 #[.agg C] w fun r w' => r = .returned (.bool true) ∧ Below w.heap.size w w' := by
  have hne : (e != 0) = true := by rw [bne, _he]; rfl
  have b1 : Below w.heap.size w (w.alloc (.cells C 30)) := (Below.refl _ _).alloc (Nat.le_refl _) _
  have HR : Hid ((w.alloc (.cells C 30)).heap[w.heap.size]? = some (.cells C 30 (0, 0))) := new_block _ _
  have hs1 : (w.alloc (.cells C 30)).heap.size = w.heap.size + 1 := by simp
  have HS1 : Hid (type_of% hs1) := hs1
  have HB1 : Hid (type_of% b1) := b1
  clear b1 hs1
  go_enter Tryz.func6, Tryz.ntmps6
  go_wp2_with (refine wpList_load_row rfl 30 (.tmp 1) rfl w.heap.size rfl 30 C (0, 0) _ HR.out Tryz.underlying30 rfl HI30.out ?_)
  refine (HW.out _ HB1.out).mono ?_
  rintro r w1 ⟨rfl, b2⟩
  have HR1 : Hid (w1.heap[w.heap.size]? = some (.cells C 30 (0, 0))) := (b2.block _ (by rw [HS1.out]; omega)).trans HR.out
  have HB2 : Hid (Below w.heap.size w w1) := HB1.out.trans (b2.mono (by rw [HS1.out]; omega))
  clear b2 HW HR HB1 HS1
  go_wp2_with (refine wpList_load_row rfl 30 (.tmp 1) rfl w.heap.size rfl 30 C (0, 0) _ HR1.out Tryz.underlying30 rfl HI30.out ?_)
  refine (HC.out _ HB2.out).mono ?_
  rintro r w2 ⟨rfl, b3⟩
  have HB3 : Hid (Below w.heap.size w w2) := HB2.out.trans (b3.mono HB2.out.size)
  clear b3 HC HR1
  go_wp2
  go_ret
  exact ⟨rfl, HB3.out⟩
theorem bback_big (C : Array Value) (w : World) (HI30 : Hid ((Tryz.prog.info? 30).map (·.size) = some C.size))
    (HW : Hid (∀ w', Below w.heap.size w w' → Calls Tryz.prog 11 #[.agg C] w' fun r w'' => r = .returned (.tuple #[.string ⟨#[]⟩, .int .i64 2]) ∧ Below w'.heap.size w' w''))
    (HC : Hid (∀ w', Below w.heap.size w w' → Calls Tryz.prog 9 #[.agg C] w' fun r w'' => r = .returned (.int .i64 0) ∧ Below w'.heap.size w' w'')) :
    Calls Tryz.prog 6 #[.agg C] w fun r w' => r = .returned (.bool true) ∧ Below w.heap.size w w' := by
  have b1 : Below w.heap.size w (w.alloc (.cells C 30)) := (Below.refl _ _).alloc (Nat.le_refl _) _
  have HR : Hid ((w.alloc (.cells C 30)).heap[w.heap.size]? = some (.cells C 30 (0, 0))) := new_block _ _
  have hs1 : (w.alloc (.cells C 30)).heap.size = w.heap.size + 1 := by simp
  have HS1 : Hid (type_of% hs1) := hs1
  have HB1 : Hid (type_of% b1) := b1
  clear b1 hs1
  go_enter Tryz.func6, Tryz.ntmps6
  go_wp2_with (refine wpList_load_row rfl 30 (.tmp 1) rfl w.heap.size rfl 30 C (0, 0) _ HR.out Tryz.underlying30 rfl HI30.out ?_)
  refine (HW.out _ HB1.out).mono ?_
  rintro r w1 ⟨rfl, b2⟩
  have HR1 : Hid (w1.heap[w.heap.size]? = some (.cells C 30 (0, 0))) := (b2.block _ (by rw [HS1.out]; omega)).trans HR.out
  have HB2 : Hid (Below w.heap.size w w1) := HB1.out.trans (b2.mono (by rw [HS1.out]; omega))
  clear b2 HW HR HB1 HS1
  go_wp2_with (refine wpList_load_row rfl 30 (.tmp 1) rfl w.heap.size rfl 30 C (0, 0) _ HR1.out Tryz.underlying30 rfl HI30.out ?_)
  refine (HC.out _ HB2.out).mono ?_
  rintro r w2 ⟨rfl, b3⟩
  have HB3 : Hid (Below w.heap.size w w2) := HB2.out.trans (b3.mono HB2.out.size)
  clear b3 HC HR1
  go_wp2
  go_ret
  exact ⟨rfl, HB3.out⟩
theorem bback_ok (C : Array Value) (T : List Int) (w : World) (HI30 : Hid ((Tryz.prog.info? 30).map (·.size) = some C.size)) (HC11 : Hid (C.size = 11))
    (HW : Hid (∀ w', Below w.heap.size w w' → Calls Tryz.prog 11 #[.agg C] w' fun r w'' => ∃ t, r = .returned (.tuple #[.string t, .int .i64 0]) ∧ nums t = T ∧ Below w'.heap.size w' w''))
    (HC : Hid (∀ w', Below w.heap.size w w' → Calls Tryz.prog 9 #[.agg C] w' fun r w'' => r = .returned (.int .i64 0) ∧ Below w'.heap.size w' w''))
    (HRD : Hid (∀ t, nums t = T → ∀ w', Below w.heap.size w w' → Calls Tryz.prog 13 #[.string t] w' fun r w'' => ∃ D : Array Value, r = .returned (.tuple #[.agg D, .int .i64 0]) ∧ Hid (D.size = 11) ∧ Hid (D.all (·.oneCell') = true) ∧ Below w'.heap.size w' w'' ∧
      Hid (∀ w3, Below w''.heap.size w'' w3 → Below w.heap.size w w3 → Calls Tryz.prog 15 #[.agg C, .agg D] w3 fun r w4 => r = .returned (.bool true) ∧ Below w3.heap.size w3 w4))) :
    Calls Tryz.prog 6 #[.agg C] w fun r w' => r = .returned (.bool true) ∧ Below w.heap.size w w' := by
  have b1 : Below w.heap.size w (w.alloc (.cells C 30)) := (Below.refl _ _).alloc (Nat.le_refl _) _
  have HR : Hid ((w.alloc (.cells C 30)).heap[w.heap.size]? = some (.cells C 30 (0, 0))) := new_block _ _
  have hs1 : (w.alloc (.cells C 30)).heap.size = w.heap.size + 1 := by simp
  have HS1 : Hid (type_of% hs1) := hs1
  have HB1 : Hid (type_of% b1) := b1
  clear b1 hs1
  go_enter Tryz.func6, Tryz.ntmps6
  go_wp2_with (refine wpList_load_row rfl 30 (.tmp 1) rfl w.heap.size rfl 30 C (0, 0) _ HR.out Tryz.underlying30 rfl HI30.out ?_)
  refine (HW.out _ HB1.out).mono ?_
  rintro r w1 ⟨t, rfl, ht, b2⟩
  have HT : Hid (nums t = T) := ht
  have HR1 : Hid (w1.heap[w.heap.size]? = some (.cells C 30 (0, 0))) := (b2.block _ (by rw [HS1.out]; omega)).trans HR.out
  have HB2 : Hid (Below (w.heap.size + 1) (w.alloc (.cells C 30)) w1) := b2.mono (by rw [HS1.out]; omega)
  have HBB : Hid (Below w.heap.size w w1) := HB1.out.trans (b2.mono (by rw [HS1.out]; omega))
  have HZ1 : Hid (w.heap.size < w1.heap.size) := by have := b2.size; rw [HS1.out] at this; exact this
  clear b2 HW ht
  go_wp2_with (refine wpList_load_row rfl 30 (.tmp 1) rfl w.heap.size rfl 30 C (0, 0) _ HR1.out Tryz.underlying30 rfl HI30.out ?_)
  refine (HC.out _ HBB.out).mono ?_
  rintro r w2 ⟨rfl, b3⟩
  have HR2 : Hid (w2.heap[w.heap.size]? = some (.cells C 30 (0, 0))) := (b3.block _ HZ1.out).trans HR1.out
  have HB3 : Hid (Below w.heap.size w w2) := HBB.out.trans (b3.mono HBB.out.size)
  have HZ2 : Hid (w.heap.size < w2.heap.size) := Nat.lt_of_lt_of_le HZ1.out b3.size
  clear b3 HC HR1 HBB HB2 HR HB1 HS1 HZ1
  go_wp2_with fail
  refine (HRD.out t HT.out _ HB3.out).mono ?_
  rintro r w4 ⟨D, rfl, HD, HD1, b4, HSM⟩
  have HR4 : Hid (w4.heap[w.heap.size]? = some (.cells C 30 (0, 0))) := (b4.block _ HZ2.out).trans HR2.out
  have HB4 : Hid (Below w.heap.size w w4) := HB3.out.trans (b4.mono HB3.out.size)
  have HZ4 : Hid (w.heap.size < w4.heap.size) := Nat.lt_of_lt_of_le HZ2.out b4.size
  clear b4 HRD HR2 HB3 HZ2
  obtain ⟨W6, hW6⟩ : ∃ W6, W6 = (w4.alloc (.cells #[.slice none 0 0, .slice none 0 0, .slice none 0 0, .int .i64 0, .int .i64 0, .int .i64 0, .slice none 0 0, .slice none 0 0, .int .i64 0, .slice none 0 0, .slice none 0 0] 30)).setRow w4.heap.size D := ⟨_, rfl⟩
  have hnr := new_row w4 #[.slice none 0 0, .slice none 0 0, .slice none 0 0, .int .i64 0, .int .i64 0, .int .i64 0, .slice none 0 0, .slice none 0 0, .int .i64 0, .slice none 0 0, .slice none 0 0] D 30
  rw [← hW6] at hnr
  have HRD6 : Hid (W6.heap[w4.heap.size]? = some (.cells D 30 (0, 0))) := hnr.1
  have HR6 : Hid (W6.heap[w.heap.size]? = some (.cells C 30 (0, 0))) := (hnr.2.block _ HZ4.out).trans HR4.out
  have HB6 : Hid (Below w.heap.size w W6) := HB4.out.trans (hnr.2.mono HB4.out.size)
  have HB46 : Hid (Below w4.heap.size w4 W6) := hnr.2
  have HZR : Hid ((w4.alloc (.cells #[.slice none 0 0, .slice none 0 0, .slice none 0 0, .int .i64 0, .int .i64 0, .int .i64 0, .slice none 0 0, .slice none 0 0, .int .i64 0, .slice none 0 0, .slice none 0 0] 30)).heap[w4.heap.size]? = some (.cells #[.slice none 0 0, .slice none 0 0, .slice none 0 0, .int .i64 0, .int .i64 0, .int .i64 0, .slice none 0 0, .slice none 0 0, .int .i64 0, .slice none 0 0, .slice none 0 0] 30 (0, 0))) := new_block _ _
  have HI31 : Hid ((Tryz.prog.info? 30).map (·.size) = some D.size) := by unfold Hid; rw [HI30.out, HC11.out, HD.out]
  have HSZ : Hid ((#[.slice none 0 0, .slice none 0 0, .slice none 0 0, .int .i64 0, .int .i64 0, .int .i64 0, .slice none 0 0, .slice none 0 0, .int .i64 0, .slice none 0 0, .slice none 0 0] : Array Value).size = D.size) := by unfold Hid; rw [HD.out]; rfl
  have HW6 : Hid (type_of% hW6) := hW6
  clear hnr hW6
  go_wp2_with (first | (refine wpList_store_row rfl 30 (.tmp 6) (.tmp 34) rfl w4.heap.size D rfl rfl 30 _ HZR.out HI31.out HSZ.out HD1.out ?_; rw [← HW6.out]) | (refine wpList_load_row_g rfl 30 (.tmp 1) rfl w.heap.size rfl 30 C (0, 0) _ HR6.out Tryz.underlying30 rfl HI30.out ?_) | (refine wpList_load_row_g rfl 30 (.tmp 6) rfl w4.heap.size rfl 30 D (0, 0) _ HRD6.out Tryz.underlying30 rfl HI31.out ?_))
  refine (HSM.out _ HB46.out HB6.out).mono ?_
  rintro r w7 ⟨rfl, b7⟩
  have HB7 : Hid (Below w.heap.size w w7) := HB6.out.trans (b7.mono HB6.out.size)
  clear b7
  go_wp2
  go_ret
  exact ⟨rfl, HB7.out⟩
theorem binBack_walk (m : ModD) (w : World) (hA : Amb w) (hm : m.ok w) :
    Calls Tryz.prog 6 #[.agg (mcA m)] w fun r w' => r = .returned (.bool true) ∧ Below w.heap.size w w' := by
  have hW := fun w' (b : Below w.heap.size w w') => write_mod m (mcA m) rfl w' (hA.below b) (hm.below b)
  have hC := fun w' (b : Below w.heap.size w w') => check_mod m (mcA m) rfl w' (hA.below b) (hm.below b)
  by_cases h0 : mChk m = 0
  · rw [h0] at hC
    by_cases hl : (tMod m.val).length ≤ 4096
    · have hg := (mChk0 m hm).1 h0
      refine bback_ok (mcA m) (tMod m.val) w infoMod rfl (fun w' b => (hW w' b).mono ?_) hC (fun t ht w' b => ?_)
      · rintro r w2 ⟨b2, h⟩
        rcases h with ⟨h, _⟩ | ⟨_, h, _⟩ | ⟨_, _, t, rfl, ht⟩
        · exact absurd h0 h
        · omega
        · exact ⟨t, rfl, ht, b2⟩
      · have hts : t.size ≤ maxLen := by rw [← nums_length, ht]; unfold maxLen; omega
        refine (read_law t hts w' (hA.below b)).mono ?_
        rintro r w2 ⟨b2, h⟩
        rw [ht, mod_back _ hg hl] at h
        rcases h with ⟨e, he, _⟩ | ⟨n, hn, rfl, hok⟩
        · cases he
        · simp only [Except.ok.injEq] at hn
          refine ⟨mcA n, rfl, rfl, one11 n, b2, fun w3 b3 b03 => (sameModule_any m n w3 (hm.below b03) (hok.below b3)).mono ?_⟩
          rintro r w4 ⟨e, rfl, he, b4⟩
          have : e = true := he.2 hn
          rw [this]
          exact ⟨rfl, b4⟩
    · refine bback_big (mcA m) w infoMod (fun w' b => (hW w' b).mono ?_) hC
      rintro r w2 ⟨b2, h⟩
      rcases h with ⟨h, _⟩ | ⟨_, _, rfl⟩ | ⟨_, h, _⟩
      · exact absurd h0 h
      · exact ⟨rfl, b2⟩
      · exact absurd h hl
  · refine bback_bad (mcA m) (mChk m) (beq_eq_false_iff_ne.2 h0) w infoMod (fun w' b => (hW w' b).mono ?_) hC
    rintro r w2 ⟨b2, h⟩
    rcases h with ⟨_, rfl⟩ | ⟨h, _⟩ | ⟨h, _⟩
    · exact ⟨rfl, b2⟩
    · exact absurd h h0
    · exact absurd h h0
end Go.Proofs.YtakpkdckajjooaaGreatDoor
