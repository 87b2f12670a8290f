/-
  BinApart: two modules have one text just if they are one.
-/
import Derived.Test.YtakpkdckajjooabGreatDoorPQT
import Derived.Test.YtakpkdckajjooabGreatDoorPQW
import Derived.Test.YtakpkdckajjooabGreatDoorPBWhole
import Derived.Recover
import Derived.Defers
import Derived.Test.YtakpkdckajjooabGreatDoorPQM
set_option maxHeartbeats 2000000
set_option maxRecDepth 1000000
namespace Go.Proofs.YtakpkdckajjooabGreatDoor
set_option linter.unusedVariables false
open Go.RowKit
theorem bapart_bad1 (C D : Array Value) (e : Int) (_he : (e == 0) = false) (w : World) (HIC : Hid ((Tryz.prog.info? 30).map (·.size) = some C.size)) (HID : Hid ((Tryz.prog.info? 30).map (·.size) = some D.size))
    (HW : Hid (∀ w', Below w.heap.size w w' → Calls Tryz.prog 4 #[.agg C] w' fun r w'' => r = .returned (.tuple #[.string ⟨#[]⟩, .int .i64 e]) ∧ Below w'.heap.size w' w''))
    (HW2 : Hid (∀ w', Below w.heap.size w w' → Calls Tryz.prog 4 #[.agg D] w' fun r w'' => (∃ (t : ByteArray) (f : Int), r = .returned (.tuple #[.string t, .int .i64 f])) ∧ Below w'.heap.size w' w'')) :
    Calls Tryz.prog 3 #[.agg C, .agg D] w fun r w' => r = .returned (.bool true) ∧ Below w.heap.size w w' := by
  have hne : (e != 0) = true := by rw [bne, _he]; rfl
  have bA : Below w.heap.size w ((w.alloc (.cells C 30)).alloc (.cells D 30)) := ((Below.refl _ _).alloc (Nat.le_refl _) _).alloc (by simp) _
  have HR : Hid (((w.alloc (.cells C 30)).alloc (.cells D 30)).heap[w.heap.size]? = some (.cells C 30 (0, 0))) := by
    unfold Hid
    rw [Below.heap_alloc _ _ _ (by simp)]
    exact new_block _ _
  have HS : Hid (((w.alloc (.cells C 30)).alloc (.cells D 30)).heap[w.heap.size + 1]? = some (.cells D 30 (0, 0))) := by
    have := new_block (w.alloc (.cells C 30)) (.cells D 30)
    have hs : (w.alloc (.cells C 30)).heap.size = w.heap.size + 1 := by simp
    rw [hs] at this
    exact this
  have hsz : ((w.alloc (.cells C 30)).alloc (.cells D 30)).heap.size = w.heap.size + 2 := by simp
  have HZ : Hid (type_of% hsz) := hsz
  have HB : Hid (type_of% bA) := bA
  clear bA hsz
  go_enter Tryz.func3, Tryz.ntmps3
  go_wp2_with (refine wpList_load_row rfl 30 (.tmp 2) rfl w.heap.size rfl 30 C (0, 0) _ HR.out Tryz.underlying30 rfl HIC.out ?_)
  refine (HW.out _ HB.out).mono ?_
  rintro r w1 ⟨rfl, b1⟩
  have HS1 : Hid (w1.heap[w.heap.size + 1]? = some (.cells D 30 (0, 0))) := (b1.block _ (by rw [HZ.out]; omega)).trans HS.out
  have HB1 : Hid (Below w.heap.size w w1) := HB.out.trans (b1.mono HB.out.size)
  clear b1 HW HR HS HZ HB
  go_wp2_with (refine wpList_load_row rfl 30 (.tmp 3) rfl (w.heap.size + 1) rfl 30 D (0, 0) _ HS1.out Tryz.underlying30 rfl HID.out ?_)
  refine (HW2.out _ HB1.out).mono ?_
  rintro r w2 ⟨⟨t, f, rfl⟩, b2⟩
  have HB2 : Hid (Below w.heap.size w w2) := HB1.out.trans (b2.mono HB1.out.size)
  clear b2 HW2 HS1 HB1
  go_wp2
  go_ret
  exact ⟨rfl, HB2.out⟩
theorem bapart_bad2 (C D : Array Value) (f : Int) (_hf : (f == 0) = false) (w : World) (HIC : Hid ((Tryz.prog.info? 30).map (·.size) = some C.size)) (HID : Hid ((Tryz.prog.info? 30).map (·.size) = some D.size))
    (HW : Hid (∀ w', Below w.heap.size w w' → Calls Tryz.prog 4 #[.agg C] w' fun r w'' => (∃ t : ByteArray, r = .returned (.tuple #[.string t, .int .i64 0])) ∧ Below w'.heap.size w' w''))
    (HW2 : Hid (∀ w', Below w.heap.size w w' → Calls Tryz.prog 4 #[.agg D] w' fun r w'' => (∃ t : ByteArray, r = .returned (.tuple #[.string t, .int .i64 f])) ∧ Below w'.heap.size w' w'')) :
    Calls Tryz.prog 3 #[.agg C, .agg D] w fun r w' => r = .returned (.bool true) ∧ Below w.heap.size w w' := by
  have hne : (f != 0) = true := by rw [bne, _hf]; rfl
  have bA : Below w.heap.size w ((w.alloc (.cells C 30)).alloc (.cells D 30)) := ((Below.refl _ _).alloc (Nat.le_refl _) _).alloc (by simp) _
  have HR : Hid (((w.alloc (.cells C 30)).alloc (.cells D 30)).heap[w.heap.size]? = some (.cells C 30 (0, 0))) := by
    unfold Hid
    rw [Below.heap_alloc _ _ _ (by simp)]
    exact new_block _ _
  have HS : Hid (((w.alloc (.cells C 30)).alloc (.cells D 30)).heap[w.heap.size + 1]? = some (.cells D 30 (0, 0))) := by
    have := new_block (w.alloc (.cells C 30)) (.cells D 30)
    have hs : (w.alloc (.cells C 30)).heap.size = w.heap.size + 1 := by simp
    rw [hs] at this
    exact this
  have hsz : ((w.alloc (.cells C 30)).alloc (.cells D 30)).heap.size = w.heap.size + 2 := by simp
  have HZ : Hid (type_of% hsz) := hsz
  have HB : Hid (type_of% bA) := bA
  clear bA hsz
  go_enter Tryz.func3, Tryz.ntmps3
  go_wp2_with (refine wpList_load_row rfl 30 (.tmp 2) rfl w.heap.size rfl 30 C (0, 0) _ HR.out Tryz.underlying30 rfl HIC.out ?_)
  refine (HW.out _ HB.out).mono ?_
  rintro r w1 ⟨⟨t, rfl⟩, b1⟩
  have HS1 : Hid (w1.heap[w.heap.size + 1]? = some (.cells D 30 (0, 0))) := (b1.block _ (by rw [HZ.out]; omega)).trans HS.out
  have HB1 : Hid (Below w.heap.size w w1) := HB.out.trans (b1.mono HB.out.size)
  clear b1 HW HR HS HZ HB
  go_wp2_with (refine wpList_load_row rfl 30 (.tmp 3) rfl (w.heap.size + 1) rfl 30 D (0, 0) _ HS1.out Tryz.underlying30 rfl HID.out ?_)
  refine (HW2.out _ HB1.out).mono ?_
  rintro r w2 ⟨⟨u, rfl⟩, b2⟩
  have HB2 : Hid (Below w.heap.size w w2) := HB1.out.trans (b2.mono HB1.out.size)
  clear b2 HW2 HS1 HB1
  go_wp2
  go_ret
  exact ⟨rfl, HB2.out⟩
theorem bapart_ok (C D : Array Value) (P : Prop) (S T : List Int) (w : World) (HIC : Hid ((Tryz.prog.info? 30).map (·.size) = some C.size)) (HID : Hid ((Tryz.prog.info? 30).map (·.size) = some D.size)) (hS : 0 < S.length) (HST : Hid (S = T ↔ P))
    (HW : Hid (∀ w', Below w.heap.size w w' → Calls Tryz.prog 4 #[.agg C] w' fun r w'' => (∃ t : ByteArray, r = .returned (.tuple #[.string t, .int .i64 0]) ∧ nums t = S) ∧ Below w'.heap.size w' w''))
    (HW2 : Hid (∀ w', Below w.heap.size w w' → Calls Tryz.prog 4 #[.agg D] w' fun r w'' => (∃ t : ByteArray, r = .returned (.tuple #[.string t, .int .i64 0]) ∧ nums t = T) ∧ Below w'.heap.size w' w''))
    (HSM : Hid (∀ w', Below w.heap.size w w' → Calls Tryz.prog 5 #[.agg C, .agg D] w' fun r w'' => ∃ e : Bool, r = .returned (.bool e) ∧ (e = true ↔ P) ∧ Below w'.heap.size w' w'')) :
    Calls Tryz.prog 3 #[.agg C, .agg D] w fun r w' => r = .returned (.bool true) ∧ Below w.heap.size w w' := by
  have bA : Below w.heap.size w ((w.alloc (.cells C 30)).alloc (.cells D 30)) := ((Below.refl _ _).alloc (Nat.le_refl _) _).alloc (by simp) _
  have HR : Hid (((w.alloc (.cells C 30)).alloc (.cells D 30)).heap[w.heap.size]? = some (.cells C 30 (0, 0))) := by
    unfold Hid
    rw [Below.heap_alloc _ _ _ (by simp)]
    exact new_block _ _
  have HS : Hid (((w.alloc (.cells C 30)).alloc (.cells D 30)).heap[w.heap.size + 1]? = some (.cells D 30 (0, 0))) := by
    have := new_block (w.alloc (.cells C 30)) (.cells D 30)
    have hs : (w.alloc (.cells C 30)).heap.size = w.heap.size + 1 := by simp
    rw [hs] at this
    exact this
  have hsz : ((w.alloc (.cells C 30)).alloc (.cells D 30)).heap.size = w.heap.size + 2 := by simp
  have HZ : Hid (type_of% hsz) := hsz
  have HB : Hid (type_of% bA) := bA
  have HSL : Hid (0 < S.length) := hS
  clear bA hsz hS
  go_enter Tryz.func3, Tryz.ntmps3
  go_wp2_with (refine wpList_load_row rfl 30 (.tmp 2) rfl w.heap.size rfl 30 C (0, 0) _ HR.out Tryz.underlying30 rfl HIC.out ?_)
  refine (HW.out _ HB.out).mono ?_
  rintro r w1 ⟨⟨t, rfl, ht⟩, b1⟩
  have HT : Hid (nums t = S) := ht
  have HR1 : Hid (w1.heap[w.heap.size]? = some (.cells C 30 (0, 0))) := (b1.block _ (by rw [HZ.out]; omega)).trans HR.out
  have HS1 : Hid (w1.heap[w.heap.size + 1]? = some (.cells D 30 (0, 0))) := (b1.block _ (by rw [HZ.out]; omega)).trans HS.out
  have HZ1 : Hid (w.heap.size + 2 ≤ w1.heap.size) := by have := b1.size; rw [HZ.out] at this; exact this
  have HB1 : Hid (Below w.heap.size w w1) := HB.out.trans (b1.mono HB.out.size)
  clear b1 HW HR HS HZ HB ht
  go_wp2_with (refine wpList_load_row rfl 30 (.tmp 3) rfl (w.heap.size + 1) rfl 30 D (0, 0) _ HS1.out Tryz.underlying30 rfl HID.out ?_)
  refine (HW2.out _ HB1.out).mono ?_
  rintro r w2 ⟨⟨u, rfl, hu⟩, b2⟩
  have HU : Hid (nums u = T) := hu
  have HR2 : Hid (w2.heap[w.heap.size]? = some (.cells C 30 (0, 0))) := (b2.block _ (by have := HZ1.out; omega)).trans HR1.out
  have HS2 : Hid (w2.heap[w.heap.size + 1]? = some (.cells D 30 (0, 0))) := (b2.block _ (by have := HZ1.out; omega)).trans HS1.out
  have HB2 : Hid (Below w.heap.size w w2) := HB1.out.trans (b2.mono HB1.out.size)
  have hte : t.toList.isEmpty = false := str_ne' t (by rw [← nums_length, HT.out]; exact HSL.out)
  clear b2 HW2 HR1 HS1 HB1 hu HSL
  by_cases htu : t = u
  · subst htu
    have HPP : Hid P := HST.out.1 (by rw [← HT.out, ← HU.out])
    clear HT HU HST
    go_wp2_with (first | (refine wpList_load_row rfl 30 (.tmp 2) rfl w.heap.size rfl 30 C (0, 0) _ HR2.out Tryz.underlying30 rfl HIC.out ?_) | (refine wpList_load_row rfl 30 (.tmp 3) rfl (w.heap.size + 1) rfl 30 D (0, 0) _ HS2.out Tryz.underlying30 rfl HID.out ?_))
    refine (HSM.out _ HB2.out).mono ?_
    rintro r w3 ⟨e, rfl, he, b3⟩
    obtain rfl : e = true := he.2 HPP.out
    have HB3 : Hid (Below w.heap.size w w3) := HB2.out.trans (b3.mono HB2.out.size)
    clear b3 HSM he
    go_wp2
    go_ret
    exact ⟨rfl, HB3.out⟩
  · have HPP : Hid (¬ P) := fun hp => htu (nums_inj (by rw [HT.out, HU.out]; exact HST.out.2 hp))
    have htl : (t.toList == u.toList) = false := by
      rw [beq_eq_false_iff_ne]
      exact fun e => htu (bytes_inj e)
    have htq : t.toList ≠ u.toList := fun e => htu (bytes_inj e)
    clear HT HU HST
    go_wp2_with (first | (refine wpList_load_row rfl 30 (.tmp 2) rfl w.heap.size rfl 30 C (0, 0) _ HR2.out Tryz.underlying30 rfl HIC.out ?_) | (refine wpList_load_row rfl 30 (.tmp 3) rfl (w.heap.size + 1) rfl 30 D (0, 0) _ HS2.out Tryz.underlying30 rfl HID.out ?_))
    refine (HSM.out _ HB2.out).mono ?_
    rintro r w3 ⟨e, rfl, he, b3⟩
    obtain rfl : e = false := by
      cases e with
      | false => rfl
      | true => exact absurd (he.1 rfl) HPP.out
    have HB3 : Hid (Below w.heap.size w w3) := HB2.out.trans (b3.mono HB2.out.size)
    clear b3 HSM he
    go_wp2
    go_ret
    exact ⟨rfl, HB3.out⟩
theorem binApart_walk (m n : ModD) (w : World) (hA : Amb w) (hm : m.ok w) (hn : n.ok w) :
    Calls Tryz.prog 3 #[.agg (mcA m), .agg (mcA n)] w fun r w' => r = .returned (.bool true) ∧ Below w.heap.size w w' := by
  have hW := fun w' (b : Below w.heap.size w w') => write_mod m (mcA m) rfl w' (hA.below b) (hm.below b)
  have hW2 := fun w' (b : Below w.heap.size w w') => write_mod n (mcA n) rfl w' (hA.below b) (hn.below b)
  have bad : ∀ (k : ModD) (w' : World), (∀ r w'', WOut w' k r w'' → (mChk k = 0 ∧ (tMod k.val).length ≤ 4096 ∧ ∃ t, r = .returned (.tuple #[.string t, .int .i64 0]) ∧ nums t = tMod k.val) ∨ ∃ e, (e == 0) = false ∧ r = .returned (.tuple #[.string ⟨#[]⟩, .int .i64 e])) := by
    intro k w' r w'' h
    rcases h.2 with ⟨hk, rfl⟩ | ⟨_, _, rfl⟩ | hk
    · exact Or.inr ⟨mChk k, beq_eq_false_iff_ne.2 hk, rfl⟩
    · exact Or.inr ⟨2, rfl, rfl⟩
    · exact Or.inl hk
  by_cases h1 : mChk m = 0 ∧ (tMod m.val).length ≤ 4096
  · have w1 : ∀ w', Below w.heap.size w w' → Calls Tryz.prog 4 #[.agg (mcA m)] w' fun r w'' => (∃ t : ByteArray, r = .returned (.tuple #[.string t, .int .i64 0]) ∧ nums t = tMod m.val) ∧ Below w'.heap.size w' w'' := fun w' b => (hW w' b).mono (by
      rintro r w2 ⟨b2, h⟩
      rcases h with ⟨h, _⟩ | ⟨_, h, _⟩ | ⟨_, _, t, rfl, ht⟩
      · exact absurd h1.1 h
      · omega
      · exact ⟨⟨t, rfl, ht⟩, b2⟩)
    by_cases h2 : mChk n = 0 ∧ (tMod n.val).length ≤ 4096
    · have g1 := (mChk0 m hm).1 h1.1
      have g2 := (mChk0 n hn).1 h2.1
      refine bapart_ok (mcA m) (mcA n) (m.val = n.val) (tMod m.val) (tMod n.val) w infoMod infoMod ?_ ?_ w1 (fun w' b => (hW2 w' b).mono ?_) (fun w' b => sameModule_any m n w' (hm.below b) (hn.below b))
      · unfold tMod
        rw [List.length_append]
        have : head8.length = 8 := rfl
        omega
      · constructor
        · intro h
          have e1 := mod_back _ g1 h1.2
          rw [h, mod_back _ g2 h2.2] at e1
          simp only [Except.ok.injEq] at e1
          exact e1.symm
        · intro h
          rw [h]
      · rintro r w2 ⟨b2, h⟩
        rcases h with ⟨h, _⟩ | ⟨_, h, _⟩ | ⟨_, _, t, rfl, ht⟩
        · exact absurd h2.1 h
        · omega
        · exact ⟨⟨t, rfl, ht⟩, b2⟩
    · by_cases h0 : mChk n = 0
      · refine bapart_bad2 (mcA m) (mcA n) 2 rfl w infoMod infoMod (fun w' b => (w1 w' b).mono fun r w'' h => ⟨⟨h.1.choose, h.1.choose_spec.1⟩, h.2⟩) (fun w' b => (hW2 w' b).mono ?_)
        rintro r w2 ⟨b2, h⟩
        rcases h with ⟨h, _⟩ | ⟨_, _, rfl⟩ | ⟨_, h, _⟩
        · exact absurd h0 h
        · exact ⟨⟨_, rfl⟩, b2⟩
        · exact absurd ⟨h0, h⟩ h2
      · refine bapart_bad2 (mcA m) (mcA n) (mChk n) (beq_eq_false_iff_ne.2 h0) w infoMod infoMod (fun w' b => (w1 w' b).mono fun r w'' h => ⟨⟨h.1.choose, h.1.choose_spec.1⟩, h.2⟩) (fun w' b => (hW2 w' b).mono ?_)
        rintro r w2 ⟨b2, h⟩
        rcases h with ⟨_, rfl⟩ | ⟨h, _⟩ | ⟨h, _⟩
        · exact ⟨⟨_, rfl⟩, b2⟩
        · exact absurd h h0
        · exact absurd h h0
  · have w2 : ∀ w', Below w.heap.size w w' → Calls Tryz.prog 4 #[.agg (mcA n)] w' fun r w'' => (∃ (t : ByteArray) (f : Int), r = .returned (.tuple #[.string t, .int .i64 f])) ∧ Below w'.heap.size w' w'' := fun w' b => (hW2 w' b).mono (by
      rintro r w2 h
      rcases bad n w' r w2 h with ⟨_, _, t, h3, _⟩ | ⟨e, _, h3⟩
      · exact ⟨⟨t, 0, h3⟩, h.1⟩
      · exact ⟨⟨_, e, h3⟩, h.1⟩)
    by_cases h0 : mChk m = 0
    · refine bapart_bad1 (mcA m) (mcA n) 2 rfl w infoMod infoMod (fun w' b => (hW w' b).mono ?_) w2
      rintro r w2 ⟨b2, h⟩
      rcases h with ⟨h, _⟩ | ⟨_, _, rfl⟩ | ⟨_, h, _⟩
      · exact absurd h0 h
      · exact ⟨rfl, b2⟩
      · exact absurd ⟨h0, h⟩ h1
    · refine bapart_bad1 (mcA m) (mcA n) (mChk m) (beq_eq_false_iff_ne.2 h0) w infoMod infoMod (fun w' b => (hW w' b).mono ?_) w2
      rintro r w2 ⟨b2, h⟩
      rcases h with ⟨_, rfl⟩ | ⟨h, _⟩ | ⟨h, _⟩
      · exact ⟨rfl, b2⟩
      · exact absurd h h0
      · exact absurd h h0
end Go.Proofs.YtakpkdckajjooabGreatDoor
