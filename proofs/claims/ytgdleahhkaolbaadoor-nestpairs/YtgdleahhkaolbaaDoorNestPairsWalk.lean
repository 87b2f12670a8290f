/-
  The law of pairs: its walk.
-/
import Derived.Test.YtgdleahhkaolbaaDoorNest8
import Derived.Deep.RegionHeld3
import Derived.Deep.RegionWith
import Derived.Deep.QuietTactic
import Derived.BigQuiet
namespace Go.Proofs.YtgdleahhkaolbaaDoor
open Go.RowKit

theorem end_LD (w : World) : LD (w.alloc (.cells #[.int .u8 11, .int .i64 0, .int .i64 0, .slice none 0 0] 24)) (some ⟨w.heap.size, 0, none⟩) [endD] := by
  refine ⟨fun d hd => ?_, Or.inr ⟨w.heap.size, 0, rfl, by simp, fun i hi => ?_⟩⟩
  · simp at hd
    subst hd
    exact endD_ok _
  · have hi0 : i = 0 := by simp at hi; omega
    subst hi0
    have hx : XS (w.alloc (.cells #[.int .u8 11, .int .i64 0, .int .i64 0, .slice none 0 0] 24)) w.heap.size (.int .u8 11) (.int .i64 0) (.int .i64 0) (.slice none 0 0) := new_block _ _
    exact hx.cell
theorem one_cell (w : World) (v : Value) (t : TypeId) : (w.alloc (.cells #[v] t)).cell? ⟨w.heap.size, 0, none⟩ = some v := by
  simp
set_option maxHeartbeats 8000000 in
set_option maxRecDepth 1000000 in
theorem pairs_err (o : Option Addr) (n cap : Nat) (i j e : Int) (_he : (e == 0) = false) (w : World)
    (HM : Hid (Calls Tryd.prog 21 #[.slice o n cap] (w.alloc (.cells #[.slice o n cap] 40)) fun r w' => r = .returned (.tuple #[.slice none 0 0, .slice none 0 0, .int .i64 e]) ∧ Below w.heap.size w w'))
    (HE : Hid (∀ w', Below w.heap.size w w' → Calls Tryd.prog 26 #[.slice (some ⟨w'.heap.size, 0, none⟩) 1 1] (w'.alloc (.cells #[.int .u8 11, .int .i64 0, .int .i64 0, .slice none 0 0] 24)) fun r w'' => r = .returned (.int .i64 0) ∧ Below w'.heap.size w' w''))
    (HN : Hid (∀ w', Below w.heap.size w w' → Calls Tryd.prog 26 #[.slice none 0 0] w' fun r w'' => r = .returned (.int .i64 3) ∧ Below w'.heap.size w' w'')) :
    Calls Tryd.prog 8 #[.slice o n cap, .int .i64 i, .int .i64 j] w fun r w' => r = .returned (.bool true) ∧ Below w.heap.size w w' := by
  have hne : (e != 0) = true := by rw [bne, _he]; rfl
  go_enter Tryd.func8, Tryd.ntmps8
  go_wp2_with fail
  refine HM.out.mono ?_
  rintro r w1 ⟨rfl, b1⟩
  have HB1 : Hid (Below w.heap.size w w1) := b1
  have s1 := b1.size
  clear b1 HM
  go_wp2_with fail
  refine (HE.out _ HB1.out).mono ?_
  rintro r w2 ⟨rfl, b2⟩
  have HB2 : Hid (Below w.heap.size w w2) := HB1.out.trans (b2.mono s1)
  clear b2 HE HB1
  go_wp2_with fail
  refine (HN.out _ HB2.out).mono ?_
  rintro r w3 ⟨rfl, b3⟩
  have HB3 : Hid (Below w.heap.size w w3) := HB2.out.trans (b3.mono HB2.out.size)
  clear b3 HN HB2
  go_wp2
  go_ret
  exact ⟨rfl, HB3.out⟩
set_option maxHeartbeats 16000000 in
set_option maxRecDepth 1000000 in
theorem pairs_no (b f n cap : Nat) (i j : Int) (a c : Nat) (_hn0 : 0 < n) (_hn : n ≤ 200) (_ha : a < n) (_hc : c < n) (x : Int) (_hx : isOb x = false) (w : World)
    (HM : Hid (Calls Tryd.prog 21 #[.slice (some ⟨b, f, none⟩) n cap] (w.alloc (.cells #[.slice (some ⟨b, f, none⟩) n cap] 40)) fun r w' => ∃ gE gS, r = .returned (.tuple #[.slice (some ⟨gE, 0, none⟩) n n, .slice (some ⟨gS, 0, none⟩) n n, .int .i64 0]) ∧ Below (w.heap.size + 1) (w.alloc (.cells #[.slice (some ⟨b, f, none⟩) n cap] 40)) w' ∧ Hid (∀ w'', Below w'.heap.size w' w'' → w''.cell? ⟨b, f + a * 4, none⟩ = some (.int .u8 x))))
    (HE : Hid (∀ w', Below w.heap.size w w' → Calls Tryd.prog 26 #[.slice (some ⟨w'.heap.size, 0, none⟩) 1 1] (w'.alloc (.cells #[.int .u8 11, .int .i64 0, .int .i64 0, .slice none 0 0] 24)) fun r w'' => r = .returned (.int .i64 0) ∧ Below w'.heap.size w' w''))
    (HN : Hid (∀ w', Below w.heap.size w w' → Calls Tryd.prog 26 #[.slice none 0 0] w' fun r w'' => r = .returned (.int .i64 3) ∧ Below w'.heap.size w' w''))
    (HRi : Hid (∀ w, Calls Tryd.prog 36 #[.int .i64 i, .int .i64 (n : Int)] w fun r w' => r = .returned (.int .i64 (a : Int)) ∧ w' = w))
    (HRj : Hid (∀ w, Calls Tryd.prog 36 #[.int .i64 j, .int .i64 (n : Int)] w fun r w' => r = .returned (.int .i64 (c : Int)) ∧ w' = w)) :
    Calls Tryd.prog 8 #[.slice (some ⟨b, f, none⟩) n cap, .int .i64 i, .int .i64 j] w fun r w' => r = .returned (.bool true) ∧ Below w.heap.size w w' := by
  go_enter Tryd.func8, Tryd.ntmps8
  go_wp2_with fail
  refine HM.out.mono ?_
  rintro r w1 ⟨gE, gS, rfl, b1, HF⟩
  have s1 : w.heap.size < w1.heap.size := by have := b1.size; simp at this; omega
  have HX1 : Hid (w1.cell? ⟨w.heap.size, 0, none⟩ = some (.slice (some ⟨b, f, none⟩) n cap)) := by
    unfold Hid
    rw [b1.cell (p := ⟨w.heap.size, 0, none⟩) (by simp)]
    exact one_cell _ _ _
  have HB1 : Hid (Below w.heap.size w w1) := ((Below.refl _ _).alloc (Nat.le_refl _) _).trans (b1.mono (by omega))
  clear b1 HM
  go_wp2_with fail
  refine (HE.out _ HB1.out).mono ?_
  rintro r w2 ⟨rfl, b2⟩
  have s2 := b2.size
  have HB2 : Hid (Below w.heap.size w w2) := HB1.out.trans (b2.mono HB1.out.size)
  have HX2 : Hid (w2.cell? ⟨w.heap.size, 0, none⟩ = some (.slice (some ⟨b, f, none⟩) n cap)) := (b2.cell (p := ⟨w.heap.size, 0, none⟩) s1).trans HX1.out
  have HF2 : Hid (Below w1.heap.size w1 w2) := b2
  clear b2 HE HB1 HX1
  go_wp2_with fail
  refine (HN.out _ HB2.out).mono ?_
  rintro r w3 ⟨rfl, b3⟩
  have HB3 : Hid (Below w.heap.size w w3) := HB2.out.trans (b3.mono HB2.out.size)
  have hX3 : w3.cell? ⟨w.heap.size, 0, none⟩ = some (.slice (some ⟨b, f, none⟩) n cap) := (b3.cell (p := ⟨w.heap.size, 0, none⟩) (by simp only; omega)).trans HX2.out
  have hF3 := HF.out w3 (HF2.out.trans (b3.mono s2))
  clear b3 HN HB2 HX2 HF2 HF
  have HO : Hid (∀ w', w'.cell? ⟨w.heap.size, 0, none⟩ = some (.slice (some ⟨b, f, none⟩) n cap) → w'.cell? ⟨b, f + a * 4, none⟩ = some (.int .u8 x) → Calls Tryd.prog 37 #[.int .i64 (a : Int), .pointer (some ⟨w.heap.size, 0, none⟩)] w' fun r w'' => r = .returned (.bool false) ∧ w'' = w') := fun w' h1 h2 => by
    have := opens_any w.heap.size b f n cap a x _ha w' h1 h2
    rw [_hx] at this
    exact this
  go_wp2
  go_region_held3 (fun w' => w'.cell? ⟨w.heap.size, 0, none⟩ = some (.slice (some ⟨b, f, none⟩) n cap)) (go_keep)
    (first
      | (go_at_call_of 36 (Value.int .i64 i); refine (HRi.out _).mono ?_; rintro r w5 ⟨rfl, rfl⟩)
      | (go_at_call_of 36 (Value.int .i64 j); refine (HRj.out _).mono ?_; rintro r w6 ⟨rfl, rfl⟩))
  all_goals
    go_wp2_with fail
    refine (HO.out w3.drew hX3 hF3).mono ?_
    rintro r w7 ⟨rfl, rfl⟩
    go_wp2_with fail
    refine (HO.out w3.drew hX3 hF3).mono ?_
    rintro r w8 ⟨rfl, rfl⟩
    go_wp2
    go_ret
    exact ⟨rfl, ⟨HB3.out.os, HB3.out.tape, HB3.out.output, HB3.out.size, HB3.out.block⟩⟩
set_option maxHeartbeats 16000000 in
set_option maxRecDepth 1000000 in
theorem pairs_end (b f n cap : Nat) (i j : Int) (a c : Nat) (_hn0 : 0 < n) (_hn : n ≤ 200) (_ha : a < n) (_hc : c < n) (x y : Int) (q : Nat) (rr : Int) (_hx : isOb x = true) (_h1 : a < q) (_h2 : q < n) (hcase : isOb y = false ∨ ¬ (a : Int) < (c : Int) ∨ rr < (q : Int) ∨ (q : Int) < (c : Int)) (w : World)
    (HM : Hid (Calls Tryd.prog 21 #[.slice (some ⟨b, f, none⟩) n cap] (w.alloc (.cells #[.slice (some ⟨b, f, none⟩) n cap] 40)) fun r w' => ∃ gE gS, r = .returned (.tuple #[.slice (some ⟨gE, 0, none⟩) n n, .slice (some ⟨gS, 0, none⟩) n n, .int .i64 0]) ∧ Below (w.heap.size + 1) (w.alloc (.cells #[.slice (some ⟨b, f, none⟩) n cap] 40)) w' ∧ Hid (∀ w'', Below w'.heap.size w' w'' → (w''.cell? ⟨b, f + a * 4, none⟩ = some (.int .u8 x) ∧ w''.cell? ⟨b, f + c * 4, none⟩ = some (.int .u8 y) ∧ w''.cell? ⟨gE, a, none⟩ = some (.int .i64 (q : Int)) ∧ w''.cell? ⟨gE, q, none⟩ = some (.int .i64 (a : Int)) ∧ w''.cell? ⟨b, f + q * 4, none⟩ = some (.int .u8 11) ∧ w''.cell? ⟨gE, c, none⟩ = some (.int .i64 rr) ∧ w''.cell? ⟨gS, a, none⟩ = some (.int .i64 (-1))))))
    (HE : Hid (∀ w', Below w.heap.size w w' → Calls Tryd.prog 26 #[.slice (some ⟨w'.heap.size, 0, none⟩) 1 1] (w'.alloc (.cells #[.int .u8 11, .int .i64 0, .int .i64 0, .slice none 0 0] 24)) fun r w'' => r = .returned (.int .i64 0) ∧ Below w'.heap.size w' w''))
    (HN : Hid (∀ w', Below w.heap.size w w' → Calls Tryd.prog 26 #[.slice none 0 0] w' fun r w'' => r = .returned (.int .i64 3) ∧ Below w'.heap.size w' w''))
    (HRi : Hid (∀ w, Calls Tryd.prog 36 #[.int .i64 i, .int .i64 (n : Int)] w fun r w' => r = .returned (.int .i64 (a : Int)) ∧ w' = w))
    (HRj : Hid (∀ w, Calls Tryd.prog 36 #[.int .i64 j, .int .i64 (n : Int)] w fun r w' => r = .returned (.int .i64 (c : Int)) ∧ w' = w)) :
    Calls Tryd.prog 8 #[.slice (some ⟨b, f, none⟩) n cap, .int .i64 i, .int .i64 j] w fun r w' => r = .returned (.bool true) ∧ Below w.heap.size w w' := by
  go_enter Tryd.func8, Tryd.ntmps8
  go_wp2_with fail
  refine HM.out.mono ?_
  rintro r w1 ⟨gE, gS, rfl, b1, HF⟩
  have s1 : w.heap.size < w1.heap.size := by have := b1.size; simp at this; omega
  have HX1 : Hid (w1.cell? ⟨w.heap.size, 0, none⟩ = some (.slice (some ⟨b, f, none⟩) n cap)) := by
    unfold Hid
    rw [b1.cell (p := ⟨w.heap.size, 0, none⟩) (by simp)]
    exact one_cell _ _ _
  have HB1 : Hid (Below w.heap.size w w1) := ((Below.refl _ _).alloc (Nat.le_refl _) _).trans (b1.mono (by omega))
  clear b1 HM
  go_wp2_with fail
  refine (HE.out _ HB1.out).mono ?_
  rintro r w2 ⟨rfl, b2⟩
  have s2 := b2.size
  have HB2 : Hid (Below w.heap.size w w2) := HB1.out.trans (b2.mono HB1.out.size)
  have HX2 : Hid (w2.cell? ⟨w.heap.size, 0, none⟩ = some (.slice (some ⟨b, f, none⟩) n cap)) := (b2.cell (p := ⟨w.heap.size, 0, none⟩) s1).trans HX1.out
  have HF2 : Hid (Below w1.heap.size w1 w2) := b2
  clear b2 HE HB1 HX1
  go_wp2_with fail
  refine (HN.out _ HB2.out).mono ?_
  rintro r w3 ⟨rfl, b3⟩
  have HB3 : Hid (Below w.heap.size w w3) := HB2.out.trans (b3.mono HB2.out.size)
  have hX3 : w3.cell? ⟨w.heap.size, 0, none⟩ = some (.slice (some ⟨b, f, none⟩) n cap) := (b3.cell (p := ⟨w.heap.size, 0, none⟩) (by simp only; omega)).trans HX2.out
  have hF3 := HF.out w3 (HF2.out.trans (b3.mono s2))
  clear b3 HN HB2 HX2 HF2 HF
  obtain ⟨fa, fc, ea, eq, oq, ec, sa⟩ := hF3
  have HO : Hid (∀ w', w'.cell? ⟨w.heap.size, 0, none⟩ = some (.slice (some ⟨b, f, none⟩) n cap) → w'.cell? ⟨b, f + a * 4, none⟩ = some (.int .u8 x) → Calls Tryd.prog 37 #[.int .i64 (a : Int), .pointer (some ⟨w.heap.size, 0, none⟩)] w' fun r w'' => r = .returned (.bool true) ∧ w'' = w') := fun w' h1 h2 => by
    have := opens_any w.heap.size b f n cap a x _ha w' h1 h2
    rw [_hx] at this
    exact this
  have HP : Hid (∀ w', w'.cell? ⟨w.heap.size, 0, none⟩ = some (.slice (some ⟨b, f, none⟩) n cap) → w'.cell? ⟨b, f + c * 4, none⟩ = some (.int .u8 y) → Calls Tryd.prog 37 #[.int .i64 (c : Int), .pointer (some ⟨w.heap.size, 0, none⟩)] w' fun r w'' => r = .returned (.bool (isOb y)) ∧ w'' = w') := fun w' h1 h2 => opens_any w.heap.size b f n cap c y _hc w' h1 h2
  obtain ⟨cj, hcj⟩ : ∃ z, isOb y = z := ⟨_, rfl⟩
  rw [hcj] at HP hcase
  have HCase : Hid (type_of% hcase) := hcase
  clear hcj hcase
  have hai0 : (0 : Int) ≤ (a : Int) := by omega
  have hai1 : (a : Int) < (n : Int) := by omega
  have hci0 : (0 : Int) ≤ (c : Int) := by omega
  have hci1 : (c : Int) < (n : Int) := by omega
  have hqi0 : (0 : Int) ≤ (q : Int) := by omega
  have hqi1 : (q : Int) < (n : Int) := by omega
  have hqa : (a : Int) < (q : Int) := by omega
  go_wp2
  go_region_held3 (fun w' => w'.cell? ⟨w.heap.size, 0, none⟩ = some (.slice (some ⟨b, f, none⟩) n cap)) (go_keep)
    (first
      | (go_at_call_of 36 (Value.int .i64 i); refine (HRi.out _).mono ?_; rintro r w5 ⟨rfl, rfl⟩)
      | (go_at_call_of 36 (Value.int .i64 j); refine (HRj.out _).mono ?_; rintro r w6 ⟨rfl, rfl⟩))
  all_goals
    go_wp2_with fail
    refine (HO.out w3.drew hX3 fa).mono ?_
    rintro r w7 ⟨rfl, rfl⟩
    go_wp2_with fail
    refine (HO.out w3.drew hX3 fa).mono ?_
    rintro r w8 ⟨rfl, rfl⟩
    go_wp2_with fail
    refine (HP.out w3.drew hX3 fc).mono ?_
    rintro r w9 ⟨rfl, rfl⟩
    cases cj
    · go_wp2
      go_ret
      exact ⟨rfl, ⟨HB3.out.os, HB3.out.tape, HB3.out.output, HB3.out.size, HB3.out.block⟩⟩
    · by_cases hac : (a : Int) < (c : Int)
      · by_cases hrq : rr < (q : Int)
        · have hd1 : decide (rr < (q : Int)) = true := decide_eq_true hrq
          go_wp2
          go_quiet (fail)
          all_goals
            go_wp2
            go_ret
            exact ⟨rfl, ⟨HB3.out.os, HB3.out.tape, HB3.out.output, HB3.out.size, HB3.out.block⟩⟩
        · have hqc : (q : Int) < (c : Int) := by
            rcases HCase.out with h | h | h | h
            · cases h
            · omega
            · exact absurd h hrq
            · exact h
          have hd1 : decide (rr < (q : Int)) = false := decide_eq_false hrq
          have hd2 : decide ((q : Int) < (c : Int)) = true := decide_eq_true hqc
          go_wp2
          go_region_held3 (fun w' => w'.cell? ⟨gE, a, none⟩ = some (.int .i64 (q : Int)) ∧ w'.cell? ⟨gE, c, none⟩ = some (.int .i64 rr)) (go_keep) (fail)
          all_goals
            go_wp2
            go_ret
            exact ⟨rfl, ⟨HB3.out.os, HB3.out.tape, HB3.out.output, HB3.out.size, HB3.out.block⟩⟩
      · go_wp2
        go_ret
        exact ⟨rfl, ⟨HB3.out.os, HB3.out.tape, HB3.out.output, HB3.out.size, HB3.out.block⟩⟩
set_option maxHeartbeats 16000000 in
set_option maxRecDepth 1000000 in
theorem pairs_else (b f n cap : Nat) (i j : Int) (a c : Nat) (_hn0 : 0 < n) (_hn : n ≤ 200) (_ha : a < n) (_hc : c < n) (y : Int) (q h : Nat) (rr : Int) (_h3 : a < h) (_h4 : h < q) (_h1 : a < q) (_h2 : q < n) (hcase : isOb y = false ∨ ¬ (a : Int) < (c : Int) ∨ rr < (q : Int) ∨ (q : Int) < (c : Int)) (w : World)
    (HM : Hid (Calls Tryd.prog 21 #[.slice (some ⟨b, f, none⟩) n cap] (w.alloc (.cells #[.slice (some ⟨b, f, none⟩) n cap] 40)) fun r w' => ∃ gE gS, r = .returned (.tuple #[.slice (some ⟨gE, 0, none⟩) n n, .slice (some ⟨gS, 0, none⟩) n n, .int .i64 0]) ∧ Below (w.heap.size + 1) (w.alloc (.cells #[.slice (some ⟨b, f, none⟩) n cap] 40)) w' ∧ Hid (∀ w'', Below w'.heap.size w' w'' → (w''.cell? ⟨b, f + a * 4, none⟩ = some (.int .u8 4) ∧ w''.cell? ⟨b, f + c * 4, none⟩ = some (.int .u8 y) ∧ w''.cell? ⟨gE, a, none⟩ = some (.int .i64 (q : Int)) ∧ w''.cell? ⟨gE, q, none⟩ = some (.int .i64 (a : Int)) ∧ w''.cell? ⟨b, f + q * 4, none⟩ = some (.int .u8 11) ∧ w''.cell? ⟨gE, c, none⟩ = some (.int .i64 rr) ∧ w''.cell? ⟨gS, a, none⟩ = some (.int .i64 (h : Int)) ∧ w''.cell? ⟨b, f + h * 4, none⟩ = some (.int .u8 5) ∧ w''.cell? ⟨gS, h, none⟩ = some (.int .i64 (a : Int)) ∧ w''.cell? ⟨gE, h, none⟩ = some (.int .i64 (q : Int))))))
    (HE : Hid (∀ w', Below w.heap.size w w' → Calls Tryd.prog 26 #[.slice (some ⟨w'.heap.size, 0, none⟩) 1 1] (w'.alloc (.cells #[.int .u8 11, .int .i64 0, .int .i64 0, .slice none 0 0] 24)) fun r w'' => r = .returned (.int .i64 0) ∧ Below w'.heap.size w' w''))
    (HN : Hid (∀ w', Below w.heap.size w w' → Calls Tryd.prog 26 #[.slice none 0 0] w' fun r w'' => r = .returned (.int .i64 3) ∧ Below w'.heap.size w' w''))
    (HRi : Hid (∀ w, Calls Tryd.prog 36 #[.int .i64 i, .int .i64 (n : Int)] w fun r w' => r = .returned (.int .i64 (a : Int)) ∧ w' = w))
    (HRj : Hid (∀ w, Calls Tryd.prog 36 #[.int .i64 j, .int .i64 (n : Int)] w fun r w' => r = .returned (.int .i64 (c : Int)) ∧ w' = w)) :
    Calls Tryd.prog 8 #[.slice (some ⟨b, f, none⟩) n cap, .int .i64 i, .int .i64 j] w fun r w' => r = .returned (.bool true) ∧ Below w.heap.size w w' := by
  go_enter Tryd.func8, Tryd.ntmps8
  go_wp2_with fail
  refine HM.out.mono ?_
  rintro r w1 ⟨gE, gS, rfl, b1, HF⟩
  have s1 : w.heap.size < w1.heap.size := by have := b1.size; simp at this; omega
  have HX1 : Hid (w1.cell? ⟨w.heap.size, 0, none⟩ = some (.slice (some ⟨b, f, none⟩) n cap)) := by
    unfold Hid
    rw [b1.cell (p := ⟨w.heap.size, 0, none⟩) (by simp)]
    exact one_cell _ _ _
  have HB1 : Hid (Below w.heap.size w w1) := ((Below.refl _ _).alloc (Nat.le_refl _) _).trans (b1.mono (by omega))
  clear b1 HM
  go_wp2_with fail
  refine (HE.out _ HB1.out).mono ?_
  rintro r w2 ⟨rfl, b2⟩
  have s2 := b2.size
  have HB2 : Hid (Below w.heap.size w w2) := HB1.out.trans (b2.mono HB1.out.size)
  have HX2 : Hid (w2.cell? ⟨w.heap.size, 0, none⟩ = some (.slice (some ⟨b, f, none⟩) n cap)) := (b2.cell (p := ⟨w.heap.size, 0, none⟩) s1).trans HX1.out
  have HF2 : Hid (Below w1.heap.size w1 w2) := b2
  clear b2 HE HB1 HX1
  go_wp2_with fail
  refine (HN.out _ HB2.out).mono ?_
  rintro r w3 ⟨rfl, b3⟩
  have HB3 : Hid (Below w.heap.size w w3) := HB2.out.trans (b3.mono HB2.out.size)
  have hX3 : w3.cell? ⟨w.heap.size, 0, none⟩ = some (.slice (some ⟨b, f, none⟩) n cap) := (b3.cell (p := ⟨w.heap.size, 0, none⟩) (by simp only; omega)).trans HX2.out
  have hF3 := HF.out w3 (HF2.out.trans (b3.mono s2))
  clear b3 HN HB2 HX2 HF2 HF
  obtain ⟨fa, fc, ea, eq, oq, ec, sa, oh, sh, eh⟩ := hF3
  have HO : Hid (∀ w', w'.cell? ⟨w.heap.size, 0, none⟩ = some (.slice (some ⟨b, f, none⟩) n cap) → w'.cell? ⟨b, f + a * 4, none⟩ = some (.int .u8 4) → Calls Tryd.prog 37 #[.int .i64 (a : Int), .pointer (some ⟨w.heap.size, 0, none⟩)] w' fun r w'' => r = .returned (.bool true) ∧ w'' = w') := fun w' h1 h2 => by
    have := opens_any w.heap.size b f n cap a 4 _ha w' h1 h2
    exact this
  have HP : Hid (∀ w', w'.cell? ⟨w.heap.size, 0, none⟩ = some (.slice (some ⟨b, f, none⟩) n cap) → w'.cell? ⟨b, f + c * 4, none⟩ = some (.int .u8 y) → Calls Tryd.prog 37 #[.int .i64 (c : Int), .pointer (some ⟨w.heap.size, 0, none⟩)] w' fun r w'' => r = .returned (.bool (isOb y)) ∧ w'' = w') := fun w' h1 h2 => opens_any w.heap.size b f n cap c y _hc w' h1 h2
  obtain ⟨cj, hcj⟩ : ∃ z, isOb y = z := ⟨_, rfl⟩
  rw [hcj] at HP hcase
  have HCase : Hid (type_of% hcase) := hcase
  clear hcj hcase
  have hai0 : (0 : Int) ≤ (a : Int) := by omega
  have hai1 : (a : Int) < (n : Int) := by omega
  have hci0 : (0 : Int) ≤ (c : Int) := by omega
  have hci1 : (c : Int) < (n : Int) := by omega
  have hqi0 : (0 : Int) ≤ (q : Int) := by omega
  have hqi1 : (q : Int) < (n : Int) := by omega
  have hqa : (a : Int) < (q : Int) := by omega
  have hhi0 : (0 : Int) ≤ (h : Int) := by omega
  have hhi1 : (h : Int) < (n : Int) := by omega
  have hha : (a : Int) < (h : Int) := by omega
  have hhq : (h : Int) < (q : Int) := by omega
  go_wp2
  go_region_held3 (fun w' => w'.cell? ⟨w.heap.size, 0, none⟩ = some (.slice (some ⟨b, f, none⟩) n cap)) (go_keep)
    (first
      | (go_at_call_of 36 (Value.int .i64 i); refine (HRi.out _).mono ?_; rintro r w5 ⟨rfl, rfl⟩)
      | (go_at_call_of 36 (Value.int .i64 j); refine (HRj.out _).mono ?_; rintro r w6 ⟨rfl, rfl⟩))
  all_goals
    go_wp2_with fail
    refine (HO.out w3.drew hX3 fa).mono ?_
    rintro r w7 ⟨rfl, rfl⟩
    go_wp2_with fail
    refine (HO.out w3.drew hX3 fa).mono ?_
    rintro r w8 ⟨rfl, rfl⟩
    go_wp2_with fail
    refine (HP.out w3.drew hX3 fc).mono ?_
    rintro r w9 ⟨rfl, rfl⟩
    cases cj
    · go_wp2
      go_ret
      exact ⟨rfl, ⟨HB3.out.os, HB3.out.tape, HB3.out.output, HB3.out.size, HB3.out.block⟩⟩
    · by_cases hac : (a : Int) < (c : Int)
      · by_cases hrq : rr < (q : Int)
        · have hd1 : decide (rr < (q : Int)) = true := decide_eq_true hrq
          go_wp2
          go_quiet (fail)
          all_goals
            go_wp2
            go_ret
            exact ⟨rfl, ⟨HB3.out.os, HB3.out.tape, HB3.out.output, HB3.out.size, HB3.out.block⟩⟩
        · have hqc : (q : Int) < (c : Int) := by
            rcases HCase.out with h | h | h | h
            · cases h
            · omega
            · exact absurd h hrq
            · exact h
          have hd1 : decide (rr < (q : Int)) = false := decide_eq_false hrq
          have hd2 : decide ((q : Int) < (c : Int)) = true := decide_eq_true hqc
          go_wp2
          go_region_held3 (fun w' => w'.cell? ⟨gE, a, none⟩ = some (.int .i64 (q : Int)) ∧ w'.cell? ⟨gE, c, none⟩ = some (.int .i64 rr)) (go_keep) (fail)
          all_goals
            go_wp2
            go_ret
            exact ⟨rfl, ⟨HB3.out.os, HB3.out.tape, HB3.out.output, HB3.out.size, HB3.out.block⟩⟩
      · go_wp2
        go_ret
        exact ⟨rfl, ⟨HB3.out.os, HB3.out.tape, HB3.out.output, HB3.out.size, HB3.out.block⟩⟩
end Go.Proofs.YtgdleahhkaolbaaDoor
