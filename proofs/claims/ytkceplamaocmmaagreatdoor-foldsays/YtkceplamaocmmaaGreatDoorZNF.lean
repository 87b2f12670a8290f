/-
  What the document's own NumOne does.
  Plain mathematics: bits as a list and as a number: how many are set, how many are ahead of the first.
-/
import Derived.Test.YtkceplamaocmmaaGreatDoorZNA
import Derived.Test.YtkceplamaocmmaaGreatDoorZGOne
import Derived.Lib.BitFns
import Derived.Lib.TrailingZeros
set_option maxHeartbeats 400000
set_option maxRecDepth 1000000
namespace Go.Proofs.YtkceplamaocmmaaGreatDoor
set_option linter.unusedVariables false
open Go.RowKit
def b2i (b : Bool) : Int := if b then 1 else 0
def oneV (op : Int) (a : Int) : Option Int :=
  if op = 69 then some (b2i ((wordB a 32).all (! ·))) else if op = 80 then some (b2i ((wordB a 64).all (! ·)))
  else if op = 103 then some (tz (wordB a 32).reverse) else if op = 121 then some (tz (wordB a 64).reverse)
  else if op = 104 then some (tz (wordB a 32)) else if op = 122 then some (tz (wordB a 64))
  else if op = 105 then some (ones (wordB a 32)) else if op = 123 then some (ones (wordB a 64))
  else if op = 192 then some (cutS a 8) else if op = 194 then some (cutS a 8)
  else if op = 193 then some (cutS a 16) else if op = 195 then some (cutS a 16)
  else if op = 167 then some (cutS a 32) else if op = 172 then some (cutS a 32) else if op = 196 then some (cutS a 32)
  else if op = 173 then some (a % 4294967296) else none
theorem truth_b (b : Bool) (w : World) : Calls Tryz.prog 37 #[.bool b] w fun e w' => e = .returned (.int .i64 (b2i b)) ∧ w' = w := truth_any b w
theorem none_at (v : Value) (bs : List Bool) (B : Bool) (w : World) (hv : IsW w v bs) (h : bs.all (! ·) = B) :
    Calls Tryz.prog 38 #[v] w fun e w' => e = .returned (.bool B) ∧ w' = w := by rw [← h]; exact none_any v bs w hv
theorem IsW.take {w : World} {g cap n k : Nat} {bs : List Bool} (h : IsW w (.slice (some ⟨g, 0, none⟩) n cap) bs) (hk : k ≤ bs.length) : IsW w (.slice (some ⟨g, 0, none⟩) k cap) (bs.take k) := by
  obtain ⟨g', cap', h1, h2, h3, h4, h5⟩ := h
  simp only [Value.slice.injEq, Option.some.injEq, Addr.mk.injEq, and_true] at h1
  obtain ⟨rfl, rfl, rfl⟩ := h1
  refine ⟨g, cap, by rw [List.length_take, Nat.min_eq_left hk], by rw [List.length_take]; omega, h3, h4, fun i hi => ?_⟩
  rw [List.length_take, Nat.min_eq_left hk] at hi
  rw [h5 i (by omega), List.getD_eq_getElem?_getD, List.getD_eq_getElem?_getD, List.getElem?_take_of_lt hi]
theorem one_69 (a : Int) (w : World) :
    Calls Tryz.prog 21 #[.int .u8 69, .int .i64 a] w fun e w' => e = .returned (.tuple #[.int .i64 (b2i ((wordB a 32).all (! ·))), .int .i64 0]) ∧ Below w.heap.size w w' := by
  obtain ⟨B, hB⟩ : ∃ B, (wordB a 32).all (! ·) = B := ⟨_, rfl⟩
  rw [hB]
  have HB : Hid ((wordB a 32).all (! ·) = B) := hB
  clear hB
  go_enter Tryz.func21, Tryz.ntmps21
  go_wp2_with fail
  refine (wordOf_32 a _).mono ?_
  rintro e w1 ⟨v, rfl, hv, b1⟩
  go_wp2_with fail
  refine (none_at v _ B w1 hv HB.out).mono ?_
  rintro e w2 ⟨rfl, rfl⟩
  go_wp2_with fail
  refine (truth_b B _).mono ?_
  rintro e w3 ⟨rfl, rfl⟩
  go_wp2
  go_ret2
  exact ⟨rfl, b1⟩
theorem one_80 (a : Int) (w : World) :
    Calls Tryz.prog 21 #[.int .u8 80, .int .i64 a] w fun e w' => e = .returned (.tuple #[.int .i64 (b2i ((wordB a 64).all (! ·))), .int .i64 0]) ∧ Below w.heap.size w w' := by
  obtain ⟨B, hB⟩ : ∃ B, (wordB a 64).all (! ·) = B := ⟨_, rfl⟩
  rw [hB]
  have HB : Hid ((wordB a 64).all (! ·) = B) := hB
  clear hB
  go_enter Tryz.func21, Tryz.ntmps21
  go_wp2_with fail
  refine (wordOf_64 a _).mono ?_
  rintro e w1 ⟨v, rfl, hv, b1⟩
  go_wp2_with fail
  refine (none_at v _ B w1 hv HB.out).mono ?_
  rintro e w2 ⟨rfl, rfl⟩
  go_wp2_with fail
  refine (truth_b B _).mono ?_
  rintro e w3 ⟨rfl, rfl⟩
  go_wp2
  go_ret2
  exact ⟨rfl, b1⟩
theorem one_103 (a : Int) (w : World) :
    Calls Tryz.prog 21 #[.int .u8 103, .int .i64 a] w fun e w' => e = .returned (.tuple #[.int .i64 (((tz (wordB a 32).reverse : Nat) : Int)), .int .i64 0]) ∧ Below w.heap.size w w' := by
  have HC : Hid (∀ v w, IsW w v (wordB a 32) → Calls Tryz.prog 39 #[v, .int .i64 31, .int .i64 (-1), .bool true] w fun e w' => e = .returned (.int .i64 ((tz (wordB a 32).reverse : Nat) : Int)) ∧ w' = w) := by
    intro v w h
    have := countDown_any v _ w h (by rw [wordB_length]; omega)
    rw [wordB_length] at this
    exact this
  go_enter Tryz.func21, Tryz.ntmps21
  go_wp2_with fail
  refine (wordOf_32 a _).mono ?_
  rintro e w1 ⟨v, rfl, hv, b1⟩
  go_wp2_with fail
  refine (HC.out v _ hv).mono ?_
  rintro e w2 ⟨rfl, rfl⟩
  go_wp2
  go_ret2
  exact ⟨rfl, b1⟩
theorem one_121 (a : Int) (w : World) :
    Calls Tryz.prog 21 #[.int .u8 121, .int .i64 a] w fun e w' => e = .returned (.tuple #[.int .i64 (((tz (wordB a 64).reverse : Nat) : Int)), .int .i64 0]) ∧ Below w.heap.size w w' := by
  have HC : Hid (∀ v w, IsW w v (wordB a 64) → Calls Tryz.prog 39 #[v, .int .i64 63, .int .i64 (-1), .bool true] w fun e w' => e = .returned (.int .i64 ((tz (wordB a 64).reverse : Nat) : Int)) ∧ w' = w) := by
    intro v w h
    have := countDown_any v _ w h (by rw [wordB_length]; omega)
    rw [wordB_length] at this
    exact this
  go_enter Tryz.func21, Tryz.ntmps21
  go_wp2_with fail
  refine (wordOf_64 a _).mono ?_
  rintro e w1 ⟨v, rfl, hv, b1⟩
  go_wp2_with fail
  refine (HC.out v _ hv).mono ?_
  rintro e w2 ⟨rfl, rfl⟩
  go_wp2
  go_ret2
  exact ⟨rfl, b1⟩
theorem one_104 (a : Int) (w : World) :
    Calls Tryz.prog 21 #[.int .u8 104, .int .i64 a] w fun e w' => e = .returned (.tuple #[.int .i64 (((tz (wordB a 32) : Nat) : Int)), .int .i64 0]) ∧ Below w.heap.size w w' := by
  have HC : Hid (∀ v w, IsW w v (wordB a 32) → Calls Tryz.prog 39 #[v, .int .i64 0, .int .i64 1, .bool true] w fun e w' => e = .returned (.int .i64 ((tz (wordB a 32) : Nat) : Int)) ∧ w' = w) := by
    intro v w h
    have := countUp_any v _ w h (by rw [wordB_length]; omega)
    exact this
  go_enter Tryz.func21, Tryz.ntmps21
  go_wp2_with fail
  refine (wordOf_32 a _).mono ?_
  rintro e w1 ⟨v, rfl, hv, b1⟩
  go_wp2_with fail
  refine (HC.out v _ hv).mono ?_
  rintro e w2 ⟨rfl, rfl⟩
  go_wp2
  go_ret2
  exact ⟨rfl, b1⟩
theorem one_122 (a : Int) (w : World) :
    Calls Tryz.prog 21 #[.int .u8 122, .int .i64 a] w fun e w' => e = .returned (.tuple #[.int .i64 (((tz (wordB a 64) : Nat) : Int)), .int .i64 0]) ∧ Below w.heap.size w w' := by
  have HC : Hid (∀ v w, IsW w v (wordB a 64) → Calls Tryz.prog 39 #[v, .int .i64 0, .int .i64 1, .bool true] w fun e w' => e = .returned (.int .i64 ((tz (wordB a 64) : Nat) : Int)) ∧ w' = w) := by
    intro v w h
    have := countUp_any v _ w h (by rw [wordB_length]; omega)
    exact this
  go_enter Tryz.func21, Tryz.ntmps21
  go_wp2_with fail
  refine (wordOf_64 a _).mono ?_
  rintro e w1 ⟨v, rfl, hv, b1⟩
  go_wp2_with fail
  refine (HC.out v _ hv).mono ?_
  rintro e w2 ⟨rfl, rfl⟩
  go_wp2
  go_ret2
  exact ⟨rfl, b1⟩
theorem one_192 (a : Int) (w : World) :
    Calls Tryz.prog 21 #[.int .u8 192, .int .i64 a] w fun e w' => e = .returned (.tuple #[.int .i64 (cutS a 8), .int .i64 0]) ∧ Below w.heap.size w w' := by
  go_enter Tryz.func21, Tryz.ntmps21
  go_wp2_with fail
  refine (wordOf_32 a _).mono ?_
  rintro e w1 ⟨v, rfl, hv, b1⟩
  obtain ⟨g, cap, rfl⟩ := word_isW_len hv
  have hv2 := hv.take (k := 8) (by rw [wordB_length]; omega)
  rw [wordB_take a 32 8 (by omega)] at hv2
  have hcap : 32 ≤ cap := by obtain ⟨g', cap', h1, h2, _⟩ := hv; rw [wordB_length] at h1 h2; simp only [Value.slice.injEq] at h1; omega
  have HV : Hid _ := hv2
  clear hv hv2
  go_wp2_with fail
  refine (value_any _ _ _ HV.out (by rw [wordB_length]; omega) (by rw [wordB_length]; omega)).mono ?_
  rintro e w2 ⟨rfl, rfl⟩
  go_wp2
  go_ret2
  exact ⟨rfl, b1⟩
theorem one_194 (a : Int) (w : World) :
    Calls Tryz.prog 21 #[.int .u8 194, .int .i64 a] w fun e w' => e = .returned (.tuple #[.int .i64 (cutS a 8), .int .i64 0]) ∧ Below w.heap.size w w' := by
  go_enter Tryz.func21, Tryz.ntmps21
  go_wp2_with fail
  refine (wordOf_64 a _).mono ?_
  rintro e w1 ⟨v, rfl, hv, b1⟩
  obtain ⟨g, cap, rfl⟩ := word_isW_len hv
  have hv2 := hv.take (k := 8) (by rw [wordB_length]; omega)
  rw [wordB_take a 64 8 (by omega)] at hv2
  have hcap : 64 ≤ cap := by obtain ⟨g', cap', h1, h2, _⟩ := hv; rw [wordB_length] at h1 h2; simp only [Value.slice.injEq] at h1; omega
  have HV : Hid _ := hv2
  clear hv hv2
  go_wp2_with fail
  refine (value_any _ _ _ HV.out (by rw [wordB_length]; omega) (by rw [wordB_length]; omega)).mono ?_
  rintro e w2 ⟨rfl, rfl⟩
  go_wp2
  go_ret2
  exact ⟨rfl, b1⟩
theorem one_193 (a : Int) (w : World) :
    Calls Tryz.prog 21 #[.int .u8 193, .int .i64 a] w fun e w' => e = .returned (.tuple #[.int .i64 (cutS a 16), .int .i64 0]) ∧ Below w.heap.size w w' := by
  go_enter Tryz.func21, Tryz.ntmps21
  go_wp2_with fail
  refine (wordOf_32 a _).mono ?_
  rintro e w1 ⟨v, rfl, hv, b1⟩
  obtain ⟨g, cap, rfl⟩ := word_isW_len hv
  have hv2 := hv.take (k := 16) (by rw [wordB_length]; omega)
  rw [wordB_take a 32 16 (by omega)] at hv2
  have hcap : 32 ≤ cap := by obtain ⟨g', cap', h1, h2, _⟩ := hv; rw [wordB_length] at h1 h2; simp only [Value.slice.injEq] at h1; omega
  have HV : Hid _ := hv2
  clear hv hv2
  go_wp2_with fail
  refine (value_any _ _ _ HV.out (by rw [wordB_length]; omega) (by rw [wordB_length]; omega)).mono ?_
  rintro e w2 ⟨rfl, rfl⟩
  go_wp2
  go_ret2
  exact ⟨rfl, b1⟩
theorem one_195 (a : Int) (w : World) :
    Calls Tryz.prog 21 #[.int .u8 195, .int .i64 a] w fun e w' => e = .returned (.tuple #[.int .i64 (cutS a 16), .int .i64 0]) ∧ Below w.heap.size w w' := by
  go_enter Tryz.func21, Tryz.ntmps21
  go_wp2_with fail
  refine (wordOf_64 a _).mono ?_
  rintro e w1 ⟨v, rfl, hv, b1⟩
  obtain ⟨g, cap, rfl⟩ := word_isW_len hv
  have hv2 := hv.take (k := 16) (by rw [wordB_length]; omega)
  rw [wordB_take a 64 16 (by omega)] at hv2
  have hcap : 64 ≤ cap := by obtain ⟨g', cap', h1, h2, _⟩ := hv; rw [wordB_length] at h1 h2; simp only [Value.slice.injEq] at h1; omega
  have HV : Hid _ := hv2
  clear hv hv2
  go_wp2_with fail
  refine (value_any _ _ _ HV.out (by rw [wordB_length]; omega) (by rw [wordB_length]; omega)).mono ?_
  rintro e w2 ⟨rfl, rfl⟩
  go_wp2
  go_ret2
  exact ⟨rfl, b1⟩
theorem one_167 (a : Int) (w : World) :
    Calls Tryz.prog 21 #[.int .u8 167, .int .i64 a] w fun e w' => e = .returned (.tuple #[.int .i64 (cutS a 32), .int .i64 0]) ∧ Below w.heap.size w w' := by
  go_enter Tryz.func21, Tryz.ntmps21
  go_wp2_with fail
  refine (wordOf_64 a _).mono ?_
  rintro e w1 ⟨v, rfl, hv, b1⟩
  obtain ⟨g, cap, rfl⟩ := word_isW_len hv
  have hv2 := hv.take (k := 32) (by rw [wordB_length]; omega)
  rw [wordB_take a 64 32 (by omega)] at hv2
  have hcap : 64 ≤ cap := by obtain ⟨g', cap', h1, h2, _⟩ := hv; rw [wordB_length] at h1 h2; simp only [Value.slice.injEq] at h1; omega
  have HV : Hid _ := hv2
  clear hv hv2
  go_wp2_with fail
  refine (value_any _ _ _ HV.out (by rw [wordB_length]; omega) (by rw [wordB_length]; omega)).mono ?_
  rintro e w2 ⟨rfl, rfl⟩
  go_wp2
  go_ret2
  exact ⟨rfl, b1⟩
theorem one_172 (a : Int) (w : World) :
    Calls Tryz.prog 21 #[.int .u8 172, .int .i64 a] w fun e w' => e = .returned (.tuple #[.int .i64 (cutS a 32), .int .i64 0]) ∧ Below w.heap.size w w' := by
  go_enter Tryz.func21, Tryz.ntmps21
  go_wp2_with fail
  refine (wordOf_32 a _).mono ?_
  rintro e w1 ⟨v, rfl, hv, b1⟩
  obtain ⟨g, cap, rfl⟩ := word_isW_len hv
  have hv2 := hv.take (k := 32) (by rw [wordB_length]; omega)
  rw [wordB_take a 32 32 (by omega)] at hv2
  have hcap : 32 ≤ cap := by obtain ⟨g', cap', h1, h2, _⟩ := hv; rw [wordB_length] at h1 h2; simp only [Value.slice.injEq] at h1; omega
  have HV : Hid _ := hv2
  clear hv hv2
  go_wp2_with fail
  refine (value_any _ _ _ HV.out (by rw [wordB_length]; omega) (by rw [wordB_length]; omega)).mono ?_
  rintro e w2 ⟨rfl, rfl⟩
  go_wp2
  go_ret2
  exact ⟨rfl, b1⟩
theorem one_196 (a : Int) (w : World) :
    Calls Tryz.prog 21 #[.int .u8 196, .int .i64 a] w fun e w' => e = .returned (.tuple #[.int .i64 (cutS a 32), .int .i64 0]) ∧ Below w.heap.size w w' := by
  go_enter Tryz.func21, Tryz.ntmps21
  go_wp2_with fail
  refine (wordOf_64 a _).mono ?_
  rintro e w1 ⟨v, rfl, hv, b1⟩
  obtain ⟨g, cap, rfl⟩ := word_isW_len hv
  have hv2 := hv.take (k := 32) (by rw [wordB_length]; omega)
  rw [wordB_take a 64 32 (by omega)] at hv2
  have hcap : 64 ≤ cap := by obtain ⟨g', cap', h1, h2, _⟩ := hv; rw [wordB_length] at h1 h2; simp only [Value.slice.injEq] at h1; omega
  have HV : Hid _ := hv2
  clear hv hv2
  go_wp2_with fail
  refine (value_any _ _ _ HV.out (by rw [wordB_length]; omega) (by rw [wordB_length]; omega)).mono ?_
  rintro e w2 ⟨rfl, rfl⟩
  go_wp2
  go_ret2
  exact ⟨rfl, b1⟩
theorem one_173 (a : Int) (w : World) :
    Calls Tryz.prog 21 #[.int .u8 173, .int .i64 a] w fun e w' => e = .returned (.tuple #[.int .i64 (a % 4294967296), .int .i64 0]) ∧ Below w.heap.size w w' := by
  have HP : Hid (∀ v w, IsW w v (wordB a 32) → Calls Tryz.prog 41 #[v] w fun e w' => e = .returned (.int .u64 (a % 4294967296)) ∧ w' = w) := by
    intro v w h
    have := plainW_any v _ w h (by rw [wordB_length]; omega)
    rw [wval_word] at this
    exact this
  have h0 : 0 ≤ a % 4294967296 := by omega
  have h1 : a % 4294967296 < 4294967296 := by omega
  go_enter Tryz.func21, Tryz.ntmps21
  go_wp2_with fail
  refine (wordOf_32 a _).mono ?_
  rintro e w1 ⟨v, rfl, hv, b1⟩
  go_wp2_with fail
  refine (HP.out v _ hv).mono ?_
  rintro e w2 ⟨rfl, rfl⟩
  go_wp2
  go_ret2
  exact ⟨rfl, b1⟩
theorem one_105 (a : Int) (w : World) :
    Calls Tryz.prog 21 #[.int .u8 105, .int .i64 a] w fun e w' => e = .returned (.tuple #[.int .i64 (((ones (wordB a 32) : Nat) : Int)), .int .i64 0]) ∧ Below w.heap.size w w' := by
  go_enter Tryz.func21, Tryz.ntmps21
  go_wp2_with fail
  refine (wordOf_32 a _).mono ?_
  rintro e w1 ⟨v, rfl, hv, b1⟩
  obtain ⟨g, cap, h1, hcap, hmx, hg, hc⟩ := hv
  rw [wordB_length] at h1 hcap hc
  subst h1
  unfold maxLen at hmx
  go_wp2
  go_loop [8, 48] (fun t i => ∃ k : Nat, ∃ n : Nat, i = .int .i64 k ∧ t = .int .i64 n ∧ k ≤ 32 ∧ n ≤ k ∧ Hid (n = ones (wordB a k))) (fun _ i => 32 - (intOf i).toNat)
  case atStart => exact ⟨0, 0, rfl, rfl, by omega, by omega, rfl⟩
  case round =>
    obtain ⟨k, n, rfl, rfl, hk, hn, HN⟩ := hrel
    by_cases hlt : k < 32
    · have hcell := hc k hlt
      rw [wordB_get a 32 k hlt] at hcell
      have HS : Hid (ones (wordB a (k + 1)) = n + (if bitAt a k then 1 else 0)) := by unfold Hid; rw [wordB_succ, ones_append, HN.out]; simp [ones]
      clear hc HN
      cases hb : bitAt a k with
      | true =>
        rw [hb] at hcell HS
        clear hb
        go_wp2_with (go_at_call 37; refine (truth_any _ _).mono ?_; rintro e w2 ⟨rfl, rfl⟩)
        go_round
        case rel => exact ⟨k + 1, n + 1, by go_num, by go_num, by omega, by omega, by unfold Hid; rw [HS.out]; rfl⟩
        case measure => simp [intOf]; omega
      | false =>
        rw [hb] at hcell HS
        clear hb
        go_wp2_with (go_at_call 37; refine (truth_any _ _).mono ?_; rintro e w2 ⟨rfl, rfl⟩)
        go_round
        case rel => exact ⟨k + 1, n, by go_num, by go_num, by omega, by omega, by unfold Hid; rw [HS.out]; rfl⟩
        case measure => simp [intOf]; omega
    · have hkW : k = 32 := by omega
      subst hkW
      clear hc
      go_wp2
      go_ret2
      exact ⟨by rw [HN.out]; rfl, b1⟩
theorem one_123 (a : Int) (w : World) :
    Calls Tryz.prog 21 #[.int .u8 123, .int .i64 a] w fun e w' => e = .returned (.tuple #[.int .i64 (((ones (wordB a 64) : Nat) : Int)), .int .i64 0]) ∧ Below w.heap.size w w' := by
  go_enter Tryz.func21, Tryz.ntmps21
  go_wp2_with fail
  refine (wordOf_64 a _).mono ?_
  rintro e w1 ⟨v, rfl, hv, b1⟩
  obtain ⟨g, cap, h1, hcap, hmx, hg, hc⟩ := hv
  rw [wordB_length] at h1 hcap hc
  subst h1
  unfold maxLen at hmx
  go_wp2
  go_loop [8, 48] (fun t i => ∃ k : Nat, ∃ n : Nat, i = .int .i64 k ∧ t = .int .i64 n ∧ k ≤ 64 ∧ n ≤ k ∧ Hid (n = ones (wordB a k))) (fun _ i => 64 - (intOf i).toNat)
  case atStart => exact ⟨0, 0, rfl, rfl, by omega, by omega, rfl⟩
  case round =>
    obtain ⟨k, n, rfl, rfl, hk, hn, HN⟩ := hrel
    by_cases hlt : k < 64
    · have hcell := hc k hlt
      rw [wordB_get a 64 k hlt] at hcell
      have HS : Hid (ones (wordB a (k + 1)) = n + (if bitAt a k then 1 else 0)) := by unfold Hid; rw [wordB_succ, ones_append, HN.out]; simp [ones]
      clear hc HN
      cases hb : bitAt a k with
      | true =>
        rw [hb] at hcell HS
        clear hb
        go_wp2_with (go_at_call 37; refine (truth_any _ _).mono ?_; rintro e w2 ⟨rfl, rfl⟩)
        go_round
        case rel => exact ⟨k + 1, n + 1, by go_num, by go_num, by omega, by omega, by unfold Hid; rw [HS.out]; rfl⟩
        case measure => simp [intOf]; omega
      | false =>
        rw [hb] at hcell HS
        clear hb
        go_wp2_with (go_at_call 37; refine (truth_any _ _).mono ?_; rintro e w2 ⟨rfl, rfl⟩)
        go_round
        case rel => exact ⟨k + 1, n, by go_num, by go_num, by omega, by omega, by unfold Hid; rw [HS.out]; rfl⟩
        case measure => simp [intOf]; omega
    · have hkW : k = 64 := by omega
      subst hkW
      clear hc
      go_wp2
      go_ret2
      exact ⟨by rw [HN.out]; rfl, b1⟩
theorem one_other (op a : Int) (w : World) (h69 : (op == 69) = false) (h80 : (op == 80) = false) (h103 : (op == 103) = false) (h121 : (op == 121) = false) (h104 : (op == 104) = false) (h122 : (op == 122) = false) (h105 : (op == 105) = false) (h123 : (op == 123) = false) (h192 : (op == 192) = false) (h194 : (op == 194) = false) (h193 : (op == 193) = false) (h195 : (op == 195) = false) (h167 : (op == 167) = false) (h172 : (op == 172) = false) (h196 : (op == 196) = false) (h173 : (op == 173) = false) :
    Calls Tryz.prog 21 #[.int .u8 op, .int .i64 a] w fun e w' => e = .returned (.tuple #[.int .i64 0, .int .i64 6]) ∧ Below w.heap.size w w' := by
  go_enter Tryz.func21, Tryz.ntmps21
  go_wp2_with fail
  refine (wordOf_64 a _).mono ?_
  rintro e w1 ⟨v, rfl, hv, b1⟩
  clear hv
  go_wp2
  go_ret2
  exact ⟨rfl, b1⟩
theorem refOne_any (op a : Int) (w : World) :
    Calls Tryz.prog 21 #[.int .u8 op, .int .i64 a] w fun e w' => e = .returned (.tuple #[.int .i64 ((oneV op a).getD 0), .int .i64 (if (oneV op a).isSome then 0 else 6)]) ∧ Below w.heap.size w w' := by
  by_cases h69 : op = 69
  · subst h69; exact one_69 a w
  by_cases h80 : op = 80
  · subst h80; exact one_80 a w
  by_cases h103 : op = 103
  · subst h103; exact one_103 a w
  by_cases h121 : op = 121
  · subst h121; exact one_121 a w
  by_cases h104 : op = 104
  · subst h104; exact one_104 a w
  by_cases h122 : op = 122
  · subst h122; exact one_122 a w
  by_cases h105 : op = 105
  · subst h105; exact one_105 a w
  by_cases h123 : op = 123
  · subst h123; exact one_123 a w
  by_cases h192 : op = 192
  · subst h192; exact one_192 a w
  by_cases h194 : op = 194
  · subst h194; exact one_194 a w
  by_cases h193 : op = 193
  · subst h193; exact one_193 a w
  by_cases h195 : op = 195
  · subst h195; exact one_195 a w
  by_cases h167 : op = 167
  · subst h167; exact one_167 a w
  by_cases h172 : op = 172
  · subst h172; exact one_172 a w
  by_cases h196 : op = 196
  · subst h196; exact one_196 a w
  by_cases h173 : op = 173
  · subst h173; exact one_173 a w
  have e : oneV op a = none := by unfold oneV; simp only [h69, h80, h103, h121, h104, h122, h105, h123, h192, h194, h193, h195, h167, h172, h196, h173, if_false]
  rw [e]
  exact one_other op a w (by rw [beq_eq_false_iff_ne]; exact h69) (by rw [beq_eq_false_iff_ne]; exact h80) (by rw [beq_eq_false_iff_ne]; exact h103) (by rw [beq_eq_false_iff_ne]; exact h121) (by rw [beq_eq_false_iff_ne]; exact h104) (by rw [beq_eq_false_iff_ne]; exact h122) (by rw [beq_eq_false_iff_ne]; exact h105) (by rw [beq_eq_false_iff_ne]; exact h123) (by rw [beq_eq_false_iff_ne]; exact h192) (by rw [beq_eq_false_iff_ne]; exact h194) (by rw [beq_eq_false_iff_ne]; exact h193) (by rw [beq_eq_false_iff_ne]; exact h195) (by rw [beq_eq_false_iff_ne]; exact h167) (by rw [beq_eq_false_iff_ne]; exact h172) (by rw [beq_eq_false_iff_ne]; exact h196) (by rw [beq_eq_false_iff_ne]; exact h173)
end Go.Proofs.YtkceplamaocmmaaGreatDoor
namespace Go.Proofs.YtkceplamaocmmaaGreatDoor
set_option linter.unusedVariables false
open Go.RowKit
def lnat : List Bool → Nat
  | [] => 0
  | b :: r => (if b then 1 else 0) + 2 * lnat r
theorem lnat_val : ∀ l : List Bool, (lnat l : Int) = wval l
  | [] => rfl
  | b :: r => by
    have := lnat_val r
    rw [lnat, wval]
    cases b <;> simp <;> omega
theorem lnat_word (a : Int) (W : Nat) : (lnat (wordB a W) : Int) = a % 2 ^ W := by rw [lnat_val, wval_word]
theorem ones_pop : ∀ l : List Bool, ones l = popN l.length (lnat l)
  | [] => rfl
  | b :: r => by
    rw [ones, lnat, List.length_cons, popN, ones_pop r]
    cases b with
    | true => simp only [if_true]; rw [show (1 + 2 * lnat r) / 2 = lnat r by omega, show (1 + 2 * lnat r) % 2 = 1 by omega]
    | false => simp only [Bool.false_eq_true, if_false]; rw [show (0 + 2 * lnat r) / 2 = lnat r by omega, show (0 + 2 * lnat r) % 2 = 0 by omega]
theorem popN_more : ∀ (n f x : Nat), x < 2 ^ n → n ≤ f → popN f x = popN n x
  | 0, f, x, hx, _ => by
    have h0 : x = 0 := by simpa using hx
    subst h0
    clear hx
    induction f with
    | zero => rfl
    | succ f ih => have h2 := ih (Nat.zero_le _); simp only [popN] at h2 ⊢; simp [h2]
  | n + 1, f, x, hx, hf => by
    obtain ⟨f', rfl⟩ : ∃ f', f = f' + 1 := ⟨f - 1, by omega⟩
    rw [popN, popN, popN_more n f' (x / 2) (by rw [Nat.pow_succ] at hx; omega) (by omega)]
theorem all_zero : ∀ l : List Bool, l.all (! ·) = decide (lnat l = 0)
  | [] => rfl
  | b :: r => by
    rw [List.all_cons, all_zero r, lnat]
    cases b
    · by_cases h : lnat r = 0
      · simp [h]
      · simp [h]
        omega
    · simp
theorem lnat_lt : ∀ l : List Bool, lnat l < 2 ^ l.length
  | [] => by simp [lnat]
  | b :: r => by
    have := lnat_lt r
    rw [lnat, List.length_cons, Nat.pow_succ]
    cases b <;> simp <;> omega
theorem tz_zero : ∀ l : List Bool, lnat l = 0 → tz l = l.length
  | [], _ => rfl
  | true :: r, h => by simp [lnat] at h
  | false :: r, h => by
    have h2 : lnat r = 0 := by rw [lnat] at h; omega
    rw [tz, tz_zero r h2, List.length_cons]
theorem tz_ctz : ∀ (l : List Bool) (f : Nat), l.length ≤ f → lnat l ≠ 0 → tz l = Lib.ctzFrom f (lnat l) ∧ tz l < l.length
  | [], _, _, h => absurd rfl h
  | true :: r, f, hf, _ => by
    rw [List.length_cons] at hf
    obtain ⟨f', rfl⟩ : ∃ f', f = f' + 1 := ⟨f - 1, by omega⟩
    rw [lnat, Lib.ctzFrom, tz, if_pos (by simp only [if_true]; omega)]
    exact ⟨rfl, by simp⟩
  | false :: r, f, hf, h => by
    rw [List.length_cons] at hf
    obtain ⟨f', rfl⟩ : ∃ f', f = f' + 1 := ⟨f - 1, by omega⟩
    have h' : lnat r ≠ 0 := by
      intro h0
      apply h
      rw [lnat, h0]; rfl
    have := tz_ctz r f' (by omega) h'
    rw [lnat, Lib.ctzFrom, tz, if_neg (by simp only [Bool.false_eq_true, if_false]; omega)]
    simp only [Bool.false_eq_true, if_false]
    rw [show (0 + 2 * lnat r) / 2 = lnat r by omega, List.length_cons]
    omega
theorem tz_low (l : List Bool) (h : l.length ≤ 64) : (tz l : Int) = min (l.length : Int) (Lib.ctz 64 (lnat l) : Int) := by
  unfold Lib.ctz
  by_cases h0 : lnat l = 0
  · rw [if_pos h0, tz_zero l h0]; omega
  · rw [if_neg h0]
    have := tz_ctz l 64 h h0
    omega
theorem tz_snoc : ∀ (l : List Bool) (b : Bool), tz (l ++ [b]) = if tz l = l.length then (if b then l.length else l.length + 1) else tz l
  | [], true => rfl
  | [], false => rfl
  | true :: r, b => by simp [tz]
  | false :: r, b => by
    rw [List.cons_append, tz, tz_snoc r b, tz, List.length_cons]
    by_cases h : tz r = r.length
    · have h2 : tz r + 1 = r.length + 1 := by omega
      simp only [h, if_true]
      cases b <;> rfl
    · have h2 : ¬ tz r + 1 = r.length + 1 := by omega
      rw [if_neg h, if_neg h2]
theorem tz_len : ∀ (l : List Bool) (f : Nat), l.length ≤ f → Lib.bitLenAux f (lnat l) + tz l.reverse = l.length ∧ (lnat l = 0 → tz l.reverse = l.length)
  | [], f, _ => by
    cases f <;> simp [lnat, Lib.bitLenAux, tz]
  | b :: r, f, hf => by
    rw [List.length_cons] at hf
    obtain ⟨f', rfl⟩ : ∃ f', f = f' + 1 := ⟨f - 1, by omega⟩
    obtain ⟨h1, h2⟩ := tz_len r f' (by omega)
    have hle := tz_le r.reverse
    rw [List.length_reverse] at hle
    rw [List.reverse_cons, tz_snoc, List.length_reverse, List.length_cons]
    have hd : lnat (b :: r) / 2 = lnat r := by rw [lnat]; cases b <;> simp <;> omega
    have hm : lnat (b :: r) = (if b then 1 else 0) + 2 * lnat r := rfl
    have hz : tz r.reverse = r.length → lnat r = 0 := by
      intro h
      rw [h] at h1
      have h3 : Lib.bitLenAux f' (lnat r) = 0 := by omega
      cases f' with
      | zero =>
        have : r = [] := List.length_eq_zero_iff.1 (by omega)
        subst this; rfl
      | succ f'' =>
        simp only [Lib.bitLenAux] at h3
        split at h3
        · assumption
        · omega
    simp only [Lib.bitLenAux, hd]
    cases b with
    | true =>
      simp only [if_true] at hm ⊢
      rw [if_neg (by omega)]
      split <;> omega
    | false =>
      simp only [Bool.false_eq_true, if_false] at hm ⊢
      by_cases h0 : lnat r = 0
      · rw [if_pos (by omega), if_pos (h2 h0)]; omega
      · rw [if_neg (by omega)]
        have : ¬ tz r.reverse = r.length := fun h => h0 (hz h)
        rw [if_neg this]
        omega
theorem tz_high (l : List Bool) (h : l.length ≤ 64) : (tz l.reverse : Int) = (l.length : Int) - (Lib.bitLen (lnat l) : Int) := by
  have := (tz_len l 64 h).1
  unfold Lib.bitLen
  omega
end Go.Proofs.YtkceplamaocmmaaGreatDoor
