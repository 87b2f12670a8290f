/-
  What the document's own NumOne does.
-/
import Derived.Test.YtlbilmgpnpghlaaDoorWord3
namespace Go.Proofs.YtlbilmgpnpghlaaDoor
open Go.RowKit

/-- A truth as a number. -/
def b2i (b : Bool) : Int := if b then 1 else 0
/-- What an instruction of one number tells, by its number: the number, and whether there is such an instruction. -/
def oneV (op : Int) (a : Int) : Option Int :=
  if op = 69 then some (b2i ((wordB a 32).all (! ·))) else if op = 80 then some (b2i ((wordB a 64).all (! ·)))
  else if op = 103 then some (tz (wordB a 32).reverse) else if op = 121 then some (tz (wordB a 64).reverse)
  else if op = 104 then some (tz (wordB a 32)) else if op = 122 then some (tz (wordB a 64))
  else if op = 105 then some (ones (wordB a 32)) else if op = 123 then some (ones (wordB a 64))
  else if op = 192 then some (cutS a 8) else if op = 194 then some (cutS a 8)
  else if op = 193 then some (cutS a 16) else if op = 195 then some (cutS a 16)
  else if op = 167 then some (cutS a 32) else if op = 172 then some (cutS a 32) else if op = 196 then some (cutS a 32)
  else if op = 173 then some (a % 4294967296) else none

theorem truth_b (b : Bool) (w : World) : Calls Tryd.prog 18 #[.bool b] w fun e w' => e = .returned (.int .i64 (b2i b)) ∧ w' = w := truth_any b w
theorem none_at (v : Value) (bs : List Bool) (B : Bool) (w : World) (hv : IsW w v bs) (h : bs.all (! ·) = B) :
    Calls Tryd.prog 19 #[v] w fun e w' => e = .returned (.bool B) ∧ w' = w := by rw [← h]; exact none_any v bs w hv
theorem IsW.take {w : World} {g cap n k : Nat} {bs : List Bool} (h : IsW w (.slice (some ⟨g, 0, none⟩) n cap) bs) (hk : k ≤ bs.length) : IsW w (.slice (some ⟨g, 0, none⟩) k cap) (bs.take k) := by
  obtain ⟨g', cap', h1, h2, h3, h4, h5⟩ := h
  simp only [Value.slice.injEq, Option.some.injEq, Addr.mk.injEq, and_true] at h1
  obtain ⟨rfl, rfl, rfl⟩ := h1
  refine ⟨g, cap, by rw [List.length_take, Nat.min_eq_left hk], by rw [List.length_take]; omega, h3, h4, fun i hi => ?_⟩
  rw [List.length_take, Nat.min_eq_left hk] at hi
  rw [h5 i (by omega), List.getD_eq_getElem?_getD, List.getD_eq_getElem?_getD, List.getElem?_take_of_lt hi]

set_option maxHeartbeats 400000 in
set_option maxRecDepth 1000000 in
theorem one_69 (a : Int) (w : World) :
    Calls Tryd.prog 6 #[.int .u8 69, .int .i64 a] w fun e w' => e = .returned (.tuple #[.int .i64 (b2i ((wordB a 32).all (! ·))), .int .i64 0]) ∧ Below w.heap.size w w' := by
  obtain ⟨B, hB⟩ : ∃ B, (wordB a 32).all (! ·) = B := ⟨_, rfl⟩
  rw [hB]
  have HB : Hid ((wordB a 32).all (! ·) = B) := hB
  clear hB
  go_enter Tryd.func6, Tryd.ntmps6
  go_wp2_with fail
  refine (wordOf_32 a _).mono ?_
  rintro e w1 ⟨v, rfl, hv, b1⟩
  go_wp2_with fail
  refine (none_at v _ B w1 hv HB.out).mono ?_
  rintro e w2 ⟨rfl, rfl⟩
  go_wp2_with fail
  refine (truth_b B _).mono ?_
  rintro e w3 ⟨rfl, rfl⟩
  go_wp2
  go_ret2
  exact ⟨rfl, b1⟩
set_option maxHeartbeats 400000 in
set_option maxRecDepth 1000000 in
theorem one_80 (a : Int) (w : World) :
    Calls Tryd.prog 6 #[.int .u8 80, .int .i64 a] w fun e w' => e = .returned (.tuple #[.int .i64 (b2i ((wordB a 64).all (! ·))), .int .i64 0]) ∧ Below w.heap.size w w' := by
  obtain ⟨B, hB⟩ : ∃ B, (wordB a 64).all (! ·) = B := ⟨_, rfl⟩
  rw [hB]
  have HB : Hid ((wordB a 64).all (! ·) = B) := hB
  clear hB
  go_enter Tryd.func6, Tryd.ntmps6
  go_wp2_with fail
  refine (wordOf_64 a _).mono ?_
  rintro e w1 ⟨v, rfl, hv, b1⟩
  go_wp2_with fail
  refine (none_at v _ B w1 hv HB.out).mono ?_
  rintro e w2 ⟨rfl, rfl⟩
  go_wp2_with fail
  refine (truth_b B _).mono ?_
  rintro e w3 ⟨rfl, rfl⟩
  go_wp2
  go_ret2
  exact ⟨rfl, b1⟩
set_option maxHeartbeats 400000 in
set_option maxRecDepth 1000000 in
theorem one_103 (a : Int) (w : World) :
    Calls Tryd.prog 6 #[.int .u8 103, .int .i64 a] w fun e w' => e = .returned (.tuple #[.int .i64 (((tz (wordB a 32).reverse : Nat) : Int)), .int .i64 0]) ∧ Below w.heap.size w w' := by
  have HC : Hid (∀ v w, IsW w v (wordB a 32) → Calls Tryd.prog 20 #[v, .int .i64 31, .int .i64 (-1), .bool true] w fun e w' => e = .returned (.int .i64 ((tz (wordB a 32).reverse : Nat) : Int)) ∧ w' = w) := by
    intro v w h
    have := countDown_any v _ w h (by rw [wordB_length]; omega)
    rw [wordB_length] at this
    exact this
  go_enter Tryd.func6, Tryd.ntmps6
  go_wp2_with fail
  refine (wordOf_32 a _).mono ?_
  rintro e w1 ⟨v, rfl, hv, b1⟩
  go_wp2_with fail
  refine (HC.out v _ hv).mono ?_
  rintro e w2 ⟨rfl, rfl⟩
  go_wp2
  go_ret2
  exact ⟨rfl, b1⟩
set_option maxHeartbeats 400000 in
set_option maxRecDepth 1000000 in
theorem one_121 (a : Int) (w : World) :
    Calls Tryd.prog 6 #[.int .u8 121, .int .i64 a] w fun e w' => e = .returned (.tuple #[.int .i64 (((tz (wordB a 64).reverse : Nat) : Int)), .int .i64 0]) ∧ Below w.heap.size w w' := by
  have HC : Hid (∀ v w, IsW w v (wordB a 64) → Calls Tryd.prog 20 #[v, .int .i64 63, .int .i64 (-1), .bool true] w fun e w' => e = .returned (.int .i64 ((tz (wordB a 64).reverse : Nat) : Int)) ∧ w' = w) := by
    intro v w h
    have := countDown_any v _ w h (by rw [wordB_length]; omega)
    rw [wordB_length] at this
    exact this
  go_enter Tryd.func6, Tryd.ntmps6
  go_wp2_with fail
  refine (wordOf_64 a _).mono ?_
  rintro e w1 ⟨v, rfl, hv, b1⟩
  go_wp2_with fail
  refine (HC.out v _ hv).mono ?_
  rintro e w2 ⟨rfl, rfl⟩
  go_wp2
  go_ret2
  exact ⟨rfl, b1⟩
set_option maxHeartbeats 400000 in
set_option maxRecDepth 1000000 in
theorem one_104 (a : Int) (w : World) :
    Calls Tryd.prog 6 #[.int .u8 104, .int .i64 a] w fun e w' => e = .returned (.tuple #[.int .i64 (((tz (wordB a 32) : Nat) : Int)), .int .i64 0]) ∧ Below w.heap.size w w' := by
  have HC : Hid (∀ v w, IsW w v (wordB a 32) → Calls Tryd.prog 20 #[v, .int .i64 0, .int .i64 1, .bool true] w fun e w' => e = .returned (.int .i64 ((tz (wordB a 32) : Nat) : Int)) ∧ w' = w) := by
    intro v w h
    have := countUp_any v _ w h (by rw [wordB_length]; omega)
    exact this
  go_enter Tryd.func6, Tryd.ntmps6
  go_wp2_with fail
  refine (wordOf_32 a _).mono ?_
  rintro e w1 ⟨v, rfl, hv, b1⟩
  go_wp2_with fail
  refine (HC.out v _ hv).mono ?_
  rintro e w2 ⟨rfl, rfl⟩
  go_wp2
  go_ret2
  exact ⟨rfl, b1⟩
set_option maxHeartbeats 400000 in
set_option maxRecDepth 1000000 in
theorem one_122 (a : Int) (w : World) :
    Calls Tryd.prog 6 #[.int .u8 122, .int .i64 a] w fun e w' => e = .returned (.tuple #[.int .i64 (((tz (wordB a 64) : Nat) : Int)), .int .i64 0]) ∧ Below w.heap.size w w' := by
  have HC : Hid (∀ v w, IsW w v (wordB a 64) → Calls Tryd.prog 20 #[v, .int .i64 0, .int .i64 1, .bool true] w fun e w' => e = .returned (.int .i64 ((tz (wordB a 64) : Nat) : Int)) ∧ w' = w) := by
    intro v w h
    have := countUp_any v _ w h (by rw [wordB_length]; omega)
    exact this
  go_enter Tryd.func6, Tryd.ntmps6
  go_wp2_with fail
  refine (wordOf_64 a _).mono ?_
  rintro e w1 ⟨v, rfl, hv, b1⟩
  go_wp2_with fail
  refine (HC.out v _ hv).mono ?_
  rintro e w2 ⟨rfl, rfl⟩
  go_wp2
  go_ret2
  exact ⟨rfl, b1⟩
set_option maxHeartbeats 400000 in
set_option maxRecDepth 1000000 in
theorem one_192 (a : Int) (w : World) :
    Calls Tryd.prog 6 #[.int .u8 192, .int .i64 a] w fun e w' => e = .returned (.tuple #[.int .i64 (cutS a 8), .int .i64 0]) ∧ Below w.heap.size w w' := by
  go_enter Tryd.func6, Tryd.ntmps6
  go_wp2_with fail
  refine (wordOf_32 a _).mono ?_
  rintro e w1 ⟨v, rfl, hv, b1⟩
  obtain ⟨g, cap, rfl⟩ := word_isW_len hv
  have hv2 := hv.take (k := 8) (by rw [wordB_length]; omega)
  rw [wordB_take a 32 8 (by omega)] at hv2
  have hcap : 32 ≤ cap := by obtain ⟨g', cap', h1, h2, _⟩ := hv; rw [wordB_length] at h1 h2; simp only [Value.slice.injEq] at h1; omega
  have HV : Hid _ := hv2
  clear hv hv2
  go_wp2_with fail
  refine (value_any _ _ _ HV.out (by rw [wordB_length]; omega) (by rw [wordB_length]; omega)).mono ?_
  rintro e w2 ⟨rfl, rfl⟩
  go_wp2
  go_ret2
  exact ⟨rfl, b1⟩
set_option maxHeartbeats 400000 in
set_option maxRecDepth 1000000 in
theorem one_194 (a : Int) (w : World) :
    Calls Tryd.prog 6 #[.int .u8 194, .int .i64 a] w fun e w' => e = .returned (.tuple #[.int .i64 (cutS a 8), .int .i64 0]) ∧ Below w.heap.size w w' := by
  go_enter Tryd.func6, Tryd.ntmps6
  go_wp2_with fail
  refine (wordOf_64 a _).mono ?_
  rintro e w1 ⟨v, rfl, hv, b1⟩
  obtain ⟨g, cap, rfl⟩ := word_isW_len hv
  have hv2 := hv.take (k := 8) (by rw [wordB_length]; omega)
  rw [wordB_take a 64 8 (by omega)] at hv2
  have hcap : 64 ≤ cap := by obtain ⟨g', cap', h1, h2, _⟩ := hv; rw [wordB_length] at h1 h2; simp only [Value.slice.injEq] at h1; omega
  have HV : Hid _ := hv2
  clear hv hv2
  go_wp2_with fail
  refine (value_any _ _ _ HV.out (by rw [wordB_length]; omega) (by rw [wordB_length]; omega)).mono ?_
  rintro e w2 ⟨rfl, rfl⟩
  go_wp2
  go_ret2
  exact ⟨rfl, b1⟩
set_option maxHeartbeats 400000 in
set_option maxRecDepth 1000000 in
theorem one_193 (a : Int) (w : World) :
    Calls Tryd.prog 6 #[.int .u8 193, .int .i64 a] w fun e w' => e = .returned (.tuple #[.int .i64 (cutS a 16), .int .i64 0]) ∧ Below w.heap.size w w' := by
  go_enter Tryd.func6, Tryd.ntmps6
  go_wp2_with fail
  refine (wordOf_32 a _).mono ?_
  rintro e w1 ⟨v, rfl, hv, b1⟩
  obtain ⟨g, cap, rfl⟩ := word_isW_len hv
  have hv2 := hv.take (k := 16) (by rw [wordB_length]; omega)
  rw [wordB_take a 32 16 (by omega)] at hv2
  have hcap : 32 ≤ cap := by obtain ⟨g', cap', h1, h2, _⟩ := hv; rw [wordB_length] at h1 h2; simp only [Value.slice.injEq] at h1; omega
  have HV : Hid _ := hv2
  clear hv hv2
  go_wp2_with fail
  refine (value_any _ _ _ HV.out (by rw [wordB_length]; omega) (by rw [wordB_length]; omega)).mono ?_
  rintro e w2 ⟨rfl, rfl⟩
  go_wp2
  go_ret2
  exact ⟨rfl, b1⟩
set_option maxHeartbeats 400000 in
set_option maxRecDepth 1000000 in
theorem one_195 (a : Int) (w : World) :
    Calls Tryd.prog 6 #[.int .u8 195, .int .i64 a] w fun e w' => e = .returned (.tuple #[.int .i64 (cutS a 16), .int .i64 0]) ∧ Below w.heap.size w w' := by
  go_enter Tryd.func6, Tryd.ntmps6
  go_wp2_with fail
  refine (wordOf_64 a _).mono ?_
  rintro e w1 ⟨v, rfl, hv, b1⟩
  obtain ⟨g, cap, rfl⟩ := word_isW_len hv
  have hv2 := hv.take (k := 16) (by rw [wordB_length]; omega)
  rw [wordB_take a 64 16 (by omega)] at hv2
  have hcap : 64 ≤ cap := by obtain ⟨g', cap', h1, h2, _⟩ := hv; rw [wordB_length] at h1 h2; simp only [Value.slice.injEq] at h1; omega
  have HV : Hid _ := hv2
  clear hv hv2
  go_wp2_with fail
  refine (value_any _ _ _ HV.out (by rw [wordB_length]; omega) (by rw [wordB_length]; omega)).mono ?_
  rintro e w2 ⟨rfl, rfl⟩
  go_wp2
  go_ret2
  exact ⟨rfl, b1⟩
set_option maxHeartbeats 400000 in
set_option maxRecDepth 1000000 in
theorem one_167 (a : Int) (w : World) :
    Calls Tryd.prog 6 #[.int .u8 167, .int .i64 a] w fun e w' => e = .returned (.tuple #[.int .i64 (cutS a 32), .int .i64 0]) ∧ Below w.heap.size w w' := by
  go_enter Tryd.func6, Tryd.ntmps6
  go_wp2_with fail
  refine (wordOf_64 a _).mono ?_
  rintro e w1 ⟨v, rfl, hv, b1⟩
  obtain ⟨g, cap, rfl⟩ := word_isW_len hv
  have hv2 := hv.take (k := 32) (by rw [wordB_length]; omega)
  rw [wordB_take a 64 32 (by omega)] at hv2
  have hcap : 64 ≤ cap := by obtain ⟨g', cap', h1, h2, _⟩ := hv; rw [wordB_length] at h1 h2; simp only [Value.slice.injEq] at h1; omega
  have HV : Hid _ := hv2
  clear hv hv2
  go_wp2_with fail
  refine (value_any _ _ _ HV.out (by rw [wordB_length]; omega) (by rw [wordB_length]; omega)).mono ?_
  rintro e w2 ⟨rfl, rfl⟩
  go_wp2
  go_ret2
  exact ⟨rfl, b1⟩
set_option maxHeartbeats 400000 in
set_option maxRecDepth 1000000 in
theorem one_172 (a : Int) (w : World) :
    Calls Tryd.prog 6 #[.int .u8 172, .int .i64 a] w fun e w' => e = .returned (.tuple #[.int .i64 (cutS a 32), .int .i64 0]) ∧ Below w.heap.size w w' := by
  go_enter Tryd.func6, Tryd.ntmps6
  go_wp2_with fail
  refine (wordOf_32 a _).mono ?_
  rintro e w1 ⟨v, rfl, hv, b1⟩
  obtain ⟨g, cap, rfl⟩ := word_isW_len hv
  have hv2 := hv.take (k := 32) (by rw [wordB_length]; omega)
  rw [wordB_take a 32 32 (by omega)] at hv2
  have hcap : 32 ≤ cap := by obtain ⟨g', cap', h1, h2, _⟩ := hv; rw [wordB_length] at h1 h2; simp only [Value.slice.injEq] at h1; omega
  have HV : Hid _ := hv2
  clear hv hv2
  go_wp2_with fail
  refine (value_any _ _ _ HV.out (by rw [wordB_length]; omega) (by rw [wordB_length]; omega)).mono ?_
  rintro e w2 ⟨rfl, rfl⟩
  go_wp2
  go_ret2
  exact ⟨rfl, b1⟩
set_option maxHeartbeats 400000 in
set_option maxRecDepth 1000000 in
theorem one_196 (a : Int) (w : World) :
    Calls Tryd.prog 6 #[.int .u8 196, .int .i64 a] w fun e w' => e = .returned (.tuple #[.int .i64 (cutS a 32), .int .i64 0]) ∧ Below w.heap.size w w' := by
  go_enter Tryd.func6, Tryd.ntmps6
  go_wp2_with fail
  refine (wordOf_64 a _).mono ?_
  rintro e w1 ⟨v, rfl, hv, b1⟩
  obtain ⟨g, cap, rfl⟩ := word_isW_len hv
  have hv2 := hv.take (k := 32) (by rw [wordB_length]; omega)
  rw [wordB_take a 64 32 (by omega)] at hv2
  have hcap : 64 ≤ cap := by obtain ⟨g', cap', h1, h2, _⟩ := hv; rw [wordB_length] at h1 h2; simp only [Value.slice.injEq] at h1; omega
  have HV : Hid _ := hv2
  clear hv hv2
  go_wp2_with fail
  refine (value_any _ _ _ HV.out (by rw [wordB_length]; omega) (by rw [wordB_length]; omega)).mono ?_
  rintro e w2 ⟨rfl, rfl⟩
  go_wp2
  go_ret2
  exact ⟨rfl, b1⟩
set_option maxHeartbeats 400000 in
set_option maxRecDepth 1000000 in
theorem one_173 (a : Int) (w : World) :
    Calls Tryd.prog 6 #[.int .u8 173, .int .i64 a] w fun e w' => e = .returned (.tuple #[.int .i64 (a % 4294967296), .int .i64 0]) ∧ Below w.heap.size w w' := by
  have HP : Hid (∀ v w, IsW w v (wordB a 32) → Calls Tryd.prog 22 #[v] w fun e w' => e = .returned (.int .u64 (a % 4294967296)) ∧ w' = w) := by
    intro v w h
    have := plain_any v _ w h (by rw [wordB_length]; omega)
    rw [wval_word] at this
    exact this
  have h0 : 0 ≤ a % 4294967296 := by omega
  have h1 : a % 4294967296 < 4294967296 := by omega
  go_enter Tryd.func6, Tryd.ntmps6
  go_wp2_with fail
  refine (wordOf_32 a _).mono ?_
  rintro e w1 ⟨v, rfl, hv, b1⟩
  go_wp2_with fail
  refine (HP.out v _ hv).mono ?_
  rintro e w2 ⟨rfl, rfl⟩
  go_wp2
  go_ret2
  exact ⟨rfl, b1⟩
set_option maxHeartbeats 400000 in
set_option maxRecDepth 1000000 in
theorem one_105 (a : Int) (w : World) :
    Calls Tryd.prog 6 #[.int .u8 105, .int .i64 a] w fun e w' => e = .returned (.tuple #[.int .i64 (((ones (wordB a 32) : Nat) : Int)), .int .i64 0]) ∧ Below w.heap.size w w' := by
  go_enter Tryd.func6, Tryd.ntmps6
  go_wp2_with fail
  refine (wordOf_32 a _).mono ?_
  rintro e w1 ⟨v, rfl, hv, b1⟩
  obtain ⟨g, cap, h1, hcap, hmx, hg, hc⟩ := hv
  rw [wordB_length] at h1 hcap hc
  subst h1
  unfold maxLen at hmx
  go_wp2
  go_loop [8, 48] (fun t i => ∃ k : Nat, ∃ n : Nat, i = .int .i64 k ∧ t = .int .i64 n ∧ k ≤ 32 ∧ n ≤ k ∧ Hid (n = ones (wordB a k))) (fun _ i => 32 - (intOf i).toNat)
  case atStart => exact ⟨0, 0, rfl, rfl, by omega, by omega, rfl⟩
  case round =>
    obtain ⟨k, n, rfl, rfl, hk, hn, HN⟩ := hrel
    by_cases hlt : k < 32
    · have hcell := hc k hlt
      rw [wordB_get a 32 k hlt] at hcell
      have HS : Hid (ones (wordB a (k + 1)) = n + (if bitAt a k then 1 else 0)) := by unfold Hid; rw [wordB_succ, ones_append, HN.out]; simp [ones]
      clear hc HN
      cases hb : bitAt a k with
      | true =>
        rw [hb] at hcell HS
        clear hb
        go_wp2_with (go_at_call 18; refine (truth_any _ _).mono ?_; rintro e w2 ⟨rfl, rfl⟩)
        go_round
        case rel => exact ⟨k + 1, n + 1, by go_num, by go_num, by omega, by omega, by unfold Hid; rw [HS.out]; rfl⟩
        case measure => simp [intOf]; omega
      | false =>
        rw [hb] at hcell HS
        clear hb
        go_wp2_with (go_at_call 18; refine (truth_any _ _).mono ?_; rintro e w2 ⟨rfl, rfl⟩)
        go_round
        case rel => exact ⟨k + 1, n, by go_num, by go_num, by omega, by omega, by unfold Hid; rw [HS.out]; rfl⟩
        case measure => simp [intOf]; omega
    · have hkW : k = 32 := by omega
      subst hkW
      clear hc
      go_wp2
      go_ret2
      exact ⟨by rw [HN.out]; rfl, b1⟩
set_option maxHeartbeats 400000 in
set_option maxRecDepth 1000000 in
theorem one_123 (a : Int) (w : World) :
    Calls Tryd.prog 6 #[.int .u8 123, .int .i64 a] w fun e w' => e = .returned (.tuple #[.int .i64 (((ones (wordB a 64) : Nat) : Int)), .int .i64 0]) ∧ Below w.heap.size w w' := by
  go_enter Tryd.func6, Tryd.ntmps6
  go_wp2_with fail
  refine (wordOf_64 a _).mono ?_
  rintro e w1 ⟨v, rfl, hv, b1⟩
  obtain ⟨g, cap, h1, hcap, hmx, hg, hc⟩ := hv
  rw [wordB_length] at h1 hcap hc
  subst h1
  unfold maxLen at hmx
  go_wp2
  go_loop [8, 48] (fun t i => ∃ k : Nat, ∃ n : Nat, i = .int .i64 k ∧ t = .int .i64 n ∧ k ≤ 64 ∧ n ≤ k ∧ Hid (n = ones (wordB a k))) (fun _ i => 64 - (intOf i).toNat)
  case atStart => exact ⟨0, 0, rfl, rfl, by omega, by omega, rfl⟩
  case round =>
    obtain ⟨k, n, rfl, rfl, hk, hn, HN⟩ := hrel
    by_cases hlt : k < 64
    · have hcell := hc k hlt
      rw [wordB_get a 64 k hlt] at hcell
      have HS : Hid (ones (wordB a (k + 1)) = n + (if bitAt a k then 1 else 0)) := by unfold Hid; rw [wordB_succ, ones_append, HN.out]; simp [ones]
      clear hc HN
      cases hb : bitAt a k with
      | true =>
        rw [hb] at hcell HS
        clear hb
        go_wp2_with (go_at_call 18; refine (truth_any _ _).mono ?_; rintro e w2 ⟨rfl, rfl⟩)
        go_round
        case rel => exact ⟨k + 1, n + 1, by go_num, by go_num, by omega, by omega, by unfold Hid; rw [HS.out]; rfl⟩
        case measure => simp [intOf]; omega
      | false =>
        rw [hb] at hcell HS
        clear hb
        go_wp2_with (go_at_call 18; refine (truth_any _ _).mono ?_; rintro e w2 ⟨rfl, rfl⟩)
        go_round
        case rel => exact ⟨k + 1, n, by go_num, by go_num, by omega, by omega, by unfold Hid; rw [HS.out]; rfl⟩
        case measure => simp [intOf]; omega
    · have hkW : k = 64 := by omega
      subst hkW
      clear hc
      go_wp2
      go_ret2
      exact ⟨by rw [HN.out]; rfl, b1⟩
set_option maxHeartbeats 400000 in
set_option maxRecDepth 1000000 in
theorem one_other (op a : Int) (w : World) (h69 : (op == 69) = false) (h80 : (op == 80) = false) (h103 : (op == 103) = false) (h121 : (op == 121) = false) (h104 : (op == 104) = false) (h122 : (op == 122) = false) (h105 : (op == 105) = false) (h123 : (op == 123) = false) (h192 : (op == 192) = false) (h194 : (op == 194) = false) (h193 : (op == 193) = false) (h195 : (op == 195) = false) (h167 : (op == 167) = false) (h172 : (op == 172) = false) (h196 : (op == 196) = false) (h173 : (op == 173) = false) :
    Calls Tryd.prog 6 #[.int .u8 op, .int .i64 a] w fun e w' => e = .returned (.tuple #[.int .i64 0, .int .i64 6]) ∧ Below w.heap.size w w' := by
  go_enter Tryd.func6, Tryd.ntmps6
  go_wp2_with fail
  refine (wordOf_64 a _).mono ?_
  rintro e w1 ⟨v, rfl, hv, b1⟩
  clear hv
  go_wp2
  go_ret2
  exact ⟨rfl, b1⟩

/-- The document's own NumOne, for every number of an instruction. -/
theorem refOne_any (op a : Int) (w : World) :
    Calls Tryd.prog 6 #[.int .u8 op, .int .i64 a] w fun e w' => e = .returned (.tuple #[.int .i64 ((oneV op a).getD 0), .int .i64 (if (oneV op a).isSome then 0 else 6)]) ∧ Below w.heap.size w w' := by
  by_cases h69 : op = 69
  · subst h69; exact one_69 a w
  by_cases h80 : op = 80
  · subst h80; exact one_80 a w
  by_cases h103 : op = 103
  · subst h103; exact one_103 a w
  by_cases h121 : op = 121
  · subst h121; exact one_121 a w
  by_cases h104 : op = 104
  · subst h104; exact one_104 a w
  by_cases h122 : op = 122
  · subst h122; exact one_122 a w
  by_cases h105 : op = 105
  · subst h105; exact one_105 a w
  by_cases h123 : op = 123
  · subst h123; exact one_123 a w
  by_cases h192 : op = 192
  · subst h192; exact one_192 a w
  by_cases h194 : op = 194
  · subst h194; exact one_194 a w
  by_cases h193 : op = 193
  · subst h193; exact one_193 a w
  by_cases h195 : op = 195
  · subst h195; exact one_195 a w
  by_cases h167 : op = 167
  · subst h167; exact one_167 a w
  by_cases h172 : op = 172
  · subst h172; exact one_172 a w
  by_cases h196 : op = 196
  · subst h196; exact one_196 a w
  by_cases h173 : op = 173
  · subst h173; exact one_173 a w
  have e : oneV op a = none := by unfold oneV; simp only [h69, h80, h103, h121, h104, h122, h105, h123, h192, h194, h193, h195, h167, h172, h196, h173, if_false]
  rw [e]
  exact one_other op a w (by rw [beq_eq_false_iff_ne]; exact h69) (by rw [beq_eq_false_iff_ne]; exact h80) (by rw [beq_eq_false_iff_ne]; exact h103) (by rw [beq_eq_false_iff_ne]; exact h121) (by rw [beq_eq_false_iff_ne]; exact h104) (by rw [beq_eq_false_iff_ne]; exact h122) (by rw [beq_eq_false_iff_ne]; exact h105) (by rw [beq_eq_false_iff_ne]; exact h123) (by rw [beq_eq_false_iff_ne]; exact h192) (by rw [beq_eq_false_iff_ne]; exact h194) (by rw [beq_eq_false_iff_ne]; exact h193) (by rw [beq_eq_false_iff_ne]; exact h195) (by rw [beq_eq_false_iff_ne]; exact h167) (by rw [beq_eq_false_iff_ne]; exact h172) (by rw [beq_eq_false_iff_ne]; exact h196) (by rw [beq_eq_false_iff_ne]; exact h173)

end Go.Proofs.YtlbilmgpnpghlaaDoor
