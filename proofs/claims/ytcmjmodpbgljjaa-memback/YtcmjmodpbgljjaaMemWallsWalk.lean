/-
  MemWalls, walked: what is put changes those bytes alone; what does not fit changes nothing.
-/
import Derived.Test.YtcmjmodpbgljjaaMM4
import Derived.BigQuiet
import Derived.Deep.QuietTactic
namespace Go.Proofs.Ytcmjmodpbgljjaa
open Go.RowKit

theorem nums_extract (s : ByteArray) (i j : Nat) : nums (s.extract i j) = ((nums s).drop i).take (j - i) := by
  simp [nums, ByteArray.data_extract, Array.toList_extract, List.extract_eq_take_drop, List.map_drop, List.map_take]
theorem nums_inj {s t : ByteArray} (h : nums s = nums t) : s = t := by rw [← str_nums s, h, str_nums]
theorem str_size {l : List Int} : (strOfNums l).size = l.length := strOfNums_size l
set_option maxHeartbeats 1000000 in
set_option maxRecDepth 1000000 in
theorem walls_none (B s : ByteArray) (at' : Int) (hB : B.size ≤ 140737488355328) (h : ¬ ofOk B 8) (w : World) :
    Calls Try.prog 9 #[.string B, .int .i64 at', .string s] w fun r w' => r = .returned (.bool true) ∧ Below w.heap.size w w' := by
  have HO := mof_no B 8 hB h w
  clear h
  go_enter Try.func9, Try.ntmps9
  go_wp2_with (go_at_call 15; refine HO.mono ?_; rintro r w1 ⟨rfl, rfl⟩)
  go_ret
  exact ⟨rfl, Below.refl _ _⟩
set_option maxHeartbeats 1000000 in
set_option maxRecDepth 1000000 in
theorem walls_no (B s : ByteArray) (at' : Int) (ha : at' ≤ 9223372036854775807) (h : ofOk B 8) (hn : hasB B.size at' s.size = false) (w : World) :
    Calls Try.prog 9 #[.string B, .int .i64 at', .string s] w fun r w' => r = .returned (.bool true) ∧ Below w.heap.size w w' := by
  have HO := mof_yes B 8 h w
  rw [← nums_length] at hn
  have HP : Hid (∀ w1, type_of% (mput_no (w.heap.size + 1) w.heap.size (B.size / 256) 8 (nums B) at' ha s hn w1)) := fun w1 => mput_no (w.heap.size + 1) w.heap.size (B.size / 256) 8 (nums B) at' ha s hn w1
  have HY : Hid (∀ w1, type_of% (mbytes_no (w.heap.size + 1) w.heap.size (B.size / 256) 8 (nums B) at' s.size ha hn w1)) := fun w1 => mbytes_no (w.heap.size + 1) w.heap.size (B.size / 256) 8 (nums B) at' s.size ha hn w1
  have HA : Hid (∀ w1, type_of% (mall_any (w.heap.size + 1) w.heap.size (B.size / 256) 8 (nums B) w1)) := fun w1 => mall_any (w.heap.size + 1) w.heap.size (B.size / 256) 8 (nums B) w1
  rw [str_nums] at HA
  clear h hn
  go_enter Try.func9, Try.ntmps9
  go_wp2_with fail
  refine HO.mono ?_
  rintro r w1 ⟨rfl, hm, hb1⟩
  have HM : Hid (type_of% hm) := hm
  have HB1 : Hid (type_of% hb1) := hb1
  clear hm hb1
  go_wp2_with fail
  refine (HP.out w1 HM.out).mono ?_
  rintro r w2 ⟨rfl, rfl⟩
  go_wp2_with fail
  refine (HY.out _ HM.out).mono ?_
  rintro r w2 ⟨rfl, rfl⟩
  go_wp2_with fail
  refine (HA.out _ HM.out).mono ?_
  rintro r w2 ⟨rfl, hb2⟩
  have HB2 : Hid (type_of% hb2) := hb2
  clear hb2
  go_wp2
  go_ret
  exact ⟨rfl, HB1.out.trans (HB2.out.mono (by have := HB1.out.size; omega))⟩
set_option maxHeartbeats 2000000 in
set_option maxRecDepth 1000000 in
theorem walls_yes (B s : ByteArray) (a : Nat) (h : ofOk B 8) (hn : a + s.size ≤ B.size) (w : World) :
    Calls Try.prog 9 #[.string B, .int .i64 (a : Int), .string s] w fun r w' => r = .returned (.bool true) ∧ Below w.heap.size w w' := by
  have HO := mof_yes B 8 h w
  have hB : B.size ≤ 2048 := by unfold ofOk at h; omega
  have hl := nums_length B
  have hls := nums_length s
  obtain ⟨D, hD⟩ : ∃ D, D = splice (nums B) a (nums s) := ⟨_, rfl⟩
  have hDl : D.length = B.size := by rw [hD, length_splice _ _ _ (by omega), hl]
  have hDb : Bts D := by rw [hD]; exact splice_bts (nums_byte _) (nums_byte _)
  have eS : strOfNums ((D.drop a).take s.size) = s := by
    rw [← str_nums s]
    congr 1
    rw [hD, str_nums]
    unfold splice
    rw [List.drop_append, List.drop_of_length_le (by rw [List.length_take]; omega), List.nil_append, List.length_take, show a - min a (nums B).length = 0 by omega, List.drop_zero, List.take_append_of_le_length (by omega), List.take_of_length_le (by omega)]
  obtain ⟨A, hA⟩ : ∃ A, A = strOfNums D := ⟨_, rfl⟩
  have hAn : nums A = D := by rw [hA, nums_str hDb]
  have hAs : A.size = B.size := by rw [hA, str_size, hDl]
  have e1 : A.extract 0 a = B.extract 0 a := by
    apply nums_inj
    rw [nums_extract, nums_extract, hAn, hD]
    unfold splice
    rw [List.drop_zero, List.drop_zero, Nat.sub_zero, List.take_append_of_le_length (by rw [List.length_take]; omega), List.take_take, Nat.min_self]
  have e2 : A.extract (a + s.size) B.size = B.extract (a + s.size) B.size := by
    apply nums_inj
    rw [nums_extract, nums_extract, hAn, hD]
    unfold splice
    rw [← List.append_assoc, List.drop_append, List.drop_of_length_le (by rw [List.length_append, List.length_take]; omega), List.nil_append, List.length_append, List.length_take, show a + s.size - (min a (nums B).length + (nums s).length) = 0 by omega, List.drop_zero, hls]
  have HP : Hid (∀ w1, type_of% (mput_yes (w.heap.size + 1) w.heap.size (B.size / 256) 8 (nums B) a s (by omega) w1)) := fun w1 => mput_yes (w.heap.size + 1) w.heap.size (B.size / 256) 8 (nums B) a s (by omega) w1
  rw [← hD] at HP
  have HY : Hid (∀ w1, type_of% (mbytes_yes (w.heap.size + 1) w.heap.size (B.size / 256) 8 D a s.size (by omega) w1)) := fun w1 => mbytes_yes (w.heap.size + 1) w.heap.size (B.size / 256) 8 D a s.size (by omega) w1
  rw [eS] at HY
  have HA : Hid (∀ w1, type_of% (mall_any (w.heap.size + 1) w.heap.size (B.size / 256) 8 D w1)) := fun w1 => mall_any (w.heap.size + 1) w.heap.size (B.size / 256) 8 D w1
  rw [← hA] at HA
  have hw1 : wrap64 ((B.size : Int) - (s.size : Int)) = (B.size : Int) - (s.size : Int) := by
    unfold wrap64
    rw [Int.emod_eq_of_lt (by omega) (by omega)]
    omega
  have hw2 : wrap64 ((a : Int) + (s.size : Int)) = ((a + s.size : Nat) : Int) := by
    have := wrap64_few (a + s.size) (by omega)
    rw [← this]
    rfl
  have hg1 : ¬ ((B.size : Int) - (s.size : Int) < (a : Int)) := by omega
  have hg2 : (a : Int) ≤ (B.size : Int) := by omega
  have hg3 : ((a + s.size : Nat) : Int) ≤ (B.size : Int) := by omega
  have hg4 : (0 : Int) ≤ ((a + s.size : Nat) : Int) := by omega
  have hg5 : (0 : Int) ≤ (a : Int) := by omega
  clear h hn hl hls hD hDl hDb eS hA hAn hB
  go_enter Try.func9, Try.ntmps9
  go_wp2_with fail
  refine HO.mono ?_
  rintro r w1 ⟨rfl, hm, hb1⟩
  have HM : Hid (type_of% hm) := hm
  have HB1 : Hid (type_of% hb1) := hb1
  clear hm hb1
  go_wp2_with fail
  refine (HP.out w1 HM.out).mono ?_
  rintro r w2 ⟨rfl, hm2, hc2⟩
  have HM2 : Hid (type_of% hm2) := hm2
  have HB2 : Hid (Below w.heap.size w w2) := HB1.out.trans (hc2.below (Nat.le_refl _) (by have := HB1.out.size; omega))
  clear hm2 hc2 HM HB1 HP
  go_wp2_with fail
  refine (HY.out _ HM2.out).mono ?_
  rintro r w3 ⟨rfl, hb3⟩
  have HM3 : Hid (MB w3 _ _ _ _ _) := HM2.out.under hb3
  have HB3 : Hid (Below w.heap.size w w3) := HB2.out.trans (hb3.mono (by have := HB2.out.size; omega))
  clear hb3 HM2 HB2 HY
  go_wp2_with fail
  refine (HA.out _ HM3.out).mono ?_
  rintro r w4 ⟨rfl, hb4⟩
  have HB4 : Hid (Below w.heap.size w w4) := HB3.out.trans (hb4.mono (by have := HB3.out.size; omega))
  clear hb4 HM3 HB3 HA
  go_wp2
  go_quiet (fail)
  go_wp2
  go_ret
  exact ⟨rfl, below_drewN HB4.out _⟩
theorem memWalls_walk (B : ByteArray) (at' : Int) (s : ByteArray) (hB : B.size ≤ 140737488355328) (h1 : -9223372036854775808 ≤ at' ∧ at' ≤ 9223372036854775807) (_hs : s.size ≤ 140737488355328) (w : World) :
    Calls Try.prog 9 #[.string B, .int .i64 at', .string s] w fun r w' => r = .returned (.bool true) ∧ Below w.heap.size w w' := by
  by_cases h : ofOk B 8
  · cases hh : hasB B.size at' s.size with
    | false => exact walls_no B s at' h1.2 h hh w
    | true =>
      unfold hasB at hh
      have := of_decide_eq_true hh
      obtain ⟨a, rfl⟩ : ∃ a : Nat, at' = (a : Int) := ⟨at'.toNat, by omega⟩
      exact walls_yes B s a h (by omega) w
  · exact walls_none B s at' hB h w
end Go.Proofs.Ytcmjmodpbgljjaa
