/-
  MemGrows, walked: what there was stays, what is new is 0, and no more than was said.
-/
import Derived.Test.YtcmjmodpbgljjaaMemWallsWalk
import Derived.Test.YtcmjmodpbgljjaaMM5
namespace Go.Proofs.Ytcmjmodpbgljjaa
open Go.RowKit

set_option maxHeartbeats 1000000 in
set_option maxRecDepth 1000000 in
theorem grows_none (B : ByteArray) (most x : Int) (hB : B.size ≤ 140737488355328) (h : ¬ ofOk B most) (w : World) :
    Calls Try.prog 8 #[.string B, .int .i64 most, .int .i64 x] w fun r w' => r = .returned (.bool true) ∧ Below w.heap.size w w' := by
  have HO := mof_no B most hB h w
  clear h
  go_enter Try.func8, Try.ntmps8
  go_wp2_with (go_at_call 15; refine HO.mono ?_; rintro r w1 ⟨rfl, rfl⟩)
  go_ret
  exact ⟨rfl, Below.refl _ _⟩
set_option maxHeartbeats 1000000 in
set_option maxRecDepth 1000000 in
theorem grows_no (B : ByteArray) (most x : Int) (u : Nat) (h : ofOk B most) (hx : x % 4294967296 = (u : Int)) (hu : most - (B.size / 256 : Nat) < (u : Int)) (w : World) :
    Calls Try.prog 8 #[.string B, .int .i64 most, .int .i64 x] w fun r w' => r = .returned (.bool true) ∧ Below w.heap.size w w' := by
  have HO := mof_yes B most h w
  have hm : ((B.size / 256 : Nat) : Int) ≤ most ∧ most ≤ 8 := ⟨h.2.1, h.2.2⟩
  obtain ⟨n, hn⟩ : ∃ n, n = B.size / 256 := ⟨_, rfl⟩
  rw [← hn] at HO hm hu
  have HS : Hid (∀ w1, type_of% (msize_any (w.heap.size + 1) w.heap.size n most (nums B) w1)) := fun w1 => msize_any (w.heap.size + 1) w.heap.size n most (nums B) w1
  have HP : Hid (∀ w1, type_of% (mgrow_no (w.heap.size + 1) w.heap.size n u most x (nums B) hx hm hu w1)) := fun w1 => mgrow_no (w.heap.size + 1) w.heap.size n u most x (nums B) hx hm hu w1
  have HA : Hid (∀ w1, type_of% (mall_any (w.heap.size + 1) w.heap.size n most (nums B) w1)) := fun w1 => mall_any (w.heap.size + 1) w.heap.size n most (nums B) w1
  rw [str_nums] at HA
  have hw : wrap64 (most - (n : Int)) = most - n := by
    unfold wrap64
    rw [Int.emod_eq_of_lt (by omega) (by omega)]
    omega
  have hw2 : wrap64 (u : Int) = u := by
    unfold wrap64
    rw [Int.emod_eq_of_lt (by omega) (by omega)]
    omega
  clear h hn hm
  go_enter Try.func8, Try.ntmps8
  go_wp2_with fail
  refine HO.mono ?_
  rintro r w1 ⟨rfl, hm, hb1⟩
  have HM : Hid (type_of% hm) := hm
  have HB1 : Hid (type_of% hb1) := hb1
  clear hm hb1
  go_wp2_with fail
  refine (HS.out w1 HM.out).mono ?_
  rintro r w2 ⟨rfl, rfl⟩
  go_wp2_with fail
  refine (HP.out _ HM.out).mono ?_
  rintro r w2 ⟨rfl, rfl⟩
  go_wp2_with fail
  refine (HA.out _ HM.out).mono ?_
  rintro r w2 ⟨rfl, hb2⟩
  have HB2 : Hid (type_of% hb2) := hb2
  clear hb2
  go_wp2
  go_ret
  exact ⟨rfl, HB1.out.trans (HB2.out.mono (by have := HB1.out.size; omega))⟩
set_option maxHeartbeats 2000000 in
set_option maxRecDepth 1000000 in
theorem grows_yes (B : ByteArray) (most x : Int) (u : Nat) (h : ofOk B most) (hx : x % 4294967296 = (u : Int)) (hu : (u : Int) ≤ most - (B.size / 256 : Nat)) (w : World) :
    Calls Try.prog 8 #[.string B, .int .i64 most, .int .i64 x] w fun r w' => r = .returned (.bool true) ∧ Below w.heap.size w w' := by
  have HO := mof_yes B most h w
  have hm : ((B.size / 256 : Nat) : Int) ≤ most ∧ most ≤ 8 := ⟨h.2.1, h.2.2⟩
  obtain ⟨n, hn⟩ : ∃ n, n = B.size / 256 := ⟨_, rfl⟩
  have hBn : B.size = 256 * n := by have := h.1; omega
  rw [← hn] at HO hm hu
  obtain ⟨D, hD⟩ : ∃ D, D = nums B ++ List.replicate (256 * u) 0 := ⟨_, rfl⟩
  have hDb : Bts D := by
    rw [hD]
    intro y hy
    rcases List.mem_append.1 hy with hy | hy
    · exact nums_byte B y hy
    · exact rep_bts _ y hy
  obtain ⟨A, hA⟩ : ∃ A, A = strOfNums D := ⟨_, rfl⟩
  have hAn : nums A = D := by rw [hA, nums_str hDb]
  have hAs : A.size = 256 * (n + u) := by rw [hA, str_size, hD, List.length_append, nums_length, List.length_replicate]; omega
  have hBA : B.size ≤ A.size := by omega
  have e1 : A.extract 0 B.size = B := by
    apply nums_inj
    rw [nums_extract, hAn, hD, List.drop_zero, Nat.sub_zero, List.take_append_of_le_length (by rw [nums_length]; omega), List.take_of_length_le (by rw [nums_length]; omega)]
  obtain ⟨F, hF⟩ : ∃ F, F = A.extract B.size A.size := ⟨_, rfl⟩
  have hFn : nums F = List.replicate (256 * u) 0 := by
    rw [hF, nums_extract, hAn, hD, List.drop_append, List.drop_of_length_le (by rw [nums_length]; omega), List.nil_append, nums_length, Nat.sub_self, List.drop_zero, List.take_of_length_le (by rw [List.length_replicate]; omega)]
  have hFs : F.size ≤ 2048 := by rw [← nums_length, hFn, List.length_replicate]; omega
  have hF0 : ∀ (k : Nat) (hk : k < F.size), F[k] = 0 := by
    intro k hk
    have h1 : (nums F)[k]? = some 0 := by rw [hFn, List.getElem?_replicate, if_pos (by rw [← nums_length, hFn, List.length_replicate] at hk; exact hk)]
    unfold nums at h1
    rw [List.getElem?_map] at h1
    obtain ⟨y, hy, hy0⟩ := Option.map_eq_some_iff.1 h1
    have h2 : F.data.toList[k]? = some F[k] := by
      rw [List.getElem?_eq_getElem (by simpa using hk)]
      rfl
    rw [h2] at hy
    obtain rfl := Option.some.inj hy
    have : F[k].toNat = 0 := by omega
    exact UInt8.toNat_inj.1 this
  obtain ⟨m, hmd⟩ : ∃ m, m = n + u := ⟨_, rfl⟩
  have HS : Hid (∀ w1 g n b, type_of% (msize_any (w.heap.size + 1) g n most b w1)) := fun w1 g n b => msize_any (w.heap.size + 1) g n most b w1
  have HP : Hid (∀ w1, type_of% (mgrow_yes (w.heap.size + 1) w.heap.size n u most x (nums B) hx hm hu w1)) := fun w1 => mgrow_yes (w.heap.size + 1) w.heap.size n u most x (nums B) hx hm hu w1
  rw [← hD, ← hmd] at HP
  have HA : Hid (∀ w1 g, type_of% (mall_any (w.heap.size + 1) g (n + u) most D w1)) := fun w1 g => mall_any (w.heap.size + 1) g (n + u) most D w1
  rw [← hA, ← hmd] at HA
  have hne : ((n : Int) == -1) = false := by
    rw [beq_eq_false_iff_ne]
    omega
  have hle : (m : Int) ≤ most := by omega
  have hlt : ¬ ((A.size : Int) < (B.size : Int)) := by omega
  have hmn : min (B.size : Int) (A.size : Int) = (B.size : Int) := by omega
  have hba : (B.size : Int) ≤ (A.size : Int) := by omega
  have hb0 : (0 : Int) ≤ (B.size : Int) := by omega
  have e5 : 256 * (m : Int) = (A.size : Int) := by omega
  have e6 : A.size ≤ 1000000000 := by omega
  have e7 : u ≤ 1000000000 := by omega
  have e8 : m ≤ 1000000000 := by omega
  have hw2 : wrap64 (u : Int) = u := wrap64_few u e7
  have hw3 : wrap64 ((n : Int) + (u : Int)) = (m : Int) := by
    have := wrap64_few m e8
    rw [← this, hmd]
    rfl
  have hw4 : wrap64 (256 * (m : Int)) = (A.size : Int) := by
    rw [e5]
    exact wrap64_few A.size e6
  have HF0 : Hid (type_of% hF0) := hF0
  have hFe := hF.symm
  have HW2 : Hid (type_of% hw2) := hw2
  have HW3 : Hid (type_of% hw3) := hw3
  have HW4 : Hid (type_of% hw4) := hw4
  clear hw2 hw3 hw4
  clear h hn hBn hD hDb hA hAn hF hFn hF0 hAs hBA hm hu hmd e5 e6 e7 e8
  go_enter Try.func8, Try.ntmps8
  go_wp2_with fail
  refine HO.mono ?_
  rintro r w1 ⟨rfl, hm, hb1⟩
  have HM : Hid (type_of% hm) := hm
  have HB1 : Hid (type_of% hb1) := hb1
  clear hm hb1
  go_wp2_with fail
  refine (HS.out w1 _ _ _ HM.out).mono ?_
  rintro r w2 ⟨rfl, rfl⟩
  go_wp2_with fail
  refine (HP.out _ HM.out).mono ?_
  rintro r w2 ⟨g', rfl, hm2, hc2, hg2⟩
  have HM2 : Hid (type_of% hm2) := hm2
  have HB2 : Hid (Below w.heap.size w w2) := HB1.out.trans (hc2.below (by omega) (Nat.le_refl _) (by have := HB1.out.size; omega))
  clear hm2 hc2 hg2 HM HB1 HP
  go_wp2_with fail
  refine (HA.out _ _ HM2.out).mono ?_
  rintro r w3 ⟨rfl, hb3⟩
  have HM3 : Hid (MB w3 _ _ _ _ _) := HM2.out.under hb3
  have HB3 : Hid (Below w.heap.size w w3) := HB2.out.trans (hb3.mono (by have := HB2.out.size; omega))
  clear hb3 HM2 HB2 HA
  go_wp2_with fail
  go_loopw [67] (fun iv wr => ∃ k : Nat, iv = .int .i64 (k : Int) ∧ k ≤ F.size ∧ Hid (wr = w3)) (fun iv _ => F.size - (intOf iv).toNat)
  case atStart => exact ⟨0, rfl, by omega, rfl⟩
  case round =>
    obtain ⟨k, rfl, hk, HW⟩ := hrel
    by_cases hkl : k < F.size
    · have hi := HF0.out k hkl
      have hk1 : (k : Int) < (F.size : Int) := by omega
      have hwk : ∀ z : Int, z = (k : Int) + 1 → wrap64 z = ((k + 1 : Nat) : Int) := fun z hz => by rw [hz]; exact wrap64_few (k + 1) (by omega)
      have HK1 : Hid (k + 1 ≤ F.size) := hkl
      have HK2 : Hid (F.size - (k + 1) < F.size - k) := by unfold Hid; omega
      go_wp2
      go_roundw
      case rel => exact ⟨k + 1, rfl, HK1.out, HW⟩
      case measure => exact HK2.out
    · obtain rfl := HW.out
      have hk1 : ¬ ((k : Int) < (F.size : Int)) := by omega
      have hw2 : ∀ z : Int, z = (u : Int) → wrap64 z = (u : Int) := fun z hz => by rw [hz]; exact HW2.out
      have hw3 : ∀ z : Int, z = (n : Int) + (u : Int) → wrap64 z = (m : Int) := fun z hz => by rw [hz]; exact HW3.out
      have hw4 : ∀ z : Int, z = 256 * (m : Int) → wrap64 z = (A.size : Int) := fun z hz => by rw [hz]; exact HW4.out
      clear hkl
      go_wp2_with (go_at_call 13; refine (HS.out _ _ _ _ HM3.out).mono ?_; rintro r w5 ⟨rfl, rfl⟩)
      go_ret
      exact ⟨rfl, HB3.out⟩
theorem memGrows_walk (B : ByteArray) (most x : Int) (hB : B.size ≤ 140737488355328) (_h1 : -9223372036854775808 ≤ most ∧ most ≤ 9223372036854775807) (_h2 : -9223372036854775808 ≤ x ∧ x ≤ 9223372036854775807) (w : World) :
    Calls Try.prog 8 #[.string B, .int .i64 most, .int .i64 x] w fun r w' => r = .returned (.bool true) ∧ Below w.heap.size w w' := by
  by_cases h : ofOk B most
  · obtain ⟨u, hu, _⟩ := u32_of x
    by_cases hh : most - (B.size / 256 : Nat) < (u : Int)
    · exact grows_no B most x u h hu hh w
    · exact grows_yes B most x u h hu (by omega) w
  · exact grows_none B most x hB h w
end Go.Proofs.Ytcmjmodpbgljjaa
