/-
  LebCut, walked: a beginning of a number's bytes ends too early.
-/
import Derived.Test.YtnkeeaelomalkabWriteS
import Derived.Test.YtnkeeaelomalkabReads
import Derived.Test.YtnkeeaelomalkabStrs
import Derived.OpenShut
namespace Go.Proofs.Ytnkeeaelomalkab
open Go.RowKit

theorem ret_i {k : IntKind} {a b : Int} (h : a = b) : Ending.returned (.int k a) = .returned (.int k b) := by rw [h]
set_option maxHeartbeats 400000 in
theorem rest_at (a : Int) (m r : Nat) (hm : 1 ≤ m) (hm2 : m ≤ 10) (_ha1 : -9223372036854775808 ≤ a) (_ha2 : a ≤ 9223372036854775807) (h : Hid (a % (m : Int) = (r : Int))) (w : World) :
    Calls Try.prog 10 #[.int .i64 a, .int .i64 m] w fun e w' => e = .returned (.int .i64 r) ∧ w' = w := by
  have h' := h.out
  have h0 : ((m : Int) == 0) = false := by simp; omega
  have e1 := Int.tmod_eq_emod (a := a) (b := (m : Int))
  have e2 := Int.emod_nonneg a (show (m : Int) ≠ 0 by omega)
  have e3 := Int.emod_lt_of_pos a (show (0 : Int) < m by omega)
  by_cases hn : a.tmod (m : Int) < 0
  · have e4 : Hid (a.tmod (m : Int) + m = r) := by unfold Hid; split at e1 <;> omega
    have e5 : -10 ≤ a.tmod (m : Int) := by split at e1 <;> omega
    clear e1 h h' e2 e3
    go_enter Try.func10, Try.ntmps10
    go_wp2
    go_ret
    exact ⟨ret_i e4.out, rfl⟩
  · have e4 : Hid (a.tmod (m : Int) = r) := by unfold Hid; split at e1 <;> omega
    clear e1 h h' e2 e3
    go_enter Try.func10, Try.ntmps10
    go_wp2
    go_ret
    exact ⟨ret_i e4.out, rfl⟩

theorem u_str (n : Nat) (hn : n ≤ 18446744073709551615) (S : ByteArray) (h : Hid (strOfNums (uB n) = S)) (w : World) :
    Calls Try.prog 7 #[.int .u64 n] w fun e w' => e = .returned (.string S) ∧ Below w.heap.size w w' := by rw [← h.out]; exact u_any n hn w
theorem s_str (n : Int) (h1 : -9223372036854775808 ≤ n) (h2 : n ≤ 9223372036854775807) (S : ByteArray) (h : Hid (strOfNums (sB n) = S)) (w : World) :
    Calls Try.prog 8 #[.int .i64 n] w fun e w' => e = .returned (.string S) ∧ Below w.heap.size w w' := by rw [← h.out]; exact s_any n h1 h2 w

theorem cut_of (a : Int) (xs : List Int) (hx : ∀ b ∈ xs, 0 ≤ b ∧ b < 256) (h1 : 1 ≤ xs.length) (h10 : xs.length ≤ 10) (ht : ∀ r, r < xs.length → ∀ b ∈ xs.take r, 128 ≤ b ∧ b < 256) (S : ByteArray) (hS : strOfNums xs = S) :
    S.toList.isEmpty = false ∧ 1 ≤ S.size ∧ S.size ≤ 10 ∧ ∃ r : Nat, r < S.size ∧ a % (S.size : Int) = r ∧ rU 64 (nums (S.extract 0 r)) = (0, 0, 3) ∧ rS 64 (nums (S.extract 0 r)) = (0, 0, 3) := by
  subst hS
  have hz := strOfNums_size xs
  refine ⟨str_empty h1, by omega, by omega, (a % ((strOfNums xs).size : Int)).toNat, ?_, ?_, ?_⟩
  · have := Int.emod_lt_of_pos a (show (0 : Int) < (strOfNums xs).size by omega)
    omega
  · have := Int.emod_nonneg a (show ((strOfNums xs).size : Int) ≠ 0 by omega)
    omega
  · have hlt := Int.emod_lt_of_pos a (show (0 : Int) < (strOfNums xs).size by omega)
    have hge := Int.emod_nonneg a (show ((strOfNums xs).size : Int) ≠ 0 by omega)
    obtain ⟨r, hr⟩ : ∃ r, (a % ((strOfNums xs).size : Int)).toNat = r := ⟨_, rfl⟩
    rw [hr, nums_extract, nums_str hx, List.drop_zero, Nat.sub_zero]
    have hl : (xs.take r).length = r := by rw [List.length_take]; omega
    have hs : ∀ fit, rdl fit 64 (xs.take r) 0 0 = (0, 0, 3) := fun fit => rdl_short _ (ht r (by omega)) (by omega)
    rw [rU, rS, hs, hs]
    simp

set_option maxHeartbeats 400000 in
set_option maxRecDepth 1000000 in
theorem lebCut_walk (a0 : Int) (a1 : Int) (a2 : Int) (w0 : (Lit.int .u64 a0).wf = true) (w1 : (Lit.int .i64 a1).wf = true) (w2 : (Lit.int .i64 a2).wf = true) (w : World) :
     Calls Try.prog 4 #[.int .u64 a0, .int .i64 a1, .int .i64 a2] w fun e w' => e = .returned (.bool true) ∧ Below w.heap.size w w' := by
  have b0 := bounds_u64 w0
  have b1 := bounds_i64 w1
  have b2 := bounds_i64 w2
  obtain ⟨n, rfl⟩ : ∃ n : Nat, a0 = n := ⟨a0.toNat, by omega⟩
  have hn : n ≤ 18446744073709551615 := by omega
  obtain ⟨h11, h12⟩ := b1
  obtain ⟨h21, h22⟩ := b2
  obtain ⟨S, hS⟩ : ∃ S, strOfNums (uB n) = S := ⟨_, rfl⟩
  obtain ⟨T, hT⟩ : ∃ T, strOfNums (sB a1) = T := ⟨_, rfl⟩
  obtain ⟨S1, S2, S3, r, S4, S5, S6, _⟩ := cut_of a2 (uB n) (uB_byte n) (uB_pos n) (uB_len64 n hn) (uB_take n) S hS
  obtain ⟨T1, T2, T3, q, T4, T5, _, T6⟩ := cut_of a2 (sB a1) (sB_byte a1) (sB_pos a1) (sB_len64 a1 h11 h12) (sB_take a1) T hT
  have HS : Hid _ := hS
  have HT : Hid _ := hT
  have HS5 : Hid _ := S5
  have HS6 : Hid _ := S6
  have HT5 : Hid _ := T5
  have HT6 : Hid _ := T6
  have S7 : (S.extract 0 r).size ≤ maxLen := by rw [Lib.size_eq, Lib.extract_data]; unfold maxLen; simp; omega
  have T7 : (T.extract 0 q).size ≤ maxLen := by rw [Lib.size_eq, Lib.extract_data]; unfold maxLen; simp; omega
  have HS7 : Hid _ := S7
  have HT7 : Hid _ := T7
  clear w0 w1 w2 b0 hS hT S5 S6 T5 T6 S7 T7
  go_enter Try.func4, Try.ntmps4
  go_wp2_with fail
  refine (u_str n hn S HS _).mono ?_
  rintro e w' ⟨rfl, hb1⟩
  go_wp2_with fail
  refine (s_str a1 h11 h12 T HT _).mono ?_
  rintro e w'2 ⟨rfl, hb2⟩
  go_wp2_with fail
  refine (rest_at a2 S.size r S2 S3 h21 h22 HS5 _).mono ?_
  rintro e w'3 ⟨rfl, rfl⟩
  go_wp2_with fail
  refine (readU_at _ _ _ _ _ HS7 HS6 _).mono ?_
  rintro e w'4 ⟨rfl, rfl⟩
  go_wp2_with fail
  refine (rest_at a2 T.size q T2 T3 h21 h22 HT5 _).mono ?_
  rintro e w'5 ⟨rfl, rfl⟩
  go_wp2_with fail
  refine (readS_at _ _ _ _ _ HT7 HT6 _).mono ?_
  rintro e w'6 ⟨rfl, rfl⟩
  go_wp2
  go_ret
  exact ⟨rfl, hb1.trans (hb2.mono hb1.size)⟩

end Go.Proofs.Ytnkeeaelomalkab
