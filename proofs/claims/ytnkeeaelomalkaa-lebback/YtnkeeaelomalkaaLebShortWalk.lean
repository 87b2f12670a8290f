/-
  LebShort, walked: no text that is read as a number is shorter than the one that is written.
-/
import Derived.Test.YtnkeeaelomalkaaWriteS
import Derived.Test.YtnkeeaelomalkaaRes
namespace Go.Proofs.Ytnkeeaelomalkaa
open Go.RowKit

theorem u_str (n : Nat) (hn : n ≤ 18446744073709551615) (S : ByteArray) (h : Hid (strOfNums (uB n) = S)) (w : World) :
    Calls Try.prog 9 #[.int .u64 n] w fun e w' => e = .returned (.string S) ∧ Below w.heap.size w w' := by rw [← h.out]; exact u_any n hn w
theorem s_str (n : Int) (h1 : -9223372036854775808 ≤ n) (h2 : n ≤ 9223372036854775807) (S : ByteArray) (h : Hid (strOfNums (sB n) = S)) (w : World) :
    Calls Try.prog 11 #[.int .i64 n] w fun e w' => e = .returned (.string S) ∧ Below w.heap.size w w' := by rw [← h.out]; exact s_any n h1 h2 w
theorem u_zero (w : World) : Calls Try.prog 9 #[.int .u64 0] w fun e w' => e = .returned (.string ⟨#[0]⟩) ∧ Below w.heap.size w w' :=
  u_str 0 (by omega) ⟨#[0]⟩ (by unfold Hid; rw [uB_lo (by omega)]; rfl) w

set_option maxHeartbeats 400000 in
set_option maxRecDepth 1000000 in
theorem short32ee (a0 : ByteArray) (w0 : a0.size ≤ maxLen) (e : Int) (he : (e != 0) = true) (HU : Hid (rU 32 (nums a0) = (0, 0, e))) (e' : Int) (he' : (e' != 0) = true) (HS : Hid (rS 32 (nums a0) = (0, 0, e'))) (w : World) :
     Calls Try.prog 7 #[.string a0, .bool false] w fun e w' => e = .returned (.bool true) ∧ Below w.heap.size w w' := by
  go_enter Try.func7, Try.ntmps7
  go_wp2_with fail
  refine (u_zero _).mono ?_
  rintro e w1 ⟨rfl, b1⟩
  go_wp2_with fail
  refine (readU_at _ _ _ _ _ w0 HU _).mono ?_
  rintro e w2 ⟨rfl, rfl⟩
  go_wp2_with fail
  refine (readS_at _ _ _ _ _ w0 HS _).mono ?_
  rintro e w3 ⟨rfl, rfl⟩
  go_wp2
  go_ret
  exact ⟨rfl, b1⟩
set_option maxHeartbeats 400000 in
set_option maxRecDepth 1000000 in
theorem short32en (a0 : ByteArray) (w0 : a0.size ≤ maxLen) (e : Int) (he : (e != 0) = true) (HU : Hid (rU 32 (nums a0) = (0, 0, e))) (n : Int) (k' : Nat) (g1 : -9223372036854775808 ≤ n) (g2 : n ≤ 9223372036854775807) (g3 : (sB n).length ≤ k') (g4 : k' ≤ a0.size) (HS : Hid (rS 32 (nums a0) = (n, (k' : Int), 0))) (w : World) :
     Calls Try.prog 7 #[.string a0, .bool false] w fun e w' => e = .returned (.bool true) ∧ Below w.heap.size w w' := by
  obtain ⟨T, hT⟩ : ∃ T, strOfNums (sB n) = T := ⟨_, rfl⟩
  have hTz : (T.size : Int) ≤ k' := by rw [← hT, strOfNums_size]; omega
  have HTT : Hid _ := hT
  clear hT g3
  go_enter Try.func7, Try.ntmps7
  go_wp2_with fail
  refine (u_zero _).mono ?_
  rintro e w1 ⟨rfl, b1⟩
  go_wp2_with fail
  refine (readU_at _ _ _ _ _ w0 HU _).mono ?_
  rintro e w2 ⟨rfl, rfl⟩
  go_wp2_with fail
  refine (readS_at _ _ _ _ _ w0 HS _).mono ?_
  rintro e w3 ⟨rfl, rfl⟩
  go_wp2_with fail
  refine (s_str n g1 g2 T HTT _).mono ?_
  rintro e w5 ⟨rfl, b5⟩
  go_wp2
  go_ret
  exact ⟨rfl, (b1.trans (b5.mono b1.size))⟩
set_option maxHeartbeats 400000 in
set_option maxRecDepth 1000000 in
theorem short32ne (a0 : ByteArray) (w0 : a0.size ≤ maxLen) (m k : Nat) (h1 : m ≤ 18446744073709551615) (h2 : (uB m).length ≤ k) (h3 : k ≤ a0.size) (HU : Hid (rU 32 (nums a0) = ((m : Int), (k : Int), 0))) (e' : Int) (he' : (e' != 0) = true) (HS : Hid (rS 32 (nums a0) = (0, 0, e'))) (w : World) :
     Calls Try.prog 7 #[.string a0, .bool false] w fun e w' => e = .returned (.bool true) ∧ Below w.heap.size w w' := by
  obtain ⟨S, hS⟩ : ∃ S, strOfNums (uB m) = S := ⟨_, rfl⟩
  have hSz : (S.size : Int) ≤ k := by rw [← hS, strOfNums_size]; omega
  have HSS : Hid _ := hS
  clear hS h2
  go_enter Try.func7, Try.ntmps7
  go_wp2_with fail
  refine (u_zero _).mono ?_
  rintro e w1 ⟨rfl, b1⟩
  go_wp2_with fail
  refine (readU_at _ _ _ _ _ w0 HU _).mono ?_
  rintro e w2 ⟨rfl, rfl⟩
  go_wp2_with fail
  refine (readS_at _ _ _ _ _ w0 HS _).mono ?_
  rintro e w3 ⟨rfl, rfl⟩
  go_wp2_with fail
  refine (u_str m h1 S HSS _).mono ?_
  rintro e w4 ⟨rfl, b4⟩
  go_wp2
  go_ret
  exact ⟨rfl, (b1.trans (b4.mono b1.size))⟩
set_option maxHeartbeats 400000 in
set_option maxRecDepth 1000000 in
theorem short32nn (a0 : ByteArray) (w0 : a0.size ≤ maxLen) (m k : Nat) (h1 : m ≤ 18446744073709551615) (h2 : (uB m).length ≤ k) (h3 : k ≤ a0.size) (HU : Hid (rU 32 (nums a0) = ((m : Int), (k : Int), 0))) (n : Int) (k' : Nat) (g1 : -9223372036854775808 ≤ n) (g2 : n ≤ 9223372036854775807) (g3 : (sB n).length ≤ k') (g4 : k' ≤ a0.size) (HS : Hid (rS 32 (nums a0) = (n, (k' : Int), 0))) (w : World) :
     Calls Try.prog 7 #[.string a0, .bool false] w fun e w' => e = .returned (.bool true) ∧ Below w.heap.size w w' := by
  obtain ⟨S, hS⟩ : ∃ S, strOfNums (uB m) = S := ⟨_, rfl⟩
  have hSz : (S.size : Int) ≤ k := by rw [← hS, strOfNums_size]; omega
  have HSS : Hid _ := hS
  clear hS h2
  obtain ⟨T, hT⟩ : ∃ T, strOfNums (sB n) = T := ⟨_, rfl⟩
  have hTz : (T.size : Int) ≤ k' := by rw [← hT, strOfNums_size]; omega
  have HTT : Hid _ := hT
  clear hT g3
  go_enter Try.func7, Try.ntmps7
  go_wp2_with fail
  refine (u_zero _).mono ?_
  rintro e w1 ⟨rfl, b1⟩
  go_wp2_with fail
  refine (readU_at _ _ _ _ _ w0 HU _).mono ?_
  rintro e w2 ⟨rfl, rfl⟩
  go_wp2_with fail
  refine (readS_at _ _ _ _ _ w0 HS _).mono ?_
  rintro e w3 ⟨rfl, rfl⟩
  go_wp2_with fail
  refine (u_str m h1 S HSS _).mono ?_
  rintro e w4 ⟨rfl, b4⟩
  go_wp2_with fail
  refine (s_str n g1 g2 T HTT _).mono ?_
  rintro e w5 ⟨rfl, b5⟩
  go_wp2
  go_ret
  exact ⟨rfl, ((b1.trans (b4.mono b1.size)).trans (b5.mono (b1.trans (b4.mono b1.size)).size))⟩
set_option maxHeartbeats 400000 in
set_option maxRecDepth 1000000 in
theorem short64ee (a0 : ByteArray) (w0 : a0.size ≤ maxLen) (e : Int) (he : (e != 0) = true) (HU : Hid (rU 64 (nums a0) = (0, 0, e))) (e' : Int) (he' : (e' != 0) = true) (HS : Hid (rS 64 (nums a0) = (0, 0, e'))) (w : World) :
     Calls Try.prog 7 #[.string a0, .bool true] w fun e w' => e = .returned (.bool true) ∧ Below w.heap.size w w' := by
  go_enter Try.func7, Try.ntmps7
  go_wp2_with fail
  refine (u_zero _).mono ?_
  rintro e w1 ⟨rfl, b1⟩
  go_wp2_with fail
  refine (readU_at _ _ _ _ _ w0 HU _).mono ?_
  rintro e w2 ⟨rfl, rfl⟩
  go_wp2_with fail
  refine (readS_at _ _ _ _ _ w0 HS _).mono ?_
  rintro e w3 ⟨rfl, rfl⟩
  go_wp2
  go_ret
  exact ⟨rfl, b1⟩
set_option maxHeartbeats 400000 in
set_option maxRecDepth 1000000 in
theorem short64en (a0 : ByteArray) (w0 : a0.size ≤ maxLen) (e : Int) (he : (e != 0) = true) (HU : Hid (rU 64 (nums a0) = (0, 0, e))) (n : Int) (k' : Nat) (g1 : -9223372036854775808 ≤ n) (g2 : n ≤ 9223372036854775807) (g3 : (sB n).length ≤ k') (g4 : k' ≤ a0.size) (HS : Hid (rS 64 (nums a0) = (n, (k' : Int), 0))) (w : World) :
     Calls Try.prog 7 #[.string a0, .bool true] w fun e w' => e = .returned (.bool true) ∧ Below w.heap.size w w' := by
  obtain ⟨T, hT⟩ : ∃ T, strOfNums (sB n) = T := ⟨_, rfl⟩
  have hTz : (T.size : Int) ≤ k' := by rw [← hT, strOfNums_size]; omega
  have HTT : Hid _ := hT
  clear hT g3
  go_enter Try.func7, Try.ntmps7
  go_wp2_with fail
  refine (u_zero _).mono ?_
  rintro e w1 ⟨rfl, b1⟩
  go_wp2_with fail
  refine (readU_at _ _ _ _ _ w0 HU _).mono ?_
  rintro e w2 ⟨rfl, rfl⟩
  go_wp2_with fail
  refine (readS_at _ _ _ _ _ w0 HS _).mono ?_
  rintro e w3 ⟨rfl, rfl⟩
  go_wp2_with fail
  refine (s_str n g1 g2 T HTT _).mono ?_
  rintro e w5 ⟨rfl, b5⟩
  go_wp2
  go_ret
  exact ⟨rfl, (b1.trans (b5.mono b1.size))⟩
set_option maxHeartbeats 400000 in
set_option maxRecDepth 1000000 in
theorem short64ne (a0 : ByteArray) (w0 : a0.size ≤ maxLen) (m k : Nat) (h1 : m ≤ 18446744073709551615) (h2 : (uB m).length ≤ k) (h3 : k ≤ a0.size) (HU : Hid (rU 64 (nums a0) = ((m : Int), (k : Int), 0))) (e' : Int) (he' : (e' != 0) = true) (HS : Hid (rS 64 (nums a0) = (0, 0, e'))) (w : World) :
     Calls Try.prog 7 #[.string a0, .bool true] w fun e w' => e = .returned (.bool true) ∧ Below w.heap.size w w' := by
  obtain ⟨S, hS⟩ : ∃ S, strOfNums (uB m) = S := ⟨_, rfl⟩
  have hSz : (S.size : Int) ≤ k := by rw [← hS, strOfNums_size]; omega
  have HSS : Hid _ := hS
  clear hS h2
  go_enter Try.func7, Try.ntmps7
  go_wp2_with fail
  refine (u_zero _).mono ?_
  rintro e w1 ⟨rfl, b1⟩
  go_wp2_with fail
  refine (readU_at _ _ _ _ _ w0 HU _).mono ?_
  rintro e w2 ⟨rfl, rfl⟩
  go_wp2_with fail
  refine (readS_at _ _ _ _ _ w0 HS _).mono ?_
  rintro e w3 ⟨rfl, rfl⟩
  go_wp2_with fail
  refine (u_str m h1 S HSS _).mono ?_
  rintro e w4 ⟨rfl, b4⟩
  go_wp2
  go_ret
  exact ⟨rfl, (b1.trans (b4.mono b1.size))⟩
set_option maxHeartbeats 400000 in
set_option maxRecDepth 1000000 in
theorem short64nn (a0 : ByteArray) (w0 : a0.size ≤ maxLen) (m k : Nat) (h1 : m ≤ 18446744073709551615) (h2 : (uB m).length ≤ k) (h3 : k ≤ a0.size) (HU : Hid (rU 64 (nums a0) = ((m : Int), (k : Int), 0))) (n : Int) (k' : Nat) (g1 : -9223372036854775808 ≤ n) (g2 : n ≤ 9223372036854775807) (g3 : (sB n).length ≤ k') (g4 : k' ≤ a0.size) (HS : Hid (rS 64 (nums a0) = (n, (k' : Int), 0))) (w : World) :
     Calls Try.prog 7 #[.string a0, .bool true] w fun e w' => e = .returned (.bool true) ∧ Below w.heap.size w w' := by
  obtain ⟨S, hS⟩ : ∃ S, strOfNums (uB m) = S := ⟨_, rfl⟩
  have hSz : (S.size : Int) ≤ k := by rw [← hS, strOfNums_size]; omega
  have HSS : Hid _ := hS
  clear hS h2
  obtain ⟨T, hT⟩ : ∃ T, strOfNums (sB n) = T := ⟨_, rfl⟩
  have hTz : (T.size : Int) ≤ k' := by rw [← hT, strOfNums_size]; omega
  have HTT : Hid _ := hT
  clear hT g3
  go_enter Try.func7, Try.ntmps7
  go_wp2_with fail
  refine (u_zero _).mono ?_
  rintro e w1 ⟨rfl, b1⟩
  go_wp2_with fail
  refine (readU_at _ _ _ _ _ w0 HU _).mono ?_
  rintro e w2 ⟨rfl, rfl⟩
  go_wp2_with fail
  refine (readS_at _ _ _ _ _ w0 HS _).mono ?_
  rintro e w3 ⟨rfl, rfl⟩
  go_wp2_with fail
  refine (u_str m h1 S HSS _).mono ?_
  rintro e w4 ⟨rfl, b4⟩
  go_wp2_with fail
  refine (s_str n g1 g2 T HTT _).mono ?_
  rintro e w5 ⟨rfl, b5⟩
  go_wp2
  go_ret
  exact ⟨rfl, ((b1.trans (b4.mono b1.size)).trans (b5.mono (b1.trans (b4.mono b1.size)).size))⟩

theorem lebShort_walk (a0 : ByteArray) (a1 : Bool) (w0 : a0.size ≤ maxLen) (w : World) :
     Calls Try.prog 7 #[.string a0, .bool a1] w fun e w' => e = .returned (.bool true) ∧ Below w.heap.size w w' := by
  have hl := nums_length a0
  cases a1 with
  | false =>
    rcases resU 32 (.inl rfl) (nums a0) (nums_byte a0) with ⟨e, he, h⟩ | ⟨m, k, h1, h2, h3, h⟩
    · rcases resS 32 (.inl rfl) (nums a0) (nums_byte a0) with ⟨e', he', h'⟩ | ⟨m', k', g1, g2, g3, g4, h'⟩
      · exact short32ee a0 w0 e he h e' he' h' w
      · exact short32en a0 w0 e he h m' k' g1 g2 g3 (by omega) h' w
    · rcases resS 32 (.inl rfl) (nums a0) (nums_byte a0) with ⟨e', he', h'⟩ | ⟨m', k', g1, g2, g3, g4, h'⟩
      · exact short32ne a0 w0 m k h1 h2 (by omega) h e' he' h' w
      · exact short32nn a0 w0 m k h1 h2 (by omega) h m' k' g1 g2 g3 (by omega) h' w
  | true =>
    rcases resU 64 (.inr rfl) (nums a0) (nums_byte a0) with ⟨e, he, h⟩ | ⟨m, k, h1, h2, h3, h⟩
    · rcases resS 64 (.inr rfl) (nums a0) (nums_byte a0) with ⟨e', he', h'⟩ | ⟨m', k', g1, g2, g3, g4, h'⟩
      · exact short64ee a0 w0 e he h e' he' h' w
      · exact short64en a0 w0 e he h m' k' g1 g2 g3 (by omega) h' w
    · rcases resS 64 (.inr rfl) (nums a0) (nums_byte a0) with ⟨e', he', h'⟩ | ⟨m', k', g1, g2, g3, g4, h'⟩
      · exact short64ne a0 w0 m k h1 h2 (by omega) h e' he' h' w
      · exact short64nn a0 w0 m k h1 h2 (by omega) h m' k' g1 g2 g3 (by omega) h' w
end Go.Proofs.Ytnkeeaelomalkaa
