/-
  leb.Name and leb.ReadName answer what the document's own LebName and LebReadName answer.
-/
import Derived.Test.YtnkeeaelomalkaaDoorText
import Derived.Test.YtnkeeaelomalkaaDoorChrD
import Derived.Test.YtnkeeaelomalkaaDoorRefReadsD
import Derived.Test.YtnkeeaelomalkaaDoorShelf
namespace Go.Proofs.YtnkeeaelomalkaaDoor
open Go.RowKit

set_option maxHeartbeats 400000 in
set_option maxRecDepth 100000 in
theorem refName_large (s : ByteArray) (w : World) (h : (16 : Int) < (s.size : Int)) :
    Calls Tryd.prog 5 #[.string s] w fun e w' => e = .returned (.tuple #[.string ⟨#[]⟩, .int .i64 2]) ∧ Below w.heap.size w w' := by
  go_enter Tryd.func5, Tryd.ntmps5
  go_wp2
  go_ret2
  exact ⟨rfl, Below.refl _ _⟩
set_option maxHeartbeats 400000 in
set_option maxRecDepth 100000 in
theorem refName_bad (s : ByteArray) (w : World) (h : s.size ≤ 16) (hv : Hid (Lib.validD s.data.toList = false)) :
    Calls Tryd.prog 5 #[.string s] w fun e w' => e = .returned (.tuple #[.string ⟨#[]⟩, .int .i64 4]) ∧ Below w.heap.size w w' := by
  have IT : Hid (∀ w, Calls Tryd.prog 10 #[.string s] w fun e w' => e = .returned (.bool false) ∧ Below w.heap.size w w') := fun w => isText_at s false w (by unfold maxLen; omega) hv
  go_enter Tryd.func5, Tryd.ntmps5
  go_wp2_with (go_at_call 10; refine (IT.out _).mono ?_; rintro e w1 ⟨rfl, b1⟩)
  go_ret2
  exact ⟨rfl, b1⟩
set_option maxHeartbeats 400000 in
set_option maxRecDepth 100000 in
theorem refName_ok (s S : ByteArray) (w : World) (h : s.size ≤ 16) (hv : Hid (Lib.validD s.data.toList = true)) (hS : Hid (strOfNums [(s.size : Int)] = S)) :
    Calls Tryd.prog 5 #[.string s] w fun e w' => e = .returned (.tuple #[.string (S ++ s), .int .i64 0]) ∧ Below w.heap.size w w' := by
  have IT : Hid (∀ w, Calls Tryd.prog 10 #[.string s] w fun e w' => e = .returned (.bool true) ∧ Below w.heap.size w w') := fun w => isText_at s true w (by unfold maxLen; omega) hv
  have CH : Hid (∀ w, Calls Tryd.prog 11 #[.int .i64 (s.size : Int)] w fun e w' => e = .returned (.string S) ∧ Below w.heap.size w w') := by
    intro w
    have := chr_any (s.size : Int) (by omega) (by omega) w
    rw [hS.out] at this
    exact this
  have hz : S.size = 1 := by rw [← hS.out, strOfNums_size]; rfl
  go_enter Tryd.func5, Tryd.ntmps5
  go_wp2_with (first | (go_at_call 10; refine (IT.out _).mono ?_; rintro e w1 ⟨rfl, b1⟩) | (go_at_call 11; refine (CH.out _).mono ?_; rintro e w2 ⟨rfl, b2⟩))
  go_ret2
  exact ⟨rfl, b1.trans (b2.mono b1.size)⟩

/-- What Name and LebName answer is one. -/
theorem name_both (s : ByteArray) : ∃ X : ByteArray, ∃ e : Int,
    (∀ w, Lib.Utf8Tabs 0 1 w → Calls Tryd.prog 4 #[.string s] w fun e' w' => e' = .returned (.tuple #[.string X, .int .i64 e]) ∧ Below w.heap.size w w') ∧
    (∀ w, Calls Tryd.prog 5 #[.string s] w fun e' w' => e' = .returned (.tuple #[.string X, .int .i64 e]) ∧ Below w.heap.size w w') := by
  by_cases h : 16 < s.size
  · exact ⟨⟨#[]⟩, 2, fun w _ => name_large s w (by omega), fun w => refName_large s w (by omega)⟩
  · cases hv : Lib.validD s.data.toList with
    | false => exact ⟨⟨#[]⟩, 4, fun w hT => name_bad valid_c s w (by omega) hv hT, fun w => refName_bad s w (by omega) hv⟩
    | true => exact ⟨_, 0, fun w hT => name_ok valid_c s _ w (by omega) hv hT rfl, fun w => refName_ok s _ w (by omega) hv rfl⟩

set_option maxHeartbeats 400000 in
set_option maxRecDepth 100000 in
theorem refReadName_err (s : ByteArray) (e : Int) (w : World) (he : (e != 0) = true) (H : Hid (∀ w, Calls Tryd.prog 14 #[.string s, .int .i64 32] w fun e' w' => e' = .returned (.tuple #[.int .u64 0, .int .i64 0, .int .i64 e]) ∧ Below w.heap.size w w')) :
    Calls Tryd.prog 7 #[.string s] w fun e' w' => e' = .returned (.tuple #[.string ⟨#[]⟩, .int .i64 0, .int .i64 e]) ∧ Below w.heap.size w w' := by
  go_enter Tryd.func7, Tryd.ntmps7
  go_wp2_with (go_at_call 14; refine (H.out _).mono ?_; rintro e' w1 ⟨rfl, b1⟩)
  go_ret3
  exact ⟨rfl, b1⟩
set_option maxHeartbeats 400000 in
set_option maxRecDepth 100000 in
theorem refReadName_large (s : ByteArray) (n k : Nat) (w : World) (hn : (16 : Int) < (n : Int)) (H : Hid (∀ w, Calls Tryd.prog 14 #[.string s, .int .i64 32] w fun e' w' => e' = .returned (.tuple #[.int .u64 (n : Int), .int .i64 (k : Int), .int .i64 0]) ∧ Below w.heap.size w w')) :
    Calls Tryd.prog 7 #[.string s] w fun e' w' => e' = .returned (.tuple #[.string ⟨#[]⟩, .int .i64 0, .int .i64 2]) ∧ Below w.heap.size w w' := by
  go_enter Tryd.func7, Tryd.ntmps7
  go_wp2_with (go_at_call 14; refine (H.out _).mono ?_; rintro e' w1 ⟨rfl, b1⟩)
  go_ret3
  exact ⟨rfl, b1⟩
set_option maxHeartbeats 400000 in
set_option maxRecDepth 100000 in
theorem refReadName_short (s : ByteArray) (n k : Nat) (w : World) (_hs : s.size ≤ maxLen) (hn : n ≤ 16) (_hk : k ≤ 10) (hks : k ≤ s.size) (hlt : (s.size : Int) < (k : Int) + (n : Int)) (H : Hid (∀ w, Calls Tryd.prog 14 #[.string s, .int .i64 32] w fun e' w' => e' = .returned (.tuple #[.int .u64 (n : Int), .int .i64 (k : Int), .int .i64 0]) ∧ Below w.heap.size w w')) :
    Calls Tryd.prog 7 #[.string s] w fun e' w' => e' = .returned (.tuple #[.string ⟨#[]⟩, .int .i64 0, .int .i64 3]) ∧ Below w.heap.size w w' := by
  unfold maxLen at _hs
  go_enter Tryd.func7, Tryd.ntmps7
  go_wp2_with (go_at_call 14; refine (H.out _).mono ?_; rintro e' w1 ⟨rfl, b1⟩)
  go_ret3
  exact ⟨rfl, b1⟩
set_option maxHeartbeats 400000 in
set_option maxRecDepth 100000 in
theorem refReadName_bad (s T : ByteArray) (n k : Nat) (w : World) (hs : s.size ≤ maxLen) (hn : n ≤ 16) (hk : k ≤ 10) (hge : k + n ≤ s.size) (hT : s.extract k (k + n) = T) (hTz : T.size ≤ 16) (hv : Hid (Lib.validD T.data.toList = false))
    (H : Hid (∀ w, Calls Tryd.prog 14 #[.string s, .int .i64 32] w fun e' w' => e' = .returned (.tuple #[.int .u64 (n : Int), .int .i64 (k : Int), .int .i64 0]) ∧ Below w.heap.size w w')) :
    Calls Tryd.prog 7 #[.string s] w fun e' w' => e' = .returned (.tuple #[.string ⟨#[]⟩, .int .i64 0, .int .i64 4]) ∧ Below w.heap.size w w' := by
  unfold maxLen at hs
  have IT : Hid (∀ w, Calls Tryd.prog 10 #[.string T] w fun e w' => e = .returned (.bool false) ∧ Below w.heap.size w w') := fun w => isText_at T false w (by unfold maxLen; omega) hv
  go_enter Tryd.func7, Tryd.ntmps7
  go_wp2_with (first | (go_at_call 14; refine (H.out _).mono ?_; rintro e' w1 ⟨rfl, b1⟩) | (go_at_call 10; refine (IT.out _).mono ?_; rintro e w2 ⟨rfl, b2⟩))
  go_ret3
  exact ⟨rfl, b1.trans (b2.mono b1.size)⟩
set_option maxHeartbeats 400000 in
set_option maxRecDepth 100000 in
theorem refReadName_ok (s T : ByteArray) (n k : Nat) (w : World) (hs : s.size ≤ maxLen) (hn : n ≤ 16) (hk : k ≤ 10) (hge : k + n ≤ s.size) (hT : s.extract k (k + n) = T) (hTz : T.size ≤ 16) (hv : Hid (Lib.validD T.data.toList = true))
    (H : Hid (∀ w, Calls Tryd.prog 14 #[.string s, .int .i64 32] w fun e' w' => e' = .returned (.tuple #[.int .u64 (n : Int), .int .i64 (k : Int), .int .i64 0]) ∧ Below w.heap.size w w')) :
    Calls Tryd.prog 7 #[.string s] w fun e' w' => e' = .returned (.tuple #[.string T, .int .i64 ((k : Int) + (n : Int)), .int .i64 0]) ∧ Below w.heap.size w w' := by
  unfold maxLen at hs
  have IT : Hid (∀ w, Calls Tryd.prog 10 #[.string T] w fun e w' => e = .returned (.bool true) ∧ Below w.heap.size w w') := fun w => isText_at T true w (by unfold maxLen; omega) hv
  go_enter Tryd.func7, Tryd.ntmps7
  go_wp2_with (first | (go_at_call 14; refine (H.out _).mono ?_; rintro e' w1 ⟨rfl, b1⟩) | (go_at_call 10; refine (IT.out _).mono ?_; rintro e w2 ⟨rfl, b2⟩))
  go_ret3
  exact ⟨rfl, b1.trans (b2.mono b1.size)⟩

theorem res32 (l : List Int) (hl : ∀ b ∈ l, 0 ≤ b ∧ b < 256) :
    (∃ e : Int, (e != 0) = true ∧ rU 32 l = (0, 0, e)) ∨ ∃ m k : Nat, k ≤ 10 ∧ k ≤ l.length ∧ rU 32 l = ((m : Int), (k : Int), 0) := by
  have hu : rU 32 l = rdl fitU 32 l 0 0 := by rw [rU, if_pos (by simp)]
  rcases rdl_all fitU 32 (.inl rfl) l hl with h | h | ⟨f, b, t, e, hf, hb0, hb1, h1, h2, h⟩
  · left; exact ⟨3, rfl, by rw [hu, h]⟩
  · left; exact ⟨4, rfl, by rw [hu, h]⟩
  · right
    have hv := val_bound (f ++ [b])
    refine ⟨(val (f ++ [b])).toNat, f.length + 1, by omega, ?_, ?_⟩
    · rw [e, List.length_append, List.length_cons]; omega
    · rw [hu, h, Int.toNat_of_nonneg hv.1]; rfl

/-- What ReadName and LebReadName answer is one. -/
theorem readName_both (s : ByteArray) (hs : s.size ≤ maxLen) : ∃ X : ByteArray, ∃ j e : Int,
    (∀ w, Lib.Utf8Tabs 0 1 w → Calls Tryd.prog 6 #[.string s] w fun e' w' => e' = .returned (.tuple #[.string X, .int .i64 j, .int .i64 e]) ∧ Below w.heap.size w w') ∧
    (∀ w, Calls Tryd.prog 7 #[.string s] w fun e' w' => e' = .returned (.tuple #[.string X, .int .i64 j, .int .i64 e]) ∧ Below w.heap.size w w') := by
  have hlen := nums_length s
  rcases res32 (nums s) (nums_byte s) with ⟨e, he, h⟩ | ⟨n, k, hk, hks, h⟩
  · have H : ∀ w, Calls Tryd.prog 14 #[.string s, .int .i64 32] w fun e' w' => e' = .returned (.tuple #[.int .u64 0, .int .i64 0, .int .i64 e]) ∧ Below w.heap.size w w' := fun w => refReadU_all32 s hs 0 0 e h w
    exact ⟨⟨#[]⟩, 0, e, fun w _ => readName_err s e w hs he h, fun w => refReadName_err s e w he H⟩
  · have H : ∀ w, Calls Tryd.prog 14 #[.string s, .int .i64 32] w fun e' w' => e' = .returned (.tuple #[.int .u64 (n : Int), .int .i64 (k : Int), .int .i64 0]) ∧ Below w.heap.size w w' := fun w => refReadU_all32 s hs n k 0 h w
    by_cases hn : 16 < n
    · exact ⟨⟨#[]⟩, 0, 2, fun w _ => readName_large s n k w hs (by omega) h, fun w => refReadName_large s n k w (by omega) H⟩
    · by_cases hlt : s.size < k + n
      · exact ⟨⟨#[]⟩, 0, 3, fun w _ => readName_short s n k w hs (by omega) hk (by omega) h, fun w => refReadName_short s n k w hs (by omega) hk (by omega) (by omega) H⟩
      · have hTz : (s.extract k (k + n)).size ≤ 16 := by rw [Lib.size_eq, Lib.extract_data, List.length_take]; omega
        cases hv : Lib.validD (s.extract k (k + n)).data.toList with
        | false => exact ⟨⟨#[]⟩, 0, 4, fun w hT => readName_bad valid_c clone_c s _ n k w hs (by omega) hk (by omega) h rfl hTz hv hT, fun w => refReadName_bad s _ n k w hs (by omega) hk (by omega) rfl hTz hv H⟩
        | true => exact ⟨_, _, 0, fun w hT => readName_ok valid_c clone_c s _ n k w hs (by omega) hk (by omega) h rfl hTz hv hT, fun w => refReadName_ok s _ n k w hs (by omega) hk (by omega) rfl hTz hv H⟩

end Go.Proofs.YtnkeeaelomalkaaDoor
