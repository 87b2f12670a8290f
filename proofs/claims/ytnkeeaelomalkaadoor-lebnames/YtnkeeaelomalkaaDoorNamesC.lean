/-
  What leb.Name and leb.ReadName do, where utf8.ValidString answers as its contract says.
-/
import Derived.Test.YtnkeeaelomalkaaDoorWriteU
import Derived.Test.YtnkeeaelomalkaaDoorReadsU
import Derived.Test.YtnkeeaelomalkaaDoorStrs
import Derived.Shelf.Unicode.DecodeSlow
import Derived.Lib.ValidU
namespace Go.Proofs.YtnkeeaelomalkaaDoor
open Go.RowKit

/-- utf8.ValidString, as its contract says, where its tables lie as they should. -/
def ValidC : Prop := ∀ (s : ByteArray) (w : World), s.size ≤ 9223372036854775807 → Lib.Utf8Tabs 0 1 w →
  Calls Tryd.prog 8 #[.string s] w fun e w' => e = .returned (.bool (Lib.validD s.data.toList)) ∧ Below w.heap.size w w'
/-- strings.Clone, as its contract says. -/
def CloneC : Prop := ∀ (s : ByteArray) (w : World), s.size ≤ 281474976710656 →
  Calls Tryd.prog 13 #[.string s] w fun e w' => e = .returned (.string s) ∧ Below w.heap.size w w'

theorem valid_at (V : ValidC) (s : ByteArray) (b : Bool) (w : World) (hs : s.size ≤ 16) (h : Hid (Lib.validD s.data.toList = b)) (hT : Lib.Utf8Tabs 0 1 w) :
    Calls Tryd.prog 8 #[.string s] w fun e w' => e = .returned (.bool b) ∧ Below w.heap.size w w' := by
  rw [← h.out]; exact V s w (by omega) hT

theorem ret_2 {s t : ByteArray} {a b : Int} (h1 : s = t) (h2 : a = b) : Ending.returned (.tuple #[.string s, .int .i64 a]) = .returned (.tuple #[.string t, .int .i64 b]) := by rw [h1, h2]

set_option maxHeartbeats 400000 in
theorem name_large (s : ByteArray) (w : World) (h : (16 : Int) < (s.size : Int)) :
    Calls Tryd.prog 4 #[.string s] w fun e w' => e = .returned (.tuple #[.string ⟨#[]⟩, .int .i64 2]) ∧ Below w.heap.size w w' := by
  go_enter Tryd.func4, Tryd.ntmps4
  go_wp2
  go_ret2
  exact ⟨rfl, Below.refl _ _⟩
set_option maxHeartbeats 400000 in
theorem name_bad (V : Hid ValidC) (s : ByteArray) (w : World) (h : s.size ≤ 16) (hv : Hid (Lib.validD s.data.toList = false)) (hT : Hid (Lib.Utf8Tabs 0 1 w)) :
    Calls Tryd.prog 4 #[.string s] w fun e w' => e = .returned (.tuple #[.string ⟨#[]⟩, .int .i64 4]) ∧ Below w.heap.size w w' := by
  go_enter Tryd.func4, Tryd.ntmps4
  go_wp2_with (go_at_call 8; refine (valid_at V.out s false _ h hv hT.out).mono ?_; rintro e w1 ⟨rfl, b1⟩)
  go_ret2
  exact ⟨rfl, b1⟩
set_option maxHeartbeats 400000 in
theorem name_ok (V : Hid ValidC) (s S : ByteArray) (w : World) (h : s.size ≤ 16) (hv : Hid (Lib.validD s.data.toList = true)) (hT : Hid (Lib.Utf8Tabs 0 1 w)) (hS : Hid (strOfNums [(s.size : Int)] = S)) :
    Calls Tryd.prog 4 #[.string s] w fun e w' => e = .returned (.tuple #[.string (S ++ s), .int .i64 0]) ∧ Below w.heap.size w w' := by
  have hU : Hid (∀ w, Calls Tryd.prog 9 #[.int .u64 (s.size : Int)] w fun e w' => e = .returned (.string S) ∧ Below w.heap.size w w') := by
    intro w
    have := u_any s.size (by omega) w
    rw [uB_lo (by omega), hS.out] at this
    exact this
  have hz : S.size = 1 := by rw [← hS.out, strOfNums_size]; rfl
  go_enter Tryd.func4, Tryd.ntmps4
  go_wp2_with (first | (go_at_call 8; refine (valid_at V.out s true _ h hv hT.out).mono ?_; rintro e w1 ⟨rfl, b1⟩) | (go_at_call 9; refine (hU.out _).mono ?_; rintro e w2 ⟨rfl, b2⟩))
  go_ret2
  exact ⟨rfl, b1.trans (b2.mono b1.size)⟩

set_option maxHeartbeats 400000 in
theorem readName_err (s : ByteArray) (e : Int) (w : World) (hs : s.size ≤ maxLen) (he : (e != 0) = true) (H : Hid (rU 32 (nums s) = (0, 0, e))) :
    Calls Tryd.prog 6 #[.string s] w fun e' w' => e' = .returned (.tuple #[.string ⟨#[]⟩, .int .i64 0, .int .i64 e]) ∧ Below w.heap.size w w' := by
  go_enter Tryd.func6, Tryd.ntmps6
  go_wp2_with (go_at_call 12; refine (readU_at s _ _ _ hs H _).mono ?_; rintro e' w1 ⟨rfl, rfl⟩)
  go_ret3
  exact ⟨rfl, Below.refl _ _⟩
set_option maxHeartbeats 400000 in
theorem readName_large (s : ByteArray) (n k : Nat) (w : World) (hs : s.size ≤ maxLen) (hn : (16 : Int) < (n : Int)) (H : Hid (rU 32 (nums s) = ((n : Int), (k : Int), 0))) :
    Calls Tryd.prog 6 #[.string s] w fun e' w' => e' = .returned (.tuple #[.string ⟨#[]⟩, .int .i64 0, .int .i64 2]) ∧ Below w.heap.size w w' := by
  go_enter Tryd.func6, Tryd.ntmps6
  go_wp2_with (go_at_call 12; refine (readU_at s _ _ _ hs H _).mono ?_; rintro e' w1 ⟨rfl, rfl⟩)
  go_ret3
  exact ⟨rfl, Below.refl _ _⟩
set_option maxHeartbeats 400000 in
theorem readName_short (s : ByteArray) (n k : Nat) (w : World) (hs : s.size ≤ maxLen) (hn : n ≤ 16) (hk : k ≤ 10) (hlt : (s.size : Int) < (k : Int) + (n : Int)) (H : Hid (rU 32 (nums s) = ((n : Int), (k : Int), 0))) :
    Calls Tryd.prog 6 #[.string s] w fun e' w' => e' = .returned (.tuple #[.string ⟨#[]⟩, .int .i64 0, .int .i64 3]) ∧ Below w.heap.size w w' := by
  go_enter Tryd.func6, Tryd.ntmps6
  go_wp2_with (go_at_call 12; refine (readU_at s _ _ _ hs H _).mono ?_; rintro e' w1 ⟨rfl, rfl⟩)
  go_ret3
  exact ⟨rfl, Below.refl _ _⟩
set_option maxHeartbeats 400000 in
theorem readName_bad (V : Hid ValidC) (C : Hid CloneC) (s T : ByteArray) (n k : Nat) (w : World) (hs : s.size ≤ maxLen) (hn : n ≤ 16) (hk : k ≤ 10) (hge : k + n ≤ s.size) (H : Hid (rU 32 (nums s) = ((n : Int), (k : Int), 0)))
    (hT : s.extract k (k + n) = T) (hTz : T.size ≤ 16) (hv : Hid (Lib.validD T.data.toList = false)) (hU : Hid (Lib.Utf8Tabs 0 1 w)) :
    Calls Tryd.prog 6 #[.string s] w fun e' w' => e' = .returned (.tuple #[.string ⟨#[]⟩, .int .i64 0, .int .i64 4]) ∧ Below w.heap.size w w' := by
  have C' : Hid (∀ w, Calls Tryd.prog 13 #[.string T] w fun e w' => e = .returned (.string T) ∧ Below w.heap.size w w') := fun w => C.out T w (by omega)
  go_enter Tryd.func6, Tryd.ntmps6
  go_wp2_with (first | (go_at_call 12; refine (readU_at s _ _ _ hs H _).mono ?_; rintro e' w1 ⟨rfl, rfl⟩) | (go_at_call 13; refine (C'.out _).mono ?_; rintro e w2 ⟨rfl, b2⟩) | (go_at_call 8; refine (valid_at V.out T false _ hTz hv (Utf8Tabs_below hU.out b2)).mono ?_; rintro e w3 ⟨rfl, b3⟩))
  go_ret3
  exact ⟨rfl, b2.trans (b3.mono b2.size)⟩
set_option maxHeartbeats 400000 in
theorem readName_ok (V : Hid ValidC) (C : Hid CloneC) (s T : ByteArray) (n k : Nat) (w : World) (hs : s.size ≤ maxLen) (hn : n ≤ 16) (hk : k ≤ 10) (hge : k + n ≤ s.size) (H : Hid (rU 32 (nums s) = ((n : Int), (k : Int), 0)))
    (hT : s.extract k (k + n) = T) (hTz : T.size ≤ 16) (hv : Hid (Lib.validD T.data.toList = true)) (hU : Hid (Lib.Utf8Tabs 0 1 w)) :
    Calls Tryd.prog 6 #[.string s] w fun e' w' => e' = .returned (.tuple #[.string T, .int .i64 ((k : Int) + (n : Int)), .int .i64 0]) ∧ Below w.heap.size w w' := by
  have C' : Hid (∀ w, Calls Tryd.prog 13 #[.string T] w fun e w' => e = .returned (.string T) ∧ Below w.heap.size w w') := fun w => C.out T w (by omega)
  go_enter Tryd.func6, Tryd.ntmps6
  go_wp2_with (first | (go_at_call 12; refine (readU_at s _ _ _ hs H _).mono ?_; rintro e' w1 ⟨rfl, rfl⟩) | (go_at_call 13; refine (C'.out _).mono ?_; rintro e w2 ⟨rfl, b2⟩) | (go_at_call 8; refine (valid_at V.out T true _ hTz hv (Utf8Tabs_below hU.out b2)).mono ?_; rintro e w3 ⟨rfl, b3⟩))
  go_ret3
  exact ⟨rfl, b2.trans (b3.mono b2.size)⟩

end Go.Proofs.YtnkeeaelomalkaaDoor
