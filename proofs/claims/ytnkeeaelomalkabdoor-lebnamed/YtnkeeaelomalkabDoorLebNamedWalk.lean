/-
  LebNamed, walked: a name that is written is read as it was; one byte above 127 alone is none.
-/
import Derived.Test.YtnkeeaelomalkabDoorShelf
import Derived.Test.YtnkeeaelomalkabDoorUtf
import Derived.SizedLaws
namespace Go.Proofs.YtnkeeaelomalkabDoor
open Go.RowKit

theorem rU_one (b : Int) (t : List Int) (h0 : 0 ≤ b) (h1 : b < 128) : rU 32 (b :: t) = (b, 1, 0) := by
  have := rdl_good (fit := fitU) (B := 32) [] t b (by simp) h0 h1 (by simp) (by simp)
  rw [rU, if_pos (by simp)]
  rw [List.nil_append] at this
  rw [this]
  have hb : b % 128 = b := by omega
  simp [val, hb]

theorem ff_data (s : ByteArray) (k : Nat) : (s.extract 0 k ++ ⟨#[255]⟩).data.toList = s.data.toList.take k ++ [255] := by
  have : (s.extract 0 k ++ ⟨#[255]⟩).data.toList = (s.extract 0 k).data.toList ++ [255] := by
    rw [ByteArray.data_append]; simp
  rw [this, Lib.extract_data]; simp
theorem back_extract (S s t : ByteArray) (h : S.size = 1) : (S ++ s ++ t).extract 1 (1 + s.size) = s := by
  have e : (S ++ s ++ t).data.toList = S.data.toList ++ s.data.toList ++ t.data.toList := by
    rw [ByteArray.data_append, ByteArray.data_append]; simp
  rw [Lib.extract_eq, e, List.append_assoc, List.drop_append_of_le_length (by rw [← Lib.size_eq]; omega), List.drop_of_length_le (by rw [← Lib.size_eq]; omega), List.nil_append]
  rw [List.take_append_of_le_length (by rw [← Lib.size_eq]; omega), List.take_of_length_le (by rw [← Lib.size_eq]; omega)]

set_option maxHeartbeats 400000 in
set_option maxRecDepth 100000 in
theorem named_large (a0 a1 : ByteArray) (w : World) (h : (16 : Int) < (a0.size : Int)) :
    Calls Tryd.prog 3 #[.string a0, .string a1] w fun e w' => e = .returned (.bool true) ∧ Below w.heap.size w w' := by
  go_enter Tryd.func3, Tryd.ntmps3
  go_wp2_with (go_at_call 4; refine (name_large a0 _ h).mono ?_; rintro e w1 ⟨rfl, b1⟩)
  go_ret
  exact ⟨rfl, b1⟩
set_option maxHeartbeats 400000 in
set_option maxRecDepth 100000 in
theorem named_bad (a0 a1 X : ByteArray) (w : World) (h : a0.size ≤ 16) (hX : a0.extract 0 (a0.size / 2) ++ ⟨#[255]⟩ = X) (hXz : X.size ≤ 16) (hXv : Hid (Lib.validD X.data.toList = false)) (hv : Hid (Lib.validD a0.data.toList = false)) (hT : Hid (Lib.Utf8Tabs 0 1 w)) :
    Calls Tryd.prog 3 #[.string a0, .string a1] w fun e w' => e = .returned (.bool true) ∧ Below w.heap.size w w' := by
  go_enter Tryd.func3, Tryd.ntmps3
  go_wp2_with fail
  refine (name_bad valid_c a0 _ h hv hT).mono ?_
  rintro e w1 ⟨rfl, b1⟩
  go_wp2_with fail
  refine (name_bad valid_c X _ hXz hXv (Utf8Tabs_below hT.out b1)).mono ?_
  rintro e w2 ⟨rfl, b2⟩
  go_wp2
  go_ret
  exact ⟨rfl, b1.trans (b2.mono b1.size)⟩
set_option maxHeartbeats 400000 in
set_option maxRecDepth 100000 in
theorem named_ok (a0 a1 X S : ByteArray) (w : World) (h : a0.size ≤ 16) (h1 : a1.size ≤ 140737488351232) (hX : a0.extract 0 (a0.size / 2) ++ ⟨#[255]⟩ = X) (hXz : X.size ≤ 16) (hXv : Hid (Lib.validD X.data.toList = false)) (hv : Hid (Lib.validD a0.data.toList = true)) (hT : Hid (Lib.Utf8Tabs 0 1 w))
    (hS : Hid (strOfNums [(a0.size : Int)] = S)) (hSz : S.size = 1) (HR : Hid (rU 32 (nums (S ++ a0 ++ a1)) = ((a0.size : Int), ((1 : Nat) : Int), 0))) :
    Calls Tryd.prog 3 #[.string a0, .string a1] w fun e w' => e = .returned (.bool true) ∧ Below w.heap.size w w' := by
  have zR : Hid ((S ++ a0 ++ a1).size ≤ maxLen) := by unfold Hid maxLen; rw [ByteArray.size_append, ByteArray.size_append]; omega
  have zR2 : Hid (1 + a0.size ≤ (S ++ a0 ++ a1).size) := by unfold Hid; rw [ByteArray.size_append, ByteArray.size_append]; omega
  have HE : Hid _ := back_extract S a0 a1 hSz
  go_enter Tryd.func3, Tryd.ntmps3
  go_wp2_with fail
  refine (name_ok valid_c a0 S _ h hv hT hS).mono ?_
  rintro e w1 ⟨rfl, b1⟩
  go_wp2_with fail
  refine (name_bad valid_c X _ hXz hXv (Utf8Tabs_below hT.out b1)).mono ?_
  rintro e w2 ⟨rfl, b2⟩
  go_wp2_with fail
  refine (readName_ok valid_c clone_c (S ++ a0 ++ a1) a0 a0.size 1 _ zR h (by omega) zR2.out HR HE.out h hv (Utf8Tabs_below hT.out (b1.trans (b2.mono b1.size)))).mono ?_
  rintro e w3 ⟨rfl, b3⟩
  go_wp2
  go_ret
  have z1 := b1.size
  have z2 := b2.size
  exact ⟨by simp, (b1.trans (b2.mono z1)).trans (b3.mono (by omega))⟩

theorem lebNamed_walk (a0 a1 : ByteArray) (_z0 : a0.data.toList.length ≤ reachBytes) (z1 : a1.data.toList.length ≤ reachBytes) (w : World) (hT : Lib.Utf8Tabs 0 1 w) :
    Calls Tryd.prog 3 #[.string a0, .string a1] w fun e w' => e = .returned (.bool true) ∧ Below w.heap.size w w' := by
  by_cases h : 16 < a0.size
  · exact named_large a0 a1 w (by omega)
  · have h1 : a1.size ≤ 140737488351232 := by rw [Lib.size_eq]; exact z1
    have hXz : (a0.extract 0 (a0.size / 2) ++ ⟨#[255]⟩).size ≤ 16 := by
      rw [Lib.size_eq, ff_data]; simp; omega
    have hXv : Lib.validD (a0.extract 0 (a0.size / 2) ++ ⟨#[255]⟩).data.toList = false := by rw [ff_data]; exact valid_ff _
    cases hv : Lib.validD a0.data.toList with
    | false => exact named_bad a0 a1 _ w (by omega) rfl hXz hXv hv hT
    | true =>
      refine named_ok a0 a1 _ _ w (by omega) h1 rfl hXz hXv hv hT rfl (by rw [strOfNums_size]; rfl) ?_
      unfold Hid
      rw [nums_append, nums_append, nums_str (by intro b hb; simp at hb; omega)]
      exact rU_one _ _ (by omega) (by omega)

end Go.Proofs.YtnkeeaelomalkabDoor
