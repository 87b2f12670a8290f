/-
  What the document's own LebU does: it writes what leb.U writes.
-/
import Derived.Test.YtnkeeaelomalkaaRefU
namespace Go.Proofs.Ytnkeeaelomalkaa
open Go.RowKit

theorem str_cons (x : Int) (xs : List Int) : strOfNums [x] ++ strOfNums xs = strOfNums (x :: xs) := by
  have : (strOfNums [x] ++ strOfNums xs).data = (strOfNums (x :: xs)).data := by
    rw [ByteArray.data_append]
    simp [strOfNums]
  exact ByteArray.ext this

set_option maxHeartbeats 400000 in
set_option maxRecDepth 1000000 in
theorem refU_any (n : Nat) (hn : n ≤ 18446744073709551615) (w : World) :
    Calls Try.prog 10 #[.int .u64 n] w fun e w' => e = .returned (.string (strOfNums (uB n))) ∧ Below w.heap.size w w' := by
  induction n using Nat.strongRecOn generalizing w with
  | ind n ih =>
    by_cases h : n < 128
    · have HU : Hid _ := uB_lo h
      clear ih
      go_enter Try.func10, Try.ntmps10
      go_wp2_with fail
      refine (chr_any _ (by omega) (by omega) _).mono ?_
      rintro e w1 ⟨rfl, b1⟩
      go_wp2
      go_ret
      rw [HU.out]
      exact ⟨rfl, b1⟩
    · have HU : Hid _ := uB_hi h
      have IH : Hid (∀ w : World, Calls Try.prog 10 #[.int .u64 ((n : Int) / 128)] w fun e w' => e = .returned (.string (strOfNums (uB (n / 128)))) ∧ Below w.heap.size w w') := fun w => ih (n / 128) (by omega) (by omega) w
      have hl : (strOfNums (uB (n / 128))).size ≤ 10 := by rw [strOfNums_size]; exact uB_len64 _ (by omega)
      have hl2 : (strOfNums [(n : Int) % 128 + 128]).size = 1 := by rw [strOfNums_size]; rfl
      clear ih
      go_enter Try.func10, Try.ntmps10
      go_wp2_with fail
      refine (chr_any _ (by omega) (by omega) _).mono ?_
      rintro e w1 ⟨rfl, b1⟩
      go_wp2_with fail
      refine (IH.out _).mono ?_
      rintro e w2 ⟨rfl, b2⟩
      go_wp2
      go_ret
      rw [HU.out, ← str_cons]
      exact ⟨rfl, b1.trans (b2.mono b1.size)⟩

end Go.Proofs.Ytnkeeaelomalkaa
