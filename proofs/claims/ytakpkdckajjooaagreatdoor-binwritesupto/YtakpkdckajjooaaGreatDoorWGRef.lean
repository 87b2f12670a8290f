/-
 What the document's own chr and LebU do. What the document's own LebU does: it writes what leb.U writes. What the document's own LebS does: it writes what leb.S writes. What the document's own span does. What the document's own LebReadU does. What the document's own LebReadS does. What the document's own LebReadU and LebReadS answer, for every text and every number of bits: what leb.ReadU and leb.ReadS answer.
-/
import Derived.Test.YtakpkdckajjooaaGreatDoorWGLeb
import Derived.Laws.Concat
import Derived.WalkSmall
set_option maxHeartbeats 1000000
set_option maxRecDepth 1000000
namespace Go.Proofs.YtakpkdckajjooaaGreatDoor
set_option linter.unusedVariables false
open Go.RowKit
theorem chr_conv (w : World) (n : Int) : (convert 142 9 (.slice (some ⟨w.heap.size, 0, none⟩) 1 1)).run Tryz.prog (w.alloc (.cells #[.int .u8 n] 5)) = .ok (.string (strOfNums [n])) (w.alloc (.cells #[.int .u8 n] 5)) := by
 refine run_convert_bytes_arg _ 142 5 Tryz.underlying142 Tryz.underlying5 w.heap.size 0 1 1 [n] rfl ?_ 9 Tryz.underlying9
 intro i hi
 have : i = 0 := by omega
 subst this
 rw [World.cell?_alloc_at _ _ _ _ rfl]
 rfl
theorem chr_any (n : Int) (h0 : 0 ≤ n) (h1 : n < 256) (w : World) :
  Calls Tryz.prog 28 #[.int .i64 n] w fun e w' => e = .returned (.string (strOfNums [n])) ∧ Below w.heap.size w w' := by
 have hc := chr_conv w n
 go_enter Tryz.func28, Tryz.ntmps28
 go_wp2
 go_ret
 exact ⟨rfl, (Below.refl _ _).alloc (Nat.le_refl _) _⟩
end Go.Proofs.YtakpkdckajjooaaGreatDoor
namespace Go.Proofs.YtakpkdckajjooaaGreatDoor
open Go.RowKit
theorem str_cons (x : Int) (xs : List Int) : strOfNums [x] ++ strOfNums xs = strOfNums (x :: xs) := by
 have : (strOfNums [x] ++ strOfNums xs).data = (strOfNums (x :: xs)).data := by
  rw [ByteArray.data_append]
  simp [strOfNums]
 exact ByteArray.ext this
theorem refU_any (n : Nat) (hn : n ≤ 18446744073709551615) (w : World) :
  Calls Tryz.prog 94 #[.int .u64 n] w fun e w' => e = .returned (.string (strOfNums (uB n))) ∧ Below w.heap.size w w' := by
 induction n using Nat.strongRecOn generalizing w with
 | ind n ih =>
  by_cases h : n < 128
  ·have HU : Hid _ := uB_lo h
   clear ih
   go_enter Tryz.func94, Tryz.ntmps94
   go_wp2_with fail
   refine (chr_any _ (by omega) (by omega) _).mono ?_
   rintro e w1 ⟨rfl, b1⟩
   go_wp2
   go_ret
   rw [HU.out]
   exact ⟨rfl, b1⟩
  ·have HU : Hid _ := uB_hi h
   have IH : Hid (∀ w : World, Calls Tryz.prog 94 #[.int .u64 ((n : Int) / 128)] w fun e w' => e = .returned (.string (strOfNums (uB (n / 128)))) ∧ Below w.heap.size w w') := fun w => ih (n / 128) (by omega) (by omega) w
   have hl : (strOfNums (uB (n / 128))).size ≤ 10 := by rw [strOfNums_size]; exact uB_len64 _ (by omega)
   have hl2 : (strOfNums [(n : Int) % 128 + 128]).size = 1 := by rw [strOfNums_size]; rfl
   clear ih
   go_enter Tryz.func94, Tryz.ntmps94
   go_wp2_with fail
   refine (chr_any _ (by omega) (by omega) _).mono ?_
   rintro e w1 ⟨rfl, b1⟩
   go_wp2_with fail
   refine (IH.out _).mono ?_
   rintro e w2 ⟨rfl, b2⟩
   go_wp2
   go_ret
   rw [HU.out, ← str_cons]
   exact ⟨rfl, b1.trans (b2.mono b1.size)⟩
end Go.Proofs.YtakpkdckajjooaaGreatDoor
namespace Go.Proofs.YtakpkdckajjooaaGreatDoor
open Go.RowKit
theorem sB_len_iff (k : Nat) : ∀ n : Int, (sB n).length ≤ k + 1 ↔ (-(64 * 128 ^ k) ≤ n ∧ n < 64 * 128 ^ k) := by
 induction k with
 | zero =>
  intro n
  by_cases h : -64 ≤ n ∧ n < 64
  ·simp [sB_lo h]; omega
  ·have := sB_pos (n / 128)
   rw [sB_hi h, List.length_cons]; omega
 | succ k ih =>
  intro n
  rw [Int.pow_succ]
  have hp : (0 : Int) < 128 ^ k := Int.pow_pos (by omega)
  by_cases h : -64 ≤ n ∧ n < 64
  ·simp [sB_lo h]; omega
  ·rw [sB_hi h, List.length_cons]
   have := ih (n / 128)
   omega
theorem pow_64 (k : Nat) : (2 : Int) ^ (7 * k + 6) = 64 * 128 ^ k := by
 have e : (128 : Int) ^ k = 2 ^ (7 * k) := by exact_mod_cast pow128 k
 rw [e, Int.pow_add, Int.mul_comm]; rfl
theorem shr_small (n : Int) (k : Nat) : (n / 2 ^ (7 * k + 6) = 0 ∨ n / 2 ^ (7 * k + 6) = -1) ↔ (sB n).length ≤ k + 1 := by
 rw [sB_len_iff, ← pow_64]
 have hp : (0 : Int) < 2 ^ (7 * k + 6) := Int.pow_pos (by omega)
 have e := Int.emod_add_mul_ediv n (2 ^ (7 * k + 6))
 have e1 := Int.emod_nonneg n (show (2 : Int) ^ (7 * k + 6) ≠ 0 by omega)
 have e2 := Int.emod_lt_of_pos n hp
 constructor
 ·rintro (h | h) <;> rw [h] at e <;> omega
 ·rintro ⟨h1, h2⟩
  by_cases h : 0 ≤ n
  ·left; exact Int.ediv_eq_zero_of_lt h h2
  ·right
   have a1 : n / 2 ^ (7 * k + 6) < 0 := Int.ediv_neg_of_neg_of_pos (by omega) hp
   have a2 : -1 ≤ n / 2 ^ (7 * k + 6) := Int.le_ediv_of_mul_le hp (by omega)
   omega
theorem sB_take_succ (j : Nat) : ∀ n : Int, j < (sB n).length → (sB n).take (j + 1) = (sB n).take j ++ [n / 2 ^ (7 * j) % 128 + (if j + 1 < (sB n).length then 128 else 0)] := by
 induction j with
 | zero =>
  intro n _
  by_cases h : -64 ≤ n ∧ n < 64
  ·simp [sB_lo h]
  ·have := sB_pos (n / 128)
   rw [sB_hi h, List.length_cons, if_pos (by omega)]
   simp
 | succ j ih =>
  intro n hj
  by_cases h : -64 ≤ n ∧ n < 64
  ·rw [sB_lo h] at hj; simp at hj
  ·rw [sB_hi h, List.length_cons] at hj ⊢
   have := ih (n / 128) (by omega)
   have e : n / 128 / 2 ^ (7 * j) = n / 2 ^ (7 * (j + 1)) := by
    rw [Int.ediv_ediv_of_nonneg (by omega)]
    congr 1
    rw [show 7 * (j + 1) = 7 + 7 * j from by omega, Int.pow_add]; rfl
   rw [e] at this
   rw [List.take_succ_cons, this, List.take_succ_cons, List.cons_append]
   congr 4
   by_cases h' : j + 1 < (sB (n / 128)).length
   ·rw [if_pos h', if_pos (by omega)]
   ·rw [if_neg h', if_neg (by omega)]
theorem str_snoc (xs : List Int) (x : Int) : strOfNums xs ++ strOfNums [x] = strOfNums (xs ++ [x]) := by
 have : (strOfNums xs ++ strOfNums [x]).data = (strOfNums (xs ++ [x])).data := by
  rw [ByteArray.data_append]
  simp [strOfNums]
 exact ByteArray.ext this
theorem ret_s {a b : ByteArray} (h : a = b) : Ending.returned (.string a) = .returned (.string b) := by rw [h]
theorem refS_any (n : Int) (hn1 : -9223372036854775808 ≤ n) (hn2 : n ≤ 9223372036854775807) (w : World) :
  Calls Tryz.prog 92 #[.int .i64 n] w fun e w' => e = .returned (.string (strOfNums (sB n))) ∧ Below w.heap.size w w' := by
 obtain ⟨L, hL⟩ : ∃ L, (sB n).length = L := ⟨_, rfl⟩
 have hL1 : 1 ≤ L := by rw [← hL]; exact sB_pos n
 have hL2 : L ≤ 10 := by rw [← hL]; exact sB_len64 n hn1 hn2
 have HL : Hid _ := hL
 clear hL
 go_enter Tryz.func92, Tryz.ntmps92
 go_wp2
 go_loop [3] (fun t => ∃ k : Nat, t = .int .i64 ((k : Int) + 1) ∧ k + 1 ≤ L) (fun t => 10 - (intOf t).toNat)
 case atStart => exact ⟨0, rfl, by omega⟩
 case round =>
  obtain ⟨k, rfl, hk⟩ := hrel
  have hs := shr_small n k
  rw [show 7 * k + 6 = 7 * (k + 1) - 1 from by omega, HL.out] at hs
  by_cases hc : k + 1 < L
  ·have h10 : (k : Int) + 1 < 10 := by omega
   have h0 : (n / 2 ^ (7 * (k + 1) - 1) != 0) = true := by rw [bne_iff_ne]; intro h; have := hs.1 (.inl h); omega
   have h1 : (n / 2 ^ (7 * (k + 1) - 1) != -1) = true := by rw [bne_iff_ne]; intro h; have := hs.1 (.inr h); omega
   clear hs
   go_wp2
   go_round
   case rel => exact ⟨k + 1, by go_num, by omega⟩
   case measure => simp [intOf]; omega
  ·have hcases : ((k : Int) + 1 < 10 ∧ (n / 2 ^ (7 * (k + 1) - 1) != 0) = false) ∨ ((k : Int) + 1 < 10 ∧ (n / 2 ^ (7 * (k + 1) - 1) != 0) = true ∧ (n / 2 ^ (7 * (k + 1) - 1) != -1) = false) ∨ ¬ (k : Int) + 1 < 10 := by
    by_cases h10 : (k : Int) + 1 < 10
    ·have := hs.2 (by omega)
     by_cases h0 : n / 2 ^ (7 * (k + 1) - 1) = 0
     ·left; exact ⟨h10, by rw [h0]; rfl⟩
     ·right; left
      have h1 : n / 2 ^ (7 * (k + 1) - 1) = -1 := by omega
      exact ⟨h10, by rw [h1]; rfl, by rw [h1]; rfl⟩
    ·right; right; exact h10
   have hkL : L = k + 1 := by omega
   subst hkL
   clear hs hc
   rcases hcases with ⟨h10, h0⟩ | ⟨h10, h0, h1⟩ | h10
   all_goals
    go_wp2
    go_loopw [4, 28] (fun o i wr => ∃ j : Nat, ∃ O : ByteArray, i = .int .i64 j ∧ o = .string O ∧ j ≤ k + 1 ∧ O.size ≤ 10 ∧ Hid (O = strOfNums ((sB n).take j)) ∧ Below w.heap.size w wr) (fun _ i _ => 10 - (intOf i).toNat)
    case atStart => exact ⟨0, _, rfl, rfl, by omega, by decide, rfl, Below.refl _ _⟩
    case round =>
     obtain ⟨j, O, rfl, rfl, hj, hO, HO, hb⟩ := hrel
     by_cases hlt : j < k + 1
     ·have HT : Hid _ := sB_take_succ j n (by rw [HL.out]; exact hlt)
      have hand := i64_and127 (n / 2 ^ (7 * j))
      have hsz := hb.size
      have hO2 : O.size = j := by rw [HO.out, strOfNums_size, List.length_take, HL.out]; omega
      have HO2 : Hid _ := hO2
      clear hO2
      obtain ⟨d, hd⟩ : ∃ d, n / 2 ^ (7 * j) % 128 = d := ⟨_, rfl⟩
      rw [hd] at hand HT
      have hd0 : 0 ≤ d := by omega
      have hd1 : d < 128 := by omega
      clear hd
      have z1 : ∀ x : Int, (strOfNums [x]).size = 1 := fun x => strOfNums_size [x]
      by_cases hl : (j : Int) < (k : Int)
      ·rw [HL.out, if_pos (by omega)] at HT
       go_wp2_with (go_at_call 28; refine (chr_any _ (by omega) (by omega) _).mono ?_; rintro e w1 ⟨rfl, b1⟩)
       go_roundw
       case rel => exact ⟨j + 1, _, by go_num, rfl, by omega, by rw [ByteArray.size_append, z1, HO2.out]; omega, by unfold Hid; rw [HT.out, ← str_snoc, ← HO.out], hb.trans (b1.mono hsz)⟩
       case measure => simp [intOf]; omega
      ·rw [HL.out, if_neg (by omega), Int.add_zero] at HT
       go_wp2_with (go_at_call 28; refine (chr_any _ (by omega) (by omega) _).mono ?_; rintro e w1 ⟨rfl, b1⟩)
       go_roundw
       case rel => exact ⟨j + 1, _, by go_num, rfl, by omega, by rw [ByteArray.size_append, z1, HO2.out]; omega, by unfold Hid; rw [HT.out, ← str_snoc, ← HO.out], hb.trans (b1.mono hsz)⟩
       case measure => simp [intOf]; omega
     ·go_wp2
      go_ret
      have : (sB n).take j = sB n := List.take_of_length_le (by rw [HL.out]; omega)
      exact ⟨ret_s (by rw [HO.out, this]), hb⟩
end Go.Proofs.YtakpkdckajjooaaGreatDoor
namespace Go.Proofs.YtakpkdckajjooaaGreatDoor
open Go.RowKit
end Go.Proofs.YtakpkdckajjooaaGreatDoor
namespace Go.Proofs.YtakpkdckajjooaaGreatDoor
open Go.RowKit
def sv (c : Int) : List Int → Int
 | [] => -c
 | b :: r => b % 128 + 128 * sv c r
end Go.Proofs.YtakpkdckajjooaaGreatDoor
namespace Go.Proofs.YtakpkdckajjooaaGreatDoor
open Go.RowKit
end Go.Proofs.YtakpkdckajjooaaGreatDoor
namespace Go.Proofs.YtakpkdckajjooaaGreatDoor
open Go.RowKit
end Go.Proofs.YtakpkdckajjooaaGreatDoor
