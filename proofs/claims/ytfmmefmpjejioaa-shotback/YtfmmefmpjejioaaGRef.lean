/-
  What the document's own chr and LebU do.
  What the document's own LebU does: it writes what leb.U writes.
  What the document's own LebS does: it writes what leb.S writes.
  What the document's own span does.
  What the document's own LebReadU does.
  What the document's own LebReadS does.
  What the document's own LebReadU and LebReadS answer, for every text and every number of bits: what leb.ReadU and leb.ReadS answer.
-/
import Derived.Test.YtfmmefmpjejioaaGLeb
import Derived.Laws.Concat
import Derived.WalkSmall
namespace Go.Proofs.Ytfmmefmpjejioaa
open Go.RowKit

theorem chr_conv (w : World) (n : Int) : (convert 61 9 (.slice (some ⟨w.heap.size, 0, none⟩) 1 1)).run Try.prog (w.alloc (.cells #[.int .u8 n] 5)) = .ok (.string (strOfNums [n])) (w.alloc (.cells #[.int .u8 n] 5)) := by
  refine run_convert_bytes_arg _ 61 5 Try.underlying61 Try.underlying5 w.heap.size 0 1 1 [n] rfl ?_ 9 Try.underlying9
  intro i hi
  have : i = 0 := by omega
  subst this
  rw [World.cell?_alloc_at _ _ _ _ rfl]
  rfl

set_option maxHeartbeats 400000 in
theorem chr_any (n : Int) (h0 : 0 ≤ n) (h1 : n < 256) (w : World) :
    Calls Try.prog 63 #[.int .i64 n] w fun e w' => e = .returned (.string (strOfNums [n])) ∧ Below w.heap.size w w' := by
  have hc := chr_conv w n
  go_enter Try.func63, Try.ntmps63
  go_wp2
  go_ret
  exact ⟨rfl, (Below.refl _ _).alloc (Nat.le_refl _) _⟩

end Go.Proofs.Ytfmmefmpjejioaa
namespace Go.Proofs.Ytfmmefmpjejioaa
open Go.RowKit

theorem str_cons (x : Int) (xs : List Int) : strOfNums [x] ++ strOfNums xs = strOfNums (x :: xs) := by
  have : (strOfNums [x] ++ strOfNums xs).data = (strOfNums (x :: xs)).data := by
    rw [ByteArray.data_append]
    simp [strOfNums]
  exact ByteArray.ext this

set_option maxHeartbeats 400000 in
set_option maxRecDepth 1000000 in
theorem refU_any (n : Nat) (hn : n ≤ 18446744073709551615) (w : World) :
    Calls Try.prog 62 #[.int .u64 n] w fun e w' => e = .returned (.string (strOfNums (uB n))) ∧ Below w.heap.size w w' := by
  induction n using Nat.strongRecOn generalizing w with
  | ind n ih =>
    by_cases h : n < 128
    · have HU : Hid _ := uB_lo h
      clear ih
      go_enter Try.func62, Try.ntmps62
      go_wp2_with fail
      refine (chr_any _ (by omega) (by omega) _).mono ?_
      rintro e w1 ⟨rfl, b1⟩
      go_wp2
      go_ret
      rw [HU.out]
      exact ⟨rfl, b1⟩
    · have HU : Hid _ := uB_hi h
      have IH : Hid (∀ w : World, Calls Try.prog 62 #[.int .u64 ((n : Int) / 128)] w fun e w' => e = .returned (.string (strOfNums (uB (n / 128)))) ∧ Below w.heap.size w w') := fun w => ih (n / 128) (by omega) (by omega) w
      have hl : (strOfNums (uB (n / 128))).size ≤ 10 := by rw [strOfNums_size]; exact uB_len64 _ (by omega)
      have hl2 : (strOfNums [(n : Int) % 128 + 128]).size = 1 := by rw [strOfNums_size]; rfl
      clear ih
      go_enter Try.func62, Try.ntmps62
      go_wp2_with fail
      refine (chr_any _ (by omega) (by omega) _).mono ?_
      rintro e w1 ⟨rfl, b1⟩
      go_wp2_with fail
      refine (IH.out _).mono ?_
      rintro e w2 ⟨rfl, b2⟩
      go_wp2
      go_ret
      rw [HU.out, ← str_cons]
      exact ⟨rfl, b1.trans (b2.mono b1.size)⟩

end Go.Proofs.Ytfmmefmpjejioaa
namespace Go.Proofs.Ytfmmefmpjejioaa
open Go.RowKit

theorem sB_len_iff (k : Nat) : ∀ n : Int, (sB n).length ≤ k + 1 ↔ (-(64 * 128 ^ k) ≤ n ∧ n < 64 * 128 ^ k) := by
  induction k with
  | zero =>
    intro n
    by_cases h : -64 ≤ n ∧ n < 64
    · simp [sB_lo h]; omega
    · have := sB_pos (n / 128)
      rw [sB_hi h, List.length_cons]; omega
  | succ k ih =>
    intro n
    rw [Int.pow_succ]
    have hp : (0 : Int) < 128 ^ k := Int.pow_pos (by omega)
    by_cases h : -64 ≤ n ∧ n < 64
    · simp [sB_lo h]; omega
    · rw [sB_hi h, List.length_cons]
      have := ih (n / 128)
      omega
theorem pow_64 (k : Nat) : (2 : Int) ^ (7 * k + 6) = 64 * 128 ^ k := by
  have e : (128 : Int) ^ k = 2 ^ (7 * k) := by exact_mod_cast pow128 k
  rw [e, Int.pow_add, Int.mul_comm]; rfl
theorem shr_small (n : Int) (k : Nat) : (n / 2 ^ (7 * k + 6) = 0 ∨ n / 2 ^ (7 * k + 6) = -1) ↔ (sB n).length ≤ k + 1 := by
  rw [sB_len_iff, ← pow_64]
  have hp : (0 : Int) < 2 ^ (7 * k + 6) := Int.pow_pos (by omega)
  have e := Int.emod_add_mul_ediv n (2 ^ (7 * k + 6))
  have e1 := Int.emod_nonneg n (show (2 : Int) ^ (7 * k + 6) ≠ 0 by omega)
  have e2 := Int.emod_lt_of_pos n hp
  constructor
  · rintro (h | h) <;> rw [h] at e <;> omega
  · rintro ⟨h1, h2⟩
    by_cases h : 0 ≤ n
    · left; exact Int.ediv_eq_zero_of_lt h h2
    · right
      have a1 : n / 2 ^ (7 * k + 6) < 0 := Int.ediv_neg_of_neg_of_pos (by omega) hp
      have a2 : -1 ≤ n / 2 ^ (7 * k + 6) := Int.le_ediv_of_mul_le hp (by omega)
      omega

theorem sB_take_succ (j : Nat) : ∀ n : Int, j < (sB n).length → (sB n).take (j + 1) = (sB n).take j ++ [n / 2 ^ (7 * j) % 128 + (if j + 1 < (sB n).length then 128 else 0)] := by
  induction j with
  | zero =>
    intro n _
    by_cases h : -64 ≤ n ∧ n < 64
    · simp [sB_lo h]
    · have := sB_pos (n / 128)
      rw [sB_hi h, List.length_cons, if_pos (by omega)]
      simp
  | succ j ih =>
    intro n hj
    by_cases h : -64 ≤ n ∧ n < 64
    · rw [sB_lo h] at hj; simp at hj
    · rw [sB_hi h, List.length_cons] at hj ⊢
      have := ih (n / 128) (by omega)
      have e : n / 128 / 2 ^ (7 * j) = n / 2 ^ (7 * (j + 1)) := by
        rw [Int.ediv_ediv_of_nonneg (by omega)]
        congr 1
        rw [show 7 * (j + 1) = 7 + 7 * j from by omega, Int.pow_add]; rfl
      rw [e] at this
      rw [List.take_succ_cons, this, List.take_succ_cons, List.cons_append]
      congr 4
      by_cases h' : j + 1 < (sB (n / 128)).length
      · rw [if_pos h', if_pos (by omega)]
      · rw [if_neg h', if_neg (by omega)]
theorem str_snoc (xs : List Int) (x : Int) : strOfNums xs ++ strOfNums [x] = strOfNums (xs ++ [x]) := by
  have : (strOfNums xs ++ strOfNums [x]).data = (strOfNums (xs ++ [x])).data := by
    rw [ByteArray.data_append]
    simp [strOfNums]
  exact ByteArray.ext this
theorem ret_s {a b : ByteArray} (h : a = b) : Ending.returned (.string a) = .returned (.string b) := by rw [h]

set_option maxHeartbeats 1000000 in
set_option maxRecDepth 1000000 in
theorem refS_any (n : Int) (hn1 : -9223372036854775808 ≤ n) (hn2 : n ≤ 9223372036854775807) (w : World) :
    Calls Try.prog 43 #[.int .i64 n] w fun e w' => e = .returned (.string (strOfNums (sB n))) ∧ Below w.heap.size w w' := by
  obtain ⟨L, hL⟩ : ∃ L, (sB n).length = L := ⟨_, rfl⟩
  have hL1 : 1 ≤ L := by rw [← hL]; exact sB_pos n
  have hL2 : L ≤ 10 := by rw [← hL]; exact sB_len64 n hn1 hn2
  have HL : Hid _ := hL
  clear hL
  go_enter Try.func43, Try.ntmps43
  go_wp2
  go_loop [3] (fun t => ∃ k : Nat, t = .int .i64 ((k : Int) + 1) ∧ k + 1 ≤ L) (fun t => 10 - (intOf t).toNat)
  case atStart => exact ⟨0, rfl, by omega⟩
  case round =>
    obtain ⟨k, rfl, hk⟩ := hrel
    have hs := shr_small n k
    rw [show 7 * k + 6 = 7 * (k + 1) - 1 from by omega, HL.out] at hs
    by_cases hc : k + 1 < L
    · have h10 : (k : Int) + 1 < 10 := by omega
      have h0 : (n / 2 ^ (7 * (k + 1) - 1) != 0) = true := by rw [bne_iff_ne]; intro h; have := hs.1 (.inl h); omega
      have h1 : (n / 2 ^ (7 * (k + 1) - 1) != -1) = true := by rw [bne_iff_ne]; intro h; have := hs.1 (.inr h); omega
      clear hs
      go_wp2
      go_round
      case rel => exact ⟨k + 1, by go_num, by omega⟩
      case measure => simp [intOf]; omega
    · have hcases : ((k : Int) + 1 < 10 ∧ (n / 2 ^ (7 * (k + 1) - 1) != 0) = false) ∨ ((k : Int) + 1 < 10 ∧ (n / 2 ^ (7 * (k + 1) - 1) != 0) = true ∧ (n / 2 ^ (7 * (k + 1) - 1) != -1) = false) ∨ ¬ (k : Int) + 1 < 10 := by
        by_cases h10 : (k : Int) + 1 < 10
        · have := hs.2 (by omega)
          by_cases h0 : n / 2 ^ (7 * (k + 1) - 1) = 0
          · left; exact ⟨h10, by rw [h0]; rfl⟩
          · right; left
            have h1 : n / 2 ^ (7 * (k + 1) - 1) = -1 := by omega
            exact ⟨h10, by rw [h1]; rfl, by rw [h1]; rfl⟩
        · right; right; exact h10
      have hkL : L = k + 1 := by omega
      subst hkL
      clear hs hc
      rcases hcases with ⟨h10, h0⟩ | ⟨h10, h0, h1⟩ | h10
      all_goals
        go_wp2
        go_loopw [4, 28] (fun o i wr => ∃ j : Nat, ∃ O : ByteArray, i = .int .i64 j ∧ o = .string O ∧ j ≤ k + 1 ∧ O.size ≤ 10 ∧ Hid (O = strOfNums ((sB n).take j)) ∧ Below w.heap.size w wr) (fun _ i _ => 10 - (intOf i).toNat)
        case atStart => exact ⟨0, _, rfl, rfl, by omega, by decide, rfl, Below.refl _ _⟩
        case round =>
          obtain ⟨j, O, rfl, rfl, hj, hO, HO, hb⟩ := hrel
          by_cases hlt : j < k + 1
          · have HT : Hid _ := sB_take_succ j n (by rw [HL.out]; exact hlt)
            have hand := i64_and127 (n / 2 ^ (7 * j))
            have hsz := hb.size
            have hO2 : O.size = j := by rw [HO.out, strOfNums_size, List.length_take, HL.out]; omega
            have HO2 : Hid _ := hO2
            clear hO2
            obtain ⟨d, hd⟩ : ∃ d, n / 2 ^ (7 * j) % 128 = d := ⟨_, rfl⟩
            rw [hd] at hand HT
            have hd0 : 0 ≤ d := by omega
            have hd1 : d < 128 := by omega
            clear hd
            have z1 : ∀ x : Int, (strOfNums [x]).size = 1 := fun x => strOfNums_size [x]
            by_cases hl : (j : Int) < (k : Int)
            · rw [HL.out, if_pos (by omega)] at HT
              go_wp2_with (go_at_call 63; refine (chr_any _ (by omega) (by omega) _).mono ?_; rintro e w1 ⟨rfl, b1⟩)
              go_roundw
              case rel => exact ⟨j + 1, _, by go_num, rfl, by omega, by rw [ByteArray.size_append, z1, HO2.out]; omega, by unfold Hid; rw [HT.out, ← str_snoc, ← HO.out], hb.trans (b1.mono hsz)⟩
              case measure => simp [intOf]; omega
            · rw [HL.out, if_neg (by omega), Int.add_zero] at HT
              go_wp2_with (go_at_call 63; refine (chr_any _ (by omega) (by omega) _).mono ?_; rintro e w1 ⟨rfl, b1⟩)
              go_roundw
              case rel => exact ⟨j + 1, _, by go_num, rfl, by omega, by rw [ByteArray.size_append, z1, HO2.out]; omega, by unfold Hid; rw [HT.out, ← str_snoc, ← HO.out], hb.trans (b1.mono hsz)⟩
              case measure => simp [intOf]; omega
          · go_wp2
            go_ret
            have : (sB n).take j = sB n := List.take_of_length_le (by rw [HL.out]; omega)
            exact ⟨ret_s (by rw [HO.out, this]), hb⟩

end Go.Proofs.Ytfmmefmpjejioaa
namespace Go.Proofs.Ytfmmefmpjejioaa
open Go.RowKit

set_option maxHeartbeats 400000 in
set_option maxRecDepth 100000 in
theorem span_form32 (s : ByteArray) (hs : s.size ≤ maxLen) (hK : 5 ≤ s.size) (hall : ∀ i (h : i < s.size), i < 5 → 127 < (s[i].toNat : Int)) (w : World) :
    Calls Try.prog 61 #[.string s, .int .i64 32] w fun e w' => e = .returned (.tuple #[.int .i64 0, .int .i64 0, .int .i64 4]) ∧ w' = w := by
  unfold maxLen at hs
  go_enter Try.func61, Try.ntmps61
  go_wp2
  go_loop [8] (fun t => ∃ k : Nat, t = .int .i64 k ∧ k ≤ 5) (fun t => 5 - (intOf t).toNat)
  case atStart => exact ⟨0, rfl, by omega⟩
  case round =>
    obtain ⟨k, rfl, hk⟩ := hrel
    by_cases hc : k < 5
    · have hg := hall k (by omega) hc
      have hks : k < s.size := by omega
      clear hall
      go_wp2
      go_round
      case rel => exact ⟨k + 1, by go_num, by omega⟩
      case measure => simp [intOf]; omega
    · have hkK : k = 5 := by omega
      subst hkK
      clear hall
      go_wp2
      go_ret3
      exact ⟨rfl, rfl⟩

set_option maxHeartbeats 400000 in
set_option maxRecDepth 100000 in
theorem span_short32 (s : ByteArray) (hs : s.size ≤ maxLen) (hK : s.size < 5) (hall : ∀ i (h : i < s.size), 127 < (s[i].toNat : Int)) (w : World) :
    Calls Try.prog 61 #[.string s, .int .i64 32] w fun e w' => e = .returned (.tuple #[.int .i64 0, .int .i64 0, .int .i64 3]) ∧ w' = w := by
  unfold maxLen at hs
  go_enter Try.func61, Try.ntmps61
  go_wp2
  go_loop [8] (fun t => ∃ k : Nat, t = .int .i64 k ∧ k ≤ s.size) (fun t => s.size - (intOf t).toNat)
  case atStart => exact ⟨0, rfl, by omega⟩
  case round =>
    obtain ⟨k, rfl, hk⟩ := hrel
    by_cases hc : k < s.size
    · have hg := hall k hc
      have hks : k < s.size := by omega
      clear hall
      go_wp2
      go_round
      case rel => exact ⟨k + 1, by go_num, by omega⟩
      case measure => simp [intOf]; omega
    · have hkK : k = s.size := by omega
      subst hkK
      clear hall
      go_wp2
      go_ret3
      exact ⟨rfl, rfl⟩

set_option maxHeartbeats 400000 in
set_option maxRecDepth 100000 in
theorem span_good32 (s : ByteArray) (_hs : s.size ≤ maxLen) (K : Nat) (hK : K < 5) (hKs : K < s.size) (hall : ∀ i (h : i < s.size), i < K → 127 < (s[i].toNat : Int)) (hlast : ¬ 127 < (s[K].toNat : Int)) (w : World) :
    Calls Try.prog 61 #[.string s, .int .i64 32] w fun e w' => e = .returned (.tuple #[.int .i64 ((K : Int) + 1), .int .i64 5, .int .i64 0]) ∧ w' = w := by
  unfold maxLen at _hs
  go_enter Try.func61, Try.ntmps61
  go_wp2
  go_loop [8] (fun t => ∃ k : Nat, t = .int .i64 k ∧ k ≤ K) (fun t => K - (intOf t).toNat)
  case atStart => exact ⟨0, rfl, by omega⟩
  case round =>
    obtain ⟨k, rfl, hk⟩ := hrel
    by_cases hc : k < K
    · have hg := hall k (by omega) hc
      have hks : k < s.size := by omega
      clear hall
      go_wp2
      go_round
      case rel => exact ⟨k + 1, by go_num, by omega⟩
      case measure => simp [intOf]; omega
    · have hkK : k = K := by omega
      subst hkK
      clear hall
      go_wp2
      go_ret3
      exact ⟨rfl, rfl⟩

set_option maxHeartbeats 400000 in
set_option maxRecDepth 100000 in
theorem span_form64 (s : ByteArray) (hs : s.size ≤ maxLen) (hK : 10 ≤ s.size) (hall : ∀ i (h : i < s.size), i < 10 → 127 < (s[i].toNat : Int)) (w : World) :
    Calls Try.prog 61 #[.string s, .int .i64 64] w fun e w' => e = .returned (.tuple #[.int .i64 0, .int .i64 0, .int .i64 4]) ∧ w' = w := by
  unfold maxLen at hs
  go_enter Try.func61, Try.ntmps61
  go_wp2
  go_loop [8] (fun t => ∃ k : Nat, t = .int .i64 k ∧ k ≤ 10) (fun t => 10 - (intOf t).toNat)
  case atStart => exact ⟨0, rfl, by omega⟩
  case round =>
    obtain ⟨k, rfl, hk⟩ := hrel
    by_cases hc : k < 10
    · have hg := hall k (by omega) hc
      have hks : k < s.size := by omega
      clear hall
      go_wp2
      go_round
      case rel => exact ⟨k + 1, by go_num, by omega⟩
      case measure => simp [intOf]; omega
    · have hkK : k = 10 := by omega
      subst hkK
      clear hall
      go_wp2
      go_ret3
      exact ⟨rfl, rfl⟩

set_option maxHeartbeats 400000 in
set_option maxRecDepth 100000 in
theorem span_short64 (s : ByteArray) (hs : s.size ≤ maxLen) (hK : s.size < 10) (hall : ∀ i (h : i < s.size), 127 < (s[i].toNat : Int)) (w : World) :
    Calls Try.prog 61 #[.string s, .int .i64 64] w fun e w' => e = .returned (.tuple #[.int .i64 0, .int .i64 0, .int .i64 3]) ∧ w' = w := by
  unfold maxLen at hs
  go_enter Try.func61, Try.ntmps61
  go_wp2
  go_loop [8] (fun t => ∃ k : Nat, t = .int .i64 k ∧ k ≤ s.size) (fun t => s.size - (intOf t).toNat)
  case atStart => exact ⟨0, rfl, by omega⟩
  case round =>
    obtain ⟨k, rfl, hk⟩ := hrel
    by_cases hc : k < s.size
    · have hg := hall k hc
      have hks : k < s.size := by omega
      clear hall
      go_wp2
      go_round
      case rel => exact ⟨k + 1, by go_num, by omega⟩
      case measure => simp [intOf]; omega
    · have hkK : k = s.size := by omega
      subst hkK
      clear hall
      go_wp2
      go_ret3
      exact ⟨rfl, rfl⟩

set_option maxHeartbeats 400000 in
set_option maxRecDepth 100000 in
theorem span_good64 (s : ByteArray) (_hs : s.size ≤ maxLen) (K : Nat) (hK : K < 10) (hKs : K < s.size) (hall : ∀ i (h : i < s.size), i < K → 127 < (s[i].toNat : Int)) (hlast : ¬ 127 < (s[K].toNat : Int)) (w : World) :
    Calls Try.prog 61 #[.string s, .int .i64 64] w fun e w' => e = .returned (.tuple #[.int .i64 ((K : Int) + 1), .int .i64 10, .int .i64 0]) ∧ w' = w := by
  unfold maxLen at _hs
  go_enter Try.func61, Try.ntmps61
  go_wp2
  go_loop [8] (fun t => ∃ k : Nat, t = .int .i64 k ∧ k ≤ K) (fun t => K - (intOf t).toNat)
  case atStart => exact ⟨0, rfl, by omega⟩
  case round =>
    obtain ⟨k, rfl, hk⟩ := hrel
    by_cases hc : k < K
    · have hg := hall k (by omega) hc
      have hks : k < s.size := by omega
      clear hall
      go_wp2
      go_round
      case rel => exact ⟨k + 1, by go_num, by omega⟩
      case measure => simp [intOf]; omega
    · have hkK : k = K := by omega
      subst hkK
      clear hall
      go_wp2
      go_ret3
      exact ⟨rfl, rfl⟩

set_option maxHeartbeats 400000 in
theorem span_bad (s : ByteArray) (B : Int) (h1 : (B != 32) = true) (h2 : (B != 64) = true) (w : World) :
    Calls Try.prog 61 #[.string s, .int .i64 B] w fun e w' => e = .returned (.tuple #[.int .i64 0, .int .i64 0, .int .i64 1]) ∧ w' = w := by
  have h3 : (B == 64) = false := by simpa using h2
  go_enter Try.func61, Try.ntmps61
  go_wp2
  go_ret3
  exact ⟨rfl, rfl⟩

end Go.Proofs.Ytfmmefmpjejioaa
namespace Go.Proofs.Ytfmmefmpjejioaa
open Go.RowKit

/-- What bytes stand for, seven bits each, less c times what is one too many. -/
def sv (c : Int) : List Int → Int
  | [] => -c
  | b :: r => b % 128 + 128 * sv c r
theorem sv_zero : ∀ l : List Int, sv 0 l = val l
  | [] => rfl
  | b :: r => by rw [sv, val, sv_zero r]
theorem sv_val (c : Int) : ∀ l : List Int, sv c l = val l - c * 128 ^ l.length
  | [] => by simp [sv, val]
  | b :: r => by
    rw [sv, val, sv_val c r, List.length_cons, Int.pow_succ, Int.mul_sub, Int.mul_comm (128 ^ r.length) 128, ← Int.mul_assoc c 128, Int.mul_comm c 128, Int.mul_assoc 128 c]
    omega
theorem sv_le (l : List Int) (j : Nat) : val (l.drop j) ≤ val l := by
  induction l generalizing j with
  | nil => simp
  | cons b r ih =>
    cases j with
    | zero => simp
    | succ j =>
      have := ih j
      have h0 := (val_bound r).1
      rw [List.drop_succ_cons, val]
      omega
theorem sv_in (c : Int) (l : List Int) (j : Nat) (h1 : -9223372036854775808 ≤ sv c l) (h2 : sv c l ≤ 9223372036854775807) : -9223372036854775808 ≤ sv c (l.drop j) ∧ sv c (l.drop j) ≤ 9223372036854775807 := by
  induction l generalizing j with
  | nil => simp at *; omega
  | cons b r ih =>
    cases j with
    | zero => simp; omega
    | succ j =>
      rw [List.drop_succ_cons]
      rw [sv] at h1 h2
      exact ih j (by omega) (by omega)
theorem take_drop (s : ByteArray) (K j : Nat) (hj : j ≤ K) (hK : K < s.size) : ((nums s).take (K + 1)).drop j = (s[j].toNat : Int) :: ((nums s).take (K + 1)).drop (j + 1) := by
  have hl : j < ((nums s).take (K + 1)).length := by rw [List.length_take, nums_length]; omega
  rw [List.drop_eq_getElem_cons hl, List.getElem_take]
  congr 1
  simp only [nums, List.getElem_map]
  rfl

set_option maxHeartbeats 400000 in
theorem refReadU_err32 (s : ByteArray) (e : Int) (he : (e != 0) = true) (H : Hid (∀ w, Calls Try.prog 61 #[.string s, .int .i64 32] w fun e' w' => e' = .returned (.tuple #[.int .i64 0, .int .i64 0, .int .i64 e]) ∧ w' = w)) (w : World) :
    Calls Try.prog 39 #[.string s, .int .i64 32] w fun e' w' => e' = .returned (.tuple #[.int .u64 0, .int .i64 0, .int .i64 e]) ∧ Below w.heap.size w w' := by
  go_enter Try.func39, Try.ntmps39
  go_wp2_with (go_at_call 61; refine (H.out _).mono ?_; rintro e' w' ⟨rfl, rfl⟩)
  go_ret3
  exact ⟨rfl, Below.refl _ _⟩

set_option maxHeartbeats 1000000 in
set_option maxRecDepth 100000 in
theorem refReadU_good32 (s : ByteArray) (K : Nat) (hK : K < 5) (hKs : K < s.size) (N : Int) (hN1 : N ≤ 18446744073709551615) (HN : Hid (val ((nums s).take (K + 1)) = N)) (hfit : K = 4 → (s[K].toNat : Int) < 16)
    (H : Hid (∀ w, Calls Try.prog 61 #[.string s, .int .i64 32] w fun e' w' => e' = .returned (.tuple #[.int .i64 ((K : Int) + 1), .int .i64 5, .int .i64 0]) ∧ w' = w)) (w : World) :
    Calls Try.prog 39 #[.string s, .int .i64 32] w fun e' w' => e' = .returned (.tuple #[.int .u64 N, .int .i64 ((K : Int) + 1), .int .i64 0]) ∧ Below w.heap.size w w' := by
  by_cases hk : K = 4
  · have hb := hfit hk
    clear hfit
    subst hk
    have hin : (4 : Int) < (s.size : Int) := by omega
    go_enter Try.func39, Try.ntmps39
    go_wp2_with (go_at_call 61; refine (H.out _).mono ?_; rintro e' w' ⟨rfl, rfl⟩)
    go_quiet (fail)
    go_wp2
    go_loop [10, 11] (fun t i => ∃ j : Nat, ∃ v : Int, i = .int .i64 ((j : Int) - 1) ∧ t = .int .u64 v ∧ j ≤ 5 ∧ 0 ≤ v ∧ Hid (val (((nums s).take (5)).drop j) = v)) (fun _ i => (intOf i + 1).toNat)
    case atStart => exact ⟨5, 0, by go_num, rfl, Nat.le_refl _, by omega, by unfold Hid; rw [List.drop_eq_nil_of_le (by rw [List.length_take]; omega)]; rfl⟩
    case round =>
      obtain ⟨j, v, rfl, rfl, hj, hv0, HV⟩ := hrel
      cases j with
      | zero =>
        have HE : Hid (v = N) := by unfold Hid; rw [← HV.out, List.drop_zero]; exact HN.out
        clear HV
        go_wp2
        go_ret3
        exact ⟨ret_3 HE.out (by omega) rfl, below_drewN (Below.refl _ _) nq⟩
      | succ j =>
        have e : (((j + 1 : Nat) : Int) - 1) = (j : Int) := by omega
        rw [e]
        have hjs : j < s.size := by omega
        have hd := take_drop s 4 j (by omega) hKs
        have hle := sv_le ((nums s).take (5)) j
        rw [HN.out, hd, val, HV.out] at hle
        have hbd : v * 128 + (s[j].toNat : Int) % 128 ≤ 18446744073709551615 := by omega
        have HNew : Hid (val (((nums s).take (5)).drop j) = v * 128 + (s[j].toNat : Int) % 128) := by unfold Hid; rw [hd, val, HV.out]; omega
        have hb8 : s[j].toNat < 256 := s[j].toNat_lt
        clear hd hle HV e
        go_wp2
        go_round
        case rel => exact ⟨j, _, rfl, rfl, by omega, by omega, HNew⟩
        case measure => simp [intOf]

  · have hkk : (((K : Int) + 1) == 5) = false := by rw [beq_eq_false_iff_ne]; omega
    clear hfit
    go_enter Try.func39, Try.ntmps39
    go_wp2_with (go_at_call 61; refine (H.out _).mono ?_; rintro e' w' ⟨rfl, rfl⟩)
    go_quiet (fail)
    go_wp2
    go_loop [10, 11] (fun t i => ∃ j : Nat, ∃ v : Int, i = .int .i64 ((j : Int) - 1) ∧ t = .int .u64 v ∧ j ≤ K + 1 ∧ 0 ≤ v ∧ Hid (val (((nums s).take (K + 1)).drop j) = v)) (fun _ i => (intOf i + 1).toNat)
    case atStart => exact ⟨K + 1, 0, by go_num, rfl, Nat.le_refl _, by omega, by unfold Hid; rw [List.drop_eq_nil_of_le (by rw [List.length_take]; omega)]; rfl⟩
    case round =>
      obtain ⟨j, v, rfl, rfl, hj, hv0, HV⟩ := hrel
      cases j with
      | zero =>
        have HE : Hid (v = N) := by unfold Hid; rw [← HV.out, List.drop_zero]; exact HN.out
        clear HV
        go_wp2
        go_ret3
        exact ⟨ret_3 HE.out (by omega) rfl, below_drewN (Below.refl _ _) nq⟩
      | succ j =>
        have e : (((j + 1 : Nat) : Int) - 1) = (j : Int) := by omega
        rw [e]
        have hjs : j < s.size := by omega
        have hd := take_drop s K j (by omega) hKs
        have hle := sv_le ((nums s).take (K + 1)) j
        rw [HN.out, hd, val, HV.out] at hle
        have hbd : v * 128 + (s[j].toNat : Int) % 128 ≤ 18446744073709551615 := by omega
        have HNew : Hid (val (((nums s).take (K + 1)).drop j) = v * 128 + (s[j].toNat : Int) % 128) := by unfold Hid; rw [hd, val, HV.out]; omega
        have hb8 : s[j].toNat < 256 := s[j].toNat_lt
        clear hd hle HV e
        go_wp2
        go_round
        case rel => exact ⟨j, _, rfl, rfl, by omega, by omega, HNew⟩
        case measure => simp [intOf]

set_option maxHeartbeats 400000 in
set_option maxRecDepth 100000 in
theorem refReadU_form32 (s : ByteArray) (hKs : 4 < s.size) (hfit : (16 : Int) ≤ (s[4].toNat : Int))
    (H : Hid (∀ w, Calls Try.prog 61 #[.string s, .int .i64 32] w fun e' w' => e' = .returned (.tuple #[.int .i64 5, .int .i64 5, .int .i64 0]) ∧ w' = w)) (w : World) :
    Calls Try.prog 39 #[.string s, .int .i64 32] w fun e' w' => e' = .returned (.tuple #[.int .u64 0, .int .i64 0, .int .i64 4]) ∧ Below w.heap.size w w' := by
  have hin : (4 : Int) < (s.size : Int) := by omega
  have hb8 : s[4].toNat < 256 := s[4].toNat_lt
  go_enter Try.func39, Try.ntmps39
  go_wp2_with (go_at_call 61; refine (H.out _).mono ?_; rintro e' w' ⟨rfl, rfl⟩)
  go_quiet (fail)
  go_wp2
  go_ret3
  exact ⟨rfl, below_drewN (Below.refl _ _) nq⟩

set_option maxHeartbeats 400000 in
theorem refReadU_err64 (s : ByteArray) (e : Int) (he : (e != 0) = true) (H : Hid (∀ w, Calls Try.prog 61 #[.string s, .int .i64 64] w fun e' w' => e' = .returned (.tuple #[.int .i64 0, .int .i64 0, .int .i64 e]) ∧ w' = w)) (w : World) :
    Calls Try.prog 39 #[.string s, .int .i64 64] w fun e' w' => e' = .returned (.tuple #[.int .u64 0, .int .i64 0, .int .i64 e]) ∧ Below w.heap.size w w' := by
  go_enter Try.func39, Try.ntmps39
  go_wp2_with (go_at_call 61; refine (H.out _).mono ?_; rintro e' w' ⟨rfl, rfl⟩)
  go_ret3
  exact ⟨rfl, Below.refl _ _⟩

set_option maxHeartbeats 1000000 in
set_option maxRecDepth 100000 in
theorem refReadU_good64 (s : ByteArray) (K : Nat) (hK : K < 10) (hKs : K < s.size) (N : Int) (hN1 : N ≤ 18446744073709551615) (HN : Hid (val ((nums s).take (K + 1)) = N)) (hfit : K = 9 → (s[K].toNat : Int) < 2)
    (H : Hid (∀ w, Calls Try.prog 61 #[.string s, .int .i64 64] w fun e' w' => e' = .returned (.tuple #[.int .i64 ((K : Int) + 1), .int .i64 10, .int .i64 0]) ∧ w' = w)) (w : World) :
    Calls Try.prog 39 #[.string s, .int .i64 64] w fun e' w' => e' = .returned (.tuple #[.int .u64 N, .int .i64 ((K : Int) + 1), .int .i64 0]) ∧ Below w.heap.size w w' := by
  by_cases hk : K = 9
  · have hb := hfit hk
    clear hfit
    subst hk
    have hin : (9 : Int) < (s.size : Int) := by omega
    go_enter Try.func39, Try.ntmps39
    go_wp2_with (go_at_call 61; refine (H.out _).mono ?_; rintro e' w' ⟨rfl, rfl⟩)
    go_quiet (fail)
    go_wp2
    go_loop [10, 11] (fun t i => ∃ j : Nat, ∃ v : Int, i = .int .i64 ((j : Int) - 1) ∧ t = .int .u64 v ∧ j ≤ 10 ∧ 0 ≤ v ∧ Hid (val (((nums s).take (10)).drop j) = v)) (fun _ i => (intOf i + 1).toNat)
    case atStart => exact ⟨10, 0, by go_num, rfl, Nat.le_refl _, by omega, by unfold Hid; rw [List.drop_eq_nil_of_le (by rw [List.length_take]; omega)]; rfl⟩
    case round =>
      obtain ⟨j, v, rfl, rfl, hj, hv0, HV⟩ := hrel
      cases j with
      | zero =>
        have HE : Hid (v = N) := by unfold Hid; rw [← HV.out, List.drop_zero]; exact HN.out
        clear HV
        go_wp2
        go_ret3
        exact ⟨ret_3 HE.out (by omega) rfl, below_drewN (Below.refl _ _) nq⟩
      | succ j =>
        have e : (((j + 1 : Nat) : Int) - 1) = (j : Int) := by omega
        rw [e]
        have hjs : j < s.size := by omega
        have hd := take_drop s 9 j (by omega) hKs
        have hle := sv_le ((nums s).take (10)) j
        rw [HN.out, hd, val, HV.out] at hle
        have hbd : v * 128 + (s[j].toNat : Int) % 128 ≤ 18446744073709551615 := by omega
        have HNew : Hid (val (((nums s).take (10)).drop j) = v * 128 + (s[j].toNat : Int) % 128) := by unfold Hid; rw [hd, val, HV.out]; omega
        have hb8 : s[j].toNat < 256 := s[j].toNat_lt
        clear hd hle HV e
        go_wp2
        go_round
        case rel => exact ⟨j, _, rfl, rfl, by omega, by omega, HNew⟩
        case measure => simp [intOf]

  · have hkk : (((K : Int) + 1) == 10) = false := by rw [beq_eq_false_iff_ne]; omega
    clear hfit
    go_enter Try.func39, Try.ntmps39
    go_wp2_with (go_at_call 61; refine (H.out _).mono ?_; rintro e' w' ⟨rfl, rfl⟩)
    go_quiet (fail)
    go_wp2
    go_loop [10, 11] (fun t i => ∃ j : Nat, ∃ v : Int, i = .int .i64 ((j : Int) - 1) ∧ t = .int .u64 v ∧ j ≤ K + 1 ∧ 0 ≤ v ∧ Hid (val (((nums s).take (K + 1)).drop j) = v)) (fun _ i => (intOf i + 1).toNat)
    case atStart => exact ⟨K + 1, 0, by go_num, rfl, Nat.le_refl _, by omega, by unfold Hid; rw [List.drop_eq_nil_of_le (by rw [List.length_take]; omega)]; rfl⟩
    case round =>
      obtain ⟨j, v, rfl, rfl, hj, hv0, HV⟩ := hrel
      cases j with
      | zero =>
        have HE : Hid (v = N) := by unfold Hid; rw [← HV.out, List.drop_zero]; exact HN.out
        clear HV
        go_wp2
        go_ret3
        exact ⟨ret_3 HE.out (by omega) rfl, below_drewN (Below.refl _ _) nq⟩
      | succ j =>
        have e : (((j + 1 : Nat) : Int) - 1) = (j : Int) := by omega
        rw [e]
        have hjs : j < s.size := by omega
        have hd := take_drop s K j (by omega) hKs
        have hle := sv_le ((nums s).take (K + 1)) j
        rw [HN.out, hd, val, HV.out] at hle
        have hbd : v * 128 + (s[j].toNat : Int) % 128 ≤ 18446744073709551615 := by omega
        have HNew : Hid (val (((nums s).take (K + 1)).drop j) = v * 128 + (s[j].toNat : Int) % 128) := by unfold Hid; rw [hd, val, HV.out]; omega
        have hb8 : s[j].toNat < 256 := s[j].toNat_lt
        clear hd hle HV e
        go_wp2
        go_round
        case rel => exact ⟨j, _, rfl, rfl, by omega, by omega, HNew⟩
        case measure => simp [intOf]

set_option maxHeartbeats 400000 in
set_option maxRecDepth 100000 in
theorem refReadU_form64 (s : ByteArray) (hKs : 9 < s.size) (hfit : (2 : Int) ≤ (s[9].toNat : Int))
    (H : Hid (∀ w, Calls Try.prog 61 #[.string s, .int .i64 64] w fun e' w' => e' = .returned (.tuple #[.int .i64 10, .int .i64 10, .int .i64 0]) ∧ w' = w)) (w : World) :
    Calls Try.prog 39 #[.string s, .int .i64 64] w fun e' w' => e' = .returned (.tuple #[.int .u64 0, .int .i64 0, .int .i64 4]) ∧ Below w.heap.size w w' := by
  have hin : (9 : Int) < (s.size : Int) := by omega
  have hb8 : s[9].toNat < 256 := s[9].toNat_lt
  go_enter Try.func39, Try.ntmps39
  go_wp2_with (go_at_call 61; refine (H.out _).mono ?_; rintro e' w' ⟨rfl, rfl⟩)
  go_quiet (fail)
  go_wp2
  go_ret3
  exact ⟨rfl, below_drewN (Below.refl _ _) nq⟩

end Go.Proofs.Ytfmmefmpjejioaa
namespace Go.Proofs.Ytfmmefmpjejioaa
open Go.RowKit

set_option maxHeartbeats 400000 in
theorem refReadS_err32 (s : ByteArray) (e : Int) (he : (e != 0) = true) (H : Hid (∀ w, Calls Try.prog 61 #[.string s, .int .i64 32] w fun e' w' => e' = .returned (.tuple #[.int .i64 0, .int .i64 0, .int .i64 e]) ∧ w' = w)) (w : World) :
    Calls Try.prog 38 #[.string s, .int .i64 32] w fun e' w' => e' = .returned (.tuple #[.int .i64 0, .int .i64 0, .int .i64 e]) ∧ Below w.heap.size w w' := by
  go_enter Try.func38, Try.ntmps38
  go_wp2_with (go_at_call 61; refine (H.out _).mono ?_; rintro e' w' ⟨rfl, rfl⟩)
  go_ret3
  exact ⟨rfl, Below.refl _ _⟩

set_option maxHeartbeats 1000000 in
set_option maxRecDepth 100000 in
theorem refReadS_good32c0 (s : ByteArray) (K : Nat) (hK : K < 5) (hKs : K < s.size) (N : Int) (hN0 : -9223372036854775808 ≤ N) (hN1 : N ≤ 9223372036854775807) (HN : Hid (sv 0 ((nums s).take (K + 1)) = N)) (hc : (s[K].toNat : Int) < 64) (hfit : K = 4 → (s[K].toNat : Int) < 8)
    (H : Hid (∀ w, Calls Try.prog 61 #[.string s, .int .i64 32] w fun e' w' => e' = .returned (.tuple #[.int .i64 ((K : Int) + 1), .int .i64 5, .int .i64 0]) ∧ w' = w)) (w : World) :
    Calls Try.prog 38 #[.string s, .int .i64 32] w fun e' w' => e' = .returned (.tuple #[.int .i64 N, .int .i64 ((K : Int) + 1), .int .i64 0]) ∧ Below w.heap.size w w' := by
  have hbase : sv 0 (((nums s).take (K + 1)).drop K) = (s[K].toNat : Int) - 128 * 0 := by
    rw [take_drop s K K (Nat.le_refl _) hKs, List.drop_eq_nil_of_le (by rw [List.length_take]; omega), sv, sv]; omega
  by_cases hk : K = 4
  · have hb := hfit hk
    clear hfit
    subst hk
    have hin : (4 : Int) < (s.size : Int) := by omega
    go_enter Try.func38, Try.ntmps38
    go_wp2_with (go_at_call 61; refine (H.out _).mono ?_; rintro e' w' ⟨rfl, rfl⟩)
    go_loop [10, 12] (fun t i => ∃ j : Nat, ∃ v : Int, i = .int .i64 ((j : Int) - 1) ∧ t = .int .i64 v ∧ j ≤ 4 ∧ -9223372036854775808 ≤ v ∧ v ≤ 9223372036854775807 ∧ Hid (sv 0 (((nums s).take (5)).drop j) = v)) (fun _ i => (intOf i + 1).toNat)
    case atStart => exact ⟨4, _, by go_num, rfl, Nat.le_refl _, by omega, by omega, by unfold Hid; rw [hbase]; omega⟩
    case round =>
      obtain ⟨j, v, rfl, rfl, hj, hv0, hv1, HV⟩ := hrel
      cases j with
      | zero =>
        have HE : Hid (v = N) := by unfold Hid; rw [← HV.out, List.drop_zero]; exact HN.out
        clear HV
        go_wp2
        go_ret3
        exact ⟨ret_3 HE.out (by omega) rfl, Below.refl _ _⟩
      | succ j =>
        have e : (((j + 1 : Nat) : Int) - 1) = (j : Int) := by omega
        rw [e]
        have hjs : j < s.size := by omega
        have hd := take_drop s 4 j (by omega) hKs
        have hin := sv_in 0 ((nums s).take (5)) j (by rw [HN.out]; exact hN0) (by rw [HN.out]; exact hN1)
        rw [hd, sv, HV.out] at hin
        have hbd0 : -9223372036854775808 ≤ v * 128 + (s[j].toNat : Int) % 128 := by omega
        have hbd1 : v * 128 + (s[j].toNat : Int) % 128 ≤ 9223372036854775807 := by omega
        have HNew : Hid (sv 0 (((nums s).take (5)).drop j) = v * 128 + (s[j].toNat : Int) % 128) := by unfold Hid; rw [hd, sv, HV.out]; omega
        have hb8 : s[j].toNat < 256 := s[j].toNat_lt
        clear hd hin HV e
        go_wp2
        go_round
        case rel => exact ⟨j, _, rfl, rfl, by omega, by omega, by omega, HNew⟩
        case measure => simp [intOf]

  · have hkk : (((K : Int) + 1) == 5) = false := by rw [beq_eq_false_iff_ne]; omega
    clear hfit
    go_enter Try.func38, Try.ntmps38
    go_wp2_with (go_at_call 61; refine (H.out _).mono ?_; rintro e' w' ⟨rfl, rfl⟩)
    go_loop [10, 12] (fun t i => ∃ j : Nat, ∃ v : Int, i = .int .i64 ((j : Int) - 1) ∧ t = .int .i64 v ∧ j ≤ K ∧ -9223372036854775808 ≤ v ∧ v ≤ 9223372036854775807 ∧ Hid (sv 0 (((nums s).take (K + 1)).drop j) = v)) (fun _ i => (intOf i + 1).toNat)
    case atStart => exact ⟨K, _, by go_num, rfl, Nat.le_refl _, by omega, by omega, by unfold Hid; rw [hbase]; omega⟩
    case round =>
      obtain ⟨j, v, rfl, rfl, hj, hv0, hv1, HV⟩ := hrel
      cases j with
      | zero =>
        have HE : Hid (v = N) := by unfold Hid; rw [← HV.out, List.drop_zero]; exact HN.out
        clear HV
        go_wp2
        go_ret3
        exact ⟨ret_3 HE.out (by omega) rfl, Below.refl _ _⟩
      | succ j =>
        have e : (((j + 1 : Nat) : Int) - 1) = (j : Int) := by omega
        rw [e]
        have hjs : j < s.size := by omega
        have hd := take_drop s K j (by omega) hKs
        have hin := sv_in 0 ((nums s).take (K + 1)) j (by rw [HN.out]; exact hN0) (by rw [HN.out]; exact hN1)
        rw [hd, sv, HV.out] at hin
        have hbd0 : -9223372036854775808 ≤ v * 128 + (s[j].toNat : Int) % 128 := by omega
        have hbd1 : v * 128 + (s[j].toNat : Int) % 128 ≤ 9223372036854775807 := by omega
        have HNew : Hid (sv 0 (((nums s).take (K + 1)).drop j) = v * 128 + (s[j].toNat : Int) % 128) := by unfold Hid; rw [hd, sv, HV.out]; omega
        have hb8 : s[j].toNat < 256 := s[j].toNat_lt
        clear hd hin HV e
        go_wp2
        go_round
        case rel => exact ⟨j, _, rfl, rfl, by omega, by omega, by omega, HNew⟩
        case measure => simp [intOf]

set_option maxHeartbeats 400000 in
set_option maxRecDepth 100000 in
theorem refReadS_form32c0 (s : ByteArray) (hKs : 4 < s.size) (hc : (s[4].toNat : Int) < 64) (hn : (8 : Int) ≤ (s[4].toNat : Int))
    (H : Hid (∀ w, Calls Try.prog 61 #[.string s, .int .i64 32] w fun e' w' => e' = .returned (.tuple #[.int .i64 5, .int .i64 5, .int .i64 0]) ∧ w' = w)) (w : World) :
    Calls Try.prog 38 #[.string s, .int .i64 32] w fun e' w' => e' = .returned (.tuple #[.int .i64 0, .int .i64 0, .int .i64 4]) ∧ Below w.heap.size w w' := by
  have hin : (4 : Int) < (s.size : Int) := by omega
  have hb8 : s[4].toNat < 256 := s[4].toNat_lt
  go_enter Try.func38, Try.ntmps38
  go_wp2_with (go_at_call 61; refine (H.out _).mono ?_; rintro e' w' ⟨rfl, rfl⟩)
  go_ret3
  exact ⟨rfl, Below.refl _ _⟩

set_option maxHeartbeats 1000000 in
set_option maxRecDepth 100000 in
theorem refReadS_good32c1 (s : ByteArray) (K : Nat) (hK : K < 5) (hKs : K < s.size) (N : Int) (hN0 : -9223372036854775808 ≤ N) (hN1 : N ≤ 9223372036854775807) (HN : Hid (sv 1 ((nums s).take (K + 1)) = N)) (hc : (64 : Int) ≤ (s[K].toNat : Int)) (hc1 : (s[K].toNat : Int) < 128) (hfit : K = 4 → (120 : Int) ≤ (s[K].toNat : Int))
    (H : Hid (∀ w, Calls Try.prog 61 #[.string s, .int .i64 32] w fun e' w' => e' = .returned (.tuple #[.int .i64 ((K : Int) + 1), .int .i64 5, .int .i64 0]) ∧ w' = w)) (w : World) :
    Calls Try.prog 38 #[.string s, .int .i64 32] w fun e' w' => e' = .returned (.tuple #[.int .i64 N, .int .i64 ((K : Int) + 1), .int .i64 0]) ∧ Below w.heap.size w w' := by
  have hbase : sv 1 (((nums s).take (K + 1)).drop K) = (s[K].toNat : Int) - 128 * 1 := by
    rw [take_drop s K K (Nat.le_refl _) hKs, List.drop_eq_nil_of_le (by rw [List.length_take]; omega), sv, sv]; omega
  by_cases hk : K = 4
  · have hb := hfit hk
    clear hfit
    subst hk
    have hin : (4 : Int) < (s.size : Int) := by omega
    go_enter Try.func38, Try.ntmps38
    go_wp2_with (go_at_call 61; refine (H.out _).mono ?_; rintro e' w' ⟨rfl, rfl⟩)
    go_loop [10, 12] (fun t i => ∃ j : Nat, ∃ v : Int, i = .int .i64 ((j : Int) - 1) ∧ t = .int .i64 v ∧ j ≤ 4 ∧ -9223372036854775808 ≤ v ∧ v ≤ 9223372036854775807 ∧ Hid (sv 1 (((nums s).take (5)).drop j) = v)) (fun _ i => (intOf i + 1).toNat)
    case atStart => exact ⟨4, _, by go_num, rfl, Nat.le_refl _, by omega, by omega, by unfold Hid; rw [hbase]; omega⟩
    case round =>
      obtain ⟨j, v, rfl, rfl, hj, hv0, hv1, HV⟩ := hrel
      cases j with
      | zero =>
        have HE : Hid (v = N) := by unfold Hid; rw [← HV.out, List.drop_zero]; exact HN.out
        clear HV
        go_wp2
        go_ret3
        exact ⟨ret_3 HE.out (by omega) rfl, Below.refl _ _⟩
      | succ j =>
        have e : (((j + 1 : Nat) : Int) - 1) = (j : Int) := by omega
        rw [e]
        have hjs : j < s.size := by omega
        have hd := take_drop s 4 j (by omega) hKs
        have hin := sv_in 1 ((nums s).take (5)) j (by rw [HN.out]; exact hN0) (by rw [HN.out]; exact hN1)
        rw [hd, sv, HV.out] at hin
        have hbd0 : -9223372036854775808 ≤ v * 128 + (s[j].toNat : Int) % 128 := by omega
        have hbd1 : v * 128 + (s[j].toNat : Int) % 128 ≤ 9223372036854775807 := by omega
        have HNew : Hid (sv 1 (((nums s).take (5)).drop j) = v * 128 + (s[j].toNat : Int) % 128) := by unfold Hid; rw [hd, sv, HV.out]; omega
        have hb8 : s[j].toNat < 256 := s[j].toNat_lt
        clear hd hin HV e
        go_wp2
        go_round
        case rel => exact ⟨j, _, rfl, rfl, by omega, by omega, by omega, HNew⟩
        case measure => simp [intOf]

  · have hkk : (((K : Int) + 1) == 5) = false := by rw [beq_eq_false_iff_ne]; omega
    clear hfit
    go_enter Try.func38, Try.ntmps38
    go_wp2_with (go_at_call 61; refine (H.out _).mono ?_; rintro e' w' ⟨rfl, rfl⟩)
    go_loop [10, 12] (fun t i => ∃ j : Nat, ∃ v : Int, i = .int .i64 ((j : Int) - 1) ∧ t = .int .i64 v ∧ j ≤ K ∧ -9223372036854775808 ≤ v ∧ v ≤ 9223372036854775807 ∧ Hid (sv 1 (((nums s).take (K + 1)).drop j) = v)) (fun _ i => (intOf i + 1).toNat)
    case atStart => exact ⟨K, _, by go_num, rfl, Nat.le_refl _, by omega, by omega, by unfold Hid; rw [hbase]; omega⟩
    case round =>
      obtain ⟨j, v, rfl, rfl, hj, hv0, hv1, HV⟩ := hrel
      cases j with
      | zero =>
        have HE : Hid (v = N) := by unfold Hid; rw [← HV.out, List.drop_zero]; exact HN.out
        clear HV
        go_wp2
        go_ret3
        exact ⟨ret_3 HE.out (by omega) rfl, Below.refl _ _⟩
      | succ j =>
        have e : (((j + 1 : Nat) : Int) - 1) = (j : Int) := by omega
        rw [e]
        have hjs : j < s.size := by omega
        have hd := take_drop s K j (by omega) hKs
        have hin := sv_in 1 ((nums s).take (K + 1)) j (by rw [HN.out]; exact hN0) (by rw [HN.out]; exact hN1)
        rw [hd, sv, HV.out] at hin
        have hbd0 : -9223372036854775808 ≤ v * 128 + (s[j].toNat : Int) % 128 := by omega
        have hbd1 : v * 128 + (s[j].toNat : Int) % 128 ≤ 9223372036854775807 := by omega
        have HNew : Hid (sv 1 (((nums s).take (K + 1)).drop j) = v * 128 + (s[j].toNat : Int) % 128) := by unfold Hid; rw [hd, sv, HV.out]; omega
        have hb8 : s[j].toNat < 256 := s[j].toNat_lt
        clear hd hin HV e
        go_wp2
        go_round
        case rel => exact ⟨j, _, rfl, rfl, by omega, by omega, by omega, HNew⟩
        case measure => simp [intOf]

set_option maxHeartbeats 400000 in
set_option maxRecDepth 100000 in
theorem refReadS_form32c1 (s : ByteArray) (hKs : 4 < s.size) (hc : (64 : Int) ≤ (s[4].toNat : Int)) (hc1 : (s[4].toNat : Int) < 128) (hn : (s[4].toNat : Int) < 120)
    (H : Hid (∀ w, Calls Try.prog 61 #[.string s, .int .i64 32] w fun e' w' => e' = .returned (.tuple #[.int .i64 5, .int .i64 5, .int .i64 0]) ∧ w' = w)) (w : World) :
    Calls Try.prog 38 #[.string s, .int .i64 32] w fun e' w' => e' = .returned (.tuple #[.int .i64 0, .int .i64 0, .int .i64 4]) ∧ Below w.heap.size w w' := by
  have hin : (4 : Int) < (s.size : Int) := by omega
  have hb8 : s[4].toNat < 256 := s[4].toNat_lt
  go_enter Try.func38, Try.ntmps38
  go_wp2_with (go_at_call 61; refine (H.out _).mono ?_; rintro e' w' ⟨rfl, rfl⟩)
  go_ret3
  exact ⟨rfl, Below.refl _ _⟩

set_option maxHeartbeats 400000 in
theorem refReadS_err64 (s : ByteArray) (e : Int) (he : (e != 0) = true) (H : Hid (∀ w, Calls Try.prog 61 #[.string s, .int .i64 64] w fun e' w' => e' = .returned (.tuple #[.int .i64 0, .int .i64 0, .int .i64 e]) ∧ w' = w)) (w : World) :
    Calls Try.prog 38 #[.string s, .int .i64 64] w fun e' w' => e' = .returned (.tuple #[.int .i64 0, .int .i64 0, .int .i64 e]) ∧ Below w.heap.size w w' := by
  go_enter Try.func38, Try.ntmps38
  go_wp2_with (go_at_call 61; refine (H.out _).mono ?_; rintro e' w' ⟨rfl, rfl⟩)
  go_ret3
  exact ⟨rfl, Below.refl _ _⟩

set_option maxHeartbeats 1000000 in
set_option maxRecDepth 100000 in
theorem refReadS_good64c0 (s : ByteArray) (K : Nat) (hK : K < 10) (hKs : K < s.size) (N : Int) (hN0 : -9223372036854775808 ≤ N) (hN1 : N ≤ 9223372036854775807) (HN : Hid (sv 0 ((nums s).take (K + 1)) = N)) (hc : (s[K].toNat : Int) < 64) (hfit : K = 9 → (s[K].toNat : Int) = 0)
    (H : Hid (∀ w, Calls Try.prog 61 #[.string s, .int .i64 64] w fun e' w' => e' = .returned (.tuple #[.int .i64 ((K : Int) + 1), .int .i64 10, .int .i64 0]) ∧ w' = w)) (w : World) :
    Calls Try.prog 38 #[.string s, .int .i64 64] w fun e' w' => e' = .returned (.tuple #[.int .i64 N, .int .i64 ((K : Int) + 1), .int .i64 0]) ∧ Below w.heap.size w w' := by
  have hbase : sv 0 (((nums s).take (K + 1)).drop K) = (s[K].toNat : Int) - 128 * 0 := by
    rw [take_drop s K K (Nat.le_refl _) hKs, List.drop_eq_nil_of_le (by rw [List.length_take]; omega), sv, sv]; omega
  by_cases hk : K = 9
  · have hb := hfit hk
    clear hfit
    subst hk
    have hin : (9 : Int) < (s.size : Int) := by omega
    go_enter Try.func38, Try.ntmps38
    go_wp2_with (go_at_call 61; refine (H.out _).mono ?_; rintro e' w' ⟨rfl, rfl⟩)
    go_loop [10, 12] (fun t i => ∃ j : Nat, ∃ v : Int, i = .int .i64 ((j : Int) - 1) ∧ t = .int .i64 v ∧ j ≤ 9 ∧ -9223372036854775808 ≤ v ∧ v ≤ 9223372036854775807 ∧ Hid (sv 0 (((nums s).take (10)).drop j) = v)) (fun _ i => (intOf i + 1).toNat)
    case atStart => exact ⟨9, _, by go_num, rfl, Nat.le_refl _, by omega, by omega, by unfold Hid; rw [hbase]; omega⟩
    case round =>
      obtain ⟨j, v, rfl, rfl, hj, hv0, hv1, HV⟩ := hrel
      cases j with
      | zero =>
        have HE : Hid (v = N) := by unfold Hid; rw [← HV.out, List.drop_zero]; exact HN.out
        clear HV
        go_wp2
        go_ret3
        exact ⟨ret_3 HE.out (by omega) rfl, Below.refl _ _⟩
      | succ j =>
        have e : (((j + 1 : Nat) : Int) - 1) = (j : Int) := by omega
        rw [e]
        have hjs : j < s.size := by omega
        have hd := take_drop s 9 j (by omega) hKs
        have hin := sv_in 0 ((nums s).take (10)) j (by rw [HN.out]; exact hN0) (by rw [HN.out]; exact hN1)
        rw [hd, sv, HV.out] at hin
        have hbd0 : -9223372036854775808 ≤ v * 128 + (s[j].toNat : Int) % 128 := by omega
        have hbd1 : v * 128 + (s[j].toNat : Int) % 128 ≤ 9223372036854775807 := by omega
        have HNew : Hid (sv 0 (((nums s).take (10)).drop j) = v * 128 + (s[j].toNat : Int) % 128) := by unfold Hid; rw [hd, sv, HV.out]; omega
        have hb8 : s[j].toNat < 256 := s[j].toNat_lt
        clear hd hin HV e
        go_wp2
        go_round
        case rel => exact ⟨j, _, rfl, rfl, by omega, by omega, by omega, HNew⟩
        case measure => simp [intOf]

  · have hkk : (((K : Int) + 1) == 10) = false := by rw [beq_eq_false_iff_ne]; omega
    clear hfit
    go_enter Try.func38, Try.ntmps38
    go_wp2_with (go_at_call 61; refine (H.out _).mono ?_; rintro e' w' ⟨rfl, rfl⟩)
    go_loop [10, 12] (fun t i => ∃ j : Nat, ∃ v : Int, i = .int .i64 ((j : Int) - 1) ∧ t = .int .i64 v ∧ j ≤ K ∧ -9223372036854775808 ≤ v ∧ v ≤ 9223372036854775807 ∧ Hid (sv 0 (((nums s).take (K + 1)).drop j) = v)) (fun _ i => (intOf i + 1).toNat)
    case atStart => exact ⟨K, _, by go_num, rfl, Nat.le_refl _, by omega, by omega, by unfold Hid; rw [hbase]; omega⟩
    case round =>
      obtain ⟨j, v, rfl, rfl, hj, hv0, hv1, HV⟩ := hrel
      cases j with
      | zero =>
        have HE : Hid (v = N) := by unfold Hid; rw [← HV.out, List.drop_zero]; exact HN.out
        clear HV
        go_wp2
        go_ret3
        exact ⟨ret_3 HE.out (by omega) rfl, Below.refl _ _⟩
      | succ j =>
        have e : (((j + 1 : Nat) : Int) - 1) = (j : Int) := by omega
        rw [e]
        have hjs : j < s.size := by omega
        have hd := take_drop s K j (by omega) hKs
        have hin := sv_in 0 ((nums s).take (K + 1)) j (by rw [HN.out]; exact hN0) (by rw [HN.out]; exact hN1)
        rw [hd, sv, HV.out] at hin
        have hbd0 : -9223372036854775808 ≤ v * 128 + (s[j].toNat : Int) % 128 := by omega
        have hbd1 : v * 128 + (s[j].toNat : Int) % 128 ≤ 9223372036854775807 := by omega
        have HNew : Hid (sv 0 (((nums s).take (K + 1)).drop j) = v * 128 + (s[j].toNat : Int) % 128) := by unfold Hid; rw [hd, sv, HV.out]; omega
        have hb8 : s[j].toNat < 256 := s[j].toNat_lt
        clear hd hin HV e
        go_wp2
        go_round
        case rel => exact ⟨j, _, rfl, rfl, by omega, by omega, by omega, HNew⟩
        case measure => simp [intOf]

set_option maxHeartbeats 400000 in
set_option maxRecDepth 100000 in
theorem refReadS_form64c0 (s : ByteArray) (hKs : 9 < s.size) (hc : (s[9].toNat : Int) < 64) (hn : (1 : Int) ≤ (s[9].toNat : Int))
    (H : Hid (∀ w, Calls Try.prog 61 #[.string s, .int .i64 64] w fun e' w' => e' = .returned (.tuple #[.int .i64 10, .int .i64 10, .int .i64 0]) ∧ w' = w)) (w : World) :
    Calls Try.prog 38 #[.string s, .int .i64 64] w fun e' w' => e' = .returned (.tuple #[.int .i64 0, .int .i64 0, .int .i64 4]) ∧ Below w.heap.size w w' := by
  have hin : (9 : Int) < (s.size : Int) := by omega
  have hb8 : s[9].toNat < 256 := s[9].toNat_lt
  have f0 : ((s[9].toNat : Int) != 0) = true := by rw [bne_iff_ne]; omega
  have f1 : ((s[9].toNat : Int) != -1) = true := by rw [bne_iff_ne]; omega
  go_enter Try.func38, Try.ntmps38
  go_wp2_with (go_at_call 61; refine (H.out _).mono ?_; rintro e' w' ⟨rfl, rfl⟩)
  go_ret3
  exact ⟨rfl, Below.refl _ _⟩

set_option maxHeartbeats 1000000 in
set_option maxRecDepth 100000 in
theorem refReadS_good64c1 (s : ByteArray) (K : Nat) (hK : K < 10) (hKs : K < s.size) (N : Int) (hN0 : -9223372036854775808 ≤ N) (hN1 : N ≤ 9223372036854775807) (HN : Hid (sv 1 ((nums s).take (K + 1)) = N)) (hc : (64 : Int) ≤ (s[K].toNat : Int)) (hc1 : (s[K].toNat : Int) < 128) (hfit : K = 9 → (s[K].toNat : Int) = 127)
    (H : Hid (∀ w, Calls Try.prog 61 #[.string s, .int .i64 64] w fun e' w' => e' = .returned (.tuple #[.int .i64 ((K : Int) + 1), .int .i64 10, .int .i64 0]) ∧ w' = w)) (w : World) :
    Calls Try.prog 38 #[.string s, .int .i64 64] w fun e' w' => e' = .returned (.tuple #[.int .i64 N, .int .i64 ((K : Int) + 1), .int .i64 0]) ∧ Below w.heap.size w w' := by
  have hbase : sv 1 (((nums s).take (K + 1)).drop K) = (s[K].toNat : Int) - 128 * 1 := by
    rw [take_drop s K K (Nat.le_refl _) hKs, List.drop_eq_nil_of_le (by rw [List.length_take]; omega), sv, sv]; omega
  by_cases hk : K = 9
  · have hb := hfit hk
    clear hfit
    subst hk
    have hin : (9 : Int) < (s.size : Int) := by omega
    go_enter Try.func38, Try.ntmps38
    go_wp2_with (go_at_call 61; refine (H.out _).mono ?_; rintro e' w' ⟨rfl, rfl⟩)
    go_loop [10, 12] (fun t i => ∃ j : Nat, ∃ v : Int, i = .int .i64 ((j : Int) - 1) ∧ t = .int .i64 v ∧ j ≤ 9 ∧ -9223372036854775808 ≤ v ∧ v ≤ 9223372036854775807 ∧ Hid (sv 1 (((nums s).take (10)).drop j) = v)) (fun _ i => (intOf i + 1).toNat)
    case atStart => exact ⟨9, _, by go_num, rfl, Nat.le_refl _, by omega, by omega, by unfold Hid; rw [hbase]; omega⟩
    case round =>
      obtain ⟨j, v, rfl, rfl, hj, hv0, hv1, HV⟩ := hrel
      cases j with
      | zero =>
        have HE : Hid (v = N) := by unfold Hid; rw [← HV.out, List.drop_zero]; exact HN.out
        clear HV
        go_wp2
        go_ret3
        exact ⟨ret_3 HE.out (by omega) rfl, Below.refl _ _⟩
      | succ j =>
        have e : (((j + 1 : Nat) : Int) - 1) = (j : Int) := by omega
        rw [e]
        have hjs : j < s.size := by omega
        have hd := take_drop s 9 j (by omega) hKs
        have hin := sv_in 1 ((nums s).take (10)) j (by rw [HN.out]; exact hN0) (by rw [HN.out]; exact hN1)
        rw [hd, sv, HV.out] at hin
        have hbd0 : -9223372036854775808 ≤ v * 128 + (s[j].toNat : Int) % 128 := by omega
        have hbd1 : v * 128 + (s[j].toNat : Int) % 128 ≤ 9223372036854775807 := by omega
        have HNew : Hid (sv 1 (((nums s).take (10)).drop j) = v * 128 + (s[j].toNat : Int) % 128) := by unfold Hid; rw [hd, sv, HV.out]; omega
        have hb8 : s[j].toNat < 256 := s[j].toNat_lt
        clear hd hin HV e
        go_wp2
        go_round
        case rel => exact ⟨j, _, rfl, rfl, by omega, by omega, by omega, HNew⟩
        case measure => simp [intOf]

  · have hkk : (((K : Int) + 1) == 10) = false := by rw [beq_eq_false_iff_ne]; omega
    clear hfit
    go_enter Try.func38, Try.ntmps38
    go_wp2_with (go_at_call 61; refine (H.out _).mono ?_; rintro e' w' ⟨rfl, rfl⟩)
    go_loop [10, 12] (fun t i => ∃ j : Nat, ∃ v : Int, i = .int .i64 ((j : Int) - 1) ∧ t = .int .i64 v ∧ j ≤ K ∧ -9223372036854775808 ≤ v ∧ v ≤ 9223372036854775807 ∧ Hid (sv 1 (((nums s).take (K + 1)).drop j) = v)) (fun _ i => (intOf i + 1).toNat)
    case atStart => exact ⟨K, _, by go_num, rfl, Nat.le_refl _, by omega, by omega, by unfold Hid; rw [hbase]; omega⟩
    case round =>
      obtain ⟨j, v, rfl, rfl, hj, hv0, hv1, HV⟩ := hrel
      cases j with
      | zero =>
        have HE : Hid (v = N) := by unfold Hid; rw [← HV.out, List.drop_zero]; exact HN.out
        clear HV
        go_wp2
        go_ret3
        exact ⟨ret_3 HE.out (by omega) rfl, Below.refl _ _⟩
      | succ j =>
        have e : (((j + 1 : Nat) : Int) - 1) = (j : Int) := by omega
        rw [e]
        have hjs : j < s.size := by omega
        have hd := take_drop s K j (by omega) hKs
        have hin := sv_in 1 ((nums s).take (K + 1)) j (by rw [HN.out]; exact hN0) (by rw [HN.out]; exact hN1)
        rw [hd, sv, HV.out] at hin
        have hbd0 : -9223372036854775808 ≤ v * 128 + (s[j].toNat : Int) % 128 := by omega
        have hbd1 : v * 128 + (s[j].toNat : Int) % 128 ≤ 9223372036854775807 := by omega
        have HNew : Hid (sv 1 (((nums s).take (K + 1)).drop j) = v * 128 + (s[j].toNat : Int) % 128) := by unfold Hid; rw [hd, sv, HV.out]; omega
        have hb8 : s[j].toNat < 256 := s[j].toNat_lt
        clear hd hin HV e
        go_wp2
        go_round
        case rel => exact ⟨j, _, rfl, rfl, by omega, by omega, by omega, HNew⟩
        case measure => simp [intOf]

set_option maxHeartbeats 400000 in
set_option maxRecDepth 100000 in
theorem refReadS_form64c1 (s : ByteArray) (hKs : 9 < s.size) (hc : (64 : Int) ≤ (s[9].toNat : Int)) (hc1 : (s[9].toNat : Int) < 128) (hn : (s[9].toNat : Int) < 127)
    (H : Hid (∀ w, Calls Try.prog 61 #[.string s, .int .i64 64] w fun e' w' => e' = .returned (.tuple #[.int .i64 10, .int .i64 10, .int .i64 0]) ∧ w' = w)) (w : World) :
    Calls Try.prog 38 #[.string s, .int .i64 64] w fun e' w' => e' = .returned (.tuple #[.int .i64 0, .int .i64 0, .int .i64 4]) ∧ Below w.heap.size w w' := by
  have hin : (9 : Int) < (s.size : Int) := by omega
  have hb8 : s[9].toNat < 256 := s[9].toNat_lt
  have f0 : ((s[9].toNat : Int) - 128 != 0) = true := by rw [bne_iff_ne]; omega
  have f1 : ((s[9].toNat : Int) - 128 != -1) = true := by rw [bne_iff_ne]; omega
  go_enter Try.func38, Try.ntmps38
  go_wp2_with (go_at_call 61; refine (H.out _).mono ?_; rintro e' w' ⟨rfl, rfl⟩)
  go_ret3
  exact ⟨rfl, Below.refl _ _⟩

end Go.Proofs.Ytfmmefmpjejioaa
namespace Go.Proofs.Ytfmmefmpjejioaa
open Go.RowKit

theorem at_front (s : ByteArray) (f t : List Int) (h : nums s = f ++ t) (hf : ∀ b ∈ f, 128 ≤ b ∧ b < 256) (i : Nat) (hi : i < s.size) (hif : i < f.length) : 127 < (s[i].toNat : Int) := by
  have e := nums_get s i hi
  rw [h, List.getD_eq_getElem?_getD, List.getElem?_append_left hif, List.getElem?_eq_getElem hif, Option.getD_some] at e
  have := hf _ (List.getElem_mem hif)
  omega
theorem at_last (s : ByteArray) (f t : List Int) (b : Int) (h : nums s = f ++ b :: t) : ∃ hi : f.length < s.size, (s[f.length].toNat : Int) = b ∧ (nums s).take (f.length + 1) = f ++ [b] := by
  have hi : f.length < s.size := by rw [← nums_length, h, List.length_append, List.length_cons]; omega
  refine ⟨hi, ?_, ?_⟩
  · rw [← nums_get s f.length hi, h]; simp
  · rw [h, List.take_append]
    rw [List.take_of_length_le (by omega), show f.length + 1 - f.length = 1 from by omega]; rfl
theorem fitU_of (b : Int) (r : Nat) (h0 : 0 ≤ b) (h : b < 2 ^ r) : fitU b r = true := by
  simp only [fitU, beq_iff_eq, Int.toNat_natCast]; exact Int.ediv_eq_zero_of_lt h0 h

theorem refReadU_all32 (s : ByteArray) (hs : s.size ≤ maxLen) (n k e : Int) (h : rU 32 (nums s) = (n, k, e)) (w : World) :
    Calls Try.prog 39 #[.string s, .int .i64 32] w fun e' w' => e' = .returned (.tuple #[.int .u64 n, .int .i64 k, .int .i64 e]) ∧ Below w.heap.size w w' := by
  have hbd := rU_bound 32 (nums s) (nums_byte s)
  rw [rU, if_pos (by simp)] at h hbd
  obtain ⟨f, hf, hc⟩ := split_bytes (nums s) (nums_byte s)
  by_cases hlen : 4 < f.length
  · have hs' : f = f.take 5 ++ f.drop 5 := (List.take_append_drop _ f).symm
    have h1 : ∀ b ∈ f.take 5, 128 ≤ b ∧ b < 256 := fun x hx => hf x (List.mem_of_mem_take hx)
    have h2 : (f.take 5).length = 4 + 1 := by rw [List.length_take]; omega
    obtain ⟨t, ht⟩ : ∃ t, nums s = f ++ t := by
      rcases hc with hc | ⟨b, t, hc, _⟩
      · exact ⟨[], by rw [List.append_nil]; exact hc⟩
      · exact ⟨b :: t, hc⟩
    have hr : rdl fitU 32 (nums s) 0 0 = (0, 0, 4) := by
      rw [ht, hs', List.append_assoc]; exact rdl_long _ _ h1 4 h2 (by omega) (by omega)
    rw [hr] at h
    obtain ⟨rfl, rfl, rfl⟩ := h
    have hsz : f.length ≤ s.size := by rw [← nums_length, ht, List.length_append]; omega
    exact refReadU_err32 s 4 rfl (fun w => span_form32 s hs (by omega) (fun i hi h5 => at_front s f t ht hf i hi (by omega)) w) w
  · rcases hc with hc | ⟨b, t, hc, hb0, hb⟩
    · have hr : rdl fitU 32 (nums s) 0 0 = (0, 0, 3) := by rw [hc]; exact rdl_short _ hf (by omega)
      rw [hr] at h
      obtain ⟨rfl, rfl, rfl⟩ := h
      have hsz : s.size = f.length := by rw [← nums_length, hc]
      exact refReadU_err32 s 3 rfl (fun w => span_short32 s hs (by omega) (fun i hi => at_front s f [] (by rw [List.append_nil]; exact hc) hf i hi (by omega)) w) w
    · obtain ⟨hi, hlast, htake⟩ := at_last s f t b hc
      have hspan : ∀ w, Calls Try.prog 61 #[.string s, .int .i64 32] w fun e' w' => e' = .returned (.tuple #[.int .i64 ((f.length : Int) + 1), .int .i64 5, .int .i64 0]) ∧ w' = w :=
        fun w => span_good32 s hs f.length (by omega) hi (fun i hi' hif => at_front s f (b :: t) hc hf i hi' hif) (by omega) w
      by_cases hbad : f.length = 4 ∧ 16 ≤ b
      · have hr : rdl fitU 32 (nums s) 0 0 = (0, 0, 4) := by
          rw [hc]
          refine rdl_bad f t b hf (by omega) (by omega) ?_
          cases hfit : fitU b (32 - 7 * (f.length : Int)) with
          | false => rfl
          | true =>
            rw [show (32 - 7 * (f.length : Int)) = ((4 : Nat) : Int) from by omega] at hfit
            have := fitU_lt hfit
            omega
        rw [hr] at h
        obtain ⟨rfl, rfl, rfl⟩ := h
        have hm : 4 < s.size := by omega
        refine refReadU_form32 s hm ?_ ?_ w
        · have : s[4] = s[f.length] := by congr 1; omega
          rw [this, hlast]; omega
        · intro w
          have := hspan w
          rw [show (f.length : Int) + 1 = 5 from by omega] at this
          exact this
      · have hr : rdl fitU 32 (nums s) 0 0 = (val (f ++ [b]), (f.length : Int) + 1, 0) := by
          rw [hc]
          refine rdl_good f t b hf hb0 hb (by omega) ?_
          intro h7
          have e1 : f.length = 4 := by omega
          rw [show (32 - 7 * (f.length : Int)) = ((4 : Nat) : Int) from by omega]
          exact fitU_of b 4 hb0 (by omega)
        rw [hr] at h hbd
        obtain ⟨rfl, rfl, rfl⟩ := h
        exact refReadU_good32 s f.length (by omega) hi _ (by omega) (by unfold Hid; rw [htake]) (by intro e1; rw [hlast]; omega) hspan w

theorem refReadU_all64 (s : ByteArray) (hs : s.size ≤ maxLen) (n k e : Int) (h : rU 64 (nums s) = (n, k, e)) (w : World) :
    Calls Try.prog 39 #[.string s, .int .i64 64] w fun e' w' => e' = .returned (.tuple #[.int .u64 n, .int .i64 k, .int .i64 e]) ∧ Below w.heap.size w w' := by
  have hbd := rU_bound 64 (nums s) (nums_byte s)
  rw [rU, if_pos (by simp)] at h hbd
  obtain ⟨f, hf, hc⟩ := split_bytes (nums s) (nums_byte s)
  by_cases hlen : 9 < f.length
  · have hs' : f = f.take 10 ++ f.drop 10 := (List.take_append_drop _ f).symm
    have h1 : ∀ b ∈ f.take 10, 128 ≤ b ∧ b < 256 := fun x hx => hf x (List.mem_of_mem_take hx)
    have h2 : (f.take 10).length = 9 + 1 := by rw [List.length_take]; omega
    obtain ⟨t, ht⟩ : ∃ t, nums s = f ++ t := by
      rcases hc with hc | ⟨b, t, hc, _⟩
      · exact ⟨[], by rw [List.append_nil]; exact hc⟩
      · exact ⟨b :: t, hc⟩
    have hr : rdl fitU 64 (nums s) 0 0 = (0, 0, 4) := by
      rw [ht, hs', List.append_assoc]; exact rdl_long _ _ h1 9 h2 (by omega) (by omega)
    rw [hr] at h
    obtain ⟨rfl, rfl, rfl⟩ := h
    have hsz : f.length ≤ s.size := by rw [← nums_length, ht, List.length_append]; omega
    exact refReadU_err64 s 4 rfl (fun w => span_form64 s hs (by omega) (fun i hi h5 => at_front s f t ht hf i hi (by omega)) w) w
  · rcases hc with hc | ⟨b, t, hc, hb0, hb⟩
    · have hr : rdl fitU 64 (nums s) 0 0 = (0, 0, 3) := by rw [hc]; exact rdl_short _ hf (by omega)
      rw [hr] at h
      obtain ⟨rfl, rfl, rfl⟩ := h
      have hsz : s.size = f.length := by rw [← nums_length, hc]
      exact refReadU_err64 s 3 rfl (fun w => span_short64 s hs (by omega) (fun i hi => at_front s f [] (by rw [List.append_nil]; exact hc) hf i hi (by omega)) w) w
    · obtain ⟨hi, hlast, htake⟩ := at_last s f t b hc
      have hspan : ∀ w, Calls Try.prog 61 #[.string s, .int .i64 64] w fun e' w' => e' = .returned (.tuple #[.int .i64 ((f.length : Int) + 1), .int .i64 10, .int .i64 0]) ∧ w' = w :=
        fun w => span_good64 s hs f.length (by omega) hi (fun i hi' hif => at_front s f (b :: t) hc hf i hi' hif) (by omega) w
      by_cases hbad : f.length = 9 ∧ 2 ≤ b
      · have hr : rdl fitU 64 (nums s) 0 0 = (0, 0, 4) := by
          rw [hc]
          refine rdl_bad f t b hf (by omega) (by omega) ?_
          cases hfit : fitU b (64 - 7 * (f.length : Int)) with
          | false => rfl
          | true =>
            rw [show (64 - 7 * (f.length : Int)) = ((1 : Nat) : Int) from by omega] at hfit
            have := fitU_lt hfit
            omega
        rw [hr] at h
        obtain ⟨rfl, rfl, rfl⟩ := h
        have hm : 9 < s.size := by omega
        refine refReadU_form64 s hm ?_ ?_ w
        · have : s[9] = s[f.length] := by congr 1; omega
          rw [this, hlast]; omega
        · intro w
          have := hspan w
          rw [show (f.length : Int) + 1 = 10 from by omega] at this
          exact this
      · have hr : rdl fitU 64 (nums s) 0 0 = (val (f ++ [b]), (f.length : Int) + 1, 0) := by
          rw [hc]
          refine rdl_good f t b hf hb0 hb (by omega) ?_
          intro h7
          have e1 : f.length = 9 := by omega
          rw [show (64 - 7 * (f.length : Int)) = ((1 : Nat) : Int) from by omega]
          exact fitU_of b 1 hb0 (by omega)
        rw [hr] at h hbd
        obtain ⟨rfl, rfl, rfl⟩ := h
        exact refReadU_good64 s f.length (by omega) hi _ (by omega) (by unfold Hid; rw [htake]) (by intro e1; rw [hlast]; omega) hspan w

theorem fitS_iff32 (b : Int) (h0 : 0 ≤ b) (h1 : b < 128) : fitS b 4 = false ↔ ((8 ≤ b ∧ b < 64) ∨ (64 ≤ b ∧ b < 120)) := by
  obtain ⟨m, rfl⟩ : ∃ m : Nat, b = m := ⟨b.toNat, by omega⟩
  have H : ∀ m : Fin 128, (fitS (m.val : Int) 4 = false) ↔ ((8 ≤ (m.val : Int) ∧ (m.val : Int) < 64) ∨ (64 ≤ (m.val : Int) ∧ (m.val : Int) < 120)) := by decide +kernel
  exact H ⟨m, by omega⟩
theorem refReadS_all32 (s : ByteArray) (hs : s.size ≤ maxLen) (n k e : Int) (h : rS 32 (nums s) = (n, k, e)) (w : World) :
    Calls Try.prog 38 #[.string s, .int .i64 32] w fun e' w' => e' = .returned (.tuple #[.int .i64 n, .int .i64 k, .int .i64 e]) ∧ Below w.heap.size w w' := by
  have hres := resS 32 (by simp) (nums s) (nums_byte s)
  obtain ⟨f, hf, hc⟩ := split_bytes (nums s) (nums_byte s)
  by_cases hlen : 4 < f.length
  · have hs' : f = f.take 5 ++ f.drop 5 := (List.take_append_drop _ f).symm
    have h1 : ∀ b ∈ f.take 5, 128 ≤ b ∧ b < 256 := fun x hx => hf x (List.mem_of_mem_take hx)
    have h2 : (f.take 5).length = 4 + 1 := by rw [List.length_take]; omega
    obtain ⟨t, ht⟩ : ∃ t, nums s = f ++ t := by
      rcases hc with hc | ⟨b, t, hc, _⟩
      · exact ⟨[], by rw [List.append_nil]; exact hc⟩
      · exact ⟨b :: t, hc⟩
    have hr : rdl fitS 32 (nums s) 0 0 = (0, 0, 4) := by
      rw [ht, hs', List.append_assoc]; exact rdl_long _ _ h1 4 h2 (by omega) (by omega)
    rw [rS, if_pos (by simp), hr] at h
    simp at h
    obtain ⟨rfl, rfl, rfl⟩ := h
    have hsz : f.length ≤ s.size := by rw [← nums_length, ht, List.length_append]; omega
    exact refReadS_err32 s 4 rfl (fun w => span_form32 s hs (by omega) (fun i hi h5 => at_front s f t ht hf i hi (by omega)) w) w
  · rcases hc with hc | ⟨b, t, hc, hb0, hb⟩
    · have hr : rdl fitS 32 (nums s) 0 0 = (0, 0, 3) := by rw [hc]; exact rdl_short _ hf (by omega)
      rw [rS, if_pos (by simp), hr] at h
      simp at h
      obtain ⟨rfl, rfl, rfl⟩ := h
      have hsz : s.size = f.length := by rw [← nums_length, hc]
      exact refReadS_err32 s 3 rfl (fun w => span_short32 s hs (by omega) (fun i hi => at_front s f [] (by rw [List.append_nil]; exact hc) hf i hi (by omega)) w) w
    · obtain ⟨hi, hlast, htake⟩ := at_last s f t b hc
      have hspan : ∀ w, Calls Try.prog 61 #[.string s, .int .i64 32] w fun e' w' => e' = .returned (.tuple #[.int .i64 ((f.length : Int) + 1), .int .i64 5, .int .i64 0]) ∧ w' = w :=
        fun w => span_good32 s hs f.length (by omega) hi (fun i hi' hif => at_front s f (b :: t) hc hf i hi' hif) (by omega) w
      by_cases hbad : f.length = 4 ∧ ((8 ≤ b ∧ b < 64) ∨ (64 ≤ b ∧ b < 120))
      · have hr : rdl fitS 32 (nums s) 0 0 = (0, 0, 4) := by
          rw [hc]
          refine rdl_bad f t b hf (by omega) (by omega) ?_
          rw [show (32 - 7 * (f.length : Int)) = 4 from by omega]
          exact (fitS_iff32 b hb0 hb).2 hbad.2
        rw [rS, if_pos (by simp), hr] at h
        simp at h
        obtain ⟨rfl, rfl, rfl⟩ := h
        have hm : 4 < s.size := by omega
        have hl : (s[4].toNat : Int) = b := by
          have : s[4] = s[f.length] := by congr 1; omega
          rw [this, hlast]
        have hsp : ∀ w, Calls Try.prog 61 #[.string s, .int .i64 32] w fun e' w' => e' = .returned (.tuple #[.int .i64 5, .int .i64 5, .int .i64 0]) ∧ w' = w := by
          intro w
          have := hspan w
          rw [show (f.length : Int) + 1 = 5 from by omega] at this
          exact this
        rcases hbad.2 with hb1 | hb1
        · exact refReadS_form32c0 s hm (by omega) (by omega) hsp w
        · exact refReadS_form32c1 s hm (by omega) (by omega) (by omega) hsp w
      · have hr : rdl fitS 32 (nums s) 0 0 = (val (f ++ [b]), (f.length : Int) + 1, 0) := by
          rw [hc]
          refine rdl_good f t b hf hb0 hb (by omega) ?_
          intro h7
          have e1 : f.length = 4 := by omega
          rw [show (32 - 7 * (f.length : Int)) = 4 from by omega]
          cases hfit : fitS b 4 with
          | true => rfl
          | false => exact absurd ⟨e1, (fitS_iff32 b hb0 hb).1 hfit⟩ hbad
        have e0 : ((f.length : Int) + 1 - 1).toNat = f.length := by omega
        have e1 : ((f.length : Int) + 1).toNat = f.length + 1 := by omega
        have e2 : (nums s).getD f.length 0 = b := by rw [nums_get s f.length hi]; exact hlast
        have hv : rS 32 (nums s) = (val (f ++ [b]) - (if 64 ≤ b then 128 ^ (f.length + 1) else 0), (f.length : Int) + 1, 0) := by
          rw [rS, if_pos (by simp), hr]
          simp only [e0, e1, e2, if_true]
        have hbd : -9223372036854775808 ≤ n ∧ n ≤ 9223372036854775807 := by
          rw [hv] at h hres
          injection h with h _
          rcases hres with ⟨e', he', h'⟩ | ⟨n', k', g1, g2, _, _, h'⟩
          · injection h' with _ h'
            injection h' with _ h'
            subst h'
            cases he'
          · injection h' with h' _
            omega
        rw [hv] at h
        injection h with ha h
        injection h with hk he
        subst hk he
        have hlen1 : (f ++ [b]).length = f.length + 1 := by rw [List.length_append, List.length_singleton]
        by_cases h64 : 64 ≤ b
        · rw [if_pos h64] at ha
          refine refReadS_good32c1 s f.length (by omega) hi n hbd.1 hbd.2 ?_ (by omega) (by omega) (by intro e1; omega) hspan w
          unfold Hid; rw [htake, sv_val, hlen1]; omega
        · rw [if_neg h64] at ha
          refine refReadS_good32c0 s f.length (by omega) hi n hbd.1 hbd.2 ?_ (by omega) (by intro e1; omega) hspan w
          unfold Hid; rw [htake, sv_val, hlen1]; omega

theorem fitS_iff64 (b : Int) (h0 : 0 ≤ b) (h1 : b < 128) : fitS b 1 = false ↔ ((1 ≤ b ∧ b < 64) ∨ (64 ≤ b ∧ b < 127)) := by
  obtain ⟨m, rfl⟩ : ∃ m : Nat, b = m := ⟨b.toNat, by omega⟩
  have H : ∀ m : Fin 128, (fitS (m.val : Int) 1 = false) ↔ ((1 ≤ (m.val : Int) ∧ (m.val : Int) < 64) ∨ (64 ≤ (m.val : Int) ∧ (m.val : Int) < 127)) := by decide +kernel
  exact H ⟨m, by omega⟩
theorem refReadS_all64 (s : ByteArray) (hs : s.size ≤ maxLen) (n k e : Int) (h : rS 64 (nums s) = (n, k, e)) (w : World) :
    Calls Try.prog 38 #[.string s, .int .i64 64] w fun e' w' => e' = .returned (.tuple #[.int .i64 n, .int .i64 k, .int .i64 e]) ∧ Below w.heap.size w w' := by
  have hres := resS 64 (by simp) (nums s) (nums_byte s)
  obtain ⟨f, hf, hc⟩ := split_bytes (nums s) (nums_byte s)
  by_cases hlen : 9 < f.length
  · have hs' : f = f.take 10 ++ f.drop 10 := (List.take_append_drop _ f).symm
    have h1 : ∀ b ∈ f.take 10, 128 ≤ b ∧ b < 256 := fun x hx => hf x (List.mem_of_mem_take hx)
    have h2 : (f.take 10).length = 9 + 1 := by rw [List.length_take]; omega
    obtain ⟨t, ht⟩ : ∃ t, nums s = f ++ t := by
      rcases hc with hc | ⟨b, t, hc, _⟩
      · exact ⟨[], by rw [List.append_nil]; exact hc⟩
      · exact ⟨b :: t, hc⟩
    have hr : rdl fitS 64 (nums s) 0 0 = (0, 0, 4) := by
      rw [ht, hs', List.append_assoc]; exact rdl_long _ _ h1 9 h2 (by omega) (by omega)
    rw [rS, if_pos (by simp), hr] at h
    simp at h
    obtain ⟨rfl, rfl, rfl⟩ := h
    have hsz : f.length ≤ s.size := by rw [← nums_length, ht, List.length_append]; omega
    exact refReadS_err64 s 4 rfl (fun w => span_form64 s hs (by omega) (fun i hi h5 => at_front s f t ht hf i hi (by omega)) w) w
  · rcases hc with hc | ⟨b, t, hc, hb0, hb⟩
    · have hr : rdl fitS 64 (nums s) 0 0 = (0, 0, 3) := by rw [hc]; exact rdl_short _ hf (by omega)
      rw [rS, if_pos (by simp), hr] at h
      simp at h
      obtain ⟨rfl, rfl, rfl⟩ := h
      have hsz : s.size = f.length := by rw [← nums_length, hc]
      exact refReadS_err64 s 3 rfl (fun w => span_short64 s hs (by omega) (fun i hi => at_front s f [] (by rw [List.append_nil]; exact hc) hf i hi (by omega)) w) w
    · obtain ⟨hi, hlast, htake⟩ := at_last s f t b hc
      have hspan : ∀ w, Calls Try.prog 61 #[.string s, .int .i64 64] w fun e' w' => e' = .returned (.tuple #[.int .i64 ((f.length : Int) + 1), .int .i64 10, .int .i64 0]) ∧ w' = w :=
        fun w => span_good64 s hs f.length (by omega) hi (fun i hi' hif => at_front s f (b :: t) hc hf i hi' hif) (by omega) w
      by_cases hbad : f.length = 9 ∧ ((1 ≤ b ∧ b < 64) ∨ (64 ≤ b ∧ b < 127))
      · have hr : rdl fitS 64 (nums s) 0 0 = (0, 0, 4) := by
          rw [hc]
          refine rdl_bad f t b hf (by omega) (by omega) ?_
          rw [show (64 - 7 * (f.length : Int)) = 1 from by omega]
          exact (fitS_iff64 b hb0 hb).2 hbad.2
        rw [rS, if_pos (by simp), hr] at h
        simp at h
        obtain ⟨rfl, rfl, rfl⟩ := h
        have hm : 9 < s.size := by omega
        have hl : (s[9].toNat : Int) = b := by
          have : s[9] = s[f.length] := by congr 1; omega
          rw [this, hlast]
        have hsp : ∀ w, Calls Try.prog 61 #[.string s, .int .i64 64] w fun e' w' => e' = .returned (.tuple #[.int .i64 10, .int .i64 10, .int .i64 0]) ∧ w' = w := by
          intro w
          have := hspan w
          rw [show (f.length : Int) + 1 = 10 from by omega] at this
          exact this
        rcases hbad.2 with hb1 | hb1
        · exact refReadS_form64c0 s hm (by omega) (by omega) hsp w
        · exact refReadS_form64c1 s hm (by omega) (by omega) (by omega) hsp w
      · have hr : rdl fitS 64 (nums s) 0 0 = (val (f ++ [b]), (f.length : Int) + 1, 0) := by
          rw [hc]
          refine rdl_good f t b hf hb0 hb (by omega) ?_
          intro h7
          have e1 : f.length = 9 := by omega
          rw [show (64 - 7 * (f.length : Int)) = 1 from by omega]
          cases hfit : fitS b 1 with
          | true => rfl
          | false => exact absurd ⟨e1, (fitS_iff64 b hb0 hb).1 hfit⟩ hbad
        have e0 : ((f.length : Int) + 1 - 1).toNat = f.length := by omega
        have e1 : ((f.length : Int) + 1).toNat = f.length + 1 := by omega
        have e2 : (nums s).getD f.length 0 = b := by rw [nums_get s f.length hi]; exact hlast
        have hv : rS 64 (nums s) = (val (f ++ [b]) - (if 64 ≤ b then 128 ^ (f.length + 1) else 0), (f.length : Int) + 1, 0) := by
          rw [rS, if_pos (by simp), hr]
          simp only [e0, e1, e2, if_true]
        have hbd : -9223372036854775808 ≤ n ∧ n ≤ 9223372036854775807 := by
          rw [hv] at h hres
          injection h with h _
          rcases hres with ⟨e', he', h'⟩ | ⟨n', k', g1, g2, _, _, h'⟩
          · injection h' with _ h'
            injection h' with _ h'
            subst h'
            cases he'
          · injection h' with h' _
            omega
        rw [hv] at h
        injection h with ha h
        injection h with hk he
        subst hk he
        have hlen1 : (f ++ [b]).length = f.length + 1 := by rw [List.length_append, List.length_singleton]
        by_cases h64 : 64 ≤ b
        · rw [if_pos h64] at ha
          refine refReadS_good64c1 s f.length (by omega) hi n hbd.1 hbd.2 ?_ (by omega) (by omega) (by intro e1; omega) hspan w
          unfold Hid; rw [htake, sv_val, hlen1]; omega
        · rw [if_neg h64] at ha
          refine refReadS_good64c0 s f.length (by omega) hi n hbd.1 hbd.2 ?_ (by omega) (by intro e1; omega) hspan w
          unfold Hid; rw [htake, sv_val, hlen1]; omega

set_option maxHeartbeats 400000 in
theorem refReadU_bad (s : ByteArray) (B : Int) (h1 : (B != 32) = true) (h2 : (B != 64) = true) (w : World) :
    Calls Try.prog 39 #[.string s, .int .i64 B] w fun e' w' => e' = .returned (.tuple #[.int .u64 0, .int .i64 0, .int .i64 1]) ∧ Below w.heap.size w w' := by
  go_enter Try.func39, Try.ntmps39
  go_wp2_with (go_at_call 61; refine (span_bad s B h1 h2 _).mono ?_; rintro e' w' ⟨rfl, rfl⟩)
  go_ret3
  exact ⟨rfl, Below.refl _ _⟩
set_option maxHeartbeats 400000 in
theorem refReadS_bad (s : ByteArray) (B : Int) (h1 : (B != 32) = true) (h2 : (B != 64) = true) (w : World) :
    Calls Try.prog 38 #[.string s, .int .i64 B] w fun e' w' => e' = .returned (.tuple #[.int .i64 0, .int .i64 0, .int .i64 1]) ∧ Below w.heap.size w w' := by
  go_enter Try.func38, Try.ntmps38
  go_wp2_with (go_at_call 61; refine (span_bad s B h1 h2 _).mono ?_; rintro e' w' ⟨rfl, rfl⟩)
  go_ret3
  exact ⟨rfl, Below.refl _ _⟩
theorem refReadU_at (s : ByteArray) (B n k e : Int) (hs : s.size ≤ maxLen) (h : Hid (rU B (nums s) = (n, k, e))) (w : World) :
    Calls Try.prog 39 #[.string s, .int .i64 B] w fun e' w' => e' = .returned (.tuple #[.int .u64 n, .int .i64 k, .int .i64 e]) ∧ Below w.heap.size w w' := by
  by_cases hB : B = 32 ∨ B = 64
  · rcases hB with rfl | rfl
    · exact refReadU_all32 s hs n k e h.out w
    · exact refReadU_all64 s hs n k e h.out w
  · have h' := h.out
    rw [rU, if_neg hB] at h'
    injection h' with ha h'
    injection h' with hb hc
    subst ha hb hc
    exact refReadU_bad s B (by rw [bne_iff_ne]; intro h'; exact hB (.inl h')) (by rw [bne_iff_ne]; intro h'; exact hB (.inr h')) w
theorem refReadS_at (s : ByteArray) (B n k e : Int) (hs : s.size ≤ maxLen) (h : Hid (rS B (nums s) = (n, k, e))) (w : World) :
    Calls Try.prog 38 #[.string s, .int .i64 B] w fun e' w' => e' = .returned (.tuple #[.int .i64 n, .int .i64 k, .int .i64 e]) ∧ Below w.heap.size w w' := by
  by_cases hB : B = 32 ∨ B = 64
  · rcases hB with rfl | rfl
    · exact refReadS_all32 s hs n k e h.out w
    · exact refReadS_all64 s hs n k e h.out w
  · have h' := h.out
    rw [rS, if_neg hB] at h'
    injection h' with ha h'
    injection h' with hb hc
    subst ha hb hc
    exact refReadS_bad s B (by rw [bne_iff_ne]; intro h'; exact hB (.inl h')) (by rw [bne_iff_ne]; intro h'; exact hB (.inr h')) w

end Go.Proofs.Ytfmmefmpjejioaa
