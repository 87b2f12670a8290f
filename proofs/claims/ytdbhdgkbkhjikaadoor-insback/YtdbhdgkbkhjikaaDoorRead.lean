/-
  What leb.read does, with each of the two tests that it is handed.
-/
import Derived.Test.YtdbhdgkbkhjikaaDoorRows
import Derived.Test.YtdbhdgkbkhjikaaDoorReadMaths
import Derived.WalkKit
import Derived.WalkSpells
import Derived.Deep.QuietTactic
import Derived.BigQuiet
namespace Go.Proofs.YtdbhdgkbkhjikaaDoor
open Go.RowKit

theorem ret_b {b c : Bool} (h : b = c) : Ending.returned (.bool b) = .returned (.bool c) := by rw [h]
theorem ret_3 {k l j : IntKind} {a a' b b' c c' : Int} (h1 : a = a') (h2 : b = b') (h3 : c = c') : Ending.returned (.tuple #[.int k a, .int l b, .int j c]) = .returned (.tuple #[.int k a', .int l b', .int j c']) := by rw [h1, h2, h3]

set_option maxHeartbeats 400000 in
theorem fitU_at (b room : Int) (c : Bool) (_h0 : 0 ≤ b) (_h1 : b < 256) (h2 : 0 ≤ room) (h3 : room ≤ 7) (h : Hid (fitU b room = c)) (w : World) :
    Calls Tryd.prog 114 #[.int .u8 b, .int .i64 room] w fun e w' => e = .returned (.bool c) ∧ w' = w := by
  go_enter Tryd.func114, Tryd.ntmps114
  go_wp2
  go_ret
  exact ⟨ret_b h.out, rfl⟩

set_option maxHeartbeats 400000 in
theorem fitS_at (b room : Int) (c : Bool) (_h0 : 0 ≤ b) (_h1 : b < 256) (h2 : 1 ≤ room) (h3 : room ≤ 7) (h : Hid (fitS b room = c)) (w : World) :
    Calls Tryd.prog 86 #[.int .u8 b, .int .i64 room] w fun e w' => e = .returned (.bool c) ∧ w' = w := by
  go_enter Tryd.func86, Tryd.ntmps86
  go_wp2
  · go_ret
    refine ⟨ret_b ?_, rfl⟩
    rw [← h.out, fitS, ‹b / 2 ^ (room.toNat - 1) = 0›]; simp
  · go_ret
    exact ⟨ret_b h.out, rfl⟩

set_option maxHeartbeats 1000000 in
set_option maxRecDepth 1000000 in
theorem readU32 (s : ByteArray) (hs : s.size ≤ maxLen) (w : World) :
    Calls Tryd.prog 85 #[.string s, .int .i64 32, .func (.func 114) #[] #[]] w fun e w' => e = .returned (.tuple #[.int .u64 ((rdl fitU 32 (nums s) 0 0).1 % 18446744073709551616), .int .i64 (rdl fitU 32 (nums s) 0 0).2.1, .int .i64 (rdl fitU 32 (nums s) 0 0).2.2]) ∧ w' = w := by
  unfold maxLen at hs
  obtain ⟨R, hR⟩ : ∃ R, rdl fitU 32 (nums s) 0 0 = R := ⟨_, rfl⟩
  rw [hR]
  have HR : Hid (rdl fitU 32 (nums s) 0 0 = R) := hR
  clear hR
  go_enter Tryd.func85, Tryd.ntmps85
  go_wp2
  go_loop [9, 21] (fun t i => ∃ k : Nat, ∃ n : Int, i = .int .i64 k ∧ t = .int .u64 n ∧ k ≤ s.size ∧ 7 * (k : Int) < 32 ∧ 0 ≤ n ∧ n < 128 ^ k ∧ Hid (rdl fitU 32 ((nums s).drop k) k n = R)) (fun _ i => s.size - (intOf i).toNat)
  case atStart => exact ⟨0, 0, rfl, rfl, by omega, by omega, by omega, by omega, by simpa using HR⟩
  case round =>
    obtain ⟨k, n, rfl, rfl, hk, hk7, hn0, hn1, H⟩ := hrel
    by_cases hlt : k < s.size
    · have hd : Hid (rdl fitU 32 ((s[k].toNat : Int) :: (nums s).drop (k + 1)) k n = R) := by unfold Hid; rw [← nums_drop s k hlt]; exact H
      clear H HR
      have hb : s[k].toNat < 256 := s[k].toNat_lt
      have hand := and127_u8 s[k].toNat hb
      by_cases h7 : 32 - 7 * (k : Int) ≤ 7
      · by_cases h128 : 128 ≤ (s[k].toNat : Int)
        · go_wp2
          go_ret3
          rw [rdl_form h7 (.inl h128)] at hd
          exact ⟨by rw [← hd.out]; rfl, rfl⟩
        · cases hf : fitU (s[k].toNat : Int) (32 - 7 * (k : Int)) with
          | false =>
            have HF : Hid (fitU (s[k].toNat : Int) (32 - 7 * (k : Int)) = false) := hf
            clear hf
            go_wp2_with (go_at_call 114; refine (fitU_at _ _ _ (by omega) (by omega) (by omega) (by omega) HF _).mono ?_; rintro e w' ⟨rfl, rfl⟩)
            go_ret3
            rw [rdl_form h7 (.inr HF.out)] at hd
            exact ⟨by rw [← hd.out]; rfl, rfl⟩
          | true =>
            have HF : Hid (fitU (s[k].toNat : Int) (32 - 7 * (k : Int)) = true) := hf
            clear hf
            go_wp2_with (go_at_call 114; refine (fitU_at _ _ _ (by omega) (by omega) (by omega) (by omega) HF _).mono ?_; rintro e w' ⟨rfl, rfl⟩)
            go_ret3
            have e := hd.out
            rw [rdl_last (fun _ => HF.out) h128] at e
            rw [← e]
            exact ⟨ret_3 (by rw [or_shift n k s[k].toNat hn0 hn1 (by omega), Int.emod_eq_of_lt (by omega) h128]) rfl rfl, rfl⟩
      · by_cases h128 : (s[k].toNat : Int) < 128
        · go_wp2
          go_ret3
          have e := hd.out
          rw [rdl_last (fun h => by omega) h128] at e
          rw [← e]
          exact ⟨ret_3 (by rw [or_shift n k s[k].toNat hn0 hn1 (by omega), Int.emod_eq_of_lt (by omega) h128]) rfl rfl, rfl⟩
        · have hm := mod_more n k s[k].toNat hn0 hn1 (by omega)
          have HE : Hid (bits BinOp.or IntKind.u64 n (IntKind.u64.wrap ((s[k].toNat : Int) % 128 * 2 ^ (7 * k))) = n + (s[k].toNat : Int) % 128 * 128 ^ k) := by
            unfold Hid; rw [or_shift n k s[k].toNat hn0 hn1 (by omega)]; exact hm.1
          have HM : Hid _ := hm.2
          clear hm
          go_wp2
          go_round
          case rel =>
            refine ⟨k + 1, _, by go_num, rfl, by omega, by omega, ?_⟩
            rw [HE.out]
            refine ⟨HM.out.1, HM.out.2, ?_⟩
            have e := hd.out
            rw [rdl_more h7 h128] at e
            unfold Hid
            rw [show (s[k].toNat : Int) % 128 = (s[k].toNat : Int) - 128 from by omega]
            exact e
          case measure => simp [intOf]; omega
    · go_wp2
      go_ret3
      have := H.out
      rw [List.drop_eq_nil_of_le (by rw [nums_length]; omega)] at this
      exact ⟨by rw [← this]; rfl, rfl⟩

set_option maxHeartbeats 1000000 in
set_option maxRecDepth 1000000 in
theorem readU64 (s : ByteArray) (hs : s.size ≤ maxLen) (w : World) :
    Calls Tryd.prog 85 #[.string s, .int .i64 64, .func (.func 114) #[] #[]] w fun e w' => e = .returned (.tuple #[.int .u64 ((rdl fitU 64 (nums s) 0 0).1 % 18446744073709551616), .int .i64 (rdl fitU 64 (nums s) 0 0).2.1, .int .i64 (rdl fitU 64 (nums s) 0 0).2.2]) ∧ w' = w := by
  unfold maxLen at hs
  obtain ⟨R, hR⟩ : ∃ R, rdl fitU 64 (nums s) 0 0 = R := ⟨_, rfl⟩
  rw [hR]
  have HR : Hid (rdl fitU 64 (nums s) 0 0 = R) := hR
  clear hR
  go_enter Tryd.func85, Tryd.ntmps85
  go_wp2
  go_loop [9, 21] (fun t i => ∃ k : Nat, ∃ n : Int, i = .int .i64 k ∧ t = .int .u64 n ∧ k ≤ s.size ∧ 7 * (k : Int) < 64 ∧ 0 ≤ n ∧ n < 128 ^ k ∧ Hid (rdl fitU 64 ((nums s).drop k) k n = R)) (fun _ i => s.size - (intOf i).toNat)
  case atStart => exact ⟨0, 0, rfl, rfl, by omega, by omega, by omega, by omega, by simpa using HR⟩
  case round =>
    obtain ⟨k, n, rfl, rfl, hk, hk7, hn0, hn1, H⟩ := hrel
    by_cases hlt : k < s.size
    · have hd : Hid (rdl fitU 64 ((s[k].toNat : Int) :: (nums s).drop (k + 1)) k n = R) := by unfold Hid; rw [← nums_drop s k hlt]; exact H
      clear H HR
      have hb : s[k].toNat < 256 := s[k].toNat_lt
      have hand := and127_u8 s[k].toNat hb
      by_cases h7 : 64 - 7 * (k : Int) ≤ 7
      · by_cases h128 : 128 ≤ (s[k].toNat : Int)
        · go_wp2
          go_ret3
          rw [rdl_form h7 (.inl h128)] at hd
          exact ⟨by rw [← hd.out]; rfl, rfl⟩
        · cases hf : fitU (s[k].toNat : Int) (64 - 7 * (k : Int)) with
          | false =>
            have HF : Hid (fitU (s[k].toNat : Int) (64 - 7 * (k : Int)) = false) := hf
            clear hf
            go_wp2_with (go_at_call 114; refine (fitU_at _ _ _ (by omega) (by omega) (by omega) (by omega) HF _).mono ?_; rintro e w' ⟨rfl, rfl⟩)
            go_ret3
            rw [rdl_form h7 (.inr HF.out)] at hd
            exact ⟨by rw [← hd.out]; rfl, rfl⟩
          | true =>
            have HF : Hid (fitU (s[k].toNat : Int) (64 - 7 * (k : Int)) = true) := hf
            clear hf
            go_wp2_with (go_at_call 114; refine (fitU_at _ _ _ (by omega) (by omega) (by omega) (by omega) HF _).mono ?_; rintro e w' ⟨rfl, rfl⟩)
            go_ret3
            have e := hd.out
            rw [rdl_last (fun _ => HF.out) h128] at e
            rw [← e]
            exact ⟨ret_3 (by rw [or_shift n k s[k].toNat hn0 hn1 (by omega), Int.emod_eq_of_lt (by omega) h128]) rfl rfl, rfl⟩
      · by_cases h128 : (s[k].toNat : Int) < 128
        · go_wp2
          go_ret3
          have e := hd.out
          rw [rdl_last (fun h => by omega) h128] at e
          rw [← e]
          exact ⟨ret_3 (by rw [or_shift n k s[k].toNat hn0 hn1 (by omega), Int.emod_eq_of_lt (by omega) h128]) rfl rfl, rfl⟩
        · have hm := mod_more n k s[k].toNat hn0 hn1 (by omega)
          have HE : Hid (bits BinOp.or IntKind.u64 n (IntKind.u64.wrap ((s[k].toNat : Int) % 128 * 2 ^ (7 * k))) = n + (s[k].toNat : Int) % 128 * 128 ^ k) := by
            unfold Hid; rw [or_shift n k s[k].toNat hn0 hn1 (by omega)]; exact hm.1
          have HM : Hid _ := hm.2
          clear hm
          go_wp2
          go_round
          case rel =>
            refine ⟨k + 1, _, by go_num, rfl, by omega, by omega, ?_⟩
            rw [HE.out]
            refine ⟨HM.out.1, HM.out.2, ?_⟩
            have e := hd.out
            rw [rdl_more h7 h128] at e
            unfold Hid
            rw [show (s[k].toNat : Int) % 128 = (s[k].toNat : Int) - 128 from by omega]
            exact e
          case measure => simp [intOf]; omega
    · go_wp2
      go_ret3
      have := H.out
      rw [List.drop_eq_nil_of_le (by rw [nums_length]; omega)] at this
      exact ⟨by rw [← this]; rfl, rfl⟩

set_option maxHeartbeats 1000000 in
set_option maxRecDepth 1000000 in
theorem readS32 (s : ByteArray) (hs : s.size ≤ maxLen) (w : World) :
    Calls Tryd.prog 85 #[.string s, .int .i64 32, .func (.func 86) #[] #[]] w fun e w' => e = .returned (.tuple #[.int .u64 ((rdl fitS 32 (nums s) 0 0).1 % 18446744073709551616), .int .i64 (rdl fitS 32 (nums s) 0 0).2.1, .int .i64 (rdl fitS 32 (nums s) 0 0).2.2]) ∧ w' = w := by
  unfold maxLen at hs
  obtain ⟨R, hR⟩ : ∃ R, rdl fitS 32 (nums s) 0 0 = R := ⟨_, rfl⟩
  rw [hR]
  have HR : Hid (rdl fitS 32 (nums s) 0 0 = R) := hR
  clear hR
  go_enter Tryd.func85, Tryd.ntmps85
  go_wp2
  go_loop [9, 21] (fun t i => ∃ k : Nat, ∃ n : Int, i = .int .i64 k ∧ t = .int .u64 n ∧ k ≤ s.size ∧ 7 * (k : Int) < 32 ∧ 0 ≤ n ∧ n < 128 ^ k ∧ Hid (rdl fitS 32 ((nums s).drop k) k n = R)) (fun _ i => s.size - (intOf i).toNat)
  case atStart => exact ⟨0, 0, rfl, rfl, by omega, by omega, by omega, by omega, by simpa using HR⟩
  case round =>
    obtain ⟨k, n, rfl, rfl, hk, hk7, hn0, hn1, H⟩ := hrel
    by_cases hlt : k < s.size
    · have hd : Hid (rdl fitS 32 ((s[k].toNat : Int) :: (nums s).drop (k + 1)) k n = R) := by unfold Hid; rw [← nums_drop s k hlt]; exact H
      clear H HR
      have hb : s[k].toNat < 256 := s[k].toNat_lt
      have hand := and127_u8 s[k].toNat hb
      by_cases h7 : 32 - 7 * (k : Int) ≤ 7
      · by_cases h128 : 128 ≤ (s[k].toNat : Int)
        · go_wp2
          go_ret3
          rw [rdl_form h7 (.inl h128)] at hd
          exact ⟨by rw [← hd.out]; rfl, rfl⟩
        · cases hf : fitS (s[k].toNat : Int) (32 - 7 * (k : Int)) with
          | false =>
            have HF : Hid (fitS (s[k].toNat : Int) (32 - 7 * (k : Int)) = false) := hf
            clear hf
            go_wp2_with (go_at_call 86; refine (fitS_at _ _ _ (by omega) (by omega) (by omega) (by omega) HF _).mono ?_; rintro e w' ⟨rfl, rfl⟩)
            go_ret3
            rw [rdl_form h7 (.inr HF.out)] at hd
            exact ⟨by rw [← hd.out]; rfl, rfl⟩
          | true =>
            have HF : Hid (fitS (s[k].toNat : Int) (32 - 7 * (k : Int)) = true) := hf
            clear hf
            go_wp2_with (go_at_call 86; refine (fitS_at _ _ _ (by omega) (by omega) (by omega) (by omega) HF _).mono ?_; rintro e w' ⟨rfl, rfl⟩)
            go_ret3
            have e := hd.out
            rw [rdl_last (fun _ => HF.out) h128] at e
            rw [← e]
            exact ⟨ret_3 (by rw [or_shift n k s[k].toNat hn0 hn1 (by omega), Int.emod_eq_of_lt (by omega) h128]) rfl rfl, rfl⟩
      · by_cases h128 : (s[k].toNat : Int) < 128
        · go_wp2
          go_ret3
          have e := hd.out
          rw [rdl_last (fun h => by omega) h128] at e
          rw [← e]
          exact ⟨ret_3 (by rw [or_shift n k s[k].toNat hn0 hn1 (by omega), Int.emod_eq_of_lt (by omega) h128]) rfl rfl, rfl⟩
        · have hm := mod_more n k s[k].toNat hn0 hn1 (by omega)
          have HE : Hid (bits BinOp.or IntKind.u64 n (IntKind.u64.wrap ((s[k].toNat : Int) % 128 * 2 ^ (7 * k))) = n + (s[k].toNat : Int) % 128 * 128 ^ k) := by
            unfold Hid; rw [or_shift n k s[k].toNat hn0 hn1 (by omega)]; exact hm.1
          have HM : Hid _ := hm.2
          clear hm
          go_wp2
          go_round
          case rel =>
            refine ⟨k + 1, _, by go_num, rfl, by omega, by omega, ?_⟩
            rw [HE.out]
            refine ⟨HM.out.1, HM.out.2, ?_⟩
            have e := hd.out
            rw [rdl_more h7 h128] at e
            unfold Hid
            rw [show (s[k].toNat : Int) % 128 = (s[k].toNat : Int) - 128 from by omega]
            exact e
          case measure => simp [intOf]; omega
    · go_wp2
      go_ret3
      have := H.out
      rw [List.drop_eq_nil_of_le (by rw [nums_length]; omega)] at this
      exact ⟨by rw [← this]; rfl, rfl⟩

set_option maxHeartbeats 1000000 in
set_option maxRecDepth 1000000 in
theorem readS64 (s : ByteArray) (hs : s.size ≤ maxLen) (w : World) :
    Calls Tryd.prog 85 #[.string s, .int .i64 64, .func (.func 86) #[] #[]] w fun e w' => e = .returned (.tuple #[.int .u64 ((rdl fitS 64 (nums s) 0 0).1 % 18446744073709551616), .int .i64 (rdl fitS 64 (nums s) 0 0).2.1, .int .i64 (rdl fitS 64 (nums s) 0 0).2.2]) ∧ w' = w := by
  unfold maxLen at hs
  obtain ⟨R, hR⟩ : ∃ R, rdl fitS 64 (nums s) 0 0 = R := ⟨_, rfl⟩
  rw [hR]
  have HR : Hid (rdl fitS 64 (nums s) 0 0 = R) := hR
  clear hR
  go_enter Tryd.func85, Tryd.ntmps85
  go_wp2
  go_loop [9, 21] (fun t i => ∃ k : Nat, ∃ n : Int, i = .int .i64 k ∧ t = .int .u64 n ∧ k ≤ s.size ∧ 7 * (k : Int) < 64 ∧ 0 ≤ n ∧ n < 128 ^ k ∧ Hid (rdl fitS 64 ((nums s).drop k) k n = R)) (fun _ i => s.size - (intOf i).toNat)
  case atStart => exact ⟨0, 0, rfl, rfl, by omega, by omega, by omega, by omega, by simpa using HR⟩
  case round =>
    obtain ⟨k, n, rfl, rfl, hk, hk7, hn0, hn1, H⟩ := hrel
    by_cases hlt : k < s.size
    · have hd : Hid (rdl fitS 64 ((s[k].toNat : Int) :: (nums s).drop (k + 1)) k n = R) := by unfold Hid; rw [← nums_drop s k hlt]; exact H
      clear H HR
      have hb : s[k].toNat < 256 := s[k].toNat_lt
      have hand := and127_u8 s[k].toNat hb
      by_cases h7 : 64 - 7 * (k : Int) ≤ 7
      · by_cases h128 : 128 ≤ (s[k].toNat : Int)
        · go_wp2
          go_ret3
          rw [rdl_form h7 (.inl h128)] at hd
          exact ⟨by rw [← hd.out]; rfl, rfl⟩
        · cases hf : fitS (s[k].toNat : Int) (64 - 7 * (k : Int)) with
          | false =>
            have HF : Hid (fitS (s[k].toNat : Int) (64 - 7 * (k : Int)) = false) := hf
            clear hf
            go_wp2_with (go_at_call 86; refine (fitS_at _ _ _ (by omega) (by omega) (by omega) (by omega) HF _).mono ?_; rintro e w' ⟨rfl, rfl⟩)
            go_ret3
            rw [rdl_form h7 (.inr HF.out)] at hd
            exact ⟨by rw [← hd.out]; rfl, rfl⟩
          | true =>
            have HF : Hid (fitS (s[k].toNat : Int) (64 - 7 * (k : Int)) = true) := hf
            clear hf
            go_wp2_with (go_at_call 86; refine (fitS_at _ _ _ (by omega) (by omega) (by omega) (by omega) HF _).mono ?_; rintro e w' ⟨rfl, rfl⟩)
            go_ret3
            have e := hd.out
            rw [rdl_last (fun _ => HF.out) h128] at e
            rw [← e]
            exact ⟨ret_3 (by rw [or_shift n k s[k].toNat hn0 hn1 (by omega), Int.emod_eq_of_lt (by omega) h128]) rfl rfl, rfl⟩
      · by_cases h128 : (s[k].toNat : Int) < 128
        · go_wp2
          go_ret3
          have e := hd.out
          rw [rdl_last (fun h => by omega) h128] at e
          rw [← e]
          exact ⟨ret_3 (by rw [or_shift n k s[k].toNat hn0 hn1 (by omega), Int.emod_eq_of_lt (by omega) h128]) rfl rfl, rfl⟩
        · have hm := mod_more n k s[k].toNat hn0 hn1 (by omega)
          have HE : Hid (bits BinOp.or IntKind.u64 n (IntKind.u64.wrap ((s[k].toNat : Int) % 128 * 2 ^ (7 * k))) = n + (s[k].toNat : Int) % 128 * 128 ^ k) := by
            unfold Hid; rw [or_shift n k s[k].toNat hn0 hn1 (by omega)]; exact hm.1
          have HM : Hid _ := hm.2
          clear hm
          go_wp2
          go_round
          case rel =>
            refine ⟨k + 1, _, by go_num, rfl, by omega, by omega, ?_⟩
            rw [HE.out]
            refine ⟨HM.out.1, HM.out.2, ?_⟩
            have e := hd.out
            rw [rdl_more h7 h128] at e
            unfold Hid
            rw [show (s[k].toNat : Int) % 128 = (s[k].toNat : Int) - 128 from by omega]
            exact e
          case measure => simp [intOf]; omega
    · go_wp2
      go_ret3
      have := H.out
      rw [List.drop_eq_nil_of_le (by rw [nums_length]; omega)] at this
      exact ⟨by rw [← this]; rfl, rfl⟩

end Go.Proofs.YtdbhdgkbkhjikaaDoor
