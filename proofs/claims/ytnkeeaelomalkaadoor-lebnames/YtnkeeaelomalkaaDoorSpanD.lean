/-
  What the document's own span does.
-/
import Derived.Test.YtnkeeaelomalkaaDoorReadsU
import Derived.Test.YtnkeeaelomalkaaDoorStrs
namespace Go.Proofs.YtnkeeaelomalkaaDoor
open Go.RowKit

set_option maxHeartbeats 400000 in
set_option maxRecDepth 100000 in
theorem span_form32 (s : ByteArray) (hs : s.size ≤ maxLen) (hK : 5 ≤ s.size) (hall : ∀ i (h : i < s.size), i < 5 → 127 < (s[i].toNat : Int)) (w : World) :
    Calls Tryd.prog 22 #[.string s, .int .i64 32] w fun e w' => e = .returned (.tuple #[.int .i64 0, .int .i64 0, .int .i64 4]) ∧ w' = w := by
  unfold maxLen at hs
  go_enter Tryd.func22, Tryd.ntmps22
  go_wp2
  go_loop [8] (fun t => ∃ k : Nat, t = .int .i64 k ∧ k ≤ 5) (fun t => 5 - (intOf t).toNat)
  case atStart => exact ⟨0, rfl, by omega⟩
  case round =>
    obtain ⟨k, rfl, hk⟩ := hrel
    by_cases hc : k < 5
    · have hg := hall k (by omega) hc
      have hks : k < s.size := by omega
      clear hall
      go_wp2
      go_round
      case rel => exact ⟨k + 1, by go_num, by omega⟩
      case measure => simp [intOf]; omega
    · have hkK : k = 5 := by omega
      subst hkK
      clear hall
      go_wp2
      go_ret3
      exact ⟨rfl, rfl⟩

set_option maxHeartbeats 400000 in
set_option maxRecDepth 100000 in
theorem span_short32 (s : ByteArray) (hs : s.size ≤ maxLen) (hK : s.size < 5) (hall : ∀ i (h : i < s.size), 127 < (s[i].toNat : Int)) (w : World) :
    Calls Tryd.prog 22 #[.string s, .int .i64 32] w fun e w' => e = .returned (.tuple #[.int .i64 0, .int .i64 0, .int .i64 3]) ∧ w' = w := by
  unfold maxLen at hs
  go_enter Tryd.func22, Tryd.ntmps22
  go_wp2
  go_loop [8] (fun t => ∃ k : Nat, t = .int .i64 k ∧ k ≤ s.size) (fun t => s.size - (intOf t).toNat)
  case atStart => exact ⟨0, rfl, by omega⟩
  case round =>
    obtain ⟨k, rfl, hk⟩ := hrel
    by_cases hc : k < s.size
    · have hg := hall k hc
      have hks : k < s.size := by omega
      clear hall
      go_wp2
      go_round
      case rel => exact ⟨k + 1, by go_num, by omega⟩
      case measure => simp [intOf]; omega
    · have hkK : k = s.size := by omega
      subst hkK
      clear hall
      go_wp2
      go_ret3
      exact ⟨rfl, rfl⟩

set_option maxHeartbeats 400000 in
set_option maxRecDepth 100000 in
theorem span_good32 (s : ByteArray) (_hs : s.size ≤ maxLen) (K : Nat) (hK : K < 5) (hKs : K < s.size) (hall : ∀ i (h : i < s.size), i < K → 127 < (s[i].toNat : Int)) (hlast : ¬ 127 < (s[K].toNat : Int)) (w : World) :
    Calls Tryd.prog 22 #[.string s, .int .i64 32] w fun e w' => e = .returned (.tuple #[.int .i64 ((K : Int) + 1), .int .i64 5, .int .i64 0]) ∧ w' = w := by
  unfold maxLen at _hs
  go_enter Tryd.func22, Tryd.ntmps22
  go_wp2
  go_loop [8] (fun t => ∃ k : Nat, t = .int .i64 k ∧ k ≤ K) (fun t => K - (intOf t).toNat)
  case atStart => exact ⟨0, rfl, by omega⟩
  case round =>
    obtain ⟨k, rfl, hk⟩ := hrel
    by_cases hc : k < K
    · have hg := hall k (by omega) hc
      have hks : k < s.size := by omega
      clear hall
      go_wp2
      go_round
      case rel => exact ⟨k + 1, by go_num, by omega⟩
      case measure => simp [intOf]; omega
    · have hkK : k = K := by omega
      subst hkK
      clear hall
      go_wp2
      go_ret3
      exact ⟨rfl, rfl⟩

end Go.Proofs.YtnkeeaelomalkaaDoor
