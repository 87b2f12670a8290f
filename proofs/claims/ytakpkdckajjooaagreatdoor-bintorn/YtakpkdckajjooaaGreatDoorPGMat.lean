/-
  What the small functions of nest.Match do. What the program's own nest.Match does. What belongs together lies within one another, or apart: plain mathematics of a match. What belongs together lies within one another, or apart: of a whole body. The law of pairs: its small functions.
-/
import Derived.Test.YtakpkdckajjooaaGreatDoorPGNst
import Derived.Laws.MakeOwn
set_option maxHeartbeats 8000000
set_option maxRecDepth 1000000
namespace Go.Proofs.YtakpkdckajjooaaGreatDoor
set_option linter.unusedVariables false
open Go.RowKit
section
variable {w wr w' : World} {gE gS n : Nat} {op : List Nat} {E S : List Int} {o : Option Addr} {cap : Nat}
end
end Go.Proofs.YtakpkdckajjooaaGreatDoor
namespace Go.Proofs.YtakpkdckajjooaaGreatDoor
open Go.RowKit
end Go.Proofs.YtakpkdckajjooaaGreatDoor
namespace Go.Proofs.YtakpkdckajjooaaGreatDoor
section
variable {ops : Nat → Int} {n k : Nat} {st ini : List (Nat × Int)} {E S : List Int}
end
end Go.Proofs.YtakpkdckajjooaaGreatDoor
namespace Go.Proofs.YtakpkdckajjooaaGreatDoor
end Go.Proofs.YtakpkdckajjooaaGreatDoor
namespace Go.Proofs.YtakpkdckajjooaaGreatDoor
open Go.RowKit
theorem rest_any (n m k : Int) (_hm0 : 0 < m) (_hm1 : m ≤ 1000000) (hk : n % m = k) (_hn0 : -9223372036854775808 ≤ n) (_hn1 : n ≤ 9223372036854775807) (w : World) :
    Calls Tryz.prog 16 #[.int .i64 n, .int .i64 m] w fun e w' => e = .returned (.int .i64 k) ∧ w' = w := by
  have ht : n.tmod m = if 0 ≤ n ∨ n % m = 0 then n % m else n % m - m := by
    rw [Int.tmod_eq_emod]
    have hd : (m ∣ n) ↔ n % m = 0 := Int.dvd_iff_emod_eq_zero
    by_cases h1 : 0 ≤ n ∨ n % m = 0
    · rw [if_pos h1, if_pos (by rcases h1 with h1 | h1; exact Or.inl h1; exact Or.inr (hd.2 h1))]
      omega
    · rw [if_neg h1, if_neg (by intro h; apply h1; rcases h with h | h; exact Or.inl h; exact Or.inr (hd.1 h))]
      omega
  have h0 := Int.emod_nonneg n (b := m) (by omega)
  have h1 := Int.emod_lt_of_pos n _hm0
  rw [hk] at h0 h1 ht
  obtain ⟨t, htt⟩ : ∃ t, n.tmod m = t := ⟨_, rfl⟩
  rw [htt] at ht
  by_cases hneg : t < 0
  · have e : t + m = k := by
      split at ht <;> omega
    have e' : k = t + m := e.symm
    subst e'
    have hlo : -1000000 ≤ t := by omega
    clear ht hk h0 h1
    go_enter Tryz.func16, Tryz.ntmps16
    go_wp2
    go_ret
    exact ⟨rfl, rfl⟩
  · have e : t = k := by
      split at ht <;> omega
    subst e
    clear ht hk
    go_enter Tryz.func16, Tryz.ntmps16
    go_wp2
    go_ret
    exact ⟨rfl, rfl⟩
end Go.Proofs.YtakpkdckajjooaaGreatDoor
