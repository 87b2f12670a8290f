/-
  The closures of the law of bits that are turned round.
-/
import Derived.Test.YtlbilmgpnpghlabKeep2
import Derived.Test.YtlbilmgpnpghlabNumRot
import Derived.Test.YtlbilmgpnpghlabLex
import Derived.Laws.EntriesVeiled
import Derived.Deep.RegionWith
namespace Go.Proofs.Ytlbilmgpnpghlab
open Go.RowKit

set_option maxHeartbeats 4000000 in
set_option maxRecDepth 1000000 in
theorem c_NumTurns_1 (wd : Bool) (P : Nat) (x y z o : Int) (HW : Hid (∀ w, Calls Try.prog 8 #[.int .u8 119, .bool wd] w fun e w' => e = .returned (.int .u8 o) ∧ w' = w)) (Q : World → World → Prop) (HT : Hid (∀ w, Calls Try.prog 10 #[.int .u8 o, .int .i64 x, .int .i64 y] w fun e w' => e = .returned (.int .i64 z) ∧ Q w w')) (w : World) (_hc : w.cell? ⟨P, 0, none⟩ = some (.bool wd)) :
    Calls Try.prog 9 #[.int .i64 x, .int .i64 y, .pointer (some ⟨P, 0, none⟩)] w fun e w' => e = .returned (.int .i64 z) ∧ Q w w' := by
  go_enter Try.func9, Try.ntmps9
  go_wp2_with fail
  refine (HW.out _).mono ?_
  rintro e w1 ⟨rfl, rfl⟩
  go_wp2_with fail
  refine (HT.out _).mono ?_
  rintro e w2 ⟨rfl, b1⟩
  go_wp2
  go_ret
  exact ⟨rfl, b1⟩
set_option maxHeartbeats 4000000 in
set_option maxRecDepth 1000000 in
theorem c_NumTurns_2 (wd : Bool) (P : Nat) (x y z o : Int) (HW : Hid (∀ w, Calls Try.prog 8 #[.int .u8 120, .bool wd] w fun e w' => e = .returned (.int .u8 o) ∧ w' = w)) (Q : World → World → Prop) (HT : Hid (∀ w, Calls Try.prog 10 #[.int .u8 o, .int .i64 x, .int .i64 y] w fun e w' => e = .returned (.int .i64 z) ∧ Q w w')) (w : World) (_hc : w.cell? ⟨P, 0, none⟩ = some (.bool wd)) :
    Calls Try.prog 11 #[.int .i64 x, .int .i64 y, .pointer (some ⟨P, 0, none⟩)] w fun e w' => e = .returned (.int .i64 z) ∧ Q w w' := by
  go_enter Try.func11, Try.ntmps11
  go_wp2_with fail
  refine (HW.out _).mono ?_
  rintro e w1 ⟨rfl, rfl⟩
  go_wp2_with fail
  refine (HT.out _).mono ?_
  rintro e w2 ⟨rfl, b1⟩
  go_wp2
  go_ret
  exact ⟨rfl, b1⟩
set_option maxHeartbeats 4000000 in
set_option maxRecDepth 1000000 in
theorem c_NumTurns_3 (wd : Bool) (P : Nat) (x y z o : Int) (HW : Hid (∀ w, Calls Try.prog 8 #[.int .u8 116, .bool wd] w fun e w' => e = .returned (.int .u8 o) ∧ w' = w)) (Q : World → World → Prop) (HT : Hid (∀ w, Calls Try.prog 10 #[.int .u8 o, .int .i64 x, .int .i64 y] w fun e w' => e = .returned (.int .i64 z) ∧ Q w w')) (w : World) (_hc : w.cell? ⟨P, 0, none⟩ = some (.bool wd)) :
    Calls Try.prog 12 #[.int .i64 x, .int .i64 y, .pointer (some ⟨P, 0, none⟩)] w fun e w' => e = .returned (.int .i64 z) ∧ Q w w' := by
  go_enter Try.func12, Try.ntmps12
  go_wp2_with fail
  refine (HW.out _).mono ?_
  rintro e w1 ⟨rfl, rfl⟩
  go_wp2_with fail
  refine (HT.out _).mono ?_
  rintro e w2 ⟨rfl, b1⟩
  go_wp2
  go_ret
  exact ⟨rfl, b1⟩
set_option maxHeartbeats 1000000 in
set_option maxRecDepth 1000000 in
theorem rest_of_any (n m k : Int) (_hm0 : 0 < m) (_hm1 : m ≤ 64) (hk : n % m = k) (_hn0 : -9223372036854775808 ≤ n) (_hn1 : n ≤ 9223372036854775807) (w : World) :
    Calls Try.prog 13 #[.int .i64 n, .int .i64 m] w fun e w' => e = .returned (.int .i64 k) ∧ w' = w := by
  have ht : n.tmod m = if 0 ≤ n ∨ n % m = 0 then n % m else n % m - m := by
    rw [Int.tmod_eq_emod]
    have hd : (m ∣ n) ↔ n % m = 0 := Int.dvd_iff_emod_eq_zero
    by_cases h1 : 0 ≤ n ∨ n % m = 0
    · rw [if_pos h1, if_pos (by rcases h1 with h1 | h1; exact Or.inl h1; exact Or.inr (hd.2 h1))]
      omega
    · rw [if_neg h1, if_neg (by intro h; apply h1; rcases h with h | h; exact Or.inl h; exact Or.inr (hd.1 h))]
      omega
  have h0 := Int.emod_nonneg n (b := m) (by omega)
  have h1 := Int.emod_lt_of_pos n _hm0
  rw [hk] at h0 h1 ht
  obtain ⟨t, htt⟩ : ∃ t, n.tmod m = t := ⟨_, rfl⟩
  rw [htt] at ht
  by_cases hneg : t < 0
  · have e : t + m = k := by
      split at ht <;> omega
    have e' : k = t + m := e.symm
    subst e'
    have hlo : -64 ≤ t := by omega
    clear ht hk h0 h1
    go_enter Try.func13, Try.ntmps13
    go_wp2
    go_ret
    exact ⟨rfl, rfl⟩
  · have e : t = k := by
      split at ht <;> omega
    subst e
    clear ht hk
    go_enter Try.func13, Try.ntmps13
    go_wp2
    go_ret
    exact ⟨rfl, rfl⟩
theorem lexB_90 (ops : Array Oper) (hn : ops.size = 90) (hs : Region.noSelect ops = true) (he : (Region.ready .any ops (listedAt 90 90)).isEmpty = true) (c0 : someB ops 90 0 8 = true) (c8 : someB ops 90 8 16 = true) (c16 : someB ops 90 16 24 = true) (c24 : someB ops 90 24 32 = true) (c32 : someB ops 90 32 40 = true) (c40 : someB ops 90 40 48 = true) (c48 : someB ops 90 48 56 = true) (c56 : someB ops 90 56 64 = true) (c64 : someB ops 90 64 72 = true) (c72 : someB ops 90 72 80 = true) (c80 : someB ops 90 80 88 = true) (c88 : someB ops 90 88 90 = true) : Region.lexB .any ops = true := by
  refine lexB_of ops 90 hn hs he ?_
  intro j hj
  by_cases h0 : j < 8
  · exact someB_at c0 j (by omega) h0
  by_cases h8 : j < 16
  · exact someB_at c8 j (by omega) h8
  by_cases h16 : j < 24
  · exact someB_at c16 j (by omega) h16
  by_cases h24 : j < 32
  · exact someB_at c24 j (by omega) h24
  by_cases h32 : j < 40
  · exact someB_at c32 j (by omega) h32
  by_cases h40 : j < 48
  · exact someB_at c40 j (by omega) h40
  by_cases h48 : j < 56
  · exact someB_at c48 j (by omega) h48
  by_cases h56 : j < 64
  · exact someB_at c56 j (by omega) h56
  by_cases h64 : j < 72
  · exact someB_at c64 j (by omega) h64
  by_cases h72 : j < 80
  · exact someB_at c72 j (by omega) h72
  by_cases h80 : j < 88
  · exact someB_at c80 j (by omega) h80
  exact someB_at c88 j (by omega) hj
end Go.Proofs.Ytlbilmgpnpghlab
