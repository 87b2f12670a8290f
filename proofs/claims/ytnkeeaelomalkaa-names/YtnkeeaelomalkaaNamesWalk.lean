/-
  Names, walked: the numbers of errors, kinds, ends and limits.
-/
import Derived.Test.YtnkeeaelomalkaaRows
import Derived.WalkKit
import Derived.WalkSpells
namespace Go.Proofs.Ytnkeeaelomalkaa
open Go.RowKit

set_option maxHeartbeats 400000 in
set_option maxRecDepth 1000000 in
theorem eq_any (w : World) (b1 b2 n c1 c2 : Nat) (zs : List Int) (hn : n ≤ 100) (h1 : ∀ j, j < n → w.cell? ⟨b1, j, none⟩ = some (.int .i64 (zs.getD j 0))) (h2 : ∀ j, j < n → w.cell? ⟨b2, j, none⟩ = some (.int .i64 (zs.getD j 0))) :
    Calls Try.prog 8 #[.slice (some ⟨b1, 0, none⟩) n c1, .slice (some ⟨b2, 0, none⟩) n c2] w fun e w' => e = .returned (.bool true) ∧ w' = w := by
  go_enter Try.func8, Try.ntmps8
  go_wp2
  go_loop [14] (fun i => ∃ k : Nat, k ≤ n ∧ i = .int .i64 k) (fun i => n - (intOf i).toNat)
  case atStart => exact ⟨0, Nat.zero_le _, rfl⟩
  case round =>
    obtain ⟨k, hk, rfl⟩ := hrel
    by_cases hlt : k < n
    · have g1 := h1 k hlt
      have g2 := h2 k hlt
      go_wp2
      go_round
      case rel => exact ⟨k + 1, by omega, by go_num⟩
      case measure => simp [intOf]; omega
    · go_wp2
      go_ret
      exact ⟨rfl, rfl⟩

theorem row_cells (w : World) (zs : List Int) (t : TypeId) : ∀ j, j < zs.length → (w.alloc (.cells (zs.map (Value.int .i64)).toArray t)).cell? ⟨w.heap.size, j, none⟩ = some (.int .i64 (zs.getD j 0)) := by
  intro j hj
  rw [World.cell?_alloc_at _ _ _ _ rfl]
  simp [List.getElem?_eq_getElem hj]
theorem errs_cells (w : World) (t : TypeId) (k : Nat) (h : k < 17) : (w.alloc (.cells #[.int .i64 0, .int .i64 1, .int .i64 2, .int .i64 3, .int .i64 4, .int .i64 5, .int .i64 6, .int .i64 7, .int .i64 8, .int .i64 9, .int .i64 10, .int .i64 11, .int .i64 12, .int .i64 13, .int .i64 14, .int .i64 15, .int .i64 16] t)).cell? ⟨w.heap.size, k, none⟩ = some (.int .i64 (k : Int)) := by
  have c := row_cells w [0, 1, 2, 3, 4, 5, 6, 7, 8, 9, 10, 11, 12, 13, 14, 15, 16] t k h
  have e : ∀ k : Fin 17, ([0, 1, 2, 3, 4, 5, 6, 7, 8, 9, 10, 11, 12, 13, 14, 15, 16] : List Int).getD k.val 0 = (k.val : Int) := by decide
  rw [e ⟨k, h⟩] at c
  exact c
theorem ends_cells (w : World) (t : TypeId) (k : Nat) (h : k < 9) : (w.alloc (.cells #[.int .i64 20, .int .i64 21, .int .i64 22, .int .i64 23, .int .i64 24, .int .i64 25, .int .i64 26, .int .i64 27, .int .i64 28] t)).cell? ⟨w.heap.size, k, none⟩ = some (.int .i64 (20 + (k : Int))) := by
  have c := row_cells w [20, 21, 22, 23, 24, 25, 26, 27, 28] t k h
  have e : ∀ k : Fin 9, ([20, 21, 22, 23, 24, 25, 26, 27, 28] : List Int).getD k.val 0 = 20 + (k.val : Int) := by decide
  rw [e ⟨k, h⟩] at c
  exact c
theorem lim_cells (w : World) (t : TypeId) : (∀ k, k < 20 → (w.alloc (.cells #[.int .i64 4096, .int .i64 16, .int .i64 16, .int .i64 4, .int .i64 16, .int .i64 16, .int .i64 16, .int .i64 200, .int .i64 12, .int .i64 16, .int .i64 16, .int .i64 8, .int .i64 256, .int .i64 8, .int .i64 8, .int .i64 4, .int .i64 4, .int .i64 64, .int .i64 40, .int .i64 100000] t)).cell? ⟨w.heap.size, k, none⟩ = some (.int .i64 (([4096, 16, 16, 4, 16, 16, 16, 200, 12, 16, 16, 8, 256, 8, 8, 4, 4, 64, 40, 100000] : List Int).getD k 0))) :=
  row_cells w [4096, 16, 16, 4, 16, 16, 16, 200, 12, 16, 16, 8, 256, 8, 8, 4, 4, 64, 40, 100000] t
theorem more_cells (w : World) (t : TypeId) : (∀ k, k < 22 → (w.alloc (.cells #[.int .i64 6000, .int .i64 32, .int .i64 16, .int .i64 32, .int .i64 1099511627776, .int .i64 16, .int .i64 64, .int .i64 8, .int .i64 64, .int .i64 64, .int .i64 4, .int .i64 3, .int .i64 64, .int .i64 3, .int .i64 40, .int .i64 2000, .int .i64 200, .int .i64 4, .int .i64 8, .int .i64 40, .int .i64 60, .int .i64 200] t)).cell? ⟨w.heap.size, k, none⟩ = some (.int .i64 (([6000, 32, 16, 32, 1099511627776, 16, 64, 8, 64, 64, 4, 3, 64, 3, 40, 2000, 200, 4, 8, 40, 60, 200] : List Int).getD k 0))) :=
  row_cells w [6000, 32, 16, 32, 1099511627776, 16, 64, 8, 64, 64, 4, 3, 64, 3, 40, 2000, 200, 4, 8, 40, 60, 200] t
theorem later {P : Nat → Int} {w : World} {b n : Nat} (o : Obj) (h : ∀ k, k < n → w.cell? ⟨b, k, none⟩ = some (.int .i64 (P k))) (hb : b < w.heap.size) : ∀ k, k < n → (w.alloc o).cell? ⟨b, k, none⟩ = some (.int .i64 (P k)) := by
  intro k hk
  rw [World.cell?_alloc_past _ _ _ hb]
  exact h k hk

set_option maxHeartbeats 1000000 in
set_option maxRecDepth 1000000 in
theorem names_walk (w : World) :
    Calls Try.prog 3 #[] w fun e w' => e = .returned (.bool true) ∧ Below w.heap.size w w' := by
  have c1 := errs_cells w 22
  have b1 : Below w.heap.size w (w.alloc (.cells #[.int .i64 0, .int .i64 1, .int .i64 2, .int .i64 3, .int .i64 4, .int .i64 5, .int .i64 6, .int .i64 7, .int .i64 8, .int .i64 9, .int .i64 10, .int .i64 11, .int .i64 12, .int .i64 13, .int .i64 14, .int .i64 15, .int .i64 16] 22)) := (Below.refl _ _).alloc (Nat.le_refl _) _
  go_enter Try.func3, Try.ntmps3
  go_wp2
  generalize hW : w.alloc (.cells #[.int .i64 0, .int .i64 1, .int .i64 2, .int .i64 3, .int .i64 4, .int .i64 5, .int .i64 6, .int .i64 7, .int .i64 8, .int .i64 9, .int .i64 10, .int .i64 11, .int .i64 12, .int .i64 13, .int .i64 14, .int .i64 15, .int .i64 16] 22) = W1 at c1 b1 ⊢
  clear hW
  go_loop [12] (fun i => ∃ k : Nat, k ≤ 17 ∧ i = .int .i64 k) (fun i => 17 - (intOf i).toNat)
  case atStart => exact ⟨0, Nat.zero_le _, rfl⟩
  case round =>
    obtain ⟨k, hk, rfl⟩ := hrel
    by_cases hlt : k < 17
    · have g1 := c1 k hlt
      clear c1
      go_wp2
      go_round
      case rel => exact ⟨k + 1, by omega, by go_num⟩
      case measure => simp [intOf]; omega
    · clear c1
      have c2 := ends_cells W1 22
      have b2 : Below w.heap.size w (W1.alloc (.cells #[.int .i64 20, .int .i64 21, .int .i64 22, .int .i64 23, .int .i64 24, .int .i64 25, .int .i64 26, .int .i64 27, .int .i64 28] 22)) := b1.alloc b1.size _
      go_wp2
      generalize hW : W1.alloc (.cells #[.int .i64 20, .int .i64 21, .int .i64 22, .int .i64 23, .int .i64 24, .int .i64 25, .int .i64 26, .int .i64 27, .int .i64 28] 22) = W2 at c2 b2 ⊢
      clear hW
      go_loop [24] (fun i => ∃ k : Nat, k ≤ 9 ∧ i = .int .i64 k) (fun i => 9 - (intOf i).toNat)
      case atStart => exact ⟨0, Nat.zero_le _, rfl⟩
      case round =>
        obtain ⟨k, hk, rfl⟩ := hrel
        by_cases hlt : k < 9
        · have g1 := c2 k hlt
          clear c2
          go_wp2
          go_round
          case rel => exact ⟨k + 1, by omega, by go_num⟩
          case measure => simp [intOf]; omega
        · clear c2
          go_wp2_with fail
          have d1 : ∀ k, k < 20 → ((W2.alloc (.cells #[.int .i64 4096, .int .i64 16, .int .i64 16, .int .i64 4, .int .i64 16, .int .i64 16, .int .i64 16, .int .i64 200, .int .i64 12, .int .i64 16, .int .i64 16, .int .i64 8, .int .i64 256, .int .i64 8, .int .i64 8, .int .i64 4, .int .i64 4, .int .i64 64, .int .i64 40, .int .i64 100000] 3)).alloc (.cells #[.int .i64 4096, .int .i64 16, .int .i64 16, .int .i64 4, .int .i64 16, .int .i64 16, .int .i64 16, .int .i64 200, .int .i64 12, .int .i64 16, .int .i64 16, .int .i64 8, .int .i64 256, .int .i64 8, .int .i64 8, .int .i64 4, .int .i64 4, .int .i64 64, .int .i64 40, .int .i64 100000] 3)).cell? ⟨W2.heap.size, k, none⟩ = some (.int .i64 (([4096, 16, 16, 4, 16, 16, 16, 200, 12, 16, 16, 8, 256, 8, 8, 4, 4, 64, 40, 100000] : List Int).getD k 0)) := later _ (lim_cells W2 3) (by simp)
          have d2 : ∀ k, k < 20 → ((W2.alloc (.cells #[.int .i64 4096, .int .i64 16, .int .i64 16, .int .i64 4, .int .i64 16, .int .i64 16, .int .i64 16, .int .i64 200, .int .i64 12, .int .i64 16, .int .i64 16, .int .i64 8, .int .i64 256, .int .i64 8, .int .i64 8, .int .i64 4, .int .i64 4, .int .i64 64, .int .i64 40, .int .i64 100000] 3)).alloc (.cells #[.int .i64 4096, .int .i64 16, .int .i64 16, .int .i64 4, .int .i64 16, .int .i64 16, .int .i64 16, .int .i64 200, .int .i64 12, .int .i64 16, .int .i64 16, .int .i64 8, .int .i64 256, .int .i64 8, .int .i64 8, .int .i64 4, .int .i64 4, .int .i64 64, .int .i64 40, .int .i64 100000] 3)).cell? ⟨W2.heap.size + 1, k, none⟩ = some (.int .i64 (([4096, 16, 16, 4, 16, 16, 16, 200, 12, 16, 16, 8, 256, 8, 8, 4, 4, 64, 40, 100000] : List Int).getD k 0)) := by
            have := lim_cells (W2.alloc (.cells #[.int .i64 4096, .int .i64 16, .int .i64 16, .int .i64 4, .int .i64 16, .int .i64 16, .int .i64 16, .int .i64 200, .int .i64 12, .int .i64 16, .int .i64 16, .int .i64 8, .int .i64 256, .int .i64 8, .int .i64 8, .int .i64 4, .int .i64 4, .int .i64 64, .int .i64 40, .int .i64 100000] 3)) 3
            rw [World.size_alloc] at this
            exact this
          have b4 : Below w.heap.size w ((W2.alloc (.cells #[.int .i64 4096, .int .i64 16, .int .i64 16, .int .i64 4, .int .i64 16, .int .i64 16, .int .i64 16, .int .i64 200, .int .i64 12, .int .i64 16, .int .i64 16, .int .i64 8, .int .i64 256, .int .i64 8, .int .i64 8, .int .i64 4, .int .i64 4, .int .i64 64, .int .i64 40, .int .i64 100000] 3)).alloc (.cells #[.int .i64 4096, .int .i64 16, .int .i64 16, .int .i64 4, .int .i64 16, .int .i64 16, .int .i64 16, .int .i64 200, .int .i64 12, .int .i64 16, .int .i64 16, .int .i64 8, .int .i64 256, .int .i64 8, .int .i64 8, .int .i64 4, .int .i64 4, .int .i64 64, .int .i64 40, .int .i64 100000] 3)) := (b2.alloc b2.size _).alloc (b2.alloc b2.size _).size _
          refine (eq_any _ W2.heap.size (W2.heap.size + 1) 20 20 20 [4096, 16, 16, 4, 16, 16, 16, 200, 12, 16, 16, 8, 256, 8, 8, 4, 4, 64, 40, 100000] (by omega) d1 d2).mono ?_
          rintro e w' ⟨rfl, hw⟩
          subst hw
          clear d1 d2
          generalize hW : (W2.alloc (.cells #[.int .i64 4096, .int .i64 16, .int .i64 16, .int .i64 4, .int .i64 16, .int .i64 16, .int .i64 16, .int .i64 200, .int .i64 12, .int .i64 16, .int .i64 16, .int .i64 8, .int .i64 256, .int .i64 8, .int .i64 8, .int .i64 4, .int .i64 4, .int .i64 64, .int .i64 40, .int .i64 100000] 3)).alloc (.cells #[.int .i64 4096, .int .i64 16, .int .i64 16, .int .i64 4, .int .i64 16, .int .i64 16, .int .i64 16, .int .i64 200, .int .i64 12, .int .i64 16, .int .i64 16, .int .i64 8, .int .i64 256, .int .i64 8, .int .i64 8, .int .i64 4, .int .i64 4, .int .i64 64, .int .i64 40, .int .i64 100000] 3) = W4 at b4 ⊢
          clear hW
          go_wp2_with fail
          have d1 : ∀ k, k < 22 → ((W4.alloc (.cells #[.int .i64 6000, .int .i64 32, .int .i64 16, .int .i64 32, .int .i64 1099511627776, .int .i64 16, .int .i64 64, .int .i64 8, .int .i64 64, .int .i64 64, .int .i64 4, .int .i64 3, .int .i64 64, .int .i64 3, .int .i64 40, .int .i64 2000, .int .i64 200, .int .i64 4, .int .i64 8, .int .i64 40, .int .i64 60, .int .i64 200] 3)).alloc (.cells #[.int .i64 6000, .int .i64 32, .int .i64 16, .int .i64 32, .int .i64 1099511627776, .int .i64 16, .int .i64 64, .int .i64 8, .int .i64 64, .int .i64 64, .int .i64 4, .int .i64 3, .int .i64 64, .int .i64 3, .int .i64 40, .int .i64 2000, .int .i64 200, .int .i64 4, .int .i64 8, .int .i64 40, .int .i64 60, .int .i64 200] 3)).cell? ⟨W4.heap.size, k, none⟩ = some (.int .i64 (([6000, 32, 16, 32, 1099511627776, 16, 64, 8, 64, 64, 4, 3, 64, 3, 40, 2000, 200, 4, 8, 40, 60, 200] : List Int).getD k 0)) := later _ (more_cells W4 3) (by simp)
          have d2 : ∀ k, k < 22 → ((W4.alloc (.cells #[.int .i64 6000, .int .i64 32, .int .i64 16, .int .i64 32, .int .i64 1099511627776, .int .i64 16, .int .i64 64, .int .i64 8, .int .i64 64, .int .i64 64, .int .i64 4, .int .i64 3, .int .i64 64, .int .i64 3, .int .i64 40, .int .i64 2000, .int .i64 200, .int .i64 4, .int .i64 8, .int .i64 40, .int .i64 60, .int .i64 200] 3)).alloc (.cells #[.int .i64 6000, .int .i64 32, .int .i64 16, .int .i64 32, .int .i64 1099511627776, .int .i64 16, .int .i64 64, .int .i64 8, .int .i64 64, .int .i64 64, .int .i64 4, .int .i64 3, .int .i64 64, .int .i64 3, .int .i64 40, .int .i64 2000, .int .i64 200, .int .i64 4, .int .i64 8, .int .i64 40, .int .i64 60, .int .i64 200] 3)).cell? ⟨W4.heap.size + 1, k, none⟩ = some (.int .i64 (([6000, 32, 16, 32, 1099511627776, 16, 64, 8, 64, 64, 4, 3, 64, 3, 40, 2000, 200, 4, 8, 40, 60, 200] : List Int).getD k 0)) := by
            have := more_cells (W4.alloc (.cells #[.int .i64 6000, .int .i64 32, .int .i64 16, .int .i64 32, .int .i64 1099511627776, .int .i64 16, .int .i64 64, .int .i64 8, .int .i64 64, .int .i64 64, .int .i64 4, .int .i64 3, .int .i64 64, .int .i64 3, .int .i64 40, .int .i64 2000, .int .i64 200, .int .i64 4, .int .i64 8, .int .i64 40, .int .i64 60, .int .i64 200] 3)) 3
            rw [World.size_alloc] at this
            exact this
          have b6 : Below w.heap.size w ((W4.alloc (.cells #[.int .i64 6000, .int .i64 32, .int .i64 16, .int .i64 32, .int .i64 1099511627776, .int .i64 16, .int .i64 64, .int .i64 8, .int .i64 64, .int .i64 64, .int .i64 4, .int .i64 3, .int .i64 64, .int .i64 3, .int .i64 40, .int .i64 2000, .int .i64 200, .int .i64 4, .int .i64 8, .int .i64 40, .int .i64 60, .int .i64 200] 3)).alloc (.cells #[.int .i64 6000, .int .i64 32, .int .i64 16, .int .i64 32, .int .i64 1099511627776, .int .i64 16, .int .i64 64, .int .i64 8, .int .i64 64, .int .i64 64, .int .i64 4, .int .i64 3, .int .i64 64, .int .i64 3, .int .i64 40, .int .i64 2000, .int .i64 200, .int .i64 4, .int .i64 8, .int .i64 40, .int .i64 60, .int .i64 200] 3)) := (b4.alloc b4.size _).alloc (b4.alloc b4.size _).size _
          refine (eq_any _ W4.heap.size (W4.heap.size + 1) 22 22 22 [6000, 32, 16, 32, 1099511627776, 16, 64, 8, 64, 64, 4, 3, 64, 3, 40, 2000, 200, 4, 8, 40, 60, 200] (by omega) d1 d2).mono ?_
          rintro e w' ⟨rfl, hw⟩
          subst hw
          clear d1 d2
          go_wp2
          go_ret
          exact ⟨rfl, b6⟩
end Go.Proofs.Ytnkeeaelomalkaa
