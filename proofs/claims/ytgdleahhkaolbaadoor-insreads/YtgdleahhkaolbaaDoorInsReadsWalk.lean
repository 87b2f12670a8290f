/-
  The law of what is read, held against the document's answer: its walk.
-/
import Derived.Test.YtgdleahhkaolbaaDoorRRd3
import Derived.Test.YtgdleahhkaolbaaDoorInsR8
import Derived.Test.YtgdleahhkaolbaaDoorInsV3
import Derived.OpenShut
namespace Go.Proofs.YtgdleahhkaolbaaDoor
open Go.RowKit

theorem tab_lt {w : World} (hT : TabIn w) : 1 < w.heap.size := by
  have hc := hT 0 (by omega)
  apply Nat.lt_of_not_le
  intro hle
  have : w.heap[1]? = none := Array.getElem?_eq_none hle
  simp [World.cell?, this] at hc
theorem LJ_own {w : World} {base k cap : Nat} {o : Option Addr} {xs : List Int} (h : w.ownsRow base 2 1 (.slice o k cap) k (xs.map (Value.int .i64))) (hl : xs.length = k) : LJ w o k xs ∧ k ≤ cap ∧ cap ≤ maxLen := by
  rcases h.2 with ⟨h1, h2⟩ | ⟨g, c, cur, h1, _, _, h2, h3, _⟩
  · simp only [Value.slice.injEq] at h1
    refine ⟨⟨hl, Or.inl h2⟩, by omega, by unfold maxLen; omega⟩
  · simp only [Value.slice.injEq] at h1
    obtain ⟨rfl, _, rfl⟩ := h1
    refine ⟨⟨hl, Or.inr ⟨⟨g, 0, none⟩, rfl, (h.lt g rfl).2, fun i hi => ?_⟩⟩, h2, h3⟩
    have := h.cells (g := g) rfl i (.int .i64 (xs.getD i 0)) (by simp [List.getElem?_eq_getElem (show i < xs.length by omega)])
    exact this
theorem LJ_is {w : World} {base : Nat} {v : Value} {xs : List Int} (h : IsI w base v xs) : ∃ o, v = .slice o xs.length xs.length ∧ LJ w o xs.length xs := by
  rcases h with ⟨rfl, rfl⟩ | ⟨g, rfl, h⟩
  · exact ⟨none, rfl, rfl, Or.inl rfl⟩
  · exact ⟨_, rfl, (LJ_own h rfl).1⟩
set_option maxHeartbeats 8000000 in
set_option maxRecDepth 1000000 in
theorem reads_core (op A B K e : Int) (s : ByteArray) (n : Nat) (xs : List Int) (w : World)
    (HP : Hid (Calls Tryd.prog 18 #[.string s] w fun r w' => ∃ o, r = .returned (.tuple #[.agg #[.int .u8 op, .int .i64 A, .int .i64 B, .slice o n n], .int .i64 K, .int .i64 e]) ∧ LJ w' o n xs ∧ Below w.heap.size w w'))
    (HR : Hid (∀ w', Below w.heap.size w w' → Calls Tryd.prog 19 #[.string s] w' fun r w'' => ∃ o cap, r = .returned (.tuple #[.agg #[.int .u8 op, .int .i64 A, .int .i64 B, .slice o n cap], .int .i64 K, .int .i64 e]) ∧ (LJ w'' o n xs ∧ n ≤ cap ∧ cap ≤ maxLen) ∧ Below w'.heap.size w' w''))
    (HS : Hid (∀ w' o o2 cap2, (LJ w' o n xs ∧ (LJ w' o2 n xs ∧ n ≤ cap2 ∧ cap2 ≤ maxLen)) → Calls Tryd.prog 20 #[.agg #[.int .u8 op, .int .i64 A, .int .i64 B, .slice o n n], .agg #[.int .u8 op, .int .i64 A, .int .i64 B, .slice o2 n cap2]] w' fun r w'' => r = .returned (.bool true) ∧ Below w'.heap.size w' w'')) :
    Calls Tryd.prog 4 #[.string s] w fun r w' => r = .returned (.bool true) ∧ Below w.heap.size w w' := by
  go_enter Tryd.func4, Tryd.ntmps4
  go_wp2_with fail
  refine HP.out.mono ?_
  rintro r w1 ⟨o, rfl, j1, b1⟩
  have hs1 := b1.size
  have HB1 : Hid (Below w.heap.size w w1) := b1
  have HJ1 : Hid (LJ w1 o n xs) := j1
  clear b1 j1 HP
  go_wp2_with fail
  refine (HR.out _ (HB1.out.alloc hs1 _)).mono ?_
  rintro r w2 ⟨o2, cap2, rfl, j2, b2⟩
  have hs2 : w1.heap.size < w2.heap.size := by have := b2.size; simp at this; omega
  have xX : XS w2 w1.heap.size (.int .u8 op) (.int .i64 A) (.int .i64 B) (.slice o n n) := by
    unfold XS
    rw [b2.block w1.heap.size (by simp)]
    exact new_block _ _
  obtain ⟨x0, x1, x2, x3⟩ := xX.cell
  have HJ2 : Hid (LJ w2 o n xs) := (HJ1.out.below ((Below.refl _ _).alloc (Nat.le_refl _) _)).below b2
  have HK2 : Hid (LJ w2 o2 n xs ∧ n ≤ cap2 ∧ cap2 ≤ maxLen) := j2
  have HB2 : Hid (Below w.heap.size w w2) := (HB1.out.alloc hs1 _).trans (b2.mono (by simp; omega))
  clear b2 j2 HJ1 HB1 HR xX
  have hsw : w.heap.size ≤ w2.heap.size := by omega
  generalize w1.heap.size = X at hs2 x0 x1 x2 x3
  go_wp2_with fail
  refine (HS.out _ _ _ _ ⟨HJ2.out.below ((Below.refl _ _).alloc (Nat.le_refl _) _), HK2.out.1.below ((Below.refl _ _).alloc (Nat.le_refl _) _), HK2.out.2⟩).mono ?_
  rintro r w3 ⟨rfl, b3⟩
  have HB3 : Hid (Below w.heap.size w w3) := (HB2.out.alloc (by omega) _).trans (b3.mono (by simp; omega))
  clear b3
  go_wp2
  go_ret
  exact ⟨rfl, HB3.out⟩
theorem insReads_walk (a0 : ByteArray) (z0' : a0.data.toList.length ≤ reachBytes) (w : World) (hT : TabIn w) (hM : MaxIn w) :
    Calls Tryd.prog 4 #[.string a0] w fun r w' => r = .returned (.bool true) ∧ Below w.heap.size w w' := by
  have z0 : a0.size ≤ maxLen := by
    rw [Array.length_toList] at z0'
    unfold maxLen
    have : a0.size ≤ 140737488351232 := z0'
    omega
  have hP := read_any a0 z0 w hT (tab_lt hT)
  have hR := fun w' (b : Below w.heap.size w w') => rread_any a0 z0 w' (hM.below b)
  have hS : ∀ (op A B : Int) (xs : List Int) w' o o2 cap2, (LJ w' o xs.length xs ∧ (LJ w' o2 xs.length xs ∧ xs.length ≤ cap2 ∧ cap2 ≤ maxLen)) → xs.length ≤ 9223372036854775807 → Calls Tryd.prog 20 #[.agg #[.int .u8 op, .int .i64 A, .int .i64 B, .slice o xs.length xs.length], .agg #[.int .u8 op, .int .i64 A, .int .i64 B, .slice o2 xs.length cap2]] w' fun r w'' => r = .returned (.bool true) ∧ Below w'.heap.size w' w'' := fun op A B xs w' o o2 cap2 h hm => by
    obtain ⟨j1, j2, hc, hcm⟩ := h
    unfold maxLen at hcm
    exact same_any op A B o o2 xs.length xs.length cap2 w' (fun w2 b => eq_any o o2 xs xs.length xs.length cap2 (Nat.le_refl _) hc hm (by omega) w2 (j1.below b) (j2.below b))
  generalize mIns (nums a0) 0 = M at hP hR
  by_cases he : M.e = 0
  · refine reads_core M.op M.A M.B ((a0.size : Int) - (M.l.length : Int)) 0 a0 M.To.length M.To w (hP.mono ?_) (fun w' b => (hR w' b).mono ?_) (fun w' o o2 cap2 h => hS M.op M.A M.B M.To w' o o2 cap2 h ?_)
    · rintro r w1 ⟨b, ⟨hn, _⟩ | ⟨_, v, hr, i⟩⟩
      · exact absurd he hn
      · obtain ⟨o, rfl, j⟩ := LJ_is i
        exact ⟨o, hr, j, b⟩
    · rintro r w1 ⟨b, ⟨hn, _⟩ | ⟨_, o, cap, hr, i⟩⟩
      · exact absurd he hn
      · exact ⟨o, cap, hr, LJ_own i rfl, b⟩
    · obtain ⟨_, _, h1, h2⟩ := h
      unfold maxLen at h2
      omega
  · refine reads_core 0 0 0 0 M.e a0 0 [] w (hP.mono ?_) (fun w' b => (hR w' b).mono ?_) (fun w' o o2 cap2 h => hS 0 0 0 [] w' o o2 cap2 h (by simp))
    · rintro r w1 ⟨b, ⟨_, hr⟩ | ⟨h0, _⟩⟩
      · exact ⟨none, hr, ⟨rfl, Or.inl rfl⟩, b⟩
      · exact absurd h0 he
    · rintro r w1 ⟨b, ⟨_, hr⟩ | ⟨h0, _⟩⟩
      · exact ⟨none, 0, hr, ⟨⟨rfl, Or.inl rfl⟩, Nat.le_refl _, Nat.zero_le _⟩, b⟩
      · exact absurd h0 he
end Go.Proofs.YtgdleahhkaolbaaDoor
