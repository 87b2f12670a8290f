/-
  The document's own NestMatch and NestCheck, for every body.
-/
import Derived.Test.YtkceplamaocmmaaGreatDoorZRAll
set_option maxHeartbeats 4000000
set_option maxRecDepth 1000000
namespace Go.Proofs.YtkceplamaocmmaaGreatDoor
set_option linter.unusedVariables false
open Go.RowKit
theorem marks_cells {w : World} {P : Nat} {c0 c1 c2 : Value} {t : TypeId} (h : w.heap[P]? = some (.cells #[c0, c1, c2] t (0, 0))) : w.cell? ⟨P, 0, none⟩ = some c0 ∧ w.cell? ⟨P, 1, none⟩ = some c1 ∧ w.cell? ⟨P, 2, none⟩ = some c2 := by
  simp [World.cell?, h]
theorem seq_nil (P cap : Nat) (o : Option Addr) (wi : World) (h : wi.heap[P]? = some (.cells #[.slice o 0 cap, .slice none 0 0, .slice none 0 0] 72 (0, 0))) :
    Calls Tryz.prog 57 #[.pointer (some ⟨P, 0, none⟩), .int .i64 0, .int .i64 0] wi fun r w' => r = .returned (.tuple #[.int .i64 0, .int .i64 3]) ∧ w' = wi := by
  obtain ⟨c0, c1, c2⟩ := marks_cells h
  clear h
  go_enter Tryz.func57, Tryz.ntmps57
  go_wp2
  go_loopw [1] (fun v wr => v = .int .i64 0 ∧ wr = wi) (fun _ _ => 0)
  case atStart => exact ⟨rfl, rfl⟩
  case round =>
    obtain ⟨rfl, rfl⟩ := hrel
    go_wp2
    go_ret2
    exact ⟨rfl, rfl⟩
theorem all_nil (P cap : Nat) (o : Option Addr) (wi : World) (h : wi.heap[P]? = some (.cells #[.slice o 0 cap, .slice none 0 0, .slice none 0 0] 72 (0, 0))) :
    Calls Tryz.prog 35 #[.pointer (some ⟨P, 0, none⟩)] wi fun r w' => r = .returned (.int .i64 3) ∧ w' = wi := by
  obtain ⟨c0, c1, c2⟩ := marks_cells h
  have HS : Hid (type_of% (seq_nil P cap o wi h)) := seq_nil P cap o wi h
  clear h
  go_enter Tryz.func35, Tryz.ntmps35
  go_wp2
  go_loopw [11] (fun v wr => v = .int .i64 0 ∧ wr = wi) (fun _ _ => 0)
  case atStart => exact ⟨rfl, rfl⟩
  case round =>
    obtain ⟨rfl, rfl⟩ := hrel
    go_wp2_with fail
    refine HS.out.mono ?_
    rintro r w1 ⟨rfl, rfl⟩
    go_wp2
    go_ret
    exact ⟨rfl, rfl⟩
theorem all_any (o : Option Addr) (cap P : Nat) (L : List InsD) (w wi : World) (hn : L.length ≤ 200) (hcap : L.length ≤ cap) (h : LD w o L) (hM : MaxIn w) (hA : AS w wi P L.length 0 none 0 none 0 o cap) :
    Calls Tryz.prog 35 #[.pointer (some ⟨P, 0, none⟩)] wi fun r w' => r = .returned (.int .i64 (vd (nRun L [] false))) ∧ Below w.heap.size w w' ∧ (vd (nRun L [] false) = 0 → ∃ gE gS cE cS, QS w w' P gE gS L.length cE cS o cap (matchOf L).2.1 (matchOf L).2.2) := by
  rcases h.2 with h0 | ⟨b, f, rfl, hbw, hc⟩
  · subst h0
    refine (all_nil P cap o wi hA.blk).mono ?_
    rintro r w1 ⟨rfl, rfl⟩
    exact ⟨rfl, hA.below, fun h => absurd h (by decide)⟩
  · rcases Nat.eq_zero_or_pos L.length with h0 | h0
    · have h1 : L = [] := List.length_eq_zero_iff.1 h0
      subst h1
      refine (all_nil P cap _ wi hA.blk).mono ?_
      rintro r w1 ⟨rfl, rfl⟩
      exact ⟨rfl, hA.below, fun h => absurd h (by decide)⟩
    · refine all_core b f cap L.length P L w wi hn h0 hcap hbw rfl hA hc (fun d hd w' b => ?_) (fun gE gS cE cS wi hq => ?_)
      · have ok := (h.1 d hd).below b
        exact rcheck_any d.op d.A d.B d.o d.n d.cap d.xs ok.op0 ok.op1 ok.cap w' ok.lj (hM.below b)
      · exact seq_any b f cap L.length P gE gS cE cS L w rfl hn hcap h hbw hM L.length 0 0 0 0 _ _ wi (by omega) rfl rfl (by omega) (by omega) hq
theorem nChk_vd (L : List InsD) (h : L.length ≤ 200) : nChk L = vd (nRun L [] false) := by
  unfold nChk vd
  rw [if_neg (by omega)]
theorem rmatch_large (o : Option Addr) (n cap : Nat) (_hn : 200 < n) (w : World) :
    Calls Tryz.prog 20 #[.slice o n cap] w fun r w' => r = .returned (.tuple #[.slice none 0 0, .slice none 0 0, .int .i64 2]) ∧ w' = w := by
  go_enter Tryz.func20, Tryz.ntmps20
  go_wp2
  go_ret3
  exact ⟨rfl, rfl⟩
theorem rmatch_bad (o : Option Addr) (n cap : Nat) (_hn : n ≤ 200) (e : Int) (_he : (e == 0) = false) (w : World) (HA : Hid (Calls Tryz.prog 35 #[.pointer (some ⟨w.heap.size, 0, none⟩)] (w.alloc (.cells #[.slice o n cap, .slice none 0 0, .slice none 0 0] 72)) fun r w' => r = .returned (.int .i64 e) ∧ Below w.heap.size w w')) :
    Calls Tryz.prog 20 #[.slice o n cap] w fun r w' => r = .returned (.tuple #[.slice none 0 0, .slice none 0 0, .int .i64 e]) ∧ Below w.heap.size w w' := by
  have hne : (e != 0) = true := by rw [bne, _he]; rfl
  go_enter Tryz.func20, Tryz.ntmps20
  go_wp2_with fail
  refine HA.out.mono ?_
  rintro r w1 ⟨rfl, b1⟩
  go_wp2
  go_ret3
  exact ⟨rfl, b1⟩
theorem rmatch_ok (o : Option Addr) (n cap : Nat) (_hn : n ≤ 200) (E S : List Int) (w : World) (HA : Hid (Calls Tryz.prog 35 #[.pointer (some ⟨w.heap.size, 0, none⟩)] (w.alloc (.cells #[.slice o n cap, .slice none 0 0, .slice none 0 0] 72)) fun r w' => r = .returned (.int .i64 0) ∧ ∃ gE gS cE cS, QS w w' w.heap.size gE gS n cE cS o cap E S)) :
    Calls Tryz.prog 20 #[.slice o n cap] w fun r w' => ∃ gE gS cE cS, r = .returned (.tuple #[.slice (some ⟨gE, 0, none⟩) n cE, .slice (some ⟨gS, 0, none⟩) n cS, .int .i64 0]) ∧ QS w w' w.heap.size gE gS n cE cS o cap E S := by
  go_enter Tryz.func20, Tryz.ntmps20
  go_wp2_with fail
  refine HA.out.mono ?_
  rintro r w1 ⟨rfl, gE, gS, cE, cS, hq⟩
  obtain ⟨q0, q1, q2⟩ := hq.cells
  have HQ : Hid (type_of% hq) := hq
  clear hq
  go_wp2
  go_region
  all_goals
    go_wp2
    go_ret3
    exact ⟨gE, gS, cE, cS, rfl, HQ.out.drew⟩
theorem rmatch_any (o : Option Addr) (cap : Nat) (L : List InsD) (w : World) (h : LD w o L) (hcap : L.length ≤ cap) (hM : MaxIn w) :
    Calls Tryz.prog 20 #[.slice o L.length cap] w fun r w' => Below w.heap.size w w' ∧ ((nChk L ≠ 0 ∧ r = .returned (.tuple #[.slice none 0 0, .slice none 0 0, .int .i64 (nChk L)])) ∨
      (nChk L = 0 ∧ ∃ gE gS cE cS, r = .returned (.tuple #[.slice (some ⟨gE, 0, none⟩) L.length cE, .slice (some ⟨gS, 0, none⟩) L.length cS, .int .i64 0]) ∧ QS w w' w.heap.size gE gS L.length cE cS o cap (matchOf L).2.1 (matchOf L).2.2)) := by
  by_cases hn : 200 < L.length
  · have hv : nChk L = 2 := by unfold nChk; rw [if_pos hn]
    refine (rmatch_large o L.length cap hn w).mono ?_
    rintro r w1 ⟨rfl, rfl⟩
    exact ⟨Below.refl _ _, Or.inl ⟨by rw [hv]; decide, by rw [hv]⟩⟩
  · have hv := nChk_vd L (by omega)
    have hA := all_any o cap w.heap.size L w (w.alloc (.cells #[.slice o L.length cap, .slice none 0 0, .slice none 0 0] 72)) (by omega) hcap h hM ⟨World.ownsRow_nil _ _ _ _, World.ownsRow_nil _ _ _ _, by simp, heap_alloc_new w _, by simp, by simp, Nat.le_refl _, (Below.refl _ _).alloc (Nat.le_refl _) _⟩
    rw [hv]
    generalize vd (nRun L [] false) = V at hA
    by_cases h0 : V = 0
    · subst h0
      refine (rmatch_ok o L.length cap (by omega) _ _ w (hA.mono fun r w' h => ⟨h.1, h.2.2 rfl⟩)).mono ?_
      rintro r w1 ⟨gE, gS, cE, cS, rfl, hq⟩
      exact ⟨hq.below, Or.inr ⟨rfl, gE, gS, cE, cS, rfl, hq⟩⟩
    · refine (rmatch_bad o L.length cap (by omega) V (by rw [beq_eq_false_iff_ne]; exact h0) w (hA.mono fun r w' h => ⟨h.1, h.2.1⟩)).mono ?_
      rintro r w1 ⟨rfl, b⟩
      exact ⟨b, Or.inl ⟨h0, rfl⟩⟩
theorem rncheck_core (o : Option Addr) (n cap : Nat) (e : Int) (w : World) (HA : Hid (Calls Tryz.prog 20 #[.slice o n cap] w fun r w' => ∃ a b c d x y, r = .returned (.tuple #[.slice a b c, .slice d x y, .int .i64 e]) ∧ Below w.heap.size w w')) :
    Calls Tryz.prog 10 #[.slice o n cap] w fun r w' => r = .returned (.int .i64 e) ∧ Below w.heap.size w w' := by
  go_enter Tryz.func10, Tryz.ntmps10
  go_wp2_with fail
  refine HA.out.mono ?_
  rintro r w1 ⟨a, b, c, d, x, y, rfl, b1⟩
  go_wp2
  go_ret
  exact ⟨rfl, b1⟩
theorem rncheck_any (o : Option Addr) (cap : Nat) (L : List InsD) (w : World) (h : LD w o L) (hcap : L.length ≤ cap) (hM : MaxIn w) :
    Calls Tryz.prog 10 #[.slice o L.length cap] w fun r w' => r = .returned (.int .i64 (nChk L)) ∧ Below w.heap.size w w' := by
  refine rncheck_core o L.length cap (nChk L) w ((rmatch_any o cap L w h hcap hM).mono ?_)
  rintro r w1 ⟨b, h⟩
  rcases h with ⟨_, rfl⟩ | ⟨h0, gE, gS, cE, cS, rfl, _⟩
  · exact ⟨_, _, _, _, _, _, rfl, b⟩
  · rw [h0]
    exact ⟨_, _, _, _, _, _, rfl, b⟩
end Go.Proofs.YtkceplamaocmmaaGreatDoor
