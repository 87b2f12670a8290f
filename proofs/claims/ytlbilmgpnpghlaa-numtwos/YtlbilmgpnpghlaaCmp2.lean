/-
  What the document's own compare does: numbers without signs.
-/
import Derived.Test.YtlbilmgpnpghlaaCmp
namespace Go.Proofs.Ytlbilmgpnpghlaa
open Go.RowKit

set_option maxHeartbeats 1000000 in
set_option maxRecDepth 1000000 in
theorem cmp5_any (u v : Value) (bs cs : List Bool) (w : World) (hu : IsW w u bs) (hv : IsW w v cs) (hl : cs.length = bs.length) (h1 : 1 ≤ bs.length) (h64 : bs.length ≤ 64) :
    Calls Try.prog 23 #[.int .i64 5, u, v] w fun e w' => e = .returned (.int .i64 (if cmpB 5 (decide (wval bs < wval cs)) (decide (wval cs < wval bs)) then 1 else 0)) ∧ Below w.heap.size w w' := by
  have HV : Hid (IsW w v cs) := hv
  have HA : Hid (∀ w', IsW w' u bs → IsW w' v cs → Calls Try.prog 40 #[u, v] w' fun e w'' => e = .returned (.bool (decide (wval bs < wval cs))) ∧ Below w'.heap.size w' w'') := fun w' h h' => less_any u v bs cs w' h h' hl (by omega)
  have HB : Hid (∀ w', IsW w' u bs → IsW w' v cs → Calls Try.prog 40 #[v, u] w' fun e w'' => e = .returned (.bool (decide (wval cs < wval bs))) ∧ Below w'.heap.size w' w'') := fun w' h h' => less_any v u cs bs w' h' h hl.symm (by omega)
  have HU : Hid (IsW w u bs) := hu
  clear hu hv hl
  obtain ⟨l, hl⟩ : ∃ l, decide (wval bs < wval cs) = l := ⟨_, rfl⟩
  obtain ⟨m, hm⟩ : ∃ m, decide (wval cs < wval bs) = m := ⟨_, rfl⟩
  rw [hl, hm]
  rw [hl] at HA
  rw [hm] at HB
  clear hl hm h1 h64
  cases l <;> cases m
  all_goals
    go_enter Try.func23, Try.ntmps23
    go_wp2_with fail
    refine (HA.out _ HU.out HV.out).mono ?_
    rintro e w1 ⟨rfl, b1⟩
    go_wp2_with fail
    refine (HB.out _ (HU.out.below b1) (HV.out.below b1)).mono ?_
    rintro e w2 ⟨rfl, b2⟩
    have HBB : Hid (Below w.heap.size w w2) := below_then b1 b2
    clear b1 b2
    go_wp2_with fail
    refine (truth_any _ _).mono ?_
    rintro e w3 ⟨rfl, rfl⟩
    go_wp2
    go_ret
    exact ⟨rfl, below_then (below_then HBB.out ((Below.refl _ _).alloc (Nat.le_refl _) _)) ((Below.refl _ _).alloc (Nat.le_refl _) _)⟩

set_option maxHeartbeats 1000000 in
set_option maxRecDepth 1000000 in
theorem cmp7_any (u v : Value) (bs cs : List Bool) (w : World) (hu : IsW w u bs) (hv : IsW w v cs) (hl : cs.length = bs.length) (h1 : 1 ≤ bs.length) (h64 : bs.length ≤ 64) :
    Calls Try.prog 23 #[.int .i64 7, u, v] w fun e w' => e = .returned (.int .i64 (if cmpB 7 (decide (wval bs < wval cs)) (decide (wval cs < wval bs)) then 1 else 0)) ∧ Below w.heap.size w w' := by
  have HV : Hid (IsW w v cs) := hv
  have HA : Hid (∀ w', IsW w' u bs → IsW w' v cs → Calls Try.prog 40 #[u, v] w' fun e w'' => e = .returned (.bool (decide (wval bs < wval cs))) ∧ Below w'.heap.size w' w'') := fun w' h h' => less_any u v bs cs w' h h' hl (by omega)
  have HB : Hid (∀ w', IsW w' u bs → IsW w' v cs → Calls Try.prog 40 #[v, u] w' fun e w'' => e = .returned (.bool (decide (wval cs < wval bs))) ∧ Below w'.heap.size w' w'') := fun w' h h' => less_any v u cs bs w' h' h hl.symm (by omega)
  have HU : Hid (IsW w u bs) := hu
  clear hu hv hl
  obtain ⟨l, hl⟩ : ∃ l, decide (wval bs < wval cs) = l := ⟨_, rfl⟩
  obtain ⟨m, hm⟩ : ∃ m, decide (wval cs < wval bs) = m := ⟨_, rfl⟩
  rw [hl, hm]
  rw [hl] at HA
  rw [hm] at HB
  clear hl hm h1 h64
  cases l <;> cases m
  all_goals
    go_enter Try.func23, Try.ntmps23
    go_wp2_with fail
    refine (HA.out _ HU.out HV.out).mono ?_
    rintro e w1 ⟨rfl, b1⟩
    go_wp2_with fail
    refine (HB.out _ (HU.out.below b1) (HV.out.below b1)).mono ?_
    rintro e w2 ⟨rfl, b2⟩
    have HBB : Hid (Below w.heap.size w w2) := below_then b1 b2
    clear b1 b2
    go_wp2_with fail
    refine (truth_any _ _).mono ?_
    rintro e w3 ⟨rfl, rfl⟩
    go_wp2
    go_ret
    exact ⟨rfl, below_then (below_then HBB.out ((Below.refl _ _).alloc (Nat.le_refl _) _)) ((Below.refl _ _).alloc (Nat.le_refl _) _)⟩

set_option maxHeartbeats 1000000 in
set_option maxRecDepth 1000000 in
theorem cmp9_any (u v : Value) (bs cs : List Bool) (w : World) (hu : IsW w u bs) (hv : IsW w v cs) (hl : cs.length = bs.length) (h1 : 1 ≤ bs.length) (h64 : bs.length ≤ 64) :
    Calls Try.prog 23 #[.int .i64 9, u, v] w fun e w' => e = .returned (.int .i64 (if cmpB 9 (decide (wval bs < wval cs)) (decide (wval cs < wval bs)) then 1 else 0)) ∧ Below w.heap.size w w' := by
  have HV : Hid (IsW w v cs) := hv
  have HA : Hid (∀ w', IsW w' u bs → IsW w' v cs → Calls Try.prog 40 #[u, v] w' fun e w'' => e = .returned (.bool (decide (wval bs < wval cs))) ∧ Below w'.heap.size w' w'') := fun w' h h' => less_any u v bs cs w' h h' hl (by omega)
  have HB : Hid (∀ w', IsW w' u bs → IsW w' v cs → Calls Try.prog 40 #[v, u] w' fun e w'' => e = .returned (.bool (decide (wval cs < wval bs))) ∧ Below w'.heap.size w' w'') := fun w' h h' => less_any v u cs bs w' h' h hl.symm (by omega)
  have HU : Hid (IsW w u bs) := hu
  clear hu hv hl
  obtain ⟨l, hl⟩ : ∃ l, decide (wval bs < wval cs) = l := ⟨_, rfl⟩
  obtain ⟨m, hm⟩ : ∃ m, decide (wval cs < wval bs) = m := ⟨_, rfl⟩
  rw [hl, hm]
  rw [hl] at HA
  rw [hm] at HB
  clear hl hm h1 h64
  cases l <;> cases m
  all_goals
    go_enter Try.func23, Try.ntmps23
    go_wp2_with fail
    refine (HA.out _ HU.out HV.out).mono ?_
    rintro e w1 ⟨rfl, b1⟩
    go_wp2_with fail
    refine (HB.out _ (HU.out.below b1) (HV.out.below b1)).mono ?_
    rintro e w2 ⟨rfl, b2⟩
    have HBB : Hid (Below w.heap.size w w2) := below_then b1 b2
    clear b1 b2
    go_wp2_with fail
    refine (truth_any _ _).mono ?_
    rintro e w3 ⟨rfl, rfl⟩
    go_wp2
    go_ret
    exact ⟨rfl, below_then (below_then HBB.out ((Below.refl _ _).alloc (Nat.le_refl _) _)) ((Below.refl _ _).alloc (Nat.le_refl _) _)⟩

end Go.Proofs.Ytlbilmgpnpghlaa
