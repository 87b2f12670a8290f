/-
  What the document's own compare does: numbers without signs.
  What the document's own compare does: numbers without signs.
  What the document's own compare does: numbers with signs.
  What the document's own compare does: numbers with signs.
-/
import Derived.Test.YtkceplamaocmmaaGreatDoorZNB
import Derived.Deep.CutRange
set_option maxHeartbeats 1000000
set_option maxRecDepth 1000000
namespace Go.Proofs.YtkceplamaocmmaaGreatDoor
set_option linter.unusedVariables false
open Go.RowKit
def cmpB (k : Nat) (l m : Bool) : Bool := match k with
  | 0 => !l && !m
  | 1 => l || m
  | 2 | 3 => l
  | 4 | 5 => m
  | 6 | 7 => !m
  | _ => !l
theorem cmp0_any (u v : Value) (bs cs : List Bool) (w : World) (hu : IsW w u bs) (hv : IsW w v cs) (hl : cs.length = bs.length) (h1 : 1 ≤ bs.length) (h64 : bs.length ≤ 64) :
    Calls Tryz.prog 42 #[.int .i64 0, u, v] w fun e w' => e = .returned (.int .i64 (if cmpB 0 (decide (wval bs < wval cs)) (decide (wval cs < wval bs)) then 1 else 0)) ∧ Below w.heap.size w w' := by
  have HV : Hid (IsW w v cs) := hv
  have HA : Hid (∀ w', IsW w' u bs → IsW w' v cs → Calls Tryz.prog 60 #[u, v] w' fun e w'' => e = .returned (.bool (decide (wval bs < wval cs))) ∧ Below w'.heap.size w' w'') := fun w' h h' => less_any u v bs cs w' h h' hl (by omega)
  have HB : Hid (∀ w', IsW w' u bs → IsW w' v cs → Calls Tryz.prog 60 #[v, u] w' fun e w'' => e = .returned (.bool (decide (wval cs < wval bs))) ∧ Below w'.heap.size w' w'') := fun w' h h' => less_any v u cs bs w' h' h hl.symm (by omega)
  have HU : Hid (IsW w u bs) := hu
  clear hu hv hl
  obtain ⟨l, hl⟩ : ∃ l, decide (wval bs < wval cs) = l := ⟨_, rfl⟩
  obtain ⟨m, hm⟩ : ∃ m, decide (wval cs < wval bs) = m := ⟨_, rfl⟩
  rw [hl, hm]
  rw [hl] at HA
  rw [hm] at HB
  clear hl hm h1 h64
  cases l <;> cases m
  all_goals
    go_enter Tryz.func42, Tryz.ntmps42
    go_wp2_with fail
    refine (HA.out _ HU.out HV.out).mono ?_
    rintro e w1 ⟨rfl, b1⟩
    go_wp2_with fail
    refine (HB.out _ (HU.out.below b1) (HV.out.below b1)).mono ?_
    rintro e w2 ⟨rfl, b2⟩
    have HBB : Hid (Below w.heap.size w w2) := below_then b1 b2
    clear b1 b2
    go_wp2_with fail
    refine (truth_any _ _).mono ?_
    rintro e w3 ⟨rfl, rfl⟩
    go_wp2
    go_ret
    exact ⟨rfl, below_then (below_then HBB.out ((Below.refl _ _).alloc (Nat.le_refl _) _)) ((Below.refl _ _).alloc (Nat.le_refl _) _)⟩
theorem cmp1_any (u v : Value) (bs cs : List Bool) (w : World) (hu : IsW w u bs) (hv : IsW w v cs) (hl : cs.length = bs.length) (h1 : 1 ≤ bs.length) (h64 : bs.length ≤ 64) :
    Calls Tryz.prog 42 #[.int .i64 1, u, v] w fun e w' => e = .returned (.int .i64 (if cmpB 1 (decide (wval bs < wval cs)) (decide (wval cs < wval bs)) then 1 else 0)) ∧ Below w.heap.size w w' := by
  have HV : Hid (IsW w v cs) := hv
  have HA : Hid (∀ w', IsW w' u bs → IsW w' v cs → Calls Tryz.prog 60 #[u, v] w' fun e w'' => e = .returned (.bool (decide (wval bs < wval cs))) ∧ Below w'.heap.size w' w'') := fun w' h h' => less_any u v bs cs w' h h' hl (by omega)
  have HB : Hid (∀ w', IsW w' u bs → IsW w' v cs → Calls Tryz.prog 60 #[v, u] w' fun e w'' => e = .returned (.bool (decide (wval cs < wval bs))) ∧ Below w'.heap.size w' w'') := fun w' h h' => less_any v u cs bs w' h' h hl.symm (by omega)
  have HU : Hid (IsW w u bs) := hu
  clear hu hv hl
  obtain ⟨l, hl⟩ : ∃ l, decide (wval bs < wval cs) = l := ⟨_, rfl⟩
  obtain ⟨m, hm⟩ : ∃ m, decide (wval cs < wval bs) = m := ⟨_, rfl⟩
  rw [hl, hm]
  rw [hl] at HA
  rw [hm] at HB
  clear hl hm h1 h64
  cases l <;> cases m
  all_goals
    go_enter Tryz.func42, Tryz.ntmps42
    go_wp2_with fail
    refine (HA.out _ HU.out HV.out).mono ?_
    rintro e w1 ⟨rfl, b1⟩
    go_wp2_with fail
    refine (HB.out _ (HU.out.below b1) (HV.out.below b1)).mono ?_
    rintro e w2 ⟨rfl, b2⟩
    have HBB : Hid (Below w.heap.size w w2) := below_then b1 b2
    clear b1 b2
    go_wp2_with fail
    refine (truth_any _ _).mono ?_
    rintro e w3 ⟨rfl, rfl⟩
    go_wp2
    go_ret
    exact ⟨rfl, below_then (below_then HBB.out ((Below.refl _ _).alloc (Nat.le_refl _) _)) ((Below.refl _ _).alloc (Nat.le_refl _) _)⟩
theorem cmp3_any (u v : Value) (bs cs : List Bool) (w : World) (hu : IsW w u bs) (hv : IsW w v cs) (hl : cs.length = bs.length) (h1 : 1 ≤ bs.length) (h64 : bs.length ≤ 64) :
    Calls Tryz.prog 42 #[.int .i64 3, u, v] w fun e w' => e = .returned (.int .i64 (if cmpB 3 (decide (wval bs < wval cs)) (decide (wval cs < wval bs)) then 1 else 0)) ∧ Below w.heap.size w w' := by
  have HV : Hid (IsW w v cs) := hv
  have HA : Hid (∀ w', IsW w' u bs → IsW w' v cs → Calls Tryz.prog 60 #[u, v] w' fun e w'' => e = .returned (.bool (decide (wval bs < wval cs))) ∧ Below w'.heap.size w' w'') := fun w' h h' => less_any u v bs cs w' h h' hl (by omega)
  have HB : Hid (∀ w', IsW w' u bs → IsW w' v cs → Calls Tryz.prog 60 #[v, u] w' fun e w'' => e = .returned (.bool (decide (wval cs < wval bs))) ∧ Below w'.heap.size w' w'') := fun w' h h' => less_any v u cs bs w' h' h hl.symm (by omega)
  have HU : Hid (IsW w u bs) := hu
  clear hu hv hl
  obtain ⟨l, hl⟩ : ∃ l, decide (wval bs < wval cs) = l := ⟨_, rfl⟩
  obtain ⟨m, hm⟩ : ∃ m, decide (wval cs < wval bs) = m := ⟨_, rfl⟩
  rw [hl, hm]
  rw [hl] at HA
  rw [hm] at HB
  clear hl hm h1 h64
  cases l <;> cases m
  all_goals
    go_enter Tryz.func42, Tryz.ntmps42
    go_wp2_with fail
    refine (HA.out _ HU.out HV.out).mono ?_
    rintro e w1 ⟨rfl, b1⟩
    go_wp2_with fail
    refine (HB.out _ (HU.out.below b1) (HV.out.below b1)).mono ?_
    rintro e w2 ⟨rfl, b2⟩
    have HBB : Hid (Below w.heap.size w w2) := below_then b1 b2
    clear b1 b2
    go_wp2_with fail
    refine (truth_any _ _).mono ?_
    rintro e w3 ⟨rfl, rfl⟩
    go_wp2
    go_ret
    exact ⟨rfl, below_then (below_then HBB.out ((Below.refl _ _).alloc (Nat.le_refl _) _)) ((Below.refl _ _).alloc (Nat.le_refl _) _)⟩
end Go.Proofs.YtkceplamaocmmaaGreatDoor
namespace Go.Proofs.YtkceplamaocmmaaGreatDoor
set_option linter.unusedVariables false
open Go.RowKit
theorem cmp5_any (u v : Value) (bs cs : List Bool) (w : World) (hu : IsW w u bs) (hv : IsW w v cs) (hl : cs.length = bs.length) (h1 : 1 ≤ bs.length) (h64 : bs.length ≤ 64) :
    Calls Tryz.prog 42 #[.int .i64 5, u, v] w fun e w' => e = .returned (.int .i64 (if cmpB 5 (decide (wval bs < wval cs)) (decide (wval cs < wval bs)) then 1 else 0)) ∧ Below w.heap.size w w' := by
  have HV : Hid (IsW w v cs) := hv
  have HA : Hid (∀ w', IsW w' u bs → IsW w' v cs → Calls Tryz.prog 60 #[u, v] w' fun e w'' => e = .returned (.bool (decide (wval bs < wval cs))) ∧ Below w'.heap.size w' w'') := fun w' h h' => less_any u v bs cs w' h h' hl (by omega)
  have HB : Hid (∀ w', IsW w' u bs → IsW w' v cs → Calls Tryz.prog 60 #[v, u] w' fun e w'' => e = .returned (.bool (decide (wval cs < wval bs))) ∧ Below w'.heap.size w' w'') := fun w' h h' => less_any v u cs bs w' h' h hl.symm (by omega)
  have HU : Hid (IsW w u bs) := hu
  clear hu hv hl
  obtain ⟨l, hl⟩ : ∃ l, decide (wval bs < wval cs) = l := ⟨_, rfl⟩
  obtain ⟨m, hm⟩ : ∃ m, decide (wval cs < wval bs) = m := ⟨_, rfl⟩
  rw [hl, hm]
  rw [hl] at HA
  rw [hm] at HB
  clear hl hm h1 h64
  cases l <;> cases m
  all_goals
    go_enter Tryz.func42, Tryz.ntmps42
    go_wp2_with fail
    refine (HA.out _ HU.out HV.out).mono ?_
    rintro e w1 ⟨rfl, b1⟩
    go_wp2_with fail
    refine (HB.out _ (HU.out.below b1) (HV.out.below b1)).mono ?_
    rintro e w2 ⟨rfl, b2⟩
    have HBB : Hid (Below w.heap.size w w2) := below_then b1 b2
    clear b1 b2
    go_wp2_with fail
    refine (truth_any _ _).mono ?_
    rintro e w3 ⟨rfl, rfl⟩
    go_wp2
    go_ret
    exact ⟨rfl, below_then (below_then HBB.out ((Below.refl _ _).alloc (Nat.le_refl _) _)) ((Below.refl _ _).alloc (Nat.le_refl _) _)⟩
theorem cmp7_any (u v : Value) (bs cs : List Bool) (w : World) (hu : IsW w u bs) (hv : IsW w v cs) (hl : cs.length = bs.length) (h1 : 1 ≤ bs.length) (h64 : bs.length ≤ 64) :
    Calls Tryz.prog 42 #[.int .i64 7, u, v] w fun e w' => e = .returned (.int .i64 (if cmpB 7 (decide (wval bs < wval cs)) (decide (wval cs < wval bs)) then 1 else 0)) ∧ Below w.heap.size w w' := by
  have HV : Hid (IsW w v cs) := hv
  have HA : Hid (∀ w', IsW w' u bs → IsW w' v cs → Calls Tryz.prog 60 #[u, v] w' fun e w'' => e = .returned (.bool (decide (wval bs < wval cs))) ∧ Below w'.heap.size w' w'') := fun w' h h' => less_any u v bs cs w' h h' hl (by omega)
  have HB : Hid (∀ w', IsW w' u bs → IsW w' v cs → Calls Tryz.prog 60 #[v, u] w' fun e w'' => e = .returned (.bool (decide (wval cs < wval bs))) ∧ Below w'.heap.size w' w'') := fun w' h h' => less_any v u cs bs w' h' h hl.symm (by omega)
  have HU : Hid (IsW w u bs) := hu
  clear hu hv hl
  obtain ⟨l, hl⟩ : ∃ l, decide (wval bs < wval cs) = l := ⟨_, rfl⟩
  obtain ⟨m, hm⟩ : ∃ m, decide (wval cs < wval bs) = m := ⟨_, rfl⟩
  rw [hl, hm]
  rw [hl] at HA
  rw [hm] at HB
  clear hl hm h1 h64
  cases l <;> cases m
  all_goals
    go_enter Tryz.func42, Tryz.ntmps42
    go_wp2_with fail
    refine (HA.out _ HU.out HV.out).mono ?_
    rintro e w1 ⟨rfl, b1⟩
    go_wp2_with fail
    refine (HB.out _ (HU.out.below b1) (HV.out.below b1)).mono ?_
    rintro e w2 ⟨rfl, b2⟩
    have HBB : Hid (Below w.heap.size w w2) := below_then b1 b2
    clear b1 b2
    go_wp2_with fail
    refine (truth_any _ _).mono ?_
    rintro e w3 ⟨rfl, rfl⟩
    go_wp2
    go_ret
    exact ⟨rfl, below_then (below_then HBB.out ((Below.refl _ _).alloc (Nat.le_refl _) _)) ((Below.refl _ _).alloc (Nat.le_refl _) _)⟩
theorem cmp9_any (u v : Value) (bs cs : List Bool) (w : World) (hu : IsW w u bs) (hv : IsW w v cs) (hl : cs.length = bs.length) (h1 : 1 ≤ bs.length) (h64 : bs.length ≤ 64) :
    Calls Tryz.prog 42 #[.int .i64 9, u, v] w fun e w' => e = .returned (.int .i64 (if cmpB 9 (decide (wval bs < wval cs)) (decide (wval cs < wval bs)) then 1 else 0)) ∧ Below w.heap.size w w' := by
  have HV : Hid (IsW w v cs) := hv
  have HA : Hid (∀ w', IsW w' u bs → IsW w' v cs → Calls Tryz.prog 60 #[u, v] w' fun e w'' => e = .returned (.bool (decide (wval bs < wval cs))) ∧ Below w'.heap.size w' w'') := fun w' h h' => less_any u v bs cs w' h h' hl (by omega)
  have HB : Hid (∀ w', IsW w' u bs → IsW w' v cs → Calls Tryz.prog 60 #[v, u] w' fun e w'' => e = .returned (.bool (decide (wval cs < wval bs))) ∧ Below w'.heap.size w' w'') := fun w' h h' => less_any v u cs bs w' h' h hl.symm (by omega)
  have HU : Hid (IsW w u bs) := hu
  clear hu hv hl
  obtain ⟨l, hl⟩ : ∃ l, decide (wval bs < wval cs) = l := ⟨_, rfl⟩
  obtain ⟨m, hm⟩ : ∃ m, decide (wval cs < wval bs) = m := ⟨_, rfl⟩
  rw [hl, hm]
  rw [hl] at HA
  rw [hm] at HB
  clear hl hm h1 h64
  cases l <;> cases m
  all_goals
    go_enter Tryz.func42, Tryz.ntmps42
    go_wp2_with fail
    refine (HA.out _ HU.out HV.out).mono ?_
    rintro e w1 ⟨rfl, b1⟩
    go_wp2_with fail
    refine (HB.out _ (HU.out.below b1) (HV.out.below b1)).mono ?_
    rintro e w2 ⟨rfl, b2⟩
    have HBB : Hid (Below w.heap.size w w2) := below_then b1 b2
    clear b1 b2
    go_wp2_with fail
    refine (truth_any _ _).mono ?_
    rintro e w3 ⟨rfl, rfl⟩
    go_wp2
    go_ret
    exact ⟨rfl, below_then (below_then HBB.out ((Below.refl _ _).alloc (Nat.le_refl _) _)) ((Below.refl _ _).alloc (Nat.le_refl _) _)⟩
end Go.Proofs.YtkceplamaocmmaaGreatDoor
namespace Go.Proofs.YtkceplamaocmmaaGreatDoor
set_option linter.unusedVariables false
open Go.RowKit
def flipT (bs : List Bool) : List Bool := bs.set (bs.length - 1) (! bs.getD (bs.length - 1) false)
theorem flipT_length (bs : List Bool) : (flipT bs).length = bs.length := by simp [flipT]
theorem flipT_val (bs : List Bool) (h : 1 ≤ bs.length) : wval (flipT bs) = wsgn bs + 2 ^ (bs.length - 1) := by
  have e1 := wval_top bs h
  have e2 := wval_top (flipT bs) (by rw [flipT_length]; exact h)
  have hg : (flipT bs).getD (bs.length - 1) false = ! bs.getD (bs.length - 1) false := by
    rw [flipT, List.getD_eq_getElem?_getD, List.getElem?_set_self (by omega)]; rfl
  have ht : (flipT bs).take (bs.length - 1) = bs.take (bs.length - 1) := by rw [flipT, List.take_set_of_le (Nat.le_refl _)]
  have hp : (2 : Int) ^ bs.length = 2 ^ (bs.length - 1) * 2 := by rw [← Int.pow_succ]; congr 1; omega
  rw [flipT_length, hg, ht] at e2
  rw [wsgn, hp, e2, e1]
  cases bs.getD (bs.length - 1) false <;> simp <;> omega
theorem flipT_less (bs cs : List Bool) (h : 1 ≤ bs.length) (hl : cs.length = bs.length) : decide (wval (flipT bs) < wval (flipT cs)) = decide (wsgn bs < wsgn cs) := by
  rw [flipT_val bs h, flipT_val cs (by omega), hl]
  by_cases hh : wsgn bs < wsgn cs
  · rw [decide_eq_true hh, decide_eq_true (by omega)]
  · rw [decide_eq_false hh, decide_eq_false (by omega)]
theorem flip_two {w : World} {B1 B2 g1 g2 n cap1 cap2 : Nat} {bs cs : List Bool} (h1 : w.ownsRow B1 4 1 (.slice (some ⟨g1, 0, none⟩) n cap1) n (bs.map Value.bool)) (h2 : w.ownsRow B2 4 1 (.slice (some ⟨g2, 0, none⟩) n cap2) n (cs.map Value.bool)) (hne : g1 ≠ g2) (T : Nat) (x y : Bool) :
    ((w.setCell ⟨g1, T, none⟩ (.bool x)).setCell ⟨g2, T, none⟩ (.bool y)).ownsRow B1 4 1 (.slice (some ⟨g1, 0, none⟩) n cap1) n ((bs.set T x).map Value.bool) ∧ ((w.setCell ⟨g1, T, none⟩ (.bool x)).setCell ⟨g2, T, none⟩ (.bool y)).ownsRow B2 4 1 (.slice (some ⟨g2, 0, none⟩) n cap2) n ((cs.set T y).map Value.bool) := by
  obtain ⟨a1, a2⟩ := h1.stored T (.bool x)
  have b1 := h2.kept a2 (.inr (by simp [Value.ownBlock]; omega))
  obtain ⟨c1, c2⟩ := b1.stored T (.bool y)
  have d1 := a1.kept c2 (.inr (by simp [Value.ownBlock]; omega))
  rw [set_map] at c1 d1
  exact ⟨d1, c1⟩
theorem cmp2_any (u v : Value) (bs cs : List Bool) (w : World) (hu : IsW w u bs) (hv : IsW w v cs) (hl : cs.length = bs.length) (h1 : 1 ≤ bs.length) (h64 : bs.length ≤ 64) :
    Calls Tryz.prog 42 #[.int .i64 2, u, v] w fun e w' => e = .returned (.int .i64 (if cmpB 2 (decide (wsgn bs < wsgn cs)) (decide (wsgn cs < wsgn bs)) then 1 else 0)) ∧ Below w.heap.size w w' := by
  obtain ⟨L, hL⟩ : ∃ L, bs.length = L := ⟨_, rfl⟩
  have HV : Hid (IsW w v cs) := hv
  have HU : Hid (IsW w u bs) := hu
  have HA : Hid (∀ u v w', IsW w' u (flipT bs) → IsW w' v (flipT cs) → Calls Tryz.prog 60 #[u, v] w' fun e w'' => e = .returned (.bool (decide (wsgn bs < wsgn cs))) ∧ Below w'.heap.size w' w'') := fun u v w' h h' => by
    rw [← flipT_less bs cs h1 hl]
    exact less_any u v _ _ w' h h' (by rw [flipT_length, flipT_length]; exact hl) (by rw [flipT_length]; omega)
  have HB : Hid (∀ u v w', IsW w' u (flipT bs) → IsW w' v (flipT cs) → Calls Tryz.prog 60 #[v, u] w' fun e w'' => e = .returned (.bool (decide (wsgn cs < wsgn bs))) ∧ Below w'.heap.size w' w'') := fun u v w' h h' => by
    rw [← flipT_less cs bs (by omega) hl.symm]
    exact less_any v u _ _ w' h' h (by rw [flipT_length, flipT_length]; exact hl.symm) (by rw [flipT_length]; omega)
  obtain ⟨l, hl'⟩ : ∃ l, decide (wsgn bs < wsgn cs) = l := ⟨_, rfl⟩
  obtain ⟨m, hm⟩ : ∃ m, decide (wsgn cs < wsgn bs) = m := ⟨_, rfl⟩
  rw [hl', hm]
  rw [hl'] at HA
  rw [hm] at HB
  obtain ⟨g, cap, rfl, hcap, hmx, hg, hc⟩ := hu
  rw [hL] at HU hcap hl h1 h64 ⊢
  unfold maxLen at hmx
  have HL : Hid (bs.length = L) := hL
  have HLc : Hid (cs.length = L) := hl
  clear hl' hm hv hc hl hL
  go_enter Tryz.func42, Tryz.ntmps42
  go_wp2_with fail
  refine (copy_any _ bs _ HU.out (by rw [HL.out]; exact h1) (by rw [HL.out]; omega)).mono ?_
  rintro e w1 ⟨v1, rfl, hv1, b1⟩
  go_wp2_with fail
  refine (copy_any _ cs _ (HV.out.below b1) (by rw [HLc.out]; exact h1) (by rw [HLc.out]; omega)).mono ?_
  rintro e w2 ⟨v2, rfl, hv2, b2⟩
  rw [HL.out] at hv1
  rw [HLc.out] at hv2
  obtain ⟨g1, cap1, rfl, hg1, hg1'⟩ := hv1.form (by omega)
  obtain ⟨g2, cap2, rfl, hg2, hg2'⟩ := hv2.form (by omega)
  have hv12 := own_below hv1 b2
  have hs1 := b1.size
  have hs2 := b2.size
  have hne : g1 ≠ g2 := by omega
  have hlen1 : L - 1 < bs.length := by rw [HL.out]; omega
  have hlen2 : L - 1 < cs.length := by rw [HLc.out]; omega
  obtain ⟨T, hT⟩ : ∃ T, L - 1 = T := ⟨_, rfl⟩
  have hT0 : (0 : Int) ≤ (T : Int) := by omega
  have hT1 : (T : Int) < (L : Int) := by omega
  have hTL : IntKind.i64.wrap ((L : Int) - 1) = (T : Int) := by rw [IntKind.wrap_i64]; omega
  have hc1 : w2.cell? ⟨g1, T, none⟩ = some (.bool (bs.getD T false)) := by
    rw [hv12.cellAt T (by omega), List.getElem?_map, List.getElem?_eq_getElem (by omega), List.getD_eq_getElem?_getD, List.getElem?_eq_getElem (by omega)]; rfl
  have hc2 : w2.cell? ⟨g2, T, none⟩ = some (.bool (cs.getD T false)) := by
    rw [hv2.cellAt T (by omega), List.getElem?_map, List.getElem?_eq_getElem (by omega), List.getD_eq_getElem?_getD, List.getElem?_eq_getElem (by omega)]; rfl
  have hf1 := hv12.frozenAt T
  have hf2 := hv2.frozenAt T
  obtain ⟨x, hx⟩ : ∃ x, bs.getD T false = x := ⟨_, rfl⟩
  obtain ⟨y, hy⟩ : ∃ y, cs.getD T false = y := ⟨_, rfl⟩
  have HX : Hid _ := hx
  have HY : Hid _ := hy
  have HO1 : Hid _ := hv12
  have HO2 : Hid _ := hv2
  have HBB : Hid (Below w.heap.size w w2) := below_then b1 b2
  rw [hx] at hc1
  rw [hy] at hc2
  clear hx hy hv1 hv2 hv12 b1 b2 hlen1 hlen2
  have hTe : (L : Int) - 1 = (T : Int) := by omega
  rw [hTe]
  clear hTe hTL
  have HN1 : Hid (bs.set T (! x) = flipT bs) := by unfold Hid; rw [flipT, HL.out, hT, HX.out]
  have HN2 : Hid (cs.set T (! y) = flipT cs) := by unfold Hid; rw [flipT, HLc.out, hT, HY.out]
  have hg1w : w.heap.size ≤ g1 := hg1
  have hg2w : w.heap.size ≤ g2 := by omega
  clear HX HY hT
  go_upto_region 4 with fail
  go_cut [] from 24 (fun wc => IsW wc (.slice (some ⟨g1, 0, none⟩) L cap1) (flipT bs) ∧ IsW wc (.slice (some ⟨g2, 0, none⟩) L cap2) (flipT cs) ∧ Below w.heap.size w wc)
  case first =>
    go_region
    all_goals go_wp2_with fail
    all_goals go_meet
    have hf := flip_two HO1.out HO2.out hne T (! x) (! y)
    rw [HN1.out, HN2.out] at hf
    refine ⟨isW_own (by rw [flipT_length, HL.out]; exact hf.1.drew) (by rw [flipT_length, HL.out]; omega), isW_own (by rw [flipT_length, HLc.out]; exact hf.2.drew) (by rw [flipT_length, HLc.out]; omega), ?_⟩
    exact ((HBB.out.setCell (p := ⟨g1, T, none⟩) hg1w _).setCell (p := ⟨g2, T, none⟩) hg2w _).drew
  case rest =>
    obtain ⟨hi1, hi2, hbb⟩ := hcut
    have HI1 : Hid (IsW wc (.slice (some ⟨g1, 0, none⟩) L cap1) (flipT bs)) := hi1
    have HI2 : Hid (IsW wc (.slice (some ⟨g2, 0, none⟩) L cap2) (flipT cs)) := hi2
    have HB3 : Hid (Below w.heap.size w wc) := hbb
    clear hi1 hi2 hbb HO1 HO2 HN1 HN2 hc1 hc2 hf1 hf2 HBB HU HV
    cases l <;> cases m
    all_goals
      go_wp2_with fail
      refine (HA.out _ _ _ HI1.out HI2.out).mono ?_
      rintro e w5 ⟨rfl, b5⟩
      go_wp2_with fail
      refine (HB.out _ _ _ (HI1.out.below b5) (HI2.out.below b5)).mono ?_
      rintro e w6 ⟨rfl, b6⟩
      have HB6 : Hid (Below w.heap.size w w6) := below_then HB3.out (below_then b5 b6)
      clear b5 b6
      go_wp2_with fail
      refine (truth_any _ _).mono ?_
      rintro e w7 ⟨rfl, rfl⟩
      go_wp2
      go_ret
      exact ⟨rfl, below_then (below_then HB6.out ((Below.refl _ _).alloc (Nat.le_refl _) _)) ((Below.refl _ _).alloc (Nat.le_refl _) _)⟩
theorem cmp4_any (u v : Value) (bs cs : List Bool) (w : World) (hu : IsW w u bs) (hv : IsW w v cs) (hl : cs.length = bs.length) (h1 : 1 ≤ bs.length) (h64 : bs.length ≤ 64) :
    Calls Tryz.prog 42 #[.int .i64 4, u, v] w fun e w' => e = .returned (.int .i64 (if cmpB 4 (decide (wsgn bs < wsgn cs)) (decide (wsgn cs < wsgn bs)) then 1 else 0)) ∧ Below w.heap.size w w' := by
  obtain ⟨L, hL⟩ : ∃ L, bs.length = L := ⟨_, rfl⟩
  have HV : Hid (IsW w v cs) := hv
  have HU : Hid (IsW w u bs) := hu
  have HA : Hid (∀ u v w', IsW w' u (flipT bs) → IsW w' v (flipT cs) → Calls Tryz.prog 60 #[u, v] w' fun e w'' => e = .returned (.bool (decide (wsgn bs < wsgn cs))) ∧ Below w'.heap.size w' w'') := fun u v w' h h' => by
    rw [← flipT_less bs cs h1 hl]
    exact less_any u v _ _ w' h h' (by rw [flipT_length, flipT_length]; exact hl) (by rw [flipT_length]; omega)
  have HB : Hid (∀ u v w', IsW w' u (flipT bs) → IsW w' v (flipT cs) → Calls Tryz.prog 60 #[v, u] w' fun e w'' => e = .returned (.bool (decide (wsgn cs < wsgn bs))) ∧ Below w'.heap.size w' w'') := fun u v w' h h' => by
    rw [← flipT_less cs bs (by omega) hl.symm]
    exact less_any v u _ _ w' h' h (by rw [flipT_length, flipT_length]; exact hl.symm) (by rw [flipT_length]; omega)
  obtain ⟨l, hl'⟩ : ∃ l, decide (wsgn bs < wsgn cs) = l := ⟨_, rfl⟩
  obtain ⟨m, hm⟩ : ∃ m, decide (wsgn cs < wsgn bs) = m := ⟨_, rfl⟩
  rw [hl', hm]
  rw [hl'] at HA
  rw [hm] at HB
  obtain ⟨g, cap, rfl, hcap, hmx, hg, hc⟩ := hu
  rw [hL] at HU hcap hl h1 h64 ⊢
  unfold maxLen at hmx
  have HL : Hid (bs.length = L) := hL
  have HLc : Hid (cs.length = L) := hl
  clear hl' hm hv hc hl hL
  go_enter Tryz.func42, Tryz.ntmps42
  go_wp2_with fail
  refine (copy_any _ bs _ HU.out (by rw [HL.out]; exact h1) (by rw [HL.out]; omega)).mono ?_
  rintro e w1 ⟨v1, rfl, hv1, b1⟩
  go_wp2_with fail
  refine (copy_any _ cs _ (HV.out.below b1) (by rw [HLc.out]; exact h1) (by rw [HLc.out]; omega)).mono ?_
  rintro e w2 ⟨v2, rfl, hv2, b2⟩
  rw [HL.out] at hv1
  rw [HLc.out] at hv2
  obtain ⟨g1, cap1, rfl, hg1, hg1'⟩ := hv1.form (by omega)
  obtain ⟨g2, cap2, rfl, hg2, hg2'⟩ := hv2.form (by omega)
  have hv12 := own_below hv1 b2
  have hs1 := b1.size
  have hs2 := b2.size
  have hne : g1 ≠ g2 := by omega
  have hlen1 : L - 1 < bs.length := by rw [HL.out]; omega
  have hlen2 : L - 1 < cs.length := by rw [HLc.out]; omega
  obtain ⟨T, hT⟩ : ∃ T, L - 1 = T := ⟨_, rfl⟩
  have hT0 : (0 : Int) ≤ (T : Int) := by omega
  have hT1 : (T : Int) < (L : Int) := by omega
  have hTL : IntKind.i64.wrap ((L : Int) - 1) = (T : Int) := by rw [IntKind.wrap_i64]; omega
  have hc1 : w2.cell? ⟨g1, T, none⟩ = some (.bool (bs.getD T false)) := by
    rw [hv12.cellAt T (by omega), List.getElem?_map, List.getElem?_eq_getElem (by omega), List.getD_eq_getElem?_getD, List.getElem?_eq_getElem (by omega)]; rfl
  have hc2 : w2.cell? ⟨g2, T, none⟩ = some (.bool (cs.getD T false)) := by
    rw [hv2.cellAt T (by omega), List.getElem?_map, List.getElem?_eq_getElem (by omega), List.getD_eq_getElem?_getD, List.getElem?_eq_getElem (by omega)]; rfl
  have hf1 := hv12.frozenAt T
  have hf2 := hv2.frozenAt T
  obtain ⟨x, hx⟩ : ∃ x, bs.getD T false = x := ⟨_, rfl⟩
  obtain ⟨y, hy⟩ : ∃ y, cs.getD T false = y := ⟨_, rfl⟩
  have HX : Hid _ := hx
  have HY : Hid _ := hy
  have HO1 : Hid _ := hv12
  have HO2 : Hid _ := hv2
  have HBB : Hid (Below w.heap.size w w2) := below_then b1 b2
  rw [hx] at hc1
  rw [hy] at hc2
  clear hx hy hv1 hv2 hv12 b1 b2 hlen1 hlen2
  have hTe : (L : Int) - 1 = (T : Int) := by omega
  rw [hTe]
  clear hTe hTL
  have HN1 : Hid (bs.set T (! x) = flipT bs) := by unfold Hid; rw [flipT, HL.out, hT, HX.out]
  have HN2 : Hid (cs.set T (! y) = flipT cs) := by unfold Hid; rw [flipT, HLc.out, hT, HY.out]
  have hg1w : w.heap.size ≤ g1 := hg1
  have hg2w : w.heap.size ≤ g2 := by omega
  clear HX HY hT
  go_upto_region 4 with fail
  go_cut [] from 24 (fun wc => IsW wc (.slice (some ⟨g1, 0, none⟩) L cap1) (flipT bs) ∧ IsW wc (.slice (some ⟨g2, 0, none⟩) L cap2) (flipT cs) ∧ Below w.heap.size w wc)
  case first =>
    go_region
    all_goals go_wp2_with fail
    all_goals go_meet
    have hf := flip_two HO1.out HO2.out hne T (! x) (! y)
    rw [HN1.out, HN2.out] at hf
    refine ⟨isW_own (by rw [flipT_length, HL.out]; exact hf.1.drew) (by rw [flipT_length, HL.out]; omega), isW_own (by rw [flipT_length, HLc.out]; exact hf.2.drew) (by rw [flipT_length, HLc.out]; omega), ?_⟩
    exact ((HBB.out.setCell (p := ⟨g1, T, none⟩) hg1w _).setCell (p := ⟨g2, T, none⟩) hg2w _).drew
  case rest =>
    obtain ⟨hi1, hi2, hbb⟩ := hcut
    have HI1 : Hid (IsW wc (.slice (some ⟨g1, 0, none⟩) L cap1) (flipT bs)) := hi1
    have HI2 : Hid (IsW wc (.slice (some ⟨g2, 0, none⟩) L cap2) (flipT cs)) := hi2
    have HB3 : Hid (Below w.heap.size w wc) := hbb
    clear hi1 hi2 hbb HO1 HO2 HN1 HN2 hc1 hc2 hf1 hf2 HBB HU HV
    cases l <;> cases m
    all_goals
      go_wp2_with fail
      refine (HA.out _ _ _ HI1.out HI2.out).mono ?_
      rintro e w5 ⟨rfl, b5⟩
      go_wp2_with fail
      refine (HB.out _ _ _ (HI1.out.below b5) (HI2.out.below b5)).mono ?_
      rintro e w6 ⟨rfl, b6⟩
      have HB6 : Hid (Below w.heap.size w w6) := below_then HB3.out (below_then b5 b6)
      clear b5 b6
      go_wp2_with fail
      refine (truth_any _ _).mono ?_
      rintro e w7 ⟨rfl, rfl⟩
      go_wp2
      go_ret
      exact ⟨rfl, below_then (below_then HB6.out ((Below.refl _ _).alloc (Nat.le_refl _) _)) ((Below.refl _ _).alloc (Nat.le_refl _) _)⟩
end Go.Proofs.YtkceplamaocmmaaGreatDoor
namespace Go.Proofs.YtkceplamaocmmaaGreatDoor
set_option linter.unusedVariables false
open Go.RowKit
theorem cmp6_any (u v : Value) (bs cs : List Bool) (w : World) (hu : IsW w u bs) (hv : IsW w v cs) (hl : cs.length = bs.length) (h1 : 1 ≤ bs.length) (h64 : bs.length ≤ 64) :
    Calls Tryz.prog 42 #[.int .i64 6, u, v] w fun e w' => e = .returned (.int .i64 (if cmpB 6 (decide (wsgn bs < wsgn cs)) (decide (wsgn cs < wsgn bs)) then 1 else 0)) ∧ Below w.heap.size w w' := by
  obtain ⟨L, hL⟩ : ∃ L, bs.length = L := ⟨_, rfl⟩
  have HV : Hid (IsW w v cs) := hv
  have HU : Hid (IsW w u bs) := hu
  have HA : Hid (∀ u v w', IsW w' u (flipT bs) → IsW w' v (flipT cs) → Calls Tryz.prog 60 #[u, v] w' fun e w'' => e = .returned (.bool (decide (wsgn bs < wsgn cs))) ∧ Below w'.heap.size w' w'') := fun u v w' h h' => by
    rw [← flipT_less bs cs h1 hl]
    exact less_any u v _ _ w' h h' (by rw [flipT_length, flipT_length]; exact hl) (by rw [flipT_length]; omega)
  have HB : Hid (∀ u v w', IsW w' u (flipT bs) → IsW w' v (flipT cs) → Calls Tryz.prog 60 #[v, u] w' fun e w'' => e = .returned (.bool (decide (wsgn cs < wsgn bs))) ∧ Below w'.heap.size w' w'') := fun u v w' h h' => by
    rw [← flipT_less cs bs (by omega) hl.symm]
    exact less_any v u _ _ w' h' h (by rw [flipT_length, flipT_length]; exact hl.symm) (by rw [flipT_length]; omega)
  obtain ⟨l, hl'⟩ : ∃ l, decide (wsgn bs < wsgn cs) = l := ⟨_, rfl⟩
  obtain ⟨m, hm⟩ : ∃ m, decide (wsgn cs < wsgn bs) = m := ⟨_, rfl⟩
  rw [hl', hm]
  rw [hl'] at HA
  rw [hm] at HB
  obtain ⟨g, cap, rfl, hcap, hmx, hg, hc⟩ := hu
  rw [hL] at HU hcap hl h1 h64 ⊢
  unfold maxLen at hmx
  have HL : Hid (bs.length = L) := hL
  have HLc : Hid (cs.length = L) := hl
  clear hl' hm hv hc hl hL
  go_enter Tryz.func42, Tryz.ntmps42
  go_wp2_with fail
  refine (copy_any _ bs _ HU.out (by rw [HL.out]; exact h1) (by rw [HL.out]; omega)).mono ?_
  rintro e w1 ⟨v1, rfl, hv1, b1⟩
  go_wp2_with fail
  refine (copy_any _ cs _ (HV.out.below b1) (by rw [HLc.out]; exact h1) (by rw [HLc.out]; omega)).mono ?_
  rintro e w2 ⟨v2, rfl, hv2, b2⟩
  rw [HL.out] at hv1
  rw [HLc.out] at hv2
  obtain ⟨g1, cap1, rfl, hg1, hg1'⟩ := hv1.form (by omega)
  obtain ⟨g2, cap2, rfl, hg2, hg2'⟩ := hv2.form (by omega)
  have hv12 := own_below hv1 b2
  have hs1 := b1.size
  have hs2 := b2.size
  have hne : g1 ≠ g2 := by omega
  have hlen1 : L - 1 < bs.length := by rw [HL.out]; omega
  have hlen2 : L - 1 < cs.length := by rw [HLc.out]; omega
  obtain ⟨T, hT⟩ : ∃ T, L - 1 = T := ⟨_, rfl⟩
  have hT0 : (0 : Int) ≤ (T : Int) := by omega
  have hT1 : (T : Int) < (L : Int) := by omega
  have hTL : IntKind.i64.wrap ((L : Int) - 1) = (T : Int) := by rw [IntKind.wrap_i64]; omega
  have hc1 : w2.cell? ⟨g1, T, none⟩ = some (.bool (bs.getD T false)) := by
    rw [hv12.cellAt T (by omega), List.getElem?_map, List.getElem?_eq_getElem (by omega), List.getD_eq_getElem?_getD, List.getElem?_eq_getElem (by omega)]; rfl
  have hc2 : w2.cell? ⟨g2, T, none⟩ = some (.bool (cs.getD T false)) := by
    rw [hv2.cellAt T (by omega), List.getElem?_map, List.getElem?_eq_getElem (by omega), List.getD_eq_getElem?_getD, List.getElem?_eq_getElem (by omega)]; rfl
  have hf1 := hv12.frozenAt T
  have hf2 := hv2.frozenAt T
  obtain ⟨x, hx⟩ : ∃ x, bs.getD T false = x := ⟨_, rfl⟩
  obtain ⟨y, hy⟩ : ∃ y, cs.getD T false = y := ⟨_, rfl⟩
  have HX : Hid _ := hx
  have HY : Hid _ := hy
  have HO1 : Hid _ := hv12
  have HO2 : Hid _ := hv2
  have HBB : Hid (Below w.heap.size w w2) := below_then b1 b2
  rw [hx] at hc1
  rw [hy] at hc2
  clear hx hy hv1 hv2 hv12 b1 b2 hlen1 hlen2
  have hTe : (L : Int) - 1 = (T : Int) := by omega
  rw [hTe]
  clear hTe hTL
  have HN1 : Hid (bs.set T (! x) = flipT bs) := by unfold Hid; rw [flipT, HL.out, hT, HX.out]
  have HN2 : Hid (cs.set T (! y) = flipT cs) := by unfold Hid; rw [flipT, HLc.out, hT, HY.out]
  have hg1w : w.heap.size ≤ g1 := hg1
  have hg2w : w.heap.size ≤ g2 := by omega
  clear HX HY hT
  go_upto_region 4 with fail
  go_cut [] from 24 (fun wc => IsW wc (.slice (some ⟨g1, 0, none⟩) L cap1) (flipT bs) ∧ IsW wc (.slice (some ⟨g2, 0, none⟩) L cap2) (flipT cs) ∧ Below w.heap.size w wc)
  case first =>
    go_region
    all_goals go_wp2_with fail
    all_goals go_meet
    have hf := flip_two HO1.out HO2.out hne T (! x) (! y)
    rw [HN1.out, HN2.out] at hf
    refine ⟨isW_own (by rw [flipT_length, HL.out]; exact hf.1.drew) (by rw [flipT_length, HL.out]; omega), isW_own (by rw [flipT_length, HLc.out]; exact hf.2.drew) (by rw [flipT_length, HLc.out]; omega), ?_⟩
    exact ((HBB.out.setCell (p := ⟨g1, T, none⟩) hg1w _).setCell (p := ⟨g2, T, none⟩) hg2w _).drew
  case rest =>
    obtain ⟨hi1, hi2, hbb⟩ := hcut
    have HI1 : Hid (IsW wc (.slice (some ⟨g1, 0, none⟩) L cap1) (flipT bs)) := hi1
    have HI2 : Hid (IsW wc (.slice (some ⟨g2, 0, none⟩) L cap2) (flipT cs)) := hi2
    have HB3 : Hid (Below w.heap.size w wc) := hbb
    clear hi1 hi2 hbb HO1 HO2 HN1 HN2 hc1 hc2 hf1 hf2 HBB HU HV
    cases l <;> cases m
    all_goals
      go_wp2_with fail
      refine (HA.out _ _ _ HI1.out HI2.out).mono ?_
      rintro e w5 ⟨rfl, b5⟩
      go_wp2_with fail
      refine (HB.out _ _ _ (HI1.out.below b5) (HI2.out.below b5)).mono ?_
      rintro e w6 ⟨rfl, b6⟩
      have HB6 : Hid (Below w.heap.size w w6) := below_then HB3.out (below_then b5 b6)
      clear b5 b6
      go_wp2_with fail
      refine (truth_any _ _).mono ?_
      rintro e w7 ⟨rfl, rfl⟩
      go_wp2
      go_ret
      exact ⟨rfl, below_then (below_then HB6.out ((Below.refl _ _).alloc (Nat.le_refl _) _)) ((Below.refl _ _).alloc (Nat.le_refl _) _)⟩
theorem cmp8_any (u v : Value) (bs cs : List Bool) (w : World) (hu : IsW w u bs) (hv : IsW w v cs) (hl : cs.length = bs.length) (h1 : 1 ≤ bs.length) (h64 : bs.length ≤ 64) :
    Calls Tryz.prog 42 #[.int .i64 8, u, v] w fun e w' => e = .returned (.int .i64 (if cmpB 8 (decide (wsgn bs < wsgn cs)) (decide (wsgn cs < wsgn bs)) then 1 else 0)) ∧ Below w.heap.size w w' := by
  obtain ⟨L, hL⟩ : ∃ L, bs.length = L := ⟨_, rfl⟩
  have HV : Hid (IsW w v cs) := hv
  have HU : Hid (IsW w u bs) := hu
  have HA : Hid (∀ u v w', IsW w' u (flipT bs) → IsW w' v (flipT cs) → Calls Tryz.prog 60 #[u, v] w' fun e w'' => e = .returned (.bool (decide (wsgn bs < wsgn cs))) ∧ Below w'.heap.size w' w'') := fun u v w' h h' => by
    rw [← flipT_less bs cs h1 hl]
    exact less_any u v _ _ w' h h' (by rw [flipT_length, flipT_length]; exact hl) (by rw [flipT_length]; omega)
  have HB : Hid (∀ u v w', IsW w' u (flipT bs) → IsW w' v (flipT cs) → Calls Tryz.prog 60 #[v, u] w' fun e w'' => e = .returned (.bool (decide (wsgn cs < wsgn bs))) ∧ Below w'.heap.size w' w'') := fun u v w' h h' => by
    rw [← flipT_less cs bs (by omega) hl.symm]
    exact less_any v u _ _ w' h' h (by rw [flipT_length, flipT_length]; exact hl.symm) (by rw [flipT_length]; omega)
  obtain ⟨l, hl'⟩ : ∃ l, decide (wsgn bs < wsgn cs) = l := ⟨_, rfl⟩
  obtain ⟨m, hm⟩ : ∃ m, decide (wsgn cs < wsgn bs) = m := ⟨_, rfl⟩
  rw [hl', hm]
  rw [hl'] at HA
  rw [hm] at HB
  obtain ⟨g, cap, rfl, hcap, hmx, hg, hc⟩ := hu
  rw [hL] at HU hcap hl h1 h64 ⊢
  unfold maxLen at hmx
  have HL : Hid (bs.length = L) := hL
  have HLc : Hid (cs.length = L) := hl
  clear hl' hm hv hc hl hL
  go_enter Tryz.func42, Tryz.ntmps42
  go_wp2_with fail
  refine (copy_any _ bs _ HU.out (by rw [HL.out]; exact h1) (by rw [HL.out]; omega)).mono ?_
  rintro e w1 ⟨v1, rfl, hv1, b1⟩
  go_wp2_with fail
  refine (copy_any _ cs _ (HV.out.below b1) (by rw [HLc.out]; exact h1) (by rw [HLc.out]; omega)).mono ?_
  rintro e w2 ⟨v2, rfl, hv2, b2⟩
  rw [HL.out] at hv1
  rw [HLc.out] at hv2
  obtain ⟨g1, cap1, rfl, hg1, hg1'⟩ := hv1.form (by omega)
  obtain ⟨g2, cap2, rfl, hg2, hg2'⟩ := hv2.form (by omega)
  have hv12 := own_below hv1 b2
  have hs1 := b1.size
  have hs2 := b2.size
  have hne : g1 ≠ g2 := by omega
  have hlen1 : L - 1 < bs.length := by rw [HL.out]; omega
  have hlen2 : L - 1 < cs.length := by rw [HLc.out]; omega
  obtain ⟨T, hT⟩ : ∃ T, L - 1 = T := ⟨_, rfl⟩
  have hT0 : (0 : Int) ≤ (T : Int) := by omega
  have hT1 : (T : Int) < (L : Int) := by omega
  have hTL : IntKind.i64.wrap ((L : Int) - 1) = (T : Int) := by rw [IntKind.wrap_i64]; omega
  have hc1 : w2.cell? ⟨g1, T, none⟩ = some (.bool (bs.getD T false)) := by
    rw [hv12.cellAt T (by omega), List.getElem?_map, List.getElem?_eq_getElem (by omega), List.getD_eq_getElem?_getD, List.getElem?_eq_getElem (by omega)]; rfl
  have hc2 : w2.cell? ⟨g2, T, none⟩ = some (.bool (cs.getD T false)) := by
    rw [hv2.cellAt T (by omega), List.getElem?_map, List.getElem?_eq_getElem (by omega), List.getD_eq_getElem?_getD, List.getElem?_eq_getElem (by omega)]; rfl
  have hf1 := hv12.frozenAt T
  have hf2 := hv2.frozenAt T
  obtain ⟨x, hx⟩ : ∃ x, bs.getD T false = x := ⟨_, rfl⟩
  obtain ⟨y, hy⟩ : ∃ y, cs.getD T false = y := ⟨_, rfl⟩
  have HX : Hid _ := hx
  have HY : Hid _ := hy
  have HO1 : Hid _ := hv12
  have HO2 : Hid _ := hv2
  have HBB : Hid (Below w.heap.size w w2) := below_then b1 b2
  rw [hx] at hc1
  rw [hy] at hc2
  clear hx hy hv1 hv2 hv12 b1 b2 hlen1 hlen2
  have hTe : (L : Int) - 1 = (T : Int) := by omega
  rw [hTe]
  clear hTe hTL
  have HN1 : Hid (bs.set T (! x) = flipT bs) := by unfold Hid; rw [flipT, HL.out, hT, HX.out]
  have HN2 : Hid (cs.set T (! y) = flipT cs) := by unfold Hid; rw [flipT, HLc.out, hT, HY.out]
  have hg1w : w.heap.size ≤ g1 := hg1
  have hg2w : w.heap.size ≤ g2 := by omega
  clear HX HY hT
  go_upto_region 4 with fail
  go_cut [] from 24 (fun wc => IsW wc (.slice (some ⟨g1, 0, none⟩) L cap1) (flipT bs) ∧ IsW wc (.slice (some ⟨g2, 0, none⟩) L cap2) (flipT cs) ∧ Below w.heap.size w wc)
  case first =>
    go_region
    all_goals go_wp2_with fail
    all_goals go_meet
    have hf := flip_two HO1.out HO2.out hne T (! x) (! y)
    rw [HN1.out, HN2.out] at hf
    refine ⟨isW_own (by rw [flipT_length, HL.out]; exact hf.1.drew) (by rw [flipT_length, HL.out]; omega), isW_own (by rw [flipT_length, HLc.out]; exact hf.2.drew) (by rw [flipT_length, HLc.out]; omega), ?_⟩
    exact ((HBB.out.setCell (p := ⟨g1, T, none⟩) hg1w _).setCell (p := ⟨g2, T, none⟩) hg2w _).drew
  case rest =>
    obtain ⟨hi1, hi2, hbb⟩ := hcut
    have HI1 : Hid (IsW wc (.slice (some ⟨g1, 0, none⟩) L cap1) (flipT bs)) := hi1
    have HI2 : Hid (IsW wc (.slice (some ⟨g2, 0, none⟩) L cap2) (flipT cs)) := hi2
    have HB3 : Hid (Below w.heap.size w wc) := hbb
    clear hi1 hi2 hbb HO1 HO2 HN1 HN2 hc1 hc2 hf1 hf2 HBB HU HV
    cases l <;> cases m
    all_goals
      go_wp2_with fail
      refine (HA.out _ _ _ HI1.out HI2.out).mono ?_
      rintro e w5 ⟨rfl, b5⟩
      go_wp2_with fail
      refine (HB.out _ _ _ (HI1.out.below b5) (HI2.out.below b5)).mono ?_
      rintro e w6 ⟨rfl, b6⟩
      have HB6 : Hid (Below w.heap.size w w6) := below_then HB3.out (below_then b5 b6)
      clear b5 b6
      go_wp2_with fail
      refine (truth_any _ _).mono ?_
      rintro e w7 ⟨rfl, rfl⟩
      go_wp2
      go_ret
      exact ⟨rfl, below_then (below_then HB6.out ((Below.refl _ _).alloc (Nat.le_refl _) _)) ((Below.refl _ _).alloc (Nat.le_refl _) _)⟩
end Go.Proofs.YtkceplamaocmmaaGreatDoor
