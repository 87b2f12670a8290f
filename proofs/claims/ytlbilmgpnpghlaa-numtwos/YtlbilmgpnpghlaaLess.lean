/-
  What the document's own less does: it compares words without signs.
-/
import Derived.Test.YtlbilmgpnpghlaaWord2
namespace Go.Proofs.Ytlbilmgpnpghlaa
open Go.RowKit

theorem wval_at (bs : List Bool) (j : Nat) (h : j < bs.length) : wval bs = wval (bs.take j) + (if bs.getD j false then 2 ^ j else 0) + wval (bs.drop (j + 1)) * 2 ^ (j + 1) := by
  conv => lhs; rw [← List.take_append_drop (j + 1) bs]
  rw [wval_append, take_succ_snoc bs j h, wval_snoc, List.length_append, List.length_take, Nat.min_eq_left (by omega)]; rfl
theorem less_at (bs cs : List Bool) (j : Nat) (h : j < bs.length) (h' : j < cs.length) (hd : bs.drop (j + 1) = cs.drop (j + 1)) (x y : Bool) (hx : bs.getD j false = x) (hy : cs.getD j false = y) (hne : x ≠ y) : decide (wval bs < wval cs) = y := by
  have e1 := wval_at bs j h
  have e2 := wval_at cs j h'
  have b1 := wval_bound (bs.take j)
  have b2 := wval_bound (cs.take j)
  rw [List.length_take, Nat.min_eq_left (by omega)] at b1 b2
  rw [hx] at e1
  rw [hy, ← hd] at e2
  cases x <;> cases y
  · exact absurd rfl hne
  · simp only [Bool.false_eq_true, if_false, if_true] at e1 e2
    rw [decide_eq_true_iff]; omega
  · simp only [Bool.false_eq_true, if_false, if_true] at e1 e2
    rw [decide_eq_false_iff_not]; omega
  · exact absurd rfl hne

set_option maxHeartbeats 1000000 in
set_option maxRecDepth 1000000 in
theorem less_any (u v : Value) (bs cs : List Bool) (w : World) (hu : IsW w u bs) (hv : IsW w v cs) (hl : cs.length = bs.length) (h65 : bs.length ≤ 65) :
    Calls Try.prog 40 #[u, v] w fun e w' => e = .returned (.bool (decide (wval bs < wval cs))) ∧ Below w.heap.size w w' := by
  obtain ⟨g, cap, rfl, hcap, hmx, hg, hc⟩ := hu
  obtain ⟨g', cap', rfl, hcap', hmx', hg', hc'⟩ := hv
  rw [hl] at hcap' hc' ⊢
  unfold maxLen at hmx hmx'
  obtain ⟨L, hL⟩ : ∃ L, bs.length = L := ⟨_, rfl⟩
  rw [hL] at hcap hc hcap' hc' h65 ⊢
  have HLc : Hid (cs.length = L) := by unfold Hid; rw [hl, hL]
  have HL : Hid (bs.length = L) := hL
  clear hL hl
  obtain ⟨R, hR⟩ : ∃ R, decide (wval bs < wval cs) = R := ⟨_, rfl⟩
  rw [hR]
  have HR : Hid (decide (wval bs < wval cs) = R) := hR
  clear hR
  go_enter Try.func40, Try.ntmps40
  go_wp2
  go_loopw [5] (fun i wr => ∃ j : Nat, i = .int .i64 ((j : Int) - 1) ∧ j ≤ L ∧ Hid (bs.drop j = cs.drop j) ∧ Below w.heap.size w wr) (fun i _ => (intOf i + 1).toNat)
  case atStart => exact ⟨L, rfl, by omega, by unfold Hid; rw [List.drop_eq_nil_of_le (by rw [HL.out]; omega), List.drop_eq_nil_of_le (by rw [HLc.out]; omega)], Below.refl _ _⟩
  case round =>
    obtain ⟨j, rfl, hj, HD, hnx⟩ := hrel
    cases j with
    | zero =>
      have HE : Hid (false = R) := by unfold Hid; rw [← HR.out]; have := HD.out; rw [List.drop_zero, List.drop_zero] at this; rw [this]; simp
      clear hc hc' HD
      go_wp2
      go_ret
      exact ⟨ret_b HE.out, hnx⟩
    | succ j =>
      have e : (((j + 1 : Nat) : Int) - 1) = (j : Int) := by omega
      rw [e]
      have hlt : j < L := by omega
      have hlti : (j : Int) < (L : Int) := by omega
      have hcell : wr.cell? ⟨g, j, none⟩ = some (.bool (bs.getD j false)) := (hnx.cell (p := ⟨g, j, none⟩) hg).trans (hc j hlt)
      have hcell' : wr.cell? ⟨g', j, none⟩ = some (.bool (cs.getD j false)) := (hnx.cell (p := ⟨g', j, none⟩) hg').trans (hc' j hlt)
      obtain ⟨x, hx⟩ : ∃ x, bs.getD j false = x := ⟨_, rfl⟩
      obtain ⟨y, hy⟩ : ∃ y, cs.getD j false = y := ⟨_, rfl⟩
      have HX : Hid _ := hx
      have HY : Hid _ := hy
      rw [hx] at hcell
      rw [hy] at hcell'
      clear hx hy hc hc' e
      by_cases hxy : x = y
      · have HN : Hid (bs.drop j = cs.drop j) := by
          unfold Hid
          have a1 : bs.drop j = bs.getD j false :: bs.drop (j + 1) := by rw [List.drop_eq_getElem_cons (by rw [HL.out]; exact hlt), List.getD_eq_getElem?_getD, List.getElem?_eq_getElem (by rw [HL.out]; exact hlt), Option.getD_some]
          have a2 : cs.drop j = cs.getD j false :: cs.drop (j + 1) := by rw [List.drop_eq_getElem_cons (by rw [HLc.out]; exact hlt), List.getD_eq_getElem?_getD, List.getElem?_eq_getElem (by rw [HLc.out]; exact hlt), Option.getD_some]
          rw [a1, a2, HX.out, HY.out, HD.out, hxy]
        subst hxy
        clear HX HY HD
        cases x
        all_goals
          go_wp2
          go_quiet (fail)
          go_wp2
          go_roundw
          case rel => exact ⟨j, by go_num, by omega, HN, below_drewN hnx _⟩
          case measure => simp [intOf]
      · have HE : Hid (y = R) := by unfold Hid; rw [← HR.out]; exact (less_at bs cs j (by rw [HL.out]; exact hlt) (by rw [HLc.out]; exact hlt) HD.out x y HX.out HY.out hxy).symm
        clear HX HY HD
        cases x <;> cases y
        case false.false => exact absurd rfl hxy
        case true.true => exact absurd rfl hxy
        all_goals
          clear hxy
          go_wp2
          go_quiet (fail)
          go_wp2
          go_ret
          exact ⟨ret_b HE.out, below_drewN hnx _⟩

end Go.Proofs.Ytlbilmgpnpghlaa
