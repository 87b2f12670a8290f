/-
  What the document's own compare does: numbers with signs.
-/
import Derived.Test.YtlbilmgpnpghlaaCmpS
import Derived.Deep.CutRange
namespace Go.Proofs.Ytlbilmgpnpghlaa
open Go.RowKit

set_option maxHeartbeats 1000000 in
set_option maxRecDepth 1000000 in
theorem cmp6_any (u v : Value) (bs cs : List Bool) (w : World) (hu : IsW w u bs) (hv : IsW w v cs) (hl : cs.length = bs.length) (h1 : 1 ≤ bs.length) (h64 : bs.length ≤ 64) :
    Calls Try.prog 23 #[.int .i64 6, u, v] w fun e w' => e = .returned (.int .i64 (if cmpB 6 (decide (wsgn bs < wsgn cs)) (decide (wsgn cs < wsgn bs)) then 1 else 0)) ∧ Below w.heap.size w w' := by
  obtain ⟨L, hL⟩ : ∃ L, bs.length = L := ⟨_, rfl⟩
  have HV : Hid (IsW w v cs) := hv
  have HU : Hid (IsW w u bs) := hu
  have HA : Hid (∀ u v w', IsW w' u (flipT bs) → IsW w' v (flipT cs) → Calls Try.prog 40 #[u, v] w' fun e w'' => e = .returned (.bool (decide (wsgn bs < wsgn cs))) ∧ Below w'.heap.size w' w'') := fun u v w' h h' => by
    rw [← flipT_less bs cs h1 hl]
    exact less_any u v _ _ w' h h' (by rw [flipT_length, flipT_length]; exact hl) (by rw [flipT_length]; omega)
  have HB : Hid (∀ u v w', IsW w' u (flipT bs) → IsW w' v (flipT cs) → Calls Try.prog 40 #[v, u] w' fun e w'' => e = .returned (.bool (decide (wsgn cs < wsgn bs))) ∧ Below w'.heap.size w' w'') := fun u v w' h h' => by
    rw [← flipT_less cs bs (by omega) hl.symm]
    exact less_any v u _ _ w' h' h (by rw [flipT_length, flipT_length]; exact hl.symm) (by rw [flipT_length]; omega)
  obtain ⟨l, hl'⟩ : ∃ l, decide (wsgn bs < wsgn cs) = l := ⟨_, rfl⟩
  obtain ⟨m, hm⟩ : ∃ m, decide (wsgn cs < wsgn bs) = m := ⟨_, rfl⟩
  rw [hl', hm]
  rw [hl'] at HA
  rw [hm] at HB
  obtain ⟨g, cap, rfl, hcap, hmx, hg, hc⟩ := hu
  rw [hL] at HU hcap hl h1 h64 ⊢
  unfold maxLen at hmx
  have HL : Hid (bs.length = L) := hL
  have HLc : Hid (cs.length = L) := hl
  clear hl' hm hv hc hl hL
  go_enter Try.func23, Try.ntmps23
  go_wp2_with fail
  refine (copy_any _ bs _ HU.out (by rw [HL.out]; exact h1) (by rw [HL.out]; omega)).mono ?_
  rintro e w1 ⟨v1, rfl, hv1, b1⟩
  go_wp2_with fail
  refine (copy_any _ cs _ (HV.out.below b1) (by rw [HLc.out]; exact h1) (by rw [HLc.out]; omega)).mono ?_
  rintro e w2 ⟨v2, rfl, hv2, b2⟩
  rw [HL.out] at hv1
  rw [HLc.out] at hv2
  obtain ⟨g1, cap1, rfl, hg1, hg1'⟩ := hv1.form (by omega)
  obtain ⟨g2, cap2, rfl, hg2, hg2'⟩ := hv2.form (by omega)
  have hv12 := own_below hv1 b2
  have hs1 := b1.size
  have hs2 := b2.size
  have hne : g1 ≠ g2 := by omega
  have hlen1 : L - 1 < bs.length := by rw [HL.out]; omega
  have hlen2 : L - 1 < cs.length := by rw [HLc.out]; omega
  obtain ⟨T, hT⟩ : ∃ T, L - 1 = T := ⟨_, rfl⟩
  have hT0 : (0 : Int) ≤ (T : Int) := by omega
  have hT1 : (T : Int) < (L : Int) := by omega
  have hTL : IntKind.i64.wrap ((L : Int) - 1) = (T : Int) := by rw [IntKind.wrap_i64]; omega
  have hc1 : w2.cell? ⟨g1, T, none⟩ = some (.bool (bs.getD T false)) := by
    rw [hv12.cellAt T (by omega), List.getElem?_map, List.getElem?_eq_getElem (by omega), List.getD_eq_getElem?_getD, List.getElem?_eq_getElem (by omega)]; rfl
  have hc2 : w2.cell? ⟨g2, T, none⟩ = some (.bool (cs.getD T false)) := by
    rw [hv2.cellAt T (by omega), List.getElem?_map, List.getElem?_eq_getElem (by omega), List.getD_eq_getElem?_getD, List.getElem?_eq_getElem (by omega)]; rfl
  have hf1 := hv12.frozenAt T
  have hf2 := hv2.frozenAt T
  obtain ⟨x, hx⟩ : ∃ x, bs.getD T false = x := ⟨_, rfl⟩
  obtain ⟨y, hy⟩ : ∃ y, cs.getD T false = y := ⟨_, rfl⟩
  have HX : Hid _ := hx
  have HY : Hid _ := hy
  have HO1 : Hid _ := hv12
  have HO2 : Hid _ := hv2
  have HBB : Hid (Below w.heap.size w w2) := below_then b1 b2
  rw [hx] at hc1
  rw [hy] at hc2
  clear hx hy hv1 hv2 hv12 b1 b2 hlen1 hlen2
  have hTe : (L : Int) - 1 = (T : Int) := by omega
  rw [hTe]
  clear hTe hTL
  have HN1 : Hid (bs.set T (! x) = flipT bs) := by unfold Hid; rw [flipT, HL.out, hT, HX.out]
  have HN2 : Hid (cs.set T (! y) = flipT cs) := by unfold Hid; rw [flipT, HLc.out, hT, HY.out]
  have hg1w : w.heap.size ≤ g1 := hg1
  have hg2w : w.heap.size ≤ g2 := by omega
  clear HX HY hT
  go_upto_region 4 with fail
  go_cut [] from 24 (fun wc => IsW wc (.slice (some ⟨g1, 0, none⟩) L cap1) (flipT bs) ∧ IsW wc (.slice (some ⟨g2, 0, none⟩) L cap2) (flipT cs) ∧ Below w.heap.size w wc)
  case first =>
    go_region
    all_goals go_wp2_with fail
    all_goals go_meet
    have hf := flip_two HO1.out HO2.out hne T (! x) (! y)
    rw [HN1.out, HN2.out] at hf
    refine ⟨isW_own (by rw [flipT_length, HL.out]; exact hf.1.drew) (by rw [flipT_length, HL.out]; omega), isW_own (by rw [flipT_length, HLc.out]; exact hf.2.drew) (by rw [flipT_length, HLc.out]; omega), ?_⟩
    exact ((HBB.out.setCell (p := ⟨g1, T, none⟩) hg1w _).setCell (p := ⟨g2, T, none⟩) hg2w _).drew
  case rest =>
    obtain ⟨hi1, hi2, hbb⟩ := hcut
    have HI1 : Hid (IsW wc (.slice (some ⟨g1, 0, none⟩) L cap1) (flipT bs)) := hi1
    have HI2 : Hid (IsW wc (.slice (some ⟨g2, 0, none⟩) L cap2) (flipT cs)) := hi2
    have HB3 : Hid (Below w.heap.size w wc) := hbb
    clear hi1 hi2 hbb HO1 HO2 HN1 HN2 hc1 hc2 hf1 hf2 HBB HU HV
    cases l <;> cases m
    all_goals
      go_wp2_with fail
      refine (HA.out _ _ _ HI1.out HI2.out).mono ?_
      rintro e w5 ⟨rfl, b5⟩
      go_wp2_with fail
      refine (HB.out _ _ _ (HI1.out.below b5) (HI2.out.below b5)).mono ?_
      rintro e w6 ⟨rfl, b6⟩
      have HB6 : Hid (Below w.heap.size w w6) := below_then HB3.out (below_then b5 b6)
      clear b5 b6
      go_wp2_with fail
      refine (truth_any _ _).mono ?_
      rintro e w7 ⟨rfl, rfl⟩
      go_wp2
      go_ret
      exact ⟨rfl, below_then (below_then HB6.out ((Below.refl _ _).alloc (Nat.le_refl _) _)) ((Below.refl _ _).alloc (Nat.le_refl _) _)⟩

set_option maxHeartbeats 1000000 in
set_option maxRecDepth 1000000 in
theorem cmp8_any (u v : Value) (bs cs : List Bool) (w : World) (hu : IsW w u bs) (hv : IsW w v cs) (hl : cs.length = bs.length) (h1 : 1 ≤ bs.length) (h64 : bs.length ≤ 64) :
    Calls Try.prog 23 #[.int .i64 8, u, v] w fun e w' => e = .returned (.int .i64 (if cmpB 8 (decide (wsgn bs < wsgn cs)) (decide (wsgn cs < wsgn bs)) then 1 else 0)) ∧ Below w.heap.size w w' := by
  obtain ⟨L, hL⟩ : ∃ L, bs.length = L := ⟨_, rfl⟩
  have HV : Hid (IsW w v cs) := hv
  have HU : Hid (IsW w u bs) := hu
  have HA : Hid (∀ u v w', IsW w' u (flipT bs) → IsW w' v (flipT cs) → Calls Try.prog 40 #[u, v] w' fun e w'' => e = .returned (.bool (decide (wsgn bs < wsgn cs))) ∧ Below w'.heap.size w' w'') := fun u v w' h h' => by
    rw [← flipT_less bs cs h1 hl]
    exact less_any u v _ _ w' h h' (by rw [flipT_length, flipT_length]; exact hl) (by rw [flipT_length]; omega)
  have HB : Hid (∀ u v w', IsW w' u (flipT bs) → IsW w' v (flipT cs) → Calls Try.prog 40 #[v, u] w' fun e w'' => e = .returned (.bool (decide (wsgn cs < wsgn bs))) ∧ Below w'.heap.size w' w'') := fun u v w' h h' => by
    rw [← flipT_less cs bs (by omega) hl.symm]
    exact less_any v u _ _ w' h' h (by rw [flipT_length, flipT_length]; exact hl.symm) (by rw [flipT_length]; omega)
  obtain ⟨l, hl'⟩ : ∃ l, decide (wsgn bs < wsgn cs) = l := ⟨_, rfl⟩
  obtain ⟨m, hm⟩ : ∃ m, decide (wsgn cs < wsgn bs) = m := ⟨_, rfl⟩
  rw [hl', hm]
  rw [hl'] at HA
  rw [hm] at HB
  obtain ⟨g, cap, rfl, hcap, hmx, hg, hc⟩ := hu
  rw [hL] at HU hcap hl h1 h64 ⊢
  unfold maxLen at hmx
  have HL : Hid (bs.length = L) := hL
  have HLc : Hid (cs.length = L) := hl
  clear hl' hm hv hc hl hL
  go_enter Try.func23, Try.ntmps23
  go_wp2_with fail
  refine (copy_any _ bs _ HU.out (by rw [HL.out]; exact h1) (by rw [HL.out]; omega)).mono ?_
  rintro e w1 ⟨v1, rfl, hv1, b1⟩
  go_wp2_with fail
  refine (copy_any _ cs _ (HV.out.below b1) (by rw [HLc.out]; exact h1) (by rw [HLc.out]; omega)).mono ?_
  rintro e w2 ⟨v2, rfl, hv2, b2⟩
  rw [HL.out] at hv1
  rw [HLc.out] at hv2
  obtain ⟨g1, cap1, rfl, hg1, hg1'⟩ := hv1.form (by omega)
  obtain ⟨g2, cap2, rfl, hg2, hg2'⟩ := hv2.form (by omega)
  have hv12 := own_below hv1 b2
  have hs1 := b1.size
  have hs2 := b2.size
  have hne : g1 ≠ g2 := by omega
  have hlen1 : L - 1 < bs.length := by rw [HL.out]; omega
  have hlen2 : L - 1 < cs.length := by rw [HLc.out]; omega
  obtain ⟨T, hT⟩ : ∃ T, L - 1 = T := ⟨_, rfl⟩
  have hT0 : (0 : Int) ≤ (T : Int) := by omega
  have hT1 : (T : Int) < (L : Int) := by omega
  have hTL : IntKind.i64.wrap ((L : Int) - 1) = (T : Int) := by rw [IntKind.wrap_i64]; omega
  have hc1 : w2.cell? ⟨g1, T, none⟩ = some (.bool (bs.getD T false)) := by
    rw [hv12.cellAt T (by omega), List.getElem?_map, List.getElem?_eq_getElem (by omega), List.getD_eq_getElem?_getD, List.getElem?_eq_getElem (by omega)]; rfl
  have hc2 : w2.cell? ⟨g2, T, none⟩ = some (.bool (cs.getD T false)) := by
    rw [hv2.cellAt T (by omega), List.getElem?_map, List.getElem?_eq_getElem (by omega), List.getD_eq_getElem?_getD, List.getElem?_eq_getElem (by omega)]; rfl
  have hf1 := hv12.frozenAt T
  have hf2 := hv2.frozenAt T
  obtain ⟨x, hx⟩ : ∃ x, bs.getD T false = x := ⟨_, rfl⟩
  obtain ⟨y, hy⟩ : ∃ y, cs.getD T false = y := ⟨_, rfl⟩
  have HX : Hid _ := hx
  have HY : Hid _ := hy
  have HO1 : Hid _ := hv12
  have HO2 : Hid _ := hv2
  have HBB : Hid (Below w.heap.size w w2) := below_then b1 b2
  rw [hx] at hc1
  rw [hy] at hc2
  clear hx hy hv1 hv2 hv12 b1 b2 hlen1 hlen2
  have hTe : (L : Int) - 1 = (T : Int) := by omega
  rw [hTe]
  clear hTe hTL
  have HN1 : Hid (bs.set T (! x) = flipT bs) := by unfold Hid; rw [flipT, HL.out, hT, HX.out]
  have HN2 : Hid (cs.set T (! y) = flipT cs) := by unfold Hid; rw [flipT, HLc.out, hT, HY.out]
  have hg1w : w.heap.size ≤ g1 := hg1
  have hg2w : w.heap.size ≤ g2 := by omega
  clear HX HY hT
  go_upto_region 4 with fail
  go_cut [] from 24 (fun wc => IsW wc (.slice (some ⟨g1, 0, none⟩) L cap1) (flipT bs) ∧ IsW wc (.slice (some ⟨g2, 0, none⟩) L cap2) (flipT cs) ∧ Below w.heap.size w wc)
  case first =>
    go_region
    all_goals go_wp2_with fail
    all_goals go_meet
    have hf := flip_two HO1.out HO2.out hne T (! x) (! y)
    rw [HN1.out, HN2.out] at hf
    refine ⟨isW_own (by rw [flipT_length, HL.out]; exact hf.1.drew) (by rw [flipT_length, HL.out]; omega), isW_own (by rw [flipT_length, HLc.out]; exact hf.2.drew) (by rw [flipT_length, HLc.out]; omega), ?_⟩
    exact ((HBB.out.setCell (p := ⟨g1, T, none⟩) hg1w _).setCell (p := ⟨g2, T, none⟩) hg2w _).drew
  case rest =>
    obtain ⟨hi1, hi2, hbb⟩ := hcut
    have HI1 : Hid (IsW wc (.slice (some ⟨g1, 0, none⟩) L cap1) (flipT bs)) := hi1
    have HI2 : Hid (IsW wc (.slice (some ⟨g2, 0, none⟩) L cap2) (flipT cs)) := hi2
    have HB3 : Hid (Below w.heap.size w wc) := hbb
    clear hi1 hi2 hbb HO1 HO2 HN1 HN2 hc1 hc2 hf1 hf2 HBB HU HV
    cases l <;> cases m
    all_goals
      go_wp2_with fail
      refine (HA.out _ _ _ HI1.out HI2.out).mono ?_
      rintro e w5 ⟨rfl, b5⟩
      go_wp2_with fail
      refine (HB.out _ _ _ (HI1.out.below b5) (HI2.out.below b5)).mono ?_
      rintro e w6 ⟨rfl, b6⟩
      have HB6 : Hid (Below w.heap.size w w6) := below_then HB3.out (below_then b5 b6)
      clear b5 b6
      go_wp2_with fail
      refine (truth_any _ _).mono ?_
      rintro e w7 ⟨rfl, rfl⟩
      go_wp2
      go_ret
      exact ⟨rfl, below_then (below_then HB6.out ((Below.refl _ _).alloc (Nat.le_refl _) _)) ((Below.refl _ _).alloc (Nat.le_refl _) _)⟩

end Go.Proofs.Ytlbilmgpnpghlaa
