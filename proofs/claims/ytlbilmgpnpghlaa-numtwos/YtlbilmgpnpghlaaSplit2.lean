/-
  What the document's own split does: quotient and rest, without signs.
-/
import Derived.Test.YtlbilmgpnpghlaaSplit
namespace Go.Proofs.Ytlbilmgpnpghlaa
open Go.RowKit

theorem mk_word1 (n : Nat) (h : n ≤ 64) (w : World) :
    (Instr.makeSlice 42 (.int .i64 ((n : Int) + 1)) (.int .i64 ((n : Int) + 1))).run Try.prog w = .ok (.slice (some ⟨w.heap.size, 0, none⟩) (n + 1) (n + 1)) (w.alloc (.cells (madeCells #[.bool false] (n + 1)) 4)) := by
  have := mk_word (n + 1) (by omega) w
  rw [Int.natCast_add] at this
  exact this

theorem made_isW' (w : World) (n H : Nat) (h1 : 1 ≤ n) (h : n ≤ 65) (hH : w.heap.size = H) : IsW (w.alloc (.cells (madeCells #[.bool false] n) 4)) (.slice (some ⟨H, 0, none⟩) n n) (List.replicate n false) := by
  subst hH
  exact made_isW w n h1 h
theorem made_own' (w : World) (n H B : Nat) (h : n ≤ 65) (hH : w.heap.size = H) (hB : B ≤ H) : (w.alloc (.cells (madeCells #[.bool false] n) 4)).ownsRow B 4 1 (.slice (some ⟨H, 0, none⟩) n n) n ((List.replicate n false).map Value.bool) := by
  subst hH
  rw [← made_false]
  exact World.ownsRow_lit w _ n hB (by unfold maxLen; omega) (by rw [size_madeCells, Nat.mul_one])

set_option maxHeartbeats 2000000 in
set_option maxRecDepth 1000000 in
theorem split_any (u v : Value) (bs cs : List Bool) (w : World) (hu : IsW w u bs) (hv : IsW w v cs) (hl : cs.length = bs.length) (h1 : 1 ≤ bs.length) (h64 : bs.length ≤ 64) (hC : 0 < wval cs) :
    Calls Try.prog 48 #[u, v] w fun e w' => ∃ q r qs rs, e = .returned (.tuple #[q, r]) ∧ IsW w' q qs ∧ IsW w' r rs ∧ Hid (qs.length = bs.length ∧ rs.length = bs.length ∧ wval qs = wval bs / wval cs ∧ wval rs = wval bs % wval cs) ∧ Below w.heap.size w w' := by
  obtain ⟨i0, hi, hz0, hz1, hz2⟩ := info_parts Try.infoBool
  have hCL : wval cs < 2 ^ bs.length := by rw [← hl]; exact (wval_bound cs).2
  obtain ⟨L, hL⟩ : ∃ L, bs.length = L := ⟨_, rfl⟩
  have HU : Hid (IsW w u bs) := hu
  have HV : Hid (IsW w v cs) := hv
  obtain ⟨g, cap, rfl, hcap, hmx, hg, hc⟩ := hu
  obtain ⟨g', cap', rfl, hcap', hmx', hg', hc'⟩ := hv
  unfold maxLen at hmx hmx'
  rw [hL] at hl hcap hc h1 h64 hCL HU ⊢
  rw [hl] at hcap' HV ⊢
  have HC : Hid (0 < wval cs) := hC
  have HCL : Hid (wval cs < 2 ^ L) := hCL
  have HLc : Hid (cs.length = L) := hl
  have HL : Hid (bs.length = L) := hL
  have hmk := mk_word L (by omega)
  have hmk1 := mk_word1 L h64
  have hw1 : IntKind.i64.wrap ((L : Int) + 1) = (L : Int) + 1 := by rw [IntKind.wrap_i64]; omega
  clear hl hL hC hCL hc hc'
  go_enter Try.func48, Try.ntmps48
  go_wp2_with fail
  refine (copy_any _ cs _ HV.out (by rw [HLc.out]; exact h1) (by rw [HLc.out]; omega)).mono ?_
  rintro e w1 ⟨v1, rfl, hv1, b1⟩
  rw [HLc.out] at hv1
  have hs1 := b1.size
  go_wp2_with (at_builtin; refine wpList_append_own _ rfl _ _ 41 rfl w.heap.size 4 i0 (.bool false) 1 1 Try.underlying41 hi hz0 hz1 hz2 rfl (by decide) _ _ _ rfl (hv1.alloc _) ⟨_, 0, none⟩ 1 1 [.bool false] rfl rfl ?c1 ?c2 ?c3 ?c4 ?c5 ?_)
  case c1 => exact cell_one_new _ _ _
  case c2 => intro u hu; simp at hu; subst hu; rfl
  case c3 => unfold maxLen; omega
  case c4 => omega
  case c5 => simp; omega
  intro v2 w2 hown2 hgrow2 _
  have hb2 : Below w.heap.size w w2 := (b1.alloc (by omega) _).grown hgrow2 (by simp; omega) (fun j hj => (hv1.lt j hj).1)
  have hwide : IsW w2 v2 (cs ++ [false]) := isW_own (e := 4) (base := w.heap.size) (by rw [List.length_append, HLc.out, List.map_append]; exact hown2) (by simp)
  have HWD : Hid (IsW w2 v2 (cs ++ [false])) := hwide
  have HB2 : Hid (Below w.heap.size w w2) := hb2
  have hs2 := hb2.size
  clear hwide hb2 hown2 hgrow2 hv1 b1 hs1
  go_upto_region 2 with fail
  go_cut [7, 8] from 14 (fun s7 s8 wc => ∃ gq gr, s7 = .slice (some ⟨gq, 0, none⟩) L L ∧ s8 = .slice (some ⟨gr, 0, none⟩) (L + 1) (L + 1) ∧ gr ≠ gq ∧ gq < wc.heap.size ∧ wc.ownsRow w2.heap.size 4 1 (.slice (some ⟨gq, 0, none⟩) L L) L ((List.replicate L false).map Value.bool) ∧ IsW wc (.slice (some ⟨gr, 0, none⟩) (L + 1) (L + 1)) (List.replicate (L + 1) false) ∧ Below w2.heap.size w2 wc)
  case first =>
    go_region
    all_goals go_wp2_with fail
    all_goals go_meet
    all_goals clear hmk hmk1 hw1
    all_goals first
      | exact ⟨w2.heap.size, w2.heap.size + 1, rfl, rfl, by omega, by simp; omega, ((made_own' w2 L _ _ (by omega) rfl (Nat.le_refl _)).alloc _).drew, (made_isW' (w2.alloc _) (L + 1) _ (by omega) (by omega) (by simp)).drew, (((Below.refl _ w2).alloc (Nat.le_refl _) _).alloc (by simp) _).drew⟩
      | exact ⟨w2.heap.size + 1, w2.heap.size, rfl, rfl, by omega, by simp, (made_own' (w2.alloc _) L _ _ (by omega) (by simp) (by omega)).drew, ((made_isW' w2 (L + 1) _ (by omega) (by omega) rfl).alloc _).drew, (((Below.refl _ w2).alloc (Nat.le_refl _) _).alloc (by simp) _).drew⟩
  case rest =>
    obtain ⟨gq, gr, rfl, rfl, hne, hgq, hq, hr, hb⟩ := hcut
    clear hmk hmk1 hw1
    go_wp2
    have HQ0 : Hid (SplitAt L bs (wval cs) L (List.replicate (L + 1) false) (List.replicate L false)) := SplitAt.start L bs _ HL.out
    go_loopw [8, 9] (fun r i wr => ∃ (j gr capr : Nat) (rs qs : List Bool), i = .int .i64 ((j : Int) - 1) ∧ r = .slice (some ⟨gr, 0, none⟩) (L + 1) capr ∧ j ≤ L ∧ gr ≠ gq ∧ gq < wr.heap.size ∧ IsW wr (.slice (some ⟨gr, 0, none⟩) (L + 1) capr) rs ∧ wr.ownsRow w2.heap.size 4 1 (.slice (some ⟨gq, 0, none⟩) L L) L (qs.map Value.bool) ∧ Hid (SplitAt L bs (wval cs) j rs qs) ∧ Below w2.heap.size w2 wr) (fun _ i _ => (intOf i + 1).toNat)
    case atStart => exact ⟨L, gr, L + 1, _, _, rfl, rfl, by omega, hne, hgq, hr, hq, HQ0, hb⟩
    case round =>
      obtain ⟨j, gr, capr, rs, qs, rfl, rfl, hj, hne, hgq, hr, hq, HS, hb⟩ := hrel
      cases j with
      | zero =>
        obtain ⟨gr', capr', hrv, hcapr, hmxr, hgr, hcr⟩ := hr
        have HRL := HS.out.rl
        simp only [Value.slice.injEq, Option.some.injEq, Addr.mk.injEq, and_true] at hrv
        obtain ⟨rfl, _, rfl⟩ := hrv
        rw [HRL] at hcapr hcr
        have hcapr1 : (L : Int) ≤ (capr : Int) := by omega
        have hL0 : (0 : Int) ≤ (L : Int) := by omega
        have HD := HS.out.done HC.out HCL.out
        have HR : Hid (IsW wr (.slice (some ⟨gr, 0, none⟩) L capr) (rs.take L)) := by
          refine ⟨gr, capr, by rw [HD.2.1], by rw [HD.2.1]; omega, hmxr, hgr, fun i hi => ?_⟩
          rw [HD.2.1] at hi
          rw [hcr i (by omega), List.getD_eq_getElem?_getD, List.getD_eq_getElem?_getD, List.getElem?_take_of_lt hi]
        have HQ : Hid (IsW wr (.slice (some ⟨gq, 0, none⟩) L L) qs) := isW_own (by rw [HD.1]; exact hq) (by omega)
        have HD2 : Hid _ := HD
        have HBB : Hid (Below w.heap.size w wr) := below_then HB2.out hb
        clear hcr hq HRL HD HS hb
        go_wp2
        go_quiet (fail)
        go_wp2
        go_ret2
        exact ⟨_, _, qs, rs.take L, rfl, HQ.out, HR.out, HD2, below_drewN HBB.out _⟩
      | succ j =>
        have e : (((j + 1 : Nat) : Int) - 1) = (j : Int) := by omega
        rw [e]
        have hlt : j < L := by omega
        have hlti : (j : Int) < (L : Int) := by omega
        have HRL := HS.out.rl
        have HRW : Hid (IsW wr (.slice (some ⟨gr, 0, none⟩) (L + 1) capr) rs) := hr
        have HQ : Hid (wr.ownsRow w2.heap.size 4 1 (.slice (some ⟨gq, 0, none⟩) L L) L (qs.map Value.bool)) := hq
        have HB : Hid (Below w2.heap.size w2 wr) := hb
        clear hr hq hb e
        go_wp2_with fail
        refine (up_any _ rs 1 _ HRW.out (by rw [HRL]; omega) (by rw [HRL]; omega)).mono ?_
        rintro e w3 ⟨v3, rfl, hv3, b3⟩
        rw [HRL, Nat.add_sub_cancel] at hv3
        obtain ⟨g3, cap3, rfl, hg3, hg3'⟩ := hv3.form (by omega)
        have hs3 := b3.size
        have hcell3 : w3.cell? ⟨g3, 0, none⟩ = some (.bool false) := (hv3.cellAt 0 (by omega)).trans rfl
        have hfro3 := hv3.frozenAt 0
        obtain ⟨hst, _⟩ := hv3.stored 0 (.bool (bs.getD j false))
        rw [set_map] at hst
        have hst2 : (w3.setCell ⟨g3, 0, none⟩ (.bool (bs.getD j false))).ownsRow wr.heap.size 4 1 (.slice (some ⟨g3, 0, none⟩) (L + 1) cap3) (L + 1) ((bs.getD j false :: rs.take L).map Value.bool) := hst
        have HB4 : Hid (Below wr.heap.size wr (w3.setCell ⟨g3, 0, none⟩ (.bool (bs.getD j false)))) := b3.setCell (p := ⟨g3, 0, none⟩) hg3 _
        have HE : Hid (IsW (w3.setCell ⟨g3, 0, none⟩ (.bool (bs.getD j false))) (.slice (some ⟨g3, 0, none⟩) (L + 1) cap3) (bs.getD j false :: rs.take L)) := isW_own (e := 4) (base := wr.heap.size) (by rw [List.length_cons, List.length_take, HRL, Nat.min_eq_left (by omega)]; exact hst2) (by simp)
        have hbc : w3.cell? ⟨g, j, none⟩ = some (.bool (bs.getD j false)) := by
          obtain ⟨g0, cap0, h1', _, _, h4', h5'⟩ := HU.out.below (below_then (below_then HB2.out HB.out) b3)
          simp only [Value.slice.injEq, Option.some.injEq, Addr.mk.injEq, and_true] at h1'
          obtain ⟨rfl, _, _⟩ := h1'
          exact h5' j (by rw [HL.out]; exact hlt)
        have HWD4 : Hid (IsW (w3.setCell ⟨g3, 0, none⟩ (.bool (bs.getD j false))) v2 (cs ++ [false])) := HWD.out.below (below_then HB.out HB4.out)
        have HQ4 : Hid ((w3.setCell ⟨g3, 0, none⟩ (.bool (bs.getD j false))).ownsRow w2.heap.size 4 1 (.slice (some ⟨gq, 0, none⟩) L L) L (qs.map Value.bool)) := own_below HQ.out HB4.out
        obtain ⟨x, hx⟩ : ∃ x, bs.getD j false = x := ⟨_, rfl⟩
        have HX : Hid (bs.getD j false = x) := hx
        rw [hx] at HB4 HE hbc HWD4 HQ4
        clear hst hst2 hv3 b3 HRW HQ hx
        go_wp2_with fail
        obtain ⟨w4, hw4⟩ : ∃ w4, w3.setCell ⟨g3, 0, none⟩ (.bool x) = w4 := ⟨_, rfl⟩
        rw [hw4] at HB4 HE HWD4 HQ4 ⊢
        have hs4 := HB4.out.size
        clear hw4 hcell3 hfro3 hbc hg3' hs3
        have hle : (x :: rs.take L).length = L + 1 := by rw [List.length_cons, List.length_take, HRL, Nat.min_eq_left (by omega)]
        have hlw : (cs ++ [false]).length = L + 1 := by rw [List.length_append, HLc.out]; rfl
        have HLE : Hid _ := hle
        have HLW : Hid _ := hlw
        have HRL2 : Hid _ := HRL
        clear hle hlw HRL
        refine (less_any _ _ _ (cs ++ [false]) _ HE.out HWD4.out (by rw [HLW.out, HLE.out]) (by rw [HLE.out]; omega)).mono ?_
        rintro e w5 ⟨rfl, b5⟩
        have hv : wval (cs ++ [false]) = wval cs := by rw [wval_snoc]; simp
        by_cases hless : wval (x :: rs.take L) < wval cs
        · have hd : decide (wval (x :: rs.take L) < wval (cs ++ [false])) = true := by rw [hv, decide_eq_true_iff]; exact hless
          rw [hd]
          have HS2 : Hid (SplitAt L bs (wval cs) j (x :: rs.take L) qs) := by
            have := HS.out.less HL.out hlt HC.out HCL.out (by rw [HX.out]; exact hless)
            rw [HX.out] at this
            exact this
          have HBB : Hid (Below w2.heap.size w2 w5) := below_then HB.out (below_then HB4.out b5)
          have HE5 : Hid (IsW w5 (.slice (some ⟨g3, 0, none⟩) (L + 1) cap3) (x :: rs.take L)) := HE.out.below b5
          have HQ5 : Hid (w5.ownsRow w2.heap.size 4 1 (.slice (some ⟨gq, 0, none⟩) L L) L (qs.map Value.bool)) := own_below HQ4.out b5
          have hs5 := b5.size
          clear hd hless hv HS b5 HE HQ4 HB4 HB HX HLE HLW HRL2
          go_wp2
          go_roundw
          case rel => exact ⟨j, g3, cap3, _, qs, by go_num, rfl, by omega, by omega, by omega, HE5.out, HQ5.out, HS2, HBB.out⟩
          case measure => simp [intOf]
        · have hd : decide (wval (x :: rs.take L) < wval (cs ++ [false])) = false := by rw [hv, decide_eq_false_iff_not]; exact hless
          rw [hd]
          have HNL : Hid _ := hless
          have HE5 : Hid (IsW w5 (.slice (some ⟨g3, 0, none⟩) (L + 1) cap3) (x :: rs.take L)) := HE.out.below b5
          have HQ5 : Hid (w5.ownsRow w2.heap.size 4 1 (.slice (some ⟨gq, 0, none⟩) L L) L (qs.map Value.bool)) := own_below HQ4.out b5
          have HWD5 : Hid (IsW w5 v2 (cs ++ [false])) := HWD4.out.below b5
          have HB5 : Hid (Below w2.heap.size w2 w5) := below_then HB.out (below_then HB4.out b5)
          have hs5 := b5.size
          clear hd hless hv b5 HE HQ4 HB4 HB HWD4
          go_wp2_with fail
          refine (not_any _ (cs ++ [false]) _ HWD5.out (by rw [HLW.out]; omega) (by rw [HLW.out]; omega)).mono ?_
          rintro e w6 ⟨v6, rfl, hv6, b6⟩
          go_wp2_with fail
          refine (add_own _ _ (x :: rs.take L) ((cs ++ [false]).map (! ·)) true _ (HE5.out.below b6) hv6 (by rw [List.length_map, HLW.out, HLE.out]) (by rw [HLE.out]; omega) (by rw [HLE.out]; omega)).mono ?_
          rintro e w7 ⟨v7, rfl, hv7, b7⟩
          rw [HLE.out] at hv7
          obtain ⟨g7, cap7, rfl, hg7, hg7'⟩ := hv7.form (by omega)
          have hs6 := b6.size
          have hs7 := b7.size
          have hq7 := own_below (own_below HQ5.out b6) b7
          have hlq : qs.length = L := HS.out.ql
          have hcellq : w7.cell? ⟨gq, j, none⟩ = some (.bool false) := by
            rw [hq7.cellAt j (by omega), List.getElem?_map, List.getElem?_eq_getElem (by omega)]
            have := HS.out.bitq
            rw [List.getD_eq_getElem?_getD, List.getElem?_eq_getElem (by omega), Option.getD_some] at this
            rw [this]; rfl
          have hfroq := hq7.frozenAt j
          have HQ8 : Hid ((w7.setCell ⟨gq, j, none⟩ (.bool true)).ownsRow w2.heap.size 4 1 (.slice (some ⟨gq, 0, none⟩) L L) L ((qs.set j true).map Value.bool)) := by rw [← set_map]; exact (hq7.stored j (.bool true)).1
          have hel := addL_length (x :: rs.take L) ((cs ++ [false]).map (! ·)) true (by rw [List.length_map, HLW.out, HLE.out])
          have hev := addL_val (x :: rs.take L) ((cs ++ [false]).map (! ·)) true (by rw [List.length_map, HLW.out, HLE.out])
          rw [HLE.out] at hel hev
          have HE8 : Hid (IsW (w7.setCell ⟨gq, j, none⟩ (.bool true)) (.slice (some ⟨g7, 0, none⟩) (L + 1) cap7) (addL (x :: rs.take L) ((cs ++ [false]).map (! ·)) true)) := isW_setCell (isW_own (by rw [hel]; exact hv7) (by omega)) (by omega)
          have HS2 : Hid (SplitAt L bs (wval cs) j (addL (x :: rs.take L) ((cs ++ [false]).map (! ·)) true) (qs.set j true)) := by
            refine HS.out.more HL.out hlt HC.out HCL.out (by rw [HX.out]; exact HNL.out) _ hel ?_
            rw [hev, wval_not, HLW.out, wval_snoc, HX.out]; simp
          have hgq2 : w2.heap.size ≤ gq := (hq7.lt gq rfl).1
          have HBB : Hid (Below w2.heap.size w2 (w7.setCell ⟨gq, j, none⟩ (.bool true))) := (below_then HB5.out (below_then b6 b7)).setCell (p := ⟨gq, j, none⟩) hgq2 _
          have hgn : g7 ≠ gq := by omega
          clear hq7 hv7 b6 b7 hv6 HS HE5 HQ5 HWD5 HB5 HX HLE HLW HRL2 HNL hel hev hlq
          go_wp2
          go_roundw
          case rel => exact ⟨j, g7, cap7, _, _, by go_num, rfl, by omega, hgn, by simp; omega, HE8.out, HQ8.out, HS2, HBB.out⟩
          case measure => simp [intOf]

end Go.Proofs.Ytlbilmgpnpghlaa
