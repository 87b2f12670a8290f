/-
  What the document's own not and add do.
  What the document's own up and minus do.
  What the document's own times does.
  What the document's own Copy and split do.
  What the document's own split does: quotient and rest, without signs.
-/
import Derived.Test.YtkceplamaocmmaaGreatDoorZNA
import Derived.StillTactics
import Derived.OwnWalk
import Derived.Laws.Pointers
import Derived.Deep.RegionHeld3
import Derived.Deep.AppendLies
import Derived.Laws.MakeOwn
import Derived.Laws.OwnMore
import Derived.Deep.CutRange
set_option maxHeartbeats 2000000
set_option maxRecDepth 1000000
namespace Go.Proofs.YtkceplamaocmmaaGreatDoor
set_option linter.unusedVariables false
open Go.RowKit
def addL : List Bool → List Bool → Bool → List Bool
  | b :: r, c :: s, k => ((b != c) != k) :: addL r s (b && c || k && (b || c))
  | _, _, _ => []
theorem addL_length : ∀ (f g : List Bool) (k : Bool), f.length = g.length → (addL f g k).length = f.length
  | [], [], _, _ => rfl
  | [], _ :: _, _, h => by simp at h
  | _ :: _, [], _, h => by simp at h
  | b :: f, c :: g, k, h => by simp [addL, addL_length f g _ (by simpa using h)]
theorem half_mod (M x s : Int) (hM : 0 < M) (h0 : 0 ≤ x) (h1 : x < 2) : x + 2 * (s % M) = (x + 2 * s) % (M * 2) := by
  have e1 := Int.emod_add_mul_ediv s M
  have b0 := Int.emod_nonneg s (show M ≠ 0 by omega)
  have b1 := Int.emod_lt_of_pos s hM
  obtain ⟨r, hr⟩ : ∃ r, s % M = r := ⟨_, rfl⟩
  obtain ⟨q, hq⟩ : ∃ q, s / M = q := ⟨_, rfl⟩
  rw [hr, hq] at e1
  rw [hr] at b0 b1 ⊢
  have e3 : x + 2 * s = (x + 2 * r) + M * 2 * q := by rw [← e1, Int.mul_add, ← Int.mul_assoc 2 M, Int.mul_comm 2 M]; omega
  rw [e3, Int.add_mul_emod_self_left, Int.emod_eq_of_lt (by omega) (by omega)]
theorem addL_val : ∀ (f g : List Bool) (k : Bool), f.length = g.length → (wval (addL f g k) = (wval f + wval g + (if k then 1 else 0)) % 2 ^ f.length)
  | [], [], k, _ => by simp [addL, wval]
  | [], _ :: _, _, h => by simp at h
  | _ :: _, [], _, h => by simp at h
  | b :: f, c :: g, k, h => by
    have ih := addL_val f g (b && c || k && (b || c)) (by simpa using h)
    have hp := pow2_pos f.length
    rw [addL, wval, ih, wval, wval, List.length_cons, Int.pow_succ]
    have hx : (if ((b != c) != k) = true then (1 : Int) else 0) + 2 * (if (b && c || k && (b || c)) = true then 1 else 0) = (if b = true then 1 else 0) + (if c = true then 1 else 0) + (if k = true then 1 else 0) := by cases b <;> cases c <;> cases k <;> rfl
    have h01 : 0 ≤ (if ((b != c) != k) = true then (1 : Int) else 0) ∧ (if ((b != c) != k) = true then (1 : Int) else 0) < 2 := by split <;> omega
    rw [half_mod _ _ _ hp h01.1 h01.2]
    congr 1
    omega
theorem not_any (v : Value) (bs : List Bool) (w : World) (hv : IsW w v bs) (h1 : 1 ≤ bs.length) (h65 : bs.length ≤ 65) :
    Calls Tryz.prog 62 #[v] w fun e w' => ∃ v', e = .returned v' ∧ IsW w' v' (bs.map (! ·)) ∧ Below w.heap.size w w' := by
  obtain ⟨i0, hi, hz0, hz1, hz2⟩ := info_parts Tryz.infoBool
  obtain ⟨g, cap, rfl, hcap, hmx, hg, hc⟩ := hv
  unfold maxLen at hmx
  go_enter Tryz.func62, Tryz.ntmps62
  go_wp2
  go_loopw [3, 8] (fun v i wr => ∃ k : Nat, ∃ pre : List Bool, i = .int .i64 k ∧ k ≤ bs.length ∧ wr.ownsRow w.heap.size 4 1 v k (pre.map Value.bool) ∧ Hid (pre = (bs.take k).map (! ·)) ∧ Below w.heap.size w wr) (fun _ i _ => bs.length - (intOf i).toNat)
  case atStart => exact ⟨0, [], rfl, by omega, World.ownsRow_nil _ _ _ _, rfl, Below.refl _ _⟩
  case round =>
    obtain ⟨k, pre, rfl, hk, hown, HP, hnx⟩ := hrel
    have hsz := hnx.size
    by_cases hlt : k < bs.length
    · have hcell : wr.cell? ⟨g, k, none⟩ = some (.bool (bs.getD k false)) := (hnx.cell (p := ⟨g, k, none⟩) hg).trans (hc k hlt)
      have hs := take_succ_snoc bs k hlt
      obtain ⟨b, hb⟩ : ∃ b, bs.getD k false = b := ⟨_, rfl⟩
      rw [hb] at hcell hs
      have HS : Hid _ := hs
      clear hs hb hc
      go_wp2_with (at_builtin; refine wpList_append_own _ rfl _ _ 74 rfl w.heap.size 4 i0 (.bool false) 1 1 Tryz.underlying74 hi hz0 hz1 hz2 rfl (by decide) _ _ _ rfl (hown.alloc _) ⟨_, 0, none⟩ 1 1 [.bool (!b)] rfl rfl ?c1 ?c2 ?c3 ?c4 ?c5 ?_)
      case c1 => exact cell_one_new _ _ _
      case c2 => intro u hu; simp at hu; subst hu; rfl
      case c3 => unfold maxLen; omega
      case c4 => omega
      case c5 => simp; omega
      · intro v' w1 hown' hgrow _
        have hown2 : w1.ownsRow w.heap.size 4 1 v' (k + 1) ((pre ++ [!b]).map Value.bool) := by rw [List.map_append]; exact hown'
        have HP2 : Hid (pre ++ [!b] = (bs.take (k + 1)).map (! ·)) := by unfold Hid; rw [HS.out, List.map_append, HP.out]; rfl
        have hb : Below w.heap.size w w1 := (hnx.alloc (by omega) _).grown hgrow (by simp; omega) (fun j hj => (hown.lt j hj).1)
        clear hown' hgrow hown hnx hcell HP
        go_wp2
        go_roundw
        case rel => exact ⟨k + 1, _, by go_num, by omega, hown2, HP2, hb⟩
        case measure => simp [intOf]; omega
    · have hkW : k = bs.length := by omega
      subst hkW
      go_wp2
      go_ret
      have e : bs.map (! ·) = pre := by rw [HP.out, List.take_length]
      have el : pre.length = bs.length := by rw [← e, List.length_map]
      exact ⟨_, rfl, by rw [e]; exact isW_own (by rw [el]; exact hown) (by omega), hnx⟩
theorem add_own (u v : Value) (bs cs : List Bool) (c0 : Bool) (w : World) (hu : IsW w u bs) (hv : IsW w v cs) (hl : cs.length = bs.length) (h1 : 1 ≤ bs.length) (h65 : bs.length ≤ 65) :
    Calls Tryz.prog 61 #[u, v, .bool c0] w fun e w' => ∃ v', e = .returned v' ∧ w'.ownsRow w.heap.size 4 1 v' bs.length ((addL bs cs c0).map Value.bool) ∧ Below w.heap.size w w' := by
  obtain ⟨i0, hi, hz0, hz1, hz2⟩ := info_parts Tryz.infoBool
  obtain ⟨g, cap, rfl, hcap, hmx, hg, hc⟩ := hu
  obtain ⟨g', cap', rfl, hcap', hmx', hg', hc'⟩ := hv
  rw [hl] at hcap' hc' ⊢
  unfold maxLen at hmx hmx'
  obtain ⟨L, hL⟩ : ∃ L, bs.length = L := ⟨_, rfl⟩
  rw [hL] at hcap hc hcap' hc' h1 h65 ⊢
  have HLc : Hid (cs.length = L) := by unfold Hid; rw [hl, hL]
  have HL : Hid (bs.length = L) := hL
  clear hL hl
  go_enter Tryz.func61, Tryz.ntmps61
  go_wp2
  go_loopw [2, 7, 11] (fun cr v i wr => ∃ k : Nat, ∃ c : Bool, ∃ pre : List Bool, i = .int .i64 k ∧ cr = .bool c ∧ k ≤ L ∧ pre.length = k ∧ wr.ownsRow w.heap.size 4 1 v k (pre.map Value.bool) ∧ Hid (pre ++ addL (bs.drop k) (cs.drop k) c = addL bs cs c0) ∧ Below w.heap.size w wr) (fun _ _ i _ => L - (intOf i).toNat)
  case atStart => exact ⟨0, c0, [], rfl, rfl, by omega, rfl, World.ownsRow_nil _ _ _ _, by unfold Hid; simp, Below.refl _ _⟩
  case round =>
    obtain ⟨k, c, pre, rfl, rfl, hk, hpl, hown, HP, hnx⟩ := hrel
    have hsz := hnx.size
    have HPL : Hid _ := hpl
    clear hpl
    by_cases hlt : k < L
    · have hcell : wr.cell? ⟨g, k, none⟩ = some (.bool (bs.getD k false)) := (hnx.cell (p := ⟨g, k, none⟩) hg).trans (hc k hlt)
      have hcell' : wr.cell? ⟨g', k, none⟩ = some (.bool (cs.getD k false)) := (hnx.cell (p := ⟨g', k, none⟩) hg').trans (hc' k hlt)
      have hd : bs.drop k = bs.getD k false :: bs.drop (k + 1) := by rw [List.drop_eq_getElem_cons (by rw [HL.out]; exact hlt), List.getD_eq_getElem?_getD, List.getElem?_eq_getElem (by rw [HL.out]; exact hlt), Option.getD_some]
      have hd' : cs.drop k = cs.getD k false :: cs.drop (k + 1) := by rw [List.drop_eq_getElem_cons (by rw [HLc.out]; exact hlt), List.getD_eq_getElem?_getD, List.getElem?_eq_getElem (by rw [HLc.out]; exact hlt), Option.getD_some]
      have HN := HP.out
      rw [hd, hd', addL] at HN
      obtain ⟨x, hx⟩ : ∃ x, bs.getD k false = x := ⟨_, rfl⟩
      obtain ⟨y, hy⟩ : ∃ y, cs.getD k false = y := ⟨_, rfl⟩
      rw [hx] at hcell HN
      rw [hy] at hcell' HN
      have HN2 : Hid _ := HN
      have hk0 : (0 : Int) ≤ (k : Int) := Int.natCast_nonneg _
      have hk1 : (k : Int) < (L : Int) := by omega
      have ak : u7.ownBlock ≠ some g := fun e => by have := (hown.lt g e).1; omega
      have ak' : u7.ownBlock ≠ some g' := fun e => by have := (hown.lt g' e).1; omega
      clear hx hy hd hd' HP HN hc hc'
      cases x <;> cases y <;> cases c
      case false.false.false =>
        go_wp2
        go_region_held3 (fun w' => w'.cell? ⟨g, k, none⟩ = some (.bool false) ∧ w'.cell? ⟨g', k, none⟩ = some (.bool false))
          (first
            | go_keep
            | (go_split_ands
               refine ⟨?_, ?_⟩
               · (rw [hgrow.cell_far _ (by simp; omega) (Ne.symm ak)]; assumption)
               · (rw [hgrow.cell_far _ (by simp; omega) (Ne.symm ak')]; assumption)))
          ((refine step_append_lies _ (by rfl) _ _ _ (by rfl) w.heap.size 4 i0 _ 1 1 Tryz.underlying74 hi hz0 hz1 hz2 rfl (by omega) u7 k (pre.map Value.bool) (by rfl) ((hown.alloc _).drew)
              ⟨wr.heap.size, 0, none⟩ 1 1 [.bool false] (by rfl) (by rfl) (World.news_of_block (cs := #[.bool false]) (t := 4) (fr := (0, 0)) (heap_alloc_new wr _)) (by simp [Value.oneCell'])
              (by omega) (by unfold maxLen; omega) (by omega) (by simp; omega) (wr.heap.size + 1) (by simp) ?_; intro gg cap2 w1 hown1 hgrow hat hlt2))
        have hb : Below w.heap.size w w1 := ((hnx.alloc (by omega) _).drew).grown hgrow (by simp; omega) (fun j hj => (hown.lt j hj).1)
        have hown2 : w1.ownsRow w.heap.size 4 1 (.slice (some ⟨gg, 0, none⟩) (k + 1) cap2) (k + 1) ((pre ++ [false]).map Value.bool) := by rw [List.map_append]; exact hown1
        have HN3 : Hid ((pre ++ [false]) ++ addL (bs.drop (k + 1)) (cs.drop (k + 1)) false = addL bs cs c0) := by unfold Hid; rw [List.append_assoc]; exact HN2
        clear hown1 hgrow hat hlt2 hown hnx HN2
        go_wp2
        go_roundw
        case rel => exact ⟨k + 1, false, _, by go_num, rfl, by omega, by rw [List.length_append, HPL.out]; rfl, hown2, HN3, hb⟩
        case measure => simp [intOf]; omega
      case false.false.true =>
        go_wp2
        go_region_held3 (fun w' => w'.cell? ⟨g, k, none⟩ = some (.bool false) ∧ w'.cell? ⟨g', k, none⟩ = some (.bool false))
          (first
            | go_keep
            | (go_split_ands
               refine ⟨?_, ?_⟩
               · (rw [hgrow.cell_far _ (by simp; omega) (Ne.symm ak)]; assumption)
               · (rw [hgrow.cell_far _ (by simp; omega) (Ne.symm ak')]; assumption)))
          ((refine step_append_lies _ (by rfl) _ _ _ (by rfl) w.heap.size 4 i0 _ 1 1 Tryz.underlying74 hi hz0 hz1 hz2 rfl (by omega) u7 k (pre.map Value.bool) (by rfl) ((hown.alloc _).drew)
              ⟨wr.heap.size, 0, none⟩ 1 1 [.bool true] (by rfl) (by rfl) (World.news_of_block (cs := #[.bool true]) (t := 4) (fr := (0, 0)) (heap_alloc_new wr _)) (by simp [Value.oneCell'])
              (by omega) (by unfold maxLen; omega) (by omega) (by simp; omega) (wr.heap.size + 1) (by simp) ?_; intro gg cap2 w1 hown1 hgrow hat hlt2))
        have hb : Below w.heap.size w w1 := ((hnx.alloc (by omega) _).drew).grown hgrow (by simp; omega) (fun j hj => (hown.lt j hj).1)
        have hown2 : w1.ownsRow w.heap.size 4 1 (.slice (some ⟨gg, 0, none⟩) (k + 1) cap2) (k + 1) ((pre ++ [true]).map Value.bool) := by rw [List.map_append]; exact hown1
        have HN3 : Hid ((pre ++ [true]) ++ addL (bs.drop (k + 1)) (cs.drop (k + 1)) false = addL bs cs c0) := by unfold Hid; rw [List.append_assoc]; exact HN2
        clear hown1 hgrow hat hlt2 hown hnx HN2
        go_wp2
        go_roundw
        case rel => exact ⟨k + 1, false, _, by go_num, rfl, by omega, by rw [List.length_append, HPL.out]; rfl, hown2, HN3, hb⟩
        case measure => simp [intOf]; omega
      case false.true.false =>
        go_wp2
        go_region_held3 (fun w' => w'.cell? ⟨g, k, none⟩ = some (.bool false) ∧ w'.cell? ⟨g', k, none⟩ = some (.bool true))
          (first
            | go_keep
            | (go_split_ands
               refine ⟨?_, ?_⟩
               · (rw [hgrow.cell_far _ (by simp; omega) (Ne.symm ak)]; assumption)
               · (rw [hgrow.cell_far _ (by simp; omega) (Ne.symm ak')]; assumption)))
          ((refine step_append_lies _ (by rfl) _ _ _ (by rfl) w.heap.size 4 i0 _ 1 1 Tryz.underlying74 hi hz0 hz1 hz2 rfl (by omega) u7 k (pre.map Value.bool) (by rfl) ((hown.alloc _).drew)
              ⟨wr.heap.size, 0, none⟩ 1 1 [.bool true] (by rfl) (by rfl) (World.news_of_block (cs := #[.bool true]) (t := 4) (fr := (0, 0)) (heap_alloc_new wr _)) (by simp [Value.oneCell'])
              (by omega) (by unfold maxLen; omega) (by omega) (by simp; omega) (wr.heap.size + 1) (by simp) ?_; intro gg cap2 w1 hown1 hgrow hat hlt2))
        have hb : Below w.heap.size w w1 := ((hnx.alloc (by omega) _).drew).grown hgrow (by simp; omega) (fun j hj => (hown.lt j hj).1)
        have hown2 : w1.ownsRow w.heap.size 4 1 (.slice (some ⟨gg, 0, none⟩) (k + 1) cap2) (k + 1) ((pre ++ [true]).map Value.bool) := by rw [List.map_append]; exact hown1
        have HN3 : Hid ((pre ++ [true]) ++ addL (bs.drop (k + 1)) (cs.drop (k + 1)) false = addL bs cs c0) := by unfold Hid; rw [List.append_assoc]; exact HN2
        clear hown1 hgrow hat hlt2 hown hnx HN2
        go_wp2
        go_roundw
        case rel => exact ⟨k + 1, false, _, by go_num, rfl, by omega, by rw [List.length_append, HPL.out]; rfl, hown2, HN3, hb⟩
        case measure => simp [intOf]; omega
      case false.true.true =>
        go_wp2
        go_region_held3 (fun w' => w'.cell? ⟨g, k, none⟩ = some (.bool false) ∧ w'.cell? ⟨g', k, none⟩ = some (.bool true))
          (first
            | go_keep
            | (go_split_ands
               refine ⟨?_, ?_⟩
               · (rw [hgrow.cell_far _ (by simp; omega) (Ne.symm ak)]; assumption)
               · (rw [hgrow.cell_far _ (by simp; omega) (Ne.symm ak')]; assumption)))
          ((refine step_append_lies _ (by rfl) _ _ _ (by rfl) w.heap.size 4 i0 _ 1 1 Tryz.underlying74 hi hz0 hz1 hz2 rfl (by omega) u7 k (pre.map Value.bool) (by rfl) ((hown.alloc _).drew)
              ⟨wr.heap.size, 0, none⟩ 1 1 [.bool false] (by rfl) (by rfl) (World.news_of_block (cs := #[.bool false]) (t := 4) (fr := (0, 0)) (heap_alloc_new wr _)) (by simp [Value.oneCell'])
              (by omega) (by unfold maxLen; omega) (by omega) (by simp; omega) (wr.heap.size + 1) (by simp) ?_; intro gg cap2 w1 hown1 hgrow hat hlt2))
        have hb : Below w.heap.size w w1 := ((hnx.alloc (by omega) _).drew).grown hgrow (by simp; omega) (fun j hj => (hown.lt j hj).1)
        have hown2 : w1.ownsRow w.heap.size 4 1 (.slice (some ⟨gg, 0, none⟩) (k + 1) cap2) (k + 1) ((pre ++ [false]).map Value.bool) := by rw [List.map_append]; exact hown1
        have HN3 : Hid ((pre ++ [false]) ++ addL (bs.drop (k + 1)) (cs.drop (k + 1)) true = addL bs cs c0) := by unfold Hid; rw [List.append_assoc]; exact HN2
        clear hown1 hgrow hat hlt2 hown hnx HN2
        go_wp2
        go_roundw
        case rel => exact ⟨k + 1, true, _, by go_num, rfl, by omega, by rw [List.length_append, HPL.out]; rfl, hown2, HN3, hb⟩
        case measure => simp [intOf]; omega
      case true.false.false =>
        go_wp2
        go_region_held3 (fun w' => w'.cell? ⟨g, k, none⟩ = some (.bool true) ∧ w'.cell? ⟨g', k, none⟩ = some (.bool false))
          (first
            | go_keep
            | (go_split_ands
               refine ⟨?_, ?_⟩
               · (rw [hgrow.cell_far _ (by simp; omega) (Ne.symm ak)]; assumption)
               · (rw [hgrow.cell_far _ (by simp; omega) (Ne.symm ak')]; assumption)))
          ((refine step_append_lies _ (by rfl) _ _ _ (by rfl) w.heap.size 4 i0 _ 1 1 Tryz.underlying74 hi hz0 hz1 hz2 rfl (by omega) u7 k (pre.map Value.bool) (by rfl) ((hown.alloc _).drew)
              ⟨wr.heap.size, 0, none⟩ 1 1 [.bool true] (by rfl) (by rfl) (World.news_of_block (cs := #[.bool true]) (t := 4) (fr := (0, 0)) (heap_alloc_new wr _)) (by simp [Value.oneCell'])
              (by omega) (by unfold maxLen; omega) (by omega) (by simp; omega) (wr.heap.size + 1) (by simp) ?_; intro gg cap2 w1 hown1 hgrow hat hlt2))
        have hb : Below w.heap.size w w1 := ((hnx.alloc (by omega) _).drew).grown hgrow (by simp; omega) (fun j hj => (hown.lt j hj).1)
        have hown2 : w1.ownsRow w.heap.size 4 1 (.slice (some ⟨gg, 0, none⟩) (k + 1) cap2) (k + 1) ((pre ++ [true]).map Value.bool) := by rw [List.map_append]; exact hown1
        have HN3 : Hid ((pre ++ [true]) ++ addL (bs.drop (k + 1)) (cs.drop (k + 1)) false = addL bs cs c0) := by unfold Hid; rw [List.append_assoc]; exact HN2
        clear hown1 hgrow hat hlt2 hown hnx HN2
        go_wp2
        go_roundw
        case rel => exact ⟨k + 1, false, _, by go_num, rfl, by omega, by rw [List.length_append, HPL.out]; rfl, hown2, HN3, hb⟩
        case measure => simp [intOf]; omega
      case true.false.true =>
        go_wp2
        go_region_held3 (fun w' => w'.cell? ⟨g, k, none⟩ = some (.bool true) ∧ w'.cell? ⟨g', k, none⟩ = some (.bool false))
          (first
            | go_keep
            | (go_split_ands
               refine ⟨?_, ?_⟩
               · (rw [hgrow.cell_far _ (by simp; omega) (Ne.symm ak)]; assumption)
               · (rw [hgrow.cell_far _ (by simp; omega) (Ne.symm ak')]; assumption)))
          ((refine step_append_lies _ (by rfl) _ _ _ (by rfl) w.heap.size 4 i0 _ 1 1 Tryz.underlying74 hi hz0 hz1 hz2 rfl (by omega) u7 k (pre.map Value.bool) (by rfl) ((hown.alloc _).drew)
              ⟨wr.heap.size, 0, none⟩ 1 1 [.bool false] (by rfl) (by rfl) (World.news_of_block (cs := #[.bool false]) (t := 4) (fr := (0, 0)) (heap_alloc_new wr _)) (by simp [Value.oneCell'])
              (by omega) (by unfold maxLen; omega) (by omega) (by simp; omega) (wr.heap.size + 1) (by simp) ?_; intro gg cap2 w1 hown1 hgrow hat hlt2))
        have hb : Below w.heap.size w w1 := ((hnx.alloc (by omega) _).drew).grown hgrow (by simp; omega) (fun j hj => (hown.lt j hj).1)
        have hown2 : w1.ownsRow w.heap.size 4 1 (.slice (some ⟨gg, 0, none⟩) (k + 1) cap2) (k + 1) ((pre ++ [false]).map Value.bool) := by rw [List.map_append]; exact hown1
        have HN3 : Hid ((pre ++ [false]) ++ addL (bs.drop (k + 1)) (cs.drop (k + 1)) true = addL bs cs c0) := by unfold Hid; rw [List.append_assoc]; exact HN2
        clear hown1 hgrow hat hlt2 hown hnx HN2
        go_wp2
        go_roundw
        case rel => exact ⟨k + 1, true, _, by go_num, rfl, by omega, by rw [List.length_append, HPL.out]; rfl, hown2, HN3, hb⟩
        case measure => simp [intOf]; omega
      case true.true.false =>
        go_wp2
        go_region_held3 (fun w' => w'.cell? ⟨g, k, none⟩ = some (.bool true) ∧ w'.cell? ⟨g', k, none⟩ = some (.bool true))
          (first
            | go_keep
            | (go_split_ands
               refine ⟨?_, ?_⟩
               · (rw [hgrow.cell_far _ (by simp; omega) (Ne.symm ak)]; assumption)
               · (rw [hgrow.cell_far _ (by simp; omega) (Ne.symm ak')]; assumption)))
          ((refine step_append_lies _ (by rfl) _ _ _ (by rfl) w.heap.size 4 i0 _ 1 1 Tryz.underlying74 hi hz0 hz1 hz2 rfl (by omega) u7 k (pre.map Value.bool) (by rfl) ((hown.alloc _).drew)
              ⟨wr.heap.size, 0, none⟩ 1 1 [.bool false] (by rfl) (by rfl) (World.news_of_block (cs := #[.bool false]) (t := 4) (fr := (0, 0)) (heap_alloc_new wr _)) (by simp [Value.oneCell'])
              (by omega) (by unfold maxLen; omega) (by omega) (by simp; omega) (wr.heap.size + 1) (by simp) ?_; intro gg cap2 w1 hown1 hgrow hat hlt2))
        have hb : Below w.heap.size w w1 := ((hnx.alloc (by omega) _).drew).grown hgrow (by simp; omega) (fun j hj => (hown.lt j hj).1)
        have hown2 : w1.ownsRow w.heap.size 4 1 (.slice (some ⟨gg, 0, none⟩) (k + 1) cap2) (k + 1) ((pre ++ [false]).map Value.bool) := by rw [List.map_append]; exact hown1
        have HN3 : Hid ((pre ++ [false]) ++ addL (bs.drop (k + 1)) (cs.drop (k + 1)) true = addL bs cs c0) := by unfold Hid; rw [List.append_assoc]; exact HN2
        clear hown1 hgrow hat hlt2 hown hnx HN2
        go_wp2
        go_roundw
        case rel => exact ⟨k + 1, true, _, by go_num, rfl, by omega, by rw [List.length_append, HPL.out]; rfl, hown2, HN3, hb⟩
        case measure => simp [intOf]; omega
      case true.true.true =>
        go_wp2
        go_region_held3 (fun w' => w'.cell? ⟨g, k, none⟩ = some (.bool true) ∧ w'.cell? ⟨g', k, none⟩ = some (.bool true))
          (first
            | go_keep
            | (go_split_ands
               refine ⟨?_, ?_⟩
               · (rw [hgrow.cell_far _ (by simp; omega) (Ne.symm ak)]; assumption)
               · (rw [hgrow.cell_far _ (by simp; omega) (Ne.symm ak')]; assumption)))
          ((refine step_append_lies _ (by rfl) _ _ _ (by rfl) w.heap.size 4 i0 _ 1 1 Tryz.underlying74 hi hz0 hz1 hz2 rfl (by omega) u7 k (pre.map Value.bool) (by rfl) ((hown.alloc _).drew)
              ⟨wr.heap.size, 0, none⟩ 1 1 [.bool true] (by rfl) (by rfl) (World.news_of_block (cs := #[.bool true]) (t := 4) (fr := (0, 0)) (heap_alloc_new wr _)) (by simp [Value.oneCell'])
              (by omega) (by unfold maxLen; omega) (by omega) (by simp; omega) (wr.heap.size + 1) (by simp) ?_; intro gg cap2 w1 hown1 hgrow hat hlt2))
        have hb : Below w.heap.size w w1 := ((hnx.alloc (by omega) _).drew).grown hgrow (by simp; omega) (fun j hj => (hown.lt j hj).1)
        have hown2 : w1.ownsRow w.heap.size 4 1 (.slice (some ⟨gg, 0, none⟩) (k + 1) cap2) (k + 1) ((pre ++ [true]).map Value.bool) := by rw [List.map_append]; exact hown1
        have HN3 : Hid ((pre ++ [true]) ++ addL (bs.drop (k + 1)) (cs.drop (k + 1)) true = addL bs cs c0) := by unfold Hid; rw [List.append_assoc]; exact HN2
        clear hown1 hgrow hat hlt2 hown hnx HN2
        go_wp2
        go_roundw
        case rel => exact ⟨k + 1, true, _, by go_num, rfl, by omega, by rw [List.length_append, HPL.out]; rfl, hown2, HN3, hb⟩
        case measure => simp [intOf]; omega
    · have hkW : k = L := by omega
      subst hkW
      go_wp2
      go_ret
      have e : addL bs cs c0 = pre := by
        rw [← HP.out, List.drop_eq_nil_of_le (by rw [HL.out]; omega), List.drop_eq_nil_of_le (by rw [HLc.out]; omega)]; simp [addL]
      exact ⟨_, rfl, by rw [e]; exact hown, hnx⟩
theorem add_any (u v : Value) (bs cs : List Bool) (c0 : Bool) (w : World) (hu : IsW w u bs) (hv : IsW w v cs) (hl : cs.length = bs.length) (h1 : 1 ≤ bs.length) (h65 : bs.length ≤ 65) :
    Calls Tryz.prog 61 #[u, v, .bool c0] w fun e w' => ∃ v', e = .returned v' ∧ IsW w' v' (addL bs cs c0) ∧ Below w.heap.size w w' := by
  refine (add_own u v bs cs c0 w hu hv hl h1 h65).mono ?_
  rintro e w1 ⟨v1, rfl, hv1, hb⟩
  have el := addL_length bs cs c0 hl.symm
  exact ⟨v1, rfl, isW_own (by rw [el]; exact hv1) (by omega), hb⟩
end Go.Proofs.YtkceplamaocmmaaGreatDoor
namespace Go.Proofs.YtkceplamaocmmaaGreatDoor
set_option linter.unusedVariables false
open Go.RowKit
theorem mk_word (n : Nat) (h : n ≤ 65) (w : World) :
    (Instr.makeSlice 74 (.int .i64 n) (.int .i64 n)).run Tryz.prog w = .ok (.slice (some ⟨w.heap.size, 0, none⟩) n n) (w.alloc (.cells (madeCells #[.bool false] n) 4)) := by
  obtain ⟨i0, hi, hz0, hz1, hz2⟩ := info_parts Tryz.infoBool
  have := run_make (P := Tryz.prog) w 74 4 i0 (.bool false) Tryz.underlying74 hi hz0 .i64 .i64 (n : Int) (n : Int) (by omega) (by omega) (by rw [hz2]; omega) (by omega)
  rw [hz1, Nat.mul_one, Int.toNat_natCast] at this
  exact this
theorem made_false (n : Nat) : (madeCells #[.bool false] n).toList = (List.replicate n false).map Value.bool := by
  unfold madeCells
  apply List.ext_getElem
  · simp
  · intro i h1 h2
    simp [Nat.mod_one]
theorem made_own (w : World) (n : Nat) (h : n ≤ 65) : (w.alloc (.cells (madeCells #[.bool false] n) 4)).ownsRow w.heap.size 4 1 (.slice (some ⟨w.heap.size, 0, none⟩) n n) n ((List.replicate n false).map Value.bool) := by
  rw [← made_false]
  exact World.ownsRow_lit w _ n (Nat.le_refl _) (by unfold maxLen; omega) (by rw [size_madeCells, Nat.mul_one])
theorem news_alloc {w : World} {g : Nat} {xs : List Value} (hg : g < w.heap.size) (o : Obj) (h : ∀ j x, xs[j]? = some x → w.cell? ((⟨g, 0, none⟩ : Addr).add j) = some x) : ∀ j x, xs[j]? = some x → (w.alloc o).cell? ((⟨g, 0, none⟩ : Addr).add j) = some x := fun j x hx => by
  have hadd : (⟨g, 0, none⟩ : Addr).add j = ⟨g, j, none⟩ := by unfold Addr.add; split <;> simp_all
  have := h j x hx
  rw [hadd] at this ⊢
  rw [World.cell?_alloc_lt (h := hg)]
  exact this
theorem news_drew {w : World} {g : Nat} {xs : List Value} (h : ∀ j x, xs[j]? = some x → w.cell? ((⟨g, 0, none⟩ : Addr).add j) = some x) : ∀ j x, xs[j]? = some x → w.drew.cell? ((⟨g, 0, none⟩ : Addr).add j) = some x := h
theorem up_any (u : Value) (bs : List Bool) (n : Nat) (w : World) (hu : IsW w u bs) (hn : n < bs.length) (h65 : bs.length ≤ 65) :
    Calls Tryz.prog 84 #[u, .int .i64 n] w fun e w' => ∃ v', e = .returned v' ∧ w'.ownsRow w.heap.size 4 1 v' bs.length ((List.replicate n false ++ bs.take (bs.length - n)).map Value.bool) ∧ Below w.heap.size w w' := by
  obtain ⟨i0, hi, hz0, hz1, hz2⟩ := info_parts Tryz.infoBool
  obtain ⟨g, cap, rfl, hcap, hmx, hg, hc⟩ := hu
  unfold maxLen at hmx
  have hmk := mk_word n (by omega)
  have hmo := made_own w n (by omega)
  obtain ⟨L, hL⟩ : ∃ L, bs.length = L := ⟨_, rfl⟩
  rw [hL] at hcap hc hn h65 ⊢
  obtain ⟨m, hm⟩ : ∃ m, L - n = m := ⟨_, rfl⟩
  rw [hm]
  have hm0 : 0 < m := by omega
  have hnews : ∀ j x, ((bs.take m).map Value.bool)[j]? = some x → w.cell? ((⟨g, 0, none⟩ : Addr).add j) = some x := by
    intro j x hx
    have hadd : (⟨g, 0, none⟩ : Addr).add j = ⟨g, j, none⟩ := by unfold Addr.add; split <;> simp_all
    rw [hadd]
    have hj : j < m := by
      rcases Nat.lt_or_ge j m with h | h
      · exact h
      · rw [List.getElem?_eq_none (by simp; omega)] at hx; cases hx
    rw [hc j (by omega), ← hx, List.getElem?_map, List.getElem?_take_of_lt hj, List.getElem?_eq_getElem (by omega), List.getD_eq_getElem?_getD, List.getElem?_eq_getElem (by omega)]
    rfl
  have h0 : (0 : Int) ≤ (m : Int) := by omega
  have h1 : (m : Int) ≤ (cap : Int) := by omega
  have hsub : IntKind.i64.wrap ((L : Int) - (n : Int)) = (m : Int) := by rw [IntKind.wrap_i64]; omega
  have HL : Hid (n + m = L) := by unfold Hid; omega
  have HL2 : Hid (bs.length = L) := hL
  clear hL hm hc hn
  have hone : ∀ x ∈ (bs.take m).map Value.bool, x.oneCell' = true := by intro x hx; obtain ⟨b, _, rfl⟩ := List.mem_map.1 hx; rfl
  go_enter Tryz.func84, Tryz.ntmps84
  go_wp2
  go_region_held3 (fun _ => True)
    (trivial)
    ((refine step_append_lies _ (by rfl) _ _ _ (by rfl) w.heap.size 4 i0 _ 1 1 Tryz.underlying74 hi hz0 hz1 hz2 rfl (by omega) _ n ((List.replicate n false).map Value.bool) (by rfl) hmo.drew
        ⟨g, 0, none⟩ m cap ((bs.take m).map Value.bool) (by rfl) (by simp [HL2.out]; have := HL.out; omega) (news_drew (news_alloc hg _ hnews)) hone
        (by omega) (by unfold maxLen; have := HL.out; omega) (by have := HL.out; omega) (by simp) (w.heap.size + 1) (by simp) ?_; intro gg cap2 w1 hown1 hgrow hat hlt2))
  have hb : Below w.heap.size w w1 := (((Below.refl w.heap.size w).alloc (by omega) _).drew).grown hgrow (by simp) (by intro j hj; simp [Value.ownBlock] at hj; omega)
  have hown2 : w1.ownsRow w.heap.size 4 1 (.slice (some ⟨gg, 0, none⟩) (n + m) cap2) L ((List.replicate n false ++ bs.take m).map Value.bool) := by rw [List.map_append, ← HL.out]; exact hown1
  clear hown1 hgrow hat hlt2
  go_wp2
  go_ret
  exact ⟨_, rfl, hown2, hb⟩
theorem below_then {w w1 w2 : World} (h : Below w.heap.size w w1) (k : Below w1.heap.size w1 w2) : Below w.heap.size w w2 := h.trans (k.mono h.size)
theorem made_isW (w : World) (n : Nat) (h1 : 1 ≤ n) (h : n ≤ 65) : IsW (w.alloc (.cells (madeCells #[.bool false] n) 4)) (.slice (some ⟨w.heap.size, 0, none⟩) n n) (List.replicate n false) :=
  isW_own (by rw [List.length_replicate]; exact made_own w n h) (by rw [List.length_replicate]; omega)
theorem IsW.drew {w : World} {v : Value} {bs : List Bool} (h : IsW w v bs) : IsW w.drew v bs := h
theorem IsW.alloc {w : World} {v : Value} {bs : List Bool} (h : IsW w v bs) (o : Obj) : IsW (w.alloc o) v bs := h.below ((Below.refl _ w).alloc (Nat.le_refl _) o)
def negL (bs : List Bool) : List Bool := addL (bs.map (! ·)) (List.replicate bs.length false) true
theorem minus_any (u : Value) (bs : List Bool) (w : World) (hu : IsW w u bs) (h1 : 1 ≤ bs.length) (h65 : bs.length ≤ 65) :
    Calls Tryz.prog 66 #[u] w fun e w' => ∃ v', e = .returned v' ∧ IsW w' v' (negL bs) ∧ Below w.heap.size w w' := by
  have hmk := mk_word bs.length h65
  have HU : Hid (IsW w u bs) := hu
  obtain ⟨g, cap, rfl, hcap, hmx, hg, hc⟩ := hu
  unfold maxLen at hmx
  go_enter Tryz.func66, Tryz.ntmps66
  go_wp2
  go_region_with (first
    | (go_at_call 62; refine (not_any _ bs _ ?_ h1 h65).mono ?_; (first | exact HU.out.drew | exact (HU.out.alloc _).drew); rintro e w1 ⟨v1, rfl, hv1, b1⟩)
    | (go_at_call 61; refine (add_any _ _ (bs.map (! ·)) (List.replicate bs.length false) true _ ?_ ?_ (by simp) (by simp; omega) (by simp; omega)).mono ?_; (first | exact hv1 | exact hv1.alloc _); (first | exact made_isW _ _ h1 h65 | exact (made_isW w _ h1 h65).drew.below b1); rintro e w2 ⟨v2, rfl, hv2, b2⟩))
  all_goals
    have hB : Below w.heap.size w w2 := by
      first
        | exact below_then (below_then (w1 := w.drew) (Below.refl _ w).drew b1) (below_then ((Below.refl _ w1).alloc (Nat.le_refl _) _) b2)
        | exact below_then (below_then (((Below.refl _ w).alloc (Nat.le_refl _) _).drew) b1) b2
    clear b1 b2 hmk hc
    go_wp2
    go_ret
    exact ⟨_, rfl, hv2, hB⟩
theorem size_any (u : Value) (bs : List Bool) (w : World) (hu : IsW w u bs) (h1 : 1 ≤ bs.length) (h65 : bs.length ≤ 65) :
    Calls Tryz.prog 64 #[u] w fun e w' => ∃ v', e = .returned v' ∧ IsW w' v' (if bs.getD (bs.length - 1) false then negL bs else bs) ∧ Below w.heap.size w w' := by
  have HU : Hid (IsW w u bs) := hu
  obtain ⟨g, cap, rfl, hcap, hmx, hg, hc⟩ := hu
  unfold maxLen at hmx
  have hcell := hc (bs.length - 1) (by omega)
  cases hb : bs.getD (bs.length - 1) false with
  | true =>
    rw [hb] at hcell
    simp only [if_true]
    have HM : Hid (Calls Tryz.prog 66 #[.slice (some ⟨g, 0, none⟩) bs.length cap] w fun e w' => ∃ v', e = .returned v' ∧ IsW w' v' (negL bs) ∧ Below w.heap.size w w') := minus_any _ bs w HU.out h1 h65
    clear hc hb
    go_enter Tryz.func64, Tryz.ntmps64
    go_wp2_with fail
    refine HM.out.mono ?_
    rintro e w1 ⟨v1, rfl, hv1, b1⟩
    go_wp2
    go_ret
    exact ⟨_, rfl, hv1, b1⟩
  | false =>
    rw [hb] at hcell
    simp only [Bool.false_eq_true, if_false]
    clear hc hb
    go_enter Tryz.func64, Tryz.ntmps64
    go_wp2
    go_ret
    exact ⟨_, rfl, HU.out, Below.refl _ _⟩
end Go.Proofs.YtkceplamaocmmaaGreatDoor
namespace Go.Proofs.YtkceplamaocmmaaGreatDoor
set_option linter.unusedVariables false
open Go.RowKit
theorem wval_zeros : ∀ n : Nat, wval (List.replicate n false) = 0
  | 0 => rfl
  | n + 1 => by rw [List.replicate_succ, wval, wval_zeros n]; rfl
theorem wval_up (bs : List Bool) (n : Nat) (hn : n ≤ bs.length) : wval (List.replicate n false ++ bs.take (bs.length - n)) = wval bs * 2 ^ n % 2 ^ bs.length := by
  have hb := wval_bound (bs.take (bs.length - n))
  rw [List.length_take, Nat.min_eq_left (by omega)] at hb
  have hp := pow2_pos n
  have e2 : (2 : Int) ^ (bs.length - n) * 2 ^ n = 2 ^ bs.length := by rw [← Int.pow_add]; congr 1; omega
  have e1 : wval bs * 2 ^ n = wval (bs.take (bs.length - n)) * 2 ^ n + 2 ^ bs.length * wval (bs.drop (bs.length - n)) := by
    conv => lhs; rw [← List.take_append_drop (bs.length - n) bs]
    rw [wval_append, List.length_take, Nat.min_eq_left (by omega), Int.add_mul, Int.mul_assoc (wval (List.drop _ _)), e2, Int.mul_comm (2 ^ bs.length)]
  rw [wval_append, wval_zeros, List.length_replicate, Int.zero_add, e1, Int.add_mul_emod_self_left, Int.emod_eq_of_lt (Int.mul_nonneg hb.1 (by omega))]
  rw [← e2]
  exact Int.mul_lt_mul_of_pos_right hb.2 hp
theorem up_length (bs : List Bool) (n : Nat) (hn : n ≤ bs.length) : (List.replicate n false ++ bs.take (bs.length - n)).length = bs.length := by
  rw [List.length_append, List.length_replicate, List.length_take]; omega
theorem upW (u : Value) (bs : List Bool) (n : Nat) (w : World) (hu : IsW w u bs) (hn : n < bs.length) (h65 : bs.length ≤ 65) :
    Calls Tryz.prog 84 #[u, .int .i64 n] w fun e w' => ∃ v' ds, e = .returned v' ∧ IsW w' v' ds ∧ Hid (ds.length = bs.length ∧ wval ds = wval bs * 2 ^ n % 2 ^ bs.length) ∧ Below w.heap.size w w' := by
  refine (up_any u bs n w hu hn h65).mono ?_
  rintro e w1 ⟨v1, rfl, hv, hb⟩
  have hl := up_length bs n (by omega)
  exact ⟨v1, _, rfl, isW_own (by rw [hl]; exact hv) (by omega), ⟨hl, wval_up bs n (by omega)⟩, hb⟩
theorem addW (u v : Value) (bs cs : List Bool) (c0 : Bool) (w : World) (hu : IsW w u bs) (hv : IsW w v cs) (hl : cs.length = bs.length) (h1 : 1 ≤ bs.length) (h65 : bs.length ≤ 65) :
    Calls Tryz.prog 61 #[u, v, .bool c0] w fun e w' => ∃ v' ds, e = .returned v' ∧ IsW w' v' ds ∧ Hid (ds.length = bs.length ∧ wval ds = (wval bs + wval cs + (if c0 then 1 else 0)) % 2 ^ bs.length) ∧ Below w.heap.size w w' := by
  refine (add_any u v bs cs c0 w hu hv hl h1 h65).mono ?_
  rintro e w1 ⟨v1, rfl, hv, hb⟩
  exact ⟨v1, _, rfl, hv, ⟨addL_length _ _ _ hl.symm, addL_val _ _ _ hl.symm⟩, hb⟩
theorem times_step (x b t M : Int) (k : Nat) (h : x = b * t % M) (y : Int) (hy : y = b * 2 ^ k % M) (z : Int) (hz : z = (x + y + (if false = true then 1 else 0)) % M) : z = b * (t + 2 ^ k) % M := by
  rw [hz, h, hy]
  simp only [Bool.false_eq_true, if_false, Int.add_zero]
  rw [← Int.add_emod, Int.mul_add]
theorem times_any (u v : Value) (bs cs : List Bool) (w : World) (hu : IsW w u bs) (hv : IsW w v cs) (hl : cs.length = bs.length) (h1 : 1 ≤ bs.length) (h65 : bs.length ≤ 65) :
    Calls Tryz.prog 63 #[u, v] w fun e w' => ∃ v' ds, e = .returned v' ∧ IsW w' v' ds ∧ Hid (ds.length = bs.length ∧ wval ds = wval bs * wval cs % 2 ^ bs.length) ∧ Below w.heap.size w w' := by
  have hmk := mk_word bs.length h65
  have HU : Hid (IsW w u bs) := hu
  obtain ⟨g, cap, rfl, hcap, hmx, hg, hc⟩ := hu
  obtain ⟨g', cap', rfl, hcap', hmx', hg', hc'⟩ := hv
  rw [hl] at hcap' hc' ⊢
  unfold maxLen at hmx hmx'
  have HLc : Hid (cs.length = bs.length) := hl
  clear hl hc
  go_enter Tryz.func63, Tryz.ntmps63
  go_wp2
  go_loopw [5, 13] (fun v i wr => ∃ k : Nat, ∃ os : List Bool, i = .int .i64 k ∧ k ≤ bs.length ∧ IsW wr v os ∧ Hid (os.length = bs.length ∧ wval os = wval bs * wval (cs.take k) % 2 ^ bs.length) ∧ Below w.heap.size w wr) (fun _ i _ => bs.length - (intOf i).toNat)
  case atStart => exact ⟨0, List.replicate bs.length false, rfl, by omega, made_isW w _ h1 h65, ⟨by simp, by rw [wval_zeros]; simp [wval]⟩, (Below.refl _ _).alloc (Nat.le_refl _) _⟩
  case round =>
    obtain ⟨k, os, rfl, hk, hown, HP, hnx⟩ := hrel
    clear hmk
    by_cases hlt : k < bs.length
    · have hcell : wr.cell? ⟨g', k, none⟩ = some (.bool (cs.getD k false)) := (hnx.cell (p := ⟨g', k, none⟩) hg').trans (hc' k hlt)
      have hs := take_succ_snoc cs k (by rw [HLc.out]; exact hlt)
      cases hb : cs.getD k false with
      | true =>
        rw [hb] at hcell hs
        have HS : Hid (wval (cs.take (k + 1)) = wval (cs.take k) + 2 ^ k) := by unfold Hid; rw [hs, wval_snoc, List.length_take, Nat.min_eq_left (by rw [HLc.out]; omega)]; rfl
        have HW : Hid (IsW wr u5 os) := hown
        have HN : Hid _ := hnx
        clear hs hb hc' hown hnx
        go_wp2_with fail
        refine (upW _ bs k _ (HU.out.below HN.out) hlt h65).mono ?_
        rintro e w1 ⟨v1, ds, rfl, hv1, HD, b1⟩
        go_wp2_with fail
        refine (addW _ _ os ds false _ (HW.out.below b1) hv1 (by rw [HD.out.1, HP.out.1]) (by rw [HP.out.1]; exact h1) (by rw [HP.out.1]; exact h65)).mono ?_
        rintro e w2 ⟨v2, es, rfl, hv2, HE, b2⟩
        have HP2 : Hid (es.length = bs.length ∧ wval es = wval bs * wval (cs.take (k + 1)) % 2 ^ bs.length) := by
          refine ⟨by rw [HE.out.1, HP.out.1], ?_⟩
          rw [HS.out]
          refine times_step _ _ _ _ k HP.out.2 _ HD.out.2 _ ?_
          rw [HE.out.2, HP.out.1]
        have hb2 : Below w.heap.size w w2 := below_then (below_then HN.out b1) b2
        clear HE HD HP HW HN HS b1 b2 hv1
        go_wp2
        go_roundw
        case rel => exact ⟨k + 1, es, by go_num, by omega, hv2, HP2, hb2⟩
        case measure => simp [intOf]; omega
      | false =>
        rw [hb] at hcell hs
        have HS : Hid (wval (cs.take (k + 1)) = wval (cs.take k)) := by unfold Hid; rw [hs, wval_snoc]; simp
        clear hs hb hc'
        go_wp2
        go_roundw
        case rel => exact ⟨k + 1, os, by go_num, by omega, hown, ⟨HP.out.1, by rw [HS.out]; exact HP.out.2⟩, hnx⟩
        case measure => simp [intOf]; omega
    · have hkW : k = bs.length := by omega
      subst hkW
      go_wp2
      go_ret
      exact ⟨_, os, rfl, hown, ⟨HP.out.1, by rw [HP.out.2, ← HLc.out, List.take_length]⟩, hnx⟩
end Go.Proofs.YtkceplamaocmmaaGreatDoor
namespace Go.Proofs.YtkceplamaocmmaaGreatDoor
set_option linter.unusedVariables false
open Go.RowKit
theorem cells_of {w : World} {g : Nat} {bs : List Bool} (hc : ∀ i, i < bs.length → w.cell? ⟨g, i, none⟩ = some (.bool (bs.getD i false))) : ∀ j x, (bs.map Value.bool)[j]? = some x → w.cell? ((⟨g, 0, none⟩ : Addr).add j) = some x := by
  intro j x hx
  have hadd : (⟨g, 0, none⟩ : Addr).add j = ⟨g, j, none⟩ := by unfold Addr.add; split <;> simp_all
  rw [hadd]
  have hj : j < bs.length := by
    rcases Nat.lt_or_ge j bs.length with h | h
    · exact h
    · rw [List.getElem?_eq_none (by simp; omega)] at hx; cases hx
  rw [hc j hj, ← hx, List.getElem?_map, List.getElem?_eq_getElem hj, List.getD_eq_getElem?_getD, List.getElem?_eq_getElem hj]
  rfl
theorem bools_one (bs : List Bool) : ∀ x ∈ bs.map Value.bool, x.oneCell' = true := by intro x hx; obtain ⟨b, _, rfl⟩ := List.mem_map.1 hx; rfl
theorem copy_any (u : Value) (bs : List Bool) (w : World) (hu : IsW w u bs) (h1 : 1 ≤ bs.length) (h65 : bs.length ≤ 65) :
    Calls Tryz.prog 59 #[u] w fun e w' => ∃ v', e = .returned v' ∧ w'.ownsRow w.heap.size 4 1 v' bs.length (bs.map Value.bool) ∧ Below w.heap.size w w' := by
  obtain ⟨i0, hi, hz0, hz1, hz2⟩ := info_parts Tryz.infoBool
  obtain ⟨g, cap, rfl, hcap, hmx, hg, hc⟩ := hu
  unfold maxLen at hmx
  have hnews := cells_of hc
  have hone := bools_one bs
  clear hc
  go_enter Tryz.func59, Tryz.ntmps59
  go_wp2_with (at_builtin; refine wpList_append_own _ rfl _ _ 73 rfl w.heap.size 4 i0 (.bool false) 1 1 Tryz.underlying73 hi hz0 hz1 hz2 rfl (by decide) _ 0 [] rfl (World.ownsRow_nil _ _ _ _) ⟨g, 0, none⟩ bs.length cap (bs.map Value.bool) rfl ?c0 hnews hone ?c3 ?c4 ?c5 ?_)
  case c0 => simp
  case c3 => unfold maxLen; omega
  case c4 => omega
  case c5 => omega
  · intro v' w1 hown' hgrow _
    have hb : Below w.heap.size w w1 := (Below.refl _ w).grown hgrow (Nat.le_refl _) (fun j hj => by simp [Value.ownBlock] at hj)
    clear hgrow
    go_wp2
    go_ret
    exact ⟨_, rfl, hown', hb⟩
theorem own_below {w w' : World} {base : Nat} {e : TypeId} {size : Nat} {g n cap : Nat} {xs : List Value} (h : w.ownsRow base e size (.slice (some ⟨g, 0, none⟩) n cap) n xs) (hb : Below w.heap.size w w') : w'.ownsRow base e size (.slice (some ⟨g, 0, none⟩) n cap) n xs := by
  have hlt := (h.lt g rfl).2
  refine ⟨h.1, ?_⟩
  rcases h.2 with h0 | ⟨g', cap', cur, h', hb', hg, h3⟩
  · exact .inl h0
  · simp only [Value.slice.injEq, Option.some.injEq, Addr.mk.injEq, and_true, true_and] at h'
    obtain ⟨rfl, rfl⟩ := h'
    exact .inr ⟨g, cap, cur, rfl, hb', by rw [hb.block g hlt]; exact hg, h3⟩
theorem isW_setCell {w : World} {g n cap b j : Nat} {x : Value} {bs : List Bool} (h : IsW w (.slice (some ⟨g, 0, none⟩) n cap) bs) (hne : g ≠ b) : IsW (w.setCell ⟨b, j, none⟩ x) (.slice (some ⟨g, 0, none⟩) n cap) bs := by
  obtain ⟨g', cap', h1, h2, h3, h4, h5⟩ := h
  simp only [Value.slice.injEq, Option.some.injEq, Addr.mk.injEq, and_true] at h1
  obtain ⟨rfl, rfl, rfl⟩ := h1
  refine ⟨g, cap, rfl, h2, h3, by simpa using h4, fun i hi => ?_⟩
  rw [World.cell?_of_block (Below.heap_setCell w ⟨b, j, none⟩ x g hne)]
  exact h5 i hi
theorem set_map (ds : List Bool) (j : Nat) (x : Bool) : (ds.map Value.bool).set j (.bool x) = (ds.set j x).map Value.bool := by rw [List.map_set]
end Go.Proofs.YtkceplamaocmmaaGreatDoor
namespace Go.Proofs.YtkceplamaocmmaaGreatDoor
set_option linter.unusedVariables false
open Go.RowKit
theorem mk_word1 (n : Nat) (h : n ≤ 64) (w : World) :
    (Instr.makeSlice 74 (.int .i64 ((n : Int) + 1)) (.int .i64 ((n : Int) + 1))).run Tryz.prog w = .ok (.slice (some ⟨w.heap.size, 0, none⟩) (n + 1) (n + 1)) (w.alloc (.cells (madeCells #[.bool false] (n + 1)) 4)) := by
  have := mk_word (n + 1) (by omega) w
  rw [Int.natCast_add] at this
  exact this
theorem made_isW' (w : World) (n H : Nat) (h1 : 1 ≤ n) (h : n ≤ 65) (hH : w.heap.size = H) : IsW (w.alloc (.cells (madeCells #[.bool false] n) 4)) (.slice (some ⟨H, 0, none⟩) n n) (List.replicate n false) := by
  subst hH
  exact made_isW w n h1 h
theorem made_own' (w : World) (n H B : Nat) (h : n ≤ 65) (hH : w.heap.size = H) (hB : B ≤ H) : (w.alloc (.cells (madeCells #[.bool false] n) 4)).ownsRow B 4 1 (.slice (some ⟨H, 0, none⟩) n n) n ((List.replicate n false).map Value.bool) := by
  subst hH
  rw [← made_false]
  exact World.ownsRow_lit w _ n hB (by unfold maxLen; omega) (by rw [size_madeCells, Nat.mul_one])
theorem split_any (u v : Value) (bs cs : List Bool) (w : World) (hu : IsW w u bs) (hv : IsW w v cs) (hl : cs.length = bs.length) (h1 : 1 ≤ bs.length) (h64 : bs.length ≤ 64) (hC : 0 < wval cs) :
    Calls Tryz.prog 65 #[u, v] w fun e w' => ∃ q r qs rs, e = .returned (.tuple #[q, r]) ∧ IsW w' q qs ∧ IsW w' r rs ∧ Hid (qs.length = bs.length ∧ rs.length = bs.length ∧ wval qs = wval bs / wval cs ∧ wval rs = wval bs % wval cs) ∧ Below w.heap.size w w' := by
  obtain ⟨i0, hi, hz0, hz1, hz2⟩ := info_parts Tryz.infoBool
  have hCL : wval cs < 2 ^ bs.length := by rw [← hl]; exact (wval_bound cs).2
  obtain ⟨L, hL⟩ : ∃ L, bs.length = L := ⟨_, rfl⟩
  have HU : Hid (IsW w u bs) := hu
  have HV : Hid (IsW w v cs) := hv
  obtain ⟨g, cap, rfl, hcap, hmx, hg, hc⟩ := hu
  obtain ⟨g', cap', rfl, hcap', hmx', hg', hc'⟩ := hv
  unfold maxLen at hmx hmx'
  rw [hL] at hl hcap hc h1 h64 hCL HU ⊢
  rw [hl] at hcap' HV ⊢
  have HC : Hid (0 < wval cs) := hC
  have HCL : Hid (wval cs < 2 ^ L) := hCL
  have HLc : Hid (cs.length = L) := hl
  have HL : Hid (bs.length = L) := hL
  have hmk := mk_word L (by omega)
  have hmk1 := mk_word1 L h64
  have hw1 : IntKind.i64.wrap ((L : Int) + 1) = (L : Int) + 1 := by rw [IntKind.wrap_i64]; omega
  clear hl hL hC hCL hc hc'
  go_enter Tryz.func65, Tryz.ntmps65
  go_wp2_with fail
  refine (copy_any _ cs _ HV.out (by rw [HLc.out]; exact h1) (by rw [HLc.out]; omega)).mono ?_
  rintro e w1 ⟨v1, rfl, hv1, b1⟩
  rw [HLc.out] at hv1
  have hs1 := b1.size
  go_wp2_with (at_builtin; refine wpList_append_own _ rfl _ _ 73 rfl w.heap.size 4 i0 (.bool false) 1 1 Tryz.underlying73 hi hz0 hz1 hz2 rfl (by decide) _ _ _ rfl (hv1.alloc _) ⟨_, 0, none⟩ 1 1 [.bool false] rfl rfl ?c1 ?c2 ?c3 ?c4 ?c5 ?_)
  case c1 => exact cell_one_new _ _ _
  case c2 => intro u hu; simp at hu; subst hu; rfl
  case c3 => unfold maxLen; omega
  case c4 => omega
  case c5 => simp; omega
  intro v2 w2 hown2 hgrow2 _
  have hb2 : Below w.heap.size w w2 := (b1.alloc (by omega) _).grown hgrow2 (by simp; omega) (fun j hj => (hv1.lt j hj).1)
  have hwide : IsW w2 v2 (cs ++ [false]) := isW_own (e := 4) (base := w.heap.size) (by rw [List.length_append, HLc.out, List.map_append]; exact hown2) (by simp)
  have HWD : Hid (IsW w2 v2 (cs ++ [false])) := hwide
  have HB2 : Hid (Below w.heap.size w w2) := hb2
  have hs2 := hb2.size
  clear hwide hb2 hown2 hgrow2 hv1 b1 hs1
  go_upto_region 2 with fail
  go_cut [7, 8] from 14 (fun s7 s8 wc => ∃ gq gr, s7 = .slice (some ⟨gq, 0, none⟩) L L ∧ s8 = .slice (some ⟨gr, 0, none⟩) (L + 1) (L + 1) ∧ gr ≠ gq ∧ gq < wc.heap.size ∧ wc.ownsRow w2.heap.size 4 1 (.slice (some ⟨gq, 0, none⟩) L L) L ((List.replicate L false).map Value.bool) ∧ IsW wc (.slice (some ⟨gr, 0, none⟩) (L + 1) (L + 1)) (List.replicate (L + 1) false) ∧ Below w2.heap.size w2 wc)
  case first =>
    go_region
    all_goals go_wp2_with fail
    all_goals go_meet
    all_goals clear hmk hmk1 hw1
    all_goals first
      | exact ⟨w2.heap.size, w2.heap.size + 1, rfl, rfl, by omega, by simp; omega, ((made_own' w2 L _ _ (by omega) rfl (Nat.le_refl _)).alloc _).drew, (made_isW' (w2.alloc _) (L + 1) _ (by omega) (by omega) (by simp)).drew, (((Below.refl _ w2).alloc (Nat.le_refl _) _).alloc (by simp) _).drew⟩
      | exact ⟨w2.heap.size + 1, w2.heap.size, rfl, rfl, by omega, by simp, (made_own' (w2.alloc _) L _ _ (by omega) (by simp) (by omega)).drew, ((made_isW' w2 (L + 1) _ (by omega) (by omega) rfl).alloc _).drew, (((Below.refl _ w2).alloc (Nat.le_refl _) _).alloc (by simp) _).drew⟩
  case rest =>
    obtain ⟨gq, gr, rfl, rfl, hne, hgq, hq, hr, hb⟩ := hcut
    clear hmk hmk1 hw1
    go_wp2
    have HQ0 : Hid (SplitAt L bs (wval cs) L (List.replicate (L + 1) false) (List.replicate L false)) := SplitAt.start L bs _ HL.out
    go_loopw [8, 9] (fun r i wr => ∃ (j gr capr : Nat) (rs qs : List Bool), i = .int .i64 ((j : Int) - 1) ∧ r = .slice (some ⟨gr, 0, none⟩) (L + 1) capr ∧ j ≤ L ∧ gr ≠ gq ∧ gq < wr.heap.size ∧ IsW wr (.slice (some ⟨gr, 0, none⟩) (L + 1) capr) rs ∧ wr.ownsRow w2.heap.size 4 1 (.slice (some ⟨gq, 0, none⟩) L L) L (qs.map Value.bool) ∧ Hid (SplitAt L bs (wval cs) j rs qs) ∧ Below w2.heap.size w2 wr) (fun _ i _ => (intOf i + 1).toNat)
    case atStart => exact ⟨L, gr, L + 1, _, _, rfl, rfl, by omega, hne, hgq, hr, hq, HQ0, hb⟩
    case round =>
      obtain ⟨j, gr, capr, rs, qs, rfl, rfl, hj, hne, hgq, hr, hq, HS, hb⟩ := hrel
      cases j with
      | zero =>
        obtain ⟨gr', capr', hrv, hcapr, hmxr, hgr, hcr⟩ := hr
        have HRL := HS.out.rl
        simp only [Value.slice.injEq, Option.some.injEq, Addr.mk.injEq, and_true] at hrv
        obtain ⟨rfl, _, rfl⟩ := hrv
        rw [HRL] at hcapr hcr
        have hcapr1 : (L : Int) ≤ (capr : Int) := by omega
        have hL0 : (0 : Int) ≤ (L : Int) := by omega
        have HD := HS.out.done HC.out HCL.out
        have HR : Hid (IsW wr (.slice (some ⟨gr, 0, none⟩) L capr) (rs.take L)) := by
          refine ⟨gr, capr, by rw [HD.2.1], by rw [HD.2.1]; omega, hmxr, hgr, fun i hi => ?_⟩
          rw [HD.2.1] at hi
          rw [hcr i (by omega), List.getD_eq_getElem?_getD, List.getD_eq_getElem?_getD, List.getElem?_take_of_lt hi]
        have HQ : Hid (IsW wr (.slice (some ⟨gq, 0, none⟩) L L) qs) := isW_own (by rw [HD.1]; exact hq) (by omega)
        have HD2 : Hid _ := HD
        have HBB : Hid (Below w.heap.size w wr) := below_then HB2.out hb
        clear hcr hq HRL HD HS hb
        go_wp2
        go_quiet (fail)
        go_wp2
        go_ret2
        exact ⟨_, _, qs, rs.take L, rfl, HQ.out, HR.out, HD2, below_drewN HBB.out _⟩
      | succ j =>
        have e : (((j + 1 : Nat) : Int) - 1) = (j : Int) := by omega
        rw [e]
        have hlt : j < L := by omega
        have hlti : (j : Int) < (L : Int) := by omega
        have HRL := HS.out.rl
        have HRW : Hid (IsW wr (.slice (some ⟨gr, 0, none⟩) (L + 1) capr) rs) := hr
        have HQ : Hid (wr.ownsRow w2.heap.size 4 1 (.slice (some ⟨gq, 0, none⟩) L L) L (qs.map Value.bool)) := hq
        have HB : Hid (Below w2.heap.size w2 wr) := hb
        clear hr hq hb e
        go_wp2_with fail
        refine (up_any _ rs 1 _ HRW.out (by rw [HRL]; omega) (by rw [HRL]; omega)).mono ?_
        rintro e w3 ⟨v3, rfl, hv3, b3⟩
        rw [HRL, Nat.add_sub_cancel] at hv3
        obtain ⟨g3, cap3, rfl, hg3, hg3'⟩ := hv3.form (by omega)
        have hs3 := b3.size
        have hcell3 : w3.cell? ⟨g3, 0, none⟩ = some (.bool false) := (hv3.cellAt 0 (by omega)).trans rfl
        have hfro3 := hv3.frozenAt 0
        obtain ⟨hst, _⟩ := hv3.stored 0 (.bool (bs.getD j false))
        rw [set_map] at hst
        have hst2 : (w3.setCell ⟨g3, 0, none⟩ (.bool (bs.getD j false))).ownsRow wr.heap.size 4 1 (.slice (some ⟨g3, 0, none⟩) (L + 1) cap3) (L + 1) ((bs.getD j false :: rs.take L).map Value.bool) := hst
        have HB4 : Hid (Below wr.heap.size wr (w3.setCell ⟨g3, 0, none⟩ (.bool (bs.getD j false)))) := b3.setCell (p := ⟨g3, 0, none⟩) hg3 _
        have HE : Hid (IsW (w3.setCell ⟨g3, 0, none⟩ (.bool (bs.getD j false))) (.slice (some ⟨g3, 0, none⟩) (L + 1) cap3) (bs.getD j false :: rs.take L)) := isW_own (e := 4) (base := wr.heap.size) (by rw [List.length_cons, List.length_take, HRL, Nat.min_eq_left (by omega)]; exact hst2) (by simp)
        have hbc : w3.cell? ⟨g, j, none⟩ = some (.bool (bs.getD j false)) := by
          obtain ⟨g0, cap0, h1', _, _, h4', h5'⟩ := HU.out.below (below_then (below_then HB2.out HB.out) b3)
          simp only [Value.slice.injEq, Option.some.injEq, Addr.mk.injEq, and_true] at h1'
          obtain ⟨rfl, _, _⟩ := h1'
          exact h5' j (by rw [HL.out]; exact hlt)
        have HWD4 : Hid (IsW (w3.setCell ⟨g3, 0, none⟩ (.bool (bs.getD j false))) v2 (cs ++ [false])) := HWD.out.below (below_then HB.out HB4.out)
        have HQ4 : Hid ((w3.setCell ⟨g3, 0, none⟩ (.bool (bs.getD j false))).ownsRow w2.heap.size 4 1 (.slice (some ⟨gq, 0, none⟩) L L) L (qs.map Value.bool)) := own_below HQ.out HB4.out
        obtain ⟨x, hx⟩ : ∃ x, bs.getD j false = x := ⟨_, rfl⟩
        have HX : Hid (bs.getD j false = x) := hx
        rw [hx] at HB4 HE hbc HWD4 HQ4
        clear hst hst2 hv3 b3 HRW HQ hx
        go_wp2_with fail
        obtain ⟨w4, hw4⟩ : ∃ w4, w3.setCell ⟨g3, 0, none⟩ (.bool x) = w4 := ⟨_, rfl⟩
        rw [hw4] at HB4 HE HWD4 HQ4 ⊢
        have hs4 := HB4.out.size
        clear hw4 hcell3 hfro3 hbc hg3' hs3
        have hle : (x :: rs.take L).length = L + 1 := by rw [List.length_cons, List.length_take, HRL, Nat.min_eq_left (by omega)]
        have hlw : (cs ++ [false]).length = L + 1 := by rw [List.length_append, HLc.out]; rfl
        have HLE : Hid _ := hle
        have HLW : Hid _ := hlw
        have HRL2 : Hid _ := HRL
        clear hle hlw HRL
        refine (less_any _ _ _ (cs ++ [false]) _ HE.out HWD4.out (by rw [HLW.out, HLE.out]) (by rw [HLE.out]; omega)).mono ?_
        rintro e w5 ⟨rfl, b5⟩
        have hv : wval (cs ++ [false]) = wval cs := by rw [wval_snoc]; simp
        by_cases hless : wval (x :: rs.take L) < wval cs
        · have hd : decide (wval (x :: rs.take L) < wval (cs ++ [false])) = true := by rw [hv, decide_eq_true_iff]; exact hless
          rw [hd]
          have HS2 : Hid (SplitAt L bs (wval cs) j (x :: rs.take L) qs) := by
            have := HS.out.less HL.out hlt HC.out HCL.out (by rw [HX.out]; exact hless)
            rw [HX.out] at this
            exact this
          have HBB : Hid (Below w2.heap.size w2 w5) := below_then HB.out (below_then HB4.out b5)
          have HE5 : Hid (IsW w5 (.slice (some ⟨g3, 0, none⟩) (L + 1) cap3) (x :: rs.take L)) := HE.out.below b5
          have HQ5 : Hid (w5.ownsRow w2.heap.size 4 1 (.slice (some ⟨gq, 0, none⟩) L L) L (qs.map Value.bool)) := own_below HQ4.out b5
          have hs5 := b5.size
          clear hd hless hv HS b5 HE HQ4 HB4 HB HX HLE HLW HRL2
          go_wp2
          go_roundw
          case rel => exact ⟨j, g3, cap3, _, qs, by go_num, rfl, by omega, by omega, by omega, HE5.out, HQ5.out, HS2, HBB.out⟩
          case measure => simp [intOf]
        · have hd : decide (wval (x :: rs.take L) < wval (cs ++ [false])) = false := by rw [hv, decide_eq_false_iff_not]; exact hless
          rw [hd]
          have HNL : Hid _ := hless
          have HE5 : Hid (IsW w5 (.slice (some ⟨g3, 0, none⟩) (L + 1) cap3) (x :: rs.take L)) := HE.out.below b5
          have HQ5 : Hid (w5.ownsRow w2.heap.size 4 1 (.slice (some ⟨gq, 0, none⟩) L L) L (qs.map Value.bool)) := own_below HQ4.out b5
          have HWD5 : Hid (IsW w5 v2 (cs ++ [false])) := HWD4.out.below b5
          have HB5 : Hid (Below w2.heap.size w2 w5) := below_then HB.out (below_then HB4.out b5)
          have hs5 := b5.size
          clear hd hless hv b5 HE HQ4 HB4 HB HWD4
          go_wp2_with fail
          refine (not_any _ (cs ++ [false]) _ HWD5.out (by rw [HLW.out]; omega) (by rw [HLW.out]; omega)).mono ?_
          rintro e w6 ⟨v6, rfl, hv6, b6⟩
          go_wp2_with fail
          refine (add_own _ _ (x :: rs.take L) ((cs ++ [false]).map (! ·)) true _ (HE5.out.below b6) hv6 (by rw [List.length_map, HLW.out, HLE.out]) (by rw [HLE.out]; omega) (by rw [HLE.out]; omega)).mono ?_
          rintro e w7 ⟨v7, rfl, hv7, b7⟩
          rw [HLE.out] at hv7
          obtain ⟨g7, cap7, rfl, hg7, hg7'⟩ := hv7.form (by omega)
          have hs6 := b6.size
          have hs7 := b7.size
          have hq7 := own_below (own_below HQ5.out b6) b7
          have hlq : qs.length = L := HS.out.ql
          have hcellq : w7.cell? ⟨gq, j, none⟩ = some (.bool false) := by
            rw [hq7.cellAt j (by omega), List.getElem?_map, List.getElem?_eq_getElem (by omega)]
            have := HS.out.bitq
            rw [List.getD_eq_getElem?_getD, List.getElem?_eq_getElem (by omega), Option.getD_some] at this
            rw [this]; rfl
          have hfroq := hq7.frozenAt j
          have HQ8 : Hid ((w7.setCell ⟨gq, j, none⟩ (.bool true)).ownsRow w2.heap.size 4 1 (.slice (some ⟨gq, 0, none⟩) L L) L ((qs.set j true).map Value.bool)) := by rw [← set_map]; exact (hq7.stored j (.bool true)).1
          have hel := addL_length (x :: rs.take L) ((cs ++ [false]).map (! ·)) true (by rw [List.length_map, HLW.out, HLE.out])
          have hev := addL_val (x :: rs.take L) ((cs ++ [false]).map (! ·)) true (by rw [List.length_map, HLW.out, HLE.out])
          rw [HLE.out] at hel hev
          have HE8 : Hid (IsW (w7.setCell ⟨gq, j, none⟩ (.bool true)) (.slice (some ⟨g7, 0, none⟩) (L + 1) cap7) (addL (x :: rs.take L) ((cs ++ [false]).map (! ·)) true)) := isW_setCell (isW_own (by rw [hel]; exact hv7) (by omega)) (by omega)
          have HS2 : Hid (SplitAt L bs (wval cs) j (addL (x :: rs.take L) ((cs ++ [false]).map (! ·)) true) (qs.set j true)) := by
            refine HS.out.more HL.out hlt HC.out HCL.out (by rw [HX.out]; exact HNL.out) _ hel ?_
            rw [hev, wval_not, HLW.out, wval_snoc, HX.out]; simp
          have hgq2 : w2.heap.size ≤ gq := (hq7.lt gq rfl).1
          have HBB : Hid (Below w2.heap.size w2 (w7.setCell ⟨gq, j, none⟩ (.bool true))) := (below_then HB5.out (below_then b6 b7)).setCell (p := ⟨gq, j, none⟩) hgq2 _
          have hgn : g7 ≠ gq := by omega
          clear hq7 hv7 b6 b7 hv6 HS HE5 HQ5 HWD5 HB5 HX HLE HLW HRL2 HNL hel hev hlq
          go_wp2
          go_roundw
          case rel => exact ⟨j, g7, cap7, _, _, by go_num, rfl, by omega, hgn, by simp; omega, HE8.out, HQ8.out, HS2, HBB.out⟩
          case measure => simp [intOf]
end Go.Proofs.YtkceplamaocmmaaGreatDoor
