/-
  What the document's own not and add do.
-/
import Derived.Test.YtlbilmgpnpghlaaWord2
import Derived.StillTactics
import Derived.OwnWalk
import Derived.Laws.Pointers
import Derived.Deep.RegionHeld3
import Derived.Deep.AppendLies
namespace Go.Proofs.Ytlbilmgpnpghlaa
open Go.RowKit

/-- The sum of two words and a carry. -/
def addL : List Bool → List Bool → Bool → List Bool
  | b :: r, c :: s, k => ((b != c) != k) :: addL r s (b && c || k && (b || c))
  | _, _, _ => []
theorem addL_length : ∀ (f g : List Bool) (k : Bool), f.length = g.length → (addL f g k).length = f.length
  | [], [], _, _ => rfl
  | [], _ :: _, _, h => by simp at h
  | _ :: _, [], _, h => by simp at h
  | b :: f, c :: g, k, h => by simp [addL, addL_length f g _ (by simpa using h)]
theorem half_mod (M x s : Int) (hM : 0 < M) (h0 : 0 ≤ x) (h1 : x < 2) : x + 2 * (s % M) = (x + 2 * s) % (M * 2) := by
  have e1 := Int.emod_add_mul_ediv s M
  have b0 := Int.emod_nonneg s (show M ≠ 0 by omega)
  have b1 := Int.emod_lt_of_pos s hM
  obtain ⟨r, hr⟩ : ∃ r, s % M = r := ⟨_, rfl⟩
  obtain ⟨q, hq⟩ : ∃ q, s / M = q := ⟨_, rfl⟩
  rw [hr, hq] at e1
  rw [hr] at b0 b1 ⊢
  have e3 : x + 2 * s = (x + 2 * r) + M * 2 * q := by rw [← e1, Int.mul_add, ← Int.mul_assoc 2 M, Int.mul_comm 2 M]; omega
  rw [e3, Int.add_mul_emod_self_left, Int.emod_eq_of_lt (by omega) (by omega)]
/-- It is the sum, but for what goes beyond the word. -/
theorem addL_val : ∀ (f g : List Bool) (k : Bool), f.length = g.length → (wval (addL f g k) = (wval f + wval g + (if k then 1 else 0)) % 2 ^ f.length)
  | [], [], k, _ => by simp [addL, wval]
  | [], _ :: _, _, h => by simp at h
  | _ :: _, [], _, h => by simp at h
  | b :: f, c :: g, k, h => by
    have ih := addL_val f g (b && c || k && (b || c)) (by simpa using h)
    have hp := pow2_pos f.length
    rw [addL, wval, ih, wval, wval, List.length_cons, Int.pow_succ]
    have hx : (if ((b != c) != k) = true then (1 : Int) else 0) + 2 * (if (b && c || k && (b || c)) = true then 1 else 0) = (if b = true then 1 else 0) + (if c = true then 1 else 0) + (if k = true then 1 else 0) := by cases b <;> cases c <;> cases k <;> rfl
    have h01 : 0 ≤ (if ((b != c) != k) = true then (1 : Int) else 0) ∧ (if ((b != c) != k) = true then (1 : Int) else 0) < 2 := by split <;> omega
    rw [half_mod _ _ _ hp h01.1 h01.2]
    congr 1
    omega

set_option maxHeartbeats 400000 in
set_option maxRecDepth 1000000 in
theorem not_any (v : Value) (bs : List Bool) (w : World) (hv : IsW w v bs) (h1 : 1 ≤ bs.length) (h65 : bs.length ≤ 65) :
    Calls Try.prog 45 #[v] w fun e w' => ∃ v', e = .returned v' ∧ IsW w' v' (bs.map (! ·)) ∧ Below w.heap.size w w' := by
  obtain ⟨i0, hi, hz0, hz1, hz2⟩ := info_parts Try.infoBool
  obtain ⟨g, cap, rfl, hcap, hmx, hg, hc⟩ := hv
  unfold maxLen at hmx
  go_enter Try.func45, Try.ntmps45
  go_wp2
  go_loopw [3, 8] (fun v i wr => ∃ k : Nat, ∃ pre : List Bool, i = .int .i64 k ∧ k ≤ bs.length ∧ wr.ownsRow w.heap.size 4 1 v k (pre.map Value.bool) ∧ Hid (pre = (bs.take k).map (! ·)) ∧ Below w.heap.size w wr) (fun _ i _ => bs.length - (intOf i).toNat)
  case atStart => exact ⟨0, [], rfl, by omega, World.ownsRow_nil _ _ _ _, rfl, Below.refl _ _⟩
  case round =>
    obtain ⟨k, pre, rfl, hk, hown, HP, hnx⟩ := hrel
    have hsz := hnx.size
    by_cases hlt : k < bs.length
    · have hcell : wr.cell? ⟨g, k, none⟩ = some (.bool (bs.getD k false)) := (hnx.cell (p := ⟨g, k, none⟩) hg).trans (hc k hlt)
      have hs := take_succ_snoc bs k hlt
      obtain ⟨b, hb⟩ : ∃ b, bs.getD k false = b := ⟨_, rfl⟩
      rw [hb] at hcell hs
      have HS : Hid _ := hs
      clear hs hb hc
      go_wp2_with (at_builtin; refine wpList_append_own _ rfl _ _ 42 rfl w.heap.size 4 i0 (.bool false) 1 1 Try.underlying42 hi hz0 hz1 hz2 rfl (by decide) _ _ _ rfl (hown.alloc _) ⟨_, 0, none⟩ 1 1 [.bool (!b)] rfl rfl ?c1 ?c2 ?c3 ?c4 ?c5 ?_)
      case c1 => exact cell_one_new _ _ _
      case c2 => intro u hu; simp at hu; subst hu; rfl
      case c3 => unfold maxLen; omega
      case c4 => omega
      case c5 => simp; omega
      · intro v' w1 hown' hgrow _
        have hown2 : w1.ownsRow w.heap.size 4 1 v' (k + 1) ((pre ++ [!b]).map Value.bool) := by rw [List.map_append]; exact hown'
        have HP2 : Hid (pre ++ [!b] = (bs.take (k + 1)).map (! ·)) := by unfold Hid; rw [HS.out, List.map_append, HP.out]; rfl
        have hb : Below w.heap.size w w1 := (hnx.alloc (by omega) _).grown hgrow (by simp; omega) (fun j hj => (hown.lt j hj).1)
        clear hown' hgrow hown hnx hcell HP
        go_wp2
        go_roundw
        case rel => exact ⟨k + 1, _, by go_num, by omega, hown2, HP2, hb⟩
        case measure => simp [intOf]; omega
    · have hkW : k = bs.length := by omega
      subst hkW
      go_wp2
      go_ret
      have e : bs.map (! ·) = pre := by rw [HP.out, List.take_length]
      have el : pre.length = bs.length := by rw [← e, List.length_map]
      exact ⟨_, rfl, by rw [e]; exact isW_own (by rw [el]; exact hown) (by omega), hnx⟩

set_option maxHeartbeats 2000000 in
set_option maxRecDepth 1000000 in
theorem add_own (u v : Value) (bs cs : List Bool) (c0 : Bool) (w : World) (hu : IsW w u bs) (hv : IsW w v cs) (hl : cs.length = bs.length) (h1 : 1 ≤ bs.length) (h65 : bs.length ≤ 65) :
    Calls Try.prog 44 #[u, v, .bool c0] w fun e w' => ∃ v', e = .returned v' ∧ w'.ownsRow w.heap.size 4 1 v' bs.length ((addL bs cs c0).map Value.bool) ∧ Below w.heap.size w w' := by
  obtain ⟨i0, hi, hz0, hz1, hz2⟩ := info_parts Try.infoBool
  obtain ⟨g, cap, rfl, hcap, hmx, hg, hc⟩ := hu
  obtain ⟨g', cap', rfl, hcap', hmx', hg', hc'⟩ := hv
  rw [hl] at hcap' hc' ⊢
  unfold maxLen at hmx hmx'
  obtain ⟨L, hL⟩ : ∃ L, bs.length = L := ⟨_, rfl⟩
  rw [hL] at hcap hc hcap' hc' h1 h65 ⊢
  have HLc : Hid (cs.length = L) := by unfold Hid; rw [hl, hL]
  have HL : Hid (bs.length = L) := hL
  clear hL hl
  go_enter Try.func44, Try.ntmps44
  go_wp2
  go_loopw [2, 7, 11] (fun cr v i wr => ∃ k : Nat, ∃ c : Bool, ∃ pre : List Bool, i = .int .i64 k ∧ cr = .bool c ∧ k ≤ L ∧ pre.length = k ∧ wr.ownsRow w.heap.size 4 1 v k (pre.map Value.bool) ∧ Hid (pre ++ addL (bs.drop k) (cs.drop k) c = addL bs cs c0) ∧ Below w.heap.size w wr) (fun _ _ i _ => L - (intOf i).toNat)
  case atStart => exact ⟨0, c0, [], rfl, rfl, by omega, rfl, World.ownsRow_nil _ _ _ _, by unfold Hid; simp, Below.refl _ _⟩
  case round =>
    obtain ⟨k, c, pre, rfl, rfl, hk, hpl, hown, HP, hnx⟩ := hrel
    have hsz := hnx.size
    have HPL : Hid _ := hpl
    clear hpl
    by_cases hlt : k < L
    · have hcell : wr.cell? ⟨g, k, none⟩ = some (.bool (bs.getD k false)) := (hnx.cell (p := ⟨g, k, none⟩) hg).trans (hc k hlt)
      have hcell' : wr.cell? ⟨g', k, none⟩ = some (.bool (cs.getD k false)) := (hnx.cell (p := ⟨g', k, none⟩) hg').trans (hc' k hlt)
      have hd : bs.drop k = bs.getD k false :: bs.drop (k + 1) := by rw [List.drop_eq_getElem_cons (by rw [HL.out]; exact hlt), List.getD_eq_getElem?_getD, List.getElem?_eq_getElem (by rw [HL.out]; exact hlt), Option.getD_some]
      have hd' : cs.drop k = cs.getD k false :: cs.drop (k + 1) := by rw [List.drop_eq_getElem_cons (by rw [HLc.out]; exact hlt), List.getD_eq_getElem?_getD, List.getElem?_eq_getElem (by rw [HLc.out]; exact hlt), Option.getD_some]
      have HN := HP.out
      rw [hd, hd', addL] at HN
      obtain ⟨x, hx⟩ : ∃ x, bs.getD k false = x := ⟨_, rfl⟩
      obtain ⟨y, hy⟩ : ∃ y, cs.getD k false = y := ⟨_, rfl⟩
      rw [hx] at hcell HN
      rw [hy] at hcell' HN
      have HN2 : Hid _ := HN
      have hk0 : (0 : Int) ≤ (k : Int) := Int.natCast_nonneg _
      have hk1 : (k : Int) < (L : Int) := by omega
      have ak : u7.ownBlock ≠ some g := fun e => by have := (hown.lt g e).1; omega
      have ak' : u7.ownBlock ≠ some g' := fun e => by have := (hown.lt g' e).1; omega
      clear hx hy hd hd' HP HN hc hc'
      cases x <;> cases y <;> cases c
      case false.false.false =>
        go_wp2
        go_region_held3 (fun w' => w'.cell? ⟨g, k, none⟩ = some (.bool false) ∧ w'.cell? ⟨g', k, none⟩ = some (.bool false))
          (first
            | go_keep
            | (go_split_ands
               refine ⟨?_, ?_⟩
               · (rw [hgrow.cell_far _ (by simp; omega) (Ne.symm ak)]; assumption)
               · (rw [hgrow.cell_far _ (by simp; omega) (Ne.symm ak')]; assumption)))
          ((refine step_append_lies _ (by rfl) _ _ _ (by rfl) w.heap.size 4 i0 _ 1 1 Try.underlying42 hi hz0 hz1 hz2 rfl (by omega) u7 k (pre.map Value.bool) (by rfl) ((hown.alloc _).drew)
              ⟨wr.heap.size, 0, none⟩ 1 1 [.bool false] (by rfl) (by rfl) (World.news_of_block (cs := #[.bool false]) (t := 4) (fr := (0, 0)) (heap_alloc_new wr _)) (by simp [Value.oneCell'])
              (by omega) (by unfold maxLen; omega) (by omega) (by simp; omega) (wr.heap.size + 1) (by simp) ?_; intro gg cap2 w1 hown1 hgrow hat hlt2))
        have hb : Below w.heap.size w w1 := ((hnx.alloc (by omega) _).drew).grown hgrow (by simp; omega) (fun j hj => (hown.lt j hj).1)
        have hown2 : w1.ownsRow w.heap.size 4 1 (.slice (some ⟨gg, 0, none⟩) (k + 1) cap2) (k + 1) ((pre ++ [false]).map Value.bool) := by rw [List.map_append]; exact hown1
        have HN3 : Hid ((pre ++ [false]) ++ addL (bs.drop (k + 1)) (cs.drop (k + 1)) false = addL bs cs c0) := by unfold Hid; rw [List.append_assoc]; exact HN2
        clear hown1 hgrow hat hlt2 hown hnx HN2
        go_wp2
        go_roundw
        case rel => exact ⟨k + 1, false, _, by go_num, rfl, by omega, by rw [List.length_append, HPL.out]; rfl, hown2, HN3, hb⟩
        case measure => simp [intOf]; omega
      case false.false.true =>
        go_wp2
        go_region_held3 (fun w' => w'.cell? ⟨g, k, none⟩ = some (.bool false) ∧ w'.cell? ⟨g', k, none⟩ = some (.bool false))
          (first
            | go_keep
            | (go_split_ands
               refine ⟨?_, ?_⟩
               · (rw [hgrow.cell_far _ (by simp; omega) (Ne.symm ak)]; assumption)
               · (rw [hgrow.cell_far _ (by simp; omega) (Ne.symm ak')]; assumption)))
          ((refine step_append_lies _ (by rfl) _ _ _ (by rfl) w.heap.size 4 i0 _ 1 1 Try.underlying42 hi hz0 hz1 hz2 rfl (by omega) u7 k (pre.map Value.bool) (by rfl) ((hown.alloc _).drew)
              ⟨wr.heap.size, 0, none⟩ 1 1 [.bool true] (by rfl) (by rfl) (World.news_of_block (cs := #[.bool true]) (t := 4) (fr := (0, 0)) (heap_alloc_new wr _)) (by simp [Value.oneCell'])
              (by omega) (by unfold maxLen; omega) (by omega) (by simp; omega) (wr.heap.size + 1) (by simp) ?_; intro gg cap2 w1 hown1 hgrow hat hlt2))
        have hb : Below w.heap.size w w1 := ((hnx.alloc (by omega) _).drew).grown hgrow (by simp; omega) (fun j hj => (hown.lt j hj).1)
        have hown2 : w1.ownsRow w.heap.size 4 1 (.slice (some ⟨gg, 0, none⟩) (k + 1) cap2) (k + 1) ((pre ++ [true]).map Value.bool) := by rw [List.map_append]; exact hown1
        have HN3 : Hid ((pre ++ [true]) ++ addL (bs.drop (k + 1)) (cs.drop (k + 1)) false = addL bs cs c0) := by unfold Hid; rw [List.append_assoc]; exact HN2
        clear hown1 hgrow hat hlt2 hown hnx HN2
        go_wp2
        go_roundw
        case rel => exact ⟨k + 1, false, _, by go_num, rfl, by omega, by rw [List.length_append, HPL.out]; rfl, hown2, HN3, hb⟩
        case measure => simp [intOf]; omega
      case false.true.false =>
        go_wp2
        go_region_held3 (fun w' => w'.cell? ⟨g, k, none⟩ = some (.bool false) ∧ w'.cell? ⟨g', k, none⟩ = some (.bool true))
          (first
            | go_keep
            | (go_split_ands
               refine ⟨?_, ?_⟩
               · (rw [hgrow.cell_far _ (by simp; omega) (Ne.symm ak)]; assumption)
               · (rw [hgrow.cell_far _ (by simp; omega) (Ne.symm ak')]; assumption)))
          ((refine step_append_lies _ (by rfl) _ _ _ (by rfl) w.heap.size 4 i0 _ 1 1 Try.underlying42 hi hz0 hz1 hz2 rfl (by omega) u7 k (pre.map Value.bool) (by rfl) ((hown.alloc _).drew)
              ⟨wr.heap.size, 0, none⟩ 1 1 [.bool true] (by rfl) (by rfl) (World.news_of_block (cs := #[.bool true]) (t := 4) (fr := (0, 0)) (heap_alloc_new wr _)) (by simp [Value.oneCell'])
              (by omega) (by unfold maxLen; omega) (by omega) (by simp; omega) (wr.heap.size + 1) (by simp) ?_; intro gg cap2 w1 hown1 hgrow hat hlt2))
        have hb : Below w.heap.size w w1 := ((hnx.alloc (by omega) _).drew).grown hgrow (by simp; omega) (fun j hj => (hown.lt j hj).1)
        have hown2 : w1.ownsRow w.heap.size 4 1 (.slice (some ⟨gg, 0, none⟩) (k + 1) cap2) (k + 1) ((pre ++ [true]).map Value.bool) := by rw [List.map_append]; exact hown1
        have HN3 : Hid ((pre ++ [true]) ++ addL (bs.drop (k + 1)) (cs.drop (k + 1)) false = addL bs cs c0) := by unfold Hid; rw [List.append_assoc]; exact HN2
        clear hown1 hgrow hat hlt2 hown hnx HN2
        go_wp2
        go_roundw
        case rel => exact ⟨k + 1, false, _, by go_num, rfl, by omega, by rw [List.length_append, HPL.out]; rfl, hown2, HN3, hb⟩
        case measure => simp [intOf]; omega
      case false.true.true =>
        go_wp2
        go_region_held3 (fun w' => w'.cell? ⟨g, k, none⟩ = some (.bool false) ∧ w'.cell? ⟨g', k, none⟩ = some (.bool true))
          (first
            | go_keep
            | (go_split_ands
               refine ⟨?_, ?_⟩
               · (rw [hgrow.cell_far _ (by simp; omega) (Ne.symm ak)]; assumption)
               · (rw [hgrow.cell_far _ (by simp; omega) (Ne.symm ak')]; assumption)))
          ((refine step_append_lies _ (by rfl) _ _ _ (by rfl) w.heap.size 4 i0 _ 1 1 Try.underlying42 hi hz0 hz1 hz2 rfl (by omega) u7 k (pre.map Value.bool) (by rfl) ((hown.alloc _).drew)
              ⟨wr.heap.size, 0, none⟩ 1 1 [.bool false] (by rfl) (by rfl) (World.news_of_block (cs := #[.bool false]) (t := 4) (fr := (0, 0)) (heap_alloc_new wr _)) (by simp [Value.oneCell'])
              (by omega) (by unfold maxLen; omega) (by omega) (by simp; omega) (wr.heap.size + 1) (by simp) ?_; intro gg cap2 w1 hown1 hgrow hat hlt2))
        have hb : Below w.heap.size w w1 := ((hnx.alloc (by omega) _).drew).grown hgrow (by simp; omega) (fun j hj => (hown.lt j hj).1)
        have hown2 : w1.ownsRow w.heap.size 4 1 (.slice (some ⟨gg, 0, none⟩) (k + 1) cap2) (k + 1) ((pre ++ [false]).map Value.bool) := by rw [List.map_append]; exact hown1
        have HN3 : Hid ((pre ++ [false]) ++ addL (bs.drop (k + 1)) (cs.drop (k + 1)) true = addL bs cs c0) := by unfold Hid; rw [List.append_assoc]; exact HN2
        clear hown1 hgrow hat hlt2 hown hnx HN2
        go_wp2
        go_roundw
        case rel => exact ⟨k + 1, true, _, by go_num, rfl, by omega, by rw [List.length_append, HPL.out]; rfl, hown2, HN3, hb⟩
        case measure => simp [intOf]; omega
      case true.false.false =>
        go_wp2
        go_region_held3 (fun w' => w'.cell? ⟨g, k, none⟩ = some (.bool true) ∧ w'.cell? ⟨g', k, none⟩ = some (.bool false))
          (first
            | go_keep
            | (go_split_ands
               refine ⟨?_, ?_⟩
               · (rw [hgrow.cell_far _ (by simp; omega) (Ne.symm ak)]; assumption)
               · (rw [hgrow.cell_far _ (by simp; omega) (Ne.symm ak')]; assumption)))
          ((refine step_append_lies _ (by rfl) _ _ _ (by rfl) w.heap.size 4 i0 _ 1 1 Try.underlying42 hi hz0 hz1 hz2 rfl (by omega) u7 k (pre.map Value.bool) (by rfl) ((hown.alloc _).drew)
              ⟨wr.heap.size, 0, none⟩ 1 1 [.bool true] (by rfl) (by rfl) (World.news_of_block (cs := #[.bool true]) (t := 4) (fr := (0, 0)) (heap_alloc_new wr _)) (by simp [Value.oneCell'])
              (by omega) (by unfold maxLen; omega) (by omega) (by simp; omega) (wr.heap.size + 1) (by simp) ?_; intro gg cap2 w1 hown1 hgrow hat hlt2))
        have hb : Below w.heap.size w w1 := ((hnx.alloc (by omega) _).drew).grown hgrow (by simp; omega) (fun j hj => (hown.lt j hj).1)
        have hown2 : w1.ownsRow w.heap.size 4 1 (.slice (some ⟨gg, 0, none⟩) (k + 1) cap2) (k + 1) ((pre ++ [true]).map Value.bool) := by rw [List.map_append]; exact hown1
        have HN3 : Hid ((pre ++ [true]) ++ addL (bs.drop (k + 1)) (cs.drop (k + 1)) false = addL bs cs c0) := by unfold Hid; rw [List.append_assoc]; exact HN2
        clear hown1 hgrow hat hlt2 hown hnx HN2
        go_wp2
        go_roundw
        case rel => exact ⟨k + 1, false, _, by go_num, rfl, by omega, by rw [List.length_append, HPL.out]; rfl, hown2, HN3, hb⟩
        case measure => simp [intOf]; omega
      case true.false.true =>
        go_wp2
        go_region_held3 (fun w' => w'.cell? ⟨g, k, none⟩ = some (.bool true) ∧ w'.cell? ⟨g', k, none⟩ = some (.bool false))
          (first
            | go_keep
            | (go_split_ands
               refine ⟨?_, ?_⟩
               · (rw [hgrow.cell_far _ (by simp; omega) (Ne.symm ak)]; assumption)
               · (rw [hgrow.cell_far _ (by simp; omega) (Ne.symm ak')]; assumption)))
          ((refine step_append_lies _ (by rfl) _ _ _ (by rfl) w.heap.size 4 i0 _ 1 1 Try.underlying42 hi hz0 hz1 hz2 rfl (by omega) u7 k (pre.map Value.bool) (by rfl) ((hown.alloc _).drew)
              ⟨wr.heap.size, 0, none⟩ 1 1 [.bool false] (by rfl) (by rfl) (World.news_of_block (cs := #[.bool false]) (t := 4) (fr := (0, 0)) (heap_alloc_new wr _)) (by simp [Value.oneCell'])
              (by omega) (by unfold maxLen; omega) (by omega) (by simp; omega) (wr.heap.size + 1) (by simp) ?_; intro gg cap2 w1 hown1 hgrow hat hlt2))
        have hb : Below w.heap.size w w1 := ((hnx.alloc (by omega) _).drew).grown hgrow (by simp; omega) (fun j hj => (hown.lt j hj).1)
        have hown2 : w1.ownsRow w.heap.size 4 1 (.slice (some ⟨gg, 0, none⟩) (k + 1) cap2) (k + 1) ((pre ++ [false]).map Value.bool) := by rw [List.map_append]; exact hown1
        have HN3 : Hid ((pre ++ [false]) ++ addL (bs.drop (k + 1)) (cs.drop (k + 1)) true = addL bs cs c0) := by unfold Hid; rw [List.append_assoc]; exact HN2
        clear hown1 hgrow hat hlt2 hown hnx HN2
        go_wp2
        go_roundw
        case rel => exact ⟨k + 1, true, _, by go_num, rfl, by omega, by rw [List.length_append, HPL.out]; rfl, hown2, HN3, hb⟩
        case measure => simp [intOf]; omega
      case true.true.false =>
        go_wp2
        go_region_held3 (fun w' => w'.cell? ⟨g, k, none⟩ = some (.bool true) ∧ w'.cell? ⟨g', k, none⟩ = some (.bool true))
          (first
            | go_keep
            | (go_split_ands
               refine ⟨?_, ?_⟩
               · (rw [hgrow.cell_far _ (by simp; omega) (Ne.symm ak)]; assumption)
               · (rw [hgrow.cell_far _ (by simp; omega) (Ne.symm ak')]; assumption)))
          ((refine step_append_lies _ (by rfl) _ _ _ (by rfl) w.heap.size 4 i0 _ 1 1 Try.underlying42 hi hz0 hz1 hz2 rfl (by omega) u7 k (pre.map Value.bool) (by rfl) ((hown.alloc _).drew)
              ⟨wr.heap.size, 0, none⟩ 1 1 [.bool false] (by rfl) (by rfl) (World.news_of_block (cs := #[.bool false]) (t := 4) (fr := (0, 0)) (heap_alloc_new wr _)) (by simp [Value.oneCell'])
              (by omega) (by unfold maxLen; omega) (by omega) (by simp; omega) (wr.heap.size + 1) (by simp) ?_; intro gg cap2 w1 hown1 hgrow hat hlt2))
        have hb : Below w.heap.size w w1 := ((hnx.alloc (by omega) _).drew).grown hgrow (by simp; omega) (fun j hj => (hown.lt j hj).1)
        have hown2 : w1.ownsRow w.heap.size 4 1 (.slice (some ⟨gg, 0, none⟩) (k + 1) cap2) (k + 1) ((pre ++ [false]).map Value.bool) := by rw [List.map_append]; exact hown1
        have HN3 : Hid ((pre ++ [false]) ++ addL (bs.drop (k + 1)) (cs.drop (k + 1)) true = addL bs cs c0) := by unfold Hid; rw [List.append_assoc]; exact HN2
        clear hown1 hgrow hat hlt2 hown hnx HN2
        go_wp2
        go_roundw
        case rel => exact ⟨k + 1, true, _, by go_num, rfl, by omega, by rw [List.length_append, HPL.out]; rfl, hown2, HN3, hb⟩
        case measure => simp [intOf]; omega
      case true.true.true =>
        go_wp2
        go_region_held3 (fun w' => w'.cell? ⟨g, k, none⟩ = some (.bool true) ∧ w'.cell? ⟨g', k, none⟩ = some (.bool true))
          (first
            | go_keep
            | (go_split_ands
               refine ⟨?_, ?_⟩
               · (rw [hgrow.cell_far _ (by simp; omega) (Ne.symm ak)]; assumption)
               · (rw [hgrow.cell_far _ (by simp; omega) (Ne.symm ak')]; assumption)))
          ((refine step_append_lies _ (by rfl) _ _ _ (by rfl) w.heap.size 4 i0 _ 1 1 Try.underlying42 hi hz0 hz1 hz2 rfl (by omega) u7 k (pre.map Value.bool) (by rfl) ((hown.alloc _).drew)
              ⟨wr.heap.size, 0, none⟩ 1 1 [.bool true] (by rfl) (by rfl) (World.news_of_block (cs := #[.bool true]) (t := 4) (fr := (0, 0)) (heap_alloc_new wr _)) (by simp [Value.oneCell'])
              (by omega) (by unfold maxLen; omega) (by omega) (by simp; omega) (wr.heap.size + 1) (by simp) ?_; intro gg cap2 w1 hown1 hgrow hat hlt2))
        have hb : Below w.heap.size w w1 := ((hnx.alloc (by omega) _).drew).grown hgrow (by simp; omega) (fun j hj => (hown.lt j hj).1)
        have hown2 : w1.ownsRow w.heap.size 4 1 (.slice (some ⟨gg, 0, none⟩) (k + 1) cap2) (k + 1) ((pre ++ [true]).map Value.bool) := by rw [List.map_append]; exact hown1
        have HN3 : Hid ((pre ++ [true]) ++ addL (bs.drop (k + 1)) (cs.drop (k + 1)) true = addL bs cs c0) := by unfold Hid; rw [List.append_assoc]; exact HN2
        clear hown1 hgrow hat hlt2 hown hnx HN2
        go_wp2
        go_roundw
        case rel => exact ⟨k + 1, true, _, by go_num, rfl, by omega, by rw [List.length_append, HPL.out]; rfl, hown2, HN3, hb⟩
        case measure => simp [intOf]; omega
    · have hkW : k = L := by omega
      subst hkW
      go_wp2
      go_ret
      have e : addL bs cs c0 = pre := by
        rw [← HP.out, List.drop_eq_nil_of_le (by rw [HL.out]; omega), List.drop_eq_nil_of_le (by rw [HLc.out]; omega)]; simp [addL]
      exact ⟨_, rfl, by rw [e]; exact hown, hnx⟩

theorem add_any (u v : Value) (bs cs : List Bool) (c0 : Bool) (w : World) (hu : IsW w u bs) (hv : IsW w v cs) (hl : cs.length = bs.length) (h1 : 1 ≤ bs.length) (h65 : bs.length ≤ 65) :
    Calls Try.prog 44 #[u, v, .bool c0] w fun e w' => ∃ v', e = .returned v' ∧ IsW w' v' (addL bs cs c0) ∧ Below w.heap.size w w' := by
  refine (add_own u v bs cs c0 w hu hv hl h1 h65).mono ?_
  rintro e w1 ⟨v1, rfl, hv1, hb⟩
  have el := addL_length bs cs c0 hl.symm
  exact ⟨v1, rfl, isW_own (by rw [el]; exact hv1) (by omega), hb⟩

end Go.Proofs.Ytlbilmgpnpghlaa
