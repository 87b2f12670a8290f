/-
  What the document's own times does.
-/
import Derived.Test.YtlbilmgpnpghlaaUp
namespace Go.Proofs.Ytlbilmgpnpghlaa
open Go.RowKit

theorem wval_zeros : ∀ n : Nat, wval (List.replicate n false) = 0
  | 0 => rfl
  | n + 1 => by rw [List.replicate_succ, wval, wval_zeros n]; rfl
theorem wval_up (bs : List Bool) (n : Nat) (hn : n ≤ bs.length) : wval (List.replicate n false ++ bs.take (bs.length - n)) = wval bs * 2 ^ n % 2 ^ bs.length := by
  have hb := wval_bound (bs.take (bs.length - n))
  rw [List.length_take, Nat.min_eq_left (by omega)] at hb
  have hp := pow2_pos n
  have e2 : (2 : Int) ^ (bs.length - n) * 2 ^ n = 2 ^ bs.length := by rw [← Int.pow_add]; congr 1; omega
  have e1 : wval bs * 2 ^ n = wval (bs.take (bs.length - n)) * 2 ^ n + 2 ^ bs.length * wval (bs.drop (bs.length - n)) := by
    conv => lhs; rw [← List.take_append_drop (bs.length - n) bs]
    rw [wval_append, List.length_take, Nat.min_eq_left (by omega), Int.add_mul, Int.mul_assoc (wval (List.drop _ _)), e2, Int.mul_comm (2 ^ bs.length)]
  rw [wval_append, wval_zeros, List.length_replicate, Int.zero_add, e1, Int.add_mul_emod_self_left, Int.emod_eq_of_lt (Int.mul_nonneg hb.1 (by omega))]
  rw [← e2]
  exact Int.mul_lt_mul_of_pos_right hb.2 hp
theorem up_length (bs : List Bool) (n : Nat) (hn : n ≤ bs.length) : (List.replicate n false ++ bs.take (bs.length - n)).length = bs.length := by
  rw [List.length_append, List.length_replicate, List.length_take]; omega
theorem upW (u : Value) (bs : List Bool) (n : Nat) (w : World) (hu : IsW w u bs) (hn : n < bs.length) (h65 : bs.length ≤ 65) :
    Calls Try.prog 54 #[u, .int .i64 n] w fun e w' => ∃ v' ds, e = .returned v' ∧ IsW w' v' ds ∧ Hid (ds.length = bs.length ∧ wval ds = wval bs * 2 ^ n % 2 ^ bs.length) ∧ Below w.heap.size w w' := by
  refine (up_any u bs n w hu hn h65).mono ?_
  rintro e w1 ⟨v1, rfl, hv, hb⟩
  have hl := up_length bs n (by omega)
  exact ⟨v1, _, rfl, isW_own (by rw [hl]; exact hv) (by omega), ⟨hl, wval_up bs n (by omega)⟩, hb⟩
theorem addW (u v : Value) (bs cs : List Bool) (c0 : Bool) (w : World) (hu : IsW w u bs) (hv : IsW w v cs) (hl : cs.length = bs.length) (h1 : 1 ≤ bs.length) (h65 : bs.length ≤ 65) :
    Calls Try.prog 44 #[u, v, .bool c0] w fun e w' => ∃ v' ds, e = .returned v' ∧ IsW w' v' ds ∧ Hid (ds.length = bs.length ∧ wval ds = (wval bs + wval cs + (if c0 then 1 else 0)) % 2 ^ bs.length) ∧ Below w.heap.size w w' := by
  refine (add_any u v bs cs c0 w hu hv hl h1 h65).mono ?_
  rintro e w1 ⟨v1, rfl, hv, hb⟩
  exact ⟨v1, _, rfl, hv, ⟨addL_length _ _ _ hl.symm, addL_val _ _ _ hl.symm⟩, hb⟩
theorem times_step (x b t M : Int) (k : Nat) (h : x = b * t % M) (y : Int) (hy : y = b * 2 ^ k % M) (z : Int) (hz : z = (x + y + (if false = true then 1 else 0)) % M) : z = b * (t + 2 ^ k) % M := by
  rw [hz, h, hy]
  simp only [Bool.false_eq_true, if_false, Int.add_zero]
  rw [← Int.add_emod, Int.mul_add]

set_option maxHeartbeats 1000000 in
set_option maxRecDepth 1000000 in
theorem times_any (u v : Value) (bs cs : List Bool) (w : World) (hu : IsW w u bs) (hv : IsW w v cs) (hl : cs.length = bs.length) (h1 : 1 ≤ bs.length) (h65 : bs.length ≤ 65) :
    Calls Try.prog 46 #[u, v] w fun e w' => ∃ v' ds, e = .returned v' ∧ IsW w' v' ds ∧ Hid (ds.length = bs.length ∧ wval ds = wval bs * wval cs % 2 ^ bs.length) ∧ Below w.heap.size w w' := by
  have hmk := mk_word bs.length h65
  have HU : Hid (IsW w u bs) := hu
  obtain ⟨g, cap, rfl, hcap, hmx, hg, hc⟩ := hu
  obtain ⟨g', cap', rfl, hcap', hmx', hg', hc'⟩ := hv
  rw [hl] at hcap' hc' ⊢
  unfold maxLen at hmx hmx'
  have HLc : Hid (cs.length = bs.length) := hl
  clear hl hc
  go_enter Try.func46, Try.ntmps46
  go_wp2
  go_loopw [5, 13] (fun v i wr => ∃ k : Nat, ∃ os : List Bool, i = .int .i64 k ∧ k ≤ bs.length ∧ IsW wr v os ∧ Hid (os.length = bs.length ∧ wval os = wval bs * wval (cs.take k) % 2 ^ bs.length) ∧ Below w.heap.size w wr) (fun _ i _ => bs.length - (intOf i).toNat)
  case atStart => exact ⟨0, List.replicate bs.length false, rfl, by omega, made_isW w _ h1 h65, ⟨by simp, by rw [wval_zeros]; simp [wval]⟩, (Below.refl _ _).alloc (Nat.le_refl _) _⟩
  case round =>
    obtain ⟨k, os, rfl, hk, hown, HP, hnx⟩ := hrel
    clear hmk
    by_cases hlt : k < bs.length
    · have hcell : wr.cell? ⟨g', k, none⟩ = some (.bool (cs.getD k false)) := (hnx.cell (p := ⟨g', k, none⟩) hg').trans (hc' k hlt)
      have hs := take_succ_snoc cs k (by rw [HLc.out]; exact hlt)
      cases hb : cs.getD k false with
      | true =>
        rw [hb] at hcell hs
        have HS : Hid (wval (cs.take (k + 1)) = wval (cs.take k) + 2 ^ k) := by unfold Hid; rw [hs, wval_snoc, List.length_take, Nat.min_eq_left (by rw [HLc.out]; omega)]; rfl
        have HW : Hid (IsW wr u5 os) := hown
        have HN : Hid _ := hnx
        clear hs hb hc' hown hnx
        go_wp2_with fail
        refine (upW _ bs k _ (HU.out.below HN.out) hlt h65).mono ?_
        rintro e w1 ⟨v1, ds, rfl, hv1, HD, b1⟩
        go_wp2_with fail
        refine (addW _ _ os ds false _ (HW.out.below b1) hv1 (by rw [HD.out.1, HP.out.1]) (by rw [HP.out.1]; exact h1) (by rw [HP.out.1]; exact h65)).mono ?_
        rintro e w2 ⟨v2, es, rfl, hv2, HE, b2⟩
        have HP2 : Hid (es.length = bs.length ∧ wval es = wval bs * wval (cs.take (k + 1)) % 2 ^ bs.length) := by
          refine ⟨by rw [HE.out.1, HP.out.1], ?_⟩
          rw [HS.out]
          refine times_step _ _ _ _ k HP.out.2 _ HD.out.2 _ ?_
          rw [HE.out.2, HP.out.1]
        have hb2 : Below w.heap.size w w2 := below_then (below_then HN.out b1) b2
        clear HE HD HP HW HN HS b1 b2 hv1
        go_wp2
        go_roundw
        case rel => exact ⟨k + 1, es, by go_num, by omega, hv2, HP2, hb2⟩
        case measure => simp [intOf]; omega
      | false =>
        rw [hb] at hcell hs
        have HS : Hid (wval (cs.take (k + 1)) = wval (cs.take k)) := by unfold Hid; rw [hs, wval_snoc]; simp
        clear hs hb hc'
        go_wp2
        go_roundw
        case rel => exact ⟨k + 1, os, by go_num, by omega, hown, ⟨HP.out.1, by rw [HS.out]; exact HP.out.2⟩, hnx⟩
        case measure => simp [intOf]; omega
    · have hkW : k = bs.length := by omega
      subst hkW
      go_wp2
      go_ret
      exact ⟨_, os, rfl, hown, ⟨HP.out.1, by rw [HP.out.2, ← HLc.out, List.take_length]⟩, hnx⟩

end Go.Proofs.Ytlbilmgpnpghlaa
