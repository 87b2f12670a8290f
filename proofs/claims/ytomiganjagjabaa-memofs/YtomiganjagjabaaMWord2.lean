/-
  What the document's own functions on words do: numbers out of bits.
-/
import Derived.Test.YtomiganjagjabaaMWord
namespace Go.Proofs.Ytomiganjagjabaa
open Go.RowKit

theorem wrap64_val (x : Int) : wrap64 x = (x + 9223372036854775808) % 18446744073709551616 - 9223372036854775808 := by unfold wrap64; rfl
theorem pow2_le (k j : Nat) (h : k ≤ j) : (2 : Int) ^ k ≤ 2 ^ j := by exact_mod_cast Nat.pow_le_pow_right (by omega : 0 < 2) h
theorem pow2_63 (k : Nat) (h : k ≤ 63) : (2 : Int) ^ k ≤ 9223372036854775808 := pow2_le k 63 h
theorem pow2_pos (k : Nat) : (0 : Int) < 2 ^ k := Int.pow_pos (by omega)
theorem or_bit (m : Int) (k : Nat) (hk : k ≤ 63) (h0 : 0 ≤ m) (h1 : m < 2 ^ k) : bits .or .i64 m (wrap64 (2 ^ k)) = wrap64 (m + 2 ^ k) := by
  have hp := pow2_63 k hk
  have hp0 := pow2_pos k
  have e1 : (BitVec.ofInt 64 m).toNat = m.toNat := by
    rw [BitVec.toNat_ofInt]
    have : m % ((2 ^ 64 : Nat) : Int) = m := Int.emod_eq_of_lt h0 (by omega)
    rw [this]
  have e2 : (BitVec.ofInt 64 (wrap64 (2 ^ k))).toNat = 2 ^ k := by
    rw [BitVec.toNat_ofInt, wrap64_val]
    have : (((2 : Int) ^ k + 9223372036854775808) % 18446744073709551616 - 9223372036854775808) % ((2 ^ 64 : Nat) : Int) = 2 ^ k := by omega
    rw [this]
    have : (2 : Int) ^ k = ((2 ^ k : Nat) : Int) := by rw [Int.natCast_pow]; rfl
    rw [this, Int.toNat_natCast]
  have key : (BitVec.ofInt 64 m ||| BitVec.ofInt 64 (wrap64 (2 ^ k))).toNat = 2 ^ k + m.toNat := by
    rw [BitVec.toNat_or, e1, e2, Nat.or_comm]
    have hm : m.toNat < 2 ^ k := by
      have : (m.toNat : Int) < ((2 ^ k : Nat) : Int) := by rw [Int.toNat_of_nonneg h0, Int.natCast_pow]; exact h1
      omega
    have := Nat.two_pow_add_eq_or_of_lt hm 1
    rw [Nat.mul_one] at this
    exact this.symm
  show IntKind.i64.wrap ((BitVec.ofInt 64 m ||| BitVec.ofInt 64 (wrap64 (2 ^ k))).toNat : Nat) = _
  rw [key, IntKind.wrap_i64, wrap64_val, Int.natCast_add, Int.toNat_of_nonneg h0, Int.natCast_pow]
  rw [show ((2 : Nat) : Int) = 2 from rfl, Int.add_comm (2 ^ k) m]

/-- The number with its sign that bits stand for. -/
def wsgn (bs : List Bool) : Int := wval bs - (if bs.getD (bs.length - 1) false then 2 ^ bs.length else 0)
theorem take_succ_snoc (bs : List Bool) (k : Nat) (h : k < bs.length) : bs.take (k + 1) = bs.take k ++ [bs.getD k false] := by
  rw [List.take_succ_eq_append_getElem h, List.getD_eq_getElem?_getD, List.getElem?_eq_getElem h, Option.getD_some]
theorem wval_top (bs : List Bool) (h : 1 ≤ bs.length) : wval bs = wval (bs.take (bs.length - 1)) + (if bs.getD (bs.length - 1) false then 2 ^ (bs.length - 1) else 0) := by
  have e := take_succ_snoc bs (bs.length - 1) (by omega)
  rw [show bs.length - 1 + 1 = bs.length from by omega, List.take_length] at e
  conv => lhs; rw [e]
  rw [wval_snoc, List.length_take, Nat.min_eq_left (by omega)]
theorem wsgn_64 (bs : List Bool) (h : bs.length = 64) : wrap64 (wval bs) = wsgn bs := by
  have e := wval_top bs (by omega)
  have hb := wval_bound (bs.take (bs.length - 1))
  rw [List.length_take, Nat.min_eq_left (by omega)] at hb
  cases hc : bs.getD (bs.length - 1) false with
  | true =>
    rw [hc] at e
    rw [wsgn, hc, wrap64_val]
    rw [h] at e hb ⊢
    simp only [if_true] at e ⊢
    omega
  | false =>
    rw [hc] at e
    rw [wsgn, hc, wrap64_val]
    rw [h] at e hb
    simp only [Bool.false_eq_true, if_false, Int.add_zero, Int.sub_zero] at e ⊢
    omega
theorem wsgn_less (bs : List Bool) (h1 : 1 ≤ bs.length) (h : bs.length ≤ 63) (hc : bs.getD (bs.length - 1) false = true) : wrap64 (wval bs - wrap64 (2 ^ bs.length)) = wsgn bs := by
  have e := wval_top bs h1
  rw [hc] at e
  have hb := wval_bound (bs.take (bs.length - 1))
  rw [List.length_take, Nat.min_eq_left (by omega)] at hb
  have hp := pow2_63 bs.length h
  have hs : (2 : Int) ^ bs.length = 2 ^ (bs.length - 1) * 2 := by rw [← Int.pow_succ]; congr 1; omega
  rw [wsgn, hc, wrap64_val, wrap64_val]
  simp only [if_true] at e ⊢
  omega
theorem wsgn_plus (bs : List Bool) (hc : bs.getD (bs.length - 1) false = false) : wval bs = wsgn bs := by
  rw [wsgn, hc]; simp

set_option maxHeartbeats 400000 in
set_option maxRecDepth 1000000 in
theorem value_any (v : Value) (bs : List Bool) (w : World) (hv : IsW w v bs) (h1 : 1 ≤ bs.length) (h64 : bs.length ≤ 64) :
    Calls Try.prog 35 #[v] w fun e w' => e = .returned (.int .i64 (wsgn bs)) ∧ w' = w := by
  obtain ⟨g, cap, rfl, hcap, hmx, hg, hc⟩ := hv
  unfold maxLen at hmx
  obtain ⟨R, hR⟩ : ∃ R, wsgn bs = R := ⟨_, rfl⟩
  rw [hR]
  have HR : Hid (wsgn bs = R) := hR
  clear hR
  go_enter Try.func35, Try.ntmps35
  go_wp2
  go_loop [3, 8] (fun t i => ∃ k : Nat, ∃ n : Int, i = .int .i64 k ∧ t = .int .i64 n ∧ k ≤ bs.length ∧ -9223372036854775808 ≤ n ∧ n ≤ 9223372036854775807 ∧ Hid (n = wrap64 (wval (bs.take k)))) (fun _ i => bs.length - (intOf i).toNat)
  case atStart => exact ⟨0, 0, rfl, rfl, by omega, by omega, by omega, by unfold Hid; rw [List.take_zero, wrap64_val]; rfl⟩
  case round =>
    obtain ⟨k, n, rfl, rfl, hk, hn1, hn2, HN⟩ := hrel
    by_cases hlt : k < bs.length
    · have hcell := hc k hlt
      have hbd := wval_bound (bs.take k)
      rw [List.length_take, Nat.min_eq_left (by omega)] at hbd
      have hp := pow2_63 k (by omega)
      have hs := take_succ_snoc bs k hlt
      have hnv : n = wval (bs.take k) := by rw [HN.out, wrap64_val]; omega
      cases hb : bs.getD k false with
      | true =>
        have HE : Hid (bits BinOp.or IntKind.i64 n (wrap64 (2 ^ k)) = wrap64 (wval (bs.take (k + 1)))) := by
          unfold Hid
          rw [hs, hb, wval_snoc, List.length_take, Nat.min_eq_left (by omega), hnv, or_bit _ k (by omega) hbd.1 hbd.2]; rfl
        have HB1 : Hid (-9223372036854775808 ≤ wrap64 (wval (bs.take (k + 1)))) := by unfold Hid; rw [wrap64_val]; omega
        have HB2 : Hid (wrap64 (wval (bs.take (k + 1))) ≤ 9223372036854775807) := by unfold Hid; rw [wrap64_val]; omega
        rw [hb] at hcell
        clear hc hb hbd hp hs hnv HN
        go_wp2
        go_round
        case rel => exact ⟨k + 1, _, by go_num, rfl, by omega, by rw [HE.out]; exact HB1, by rw [HE.out]; exact HB2, HE⟩
        case measure => simp [intOf]; omega
      | false =>
        have HE : Hid (n = wrap64 (wval (bs.take (k + 1)))) := by
          unfold Hid
          rw [hs, hb, wval_snoc, HN.out]; simp
        rw [hb] at hcell
        clear hc hb hbd hp hs hnv HN
        go_wp2
        go_round
        case rel => exact ⟨k + 1, n, by go_num, rfl, by omega, hn1, hn2, HE⟩
        case measure => simp [intOf]; omega
    · have hkk : k = bs.length := by omega
      subst hkk
      have hcell := hc (bs.length - 1) (by omega)
      have HN2 : Hid (n = wrap64 (wval bs)) := by unfold Hid; rw [HN.out, List.take_length]
      have hbd := wval_bound bs
      by_cases h63 : (bs.length : Int) < 64
      · have hp := pow2_63 bs.length (by omega)
        have hnv : Hid (n = wval bs) := by unfold Hid; rw [HN2.out, wrap64_val]; omega
        cases hb : bs.getD (bs.length - 1) false with
        | true =>
          have HE : Hid (wrap64 (n - wrap64 (2 ^ bs.length)) = R) := by unfold Hid; rw [hnv.out, wsgn_less bs h1 (by omega) hb]; exact HR
          rw [hb] at hcell
          clear hc hb hbd hp hnv HN HN2
          go_wp2
          go_ret
          exact ⟨ret_i HE.out, rfl⟩
        | false =>
          have HE : Hid (n = R) := by unfold Hid; rw [hnv.out, wsgn_plus bs hb]; exact HR
          rw [hb] at hcell
          clear hc hb hbd hp hnv HN HN2
          go_wp2
          go_ret
          exact ⟨ret_i HE.out, rfl⟩
      · have HE : Hid (n = R) := by unfold Hid; rw [HN2.out, wsgn_64 bs (by omega)]; exact HR
        clear hc hbd HN HN2 hcell
        go_wp2
        go_ret
        exact ⟨ret_i HE.out, rfl⟩

set_option maxHeartbeats 400000 in
set_option maxRecDepth 1000000 in
theorem plain_any (v : Value) (bs : List Bool) (w : World) (hv : IsW w v bs) (h64 : bs.length ≤ 64) :
    Calls Try.prog 34 #[v] w fun e w' => e = .returned (.int .u64 (wval bs)) ∧ w' = w := by
  obtain ⟨g, cap, rfl, hcap, hmx, hg, hc⟩ := hv
  unfold maxLen at hmx
  go_enter Try.func34, Try.ntmps34
  go_wp2
  go_loop [3, 4] (fun t i => ∃ j : Nat, ∃ n : Int, i = .int .i64 ((j : Int) - 1) ∧ t = .int .u64 n ∧ j ≤ bs.length ∧ 0 ≤ n ∧ n < 2 ^ (bs.length - j) ∧ Hid (wval (bs.drop j) = n)) (fun _ i => (intOf i + 1).toNat)
  case atStart => exact ⟨bs.length, 0, rfl, rfl, by omega, by omega, by simp, by unfold Hid; rw [List.drop_length]; rfl⟩
  case round =>
    obtain ⟨j, n, rfl, rfl, hj, hn1, hn2, HN⟩ := hrel
    cases j with
    | zero =>
      have HE : Hid (n = wval bs) := by unfold Hid; rw [← HN.out, List.drop_zero]
      clear HN hc
      go_wp2
      go_ret
      exact ⟨ret_i HE.out, rfl⟩
    | succ j =>
      have e : (((j + 1 : Nat) : Int) - 1) = (j : Int) := by omega
      rw [e]
      have hlt : j < bs.length := by omega
      have hcell := hc j hlt
      have hd := List.drop_eq_getElem_cons hlt
      have hgd : bs.getD j false = bs[j] := by rw [List.getD_eq_getElem?_getD, List.getElem?_eq_getElem hlt, Option.getD_some]
      have hp := pow2_63 (bs.length - (j + 1)) (by omega)
      have hps : (2 : Int) ^ (bs.length - j) = 2 ^ (bs.length - (j + 1)) * 2 := by rw [← Int.pow_succ]; congr 1; omega
      have hn3 : n < 9223372036854775808 := by omega
      cases hb : bs.getD j false with
      | true =>
        have HE : Hid (wval (bs.drop j) = n * 2 + 1) := by unfold Hid; rw [hd, wval, ← hgd, hb, HN.out]; simp; omega
        have HP : Hid (n * 2 + 1 < 2 ^ (bs.length - j)) := by unfold Hid; rw [hps]; omega
        rw [hb] at hcell
        clear hc hb hd hgd hp hps HN e
        go_wp2
        go_round
        case rel => exact ⟨j, _, rfl, rfl, by omega, by omega, HP.out, HE⟩
        case measure => simp [intOf]
      | false =>
        have HE : Hid (wval (bs.drop j) = n * 2) := by unfold Hid; rw [hd, wval, ← hgd, hb, HN.out]; simp; omega
        have HP : Hid (n * 2 < 2 ^ (bs.length - j)) := by unfold Hid; rw [hps]; omega
        rw [hb] at hcell
        clear hc hb hd hgd hp hps HN e
        go_wp2
        go_round
        case rel => exact ⟨j, _, rfl, rfl, by omega, by omega, HP.out, HE⟩
        case measure => simp [intOf]

end Go.Proofs.Ytomiganjagjabaa
