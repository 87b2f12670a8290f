/-
  Plain mathematics of words: bits of a number, the lowest first.
  What the document's own functions on words do: those that read.
  What the document's own functions on words do: numbers out of bits.
  What the document's own count and Fit do.
  What the document's own less does: it compares words without signs.
  Plain mathematics of dividing words bit by bit.
-/
import Derived.Laws.Bits128
import Derived.Laws.BitsAllLaws
import Derived.Laws.BitsLemmas
import Derived.Test.YtkceplamaocmmaaGreatDoorProg
import Derived.WalkKit
import Derived.WalkSpells
import Derived.WalkSmall
import Derived.Deep.QuietTactic
import Derived.BigQuiet
set_option maxHeartbeats 1000000
set_option maxRecDepth 1000000
namespace Go.Proofs.YtkceplamaocmmaaGreatDoor
set_option linter.unusedVariables false
def bitAt (a : Int) (i : Nat) : Bool := a / 2 ^ i % 2 == 1
def wordB (a : Int) (w : Nat) : List Bool := (List.range w).map (bitAt a)
theorem wordB_length (a : Int) (w : Nat) : (wordB a w).length = w := by simp [wordB]
theorem wordB_succ (a : Int) (w : Nat) : wordB a (w + 1) = wordB a w ++ [bitAt a w] := by simp [wordB, List.range_succ]
theorem wordB_get (a : Int) (w i : Nat) (h : i < w) : (wordB a w).getD i false = bitAt a i := by
  rw [List.getD_eq_getElem?_getD, List.getElem?_eq_getElem (by rw [wordB_length]; exact h)]
  simp [wordB]
theorem wordB_take (a : Int) (w k : Nat) (h : k ≤ w) : (wordB a w).take k = wordB a k := by
  unfold wordB
  rw [← List.map_take, List.take_range, Nat.min_eq_left h]
def wval : List Bool → Int
  | [] => 0
  | b :: r => (if b then 1 else 0) + 2 * wval r
theorem wval_bound : ∀ l : List Bool, 0 ≤ wval l ∧ wval l < 2 ^ l.length
  | [] => by simp [wval]
  | b :: r => by
    have := wval_bound r
    rw [wval, List.length_cons, Int.pow_succ]
    split <;> omega
theorem wval_append : ∀ (f g : List Bool), wval (f ++ g) = wval f + wval g * 2 ^ f.length
  | [], g => by simp [wval]
  | b :: f, g => by
    rw [List.cons_append, wval, wval, wval_append f g, List.length_cons, Int.pow_succ, Int.mul_add, ← Int.add_assoc, Int.mul_comm (2 ^ f.length) 2, Int.mul_left_comm 2 (wval g)]
theorem wval_snoc (l : List Bool) (b : Bool) : wval (l ++ [b]) = wval l + (if b then 2 ^ l.length else 0) := by
  rw [wval_append]
  cases b <;> simp [wval]
theorem wval_word (a : Int) (w : Nat) : wval (wordB a w) = a % 2 ^ w := by
  induction w with
  | zero => simp [wordB, wval]
  | succ w ih =>
    rw [wordB_succ, wval_snoc, ih, wordB_length, Int.pow_succ]
    have hp : (0 : Int) < 2 ^ w := Int.pow_pos (by omega)
    have e1 := Int.emod_add_mul_ediv a (2 ^ w)
    have e2 := Int.emod_add_mul_ediv a (2 ^ w * 2)
    have e3 : a / (2 ^ w * 2) = a / 2 ^ w / 2 := (Int.ediv_ediv_of_nonneg (by omega)).symm
    have e4 : a % (2 ^ w * 2) = a % 2 ^ w + 2 ^ w * (a / 2 ^ w % 2) := by
      have h1 : a / 2 ^ w = 2 * (a / 2 ^ w / 2) + a / 2 ^ w % 2 := by omega
      have h2 : a % (2 ^ w * 2) = a - 2 ^ w * 2 * (a / 2 ^ w / 2) := by rw [← e3]; omega
      have h3 : 2 ^ w * (a / 2 ^ w) = 2 ^ w * 2 * (a / 2 ^ w / 2) + 2 ^ w * (a / 2 ^ w % 2) := by
        conv => lhs; rw [h1]
        rw [Int.mul_add, Int.mul_assoc]
      omega
    rw [e4]
    unfold bitAt
    have hm : a / 2 ^ w % 2 = 0 ∨ a / 2 ^ w % 2 = 1 := by omega
    rcases hm with hm | hm <;> simp [hm]
end Go.Proofs.YtkceplamaocmmaaGreatDoor
namespace Go.Proofs.YtkceplamaocmmaaGreatDoor
set_option linter.unusedVariables false
open Go.RowKit
def IsW (w : World) (v : Value) (bs : List Bool) : Prop :=
  ∃ g cap, v = .slice (some ⟨g, 0, none⟩) bs.length cap ∧ bs.length ≤ cap ∧ cap ≤ maxLen ∧ g < w.heap.size ∧ ∀ i, i < bs.length → w.cell? ⟨g, i, none⟩ = some (.bool (bs.getD i false))
theorem IsW.below {w w' : World} {v : Value} {bs : List Bool} (h : IsW w v bs) (hb : Below w.heap.size w w') : IsW w' v bs := by
  obtain ⟨g, cap, h1, h2, h3, h4, h5⟩ := h
  refine ⟨g, cap, h1, h2, h3, Nat.lt_of_lt_of_le h4 hb.size, fun i hi => ?_⟩
  rw [hb.cell (p := ⟨g, i, none⟩) h4]
  exact h5 i hi
theorem isW_own {w : World} {base : Nat} {e : TypeId} {v : Value} {bs : List Bool} (h : w.ownsRow base e 1 v bs.length (bs.map Value.bool)) (hp : 0 < bs.length) : IsW w v bs := by
  have hc := fun g hg => World.ownsRow.cells h (g := g) hg
  have hlt := h.lt
  obtain ⟨hl, h2⟩ := h
  rcases h2 with ⟨_, h0⟩ | ⟨g, cap, cur, rfl, hb, hg, hle, hcap, hcs, htk⟩
  · omega
  · refine ⟨g, cap, rfl, hle, hcap, (hlt g rfl).2, fun i hi => ?_⟩
    have := hc g rfl i (.bool (bs.getD i false)) (by simp [List.getElem?_eq_getElem hi])
    have hadd : (⟨g, 0, none⟩ : Addr).add i = ⟨g, i, none⟩ := by unfold Addr.add; split <;> simp_all
    rw [hadd] at this
    exact this
theorem Tryz.infoBool : (Tryz.prog.info? 4).map (fun i => (i.zero, i.size, i.bytes)) = some (some (.bool false), 1, 1) := by kernel_rfl
theorem and1_i64 (n : Int) : bits .and .i64 n 1 = n % 2 := by
  have h1 : (BitVec.ofInt 64 1).toNat = 2 ^ 1 - 1 := by decide
  have key : (BitVec.ofInt 64 n &&& BitVec.ofInt 64 1).toNat = (n % ((2 ^ 64 : Nat) : Int)).toNat % 2 ^ 1 := by
    rw [BitVec.toNat_and, BitVec.toNat_ofInt, h1, Nat.and_two_pow_sub_one_eq_mod]
  show IntKind.i64.wrap ((BitVec.ofInt 64 n &&& BitVec.ofInt 64 1).toNat : Nat) = n % 2
  rw [key, IntKind.wrap_i64]
  omega
theorem wordOf_any (a : Int) (W : Nat) (hW1 : 1 ≤ W) (hW : W ≤ 64) (w : World) :
    Calls Tryz.prog 36 #[.int .i64 a, .int .i64 W] w fun e w' => ∃ v, e = .returned v ∧ IsW w' v (wordB a W) ∧ Below w.heap.size w w' := by
  obtain ⟨i0, hi, hz0, hz1, hz2⟩ := info_parts Tryz.infoBool
  go_enter Tryz.func36, Tryz.ntmps36
  go_wp2
  go_loopw [5, 8] (fun v i wr => ∃ k : Nat, i = .int .i64 k ∧ k ≤ W ∧ wr.ownsRow w.heap.size 4 1 v k ((wordB a k).map Value.bool) ∧ Below w.heap.size w wr) (fun _ i _ => W - (intOf i).toNat)
  case atStart => exact ⟨0, rfl, by omega, World.ownsRow_nil _ _ _ _, Below.refl _ _⟩
  case round =>
    obtain ⟨k, rfl, hk, hown, hnx⟩ := hrel
    have hsz := hnx.size
    by_cases hlt : k < W
    · have hand := and1_i64 (a / 2 ^ k)
      go_wp2_with (at_builtin; refine wpList_append_own _ rfl _ _ 74 rfl w.heap.size 4 i0 (.bool false) 1 1 Tryz.underlying74 hi hz0 hz1 hz2 rfl (by decide) _ _ _ rfl (hown.alloc _) ⟨_, 0, none⟩ 1 1 [.bool (a / 2 ^ k % 2 == 1)] rfl rfl ?c1 ?c2 ?c3 ?c4 ?c5 ?_)
      case c1 => exact cell_one_new _ _ _
      case c2 => intro u hu; simp at hu; subst hu; rfl
      case c3 => unfold maxLen; omega
      case c4 => omega
      case c5 => simp; omega
      · intro v' w1 hown' hgrow _
        have hown2 : w1.ownsRow w.heap.size 4 1 v' (k + 1) ((wordB a (k + 1)).map Value.bool) := by rw [wordB_succ, List.map_append]; exact hown'
        have hb : Below w.heap.size w w1 := (hnx.alloc (by omega) _).grown hgrow (by simp; omega) (fun j hj => (hown.lt j hj).1)
        clear hown' hgrow hown hnx hand
        go_wp2
        go_roundw
        case rel => exact ⟨k + 1, by go_num, by omega, hown2, hb⟩
        case measure => simp [intOf]; omega
    · have hkW : k = W := by omega
      subst hkW
      go_wp2
      go_ret
      exact ⟨_, rfl, isW_own (by rw [wordB_length]; exact hown) (by rw [wordB_length]; omega), hnx⟩
theorem truth_any (b : Bool) (w : World) :
    Calls Tryz.prog 37 #[.bool b] w fun e w' => e = .returned (.int .i64 (if b then 1 else 0)) ∧ w' = w := by
  cases b
  · go_enter Tryz.func37, Tryz.ntmps37
    go_wp2
    go_ret
    exact ⟨rfl, rfl⟩
  · go_enter Tryz.func37, Tryz.ntmps37
    go_wp2
    go_ret
    exact ⟨rfl, rfl⟩
theorem ret_b {b c : Bool} (h : b = c) : Ending.returned (.bool b) = .returned (.bool c) := by rw [h]
theorem ret_i {k : IntKind} {a b : Int} (h : a = b) : Ending.returned (.int k a) = .returned (.int k b) := by rw [h]
theorem none_any (v : Value) (bs : List Bool) (w : World) (hv : IsW w v bs) :
    Calls Tryz.prog 38 #[v] w fun e w' => e = .returned (.bool (bs.all (! ·))) ∧ w' = w := by
  obtain ⟨g, cap, rfl, hcap, hmx, hg, hc⟩ := hv
  unfold maxLen at hmx
  obtain ⟨R, hR⟩ : ∃ R, bs.all (! ·) = R := ⟨_, rfl⟩
  rw [hR]
  have HR : Hid (bs.all (! ·) = R) := hR
  clear hR
  go_enter Tryz.func38, Tryz.ntmps38
  go_wp2
  go_loop [7] (fun i => ∃ k : Nat, i = .int .i64 k ∧ k ≤ bs.length ∧ Hid ((bs.drop k).all (! ·) = R)) (fun i => bs.length - (intOf i).toNat)
  case atStart => exact ⟨0, rfl, by omega, by simpa using HR⟩
  case round =>
    obtain ⟨k, rfl, hk, HK⟩ := hrel
    clear HR
    by_cases hlt : k < bs.length
    · have hcell := hc k hlt
      have hd := List.drop_eq_getElem_cons hlt
      have hgd : bs.getD k false = bs[k] := by rw [List.getD_eq_getElem?_getD, List.getElem?_eq_getElem hlt, Option.getD_some]
      cases hb : bs.getD k false with
      | true =>
        have HE : Hid (false = R) := by unfold Hid; rw [← HK.out, hd, List.all_cons, ← hgd, hb]; rfl
        rw [hb] at hcell
        clear HK hd hgd hb hc
        go_wp2
        go_ret
        exact ⟨ret_b HE.out, rfl⟩
      | false =>
        have HE : Hid ((bs.drop (k + 1)).all (! ·) = R) := by unfold Hid; rw [← HK.out, hd, List.all_cons, ← hgd, hb]; rfl
        rw [hb] at hcell
        clear HK hd hgd hb hc
        go_wp2
        go_round
        case rel => exact ⟨k + 1, by go_num, by omega, HE⟩
        case measure => simp [intOf]; omega
    · have HE : Hid (true = R) := by unfold Hid; rw [← HK.out, List.drop_eq_nil_of_le (by omega)]; rfl
      clear HK hc
      go_wp2
      go_ret
      exact ⟨ret_b HE.out, rfl⟩
end Go.Proofs.YtkceplamaocmmaaGreatDoor
namespace Go.Proofs.YtkceplamaocmmaaGreatDoor
set_option linter.unusedVariables false
open Go.RowKit
theorem wrap64_val (x : Int) : wrap64 x = (x + 9223372036854775808) % 18446744073709551616 - 9223372036854775808 := by unfold wrap64; rfl
theorem pow2_le (k j : Nat) (h : k ≤ j) : (2 : Int) ^ k ≤ 2 ^ j := by exact_mod_cast Nat.pow_le_pow_right (by omega : 0 < 2) h
theorem pow2_63 (k : Nat) (h : k ≤ 63) : (2 : Int) ^ k ≤ 9223372036854775808 := pow2_le k 63 h
theorem pow2_pos (k : Nat) : (0 : Int) < 2 ^ k := Int.pow_pos (by omega)
theorem or_bit (m : Int) (k : Nat) (hk : k ≤ 63) (h0 : 0 ≤ m) (h1 : m < 2 ^ k) : bits .or .i64 m (wrap64 (2 ^ k)) = wrap64 (m + 2 ^ k) := by
  have hp := pow2_63 k hk
  have hp0 := pow2_pos k
  have e1 : (BitVec.ofInt 64 m).toNat = m.toNat := by
    rw [BitVec.toNat_ofInt]
    have : m % ((2 ^ 64 : Nat) : Int) = m := Int.emod_eq_of_lt h0 (by omega)
    rw [this]
  have e2 : (BitVec.ofInt 64 (wrap64 (2 ^ k))).toNat = 2 ^ k := by
    rw [BitVec.toNat_ofInt, wrap64_val]
    have : (((2 : Int) ^ k + 9223372036854775808) % 18446744073709551616 - 9223372036854775808) % ((2 ^ 64 : Nat) : Int) = 2 ^ k := by omega
    rw [this]
    have : (2 : Int) ^ k = ((2 ^ k : Nat) : Int) := by rw [Int.natCast_pow]; rfl
    rw [this, Int.toNat_natCast]
  have key : (BitVec.ofInt 64 m ||| BitVec.ofInt 64 (wrap64 (2 ^ k))).toNat = 2 ^ k + m.toNat := by
    rw [BitVec.toNat_or, e1, e2, Nat.or_comm]
    have hm : m.toNat < 2 ^ k := by
      have : (m.toNat : Int) < ((2 ^ k : Nat) : Int) := by rw [Int.toNat_of_nonneg h0, Int.natCast_pow]; exact h1
      omega
    have := Nat.two_pow_add_eq_or_of_lt hm 1
    rw [Nat.mul_one] at this
    exact this.symm
  show IntKind.i64.wrap ((BitVec.ofInt 64 m ||| BitVec.ofInt 64 (wrap64 (2 ^ k))).toNat : Nat) = _
  rw [key, IntKind.wrap_i64, wrap64_val, Int.natCast_add, Int.toNat_of_nonneg h0, Int.natCast_pow]
  rw [show ((2 : Nat) : Int) = 2 from rfl, Int.add_comm (2 ^ k) m]
def wsgn (bs : List Bool) : Int := wval bs - (if bs.getD (bs.length - 1) false then 2 ^ bs.length else 0)
theorem take_succ_snoc (bs : List Bool) (k : Nat) (h : k < bs.length) : bs.take (k + 1) = bs.take k ++ [bs.getD k false] := by
  rw [List.take_succ_eq_append_getElem h, List.getD_eq_getElem?_getD, List.getElem?_eq_getElem h, Option.getD_some]
theorem wval_top (bs : List Bool) (h : 1 ≤ bs.length) : wval bs = wval (bs.take (bs.length - 1)) + (if bs.getD (bs.length - 1) false then 2 ^ (bs.length - 1) else 0) := by
  have e := take_succ_snoc bs (bs.length - 1) (by omega)
  rw [show bs.length - 1 + 1 = bs.length from by omega, List.take_length] at e
  conv => lhs; rw [e]
  rw [wval_snoc, List.length_take, Nat.min_eq_left (by omega)]
theorem wsgn_64 (bs : List Bool) (h : bs.length = 64) : wrap64 (wval bs) = wsgn bs := by
  have e := wval_top bs (by omega)
  have hb := wval_bound (bs.take (bs.length - 1))
  rw [List.length_take, Nat.min_eq_left (by omega)] at hb
  cases hc : bs.getD (bs.length - 1) false with
  | true =>
    rw [hc] at e
    rw [wsgn, hc, wrap64_val]
    rw [h] at e hb ⊢
    simp only [if_true] at e ⊢
    omega
  | false =>
    rw [hc] at e
    rw [wsgn, hc, wrap64_val]
    rw [h] at e hb
    simp only [Bool.false_eq_true, if_false, Int.add_zero, Int.sub_zero] at e ⊢
    omega
theorem wsgn_less (bs : List Bool) (h1 : 1 ≤ bs.length) (h : bs.length ≤ 63) (hc : bs.getD (bs.length - 1) false = true) : wrap64 (wval bs - wrap64 (2 ^ bs.length)) = wsgn bs := by
  have e := wval_top bs h1
  rw [hc] at e
  have hb := wval_bound (bs.take (bs.length - 1))
  rw [List.length_take, Nat.min_eq_left (by omega)] at hb
  have hp := pow2_63 bs.length h
  have hs : (2 : Int) ^ bs.length = 2 ^ (bs.length - 1) * 2 := by rw [← Int.pow_succ]; congr 1; omega
  rw [wsgn, hc, wrap64_val, wrap64_val]
  simp only [if_true] at e ⊢
  omega
theorem wsgn_plus (bs : List Bool) (hc : bs.getD (bs.length - 1) false = false) : wval bs = wsgn bs := by
  rw [wsgn, hc]; simp
theorem value_any (v : Value) (bs : List Bool) (w : World) (hv : IsW w v bs) (h1 : 1 ≤ bs.length) (h64 : bs.length ≤ 64) :
    Calls Tryz.prog 40 #[v] w fun e w' => e = .returned (.int .i64 (wsgn bs)) ∧ w' = w := by
  obtain ⟨g, cap, rfl, hcap, hmx, hg, hc⟩ := hv
  unfold maxLen at hmx
  obtain ⟨R, hR⟩ : ∃ R, wsgn bs = R := ⟨_, rfl⟩
  rw [hR]
  have HR : Hid (wsgn bs = R) := hR
  clear hR
  go_enter Tryz.func40, Tryz.ntmps40
  go_wp2
  go_loop [3, 8] (fun t i => ∃ k : Nat, ∃ n : Int, i = .int .i64 k ∧ t = .int .i64 n ∧ k ≤ bs.length ∧ -9223372036854775808 ≤ n ∧ n ≤ 9223372036854775807 ∧ Hid (n = wrap64 (wval (bs.take k)))) (fun _ i => bs.length - (intOf i).toNat)
  case atStart => exact ⟨0, 0, rfl, rfl, by omega, by omega, by omega, by unfold Hid; rw [List.take_zero, wrap64_val]; rfl⟩
  case round =>
    obtain ⟨k, n, rfl, rfl, hk, hn1, hn2, HN⟩ := hrel
    by_cases hlt : k < bs.length
    · have hcell := hc k hlt
      have hbd := wval_bound (bs.take k)
      rw [List.length_take, Nat.min_eq_left (by omega)] at hbd
      have hp := pow2_63 k (by omega)
      have hs := take_succ_snoc bs k hlt
      have hnv : n = wval (bs.take k) := by rw [HN.out, wrap64_val]; omega
      cases hb : bs.getD k false with
      | true =>
        have HE : Hid (bits BinOp.or IntKind.i64 n (wrap64 (2 ^ k)) = wrap64 (wval (bs.take (k + 1)))) := by
          unfold Hid
          rw [hs, hb, wval_snoc, List.length_take, Nat.min_eq_left (by omega), hnv, or_bit _ k (by omega) hbd.1 hbd.2]; rfl
        have HB1 : Hid (-9223372036854775808 ≤ wrap64 (wval (bs.take (k + 1)))) := by unfold Hid; rw [wrap64_val]; omega
        have HB2 : Hid (wrap64 (wval (bs.take (k + 1))) ≤ 9223372036854775807) := by unfold Hid; rw [wrap64_val]; omega
        rw [hb] at hcell
        clear hc hb hbd hp hs hnv HN
        go_wp2
        go_round
        case rel => exact ⟨k + 1, _, by go_num, rfl, by omega, by rw [HE.out]; exact HB1, by rw [HE.out]; exact HB2, HE⟩
        case measure => simp [intOf]; omega
      | false =>
        have HE : Hid (n = wrap64 (wval (bs.take (k + 1)))) := by
          unfold Hid
          rw [hs, hb, wval_snoc, HN.out]; simp
        rw [hb] at hcell
        clear hc hb hbd hp hs hnv HN
        go_wp2
        go_round
        case rel => exact ⟨k + 1, n, by go_num, rfl, by omega, hn1, hn2, HE⟩
        case measure => simp [intOf]; omega
    · have hkk : k = bs.length := by omega
      subst hkk
      have hcell := hc (bs.length - 1) (by omega)
      have HN2 : Hid (n = wrap64 (wval bs)) := by unfold Hid; rw [HN.out, List.take_length]
      have hbd := wval_bound bs
      by_cases h63 : (bs.length : Int) < 64
      · have hp := pow2_63 bs.length (by omega)
        have hnv : Hid (n = wval bs) := by unfold Hid; rw [HN2.out, wrap64_val]; omega
        cases hb : bs.getD (bs.length - 1) false with
        | true =>
          have HE : Hid (wrap64 (n - wrap64 (2 ^ bs.length)) = R) := by unfold Hid; rw [hnv.out, wsgn_less bs h1 (by omega) hb]; exact HR
          rw [hb] at hcell
          clear hc hb hbd hp hnv HN HN2
          go_wp2
          go_ret
          exact ⟨ret_i HE.out, rfl⟩
        | false =>
          have HE : Hid (n = R) := by unfold Hid; rw [hnv.out, wsgn_plus bs hb]; exact HR
          rw [hb] at hcell
          clear hc hb hbd hp hnv HN HN2
          go_wp2
          go_ret
          exact ⟨ret_i HE.out, rfl⟩
      · have HE : Hid (n = R) := by unfold Hid; rw [HN2.out, wsgn_64 bs (by omega)]; exact HR
        clear hc hbd HN HN2 hcell
        go_wp2
        go_ret
        exact ⟨ret_i HE.out, rfl⟩
theorem plainW_any (v : Value) (bs : List Bool) (w : World) (hv : IsW w v bs) (h64 : bs.length ≤ 64) :
    Calls Tryz.prog 41 #[v] w fun e w' => e = .returned (.int .u64 (wval bs)) ∧ w' = w := by
  obtain ⟨g, cap, rfl, hcap, hmx, hg, hc⟩ := hv
  unfold maxLen at hmx
  go_enter Tryz.func41, Tryz.ntmps41
  go_wp2
  go_loop [3, 4] (fun t i => ∃ j : Nat, ∃ n : Int, i = .int .i64 ((j : Int) - 1) ∧ t = .int .u64 n ∧ j ≤ bs.length ∧ 0 ≤ n ∧ n < 2 ^ (bs.length - j) ∧ Hid (wval (bs.drop j) = n)) (fun _ i => (intOf i + 1).toNat)
  case atStart => exact ⟨bs.length, 0, rfl, rfl, by omega, by omega, by simp, by unfold Hid; rw [List.drop_length]; rfl⟩
  case round =>
    obtain ⟨j, n, rfl, rfl, hj, hn1, hn2, HN⟩ := hrel
    cases j with
    | zero =>
      have HE : Hid (n = wval bs) := by unfold Hid; rw [← HN.out, List.drop_zero]
      clear HN hc
      go_wp2
      go_ret
      exact ⟨ret_i HE.out, rfl⟩
    | succ j =>
      have e : (((j + 1 : Nat) : Int) - 1) = (j : Int) := by omega
      rw [e]
      have hlt : j < bs.length := by omega
      have hcell := hc j hlt
      have hd := List.drop_eq_getElem_cons hlt
      have hgd : bs.getD j false = bs[j] := by rw [List.getD_eq_getElem?_getD, List.getElem?_eq_getElem hlt, Option.getD_some]
      have hp := pow2_63 (bs.length - (j + 1)) (by omega)
      have hps : (2 : Int) ^ (bs.length - j) = 2 ^ (bs.length - (j + 1)) * 2 := by rw [← Int.pow_succ]; congr 1; omega
      have hn3 : n < 9223372036854775808 := by omega
      cases hb : bs.getD j false with
      | true =>
        have HE : Hid (wval (bs.drop j) = n * 2 + 1) := by unfold Hid; rw [hd, wval, ← hgd, hb, HN.out]; simp; omega
        have HP : Hid (n * 2 + 1 < 2 ^ (bs.length - j)) := by unfold Hid; rw [hps]; omega
        rw [hb] at hcell
        clear hc hb hd hgd hp hps HN e
        go_wp2
        go_round
        case rel => exact ⟨j, _, rfl, rfl, by omega, by omega, HP.out, HE⟩
        case measure => simp [intOf]
      | false =>
        have HE : Hid (wval (bs.drop j) = n * 2) := by unfold Hid; rw [hd, wval, ← hgd, hb, HN.out]; simp; omega
        have HP : Hid (n * 2 < 2 ^ (bs.length - j)) := by unfold Hid; rw [hps]; omega
        rw [hb] at hcell
        clear hc hb hd hgd hp hps HN e
        go_wp2
        go_round
        case rel => exact ⟨j, _, rfl, rfl, by omega, by omega, HP.out, HE⟩
        case measure => simp [intOf]
end Go.Proofs.YtkceplamaocmmaaGreatDoor
namespace Go.Proofs.YtkceplamaocmmaaGreatDoor
set_option linter.unusedVariables false
open Go.RowKit
def tz : List Bool → Nat
  | [] => 0
  | true :: _ => 0
  | false :: r => tz r + 1
theorem tz_le : ∀ l : List Bool, tz l ≤ l.length
  | [] => by simp [tz]
  | true :: _ => by simp [tz]
  | false :: r => by have := tz_le r; simp [tz]; omega
def ones : List Bool → Nat
  | [] => 0
  | b :: r => (if b then 1 else 0) + ones r
theorem ones_append : ∀ f g : List Bool, ones (f ++ g) = ones f + ones g
  | [], g => by simp [ones]
  | b :: f, g => by rw [List.cons_append, ones, ones, ones_append f g]; omega
theorem countUp_any (v : Value) (bs : List Bool) (w : World) (hv : IsW w v bs) (h64 : bs.length ≤ 64) :
    Calls Tryz.prog 39 #[v, .int .i64 0, .int .i64 1, .bool true] w fun e w' => e = .returned (.int .i64 (tz bs)) ∧ w' = w := by
  obtain ⟨g, cap, rfl, hcap, hmx, hg, hc⟩ := hv
  unfold maxLen at hmx
  obtain ⟨R, hR⟩ : ∃ R, tz bs = R := ⟨_, rfl⟩
  rw [hR]
  have HR : Hid (tz bs = R) := hR
  clear hR
  go_enter Tryz.func39, Tryz.ntmps39
  go_wp2
  go_loop [9, 10] (fun t i => ∃ k : Nat, i = .int .i64 k ∧ t = .int .i64 k ∧ k ≤ bs.length ∧ Hid (k + tz (bs.drop k) = R)) (fun _ i => bs.length - (intOf i).toNat)
  case atStart => exact ⟨0, rfl, rfl, by omega, by unfold Hid; rw [List.drop_zero, Nat.zero_add]; exact HR⟩
  case round =>
    obtain ⟨k, rfl, rfl, hk, HK⟩ := hrel
    clear HR
    by_cases hlt : k < bs.length
    · have hcell := hc k hlt
      have hd := List.drop_eq_getElem_cons hlt
      have hgd : bs.getD k false = bs[k] := by rw [List.getD_eq_getElem?_getD, List.getElem?_eq_getElem hlt, Option.getD_some]
      cases hb : bs.getD k false with
      | true =>
        have HE : Hid (k = R) := by unfold Hid; rw [← HK.out, hd, ← hgd, hb]; rfl
        rw [hb] at hcell
        clear HK hd hgd hb hc
        go_wp2
        go_ret
        exact ⟨ret_i (by rw [HE.out]), rfl⟩
      | false =>
        have HE : Hid (k + 1 + tz (bs.drop (k + 1)) = R) := by unfold Hid; rw [← HK.out, hd, ← hgd, hb, tz]; omega
        rw [hb] at hcell
        clear HK hd hgd hb hc
        go_wp2
        go_round
        case rel => exact ⟨k + 1, by go_num, by go_num, by omega, HE⟩
        case measure => simp [intOf]; omega
    · have HE : Hid (k = R) := by unfold Hid; rw [← HK.out, List.drop_eq_nil_of_le (by omega)]; rfl
      clear HK hc
      go_wp2
      go_ret
      exact ⟨ret_i (by rw [HE.out]), rfl⟩
theorem countDown_any (v : Value) (bs : List Bool) (w : World) (hv : IsW w v bs) (h64 : bs.length ≤ 64) :
    Calls Tryz.prog 39 #[v, .int .i64 ((bs.length : Int) - 1), .int .i64 (-1), .bool true] w fun e w' => e = .returned (.int .i64 (tz bs.reverse)) ∧ w' = w := by
  obtain ⟨g, cap, rfl, hcap, hmx, hg, hc⟩ := hv
  unfold maxLen at hmx
  obtain ⟨R, hR⟩ : ∃ R, tz bs.reverse = R := ⟨_, rfl⟩
  rw [hR]
  have HR : Hid (tz bs.reverse = R) := hR
  clear hR
  go_enter Tryz.func39, Tryz.ntmps39
  go_wp2
  go_loop [9, 10] (fun t i => ∃ j k : Nat, i = .int .i64 ((j : Int) - 1) ∧ t = .int .i64 k ∧ j + k = bs.length ∧ Hid (k + tz (bs.reverse.drop k) = R)) (fun _ i => (intOf i + 1).toNat)
  case atStart => exact ⟨bs.length, 0, rfl, rfl, by omega, by unfold Hid; rw [List.drop_zero, Nat.zero_add]; exact HR⟩
  case round =>
    obtain ⟨j, k, rfl, rfl, hjk, HK⟩ := hrel
    clear HR
    have hjk1 : j ≤ bs.length := by omega
    have hjk2 : k ≤ 64 := by omega
    cases j with
    | succ j =>
      have e : (((j + 1 : Nat) : Int) - 1) = (j : Int) := by omega
      rw [e]
      have hlt : j < bs.length := by omega
      have hcell := hc j hlt
      have hkr : k < bs.reverse.length := by rw [List.length_reverse]; omega
      have hd := List.drop_eq_getElem_cons hkr
      have hgd : bs.getD j false = bs.reverse[k] := by
        rw [List.getD_eq_getElem?_getD, List.getElem?_eq_getElem hlt, Option.getD_some, List.getElem_reverse]
        congr 1; omega
      have HJ : Hid _ := hjk
      clear hjk
      cases hb : bs.getD j false with
      | true =>
        have HE : Hid (k = R) := by unfold Hid; rw [← HK.out, hd, ← hgd, hb]; rfl
        rw [hb] at hcell
        clear HK hd hgd hb hc
        go_wp2
        go_ret
        exact ⟨ret_i (by rw [HE.out]), rfl⟩
      | false =>
        have HE : Hid (k + 1 + tz (bs.reverse.drop (k + 1)) = R) := by unfold Hid; rw [← HK.out, hd, ← hgd, hb, tz]; omega
        rw [hb] at hcell
        clear HK hd hgd hb hc e
        go_wp2
        go_round
        case rel => exact ⟨j, k + 1, by go_num, by go_num, by have := HJ.out; omega, HE⟩
        case measure => simp [intOf]; omega
    | zero =>
      have HE : Hid (k = R) := by unfold Hid; rw [← HK.out, List.drop_eq_nil_of_le (by rw [List.length_reverse]; omega)]; rfl
      clear HK hc hjk
      go_wp2
      go_ret
      exact ⟨ret_i (by rw [HE.out]), rfl⟩
theorem word_isW_len {w : World} {v : Value} {a : Int} {W : Nat} (h : IsW w v (wordB a W)) : ∃ g cap, v = .slice (some ⟨g, 0, none⟩) W cap := by
  obtain ⟨g, cap, h1, _⟩ := h
  rw [wordB_length] at h1
  exact ⟨g, cap, h1⟩
theorem wordOf_32 (a : Int) (w : World) : Calls Tryz.prog 36 #[.int .i64 a, .int .i64 32] w fun e w' => ∃ v, e = .returned v ∧ IsW w' v (wordB a 32) ∧ Below w.heap.size w w' := wordOf_any a 32 (by omega) (by omega) w
theorem wordOf_64 (a : Int) (w : World) : Calls Tryz.prog 36 #[.int .i64 a, .int .i64 64] w fun e w' => ∃ v, e = .returned v ∧ IsW w' v (wordB a 64) ∧ Below w.heap.size w w' := wordOf_any a 64 (by omega) (by omega) w
def cutS (a : Int) (W : Nat) : Int := wsgn (wordB a W)
end Go.Proofs.YtkceplamaocmmaaGreatDoor
namespace Go.Proofs.YtkceplamaocmmaaGreatDoor
set_option linter.unusedVariables false
open Go.RowKit
theorem wval_at (bs : List Bool) (j : Nat) (h : j < bs.length) : wval bs = wval (bs.take j) + (if bs.getD j false then 2 ^ j else 0) + wval (bs.drop (j + 1)) * 2 ^ (j + 1) := by
  conv => lhs; rw [← List.take_append_drop (j + 1) bs]
  rw [wval_append, take_succ_snoc bs j h, wval_snoc, List.length_append, List.length_take, Nat.min_eq_left (by omega)]; rfl
theorem less_at (bs cs : List Bool) (j : Nat) (h : j < bs.length) (h' : j < cs.length) (hd : bs.drop (j + 1) = cs.drop (j + 1)) (x y : Bool) (hx : bs.getD j false = x) (hy : cs.getD j false = y) (hne : x ≠ y) : decide (wval bs < wval cs) = y := by
  have e1 := wval_at bs j h
  have e2 := wval_at cs j h'
  have b1 := wval_bound (bs.take j)
  have b2 := wval_bound (cs.take j)
  rw [List.length_take, Nat.min_eq_left (by omega)] at b1 b2
  rw [hx] at e1
  rw [hy, ← hd] at e2
  cases x <;> cases y
  · exact absurd rfl hne
  · simp only [Bool.false_eq_true, if_false, if_true] at e1 e2
    rw [decide_eq_true_iff]; omega
  · simp only [Bool.false_eq_true, if_false, if_true] at e1 e2
    rw [decide_eq_false_iff_not]; omega
  · exact absurd rfl hne
theorem less_any (u v : Value) (bs cs : List Bool) (w : World) (hu : IsW w u bs) (hv : IsW w v cs) (hl : cs.length = bs.length) (h65 : bs.length ≤ 65) :
    Calls Tryz.prog 60 #[u, v] w fun e w' => e = .returned (.bool (decide (wval bs < wval cs))) ∧ Below w.heap.size w w' := by
  obtain ⟨g, cap, rfl, hcap, hmx, hg, hc⟩ := hu
  obtain ⟨g', cap', rfl, hcap', hmx', hg', hc'⟩ := hv
  rw [hl] at hcap' hc' ⊢
  unfold maxLen at hmx hmx'
  obtain ⟨L, hL⟩ : ∃ L, bs.length = L := ⟨_, rfl⟩
  rw [hL] at hcap hc hcap' hc' h65 ⊢
  have HLc : Hid (cs.length = L) := by unfold Hid; rw [hl, hL]
  have HL : Hid (bs.length = L) := hL
  clear hL hl
  obtain ⟨R, hR⟩ : ∃ R, decide (wval bs < wval cs) = R := ⟨_, rfl⟩
  rw [hR]
  have HR : Hid (decide (wval bs < wval cs) = R) := hR
  clear hR
  go_enter Tryz.func60, Tryz.ntmps60
  go_wp2
  go_loopw [5] (fun i wr => ∃ j : Nat, i = .int .i64 ((j : Int) - 1) ∧ j ≤ L ∧ Hid (bs.drop j = cs.drop j) ∧ Below w.heap.size w wr) (fun i _ => (intOf i + 1).toNat)
  case atStart => exact ⟨L, rfl, by omega, by unfold Hid; rw [List.drop_eq_nil_of_le (by rw [HL.out]; omega), List.drop_eq_nil_of_le (by rw [HLc.out]; omega)], Below.refl _ _⟩
  case round =>
    obtain ⟨j, rfl, hj, HD, hnx⟩ := hrel
    cases j with
    | zero =>
      have HE : Hid (false = R) := by unfold Hid; rw [← HR.out]; have := HD.out; rw [List.drop_zero, List.drop_zero] at this; rw [this]; simp
      clear hc hc' HD
      go_wp2
      go_ret
      exact ⟨ret_b HE.out, hnx⟩
    | succ j =>
      have e : (((j + 1 : Nat) : Int) - 1) = (j : Int) := by omega
      rw [e]
      have hlt : j < L := by omega
      have hlti : (j : Int) < (L : Int) := by omega
      have hcell : wr.cell? ⟨g, j, none⟩ = some (.bool (bs.getD j false)) := (hnx.cell (p := ⟨g, j, none⟩) hg).trans (hc j hlt)
      have hcell' : wr.cell? ⟨g', j, none⟩ = some (.bool (cs.getD j false)) := (hnx.cell (p := ⟨g', j, none⟩) hg').trans (hc' j hlt)
      obtain ⟨x, hx⟩ : ∃ x, bs.getD j false = x := ⟨_, rfl⟩
      obtain ⟨y, hy⟩ : ∃ y, cs.getD j false = y := ⟨_, rfl⟩
      have HX : Hid _ := hx
      have HY : Hid _ := hy
      rw [hx] at hcell
      rw [hy] at hcell'
      clear hx hy hc hc' e
      by_cases hxy : x = y
      · have HN : Hid (bs.drop j = cs.drop j) := by
          unfold Hid
          have a1 : bs.drop j = bs.getD j false :: bs.drop (j + 1) := by rw [List.drop_eq_getElem_cons (by rw [HL.out]; exact hlt), List.getD_eq_getElem?_getD, List.getElem?_eq_getElem (by rw [HL.out]; exact hlt), Option.getD_some]
          have a2 : cs.drop j = cs.getD j false :: cs.drop (j + 1) := by rw [List.drop_eq_getElem_cons (by rw [HLc.out]; exact hlt), List.getD_eq_getElem?_getD, List.getElem?_eq_getElem (by rw [HLc.out]; exact hlt), Option.getD_some]
          rw [a1, a2, HX.out, HY.out, HD.out, hxy]
        subst hxy
        clear HX HY HD
        cases x
        all_goals
          go_wp2
          go_quiet (fail)
          go_wp2
          go_roundw
          case rel => exact ⟨j, by go_num, by omega, HN, below_drewN hnx _⟩
          case measure => simp [intOf]
      · have HE : Hid (y = R) := by unfold Hid; rw [← HR.out]; exact (less_at bs cs j (by rw [HL.out]; exact hlt) (by rw [HLc.out]; exact hlt) HD.out x y HX.out HY.out hxy).symm
        clear HX HY HD
        cases x <;> cases y
        case false.false => exact absurd rfl hxy
        case true.true => exact absurd rfl hxy
        all_goals
          clear hxy
          go_wp2
          go_quiet (fail)
          go_wp2
          go_ret
          exact ⟨ret_b HE.out, below_drewN hnx _⟩
end Go.Proofs.YtkceplamaocmmaaGreatDoor
namespace Go.Proofs.YtkceplamaocmmaaGreatDoor
set_option linter.unusedVariables false
theorem split_ways (B C b r q : Int) (hC : 0 < C) (hr : r = B % C) (hq : q = B / C) (hb : b = 0 ∨ b = 1) :
    (2 * r + b < C → (b + 2 * B) % C = 2 * r + b ∧ (b + 2 * B) / C = 2 * q) ∧ (¬ 2 * r + b < C → (b + 2 * B) % C = 2 * r + b - C ∧ (b + 2 * B) / C = 2 * q + 1) := by
  have e := Int.emod_add_mul_ediv B C
  have b0 := Int.emod_nonneg B (show C ≠ 0 by omega)
  have b1 := Int.emod_lt_of_pos B hC
  rw [← hr] at b0 b1
  rw [← hr, ← hq] at e
  have e2 : b + 2 * B = 2 * r + b + C * (2 * q) := by rw [Int.mul_left_comm, ← e, Int.mul_add]; omega
  constructor
  · intro h
    rw [e2, Int.add_mul_emod_self_left, Int.add_mul_ediv_left _ _ (by omega), Int.emod_eq_of_lt (by omega) h, Int.ediv_eq_zero_of_lt (by omega) h]
    exact ⟨rfl, by omega⟩
  · intro h
    have e3 : 2 * r + b + C * (2 * q) = 2 * r + b - C + C * (2 * q + 1) := by rw [Int.mul_add, Int.mul_one]; omega
    rw [e2, e3, Int.add_mul_emod_self_left, Int.add_mul_ediv_left _ _ (by omega), Int.emod_eq_of_lt (by omega) (by omega), Int.ediv_eq_zero_of_lt (by omega) (by omega)]
    exact ⟨rfl, by omega⟩
theorem wval_take_small (l : List Bool) (k : Nat) (hk : k ≤ l.length) (h : wval l < 2 ^ k) : wval (l.take k) = wval l := by
  have e : wval l = wval (l.take k) + wval (l.drop k) * 2 ^ k := by
    conv => lhs; rw [← List.take_append_drop k l]
    rw [wval_append, List.length_take, Nat.min_eq_left hk]
  have b1 := wval_bound (l.take k)
  have b2 := wval_bound (l.drop k)
  have hz : wval (l.drop k) = 0 := by
    rcases Int.lt_or_le 0 (wval (l.drop k)) with h0 | h0
    · have : 1 * (2 : Int) ^ k ≤ wval (l.drop k) * 2 ^ k := Int.mul_le_mul_of_nonneg_right (by omega) (Int.le_of_lt (Int.pow_pos (by omega)))
      omega
    · omega
  rw [e, hz, Int.zero_mul, Int.add_zero]
theorem wval_not : ∀ l : List Bool, wval (l.map (! ·)) = 2 ^ l.length - 1 - wval l
  | [] => by simp [wval]
  | b :: l => by
    rw [List.map_cons, wval, wval_not l, List.length_cons, Int.pow_succ, wval]
    cases b <;> simp <;> omega
theorem wval_bit (b : Bool) : (if b = true then (1 : Int) else 0) = 0 ∨ (if b = true then (1 : Int) else 0) = 1 := by cases b <;> simp
structure SplitAt (L : Nat) (bs : List Bool) (C : Int) (j : Nat) (rs qs : List Bool) : Prop where
  rl : rs.length = L + 1
  ql : qs.length = L
  r : wval rs = wval (bs.drop j) % C
  low : qs.take j = List.replicate j false
  q : wval (qs.drop j) = wval (bs.drop j) / C
theorem SplitAt.start (L : Nat) (bs : List Bool) (C : Int) (hb : bs.length = L) : SplitAt L bs C L (List.replicate (L + 1) false) (List.replicate L false) := by
  have z : ∀ n : Nat, wval (List.replicate n false) = 0 := by
    intro n
    induction n with
    | zero => rfl
    | succ n ih => rw [List.replicate_succ, wval, ih]; rfl
  refine ⟨by simp, by simp, ?_, by simp, ?_⟩
  · rw [z, List.drop_eq_nil_of_le (by omega)]; simp [wval]
  · rw [List.drop_eq_nil_of_le («as» := List.replicate L false) (by simp), List.drop_eq_nil_of_le («as» := bs) (by omega)]; simp [wval]
theorem drop_cons (l : List Bool) (j : Nat) (h : j < l.length) : l.drop j = l.getD j false :: l.drop (j + 1) := by
  rw [List.drop_eq_getElem_cons h, List.getD_eq_getElem?_getD, List.getElem?_eq_getElem h, Option.getD_some]
theorem SplitAt.bitq {L : Nat} {bs : List Bool} {C : Int} {j : Nat} {rs qs : List Bool} (h : SplitAt L bs C (j + 1) rs qs) : qs.getD j false = false := by
  have : (qs.take (j + 1)).getD j false = qs.getD j false := by rw [List.getD_eq_getElem?_getD, List.getElem?_take_of_lt (by omega), List.getD_eq_getElem?_getD]
  rw [← this, h.low, List.getD_eq_getElem?_getD, List.getElem?_replicate, if_pos (by omega)]; rfl
theorem SplitAt.bitr {L : Nat} {bs : List Bool} {C : Int} {j : Nat} {rs qs : List Bool} (h : SplitAt L bs C (j + 1) rs qs) (hC : 0 < C) (hCL : C < 2 ^ L) (x : Bool) : wval (x :: rs.take L) = (if x = true then 1 else 0) + 2 * wval rs := by
  rw [wval, wval_take_small rs L (by rw [h.rl]; omega)]
  have := Int.emod_lt_of_pos (wval (bs.drop (j + 1))) hC
  rw [← h.r] at this
  omega
theorem SplitAt.less {L : Nat} {bs : List Bool} {C : Int} {j : Nat} {rs qs : List Bool} (h : SplitAt L bs C (j + 1) rs qs) (hb : bs.length = L) (hj : j < L) (hC : 0 < C) (hCL : C < 2 ^ L) (hlt : wval (bs.getD j false :: rs.take L) < C) : SplitAt L bs C j (bs.getD j false :: rs.take L) qs := by
  have e := h.bitr hC hCL (bs.getD j false)
  obtain ⟨w1, _⟩ := split_ways (wval (bs.drop (j + 1))) C _ _ _ hC h.r h.q (wval_bit (bs.getD j false))
  rw [e] at hlt
  obtain ⟨a1, a2⟩ := w1 (by omega)
  have hd := drop_cons bs j (by omega)
  have hq := drop_cons qs j (by rw [h.ql]; omega)
  rw [h.bitq] at hq
  refine ⟨by simp [h.rl], h.ql, ?_, ?_, ?_⟩
  · rw [e, hd, wval, a1]; omega
  · have := congrArg (List.take j) h.low
    rw [List.take_take, Nat.min_eq_left (by omega), List.take_replicate, Nat.min_eq_left (by omega)] at this
    exact this
  · rw [hq, hd, wval, wval, a2]; simp
theorem SplitAt.more {L : Nat} {bs : List Bool} {C : Int} {j : Nat} {rs qs : List Bool} (h : SplitAt L bs C (j + 1) rs qs) (hb : bs.length = L) (hj : j < L) (hC : 0 < C) (hCL : C < 2 ^ L) (hge : ¬ wval (bs.getD j false :: rs.take L) < C) (fs : List Bool) (hfl : fs.length = L + 1) (hf : wval fs = (wval (bs.getD j false :: rs.take L) + (2 ^ (L + 1) - 1 - C) + 1) % 2 ^ (L + 1)) : SplitAt L bs C j fs (qs.set j true) := by
  have e := h.bitr hC hCL (bs.getD j false)
  obtain ⟨_, w1⟩ := split_ways (wval (bs.drop (j + 1))) C _ _ _ hC h.r h.q (wval_bit (bs.getD j false))
  rw [e] at hge hf
  obtain ⟨a1, a2⟩ := w1 (by omega)
  have hd := drop_cons bs j (by omega)
  have hr := Int.emod_lt_of_pos (wval (bs.drop (j + 1))) hC
  rw [← h.r] at hr
  have hbit := wval_bit (bs.getD j false)
  refine ⟨hfl, by simp [h.ql], ?_, ?_, ?_⟩
  · rw [hf, hd, wval, a1]
    obtain ⟨x, hx⟩ : ∃ x, (if bs.getD j false = true then (1 : Int) else 0) = x := ⟨_, rfl⟩
    rw [hx] at hge hbit ⊢
    have e3 : x + 2 * wval rs + (2 ^ (L + 1) - 1 - C) + 1 = x + 2 * wval rs - C + 2 ^ (L + 1) * 1 := by omega
    rw [e3, Int.add_mul_emod_self_left, Int.emod_eq_of_lt (by omega) (by rw [Int.pow_succ]; omega)]
    omega
  · have := congrArg (List.take j) h.low
    rw [List.take_take, Nat.min_eq_left (by omega), List.take_replicate, Nat.min_eq_left (by omega)] at this
    rw [List.take_set_of_le (by omega)]
    exact this
  · have hq := drop_cons (qs.set j true) j (by simp [h.ql]; omega)
    have hg : (qs.set j true).getD j false = true := by rw [List.getD_eq_getElem?_getD, List.getElem?_set_self (by rw [h.ql]; omega)]; rfl
    rw [hq, hg, List.drop_set_of_lt (by omega), hd, wval, wval, a2, h.q]; simp; omega
theorem SplitAt.done {L : Nat} {bs : List Bool} {C : Int} {rs qs : List Bool} (h : SplitAt L bs C 0 rs qs) (hC : 0 < C) (hCL : C < 2 ^ L) : qs.length = L ∧ (rs.take L).length = L ∧ wval qs = wval bs / C ∧ wval (rs.take L) = wval bs % C := by
  have hr := Int.emod_lt_of_pos (wval bs) hC
  have h1 := h.r
  have h2 := h.q
  rw [List.drop_zero] at h1 h2
  rw [List.drop_zero] at h2
  refine ⟨h.ql, by rw [List.length_take, h.rl]; omega, h2, ?_⟩
  rw [wval_take_small rs L (by rw [h.rl]; omega) (by omega), h1]
end Go.Proofs.YtkceplamaocmmaaGreatDoor
