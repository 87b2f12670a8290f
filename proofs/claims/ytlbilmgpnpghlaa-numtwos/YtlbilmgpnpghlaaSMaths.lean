/-
  Plain mathematics of dividing words bit by bit.
-/
import Derived.Test.YtlbilmgpnpghlaaWMaths
namespace Go.Proofs.Ytlbilmgpnpghlaa

theorem split_ways (B C b r q : Int) (hC : 0 < C) (hr : r = B % C) (hq : q = B / C) (hb : b = 0 ∨ b = 1) :
    (2 * r + b < C → (b + 2 * B) % C = 2 * r + b ∧ (b + 2 * B) / C = 2 * q) ∧ (¬ 2 * r + b < C → (b + 2 * B) % C = 2 * r + b - C ∧ (b + 2 * B) / C = 2 * q + 1) := by
  have e := Int.emod_add_mul_ediv B C
  have b0 := Int.emod_nonneg B (show C ≠ 0 by omega)
  have b1 := Int.emod_lt_of_pos B hC
  rw [← hr] at b0 b1
  rw [← hr, ← hq] at e
  have e2 : b + 2 * B = 2 * r + b + C * (2 * q) := by rw [Int.mul_left_comm, ← e, Int.mul_add]; omega
  constructor
  · intro h
    rw [e2, Int.add_mul_emod_self_left, Int.add_mul_ediv_left _ _ (by omega), Int.emod_eq_of_lt (by omega) h, Int.ediv_eq_zero_of_lt (by omega) h]
    exact ⟨rfl, by omega⟩
  · intro h
    have e3 : 2 * r + b + C * (2 * q) = 2 * r + b - C + C * (2 * q + 1) := by rw [Int.mul_add, Int.mul_one]; omega
    rw [e2, e3, Int.add_mul_emod_self_left, Int.add_mul_ediv_left _ _ (by omega), Int.emod_eq_of_lt (by omega) (by omega), Int.ediv_eq_zero_of_lt (by omega) (by omega)]
    exact ⟨rfl, by omega⟩
theorem wval_take_small (l : List Bool) (k : Nat) (hk : k ≤ l.length) (h : wval l < 2 ^ k) : wval (l.take k) = wval l := by
  have e : wval l = wval (l.take k) + wval (l.drop k) * 2 ^ k := by
    conv => lhs; rw [← List.take_append_drop k l]
    rw [wval_append, List.length_take, Nat.min_eq_left hk]
  have b1 := wval_bound (l.take k)
  have b2 := wval_bound (l.drop k)
  have hz : wval (l.drop k) = 0 := by
    rcases Int.lt_or_le 0 (wval (l.drop k)) with h0 | h0
    · have : 1 * (2 : Int) ^ k ≤ wval (l.drop k) * 2 ^ k := Int.mul_le_mul_of_nonneg_right (by omega) (Int.le_of_lt (Int.pow_pos (by omega)))
      omega
    · omega
  rw [e, hz, Int.zero_mul, Int.add_zero]
theorem wval_not : ∀ l : List Bool, wval (l.map (! ·)) = 2 ^ l.length - 1 - wval l
  | [] => by simp [wval]
  | b :: l => by
    rw [List.map_cons, wval, wval_not l, List.length_cons, Int.pow_succ, wval]
    cases b <;> simp <;> omega
theorem wval_bit (b : Bool) : (if b = true then (1 : Int) else 0) = 0 ∨ (if b = true then (1 : Int) else 0) = 1 := by cases b <;> simp

/-- What holds when the j lowest bits are still to come. -/
structure SplitAt (L : Nat) (bs : List Bool) (C : Int) (j : Nat) (rs qs : List Bool) : Prop where
  rl : rs.length = L + 1
  ql : qs.length = L
  r : wval rs = wval (bs.drop j) % C
  low : qs.take j = List.replicate j false
  q : wval (qs.drop j) = wval (bs.drop j) / C
theorem SplitAt.start (L : Nat) (bs : List Bool) (C : Int) (hb : bs.length = L) : SplitAt L bs C L (List.replicate (L + 1) false) (List.replicate L false) := by
  have z : ∀ n : Nat, wval (List.replicate n false) = 0 := by
    intro n
    induction n with
    | zero => rfl
    | succ n ih => rw [List.replicate_succ, wval, ih]; rfl
  refine ⟨by simp, by simp, ?_, by simp, ?_⟩
  · rw [z, List.drop_eq_nil_of_le (by omega)]; simp [wval]
  · rw [List.drop_eq_nil_of_le (as := List.replicate L false) (by simp), List.drop_eq_nil_of_le (as := bs) (by omega)]; simp [wval]
theorem drop_cons (l : List Bool) (j : Nat) (h : j < l.length) : l.drop j = l.getD j false :: l.drop (j + 1) := by
  rw [List.drop_eq_getElem_cons h, List.getD_eq_getElem?_getD, List.getElem?_eq_getElem h, Option.getD_some]
theorem SplitAt.bitq {L : Nat} {bs : List Bool} {C : Int} {j : Nat} {rs qs : List Bool} (h : SplitAt L bs C (j + 1) rs qs) : qs.getD j false = false := by
  have : (qs.take (j + 1)).getD j false = qs.getD j false := by rw [List.getD_eq_getElem?_getD, List.getElem?_take_of_lt (by omega), List.getD_eq_getElem?_getD]
  rw [← this, h.low, List.getD_eq_getElem?_getD, List.getElem?_replicate, if_pos (by omega)]; rfl
theorem SplitAt.bitr {L : Nat} {bs : List Bool} {C : Int} {j : Nat} {rs qs : List Bool} (h : SplitAt L bs C (j + 1) rs qs) (hC : 0 < C) (hCL : C < 2 ^ L) (x : Bool) : wval (x :: rs.take L) = (if x = true then 1 else 0) + 2 * wval rs := by
  rw [wval, wval_take_small rs L (by rw [h.rl]; omega)]
  have := Int.emod_lt_of_pos (wval (bs.drop (j + 1))) hC
  rw [← h.r] at this
  omega
theorem SplitAt.less {L : Nat} {bs : List Bool} {C : Int} {j : Nat} {rs qs : List Bool} (h : SplitAt L bs C (j + 1) rs qs) (hb : bs.length = L) (hj : j < L) (hC : 0 < C) (hCL : C < 2 ^ L) (hlt : wval (bs.getD j false :: rs.take L) < C) : SplitAt L bs C j (bs.getD j false :: rs.take L) qs := by
  have e := h.bitr hC hCL (bs.getD j false)
  obtain ⟨w1, _⟩ := split_ways (wval (bs.drop (j + 1))) C _ _ _ hC h.r h.q (wval_bit (bs.getD j false))
  rw [e] at hlt
  obtain ⟨a1, a2⟩ := w1 (by omega)
  have hd := drop_cons bs j (by omega)
  have hq := drop_cons qs j (by rw [h.ql]; omega)
  rw [h.bitq] at hq
  refine ⟨by simp [h.rl], h.ql, ?_, ?_, ?_⟩
  · rw [e, hd, wval, a1]; omega
  · have := congrArg (List.take j) h.low
    rw [List.take_take, Nat.min_eq_left (by omega), List.take_replicate, Nat.min_eq_left (by omega)] at this
    exact this
  · rw [hq, hd, wval, wval, a2]; simp
theorem SplitAt.more {L : Nat} {bs : List Bool} {C : Int} {j : Nat} {rs qs : List Bool} (h : SplitAt L bs C (j + 1) rs qs) (hb : bs.length = L) (hj : j < L) (hC : 0 < C) (hCL : C < 2 ^ L) (hge : ¬ wval (bs.getD j false :: rs.take L) < C) (fs : List Bool) (hfl : fs.length = L + 1) (hf : wval fs = (wval (bs.getD j false :: rs.take L) + (2 ^ (L + 1) - 1 - C) + 1) % 2 ^ (L + 1)) : SplitAt L bs C j fs (qs.set j true) := by
  have e := h.bitr hC hCL (bs.getD j false)
  obtain ⟨_, w1⟩ := split_ways (wval (bs.drop (j + 1))) C _ _ _ hC h.r h.q (wval_bit (bs.getD j false))
  rw [e] at hge hf
  obtain ⟨a1, a2⟩ := w1 (by omega)
  have hd := drop_cons bs j (by omega)
  have hr := Int.emod_lt_of_pos (wval (bs.drop (j + 1))) hC
  rw [← h.r] at hr
  have hbit := wval_bit (bs.getD j false)
  refine ⟨hfl, by simp [h.ql], ?_, ?_, ?_⟩
  · rw [hf, hd, wval, a1]
    obtain ⟨x, hx⟩ : ∃ x, (if bs.getD j false = true then (1 : Int) else 0) = x := ⟨_, rfl⟩
    rw [hx] at hge hbit ⊢
    have e3 : x + 2 * wval rs + (2 ^ (L + 1) - 1 - C) + 1 = x + 2 * wval rs - C + 2 ^ (L + 1) * 1 := by omega
    rw [e3, Int.add_mul_emod_self_left, Int.emod_eq_of_lt (by omega) (by rw [Int.pow_succ]; omega)]
    omega
  · have := congrArg (List.take j) h.low
    rw [List.take_take, Nat.min_eq_left (by omega), List.take_replicate, Nat.min_eq_left (by omega)] at this
    rw [List.take_set_of_le (by omega)]
    exact this
  · have hq := drop_cons (qs.set j true) j (by simp [h.ql]; omega)
    have hg : (qs.set j true).getD j false = true := by rw [List.getD_eq_getElem?_getD, List.getElem?_set_self (by rw [h.ql]; omega)]; rfl
    rw [hq, hg, List.drop_set_of_lt (by omega), hd, wval, wval, a2, h.q]; simp; omega
theorem SplitAt.done {L : Nat} {bs : List Bool} {C : Int} {rs qs : List Bool} (h : SplitAt L bs C 0 rs qs) (hC : 0 < C) (hCL : C < 2 ^ L) : qs.length = L ∧ (rs.take L).length = L ∧ wval qs = wval bs / C ∧ wval (rs.take L) = wval bs % C := by
  have hr := Int.emod_lt_of_pos (wval bs) hC
  have h1 := h.r
  have h2 := h.q
  rw [List.drop_zero] at h1 h2
  rw [List.drop_zero] at h2
  refine ⟨h.ql, by rw [List.length_take, h.rl]; omega, h2, ?_⟩
  rw [wval_take_small rs L (by rw [h.rl]; omega) (by omega), h1]

end Go.Proofs.Ytlbilmgpnpghlaa
