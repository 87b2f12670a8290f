/-
  Plain mathematics: bits as a list and as a number: how many are set, how many are ahead of the first.
-/
import Derived.Test.YtlbilmgpnpghlaaDoorWord3
import Derived.Test.YtlbilmgpnpghlaaDoorPopMaths
import Derived.Lib.BitFns
import Derived.Lib.TrailingZeros
namespace Go.Proofs.YtlbilmgpnpghlaaDoor
open Go.RowKit

/-- The number that bits stand for. -/
def lnat : List Bool → Nat
  | [] => 0
  | b :: r => (if b then 1 else 0) + 2 * lnat r
theorem lnat_val : ∀ l : List Bool, (lnat l : Int) = wval l
  | [] => rfl
  | b :: r => by
    have := lnat_val r
    rw [lnat, wval]
    cases b <;> simp <;> omega
theorem lnat_word (a : Int) (W : Nat) : (lnat (wordB a W) : Int) = a % 2 ^ W := by rw [lnat_val, wval_word]
theorem ones_pop : ∀ l : List Bool, ones l = popN l.length (lnat l)
  | [] => rfl
  | b :: r => by
    rw [ones, lnat, List.length_cons, popN, ones_pop r]
    cases b with
    | true => simp only [if_true]; rw [show (1 + 2 * lnat r) / 2 = lnat r by omega, show (1 + 2 * lnat r) % 2 = 1 by omega]
    | false => simp only [Bool.false_eq_true, if_false]; rw [show (0 + 2 * lnat r) / 2 = lnat r by omega, show (0 + 2 * lnat r) % 2 = 0 by omega]
theorem popN_more : ∀ (n f x : Nat), x < 2 ^ n → n ≤ f → popN f x = popN n x
  | 0, f, x, hx, _ => by
    have h0 : x = 0 := by simpa using hx
    subst h0
    clear hx
    induction f with
    | zero => rfl
    | succ f ih => have h2 := ih (Nat.zero_le _); simp only [popN] at h2 ⊢; simp [h2]
  | n + 1, f, x, hx, hf => by
    obtain ⟨f', rfl⟩ : ∃ f', f = f' + 1 := ⟨f - 1, by omega⟩
    rw [popN, popN, popN_more n f' (x / 2) (by rw [Nat.pow_succ] at hx; omega) (by omega)]
theorem all_zero : ∀ l : List Bool, l.all (! ·) = decide (lnat l = 0)
  | [] => rfl
  | b :: r => by
    rw [List.all_cons, all_zero r, lnat]
    cases b
    · by_cases h : lnat r = 0
      · simp [h]
      · simp [h]
        omega
    · simp
theorem lnat_lt : ∀ l : List Bool, lnat l < 2 ^ l.length
  | [] => by simp [lnat]
  | b :: r => by
    have := lnat_lt r
    rw [lnat, List.length_cons, Nat.pow_succ]
    cases b <;> simp <;> omega
theorem tz_zero : ∀ l : List Bool, lnat l = 0 → tz l = l.length
  | [], _ => rfl
  | true :: r, h => by simp [lnat] at h
  | false :: r, h => by
    have h2 : lnat r = 0 := by rw [lnat] at h; omega
    rw [tz, tz_zero r h2, List.length_cons]
theorem tz_ctz : ∀ (l : List Bool) (f : Nat), l.length ≤ f → lnat l ≠ 0 → tz l = Lib.ctzFrom f (lnat l) ∧ tz l < l.length
  | [], _, _, h => absurd rfl h
  | true :: r, f, hf, _ => by
    rw [List.length_cons] at hf
    obtain ⟨f', rfl⟩ : ∃ f', f = f' + 1 := ⟨f - 1, by omega⟩
    rw [lnat, Lib.ctzFrom, tz, if_pos (by simp only [if_true]; omega)]
    exact ⟨rfl, by simp⟩
  | false :: r, f, hf, h => by
    rw [List.length_cons] at hf
    obtain ⟨f', rfl⟩ : ∃ f', f = f' + 1 := ⟨f - 1, by omega⟩
    have h' : lnat r ≠ 0 := by
      intro h0
      apply h
      rw [lnat, h0]; rfl
    have := tz_ctz r f' (by omega) h'
    rw [lnat, Lib.ctzFrom, tz, if_neg (by simp only [Bool.false_eq_true, if_false]; omega)]
    simp only [Bool.false_eq_true, if_false]
    rw [show (0 + 2 * lnat r) / 2 = lnat r by omega, List.length_cons]
    omega
theorem tz_low (l : List Bool) (h : l.length ≤ 64) : (tz l : Int) = min (l.length : Int) (Lib.ctz 64 (lnat l) : Int) := by
  unfold Lib.ctz
  by_cases h0 : lnat l = 0
  · rw [if_pos h0, tz_zero l h0]; omega
  · rw [if_neg h0]
    have := tz_ctz l 64 h h0
    omega
theorem tz_snoc : ∀ (l : List Bool) (b : Bool), tz (l ++ [b]) = if tz l = l.length then (if b then l.length else l.length + 1) else tz l
  | [], true => rfl
  | [], false => rfl
  | true :: r, b => by simp [tz]
  | false :: r, b => by
    rw [List.cons_append, tz, tz_snoc r b, tz, List.length_cons]
    by_cases h : tz r = r.length
    · have h2 : tz r + 1 = r.length + 1 := by omega
      simp only [h, if_true]
      cases b <;> rfl
    · have h2 : ¬ tz r + 1 = r.length + 1 := by omega
      rw [if_neg h, if_neg h2]
theorem tz_len : ∀ (l : List Bool) (f : Nat), l.length ≤ f → Lib.bitLenAux f (lnat l) + tz l.reverse = l.length ∧ (lnat l = 0 → tz l.reverse = l.length)
  | [], f, _ => by
    cases f <;> simp [lnat, Lib.bitLenAux, tz]
  | b :: r, f, hf => by
    rw [List.length_cons] at hf
    obtain ⟨f', rfl⟩ : ∃ f', f = f' + 1 := ⟨f - 1, by omega⟩
    obtain ⟨h1, h2⟩ := tz_len r f' (by omega)
    have hle := tz_le r.reverse
    rw [List.length_reverse] at hle
    rw [List.reverse_cons, tz_snoc, List.length_reverse, List.length_cons]
    have hd : lnat (b :: r) / 2 = lnat r := by rw [lnat]; cases b <;> simp <;> omega
    have hm : lnat (b :: r) = (if b then 1 else 0) + 2 * lnat r := rfl
    have hz : tz r.reverse = r.length → lnat r = 0 := by
      intro h
      rw [h] at h1
      have h3 : Lib.bitLenAux f' (lnat r) = 0 := by omega
      cases f' with
      | zero =>
        have : r = [] := List.length_eq_zero_iff.1 (by omega)
        subst this; rfl
      | succ f'' =>
        simp only [Lib.bitLenAux] at h3
        split at h3
        · assumption
        · omega
    simp only [Lib.bitLenAux, hd]
    cases b with
    | true =>
      simp only [if_true] at hm ⊢
      rw [if_neg (by omega)]
      split <;> omega
    | false =>
      simp only [Bool.false_eq_true, if_false] at hm ⊢
      by_cases h0 : lnat r = 0
      · rw [if_pos (by omega), if_pos (h2 h0)]; omega
      · rw [if_neg (by omega)]
        have : ¬ tz r.reverse = r.length := fun h => h0 (hz h)
        rw [if_neg this]
        omega
theorem tz_high (l : List Bool) (h : l.length ≤ 64) : (tz l.reverse : Int) = (l.length : Int) - (Lib.bitLen (lnat l) : Int) := by
  have := (tz_len l 64 h).1
  unfold Lib.bitLen
  omega

end Go.Proofs.YtlbilmgpnpghlaaDoor
