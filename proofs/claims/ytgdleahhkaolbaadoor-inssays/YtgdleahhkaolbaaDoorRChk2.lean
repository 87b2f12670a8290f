/-
  What the document's own InsCheck answers is what the program's own Check answers.
-/
import Derived.Test.YtgdleahhkaolbaaDoorRChk
namespace Go.Proofs.YtgdleahhkaolbaaDoor
open Go.RowKit

theorem flip_if (f g : Bool) (h : g = !f) : (if g = true then (1 : Int) else 0) = if f = true then 0 else 1 := by
  subst h
  cases f <;> rfl
theorem any_wide (xs : List Int) : xs.any wideB = !allB xs := by
  unfold allB
  induction xs with
  | nil => rfl
  | cons x r ih => rw [List.any_cons, List.all_cons, ih, wideB_num]; cases numB x <;> rfl
theorem isKB_not (A : Int) : (A != 64 && (A != 126 && A != 127)) = !isKB A := by
  unfold isKB
  simp only [bne]
  cases (A == 64) <;> cases (A == 126) <;> cases (A == 127) <;> rfl
theorem numB_zero : numB 0 = true := by decide
theorem notB (B : Int) : (B != 0) = !(B == 0) := rfl
theorem pos_dec (n : Nat) (h : 0 < n) : decide (0 < (n : Int)) = true := decide_eq_true (by omega)
theorem notC (A : Int) : (decide (A < -2147483648) || decide (2147483647 < A)) = !(decide (-2147483648 ≤ A) && decide (A ≤ 2147483647)) := by
  by_cases h0 : A < -2147483648
  · rw [decide_eq_true h0, decide_eq_false (show ¬ -2147483648 ≤ A by omega)]; rfl
  · rw [decide_eq_false h0, decide_eq_true (show -2147483648 ≤ A by omega)]
    by_cases h1 : 2147483647 < A
    · rw [decide_eq_true h1, decide_eq_false (show ¬ A ≤ 2147483647 by omega)]; rfl
    · rw [decide_eq_false h1, decide_eq_true (show A ≤ 2147483647 by omega)]; rfl
/-- What the document asks of A, by the kind. -/
def badA (k A : Int) : Bool := if k = 2 then (A != 64 && (A != 126 && A != 127)) else if k = 8 then (decide (A < -2147483648) || decide (2147483647 < A)) else if k = 9 then false else if k = 3 ∨ k = 4 ∨ k = 5 ∨ k = 6 then wideB A else A != 0
theorem fit_flip (k A B : Int) (n : Nat) (xs : List Int) (hk4 : k ≠ 4) (hk6 : k ≠ 6) (hl : xs.length = n) : (badA k A || ((B != 0) || (decide (0 < (n : Int)) || xs.any wideB))) = !fitB k A B n xs := by
  by_cases hn : 0 < n
  · have e : fitB k A B n xs = false := by unfold fitB; rw [if_pos ⟨hk4, hn⟩]
    rw [e, pos_dec n hn]
    simp
  · have h0 : n = 0 := by omega
    subst h0
    have hx : xs = [] := List.length_eq_zero_iff.1 hl
    subst hx
    by_cases hB : B = 0
    · subst hB
      have e : fitB k A 0 0 [] = !badA k A := by
        unfold fitB badA
        rw [if_neg (by omega), if_neg (by omega)]
        by_cases h2 : k = 2
        · rw [if_pos h2, if_pos h2, isKB_not, Bool.not_not]
        rw [if_neg h2, if_neg h2]
        by_cases h8 : k = 8
        · rw [if_pos h8, if_pos h8, notC, Bool.not_not]
        rw [if_neg h8, if_neg h8]
        by_cases h9 : k = 9
        · rw [if_pos h9, if_pos h9]; rfl
        rw [if_neg h9, if_neg h9]
        by_cases h3 : k = 3 ∨ k = 4 ∨ k = 5 ∨ k = 6
        · rw [if_pos h3, if_pos h3, wideB_num, Bool.not_not, numB_zero]
          simp [allB]
        · rw [if_neg h3, if_neg h3, notB, Bool.not_not]
      rw [e]
      simp
    · have e : fitB k A B 0 [] = false := by unfold fitB; rw [if_neg (by omega), if_pos ⟨hk6, hB⟩]
      have eb : (B != 0) = true := by rw [bne_iff_ne]; exact hB
      rw [e, eb]
      simp
theorem fit_flip4 (A B : Int) (n : Nat) (xs : List Int) : (wideB A || ((B != 0) || (false || xs.any wideB))) = !fitB 4 A B n xs := by
  by_cases hB : B = 0
  · subst hB
    have e : fitB 4 A 0 n xs = (numB A && numB 0 && allB xs) := by
      unfold fitB
      rw [if_neg (by omega), if_neg (by omega)]
      simp
    rw [e, wideB_num, any_wide, numB_zero]
    cases numB A <;> cases allB xs <;> rfl
  · have e : fitB 4 A B n xs = false := by unfold fitB; rw [if_neg (by omega), if_pos ⟨by decide, hB⟩]
    have eb : (B != 0) = true := by rw [bne_iff_ne]; exact hB
    rw [e, eb]
    simp
theorem fit_flip6 (A B : Int) (n : Nat) (xs : List Int) (hl : xs.length = n) : (wideB A || (wideB B || (decide (0 < (n : Int)) || xs.any wideB))) = !fitB 6 A B n xs := by
  by_cases hn : 0 < n
  · have e : fitB 6 A B n xs = false := by unfold fitB; rw [if_pos ⟨by decide, hn⟩]
    rw [e, pos_dec n hn]
    simp
  · have h0 : n = 0 := by omega
    subst h0
    have hx : xs = [] := List.length_eq_zero_iff.1 hl
    subst hx
    have e : fitB 6 A B 0 [] = (numB A && numB B && allB []) := by
      unfold fitB
      rw [if_neg (by omega), if_neg (by omega)]
      simp
    rw [e, wideB_num, wideB_num]
    cases numB A <;> cases numB B <;> rfl
theorem any_letF (k : Int) (b : Bool) (h : Lib.containsAny (letF k).data.toList [97, 116] = b) (w : World) :
    Calls Tryd.prog 56 #[.string (letF k), .string ⟨#[97, 116]⟩] w fun e w' => e = .returned (.bool b) ∧ Below w.heap.size w w' := by
  have hb : ∀ (j : Nat) c, (letF k).data.toList[j]? = some c → c.toNat < 128 := by
    intro j c hj
    have hm := List.mem_of_getElem? hj
    have hall : ∀ c ∈ (letF k).data.toList, c.toNat < 128 := by
      unfold letF
      repeat' split
      all_goals decide
    exact hall c hm
  have hs : (letF k).size < 4294967281 := by
    unfold letF
    repeat' split
    all_goals decide
  have := containsAny_any (letF k) ⟨#[97, 116]⟩ w hs (by decide) hb (by
    intro j c hj
    have hm := List.mem_of_getElem? hj
    have hall : ∀ c ∈ ([97, 116] : List UInt8), c.toNat < 128 := by decide
    exact hall c hm)
  rw [← h]
  exact this
theorem eq_letF (k : Int) (l : List UInt8) (b : Bool) (h : ((letF k).data.toList == l) = b) : ((letF k).toList == l) = b := by
  rw [Lib.toList_data]
  exact h
/-- The document's own check answers as the program's. -/
theorem rcheck_any (op A B : Int) (o : Option Addr) (n cap : Nat) (xs : List Int) (h0 : 0 ≤ op) (h1 : op ≤ 255) (hcap : n ≤ cap) (w : World) (h : LJ w o n xs) (hM : MaxIn w) :
    Calls Tryd.prog 17 #[.agg #[.int .u8 op, .int .i64 A, .int .i64 B, .slice o n cap]] w fun r w' => r = .returned (.int .i64 (chkV op A B n xs)) ∧ Below w.heap.size w w' := by
  have hbes : ∀ w', Below w.heap.size w w' → Calls Tryd.prog 41 #[.int .u8 op] w' fun e w'' => e = .returned (.string (letF (besV op))) ∧ Below w'.heap.size w' w'' := fun w' b => by
    obtain ⟨k, rfl⟩ : ∃ k : Nat, op = (k : Int) := ⟨op.toNat, by omega⟩
    rw [← bes_letF k (by omega)]
    exact rbeside_any k (by omega) w' (hM.below b)
  have hrg := besV_range op
  unfold chkV
  generalize besV op = k at hbes hrg ⊢
  by_cases hk0 : k = 0
  · subst hk0
    rw [if_pos rfl]
    exact rchk_0 op A B o n cap (letF 0) (eq_letF 0 _ _ rfl) w hbes
  rw [if_neg hk0]
  by_cases hn : 16 < n
  · rw [if_pos hn]
    exact rchk_l op A B o n cap (letF k) (quest_letF k hk0) hn w hbes
  rw [if_neg hn]
  have hq := quest_letF k hk0
  rcases (show k = 1 ∨ k = 2 ∨ k = 3 ∨ k = 4 ∨ k = 5 ∨ k = 6 ∨ k = 7 ∨ k = 8 ∨ k = 9 by omega) with rfl | rfl | rfl | rfl | rfl | rfl | rfl | rfl | rfl
  · rw [← flip_if _ _ (fit_flip 1 A B n xs (by decide) (by decide) h.1)]
    exact rchk_z op A B o n cap xs (letF 1) hcap hq (eq_letF 1 _ _ rfl) (eq_letF 1 _ _ rfl) (eq_letF 1 _ _ rfl) (fun w => any_letF 1 false (by decide) w) (eq_letF 1 _ _ rfl) (eq_letF 1 _ _ rfl) (by omega) w h hbes
  · rw [← flip_if _ _ (fit_flip 2 A B n xs (by decide) (by decide) h.1)]
    exact rchk_k op A B o n cap xs (letF 2) hcap hq (eq_letF 2 _ _ rfl) (eq_letF 2 _ _ rfl) (eq_letF 2 _ _ rfl) (by omega) w h hbes
  · rw [← flip_if _ _ (fit_flip 3 A B n xs (by decide) (by decide) h.1)]
    exact rchk_a op A B o n cap xs (letF 3) hcap hq (eq_letF 3 _ _ rfl) (eq_letF 3 _ _ rfl) (eq_letF 3 _ _ rfl) (fun w => any_letF 3 true (by decide) w) (eq_letF 3 _ _ rfl) (eq_letF 3 _ _ rfl) (by omega) w h hbes
  · rw [← flip_if _ _ (fit_flip4 A B n xs)]
    exact rchk_t op A B o n cap xs (letF 4) hcap hq (eq_letF 4 _ _ rfl) (eq_letF 4 _ _ rfl) (eq_letF 4 _ _ rfl) (fun w => any_letF 4 true (by decide) w) (eq_letF 4 _ _ rfl) (eq_letF 4 _ _ rfl) (by omega) w h hbes
  · rw [← flip_if _ _ (fit_flip 5 A B n xs (by decide) (by decide) h.1)]
    exact rchk_a op A B o n cap xs (letF 5) hcap hq (eq_letF 5 _ _ rfl) (eq_letF 5 _ _ rfl) (eq_letF 5 _ _ rfl) (fun w => any_letF 5 true (by decide) w) (eq_letF 5 _ _ rfl) (eq_letF 5 _ _ rfl) (by omega) w h hbes
  · rw [← flip_if _ _ (fit_flip6 A B n xs h.1)]
    exact rchk_b op A B o n cap xs (letF 6) hcap hq (eq_letF 6 _ _ rfl) (eq_letF 6 _ _ rfl) (eq_letF 6 _ _ rfl) (fun w => any_letF 6 true (by decide) w) (eq_letF 6 _ _ rfl) (eq_letF 6 _ _ rfl) (by omega) w h hbes
  · rw [← flip_if _ _ (fit_flip 7 A B n xs (by decide) (by decide) h.1)]
    exact rchk_z op A B o n cap xs (letF 7) hcap hq (eq_letF 7 _ _ rfl) (eq_letF 7 _ _ rfl) (eq_letF 7 _ _ rfl) (fun w => any_letF 7 false (by decide) w) (eq_letF 7 _ _ rfl) (eq_letF 7 _ _ rfl) (by omega) w h hbes
  · rw [← flip_if _ _ (fit_flip 8 A B n xs (by decide) (by decide) h.1)]
    exact rchk_c op A B o n cap xs (letF 8) hcap hq (eq_letF 8 _ _ rfl) (eq_letF 8 _ _ rfl) (eq_letF 8 _ _ rfl) (eq_letF 8 _ _ rfl) (by omega) w h hbes
  · rw [← flip_if _ _ (fit_flip 9 A B n xs (by decide) (by decide) h.1)]
    exact rchk_d op A B o n cap xs (letF 9) hcap hq (eq_letF 9 _ _ rfl) (eq_letF 9 _ _ rfl) (eq_letF 9 _ _ rfl) (eq_letF 9 _ _ rfl) (eq_letF 9 _ _ rfl) (by omega) w h hbes

end Go.Proofs.YtgdleahhkaolbaaDoor
