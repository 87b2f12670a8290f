/-
  Plain mathematics of reading instructions: a beginning of what is written ends too early.
-/
import Derived.Test.YtgdleahhkaolbaaDoorInsM1
namespace Go.Proofs.YtgdleahhkaolbaaDoor
open Go.RowKit

theorem uB_len5 (x : Int) (h : isNum x) : (uB x.toNat).length ≤ 5 := by
  have h1 := h.1
  have h2 := h.2
  exact uB_len 4 _ (by omega)
theorem mNum_back (x : Int) (h : isNum x) (r : List Int) (a : Int) : mNum (uB x.toNat ++ r) a = (x, r, a) := by
  have h1 := h.1
  have h2 := h.2
  have hb := backU 32 x.toNat 4 r (Or.inl ⟨rfl, rfl, by omega⟩)
  unfold mNum
  rw [hb]
  simp only [if_true, Int.toNat_natCast, List.drop_left]
  rw [Int.toNat_of_nonneg h1]
theorem mNum_cut (x : Int) (h : isNum x) (r : Nat) (hr : r < (uB x.toNat).length) : (mNum ((uB x.toNat).take r) 0).2.2 = 3 := by
  have h5 := uB_len5 x h
  have hs := rdl_short (fit := fitU) (B := 32) _ (uB_take _ r hr) (by rw [List.length_take]; omega)
  have hu : rU 32 ((uB x.toNat).take r) = (0, 0, 3) := by rw [rU, if_pos (Or.inl rfl), hs]
  unfold mNum
  rw [hu, if_neg (by decide)]
  rfl
theorem mSig_cut (B x : Int) (hB : (B = 32 ∧ -2147483648 ≤ x ∧ x ≤ 2147483647) ∨ (B = 64 ∧ -9223372036854775808 ≤ x ∧ x ≤ 9223372036854775807)) (r : Nat) (hr : r < (sB x).length) : (mSig B ((sB x).take r) 0).2.2 = 3 := by
  have h7 : 7 * (r : Int) < B := by
    rcases hB with ⟨rfl, h1, h2⟩ | ⟨rfl, h1, h2⟩
    · have := sB_len 4 x (by omega) (by omega); omega
    · have := sB_len64 x h1 h2; omega
  have hs := rdl_short (fit := fitS) (B := B) _ (sB_take _ r hr) (by rw [List.length_take]; omega)
  have hu : rS B ((sB x).take r) = (0, 0, 3) := by
    rw [rS, if_pos (by rcases hB with ⟨h, _⟩ | ⟨h, _⟩; exact Or.inl h; exact Or.inr h), hs, if_neg (by decide)]
  unfold mSig
  rw [hu, if_neg (by decide)]
  rfl
theorem mZero_keep (l : List Int) : (mZero l 3).2 = 3 := by
  unfold mZero
  cases l with
  | nil => rfl
  | cons b r =>
    show (if b = 0 then (3 : Int) else fstE 3 4) = 3
    split
    · rfl
    · rfl
theorem mNumsF_keep : ∀ (n : Nat) (l : List Int), (mNumsF n l 3).2.2 = 3
  | 0, _ => rfl
  | n + 1, l => by
    rw [mNumsF]
    dsimp only
    rw [mNum_keep l 3 (by decide)]
    exact mNumsF_keep n _
theorem mNumsF_back : ∀ (xs : List Int) (r : List Int), (∀ x ∈ xs, isNum x) → mNumsF xs.length ((xs.flatMap fun x => uB x.toNat) ++ r) 0 = (xs, r, 0)
  | [], r, _ => rfl
  | x :: xs, r, h => by
    rw [List.length_cons, mNumsF, List.flatMap_cons, List.append_assoc, mNum_back x (h x (by simp))]
    dsimp only
    rw [mNumsF_back xs r (fun y hy => h y (by simp [hy]))]
theorem mNumsF_cut : ∀ (xs : List Int) (r : Nat), (∀ x ∈ xs, isNum x) → r < (xs.flatMap fun x => uB x.toNat).length → (mNumsF xs.length ((xs.flatMap fun x => uB x.toNat).take r) 0).2.2 = 3
  | [], r, _, h => by simp at h
  | x :: xs, r, hx, h => by
    rw [List.length_cons, mNumsF, List.flatMap_cons]
    dsimp only
    by_cases hr : r < (uB x.toNat).length
    · rw [List.take_append_of_le_length (Nat.le_of_lt hr), mNum_cut x (hx x (by simp)) r hr]
      exact mNumsF_keep _ _
    · rw [List.flatMap_cons, List.length_append] at h
      rw [List.take_append, List.take_of_length_le (by omega), mNum_back x (hx x (by simp))]
      exact mNumsF_cut xs _ (fun y hy => hx y (by simp [hy])) (by omega)
theorem mNum_zero3 (l : List Int) (h : (mNum l 0).2.2 = 3) : (mNum l 0).1 = 0 := by
  unfold mNum at h ⊢
  split at h
  · exact absurd h (by show ¬ (0 : Int) = 3; decide)
  · rename_i hne
    rw [if_neg hne]
/-- A beginning of what is written ends too early. -/
theorem mIns_cut (op A B : Int) (xs : List Int) (hc : fitC (besV op) A B xs) (hA : -9223372036854775808 ≤ A ∧ A ≤ 9223372036854775807) (r : Nat) (hr : r < (op :: besT (besV op) A B xs).length) : (mIns ((op :: besT (besV op) A B xs).take r) 0).e = 3 := by
  cases r with
  | zero => rw [List.take_zero]; decide
  | succ r =>
    rw [List.take_succ_cons]
    have e0 : ∀ t, mIns (op :: t) 0 = mBes (besV op) op t 0 := fun t => rfl
    rw [e0]
    rw [List.length_cons] at hr
    have hr' : r < (besT (besV op) A B xs).length := by omega
    clear hr
    generalize besV op = k at hc hr' ⊢
    rcases hc with ⟨rfl, rfl, rfl, rfl⟩ | ⟨rfl, hK, rfl, rfl⟩ | ⟨rfl, hN, rfl, rfl⟩ | ⟨rfl, hN, rfl, h16, hx⟩ | ⟨rfl, hN, rfl, rfl⟩ | ⟨rfl, hN, hM, rfl⟩ | ⟨rfl, rfl, rfl, rfl⟩ | ⟨rfl, h1, h2, rfl, rfl⟩ | ⟨rfl, rfl, rfl⟩
    · exact absurd hr' (by simp [besT])
    · have h0 : r = 0 := by
        have : (besT 2 A 0 []).length = 1 := rfl
        omega
      subst h0
      rfl
    · exact mNum_cut A hN r hr'
    · show (mNum (mNums ((uB xs.length ++ (xs.flatMap fun x => uB x.toNat) ++ uB A.toNat).take r) 0).2.1 (mNums ((uB xs.length ++ (xs.flatMap fun x => uB x.toNat) ++ uB A.toNat).take r) 0).2.2).2.2 = 3
      have hr2 : r < (uB xs.length ++ (xs.flatMap fun x => uB x.toNat) ++ uB A.toNat).length := hr'
      have hL : isNum ((xs.length : Nat) : Int) := ⟨by omega, by omega⟩
      have hLb : ∀ t, mNum (uB xs.length ++ t) 0 = (((xs.length : Nat) : Int), t, 0) := fun t => by
        have := mNum_back ((xs.length : Nat) : Int) hL t 0
        rw [Int.toNat_natCast] at this
        exact this
      by_cases hr1 : r < (uB xs.length).length
      · have hcut := mNum_cut ((xs.length : Nat) : Int) hL r (by rw [Int.toNat_natCast]; exact hr1)
        rw [Int.toNat_natCast] at hcut
        rw [List.append_assoc, List.take_append_of_le_length (Nat.le_of_lt hr1)]
        have hz := mNum_zero3 _ hcut
        have hm : (mNums ((uB xs.length).take r) 0).2.2 = 3 := by
          unfold mNums
          rw [hz, if_neg (by decide), hcut]
          rfl
        rw [hm]
        exact mNum_keep _ 3 (by decide)
      · rw [List.length_append, List.length_append] at hr2
        rw [List.append_assoc, List.take_append, List.take_of_length_le (by omega)]
        have hm : ∀ t, mNums (uB xs.length ++ t) 0 = mNumsF xs.length t 0 := by
          intro t
          unfold mNums
          rw [hLb t]
          dsimp only
          rw [if_neg (by omega), Int.toNat_natCast]
        rw [hm]
        by_cases hr3 : r - (uB xs.length).length < (xs.flatMap fun x => uB x.toNat).length
        · rw [List.take_append_of_le_length (Nat.le_of_lt hr3), mNumsF_cut xs _ hx hr3]
          exact mNum_keep _ 3 (by decide)
        · rw [List.take_append, List.take_of_length_le (by omega), mNumsF_back xs _ hx]
          exact mNum_cut A hN _ (by omega)
    · show (mZero (mNum ((uB A.toNat ++ [0]).take r) 0).2.1 (mNum ((uB A.toNat ++ [0]).take r) 0).2.2).2 = 3
      have hr2 : r < (uB A.toNat ++ [0]).length := hr'
      rw [List.length_append, List.length_singleton] at hr2
      by_cases hr1 : r < (uB A.toNat).length
      · rw [List.take_append_of_le_length (Nat.le_of_lt hr1), mNum_cut A hN r hr1]
        exact mZero_keep _
      · rw [List.take_append, List.take_of_length_le (by omega), mNum_back A hN, show r - (uB A.toNat).length = 0 by omega]
        rfl
    · show (mNum (mNum ((uB A.toNat ++ uB B.toNat).take r) 0).2.1 (mNum ((uB A.toNat ++ uB B.toNat).take r) 0).2.2).2.2 = 3
      have hr2 : r < (uB A.toNat ++ uB B.toNat).length := hr'
      rw [List.length_append] at hr2
      by_cases hr1 : r < (uB A.toNat).length
      · rw [List.take_append_of_le_length (Nat.le_of_lt hr1), mNum_cut A hN r hr1]
        exact mNum_keep _ 3 (by decide)
      · rw [List.take_append, List.take_of_length_le (by omega), mNum_back A hN]
        exact mNum_cut B hM _ (by omega)
    · have h0 : r = 0 := by
        have : (besT 7 0 0 []).length = 1 := rfl
        omega
      subst h0
      rfl
    · exact mSig_cut 32 A (Or.inl ⟨rfl, h1, h2⟩) r hr'
    · exact mSig_cut 64 A (Or.inr ⟨rfl, hA.1, hA.2⟩) r hr'
theorem besT_len (k A B : Int) (xs : List Int) (hc : fitC k A B xs) (hA : -9223372036854775808 ≤ A ∧ A ≤ 9223372036854775807) : (besT k A B xs).length ≤ 1000 := by
  have hflat : ∀ ys : List Int, (∀ x ∈ ys, isNum x) → (ys.flatMap fun x => uB x.toNat).length ≤ 5 * ys.length := by
    intro ys
    induction ys with
    | nil => intro _; simp
    | cons y ys ih =>
      intro h
      have h1 := uB_len5 y (h y (by simp))
      have h2 := ih (fun x hx => h x (by simp [hx]))
      rw [List.flatMap_cons, List.length_append, List.length_cons]
      omega
  rcases hc with ⟨rfl, rfl, rfl, rfl⟩ | ⟨rfl, hK, rfl, rfl⟩ | ⟨rfl, hN, rfl, rfl⟩ | ⟨rfl, hN, rfl, h16, hx⟩ | ⟨rfl, hN, rfl, rfl⟩ | ⟨rfl, hN, hM, rfl⟩ | ⟨rfl, rfl, rfl, rfl⟩ | ⟨rfl, h1, h2, rfl, rfl⟩ | ⟨rfl, rfl, rfl⟩
  · decide
  · show 1 ≤ 1000; omega
  · have := uB_len5 A hN
    show (uB A.toNat).length ≤ 1000; omega
  · have h1 := uB_len5 A hN
    have h2 := hflat xs hx
    have h3 := uB_len64 xs.length (by omega)
    show (uB xs.length ++ (xs.flatMap fun x => uB x.toNat) ++ uB A.toNat).length ≤ 1000
    rw [List.length_append, List.length_append]; omega
  · have := uB_len5 A hN
    show (uB A.toNat ++ [0]).length ≤ 1000
    rw [List.length_append, List.length_singleton]; omega
  · have := uB_len5 A hN
    have := uB_len5 B hM
    show (uB A.toNat ++ uB B.toNat).length ≤ 1000
    rw [List.length_append]; omega
  · decide
  · have := sB_len64 A hA.1 hA.2
    show (sB A).length ≤ 1000; omega
  · have := sB_len64 A hA.1 hA.2
    show (sB A).length ≤ 1000; omega
end Go.Proofs.YtgdleahhkaolbaaDoor
