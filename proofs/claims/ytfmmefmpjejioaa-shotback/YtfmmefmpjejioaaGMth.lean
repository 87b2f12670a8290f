/-
  Plain mathematics of reading instructions: what is read is well, and no shorter than what is written.
  Plain mathematics of reading instructions: a beginning of what is written ends too early.
-/
import Derived.Test.YtfmmefmpjejioaaGRd8
import Derived.Test.YtfmmefmpjejioaaGWr
import Derived.Test.YtfmmefmpjejioaaGLeb
namespace Go.Proofs.Ytfmmefmpjejioaa
open Go.RowKit

theorem fstE_zero (e : Int) : fstE 0 e = e := by unfold fstE; rw [if_pos rfl]
theorem fstE_ne {a : Int} (h : a ≠ 0) (e : Int) : fstE a e = a := by unfold fstE; rw [if_neg h]
theorem fstE_eq {a e : Int} (h : fstE a e = 0) : a = 0 ∧ e = 0 := by
  unfold fstE at h
  split at h
  · exact ⟨by assumption, h⟩
  · exact absurd h (by assumption)
/-- What a number that is read well has. -/
theorem mNum_ok (l : List Int) (a : Int) (hl : ∀ b ∈ l, 0 ≤ b ∧ b < 256) (h : (mNum l a).2.2 = 0) : a = 0 ∧ isNum (mNum l a).1 ∧ ∃ k, (uB (mNum l a).1.toNat).length ≤ k ∧ k ≤ l.length ∧ (mNum l a).2.1 = l.drop k := by
  have hlt := rU32_lt l hl
  unfold mNum at h ⊢
  rcases resU 32 (Or.inl rfl) l hl with ⟨e, he, hr⟩ | ⟨m, k, _, hlen, hk, hr⟩
  · have he0 : ¬ e = 0 := by simpa using he
    rw [hr] at h
    simp only [if_neg he0] at h
    exact absurd (fstE_eq h).2 he0
  · rw [hr] at h hlt ⊢
    simp only [if_true] at h ⊢
    dsimp only at hlt
    refine ⟨h, ⟨by omega, by omega⟩, k, by rw [Int.toNat_natCast]; exact hlen, hk, by rw [Int.toNat_natCast]⟩
theorem mNum_zero (l : List Int) (a : Int) (h : (mNum l a).2.2 = 0) : a = 0 := by
  unfold mNum at h
  split at h
  · exact h
  · exact (fstE_eq h).1
theorem mNum_keep (l : List Int) (a : Int) (ha : a ≠ 0) : (mNum l a).2.2 = a := by
  unfold mNum
  split
  · rfl
  · exact fstE_ne ha _
theorem mNum_byte (l : List Int) (a : Int) (hl : ∀ b ∈ l, 0 ≤ b ∧ b < 256) : ∀ b ∈ (mNum l a).2.1, 0 ≤ b ∧ b < 256 := by
  unfold mNum
  split
  · exact fun b hb => hl b (List.mem_of_mem_drop hb)
  · exact hl
theorem mNumsF_ok : ∀ (n : Nat) (l : List Int) (a : Int), (∀ b ∈ l, 0 ≤ b ∧ b < 256) → (mNumsF n l a).2.2 = 0 → a = 0 ∧ (∀ x ∈ (mNumsF n l a).1, isNum x) ∧ ∃ k, ((mNumsF n l a).1.flatMap fun x => uB x.toNat).length ≤ k ∧ k ≤ l.length ∧ (mNumsF n l a).2.1 = l.drop k
  | 0, l, a, _, h => ⟨h, (fun x hx => by cases hx), 0, by simp [mNumsF], by omega, by simp [mNumsF]⟩
  | n + 1, l, a, hl, h => by
    rw [mNumsF] at h ⊢
    dsimp only at h ⊢
    obtain ⟨h1, h2, k2, h3, h4, h5⟩ := mNumsF_ok n _ _ (mNum_byte l a hl) h
    obtain ⟨g1, g2, k1, g3, g4, g5⟩ := mNum_ok l a hl h1
    refine ⟨g1, ?_, k1 + k2, ?_, ?_, ?_⟩
    · intro x hx
      rcases List.mem_cons.1 hx with rfl | hx
      · exact g2
      · exact h2 x hx
    · rw [List.flatMap_cons, List.length_append]; omega
    · rw [g5, List.length_drop] at h4; omega
    · rw [h5, g5, List.drop_drop]
theorem mSig_ok (B : Int) (hB : B = 32 ∨ B = 64) (l : List Int) (a : Int) (hl : ∀ b ∈ l, 0 ≤ b ∧ b < 256) (h : (mSig B l a).2.2 = 0) : a = 0 ∧ (-9223372036854775808 ≤ (mSig B l a).1 ∧ (mSig B l a).1 ≤ 9223372036854775807) ∧ (rS B l).1 = (mSig B l a).1 ∧ ∃ k, (sB (mSig B l a).1).length ≤ k ∧ k ≤ l.length ∧ (mSig B l a).2.1 = l.drop k := by
  unfold mSig at h ⊢
  rcases resS B hB l hl with ⟨e, he, hr⟩ | ⟨m, k, h1, h2, hlen, hk, hr⟩
  · have he0 : ¬ e = 0 := by simpa using he
    rw [hr] at h
    simp only [if_neg he0] at h
    exact absurd (fstE_eq h).2 he0
  · rw [hr] at h ⊢
    simp only [if_true] at h ⊢
    exact ⟨h, ⟨h1, h2⟩, trivial, k, hlen, hk, by rw [Int.toNat_natCast]⟩
theorem mNext_ok (l : List Int) (a : Int) (h : (mNext l a).2.2 = 0) : a = 0 ∧ l = (mNext l a).1 :: (mNext l a).2.1 := by
  cases l with
  | nil =>
    have := (fstE_eq h).2
    exact absurd this (by decide)
  | cons b r => exact ⟨h, rfl⟩
theorem mKind_ok (l : List Int) (a : Int) (h : (mKind l a).2.2 = 0) : a = 0 ∧ isKB (mKind l a).1 = true ∧ l = (mKind l a).1 :: (mKind l a).2.1 := by
  unfold mKind at h ⊢
  dsimp only at h ⊢
  cases hk : isKB (mNext l a).1 with
  | true =>
    rw [hk] at h
    simp only [if_true] at h
    obtain ⟨h1, h2⟩ := mNext_ok l a h
    exact ⟨h1, by simp, h2⟩
  | false =>
    rw [hk] at h
    simp only [Bool.false_eq_true, if_false] at h
    exact absurd (fstE_eq h).2 (by decide)
theorem mZero_ok (l : List Int) (a : Int) (h : (mZero l a).2 = 0) : a = 0 ∧ l = 0 :: (mZero l a).1 := by
  unfold mZero at h ⊢
  dsimp only at h ⊢
  by_cases hb : (mNext l a).1 = 0
  · rw [if_pos hb] at h
    obtain ⟨h1, h2⟩ := mNext_ok l a h
    rw [hb] at h2
    exact ⟨h1, h2⟩
  · rw [if_neg hb] at h
    exact absurd (fstE_eq h).2 (by decide)
/-- What an instruction of 32 bits with a sign has. -/
theorem rS32_range (l : List Int) (hl : ∀ b ∈ l, 0 ≤ b ∧ b < 256) : -2147483648 ≤ (rS 32 l).1 ∧ (rS 32 l).1 ≤ 2147483647 := by
  unfold rS
  rw [if_pos (Or.inl rfl)]
  rcases rdl_all fitS 32 (Or.inl rfl) l hl with h | h | ⟨f, b, t, e, hf, hb0, hb1, h1, h2, h⟩
  · rw [h, if_neg (by decide)]; omega
  · rw [h, if_neg (by decide)]; omega
  · rw [h]
    simp only [if_true]
    have hg : l.getD (((f.length : Int) + 1 - 1).toNat) 0 = b := by
      rw [show ((f.length : Int) + 1 - 1).toNat = f.length by omega, e, List.getD_eq_getElem?_getD, List.getElem?_append_right (Nat.le_refl _), Nat.sub_self]
      rfl
    have hp : ((f.length : Int) + 1).toNat = f.length + 1 := by omega
    rw [hg, hp, val_last f b hb0 hb1]
    have hv := val_bound f
    have hk : f.length ≤ 4 := by omega
    have h5 : f.length = 4 → b < 8 ∨ 120 ≤ b := by
      intro h4
      have := h2 (by omega)
      rw [h4] at this
      unfold fitS at this
      simp at this
      omega
    rcases (show f.length = 0 ∨ f.length = 1 ∨ f.length = 2 ∨ f.length = 3 ∨ f.length = 4 by omega) with h0 | h0 | h0 | h0 | h0 <;> rw [h0] at hv ⊢ <;> simp only [Nat.reduceAdd, Int.reducePow] at hv ⊢ <;> split <;> omega
/-- What is read without an error is well. -/
theorem mIns_ok (l : List Int) (hl : ∀ b ∈ l, 0 ≤ b ∧ b < 256) (h : (mIns l 0).e = 0) :
    (0 ≤ (mIns l 0).op ∧ (mIns l 0).op ≤ 255) ∧ fitC (besV (mIns l 0).op) (mIns l 0).A (mIns l 0).B (mIns l 0).To ∧ (-9223372036854775808 ≤ (mIns l 0).A ∧ (mIns l 0).A ≤ 9223372036854775807) ∧ 1 + (besT (besV (mIns l 0).op) (mIns l 0).A (mIns l 0).B (mIns l 0).To).length + (mIns l 0).l.length ≤ l.length := by
  cases l with
  | nil => exact absurd h (by decide)
  | cons b r =>
    have hb := hl b (by simp)
    have hr : ∀ c ∈ r, 0 ≤ c ∧ c < 256 := fun c hc => hl c (by simp [hc])
    have e0 : mIns (b :: r) 0 = mBes (besV b) b r 0 := rfl
    rw [e0] at h ⊢
    have hrg := besV_range b
    have hop : ∀ k, (mBes k b r 0).op = b := by
      intro k; unfold mBes; repeat' split
      all_goals rfl
    rw [hop]
    refine ⟨⟨hb.1, by omega⟩, ?_⟩
    generalize besV b = k at h hrg ⊢
    rw [List.length_cons]
    have i64 : ∀ n : Int, isNum n → -9223372036854775808 ≤ n ∧ n ≤ 9223372036854775807 := fun n hn => by have := hn.1; have := hn.2; omega
    have i0 : -9223372036854775808 ≤ (0 : Int) ∧ (0 : Int) ≤ 9223372036854775807 := by omega
    rcases (show k = 0 ∨ k = 1 ∨ k = 2 ∨ k = 3 ∨ k = 4 ∨ k = 5 ∨ k = 6 ∨ k = 7 ∨ k = 8 ∨ k = 9 by omega) with rfl | rfl | rfl | rfl | rfl | rfl | rfl | rfl | rfl | rfl
    · exact absurd h (by show ¬ fstE 0 6 = 0; decide)
    · exact ⟨Or.inl ⟨rfl, rfl, rfl, rfl⟩, i0, by show 1 + 0 + r.length ≤ r.length + 1; omega⟩
    · have h' : (mKind r 0).2.2 = 0 := h
      obtain ⟨_, hk, e⟩ := mKind_ok r 0 h'
      refine ⟨Or.inr (Or.inl ⟨rfl, hk, rfl, rfl⟩), ?_, ?_⟩
      · have := isKB_range hk
        show -9223372036854775808 ≤ (mKind r 0).1 ∧ (mKind r 0).1 ≤ 9223372036854775807
        omega
      · show 1 + 1 + (mKind r 0).2.1.length ≤ r.length + 1
        have := congrArg List.length e
        rw [List.length_cons] at this
        omega
    · have h' : (mNum r 0).2.2 = 0 := h
      obtain ⟨_, hn, k, h1, h2, h3⟩ := mNum_ok r 0 hr h'
      refine ⟨Or.inr (Or.inr (Or.inl ⟨rfl, hn, rfl, rfl⟩)), i64 _ hn, ?_⟩
      show 1 + (uB (mNum r 0).1.toNat).length + (mNum r 0).2.1.length ≤ r.length + 1
      rw [h3, List.length_drop]; omega
    · have h' : (mNum (mNums r 0).2.1 (mNums r 0).2.2).2.2 = 0 := h
      have hz := mNum_zero _ _ h'
      have hgo : (mNums r 0) = mNumsF (mNum r 0).1.toNat (mNum r 0).2.1 (mNum r 0).2.2 ∧ ¬ (mNum r 0).1 > 16 := by
        unfold mNums at hz ⊢
        by_cases h16 : (mNum r 0).1 > 16
        · rw [if_pos h16] at hz
          exact absurd (fstE_eq hz).2 (by decide)
        · rw [if_neg h16]
          exact ⟨rfl, h16⟩
      obtain ⟨hgo, h16⟩ := hgo
      have hz2 := hz
      rw [hgo] at hz2
      obtain ⟨hz3, hxs, k2, g1, g2, g3⟩ := mNumsF_ok _ _ _ (mNum_byte r 0 hr) hz2
      rw [← hgo] at hxs g1 g3
      obtain ⟨_, hn, k1, h1, h2, h3⟩ := mNum_ok r 0 hr hz3
      have hby : ∀ b ∈ (mNums r 0).2.1, 0 ≤ b ∧ b < 256 := by
        rw [g3]
        exact fun b hb => mNum_byte r 0 hr b (List.mem_of_mem_drop hb)
      obtain ⟨_, hm, k3, f1, f2, f3⟩ := mNum_ok _ _ hby h'
      have hlen : (mNums r 0).1.length = (mNum r 0).1.toNat := by rw [hgo, mNumsF_len]
      have h16' : (mNums r 0).1.length ≤ 16 := by rw [hlen]; have := hn.1; omega
      refine ⟨Or.inr (Or.inr (Or.inr (Or.inl ⟨rfl, hm, rfl, h16', hxs⟩))), i64 _ hm, ?_⟩
      show 1 + (uB (mNums r 0).1.length ++ ((mNums r 0).1.flatMap fun x => uB x.toNat) ++ uB (mNum (mNums r 0).2.1 (mNums r 0).2.2).1.toNat).length + (mNum (mNums r 0).2.1 (mNums r 0).2.2).2.1.length ≤ r.length + 1
      have h3' := congrArg List.length h3
      have g3' := congrArg List.length g3
      have f3' := congrArg List.length f3
      rw [List.length_drop] at h3' g3' f3'
      rw [List.length_append, List.length_append, hlen]
      omega
    · have h' : (mZero (mNum r 0).2.1 (mNum r 0).2.2).2 = 0 := h
      obtain ⟨hz, e⟩ := mZero_ok _ _ h'
      obtain ⟨_, hn, k, h1, h2, h3⟩ := mNum_ok r 0 hr hz
      refine ⟨Or.inr (Or.inr (Or.inr (Or.inr (Or.inl ⟨rfl, hn, rfl, rfl⟩)))), i64 _ hn, ?_⟩
      show 1 + (uB (mNum r 0).1.toNat ++ [0]).length + (mZero (mNum r 0).2.1 (mNum r 0).2.2).1.length ≤ r.length + 1
      have e' := congrArg List.length e
      have h3' := congrArg List.length h3
      rw [List.length_cons] at e'
      rw [List.length_drop] at h3'
      rw [List.length_append, List.length_singleton]
      omega
    · have h' : (mNum (mNum r 0).2.1 (mNum r 0).2.2).2.2 = 0 := h
      obtain ⟨hz, hm, k2, g1, g2, g3⟩ := mNum_ok _ _ (mNum_byte r 0 hr) h'
      obtain ⟨_, hn, k, h1, h2, h3⟩ := mNum_ok r 0 hr hz
      refine ⟨Or.inr (Or.inr (Or.inr (Or.inr (Or.inr (Or.inl ⟨rfl, hn, hm, rfl⟩))))), i64 _ hn, ?_⟩
      show 1 + (uB (mNum r 0).1.toNat ++ uB (mNum (mNum r 0).2.1 (mNum r 0).2.2).1.toNat).length + (mNum (mNum r 0).2.1 (mNum r 0).2.2).2.1.length ≤ r.length + 1
      have g3' := congrArg List.length g3
      have h3' := congrArg List.length h3
      rw [List.length_drop] at g3' h3'
      rw [List.length_append]
      omega
    · have h' : (mZero r 0).2 = 0 := h
      obtain ⟨_, e⟩ := mZero_ok r 0 h'
      refine ⟨Or.inr (Or.inr (Or.inr (Or.inr (Or.inr (Or.inr (Or.inl ⟨rfl, rfl, rfl, rfl⟩)))))), i0, ?_⟩
      show 1 + 1 + (mZero r 0).1.length ≤ r.length + 1
      have := congrArg List.length e
      rw [List.length_cons] at this
      omega
    · have h' : (mSig 32 r 0).2.2 = 0 := h
      obtain ⟨_, h64, hrs, k, h1, h2, h3⟩ := mSig_ok 32 (Or.inl rfl) r 0 hr h'
      have hrange := rS32_range r hr
      rw [hrs] at hrange
      refine ⟨Or.inr (Or.inr (Or.inr (Or.inr (Or.inr (Or.inr (Or.inr (Or.inl ⟨rfl, hrange.1, hrange.2, rfl, rfl⟩))))))), h64, ?_⟩
      show 1 + (sB (mSig 32 r 0).1).length + (mSig 32 r 0).2.1.length ≤ r.length + 1
      rw [h3, List.length_drop]; omega
    · have h' : (mSig 64 r 0).2.2 = 0 := h
      obtain ⟨_, h64, hrs, k, h1, h2, h3⟩ := mSig_ok 64 (Or.inr rfl) r 0 hr h'
      refine ⟨Or.inr (Or.inr (Or.inr (Or.inr (Or.inr (Or.inr (Or.inr (Or.inr ⟨rfl, rfl, rfl⟩))))))), h64, ?_⟩
      show 1 + (sB (mSig 64 r 0).1).length + (mSig 64 r 0).2.1.length ≤ r.length + 1
      rw [h3, List.length_drop]; omega
end Go.Proofs.Ytfmmefmpjejioaa
namespace Go.Proofs.Ytfmmefmpjejioaa
open Go.RowKit

theorem uB_len5 (x : Int) (h : isNum x) : (uB x.toNat).length ≤ 5 := by
  have h1 := h.1
  have h2 := h.2
  exact uB_len 4 _ (by omega)
theorem mNum_back (x : Int) (h : isNum x) (r : List Int) (a : Int) : mNum (uB x.toNat ++ r) a = (x, r, a) := by
  have h1 := h.1
  have h2 := h.2
  have hb := backU 32 x.toNat 4 r (Or.inl ⟨rfl, rfl, by omega⟩)
  unfold mNum
  rw [hb]
  simp only [if_true, Int.toNat_natCast, List.drop_left]
  rw [Int.toNat_of_nonneg h1]
theorem mNum_cut (x : Int) (h : isNum x) (r : Nat) (hr : r < (uB x.toNat).length) : (mNum ((uB x.toNat).take r) 0).2.2 = 3 := by
  have h5 := uB_len5 x h
  have hs := rdl_short (fit := fitU) (B := 32) _ (uB_take _ r hr) (by rw [List.length_take]; omega)
  have hu : rU 32 ((uB x.toNat).take r) = (0, 0, 3) := by rw [rU, if_pos (Or.inl rfl), hs]
  unfold mNum
  rw [hu, if_neg (by decide)]
  rfl
theorem mSig_cut (B x : Int) (hB : (B = 32 ∧ -2147483648 ≤ x ∧ x ≤ 2147483647) ∨ (B = 64 ∧ -9223372036854775808 ≤ x ∧ x ≤ 9223372036854775807)) (r : Nat) (hr : r < (sB x).length) : (mSig B ((sB x).take r) 0).2.2 = 3 := by
  have h7 : 7 * (r : Int) < B := by
    rcases hB with ⟨rfl, h1, h2⟩ | ⟨rfl, h1, h2⟩
    · have := sB_len 4 x (by omega) (by omega); omega
    · have := sB_len64 x h1 h2; omega
  have hs := rdl_short (fit := fitS) (B := B) _ (sB_take _ r hr) (by rw [List.length_take]; omega)
  have hu : rS B ((sB x).take r) = (0, 0, 3) := by
    rw [rS, if_pos (by rcases hB with ⟨h, _⟩ | ⟨h, _⟩; exact Or.inl h; exact Or.inr h), hs, if_neg (by decide)]
  unfold mSig
  rw [hu, if_neg (by decide)]
  rfl
theorem mZero_keep (l : List Int) : (mZero l 3).2 = 3 := by
  unfold mZero
  cases l with
  | nil => rfl
  | cons b r =>
    show (if b = 0 then (3 : Int) else fstE 3 4) = 3
    split
    · rfl
    · rfl
theorem mNumsF_keep : ∀ (n : Nat) (l : List Int), (mNumsF n l 3).2.2 = 3
  | 0, _ => rfl
  | n + 1, l => by
    rw [mNumsF]
    dsimp only
    rw [mNum_keep l 3 (by decide)]
    exact mNumsF_keep n _
theorem mNumsF_back : ∀ (xs : List Int) (r : List Int), (∀ x ∈ xs, isNum x) → mNumsF xs.length ((xs.flatMap fun x => uB x.toNat) ++ r) 0 = (xs, r, 0)
  | [], r, _ => rfl
  | x :: xs, r, h => by
    rw [List.length_cons, mNumsF, List.flatMap_cons, List.append_assoc, mNum_back x (h x (by simp))]
    dsimp only
    rw [mNumsF_back xs r (fun y hy => h y (by simp [hy]))]
theorem mNumsF_cut : ∀ (xs : List Int) (r : Nat), (∀ x ∈ xs, isNum x) → r < (xs.flatMap fun x => uB x.toNat).length → (mNumsF xs.length ((xs.flatMap fun x => uB x.toNat).take r) 0).2.2 = 3
  | [], r, _, h => by simp at h
  | x :: xs, r, hx, h => by
    rw [List.length_cons, mNumsF, List.flatMap_cons]
    dsimp only
    by_cases hr : r < (uB x.toNat).length
    · rw [List.take_append_of_le_length (Nat.le_of_lt hr), mNum_cut x (hx x (by simp)) r hr]
      exact mNumsF_keep _ _
    · rw [List.flatMap_cons, List.length_append] at h
      rw [List.take_append, List.take_of_length_le (by omega), mNum_back x (hx x (by simp))]
      exact mNumsF_cut xs _ (fun y hy => hx y (by simp [hy])) (by omega)
theorem mNum_zero3 (l : List Int) (h : (mNum l 0).2.2 = 3) : (mNum l 0).1 = 0 := by
  unfold mNum at h ⊢
  split at h
  · exact absurd h (by show ¬ (0 : Int) = 3; decide)
  · rename_i hne
    rw [if_neg hne]
/-- A beginning of what is written ends too early. -/
theorem mIns_cut (op A B : Int) (xs : List Int) (hc : fitC (besV op) A B xs) (hA : -9223372036854775808 ≤ A ∧ A ≤ 9223372036854775807) (r : Nat) (hr : r < (op :: besT (besV op) A B xs).length) : (mIns ((op :: besT (besV op) A B xs).take r) 0).e = 3 := by
  cases r with
  | zero => rw [List.take_zero]; decide
  | succ r =>
    rw [List.take_succ_cons]
    have e0 : ∀ t, mIns (op :: t) 0 = mBes (besV op) op t 0 := fun t => rfl
    rw [e0]
    rw [List.length_cons] at hr
    have hr' : r < (besT (besV op) A B xs).length := by omega
    clear hr
    generalize besV op = k at hc hr' ⊢
    rcases hc with ⟨rfl, rfl, rfl, rfl⟩ | ⟨rfl, hK, rfl, rfl⟩ | ⟨rfl, hN, rfl, rfl⟩ | ⟨rfl, hN, rfl, h16, hx⟩ | ⟨rfl, hN, rfl, rfl⟩ | ⟨rfl, hN, hM, rfl⟩ | ⟨rfl, rfl, rfl, rfl⟩ | ⟨rfl, h1, h2, rfl, rfl⟩ | ⟨rfl, rfl, rfl⟩
    · exact absurd hr' (by simp [besT])
    · have h0 : r = 0 := by
        have : (besT 2 A 0 []).length = 1 := rfl
        omega
      subst h0
      rfl
    · exact mNum_cut A hN r hr'
    · show (mNum (mNums ((uB xs.length ++ (xs.flatMap fun x => uB x.toNat) ++ uB A.toNat).take r) 0).2.1 (mNums ((uB xs.length ++ (xs.flatMap fun x => uB x.toNat) ++ uB A.toNat).take r) 0).2.2).2.2 = 3
      have hr2 : r < (uB xs.length ++ (xs.flatMap fun x => uB x.toNat) ++ uB A.toNat).length := hr'
      have hL : isNum ((xs.length : Nat) : Int) := ⟨by omega, by omega⟩
      have hLb : ∀ t, mNum (uB xs.length ++ t) 0 = (((xs.length : Nat) : Int), t, 0) := fun t => by
        have := mNum_back ((xs.length : Nat) : Int) hL t 0
        rw [Int.toNat_natCast] at this
        exact this
      by_cases hr1 : r < (uB xs.length).length
      · have hcut := mNum_cut ((xs.length : Nat) : Int) hL r (by rw [Int.toNat_natCast]; exact hr1)
        rw [Int.toNat_natCast] at hcut
        rw [List.append_assoc, List.take_append_of_le_length (Nat.le_of_lt hr1)]
        have hz := mNum_zero3 _ hcut
        have hm : (mNums ((uB xs.length).take r) 0).2.2 = 3 := by
          unfold mNums
          rw [hz, if_neg (by decide), hcut]
          rfl
        rw [hm]
        exact mNum_keep _ 3 (by decide)
      · rw [List.length_append, List.length_append] at hr2
        rw [List.append_assoc, List.take_append, List.take_of_length_le (by omega)]
        have hm : ∀ t, mNums (uB xs.length ++ t) 0 = mNumsF xs.length t 0 := by
          intro t
          unfold mNums
          rw [hLb t]
          dsimp only
          rw [if_neg (by omega), Int.toNat_natCast]
        rw [hm]
        by_cases hr3 : r - (uB xs.length).length < (xs.flatMap fun x => uB x.toNat).length
        · rw [List.take_append_of_le_length (Nat.le_of_lt hr3), mNumsF_cut xs _ hx hr3]
          exact mNum_keep _ 3 (by decide)
        · rw [List.take_append, List.take_of_length_le (by omega), mNumsF_back xs _ hx]
          exact mNum_cut A hN _ (by omega)
    · show (mZero (mNum ((uB A.toNat ++ [0]).take r) 0).2.1 (mNum ((uB A.toNat ++ [0]).take r) 0).2.2).2 = 3
      have hr2 : r < (uB A.toNat ++ [0]).length := hr'
      rw [List.length_append, List.length_singleton] at hr2
      by_cases hr1 : r < (uB A.toNat).length
      · rw [List.take_append_of_le_length (Nat.le_of_lt hr1), mNum_cut A hN r hr1]
        exact mZero_keep _
      · rw [List.take_append, List.take_of_length_le (by omega), mNum_back A hN, show r - (uB A.toNat).length = 0 by omega]
        rfl
    · show (mNum (mNum ((uB A.toNat ++ uB B.toNat).take r) 0).2.1 (mNum ((uB A.toNat ++ uB B.toNat).take r) 0).2.2).2.2 = 3
      have hr2 : r < (uB A.toNat ++ uB B.toNat).length := hr'
      rw [List.length_append] at hr2
      by_cases hr1 : r < (uB A.toNat).length
      · rw [List.take_append_of_le_length (Nat.le_of_lt hr1), mNum_cut A hN r hr1]
        exact mNum_keep _ 3 (by decide)
      · rw [List.take_append, List.take_of_length_le (by omega), mNum_back A hN]
        exact mNum_cut B hM _ (by omega)
    · have h0 : r = 0 := by
        have : (besT 7 0 0 []).length = 1 := rfl
        omega
      subst h0
      rfl
    · exact mSig_cut 32 A (Or.inl ⟨rfl, h1, h2⟩) r hr'
    · exact mSig_cut 64 A (Or.inr ⟨rfl, hA.1, hA.2⟩) r hr'
theorem besT_len (k A B : Int) (xs : List Int) (hc : fitC k A B xs) (hA : -9223372036854775808 ≤ A ∧ A ≤ 9223372036854775807) : (besT k A B xs).length ≤ 1000 := by
  have hflat : ∀ ys : List Int, (∀ x ∈ ys, isNum x) → (ys.flatMap fun x => uB x.toNat).length ≤ 5 * ys.length := by
    intro ys
    induction ys with
    | nil => intro _; simp
    | cons y ys ih =>
      intro h
      have h1 := uB_len5 y (h y (by simp))
      have h2 := ih (fun x hx => h x (by simp [hx]))
      rw [List.flatMap_cons, List.length_append, List.length_cons]
      omega
  rcases hc with ⟨rfl, rfl, rfl, rfl⟩ | ⟨rfl, hK, rfl, rfl⟩ | ⟨rfl, hN, rfl, rfl⟩ | ⟨rfl, hN, rfl, h16, hx⟩ | ⟨rfl, hN, rfl, rfl⟩ | ⟨rfl, hN, hM, rfl⟩ | ⟨rfl, rfl, rfl, rfl⟩ | ⟨rfl, h1, h2, rfl, rfl⟩ | ⟨rfl, rfl, rfl⟩
  · decide
  · show 1 ≤ 1000; omega
  · have := uB_len5 A hN
    show (uB A.toNat).length ≤ 1000; omega
  · have h1 := uB_len5 A hN
    have h2 := hflat xs hx
    have h3 := uB_len64 xs.length (by omega)
    show (uB xs.length ++ (xs.flatMap fun x => uB x.toNat) ++ uB A.toNat).length ≤ 1000
    rw [List.length_append, List.length_append]; omega
  · have := uB_len5 A hN
    show (uB A.toNat ++ [0]).length ≤ 1000
    rw [List.length_append, List.length_singleton]; omega
  · have := uB_len5 A hN
    have := uB_len5 B hM
    show (uB A.toNat ++ uB B.toNat).length ≤ 1000
    rw [List.length_append]; omega
  · decide
  · have := sB_len64 A hA.1 hA.2
    show (sB A).length ≤ 1000; omega
  · have := sB_len64 A hA.1 hA.2
    show (sB A).length ≤ 1000; omega
end Go.Proofs.Ytfmmefmpjejioaa
