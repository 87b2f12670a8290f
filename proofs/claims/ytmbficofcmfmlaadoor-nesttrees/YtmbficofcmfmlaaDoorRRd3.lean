/-
  What the document's own InsRead answers is what the program's own Read answers.
-/
import Derived.Test.YtmbficofcmfmlaaDoorRRd2
import Derived.Test.YtmbficofcmfmlaaDoorGMth
namespace Go.Proofs.YtmbficofcmfmlaaDoor
open Go.RowKit

/-- The letters beside an instruction, by what the program makes of them. -/
def letF (k : Int) : ByteArray :=
  if k = 0 then ⟨#[63]⟩ else if k = 1 then ⟨#[]⟩ else if k = 2 then ⟨#[107]⟩ else if k = 3 then ⟨#[97]⟩ else if k = 4 then ⟨#[116]⟩ else
  if k = 5 then ⟨#[97, 122]⟩ else if k = 6 then ⟨#[97, 98]⟩ else if k = 7 then ⟨#[122]⟩ else if k = 8 then ⟨#[99]⟩ else ⟨#[100]⟩
def besF2 (n V : Int) (T : List UInt8) : List UInt8 :=
  if 2 ≤ n ∧ n ≤ 4 then [107] else
  if n = 12 ∨ n = 13 ∨ n = 16 ∨ (32 ≤ n ∧ n ≤ 36) then [97] else
  if n = 14 then [116] else
  if n = 17 then [97, 122] else
  if 0 < V then [97, 98] else
  if n = 63 ∨ n = 64 then [122] else
  if n = 65 then [99] else
  if n = 66 then [100] else
  if n = 0 ∨ n = 1 ∨ n = 5 ∨ n = 11 ∨ n = 15 ∨ n = 26 ∨ n = 27 ∨ (!T == [63]) = true then [] else
  [63]
theorem besF_2 (n V : Int) (T : ByteArray) : (besF n V T).data.toList = besF2 n V T.data.toList := by
  simp only [besF, besF2, Lib.toList_data]
  repeat' split
  all_goals rfl
theorem bes_letF (op : Nat) (h : op < 256) : besL op = letF (besV op) := by
  have key : ∀ op : Fin 256, besF2 (op.val : Int) (insW (op.val : Int)) (takL (op.val : Int)).data.toList = (letF (besV (op.val : Int))).data.toList := by decide +kernel
  have := key ⟨op, h⟩
  have e := besF_2 op (insW op) (takL op)
  rw [this] at e
  apply ByteArray.ext
  exact Array.toList_inj.1 e
theorem ok0 : LettersOk ⟨#[]⟩ := by
  intro pos h
  have h1 : (⟨#[]⟩ : ByteArray).size = 0 := rfl
  omega
theorem ok1 (c : UInt8) (hc : (c.toNat = 107 ∨ c.toNat = 97 ∨ c.toNat = 98 ∨ c.toNat = 122 ∨ c.toNat = 99 ∨ c.toNat = 100 ∨ c.toNat = 63) ∨ (c.toNat = 116 ∧ 0 = 0)) : LettersOk ⟨#[c]⟩ := by
  intro pos h
  have h1 : (⟨#[c]⟩ : ByteArray).size = 1 := rfl
  obtain rfl : pos = 0 := by omega
  exact hc
theorem ok2 (c d : UInt8) (hc : c.toNat = 107 ∨ c.toNat = 97 ∨ c.toNat = 98 ∨ c.toNat = 122 ∨ c.toNat = 99 ∨ c.toNat = 100 ∨ c.toNat = 63) (hd : d.toNat = 107 ∨ d.toNat = 97 ∨ d.toNat = 98 ∨ d.toNat = 122 ∨ d.toNat = 99 ∨ d.toNat = 100 ∨ d.toNat = 63) : LettersOk ⟨#[c, d]⟩ := by
  intro pos h
  have h1 : (⟨#[c, d]⟩ : ByteArray).size = 2 := rfl
  rcases (show pos = 0 ∨ pos = 1 by omega) with rfl | rfl
  · exact Or.inl hc
  · exact Or.inl hd
theorem letF_ok (k : Int) : LettersOk (letF k) := by
  unfold letF
  repeat' split
  all_goals first | exact ok0 | exact ok1 _ (by decide) | exact ok2 _ _ (by decide) (by decide)
theorem mNumsF_keepA : ∀ (n : Nat) (l : List Int) (a : Int), a ≠ 0 → (mNumsF n l a).2.2 = a
  | 0, _, _, _ => rfl
  | n + 1, l, a, h => by
    rw [mNumsF]
    show (mNumsF n (mNum l a).2.1 (mNum l a).2.2).2.2 = a
    rw [mNum_keep l a h]
    exact mNumsF_keepA n _ a h
theorem qF_mF : ∀ (n : Nat) (l : List Int) (a : Int), (qNumsF n l a).2.2 = (mNumsF n l a).2.2 ∧ ((mNumsF n l a).2.2 = 0 → qNumsF n l a = mNumsF n l a)
  | 0, _, _ => ⟨rfl, fun _ => rfl⟩
  | n + 1, l, a => by
    by_cases h : a = 0
    · subst h
      have ih := qF_mF n (mNum l 0).2.1 (mNum l 0).2.2
      rw [qNumsF, if_pos rfl, mNumsF]
      have e : qNum l 0 = mNum l 0 := by unfold qNum; rw [if_pos rfl]
      rw [e]
      refine ⟨ih.1, fun h0 => ?_⟩
      rw [ih.2 h0]
    · rw [qNumsF_bad _ _ _ h]
      have := mNumsF_keepA (n + 1) l a h
      exact ⟨this.symm, fun h0 => absurd (this.symm.trans h0) h⟩
theorem qNum_m (l : List Int) (a : Int) : (qNum l a).2.2 = (mNum l a).2.2 ∧ ((mNum l a).2.2 = 0 → qNum l a = mNum l a) := by
  unfold qNum
  by_cases h : a = 0
  · subst h
    rw [if_pos rfl]
    exact ⟨rfl, fun _ => rfl⟩
  · rw [if_neg h]
    have := mNum_keep l a h
    exact ⟨this.symm, fun h0 => absurd (this.symm.trans h0) h⟩
theorem mZero_keepA (l : List Int) (a : Int) (h : a ≠ 0) : (mZero l a).2 = a := by
  unfold mZero
  cases l with
  | nil =>
    show (if (0 : Int) = 0 then fstE a 3 else fstE (fstE a 3) 4) = a
    rw [if_pos rfl, fstE_ne h]
  | cons b r =>
    show (if b = 0 then a else fstE a 4) = a
    rw [fstE_ne h]
    split <;> rfl
/-- What is read, behind the first byte. -/
def qRead (k : Int) (l1 : List Int) (a1 : Int) : QSt := qFold (nums (letF k)) ⟨0, 0, [], l1, if ((letF k).toList == [63]) = true then fstE a1 6 else a1⟩
theorem nums_letF (k : Int) : nums (letF k) = if k = 0 then [63] else if k = 1 then [] else if k = 2 then [107] else if k = 3 then [97] else if k = 4 then [116] else if k = 5 then [97, 122] else if k = 6 then [97, 98] else if k = 7 then [122] else if k = 8 then [99] else [100] := by
  unfold letF
  repeat' split
  all_goals rfl
theorem quest_letF (k : Int) (h : k ≠ 0) : ((letF k).toList == [63]) = false := by
  rw [Lib.toList_data]
  unfold letF
  rw [if_neg h]
  repeat' split
  all_goals rfl
theorem q_1 (l1 : List Int) (a1 : Int) : qRead 1 l1 a1 = ⟨0, 0, [], l1, a1⟩ := by
  unfold qRead
  rw [quest_letF 1 (by decide), nums_letF]
  rfl
theorem q_m (k op : Int) (l1 : List Int) (h0 : 0 ≤ k) (h9 : k ≤ 9) : (qRead k l1 0).a = (mBes k op l1 0).e ∧ ((mBes k op l1 0).e = 0 → (qRead k l1 0).A = (mBes k op l1 0).A ∧ (qRead k l1 0).B = (mBes k op l1 0).B ∧ (qRead k l1 0).To = (mBes k op l1 0).To ∧ (qRead k l1 0).l = (mBes k op l1 0).l) := by
  have eN : ∀ l, qNext l 0 = mNext l 0 := fun l => by unfold qNext; rw [if_pos rfl]
  have eU : ∀ l, qNum l 0 = mNum l 0 := fun l => by unfold qNum; rw [if_pos rfl]
  have eS : ∀ B l, qSig B l 0 = mSig B l 0 := fun B l => by unfold qSig; rw [if_pos rfl]
  rcases (show k = 0 ∨ k = 1 ∨ k = 2 ∨ k = 3 ∨ k = 4 ∨ k = 5 ∨ k = 6 ∨ k = 7 ∨ k = 8 ∨ k = 9 by omega) with rfl | rfl | rfl | rfl | rfl | rfl | rfl | rfl | rfl | rfl
  · have e : (qRead 0 l1 0).a = 6 := by
      unfold qRead
      rw [show ((letF 0).toList == [63]) = true by rw [Lib.toList_data]; rfl, nums_letF]
      rfl
    exact ⟨e, fun h => by cases h⟩
  · rw [q_1]
    exact ⟨rfl, fun _ => ⟨rfl, rfl, rfl, rfl⟩⟩
  · have e : qRead 2 l1 0 = qStep 107 ⟨0, 0, [], l1, 0⟩ := by
      unfold qRead
      rw [quest_letF 2 (by decide), nums_letF]
      rfl
    rw [e]
    show (if isKB (qNext l1 0).1 = true then (qNext l1 0).2.2 else fstE (qNext l1 0).2.2 6) = (mKind l1 0).2.2 ∧ ((mKind l1 0).2.2 = 0 → (qNext l1 0).1 = (mKind l1 0).1 ∧ (0 : Int) = 0 ∧ ([] : List Int) = [] ∧ (qNext l1 0).2.1 = (mKind l1 0).2.1)
    rw [eN]
    exact ⟨rfl, fun _ => ⟨rfl, rfl, rfl, rfl⟩⟩
  · have e : qRead 3 l1 0 = qStep 97 ⟨0, 0, [], l1, 0⟩ := by
      unfold qRead
      rw [quest_letF 3 (by decide), nums_letF]
      rfl
    rw [e]
    show (qNum l1 0).2.2 = (mNum l1 0).2.2 ∧ ((mNum l1 0).2.2 = 0 → (qNum l1 0).1 = (mNum l1 0).1 ∧ (0 : Int) = 0 ∧ ([] : List Int) = [] ∧ (qNum l1 0).2.1 = (mNum l1 0).2.1)
    rw [eU]
    exact ⟨rfl, fun _ => ⟨rfl, rfl, rfl, rfl⟩⟩
  · have e : qRead 4 l1 0 = qTab ⟨0, 0, [], l1, 0⟩ := by
      unfold qRead
      rw [quest_letF 4 (by decide), nums_letF]
      rfl
    rw [e]
    show (qTab ⟨0, 0, [], l1, 0⟩).a = (mNum (mNums l1 0).2.1 (mNums l1 0).2.2).2.2 ∧ ((mNum (mNums l1 0).2.1 (mNums l1 0).2.2).2.2 = 0 → (qTab ⟨0, 0, [], l1, 0⟩).A = (mNum (mNums l1 0).2.1 (mNums l1 0).2.2).1 ∧ (qTab ⟨0, 0, [], l1, 0⟩).B = 0 ∧ (qTab ⟨0, 0, [], l1, 0⟩).To = (mNums l1 0).1 ∧ (qTab ⟨0, 0, [], l1, 0⟩).l = (mNum (mNums l1 0).2.1 (mNums l1 0).2.2).2.1)
    unfold qTab
    simp only [eU]
    unfold mNums
    by_cases h16 : (mNum l1 0).1 > 16
    · simp only [if_pos h16]
      have hne : fstE (mNum l1 0).2.2 2 ≠ 0 := by
        unfold fstE
        split
        · decide
        · assumption
      rw [qNumsF_bad _ _ _ hne]
      have e1 := mNum_keep (mNum l1 0).2.1 _ hne
      have e2 : qNum (mNum l1 0).2.1 (fstE (mNum l1 0).2.2 2) = (0, (mNum l1 0).2.1, fstE (mNum l1 0).2.2 2) := by unfold qNum; rw [if_neg hne]
      simp only [e2]
      rw [e1]
      exact ⟨rfl, fun h => absurd h hne⟩
    · simp only [if_neg h16]
      have f := qF_mF (mNum l1 0).1.toNat (mNum l1 0).2.1 (mNum l1 0).2.2
      generalize qNumsF (mNum l1 0).1.toNat (mNum l1 0).2.1 (mNum l1 0).2.2 = qf at f ⊢
      generalize mNumsF (mNum l1 0).1.toNat (mNum l1 0).2.1 (mNum l1 0).2.2 = mf at f ⊢
      by_cases hz : mf.2.2 = 0
      · rw [f.2 hz]
        have g := qNum_m mf.2.1 mf.2.2
        refine ⟨g.1, fun h => ?_⟩
        rw [g.2 h]
        exact ⟨rfl, trivial, rfl, rfl⟩
      · have hq : qf.2.2 ≠ 0 := by rw [f.1]; exact hz
        have e1 := mNum_keep mf.2.1 _ hz
        have e2 : qNum qf.2.1 qf.2.2 = (0, qf.2.1, qf.2.2) := by unfold qNum; rw [if_neg hq]
        simp only [e2]
        rw [e1]
        exact ⟨f.1, fun h => absurd h hz⟩
  · have e : qRead 5 l1 0 = qStep 122 (qStep 97 ⟨0, 0, [], l1, 0⟩) := by
      unfold qRead
      rw [quest_letF 5 (by decide), nums_letF]
      rfl
    rw [e]
    show (if (qNext (qNum l1 0).2.1 (qNum l1 0).2.2).1 = 0 then (qNext (qNum l1 0).2.1 (qNum l1 0).2.2).2.2 else fstE (qNext (qNum l1 0).2.1 (qNum l1 0).2.2).2.2 4) = (mZero (mNum l1 0).2.1 (mNum l1 0).2.2).2 ∧ ((mZero (mNum l1 0).2.1 (mNum l1 0).2.2).2 = 0 → (qNum l1 0).1 = (mNum l1 0).1 ∧ (0 : Int) = 0 ∧ ([] : List Int) = [] ∧ (qNext (qNum l1 0).2.1 (qNum l1 0).2.2).2.1 = (mZero (mNum l1 0).2.1 (mNum l1 0).2.2).1)
    rw [eU]
    generalize mNum l1 0 = m
    by_cases hz : m.2.2 = 0
    · rw [hz, eN]
      exact ⟨rfl, fun _ => ⟨rfl, rfl, rfl, rfl⟩⟩
    · have e1 := mZero_keepA m.2.1 m.2.2 hz
      have e2 : qNext m.2.1 m.2.2 = (0, m.2.1, m.2.2) := by unfold qNext; rw [if_neg hz]
      rw [e1, e2]
      exact ⟨rfl, fun h => absurd h hz⟩
  · have e : qRead 6 l1 0 = qStep 98 (qStep 97 ⟨0, 0, [], l1, 0⟩) := by
      unfold qRead
      rw [quest_letF 6 (by decide), nums_letF]
      rfl
    rw [e]
    show (qNum (qNum l1 0).2.1 (qNum l1 0).2.2).2.2 = (mNum (mNum l1 0).2.1 (mNum l1 0).2.2).2.2 ∧ ((mNum (mNum l1 0).2.1 (mNum l1 0).2.2).2.2 = 0 → (qNum l1 0).1 = (mNum l1 0).1 ∧ (qNum (qNum l1 0).2.1 (qNum l1 0).2.2).1 = (mNum (mNum l1 0).2.1 (mNum l1 0).2.2).1 ∧ ([] : List Int) = [] ∧ (qNum (qNum l1 0).2.1 (qNum l1 0).2.2).2.1 = (mNum (mNum l1 0).2.1 (mNum l1 0).2.2).2.1)
    rw [eU]
    have g := qNum_m (mNum l1 0).2.1 (mNum l1 0).2.2
    refine ⟨g.1, fun h => ?_⟩
    rw [g.2 h]
    exact ⟨rfl, rfl, rfl, rfl⟩
  · have e : qRead 7 l1 0 = qStep 122 ⟨0, 0, [], l1, 0⟩ := by
      unfold qRead
      rw [quest_letF 7 (by decide), nums_letF]
      rfl
    rw [e]
    show (if (qNext l1 0).1 = 0 then (qNext l1 0).2.2 else fstE (qNext l1 0).2.2 4) = (mZero l1 0).2 ∧ ((mZero l1 0).2 = 0 → (0 : Int) = 0 ∧ (0 : Int) = 0 ∧ ([] : List Int) = [] ∧ (qNext l1 0).2.1 = (mZero l1 0).1)
    rw [eN]
    exact ⟨rfl, fun _ => ⟨rfl, rfl, rfl, rfl⟩⟩
  · have e : qRead 8 l1 0 = qStep 99 ⟨0, 0, [], l1, 0⟩ := by
      unfold qRead
      rw [quest_letF 8 (by decide), nums_letF]
      rfl
    rw [e]
    show (qSig 32 l1 0).2.2 = (mSig 32 l1 0).2.2 ∧ ((mSig 32 l1 0).2.2 = 0 → (qSig 32 l1 0).1 = (mSig 32 l1 0).1 ∧ (0 : Int) = 0 ∧ ([] : List Int) = [] ∧ (qSig 32 l1 0).2.1 = (mSig 32 l1 0).2.1)
    rw [eS]
    exact ⟨rfl, fun _ => ⟨rfl, rfl, rfl, rfl⟩⟩
  · have e : qRead 9 l1 0 = qStep 100 ⟨0, 0, [], l1, 0⟩ := by
      unfold qRead
      rw [quest_letF 9 (by decide), nums_letF]
      rfl
    rw [e]
    show (qSig 64 l1 0).2.2 = (mSig 64 l1 0).2.2 ∧ ((mSig 64 l1 0).2.2 = 0 → (qSig 64 l1 0).1 = (mSig 64 l1 0).1 ∧ (0 : Int) = 0 ∧ ([] : List Int) = [] ∧ (qSig 64 l1 0).2.1 = (mSig 64 l1 0).2.1)
    rw [eS]
    exact ⟨rfl, fun _ => ⟨rfl, rfl, rfl, rfl⟩⟩
theorem mBes_op (k op : Int) (l1 : List Int) (a1 : Int) : (mBes k op l1 a1).op = op := by
  unfold mBes
  repeat' split
  all_goals rfl
/-- The document's own reader answers as the program's. -/
theorem rread_any (s : ByteArray) (hs : s.size ≤ maxLen) (w : World) (hM : MaxIn w) :
    Calls Tryd.prog 35 #[.string s] w fun r w' => Below w.heap.size w w' ∧
      ((¬ (mIns (nums s) 0).e = 0 ∧ r = .returned (.tuple #[.agg #[.int .u8 0, .int .i64 0, .int .i64 0, .slice none 0 0], .int .i64 0, .int .i64 (mIns (nums s) 0).e])) ∨
       ((mIns (nums s) 0).e = 0 ∧ ∃ o cap, r = .returned (.tuple #[.agg #[.int .u8 (mIns (nums s) 0).op, .int .i64 (mIns (nums s) 0).A, .int .i64 (mIns (nums s) 0).B, .slice o (mIns (nums s) 0).To.length cap], .int .i64 ((s.size : Int) - ((mIns (nums s) 0).l.length : Int)), .int .i64 0]) ∧ w'.ownsRow w.heap.size 2 1 (.slice o (mIns (nums s) 0).To.length cap) (mIns (nums s) 0).To.length ((mIns (nums s) 0).To.map (Value.int .i64)))) := by
  have hb := mNext_byte (nums s) 0 (nums_byte s)
  obtain ⟨⟨op, l1, a1⟩, hm⟩ : ∃ m, mNext (nums s) 0 = m := ⟨_, rfl⟩
  rw [hm] at hb
  dsimp only at hb
  obtain ⟨h0, h1⟩ := hb
  have hmi : mIns (nums s) 0 = mBes (besV op) op l1 a1 := by unfold mIns; rw [hm]
  rw [hmi]
  have hrg := besV_range op
  have key : (qRead (besV op) l1 a1).a = (mBes (besV op) op l1 a1).e ∧ ((mBes (besV op) op l1 a1).e = 0 → (qRead (besV op) l1 a1).A = (mBes (besV op) op l1 a1).A ∧ (qRead (besV op) l1 a1).B = (mBes (besV op) op l1 a1).B ∧ (qRead (besV op) l1 a1).To = (mBes (besV op) op l1 a1).To ∧ (qRead (besV op) l1 a1).l = (mBes (besV op) op l1 a1).l) := by
    cases hl : nums s with
    | nil =>
      rw [hl] at hm
      cases hm
      have e : besV 0 = 1 := by decide
      rw [e, q_1]
      exact ⟨rfl, fun _ => ⟨rfl, rfl, rfl, rfl⟩⟩
    | cons b r =>
      rw [hl] at hm
      cases hm
      exact q_m (besV op) op l1 hrg.1 hrg.2
  have hop := mBes_op (besV op) op l1 a1
  have hbes : ∀ w', Below w.heap.size w w' → Calls Tryd.prog 50 #[.int .u8 op] w' fun e w'' => e = .returned (.string (letF (besV op))) ∧ Below w'.heap.size w' w'' := fun w' b => by
    obtain ⟨k, rfl⟩ : ∃ k : Nat, op = (k : Int) := ⟨op.toNat, by omega⟩
    rw [← bes_letF k (by omega)]
    exact rbeside_any k (by omega) w' (hM.below b)
  refine (rread_core s (letF (besV op)) hs (letF_ok _) l1 op a1 h0 h1 _ rfl (qRead (besV op) l1 a1) w hm hbes rfl).mono ?_
  rintro r w1 ⟨b, hr⟩
  refine ⟨b, ?_⟩
  generalize mBes (besV op) op l1 a1 = M at key hop ⊢
  generalize qRead (besV op) l1 a1 = Q at key hr
  rcases hr with ⟨hne, hr⟩ | ⟨he, o, cap, hr, hown⟩
  · rw [key.1] at hne hr
    exact Or.inl ⟨hne, hr⟩
  · rw [key.1] at he
    obtain ⟨e1, e2, e3, e4⟩ := key.2 he
    rw [e1, e2, e3, e4, ← hop] at hr
    rw [e3] at hown
    exact Or.inr ⟨he, o, cap, hr, hown⟩

end Go.Proofs.YtmbficofcmfmlaaDoor
