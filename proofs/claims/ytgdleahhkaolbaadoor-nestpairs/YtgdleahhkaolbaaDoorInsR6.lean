/-
  What the program's own Read does.
-/
import Derived.Test.YtgdleahhkaolbaaDoorInsR5
import Derived.Deep.RegionWith
namespace Go.Proofs.YtgdleahhkaolbaaDoor
open Go.RowKit

/-- An instruction, what is left behind it, and the first error. -/
structure Got where
  op : Int
  A : Int
  B : Int
  To : List Int
  l : List Int
  e : Int
/-- What is read behind the first byte. -/
def mBes (k op : Int) (l1 : List Int) (a1 : Int) : Got :=
  if k = 0 then ⟨op, 0, 0, [], l1, fstE a1 6⟩
  else if k = 1 then ⟨op, 0, 0, [], l1, a1⟩
  else if k = 2 then ⟨op, (mKind l1 a1).1, 0, [], (mKind l1 a1).2.1, (mKind l1 a1).2.2⟩
  else if k = 3 then ⟨op, (mNum l1 a1).1, 0, [], (mNum l1 a1).2.1, (mNum l1 a1).2.2⟩
  else if k = 4 then ⟨op, (mNum (mNums l1 a1).2.1 (mNums l1 a1).2.2).1, 0, (mNums l1 a1).1, (mNum (mNums l1 a1).2.1 (mNums l1 a1).2.2).2.1, (mNum (mNums l1 a1).2.1 (mNums l1 a1).2.2).2.2⟩
  else if k = 5 then ⟨op, (mNum l1 a1).1, 0, [], (mZero (mNum l1 a1).2.1 (mNum l1 a1).2.2).1, (mZero (mNum l1 a1).2.1 (mNum l1 a1).2.2).2⟩
  else if k = 6 then ⟨op, (mNum l1 a1).1, (mNum (mNum l1 a1).2.1 (mNum l1 a1).2.2).1, [], (mNum (mNum l1 a1).2.1 (mNum l1 a1).2.2).2.1, (mNum (mNum l1 a1).2.1 (mNum l1 a1).2.2).2.2⟩
  else if k = 7 then ⟨op, 0, 0, [], (mZero l1 a1).1, (mZero l1 a1).2⟩
  else if k = 8 then ⟨op, (mSig 32 l1 a1).1, 0, [], (mSig 32 l1 a1).2.1, (mSig 32 l1 a1).2.2⟩
  else ⟨op, (mSig 64 l1 a1).1, 0, [], (mSig 64 l1 a1).2.1, (mSig 64 l1 a1).2.2⟩
/-- What is read. -/
def mIns (l : List Int) (a : Int) : Got := mBes (besV (mNext l a).1) (mNext l a).1 (mNext l a).2.1 (mNext l a).2.2
theorem besV_range (op : Int) : 0 ≤ besV op ∧ besV op ≤ 9 := by
  unfold besV
  repeat' split
  all_goals omega
theorem instr_any (P : Nat) (l : List Int) (a : Int) (w : World) (hr : RL w P l a) (hT : TabIn w) (hTP : 1 ≠ P) (ht0 : 1 < w.heap.size) :
    Calls Tryd.prog 57 #[.pointer (some ⟨P, 0, none⟩)] w fun r w' => ∃ v, r = .returned (.agg #[.int .u8 (mIns l a).op, .int .i64 (mIns l a).A, .int .i64 (mIns l a).B, v]) ∧ RL w' P (mIns l a).l (mIns l a).e ∧ Chg P w w' ∧ IsI w' w.heap.size v (mIns l a).To := by
  have hb := mNext_byte l a hr.byte
  have hbes : ∀ w, TabIn w → Calls Tryd.prog 53 #[.int .u8 (mNext l a).1] w fun r w' => r = .returned (.int .i64 (besV (mNext l a).1)) ∧ Below w.heap.size w w' := fun w h => bes_any (mNext l a).1 hb.1 (by omega) w h
  have hnx : ∀ w, RL w P l a → Calls Tryd.prog 87 #[.pointer (some ⟨P, 0, none⟩)] w fun r w' => r = .returned (.int .u8 (mNext l a).1) ∧ RL w' P (mNext l a).2.1 (mNext l a).2.2 ∧ Chg P w w' := fun w h => next_any P l a w h
  unfold mIns
  have hrg := besV_range (mNext l a).1
  generalize besV (mNext l a).1 = k at hbes hrg ⊢
  generalize (mNext l a).1 = op at hbes hnx ⊢
  generalize (mNext l a).2.1 = l1 at hnx ⊢
  generalize (mNext l a).2.2 = a1 at hnx ⊢
  rcases (show k = 0 ∨ k = 1 ∨ k = 2 ∨ k = 3 ∨ k = 4 ∨ k = 5 ∨ k = 6 ∨ k = 7 ∨ k = 8 ∨ k = 9 by omega) with rfl | rfl | rfl | rfl | rfl | rfl | rfl | rfl | rfl | rfl
  · refine (instr_0 P l l1 a a1 op w hnx hbes hr hT hTP ht0).mono ?_
    rintro r w1 ⟨rfl, r1, c1⟩
    exact ⟨_, rfl, r1, c1, Or.inl ⟨rfl, rfl⟩⟩
  · refine (instr_1 P l l1 a a1 op w hnx hbes hr hT hTP ht0).mono ?_
    rintro r w1 ⟨rfl, r1, c1⟩
    exact ⟨_, rfl, r1, c1, Or.inl ⟨rfl, rfl⟩⟩
  · refine (instr_2 P l l1 a a1 op w hnx hbes hr hT hTP ht0).mono ?_
    rintro r w1 ⟨rfl, r1, c1⟩
    exact ⟨_, rfl, r1, c1, Or.inl ⟨rfl, rfl⟩⟩
  · refine (instr_3 P l l1 a a1 op w hnx hbes hr hT hTP ht0).mono ?_
    rintro r w1 ⟨rfl, r1, c1⟩
    exact ⟨_, rfl, r1, c1, Or.inl ⟨rfl, rfl⟩⟩
  · exact instr_4 P l l1 a a1 op w hnx hbes hr hT hTP ht0
  · refine (instr_5 P l l1 a a1 op w hnx hbes hr hT hTP ht0).mono ?_
    rintro r w1 ⟨rfl, r1, c1⟩
    exact ⟨_, rfl, r1, c1, Or.inl ⟨rfl, rfl⟩⟩
  · refine (instr_6 P l l1 a a1 op w hnx hbes hr hT hTP ht0).mono ?_
    rintro r w1 ⟨rfl, r1, c1⟩
    exact ⟨_, rfl, r1, c1, Or.inl ⟨rfl, rfl⟩⟩
  · refine (instr_7 P l l1 a a1 op w hnx hbes hr hT hTP ht0).mono ?_
    rintro r w1 ⟨rfl, r1, c1⟩
    exact ⟨_, rfl, r1, c1, Or.inl ⟨rfl, rfl⟩⟩
  · refine (instr_8 P l l1 a a1 op w hnx hbes hr hT hTP ht0).mono ?_
    rintro r w1 ⟨rfl, r1, c1⟩
    exact ⟨_, rfl, r1, c1, Or.inl ⟨rfl, rfl⟩⟩
  · refine (instr_9 P l l1 a a1 op w hnx hbes hr hT hTP ht0).mono ?_
    rintro r w1 ⟨rfl, r1, c1⟩
    exact ⟨_, rfl, r1, c1, Or.inl ⟨rfl, rfl⟩⟩
end Go.Proofs.YtgdleahhkaolbaaDoor
