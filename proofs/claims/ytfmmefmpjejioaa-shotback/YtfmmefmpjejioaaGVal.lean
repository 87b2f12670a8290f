/-
  What the program's own fits and Check answer, for whatever instruction.
  What the program's own Check and Write answer, for whatever instruction.
  What is written is read back: the program's own Write, the laws' own SameIns, and the mathematics.
-/
import Derived.Test.YtfmmefmpjejioaaInsR5
import Derived.Test.YtfmmefmpjejioaaGWr
import Derived.Test.YtfmmefmpjejioaaGMth
import Derived.Test.YtfmmefmpjejioaaGRd8
namespace Go.Proofs.Ytfmmefmpjejioaa
open Go.RowKit

/-- A list of numbers that can be read in the world. -/
def LJ (w : World) (o : Option Addr) (n : Nat) (xs : List Int) : Prop := xs.length = n ∧ (n = 0 ∨ ∃ a : Addr, o = some a ∧ a.block < w.heap.size ∧ ∀ i, i < n → w.cell? (a.add i) = some (.int .i64 (xs.getD i 0)))
theorem add_block (a : Addr) (i : Nat) : (a.add i).block = a.block := by unfold Addr.add; split <;> rfl
theorem LJ.below {w w' : World} {o : Option Addr} {n : Nat} {xs : List Int} (h : LJ w o n xs) (hb : Below w.heap.size w w') : LJ w' o n xs := by
  obtain ⟨hl, h⟩ := h
  refine ⟨hl, ?_⟩
  rcases h with h | ⟨a, h1, h2, h3⟩
  · exact Or.inl h
  · exact Or.inr ⟨a, h1, Nat.lt_of_lt_of_le h2 hb.size, fun i hi => by rw [hb.cell (p := a.add i) (by rw [add_block]; exact h2)]; exact h3 i hi⟩
/-- A number that stands without a sign. -/
def numB (n : Int) : Bool := decide (0 ≤ n) && decide (n ≤ 4294967295)
/-- All of them are. -/
def allB (xs : List Int) : Bool := xs.all numB
/-- Whether what stands beside an instruction is as it must be. -/
def fitB (k A B : Int) (n : Nat) (xs : List Int) : Bool :=
  if k ≠ 4 ∧ 0 < n then false else if k ≠ 6 ∧ B ≠ 0 then false
  else if k = 2 then isKB A else if k = 8 then (decide (-2147483648 ≤ A) && decide (A ≤ 2147483647)) else if k = 9 then true
  else if k = 3 ∨ k = 4 ∨ k = 5 ∨ k = 6 then (numB A && numB B && allB xs) else A == 0
end Go.Proofs.Ytfmmefmpjejioaa
namespace Go.Proofs.Ytfmmefmpjejioaa
open Go.RowKit

/-- What Check answers. -/
def chkV (op A B : Int) (n : Nat) (xs : List Int) : Int := if besV op = 0 then 6 else if 16 < n then 2 else if fitB (besV op) A B n xs then 0 else 1
end Go.Proofs.Ytfmmefmpjejioaa
namespace Go.Proofs.Ytfmmefmpjejioaa
open Go.RowKit

theorem numB_num {n : Int} (h : numB n = true) : isNum n := by
  unfold numB at h
  simp only [Bool.and_eq_true, decide_eq_true_eq] at h
  exact h
theorem allB_num {xs : List Int} (h : allB xs = true) : ∀ x ∈ xs, isNum x := by
  unfold allB at h
  rw [List.all_eq_true] at h
  exact fun x hx => numB_num (h x hx)
theorem fitB_fit (k A B : Int) (n : Nat) (xs : List Int) (hk1 : 1 ≤ k) (hk9 : k ≤ 9) (hl : xs.length = n) (hn : n ≤ 16) (h : fitB k A B n xs = true) : fitC k A B xs := by
  unfold fitB at h
  by_cases h1 : k ≠ 4 ∧ 0 < n
  · rw [if_pos h1] at h; cases h
  rw [if_neg h1] at h
  by_cases h2 : k ≠ 6 ∧ B ≠ 0
  · rw [if_pos h2] at h; cases h
  rw [if_neg h2] at h
  have hx0 : k ≠ 4 → xs = [] := fun hk => List.length_eq_zero_iff.1 (by omega)
  rcases (show k = 1 ∨ k = 2 ∨ k = 3 ∨ k = 4 ∨ k = 5 ∨ k = 6 ∨ k = 7 ∨ k = 8 ∨ k = 9 by omega) with rfl | rfl | rfl | rfl | rfl | rfl | rfl | rfl | rfl
  · have hA : A = 0 := by simpa using h
    exact Or.inl ⟨rfl, hA, by omega, hx0 (by decide)⟩
  · exact Or.inr (Or.inl ⟨rfl, h, by omega, hx0 (by decide)⟩)
  · have h' : (numB A && numB B && allB xs) = true := h
    simp only [Bool.and_eq_true] at h'
    exact Or.inr (Or.inr (Or.inl ⟨rfl, numB_num h'.1.1, by omega, hx0 (by decide)⟩))
  · have h' : (numB A && numB B && allB xs) = true := h
    simp only [Bool.and_eq_true] at h'
    exact Or.inr (Or.inr (Or.inr (Or.inl ⟨rfl, numB_num h'.1.1, by omega, by omega, allB_num h'.2⟩)))
  · have h' : (numB A && numB B && allB xs) = true := h
    simp only [Bool.and_eq_true] at h'
    exact Or.inr (Or.inr (Or.inr (Or.inr (Or.inl ⟨rfl, numB_num h'.1.1, by omega, hx0 (by decide)⟩))))
  · have h' : (numB A && numB B && allB xs) = true := h
    simp only [Bool.and_eq_true] at h'
    exact Or.inr (Or.inr (Or.inr (Or.inr (Or.inr (Or.inl ⟨rfl, numB_num h'.1.1, numB_num h'.1.2, hx0 (by decide)⟩)))))
  · have hA : A = 0 := by simpa using h
    exact Or.inr (Or.inr (Or.inr (Or.inr (Or.inr (Or.inr (Or.inl ⟨rfl, hA, by omega, hx0 (by decide)⟩))))))
  · have h' : (decide (-2147483648 ≤ A) && decide (A ≤ 2147483647)) = true := h
    simp only [Bool.and_eq_true, decide_eq_true_eq] at h'
    exact Or.inr (Or.inr (Or.inr (Or.inr (Or.inr (Or.inr (Or.inr (Or.inl ⟨rfl, h'.1, h'.2, by omega, hx0 (by decide)⟩)))))))
  · exact Or.inr (Or.inr (Or.inr (Or.inr (Or.inr (Or.inr (Or.inr (Or.inr ⟨rfl, by omega, hx0 (by decide)⟩)))))))
theorem mSig_back (B x : Int) (m : Nat) (hB : (B = 32 ∧ m = 4 ∧ -2147483648 ≤ x ∧ x < 2147483648) ∨ (B = 64 ∧ m = 9 ∧ -9223372036854775808 ≤ x ∧ x < 9223372036854775808)) (r : List Int) : mSig B (sB x ++ r) 0 = (x, r, 0) := by
  have hb := backS B x m r hB
  unfold mSig
  rw [hb]
  simp only [if_true, Int.toNat_natCast, List.drop_left]
/-- What is written is read as it was, whatever stands behind. -/
theorem mIns_back (op A B : Int) (xs : List Int) (hc : fitC (besV op) A B xs) (hA : -9223372036854775808 ≤ A ∧ A ≤ 9223372036854775807) (more : List Int) : mIns ((op :: besT (besV op) A B xs) ++ more) 0 = ⟨op, A, B, xs, more, 0⟩ := by
  have e0 : ∀ t, mIns (op :: t) 0 = mBes (besV op) op t 0 := fun t => rfl
  rw [List.cons_append, e0]
  generalize besV op = k at hc ⊢
  rcases hc with ⟨rfl, rfl, rfl, rfl⟩ | ⟨rfl, hK, rfl, rfl⟩ | ⟨rfl, hN, rfl, rfl⟩ | ⟨rfl, hN, rfl, h16, hx⟩ | ⟨rfl, hN, rfl, rfl⟩ | ⟨rfl, hN, hM, rfl⟩ | ⟨rfl, rfl, rfl, rfl⟩ | ⟨rfl, h1, h2, rfl, rfl⟩ | ⟨rfl, rfl, rfl⟩
  · rfl
  · show (⟨op, (mKind (A :: more) 0).1, 0, [], (mKind (A :: more) 0).2.1, (mKind (A :: more) 0).2.2⟩ : Got) = _
    have : mKind (A :: more) 0 = (A, more, 0) := by
      unfold mKind
      show (A, more, if isKB A then (0 : Int) else fstE 0 6) = _
      rw [if_pos hK]
    rw [this]
  · show (⟨op, (mNum (uB A.toNat ++ more) 0).1, 0, [], (mNum (uB A.toNat ++ more) 0).2.1, (mNum (uB A.toNat ++ more) 0).2.2⟩ : Got) = _
    rw [mNum_back A hN]
  · show (⟨op, (mNum (mNums (uB xs.length ++ (xs.flatMap fun x => uB x.toNat) ++ uB A.toNat ++ more) 0).2.1 (mNums (uB xs.length ++ (xs.flatMap fun x => uB x.toNat) ++ uB A.toNat ++ more) 0).2.2).1, 0, (mNums (uB xs.length ++ (xs.flatMap fun x => uB x.toNat) ++ uB A.toNat ++ more) 0).1, (mNum (mNums (uB xs.length ++ (xs.flatMap fun x => uB x.toNat) ++ uB A.toNat ++ more) 0).2.1 (mNums (uB xs.length ++ (xs.flatMap fun x => uB x.toNat) ++ uB A.toNat ++ more) 0).2.2).2.1, (mNum (mNums (uB xs.length ++ (xs.flatMap fun x => uB x.toNat) ++ uB A.toNat ++ more) 0).2.1 (mNums (uB xs.length ++ (xs.flatMap fun x => uB x.toNat) ++ uB A.toNat ++ more) 0).2.2).2.2⟩ : Got) = _
    have hm : mNums (uB xs.length ++ (xs.flatMap fun x => uB x.toNat) ++ uB A.toNat ++ more) 0 = (xs, uB A.toNat ++ more, 0) := by
      have hL : isNum ((xs.length : Nat) : Int) := ⟨by omega, by omega⟩
      have hb := mNum_back ((xs.length : Nat) : Int) hL ((xs.flatMap fun x => uB x.toNat) ++ (uB A.toNat ++ more)) 0
      rw [Int.toNat_natCast] at hb
      rw [List.append_assoc, List.append_assoc]
      unfold mNums
      rw [hb]
      dsimp only
      rw [if_neg (by omega), Int.toNat_natCast, mNumsF_back xs _ hx]
    rw [hm]
    dsimp only
    rw [mNum_back A hN]
  · show (⟨op, (mNum (uB A.toNat ++ [0] ++ more) 0).1, 0, [], (mZero (mNum (uB A.toNat ++ [0] ++ more) 0).2.1 (mNum (uB A.toNat ++ [0] ++ more) 0).2.2).1, (mZero (mNum (uB A.toNat ++ [0] ++ more) 0).2.1 (mNum (uB A.toNat ++ [0] ++ more) 0).2.2).2⟩ : Got) = _
    rw [List.append_assoc, mNum_back A hN]
    rfl
  · show (⟨op, (mNum (uB A.toNat ++ uB B.toNat ++ more) 0).1, (mNum (mNum (uB A.toNat ++ uB B.toNat ++ more) 0).2.1 (mNum (uB A.toNat ++ uB B.toNat ++ more) 0).2.2).1, [], (mNum (mNum (uB A.toNat ++ uB B.toNat ++ more) 0).2.1 (mNum (uB A.toNat ++ uB B.toNat ++ more) 0).2.2).2.1, (mNum (mNum (uB A.toNat ++ uB B.toNat ++ more) 0).2.1 (mNum (uB A.toNat ++ uB B.toNat ++ more) 0).2.2).2.2⟩ : Got) = _
    rw [List.append_assoc, mNum_back A hN]
    dsimp only
    rw [mNum_back B hM]
  · rfl
  · show (⟨op, (mSig 32 (sB A ++ more) 0).1, 0, [], (mSig 32 (sB A ++ more) 0).2.1, (mSig 32 (sB A ++ more) 0).2.2⟩ : Got) = _
    rw [mSig_back 32 A 4 (Or.inl ⟨rfl, rfl, h1, by omega⟩)]
  · show (⟨op, (mSig 64 (sB A ++ more) 0).1, 0, [], (mSig 64 (sB A ++ more) 0).2.1, (mSig 64 (sB A ++ more) 0).2.2⟩ : Got) = _
    rw [mSig_back 64 A 9 (Or.inr ⟨rfl, rfl, hA.1, by omega⟩)]
set_option maxHeartbeats 4000000 in
set_option maxRecDepth 1000000 in
theorem eq_any (o o' : Option Addr) (xs : List Int) (n cap cap' : Nat) (_hcap : n ≤ cap) (_hcap' : n ≤ cap') (_hm : cap ≤ 9223372036854775807) (_hm' : cap' ≤ 9223372036854775807) (w : World) (h : LJ w o n xs) (h' : LJ w o' n xs) : Calls Try.prog 24 #[.slice o n cap, .slice o' n cap'] w fun r w' => r = .returned (.bool true) ∧ w' = w := by
  have HH : Hid (LJ w o n xs) := h
  have HH' : Hid (LJ w o' n xs) := h'
  clear h h'
  go_enter Try.func24, Try.ntmps24
  go_wp2
  go_loop [14] (fun i => ∃ k : Nat, i = .int .i64 k ∧ k ≤ n) (fun i => n - (intOf i).toNat)
  case atStart => exact ⟨0, rfl, by omega⟩
  case round =>
    obtain ⟨k, rfl, hk⟩ := hrel
    by_cases hlt : k < n
    · rcases HH.out.2 with h0 | ⟨a, rfl, _, hc⟩
      · omega
      rcases HH'.out.2 with h0 | ⟨a', rfl, _, hc'⟩
      · omega
      have hcell := hc k hlt
      have hcell' := hc' k hlt
      generalize xs.getD k 0 = x at hcell hcell'
      have hki0 : (0 : Int) ≤ (k : Int) := by omega
      have hki1 : (k : Int) < (n : Int) := by omega
      clear hc hc' HH HH'
      go_wp2
      go_round
      case rel => exact ⟨k + 1, by go_num, by omega⟩
      case measure => simp [intOf]; omega
    · go_wp2
      go_ret
      exact ⟨rfl, rfl⟩
end Go.Proofs.Ytfmmefmpjejioaa
