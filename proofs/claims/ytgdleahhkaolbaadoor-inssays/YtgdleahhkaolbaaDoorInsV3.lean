/-
  What is written is read back: the program's own Write, the laws' own SameIns, and the mathematics.
-/
import Derived.Test.YtgdleahhkaolbaaDoorInsV2
import Derived.Test.YtgdleahhkaolbaaDoorInsR8
namespace Go.Proofs.YtgdleahhkaolbaaDoor
open Go.RowKit

theorem numB_num {n : Int} (h : numB n = true) : isNum n := by
  unfold numB at h
  simp only [Bool.and_eq_true, decide_eq_true_eq] at h
  exact h
theorem allB_num {xs : List Int} (h : allB xs = true) : ∀ x ∈ xs, isNum x := by
  unfold allB at h
  rw [List.all_eq_true] at h
  exact fun x hx => numB_num (h x hx)
theorem fitB_fit (k A B : Int) (n : Nat) (xs : List Int) (hk1 : 1 ≤ k) (hk9 : k ≤ 9) (hl : xs.length = n) (hn : n ≤ 16) (h : fitB k A B n xs = true) : fitC k A B xs := by
  unfold fitB at h
  by_cases h1 : k ≠ 4 ∧ 0 < n
  · rw [if_pos h1] at h; cases h
  rw [if_neg h1] at h
  by_cases h2 : k ≠ 6 ∧ B ≠ 0
  · rw [if_pos h2] at h; cases h
  rw [if_neg h2] at h
  have hx0 : k ≠ 4 → xs = [] := fun hk => List.length_eq_zero_iff.1 (by omega)
  rcases (show k = 1 ∨ k = 2 ∨ k = 3 ∨ k = 4 ∨ k = 5 ∨ k = 6 ∨ k = 7 ∨ k = 8 ∨ k = 9 by omega) with rfl | rfl | rfl | rfl | rfl | rfl | rfl | rfl | rfl
  · have hA : A = 0 := by simpa using h
    exact Or.inl ⟨rfl, hA, by omega, hx0 (by decide)⟩
  · exact Or.inr (Or.inl ⟨rfl, h, by omega, hx0 (by decide)⟩)
  · have h' : (numB A && numB B && allB xs) = true := h
    simp only [Bool.and_eq_true] at h'
    exact Or.inr (Or.inr (Or.inl ⟨rfl, numB_num h'.1.1, by omega, hx0 (by decide)⟩))
  · have h' : (numB A && numB B && allB xs) = true := h
    simp only [Bool.and_eq_true] at h'
    exact Or.inr (Or.inr (Or.inr (Or.inl ⟨rfl, numB_num h'.1.1, by omega, by omega, allB_num h'.2⟩)))
  · have h' : (numB A && numB B && allB xs) = true := h
    simp only [Bool.and_eq_true] at h'
    exact Or.inr (Or.inr (Or.inr (Or.inr (Or.inl ⟨rfl, numB_num h'.1.1, by omega, hx0 (by decide)⟩))))
  · have h' : (numB A && numB B && allB xs) = true := h
    simp only [Bool.and_eq_true] at h'
    exact Or.inr (Or.inr (Or.inr (Or.inr (Or.inr (Or.inl ⟨rfl, numB_num h'.1.1, numB_num h'.1.2, hx0 (by decide)⟩)))))
  · have hA : A = 0 := by simpa using h
    exact Or.inr (Or.inr (Or.inr (Or.inr (Or.inr (Or.inr (Or.inl ⟨rfl, hA, by omega, hx0 (by decide)⟩))))))
  · have h' : (decide (-2147483648 ≤ A) && decide (A ≤ 2147483647)) = true := h
    simp only [Bool.and_eq_true, decide_eq_true_eq] at h'
    exact Or.inr (Or.inr (Or.inr (Or.inr (Or.inr (Or.inr (Or.inr (Or.inl ⟨rfl, h'.1, h'.2, by omega, hx0 (by decide)⟩)))))))
  · exact Or.inr (Or.inr (Or.inr (Or.inr (Or.inr (Or.inr (Or.inr (Or.inr ⟨rfl, by omega, hx0 (by decide)⟩)))))))
theorem vtext_ok (op A B : Int) (o : Option Addr) (n cap : Nat) (xs : List Int) (hcap : n ≤ cap) (h0 : 0 ≤ op) (h1 : op ≤ 255) (hc : fitC (besV op) A B xs) (hA : -9223372036854775808 ≤ A ∧ A ≤ 9223372036854775807) (w : World) (h : LJ w o n xs) (hT : TabIn w) (ht0 : 1 < w.heap.size) :
    Calls Tryd.prog 39 #[.agg #[.int .u8 op, .int .i64 A, .int .i64 B, .slice o n cap]] w fun r w' => ∃ t, r = .returned (.string t) ∧ nums t = besT (besV op) A B xs ∧ Below w.heap.size w w' := by
  have hB : ∀ w', Below w.heap.size w w' → Calls Tryd.prog 53 #[.int .u8 op] w' fun r w'' => r = .returned (.int .i64 (besV op)) ∧ Below w'.heap.size w' w'' := fun w' hb => bes_any op h0 h1 w' (hT.chg (P := w.heap.size) (Chg.of_below hb) ht0 (by omega))
  have hl := h.1
  generalize besV op = k at hc hB ⊢
  rcases hc with ⟨rfl, rfl, rfl, rfl⟩ | ⟨rfl, hK, rfl, rfl⟩ | ⟨rfl, hN, rfl, rfl⟩ | ⟨rfl, hN, rfl, h16, hx⟩ | ⟨rfl, hN, rfl, rfl⟩ | ⟨rfl, hN, hM, rfl⟩ | ⟨rfl, rfl, rfl, rfl⟩ | ⟨rfl, _, _, rfl, rfl⟩ | ⟨rfl, rfl, rfl⟩
  · refine (vtext_1 op 0 0 o n cap w hB).mono ?_
    rintro r w1 ⟨rfl, b⟩
    exact ⟨_, rfl, rfl, b⟩
  · have hr := isKB_range hK
    refine (vtext_2 op A 0 o n cap hr.1 hr.2 _ (fun w => oneByte_any A w) w hB).mono ?_
    rintro r w1 ⟨rfl, b⟩
    exact ⟨_, rfl, nums_str (by intro b hb; simp at hb; subst hb; omega), b⟩
  · refine (vtext_3 op A 0 o n cap _ (fun w => numText_any A hN w) w hB).mono ?_
    rintro r w1 ⟨rfl, b⟩
    exact ⟨_, rfl, nums_u _, b⟩
  · refine (vtext_4 op A o xs n cap hcap hl (by omega) hx hN w h hB).mono ?_
    rintro r w1 ⟨rfl, b⟩
    refine ⟨_, rfl, ?_, b⟩
    rw [nums_append, nums_u, nums_catK _ _ _ (by omega), nums_u, List.take_of_length_le (by omega), ← hl]
    rfl
  · have hs := uB_num A hN
    refine (vtext_5 op A 0 o n cap _ (fun w => numText_any A hN w) (by rw [strOfNums_size]; omega) w hB).mono ?_
    rintro r w1 ⟨rfl, b⟩
    exact ⟨_, rfl, by rw [nums_append, nums_u, nums_zero]; rfl, b⟩
  · have hs := uB_num A hN
    have hs2 := uB_num B hM
    refine (vtext_6 op A B o n cap _ (fun w => numText_any A hN w) _ (fun w => numText_any B hM w) (by rw [strOfNums_size, strOfNums_size]; omega) w hB).mono ?_
    rintro r w1 ⟨rfl, b⟩
    exact ⟨_, rfl, by rw [nums_append, nums_u, nums_u]; rfl, b⟩
  · refine (vtext_7 op 0 0 o n cap w hB).mono ?_
    rintro r w1 ⟨rfl, b⟩
    exact ⟨_, rfl, rfl, b⟩
  · refine (vtext_8 op A 0 o n cap _ (fun w => s_any A hA.1 hA.2 w) w hB).mono ?_
    rintro r w1 ⟨rfl, b⟩
    exact ⟨_, rfl, nums_str (sB_byte A), b⟩
  · refine (vtext_9 op A 0 o n cap _ (fun w => s_any A hA.1 hA.2 w) w hB).mono ?_
    rintro r w1 ⟨rfl, b⟩
    exact ⟨_, rfl, nums_str (sB_byte A), b⟩
theorem vwrite_ok (op A B : Int) (o : Option Addr) (n cap : Nat) (xs : List Int) (hcap : n ≤ cap) (h0 : 0 ≤ op) (h1 : op ≤ 255) (hc : fitC (besV op) A B xs) (hchk : chkV op A B n xs = 0) (hm : n ≤ 9223372036854775807) (hA : -9223372036854775808 ≤ A ∧ A ≤ 9223372036854775807) (w : World) (h : LJ w o n xs) (hT : TabIn w) (ht0 : 1 < w.heap.size) :
    Calls Tryd.prog 9 #[.agg #[.int .u8 op, .int .i64 A, .int .i64 B, .slice o n cap]] w fun r w' => ∃ t, r = .returned (.tuple #[.string t, .int .i64 0]) ∧ nums t = op :: besT (besV op) A B xs ∧ Below w.heap.size w w' := by
  have hT' : ∀ w', Below w.heap.size w w' → TabIn w' := fun w' hb => hT.chg (P := w.heap.size) (Chg.of_below hb) ht0 (by omega)
  refine (vwrite_core op A B o n cap (besT (besV op) A B xs).length (besT (besV op) A B xs) (besT_len _ _ _ _ hc hA) w (fun w' hb => ?_) (fun w' hb => ?_)).mono ?_
  · have := check_any op A B o n cap xs h0 h1 hcap hm w' (h.below hb) (hT' w' hb) (Nat.lt_of_lt_of_le ht0 hb.size)
    rw [hchk] at this
    exact this
  · refine (vtext_ok op A B o n cap xs hcap h0 h1 hc hA w' (h.below hb) (hT' w' hb) (Nat.lt_of_lt_of_le ht0 hb.size)).mono ?_
    rintro r w1 ⟨t, rfl, ht, b⟩
    exact ⟨t, rfl, ⟨ht, by rw [← ht, nums_length]⟩, b⟩
  · rintro r w1 ⟨t, rfl, ht, b⟩
    refine ⟨_, rfl, ?_, b⟩
    rw [nums_append, ht, nums_str (by intro b hb; simp at hb; subst hb; omega)]
    rfl
theorem mSig_back (B x : Int) (m : Nat) (hB : (B = 32 ∧ m = 4 ∧ -2147483648 ≤ x ∧ x < 2147483648) ∨ (B = 64 ∧ m = 9 ∧ -9223372036854775808 ≤ x ∧ x < 9223372036854775808)) (r : List Int) : mSig B (sB x ++ r) 0 = (x, r, 0) := by
  have hb := backS B x m r hB
  unfold mSig
  rw [hb]
  simp only [if_true, Int.toNat_natCast, List.drop_left]
/-- What is written is read as it was, whatever stands behind. -/
theorem mIns_back (op A B : Int) (xs : List Int) (hc : fitC (besV op) A B xs) (hA : -9223372036854775808 ≤ A ∧ A ≤ 9223372036854775807) (more : List Int) : mIns ((op :: besT (besV op) A B xs) ++ more) 0 = ⟨op, A, B, xs, more, 0⟩ := by
  have e0 : ∀ t, mIns (op :: t) 0 = mBes (besV op) op t 0 := fun t => rfl
  rw [List.cons_append, e0]
  generalize besV op = k at hc ⊢
  rcases hc with ⟨rfl, rfl, rfl, rfl⟩ | ⟨rfl, hK, rfl, rfl⟩ | ⟨rfl, hN, rfl, rfl⟩ | ⟨rfl, hN, rfl, h16, hx⟩ | ⟨rfl, hN, rfl, rfl⟩ | ⟨rfl, hN, hM, rfl⟩ | ⟨rfl, rfl, rfl, rfl⟩ | ⟨rfl, h1, h2, rfl, rfl⟩ | ⟨rfl, rfl, rfl⟩
  · rfl
  · show (⟨op, (mKind (A :: more) 0).1, 0, [], (mKind (A :: more) 0).2.1, (mKind (A :: more) 0).2.2⟩ : Got) = _
    have : mKind (A :: more) 0 = (A, more, 0) := by
      unfold mKind
      show (A, more, if isKB A then (0 : Int) else fstE 0 6) = _
      rw [if_pos hK]
    rw [this]
  · show (⟨op, (mNum (uB A.toNat ++ more) 0).1, 0, [], (mNum (uB A.toNat ++ more) 0).2.1, (mNum (uB A.toNat ++ more) 0).2.2⟩ : Got) = _
    rw [mNum_back A hN]
  · show (⟨op, (mNum (mNums (uB xs.length ++ (xs.flatMap fun x => uB x.toNat) ++ uB A.toNat ++ more) 0).2.1 (mNums (uB xs.length ++ (xs.flatMap fun x => uB x.toNat) ++ uB A.toNat ++ more) 0).2.2).1, 0, (mNums (uB xs.length ++ (xs.flatMap fun x => uB x.toNat) ++ uB A.toNat ++ more) 0).1, (mNum (mNums (uB xs.length ++ (xs.flatMap fun x => uB x.toNat) ++ uB A.toNat ++ more) 0).2.1 (mNums (uB xs.length ++ (xs.flatMap fun x => uB x.toNat) ++ uB A.toNat ++ more) 0).2.2).2.1, (mNum (mNums (uB xs.length ++ (xs.flatMap fun x => uB x.toNat) ++ uB A.toNat ++ more) 0).2.1 (mNums (uB xs.length ++ (xs.flatMap fun x => uB x.toNat) ++ uB A.toNat ++ more) 0).2.2).2.2⟩ : Got) = _
    have hm : mNums (uB xs.length ++ (xs.flatMap fun x => uB x.toNat) ++ uB A.toNat ++ more) 0 = (xs, uB A.toNat ++ more, 0) := by
      have hL : isNum ((xs.length : Nat) : Int) := ⟨by omega, by omega⟩
      have hb := mNum_back ((xs.length : Nat) : Int) hL ((xs.flatMap fun x => uB x.toNat) ++ (uB A.toNat ++ more)) 0
      rw [Int.toNat_natCast] at hb
      rw [List.append_assoc, List.append_assoc]
      unfold mNums
      rw [hb]
      dsimp only
      rw [if_neg (by omega), Int.toNat_natCast, mNumsF_back xs _ hx]
    rw [hm]
    dsimp only
    rw [mNum_back A hN]
  · show (⟨op, (mNum (uB A.toNat ++ [0] ++ more) 0).1, 0, [], (mZero (mNum (uB A.toNat ++ [0] ++ more) 0).2.1 (mNum (uB A.toNat ++ [0] ++ more) 0).2.2).1, (mZero (mNum (uB A.toNat ++ [0] ++ more) 0).2.1 (mNum (uB A.toNat ++ [0] ++ more) 0).2.2).2⟩ : Got) = _
    rw [List.append_assoc, mNum_back A hN]
    rfl
  · show (⟨op, (mNum (uB A.toNat ++ uB B.toNat ++ more) 0).1, (mNum (mNum (uB A.toNat ++ uB B.toNat ++ more) 0).2.1 (mNum (uB A.toNat ++ uB B.toNat ++ more) 0).2.2).1, [], (mNum (mNum (uB A.toNat ++ uB B.toNat ++ more) 0).2.1 (mNum (uB A.toNat ++ uB B.toNat ++ more) 0).2.2).2.1, (mNum (mNum (uB A.toNat ++ uB B.toNat ++ more) 0).2.1 (mNum (uB A.toNat ++ uB B.toNat ++ more) 0).2.2).2.2⟩ : Got) = _
    rw [List.append_assoc, mNum_back A hN]
    dsimp only
    rw [mNum_back B hM]
  · rfl
  · show (⟨op, (mSig 32 (sB A ++ more) 0).1, 0, [], (mSig 32 (sB A ++ more) 0).2.1, (mSig 32 (sB A ++ more) 0).2.2⟩ : Got) = _
    rw [mSig_back 32 A 4 (Or.inl ⟨rfl, rfl, h1, by omega⟩)]
  · show (⟨op, (mSig 64 (sB A ++ more) 0).1, 0, [], (mSig 64 (sB A ++ more) 0).2.1, (mSig 64 (sB A ++ more) 0).2.2⟩ : Got) = _
    rw [mSig_back 64 A 9 (Or.inr ⟨rfl, rfl, hA.1, by omega⟩)]
set_option maxHeartbeats 4000000 in
set_option maxRecDepth 1000000 in
theorem eq_any (o o' : Option Addr) (xs : List Int) (n cap cap' : Nat) (_hcap : n ≤ cap) (_hcap' : n ≤ cap') (_hm : cap ≤ 9223372036854775807) (_hm' : cap' ≤ 9223372036854775807) (w : World) (h : LJ w o n xs) (h' : LJ w o' n xs) : Calls Tryd.prog 64 #[.slice o n cap, .slice o' n cap'] w fun r w' => r = .returned (.bool true) ∧ w' = w := by
  have HH : Hid (LJ w o n xs) := h
  have HH' : Hid (LJ w o' n xs) := h'
  clear h h'
  go_enter Tryd.func64, Tryd.ntmps64
  go_wp2
  go_loop [14] (fun i => ∃ k : Nat, i = .int .i64 k ∧ k ≤ n) (fun i => n - (intOf i).toNat)
  case atStart => exact ⟨0, rfl, by omega⟩
  case round =>
    obtain ⟨k, rfl, hk⟩ := hrel
    by_cases hlt : k < n
    · rcases HH.out.2 with h0 | ⟨a, rfl, _, hc⟩
      · omega
      rcases HH'.out.2 with h0 | ⟨a', rfl, _, hc'⟩
      · omega
      have hcell := hc k hlt
      have hcell' := hc' k hlt
      generalize xs.getD k 0 = x at hcell hcell'
      have hki0 : (0 : Int) ≤ (k : Int) := by omega
      have hki1 : (k : Int) < (n : Int) := by omega
      clear hc hc' HH HH'
      go_wp2
      go_round
      case rel => exact ⟨k + 1, by go_num, by omega⟩
      case measure => simp [intOf]; omega
    · go_wp2
      go_ret
      exact ⟨rfl, rfl⟩
set_option maxHeartbeats 4000000 in
set_option maxRecDepth 1000000 in
theorem same_any (op A B : Int) (o o2 : Option Addr) (n cap cap2 : Nat) (w : World) (HE : Hid (∀ w', Below w.heap.size w w' → Calls Tryd.prog 64 #[.slice o n cap, .slice o2 n cap2] w' fun r w'' => r = .returned (.bool true) ∧ w'' = w')) :
    Calls Tryd.prog 20 #[.agg #[.int .u8 op, .int .i64 A, .int .i64 B, .slice o n cap], .agg #[.int .u8 op, .int .i64 A, .int .i64 B, .slice o2 n cap2]] w fun r w' => r = .returned (.bool true) ∧ Below w.heap.size w w' := by
  go_enter Tryd.func20, Tryd.ntmps20
  go_wp2_with fail
  refine (HE.out _ (((Below.refl _ _).alloc (Nat.le_refl _) _).alloc (by simp) _)).mono ?_
  rintro e w1 ⟨rfl, rfl⟩
  go_wp2
  go_ret
  exact ⟨rfl, ((Below.refl _ _).alloc (Nat.le_refl _) _).alloc (by simp) _⟩
end Go.Proofs.YtgdleahhkaolbaaDoor
