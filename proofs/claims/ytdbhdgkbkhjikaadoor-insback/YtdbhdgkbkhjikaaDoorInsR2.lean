/-
  What the reader's own methods do, over lists of bytes.
-/
import Derived.Test.YtdbhdgkbkhjikaaDoorInsR1
namespace Go.Proofs.YtdbhdgkbkhjikaaDoor
open Go.RowKit

/-- The reader at P: the bytes that are left, and the first error. -/
def RL (w : World) (P : Nat) (l : List Int) (e : Int) : Prop := ∃ s, nums s = l ∧ s.size ≤ maxLen ∧ RS w P s e
theorem RL.lt {w : World} {P : Nat} {l : List Int} {e : Int} (h : RL w P l e) : P < w.heap.size := by
  obtain ⟨s, _, _, h⟩ := h
  exact h.lt
theorem RL.below {w w' : World} {P : Nat} {l : List Int} {e : Int} (h : RL w P l e) (hb : Below w.heap.size w w') : RL w' P l e := by
  obtain ⟨s, h1, h2, h⟩ := h
  exact ⟨s, h1, h2, h.chg hb⟩
theorem RL.byte {w : World} {P : Nat} {l : List Int} {e : Int} (h : RL w P l e) : ∀ b ∈ l, 0 ≤ b ∧ b < 256 := by
  obtain ⟨s, rfl, _, _⟩ := h
  exact nums_byte s
theorem nums_tail (s : ByteArray) (k : Nat) : nums (s.extract k s.size) = (nums s).drop k := by
  rw [nums_extract, List.take_of_length_le]
  rw [List.length_drop, nums_length]
  exact Nat.le_refl _
theorem size_tail (s : ByteArray) (k : Nat) (h : s.size ≤ maxLen) : (s.extract k s.size).size ≤ maxLen := by
  rw [ByteArray.size_extract]
  omega
/-- A byte is taken. -/
def mNext : List Int → Int → Int × List Int × Int
  | [], a => (0, [], fstE a 3)
  | b :: r, a => (b, r, a)
theorem next_any (P : Nat) (l : List Int) (a : Int) (w : World) (h : RL w P l a) :
    Calls Tryd.prog 59 #[.pointer (some ⟨P, 0, none⟩)] w fun r w' => r = .returned (.int .u8 (mNext l a).1) ∧ RL w' P (mNext l a).2.1 (mNext l a).2.2 ∧ Chg P w w' := by
  obtain ⟨s, rfl, hm, h⟩ := h
  by_cases h0 : s.size = 0
  · have e : nums s = [] := List.length_eq_zero_iff.1 (by rw [nums_length]; exact h0)
    rw [e]
    refine (next_nil P s a w h h0).mono ?_
    rintro r w1 ⟨rfl, h1, c1⟩
    exact ⟨rfl, ⟨s, e, hm, h1⟩, c1⟩
  · have hp : 0 < s.size := by omega
    have e : nums s = ((s[0]'hp).toNat : Int) :: (nums s).drop 1 := by
      have := nums_drop s 0 hp
      rw [List.drop_zero] at this
      exact this
    refine (next_cons P s a w h hp hm).mono ?_
    rintro r w1 ⟨rfl, h1, c1⟩
    rw [e]
    exact ⟨rfl, ⟨_, nums_tail s 1, size_tail s 1 hm, h1⟩, c1⟩
/-- A number without a sign is taken. -/
def mNum (l : List Int) (a : Int) : Int × List Int × Int := if (rU 32 l).2.2 = 0 then ((rU 32 l).1, l.drop (rU 32 l).2.1.toNat, a) else (0, l, fstE a (rU 32 l).2.2)
/-- A number with its sign is taken. -/
def mSig (B : Int) (l : List Int) (a : Int) : Int × List Int × Int := if (rS B l).2.2 = 0 then ((rS B l).1, l.drop (rS B l).2.1.toNat, a) else (0, l, fstE a (rS B l).2.2)
theorem rU32_lt (l : List Int) (hl : ∀ b ∈ l, 0 ≤ b ∧ b < 256) : (rU 32 l).1 < 4294967296 := by
  have hu : rU 32 l = rdl fitU 32 l 0 0 := by rw [rU, if_pos (Or.inl rfl)]
  rw [hu]
  rcases rdl_all fitU 32 (Or.inl rfl) l hl with h | h | ⟨f, b, t, e, hf, hb0, hb1, h1, h2, h⟩
  · rw [h]; omega
  · rw [h]; omega
  · rw [h]
    have := goodU 32 f b hb0 hb1 (by omega) (fun hh => by have := h2 (by omega); rw [show ((32 - 7 * f.length : Nat) : Int) = 32 - 7 * (f.length : Int) by omega]; exact this)
    exact this
theorem num_any (P : Nat) (l : List Int) (a : Int) (w : World) (h : RL w P l a) :
    Calls Tryd.prog 83 #[.pointer (some ⟨P, 0, none⟩), .func (.func 84) #[] #[], .int .i64 32] w fun r w' => r = .returned (.int .i64 (mNum l a).1) ∧ RL w' P (mNum l a).2.1 (mNum l a).2.2 ∧ Chg P w w' := by
  have hby := h.byte
  obtain ⟨s, rfl, hm, h⟩ := h
  have hlt := rU32_lt (nums s) hby
  unfold mNum
  rcases resU 32 (Or.inl rfl) (nums s) hby with ⟨e, he, hr⟩ | ⟨m, k, _, _, hk, hr⟩
  · have he0 : ¬ e = 0 := by simpa using he
    rw [hr]
    simp only [if_neg he0]
    refine (takeU_err P s a 0 0 e (by rw [beq_eq_false_iff_ne]; exact he0) w h (fun w => readU_at s 32 0 0 e hm hr w)).mono ?_
    rintro r w1 ⟨rfl, h1, c1⟩
    exact ⟨rfl, ⟨s, rfl, hm, h1⟩, c1⟩
  · rw [hr] at hlt
    rw [hr]
    simp only [if_true, Int.toNat_natCast]
    rw [nums_length] at hk
    refine (takeU_ok P s a m k (by omega) hlt w h hm hk (fun w => readU_at s 32 m k 0 hm hr w)).mono ?_
    rintro r w1 ⟨rfl, h1, c1⟩
    exact ⟨rfl, ⟨_, nums_tail s k, size_tail s k hm, h1⟩, c1⟩
theorem sig_any (P : Nat) (B : Int) (hB : B = 32 ∨ B = 64) (l : List Int) (a : Int) (w : World) (h : RL w P l a) :
    Calls Tryd.prog 65 #[.pointer (some ⟨P, 0, none⟩), .func (.func 66) #[] #[], .int .i64 B] w fun r w' => r = .returned (.int .i64 (mSig B l a).1) ∧ RL w' P (mSig B l a).2.1 (mSig B l a).2.2 ∧ Chg P w w' := by
  have hby := h.byte
  obtain ⟨s, rfl, hm, h⟩ := h
  unfold mSig
  rcases resS B hB (nums s) hby with ⟨e, he, hr⟩ | ⟨m, k, hm0, hm1, _, hk, hr⟩
  · have he0 : ¬ e = 0 := by simpa using he
    rw [hr]
    simp only [if_neg he0]
    refine (takeS_err P s a 0 0 e B (by rw [beq_eq_false_iff_ne]; exact he0) w h (fun w => readS_at s B 0 0 e hm hr w)).mono ?_
    rintro r w1 ⟨rfl, h1, c1⟩
    exact ⟨rfl, ⟨s, rfl, hm, h1⟩, c1⟩
  · rw [hr]
    simp only [if_true, Int.toNat_natCast]
    rw [nums_length] at hk
    refine (takeS_ok P s a m k B hm0 hm1 w h hm hk (fun w => readS_at s B m k 0 hm hr w)).mono ?_
    rintro r w1 ⟨rfl, h1, c1⟩
    exact ⟨rfl, ⟨_, nums_tail s k, size_tail s k hm, h1⟩, c1⟩
set_option maxHeartbeats 1000000 in
set_option maxRecDepth 1000000 in
theorem number_any (P : Nat) (l : List Int) (a : Int) (w : World) (h : RL w P l a) :
    Calls Tryd.prog 62 #[.pointer (some ⟨P, 0, none⟩)] w fun r w' => r = .returned (.int .i64 (mNum l a).1) ∧ RL w' P (mNum l a).2.1 (mNum l a).2.2 ∧ Chg P w w' := by
  have HC : Hid (type_of% (num_any P l a w h)) := num_any P l a w h
  clear h
  generalize mNum l a = m at HC ⊢
  go_enter Tryd.func62, Tryd.ntmps62
  go_wp2_with fail
  refine HC.out.mono ?_
  rintro e w1 ⟨rfl, r1, c1⟩
  go_wp2
  go_ret
  exact ⟨rfl, r1, c1⟩
/-- The kinds of a block. -/
def isKB (b : Int) : Bool := b == 64 || b == 127 || b == 126
set_option maxHeartbeats 1000000 in
set_option maxRecDepth 1000000 in
theorem isKB_any (b : Int) (w : World) : Calls Tryd.prog 55 #[.int .i64 b] w fun r w' => r = .returned (.bool (isKB b)) ∧ w' = w := by
  by_cases h1 : b = 64
  · subst h1
    go_enter Tryd.func55, Tryd.ntmps55
    go_wp2
    go_ret
    exact ⟨rfl, rfl⟩
  have e1 : (b == 64) = false := by rw [beq_eq_false_iff_ne]; exact h1
  by_cases h2 : b = 127
  · subst h2
    go_enter Tryd.func55, Tryd.ntmps55
    go_wp2
    go_ret
    exact ⟨rfl, rfl⟩
  have e2 : (b == 127) = false := by rw [beq_eq_false_iff_ne]; exact h2
  have e3 : isKB b = (b == 126) := by unfold isKB; rw [e1, e2]; simp
  rw [e3]
  go_enter Tryd.func55, Tryd.ntmps55
  go_wp2
  go_ret
  exact ⟨rfl, rfl⟩
/-- A block's kind is taken. -/
def mKind (l : List Int) (a : Int) : Int × List Int × Int := ((mNext l a).1, (mNext l a).2.1, if isKB (mNext l a).1 then (mNext l a).2.2 else fstE (mNext l a).2.2 6)
theorem mNext_byte (l : List Int) (a : Int) (hl : ∀ b ∈ l, 0 ≤ b ∧ b < 256) : 0 ≤ (mNext l a).1 ∧ (mNext l a).1 < 256 := by
  cases l with
  | nil => simp [mNext]
  | cons b r => exact hl b (by simp)
theorem RL.fail {w : World} {P : Nat} {l : List Int} {a : Int} (h : RL w P l a) (e : Int) :
    Calls Tryd.prog 60 #[.pointer (some ⟨P, 0, none⟩), .int .i64 e] w fun r w' => r = .returned (.tuple #[]) ∧ RL w' P l (fstE a e) ∧ Chg P w w' := by
  obtain ⟨s, h1, h2, h⟩ := h
  refine (fail_any P s a e w h).mono ?_
  rintro r w1 ⟨rfl, h3, c⟩
  exact ⟨rfl, ⟨s, h1, h2, h3⟩, c⟩
set_option maxHeartbeats 1000000 in
set_option maxRecDepth 1000000 in
theorem kind_any (P : Nat) (l : List Int) (a : Int) (w : World) (h : RL w P l a) :
    Calls Tryd.prog 61 #[.pointer (some ⟨P, 0, none⟩)] w fun r w' => r = .returned (.int .i64 (mKind l a).1) ∧ RL w' P (mKind l a).2.1 (mKind l a).2.2 ∧ Chg P w w' := by
  have hb := mNext_byte l a h.byte
  have HC : Hid (type_of% (next_any P l a w h)) := next_any P l a w h
  clear h
  unfold mKind
  obtain ⟨⟨b, l1, a1⟩, hm⟩ : ∃ m, mNext l a = m := ⟨_, rfl⟩
  rw [hm] at HC hb ⊢
  dsimp only at HC hb ⊢
  obtain ⟨b0, b1⟩ := hb
  clear hm
  cases hk : isKB b with
  | true =>
    have HK : Hid (∀ w, Calls Tryd.prog 55 #[.int .i64 b] w fun r w' => r = .returned (.bool true) ∧ w' = w) := fun w => by rw [← hk]; exact isKB_any b w
    clear hk
    go_enter Tryd.func61, Tryd.ntmps61
    go_wp2_with fail
    refine HC.out.mono ?_
    rintro e w1 ⟨rfl, r1, c1⟩
    go_wp2_with fail
    refine (HK.out _).mono ?_
    rintro e w2 ⟨rfl, rfl⟩
    go_wp2
    go_ret
    exact ⟨rfl, r1, c1⟩
  | false =>
    have HK : Hid (∀ w, Calls Tryd.prog 55 #[.int .i64 b] w fun r w' => r = .returned (.bool false) ∧ w' = w) := fun w => by rw [← hk]; exact isKB_any b w
    clear hk
    go_enter Tryd.func61, Tryd.ntmps61
    go_wp2_with fail
    refine HC.out.mono ?_
    rintro e w1 ⟨rfl, r1, c1⟩
    go_wp2_with fail
    refine (HK.out _).mono ?_
    rintro e w2 ⟨rfl, rfl⟩
    go_wp2_with fail
    refine (r1.fail 6).mono ?_
    rintro e w3 ⟨rfl, r3, c3⟩
    go_wp2
    go_ret
    exact ⟨rfl, r3, c1.trans c3⟩
/-- The byte 0 is taken. -/
def mZero (l : List Int) (a : Int) : List Int × Int := ((mNext l a).2.1, if (mNext l a).1 = 0 then (mNext l a).2.2 else fstE (mNext l a).2.2 4)
set_option maxHeartbeats 1000000 in
set_option maxRecDepth 1000000 in
theorem zero_any (P : Nat) (l : List Int) (a : Int) (w : World) (h : RL w P l a) :
    Calls Tryd.prog 64 #[.pointer (some ⟨P, 0, none⟩)] w fun r w' => r = .returned (.tuple #[]) ∧ RL w' P (mZero l a).1 (mZero l a).2 ∧ Chg P w w' := by
  have HC : Hid (type_of% (next_any P l a w h)) := next_any P l a w h
  clear h
  unfold mZero
  obtain ⟨⟨b, l1, a1⟩, hm⟩ : ∃ m, mNext l a = m := ⟨_, rfl⟩
  rw [hm] at HC ⊢
  dsimp only at HC ⊢
  clear hm
  by_cases hb : b = 0
  · subst hb
    go_enter Tryd.func64, Tryd.ntmps64
    go_wp2_with fail
    refine HC.out.mono ?_
    rintro e w1 ⟨rfl, r1, c1⟩
    go_wp2
    go_end0
    exact ⟨rfl, r1, c1⟩
  · have hbb : (b == 0) = false := by rw [beq_eq_false_iff_ne]; exact hb
    have hbn : (b != 0) = true := by rw [bne, hbb]; rfl
    rw [if_neg hb]
    go_enter Tryd.func64, Tryd.ntmps64
    go_wp2_with fail
    refine HC.out.mono ?_
    rintro e w1 ⟨rfl, r1, c1⟩
    go_wp2_with fail
    refine (r1.fail 4).mono ?_
    rintro e w3 ⟨rfl, r3, c3⟩
    go_wp2
    go_end0
    exact ⟨rfl, r3, c1.trans c3⟩
end Go.Proofs.YtdbhdgkbkhjikaaDoor
