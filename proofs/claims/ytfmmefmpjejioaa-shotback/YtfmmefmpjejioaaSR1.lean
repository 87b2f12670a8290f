/-
  What the small methods of the reader of texts do.
-/
import Derived.Test.YtfmmefmpjejioaaSM1
import Derived.Test.YtfmmefmpjejioaaBRow
namespace Go.Proofs.Ytfmmefmpjejioaa
open Go.RowKit

/-- The reader at P: what is left, and the first error. -/
def RR (w : World) (P : Nat) (s : ByteArray) (e : Int) : Prop := w.heap[P]? = some (.cells #[.string s, .int .i64 e] 41 (0, 0))
theorem RR.lt {w : World} {P : Nat} {s : ByteArray} {e : Int} (h : RR w P s e) : P < w.heap.size := by
  unfold RR at h
  exact (Array.getElem?_eq_some_iff.1 h).1
theorem RR.c0 {w : World} {P : Nat} {s : ByteArray} {e : Int} (h : RR w P s e) : w.cell? ⟨P, 0, none⟩ = some (.string s) := by
  unfold RR at h
  simp [World.cell?, h]
theorem RR.c1 {w : World} {P : Nat} {s : ByteArray} {e : Int} (h : RR w P s e) : w.cell? ⟨P, 1, none⟩ = some (.int .i64 e) := by
  unfold RR at h
  simp [World.cell?, h]
theorem RR.f0 {w : World} {P : Nat} {s : ByteArray} {e : Int} (h : RR w P s e) (i : Nat) : w.frozen? ⟨P, i, none⟩ = false := by
  unfold RR at h
  simp [World.frozen?, h]
theorem RR.set0 {w : World} {P : Nat} {s : ByteArray} {e : Int} (h : RR w P s e) (t : ByteArray) : RR (w.setCell ⟨P, 0, none⟩ (.string t)) P t e := by
  unfold RR at h ⊢
  simp [World.setCell, Array.getElem?_modify, h]
theorem RR.set1 {w : World} {P : Nat} {s : ByteArray} {e : Int} (h : RR w P s e) (d : Int) : RR (w.setCell ⟨P, 1, none⟩ (.int .i64 d)) P s d := by
  unfold RR at h ⊢
  simp [World.setCell, Array.getElem?_modify, h]
theorem RR.chg {w w' : World} {P : Nat} {s : ByteArray} {e : Int} (h : RR w P s e) (hb : Below w.heap.size w w') : RR w' P s e := by
  unfold RR at h ⊢
  rw [hb.block P (RR.lt h), h]
/-- The reader at P: the bytes that are left, and the first error. -/
def RK (w : World) (P : Nat) (l : List Int) (e : Int) : Prop := ∃ s, nums s = l ∧ s.size ≤ maxLen ∧ RR w P s e
theorem RK.lt {w : World} {P : Nat} {l : List Int} {e : Int} (h : RK w P l e) : P < w.heap.size := by
  obtain ⟨s, _, _, h⟩ := h
  exact h.lt
theorem RK.below {w w' : World} {P : Nat} {l : List Int} {e : Int} (h : RK w P l e) (hb : Below w.heap.size w w') : RK w' P l e := by
  obtain ⟨s, h1, h2, h⟩ := h
  exact ⟨s, h1, h2, h.chg hb⟩
theorem RK.byte {w : World} {P : Nat} {l : List Int} {e : Int} (h : RK w P l e) : Bts l := by
  obtain ⟨s, rfl, _, _⟩ := h
  exact nums_byte s
/-- What must hold, or else this error. -/
def mNeed (b : Bool) (e a : Int) : Int := if b then a else fstE a e
set_option maxHeartbeats 1000000 in
set_option maxRecDepth 1000000 in
theorem rneed_any (P : Nat) (s : ByteArray) (a e : Int) (b : Bool) (w : World) (h : RR w P s a) :
    Calls Try.prog 56 #[.pointer (some ⟨P, 0, none⟩), .bool b, .int .i64 e] w fun r w' => r = .returned (.tuple #[]) ∧ RR w' P s (mNeed b e a) ∧ Chg P w w' := by
  have hc := h.c1
  have hf := h.f0 1
  have HR : Hid (RR w P s a) := h
  clear h
  by_cases h0 : a = 0
  · subst h0
    cases b
    · go_enter Try.func56, Try.ntmps56
      go_wp2
      go_end0
      exact ⟨rfl, HR.out.set1 e, Chg.set _ _ _ _⟩
    · go_enter Try.func56, Try.ntmps56
      go_wp2
      go_end0
      exact ⟨rfl, HR.out, Chg.refl _ _⟩
  · have hb : (a == 0) = false := by rw [beq_eq_false_iff_ne]; exact h0
    have e1 : Hid (mNeed b e a = a) := by unfold Hid mNeed fstE; rw [if_neg h0]; split <;> rfl
    go_enter Try.func56, Try.ntmps56
    go_wp2
    go_end0
    exact ⟨rfl, by rw [e1.out]; exact HR.out, Chg.refl _ _⟩
set_option maxHeartbeats 1000000 in
set_option maxRecDepth 1000000 in
theorem rpass_any (P : Nat) (s : ByteArray) (a e : Int) (k : Nat) (w : World) (h : RR w P s a) (_hm : s.size ≤ maxLen) (_hk : k ≤ s.size) :
    Calls Try.prog 60 #[.pointer (some ⟨P, 0, none⟩), .int .i64 (k : Int), .int .i64 e] w fun r w' => r = .returned (.tuple #[]) ∧ RR w' P (s.extract k s.size) (mNeed (e == 0) e a) ∧ Chg P w w' := by
  have HN : Hid (type_of% (rneed_any P s a e (e == 0) w h)) := rneed_any P s a e (e == 0) w h
  clear h
  unfold maxLen at _hm
  go_enter Try.func60, Try.ntmps60
  go_wp2_with fail
  refine HN.out.mono ?_
  rintro r w1 ⟨rfl, h1, c1⟩
  have hc := h1.c0
  have hf := h1.f0 0
  have HR : Hid (type_of% h1) := h1
  have HC : Hid (type_of% c1) := c1
  clear h1 c1 HN
  go_wp2
  go_end0
  exact ⟨rfl, HR.out.set0 _, HC.out.trans (Chg.set _ _ _ _)⟩
set_option maxHeartbeats 1000000 in
set_option maxRecDepth 1000000 in
theorem rnumber_at (P : Nat) (s : ByteArray) (a e n : Int) (k : Nat) (_n0 : 0 ≤ n) (_n1 : n < 4294967296) (w : World) (h : RR w P s a) (hm : s.size ≤ maxLen) (hk : k ≤ s.size) (HRD : Hid (∀ w, Calls Try.prog 59 #[.string s, .int .i64 32] w fun e' w' => e' = .returned (.tuple #[.int .u64 n, .int .i64 (k : Int), .int .i64 e]) ∧ w' = w)) :
    Calls Try.prog 35 #[.pointer (some ⟨P, 0, none⟩)] w fun r w' => r = .returned (.int .i64 n) ∧ RR w' P (s.extract k s.size) (mNeed (e == 0) e a) ∧ Chg P w w' := by
  have hc := h.c0
  have HN : Hid (type_of% (rpass_any P s a e k w h hm hk)) := rpass_any P s a e k w h hm hk
  clear h
  go_enter Try.func35, Try.ntmps35
  go_wp2_with fail
  refine (HRD.out _).mono ?_
  rintro r w1 ⟨rfl, rfl⟩
  go_wp2_with fail
  refine HN.out.mono ?_
  rintro r w1 ⟨rfl, h1, c1⟩
  have HR : Hid (type_of% h1) := h1
  have HC : Hid (type_of% c1) := c1
  clear h1 c1 HN
  go_wp2
  go_ret
  exact ⟨rfl, HR.out, HC.out⟩
theorem mNeed_bad (e a : Int) (h : ¬ e = 0) : mNeed (e == 0) e a = fstE a e := by
  have hb : (e == 0) = false := beq_eq_false_iff_ne.2 h
  unfold mNeed
  rw [hb]
  rfl
theorem mNeed_good (a : Int) : mNeed ((0 : Int) == 0) 0 a = a := rfl
theorem rnumber_any (P : Nat) (l : List Int) (a : Int) (w : World) (h : RK w P l a) :
    Calls Try.prog 35 #[.pointer (some ⟨P, 0, none⟩)] w fun r w' => r = .returned (.int .i64 (mNum l a).1) ∧ RK w' P (mNum l a).2.1 (mNum l a).2.2 ∧ Chg P w w' := by
  have hby := h.byte
  obtain ⟨s, rfl, hm, h⟩ := h
  have hlt := rU32_lt (nums s) hby
  unfold mNum
  rcases resU 32 (Or.inl rfl) (nums s) hby with ⟨e, he, hr⟩ | ⟨m, k, _, _, hk, hr⟩
  · have he0 : ¬ e = 0 := by simpa using he
    rw [hr]
    simp only [if_neg he0]
    refine (rnumber_at P s a e 0 0 (by omega) (by omega) w h hm (Nat.zero_le _) (fun w => readU_at s 32 0 0 e hm hr w)).mono ?_
    rintro r w1 ⟨rfl, h1, c1⟩
    rw [mNeed_bad e a he0] at h1
    exact ⟨rfl, ⟨_, by rw [nums_tail, List.drop_zero], size_tail s 0 hm, h1⟩, c1⟩
  · rw [hr] at hlt
    rw [hr]
    simp only [if_true, Int.toNat_natCast]
    rw [nums_length] at hk
    refine (rnumber_at P s a 0 m k (by omega) hlt w h hm hk (fun w => readU_at s 32 m k 0 hm hr w)).mono ?_
    rintro r w1 ⟨rfl, h1, c1⟩
    exact ⟨rfl, ⟨_, nums_tail s k, size_tail s k hm, h1⟩, c1⟩
set_option maxHeartbeats 1000000 in
set_option maxRecDepth 1000000 in
theorem rsigned_at (P : Nat) (s : ByteArray) (a e n B : Int) (k : Nat) (_n0 : -9223372036854775808 ≤ n) (_n1 : n ≤ 9223372036854775807) (w : World) (h : RR w P s a) (hm : s.size ≤ maxLen) (hk : k ≤ s.size) (HRD : Hid (∀ w, Calls Try.prog 70 #[.string s, .int .i64 B] w fun e' w' => e' = .returned (.tuple #[.int .i64 n, .int .i64 (k : Int), .int .i64 e]) ∧ w' = w)) :
    Calls Try.prog 58 #[.pointer (some ⟨P, 0, none⟩), .int .i64 B] w fun r w' => r = .returned (.int .i64 n) ∧ RR w' P (s.extract k s.size) (mNeed (e == 0) e a) ∧ Chg P w w' := by
  have hc := h.c0
  have HN : Hid (type_of% (rpass_any P s a e k w h hm hk)) := rpass_any P s a e k w h hm hk
  clear h
  go_enter Try.func58, Try.ntmps58
  go_wp2_with fail
  refine (HRD.out _).mono ?_
  rintro r w1 ⟨rfl, rfl⟩
  go_wp2_with fail
  refine HN.out.mono ?_
  rintro r w1 ⟨rfl, h1, c1⟩
  have HR : Hid (type_of% h1) := h1
  have HC : Hid (type_of% c1) := c1
  clear h1 c1 HN
  go_wp2
  go_ret
  exact ⟨rfl, HR.out, HC.out⟩
theorem rsigned_any (P : Nat) (B : Int) (hB : B = 32 ∨ B = 64) (l : List Int) (a : Int) (w : World) (h : RK w P l a) :
    Calls Try.prog 58 #[.pointer (some ⟨P, 0, none⟩), .int .i64 B] w fun r w' => r = .returned (.int .i64 (mSig B l a).1) ∧ RK w' P (mSig B l a).2.1 (mSig B l a).2.2 ∧ Chg P w w' := by
  have hby := h.byte
  obtain ⟨s, rfl, hm, h⟩ := h
  unfold mSig
  rcases resS B hB (nums s) hby with ⟨e, he, hr⟩ | ⟨m, k, hm0, hm1, _, hk, hr⟩
  · have he0 : ¬ e = 0 := by simpa using he
    rw [hr]
    simp only [if_neg he0]
    refine (rsigned_at P s a e 0 B 0 (by omega) (by omega) w h hm (Nat.zero_le _) (fun w => readS_at s B 0 0 e hm hr w)).mono ?_
    rintro r w1 ⟨rfl, h1, c1⟩
    rw [mNeed_bad e a he0] at h1
    exact ⟨rfl, ⟨_, by rw [nums_tail, List.drop_zero], size_tail s 0 hm, h1⟩, c1⟩
  · rw [hr]
    simp only [if_true, Int.toNat_natCast]
    rw [nums_length] at hk
    refine (rsigned_at P s a 0 m B k hm0 hm1 w h hm hk (fun w => readS_at s B m k 0 hm hr w)).mono ?_
    rintro r w1 ⟨rfl, h1, c1⟩
    exact ⟨rfl, ⟨_, nums_tail s k, size_tail s k hm, h1⟩, c1⟩
set_option maxHeartbeats 1000000 in
set_option maxRecDepth 1000000 in
theorem rplace_any (P : Nat) (l : List Int) (a : Int) (w : World) (h : RK w P l a) :
    Calls Try.prog 32 #[.pointer (some ⟨P, 0, none⟩)] w fun r w' => r = .returned (.int .i64 (mSig 32 l a).1) ∧ RK w' P (mSig 32 l a).2.1 (mSig 32 l a).2.2 ∧ Chg P w w' := by
  have HC : Hid (type_of% (rsigned_any P 32 (by decide) l a w h)) := rsigned_any P 32 (by decide) l a w h
  clear h
  generalize mSig 32 l a = m at HC ⊢
  go_enter Try.func32, Try.ntmps32
  go_wp2_with fail
  refine HC.out.mono ?_
  rintro e w1 ⟨rfl, r1, c1⟩
  go_wp2
  go_ret
  exact ⟨rfl, r1, c1⟩
set_option maxHeartbeats 1000000 in
set_option maxRecDepth 1000000 in
theorem rvalue_any (P : Nat) (l : List Int) (a : Int) (w : World) (h : RK w P l a) :
    Calls Try.prog 34 #[.pointer (some ⟨P, 0, none⟩)] w fun r w' => r = .returned (.int .i64 (mSig 64 l a).1) ∧ RK w' P (mSig 64 l a).2.1 (mSig 64 l a).2.2 ∧ Chg P w w' := by
  have HC : Hid (type_of% (rsigned_any P 64 (by decide) l a w h)) := rsigned_any P 64 (by decide) l a w h
  clear h
  generalize mSig 64 l a = m at HC ⊢
  go_enter Try.func34, Try.ntmps34
  go_wp2_with fail
  refine HC.out.mono ?_
  rintro e w1 ⟨rfl, r1, c1⟩
  go_wp2
  go_ret
  exact ⟨rfl, r1, c1⟩
/-- A number with a limit is taken; behind an error it is 0. -/
def mCnt (most : Int) (l : List Int) (a : Int) : Int × List Int × Int :=
  let s := mNeed (decide ((mNum l a).1 ≤ most)) 2 (mNum l a).2.2
  (if s = 0 then (mNum l a).1 else 0, (mNum l a).2.1, s)
set_option maxHeartbeats 1000000 in
set_option maxRecDepth 1000000 in
theorem rcount_any (P : Nat) (most : Int) (l : List Int) (a : Int) (w : World) (h : RK w P l a) :
    Calls Try.prog 55 #[.pointer (some ⟨P, 0, none⟩), .int .i64 most] w fun r w' => r = .returned (.int .i64 (mCnt most l a).1) ∧ RK w' P (mCnt most l a).2.1 (mCnt most l a).2.2 ∧ Chg P w w' := by
  have HO : Hid (type_of% (rnumber_any P l a w h)) := rnumber_any P l a w h
  unfold mCnt
  generalize mNum l a = z at HO
  obtain ⟨x, l1, a1⟩ := z
  dsimp only at HO ⊢
  obtain ⟨s, hs⟩ : ∃ s, s = mNeed (decide (x ≤ most)) 2 a1 := ⟨_, rfl⟩
  rw [← hs]
  obtain ⟨v, hv⟩ : ∃ v : Int, v = if s = 0 then x else 0 := ⟨_, rfl⟩
  rw [← hv]
  have HSD : Hid (type_of% hs) := hs
  have HVD : Hid (type_of% hv) := hv
  clear h hs hv
  go_enter Try.func55, Try.ntmps55
  go_wp2_with fail
  refine HO.out.mono ?_
  rintro r w1 ⟨rfl, ⟨t, ht, hm, hr⟩, c1⟩
  have HT : Hid (nums t = l1 ∧ t.size ≤ maxLen) := ⟨ht, hm⟩
  have HN : Hid (type_of% (rneed_any P t a1 2 (decide (x ≤ most)) w1 hr)) := rneed_any P t a1 2 (decide (x ≤ most)) w1 hr
  rw [← HSD.out] at HN
  have HG : Hid (Chg P w w1) := c1
  clear hr c1 HO ht hm
  go_wp2_with fail
  refine HN.out.mono ?_
  rintro r w2 ⟨rfl, h2, c2⟩
  have z1 := h2.c1
  have HR2 : Hid (RK w2 P l1 s) := ⟨t, HT.out.1, HT.out.2, h2⟩
  have HG2 : Hid (Chg P w w2) := HG.out.trans c2
  clear h2 c2 HG HN HSD
  by_cases h0 : s = 0
  · have hv : v = x := by rw [HVD.out, if_pos h0]
    subst h0 hv
    clear HVD
    go_wp2
    go_ret
    exact ⟨rfl, HR2.out, HG2.out⟩
  · have hb : (s == 0) = false := by rw [beq_eq_false_iff_ne]; exact h0
    have hb2 : (s != 0) = true := by rw [bne, hb]; rfl
    have hv : v = 0 := by rw [HVD.out, if_neg h0]
    subst hv
    clear HVD
    go_wp2
    go_ret
    exact ⟨rfl, HR2.out, HG2.out⟩

/-! ### What is taken is what the reading says -/
theorem out_num (l : List Int) (a : Int) : Outc rNum l a (mNum l a).1 (mNum l a).2.1 (mNum l a).2.2 := by
  by_cases h : (rU 32 l).2.2 = 0
  · have e : mNum l a = ((rU 32 l).1, l.drop (rU 32 l).2.1.toNat, a) := by unfold mNum; rw [if_pos h]
    rw [e]
    by_cases ha : a = 0
    · subst ha
      exact Outc.mk_ok (by unfold rNum; rw [if_pos h])
    · exact Outc.mk_bad ha
  · have e : mNum l a = (0, l, fstE a (rU 32 l).2.2) := by unfold mNum; rw [if_neg h]
    rw [e]
    by_cases ha : a = 0
    · subst ha
      rw [fstE_zero]
      exact Outc.mk_err (by unfold rNum; rw [if_neg h]) h
    · rw [fstE_ne ha]
      exact Outc.mk_bad ha
theorem out_sgn (B : Int) (l : List Int) (a : Int) : Outc (rSgn B) l a (mSig B l a).1 (mSig B l a).2.1 (mSig B l a).2.2 := by
  by_cases h : (rS B l).2.2 = 0
  · have e : mSig B l a = ((rS B l).1, l.drop (rS B l).2.1.toNat, a) := by unfold mSig; rw [if_pos h]
    rw [e]
    by_cases ha : a = 0
    · subst ha
      exact Outc.mk_ok (by unfold rSgn; rw [if_pos h])
    · exact Outc.mk_bad ha
  · have e : mSig B l a = (0, l, fstE a (rS B l).2.2) := by unfold mSig; rw [if_neg h]
    rw [e]
    by_cases ha : a = 0
    · subst ha
      rw [fstE_zero]
      exact Outc.mk_err (by unfold rSgn; rw [if_neg h]) h
    · rw [fstE_ne ha]
      exact Outc.mk_bad ha
theorem out_need (b : Bool) (e a : Int) (he : e ≠ 0) (l : List Int) : Outc (need b e) l a () l (mNeed b e a) := by
  by_cases ha : a = 0
  · subst ha
    cases b
    · exact Outc.mk_err (e := e) rfl he
    · exact Outc.mk_ok rfl
  · have e1 : mNeed b e a = a := by unfold mNeed; rw [fstE_ne ha]; split <;> rfl
    rw [e1]
    exact Outc.mk_bad ha
/-- What a count is, and that it is one. -/
theorem out_count (most : Int) (_h0 : 0 ≤ most) (l : List Int) (a : Int) (hl : Bts l) : Outc (rCount most) l a (mCnt most l a).1 (mCnt most l a).2.1 (mCnt most l a).2.2 ∧ 0 ≤ (mCnt most l a).1 ∧ (mCnt most l a).1 ≤ most ∧ ((mCnt most l a).2.2 ≠ 0 → (mCnt most l a).1 = 0) := by
  have h1 := out_num l a
  have hb : 0 ≤ (mNum l a).1 := by
    unfold mNum
    split
    · exact (rU_bound 32 l hl).1
    · exact Int.le_refl _
  unfold mCnt
  generalize mNum l a = z at h1 hb
  obtain ⟨x, l1, a1⟩ := z
  dsimp only at h1 hb ⊢
  have h2 := out_need (decide (x ≤ most)) 2 a1 (by decide) l1
  by_cases h0 : mNeed (decide (x ≤ most)) 2 a1 = 0
  · rw [h0] at h2 ⊢
    rw [if_pos rfl]
    obtain ⟨rfl, hn⟩ := h2.got
    have hx := (need_ok hn).1
    exact ⟨h1.nxt (h2.nxt (Outc.mk_ok rfl)), hb, of_decide_eq_true hx, fun h => absurd rfl h⟩
  · rw [if_neg h0]
    exact ⟨h1.nxt (h2.nxt (Outc.mk_bad h0)), Int.le_refl _, _h0, fun _ => rfl⟩
end Go.Proofs.Ytfmmefmpjejioaa
