/-
  The reader of texts: bytes.
-/
import Derived.Test.YtfmmefmpjejioaaSR1
import Derived.Test.YtfmmefmpjejioaaShelfK
namespace Go.Proofs.Ytfmmefmpjejioaa
open Go.RowKit

set_option maxHeartbeats 2000000 in
set_option maxRecDepth 1000000 in
theorem rbytes_at (P : Nat) (l : List Int) (a M : Int) (HM : Hid (M = 2048)) (_hM : M ≤ 4294967295) (w : World) (h : RK w P l a) :
    Calls Try.prog 30 #[.pointer (some ⟨P, 0, none⟩)] w fun r w' => ∃ (t : ByteArray) (l' : List Int) (a' : Int), r = .returned (.string t) ∧ (t.size : Int) ≤ M ∧ RK w' P l' a' ∧ Outc (rBytes M) l a (nums t) l' a' ∧ Chg P w w' := by
  have HO : Hid (type_of% (rcount_any P 2048 l a w h)) := rcount_any P 2048 l a w h
  have HOC : Hid (type_of% (out_count M (by rw [HM.out]; decide) l a h.byte)) := out_count M (by rw [HM.out]; decide) l a h.byte
  have hM0 : 0 ≤ M := by rw [HM.out]; decide
  have HMC : Hid (mCnt M l a = mCnt 2048 l a) := by unfold Hid; rw [HM.out]
  rw [HMC.out] at HOC
  generalize mCnt 2048 l a = z at HO HOC
  clear HMC HM
  obtain ⟨x, l1, a1⟩ := z
  dsimp only at HO HOC
  clear h
  go_enter Try.func30, Try.ntmps30
  go_wp2_with fail
  refine HO.out.mono ?_
  rintro r w1 ⟨rfl, ⟨t, ht, hm, hr⟩, c1⟩
  obtain ⟨hoc, hx0, hx1, hxz⟩ := HOC.out
  obtain ⟨k, rfl⟩ : ∃ k : Nat, x = (k : Int) := ⟨x.toNat, by omega⟩
  have hc := hr.c0
  have HN : Hid (type_of% (rneed_any P t a1 3 (decide (k ≤ t.size)) w1 hr)) := rneed_any P t a1 3 (decide (k ≤ t.size)) w1 hr
  have HT : Hid (nums t = l1 ∧ t.size ≤ maxLen) := ⟨ht, hm⟩
  have HC1 : Hid (type_of% c1) := c1
  have hms := hm
  unfold maxLen at hms
  have hlen : l1.length = t.size := by rw [← ht, nums_length]
  have HON : Hid (Outc (rPiece (k : Int)) l1 a1 (l1.take k) (l1.drop k) (mNeed (decide (k ≤ t.size)) 3 a1)) := by
    unfold Hid
    by_cases ha : a1 = 0
    · subst ha
      by_cases hk : k ≤ t.size
      · rw [decide_eq_true hk]
        exact Outc.mk_ok (by unfold rPiece; rw [if_pos (by omega), Int.toNat_natCast])
      · rw [decide_eq_false hk]
        exact Outc.mk_err (e := 3) (by unfold rPiece; rw [if_neg (by omega)]) (by decide)
    · have e1 : mNeed (decide (k ≤ t.size)) 3 a1 = a1 := by unfold mNeed; rw [fstE_ne ha]; split <;> rfl
      rw [e1]
      exact Outc.mk_bad ha
  have HOA : Hid (Outc (rBytes M) l a (l1.take k) (l1.drop k) (mNeed (decide (k ≤ t.size)) 3 a1)) := hoc.nxt HON.out
  have HZ : Hid (mNeed (decide (k ≤ t.size)) 3 a1 = 0 → k ≤ t.size) := by
    intro h
    by_cases hk : k ≤ t.size
    · exact hk
    · rw [decide_eq_false hk] at h
      unfold mNeed at h
      exact absurd (fstE_eq h).2 (by decide)
  have HK : Hid ((k : Int) ≤ M) := hx1
  clear hoc hx0 hx1 hxz HO HOC HON hlen ht hm
  obtain ⟨b, hd⟩ : ∃ b, decide (k ≤ t.size) = b := ⟨_, rfl⟩
  rw [hd] at HN HOA HZ
  go_wp2_with fail
  refine HN.out.mono ?_
  rintro r w2 ⟨rfl, h2, c2⟩
  generalize mNeed b 3 a1 = s at HOA HZ h2
  have z0 := h2.c0
  have z1 := h2.c1
  have zf := h2.f0 0
  have HR2 : Hid (RR w2 P t s) := h2
  have HG2 : Hid (Chg P w w2) := HC1.out.trans c2
  clear h2 c2 HC1 HN hr hc c1
  by_cases h0 : s = 0
  · subst h0
    have hk := HZ.out rfl
    clear HZ
    go_wp2_with fail
    refine (clone_c (t.extract 0 k) _ (by rw [ByteArray.size_extract]; have := HK.out; omega)).mono ?_
    rintro r w3 ⟨rfl, b3⟩
    have HR3 : Hid (RR w3 P t 0) := HR2.out.chg b3
    have HG3 : Hid (Chg P w w3) := HG2.out.trans (Chg.of_below b3)
    have y0 := HR3.out.c0
    have yf := HR3.out.f0 0
    clear z0 z1 zf b3 HR2 HG2
    go_wp2
    go_ret
    refine ⟨_, l1.drop k, 0, rfl, by rw [ByteArray.size_extract]; have := HK.out; omega, ⟨_, ?_, size_tail t k HT.out.2, HR3.out.set0 _⟩, ?_, HG3.out.trans (Chg.set _ _ _ _)⟩
    · rw [nums_tail, HT.out.1]
    · have e : nums (t.extract 0 k) = l1.take k := by rw [nums_extract, HT.out.1, List.drop_zero, Nat.sub_zero]
      rw [e]
      exact HOA.out
  · have hb : (s == 0) = false := by rw [beq_eq_false_iff_ne]; exact h0
    have hb2 : (s != 0) = true := by rw [bne, hb]; rfl
    have HS : Hid (type_of% h0) := h0
    clear HZ h0
    go_wp2
    go_ret
    refine ⟨_, l1, s, rfl, hM0, ⟨t, HT.out.1, HT.out.2, HR2.out⟩, ?_, HG2.out⟩
    by_cases ha : a = 0
    · subst ha
      exact Outc.mk_err (HOA.out.err HS.out) HS.out
    · have e := HOA.out.bad ha
      rw [e]
      exact Outc.mk_bad ha
end Go.Proofs.Ytfmmefmpjejioaa
