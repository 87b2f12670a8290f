/-
  What the document's Put and place do.
-/
import Derived.Test.YtomiganjagjabaaMD2
import Derived.Test.YtomiganjagjabaaMM12
import Derived.Test.YtomiganjagjabaaMWord2
import Derived.RegionTactic
namespace Go.Proofs.Ytomiganjagjabaa
open Go.RowKit

theorem DM.f {w : World} {Q q : Nat} {most : Int} {b : List Int} (h : DM w Q q most b) (i : Nat) (hi : i < b.length) : w.frozen? ⟨q, i, none⟩ = false := by
  obtain ⟨cap, X, fz, _, h2, h3, h4⟩ := h.at'
  have : i < cap := by rw [← h3, List.length_append]; omega
  rcases h4 with h4 | h4
  · simp [World.frozen?, h2, h4]
  · simp [World.frozen?, h2, h4]
    omega
theorem DM.set {w : World} {Q q : Nat} {most : Int} {b : List Int} (h : DM w Q q most b) (i : Nat) (x : Int) (hi : i < b.length) (hx : 0 ≤ x ∧ x ≤ 255) : DM (w.setCell ⟨q, i, none⟩ (.int .u8 x)) Q q most (b.set i x) := by
  obtain ⟨⟨cap, X, fz, h1, h2, h3, h4⟩, h5, h6, h7⟩ := h
  refine ⟨⟨cap, X, fz, ?_, ?_, ?_, h4⟩, h5, ?_, by rw [List.length_set]; exact h7⟩
  · rw [Below.heap_setCell w ⟨q, i, none⟩ _ Q (Ne.symm h5), h1, List.length_set]
  · simp [World.setCell, Array.getElem?_modify, h2, hi]
  · rw [List.length_append, List.length_set, ← List.length_append]; exact h3
  · intro y hy
    rcases List.mem_or_eq_of_mem_set hy with hy | rfl
    · exact h6 y hy
    · exact hx
theorem splice_set (b d : List Int) (a i : Nat) (hi : i < d.length) (h : a + d.length ≤ b.length) : (splice b a (d.take i)).set (a + i) (d.getD i 0) = splice b a (d.take (i + 1)) := by
  have l1 : (d.take i).length = i := by rw [List.length_take]; omega
  have l2 : (d.take (i + 1)).length = i + 1 := by rw [List.length_take]; omega
  have l3 : (splice b a (d.take i)).length = b.length := length_splice _ _ _ (by omega)
  apply List.ext_getElem?
  intro j
  rw [List.getElem?_set, splice_get _ _ _ (by omega), splice_get _ _ _ (by omega), l1, l2]
  by_cases hj : a + i = j
  · subst hj
    rw [if_pos rfl, if_pos (by omega), if_pos (by omega), show a + i - a = i by omega, List.getElem?_take_of_lt (by omega)]
    simp [hi]
  · rw [if_neg hj]
    by_cases h1 : a ≤ j ∧ j < a + i
    · rw [if_pos h1, if_pos (by omega), List.getElem?_take_of_lt (by omega), List.getElem?_take_of_lt (by omega)]
    · rw [if_neg h1, if_neg (by omega)]
set_option maxHeartbeats 1000000 in
set_option maxRecDepth 1000000 in
theorem dput_no (Q q : Nat) (most : Int) (b : List Int) (a : Int) (s : ByteArray) (ha : a ≤ 9223372036854775807) (hk : hasB b.length a s.size = false) (w : World) (h : DM w Q q most b) :
    Calls Try.prog 22 #[.pointer (some ⟨Q, 0, none⟩), .int .i64 a, .string s] w fun r w' => r = .returned (.int .i64 23) ∧ w' = w := by
  have HB := dbytes_no Q q most b a s.size ha hk w h
  clear h hk
  go_enter Try.func22, Try.ntmps22
  go_wp2_with (go_at_call 20; refine HB.mono ?_; rintro r w1 ⟨rfl, rfl⟩)
  go_ret
  exact ⟨rfl, rfl⟩
set_option maxHeartbeats 1000000 in
set_option maxRecDepth 1000000 in
theorem dput_yes (Q q : Nat) (most : Int) (b : List Int) (a : Nat) (s : ByteArray) (hk : a + s.size ≤ b.length) (w : World) (h : DM w Q q most b) :
    Calls Try.prog 22 #[.pointer (some ⟨Q, 0, none⟩), .int .i64 (a : Int), .string s] w fun r w' => r = .returned (.int .i64 0) ∧ DM w' Q q most (splice b a (nums s)) ∧ Chg q w w' := by
  have HB := dbytes_yes Q q most b a s.size hk w h
  have hfew := h.few
  have HD : Hid (DM w Q q most b) := h
  have hls := nums_length s
  clear h
  go_enter Try.func22, Try.ntmps22
  go_wp2_with fail
  refine HB.mono ?_
  rintro r w1 ⟨rfl, rfl⟩
  go_wp2_with fail
  go_loopw [23] (fun iv wr => ∃ i : Nat, iv = .int .i64 (i : Int) ∧ i ≤ s.size ∧ Hid (DM wr Q q most (splice b a ((nums s).take i))) ∧ Hid (Chg q w1 wr)) (fun iv _ => s.size - (intOf iv).toNat)
  case atStart => exact ⟨0, rfl, by omega, by unfold Hid; rw [splice_none]; exact HD.out, Chg.refl _ _⟩
  case round =>
    obtain ⟨i, rfl, hi, HDi, HC⟩ := hrel
    by_cases hil : i < s.size
    · have hi1 : (i : Int) < (s.size : Int) := by omega
      have hlen : (splice b a ((nums s).take i)).length = b.length := length_splice _ _ _ (by rw [List.length_take]; omega)
      obtain ⟨cap, hcap, hc0⟩ := HDi.out.c0
      rw [hlen] at hc0 hcap
      have hin : a + i < (splice b a ((nums s).take i)).length := by omega
      have hcc := HDi.out.cell (a + i) hin
      have hff := HDi.out.f (a + i) hin
      have hsi : (nums s).getD i 0 = (s[i].toNat : Int) := by
        simp [nums, List.getD, hil]
        rfl
      have HN : Hid (DM (wr.drew.setCell ⟨q, a + i, none⟩ (.int .u8 (s[i].toNat : Int))) Q q most (splice b a ((nums s).take (i + 1)))) := by
        have hd : DM wr.drew Q q most (splice b a ((nums s).take i)) := HDi.out.under ((Below.refl _ _).drew)
        have := hd.set (a + i) (s[i].toNat : Int) hin (by have := s[i].toNat_lt; omega)
        rw [← hsi, splice_set b (nums s) a i (by omega) (by omega)] at this
        rw [← hsi]
        exact this
      have HC2 : Hid (Chg q w1 (wr.drew.setCell ⟨q, a + i, none⟩ (.int .u8 (s[i].toNat : Int)))) :=
        HC.out.trans ⟨rfl, rfl, rfl, by simp [World.setCell], fun k _ hk => by rw [Below.heap_setCell _ ⟨q, a + i, none⟩ _ k hk]; rfl⟩
      have HK1 : Hid (i + 1 ≤ s.size) := hil
      have HK2 : Hid (s.size - (i + 1) < s.size - i) := by unfold Hid; omega
      have hlt1 : (a : Int) + (i : Int) < (b.length : Int) := by omega
      have hlt0 : (0 : Int) ≤ (a : Int) + (i : Int) := by omega
      clear hlen hin hsi HDi HC HD hls
      go_wp2_with fail
      go_region
      go_wp2
      go_roundw
      case rel => exact ⟨i + 1, rfl, HK1.out, HN, HC2⟩
      case measure => exact HK2.out
    · have hi1 : ¬ ((i : Int) < (s.size : Int)) := by omega
      obtain rfl : i = s.size := by omega
      rw [List.take_of_length_le (by omega)] at HDi
      go_wp2
      go_ret
      exact ⟨rfl, HDi.out, HC.out⟩
/-- What the document's place says. -/
def dpE (K : Int) (op : Nat) (st : Bool) (base off : Int) : Int := if insW (op : Int) = 0 ∨ st ≠ decide (53 < (op : Int)) then 6 else plE K base off (insW (op : Int))
theorem word_u (base : Int) (u : Nat) (hu : base % 4294967296 = (u : Int)) : wval (wordB base 32) = (u : Int) := by
  rw [wval_word]
  exact hu
set_option maxHeartbeats 1000000 in
set_option maxRecDepth 1000000 in
theorem dplace_un (Q : Nat) (op : Nat) (st : Bool) (base off : Int) (hop : op < 256) (h : insW (op : Int) = 0 ∨ st ≠ decide (53 < (op : Int))) (w : World) (hM : MaxIn w) :
    Calls Try.prog 33 #[.pointer (some ⟨Q, 0, none⟩), .int .u8 (op : Int), .bool st, .int .i64 base, .int .i64 off] w fun r w' => r = .returned (.tuple #[.int .i64 0, .int .i64 0, .int .i64 6]) ∧ Below w.heap.size w w' := by
  have HW := rwidth_any op hop w hM
  by_cases h0 : insW (op : Int) = 0
  · rw [h0] at HW
    clear h
    go_enter Try.func33, Try.ntmps33
    go_wp2_with (go_at_call 39; refine HW.mono ?_; rintro r w1 ⟨rfl, HB⟩)
    go_ret3
    exact ⟨rfl, HB⟩
  · have h1 : st ≠ decide (53 < (op : Int)) := by rcases h with h | h; exact absurd h h0; exact h
    have h2 : ((insW (op : Int)) == 0) = false := by rw [beq_eq_false_iff_ne]; exact h0
    clear h
    by_cases h3 : 53 < (op : Int)
    · have h4 : st = false := by rw [decide_eq_true h3] at h1; cases st <;> simp_all
      subst h4
      go_enter Try.func33, Try.ntmps33
      go_wp2_with (go_at_call 39; refine HW.mono ?_; rintro r w1 ⟨rfl, HB⟩)
      go_ret3
      exact ⟨rfl, HB⟩
    · have h4 : st = true := by rw [decide_eq_false h3] at h1; cases st <;> simp_all
      subst h4
      have h5 : decide (53 < (op : Int)) = false := decide_eq_false h3
      have h6 : ¬ (53 < op) := by omega
      clear h3 h1
      go_enter Try.func33, Try.ntmps33
      go_wp2_with (go_at_call 39; refine HW.mono ?_; rintro r w1 ⟨rfl, HB⟩)
      go_ret3
      exact ⟨rfl, HB⟩
set_option maxHeartbeats 1000000 in
set_option maxRecDepth 1000000 in
theorem dplace_go (Q q : Nat) (most : Int) (b : List Int) (op wd : Nat) (st : Bool) (base off : Int) (hop : op < 256) (hwd : insW (op : Int) = (wd : Int)) (h0 : wd ≠ 0) (h8 : wd ≤ 8) (hst : st = decide (53 < (op : Int))) (w : World) (hM : MaxIn w) (h : DM w Q q most b) :
    Calls Try.prog 33 #[.pointer (some ⟨Q, 0, none⟩), .int .u8 (op : Int), .bool st, .int .i64 base, .int .i64 off] w fun r w' => Below w.heap.size w w' ∧ ((plE b.length base off wd ≠ 0 ∧ r = .returned (.tuple #[.int .i64 0, .int .i64 0, .int .i64 (plE b.length base off wd)])) ∨ (plE b.length base off wd = 0 ∧ r = .returned (.tuple #[.int .i64 (base % 4294967296 + off), .int .i64 (wd : Int), .int .i64 0]))) := by
  have HW := rwidth_any op hop w hM
  rw [hwd] at HW
  have h2 : ((wd : Int) == 0) = false := by rw [beq_eq_false_iff_ne]; omega
  have hfew := h.few
  have HD : Hid (DM w Q q most b) := h
  have hb53 : st = true ↔ 53 < (op : Int) := by rw [hst]; simp
  clear h hM
  by_cases h53 : 53 < (op : Int)
  · obtain rfl : st = true := hb53.2 h53
    clear hst hb53
    by_cases h1 : off < 0
    · have HE : Hid (plE b.length base off wd = 1) := by unfold Hid plE; rw [if_pos (Or.inl h1)]
      go_enter Try.func33, Try.ntmps33
      go_wp2_with (go_at_call 39; refine HW.mono ?_; rintro r w1 ⟨rfl, HB⟩)
      go_ret3
      refine ⟨HB, Or.inl ⟨?_, ?_⟩⟩
      · rw [HE.out]; decide
      · rw [HE.out]; rfl
    by_cases h3 : 4294967295 < off
    · have HE : Hid (plE b.length base off wd = 1) := by unfold Hid plE; rw [if_pos (Or.inr h3)]
      go_enter Try.func33, Try.ntmps33
      go_wp2_with (go_at_call 39; refine HW.mono ?_; rintro r w1 ⟨rfl, HB⟩)
      go_ret3
      refine ⟨HB, Or.inl ⟨?_, ?_⟩⟩
      · rw [HE.out]; decide
      · rw [HE.out]; rfl
    obtain ⟨u, hu, hu2⟩ := u32_of base
    have HWO : Hid (∀ w, type_of% (wordOf_any base 32 (by decide) (by decide) w)) := fun w => wordOf_any base 32 (by decide) (by decide) w
    have HPL : Hid (∀ v w, IsW w v (wordB base 32) → Calls Try.prog 34 #[v] w fun e w' => e = .returned (.int .u64 (u : Int)) ∧ w' = w) := fun v w hv => by
      have := plain_any v _ w hv (by rw [wordB_length]; decide)
      rw [word_u base u hu] at this
      exact this
    have HCV : Hid (∀ W, (convert 60 2 (.int .u64 (u : Int))).run Try.prog W = .ok (.int .i64 (u : Int)) W) := fun W => by
      rw [cvI u W, wrap64_some u (by omega)]
    have hu0 : (0 : Int) ≤ (u : Int) := by omega
    by_cases h5 : (b.length : Int) < (u : Int) + off + (wd : Int)
    · have HE : Hid (plE b.length base off wd = 23) := by
        unfold Hid plE
        rw [if_neg (by omega), hu, if_pos h5]
      clear hu
      go_enter Try.func33, Try.ntmps33
      go_wp2_with fail
      refine HW.mono ?_
      rintro r w1 ⟨rfl, hb1⟩
      have HB1 : Hid (type_of% hb1) := hb1
      clear hb1
      go_wp2_with fail
      refine (HWO.out _).mono ?_
      rintro r w2 ⟨v, rfl, hv, hb2⟩
      have HB2 : Hid (Below w.heap.size w w2) := HB1.out.trans (hb2.mono (by have := HB1.out.size; omega))
      have HV : Hid (type_of% hv) := hv
      clear hv hb2 HB1
      go_wp2_with fail
      refine (HPL.out _ _ HV.out).mono ?_
      rintro r w3 ⟨rfl, rfl⟩
      have HD2 : Hid (DM w3 Q q most b) := HD.out.under (HB2.out.mono (Nat.le_refl _))
      obtain ⟨cap, hcap, hc0⟩ := HD2.out.c0
      clear HV HWO HPL HD hcap
      go_wp2_with (refine wp_convX rfl (.tmp 33) 60 2 rfl _ rfl _ _ (HCV.out _) ?_)
      go_ret3
      refine ⟨HB2.out, Or.inl ⟨?_, ?_⟩⟩
      · rw [HE.out]; decide
      · rw [HE.out]; rfl
    · have HE : Hid (plE b.length base off wd = 0) := by
        unfold Hid plE
        rw [if_neg (by omega), hu, if_neg h5]
      have HP : Hid (base % 4294967296 + off = (u : Int) + off) := by unfold Hid; rw [hu]
      clear hu
      go_enter Try.func33, Try.ntmps33
      go_wp2_with fail
      refine HW.mono ?_
      rintro r w1 ⟨rfl, hb1⟩
      have HB1 : Hid (type_of% hb1) := hb1
      clear hb1
      go_wp2_with fail
      refine (HWO.out _).mono ?_
      rintro r w2 ⟨v, rfl, hv, hb2⟩
      have HB2 : Hid (Below w.heap.size w w2) := HB1.out.trans (hb2.mono (by have := HB1.out.size; omega))
      have HV : Hid (type_of% hv) := hv
      clear hv hb2 HB1
      go_wp2_with fail
      refine (HPL.out _ _ HV.out).mono ?_
      rintro r w3 ⟨rfl, rfl⟩
      have HD2 : Hid (DM w3 Q q most b) := HD.out.under (HB2.out.mono (Nat.le_refl _))
      obtain ⟨cap, hcap, hc0⟩ := HD2.out.c0
      clear HV HWO HPL HD hcap
      go_wp2_with (refine wp_convX rfl (.tmp 33) 60 2 rfl _ rfl _ _ (HCV.out _) ?_)
      go_ret3
      refine ⟨HB2.out, Or.inr ⟨HE.out, ?_⟩⟩
      rw [HP.out]
      rfl
  · obtain rfl : st = false := by cases st with | false => rfl | true => exact absurd (hb53.1 rfl) h53
    clear hst hb53
    by_cases h1 : off < 0
    · have HE : Hid (plE b.length base off wd = 1) := by unfold Hid plE; rw [if_pos (Or.inl h1)]
      go_enter Try.func33, Try.ntmps33
      go_wp2_with (go_at_call 39; refine HW.mono ?_; rintro r w1 ⟨rfl, HB⟩)
      go_ret3
      refine ⟨HB, Or.inl ⟨?_, ?_⟩⟩
      · rw [HE.out]; decide
      · rw [HE.out]; rfl
    by_cases h3 : 4294967295 < off
    · have HE : Hid (plE b.length base off wd = 1) := by unfold Hid plE; rw [if_pos (Or.inr h3)]
      go_enter Try.func33, Try.ntmps33
      go_wp2_with (go_at_call 39; refine HW.mono ?_; rintro r w1 ⟨rfl, HB⟩)
      go_ret3
      refine ⟨HB, Or.inl ⟨?_, ?_⟩⟩
      · rw [HE.out]; decide
      · rw [HE.out]; rfl
    obtain ⟨u, hu, hu2⟩ := u32_of base
    have HWO : Hid (∀ w, type_of% (wordOf_any base 32 (by decide) (by decide) w)) := fun w => wordOf_any base 32 (by decide) (by decide) w
    have HPL : Hid (∀ v w, IsW w v (wordB base 32) → Calls Try.prog 34 #[v] w fun e w' => e = .returned (.int .u64 (u : Int)) ∧ w' = w) := fun v w hv => by
      have := plain_any v _ w hv (by rw [wordB_length]; decide)
      rw [word_u base u hu] at this
      exact this
    have HCV : Hid (∀ W, (convert 60 2 (.int .u64 (u : Int))).run Try.prog W = .ok (.int .i64 (u : Int)) W) := fun W => by
      rw [cvI u W, wrap64_some u (by omega)]
    have hu0 : (0 : Int) ≤ (u : Int) := by omega
    by_cases h5 : (b.length : Int) < (u : Int) + off + (wd : Int)
    · have HE : Hid (plE b.length base off wd = 23) := by
        unfold Hid plE
        rw [if_neg (by omega), hu, if_pos h5]
      clear hu
      go_enter Try.func33, Try.ntmps33
      go_wp2_with fail
      refine HW.mono ?_
      rintro r w1 ⟨rfl, hb1⟩
      have HB1 : Hid (type_of% hb1) := hb1
      clear hb1
      go_wp2_with fail
      refine (HWO.out _).mono ?_
      rintro r w2 ⟨v, rfl, hv, hb2⟩
      have HB2 : Hid (Below w.heap.size w w2) := HB1.out.trans (hb2.mono (by have := HB1.out.size; omega))
      have HV : Hid (type_of% hv) := hv
      clear hv hb2 HB1
      go_wp2_with fail
      refine (HPL.out _ _ HV.out).mono ?_
      rintro r w3 ⟨rfl, rfl⟩
      have HD2 : Hid (DM w3 Q q most b) := HD.out.under (HB2.out.mono (Nat.le_refl _))
      obtain ⟨cap, hcap, hc0⟩ := HD2.out.c0
      clear HV HWO HPL HD hcap
      go_wp2_with (refine wp_convX rfl (.tmp 33) 60 2 rfl _ rfl _ _ (HCV.out _) ?_)
      go_ret3
      refine ⟨HB2.out, Or.inl ⟨?_, ?_⟩⟩
      · rw [HE.out]; decide
      · rw [HE.out]; rfl
    · have HE : Hid (plE b.length base off wd = 0) := by
        unfold Hid plE
        rw [if_neg (by omega), hu, if_neg h5]
      have HP : Hid (base % 4294967296 + off = (u : Int) + off) := by unfold Hid; rw [hu]
      clear hu
      go_enter Try.func33, Try.ntmps33
      go_wp2_with fail
      refine HW.mono ?_
      rintro r w1 ⟨rfl, hb1⟩
      have HB1 : Hid (type_of% hb1) := hb1
      clear hb1
      go_wp2_with fail
      refine (HWO.out _).mono ?_
      rintro r w2 ⟨v, rfl, hv, hb2⟩
      have HB2 : Hid (Below w.heap.size w w2) := HB1.out.trans (hb2.mono (by have := HB1.out.size; omega))
      have HV : Hid (type_of% hv) := hv
      clear hv hb2 HB1
      go_wp2_with fail
      refine (HPL.out _ _ HV.out).mono ?_
      rintro r w3 ⟨rfl, rfl⟩
      have HD2 : Hid (DM w3 Q q most b) := HD.out.under (HB2.out.mono (Nat.le_refl _))
      obtain ⟨cap, hcap, hc0⟩ := HD2.out.c0
      clear HV HWO HPL HD hcap
      go_wp2_with (refine wp_convX rfl (.tmp 33) 60 2 rfl _ rfl _ _ (HCV.out _) ?_)
      go_ret3
      refine ⟨HB2.out, Or.inr ⟨HE.out, ?_⟩⟩
      rw [HP.out]
      rfl
end Go.Proofs.Ytomiganjagjabaa
