/-
  ShotOne: what is read is what is written, and nothing else is read so; cut short it is not read.
-/
import Derived.Test.YtfmmefmpjejioaaSE2
namespace Go.Proofs.Ytfmmefmpjejioaa
open Go.RowKit

set_option maxHeartbeats 1000000 in
set_option maxRecDepth 1000000 in
theorem shotOne_bad (t : ByteArray) (at_ e : Int) (_he : (e == 0) = false) (w : World)
    (HR : Hid (Calls Try.prog 6 #[.string t] w fun r w' => r = .returned (.tuple #[zeroI, zeroS, .int .i64 e]) ∧ Below w.heap.size w w')) :
    Calls Try.prog 5 #[.string t, .int .i64 at_] w fun r w' => r = .returned (.bool true) ∧ Below w.heap.size w w' := by
  have hne : (e != 0) = true := by rw [bne, _he]; rfl
  go_enter Try.func5, Try.ntmps5
  go_wp2_with fail
  refine HR.out.mono ?_
  rintro r w1 ⟨rfl, b1⟩
  have HB1 : Hid (Below w.heap.size w ((w1.alloc (.cells #[.string ⟨#[]⟩, .slice none 0 0, .slice none 0 0] 25)).alloc (.cells #[.slice none 0 0, .int .i64 0] 28))) := (b1.alloc b1.size _).alloc (by have := b1.size; simp; omega) _
  obtain ⟨wa, hwa⟩ : ∃ wa, wa = (w1.alloc (.cells #[.string ⟨#[]⟩, .slice none 0 0, .slice none 0 0] 25)).alloc (.cells #[.slice none 0 0, .int .i64 0] 28) := ⟨_, rfl⟩
  have HS : Hid (wa.heap.size = w1.heap.size + 2) := by unfold Hid; rw [hwa]; simp
  have HY : Hid (Y2 28 wa (w1.heap.size + 1) (.slice none 0 0) (.int .i64 0)) := by
    unfold Hid
    rw [hwa]
    unfold Y2
    rw [show w1.heap.size + 1 = (w1.alloc (.cells #[.string ⟨#[]⟩, .slice none 0 0, .slice none 0 0] 25)).heap.size by simp]
    exact newY _ _ _
  rw [← hwa] at HB1
  unfold zeroI zeroS
  clear b1 HR
  go_wp2_with fail
  rw [← hwa]
  clear hwa
  refine (sameImage_zero _).mono ?_
  rintro r w2 ⟨rfl, b2⟩
  have HB2 : Hid (Below w.heap.size w w2) := HB1.out.trans (b2.mono HB1.out.size)
  obtain ⟨y0, y1⟩ := (HY.out.below b2 (by rw [HS.out]; omega)).cell
  clear b2 HY HB1
  go_wp2_with fail
  refine (sameState_zero _).mono ?_
  rintro r w3 ⟨rfl, b3⟩
  have HB3 : Hid (Below w.heap.size w w3) := HB2.out.trans (b3.mono HB2.out.size)
  clear b3 HB2
  go_wp2
  go_ret
  exact ⟨rfl, HB3.out⟩
set_option maxHeartbeats 1000000 in
set_option maxRecDepth 1000000 in
theorem shotOne_good (t : ByteArray) (at_ rr : Int) (p : ImgV × StaV) (_ht0 : 0 < t.size) (_ht1 : t.size ≤ 100000000) (_hr0 : 0 ≤ rr) (_hr1 : rr < (t.size : Int)) (w : World)
    (HR : Hid (Calls Try.prog 6 #[.string t] w fun r w' => (∃ (x : ImgD) (s : StaD), r = .returned (.tuple #[x.v, s.v, .int .i64 0]) ∧ x.ok w' ∧ s.ok w' ∧ x.val = p.1 ∧ s.val = p.2) ∧ Below w.heap.size w w'))
    (HW : Hid (∀ (x : ImgD) (s : StaD) w', x.ok w' → s.ok w' → x.val = p.1 → s.val = p.2 → Calls Try.prog 10 #[x.v, s.v] w' fun r w'' => r = .returned (.tuple #[.string t, .int .i64 0]) ∧ Below w'.heap.size w' w''))
    (HRE : Hid (∀ w, Calls Try.prog 11 #[.int .i64 at_, .int .i64 (t.size : Int)] w fun e w' => e = .returned (.int .i64 rr) ∧ w' = w))
    (HRD : Hid (∀ w', Calls Try.prog 6 #[.string (t.extract 0 rr.toNat)] w' fun r w'' => r = .returned (.tuple #[zeroI, zeroS, .int .i64 3]) ∧ Below w'.heap.size w' w'')) :
    Calls Try.prog 5 #[.string t, .int .i64 at_] w fun r w' => r = .returned (.bool true) ∧ Below w.heap.size w w' := by
  have hte : t.toList.isEmpty = false := by
    rw [ByteArray.toList_eq]
    cases h : t.data.toList with
    | nil => 
      have : t.data.toList.length = 0 := by rw [h]; rfl
      rw [Array.length_toList] at this
      have h2 : t.size = t.data.size := rfl
      omega
    | cons a b => rfl
  go_enter Try.func5, Try.ntmps5
  go_wp2_with fail
  refine HR.out.mono ?_
  rintro r w1 ⟨⟨⟨m1, t1, g1⟩, ⟨oo, kk, cc, nn⟩, rfl, hx, hs, hv1, hv2⟩, b1⟩
  have HV : Hid (ImgD.val ⟨m1, t1, g1⟩ = p.1 ∧ StaD.val ⟨oo, kk, cc, nn⟩ = p.2) := ⟨hv1, hv2⟩
  obtain ⟨wa, hwa⟩ : ∃ wa, wa = (w1.alloc (.cells #[.string m1, .slice t1.o t1.n t1.cap, .slice g1.o g1.n g1.cap] 25)).alloc (.cells #[.slice oo cc.length kk, .int .i64 nn] 28) := ⟨_, rfl⟩
  have ba : Below w1.heap.size w1 wa := by rw [hwa]; exact ((Below.refl _ _).alloc (Nat.le_refl _) _).alloc (by simp) _
  have HX : Hid (ImgD.ok wa ⟨m1, t1, g1⟩) := hx.below ba
  have HS : Hid (StaD.ok wa ⟨oo, kk, cc, nn⟩) := hs.below ba
  have HBA : Hid (Below w.heap.size w wa) := b1.trans (ba.mono b1.size)
  dsimp only [ImgD.v, StaD.v]
  clear b1 HR hx hs ba hv1 hv2
  go_wp2_with fail
  rw [← hwa]
  clear hwa
  refine (HW.out _ _ _ HX.out HS.out HV.out.1 HV.out.2).mono ?_
  rintro r w2 ⟨rfl, b2⟩
  have HB2 : Hid (Below w.heap.size w w2) := HBA.out.trans (b2.mono HBA.out.size)
  clear b2 HBA HX HS HW HV
  have hrn : ((rr.toNat : Nat) : Int) = rr := by omega
  go_wp2_with fail
  refine (HRE.out _).mono ?_
  rintro r w3 ⟨rfl, rfl⟩
  go_wp2_with fail
  refine (HRD.out _).mono ?_
  rintro r w4 ⟨rfl, b4⟩
  have HB4 : Hid (Below w.heap.size w ((w4.alloc (.cells #[.string ⟨#[]⟩, .slice none 0 0, .slice none 0 0] 25)).alloc (.cells #[.slice none 0 0, .int .i64 0] 28))) := ((HB2.out.trans (b4.mono HB2.out.size)).alloc (Nat.le_trans HB2.out.size b4.size) _).alloc (by have := HB2.out.size; have := b4.size; simp; omega) _
  unfold zeroI zeroS
  clear b4 HRD HB2 HRE
  go_wp2
  go_ret
  exact ⟨rfl, HB4.out⟩
theorem shotOne_walk0 (t : ByteArray) (at_ : Int) (ht : t.size ≤ maxLen) (h1 : -9223372036854775808 ≤ at_) (h2 : at_ ≤ 9223372036854775807) (w : World) :
    Calls Try.prog 5 #[.string t, .int .i64 at_] w fun r w' => r = .returned (.bool true) ∧ Below w.heap.size w w' := by
  cases hr : shotRead (nums t) with
  | error e =>
    exact shotOne_bad t at_ e (beq_eq_false_iff_ne.2 (shot_nz _ _ hr)) w ((sread_any t ht w).mono (by
      rintro r w1 ⟨h, b⟩
      rw [hr] at h
      exact ⟨h.1, b⟩))
  | ok p =>
    obtain ⟨hg, hp⟩ := shot_ok (nums t) p (nums_byte t) hr
    have hpos : 0 < t.size := by
      have := tShot_pos p
      rw [hp, nums_length] at this
      omega
    by_cases hbig : t.size ≤ 100000000
    · have hr0 := Int.emod_nonneg at_ (b := (t.size : Int)) (by omega)
      have hr1 := Int.emod_lt_of_pos at_ (b := (t.size : Int)) (by omega)
      refine shotOne_good t at_ (at_ % (t.size : Int)) p hpos hbig hr0 hr1 w ((sread_any t ht w).mono (by
        rintro r w1 ⟨h, b⟩
        rw [hr] at h
        exact ⟨h, b⟩)) ?_ (fun w => rest_anyK at_ (t.size : Int) _ (by omega) (by omega) rfl h1 h2 w) ?_
      · intro x s w' hx hs hv1 hv2
        have hv : (x.val, s.val) = p := by rw [hv1, hv2]
        refine (swrite_any x s w' hx hs).mono ?_
        rintro r w2 ⟨ho, b⟩
        rw [hv] at ho
        rcases ho with ⟨h, _⟩ | ⟨_, u, rfl, hu, _⟩
        · exact absurd (shotW_of _ hg) h
        · have : u = t := nums_injK (by rw [hu, hp])
          subst this
          exact ⟨rfl, b⟩
      · intro w'
        have hk : (at_ % (t.size : Int)).toNat < t.size := by omega
        have hm : (t.extract 0 (at_ % (t.size : Int)).toNat).size ≤ maxLen := by rw [ByteArray.size_extract]; unfold maxLen at ht ⊢; omega
        refine (sread_any _ hm w').mono ?_
        rintro r w2 ⟨ho, b⟩
        have hc : shotRead (nums (t.extract 0 (at_ % (t.size : Int)).toNat)) = .error 3 := by
          rw [nums_extract, List.drop_zero, Nat.sub_zero, ← hp]
          exact shot_cut p _ hg (by rw [hp, nums_length]; exact hk)
        rw [hc] at ho
        exact ⟨ho.1, b⟩
    · exact absurd (tShot_len p hg) (by rw [hp, nums_length]; exact hbig)
theorem shotOne_walk (a0 : ByteArray) (a1 : Int) (w0 : a0.size ≤ maxLen) (w1 : (Lit.int .i64 a1).wf = true) (w : World) :
    Calls Try.prog 5 #[.string a0, .int .i64 a1] w fun e w' => e = .returned (.bool true) ∧ Below w.heap.size w w' := by
  have a : IntKind.i64.min = -9223372036854775808 := by decide
  have b : IntKind.i64.max = 9223372036854775807 := by decide
  simp [Lit.wf, a, b] at w1
  exact shotOne_walk0 a0 a1 w0 w1.1 w1.2 w
end Go.Proofs.Ytfmmefmpjejioaa
