/-
  ShotBack: what is written is read as it was.
-/
import Derived.Test.YtfmmefmpjejioaaSE2
namespace Go.Proofs.Ytfmmefmpjejioaa
open Go.RowKit

theorem all64 {w : World} {d : NumD} (h : d.ok .i64 w) : All64 d.xs := by
  intro x hx
  have hw := h.wf x hx
  have a : IntKind.i64.min = -9223372036854775808 := by decide
  have b : IntKind.i64.max = 9223372036854775807 := by decide
  simp [Lit.wf, a, b] at hw
  exact hw
theorem img64 {w : World} {x : ImgD} (h : x.ok w) : Img64 x.val := ⟨nums_byte x.m, all64 h.2.2⟩
theorem sta64 {w : World} {s : StaD} (h : s.ok w) : Sta64 s.val := by
  intro c hc
  obtain ⟨d, hd, rfl⟩ := List.mem_map.1 hc
  have hd := h.2.all d hd
  exact ⟨all64 hd.2.2.1, all64 hd.2.2.2⟩
theorem shotW_good {w : World} {x : ImgD} {s : StaD} (hx : x.ok w) (hs : s.ok w) (h : shotW (x.val, s.val) = 0) : GShot (x.val, s.val) := by
  obtain ⟨h1, h2⟩ := fstE_eq h
  exact ⟨(imgP_zero _ (img64 hx)).1 h1, (sta_zero _ (sta64 hs)).1 h2⟩
theorem shotW_or (p : ImgV × StaV) : shotW p = 0 ∨ shotW p = 1 ∨ shotW p = 2 := fstE_or _ _ (fImgP_or _) (fSta_or _)
set_option maxHeartbeats 1000000 in
set_option maxRecDepth 1000000 in
theorem shotBack_bad (e : Int) (he : e = 1 ∨ e = 2) (x : ImgD) (s : StaD) (w : World)
    (HW : Hid (∀ w', Below w.heap.size w w' → Calls Try.prog 10 #[x.v, s.v] w' fun r w'' => r = .returned (.tuple #[.string ⟨#[]⟩, .int .i64 e]) ∧ Below w'.heap.size w' w'')) :
    Calls Try.prog 4 #[x.v, s.v] w fun r w' => r = .returned (.bool true) ∧ Below w.heap.size w w' := by
  obtain ⟨m1, t1, g1⟩ := x
  obtain ⟨oo, kk, cc, nn⟩ := s
  have HBA : Hid (Below w.heap.size w ((w.alloc (.cells #[.string m1, .slice t1.o t1.n t1.cap, .slice g1.o g1.n g1.cap] 25)).alloc (.cells #[.slice oo cc.length kk, .int .i64 nn] 28))) := ((Below.refl _ _).alloc (Nat.le_refl _) _).alloc (by simp) _
  dsimp only [ImgD.v, StaD.v] at HW ⊢
  rcases he with rfl | rfl
  · go_enter Try.func4, Try.ntmps4
    go_wp2_with fail
    refine (HW.out _ HBA.out).mono ?_
    rintro r w1 ⟨rfl, b1⟩
    have HB1 : Hid (Below w.heap.size w w1) := HBA.out.trans (b1.mono HBA.out.size)
    clear b1 HW
    go_wp2
    go_ret
    exact ⟨rfl, HB1.out⟩
  · go_enter Try.func4, Try.ntmps4
    go_wp2_with fail
    refine (HW.out _ HBA.out).mono ?_
    rintro r w1 ⟨rfl, b1⟩
    have HB1 : Hid (Below w.heap.size w w1) := HBA.out.trans (b1.mono HBA.out.size)
    clear b1 HW
    go_wp2
    go_ret
    exact ⟨rfl, HB1.out⟩
set_option maxHeartbeats 1000000 in
set_option maxRecDepth 1000000 in
theorem shotBack_good (x : ImgD) (s : StaD) (p : ImgV × StaV) (w : World) (hx : x.ok w) (hs : s.ok w)
    (HW : Hid (∀ w', Below w.heap.size w w' → Calls Try.prog 10 #[x.v, s.v] w' fun r w'' => (∃ t : ByteArray, r = .returned (.tuple #[.string t, .int .i64 0]) ∧ nums t = tShot p ∧ 0 < t.size) ∧ Below w'.heap.size w' w''))
    (HR : Hid (∀ (t : ByteArray) w', nums t = tShot p → Calls Try.prog 6 #[.string t] w' fun r w'' => (∃ (y : ImgD) (u : StaD), r = .returned (.tuple #[y.v, u.v, .int .i64 0]) ∧ y.ok w'' ∧ u.ok w'' ∧ x.val = y.val ∧ s.val = u.val) ∧ Below w'.heap.size w' w'')) :
    Calls Try.prog 4 #[x.v, s.v] w fun r w' => r = .returned (.bool true) ∧ Below w.heap.size w w' := by
  have HX : Hid (x.ok w) := hx
  have HS : Hid (s.ok w) := hs
  obtain ⟨m1, t1, g1⟩ := x
  obtain ⟨oo, kk, cc, nn⟩ := s
  obtain ⟨wa, hwa⟩ : ∃ wa, wa = (w.alloc (.cells #[.string m1, .slice t1.o t1.n t1.cap, .slice g1.o g1.n g1.cap] 25)).alloc (.cells #[.slice oo cc.length kk, .int .i64 nn] 28) := ⟨_, rfl⟩
  have HBA : Hid (Below w.heap.size w wa) := by unfold Hid; rw [hwa]; exact ((Below.refl _ _).alloc (Nat.le_refl _) _).alloc (by simp) _
  have HSZ : Hid (wa.heap.size = w.heap.size + 2) := by unfold Hid; rw [hwa]; simp
  have HXI : Hid (Y3 25 wa w.heap.size (.string m1) (.slice t1.o t1.n t1.cap) (.slice g1.o g1.n g1.cap)) := by
    unfold Hid Y3
    rw [hwa, Below.block ((Below.refl _ _).alloc (Nat.le_refl _) _) _ (by simp)]
    exact newY _ _ _
  have HXS : Hid (Y2 28 wa (w.heap.size + 1) (.slice oo cc.length kk) (.int .i64 nn)) := by
    unfold Hid Y2
    rw [hwa, show w.heap.size + 1 = (w.alloc (.cells #[.string m1, .slice t1.o t1.n t1.cap, .slice g1.o g1.n g1.cap] 25)).heap.size by simp]
    exact newY _ _ _
  clear hx hs
  dsimp only [ImgD.v, StaD.v] at HW HR ⊢
  go_enter Try.func4, Try.ntmps4
  go_wp2_with fail
  rw [← hwa]
  clear hwa
  refine (HW.out _ HBA.out).mono ?_
  rintro r w1 ⟨⟨t, rfl, ht, ht0⟩, b1⟩
  have HT : Hid (nums t = tShot p) := ht
  have hte : t.toList.isEmpty = false := by
    rw [ByteArray.toList_eq]
    cases h : t.data.toList with
    | nil =>
      have : t.data.toList.length = 0 := by rw [h]; rfl
      rw [Array.length_toList] at this
      have h2 : t.size = t.data.size := rfl
      omega
    | cons a b => rfl
  have HB1 : Hid (Below w.heap.size w w1) := HBA.out.trans (b1.mono HBA.out.size)
  have HXI1 : Hid (type_of% (HXI.out.below b1 (by rw [HSZ.out]; omega))) := HXI.out.below b1 (by rw [HSZ.out]; omega)
  have HXS1 : Hid (type_of% (HXS.out.below b1 (by rw [HSZ.out]; omega))) := HXS.out.below b1 (by rw [HSZ.out]; omega)
  have HS1 : Hid (w.heap.size + 2 ≤ w1.heap.size) := by have := b1.size; rw [HSZ.out] at this; exact this
  clear b1 HW ht HXI HXS HBA HSZ
  go_wp2_with fail
  refine (HR.out t _ HT.out).mono ?_
  rintro r w2 ⟨⟨⟨m2, t2, g2⟩, ⟨o2, k2, c2, n2⟩, rfl, hy, hu, hv1, hv2⟩, b2⟩
  dsimp only [ImgD.v, StaD.v]
  have HV : Hid (ImgD.val ⟨m1, t1, g1⟩ = ImgD.val ⟨m2, t2, g2⟩ ∧ StaD.val ⟨oo, kk, cc, nn⟩ = StaD.val ⟨o2, k2, c2, n2⟩) := ⟨hv1, hv2⟩
  obtain ⟨wb, hwb⟩ : ∃ wb, wb = (w2.alloc (.cells #[.string m2, .slice t2.o t2.n t2.cap, .slice g2.o g2.n g2.cap] 25)).alloc (.cells #[.slice o2 c2.length k2, .int .i64 n2] 28) := ⟨_, rfl⟩
  have bb : Below w2.heap.size w2 wb := by rw [hwb]; exact ((Below.refl _ _).alloc (Nat.le_refl _) _).alloc (by simp) _
  have HB3 : Hid (Below w.heap.size w wb) := (HB1.out.trans (b2.mono HB1.out.size)).trans (bb.mono (by have := HS1.out; have := b2.size; omega))
  have HY : Hid (ImgD.ok wb ⟨m2, t2, g2⟩) := hy.below bb
  have HU : Hid (StaD.ok wb ⟨o2, k2, c2, n2⟩) := hu.below bb
  have HS2 : Hid (w.heap.size + 2 ≤ w2.heap.size ∧ wb.heap.size = w2.heap.size + 2) := ⟨Nat.le_trans HS1.out b2.size, by rw [hwb]; simp⟩
  have xI3 := (HXI1.out.below b2 (by have := HS1.out; omega)).below bb (by have := HS2.out; omega)
  have xS3 := (HXS1.out.below b2 (by have := HS1.out; omega)).below bb (by have := HS2.out; omega)
  obtain ⟨i0, i1, i2⟩ := xI3.cell
  have HXS3 : Hid (type_of% xS3) := xS3
  have xU : Y2 28 wb (w2.heap.size + 1) (.slice o2 c2.length k2) (.int .i64 n2) := by
    unfold Y2
    rw [hwb, show w2.heap.size + 1 = (w2.alloc (.cells #[.string m2, .slice t2.o t2.n t2.cap, .slice g2.o g2.n g2.cap] 25)).heap.size by simp]
    exact newY _ _ _
  have HXU : Hid (type_of% xU) := xU
  rw [hwb] at i0 i1 i2
  clear b2 hy hu hv1 hv2 bb HB1 HXI1 HXS1 xI3 xS3 xU HR
  go_wp2_with fail
  rw [← hwb]
  clear i0 i1 i2 hwb
  refine (sameImage_yes ⟨m1, t1, g1⟩ ⟨m2, t2, g2⟩ _ (HX.out.below HB3.out) HY.out HV.out.1).mono ?_
  rintro r w4 ⟨rfl, b4⟩
  have HB4 : Hid (Below w.heap.size w w4) := HB3.out.trans (b4.mono HB3.out.size)
  obtain ⟨j0, j1⟩ := (HXS3.out.below b4 (by have := HS2.out; omega)).cell
  obtain ⟨l0, l1⟩ := (HXU.out.below b4 (by have := HS2.out; omega)).cell
  have HU4 : Hid (StaD.ok w4 ⟨o2, k2, c2, n2⟩) := HU.out.below b4
  clear b4 HB3 HY HU HXS3 HXU
  go_wp2_with fail
  refine (sameState_yes ⟨oo, kk, cc, nn⟩ ⟨o2, k2, c2, n2⟩ _ (HS.out.below HB4.out) HU4.out HV.out.2).mono ?_
  rintro r w5 ⟨rfl, b5⟩
  have HB5 : Hid (Below w.heap.size w w5) := HB4.out.trans (b5.mono HB4.out.size)
  clear b5 HB4 HU4
  go_wp2
  go_ret
  exact ⟨rfl, HB5.out⟩
theorem shotBack_walk (x : ImgD) (s : StaD) (w : World) (hx : x.ok w) (hs : s.ok w) :
    Calls Try.prog 4 #[x.v, s.v] w fun r w' => r = .returned (.bool true) ∧ Below w.heap.size w w' := by
  have hW := fun w' (b : Below w.heap.size w w') => swrite_any x s w' (hx.below b) (hs.below b)
  by_cases h0 : shotW (x.val, s.val) = 0
  · have hg := shotW_good hx hs h0
    refine shotBack_good x s (x.val, s.val) w hx hs (fun w' b => (hW w' b).mono ?_) (fun t w' ht => ?_)
    · rintro r w2 ⟨ho, b2⟩
      rcases ho with ⟨h, _⟩ | ⟨_, t, rfl, ht, _⟩
      · exact absurd h0 h
      · refine ⟨⟨t, rfl, ht, ?_⟩, b2⟩
        have := tShot_pos (x.val, s.val)
        rw [← ht, nums_length] at this
        omega
    · have hm : t.size ≤ maxLen := by
        have := tShot_len _ hg
        rw [← ht, nums_length] at this
        unfold maxLen
        omega
      refine (sread_any t hm w').mono ?_
      rintro r w2 ⟨ho, b2⟩
      rw [ht, shot_back _ hg] at ho
      obtain ⟨y, u, rfl, hy, hu, hv1, hv2⟩ := ho
      exact ⟨⟨y, u, rfl, hy, hu, hv1.symm, hv2.symm⟩, b2⟩
  · refine shotBack_bad (shotW (x.val, s.val)) ((shotW_or _).resolve_left h0) x s w (fun w' b => (hW w' b).mono ?_)
    rintro r w2 ⟨ho, b2⟩
    rcases ho with ⟨_, h⟩ | ⟨h, _⟩
    · exact ⟨h, b2⟩
    · exact absurd h h0
end Go.Proofs.Ytfmmefmpjejioaa
