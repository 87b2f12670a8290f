/-
  The writer of texts: the whole.
-/
import Derived.Test.YtfmmefmpjejioaaSW5
namespace Go.Proofs.Ytfmmefmpjejioaa
open Go.RowKit

theorem bts_app {L M : List Int} (h : Bts L) (k : Bts M) : Bts (L ++ M) := fun b hb => (List.mem_append.1 hb).elim (h b) (k b)
theorem bts_uB (n : Nat) : Bts (uB n) := uB_byte n
theorem bts_flat {α : Type} {t : α → List Int} (h : ∀ x, Bts (t x)) (L : List α) : Bts (L.flatMap t) := fun b hb => by
  obtain ⟨x, _, hx⟩ := List.mem_flatMap.1 hb
  exact h x b hx
theorem bts_tList {α : Type} {t : α → List Int} (h : ∀ x, Bts (t x)) (L : List α) : Bts (tList t L) := bts_app (bts_uB _) (bts_flat h L)
theorem bts_sB (n : Int) : Bts (sB n) := sB_byte n
theorem bts_tCal (c : CalV) : Bts (tCal c) := bts_app (bts_uB _) (bts_app (bts_uB _) (bts_app (bts_tList bts_sB _) (bts_tList bts_sB _)))
theorem bts_tShot (p : ImgV × StaV) (h : Bts p.1.1) : Bts (tShot p) := bts_app (bts_app (bts_app (bts_uB _) h) (bts_app (bts_tList bts_sB _) (bts_tList bts_sB _))) (bts_app (bts_uB _) (bts_tList bts_tCal _))
theorem nums_bsK (L : List Int) (h : Bts L) : nums ⟨(bsK L).toArray⟩ = L := nums_str h
/-- What Write says. -/
def shotW (p : ImgV × StaV) : Int := fstE (fImgP p.1) (fSta p.2)
def WOut (p : ImgV × StaV) (r : Ending) : Prop :=
  (shotW p ≠ 0 ∧ r = .returned (.tuple #[.string ⟨#[]⟩, .int .i64 (shotW p)])) ∨ (shotW p = 0 ∧ ∃ t : ByteArray, r = .returned (.tuple #[.string t, .int .i64 0]) ∧ nums t = tShot p ∧ t.size ≤ 100000000)
set_option maxHeartbeats 600000 in
set_option maxRecDepth 1000000 in
theorem swrite_any (x : ImgD) (s : StaD) (w : World) (hx : x.ok w) (hs : s.ok w) :
    Calls Try.prog 10 #[x.v, s.v] w fun r w' => WOut (x.val, s.val) r ∧ Below w.heap.size w w' := by
  obtain ⟨M, hM⟩ : ∃ M : Int, M = 2048 := ⟨_, rfl⟩
  have HM : Hid (M = 2048) := hM
  obtain ⟨m1, t1, g1⟩ := x
  obtain ⟨oo, kk, cc, nn⟩ := s
  obtain ⟨wa, hwa⟩ : ∃ wa, wa = w.alloc (.cells #[.string m1, .slice t1.o t1.n t1.cap, .slice g1.o g1.n g1.cap] 25) := ⟨_, rfl⟩
  obtain ⟨wb, hwb⟩ : ∃ wb, wb = wa.alloc (.cells #[.slice oo cc.length kk, .int .i64 nn] 28) := ⟨_, rfl⟩
  obtain ⟨wc, hwc⟩ : ∃ wc, wc = wb.alloc (.cells #[.pointer none, .slice none 0 0, .int .i64 0] 65) := ⟨_, rfl⟩
  have b1 : Below w.heap.size w wa := by rw [hwa]; exact (Below.refl _ _).alloc (Nat.le_refl _) _
  have b2 : Below wa.heap.size wa wb := by rw [hwb]; exact (Below.refl _ _).alloc (Nat.le_refl _) _
  have b3 : Below wb.heap.size wb wc := by rw [hwc]; exact (Below.refl _ _).alloc (Nat.le_refl _) _
  have sa : wa.heap.size = w.heap.size + 1 := by rw [hwa]; simp
  have sb : wb.heap.size = w.heap.size + 2 := by rw [hwb]; simp [sa]
  have HSB : Hid (wb.heap.size = w.heap.size + 2) := sb
  have bwb : Below w.heap.size w wb := b1.trans (b2.mono (by omega))
  have bwc : Below w.heap.size w wc := bwb.trans (b3.mono (by omega))
  have HX : Hid (ImgD.ok wb ⟨m1, t1, g1⟩) := hx.below bwb
  have HS : Hid (StaD.ok wb ⟨oo, kk, cc, nn⟩) := hs.below bwb
  have HW : Hid (WW wc wb.heap.size wb.heap.size [] 0) := by unfold Hid; rw [hwc]; exact WW.new wb
  have HBC : Hid (Below w.heap.size w wc) := bwc
  have HB3 : Hid (Below wb.heap.size wb wc) := b3
  have xX : Y3 25 wc w.heap.size (.string m1) (.slice t1.o t1.n t1.cap) (.slice g1.o g1.n g1.cap) := by
    unfold Y3
    rw [b3.block _ (by omega), b2.block _ (by omega), hwa]
    exact newY _ _ _
  have xS : Y2 28 wc (w.heap.size + 1) (.slice oo cc.length kk) (.int .i64 nn) := by
    unfold Y2
    rw [b3.block _ (by omega), hwb, ← sa]
    exact newY _ _ _
  have HBTS : Hid (Bts (nums m1)) := nums_byte m1
  clear b1 b2 b3 bwb bwc hx hs sb hM
  dsimp only [ImgD.v, StaD.v]
  go_enter Try.func10, Try.ntmps10
  go_wp2_with fail
  rw [← hwa, ← hwb, ← hwc, show w.heap.size + 1 + 1 = wb.heap.size by have := HSB.out; omega]
  clear hwa hwb hwc
  refine (wimage_any wb wb.heap.size ⟨m1, t1, g1⟩ M HM HX.out [] 0 _ HW.out HB3.out (by decide)).mono ?_
  rintro r w1 ⟨rfl, L1, e1, h1, o1, hl1, k1⟩
  have HW1 : Hid (WW w1 wb.heap.size wb.heap.size L1 e1) := h1
  have HO1 : Hid (type_of% o1) := o1
  have HL1 : Hid (L1.length ≤ 17000) := by unfold Hid; simpa using hl1
  have HK1 : Hid (BK wb.heap.size wc w1) := k1
  have xS1 : Y2 28 w1 (w.heap.size + 1) (.slice oo cc.length kk) (.int .i64 nn) := xS.kp k1.k (by decide)
  obtain ⟨y0, y1⟩ := xS1.cell
  clear h1 o1 hl1 k1 HW xX xS HM
  go_wp2_with fail
  refine (wstate_any wb wb.heap.size ⟨oo, kk, cc, nn⟩ HS.out L1 e1 _ HW1.out (HB3.out.trans HK1.out.b) (by have := HL1.out; omega)).mono ?_
  rintro r w2 ⟨rfl, L2, e2, h1, o1, hl1, k1⟩
  have HW2 : Hid (WW w2 wb.heap.size wb.heap.size L2 e2) := h1
  have HO : Hid (OutW (shotW (ImgD.val ⟨m1, t1, g1⟩, StaD.val ⟨oo, kk, cc, nn⟩)) (tShot (ImgD.val ⟨m1, t1, g1⟩, StaD.val ⟨oo, kk, cc, nn⟩)) [] 0 L2 e2) := HO1.out.seq o1
  have HL2 : Hid (L2.length ≤ 100000000) := by have := HL1.out; unfold Hid; omega
  have HK2 : Hid (Below w.heap.size w w2) := HBC.out.trans ((HK1.out.b.trans k1.b).mono (by have := HSB.out; omega))
  have z2 := h1.c2
  clear h1 o1 hl1 k1 HW1 xS1 HO1 y0 y1 HK1
  by_cases h0 : e2 = 0
  · subst h0
    have hz : shotW (ImgD.val ⟨m1, t1, g1⟩, StaD.val ⟨oo, kk, cc, nn⟩) = 0 := by
      by_cases hf : shotW (ImgD.val ⟨m1, t1, g1⟩, StaD.val ⟨oo, kk, cc, nn⟩) = 0
      · exact hf
      · exact absurd ((HO.out.2 rfl).1 hf).symm hf
    have HZ : Hid (shotW (ImgD.val ⟨m1, t1, g1⟩, StaD.val ⟨oo, kk, cc, nn⟩) = 0 ∧ L2 = tShot (ImgD.val ⟨m1, t1, g1⟩, StaD.val ⟨oo, kk, cc, nn⟩)) := ⟨hz, by have := ((HO.out.2 rfl).2 hz).2; rwa [List.nil_append] at this⟩
    have hne : L2 ≠ [] := by
      rw [HZ.out.2]
      intro h
      have := tShot_pos (ImgD.val ⟨m1, t1, g1⟩, StaD.val ⟨oo, kk, cc, nn⟩)
      rw [h] at this
      exact absurd this (by decide)
    clear hz HO
    go_wp2_with fail
    refine (wstring_any wb.heap.size wb.heap.size L2 0 _ HW2.out hne HL2.out).mono ?_
    rintro r w3 ⟨rfl, b3⟩
    have HK3 : Hid (Below w.heap.size w w3) := HK2.out.trans (b3.mono (by have := HSB.out; omega))
    clear b3 hne
    go_wp2
    go_ret2
    exact ⟨Or.inr ⟨HZ.out.1, _, rfl, by rw [HZ.out.2, nums_bsK _ (bts_tShot _ HBTS.out)], by have h := HL2.out; rw [← bsK_len] at h; show (bsK L2).toArray.size ≤ 100000000; simpa using h⟩, HK3.out⟩
  · have hb0 : (e2 == 0) = false := by rw [beq_eq_false_iff_ne]; exact h0
    have hn0 : (e2 != 0) = true := by rw [bne, hb0]; rfl
    have HZ : Hid (shotW (ImgD.val ⟨m1, t1, g1⟩, StaD.val ⟨oo, kk, cc, nn⟩) ≠ 0 ∧ e2 = shotW (ImgD.val ⟨m1, t1, g1⟩, StaD.val ⟨oo, kk, cc, nn⟩)) := by
      have hf : shotW (ImgD.val ⟨m1, t1, g1⟩, StaD.val ⟨oo, kk, cc, nn⟩) ≠ 0 := fun hf => h0 ((HO.out.2 rfl).2 hf).1
      exact ⟨hf, (HO.out.2 rfl).1 hf⟩
    clear h0 HO
    have mixed : Try.prog.follows .mixedOrders = true := by kernel_rfl
    have zd : w2.drew.cell? ⟨wb.heap.size, 2, none⟩ = some (.int .i64 e2) := z2
    go_wp2
    go_region_o
    all_goals
      go_wp2
      go_ret2
      exact ⟨Or.inl ⟨HZ.out.1, by rw [← HZ.out.2]; exact rfl⟩, Below.drew HK2.out⟩
end Go.Proofs.Ytfmmefmpjejioaa
