/-
  The reader of texts: the whole.
-/
import Derived.Test.YtfmmefmpjejioaaSW6
namespace Go.Proofs.Ytfmmefmpjejioaa
open Go.RowKit

def zeroI : Value := .agg #[.string ⟨#[]⟩, .slice none 0 0, .slice none 0 0]
def zeroS : Value := .agg #[.slice none 0 0, .int .i64 0]
/-- What Read says. -/
def ROut (x : Except Int (ImgV × StaV)) (r : Ending) (w' : World) : Prop := match x with
  | .error e => r = .returned (.tuple #[zeroI, zeroS, .int .i64 e]) ∧ e ≠ 0
  | .ok p => ∃ (d : ImgD) (s : StaD), r = .returned (.tuple #[d.v, s.v, .int .i64 0]) ∧ d.ok w' ∧ s.ok w' ∧ d.val = p.1 ∧ s.val = p.2
theorem ROut.mkE {x : Except Int (ImgV × StaV)} {w' : World} {e : Int} (h : x = .error e) (he : e ≠ 0) : ROut x (.returned (.tuple #[zeroI, zeroS, .int .i64 e])) w' := by
  subst h
  exact ⟨rfl, he⟩
theorem imgP_of (x : ImgV) (h : GImg x) : fImgP x = 0 := by
  obtain ⟨h1, h2, h3⟩ := h
  unfold fImgP
  rw [(fCnt_zero _ _).2 h1.1, fstE_zero, (fList_zero 16 fPla _).2 ⟨h2.1, fun a ha => (fPla_zero a).2 (h2.2 a ha)⟩, fstE_zero, (fList_zero 8 fVal _).2 ⟨h3.1, fun _ _ => rfl⟩]
theorem cal_of (c : CalV) (h : GCal c) : fCal c = 0 := by
  obtain ⟨h1, h2, h3, h4⟩ := h
  unfold fCal
  rw [(fNum_zero _).2 h1, fstE_zero, (fNum_zero _).2 h2, fstE_zero, (fList_zero 20 fVal _).2 ⟨h3.1, fun _ _ => rfl⟩, fstE_zero, (fList_zero 200 fVal _).2 ⟨h4.1, fun _ _ => rfl⟩]
theorem shotW_of (p : ImgV × StaV) (h : GShot p) : shotW p = 0 := by
  unfold shotW fSta
  rw [imgP_of _ h.1, fstE_zero, (fNum_zero _).2 h.2.1, fstE_zero, (fList_zero 40 fCal _).2 ⟨h.2.2.1, fun c hc => cal_of c (h.2.2.2 c hc)⟩]
/-- An image and a state are stored, each in its place; another place meanwhile. -/
theorem put_two (R Q : Nat) (w : World) (a0 a1 a2 c0 c1 v0 v1 v2 u0 u1 : Value) (xI : Y3 25 w R a0 a1 a2) (xS : Y2 28 w Q c0 c1) (hRQ : R < Q) :
    let W := ((w.setCell ⟨R, 0, none⟩ v0).setCell ⟨R, 1, none⟩ v1).setCell ⟨R, 2, none⟩ v2
    let W2 := (W.setCell ⟨Q, 0, none⟩ u0).setCell ⟨Q, 1, none⟩ u1
    Hid (Y3 25 W2 R v0 v1 v2) ∧ Hid (Y2 28 W2 Q u0 u1) ∧ Hid (Below R w W2 ∧ Kp (fun t => t != 25 && t != 28) w W2) ∧
    w.cell? ⟨R, 0, none⟩ = some a0 ∧ w.cell? ⟨R, 1, none⟩ = some a1 ∧ w.cell? ⟨R, 2, none⟩ = some a2 ∧ W.cell? ⟨Q, 0, none⟩ = some c0 ∧ W.cell? ⟨Q, 1, none⟩ = some c1 ∧
    w.frozen? ⟨R, 0, none⟩ = false ∧ w.frozen? ⟨R, 1, none⟩ = false ∧ w.frozen? ⟨R, 2, none⟩ = false ∧ W.frozen? ⟨Q, 0, none⟩ = false ∧ W.frozen? ⟨Q, 1, none⟩ = false := by
  intro W W2
  have cW : Chg R w W := ((Chg.set R 0 w v0).trans (Chg.set R 1 _ v1)).trans (Chg.set R 2 _ v2)
  have cW2 : Chg Q W W2 := (Chg.set Q 0 W u0).trans (Chg.set Q 1 _ u1)
  have x3 : Y3 25 W R v0 v1 v2 := ((xI.set0 v0).set1 v1).set2 v2
  have xS3 : Y2 28 W Q c0 c1 := xS.chg cW (by omega)
  have hl : R < w.heap.size := some_lt xI
  refine ⟨x3.chg cW2 (by omega), (xS3.set0 u0).set1 u1, ⟨?_, ?_⟩, xI.cell.1, xI.cell.2.1, xI.cell.2.2, xS3.cell.1, xS3.cell.2, xI.frozen 0, xI.frozen 1, xI.frozen 2, xS3.frozen 0, xS3.frozen 1⟩
  · exact (cW.below (Nat.le_refl _) (by omega)).trans (cW2.below (by omega) (by have := cW.size; omega))
  · exact (Kp.chg xI cW _ (by decide)).trans (Kp.chg xS3 cW2 _ (by decide))
theorem put_see (R Q P i : Nat) (w : World) (v0 v1 v2 u0 u1 x : Value) (hp : w.cell? ⟨P, i, none⟩ = some x) (hRP : R ≠ P) (hQP : Q ≠ P) :
    let W := ((w.setCell ⟨R, 0, none⟩ v0).setCell ⟨R, 1, none⟩ v1).setCell ⟨R, 2, none⟩ v2
    let W2 := (W.setCell ⟨Q, 0, none⟩ u0).setCell ⟨Q, 1, none⟩ u1
    W.cell? ⟨P, i, none⟩ = some x ∧ W2.cell? ⟨P, i, none⟩ = some x := by
  intro W W2
  have cW : Chg R w W := ((Chg.set R 0 w v0).trans (Chg.set R 1 _ v1)).trans (Chg.set R 2 _ v2)
  have cW2 : Chg Q W W2 := (Chg.set Q 0 W u0).trans (Chg.set Q 1 _ u1)
  have hP : P < w.heap.size := by
    by_cases h : P < w.heap.size
    · exact h
    · simp [World.cell?, Array.getElem?_eq_none (by omega : w.heap.size ≤ P)] at hp
  have q1 : W.cell? ⟨P, i, none⟩ = some x := by rw [cW.cell ⟨P, i, none⟩ hP (by dsimp only; omega)]; exact hp
  refine ⟨q1, ?_⟩
  rw [cW2.cell ⟨P, i, none⟩ (Nat.lt_of_lt_of_le hP cW.size) (by dsimp only; omega)]
  exact q1
set_option maxHeartbeats 1000000 in
set_option maxRecDepth 1000000 in
theorem sread_any (s : ByteArray) (hs : s.size ≤ maxLen) (w : World) :
    Calls Try.prog 6 #[.string s] w fun r w' => ROut (shotRead (nums s)) r w' ∧ Below w.heap.size w w' := by
  obtain ⟨wa, hwa⟩ : ∃ wa, wa = w.alloc (.cells #[.string ⟨#[]⟩, .slice none 0 0, .slice none 0 0] 25) := ⟨_, rfl⟩
  obtain ⟨wb, hwb⟩ : ∃ wb, wb = wa.alloc (.cells #[.slice none 0 0, .int .i64 0] 28) := ⟨_, rfl⟩
  obtain ⟨wc, hwc⟩ : ∃ wc, wc = wb.alloc (.cells #[.string s, .int .i64 0] 41) := ⟨_, rfl⟩
  have b1 : Below w.heap.size w wa := by rw [hwa]; exact (Below.refl _ _).alloc (Nat.le_refl _) _
  have b2 : Below wa.heap.size wa wb := by rw [hwb]; exact (Below.refl _ _).alloc (Nat.le_refl _) _
  have b3 : Below wb.heap.size wb wc := by rw [hwc]; exact (Below.refl _ _).alloc (Nat.le_refl _) _
  have sa : wa.heap.size = w.heap.size + 1 := by rw [hwa]; simp
  have sb : wb.heap.size = w.heap.size + 2 := by rw [hwb]; simp [sa]
  have sc : wc.heap.size = w.heap.size + 3 := by rw [hwc]; simp [sb]
  have HSC : Hid (wc.heap.size = w.heap.size + 3) := sc
  have HBC : Hid (Below w.heap.size w wc) := (b1.trans (b2.mono (by omega))).trans (b3.mono (by omega))
  have HR : Hid (RK wc (w.heap.size + 2) (nums s) 0) := ⟨s, rfl, hs, by
    unfold RR
    rw [hwc, ← sb]
    exact newY _ _ _⟩
  have xI : Y3 25 wc w.heap.size (.string ⟨#[]⟩) (.slice none 0 0) (.slice none 0 0) := by
    unfold Y3
    rw [b3.block _ (by omega), b2.block _ (by omega), hwa]
    exact newY _ _ _
  have xS : Y2 28 wc (w.heap.size + 1) (.slice none 0 0) (.int .i64 0) := by
    unfold Y2
    rw [b3.block _ (by omega), hwb, ← sa]
    exact newY _ _ _
  have HXI : Hid (type_of% xI) := xI
  have HXS : Hid (type_of% xS) := xS
  have HSS : Hid (s.size ≤ maxLen) := hs
  clear b1 b2 b3 sb sc xI xS hs
  go_enter Try.func6, Try.ntmps6
  go_wp2_with fail
  rw [← hwa, ← hwb, ← hwc]
  clear hwa hwb hwc sa
  refine (rimage_any (w.heap.size + 2) (nums s) 0 _ HR.out).mono ?_
  rintro r w1 ⟨x, l1, a1, rfl, g1, h1, o1, c1⟩
  have HX1 : Hid (ImgG w1 x) := g1
  have HR1 : Hid (RK w1 (w.heap.size + 2) l1 a1) := h1
  have HO1 : Hid (Outc rImg (nums s) 0 x.val l1 a1) := o1
  have HXI1 : Hid (type_of% (HXI.out.chg c1 (by omega))) := HXI.out.chg c1 (by omega)
  have HXS1 : Hid (type_of% (HXS.out.chg c1 (by omega))) := HXS.out.chg c1 (by omega)
  have HB1 : Hid (Below w.heap.size w w1) := HBC.out.trans (c1.below (by omega) (by rw [HSC.out]; omega))
  have HS1 : Hid (w.heap.size + 3 ≤ w1.heap.size) := by have := c1.size; rw [HSC.out] at this; exact this
  clear g1 h1 o1 c1 HR HXI HXS HBC HSC
  obtain ⟨m1, t1, g1⟩ := x
  dsimp only [ImgD.v]
  obtain ⟨wd, hwd⟩ : ∃ wd, wd = w1.alloc (.cells #[.string m1, .slice t1.o t1.n t1.cap, .slice g1.o g1.n g1.cap] 25) := ⟨_, rfl⟩
  have bd : Below w1.heap.size w1 wd := by rw [hwd]; exact (Below.refl _ _).alloc (Nat.le_refl _) _
  have sd : wd.heap.size = w1.heap.size + 1 := by rw [hwd]; simp
  have HBD : Hid (Below w1.heap.size w1 wd ∧ wd.heap.size = w1.heap.size + 1) := ⟨bd, sd⟩
  have HXD : Hid (Y3 25 wd w1.heap.size (.string m1) (.slice t1.o t1.n t1.cap) (.slice g1.o g1.n g1.cap)) := by
    unfold Hid
    rw [hwd]
    exact newY _ _ _
  clear bd sd
  go_wp2_with fail
  rw [← hwd]
  clear hwd
  obtain ⟨R, hR⟩ : ∃ R, w.heap.size = R := ⟨_, rfl⟩
  obtain ⟨Q, hQ⟩ : ∃ Q, R + 1 = Q := ⟨_, rfl⟩
  obtain ⟨P, hP⟩ : ∃ P, Q + 1 = P := ⟨_, rfl⟩
  obtain ⟨A, hA⟩ : ∃ A, w1.heap.size = A := ⟨_, rfl⟩
  rw [hR, hQ, hP, hA]
  rw [show w.heap.size + 2 = P by omega] at HR1
  rw [hR, hQ] at HXS1
  rw [hR] at HXI1
  rw [hA] at HXD
  have HRW : Hid (w.heap.size = R ∧ w1.heap.size = A) := ⟨hR, hA⟩
  have qQ : Q = R + 1 := hQ.symm
  have qP : P = R + 2 := by omega
  have qA : R + 3 ≤ A := by have := HS1.out; omega
  clear hR hQ hP hA HS1
  have HQ : Hid (Q = R + 1 ∧ P = R + 2 ∧ R + 3 ≤ A) := ⟨qQ, qP, qA⟩
  clear qQ qP qA
  have HRD : Hid (RK wd P l1 a1) := HR1.out.below HBD.out.1
  have HXA : Hid (ImgG wd ⟨m1, t1, g1⟩) := HX1.out.kp (Kp.below (fun _ => true) HBD.out.1) rfl rfl
  have HXI2 : Hid (type_of% (HXI1.out.below HBD.out.1 (by have := HQ.out; have := HRW.out; omega))) := HXI1.out.below HBD.out.1 (by have := HQ.out; have := HRW.out; omega)
  have HXS2 : Hid (type_of% (HXS1.out.below HBD.out.1 (by have := HQ.out; have := HRW.out; omega))) := HXS1.out.below HBD.out.1 (by have := HQ.out; have := HRW.out; omega)
  have HBW : Hid (Below R w wd) := by
    have h := HB1.out.trans (HBD.out.1.mono HB1.out.size)
    rw [HRW.out.1] at h
    exact h
  have HSD : Hid (wd.heap.size = A + 1) := by rw [← HRW.out.2]; exact HBD.out.2
  clear HR1 HX1 HXI1 HXS1 HB1 HBD
  refine (rstate_any P l1 a1 _ HRD.out).mono ?_
  rintro r w2 ⟨y, l2, a2, rfl, g2, h2, o2, c2⟩
  have HX3 : Hid (ImgG w2 ⟨m1, t1, g1⟩) := HXA.out.kp (Kp.readerK HRD.out c2 (fun t => t != 41) (by decide)) (by decide) (by decide)
  have HY3 : Hid (StaG wd.heap.size w2 y) := g2
  have HR3 : Hid (RK w2 P l2 a2) := h2
  have HO3 : Hid (Outc rShot (nums s) 0 (ImgD.val ⟨m1, t1, g1⟩, y.val) l2 a2) := HO1.out.pair o2
  have HXI3 : Hid (type_of% (HXI2.out.chg c2 (by have := HQ.out; omega))) := HXI2.out.chg c2 (by have := HQ.out; omega)
  have HXS3 : Hid (type_of% (HXS2.out.chg c2 (by have := HQ.out; omega))) := HXS2.out.chg c2 (by have := HQ.out; omega)
  have HXD3 : Hid (type_of% (HXD.out.chg c2 (by have := HQ.out; omega))) := HXD.out.chg c2 (by have := HQ.out; omega)
  have HB3 : Hid (Below R w w2) := HBW.out.trans (c2.below (by have := HQ.out; omega) (by have := HBW.out.size; rw [HRW.out.1] at this; exact this))
  have HS3 : Hid (A + 1 ≤ w2.heap.size) := by have := c2.size; rw [HSD.out] at this; exact this
  clear g2 h2 o2 c2 HRD HXA HXI2 HXS2 HXD HBW HSD HO1
  obtain ⟨oo, kk, cc, nn⟩ := y
  dsimp only [StaD.v]
  obtain ⟨we, hwe⟩ : ∃ we, we = w2.alloc (.cells #[.slice oo cc.length kk, .int .i64 nn] 28) := ⟨_, rfl⟩
  obtain ⟨N, hN⟩ : ∃ N, w2.heap.size = N := ⟨_, rfl⟩
  have be : Below w2.heap.size w2 we := by rw [hwe]; exact (Below.refl _ _).alloc (Nat.le_refl _) _
  have hq1 := HQ.out
  have hs3 := HS3.out
  have HR4 : Hid (RK we P l2 a2) := HR3.out.below be
  have HX4 : Hid (ImgG we ⟨m1, t1, g1⟩) := HX3.out.kp (Kp.below (fun _ => true) be) rfl rfl
  have HY4 : Hid (StaG wd.heap.size we ⟨oo, kk, cc, nn⟩) := HY3.out.kp (Kp.below (fun _ => true) be) rfl rfl
  have xI : Y3 25 we R (.string ⟨#[]⟩) (.slice none 0 0) (.slice none 0 0) := HXI3.out.below be (by omega)
  have xS : Y2 28 we Q (.slice none 0 0) (.int .i64 0) := HXS3.out.below be (by omega)
  have xA : Y3 25 we A (.string m1) (.slice t1.o t1.n t1.cap) (.slice g1.o g1.n g1.cap) := HXD3.out.below be (by omega)
  have xN : Y2 28 we N (.slice oo cc.length kk) (.int .i64 nn) := by
    unfold Y2
    rw [hwe, ← hN]
    exact newY _ _ _
  have HBE : Hid (Below R w we) := HB3.out.trans (be.mono (by omega))
  have HNE : Hid (we.heap.size = N + 1) := by unfold Hid; rw [hwe, ← hN]; simp
  have z1 : we.cell? ⟨P, 1, none⟩ = some (.int .i64 a2) := by
    obtain ⟨t2, ht2, hm2, hr2⟩ := HR4.out
    exact hr2.c1
  have z1b : (w2.alloc (.cells #[.slice oo cc.length kk, .int .i64 nn] 28)).cell? ⟨P, 1, none⟩ = some (.int .i64 a2) := by rw [← hwe]; exact z1
  have HXI : Hid (type_of% xI) := xI
  have HXS : Hid (type_of% xS) := xS
  have HXA : Hid (type_of% xA) := xA
  have HXN : Hid (type_of% xN) := xN
  have HNN : Hid (w2.heap.size = N ∧ P < N ∧ A < N) := ⟨hN, by omega, by omega⟩
  have HWE : Hid (type_of% hwe) := hwe
  clear be hq1 hs3 HR3 HX3 HY3 HXI3 HXS3 HXD3 HB3 HS3 xI xS xA xN hN hwe z1
  by_cases h0 : a2 = 0
  · subst h0
    obtain ⟨yA0, yA1, yA2⟩ := HXA.out.cell
    obtain ⟨yN0, yN1⟩ := HXN.out.cell
    rw [HWE.out] at yA0 yA1 yA2
    have hwe2 := HWE.out
    go_wp2_with fail
    rw [← HWE.out, HNN.out.1]
    have HSH : Hid (rShot (nums s) = .ok ((ImgD.val ⟨m1, t1, g1⟩, StaD.val ⟨oo, kk, cc, nn⟩), l2)) := HO3.out.got.2
    have HG : Hid (GShot (ImgD.val ⟨m1, t1, g1⟩, StaD.val ⟨oo, kk, cc, nn⟩)) := (cod_shot.ok _ _ _ (nums_byte s) HSH.out).1
    clear yA0 yA1 yA2 yN0 yN1 hwe2 z1b HO3
    refine (swrite_any ⟨m1, t1, g1⟩ ⟨oo, kk, cc, nn⟩ we HX4.out.ok HY4.out.ok).mono ?_
    rintro r w3 ⟨ho, b3⟩
    obtain ⟨t, rfl, ht⟩ : ∃ t : ByteArray, r = .returned (.tuple #[.string t, .int .i64 0]) ∧ nums t = tShot (ImgD.val ⟨m1, t1, g1⟩, StaD.val ⟨oo, kk, cc, nn⟩) := by
      rcases ho with ⟨h, _⟩ | ⟨_, h⟩
      · exact absurd (shotW_of _ HG.out) h
      · obtain ⟨t, h1, h2, _⟩ := h
        exact ⟨t, h1, h2⟩
    have HT : Hid (type_of% ht) := ht
    have hR1 : R < we.heap.size ∧ Q < we.heap.size ∧ A < we.heap.size ∧ N < we.heap.size := by
      have := HQ.out
      have := HNN.out
      have := HNE.out
      omega
    have HXI4 : Hid (type_of% (HXI.out.below b3 hR1.1)) := HXI.out.below b3 hR1.1
    have HXS4 : Hid (type_of% (HXS.out.below b3 hR1.2.1)) := HXS.out.below b3 hR1.2.1
    have HXA4 : Hid (type_of% (HXA.out.below b3 hR1.2.2.1)) := HXA.out.below b3 hR1.2.2.1
    have HXN4 : Hid (type_of% (HXN.out.below b3 hR1.2.2.2)) := HXN.out.below b3 hR1.2.2.2
    have HX5 : Hid (ImgG w3 ⟨m1, t1, g1⟩) := HX4.out.kp (Kp.below (fun _ => true) b3) rfl rfl
    have HY5 : Hid (StaG wd.heap.size w3 ⟨oo, kk, cc, nn⟩) := HY4.out.kp (Kp.below (fun _ => true) b3) rfl rfl
    have HB5 : Hid (Below R w w3) := HBE.out.trans (b3.mono (by omega))
    clear ho b3 ht hR1 HX4 HY4 HXI HXS HXA HXN HBE HR4
    have mixed : Try.prog.follows .mixedOrders = true := by kernel_rfl
    by_cases hts : t = s
    · have hc : (t.toList == s.toList) = true := beq_iff_eq.2 (by rw [hts])
      have HOK : Hid (shotRead (nums s) = .ok (ImgD.val ⟨m1, t1, g1⟩, StaD.val ⟨oo, kk, cc, nn⟩)) := by
        unfold Hid shotRead
        rw [HSH.out]
        dsimp only
        rw [if_pos (by rw [← HT.out, hts])]
      clear hts HSH HG
      obtain ⟨HFI, HFS, HFB, i0, i1, i2, j0, j1, fi0, fi1, fi2, fj0, fj1⟩ := put_two R Q w3 (.string ⟨#[]⟩) (.slice none 0 0) (.slice none 0 0) (.slice none 0 0) (.int .i64 0) (.string m1) (.slice t1.o t1.n t1.cap) (.slice g1.o g1.n g1.cap) (.slice oo cc.length kk) (.int .i64 nn) HXI4.out HXS4.out (by have := HQ.out; omega)
      obtain ⟨e0, e1, e2⟩ := HXA4.out.cell
      obtain ⟨d0, d1⟩ := HXN4.out.cell
      obtain ⟨d2, _⟩ := put_see R Q N 0 w3 (.string m1) (.slice t1.o t1.n t1.cap) (.slice g1.o g1.n g1.cap) (.slice oo cc.length kk) (.int .i64 nn) _ d0 (by have := HQ.out; have := HNN.out; omega) (by have := HQ.out; have := HNN.out; omega)
      obtain ⟨d3, _⟩ := put_see R Q N 1 w3 (.string m1) (.slice t1.o t1.n t1.cap) (.slice g1.o g1.n g1.cap) (.slice oo cc.length kk) (.int .i64 nn) _ d1 (by have := HQ.out; have := HNN.out; omega) (by have := HQ.out; have := HNN.out; omega)
      go_wp2
      go_region
      all_goals
        go_wp2
        obtain ⟨q0, q1, q2⟩ := HFI.out.cell
        obtain ⟨q3, q4⟩ := HFS.out.cell
        refine bodyPost_ret (v := .tuple #[ImgD.v ⟨m1, t1, g1⟩, StaD.v ⟨oo, kk, cc, nn⟩, .int .i64 0]) (by simp [results, Try.results6, go_sem, q0, q1, q2, q3, q4, ImgD.v, StaD.v]) rfl ?_
        refine ⟨?_, by rw [HRW.out.1]; exact Below.drew (HB5.out.trans HFB.out.1)⟩
        rw [HOK.out]
        exact ⟨_, _, rfl, (ImgG.kp HX5.out HFB.out.2 (by decide) (by decide)).ok.below (Below.drew (Below.refl _ _)), (StaG.kp HY5.out HFB.out.2 (by decide) (by decide)).ok.below (Below.drew (Below.refl _ _)), rfl, rfl⟩
    · have hc : (t.toList == s.toList) = false := beq_eq_false_iff_ne.2 (fun h => hts (bytes_injK h))
      have HER : Hid (shotRead (nums s) = .error 4) := by
        unfold Hid shotRead
        rw [HSH.out]
        dsimp only
        rw [if_neg (fun h => hts (nums_injK (by rw [HT.out, h])))]
      clear hts HSH HG
      obtain ⟨HFI, HFS, HFB, i0, i1, i2, j0, j1, fi0, fi1, fi2, fj0, fj1⟩ := put_two R Q w3 (.string ⟨#[]⟩) (.slice none 0 0) (.slice none 0 0) (.slice none 0 0) (.int .i64 0) (.string ⟨#[]⟩) (.slice none 0 0) (.slice none 0 0) (.slice none 0 0) (.int .i64 0) HXI4.out HXS4.out (by have := HQ.out; omega)
      go_wp2
      obtain ⟨q0, q1, q2⟩ := HFI.out.cell
      obtain ⟨q3, q4⟩ := HFS.out.cell
      refine bodyPost_ret (v := .tuple #[zeroI, zeroS, .int .i64 4]) (by simp [results, Try.results6, go_sem, q0, q1, q2, q3, q4, zeroI, zeroS]) rfl ?_
      exact ⟨ROut.mkE HER.out (by decide), by rw [HRW.out.1]; exact HB5.out.trans HFB.out.1⟩
  · have hb0 : (a2 == 0) = false := by rw [beq_eq_false_iff_ne]; exact h0
    have hn0 : (a2 != 0) = true := by rw [bne, hb0]; rfl
    have HE : Hid (shotRead (nums s) = .error a2 ∧ a2 ≠ 0) := ⟨by unfold shotRead; rw [HO3.out.err h0], h0⟩
    have mixed : Try.prog.follows .mixedOrders = true := by kernel_rfl
    clear h0
    go_wp2
    rw [← HWE.out, HNN.out.1]
    obtain ⟨HFI, HFS, HFB, i0, i1, i2, j0, j1, fi0, fi1, fi2, fj0, fj1⟩ := put_two R Q we (.string ⟨#[]⟩) (.slice none 0 0) (.slice none 0 0) (.slice none 0 0) (.int .i64 0) (.string ⟨#[]⟩) (.slice none 0 0) (.slice none 0 0) (.slice none 0 0) (.int .i64 0) HXI.out HXS.out (by have := HQ.out; omega)
    have p0 : we.cell? ⟨P, 1, none⟩ = some (.int .i64 a2) := by rw [← HWE.out] at z1b; exact z1b
    obtain ⟨p1, p2⟩ := put_see R Q P 1 we (.string ⟨#[]⟩) (.slice none 0 0) (.slice none 0 0) (.slice none 0 0) (.int .i64 0) _ p0 (by have := HQ.out; omega) (by have := HQ.out; omega)
    clear z1b
    go_region
    all_goals
      go_wp2
      obtain ⟨q0, q1, q2⟩ := HFI.out.cell
      obtain ⟨q3, q4⟩ := HFS.out.cell
      refine bodyPost_ret (v := .tuple #[zeroI, zeroS, .int .i64 a2]) (by simp [results, Try.results6, go_sem, q0, q1, q2, q3, q4, zeroI, zeroS]) rfl ?_
      exact ⟨ROut.mkE HE.out.1 HE.out.2, by rw [HRW.out.1]; exact Below.drew (HBE.out.trans HFB.out.1)⟩
end Go.Proofs.Ytfmmefmpjejioaa
