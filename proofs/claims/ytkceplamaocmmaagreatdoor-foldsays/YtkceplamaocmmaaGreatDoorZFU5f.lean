/-
  Folding, the document's own way: what comes instead, where a const of 32 bits stands first.
-/
import Derived.Test.YtkceplamaocmmaaGreatDoorZPE
import Derived.Deep.Cut
import Derived.Deep.CutRange
import Derived.Deep.DeepCutAuto
set_option maxHeartbeats 8000000
set_option maxRecDepth 1000000
namespace Go.Proofs.YtkceplamaocmmaaGreatDoor
open Go.RowKit
set_option linter.unusedVariables false
theorem rins_f (b f cap n : Nat) (Ls : List InsD) (x y z : InsD) (w : World) (hl : Ls.length = n) (hn2 : 2 ≤ n) (hn : n ≤ 200) (hcap : n ≤ cap) (hcm : cap ≤ 9223372036854775807) (h : LD w (some ⟨b, f, none⟩) Ls) (hx : Ls[0]! = x) (hy : Ls[1]! = y) (hz : Ls[2]! = z) (hy2 : n = 2 → isC y.op = false) (e : Nat) (hf : Int) (hif : isO y.op → upV ((Ls.drop 1).map InsD.op) 0 0 (-1) = ((e : Int), hf) ∧ 0 < e ∧ e + 2 < n ∧ (hf = -1 ∨ ∃ t : Nat, hf = (t : Int) ∧ 0 < t ∧ t < e)) (hcase : x.op = 65) :
    Calls Tryz.prog 11 #[.slice (some ⟨b, f, none⟩) n cap] w fun r w' => DOut w w' r (insV Ls x y z e hf) := by
  obtain ⟨b', f', e1, hb, ⟨x0, x1, x2, x3⟩, y0, y1, y2, y3⟩ := h.two 0 (by omega)
  cases e1
  have hxo := h.at_ok 0 (by omega)
  have hyo := h.at_ok 1 (by omega)
  rw [hx] at x0 x1 x2 x3 hxo
  rw [hy] at y0 y1 y2 y3 hyo
  rw [show f + 0 * 4 = f by omega] at x0 x1 x2 x3
  rw [show f + (0 + 1) * 4 = f + 4 by omega] at y0 y1 y2 y3
  have h0 : 0 < n := by omega
  have h1 : 1 < n := by omega
  have h1' : (1 : Int) < (n : Int) := by omega
  have hne1 : ((n : Int) == 1) = false := by rw [beq_eq_false_iff_ne]; omega
  have HZ : Hid (2 < n → (∀ W, Below w.heap.size w W → W.cell? ⟨b, f + 8, none⟩ = some (.int .u8 z.op)) ∧ (0 ≤ z.op ∧ z.op ≤ 255)) := fun h3 => by
    have h4 := h.opz 2 (by omega)
    have h5 := h.at_ok 2 (by omega)
    rw [hz] at h4 h5
    rw [show f + 2 * 4 = f + 8 by omega] at h4
    exact ⟨fun W bb => (bb.cell (p := ⟨b, _, none⟩) hb).trans h4.2, h5.op0, h5.op1⟩
  have HLT : Hid (∀ W, Below w.heap.size w W → Calls Tryz.prog 26 #[.slice (some ⟨b, f, none⟩) n cap] W fun r w' => DOut W w' r (laterV Ls x y e hf)) := fun W bb => rlater b f cap n Ls x y W hl hn2 hn hcap hcm (h.below bb) hx hy e hf (fun _ h4 => hif (by rw [h4]; exact Or.inr (Or.inr rfl)))
  have HUP : Hid (∀ W, Below w.heap.size w W → isO y.op → (e + 2 < n) ∧ Calls Tryz.prog 25 #[.slice (some ⟨b, f + 4, none⟩) (n - 1) (cap - 1)] W fun r w' => r = .returned (.tuple #[.int .i64 (e : Int), .int .i64 hf]) ∧ Below W.heap.size W w') := fun W bb ho => by
    obtain ⟨hup, he0, he2, _⟩ := hif ho
    have hl1 := h.part 1 (n - 1) (by omega)
    rw [List.take_of_length_le (by rw [List.length_drop, hl]; exact Nat.le_refl _), show f + 1 * 4 = f + 4 by omega] at hl1
    exact ⟨he2, rup_core (some ⟨b, f + 4, none⟩) (cap - 1) (n - 1) (Ls.drop 1) (by rw [List.length_drop, hl]) (by omega) (e : Int) hf W (hl1.below bb) hup⟩
  obtain ⟨V, hV⟩ : ∃ V, V = insV Ls x y z e hf := ⟨_, rfl⟩
  rw [← hV]
  unfold insV at hV
  have HV : Hid (type_of% hV) := hV
  have HXO : Hid (∀ W, Below w.heap.size w W → x.ok W) := fun W bb => hxo.below bb
  have HYB : Hid (0 ≤ y.op ∧ y.op ≤ 255) := ⟨hyo.op0, hyo.op1⟩
  have HYA : Hid (-9223372036854775808 ≤ y.A ∧ y.A ≤ 9223372036854775807) := hyo.a
  have HXA : Hid (-9223372036854775808 ≤ x.A ∧ x.A ≤ 9223372036854775807) := hxo.a
  have HY2 : Hid (type_of% hy2) := hy2
  clear h hl hif hx hy hz hV hxo hyo hy2
  have H1H : Hid (type_of% (chg1_hit x y)) := chg1_hit x y
  have H1N : Hid (type_of% (chg1_no x y)) := chg1_no x y
  have H2H : Hid (type_of% (chg2_hit x y z)) := chg2_hit x y z
  have H2N : Hid (type_of% (chg2_no x y z)) := chg2_no x y z
  have HC0 : Hid (x.op ≠ 1 → chg0 x = none) := fun h => if_neg h
  have HC3 : Hid (¬ (y.op = 26 ∧ (x.op = 65 ∨ x.op = 66 ∨ x.op = 32 ∨ x.op = 35)) → chg3 x y = none) := fun h => if_neg h
  have HC4 : Hid (¬ (x.op = 65 ∧ y.op = 13) → chg4 x y = none) := fun h => if_neg h
  have HC5 : Hid (¬ ((x.op = 12 ∨ x.op = 14 ∨ x.op = 15 ∨ x.op = 0) ∧ y.op ≠ 11 ∧ y.op ≠ 5) → chg5D x y e = none) := fun h => if_neg h
  have HC6 : Hid (¬ (x.op = 33 ∧ y.op = 32 ∧ x.A = y.A) → chg6 x y = none) := fun h => if_neg h
  have HP0 : Hid (x.op = 1 → chg0 x = some (1, [])) := fun h => if_pos h
  have HP3 : Hid ((y.op = 26 ∧ (x.op = 65 ∨ x.op = 66 ∨ x.op = 32 ∨ x.op = 35)) → chg3 x y = some (2, [])) := fun h => if_pos h
  have HP4 : Hid ((x.op = 65 ∧ y.op = 13) → chg4 x y = if x.A = 0 then some (2, []) else some (2, [mkD 12 y.A])) := fun h => if_pos h
  have HP5 : Hid (((x.op = 12 ∨ x.op = 14 ∨ x.op = 15 ∨ x.op = 0) ∧ y.op ≠ 11 ∧ y.op ≠ 5) → chg5D x y e = some (1 + (if 2 ≤ y.op ∧ y.op ≤ 4 then e + 1 else 1), [x])) := fun h => if_pos h
  have HP6 : Hid ((x.op = 33 ∧ y.op = 32 ∧ x.A = y.A) → chg6 x y = some (2, [mkD 34 x.A])) := fun h => if_pos h
  generalize laterV Ls x y e hf = LV at *
  generalize chg0 x = c0 at *
  generalize chg1 x y = c1 at *
  generalize chg2 x y z = c2 at *
  generalize chg3 x y = c3 at *
  generalize chg4 x y = c4 at *
  generalize chg5D x y e = c5 at *
  generalize chg6 x y = c6 at *
  have HX' : Hid (∀ W, x.ok W → (⟨x.op, x.A, x.B, x.o, x.n, x.cap, x.xs⟩ : InsD).ok W) := fun W h => h
  obtain ⟨op, A, B, xo, xn, xc, xs⟩ := x
  obtain ⟨op', A', B', yo, yn, yc, ys⟩ := y
  obtain ⟨oq, Aq, Bq, zo, zn, zc, zs⟩ := z
  simp only at *
  have HXC : Hid (∀ W, Below ((w.alloc (.cells #[.int .u8 op, .int .i64 A, .int .i64 B, .slice xo xn xc] 34)).alloc (.cells #[.int .u8 op', .int .i64 A', .int .i64 B', .slice yo yn yc] 34)).heap.size ((w.alloc (.cells #[.int .u8 op, .int .i64 A, .int .i64 B, .slice xo xn xc] 34)).alloc (.cells #[.int .u8 op', .int .i64 A', .int .i64 B', .slice yo yn yc] 34)) W → (W.cell? ⟨w.heap.size, 0, none⟩ = some (.int .u8 op) ∧ W.cell? ⟨w.heap.size, 1, none⟩ = some (.int .i64 A) ∧ W.cell? ⟨w.heap.size, 2, none⟩ = some (.int .i64 B) ∧ W.cell? ⟨w.heap.size, 3, none⟩ = some (.slice xo xn xc)) ∧ (W.cell? ⟨w.heap.size + 1, 0, none⟩ = some (.int .u8 op') ∧ W.cell? ⟨w.heap.size + 1, 1, none⟩ = some (.int .i64 A')) ∧ Below w.heap.size w W) := fun W bb => by
    obtain ⟨q1, q2⟩ := two_new w #[.int .u8 op, .int .i64 A, .int .i64 B, .slice xo xn xc] #[.int .u8 op', .int .i64 A', .int .i64 B', .slice yo yn yc] 34 34
    have r1 := (bb.block w.heap.size (by simp only [World.size_alloc]; omega)).trans q1
    have r2 := (bb.block (w.heap.size + 1) (by simp only [World.size_alloc]; omega)).trans q2
    exact ⟨⟨fcell r1 0 rfl, fcell r1 1 rfl, fcell r1 2 rfl, fcell r1 3 rfl⟩, ⟨fcell r2 0 rfl, fcell r2 1 rfl⟩, Below.trans fch2 (bb.mono (by simp only [World.size_alloc]; omega))⟩
  have HV2 : Hid (Below w.heap.size w ((w.alloc (.cells #[.int .u8 op, .int .i64 A, .int .i64 B, .slice xo xn xc] 34)).alloc (.cells #[.int .u8 op', .int .i64 A', .int .i64 B', .slice yo yn yc] 34))) := fch2
  obtain rfl : op = 65 := hcase
  have hv0 := HC0.out (by decide)
  subst hv0
  have hnn : (n : Int) ≤ 200 := by omega
  have sc1 : ((⟨#[105]⟩ : ByteArray) ++ ⟨#[62, 105]⟩) = ⟨#[105, 62, 105]⟩ := rfl
  have sc2 : ((⟨#[105]⟩ : ByteArray) ++ ⟨#[62, 108]⟩) = ⟨#[105, 62, 108]⟩ := rfl
  have sc3 : ((⟨#[105]⟩ : ByteArray) ++ ⟨#[105]⟩) = ⟨#[105, 105]⟩ := rfl
  have sc4 : ((⟨#[105, 105]⟩ : ByteArray) ++ ⟨#[62, 105]⟩) = ⟨#[105, 105, 62, 105]⟩ := rfl
  have sc5 : ((⟨#[105, 105]⟩ : ByteArray) ++ ⟨#[62, 108]⟩) = ⟨#[105, 105, 62, 108]⟩ := rfl
  go_enter Tryz.func11, Tryz.ntmps11
  go_upto_if 35 with fail
  go_cut [] from 7 to 112 (fun wx => Hid (c1 = none) ∧ Hid (c2 = none) ∧ Hid (∀ W, Below wx.heap.size wx W → (W.cell? ⟨w.heap.size, 0, none⟩ = some (.int .u8 65) ∧ W.cell? ⟨w.heap.size, 1, none⟩ = some (.int .i64 A) ∧ W.cell? ⟨w.heap.size, 2, none⟩ = some (.int .i64 B) ∧ W.cell? ⟨w.heap.size, 3, none⟩ = some (.slice xo xn xc)) ∧ (W.cell? ⟨w.heap.size + 1, 0, none⟩ = some (.int .u8 op') ∧ W.cell? ⟨w.heap.size + 1, 1, none⟩ = some (.int .i64 A')) ∧ Below w.heap.size w W))
  case first =>
    clear HC3 HC4 HC5 HC6 HP3 HP4 HP5 HP6 HLT HUP HXO
    go_wp2_with fail
    refine (rone _ _ _).mono ?_
    rintro r w1 ⟨rfl, b1⟩
    obtain ⟨⟨p0, p1, p2, p3⟩, ⟨q0, q1⟩, hb1⟩ := HXC.out w1 b1
    have HB1 : Hid (type_of% b1) := b1
    have HW1 : Hid (type_of% hb1) := hb1
    clear b1 hb1
    cases hi : isOne op'
    case true =>
      have h4 := one_tak op' hi
      have ne : (op' == 65) = false := by
        rw [beq_eq_false_iff_ne]
        rintro rfl
        revert hi
        decide
      have hfit := (oneP_fit op' A HXA.out).1
      have HFI : Hid (type_of% hfit) := hfit
      have HHI : Hid (isOne op' = true) := hi
      have HYR : Hid (0 ≤ op' ∧ op' < 256) := ⟨HYB.out.1, by have := HYB.out.2; omega⟩
      clear hfit
      rcases h4 with ⟨t1, t2, t3⟩ | ⟨t1, t2, t3⟩ | ⟨t1, t2, t3⟩ | ⟨t1, t2, t3⟩
      · have HT : Hid (∀ W, Calls Tryz.prog 22 #[.int .u8 op'] W fun r w' => r = .returned (.string ⟨#[105, 62, 105]⟩) ∧ w' = W) := fun W => by
          have := takes_any op' HYR.out.1 HYR.out.2 W
          rw [t1] at this
          exact this
        have hv1 := H1H.out HHI.out (by rw [t2]; decide)
        rw [t3, show cOf 127 = 65 by decide] at hv1
        subst hv1
        have HVV : Hid (V = some (2, [mkD 65 (oneP op' A)])) := HV.out
        clear H1H H1N H2H H2N hi
        generalize oneP op' A = T1 at *
        go_wp2_with fail
        refine (HT.out _).mono ?_
        rintro r w2 ⟨rfl, rfl⟩
        go_wp2_with fail
        refine (rconst _ 65 T1 (Or.inl ⟨rfl, rfl⟩) _).mono ?_
        rintro r w3 ⟨rfl, rfl⟩
        go_wp2
        go_ret2
        rw [HVV.out]
        exact DOut.one HW1.out 2 2 rfl (by omega) (mkD 65 T1) (mkD_ok _ 65 T1 (by omega) (by omega) HFI.out)
      · have HT : Hid (∀ W, Calls Tryz.prog 22 #[.int .u8 op'] W fun r w' => r = .returned (.string ⟨#[105, 62, 108]⟩) ∧ w' = W) := fun W => by
          have := takes_any op' HYR.out.1 HYR.out.2 W
          rw [t1] at this
          exact this
        have hv1 := H1H.out HHI.out (by rw [t2]; decide)
        rw [t3, show cOf 126 = 66 by decide] at hv1
        subst hv1
        have HVV : Hid (V = some (2, [mkD 66 (oneP op' A)])) := HV.out
        clear H1H H1N H2H H2N hi
        generalize oneP op' A = T1 at *
        go_wp2_with fail
        refine (HT.out _).mono ?_
        rintro r w2 ⟨rfl, rfl⟩
        go_wp2_with fail
        refine (rconst _ 66 T1 (Or.inr (Or.inr (Or.inl ⟨rfl, rfl⟩))) _).mono ?_
        rintro r w3 ⟨rfl, rfl⟩
        go_wp2
        go_ret2
        rw [HVV.out]
        exact DOut.one HW1.out 2 2 rfl (by omega) (mkD 66 T1) (mkD_ok _ 66 T1 (by omega) (by omega) HFI.out)
      · have HT : Hid (∀ W, Calls Tryz.prog 22 #[.int .u8 op'] W fun r w' => r = .returned (.string ⟨#[108, 62, 105]⟩) ∧ w' = W) := fun W => by
          have := takes_any op' HYR.out.1 HYR.out.2 W
          rw [t1] at this
          exact this
        have hv1 := H1N.out (Or.inr (by rw [t2]; decide))
        have hv2 := H2N.out (Or.inr (Or.inr (Or.inl (by intro e; rw [e] at ne; revert ne; decide))))
        clear H1H H1N H2H H2N hi
        generalize oneP op' A = T1 at *
        go_wp2_with fail
        refine (HT.out _).mono ?_
        rintro r w2 ⟨rfl, rfl⟩
        have HNX : Hid (∀ W, Below w2.heap.size w2 W → _) := fun W bb => HXC.out W (HB1.out.trans (bb.mono HB1.out.size))
        have HN12 : Hid (c1 = none ∧ c2 = none) := ⟨hv1, hv2⟩
        clear hv1 hv2
        by_cases h2n : 2 < n
        · have f2n : decide ((2 : Int) < (n : Int)) = true := decide_eq_true (by omega)
          go_wp2
          go_meet
          exact ⟨HN12.out.1, HN12.out.2, HNX⟩
        · have f2n : decide ((2 : Int) < (n : Int)) = false := decide_eq_false (by omega)
          go_wp2
          go_meet
          exact ⟨HN12.out.1, HN12.out.2, HNX⟩
      · have HT : Hid (∀ W, Calls Tryz.prog 22 #[.int .u8 op'] W fun r w' => r = .returned (.string ⟨#[108, 62, 108]⟩) ∧ w' = W) := fun W => by
          have := takes_any op' HYR.out.1 HYR.out.2 W
          rw [t1] at this
          exact this
        have hv1 := H1N.out (Or.inr (by rw [t2]; decide))
        have hv2 := H2N.out (Or.inr (Or.inr (Or.inl (by intro e; rw [e] at ne; revert ne; decide))))
        clear H1H H1N H2H H2N hi
        generalize oneP op' A = T1 at *
        go_wp2_with fail
        refine (HT.out _).mono ?_
        rintro r w2 ⟨rfl, rfl⟩
        have HNX : Hid (∀ W, Below w2.heap.size w2 W → _) := fun W bb => HXC.out W (HB1.out.trans (bb.mono HB1.out.size))
        have HN12 : Hid (c1 = none ∧ c2 = none) := ⟨hv1, hv2⟩
        clear hv1 hv2
        by_cases h2n : 2 < n
        · have f2n : decide ((2 : Int) < (n : Int)) = true := decide_eq_true (by omega)
          go_wp2
          go_meet
          exact ⟨HN12.out.1, HN12.out.2, HNX⟩
        · have f2n : decide ((2 : Int) < (n : Int)) = false := decide_eq_false (by omega)
          go_wp2
          go_meet
          exact ⟨HN12.out.1, HN12.out.2, HNX⟩
    case false =>
      have hv1 := H1N.out (Or.inl hi)
      have HT : Hid (∀ W, Calls Tryz.prog 22 #[.int .u8 op'] W fun r w' => r = .returned (.string (takL op')) ∧ w' = W) := fun W => takes_any op' HYB.out.1 (by have := HYB.out.2; omega) W
      generalize takL op' = s at *
      go_wp2_with fail
      refine (HT.out _).mono ?_
      rintro r w2 ⟨rfl, rfl⟩
      have HNX : Hid (∀ W, Below w2.heap.size w2 W → _) := fun W bb => HXC.out W (HB1.out.trans (bb.mono HB1.out.size))
      have HN1 : Hid (c1 = none) := hv1
      clear hv1 HT
      by_cases h2n : 2 < n
      case neg =>
        have f2n : decide ((2 : Int) < (n : Int)) = false := decide_eq_false (by omega)
        have hc := HY2.out (by omega)
        have hv2 := H2N.out (Or.inr (Or.inr (Or.inl (by intro e; rw [e] at hc; revert hc; decide))))
        have HN2 : Hid (c2 = none) := hv2
        clear hv2 hc H1H H1N H2H H2N hi
        go_wp2
        go_meet
        exact ⟨HN1.out, HN2.out, HNX⟩
      have f2n : decide ((2 : Int) < (n : Int)) = true := decide_eq_true (by omega)
      have h2n' : (2 : Int) < (n : Int) := by omega
      by_cases hyx : op' = 65
      case neg =>
        have ne : (op' == 65) = false := by rw [beq_eq_false_iff_ne]; exact hyx
        have hv2 := H2N.out (Or.inr (Or.inr (Or.inl hyx)))
        have HN2 : Hid (c2 = none) := hv2
        clear hv2 hyx H1H H1N H2H H2N hi
        go_wp2
        go_meet
        exact ⟨HN1.out, HN2.out, HNX⟩
      subst hyx
      obtain ⟨hz0, hz1, hz2⟩ := HZ.out h2n
      have HZC : Hid (∀ W, Below w.heap.size w W → W.cell? ⟨b, f + 8, none⟩ = some (.int .u8 oq)) := hz0
      have HZR : Hid (0 ≤ oq ∧ oq ≤ 255) := ⟨hz1, hz2⟩
      have z0 := hz0 w2 HW1.out
      have hfit := (twoV_fit oq A A').1
      have HFI : Hid (type_of% hfit) := hfit
      have HNT : Hid (∀ W, type_of% (rtwo oq A A' hz1 hz2 W)) := fun W => rtwo oq A A' hz1 hz2 W
      have H2T : Hid ((twoV oq A A').2 = 0 → _) := fun h0 => two_tak oq (twoV_two _ _ _ h0)
      have HT2 : Hid (∀ W, type_of% (takes_any oq hz1 (by omega) W)) := fun W => takes_any oq hz1 (by omega) W
      have HCK : Hid (∀ W, Below w2.heap.size w2 W → W.cell? ⟨b, f + 8, none⟩ = some (.int .u8 oq) ∧ W.cell? ⟨w.heap.size, 1, none⟩ = some (.int .i64 A) ∧ W.cell? ⟨w.heap.size + 1, 1, none⟩ = some (.int .i64 A')) := fun W bb => by
        obtain ⟨⟨_, a1, _, _⟩, ⟨_, a2⟩, _⟩ := HNX.out W bb
        exact ⟨hz0 W (HW1.out.trans (bb.mono HW1.out.size)), a1, a2⟩
      clear hz0 hz1 hz2 hfit H1H H1N hi HZ
      generalize (twoV oq A A').1 = T1 at *
      generalize (twoV oq A A').2 = T2 at *
      go_upto_region 18 with fail
      go_cut [10, 11] from 10 to 86 (fun p q wx => p = .int .i64 T1 ∧ q = .int .i64 T2 ∧ Hid (Below w2.heap.size w2 wx))
      case first =>
        go_region_held3 (fun w' => w'.cell? ⟨b, f + 8, none⟩ = some (.int .u8 oq) ∧ w'.cell? ⟨w.heap.size, 1, none⟩ = some (.int .i64 A) ∧ w'.cell? ⟨w.heap.size + 1, 1, none⟩ = some (.int .i64 A')) (first | (exact HCK.out _ fch) | go_keep) ((go_at_call 24; refine (HNT.out _).mono ?_; rintro r w4 ⟨rfl, b4⟩; have HB4 : Hid (Below w2.heap.size w2 w4) := Below.trans fch (b4.mono (by simp only [World.size_drew]; omega)); clear b4))
        all_goals
          go_wp2_with fail
          go_meet
          exact ⟨rfl, rfl, HB4⟩
      case rest =>
        obtain ⟨rfl, rfl, HB4⟩ := hcut
        obtain ⟨z1, _, _⟩ := HCK.out wc HB4.out
        have HW4 : Hid (Below w.heap.size w wc) := HW1.out.trans (HB4.out.mono HW1.out.size)
        have HN4 : Hid (∀ W, Below wc.heap.size wc W → _) := fun W bb => HNX.out W (HB4.out.trans (bb.mono HB4.out.size))
        clear HCK HNT HNX
        by_cases hT : T2 = 0
        case neg =>
          have ft : (T2 == 0) = false := by rw [beq_eq_false_iff_ne]; exact hT
          have hv2 := H2N.out (Or.inl hT)
          have HN2 : Hid (c2 = none) := hv2
          clear hv2 hT H2H H2N H2T
          generalize takL oq = s2 at *
          go_wp2_with fail
          refine (HT2.out _).mono ?_
          rintro r w5 ⟨rfl, rfl⟩
          go_wp2
          go_meet
          exact ⟨HN1.out, HN2.out, HN4⟩
        subst hT
        rcases H2T.out rfl with ⟨t1, t2, t3⟩ | ⟨t1, t2, t3⟩ | ⟨t1, t2, t3⟩
        · rw [t1] at HT2
          have hv2 := H2H.out (by first | rfl | trivial) (by rw [t2]; decide) (by first | rfl | trivial)
          rw [t3, show cOf 127 = 65 by decide] at hv2
          have hv1 := HN1.out
          subst hv1 hv2
          have HVV : Hid (V = some (3, [mkD 65 T1])) := HV.out
          clear H2H H2N H2T HN1
          go_wp2_with fail
          refine (HT2.out _).mono ?_
          rintro r w5 ⟨rfl, rfl⟩
          go_wp2_with fail
          refine (rconst _ 65 T1 (Or.inr (Or.inr (Or.inr (Or.inr (Or.inl ⟨rfl, rfl⟩))))) _).mono ?_
          rintro r w6 ⟨rfl, rfl⟩
          go_wp2
          go_ret2
          rw [HVV.out]
          exact DOut.one HW4.out 3 3 rfl (by omega) (mkD 65 T1) (mkD_ok _ 65 T1 (by omega) (by omega) HFI.out)
        · rw [t1] at HT2
          have hv2 := H2N.out (Or.inr (Or.inl (by rw [t2]; decide)))
          have HN2 : Hid (c2 = none) := hv2
          clear hv2 H2H H2N H2T
          go_wp2_with fail
          refine (HT2.out _).mono ?_
          rintro r w5 ⟨rfl, rfl⟩
          go_wp2
          go_meet
          exact ⟨HN1.out, HN2.out, HN4⟩
        · rw [t1] at HT2
          have hv2 := H2N.out (Or.inr (Or.inl (by rw [t2]; decide)))
          have HN2 : Hid (c2 = none) := hv2
          clear hv2 H2H H2N H2T
          go_wp2_with fail
          refine (HT2.out _).mono ?_
          rintro r w5 ⟨rfl, rfl⟩
          go_wp2
          go_meet
          exact ⟨HN1.out, HN2.out, HN4⟩
  case rest =>
    obtain ⟨hv1, hv2, HXR⟩ := hcut
    obtain rfl := hv1.out
    obtain rfl := hv2.out
    obtain ⟨⟨p0, p1, p2, p3⟩, ⟨q0, q1⟩, hbw⟩ := HXR.out wc (Below.refl _ _)
    have HW : Hid (type_of% hbw) := hbw
    clear hbw hv1 hv2 H1H H1N H2H H2N HXC HZ
    have hv5 := HC5.out (by omega)
    have hv6 := HC6.out (by omega)
    subst hv5 hv6
    by_cases e26 : op' = 26
    · have hv3 := HP3.out (by omega)
      subst hv3
      have HVV : Hid (V = some (2, [])) := HV.out
      have f26 : (op' == 26) = true := by rw [beq_iff_eq]; exact e26
      clear e26 HC3 HC4 HC5 HC6 HP3 HP4 HP5 HP6 HLT HUP
      go_wp2
      go_ret2
      rw [HVV.out]
      exact DOut.gone HW.out 2 2 rfl (by omega)
    have f26 : (op' == 26) = false := by rw [beq_eq_false_iff_ne]; exact e26
    have hv3 := HC3.out (by omega)
    subst hv3
    by_cases e13 : op' = 13
    · have hv4 := HP4.out ⟨rfl, e13⟩
      have f13 : (op' == 13) = true := by rw [beq_iff_eq]; exact e13
      by_cases eA : A = 0
      · rw [if_pos eA] at hv4
        subst hv4
        have HVV : Hid (V = some (2, [])) := HV.out
        have fA : (A == 0) = true := by rw [beq_iff_eq]; exact eA
        clear eA e13 e26 HC3 HC4 HC5 HC6 HP3 HP4 HP5 HP6 HLT HUP
        go_wp2
        go_ret2
        rw [HVV.out]
        exact DOut.gone HW.out 2 2 rfl (by omega)
      · rw [if_neg eA] at hv4
        subst hv4
        have HVV : Hid (V = some (2, [mkD 12 A'])) := HV.out
        have fA : (A == 0) = false := by rw [beq_eq_false_iff_ne]; exact eA
        clear eA e13 e26 HC3 HC4 HC5 HC6 HP3 HP4 HP5 HP6 HLT HUP
        go_wp2
        go_ret2
        rw [HVV.out]
        exact DOut.one HW.out 2 2 rfl (by omega) (mkD 12 A') (mkD_ok _ 12 A' (by omega) (by omega) HYA.out)
    have f13 : (op' == 13) = false := by rw [beq_eq_false_iff_ne]; exact e13
    have hv4 := HC4.out (by omega)
    subst hv4
    have HVV : Hid (V = LV) := HV.out
    clear e13 e26 HC3 HC4 HC5 HC6 HP3 HP4 HP5 HP6 HUP
    go_wp2_with fail
    refine (HLT.out _ HW.out).mono ?_
    intro r w5 hd
    cases hL : LV with
    | none =>
      rw [hL] at hd
      obtain ⟨b5, rfl⟩ := hd
      have HB5 : Hid (Below w.heap.size w w5) := Below.trans HW.out (b5.mono (Below.size HW.out))
      clear b5
      go_wp2
      go_ret2
      rw [HVV.out, hL]
      exact ⟨HB5.out, rfl⟩
    | some q =>
      rw [hL] at hd
      obtain ⟨b5, h50, o5, c5, rfl, h51, h52, h53⟩ := hd
      have HB5 : Hid (Below w.heap.size w w5) := Below.trans HW.out (b5.mono (Below.size HW.out))
      have HQ : Hid (DOut w w5 (.returned (.tuple #[.slice o5 q.2.length c5, .int .i64 q.1])) (some q)) := ⟨HB5.out, h50, o5, c5, rfl, h51, h52, h53⟩
      clear b5 h50 h51 h52 h53
      go_wp2
      go_ret2
      rw [HVV.out, hL]
      exact HQ.out
end Go.Proofs.YtkceplamaocmmaaGreatDoor
