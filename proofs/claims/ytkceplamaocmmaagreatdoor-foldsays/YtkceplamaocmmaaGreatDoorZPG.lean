/-
  Folding, the document's own way: what comes instead, where nothing behind it is dead.
  Folding, the document's own way: what comes instead, where a block behind it is dead.
-/
import Derived.Test.YtkceplamaocmmaaGreatDoorZPE
set_option maxHeartbeats 8000000
set_option maxRecDepth 1000000
namespace Go.Proofs.YtkceplamaocmmaaGreatDoor
open Go.RowKit
set_option linter.unusedVariables false
theorem rins_a (b f cap n : Nat) (Ls : List InsD) (x y z : InsD) (w : World) (hl : Ls.length = n) (hn2 : 2 ≤ n) (hn : n ≤ 200) (hcap : n ≤ cap) (hcm : cap ≤ 9223372036854775807) (h : LD w (some ⟨b, f, none⟩) Ls) (hx : Ls[0]! = x) (hy : Ls[1]! = y) (hz : Ls[2]! = z) (hy2 : n = 2 → isC y.op = false) (e : Nat) (hf : Int) (hif : isO y.op → upV ((Ls.drop 1).map InsD.op) 0 0 (-1) = ((e : Int), hf) ∧ 0 < e ∧ e + 2 < n ∧ (hf = -1 ∨ ∃ t : Nat, hf = (t : Int) ∧ 0 < t ∧ t < e)) (hcase : x.op ≠ 1 ∧ x.op ≠ 65 ∧ x.op ≠ 66 ∧ (x.op = 12 ∨ x.op = 14 ∨ x.op = 15 ∨ x.op = 0) ∧ (y.op = 5 ∨ y.op = 11)) :
    Calls Tryz.prog 11 #[.slice (some ⟨b, f, none⟩) n cap] w fun r w' => DOut w w' r (insV Ls x y z e hf) := by
  obtain ⟨b', f', e1, hb, ⟨x0, x1, x2, x3⟩, y0, y1, y2, y3⟩ := h.two 0 (by omega)
  cases e1
  have hxo := h.at_ok 0 (by omega)
  have hyo := h.at_ok 1 (by omega)
  rw [hx] at x0 x1 x2 x3 hxo
  rw [hy] at y0 y1 y2 y3 hyo
  rw [show f + 0 * 4 = f by omega] at x0 x1 x2 x3
  rw [show f + (0 + 1) * 4 = f + 4 by omega] at y0 y1 y2 y3
  have h0 : 0 < n := by omega
  have h1 : 1 < n := by omega
  have h1' : (1 : Int) < (n : Int) := by omega
  have hne1 : ((n : Int) == 1) = false := by rw [beq_eq_false_iff_ne]; omega
  have HZ : Hid (2 < n → (∀ W, Below w.heap.size w W → W.cell? ⟨b, f + 8, none⟩ = some (.int .u8 z.op)) ∧ (0 ≤ z.op ∧ z.op ≤ 255)) := fun h3 => by
    have h4 := h.opz 2 (by omega)
    have h5 := h.at_ok 2 (by omega)
    rw [hz] at h4 h5
    rw [show f + 2 * 4 = f + 8 by omega] at h4
    exact ⟨fun W bb => (bb.cell (p := ⟨b, _, none⟩) hb).trans h4.2, h5.op0, h5.op1⟩
  have HLT : Hid (∀ W, Below w.heap.size w W → Calls Tryz.prog 26 #[.slice (some ⟨b, f, none⟩) n cap] W fun r w' => DOut W w' r (laterV Ls x y e hf)) := fun W bb => rlater b f cap n Ls x y W hl hn2 hn hcap hcm (h.below bb) hx hy e hf (fun _ h4 => hif (by rw [h4]; exact Or.inr (Or.inr rfl)))
  have HUP : Hid (∀ W, Below w.heap.size w W → isO y.op → (e + 2 < n) ∧ Calls Tryz.prog 25 #[.slice (some ⟨b, f + 4, none⟩) (n - 1) (cap - 1)] W fun r w' => r = .returned (.tuple #[.int .i64 (e : Int), .int .i64 hf]) ∧ Below W.heap.size W w') := fun W bb ho => by
    obtain ⟨hup, he0, he2, _⟩ := hif ho
    have hl1 := h.part 1 (n - 1) (by omega)
    rw [List.take_of_length_le (by rw [List.length_drop, hl]; exact Nat.le_refl _), show f + 1 * 4 = f + 4 by omega] at hl1
    exact ⟨he2, rup_core (some ⟨b, f + 4, none⟩) (cap - 1) (n - 1) (Ls.drop 1) (by rw [List.length_drop, hl]) (by omega) (e : Int) hf W (hl1.below bb) hup⟩
  obtain ⟨V, hV⟩ : ∃ V, V = insV Ls x y z e hf := ⟨_, rfl⟩
  rw [← hV]
  unfold insV at hV
  have HV : Hid (type_of% hV) := hV
  have HXO : Hid (∀ W, Below w.heap.size w W → x.ok W) := fun W bb => hxo.below bb
  have HYB : Hid (0 ≤ y.op ∧ y.op ≤ 255) := ⟨hyo.op0, hyo.op1⟩
  have HYA : Hid (-9223372036854775808 ≤ y.A ∧ y.A ≤ 9223372036854775807) := hyo.a
  have HXA : Hid (-9223372036854775808 ≤ x.A ∧ x.A ≤ 9223372036854775807) := hxo.a
  have HY2 : Hid (type_of% hy2) := hy2
  clear h hl hif hx hy hz hV hxo hyo hy2
  have H1H : Hid (type_of% (chg1_hit x y)) := chg1_hit x y
  have H1N : Hid (type_of% (chg1_no x y)) := chg1_no x y
  have H2H : Hid (type_of% (chg2_hit x y z)) := chg2_hit x y z
  have H2N : Hid (type_of% (chg2_no x y z)) := chg2_no x y z
  have HC0 : Hid (x.op ≠ 1 → chg0 x = none) := fun h => if_neg h
  have HC3 : Hid (¬ (y.op = 26 ∧ (x.op = 65 ∨ x.op = 66 ∨ x.op = 32 ∨ x.op = 35)) → chg3 x y = none) := fun h => if_neg h
  have HC4 : Hid (¬ (x.op = 65 ∧ y.op = 13) → chg4 x y = none) := fun h => if_neg h
  have HC5 : Hid (¬ ((x.op = 12 ∨ x.op = 14 ∨ x.op = 15 ∨ x.op = 0) ∧ y.op ≠ 11 ∧ y.op ≠ 5) → chg5D x y e = none) := fun h => if_neg h
  have HC6 : Hid (¬ (x.op = 33 ∧ y.op = 32 ∧ x.A = y.A) → chg6 x y = none) := fun h => if_neg h
  have HP0 : Hid (x.op = 1 → chg0 x = some (1, [])) := fun h => if_pos h
  have HP3 : Hid ((y.op = 26 ∧ (x.op = 65 ∨ x.op = 66 ∨ x.op = 32 ∨ x.op = 35)) → chg3 x y = some (2, [])) := fun h => if_pos h
  have HP4 : Hid ((x.op = 65 ∧ y.op = 13) → chg4 x y = if x.A = 0 then some (2, []) else some (2, [mkD 12 y.A])) := fun h => if_pos h
  have HP5 : Hid (((x.op = 12 ∨ x.op = 14 ∨ x.op = 15 ∨ x.op = 0) ∧ y.op ≠ 11 ∧ y.op ≠ 5) → chg5D x y e = some (1 + (if 2 ≤ y.op ∧ y.op ≤ 4 then e + 1 else 1), [x])) := fun h => if_pos h
  have HP6 : Hid ((x.op = 33 ∧ y.op = 32 ∧ x.A = y.A) → chg6 x y = some (2, [mkD 34 x.A])) := fun h => if_pos h
  generalize laterV Ls x y e hf = LV at *
  generalize chg0 x = c0 at *
  generalize chg1 x y = c1 at *
  generalize chg2 x y z = c2 at *
  generalize chg3 x y = c3 at *
  generalize chg4 x y = c4 at *
  generalize chg5D x y e = c5 at *
  generalize chg6 x y = c6 at *
  have HX' : Hid (∀ W, x.ok W → (⟨x.op, x.A, x.B, x.o, x.n, x.cap, x.xs⟩ : InsD).ok W) := fun W h => h
  obtain ⟨op, A, B, xo, xn, xc, xs⟩ := x
  obtain ⟨op', A', B', yo, yn, yc, ys⟩ := y
  obtain ⟨oq, Aq, Bq, zo, zn, zc, zs⟩ := z
  simp only at *
  have HXC : Hid (∀ W, Below ((w.alloc (.cells #[.int .u8 op, .int .i64 A, .int .i64 B, .slice xo xn xc] 34)).alloc (.cells #[.int .u8 op', .int .i64 A', .int .i64 B', .slice yo yn yc] 34)).heap.size ((w.alloc (.cells #[.int .u8 op, .int .i64 A, .int .i64 B, .slice xo xn xc] 34)).alloc (.cells #[.int .u8 op', .int .i64 A', .int .i64 B', .slice yo yn yc] 34)) W → (W.cell? ⟨w.heap.size, 0, none⟩ = some (.int .u8 op) ∧ W.cell? ⟨w.heap.size, 1, none⟩ = some (.int .i64 A) ∧ W.cell? ⟨w.heap.size, 2, none⟩ = some (.int .i64 B) ∧ W.cell? ⟨w.heap.size, 3, none⟩ = some (.slice xo xn xc)) ∧ (W.cell? ⟨w.heap.size + 1, 0, none⟩ = some (.int .u8 op') ∧ W.cell? ⟨w.heap.size + 1, 1, none⟩ = some (.int .i64 A')) ∧ Below w.heap.size w W) := fun W bb => by
    obtain ⟨q1, q2⟩ := two_new w #[.int .u8 op, .int .i64 A, .int .i64 B, .slice xo xn xc] #[.int .u8 op', .int .i64 A', .int .i64 B', .slice yo yn yc] 34 34
    have r1 := (bb.block w.heap.size (by simp only [World.size_alloc]; omega)).trans q1
    have r2 := (bb.block (w.heap.size + 1) (by simp only [World.size_alloc]; omega)).trans q2
    exact ⟨⟨fcell r1 0 rfl, fcell r1 1 rfl, fcell r1 2 rfl, fcell r1 3 rfl⟩, ⟨fcell r2 0 rfl, fcell r2 1 rfl⟩, Below.trans fch2 (bb.mono (by simp only [World.size_alloc]; omega))⟩
  have HV2 : Hid (Below w.heap.size w ((w.alloc (.cells #[.int .u8 op, .int .i64 A, .int .i64 B, .slice xo xn xc] 34)).alloc (.cells #[.int .u8 op', .int .i64 A', .int .i64 B', .slice yo yn yc] 34))) := fch2
  have e1 : op ≠ 1 := hcase.1
  have e65 : op ≠ 65 := hcase.2.1
  have e66 : op ≠ 66 := hcase.2.2.1
  have hw := hcase.2.2.2
  clear hcase
  have g1 : (op == 1) = false := by rw [beq_eq_false_iff_ne]; exact e1
  have g65 : (op == 65) = false := by rw [beq_eq_false_iff_ne]; exact e65
  have g66 : (op == 66) = false := by rw [beq_eq_false_iff_ne]; exact e66
  have hv0 := HC0.out e1
  have hv1 := H1N.out (Or.inr (by unfold cOf; split <;> omega))
  have hv2 := H2N.out (Or.inr (Or.inr (Or.inr (by unfold isC; rw [g65, g66]; rfl))))
  have hv4 := HC4.out (by omega)
  subst hv0 hv1 hv2 hv4
  have hv3 := HC3.out (by omega)
  have hv6 := HC6.out (by omega)
  subst hv3 hv6
  have f32 : (op == 32) = false := by rw [beq_eq_false_iff_ne]; omega
  have f35 : (op == 35) = false := by rw [beq_eq_false_iff_ne]; omega
  have f33 : (op == 33) = false := by rw [beq_eq_false_iff_ne]; omega
  have hop : (op == 0) = true ∨ ((op == 0) = false ∧ (op == 12) = true) ∨ ((op == 0) = false ∧ (op == 12) = false ∧ (op == 14) = true) ∨ ((op == 0) = false ∧ (op == 12) = false ∧ (op == 14) = false ∧ (op == 15) = true) := by
    simp only [beq_iff_eq, beq_eq_false_iff_ne]
    omega
  have hv5 := HC5.out (by omega)
  subst hv5
  have HVV : Hid (V = LV) := HV.out
  have f26 : (op' == 26) = false := by rw [beq_eq_false_iff_ne]; omega
  have hyy : ((op' != 5) = false) ∨ ((op' != 5) = true ∧ (op' != 11) = false) := by
    simp only [bne_iff_ne, bne_eq_false_iff_eq]
    omega
  clear hw
  clear H1H H1N H2H H2N HC3 HC4 HC5 HC6 HP0 HC0 HP3 HP4 HP5 HP6 HZ HUP
  rcases hop with d1 | ⟨d1, d2⟩ | ⟨d1, d2, d3⟩ | ⟨d1, d2, d3, d4⟩
  all_goals
    rcases hyy with k1 | ⟨k1, k2⟩
    all_goals
      go_enter Tryz.func11, Tryz.ntmps11
      go_wp2_with fail
      refine (HLT.out _ HV2.out).mono ?_
      intro r w5 hd
      cases hL : LV with
      | none =>
        rw [hL] at hd
        obtain ⟨b5, rfl⟩ := hd
        have HB5 : Hid (Below w.heap.size w w5) := Below.trans HV2.out (b5.mono (Below.size HV2.out))
        clear b5
        go_wp2
        go_ret2
        rw [HVV.out, hL]
        exact ⟨HB5.out, rfl⟩
      | some q =>
        rw [hL] at hd
        obtain ⟨b5, h50, o5, c5, rfl, h51, h52, h53⟩ := hd
        have HB5 : Hid (Below w.heap.size w w5) := Below.trans HV2.out (b5.mono (Below.size HV2.out))
        have HQ : Hid (DOut w w5 (.returned (.tuple #[.slice o5 q.2.length c5, .int .i64 q.1])) (some q)) := ⟨HB5.out, h50, o5, c5, rfl, h51, h52, h53⟩
        clear b5 h50 h51 h52 h53
        go_wp2
        go_ret2
        rw [HVV.out, hL]
        exact HQ.out
end Go.Proofs.YtkceplamaocmmaaGreatDoor
namespace Go.Proofs.YtkceplamaocmmaaGreatDoor
open Go.RowKit
set_option linter.unusedVariables false
theorem rins_b (b f cap n : Nat) (Ls : List InsD) (x y z : InsD) (w : World) (hl : Ls.length = n) (hn2 : 2 ≤ n) (hn : n ≤ 200) (hcap : n ≤ cap) (hcm : cap ≤ 9223372036854775807) (h : LD w (some ⟨b, f, none⟩) Ls) (hx : Ls[0]! = x) (hy : Ls[1]! = y) (hz : Ls[2]! = z) (hy2 : n = 2 → isC y.op = false) (e : Nat) (hf : Int) (hif : isO y.op → upV ((Ls.drop 1).map InsD.op) 0 0 (-1) = ((e : Int), hf) ∧ 0 < e ∧ e + 2 < n ∧ (hf = -1 ∨ ∃ t : Nat, hf = (t : Int) ∧ 0 < t ∧ t < e)) (hcase : x.op ≠ 1 ∧ x.op ≠ 65 ∧ x.op ≠ 66 ∧ (x.op = 12 ∨ x.op = 14 ∨ x.op = 15 ∨ x.op = 0) ∧ 2 ≤ y.op ∧ y.op ≤ 4) :
    Calls Tryz.prog 11 #[.slice (some ⟨b, f, none⟩) n cap] w fun r w' => DOut w w' r (insV Ls x y z e hf) := by
  obtain ⟨b', f', e1, hb, ⟨x0, x1, x2, x3⟩, y0, y1, y2, y3⟩ := h.two 0 (by omega)
  cases e1
  have hxo := h.at_ok 0 (by omega)
  have hyo := h.at_ok 1 (by omega)
  rw [hx] at x0 x1 x2 x3 hxo
  rw [hy] at y0 y1 y2 y3 hyo
  rw [show f + 0 * 4 = f by omega] at x0 x1 x2 x3
  rw [show f + (0 + 1) * 4 = f + 4 by omega] at y0 y1 y2 y3
  have h0 : 0 < n := by omega
  have h1 : 1 < n := by omega
  have h1' : (1 : Int) < (n : Int) := by omega
  have hne1 : ((n : Int) == 1) = false := by rw [beq_eq_false_iff_ne]; omega
  have HZ : Hid (2 < n → (∀ W, Below w.heap.size w W → W.cell? ⟨b, f + 8, none⟩ = some (.int .u8 z.op)) ∧ (0 ≤ z.op ∧ z.op ≤ 255)) := fun h3 => by
    have h4 := h.opz 2 (by omega)
    have h5 := h.at_ok 2 (by omega)
    rw [hz] at h4 h5
    rw [show f + 2 * 4 = f + 8 by omega] at h4
    exact ⟨fun W bb => (bb.cell (p := ⟨b, _, none⟩) hb).trans h4.2, h5.op0, h5.op1⟩
  have HLT : Hid (∀ W, Below w.heap.size w W → Calls Tryz.prog 26 #[.slice (some ⟨b, f, none⟩) n cap] W fun r w' => DOut W w' r (laterV Ls x y e hf)) := fun W bb => rlater b f cap n Ls x y W hl hn2 hn hcap hcm (h.below bb) hx hy e hf (fun _ h4 => hif (by rw [h4]; exact Or.inr (Or.inr rfl)))
  have HUP : Hid (∀ W, Below w.heap.size w W → isO y.op → (e + 2 < n) ∧ Calls Tryz.prog 25 #[.slice (some ⟨b, f + 4, none⟩) (n - 1) (cap - 1)] W fun r w' => r = .returned (.tuple #[.int .i64 (e : Int), .int .i64 hf]) ∧ Below W.heap.size W w') := fun W bb ho => by
    obtain ⟨hup, he0, he2, _⟩ := hif ho
    have hl1 := h.part 1 (n - 1) (by omega)
    rw [List.take_of_length_le (by rw [List.length_drop, hl]; exact Nat.le_refl _), show f + 1 * 4 = f + 4 by omega] at hl1
    exact ⟨he2, rup_core (some ⟨b, f + 4, none⟩) (cap - 1) (n - 1) (Ls.drop 1) (by rw [List.length_drop, hl]) (by omega) (e : Int) hf W (hl1.below bb) hup⟩
  obtain ⟨V, hV⟩ : ∃ V, V = insV Ls x y z e hf := ⟨_, rfl⟩
  rw [← hV]
  unfold insV at hV
  have HV : Hid (type_of% hV) := hV
  have HXO : Hid (∀ W, Below w.heap.size w W → x.ok W) := fun W bb => hxo.below bb
  have HYB : Hid (0 ≤ y.op ∧ y.op ≤ 255) := ⟨hyo.op0, hyo.op1⟩
  have HYA : Hid (-9223372036854775808 ≤ y.A ∧ y.A ≤ 9223372036854775807) := hyo.a
  have HXA : Hid (-9223372036854775808 ≤ x.A ∧ x.A ≤ 9223372036854775807) := hxo.a
  have HY2 : Hid (type_of% hy2) := hy2
  clear h hl hif hx hy hz hV hxo hyo hy2
  have H1H : Hid (type_of% (chg1_hit x y)) := chg1_hit x y
  have H1N : Hid (type_of% (chg1_no x y)) := chg1_no x y
  have H2H : Hid (type_of% (chg2_hit x y z)) := chg2_hit x y z
  have H2N : Hid (type_of% (chg2_no x y z)) := chg2_no x y z
  have HC0 : Hid (x.op ≠ 1 → chg0 x = none) := fun h => if_neg h
  have HC3 : Hid (¬ (y.op = 26 ∧ (x.op = 65 ∨ x.op = 66 ∨ x.op = 32 ∨ x.op = 35)) → chg3 x y = none) := fun h => if_neg h
  have HC4 : Hid (¬ (x.op = 65 ∧ y.op = 13) → chg4 x y = none) := fun h => if_neg h
  have HC5 : Hid (¬ ((x.op = 12 ∨ x.op = 14 ∨ x.op = 15 ∨ x.op = 0) ∧ y.op ≠ 11 ∧ y.op ≠ 5) → chg5D x y e = none) := fun h => if_neg h
  have HC6 : Hid (¬ (x.op = 33 ∧ y.op = 32 ∧ x.A = y.A) → chg6 x y = none) := fun h => if_neg h
  have HP0 : Hid (x.op = 1 → chg0 x = some (1, [])) := fun h => if_pos h
  have HP3 : Hid ((y.op = 26 ∧ (x.op = 65 ∨ x.op = 66 ∨ x.op = 32 ∨ x.op = 35)) → chg3 x y = some (2, [])) := fun h => if_pos h
  have HP4 : Hid ((x.op = 65 ∧ y.op = 13) → chg4 x y = if x.A = 0 then some (2, []) else some (2, [mkD 12 y.A])) := fun h => if_pos h
  have HP5 : Hid (((x.op = 12 ∨ x.op = 14 ∨ x.op = 15 ∨ x.op = 0) ∧ y.op ≠ 11 ∧ y.op ≠ 5) → chg5D x y e = some (1 + (if 2 ≤ y.op ∧ y.op ≤ 4 then e + 1 else 1), [x])) := fun h => if_pos h
  have HP6 : Hid ((x.op = 33 ∧ y.op = 32 ∧ x.A = y.A) → chg6 x y = some (2, [mkD 34 x.A])) := fun h => if_pos h
  generalize laterV Ls x y e hf = LV at *
  generalize chg0 x = c0 at *
  generalize chg1 x y = c1 at *
  generalize chg2 x y z = c2 at *
  generalize chg3 x y = c3 at *
  generalize chg4 x y = c4 at *
  generalize chg5D x y e = c5 at *
  generalize chg6 x y = c6 at *
  have HX' : Hid (∀ W, x.ok W → (⟨x.op, x.A, x.B, x.o, x.n, x.cap, x.xs⟩ : InsD).ok W) := fun W h => h
  obtain ⟨op, A, B, xo, xn, xc, xs⟩ := x
  obtain ⟨op', A', B', yo, yn, yc, ys⟩ := y
  obtain ⟨oq, Aq, Bq, zo, zn, zc, zs⟩ := z
  simp only at *
  have HXC : Hid (∀ W, Below ((w.alloc (.cells #[.int .u8 op, .int .i64 A, .int .i64 B, .slice xo xn xc] 34)).alloc (.cells #[.int .u8 op', .int .i64 A', .int .i64 B', .slice yo yn yc] 34)).heap.size ((w.alloc (.cells #[.int .u8 op, .int .i64 A, .int .i64 B, .slice xo xn xc] 34)).alloc (.cells #[.int .u8 op', .int .i64 A', .int .i64 B', .slice yo yn yc] 34)) W → (W.cell? ⟨w.heap.size, 0, none⟩ = some (.int .u8 op) ∧ W.cell? ⟨w.heap.size, 1, none⟩ = some (.int .i64 A) ∧ W.cell? ⟨w.heap.size, 2, none⟩ = some (.int .i64 B) ∧ W.cell? ⟨w.heap.size, 3, none⟩ = some (.slice xo xn xc)) ∧ (W.cell? ⟨w.heap.size + 1, 0, none⟩ = some (.int .u8 op') ∧ W.cell? ⟨w.heap.size + 1, 1, none⟩ = some (.int .i64 A')) ∧ Below w.heap.size w W) := fun W bb => by
    obtain ⟨q1, q2⟩ := two_new w #[.int .u8 op, .int .i64 A, .int .i64 B, .slice xo xn xc] #[.int .u8 op', .int .i64 A', .int .i64 B', .slice yo yn yc] 34 34
    have r1 := (bb.block w.heap.size (by simp only [World.size_alloc]; omega)).trans q1
    have r2 := (bb.block (w.heap.size + 1) (by simp only [World.size_alloc]; omega)).trans q2
    exact ⟨⟨fcell r1 0 rfl, fcell r1 1 rfl, fcell r1 2 rfl, fcell r1 3 rfl⟩, ⟨fcell r2 0 rfl, fcell r2 1 rfl⟩, Below.trans fch2 (bb.mono (by simp only [World.size_alloc]; omega))⟩
  have HV2 : Hid (Below w.heap.size w ((w.alloc (.cells #[.int .u8 op, .int .i64 A, .int .i64 B, .slice xo xn xc] 34)).alloc (.cells #[.int .u8 op', .int .i64 A', .int .i64 B', .slice yo yn yc] 34))) := fch2
  have e1 : op ≠ 1 := hcase.1
  have e65 : op ≠ 65 := hcase.2.1
  have e66 : op ≠ 66 := hcase.2.2.1
  have hw := hcase.2.2.2
  clear hcase
  have g1 : (op == 1) = false := by rw [beq_eq_false_iff_ne]; exact e1
  have g65 : (op == 65) = false := by rw [beq_eq_false_iff_ne]; exact e65
  have g66 : (op == 66) = false := by rw [beq_eq_false_iff_ne]; exact e66
  have hv0 := HC0.out e1
  have hv1 := H1N.out (Or.inr (by unfold cOf; split <;> omega))
  have hv2 := H2N.out (Or.inr (Or.inr (Or.inr (by unfold isC; rw [g65, g66]; rfl))))
  have hv4 := HC4.out (by omega)
  subst hv0 hv1 hv2 hv4
  have hv5 := HP5.out (by omega)
  subst hv5
  have hv3 := HC3.out (by omega)
  have hv6 := HC6.out (by omega)
  subst hv3 hv6
  have f32 : (op == 32) = false := by rw [beq_eq_false_iff_ne]; omega
  have f35 : (op == 35) = false := by rw [beq_eq_false_iff_ne]; omega
  have f33 : (op == 33) = false := by rw [beq_eq_false_iff_ne]; omega
  have hop : (op == 0) = true ∨ ((op == 0) = false ∧ (op == 12) = true) ∨ ((op == 0) = false ∧ (op == 12) = false ∧ (op == 14) = true) ∨ ((op == 0) = false ∧ (op == 12) = false ∧ (op == 14) = false ∧ (op == 15) = true) := by
    simp only [beq_iff_eq, beq_eq_false_iff_ne]
    omega
  have k1 : (op' != 5) = true := by simp only [bne_iff_ne]; omega
  have k2 : (op' != 11) = true := by simp only [bne_iff_ne]; omega
  have ho : 2 ≤ op' ∧ op' ≤ 4 := hw.2
  have f26 : (op' == 26) = false := by rw [beq_eq_false_iff_ne]; omega
  have HVV : Hid (V = some (1 + (e + 1), [⟨op, A, B, xo, xn, xc, xs⟩])) := by unfold Hid; rw [HV.out, if_pos ho]; rfl
  have hO : isO op' := by unfold isO; omega
  have m1 : decide (2 ≤ op') = true := decide_eq_true ho.1
  have m2 : decide (op' ≤ 4) = true := decide_eq_true ho.2
  have he2 := (HUP.out w (Below.refl _ _) hO).1
  have hc1 : ¬ cap = 1 := by omega
  have hq4 : (1 : Int) ≤ (n : Int) := by omega
  have hq5 : (n : Int) ≤ (cap : Int) := by omega
  have hwe : IntKind.i64.wrap ((e : Int) + 1) = (e : Int) + 1 := by rw [IntKind.wrap_i64]; omega
  have hwe2 : IntKind.i64.wrap (1 + ((e : Int) + 1)) = 1 + ((e : Int) + 1) := by rw [IntKind.wrap_i64]; omega
  have HUP2 : Hid (∀ W, Below w.heap.size w W → Calls Tryz.prog 25 #[.slice (some ⟨b, f + 4, none⟩) (n - 1) (cap - 1)] W fun r w' => r = .returned (.tuple #[.int .i64 (e : Int), .int .i64 hf]) ∧ Below W.heap.size W w') := fun W bb => (HUP.out W bb hO).2
  clear hw ho hO
  clear H1H H1N H2H H2N HC3 HC4 HC5 HC6 HP0 HC0 HP3 HP4 HP5 HP6 HZ HLT HUP
  rcases hop with d1 | ⟨d1, d2⟩ | ⟨d1, d2, d3⟩ | ⟨d1, d2, d3, d4⟩
  all_goals
    go_enter Tryz.func11, Tryz.ntmps11
    go_wp2_with fail
    refine (HUP2.out _ HV2.out).mono ?_
    rintro r w5 ⟨rfl, b5⟩
    obtain ⟨⟨p0, p1, p2, p3⟩, _, HB5⟩ := HXC.out w5 b5
    have HB6 : Hid (Below w.heap.size w w5) := HB5
    clear b5 HB5
    go_wp2
    go_ret2
    rw [HVV.out]
    exact DOut.one HB6.out (1 + (e + 1)) (1 + ((e : Int) + 1)) (by omega) (by omega) ⟨op, A, B, xo, xn, xc, xs⟩ (HXO.out _ HB6.out)
end Go.Proofs.YtkceplamaocmmaaGreatDoor
