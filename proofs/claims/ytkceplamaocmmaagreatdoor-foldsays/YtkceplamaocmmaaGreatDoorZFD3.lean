/-
  Folding: the small rules.
-/
import Derived.Test.YtkceplamaocmmaaGreatDoorZPA
set_option maxHeartbeats 4000000
set_option maxRecDepth 1000000
namespace Go.Proofs.YtkceplamaocmmaaGreatDoor
open Go.RowKit
set_option linter.unusedVariables false
theorem rout_one (w : World) (k : Nat) (d : InsD) (hd : d.ok w) : ROut w ((w.alloc (.cells #[.int .u8 d.op, .int .i64 d.A, .int .i64 d.B, .slice d.o d.n d.cap] 34)).alloc (.cells #[.int .i64 k, .slice (some ⟨w.heap.size, 0, none⟩) 1 1] 46)) (.returned (.pointer (some ⟨w.heap.size + 1, 0, none⟩))) (some (k, [d])) := by
  have := ROut.put (w := w) (wa := w.alloc (.cells #[.int .u8 d.op, .int .i64 d.A, .int .i64 d.B, .slice d.o d.n d.cap] 34)) ((Below.refl _ _).alloc (Nat.le_refl _) _) k (some ⟨w.heap.size, 0, none⟩) 1 [d] (ld_one w d hd) (by simp) (by omega)
  simpa using this
theorem fdrewN (w : World) (k : Nat) : Below w.heap.size w (w.drewN k) := ⟨rfl, rfl, rfl, Nat.le_refl _, fun _ _ => rfl⟩
theorem rout_oneN (w : World) (m k : Nat) (d : InsD) (hd : d.ok w) : ROut w (((w.drewN m).alloc (.cells #[.int .u8 d.op, .int .i64 d.A, .int .i64 d.B, .slice d.o d.n d.cap] 34)).alloc (.cells #[.int .i64 k, .slice (some ⟨w.heap.size, 0, none⟩) 1 1] 46)) (.returned (.pointer (some ⟨w.heap.size + 1, 0, none⟩))) (some (k, [d])) := by
  have := ROut.put (w := w) (wa := (w.drewN m).alloc (.cells #[.int .u8 d.op, .int .i64 d.A, .int .i64 d.B, .slice d.o d.n d.cap] 34)) ((fdrewN w m).alloc (Nat.le_refl _) _) k (some ⟨w.heap.size, 0, none⟩) 1 [d] (ld_one _ d (hd.below (fdrewN w m))) (by simp) (by omega)
  simpa using this
def chg3 (x y : InsD) : Option (Nat × List InsD) := if y.op = 26 ∧ (x.op = 65 ∨ x.op = 66 ∨ x.op = 32 ∨ x.op = 35) then some (2, []) else none
def chg4 (x y : InsD) : Option (Nat × List InsD) := if x.op = 65 ∧ y.op = 13 then (if x.A = 0 then some (2, []) else some (2, [mkD 12 y.A])) else none
def chg6 (x y : InsD) : Option (Nat × List InsD) := if x.op = 33 ∧ y.op = 32 ∧ x.A = y.A then some (2, [mkD 34 x.A]) else none
def chg8 (x y : InsD) : Option (Nat × List InsD) := if (x.op = 2 ∨ x.op = 3) ∧ x.A = 64 ∧ y.op = 11 then some (2, []) else none
def chg9 (x y : InsD) : Option (Nat × List InsD) := if x.op = 34 ∧ y.op = 26 then some (2, [mkD 33 x.A]) else none
def chg10 (x y : InsD) : Option (Nat × List InsD) := if x.op = 65 ∧ x.A ≠ 0 ∧ y.op = 27 then some (2, [mkD 26 0]) else none
theorem rule3 (o : Option Addr) (cap : Nat) (L : List InsD) (i : Nat) (w : World) (h : LD w o L) (hn : L.length ≤ 200) (hi : i + 1 < L.length) :
    Calls Tryz.prog 49 #[.slice o L.length cap, .int .i64 (i : Int)] w fun r w' => ROut w w' r (chg3 (L[i]!) (L[i+1]!)) := by
  have hxo := h.at_ok i (by omega)
  have hyo := h.at_ok (i + 1) hi
  obtain ⟨b, f, rfl, hb, ⟨x0, x1, x2, x3⟩, y0, y1, y2, y3⟩ := h.two i hi
  have hi0 : (0 : Int) ≤ (i : Int) := by omega
  have hi1 : (i : Int) < (L.length : Int) := by omega
  have hj0 : (0 : Int) ≤ (i : Int) + 1 := by omega
  have hj1 : (i : Int) + 1 < (L.length : Int) := by omega
  have hw1 : IntKind.i64.wrap ((i : Int) + 1) = (i : Int) + 1 := by rw [IntKind.wrap_i64]; omega
  have HG : Hid (type_of% (rout_gone w 2)) := rout_gone w 2
  have HN : Hid (type_of% (ROut.none (Below.refl w.heap.size w))) := ROut.none (Below.refl w.heap.size w)
  generalize L.length = n at *
  unfold chg3
  generalize L[i]! = x at *
  generalize L[i+1]! = y at *
  clear h x2 x3 y2 y3
  obtain ⟨op, A, B, xo, xn, xc, xs⟩ := x
  obtain ⟨op', A', B', yo, yn, yc, ys⟩ := y
  simp only at *
  have hA := hxo.a
  have hA' := hyo.a
  simp only at hA hA'
  clear hxo hyo
  by_cases p : op' = 26
  · have bp : (op' == 26) = true := by simp [p]
    have cp : (op' != 26) = false := by simp [p]
    by_cases q : op = 65
    · have bq : (op == 65) = true := by simp [q]
      have cq : (op != 65) = false := by simp [q]
      rw [if_pos ⟨p, Or.inl q⟩]
      clear p q
      go_enter Tryz.func49, Tryz.ntmps49
      go_wp2_with (first | (go_at_call 73; refine (fbecomes _ _ _ _ _).mono ?_; rintro r w1 ⟨rfl, rfl⟩) | go_quiet (fail))
      go_ret
      exact HG.out
    have bq : (op == 65) = false := by simp [q]
    have cq : (op != 65) = true := by simp [q]
    by_cases q2 : op = 66
    · have bq2 : (op == 66) = true := by simp [q2]
      have cq2 : (op != 66) = false := by simp [q2]
      rw [if_pos ⟨p, Or.inr (Or.inl q2)⟩]
      clear p q q2
      go_enter Tryz.func49, Tryz.ntmps49
      go_wp2_with (first | (go_at_call 73; refine (fbecomes _ _ _ _ _).mono ?_; rintro r w1 ⟨rfl, rfl⟩) | go_quiet (fail))
      go_ret
      exact HG.out
    have bq2 : (op == 66) = false := by simp [q2]
    have cq2 : (op != 66) = true := by simp [q2]
    by_cases q3 : op = 32
    · have bq3 : (op == 32) = true := by simp [q3]
      have cq3 : (op != 32) = false := by simp [q3]
      rw [if_pos ⟨p, Or.inr (Or.inr (Or.inl q3))⟩]
      clear p q q2 q3
      go_enter Tryz.func49, Tryz.ntmps49
      go_wp2_with (first | (go_at_call 73; refine (fbecomes _ _ _ _ _).mono ?_; rintro r w1 ⟨rfl, rfl⟩) | go_quiet (fail))
      go_ret
      exact HG.out
    have bq3 : (op == 32) = false := by simp [q3]
    have cq3 : (op != 32) = true := by simp [q3]
    by_cases q4 : op = 35
    · have bq4 : (op == 35) = true := by simp [q4]
      have cq4 : (op != 35) = false := by simp [q4]
      rw [if_pos ⟨p, Or.inr (Or.inr (Or.inr q4))⟩]
      clear p q q2 q3 q4
      go_enter Tryz.func49, Tryz.ntmps49
      go_wp2_with (first | (go_at_call 73; refine (fbecomes _ _ _ _ _).mono ?_; rintro r w1 ⟨rfl, rfl⟩) | go_quiet (fail))
      go_ret
      exact HG.out
    have bq4 : (op == 35) = false := by simp [q4]
    have cq4 : (op != 35) = true := by simp [q4]
    rw [if_neg (show ¬ _ from by omega)]
    clear p q q2 q3 q4
    go_enter Tryz.func49, Tryz.ntmps49
    go_wp2_with (first | (go_at_call 73; refine (fbecomes _ _ _ _ _).mono ?_; rintro r w1 ⟨rfl, rfl⟩) | go_quiet (fail))
    go_ret
    exact HN.out
  have bp : (op' == 26) = false := by simp [p]
  have cp : (op' != 26) = true := by simp [p]
  rw [if_neg (show ¬ _ from by omega)]
  clear p
  go_enter Tryz.func49, Tryz.ntmps49
  go_wp2_with (first | (go_at_call 73; refine (fbecomes _ _ _ _ _).mono ?_; rintro r w1 ⟨rfl, rfl⟩) | go_quiet (fail))
  go_ret
  exact HN.out
theorem rule4 (o : Option Addr) (cap : Nat) (L : List InsD) (i : Nat) (w : World) (h : LD w o L) (hn : L.length ≤ 200) (hi : i + 1 < L.length) :
    Calls Tryz.prog 50 #[.slice o L.length cap, .int .i64 (i : Int)] w fun r w' => ROut w w' r (chg4 (L[i]!) (L[i+1]!)) := by
  have hxo := h.at_ok i (by omega)
  have hyo := h.at_ok (i + 1) hi
  obtain ⟨b, f, rfl, hb, ⟨x0, x1, x2, x3⟩, y0, y1, y2, y3⟩ := h.two i hi
  have hi0 : (0 : Int) ≤ (i : Int) := by omega
  have hi1 : (i : Int) < (L.length : Int) := by omega
  have hj0 : (0 : Int) ≤ (i : Int) + 1 := by omega
  have hj1 : (i : Int) + 1 < (L.length : Int) := by omega
  have hw1 : IntKind.i64.wrap ((i : Int) + 1) = (i : Int) + 1 := by rw [IntKind.wrap_i64]; omega
  have HG : Hid (type_of% (rout_gone w 2)) := rout_gone w 2
  have HN : Hid (type_of% (ROut.none (Below.refl w.heap.size w))) := ROut.none (Below.refl w.heap.size w)
  generalize L.length = n at *
  unfold chg4
  generalize L[i]! = x at *
  generalize L[i+1]! = y at *
  clear h x2 x3 y2 y3
  obtain ⟨op, A, B, xo, xn, xc, xs⟩ := x
  obtain ⟨op', A', B', yo, yn, yc, ys⟩ := y
  simp only at *
  have hA := hxo.a
  have hA' := hyo.a
  simp only at hA hA'
  clear hxo hyo
  by_cases p : op = 65
  · have bp : (op == 65) = true := by simp [p]
    have cp : (op != 65) = false := by simp [p]
    by_cases q : op' = 13
    · have bq : (op' == 13) = true := by simp [q]
      have cq : (op' != 13) = false := by simp [q]
      by_cases z : A = 0
      · have bz : (A == 0) = true := by simp [z]
        have cz : (A != 0) = false := by simp [z]
        rw [if_pos ⟨p, q⟩, if_pos z]
        clear p q z
        go_enter Tryz.func50, Tryz.ntmps50
        go_wp2_with (first | (go_at_call 73; refine (fbecomes _ _ _ _ _).mono ?_; rintro r w1 ⟨rfl, rfl⟩) | go_quiet (fail))
        go_ret
        exact HG.out
      have bz : (A == 0) = false := by simp [z]
      have cz : (A != 0) = true := by simp [z]
      rw [if_pos ⟨p, q⟩, if_neg z]
      have HR : Hid (type_of% (rout_one w 2 (mkD 12 A') (mkD_ok w _ _ (by omega) (by omega) (by omega)))) := rout_one w 2 (mkD 12 A') (mkD_ok w _ _ (by omega) (by omega) (by omega))
      clear p q z
      go_enter Tryz.func50, Tryz.ntmps50
      go_wp2_with (first | (go_at_call 73; refine (fbecomes _ _ _ _ _).mono ?_; rintro r w1 ⟨rfl, rfl⟩) | go_quiet (fail))
      go_ret
      exact HR.out
    have bq : (op' == 13) = false := by simp [q]
    have cq : (op' != 13) = true := by simp [q]
    rw [if_neg (show ¬ _ from by omega)]
    clear p q
    go_enter Tryz.func50, Tryz.ntmps50
    go_wp2_with (first | (go_at_call 73; refine (fbecomes _ _ _ _ _).mono ?_; rintro r w1 ⟨rfl, rfl⟩) | go_quiet (fail))
    go_ret
    exact HN.out
  have bp : (op == 65) = false := by simp [p]
  have cp : (op != 65) = true := by simp [p]
  rw [if_neg (show ¬ _ from by omega)]
  clear p
  go_enter Tryz.func50, Tryz.ntmps50
  go_wp2_with (first | (go_at_call 73; refine (fbecomes _ _ _ _ _).mono ?_; rintro r w1 ⟨rfl, rfl⟩) | go_quiet (fail))
  go_ret
  exact HN.out
theorem rule6 (o : Option Addr) (cap : Nat) (L : List InsD) (i : Nat) (w : World) (h : LD w o L) (hn : L.length ≤ 200) (hi : i + 1 < L.length) :
    Calls Tryz.prog 52 #[.slice o L.length cap, .int .i64 (i : Int)] w fun r w' => ROut w w' r (chg6 (L[i]!) (L[i+1]!)) := by
  have hxo := h.at_ok i (by omega)
  have hyo := h.at_ok (i + 1) hi
  obtain ⟨b, f, rfl, hb, ⟨x0, x1, x2, x3⟩, y0, y1, y2, y3⟩ := h.two i hi
  have hi0 : (0 : Int) ≤ (i : Int) := by omega
  have hi1 : (i : Int) < (L.length : Int) := by omega
  have hj0 : (0 : Int) ≤ (i : Int) + 1 := by omega
  have hj1 : (i : Int) + 1 < (L.length : Int) := by omega
  have hw1 : IntKind.i64.wrap ((i : Int) + 1) = (i : Int) + 1 := by rw [IntKind.wrap_i64]; omega
  have HG : Hid (type_of% (rout_gone w 2)) := rout_gone w 2
  have HN : Hid (type_of% (ROut.none (Below.refl w.heap.size w))) := ROut.none (Below.refl w.heap.size w)
  generalize L.length = n at *
  unfold chg6
  generalize L[i]! = x at *
  generalize L[i+1]! = y at *
  clear h x2 x3 y2 y3
  obtain ⟨op, A, B, xo, xn, xc, xs⟩ := x
  obtain ⟨op', A', B', yo, yn, yc, ys⟩ := y
  simp only at *
  have hA := hxo.a
  have hA' := hyo.a
  simp only at hA hA'
  clear hxo hyo
  by_cases p : op = 33
  · have bp : (op == 33) = true := by simp [p]
    have cp : (op != 33) = false := by simp [p]
    by_cases q : op' = 32
    · have bq : (op' == 32) = true := by simp [q]
      have cq : (op' != 32) = false := by simp [q]
      by_cases z : A = A'
      · have bz : (A == A') = true := by simp [z]
        have cz : (A != A') = false := by simp [z]
        rw [if_pos ⟨p, q, z⟩]
        have HR : Hid (∀ m, type_of% (rout_oneN w m 2 (mkD 34 A) (mkD_ok w _ _ (by omega) (by omega) (by omega)))) := fun m => rout_oneN w m 2 (mkD 34 A) (mkD_ok w _ _ (by omega) (by omega) (by omega))
        clear p q z
        go_enter Tryz.func52, Tryz.ntmps52
        go_wp2_with (first | (go_at_call 73; refine (fbecomes _ _ _ _ _).mono ?_; rintro r w1 ⟨rfl, rfl⟩) | go_quiet (fail))
        go_ret
        exact HR.out _
      have bz : (A == A') = false := by simp [z]
      have cz : (A != A') = true := by simp [z]
      rw [if_neg (show ¬ _ from by omega)]
      clear p q z
      go_enter Tryz.func52, Tryz.ntmps52
      go_wp2_with (first | (go_at_call 73; refine (fbecomes _ _ _ _ _).mono ?_; rintro r w1 ⟨rfl, rfl⟩) | go_quiet (fail))
      go_ret
      exact ROut.none (fdrewN _ _)
    have bq : (op' == 32) = false := by simp [q]
    have cq : (op' != 32) = true := by simp [q]
    rw [if_neg (show ¬ _ from by omega)]
    clear p q
    go_enter Tryz.func52, Tryz.ntmps52
    go_wp2_with (first | (go_at_call 73; refine (fbecomes _ _ _ _ _).mono ?_; rintro r w1 ⟨rfl, rfl⟩) | go_quiet (fail))
    go_ret
    exact ROut.none (fdrewN _ _)
  have bp : (op == 33) = false := by simp [p]
  have cp : (op != 33) = true := by simp [p]
  rw [if_neg (show ¬ _ from by omega)]
  clear p
  go_enter Tryz.func52, Tryz.ntmps52
  go_wp2_with (first | (go_at_call 73; refine (fbecomes _ _ _ _ _).mono ?_; rintro r w1 ⟨rfl, rfl⟩) | go_quiet (fail))
  go_ret
  exact ROut.none (fdrewN _ _)
theorem rule8 (o : Option Addr) (cap : Nat) (L : List InsD) (i : Nat) (w : World) (h : LD w o L) (hn : L.length ≤ 200) (hi : i + 1 < L.length) :
    Calls Tryz.prog 54 #[.slice o L.length cap, .int .i64 (i : Int)] w fun r w' => ROut w w' r (chg8 (L[i]!) (L[i+1]!)) := by
  have hxo := h.at_ok i (by omega)
  have hyo := h.at_ok (i + 1) hi
  obtain ⟨b, f, rfl, hb, ⟨x0, x1, x2, x3⟩, y0, y1, y2, y3⟩ := h.two i hi
  have hi0 : (0 : Int) ≤ (i : Int) := by omega
  have hi1 : (i : Int) < (L.length : Int) := by omega
  have hj0 : (0 : Int) ≤ (i : Int) + 1 := by omega
  have hj1 : (i : Int) + 1 < (L.length : Int) := by omega
  have hw1 : IntKind.i64.wrap ((i : Int) + 1) = (i : Int) + 1 := by rw [IntKind.wrap_i64]; omega
  have HG : Hid (type_of% (rout_gone w 2)) := rout_gone w 2
  have HN : Hid (type_of% (ROut.none (Below.refl w.heap.size w))) := ROut.none (Below.refl w.heap.size w)
  generalize L.length = n at *
  unfold chg8
  generalize L[i]! = x at *
  generalize L[i+1]! = y at *
  clear h x2 x3 y2 y3
  obtain ⟨op, A, B, xo, xn, xc, xs⟩ := x
  obtain ⟨op', A', B', yo, yn, yc, ys⟩ := y
  simp only at *
  have hA := hxo.a
  have hA' := hyo.a
  simp only at hA hA'
  clear hxo hyo
  by_cases p : op = 2
  · have bp : (op == 2) = true := by simp [p]
    have cp : (op != 2) = false := by simp [p]
    by_cases z : A = 64
    · have bz : (A == 64) = true := by simp [z]
      have cz : (A != 64) = false := by simp [z]
      by_cases q : op' = 11
      · have bq : (op' == 11) = true := by simp [q]
        have cq : (op' != 11) = false := by simp [q]
        rw [if_pos ⟨Or.inl p, z, q⟩]
        clear p q z
        go_enter Tryz.func54, Tryz.ntmps54
        go_wp2_with (first | (go_at_call 73; refine (fbecomes _ _ _ _ _).mono ?_; rintro r w1 ⟨rfl, rfl⟩) | go_quiet (fail))
        go_ret
        exact HG.out
      have bq : (op' == 11) = false := by simp [q]
      have cq : (op' != 11) = true := by simp [q]
      rw [if_neg (show ¬ _ from by omega)]
      clear p q z
      go_enter Tryz.func54, Tryz.ntmps54
      go_wp2_with (first | (go_at_call 73; refine (fbecomes _ _ _ _ _).mono ?_; rintro r w1 ⟨rfl, rfl⟩) | go_quiet (fail))
      go_ret
      exact HN.out
    have bz : (A == 64) = false := by simp [z]
    have cz : (A != 64) = true := by simp [z]
    rw [if_neg (show ¬ _ from by omega)]
    clear p z
    go_enter Tryz.func54, Tryz.ntmps54
    go_wp2_with (first | (go_at_call 73; refine (fbecomes _ _ _ _ _).mono ?_; rintro r w1 ⟨rfl, rfl⟩) | go_quiet (fail))
    go_ret
    exact HN.out
  have bp : (op == 2) = false := by simp [p]
  have cp : (op != 2) = true := by simp [p]
  by_cases p2 : op = 3
  · have bp2 : (op == 3) = true := by simp [p2]
    have cp2 : (op != 3) = false := by simp [p2]
    by_cases z : A = 64
    · have bz : (A == 64) = true := by simp [z]
      have cz : (A != 64) = false := by simp [z]
      by_cases q : op' = 11
      · have bq : (op' == 11) = true := by simp [q]
        have cq : (op' != 11) = false := by simp [q]
        rw [if_pos ⟨Or.inr p2, z, q⟩]
        clear p p2 q z
        go_enter Tryz.func54, Tryz.ntmps54
        go_wp2_with (first | (go_at_call 73; refine (fbecomes _ _ _ _ _).mono ?_; rintro r w1 ⟨rfl, rfl⟩) | go_quiet (fail))
        go_ret
        exact HG.out
      have bq : (op' == 11) = false := by simp [q]
      have cq : (op' != 11) = true := by simp [q]
      rw [if_neg (show ¬ _ from by omega)]
      clear p p2 q z
      go_enter Tryz.func54, Tryz.ntmps54
      go_wp2_with (first | (go_at_call 73; refine (fbecomes _ _ _ _ _).mono ?_; rintro r w1 ⟨rfl, rfl⟩) | go_quiet (fail))
      go_ret
      exact HN.out
    have bz : (A == 64) = false := by simp [z]
    have cz : (A != 64) = true := by simp [z]
    rw [if_neg (show ¬ _ from by omega)]
    clear p p2 z
    go_enter Tryz.func54, Tryz.ntmps54
    go_wp2_with (first | (go_at_call 73; refine (fbecomes _ _ _ _ _).mono ?_; rintro r w1 ⟨rfl, rfl⟩) | go_quiet (fail))
    go_ret
    exact HN.out
  have bp2 : (op == 3) = false := by simp [p2]
  have cp2 : (op != 3) = true := by simp [p2]
  rw [if_neg (show ¬ _ from by omega)]
  clear p p2
  go_enter Tryz.func54, Tryz.ntmps54
  go_wp2_with (first | (go_at_call 73; refine (fbecomes _ _ _ _ _).mono ?_; rintro r w1 ⟨rfl, rfl⟩) | go_quiet (fail))
  go_ret
  exact HN.out
theorem rule9 (o : Option Addr) (cap : Nat) (L : List InsD) (i : Nat) (w : World) (h : LD w o L) (hn : L.length ≤ 200) (hi : i + 1 < L.length) :
    Calls Tryz.prog 55 #[.slice o L.length cap, .int .i64 (i : Int)] w fun r w' => ROut w w' r (chg9 (L[i]!) (L[i+1]!)) := by
  have hxo := h.at_ok i (by omega)
  have hyo := h.at_ok (i + 1) hi
  obtain ⟨b, f, rfl, hb, ⟨x0, x1, x2, x3⟩, y0, y1, y2, y3⟩ := h.two i hi
  have hi0 : (0 : Int) ≤ (i : Int) := by omega
  have hi1 : (i : Int) < (L.length : Int) := by omega
  have hj0 : (0 : Int) ≤ (i : Int) + 1 := by omega
  have hj1 : (i : Int) + 1 < (L.length : Int) := by omega
  have hw1 : IntKind.i64.wrap ((i : Int) + 1) = (i : Int) + 1 := by rw [IntKind.wrap_i64]; omega
  have HG : Hid (type_of% (rout_gone w 2)) := rout_gone w 2
  have HN : Hid (type_of% (ROut.none (Below.refl w.heap.size w))) := ROut.none (Below.refl w.heap.size w)
  generalize L.length = n at *
  unfold chg9
  generalize L[i]! = x at *
  generalize L[i+1]! = y at *
  clear h x2 x3 y2 y3
  obtain ⟨op, A, B, xo, xn, xc, xs⟩ := x
  obtain ⟨op', A', B', yo, yn, yc, ys⟩ := y
  simp only at *
  have hA := hxo.a
  have hA' := hyo.a
  simp only at hA hA'
  clear hxo hyo
  by_cases p : op = 34
  · have bp : (op == 34) = true := by simp [p]
    have cp : (op != 34) = false := by simp [p]
    by_cases q : op' = 26
    · have bq : (op' == 26) = true := by simp [q]
      have cq : (op' != 26) = false := by simp [q]
      rw [if_pos ⟨p, q⟩]
      have HR : Hid (type_of% (rout_one w 2 (mkD 33 A) (mkD_ok w _ _ (by omega) (by omega) (by omega)))) := rout_one w 2 (mkD 33 A) (mkD_ok w _ _ (by omega) (by omega) (by omega))
      clear p q
      go_enter Tryz.func55, Tryz.ntmps55
      go_wp2_with (first | (go_at_call 73; refine (fbecomes _ _ _ _ _).mono ?_; rintro r w1 ⟨rfl, rfl⟩) | go_quiet (fail))
      go_ret
      exact HR.out
    have bq : (op' == 26) = false := by simp [q]
    have cq : (op' != 26) = true := by simp [q]
    rw [if_neg (show ¬ _ from by omega)]
    clear p q
    go_enter Tryz.func55, Tryz.ntmps55
    go_wp2_with (first | (go_at_call 73; refine (fbecomes _ _ _ _ _).mono ?_; rintro r w1 ⟨rfl, rfl⟩) | go_quiet (fail))
    go_ret
    exact HN.out
  have bp : (op == 34) = false := by simp [p]
  have cp : (op != 34) = true := by simp [p]
  rw [if_neg (show ¬ _ from by omega)]
  clear p
  go_enter Tryz.func55, Tryz.ntmps55
  go_wp2_with (first | (go_at_call 73; refine (fbecomes _ _ _ _ _).mono ?_; rintro r w1 ⟨rfl, rfl⟩) | go_quiet (fail))
  go_ret
  exact HN.out
theorem rule10 (o : Option Addr) (cap : Nat) (L : List InsD) (i : Nat) (w : World) (h : LD w o L) (hn : L.length ≤ 200) (hi : i + 1 < L.length) :
    Calls Tryz.prog 56 #[.slice o L.length cap, .int .i64 (i : Int)] w fun r w' => ROut w w' r (chg10 (L[i]!) (L[i+1]!)) := by
  have hxo := h.at_ok i (by omega)
  have hyo := h.at_ok (i + 1) hi
  obtain ⟨b, f, rfl, hb, ⟨x0, x1, x2, x3⟩, y0, y1, y2, y3⟩ := h.two i hi
  have hi0 : (0 : Int) ≤ (i : Int) := by omega
  have hi1 : (i : Int) < (L.length : Int) := by omega
  have hj0 : (0 : Int) ≤ (i : Int) + 1 := by omega
  have hj1 : (i : Int) + 1 < (L.length : Int) := by omega
  have hw1 : IntKind.i64.wrap ((i : Int) + 1) = (i : Int) + 1 := by rw [IntKind.wrap_i64]; omega
  have HG : Hid (type_of% (rout_gone w 2)) := rout_gone w 2
  have HN : Hid (type_of% (ROut.none (Below.refl w.heap.size w))) := ROut.none (Below.refl w.heap.size w)
  generalize L.length = n at *
  unfold chg10
  generalize L[i]! = x at *
  generalize L[i+1]! = y at *
  clear h x2 x3 y2 y3
  obtain ⟨op, A, B, xo, xn, xc, xs⟩ := x
  obtain ⟨op', A', B', yo, yn, yc, ys⟩ := y
  simp only at *
  have hA := hxo.a
  have hA' := hyo.a
  simp only at hA hA'
  clear hxo hyo
  by_cases p : op = 65
  · have bp : (op == 65) = true := by simp [p]
    have cp : (op != 65) = false := by simp [p]
    by_cases z : A = 0
    · have bz : (A == 0) = true := by simp [z]
      have cz : (A != 0) = false := by simp [z]
      rw [if_neg (show ¬ _ from by omega)]
      clear p z
      go_enter Tryz.func56, Tryz.ntmps56
      go_wp2_with (first | (go_at_call 73; refine (fbecomes _ _ _ _ _).mono ?_; rintro r w1 ⟨rfl, rfl⟩) | go_quiet (fail))
      go_ret
      exact HN.out
    have bz : (A == 0) = false := by simp [z]
    have cz : (A != 0) = true := by simp [z]
    by_cases q : op' = 27
    · have bq : (op' == 27) = true := by simp [q]
      have cq : (op' != 27) = false := by simp [q]
      rw [if_pos ⟨p, z, q⟩]
      have HR : Hid (type_of% (rout_one w 2 (mkD 26 0) (mkD_ok w _ _ (by omega) (by omega) (by omega)))) := rout_one w 2 (mkD 26 0) (mkD_ok w _ _ (by omega) (by omega) (by omega))
      clear p z q
      go_enter Tryz.func56, Tryz.ntmps56
      go_wp2_with (first | (go_at_call 73; refine (fbecomes _ _ _ _ _).mono ?_; rintro r w1 ⟨rfl, rfl⟩) | go_quiet (fail))
      go_ret
      exact HR.out
    have bq : (op' == 27) = false := by simp [q]
    have cq : (op' != 27) = true := by simp [q]
    rw [if_neg (show ¬ _ from by omega)]
    clear p z q
    go_enter Tryz.func56, Tryz.ntmps56
    go_wp2_with (first | (go_at_call 73; refine (fbecomes _ _ _ _ _).mono ?_; rintro r w1 ⟨rfl, rfl⟩) | go_quiet (fail))
    go_ret
    exact HN.out
  have bp : (op == 65) = false := by simp [p]
  have cp : (op != 65) = true := by simp [p]
  rw [if_neg (show ¬ _ from by omega)]
  clear p
  go_enter Tryz.func56, Tryz.ntmps56
  go_wp2_with (first | (go_at_call 73; refine (fbecomes _ _ _ _ _).mono ?_; rintro r w1 ⟨rfl, rfl⟩) | go_quiet (fail))
  go_ret
  exact HN.out
end Go.Proofs.YtkceplamaocmmaaGreatDoor
