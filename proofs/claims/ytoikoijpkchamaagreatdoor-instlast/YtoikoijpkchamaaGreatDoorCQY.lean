/-
 The document's own Eq of two lists of numbers: whether they are one.
-/
import Derived.Test.YtoikoijpkchamaaGreatDoorCQG
import Derived.Test.YtoikoijpkchamaaGreatDoorCQS
import Derived.Lib.Builder
import Derived.Lib.AppendStr
import Derived.WalkKit
import Derived.Laws.Externs
set_option maxHeartbeats 4000000
set_option maxRecDepth 1000000
namespace Go.Proofs.YtoikoijpkchamaaGreatDoor
set_option linter.unusedVariables false
open Go.RowKit
theorem take_ne {xs ys : List Int} {k : Nat} (h1 : k < xs.length) (h2 : k < ys.length) (h : xs[k] ≠ ys[k]) : xs ≠ ys := fun e => h (by subst e; rfl)
theorem take_eq {xs ys : List Int} {k : Nat} (h1 : k < xs.length) (h2 : k < ys.length) (h : xs.take k = ys.take k) (e : xs[k] = ys[k]) : xs.take (k + 1) = ys.take (k + 1) := by
 rw [List.take_succ_eq_append_getElem h1, List.take_succ_eq_append_getElem h2, h, e]
theorem eqC_kin (w : World) (o1 o2 : Option Addr) (n1 k1 n2 k2 N1 N2 : Nat) (xs ys : List Int) (r1 : xs = [] ∨ ∃ b f, o1 = some ⟨b, f, none⟩ ∧ b < N1 ∧ ∀ i (h : i < xs.length) r, r < 1 → w.cell? ⟨b, f + i * 1 + r, none⟩ = ([Value.int .u8 xs[i]])[r]?) (r2 : ys = [] ∨ ∃ b f, o2 = some ⟨b, f, none⟩ ∧ b < N2 ∧ ∀ i (h : i < ys.length) r, r < 1 → w.cell? ⟨b, f + i * 1 + r, none⟩ = ([Value.int .u8 ys[i]])[r]?) (l1 : xs.length = n1) (l2 : ys.length = n2) (c1 : n1 ≤ k1) (c2 : n2 ≤ k2) (m1 : k1 ≤ 9223372036854775807) (m2 : k2 ≤ 9223372036854775807) :
  Calls Tryz.prog 26 #[.slice o1 n1 k1, .slice o2 n2 k2] w fun r w' => r = .returned (.bool (decide (xs = ys))) ∧ w' = w := by
 by_cases hn : n1 = n2
 ·subst hn
  have HL1 : Hid (xs.length = n1) := l1
  have HL2 : Hid (ys.length = n1) := l2
  rcases r1 with rfl | ⟨b, f, rfl, _, h1⟩
  ·have h0 : n1 = 0 := by rw [← l1]; rfl
   subst h0
   have hy : ys = [] := List.length_eq_zero_iff.1 l2
   subst hy
   clear l1 l2 r2
   go_enter Tryz.func26, Tryz.ntmps26
   go_wp2
   go_loop [14] (fun i => i = .int .i64 0) (fun _ => 0)
   case atStart => rfl
   case round =>
    subst hrel
    go_wp2
    go_ret
    exact ⟨rfl, rfl⟩
  rcases r2 with rfl | ⟨b2, f2, rfl, _, h2⟩
  ·have h0 : n1 = 0 := by rw [← l2]; rfl
   subst h0
   have hy : xs = [] := List.length_eq_zero_iff.1 l1
   subst hy
   clear l1 l2 h1
   go_enter Tryz.func26, Tryz.ntmps26
   go_wp2
   go_loop [14] (fun i => i = .int .i64 0) (fun _ => 0)
   case atStart => rfl
   case round =>
    subst hrel
    go_wp2
    go_ret
    exact ⟨rfl, rfl⟩
  have H1 : Hid (type_of% h1) := h1
  have H2 : Hid (type_of% h2) := h2
  clear h1 h2 l1 l2
  go_enter Tryz.func26, Tryz.ntmps26
  go_wp2
  go_loop [14] (fun i => ∃ k : Nat, i = .int .i64 k ∧ k ≤ n1 ∧ Hid (xs.take k = ys.take k)) (fun i => n1 - (intOf i).toNat)
  case atStart => exact ⟨0, rfl, by omega, by unfold Hid; rfl⟩
  case round =>
   obtain ⟨k, rfl, hk, HT⟩ := hrel
   by_cases hlt : k < n1
   ·have hx : k < xs.length := by rw [HL1.out]; exact hlt
    have hy : k < ys.length := by rw [HL2.out]; exact hlt
    have e1 : w.cell? ⟨b, f + k, none⟩ = some (.int .u8 xs[k]) := by
     have := H1.out k hx 0 (by omega)
     rw [Nat.mul_one, Nat.add_zero] at this
     rw [this]
     rfl
    have e2 : w.cell? ⟨b2, f2 + k, none⟩ = some (.int .u8 ys[k]) := by
     have := H2.out k hy 0 (by omega)
     rw [Nat.mul_one, Nat.add_zero] at this
     rw [this]
     rfl
    have HN : Hid (xs[k] ≠ ys[k] → xs ≠ ys) := take_ne hx hy
    have HE : Hid (xs[k] = ys[k] → xs.take (k + 1) = ys.take (k + 1)) := take_eq hx hy HT.out
    generalize xs[k] = x at e1 HN HE
    generalize ys[k] = y at e2 HN HE
    have hki0 : (0 : Int) ≤ (k : Int) := by omega
    have hki1 : (k : Int) < (n1 : Int) := by omega
    clear HT hx hy
    by_cases hxy : x = y
    ·subst hxy
     have HE2 : Hid (xs.take (k + 1) = ys.take (k + 1)) := HE.out rfl
     clear HE HN
     go_wp2
     go_round
     case rel => exact ⟨k + 1, by go_num, by omega, HE2⟩
     case measure => simp [intOf]; omega
    ·have hb1 : (x == y) = false := beq_eq_false_iff_ne.2 hxy
     have hb2 : (x != y) = true := by rw [bne, hb1]; rfl
     have HD : Hid (decide (xs = ys) = false) := by unfold Hid; rw [decide_eq_false_iff_not]; exact HN.out hxy
     clear HE HN hxy
     go_wp2
     go_ret
     exact ⟨by rw [HD.out]; rfl, rfl⟩
   ·have HD : Hid (decide (xs = ys) = true) := by
     have h := HT.out
     rw [List.take_of_length_le (by rw [HL1.out]; omega), List.take_of_length_le (by rw [HL2.out]; omega)] at h
     unfold Hid
     rw [decide_eq_true_eq]
     exact h
    go_wp2
    go_ret
    exact ⟨by rw [HD.out]; rfl, rfl⟩
 ·have HD : Hid (decide (xs = ys) = false) := by
   unfold Hid
   rw [decide_eq_false_iff_not]
   intro e
   exact hn (by rw [← l1, ← l2, e])
  have hb1 : ((n1 : Int) == (n2 : Int)) = false := by rw [beq_eq_false_iff_ne]; omega
  have hb2 : ((n1 : Int) != (n2 : Int)) = true := by rw [bne, hb1]; rfl
  clear r1 r2 l1 l2 hn
  go_enter Tryz.func26, Tryz.ntmps26
  go_wp2
  go_ret
  exact ⟨by rw [HD.out]; rfl, rfl⟩
theorem eqC_int (w : World) (o1 o2 : Option Addr) (n1 k1 n2 k2 N1 N2 : Nat) (xs ys : List Int) (r1 : xs = [] ∨ ∃ b f, o1 = some ⟨b, f, none⟩ ∧ b < N1 ∧ ∀ i (h : i < xs.length) r, r < 1 → w.cell? ⟨b, f + i * 1 + r, none⟩ = ([Value.int .i64 xs[i]])[r]?) (r2 : ys = [] ∨ ∃ b f, o2 = some ⟨b, f, none⟩ ∧ b < N2 ∧ ∀ i (h : i < ys.length) r, r < 1 → w.cell? ⟨b, f + i * 1 + r, none⟩ = ([Value.int .i64 ys[i]])[r]?) (l1 : xs.length = n1) (l2 : ys.length = n2) (c1 : n1 ≤ k1) (c2 : n2 ≤ k2) (m1 : k1 ≤ 9223372036854775807) (m2 : k2 ≤ 9223372036854775807) :
  Calls Tryz.prog 67 #[.slice o1 n1 k1, .slice o2 n2 k2] w fun r w' => r = .returned (.bool (decide (xs = ys))) ∧ w' = w := by
 by_cases hn : n1 = n2
 ·subst hn
  have HL1 : Hid (xs.length = n1) := l1
  have HL2 : Hid (ys.length = n1) := l2
  rcases r1 with rfl | ⟨b, f, rfl, _, h1⟩
  ·have h0 : n1 = 0 := by rw [← l1]; rfl
   subst h0
   have hy : ys = [] := List.length_eq_zero_iff.1 l2
   subst hy
   clear l1 l2 r2
   go_enter Tryz.func67, Tryz.ntmps67
   go_wp2
   go_loop [14] (fun i => i = .int .i64 0) (fun _ => 0)
   case atStart => rfl
   case round =>
    subst hrel
    go_wp2
    go_ret
    exact ⟨rfl, rfl⟩
  rcases r2 with rfl | ⟨b2, f2, rfl, _, h2⟩
  ·have h0 : n1 = 0 := by rw [← l2]; rfl
   subst h0
   have hy : xs = [] := List.length_eq_zero_iff.1 l1
   subst hy
   clear l1 l2 h1
   go_enter Tryz.func67, Tryz.ntmps67
   go_wp2
   go_loop [14] (fun i => i = .int .i64 0) (fun _ => 0)
   case atStart => rfl
   case round =>
    subst hrel
    go_wp2
    go_ret
    exact ⟨rfl, rfl⟩
  have H1 : Hid (type_of% h1) := h1
  have H2 : Hid (type_of% h2) := h2
  clear h1 h2 l1 l2
  go_enter Tryz.func67, Tryz.ntmps67
  go_wp2
  go_loop [14] (fun i => ∃ k : Nat, i = .int .i64 k ∧ k ≤ n1 ∧ Hid (xs.take k = ys.take k)) (fun i => n1 - (intOf i).toNat)
  case atStart => exact ⟨0, rfl, by omega, by unfold Hid; rfl⟩
  case round =>
   obtain ⟨k, rfl, hk, HT⟩ := hrel
   by_cases hlt : k < n1
   ·have hx : k < xs.length := by rw [HL1.out]; exact hlt
    have hy : k < ys.length := by rw [HL2.out]; exact hlt
    have e1 : w.cell? ⟨b, f + k, none⟩ = some (.int .i64 xs[k]) := by
     have := H1.out k hx 0 (by omega)
     rw [Nat.mul_one, Nat.add_zero] at this
     rw [this]
     rfl
    have e2 : w.cell? ⟨b2, f2 + k, none⟩ = some (.int .i64 ys[k]) := by
     have := H2.out k hy 0 (by omega)
     rw [Nat.mul_one, Nat.add_zero] at this
     rw [this]
     rfl
    have HN : Hid (xs[k] ≠ ys[k] → xs ≠ ys) := take_ne hx hy
    have HE : Hid (xs[k] = ys[k] → xs.take (k + 1) = ys.take (k + 1)) := take_eq hx hy HT.out
    generalize xs[k] = x at e1 HN HE
    generalize ys[k] = y at e2 HN HE
    have hki0 : (0 : Int) ≤ (k : Int) := by omega
    have hki1 : (k : Int) < (n1 : Int) := by omega
    clear HT hx hy
    by_cases hxy : x = y
    ·subst hxy
     have HE2 : Hid (xs.take (k + 1) = ys.take (k + 1)) := HE.out rfl
     clear HE HN
     go_wp2
     go_round
     case rel => exact ⟨k + 1, by go_num, by omega, HE2⟩
     case measure => simp [intOf]; omega
    ·have hb1 : (x == y) = false := beq_eq_false_iff_ne.2 hxy
     have hb2 : (x != y) = true := by rw [bne, hb1]; rfl
     have HD : Hid (decide (xs = ys) = false) := by unfold Hid; rw [decide_eq_false_iff_not]; exact HN.out hxy
     clear HE HN hxy
     go_wp2
     go_ret
     exact ⟨by rw [HD.out]; rfl, rfl⟩
   ·have HD : Hid (decide (xs = ys) = true) := by
     have h := HT.out
     rw [List.take_of_length_le (by rw [HL1.out]; omega), List.take_of_length_le (by rw [HL2.out]; omega)] at h
     unfold Hid
     rw [decide_eq_true_eq]
     exact h
    go_wp2
    go_ret
    exact ⟨by rw [HD.out]; rfl, rfl⟩
 ·have HD : Hid (decide (xs = ys) = false) := by
   unfold Hid
   rw [decide_eq_false_iff_not]
   intro e
   exact hn (by rw [← l1, ← l2, e])
  have hb1 : ((n1 : Int) == (n2 : Int)) = false := by rw [beq_eq_false_iff_ne]; omega
  have hb2 : ((n1 : Int) != (n2 : Int)) = true := by rw [bne, hb1]; rfl
  clear r1 r2 l1 l2 hn
  go_enter Tryz.func67, Tryz.ntmps67
  go_wp2
  go_ret
  exact ⟨by rw [HD.out]; rfl, rfl⟩
theorem eqB_int (w : World) (c d : NumD) (hc : c.ok .i64 w) (hd : d.ok .i64 w) :
  Calls Tryz.prog 67 #[.slice c.o c.n c.cap, .slice d.o d.n d.cap] w fun r w' => r = .returned (.bool (decide (c.xs = d.xs))) ∧ w' = w := by
 have m1 := hc.most
 have m2 := hd.most
 unfold maxLen at m1 m2
 exact eqC_int w c.o d.o c.n c.cap d.n d.cap _ _ c.xs d.xs (hc.at1 (Nat.le_refl _)) (hd.at1 (Nat.le_refl _)) hc.len hd.len hc.le hd.le (by omega) (by omega)
theorem eqC_i64 (w : World) (o1 o2 : Option Addr) (n1 k1 n2 k2 N1 N2 : Nat) (xs ys : List Int) (r1 : xs = [] ∨ ∃ b f, o1 = some ⟨b, f, none⟩ ∧ b < N1 ∧ ∀ i (h : i < xs.length) r, r < 1 → w.cell? ⟨b, f + i * 1 + r, none⟩ = ([Value.int .i64 xs[i]])[r]?) (r2 : ys = [] ∨ ∃ b f, o2 = some ⟨b, f, none⟩ ∧ b < N2 ∧ ∀ i (h : i < ys.length) r, r < 1 → w.cell? ⟨b, f + i * 1 + r, none⟩ = ([Value.int .i64 ys[i]])[r]?) (l1 : xs.length = n1) (l2 : ys.length = n2) (c1 : n1 ≤ k1) (c2 : n2 ≤ k2) (m1 : k1 ≤ 9223372036854775807) (m2 : k2 ≤ 9223372036854775807) :
  Calls Tryz.prog 68 #[.slice o1 n1 k1, .slice o2 n2 k2] w fun r w' => r = .returned (.bool (decide (xs = ys))) ∧ w' = w := by
 by_cases hn : n1 = n2
 ·subst hn
  have HL1 : Hid (xs.length = n1) := l1
  have HL2 : Hid (ys.length = n1) := l2
  rcases r1 with rfl | ⟨b, f, rfl, _, h1⟩
  ·have h0 : n1 = 0 := by rw [← l1]; rfl
   subst h0
   have hy : ys = [] := List.length_eq_zero_iff.1 l2
   subst hy
   clear l1 l2 r2
   go_enter Tryz.func68, Tryz.ntmps68
   go_wp2
   go_loop [14] (fun i => i = .int .i64 0) (fun _ => 0)
   case atStart => rfl
   case round =>
    subst hrel
    go_wp2
    go_ret
    exact ⟨rfl, rfl⟩
  rcases r2 with rfl | ⟨b2, f2, rfl, _, h2⟩
  ·have h0 : n1 = 0 := by rw [← l2]; rfl
   subst h0
   have hy : xs = [] := List.length_eq_zero_iff.1 l1
   subst hy
   clear l1 l2 h1
   go_enter Tryz.func68, Tryz.ntmps68
   go_wp2
   go_loop [14] (fun i => i = .int .i64 0) (fun _ => 0)
   case atStart => rfl
   case round =>
    subst hrel
    go_wp2
    go_ret
    exact ⟨rfl, rfl⟩
  have H1 : Hid (type_of% h1) := h1
  have H2 : Hid (type_of% h2) := h2
  clear h1 h2 l1 l2
  go_enter Tryz.func68, Tryz.ntmps68
  go_wp2
  go_loop [14] (fun i => ∃ k : Nat, i = .int .i64 k ∧ k ≤ n1 ∧ Hid (xs.take k = ys.take k)) (fun i => n1 - (intOf i).toNat)
  case atStart => exact ⟨0, rfl, by omega, by unfold Hid; rfl⟩
  case round =>
   obtain ⟨k, rfl, hk, HT⟩ := hrel
   by_cases hlt : k < n1
   ·have hx : k < xs.length := by rw [HL1.out]; exact hlt
    have hy : k < ys.length := by rw [HL2.out]; exact hlt
    have e1 : w.cell? ⟨b, f + k, none⟩ = some (.int .i64 xs[k]) := by
     have := H1.out k hx 0 (by omega)
     rw [Nat.mul_one, Nat.add_zero] at this
     rw [this]
     rfl
    have e2 : w.cell? ⟨b2, f2 + k, none⟩ = some (.int .i64 ys[k]) := by
     have := H2.out k hy 0 (by omega)
     rw [Nat.mul_one, Nat.add_zero] at this
     rw [this]
     rfl
    have HN : Hid (xs[k] ≠ ys[k] → xs ≠ ys) := take_ne hx hy
    have HE : Hid (xs[k] = ys[k] → xs.take (k + 1) = ys.take (k + 1)) := take_eq hx hy HT.out
    generalize xs[k] = x at e1 HN HE
    generalize ys[k] = y at e2 HN HE
    have hki0 : (0 : Int) ≤ (k : Int) := by omega
    have hki1 : (k : Int) < (n1 : Int) := by omega
    clear HT hx hy
    by_cases hxy : x = y
    ·subst hxy
     have HE2 : Hid (xs.take (k + 1) = ys.take (k + 1)) := HE.out rfl
     clear HE HN
     go_wp2
     go_round
     case rel => exact ⟨k + 1, by go_num, by omega, HE2⟩
     case measure => simp [intOf]; omega
    ·have hb1 : (x == y) = false := beq_eq_false_iff_ne.2 hxy
     have hb2 : (x != y) = true := by rw [bne, hb1]; rfl
     have HD : Hid (decide (xs = ys) = false) := by unfold Hid; rw [decide_eq_false_iff_not]; exact HN.out hxy
     clear HE HN hxy
     go_wp2
     go_ret
     exact ⟨by rw [HD.out]; rfl, rfl⟩
   ·have HD : Hid (decide (xs = ys) = true) := by
     have h := HT.out
     rw [List.take_of_length_le (by rw [HL1.out]; omega), List.take_of_length_le (by rw [HL2.out]; omega)] at h
     unfold Hid
     rw [decide_eq_true_eq]
     exact h
    go_wp2
    go_ret
    exact ⟨by rw [HD.out]; rfl, rfl⟩
 ·have HD : Hid (decide (xs = ys) = false) := by
   unfold Hid
   rw [decide_eq_false_iff_not]
   intro e
   exact hn (by rw [← l1, ← l2, e])
  have hb1 : ((n1 : Int) == (n2 : Int)) = false := by rw [beq_eq_false_iff_ne]; omega
  have hb2 : ((n1 : Int) != (n2 : Int)) = true := by rw [bne, hb1]; rfl
  clear r1 r2 l1 l2 hn
  go_enter Tryz.func68, Tryz.ntmps68
  go_wp2
  go_ret
  exact ⟨by rw [HD.out]; rfl, rfl⟩
theorem eqB_i64 (w : World) (c d : NumD) (hc : c.ok .i64 w) (hd : d.ok .i64 w) :
  Calls Tryz.prog 68 #[.slice c.o c.n c.cap, .slice d.o d.n d.cap] w fun r w' => r = .returned (.bool (decide (c.xs = d.xs))) ∧ w' = w := by
 have m1 := hc.most
 have m2 := hd.most
 unfold maxLen at m1 m2
 exact eqC_i64 w c.o d.o c.n c.cap d.n d.cap _ _ c.xs d.xs (hc.at1 (Nat.le_refl _)) (hd.at1 (Nat.le_refl _)) hc.len hd.len hc.le hd.le (by omega) (by omega)
end Go.Proofs.YtoikoijpkchamaaGreatDoor
