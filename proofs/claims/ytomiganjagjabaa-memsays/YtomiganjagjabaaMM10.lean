/-
  What numberOf, hasSign, withSign and Load do.
-/
import Derived.Test.YtomiganjagjabaaMemBytesWalk
import Derived.Laws.BitsLemmas
namespace Go.Proofs.Ytomiganjagjabaa
open Go.RowKit

theorem wp_ixX {P : Program} {w : World} {ops : Array Oper} {rest : List Oper} {o : Oper} {a : Act} {Q : Exit → Act → World → Prop} (hgd : o.guard = none) (x i : Operand) (t : TypeId) (ho : o.op = .index t x i)
    (vx vi : Value) (hx : a.eval x = vx) (hi : a.eval i = vi) (p : Value) (hr : (Instr.index t vx vi).run P w = .ok p w) (h : wpList P ops Q rest (a.put o.dst p) w) : wpList P ops Q (o :: rest) a w := by
  refine wpList_plain hgd fun K hK => ?_
  unfold Oper.wp
  simp [execOp, ho, hx, hi, hr, Result.andThen]
  exact hK _ _ h
theorem ix8 (l : List Int) (k : Nat) (hl : l.length = 8) (hk : k < 8) (w : World) : (Instr.index 59 (.agg (bC l).toArray) (.int .i64 (k : Int))).run Try.prog w = .ok (.int .u8 (l.getD k 0)) w := by
  have h2 : k < l.length := by omega
  simp [Instr.index, asIntOf, part, h2]
  intro h5
  omega
theorem shlU (x y : Operand) (b k : Nat) (_hk : k ≤ 63) (w : World) : (do eqGuard .shl 60 x y (.int .u64 (b : Int)) (.int .i64 (k : Int)); binOp .shl 60 (.int .u64 (b : Int)) (.int .i64 (k : Int)) : Sem Value).run Try.prog w = .ok (.int .u64 ((b * 2 ^ k % 18446744073709551616 : Nat) : Int)) w := by
  simp [go_sem]
  rw [IntKind.wrap_u64]
theorem orU (x y : Operand) (N X : Nat) (hN : N ≤ 18446744073709551615) (hX : X ≤ 18446744073709551615) (w : World) : (do eqGuard .or 60 x y (.int .u64 (N : Int)) (.int .u64 (X : Int)); binOp .or 60 (.int .u64 (N : Int)) (.int .u64 (X : Int)) : Sem Value).run Try.prog w = .ok (.int .u64 ((N ||| X : Nat) : Int)) w := by
  simp [go_sem]
  exact u64_or_nat N X (by omega) (by omega)
theorem cvU (b : Nat) (hb : b ≤ 255) (w : World) : (convert 5 60 (.int .u8 (b : Int))).run Try.prog w = .ok (.int .u64 (b : Int)) w := by
  simp [go_sem]
  rw [IntKind.wrap_u64]
  omega
theorem cvI (b : Nat) (w : World) : (convert 60 2 (.int .u64 (b : Int))).run Try.prog w = .ok (.int .i64 (wrap64 (b : Int))) w := by
  simp [go_sem]
  rw [IntKind.wrap_i64]
  unfold wrap64
  rfl
/-- The number that bytes are, the lowest first. -/
def numN : List Int → Nat
  | [] => 0
  | x :: l => x.toNat + 256 * numN l
theorem numN_lt : ∀ (l : List Int), Bts l → numN l < 256 ^ l.length
  | [], _ => by simp [numN]
  | x :: l, h => by
    have h1 := numN_lt l fun y hy => h y (List.mem_cons_of_mem _ hy)
    have h2 := h x (List.mem_cons_self ..)
    rw [numN, List.length_cons, Nat.pow_succ]
    omega
theorem numN_app : ∀ (l : List Int) (x : Int), numN (l ++ [x]) = numN l + x.toNat * 256 ^ l.length
  | [], x => by simp [numN]
  | y :: l, x => by
    rw [List.cons_append, numN, numN_app l x, numN, List.length_cons, Nat.pow_succ]
    have : 256 * (x.toNat * 256 ^ l.length) = x.toNat * (256 ^ l.length * 256) := by
      rw [Nat.mul_comm 256, Nat.mul_assoc]
    omega
theorem numN_take (l : List Int) (k : Nat) (hk : k < l.length) : numN (l.take (k + 1)) = numN (l.take k) + (l.getD k 0).toNat * 2 ^ (8 * k) := by
  have e : l.take (k + 1) = l.take k ++ [l.getD k 0] := by
    rw [List.take_add_one, List.getElem?_eq_getElem hk]
    simp [List.getD, List.getElem?_eq_getElem hk]
  rw [e, numN_app, List.length_take, Nat.min_eq_left (by omega), Nat.pow_mul]
theorem or_next (N b k : Nat) (hN : N < 2 ^ (8 * k)) (hb : b < 256) (hk : k < 8) : N ||| (b * 2 ^ (8 * k) % 18446744073709551616) = N + b * 2 ^ (8 * k) := by
  have h1 : b * 2 ^ (8 * k) < 18446744073709551616 := by
    have h2 : 2 ^ (8 * k) ≤ 2 ^ 56 := Nat.pow_le_pow_right (by decide) (by omega)
    have h3 : b * 2 ^ (8 * k) ≤ 255 * 2 ^ 56 := Nat.mul_le_mul (by omega) h2
    have h4 : (255 * 2 ^ 56 : Nat) < 18446744073709551616 := by decide
    omega
  rw [Nat.mod_eq_of_lt h1, Nat.or_comm, Nat.mul_comm b, ← Nat.two_pow_add_eq_or_of_lt hN]
  omega
set_option maxHeartbeats 1000000 in
set_option maxRecDepth 1000000 in
theorem numberOf_any (l : List Int) (hl : l.length = 8) (hb : Bts l) (w : World) :
    Calls Try.prog 30 #[.agg (bC l).toArray] w fun r w' => r = .returned (.int .u64 (numN l : Int)) ∧ Below w.heap.size w w' := by
  have HL : Hid ((Instr.loadAt 59 (.pointer (some ⟨w.heap.size, 0, none⟩))).run Try.prog (w.alloc (.cells (bC l).toArray 59)) = .ok (.agg (bC l).toArray) (w.alloc (.cells (bC l).toArray 59))) := A8.load ⟨heap_alloc_new w _, hl⟩
  have HBW : Hid (Below w.heap.size w (w.alloc (.cells (bC l).toArray 59))) := (Below.refl _ _).alloc (Nat.le_refl _) _
  have HBT : Hid (∀ k, k < 8 → ∃ b : Nat, b < 256 ∧ l.getD k 0 = (b : Int)) := fun k hk => by
    have h1 : k < l.length := by omega
    have h2 := hb l[k] (List.getElem_mem h1)
    refine ⟨l[k].toNat, by omega, ?_⟩
    simp only [List.getD, List.getElem?_eq_getElem h1, Option.getD_some]
    omega
  have HNL : Hid (∀ k, k ≤ 8 → numN (l.take k) < 2 ^ (8 * k)) := fun k hk => by
    have := numN_lt (l.take k) (fun x hx => hb x (List.mem_of_mem_take hx))
    rw [List.length_take, Nat.min_eq_left (by omega)] at this
    rw [Nat.pow_mul]
    exact this
  have HNT : Hid (∀ k, k < 8 → numN (l.take (k + 1)) = numN (l.take k) + (l.getD k 0).toNat * 2 ^ (8 * k)) := fun k hk => numN_take l k (by omega)
  have HIX : Hid (∀ (k : Nat) (W : World), k < 8 → (Instr.index 59 (.agg (bC l).toArray) (.int .i64 (k : Int))).run Try.prog W = .ok (.int .u8 (l.getD k 0)) W) := fun k W hk => ix8 l k hl hk W
  have HFL : Hid (l.take 8 = l) := List.take_of_length_le (by omega)
  clear hl hb
  go_enter Try.func30, Try.ntmps30
  go_wp2_with (refine wp_loadX rfl (.tmp 1) 59 rfl _ rfl _ HL.out ?_)
  obtain ⟨W, hW⟩ : ∃ W, W = w.alloc (.cells (bC l).toArray 59) := ⟨_, rfl⟩
  rw [← hW] at HBW ⊢
  clear hW HL
  go_loopw [3, 7] (fun nv iv wr => ∃ k N : Nat, iv = .int .i64 (k : Int) ∧ nv = .int .u64 (N : Int) ∧ k ≤ 8 ∧ Hid (N = numN (l.take k)) ∧ Hid (wr = W)) (fun _ iv _ => 8 - (intOf iv).toNat)
  case atStart => exact ⟨0, 0, rfl, rfl, by omega, by unfold Hid; rw [List.take_zero]; rfl, rfl⟩
  case round =>
    obtain ⟨k, N, rfl, rfl, hk, HN, HW⟩ := hrel
    by_cases hkl : k < 8
    · have hk1 : (k : Int) < 8 := by omega
      obtain ⟨b, hb1, hb2⟩ := HBT.out k hkl
      have HI : Hid (type_of% (HIX.out k wr hkl)) := HIX.out k wr hkl
      rw [hb2] at HI
      have HMU : Hid (∀ x y, type_of% (mul8 x y k hkl wr)) := fun x y => mul8 x y k hkl wr
      have HSH : Hid (∀ x y, type_of% (shlU x y b (8 * k) (by omega) wr)) := fun x y => shlU x y b (8 * k) (by omega) wr
      have HCV : Hid (type_of% (cvU b (by omega) wr)) := cvU b (by omega) wr
      have hNl : N < 2 ^ (8 * k) := by rw [HN.out]; exact HNL.out k hk
      have hN64 : N ≤ 18446744073709551615 := by
        have h2 : 2 ^ (8 * k) ≤ 2 ^ 64 := Nat.pow_le_pow_right (by decide) (by omega)
        have h3 : (2 ^ 64 : Nat) = 18446744073709551616 := by decide
        omega
      obtain ⟨X, hX⟩ : ∃ X : Nat, X = b * 2 ^ (8 * k) % 18446744073709551616 := ⟨_, rfl⟩
      have hX64 : X ≤ 18446744073709551615 := by rw [hX]; omega
      have HOR : Hid (∀ x y, type_of% (orU x y N X hN64 hX64 wr)) := fun x y => orU x y N X hN64 hX64 wr
      obtain ⟨N2, hN2⟩ : ∃ N2 : Nat, N2 = N ||| X := ⟨_, rfl⟩
      have HN2 : Hid (N2 = numN (l.take (k + 1))) := by
        unfold Hid
        rw [HNT.out k hkl, hb2, Int.toNat_natCast, ← HN.out, hN2, hX]
        exact or_next N b k hNl hb1 hkl
      rw [← hX] at HSH
      rw [← hN2] at HOR
      obtain ⟨j, hj⟩ : ∃ j : Nat, j = 8 * k := ⟨_, rfl⟩
      rw [← hj] at HMU HSH
      have HK1 : Hid (k + 1 ≤ 8) := hkl
      have HK2 : Hid (8 - (k + 1) < 8 - k) := by unfold Hid; omega
      clear hX hN2 hj hNl hN64 hX64 hb1 hb2 HN
      go_wp2_with (first | (refine wp_ixX rfl (.tmp 6) (.tmp 7) 59 rfl _ _ rfl rfl _ HI.out ?_) | (refine wp_binX rfl .mul 3 3 (.const (.int .i64 8)) (.tmp 14) rfl _ _ rfl rfl _ (HMU.out _ _) ?_) | (refine wp_binX rfl .shl 60 3 (.tmp 13) (.tmp 15) rfl _ _ rfl rfl _ (HSH.out _ _) ?_) | (refine wp_binX rfl .or 60 60 (.tmp 11) (.tmp 16) rfl _ _ rfl rfl _ (HOR.out _ _) ?_) | (refine wp_convX rfl (.tmp 12) 5 60 rfl _ rfl _ _ HCV.out ?_))
      go_roundw
      case rel => exact ⟨k + 1, N2, rfl, rfl, HK1.out, HN2, HW⟩
      case measure => exact HK2.out
    · have hk1 : ¬ ((k : Int) < 8) := by omega
      obtain rfl : k = 8 := by omega
      obtain rfl := HW.out
      have HNE : Hid (N = numN l) := by unfold Hid; rw [HN.out, HFL.out]
      go_wp2
      go_ret
      exact ⟨by rw [← HNE.out]; rfl, HBW.out⟩
set_option maxHeartbeats 1000000 in
set_option maxRecDepth 1000000 in
theorem hasSign_no (op : Int) (h : op = 45 ∨ op = 47 ∨ op = 49 ∨ op = 51 ∨ op = 53) (w : World) : Calls Try.prog 31 #[.int .u8 op] w fun r w' => r = .returned (.bool false) ∧ w' = w := by
  rcases h with rfl | rfl | rfl | rfl | rfl
  all_goals
    go_enter Try.func31, Try.ntmps31
    go_wp2
    go_ret
    exact ⟨rfl, rfl⟩
set_option maxHeartbeats 1000000 in
set_option maxRecDepth 1000000 in
theorem hasSign_yes (op : Int) (h : ¬ (op = 45 ∨ op = 47 ∨ op = 49 ∨ op = 51 ∨ op = 53)) (w : World) : Calls Try.prog 31 #[.int .u8 op] w fun r w' => r = .returned (.bool true) ∧ w' = w := by
  have h1 : (op == 45) = false := by rw [beq_eq_false_iff_ne]; omega
  have h2 : (op == 47) = false := by rw [beq_eq_false_iff_ne]; omega
  have h3 : (op == 49) = false := by rw [beq_eq_false_iff_ne]; omega
  have h4 : (op == 51) = false := by rw [beq_eq_false_iff_ne]; omega
  have h5 : (op == 53) = false := by rw [beq_eq_false_iff_ne]; omega
  go_enter Try.func31, Try.ntmps31
  go_wp2
  go_ret
  exact ⟨rfl, rfl⟩
/-- So many bits with their sign. -/
def sgnN (N k : Nat) : Int := wrap64 ((N * 2 ^ k % 18446744073709551616 : Nat) : Int) / 2 ^ k
set_option maxHeartbeats 1000000 in
set_option maxRecDepth 1000000 in
theorem withSign_any (N wd : Nat) (hw : wd = 1 ∨ wd = 2 ∨ wd = 4 ∨ wd = 8) (w : World) : Calls Try.prog 32 #[.int .u64 (N : Int), .int .i64 (wd : Int)] w fun r w' => r = .returned (.int .i64 (sgnN N (8 * (8 - wd)))) ∧ w' = w := by
  have hk : 8 * (8 - wd) ≤ 56 := by omega
  have HSH : Hid (∀ x y, type_of% (shlU x y N (8 * (8 - wd)) (by omega) w)) := fun x y => shlU x y N (8 * (8 - wd)) (by omega) w
  obtain ⟨X, hX⟩ : ∃ X : Nat, X = N * 2 ^ (8 * (8 - wd)) % 18446744073709551616 := ⟨_, rfl⟩
  have HCV : Hid (type_of% (cvI X w)) := cvI X w
  obtain ⟨Y, hY⟩ : ∃ Y : Int, Y = wrap64 (X : Int) := ⟨_, rfl⟩
  have HSR : Hid (∀ x y, type_of% (shrI x y Y (8 * (8 - wd)) hk w)) := fun x y => shrI x y Y (8 * (8 - wd)) hk w
  have HE : Hid (sgnN N (8 * (8 - wd)) = Y / 2 ^ (8 * (8 - wd))) := by unfold Hid sgnN; rw [hY, hX]
  rw [← hX] at HSH
  rw [← hY] at HCV
  obtain ⟨Z, hZ⟩ : ∃ Z : Int, Z = Y / 2 ^ (8 * (8 - wd)) := ⟨_, rfl⟩
  rw [← hZ] at HSR HE
  clear hX hY hZ hk
  rcases hw with rfl | rfl | rfl | rfl
  all_goals
    go_enter Try.func32, Try.ntmps32
    go_wp2_with (first | (refine wp_binX rfl .shl 60 3 (.tmp 9) (.tmp 10) rfl _ _ rfl rfl _ (HSH.out _ _) ?_) | (refine wp_binX rfl .shr 2 3 (.tmp 12) (.tmp 13) rfl _ _ rfl rfl _ (HSR.out _ _) ?_) | (refine wp_convX rfl (.tmp 11) 60 2 rfl _ rfl _ _ HCV.out ?_))
    go_ret
    exact ⟨by rw [HE.out]; rfl, rfl⟩
end Go.Proofs.Ytomiganjagjabaa
