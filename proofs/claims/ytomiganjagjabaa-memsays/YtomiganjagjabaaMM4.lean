/-
  What Of and Grow do.
-/
import Derived.Test.YtomiganjagjabaaMM3
namespace Go.Proofs.Ytomiganjagjabaa
open Go.RowKit

theorem below_drewN {B : Nat} {a w : World} (h : Below B a w) (n : Nat) : Below B a (w.drewN n) := ⟨h.os, h.tape, h.output, h.size, h.block⟩
theorem wrap64_some (q : Nat) (h : q ≤ 140737488355328) : wrap64 (q : Int) = q := by
  unfold wrap64
  rw [Int.emod_eq_of_lt (by omega) (by omega)]
  omega
theorem quoAny (x y : Operand) (a : Nat) (h : a ≤ 140737488355328) (w : World) : (do eqGuard .quo 3 x y (.int .i64 (a : Int)) (.int .i64 256); binOp .quo 3 (.int .i64 (a : Int)) (.int .i64 256) : Sem Value).run Try.prog w = .ok (.int .i64 ((a / 256 : Nat) : Int)) w :=
  quo256 x y a _ (by rw [Int.tdiv_eq_ediv_of_nonneg (by omega)]; rfl) (wrap64_some _ (by omega)) w
theorem remAny (x y : Operand) (a : Nat) (w : World) : (do eqGuard .rem 3 x y (.int .i64 (a : Int)) (.int .i64 256); binOp .rem 3 (.int .i64 (a : Int)) (.int .i64 256) : Sem Value).run Try.prog w = .ok (.int .i64 ((a % 256 : Nat) : Int)) w :=
  rem256 x y a _ (by rw [Int.tmod_eq_emod_of_nonneg (by omega)]; rfl) w
/-- A string is a memory's. -/
def ofOk (s : ByteArray) (most : Int) : Prop := s.size % 256 = 0 ∧ ((s.size / 256 : Nat) : Int) ≤ most ∧ most ≤ 8
set_option maxHeartbeats 1000000 in
set_option maxRecDepth 1000000 in
theorem mof_no (s : ByteArray) (most : Int) (hs : s.size ≤ 140737488355328) (h : ¬ ofOk s most) (w : World) :
    Calls Try.prog 10 #[.string s, .int .i64 most] w fun r w' => r = .returned (.tuple #[.pointer none, .int .i64 1]) ∧ w' = w := by
  have HQ : Hid (type_of% (fun x y => quoAny x y s.size hs w)) := fun x y => quoAny x y s.size hs w
  have HR : Hid (type_of% (fun x y => remAny x y s.size w)) := fun x y => remAny x y s.size w
  obtain ⟨r, hr⟩ : ∃ r, r = s.size % 256 := ⟨_, rfl⟩
  obtain ⟨q, hq⟩ : ∃ q, q = s.size / 256 := ⟨_, rfl⟩
  unfold ofOk at h
  rw [← hr, ← hq] at h
  rw [← hq] at HQ
  rw [← hr] at HR
  clear hr hq
  by_cases h1 : r = 0
  · have HN := mnew_no (q : Int) most (by omega) w
    have hr0 : ((r : Int) == 0) = true := by rw [h1]; rfl
    go_enter Try.func10, Try.ntmps10
    go_wp2_with (first | (refine wp_binX rfl .rem 3 3 (.tmp 9) (.const (.int .i64 256)) rfl _ _ rfl rfl _ (HR.out _ _) ?_) | (refine wp_binX rfl .quo 3 3 (.tmp 14) (.const (.int .i64 256)) rfl _ _ rfl rfl _ (HQ.out _ _) ?_) | (go_at_call 5; refine HN.mono ?_; rintro r w1 ⟨rfl, rfl⟩))
    go_ret2
    exact ⟨rfl, rfl⟩
  · have hr0 : ((r : Int) == 0) = false := by simp; omega
    go_enter Try.func10, Try.ntmps10
    go_wp2_with (refine wp_binX rfl .rem 3 3 (.tmp 9) (.const (.int .i64 256)) rfl _ _ rfl rfl _ (HR.out _ _) ?_)
    go_ret2
    exact ⟨rfl, rfl⟩
set_option maxHeartbeats 1000000 in
set_option maxRecDepth 1000000 in
theorem mof_yes (s : ByteArray) (most : Int) (h : ofOk s most) (w : World) :
    Calls Try.prog 10 #[.string s, .int .i64 most] w fun r w' => r = .returned (.tuple #[.pointer (some ⟨w.heap.size + 1, 0, none⟩), .int .i64 0]) ∧ MB w' (w.heap.size + 1) w.heap.size (s.size / 256) most (nums s) ∧ Below w.heap.size w w' := by
  obtain ⟨h1, h2, h3⟩ := h
  have hs : s.size ≤ 2048 := by omega
  have HQ : Hid (type_of% (fun x y => quoAny x y s.size (by omega) w)) := fun x y => quoAny x y s.size (by omega) w
  have HR : Hid (type_of% (fun x y => remAny x y s.size w)) := fun x y => remAny x y s.size w
  rw [h1] at HR
  obtain ⟨q, hq⟩ : ∃ q, q = s.size / 256 := ⟨_, rfl⟩
  have hsq : s.size = 256 * q := by omega
  rw [← hq] at HQ h2 ⊢
  have HN := mnew_yes q most h2 h3 w
  have HW : Hid (∀ w1, MB w1 (w.heap.size + 1) w.heap.size q most (List.replicate (256 * q) 0) → Below w.heap.size w w1 → ∃ W c, Hid ((convert 9 34 (.string s)).run Try.prog w1 = .ok (.slice (some ⟨w1.heap.size, 0, none⟩) s.size c) W) ∧
      Calls Try.prog 25 #[.pointer (some ⟨w.heap.size + 1, 0, none⟩), .int .i64 0, .slice (some ⟨w1.heap.size, 0, none⟩) s.size c] W fun r w' => r = .returned (.tuple #[]) ∧ MB w' (w.heap.size + 1) w.heap.size q most (nums s) ∧ Below w.heap.size w w') := by
    intro w1 hm hb1
    have hlt := hm.lt
    obtain ⟨⟨cap, L, hm, hb, hby⟩, hn8, hlen⟩ := hm
    obtain ⟨W, c, HCV, hc, hbw, hsz, hcl⟩ := str_row s w1
    have hW := mwrite_any (w.heap.size + 1) w.heap.size q cap most L w1.heap.size 0 s.size c 0 (nums s) W (hm.under hbw) (nums_length s) (by omega) hsz hcl hn8 (by omega) hc
    refine ⟨W, c, HCV, hW.mono ?_⟩
    rintro r w2 ⟨rfl, hc2, hg2⟩
    have := MB.put cap L 0 (hm.under hbw) hb hby hn8 hlen (by rw [nums_length]; omega) (nums_byte s) hc2 hg2
    have e : splice (List.replicate (256 * q) 0) 0 (nums s) = nums s := by
      unfold splice
      rw [List.drop_of_length_le (by simp [nums_length]; omega)]
      simp
    rw [e] at this
    have hbs := hb1.size
    exact ⟨rfl, this, (hb1.trans (hbw.mono (by omega))).trans (hc2.below (Nat.le_refl _) (by have := hbw.size; omega))⟩
  clear h1 h2 h3 hs hq hsq
  go_enter Try.func10, Try.ntmps10
  go_wp2_with (first | (refine wp_binX rfl .rem 3 3 (.tmp 9) (.const (.int .i64 256)) rfl _ _ rfl rfl _ (HR.out _ _) ?_) | (refine wp_binX rfl .quo 3 3 (.tmp 14) (.const (.int .i64 256)) rfl _ _ rfl rfl _ (HQ.out _ _) ?_))
  refine HN.mono ?_
  rintro r w1 ⟨rfl, hm, hb1⟩
  obtain ⟨W, c, HCV, HWR⟩ := HW.out w1 hm hb1
  have HWR : Hid (type_of% HWR) := HWR
  clear hm hb1 HW HQ HR
  go_wp2_with (refine wp_convX rfl (.tmp 24) 9 34 rfl _ rfl _ _ HCV.out ?_)
  refine HWR.out.mono ?_
  rintro r w2 ⟨rfl, hm2, hb2⟩
  have HM2 : Hid (type_of% hm2) := hm2
  have HB2 : Hid (type_of% hb2) := hb2
  clear hm2 hb2 HWR HCV
  go_wp2
  go_ret2
  exact ⟨rfl, HM2.out, HB2.out⟩
end Go.Proofs.Ytomiganjagjabaa
