/-
  MemApart, walked: stores that do not meet may be done in any order.
-/
import Derived.Test.YtcmjmodpbgljjaaMM9
namespace Go.Proofs.Ytcmjmodpbgljjaa
open Go.RowKit

set_option maxHeartbeats 1000000 in
set_option maxRecDepth 1000000 in
theorem apart_none (B : ByteArray) (x y v u : Int) (hB : B.size ≤ 140737488355328) (h : ¬ ofOk B 8) (w : World) :
    Calls Try.prog 6 #[.string B, .int .i64 x, .int .i64 y, .int .i64 v, .int .i64 u] w fun r w' => r = .returned (.bool true) ∧ Below w.heap.size w w' := by
  have HO : Hid (∀ w, type_of% (mof_no B 8 hB h w)) := fun w => mof_no B 8 hB h w
  clear h
  go_enter Try.func6, Try.ntmps6
  go_wp2_with (go_at_call 15; refine (HO.out _).mono ?_; rintro r w1 ⟨rfl, rfl⟩)
  go_ret
  exact ⟨rfl, Below.refl _ _⟩
/-- Two memories of one string. -/
structure Two (w w' : World) (n : Nat) (a c : List Int) (p : Nat) : Prop where
  m : MB w' (w.heap.size + 1) w.heap.size n 8 a
  n : MB w' (p + 1) p n 8 c
  lt : w.heap.size + 1 < p
  below : Below w.heap.size w w'
theorem Two.first {w w1 w2 : World} {n p : Nat} {a c d : List Int} (h : Two w w1 n a c p) (hm : MB w2 (w.heap.size + 1) w.heap.size n 8 d) (hc : Chg w.heap.size w1 w2) : Two w w2 n d c p :=
  ⟨hm, h.n.keep hc (by have := h.lt; omega) (by have := h.lt; omega), h.lt, h.below.trans (hc.below (Nat.le_refl _) (by have := h.below.size; omega))⟩
theorem Two.second {w w1 w2 : World} {n p : Nat} {a c d : List Int} (h : Two w w1 n a c p) (hm : MB w2 (p + 1) p n 8 d) (hc : Chg p w1 w2) : Two w w2 n a d p :=
  ⟨h.m.keep hc (by have := h.lt; omega) (by have := h.lt; omega), hm, h.lt, h.below.trans (hc.below (by have := h.lt; omega) (by have := h.below.size; omega))⟩
theorem Two.under {w w1 w2 : World} {n p : Nat} {a c : List Int} (h : Two w w1 n a c p) (hb : Below w1.heap.size w1 w2) : Two w w2 n a c p :=
  ⟨h.m.under hb, h.n.under hb, h.lt, h.below.trans (hb.mono (by have := h.below.size; omega))⟩
theorem Two.made {w w1 w2 : World} {n : Nat} {a : List Int} (h1 : MB w1 (w.heap.size + 1) w.heap.size n 8 a) (hb1 : Below w.heap.size w w1) (h2 : MB w2 (w1.heap.size + 1) w1.heap.size n 8 a) (hb2 : Below w1.heap.size w1 w2) : Two w w2 n a a w1.heap.size :=
  ⟨h1.under hb2, h2, h1.lt.1, hb1.trans (hb2.mono (by have := hb1.size; omega))⟩
theorem Two.len {w w1 : World} {n p : Nat} {a c : List Int} (h : Two w w1 n a c p) : a.length = 256 * n := h.m.len
set_option maxHeartbeats 2000000 in
set_option maxRecDepth 1000000 in
theorem apart_meet (B : ByteArray) (x y v u : Int) (h : ofOk B 8) (hd : restN x < restN y + 8 ∧ restN y < restN x + 8) (w : World) :
    Calls Try.prog 6 #[.string B, .int .i64 x, .int .i64 y, .int .i64 v, .int .i64 u] w fun r w' => r = .returned (.bool true) ∧ Below w.heap.size w w' := by
  have HO : Hid (∀ w, type_of% (mof_yes B 8 h w)) := fun w => mof_yes B 8 h w
  have HX : Hid (∀ w, type_of% (rest_any x w)) := fun w => rest_any x w
  have HY : Hid (∀ w, type_of% (rest_any y w)) := fun w => rest_any y w
  have hx := restN_lt x
  have hy := restN_lt y
  obtain ⟨a, ha⟩ : ∃ a, a = restN x := ⟨_, rfl⟩
  obtain ⟨c, hc⟩ : ∃ c, c = restN y := ⟨_, rfl⟩
  rw [← ha] at HX hx hd
  rw [← hc] at HY hy hd
  obtain ⟨n, hn⟩ : ∃ n, n = B.size / 256 := ⟨_, rfl⟩
  rw [← hn] at HO
  have h1 : (a : Int) < (c : Int) + 8 := by omega
  have h2 : (c : Int) < (a : Int) + 8 := by omega
  clear h ha hc hn hd
  go_enter Try.func6, Try.ntmps6
  go_wp2_with fail
  refine (HO.out _).mono ?_
  rintro r w1 ⟨rfl, hm, hb1⟩
  have HM : Hid (type_of% hm) := hm
  have HB1 : Hid (type_of% hb1) := hb1
  clear hm hb1
  go_wp2_with fail
  refine (HO.out _).mono ?_
  rintro r w2 ⟨rfl, hm, hb1⟩
  have HT : Hid (type_of% (Two.made HM.out HB1.out hm hb1)) := Two.made HM.out HB1.out hm hb1
  clear hm hb1 HM HB1
  go_wp2_with fail
  refine (HX.out _).mono ?_
  rintro r w3 ⟨rfl, rfl⟩
  go_wp2_with fail
  refine (HY.out _).mono ?_
  rintro r w3 ⟨rfl, rfl⟩
  go_wp2_with fail
  go_ret
  exact ⟨rfl, HT.out.below⟩
set_option maxHeartbeats 2000000 in
set_option maxRecDepth 1000000 in
theorem apart_yes (B : ByteArray) (x y v u : Int) (h : ofOk B 8) (hd : restN x + 8 ≤ restN y ∨ restN y + 8 ≤ restN x) (w : World) :
    Calls Try.prog 6 #[.string B, .int .i64 x, .int .i64 y, .int .i64 v, .int .i64 u] w fun r w' => r = .returned (.bool true) ∧ Below w.heap.size w w' := by
  have HO : Hid (∀ w, type_of% (mof_yes B 8 h w)) := fun w => mof_yes B 8 h w
  have HX : Hid (∀ w, type_of% (rest_any x w)) := fun w => rest_any x w
  have HY : Hid (∀ w, type_of% (rest_any y w)) := fun w => rest_any y w
  have hx := restN_lt x
  have hy := restN_lt y
  obtain ⟨a, ha⟩ : ∃ a, a = restN x := ⟨_, rfl⟩
  obtain ⟨c, hc⟩ : ∃ c, c = restN y := ⟨_, rfl⟩
  rw [← ha] at HX hx hd
  rw [← hc] at HY hy hd
  obtain ⟨n, hn⟩ : ∃ n, n = B.size / 256 := ⟨_, rfl⟩
  rw [← hn] at HO
  have HS : Hid (∀ (P g : Nat) (b : List Int) (z : Int) (s : Nat), s < 2100 → ∀ w1, MB w1 P g n 8 b → Calls Try.prog 17 #[.pointer (some ⟨P, 0, none⟩), .int .u8 55, .int .i64 (s : Int), .int .i64 0, .int .i64 z] w1 fun r w' => r = .returned (.int .i64 (stC b s 8)) ∧ MB w' P g n 8 (stB b s 8 z) ∧ Chg g w1 w') := fun P g b z s hs w1 h1 =>
    mstore_gen P g n 8 b 55 s z s 0 8 (by decide) (by decide) (by decide) (by decide) (by omega) (by decide) w1 h1
  have HA : Hid (∀ (P g : Nat) (b : List Int) (w1 : World), type_of% (mall_any P g n 8 b w1)) := fun P g b w1 => mall_any P g n 8 b w1
  have l1 : (stB (nums B) a 8 v).length = (nums B).length := stB_len _ _ _ _ (by decide)
  have l2 : (stB (nums B) c 8 u).length = (nums B).length := stB_len _ _ _ _ (by decide)
  have HC1 : Hid (stC (stB (nums B) a 8 v) c 8 = stC (nums B) c 8) := by unfold Hid stC; rw [l1]
  have HC2 : Hid (stC (stB (nums B) c 8 u) a 8 = stC (nums B) a 8) := by unfold Hid stC; rw [l2]
  have HE : Hid (stB (stB (nums B) a 8 v) c 8 u = stB (stB (nums B) c 8 u) a 8 v) := stB_comm _ _ _ _ _ hd
  obtain ⟨A, hA⟩ : ∃ A, A = strOfNums (stB (stB (nums B) c 8 u) a 8 v) := ⟨_, rfl⟩
  have hAs : A.size = B.size := by rw [hA, str_size, stB_len _ _ _ _ (by decide), l2, nums_length]
  have HAA : Hid (strOfNums (stB (stB (nums B) c 8 u) a 8 v) = A) := hA.symm
  have h1 : (a : Int) < (c : Int) + 8 → ¬ (c : Int) < (a : Int) + 8 := by omega
  obtain ⟨e1, he1⟩ : ∃ e1, e1 = stC (nums B) a 8 := ⟨_, rfl⟩
  obtain ⟨e2, he2⟩ : ∃ e2, e2 = stC (nums B) c 8 := ⟨_, rfl⟩
  have HE1 : Hid (stC (nums B) a 8 = e1) := he1.symm
  have HE2 : Hid (stC (nums B) c 8 = e2) := he2.symm
  have HXL : Hid (a < 2100) := hx
  have HYL : Hid (c < 2100) := hy
  clear h ha hc hn hd l1 l2 hA he1 he2
  by_cases hac : (a : Int) < (c : Int) + 8
  · have hca := h1 hac
    clear h1
    go_enter Try.func6, Try.ntmps6
    go_wp2_with fail
    refine (HO.out _).mono ?_
    rintro r w1 ⟨rfl, hm, hb1⟩
    have HM : Hid (type_of% hm) := hm
    have HB1 : Hid (type_of% hb1) := hb1
    clear hm hb1
    go_wp2_with fail
    refine (HO.out _).mono ?_
    rintro r w2 ⟨rfl, hm, hb1⟩
    have HT : Hid (type_of% (Two.made HM.out HB1.out hm hb1)) := Two.made HM.out HB1.out hm hb1
    clear hm hb1 HM HB1
    go_wp2_with fail
    refine (HX.out _).mono ?_
    rintro r w3 ⟨rfl, rfl⟩
    go_wp2_with fail
    refine (HY.out _).mono ?_
    rintro r w3 ⟨rfl, rfl⟩
    go_wp2_with fail
    refine (HS.out _ _ _ _ _ HXL.out _ HT.out.m).mono ?_
    rintro r w4 ⟨rfl, hm, hc⟩
    have HT2 : Hid (type_of% (HT.out.first hm hc)) := HT.out.first hm hc
    rw [HE1.out]
    clear hm hc HT
    go_wp2_with fail
    refine (HS.out _ _ _ _ _ HYL.out _ HT2.out.m).mono ?_
    rintro r w5 ⟨rfl, hm, hc⟩
    have HT3 : Hid (type_of% (HT2.out.first hm hc)) := HT2.out.first hm hc
    rw [HC1.out, HE2.out]
    clear hm hc HT2
    go_wp2_with fail
    refine (HS.out _ _ _ _ _ HYL.out _ HT3.out.n).mono ?_
    rintro r w6 ⟨rfl, hm, hc⟩
    have HT4 : Hid (type_of% (HT3.out.second hm hc)) := HT3.out.second hm hc
    rw [HE2.out]
    clear hm hc HT3
    go_wp2_with fail
    refine (HS.out _ _ _ _ _ HXL.out _ HT4.out.n).mono ?_
    rintro r w7 ⟨rfl, hm, hc⟩
    have HT5 : Hid (type_of% (HT4.out.second hm hc)) := HT4.out.second hm hc
    rw [HC2.out, HE1.out]
    rw [HE.out] at HT5
    clear hm hc HT4
    go_wp2_with fail
    refine (HA.out _ _ _ _ HT5.out.m).mono ?_
    rintro r w8 ⟨rfl, hb8⟩
    have HT6 : Hid (type_of% (HT5.out.under hb8)) := HT5.out.under hb8
    rw [HAA.out]
    clear hb8 HT5
    go_wp2_with fail
    refine (HA.out _ _ _ _ HT6.out.n).mono ?_
    rintro r w9 ⟨rfl, hb9⟩
    have HT7 : Hid (type_of% (HT6.out.under hb9)) := HT6.out.under hb9
    rw [HAA.out]
    clear hb9 HT6
    go_wp2_with fail
    refine (HA.out _ _ _ _ HT7.out.m).mono ?_
    rintro r w10 ⟨rfl, hb10⟩
    have HT8 : Hid (type_of% (HT7.out.under hb10)) := HT7.out.under hb10
    rw [HAA.out]
    clear hb10 HT7
    go_wp2
    go_ret
    exact ⟨rfl, HT8.out.below⟩
  · clear h1
    go_enter Try.func6, Try.ntmps6
    go_wp2_with fail
    refine (HO.out _).mono ?_
    rintro r w1 ⟨rfl, hm, hb1⟩
    have HM : Hid (type_of% hm) := hm
    have HB1 : Hid (type_of% hb1) := hb1
    clear hm hb1
    go_wp2_with fail
    refine (HO.out _).mono ?_
    rintro r w2 ⟨rfl, hm, hb1⟩
    have HT : Hid (type_of% (Two.made HM.out HB1.out hm hb1)) := Two.made HM.out HB1.out hm hb1
    clear hm hb1 HM HB1
    go_wp2_with fail
    refine (HX.out _).mono ?_
    rintro r w3 ⟨rfl, rfl⟩
    go_wp2_with fail
    refine (HY.out _).mono ?_
    rintro r w3 ⟨rfl, rfl⟩
    go_wp2_with fail
    refine (HS.out _ _ _ _ _ HXL.out _ HT.out.m).mono ?_
    rintro r w4 ⟨rfl, hm, hc⟩
    have HT2 : Hid (type_of% (HT.out.first hm hc)) := HT.out.first hm hc
    rw [HE1.out]
    clear hm hc HT
    go_wp2_with fail
    refine (HS.out _ _ _ _ _ HYL.out _ HT2.out.m).mono ?_
    rintro r w5 ⟨rfl, hm, hc⟩
    have HT3 : Hid (type_of% (HT2.out.first hm hc)) := HT2.out.first hm hc
    rw [HC1.out, HE2.out]
    clear hm hc HT2
    go_wp2_with fail
    refine (HS.out _ _ _ _ _ HYL.out _ HT3.out.n).mono ?_
    rintro r w6 ⟨rfl, hm, hc⟩
    have HT4 : Hid (type_of% (HT3.out.second hm hc)) := HT3.out.second hm hc
    rw [HE2.out]
    clear hm hc HT3
    go_wp2_with fail
    refine (HS.out _ _ _ _ _ HXL.out _ HT4.out.n).mono ?_
    rintro r w7 ⟨rfl, hm, hc⟩
    have HT5 : Hid (type_of% (HT4.out.second hm hc)) := HT4.out.second hm hc
    rw [HC2.out, HE1.out]
    rw [HE.out] at HT5
    clear hm hc HT4
    go_wp2_with fail
    refine (HA.out _ _ _ _ HT5.out.m).mono ?_
    rintro r w8 ⟨rfl, hb8⟩
    have HT6 : Hid (type_of% (HT5.out.under hb8)) := HT5.out.under hb8
    rw [HAA.out]
    clear hb8 HT5
    go_wp2_with fail
    refine (HA.out _ _ _ _ HT6.out.n).mono ?_
    rintro r w9 ⟨rfl, hb9⟩
    have HT7 : Hid (type_of% (HT6.out.under hb9)) := HT6.out.under hb9
    rw [HAA.out]
    clear hb9 HT6
    go_wp2_with fail
    refine (HA.out _ _ _ _ HT7.out.m).mono ?_
    rintro r w10 ⟨rfl, hb10⟩
    have HT8 : Hid (type_of% (HT7.out.under hb10)) := HT7.out.under hb10
    rw [HAA.out]
    clear hb10 HT7
    go_wp2
    go_ret
    exact ⟨rfl, HT8.out.below⟩
theorem memApart_walk (B : ByteArray) (x y v u : Int) (hB : B.size ≤ 140737488355328) (_h1 : -9223372036854775808 ≤ x ∧ x ≤ 9223372036854775807) (_h2 : -9223372036854775808 ≤ y ∧ y ≤ 9223372036854775807) (_h3 : -9223372036854775808 ≤ v ∧ v ≤ 9223372036854775807) (_h4 : -9223372036854775808 ≤ u ∧ u ≤ 9223372036854775807) (w : World) :
    Calls Try.prog 6 #[.string B, .int .i64 x, .int .i64 y, .int .i64 v, .int .i64 u] w fun r w' => r = .returned (.bool true) ∧ Below w.heap.size w w' := by
  by_cases h : ofOk B 8
  · by_cases hd : restN x < restN y + 8 ∧ restN y < restN x + 8
    · exact apart_meet B x y v u h hd w
    · exact apart_yes B x y v u h (by omega) w
  · exact apart_none B x y v u hB h w
end Go.Proofs.Ytcmjmodpbgljjaa
