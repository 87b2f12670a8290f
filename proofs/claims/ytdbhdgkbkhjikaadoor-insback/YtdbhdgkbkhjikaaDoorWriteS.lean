/-
  What U and S do: the number's bytes are handed back as a string, and nothing that was there has turned.
-/
import Derived.Test.YtdbhdgkbkhjikaaDoorWrite
import Derived.Deep.QuietTactic
import Derived.BigQuiet
namespace Go.Proofs.YtdbhdgkbkhjikaaDoor
open Go.RowKit

set_option maxHeartbeats 400000 in
theorem fitsS_yes (n : Int) (w : World) (h0 : -64 ≤ n) (h : n < 64) :
    Calls Tryd.prog 72 #[.int .i64 n] w fun e w' => e = .returned (.bool true) ∧ w' = w := by
  go_enter Tryd.func72, Tryd.ntmps72
  go_wp2
  go_ret
  exact ⟨by simp, rfl⟩
set_option maxHeartbeats 400000 in
theorem fitsS_no (n : Int) (w : World) (h : ¬ (-64 ≤ n ∧ n < 64)) :
    Calls Tryd.prog 72 #[.int .i64 n] w fun e w' => e = .returned (.bool false) ∧ w' = w := by
  by_cases h0 : -64 ≤ n
  · have h1 : ¬ n < 64 := by omega
    clear h
    go_enter Tryd.func72, Tryd.ntmps72
    go_wp2
    go_ret
    exact ⟨by simp, rfl⟩
  · clear h
    go_enter Tryd.func72, Tryd.ntmps72
    go_wp2
    go_ret
    exact ⟨by simp, rfl⟩

set_option maxHeartbeats 400000 in
set_option maxRecDepth 1000000 in
theorem writeS_any (n : Int) (hn1 : -9223372036854775808 ≤ n) (hn2 : n ≤ 9223372036854775807) (w : World) :
    Calls Tryd.prog 71 #[.int .i64 n, .func (.func 72) #[] #[]] w fun e w' => e = .returned (.string (strOfNums (sB n))) ∧ Below w.heap.size w w' := by
  obtain ⟨i0, hi, hz0, hz1, hz2⟩ := info_parts Tryd.info5
  go_enter Tryd.func71, Tryd.ntmps71
  go_wp2
  go_loopw [0, 5] (fun t v wr => ∃ m : Int, ∃ pre : List Int, t = .int .i64 m ∧ -9223372036854775808 ≤ m ∧ m ≤ 9223372036854775807 ∧ pre.length + (sB m).length ≤ 10 ∧ Hid (pre ++ sB m = sB n) ∧
      wr.ownsRow w.heap.size 5 1 v pre.length (pre.map (Value.int .u8)) ∧ Below w.heap.size w wr) (fun t _ _ => (intOf t).natAbs)
  case atStart => exact ⟨n, [], rfl, hn1, hn2, by simpa using sB_len64 n hn1 hn2, by unfold Hid; simp, World.ownsRow_nil _ _ _ _, Below.refl _ _⟩
  case round =>
    obtain ⟨m, pre, rfl, hm1, hm2, hlen, hpre, hown, hnx⟩ := hrel
    have hp := sB_pos m
    have hand := i64_and127 m
    have hor : bits BinOp.or IntKind.u8 (m % 128) 128 = m % 128 + 128 := u8_or128_right _ (by omega) (by omega)
    have hsz := hnx.size
    by_cases hlt : -64 ≤ m ∧ m < 64
    · go_wp2_with (first | (go_at_call 72; refine (fitsS_yes _ _ hlt.1 hlt.2).mono ?_; rintro e w' ⟨rfl, rfl⟩) | (at_builtin; refine wpList_append_own _ rfl _ _ 75 rfl w.heap.size 5 i0 (.int .u8 0) 1 1 Tryd.underlying75 hi hz0 hz1 hz2 rfl (by decide) _ _ _ rfl (hown.alloc _) ⟨_, 0, none⟩ 1 1 [.int .u8 (m % 128)] rfl rfl ?c1 ?c2 ?c3 ?c4 ?c5 ?_))
      case c1 => exact cell_one_new _ _ _
      case c2 => intro u hu; simp at hu; subst hu; rfl
      case c3 => unfold maxLen; omega
      case c4 => omega
      case c5 => simp; omega
      · intro v' w1 hown' hgrow _
        have hown2 : w1.ownsRow w.heap.size 5 1 v' (pre.length + 1) ((pre ++ [m % 128]).map (Value.int .u8)) := by simpa using hown'
        obtain ⟨g, cap, rfl, hconv⟩ := own_string hown2
        have hb : Below w.heap.size w w1 := (hnx.alloc (by omega) _).grown hgrow (by simp; omega) (fun k hk => (hown.lt k hk).1)
        have hfin : Hid (pre ++ [m % 128] = sB n) := by unfold Hid; rw [← hpre.out, sB_lo hlt]
        clear hown' hown2 hgrow hown hnx hpre hand hor
        go_wp2
        go_ret
        exact ⟨by rw [hfin.out]; rfl, hb⟩
    · go_wp2_with (first | (go_at_call 72; refine (fitsS_no _ _ hlt).mono ?_; rintro e w' ⟨rfl, rfl⟩) | (at_builtin; refine wpList_append_own _ rfl _ _ 75 rfl w.heap.size 5 i0 (.int .u8 0) 1 1 Tryd.underlying75 hi hz0 hz1 hz2 rfl (by decide) _ _ _ rfl (hown.alloc _) ⟨_, 0, none⟩ 1 1 [.int .u8 (m % 128 + 128)] rfl rfl ?c1 ?c2 ?c3 ?c4 ?c5 ?_))
      case c1 => exact cell_one_new _ _ _
      case c2 => intro u hu; simp at hu; subst hu; rfl
      case c3 => unfold maxLen; omega
      case c4 => omega
      case c5 => simp; omega
      · intro v' w1 hown' hgrow _
        have hown2 : w1.ownsRow w.heap.size 5 1 v' (pre ++ [m % 128 + 128]).length ((pre ++ [m % 128 + 128]).map (Value.int .u8)) := by simpa using hown'
        have hb : Below w.heap.size w w1 := (hnx.alloc (by omega) _).grown hgrow (by simp; omega) (fun k hk => (hown.lt k hk).1)
        have hfin : Hid (pre ++ [m % 128 + 128] ++ sB (m / 128) = sB n) := by unfold Hid; rw [← hpre.out, sB_hi hlt]; simp
        have hl2 : (sB m).length = (sB (m / 128)).length + 1 := by rw [sB_hi hlt]; simp
        have hl3 : (pre ++ [m % 128 + 128]).length + (sB (m / 128)).length ≤ 10 := by simp; omega
        clear hown' hgrow hown hnx hpre hand hor hl2
        go_wp2
        go_roundw
        case rel => exact ⟨m / 128, _, by go_num, by omega, by omega, hl3, hfin, hown2, hb⟩
        case measure => simp [intOf]; omega

set_option maxHeartbeats 400000 in
theorem u_any (n : Nat) (hn : n ≤ 18446744073709551615) (w : World) :
    Calls Tryd.prog 70 #[.int .u64 n] w fun e w' => e = .returned (.string (strOfNums (uB n))) ∧ Below w.heap.size w w' := by
  go_enter Tryd.func70, Tryd.ntmps70
  go_wp2_with (go_at_call 88; refine (writeU_any n hn _).mono ?_; rintro e w' ⟨rfl, hb⟩)
  go_ret
  exact ⟨rfl, hb⟩
set_option maxHeartbeats 400000 in
theorem s_any (n : Int) (hn1 : -9223372036854775808 ≤ n) (hn2 : n ≤ 9223372036854775807) (w : World) :
    Calls Tryd.prog 50 #[.int .i64 n] w fun e w' => e = .returned (.string (strOfNums (sB n))) ∧ Below w.heap.size w w' := by
  go_enter Tryd.func50, Tryd.ntmps50
  go_wp2_with (go_at_call 71; refine (writeS_any n hn1 hn2 _).mono ?_; rintro e w' ⟨rfl, hb⟩)
  go_ret
  exact ⟨rfl, hb⟩
end Go.Proofs.YtdbhdgkbkhjikaaDoor
