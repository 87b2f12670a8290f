/-
  What leb.write does with a number without a sign: its bytes, as a string, and nothing that was there has turned.
-/
import Derived.Test.YtdbhdgkbkhjikaaDoorRows
import Derived.Test.YtdbhdgkbkhjikaaDoorMaths
import Derived.WalkKit
import Derived.WalkSpells
namespace Go.Proofs.YtdbhdgkbkhjikaaDoor
open Go.RowKit

theorem Tryd.info5 : (Tryd.prog.info? 5).map (fun i => (i.zero, i.size, i.bytes)) = some (some (.int .u8 0), 1, 1) := by kernel_rfl

set_option maxHeartbeats 400000 in
theorem fitsU_yes (n : Int) (w : World) (h : n < 128) :
    Calls Tryd.prog 89 #[.int .u64 n] w fun e w' => e = .returned (.bool true) ∧ w' = w := by
  go_enter Tryd.func89, Tryd.ntmps89
  go_wp2
  go_ret
  exact ⟨by simp, rfl⟩
set_option maxHeartbeats 400000 in
theorem fitsU_no (n : Int) (w : World) (h : ¬ n < 128) :
    Calls Tryd.prog 89 #[.int .u64 n] w fun e w' => e = .returned (.bool false) ∧ w' = w := by
  go_enter Tryd.func89, Tryd.ntmps89
  go_wp2
  go_ret
  exact ⟨by simp, rfl⟩

theorem own_string {w : World} {base n : Nat} {v : Value} {ns : List Int} (h : w.ownsRow base 5 1 v (n + 1) (ns.map (Value.int .u8))) :
    ∃ g cap, v = .slice (some ⟨g, 0, none⟩) (n + 1) cap ∧ (convert 75 9 (.slice (some ⟨g, 0, none⟩) (n + 1) cap)).run Tryd.prog w = .ok (.string (strOfNums ns)) w := by
  have hc := fun g hg => World.ownsRow.cells h (g := g) hg
  obtain ⟨hl, h2⟩ := h
  rcases h2 with ⟨_, h0⟩ | ⟨g, cap, cur, rfl, hb, hg, hle, hcap, hcs, htk⟩
  · omega
  · refine ⟨g, cap, rfl, ?_⟩
    refine run_convert_bytes_arg w 75 5 Tryd.underlying75 Tryd.underlying5 g 0 (n + 1) cap ns (by simpa using hl) ?_ 9 Tryd.underlying9
    intro i hi
    have hil : i < ns.length := by simp at hl; omega
    have := hc g rfl i (.int .u8 (ns.getD i 0)) (by simp [List.getElem?_eq_getElem hil])
    have hadd : (⟨g, 0, none⟩ : Addr).add i = ⟨g, 0 + i, none⟩ := by unfold Addr.add; split <;> simp_all
    rw [hadd] at this
    exact this

set_option maxHeartbeats 400000 in
set_option maxRecDepth 1000000 in
theorem writeU_any (n : Nat) (hn : n ≤ 18446744073709551615) (w : World) :
    Calls Tryd.prog 88 #[.int .u64 n, .func (.func 89) #[] #[]] w fun e w' => e = .returned (.string (strOfNums (uB n))) ∧ Below w.heap.size w w' := by
  obtain ⟨i0, hi, hz0, hz1, hz2⟩ := info_parts Tryd.info5
  go_enter Tryd.func88, Tryd.ntmps88
  go_wp2
  go_loopw [0, 5] (fun t v wr => ∃ m : Nat, ∃ pre : List Int, t = .int .u64 m ∧ m ≤ 18446744073709551615 ∧ pre.length + (uB m).length ≤ 10 ∧ Hid (pre ++ uB m = uB n) ∧
      wr.ownsRow w.heap.size 5 1 v pre.length (pre.map (Value.int .u8)) ∧ Below w.heap.size w wr) (fun t _ _ => (intOf t).toNat)
  case atStart => exact ⟨n, [], rfl, hn, by simpa using uB_len64 n hn, by unfold Hid; simp, World.ownsRow_nil _ _ _ _, Below.refl _ _⟩
  case round =>
    obtain ⟨m, pre, rfl, hm, hlen, hpre, hown, hnx⟩ := hrel
    have hp := uB_pos m
    have hand := and127_u64 m hm
    have hor : bits BinOp.or IntKind.u8 ((m : Int) % 128) 128 = (m : Int) % 128 + 128 := u8_or128_right _ (by omega) (by omega)
    have hsz := hnx.size
    by_cases hlt : m < 128
    · go_wp2_with (first | (go_at_call 89; refine (fitsU_yes _ _ (by omega)).mono ?_; rintro e w' ⟨rfl, rfl⟩) | (at_builtin; refine wpList_append_own _ rfl _ _ 75 rfl w.heap.size 5 i0 (.int .u8 0) 1 1 Tryd.underlying75 hi hz0 hz1 hz2 rfl (by decide) _ _ _ rfl (hown.alloc _) ⟨_, 0, none⟩ 1 1 [.int .u8 ((m : Int) % 128)] rfl rfl ?c1 ?c2 ?c3 ?c4 ?c5 ?_))
      case c1 => exact cell_one_new _ _ _
      case c2 => intro u hu; simp at hu; subst hu; rfl
      case c3 => unfold maxLen; omega
      case c4 => omega
      case c5 => simp; omega
      · intro v' w1 hown' hgrow _
        have hown2 : w1.ownsRow w.heap.size 5 1 v' (pre.length + 1) ((pre ++ [(m : Int) % 128]).map (Value.int .u8)) := by simpa using hown'
        obtain ⟨g, cap, rfl, hconv⟩ := own_string hown2
        have hb : Below w.heap.size w w1 := (hnx.alloc (by omega) _).grown hgrow (by simp; omega) (fun k hk => (hown.lt k hk).1)
        have hfin : Hid (pre ++ [(m : Int) % 128] = uB n) := by unfold Hid; rw [← hpre.out, uB_lo hlt]; congr 2; omega
        clear hown' hown2 hgrow hown hnx hpre hand hor
        go_wp2
        go_ret
        exact ⟨by rw [hfin.out]; rfl, hb⟩
    · go_wp2_with (first | (go_at_call 89; refine (fitsU_no _ _ (by omega)).mono ?_; rintro e w' ⟨rfl, rfl⟩) | (at_builtin; refine wpList_append_own _ rfl _ _ 75 rfl w.heap.size 5 i0 (.int .u8 0) 1 1 Tryd.underlying75 hi hz0 hz1 hz2 rfl (by decide) _ _ _ rfl (hown.alloc _) ⟨_, 0, none⟩ 1 1 [.int .u8 ((m : Int) % 128 + 128)] rfl rfl ?c1 ?c2 ?c3 ?c4 ?c5 ?_))
      case c1 => exact cell_one_new _ _ _
      case c2 => intro u hu; simp at hu; subst hu; rfl
      case c3 => unfold maxLen; omega
      case c4 => omega
      case c5 => simp; omega
      · intro v' w1 hown' hgrow _
        have hown2 : w1.ownsRow w.heap.size 5 1 v' (pre ++ [(m : Int) % 128 + 128]).length ((pre ++ [(m : Int) % 128 + 128]).map (Value.int .u8)) := by simpa using hown'
        have hb : Below w.heap.size w w1 := (hnx.alloc (by omega) _).grown hgrow (by simp; omega) (fun k hk => (hown.lt k hk).1)
        have hfin : Hid (pre ++ [(m : Int) % 128 + 128] ++ uB (m / 128) = uB n) := by unfold Hid; rw [← hpre.out, uB_hi hlt]; simp
        have hl2 : (uB m).length = (uB (m / 128)).length + 1 := by rw [uB_hi hlt]; simp
        have hl3 : (pre ++ [(m : Int) % 128 + 128]).length + (uB (m / 128)).length ≤ 10 := by simp; omega
        clear hown' hgrow hown hnx hpre hand hor hl2
        go_wp2
        go_roundw
        case rel => exact ⟨m / 128, _, by go_num, by omega, hl3, hfin, hown2, hb⟩
        case measure => simp [intOf]; omega
end Go.Proofs.YtdbhdgkbkhjikaaDoor
