/-
  What the document's Load does.
-/
import Derived.Test.YtomiganjagjabaaMD8
import Derived.Test.YtomiganjagjabaaMD1
namespace Go.Proofs.Ytomiganjagjabaa
open Go.RowKit

theorem mulW (x y : Operand) (k : Nat) (hk : k ≤ 8) (w : World) : (do eqGuard .mul 3 x y (.int .i64 8) (.int .i64 (k : Int)); binOp .mul 3 (.int .i64 8) (.int .i64 (k : Int)) : Sem Value).run Try.prog w = .ok (.int .i64 ((8 * k : Nat) : Int)) w := by
  simp [go_sem]
  rw [IntKind.wrap_i64, Int.emod_eq_of_lt (by omega) (by omega)]
  omega
set_option maxHeartbeats 2000000 in
set_option maxRecDepth 1000000 in
theorem dload_yes (Q q : Nat) (most : Int) (b : List Int) (op wd a : Nat) (base off : Int) (hw4 : wd = 1 ∨ wd = 2 ∨ wd = 4 ∨ wd = 8) (hfit : a + wd ≤ b.length) (w : World) (h : DM w Q q most b)
    (HP : Calls Try.prog 33 #[.pointer (some ⟨Q, 0, none⟩), .int .u8 (op : Int), .bool false, .int .i64 base, .int .i64 off] w fun r w'' => r = .returned (.tuple #[.int .i64 (a : Int), .int .i64 (wd : Int), .int .i64 0]) ∧ Below w.heap.size w w'') :
    Calls Try.prog 14 #[.pointer (some ⟨Q, 0, none⟩), .int .u8 (op : Int), .int .i64 base, .int .i64 off] w fun r w' => r = .returned (.tuple #[.int .i64 (ldV (op : Int) wd (numN ((b.drop a).take wd))), .int .i64 0]) ∧ Below w.heap.size w w' := by
  obtain ⟨i0, hi0, hz0, hz1, hz2⟩ := info_parts Try.infoBool
  have hfew := h.few
  obtain ⟨d, hd⟩ : ∃ d, d = (b.drop a).take wd := ⟨_, rfl⟩
  have hdl : d.length = wd := by rw [hd, List.length_take, List.length_drop]; omega
  have hdb : Bts d := by rw [hd]; exact fun x hx => h.byte x (List.mem_of_mem_drop (List.mem_of_mem_take hx))
  have hdg : ∀ j, j < wd → b.getD (a + j) 0 = d.getD j 0 := fun j hj => by
    rw [hd]
    simp [List.getD, List.getElem?_take_of_lt hj]
  obtain ⟨N, hN⟩ : ∃ N, N = numN d := ⟨_, rfl⟩
  have hNl : N < 2 ^ (8 * wd) := by
    have := numN_lt d hdb
    rw [hdl] at this
    rw [hN, Nat.pow_mul]
    exact this
  rw [← hd, ← hN]
  have HBIT : Hid (∀ k, k < 8 * wd → ∃ x y : Nat, x < 256 ∧ b.getD (a + k / 8) 0 = (x : Int) ∧ y = x / 2 ^ (k % 8) % 2 ∧ ((y : Int) == 1) = bitAt (N : Int) k) := fun k hk => by
    have hj : k / 8 < wd := by omega
    have hjd : k / 8 < d.length := by omega
    have hb := hdb d[k / 8] (List.getElem_mem hjd)
    have e0 : d.getD (k / 8) 0 = d[k / 8] := by simp [List.getD, List.getElem?_eq_getElem hjd]
    refine ⟨(d.getD (k / 8) 0).toNat, _, by rw [e0]; omega, by rw [hdg _ hj, e0]; omega, rfl, ?_⟩
    have hs := bit_same d k hdb (by omega)
    unfold bitAt
    rw [hN, ← hs]
    have e1 : d.getD (k / 8) 0 = (((d.getD (k / 8) 0).toNat : Nat) : Int) := by rw [e0]; omega
    conv => rhs; rw [e1]
    norm_cast
  have HMW : Hid (∀ x y W, type_of% (mulW x y wd (by omega) W)) := fun x y W => mulW x y wd (by omega) W
  have HCI : Hid (∀ W, (convert 60 2 (.int .u64 (N : Int))).run Try.prog W = .ok (.int .i64 (wrap64 (N : Int))) W) := fun W => cvI N W
  obtain ⟨T, hT⟩ : ∃ T, T = 8 * wd := ⟨_, rfl⟩
  have hT64 : 1 ≤ T ∧ T ≤ 64 := by omega
  have HT8 : Hid (∀ k, k < T → a + k / 8 < b.length) := fun k hk => by omega
  have HPV : Hid (wval (wordB (N : Int) T) = (N : Int)) := by rw [hT]; exact word_plain N wd hNl
  have HSV : Hid (wsgn (wordB (N : Int) T) = sgnN N (8 * (8 - wd))) := by rw [hT]; exact word_signed N wd hw4 hNl
  rw [← hT] at HMW HBIT
  have HD : Hid (DM w Q q most b) := h
  clear hd hdl hdb hdg hN hNl hw4 hfit h hT
  go_enter Try.func14, Try.ntmps14
  go_wp2_with fail
  refine HP.mono ?_
  rintro r w1 ⟨rfl, hb1⟩
  have HB1 : Hid (type_of% hb1) := hb1
  clear hb1
  go_wp2_with (refine wp_binX rfl .mul 3 3 (.const (.int .i64 8)) (.tmp 27) rfl _ _ rfl rfl _ (HMW.out _ _ _) ?_)
  go_loopw [13, 29] (fun v i wr => ∃ k : Nat, i = .int .i64 k ∧ k ≤ T ∧ wr.ownsRow w.heap.size 4 1 v k ((wordB (N : Int) k).map Value.bool) ∧ Below w.heap.size w wr) (fun _ i _ => T - (intOf i).toNat)
  case atStart => exact ⟨0, rfl, by omega, World.ownsRow_nil _ _ _ _, HB1.out⟩
  case round =>
    obtain ⟨k, rfl, hk, hown, hnx⟩ := hrel
    by_cases hlt : k < T
    · have hk1 : (k : Int) < (T : Int) := by omega
      have hsz := hnx.size
      obtain ⟨x, y, hx, hxb, hy, hyb⟩ := HBIT.out k hlt
      have hin := HT8.out k hlt
      obtain ⟨cap, hcap, hc0⟩ := (HD.out.under hnx).c0
      have hcc := (HD.out.under hnx).cell (a + k / 8) hin
      rw [hxb] at hcc
      have HBV : Hid ((bits BinOp.and IntKind.u8 ((x : Int) / 2 ^ (k % 8)) 1 == 1) = bitAt (N : Int) k) := by
        have hs256 : x / 2 ^ (k % 8) < 256 := Nat.lt_of_le_of_lt (Nat.div_le_self _ _) hx
        have e1 : ∀ n : Fin 256, bits BinOp.and IntKind.u8 (n.val : Int) 1 = ((n.val % 2 : Nat) : Int) := by decide +kernel
        have e2 := e1 ⟨_, hs256⟩
        have e3 : ((x : Int) / 2 ^ (k % 8)) = ((x / 2 ^ (k % 8) : Nat) : Int) := by norm_cast
        unfold Hid
        rw [e3, ← hyb, hy]
        exact congrArg (· == 1) e2
      have hb0 : (0 : Int) ≤ (a : Int) + ((k / 8 : Nat) : Int) := by omega
      have hb1 : (a : Int) + ((k / 8 : Nat) : Int) < (b.length : Int) := by omega
      have hbl : (b.length : Int) ≤ 2048 := by omega
      clear hx hxb hy hyb hcap hin
      go_wp2_with (at_builtin; refine wpList_append_own _ rfl _ _ 67 rfl w.heap.size 4 i0 (.bool false) 1 1 Try.underlying67 hi0 hz0 hz1 hz2 rfl (by decide) _ _ _ rfl (hown.alloc _) ⟨_, 0, none⟩ 1 1 [.bool (bits BinOp.and IntKind.u8 ((x : Int) / 2 ^ (k % 8)) 1 == 1)] rfl rfl ?c1 ?c2 ?c3 ?c4 ?c5 ?_)
      case c1 => exact cell_one_new _ _ _
      case c2 => intro u hu; simp at hu; subst hu; rfl
      case c3 => unfold maxLen; omega
      case c4 => omega
      case c5 => simp; omega
      · intro v' w2 hown' hgrow _
        have hown2 : w2.ownsRow w.heap.size 4 1 v' (k + 1) ((wordB (N : Int) (k + 1)).map Value.bool) := by rw [wordB_succ, List.map_append, ← HBV.out]; exact hown'
        have hb : Below w.heap.size w w2 := (hnx.alloc (by omega) _).grown hgrow (by simp; omega) (fun j hj => (hown.lt j hj).1)
        clear hown' hgrow hown hnx hcc hc0 HBV
        go_wp2
        go_roundw
        case rel => exact ⟨k + 1, by go_num, by omega, hown2, hb⟩
        case measure => simp [intOf]; omega
    · obtain rfl : k = T := by omega
      have hisW : IsW wr _ (wordB (N : Int) k) := isW_own (by rw [wordB_length]; exact hown) (by rw [wordB_length]; omega)
      have hl64 : (wordB (N : Int) k).length ≤ 64 := by rw [wordB_length]; omega
      have hl1 : 1 ≤ (wordB (N : Int) k).length := by rw [wordB_length]; omega
      have HPL : Hid (∀ W, Below wr.heap.size wr W → Calls Try.prog 34 #[u13] W fun e w' => e = .returned (.int .u64 (N : Int)) ∧ w' = W) := fun W hW => by
        have := plain_any _ _ W (hisW.below hW) hl64
        rw [HPV.out] at this
        exact this
      have HVL : Hid (∀ W, Below wr.heap.size wr W → Calls Try.prog 35 #[u13] W fun e w' => e = .returned (.int .i64 (sgnN N (8 * (8 - wd)))) ∧ w' = W) := fun W hW => by
        have := value_any _ _ W (hisW.below hW) hl1 hl64
        rw [HSV.out] at this
        exact this
      have HN : Hid (Below w.heap.size w wr) := hnx
      clear hisW hl64 hl1 HPV HSV hown hnx HBIT HT8 HMW HP hlt
      have hk1 : ¬ ((k : Int) < (k : Int)) := by omega
      by_cases hs : noSign (op : Int)
      · have HLD : Hid (ldV (op : Int) wd N = wrap64 (N : Int)) := by unfold Hid ldV; rw [if_pos hs]
        unfold noSign at hs
        rcases hs with h | h | h | h | h
        all_goals
          rw [h]
          clear h
          go_wp2_with (first | (go_at_call 34; refine (HPL.out _ (by first | exact Below.refl _ _ | exact (Below.refl _ _).drew)).mono ?_; rintro r w3 ⟨rfl, rfl⟩) | (refine wp_convX rfl 60 2 (.tmp 59) rfl _ rfl _ (HCI.out _) ?_))
          go_ret2
          exact ⟨by rw [HLD.out]; rfl, HN.out⟩
      · have HLD : Hid (ldV (op : Int) wd N = sgnN N (8 * (8 - wd))) := by unfold Hid ldV; rw [if_neg hs]
        unfold noSign at hs
        have e1 : ((op : Int) == 45) = false := by simp; omega
        have e2 : ((op : Int) == 47) = false := by simp; omega
        have e3 : ((op : Int) == 49) = false := by simp; omega
        have e4 : ((op : Int) == 51) = false := by simp; omega
        have e5 : ((op : Int) == 53) = false := by simp; omega
        clear hs HPL HCI
        go_wp2_with (go_at_call 35; refine (HVL.out _ (Below.refl _ _)).mono ?_; rintro r w3 ⟨rfl, rfl⟩)
        go_ret2
        exact ⟨by rw [HLD.out]; rfl, HN.out⟩
set_option maxHeartbeats 1000000 in
set_option maxRecDepth 1000000 in
theorem dload_no (Q : Nat) (op : Nat) (base off : Int) (e : Int) (he : e = 1 ∨ e = 6 ∨ e = 23) (w : World)
    (HP : Calls Try.prog 33 #[.pointer (some ⟨Q, 0, none⟩), .int .u8 (op : Int), .bool false, .int .i64 base, .int .i64 off] w fun r w'' => r = .returned (.tuple #[.int .i64 0, .int .i64 0, .int .i64 e]) ∧ Below w.heap.size w w'') :
    Calls Try.prog 14 #[.pointer (some ⟨Q, 0, none⟩), .int .u8 (op : Int), .int .i64 base, .int .i64 off] w fun r w' => r = .returned (.tuple #[.int .i64 0, .int .i64 e]) ∧ Below w.heap.size w w' := by
  go_enter Try.func14, Try.ntmps14
  go_wp2_with fail
  refine HP.mono ?_
  rintro r w1 ⟨rfl, hb1⟩
  have HB1 : Hid (type_of% hb1) := hb1
  clear hb1
  rcases he with rfl | rfl | rfl
  all_goals
    go_wp2
    go_ret2
    exact ⟨rfl, HB1.out⟩
end Go.Proofs.Ytomiganjagjabaa
