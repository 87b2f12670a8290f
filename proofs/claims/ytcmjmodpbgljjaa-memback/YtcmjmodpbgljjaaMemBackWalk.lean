/-
  MemBack, walked: what is stored is loaded: its lowest bytes, with or without a sign.
-/
import Derived.Test.YtcmjmodpbgljjaaMM12
import Derived.Deep.QuietTactic
import Derived.BigQuiet
namespace Go.Proofs.Ytcmjmodpbgljjaa
open Go.RowKit

set_option maxHeartbeats 1000000 in
set_option maxRecDepth 1000000 in
theorem back_none (B : ByteArray) (x y v : Int) (hB : B.size ≤ 140737488355328) (h : ¬ ofOk B 8) (w : World) :
    Calls Try.prog 5 #[.string B, .int .i64 x, .int .i64 y, .int .i64 v] w fun r w' => r = .returned (.bool true) ∧ Below w.heap.size w w' := by
  have HO := mof_no B 8 hB h w
  clear h
  go_enter Try.func5, Try.ntmps5
  go_wp2_with (go_at_call 15; refine HO.mono ?_; rintro r w1 ⟨rfl, rfl⟩)
  go_ret
  exact ⟨rfl, Below.refl _ _⟩
/-- The memory, the table, and how they lie. -/
structure BK (w wr : World) (n X : Nat) (b : List Int) : Prop where
  m : MB wr (w.heap.size + 1) w.heap.size n 8 b
  t : TB wr X
  lt : w.heap.size + 1 < X
  below : Below w.heap.size w wr
theorem BK.under {w w1 w2 : World} {n X : Nat} {b : List Int} (h : BK w w1 n X b) (hb : Below w1.heap.size w1 w2) : BK w w2 n X b :=
  ⟨h.m.under hb, by unfold TB; rw [hb.block X h.t.lt]; exact h.t, h.lt, h.below.trans (hb.mono (by have := h.below.size; omega))⟩
theorem BK.put {w w1 w2 : World} {n X : Nat} {b d : List Int} (h : BK w w1 n X b) (hm : MB w2 (w.heap.size + 1) w.heap.size n 8 d) (hc : Chg w.heap.size w1 w2) : BK w w2 n X d :=
  ⟨hm, by unfold TB; rw [hc.block X h.t.lt (by have := h.lt; omega)]; exact h.t, h.lt, h.below.trans (hc.below (Nat.le_refl _) (by have := h.below.size; omega))⟩
theorem Y3.under {w w' : World} {Y : Nat} {s l m : Int} (h : Y3 w Y s l m) (hb : Below w.heap.size w w') : Y3 w' Y s l m := by
  unfold Y3
  rw [hb.block Y h.lt]
  exact h
theorem Y3.put {w w' : World} {Y g : Nat} {s l m : Int} (h : Y3 w Y s l m) (hc : Chg g w w') (hg : Y ≠ g) : Y3 w' Y s l m := by
  unfold Y3
  rw [hc.block Y h.lt hg]
  exact h
set_option maxHeartbeats 4000000 in
set_option maxRecDepth 1000000 in
theorem back_yes (B : ByteArray) (x y v : Int) (h : ofOk B 8) (w : World) (hM : MaxIn w) :
    Calls Try.prog 5 #[.string B, .int .i64 x, .int .i64 y, .int .i64 v] w fun r w' => r = .returned (.bool true) ∧ Below w.heap.size w w' := by
  have HO := mof_yes B 8 h w
  obtain ⟨n, hn⟩ : ∃ n, n = B.size / 256 := ⟨_, rfl⟩
  rw [← hn] at HO
  have HMX : Hid (∀ wr, Below w.heap.size w wr → MaxIn wr) := fun wr hb => hM.below hb
  have HA : Hid (∀ (b : List Int) (w1 : World), type_of% (mall_any (w.heap.size + 1) w.heap.size n 8 b w1)) := fun b w1 => mall_any (w.heap.size + 1) w.heap.size n 8 b w1
  have HSN : Hid (∀ (b : List Int) (s wd : Nat) (hwd : insW (s : Int) = (wd : Int)) (h0 : wd ≠ 0) (h8 : wd ≤ 8) (h54 : ¬ (s : Int) < 54) (he : plE b.length x y wd ≠ 0) (w1 : World), type_of% (store_no (w.heap.size + 1) w.heap.size n 8 b s x y v wd hwd h0 h8 h54 he w1)) := fun b s wd hwd h0 h8 h54 he w1 => store_no (w.heap.size + 1) w.heap.size n 8 b s x y v wd hwd h0 h8 h54 he w1
  have HLN : Hid (∀ (b : List Int) (l wd : Nat) (hwd : insW (l : Int) = (wd : Int)) (h0 : wd ≠ 0) (h8 : wd ≤ 8) (h54 : (l : Int) < 54) (he : plE b.length x y wd ≠ 0) (w1 : World), type_of% (load_no (w.heap.size + 1) w.heap.size n 8 b l x y wd hwd h0 h8 h54 he w1)) := fun b l wd hwd h0 h8 h54 he w1 => load_no (w.heap.size + 1) w.heap.size n 8 b l x y wd hwd h0 h8 h54 he w1
  clear h hn hM
  go_enter Try.func5, Try.ntmps5
  go_wp2_with fail
  refine HO.mono ?_
  rintro r w1 ⟨rfl, hm, hb1⟩
  have HM : Hid (type_of% hm) := hm
  have HB1 : Hid (type_of% hb1) := hb1
  clear hm hb1 HO
  go_wp2_with fail
  obtain ⟨W0, hW0⟩ : ∃ W0, W0 = w1.alloc (.cells #[.int .u8 54, .int .u8 40, .int .u8 40, .int .u8 55, .int .u8 41, .int .u8 41, .int .u8 58, .int .u8 44, .int .u8 45, .int .u8 59, .int .u8 46, .int .u8 47, .int .u8 60, .int .u8 48, .int .u8 49, .int .u8 61, .int .u8 50, .int .u8 51, .int .u8 62, .int .u8 52, .int .u8 53] 42) := ⟨_, rfl⟩
  have HK0 : Hid (BK w W0 n w1.heap.size (nums B)) := by
    rw [hW0]
    exact ⟨HM.out.under ((Below.refl _ _).alloc (Nat.le_refl _) _), heap_alloc_new w1 _, HM.out.lt.1, HB1.out.alloc (by have := HB1.out.size; omega) _⟩
  rw [← hW0]
  obtain ⟨X, hX⟩ : ∃ X, X = w1.heap.size := ⟨_, rfl⟩
  rw [← hX] at HK0 ⊢
  clear hW0 hX HM HB1
  go_loopw [50] (fun iv wr => ∃ k : Nat, ∃ b : List Int, iv = .int .i64 (k : Int) ∧ k ≤ 7 ∧ Hid (BK w wr n X b)) (fun iv _ => 7 - (intOf iv).toNat)
  case atStart => exact ⟨0, _, rfl, by omega, HK0⟩
  case round =>
    obtain ⟨k, b, rfl, hk, HK⟩ := hrel
    clear HK0
    by_cases hkl : k < 7
    · have hk1 : (k : Int) < 7 := by omega
      obtain ⟨s, l, m, wd, hrow, hR⟩ := row_of k hkl
      have HIX : Hid (type_of% (indexTri X k hkl wr)) := indexTri X k hkl wr
      have HLD : Hid (type_of% (HK.out.t.load hrow)) := HK.out.t.load hrow
      obtain ⟨o, ho⟩ : ∃ o, o = 3 * k := ⟨_, rfl⟩
      rw [← ho] at HIX HLD
      obtain ⟨W, HST, hY, hbW⟩ := Y3.make s l m wr
      have HYW : Hid (type_of% hY) := hY
      have HKW : Hid (type_of% (HK.out.under hbW)) := HK.out.under hbW
      have HYG : Hid (wr.heap.size ≠ w.heap.size) := by unfold Hid; have := HK.out.t.lt; have := HK.out.lt; omega
      have HK1 : Hid (k + 1 ≤ 7) := hkl
      have HK2 : Hid (7 - (k + 1) < 7 - k) := by unfold Hid; omega
      have HR : Hid (Row s l m wd) := hR
      clear ho hrow hY hbW hR HK
      by_cases he : plE b.length x y wd = 0
      · have hys : ¬ (y < 0 ∨ 4294967295 < y) := fun hh => by unfold plE at he; rw [if_pos hh] at he; exact absurd he (by decide)
        obtain ⟨a, ha⟩ : ∃ a : Nat, x % 4294967296 + y = (a : Int) := ⟨(x % 4294967296 + y).toNat, by omega⟩
        have hwd8 : wd ≤ 8 := by have := HR.out.wd4; omega
        have hfit : a + wd ≤ b.length := by
          unfold plE at he
          rw [if_neg hys] at he
          split at he
          · exact absurd he (by decide)
          · omega
        obtain ⟨d, hd⟩ : ∃ d, d = splice b a ((by8 (Go.Proofs.Ytcmjmodpbgljjaa.u64 v)).take wd) := ⟨_, rfl⟩
        have htl : ((by8 (Go.Proofs.Ytcmjmodpbgljjaa.u64 v)).take wd).length = wd := by rw [List.length_take, by8_len]; omega
        have hdl : d.length = b.length := by rw [hd, length_splice _ _ _ (by omega)]
        have hdn : (d.drop a).take wd = (by8 (Go.Proofs.Ytcmjmodpbgljjaa.u64 v)).take wd := by
          rw [hd]
          unfold splice
          rw [List.drop_append, List.drop_of_length_le (by rw [List.length_take]; omega), List.nil_append, List.length_take, show a - min a b.length = 0 by omega, List.drop_zero, List.take_append_of_le_length (by omega), List.take_of_length_le (by omega)]
        have hed : plE d.length x y wd = 0 := by rw [hdl]; exact he
        have HS : Hid (∀ w2, MB w2 (w.heap.size + 1) w.heap.size n 8 b → Calls Try.prog 17 #[.pointer (some ⟨w.heap.size + 1, 0, none⟩), .int .u8 (s : Int), .int .i64 x, .int .i64 y, .int .i64 v] w2 fun r w' => r = .returned (.int .i64 0) ∧ MB w' (w.heap.size + 1) w.heap.size n 8 d ∧ Chg w.heap.size w2 w') := fun w2 h2 => by
          rw [hd]
          exact store_yes _ _ n 8 b s x y v wd a HR.out.ws (by have := HR.out.wd4; omega) hwd8 HR.out.hs he ha w2 h2
        have HL : Hid (∀ w2, MB w2 (w.heap.size + 1) w.heap.size n 8 d → Calls Try.prog 18 #[.pointer (some ⟨w.heap.size + 1, 0, none⟩), .int .u8 (l : Int), .int .i64 x, .int .i64 y] w2 fun r w' => r = .returned (.tuple #[.int .i64 (sgV v wd), .int .i64 0]) ∧ Below w2.heap.size w2 w') := fun w2 h2 => by
          have := load_yes _ _ n 8 d l x y wd a HR.out.wl HR.out.wd4 HR.out.hl hed ha w2 h2
          rw [hdn, ld_first HR.out v] at this
          exact this
        have HL2 : Hid (∀ w2, MB w2 (w.heap.size + 1) w.heap.size n 8 d → Calls Try.prog 18 #[.pointer (some ⟨w.heap.size + 1, 0, none⟩), .int .u8 (m : Int), .int .i64 x, .int .i64 y] w2 fun r w' => r = .returned (.tuple #[.int .i64 (plV v m wd), .int .i64 0]) ∧ Below w2.heap.size w2 w') := fun w2 h2 => by
          have := load_yes _ _ n 8 d m x y wd a HR.out.wm HR.out.wd4 HR.out.hm hed ha w2 h2
          rw [hdn, ld_second HR.out v] at this
          exact this
        have HWI : Hid (∀ w2, MaxIn w2 → Calls Try.prog 19 #[.int .u8 (s : Int)] w2 fun r w' => r = .returned (.int .i64 (wd : Int)) ∧ Below w2.heap.size w2 w') := fun w2 h2 => by
          have := rwidth_any s HR.out.s8 w2 h2
          rw [HR.out.ws] at this
          exact this
        have HSM : Hid (type_of% HR.out.sm) := HR.out.sm
        have HW4 : Hid (type_of% HR.out.wd4) := HR.out.wd4
        clear he hys ha hwd8 hfit hd htl hdl hdn hed HR hk hkl HSN HLN
        go_wp2_with (first | (refine wp_indexX rfl (.tmp 48) (.tmp 50) 43 rfl _ _ rfl rfl _ HIX.out ?_) | (refine wp_loadX rfl (.tmp 52) 42 rfl _ rfl _ HLD.out ?_) | (refine wp_storeX rfl (.tmp 12) (.tmp 53) 42 rfl _ _ rfl rfl _ HST.out ?_))
        refine (HA.out _ _ HKW.out.m).mono ?_
        rintro r w2 ⟨rfl, hb2⟩
        have HK3 : Hid (type_of% (HKW.out.under hb2)) := HKW.out.under hb2
        have HY3 : Hid (type_of% (HYW.out.under hb2)) := HYW.out.under hb2
        obtain ⟨c0, c1, c2⟩ := HY3.out.c
        clear hb2 HKW HYW HIX HLD HST
        go_wp2_with fail
        refine (HS.out _ HK3.out.m).mono ?_
        rintro r w3 ⟨rfl, hm3, hc3⟩
        have HK4 : Hid (type_of% (HK3.out.put hm3 hc3)) := HK3.out.put hm3 hc3
        have HY4 : Hid (type_of% (HY3.out.put hc3 HYG.out)) := HY3.out.put hc3 HYG.out
        clear hm3 hc3 c0 c1 c2 HK3 HY3
        obtain ⟨c0, c1, c2⟩ := HY4.out.c
        go_wp2_with fail
        refine (HL.out _ HK4.out.m).mono ?_
        rintro r w4 ⟨rfl, hb4⟩
        have HK5 : Hid (type_of% (HK4.out.under hb4)) := HK4.out.under hb4
        have HY5 : Hid (type_of% (HY4.out.under hb4)) := HY4.out.under hb4
        clear hb4 c0 c1 c2 HK4 HY4
        obtain ⟨c0, c1, c2⟩ := HY5.out.c
        go_wp2_with fail
        refine (HL2.out _ HK5.out.m).mono ?_
        rintro r w5 ⟨rfl, hb5⟩
        have HK6 : Hid (type_of% (HK5.out.under hb5)) := HK5.out.under hb5
        have HY6 : Hid (type_of% (HY5.out.under hb5)) := HY5.out.under hb5
        clear hb5 c0 c1 c2 HK5 HY5
        obtain ⟨c0, c1, c2⟩ := HY6.out.c
        go_wp2_with fail
        refine (HWI.out _ (HMX.out _ HK6.out.below)).mono ?_
        rintro r w6 ⟨rfl, hb6⟩
        have HK7 : Hid (type_of% (HK6.out.under hb6)) := HK6.out.under hb6
        have HY7 : Hid (type_of% (HY6.out.under hb6)) := HY6.out.under hb6
        clear hb6 c0 c1 c2 HK6 HY6 HS HL HL2 HWI
        obtain ⟨c0, c1, c2⟩ := HY7.out.c
        obtain ⟨P1, hP1⟩ : ∃ P1, P1 = plV v m wd := ⟨_, rfl⟩
        obtain ⟨S1, hS1⟩ : ∃ S1, S1 = sgV v wd := ⟨_, rfl⟩
        rw [← hP1, ← hS1]
        have HP1 : Hid (type_of% hP1) := hP1
        have HS1 : Hid (type_of% hS1) := hS1
        clear hP1 hS1
        rcases HW4.out with rfl | rfl | rfl | rfl
        · have hm40 : m ≠ 40 := by rcases HSM.out with h | h | h <;> omega
          clear HSM HW4
          have HPE : Hid (P1 = PL v 1) := by unfold Hid PL; rw [HP1.out]; unfold plV; rw [if_neg hm40]
          have hq40 : ((m : Int) == 40) = false := by rw [beq_eq_false_iff_ne]; omega
          clear HP1 hm40
          go_wp2_with fail
          go_quiet (fail)
          rw [sg_1, pl_1, ← HS1.out, ← HPE.out]
          have d2 : (w6.drewN nq).cell? ⟨wr.heap.size, 2, none⟩ = some (.int .u8 (m : Int)) := c2
          have HK8 : Hid (type_of% (HK7.out.under (below_drewN (Below.refl _ _) nq))) := HK7.out.under (below_drewN (Below.refl _ _) nq)
          clear c0 c1 c2 HK7 HY7 HS1
          go_wp2
          go_roundw
          case rel => exact ⟨k + 1, _, rfl, HK1.out, HK8⟩
          case measure => exact HK2.out
        · have hm40 : m ≠ 40 := by rcases HSM.out with h | h | h <;> omega
          clear HSM HW4
          have HPE : Hid (P1 = PL v 2) := by unfold Hid PL; rw [HP1.out]; unfold plV; rw [if_neg hm40]
          have hq40 : ((m : Int) == 40) = false := by rw [beq_eq_false_iff_ne]; omega
          clear HP1 hm40
          go_wp2_with fail
          go_quiet (fail)
          rw [sg_2, pl_2, ← HS1.out, ← HPE.out]
          have d2 : (w6.drewN nq).cell? ⟨wr.heap.size, 2, none⟩ = some (.int .u8 (m : Int)) := c2
          have HK8 : Hid (type_of% (HK7.out.under (below_drewN (Below.refl _ _) nq))) := HK7.out.under (below_drewN (Below.refl _ _) nq)
          clear c0 c1 c2 HK7 HY7 HS1
          go_wp2
          go_roundw
          case rel => exact ⟨k + 1, _, rfl, HK1.out, HK8⟩
          case measure => exact HK2.out
        · clear HW4
          by_cases hm40 : m = 40
          · subst hm40
            clear HSM
            have HPE : Hid (P1 = S1) := by unfold Hid; rw [HP1.out, HS1.out]; unfold plV; rw [if_pos rfl]
            rw [HPE.out]
            clear HPE HP1
            go_wp2_with fail
            go_quiet (fail)
            rw [sg_4, ← HS1.out]
            have d2 : (w6.drewN nq).cell? ⟨wr.heap.size, 2, none⟩ = some (.int .u8 (40 : Int)) := c2
            have HK8 : Hid (type_of% (HK7.out.under (below_drewN (Below.refl _ _) nq))) := HK7.out.under (below_drewN (Below.refl _ _) nq)
            clear c0 c1 c2 HK7 HY7 HS1
            go_wp2
            go_roundw
            case rel => exact ⟨k + 1, _, rfl, HK1.out, HK8⟩
            case measure => exact HK2.out
          · clear HSM
            have HPE : Hid (P1 = PL v 4) := by unfold Hid PL; rw [HP1.out]; unfold plV; rw [if_neg hm40]
            have hq40 : ((m : Int) == 40) = false := by rw [beq_eq_false_iff_ne]; omega
            clear HP1 hm40
            go_wp2_with fail
            go_quiet (fail)
            rw [sg_4, pl_4, ← HS1.out, ← HPE.out]
            have d2 : (w6.drewN nq).cell? ⟨wr.heap.size, 2, none⟩ = some (.int .u8 (m : Int)) := c2
            have HK8 : Hid (type_of% (HK7.out.under (below_drewN (Below.refl _ _) nq))) := HK7.out.under (below_drewN (Below.refl _ _) nq)
            clear c0 c1 c2 HK7 HY7 HS1
            go_wp2
            go_roundw
            case rel => exact ⟨k + 1, _, rfl, HK1.out, HK8⟩
            case measure => exact HK2.out
        · have hm40 : m ≠ 40 := by rcases HSM.out with h | h | h <;> omega
          clear HSM HW4
          have HPE : Hid (P1 = PL v 8) := by unfold Hid PL; rw [HP1.out]; unfold plV; rw [if_neg hm40]
          have hq40 : ((m : Int) == 40) = false := by rw [beq_eq_false_iff_ne]; omega
          clear HP1 hm40
          go_wp2_with fail
          go_quiet (fail)
          rw [sg_8, pl_8, ← HS1.out, ← HPE.out]
          have d2 : (w6.drewN nq).cell? ⟨wr.heap.size, 2, none⟩ = some (.int .u8 (m : Int)) := c2
          have HK8 : Hid (type_of% (HK7.out.under (below_drewN (Below.refl _ _) nq))) := HK7.out.under (below_drewN (Below.refl _ _) nq)
          clear c0 c1 c2 HK7 HY7 HS1
          go_wp2
          go_roundw
          case rel => exact ⟨k + 1, _, rfl, HK1.out, HK8⟩
          case measure => exact HK2.out
      · have hwd8 : wd ≤ 8 := by have := HR.out.wd4; omega
        have hwd0 : wd ≠ 0 := by have := HR.out.wd4; omega
        obtain ⟨e, hee⟩ : ∃ e, e = plE b.length x y wd := ⟨_, rfl⟩
        have h0 : (e == 0) = false := by rw [beq_eq_false_iff_ne, hee]; exact he
        have HS : Hid (∀ w2, type_of% (HSN.out b s wd HR.out.ws hwd0 hwd8 (by have := HR.out.hs; omega) he w2)) := fun w2 => HSN.out b s wd HR.out.ws hwd0 hwd8 (by have := HR.out.hs; omega) he w2
        have HL : Hid (∀ w2, type_of% (HLN.out b l wd HR.out.wl hwd0 hwd8 HR.out.hl he w2)) := fun w2 => HLN.out b l wd HR.out.wl hwd0 hwd8 HR.out.hl he w2
        rw [← hee] at HS HL
        clear hee he hwd8 hwd0 HR hk hkl HSN HLN
        go_wp2_with (first | (refine wp_indexX rfl (.tmp 48) (.tmp 50) 43 rfl _ _ rfl rfl _ HIX.out ?_) | (refine wp_loadX rfl (.tmp 52) 42 rfl _ rfl _ HLD.out ?_) | (refine wp_storeX rfl (.tmp 12) (.tmp 53) 42 rfl _ _ rfl rfl _ HST.out ?_))
        refine (HA.out _ _ HKW.out.m).mono ?_
        rintro r w2 ⟨rfl, hb2⟩
        have HK3 : Hid (type_of% (HKW.out.under hb2)) := HKW.out.under hb2
        have HY3 : Hid (type_of% (HYW.out.under hb2)) := HYW.out.under hb2
        obtain ⟨c0, c1, c2⟩ := HY3.out.c
        clear hb2 HKW HYW HIX HLD HST
        go_wp2_with fail
        refine (HS.out _ HK3.out.m).mono ?_
        rintro r w3 ⟨rfl, rfl⟩
        go_wp2_with fail
        refine (HL.out _ HK3.out.m).mono ?_
        rintro r w3 ⟨rfl, rfl⟩
        go_wp2_with fail
        refine (HA.out _ _ HK3.out.m).mono ?_
        rintro r w4 ⟨rfl, hb4⟩
        have HK4 : Hid (type_of% (HK3.out.under hb4)) := HK3.out.under hb4
        clear hb4 HK3 HY3 c0 c1 c2
        go_wp2
        go_roundw
        case rel => exact ⟨k + 1, _, rfl, HK1.out, HK4⟩
        case measure => exact HK2.out
    · have hk1 : ¬ ((k : Int) < 7) := by omega
      go_wp2
      go_ret
      exact ⟨rfl, HK.out.below⟩
theorem memBack_walk (B : ByteArray) (x y v : Int) (hB : B.size ≤ 140737488355328) (_h1 : -9223372036854775808 ≤ x ∧ x ≤ 9223372036854775807) (_h2 : -9223372036854775808 ≤ y ∧ y ≤ 9223372036854775807) (_h3 : -9223372036854775808 ≤ v ∧ v ≤ 9223372036854775807) (w : World) (hM : MaxIn w) :
    Calls Try.prog 5 #[.string B, .int .i64 x, .int .i64 y, .int .i64 v] w fun r w' => r = .returned (.bool true) ∧ Below w.heap.size w w' := by
  by_cases h : ofOk B 8
  · exact back_yes B x y v h w hM
  · exact back_none B x y v hB h w
end Go.Proofs.Ytcmjmodpbgljjaa
