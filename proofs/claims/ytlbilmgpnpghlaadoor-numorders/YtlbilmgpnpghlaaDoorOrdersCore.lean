/-
  The walk of the law of orders, for whatever its instructions answer.
-/
import Derived.Test.YtlbilmgpnpghlaaDoorKeep2
import Derived.Laws.EntriesVeiled
import Derived.Deep.RegionWith
namespace Go.Proofs.YtlbilmgpnpghlaaDoor
open Go.RowKit

set_option maxHeartbeats 4000000 in
set_option maxRecDepth 1000000 in
theorem kone (op a R E : Int) (w : World) (HL : Hid (Calls Tryd.prog 5 #[.int .u8 op, .int .i64 a] w fun e w' => e = .returned (.tuple #[.int .i64 R, .int .i64 E]) ∧ w' = w)) :
    Calls Tryd.prog 13 #[.int .u8 op, .int .i64 a] w fun e w' => e = .returned (.int .i64 R) ∧ w' = w := by
  go_enter Tryd.func13, Tryd.ntmps13
  go_wp2_with fail
  refine HL.out.mono ?_
  rintro e w1 ⟨rfl, rfl⟩
  go_wp2
  go_ret
  exact ⟨rfl, rfl⟩
set_option maxHeartbeats 4000000 in
set_option maxRecDepth 1000000 in
theorem c_less (wd : Bool) (P X : Nat) (op x y z o : Int) (b : Bool) (_hb : (z == 1) = b) (HW : Hid (∀ w, Calls Tryd.prog 12 #[.int .u8 op, .bool wd] w fun e w' => e = .returned (.int .u8 o) ∧ w' = w)) (HT : Hid (∀ w, Calls Tryd.prog 11 #[.int .u8 o, .int .i64 x, .int .i64 y] w fun e w' => e = .returned (.int .i64 z) ∧ w' = w)) (w : World) (_hc : w.cell? ⟨P, 0, none⟩ = some (.bool wd)) (_hx : w.cell? ⟨X, 0, none⟩ = some (.int .u8 op)) :
    Calls Tryd.prog 10 #[.int .i64 x, .int .i64 y, .pointer (some ⟨X, 0, none⟩), .pointer (some ⟨P, 0, none⟩)] w fun e w' => e = .returned (.bool b) ∧ w' = w := by
  go_enter Tryd.func10, Tryd.ntmps10
  go_wp2_with fail
  refine (HW.out _).mono ?_
  rintro e w1 ⟨rfl, rfl⟩
  go_wp2_with fail
  refine (HT.out _).mono ?_
  rintro e w2 ⟨rfl, rfl⟩
  go_wp2
  go_ret
  exact ⟨rfl, rfl⟩
/-- What the two orders say of three numbers: the four ways. -/
def Says (T : Int → Int → Int → Int → Prop) (op a b c : Int) : Prop :=
  T op a a 0 ∧
  ((¬ a = b ∧ T op a b 1 ∧ T op b a 0 ∧ ((T op b c 1 ∧ T op a c 1) ∨ T op b c 0) ∧ T (op + 2) a b 0 ∧ T (op + 4) a b 1 ∧ T (op + 6) a b 0) ∨
   (a = b ∧ T op a b 0 ∧ T op b a 0 ∧ T (op + 2) a b 0 ∧ T (op + 4) a b 1 ∧ T (op + 6) a b 1) ∨
   (¬ a = b ∧ T op a b 0 ∧ T op b a 1 ∧ T (op + 2) a b 1 ∧ T (op + 4) a b 0 ∧ T (op + 6) a b 1))
set_option maxHeartbeats 40000000 in
set_option maxRecDepth 1000000 in
theorem numOrders_core (wd : Bool) (a0 b0 c0 a b c S Z : Int) (wo : Int → Int) (T : Int → Int → Int → Int → Prop) (HW : Hid (∀ o, 0 ≤ o → o < 80 → ∀ w, Calls Tryd.prog 12 #[.int .u8 o, .bool wd] w fun e w' => e = .returned (.int .u8 (wo o)) ∧ w' = w)) (HT : Hid (∀ o x y z, T o x y z → ∀ w, Calls Tryd.prog 11 #[.int .u8 (wo o), .int .i64 x, .int .i64 y] w fun e w' => e = .returned (.int .i64 z) ∧ w' = w))
    (HO : Hid (∀ w, Calls Tryd.prog 13 #[.int .u8 (wo 69), .int .i64 a] w fun e w' => e = .returned (.int .i64 Z) ∧ w' = w))
    (ha : fitW wd a0 = a) (hb : fitW wd b0 = b) (hc : fitW wd c0 = c) (HS : Hid (∀ op, 72 ≤ op → op ≤ 73 → Says T op a b c)) (E70 : Hid (T 70 a b S)) (hS : Hid ((S = 1 ∧ a = b) ∨ (S = 0 ∧ ¬ a = b))) (E71 : Hid (T 71 a b (1 - S))) (EZ : Hid (T 70 a 0 Z)) (w : World) :
    Calls Tryd.prog 4 #[.int .i64 a0, .int .i64 b0, .int .i64 c0, .bool wd] w fun e w' => e = .returned (.bool true) ∧ Below w.heap.size w w' := by
  have HFIT : Hid (Calls Tryd.prog 9 #[.bool wd, .slice (some ⟨w.heap.size + 1, 0, none⟩) 3 3] ((w.alloc (.cells #[.bool wd] 4)).alloc (.cells #[.int .i64 a0, .int .i64 b0, .int .i64 c0] 2)) fun e w' => e = .returned (.slice (some ⟨w.heap.size + 1, 0, none⟩) 3 3) ∧ (w'.cell? ⟨w.heap.size + 1, 0, none⟩ = some (.int .i64 a) ∧ w'.cell? ⟨w.heap.size + 1, 1, none⟩ = some (.int .i64 b) ∧ w'.cell? ⟨w.heap.size + 1, 2, none⟩ = some (.int .i64 c)) ∧ w'.cell? ⟨w.heap.size, 0, none⟩ = some (.bool wd) ∧ Below w.heap.size w w' ∧ w.heap.size < w'.heap.size) := by
    refine (fits_new wd [a0, b0, c0] _ 3 (w.heap.size + 1) rfl (by omega) rfl (w.alloc (.cells #[.bool wd] 4)) (by simp)).mono ?_
    rintro e w1 ⟨rfl, hcs, hb1⟩
    have c0 := hcs 0 (by omega)
    have c1 := hcs 1 (by omega)
    have c2 := hcs 2 (by omega)
    refine ⟨rfl, ⟨by rw [← ha]; exact c0, by rw [← hb]; exact c1, by rw [← hc]; exact c2⟩, ?_, ((Below.refl _ _).alloc (Nat.le_refl _) _).trans (hb1.mono (by simp)), by have := hb1.size; simp at this; omega⟩
    rw [hb1.cell (p := ⟨w.heap.size, 0, none⟩) (by simp)]
    exact cell_one_new _ _ _ 0 _ rfl
  obtain ⟨P, hP⟩ : ∃ P, w.heap.size = P := ⟨_, rfl⟩
  rw [hP] at HFIT ⊢
  have HL : Hid (∀ op x y z bb, 72 ≤ op → op ≤ 73 → T op x y z → (z == 1) = bb → ∀ X w', w'.cell? ⟨P, 0, none⟩ = some (.bool wd) → w'.cell? ⟨X, 0, none⟩ = some (.int .u8 op) → Calls Tryd.prog 10 #[.int .i64 x, .int .i64 y, .pointer (some ⟨X, 0, none⟩), .pointer (some ⟨P, 0, none⟩)] w' fun e w'' => e = .returned (.bool bb) ∧ w'' = w') := by
    intro op x y z bb h1 h2 h3 h4 X w' h5 h6
    exact c_less wd P X op x y z (wo op) bb h4 (fun w => HW.out op (by omega) (by omega) w) (fun w => HT.out op x y z h3 w) w' h5 h6
  go_enter Tryd.func4, Tryd.ntmps4
  go_wp2_with fail
  refine HFIT.out.mono ?_
  rintro e w1 ⟨rfl, ⟨hc0, hc1, hc2⟩, hcw, hbel, hsz⟩
  clear HFIT ha hb hc
  go_wp2_with fail
  go_quiet (fail)
  have hcw2 : (w1.drewN nq).cell? ⟨P, 0, none⟩ = some (.bool wd) := hcw
  have HB : Hid (Below P w (w1.drewN nq)) := below_drewN hbel _
  have hsz2 : P < (w1.drewN nq).heap.size := hsz
  generalize w1.drewN nq = w2 at hcw2 HB hsz2
  clear hcw hbel hc0 hc1 hc2 hsz
  go_wp2
  go_loopw [31] (fun i wr => ∃ k : Nat, i = .int .i64 k ∧ k ≤ 2 ∧ wr.cell? ⟨P, 0, none⟩ = some (.bool wd) ∧ (wr.cell? ⟨w2.heap.size, 0, none⟩ = some (.int .u8 72) ∧ wr.cell? ⟨w2.heap.size, 1, none⟩ = some (.int .u8 73)) ∧ Hid (Below P w wr) ∧ w2.heap.size < wr.heap.size) (fun i _ => 2 - (intOf i).toNat)
  case atStart =>
    refine ⟨0, rfl, by omega, (World.cell?_alloc_lt (h := hsz2) ..).trans hcw2, ⟨?_, ?_⟩, HB.out.alloc (Nat.le_of_lt hsz2) _, by simp⟩
    · simp
    · simp
  case round =>
    obtain ⟨k, rfl, hk, hq, ⟨hk0, hk1⟩, HBB, hlt2⟩ := hrel
    have hPs : P < wr.heap.size := by omega
    clear hcw2 HB
    by_cases hlt : k < 2
    · obtain ⟨op, ho0, ho1, hcell⟩ : ∃ op : Int, 72 ≤ op ∧ op ≤ 73 ∧ wr.cell? ⟨w2.heap.size, k, none⟩ = some (.int .u8 op) := by
        rcases (show k = 0 ∨ k = 1 by omega) with rfl | rfl
        · exact ⟨72, by omega, by omega, hk0⟩
        · exact ⟨73, by omega, by omega, hk1⟩
      have hki0 : (0 : Int) ≤ (k : Int) := by omega
      have hki1 : (k : Int) < 2 := by omega
      have HC : Hid ((wr.alloc (.cells #[.int .u8 op] 5)).cell? ⟨P, 0, none⟩ = some (.bool wd)) := (World.cell?_alloc_lt (h := hPs) ..).trans hq
      have HX : Hid ((wr.alloc (.cells #[.int .u8 op] 5)).cell? ⟨wr.heap.size, 0, none⟩ = some (.int .u8 op)) := by unfold Hid; simp
      have HK : Hid ((wr.alloc (.cells #[.int .u8 op] 5)).cell? ⟨w2.heap.size, 0, none⟩ = some (.int .u8 72) ∧ (wr.alloc (.cells #[.int .u8 op] 5)).cell? ⟨w2.heap.size, 1, none⟩ = some (.int .u8 73)) := ⟨(World.cell?_alloc_lt (h := hlt2) ..).trans hk0, (World.cell?_alloc_lt (h := hlt2) ..).trans hk1⟩
      have HB3 : Hid (Below P w (wr.alloc (.cells #[.int .u8 op] 5)) ∧ w2.heap.size < (wr.alloc (.cells #[.int .u8 op] 5)).heap.size) := ⟨HBB.out.alloc (Nat.le_of_lt hPs) _, by simp; omega⟩
      have HSAY : Hid (Says T op a b c) := HS.out op ho0 ho1
      clear hk0 hk1 hq HBB HS E70 hS E71 EZ HO
      go_wp2_with fail
      have hcc : (wr.alloc (.cells #[.int .u8 op] 5)).cell? ⟨P, 0, none⟩ = some (.bool wd) := HC.out
      have hxx : (wr.alloc (.cells #[.int .u8 op] 5)).cell? ⟨wr.heap.size, 0, none⟩ = some (.int .u8 op) := HX.out
      generalize wr.alloc (Obj.cells #[Value.int .u8 op] 5) = w3 at HC HX HK HB3 hcc hxx
      generalize wr.heap.size = X at HX hxx hlt2 hPs
      clear hcell
      obtain ⟨saa, hcase⟩ := HSAY.out
      have SAA : Hid _ := saa
      clear saa HSAY
      refine (HL.out op a a 0 false ho0 ho1 SAA.out rfl _ _ HC.out HX.out).mono ?_
      rintro e w4 ⟨rfl, rfl⟩
      rcases hcase with ⟨hne, t1, t2, t3, t4, t5, t6⟩ | ⟨heq, t1, t2, t4, t5, t6⟩ | ⟨hne, t1, t2, t4, t5, t6⟩
      · have E1 : Hid _ := t1
        have E2 : Hid _ := t2
        have E4 : Hid _ := t4
        have E5 : Hid _ := t5
        have E6 : Hid _ := t6
        have hneb : (a == b) = false := by rw [beq_eq_false_iff_ne]; exact hne
        have hnb : (a != b) = true := by rw [bne, hneb]; rfl
        have hdd : (decide (a = b)) = false := decide_eq_false hne
        clear t1 t2 t4 t5 t6 hne
        go_wp2_with fail
        refine (HL.out op a b 1 true ho0 ho1 E1.out rfl _ _ HC.out HX.out).mono ?_
        rintro e w4 ⟨rfl, rfl⟩
        go_wp2_with fail
        refine (HL.out op b a 0 false ho0 ho1 E2.out rfl _ _ HC.out HX.out).mono ?_
        rintro e w4 ⟨rfl, rfl⟩
        go_wp2_with fail
        refine (HL.out op a b 1 true ho0 ho1 E1.out rfl _ _ HC.out HX.out).mono ?_
        rintro e w4 ⟨rfl, rfl⟩
        go_wp2_with fail
        refine (HL.out op a b 1 true ho0 ho1 E1.out rfl _ _ HC.out HX.out).mono ?_
        rintro e w4 ⟨rfl, rfl⟩
        rcases t3 with ⟨u1, u2⟩ | u1
        · have U1 : Hid _ := u1
          have U2 : Hid _ := u2
          clear u1 u2
          go_wp2_with fail
          refine (HL.out op b c 1 true ho0 ho1 U1.out rfl _ _ HC.out HX.out).mono ?_
          rintro e w4 ⟨rfl, rfl⟩
          go_wp2_with fail
          refine (HL.out op a c 1 true ho0 ho1 U2.out rfl _ _ HC.out HX.out).mono ?_
          rintro e w4 ⟨rfl, rfl⟩
          go_wp2_with fail
          go_quiet (first
            | (go_at_call_of 12 (Value.int .u8 (op + @OfNat.ofNat Int (nat_lit 2) instOfNat)); exact Calls.quiet_of_same (HW.out _ (by omega) (by omega) _))
            | (go_at_call_of 12 (Value.int .u8 (op + @OfNat.ofNat Int (nat_lit 4) instOfNat)); exact Calls.quiet_of_same (HW.out _ (by omega) (by omega) _))
            | (go_at_call_of 12 (Value.int .u8 (op + @OfNat.ofNat Int (nat_lit 6) instOfNat)); exact Calls.quiet_of_same (HW.out _ (by omega) (by omega) _))
            | (go_at_call_of 12 (Value.int .u8 op); exact Calls.quiet_of_same (HW.out _ (by omega) (by omega) _))
            | (go_at_call_of 11 (Value.int .u8 (wo (op + @OfNat.ofNat Int (nat_lit 2) instOfNat))); exact Calls.quiet_of_same (HT.out _ _ _ _ E4.out _))
            | (go_at_call_of 11 (Value.int .u8 (wo (op + @OfNat.ofNat Int (nat_lit 4) instOfNat))); exact Calls.quiet_of_same (HT.out _ _ _ _ E5.out _))
            | (go_at_call_of 11 (Value.int .u8 (wo (op + @OfNat.ofNat Int (nat_lit 6) instOfNat))); exact Calls.quiet_of_same (HT.out _ _ _ _ E6.out _))
            | (go_at_call_of 11 (Value.int .u8 (wo op)); go_at_call_of 11 ([Value.int .i64 a, Value.int .i64 b]); exact Calls.quiet_of_same (HT.out _ _ _ _ E1.out _))
            | (go_at_call_of 11 (Value.int .u8 (wo op)); go_at_call_of 11 ([Value.int .i64 b, Value.int .i64 a]); exact Calls.quiet_of_same (HT.out _ _ _ _ E2.out _)))
          go_wp2
          go_roundw
          case rel => exact ⟨k + 1, by go_num, by omega, HC.out, HK.out, below_drewN HB3.out.1 _, HB3.out.2⟩
          case measure => simp [intOf]; omega
        · have U1 : Hid _ := u1
          clear u1
          go_wp2_with fail
          refine (HL.out op b c 0 false ho0 ho1 U1.out rfl _ _ HC.out HX.out).mono ?_
          rintro e w4 ⟨rfl, rfl⟩
          go_wp2_with fail
          go_quiet (first
            | (go_at_call_of 12 (Value.int .u8 (op + @OfNat.ofNat Int (nat_lit 2) instOfNat)); exact Calls.quiet_of_same (HW.out _ (by omega) (by omega) _))
            | (go_at_call_of 12 (Value.int .u8 (op + @OfNat.ofNat Int (nat_lit 4) instOfNat)); exact Calls.quiet_of_same (HW.out _ (by omega) (by omega) _))
            | (go_at_call_of 12 (Value.int .u8 (op + @OfNat.ofNat Int (nat_lit 6) instOfNat)); exact Calls.quiet_of_same (HW.out _ (by omega) (by omega) _))
            | (go_at_call_of 12 (Value.int .u8 op); exact Calls.quiet_of_same (HW.out _ (by omega) (by omega) _))
            | (go_at_call_of 11 (Value.int .u8 (wo (op + @OfNat.ofNat Int (nat_lit 2) instOfNat))); exact Calls.quiet_of_same (HT.out _ _ _ _ E4.out _))
            | (go_at_call_of 11 (Value.int .u8 (wo (op + @OfNat.ofNat Int (nat_lit 4) instOfNat))); exact Calls.quiet_of_same (HT.out _ _ _ _ E5.out _))
            | (go_at_call_of 11 (Value.int .u8 (wo (op + @OfNat.ofNat Int (nat_lit 6) instOfNat))); exact Calls.quiet_of_same (HT.out _ _ _ _ E6.out _))
            | (go_at_call_of 11 (Value.int .u8 (wo op)); go_at_call_of 11 ([Value.int .i64 a, Value.int .i64 b]); exact Calls.quiet_of_same (HT.out _ _ _ _ E1.out _))
            | (go_at_call_of 11 (Value.int .u8 (wo op)); go_at_call_of 11 ([Value.int .i64 b, Value.int .i64 a]); exact Calls.quiet_of_same (HT.out _ _ _ _ E2.out _)))
          go_wp2
          go_roundw
          case rel => exact ⟨k + 1, by go_num, by omega, HC.out, HK.out, below_drewN HB3.out.1 _, HB3.out.2⟩
          case measure => simp [intOf]; omega
      · have E1 : Hid _ := t1
        have E2 : Hid _ := t2
        have E4 : Hid _ := t4
        have E5 : Hid _ := t5
        have E6 : Hid _ := t6
        clear t1 t2 t4 t5 t6
        subst heq
        go_wp2_with fail
        refine (HL.out op a a 0 false ho0 ho1 E1.out rfl _ _ HC.out HX.out).mono ?_
        rintro e w4 ⟨rfl, rfl⟩
        go_wp2_with fail
        refine (HL.out op a a 0 false ho0 ho1 E1.out rfl _ _ HC.out HX.out).mono ?_
        rintro e w4 ⟨rfl, rfl⟩
        go_wp2_with fail
        go_quiet (first
          | (go_at_call_of 12 (Value.int .u8 (op + @OfNat.ofNat Int (nat_lit 2) instOfNat)); exact Calls.quiet_of_same (HW.out _ (by omega) (by omega) _))
          | (go_at_call_of 12 (Value.int .u8 (op + @OfNat.ofNat Int (nat_lit 4) instOfNat)); exact Calls.quiet_of_same (HW.out _ (by omega) (by omega) _))
          | (go_at_call_of 12 (Value.int .u8 (op + @OfNat.ofNat Int (nat_lit 6) instOfNat)); exact Calls.quiet_of_same (HW.out _ (by omega) (by omega) _))
          | (go_at_call_of 12 (Value.int .u8 op); exact Calls.quiet_of_same (HW.out _ (by omega) (by omega) _))
          | (go_at_call_of 11 (Value.int .u8 (wo (op + @OfNat.ofNat Int (nat_lit 2) instOfNat))); exact Calls.quiet_of_same (HT.out _ _ _ _ E4.out _))
          | (go_at_call_of 11 (Value.int .u8 (wo (op + @OfNat.ofNat Int (nat_lit 4) instOfNat))); exact Calls.quiet_of_same (HT.out _ _ _ _ E5.out _))
          | (go_at_call_of 11 (Value.int .u8 (wo (op + @OfNat.ofNat Int (nat_lit 6) instOfNat))); exact Calls.quiet_of_same (HT.out _ _ _ _ E6.out _))
          | (go_at_call_of 11 (Value.int .u8 (wo op)); go_at_call_of 11 ([Value.int .i64 a, Value.int .i64 a]); exact Calls.quiet_of_same (HT.out _ _ _ _ E1.out _))
          | (go_at_call_of 11 (Value.int .u8 (wo op)); go_at_call_of 11 ([Value.int .i64 a, Value.int .i64 a]); exact Calls.quiet_of_same (HT.out _ _ _ _ E2.out _)))
        go_wp2
        go_roundw
        case rel => exact ⟨k + 1, by go_num, by omega, HC.out, HK.out, below_drewN HB3.out.1 _, HB3.out.2⟩
        case measure => simp [intOf]; omega
      · have E1 : Hid _ := t1
        have E2 : Hid _ := t2
        have E4 : Hid _ := t4
        have E5 : Hid _ := t5
        have E6 : Hid _ := t6
        have hneb : (a == b) = false := by rw [beq_eq_false_iff_ne]; exact hne
        have hnb : (a != b) = true := by rw [bne, hneb]; rfl
        have hdd : (decide (a = b)) = false := decide_eq_false hne
        clear t1 t2 t4 t5 t6 hne
        go_wp2_with fail
        refine (HL.out op a b 0 false ho0 ho1 E1.out rfl _ _ HC.out HX.out).mono ?_
        rintro e w4 ⟨rfl, rfl⟩
        go_wp2_with fail
        refine (HL.out op a b 0 false ho0 ho1 E1.out rfl _ _ HC.out HX.out).mono ?_
        rintro e w4 ⟨rfl, rfl⟩
        go_wp2_with fail
        refine (HL.out op b a 1 true ho0 ho1 E2.out rfl _ _ HC.out HX.out).mono ?_
        rintro e w4 ⟨rfl, rfl⟩
        go_wp2_with fail
        refine (HL.out op a b 0 false ho0 ho1 E1.out rfl _ _ HC.out HX.out).mono ?_
        rintro e w4 ⟨rfl, rfl⟩
        go_wp2_with fail
        go_quiet (first
          | (go_at_call_of 12 (Value.int .u8 (op + @OfNat.ofNat Int (nat_lit 2) instOfNat)); exact Calls.quiet_of_same (HW.out _ (by omega) (by omega) _))
          | (go_at_call_of 12 (Value.int .u8 (op + @OfNat.ofNat Int (nat_lit 4) instOfNat)); exact Calls.quiet_of_same (HW.out _ (by omega) (by omega) _))
          | (go_at_call_of 12 (Value.int .u8 (op + @OfNat.ofNat Int (nat_lit 6) instOfNat)); exact Calls.quiet_of_same (HW.out _ (by omega) (by omega) _))
          | (go_at_call_of 12 (Value.int .u8 op); exact Calls.quiet_of_same (HW.out _ (by omega) (by omega) _))
          | (go_at_call_of 11 (Value.int .u8 (wo (op + @OfNat.ofNat Int (nat_lit 2) instOfNat))); exact Calls.quiet_of_same (HT.out _ _ _ _ E4.out _))
          | (go_at_call_of 11 (Value.int .u8 (wo (op + @OfNat.ofNat Int (nat_lit 4) instOfNat))); exact Calls.quiet_of_same (HT.out _ _ _ _ E5.out _))
          | (go_at_call_of 11 (Value.int .u8 (wo (op + @OfNat.ofNat Int (nat_lit 6) instOfNat))); exact Calls.quiet_of_same (HT.out _ _ _ _ E6.out _))
          | (go_at_call_of 11 (Value.int .u8 (wo op)); go_at_call_of 11 ([Value.int .i64 a, Value.int .i64 b]); exact Calls.quiet_of_same (HT.out _ _ _ _ E1.out _))
          | (go_at_call_of 11 (Value.int .u8 (wo op)); go_at_call_of 11 ([Value.int .i64 b, Value.int .i64 a]); exact Calls.quiet_of_same (HT.out _ _ _ _ E2.out _)))
        go_wp2
        go_roundw
        case rel => exact ⟨k + 1, by go_num, by omega, HC.out, HK.out, below_drewN HB3.out.1 _, HB3.out.2⟩
        case measure => simp [intOf]; omega
    · have hk2 : k = 2 := by omega
      subst hk2
      clear HS HL
      have HC : Hid _ := hq
      go_wp2_with fail
      refine (HW.out 70 (by omega) (by omega) _).mono ?_
      rintro e w4 ⟨rfl, rfl⟩
      go_wp2_with fail
      refine (HT.out _ _ _ _ E70.out _).mono ?_
      rintro e w4 ⟨rfl, rfl⟩
      go_wp2_with fail
      rcases hS.out with ⟨hs, he⟩ | ⟨hs, he⟩
      · subst hs
        subst he
        have E7 : Hid (T 71 a a 0) := E71.out
        clear E71
        go_quiet (first
          | (go_at_call_of 12 (Value.int .u8 71); exact Calls.quiet_of_same (HW.out _ (by omega) (by omega) _))
          | (go_at_call_of 12 (Value.int .u8 69); exact Calls.quiet_of_same (HW.out _ (by omega) (by omega) _))
          | (go_at_call_of 12 (Value.int .u8 70); exact Calls.quiet_of_same (HW.out _ (by omega) (by omega) _))
          | (go_at_call_of 11 (Value.int .u8 (wo 71)); exact Calls.quiet_of_same (HT.out _ _ _ _ E7.out _))
          | (go_at_call_of 11 (Value.int .u8 (wo 70)); exact Calls.quiet_of_same (HT.out _ _ _ _ EZ.out _))
          | (go_at_call_of 13 (Value.int .u8 (wo 69)); exact Calls.quiet_of_same (HO.out _)))
        go_wp2
        go_ret
        exact ⟨rfl, below_drewN HBB.out _⟩
      · subst hs
        have E7 : Hid (T 71 a b 1) := E71.out
        have heb : (a == b) = false := by rw [beq_eq_false_iff_ne]; exact he
        clear E71
        go_quiet (first
          | (go_at_call_of 12 (Value.int .u8 71); exact Calls.quiet_of_same (HW.out _ (by omega) (by omega) _))
          | (go_at_call_of 12 (Value.int .u8 69); exact Calls.quiet_of_same (HW.out _ (by omega) (by omega) _))
          | (go_at_call_of 12 (Value.int .u8 70); exact Calls.quiet_of_same (HW.out _ (by omega) (by omega) _))
          | (go_at_call_of 11 (Value.int .u8 (wo 71)); exact Calls.quiet_of_same (HT.out _ _ _ _ E7.out _))
          | (go_at_call_of 11 (Value.int .u8 (wo 70)); exact Calls.quiet_of_same (HT.out _ _ _ _ EZ.out _))
          | (go_at_call_of 13 (Value.int .u8 (wo 69)); exact Calls.quiet_of_same (HO.out _)))
        go_wp2
        go_ret
        exact ⟨rfl, below_drewN HBB.out _⟩
end Go.Proofs.YtlbilmgpnpghlaaDoor
