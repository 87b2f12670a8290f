/-
  What Load does.
-/
import Derived.Test.YtomiganjagjabaaMM10
namespace Go.Proofs.Ytomiganjagjabaa
open Go.RowKit

/-- Loads that leave the sign out. -/
def noSign (op : Int) : Prop := op = 45 ∨ op = 47 ∨ op = 49 ∨ op = 51 ∨ op = 53
instance (op : Int) : Decidable (noSign op) := by unfold noSign; infer_instance
/-- What a load makes of a number. -/
def ldV (op : Int) (wd N : Nat) : Int := if noSign op then wrap64 (N : Int) else sgnN N (8 * (8 - wd))
theorem numN_zeros (l : List Int) (k : Nat) : numN (l ++ List.replicate k 0) = numN l := by
  induction k with
  | zero => simp
  | succ k ih =>
    rw [List.replicate_succ', ← List.append_assoc, numN_app, ih]
    simp
set_option maxHeartbeats 1000000 in
set_option maxRecDepth 1000000 in
theorem load_un (P : Nat) (op base off : Int) (h : insW op = 0 ∨ ¬ op < 54) (w : World) :
    Calls Try.prog 13 #[.pointer (some ⟨P, 0, none⟩), .int .u8 op, .int .i64 base, .int .i64 off] w fun r w' => r = .returned (.tuple #[.int .i64 0, .int .i64 6]) ∧ w' = w := by
  have HW := width_any op w
  by_cases h0 : insW op = 0
  · rw [h0] at HW
    go_enter Try.func13, Try.ntmps13
    go_wp2_with (go_at_call 27; refine HW.mono ?_; rintro r w1 ⟨rfl, rfl⟩)
    go_ret2
    exact ⟨rfl, rfl⟩
  · have h1 : 54 ≤ op := by omega
    have h2 : ((insW op : Int) == 0) = false := by rw [beq_eq_false_iff_ne]; exact h0
    clear h
    go_enter Try.func13, Try.ntmps13
    go_wp2_with (go_at_call 27; refine HW.mono ?_; rintro r w1 ⟨rfl, rfl⟩)
    go_ret2
    exact ⟨rfl, rfl⟩
set_option maxHeartbeats 1000000 in
set_option maxRecDepth 1000000 in
theorem load_no (P g n : Nat) (most : Int) (b : List Int) (op base off : Int) (wd : Nat) (hwd : insW op = (wd : Int)) (h0 : wd ≠ 0) (h8 : wd ≤ 8) (h54 : op < 54) (he : plE b.length base off wd ≠ 0) (w : World) (h : MB w P g n most b) :
    Calls Try.prog 13 #[.pointer (some ⟨P, 0, none⟩), .int .u8 op, .int .i64 base, .int .i64 off] w fun r w' => r = .returned (.tuple #[.int .i64 0, .int .i64 (plE b.length base off wd)]) ∧ w' = w := by
  have HW := width_any op w
  rw [hwd] at HW
  have HP := place_any P g n most b base off wd h8 w h
  obtain ⟨e, hee⟩ : ∃ e, e = plE b.length base off wd := ⟨_, rfl⟩
  rw [← hee] at HP he ⊢
  have h2 : ((wd : Int) == 0) = false := by rw [beq_eq_false_iff_ne]; omega
  have h3 : (e == 0) = false := by rw [beq_eq_false_iff_ne]; exact he
  have h5 : ¬ (54 ≤ op) := by omega
  have HP2 : Hid (Calls Try.prog 28 #[.pointer (some ⟨P, 0, none⟩), .int .i64 base, .int .i64 off, .int .i64 (wd : Int)] w fun r w' => r = .returned (.tuple #[.int .i64 0, .int .i64 e]) ∧ w' = w) := by
    refine HP.mono ?_
    rintro r w' ⟨h, ⟨_, h2⟩ | ⟨h1, _⟩⟩
    · exact ⟨h2, h⟩
    · exact absurd h1 he
  clear h HP hee he hwd h0 h8
  go_enter Try.func13, Try.ntmps13
  go_wp2_with (first | (go_at_call 27; refine HW.mono ?_; rintro r w1 ⟨rfl, rfl⟩) | (go_at_call 28; refine HP2.out.mono ?_; rintro r w1 ⟨rfl, rfl⟩))
  go_ret2
  exact ⟨rfl, rfl⟩
set_option maxHeartbeats 1000000 in
set_option maxRecDepth 1000000 in
theorem load_yes (P g n : Nat) (most : Int) (b : List Int) (op base off : Int) (wd a : Nat) (hwd : insW op = (wd : Int)) (hw4 : wd = 1 ∨ wd = 2 ∨ wd = 4 ∨ wd = 8) (h54 : op < 54) (he : plE b.length base off wd = 0) (ha : base % 4294967296 + off = (a : Int)) (w : World) (h : MB w P g n most b) :
    Calls Try.prog 13 #[.pointer (some ⟨P, 0, none⟩), .int .u8 op, .int .i64 base, .int .i64 off] w fun r w' => r = .returned (.tuple #[.int .i64 (ldV op wd (numN ((b.drop a).take wd))), .int .i64 0]) ∧ Below w.heap.size w w' := by
  have h8 : wd ≤ 8 := by omega
  have HW := width_any op w
  rw [hwd] at HW
  have HP := place_any P g n most b base off wd h8 w h
  have hfit : a + wd ≤ b.length := by
    unfold plE at he
    split at he
    · exact absurd he (by decide)
    · split at he
      · exact absurd he (by decide)
      · omega
  rw [he, ha] at HP
  have h2 : ((wd : Int) == 0) = false := by rw [beq_eq_false_iff_ne]; omega
  have h5 : ¬ (54 ≤ op) := by omega
  have HP2 : Hid (Calls Try.prog 28 #[.pointer (some ⟨P, 0, none⟩), .int .i64 base, .int .i64 off, .int .i64 (wd : Int)] w fun r w' => r = .returned (.tuple #[.int .i64 (a : Int), .int .i64 0]) ∧ w' = w) := by
    refine HP.mono ?_
    rintro r w' ⟨h, ⟨h1, _⟩ | ⟨_, h2⟩⟩
    · exact absurd rfl h1
    · exact ⟨h2, h⟩
  have hlt := h.lt
  have hby' := h.byte
  obtain ⟨⟨cap, L, hm, hb, hby⟩, hn8, hlen⟩ := h
  obtain ⟨d, hd⟩ : ∃ d, d = (b.drop a).take wd := ⟨_, rfl⟩
  have hdl : d.length = wd := by rw [hd, List.length_take, List.length_drop]; omega
  have hdb : Bts d := by rw [hd]; exact fun x hx => hby' x (List.mem_of_mem_drop (List.mem_of_mem_take hx))
  have hdL : (L.drop a).take wd = d := by
    rw [hd, ← hb, List.drop_take, List.take_take]
    congr 1
    omega
  rw [← hd]
  obtain ⟨q, hq⟩ : ∃ q, q = d ++ List.replicate (8 - wd) 0 := ⟨_, rfl⟩
  have hql : q.length = 8 := by rw [hq, List.length_append, List.length_replicate, hdl]; omega
  have hqb : Bts q := by
    rw [hq]
    intro x hx
    rcases List.mem_append.1 hx with hx | hx
    · exact hdb x hx
    · exact rep_bts _ x hx
  have hqn : numN q = numN d := by rw [hq, numN_zeros]
  have hqs : splice (List.replicate 8 0) 0 d = q := by
    rw [hq]
    unfold splice
    rw [hdl, List.take_zero, List.nil_append, Nat.zero_add, List.drop_replicate]
  have HRD := mread_any P g n cap most L w.heap.size 0 wd 8 a (List.replicate 8 0) 59 (w.alloc (.cells #[.int .u8 0, .int .u8 0, .int .u8 0, .int .u8 0, .int .u8 0, .int .u8 0, .int .u8 0, .int .u8 0] 59)) (hm.under ((Below.refl _ _).alloc (Nat.le_refl _) _)) (A8.new w).1 (by omega) (by omega) hn8 (by omega) h8 (by rw [List.length_replicate]; omega)
  rw [hdL, hqs] at HRD
  have HSL : Hid (∀ W, (Instr.sliceAt 59 (.pointer (some ⟨w.heap.size, 0, none⟩)) none (some (.int .i64 (wd : Int))) none).run Try.prog W = .ok (.slice (some ⟨w.heap.size, 0, none⟩) wd 8) W) := fun W => slice8 _ _ h8 W
  have HR2 : Hid (Calls Try.prog 29 #[.pointer (some ⟨P, 0, none⟩), .int .i64 (a : Int), .slice (some ⟨w.heap.size, 0, none⟩) wd 8] (w.alloc (.cells #[.int .u8 0, .int .u8 0, .int .u8 0, .int .u8 0, .int .u8 0, .int .u8 0, .int .u8 0, .int .u8 0] 59)) fun r w' => r = .returned (.tuple #[]) ∧ A8 w' w.heap.size q ∧ Below w.heap.size w w') := by
    refine HRD.mono ?_
    rintro r w' ⟨rfl, hc, hg⟩
    exact ⟨rfl, ⟨hg, hql⟩, ((Below.refl _ _).alloc (Nat.le_refl _) _).trans (hc.below (Nat.le_refl _) (by rw [World.size_alloc]; omega))⟩
  have HNU : Hid (∀ W, type_of% (numberOf_any q hql hqb W)) := fun W => numberOf_any q hql hqb W
  obtain ⟨N, hN⟩ : ∃ N, N = numN d := ⟨_, rfl⟩
  rw [hqn, ← hN] at HNU
  rw [← hN]
  have HWS : Hid (∀ W, type_of% (withSign_any N wd hw4 W)) := fun W => withSign_any N wd hw4 W
  have HCI : Hid (∀ W, type_of% (cvI N W)) := fun W => cvI N W
  clear hm hb hby hby' hlen hlt hfit HP he ha hwd h8 hn8 HRD hqs hqn hqb hql hq hdL hdb hdl hd hN hw4
  by_cases hs : noSign op
  · have HHS : Hid (∀ W, type_of% (hasSign_no op hs W)) := fun W => hasSign_no op hs W
    have HV : Hid (ldV op wd N = wrap64 (N : Int)) := by unfold Hid ldV; rw [if_pos hs]
    obtain ⟨Y, hY⟩ : ∃ Y : Int, Y = wrap64 (N : Int) := ⟨_, rfl⟩
    rw [← hY] at HCI HV
    clear hs hY
    go_enter Try.func13, Try.ntmps13
    go_wp2_with (first | (go_at_call 27; refine HW.mono ?_; rintro r w1 ⟨rfl, rfl⟩) | (go_at_call 28; refine HP2.out.mono ?_; rintro r w1 ⟨rfl, rfl⟩) | (refine wp_sliceHX rfl (.tmp 13) (.tmp 36) 59 rfl _ _ rfl rfl _ (HSL.out _) ?_))
    refine HR2.out.mono ?_
    rintro r w2 ⟨rfl, hA, hb2⟩
    have HLD : Hid (type_of% hA.load) := hA.load
    have HB2 : Hid (type_of% hb2) := hb2
    clear hA hb2
    go_wp2_with (refine wp_loadX rfl (.tmp 13) 59 rfl _ rfl _ HLD.out ?_)
    refine (HNU.out _).mono ?_
    rintro r w3 ⟨rfl, hb3⟩
    have HB3 : Hid (Below _ _ w3) := HB2.out.trans (hb3.mono (by have := HB2.out.size; omega))
    clear hb3
    go_wp2_with fail
    refine (HHS.out _).mono ?_
    rintro r w4 ⟨rfl, rfl⟩
    go_wp2_with (refine wp_convX rfl (.tmp 46) 60 2 rfl _ rfl _ _ (HCI.out _) ?_)
    go_ret2
    exact ⟨by rw [HV.out]; rfl, HB3.out⟩
  · have HHS : Hid (∀ W, type_of% (hasSign_yes op hs W)) := fun W => hasSign_yes op hs W
    have HV : Hid (ldV op wd N = sgnN N (8 * (8 - wd))) := by unfold Hid ldV; rw [if_neg hs]
    obtain ⟨Y, hY⟩ : ∃ Y : Int, Y = sgnN N (8 * (8 - wd)) := ⟨_, rfl⟩
    rw [← hY] at HWS HV
    clear hs hY
    go_enter Try.func13, Try.ntmps13
    go_wp2_with (first | (go_at_call 27; refine HW.mono ?_; rintro r w1 ⟨rfl, rfl⟩) | (go_at_call 28; refine HP2.out.mono ?_; rintro r w1 ⟨rfl, rfl⟩) | (refine wp_sliceHX rfl (.tmp 13) (.tmp 36) 59 rfl _ _ rfl rfl _ (HSL.out _) ?_))
    refine HR2.out.mono ?_
    rintro r w2 ⟨rfl, hA, hb2⟩
    have HLD : Hid (type_of% hA.load) := hA.load
    have HB2 : Hid (type_of% hb2) := hb2
    clear hA hb2
    go_wp2_with (refine wp_loadX rfl (.tmp 13) 59 rfl _ rfl _ HLD.out ?_)
    refine (HNU.out _).mono ?_
    rintro r w3 ⟨rfl, hb3⟩
    have HB3 : Hid (Below _ _ w3) := HB2.out.trans (hb3.mono (by have := HB2.out.size; omega))
    clear hb3
    go_wp2_with fail
    refine (HHS.out _).mono ?_
    rintro r w4 ⟨rfl, rfl⟩
    go_wp2_with fail
    refine (HWS.out _).mono ?_
    rintro r w5 ⟨rfl, rfl⟩
    go_wp2
    go_ret2
    exact ⟨by rw [HV.out]; rfl, HB3.out⟩
end Go.Proofs.Ytomiganjagjabaa
