/-
  The document's own NestDeep.
-/
import Derived.Test.YtkceplamaocmmaaDoorNScan
namespace Go.Proofs.YtkceplamaocmmaaDoor
open Go.RowKit

set_option maxHeartbeats 8000000 in
set_option maxRecDepth 1000000 in
theorem rdeep_core (o : Option Addr) (cap n : Nat) (L : List InsD) (hl : L.length = n) (hn : n ≤ 200) (R : Int × Int × Int) (w : World) (h : LD w o L) (HR0 : Hid (ndRun (L.map InsD.op) (0, 0, 0) = R)) :
    Calls Tryd.prog 5 #[.slice o n cap] w fun r w' => r = .returned (.tuple #[.int .i64 R.2.1, .int .i64 R.2.2]) ∧ Below w.heap.size w w' := by
  have HLn : Hid (L.length = n) := hl
  have HLD : Hid (LD w o L) := h
  have hni : (n : Int) ≤ 200 := by omega
  clear hl h
  go_enter Tryd.func5, Tryd.ntmps5
  go_wp2
  go_loopw [4, 5, 6, 11] (fun ov mv av i wr => ∃ j : Nat, ∃ op mo al : Int, ov = .int .i64 op ∧ mv = .int .i64 mo ∧ av = .int .i64 al ∧ i = .int .i64 j ∧ j ≤ n ∧ (-(j : Int) ≤ op ∧ op ≤ j) ∧ (0 ≤ mo ∧ mo ≤ j ∧ op ≤ mo) ∧ (0 ≤ al ∧ al ≤ j) ∧ Hid (ndRun ((L.map InsD.op).drop j) (op, mo, al) = R) ∧ Hid (Below w.heap.size w wr)) (fun _ _ _ i _ => n - (intOf i).toNat)
  case atStart => exact ⟨0, 0, 0, 0, rfl, rfl, rfl, rfl, by omega, by omega, by omega, by omega, HR0, Below.refl _ _⟩
  case round =>
    obtain ⟨j, op, mo, al, rfl, rfl, rfl, rfl, hj, hop, hmo, hal, HRR, HB⟩ := hrel
    have hsw := HB.out.size
    by_cases hlt : j < n
    · have hkl : j < L.length := by rw [HLn.out]; exact hlt
      rcases HLD.out.2 with h0 | ⟨b, f, rfl, hbw, hc⟩
      · exfalso; rw [h0] at hkl; simp at hkl
      obtain ⟨m0, m1, m2, m3⟩ := hc j hkl
      have hdr : (L.map InsD.op).drop j = (L[j]).op :: (L.map InsD.op).drop (j + 1) := by
        rw [List.drop_eq_getElem_cons (by simp; exact hkl), List.getElem_map]
      rw [hdr, ndRun] at HRR
      clear hdr
      have e0 := HB.out.cell (p := ⟨b, f + j * 4, none⟩) hbw
      have e1 := HB.out.cell (p := ⟨b, f + j * 4 + 1, none⟩) hbw
      have e2 := HB.out.cell (p := ⟨b, f + j * 4 + 2, none⟩) hbw
      have e3 := HB.out.cell (p := ⟨b, f + j * 4 + 3, none⟩) hbw
      rw [m0] at e0
      rw [m1] at e1
      rw [m2] at e2
      rw [m3] at e3
      have HB2 : Hid (Below w.heap.size w (wr.alloc (.cells #[.int .u8 (L[j]).op, .int .i64 (L[j]).A, .int .i64 (L[j]).B, .slice (L[j]).o (L[j]).n (L[j]).cap] 30))) := HB.out.alloc hsw _
      clear hc m0 m1 m2 m3 HB
      generalize L[j] = d at e0 e1 e2 e3 HRR HB2
      obtain ⟨x, A, B', o', n', cap', xs⟩ := d
      simp only at e0 e1 e2 e3 HRR HB2
      have hki0 : (0 : Int) ≤ (j : Int) := by omega
      have hki1 : (j : Int) < (n : Int) := by omega
      by_cases hx2 : x < 2
      · have g1 : decide (2 ≤ x) = false := by simp; omega
        have g2 : (x == 11) = false := by rw [beq_eq_false_iff_ne]; omega
        have hno : ¬ isO x := by unfold isO; omega
        have HR2 : Hid (ndRun ((L.map InsD.op).drop (j + 1)) (op, max mo (op), al) = R) := by
          have h5 := HRR.out
          rw [nd_skip x hno (by omega) op mo al (by omega), ← show max mo op = mo by omega] at h5
          exact h5
        clear HRR
        have hmx : (if op > mo then op else mo) = max mo (op) := by
          split <;> omega
        go_wp2
        all_goals
          go_roundw
          case rel => exact ⟨j + 1, op, max mo (op), al, by first | rfl | go_num | (congr 1; omega), by first | rfl | go_num | (congr 1; omega), by first | rfl | go_num | (congr 1; omega), by go_num, by omega, by omega, by omega, by omega, HR2, HB2⟩
          case measure => simp [intOf]; omega
      by_cases hx4 : x ≤ 4
      · have g1 : decide (2 ≤ x) = true := by simp; omega
        have g3 : decide (x ≤ 4) = true := by simp; omega
        have g2 : (x == 11) = false := by rw [beq_eq_false_iff_ne]; omega
        have hno : isO x := by unfold isO; omega
        have HR2 : Hid (ndRun ((L.map InsD.op).drop (j + 1)) (op + 1, max mo (op + 1), al + 1) = R) := by
          have h5 := HRR.out
          rw [nd_open x hno op mo al] at h5
          exact h5
        clear HRR
        have hmx : (if op + 1 > mo then op + 1 else mo) = max mo (op + 1) := by
          split <;> omega
        go_wp2
        all_goals
          go_roundw
          case rel => exact ⟨j + 1, op + 1, max mo (op + 1), al + 1, by first | rfl | go_num | (congr 1; omega), by first | rfl | go_num | (congr 1; omega), by first | rfl | go_num | (congr 1; omega), by go_num, by omega, by omega, by omega, by omega, HR2, HB2⟩
          case measure => simp [intOf]; omega
      by_cases hx11 : x = 11
      · subst hx11
        clear hx2 hx4
        have HR2 : Hid (ndRun ((L.map InsD.op).drop (j + 1)) (op - 1, max mo (op - 1), al) = R) := by
          have h5 := HRR.out
          rw [nd_end op mo al] at h5
          exact h5
        clear HRR
        have hmx : (if op - 1 > mo then op - 1 else mo) = max mo (op - 1) := by
          split <;> omega
        go_wp2
        all_goals
          go_roundw
          case rel => exact ⟨j + 1, op - 1, max mo (op - 1), al, by first | rfl | go_num | (congr 1; omega), by first | rfl | go_num | (congr 1; omega), by first | rfl | go_num | (congr 1; omega), by go_num, by omega, by omega, by omega, by omega, HR2, HB2⟩
          case measure => simp [intOf]; omega
      · have g1 : decide (2 ≤ x) = true := by simp; omega
        have g3 : decide (x ≤ 4) = false := by simp; omega
        have g2 : (x == 11) = false := by rw [beq_eq_false_iff_ne]; exact hx11
        have hno : ¬ isO x := by unfold isO; omega
        have HR2 : Hid (ndRun ((L.map InsD.op).drop (j + 1)) (op, max mo (op), al) = R) := by
          have h5 := HRR.out
          rw [nd_skip x hno hx11 op mo al (by omega), ← show max mo op = mo by omega] at h5
          exact h5
        clear HRR
        have hmx : (if op > mo then op else mo) = max mo (op) := by
          split <;> omega
        go_wp2
        all_goals
          go_roundw
          case rel => exact ⟨j + 1, op, max mo (op), al, by first | rfl | go_num | (congr 1; omega), by first | rfl | go_num | (congr 1; omega), by first | rfl | go_num | (congr 1; omega), by go_num, by omega, by omega, by omega, by omega, HR2, HB2⟩
          case measure => simp [intOf]; omega
    · have hd : (L.map InsD.op).drop j = [] := List.drop_eq_nil_of_le (by rw [List.length_map, HLn.out]; omega)
      rw [hd] at HRR
      have hR : (op, mo, al) = R := HRR.out
      subst hR
      go_wp2
      go_ret2
      exact ⟨rfl, HB.out⟩

end Go.Proofs.YtkceplamaocmmaaDoor
