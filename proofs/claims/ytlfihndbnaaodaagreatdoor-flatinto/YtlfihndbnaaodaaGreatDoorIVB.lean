/-
 What the program's own valid.Head asks of a module's start.
 What the program's own valid.Head asks of the parts of the table.
 What the program's own valid.Head says of a module.
-/
import Derived.Test.YtlfihndbnaaodaaGreatDoorIVA
set_option maxHeartbeats 4000000
set_option maxRecDepth 1000000
namespace Go.Proofs.YtlfihndbnaaodaaGreatDoor
open Go.RowKit
set_option linter.unusedVariables false
theorem check_start (oT oI oF oG oE oL oD : Option Addr) (nT kT nI kI nF kF nG kG nE kE nL kL nD kD : Nat) (t p q s : Int) (w : World) (LT : List SigD) (RT : Hid (RowsOf w 2 SigD.cells SigD.ok oT kT LT)) (HLT : Hid (LT.length = nT)) (LI : List NamD) (RI : Hid (RowsOf w 2 NamD.cells NamD.ok oI kI LI)) (HLI : Hid (LI.length = nI)) (LF : List FunD) (RF : Hid (RowsOf w 3 FunD.cells FunD.ok oF kF LF)) (HLF : Hid (LF.length = nF)) (hI : nI ≤ 16) (hF : nF ≤ 16) (hs : 0 ≤ s) (hs2 : s ≤ 4294967295)
  (HTI : Hid (∀ i, i < nI → 0 ≤ (LI[i]!).n ∧ (LI[i]!).n < (nT : Int))) (HTF : Hid (∀ i, i < nF → 0 ≤ (LF[i]!).t ∧ (LF[i]!).t < (nT : Int))) (HTB : Hid (∀ d ∈ LT, d.i.n ≤ 16 ∧ d.r.n ≤ 16)) (z : Int) (HR : Hid (startErr LT LI LF s = z)) :
  Calls Tryz.prog 43 #[.agg #[.slice oT nT kT, .slice oI nI kI, .slice oF nF kF, .int .i64 t, .int .i64 p, .int .i64 q, .slice oG nG kG, .slice oE nE kE, .int .i64 s, .slice oL nL kL, .slice oD nD kD]] w fun r w' => r = .returned (.int .i64 z) ∧ Below w.heap.size w w' := by
 have mT : kT ≤ 9223372036854775807 := by have := RT.out.most; unfold maxLen at this; omega
 have cT : nT ≤ kT := by have := RT.out.le; rw [HLT.out] at this; exact this
 have mI : kI ≤ 9223372036854775807 := by have := RI.out.most; unfold maxLen at this; omega
 have cI : nI ≤ kI := by have := RI.out.le; rw [HLI.out] at this; exact this
 have mF : kF ≤ 9223372036854775807 := by have := RF.out.most; unfold maxLen at this; omega
 have cF : nF ≤ kF := by have := RF.out.le; rw [HLF.out] at this; exact this
 have HRN : Hid (s ≠ 0 → z = if (nI : Int) + (nF : Int) ≤ s - 1 then 8 else if 0 < ((sigAt LT LI LF (s - 1).toNat).i.n : Int) + ((sigAt LT LI LF (s - 1).toNat).r.n : Int) then 10 else 0) := fun h => by
  rw [← HR.out, startErr, if_neg h, HLI.out, HLF.out]
 have HSg : Hid (∀ k, sigAt LT LI LF k = if k < nI then LT[(LI[k]!).n.toNat]! else LT[(LF[k - nI]!).t.toNat]!) := fun k => by rw [sigAt, HLI.out]
 by_cases hs0 : s = 0
 ·subst hs0
  have HF0 : Hid (z = 0) := HR.out.symm
  have HB0 : Hid (Below (w.heap.size + 1) (w.alloc (.cells #[.slice oT nT kT, .slice oI nI kI, .slice oF nF kF, .int .i64 t, .int .i64 p, .int .i64 q, .slice oG nG kG, .slice oE nE kE, .int .i64 0, .slice oL nL kL, .slice oD nD kD] 30)) (w.alloc (.cells #[.slice oT nT kT, .slice oI nI kI, .slice oF nF kF, .int .i64 t, .int .i64 p, .int .i64 q, .slice oG nG kG, .slice oE nE kE, .int .i64 0, .slice oL nL kL, .slice oD nD kD] 30))) := Below.refl _ _
  have HBW : Hid (∀ w', Below (w.heap.size + 1) (w.alloc (.cells #[.slice oT nT kT, .slice oI nI kI, .slice oF nF kF, .int .i64 t, .int .i64 p, .int .i64 q, .slice oG nG kG, .slice oE nE kE, .int .i64 0, .slice oL nL kL, .slice oD nD kD] 30)) w' → Below w.heap.size w w') := fun w' b => ((Below.refl _ _).alloc (Nat.le_refl _) _ : Below w.heap.size w (w.alloc (.cells #[.slice oT nT kT, .slice oI nI kI, .slice oF nF kF, .int .i64 t, .int .i64 p, .int .i64 q, .slice oG nG kG, .slice oE nE kE, .int .i64 0, .slice oL nL kL, .slice oD nD kD] 30))).trans (b.mono (Nat.le_succ _))
  obtain ⟨c0, c1, c2, c3, c4, c5, c6, c7, c8, c9, c10⟩ := cells11 HB0.out
  go_enter Tryz.func43, Tryz.ntmps43
  go_wp2
  go_ret
  exact ⟨by rw [HF0.out]; rfl, HBW.out _ HB0.out⟩
 ·have hk0 : 0 ≤ s - 1 := by omega
  have hkd0 : decide (0 ≤ s - 1) = true := decide_eq_true hk0
  have HR1 := HRN.out hs0
  by_cases hkN : s - 1 < (nI : Int) + (nF : Int)
  ·rw [if_neg (by omega)] at HR1
   by_cases hkI : s - 1 < (nI : Int)
   ·skip
    have hkdI : decide (s - 1 < (nI : Int)) = true := decide_eq_true hkI
    have hkd : decide (s - 1 < (nI : Int) + (nF : Int)) = true := decide_eq_true hkN
    have hiN : (s - 1).toNat < nI := by omega
    have hiL : (s - 1).toNat < LI.length := by rw [HLI.out]; exact hiN
    have hsg := HSg.out (s - 1).toNat
    rw [if_pos (by omega)] at hsg
    rw [hsg] at HR1
    clear hsg
    obtain ⟨hr0, hr1⟩ := HTI.out _ hiN
    obtain ⟨b, f, rfl, hbN, hcl⟩ := RI.out.cellAt (fun e => by rw [e] at hiL; exact absurd hiL (by simp))
    have htL : (LI[(s - 1).toNat]!).n.toNat < LT.length := by rw [HLT.out]; omega
    obtain ⟨b2, f2, rfl, hbN2, hcl2⟩ := RT.out.cellAt (fun e => by rw [e] at htL; exact absurd htL (by simp))
    have HB3 : Hid (Below w.heap.size w ((((w.alloc (.cells #[.slice (some ⟨b2, f2, none⟩) nT kT, .slice (some ⟨b, f, none⟩) nI kI, .slice oF nF kF, .int .i64 t, .int .i64 p, .int .i64 q, .slice oG nG kG, .slice oE nE kE, .int .i64 s, .slice oL nL kL, .slice oD nD kD] 30)).alloc (.cells #[.slice (some ⟨b2, f2, none⟩) nT kT, .slice (some ⟨b, f, none⟩) nI kI, .slice oF nF kF, .int .i64 t, .int .i64 p, .int .i64 q, .slice oG nG kG, .slice oE nE kE, .int .i64 s, .slice oL nL kL, .slice oD nD kD] 30)).alloc (.cells #[.slice (some ⟨b2, f2, none⟩) nT kT, .slice (some ⟨b, f, none⟩) nI kI, .slice oF nF kF, .int .i64 t, .int .i64 p, .int .i64 q, .slice oG nG kG, .slice oE nE kE, .int .i64 s, .slice oL nL kL, .slice oD nD kD] 30)).alloc (.cells #[.slice none 0 0, .slice none 0 0] 83))) := ((((Below.refl _ _).alloc (Nat.le_refl _) _).alloc (by simp) _).alloc (by simp; omega) _).alloc (by simp; omega) _
    have e1 : ((((w.alloc (.cells #[.slice (some ⟨b2, f2, none⟩) nT kT, .slice (some ⟨b, f, none⟩) nI kI, .slice oF nF kF, .int .i64 t, .int .i64 p, .int .i64 q, .slice oG nG kG, .slice oE nE kE, .int .i64 s, .slice oL nL kL, .slice oD nD kD] 30)).alloc (.cells #[.slice (some ⟨b2, f2, none⟩) nT kT, .slice (some ⟨b, f, none⟩) nI kI, .slice oF nF kF, .int .i64 t, .int .i64 p, .int .i64 q, .slice oG nG kG, .slice oE nE kE, .int .i64 s, .slice oL nL kL, .slice oD nD kD] 30)).alloc (.cells #[.slice (some ⟨b2, f2, none⟩) nT kT, .slice (some ⟨b, f, none⟩) nI kI, .slice oF nF kF, .int .i64 t, .int .i64 p, .int .i64 q, .slice oG nG kG, .slice oE nE kE, .int .i64 s, .slice oL nL kL, .slice oD nD kD] 30)).alloc (.cells #[.slice none 0 0, .slice none 0 0] 83)).cell? ⟨b, f + (s - 1).toNat * 2 + 1, none⟩ = some (.int .i64 (LI[(s - 1).toNat]!).n) := hcl _ HB3.out _ hiL 1 (by omega)
    have E2 := hcl2 _ HB3.out _ htL
    have hTm := HTB.out _ (List.getElem_mem htL)
    rw [← getElem!_pos LT _ htL] at hTm
    generalize LT[(LI[(s - 1).toNat]!).n.toNat]! = S at E2 HR1 hTm
    generalize (LI[(s - 1).toNat]!).n = d at *
    have hto : (s - 1).toNat = s.toNat - 1 := by omega
    rw [hto] at e1
    obtain ⟨⟨io, iN, ic, ix⟩, ⟨ro, rN, rc, rx⟩⟩ := S
    have e2 : ((((w.alloc (.cells #[.slice (some ⟨b2, f2, none⟩) nT kT, .slice (some ⟨b, f, none⟩) nI kI, .slice oF nF kF, .int .i64 t, .int .i64 p, .int .i64 q, .slice oG nG kG, .slice oE nE kE, .int .i64 s, .slice oL nL kL, .slice oD nD kD] 30)).alloc (.cells #[.slice (some ⟨b2, f2, none⟩) nT kT, .slice (some ⟨b, f, none⟩) nI kI, .slice oF nF kF, .int .i64 t, .int .i64 p, .int .i64 q, .slice oG nG kG, .slice oE nE kE, .int .i64 s, .slice oL nL kL, .slice oD nD kD] 30)).alloc (.cells #[.slice (some ⟨b2, f2, none⟩) nT kT, .slice (some ⟨b, f, none⟩) nI kI, .slice oF nF kF, .int .i64 t, .int .i64 p, .int .i64 q, .slice oG nG kG, .slice oE nE kE, .int .i64 s, .slice oL nL kL, .slice oD nD kD] 30)).alloc (.cells #[.slice none 0 0, .slice none 0 0] 83)).cell? ⟨b2, f2 + d.toNat * 2, none⟩ = some (.slice io iN ic) := E2 0 (by omega)
    have e3 : ((((w.alloc (.cells #[.slice (some ⟨b2, f2, none⟩) nT kT, .slice (some ⟨b, f, none⟩) nI kI, .slice oF nF kF, .int .i64 t, .int .i64 p, .int .i64 q, .slice oG nG kG, .slice oE nE kE, .int .i64 s, .slice oL nL kL, .slice oD nD kD] 30)).alloc (.cells #[.slice (some ⟨b2, f2, none⟩) nT kT, .slice (some ⟨b, f, none⟩) nI kI, .slice oF nF kF, .int .i64 t, .int .i64 p, .int .i64 q, .slice oG nG kG, .slice oE nE kE, .int .i64 s, .slice oL nL kL, .slice oD nD kD] 30)).alloc (.cells #[.slice (some ⟨b2, f2, none⟩) nT kT, .slice (some ⟨b, f, none⟩) nI kI, .slice oF nF kF, .int .i64 t, .int .i64 p, .int .i64 q, .slice oG nG kG, .slice oE nE kE, .int .i64 s, .slice oL nL kL, .slice oD nD kD] 30)).alloc (.cells #[.slice none 0 0, .slice none 0 0] 83)).cell? ⟨b2, f2 + d.toNat * 2 + 1, none⟩ = some (.slice ro rN rc) := E2 1 (by omega)
    obtain ⟨d0, d1, d2, d3, d4, d5, d6, d7, d8, d9, d10⟩ := cells11 (((Below.refl (w.heap.size + 1) (w.alloc (.cells #[.slice (some ⟨b2, f2, none⟩) nT kT, .slice (some ⟨b, f, none⟩) nI kI, .slice oF nF kF, .int .i64 t, .int .i64 p, .int .i64 q, .slice oG nG kG, .slice oE nE kE, .int .i64 s, .slice oL nL kL, .slice oD nD kD] 30))).alloc (by simp) (.cells #[.slice (some ⟨b2, f2, none⟩) nT kT, .slice (some ⟨b, f, none⟩) nI kI, .slice oF nF kF, .int .i64 t, .int .i64 p, .int .i64 q, .slice oG nG kG, .slice oE nE kE, .int .i64 s, .slice oL nL kL, .slice oD nD kD] 30)))
    obtain ⟨hm1, hm2⟩ : iN ≤ 16 ∧ rN ≤ 16 := hTm
    have HR2 : Hid (z = if 0 < (iN : Int) + (rN : Int) then 10 else 0) := HR1
    clear hcl hcl2 E2 HR1
    have HB0 : Hid (Below (w.heap.size + 1) (w.alloc (.cells #[.slice (some ⟨b2, f2, none⟩) nT kT, .slice (some ⟨b, f, none⟩) nI kI, .slice oF nF kF, .int .i64 t, .int .i64 p, .int .i64 q, .slice oG nG kG, .slice oE nE kE, .int .i64 s, .slice oL nL kL, .slice oD nD kD] 30)) (w.alloc (.cells #[.slice (some ⟨b2, f2, none⟩) nT kT, .slice (some ⟨b, f, none⟩) nI kI, .slice oF nF kF, .int .i64 t, .int .i64 p, .int .i64 q, .slice oG nG kG, .slice oE nE kE, .int .i64 s, .slice oL nL kL, .slice oD nD kD] 30))) := Below.refl _ _
    obtain ⟨c0, c1, c2, c3, c4, c5, c6, c7, c8, c9, c10⟩ := cells11 HB0.out
    go_enter Tryz.func43, Tryz.ntmps43
    go_wp2
    go_region
    go_wp2
    have hrow : (((w.alloc (.cells #[.slice (some ⟨b2, f2, none⟩) nT kT, .slice (some ⟨b, f, none⟩) nI kI, .slice oF nF kF, .int .i64 t, .int .i64 p, .int .i64 q, .slice oG nG kG, .slice oE nE kE, .int .i64 s, .slice oL nL kL, .slice oD nD kD] 30)).alloc (.cells #[.slice (some ⟨b2, f2, none⟩) nT kT, .slice (some ⟨b, f, none⟩) nI kI, .slice oF nF kF, .int .i64 t, .int .i64 p, .int .i64 q, .slice oG nG kG, .slice oE nE kE, .int .i64 s, .slice oL nL kL, .slice oD nD kD] 30)).alloc (.cells #[.slice (some ⟨b2, f2, none⟩) nT kT, .slice (some ⟨b, f, none⟩) nI kI, .slice oF nF kF, .int .i64 t, .int .i64 p, .int .i64 q, .slice oG nG kG, .slice oE nE kE, .int .i64 s, .slice oL nL kL, .slice oD nD kD] 30) |>.alloc (.cells #[.slice io iN ic, .slice ro rN rc] 83)).drew.heap[w.heap.size + 1 + 1 + 1]? = some (.cells #[.slice io iN ic, .slice ro rN rc] 83 (0, 0)) := by
     have := new_block (((w.alloc (.cells #[.slice (some ⟨b2, f2, none⟩) nT kT, .slice (some ⟨b, f, none⟩) nI kI, .slice oF nF kF, .int .i64 t, .int .i64 p, .int .i64 q, .slice oG nG kG, .slice oE nE kE, .int .i64 s, .slice oL nL kL, .slice oD nD kD] 30)).alloc (.cells #[.slice (some ⟨b2, f2, none⟩) nT kT, .slice (some ⟨b, f, none⟩) nI kI, .slice oF nF kF, .int .i64 t, .int .i64 p, .int .i64 q, .slice oG nG kG, .slice oE nE kE, .int .i64 s, .slice oL nL kL, .slice oD nD kD] 30)).alloc (.cells #[.slice (some ⟨b2, f2, none⟩) nT kT, .slice (some ⟨b, f, none⟩) nI kI, .slice oF nF kF, .int .i64 t, .int .i64 p, .int .i64 q, .slice oG nG kG, .slice oE nE kE, .int .i64 s, .slice oL nL kL, .slice oD nD kD] 30)) (.cells #[.slice io iN ic, .slice ro rN rc] 83)
     rw [show (((w.alloc (.cells #[.slice (some ⟨b2, f2, none⟩) nT kT, .slice (some ⟨b, f, none⟩) nI kI, .slice oF nF kF, .int .i64 t, .int .i64 p, .int .i64 q, .slice oG nG kG, .slice oE nE kE, .int .i64 s, .slice oL nL kL, .slice oD nD kD] 30)).alloc (.cells #[.slice (some ⟨b2, f2, none⟩) nT kT, .slice (some ⟨b, f, none⟩) nI kI, .slice oF nF kF, .int .i64 t, .int .i64 p, .int .i64 q, .slice oG nG kG, .slice oE nE kE, .int .i64 s, .slice oL nL kL, .slice oD nD kD] 30)).alloc (.cells #[.slice (some ⟨b2, f2, none⟩) nT kT, .slice (some ⟨b, f, none⟩) nI kI, .slice oF nF kF, .int .i64 t, .int .i64 p, .int .i64 q, .slice oG nG kG, .slice oE nE kE, .int .i64 s, .slice oL nL kL, .slice oD nD kD] 30)).heap.size = w.heap.size + 1 + 1 + 1 by simp] at this
     exact this
    refine bodyPost_ret (results_cell_row rfl _ _ (w.heap.size + 1 + 1 + 1) 83 #[.slice io iN ic, .slice ro rN rc] (0, 0) _ rfl hrow Tryz.underlying83 rfl infoSig) rfl ?_
    have HBF : Hid (Below w.heap.size w (((w.alloc (.cells #[.slice (some ⟨b2, f2, none⟩) nT kT, .slice (some ⟨b, f, none⟩) nI kI, .slice oF nF kF, .int .i64 t, .int .i64 p, .int .i64 q, .slice oG nG kG, .slice oE nE kE, .int .i64 s, .slice oL nL kL, .slice oD nD kD] 30)).alloc (.cells #[.slice (some ⟨b2, f2, none⟩) nT kT, .slice (some ⟨b, f, none⟩) nI kI, .slice oF nF kF, .int .i64 t, .int .i64 p, .int .i64 q, .slice oG nG kG, .slice oE nE kE, .int .i64 s, .slice oL nL kL, .slice oD nD kD] 30)).alloc (.cells #[.slice (some ⟨b2, f2, none⟩) nT kT, .slice (some ⟨b, f, none⟩) nI kI, .slice oF nF kF, .int .i64 t, .int .i64 p, .int .i64 q, .slice oG nG kG, .slice oE nE kE, .int .i64 s, .slice oL nL kL, .slice oD nD kD] 30) |>.alloc (.cells #[.slice io iN ic, .slice ro rN rc] 83) |>.alloc (.cells #[.slice io iN ic, .slice ro rN rc] 83)).drew) := (((((Below.refl _ _).alloc (Nat.le_refl _) _).alloc (by simp) _).alloc (by simp; omega) _).alloc (by simp; omega) _).alloc (by simp; omega) _ |>.drew
    by_cases hz : (0 : Int) < (iN : Int) + (rN : Int)
    ·have hzd : decide ((0 : Int) < (iN : Int) + (rN : Int)) = true := decide_eq_true hz
     have HF0 : Hid (z = 10) := by unfold Hid; rw [HR2.out, if_pos hz]
     go_wp2
     refine bodyPost_ret (results_tmp rfl _ _ _) rfl ?_
     exact ⟨by rw [HF0.out]; rfl, HBF.out⟩
    ·have hzd : decide ((0 : Int) < (iN : Int) + (rN : Int)) = false := decide_eq_false hz
     have HF0 : Hid (z = 0) := by unfold Hid; rw [HR2.out, if_neg hz]
     go_wp2
     refine bodyPost_ret (results_tmp rfl _ _ _) rfl ?_
     exact ⟨by rw [HF0.out]; rfl, HBF.out⟩
   ·skip
    have hkdI : decide (s - 1 < (nI : Int)) = false := decide_eq_false hkI
    have hkd : decide (s - 1 < (nI : Int) + (nF : Int)) = true := decide_eq_true hkN
    have hiN : ((s - 1).toNat - nI) < nF := by omega
    have hiL : ((s - 1).toNat - nI) < LF.length := by rw [HLF.out]; exact hiN
    have hsg := HSg.out (s - 1).toNat
    rw [if_neg (by omega)] at hsg
    rw [hsg] at HR1
    clear hsg
    obtain ⟨hr0, hr1⟩ := HTF.out _ hiN
    obtain ⟨b, f, rfl, hbN, hcl⟩ := RF.out.cellAt (fun e => by rw [e] at hiL; exact absurd hiL (by simp))
    have htL : (LF[((s - 1).toNat - nI)]!).t.toNat < LT.length := by rw [HLT.out]; omega
    obtain ⟨b2, f2, rfl, hbN2, hcl2⟩ := RT.out.cellAt (fun e => by rw [e] at htL; exact absurd htL (by simp))
    have HB3 : Hid (Below w.heap.size w ((((w.alloc (.cells #[.slice (some ⟨b2, f2, none⟩) nT kT, .slice oI nI kI, .slice (some ⟨b, f, none⟩) nF kF, .int .i64 t, .int .i64 p, .int .i64 q, .slice oG nG kG, .slice oE nE kE, .int .i64 s, .slice oL nL kL, .slice oD nD kD] 30)).alloc (.cells #[.slice (some ⟨b2, f2, none⟩) nT kT, .slice oI nI kI, .slice (some ⟨b, f, none⟩) nF kF, .int .i64 t, .int .i64 p, .int .i64 q, .slice oG nG kG, .slice oE nE kE, .int .i64 s, .slice oL nL kL, .slice oD nD kD] 30)).alloc (.cells #[.slice (some ⟨b2, f2, none⟩) nT kT, .slice oI nI kI, .slice (some ⟨b, f, none⟩) nF kF, .int .i64 t, .int .i64 p, .int .i64 q, .slice oG nG kG, .slice oE nE kE, .int .i64 s, .slice oL nL kL, .slice oD nD kD] 30)).alloc (.cells #[.slice none 0 0, .slice none 0 0] 83))) := ((((Below.refl _ _).alloc (Nat.le_refl _) _).alloc (by simp) _).alloc (by simp; omega) _).alloc (by simp; omega) _
    have e1 : ((((w.alloc (.cells #[.slice (some ⟨b2, f2, none⟩) nT kT, .slice oI nI kI, .slice (some ⟨b, f, none⟩) nF kF, .int .i64 t, .int .i64 p, .int .i64 q, .slice oG nG kG, .slice oE nE kE, .int .i64 s, .slice oL nL kL, .slice oD nD kD] 30)).alloc (.cells #[.slice (some ⟨b2, f2, none⟩) nT kT, .slice oI nI kI, .slice (some ⟨b, f, none⟩) nF kF, .int .i64 t, .int .i64 p, .int .i64 q, .slice oG nG kG, .slice oE nE kE, .int .i64 s, .slice oL nL kL, .slice oD nD kD] 30)).alloc (.cells #[.slice (some ⟨b2, f2, none⟩) nT kT, .slice oI nI kI, .slice (some ⟨b, f, none⟩) nF kF, .int .i64 t, .int .i64 p, .int .i64 q, .slice oG nG kG, .slice oE nE kE, .int .i64 s, .slice oL nL kL, .slice oD nD kD] 30)).alloc (.cells #[.slice none 0 0, .slice none 0 0] 83)).cell? ⟨b, f + ((s - 1).toNat - nI) * 3, none⟩ = some (.int .i64 (LF[((s - 1).toNat - nI)]!).t) := hcl _ HB3.out _ hiL 0 (by omega)
    have E2 := hcl2 _ HB3.out _ htL
    have hTm := HTB.out _ (List.getElem_mem htL)
    rw [← getElem!_pos LT _ htL] at hTm
    generalize LT[(LF[((s - 1).toNat - nI)]!).t.toNat]! = S at E2 HR1 hTm
    generalize (LF[((s - 1).toNat - nI)]!).t = d at *
    have hto : (s - 1).toNat = s.toNat - 1 := by omega
    rw [hto] at e1
    obtain ⟨⟨io, iN, ic, ix⟩, ⟨ro, rN, rc, rx⟩⟩ := S
    have e2 : ((((w.alloc (.cells #[.slice (some ⟨b2, f2, none⟩) nT kT, .slice oI nI kI, .slice (some ⟨b, f, none⟩) nF kF, .int .i64 t, .int .i64 p, .int .i64 q, .slice oG nG kG, .slice oE nE kE, .int .i64 s, .slice oL nL kL, .slice oD nD kD] 30)).alloc (.cells #[.slice (some ⟨b2, f2, none⟩) nT kT, .slice oI nI kI, .slice (some ⟨b, f, none⟩) nF kF, .int .i64 t, .int .i64 p, .int .i64 q, .slice oG nG kG, .slice oE nE kE, .int .i64 s, .slice oL nL kL, .slice oD nD kD] 30)).alloc (.cells #[.slice (some ⟨b2, f2, none⟩) nT kT, .slice oI nI kI, .slice (some ⟨b, f, none⟩) nF kF, .int .i64 t, .int .i64 p, .int .i64 q, .slice oG nG kG, .slice oE nE kE, .int .i64 s, .slice oL nL kL, .slice oD nD kD] 30)).alloc (.cells #[.slice none 0 0, .slice none 0 0] 83)).cell? ⟨b2, f2 + d.toNat * 2, none⟩ = some (.slice io iN ic) := E2 0 (by omega)
    have e3 : ((((w.alloc (.cells #[.slice (some ⟨b2, f2, none⟩) nT kT, .slice oI nI kI, .slice (some ⟨b, f, none⟩) nF kF, .int .i64 t, .int .i64 p, .int .i64 q, .slice oG nG kG, .slice oE nE kE, .int .i64 s, .slice oL nL kL, .slice oD nD kD] 30)).alloc (.cells #[.slice (some ⟨b2, f2, none⟩) nT kT, .slice oI nI kI, .slice (some ⟨b, f, none⟩) nF kF, .int .i64 t, .int .i64 p, .int .i64 q, .slice oG nG kG, .slice oE nE kE, .int .i64 s, .slice oL nL kL, .slice oD nD kD] 30)).alloc (.cells #[.slice (some ⟨b2, f2, none⟩) nT kT, .slice oI nI kI, .slice (some ⟨b, f, none⟩) nF kF, .int .i64 t, .int .i64 p, .int .i64 q, .slice oG nG kG, .slice oE nE kE, .int .i64 s, .slice oL nL kL, .slice oD nD kD] 30)).alloc (.cells #[.slice none 0 0, .slice none 0 0] 83)).cell? ⟨b2, f2 + d.toNat * 2 + 1, none⟩ = some (.slice ro rN rc) := E2 1 (by omega)
    obtain ⟨d0, d1, d2, d3, d4, d5, d6, d7, d8, d9, d10⟩ := cells11 (((Below.refl (w.heap.size + 1) (w.alloc (.cells #[.slice (some ⟨b2, f2, none⟩) nT kT, .slice oI nI kI, .slice (some ⟨b, f, none⟩) nF kF, .int .i64 t, .int .i64 p, .int .i64 q, .slice oG nG kG, .slice oE nE kE, .int .i64 s, .slice oL nL kL, .slice oD nD kD] 30))).alloc (by simp) (.cells #[.slice (some ⟨b2, f2, none⟩) nT kT, .slice oI nI kI, .slice (some ⟨b, f, none⟩) nF kF, .int .i64 t, .int .i64 p, .int .i64 q, .slice oG nG kG, .slice oE nE kE, .int .i64 s, .slice oL nL kL, .slice oD nD kD] 30)))
    obtain ⟨hm1, hm2⟩ : iN ≤ 16 ∧ rN ≤ 16 := hTm
    have HR2 : Hid (z = if 0 < (iN : Int) + (rN : Int) then 10 else 0) := HR1
    clear hcl hcl2 E2 HR1
    have HB0 : Hid (Below (w.heap.size + 1) (w.alloc (.cells #[.slice (some ⟨b2, f2, none⟩) nT kT, .slice oI nI kI, .slice (some ⟨b, f, none⟩) nF kF, .int .i64 t, .int .i64 p, .int .i64 q, .slice oG nG kG, .slice oE nE kE, .int .i64 s, .slice oL nL kL, .slice oD nD kD] 30)) (w.alloc (.cells #[.slice (some ⟨b2, f2, none⟩) nT kT, .slice oI nI kI, .slice (some ⟨b, f, none⟩) nF kF, .int .i64 t, .int .i64 p, .int .i64 q, .slice oG nG kG, .slice oE nE kE, .int .i64 s, .slice oL nL kL, .slice oD nD kD] 30))) := Below.refl _ _
    obtain ⟨c0, c1, c2, c3, c4, c5, c6, c7, c8, c9, c10⟩ := cells11 HB0.out
    go_enter Tryz.func43, Tryz.ntmps43
    go_wp2
    go_region
    go_wp2
    have hrow : (((w.alloc (.cells #[.slice (some ⟨b2, f2, none⟩) nT kT, .slice oI nI kI, .slice (some ⟨b, f, none⟩) nF kF, .int .i64 t, .int .i64 p, .int .i64 q, .slice oG nG kG, .slice oE nE kE, .int .i64 s, .slice oL nL kL, .slice oD nD kD] 30)).alloc (.cells #[.slice (some ⟨b2, f2, none⟩) nT kT, .slice oI nI kI, .slice (some ⟨b, f, none⟩) nF kF, .int .i64 t, .int .i64 p, .int .i64 q, .slice oG nG kG, .slice oE nE kE, .int .i64 s, .slice oL nL kL, .slice oD nD kD] 30)).alloc (.cells #[.slice (some ⟨b2, f2, none⟩) nT kT, .slice oI nI kI, .slice (some ⟨b, f, none⟩) nF kF, .int .i64 t, .int .i64 p, .int .i64 q, .slice oG nG kG, .slice oE nE kE, .int .i64 s, .slice oL nL kL, .slice oD nD kD] 30) |>.alloc (.cells #[.slice io iN ic, .slice ro rN rc] 83)).drew.heap[w.heap.size + 1 + 1 + 1]? = some (.cells #[.slice io iN ic, .slice ro rN rc] 83 (0, 0)) := by
     have := new_block (((w.alloc (.cells #[.slice (some ⟨b2, f2, none⟩) nT kT, .slice oI nI kI, .slice (some ⟨b, f, none⟩) nF kF, .int .i64 t, .int .i64 p, .int .i64 q, .slice oG nG kG, .slice oE nE kE, .int .i64 s, .slice oL nL kL, .slice oD nD kD] 30)).alloc (.cells #[.slice (some ⟨b2, f2, none⟩) nT kT, .slice oI nI kI, .slice (some ⟨b, f, none⟩) nF kF, .int .i64 t, .int .i64 p, .int .i64 q, .slice oG nG kG, .slice oE nE kE, .int .i64 s, .slice oL nL kL, .slice oD nD kD] 30)).alloc (.cells #[.slice (some ⟨b2, f2, none⟩) nT kT, .slice oI nI kI, .slice (some ⟨b, f, none⟩) nF kF, .int .i64 t, .int .i64 p, .int .i64 q, .slice oG nG kG, .slice oE nE kE, .int .i64 s, .slice oL nL kL, .slice oD nD kD] 30)) (.cells #[.slice io iN ic, .slice ro rN rc] 83)
     rw [show (((w.alloc (.cells #[.slice (some ⟨b2, f2, none⟩) nT kT, .slice oI nI kI, .slice (some ⟨b, f, none⟩) nF kF, .int .i64 t, .int .i64 p, .int .i64 q, .slice oG nG kG, .slice oE nE kE, .int .i64 s, .slice oL nL kL, .slice oD nD kD] 30)).alloc (.cells #[.slice (some ⟨b2, f2, none⟩) nT kT, .slice oI nI kI, .slice (some ⟨b, f, none⟩) nF kF, .int .i64 t, .int .i64 p, .int .i64 q, .slice oG nG kG, .slice oE nE kE, .int .i64 s, .slice oL nL kL, .slice oD nD kD] 30)).alloc (.cells #[.slice (some ⟨b2, f2, none⟩) nT kT, .slice oI nI kI, .slice (some ⟨b, f, none⟩) nF kF, .int .i64 t, .int .i64 p, .int .i64 q, .slice oG nG kG, .slice oE nE kE, .int .i64 s, .slice oL nL kL, .slice oD nD kD] 30)).heap.size = w.heap.size + 1 + 1 + 1 by simp] at this
     exact this
    refine bodyPost_ret (results_cell_row rfl _ _ (w.heap.size + 1 + 1 + 1) 83 #[.slice io iN ic, .slice ro rN rc] (0, 0) _ rfl hrow Tryz.underlying83 rfl infoSig) rfl ?_
    have HBF : Hid (Below w.heap.size w (((w.alloc (.cells #[.slice (some ⟨b2, f2, none⟩) nT kT, .slice oI nI kI, .slice (some ⟨b, f, none⟩) nF kF, .int .i64 t, .int .i64 p, .int .i64 q, .slice oG nG kG, .slice oE nE kE, .int .i64 s, .slice oL nL kL, .slice oD nD kD] 30)).alloc (.cells #[.slice (some ⟨b2, f2, none⟩) nT kT, .slice oI nI kI, .slice (some ⟨b, f, none⟩) nF kF, .int .i64 t, .int .i64 p, .int .i64 q, .slice oG nG kG, .slice oE nE kE, .int .i64 s, .slice oL nL kL, .slice oD nD kD] 30)).alloc (.cells #[.slice (some ⟨b2, f2, none⟩) nT kT, .slice oI nI kI, .slice (some ⟨b, f, none⟩) nF kF, .int .i64 t, .int .i64 p, .int .i64 q, .slice oG nG kG, .slice oE nE kE, .int .i64 s, .slice oL nL kL, .slice oD nD kD] 30) |>.alloc (.cells #[.slice io iN ic, .slice ro rN rc] 83) |>.alloc (.cells #[.slice io iN ic, .slice ro rN rc] 83)).drew) := (((((Below.refl _ _).alloc (Nat.le_refl _) _).alloc (by simp) _).alloc (by simp; omega) _).alloc (by simp; omega) _).alloc (by simp; omega) _ |>.drew
    by_cases hz : (0 : Int) < (iN : Int) + (rN : Int)
    ·have hzd : decide ((0 : Int) < (iN : Int) + (rN : Int)) = true := decide_eq_true hz
     have HF0 : Hid (z = 10) := by unfold Hid; rw [HR2.out, if_pos hz]
     go_wp2
     refine bodyPost_ret (results_tmp rfl _ _ _) rfl ?_
     exact ⟨by rw [HF0.out]; rfl, HBF.out⟩
    ·have hzd : decide ((0 : Int) < (iN : Int) + (rN : Int)) = false := decide_eq_false hz
     have HF0 : Hid (z = 0) := by unfold Hid; rw [HR2.out, if_neg hz]
     go_wp2
     refine bodyPost_ret (results_tmp rfl _ _ _) rfl ?_
     exact ⟨by rw [HF0.out]; rfl, HBF.out⟩
  ·rw [if_pos (by omega)] at HR1
   have hkd : decide (s - 1 < (nI : Int) + (nF : Int)) = false := decide_eq_false hkN
   have HF0 : Hid (z = 8) := HR1
   clear HR1
   have HB1 : Hid (Below w.heap.size w ((w.alloc (.cells #[.slice oT nT kT, .slice oI nI kI, .slice oF nF kF, .int .i64 t, .int .i64 p, .int .i64 q, .slice oG nG kG, .slice oE nE kE, .int .i64 s, .slice oL nL kL, .slice oD nD kD] 30)).alloc (.cells #[.slice oT nT kT, .slice oI nI kI, .slice oF nF kF, .int .i64 t, .int .i64 p, .int .i64 q, .slice oG nG kG, .slice oE nE kE, .int .i64 s, .slice oL nL kL, .slice oD nD kD] 30))) := ((Below.refl _ _).alloc (Nat.le_refl _) _).alloc (by simp) _
   have HB0 : Hid (Below (w.heap.size + 1) (w.alloc (.cells #[.slice oT nT kT, .slice oI nI kI, .slice oF nF kF, .int .i64 t, .int .i64 p, .int .i64 q, .slice oG nG kG, .slice oE nE kE, .int .i64 s, .slice oL nL kL, .slice oD nD kD] 30)) (w.alloc (.cells #[.slice oT nT kT, .slice oI nI kI, .slice oF nF kF, .int .i64 t, .int .i64 p, .int .i64 q, .slice oG nG kG, .slice oE nE kE, .int .i64 s, .slice oL nL kL, .slice oD nD kD] 30))) := Below.refl _ _
   have HBW : Hid (∀ w', Below (w.heap.size + 1) (w.alloc (.cells #[.slice oT nT kT, .slice oI nI kI, .slice oF nF kF, .int .i64 t, .int .i64 p, .int .i64 q, .slice oG nG kG, .slice oE nE kE, .int .i64 s, .slice oL nL kL, .slice oD nD kD] 30)) w' → Below w.heap.size w w') := fun w' b => ((Below.refl _ _).alloc (Nat.le_refl _) _ : Below w.heap.size w (w.alloc (.cells #[.slice oT nT kT, .slice oI nI kI, .slice oF nF kF, .int .i64 t, .int .i64 p, .int .i64 q, .slice oG nG kG, .slice oE nE kE, .int .i64 s, .slice oL nL kL, .slice oD nD kD] 30))).trans (b.mono (Nat.le_succ _))
   obtain ⟨c0, c1, c2, c3, c4, c5, c6, c7, c8, c9, c10⟩ := cells11 HB0.out
   go_enter Tryz.func43, Tryz.ntmps43
   go_wp2
   refine bodyPost_ret (results_tmp rfl _ _ _) rfl ?_
   exact ⟨by rw [HF0.out]; rfl, HB1.out⟩
end Go.Proofs.YtlfihndbnaaodaaGreatDoor
namespace Go.Proofs.YtlfihndbnaaodaaGreatDoor
open Go.RowKit
set_option linter.unusedVariables false
def eleOk (t N : Int) (d : EleD) : Bool := !(decide (t = 0)) && d.f.xs.all (fun x => decide (x < N))
theorem elems_there (oT oI oF oG oE oL oD : Option Addr) (nT kT nI kI nF kF nG kG nE kE nL kL nD kD : Nat) (t p q s : Int) (w : World) (LL : List EleD) (RL : Hid (RowsOf w 2 EleD.cells EleD.ok oL kL LL)) (HLL : Hid (LL.length = nL)) (HP : Hid (∀ d ∈ LL, ∀ x ∈ d.f.xs, 0 ≤ x)) (hI : nI ≤ 16) (hF : nF ≤ 16) (bb : Bool) (HR : Hid (LL.all (eleOk t ((nI : Int) + (nF : Int))) = bb)) :
  Calls Tryz.prog 44 #[.agg #[.slice oT nT kT, .slice oI nI kI, .slice oF nF kF, .int .i64 t, .int .i64 p, .int .i64 q, .slice oG nG kG, .slice oE nE kE, .int .i64 s, .slice oL nL kL, .slice oD nD kD]] w fun r w' => r = .returned (.bool bb) ∧ Below w.heap.size w w' := by
 have mL : kL ≤ 9223372036854775807 := by have := RL.out.most; unfold maxLen at this; omega
 have cL : nL ≤ kL := by have := RL.out.le; rw [HLL.out] at this; exact this
 have HB0 : Hid (Below (w.heap.size + 1) (w.alloc (.cells #[.slice oT nT kT, .slice oI nI kI, .slice oF nF kF, .int .i64 t, .int .i64 p, .int .i64 q, .slice oG nG kG, .slice oE nE kE, .int .i64 s, .slice oL nL kL, .slice oD nD kD] 30)) (w.alloc (.cells #[.slice oT nT kT, .slice oI nI kI, .slice oF nF kF, .int .i64 t, .int .i64 p, .int .i64 q, .slice oG nG kG, .slice oE nE kE, .int .i64 s, .slice oL nL kL, .slice oD nD kD] 30))) := Below.refl _ _
 have HBW : Hid (∀ w', Below (w.heap.size + 1) (w.alloc (.cells #[.slice oT nT kT, .slice oI nI kI, .slice oF nF kF, .int .i64 t, .int .i64 p, .int .i64 q, .slice oG nG kG, .slice oE nE kE, .int .i64 s, .slice oL nL kL, .slice oD nD kD] 30)) w' → Below w.heap.size w w') := fun w' b => ((Below.refl _ _).alloc (Nat.le_refl _) _ : Below w.heap.size w (w.alloc (.cells #[.slice oT nT kT, .slice oI nI kI, .slice oF nF kF, .int .i64 t, .int .i64 p, .int .i64 q, .slice oG nG kG, .slice oE nE kE, .int .i64 s, .slice oL nL kL, .slice oD nD kD] 30))).trans (b.mono (Nat.le_succ _))
 obtain ⟨c0, c1, c2, c3, c4, c5, c6, c7, c8, c9, c10⟩ := cells11 HB0.out
 go_enter Tryz.func44, Tryz.ntmps44
 go_wp2
 go_loopw [10] (fun iv wr => ∃ j : Nat, iv = .int .i64 (j : Int) ∧ j ≤ nL ∧ Hid ((LL.take j).all (eleOk t ((nI : Int) + (nF : Int))) = true) ∧ Hid (Below (w.heap.size + 1) (w.alloc (.cells #[.slice oT nT kT, .slice oI nI kI, .slice oF nF kF, .int .i64 t, .int .i64 p, .int .i64 q, .slice oG nG kG, .slice oE nE kE, .int .i64 s, .slice oL nL kL, .slice oD nD kD] 30)) wr)) (fun iv _ => nL - (intOf iv).toNat)
 case atStart => exact ⟨0, rfl, by omega, rfl, HB0⟩
 case round =>
  obtain ⟨j, rfl, hj, HA, HBr⟩ := hrel
  clear c0 c1 c2 c3 c4 c5 c6 c7 c8 c9 c10
  by_cases hlt : j < nL
  ·skip
   have hok := RL.out.all _ (List.getElem_mem (by rw [HLL.out]; exact hlt : j < LL.length))
   have hxL : j < LL.length := by rw [HLL.out]; exact hlt
   obtain ⟨b, f, rfl, hbN, hcl⟩ := RL.out.at'.resolve_left (fun e => by rw [e] at hxL; exact absurd hxL (by simp))
   have HC : Hid (∀ r, r < 2 → wr.cell? ⟨b, f + j * 2 + r, none⟩ = (EleD.cells LL[j])[r]?) := fun r hr => by
    rw [(HBW.out _ HBr.out).cell (p := ⟨b, f + j * 2 + r, none⟩) hbN]
    exact hcl j hxL r hr
   have HXL : Hid (j < LL.length) := hxL
   generalize hd : LL[j] = d at HC
   have HDE : Hid (LL[j]'HXL.out = d) := hd
   have hki0 : (0 : Int) ≤ (j : Int) := by omega
   have hki1 : (j : Int) < (nL : Int) := by omega
   have hwz := HBr.out.size
   clear hcl hxL hd
   rw [HDE.out] at hok
   obtain ⟨da, ⟨lo, ln, lc, lx⟩⟩ := d
   have e0 : wr.cell? ⟨b, f + j * 2, none⟩ = some (.int .i64 da) := HC.out 0 (by omega)
   have e1 : wr.cell? ⟨b, f + j * 2 + 1, none⟩ = some (.slice lo ln lc) := HC.out 1 (by omega)
   have hbw : Below wr.heap.size wr (wr.alloc (.cells #[.int .i64 da, .slice lo ln lc] 99)) := (Below.refl _ _).alloc (Nat.le_refl _) _
   have hB2 := HBr.out.trans (hbw.mono (by simpa using hwz : w.heap.size + 1 ≤ wr.heap.size))
   have HB2 : Hid (Below _ _ _) := hB2
   have HB2W : Hid (∀ v, Below (wr.heap.size + 1) (wr.alloc (.cells #[.int .i64 da, .slice lo ln lc] 99)) v → Below (w.heap.size + 1) (w.alloc (.cells #[.slice oT nT kT, .slice oI nI kI, .slice oF nF kF, .int .i64 t, .int .i64 p, .int .i64 q, .slice oG nG kG, .slice oE nE kE, .int .i64 s, .slice (some ⟨b, f, none⟩) nL kL, .slice oD nD kD] 30)) v) := fun v b => HB2.out.trans (b.mono (by simp at hwz ⊢; omega))
   have HOK : Hid (NumD.ok .i64 w ⟨lo, ln, lc, lx⟩) := hok.2
   have hln : ln ≤ lc := HOK.out.le
   have hlc : lc ≤ 9223372036854775807 := by have : lc ≤ maxLen := HOK.out.most; unfold maxLen at this; omega
   clear hB2 hbw HC hok
   obtain ⟨c0, c1, c2, c3, c4, c5, c6, c7, c8, c9, c10⟩ := cells11 HB2.out
   obtain ⟨q0, q1⟩ := cells2 (Below.refl (wr.heap.size + 1) (wr.alloc (.cells #[.int .i64 da, .slice lo ln lc] 99)))
   by_cases ht0 : t = 0
   ·have HF : Hid (bb = false) := by
     unfold Hid
     rw [← HR.out, all_no _ _ _ HXL.out (by rw [HDE.out]; simp [eleOk, ht0])]
    have hte : (t == 0) = true := by simp [ht0]
    go_wp2
    refine bodyPost_ret (results_tmp rfl _ _ _) rfl ?_
    exact ⟨by rw [HF.out]; rfl, HBW.out _ HB2.out⟩
   ·have hte : (t == 0) = false := by simp [ht0]
    obtain ⟨u, hu⟩ : ∃ u, u = wr := ⟨_, rfl⟩
    subst hu
    go_wp2
    go_loopw [20] (fun iv wr => ∃ i : Nat, iv = .int .i64 (i : Int) ∧ i ≤ ln ∧ Hid ((lx.take i).all (fun x => decide (x < (nI : Int) + (nF : Int))) = true) ∧ Hid (Below (u.heap.size + 1) (u.alloc (.cells #[.int .i64 da, .slice lo ln lc] 99)) wr)) (fun iv _ => ln - (intOf iv).toNat)
    case atStart => exact ⟨0, rfl, by omega, rfl, Below.refl _ _⟩
    case round =>
     obtain ⟨i, rfl, hi, HY, HV⟩ := hrel
     clear c0 c1 c2 c3 c4 c5 c6 c7 c8 c9 c10 q0 q1 e0 e1
     have hvz := HV.out.size
     by_cases hij : i < ln
     ·obtain ⟨a, rfl, haN, hcl⟩ := HOK.out.at'.resolve_left (by simp; omega)
      obtain ⟨ab, af, ap⟩ := a
      have HXi : Hid (i < lx.length) := by have := HOK.out.len; unfold Hid; simp only at this; omega
      have hx0 := hcl i hij
      rw [← (HBW.out _ (HB2W.out _ HV.out)).cell (p := (⟨ab, af, ap⟩ : Addr).add i) (by rw [add_block]; exact haN)] at hx0
      simp only [List.getD_eq_getElem?_getD, List.getElem?_eq_getElem HXi.out, Option.getD_some] at hx0
      generalize hd : lx[i] = x at hx0
      have HDI : Hid (lx[i]'HXi.out = x) := hd
      have hxp : decide (0 ≤ x) = true := decide_eq_true (by have h1 := HP.out _ (List.getElem_mem HXL.out); rw [HDE.out] at h1; have h2 := h1 _ (List.getElem_mem HXi.out); rw [HDI.out] at h2; exact h2)
      clear hcl hd
      obtain ⟨c0, c1, c2, c3, c4, c5, c6, c7, c8, c9, c10⟩ := cells11 (HB2W.out _ HV.out)
      have hV2 : Below (u.heap.size + 1) (u.alloc (.cells #[.int .i64 da, .slice (some ⟨ab, af, ap⟩) ln lc] 99)) (wr.alloc (.cells #[.slice oT nT kT, .slice oI nI kI, .slice oF nF kF, .int .i64 t, .int .i64 p, .int .i64 q, .slice oG nG kG, .slice oE nE kE, .int .i64 s, .slice (some ⟨b, f, none⟩) nL kL, .slice oD nD kD] 30)) := HV.out.alloc (by simpa using hvz) _
      have HV2 : Hid (type_of% hV2) := hV2
      clear hV2
      by_cases hxN : x < (nI : Int) + (nF : Int)
      ·have hxd : decide (x < (nI : Int) + (nF : Int)) = true := decide_eq_true hxN
       have HY2 : Hid ((lx.take (i + 1)).all (fun x => decide (x < (nI : Int) + (nF : Int))) = true) := all_snoc _ _ _ HXi.out HY.out (by rw [HDI.out]; exact hxd)
       go_wp2
       go_roundw
       case rel => exact ⟨i + 1, by go_num, by omega, HY2, HV2⟩
       case measure => simp [intOf]; omega
      ·have hxd : decide (x < (nI : Int) + (nF : Int)) = false := decide_eq_false hxN
       have HF : Hid (bb = false) := by
        unfold Hid
        rw [← HR.out, all_no _ _ _ HXL.out (by rw [HDE.out]; unfold eleOk; dsimp only; rw [all_no _ _ _ HXi.out (by rw [HDI.out]; exact hxd), Bool.and_false])]
       go_wp2
       refine bodyPost_ret (results_tmp rfl _ _ _) rfl ?_
       exact ⟨by rw [HF.out]; rfl, HBW.out _ (HB2W.out _ HV2.out)⟩
     ·have HA2 : Hid ((LL.take (j + 1)).all (eleOk t ((nI : Int) + (nF : Int))) = true) := all_snoc _ _ _ HXL.out HA.out (by
       have h := HY.out
       rw [List.take_of_length_le (by have := HOK.out.len; simp only at this; omega)] at h
       rw [HDE.out]
       unfold eleOk
       dsimp only
       rw [h, decide_eq_false ht0]
       rfl)
      go_wp2
      go_roundw
      case rel => exact ⟨j + 1, by go_num, by omega, HA2, HB2W.out _ HV.out⟩
      case measure => simp [intOf]; omega
  ·have HF : Hid (bb = true) := by
    have h := HA.out
    rw [List.take_of_length_le (by rw [HLL.out]; omega)] at h
    exact HR.out.symm.trans h
   go_wp2
   go_ret
   exact ⟨by rw [HF.out]; rfl, HBW.out _ HBr.out⟩
end Go.Proofs.YtlfihndbnaaodaaGreatDoor
namespace Go.Proofs.YtlfihndbnaaodaaGreatDoor
open Go.RowKit
set_option linter.unusedVariables false
theorem fstE_eq0 {a b : Int} (h : fstE a b = 0) : a = 0 ∧ b = 0 := by
 unfold fstE at h
 split at h
 ·exact ⟨by assumption, h⟩
 ·exact absurd h (by assumption)
theorem okE_eq0 {b : Bool} {e : Int} (he : e ≠ 0) (h : okE b e = 0) : b = true := by
 unfold okE at h
 split at h
 ·assumption
 ·exact absurd h he
theorem frst_eq0 {α : Type} {f : α → Int} {L : List α} (h : frst f L = 0) : ∀ x ∈ L, f x = 0 := by
 induction L with
 | nil => intro x hx; cases hx
 | cons y L ih =>
  obtain ⟨h1, h2⟩ := fstE_eq0 h
  intro x hx
  rcases List.mem_cons.1 hx with rfl | hx
  ·exact h1
  ·exact ih h2 x hx
theorem chkL_eq0 {α : Type} {most : Int} {f : α → Int} {L : List α} (h : chkL most f L = 0) : (L.length : Int) ≤ most ∧ ∀ x ∈ L, f x = 0 := by
 obtain ⟨h1, h2⟩ := fstE_eq0 h
 exact ⟨of_decide_eq_true (okE_eq0 (by decide) h1), frst_eq0 h2⟩
theorem chkNum_eq0 {n : Int} (h : chkNum n = 0) : 0 ≤ n ∧ n ≤ 4294967295 := by
 have := okE_eq0 (by decide) h
 simpa [numOk] using this
structure Fair (w : World) (m : ModD) : Prop where
 nI : m.imports.length ≤ 16
 nF : m.funcs.length ≤ 16
 nE : m.exports.length ≤ 8
 nT : m.types.length ≤ 16
 im : ∀ d ∈ m.imports, 0 ≤ d.n
 fu : ∀ d ∈ m.funcs, 0 ≤ d.t
 ex : ∀ d ∈ m.exports, 0 ≤ d.n
 ty : ∀ d ∈ m.types, d.i.n ≤ 16 ∧ d.r.n ≤ 16
 el : ∀ d ∈ m.elems, d.f.n ≤ 16 ∧ ∀ x ∈ d.f.xs, 0 ≤ x
 st : 0 ≤ m.start ∧ m.start ≤ 4294967295
 mo : 0 ≤ m.most
theorem fair_of {w : World} {m : ModD} (hm : m.ok w) (h : mChk m = 0) : Fair w m := by
 unfold mChk at h
 obtain ⟨h1, h⟩ := fstE_eq0 h
 obtain ⟨h2, h⟩ := fstE_eq0 h
 obtain ⟨h3, h⟩ := fstE_eq0 h
 obtain ⟨_, h⟩ := fstE_eq0 h
 obtain ⟨_, h⟩ := fstE_eq0 h
 obtain ⟨h7, h⟩ := fstE_eq0 h
 obtain ⟨_, h⟩ := fstE_eq0 h
 obtain ⟨_, h⟩ := fstE_eq0 h
 obtain ⟨h4, h⟩ := fstE_eq0 h
 obtain ⟨h5, h⟩ := fstE_eq0 h
 obtain ⟨h6, h⟩ := fstE_eq0 h
 have a1 := chkL_eq0 h1
 have a2 := chkL_eq0 h2
 have a3 := chkL_eq0 h3
 have a4 := chkL_eq0 h4
 have a6 := chkL_eq0 h6
 refine ⟨by omega, by omega, by omega, by omega, fun d hd => ?_, fun d hd => ?_, fun d hd => ?_, fun d hd => ?_, fun d hd => ?_, chkNum_eq0 h5, ?_⟩
 ·exact (chkNum_eq0 (fstE_eq0 (a2.2 d hd)).2).1
 ·exact (chkNum_eq0 (fstE_eq0 (fstE_eq0 (a3.2 d hd)).1).1).1
 ·exact (chkNum_eq0 (fstE_eq0 (a4.2 d hd)).2).1
 ·have b1 := chkL_eq0 (fstE_eq0 (a1.2 d hd)).1
  have b2 := chkL_eq0 (fstE_eq0 (a1.2 d hd)).2
  have c := hm.types.all d hd
  have c1 := c.1.len
  have c2 := c.2.len
  exact ⟨by omega, by omega⟩
 ·have b := chkL_eq0 (fstE_eq0 (a6.2 d hd)).2
  have c := (hm.elems.all d hd).2.len
  exact ⟨by omega, fun x hx => (chkNum_eq0 (b.2 x hx)).1⟩
 ·have := okE_eq0 (by decide) h7
  simp only [pgOk, Bool.and_eq_true, decide_eq_true_eq] at this
  omega
def headErr (m : ModD) : Int :=
 if mChk m = 0 then
  if (m.imports.all (fun d => decide (d.n < (m.types.length : Int))) && m.funcs.all (fun d => decide (d.t < (m.types.length : Int)))) = true then
   fstE (expErr ((m.imports.length : Int) + (m.funcs.length : Int)) [] m.exports) (fstE (startErr m.types m.imports m.funcs m.start)
    (okE (m.elems.all (eleOk m.table ((m.imports.length : Int) + (m.funcs.length : Int))) && (decide (0 < m.most) || m.data.length == 0)) 8))
  else 8
 else mChk m
end Go.Proofs.YtlfihndbnaaodaaGreatDoor
