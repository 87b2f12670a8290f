/-
 The document's own BinCheck, pages not below 0.
-/
import Derived.Test.YtmemiohompdibaaGreatDoorAQH
set_option maxHeartbeats 8000000
set_option maxRecDepth 1000000
namespace Go.Proofs.YtmemiohompdibaaGreatDoor
set_option linter.unusedVariables false
open Go.RowKit
theorem bincheck_pos (oT oI oF oG oE oL oD : Option Addr) (nT kT nI kI nF kF nG kG nE kE nL kL nD kD : Nat) (t p q s : Int) (E : Int) (hp : ¬ p < 0) (w : World)
  (LT : List SigD) (RT : Hid (RowsOf w 2 SigD.cells SigD.ok oT kT LT)) (HLT : Hid (LT.length = nT)) (bT : nT ≤ 1048576)
  (LI : List NamD) (RI : Hid (RowsOf w 2 NamD.cells NamD.ok oI kI LI)) (HLI : Hid (LI.length = nI)) (bI : nI ≤ 1048576)
  (LF : List FunD) (RF : Hid (RowsOf w 3 FunD.cells FunD.ok oF kF LF)) (HLF : Hid (LF.length = nF)) (bF : nF ≤ 1048576)
  (LG : List GloD) (RG : Hid (RowsOf w 3 GloD.cells GloD.ok oG kG LG)) (HLG : Hid (LG.length = nG)) (bG : nG ≤ 1048576)
  (LE : List NamD) (RE : Hid (RowsOf w 2 NamD.cells NamD.ok oE kE LE)) (HLE : Hid (LE.length = nE)) (bE : nE ≤ 1048576)
  (LL : List EleD) (RL : Hid (RowsOf w 2 EleD.cells EleD.ok oL kL LL)) (HLL : Hid (LL.length = nL)) (bL : nL ≤ 1048576)
  (LD : List DatD) (RD : Hid (RowsOf w 2 DatD.cells DatD.ok oD kD LD)) (HLD : Hid (LD.length = nD)) (bD : nD ≤ 1048576)
  (ST : Hid (∀ d ∈ LT, d.i.n ≤ 1048576 ∧ d.r.n ≤ 1048576)) (SF : Hid (∀ d ∈ LF, d.l.n ≤ 1048576)) (SL : Hid (∀ d ∈ LL, d.f.n ≤ 1048576))
  (HNC : Hid (∀ d ∈ LF, ∀ w', Below w.heap.size w w' → Calls Tryz.prog 53 #[.slice d.o d.b.length d.cap] w' fun r w'' => r = .returned (.int .i64 (nChk d.b)) ∧ Below w'.heap.size w' w''))
  (HE : Hid (fstE 0 (fstE (okE (decide ((nT : Int) ≤ 16)) 2) (fstE (frst chkSig LT) (fstE (okE (decide ((nI : Int) ≤ 16)) 2) (fstE (frst chkNam LI) (fstE (okE (decide ((nF : Int) ≤ 16)) 2) (fstE (frst chkFun LF) (fstE (okE (decide (0 ≤ t)) 1) (fstE (okE (decide (t ≤ 16)) 2) (fstE (okE (pgOk p q) 1) (fstE (okE (decide (q ≤ 8)) 2) (fstE (okE (decide ((nG : Int) ≤ 8)) 2) (fstE (frst chkGlo LG) (fstE (okE (decide ((nE : Int) ≤ 8)) 2) (fstE (frst chkNam LE) (fstE (chkNum s) (fstE (okE (decide ((nL : Int) ≤ 4)) 2) (fstE (frst chkEle LL) (fstE (okE (decide ((nD : Int) ≤ 4)) 2) (frst chkDat LD))))))))))))))))))) = E)) :
  Calls Tryz.prog 32 #[.agg #[.slice oT nT kT, .slice oI nI kI, .slice oF nF kF, .int .i64 t, .int .i64 p, .int .i64 q, .slice oG nG kG, .slice oE nE kE, .int .i64 s, .slice oL nL kL, .slice oD nD kD]] w fun r w' => r = .returned (.int .i64 E) ∧ Below w.heap.size w w' := by
 have hs1 : (w.alloc (.cells #[.slice oT nT kT, .slice oI nI kI, .slice oF nF kF, .int .i64 t, .int .i64 p, .int .i64 q, .slice oG nG kG, .slice oE nE kE, .int .i64 s, .slice oL nL kL, .slice oD nD kD] 30)).heap.size = w.heap.size + 1 := by simp
 have bA : Below w.heap.size w ((w.alloc (.cells #[.slice oT nT kT, .slice oI nI kI, .slice oF nF kF, .int .i64 t, .int .i64 p, .int .i64 q, .slice oG nG kG, .slice oE nE kE, .int .i64 s, .slice oL nL kL, .slice oD nD kD] 30)).alloc (.cells #[.slice none 0 0] 67)) := ((Below.refl _ _).alloc (Nat.le_refl _) _).alloc (by simp) _
 have hX : ((w.alloc (.cells #[.slice oT nT kT, .slice oI nI kI, .slice oF nF kF, .int .i64 t, .int .i64 p, .int .i64 q, .slice oG nG kG, .slice oE nE kE, .int .i64 s, .slice oL nL kL, .slice oD nD kD] 30)).alloc (.cells #[.slice none 0 0] 67)).heap[w.heap.size]? = some (.cells #[.slice oT nT kT, .slice oI nI kI, .slice oF nF kF, .int .i64 t, .int .i64 p, .int .i64 q, .slice oG nG kG, .slice oE nE kE, .int .i64 s, .slice oL nL kL, .slice oD nD kD] 30 (0, 0)) := by
  rw [Below.heap_alloc _ _ _ (by simp)]
  exact new_block _ _
 have hF : FS ((w.alloc (.cells #[.slice oT nT kT, .slice oI nI kI, .slice oF nF kF, .int .i64 t, .int .i64 p, .int .i64 q, .slice oG nG kG, .slice oE nE kE, .int .i64 s, .slice oL nL kL, .slice oD nD kD] 30)).alloc (.cells #[.slice none 0 0] 67)) w.heap.size (w.heap.size + 1) 0 0 := by
  have := FS.new (w.alloc (.cells #[.slice oT nT kT, .slice oI nI kI, .slice oF nF kF, .int .i64 t, .int .i64 p, .int .i64 q, .slice oG nG kG, .slice oE nE kE, .int .i64 s, .slice oL nL kL, .slice oD nD kD] 30)) w.heap.size
  rw [hs1] at this
  exact this
 have mT : kT ≤ 9223372036854775807 := by have := RT.out.most; unfold maxLen at this; omega
 have cT : nT ≤ kT := by have := RT.out.le; rw [HLT.out] at this; exact this
 have mI : kI ≤ 9223372036854775807 := by have := RI.out.most; unfold maxLen at this; omega
 have cI : nI ≤ kI := by have := RI.out.le; rw [HLI.out] at this; exact this
 have mF : kF ≤ 9223372036854775807 := by have := RF.out.most; unfold maxLen at this; omega
 have cF : nF ≤ kF := by have := RF.out.le; rw [HLF.out] at this; exact this
 have mG : kG ≤ 9223372036854775807 := by have := RG.out.most; unfold maxLen at this; omega
 have cG : nG ≤ kG := by have := RG.out.le; rw [HLG.out] at this; exact this
 have mE : kE ≤ 9223372036854775807 := by have := RE.out.most; unfold maxLen at this; omega
 have cE : nE ≤ kE := by have := RE.out.le; rw [HLE.out] at this; exact this
 have mL : kL ≤ 9223372036854775807 := by have := RL.out.most; unfold maxLen at this; omega
 have cL : nL ≤ kL := by have := RL.out.le; rw [HLL.out] at this; exact this
 have mD : kD ≤ 9223372036854775807 := by have := RD.out.most; unfold maxLen at this; omega
 have cD : nD ≤ kD := by have := RD.out.le; rw [HLD.out] at this; exact this
 obtain ⟨V, hV⟩ : ∃ V, V = ((w.alloc (.cells #[.slice oT nT kT, .slice oI nI kI, .slice oF nF kF, .int .i64 t, .int .i64 p, .int .i64 q, .slice oG nG kG, .slice oE nE kE, .int .i64 s, .slice oL nL kL, .slice oD nD kD] 30)).alloc (.cells #[.slice none 0 0] 67)) := ⟨_, rfl⟩
 have HV : Hid (type_of% hV) := hV
 rw [← hV] at bA hX hF
 have HB : Hid (Below w.heap.size w V) := bA
 have HX : Hid (V.heap[w.heap.size]? = some (.cells #[.slice oT nT kT, .slice oI nI kI, .slice oF nF kF, .int .i64 t, .int .i64 p, .int .i64 q, .slice oG nG kG, .slice oE nE kE, .int .i64 s, .slice oL nL kL, .slice oD nD kD] 30 (0, 0))) := hX
 have HF : Hid (FS V w.heap.size (w.heap.size + 1) 0 0) := hF
 have HK : Hid (Kp notF V V) := Kp.refl _ _
 have hn : (0 : Nat) ≤ 0 := Nat.le_refl _
 have H0 : Hid (type_of% (faddGt w.heap.size (w.heap.size + 1) 0 0 16 (nT : Int) 2 V hF (by decide) (by omega) (by omega))) := faddGt w.heap.size (w.heap.size + 1) 0 0 16 (nT : Int) 2 V hF (by decide) (by omega) (by omega)
 clear bA hX hF hV hs1
 rw [HV.out] at H0
 go_enter Tryz.func32, Tryz.ntmps32
 go_wp2_with fail
 refine H0.out.mono ?_
 rw [← HV.out]
 clear H0
 rintro r v1 ⟨rfl, n1, hn1, f1, f2, f3⟩
 have HB1 : Hid (Below w.heap.size w v1) := HB.out.trans f2
 have HK1 : Hid (Kp notF V v1) := HK.out.trans f3
 have HE1 : Hid (fstE (fstE 0 (okE (decide ((nT : Int) ≤ 16)) 2)) (fstE (frst chkSig LT) (fstE (okE (decide ((nI : Int) ≤ 16)) 2) (fstE (frst chkNam LI) (fstE (okE (decide ((nF : Int) ≤ 16)) 2) (fstE (frst chkFun LF) (fstE (okE (decide (0 ≤ t)) 1) (fstE (okE (decide (t ≤ 16)) 2) (fstE (okE (pgOk p q) 1) (fstE (okE (decide (q ≤ 8)) 2) (fstE (okE (decide ((nG : Int) ≤ 8)) 2) (fstE (frst chkGlo LG) (fstE (okE (decide ((nE : Int) ≤ 8)) 2) (fstE (frst chkNam LE) (fstE (chkNum s) (fstE (okE (decide ((nL : Int) ≤ 4)) 2) (fstE (frst chkEle LL) (fstE (okE (decide ((nD : Int) ≤ 4)) 2) (frst chkDat LD)))))))))))))))))) = E) := by
  have := HE.out
  unfold Hid
  rw [fstE_assoc]
  exact this
 obtain ⟨a1, ha⟩ : ∃ a1, a1 = fstE 0 (okE (decide ((nT : Int) ≤ 16)) 2) := ⟨_, rfl⟩
 rw [← ha] at HE1 f1
 have HF1 : Hid (FS v1 w.heap.size (w.heap.size + 1) n1 a1) := f1
 have hb1 : n1 ≤ 1 := by omega
 clear HB HK HE HF f1 f2 f3 ha hn1
 have HB : Hid (type_of% HB1.out) := HB1.out
 have HK : Hid (type_of% HK1.out) := HK1.out
 have HE : Hid (type_of% HE1.out) := HE1.out
 have HF : Hid (type_of% HF1.out) := HF1.out
 clear HB1 HK1 HE1 HF1
 obtain ⟨c0, c1, c2, c3, c4, c5, c6, c7, c8, c9, c10⟩ := X11.cell (w := v1) ((HK.out.blk w.heap.size _ _ _ HX.out (by decide)).trans HX.out)
 go_wp2
 go_loopw [28] (fun iv wr => ∃ (jT n2 : Nat), iv = .int .i64 (jT : Int) ∧ jT ≤ nT ∧ n2 ≤ n1 + jT * 2097154 ∧ Hid (FS wr w.heap.size (w.heap.size + 1) n2 (fstE a1 (frst chkSig (LT.take jT)))) ∧ Hid (Below w.heap.size w wr) ∧ Hid (Kp notF V wr)) (fun iv _ => nT - (intOf iv).toNat)
 case atStart => exact ⟨0, n1, rfl, by omega, by omega, by unfold Hid; rw [List.take_zero, frst, fstE_0]; exact HF.out, HB, HK⟩
 case round =>
  obtain ⟨jT, n2, rfl, hjT, hb2, HF2, HB2, HK2⟩ := hrel
  clear HF HB HK c0 c1 c2 c3 c4 c5 c6 c7 c8 c9 c10
  by_cases hlt : jT < nT
  ·have hxT : jT < LT.length := by rw [HLT.out]; exact hlt
   have HT : Hid (fstE a1 (frst chkSig (LT.take (jT + 1))) = fstE (fstE a1 (frst chkSig (LT.take jT))) (chkSig LT[jT])) := by
    unfold Hid
    rw [frst_snoc chkSig LT jT hxT, fstE_assoc]
   obtain ⟨b, f, rfl, hbN, hcl⟩ := RT.out.at'.resolve_left (fun e => by rw [e] at hxT; exact absurd hxT (by simp))
   have HC : Hid (∀ r, r < 2 → wr.cell? ⟨b, f + jT * 2 + r, none⟩ = (SigD.cells LT[jT])[r]?) := fun r hr => by
    rw [HB2.out.cell (p := ⟨b, f + jT * 2 + r, none⟩) hbN]
    exact hcl jT hxT r hr
   have HOK : Hid (LT[jT] ∈ LT ∧ SigD.ok w LT[jT]) := ⟨List.getElem_mem hxT, RT.out.all _ (List.getElem_mem hxT)⟩
   generalize LT[jT] = d at HT HC HOK
   clear hcl hxT
   generalize fstE a1 (frst chkSig (LT.take jT)) = aa at HF2 HT
   have hki0 : (0 : Int) ≤ (jT : Int) := by omega
   have hki1 : (jT : Int) < (nT : Int) := by omega
   have hwz := HB2.out.size
   obtain ⟨di, dr⟩ := d
   have hsz1 : di.n ≤ 1048576 := (ST.out _ HOK.out.1).1
   have hsz2 : dr.n ≤ 1048576 := (ST.out _ HOK.out.1).2
   have HO1 : Hid (di.ok .u8 w) := HOK.out.2.1
   have HO2 : Hid (dr.ok .u8 w) := HOK.out.2.2
   clear HOK
   have e0 : wr.cell? ⟨b, f + jT * 2, none⟩ = some (.slice di.o di.n di.cap) := HC.out 0 (by omega)
   have e1 : wr.cell? ⟨b, f + jT * 2 + 1, none⟩ = some (.slice dr.o dr.n dr.cap) := HC.out 1 (by omega)
   have hbw : Below wr.heap.size wr (wr.alloc (.cells #[.slice di.o di.n di.cap, .slice dr.o dr.n dr.cap] 57)) := (Below.refl _ _).alloc (Nat.le_refl _) _
   have HBX : Hid (Below w.heap.size w (wr.alloc (.cells #[.slice di.o di.n di.cap, .slice dr.o dr.n dr.cap] 57))) := HB2.out.trans (hbw.mono hwz)
   have HFX : Hid (FS (wr.alloc (.cells #[.slice di.o di.n di.cap, .slice dr.o dr.n dr.cap] 57)) w.heap.size (w.heap.size + 1) n2 aa) := HF2.out.below hbw
   have HKX : Hid (Kp notF V (wr.alloc (.cells #[.slice di.o di.n di.cap, .slice dr.o dr.n dr.cap] 57))) := HK2.out.trans (Kp.below _ hbw)
   clear hbw HC HB2 HK2 HF2
   go_wp2_with fail
   refine (fkindsD w.heap.size (w.heap.size + 1) n2 aa 4 (by decide) (by decide) di w _ HFX.out (by omega) (Nat.le_refl _) HBX.out HO1.out (by omega)).mono ?_
   rintro r y1 ⟨rfl, m1, hm1, f1, f2, f3⟩
   have HY : Hid (y1.heap[wr.heap.size]? = some (.cells #[.slice di.o di.n di.cap, .slice dr.o dr.n dr.cap] 57 (0, 0))) := box_kp f3 (by decide)
   have HFY : Hid (FS y1 w.heap.size (w.heap.size + 1) m1 (fstE aa (chkL 4 chkKind di.xs))) := f1
   have HBY : Hid (Below w.heap.size w y1) := HBX.out.trans f2
   have HKY : Hid (Kp notF V y1) := HKX.out.trans f3
   clear f1 f2 f3 HBX HFX HKX
   have z0 : y1.cell? ⟨wr.heap.size, 0, none⟩ = some (.slice di.o di.n di.cap) := by have := HY.out; simp [World.cell?, this]
   have z1 : y1.cell? ⟨wr.heap.size, 1, none⟩ = some (.slice dr.o dr.n dr.cap) := by have := HY.out; simp [World.cell?, this]
   go_wp2_with fail
   refine (fkindsD w.heap.size (w.heap.size + 1) m1 _ 1 (by decide) (by decide) dr w _ HFY.out (by omega) (Nat.le_refl _) HBY.out HO2.out (by omega)).mono ?_
   clear z0 z1
   rintro r y2 ⟨rfl, m2, hm2, f1, f2, f3⟩
   have HY1 : Hid (y2.heap[wr.heap.size]? = some (.cells #[.slice di.o di.n di.cap, .slice dr.o dr.n dr.cap] 57 (0, 0))) := (f3.blk _ _ _ _ HY.out (by decide)).trans HY.out
   have HFY1 : Hid (FS y2 w.heap.size (w.heap.size + 1) m2 (fstE (fstE aa (chkL 4 chkKind di.xs)) (chkL 1 chkKind dr.xs))) := f1
   have HBY1 : Hid (Below w.heap.size w y2) := HBY.out.trans f2
   have HKY1 : Hid (Kp notF V y2) := HKY.out.trans f3
   clear f1 f2 f3 HBY HFY HKY HY
   have HY : Hid (type_of% HY1.out) := HY1.out
   have HFY : Hid (type_of% HFY1.out) := HFY1.out
   have HBY : Hid (type_of% HBY1.out) := HBY1.out
   have HKY : Hid (type_of% HKY1.out) := HKY1.out
   clear HY1 HFY1 HBY1 HKY1
   have z0 : y2.cell? ⟨wr.heap.size, 0, none⟩ = some (.slice di.o di.n di.cap) := by have := HY.out; simp [World.cell?, this]
   have z1 : y2.cell? ⟨wr.heap.size, 1, none⟩ = some (.slice dr.o dr.n dr.cap) := by have := HY.out; simp [World.cell?, this]
   have HEnd : Hid (FS y2 w.heap.size (w.heap.size + 1) m2 (fstE a1 (frst chkSig (LT.take (jT + 1))))) := by
    have h := HFY.out
    unfold Hid
    rw [HT.out]
    rw [chkSig, ← fstE_assoc]
    exact h
   clear HFY HT z0 z1
   go_wp2
   go_roundw
   case rel => exact ⟨jT + 1, m2, by go_num, by omega, by omega, HEnd, HBY, HKY⟩
   case measure => simp [intOf]; omega
  ·have HF1 : Hid (FS wr w.heap.size (w.heap.size + 1) n2 (fstE a1 (frst chkSig LT))) := by
    have h := HF2.out
    rw [List.take_of_length_le (by rw [HLT.out]; omega)] at h
    exact h
   have HE1 : Hid (fstE (fstE a1 (frst chkSig LT)) (fstE (okE (decide ((nI : Int) ≤ 16)) 2) (fstE (frst chkNam LI) (fstE (okE (decide ((nF : Int) ≤ 16)) 2) (fstE (frst chkFun LF) (fstE (okE (decide (0 ≤ t)) 1) (fstE (okE (decide (t ≤ 16)) 2) (fstE (okE (pgOk p q) 1) (fstE (okE (decide (q ≤ 8)) 2) (fstE (okE (decide ((nG : Int) ≤ 8)) 2) (fstE (frst chkGlo LG) (fstE (okE (decide ((nE : Int) ≤ 8)) 2) (fstE (frst chkNam LE) (fstE (chkNum s) (fstE (okE (decide ((nL : Int) ≤ 4)) 2) (fstE (frst chkEle LL) (fstE (okE (decide ((nD : Int) ≤ 4)) 2) (frst chkDat LD))))))))))))))))) = E) := by
    have := HE.out
    unfold Hid
    rw [fstE_assoc]
    exact this
   obtain ⟨a2, ha⟩ : ∃ a2, a2 = fstE a1 (frst chkSig LT) := ⟨_, rfl⟩
   rw [← ha] at HE1 HF1
   have hc2 : n2 ≤ 2199025352705 := by
    have : jT * 2097154 ≤ 1048576 * 2097154 := Nat.mul_le_mul_right _ (by omega)
    omega
   obtain ⟨v2, hvv⟩ : ∃ v2, v2 = wr := ⟨_, rfl⟩
   rw [← hvv] at HF1 HB2 HK2
   rw [← hvv]
   clear HE HF2 ha hb2 hvv
   have HE : Hid (type_of% HE1.out) := HE1.out
   have HF : Hid (type_of% HF1.out) := HF1.out
   have HB : Hid (type_of% HB2.out) := HB2.out
   have HK : Hid (type_of% HK2.out) := HK2.out
   clear HE1 HF1 HB2 HK2
   obtain ⟨c0, c1, c2, c3, c4, c5, c6, c7, c8, c9, c10⟩ := X11.cell (w := v2) ((HK.out.blk w.heap.size _ _ _ HX.out (by decide)).trans HX.out)
   go_wp2_with fail
   refine (faddGt w.heap.size (w.heap.size + 1) n2 a2 16 (nI : Int) 2 _ HF.out (by decide) (by omega) (by omega)).mono ?_
   clear c0 c1 c2 c3 c4 c5 c6 c7 c8 c9 c10
   rintro r v3 ⟨rfl, n3, hn3, f1, f2, f3⟩
   have HB1 : Hid (Below w.heap.size w v3) := HB.out.trans f2
   have HK1 : Hid (Kp notF V v3) := HK.out.trans f3
   have HE1 : Hid (fstE (fstE a2 (okE (decide ((nI : Int) ≤ 16)) 2)) (fstE (frst chkNam LI) (fstE (okE (decide ((nF : Int) ≤ 16)) 2) (fstE (frst chkFun LF) (fstE (okE (decide (0 ≤ t)) 1) (fstE (okE (decide (t ≤ 16)) 2) (fstE (okE (pgOk p q) 1) (fstE (okE (decide (q ≤ 8)) 2) (fstE (okE (decide ((nG : Int) ≤ 8)) 2) (fstE (frst chkGlo LG) (fstE (okE (decide ((nE : Int) ≤ 8)) 2) (fstE (frst chkNam LE) (fstE (chkNum s) (fstE (okE (decide ((nL : Int) ≤ 4)) 2) (fstE (frst chkEle LL) (fstE (okE (decide ((nD : Int) ≤ 4)) 2) (frst chkDat LD)))))))))))))))) = E) := by
    have := HE.out
    unfold Hid
    rw [fstE_assoc]
    exact this
   obtain ⟨a3, ha⟩ : ∃ a3, a3 = fstE a2 (okE (decide ((nI : Int) ≤ 16)) 2) := ⟨_, rfl⟩
   rw [← ha] at HE1 f1
   have HF1 : Hid (FS v3 w.heap.size (w.heap.size + 1) n3 a3) := f1
   have hb3 : n3 ≤ 2199025352706 := by omega
   clear HB HK HE HF f1 f2 f3 ha hn3
   have HB : Hid (type_of% HB1.out) := HB1.out
   have HK : Hid (type_of% HK1.out) := HK1.out
   have HE : Hid (type_of% HE1.out) := HE1.out
   have HF : Hid (type_of% HF1.out) := HF1.out
   clear HB1 HK1 HE1 HF1
   obtain ⟨c0, c1, c2, c3, c4, c5, c6, c7, c8, c9, c10⟩ := X11.cell (w := v3) ((HK.out.blk w.heap.size _ _ _ HX.out (by decide)).trans HX.out)
   go_wp2
   go_loopw [47] (fun iv wr => ∃ (jI n4 : Nat), iv = .int .i64 (jI : Int) ∧ jI ≤ nI ∧ n4 ≤ n3 + jI * 2 ∧ Hid (FS wr w.heap.size (w.heap.size + 1) n4 (fstE a3 (frst chkNam (LI.take jI)))) ∧ Hid (Below w.heap.size w wr) ∧ Hid (Kp notF V wr)) (fun iv _ => nI - (intOf iv).toNat)
   case atStart => exact ⟨0, n3, rfl, by omega, by omega, by unfold Hid; rw [List.take_zero, frst, fstE_0]; exact HF.out, HB, HK⟩
   case round =>
    obtain ⟨jI, n4, rfl, hjI, hb4, HF2, HB2, HK2⟩ := hrel
    clear HF HB HK c0 c1 c2 c3 c4 c5 c6 c7 c8 c9 c10
    by_cases hlt : jI < nI
    ·have hxI : jI < LI.length := by rw [HLI.out]; exact hlt
     have HT : Hid (fstE a3 (frst chkNam (LI.take (jI + 1))) = fstE (fstE a3 (frst chkNam (LI.take jI))) (chkNam LI[jI])) := by
      unfold Hid
      rw [frst_snoc chkNam LI jI hxI, fstE_assoc]
     obtain ⟨b, f, rfl, hbN, hcl⟩ := RI.out.at'.resolve_left (fun e => by rw [e] at hxI; exact absurd hxI (by simp))
     have HC : Hid (∀ r, r < 2 → wr.cell? ⟨b, f + jI * 2 + r, none⟩ = (NamD.cells LI[jI])[r]?) := fun r hr => by
      rw [HB2.out.cell (p := ⟨b, f + jI * 2 + r, none⟩) hbN]
      exact hcl jI hxI r hr
     have HOK : Hid (LI[jI] ∈ LI ∧ NamD.ok w LI[jI]) := ⟨List.getElem_mem hxI, RI.out.all _ (List.getElem_mem hxI)⟩
     generalize LI[jI] = d at HT HC HOK
     clear hcl hxI
     generalize fstE a3 (frst chkNam (LI.take jI)) = aa at HF2 HT
     have hki0 : (0 : Int) ≤ (jI : Int) := by omega
     have hki1 : (jI : Int) < (nI : Int) := by omega
     have hwz := HB2.out.size
     obtain ⟨ds, dn⟩ := d
     clear HOK
     have e0 : wr.cell? ⟨b, f + jI * 2, none⟩ = some (.string ds) := HC.out 0 (by omega)
     have e1 : wr.cell? ⟨b, f + jI * 2 + 1, none⟩ = some (.int .i64 dn) := HC.out 1 (by omega)
     have hbw : Below wr.heap.size wr (wr.alloc (.cells #[.string ds, .int .i64 dn] 69)) := (Below.refl _ _).alloc (Nat.le_refl _) _
     have HBX : Hid (Below w.heap.size w (wr.alloc (.cells #[.string ds, .int .i64 dn] 69))) := HB2.out.trans (hbw.mono hwz)
     have HFX : Hid (FS (wr.alloc (.cells #[.string ds, .int .i64 dn] 69)) w.heap.size (w.heap.size + 1) n4 aa) := HF2.out.below hbw
     have HKX : Hid (Kp notF V (wr.alloc (.cells #[.string ds, .int .i64 dn] 69))) := HK2.out.trans (Kp.below _ hbw)
     clear hbw HC HB2 HK2 HF2
     go_wp2_with fail
     refine (fname w.heap.size (w.heap.size + 1) n4 aa ds _ HFX.out (by omega) (by omega)).mono ?_
     rintro r y1 ⟨rfl, m1, hm1, f1, f2, f3⟩
     have HY : Hid (y1.heap[wr.heap.size]? = some (.cells #[.string ds, .int .i64 dn] 69 (0, 0))) := box_kp f3 (by decide)
     have HFY : Hid (FS y1 w.heap.size (w.heap.size + 1) m1 (fstE aa (chkName (nums ds)))) := f1
     have HBY : Hid (Below w.heap.size w y1) := HBX.out.trans f2
     have HKY : Hid (Kp notF V y1) := HKX.out.trans f3
     clear f1 f2 f3 HBX HFX HKX
     have z0 : y1.cell? ⟨wr.heap.size, 0, none⟩ = some (.string ds) := by have := HY.out; simp [World.cell?, this]
     have z1 : y1.cell? ⟨wr.heap.size, 1, none⟩ = some (.int .i64 dn) := by have := HY.out; simp [World.cell?, this]
     go_wp2_with fail
     refine (findex w.heap.size (w.heap.size + 1) m1 _ dn _ HFY.out (by omega) (by omega)).mono ?_
     clear z0 z1
     rintro r y2 ⟨rfl, m2, hm2, f1, f2, f3⟩
     have HY1 : Hid (y2.heap[wr.heap.size]? = some (.cells #[.string ds, .int .i64 dn] 69 (0, 0))) := (f3.blk _ _ _ _ HY.out (by decide)).trans HY.out
     have HFY1 : Hid (FS y2 w.heap.size (w.heap.size + 1) m2 (fstE (fstE aa (chkName (nums ds))) (chkNum dn))) := f1
     have HBY1 : Hid (Below w.heap.size w y2) := HBY.out.trans f2
     have HKY1 : Hid (Kp notF V y2) := HKY.out.trans f3
     clear f1 f2 f3 HBY HFY HKY HY
     have HY : Hid (type_of% HY1.out) := HY1.out
     have HFY : Hid (type_of% HFY1.out) := HFY1.out
     have HBY : Hid (type_of% HBY1.out) := HBY1.out
     have HKY : Hid (type_of% HKY1.out) := HKY1.out
     clear HY1 HFY1 HBY1 HKY1
     have z0 : y2.cell? ⟨wr.heap.size, 0, none⟩ = some (.string ds) := by have := HY.out; simp [World.cell?, this]
     have z1 : y2.cell? ⟨wr.heap.size, 1, none⟩ = some (.int .i64 dn) := by have := HY.out; simp [World.cell?, this]
     have HEnd : Hid (FS y2 w.heap.size (w.heap.size + 1) m2 (fstE a3 (frst chkNam (LI.take (jI + 1))))) := by
      have h := HFY.out
      unfold Hid
      rw [HT.out]
      rw [chkNam, ← fstE_assoc]
      exact h
     clear HFY HT z0 z1
     go_wp2
     go_roundw
     case rel => exact ⟨jI + 1, m2, by go_num, by omega, by omega, HEnd, HBY, HKY⟩
     case measure => simp [intOf]; omega
    ·have HF1 : Hid (FS wr w.heap.size (w.heap.size + 1) n4 (fstE a3 (frst chkNam LI))) := by
      have h := HF2.out
      rw [List.take_of_length_le (by rw [HLI.out]; omega)] at h
      exact h
     have HE1 : Hid (fstE (fstE a3 (frst chkNam LI)) (fstE (okE (decide ((nF : Int) ≤ 16)) 2) (fstE (frst chkFun LF) (fstE (okE (decide (0 ≤ t)) 1) (fstE (okE (decide (t ≤ 16)) 2) (fstE (okE (pgOk p q) 1) (fstE (okE (decide (q ≤ 8)) 2) (fstE (okE (decide ((nG : Int) ≤ 8)) 2) (fstE (frst chkGlo LG) (fstE (okE (decide ((nE : Int) ≤ 8)) 2) (fstE (frst chkNam LE) (fstE (chkNum s) (fstE (okE (decide ((nL : Int) ≤ 4)) 2) (fstE (frst chkEle LL) (fstE (okE (decide ((nD : Int) ≤ 4)) 2) (frst chkDat LD))))))))))))))) = E) := by
      have := HE.out
      unfold Hid
      rw [fstE_assoc]
      exact this
     obtain ⟨a4, ha⟩ : ∃ a4, a4 = fstE a3 (frst chkNam LI) := ⟨_, rfl⟩
     rw [← ha] at HE1 HF1
     have hc4 : n4 ≤ 2199027449858 := by
      have : jI * 2 ≤ 1048576 * 2 := Nat.mul_le_mul_right _ (by omega)
      omega
     obtain ⟨v4, hvv⟩ : ∃ v4, v4 = wr := ⟨_, rfl⟩
     rw [← hvv] at HF1 HB2 HK2
     rw [← hvv]
     clear HE HF2 ha hb4 hvv
     have HE : Hid (type_of% HE1.out) := HE1.out
     have HF : Hid (type_of% HF1.out) := HF1.out
     have HB : Hid (type_of% HB2.out) := HB2.out
     have HK : Hid (type_of% HK2.out) := HK2.out
     clear HE1 HF1 HB2 HK2
     obtain ⟨c0, c1, c2, c3, c4, c5, c6, c7, c8, c9, c10⟩ := X11.cell (w := v4) ((HK.out.blk w.heap.size _ _ _ HX.out (by decide)).trans HX.out)
     go_wp2_with fail
     refine (faddGt w.heap.size (w.heap.size + 1) n4 a4 16 (nF : Int) 2 _ HF.out (by decide) (by omega) (by omega)).mono ?_
     clear c0 c1 c2 c3 c4 c5 c6 c7 c8 c9 c10
     rintro r v5 ⟨rfl, n5, hn5, f1, f2, f3⟩
     have HB1 : Hid (Below w.heap.size w v5) := HB.out.trans f2
     have HK1 : Hid (Kp notF V v5) := HK.out.trans f3
     have HE1 : Hid (fstE (fstE a4 (okE (decide ((nF : Int) ≤ 16)) 2)) (fstE (frst chkFun LF) (fstE (okE (decide (0 ≤ t)) 1) (fstE (okE (decide (t ≤ 16)) 2) (fstE (okE (pgOk p q) 1) (fstE (okE (decide (q ≤ 8)) 2) (fstE (okE (decide ((nG : Int) ≤ 8)) 2) (fstE (frst chkGlo LG) (fstE (okE (decide ((nE : Int) ≤ 8)) 2) (fstE (frst chkNam LE) (fstE (chkNum s) (fstE (okE (decide ((nL : Int) ≤ 4)) 2) (fstE (frst chkEle LL) (fstE (okE (decide ((nD : Int) ≤ 4)) 2) (frst chkDat LD)))))))))))))) = E) := by
      have := HE.out
      unfold Hid
      rw [fstE_assoc]
      exact this
     obtain ⟨a5, ha⟩ : ∃ a5, a5 = fstE a4 (okE (decide ((nF : Int) ≤ 16)) 2) := ⟨_, rfl⟩
     rw [← ha] at HE1 f1
     have HF1 : Hid (FS v5 w.heap.size (w.heap.size + 1) n5 a5) := f1
     have hb5 : n5 ≤ 2199027449859 := by omega
     clear HB HK HE HF f1 f2 f3 ha hn5
     have HB : Hid (type_of% HB1.out) := HB1.out
     have HK : Hid (type_of% HK1.out) := HK1.out
     have HE : Hid (type_of% HE1.out) := HE1.out
     have HF : Hid (type_of% HF1.out) := HF1.out
     clear HB1 HK1 HE1 HF1
     obtain ⟨c0, c1, c2, c3, c4, c5, c6, c7, c8, c9, c10⟩ := X11.cell (w := v5) ((HK.out.blk w.heap.size _ _ _ HX.out (by decide)).trans HX.out)
     go_wp2
     go_loopw [66] (fun iv wr => ∃ (jF n6 : Nat), iv = .int .i64 (jF : Int) ∧ jF ≤ nF ∧ n6 ≤ n5 + jF * 1048579 ∧ Hid (FS wr w.heap.size (w.heap.size + 1) n6 (fstE a5 (frst chkFun (LF.take jF)))) ∧ Hid (Below w.heap.size w wr) ∧ Hid (Kp notF V wr)) (fun iv _ => nF - (intOf iv).toNat)
     case atStart => exact ⟨0, n5, rfl, by omega, by omega, by unfold Hid; rw [List.take_zero, frst, fstE_0]; exact HF.out, HB, HK⟩
     case round =>
      obtain ⟨jF, n6, rfl, hjF, hb6, HF2, HB2, HK2⟩ := hrel
      clear HF HB HK c0 c1 c2 c3 c4 c5 c6 c7 c8 c9 c10
      by_cases hlt : jF < nF
      ·have hxF : jF < LF.length := by rw [HLF.out]; exact hlt
       have HT : Hid (fstE a5 (frst chkFun (LF.take (jF + 1))) = fstE (fstE a5 (frst chkFun (LF.take jF))) (chkFun LF[jF])) := by
        unfold Hid
        rw [frst_snoc chkFun LF jF hxF, fstE_assoc]
       obtain ⟨b, f, rfl, hbN, hcl⟩ := RF.out.at'.resolve_left (fun e => by rw [e] at hxF; exact absurd hxF (by simp))
       have HC : Hid (∀ r, r < 3 → wr.cell? ⟨b, f + jF * 3 + r, none⟩ = (FunD.cells LF[jF])[r]?) := fun r hr => by
        rw [HB2.out.cell (p := ⟨b, f + jF * 3 + r, none⟩) hbN]
        exact hcl jF hxF r hr
       have HOK : Hid (LF[jF] ∈ LF ∧ FunD.ok w LF[jF]) := ⟨List.getElem_mem hxF, RF.out.all _ (List.getElem_mem hxF)⟩
       generalize LF[jF] = d at HT HC HOK
       clear hcl hxF
       generalize fstE a5 (frst chkFun (LF.take jF)) = aa at HF2 HT
       have hki0 : (0 : Int) ≤ (jF : Int) := by omega
       have hki1 : (jF : Int) < (nF : Int) := by omega
       have hwz := HB2.out.size
       have HNC1 : Hid (type_of% (HNC.out d HOK.out.1)) := HNC.out d HOK.out.1
       have HCF : Hid (chkFun d = fstE (chkNum d.t) (fstE (chkL 16 chkKind d.l.xs) (nChk d.b))) := chkFun_eq d
       have hsz1 : d.l.n ≤ 1048576 := SF.out _ HOK.out.1
       have HO1 : Hid (d.l.ok .u8 w) := HOK.out.2.2.1
       rw [HCF.out] at HT
       clear HCF HOK
       have e0 : wr.cell? ⟨b, f + jF * 3, none⟩ = some (.int .i64 d.t) := HC.out 0 (by omega)
       have e1 : wr.cell? ⟨b, f + jF * 3 + 1, none⟩ = some (.slice d.l.o d.l.n d.l.cap) := HC.out 1 (by omega)
       have e2 : wr.cell? ⟨b, f + jF * 3 + 2, none⟩ = some (.slice d.o d.b.length d.cap) := HC.out 2 (by omega)
       have hbw : Below wr.heap.size wr (wr.alloc (.cells #[.int .i64 d.t, .slice d.l.o d.l.n d.l.cap, .slice d.o d.b.length d.cap] 50)) := (Below.refl _ _).alloc (Nat.le_refl _) _
       have HBX : Hid (Below w.heap.size w (wr.alloc (.cells #[.int .i64 d.t, .slice d.l.o d.l.n d.l.cap, .slice d.o d.b.length d.cap] 50))) := HB2.out.trans (hbw.mono hwz)
       have HFX : Hid (FS (wr.alloc (.cells #[.int .i64 d.t, .slice d.l.o d.l.n d.l.cap, .slice d.o d.b.length d.cap] 50)) w.heap.size (w.heap.size + 1) n6 aa) := HF2.out.below hbw
       have HKX : Hid (Kp notF V (wr.alloc (.cells #[.int .i64 d.t, .slice d.l.o d.l.n d.l.cap, .slice d.o d.b.length d.cap] 50))) := HK2.out.trans (Kp.below _ hbw)
       clear hbw HC HB2 HK2 HF2
       go_wp2_with fail
       refine (findex w.heap.size (w.heap.size + 1) n6 aa d.t _ HFX.out (by omega) (by omega)).mono ?_
       rintro r y1 ⟨rfl, m1, hm1, f1, f2, f3⟩
       have HY : Hid (y1.heap[wr.heap.size]? = some (.cells #[.int .i64 d.t, .slice d.l.o d.l.n d.l.cap, .slice d.o d.b.length d.cap] 50 (0, 0))) := box_kp f3 (by decide)
       have HFY : Hid (FS y1 w.heap.size (w.heap.size + 1) m1 (fstE aa (chkNum d.t))) := f1
       have HBY : Hid (Below w.heap.size w y1) := HBX.out.trans f2
       have HKY : Hid (Kp notF V y1) := HKX.out.trans f3
       clear f1 f2 f3 HBX HFX HKX
       have z0 : y1.cell? ⟨wr.heap.size, 0, none⟩ = some (.int .i64 d.t) := by have := HY.out; simp [World.cell?, this]
       have z1 : y1.cell? ⟨wr.heap.size, 1, none⟩ = some (.slice d.l.o d.l.n d.l.cap) := by have := HY.out; simp [World.cell?, this]
       have z2 : y1.cell? ⟨wr.heap.size, 2, none⟩ = some (.slice d.o d.b.length d.cap) := by have := HY.out; simp [World.cell?, this]
       go_wp2_with fail
       refine (fkindsD w.heap.size (w.heap.size + 1) m1 _ 16 (by decide) (by decide) d.l w _ HFY.out (by omega) (Nat.le_refl _) HBY.out HO1.out (by omega)).mono ?_
       clear z0 z1 z2
       rintro r y2 ⟨rfl, m2, hm2, f1, f2, f3⟩
       have HY1 : Hid (y2.heap[wr.heap.size]? = some (.cells #[.int .i64 d.t, .slice d.l.o d.l.n d.l.cap, .slice d.o d.b.length d.cap] 50 (0, 0))) := (f3.blk _ _ _ _ HY.out (by decide)).trans HY.out
       have HFY1 : Hid (FS y2 w.heap.size (w.heap.size + 1) m2 (fstE (fstE aa (chkNum d.t)) (chkL 16 chkKind d.l.xs))) := f1
       have HBY1 : Hid (Below w.heap.size w y2) := HBY.out.trans f2
       have HKY1 : Hid (Kp notF V y2) := HKY.out.trans f3
       clear f1 f2 f3 HBY HFY HKY HY
       have HY : Hid (type_of% HY1.out) := HY1.out
       have HFY : Hid (type_of% HFY1.out) := HFY1.out
       have HBY : Hid (type_of% HBY1.out) := HBY1.out
       have HKY : Hid (type_of% HKY1.out) := HKY1.out
       clear HY1 HFY1 HBY1 HKY1
       have z0 : y2.cell? ⟨wr.heap.size, 0, none⟩ = some (.int .i64 d.t) := by have := HY.out; simp [World.cell?, this]
       have z1 : y2.cell? ⟨wr.heap.size, 1, none⟩ = some (.slice d.l.o d.l.n d.l.cap) := by have := HY.out; simp [World.cell?, this]
       have z2 : y2.cell? ⟨wr.heap.size, 2, none⟩ = some (.slice d.o d.b.length d.cap) := by have := HY.out; simp [World.cell?, this]
       go_wp2_with fail
       refine (HNC1.out _ HBY.out).mono ?_
       rintro r y9 ⟨rfl, b9⟩
       have HF9 : Hid (FS y9 w.heap.size (w.heap.size + 1) m2 (fstE (fstE aa (chkNum d.t)) (chkL 16 chkKind d.l.xs))) := HFY.out.below b9
       have HB9 : Hid (Below w.heap.size w y9) := HBY.out.trans (b9.mono HBY.out.size)
       have HK9 : Hid (Kp notF V y9) := HKY.out.trans (Kp.below _ b9)
       clear b9 HNC1 HFY HBY HKY HY z0 z1 z2
       go_wp2_with fail
       refine (fsays w.heap.size (w.heap.size + 1) m2 _ (nChk d.b) _ HF9.out (by omega) (by omega)).mono ?_
       rintro r y3 ⟨rfl, m3, hm3, f1, f2, f3⟩
       have HFY : Hid (FS y3 w.heap.size (w.heap.size + 1) m3 (fstE (fstE (fstE aa (chkNum d.t)) (chkL 16 chkKind d.l.xs)) (nChk d.b))) := f1
       have HBY : Hid (Below w.heap.size w y3) := HB9.out.trans f2
       have HKY : Hid (Kp notF V y3) := HK9.out.trans f3
       clear f1 f2 f3 HF9 HB9 HK9
       have HEnd : Hid (FS y3 w.heap.size (w.heap.size + 1) m3 (fstE a5 (frst chkFun (LF.take (jF + 1))))) := by
        have h := HFY.out
        unfold Hid
        rw [HT.out]
        rw [← fstE_assoc, ← fstE_assoc]
        exact h
       clear HFY HT 
       go_wp2
       go_roundw
       case rel => exact ⟨jF + 1, m3, by go_num, by omega, by omega, HEnd, HBY, HKY⟩
       case measure => simp [intOf]; omega
      ·have HF1 : Hid (FS wr w.heap.size (w.heap.size + 1) n6 (fstE a5 (frst chkFun LF))) := by
        have h := HF2.out
        rw [List.take_of_length_le (by rw [HLF.out]; omega)] at h
        exact h
       have HE1 : Hid (fstE (fstE a5 (frst chkFun LF)) (fstE (okE (decide (0 ≤ t)) 1) (fstE (okE (decide (t ≤ 16)) 2) (fstE (okE (pgOk p q) 1) (fstE (okE (decide (q ≤ 8)) 2) (fstE (okE (decide ((nG : Int) ≤ 8)) 2) (fstE (frst chkGlo LG) (fstE (okE (decide ((nE : Int) ≤ 8)) 2) (fstE (frst chkNam LE) (fstE (chkNum s) (fstE (okE (decide ((nL : Int) ≤ 4)) 2) (fstE (frst chkEle LL) (fstE (okE (decide ((nD : Int) ≤ 4)) 2) (frst chkDat LD))))))))))))) = E) := by
        have := HE.out
        unfold Hid
        rw [fstE_assoc]
        exact this
       obtain ⟨a6, ha⟩ : ∃ a6, a6 = fstE a5 (frst chkFun LF) := ⟨_, rfl⟩
       rw [← ha] at HE1 HF1
       have hc6 : n6 ≤ 3298542223363 := by
        have : jF * 1048579 ≤ 1048576 * 1048579 := Nat.mul_le_mul_right _ (by omega)
        omega
       obtain ⟨v6, hvv⟩ : ∃ v6, v6 = wr := ⟨_, rfl⟩
       rw [← hvv] at HF1 HB2 HK2
       rw [← hvv]
       clear HE HF2 ha hb6 hvv
       have HE : Hid (type_of% HE1.out) := HE1.out
       have HF : Hid (type_of% HF1.out) := HF1.out
       have HB : Hid (type_of% HB2.out) := HB2.out
       have HK : Hid (type_of% HK2.out) := HK2.out
       clear HE1 HF1 HB2 HK2
       obtain ⟨c0, c1, c2, c3, c4, c5, c6, c7, c8, c9, c10⟩ := X11.cell (w := v6) ((HK.out.blk w.heap.size _ _ _ HX.out (by decide)).trans HX.out)
       go_wp2_with fail
       refine (faddLt w.heap.size (w.heap.size + 1) n6 a6 0 t 1 _ HF.out (by decide) (by omega) (by omega)).mono ?_
       clear c0 c1 c2 c3 c4 c5 c6 c7 c8 c9 c10
       rintro r v7 ⟨rfl, n7, hn7, f1, f2, f3⟩
       have HB1 : Hid (Below w.heap.size w v7) := HB.out.trans f2
       have HK1 : Hid (Kp notF V v7) := HK.out.trans f3
       have HE1 : Hid (fstE (fstE a6 (okE (decide (0 ≤ t)) 1)) (fstE (okE (decide (t ≤ 16)) 2) (fstE (okE (pgOk p q) 1) (fstE (okE (decide (q ≤ 8)) 2) (fstE (okE (decide ((nG : Int) ≤ 8)) 2) (fstE (frst chkGlo LG) (fstE (okE (decide ((nE : Int) ≤ 8)) 2) (fstE (frst chkNam LE) (fstE (chkNum s) (fstE (okE (decide ((nL : Int) ≤ 4)) 2) (fstE (frst chkEle LL) (fstE (okE (decide ((nD : Int) ≤ 4)) 2) (frst chkDat LD)))))))))))) = E) := by
        have := HE.out
        unfold Hid
        rw [fstE_assoc]
        exact this
       obtain ⟨a7, ha⟩ : ∃ a7, a7 = fstE a6 (okE (decide (0 ≤ t)) 1) := ⟨_, rfl⟩
       rw [← ha] at HE1 f1
       have HF1 : Hid (FS v7 w.heap.size (w.heap.size + 1) n7 a7) := f1
       have hb7 : n7 ≤ 3298542223364 := by omega
       clear HB HK HE HF f1 f2 f3 ha hn7
       have HB : Hid (type_of% HB1.out) := HB1.out
       have HK : Hid (type_of% HK1.out) := HK1.out
       have HE : Hid (type_of% HE1.out) := HE1.out
       have HF : Hid (type_of% HF1.out) := HF1.out
       clear HB1 HK1 HE1 HF1
       obtain ⟨c0, c1, c2, c3, c4, c5, c6, c7, c8, c9, c10⟩ := X11.cell (w := v7) ((HK.out.blk w.heap.size _ _ _ HX.out (by decide)).trans HX.out)
       go_wp2_with fail
       refine (faddGt w.heap.size (w.heap.size + 1) n7 a7 16 t 2 _ HF.out (by decide) (by omega) (by omega)).mono ?_
       clear c0 c1 c2 c3 c4 c5 c6 c7 c8 c9 c10
       rintro r v8 ⟨rfl, n8, hn8, f1, f2, f3⟩
       have HB1 : Hid (Below w.heap.size w v8) := HB.out.trans f2
       have HK1 : Hid (Kp notF V v8) := HK.out.trans f3
       have HE1 : Hid (fstE (fstE a7 (okE (decide (t ≤ 16)) 2)) (fstE (okE (pgOk p q) 1) (fstE (okE (decide (q ≤ 8)) 2) (fstE (okE (decide ((nG : Int) ≤ 8)) 2) (fstE (frst chkGlo LG) (fstE (okE (decide ((nE : Int) ≤ 8)) 2) (fstE (frst chkNam LE) (fstE (chkNum s) (fstE (okE (decide ((nL : Int) ≤ 4)) 2) (fstE (frst chkEle LL) (fstE (okE (decide ((nD : Int) ≤ 4)) 2) (frst chkDat LD))))))))))) = E) := by
        have := HE.out
        unfold Hid
        rw [fstE_assoc]
        exact this
       obtain ⟨a8, ha⟩ : ∃ a8, a8 = fstE a7 (okE (decide (t ≤ 16)) 2) := ⟨_, rfl⟩
       rw [← ha] at HE1 f1
       have HF1 : Hid (FS v8 w.heap.size (w.heap.size + 1) n8 a8) := f1
       have hb8 : n8 ≤ 3298542223365 := by omega
       clear HB HK HE HF f1 f2 f3 ha hn8
       have HB : Hid (type_of% HB1.out) := HB1.out
       have HK : Hid (type_of% HK1.out) := HK1.out
       have HE : Hid (type_of% HE1.out) := HE1.out
       have HF : Hid (type_of% HF1.out) := HF1.out
       clear HB1 HK1 HE1 HF1
       obtain ⟨c0, c1, c2, c3, c4, c5, c6, c7, c8, c9, c10⟩ := X11.cell (w := v8) ((HK.out.blk w.heap.size _ _ _ HX.out (by decide)).trans HX.out)
       have HPG : Hid ((!(decide (p < 0) || decide (q < p))) = pgOk p q) := by
        unfold Hid pgOk
        by_cases h1 : p < 0
        ·rw [decide_eq_true h1, decide_eq_false (by omega : ¬ 0 ≤ p)]; rfl
        ·by_cases h2 : q < p
         ·rw [decide_eq_false h1, decide_eq_true h2, decide_eq_true (by omega : 0 ≤ p), decide_eq_false (by omega : ¬ p ≤ q)]; rfl
         ·rw [decide_eq_false h1, decide_eq_false h2, decide_eq_true (by omega : 0 ≤ p), decide_eq_true (by omega : p ≤ q)]; rfl
       have HAD : Hid (type_of% (fadd w.heap.size (w.heap.size + 1) n8 a8 1 (decide (p < 0) || decide (q < p)) v8 HF.out (fun _ => by decide) (by omega) (by omega))) := fadd w.heap.size (w.heap.size + 1) n8 a8 1 (decide (p < 0) || decide (q < p)) v8 HF.out (fun _ => by decide) (by omega) (by omega)
       rw [HPG.out] at HAD
       clear HPG
       go_wp2_with fail
       refine HAD.out.mono ?_
       clear HAD
       clear c0 c1 c2 c3 c4 c5 c6 c7 c8 c9 c10
       rintro r v9 ⟨rfl, n9, hn9, f1, f2, f3⟩
       have HB1 : Hid (Below w.heap.size w v9) := HB.out.trans f2
       have HK1 : Hid (Kp notF V v9) := HK.out.trans f3
       have HE1 : Hid (fstE (fstE a8 (okE (pgOk p q) 1)) (fstE (okE (decide (q ≤ 8)) 2) (fstE (okE (decide ((nG : Int) ≤ 8)) 2) (fstE (frst chkGlo LG) (fstE (okE (decide ((nE : Int) ≤ 8)) 2) (fstE (frst chkNam LE) (fstE (chkNum s) (fstE (okE (decide ((nL : Int) ≤ 4)) 2) (fstE (frst chkEle LL) (fstE (okE (decide ((nD : Int) ≤ 4)) 2) (frst chkDat LD)))))))))) = E) := by
        have := HE.out
        unfold Hid
        rw [fstE_assoc]
        exact this
       obtain ⟨a9, ha⟩ : ∃ a9, a9 = fstE a8 (okE (pgOk p q) 1) := ⟨_, rfl⟩
       rw [← ha] at HE1 f1
       have HF1 : Hid (FS v9 w.heap.size (w.heap.size + 1) n9 a9) := f1
       have hb9 : n9 ≤ 3298542223366 := by omega
       clear HB HK HE HF f1 f2 f3 ha hn9
       have HB : Hid (type_of% HB1.out) := HB1.out
       have HK : Hid (type_of% HK1.out) := HK1.out
       have HE : Hid (type_of% HE1.out) := HE1.out
       have HF : Hid (type_of% HF1.out) := HF1.out
       clear HB1 HK1 HE1 HF1
       obtain ⟨c0, c1, c2, c3, c4, c5, c6, c7, c8, c9, c10⟩ := X11.cell (w := v9) ((HK.out.blk w.heap.size _ _ _ HX.out (by decide)).trans HX.out)
       go_wp2_with fail
       refine (faddGt w.heap.size (w.heap.size + 1) n9 a9 8 q 2 _ HF.out (by decide) (by omega) (by omega)).mono ?_
       clear c0 c1 c2 c3 c4 c5 c6 c7 c8 c9 c10
       rintro r v10 ⟨rfl, n10, hn10, f1, f2, f3⟩
       have HB1 : Hid (Below w.heap.size w v10) := HB.out.trans f2
       have HK1 : Hid (Kp notF V v10) := HK.out.trans f3
       have HE1 : Hid (fstE (fstE a9 (okE (decide (q ≤ 8)) 2)) (fstE (okE (decide ((nG : Int) ≤ 8)) 2) (fstE (frst chkGlo LG) (fstE (okE (decide ((nE : Int) ≤ 8)) 2) (fstE (frst chkNam LE) (fstE (chkNum s) (fstE (okE (decide ((nL : Int) ≤ 4)) 2) (fstE (frst chkEle LL) (fstE (okE (decide ((nD : Int) ≤ 4)) 2) (frst chkDat LD))))))))) = E) := by
        have := HE.out
        unfold Hid
        rw [fstE_assoc]
        exact this
       obtain ⟨a10, ha⟩ : ∃ a10, a10 = fstE a9 (okE (decide (q ≤ 8)) 2) := ⟨_, rfl⟩
       rw [← ha] at HE1 f1
       have HF1 : Hid (FS v10 w.heap.size (w.heap.size + 1) n10 a10) := f1
       have hb10 : n10 ≤ 3298542223367 := by omega
       clear HB HK HE HF f1 f2 f3 ha hn10
       have HB : Hid (type_of% HB1.out) := HB1.out
       have HK : Hid (type_of% HK1.out) := HK1.out
       have HE : Hid (type_of% HE1.out) := HE1.out
       have HF : Hid (type_of% HF1.out) := HF1.out
       clear HB1 HK1 HE1 HF1
       obtain ⟨c0, c1, c2, c3, c4, c5, c6, c7, c8, c9, c10⟩ := X11.cell (w := v10) ((HK.out.blk w.heap.size _ _ _ HX.out (by decide)).trans HX.out)
       go_wp2_with fail
       refine (faddGt w.heap.size (w.heap.size + 1) n10 a10 8 (nG : Int) 2 _ HF.out (by decide) (by omega) (by omega)).mono ?_
       clear c0 c1 c2 c3 c4 c5 c6 c7 c8 c9 c10
       rintro r v11 ⟨rfl, n11, hn11, f1, f2, f3⟩
       have HB1 : Hid (Below w.heap.size w v11) := HB.out.trans f2
       have HK1 : Hid (Kp notF V v11) := HK.out.trans f3
       have HE1 : Hid (fstE (fstE a10 (okE (decide ((nG : Int) ≤ 8)) 2)) (fstE (frst chkGlo LG) (fstE (okE (decide ((nE : Int) ≤ 8)) 2) (fstE (frst chkNam LE) (fstE (chkNum s) (fstE (okE (decide ((nL : Int) ≤ 4)) 2) (fstE (frst chkEle LL) (fstE (okE (decide ((nD : Int) ≤ 4)) 2) (frst chkDat LD)))))))) = E) := by
        have := HE.out
        unfold Hid
        rw [fstE_assoc]
        exact this
       obtain ⟨a11, ha⟩ : ∃ a11, a11 = fstE a10 (okE (decide ((nG : Int) ≤ 8)) 2) := ⟨_, rfl⟩
       rw [← ha] at HE1 f1
       have HF1 : Hid (FS v11 w.heap.size (w.heap.size + 1) n11 a11) := f1
       have hb11 : n11 ≤ 3298542223368 := by omega
       clear HB HK HE HF f1 f2 f3 ha hn11
       have HB : Hid (type_of% HB1.out) := HB1.out
       have HK : Hid (type_of% HK1.out) := HK1.out
       have HE : Hid (type_of% HE1.out) := HE1.out
       have HF : Hid (type_of% HF1.out) := HF1.out
       clear HB1 HK1 HE1 HF1
       obtain ⟨c0, c1, c2, c3, c4, c5, c6, c7, c8, c9, c10⟩ := X11.cell (w := v11) ((HK.out.blk w.heap.size _ _ _ HX.out (by decide)).trans HX.out)
       go_wp2
       go_loopw [112] (fun iv wr => ∃ (jG n12 : Nat), iv = .int .i64 (jG : Int) ∧ jG ≤ nG ∧ n12 ≤ n11 + jG * 3 ∧ Hid (FS wr w.heap.size (w.heap.size + 1) n12 (fstE a11 (frst chkGlo (LG.take jG)))) ∧ Hid (Below w.heap.size w wr) ∧ Hid (Kp notF V wr)) (fun iv _ => nG - (intOf iv).toNat)
       case atStart => exact ⟨0, n11, rfl, by omega, by omega, by unfold Hid; rw [List.take_zero, frst, fstE_0]; exact HF.out, HB, HK⟩
       case round =>
        obtain ⟨jG, n12, rfl, hjG, hb12, HF2, HB2, HK2⟩ := hrel
        clear HF HB HK c0 c1 c2 c3 c4 c5 c6 c7 c8 c9 c10
        by_cases hlt : jG < nG
        ·have hxG : jG < LG.length := by rw [HLG.out]; exact hlt
         have HT : Hid (fstE a11 (frst chkGlo (LG.take (jG + 1))) = fstE (fstE a11 (frst chkGlo (LG.take jG))) (chkGlo LG[jG])) := by
          unfold Hid
          rw [frst_snoc chkGlo LG jG hxG, fstE_assoc]
         obtain ⟨b, f, rfl, hbN, hcl⟩ := RG.out.at'.resolve_left (fun e => by rw [e] at hxG; exact absurd hxG (by simp))
         have HC : Hid (∀ r, r < 3 → wr.cell? ⟨b, f + jG * 3 + r, none⟩ = (GloD.cells LG[jG])[r]?) := fun r hr => by
          rw [HB2.out.cell (p := ⟨b, f + jG * 3 + r, none⟩) hbN]
          exact hcl jG hxG r hr
         have HOK : Hid (LG[jG] ∈ LG ∧ GloD.ok w LG[jG]) := ⟨List.getElem_mem hxG, RG.out.all _ (List.getElem_mem hxG)⟩
         generalize LG[jG] = d at HT HC HOK
         clear hcl hxG
         generalize fstE a11 (frst chkGlo (LG.take jG)) = aa at HF2 HT
         have hki0 : (0 : Int) ≤ (jG : Int) := by omega
         have hki1 : (jG : Int) < (nG : Int) := by omega
         have hwz := HB2.out.size
         obtain ⟨dk, dm, ds⟩ := d
         clear HOK
         have e0 : wr.cell? ⟨b, f + jG * 3, none⟩ = some (.int .u8 dk) := HC.out 0 (by omega)
         have e1 : wr.cell? ⟨b, f + jG * 3 + 1, none⟩ = some (.bool dm) := HC.out 1 (by omega)
         have e2 : wr.cell? ⟨b, f + jG * 3 + 2, none⟩ = some (.int .i64 ds) := HC.out 2 (by omega)
         have hbw : Below wr.heap.size wr (wr.alloc (.cells #[.int .u8 dk, .bool dm, .int .i64 ds] 60)) := (Below.refl _ _).alloc (Nat.le_refl _) _
         have HBX : Hid (Below w.heap.size w (wr.alloc (.cells #[.int .u8 dk, .bool dm, .int .i64 ds] 60))) := HB2.out.trans (hbw.mono hwz)
         have HFX : Hid (FS (wr.alloc (.cells #[.int .u8 dk, .bool dm, .int .i64 ds] 60)) w.heap.size (w.heap.size + 1) n12 aa) := HF2.out.below hbw
         have HKX : Hid (Kp notF V (wr.alloc (.cells #[.int .u8 dk, .bool dm, .int .i64 ds] 60))) := HK2.out.trans (Kp.below _ hbw)
         clear hbw HC HB2 HK2 HF2
         have hb2 : Below (wr.alloc (.cells #[.int .u8 dk, .bool dm, .int .i64 ds] 60)).heap.size (wr.alloc (.cells #[.int .u8 dk, .bool dm, .int .i64 ds] 60)) ((wr.alloc (.cells #[.int .u8 dk, .bool dm, .int .i64 ds] 60)).alloc (.cells #[.int .u8 dk] 58)) := (Below.refl _ _).alloc (Nat.le_refl _) _
         have hs2 : (wr.alloc (.cells #[.int .u8 dk, .bool dm, .int .i64 ds] 60)).heap.size = wr.heap.size + 1 := by simp
         have HB2X : Hid (Below w.heap.size w ((wr.alloc (.cells #[.int .u8 dk, .bool dm, .int .i64 ds] 60)).alloc (.cells #[.int .u8 dk] 58))) := HBX.out.trans (hb2.mono HBX.out.size)
         have HF2X : Hid (FS ((wr.alloc (.cells #[.int .u8 dk, .bool dm, .int .i64 ds] 60)).alloc (.cells #[.int .u8 dk] 58)) w.heap.size (w.heap.size + 1) n12 aa) := HFX.out.below hb2
         have HK2X : Hid (Kp notF V ((wr.alloc (.cells #[.int .u8 dk, .bool dm, .int .i64 ds] 60)).alloc (.cells #[.int .u8 dk] 58))) := HKX.out.trans (Kp.below _ hb2)
         have HG2 : Hid (((wr.alloc (.cells #[.int .u8 dk, .bool dm, .int .i64 ds] 60)).alloc (.cells #[.int .u8 dk] 58)).heap[wr.heap.size]? = some (.cells #[.int .u8 dk, .bool dm, .int .i64 ds] 60 (0, 0))) := by
          unfold Hid
          rw [Below.heap_alloc _ _ _ (by simp)]
          exact new_block _ _
         have hnb : ((wr.alloc (.cells #[.int .u8 dk, .bool dm, .int .i64 ds] 60)).alloc (.cells #[.int .u8 dk] 58)).heap[wr.heap.size + 1]? = some (.cells #[.int .u8 dk] 58 (0, 0)) := by
          have := new_block (wr.alloc (.cells #[.int .u8 dk, .bool dm, .int .i64 ds] 60)) (.cells #[.int .u8 dk] 58)
          rw [hs2] at this
          exact this
         have HKD : Hid (Calls Tryz.prog 49 #[.pointer (some ⟨w.heap.size + 1, 0, none⟩), .slice (some ⟨wr.heap.size + 1, 0, none⟩) 1 1, .int .i64 1] ((wr.alloc (.cells #[.int .u8 dk, .bool dm, .int .i64 ds] 60)).alloc (.cells #[.int .u8 dk] 58)) (FOut w.heap.size (w.heap.size + 1) n12 (1 + 1) (fstE aa (chkL 1 chkKind [dk])) ((wr.alloc (.cells #[.int .u8 dk, .bool dm, .int .i64 ds] 60)).alloc (.cells #[.int .u8 dk] 58)))) := by
          refine fkindsG w.heap.size (w.heap.size + 1) n12 aa 1 (by decide) (by decide) (some ⟨wr.heap.size + 1, 0, none⟩) 1 1 [dk] _ HF2X.out (by omega) rfl (Or.inr ⟨wr.heap.size + 1, 0, rfl, fun w' _ hq i hi => ?_⟩) (by omega) (by omega) (by omega)
          obtain rfl : i = 0 := by simpa using hi
          have := (hq.blk _ _ _ _ hnb (by decide)).trans hnb
          simp [World.cell?, this]
         clear hb2 hs2 hnb HFX HBX HKX HF2X
         go_wp2_with fail
         refine HKD.out.mono ?_
         clear HKD
         rintro r y1 ⟨rfl, m1, hm1, f1, f2, f3⟩
         have HY : Hid (y1.heap[wr.heap.size]? = some (.cells #[.int .u8 dk, .bool dm, .int .i64 ds] 60 (0, 0))) := (f3.blk _ _ _ _ HG2.out (by decide)).trans HG2.out
         have HFY : Hid (FS y1 w.heap.size (w.heap.size + 1) m1 (fstE aa (chkL 1 chkKind [dk]))) := f1
         have HBY : Hid (Below w.heap.size w y1) := HB2X.out.trans f2
         have HKY : Hid (Kp notF V y1) := HK2X.out.trans f3
         clear f1 f2 f3 HB2X HK2X HG2
         have z0 : y1.cell? ⟨wr.heap.size, 0, none⟩ = some (.int .u8 dk) := by have := HY.out; simp [World.cell?, this]
         have z2 : y1.cell? ⟨wr.heap.size, 2, none⟩ = some (.int .i64 ds) := by have := HY.out; simp [World.cell?, this]
         have HGE : Hid (∀ b, b = (dk == 127 && !s32 ds) → chkGlo ⟨dk, dm, ds⟩ = fstE (chkL 1 chkKind [dk]) (okE (!b) 1)) := fun b hb => chkGlo_eq ⟨dk, dm, ds⟩ b hb
         by_cases h7 : dk = 127
         ·subst h7
          by_cases hlo : ds < -2147483648
          ·have hpf : true = ((127 : Int) == 127 && !s32 ds) := by unfold s32; rw [decide_eq_false (by omega)]; rfl
           have HGB : Hid (chkGlo ⟨127, dm, ds⟩ = fstE (chkL 1 chkKind [127]) (okE (!true) 1)) := HGE.out true hpf
           have HAD : Hid (type_of% (fadd w.heap.size (w.heap.size + 1) m1 (fstE aa (chkL 1 chkKind [127])) 1 true y1 HFY.out (fun _ => by decide) (by omega) (by omega))) := fadd w.heap.size (w.heap.size + 1) m1 (fstE aa (chkL 1 chkKind [127])) 1 true y1 HFY.out (fun _ => by decide) (by omega) (by omega)
           clear HGE HFY hpf
           go_wp2_with fail
           refine HAD.out.mono ?_
           rintro r y2 ⟨rfl, m2, hm2, f1, f2, f3⟩
           have HEnd : Hid (FS y2 w.heap.size (w.heap.size + 1) m2 (fstE a11 (frst chkGlo (LG.take (jG + 1))))) := by
            unfold Hid
            rw [HT.out, HGB.out, ← fstE_assoc]
            exact f1
           have HBZ : Hid (Below w.heap.size w y2) := HBY.out.trans f2
           have HKZ : Hid (Kp notF V y2) := HKY.out.trans f3
           clear f1 f2 f3 HAD HGB HBY HKY HT HY z0 z2
           go_wp2
           go_roundw
           case rel => exact ⟨jG + 1, m2, by go_num, by omega, by omega, HEnd, HBZ, HKZ⟩
           case measure => simp [intOf]; omega
          ·by_cases hhi : 2147483647 < ds
           ·have hpf : true = ((127 : Int) == 127 && !s32 ds) := by unfold s32; rw [decide_eq_true (by omega), decide_eq_false (by omega)]; rfl
            have HGB : Hid (chkGlo ⟨127, dm, ds⟩ = fstE (chkL 1 chkKind [127]) (okE (!true) 1)) := HGE.out true hpf
            have HAD : Hid (type_of% (fadd w.heap.size (w.heap.size + 1) m1 (fstE aa (chkL 1 chkKind [127])) 1 true y1 HFY.out (fun _ => by decide) (by omega) (by omega))) := fadd w.heap.size (w.heap.size + 1) m1 (fstE aa (chkL 1 chkKind [127])) 1 true y1 HFY.out (fun _ => by decide) (by omega) (by omega)
            clear HGE HFY hpf
            go_wp2_with fail
            refine HAD.out.mono ?_
            rintro r y2 ⟨rfl, m2, hm2, f1, f2, f3⟩
            have HEnd : Hid (FS y2 w.heap.size (w.heap.size + 1) m2 (fstE a11 (frst chkGlo (LG.take (jG + 1))))) := by
             unfold Hid
             rw [HT.out, HGB.out, ← fstE_assoc]
             exact f1
            have HBZ : Hid (Below w.heap.size w y2) := HBY.out.trans f2
            have HKZ : Hid (Kp notF V y2) := HKY.out.trans f3
            clear f1 f2 f3 HAD HGB HBY HKY HT HY z0 z2
            go_wp2
            go_roundw
            case rel => exact ⟨jG + 1, m2, by go_num, by omega, by omega, HEnd, HBZ, HKZ⟩
            case measure => simp [intOf]; omega
           ·have hpf : (decide (ds < -2147483648) || decide (2147483647 < ds)) = ((127 : Int) == 127 && !s32 ds) := by rw [decide_eq_false hlo, decide_eq_false hhi]; unfold s32; rw [decide_eq_true (by omega : -2147483648 ≤ ds), decide_eq_true (by omega : ds ≤ 2147483647)]; rfl
            have HGB : Hid (chkGlo ⟨127, dm, ds⟩ = fstE (chkL 1 chkKind [127]) (okE (!(decide (ds < -2147483648) || decide (2147483647 < ds))) 1)) := HGE.out (decide (ds < -2147483648) || decide (2147483647 < ds)) hpf
            have HAD : Hid (type_of% (fadd w.heap.size (w.heap.size + 1) m1 (fstE aa (chkL 1 chkKind [127])) 1 (decide (ds < -2147483648) || decide (2147483647 < ds)) y1 HFY.out (fun _ => by decide) (by omega) (by omega))) := fadd w.heap.size (w.heap.size + 1) m1 (fstE aa (chkL 1 chkKind [127])) 1 (decide (ds < -2147483648) || decide (2147483647 < ds)) y1 HFY.out (fun _ => by decide) (by omega) (by omega)
            clear HGE HFY hpf
            go_wp2_with fail
            refine HAD.out.mono ?_
            rintro r y2 ⟨rfl, m2, hm2, f1, f2, f3⟩
            have HEnd : Hid (FS y2 w.heap.size (w.heap.size + 1) m2 (fstE a11 (frst chkGlo (LG.take (jG + 1))))) := by
             unfold Hid
             rw [HT.out, HGB.out, ← fstE_assoc]
             exact f1
            have HBZ : Hid (Below w.heap.size w y2) := HBY.out.trans f2
            have HKZ : Hid (Kp notF V y2) := HKY.out.trans f3
            clear f1 f2 f3 HAD HGB HBY HKY HT HY z0 z2
            go_wp2
            go_roundw
            case rel => exact ⟨jG + 1, m2, by go_num, by omega, by omega, HEnd, HBZ, HKZ⟩
            case measure => simp [intOf]; omega
         ·have hk7 : (dk == 127) = false := beq_eq_false_iff_ne.2 h7
          have hpf : false = (dk == 127 && !s32 ds) := by rw [hk7]; rfl
          clear h7
          have HGB : Hid (chkGlo ⟨dk, dm, ds⟩ = fstE (chkL 1 chkKind [dk]) (okE (!false) 1)) := HGE.out false hpf
          have HAD : Hid (type_of% (fadd w.heap.size (w.heap.size + 1) m1 (fstE aa (chkL 1 chkKind [dk])) 1 false y1 HFY.out (fun _ => by decide) (by omega) (by omega))) := fadd w.heap.size (w.heap.size + 1) m1 (fstE aa (chkL 1 chkKind [dk])) 1 false y1 HFY.out (fun _ => by decide) (by omega) (by omega)
          clear HGE HFY hpf
          go_wp2_with fail
          refine HAD.out.mono ?_
          rintro r y2 ⟨rfl, m2, hm2, f1, f2, f3⟩
          have HEnd : Hid (FS y2 w.heap.size (w.heap.size + 1) m2 (fstE a11 (frst chkGlo (LG.take (jG + 1))))) := by
           unfold Hid
           rw [HT.out, HGB.out, ← fstE_assoc]
           exact f1
          have HBZ : Hid (Below w.heap.size w y2) := HBY.out.trans f2
          have HKZ : Hid (Kp notF V y2) := HKY.out.trans f3
          clear f1 f2 f3 HAD HGB HBY HKY HT HY z0 z2
          go_wp2
          go_roundw
          case rel => exact ⟨jG + 1, m2, by go_num, by omega, by omega, HEnd, HBZ, HKZ⟩
          case measure => simp [intOf]; omega
        ·have HF1 : Hid (FS wr w.heap.size (w.heap.size + 1) n12 (fstE a11 (frst chkGlo LG))) := by
          have h := HF2.out
          rw [List.take_of_length_le (by rw [HLG.out]; omega)] at h
          exact h
         have HE1 : Hid (fstE (fstE a11 (frst chkGlo LG)) (fstE (okE (decide ((nE : Int) ≤ 8)) 2) (fstE (frst chkNam LE) (fstE (chkNum s) (fstE (okE (decide ((nL : Int) ≤ 4)) 2) (fstE (frst chkEle LL) (fstE (okE (decide ((nD : Int) ≤ 4)) 2) (frst chkDat LD))))))) = E) := by
          have := HE.out
          unfold Hid
          rw [fstE_assoc]
          exact this
         obtain ⟨a12, ha⟩ : ∃ a12, a12 = fstE a11 (frst chkGlo LG) := ⟨_, rfl⟩
         rw [← ha] at HE1 HF1
         have hc12 : n12 ≤ 3298545369096 := by
          have : jG * 3 ≤ 1048576 * 3 := Nat.mul_le_mul_right _ (by omega)
          omega
         obtain ⟨v12, hvv⟩ : ∃ v12, v12 = wr := ⟨_, rfl⟩
         rw [← hvv] at HF1 HB2 HK2
         rw [← hvv]
         clear HE HF2 ha hb12 hvv
         have HE : Hid (type_of% HE1.out) := HE1.out
         have HF : Hid (type_of% HF1.out) := HF1.out
         have HB : Hid (type_of% HB2.out) := HB2.out
         have HK : Hid (type_of% HK2.out) := HK2.out
         clear HE1 HF1 HB2 HK2
         obtain ⟨c0, c1, c2, c3, c4, c5, c6, c7, c8, c9, c10⟩ := X11.cell (w := v12) ((HK.out.blk w.heap.size _ _ _ HX.out (by decide)).trans HX.out)
         go_wp2_with fail
         refine (faddGt w.heap.size (w.heap.size + 1) n12 a12 8 (nE : Int) 2 _ HF.out (by decide) (by omega) (by omega)).mono ?_
         clear c0 c1 c2 c3 c4 c5 c6 c7 c8 c9 c10
         rintro r v13 ⟨rfl, n13, hn13, f1, f2, f3⟩
         have HB1 : Hid (Below w.heap.size w v13) := HB.out.trans f2
         have HK1 : Hid (Kp notF V v13) := HK.out.trans f3
         have HE1 : Hid (fstE (fstE a12 (okE (decide ((nE : Int) ≤ 8)) 2)) (fstE (frst chkNam LE) (fstE (chkNum s) (fstE (okE (decide ((nL : Int) ≤ 4)) 2) (fstE (frst chkEle LL) (fstE (okE (decide ((nD : Int) ≤ 4)) 2) (frst chkDat LD)))))) = E) := by
          have := HE.out
          unfold Hid
          rw [fstE_assoc]
          exact this
         obtain ⟨a13, ha⟩ : ∃ a13, a13 = fstE a12 (okE (decide ((nE : Int) ≤ 8)) 2) := ⟨_, rfl⟩
         rw [← ha] at HE1 f1
         have HF1 : Hid (FS v13 w.heap.size (w.heap.size + 1) n13 a13) := f1
         have hb13 : n13 ≤ 3298545369097 := by omega
         clear HB HK HE HF f1 f2 f3 ha hn13
         have HB : Hid (type_of% HB1.out) := HB1.out
         have HK : Hid (type_of% HK1.out) := HK1.out
         have HE : Hid (type_of% HE1.out) := HE1.out
         have HF : Hid (type_of% HF1.out) := HF1.out
         clear HB1 HK1 HE1 HF1
         obtain ⟨c0, c1, c2, c3, c4, c5, c6, c7, c8, c9, c10⟩ := X11.cell (w := v13) ((HK.out.blk w.heap.size _ _ _ HX.out (by decide)).trans HX.out)
         go_wp2
         go_loopw [143] (fun iv wr => ∃ (jE n14 : Nat), iv = .int .i64 (jE : Int) ∧ jE ≤ nE ∧ n14 ≤ n13 + jE * 2 ∧ Hid (FS wr w.heap.size (w.heap.size + 1) n14 (fstE a13 (frst chkNam (LE.take jE)))) ∧ Hid (Below w.heap.size w wr) ∧ Hid (Kp notF V wr)) (fun iv _ => nE - (intOf iv).toNat)
         case atStart => exact ⟨0, n13, rfl, by omega, by omega, by unfold Hid; rw [List.take_zero, frst, fstE_0]; exact HF.out, HB, HK⟩
         case round =>
          obtain ⟨jE, n14, rfl, hjE, hb14, HF2, HB2, HK2⟩ := hrel
          clear HF HB HK c0 c1 c2 c3 c4 c5 c6 c7 c8 c9 c10
          by_cases hlt : jE < nE
          ·have hxE : jE < LE.length := by rw [HLE.out]; exact hlt
           have HT : Hid (fstE a13 (frst chkNam (LE.take (jE + 1))) = fstE (fstE a13 (frst chkNam (LE.take jE))) (chkNam LE[jE])) := by
            unfold Hid
            rw [frst_snoc chkNam LE jE hxE, fstE_assoc]
           obtain ⟨b, f, rfl, hbN, hcl⟩ := RE.out.at'.resolve_left (fun e => by rw [e] at hxE; exact absurd hxE (by simp))
           have HC : Hid (∀ r, r < 2 → wr.cell? ⟨b, f + jE * 2 + r, none⟩ = (NamD.cells LE[jE])[r]?) := fun r hr => by
            rw [HB2.out.cell (p := ⟨b, f + jE * 2 + r, none⟩) hbN]
            exact hcl jE hxE r hr
           have HOK : Hid (LE[jE] ∈ LE ∧ NamD.ok w LE[jE]) := ⟨List.getElem_mem hxE, RE.out.all _ (List.getElem_mem hxE)⟩
           generalize LE[jE] = d at HT HC HOK
           clear hcl hxE
           generalize fstE a13 (frst chkNam (LE.take jE)) = aa at HF2 HT
           have hki0 : (0 : Int) ≤ (jE : Int) := by omega
           have hki1 : (jE : Int) < (nE : Int) := by omega
           have hwz := HB2.out.size
           obtain ⟨ds, dn⟩ := d
           clear HOK
           have e0 : wr.cell? ⟨b, f + jE * 2, none⟩ = some (.string ds) := HC.out 0 (by omega)
           have e1 : wr.cell? ⟨b, f + jE * 2 + 1, none⟩ = some (.int .i64 dn) := HC.out 1 (by omega)
           have hbw : Below wr.heap.size wr (wr.alloc (.cells #[.string ds, .int .i64 dn] 73)) := (Below.refl _ _).alloc (Nat.le_refl _) _
           have HBX : Hid (Below w.heap.size w (wr.alloc (.cells #[.string ds, .int .i64 dn] 73))) := HB2.out.trans (hbw.mono hwz)
           have HFX : Hid (FS (wr.alloc (.cells #[.string ds, .int .i64 dn] 73)) w.heap.size (w.heap.size + 1) n14 aa) := HF2.out.below hbw
           have HKX : Hid (Kp notF V (wr.alloc (.cells #[.string ds, .int .i64 dn] 73))) := HK2.out.trans (Kp.below _ hbw)
           clear hbw HC HB2 HK2 HF2
           go_wp2_with fail
           refine (fname w.heap.size (w.heap.size + 1) n14 aa ds _ HFX.out (by omega) (by omega)).mono ?_
           rintro r y1 ⟨rfl, m1, hm1, f1, f2, f3⟩
           have HY : Hid (y1.heap[wr.heap.size]? = some (.cells #[.string ds, .int .i64 dn] 73 (0, 0))) := box_kp f3 (by decide)
           have HFY : Hid (FS y1 w.heap.size (w.heap.size + 1) m1 (fstE aa (chkName (nums ds)))) := f1
           have HBY : Hid (Below w.heap.size w y1) := HBX.out.trans f2
           have HKY : Hid (Kp notF V y1) := HKX.out.trans f3
           clear f1 f2 f3 HBX HFX HKX
           have z0 : y1.cell? ⟨wr.heap.size, 0, none⟩ = some (.string ds) := by have := HY.out; simp [World.cell?, this]
           have z1 : y1.cell? ⟨wr.heap.size, 1, none⟩ = some (.int .i64 dn) := by have := HY.out; simp [World.cell?, this]
           go_wp2_with fail
           refine (findex w.heap.size (w.heap.size + 1) m1 _ dn _ HFY.out (by omega) (by omega)).mono ?_
           clear z0 z1
           rintro r y2 ⟨rfl, m2, hm2, f1, f2, f3⟩
           have HY1 : Hid (y2.heap[wr.heap.size]? = some (.cells #[.string ds, .int .i64 dn] 73 (0, 0))) := (f3.blk _ _ _ _ HY.out (by decide)).trans HY.out
           have HFY1 : Hid (FS y2 w.heap.size (w.heap.size + 1) m2 (fstE (fstE aa (chkName (nums ds))) (chkNum dn))) := f1
           have HBY1 : Hid (Below w.heap.size w y2) := HBY.out.trans f2
           have HKY1 : Hid (Kp notF V y2) := HKY.out.trans f3
           clear f1 f2 f3 HBY HFY HKY HY
           have HY : Hid (type_of% HY1.out) := HY1.out
           have HFY : Hid (type_of% HFY1.out) := HFY1.out
           have HBY : Hid (type_of% HBY1.out) := HBY1.out
           have HKY : Hid (type_of% HKY1.out) := HKY1.out
           clear HY1 HFY1 HBY1 HKY1
           have z0 : y2.cell? ⟨wr.heap.size, 0, none⟩ = some (.string ds) := by have := HY.out; simp [World.cell?, this]
           have z1 : y2.cell? ⟨wr.heap.size, 1, none⟩ = some (.int .i64 dn) := by have := HY.out; simp [World.cell?, this]
           have HEnd : Hid (FS y2 w.heap.size (w.heap.size + 1) m2 (fstE a13 (frst chkNam (LE.take (jE + 1))))) := by
            have h := HFY.out
            unfold Hid
            rw [HT.out]
            rw [chkNam, ← fstE_assoc]
            exact h
           clear HFY HT z0 z1
           go_wp2
           go_roundw
           case rel => exact ⟨jE + 1, m2, by go_num, by omega, by omega, HEnd, HBY, HKY⟩
           case measure => simp [intOf]; omega
          ·have HF1 : Hid (FS wr w.heap.size (w.heap.size + 1) n14 (fstE a13 (frst chkNam LE))) := by
            have h := HF2.out
            rw [List.take_of_length_le (by rw [HLE.out]; omega)] at h
            exact h
           have HE1 : Hid (fstE (fstE a13 (frst chkNam LE)) (fstE (chkNum s) (fstE (okE (decide ((nL : Int) ≤ 4)) 2) (fstE (frst chkEle LL) (fstE (okE (decide ((nD : Int) ≤ 4)) 2) (frst chkDat LD))))) = E) := by
            have := HE.out
            unfold Hid
            rw [fstE_assoc]
            exact this
           obtain ⟨a14, ha⟩ : ∃ a14, a14 = fstE a13 (frst chkNam LE) := ⟨_, rfl⟩
           rw [← ha] at HE1 HF1
           have hc14 : n14 ≤ 3298547466249 := by
            have : jE * 2 ≤ 1048576 * 2 := Nat.mul_le_mul_right _ (by omega)
            omega
           obtain ⟨v14, hvv⟩ : ∃ v14, v14 = wr := ⟨_, rfl⟩
           rw [← hvv] at HF1 HB2 HK2
           rw [← hvv]
           clear HE HF2 ha hb14 hvv
           have HE : Hid (type_of% HE1.out) := HE1.out
           have HF : Hid (type_of% HF1.out) := HF1.out
           have HB : Hid (type_of% HB2.out) := HB2.out
           have HK : Hid (type_of% HK2.out) := HK2.out
           clear HE1 HF1 HB2 HK2
           obtain ⟨c0, c1, c2, c3, c4, c5, c6, c7, c8, c9, c10⟩ := X11.cell (w := v14) ((HK.out.blk w.heap.size _ _ _ HX.out (by decide)).trans HX.out)
           go_wp2_with fail
           refine (findex w.heap.size (w.heap.size + 1) n14 a14 s _ HF.out (by omega) (by omega)).mono ?_
           clear c0 c1 c2 c3 c4 c5 c6 c7 c8 c9 c10
           rintro r v15 ⟨rfl, n15, hn15, f1, f2, f3⟩
           have HB1 : Hid (Below w.heap.size w v15) := HB.out.trans f2
           have HK1 : Hid (Kp notF V v15) := HK.out.trans f3
           have HE1 : Hid (fstE (fstE a14 (chkNum s)) (fstE (okE (decide ((nL : Int) ≤ 4)) 2) (fstE (frst chkEle LL) (fstE (okE (decide ((nD : Int) ≤ 4)) 2) (frst chkDat LD)))) = E) := by
            have := HE.out
            unfold Hid
            rw [fstE_assoc]
            exact this
           obtain ⟨a15, ha⟩ : ∃ a15, a15 = fstE a14 (chkNum s) := ⟨_, rfl⟩
           rw [← ha] at HE1 f1
           have HF1 : Hid (FS v15 w.heap.size (w.heap.size + 1) n15 a15) := f1
           have hb15 : n15 ≤ 3298547466250 := by omega
           clear HB HK HE HF f1 f2 f3 ha hn15
           have HB : Hid (type_of% HB1.out) := HB1.out
           have HK : Hid (type_of% HK1.out) := HK1.out
           have HE : Hid (type_of% HE1.out) := HE1.out
           have HF : Hid (type_of% HF1.out) := HF1.out
           clear HB1 HK1 HE1 HF1
           obtain ⟨c0, c1, c2, c3, c4, c5, c6, c7, c8, c9, c10⟩ := X11.cell (w := v15) ((HK.out.blk w.heap.size _ _ _ HX.out (by decide)).trans HX.out)
           go_wp2_with fail
           refine (faddGt w.heap.size (w.heap.size + 1) n15 a15 4 (nL : Int) 2 _ HF.out (by decide) (by omega) (by omega)).mono ?_
           clear c0 c1 c2 c3 c4 c5 c6 c7 c8 c9 c10
           rintro r v16 ⟨rfl, n16, hn16, f1, f2, f3⟩
           have HB1 : Hid (Below w.heap.size w v16) := HB.out.trans f2
           have HK1 : Hid (Kp notF V v16) := HK.out.trans f3
           have HE1 : Hid (fstE (fstE a15 (okE (decide ((nL : Int) ≤ 4)) 2)) (fstE (frst chkEle LL) (fstE (okE (decide ((nD : Int) ≤ 4)) 2) (frst chkDat LD))) = E) := by
            have := HE.out
            unfold Hid
            rw [fstE_assoc]
            exact this
           obtain ⟨a16, ha⟩ : ∃ a16, a16 = fstE a15 (okE (decide ((nL : Int) ≤ 4)) 2) := ⟨_, rfl⟩
           rw [← ha] at HE1 f1
           have HF1 : Hid (FS v16 w.heap.size (w.heap.size + 1) n16 a16) := f1
           have hb16 : n16 ≤ 3298547466251 := by omega
           clear HB HK HE HF f1 f2 f3 ha hn16
           have HB : Hid (type_of% HB1.out) := HB1.out
           have HK : Hid (type_of% HK1.out) := HK1.out
           have HE : Hid (type_of% HE1.out) := HE1.out
           have HF : Hid (type_of% HF1.out) := HF1.out
           clear HB1 HK1 HE1 HF1
           obtain ⟨c0, c1, c2, c3, c4, c5, c6, c7, c8, c9, c10⟩ := X11.cell (w := v16) ((HK.out.blk w.heap.size _ _ _ HX.out (by decide)).trans HX.out)
           go_wp2
           go_loopw [165] (fun iv wr => ∃ (jL n17 : Nat), iv = .int .i64 (jL : Int) ∧ jL ≤ nL ∧ n17 ≤ n16 + jL * 1048578 ∧ Hid (FS wr w.heap.size (w.heap.size + 1) n17 (fstE a16 (frst chkEle (LL.take jL)))) ∧ Hid (Below w.heap.size w wr) ∧ Hid (Kp notF V wr)) (fun iv _ => nL - (intOf iv).toNat)
           case atStart => exact ⟨0, n16, rfl, by omega, by omega, by unfold Hid; rw [List.take_zero, frst, fstE_0]; exact HF.out, HB, HK⟩
           case round =>
            obtain ⟨jL, n17, rfl, hjL, hb17, HF2, HB2, HK2⟩ := hrel
            clear HF HB HK c0 c1 c2 c3 c4 c5 c6 c7 c8 c9 c10
            by_cases hlt : jL < nL
            ·have hxL : jL < LL.length := by rw [HLL.out]; exact hlt
             have HT : Hid (fstE a16 (frst chkEle (LL.take (jL + 1))) = fstE (fstE a16 (frst chkEle (LL.take jL))) (chkEle LL[jL])) := by
              unfold Hid
              rw [frst_snoc chkEle LL jL hxL, fstE_assoc]
             obtain ⟨b, f, rfl, hbN, hcl⟩ := RL.out.at'.resolve_left (fun e => by rw [e] at hxL; exact absurd hxL (by simp))
             have HC : Hid (∀ r, r < 2 → wr.cell? ⟨b, f + jL * 2 + r, none⟩ = (EleD.cells LL[jL])[r]?) := fun r hr => by
              rw [HB2.out.cell (p := ⟨b, f + jL * 2 + r, none⟩) hbN]
              exact hcl jL hxL r hr
             have HOK : Hid (LL[jL] ∈ LL ∧ EleD.ok w LL[jL]) := ⟨List.getElem_mem hxL, RL.out.all _ (List.getElem_mem hxL)⟩
             generalize LL[jL] = d at HT HC HOK
             clear hcl hxL
             generalize fstE a16 (frst chkEle (LL.take jL)) = aa at HF2 HT
             have hki0 : (0 : Int) ≤ (jL : Int) := by omega
             have hki1 : (jL : Int) < (nL : Int) := by omega
             have hwz := HB2.out.size
             obtain ⟨da, df⟩ := d
             have hsz1 : df.n ≤ 1048576 := SL.out _ HOK.out.1
             have HO1 : Hid (df.ok .i64 w) := HOK.out.2.2
             clear HOK
             have e0 : wr.cell? ⟨b, f + jL * 2, none⟩ = some (.int .i64 da) := HC.out 0 (by omega)
             have e1 : wr.cell? ⟨b, f + jL * 2 + 1, none⟩ = some (.slice df.o df.n df.cap) := HC.out 1 (by omega)
             have hbw : Below wr.heap.size wr (wr.alloc (.cells #[.int .i64 da, .slice df.o df.n df.cap] 78)) := (Below.refl _ _).alloc (Nat.le_refl _) _
             have HBX : Hid (Below w.heap.size w (wr.alloc (.cells #[.int .i64 da, .slice df.o df.n df.cap] 78))) := HB2.out.trans (hbw.mono hwz)
             have HFX : Hid (FS (wr.alloc (.cells #[.int .i64 da, .slice df.o df.n df.cap] 78)) w.heap.size (w.heap.size + 1) n17 aa) := HF2.out.below hbw
             have HKX : Hid (Kp notF V (wr.alloc (.cells #[.int .i64 da, .slice df.o df.n df.cap] 78))) := HK2.out.trans (Kp.below _ hbw)
             clear hbw HC HB2 HK2 HF2
             go_wp2_with fail
             refine (fat w.heap.size (w.heap.size + 1) n17 aa da _ HFX.out (by omega) (by omega)).mono ?_
             rintro r y1 ⟨rfl, m1, hm1, f1, f2, f3⟩
             have HY : Hid (y1.heap[wr.heap.size]? = some (.cells #[.int .i64 da, .slice df.o df.n df.cap] 78 (0, 0))) := box_kp f3 (by decide)
             have HFY : Hid (FS y1 w.heap.size (w.heap.size + 1) m1 (fstE aa (okE (s32 da) 1))) := f1
             have HBY : Hid (Below w.heap.size w y1) := HBX.out.trans f2
             have HKY : Hid (Kp notF V y1) := HKX.out.trans f3
             clear f1 f2 f3 HBX HFX HKX
             have z0 : y1.cell? ⟨wr.heap.size, 0, none⟩ = some (.int .i64 da) := by have := HY.out; simp [World.cell?, this]
             have z1 : y1.cell? ⟨wr.heap.size, 1, none⟩ = some (.slice df.o df.n df.cap) := by have := HY.out; simp [World.cell?, this]
             go_wp2_with fail
             refine (faddGt w.heap.size (w.heap.size + 1) m1 _ 16 (df.n : Int) 2 _ HFY.out (by decide) (by omega) (by omega)).mono ?_
             clear z0 z1
             rintro r y2 ⟨rfl, m2, hm2, f1, f2, f3⟩
             have HY1 : Hid (y2.heap[wr.heap.size]? = some (.cells #[.int .i64 da, .slice df.o df.n df.cap] 78 (0, 0))) := (f3.blk _ _ _ _ HY.out (by decide)).trans HY.out
             have HFY1 : Hid (FS y2 w.heap.size (w.heap.size + 1) m2 (fstE (fstE aa (okE (s32 da) 1)) (okE (decide ((df.n : Int) ≤ 16)) 2))) := f1
             have HBY1 : Hid (Below w.heap.size w y2) := HBY.out.trans f2
             have HKY1 : Hid (Kp notF V y2) := HKY.out.trans f3
             clear f1 f2 f3 HBY HFY HKY HY
             have HY : Hid (type_of% HY1.out) := HY1.out
             have HFY : Hid (type_of% HFY1.out) := HFY1.out
             have HBY : Hid (type_of% HBY1.out) := HBY1.out
             have HKY : Hid (type_of% HKY1.out) := HKY1.out
             clear HY1 HFY1 HBY1 HKY1
             have z0 : y2.cell? ⟨wr.heap.size, 0, none⟩ = some (.int .i64 da) := by have := HY.out; simp [World.cell?, this]
             have z1 : y2.cell? ⟨wr.heap.size, 1, none⟩ = some (.slice df.o df.n df.cap) := by have := HY.out; simp [World.cell?, this]
             have HT2 : Hid (fstE a16 (frst chkEle (LL.take (jL + 1))) = fstE (fstE (fstE aa (okE (s32 da) 1)) (okE (decide ((df.n : Int) ≤ 16)) 2)) (frst chkNum df.xs)) := by
              unfold Hid
              rw [HT.out, chkEle, chkL, ← fstE_assoc, ← fstE_assoc, HO1.out.len]
             generalize fstE (fstE aa (okE (s32 da) 1)) (okE (decide ((df.n : Int) ≤ 16)) 2) = ab at HFY HT2
             have hcp := HO1.out.le
             have hmo := HO1.out.most
             unfold maxLen at hmo
             have HLN : Hid (df.xs.length = df.n) := HO1.out.len
             have HAT : Hid (type_of% (HO1.out.at1 (Nat.le_refl _))) := HO1.out.at1 (Nat.le_refl _)
             clear HT HO1
             obtain ⟨fo, fn, fk, fx⟩ := df
             dsimp only at *
             obtain ⟨yo, hyo⟩ : ∃ yo, yo = wr.heap.size := ⟨_, rfl⟩
             go_wp2
             go_loopw [180] (fun iv wr => ∃ (i n9 : Nat), iv = .int .i64 (i : Int) ∧ i ≤ fn ∧ n9 ≤ m2 + i ∧ Hid (FS wr w.heap.size (w.heap.size + 1) n9 (fstE ab (frst chkNum (fx.take i)))) ∧ Hid (Below w.heap.size w wr) ∧ Hid (Kp notF V wr)) (fun iv _ => fn - (intOf iv).toNat)
             case atStart => exact ⟨0, m2, rfl, by omega, by omega, by unfold Hid; rw [List.take_zero, frst, fstE_0]; exact HFY.out, HBY, HKY⟩
             case round =>
              obtain ⟨i, n9, rfl, hi9, hn9, HF9, HB9, HK9⟩ := hrel
              clear HFY HBY HKY HY z0 z1
              by_cases hlt9 : i < fn
              ·have hx9 : i < fx.length := by rw [HLN.out]; exact hlt9
               have HT9 : Hid (fstE ab (frst chkNum (fx.take (i + 1))) = fstE (fstE ab (frst chkNum (fx.take i))) (chkNum fx[i])) := by
                unfold Hid
                rw [frst_snoc chkNum fx i hx9, fstE_assoc]
               obtain ⟨b9, f9, rfl, hb9, hc9⟩ := HAT.out.resolve_left (fun e => by rw [e] at hx9; exact absurd hx9 (by simp))
               have e9 : wr.cell? ⟨b9, f9 + i, none⟩ = some (.int .i64 fx[i]) := by
                rw [HB9.out.cell (p := ⟨b9, f9 + i, none⟩) hb9]
                have := hc9 i hx9 0 (by omega)
                rw [Nat.mul_one, Nat.add_zero] at this
                rw [this]
                rfl
               generalize fx[i] = x9 at HT9 e9
               clear hc9 hx9
               have hq0 : (0 : Int) ≤ (i : Int) := by omega
               have hq1 : (i : Int) < (fn : Int) := by omega
               have HAD : Hid (type_of% (findex w.heap.size (w.heap.size + 1) n9 _ x9 wr HF9.out (by omega) (by omega))) := findex w.heap.size (w.heap.size + 1) n9 _ x9 wr HF9.out (by omega) (by omega)
               rw [← HT9.out] at HAD
               clear HF9 HT9
               go_wp2_with fail
               refine HAD.out.mono ?_
               rintro r y7 ⟨rfl, m7, hm7, f1, f2, f3⟩
               have HF7 : Hid (type_of% f1) := f1
               have HB7 : Hid (Below w.heap.size w y7) := HB9.out.trans f2
               have HK7 : Hid (Kp notF V y7) := HK9.out.trans f3
               clear f1 f2 f3 HAD HB9 HK9
               go_wp2
               go_roundw
               case rel => exact ⟨i + 1, m7, by go_num, by omega, by omega, HF7, HB7, HK7⟩
               case measure => simp [intOf]; omega
              ·have HEnd : Hid (FS wr w.heap.size (w.heap.size + 1) n9 (fstE a16 (frst chkEle (LL.take (jL + 1))))) := by
                have h := HF9.out
                rw [List.take_of_length_le (by rw [HLN.out]; omega)] at h
                unfold Hid
                rw [HT2.out]
                exact h
               clear HF9 HT2
               go_wp2
               go_roundw
               case rel => exact ⟨jL + 1, n9, by go_num, by omega, by omega, HEnd, HB9, HK9⟩
               case measure => simp [intOf]; omega
            ·have HF1 : Hid (FS wr w.heap.size (w.heap.size + 1) n17 (fstE a16 (frst chkEle LL))) := by
              have h := HF2.out
              rw [List.take_of_length_le (by rw [HLL.out]; omega)] at h
              exact h
             have HE1 : Hid (fstE (fstE a16 (frst chkEle LL)) (fstE (okE (decide ((nD : Int) ≤ 4)) 2) (frst chkDat LD)) = E) := by
              have := HE.out
              unfold Hid
              rw [fstE_assoc]
              exact this
             obtain ⟨a17, ha⟩ : ∃ a17, a17 = fstE a16 (frst chkEle LL) := ⟨_, rfl⟩
             rw [← ha] at HE1 HF1
             have hc17 : n17 ≤ 4398061191179 := by
              have : jL * 1048578 ≤ 1048576 * 1048578 := Nat.mul_le_mul_right _ (by omega)
              omega
             obtain ⟨v17, hvv⟩ : ∃ v17, v17 = wr := ⟨_, rfl⟩
             rw [← hvv] at HF1 HB2 HK2
             rw [← hvv]
             clear HE HF2 ha hb17 hvv
             have HE : Hid (type_of% HE1.out) := HE1.out
             have HF : Hid (type_of% HF1.out) := HF1.out
             have HB : Hid (type_of% HB2.out) := HB2.out
             have HK : Hid (type_of% HK2.out) := HK2.out
             clear HE1 HF1 HB2 HK2
             obtain ⟨c0, c1, c2, c3, c4, c5, c6, c7, c8, c9, c10⟩ := X11.cell (w := v17) ((HK.out.blk w.heap.size _ _ _ HX.out (by decide)).trans HX.out)
             go_wp2_with fail
             refine (faddGt w.heap.size (w.heap.size + 1) n17 a17 4 (nD : Int) 2 _ HF.out (by decide) (by omega) (by omega)).mono ?_
             clear c0 c1 c2 c3 c4 c5 c6 c7 c8 c9 c10
             rintro r v18 ⟨rfl, n18, hn18, f1, f2, f3⟩
             have HB1 : Hid (Below w.heap.size w v18) := HB.out.trans f2
             have HK1 : Hid (Kp notF V v18) := HK.out.trans f3
             have HE1 : Hid (fstE (fstE a17 (okE (decide ((nD : Int) ≤ 4)) 2)) (frst chkDat LD) = E) := by
              have := HE.out
              unfold Hid
              rw [fstE_assoc]
              exact this
             obtain ⟨a18, ha⟩ : ∃ a18, a18 = fstE a17 (okE (decide ((nD : Int) ≤ 4)) 2) := ⟨_, rfl⟩
             rw [← ha] at HE1 f1
             have HF1 : Hid (FS v18 w.heap.size (w.heap.size + 1) n18 a18) := f1
             have hb18 : n18 ≤ 4398061191180 := by omega
             clear HB HK HE HF f1 f2 f3 ha hn18
             have HB : Hid (type_of% HB1.out) := HB1.out
             have HK : Hid (type_of% HK1.out) := HK1.out
             have HE : Hid (type_of% HE1.out) := HE1.out
             have HF : Hid (type_of% HF1.out) := HF1.out
             clear HB1 HK1 HE1 HF1
             obtain ⟨c0, c1, c2, c3, c4, c5, c6, c7, c8, c9, c10⟩ := X11.cell (w := v18) ((HK.out.blk w.heap.size _ _ _ HX.out (by decide)).trans HX.out)
             go_wp2
             go_loopw [196] (fun iv wr => ∃ (jD n19 : Nat), iv = .int .i64 (jD : Int) ∧ jD ≤ nD ∧ n19 ≤ n18 + jD * 2 ∧ Hid (FS wr w.heap.size (w.heap.size + 1) n19 (fstE a18 (frst chkDat (LD.take jD)))) ∧ Hid (Below w.heap.size w wr) ∧ Hid (Kp notF V wr)) (fun iv _ => nD - (intOf iv).toNat)
             case atStart => exact ⟨0, n18, rfl, by omega, by omega, by unfold Hid; rw [List.take_zero, frst, fstE_0]; exact HF.out, HB, HK⟩
             case round =>
              obtain ⟨jD, n19, rfl, hjD, hb19, HF2, HB2, HK2⟩ := hrel
              clear HF HB HK c0 c1 c2 c3 c4 c5 c6 c7 c8 c9 c10
              by_cases hlt : jD < nD
              ·have hxD : jD < LD.length := by rw [HLD.out]; exact hlt
               have HT : Hid (fstE a18 (frst chkDat (LD.take (jD + 1))) = fstE (fstE a18 (frst chkDat (LD.take jD))) (chkDat LD[jD])) := by
                unfold Hid
                rw [frst_snoc chkDat LD jD hxD, fstE_assoc]
               obtain ⟨b, f, rfl, hbN, hcl⟩ := RD.out.at'.resolve_left (fun e => by rw [e] at hxD; exact absurd hxD (by simp))
               have HC : Hid (∀ r, r < 2 → wr.cell? ⟨b, f + jD * 2 + r, none⟩ = (DatD.cells LD[jD])[r]?) := fun r hr => by
                rw [HB2.out.cell (p := ⟨b, f + jD * 2 + r, none⟩) hbN]
                exact hcl jD hxD r hr
               have HOK : Hid (LD[jD] ∈ LD ∧ DatD.ok w LD[jD]) := ⟨List.getElem_mem hxD, RD.out.all _ (List.getElem_mem hxD)⟩
               generalize LD[jD] = d at HT HC HOK
               clear hcl hxD
               generalize fstE a18 (frst chkDat (LD.take jD)) = aa at HF2 HT
               have hki0 : (0 : Int) ≤ (jD : Int) := by omega
               have hki1 : (jD : Int) < (nD : Int) := by omega
               have hwz := HB2.out.size
               obtain ⟨da, ds⟩ := d
               clear HOK
               have e0 : wr.cell? ⟨b, f + jD * 2, none⟩ = some (.int .i64 da) := HC.out 0 (by omega)
               have e1 : wr.cell? ⟨b, f + jD * 2 + 1, none⟩ = some (.string ds) := HC.out 1 (by omega)
               have hbw : Below wr.heap.size wr (wr.alloc (.cells #[.int .i64 da, .string ds] 102)) := (Below.refl _ _).alloc (Nat.le_refl _) _
               have HBX : Hid (Below w.heap.size w (wr.alloc (.cells #[.int .i64 da, .string ds] 102))) := HB2.out.trans (hbw.mono hwz)
               have HFX : Hid (FS (wr.alloc (.cells #[.int .i64 da, .string ds] 102)) w.heap.size (w.heap.size + 1) n19 aa) := HF2.out.below hbw
               have HKX : Hid (Kp notF V (wr.alloc (.cells #[.int .i64 da, .string ds] 102))) := HK2.out.trans (Kp.below _ hbw)
               clear hbw HC HB2 HK2 HF2
               go_wp2_with fail
               refine (fat w.heap.size (w.heap.size + 1) n19 aa da _ HFX.out (by omega) (by omega)).mono ?_
               rintro r y1 ⟨rfl, m1, hm1, f1, f2, f3⟩
               have HY : Hid (y1.heap[wr.heap.size]? = some (.cells #[.int .i64 da, .string ds] 102 (0, 0))) := box_kp f3 (by decide)
               have HFY : Hid (FS y1 w.heap.size (w.heap.size + 1) m1 (fstE aa (okE (s32 da) 1))) := f1
               have HBY : Hid (Below w.heap.size w y1) := HBX.out.trans f2
               have HKY : Hid (Kp notF V y1) := HKX.out.trans f3
               clear f1 f2 f3 HBX HFX HKX
               have z0 : y1.cell? ⟨wr.heap.size, 0, none⟩ = some (.int .i64 da) := by have := HY.out; simp [World.cell?, this]
               have z1 : y1.cell? ⟨wr.heap.size, 1, none⟩ = some (.string ds) := by have := HY.out; simp [World.cell?, this]
               go_wp2_with fail
               refine (faddGt w.heap.size (w.heap.size + 1) m1 _ 64 (ds.size : Int) 2 _ HFY.out (by decide) (by omega) (by omega)).mono ?_
               clear z0 z1
               rintro r y2 ⟨rfl, m2, hm2, f1, f2, f3⟩
               have HY1 : Hid (y2.heap[wr.heap.size]? = some (.cells #[.int .i64 da, .string ds] 102 (0, 0))) := (f3.blk _ _ _ _ HY.out (by decide)).trans HY.out
               have HFY1 : Hid (FS y2 w.heap.size (w.heap.size + 1) m2 (fstE (fstE aa (okE (s32 da) 1)) (okE (decide ((ds.size : Int) ≤ 64)) 2))) := f1
               have HBY1 : Hid (Below w.heap.size w y2) := HBY.out.trans f2
               have HKY1 : Hid (Kp notF V y2) := HKY.out.trans f3
               clear f1 f2 f3 HBY HFY HKY HY
               have HY : Hid (type_of% HY1.out) := HY1.out
               have HFY : Hid (type_of% HFY1.out) := HFY1.out
               have HBY : Hid (type_of% HBY1.out) := HBY1.out
               have HKY : Hid (type_of% HKY1.out) := HKY1.out
               clear HY1 HFY1 HBY1 HKY1
               have z0 : y2.cell? ⟨wr.heap.size, 0, none⟩ = some (.int .i64 da) := by have := HY.out; simp [World.cell?, this]
               have z1 : y2.cell? ⟨wr.heap.size, 1, none⟩ = some (.string ds) := by have := HY.out; simp [World.cell?, this]
               have HEnd : Hid (FS y2 w.heap.size (w.heap.size + 1) m2 (fstE a18 (frst chkDat (LD.take (jD + 1))))) := by
                have h := HFY.out
                unfold Hid
                rw [HT.out]
                rw [chkDat, ← fstE_assoc]
                exact h
               clear HFY HT z0 z1
               go_wp2
               go_roundw
               case rel => exact ⟨jD + 1, m2, by go_num, by omega, by omega, HEnd, HBY, HKY⟩
               case measure => simp [intOf]; omega
              ·have HF1 : Hid (FS wr w.heap.size (w.heap.size + 1) n19 (fstE a18 (frst chkDat LD))) := by
                have h := HF2.out
                rw [List.take_of_length_le (by rw [HLD.out]; omega)] at h
                exact h
               have HE1 : Hid (fstE (fstE a18 (frst chkDat LD)) 0 = E) := by
                have := HE.out
                unfold Hid
                rw [fstE_assoc]
                rw [fstE_0]; exact this
               obtain ⟨a19, ha⟩ : ∃ a19, a19 = fstE a18 (frst chkDat LD) := ⟨_, rfl⟩
               rw [← ha] at HE1 HF1
               have hc19 : n19 ≤ 4398063288332 := by
                have : jD * 2 ≤ 1048576 * 2 := Nat.mul_le_mul_right _ (by omega)
                omega
               obtain ⟨v19, hvv⟩ : ∃ v19, v19 = wr := ⟨_, rfl⟩
               rw [← hvv] at HF1 HB2 HK2
               rw [← hvv]
               clear HE HF2 ha hb19 hvv
               have HE : Hid (type_of% HE1.out) := HE1.out
               have HF : Hid (type_of% HF1.out) := HF1.out
               have HB : Hid (type_of% HB2.out) := HB2.out
               have HK : Hid (type_of% HK2.out) := HK2.out
               clear HE1 HF1 HB2 HK2
               obtain ⟨c0, c1, c2, c3, c4, c5, c6, c7, c8, c9, c10⟩ := X11.cell (w := v19) ((HK.out.blk w.heap.size _ _ _ HX.out (by decide)).trans HX.out)
               clear c0 c1 c2 c3 c4 c5 c6 c7 c8 c9 c10
               have HEE : Hid (a19 = E) := by
                have := HE.out
                rw [fstE_0] at this
                exact this
               rw [HEE.out] at HF
               obtain ⟨o, cap, es, g1, g2, g3, _, g5⟩ := HF.out.out
               have hcl : v19.cell? ⟨w.heap.size + 1, 0, none⟩ = some (.slice o n19 cap) := by simp [World.cell?, g1]
               have HFI : Hid (type_of% (ffirst v19 w.heap.size n19 cap o es g3 g2 (by omega))) := ffirst v19 w.heap.size n19 cap o es g3 g2 (by omega)
               rw [← g5] at HFI
               clear g1 g2 g3 g5
               go_wp2_with fail
               refine HFI.out.mono ?_
               rintro r w9 ⟨rfl, rfl⟩
               go_wp2
               go_ret
               exact ⟨rfl, HB.out⟩
end Go.Proofs.YtmemiohompdibaaGreatDoor
