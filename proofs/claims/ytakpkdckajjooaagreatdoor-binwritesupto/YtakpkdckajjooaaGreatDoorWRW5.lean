/-
 The document's own 'sections'.
-/
import Derived.Test.YtakpkdckajjooaaGreatDoorWQJ
import Derived.Deep.RegionHeld3
import Derived.Deep.DeepCutAuto
set_option maxHeartbeats 8000000
set_option maxRecDepth 1000000
namespace Go.Proofs.YtakpkdckajjooaaGreatDoor
open Go.RowKit
set_option linter.unusedVariables false
theorem sections_core (oT oI oF oG oE oL oD : Option Addr) (nT kT nI kI nF kF nG kG nE kE nL kL nD kD : Nat) (t p q s : Int) (w : World)
  (LT : List SigD) (RT : Hid (RowsOf w 2 SigD.cells SigD.ok oT kT LT)) (HLT : Hid (LT.length = nT)) (bT : nT ≤ 16) (GT : Hid (∀ d ∈ LT, GSig d.val))
  (LI : List NamD) (RI : Hid (RowsOf w 2 NamD.cells NamD.ok oI kI LI)) (HLI : Hid (LI.length = nI)) (bI : nI ≤ 16) (GI : Hid (∀ d ∈ LI, GNam d.val))
  (LF : List FunD) (RF : Hid (RowsOf w 3 FunD.cells FunD.ok oF kF LF)) (HLF : Hid (LF.length = nF)) (bF : nF ≤ 16) (GF : Hid (∀ d ∈ LF, isNum d.t ∧ GCod d.cod))
  (LG : List GloD) (RG : Hid (RowsOf w 3 GloD.cells GloD.ok oG kG LG)) (HLG : Hid (LG.length = nG)) (bG : nG ≤ 8) (GG : Hid (∀ d ∈ LG, GGlo d.val))
  (LE : List NamD) (RE : Hid (RowsOf w 2 NamD.cells NamD.ok oE kE LE)) (HLE : Hid (LE.length = nE)) (bE : nE ≤ 8) (GE : Hid (∀ d ∈ LE, GNam d.val))
  (LL : List EleD) (RL : Hid (RowsOf w 2 EleD.cells EleD.ok oL kL LL)) (HLL : Hid (LL.length = nL)) (bL : nL ≤ 4) (GL : Hid (∀ d ∈ LL, GEle d.val))
  (LD : List DatD) (RD : Hid (RowsOf w 2 DatD.cells DatD.ok oD kD LD)) (HLD : Hid (LD.length = nD)) (bD : nD ≤ 4) (GD : Hid (∀ d ∈ LD, GDat d.val))
  (HCD : Hid (∀ d ∈ LF, ∀ w', Below w.heap.size w w' → Calls Tryz.prog 91 #[.agg #[.int .i64 d.t, .slice d.l.o d.l.n d.l.cap, .slice d.o d.b.length d.cap]] w' (Txt w' (tCode d.cod)) ∧ (tCode d.cod).length ≤ 400000))
  (ht : 0 ≤ t ∧ t ≤ 16) (hp : 0 ≤ p ∧ p ≤ 8) (hq : 0 ≤ q ∧ q ≤ 8) (hs : 0 ≤ s ∧ s ≤ 4294967295) :
  Calls Tryz.prog 27 #[.agg #[.slice oT nT kT, .slice oI nI kI, .slice oF nF kF, .int .i64 t, .int .i64 p, .int .i64 q, .slice oG nG kG, .slice oE nE kE, .int .i64 s, .slice oL nL kL, .slice oD nD kD]] w fun r w' => ∃ S : Nat → ByteArray, r = .returned (.agg #[.string (S 0), .string (S 1), .string (S 2), .string (S 3), .string (S 4), .string (S 5), .string (S 6), .string (S 7), .string (S 8), .string (S 9), .string (S 10), .string (S 11)]) ∧ (∀ k, k < 12 → nums (S k) = secC k ⟨LT.map SigD.val, LI.map NamD.val, LF.map FunD.t, t, p, q, LG.map GloD.val, LE.map NamD.val, s, LL.map EleD.val, LF.map FunD.cod, LD.map DatD.val⟩) ∧ Below w.heap.size w w' := by
 obtain ⟨P, hP⟩ : ∃ P, P = w.heap.size + 2 := ⟨_, rfl⟩
 have s1 : (w.alloc (.cells #[.slice oT nT kT, .slice oI nI kI, .slice oF nF kF, .int .i64 t, .int .i64 p, .int .i64 q, .slice oG nG kG, .slice oE nE kE, .int .i64 s, .slice oL nL kL, .slice oD nD kD] 30)).heap.size = w.heap.size + 1 := by simp
 have s2 : ((w.alloc (.cells #[.slice oT nT kT, .slice oI nI kI, .slice oF nF kF, .int .i64 t, .int .i64 p, .int .i64 q, .slice oG nG kG, .slice oE nE kE, .int .i64 s, .slice oL nL kL, .slice oD nD kD] 30)).alloc (.cells #[.string ⟨#[]⟩, .string ⟨#[]⟩, .string ⟨#[]⟩, .string ⟨#[]⟩, .string ⟨#[]⟩, .string ⟨#[]⟩, .string ⟨#[]⟩, .string ⟨#[]⟩, .string ⟨#[]⟩, .string ⟨#[]⟩, .string ⟨#[]⟩, .string ⟨#[]⟩] 73)).heap.size = w.heap.size + 2 := by simp
 have bW : Below w.heap.size w ((w.alloc (.cells #[.slice oT nT kT, .slice oI nI kI, .slice oF nF kF, .int .i64 t, .int .i64 p, .int .i64 q, .slice oG nG kG, .slice oE nE kE, .int .i64 s, .slice oL nL kL, .slice oD nD kD] 30)).alloc (.cells #[.string ⟨#[]⟩, .string ⟨#[]⟩, .string ⟨#[]⟩, .string ⟨#[]⟩, .string ⟨#[]⟩, .string ⟨#[]⟩, .string ⟨#[]⟩, .string ⟨#[]⟩, .string ⟨#[]⟩, .string ⟨#[]⟩, .string ⟨#[]⟩, .string ⟨#[]⟩] 73)) := ((Below.refl _ _).alloc (Nat.le_refl _) _).alloc (by simp) _
 have hX : ((w.alloc (.cells #[.slice oT nT kT, .slice oI nI kI, .slice oF nF kF, .int .i64 t, .int .i64 p, .int .i64 q, .slice oG nG kG, .slice oE nE kE, .int .i64 s, .slice oL nL kL, .slice oD nD kD] 30)).alloc (.cells #[.string ⟨#[]⟩, .string ⟨#[]⟩, .string ⟨#[]⟩, .string ⟨#[]⟩, .string ⟨#[]⟩, .string ⟨#[]⟩, .string ⟨#[]⟩, .string ⟨#[]⟩, .string ⟨#[]⟩, .string ⟨#[]⟩, .string ⟨#[]⟩, .string ⟨#[]⟩] 73)).heap[w.heap.size]? = some (.cells #[.slice oT nT kT, .slice oI nI kI, .slice oF nF kF, .int .i64 t, .int .i64 p, .int .i64 q, .slice oG nG kG, .slice oE nE kE, .int .i64 s, .slice oL nL kL, .slice oD nD kD] 30 (0, 0)) := by
  rw [Below.heap_alloc _ _ _ (by simp)]
  exact new_block _ _
 have hR : ((w.alloc (.cells #[.slice oT nT kT, .slice oI nI kI, .slice oF nF kF, .int .i64 t, .int .i64 p, .int .i64 q, .slice oG nG kG, .slice oE nE kE, .int .i64 s, .slice oL nL kL, .slice oD nD kD] 30)).alloc (.cells #[.string ⟨#[]⟩, .string ⟨#[]⟩, .string ⟨#[]⟩, .string ⟨#[]⟩, .string ⟨#[]⟩, .string ⟨#[]⟩, .string ⟨#[]⟩, .string ⟨#[]⟩, .string ⟨#[]⟩, .string ⟨#[]⟩, .string ⟨#[]⟩, .string ⟨#[]⟩] 73)).heap[w.heap.size + 1]? = some (.cells #[.string ⟨#[]⟩, .string ⟨#[]⟩, .string ⟨#[]⟩, .string ⟨#[]⟩, .string ⟨#[]⟩, .string ⟨#[]⟩, .string ⟨#[]⟩, .string ⟨#[]⟩, .string ⟨#[]⟩, .string ⟨#[]⟩, .string ⟨#[]⟩, .string ⟨#[]⟩] 73 (0, 0)) := by
  have := new_block (w.alloc (.cells #[.slice oT nT kT, .slice oI nI kI, .slice oF nF kF, .int .i64 t, .int .i64 p, .int .i64 q, .slice oG nG kG, .slice oE nE kE, .int .i64 s, .slice oL nL kL, .slice oD nD kD] 30)) (.cells #[.string ⟨#[]⟩, .string ⟨#[]⟩, .string ⟨#[]⟩, .string ⟨#[]⟩, .string ⟨#[]⟩, .string ⟨#[]⟩, .string ⟨#[]⟩, .string ⟨#[]⟩, .string ⟨#[]⟩, .string ⟨#[]⟩, .string ⟨#[]⟩, .string ⟨#[]⟩] 73)
  rw [s1] at this
  exact this
 have hS0 : SX (((w.alloc (.cells #[.slice oT nT kT, .slice oI nI kI, .slice oF nF kF, .int .i64 t, .int .i64 p, .int .i64 q, .slice oG nG kG, .slice oE nE kE, .int .i64 s, .slice oL nL kL, .slice oD nD kD] 30)).alloc (.cells #[.string ⟨#[]⟩, .string ⟨#[]⟩, .string ⟨#[]⟩, .string ⟨#[]⟩, .string ⟨#[]⟩, .string ⟨#[]⟩, .string ⟨#[]⟩, .string ⟨#[]⟩, .string ⟨#[]⟩, .string ⟨#[]⟩, .string ⟨#[]⟩, .string ⟨#[]⟩] 73)).alloc (.cells #[.string ⟨#[]⟩, .string ⟨#[]⟩, .string ⟨#[]⟩, .string ⟨#[]⟩, .string ⟨#[]⟩, .string ⟨#[]⟩, .string ⟨#[]⟩, .string ⟨#[]⟩, .string ⟨#[]⟩, .string ⟨#[]⟩, .string ⟨#[]⟩, .string ⟨#[]⟩] 73)) P (fun _ => []) := by
  have := SX.new ((w.alloc (.cells #[.slice oT nT kT, .slice oI nI kI, .slice oF nF kF, .int .i64 t, .int .i64 p, .int .i64 q, .slice oG nG kG, .slice oE nE kE, .int .i64 s, .slice oL nL kL, .slice oD nD kD] 30)).alloc (.cells #[.string ⟨#[]⟩, .string ⟨#[]⟩, .string ⟨#[]⟩, .string ⟨#[]⟩, .string ⟨#[]⟩, .string ⟨#[]⟩, .string ⟨#[]⟩, .string ⟨#[]⟩, .string ⟨#[]⟩, .string ⟨#[]⟩, .string ⟨#[]⟩, .string ⟨#[]⟩] 73))
  rw [s2, ← hP] at this
  exact this
 obtain ⟨a, ha⟩ : ∃ a, a = ((w.alloc (.cells #[.slice oT nT kT, .slice oI nI kI, .slice oF nF kF, .int .i64 t, .int .i64 p, .int .i64 q, .slice oG nG kG, .slice oE nE kE, .int .i64 s, .slice oL nL kL, .slice oD nD kD] 30)).alloc (.cells #[.string ⟨#[]⟩, .string ⟨#[]⟩, .string ⟨#[]⟩, .string ⟨#[]⟩, .string ⟨#[]⟩, .string ⟨#[]⟩, .string ⟨#[]⟩, .string ⟨#[]⟩, .string ⟨#[]⟩, .string ⟨#[]⟩, .string ⟨#[]⟩, .string ⟨#[]⟩] 73)) := ⟨_, rfl⟩
 rw [← ha] at s2 bW hX hR
 have HWB : Hid (∀ w', Below P a w' → Below w.heap.size w w') := fun w' b => bW.trans (b.mono (by omega))
 have HMC : Hid (∀ w', Below P a w' → w'.cell? ⟨w.heap.size, 0, none⟩ = some (.slice oT nT kT) ∧ w'.cell? ⟨w.heap.size, 1, none⟩ = some (.slice oI nI kI) ∧ w'.cell? ⟨w.heap.size, 2, none⟩ = some (.slice oF nF kF) ∧ w'.cell? ⟨w.heap.size, 3, none⟩ = some (.int .i64 t) ∧ w'.cell? ⟨w.heap.size, 4, none⟩ = some (.int .i64 p) ∧ w'.cell? ⟨w.heap.size, 5, none⟩ = some (.int .i64 q) ∧ w'.cell? ⟨w.heap.size, 6, none⟩ = some (.slice oG nG kG) ∧ w'.cell? ⟨w.heap.size, 7, none⟩ = some (.slice oE nE kE) ∧ w'.cell? ⟨w.heap.size, 8, none⟩ = some (.int .i64 s) ∧ w'.cell? ⟨w.heap.size, 9, none⟩ = some (.slice oL nL kL) ∧ w'.cell? ⟨w.heap.size, 10, none⟩ = some (.slice oD nD kD)) := fun w' b => by
  have := (b.block w.heap.size (by omega)).trans hX
  simp [World.cell?, this]
 have HRC : Hid (∀ w', Below P a w' → w'.heap[w.heap.size + 1]? = some (.cells #[.string ⟨#[]⟩, .string ⟨#[]⟩, .string ⟨#[]⟩, .string ⟨#[]⟩, .string ⟨#[]⟩, .string ⟨#[]⟩, .string ⟨#[]⟩, .string ⟨#[]⟩, .string ⟨#[]⟩, .string ⟨#[]⟩, .string ⟨#[]⟩, .string ⟨#[]⟩] 73 (0, 0))) := fun w' b => (b.block (w.heap.size + 1) (by omega)).trans hR
 obtain ⟨z, hz⟩ : ∃ z, z = (((w.alloc (.cells #[.slice oT nT kT, .slice oI nI kI, .slice oF nF kF, .int .i64 t, .int .i64 p, .int .i64 q, .slice oG nG kG, .slice oE nE kE, .int .i64 s, .slice oL nL kL, .slice oD nD kD] 30)).alloc (.cells #[.string ⟨#[]⟩, .string ⟨#[]⟩, .string ⟨#[]⟩, .string ⟨#[]⟩, .string ⟨#[]⟩, .string ⟨#[]⟩, .string ⟨#[]⟩, .string ⟨#[]⟩, .string ⟨#[]⟩, .string ⟨#[]⟩, .string ⟨#[]⟩, .string ⟨#[]⟩] 73)).alloc (.cells #[.string ⟨#[]⟩, .string ⟨#[]⟩, .string ⟨#[]⟩, .string ⟨#[]⟩, .string ⟨#[]⟩, .string ⟨#[]⟩, .string ⟨#[]⟩, .string ⟨#[]⟩, .string ⟨#[]⟩, .string ⟨#[]⟩, .string ⟨#[]⟩, .string ⟨#[]⟩] 73)) := ⟨_, rfl⟩
 have HV : Hid (type_of% hz) := hz
 rw [← hz] at hS0
 have HB : Hid (Below P a z) := by
  unfold Hid
  rw [hz, ← ha]
  exact (Below.refl _ _).alloc (by omega) _
 have HS : Hid (SX z P (fun _ => [])) := hS0
 have has : a.heap.size = P := by omega
 clear s1 s2 bW hX hR hS0 ha hz
 have mT : kT ≤ 9223372036854775807 := by have := RT.out.most; unfold maxLen at this; omega
 have cT : nT ≤ kT := by have := RT.out.le; rw [HLT.out] at this; exact this
 have mI : kI ≤ 9223372036854775807 := by have := RI.out.most; unfold maxLen at this; omega
 have cI : nI ≤ kI := by have := RI.out.le; rw [HLI.out] at this; exact this
 have mF : kF ≤ 9223372036854775807 := by have := RF.out.most; unfold maxLen at this; omega
 have cF : nF ≤ kF := by have := RF.out.le; rw [HLF.out] at this; exact this
 have mG : kG ≤ 9223372036854775807 := by have := RG.out.most; unfold maxLen at this; omega
 have cG : nG ≤ kG := by have := RG.out.le; rw [HLG.out] at this; exact this
 have mE : kE ≤ 9223372036854775807 := by have := RE.out.most; unfold maxLen at this; omega
 have cE : nE ≤ kE := by have := RE.out.le; rw [HLE.out] at this; exact this
 have mL : kL ≤ 9223372036854775807 := by have := RL.out.most; unfold maxLen at this; omega
 have cL : nL ≤ kL := by have := RL.out.le; rw [HLL.out] at this; exact this
 have mD : kD ≤ 9223372036854775807 := by have := RD.out.most; unfold maxLen at this; omega
 have cD : nD ≤ kD := by have := RD.out.le; rw [HLD.out] at this; exact this
 go_enter Tryz.func27, Tryz.ntmps27
 go_wp2_with fail
 rw [← HV.out]
 have HPE : Hid (P = w.heap.size + 2) := hP
 rw [← hP]
 clear hP
 obtain ⟨c0, c1, c2, c3, c4, c5, c6, c7, c8, c9, c10⟩ := HMC.out _ HB.out
 go_wp2
 go_loopw [28] (fun iv wr => ∃ j : Nat, iv = .int .i64 (j : Int) ∧ j ≤ nT ∧ Hid (SX wr P (updF (fun _ => []) 1 ((LT.take j).flatMap (fun d : SigD => tSig d.val)))) ∧ Hid (Below P a wr)) (fun iv _ => nT - (intOf iv).toNat)
 case atStart => exact ⟨0, rfl, by omega, by unfold Hid; simp only [List.take_zero, List.flatMap_nil]; exact HS.out.start 1 rfl, HB⟩
 obtain ⟨j, rfl, hj, HS2, HB2⟩ := hrel
 clear HS HB c0 c1 c2 c3 c4 c5 c6 c7 c8 c9 c10
 by_cases hlt : j < nT
 ·skip
  have hxx : j < LT.length := by rw [HLT.out]; exact hlt
  have HT : Hid (((LT.take (j + 1)).flatMap (fun d : SigD => tSig d.val)) = ((LT.take j).flatMap (fun d : SigD => tSig d.val)) ++ (fun d : SigD => tSig d.val) LT[j]) := flat_snoc _ LT j hxx
  obtain ⟨b, f, rfl, hbN, hcl⟩ := RT.out.at'.resolve_left (fun e => by rw [e] at hxx; exact absurd hxx (by simp))
  have HC : Hid (∀ r, r < 2 → wr.cell? ⟨b, f + j * 2 + r, none⟩ = (SigD.cells LT[j])[r]?) := fun r hr => by
   rw [(HWB.out _ HB2.out).cell (p := ⟨b, f + j * 2 + r, none⟩) hbN]
   exact hcl j hxx r hr
  have HOK : Hid (LT[j] ∈ LT ∧ SigD.ok w LT[j]) := ⟨List.getElem_mem hxx, RT.out.all _ (List.getElem_mem hxx)⟩
  have HGD : Hid (type_of% (GT.out LT[j] (List.getElem_mem hxx))) := GT.out LT[j] (List.getElem_mem hxx)
  generalize LT[j] = d at HT HC HOK HGD
  clear hcl hxx
  have hki0 : (0 : Int) ≤ (j : Int) := by omega
  have hki1 : (j : Int) < (nT : Int) := by omega
  have hwz := HB2.out.size
  have HK1 : Hid (d.i.ok .u8 w) := HOK.out.2.1
  have HK2 : Hid (d.r.ok .u8 w) := HOK.out.2.2
  have HG1 : Hid (GKs 4 d.i.xs) := HGD.out.1
  have HG2 : Hid (GKs 1 d.r.xs) := HGD.out.2
  have HOLDT : Hid (((LT.take j).flatMap (fun d : SigD => tSig d.val)).length ≤ 16000) := Nat.le_trans (flat_take _ 1000 LT j (fun d hd => tSig_len _ (GT.out d hd))) (by rw [HLT.out]; omega)
  clear HOK HGD
  clear RI GI mI cI RF GF mF cF RG GG mG cG RE GE mE cE RL GL mL cL RD GD mD cD HCD
  have e0 : wr.cell? ⟨b, f + j * 2, none⟩ = some (.slice d.i.o d.i.n d.i.cap) := HC.out 0 (by omega)
  have e1 : wr.cell? ⟨b, f + j * 2 + 1, none⟩ = some (.slice d.r.o d.r.n d.r.cap) := HC.out 1 (by omega)
  obtain ⟨wz, hwz1⟩ : ∃ wz, wz = wr.alloc (.cells #[.slice d.i.o d.i.n d.i.cap, .slice d.r.o d.r.n d.r.cap] 50) := ⟨_, rfl⟩
  have HWZ : Hid (type_of% hwz1) := hwz1
  have hbz : Below wr.heap.size wr wz := by rw [hwz1]; exact (Below.refl _ _).alloc (Nat.le_refl _) _
  have hblk : wz.heap[wr.heap.size]? = some (.cells #[.slice d.i.o d.i.n d.i.cap, .slice d.r.o d.r.n d.r.cap] 50 (0, 0)) := by rw [hwz1]; exact new_block _ _
  have HSZ : Hid (SX wz P _) := HS2.out.under hbz HS2.out.lt
  have HBZ : Hid (Below P a wz) := HB2.out.trans (hbz.mono (by omega))
  have hlz : wr.heap.size < wz.heap.size := some_lt hblk
  have hPz : P < wz.heap.size := HSZ.out.lt
  have hne : wr.heap.size ≠ P := by have := HS2.out.lt; omega
  have z0 : wz.cell? ⟨wr.heap.size, 0, none⟩ = some (.slice d.i.o d.i.n d.i.cap) := by simp [World.cell?, hblk]
  have z1 : wz.cell? ⟨wr.heap.size, 1, none⟩ = some (.slice d.r.o d.r.n d.r.cap) := by simp [World.cell?, hblk]
  clear hwz1 hblk HC
  obtain ⟨v, hv0, hvn⟩ := HSZ.out.get 1 (by omega)
  rw [updF_self] at hvn
  have HVN : Hid (type_of% hvn) := hvn
  have hvz : v.size ≤ 16000 := Nat.le_trans (Nat.le_of_eq (size_of hvn)) HOLDT.out
  have hf0 := HSZ.out.frozen 1
  clear hvn
  have HCV : Hid (∀ w', Below wz.heap.size wz w' → w'.cell? ⟨P, 1, none⟩ = some (.string v)) := fun w' b => (b.cell (p := ⟨P, 1, none⟩) hPz).trans hv0
  have HFV : Hid (∀ w', Below wz.heap.size wz w' → w'.frozen? ⟨P, 1, none⟩ = false) := fun w' b => (HSZ.out.under b hPz).frozen 1
  have HKP : Hid (∀ w', Below wz.heap.size wz w' → w'.cell? ⟨wr.heap.size, 0, none⟩ = some (.slice d.i.o d.i.n d.i.cap) ∧ w'.cell? ⟨wr.heap.size, 1, none⟩ = some (.slice d.r.o d.r.n d.r.cap)) := fun w' b => ⟨(b.cell (p := ⟨wr.heap.size, 0, none⟩) hlz).trans z0, (b.cell (p := ⟨wr.heap.size, 1, none⟩) hlz).trans z1⟩
  have HKS : Hid (∀ w' y, Below wz.heap.size wz w' → (w'.setCell ⟨P, 1, none⟩ y).cell? ⟨wr.heap.size, 0, none⟩ = some (.slice d.i.o d.i.n d.i.cap) ∧ (w'.setCell ⟨P, 1, none⟩ y).cell? ⟨wr.heap.size, 1, none⟩ = some (.slice d.r.o d.r.n d.r.cap)) := fun w' y b => by
   have := HKP.out w' b
   simp only [cell_other hne]
   exact this
  have HC1 : Hid (∀ w', Below wz.heap.size wz w' → Calls Tryz.prog 28 #[.int .i64 96] w' (Txt w' ([96]))) := fun w' b => dChr 96 (by omega) (by omega) w'
  have HU1 : Hid (([96]).length ≤ 1) := Nat.le_refl _
  have HC2 : Hid (∀ w', Below wz.heap.size wz w' → Calls Tryz.prog 89 #[.slice d.i.o d.i.n d.i.cap] w' (Txt w' (tKs d.i.xs))) := fun w' b => dKinds d.i w' (HK1.out.below (HWB.out _ (HBZ.out.trans (b.mono (by omega))))) (by have := HG1.out.1; have := HK1.out.len; omega) HG1.out.2
  have HU2 : Hid ((tKs d.i.xs).length ≤ 14) := tKs_len _ 4 (by have := HG1.out.1; omega) (by omega)
  have HC3 : Hid (∀ w', Below wz.heap.size wz w' → Calls Tryz.prog 89 #[.slice d.r.o d.r.n d.r.cap] w' (Txt w' (tKs d.r.xs))) := fun w' b => dKinds d.r w' (HK2.out.below (HWB.out _ (HBZ.out.trans (b.mono (by omega))))) (by have := HG2.out.1; have := HK2.out.len; omega) HG2.out.2
  have HU3 : Hid ((tKs d.r.xs).length ≤ 11) := tKs_len _ 1 (by have := HG2.out.1; omega) (by omega)
  go_wp2_with fail
  rw [← HWZ.out]
  have HKA : Hid (∀ w', Below wz.heap.size wz w' → w'.cell? ⟨wr.heap.size, 0, none⟩ = some (.slice d.i.o d.i.n d.i.cap) ∧ w'.cell? ⟨wr.heap.size, 1, none⟩ = some (.slice d.r.o d.r.n d.r.cap) ∧ w'.cell? ⟨P, 1, none⟩ = some (.string v)) := fun w' b => ⟨(HKP.out w' b).1, (HKP.out w' b).2, HCV.out w' b⟩
  refine wp_region_z (S := fun w' => w'.cell? ⟨wr.heap.size, 0, none⟩ = some (.slice d.i.o d.i.n d.i.cap) ∧ w'.cell? ⟨wr.heap.size, 1, none⟩ = some (.slice d.r.o d.r.n d.r.cap) ∧ w'.cell? ⟨P, 1, none⟩ = some (.string v)) (z := 13) (by kernel_rfl) ?_
  have HA0 : Hid (Below wz.heap.size wz (World.drew wz)) := Below.drew (Below.refl _ _)
  have hHeld : (fun w' => w'.cell? ⟨wr.heap.size, 0, none⟩ = some (.slice d.i.o d.i.n d.i.cap) ∧ w'.cell? ⟨wr.heap.size, 1, none⟩ = some (.slice d.r.o d.r.n d.r.cap) ∧ w'.cell? ⟨P, 1, none⟩ = some (.string v)) (World.drew wz) := HKA.out _ HA0.out
  refine wpZ_take (i := 0) (v := _) rfl (by kernel_rfl) (by kernel_rfl) (by kernel_rfl) (by kernel_rfl) (fun _ _ _ h => h) (Or.inl ⟨by rfl, by intro w' hSw; go_simp <;> with_reducible rfl⟩) hHeld ?_
  refine wpZ_load (i := 1) [11, 12, 13] (v := _) rfl (by kernel_rfl) (by kernel_rfl) (by kernel_rfl) (by kernel_rfl) (by kernel_rfl) (by kernel_rfl) (fun _ _ _ h => h) (Or.inl ⟨by rfl, by intro w' hSw; (try dsimp only at hSw); go_simp <;> with_reducible rfl⟩) hHeld ?_
  refine wpZ_take (i := 3) (v := _) rfl (by kernel_rfl) (by kernel_rfl) (by kernel_rfl) (by kernel_rfl) (fun _ _ _ h => h) (Or.inl ⟨by rfl, by intro w' hSw; go_simp <;> with_reducible rfl⟩) hHeld ?_
  refine wpZ_load (i := 4) [5, 6, 9, 10, 11, 12, 13] (v := _) rfl (by kernel_rfl) (by kernel_rfl) (by kernel_rfl) (by kernel_rfl) (by kernel_rfl) (by kernel_rfl) (fun _ _ _ h => h) (Or.inl ⟨by rfl, by intro w' hSw; (try dsimp only at hSw); go_simp <;> with_reducible rfl⟩) hHeld ?_
  refine wpZ_take (i := 7) (v := _) rfl (by kernel_rfl) (by kernel_rfl) (by kernel_rfl) (by kernel_rfl) (fun _ _ _ h => h) (Or.inl ⟨by rfl, by intro w' hSw; go_simp <;> with_reducible rfl⟩) hHeld ?_
  refine wpZ_load (i := 8) [9, 10, 11, 12, 13] (v := _) rfl (by kernel_rfl) (by kernel_rfl) (by kernel_rfl) (by kernel_rfl) (by kernel_rfl) (by kernel_rfl) (fun _ _ _ h => h) (Or.inl ⟨by rfl, by intro w' hSw; (try dsimp only at hSw); go_simp <;> with_reducible rfl⟩) hHeld ?_
  refine wpZ_call (i := 2) rfl (by kernel_rfl) rfl (by go_simp) (HC1.out _ HA0.out) ?_
  rintro r y1 ⟨t1, rfl, ht1, b1⟩
  have hz1 : t1.size ≤ 1 := Nat.le_trans (Nat.le_of_eq (size_of ht1)) HU1.out
  have HT1 : Hid (type_of% ht1) := ht1
  have HA1 : Hid (Below wz.heap.size wz y1) := HA0.out.trans (b1.mono HA0.out.size)
  have hs1 : wz.heap.size ≤ y1.heap.size := HA1.out.size
  clear ht1 b1 hHeld
  refine ⟨_, rfl, HKA.out _ HA1.out, fun hHeld => wpZ_put ?_⟩
  refine wpZ_call (i := 5) rfl (by kernel_rfl) rfl (by go_simp) (HC2.out _ HA1.out) ?_
  rintro r y2 ⟨t2, rfl, ht2, b2⟩
  have hz2 : t2.size ≤ 14 := Nat.le_trans (Nat.le_of_eq (size_of ht2)) HU2.out
  have HT2 : Hid (type_of% ht2) := ht2
  have HA2 : Hid (Below wz.heap.size wz y2) := HA1.out.trans (b2.mono HA1.out.size)
  have hs2 : wz.heap.size ≤ y2.heap.size := HA2.out.size
  have hq20 : ¬ 9223372036854775807 < t1.size + t2.size := by omega
  clear ht2 b2 hHeld
  refine ⟨_, rfl, HKA.out _ HA2.out, fun hHeld => wpZ_put ?_⟩
  refine wpZ_take (i := 6) (v := _) rfl (by kernel_rfl) (by kernel_rfl) (by kernel_rfl) (by kernel_rfl) (fun _ _ _ h => h) (Or.inl ⟨by rfl, by intro w' hSw; go_simp <;> with_reducible rfl⟩) hHeld ?_
  refine wpZ_call (i := 9) rfl (by kernel_rfl) rfl (by go_simp) (HC3.out _ HA2.out) ?_
  rintro r y3 ⟨t3, rfl, ht3, b3⟩
  have hz3 : t3.size ≤ 11 := Nat.le_trans (Nat.le_of_eq (size_of ht3)) HU3.out
  have HT3 : Hid (type_of% ht3) := ht3
  have HA3 : Hid (Below wz.heap.size wz y3) := HA2.out.trans (b3.mono HA2.out.size)
  have hs3 : wz.heap.size ≤ y3.heap.size := HA3.out.size
  have hq30 : ¬ 9223372036854775807 < t1.size + t2.size + t3.size := by omega
  have hq31 : ¬ 9223372036854775807 < v.size + (t1.size + t2.size + t3.size) := by omega
  clear ht3 b3 hHeld
  refine ⟨_, rfl, HKA.out _ HA3.out, fun hHeld => wpZ_put ?_⟩
  refine wpZ_take (i := 10) (v := _) rfl (by kernel_rfl) (by kernel_rfl) (by kernel_rfl) (by kernel_rfl) (fun _ _ _ h => h) (Or.inl ⟨by rfl, by intro w' hSw; go_simp <;> with_reducible rfl⟩) hHeld ?_
  refine wpZ_take (i := 11) (v := _) rfl (by kernel_rfl) (by kernel_rfl) (by kernel_rfl) (by kernel_rfl) (fun _ _ _ h => h) (Or.inl ⟨by rfl, by intro w' hSw; go_simp <;> with_reducible rfl⟩) hHeld ?_
  refine wpZ_take (i := 12) (v := _) rfl (by kernel_rfl) (by kernel_rfl) (by kernel_rfl) (by kernel_rfl) (fun _ _ _ h => h) (Or.inl ⟨by rfl, by intro w' hSw; go_simp <;> with_reducible rfl⟩) hHeld ?_
  have hcl : y3.cell? ⟨P, 1, none⟩ = some (.string v) := HCV.out _ HA3.out
  have hfl : y3.frozen? ⟨P, 1, none⟩ = false := HFV.out _ HA3.out
  refine wpZ_last rfl (by kernel_rfl) (by kernel_rfl) (by kernel_rfl) rfl (fun K R hK => ?_)
  go_simp
  refine hK.out _ _ ?_
  clear hK K R hHeld
  all_goals
   have HNN : Hid (nums (v ++ (t1 ++ t2 ++ t3)) = ((LT.take (j + 1)).flatMap (fun d : SigD => tSig d.val))) := by
    unfold Hid
    rw [nums_append, nums_append, nums_append, HVN.out, HT1.out, HT2.out, HT3.out, HT.out]
    simp [tSig, SigD.val]
   have HE1 : Hid (SX (y3.setCell ⟨P, 1, none⟩ (.string (v ++ (t1 ++ t2 ++ t3)))) P _) := (HSZ.out.under HA3.out hPz).step (by omega) _ HNN.out
   have HE2 : Hid (Below P a (y3.setCell ⟨P, 1, none⟩ (.string (v ++ (t1 ++ t2 ++ t3))))) := (HBZ.out.trans (HA3.out.mono (by omega))).setCell (p := ⟨P, 1, none⟩) (Nat.le_refl _) _
   go_wp2
   go_roundw
   case rel => exact ⟨j + 1, by go_num, by omega, HE1, HE2⟩
   case measure => simp [intOf]; omega
 have HS : Hid (SX wr P (updF (fun _ => []) 1 (LT.flatMap (fun d : SigD => tSig d.val)))) := by
  have h := HS2.out
  rw [List.take_of_length_le (by rw [HLT.out]; omega)] at h
  exact h
 have HB : Hid (type_of% HB2.out) := HB2.out
 clear HS2 HB2
 obtain ⟨c0, c1, c2, c3, c4, c5, c6, c7, c8, c9, c10⟩ := HMC.out _ HB.out
 have HFBT : Hid (∀ k, ((updF (fun _ => []) 1 (LT.flatMap (fun d : SigD => tSig d.val))) k).length ≤ 6400000) := updF_len (fun _ => Nat.zero_le _) (by have h := flat_le (fun d : SigD => tSig d.val) 1000 LT (fun d hd => tSig_len _ (GT.out d hd)); rw [HLT.out] at h; omega)
 go_wp2
 go_loopw [49] (fun iv wr => ∃ j : Nat, iv = .int .i64 (j : Int) ∧ j ≤ nI ∧ Hid (SX wr P (updF (updF (fun _ => []) 1 (LT.flatMap (fun d : SigD => tSig d.val))) 2 ((LI.take j).flatMap (fun d : NamD => tImp d.val)))) ∧ Hid (Below P a wr)) (fun iv _ => nI - (intOf iv).toNat)
 case atStart => exact ⟨0, rfl, by omega, by unfold Hid; simp only [List.take_zero, List.flatMap_nil]; exact HS.out.start 2 rfl, HB⟩
 obtain ⟨j, rfl, hj, HS2, HB2⟩ := hrel
 clear HS HB c0 c1 c2 c3 c4 c5 c6 c7 c8 c9 c10
 by_cases hlt : j < nI
 ·skip
  have hxx : j < LI.length := by rw [HLI.out]; exact hlt
  have HT : Hid (((LI.take (j + 1)).flatMap (fun d : NamD => tImp d.val)) = ((LI.take j).flatMap (fun d : NamD => tImp d.val)) ++ (fun d : NamD => tImp d.val) LI[j]) := flat_snoc _ LI j hxx
  obtain ⟨b, f, rfl, hbN, hcl⟩ := RI.out.at'.resolve_left (fun e => by rw [e] at hxx; exact absurd hxx (by simp))
  have HC : Hid (∀ r, r < 2 → wr.cell? ⟨b, f + j * 2 + r, none⟩ = (NamD.cells LI[j])[r]?) := fun r hr => by
   rw [(HWB.out _ HB2.out).cell (p := ⟨b, f + j * 2 + r, none⟩) hbN]
   exact hcl j hxx r hr
  have HOK : Hid (LI[j] ∈ LI ∧ NamD.ok w LI[j]) := ⟨List.getElem_mem hxx, RI.out.all _ (List.getElem_mem hxx)⟩
  have HGD : Hid (type_of% (GI.out LI[j] (List.getElem_mem hxx))) := GI.out LI[j] (List.getElem_mem hxx)
  generalize LI[j] = d at HT HC HOK HGD
  obtain ⟨ds, dn⟩ := d
  clear hcl hxx
  have hki0 : (0 : Int) ≤ (j : Int) := by omega
  have hki1 : (j : Int) < (nI : Int) := by omega
  have hwz := HB2.out.size
  have HG1 : Hid ((nums ds).length ≤ 16) := HGD.out.1.1
  have HG2 : Hid (0 ≤ dn ∧ dn ≤ 4294967295) := HGD.out.2
  have HOLDI : Hid (((LI.take j).flatMap (fun d : NamD => tImp d.val)).length ≤ 16000) := Nat.le_trans (flat_take _ 1000 LI j (fun d hd => tImp_len _ (GI.out d hd))) (by rw [HLI.out]; omega)
  clear HOK HGD
  clear RT GT mT cT RF GF mF cF RG GG mG cG RE GE mE cE RL GL mL cL RD GD mD cD HCD
  have e0 : wr.cell? ⟨b, f + j * 2, none⟩ = some (.string ds) := HC.out 0 (by omega)
  have e1 : wr.cell? ⟨b, f + j * 2 + 1, none⟩ = some (.int .i64 dn) := HC.out 1 (by omega)
  obtain ⟨wz, hwz1⟩ : ∃ wz, wz = wr.alloc (.cells #[.string ds, .int .i64 dn] 53) := ⟨_, rfl⟩
  have HWZ : Hid (type_of% hwz1) := hwz1
  have hbz : Below wr.heap.size wr wz := by rw [hwz1]; exact (Below.refl _ _).alloc (Nat.le_refl _) _
  have hblk : wz.heap[wr.heap.size]? = some (.cells #[.string ds, .int .i64 dn] 53 (0, 0)) := by rw [hwz1]; exact new_block _ _
  have HSZ : Hid (SX wz P _) := HS2.out.under hbz HS2.out.lt
  have HBZ : Hid (Below P a wz) := HB2.out.trans (hbz.mono (by omega))
  have hlz : wr.heap.size < wz.heap.size := some_lt hblk
  have hPz : P < wz.heap.size := HSZ.out.lt
  have hne : wr.heap.size ≠ P := by have := HS2.out.lt; omega
  have z0 : wz.cell? ⟨wr.heap.size, 0, none⟩ = some (.string ds) := by simp [World.cell?, hblk]
  have z1 : wz.cell? ⟨wr.heap.size, 1, none⟩ = some (.int .i64 dn) := by simp [World.cell?, hblk]
  clear hwz1 hblk HC
  obtain ⟨v, hv0, hvn⟩ := HSZ.out.get 2 (by omega)
  rw [updF_self] at hvn
  have HVN : Hid (type_of% hvn) := hvn
  have hvz : v.size ≤ 16000 := Nat.le_trans (Nat.le_of_eq (size_of hvn)) HOLDI.out
  have hf0 := HSZ.out.frozen 2
  clear hvn
  have HCV : Hid (∀ w', Below wz.heap.size wz w' → w'.cell? ⟨P, 2, none⟩ = some (.string v)) := fun w' b => (b.cell (p := ⟨P, 2, none⟩) hPz).trans hv0
  have HFV : Hid (∀ w', Below wz.heap.size wz w' → w'.frozen? ⟨P, 2, none⟩ = false) := fun w' b => (HSZ.out.under b hPz).frozen 2
  have HKP : Hid (∀ w', Below wz.heap.size wz w' → w'.cell? ⟨wr.heap.size, 0, none⟩ = some (.string ds) ∧ w'.cell? ⟨wr.heap.size, 1, none⟩ = some (.int .i64 dn)) := fun w' b => ⟨(b.cell (p := ⟨wr.heap.size, 0, none⟩) hlz).trans z0, (b.cell (p := ⟨wr.heap.size, 1, none⟩) hlz).trans z1⟩
  have HKS : Hid (∀ w' y, Below wz.heap.size wz w' → (w'.setCell ⟨P, 2, none⟩ y).cell? ⟨wr.heap.size, 0, none⟩ = some (.string ds) ∧ (w'.setCell ⟨P, 2, none⟩ y).cell? ⟨wr.heap.size, 1, none⟩ = some (.int .i64 dn)) := fun w' y b => by
   have := HKP.out w' b
   simp only [cell_other hne]
   exact this
  have HC1 : Hid (∀ w', Below wz.heap.size wz w' → Calls Tryz.prog 90 #[.string ⟨#[104, 111, 115, 116]⟩] w' (Txt w' (tName host))) := fun w' b => dName ⟨#[104, 111, 115, 116]⟩ (by decide) w'
  have HU1 : Hid ((tName host).length ≤ 14) := tName_len _ 4 (by decide) (by omega)
  have HC2 : Hid (∀ w', Below wz.heap.size wz w' → Calls Tryz.prog 90 #[.string ds] w' (Txt w' (tName (nums ds)))) := fun w' b => dName ds (by have := HG1.out; rw [nums_length] at this; exact this) w'
  have HU2 : Hid ((tName (nums ds)).length ≤ 26) := tName_len _ 16 HG1.out (by omega)
  have HC3 : Hid (∀ w', Below wz.heap.size wz w' → Calls Tryz.prog 28 #[.int .i64 0] w' (Txt w' ([0]))) := fun w' b => dChr 0 (by omega) (by omega) w'
  have HU3 : Hid (([0]).length ≤ 1) := Nat.le_refl _
  have HC4 : Hid (∀ w', Below wz.heap.size wz w' → Calls Tryz.prog 29 #[.int .i64 dn] w' (Txt w' (uB dn.toNat))) := fun w' b => dU dn HG2.out.1 (by have := HG2.out.2; omega) w'
  have HU4 : Hid ((uB dn.toNat).length ≤ 10) := uB_len10 _ (by have := HG2.out; omega)
  go_wp2_with fail
  rw [← HWZ.out]
  have HKA : Hid (∀ w', Below wz.heap.size wz w' → w'.cell? ⟨wr.heap.size, 0, none⟩ = some (.string ds) ∧ w'.cell? ⟨wr.heap.size, 1, none⟩ = some (.int .i64 dn) ∧ w'.cell? ⟨P, 2, none⟩ = some (.string v)) := fun w' b => ⟨(HKP.out w' b).1, (HKP.out w' b).2, HCV.out w' b⟩
  refine wp_region_z (S := fun w' => w'.cell? ⟨wr.heap.size, 0, none⟩ = some (.string ds) ∧ w'.cell? ⟨wr.heap.size, 1, none⟩ = some (.int .i64 dn) ∧ w'.cell? ⟨P, 2, none⟩ = some (.string v)) (z := 15) (by kernel_rfl) ?_
  have HA0 : Hid (Below wz.heap.size wz (World.drew wz)) := Below.drew (Below.refl _ _)
  have hHeld : (fun w' => w'.cell? ⟨wr.heap.size, 0, none⟩ = some (.string ds) ∧ w'.cell? ⟨wr.heap.size, 1, none⟩ = some (.int .i64 dn) ∧ w'.cell? ⟨P, 2, none⟩ = some (.string v)) (World.drew wz) := HKA.out _ HA0.out
  refine wpZ_take (i := 0) (v := _) rfl (by kernel_rfl) (by kernel_rfl) (by kernel_rfl) (by kernel_rfl) (fun _ _ _ h => h) (Or.inl ⟨by rfl, by intro w' hSw; go_simp <;> with_reducible rfl⟩) hHeld ?_
  refine wpZ_load (i := 1) [13, 14, 15] (v := _) rfl (by kernel_rfl) (by kernel_rfl) (by kernel_rfl) (by kernel_rfl) (by kernel_rfl) (by kernel_rfl) (fun _ _ _ h => h) (Or.inl ⟨by rfl, by intro w' hSw; (try dsimp only at hSw); go_simp <;> with_reducible rfl⟩) hHeld ?_
  refine wpZ_take (i := 3) (v := _) rfl (by kernel_rfl) (by kernel_rfl) (by kernel_rfl) (by kernel_rfl) (fun _ _ _ h => h) (Or.inl ⟨by rfl, by intro w' hSw; go_simp <;> with_reducible rfl⟩) hHeld ?_
  refine wpZ_load (i := 4) [5, 6, 7, 8, 11, 12, 13, 14, 15] (v := _) rfl (by kernel_rfl) (by kernel_rfl) (by kernel_rfl) (by kernel_rfl) (by kernel_rfl) (by kernel_rfl) (fun _ _ _ h => h) (Or.inl ⟨by rfl, by intro w' hSw; (try dsimp only at hSw); go_simp <;> with_reducible rfl⟩) hHeld ?_
  refine wpZ_take (i := 9) (v := _) rfl (by kernel_rfl) (by kernel_rfl) (by kernel_rfl) (by kernel_rfl) (fun _ _ _ h => h) (Or.inl ⟨by rfl, by intro w' hSw; go_simp <;> with_reducible rfl⟩) hHeld ?_
  refine wpZ_load (i := 10) [11, 12, 13, 14, 15] (v := _) rfl (by kernel_rfl) (by kernel_rfl) (by kernel_rfl) (by kernel_rfl) (by kernel_rfl) (by kernel_rfl) (fun _ _ _ h => h) (Or.inl ⟨by rfl, by intro w' hSw; (try dsimp only at hSw); go_simp <;> with_reducible rfl⟩) hHeld ?_
  refine wpZ_call (i := 2) rfl (by kernel_rfl) rfl (by go_simp) (HC1.out _ HA0.out) ?_
  rintro r y1 ⟨t1, rfl, ht1, b1⟩
  have hz1 : t1.size ≤ 14 := Nat.le_trans (Nat.le_of_eq (size_of ht1)) HU1.out
  have HT1 : Hid (type_of% ht1) := ht1
  have HA1 : Hid (Below wz.heap.size wz y1) := HA0.out.trans (b1.mono HA0.out.size)
  have hs1 : wz.heap.size ≤ y1.heap.size := HA1.out.size
  clear ht1 b1 hHeld
  refine ⟨_, rfl, HKA.out _ HA1.out, fun hHeld => wpZ_put ?_⟩
  refine wpZ_call (i := 5) rfl (by kernel_rfl) rfl (by go_simp) (HC2.out _ HA1.out) ?_
  rintro r y2 ⟨t2, rfl, ht2, b2⟩
  have hz2 : t2.size ≤ 26 := Nat.le_trans (Nat.le_of_eq (size_of ht2)) HU2.out
  have HT2 : Hid (type_of% ht2) := ht2
  have HA2 : Hid (Below wz.heap.size wz y2) := HA1.out.trans (b2.mono HA1.out.size)
  have hs2 : wz.heap.size ≤ y2.heap.size := HA2.out.size
  have hq20 : ¬ 9223372036854775807 < t1.size + t2.size := by omega
  clear ht2 b2 hHeld
  refine ⟨_, rfl, HKA.out _ HA2.out, fun hHeld => wpZ_put ?_⟩
  refine wpZ_take (i := 6) (v := _) rfl (by kernel_rfl) (by kernel_rfl) (by kernel_rfl) (by kernel_rfl) (fun _ _ _ h => h) (Or.inl ⟨by rfl, by intro w' hSw; go_simp <;> with_reducible rfl⟩) hHeld ?_
  refine wpZ_call (i := 7) rfl (by kernel_rfl) rfl (by go_simp) (HC3.out _ HA2.out) ?_
  rintro r y3 ⟨t3, rfl, ht3, b3⟩
  have hz3 : t3.size ≤ 1 := Nat.le_trans (Nat.le_of_eq (size_of ht3)) HU3.out
  have HT3 : Hid (type_of% ht3) := ht3
  have HA3 : Hid (Below wz.heap.size wz y3) := HA2.out.trans (b3.mono HA2.out.size)
  have hs3 : wz.heap.size ≤ y3.heap.size := HA3.out.size
  have hq30 : ¬ 9223372036854775807 < t1.size + t2.size + t3.size := by omega
  clear ht3 b3 hHeld
  refine ⟨_, rfl, HKA.out _ HA3.out, fun hHeld => wpZ_put ?_⟩
  refine wpZ_take (i := 8) (v := _) rfl (by kernel_rfl) (by kernel_rfl) (by kernel_rfl) (by kernel_rfl) (fun _ _ _ h => h) (Or.inl ⟨by rfl, by intro w' hSw; go_simp <;> with_reducible rfl⟩) hHeld ?_
  refine wpZ_call (i := 11) rfl (by kernel_rfl) rfl (by go_simp) (HC4.out _ HA3.out) ?_
  rintro r y4 ⟨t4, rfl, ht4, b4⟩
  have hz4 : t4.size ≤ 10 := Nat.le_trans (Nat.le_of_eq (size_of ht4)) HU4.out
  have HT4 : Hid (type_of% ht4) := ht4
  have HA4 : Hid (Below wz.heap.size wz y4) := HA3.out.trans (b4.mono HA3.out.size)
  have hs4 : wz.heap.size ≤ y4.heap.size := HA4.out.size
  have hq40 : ¬ 9223372036854775807 < t1.size + t2.size + t3.size + t4.size := by omega
  have hq41 : ¬ 9223372036854775807 < v.size + (t1.size + t2.size + t3.size + t4.size) := by omega
  clear ht4 b4 hHeld
  refine ⟨_, rfl, HKA.out _ HA4.out, fun hHeld => wpZ_put ?_⟩
  refine wpZ_take (i := 12) (v := _) rfl (by kernel_rfl) (by kernel_rfl) (by kernel_rfl) (by kernel_rfl) (fun _ _ _ h => h) (Or.inl ⟨by rfl, by intro w' hSw; go_simp <;> with_reducible rfl⟩) hHeld ?_
  refine wpZ_take (i := 13) (v := _) rfl (by kernel_rfl) (by kernel_rfl) (by kernel_rfl) (by kernel_rfl) (fun _ _ _ h => h) (Or.inl ⟨by rfl, by intro w' hSw; go_simp <;> with_reducible rfl⟩) hHeld ?_
  refine wpZ_take (i := 14) (v := _) rfl (by kernel_rfl) (by kernel_rfl) (by kernel_rfl) (by kernel_rfl) (fun _ _ _ h => h) (Or.inl ⟨by rfl, by intro w' hSw; go_simp <;> with_reducible rfl⟩) hHeld ?_
  have hcl : y4.cell? ⟨P, 2, none⟩ = some (.string v) := HCV.out _ HA4.out
  have hfl : y4.frozen? ⟨P, 2, none⟩ = false := HFV.out _ HA4.out
  refine wpZ_last rfl (by kernel_rfl) (by kernel_rfl) (by kernel_rfl) rfl (fun K R hK => ?_)
  go_simp
  refine hK.out _ _ ?_
  clear hK K R hHeld
  all_goals
   have HNN : Hid (nums (v ++ (t1 ++ t2 ++ t3 ++ t4)) = ((LI.take (j + 1)).flatMap (fun d : NamD => tImp d.val))) := by
    unfold Hid
    rw [nums_append, nums_append, nums_append, nums_append, HVN.out, HT1.out, HT2.out, HT3.out, HT4.out, HT.out]
    simp [tImp, tExp, NamD.val]
   have HE1 : Hid (SX (y4.setCell ⟨P, 2, none⟩ (.string (v ++ (t1 ++ t2 ++ t3 ++ t4)))) P _) := (HSZ.out.under HA4.out hPz).step (by omega) _ HNN.out
   have HE2 : Hid (Below P a (y4.setCell ⟨P, 2, none⟩ (.string (v ++ (t1 ++ t2 ++ t3 ++ t4))))) := (HBZ.out.trans (HA4.out.mono (by omega))).setCell (p := ⟨P, 2, none⟩) (Nat.le_refl _) _
   go_wp2
   go_roundw
   case rel => exact ⟨j + 1, by go_num, by omega, HE1, HE2⟩
   case measure => simp [intOf]; omega
 have HS : Hid (SX wr P (updF (updF (fun _ => []) 1 (LT.flatMap (fun d : SigD => tSig d.val))) 2 (LI.flatMap (fun d : NamD => tImp d.val)))) := by
  have h := HS2.out
  rw [List.take_of_length_le (by rw [HLI.out]; omega)] at h
  exact h
 have HB : Hid (type_of% HB2.out) := HB2.out
 clear HS2 HB2
 obtain ⟨c0, c1, c2, c3, c4, c5, c6, c7, c8, c9, c10⟩ := HMC.out _ HB.out
 have HFBI : Hid (∀ k, ((updF (updF (fun _ => []) 1 (LT.flatMap (fun d : SigD => tSig d.val))) 2 (LI.flatMap (fun d : NamD => tImp d.val))) k).length ≤ 6400000) := updF_len HFBT.out (by have h := flat_le (fun d : NamD => tImp d.val) 1000 LI (fun d hd => tImp_len _ (GI.out d hd)); rw [HLI.out] at h; omega)
 go_wp2
 go_loopw [72] (fun iv wr => ∃ j : Nat, iv = .int .i64 (j : Int) ∧ j ≤ nF ∧ Hid (SX wr P (updF (updF (updF (updF (fun _ => []) 1 (LT.flatMap (fun d : SigD => tSig d.val))) 2 (LI.flatMap (fun d : NamD => tImp d.val))) 3 ((LF.take j).flatMap (fun d : FunD => uB d.t.toNat))) 10 ((LF.take j).flatMap (fun d : FunD => tCode d.cod)))) ∧ Hid (Below P a wr)) (fun iv _ => nF - (intOf iv).toNat)
 case atStart => exact ⟨0, rfl, by omega, by unfold Hid; simp only [List.take_zero, List.flatMap_nil]; exact (HS.out.start 3 rfl).start 10 rfl, HB⟩
 obtain ⟨j, rfl, hj, HS2, HB2⟩ := hrel
 clear HS HB c0 c1 c2 c3 c4 c5 c6 c7 c8 c9 c10
 by_cases hlt : j < nF
 ·skip
  have hxx : j < LF.length := by rw [HLF.out]; exact hlt
  have HT : Hid (((LF.take (j + 1)).flatMap (fun d : FunD => uB d.t.toNat)) = ((LF.take j).flatMap (fun d : FunD => uB d.t.toNat)) ++ (fun d : FunD => uB d.t.toNat) LF[j]) := flat_snoc _ LF j hxx
  have HTC : Hid (((LF.take (j + 1)).flatMap (fun d : FunD => tCode d.cod)) = ((LF.take j).flatMap (fun d : FunD => tCode d.cod)) ++ (fun d : FunD => tCode d.cod) LF[j]) := flat_snoc _ LF j hxx
  obtain ⟨b, f, rfl, hbN, hcl⟩ := RF.out.at'.resolve_left (fun e => by rw [e] at hxx; exact absurd hxx (by simp))
  have HC : Hid (∀ r, r < 3 → wr.cell? ⟨b, f + j * 3 + r, none⟩ = (FunD.cells LF[j])[r]?) := fun r hr => by
   rw [(HWB.out _ HB2.out).cell (p := ⟨b, f + j * 3 + r, none⟩) hbN]
   exact hcl j hxx r hr
  have HOK : Hid (LF[j] ∈ LF ∧ FunD.ok w LF[j]) := ⟨List.getElem_mem hxx, RF.out.all _ (List.getElem_mem hxx)⟩
  have HGD : Hid (type_of% (GF.out LF[j] (List.getElem_mem hxx))) := GF.out LF[j] (List.getElem_mem hxx)
  have HCC : Hid (type_of% (HCD.out LF[j] (List.getElem_mem hxx))) := HCD.out LF[j] (List.getElem_mem hxx)
  generalize LF[j] = d at HT HTC HCC HC HOK HGD
  clear hcl hxx
  have hki0 : (0 : Int) ≤ (j : Int) := by omega
  have hki1 : (j : Int) < (nF : Int) := by omega
  have hwz := HB2.out.size
  have HG2 : Hid (0 ≤ d.t ∧ d.t ≤ 4294967295) := HGD.out.1
  have HOLDF : Hid (((LF.take j).flatMap (fun d : FunD => uB d.t.toNat)).length ≤ 160) := Nat.le_trans (flat_take _ 10 LF j (fun d hd => uB_len10 _ (by have := (GF.out d hd).1; unfold isNum at this; omega))) (by rw [HLF.out]; omega)
  have HOLDC : Hid (((LF.take j).flatMap (fun d : FunD => tCode d.cod)).length ≤ 6400000) := Nat.le_trans (flat_take _ 400000 LF j (fun d hd => (HCD.out d hd w (Below.refl _ _)).2)) (by rw [HLF.out]; omega)
  clear HOK HGD
  clear RT GT mT cT RI GI mI cI RG GG mG cG RE GE mE cE RL GL mL cL RD GD mD cD HCD
  have e0 : wr.cell? ⟨b, f + j * 3, none⟩ = some (.int .i64 d.t) := HC.out 0 (by omega)
  have e1 : wr.cell? ⟨b, f + j * 3 + 1, none⟩ = some (.slice d.l.o d.l.n d.l.cap) := HC.out 1 (by omega)
  have e2 : wr.cell? ⟨b, f + j * 3 + 2, none⟩ = some (.slice d.o d.b.length d.cap) := HC.out 2 (by omega)
  obtain ⟨wz, hwz1⟩ : ∃ wz, wz = wr.alloc (.cells #[.int .i64 d.t, .slice d.l.o d.l.n d.l.cap, .slice d.o d.b.length d.cap] 58) := ⟨_, rfl⟩
  have HWZ : Hid (type_of% hwz1) := hwz1
  have hbz : Below wr.heap.size wr wz := by rw [hwz1]; exact (Below.refl _ _).alloc (Nat.le_refl _) _
  have hblk : wz.heap[wr.heap.size]? = some (.cells #[.int .i64 d.t, .slice d.l.o d.l.n d.l.cap, .slice d.o d.b.length d.cap] 58 (0, 0)) := by rw [hwz1]; exact new_block _ _
  have HSZ : Hid (SX wz P _) := HS2.out.under hbz HS2.out.lt
  have HBZ : Hid (Below P a wz) := HB2.out.trans (hbz.mono (by omega))
  have hlz : wr.heap.size < wz.heap.size := some_lt hblk
  have hPz : P < wz.heap.size := HSZ.out.lt
  have hne : wr.heap.size ≠ P := by have := HS2.out.lt; omega
  have z0 : wz.cell? ⟨wr.heap.size, 0, none⟩ = some (.int .i64 d.t) := by simp [World.cell?, hblk]
  have z1 : wz.cell? ⟨wr.heap.size, 1, none⟩ = some (.slice d.l.o d.l.n d.l.cap) := by simp [World.cell?, hblk]
  have z2 : wz.cell? ⟨wr.heap.size, 2, none⟩ = some (.slice d.o d.b.length d.cap) := by simp [World.cell?, hblk]
  clear hwz1 hblk HC
  obtain ⟨v, hv0, hvn⟩ := HSZ.out.get 3 (by omega)
  rw [updF_two _ _ _ _ _ (by decide)] at hvn
  have HVN : Hid (type_of% hvn) := hvn
  have hvz : v.size ≤ 160 := Nat.le_trans (Nat.le_of_eq (size_of hvn)) HOLDF.out
  have hf0 := HSZ.out.frozen 3
  clear hvn
  have HCV : Hid (∀ w', Below wz.heap.size wz w' → w'.cell? ⟨P, 3, none⟩ = some (.string v)) := fun w' b => (b.cell (p := ⟨P, 3, none⟩) hPz).trans hv0
  have HFV : Hid (∀ w', Below wz.heap.size wz w' → w'.frozen? ⟨P, 3, none⟩ = false) := fun w' b => (HSZ.out.under b hPz).frozen 3
  have HKP : Hid (∀ w', Below wz.heap.size wz w' → w'.cell? ⟨wr.heap.size, 0, none⟩ = some (.int .i64 d.t) ∧ w'.cell? ⟨wr.heap.size, 1, none⟩ = some (.slice d.l.o d.l.n d.l.cap) ∧ w'.cell? ⟨wr.heap.size, 2, none⟩ = some (.slice d.o d.b.length d.cap)) := fun w' b => ⟨(b.cell (p := ⟨wr.heap.size, 0, none⟩) hlz).trans z0, (b.cell (p := ⟨wr.heap.size, 1, none⟩) hlz).trans z1, (b.cell (p := ⟨wr.heap.size, 2, none⟩) hlz).trans z2⟩
  have HKS : Hid (∀ w' y, Below wz.heap.size wz w' → (w'.setCell ⟨P, 3, none⟩ y).cell? ⟨wr.heap.size, 0, none⟩ = some (.int .i64 d.t) ∧ (w'.setCell ⟨P, 3, none⟩ y).cell? ⟨wr.heap.size, 1, none⟩ = some (.slice d.l.o d.l.n d.l.cap) ∧ (w'.setCell ⟨P, 3, none⟩ y).cell? ⟨wr.heap.size, 2, none⟩ = some (.slice d.o d.b.length d.cap)) := fun w' y b => by
   have := HKP.out w' b
   simp only [cell_other hne]
   exact this
  have HC1 : Hid (∀ w', Below wz.heap.size wz w' → Calls Tryz.prog 29 #[.int .i64 d.t] w' (Txt w' (uB d.t.toNat))) := fun w' b => dU d.t HG2.out.1 (by have := HG2.out.2; omega) w'
  have HU1 : Hid ((uB d.t.toNat).length ≤ 10) := uB_len10 _ (by have := HG2.out; omega)
  go_wp2_with fail
  rw [← HWZ.out]
  have HKA : Hid (∀ w', Below wz.heap.size wz w' → w'.cell? ⟨wr.heap.size, 0, none⟩ = some (.int .i64 d.t) ∧ w'.cell? ⟨wr.heap.size, 1, none⟩ = some (.slice d.l.o d.l.n d.l.cap) ∧ w'.cell? ⟨wr.heap.size, 2, none⟩ = some (.slice d.o d.b.length d.cap) ∧ w'.cell? ⟨P, 3, none⟩ = some (.string v)) := fun w' b => ⟨(HKP.out w' b).1, (HKP.out w' b).2.1, (HKP.out w' b).2.2, HCV.out w' b⟩
  refine wp_region_z (S := fun w' => w'.cell? ⟨wr.heap.size, 0, none⟩ = some (.int .i64 d.t) ∧ w'.cell? ⟨wr.heap.size, 1, none⟩ = some (.slice d.l.o d.l.n d.l.cap) ∧ w'.cell? ⟨wr.heap.size, 2, none⟩ = some (.slice d.o d.b.length d.cap) ∧ w'.cell? ⟨P, 3, none⟩ = some (.string v)) (z := 7) (by kernel_rfl) ?_
  have HA0 : Hid (Below wz.heap.size wz (World.drew wz)) := Below.drew (Below.refl _ _)
  have hHeld : (fun w' => w'.cell? ⟨wr.heap.size, 0, none⟩ = some (.int .i64 d.t) ∧ w'.cell? ⟨wr.heap.size, 1, none⟩ = some (.slice d.l.o d.l.n d.l.cap) ∧ w'.cell? ⟨wr.heap.size, 2, none⟩ = some (.slice d.o d.b.length d.cap) ∧ w'.cell? ⟨P, 3, none⟩ = some (.string v)) (World.drew wz) := HKA.out _ HA0.out
  refine wpZ_take (i := 0) (v := _) rfl (by kernel_rfl) (by kernel_rfl) (by kernel_rfl) (by kernel_rfl) (fun _ _ _ h => h) (Or.inl ⟨by rfl, by intro w' hSw; go_simp <;> with_reducible rfl⟩) hHeld ?_
  refine wpZ_load (i := 1) [5, 6, 7] (v := _) rfl (by kernel_rfl) (by kernel_rfl) (by kernel_rfl) (by kernel_rfl) (by kernel_rfl) (by kernel_rfl) (fun _ _ _ h => h) (Or.inl ⟨by rfl, by intro w' hSw; (try dsimp only at hSw); go_simp <;> with_reducible rfl⟩) hHeld ?_
  refine wpZ_take (i := 2) (v := _) rfl (by kernel_rfl) (by kernel_rfl) (by kernel_rfl) (by kernel_rfl) (fun _ _ _ h => h) (Or.inl ⟨by rfl, by intro w' hSw; go_simp <;> with_reducible rfl⟩) hHeld ?_
  refine wpZ_load (i := 3) [4, 5, 6, 7] (v := _) rfl (by kernel_rfl) (by kernel_rfl) (by kernel_rfl) (by kernel_rfl) (by kernel_rfl) (by kernel_rfl) (fun _ _ _ h => h) (Or.inl ⟨by rfl, by intro w' hSw; (try dsimp only at hSw); go_simp <;> with_reducible rfl⟩) hHeld ?_
  refine wpZ_call (i := 4) rfl (by kernel_rfl) rfl (by go_simp) (HC1.out _ HA0.out) ?_
  rintro r y1 ⟨t1, rfl, ht1, b1⟩
  have hz1 : t1.size ≤ 10 := Nat.le_trans (Nat.le_of_eq (size_of ht1)) HU1.out
  have HT1 : Hid (type_of% ht1) := ht1
  have HA1 : Hid (Below wz.heap.size wz y1) := HA0.out.trans (b1.mono HA0.out.size)
  have hs1 : wz.heap.size ≤ y1.heap.size := HA1.out.size
  have hq10 : ¬ 9223372036854775807 < v.size + t1.size := by omega
  clear ht1 b1 hHeld
  refine ⟨_, rfl, HKA.out _ HA1.out, fun hHeld => wpZ_put ?_⟩
  refine wpZ_take (i := 5) (v := _) rfl (by kernel_rfl) (by kernel_rfl) (by kernel_rfl) (by kernel_rfl) (fun _ _ _ h => h) (Or.inl ⟨by rfl, by intro w' hSw; go_simp <;> with_reducible rfl⟩) hHeld ?_
  refine wpZ_take (i := 6) (v := _) rfl (by kernel_rfl) (by kernel_rfl) (by kernel_rfl) (by kernel_rfl) (fun _ _ _ h => h) (Or.inl ⟨by rfl, by intro w' hSw; go_simp <;> with_reducible rfl⟩) hHeld ?_
  have hcl : y1.cell? ⟨P, 3, none⟩ = some (.string v) := HCV.out _ HA1.out
  have hfl : y1.frozen? ⟨P, 3, none⟩ = false := HFV.out _ HA1.out
  refine wpZ_last rfl (by kernel_rfl) (by kernel_rfl) (by kernel_rfl) rfl (fun K R hK => ?_)
  go_simp
  refine hK.out _ _ ?_
  clear hK K R hHeld
  all_goals
   have HNN : Hid (nums (v ++ t1) = ((LF.take (j + 1)).flatMap (fun d : FunD => uB d.t.toNat))) := by
    unfold Hid
    rw [nums_append, HVN.out, HT1.out, HT.out]
   obtain ⟨wy, hwy⟩ : ∃ wy, wy = y1.setCell ⟨P, 3, none⟩ (.string (v ++ t1)) := ⟨_, rfl⟩
   have HSY : Hid (SX wy P (updF (updF (updF (updF (fun _ => []) 1 (LT.flatMap (fun d : SigD => tSig d.val))) 2 (LI.flatMap (fun d : NamD => tImp d.val))) 3 ((LF.take (j + 1)).flatMap (fun d : FunD => uB d.t.toNat))) 10 ((LF.take j).flatMap (fun d : FunD => tCode d.cod)))) := by
    unfold Hid
    rw [hwy]
    exact (HSZ.out.under HA1.out hPz).step2 (by omega) (by decide) _ HNN.out
   have HBY : Hid (Below P a wy) := by
    unfold Hid
    rw [hwy]
    exact (HBZ.out.trans (HA1.out.mono (by omega))).setCell (p := ⟨P, 3, none⟩) (Nat.le_refl _) _
   have hky := HKS.out _ (.string (v ++ t1)) HA1.out
   rw [← hwy] at hky
   rw [← hwy]
   obtain ⟨x0, x1, x2⟩ := hky
   have hly : wr.heap.size < wy.heap.size := by
    have h1 := HA1.out.size
    have h2 : wy.heap.size = y1.heap.size := by rw [hwy]; simp [World.setCell]
    omega
   have hPy : P < wy.heap.size := HSY.out.lt
   clear HSZ HBZ HCV HFV HKP HKS HC1 HU1 HA1 hwy hv0 hf0 hPz hlz z0 z1 z2 hcl hfl hq10 HNN HKA HA0 hvz HVN HWZ hbz
   have HSZ : Hid (type_of% HSY.out) := HSY.out
   have HBZ : Hid (type_of% HBY.out) := HBY.out
   have hPz := hPy
   have hlz := hly
   have z0 := x0
   have z1 := x1
   have z2 := x2
   clear x0 x1 x2 hly hPy HSY
   obtain ⟨v, hv0, hvn⟩ := HSZ.out.get 10 (by omega)
   rw [updF_self] at hvn
   have HVN : Hid (type_of% hvn) := hvn
   have hvz : v.size ≤ 6400000 := Nat.le_trans (Nat.le_of_eq (size_of hvn)) HOLDC.out
   have hf0 := HSZ.out.frozen 10
   clear hvn
   have HCV : Hid (∀ w', Below wy.heap.size wy w' → w'.cell? ⟨P, 10, none⟩ = some (.string v)) := fun w' b => (b.cell (p := ⟨P, 10, none⟩) hPz).trans hv0
   have HFV : Hid (∀ w', Below wy.heap.size wy w' → w'.frozen? ⟨P, 10, none⟩ = false) := fun w' b => (HSZ.out.under b hPz).frozen 10
   have HKP : Hid (∀ w', Below wy.heap.size wy w' → w'.cell? ⟨wr.heap.size, 0, none⟩ = some (.int .i64 d.t) ∧ w'.cell? ⟨wr.heap.size, 1, none⟩ = some (.slice d.l.o d.l.n d.l.cap) ∧ w'.cell? ⟨wr.heap.size, 2, none⟩ = some (.slice d.o d.b.length d.cap)) := fun w' b => ⟨(b.cell (p := ⟨wr.heap.size, 0, none⟩) hlz).trans z0, (b.cell (p := ⟨wr.heap.size, 1, none⟩) hlz).trans z1, (b.cell (p := ⟨wr.heap.size, 2, none⟩) hlz).trans z2⟩
   have HKS : Hid (∀ w' y, Below wy.heap.size wy w' → (w'.setCell ⟨P, 10, none⟩ y).cell? ⟨wr.heap.size, 0, none⟩ = some (.int .i64 d.t) ∧ (w'.setCell ⟨P, 10, none⟩ y).cell? ⟨wr.heap.size, 1, none⟩ = some (.slice d.l.o d.l.n d.l.cap) ∧ (w'.setCell ⟨P, 10, none⟩ y).cell? ⟨wr.heap.size, 2, none⟩ = some (.slice d.o d.b.length d.cap)) := fun w' y b => by
    have := HKP.out w' b
    simp only [cell_other hne]
    exact this
   have HC2 : Hid (∀ w', Below wy.heap.size wy w' → Calls Tryz.prog 91 #[.agg #[.int .i64 d.t, .slice d.l.o d.l.n d.l.cap, .slice d.o d.b.length d.cap]] w' (Txt w' (tCode d.cod))) := fun w' b => (HCC.out w' (HWB.out _ (HBY.out.trans (b.mono (by omega))))).1
   have HU2 : Hid ((tCode d.cod).length ≤ 400000) := (HCC.out w (Below.refl _ _)).2
   go_wp2_with fail
   have HKA : Hid (∀ w', Below wy.heap.size wy w' → w'.cell? ⟨wr.heap.size, 0, none⟩ = some (.int .i64 d.t) ∧ w'.cell? ⟨wr.heap.size, 1, none⟩ = some (.slice d.l.o d.l.n d.l.cap) ∧ w'.cell? ⟨wr.heap.size, 2, none⟩ = some (.slice d.o d.b.length d.cap) ∧ w'.cell? ⟨P, 10, none⟩ = some (.string v)) := fun w' b => ⟨(HKP.out w' b).1, (HKP.out w' b).2.1, (HKP.out w' b).2.2, HCV.out w' b⟩
   refine wp_region_z (S := fun w' => w'.cell? ⟨wr.heap.size, 0, none⟩ = some (.int .i64 d.t) ∧ w'.cell? ⟨wr.heap.size, 1, none⟩ = some (.slice d.l.o d.l.n d.l.cap) ∧ w'.cell? ⟨wr.heap.size, 2, none⟩ = some (.slice d.o d.b.length d.cap) ∧ w'.cell? ⟨P, 10, none⟩ = some (.string v)) (z := 6) (by kernel_rfl) ?_
   have HA1 : Hid (Below wy.heap.size wy (World.drew wy)) := Below.drew (Below.refl _ _)
   have hHeld : (fun w' => w'.cell? ⟨wr.heap.size, 0, none⟩ = some (.int .i64 d.t) ∧ w'.cell? ⟨wr.heap.size, 1, none⟩ = some (.slice d.l.o d.l.n d.l.cap) ∧ w'.cell? ⟨wr.heap.size, 2, none⟩ = some (.slice d.o d.b.length d.cap) ∧ w'.cell? ⟨P, 10, none⟩ = some (.string v)) (World.drew wy) := HKA.out _ HA1.out
   refine wpZ_take (i := 0) (v := _) rfl (by kernel_rfl) (by kernel_rfl) (by kernel_rfl) (by kernel_rfl) (fun _ _ _ h => h) (Or.inl ⟨by rfl, by intro w' hSw; go_simp <;> with_reducible rfl⟩) hHeld ?_
   refine wpZ_load (i := 1) [4, 5, 6] (v := _) rfl (by kernel_rfl) (by kernel_rfl) (by kernel_rfl) (by kernel_rfl) (by kernel_rfl) (by kernel_rfl) (fun _ _ _ h => h) (Or.inl ⟨by rfl, by intro w' hSw; (try dsimp only at hSw); go_simp <;> with_reducible rfl⟩) hHeld ?_
   refine wpZ_load (i := 2) [3, 4, 5, 6] (v := _) rfl (by kernel_rfl) (by kernel_rfl) (by kernel_rfl) (by kernel_rfl) (by kernel_rfl) (by kernel_rfl) (fun _ _ _ h => h) (Or.inl ⟨by rfl, by intro w' hSw; (try dsimp only at hSw); go_simp <;> with_reducible rfl⟩) hHeld ?_
   refine wpZ_call (i := 3) rfl (by kernel_rfl) rfl (by go_simp) (HC2.out _ HA1.out) ?_
   rintro r y2 ⟨t2, rfl, ht2, b2⟩
   have hz2 : t2.size ≤ 400000 := Nat.le_trans (Nat.le_of_eq (size_of ht2)) HU2.out
   have HT2 : Hid (type_of% ht2) := ht2
   have HA2 : Hid (Below wy.heap.size wy y2) := HA1.out.trans (b2.mono HA1.out.size)
   have hs2 : wy.heap.size ≤ y2.heap.size := HA2.out.size
   have hq20 : ¬ 9223372036854775807 < v.size + t2.size := by omega
   clear ht2 b2 hHeld
   refine ⟨_, rfl, HKA.out _ HA2.out, fun hHeld => wpZ_put ?_⟩
   refine wpZ_take (i := 4) (v := _) rfl (by kernel_rfl) (by kernel_rfl) (by kernel_rfl) (by kernel_rfl) (fun _ _ _ h => h) (Or.inl ⟨by rfl, by intro w' hSw; go_simp <;> with_reducible rfl⟩) hHeld ?_
   refine wpZ_take (i := 5) (v := _) rfl (by kernel_rfl) (by kernel_rfl) (by kernel_rfl) (by kernel_rfl) (fun _ _ _ h => h) (Or.inl ⟨by rfl, by intro w' hSw; go_simp <;> with_reducible rfl⟩) hHeld ?_
   have hcl : y2.cell? ⟨P, 10, none⟩ = some (.string v) := HCV.out _ HA2.out
   have hfl : y2.frozen? ⟨P, 10, none⟩ = false := HFV.out _ HA2.out
   refine wpZ_last rfl (by kernel_rfl) (by kernel_rfl) (by kernel_rfl) rfl (fun K R hK => ?_)
   go_simp
   refine hK.out _ _ ?_
   clear hK K R hHeld
   all_goals
    have HNN2 : Hid (nums (v ++ t2) = ((LF.take (j + 1)).flatMap (fun d : FunD => tCode d.cod))) := by
     unfold Hid
     rw [nums_append, HVN.out, HT2.out, HTC.out]
    have HE1 : Hid (SX (y2.setCell ⟨P, 10, none⟩ (.string (v ++ t2))) P _) := (HSZ.out.under HA2.out hPz).step (by omega) _ HNN2.out
    have HE2 : Hid (Below P a (y2.setCell ⟨P, 10, none⟩ (.string (v ++ t2)))) := (HBZ.out.trans (HA2.out.mono (by omega))).setCell (p := ⟨P, 10, none⟩) (Nat.le_refl _) _
    go_wp2
    go_roundw
    case rel => exact ⟨j + 1, by go_num, by omega, HE1, HE2⟩
    case measure => simp [intOf]; omega
 have HS : Hid (SX wr P (updF (updF (updF (updF (fun _ => []) 1 (LT.flatMap (fun d : SigD => tSig d.val))) 2 (LI.flatMap (fun d : NamD => tImp d.val))) 3 (LF.flatMap (fun d : FunD => uB d.t.toNat))) 10 (LF.flatMap (fun d : FunD => tCode d.cod)))) := by
  have h := HS2.out
  rw [List.take_of_length_le (by rw [HLF.out]; omega)] at h
  exact h
 have HB : Hid (type_of% HB2.out) := HB2.out
 clear HS2 HB2
 obtain ⟨c0, c1, c2, c3, c4, c5, c6, c7, c8, c9, c10⟩ := HMC.out _ HB.out
 have HFBF : Hid (∀ k, ((updF (updF (updF (updF (fun _ => []) 1 (LT.flatMap (fun d : SigD => tSig d.val))) 2 (LI.flatMap (fun d : NamD => tImp d.val))) 3 (LF.flatMap (fun d : FunD => uB d.t.toNat))) 10 (LF.flatMap (fun d : FunD => tCode d.cod))) k).length ≤ 6400000) := updF_len (updF_len HFBI.out (by have h := flat_le (fun d : FunD => uB d.t.toNat) 10 LF (fun d hd => uB_len10 _ (by have := (GF.out d hd).1; unfold isNum at this; omega)); rw [HLF.out] at h; omega)) (by have h := flat_le (fun d : FunD => tCode d.cod) 400000 LF (fun d hd => (HCD.out d hd w (Below.refl _ _)).2); rw [HLF.out] at h; omega)
 go_wp2
 go_loopw [93] (fun iv wr => ∃ j : Nat, iv = .int .i64 (j : Int) ∧ j ≤ nG ∧ Hid (SX wr P (updF (updF (updF (updF (updF (fun _ => []) 1 (LT.flatMap (fun d : SigD => tSig d.val))) 2 (LI.flatMap (fun d : NamD => tImp d.val))) 3 (LF.flatMap (fun d : FunD => uB d.t.toNat))) 10 (LF.flatMap (fun d : FunD => tCode d.cod))) 6 ((LG.take j).flatMap (fun d : GloD => tGlo d.val)))) ∧ Hid (Below P a wr)) (fun iv _ => nG - (intOf iv).toNat)
 case atStart => exact ⟨0, rfl, by omega, by unfold Hid; simp only [List.take_zero, List.flatMap_nil]; exact HS.out.start 6 rfl, HB⟩
 obtain ⟨j, rfl, hj, HS2, HB2⟩ := hrel
 clear HS HB c0 c1 c2 c3 c4 c5 c6 c7 c8 c9 c10
 by_cases hlt : j < nG
 ·skip
  have hxx : j < LG.length := by rw [HLG.out]; exact hlt
  have HT : Hid (((LG.take (j + 1)).flatMap (fun d : GloD => tGlo d.val)) = ((LG.take j).flatMap (fun d : GloD => tGlo d.val)) ++ (fun d : GloD => tGlo d.val) LG[j]) := flat_snoc _ LG j hxx
  obtain ⟨b, f, rfl, hbN, hcl⟩ := RG.out.at'.resolve_left (fun e => by rw [e] at hxx; exact absurd hxx (by simp))
  have HC : Hid (∀ r, r < 3 → wr.cell? ⟨b, f + j * 3 + r, none⟩ = (GloD.cells LG[j])[r]?) := fun r hr => by
   rw [(HWB.out _ HB2.out).cell (p := ⟨b, f + j * 3 + r, none⟩) hbN]
   exact hcl j hxx r hr
  have HOK : Hid (LG[j] ∈ LG ∧ GloD.ok w LG[j]) := ⟨List.getElem_mem hxx, RG.out.all _ (List.getElem_mem hxx)⟩
  have HGD : Hid (type_of% (GG.out LG[j] (List.getElem_mem hxx))) := GG.out LG[j] (List.getElem_mem hxx)
  generalize LG[j] = d at HT HC HOK HGD
  obtain ⟨dk, dm, ds⟩ := d
  clear hcl hxx
  have hki0 : (0 : Int) ≤ (j : Int) := by omega
  have hki1 : (j : Int) < (nG : Int) := by omega
  have hwz := HB2.out.size
  have hk : dk = 127 ∨ dk = 126 := isK_or HGD.out.1
  have hds : -9223372036854775808 ≤ ds ∧ ds ≤ 9223372036854775807 := HOK.out.2.2.2
  have HOLDG : Hid (((LG.take j).flatMap (fun d : GloD => tGlo d.val)).length ≤ 8000) := Nat.le_trans (flat_take _ 1000 LG j (fun d hd => tGlo_len _ (RG.out.all d hd).2.2)) (by rw [HLG.out]; omega)
  clear HOK HGD
  clear RT GT mT cT RI GI mI cI RF GF mF cF RE GE mE cE RL GL mL cL RD GD mD cD HCD
  have e0 : wr.cell? ⟨b, f + j * 3, none⟩ = some (.int .u8 dk) := HC.out 0 (by omega)
  have e1 : wr.cell? ⟨b, f + j * 3 + 1, none⟩ = some (.bool dm) := HC.out 1 (by omega)
  have e2 : wr.cell? ⟨b, f + j * 3 + 2, none⟩ = some (.int .i64 ds) := HC.out 2 (by omega)
  obtain ⟨wz, hwz1⟩ : ∃ wz, wz = wr.alloc (.cells #[.int .u8 dk, .bool dm, .int .i64 ds] 63) := ⟨_, rfl⟩
  have HWZ : Hid (type_of% hwz1) := hwz1
  have hbz : Below wr.heap.size wr wz := by rw [hwz1]; exact (Below.refl _ _).alloc (Nat.le_refl _) _
  have hblk : wz.heap[wr.heap.size]? = some (.cells #[.int .u8 dk, .bool dm, .int .i64 ds] 63 (0, 0)) := by rw [hwz1]; exact new_block _ _
  have HSZ : Hid (SX wz P _) := HS2.out.under hbz HS2.out.lt
  have HBZ : Hid (Below P a wz) := HB2.out.trans (hbz.mono (by omega))
  have hlz : wr.heap.size < wz.heap.size := some_lt hblk
  have hPz : P < wz.heap.size := HSZ.out.lt
  have hne : wr.heap.size ≠ P := by have := HS2.out.lt; omega
  have z0 : wz.cell? ⟨wr.heap.size, 0, none⟩ = some (.int .u8 dk) := by simp [World.cell?, hblk]
  have z1 : wz.cell? ⟨wr.heap.size, 1, none⟩ = some (.bool dm) := by simp [World.cell?, hblk]
  have z2 : wz.cell? ⟨wr.heap.size, 2, none⟩ = some (.int .i64 ds) := by simp [World.cell?, hblk]
  clear hwz1 hblk HC
  obtain ⟨v, hv0, hvn⟩ := HSZ.out.get 6 (by omega)
  rw [updF_self] at hvn
  have HVN : Hid (type_of% hvn) := hvn
  have hvz : v.size ≤ 8000 := Nat.le_trans (Nat.le_of_eq (size_of hvn)) HOLDG.out
  have hf0 := HSZ.out.frozen 6
  clear hvn
  obtain ⟨mu, hmu⟩ : ∃ mu : Int, mu = if dm then 1 else 0 := ⟨_, rfl⟩
  obtain ⟨om, hom⟩ : ∃ om : Int, om = cst dk := ⟨_, rfl⟩
  have hm01 : 0 ≤ mu ∧ mu < 256 := by rw [hmu]; cases dm <;> simp
  have ho01 : 0 ≤ om ∧ om < 256 := by rw [hom]; unfold cst; split <;> omega
  have HMU : Hid (type_of% hmu) := hmu
  have HOM : Hid (type_of% hom) := hom
  clear hmu hom
  have hdk : 0 ≤ dk ∧ dk < 256 := by omega
  go_upto_if 98 with fail
  rw [← HWZ.out]
  go_cut [12] (fun mv wx => mv = .int .i64 mu ∧ wx = wz)
  case first =>
   cases dm with
   | false =>
    have hmv : mu = 0 := by rw [HMU.out]; rfl
    subst hmv
    go_wp2_with fail
    go_meet
    exact ⟨rfl, rfl⟩
   | true =>
    have hmv : mu = 1 := by rw [HMU.out]; rfl
    subst hmv
    go_wp2_with fail
    go_meet
    exact ⟨rfl, rfl⟩
  case rest =>
   obtain ⟨rfl, hwc⟩ := hcut
   rw [hwc]
   clear hwc
   go_upto_if 101 with fail
   go_cut [13] (fun ov wx => ov = .int .i64 om ∧ wx = wz)
   case first =>
    by_cases h7 : dk = 127
    ·subst h7
     have hov : om = 65 := by rw [HOM.out]; rfl
     subst hov
     go_wp2_with fail
     go_meet
     exact ⟨rfl, rfl⟩
    ·have h6 : dk = 126 := by omega
     subst h6
     have hov : om = 66 := by rw [HOM.out]; rfl
     subst hov
     go_wp2_with fail
     go_meet
     exact ⟨rfl, rfl⟩
   case rest =>
    obtain ⟨rfl, hwc⟩ := hcut
    rw [hwc]
    clear hwc
    have HCV : Hid (∀ w', Below wz.heap.size wz w' → w'.cell? ⟨P, 6, none⟩ = some (.string v)) := fun w' b => (b.cell (p := ⟨P, 6, none⟩) hPz).trans hv0
    have HFV : Hid (∀ w', Below wz.heap.size wz w' → w'.frozen? ⟨P, 6, none⟩ = false) := fun w' b => (HSZ.out.under b hPz).frozen 6
    have HKP : Hid (∀ w', Below wz.heap.size wz w' → w'.cell? ⟨wr.heap.size, 0, none⟩ = some (.int .u8 dk) ∧ w'.cell? ⟨wr.heap.size, 1, none⟩ = some (.bool dm) ∧ w'.cell? ⟨wr.heap.size, 2, none⟩ = some (.int .i64 ds)) := fun w' b => ⟨(b.cell (p := ⟨wr.heap.size, 0, none⟩) hlz).trans z0, (b.cell (p := ⟨wr.heap.size, 1, none⟩) hlz).trans z1, (b.cell (p := ⟨wr.heap.size, 2, none⟩) hlz).trans z2⟩
    have HKS : Hid (∀ w' y, Below wz.heap.size wz w' → (w'.setCell ⟨P, 6, none⟩ y).cell? ⟨wr.heap.size, 0, none⟩ = some (.int .u8 dk) ∧ (w'.setCell ⟨P, 6, none⟩ y).cell? ⟨wr.heap.size, 1, none⟩ = some (.bool dm) ∧ (w'.setCell ⟨P, 6, none⟩ y).cell? ⟨wr.heap.size, 2, none⟩ = some (.int .i64 ds)) := fun w' y b => by
     have := HKP.out w' b
     simp only [cell_other hne]
     exact this
    have HC1 : Hid (∀ w', Below wz.heap.size wz w' → Calls Tryz.prog 28 #[.int .i64 (IntKind.i64.wrap dk)] w' (Txt w' ([dk]))) := fun w' b => (by have hw : IntKind.i64.wrap dk = dk := (by rw [IntKind.wrap_i64]; omega); rw [hw]; exact dChr dk hdk.1 hdk.2 w')
    have HU1 : Hid (([dk]).length ≤ 1) := Nat.le_refl _
    have HC2 : Hid (∀ w', Below wz.heap.size wz w' → Calls Tryz.prog 28 #[.int .i64 mu] w' (Txt w' ([mu]))) := fun w' b => dChr mu hm01.1 hm01.2 w'
    have HU2 : Hid (([mu]).length ≤ 1) := Nat.le_refl _
    have HC3 : Hid (∀ w', Below wz.heap.size wz w' → Calls Tryz.prog 28 #[.int .i64 om] w' (Txt w' ([om]))) := fun w' b => dChr om ho01.1 ho01.2 w'
    have HU3 : Hid (([om]).length ≤ 1) := Nat.le_refl _
    have HC4 : Hid (∀ w', Below wz.heap.size wz w' → Calls Tryz.prog 92 #[.int .i64 ds] w' (Txt w' (sB ds))) := fun w' b => dLebS ds hds.1 hds.2 w'
    have HU4 : Hid ((sB ds).length ≤ 10) := sB_len64 ds hds.1 hds.2
    have HC5 : Hid (∀ w', Below wz.heap.size wz w' → Calls Tryz.prog 28 #[.int .i64 11] w' (Txt w' ([11]))) := fun w' b => dChr 11 (by omega) (by omega) w'
    have HU5 : Hid (([11]).length ≤ 1) := Nat.le_refl _
    go_wp2_with fail
    have HKA : Hid (∀ w', Below wz.heap.size wz w' → w'.cell? ⟨wr.heap.size, 0, none⟩ = some (.int .u8 dk) ∧ w'.cell? ⟨wr.heap.size, 1, none⟩ = some (.bool dm) ∧ w'.cell? ⟨wr.heap.size, 2, none⟩ = some (.int .i64 ds) ∧ w'.cell? ⟨P, 6, none⟩ = some (.string v)) := fun w' b => ⟨(HKP.out w' b).1, (HKP.out w' b).2.1, (HKP.out w' b).2.2, HCV.out w' b⟩
    refine wp_region_z (S := fun w' => w'.cell? ⟨wr.heap.size, 0, none⟩ = some (.int .u8 dk) ∧ w'.cell? ⟨wr.heap.size, 1, none⟩ = some (.bool dm) ∧ w'.cell? ⟨wr.heap.size, 2, none⟩ = some (.int .i64 ds) ∧ w'.cell? ⟨P, 6, none⟩ = some (.string v)) (z := 20) (by kernel_rfl) ?_
    have HA0 : Hid (Below wz.heap.size wz (World.drew wz)) := Below.drew (Below.refl _ _)
    have hHeld : (fun w' => w'.cell? ⟨wr.heap.size, 0, none⟩ = some (.int .u8 dk) ∧ w'.cell? ⟨wr.heap.size, 1, none⟩ = some (.bool dm) ∧ w'.cell? ⟨wr.heap.size, 2, none⟩ = some (.int .i64 ds) ∧ w'.cell? ⟨P, 6, none⟩ = some (.string v)) (World.drew wz) := HKA.out _ HA0.out
    refine wpZ_take (i := 0) (v := _) rfl (by kernel_rfl) (by kernel_rfl) (by kernel_rfl) (by kernel_rfl) (fun _ _ _ h => h) (Or.inl ⟨by rfl, by intro w' hSw; go_simp <;> with_reducible rfl⟩) hHeld ?_
    refine wpZ_load (i := 1) [18, 19, 20] (v := _) rfl (by kernel_rfl) (by kernel_rfl) (by kernel_rfl) (by kernel_rfl) (by kernel_rfl) (by kernel_rfl) (fun _ _ _ h => h) (Or.inl ⟨by rfl, by intro w' hSw; (try dsimp only at hSw); go_simp <;> with_reducible rfl⟩) hHeld ?_
    refine wpZ_take (i := 2) (v := _) rfl (by kernel_rfl) (by kernel_rfl) (by kernel_rfl) (by kernel_rfl) (fun _ _ _ h => h) (Or.inl ⟨by rfl, by intro w' hSw; go_simp <;> with_reducible rfl⟩) hHeld ?_
    refine wpZ_load (i := 3) [4, 5, 7, 8, 10, 11, 14, 15, 16, 17, 18, 19, 20] (v := _) rfl (by kernel_rfl) (by kernel_rfl) (by kernel_rfl) (by kernel_rfl) (by kernel_rfl) (by kernel_rfl) (fun _ _ _ h => h) (Or.inl ⟨by rfl, by intro w' hSw; (try dsimp only at hSw); go_simp <;> with_reducible rfl⟩) hHeld ?_
    refine wpZ_take (i := 4) (v := _) rfl (by kernel_rfl) (by kernel_rfl) (by kernel_rfl) (by kernel_rfl) (fun _ _ _ h => h) (Or.inl ⟨by rfl, by intro w' hSw; go_simp <;> with_reducible rfl⟩) hHeld ?_
    refine wpZ_take (i := 6) (v := _) rfl (by kernel_rfl) (by kernel_rfl) (by kernel_rfl) (by kernel_rfl) (fun _ _ _ h => h) (Or.inl ⟨by rfl, by intro w' hSw; go_simp <;> with_reducible rfl⟩) hHeld ?_
    refine wpZ_take (i := 9) (v := _) rfl (by kernel_rfl) (by kernel_rfl) (by kernel_rfl) (by kernel_rfl) (fun _ _ _ h => h) (Or.inl ⟨by rfl, by intro w' hSw; go_simp <;> with_reducible rfl⟩) hHeld ?_
    refine wpZ_take (i := 12) (v := _) rfl (by kernel_rfl) (by kernel_rfl) (by kernel_rfl) (by kernel_rfl) (fun _ _ _ h => h) (Or.inl ⟨by rfl, by intro w' hSw; go_simp <;> with_reducible rfl⟩) hHeld ?_
    refine wpZ_load (i := 13) [14, 15, 16, 17, 18, 19, 20] (v := _) rfl (by kernel_rfl) (by kernel_rfl) (by kernel_rfl) (by kernel_rfl) (by kernel_rfl) (by kernel_rfl) (fun _ _ _ h => h) (Or.inl ⟨by rfl, by intro w' hSw; (try dsimp only at hSw); go_simp <;> with_reducible rfl⟩) hHeld ?_
    refine wpZ_call (i := 5) rfl (by kernel_rfl) rfl (by go_simp) (HC1.out _ HA0.out) ?_
    rintro r y1 ⟨t1, rfl, ht1, b1⟩
    have hz1 : t1.size ≤ 1 := Nat.le_trans (Nat.le_of_eq (size_of ht1)) HU1.out
    have HT1 : Hid (type_of% ht1) := ht1
    have HA1 : Hid (Below wz.heap.size wz y1) := HA0.out.trans (b1.mono HA0.out.size)
    have hs1 : wz.heap.size ≤ y1.heap.size := HA1.out.size
    clear ht1 b1 hHeld
    refine ⟨_, rfl, HKA.out _ HA1.out, fun hHeld => wpZ_put ?_⟩
    refine wpZ_call (i := 7) rfl (by kernel_rfl) rfl (by go_simp) (HC2.out _ HA1.out) ?_
    rintro r y2 ⟨t2, rfl, ht2, b2⟩
    have hz2 : t2.size ≤ 1 := Nat.le_trans (Nat.le_of_eq (size_of ht2)) HU2.out
    have HT2 : Hid (type_of% ht2) := ht2
    have HA2 : Hid (Below wz.heap.size wz y2) := HA1.out.trans (b2.mono HA1.out.size)
    have hs2 : wz.heap.size ≤ y2.heap.size := HA2.out.size
    have hq20 : ¬ 9223372036854775807 < t1.size + t2.size := by omega
    clear ht2 b2 hHeld
    refine ⟨_, rfl, HKA.out _ HA2.out, fun hHeld => wpZ_put ?_⟩
    refine wpZ_take (i := 8) (v := _) rfl (by kernel_rfl) (by kernel_rfl) (by kernel_rfl) (by kernel_rfl) (fun _ _ _ h => h) (Or.inl ⟨by rfl, by intro w' hSw; go_simp <;> with_reducible rfl⟩) hHeld ?_
    refine wpZ_call (i := 10) rfl (by kernel_rfl) rfl (by go_simp) (HC3.out _ HA2.out) ?_
    rintro r y3 ⟨t3, rfl, ht3, b3⟩
    have hz3 : t3.size ≤ 1 := Nat.le_trans (Nat.le_of_eq (size_of ht3)) HU3.out
    have HT3 : Hid (type_of% ht3) := ht3
    have HA3 : Hid (Below wz.heap.size wz y3) := HA2.out.trans (b3.mono HA2.out.size)
    have hs3 : wz.heap.size ≤ y3.heap.size := HA3.out.size
    have hq30 : ¬ 9223372036854775807 < t1.size + t2.size + t3.size := by omega
    clear ht3 b3 hHeld
    refine ⟨_, rfl, HKA.out _ HA3.out, fun hHeld => wpZ_put ?_⟩
    refine wpZ_take (i := 11) (v := _) rfl (by kernel_rfl) (by kernel_rfl) (by kernel_rfl) (by kernel_rfl) (fun _ _ _ h => h) (Or.inl ⟨by rfl, by intro w' hSw; go_simp <;> with_reducible rfl⟩) hHeld ?_
    refine wpZ_call (i := 14) rfl (by kernel_rfl) rfl (by go_simp) (HC4.out _ HA3.out) ?_
    rintro r y4 ⟨t4, rfl, ht4, b4⟩
    have hz4 : t4.size ≤ 10 := Nat.le_trans (Nat.le_of_eq (size_of ht4)) HU4.out
    have HT4 : Hid (type_of% ht4) := ht4
    have HA4 : Hid (Below wz.heap.size wz y4) := HA3.out.trans (b4.mono HA3.out.size)
    have hs4 : wz.heap.size ≤ y4.heap.size := HA4.out.size
    have hq40 : ¬ 9223372036854775807 < t1.size + t2.size + t3.size + t4.size := by omega
    clear ht4 b4 hHeld
    refine ⟨_, rfl, HKA.out _ HA4.out, fun hHeld => wpZ_put ?_⟩
    refine wpZ_take (i := 15) (v := _) rfl (by kernel_rfl) (by kernel_rfl) (by kernel_rfl) (by kernel_rfl) (fun _ _ _ h => h) (Or.inl ⟨by rfl, by intro w' hSw; go_simp <;> with_reducible rfl⟩) hHeld ?_
    refine wpZ_call (i := 16) rfl (by kernel_rfl) rfl (by go_simp) (HC5.out _ HA4.out) ?_
    rintro r y5 ⟨t5, rfl, ht5, b5⟩
    have hz5 : t5.size ≤ 1 := Nat.le_trans (Nat.le_of_eq (size_of ht5)) HU5.out
    have HT5 : Hid (type_of% ht5) := ht5
    have HA5 : Hid (Below wz.heap.size wz y5) := HA4.out.trans (b5.mono HA4.out.size)
    have hs5 : wz.heap.size ≤ y5.heap.size := HA5.out.size
    have hq50 : ¬ 9223372036854775807 < t1.size + t2.size + t3.size + t4.size + t5.size := by omega
    have hq51 : ¬ 9223372036854775807 < v.size + (t1.size + t2.size + t3.size + t4.size + t5.size) := by omega
    clear ht5 b5 hHeld
    refine ⟨_, rfl, HKA.out _ HA5.out, fun hHeld => wpZ_put ?_⟩
    refine wpZ_take (i := 17) (v := _) rfl (by kernel_rfl) (by kernel_rfl) (by kernel_rfl) (by kernel_rfl) (fun _ _ _ h => h) (Or.inl ⟨by rfl, by intro w' hSw; go_simp <;> with_reducible rfl⟩) hHeld ?_
    refine wpZ_take (i := 18) (v := _) rfl (by kernel_rfl) (by kernel_rfl) (by kernel_rfl) (by kernel_rfl) (fun _ _ _ h => h) (Or.inl ⟨by rfl, by intro w' hSw; go_simp <;> with_reducible rfl⟩) hHeld ?_
    refine wpZ_take (i := 19) (v := _) rfl (by kernel_rfl) (by kernel_rfl) (by kernel_rfl) (by kernel_rfl) (fun _ _ _ h => h) (Or.inl ⟨by rfl, by intro w' hSw; go_simp <;> with_reducible rfl⟩) hHeld ?_
    have hcl : y5.cell? ⟨P, 6, none⟩ = some (.string v) := HCV.out _ HA5.out
    have hfl : y5.frozen? ⟨P, 6, none⟩ = false := HFV.out _ HA5.out
    refine wpZ_last rfl (by kernel_rfl) (by kernel_rfl) (by kernel_rfl) rfl (fun K R hK => ?_)
    go_simp
    refine hK.out _ _ ?_
    clear hK K R hHeld
    all_goals
     have HNN : Hid (nums (v ++ (t1 ++ t2 ++ t3 ++ t4 ++ t5)) = ((LG.take (j + 1)).flatMap (fun d : GloD => tGlo d.val))) := by
      unfold Hid
      rw [nums_append, nums_append, nums_append, nums_append, nums_append, HVN.out, HT1.out, HT2.out, HT3.out, HT4.out, HT5.out, HT.out, HMU.out, HOM.out]
      simp [tGlo, GloD.val]
      cases dm <;> rfl
     have HE1 : Hid (SX (y5.setCell ⟨P, 6, none⟩ (.string (v ++ (t1 ++ t2 ++ t3 ++ t4 ++ t5)))) P _) := (HSZ.out.under HA5.out hPz).step (by omega) _ HNN.out
     have HE2 : Hid (Below P a (y5.setCell ⟨P, 6, none⟩ (.string (v ++ (t1 ++ t2 ++ t3 ++ t4 ++ t5))))) := (HBZ.out.trans (HA5.out.mono (by omega))).setCell (p := ⟨P, 6, none⟩) (Nat.le_refl _) _
     go_wp2
     go_roundw
     case rel => exact ⟨j + 1, by go_num, by omega, HE1, HE2⟩
     case measure => simp [intOf]; omega
 have HS : Hid (SX wr P (updF (updF (updF (updF (updF (fun _ => []) 1 (LT.flatMap (fun d : SigD => tSig d.val))) 2 (LI.flatMap (fun d : NamD => tImp d.val))) 3 (LF.flatMap (fun d : FunD => uB d.t.toNat))) 10 (LF.flatMap (fun d : FunD => tCode d.cod))) 6 (LG.flatMap (fun d : GloD => tGlo d.val)))) := by
  have h := HS2.out
  rw [List.take_of_length_le (by rw [HLG.out]; omega)] at h
  exact h
 have HB : Hid (type_of% HB2.out) := HB2.out
 clear HS2 HB2
 obtain ⟨c0, c1, c2, c3, c4, c5, c6, c7, c8, c9, c10⟩ := HMC.out _ HB.out
 have HFBG : Hid (∀ k, ((updF (updF (updF (updF (updF (fun _ => []) 1 (LT.flatMap (fun d : SigD => tSig d.val))) 2 (LI.flatMap (fun d : NamD => tImp d.val))) 3 (LF.flatMap (fun d : FunD => uB d.t.toNat))) 10 (LF.flatMap (fun d : FunD => tCode d.cod))) 6 (LG.flatMap (fun d : GloD => tGlo d.val))) k).length ≤ 6400000) := updF_len HFBF.out (by have h := flat_le (fun d : GloD => tGlo d.val) 1000 LG (fun d hd => tGlo_len _ (RG.out.all d hd).2.2); rw [HLG.out] at h; omega)
 go_wp2
 go_loopw [126] (fun iv wr => ∃ j : Nat, iv = .int .i64 (j : Int) ∧ j ≤ nE ∧ Hid (SX wr P (updF (updF (updF (updF (updF (updF (fun _ => []) 1 (LT.flatMap (fun d : SigD => tSig d.val))) 2 (LI.flatMap (fun d : NamD => tImp d.val))) 3 (LF.flatMap (fun d : FunD => uB d.t.toNat))) 10 (LF.flatMap (fun d : FunD => tCode d.cod))) 6 (LG.flatMap (fun d : GloD => tGlo d.val))) 7 ((LE.take j).flatMap (fun d : NamD => tExp d.val)))) ∧ Hid (Below P a wr)) (fun iv _ => nE - (intOf iv).toNat)
 case atStart => exact ⟨0, rfl, by omega, by unfold Hid; simp only [List.take_zero, List.flatMap_nil]; exact HS.out.start 7 rfl, HB⟩
 obtain ⟨j, rfl, hj, HS2, HB2⟩ := hrel
 clear HS HB c0 c1 c2 c3 c4 c5 c6 c7 c8 c9 c10
 by_cases hlt : j < nE
 ·skip
  have hxx : j < LE.length := by rw [HLE.out]; exact hlt
  have HT : Hid (((LE.take (j + 1)).flatMap (fun d : NamD => tExp d.val)) = ((LE.take j).flatMap (fun d : NamD => tExp d.val)) ++ (fun d : NamD => tExp d.val) LE[j]) := flat_snoc _ LE j hxx
  obtain ⟨b, f, rfl, hbN, hcl⟩ := RE.out.at'.resolve_left (fun e => by rw [e] at hxx; exact absurd hxx (by simp))
  have HC : Hid (∀ r, r < 2 → wr.cell? ⟨b, f + j * 2 + r, none⟩ = (NamD.cells LE[j])[r]?) := fun r hr => by
   rw [(HWB.out _ HB2.out).cell (p := ⟨b, f + j * 2 + r, none⟩) hbN]
   exact hcl j hxx r hr
  have HOK : Hid (LE[j] ∈ LE ∧ NamD.ok w LE[j]) := ⟨List.getElem_mem hxx, RE.out.all _ (List.getElem_mem hxx)⟩
  have HGD : Hid (type_of% (GE.out LE[j] (List.getElem_mem hxx))) := GE.out LE[j] (List.getElem_mem hxx)
  generalize LE[j] = d at HT HC HOK HGD
  obtain ⟨ds, dn⟩ := d
  clear hcl hxx
  have hki0 : (0 : Int) ≤ (j : Int) := by omega
  have hki1 : (j : Int) < (nE : Int) := by omega
  have hwz := HB2.out.size
  have HG1 : Hid ((nums ds).length ≤ 16) := HGD.out.1.1
  have HG2 : Hid (0 ≤ dn ∧ dn ≤ 4294967295) := HGD.out.2
  have HOLDE : Hid (((LE.take j).flatMap (fun d : NamD => tExp d.val)).length ≤ 16000) := Nat.le_trans (flat_take _ 1000 LE j (fun d hd => tExp_len _ (GE.out d hd))) (by rw [HLE.out]; omega)
  clear HOK HGD
  clear RT GT mT cT RI GI mI cI RF GF mF cF RG GG mG cG RL GL mL cL RD GD mD cD HCD
  have e0 : wr.cell? ⟨b, f + j * 2, none⟩ = some (.string ds) := HC.out 0 (by omega)
  have e1 : wr.cell? ⟨b, f + j * 2 + 1, none⟩ = some (.int .i64 dn) := HC.out 1 (by omega)
  obtain ⟨wz, hwz1⟩ : ∃ wz, wz = wr.alloc (.cells #[.string ds, .int .i64 dn] 65) := ⟨_, rfl⟩
  have HWZ : Hid (type_of% hwz1) := hwz1
  have hbz : Below wr.heap.size wr wz := by rw [hwz1]; exact (Below.refl _ _).alloc (Nat.le_refl _) _
  have hblk : wz.heap[wr.heap.size]? = some (.cells #[.string ds, .int .i64 dn] 65 (0, 0)) := by rw [hwz1]; exact new_block _ _
  have HSZ : Hid (SX wz P _) := HS2.out.under hbz HS2.out.lt
  have HBZ : Hid (Below P a wz) := HB2.out.trans (hbz.mono (by omega))
  have hlz : wr.heap.size < wz.heap.size := some_lt hblk
  have hPz : P < wz.heap.size := HSZ.out.lt
  have hne : wr.heap.size ≠ P := by have := HS2.out.lt; omega
  have z0 : wz.cell? ⟨wr.heap.size, 0, none⟩ = some (.string ds) := by simp [World.cell?, hblk]
  have z1 : wz.cell? ⟨wr.heap.size, 1, none⟩ = some (.int .i64 dn) := by simp [World.cell?, hblk]
  clear hwz1 hblk HC
  obtain ⟨v, hv0, hvn⟩ := HSZ.out.get 7 (by omega)
  rw [updF_self] at hvn
  have HVN : Hid (type_of% hvn) := hvn
  have hvz : v.size ≤ 16000 := Nat.le_trans (Nat.le_of_eq (size_of hvn)) HOLDE.out
  have hf0 := HSZ.out.frozen 7
  clear hvn
  have HCV : Hid (∀ w', Below wz.heap.size wz w' → w'.cell? ⟨P, 7, none⟩ = some (.string v)) := fun w' b => (b.cell (p := ⟨P, 7, none⟩) hPz).trans hv0
  have HFV : Hid (∀ w', Below wz.heap.size wz w' → w'.frozen? ⟨P, 7, none⟩ = false) := fun w' b => (HSZ.out.under b hPz).frozen 7
  have HKP : Hid (∀ w', Below wz.heap.size wz w' → w'.cell? ⟨wr.heap.size, 0, none⟩ = some (.string ds) ∧ w'.cell? ⟨wr.heap.size, 1, none⟩ = some (.int .i64 dn)) := fun w' b => ⟨(b.cell (p := ⟨wr.heap.size, 0, none⟩) hlz).trans z0, (b.cell (p := ⟨wr.heap.size, 1, none⟩) hlz).trans z1⟩
  have HKS : Hid (∀ w' y, Below wz.heap.size wz w' → (w'.setCell ⟨P, 7, none⟩ y).cell? ⟨wr.heap.size, 0, none⟩ = some (.string ds) ∧ (w'.setCell ⟨P, 7, none⟩ y).cell? ⟨wr.heap.size, 1, none⟩ = some (.int .i64 dn)) := fun w' y b => by
   have := HKP.out w' b
   simp only [cell_other hne]
   exact this
  have HC1 : Hid (∀ w', Below wz.heap.size wz w' → Calls Tryz.prog 90 #[.string ds] w' (Txt w' (tName (nums ds)))) := fun w' b => dName ds (by have := HG1.out; rw [nums_length] at this; exact this) w'
  have HU1 : Hid ((tName (nums ds)).length ≤ 26) := tName_len _ 16 HG1.out (by omega)
  have HC2 : Hid (∀ w', Below wz.heap.size wz w' → Calls Tryz.prog 28 #[.int .i64 0] w' (Txt w' ([0]))) := fun w' b => dChr 0 (by omega) (by omega) w'
  have HU2 : Hid (([0]).length ≤ 1) := Nat.le_refl _
  have HC3 : Hid (∀ w', Below wz.heap.size wz w' → Calls Tryz.prog 29 #[.int .i64 dn] w' (Txt w' (uB dn.toNat))) := fun w' b => dU dn HG2.out.1 (by have := HG2.out.2; omega) w'
  have HU3 : Hid ((uB dn.toNat).length ≤ 10) := uB_len10 _ (by have := HG2.out; omega)
  go_wp2_with fail
  rw [← HWZ.out]
  have HKA : Hid (∀ w', Below wz.heap.size wz w' → w'.cell? ⟨wr.heap.size, 0, none⟩ = some (.string ds) ∧ w'.cell? ⟨wr.heap.size, 1, none⟩ = some (.int .i64 dn) ∧ w'.cell? ⟨P, 7, none⟩ = some (.string v)) := fun w' b => ⟨(HKP.out w' b).1, (HKP.out w' b).2, HCV.out w' b⟩
  refine wp_region_z (S := fun w' => w'.cell? ⟨wr.heap.size, 0, none⟩ = some (.string ds) ∧ w'.cell? ⟨wr.heap.size, 1, none⟩ = some (.int .i64 dn) ∧ w'.cell? ⟨P, 7, none⟩ = some (.string v)) (z := 13) (by kernel_rfl) ?_
  have HA0 : Hid (Below wz.heap.size wz (World.drew wz)) := Below.drew (Below.refl _ _)
  have hHeld : (fun w' => w'.cell? ⟨wr.heap.size, 0, none⟩ = some (.string ds) ∧ w'.cell? ⟨wr.heap.size, 1, none⟩ = some (.int .i64 dn) ∧ w'.cell? ⟨P, 7, none⟩ = some (.string v)) (World.drew wz) := HKA.out _ HA0.out
  refine wpZ_take (i := 0) (v := _) rfl (by kernel_rfl) (by kernel_rfl) (by kernel_rfl) (by kernel_rfl) (fun _ _ _ h => h) (Or.inl ⟨by rfl, by intro w' hSw; go_simp <;> with_reducible rfl⟩) hHeld ?_
  refine wpZ_load (i := 1) [11, 12, 13] (v := _) rfl (by kernel_rfl) (by kernel_rfl) (by kernel_rfl) (by kernel_rfl) (by kernel_rfl) (by kernel_rfl) (fun _ _ _ h => h) (Or.inl ⟨by rfl, by intro w' hSw; (try dsimp only at hSw); go_simp <;> with_reducible rfl⟩) hHeld ?_
  refine wpZ_take (i := 2) (v := _) rfl (by kernel_rfl) (by kernel_rfl) (by kernel_rfl) (by kernel_rfl) (fun _ _ _ h => h) (Or.inl ⟨by rfl, by intro w' hSw; go_simp <;> with_reducible rfl⟩) hHeld ?_
  refine wpZ_load (i := 3) [4, 5, 6, 9, 10, 11, 12, 13] (v := _) rfl (by kernel_rfl) (by kernel_rfl) (by kernel_rfl) (by kernel_rfl) (by kernel_rfl) (by kernel_rfl) (fun _ _ _ h => h) (Or.inl ⟨by rfl, by intro w' hSw; (try dsimp only at hSw); go_simp <;> with_reducible rfl⟩) hHeld ?_
  refine wpZ_take (i := 7) (v := _) rfl (by kernel_rfl) (by kernel_rfl) (by kernel_rfl) (by kernel_rfl) (fun _ _ _ h => h) (Or.inl ⟨by rfl, by intro w' hSw; go_simp <;> with_reducible rfl⟩) hHeld ?_
  refine wpZ_load (i := 8) [9, 10, 11, 12, 13] (v := _) rfl (by kernel_rfl) (by kernel_rfl) (by kernel_rfl) (by kernel_rfl) (by kernel_rfl) (by kernel_rfl) (fun _ _ _ h => h) (Or.inl ⟨by rfl, by intro w' hSw; (try dsimp only at hSw); go_simp <;> with_reducible rfl⟩) hHeld ?_
  refine wpZ_call (i := 4) rfl (by kernel_rfl) rfl (by go_simp) (HC1.out _ HA0.out) ?_
  rintro r y1 ⟨t1, rfl, ht1, b1⟩
  have hz1 : t1.size ≤ 26 := Nat.le_trans (Nat.le_of_eq (size_of ht1)) HU1.out
  have HT1 : Hid (type_of% ht1) := ht1
  have HA1 : Hid (Below wz.heap.size wz y1) := HA0.out.trans (b1.mono HA0.out.size)
  have hs1 : wz.heap.size ≤ y1.heap.size := HA1.out.size
  clear ht1 b1 hHeld
  refine ⟨_, rfl, HKA.out _ HA1.out, fun hHeld => wpZ_put ?_⟩
  refine wpZ_call (i := 5) rfl (by kernel_rfl) rfl (by go_simp) (HC2.out _ HA1.out) ?_
  rintro r y2 ⟨t2, rfl, ht2, b2⟩
  have hz2 : t2.size ≤ 1 := Nat.le_trans (Nat.le_of_eq (size_of ht2)) HU2.out
  have HT2 : Hid (type_of% ht2) := ht2
  have HA2 : Hid (Below wz.heap.size wz y2) := HA1.out.trans (b2.mono HA1.out.size)
  have hs2 : wz.heap.size ≤ y2.heap.size := HA2.out.size
  have hq20 : ¬ 9223372036854775807 < t1.size + t2.size := by omega
  clear ht2 b2 hHeld
  refine ⟨_, rfl, HKA.out _ HA2.out, fun hHeld => wpZ_put ?_⟩
  refine wpZ_take (i := 6) (v := _) rfl (by kernel_rfl) (by kernel_rfl) (by kernel_rfl) (by kernel_rfl) (fun _ _ _ h => h) (Or.inl ⟨by rfl, by intro w' hSw; go_simp <;> with_reducible rfl⟩) hHeld ?_
  refine wpZ_call (i := 9) rfl (by kernel_rfl) rfl (by go_simp) (HC3.out _ HA2.out) ?_
  rintro r y3 ⟨t3, rfl, ht3, b3⟩
  have hz3 : t3.size ≤ 10 := Nat.le_trans (Nat.le_of_eq (size_of ht3)) HU3.out
  have HT3 : Hid (type_of% ht3) := ht3
  have HA3 : Hid (Below wz.heap.size wz y3) := HA2.out.trans (b3.mono HA2.out.size)
  have hs3 : wz.heap.size ≤ y3.heap.size := HA3.out.size
  have hq30 : ¬ 9223372036854775807 < t1.size + t2.size + t3.size := by omega
  have hq31 : ¬ 9223372036854775807 < v.size + (t1.size + t2.size + t3.size) := by omega
  clear ht3 b3 hHeld
  refine ⟨_, rfl, HKA.out _ HA3.out, fun hHeld => wpZ_put ?_⟩
  refine wpZ_take (i := 10) (v := _) rfl (by kernel_rfl) (by kernel_rfl) (by kernel_rfl) (by kernel_rfl) (fun _ _ _ h => h) (Or.inl ⟨by rfl, by intro w' hSw; go_simp <;> with_reducible rfl⟩) hHeld ?_
  refine wpZ_take (i := 11) (v := _) rfl (by kernel_rfl) (by kernel_rfl) (by kernel_rfl) (by kernel_rfl) (fun _ _ _ h => h) (Or.inl ⟨by rfl, by intro w' hSw; go_simp <;> with_reducible rfl⟩) hHeld ?_
  refine wpZ_take (i := 12) (v := _) rfl (by kernel_rfl) (by kernel_rfl) (by kernel_rfl) (by kernel_rfl) (fun _ _ _ h => h) (Or.inl ⟨by rfl, by intro w' hSw; go_simp <;> with_reducible rfl⟩) hHeld ?_
  have hcl : y3.cell? ⟨P, 7, none⟩ = some (.string v) := HCV.out _ HA3.out
  have hfl : y3.frozen? ⟨P, 7, none⟩ = false := HFV.out _ HA3.out
  refine wpZ_last rfl (by kernel_rfl) (by kernel_rfl) (by kernel_rfl) rfl (fun K R hK => ?_)
  go_simp
  refine hK.out _ _ ?_
  clear hK K R hHeld
  all_goals
   have HNN : Hid (nums (v ++ (t1 ++ t2 ++ t3)) = ((LE.take (j + 1)).flatMap (fun d : NamD => tExp d.val))) := by
    unfold Hid
    rw [nums_append, nums_append, nums_append, HVN.out, HT1.out, HT2.out, HT3.out, HT.out]
    simp [tExp, NamD.val]
   have HE1 : Hid (SX (y3.setCell ⟨P, 7, none⟩ (.string (v ++ (t1 ++ t2 ++ t3)))) P _) := (HSZ.out.under HA3.out hPz).step (by omega) _ HNN.out
   have HE2 : Hid (Below P a (y3.setCell ⟨P, 7, none⟩ (.string (v ++ (t1 ++ t2 ++ t3))))) := (HBZ.out.trans (HA3.out.mono (by omega))).setCell (p := ⟨P, 7, none⟩) (Nat.le_refl _) _
   go_wp2
   go_roundw
   case rel => exact ⟨j + 1, by go_num, by omega, HE1, HE2⟩
   case measure => simp [intOf]; omega
 have HS : Hid (SX wr P (updF (updF (updF (updF (updF (updF (fun _ => []) 1 (LT.flatMap (fun d : SigD => tSig d.val))) 2 (LI.flatMap (fun d : NamD => tImp d.val))) 3 (LF.flatMap (fun d : FunD => uB d.t.toNat))) 10 (LF.flatMap (fun d : FunD => tCode d.cod))) 6 (LG.flatMap (fun d : GloD => tGlo d.val))) 7 (LE.flatMap (fun d : NamD => tExp d.val)))) := by
  have h := HS2.out
  rw [List.take_of_length_le (by rw [HLE.out]; omega)] at h
  exact h
 have HB : Hid (type_of% HB2.out) := HB2.out
 clear HS2 HB2
 obtain ⟨c0, c1, c2, c3, c4, c5, c6, c7, c8, c9, c10⟩ := HMC.out _ HB.out
 have HFBE : Hid (∀ k, ((updF (updF (updF (updF (updF (updF (fun _ => []) 1 (LT.flatMap (fun d : SigD => tSig d.val))) 2 (LI.flatMap (fun d : NamD => tImp d.val))) 3 (LF.flatMap (fun d : FunD => uB d.t.toNat))) 10 (LF.flatMap (fun d : FunD => tCode d.cod))) 6 (LG.flatMap (fun d : GloD => tGlo d.val))) 7 (LE.flatMap (fun d : NamD => tExp d.val))) k).length ≤ 6400000) := updF_len HFBG.out (by have h := flat_le (fun d : NamD => tExp d.val) 1000 LE (fun d hd => tExp_len _ (GE.out d hd)); rw [HLE.out] at h; omega)
 go_wp2
 go_loopw [147] (fun iv wr => ∃ j : Nat, iv = .int .i64 (j : Int) ∧ j ≤ nL ∧ Hid (SX wr P (updF (updF (updF (updF (updF (updF (updF (fun _ => []) 1 (LT.flatMap (fun d : SigD => tSig d.val))) 2 (LI.flatMap (fun d : NamD => tImp d.val))) 3 (LF.flatMap (fun d : FunD => uB d.t.toNat))) 10 (LF.flatMap (fun d : FunD => tCode d.cod))) 6 (LG.flatMap (fun d : GloD => tGlo d.val))) 7 (LE.flatMap (fun d : NamD => tExp d.val))) 9 ((LL.take j).flatMap (fun d : EleD => tEle d.val)))) ∧ Hid (Below P a wr)) (fun iv _ => nL - (intOf iv).toNat)
 case atStart => exact ⟨0, rfl, by omega, by unfold Hid; simp only [List.take_zero, List.flatMap_nil]; exact HS.out.start 9 rfl, HB⟩
 obtain ⟨j, rfl, hj, HS2, HB2⟩ := hrel
 clear HS HB c0 c1 c2 c3 c4 c5 c6 c7 c8 c9 c10
 by_cases hlt : j < nL
 ·skip
  have hxx : j < LL.length := by rw [HLL.out]; exact hlt
  have HT : Hid (((LL.take (j + 1)).flatMap (fun d : EleD => tEle d.val)) = ((LL.take j).flatMap (fun d : EleD => tEle d.val)) ++ (fun d : EleD => tEle d.val) LL[j]) := flat_snoc _ LL j hxx
  obtain ⟨b, f, rfl, hbN, hcl⟩ := RL.out.at'.resolve_left (fun e => by rw [e] at hxx; exact absurd hxx (by simp))
  have HC : Hid (∀ r, r < 2 → wr.cell? ⟨b, f + j * 2 + r, none⟩ = (EleD.cells LL[j])[r]?) := fun r hr => by
   rw [(HWB.out _ HB2.out).cell (p := ⟨b, f + j * 2 + r, none⟩) hbN]
   exact hcl j hxx r hr
  have HOK : Hid (LL[j] ∈ LL ∧ EleD.ok w LL[j]) := ⟨List.getElem_mem hxx, RL.out.all _ (List.getElem_mem hxx)⟩
  have HGD : Hid (type_of% (GL.out LL[j] (List.getElem_mem hxx))) := GL.out LL[j] (List.getElem_mem hxx)
  generalize LL[j] = d at HT HC HOK HGD
  obtain ⟨da, df⟩ := d
  clear hcl hxx
  have hki0 : (0 : Int) ≤ (j : Int) := by omega
  have hki1 : (j : Int) < (nL : Int) := by omega
  have hwz := HB2.out.size
  have HG1 : Hid (-2147483648 ≤ da ∧ da ≤ 2147483647) := sgn32 HGD.out.1
  have HG2 : Hid (GNs 16 df.xs) := HGD.out.2
  have HO1 : Hid (df.ok .i64 w) := HOK.out.2.2
  have HOLDL : Hid (((LL.take j).flatMap (fun d : EleD => tEle d.val)).length ≤ 4000) := Nat.le_trans (flat_take _ 1000 LL j (fun d hd => tEle_len _ (RL.out.all d hd).1 (GL.out d hd))) (by rw [HLL.out]; omega)
  clear HOK HGD
  clear RT GT mT cT RI GI mI cI RF GF mF cF RG GG mG cG RE GE mE cE RD GD mD cD HCD
  have e0 : wr.cell? ⟨b, f + j * 2, none⟩ = some (.int .i64 da) := HC.out 0 (by omega)
  have e1 : wr.cell? ⟨b, f + j * 2 + 1, none⟩ = some (.slice df.o df.n df.cap) := HC.out 1 (by omega)
  obtain ⟨wz, hwz1⟩ : ∃ wz, wz = wr.alloc (.cells #[.int .i64 da, .slice df.o df.n df.cap] 68) := ⟨_, rfl⟩
  have HWZ : Hid (type_of% hwz1) := hwz1
  have hbz : Below wr.heap.size wr wz := by rw [hwz1]; exact (Below.refl _ _).alloc (Nat.le_refl _) _
  have hblk : wz.heap[wr.heap.size]? = some (.cells #[.int .i64 da, .slice df.o df.n df.cap] 68 (0, 0)) := by rw [hwz1]; exact new_block _ _
  have HSZ : Hid (SX wz P _) := HS2.out.under hbz HS2.out.lt
  have HBZ : Hid (Below P a wz) := HB2.out.trans (hbz.mono (by omega))
  have hlz : wr.heap.size < wz.heap.size := some_lt hblk
  have hPz : P < wz.heap.size := HSZ.out.lt
  have hne : wr.heap.size ≠ P := by have := HS2.out.lt; omega
  have z0 : wz.cell? ⟨wr.heap.size, 0, none⟩ = some (.int .i64 da) := by simp [World.cell?, hblk]
  have z1 : wz.cell? ⟨wr.heap.size, 1, none⟩ = some (.slice df.o df.n df.cap) := by simp [World.cell?, hblk]
  clear hwz1 hblk HC
  obtain ⟨v, hv0, hvn⟩ := HSZ.out.get 9 (by omega)
  rw [updF_self] at hvn
  have HVN : Hid (type_of% hvn) := hvn
  have hvz : v.size ≤ 4000 := Nat.le_trans (Nat.le_of_eq (size_of hvn)) HOLDL.out
  have hf0 := HSZ.out.frozen 9
  clear hvn
  have hn16 : df.n ≤ 16 := by have := HG2.out.1; have := HO1.out.len; omega
  have HCV : Hid (∀ w', Below wz.heap.size wz w' → w'.cell? ⟨P, 9, none⟩ = some (.string v)) := fun w' b => (b.cell (p := ⟨P, 9, none⟩) hPz).trans hv0
  have HFV : Hid (∀ w', Below wz.heap.size wz w' → w'.frozen? ⟨P, 9, none⟩ = false) := fun w' b => (HSZ.out.under b hPz).frozen 9
  have HKP : Hid (∀ w', Below wz.heap.size wz w' → w'.cell? ⟨wr.heap.size, 0, none⟩ = some (.int .i64 da) ∧ w'.cell? ⟨wr.heap.size, 1, none⟩ = some (.slice df.o df.n df.cap)) := fun w' b => ⟨(b.cell (p := ⟨wr.heap.size, 0, none⟩) hlz).trans z0, (b.cell (p := ⟨wr.heap.size, 1, none⟩) hlz).trans z1⟩
  have HKS : Hid (∀ w' y, Below wz.heap.size wz w' → (w'.setCell ⟨P, 9, none⟩ y).cell? ⟨wr.heap.size, 0, none⟩ = some (.int .i64 da) ∧ (w'.setCell ⟨P, 9, none⟩ y).cell? ⟨wr.heap.size, 1, none⟩ = some (.slice df.o df.n df.cap)) := fun w' y b => by
   have := HKP.out w' b
   simp only [cell_other hne]
   exact this
  have HC1 : Hid (∀ w', Below wz.heap.size wz w' → Calls Tryz.prog 93 #[.int .i64 da] w' (Txt w' (tPlace da))) := fun w' b => dPlace da HG1.out.1 HG1.out.2 w'
  have HU1 : Hid ((tPlace da).length ≤ 13) := tPlace_len da (by have := HG1.out; omega) (by have := HG1.out; omega)
  have HC2 : Hid (∀ w', Below wz.heap.size wz w' → Calls Tryz.prog 29 #[.int .i64 (df.n : Int)] w' (Txt w' (uB df.n))) := fun w' b => (by have := dU (df.n : Int) (by omega) (by omega) w'; rw [Int.toNat_natCast] at this; exact this)
  have HU2 : Hid ((uB df.n).length ≤ 10) := uB_len10 _ (by omega)
  go_wp2_with fail
  rw [← HWZ.out]
  have HKA : Hid (∀ w', Below wz.heap.size wz w' → w'.cell? ⟨wr.heap.size, 0, none⟩ = some (.int .i64 da) ∧ w'.cell? ⟨wr.heap.size, 1, none⟩ = some (.slice df.o df.n df.cap) ∧ w'.cell? ⟨P, 9, none⟩ = some (.string v)) := fun w' b => ⟨(HKP.out w' b).1, (HKP.out w' b).2, HCV.out w' b⟩
  refine wp_region_z (S := fun w' => w'.cell? ⟨wr.heap.size, 0, none⟩ = some (.int .i64 da) ∧ w'.cell? ⟨wr.heap.size, 1, none⟩ = some (.slice df.o df.n df.cap) ∧ w'.cell? ⟨P, 9, none⟩ = some (.string v)) (z := 12) (by kernel_rfl) ?_
  have HA0 : Hid (Below wz.heap.size wz (World.drew wz)) := Below.drew (Below.refl _ _)
  have hHeld : (fun w' => w'.cell? ⟨wr.heap.size, 0, none⟩ = some (.int .i64 da) ∧ w'.cell? ⟨wr.heap.size, 1, none⟩ = some (.slice df.o df.n df.cap) ∧ w'.cell? ⟨P, 9, none⟩ = some (.string v)) (World.drew wz) := HKA.out _ HA0.out
  refine wpZ_take (i := 0) (v := _) rfl (by kernel_rfl) (by kernel_rfl) (by kernel_rfl) (by kernel_rfl) (fun _ _ _ h => h) (Or.inl ⟨by rfl, by intro w' hSw; go_simp <;> with_reducible rfl⟩) hHeld ?_
  refine wpZ_load (i := 1) [10, 11, 12] (v := _) rfl (by kernel_rfl) (by kernel_rfl) (by kernel_rfl) (by kernel_rfl) (by kernel_rfl) (by kernel_rfl) (fun _ _ _ h => h) (Or.inl ⟨by rfl, by intro w' hSw; (try dsimp only at hSw); go_simp <;> with_reducible rfl⟩) hHeld ?_
  refine wpZ_take (i := 2) (v := _) rfl (by kernel_rfl) (by kernel_rfl) (by kernel_rfl) (by kernel_rfl) (fun _ _ _ h => h) (Or.inl ⟨by rfl, by intro w' hSw; go_simp <;> with_reducible rfl⟩) hHeld ?_
  refine wpZ_load (i := 3) [4, 8, 9, 10, 11, 12] (v := _) rfl (by kernel_rfl) (by kernel_rfl) (by kernel_rfl) (by kernel_rfl) (by kernel_rfl) (by kernel_rfl) (fun _ _ _ h => h) (Or.inl ⟨by rfl, by intro w' hSw; (try dsimp only at hSw); go_simp <;> with_reducible rfl⟩) hHeld ?_
  refine wpZ_take (i := 5) (v := _) rfl (by kernel_rfl) (by kernel_rfl) (by kernel_rfl) (by kernel_rfl) (fun _ _ _ h => h) (Or.inl ⟨by rfl, by intro w' hSw; go_simp <;> with_reducible rfl⟩) hHeld ?_
  refine wpZ_load (i := 6) [7, 8, 9, 10, 11, 12] (v := _) rfl (by kernel_rfl) (by kernel_rfl) (by kernel_rfl) (by kernel_rfl) (by kernel_rfl) (by kernel_rfl) (fun _ _ _ h => h) (Or.inl ⟨by rfl, by intro w' hSw; (try dsimp only at hSw); go_simp <;> with_reducible rfl⟩) hHeld ?_
  refine wpZ_take (i := 7) (v := _) rfl (by kernel_rfl) (by kernel_rfl) (by kernel_rfl) (by kernel_rfl) (fun _ _ _ h => h) (Or.inl ⟨by rfl, by intro w' hSw; go_simp <;> with_reducible rfl⟩) hHeld ?_
  refine wpZ_call (i := 4) rfl (by kernel_rfl) rfl (by go_simp) (HC1.out _ HA0.out) ?_
  rintro r y1 ⟨t1, rfl, ht1, b1⟩
  have hz1 : t1.size ≤ 13 := Nat.le_trans (Nat.le_of_eq (size_of ht1)) HU1.out
  have HT1 : Hid (type_of% ht1) := ht1
  have HA1 : Hid (Below wz.heap.size wz y1) := HA0.out.trans (b1.mono HA0.out.size)
  have hs1 : wz.heap.size ≤ y1.heap.size := HA1.out.size
  clear ht1 b1 hHeld
  refine ⟨_, rfl, HKA.out _ HA1.out, fun hHeld => wpZ_put ?_⟩
  refine wpZ_call (i := 8) rfl (by kernel_rfl) rfl (by go_simp) (HC2.out _ HA1.out) ?_
  rintro r y2 ⟨t2, rfl, ht2, b2⟩
  have hz2 : t2.size ≤ 10 := Nat.le_trans (Nat.le_of_eq (size_of ht2)) HU2.out
  have HT2 : Hid (type_of% ht2) := ht2
  have HA2 : Hid (Below wz.heap.size wz y2) := HA1.out.trans (b2.mono HA1.out.size)
  have hs2 : wz.heap.size ≤ y2.heap.size := HA2.out.size
  have hq20 : ¬ 9223372036854775807 < t1.size + t2.size := by omega
  have hq21 : ¬ 9223372036854775807 < v.size + (t1.size + t2.size) := by omega
  clear ht2 b2 hHeld
  refine ⟨_, rfl, HKA.out _ HA2.out, fun hHeld => wpZ_put ?_⟩
  refine wpZ_take (i := 9) (v := _) rfl (by kernel_rfl) (by kernel_rfl) (by kernel_rfl) (by kernel_rfl) (fun _ _ _ h => h) (Or.inl ⟨by rfl, by intro w' hSw; go_simp <;> with_reducible rfl⟩) hHeld ?_
  refine wpZ_take (i := 10) (v := _) rfl (by kernel_rfl) (by kernel_rfl) (by kernel_rfl) (by kernel_rfl) (fun _ _ _ h => h) (Or.inl ⟨by rfl, by intro w' hSw; go_simp <;> with_reducible rfl⟩) hHeld ?_
  refine wpZ_take (i := 11) (v := _) rfl (by kernel_rfl) (by kernel_rfl) (by kernel_rfl) (by kernel_rfl) (fun _ _ _ h => h) (Or.inl ⟨by rfl, by intro w' hSw; go_simp <;> with_reducible rfl⟩) hHeld ?_
  have hcl : y2.cell? ⟨P, 9, none⟩ = some (.string v) := HCV.out _ HA2.out
  have hfl : y2.frozen? ⟨P, 9, none⟩ = false := HFV.out _ HA2.out
  refine wpZ_last rfl (by kernel_rfl) (by kernel_rfl) (by kernel_rfl) rfl (fun K R hK => ?_)
  go_simp
  refine hK.out _ _ ?_
  clear hK K R hHeld
  all_goals
   have HNN : Hid (nums (v ++ (t1 ++ t2)) = ((LL.take j).flatMap (fun d : EleD => tEle d.val)) ++ (tPlace da ++ uB df.n)) := by
    unfold Hid
    rw [nums_append, nums_append, HVN.out, HT1.out, HT2.out]
   obtain ⟨wy, hwy⟩ : ∃ wy, wy = y2.setCell ⟨P, 9, none⟩ (.string (v ++ (t1 ++ t2))) := ⟨_, rfl⟩
   have HSY : Hid (SX wy P (updF (updF (updF (updF (updF (updF (updF (fun _ => []) 1 (LT.flatMap (fun d : SigD => tSig d.val))) 2 (LI.flatMap (fun d : NamD => tImp d.val))) 3 (LF.flatMap (fun d : FunD => uB d.t.toNat))) 10 (LF.flatMap (fun d : FunD => tCode d.cod))) 6 (LG.flatMap (fun d : GloD => tGlo d.val))) 7 (LE.flatMap (fun d : NamD => tExp d.val))) 9 (((LL.take j).flatMap (fun d : EleD => tEle d.val)) ++ (tPlace da ++ uB df.n)))) := by
    unfold Hid
    rw [hwy]
    exact (HSZ.out.under HA2.out hPz).step (by omega) _ HNN.out
   have HBY : Hid (Below P a wy) := by
    unfold Hid
    rw [hwy]
    exact (HBZ.out.trans (HA2.out.mono (by omega))).setCell (p := ⟨P, 9, none⟩) (Nat.le_refl _) _
   have hky := HKS.out _ (.string (v ++ (t1 ++ t2))) HA2.out
   rw [← hwy] at hky
   rw [← hwy]
   obtain ⟨x0, x1⟩ := hky
   clear HSZ HBZ HCV HFV HKP HKS HC1 HU1 HC2 HU2 HA1 HA2 hwy hv0 hf0 hPz hlz z0 z1 hcl hfl hq20 hq21 HKA HA0 hvz HVN HWZ hbz HNN HT1 HT2 hs1 hs2 hz1 hz2
   have hcp := HO1.out.le
   have hmo := HO1.out.most
   unfold maxLen at hmo
   have HLN : Hid (df.xs.length = df.n) := HO1.out.len
   have HAT : Hid (type_of% (HO1.out.at1 (Nat.le_refl _))) := HO1.out.at1 (Nat.le_refl _)
   have HXN : Hid (∀ x ∈ df.xs, 0 ≤ x ∧ x ≤ 4294967295) := HG2.out.2
   have HTE : Hid (((LL.take (j + 1)).flatMap (fun d : EleD => tEle d.val)) = ((LL.take j).flatMap (fun d : EleD => tEle d.val)) ++ (tPlace da ++ uB df.n) ++ df.xs.flatMap (fun n => uB n.toNat)) := by
    unfold Hid
    rw [HT.out]
    simp [tEle, tNs, tList, EleD.val, HLN.out]
   have HOL : Hid (∀ i, (((LL.take j).flatMap (fun d : EleD => tEle d.val)) ++ (tPlace da ++ uB df.n) ++ (df.xs.take i).flatMap (fun n => uB n.toNat)).length ≤ 5000) := fun i => by
    have h1 := flat_take (fun n : Int => uB n.toNat) 10 df.xs i (fun n hn => uB_len10 _ (by have := HXN.out n hn; omega))
    have h2 := HOLDL.out
    have h3 := tPlace_len da (by have := HG1.out; omega) (by have := HG1.out; omega)
    have h4 := uB_len10 df.n (by omega)
    have h5 := HLN.out
    simp only [List.length_append]
    omega
   clear HO1 HG1 HG2 HT HOLDL
   obtain ⟨fo, fn, fk, fx⟩ := df
   dsimp only at *
   go_wp2_with fail
   go_loopw [166] (fun iv wq => ∃ i : Nat, iv = .int .i64 (i : Int) ∧ i ≤ fn ∧ Hid (SX wq P (updF (updF (updF (updF (updF (updF (updF (fun _ => []) 1 (LT.flatMap (fun d : SigD => tSig d.val))) 2 (LI.flatMap (fun d : NamD => tImp d.val))) 3 (LF.flatMap (fun d : FunD => uB d.t.toNat))) 10 (LF.flatMap (fun d : FunD => tCode d.cod))) 6 (LG.flatMap (fun d : GloD => tGlo d.val))) 7 (LE.flatMap (fun d : NamD => tExp d.val))) 9 (((LL.take j).flatMap (fun d : EleD => tEle d.val)) ++ (tPlace da ++ uB fn) ++ (fx.take i).flatMap (fun n => uB n.toNat)))) ∧ Hid (Below P a wq)) (fun iv _ => fn - (intOf iv).toNat)
   case atStart => exact ⟨0, rfl, by omega, by unfold Hid; rw [List.take_zero, List.flatMap_nil, List.append_nil]; exact HSY.out, HBY⟩
   case round =>
    obtain ⟨i, rfl, hi, HS9, HB9⟩ := hrel
    clear HSY HBY x0 x1
    by_cases hl9 : i < fn
    ·have hx9 : i < fx.length := by rw [HLN.out]; exact hl9
     have HT9 : Hid ((fx.take (i + 1)).flatMap (fun n => uB n.toNat) = (fx.take i).flatMap (fun n => uB n.toNat) ++ uB fx[i].toNat) := flat_snoc _ fx i hx9
     have HX9 : Hid (0 ≤ fx[i] ∧ fx[i] ≤ 4294967295) := HXN.out _ (List.getElem_mem hx9)
     obtain ⟨b9, f9, rfl, hb9, hc9⟩ := HAT.out.resolve_left (fun e => by rw [e] at hx9; exact absurd hx9 (by simp))
     have e9 : wr.cell? ⟨b9, f9 + i, none⟩ = some (.int .i64 fx[i]) := by
      rw [(HWB.out _ HB9.out).cell (p := ⟨b9, f9 + i, none⟩) hb9]
      have := hc9 i hx9 0 (by omega)
      rw [Nat.mul_one, Nat.add_zero] at this
      rw [this]
      rfl
     generalize fx[i] = x9 at HT9 e9 HX9
     clear hc9 hx9
     have hq0 : (0 : Int) ≤ (i : Int) := by omega
     have hq1 : (i : Int) < (fn : Int) := by omega
     have hPz : P < wr.heap.size := HS9.out.lt
     have HSZ : Hid (type_of% HS9.out) := HS9.out
     obtain ⟨v, hv0, hvn⟩ := HSZ.out.get 9 (by omega)
     rw [updF_self] at hvn
     have HVN : Hid (type_of% hvn) := hvn
     have hvz : v.size ≤ 5000 := Nat.le_trans (Nat.le_of_eq (size_of hvn)) (HOL.out i)
     have hf0 := HSZ.out.frozen 9
     clear hvn
     have hne : P = P := rfl
     have HCV : Hid (∀ w', Below wr.heap.size wr w' → w'.cell? ⟨P, 9, none⟩ = some (.string v)) := fun w' b => (b.cell (p := ⟨P, 9, none⟩) hPz).trans hv0
     have HFV : Hid (∀ w', Below wr.heap.size wr w' → w'.frozen? ⟨P, 9, none⟩ = false) := fun w' b => (HSZ.out.under b hPz).frozen 9
     have HC1 : Hid (∀ w', Below wr.heap.size wr w' → Calls Tryz.prog 29 #[.int .i64 x9] w' (Txt w' (uB x9.toNat))) := fun w' b => dU x9 HX9.out.1 (by have := HX9.out.2; omega) w'
     have HU1 : Hid ((uB x9.toNat).length ≤ 10) := uB_len10 _ (by have := HX9.out; omega)
     go_wp2_with fail
     have HKA : Hid (∀ w', Below wr.heap.size wr w' → w'.cell? ⟨P, 9, none⟩ = some (.string v)) := fun w' b => HCV.out w' b
     refine wp_region_z (S := fun w' => w'.cell? ⟨P, 9, none⟩ = some (.string v)) (z := 6) (by kernel_rfl) ?_
     have HA0 : Hid (Below wr.heap.size wr (World.drew wr)) := Below.drew (Below.refl _ _)
     have hHeld : (fun w' => w'.cell? ⟨P, 9, none⟩ = some (.string v)) (World.drew wr) := HKA.out _ HA0.out
     refine wpZ_take (i := 0) (v := _) rfl (by kernel_rfl) (by kernel_rfl) (by kernel_rfl) (by kernel_rfl) (fun _ _ _ h => h) (Or.inl ⟨by rfl, by intro w' hSw; go_simp <;> with_reducible rfl⟩) hHeld ?_
     refine wpZ_load (i := 1) [4, 5, 6] (v := _) rfl (by kernel_rfl) (by kernel_rfl) (by kernel_rfl) (by kernel_rfl) (by kernel_rfl) (by kernel_rfl) (fun _ _ _ h => h) (Or.inl ⟨by rfl, by intro w' hSw; (try dsimp only at hSw); go_simp <;> with_reducible rfl⟩) hHeld ?_
     refine wpZ_take (i := 2) (v := _) rfl (by kernel_rfl) (by kernel_rfl) (by kernel_rfl) (by kernel_rfl) (fun _ _ _ h => h) (Or.inl ⟨by rfl, by intro w' hSw; go_simp <;> with_reducible rfl⟩) hHeld ?_
     refine wpZ_call (i := 3) rfl (by kernel_rfl) rfl (by go_simp) (HC1.out _ HA0.out) ?_
     rintro r y1 ⟨t1, rfl, ht1, b1⟩
     have hz1 : t1.size ≤ 10 := Nat.le_trans (Nat.le_of_eq (size_of ht1)) HU1.out
     have HT1 : Hid (type_of% ht1) := ht1
     have HA1 : Hid (Below wr.heap.size wr y1) := HA0.out.trans (b1.mono HA0.out.size)
     have hs1 : wr.heap.size ≤ y1.heap.size := HA1.out.size
     have hq10 : ¬ 9223372036854775807 < v.size + t1.size := by omega
     clear ht1 b1 hHeld
     refine ⟨_, rfl, HKA.out _ HA1.out, fun hHeld => wpZ_put ?_⟩
     refine wpZ_take (i := 4) (v := _) rfl (by kernel_rfl) (by kernel_rfl) (by kernel_rfl) (by kernel_rfl) (fun _ _ _ h => h) (Or.inl ⟨by rfl, by intro w' hSw; go_simp <;> with_reducible rfl⟩) hHeld ?_
     refine wpZ_take (i := 5) (v := _) rfl (by kernel_rfl) (by kernel_rfl) (by kernel_rfl) (by kernel_rfl) (fun _ _ _ h => h) (Or.inl ⟨by rfl, by intro w' hSw; go_simp <;> with_reducible rfl⟩) hHeld ?_
     have hcl : y1.cell? ⟨P, 9, none⟩ = some (.string v) := HCV.out _ HA1.out
     have hfl : y1.frozen? ⟨P, 9, none⟩ = false := HFV.out _ HA1.out
     refine wpZ_last rfl (by kernel_rfl) (by kernel_rfl) (by kernel_rfl) rfl (fun K R hK => ?_)
     go_simp
     refine hK.out _ _ ?_
     clear hK K R hHeld
     all_goals
      have HNN : Hid (nums (v ++ t1) = ((LL.take j).flatMap (fun d : EleD => tEle d.val)) ++ (tPlace da ++ uB fn) ++ (fx.take (i + 1)).flatMap (fun n => uB n.toNat)) := by
       unfold Hid
       rw [nums_append, HVN.out, HT1.out, HT9.out]
       simp only [List.append_assoc]
      have HE1 : Hid (SX (y1.setCell ⟨P, 9, none⟩ (.string (v ++ t1))) P _) := (HSZ.out.under HA1.out hPz).step (by omega) _ HNN.out
      have HE2 : Hid (Below P a (y1.setCell ⟨P, 9, none⟩ (.string (v ++ t1)))) := (HB9.out.trans (HA1.out.mono (by omega))).setCell (p := ⟨P, 9, none⟩) (Nat.le_refl _) _
      go_wp2
      go_roundw
      case rel => exact ⟨i + 1, by go_num, by omega, HE1, HE2⟩
      case measure => simp [intOf]; omega
    ·have HEnd : Hid (SX wr P (updF (updF (updF (updF (updF (updF (updF (fun _ => []) 1 (LT.flatMap (fun d : SigD => tSig d.val))) 2 (LI.flatMap (fun d : NamD => tImp d.val))) 3 (LF.flatMap (fun d : FunD => uB d.t.toNat))) 10 (LF.flatMap (fun d : FunD => tCode d.cod))) 6 (LG.flatMap (fun d : GloD => tGlo d.val))) 7 (LE.flatMap (fun d : NamD => tExp d.val))) 9 ((LL.take (j + 1)).flatMap (fun d : EleD => tEle d.val)))) := by
      have h := HS9.out
      rw [List.take_of_length_le (show fx.length ≤ i by rw [HLN.out]; omega)] at h
      unfold Hid
      rw [HTE.out]
      exact h
     clear HS9
     go_wp2
     go_roundw
     case rel => exact ⟨j + 1, by go_num, by omega, HEnd, HB9⟩
     case measure => simp [intOf]; omega
 have HS : Hid (SX wr P (updF (updF (updF (updF (updF (updF (updF (fun _ => []) 1 (LT.flatMap (fun d : SigD => tSig d.val))) 2 (LI.flatMap (fun d : NamD => tImp d.val))) 3 (LF.flatMap (fun d : FunD => uB d.t.toNat))) 10 (LF.flatMap (fun d : FunD => tCode d.cod))) 6 (LG.flatMap (fun d : GloD => tGlo d.val))) 7 (LE.flatMap (fun d : NamD => tExp d.val))) 9 (LL.flatMap (fun d : EleD => tEle d.val)))) := by
  have h := HS2.out
  rw [List.take_of_length_le (by rw [HLL.out]; omega)] at h
  exact h
 have HB : Hid (type_of% HB2.out) := HB2.out
 clear HS2 HB2
 obtain ⟨c0, c1, c2, c3, c4, c5, c6, c7, c8, c9, c10⟩ := HMC.out _ HB.out
 have HFBL : Hid (∀ k, ((updF (updF (updF (updF (updF (updF (updF (fun _ => []) 1 (LT.flatMap (fun d : SigD => tSig d.val))) 2 (LI.flatMap (fun d : NamD => tImp d.val))) 3 (LF.flatMap (fun d : FunD => uB d.t.toNat))) 10 (LF.flatMap (fun d : FunD => tCode d.cod))) 6 (LG.flatMap (fun d : GloD => tGlo d.val))) 7 (LE.flatMap (fun d : NamD => tExp d.val))) 9 (LL.flatMap (fun d : EleD => tEle d.val))) k).length ≤ 6400000) := updF_len HFBE.out (by have h := flat_le (fun d : EleD => tEle d.val) 1000 LL (fun d hd => tEle_len _ (RL.out.all d hd).1 (GL.out d hd)); rw [HLL.out] at h; omega)
 go_wp2
 go_loopw [181] (fun iv wr => ∃ j : Nat, iv = .int .i64 (j : Int) ∧ j ≤ nD ∧ Hid (SX wr P (updF (updF (updF (updF (updF (updF (updF (updF (fun _ => []) 1 (LT.flatMap (fun d : SigD => tSig d.val))) 2 (LI.flatMap (fun d : NamD => tImp d.val))) 3 (LF.flatMap (fun d : FunD => uB d.t.toNat))) 10 (LF.flatMap (fun d : FunD => tCode d.cod))) 6 (LG.flatMap (fun d : GloD => tGlo d.val))) 7 (LE.flatMap (fun d : NamD => tExp d.val))) 9 (LL.flatMap (fun d : EleD => tEle d.val))) 11 ((LD.take j).flatMap (fun d : DatD => tDat d.val)))) ∧ Hid (Below P a wr)) (fun iv _ => nD - (intOf iv).toNat)
 case atStart => exact ⟨0, rfl, by omega, by unfold Hid; simp only [List.take_zero, List.flatMap_nil]; exact HS.out.start 11 rfl, HB⟩
 obtain ⟨j, rfl, hj, HS2, HB2⟩ := hrel
 clear HS HB c0 c1 c2 c3 c4 c5 c6 c7 c8 c9 c10
 by_cases hlt : j < nD
 ·skip
  have hxx : j < LD.length := by rw [HLD.out]; exact hlt
  have HT : Hid (((LD.take (j + 1)).flatMap (fun d : DatD => tDat d.val)) = ((LD.take j).flatMap (fun d : DatD => tDat d.val)) ++ (fun d : DatD => tDat d.val) LD[j]) := flat_snoc _ LD j hxx
  obtain ⟨b, f, rfl, hbN, hcl⟩ := RD.out.at'.resolve_left (fun e => by rw [e] at hxx; exact absurd hxx (by simp))
  have HC : Hid (∀ r, r < 2 → wr.cell? ⟨b, f + j * 2 + r, none⟩ = (DatD.cells LD[j])[r]?) := fun r hr => by
   rw [(HWB.out _ HB2.out).cell (p := ⟨b, f + j * 2 + r, none⟩) hbN]
   exact hcl j hxx r hr
  have HOK : Hid (LD[j] ∈ LD ∧ DatD.ok w LD[j]) := ⟨List.getElem_mem hxx, RD.out.all _ (List.getElem_mem hxx)⟩
  have HGD : Hid (type_of% (GD.out LD[j] (List.getElem_mem hxx))) := GD.out LD[j] (List.getElem_mem hxx)
  generalize LD[j] = d at HT HC HOK HGD
  obtain ⟨da, ds⟩ := d
  clear hcl hxx
  have hki0 : (0 : Int) ≤ (j : Int) := by omega
  have hki1 : (j : Int) < (nD : Int) := by omega
  have hwz := HB2.out.size
  have HG1 : Hid (-2147483648 ≤ da ∧ da ≤ 2147483647) := sgn32 HGD.out.1
  have hs64 : ds.size ≤ 64 := by have : (nums ds).length ≤ 64 := HGD.out.2.1; rw [nums_length] at this; exact this
  have HOLDD : Hid (((LD.take j).flatMap (fun d : DatD => tDat d.val)).length ≤ 4000) := Nat.le_trans (flat_take _ 1000 LD j (fun d hd => tDat_len _ (RD.out.all d hd).1 (GD.out d hd))) (by rw [HLD.out]; omega)
  clear HOK HGD
  clear RT GT mT cT RI GI mI cI RF GF mF cF RG GG mG cG RE GE mE cE RL GL mL cL HCD
  have e0 : wr.cell? ⟨b, f + j * 2, none⟩ = some (.int .i64 da) := HC.out 0 (by omega)
  have e1 : wr.cell? ⟨b, f + j * 2 + 1, none⟩ = some (.string ds) := HC.out 1 (by omega)
  obtain ⟨wz, hwz1⟩ : ∃ wz, wz = wr.alloc (.cells #[.int .i64 da, .string ds] 70) := ⟨_, rfl⟩
  have HWZ : Hid (type_of% hwz1) := hwz1
  have hbz : Below wr.heap.size wr wz := by rw [hwz1]; exact (Below.refl _ _).alloc (Nat.le_refl _) _
  have hblk : wz.heap[wr.heap.size]? = some (.cells #[.int .i64 da, .string ds] 70 (0, 0)) := by rw [hwz1]; exact new_block _ _
  have HSZ : Hid (SX wz P _) := HS2.out.under hbz HS2.out.lt
  have HBZ : Hid (Below P a wz) := HB2.out.trans (hbz.mono (by omega))
  have hlz : wr.heap.size < wz.heap.size := some_lt hblk
  have hPz : P < wz.heap.size := HSZ.out.lt
  have hne : wr.heap.size ≠ P := by have := HS2.out.lt; omega
  have z0 : wz.cell? ⟨wr.heap.size, 0, none⟩ = some (.int .i64 da) := by simp [World.cell?, hblk]
  have z1 : wz.cell? ⟨wr.heap.size, 1, none⟩ = some (.string ds) := by simp [World.cell?, hblk]
  clear hwz1 hblk HC
  obtain ⟨v, hv0, hvn⟩ := HSZ.out.get 11 (by omega)
  rw [updF_self] at hvn
  have HVN : Hid (type_of% hvn) := hvn
  have hvz : v.size ≤ 4000 := Nat.le_trans (Nat.le_of_eq (size_of hvn)) HOLDD.out
  have hf0 := HSZ.out.frozen 11
  clear hvn
  have HCV : Hid (∀ w', Below wz.heap.size wz w' → w'.cell? ⟨P, 11, none⟩ = some (.string v)) := fun w' b => (b.cell (p := ⟨P, 11, none⟩) hPz).trans hv0
  have HFV : Hid (∀ w', Below wz.heap.size wz w' → w'.frozen? ⟨P, 11, none⟩ = false) := fun w' b => (HSZ.out.under b hPz).frozen 11
  have HKP : Hid (∀ w', Below wz.heap.size wz w' → w'.cell? ⟨wr.heap.size, 0, none⟩ = some (.int .i64 da) ∧ w'.cell? ⟨wr.heap.size, 1, none⟩ = some (.string ds)) := fun w' b => ⟨(b.cell (p := ⟨wr.heap.size, 0, none⟩) hlz).trans z0, (b.cell (p := ⟨wr.heap.size, 1, none⟩) hlz).trans z1⟩
  have HKS : Hid (∀ w' y, Below wz.heap.size wz w' → (w'.setCell ⟨P, 11, none⟩ y).cell? ⟨wr.heap.size, 0, none⟩ = some (.int .i64 da) ∧ (w'.setCell ⟨P, 11, none⟩ y).cell? ⟨wr.heap.size, 1, none⟩ = some (.string ds)) := fun w' y b => by
   have := HKP.out w' b
   simp only [cell_other hne]
   exact this
  have HC1 : Hid (∀ w', Below wz.heap.size wz w' → Calls Tryz.prog 93 #[.int .i64 da] w' (Txt w' (tPlace da))) := fun w' b => dPlace da HG1.out.1 HG1.out.2 w'
  have HU1 : Hid ((tPlace da).length ≤ 13) := tPlace_len da (by have := HG1.out; omega) (by have := HG1.out; omega)
  have HC2 : Hid (∀ w', Below wz.heap.size wz w' → Calls Tryz.prog 29 #[.int .i64 (ds.size : Int)] w' (Txt w' (uB ds.size))) := fun w' b => (by have := dU (ds.size : Int) (by omega) (by omega) w'; rw [Int.toNat_natCast] at this; exact this)
  have HU2 : Hid ((uB ds.size).length ≤ 10) := uB_len10 _ (by omega)
  go_wp2_with fail
  rw [← HWZ.out]
  have HKA : Hid (∀ w', Below wz.heap.size wz w' → w'.cell? ⟨wr.heap.size, 0, none⟩ = some (.int .i64 da) ∧ w'.cell? ⟨wr.heap.size, 1, none⟩ = some (.string ds) ∧ w'.cell? ⟨P, 11, none⟩ = some (.string v)) := fun w' b => ⟨(HKP.out w' b).1, (HKP.out w' b).2, HCV.out w' b⟩
  refine wp_region_z (S := fun w' => w'.cell? ⟨wr.heap.size, 0, none⟩ = some (.int .i64 da) ∧ w'.cell? ⟨wr.heap.size, 1, none⟩ = some (.string ds) ∧ w'.cell? ⟨P, 11, none⟩ = some (.string v)) (z := 15) (by kernel_rfl) ?_
  have HA0 : Hid (Below wz.heap.size wz (World.drew wz)) := Below.drew (Below.refl _ _)
  have hHeld : (fun w' => w'.cell? ⟨wr.heap.size, 0, none⟩ = some (.int .i64 da) ∧ w'.cell? ⟨wr.heap.size, 1, none⟩ = some (.string ds) ∧ w'.cell? ⟨P, 11, none⟩ = some (.string v)) (World.drew wz) := HKA.out _ HA0.out
  refine wpZ_take (i := 0) (v := _) rfl (by kernel_rfl) (by kernel_rfl) (by kernel_rfl) (by kernel_rfl) (fun _ _ _ h => h) (Or.inl ⟨by rfl, by intro w' hSw; go_simp <;> with_reducible rfl⟩) hHeld ?_
  refine wpZ_load (i := 1) [13, 14, 15] (v := _) rfl (by kernel_rfl) (by kernel_rfl) (by kernel_rfl) (by kernel_rfl) (by kernel_rfl) (by kernel_rfl) (fun _ _ _ h => h) (Or.inl ⟨by rfl, by intro w' hSw; (try dsimp only at hSw); go_simp <;> with_reducible rfl⟩) hHeld ?_
  refine wpZ_take (i := 2) (v := _) rfl (by kernel_rfl) (by kernel_rfl) (by kernel_rfl) (by kernel_rfl) (fun _ _ _ h => h) (Or.inl ⟨by rfl, by intro w' hSw; go_simp <;> with_reducible rfl⟩) hHeld ?_
  refine wpZ_load (i := 3) [4, 8, 9, 12, 13, 14, 15] (v := _) rfl (by kernel_rfl) (by kernel_rfl) (by kernel_rfl) (by kernel_rfl) (by kernel_rfl) (by kernel_rfl) (fun _ _ _ h => h) (Or.inl ⟨by rfl, by intro w' hSw; (try dsimp only at hSw); go_simp <;> with_reducible rfl⟩) hHeld ?_
  refine wpZ_take (i := 5) (v := _) rfl (by kernel_rfl) (by kernel_rfl) (by kernel_rfl) (by kernel_rfl) (fun _ _ _ h => h) (Or.inl ⟨by rfl, by intro w' hSw; go_simp <;> with_reducible rfl⟩) hHeld ?_
  refine wpZ_load (i := 6) [7, 8, 9, 12, 13, 14, 15] (v := _) rfl (by kernel_rfl) (by kernel_rfl) (by kernel_rfl) (by kernel_rfl) (by kernel_rfl) (by kernel_rfl) (fun _ _ _ h => h) (Or.inl ⟨by rfl, by intro w' hSw; (try dsimp only at hSw); go_simp <;> with_reducible rfl⟩) hHeld ?_
  refine wpZ_take (i := 7) (v := _) rfl (by kernel_rfl) (by kernel_rfl) (by kernel_rfl) (by kernel_rfl) (fun _ _ _ h => h) (Or.inl ⟨by rfl, by intro w' hSw; go_simp <;> with_reducible rfl⟩) hHeld ?_
  refine wpZ_take (i := 10) (v := _) rfl (by kernel_rfl) (by kernel_rfl) (by kernel_rfl) (by kernel_rfl) (fun _ _ _ h => h) (Or.inl ⟨by rfl, by intro w' hSw; go_simp <;> with_reducible rfl⟩) hHeld ?_
  refine wpZ_load (i := 11) [12, 13, 14, 15] (v := _) rfl (by kernel_rfl) (by kernel_rfl) (by kernel_rfl) (by kernel_rfl) (by kernel_rfl) (by kernel_rfl) (fun _ _ _ h => h) (Or.inl ⟨by rfl, by intro w' hSw; (try dsimp only at hSw); go_simp <;> with_reducible rfl⟩) hHeld ?_
  refine wpZ_call (i := 4) rfl (by kernel_rfl) rfl (by go_simp) (HC1.out _ HA0.out) ?_
  rintro r y1 ⟨t1, rfl, ht1, b1⟩
  have hz1 : t1.size ≤ 13 := Nat.le_trans (Nat.le_of_eq (size_of ht1)) HU1.out
  have HT1 : Hid (type_of% ht1) := ht1
  have HA1 : Hid (Below wz.heap.size wz y1) := HA0.out.trans (b1.mono HA0.out.size)
  have hs1 : wz.heap.size ≤ y1.heap.size := HA1.out.size
  clear ht1 b1 hHeld
  refine ⟨_, rfl, HKA.out _ HA1.out, fun hHeld => wpZ_put ?_⟩
  refine wpZ_call (i := 8) rfl (by kernel_rfl) rfl (by go_simp) (HC2.out _ HA1.out) ?_
  rintro r y2 ⟨t2, rfl, ht2, b2⟩
  have hz2 : t2.size ≤ 10 := Nat.le_trans (Nat.le_of_eq (size_of ht2)) HU2.out
  have HT2 : Hid (type_of% ht2) := ht2
  have HA2 : Hid (Below wz.heap.size wz y2) := HA1.out.trans (b2.mono HA1.out.size)
  have hs2 : wz.heap.size ≤ y2.heap.size := HA2.out.size
  have hq20 : ¬ 9223372036854775807 < t1.size + t2.size := by omega
  have hq21 : ¬ 9223372036854775807 < t1.size + t2.size + ds.size := by omega
  have hq22 : ¬ 9223372036854775807 < v.size + (t1.size + t2.size + ds.size) := by omega
  clear ht2 b2 hHeld
  refine ⟨_, rfl, HKA.out _ HA2.out, fun hHeld => wpZ_put ?_⟩
  refine wpZ_take (i := 9) (v := _) rfl (by kernel_rfl) (by kernel_rfl) (by kernel_rfl) (by kernel_rfl) (fun _ _ _ h => h) (Or.inl ⟨by rfl, by intro w' hSw; go_simp <;> with_reducible rfl⟩) hHeld ?_
  refine wpZ_take (i := 12) (v := _) rfl (by kernel_rfl) (by kernel_rfl) (by kernel_rfl) (by kernel_rfl) (fun _ _ _ h => h) (Or.inl ⟨by rfl, by intro w' hSw; go_simp <;> with_reducible rfl⟩) hHeld ?_
  refine wpZ_take (i := 13) (v := _) rfl (by kernel_rfl) (by kernel_rfl) (by kernel_rfl) (by kernel_rfl) (fun _ _ _ h => h) (Or.inl ⟨by rfl, by intro w' hSw; go_simp <;> with_reducible rfl⟩) hHeld ?_
  refine wpZ_take (i := 14) (v := _) rfl (by kernel_rfl) (by kernel_rfl) (by kernel_rfl) (by kernel_rfl) (fun _ _ _ h => h) (Or.inl ⟨by rfl, by intro w' hSw; go_simp <;> with_reducible rfl⟩) hHeld ?_
  have hcl : y2.cell? ⟨P, 11, none⟩ = some (.string v) := HCV.out _ HA2.out
  have hfl : y2.frozen? ⟨P, 11, none⟩ = false := HFV.out _ HA2.out
  refine wpZ_last rfl (by kernel_rfl) (by kernel_rfl) (by kernel_rfl) rfl (fun K R hK => ?_)
  go_simp
  refine hK.out _ _ ?_
  clear hK K R hHeld
  all_goals
   have HNN : Hid (nums (v ++ (t1 ++ t2 ++ ds)) = ((LD.take (j + 1)).flatMap (fun d : DatD => tDat d.val))) := by
    unfold Hid
    rw [nums_append, nums_append, nums_append, HVN.out, HT1.out, HT2.out, HT.out]
    simp [tDat, tName, nums_length, DatD.val]
   have HE1 : Hid (SX (y2.setCell ⟨P, 11, none⟩ (.string (v ++ (t1 ++ t2 ++ ds)))) P _) := (HSZ.out.under HA2.out hPz).step (by omega) _ HNN.out
   have HE2 : Hid (Below P a (y2.setCell ⟨P, 11, none⟩ (.string (v ++ (t1 ++ t2 ++ ds))))) := (HBZ.out.trans (HA2.out.mono (by omega))).setCell (p := ⟨P, 11, none⟩) (Nat.le_refl _) _
   go_wp2
   go_roundw
   case rel => exact ⟨j + 1, by go_num, by omega, HE1, HE2⟩
   case measure => simp [intOf]; omega
 have HS : Hid (SX wr P (updF (updF (updF (updF (updF (updF (updF (updF (fun _ => []) 1 (LT.flatMap (fun d : SigD => tSig d.val))) 2 (LI.flatMap (fun d : NamD => tImp d.val))) 3 (LF.flatMap (fun d : FunD => uB d.t.toNat))) 10 (LF.flatMap (fun d : FunD => tCode d.cod))) 6 (LG.flatMap (fun d : GloD => tGlo d.val))) 7 (LE.flatMap (fun d : NamD => tExp d.val))) 9 (LL.flatMap (fun d : EleD => tEle d.val))) 11 (LD.flatMap (fun d : DatD => tDat d.val)))) := by
  have h := HS2.out
  rw [List.take_of_length_le (by rw [HLD.out]; omega)] at h
  exact h
 have HB : Hid (type_of% HB2.out) := HB2.out
 clear HS2 HB2
 obtain ⟨c0, c1, c2, c3, c4, c5, c6, c7, c8, c9, c10⟩ := HMC.out _ HB.out
 have HFBD : Hid (∀ k, ((updF (updF (updF (updF (updF (updF (updF (updF (fun _ => []) 1 (LT.flatMap (fun d : SigD => tSig d.val))) 2 (LI.flatMap (fun d : NamD => tImp d.val))) 3 (LF.flatMap (fun d : FunD => uB d.t.toNat))) 10 (LF.flatMap (fun d : FunD => tCode d.cod))) 6 (LG.flatMap (fun d : GloD => tGlo d.val))) 7 (LE.flatMap (fun d : NamD => tExp d.val))) 9 (LL.flatMap (fun d : EleD => tEle d.val))) 11 (LD.flatMap (fun d : DatD => tDat d.val))) k).length ≤ 6400000) := updF_len HFBL.out (by have h := flat_le (fun d : DatD => tDat d.val) 1000 LD (fun d hd => tDat_len _ (RD.out.all d hd).1 (GD.out d hd)); rw [HLD.out] at h; omega)
 obtain ⟨F9, hF9⟩ : ∃ F9 : Nat → List Int, F9 = (updF (updF (updF (updF (updF (updF (updF (updF (fun _ => []) 1 (LT.flatMap (fun d : SigD => tSig d.val))) 2 (LI.flatMap (fun d : NamD => tImp d.val))) 3 (LF.flatMap (fun d : FunD => uB d.t.toNat))) 10 (LF.flatMap (fun d : FunD => tCode d.cod))) 6 (LG.flatMap (fun d : GloD => tGlo d.val))) 7 (LE.flatMap (fun d : NamD => tExp d.val))) 9 (LL.flatMap (fun d : EleD => tEle d.val))) 11 (LD.flatMap (fun d : DatD => tDat d.val))) := ⟨_, rfl⟩
 have HF9 : Hid (type_of% hF9) := hF9
 have HFB : Hid (∀ k, (F9 k).length ≤ 6400000) := by unfold Hid; rw [hF9]; exact HFBD.out
 rw [← hF9] at HS
 obtain ⟨wm, hwm⟩ : ∃ wm, wm = wr.alloc (.cells #[.int .i64 0, .int .i64 (nT : Int), .int .i64 (nI : Int), .int .i64 (nF : Int), .int .i64 0, .int .i64 0, .int .i64 (nG : Int), .int .i64 (nE : Int), .int .i64 0, .int .i64 (nL : Int), .int .i64 (nF : Int), .int .i64 (nD : Int)] 141) := ⟨_, rfl⟩
 have HWM : Hid (type_of% hwm) := hwm
 have hbm : Below wr.heap.size wr wm := by rw [hwm]; exact (Below.refl _ _).alloc (Nat.le_refl _) _
 have HS3 : Hid (SX wm P F9) := HS.out.under hbm HS.out.lt
 have HB3 : Hid (Below P a wm) := HB.out.trans (hbm.mono (by have := HB.out.size; omega))
 obtain ⟨mn, hmn⟩ : ∃ mn : Nat → Nat, mn = (mnOf nT nI nF nG nE nL nD) := ⟨_, rfl⟩
 have HMN : Hid (type_of% hmn) := hmn
 have HMB : Hid (∀ i, mn i ≤ 16) := fun i => by
  rw [hmn]
  unfold mnOf
  split <;> omega
 have HIX : Hid (∀ i, i < 12 → (#[.int .i64 0, .int .i64 (nT : Int), .int .i64 (nI : Int), .int .i64 (nF : Int), .int .i64 0, .int .i64 0, .int .i64 (nG : Int), .int .i64 (nE : Int), .int .i64 0, .int .i64 (nL : Int), .int .i64 (nF : Int), .int .i64 (nD : Int)] : Array Value)[i]? = some (.int .i64 (mn i : Int))) := fun i hi => by
  rw [hmn]
  rcases twelve hi with rfl | rfl | rfl | rfl | rfl | rfl | rfl | rfl | rfl | rfl | rfl | rfl <;> rfl
 clear hF9 hwm hbm hmn HFBT HFBI HFBF HFBG HFBE HFBL HFBD
 clear RT GT mT cT RI GI mI cI RF GF mF cF RG GG mG cG RE GE mE cE RL GL mL cL RD GD mD cD HCD
 go_wp2_with fail
 rw [← HWM.out]
 clear HS HB c0 c1 c2 c3 c4 c5 c6 c7 c8 c9 c10
 obtain ⟨M9, hM9⟩ : ∃ M9 : Array Value, M9 = #[.int .i64 0, .int .i64 (nT : Int), .int .i64 (nI : Int), .int .i64 (nF : Int), .int .i64 0, .int .i64 0, .int .i64 (nG : Int), .int .i64 (nE : Int), .int .i64 0, .int .i64 (nL : Int), .int .i64 (nF : Int), .int .i64 (nD : Int)] := ⟨_, rfl⟩
 rw [← hM9] at HIX
 rw [← hM9]
 clear hM9
 go_loopw [227] (fun iv wq => ∃ i : Nat, iv = .int .i64 (i : Int) ∧ i ≤ 12 ∧ Hid (SX wq P (mny mn F9 i)) ∧ Hid (Below P a wq)) (fun iv _ => 12 - (intOf iv).toNat)
 case atStart => exact ⟨0, rfl, by omega, HS3.out.cong (fun k => by unfold mny; rw [if_neg (by omega)]), HB3⟩
 obtain ⟨i, rfl, hi, HS9, HB9⟩ := hrel
 clear HS3 HB3
 by_cases hl9 : i < 12
 ·skip
  have hix := index12i M9 i hl9 _ (HIX.out i hl9)
  have hq0 : (0 : Int) ≤ (i : Int) := by omega
  have hq1 : (i : Int) < 12 := by omega
  have hm16 := HMB.out i
  by_cases hm0 : mn i = 0
  ·have HEnd : Hid (SX wr P (mny mn F9 (i + 1))) := HS9.out.many0 hm0
   rw [hm0] at hix
   clear HS9
   go_wp2
   go_roundw
   case rel => exact ⟨i + 1, by go_num, by omega, HEnd, HB9⟩
   case measure => simp [intOf]; omega
  ·have hmp : 0 < mn i := by omega
   have HMP : Hid (0 < mn i) := hmp
   generalize hme : mn i = m9 at hix hm16 hm0 hmp
   have HME : Hid (mn i = m9) := hme
   have hmi : (0 : Int) < (m9 : Int) := by omega
   clear hme
   have hPz : P < wr.heap.size := HS9.out.lt
   have HSZ : Hid (type_of% HS9.out) := HS9.out
   obtain ⟨v, hv0, hvn⟩ := HSZ.out.get i hl9
   rw [mny_at] at hvn
   have HVN : Hid (type_of% hvn) := hvn
   have hvz : v.size ≤ 6400000 := Nat.le_trans (Nat.le_of_eq (size_of hvn)) (HFB.out i)
   have hf0 := HSZ.out.frozen i
   clear hvn
   have hne : P = P := rfl
   have HCV : Hid (∀ w', Below wr.heap.size wr w' → w'.cell? ⟨P, i, none⟩ = some (.string v)) := fun w' b => (b.cell (p := ⟨P, i, none⟩) hPz).trans hv0
   have HFV : Hid (∀ w', Below wr.heap.size wr w' → w'.frozen? ⟨P, i, none⟩ = false) := fun w' b => (HSZ.out.under b hPz).frozen i
   have HC1 : Hid (∀ w', Below wr.heap.size wr w' → Calls Tryz.prog 29 #[.int .i64 (m9 : Int)] w' (Txt w' (uB m9))) := fun w' b => (by have := dU (m9 : Int) (by omega) (by omega) w'; rw [Int.toNat_natCast] at this; exact this)
   have HU1 : Hid ((uB m9).length ≤ 10) := uB_len10 _ (by omega)
   go_wp2_with fail
   have HKA : Hid (∀ w', Below wr.heap.size wr w' → w'.cell? ⟨P, i, none⟩ = some (.string v)) := fun w' b => HCV.out w' b
   refine wp_region_z (S := fun w' => w'.cell? ⟨P, i, none⟩ = some (.string v)) (z := 8) (by kernel_rfl) ?_
   have HA0 : Hid (Below wr.heap.size wr (World.drew wr)) := Below.drew (Below.refl _ _)
   have hHeld : (fun w' => w'.cell? ⟨P, i, none⟩ = some (.string v)) (World.drew wr) := HKA.out _ HA0.out
   refine wpZ_take (i := 0) (v := _) rfl (by kernel_rfl) (by kernel_rfl) (by kernel_rfl) (by kernel_rfl) (fun _ _ _ h => h) (Or.inl ⟨by rfl, by intro w' hSw; go_simp <;> with_reducible rfl⟩) hHeld ?_
   refine wpZ_take (i := 1) (v := _) rfl (by kernel_rfl) (by kernel_rfl) (by kernel_rfl) (by kernel_rfl) (fun _ _ _ h => h) (Or.inl ⟨by rfl, by intro w' hSw; go_simp <;> with_reducible rfl⟩) hHeld ?_
   refine wpZ_take (i := 3) (v := _) rfl (by kernel_rfl) (by kernel_rfl) (by kernel_rfl) (by kernel_rfl) (fun _ _ _ h => h) (Or.inl ⟨by rfl, by intro w' hSw; go_simp <;> with_reducible rfl⟩) hHeld ?_
   refine wpZ_take (i := 4) (v := _) rfl (by kernel_rfl) (by kernel_rfl) (by kernel_rfl) (by kernel_rfl) (fun _ _ _ h => h) (Or.inl ⟨by rfl, by intro w' hSw; go_simp <;> with_reducible rfl⟩) hHeld ?_
   refine wpZ_load (i := 5) [6, 7, 8] (v := _) rfl (by kernel_rfl) (by kernel_rfl) (by kernel_rfl) (by kernel_rfl) (by kernel_rfl) (by kernel_rfl) (fun _ _ _ h => h) (Or.inl ⟨by rfl, by intro w' hSw; (try dsimp only at hSw); go_simp <;> with_reducible rfl⟩) hHeld ?_
   refine wpZ_call (i := 2) rfl (by kernel_rfl) rfl (by go_simp) (HC1.out _ HA0.out) ?_
   rintro r y1 ⟨t1, rfl, ht1, b1⟩
   have hz1 : t1.size ≤ 10 := Nat.le_trans (Nat.le_of_eq (size_of ht1)) HU1.out
   have HT1 : Hid (type_of% ht1) := ht1
   have HA1 : Hid (Below wr.heap.size wr y1) := HA0.out.trans (b1.mono HA0.out.size)
   have hs1 : wr.heap.size ≤ y1.heap.size := HA1.out.size
   have hq10 : ¬ 9223372036854775807 < t1.size + v.size := by omega
   clear ht1 b1 hHeld
   refine ⟨_, rfl, HKA.out _ HA1.out, fun hHeld => wpZ_put ?_⟩
   refine wpZ_take (i := 6) (v := _) rfl (by kernel_rfl) (by kernel_rfl) (by kernel_rfl) (by kernel_rfl) (fun _ _ _ h => h) (Or.inl ⟨by rfl, by intro w' hSw; go_simp <;> with_reducible rfl⟩) hHeld ?_
   refine wpZ_take (i := 7) (v := _) rfl (by kernel_rfl) (by kernel_rfl) (by kernel_rfl) (by kernel_rfl) (fun _ _ _ h => h) (Or.inl ⟨by rfl, by intro w' hSw; go_simp <;> with_reducible rfl⟩) hHeld ?_
   have hcl : y1.cell? ⟨P, i, none⟩ = some (.string v) := HCV.out _ HA1.out
   have hfl : y1.frozen? ⟨P, i, none⟩ = false := HFV.out _ HA1.out
   refine wpZ_last rfl (by kernel_rfl) (by kernel_rfl) (by kernel_rfl) rfl (fun K R hK => ?_)
   go_simp
   refine hK.out _ _ ?_
   clear hK K R hHeld
   all_goals
    have HNN : Hid (nums (t1 ++ v) = uB (mn i) ++ F9 i) := by
     unfold Hid
     rw [nums_append, HVN.out, HT1.out, HME.out]
    have HE1 : Hid (SX (y1.setCell ⟨P, i, none⟩ (.string (t1 ++ v))) P (mny mn F9 (i + 1))) := (HSZ.out.under HA1.out hPz).many1 hl9 HMP.out _ HNN.out
    have HE2 : Hid (Below P a (y1.setCell ⟨P, i, none⟩ (.string (t1 ++ v)))) := (HB9.out.trans (HA1.out.mono (by omega))).setCell (p := ⟨P, i, none⟩) (Nat.le_refl _) _
    go_wp2
    go_roundw
    case rel => exact ⟨i + 1, by go_num, by omega, HE1, HE2⟩
    case measure => simp [intOf]; omega
 obtain rfl : i = 12 := by omega
 obtain ⟨c0, c1, c2, c3, c4, c5, c6, c7, c8, c9, c10⟩ := HMC.out _ HB9.out
 clear HIX HMB HFB HWM
 have HS : Hid (type_of% HS9.out) := HS9.out
 have HB : Hid (type_of% HB9.out) := HB9.out
 clear HS9 HB9
 by_cases hif4 : 0 < t
 ·skip
  have hif := hif4
  have hPz : P < wr.heap.size := HS.out.lt
  have HSZ : Hid (type_of% HS.out) := HS.out
  have hMz : w.heap.size < wr.heap.size := by have := HPE.out; omega
  have hne : w.heap.size ≠ P := by have := HPE.out; omega
  have HFV : Hid (∀ w', Below wr.heap.size wr w' → w'.frozen? ⟨P, 4, none⟩ = false) := fun w' b => (HSZ.out.under b hPz).frozen 4
  have HCV : Hid (∃ v, ∀ w', Below wr.heap.size wr w' → w'.cell? ⟨P, 4, none⟩ = some (.string v)) := by
   obtain ⟨v, hv, _⟩ := HSZ.out.get 4 (by omega)
   exact ⟨v, fun w' b => (b.cell (p := ⟨P, 4, none⟩) hPz).trans hv⟩
  obtain ⟨v, hCV⟩ := HCV.out
  clear HCV
  have HCV : Hid (type_of% hCV) := hCV
  clear hCV
  have HKP : Hid (∀ w', Below wr.heap.size wr w' → w'.cell? ⟨w.heap.size, 3, none⟩ = some (.int .i64 t)) := fun w' b => (b.cell (p := ⟨w.heap.size, 3, none⟩) hMz).trans c3
  have HC1 : Hid (∀ w', Below wr.heap.size wr w' → Calls Tryz.prog 29 #[.int .i64 1] w' (Txt w' (uB 1))) := fun w' b => dU 1 (by omega) (by omega) w'
  have HU1 : Hid ((uB 1).length ≤ 10) := uB_len10 _ (by omega)
  have HC2 : Hid (∀ w', Below wr.heap.size wr w' → Calls Tryz.prog 28 #[.int .i64 112] w' (Txt w' ([112]))) := fun w' b => dChr 112 (by omega) (by omega) w'
  have HU2 : Hid (([112]).length ≤ 1) := Nat.le_refl _
  have HC3 : Hid (∀ w', Below wr.heap.size wr w' → Calls Tryz.prog 28 #[.int .i64 0] w' (Txt w' ([0]))) := fun w' b => dChr 0 (by omega) (by omega) w'
  have HU3 : Hid (([0]).length ≤ 1) := Nat.le_refl _
  have HC4 : Hid (∀ w', Below wr.heap.size wr w' → Calls Tryz.prog 29 #[.int .i64 t] w' (Txt w' (uB t.toNat))) := fun w' b => dU t ht.1 (by omega) w'
  have HU4 : Hid ((uB t.toNat).length ≤ 10) := uB_len10 _ (by omega)
  go_wp2_with fail
  have HKA : Hid (∀ w', Below wr.heap.size wr w' → w'.cell? ⟨w.heap.size, 3, none⟩ = some (.int .i64 t) ∧ w'.cell? ⟨P, 4, none⟩ = some (.string v)) := fun w' b => ⟨(HKP.out w' b), HCV.out w' b⟩
  refine wp_region_z (S := fun w' => w'.cell? ⟨w.heap.size, 3, none⟩ = some (.int .i64 t) ∧ w'.cell? ⟨P, 4, none⟩ = some (.string v)) (z := 10) (by kernel_rfl) ?_
  have HA0 : Hid (Below wr.heap.size wr (World.drew wr)) := Below.drew (Below.refl _ _)
  have hHeld : (fun w' => w'.cell? ⟨w.heap.size, 3, none⟩ = some (.int .i64 t) ∧ w'.cell? ⟨P, 4, none⟩ = some (.string v)) (World.drew wr) := HKA.out _ HA0.out
  refine wpZ_take (i := 5) (v := _) rfl (by kernel_rfl) (by kernel_rfl) (by kernel_rfl) (by kernel_rfl) (fun _ _ _ h => h) (Or.inl ⟨by rfl, by intro w' hSw; go_simp <;> with_reducible rfl⟩) hHeld ?_
  refine wpZ_load (i := 6) [7, 8, 9, 10] (v := _) rfl (by kernel_rfl) (by kernel_rfl) (by kernel_rfl) (by kernel_rfl) (by kernel_rfl) (by kernel_rfl) (fun _ _ _ h => h) (Or.inl ⟨by rfl, by intro w' hSw; (try dsimp only at hSw); go_simp <;> with_reducible rfl⟩) hHeld ?_
  refine wpZ_call (i := 0) rfl (by kernel_rfl) rfl (by go_simp) (HC1.out _ HA0.out) ?_
  rintro r y1 ⟨t1, rfl, ht1, b1⟩
  have hz1 : t1.size ≤ 10 := Nat.le_trans (Nat.le_of_eq (size_of ht1)) HU1.out
  have HT1 : Hid (type_of% ht1) := ht1
  have HA1 : Hid (Below wr.heap.size wr y1) := HA0.out.trans (b1.mono HA0.out.size)
  have hs1 : wr.heap.size ≤ y1.heap.size := HA1.out.size
  clear ht1 b1 hHeld
  refine ⟨_, rfl, HKA.out _ HA1.out, fun hHeld => wpZ_put ?_⟩
  refine wpZ_call (i := 1) rfl (by kernel_rfl) rfl (by go_simp) (HC2.out _ HA1.out) ?_
  rintro r y2 ⟨t2, rfl, ht2, b2⟩
  have hz2 : t2.size ≤ 1 := Nat.le_trans (Nat.le_of_eq (size_of ht2)) HU2.out
  have HT2 : Hid (type_of% ht2) := ht2
  have HA2 : Hid (Below wr.heap.size wr y2) := HA1.out.trans (b2.mono HA1.out.size)
  have hs2 : wr.heap.size ≤ y2.heap.size := HA2.out.size
  have hq20 : ¬ 9223372036854775807 < t1.size + t2.size := by omega
  clear ht2 b2 hHeld
  refine ⟨_, rfl, HKA.out _ HA2.out, fun hHeld => wpZ_put ?_⟩
  refine wpZ_take (i := 2) (v := _) rfl (by kernel_rfl) (by kernel_rfl) (by kernel_rfl) (by kernel_rfl) (fun _ _ _ h => h) (Or.inl ⟨by rfl, by intro w' hSw; go_simp <;> with_reducible rfl⟩) hHeld ?_
  refine wpZ_call (i := 3) rfl (by kernel_rfl) rfl (by go_simp) (HC3.out _ HA2.out) ?_
  rintro r y3 ⟨t3, rfl, ht3, b3⟩
  have hz3 : t3.size ≤ 1 := Nat.le_trans (Nat.le_of_eq (size_of ht3)) HU3.out
  have HT3 : Hid (type_of% ht3) := ht3
  have HA3 : Hid (Below wr.heap.size wr y3) := HA2.out.trans (b3.mono HA2.out.size)
  have hs3 : wr.heap.size ≤ y3.heap.size := HA3.out.size
  have hq30 : ¬ 9223372036854775807 < t1.size + t2.size + t3.size := by omega
  clear ht3 b3 hHeld
  refine ⟨_, rfl, HKA.out _ HA3.out, fun hHeld => wpZ_put ?_⟩
  refine wpZ_take (i := 4) (v := _) rfl (by kernel_rfl) (by kernel_rfl) (by kernel_rfl) (by kernel_rfl) (fun _ _ _ h => h) (Or.inl ⟨by rfl, by intro w' hSw; go_simp <;> with_reducible rfl⟩) hHeld ?_
  refine wpZ_call (i := 7) rfl (by kernel_rfl) rfl (by go_simp) (HC4.out _ HA3.out) ?_
  rintro r y4 ⟨t4, rfl, ht4, b4⟩
  have hz4 : t4.size ≤ 10 := Nat.le_trans (Nat.le_of_eq (size_of ht4)) HU4.out
  have HT4 : Hid (type_of% ht4) := ht4
  have HA4 : Hid (Below wr.heap.size wr y4) := HA3.out.trans (b4.mono HA3.out.size)
  have hs4 : wr.heap.size ≤ y4.heap.size := HA4.out.size
  have hq40 : ¬ 9223372036854775807 < t1.size + t2.size + t3.size + t4.size := by omega
  clear ht4 b4 hHeld
  refine ⟨_, rfl, HKA.out _ HA4.out, fun hHeld => wpZ_put ?_⟩
  refine wpZ_take (i := 8) (v := _) rfl (by kernel_rfl) (by kernel_rfl) (by kernel_rfl) (by kernel_rfl) (fun _ _ _ h => h) (Or.inl ⟨by rfl, by intro w' hSw; go_simp <;> with_reducible rfl⟩) hHeld ?_
  refine wpZ_take (i := 9) (v := _) rfl (by kernel_rfl) (by kernel_rfl) (by kernel_rfl) (by kernel_rfl) (fun _ _ _ h => h) (Or.inl ⟨by rfl, by intro w' hSw; go_simp <;> with_reducible rfl⟩) hHeld ?_
  have hcl : y4.cell? ⟨P, 4, none⟩ = some (.string v) := HCV.out _ HA4.out
  have hfl : y4.frozen? ⟨P, 4, none⟩ = false := HFV.out _ HA4.out
  refine wpZ_last rfl (by kernel_rfl) (by kernel_rfl) (by kernel_rfl) rfl (fun K R hK => ?_)
  go_simp
  refine hK.out _ _ ?_
  clear hK K R hHeld
  have HNN : Hid (nums (t1 ++ t2 ++ t3 ++ t4) = uB 1 ++ [112] ++ [0] ++ uB t.toNat) := by
   unfold Hid
   rw [nums_append, nums_append, nums_append, HT1.out, HT2.out, HT3.out, HT4.out]
  have HE1 : Hid (SX (y4.setCell ⟨P, 4, none⟩ (.string (t1 ++ t2 ++ t3 ++ t4))) P (updF (mny mn F9 12) 4 (if 0 < t then uB 1 ++ [112] ++ [0] ++ uB t.toNat else []))) := (HSZ.out.under HA4.out hPz).set 4 (by omega) _ (HNN.out.trans (if_pos hif).symm)
  have HE2 : Hid (Below P a (y4.setCell ⟨P, 4, none⟩ (.string (t1 ++ t2 ++ t3 ++ t4)))) := (HB.out.trans (HA4.out.mono (by have := HB.out.size; omega))).setCell (p := ⟨P, 4, none⟩) (Nat.le_refl _) _
  clear HC1 HU1 HT1 HA1 hs1 hz1 HC2 HU2 HT2 HA2 hs2 hz2 HC3 HU3 HT3 HA3 hs3 hz3 HC4 HU4 HT4 HA4 hs4 hz4 hcl hfl HA0 HKA HKP HCV HFV HSZ hPz hMz hne HNN HS HB c0 c1 c2 c3 c4 c5 c6 c7 c8 c9 c10
  obtain ⟨wv, hwv⟩ : ∃ wv, wv = y4.setCell ⟨P, 4, none⟩ (.string (t1 ++ t2 ++ t3 ++ t4)) := ⟨_, rfl⟩
  rw [← hwv] at HE1 HE2
  rw [← hwv]
  clear hwv
  clear hq20
  clear hq30
  clear hq40
  obtain ⟨wr, hwv⟩ : ∃ wr, wr = wv := ⟨_, rfl⟩
  rw [← hwv] at HE1 HE2
  rw [← hwv]
  clear hwv
  have HS : Hid (type_of% HE1.out) := HE1.out
  have HB : Hid (type_of% HE2.out) := HE2.out
  clear HE1 HE2
  obtain ⟨c0, c1, c2, c3, c4, c5, c6, c7, c8, c9, c10⟩ := HMC.out _ HB.out
  clear hif
  by_cases hif5 : 0 < q
  ·skip
   have hif := hif5
   have hPz : P < wr.heap.size := HS.out.lt
   have HSZ : Hid (type_of% HS.out) := HS.out
   have hMz : w.heap.size < wr.heap.size := by have := HPE.out; omega
   have hne : w.heap.size ≠ P := by have := HPE.out; omega
   have HFV : Hid (∀ w', Below wr.heap.size wr w' → w'.frozen? ⟨P, 5, none⟩ = false) := fun w' b => (HSZ.out.under b hPz).frozen 5
   have HCV : Hid (∃ v, ∀ w', Below wr.heap.size wr w' → w'.cell? ⟨P, 5, none⟩ = some (.string v)) := by
    obtain ⟨v, hv, _⟩ := HSZ.out.get 5 (by omega)
    exact ⟨v, fun w' b => (b.cell (p := ⟨P, 5, none⟩) hPz).trans hv⟩
   obtain ⟨v, hCV⟩ := HCV.out
   clear HCV
   have HCV : Hid (type_of% hCV) := hCV
   clear hCV
   have HKP : Hid (∀ w', Below wr.heap.size wr w' → w'.cell? ⟨w.heap.size, 4, none⟩ = some (.int .i64 p) ∧ w'.cell? ⟨w.heap.size, 5, none⟩ = some (.int .i64 q)) := fun w' b => ⟨(b.cell (p := ⟨w.heap.size, 4, none⟩) hMz).trans c4, (b.cell (p := ⟨w.heap.size, 5, none⟩) hMz).trans c5⟩
   have HC1 : Hid (∀ w', Below wr.heap.size wr w' → Calls Tryz.prog 29 #[.int .i64 1] w' (Txt w' (uB 1))) := fun w' b => dU 1 (by omega) (by omega) w'
   have HU1 : Hid ((uB 1).length ≤ 10) := uB_len10 _ (by omega)
   have HC2 : Hid (∀ w', Below wr.heap.size wr w' → Calls Tryz.prog 28 #[.int .i64 1] w' (Txt w' ([1]))) := fun w' b => dChr 1 (by omega) (by omega) w'
   have HU2 : Hid (([1]).length ≤ 1) := Nat.le_refl _
   have HC3 : Hid (∀ w', Below wr.heap.size wr w' → Calls Tryz.prog 29 #[.int .i64 p] w' (Txt w' (uB p.toNat))) := fun w' b => dU p hp.1 (by omega) w'
   have HU3 : Hid ((uB p.toNat).length ≤ 10) := uB_len10 _ (by omega)
   have HC4 : Hid (∀ w', Below wr.heap.size wr w' → Calls Tryz.prog 29 #[.int .i64 q] w' (Txt w' (uB q.toNat))) := fun w' b => dU q hq.1 (by omega) w'
   have HU4 : Hid ((uB q.toNat).length ≤ 10) := uB_len10 _ (by omega)
   go_wp2_with fail
   have HKA : Hid (∀ w', Below wr.heap.size wr w' → w'.cell? ⟨w.heap.size, 4, none⟩ = some (.int .i64 p) ∧ w'.cell? ⟨w.heap.size, 5, none⟩ = some (.int .i64 q) ∧ w'.cell? ⟨P, 5, none⟩ = some (.string v)) := fun w' b => ⟨(HKP.out w' b).1, (HKP.out w' b).2, HCV.out w' b⟩
   refine wp_region_z (S := fun w' => w'.cell? ⟨w.heap.size, 4, none⟩ = some (.int .i64 p) ∧ w'.cell? ⟨w.heap.size, 5, none⟩ = some (.int .i64 q) ∧ w'.cell? ⟨P, 5, none⟩ = some (.string v)) (z := 12) (by kernel_rfl) ?_
   have HA0 : Hid (Below wr.heap.size wr (World.drew wr)) := Below.drew (Below.refl _ _)
   have hHeld : (fun w' => w'.cell? ⟨w.heap.size, 4, none⟩ = some (.int .i64 p) ∧ w'.cell? ⟨w.heap.size, 5, none⟩ = some (.int .i64 q) ∧ w'.cell? ⟨P, 5, none⟩ = some (.string v)) (World.drew wr) := HKA.out _ HA0.out
   refine wpZ_take (i := 3) (v := _) rfl (by kernel_rfl) (by kernel_rfl) (by kernel_rfl) (by kernel_rfl) (fun _ _ _ h => h) (Or.inl ⟨by rfl, by intro w' hSw; go_simp <;> with_reducible rfl⟩) hHeld ?_
   refine wpZ_load (i := 4) [5, 6, 9, 10, 11, 12] (v := _) rfl (by kernel_rfl) (by kernel_rfl) (by kernel_rfl) (by kernel_rfl) (by kernel_rfl) (by kernel_rfl) (fun _ _ _ h => h) (Or.inl ⟨by rfl, by intro w' hSw; (try dsimp only at hSw); go_simp <;> with_reducible rfl⟩) hHeld ?_
   refine wpZ_take (i := 7) (v := _) rfl (by kernel_rfl) (by kernel_rfl) (by kernel_rfl) (by kernel_rfl) (fun _ _ _ h => h) (Or.inl ⟨by rfl, by intro w' hSw; go_simp <;> with_reducible rfl⟩) hHeld ?_
   refine wpZ_load (i := 8) [9, 10, 11, 12] (v := _) rfl (by kernel_rfl) (by kernel_rfl) (by kernel_rfl) (by kernel_rfl) (by kernel_rfl) (by kernel_rfl) (fun _ _ _ h => h) (Or.inl ⟨by rfl, by intro w' hSw; (try dsimp only at hSw); go_simp <;> with_reducible rfl⟩) hHeld ?_
   refine wpZ_call (i := 0) rfl (by kernel_rfl) rfl (by go_simp) (HC1.out _ HA0.out) ?_
   rintro r y1 ⟨t1, rfl, ht1, b1⟩
   have hz1 : t1.size ≤ 10 := Nat.le_trans (Nat.le_of_eq (size_of ht1)) HU1.out
   have HT1 : Hid (type_of% ht1) := ht1
   have HA1 : Hid (Below wr.heap.size wr y1) := HA0.out.trans (b1.mono HA0.out.size)
   have hs1 : wr.heap.size ≤ y1.heap.size := HA1.out.size
   clear ht1 b1 hHeld
   refine ⟨_, rfl, HKA.out _ HA1.out, fun hHeld => wpZ_put ?_⟩
   refine wpZ_call (i := 1) rfl (by kernel_rfl) rfl (by go_simp) (HC2.out _ HA1.out) ?_
   rintro r y2 ⟨t2, rfl, ht2, b2⟩
   have hz2 : t2.size ≤ 1 := Nat.le_trans (Nat.le_of_eq (size_of ht2)) HU2.out
   have HT2 : Hid (type_of% ht2) := ht2
   have HA2 : Hid (Below wr.heap.size wr y2) := HA1.out.trans (b2.mono HA1.out.size)
   have hs2 : wr.heap.size ≤ y2.heap.size := HA2.out.size
   have hq20 : ¬ 9223372036854775807 < t1.size + t2.size := by omega
   clear ht2 b2 hHeld
   refine ⟨_, rfl, HKA.out _ HA2.out, fun hHeld => wpZ_put ?_⟩
   refine wpZ_take (i := 2) (v := _) rfl (by kernel_rfl) (by kernel_rfl) (by kernel_rfl) (by kernel_rfl) (fun _ _ _ h => h) (Or.inl ⟨by rfl, by intro w' hSw; go_simp <;> with_reducible rfl⟩) hHeld ?_
   refine wpZ_call (i := 5) rfl (by kernel_rfl) rfl (by go_simp) (HC3.out _ HA2.out) ?_
   rintro r y3 ⟨t3, rfl, ht3, b3⟩
   have hz3 : t3.size ≤ 10 := Nat.le_trans (Nat.le_of_eq (size_of ht3)) HU3.out
   have HT3 : Hid (type_of% ht3) := ht3
   have HA3 : Hid (Below wr.heap.size wr y3) := HA2.out.trans (b3.mono HA2.out.size)
   have hs3 : wr.heap.size ≤ y3.heap.size := HA3.out.size
   have hq30 : ¬ 9223372036854775807 < t1.size + t2.size + t3.size := by omega
   clear ht3 b3 hHeld
   refine ⟨_, rfl, HKA.out _ HA3.out, fun hHeld => wpZ_put ?_⟩
   refine wpZ_take (i := 6) (v := _) rfl (by kernel_rfl) (by kernel_rfl) (by kernel_rfl) (by kernel_rfl) (fun _ _ _ h => h) (Or.inl ⟨by rfl, by intro w' hSw; go_simp <;> with_reducible rfl⟩) hHeld ?_
   refine wpZ_call (i := 9) rfl (by kernel_rfl) rfl (by go_simp) (HC4.out _ HA3.out) ?_
   rintro r y4 ⟨t4, rfl, ht4, b4⟩
   have hz4 : t4.size ≤ 10 := Nat.le_trans (Nat.le_of_eq (size_of ht4)) HU4.out
   have HT4 : Hid (type_of% ht4) := ht4
   have HA4 : Hid (Below wr.heap.size wr y4) := HA3.out.trans (b4.mono HA3.out.size)
   have hs4 : wr.heap.size ≤ y4.heap.size := HA4.out.size
   have hq40 : ¬ 9223372036854775807 < t1.size + t2.size + t3.size + t4.size := by omega
   clear ht4 b4 hHeld
   refine ⟨_, rfl, HKA.out _ HA4.out, fun hHeld => wpZ_put ?_⟩
   refine wpZ_take (i := 10) (v := _) rfl (by kernel_rfl) (by kernel_rfl) (by kernel_rfl) (by kernel_rfl) (fun _ _ _ h => h) (Or.inl ⟨by rfl, by intro w' hSw; go_simp <;> with_reducible rfl⟩) hHeld ?_
   refine wpZ_take (i := 11) (v := _) rfl (by kernel_rfl) (by kernel_rfl) (by kernel_rfl) (by kernel_rfl) (fun _ _ _ h => h) (Or.inl ⟨by rfl, by intro w' hSw; go_simp <;> with_reducible rfl⟩) hHeld ?_
   have hcl : y4.cell? ⟨P, 5, none⟩ = some (.string v) := HCV.out _ HA4.out
   have hfl : y4.frozen? ⟨P, 5, none⟩ = false := HFV.out _ HA4.out
   refine wpZ_last rfl (by kernel_rfl) (by kernel_rfl) (by kernel_rfl) rfl (fun K R hK => ?_)
   go_simp
   refine hK.out _ _ ?_
   clear hK K R hHeld
   have HNN : Hid (nums (t1 ++ t2 ++ t3 ++ t4) = uB 1 ++ [1] ++ uB p.toNat ++ uB q.toNat) := by
    unfold Hid
    rw [nums_append, nums_append, nums_append, HT1.out, HT2.out, HT3.out, HT4.out]
   have HE1 : Hid (SX (y4.setCell ⟨P, 5, none⟩ (.string (t1 ++ t2 ++ t3 ++ t4))) P (updF (updF (mny mn F9 12) 4 (if 0 < t then uB 1 ++ [112] ++ [0] ++ uB t.toNat else [])) 5 (if 0 < q then uB 1 ++ [1] ++ uB p.toNat ++ uB q.toNat else []))) := (HSZ.out.under HA4.out hPz).set 5 (by omega) _ (HNN.out.trans (if_pos hif).symm)
   have HE2 : Hid (Below P a (y4.setCell ⟨P, 5, none⟩ (.string (t1 ++ t2 ++ t3 ++ t4)))) := (HB.out.trans (HA4.out.mono (by have := HB.out.size; omega))).setCell (p := ⟨P, 5, none⟩) (Nat.le_refl _) _
   clear HC1 HU1 HT1 HA1 hs1 hz1 HC2 HU2 HT2 HA2 hs2 hz2 HC3 HU3 HT3 HA3 hs3 hz3 HC4 HU4 HT4 HA4 hs4 hz4 hcl hfl HA0 HKA HKP HCV HFV HSZ hPz hMz hne HNN HS HB c0 c1 c2 c3 c4 c5 c6 c7 c8 c9 c10
   obtain ⟨wv, hwv⟩ : ∃ wv, wv = y4.setCell ⟨P, 5, none⟩ (.string (t1 ++ t2 ++ t3 ++ t4)) := ⟨_, rfl⟩
   rw [← hwv] at HE1 HE2
   rw [← hwv]
   clear hwv
   clear hq20
   clear hq30
   clear hq40
   obtain ⟨wr, hwv⟩ : ∃ wr, wr = wv := ⟨_, rfl⟩
   rw [← hwv] at HE1 HE2
   rw [← hwv]
   clear hwv
   have HS : Hid (type_of% HE1.out) := HE1.out
   have HB : Hid (type_of% HE2.out) := HE2.out
   clear HE1 HE2
   obtain ⟨c0, c1, c2, c3, c4, c5, c6, c7, c8, c9, c10⟩ := HMC.out _ HB.out
   clear hif
   by_cases hif8 : 0 < s
   ·skip
    have hif := hif8
    have HC1 : Hid (Calls Tryz.prog 29 #[.int .i64 (s - 1)] wr (Txt wr (uB (s - 1).toNat))) := dU (s - 1) (by omega) (by omega) wr
    go_wp2_with fail
    refine HC1.out.mono ?_
    rintro r y1 ⟨t1, rfl, ht1, b1⟩
    have HA1 : Hid (Below wr.heap.size wr y1) := b1
    have HNN : Hid (nums t1 = uB (s - 1).toNat) := ht1
    have hf1 : y1.frozen? ⟨P, 8, none⟩ = false := (HS.out.under b1 HS.out.lt).frozen 8
    obtain ⟨v, hv, _⟩ := (HS.out.under b1 HS.out.lt).get 8 (by omega)
    have HE1 : Hid (SX (y1.setCell ⟨P, 8, none⟩ (.string t1)) P (updF (updF (updF (mny mn F9 12) 4 (if 0 < t then uB 1 ++ [112] ++ [0] ++ uB t.toNat else [])) 5 (if 0 < q then uB 1 ++ [1] ++ uB p.toNat ++ uB q.toNat else [])) 8 (if 0 < s then uB (s - 1).toNat else []))) := (HS.out.under b1 HS.out.lt).set 8 (by omega) _ (HNN.out.trans (if_pos hif).symm)
    have HE2 : Hid (Below P a (y1.setCell ⟨P, 8, none⟩ (.string t1))) := (HB.out.trans (b1.mono (by have := HB.out.size; omega))).setCell (p := ⟨P, 8, none⟩) (Nat.le_refl _) _
    clear ht1 b1 HC1 HS HB HA1 HNN c0 c1 c2 c3 c4 c5 c6 c7 c8 c9 c10
    go_upto_region 61 with fail
    obtain ⟨wv, hwv⟩ : ∃ wv, wv = y1.setCell ⟨P, 8, none⟩ (.string t1) := ⟨_, rfl⟩
    rw [← hwv] at HE1 HE2
    rw [← hwv]
    clear hwv hf1 hv
    obtain ⟨wr, hwv⟩ : ∃ wr, wr = wv := ⟨_, rfl⟩
    rw [← hwv] at HE1 HE2
    rw [← hwv]
    clear hwv
    have HS : Hid (type_of% HE1.out) := HE1.out
    have HB : Hid (type_of% HE2.out) := HE2.out
    clear HE1 HE2
    obtain ⟨c0, c1, c2, c3, c4, c5, c6, c7, c8, c9, c10⟩ := HMC.out _ HB.out
    clear hif
    obtain ⟨S, hOB, hSF⟩ := HS.out
    have HSF : Hid (∀ k, nums (S k) = (updF (updF (updF (mny mn F9 12) 4 (if 0 < t then uB 1 ++ [112] ++ [0] ++ uB t.toNat else [])) 5 (if 0 < q then uB 1 ++ [1] ++ uB p.toNat ++ uB q.toNat else [])) 8 (if 0 < s then uB (s - 1).toNat else [])) k) := hSF
    obtain ⟨C, hC⟩ : ∃ C : Array Value, C = #[.string (S 0), .string (S 1), .string (S 2), .string (S 3), .string (S 4), .string (S 5), .string (S 6), .string (S 7), .string (S 8), .string (S 9), .string (S 10), .string (S 11)] := ⟨_, rfl⟩
    have HCd : Hid (C = #[.string (S 0), .string (S 1), .string (S 2), .string (S 3), .string (S 4), .string (S 5), .string (S 6), .string (S 7), .string (S 8), .string (S 9), .string (S 10), .string (S 11)]) := hC
    have HOBl : Hid (wr.heap[P]? = some (.cells C 73 (0, 0))) := by unfold Hid; rw [hC]; exact hOB
    have HI : Hid ((Tryz.prog.info? 73).map (·.size) = some C.size) := by unfold Hid; rw [hC]; kernel_rfl
    have HC1 : Hid (C.all (·.oneCell') = true) := by unfold Hid; rw [hC]; simp [Value.oneCell']
    have HS5 : Hid ((#[.string ⟨#[]⟩, .string ⟨#[]⟩, .string ⟨#[]⟩, .string ⟨#[]⟩, .string ⟨#[]⟩, .string ⟨#[]⟩, .string ⟨#[]⟩, .string ⟨#[]⟩, .string ⟨#[]⟩, .string ⟨#[]⟩, .string ⟨#[]⟩, .string ⟨#[]⟩] : Array Value).size = C.size) := by unfold Hid; rw [hC]; rfl
    have HRB : Hid (wr.heap[w.heap.size + 1]? = some (.cells #[.string ⟨#[]⟩, .string ⟨#[]⟩, .string ⟨#[]⟩, .string ⟨#[]⟩, .string ⟨#[]⟩, .string ⟨#[]⟩, .string ⟨#[]⟩, .string ⟨#[]⟩, .string ⟨#[]⟩, .string ⟨#[]⟩, .string ⟨#[]⟩, .string ⟨#[]⟩] 73 (0, 0))) := HRC.out _ HB.out
    have HRW : Hid ((wr.setRow (w.heap.size + 1) C).heap[w.heap.size + 1]? = some (.cells C 73 (0, 0))) := setRow_heap wr (w.heap.size + 1) _ C _ _ HRB.out
    have hcq : Chg (w.heap.size + 1) wr (wr.setRow (w.heap.size + 1) C) := ⟨rfl, rfl, rfl, by simp [World.setRow], fun j _ hj => setRow_other wr (w.heap.size + 1) j C hj⟩
    have HBF : Hid (Below w.heap.size w (wr.setRow (w.heap.size + 1) C)) := (HWB.out _ HB.out).trans (hcq.below (by omega) (HWB.out _ HB.out).size)
    clear hOB hSF hC hcq HS
    go_wp2_with (first | refine wpList_load_row rfl 73 (.tmp 3) rfl P rfl 73 C (0, 0) _ HOBl.out Tryz.underlying73 rfl HI.out ?_ | refine wpList_store_row rfl 73 (.tmp 2) (.tmp 278) rfl (w.heap.size + 1) C rfl rfl 73 _ HRB.out HI.out HS5.out HC1.out ?_)
    refine ⟨rfl, .agg C, one_result _ _ (w.heap.size + 1) C rfl HRW.out HI.out, S, by rw [HCd.out], fun k hk => ?_, HBF.out⟩
    rw [HSF.out]
    by_cases k4 : k = 4
    ·subst k4
     rw [sec4 LT LI LF LG LE LL LD t p q s ht.1]
     rfl
    by_cases k5 : k = 5
    ·subst k5
     rw [sec5 LT LI LF LG LE LL LD t p q s hq.1]
     rfl
    by_cases k8 : k = 8
    ·subst k8
     rw [sec8 LT LI LF LG LE LL LD t p q s hs.1]
     rfl
    have h := secs_eq LT LI LF LG LE LL LD nT nI nF nG nE nL nD t p q s F9 HF9.out HLT.out HLI.out HLF.out HLG.out HLE.out HLL.out HLD.out k hk k4 k5 k8
    rw [← HMN.out] at h
    unfold updF
    rw [if_neg k8, if_neg k5, if_neg k4]
    exact h
   have HE1 : Hid (SX wr P (updF (updF (updF (mny mn F9 12) 4 (if 0 < t then uB 1 ++ [112] ++ [0] ++ uB t.toNat else [])) 5 (if 0 < q then uB 1 ++ [1] ++ uB p.toNat ++ uB q.toNat else [])) 8 (if 0 < s then uB (s - 1).toNat else []))) := by
    unfold Hid
    rw [if_neg hif8]
    exact HS.out.start 8 (by have h := secs_nil LT LI LF LG LE LL LD nT nI nF nG nE nL nD F9 HF9.out 8 (by omega); rw [← HMN.out] at h; exact h)
   clear HS
   have HS : Hid (type_of% HE1.out) := HE1.out
   clear HE1
   obtain ⟨S, hOB, hSF⟩ := HS.out
   have HSF : Hid (∀ k, nums (S k) = (updF (updF (updF (mny mn F9 12) 4 (if 0 < t then uB 1 ++ [112] ++ [0] ++ uB t.toNat else [])) 5 (if 0 < q then uB 1 ++ [1] ++ uB p.toNat ++ uB q.toNat else [])) 8 (if 0 < s then uB (s - 1).toNat else [])) k) := hSF
   obtain ⟨C, hC⟩ : ∃ C : Array Value, C = #[.string (S 0), .string (S 1), .string (S 2), .string (S 3), .string (S 4), .string (S 5), .string (S 6), .string (S 7), .string (S 8), .string (S 9), .string (S 10), .string (S 11)] := ⟨_, rfl⟩
   have HCd : Hid (C = #[.string (S 0), .string (S 1), .string (S 2), .string (S 3), .string (S 4), .string (S 5), .string (S 6), .string (S 7), .string (S 8), .string (S 9), .string (S 10), .string (S 11)]) := hC
   have HOBl : Hid (wr.heap[P]? = some (.cells C 73 (0, 0))) := by unfold Hid; rw [hC]; exact hOB
   have HI : Hid ((Tryz.prog.info? 73).map (·.size) = some C.size) := by unfold Hid; rw [hC]; kernel_rfl
   have HC1 : Hid (C.all (·.oneCell') = true) := by unfold Hid; rw [hC]; simp [Value.oneCell']
   have HS5 : Hid ((#[.string ⟨#[]⟩, .string ⟨#[]⟩, .string ⟨#[]⟩, .string ⟨#[]⟩, .string ⟨#[]⟩, .string ⟨#[]⟩, .string ⟨#[]⟩, .string ⟨#[]⟩, .string ⟨#[]⟩, .string ⟨#[]⟩, .string ⟨#[]⟩, .string ⟨#[]⟩] : Array Value).size = C.size) := by unfold Hid; rw [hC]; rfl
   have HRB : Hid (wr.heap[w.heap.size + 1]? = some (.cells #[.string ⟨#[]⟩, .string ⟨#[]⟩, .string ⟨#[]⟩, .string ⟨#[]⟩, .string ⟨#[]⟩, .string ⟨#[]⟩, .string ⟨#[]⟩, .string ⟨#[]⟩, .string ⟨#[]⟩, .string ⟨#[]⟩, .string ⟨#[]⟩, .string ⟨#[]⟩] 73 (0, 0))) := HRC.out _ HB.out
   have HRW : Hid ((wr.setRow (w.heap.size + 1) C).heap[w.heap.size + 1]? = some (.cells C 73 (0, 0))) := setRow_heap wr (w.heap.size + 1) _ C _ _ HRB.out
   have hcq : Chg (w.heap.size + 1) wr (wr.setRow (w.heap.size + 1) C) := ⟨rfl, rfl, rfl, by simp [World.setRow], fun j _ hj => setRow_other wr (w.heap.size + 1) j C hj⟩
   have HBF : Hid (Below w.heap.size w (wr.setRow (w.heap.size + 1) C)) := (HWB.out _ HB.out).trans (hcq.below (by omega) (HWB.out _ HB.out).size)
   clear hOB hSF hC hcq HS
   go_wp2_with (first | refine wpList_load_row rfl 73 (.tmp 3) rfl P rfl 73 C (0, 0) _ HOBl.out Tryz.underlying73 rfl HI.out ?_ | refine wpList_store_row rfl 73 (.tmp 2) (.tmp 278) rfl (w.heap.size + 1) C rfl rfl 73 _ HRB.out HI.out HS5.out HC1.out ?_)
   refine ⟨rfl, .agg C, one_result _ _ (w.heap.size + 1) C rfl HRW.out HI.out, S, by rw [HCd.out], fun k hk => ?_, HBF.out⟩
   rw [HSF.out]
   by_cases k4 : k = 4
   ·subst k4
    rw [sec4 LT LI LF LG LE LL LD t p q s ht.1]
    rfl
   by_cases k5 : k = 5
   ·subst k5
    rw [sec5 LT LI LF LG LE LL LD t p q s hq.1]
    rfl
   by_cases k8 : k = 8
   ·subst k8
    rw [sec8 LT LI LF LG LE LL LD t p q s hs.1]
    rfl
   have h := secs_eq LT LI LF LG LE LL LD nT nI nF nG nE nL nD t p q s F9 HF9.out HLT.out HLI.out HLF.out HLG.out HLE.out HLL.out HLD.out k hk k4 k5 k8
   rw [← HMN.out] at h
   unfold updF
   rw [if_neg k8, if_neg k5, if_neg k4]
   exact h
  have HE1 : Hid (SX wr P (updF (updF (mny mn F9 12) 4 (if 0 < t then uB 1 ++ [112] ++ [0] ++ uB t.toNat else [])) 5 (if 0 < q then uB 1 ++ [1] ++ uB p.toNat ++ uB q.toNat else []))) := by
   unfold Hid
   rw [if_neg hif5]
   exact HS.out.start 5 (by have h := secs_nil LT LI LF LG LE LL LD nT nI nF nG nE nL nD F9 HF9.out 5 (by omega); rw [← HMN.out] at h; exact h)
  clear HS
  have HS : Hid (type_of% HE1.out) := HE1.out
  clear HE1
  by_cases hif8 : 0 < s
  ·skip
   have hif := hif8
   have HC1 : Hid (Calls Tryz.prog 29 #[.int .i64 (s - 1)] wr (Txt wr (uB (s - 1).toNat))) := dU (s - 1) (by omega) (by omega) wr
   go_wp2_with fail
   refine HC1.out.mono ?_
   rintro r y1 ⟨t1, rfl, ht1, b1⟩
   have HA1 : Hid (Below wr.heap.size wr y1) := b1
   have HNN : Hid (nums t1 = uB (s - 1).toNat) := ht1
   have hf1 : y1.frozen? ⟨P, 8, none⟩ = false := (HS.out.under b1 HS.out.lt).frozen 8
   obtain ⟨v, hv, _⟩ := (HS.out.under b1 HS.out.lt).get 8 (by omega)
   have HE1 : Hid (SX (y1.setCell ⟨P, 8, none⟩ (.string t1)) P (updF (updF (updF (mny mn F9 12) 4 (if 0 < t then uB 1 ++ [112] ++ [0] ++ uB t.toNat else [])) 5 (if 0 < q then uB 1 ++ [1] ++ uB p.toNat ++ uB q.toNat else [])) 8 (if 0 < s then uB (s - 1).toNat else []))) := (HS.out.under b1 HS.out.lt).set 8 (by omega) _ (HNN.out.trans (if_pos hif).symm)
   have HE2 : Hid (Below P a (y1.setCell ⟨P, 8, none⟩ (.string t1))) := (HB.out.trans (b1.mono (by have := HB.out.size; omega))).setCell (p := ⟨P, 8, none⟩) (Nat.le_refl _) _
   clear ht1 b1 HC1 HS HB HA1 HNN c0 c1 c2 c3 c4 c5 c6 c7 c8 c9 c10
   go_upto_region 61 with fail
   obtain ⟨wv, hwv⟩ : ∃ wv, wv = y1.setCell ⟨P, 8, none⟩ (.string t1) := ⟨_, rfl⟩
   rw [← hwv] at HE1 HE2
   rw [← hwv]
   clear hwv hf1 hv
   obtain ⟨wr, hwv⟩ : ∃ wr, wr = wv := ⟨_, rfl⟩
   rw [← hwv] at HE1 HE2
   rw [← hwv]
   clear hwv
   have HS : Hid (type_of% HE1.out) := HE1.out
   have HB : Hid (type_of% HE2.out) := HE2.out
   clear HE1 HE2
   obtain ⟨c0, c1, c2, c3, c4, c5, c6, c7, c8, c9, c10⟩ := HMC.out _ HB.out
   clear hif
   obtain ⟨S, hOB, hSF⟩ := HS.out
   have HSF : Hid (∀ k, nums (S k) = (updF (updF (updF (mny mn F9 12) 4 (if 0 < t then uB 1 ++ [112] ++ [0] ++ uB t.toNat else [])) 5 (if 0 < q then uB 1 ++ [1] ++ uB p.toNat ++ uB q.toNat else [])) 8 (if 0 < s then uB (s - 1).toNat else [])) k) := hSF
   obtain ⟨C, hC⟩ : ∃ C : Array Value, C = #[.string (S 0), .string (S 1), .string (S 2), .string (S 3), .string (S 4), .string (S 5), .string (S 6), .string (S 7), .string (S 8), .string (S 9), .string (S 10), .string (S 11)] := ⟨_, rfl⟩
   have HCd : Hid (C = #[.string (S 0), .string (S 1), .string (S 2), .string (S 3), .string (S 4), .string (S 5), .string (S 6), .string (S 7), .string (S 8), .string (S 9), .string (S 10), .string (S 11)]) := hC
   have HOBl : Hid (wr.heap[P]? = some (.cells C 73 (0, 0))) := by unfold Hid; rw [hC]; exact hOB
   have HI : Hid ((Tryz.prog.info? 73).map (·.size) = some C.size) := by unfold Hid; rw [hC]; kernel_rfl
   have HC1 : Hid (C.all (·.oneCell') = true) := by unfold Hid; rw [hC]; simp [Value.oneCell']
   have HS5 : Hid ((#[.string ⟨#[]⟩, .string ⟨#[]⟩, .string ⟨#[]⟩, .string ⟨#[]⟩, .string ⟨#[]⟩, .string ⟨#[]⟩, .string ⟨#[]⟩, .string ⟨#[]⟩, .string ⟨#[]⟩, .string ⟨#[]⟩, .string ⟨#[]⟩, .string ⟨#[]⟩] : Array Value).size = C.size) := by unfold Hid; rw [hC]; rfl
   have HRB : Hid (wr.heap[w.heap.size + 1]? = some (.cells #[.string ⟨#[]⟩, .string ⟨#[]⟩, .string ⟨#[]⟩, .string ⟨#[]⟩, .string ⟨#[]⟩, .string ⟨#[]⟩, .string ⟨#[]⟩, .string ⟨#[]⟩, .string ⟨#[]⟩, .string ⟨#[]⟩, .string ⟨#[]⟩, .string ⟨#[]⟩] 73 (0, 0))) := HRC.out _ HB.out
   have HRW : Hid ((wr.setRow (w.heap.size + 1) C).heap[w.heap.size + 1]? = some (.cells C 73 (0, 0))) := setRow_heap wr (w.heap.size + 1) _ C _ _ HRB.out
   have hcq : Chg (w.heap.size + 1) wr (wr.setRow (w.heap.size + 1) C) := ⟨rfl, rfl, rfl, by simp [World.setRow], fun j _ hj => setRow_other wr (w.heap.size + 1) j C hj⟩
   have HBF : Hid (Below w.heap.size w (wr.setRow (w.heap.size + 1) C)) := (HWB.out _ HB.out).trans (hcq.below (by omega) (HWB.out _ HB.out).size)
   clear hOB hSF hC hcq HS
   go_wp2_with (first | refine wpList_load_row rfl 73 (.tmp 3) rfl P rfl 73 C (0, 0) _ HOBl.out Tryz.underlying73 rfl HI.out ?_ | refine wpList_store_row rfl 73 (.tmp 2) (.tmp 278) rfl (w.heap.size + 1) C rfl rfl 73 _ HRB.out HI.out HS5.out HC1.out ?_)
   refine ⟨rfl, .agg C, one_result _ _ (w.heap.size + 1) C rfl HRW.out HI.out, S, by rw [HCd.out], fun k hk => ?_, HBF.out⟩
   rw [HSF.out]
   by_cases k4 : k = 4
   ·subst k4
    rw [sec4 LT LI LF LG LE LL LD t p q s ht.1]
    rfl
   by_cases k5 : k = 5
   ·subst k5
    rw [sec5 LT LI LF LG LE LL LD t p q s hq.1]
    rfl
   by_cases k8 : k = 8
   ·subst k8
    rw [sec8 LT LI LF LG LE LL LD t p q s hs.1]
    rfl
   have h := secs_eq LT LI LF LG LE LL LD nT nI nF nG nE nL nD t p q s F9 HF9.out HLT.out HLI.out HLF.out HLG.out HLE.out HLL.out HLD.out k hk k4 k5 k8
   rw [← HMN.out] at h
   unfold updF
   rw [if_neg k8, if_neg k5, if_neg k4]
   exact h
  have HE1 : Hid (SX wr P (updF (updF (updF (mny mn F9 12) 4 (if 0 < t then uB 1 ++ [112] ++ [0] ++ uB t.toNat else [])) 5 (if 0 < q then uB 1 ++ [1] ++ uB p.toNat ++ uB q.toNat else [])) 8 (if 0 < s then uB (s - 1).toNat else []))) := by
   unfold Hid
   rw [if_neg hif8]
   exact HS.out.start 8 (by have h := secs_nil LT LI LF LG LE LL LD nT nI nF nG nE nL nD F9 HF9.out 8 (by omega); rw [← HMN.out] at h; exact h)
  clear HS
  have HS : Hid (type_of% HE1.out) := HE1.out
  clear HE1
  obtain ⟨S, hOB, hSF⟩ := HS.out
  have HSF : Hid (∀ k, nums (S k) = (updF (updF (updF (mny mn F9 12) 4 (if 0 < t then uB 1 ++ [112] ++ [0] ++ uB t.toNat else [])) 5 (if 0 < q then uB 1 ++ [1] ++ uB p.toNat ++ uB q.toNat else [])) 8 (if 0 < s then uB (s - 1).toNat else [])) k) := hSF
  obtain ⟨C, hC⟩ : ∃ C : Array Value, C = #[.string (S 0), .string (S 1), .string (S 2), .string (S 3), .string (S 4), .string (S 5), .string (S 6), .string (S 7), .string (S 8), .string (S 9), .string (S 10), .string (S 11)] := ⟨_, rfl⟩
  have HCd : Hid (C = #[.string (S 0), .string (S 1), .string (S 2), .string (S 3), .string (S 4), .string (S 5), .string (S 6), .string (S 7), .string (S 8), .string (S 9), .string (S 10), .string (S 11)]) := hC
  have HOBl : Hid (wr.heap[P]? = some (.cells C 73 (0, 0))) := by unfold Hid; rw [hC]; exact hOB
  have HI : Hid ((Tryz.prog.info? 73).map (·.size) = some C.size) := by unfold Hid; rw [hC]; kernel_rfl
  have HC1 : Hid (C.all (·.oneCell') = true) := by unfold Hid; rw [hC]; simp [Value.oneCell']
  have HS5 : Hid ((#[.string ⟨#[]⟩, .string ⟨#[]⟩, .string ⟨#[]⟩, .string ⟨#[]⟩, .string ⟨#[]⟩, .string ⟨#[]⟩, .string ⟨#[]⟩, .string ⟨#[]⟩, .string ⟨#[]⟩, .string ⟨#[]⟩, .string ⟨#[]⟩, .string ⟨#[]⟩] : Array Value).size = C.size) := by unfold Hid; rw [hC]; rfl
  have HRB : Hid (wr.heap[w.heap.size + 1]? = some (.cells #[.string ⟨#[]⟩, .string ⟨#[]⟩, .string ⟨#[]⟩, .string ⟨#[]⟩, .string ⟨#[]⟩, .string ⟨#[]⟩, .string ⟨#[]⟩, .string ⟨#[]⟩, .string ⟨#[]⟩, .string ⟨#[]⟩, .string ⟨#[]⟩, .string ⟨#[]⟩] 73 (0, 0))) := HRC.out _ HB.out
  have HRW : Hid ((wr.setRow (w.heap.size + 1) C).heap[w.heap.size + 1]? = some (.cells C 73 (0, 0))) := setRow_heap wr (w.heap.size + 1) _ C _ _ HRB.out
  have hcq : Chg (w.heap.size + 1) wr (wr.setRow (w.heap.size + 1) C) := ⟨rfl, rfl, rfl, by simp [World.setRow], fun j _ hj => setRow_other wr (w.heap.size + 1) j C hj⟩
  have HBF : Hid (Below w.heap.size w (wr.setRow (w.heap.size + 1) C)) := (HWB.out _ HB.out).trans (hcq.below (by omega) (HWB.out _ HB.out).size)
  clear hOB hSF hC hcq HS
  go_wp2_with (first | refine wpList_load_row rfl 73 (.tmp 3) rfl P rfl 73 C (0, 0) _ HOBl.out Tryz.underlying73 rfl HI.out ?_ | refine wpList_store_row rfl 73 (.tmp 2) (.tmp 278) rfl (w.heap.size + 1) C rfl rfl 73 _ HRB.out HI.out HS5.out HC1.out ?_)
  refine ⟨rfl, .agg C, one_result _ _ (w.heap.size + 1) C rfl HRW.out HI.out, S, by rw [HCd.out], fun k hk => ?_, HBF.out⟩
  rw [HSF.out]
  by_cases k4 : k = 4
  ·subst k4
   rw [sec4 LT LI LF LG LE LL LD t p q s ht.1]
   rfl
  by_cases k5 : k = 5
  ·subst k5
   rw [sec5 LT LI LF LG LE LL LD t p q s hq.1]
   rfl
  by_cases k8 : k = 8
  ·subst k8
   rw [sec8 LT LI LF LG LE LL LD t p q s hs.1]
   rfl
  have h := secs_eq LT LI LF LG LE LL LD nT nI nF nG nE nL nD t p q s F9 HF9.out HLT.out HLI.out HLF.out HLG.out HLE.out HLL.out HLD.out k hk k4 k5 k8
  rw [← HMN.out] at h
  unfold updF
  rw [if_neg k8, if_neg k5, if_neg k4]
  exact h
 have HE1 : Hid (SX wr P (updF (mny mn F9 12) 4 (if 0 < t then uB 1 ++ [112] ++ [0] ++ uB t.toNat else []))) := by
  unfold Hid
  rw [if_neg hif4]
  exact HS.out.start 4 (by have h := secs_nil LT LI LF LG LE LL LD nT nI nF nG nE nL nD F9 HF9.out 4 (by omega); rw [← HMN.out] at h; exact h)
 clear HS
 have HS : Hid (type_of% HE1.out) := HE1.out
 clear HE1
 by_cases hif5 : 0 < q
 ·skip
  have hif := hif5
  have hPz : P < wr.heap.size := HS.out.lt
  have HSZ : Hid (type_of% HS.out) := HS.out
  have hMz : w.heap.size < wr.heap.size := by have := HPE.out; omega
  have hne : w.heap.size ≠ P := by have := HPE.out; omega
  have HFV : Hid (∀ w', Below wr.heap.size wr w' → w'.frozen? ⟨P, 5, none⟩ = false) := fun w' b => (HSZ.out.under b hPz).frozen 5
  have HCV : Hid (∃ v, ∀ w', Below wr.heap.size wr w' → w'.cell? ⟨P, 5, none⟩ = some (.string v)) := by
   obtain ⟨v, hv, _⟩ := HSZ.out.get 5 (by omega)
   exact ⟨v, fun w' b => (b.cell (p := ⟨P, 5, none⟩) hPz).trans hv⟩
  obtain ⟨v, hCV⟩ := HCV.out
  clear HCV
  have HCV : Hid (type_of% hCV) := hCV
  clear hCV
  have HKP : Hid (∀ w', Below wr.heap.size wr w' → w'.cell? ⟨w.heap.size, 4, none⟩ = some (.int .i64 p) ∧ w'.cell? ⟨w.heap.size, 5, none⟩ = some (.int .i64 q)) := fun w' b => ⟨(b.cell (p := ⟨w.heap.size, 4, none⟩) hMz).trans c4, (b.cell (p := ⟨w.heap.size, 5, none⟩) hMz).trans c5⟩
  have HC1 : Hid (∀ w', Below wr.heap.size wr w' → Calls Tryz.prog 29 #[.int .i64 1] w' (Txt w' (uB 1))) := fun w' b => dU 1 (by omega) (by omega) w'
  have HU1 : Hid ((uB 1).length ≤ 10) := uB_len10 _ (by omega)
  have HC2 : Hid (∀ w', Below wr.heap.size wr w' → Calls Tryz.prog 28 #[.int .i64 1] w' (Txt w' ([1]))) := fun w' b => dChr 1 (by omega) (by omega) w'
  have HU2 : Hid (([1]).length ≤ 1) := Nat.le_refl _
  have HC3 : Hid (∀ w', Below wr.heap.size wr w' → Calls Tryz.prog 29 #[.int .i64 p] w' (Txt w' (uB p.toNat))) := fun w' b => dU p hp.1 (by omega) w'
  have HU3 : Hid ((uB p.toNat).length ≤ 10) := uB_len10 _ (by omega)
  have HC4 : Hid (∀ w', Below wr.heap.size wr w' → Calls Tryz.prog 29 #[.int .i64 q] w' (Txt w' (uB q.toNat))) := fun w' b => dU q hq.1 (by omega) w'
  have HU4 : Hid ((uB q.toNat).length ≤ 10) := uB_len10 _ (by omega)
  go_wp2_with fail
  have HKA : Hid (∀ w', Below wr.heap.size wr w' → w'.cell? ⟨w.heap.size, 4, none⟩ = some (.int .i64 p) ∧ w'.cell? ⟨w.heap.size, 5, none⟩ = some (.int .i64 q) ∧ w'.cell? ⟨P, 5, none⟩ = some (.string v)) := fun w' b => ⟨(HKP.out w' b).1, (HKP.out w' b).2, HCV.out w' b⟩
  refine wp_region_z (S := fun w' => w'.cell? ⟨w.heap.size, 4, none⟩ = some (.int .i64 p) ∧ w'.cell? ⟨w.heap.size, 5, none⟩ = some (.int .i64 q) ∧ w'.cell? ⟨P, 5, none⟩ = some (.string v)) (z := 12) (by kernel_rfl) ?_
  have HA0 : Hid (Below wr.heap.size wr (World.drew wr)) := Below.drew (Below.refl _ _)
  have hHeld : (fun w' => w'.cell? ⟨w.heap.size, 4, none⟩ = some (.int .i64 p) ∧ w'.cell? ⟨w.heap.size, 5, none⟩ = some (.int .i64 q) ∧ w'.cell? ⟨P, 5, none⟩ = some (.string v)) (World.drew wr) := HKA.out _ HA0.out
  refine wpZ_take (i := 3) (v := _) rfl (by kernel_rfl) (by kernel_rfl) (by kernel_rfl) (by kernel_rfl) (fun _ _ _ h => h) (Or.inl ⟨by rfl, by intro w' hSw; go_simp <;> with_reducible rfl⟩) hHeld ?_
  refine wpZ_load (i := 4) [5, 6, 9, 10, 11, 12] (v := _) rfl (by kernel_rfl) (by kernel_rfl) (by kernel_rfl) (by kernel_rfl) (by kernel_rfl) (by kernel_rfl) (fun _ _ _ h => h) (Or.inl ⟨by rfl, by intro w' hSw; (try dsimp only at hSw); go_simp <;> with_reducible rfl⟩) hHeld ?_
  refine wpZ_take (i := 7) (v := _) rfl (by kernel_rfl) (by kernel_rfl) (by kernel_rfl) (by kernel_rfl) (fun _ _ _ h => h) (Or.inl ⟨by rfl, by intro w' hSw; go_simp <;> with_reducible rfl⟩) hHeld ?_
  refine wpZ_load (i := 8) [9, 10, 11, 12] (v := _) rfl (by kernel_rfl) (by kernel_rfl) (by kernel_rfl) (by kernel_rfl) (by kernel_rfl) (by kernel_rfl) (fun _ _ _ h => h) (Or.inl ⟨by rfl, by intro w' hSw; (try dsimp only at hSw); go_simp <;> with_reducible rfl⟩) hHeld ?_
  refine wpZ_call (i := 0) rfl (by kernel_rfl) rfl (by go_simp) (HC1.out _ HA0.out) ?_
  rintro r y1 ⟨t1, rfl, ht1, b1⟩
  have hz1 : t1.size ≤ 10 := Nat.le_trans (Nat.le_of_eq (size_of ht1)) HU1.out
  have HT1 : Hid (type_of% ht1) := ht1
  have HA1 : Hid (Below wr.heap.size wr y1) := HA0.out.trans (b1.mono HA0.out.size)
  have hs1 : wr.heap.size ≤ y1.heap.size := HA1.out.size
  clear ht1 b1 hHeld
  refine ⟨_, rfl, HKA.out _ HA1.out, fun hHeld => wpZ_put ?_⟩
  refine wpZ_call (i := 1) rfl (by kernel_rfl) rfl (by go_simp) (HC2.out _ HA1.out) ?_
  rintro r y2 ⟨t2, rfl, ht2, b2⟩
  have hz2 : t2.size ≤ 1 := Nat.le_trans (Nat.le_of_eq (size_of ht2)) HU2.out
  have HT2 : Hid (type_of% ht2) := ht2
  have HA2 : Hid (Below wr.heap.size wr y2) := HA1.out.trans (b2.mono HA1.out.size)
  have hs2 : wr.heap.size ≤ y2.heap.size := HA2.out.size
  have hq20 : ¬ 9223372036854775807 < t1.size + t2.size := by omega
  clear ht2 b2 hHeld
  refine ⟨_, rfl, HKA.out _ HA2.out, fun hHeld => wpZ_put ?_⟩
  refine wpZ_take (i := 2) (v := _) rfl (by kernel_rfl) (by kernel_rfl) (by kernel_rfl) (by kernel_rfl) (fun _ _ _ h => h) (Or.inl ⟨by rfl, by intro w' hSw; go_simp <;> with_reducible rfl⟩) hHeld ?_
  refine wpZ_call (i := 5) rfl (by kernel_rfl) rfl (by go_simp) (HC3.out _ HA2.out) ?_
  rintro r y3 ⟨t3, rfl, ht3, b3⟩
  have hz3 : t3.size ≤ 10 := Nat.le_trans (Nat.le_of_eq (size_of ht3)) HU3.out
  have HT3 : Hid (type_of% ht3) := ht3
  have HA3 : Hid (Below wr.heap.size wr y3) := HA2.out.trans (b3.mono HA2.out.size)
  have hs3 : wr.heap.size ≤ y3.heap.size := HA3.out.size
  have hq30 : ¬ 9223372036854775807 < t1.size + t2.size + t3.size := by omega
  clear ht3 b3 hHeld
  refine ⟨_, rfl, HKA.out _ HA3.out, fun hHeld => wpZ_put ?_⟩
  refine wpZ_take (i := 6) (v := _) rfl (by kernel_rfl) (by kernel_rfl) (by kernel_rfl) (by kernel_rfl) (fun _ _ _ h => h) (Or.inl ⟨by rfl, by intro w' hSw; go_simp <;> with_reducible rfl⟩) hHeld ?_
  refine wpZ_call (i := 9) rfl (by kernel_rfl) rfl (by go_simp) (HC4.out _ HA3.out) ?_
  rintro r y4 ⟨t4, rfl, ht4, b4⟩
  have hz4 : t4.size ≤ 10 := Nat.le_trans (Nat.le_of_eq (size_of ht4)) HU4.out
  have HT4 : Hid (type_of% ht4) := ht4
  have HA4 : Hid (Below wr.heap.size wr y4) := HA3.out.trans (b4.mono HA3.out.size)
  have hs4 : wr.heap.size ≤ y4.heap.size := HA4.out.size
  have hq40 : ¬ 9223372036854775807 < t1.size + t2.size + t3.size + t4.size := by omega
  clear ht4 b4 hHeld
  refine ⟨_, rfl, HKA.out _ HA4.out, fun hHeld => wpZ_put ?_⟩
  refine wpZ_take (i := 10) (v := _) rfl (by kernel_rfl) (by kernel_rfl) (by kernel_rfl) (by kernel_rfl) (fun _ _ _ h => h) (Or.inl ⟨by rfl, by intro w' hSw; go_simp <;> with_reducible rfl⟩) hHeld ?_
  refine wpZ_take (i := 11) (v := _) rfl (by kernel_rfl) (by kernel_rfl) (by kernel_rfl) (by kernel_rfl) (fun _ _ _ h => h) (Or.inl ⟨by rfl, by intro w' hSw; go_simp <;> with_reducible rfl⟩) hHeld ?_
  have hcl : y4.cell? ⟨P, 5, none⟩ = some (.string v) := HCV.out _ HA4.out
  have hfl : y4.frozen? ⟨P, 5, none⟩ = false := HFV.out _ HA4.out
  refine wpZ_last rfl (by kernel_rfl) (by kernel_rfl) (by kernel_rfl) rfl (fun K R hK => ?_)
  go_simp
  refine hK.out _ _ ?_
  clear hK K R hHeld
  have HNN : Hid (nums (t1 ++ t2 ++ t3 ++ t4) = uB 1 ++ [1] ++ uB p.toNat ++ uB q.toNat) := by
   unfold Hid
   rw [nums_append, nums_append, nums_append, HT1.out, HT2.out, HT3.out, HT4.out]
  have HE1 : Hid (SX (y4.setCell ⟨P, 5, none⟩ (.string (t1 ++ t2 ++ t3 ++ t4))) P (updF (updF (mny mn F9 12) 4 (if 0 < t then uB 1 ++ [112] ++ [0] ++ uB t.toNat else [])) 5 (if 0 < q then uB 1 ++ [1] ++ uB p.toNat ++ uB q.toNat else []))) := (HSZ.out.under HA4.out hPz).set 5 (by omega) _ (HNN.out.trans (if_pos hif).symm)
  have HE2 : Hid (Below P a (y4.setCell ⟨P, 5, none⟩ (.string (t1 ++ t2 ++ t3 ++ t4)))) := (HB.out.trans (HA4.out.mono (by have := HB.out.size; omega))).setCell (p := ⟨P, 5, none⟩) (Nat.le_refl _) _
  clear HC1 HU1 HT1 HA1 hs1 hz1 HC2 HU2 HT2 HA2 hs2 hz2 HC3 HU3 HT3 HA3 hs3 hz3 HC4 HU4 HT4 HA4 hs4 hz4 hcl hfl HA0 HKA HKP HCV HFV HSZ hPz hMz hne HNN HS HB c0 c1 c2 c3 c4 c5 c6 c7 c8 c9 c10
  obtain ⟨wv, hwv⟩ : ∃ wv, wv = y4.setCell ⟨P, 5, none⟩ (.string (t1 ++ t2 ++ t3 ++ t4)) := ⟨_, rfl⟩
  rw [← hwv] at HE1 HE2
  rw [← hwv]
  clear hwv
  clear hq20
  clear hq30
  clear hq40
  obtain ⟨wr, hwv⟩ : ∃ wr, wr = wv := ⟨_, rfl⟩
  rw [← hwv] at HE1 HE2
  rw [← hwv]
  clear hwv
  have HS : Hid (type_of% HE1.out) := HE1.out
  have HB : Hid (type_of% HE2.out) := HE2.out
  clear HE1 HE2
  obtain ⟨c0, c1, c2, c3, c4, c5, c6, c7, c8, c9, c10⟩ := HMC.out _ HB.out
  clear hif
  by_cases hif8 : 0 < s
  ·skip
   have hif := hif8
   have HC1 : Hid (Calls Tryz.prog 29 #[.int .i64 (s - 1)] wr (Txt wr (uB (s - 1).toNat))) := dU (s - 1) (by omega) (by omega) wr
   go_wp2_with fail
   refine HC1.out.mono ?_
   rintro r y1 ⟨t1, rfl, ht1, b1⟩
   have HA1 : Hid (Below wr.heap.size wr y1) := b1
   have HNN : Hid (nums t1 = uB (s - 1).toNat) := ht1
   have hf1 : y1.frozen? ⟨P, 8, none⟩ = false := (HS.out.under b1 HS.out.lt).frozen 8
   obtain ⟨v, hv, _⟩ := (HS.out.under b1 HS.out.lt).get 8 (by omega)
   have HE1 : Hid (SX (y1.setCell ⟨P, 8, none⟩ (.string t1)) P (updF (updF (updF (mny mn F9 12) 4 (if 0 < t then uB 1 ++ [112] ++ [0] ++ uB t.toNat else [])) 5 (if 0 < q then uB 1 ++ [1] ++ uB p.toNat ++ uB q.toNat else [])) 8 (if 0 < s then uB (s - 1).toNat else []))) := (HS.out.under b1 HS.out.lt).set 8 (by omega) _ (HNN.out.trans (if_pos hif).symm)
   have HE2 : Hid (Below P a (y1.setCell ⟨P, 8, none⟩ (.string t1))) := (HB.out.trans (b1.mono (by have := HB.out.size; omega))).setCell (p := ⟨P, 8, none⟩) (Nat.le_refl _) _
   clear ht1 b1 HC1 HS HB HA1 HNN c0 c1 c2 c3 c4 c5 c6 c7 c8 c9 c10
   go_upto_region 61 with fail
   obtain ⟨wv, hwv⟩ : ∃ wv, wv = y1.setCell ⟨P, 8, none⟩ (.string t1) := ⟨_, rfl⟩
   rw [← hwv] at HE1 HE2
   rw [← hwv]
   clear hwv hf1 hv
   obtain ⟨wr, hwv⟩ : ∃ wr, wr = wv := ⟨_, rfl⟩
   rw [← hwv] at HE1 HE2
   rw [← hwv]
   clear hwv
   have HS : Hid (type_of% HE1.out) := HE1.out
   have HB : Hid (type_of% HE2.out) := HE2.out
   clear HE1 HE2
   obtain ⟨c0, c1, c2, c3, c4, c5, c6, c7, c8, c9, c10⟩ := HMC.out _ HB.out
   clear hif
   obtain ⟨S, hOB, hSF⟩ := HS.out
   have HSF : Hid (∀ k, nums (S k) = (updF (updF (updF (mny mn F9 12) 4 (if 0 < t then uB 1 ++ [112] ++ [0] ++ uB t.toNat else [])) 5 (if 0 < q then uB 1 ++ [1] ++ uB p.toNat ++ uB q.toNat else [])) 8 (if 0 < s then uB (s - 1).toNat else [])) k) := hSF
   obtain ⟨C, hC⟩ : ∃ C : Array Value, C = #[.string (S 0), .string (S 1), .string (S 2), .string (S 3), .string (S 4), .string (S 5), .string (S 6), .string (S 7), .string (S 8), .string (S 9), .string (S 10), .string (S 11)] := ⟨_, rfl⟩
   have HCd : Hid (C = #[.string (S 0), .string (S 1), .string (S 2), .string (S 3), .string (S 4), .string (S 5), .string (S 6), .string (S 7), .string (S 8), .string (S 9), .string (S 10), .string (S 11)]) := hC
   have HOBl : Hid (wr.heap[P]? = some (.cells C 73 (0, 0))) := by unfold Hid; rw [hC]; exact hOB
   have HI : Hid ((Tryz.prog.info? 73).map (·.size) = some C.size) := by unfold Hid; rw [hC]; kernel_rfl
   have HC1 : Hid (C.all (·.oneCell') = true) := by unfold Hid; rw [hC]; simp [Value.oneCell']
   have HS5 : Hid ((#[.string ⟨#[]⟩, .string ⟨#[]⟩, .string ⟨#[]⟩, .string ⟨#[]⟩, .string ⟨#[]⟩, .string ⟨#[]⟩, .string ⟨#[]⟩, .string ⟨#[]⟩, .string ⟨#[]⟩, .string ⟨#[]⟩, .string ⟨#[]⟩, .string ⟨#[]⟩] : Array Value).size = C.size) := by unfold Hid; rw [hC]; rfl
   have HRB : Hid (wr.heap[w.heap.size + 1]? = some (.cells #[.string ⟨#[]⟩, .string ⟨#[]⟩, .string ⟨#[]⟩, .string ⟨#[]⟩, .string ⟨#[]⟩, .string ⟨#[]⟩, .string ⟨#[]⟩, .string ⟨#[]⟩, .string ⟨#[]⟩, .string ⟨#[]⟩, .string ⟨#[]⟩, .string ⟨#[]⟩] 73 (0, 0))) := HRC.out _ HB.out
   have HRW : Hid ((wr.setRow (w.heap.size + 1) C).heap[w.heap.size + 1]? = some (.cells C 73 (0, 0))) := setRow_heap wr (w.heap.size + 1) _ C _ _ HRB.out
   have hcq : Chg (w.heap.size + 1) wr (wr.setRow (w.heap.size + 1) C) := ⟨rfl, rfl, rfl, by simp [World.setRow], fun j _ hj => setRow_other wr (w.heap.size + 1) j C hj⟩
   have HBF : Hid (Below w.heap.size w (wr.setRow (w.heap.size + 1) C)) := (HWB.out _ HB.out).trans (hcq.below (by omega) (HWB.out _ HB.out).size)
   clear hOB hSF hC hcq HS
   go_wp2_with (first | refine wpList_load_row rfl 73 (.tmp 3) rfl P rfl 73 C (0, 0) _ HOBl.out Tryz.underlying73 rfl HI.out ?_ | refine wpList_store_row rfl 73 (.tmp 2) (.tmp 278) rfl (w.heap.size + 1) C rfl rfl 73 _ HRB.out HI.out HS5.out HC1.out ?_)
   refine ⟨rfl, .agg C, one_result _ _ (w.heap.size + 1) C rfl HRW.out HI.out, S, by rw [HCd.out], fun k hk => ?_, HBF.out⟩
   rw [HSF.out]
   by_cases k4 : k = 4
   ·subst k4
    rw [sec4 LT LI LF LG LE LL LD t p q s ht.1]
    rfl
   by_cases k5 : k = 5
   ·subst k5
    rw [sec5 LT LI LF LG LE LL LD t p q s hq.1]
    rfl
   by_cases k8 : k = 8
   ·subst k8
    rw [sec8 LT LI LF LG LE LL LD t p q s hs.1]
    rfl
   have h := secs_eq LT LI LF LG LE LL LD nT nI nF nG nE nL nD t p q s F9 HF9.out HLT.out HLI.out HLF.out HLG.out HLE.out HLL.out HLD.out k hk k4 k5 k8
   rw [← HMN.out] at h
   unfold updF
   rw [if_neg k8, if_neg k5, if_neg k4]
   exact h
  have HE1 : Hid (SX wr P (updF (updF (updF (mny mn F9 12) 4 (if 0 < t then uB 1 ++ [112] ++ [0] ++ uB t.toNat else [])) 5 (if 0 < q then uB 1 ++ [1] ++ uB p.toNat ++ uB q.toNat else [])) 8 (if 0 < s then uB (s - 1).toNat else []))) := by
   unfold Hid
   rw [if_neg hif8]
   exact HS.out.start 8 (by have h := secs_nil LT LI LF LG LE LL LD nT nI nF nG nE nL nD F9 HF9.out 8 (by omega); rw [← HMN.out] at h; exact h)
  clear HS
  have HS : Hid (type_of% HE1.out) := HE1.out
  clear HE1
  obtain ⟨S, hOB, hSF⟩ := HS.out
  have HSF : Hid (∀ k, nums (S k) = (updF (updF (updF (mny mn F9 12) 4 (if 0 < t then uB 1 ++ [112] ++ [0] ++ uB t.toNat else [])) 5 (if 0 < q then uB 1 ++ [1] ++ uB p.toNat ++ uB q.toNat else [])) 8 (if 0 < s then uB (s - 1).toNat else [])) k) := hSF
  obtain ⟨C, hC⟩ : ∃ C : Array Value, C = #[.string (S 0), .string (S 1), .string (S 2), .string (S 3), .string (S 4), .string (S 5), .string (S 6), .string (S 7), .string (S 8), .string (S 9), .string (S 10), .string (S 11)] := ⟨_, rfl⟩
  have HCd : Hid (C = #[.string (S 0), .string (S 1), .string (S 2), .string (S 3), .string (S 4), .string (S 5), .string (S 6), .string (S 7), .string (S 8), .string (S 9), .string (S 10), .string (S 11)]) := hC
  have HOBl : Hid (wr.heap[P]? = some (.cells C 73 (0, 0))) := by unfold Hid; rw [hC]; exact hOB
  have HI : Hid ((Tryz.prog.info? 73).map (·.size) = some C.size) := by unfold Hid; rw [hC]; kernel_rfl
  have HC1 : Hid (C.all (·.oneCell') = true) := by unfold Hid; rw [hC]; simp [Value.oneCell']
  have HS5 : Hid ((#[.string ⟨#[]⟩, .string ⟨#[]⟩, .string ⟨#[]⟩, .string ⟨#[]⟩, .string ⟨#[]⟩, .string ⟨#[]⟩, .string ⟨#[]⟩, .string ⟨#[]⟩, .string ⟨#[]⟩, .string ⟨#[]⟩, .string ⟨#[]⟩, .string ⟨#[]⟩] : Array Value).size = C.size) := by unfold Hid; rw [hC]; rfl
  have HRB : Hid (wr.heap[w.heap.size + 1]? = some (.cells #[.string ⟨#[]⟩, .string ⟨#[]⟩, .string ⟨#[]⟩, .string ⟨#[]⟩, .string ⟨#[]⟩, .string ⟨#[]⟩, .string ⟨#[]⟩, .string ⟨#[]⟩, .string ⟨#[]⟩, .string ⟨#[]⟩, .string ⟨#[]⟩, .string ⟨#[]⟩] 73 (0, 0))) := HRC.out _ HB.out
  have HRW : Hid ((wr.setRow (w.heap.size + 1) C).heap[w.heap.size + 1]? = some (.cells C 73 (0, 0))) := setRow_heap wr (w.heap.size + 1) _ C _ _ HRB.out
  have hcq : Chg (w.heap.size + 1) wr (wr.setRow (w.heap.size + 1) C) := ⟨rfl, rfl, rfl, by simp [World.setRow], fun j _ hj => setRow_other wr (w.heap.size + 1) j C hj⟩
  have HBF : Hid (Below w.heap.size w (wr.setRow (w.heap.size + 1) C)) := (HWB.out _ HB.out).trans (hcq.below (by omega) (HWB.out _ HB.out).size)
  clear hOB hSF hC hcq HS
  go_wp2_with (first | refine wpList_load_row rfl 73 (.tmp 3) rfl P rfl 73 C (0, 0) _ HOBl.out Tryz.underlying73 rfl HI.out ?_ | refine wpList_store_row rfl 73 (.tmp 2) (.tmp 278) rfl (w.heap.size + 1) C rfl rfl 73 _ HRB.out HI.out HS5.out HC1.out ?_)
  refine ⟨rfl, .agg C, one_result _ _ (w.heap.size + 1) C rfl HRW.out HI.out, S, by rw [HCd.out], fun k hk => ?_, HBF.out⟩
  rw [HSF.out]
  by_cases k4 : k = 4
  ·subst k4
   rw [sec4 LT LI LF LG LE LL LD t p q s ht.1]
   rfl
  by_cases k5 : k = 5
  ·subst k5
   rw [sec5 LT LI LF LG LE LL LD t p q s hq.1]
   rfl
  by_cases k8 : k = 8
  ·subst k8
   rw [sec8 LT LI LF LG LE LL LD t p q s hs.1]
   rfl
  have h := secs_eq LT LI LF LG LE LL LD nT nI nF nG nE nL nD t p q s F9 HF9.out HLT.out HLI.out HLF.out HLG.out HLE.out HLL.out HLD.out k hk k4 k5 k8
  rw [← HMN.out] at h
  unfold updF
  rw [if_neg k8, if_neg k5, if_neg k4]
  exact h
 have HE1 : Hid (SX wr P (updF (updF (mny mn F9 12) 4 (if 0 < t then uB 1 ++ [112] ++ [0] ++ uB t.toNat else [])) 5 (if 0 < q then uB 1 ++ [1] ++ uB p.toNat ++ uB q.toNat else []))) := by
  unfold Hid
  rw [if_neg hif5]
  exact HS.out.start 5 (by have h := secs_nil LT LI LF LG LE LL LD nT nI nF nG nE nL nD F9 HF9.out 5 (by omega); rw [← HMN.out] at h; exact h)
 clear HS
 have HS : Hid (type_of% HE1.out) := HE1.out
 clear HE1
 by_cases hif8 : 0 < s
 ·skip
  have hif := hif8
  have HC1 : Hid (Calls Tryz.prog 29 #[.int .i64 (s - 1)] wr (Txt wr (uB (s - 1).toNat))) := dU (s - 1) (by omega) (by omega) wr
  go_wp2_with fail
  refine HC1.out.mono ?_
  rintro r y1 ⟨t1, rfl, ht1, b1⟩
  have HA1 : Hid (Below wr.heap.size wr y1) := b1
  have HNN : Hid (nums t1 = uB (s - 1).toNat) := ht1
  have hf1 : y1.frozen? ⟨P, 8, none⟩ = false := (HS.out.under b1 HS.out.lt).frozen 8
  obtain ⟨v, hv, _⟩ := (HS.out.under b1 HS.out.lt).get 8 (by omega)
  have HE1 : Hid (SX (y1.setCell ⟨P, 8, none⟩ (.string t1)) P (updF (updF (updF (mny mn F9 12) 4 (if 0 < t then uB 1 ++ [112] ++ [0] ++ uB t.toNat else [])) 5 (if 0 < q then uB 1 ++ [1] ++ uB p.toNat ++ uB q.toNat else [])) 8 (if 0 < s then uB (s - 1).toNat else []))) := (HS.out.under b1 HS.out.lt).set 8 (by omega) _ (HNN.out.trans (if_pos hif).symm)
  have HE2 : Hid (Below P a (y1.setCell ⟨P, 8, none⟩ (.string t1))) := (HB.out.trans (b1.mono (by have := HB.out.size; omega))).setCell (p := ⟨P, 8, none⟩) (Nat.le_refl _) _
  clear ht1 b1 HC1 HS HB HA1 HNN c0 c1 c2 c3 c4 c5 c6 c7 c8 c9 c10
  go_upto_region 61 with fail
  obtain ⟨wv, hwv⟩ : ∃ wv, wv = y1.setCell ⟨P, 8, none⟩ (.string t1) := ⟨_, rfl⟩
  rw [← hwv] at HE1 HE2
  rw [← hwv]
  clear hwv hf1 hv
  obtain ⟨wr, hwv⟩ : ∃ wr, wr = wv := ⟨_, rfl⟩
  rw [← hwv] at HE1 HE2
  rw [← hwv]
  clear hwv
  have HS : Hid (type_of% HE1.out) := HE1.out
  have HB : Hid (type_of% HE2.out) := HE2.out
  clear HE1 HE2
  obtain ⟨c0, c1, c2, c3, c4, c5, c6, c7, c8, c9, c10⟩ := HMC.out _ HB.out
  clear hif
  obtain ⟨S, hOB, hSF⟩ := HS.out
  have HSF : Hid (∀ k, nums (S k) = (updF (updF (updF (mny mn F9 12) 4 (if 0 < t then uB 1 ++ [112] ++ [0] ++ uB t.toNat else [])) 5 (if 0 < q then uB 1 ++ [1] ++ uB p.toNat ++ uB q.toNat else [])) 8 (if 0 < s then uB (s - 1).toNat else [])) k) := hSF
  obtain ⟨C, hC⟩ : ∃ C : Array Value, C = #[.string (S 0), .string (S 1), .string (S 2), .string (S 3), .string (S 4), .string (S 5), .string (S 6), .string (S 7), .string (S 8), .string (S 9), .string (S 10), .string (S 11)] := ⟨_, rfl⟩
  have HCd : Hid (C = #[.string (S 0), .string (S 1), .string (S 2), .string (S 3), .string (S 4), .string (S 5), .string (S 6), .string (S 7), .string (S 8), .string (S 9), .string (S 10), .string (S 11)]) := hC
  have HOBl : Hid (wr.heap[P]? = some (.cells C 73 (0, 0))) := by unfold Hid; rw [hC]; exact hOB
  have HI : Hid ((Tryz.prog.info? 73).map (·.size) = some C.size) := by unfold Hid; rw [hC]; kernel_rfl
  have HC1 : Hid (C.all (·.oneCell') = true) := by unfold Hid; rw [hC]; simp [Value.oneCell']
  have HS5 : Hid ((#[.string ⟨#[]⟩, .string ⟨#[]⟩, .string ⟨#[]⟩, .string ⟨#[]⟩, .string ⟨#[]⟩, .string ⟨#[]⟩, .string ⟨#[]⟩, .string ⟨#[]⟩, .string ⟨#[]⟩, .string ⟨#[]⟩, .string ⟨#[]⟩, .string ⟨#[]⟩] : Array Value).size = C.size) := by unfold Hid; rw [hC]; rfl
  have HRB : Hid (wr.heap[w.heap.size + 1]? = some (.cells #[.string ⟨#[]⟩, .string ⟨#[]⟩, .string ⟨#[]⟩, .string ⟨#[]⟩, .string ⟨#[]⟩, .string ⟨#[]⟩, .string ⟨#[]⟩, .string ⟨#[]⟩, .string ⟨#[]⟩, .string ⟨#[]⟩, .string ⟨#[]⟩, .string ⟨#[]⟩] 73 (0, 0))) := HRC.out _ HB.out
  have HRW : Hid ((wr.setRow (w.heap.size + 1) C).heap[w.heap.size + 1]? = some (.cells C 73 (0, 0))) := setRow_heap wr (w.heap.size + 1) _ C _ _ HRB.out
  have hcq : Chg (w.heap.size + 1) wr (wr.setRow (w.heap.size + 1) C) := ⟨rfl, rfl, rfl, by simp [World.setRow], fun j _ hj => setRow_other wr (w.heap.size + 1) j C hj⟩
  have HBF : Hid (Below w.heap.size w (wr.setRow (w.heap.size + 1) C)) := (HWB.out _ HB.out).trans (hcq.below (by omega) (HWB.out _ HB.out).size)
  clear hOB hSF hC hcq HS
  go_wp2_with (first | refine wpList_load_row rfl 73 (.tmp 3) rfl P rfl 73 C (0, 0) _ HOBl.out Tryz.underlying73 rfl HI.out ?_ | refine wpList_store_row rfl 73 (.tmp 2) (.tmp 278) rfl (w.heap.size + 1) C rfl rfl 73 _ HRB.out HI.out HS5.out HC1.out ?_)
  refine ⟨rfl, .agg C, one_result _ _ (w.heap.size + 1) C rfl HRW.out HI.out, S, by rw [HCd.out], fun k hk => ?_, HBF.out⟩
  rw [HSF.out]
  by_cases k4 : k = 4
  ·subst k4
   rw [sec4 LT LI LF LG LE LL LD t p q s ht.1]
   rfl
  by_cases k5 : k = 5
  ·subst k5
   rw [sec5 LT LI LF LG LE LL LD t p q s hq.1]
   rfl
  by_cases k8 : k = 8
  ·subst k8
   rw [sec8 LT LI LF LG LE LL LD t p q s hs.1]
   rfl
  have h := secs_eq LT LI LF LG LE LL LD nT nI nF nG nE nL nD t p q s F9 HF9.out HLT.out HLI.out HLF.out HLG.out HLE.out HLL.out HLD.out k hk k4 k5 k8
  rw [← HMN.out] at h
  unfold updF
  rw [if_neg k8, if_neg k5, if_neg k4]
  exact h
 have HE1 : Hid (SX wr P (updF (updF (updF (mny mn F9 12) 4 (if 0 < t then uB 1 ++ [112] ++ [0] ++ uB t.toNat else [])) 5 (if 0 < q then uB 1 ++ [1] ++ uB p.toNat ++ uB q.toNat else [])) 8 (if 0 < s then uB (s - 1).toNat else []))) := by
  unfold Hid
  rw [if_neg hif8]
  exact HS.out.start 8 (by have h := secs_nil LT LI LF LG LE LL LD nT nI nF nG nE nL nD F9 HF9.out 8 (by omega); rw [← HMN.out] at h; exact h)
 clear HS
 have HS : Hid (type_of% HE1.out) := HE1.out
 clear HE1
 obtain ⟨S, hOB, hSF⟩ := HS.out
 have HSF : Hid (∀ k, nums (S k) = (updF (updF (updF (mny mn F9 12) 4 (if 0 < t then uB 1 ++ [112] ++ [0] ++ uB t.toNat else [])) 5 (if 0 < q then uB 1 ++ [1] ++ uB p.toNat ++ uB q.toNat else [])) 8 (if 0 < s then uB (s - 1).toNat else [])) k) := hSF
 obtain ⟨C, hC⟩ : ∃ C : Array Value, C = #[.string (S 0), .string (S 1), .string (S 2), .string (S 3), .string (S 4), .string (S 5), .string (S 6), .string (S 7), .string (S 8), .string (S 9), .string (S 10), .string (S 11)] := ⟨_, rfl⟩
 have HCd : Hid (C = #[.string (S 0), .string (S 1), .string (S 2), .string (S 3), .string (S 4), .string (S 5), .string (S 6), .string (S 7), .string (S 8), .string (S 9), .string (S 10), .string (S 11)]) := hC
 have HOBl : Hid (wr.heap[P]? = some (.cells C 73 (0, 0))) := by unfold Hid; rw [hC]; exact hOB
 have HI : Hid ((Tryz.prog.info? 73).map (·.size) = some C.size) := by unfold Hid; rw [hC]; kernel_rfl
 have HC1 : Hid (C.all (·.oneCell') = true) := by unfold Hid; rw [hC]; simp [Value.oneCell']
 have HS5 : Hid ((#[.string ⟨#[]⟩, .string ⟨#[]⟩, .string ⟨#[]⟩, .string ⟨#[]⟩, .string ⟨#[]⟩, .string ⟨#[]⟩, .string ⟨#[]⟩, .string ⟨#[]⟩, .string ⟨#[]⟩, .string ⟨#[]⟩, .string ⟨#[]⟩, .string ⟨#[]⟩] : Array Value).size = C.size) := by unfold Hid; rw [hC]; rfl
 have HRB : Hid (wr.heap[w.heap.size + 1]? = some (.cells #[.string ⟨#[]⟩, .string ⟨#[]⟩, .string ⟨#[]⟩, .string ⟨#[]⟩, .string ⟨#[]⟩, .string ⟨#[]⟩, .string ⟨#[]⟩, .string ⟨#[]⟩, .string ⟨#[]⟩, .string ⟨#[]⟩, .string ⟨#[]⟩, .string ⟨#[]⟩] 73 (0, 0))) := HRC.out _ HB.out
 have HRW : Hid ((wr.setRow (w.heap.size + 1) C).heap[w.heap.size + 1]? = some (.cells C 73 (0, 0))) := setRow_heap wr (w.heap.size + 1) _ C _ _ HRB.out
 have hcq : Chg (w.heap.size + 1) wr (wr.setRow (w.heap.size + 1) C) := ⟨rfl, rfl, rfl, by simp [World.setRow], fun j _ hj => setRow_other wr (w.heap.size + 1) j C hj⟩
 have HBF : Hid (Below w.heap.size w (wr.setRow (w.heap.size + 1) C)) := (HWB.out _ HB.out).trans (hcq.below (by omega) (HWB.out _ HB.out).size)
 clear hOB hSF hC hcq HS
 go_wp2_with (first | refine wpList_load_row rfl 73 (.tmp 3) rfl P rfl 73 C (0, 0) _ HOBl.out Tryz.underlying73 rfl HI.out ?_ | refine wpList_store_row rfl 73 (.tmp 2) (.tmp 278) rfl (w.heap.size + 1) C rfl rfl 73 _ HRB.out HI.out HS5.out HC1.out ?_)
 refine ⟨rfl, .agg C, one_result _ _ (w.heap.size + 1) C rfl HRW.out HI.out, S, by rw [HCd.out], fun k hk => ?_, HBF.out⟩
 rw [HSF.out]
 by_cases k4 : k = 4
 ·subst k4
  rw [sec4 LT LI LF LG LE LL LD t p q s ht.1]
  rfl
 by_cases k5 : k = 5
 ·subst k5
  rw [sec5 LT LI LF LG LE LL LD t p q s hq.1]
  rfl
 by_cases k8 : k = 8
 ·subst k8
  rw [sec8 LT LI LF LG LE LL LD t p q s hs.1]
  rfl
 have h := secs_eq LT LI LF LG LE LL LD nT nI nF nG nE nL nD t p q s F9 HF9.out HLT.out HLI.out HLF.out HLG.out HLE.out HLL.out HLD.out k hk k4 k5 k8
 rw [← HMN.out] at h
 unfold updF
 rw [if_neg k8, if_neg k5, if_neg k4]
 exact h
end Go.Proofs.YtakpkdckajjooaaGreatDoor
