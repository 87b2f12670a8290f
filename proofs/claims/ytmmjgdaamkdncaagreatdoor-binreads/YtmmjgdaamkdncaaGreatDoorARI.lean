import Derived.Test.YtmmjgdaamkdncaaGreatDoorARF
namespace Go.Proofs.YtmmjgdaamkdncaaGreatDoor
set_option maxHeartbeats 8000000
set_option maxRecDepth 1000000
open Go.RowKit
set_option linter.unusedVariables false
theorem ylZ (P M C : Nat) (A : Array Value) (l : List Int) (n : Int) (w : World) (h : CL w P l n 0) (hM : MX w M A) (hA4 : A[4]? = some (.int .i64 0)) (hA5 : A[5]? = some (.int .i64 0)) :
  Calls Tryz.prog 16 #[.pointer (some ⟨P,0,none⟩),.int .i64 5,.pointer (some ⟨M,0,none⟩),.pointer (some ⟨C,0,none⟩)] w fun r w' => r = .returned (.tuple #[]) /\ CL w' P (xvB l 0).2.1 n (xvB l 0).2.2 /\ ChgA [P,M] w w' /\ ∃ x y : Int,MX w' M ((A.setIfInBounds 4 (.int .i64 x)).setIfInBounds 5 (.int .i64 y)) /\ inI x /\ inI y /\ ((xvB l 0).2.2 = 0 -> (x,y) = (xvB l 0).1) := by
 have hPw := h.lt
 have hMP : M ≠ P := h.apart hM (by decide)
 obtain ⟨v,hv⟩ : ∃ v,v = w.alloc (.cells #[.int .i64 0,.int .i64 16,.int .i64 16,.int .i64 16,.int .i64 1,.int .i64 1,.int .i64 8,.int .i64 8,.int .i64 0,.int .i64 4,.int .i64 16,.int .i64 4] 91) := ⟨_,rfl⟩
 have hlim : (w.alloc (.cells #[.int .i64 0,.int .i64 16,.int .i64 16,.int .i64 16,.int .i64 1,.int .i64 1,.int .i64 8,.int .i64 8,.int .i64 0,.int .i64 4,.int .i64 16,.int .i64 4] 91)).cell? ⟨w.heap.size,5,none⟩ = some (.int .i64 1) := xgG w 5 1 rfl
 have b : Below w.heap.size w v := by rw [hv]; exact (Below.refl _ _).alloc (Nat.le_refl _) _
 have HV : Hid (v = w.alloc (.cells #[.int .i64 0,.int .i64 16,.int .i64 16,.int .i64 16,.int .i64 1,.int .i64 1,.int .i64 8,.int .i64 8,.int .i64 0,.int .i64 4,.int .i64 16,.int .i64 4] 91)) := hv
 have hL0 : CL v P l n 0 := h.heap (b.block P hPw)
 have HX0 : Hid (MX v M A) := hM.kp (Kp.below (fun _ => true) b) rfl
 have HW0 : Hid (ChgA [P,M] w v) := (ChgA.refl _ _).below b (Nat.le_refl _)
 have HC := kZz (xdN P 1 l n 0 v hL0)
 have hfew := xbQ 1 (by omega) l 0 h.byte
 have hnz := xoT 1 l 0
 unfold xvB
 generalize xaN 1 l 0 = z at HC hfew hnz ⊢
 obtain ⟨m0,l1,a1⟩ := z
 dsimp only at HC hfew hnz ⊢
 have HA4 : Hid (A[4]? = some (.int .i64 0)) := hA4
 have HA5 : Hid (A[5]? = some (.int .i64 0)) := hA5
 have HX0' : Hid (MX v M ((A.setIfInBounds 4 (.int .i64 0)).setIfInBounds 5 (.int .i64 0))) := by unfold Hid; rw [xdS A 4 _ hA4,xdS A 5 _ hA5]; exact HX0.out
 clear hA4 hA5
 rcases (by omega : m0 = 0 \/ m0 = 1) with rfl | rfl
 ·rw [if_pos rfl]
  dsimp only
  clear h hM hv b hL0 hfew hnz HX0
  go_enter Tryz.func16,Tryz.ntmps16
  go_wp2_with fail
  rw [<- HV.out]
  refine HC.out.mono ?_
  rintro r w1 ⟨rfl,h1,c1⟩
  have HL1 : Hid (CL w1 P l1 n a1) := h1
  have HX1 : Hid (MX w1 M ((A.setIfInBounds 4 (.int .i64 0)).setIfInBounds 5 (.int .i64 0))) := HX0'.out.chg c1 hMP
  have HW1 : Hid (ChgA [P,M] w w1) := HW0.out.chg c1 (Or.inl (by simp))
  clear h1 c1 HC HX0' HW0 HV hlim
  go_wp2
  go_loopw [36] (fun iv wr => iv = .int .i64 0 /\ Hid (wr = w1)) (fun _ _ => 0)
  case atStart => exact ⟨rfl,rfl⟩
  case round =>
   obtain ⟨rfl,HE⟩ := hrel
   have e := HE.out
   subst e
   go_wp2
   go_end0
   exact ⟨rfl,HL1.out,HW1.out,0,0,HX1.out,⟨by omega,by omega⟩,⟨by omega,by omega⟩,fun _ => by first | rfl | exact ⟨rfl,rfl⟩⟩
 ·rw [if_neg (by decide)]
  obtain rfl : a1 = 0 := hnz (by decide)
  try dsimp only
  obtain ⟨l2,a2,q1⟩ : ∃ l2 a2,xaA 1 6 l1 0 = (l2,a2) := ⟨_,_,rfl⟩
  obtain ⟨x,l3,a3,q2⟩ : ∃ x l3 a3,xaK l2 a2 = (x,l3,a3) := ⟨_,_,_,rfl⟩
  obtain ⟨y,l4,a4,q3⟩ : ∃ y l4 a4,xaK l3 a3 = (y,l4,a4) := ⟨_,_,_,rfl⟩
  obtain ⟨a5,q4⟩ : ∃ a5,a5 = xcP (decide (8 < y)) 2 a4 := ⟨_,rfl⟩
  obtain ⟨a6,q5⟩ : ∃ a6,a6 = xcP (decide (y < x)) 4 a5 := ⟨_,rfl⟩
  simp only [q1,q2,q3,<- q4,<- q5]
  have Q1 := kZz q1
  have Q2 := kZz q2
  have Q3 := kZz q3
  have Q4 := kZz q4
  have Q5 := kZz q5
  clear q1 q2 q3 q4 q5
  clear h hM hv b hL0 hfew hnz HX0
  go_enter Tryz.func16,Tryz.ntmps16
  go_wp2_with fail
  rw [<- HV.out]
  refine HC.out.mono ?_
  rintro r w1 ⟨rfl,h1,c1⟩
  have HL1 : Hid (CL w1 P l1 n 0) := h1
  have HX1 : Hid (MX w1 M ((A.setIfInBounds 4 (.int .i64 0)).setIfInBounds 5 (.int .i64 0))) := HX0'.out.chg c1 hMP
  have HW1 : Hid (ChgA [P,M] w w1) := HW0.out.chg c1 (Or.inl (by simp))
  clear h1 c1 HC HX0' HW0 HV hlim
  go_wp2
  go_loopw [36] (fun iv wr => (iv = .int .i64 0 /\ Hid (wr = w1)) \/ (iv = .int .i64 1 /\ Hid (CL wr P l4 n a6) /\ Hid (MX wr M ((A.setIfInBounds 4 (.int .i64 x)).setIfInBounds 5 (.int .i64 y))) /\ Hid (ChgA [P,M] w wr) /\ Hid (inI x /\ inI y))) (fun iv _ => 1 - (intOf iv).toNat)
  case atStart => exact Or.inl ⟨rfl,rfl⟩
  case round =>
   rcases hrel with ⟨rfl,HE⟩ | ⟨rfl,HLF,HXF,HWF,HIF⟩
   ·have e := HE.out
    subst e
    clear HE
    have HLR : Hid (CL wr P l1 n 0) := HL1
    have HXR := HX1
    have HW := HW1
    clear HL1 HX1 HW1
    obtain ⟨e0,e1,e2⟩ := (HLR.out.choose_spec.2.2).cell
    clear e0 e1
    have HG0 : Hid (ChgA [P] wr wr) := ChgA.refl _ _
    have HL0 : Hid (CL wr P l1 n 0) := HLR.out
    have arr_4x : ((A.setIfInBounds 4 (.int .i64 0)).setIfInBounds 5 (.int .i64 0)).setIfInBounds 4 (.int .i64 x) = ((A.setIfInBounds 4 (.int .i64 x)).setIfInBounds 5 (.int .i64 0)) := by
     rw [Array.setIfInBounds_comm _ _ (by decide : (5 : Nat) ≠ 4),xcU]
    have arr_5y : ((A.setIfInBounds 4 (.int .i64 x)).setIfInBounds 5 (.int .i64 0)).setIfInBounds 5 (.int .i64 y) = ((A.setIfInBounds 4 (.int .i64 x)).setIfInBounds 5 (.int .i64 y)) := xcU _ _ _ _
    have AR4 : Hid (((A.setIfInBounds 4 (.int .i64 0)).setIfInBounds 5 (.int .i64 0))[4]? = some (.int .i64 0)) := by
     unfold Hid
     rw [Array.getElem?_setIfInBounds,if_neg (by decide)]
     exact xbV A 4 _ _ HA4.out
    have AR5 : Hid (((A.setIfInBounds 4 (.int .i64 x)).setIfInBounds 5 (.int .i64 0))[5]? = some (.int .i64 0)) := by
     unfold Hid
     refine xbV (u := .int .i64 0) _ 5 _ ?_
     rw [Array.getElem?_setIfInBounds,if_neg (by decide)]
     exact HA5.out
    have AR55 : Hid (((A.setIfInBounds 4 (.int .i64 x)).setIfInBounds 5 (.int .i64 y))[5]? = some (.int .i64 y)) := by
     unfold Hid
     refine xbV (u := .int .i64 0) _ 5 _ ?_
     rw [Array.getElem?_setIfInBounds,if_neg (by decide)]
     exact HA5.out
    have AR44 : Hid (((A.setIfInBounds 4 (.int .i64 x)).setIfInBounds 5 (.int .i64 y))[4]? = some (.int .i64 x)) := by
     unfold Hid
     rw [Array.getElem?_setIfInBounds,if_neg (by decide)]
     exact xbV A 4 _ _ HA4.out
    have HAR4 := kZz arr_4x
    have HAR5 := kZz arr_5y
    clear arr_4x arr_5y HG0
    have HG0 : Hid (ChgA [P,M] w wr) := HW
    have HM0 : Hid (MX wr M ((A.setIfInBounds 4 (.int .i64 0)).setIfInBounds 5 (.int .i64 0))) := HXR
    have HK1 := kZz (xeU P 1 6 l1 n 0 wr HL0.out)
    rw [Q1.out] at HK1
    dsimp only at HK1
    go_wp2_with fail
    refine HK1.out.mono ?_
    rintro r w1 ⟨rfl,h1,c1⟩
    have HG1 : Hid (ChgA [P,M] w w1) := HG0.out.chg c1 (Or.inl (by simp))
    have HM1 : Hid (MX w1 M ((A.setIfInBounds 4 (.int .i64 0)).setIfInBounds 5 (.int .i64 0))) := HM0.out.chg c1 hMP
    have HL1 : Hid (CL w1 P l2 n a2) := h1
    clear h1 c1 HG0 HM0 HL0
    clear e2
    have hxx := xcB l2 a2 HL1.out.byte
    rw [Q2.out] at hxx
    dsimp only at hxx
    have HK2 := kZz (xoC P l2 n a2 w1 HL1.out)
    rw [Q2.out] at HK2
    dsimp only at HK2
    go_wp2_with fail
    refine HK2.out.mono ?_
    rintro r w2 ⟨rfl,h1,c1⟩
    have HG2 : Hid (ChgA [P,M] w w2) := HG1.out.chg c1 (Or.inl (by simp))
    have HM2 : Hid (MX w2 M ((A.setIfInBounds 4 (.int .i64 0)).setIfInBounds 5 (.int .i64 0))) := HM1.out.chg c1 hMP
    have HL2 : Hid (CL w2 P l3 n a3) := h1
    clear h1 c1 HG1 HM1 HL1
    have hX3 : MX w2 M ((A.setIfInBounds 4 (.int .i64 0)).setIfInBounds 5 (.int .i64 0)) := HM2.out
    have y4 : w2.cell? ⟨M,4,none⟩ = some (.int .i64 0) := by rw [hX3.cell 4]; exact AR4.out
    have f4 := hX3.frozen 4
    obtain ⟨w3,hv3⟩ : ∃ v,v = w2.setCell ⟨M,4,none⟩ (.int .i64 x) := ⟨_,rfl⟩
    have HV3 : Hid (w3 = w2.setCell ⟨M,4,none⟩ (.int .i64 x)) := hv3
    have hS : Chg M w2 w3 := by rw [hv3]; exact Chg.set _ _ _ _
    have HM3 : Hid (MX w3 M ((A.setIfInBounds 4 (.int .i64 x)).setIfInBounds 5 (.int .i64 0))) := by
     unfold Hid
     rw [hv3,<- HAR4.out]
     exact hX3.set 4 (.int .i64 x)
    have HL3 : Hid (CL w3 P l3 n a3) := HL2.out.chg hS hMP.symm
    have HG3 : Hid (ChgA [P,M] w w3) := HG2.out.chg hS (Or.inl (by simp))
    clear hX3 hv3 hS HM2 HL2 HG2
    have hyy := xcB l3 a3 HL3.out.byte
    rw [Q3.out] at hyy
    dsimp only at hyy
    have HK4 := kZz (xoC P l3 n a3 w3 HL3.out)
    rw [Q3.out] at HK4
    dsimp only at HK4
    go_wp2_with fail
    rw [<- HV3.out]
    clear HV3 y4 f4
    refine HK4.out.mono ?_
    rintro r w4 ⟨rfl,h1,c1⟩
    have HG4 : Hid (ChgA [P,M] w w4) := HG3.out.chg c1 (Or.inl (by simp))
    have HM4 : Hid (MX w4 M ((A.setIfInBounds 4 (.int .i64 x)).setIfInBounds 5 (.int .i64 0))) := HM3.out.chg c1 hMP
    have HL4 : Hid (CL w4 P l4 n a4) := h1
    clear h1 c1 HG3 HM3 HL3
    have hX5 : MX w4 M ((A.setIfInBounds 4 (.int .i64 x)).setIfInBounds 5 (.int .i64 0)) := HM4.out
    have y5 : w4.cell? ⟨M,5,none⟩ = some (.int .i64 0) := by rw [hX5.cell 5]; exact AR5.out
    have f5 := hX5.frozen 5
    obtain ⟨w5,hv5⟩ : ∃ v,v = w4.setCell ⟨M,5,none⟩ (.int .i64 y) := ⟨_,rfl⟩
    have HV5 : Hid (w5 = w4.setCell ⟨M,5,none⟩ (.int .i64 y)) := hv5
    have hS : Chg M w4 w5 := by rw [hv5]; exact Chg.set _ _ _ _
    have HM5 : Hid (MX w5 M ((A.setIfInBounds 4 (.int .i64 x)).setIfInBounds 5 (.int .i64 y))) := by
     unfold Hid
     rw [hv5,<- HAR5.out]
     exact hX5.set 5 (.int .i64 y)
    have HL5 : Hid (CL w5 P l4 n a4) := HL4.out.chg hS hMP.symm
    have HG5 : Hid (ChgA [P,M] w w5) := HG4.out.chg hS (Or.inl (by simp))
    clear hX5 hv5 hS HM4 HL4 HG4
    have z5 : (w4.setCell ⟨M,5,none⟩ (.int .i64 y)).cell? ⟨M,5,none⟩ = some (.int .i64 y) := by rw [<- HV5.out,HM5.out.cell 5]; exact AR55.out
    go_wp2_with fail
    rw [<- HV5.out]
    clear HV5 y5 f5 z5
    refine (HL5.out.say _ _).mono ?_
    rintro r w6 ⟨rfl,h1,c1⟩
    replace h1 : CL w6 P l4 n a5 := by rw [Q4.out]; exact h1
    have HG6 : Hid (ChgA [P,M] w w6) := HG5.out.chg c1 (Or.inl (by simp))
    have HM6 : Hid (MX w6 M ((A.setIfInBounds 4 (.int .i64 x)).setIfInBounds 5 (.int .i64 y))) := HM5.out.chg c1 hMP
    have HL6 : Hid (CL w6 P l4 n a5) := h1
    clear h1 c1 HG5 HM5 HL5
    go_wp2_with fail
    refine xaC (S := fun w' => w'.cell? ⟨M,4,none⟩ = some (.int .i64 x) /\ w'.cell? ⟨M,5,none⟩ = some (.int .i64 y)) (z := 10) (by kernel_rfl) ?_
    obtain ⟨z0,hz0'⟩ : ∃ z,z = World.drew w6 := ⟨_,rfl⟩
    have HC0 : Hid (Chg P w6 z0) := by rw [hz0']; exact ⟨rfl,rfl,rfl,Nat.le_refl _,fun _ _ _ => rfl⟩
    have HLZ : Hid (CL z0 P l4 n a5) := HL6.out.heap (by rw [hz0']; rfl)
    have HMZ : Hid (MX z0 M ((A.setIfInBounds 4 (.int .i64 x)).setIfInBounds 5 (.int .i64 y))) := HM6.out.chg HC0.out hMP
    have HGZ : Hid (ChgA [P,M] w z0) := HG6.out.chg HC0.out (Or.inl (by simp))
    have hHeld : (fun w' => w'.cell? ⟨M,4,none⟩ = some (.int .i64 x) /\ w'.cell? ⟨M,5,none⟩ = some (.int .i64 y)) z0 := ⟨by rw [HMZ.out.cell 4]; exact AR44.out,by rw [HMZ.out.cell 5]; exact AR55.out⟩
    rw [<- hz0']
    clear hz0' HL6 HM6 HG6
    refine tk (i := 0) (h := ?_)
    refine tk (i := 1) (h := ?_)
    refine tk (i := 2) (h := ?_)
    refine tk (i := 3) (h := ?_)
    refine ld (i := 4) [9,10] (h := ?_)
    refine tk (i := 5) (h := ?_)
    refine tk (i := 6) (h := ?_)
    refine tk (i := 7) (h := ?_)
    refine ld (i := 8) [9,10] (h := ?_)
    refine tk (i := 9) (h := ?_)
    clear hHeld
    refine xnQ rfl (by kernel_rfl) (by kernel_rfl) (by kernel_rfl) rfl (by go_simp) (HLZ.out.say (decide (y < x)) 4) ?_
    rintro r z1 ⟨rfl,h1,c1⟩
    refine ⟨_,rfl,?_⟩
    have HLF : Hid (CL z1 P l4 n a6) := by unfold Hid; rw [Q5.out]; exact h1
    have HXF : Hid (MX z1 M ((A.setIfInBounds 4 (.int .i64 x)).setIfInBounds 5 (.int .i64 y))) := HMZ.out.chg c1 hMP
    have HWF : Hid (ChgA [P,M] w z1) := HGZ.out.chg c1 (Or.inl (by simp))
    clear h1 c1 HLZ HMZ HGZ HC0 HLR HXR HW
    simp only [Act.put,List.setIfInBounds_toArray,List.set_cons_zero,List.set_cons_succ]
    go_wp2
    go_roundw
    case rel => exact Or.inr ⟨by go_num,HLF,HXF,HWF,⟨⟨by omega,by omega⟩,⟨by omega,by omega⟩⟩⟩
    case measure => simp [intOf]
   ·go_wp2
    go_end0
    exact ⟨rfl,HLF.out,HWF.out,x,y,HXF.out,HIF.out.1,HIF.out.2,fun _ => by first | rfl | exact ⟨rfl,rfl⟩⟩
theorem ykA (P M C : Nat) (A : Array Value) (l : List Int) (n : Int) (w : World) (h : CL w P l n 0) (hM : MX w M A) (hA : A[6]? = some (.slice none 0 0)) :
  Calls Tryz.prog 16 #[.pointer (some ⟨P,0,none⟩),.int .i64 6,.pointer (some ⟨M,0,none⟩),.pointer (some ⟨C,0,none⟩)] w fun r w' => r = .returned (.tuple #[]) /\ CL w' P (xaL 8 xgT l 0).2.1 n (xaL 8 xgT l 0).2.2 /\ ChgA [P,M] w w' /\ ∃ (o : Option Addr) (j cap : Nat),MX w' M (A.setIfInBounds 6 (.slice o j cap)) /\ ((xaL 8 xgT l 0).2.2 = 0 -> ∃ L : List GloD,L.map GloD.val = (xaL 8 xgT l 0).1 /\ LR w' w.heap.size 75 3 GloD.cells GloD.ok o j cap L) := by
 obtain ⟨i0,hi,hz0,hz1,hz2⟩ := info_parts Tryz.infoLglo
 have hPw := h.lt
 have hMP : M ≠ P := h.apart hM (by decide)
 obtain ⟨v,hv⟩ : ∃ v,v = w.alloc (.cells #[.int .i64 0,.int .i64 16,.int .i64 16,.int .i64 16,.int .i64 1,.int .i64 1,.int .i64 8,.int .i64 8,.int .i64 0,.int .i64 4,.int .i64 16,.int .i64 4] 91) := ⟨_,rfl⟩
 have hlim : (w.alloc (.cells #[.int .i64 0,.int .i64 16,.int .i64 16,.int .i64 16,.int .i64 1,.int .i64 1,.int .i64 8,.int .i64 8,.int .i64 0,.int .i64 4,.int .i64 16,.int .i64 4] 91)).cell? ⟨w.heap.size,6,none⟩ = some (.int .i64 8) := xgG w 6 8 rfl
 have b : Below w.heap.size w v := by rw [hv]; exact (Below.refl _ _).alloc (Nat.le_refl _) _
 have HV : Hid (v = w.alloc (.cells #[.int .i64 0,.int .i64 16,.int .i64 16,.int .i64 16,.int .i64 1,.int .i64 1,.int .i64 8,.int .i64 8,.int .i64 0,.int .i64 4,.int .i64 16,.int .i64 4] 91)) := hv
 have hL0 : CL v P l n 0 := h.heap (b.block P hPw)
 have HX0 : Hid (MX v M A) := hM.kp (Kp.below (fun _ => true) b) rfl
 have HW0 : Hid (ChgA [P,M] w v) := (ChgA.refl _ _).below b (Nat.le_refl _)
 have HC := kZz (xdN P 8 l n 0 v hL0)
 have hfew := xbQ 8 (by omega) l 0 h.byte
 unfold xaL
 generalize xaN 8 l 0 = z at HC hfew ⊢
 obtain ⟨m0,l1,a1⟩ := z
 dsimp only at HC hfew ⊢
 obtain ⟨m,rfl⟩ : ∃ m : Nat,m0 = (m : Int) := ⟨m0.toNat,by omega⟩
 rw [Int.toNat_natCast]
 have hm16 : m <= 8 := by omega
 have HA : Hid (A[6]? = some (.slice none 0 0)) := hA
 clear h hM hA hv b hL0 hfew
 go_enter Tryz.func16,Tryz.ntmps16
 go_wp2_with fail
 rw [<- HV.out]
 refine HC.out.mono ?_
 rintro r w1 ⟨rfl,h1,c1⟩
 have HL1 : Hid (CL w1 P l1 n a1) := h1
 have HX1 : Hid (MX w1 M (A.setIfInBounds 6 (.slice none 0 0))) := by unfold Hid; rw [xdS A 6 _ HA.out]; exact HX0.out.chg c1 hMP
 have HW1 : Hid (ChgA [P,M] w w1) := HW0.out.chg c1 (Or.inl (by simp))
 clear h1 c1 HC HX0 HW0 HV hlim
 go_wp2
 go_loopw [36] (fun iv wr => ∃ i cap : Nat,∃ o : Option Addr,∃ L : List GloD,∃ li : List Int,∃ ai : Int,iv = .int .i64 (i : Int) /\ i <= m /\ Hid (MX wr M (A.setIfInBounds 6 (.slice o i cap))) /\ Hid (CL wr P li n ai) /\ Hid (SecR xgT GloD.val wr w.heap.size 75 3 GloD.cells GloD.ok m l1 a1 i o cap L li ai) /\ Hid (ChgA [P,M] w wr)) (fun iv _ => m - (intOf iv).toNat)
 case atStart => exact ⟨0,0,none,[],l1,a1,rfl,by omega,HX1,HL1,SecR.start _ _ _ _ _ _ _ _ _,HW1⟩
 case round =>
  obtain ⟨i,cap,o,L,li,ai,rfl,him,HXR,HLR,HSR,HW⟩ := hrel
  clear HX1 HL1 HW1
  obtain ⟨e0,e1,e2⟩ := (HLR.out.choose_spec.2.2).cell
  clear e0 e1
  by_cases hlt : i < m
  ·by_cases h0 : ai = 0
   ·subst h0
    have HLL : Hid (LR wr w.heap.size 75 3 GloD.cells GloD.ok o i cap L) := (HSR.out.list rfl).2
    have hcl := (HLL.out.capm).1
    have hcm := (HLL.out.capm).2
    unfold maxLen at hcm
    have hsr := HW.out.size
    have y6 : wr.cell? ⟨M,6,none⟩ = some (.slice o i cap) := by rw [HXR.out.cell 6]; exact xbV A 6 _ _ HA.out
    go_wp2_with fail
    refine xaC (S := fun w' => w'.cell? ⟨M,6,none⟩ = some (.slice o i cap)) (z := 11) (by kernel_rfl) ?_
    obtain ⟨z0,hz0'⟩ : ∃ z,z = World.drew wr := ⟨_,rfl⟩
    have HS0 : Hid (z0.cell? ⟨M,6,none⟩ = some (.slice o i cap)) := by rw [hz0']; exact y6
    have hC0 : CL z0 P li n 0 := HLR.out.heap (by rw [hz0']; rfl)
    have HC0 : Hid (Chg P wr z0) := by rw [hz0']; exact ⟨rfl,rfl,rfl,Nat.le_refl _,fun _ _ _ => rfl⟩
    have HCALL := kZz (ydY P li n 0 z0 hC0)
    clear hC0 e2 y6
    rw [<- hz0']
    clear hz0'
    have hHeld : (fun w' => w'.cell? ⟨M,6,none⟩ = some (.slice o i cap)) z0 := HS0.out
    refine tk (i := 0) (h := ?_)
    refine tk (i := 1) (h := ?_)
    refine tk (i := 2) (h := ?_)
    refine tk (i := 3) (h := ?_)
    refine ld (i := 4) [8,9,10,11] (h := ?_)
    refine tk (i := 5) (h := ?_)
    refine xgX (i := 6) rfl (by kernel_rfl) rfl (by go_simp) HCALL.out ?_
    rintro r z1 ⟨rfl,h1,c1⟩
    have HC1 : Hid (Chg P wr z1) := HC0.out.trans c1
    have hMX1 : MX z1 M (A.setIfInBounds 6 (.slice o i cap)) := HXR.out.chg HC1.out hMP
    have HX1 := kZz hMX1
    have HS1 : Hid (z1.cell? ⟨M,6,none⟩ = some (.slice o i cap)) := by unfold Hid; rw [hMX1.cell 6]; exact xbV A 6 _ _ HA.out
    have qC : Kp (fun t => t != 45) wr z1 := Kp.cur HLR.out HC1.out _ (by decide)
    have HL1 := kZz h1
    have HLL1 : Hid (LR z1 w.heap.size 75 3 GloD.cells GloD.ok o i cap L) := HLL.out.kp qC (by decide) (fun d hd => hd)
    have hs1 : w.heap.size <= z1.heap.size := Nat.le_trans hsr HC1.out.size
    have HW1 : Hid (ChgA [P,M] w z1) := HW.out.chg HC1.out (Or.inl (by simp))
    have HOK : Hid ((xgT li 0).2.2 = 0 -> GloD.ok z1 ⟨(xgT li 0).1.k,(xgT li 0).1.m,(xgT li 0).1.s⟩) := ydX li HLR.out.byte z1
    obtain ⟨x,hqn⟩ : ∃ x,x = (xgT li 0).1 := ⟨_,rfl⟩
    rw [<- hqn] at HOK
    rw [<- hqn]
    obtain ⟨gk,gm,gs⟩ := x
    have HD : Hid ((xgT li 0).2.2 = 0 -> GloD.val ⟨gk,gm,gs⟩ = (xgT li 0).1 /\ GloD.ok z1 ⟨gk,gm,gs⟩) := fun q0 => ⟨hqn,HOK.out q0⟩
    clear hqn HOK
    dsimp only
    clear h1 c1 qC hMX1 HCALL HC0 HS0
    clear hHeld
    refine ⟨_,rfl,HS1.out,fun hHeld => xaB ?_⟩
    have HS2 : Hid ((fun w' => w'.cell? ⟨M,6,none⟩ = some (.slice o i cap)) (z1.alloc (.cells #[.int .u8 gk,.bool gm,.int .i64 gs] 75))) := by
     unfold Hid
     dsimp only
     have bA : Below z1.heap.size z1 (z1.alloc (.cells #[.int .u8 gk,.bool gm,.int .i64 gs] 75)) := (Below.refl _ _).alloc (Nat.le_refl _) _
     rw [bA.cell (p := ⟨M,6,none⟩) HX1.out.lt]
     exact HS1.out
    refine xbT (i := 7) rfl (by kernel_rfl) rfl (fun K R hK => ?_)
    go_simp
    refine hK.out _ _ HS2.out (fun hHeld => xaB ?_)
    clear hK
    refine xbT (i := 8) rfl (by kernel_rfl) rfl (fun K R hK => ?_)
    refine wp_append_lies _ (.tmp 170) (.tmp 173) 25 rfl w.heap.size 75 i0 (.agg #[.int .u8 0,.bool false,.int .i64 0]) 3 16 Tryz.underlying25 hi hz0 hz1 hz2 rfl (by omega) _ i (L.flatMap GloD.cells) rfl (HLL1.out.own.alloc _) ⟨z1.heap.size,0,none⟩ 1 1 [.int .u8 gk,.bool gm,.int .i64 gs] rfl rfl (World.news_of_block (cs := #[.int .u8 gk,.bool gm,.int .i64 gs]) (t := 75) (fr := (0,0)) (heap_alloc_new z1 _)) (by simp [Value.oneCell']) (by omega) (by unfold maxLen; omega) (by omega) (by simp; omega) (z1.heap.size + 1) (by simp) ?_
    intro g capg z3 hown hgrow hat hlt3
    have bA : Below z1.heap.size z1 (z1.alloc (.cells #[.int .u8 gk,.bool gm,.int .i64 gs] 75)) := (Below.refl _ _).alloc (Nat.le_refl _) _
    have qB : Kp (fun t => t != 75) z1 z3 := (Kp.below _ bA).trans (Kp.grown (HLL1.out.own.alloc _) hgrow _ (by decide))
    have HX3 : Hid (MX z3 M (A.setIfInBounds 6 (.slice o i cap))) := HX1.out.kp qB (by decide)
    have HS3 : Hid (z3.cell? ⟨M,6,none⟩ = some (.slice o i cap)) := by unfold Hid; rw [HX3.out.cell 6]; exact xbV A 6 _ _ HA.out
    have HL3 : Hid (CL z3 P (xgT li 0).2.1 n (xgT li 0).2.2) := HL1.out.kp qB (by decide)
    have HW3 : Hid (ChgA [P,M] w z3) := (HW1.out.below bA hs1).grown (HLL1.out.own.alloc _) hgrow (Nat.le_refl _)
    have qA : Kp (far 75) z1 z3 := (Kp.below _ bA).trans (Kp.grown (HLL1.out.own.alloc _) hgrow _ (by decide))
    have HLL3 : Hid ((xgT li 0).2.2 = 0 -> GloD.val ⟨gk,gm,gs⟩ = (xgT li 0).1 /\ LR z3 w.heap.size 75 3 GloD.cells GloD.ok (some ⟨g,0,none⟩) (i + 1) capg (L ++ [⟨gk,gm,gs⟩])) := fun q0 => ⟨(HD.out q0).1,HLL1.out.app (fun d hd => hd) (HD.out q0).2 hown⟩
    clear hown hgrow hat hlt3 qA qB bA
    refine hK.out _ _ HS3.out (fun hHeld => xaB ?_)
    clear hK
    refine tk (i := 9) (h := ?_)
    refine tk (i := 10) (h := ?_)
    have y3 := HS3.out
    have f3 := HX3.out.frozen 6
    refine xbH rfl (by kernel_rfl) (by kernel_rfl) (by kernel_rfl) rfl (fun K R hK => ?_)
    go_simp
    refine hK.out _ _ ?_
    clear hK K R hHeld
    clear y3 f3
    have HS4 : Hid (Chg M z3 (z3.setCell ⟨M,6,none⟩ (.slice (some ⟨g,0,none⟩) (i + 1) capg))) := Chg.set _ _ _ _
    have HX4 : Hid (MX (z3.setCell ⟨M,6,none⟩ (.slice (some ⟨g,0,none⟩) (i + 1) capg)) M (A.setIfInBounds 6 (.slice (some ⟨g,0,none⟩) (i + 1) capg))) := by
     have := HX3.out.set 6 (.slice (some ⟨g,0,none⟩) (i + 1) capg)
     rw [xcU] at this
     exact this
    have HL4 : Hid (CL (z3.setCell ⟨M,6,none⟩ (.slice (some ⟨g,0,none⟩) (i + 1) capg)) P (xgT li 0).2.1 n (xgT li 0).2.2) := HL3.out.chg HS4.out hMP.symm
    have HW4 : Hid (ChgA [P,M] w (z3.setCell ⟨M,6,none⟩ (.slice (some ⟨g,0,none⟩) (i + 1) capg))) := HW3.out.chg HS4.out (Or.inl (by simp))
    have HR4 : Hid (SecR xgT GloD.val (z3.setCell ⟨M,6,none⟩ (.slice (some ⟨g,0,none⟩) (i + 1) capg)) w.heap.size 75 3 GloD.cells GloD.ok m l1 a1 (i + 1) (some ⟨g,0,none⟩) capg (L ++ [⟨gk,gm,gs⟩]) (xgT li 0).2.1 (xgT li 0).2.2) := HSR.out.more hlt fun q0 => ⟨(HLL3.out q0).1,by
     have qM : Kp (fun t => t != 30) z3 (z3.setCell ⟨M,6,none⟩ (.slice (some ⟨g,0,none⟩) (i + 1) capg)) := Kp.chg HX3.out HS4.out _ (by decide)
     exact (HLL3.out q0).2.kp qM (by decide) (fun d hd => hd)⟩
    go_wp2
    go_roundw
    case rel => exact ⟨i + 1,capg,_,_,_,_,by go_num,by omega,HX4,HL4,HR4,HW4⟩
    case measure => simp [intOf]; omega
   ·have hb : (ai == 0) = false := by rw [beq_eq_false_iff_ne]; exact h0
    have hb2 : (ai != 0) = true := by rw [bne,hb]; rfl
    have HN0 : Hid (ai ≠ 0) := h0
    clear h0
    go_wp2
    refine ⟨rfl,_,results_none rfl _ _ _,rfl,?_⟩
    obtain ⟨r1,r2⟩ := HSR.out.done (Or.inr HN0.out)
    rw [r1]
    exact ⟨HLR.out,HW.out,o,i,cap,HXR.out,fun q => absurd q HN0.out⟩
  ·go_wp2
   go_end0
   obtain ⟨r1,r2⟩ := HSR.out.done (Or.inl hlt)
   rw [r1]
   exact ⟨rfl,HLR.out,HW.out,o,i,cap,HXR.out,fun q => ⟨L,r2 q⟩⟩
end Go.Proofs.YtmmjgdaamkdncaaGreatDoor
