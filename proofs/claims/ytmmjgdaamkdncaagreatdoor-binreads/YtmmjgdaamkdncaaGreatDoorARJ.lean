import Derived.Test.YtmmjgdaamkdncaaGreatDoorARF
namespace Go.Proofs.YtmmjgdaamkdncaaGreatDoor
set_option maxHeartbeats 8000000
set_option maxRecDepth 1000000
open Go.RowKit
set_option linter.unusedVariables false
theorem ykB (P M C : Nat) (A : Array Value) (l : List Int) (n : Int) (w : World) (h : CL w P l n 0) (hM : MX w M A) (hA : A[7]? = some (.slice none 0 0)) :
  Calls Tryz.prog 16 #[.pointer (some ⟨P,0,none⟩),.int .i64 7,.pointer (some ⟨M,0,none⟩),.pointer (some ⟨C,0,none⟩)] w fun r w' => r = .returned (.tuple #[]) /\ CL w' P (xaL 8 xoU l 0).2.1 n (xaL 8 xoU l 0).2.2 /\ ChgA [P,M] w w' /\ ∃ (o : Option Addr) (j cap : Nat),MX w' M (A.setIfInBounds 7 (.slice o j cap)) /\ ((xaL 8 xoU l 0).2.2 = 0 -> ∃ L : List NamD,L.map NamD.val = (xaL 8 xoU l 0).1 /\ LR w' w.heap.size 78 2 NamD.cells NamD.ok o j cap L) := by
 obtain ⟨i0,hi,hz0,hz1,hz2⟩ := info_parts Tryz.infoLexp
 have hPw := h.lt
 have hMP : M ≠ P := h.apart hM (by decide)
 obtain ⟨v,hv⟩ : ∃ v,v = w.alloc (.cells #[.int .i64 0,.int .i64 16,.int .i64 16,.int .i64 16,.int .i64 1,.int .i64 1,.int .i64 8,.int .i64 8,.int .i64 0,.int .i64 4,.int .i64 16,.int .i64 4] 91) := ⟨_,rfl⟩
 have hlim : (w.alloc (.cells #[.int .i64 0,.int .i64 16,.int .i64 16,.int .i64 16,.int .i64 1,.int .i64 1,.int .i64 8,.int .i64 8,.int .i64 0,.int .i64 4,.int .i64 16,.int .i64 4] 91)).cell? ⟨w.heap.size,7,none⟩ = some (.int .i64 8) := xgG w 7 8 rfl
 have b : Below w.heap.size w v := by rw [hv]; exact (Below.refl _ _).alloc (Nat.le_refl _) _
 have HV : Hid (v = w.alloc (.cells #[.int .i64 0,.int .i64 16,.int .i64 16,.int .i64 16,.int .i64 1,.int .i64 1,.int .i64 8,.int .i64 8,.int .i64 0,.int .i64 4,.int .i64 16,.int .i64 4] 91)) := hv
 have hL0 : CL v P l n 0 := h.heap (b.block P hPw)
 have HX0 : Hid (MX v M A) := hM.kp (Kp.below (fun _ => true) b) rfl
 have HW0 : Hid (ChgA [P,M] w v) := (ChgA.refl _ _).below b (Nat.le_refl _)
 have HC := kZz (xdN P 8 l n 0 v hL0)
 have hfew := xbQ 8 (by omega) l 0 h.byte
 unfold xaL
 generalize xaN 8 l 0 = z at HC hfew ⊢
 obtain ⟨m0,l1,a1⟩ := z
 dsimp only at HC hfew ⊢
 obtain ⟨m,rfl⟩ : ∃ m : Nat,m0 = (m : Int) := ⟨m0.toNat,by omega⟩
 rw [Int.toNat_natCast]
 have hm16 : m <= 8 := by omega
 have HA : Hid (A[7]? = some (.slice none 0 0)) := hA
 clear h hM hA hv b hL0 hfew
 go_enter Tryz.func16,Tryz.ntmps16
 go_wp2_with fail
 rw [<- HV.out]
 refine HC.out.mono ?_
 rintro r w1 ⟨rfl,h1,c1⟩
 have HL1 : Hid (CL w1 P l1 n a1) := h1
 have HX1 : Hid (MX w1 M (A.setIfInBounds 7 (.slice none 0 0))) := by unfold Hid; rw [xdS A 7 _ HA.out]; exact HX0.out.chg c1 hMP
 have HW1 : Hid (ChgA [P,M] w w1) := HW0.out.chg c1 (Or.inl (by simp))
 clear h1 c1 HC HX0 HW0 HV hlim
 go_wp2
 go_loopw [36] (fun iv wr => ∃ i cap : Nat,∃ o : Option Addr,∃ L : List NamD,∃ li : List Int,∃ ai : Int,iv = .int .i64 (i : Int) /\ i <= m /\ Hid (MX wr M (A.setIfInBounds 7 (.slice o i cap))) /\ Hid (CL wr P li n ai) /\ Hid (SecR xoU NamD.val wr w.heap.size 78 2 NamD.cells NamD.ok m l1 a1 i o cap L li ai) /\ Hid (ChgA [P,M] w wr)) (fun iv _ => m - (intOf iv).toNat)
 case atStart => exact ⟨0,0,none,[],l1,a1,rfl,by omega,HX1,HL1,SecR.start _ _ _ _ _ _ _ _ _,HW1⟩
 case round =>
  obtain ⟨i,cap,o,L,li,ai,rfl,him,HXR,HLR,HSR,HW⟩ := hrel
  clear HX1 HL1 HW1
  obtain ⟨e0,e1,e2⟩ := (HLR.out.choose_spec.2.2).cell
  clear e0 e1
  by_cases hlt : i < m
  ·by_cases h0 : ai = 0
   ·subst h0
    have HLL : Hid (LR wr w.heap.size 78 2 NamD.cells NamD.ok o i cap L) := (HSR.out.list rfl).2
    have hcl := (HLL.out.capm).1
    have hcm := (HLL.out.capm).2
    unfold maxLen at hcm
    have hsr := HW.out.size
    have y7 : wr.cell? ⟨M,7,none⟩ = some (.slice o i cap) := by rw [HXR.out.cell 7]; exact xbV A 7 _ _ HA.out
    obtain ⟨s1,l2,a2,q1⟩ : ∃ s1 l2 a2,xiN li 0 = (s1,l2,a2) := ⟨_,_,_,rfl⟩
    obtain ⟨l3,a3,q2⟩ : ∃ l3 a3,xaA 0 6 l2 a2 = (l3,a3) := ⟨_,_,rfl⟩
    obtain ⟨y,l4,a4,q3⟩ : ∃ y l4 a4,xaK l3 a3 = (y,l4,a4) := ⟨_,_,_,rfl⟩
    have HQ : Hid (xoU li 0 = (⟨s1,y⟩,l4,a4)) := by unfold Hid xoU; simp only [q1,q2,q3]
    have Q1 := kZz q1
    have Q2 := kZz q2
    have Q3 := kZz q3
    clear q1 q2 q3
    have HG0 : Hid (ChgA [P] wr wr) := ChgA.refl _ _
    have HL0 : Hid (CL wr P li n 0) := HLR.out
    have hPr : P < wr.heap.size := HLR.out.lt
    have HK1 := kZz (ydZ P li n 0 wr HL0.out)
    rw [Q1.out] at HK1
    dsimp only at HK1
    go_wp2_with fail
    refine HK1.out.mono ?_
    rintro r w1 ⟨T,rfl,hT,h1,c1⟩
    have HT : Hid (xaX T = s1) := hT
    clear hT
    have HG1 : Hid (ChgA [P] wr w1) := HG0.out.chg c1 (Or.inl (by simp))
    have HL1 : Hid (CL w1 P l2 n a2) := h1
    clear h1 c1 HG0 HL0
    clear e2
    obtain ⟨w2,hv2⟩ : ∃ v,v = w1.alloc (.cells #[.string T,.int .i64 0] 78) := ⟨_,rfl⟩
    have HV2 : Hid (w2 = w1.alloc (.cells #[.string T,.int .i64 0] 78)) := hv2
    obtain ⟨X,hX⟩ : ∃ X,X = w1.heap.size := ⟨_,rfl⟩
    have HXE : Hid (X = w1.heap.size) := hX
    have hXr : wr.heap.size <= X := by rw [hX]; exact HG1.out.size
    have hXP : X ≠ P := by omega
    have bA : Below w1.heap.size w1 w2 := by rw [hv2]; exact (Below.refl _ _).alloc (Nat.le_refl _) _
    have HG2 : Hid (ChgA [P] wr w2) := HG1.out.below bA HG1.out.size
    have HL2 : Hid (CL w2 P l2 n a2) := HL1.out.heap (bA.block P HL1.out.lt)
    have HB2 : Hid (X2 78 w2 X (.string T) (.int .i64 0)) := by unfold Hid; rw [hv2,hX]; exact xaZ _ _
    clear hv2 hX bA HG1 HL1
    have HK3 := kZz (xeU P 0 6 l2 n a2 w2 HL2.out)
    rw [Q2.out] at HK3
    dsimp only at HK3
    go_wp2_with fail
    rw [<- HV2.out,<- HXE.out]
    clear HV2 HXE
    refine HK3.out.mono ?_
    rintro r w3 ⟨rfl,h1,c1⟩
    have HG3 : Hid (ChgA [P] wr w3) := HG2.out.chg c1 (Or.inl (by simp))
    have HL3 : Hid (CL w3 P l3 n a3) := h1
    have HB3 : Hid (X2 78 w3 X (.string T) (.int .i64 0)) := HB2.out.chg c1 hXP
    clear h1 c1 HG2 HL2 HB2
    have HK4 := kZz (xoC P l3 n a3 w3 HL3.out)
    rw [Q3.out] at HK4
    dsimp only at HK4
    go_wp2_with fail
    refine HK4.out.mono ?_
    rintro r w4 ⟨rfl,h1,c1⟩
    have HG4 : Hid (ChgA [P] wr w4) := HG3.out.chg c1 (Or.inl (by simp))
    have HL4 : Hid (CL w4 P l4 n a4) := h1
    have HB4 : Hid (X2 78 w4 X (.string T) (.int .i64 0)) := HB3.out.chg c1 hXP
    clear h1 c1 HG3 HL3 HB3
    obtain ⟨w5,hv5⟩ : ∃ v,v = w4.setCell ⟨X,1,none⟩ (.int .i64 y) := ⟨_,rfl⟩
    have HV5 : Hid (w5 = w4.setCell ⟨X,1,none⟩ (.int .i64 y)) := hv5
    have hS : Chg X w4 w5 := by rw [hv5]; exact Chg.set _ _ _ _
    have HG5 : Hid (ChgA [P] wr w5) := HG4.out.chg hS (Or.inr hXr)
    have HL5 : Hid (CL w5 P l4 n a4) := HL4.out.chg hS hXP.symm
    have HB5 : Hid (X2 78 w5 X (.string T) (.int .i64 y)) := by unfold Hid; rw [hv5]; exact HB4.out.set1 _
    obtain ⟨x0,x1⟩ := HB4.out.cell
    have xf := HB4.out.frozen 1
    clear hv5 hS HG4 HL4 HB4
    go_wp2_with fail
    rw [<- HV5.out]
    clear HV5 x0 x1 xf
    refine xaC (S := fun w' => w'.cell? ⟨M,7,none⟩ = some (.slice o i cap) /\ w'.cell? ⟨X,0,none⟩ = some (.string T) /\ w'.cell? ⟨X,1,none⟩ = some (.int .i64 y)) (z := 10) (by kernel_rfl) ?_
    obtain ⟨z1,hz1'⟩ : ∃ z,z = World.drew w5 := ⟨_,rfl⟩
    have qd : Kp (fun _ => true) w5 z1 := by rw [hz1']; exact ⟨Nat.le_refl _,fun _ _ _ _ _ _ => rfl⟩
    have HMZ : Hid (MX z1 M (A.setIfInBounds 7 (.slice o i cap))) := (HG5.out.mx HXR.out hMP).kp qd rfl
    have HBZ : Hid (X2 78 z1 X (.string T) (.int .i64 y)) := by unfold Hid X2; rw [qd.blk _ _ _ _ HB5.out rfl]; exact HB5.out
    have HLZ : Hid (CL z1 P l4 n a4) := HL5.out.kp qd rfl
    have HWZ : Hid (ChgA [P,M] w z1) := by
     have h1 : ChgA [P,M] w w5 := HW.out.trans HG5.out (by simp)
     rw [hz1']
     exact ⟨h1.os,h1.tape,h1.output,h1.size,h1.block⟩
    have HLLZ : Hid (LR z1 w.heap.size 78 2 NamD.cells NamD.ok o i cap L) := by
     have q1 := HG5.out.kp HLR.out (fun t => t != 45) (by decide)
     have q2 : Kp (fun t => t != 45) w5 z1 := qd.weak (fun _ _ => rfl)
     have q := q1.trans q2
     exact HLL.out.kp q (by decide) (fun d hd => hd)
    have hs1 : w.heap.size <= z1.heap.size := HWZ.out.size
    have HD : Hid ((xoU li 0).2.2 = 0 -> NamD.val ⟨T,y⟩ = (xoU li 0).1 /\ NamD.ok z1 ⟨T,y⟩) := fun q0 => by
     have hg := (cod_exp.ok _ _ _ HLR.out.byte (Rel.exp.got HLR.out.byte q0)).1
     rw [HQ.out] at hg ⊢
     exact ⟨by rw [<- HT.out]; rfl,ybB hg (by rw [<- HT.out]) z1⟩
    obtain ⟨u0,u1⟩ := HBZ.out.cell
    have HXO : Hid (some X ≠ (Value.slice o i cap).ownBlock) := fun q => by have := HLL.out.row_lt X q.symm; omega
    have HS0 : Hid (z1.cell? ⟨M,7,none⟩ = some (.slice o i cap) /\ z1.cell? ⟨X,0,none⟩ = some (.string T) /\ z1.cell? ⟨X,1,none⟩ = some (.int .i64 y)) := ⟨by rw [HMZ.out.cell 7]; exact xbV A 7 _ _ HA.out,u0,u1⟩
    clear qd u0 u1 HG5 HL5 HB5 y7 HLR HLL HXR HW
    rw [<- hz1']
    clear hz1'
    have hHeld : (fun w' => w'.cell? ⟨M,7,none⟩ = some (.slice o i cap) /\ w'.cell? ⟨X,0,none⟩ = some (.string T) /\ w'.cell? ⟨X,1,none⟩ = some (.int .i64 y)) z1 := HS0.out
    refine tk (i := 0) (h := ?_)
    refine tk (i := 1) (h := ?_)
    refine tk (i := 2) (h := ?_)
    refine tk (i := 3) (h := ?_)
    refine ld (i := 4) [7,8,9,10] (h := ?_)
    refine ld (i := 5) [6,7,8,9,10] (h := ?_)
    have HS2 : Hid ((fun w' => w'.cell? ⟨M,7,none⟩ = some (.slice o i cap) /\ w'.cell? ⟨X,0,none⟩ = some (.string T) /\ w'.cell? ⟨X,1,none⟩ = some (.int .i64 y)) (z1.alloc (.cells #[.string T,.int .i64 y] 78))) := by
     have bA : Below z1.heap.size z1 (z1.alloc (.cells #[.string T,.int .i64 y] 78)) := (Below.refl _ _).alloc (Nat.le_refl _) _
     refine ⟨?_,?_,?_⟩
     ·rw [bA.cell (p := ⟨M,7,none⟩) HMZ.out.lt]; exact HS0.out.1
     ·rw [bA.cell (p := ⟨X,0,none⟩) (xaU HBZ.out)]; exact HS0.out.2.1
     ·rw [bA.cell (p := ⟨X,1,none⟩) (xaU HBZ.out)]; exact HS0.out.2.2
    refine xbT (i := 6) rfl (by kernel_rfl) rfl (fun K R hK => ?_)
    go_simp
    refine hK.out _ _ HS2.out (fun hHeld => xaB ?_)
    clear hK
    refine xbT (i := 7) rfl (by kernel_rfl) rfl (fun K R hK => ?_)
    refine wp_append_lies _ (.tmp 191) (.tmp 193) 26 rfl w.heap.size 78 i0 (.agg #[.string ⟨#[]⟩,.int .i64 0]) 2 24 Tryz.underlying26 hi hz0 hz1 hz2 rfl (by omega) _ i (L.flatMap NamD.cells) rfl (HLLZ.out.own.alloc _) ⟨z1.heap.size,0,none⟩ 1 1 [.string T,.int .i64 y] rfl rfl (World.news_of_block (cs := #[.string T,.int .i64 y]) (t := 78) (fr := (0,0)) (heap_alloc_new z1 _)) (by simp [Value.oneCell']) (by omega) (by unfold maxLen; omega) (by omega) (by simp; omega) (z1.heap.size + 1) (by simp) ?_
    intro g capg z3 hown hgrow hat hlt3
    have bA : Below z1.heap.size z1 (z1.alloc (.cells #[.string T,.int .i64 y] 78)) := (Below.refl _ _).alloc (Nat.le_refl _) _
    have qB : Kp (fun t => t != 78) z1 z3 := (Kp.below _ bA).trans (Kp.grown (HLLZ.out.own.alloc _) hgrow _ (by decide))
    have HX3 : Hid (MX z3 M (A.setIfInBounds 7 (.slice o i cap))) := HMZ.out.kp qB (by decide)
    have HB3 : Hid (X2 78 z3 X (.string T) (.int .i64 y)) := HBZ.out.far bA hgrow HXO.out
    have HS3 : Hid (z3.cell? ⟨M,7,none⟩ = some (.slice o i cap) /\ z3.cell? ⟨X,0,none⟩ = some (.string T) /\ z3.cell? ⟨X,1,none⟩ = some (.int .i64 y)) := ⟨by rw [HX3.out.cell 7]; exact xbV A 7 _ _ HA.out,HB3.out.cell.1,HB3.out.cell.2⟩
    have HL3 : Hid (CL z3 P l4 n a4) := HLZ.out.kp qB (by decide)
    have HW3 : Hid (ChgA [P,M] w z3) := (HWZ.out.below bA hs1).grown (HLLZ.out.own.alloc _) hgrow (Nat.le_refl _)
    have qA : Kp (far 78) z1 z3 := (Kp.below _ bA).trans (Kp.grown (HLLZ.out.own.alloc _) hgrow _ (by decide))
    have HLL3 : Hid ((xoU li 0).2.2 = 0 -> NamD.val ⟨T,y⟩ = (xoU li 0).1 /\ LR z3 w.heap.size 78 2 NamD.cells NamD.ok (some ⟨g,0,none⟩) (i + 1) capg (L ++ [⟨T,y⟩])) := fun q0 => ⟨(HD.out q0).1,HLLZ.out.app (fun d hd => hd) (HD.out q0).2 hown⟩
    clear hown hgrow hat hlt3 qA qB bA
    refine hK.out _ _ HS3.out (fun hHeld => xaB ?_)
    clear hK
    refine tk (i := 8) (h := ?_)
    refine tk (i := 9) (h := ?_)
    have y3 := HS3.out.1
    have f3 := HX3.out.frozen 7
    refine xbH rfl (by kernel_rfl) (by kernel_rfl) (by kernel_rfl) rfl (fun K R hK => ?_)
    go_simp
    refine hK.out _ _ ?_
    clear hK K R hHeld
    clear y3 f3
    have HS4 : Hid (Chg M z3 (z3.setCell ⟨M,7,none⟩ (.slice (some ⟨g,0,none⟩) (i + 1) capg))) := Chg.set _ _ _ _
    have HX4 : Hid (MX (z3.setCell ⟨M,7,none⟩ (.slice (some ⟨g,0,none⟩) (i + 1) capg)) M (A.setIfInBounds 7 (.slice (some ⟨g,0,none⟩) (i + 1) capg))) := by
     have := HX3.out.set 7 (.slice (some ⟨g,0,none⟩) (i + 1) capg)
     rw [xcU] at this
     exact this
    have HL4 : Hid (CL (z3.setCell ⟨M,7,none⟩ (.slice (some ⟨g,0,none⟩) (i + 1) capg)) P l4 n a4) := HL3.out.chg HS4.out hMP.symm
    have HW4 : Hid (ChgA [P,M] w (z3.setCell ⟨M,7,none⟩ (.slice (some ⟨g,0,none⟩) (i + 1) capg))) := HW3.out.chg HS4.out (Or.inl (by simp))
    have HR4 : Hid (SecR xoU NamD.val (z3.setCell ⟨M,7,none⟩ (.slice (some ⟨g,0,none⟩) (i + 1) capg)) w.heap.size 78 2 NamD.cells NamD.ok m l1 a1 (i + 1) (some ⟨g,0,none⟩) capg (L ++ [⟨T,y⟩]) l4 a4) := by
     have qM : Kp (fun t => t != 30) z3 (z3.setCell ⟨M,7,none⟩ (.slice (some ⟨g,0,none⟩) (i + 1) capg)) := Kp.chg HX3.out HS4.out _ (by decide)
     have hh := HSR.out.more (w' := z3.setCell ⟨M,7,none⟩ (.slice (some ⟨g,0,none⟩) (i + 1) capg)) (o' := some ⟨g,0,none⟩) (cap' := capg) (d := ⟨T,y⟩) hlt fun q0 => ⟨(HLL3.out q0).1,(HLL3.out q0).2.kp qM (by decide) (fun d hd => hd)⟩
     rw [HQ.out] at hh
     exact hh
    go_wp2
    go_roundw
    case rel => exact ⟨i + 1,capg,_,_,_,_,by go_num,by omega,HX4,HL4,HR4,HW4⟩
    case measure => simp [intOf]; omega
   ·have hb : (ai == 0) = false := by rw [beq_eq_false_iff_ne]; exact h0
    have hb2 : (ai != 0) = true := by rw [bne,hb]; rfl
    have HN0 : Hid (ai ≠ 0) := h0
    clear h0
    go_wp2
    refine ⟨rfl,_,results_none rfl _ _ _,rfl,?_⟩
    obtain ⟨r1,r2⟩ := HSR.out.done (Or.inr HN0.out)
    rw [r1]
    exact ⟨HLR.out,HW.out,o,i,cap,HXR.out,fun q => absurd q HN0.out⟩
  ·go_wp2
   go_end0
   obtain ⟨r1,r2⟩ := HSR.out.done (Or.inl hlt)
   rw [r1]
   exact ⟨rfl,HLR.out,HW.out,o,i,cap,HXR.out,fun q => ⟨L,r2 q⟩⟩
theorem ykC (P M C : Nat) (A : Array Value) (l : List Int) (n : Int) (w : World) (h : CL w P l n 0) (hM : MX w M A) (u : Value) (hA : A[8]? = some u) :
  Calls Tryz.prog 16 #[.pointer (some ⟨P,0,none⟩),.int .i64 8,.pointer (some ⟨M,0,none⟩),.pointer (some ⟨C,0,none⟩)] w fun r w' => r = .returned (.tuple #[]) /\ CL w' P (xgI l 0).2.1 n (xgI l 0).2.2 /\ ChgA [P,M] w w' /\ MX w' M (A.setIfInBounds 8 (.int .i64 (xgI l 0).1)) := by
 have hPw := h.lt
 have hMP : M ≠ P := h.apart hM (by decide)
 obtain ⟨v,hv⟩ : ∃ v,v = w.alloc (.cells #[.int .i64 0,.int .i64 16,.int .i64 16,.int .i64 16,.int .i64 1,.int .i64 1,.int .i64 8,.int .i64 8,.int .i64 0,.int .i64 4,.int .i64 16,.int .i64 4] 91) := ⟨_,rfl⟩
 have b : Below w.heap.size w v := by rw [hv]; exact (Below.refl _ _).alloc (Nat.le_refl _) _
 have HV : Hid (v = w.alloc (.cells #[.int .i64 0,.int .i64 16,.int .i64 16,.int .i64 16,.int .i64 1,.int .i64 1,.int .i64 8,.int .i64 8,.int .i64 0,.int .i64 4,.int .i64 16,.int .i64 4] 91)) := hv
 have hL0 : CL v P l n 0 := h.heap (b.block P hPw)
 have HX0 : Hid (MX v M A) := hM.kp (Kp.below (fun _ => true) b) rfl
 have HW0 : Hid (ChgA [P,M] w v) := (ChgA.refl _ _).below b (Nat.le_refl _)
 have HC := kZz (xoC P l n 0 v hL0)
 have hnn := xcB l 0 h.byte
 unfold xgI
 dsimp only
 generalize xaK l 0 = z at HC hnn ⊢
 obtain ⟨x,l1,a1⟩ := z
 dsimp only at HC hnn ⊢
 have HA : Hid (A[8]? = some u) := hA
 clear h hM hA hv b hL0
 go_enter Tryz.func16,Tryz.ntmps16
 go_wp2_with fail
 rw [<- HV.out]
 refine HC.out.mono ?_
 rintro r w1 ⟨rfl,h1,c1⟩
 have HX1 : Hid (MX w1 M A) := HX0.out.chg c1 hMP
 have HW1 : Hid (ChgA [P,M] w w1) := HW0.out.chg c1 (Or.inl (by simp))
 have HL1 : Hid (CL w1 P l1 n a1) := h1
 have y8 : w1.cell? ⟨M,8,none⟩ = some u := (HX1.out.cell 8).trans HA.out
 have f8 := HX1.out.frozen 8
 obtain ⟨w2,hv2⟩ : ∃ v,v = w1.setCell ⟨M,8,none⟩ (.int .i64 (x + 1)) := ⟨_,rfl⟩
 have HV2 : Hid (w2 = w1.setCell ⟨M,8,none⟩ (.int .i64 (x + 1))) := hv2
 have hS : Chg M w1 w2 := by rw [hv2]; exact Chg.set _ _ _ _
 have HX2 : Hid (MX w2 M (A.setIfInBounds 8 (.int .i64 (x + 1)))) := by unfold Hid; rw [hv2]; exact HX1.out.set 8 _
 have HW2 : Hid (ChgA [P,M] w w2) := HW1.out.chg hS (Or.inl (by simp))
 have HL2 : Hid (CL w2 P l1 n a1) := HL1.out.chg hS hMP.symm
 have z8 : (w1.setCell ⟨M,8,none⟩ (.int .i64 (x + 1))).cell? ⟨M,8,none⟩ = some (.int .i64 (x + 1)) := by
  rw [<- hv2,HX2.out.cell 8]
  exact xbV A 8 _ _ HA.out
 clear h1 c1 HC HX0 HW0 HV hv2 hS HX1 HW1 HL1
 go_wp2_with fail
 rw [<- HV2.out]
 refine (HL2.out.say _ _).mono ?_
 rintro r w3 ⟨rfl,h3,c3⟩
 have HL3 : Hid (CL w3 P l1 n (xcP (decide (4294967295 < x + 1)) 4 a1)) := h3
 have HX3 : Hid (MX w3 M (A.setIfInBounds 8 (.int .i64 (x + 1)))) := HX2.out.chg c3 hMP
 have HW3 : Hid (ChgA [P,M] w w3) := HW2.out.chg c3 (Or.inl (by simp))
 clear h3 c3 HL2 HX2 HW2 HV2 y8 f8 z8
 go_wp2
 exact ⟨rfl,_,results_none rfl _ _ _,rfl,HL3.out,HW3.out,HX3.out⟩
theorem ykD (P M C : Nat) (A : Array Value) (l : List Int) (n : Int) (w : World) (h : CL w P l n 0) (hM : MX w M A) (hA : A[9]? = some (.slice none 0 0)) :
  Calls Tryz.prog 16 #[.pointer (some ⟨P,0,none⟩),.int .i64 9,.pointer (some ⟨M,0,none⟩),.pointer (some ⟨C,0,none⟩)] w fun r w' => r = .returned (.tuple #[]) /\ CL w' P (xaL 4 xpB l 0).2.1 n (xaL 4 xpB l 0).2.2 /\ ChgA [P,M] w w' /\ ∃ (o : Option Addr) (j cap : Nat),MX w' M (A.setIfInBounds 9 (.slice o j cap)) /\ ((xaL 4 xpB l 0).2.2 = 0 -> ∃ L : List EleD,L.map EleD.val = (xaL 4 xpB l 0).1 /\ LR w' w.heap.size 62 2 EleD.cells EleG o j cap L) := by
 obtain ⟨i0,hi,hz0,hz1,hz2⟩ := info_parts Tryz.infoLele
 have hPw := h.lt
 have hMP : M ≠ P := h.apart hM (by decide)
 obtain ⟨v,hv⟩ : ∃ v,v = w.alloc (.cells #[.int .i64 0,.int .i64 16,.int .i64 16,.int .i64 16,.int .i64 1,.int .i64 1,.int .i64 8,.int .i64 8,.int .i64 0,.int .i64 4,.int .i64 16,.int .i64 4] 91) := ⟨_,rfl⟩
 have hlim : (w.alloc (.cells #[.int .i64 0,.int .i64 16,.int .i64 16,.int .i64 16,.int .i64 1,.int .i64 1,.int .i64 8,.int .i64 8,.int .i64 0,.int .i64 4,.int .i64 16,.int .i64 4] 91)).cell? ⟨w.heap.size,9,none⟩ = some (.int .i64 4) := xgG w 9 4 rfl
 have b : Below w.heap.size w v := by rw [hv]; exact (Below.refl _ _).alloc (Nat.le_refl _) _
 have HV : Hid (v = w.alloc (.cells #[.int .i64 0,.int .i64 16,.int .i64 16,.int .i64 16,.int .i64 1,.int .i64 1,.int .i64 8,.int .i64 8,.int .i64 0,.int .i64 4,.int .i64 16,.int .i64 4] 91)) := hv
 have hL0 : CL v P l n 0 := h.heap (b.block P hPw)
 have HX0 : Hid (MX v M A) := hM.kp (Kp.below (fun _ => true) b) rfl
 have HW0 : Hid (ChgA [P,M] w v) := (ChgA.refl _ _).below b (Nat.le_refl _)
 have HC := kZz (xdN P 4 l n 0 v hL0)
 have hfew := xbQ 4 (by omega) l 0 h.byte
 unfold xaL
 generalize xaN 4 l 0 = z at HC hfew ⊢
 obtain ⟨m0,l1,a1⟩ := z
 dsimp only at HC hfew ⊢
 obtain ⟨m,rfl⟩ : ∃ m : Nat,m0 = (m : Int) := ⟨m0.toNat,by omega⟩
 rw [Int.toNat_natCast]
 have hm16 : m <= 4 := by omega
 have HA : Hid (A[9]? = some (.slice none 0 0)) := hA
 clear h hM hA hv b hL0 hfew
 go_enter Tryz.func16,Tryz.ntmps16
 go_wp2_with fail
 rw [<- HV.out]
 refine HC.out.mono ?_
 rintro r w1 ⟨rfl,h1,c1⟩
 have HL1 : Hid (CL w1 P l1 n a1) := h1
 have HX1 : Hid (MX w1 M (A.setIfInBounds 9 (.slice none 0 0))) := by unfold Hid; rw [xdS A 9 _ HA.out]; exact HX0.out.chg c1 hMP
 have HW1 : Hid (ChgA [P,M] w w1) := HW0.out.chg c1 (Or.inl (by simp))
 clear h1 c1 HC HX0 HW0 HV hlim
 go_wp2
 go_loopw [36] (fun iv wr => ∃ i cap : Nat,∃ o : Option Addr,∃ L : List EleD,∃ li : List Int,∃ ai : Int,iv = .int .i64 (i : Int) /\ i <= m /\ Hid (MX wr M (A.setIfInBounds 9 (.slice o i cap))) /\ Hid (CL wr P li n ai) /\ Hid (SecR xpB EleD.val wr w.heap.size 62 2 EleD.cells EleG m l1 a1 i o cap L li ai) /\ Hid (ChgA [P,M] w wr)) (fun iv _ => m - (intOf iv).toNat)
 case atStart => exact ⟨0,0,none,[],l1,a1,rfl,by omega,HX1,HL1,SecR.start _ _ _ _ _ _ _ _ _,HW1⟩
 case round =>
  obtain ⟨i,cap,o,L,li,ai,rfl,him,HXR,HLR,HSR,HW⟩ := hrel
  obtain ⟨wo,hwo⟩ : ∃ v,v = wr := ⟨_,rfl⟩
  subst hwo
  clear HX1 HL1 HW1
  obtain ⟨e0,e1,e2⟩ := (HLR.out.choose_spec.2.2).cell
  clear e0 e1
  by_cases hlt : i < m
  ·by_cases h0 : ai = 0
   ·subst h0
    have HLL : Hid (LR wo w.heap.size 62 2 EleD.cells EleG o i cap L) := (HSR.out.list rfl).2
    have hcl := (HLL.out.capm).1
    have hcm := (HLL.out.capm).2
    unfold maxLen at hcm
    have hsr := HW.out.size
    have y9 : wo.cell? ⟨M,9,none⟩ = some (.slice o i cap) := by rw [HXR.out.cell 9]; exact xbV A 9 _ _ HA.out
    obtain ⟨x,l2,a2,q1⟩ : ∃ x l2 a2,xhM li 0 = (x,l2,a2) := ⟨_,_,_,rfl⟩
    obtain ⟨cE,l3,a3,q2⟩ : ∃ c l3 a3,xaN 16 l2 a2 = (c,l3,a3) := ⟨_,_,_,rfl⟩
    have Q1 := kZz q1
    have Q2 := kZz q2
    clear q1 q2
    have HG0 : Hid (ChgA [P] wo wo) := ChgA.refl _ _
    have HL0 : Hid (CL wo P li n 0) := HLR.out
    have hPr : P < wo.heap.size := HLR.out.lt
    have HK1 := kZz (ybG P li n 0 wo HL0.out)
    rw [Q1.out] at HK1
    dsimp only at HK1
    go_wp2_with fail
    refine HK1.out.mono ?_
    rintro r w1 ⟨rfl,h1,c1⟩
    have HG1 : Hid (ChgA [P] wo w1) := HG0.out.chg c1 (Or.inl (by simp))
    have HL1 : Hid (CL w1 P l2 n a2) := h1
    clear h1 c1 HG0 HL0
    clear e2
    obtain ⟨w2,hv2⟩ : ∃ v,v = w1.alloc (.cells #[.int .i64 x,.slice none 0 0] 62) := ⟨_,rfl⟩
    have HV2 : Hid (w2 = w1.alloc (.cells #[.int .i64 x,.slice none 0 0] 62)) := hv2
    obtain ⟨X,hX⟩ : ∃ X,X = w1.heap.size := ⟨_,rfl⟩
    have HXE : Hid (X = w1.heap.size) := hX
    have hXr : wo.heap.size <= X := by rw [hX]; exact HG1.out.size
    have hXP : X ≠ P := by omega
    have bA : Below w1.heap.size w1 w2 := by rw [hv2]; exact (Below.refl _ _).alloc (Nat.le_refl _) _
    have HG2 : Hid (ChgA [P] wo w2) := HG1.out.below bA HG1.out.size
    have HL2 : Hid (CL w2 P l2 n a2) := HL1.out.heap (bA.block P HL1.out.lt)
    have HB2 : Hid (X2 62 w2 X (.int .i64 x) (.slice none 0 0)) := by unfold Hid; rw [hv2,hX]; exact xaZ _ _
    clear hv2 hX bA HG1 HL1
    have hfE := xbQ 16 (by omega) l2 a2 HL2.out.byte
    rw [Q2.out] at hfE
    dsimp only at hfE
    obtain ⟨mE,hmE⟩ : ∃ m : Nat,cE = (m : Int) := ⟨cE.toNat,by omega⟩
    subst hmE
    have hME : mE <= 16 := by omega
    clear hfE
    have HK3 := kZz (xdN P 16 l2 n a2 w2 HL2.out)
    rw [Q2.out] at HK3
    dsimp only at HK3
    go_wp2_with fail
    rw [<- HV2.out,<- HXE.out]
    clear HV2 HXE
    refine HK3.out.mono ?_
    rintro r w3 ⟨rfl,h1,c1⟩
    have HG3 : Hid (ChgA [P] wo w3) := HG2.out.chg c1 (Or.inl (by simp))
    have HL3 : Hid (CL w3 P l3 n a3) := h1
    have HB3 : Hid (X2 62 w3 X (.int .i64 x) (.slice none 0 0)) := HB2.out.chg c1 hXP
    clear h1 c1 HG2 HL2 HB2
    obtain ⟨iE,hiE,hyE,huE,hvE⟩ := info_parts Tryz.infoLint
    go_wp2
    go_loopw [204] (fun jv wr => ∃ j cc : Nat,∃ p : Option Addr,∃ LI lj : List Int,∃ aj : Int,jv = .int .i64 (j : Int) /\ j <= mE /\ Hid (X2 62 wr X (.int .i64 x) (.slice p j cc)) /\ Hid (LR wr w3.heap.size 3 1 (fun x : Int => [Value.int .i64 x]) (fun (_ : World) (x : Int) => (Lit.int .i64 x).wf = true) p j cc LI) /\ Hid (CL wr P lj n aj) /\ Hid (xbW xaK mE l3 a3 = (LI ++ (xbW xaK (mE - j) lj aj).1,(xbW xaK (mE - j) lj aj).2)) /\ Hid (ChgA [P,X] w3 wr)) (fun jv _ => mE - (intOf jv).toNat)
    case atStart => exact ⟨0,0,none,[],l3,a3,rfl,by omega,HB3,LR.nil _ _ _ _ _ _,HL3,by unfold Hid; rw [List.nil_append]; rfl,ChgA.refl _ _⟩
    case round =>
     obtain ⟨jE,ccE,pE,LIE,ljE,ajE,rfl,hjmE,HBq,HRq,HLq,HTq,HFq⟩ := hrel
     have hsq : w3.heap.size <= wr.heap.size := HFq.out.size
     by_cases hjl : jE < mE
     ·have hcl2 := (HRq.out.capm).1
      have hcm2 := (HRq.out.capm).2
      unfold maxLen at hcm2
      obtain ⟨x0,x1⟩ := HBq.out.cell
      go_wp2_with fail
      refine xaC (S := fun w' => w'.cell? ⟨X,1,none⟩ = some (.slice pE jE ccE)) (z := 7) (by kernel_rfl) ?_
      obtain ⟨z0,hz0'⟩ : ∃ z,z = World.drew wr := ⟨_,rfl⟩
      have HS0 : Hid (z0.cell? ⟨X,1,none⟩ = some (.slice pE jE ccE)) := by rw [hz0']; exact x1
      have hC0 : CL z0 P ljE n ajE := HLq.out.heap (by rw [hz0']; rfl)
      have HC0 : Hid (Chg P wr z0) := by rw [hz0']; exact ⟨rfl,rfl,rfl,Nat.le_refl _,fun _ _ _ => rfl⟩
      have HCALL := kZz (xoC P ljE n ajE z0 hC0)
      clear hC0 x0 x1
      rw [<- hz0']
      clear hz0'
      have hHeld : (fun w' => w'.cell? ⟨X,1,none⟩ = some (.slice pE jE ccE)) z0 := HS0.out
      refine tk (i := 0) (h := ?_)
      refine ld (i := 1) [5,6,7] (h := ?_)
      refine tk (i := 2) (h := ?_)
      refine xgX (i := 3) rfl (by kernel_rfl) rfl (by go_simp) HCALL.out ?_
      rintro r z1 ⟨rfl,h1,c1⟩
      have HC1 : Hid (Chg P wr z1) := HC0.out.trans c1
      have HB1 : Hid (X2 62 z1 X (.int .i64 x) (.slice pE jE ccE)) := HBq.out.chg HC1.out hXP
      have HS1 : Hid (z1.cell? ⟨X,1,none⟩ = some (.slice pE jE ccE)) := HB1.out.cell.2
      have HR1 : Hid (LR z1 w3.heap.size 3 1 (fun x : Int => [Value.int .i64 x]) (fun (_ : World) (x : Int) => (Lit.int .i64 x).wf = true) pE jE ccE LIE) := HRq.out.kp (Kp.cur HLq.out HC1.out (fun t => t != 45) (by decide)) (by decide) (fun _ hd => hd)
      have HL1 := kZz h1
      have hs1 : w3.heap.size <= z1.heap.size := Nat.le_trans hsq HC1.out.size
      have HF1 : Hid (ChgA [P,X] w3 z1) := HFq.out.chg HC1.out (Or.inl (by simp))
      have hyy := xcB ljE ajE HLq.out.byte
      obtain ⟨y,hye⟩ : ∃ y,y = (xaK ljE ajE).1 := ⟨_,rfl⟩
      rw [<- hye] at hyy
      rw [<- hye]
      have HY : Hid ((Lit.int .i64 y).wf = true) := ybO ⟨by omega,by omega⟩
      have HYE : Hid (y = (xaK ljE ajE).1) := hye
      clear hye hyy
      clear h1 c1 HCALL HC0 HS0
      clear hHeld
      refine ⟨_,rfl,HS1.out,fun hHeld => xaB ?_⟩
      have HS2 : Hid ((fun w' => w'.cell? ⟨X,1,none⟩ = some (.slice pE jE ccE)) (z1.alloc (.cells #[.int .i64 y] 3))) := by
       unfold Hid
       dsimp only
       have bA : Below z1.heap.size z1 (z1.alloc (.cells #[.int .i64 y] 3)) := (Below.refl _ _).alloc (Nat.le_refl _) _
       rw [bA.cell (p := ⟨X,1,none⟩) (xaU HB1.out)]
       exact HS1.out
      refine xbT (i := 4) rfl (by kernel_rfl) rfl (fun K R hK => ?_)
      go_simp
      refine hK.out _ _ HS2.out (fun hHeld => xaB ?_)
      clear hK
      refine xbT (i := 5) rfl (by kernel_rfl) rfl (fun K R hK => ?_)
      refine wp_append_lies _ (.tmp 207) (.tmp 210) 60 rfl w3.heap.size 3 iE (.int .i64 0) 1 8 Tryz.underlying60 hiE hyE huE hvE rfl (by omega) _ jE (LIE.flatMap (fun x : Int => [Value.int .i64 x])) rfl (HR1.out.own.alloc _) ⟨z1.heap.size,0,none⟩ 1 1 [.int .i64 y] rfl rfl (World.news_of_block (cs := #[.int .i64 y]) (t := 3) (fr := (0,0)) (heap_alloc_new z1 _)) (by simp [Value.oneCell']) (by omega) (by unfold maxLen; omega) (by omega) (by simp; omega) (z1.heap.size + 1) (by simp) ?_
      intro g capg z3 hown hgrow hat hlt3
      have bA : Below z1.heap.size z1 (z1.alloc (.cells #[.int .i64 y] 3)) := (Below.refl _ _).alloc (Nat.le_refl _) _
      have qB : Kp (fun t => t != 3) z1 z3 := (Kp.below _ bA).trans (Kp.grown (HR1.out.own.alloc _) hgrow _ (by decide))
      have HB3 : Hid (X2 62 z3 X (.int .i64 x) (.slice pE jE ccE)) := HB1.out.kp qB (by decide)
      have HS3 : Hid (z3.cell? ⟨X,1,none⟩ = some (.slice pE jE ccE)) := HB3.out.cell.2
      have HL3 : Hid (CL z3 P (xaK ljE ajE).2.1 n (xaK ljE ajE).2.2) := HL1.out.kp qB (by decide)
      have HF3 : Hid (ChgA [P,X] w3 z3) := (HF1.out.below bA hs1).grown (HR1.out.own.alloc _) hgrow (Nat.le_refl _)
      have HR3 : Hid (LR z3 w3.heap.size 3 1 (fun x : Int => [Value.int .i64 x]) (fun (_ : World) (x : Int) => (Lit.int .i64 x).wf = true) (some ⟨g,0,none⟩) (jE + 1) capg (LIE ++ [y])) := HR1.out.app (fun _ hd => hd) HY.out hown
      clear hown hgrow hat hlt3 qB bA
      refine hK.out _ _ HS3.out (fun hHeld => xaB ?_)
      clear hK
      refine tk (i := 6) (h := ?_)
      obtain ⟨x0,x1⟩ := HB3.out.cell
      have xf := HB3.out.frozen 1
      refine xbH rfl (by kernel_rfl) (by kernel_rfl) (by kernel_rfl) rfl (fun K R hK => ?_)
      go_simp
      refine hK.out _ _ ?_
      clear hK K R hHeld
      clear x0 x1 xf
      have HS4 : Hid (Chg X z3 (z3.setCell ⟨X,1,none⟩ (.slice (some ⟨g,0,none⟩) (jE + 1) capg))) := Chg.set _ _ _ _
      have HB4 : Hid (X2 62 (z3.setCell ⟨X,1,none⟩ (.slice (some ⟨g,0,none⟩) (jE + 1) capg)) X (.int .i64 x) (.slice (some ⟨g,0,none⟩) (jE + 1) capg)) := HB3.out.set1 _
      have HL4 : Hid (CL (z3.setCell ⟨X,1,none⟩ (.slice (some ⟨g,0,none⟩) (jE + 1) capg)) P (xaK ljE ajE).2.1 n (xaK ljE ajE).2.2) := HL3.out.chg HS4.out hXP.symm
      have HF4 : Hid (ChgA [P,X] w3 (z3.setCell ⟨X,1,none⟩ (.slice (some ⟨g,0,none⟩) (jE + 1) capg))) := HF3.out.chg HS4.out (Or.inl (by simp))
      have HR4 : Hid (LR (z3.setCell ⟨X,1,none⟩ (.slice (some ⟨g,0,none⟩) (jE + 1) capg)) w3.heap.size 3 1 (fun x : Int => [Value.int .i64 x]) (fun (_ : World) (x : Int) => (Lit.int .i64 x).wf = true) (some ⟨g,0,none⟩) (jE + 1) capg (LIE ++ [y])) := HR3.out.kp (Kp.chg HB3.out HS4.out (fun t => t != 62) (by decide)) (by decide) (fun _ hd => hd)
      have HT4 : Hid (xbW xaK mE l3 a3 = (LIE ++ [y] ++ (xbW xaK (mE - (jE + 1)) (xaK ljE ajE).2.1 (xaK ljE ajE).2.2).1,(xbW xaK (mE - (jE + 1)) (xaK ljE ajE).2.1 (xaK ljE ajE).2.2).2)) := by
       unfold Hid
       rw [HYE.out]
       exact xgB HTq.out hjl
      go_wp2
      go_roundw
      case rel => exact ⟨jE + 1,capg,_,_,_,_,by go_num,by omega,HB4,HR4,HL4,HT4,HF4⟩
      case measure => simp [intOf]; omega
     ·have HDE : Hid (xbW xaK mE l3 a3 = (LIE,ljE,ajE)) := xgA HTq.out hjl
      obtain ⟨w4,hw4⟩ : ∃ v,v = wr := ⟨_,rfl⟩
      subst hw4
      have HG4 : Hid (ChgA [P] wo w4) := HG3.out.trans HFq.out (by
       intro x hx
       rw [List.mem_cons,List.mem_singleton] at hx
       rcases hx with rfl | rfl
       ·exact Or.inl (by simp)
       ·exact Or.inr hXr)
      have HL4 : Hid (CL w4 P ljE n ajE) := HLq.out
      have HB4 : Hid (X2 62 w4 X (.int .i64 x) (.slice pE jE ccE)) := HBq.out
      have HRE4 : Hid (LR w4 w3.heap.size 3 1 (fun x : Int => [Value.int .i64 x]) (fun (_ : World) (x : Int) => (Lit.int .i64 x).wf = true) pE jE ccE LIE) := HRq.out
      clear HG3 HL3 HB3 HBq HRq HLq HTq HFq
      have HQ : Hid (xpB li 0 = (⟨x,LIE⟩,ljE,ajE)) := by
       unfold Hid xpB xtN
       simp only [Q1.out,Q2.out,Int.toNat_natCast,HDE.out]
      go_wp2_with fail
      refine xaC (S := fun w' => w'.cell? ⟨M,9,none⟩ = some (.slice o i cap) /\ w'.cell? ⟨X,0,none⟩ = some (.int .i64 x) /\ w'.cell? ⟨X,1,none⟩ = some (.slice pE jE ccE)) (z := 10) (by kernel_rfl) ?_
      obtain ⟨z1,hz1'⟩ : ∃ z,z = World.drew w4 := ⟨_,rfl⟩
      have qd : Kp (fun _ => true) w4 z1 := by rw [hz1']; exact ⟨Nat.le_refl _,fun _ _ _ _ _ _ => rfl⟩
      have HMZ : Hid (MX z1 M (A.setIfInBounds 9 (.slice o i cap))) := (HG4.out.mx HXR.out hMP).kp qd rfl
      have HBZ : Hid (X2 62 z1 X (.int .i64 x) (.slice pE jE ccE)) := by unfold Hid X2; rw [qd.blk _ _ _ _ HB4.out rfl]; exact HB4.out
      have HLZ : Hid (CL z1 P ljE n ajE) := HL4.out.kp qd rfl
      have HWZ : Hid (ChgA [P,M] w z1) := by
       have h1 : ChgA [P,M] w w4 := HW.out.trans HG4.out (by simp)
       rw [hz1']
       exact ⟨h1.os,h1.tape,h1.output,h1.size,h1.block⟩
      have HLLZ : Hid (LR z1 w.heap.size 62 2 EleD.cells EleG o i cap L) := by
       have q1 := HG4.out.kp HLR.out (fun t => t != 45) (by decide)
       have q2 : Kp (fun t => t != 45) w4 z1 := qd.weak (fun _ _ => rfl)
       have q := q1.trans q2
       exact HLL.out.kp q (by decide) (fun d hd => hd.kp q (by decide))
      have hs1 : w.heap.size <= z1.heap.size := HWZ.out.size
      have HD : Hid ((xpB li 0).2.2 = 0 -> EleD.val ⟨x,⟨pE,jE,ccE,LIE⟩⟩ = (xpB li 0).1 /\ EleG z1 ⟨x,⟨pE,jE,ccE,LIE⟩⟩) := fun q0 => by
       have hg := (cod_ele.ok _ _ _ HLR.out.byte (Rel.ele.got HLR.out.byte q0)).1
       rw [HQ.out] at hg ⊢
       exact ⟨rfl,xhV hg.1,(HRE4.out.num).kp qd rfl⟩
      obtain ⟨u0,u1⟩ := HBZ.out.cell
      have HXO : Hid (some X ≠ (Value.slice o i cap).ownBlock) := fun q => by have := HLL.out.row_lt X q.symm; omega
      have HS0 : Hid (z1.cell? ⟨M,9,none⟩ = some (.slice o i cap) /\ z1.cell? ⟨X,0,none⟩ = some (.int .i64 x) /\ z1.cell? ⟨X,1,none⟩ = some (.slice pE jE ccE)) := ⟨by rw [HMZ.out.cell 9]; exact xbV A 9 _ _ HA.out,u0,u1⟩
      clear qd u0 u1 HG4 HL4 HB4 y9 HLR HLL HXR HW HRE4
      rw [<- hz1']
      clear hz1'
      have hHeld : (fun w' => w'.cell? ⟨M,9,none⟩ = some (.slice o i cap) /\ w'.cell? ⟨X,0,none⟩ = some (.int .i64 x) /\ w'.cell? ⟨X,1,none⟩ = some (.slice pE jE ccE)) z1 := HS0.out
      refine tk (i := 0) (h := ?_)
      refine tk (i := 1) (h := ?_)
      refine tk (i := 2) (h := ?_)
      refine tk (i := 3) (h := ?_)
      refine ld (i := 4) [7,8,9,10] (h := ?_)
      refine ld (i := 5) [6,7,8,9,10] (h := ?_)
      have HS2 : Hid ((fun w' => w'.cell? ⟨M,9,none⟩ = some (.slice o i cap) /\ w'.cell? ⟨X,0,none⟩ = some (.int .i64 x) /\ w'.cell? ⟨X,1,none⟩ = some (.slice pE jE ccE)) (z1.alloc (.cells #[.int .i64 x,.slice pE jE ccE] 62))) := by
       have bA : Below z1.heap.size z1 (z1.alloc (.cells #[.int .i64 x,.slice pE jE ccE] 62)) := (Below.refl _ _).alloc (Nat.le_refl _) _
       refine ⟨?_,?_,?_⟩
       ·rw [bA.cell (p := ⟨M,9,none⟩) HMZ.out.lt]; exact HS0.out.1
       ·rw [bA.cell (p := ⟨X,0,none⟩) (xaU HBZ.out)]; exact HS0.out.2.1
       ·rw [bA.cell (p := ⟨X,1,none⟩) (xaU HBZ.out)]; exact HS0.out.2.2
      refine xbT (i := 6) rfl (by kernel_rfl) rfl (fun K R hK => ?_)
      go_simp
      refine hK.out _ _ HS2.out (fun hHeld => xaB ?_)
      clear hK
      refine xbT (i := 7) rfl (by kernel_rfl) rfl (fun K R hK => ?_)
      refine wp_append_lies _ (.tmp 218) (.tmp 220) 27 rfl w.heap.size 62 i0 (.agg #[.int .i64 0,.slice none 0 0]) 2 32 Tryz.underlying27 hi hz0 hz1 hz2 rfl (by omega) _ i (L.flatMap EleD.cells) rfl (HLLZ.out.own.alloc _) ⟨z1.heap.size,0,none⟩ 1 1 [.int .i64 x,.slice pE jE ccE] rfl rfl (World.news_of_block (cs := #[.int .i64 x,.slice pE jE ccE]) (t := 62) (fr := (0,0)) (heap_alloc_new z1 _)) (by simp [Value.oneCell']) (by omega) (by unfold maxLen; omega) (by omega) (by simp; omega) (z1.heap.size + 1) (by simp) ?_
      intro g capg z3 hown hgrow hat hlt3
      have bA : Below z1.heap.size z1 (z1.alloc (.cells #[.int .i64 x,.slice pE jE ccE] 62)) := (Below.refl _ _).alloc (Nat.le_refl _) _
      have qB : Kp (fun t => t != 62) z1 z3 := (Kp.below _ bA).trans (Kp.grown (HLLZ.out.own.alloc _) hgrow _ (by decide))
      have HX3 : Hid (MX z3 M (A.setIfInBounds 9 (.slice o i cap))) := HMZ.out.kp qB (by decide)
      have HB3 : Hid (X2 62 z3 X (.int .i64 x) (.slice pE jE ccE)) := HBZ.out.far bA hgrow HXO.out
      have HS3 : Hid (z3.cell? ⟨M,9,none⟩ = some (.slice o i cap) /\ z3.cell? ⟨X,0,none⟩ = some (.int .i64 x) /\ z3.cell? ⟨X,1,none⟩ = some (.slice pE jE ccE)) := ⟨by rw [HX3.out.cell 9]; exact xbV A 9 _ _ HA.out,HB3.out.cell.1,HB3.out.cell.2⟩
      have HL3 : Hid (CL z3 P ljE n ajE) := HLZ.out.kp qB (by decide)
      have HW3 : Hid (ChgA [P,M] w z3) := (HWZ.out.below bA hs1).grown (HLLZ.out.own.alloc _) hgrow (Nat.le_refl _)
      have qA : Kp (far 62) z1 z3 := (Kp.below _ bA).trans (Kp.grown (HLLZ.out.own.alloc _) hgrow _ (by decide))
      have HLL3 : Hid ((xpB li 0).2.2 = 0 -> EleD.val ⟨x,⟨pE,jE,ccE,LIE⟩⟩ = (xpB li 0).1 /\ LR z3 w.heap.size 62 2 EleD.cells EleG (some ⟨g,0,none⟩) (i + 1) capg (L ++ [⟨x,⟨pE,jE,ccE,LIE⟩⟩])) := fun q0 => ⟨(HD.out q0).1,HLLZ.out.app (fun d hd => hd.kp qA (by decide)) (HD.out q0).2 hown⟩
      clear hown hgrow hat hlt3 qA qB bA
      refine hK.out _ _ HS3.out (fun hHeld => xaB ?_)
      clear hK
      refine tk (i := 8) (h := ?_)
      refine tk (i := 9) (h := ?_)
      have y3 := HS3.out.1
      have f3 := HX3.out.frozen 9
      refine xbH rfl (by kernel_rfl) (by kernel_rfl) (by kernel_rfl) rfl (fun K R hK => ?_)
      go_simp
      refine hK.out _ _ ?_
      clear hK K R hHeld
      clear y3 f3
      have HS4 : Hid (Chg M z3 (z3.setCell ⟨M,9,none⟩ (.slice (some ⟨g,0,none⟩) (i + 1) capg))) := Chg.set _ _ _ _
      have HX4 : Hid (MX (z3.setCell ⟨M,9,none⟩ (.slice (some ⟨g,0,none⟩) (i + 1) capg)) M (A.setIfInBounds 9 (.slice (some ⟨g,0,none⟩) (i + 1) capg))) := by
       have := HX3.out.set 9 (.slice (some ⟨g,0,none⟩) (i + 1) capg)
       rw [xcU] at this
       exact this
      have HL4 : Hid (CL (z3.setCell ⟨M,9,none⟩ (.slice (some ⟨g,0,none⟩) (i + 1) capg)) P ljE n ajE) := HL3.out.chg HS4.out hMP.symm
      have HW4 : Hid (ChgA [P,M] w (z3.setCell ⟨M,9,none⟩ (.slice (some ⟨g,0,none⟩) (i + 1) capg))) := HW3.out.chg HS4.out (Or.inl (by simp))
      have HR4 : Hid (SecR xpB EleD.val (z3.setCell ⟨M,9,none⟩ (.slice (some ⟨g,0,none⟩) (i + 1) capg)) w.heap.size 62 2 EleD.cells EleG m l1 a1 (i + 1) (some ⟨g,0,none⟩) capg (L ++ [⟨x,⟨pE,jE,ccE,LIE⟩⟩]) ljE ajE) := by
       have qM : Kp (fun t => t != 30) z3 (z3.setCell ⟨M,9,none⟩ (.slice (some ⟨g,0,none⟩) (i + 1) capg)) := Kp.chg HX3.out HS4.out _ (by decide)
       have hh := HSR.out.more (w' := z3.setCell ⟨M,9,none⟩ (.slice (some ⟨g,0,none⟩) (i + 1) capg)) (o' := some ⟨g,0,none⟩) (cap' := capg) (d := ⟨x,⟨pE,jE,ccE,LIE⟩⟩) hlt fun q0 => ⟨(HLL3.out q0).1,(HLL3.out q0).2.kp qM (by decide) (fun d hd => hd.kp qM (by decide))⟩
       rw [HQ.out] at hh
       exact hh
      go_wp2
      go_roundw
      case rel => exact ⟨i + 1,capg,_,_,_,_,by go_num,by omega,HX4,HL4,HR4,HW4⟩
      case measure => simp [intOf]; omega
   ·have hb : (ai == 0) = false := by rw [beq_eq_false_iff_ne]; exact h0
    have hb2 : (ai != 0) = true := by rw [bne,hb]; rfl
    have HN0 : Hid (ai ≠ 0) := h0
    clear h0
    go_wp2
    refine ⟨rfl,_,results_none rfl _ _ _,rfl,?_⟩
    obtain ⟨r1,r2⟩ := HSR.out.done (Or.inr HN0.out)
    rw [r1]
    exact ⟨HLR.out,HW.out,o,i,cap,HXR.out,fun q => absurd q HN0.out⟩
  ·go_wp2
   go_end0
   obtain ⟨r1,r2⟩ := HSR.out.done (Or.inl hlt)
   rw [r1]
   exact ⟨rfl,HLR.out,HW.out,o,i,cap,HXR.out,fun q => ⟨L,r2 q⟩⟩
end Go.Proofs.YtmmjgdaamkdncaaGreatDoor
