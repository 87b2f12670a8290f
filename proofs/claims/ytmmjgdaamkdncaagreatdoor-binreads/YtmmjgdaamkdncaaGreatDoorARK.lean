import Derived.Test.YtmmjgdaamkdncaaGreatDoorARF
namespace Go.Proofs.YtmmjgdaamkdncaaGreatDoor
set_option maxHeartbeats 8000000
set_option maxRecDepth 1000000
open Go.RowKit
set_option linter.unusedVariables false
theorem ygH (P M C : Nat) (l : List Int) (n : Int) (w : World) (h : CL w P l n 0) (hC : CB w C (.slice none 0 0)) (hMx : MaxIn w) (hP4 : 4 <= P) (hC4 : 4 <= C) (hw4 : 4 <= w.heap.size) :
  Calls Tryz.prog 16 #[.pointer (some ⟨P,0,none⟩),.int .i64 10,.pointer (some ⟨M,0,none⟩),.pointer (some ⟨C,0,none⟩)] w fun r w' => r = .returned (.tuple #[]) /\ CL w' P (xaL 16 (xaG xfO) l 0).2.1 n (xaL 16 (xaG xfO) l 0).2.2 /\ ChgA [P,C] w w' /\ ∃ (o : Option Addr) (j cap : Nat),CB w' C (.slice o j cap) /\ ((xaL 16 (xaG xfO) l 0).2.2 = 0 -> ∃ L : List FunD,L.map FunD.cod = (xaL 16 (xaG xfO) l 0).1 /\ LR w' w.heap.size 55 3 FunD.cells FunG o j cap L) := by
 obtain ⟨i0,hi,hz0,hz1,hz2⟩ := info_parts Tryz.infoLfun
 have hPw := h.lt
 have hCP : C ≠ P := h.apart hC (by decide)
 obtain ⟨v,hv⟩ : ∃ v,v = w.alloc (.cells #[.int .i64 0,.int .i64 16,.int .i64 16,.int .i64 16,.int .i64 1,.int .i64 1,.int .i64 8,.int .i64 8,.int .i64 0,.int .i64 4,.int .i64 16,.int .i64 4] 91) := ⟨_,rfl⟩
 have hlim : (w.alloc (.cells #[.int .i64 0,.int .i64 16,.int .i64 16,.int .i64 16,.int .i64 1,.int .i64 1,.int .i64 8,.int .i64 8,.int .i64 0,.int .i64 4,.int .i64 16,.int .i64 4] 91)).cell? ⟨w.heap.size,10,none⟩ = some (.int .i64 16) := xgG w 10 16 rfl
 have b : Below w.heap.size w v := by rw [hv]; exact (Below.refl _ _).alloc (Nat.le_refl _) _
 have HV : Hid (v = w.alloc (.cells #[.int .i64 0,.int .i64 16,.int .i64 16,.int .i64 16,.int .i64 1,.int .i64 1,.int .i64 8,.int .i64 8,.int .i64 0,.int .i64 4,.int .i64 16,.int .i64 4] 91)) := hv
 have hL0 : CL v P l n 0 := h.heap (b.block P hPw)
 have HX0 : Hid (CB v C (.slice none 0 0)) := hC.kp (Kp.below (fun _ => true) b) rfl
 have HW0 : Hid (ChgA [P,C] w v) := (ChgA.refl _ _).below b (Nat.le_refl _)
 have HC := kZz (xdN P 16 l n 0 v hL0)
 have hfew := xbQ 16 (by omega) l 0 h.byte
 unfold xaL
 generalize xaN 16 l 0 = z at HC hfew ⊢
 obtain ⟨m0,l1,a1⟩ := z
 dsimp only at HC hfew ⊢
 obtain ⟨m,rfl⟩ : ∃ m : Nat,m0 = (m : Int) := ⟨m0.toNat,by omega⟩
 rw [Int.toNat_natCast]
 have hm16 : m <= 16 := by omega
 have HMX : Hid (MaxIn w) := hMx
 clear h hC hv b hL0 hfew hMx
 go_enter Tryz.func16,Tryz.ntmps16
 go_wp2_with fail
 rw [<- HV.out]
 refine HC.out.mono ?_
 rintro r w1 ⟨rfl,h1,c1⟩
 have HL1 : Hid (CL w1 P l1 n a1) := h1
 have HX1 : Hid (CB w1 C (.slice none 0 0)) := HX0.out.chg c1 hCP
 have HW1 : Hid (ChgA [P,C] w w1) := HW0.out.chg c1 (Or.inl (by simp))
 clear h1 c1 HC HX0 HW0 HV hlim
 go_wp2
 go_loopw [36] (fun iv wr => ∃ i cap : Nat,∃ o : Option Addr,∃ L : List FunD,∃ li : List Int,∃ ai : Int,iv = .int .i64 (i : Int) /\ i <= m /\ Hid (CB wr C (.slice o i cap)) /\ Hid (CL wr P li n ai) /\ Hid (SecR (xaG xfO) FunD.cod wr w.heap.size 55 3 FunD.cells FunG m l1 a1 i o cap L li ai) /\ Hid (ChgA [P,C] w wr)) (fun iv _ => m - (intOf iv).toNat)
 case atStart => exact ⟨0,0,none,[],l1,a1,rfl,by omega,HX1,HL1,SecR.start _ _ _ _ _ _ _ _ _,HW1⟩
 case round =>
  obtain ⟨i,cap,o,L,li,ai,rfl,him,HXR,HLR,HSR,HW⟩ := hrel
  clear HX1 HL1 HW1
  obtain ⟨e0,e1,e2⟩ := (HLR.out.choose_spec.2.2).cell
  clear e0 e1
  by_cases hlt : i < m
  ·by_cases h0 : ai = 0
   ·subst h0
    have HLL : Hid (LR wr w.heap.size 55 3 FunD.cells FunG o i cap L) := (HSR.out.list rfl).2
    have hcl := (HLL.out.capm).1
    have hcm := (HLL.out.capm).2
    unfold maxLen at hcm
    have hsr := HW.out.size
    have y0 : wr.cell? ⟨C,0,none⟩ = some (.slice o i cap) := HXR.out.cell
    have HMR : Hid (MaxIn wr) := HMX.out.b4 (HW.out.to 4 (by simp; omega) hw4)
    go_wp2_with fail
    refine xaC (S := fun w' => w'.cell? ⟨C,0,none⟩ = some (.slice o i cap)) (z := 9) (by kernel_rfl) ?_
    obtain ⟨z0,hz0'⟩ : ∃ z,z = World.drew wr := ⟨_,rfl⟩
    have HS0 : Hid (z0.cell? ⟨C,0,none⟩ = some (.slice o i cap)) := by rw [hz0']; exact y0
    have hC0 : CL z0 P li n 0 := HLR.out.heap (by rw [hz0']; rfl)
    have hM0 : MaxIn z0 := by rw [hz0']; exact HMR.out
    have HC0 : Hid (Chg P wr z0) := by rw [hz0']; exact ⟨rfl,rfl,rfl,Nat.le_refl _,fun _ _ _ => rfl⟩
    have HCALL := kZz (ylU P li n 0 z0 hC0 hM0 hP4)
    clear hC0 e2 y0 hM0
    rw [<- hz0']
    clear hz0'
    have hHeld : (fun w' => w'.cell? ⟨C,0,none⟩ = some (.slice o i cap)) z0 := HS0.out
    refine tk (i := 0) (h := ?_)
    refine tk (i := 1) (h := ?_)
    refine tk (i := 2) (h := ?_)
    refine ld (i := 3) [7,8,9] (h := ?_)
    refine tk (i := 4) (h := ?_)
    refine xgX (i := 5) rfl (by kernel_rfl) rfl (by go_simp) HCALL.out ?_
    rintro r z1 ⟨d,rfl,ht,h1,c1,hd⟩
    have HC1 : Hid (Chg P wr z1) := HC0.out.trans c1
    have HX1 : Hid (CB z1 C (.slice o i cap)) := HXR.out.chg HC1.out hCP
    have HS1 : Hid (z1.cell? ⟨C,0,none⟩ = some (.slice o i cap)) := HX1.out.cell
    have qC : Kp (fun t => t != 45) wr z1 := Kp.cur HLR.out HC1.out _ (by decide)
    have HL1 := kZz h1
    have HLL1 : Hid (LR z1 w.heap.size 55 3 FunD.cells FunG o i cap L) := HLL.out.kp qC (by decide) (fun d hd => hd.kp qC (by decide) (by decide) (by decide))
    have hs1 : w.heap.size <= z1.heap.size := Nat.le_trans hsr HC1.out.size
    have HW1 : Hid (ChgA [P,C] w z1) := HW.out.chg HC1.out (Or.inl (by simp))
    obtain ⟨t,⟨o2,n2,c2,x2⟩,o3,c3,b3⟩ := d
    dsimp only at ht
    subst ht
    have HD : Hid (((xaG xfO) li 0).2.2 = 0 -> FunD.cod ⟨0,⟨o2,n2,c2,x2⟩,o3,c3,b3⟩ = ((xaG xfO) li 0).1 /\ FunG z1 ⟨0,⟨o2,n2,c2,x2⟩,o3,c3,b3⟩) := hd
    dsimp only
    clear h1 c1 qC HCALL HC0 HS0 hd
    clear hHeld
    refine ⟨_,rfl,HS1.out,fun hHeld => xaB ?_⟩
    have HS2 : Hid ((fun w' => w'.cell? ⟨C,0,none⟩ = some (.slice o i cap)) (z1.alloc (.cells #[.int .i64 0,.slice o2 n2 c2,.slice o3 b3.length c3] 55))) := by
     unfold Hid
     dsimp only
     have bA : Below z1.heap.size z1 (z1.alloc (.cells #[.int .i64 0,.slice o2 n2 c2,.slice o3 b3.length c3] 55)) := (Below.refl _ _).alloc (Nat.le_refl _) _
     rw [bA.cell (p := ⟨C,0,none⟩) HX1.out.lt]
     exact HS1.out
    refine xbT (i := 6) rfl (by kernel_rfl) rfl (fun K R hK => ?_)
    go_simp
    refine hK.out _ _ HS2.out (fun hHeld => xaB ?_)
    clear hK
    refine xbT (i := 7) rfl (by kernel_rfl) rfl (fun K R hK => ?_)
    refine wp_append_lies _ (.tmp 229) (.tmp 232) 24 rfl w.heap.size 55 i0 (.agg #[.int .i64 0,.slice none 0 0,.slice none 0 0]) 3 56 Tryz.underlying24 hi hz0 hz1 hz2 rfl (by omega) _ i (L.flatMap FunD.cells) rfl (HLL1.out.own.alloc _) ⟨z1.heap.size,0,none⟩ 1 1 [.int .i64 0,.slice o2 n2 c2,.slice o3 b3.length c3] rfl rfl (World.news_of_block (cs := #[.int .i64 0,.slice o2 n2 c2,.slice o3 b3.length c3]) (t := 55) (fr := (0,0)) (heap_alloc_new z1 _)) (by simp [Value.oneCell']) (by omega) (by unfold maxLen; omega) (by omega) (by simp; omega) (z1.heap.size + 1) (by simp) ?_
    intro g capg z3 hown hgrow hat hlt3
    have bA : Below z1.heap.size z1 (z1.alloc (.cells #[.int .i64 0,.slice o2 n2 c2,.slice o3 b3.length c3] 55)) := (Below.refl _ _).alloc (Nat.le_refl _) _
    have qB : Kp (fun t => t != 55) z1 z3 := (Kp.below _ bA).trans (Kp.grown (HLL1.out.own.alloc _) hgrow _ (by decide))
    have HX3 : Hid (CB z3 C (.slice o i cap)) := HX1.out.kp qB (by decide)
    have HS3 : Hid (z3.cell? ⟨C,0,none⟩ = some (.slice o i cap)) := HX3.out.cell
    have HL3 : Hid (CL z3 P ((xaG xfO) li 0).2.1 n ((xaG xfO) li 0).2.2) := HL1.out.kp qB (by decide)
    have HW3 : Hid (ChgA [P,C] w z3) := (HW1.out.below bA hs1).grown (HLL1.out.own.alloc _) hgrow (Nat.le_refl _)
    have qA : Kp (far 55) z1 z3 := (Kp.below _ bA).trans (Kp.grown (HLL1.out.own.alloc _) hgrow _ (by decide))
    have HLL3 : Hid (((xaG xfO) li 0).2.2 = 0 -> FunD.cod ⟨0,⟨o2,n2,c2,x2⟩,o3,c3,b3⟩ = ((xaG xfO) li 0).1 /\ LR z3 w.heap.size 55 3 FunD.cells FunG (some ⟨g,0,none⟩) (i + 1) capg (L ++ [⟨0,⟨o2,n2,c2,x2⟩,o3,c3,b3⟩])) := fun q0 => ⟨(HD.out q0).1,HLL1.out.app (fun d hd => hd.kp qA (by decide) (by decide) (by decide)) (HD.out q0).2 hown⟩
    clear hown hgrow hat hlt3 qA qB bA
    refine hK.out _ _ HS3.out (fun hHeld => xaB ?_)
    clear hK
    refine tk (i := 8) (h := ?_)
    have y3 := HS3.out
    have f3 := HX3.out.frozen
    refine xbH rfl (by kernel_rfl) (by kernel_rfl) (by kernel_rfl) rfl (fun K R hK => ?_)
    go_simp
    refine hK.out _ _ ?_
    clear hK K R hHeld
    clear y3 f3
    have HS4 : Hid (Chg C z3 (z3.setCell ⟨C,0,none⟩ (.slice (some ⟨g,0,none⟩) (i + 1) capg))) := Chg.set _ _ _ _
    have HX4 : Hid (CB (z3.setCell ⟨C,0,none⟩ (.slice (some ⟨g,0,none⟩) (i + 1) capg)) C (.slice (some ⟨g,0,none⟩) (i + 1) capg)) := HX3.out.set _
    have HL4 : Hid (CL (z3.setCell ⟨C,0,none⟩ (.slice (some ⟨g,0,none⟩) (i + 1) capg)) P ((xaG xfO) li 0).2.1 n ((xaG xfO) li 0).2.2) := HL3.out.chg HS4.out hCP.symm
    have HW4 : Hid (ChgA [P,C] w (z3.setCell ⟨C,0,none⟩ (.slice (some ⟨g,0,none⟩) (i + 1) capg))) := HW3.out.chg HS4.out (Or.inl (by simp))
    have HR4 : Hid (SecR (xaG xfO) FunD.cod (z3.setCell ⟨C,0,none⟩ (.slice (some ⟨g,0,none⟩) (i + 1) capg)) w.heap.size 55 3 FunD.cells FunG m l1 a1 (i + 1) (some ⟨g,0,none⟩) capg (L ++ [⟨0,⟨o2,n2,c2,x2⟩,o3,c3,b3⟩]) ((xaG xfO) li 0).2.1 ((xaG xfO) li 0).2.2) := HSR.out.more hlt fun q0 => ⟨(HLL3.out q0).1,by
     have qM : Kp (fun t => t != 24) z3 (z3.setCell ⟨C,0,none⟩ (.slice (some ⟨g,0,none⟩) (i + 1) capg)) := Kp.chg HX3.out HS4.out _ (by decide)
     exact (HLL3.out q0).2.kp qM (by decide) (fun d hd => hd.kp qM (by decide) (by decide) (by decide))⟩
    go_wp2
    go_roundw
    case rel => exact ⟨i + 1,capg,_,_,_,_,by go_num,by omega,HX4,HL4,HR4,HW4⟩
    case measure => simp [intOf]; omega
   ·have hb : (ai == 0) = false := by rw [beq_eq_false_iff_ne]; exact h0
    have hb2 : (ai != 0) = true := by rw [bne,hb]; rfl
    have HN0 : Hid (ai ≠ 0) := h0
    clear h0
    go_wp2
    refine ⟨rfl,_,results_none rfl _ _ _,rfl,?_⟩
    obtain ⟨r1,r2⟩ := HSR.out.done (Or.inr HN0.out)
    rw [r1]
    exact ⟨HLR.out,HW.out,o,i,cap,HXR.out,fun q => absurd q HN0.out⟩
  ·go_wp2
   go_end0
   obtain ⟨r1,r2⟩ := HSR.out.done (Or.inl hlt)
   rw [r1]
   exact ⟨rfl,HLR.out,HW.out,o,i,cap,HXR.out,fun q => ⟨L,r2 q⟩⟩
theorem ygI (P M C : Nat) (A : Array Value) (l : List Int) (n : Int) (w : World) (h : CL w P l n 0) (hM : MX w M A) (hA : A[10]? = some (.slice none 0 0)) :
  Calls Tryz.prog 16 #[.pointer (some ⟨P,0,none⟩),.int .i64 11,.pointer (some ⟨M,0,none⟩),.pointer (some ⟨C,0,none⟩)] w fun r w' => r = .returned (.tuple #[]) /\ CL w' P (xaL 4 xlZ l 0).2.1 n (xaL 4 xlZ l 0).2.2 /\ ChgA [P,M] w w' /\ ∃ (o : Option Addr) (j cap : Nat),MX w' M (A.setIfInBounds 10 (.slice o j cap)) /\ ((xaL 4 xlZ l 0).2.2 = 0 -> ∃ L : List DatD,L.map DatD.val = (xaL 4 xlZ l 0).1 /\ LR w' w.heap.size 82 2 DatD.cells DatD.ok o j cap L) := by
 obtain ⟨i0,hi,hz0,hz1,hz2⟩ := info_parts Tryz.infoLdat
 have hPw := h.lt
 have hMP : M ≠ P := h.apart hM (by decide)
 obtain ⟨v,hv⟩ : ∃ v,v = w.alloc (.cells #[.int .i64 0,.int .i64 16,.int .i64 16,.int .i64 16,.int .i64 1,.int .i64 1,.int .i64 8,.int .i64 8,.int .i64 0,.int .i64 4,.int .i64 16,.int .i64 4] 91) := ⟨_,rfl⟩
 have hlim : (w.alloc (.cells #[.int .i64 0,.int .i64 16,.int .i64 16,.int .i64 16,.int .i64 1,.int .i64 1,.int .i64 8,.int .i64 8,.int .i64 0,.int .i64 4,.int .i64 16,.int .i64 4] 91)).cell? ⟨w.heap.size,11,none⟩ = some (.int .i64 4) := xgG w 11 4 rfl
 have b : Below w.heap.size w v := by rw [hv]; exact (Below.refl _ _).alloc (Nat.le_refl _) _
 have HV : Hid (v = w.alloc (.cells #[.int .i64 0,.int .i64 16,.int .i64 16,.int .i64 16,.int .i64 1,.int .i64 1,.int .i64 8,.int .i64 8,.int .i64 0,.int .i64 4,.int .i64 16,.int .i64 4] 91)) := hv
 have hL0 : CL v P l n 0 := h.heap (b.block P hPw)
 have HX0 : Hid (MX v M A) := hM.kp (Kp.below (fun _ => true) b) rfl
 have HW0 : Hid (ChgA [P,M] w v) := (ChgA.refl _ _).below b (Nat.le_refl _)
 have HC := kZz (xdN P 4 l n 0 v hL0)
 have hfew := xbQ 4 (by omega) l 0 h.byte
 unfold xaL
 generalize xaN 4 l 0 = z at HC hfew ⊢
 obtain ⟨m0,l1,a1⟩ := z
 dsimp only at HC hfew ⊢
 obtain ⟨m,rfl⟩ : ∃ m : Nat,m0 = (m : Int) := ⟨m0.toNat,by omega⟩
 rw [Int.toNat_natCast]
 have hm16 : m <= 4 := by omega
 have HA : Hid (A[10]? = some (.slice none 0 0)) := hA
 clear h hM hA hv b hL0 hfew
 go_enter Tryz.func16,Tryz.ntmps16
 go_wp2_with fail
 rw [<- HV.out]
 refine HC.out.mono ?_
 rintro r w1 ⟨rfl,h1,c1⟩
 have HL1 : Hid (CL w1 P l1 n a1) := h1
 have HX1 : Hid (MX w1 M (A.setIfInBounds 10 (.slice none 0 0))) := by unfold Hid; rw [xdS A 10 _ HA.out]; exact HX0.out.chg c1 hMP
 have HW1 : Hid (ChgA [P,M] w w1) := HW0.out.chg c1 (Or.inl (by simp))
 clear h1 c1 HC HX0 HW0 HV hlim
 go_wp2
 go_loopw [36] (fun iv wr => ∃ i cap : Nat,∃ o : Option Addr,∃ L : List DatD,∃ li : List Int,∃ ai : Int,iv = .int .i64 (i : Int) /\ i <= m /\ Hid (MX wr M (A.setIfInBounds 10 (.slice o i cap))) /\ Hid (CL wr P li n ai) /\ Hid (SecR xlZ DatD.val wr w.heap.size 82 2 DatD.cells DatD.ok m l1 a1 i o cap L li ai) /\ Hid (ChgA [P,M] w wr)) (fun iv _ => m - (intOf iv).toNat)
 case atStart => exact ⟨0,0,none,[],l1,a1,rfl,by omega,HX1,HL1,SecR.start _ _ _ _ _ _ _ _ _,HW1⟩
 case round =>
  obtain ⟨i,cap,o,L,li,ai,rfl,him,HXR,HLR,HSR,HW⟩ := hrel
  clear HX1 HL1 HW1
  obtain ⟨e0,e1,e2⟩ := (HLR.out.choose_spec.2.2).cell
  clear e0 e1
  by_cases hlt : i < m
  ·by_cases h0 : ai = 0
   ·subst h0
    have HLL : Hid (LR wr w.heap.size 82 2 DatD.cells DatD.ok o i cap L) := (HSR.out.list rfl).2
    have hcl := (HLL.out.capm).1
    have hcm := (HLL.out.capm).2
    unfold maxLen at hcm
    have hsr := HW.out.size
    have y10 : wr.cell? ⟨M,10,none⟩ = some (.slice o i cap) := by rw [HXR.out.cell 10]; exact xbV A 10 _ _ HA.out
    obtain ⟨x,l2,a2,q1⟩ : ∃ x l2 a2,xhM li 0 = (x,l2,a2) := ⟨_,_,_,rfl⟩
    obtain ⟨cD,l3,a3,q2⟩ : ∃ c l3 a3,xaN 64 l2 a2 = (c,l3,a3) := ⟨_,_,_,rfl⟩
    obtain ⟨a4,q3⟩ : ∃ a4,a4 = xcP (decide ((l3.length : Int) < cD)) 3 a3 := ⟨_,rfl⟩
    have HQD : Hid (xlZ li 0 = (if a4 = 0 then ((⟨x,l3.take cD.toNat⟩ : DatV),l3.drop cD.toNat,a4) else (⟨x,[]⟩,l3,a4))) := by
     unfold Hid xlZ xlD
     simp only [q1,q2,<- q3]
     split <;> rfl
    have Q1 := kZz q1
    have Q2 := kZz q2
    have Q3 := kZz q3
    clear q1 q2 q3
    have HG0 : Hid (ChgA [P] wr wr) := ChgA.refl _ _
    have HL0 : Hid (CL wr P li n 0) := HLR.out
    have hPr : P < wr.heap.size := HLR.out.lt
    have HK1 := kZz (ybG P li n 0 wr HL0.out)
    rw [Q1.out] at HK1
    dsimp only at HK1
    go_wp2_with fail
    refine HK1.out.mono ?_
    rintro r w1 ⟨rfl,h1,c1⟩
    have HG1 : Hid (ChgA [P] wr w1) := HG0.out.chg c1 (Or.inl (by simp))
    have HL1 : Hid (CL w1 P l2 n a2) := h1
    clear h1 c1 HG0 HL0
    clear e2
    obtain ⟨w2,hv2⟩ : ∃ v,v = w1.alloc (.cells #[.int .i64 x,.string ⟨#[]⟩] 82) := ⟨_,rfl⟩
    have HV2 : Hid (w2 = w1.alloc (.cells #[.int .i64 x,.string ⟨#[]⟩] 82)) := hv2
    obtain ⟨X,hX⟩ : ∃ X,X = w1.heap.size := ⟨_,rfl⟩
    have HXE : Hid (X = w1.heap.size) := hX
    have hXr : wr.heap.size <= X := by rw [hX]; exact HG1.out.size
    have hXP : X ≠ P := by omega
    have bA : Below w1.heap.size w1 w2 := by rw [hv2]; exact (Below.refl _ _).alloc (Nat.le_refl _) _
    have HG2 : Hid (ChgA [P] wr w2) := HG1.out.below bA HG1.out.size
    have HL2 : Hid (CL w2 P l2 n a2) := HL1.out.heap (bA.block P HL1.out.lt)
    have HB2 : Hid (X2 82 w2 X (.int .i64 x) (.string ⟨#[]⟩)) := by unfold Hid; rw [hv2,hX]; exact xaZ _ _
    clear hv2 hX bA HG1 HL1
    have hfD := xbQ 64 (by omega) l2 a2 HL2.out.byte
    rw [Q2.out] at hfD
    dsimp only at hfD
    obtain ⟨mD,hmD⟩ : ∃ m : Nat,cD = (m : Int) := ⟨cD.toNat,by omega⟩
    subst hmD
    rw [Int.toNat_natCast] at HQD
    have hMD : mD <= 64 := by omega
    clear hfD
    have HK3 := kZz (xdN P 64 l2 n a2 w2 HL2.out)
    rw [Q2.out] at HK3
    dsimp only at HK3
    go_wp2_with fail
    rw [<- HV2.out,<- HXE.out]
    clear HV2 HXE
    refine HK3.out.mono ?_
    rintro r w3 ⟨rfl,h1,c1⟩
    have HG3 : Hid (ChgA [P] wr w3) := HG2.out.chg c1 (Or.inl (by simp))
    have HL3 : Hid (CL w3 P l3 n a3) := h1
    have HB3 : Hid (X2 82 w3 X (.int .i64 x) (.string ⟨#[]⟩)) := HB2.out.chg c1 hXP
    clear h1 c1 HG2 HL2 HB2
    obtain ⟨sx,hsx,hmx,hcx⟩ := HL3.out
    obtain ⟨v0,v1,v2⟩ := hcx.cell
    have hmz : sx.size <= 9223372036854775807 := by unfold maxLen at hmx; omega
    have HSZ : Hid (sx.size = l3.length) := by unfold Hid; rw [<- hsx,xaY]
    clear hsx hmx hcx v1 v2
    go_wp2_with fail
    refine (HL3.out.say _ _).mono ?_
    rintro r w4 ⟨rfl,h1,c1⟩
    replace h1 : CL w4 P l3 n a4 := by
     rw [Q3.out,<- HSZ.out,show decide ((sx.size : Int) < (mD : Int)) = decide (sx.size < mD) from decide_eq_decide.2 Int.ofNat_lt]
     exact h1
    have HG4 : Hid (ChgA [P] wr w4) := HG3.out.chg c1 (Or.inl (by simp))
    have HL4 : Hid (CL w4 P l3 n a4) := h1
    have HB4 : Hid (X2 82 w4 X (.int .i64 x) (.string ⟨#[]⟩)) := HB3.out.chg c1 hXP
    clear h1 c1 HG3 HL3 HB3
    clear v0 hmz HSZ
    obtain ⟨sy,hsy,hmy,hcy⟩ := HL4.out
    obtain ⟨v0,v1,v2⟩ := hcy.cell
    have hmz : sy.size <= 9223372036854775807 := by unfold maxLen at hmy; omega
    have HCY : Hid (CS w4 P sy n a4) := hcy
    have HNY : Hid (xaX sy = l3) := hsy
    have HMY : Hid (sy.size <= maxLen) := hmy
    clear hsy hmy hcy v1
    by_cases h4 : a4 = 0
    ·subst h4
     rw [if_pos rfl] at HQD
     have hle : mD <= sy.size := by
      have q := Q3.out
      have hn : l3.length = sy.size := by rw [<- HNY.out,xaY]
      unfold xcP at q
      by_cases hq : (l3.length : Int) < (mD : Int)
      ·rw [decide_eq_true hq,if_pos rfl] at q
       unfold xbD at q
       split at q
       ·cases q
       ·rename_i hq2; exact absurd q.symm hq2
      ·omega
     have hle2 : (mD : Int) <= (sy.size : Int) := by omega
     have hk0 : (0 : Int) <= (mD : Int) := by omega
     obtain ⟨x0,x1⟩ := HB4.out.cell
     have xf := HB4.out.frozen 1
     obtain ⟨va,hva⟩ : ∃ v,v = w4.setCell ⟨X,1,none⟩ (.string (sy.extract 0 mD)) := ⟨_,rfl⟩
     have hSa : Chg X w4 va := by rw [hva]; exact Chg.set _ _ _ _
     have hca : CS va P sy n 0 := (hSa.block P HL4.out.lt hXP.symm).trans HCY.out
     have hba : X2 82 va X (.int .i64 x) (.string (sy.extract 0 mD)) := by rw [hva]; exact HB4.out.set1 _
     have y0 : (w4.setCell ⟨X,1,none⟩ (.string (sy.extract 0 mD))).cell? ⟨P,0,none⟩ = some (.string sy) := by rw [<- hva]; exact hca.cell.1
     have yf : (w4.setCell ⟨X,1,none⟩ (.string (sy.extract 0 mD))).frozen? ⟨P,0,none⟩ = false := by
      rw [<- hva]
      unfold CS at hca
      simp [World.frozen?,hca]
     obtain ⟨vb,hvb⟩ : ∃ v,v = va.setCell ⟨P,0,none⟩ (.string (sy.extract mD sy.size)) := ⟨_,rfl⟩
     have HVB : Hid (vb = (w4.setCell ⟨X,1,none⟩ (.string (sy.extract 0 mD))).setCell ⟨P,0,none⟩ (.string (sy.extract mD sy.size))) := by unfold Hid; rw [hvb,hva]
     have hSb : Chg P va vb := by rw [hvb]; exact Chg.set _ _ _ _
     have hcb : CS vb P (sy.extract mD sy.size) n 0 := by
      rw [hvb]
      unfold CS at hca ⊢
      simp [World.setCell,Array.getElem?_modify,hca]
     have HG5 : Hid (ChgA [P] wr vb) := (HG4.out.chg hSa (Or.inr hXr)).chg hSb (Or.inl (by simp))
     have HL5 : Hid (CL vb P (l3.drop mD) n 0) := ⟨_,by rw [xbN,HNY.out],xbF sy mD HMY.out,hcb⟩
     have HB5 : Hid (X2 82 vb X (.int .i64 x) (.string (sy.extract 0 mD))) := hba.chg hSb hXP
     have HNT : Hid (xaX (sy.extract 0 mD) = l3.take mD) := by unfold Hid; rw [xcV,HNY.out,List.drop_zero,Nat.sub_zero]
     have HQ : Hid (xlZ li 0 = (⟨x,l3.take mD⟩,l3.drop mD,0)) := HQD.out
     clear HG4 HL4 HB4 hva hSa hca hba hvb hSb hcb
     go_wp2_with fail
     rw [<- HVB.out]
     clear HVB x0 x1 xf y0 yf v0 v2
     refine xaC (S := fun w' => w'.cell? ⟨M,10,none⟩ = some (.slice o i cap) /\ w'.cell? ⟨X,0,none⟩ = some (.int .i64 x) /\ w'.cell? ⟨X,1,none⟩ = some (.string (sy.extract 0 mD))) (z := 10) (by kernel_rfl) ?_
     obtain ⟨z1,hz1'⟩ : ∃ z,z = World.drew vb := ⟨_,rfl⟩
     have qd : Kp (fun _ => true) vb z1 := by rw [hz1']; exact ⟨Nat.le_refl _,fun _ _ _ _ _ _ => rfl⟩
     have HMZ : Hid (MX z1 M (A.setIfInBounds 10 (.slice o i cap))) := (HG5.out.mx HXR.out hMP).kp qd rfl
     have HBZ : Hid (X2 82 z1 X (.int .i64 x) (.string (sy.extract 0 mD))) := by unfold Hid X2; rw [qd.blk _ _ _ _ HB5.out rfl]; exact HB5.out
     have HLZ : Hid (CL z1 P (l3.drop mD) n 0) := HL5.out.kp qd rfl
     have HWZ : Hid (ChgA [P,M] w z1) := by
      have h1 : ChgA [P,M] w vb := HW.out.trans HG5.out (by simp)
      rw [hz1']
      exact ⟨h1.os,h1.tape,h1.output,h1.size,h1.block⟩
     have HLLZ : Hid (LR z1 w.heap.size 82 2 DatD.cells DatD.ok o i cap L) := by
      have q1 := HG5.out.kp HLR.out (fun t => t != 45) (by decide)
      have q2 : Kp (fun t => t != 45) vb z1 := qd.weak (fun _ _ => rfl)
      have q := q1.trans q2
      exact HLL.out.kp q (by decide) (fun d hd => hd)
     have hs1 : w.heap.size <= z1.heap.size := HWZ.out.size
     have HD : Hid ((xlZ li 0).2.2 = 0 -> DatD.val ⟨x,sy.extract 0 mD⟩ = (xlZ li 0).1 /\ DatD.ok z1 ⟨x,sy.extract 0 mD⟩) := fun q0 => by
      have hg := (cod_dat.ok _ _ _ HLR.out.byte (Rel.dat.got HLR.out.byte q0)).1
      rw [HQ.out] at hg ⊢
      exact ⟨by rw [<- HNT.out]; rfl,yiE hg (by rw [<- HNT.out]) z1⟩
     obtain ⟨u0,u1⟩ := HBZ.out.cell
     have HXO : Hid (some X ≠ (Value.slice o i cap).ownBlock) := fun q => by have := HLL.out.row_lt X q.symm; omega
     have HS0 : Hid (z1.cell? ⟨M,10,none⟩ = some (.slice o i cap) /\ z1.cell? ⟨X,0,none⟩ = some (.int .i64 x) /\ z1.cell? ⟨X,1,none⟩ = some (.string (sy.extract 0 mD))) := ⟨by rw [HMZ.out.cell 10]; exact xbV A 10 _ _ HA.out,u0,u1⟩
     clear qd u0 u1 HG5 HL5 HB5 y10 HLR HLL HXR HW
     rw [<- hz1']
     clear hz1'
     have hHeld : (fun w' => w'.cell? ⟨M,10,none⟩ = some (.slice o i cap) /\ w'.cell? ⟨X,0,none⟩ = some (.int .i64 x) /\ w'.cell? ⟨X,1,none⟩ = some (.string (sy.extract 0 mD))) z1 := HS0.out
     refine tk (i := 0) (h := ?_)
     refine tk (i := 1) (h := ?_)
     refine tk (i := 2) (h := ?_)
     refine tk (i := 3) (h := ?_)
     refine ld (i := 4) [7,8,9,10] (h := ?_)
     refine ld (i := 5) [6,7,8,9,10] (h := ?_)
     have HS2 : Hid ((fun w' => w'.cell? ⟨M,10,none⟩ = some (.slice o i cap) /\ w'.cell? ⟨X,0,none⟩ = some (.int .i64 x) /\ w'.cell? ⟨X,1,none⟩ = some (.string (sy.extract 0 mD))) (z1.alloc (.cells #[.int .i64 x,.string (sy.extract 0 mD)] 82))) := by
      have bA : Below z1.heap.size z1 (z1.alloc (.cells #[.int .i64 x,.string (sy.extract 0 mD)] 82)) := (Below.refl _ _).alloc (Nat.le_refl _) _
      refine ⟨?_,?_,?_⟩
      ·rw [bA.cell (p := ⟨M,10,none⟩) HMZ.out.lt]; exact HS0.out.1
      ·rw [bA.cell (p := ⟨X,0,none⟩) (xaU HBZ.out)]; exact HS0.out.2.1
      ·rw [bA.cell (p := ⟨X,1,none⟩) (xaU HBZ.out)]; exact HS0.out.2.2
     refine xbT (i := 6) rfl (by kernel_rfl) rfl (fun K R hK => ?_)
     go_simp
     refine hK.out _ _ HS2.out (fun hHeld => xaB ?_)
     clear hK
     refine xbT (i := 7) rfl (by kernel_rfl) rfl (fun K R hK => ?_)
     refine wp_append_lies _ (.tmp 276) (.tmp 278) 28 rfl w.heap.size 82 i0 (.agg #[.int .i64 0,.string ⟨#[]⟩]) 2 24 Tryz.underlying28 hi hz0 hz1 hz2 rfl (by omega) _ i (L.flatMap DatD.cells) rfl (HLLZ.out.own.alloc _) ⟨z1.heap.size,0,none⟩ 1 1 [.int .i64 x,.string (sy.extract 0 mD)] rfl rfl (World.news_of_block (cs := #[.int .i64 x,.string (sy.extract 0 mD)]) (t := 82) (fr := (0,0)) (heap_alloc_new z1 _)) (by simp [Value.oneCell']) (by omega) (by unfold maxLen; omega) (by omega) (by simp; omega) (z1.heap.size + 1) (by simp) ?_
     intro g capg z3 hown hgrow hat hlt3
     have bA : Below z1.heap.size z1 (z1.alloc (.cells #[.int .i64 x,.string (sy.extract 0 mD)] 82)) := (Below.refl _ _).alloc (Nat.le_refl _) _
     have qB : Kp (fun t => t != 82) z1 z3 := (Kp.below _ bA).trans (Kp.grown (HLLZ.out.own.alloc _) hgrow _ (by decide))
     have HX3 : Hid (MX z3 M (A.setIfInBounds 10 (.slice o i cap))) := HMZ.out.kp qB (by decide)
     have HB3 : Hid (X2 82 z3 X (.int .i64 x) (.string (sy.extract 0 mD))) := HBZ.out.far bA hgrow HXO.out
     have HS3 : Hid (z3.cell? ⟨M,10,none⟩ = some (.slice o i cap) /\ z3.cell? ⟨X,0,none⟩ = some (.int .i64 x) /\ z3.cell? ⟨X,1,none⟩ = some (.string (sy.extract 0 mD))) := ⟨by rw [HX3.out.cell 10]; exact xbV A 10 _ _ HA.out,HB3.out.cell.1,HB3.out.cell.2⟩
     have HL3 : Hid (CL z3 P (l3.drop mD) n 0) := HLZ.out.kp qB (by decide)
     have HW3 : Hid (ChgA [P,M] w z3) := (HWZ.out.below bA hs1).grown (HLLZ.out.own.alloc _) hgrow (Nat.le_refl _)
     have qA : Kp (far 82) z1 z3 := (Kp.below _ bA).trans (Kp.grown (HLLZ.out.own.alloc _) hgrow _ (by decide))
     have HLL3 : Hid ((xlZ li 0).2.2 = 0 -> DatD.val ⟨x,sy.extract 0 mD⟩ = (xlZ li 0).1 /\ LR z3 w.heap.size 82 2 DatD.cells DatD.ok (some ⟨g,0,none⟩) (i + 1) capg (L ++ [⟨x,sy.extract 0 mD⟩])) := fun q0 => ⟨(HD.out q0).1,HLLZ.out.app (fun d hd => hd) (HD.out q0).2 hown⟩
     clear hown hgrow hat hlt3 qA qB bA
     refine hK.out _ _ HS3.out (fun hHeld => xaB ?_)
     clear hK
     refine tk (i := 8) (h := ?_)
     refine tk (i := 9) (h := ?_)
     have y3 := HS3.out.1
     have f3 := HX3.out.frozen 10
     refine xbH rfl (by kernel_rfl) (by kernel_rfl) (by kernel_rfl) rfl (fun K R hK => ?_)
     go_simp
     refine hK.out _ _ ?_
     clear hK K R hHeld
     clear y3 f3
     have HS4 : Hid (Chg M z3 (z3.setCell ⟨M,10,none⟩ (.slice (some ⟨g,0,none⟩) (i + 1) capg))) := Chg.set _ _ _ _
     have HX4 : Hid (MX (z3.setCell ⟨M,10,none⟩ (.slice (some ⟨g,0,none⟩) (i + 1) capg)) M (A.setIfInBounds 10 (.slice (some ⟨g,0,none⟩) (i + 1) capg))) := by
      have := HX3.out.set 10 (.slice (some ⟨g,0,none⟩) (i + 1) capg)
      rw [xcU] at this
      exact this
     have HL4 : Hid (CL (z3.setCell ⟨M,10,none⟩ (.slice (some ⟨g,0,none⟩) (i + 1) capg)) P (l3.drop mD) n 0) := HL3.out.chg HS4.out hMP.symm
     have HW4 : Hid (ChgA [P,M] w (z3.setCell ⟨M,10,none⟩ (.slice (some ⟨g,0,none⟩) (i + 1) capg))) := HW3.out.chg HS4.out (Or.inl (by simp))
     have HR4 : Hid (SecR xlZ DatD.val (z3.setCell ⟨M,10,none⟩ (.slice (some ⟨g,0,none⟩) (i + 1) capg)) w.heap.size 82 2 DatD.cells DatD.ok m l1 a1 (i + 1) (some ⟨g,0,none⟩) capg (L ++ [⟨x,sy.extract 0 mD⟩]) (l3.drop mD) 0) := by
      have qM : Kp (fun t => t != 30) z3 (z3.setCell ⟨M,10,none⟩ (.slice (some ⟨g,0,none⟩) (i + 1) capg)) := Kp.chg HX3.out HS4.out _ (by decide)
      have hh := HSR.out.more (w' := z3.setCell ⟨M,10,none⟩ (.slice (some ⟨g,0,none⟩) (i + 1) capg)) (o' := some ⟨g,0,none⟩) (cap' := capg) (d := ⟨x,sy.extract 0 mD⟩) hlt fun q0 => ⟨(HLL3.out q0).1,(HLL3.out q0).2.kp qM (by decide) (fun d hd => hd)⟩
      rw [HQ.out] at hh
      exact hh
     go_wp2
     go_roundw
     case rel => exact ⟨i + 1,capg,_,_,_,_,by go_num,by omega,HX4,HL4,HR4,HW4⟩
     case measure => simp [intOf]; omega
    ·have hb4 : (a4 == 0) = false := by rw [beq_eq_false_iff_ne]; exact h4
     rw [if_neg h4] at HQD
     have HQ : Hid (xlZ li 0 = (⟨x,[]⟩,l3,a4)) := HQD.out
     have HN4 : Hid (a4 ≠ 0) := h4
     clear h4
     go_wp2_with fail
     clear v0 v2
     refine xaC (S := fun w' => w'.cell? ⟨M,10,none⟩ = some (.slice o i cap) /\ w'.cell? ⟨X,0,none⟩ = some (.int .i64 x) /\ w'.cell? ⟨X,1,none⟩ = some (.string ⟨#[]⟩)) (z := 10) (by kernel_rfl) ?_
     obtain ⟨z1,hz1'⟩ : ∃ z,z = World.drew w4 := ⟨_,rfl⟩
     have qd : Kp (fun _ => true) w4 z1 := by rw [hz1']; exact ⟨Nat.le_refl _,fun _ _ _ _ _ _ => rfl⟩
     have HMZ : Hid (MX z1 M (A.setIfInBounds 10 (.slice o i cap))) := (HG4.out.mx HXR.out hMP).kp qd rfl
     have HBZ : Hid (X2 82 z1 X (.int .i64 x) (.string ⟨#[]⟩)) := by unfold Hid X2; rw [qd.blk _ _ _ _ HB4.out rfl]; exact HB4.out
     have HLZ : Hid (CL z1 P l3 n a4) := HL4.out.kp qd rfl
     have HWZ : Hid (ChgA [P,M] w z1) := by
      have h1 : ChgA [P,M] w w4 := HW.out.trans HG4.out (by simp)
      rw [hz1']
      exact ⟨h1.os,h1.tape,h1.output,h1.size,h1.block⟩
     have HLLZ : Hid (LR z1 w.heap.size 82 2 DatD.cells DatD.ok o i cap L) := by
      have q1 := HG4.out.kp HLR.out (fun t => t != 45) (by decide)
      have q2 : Kp (fun t => t != 45) w4 z1 := qd.weak (fun _ _ => rfl)
      have q := q1.trans q2
      exact HLL.out.kp q (by decide) (fun d hd => hd)
     have hs1 : w.heap.size <= z1.heap.size := HWZ.out.size
     have HD : Hid ((xlZ li 0).2.2 = 0 -> DatD.val ⟨x,⟨#[]⟩⟩ = (xlZ li 0).1 /\ DatD.ok z1 ⟨x,⟨#[]⟩⟩) := fun q0 => by
      rw [HQ.out] at q0
      exact absurd q0 HN4.out
     obtain ⟨u0,u1⟩ := HBZ.out.cell
     have HXO : Hid (some X ≠ (Value.slice o i cap).ownBlock) := fun q => by have := HLL.out.row_lt X q.symm; omega
     have HS0 : Hid (z1.cell? ⟨M,10,none⟩ = some (.slice o i cap) /\ z1.cell? ⟨X,0,none⟩ = some (.int .i64 x) /\ z1.cell? ⟨X,1,none⟩ = some (.string ⟨#[]⟩)) := ⟨by rw [HMZ.out.cell 10]; exact xbV A 10 _ _ HA.out,u0,u1⟩
     clear qd u0 u1 HG4 HL4 HB4 y10 HLR HLL HXR HW
     rw [<- hz1']
     clear hz1'
     have hHeld : (fun w' => w'.cell? ⟨M,10,none⟩ = some (.slice o i cap) /\ w'.cell? ⟨X,0,none⟩ = some (.int .i64 x) /\ w'.cell? ⟨X,1,none⟩ = some (.string ⟨#[]⟩)) z1 := HS0.out
     refine tk (i := 0) (h := ?_)
     refine tk (i := 1) (h := ?_)
     refine tk (i := 2) (h := ?_)
     refine tk (i := 3) (h := ?_)
     refine ld (i := 4) [7,8,9,10] (h := ?_)
     refine ld (i := 5) [6,7,8,9,10] (h := ?_)
     have HS2 : Hid ((fun w' => w'.cell? ⟨M,10,none⟩ = some (.slice o i cap) /\ w'.cell? ⟨X,0,none⟩ = some (.int .i64 x) /\ w'.cell? ⟨X,1,none⟩ = some (.string ⟨#[]⟩)) (z1.alloc (.cells #[.int .i64 x,.string ⟨#[]⟩] 82))) := by
      have bA : Below z1.heap.size z1 (z1.alloc (.cells #[.int .i64 x,.string ⟨#[]⟩] 82)) := (Below.refl _ _).alloc (Nat.le_refl _) _
      refine ⟨?_,?_,?_⟩
      ·rw [bA.cell (p := ⟨M,10,none⟩) HMZ.out.lt]; exact HS0.out.1
      ·rw [bA.cell (p := ⟨X,0,none⟩) (xaU HBZ.out)]; exact HS0.out.2.1
      ·rw [bA.cell (p := ⟨X,1,none⟩) (xaU HBZ.out)]; exact HS0.out.2.2
     refine xbT (i := 6) rfl (by kernel_rfl) rfl (fun K R hK => ?_)
     go_simp
     refine hK.out _ _ HS2.out (fun hHeld => xaB ?_)
     clear hK
     refine xbT (i := 7) rfl (by kernel_rfl) rfl (fun K R hK => ?_)
     refine wp_append_lies _ (.tmp 276) (.tmp 278) 28 rfl w.heap.size 82 i0 (.agg #[.int .i64 0,.string ⟨#[]⟩]) 2 24 Tryz.underlying28 hi hz0 hz1 hz2 rfl (by omega) _ i (L.flatMap DatD.cells) rfl (HLLZ.out.own.alloc _) ⟨z1.heap.size,0,none⟩ 1 1 [.int .i64 x,.string ⟨#[]⟩] rfl rfl (World.news_of_block (cs := #[.int .i64 x,.string ⟨#[]⟩]) (t := 82) (fr := (0,0)) (heap_alloc_new z1 _)) (by simp [Value.oneCell']) (by omega) (by unfold maxLen; omega) (by omega) (by simp; omega) (z1.heap.size + 1) (by simp) ?_
     intro g capg z3 hown hgrow hat hlt3
     have bA : Below z1.heap.size z1 (z1.alloc (.cells #[.int .i64 x,.string ⟨#[]⟩] 82)) := (Below.refl _ _).alloc (Nat.le_refl _) _
     have qB : Kp (fun t => t != 82) z1 z3 := (Kp.below _ bA).trans (Kp.grown (HLLZ.out.own.alloc _) hgrow _ (by decide))
     have HX3 : Hid (MX z3 M (A.setIfInBounds 10 (.slice o i cap))) := HMZ.out.kp qB (by decide)
     have HB3 : Hid (X2 82 z3 X (.int .i64 x) (.string ⟨#[]⟩)) := HBZ.out.far bA hgrow HXO.out
     have HS3 : Hid (z3.cell? ⟨M,10,none⟩ = some (.slice o i cap) /\ z3.cell? ⟨X,0,none⟩ = some (.int .i64 x) /\ z3.cell? ⟨X,1,none⟩ = some (.string ⟨#[]⟩)) := ⟨by rw [HX3.out.cell 10]; exact xbV A 10 _ _ HA.out,HB3.out.cell.1,HB3.out.cell.2⟩
     have HL3 : Hid (CL z3 P l3 n a4) := HLZ.out.kp qB (by decide)
     have HW3 : Hid (ChgA [P,M] w z3) := (HWZ.out.below bA hs1).grown (HLLZ.out.own.alloc _) hgrow (Nat.le_refl _)
     have qA : Kp (far 82) z1 z3 := (Kp.below _ bA).trans (Kp.grown (HLLZ.out.own.alloc _) hgrow _ (by decide))
     have HLL3 : Hid ((xlZ li 0).2.2 = 0 -> DatD.val ⟨x,⟨#[]⟩⟩ = (xlZ li 0).1 /\ LR z3 w.heap.size 82 2 DatD.cells DatD.ok (some ⟨g,0,none⟩) (i + 1) capg (L ++ [⟨x,⟨#[]⟩⟩])) := fun q0 => ⟨(HD.out q0).1,HLLZ.out.app (fun d hd => hd) (HD.out q0).2 hown⟩
     clear hown hgrow hat hlt3 qA qB bA
     refine hK.out _ _ HS3.out (fun hHeld => xaB ?_)
     clear hK
     refine tk (i := 8) (h := ?_)
     refine tk (i := 9) (h := ?_)
     have y3 := HS3.out.1
     have f3 := HX3.out.frozen 10
     refine xbH rfl (by kernel_rfl) (by kernel_rfl) (by kernel_rfl) rfl (fun K R hK => ?_)
     go_simp
     refine hK.out _ _ ?_
     clear hK K R hHeld
     clear y3 f3
     have HS4 : Hid (Chg M z3 (z3.setCell ⟨M,10,none⟩ (.slice (some ⟨g,0,none⟩) (i + 1) capg))) := Chg.set _ _ _ _
     have HX4 : Hid (MX (z3.setCell ⟨M,10,none⟩ (.slice (some ⟨g,0,none⟩) (i + 1) capg)) M (A.setIfInBounds 10 (.slice (some ⟨g,0,none⟩) (i + 1) capg))) := by
      have := HX3.out.set 10 (.slice (some ⟨g,0,none⟩) (i + 1) capg)
      rw [xcU] at this
      exact this
     have HL4 : Hid (CL (z3.setCell ⟨M,10,none⟩ (.slice (some ⟨g,0,none⟩) (i + 1) capg)) P l3 n a4) := HL3.out.chg HS4.out hMP.symm
     have HW4 : Hid (ChgA [P,M] w (z3.setCell ⟨M,10,none⟩ (.slice (some ⟨g,0,none⟩) (i + 1) capg))) := HW3.out.chg HS4.out (Or.inl (by simp))
     have HR4 : Hid (SecR xlZ DatD.val (z3.setCell ⟨M,10,none⟩ (.slice (some ⟨g,0,none⟩) (i + 1) capg)) w.heap.size 82 2 DatD.cells DatD.ok m l1 a1 (i + 1) (some ⟨g,0,none⟩) capg (L ++ [⟨x,⟨#[]⟩⟩]) l3 a4) := by
      have qM : Kp (fun t => t != 30) z3 (z3.setCell ⟨M,10,none⟩ (.slice (some ⟨g,0,none⟩) (i + 1) capg)) := Kp.chg HX3.out HS4.out _ (by decide)
      have hh := HSR.out.more (w' := z3.setCell ⟨M,10,none⟩ (.slice (some ⟨g,0,none⟩) (i + 1) capg)) (o' := some ⟨g,0,none⟩) (cap' := capg) (d := ⟨x,⟨#[]⟩⟩) hlt fun q0 => ⟨(HLL3.out q0).1,(HLL3.out q0).2.kp qM (by decide) (fun d hd => hd)⟩
      rw [HQ.out] at hh
      exact hh
     go_wp2
     go_roundw
     case rel => exact ⟨i + 1,capg,_,_,_,_,by go_num,by omega,HX4,HL4,HR4,HW4⟩
     case measure => simp [intOf]; omega
   ·have hb : (ai == 0) = false := by rw [beq_eq_false_iff_ne]; exact h0
    have hb2 : (ai != 0) = true := by rw [bne,hb]; rfl
    have HN0 : Hid (ai ≠ 0) := h0
    clear h0
    go_wp2
    refine ⟨rfl,_,results_none rfl _ _ _,rfl,?_⟩
    obtain ⟨r1,r2⟩ := HSR.out.done (Or.inr HN0.out)
    rw [r1]
    exact ⟨HLR.out,HW.out,o,i,cap,HXR.out,fun q => absurd q HN0.out⟩
  ·go_wp2
   go_end0
   obtain ⟨r1,r2⟩ := HSR.out.done (Or.inl hlt)
   rw [r1]
   exact ⟨rfl,HLR.out,HW.out,o,i,cap,HXR.out,fun q => ⟨L,r2 q⟩⟩
end Go.Proofs.YtmmjgdaamkdncaaGreatDoor
