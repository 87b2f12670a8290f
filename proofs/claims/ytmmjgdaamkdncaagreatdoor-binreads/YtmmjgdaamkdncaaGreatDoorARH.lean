import Derived.Test.YtmmjgdaamkdncaaGreatDoorARF
namespace Go.Proofs.YtmmjgdaamkdncaaGreatDoor
set_option maxHeartbeats 8000000
set_option maxRecDepth 1000000
open Go.RowKit
set_option linter.unusedVariables false
theorem ylX (P M C : Nat) (A : Array Value) (l : List Int) (n : Int) (w : World) (h : CL w P l n 0) (hM : MX w M A) (hA : A[2]? = some (.slice none 0 0)) :
  Calls Tryz.prog 16 #[.pointer (some ⟨P,0,none⟩),.int .i64 3,.pointer (some ⟨M,0,none⟩),.pointer (some ⟨C,0,none⟩)] w fun r w' => r = .returned (.tuple #[]) /\ CL w' P (xaL 16 xaK l 0).2.1 n (xaL 16 xaK l 0).2.2 /\ ChgA [P,M] w w' /\ ∃ (o : Option Addr) (j cap : Nat),MX w' M (A.setIfInBounds 2 (.slice o j cap)) /\ ((xaL 16 xaK l 0).2.2 = 0 -> ∃ L : List FunD,L.map FunD.t = (xaL 16 xaK l 0).1 /\ LR w' w.heap.size 55 3 FunD.cells FunG o j cap L) := by
 obtain ⟨i0,hi,hz0,hz1,hz2⟩ := info_parts Tryz.infoLfun
 have hPw := h.lt
 have hMP : M ≠ P := h.apart hM (by decide)
 obtain ⟨v,hv⟩ : ∃ v,v = w.alloc (.cells #[.int .i64 0,.int .i64 16,.int .i64 16,.int .i64 16,.int .i64 1,.int .i64 1,.int .i64 8,.int .i64 8,.int .i64 0,.int .i64 4,.int .i64 16,.int .i64 4] 91) := ⟨_,rfl⟩
 have hlim : (w.alloc (.cells #[.int .i64 0,.int .i64 16,.int .i64 16,.int .i64 16,.int .i64 1,.int .i64 1,.int .i64 8,.int .i64 8,.int .i64 0,.int .i64 4,.int .i64 16,.int .i64 4] 91)).cell? ⟨w.heap.size,3,none⟩ = some (.int .i64 16) := xgG w 3 16 rfl
 have b : Below w.heap.size w v := by rw [hv]; exact (Below.refl _ _).alloc (Nat.le_refl _) _
 have HV : Hid (v = w.alloc (.cells #[.int .i64 0,.int .i64 16,.int .i64 16,.int .i64 16,.int .i64 1,.int .i64 1,.int .i64 8,.int .i64 8,.int .i64 0,.int .i64 4,.int .i64 16,.int .i64 4] 91)) := hv
 have hL0 : CL v P l n 0 := h.heap (b.block P hPw)
 have HX0 : Hid (MX v M A) := hM.kp (Kp.below (fun _ => true) b) rfl
 have HW0 : Hid (ChgA [P,M] w v) := (ChgA.refl _ _).below b (Nat.le_refl _)
 have HC := kZz (xdN P 16 l n 0 v hL0)
 have hfew := xbQ 16 (by omega) l 0 h.byte
 unfold xaL
 generalize xaN 16 l 0 = z at HC hfew ⊢
 obtain ⟨m0,l1,a1⟩ := z
 dsimp only at HC hfew ⊢
 obtain ⟨m,rfl⟩ : ∃ m : Nat,m0 = (m : Int) := ⟨m0.toNat,by omega⟩
 rw [Int.toNat_natCast]
 have hm16 : m <= 16 := by omega
 have HA : Hid (A[2]? = some (.slice none 0 0)) := hA
 clear h hM hA hv b hL0 hfew
 go_enter Tryz.func16,Tryz.ntmps16
 go_wp2_with fail
 rw [<- HV.out]
 refine HC.out.mono ?_
 rintro r w1 ⟨rfl,h1,c1⟩
 have HL1 : Hid (CL w1 P l1 n a1) := h1
 have HX1 : Hid (MX w1 M (A.setIfInBounds 2 (.slice none 0 0))) := by unfold Hid; rw [xdS A 2 _ HA.out]; exact HX0.out.chg c1 hMP
 have HW1 : Hid (ChgA [P,M] w w1) := HW0.out.chg c1 (Or.inl (by simp))
 clear h1 c1 HC HX0 HW0 HV hlim
 go_wp2
 go_loopw [36] (fun iv wr => ∃ i cap : Nat,∃ o : Option Addr,∃ L : List FunD,∃ li : List Int,∃ ai : Int,iv = .int .i64 (i : Int) /\ i <= m /\ Hid (MX wr M (A.setIfInBounds 2 (.slice o i cap))) /\ Hid (CL wr P li n ai) /\ Hid (SecR xaK FunD.t wr w.heap.size 55 3 FunD.cells FunG m l1 a1 i o cap L li ai) /\ Hid (ChgA [P,M] w wr)) (fun iv _ => m - (intOf iv).toNat)
 case atStart => exact ⟨0,0,none,[],l1,a1,rfl,by omega,HX1,HL1,SecR.start _ _ _ _ _ _ _ _ _,HW1⟩
 case round =>
  obtain ⟨i,cap,o,L,li,ai,rfl,him,HXR,HLR,HSR,HW⟩ := hrel
  clear HX1 HL1 HW1
  obtain ⟨e0,e1,e2⟩ := (HLR.out.choose_spec.2.2).cell
  clear e0 e1
  by_cases hlt : i < m
  ·by_cases h0 : ai = 0
   ·subst h0
    have HLL : Hid (LR wr w.heap.size 55 3 FunD.cells FunG o i cap L) := (HSR.out.list rfl).2
    have hcl := (HLL.out.capm).1
    have hcm := (HLL.out.capm).2
    unfold maxLen at hcm
    have hsr := HW.out.size
    have y2 : wr.cell? ⟨M,2,none⟩ = some (.slice o i cap) := by rw [HXR.out.cell 2]; exact xbV A 2 _ _ HA.out
    go_wp2_with fail
    refine xaC (S := fun w' => w'.cell? ⟨M,2,none⟩ = some (.slice o i cap)) (z := 12) (by kernel_rfl) ?_
    obtain ⟨z0,hz0'⟩ : ∃ z,z = World.drew wr := ⟨_,rfl⟩
    have HS0 : Hid (z0.cell? ⟨M,2,none⟩ = some (.slice o i cap)) := by rw [hz0']; exact y2
    have hC0 : CL z0 P li n 0 := HLR.out.heap (by rw [hz0']; rfl)
    have HC0 : Hid (Chg P wr z0) := by rw [hz0']; exact ⟨rfl,rfl,rfl,Nat.le_refl _,fun _ _ _ => rfl⟩
    have HCALL := kZz (xoC P li n 0 z0 hC0)
    clear hC0 e2 y2
    rw [<- hz0']
    clear hz0'
    have hHeld : (fun w' => w'.cell? ⟨M,2,none⟩ = some (.slice o i cap)) z0 := HS0.out
    refine tk (i := 0) (h := ?_)
    refine tk (i := 1) (h := ?_)
    refine tk (i := 2) (h := ?_)
    refine tk (i := 3) (h := ?_)
    refine ld (i := 4) [9,10,11,12] (h := ?_)
    refine tk (i := 5) (h := ?_)
    refine xgX (i := 6) rfl (by kernel_rfl) rfl (by go_simp) HCALL.out ?_
    rintro r z1 ⟨rfl,h1,c1⟩
    have HC1 : Hid (Chg P wr z1) := HC0.out.trans c1
    have hMX1 : MX z1 M (A.setIfInBounds 2 (.slice o i cap)) := HXR.out.chg HC1.out hMP
    have HX1 := kZz hMX1
    have HS1 : Hid (z1.cell? ⟨M,2,none⟩ = some (.slice o i cap)) := by unfold Hid; rw [hMX1.cell 2]; exact xbV A 2 _ _ HA.out
    have qC : Kp (fun t => t != 45) wr z1 := Kp.cur HLR.out HC1.out _ (by decide)
    have HL1 := kZz h1
    have HLL1 : Hid (LR z1 w.heap.size 55 3 FunD.cells FunG o i cap L) := HLL.out.kp qC (by decide) (fun d hd => hd.kp qC (by decide) (by decide) (by decide))
    have hs1 : w.heap.size <= z1.heap.size := Nat.le_trans hsr HC1.out.size
    have HW1 : Hid (ChgA [P,M] w z1) := HW.out.chg HC1.out (Or.inl (by simp))
    have hnn := xcB li 0 HLR.out.byte
    obtain ⟨x,hqn⟩ : ∃ x,x = (xaK li 0).1 := ⟨_,rfl⟩
    rw [<- hqn] at hnn
    rw [<- hqn]
    have HD : Hid ((xaK li 0).2.2 = 0 -> FunD.t ⟨x,⟨none,0,0,[]⟩,none,0,[]⟩ = (xaK li 0).1 /\ FunG z1 ⟨x,⟨none,0,0,[]⟩,none,0,[]⟩) := fun _ => ⟨hqn,⟨by dsimp only; omega,by dsimp only; omega⟩,(LR.nil z1 0 57 1 (fun x : Int => [Value.int .u8 x]) (fun (_ : World) (x : Int) => (Lit.int .u8 x).wf = true)).num,0,IR.nil z1 0⟩
    clear hqn hnn
    clear h1 c1 qC hMX1 HCALL HC0 HS0
    clear hHeld
    refine ⟨_,rfl,HS1.out,fun hHeld => xaB ?_⟩
    refine tk (i := 7) (h := ?_)
    have HS2 : Hid ((fun w' => w'.cell? ⟨M,2,none⟩ = some (.slice o i cap)) (z1.alloc (.cells #[.int .i64 x,.slice none 0 0,.slice none 0 0] 55))) := by
     unfold Hid
     dsimp only
     have bA : Below z1.heap.size z1 (z1.alloc (.cells #[.int .i64 x,.slice none 0 0,.slice none 0 0] 55)) := (Below.refl _ _).alloc (Nat.le_refl _) _
     rw [bA.cell (p := ⟨M,2,none⟩) HX1.out.lt]
     exact HS1.out
    refine xbT (i := 8) rfl (by kernel_rfl) rfl (fun K R hK => ?_)
    go_simp
    refine hK.out _ _ HS2.out (fun hHeld => xaB ?_)
    clear hK
    refine xbT (i := 9) rfl (by kernel_rfl) rfl (fun K R hK => ?_)
    refine wp_append_lies _ (.tmp 113) (.tmp 117) 24 rfl w.heap.size 55 i0 (.agg #[.int .i64 0,.slice none 0 0,.slice none 0 0]) 3 56 Tryz.underlying24 hi hz0 hz1 hz2 rfl (by omega) _ i (L.flatMap FunD.cells) rfl (HLL1.out.own.alloc _) ⟨z1.heap.size,0,none⟩ 1 1 [.int .i64 x,.slice none 0 0,.slice none 0 0] rfl rfl (World.news_of_block (cs := #[.int .i64 x,.slice none 0 0,.slice none 0 0]) (t := 55) (fr := (0,0)) (heap_alloc_new z1 _)) (by simp [Value.oneCell']) (by omega) (by unfold maxLen; omega) (by omega) (by simp; omega) (z1.heap.size + 1) (by simp) ?_
    intro g capg z3 hown hgrow hat hlt3
    have bA : Below z1.heap.size z1 (z1.alloc (.cells #[.int .i64 x,.slice none 0 0,.slice none 0 0] 55)) := (Below.refl _ _).alloc (Nat.le_refl _) _
    have qB : Kp (fun t => t != 55) z1 z3 := (Kp.below _ bA).trans (Kp.grown (HLL1.out.own.alloc _) hgrow _ (by decide))
    have HX3 : Hid (MX z3 M (A.setIfInBounds 2 (.slice o i cap))) := HX1.out.kp qB (by decide)
    have HS3 : Hid (z3.cell? ⟨M,2,none⟩ = some (.slice o i cap)) := by unfold Hid; rw [HX3.out.cell 2]; exact xbV A 2 _ _ HA.out
    have HL3 : Hid (CL z3 P (xaK li 0).2.1 n (xaK li 0).2.2) := HL1.out.kp qB (by decide)
    have HW3 : Hid (ChgA [P,M] w z3) := (HW1.out.below bA hs1).grown (HLL1.out.own.alloc _) hgrow (Nat.le_refl _)
    have qA : Kp (far 55) z1 z3 := (Kp.below _ bA).trans (Kp.grown (HLL1.out.own.alloc _) hgrow _ (by decide))
    have HLL3 : Hid ((xaK li 0).2.2 = 0 -> FunD.t ⟨x,⟨none,0,0,[]⟩,none,0,[]⟩ = (xaK li 0).1 /\ LR z3 w.heap.size 55 3 FunD.cells FunG (some ⟨g,0,none⟩) (i + 1) capg (L ++ [⟨x,⟨none,0,0,[]⟩,none,0,[]⟩])) := fun q0 => ⟨(HD.out q0).1,HLL1.out.app (fun d hd => hd.kp qA (by decide) (by decide) (by decide)) (HD.out q0).2 hown⟩
    clear hown hgrow hat hlt3 qA qB bA
    refine hK.out _ _ HS3.out (fun hHeld => xaB ?_)
    clear hK
    refine tk (i := 10) (h := ?_)
    refine tk (i := 11) (h := ?_)
    have y3 := HS3.out
    have f3 := HX3.out.frozen 2
    refine xbH rfl (by kernel_rfl) (by kernel_rfl) (by kernel_rfl) rfl (fun K R hK => ?_)
    go_simp
    refine hK.out _ _ ?_
    clear hK K R hHeld
    clear y3 f3
    have HS4 : Hid (Chg M z3 (z3.setCell ⟨M,2,none⟩ (.slice (some ⟨g,0,none⟩) (i + 1) capg))) := Chg.set _ _ _ _
    have HX4 : Hid (MX (z3.setCell ⟨M,2,none⟩ (.slice (some ⟨g,0,none⟩) (i + 1) capg)) M (A.setIfInBounds 2 (.slice (some ⟨g,0,none⟩) (i + 1) capg))) := by
     have := HX3.out.set 2 (.slice (some ⟨g,0,none⟩) (i + 1) capg)
     rw [xcU] at this
     exact this
    have HL4 : Hid (CL (z3.setCell ⟨M,2,none⟩ (.slice (some ⟨g,0,none⟩) (i + 1) capg)) P (xaK li 0).2.1 n (xaK li 0).2.2) := HL3.out.chg HS4.out hMP.symm
    have HW4 : Hid (ChgA [P,M] w (z3.setCell ⟨M,2,none⟩ (.slice (some ⟨g,0,none⟩) (i + 1) capg))) := HW3.out.chg HS4.out (Or.inl (by simp))
    have HR4 : Hid (SecR xaK FunD.t (z3.setCell ⟨M,2,none⟩ (.slice (some ⟨g,0,none⟩) (i + 1) capg)) w.heap.size 55 3 FunD.cells FunG m l1 a1 (i + 1) (some ⟨g,0,none⟩) capg (L ++ [⟨x,⟨none,0,0,[]⟩,none,0,[]⟩]) (xaK li 0).2.1 (xaK li 0).2.2) := HSR.out.more hlt fun q0 => ⟨(HLL3.out q0).1,by
     have qM : Kp (fun t => t != 30) z3 (z3.setCell ⟨M,2,none⟩ (.slice (some ⟨g,0,none⟩) (i + 1) capg)) := Kp.chg HX3.out HS4.out _ (by decide)
     exact (HLL3.out q0).2.kp qM (by decide) (fun d hd => hd.kp qM (by decide) (by decide) (by decide))⟩
    go_wp2
    go_roundw
    case rel => exact ⟨i + 1,capg,_,_,_,_,by go_num,by omega,HX4,HL4,HR4,HW4⟩
    case measure => simp [intOf]; omega
   ·have hb : (ai == 0) = false := by rw [beq_eq_false_iff_ne]; exact h0
    have hb2 : (ai != 0) = true := by rw [bne,hb]; rfl
    have HN0 : Hid (ai ≠ 0) := h0
    clear h0
    go_wp2
    refine ⟨rfl,_,results_none rfl _ _ _,rfl,?_⟩
    obtain ⟨r1,r2⟩ := HSR.out.done (Or.inr HN0.out)
    rw [r1]
    exact ⟨HLR.out,HW.out,o,i,cap,HXR.out,fun q => absurd q HN0.out⟩
  ·go_wp2
   go_end0
   obtain ⟨r1,r2⟩ := HSR.out.done (Or.inl hlt)
   rw [r1]
   exact ⟨rfl,HLR.out,HW.out,o,i,cap,HXR.out,fun q => ⟨L,r2 q⟩⟩
theorem ylY (P M C : Nat) (A : Array Value) (l : List Int) (n : Int) (w : World) (h : CL w P l n 0) (hM : MX w M A) (hA : A[3]? = some (.int .i64 0)) :
  Calls Tryz.prog 16 #[.pointer (some ⟨P,0,none⟩),.int .i64 4,.pointer (some ⟨M,0,none⟩),.pointer (some ⟨C,0,none⟩)] w fun r w' => r = .returned (.tuple #[]) /\ CL w' P (xiC l 0).2.1 n (xiC l 0).2.2 /\ ChgA [P,M] w w' /\ ∃ x : Int,MX w' M (A.setIfInBounds 3 (.int .i64 x)) /\ inI x /\ ((xiC l 0).2.2 = 0 -> x = (xiC l 0).1) := by
 have hPw := h.lt
 have hMP : M ≠ P := h.apart hM (by decide)
 obtain ⟨v,hv⟩ : ∃ v,v = w.alloc (.cells #[.int .i64 0,.int .i64 16,.int .i64 16,.int .i64 16,.int .i64 1,.int .i64 1,.int .i64 8,.int .i64 8,.int .i64 0,.int .i64 4,.int .i64 16,.int .i64 4] 91) := ⟨_,rfl⟩
 have hlim : (w.alloc (.cells #[.int .i64 0,.int .i64 16,.int .i64 16,.int .i64 16,.int .i64 1,.int .i64 1,.int .i64 8,.int .i64 8,.int .i64 0,.int .i64 4,.int .i64 16,.int .i64 4] 91)).cell? ⟨w.heap.size,4,none⟩ = some (.int .i64 1) := xgG w 4 1 rfl
 have b : Below w.heap.size w v := by rw [hv]; exact (Below.refl _ _).alloc (Nat.le_refl _) _
 have HV : Hid (v = w.alloc (.cells #[.int .i64 0,.int .i64 16,.int .i64 16,.int .i64 16,.int .i64 1,.int .i64 1,.int .i64 8,.int .i64 8,.int .i64 0,.int .i64 4,.int .i64 16,.int .i64 4] 91)) := hv
 have hL0 : CL v P l n 0 := h.heap (b.block P hPw)
 have HX0 : Hid (MX v M A) := hM.kp (Kp.below (fun _ => true) b) rfl
 have HW0 : Hid (ChgA [P,M] w v) := (ChgA.refl _ _).below b (Nat.le_refl _)
 have HC := kZz (xdN P 1 l n 0 v hL0)
 have hfew := xbQ 1 (by omega) l 0 h.byte
 have hnz := xoT 1 l 0
 unfold xiC
 generalize xaN 1 l 0 = z at HC hfew hnz ⊢
 obtain ⟨m0,l1,a1⟩ := z
 dsimp only at HC hfew hnz ⊢
 have HA : Hid (A[3]? = some (.int .i64 0)) := hA
 have HX0' : Hid (MX v M (A.setIfInBounds 3 (.int .i64 0))) := by unfold Hid; rw [xdS A 3 _ hA]; exact HX0.out
 clear hA
 rcases (by omega : m0 = 0 \/ m0 = 1) with rfl | rfl
 ·rw [if_pos rfl]
  dsimp only
  clear h hM hv b hL0 hfew hnz HX0
  go_enter Tryz.func16,Tryz.ntmps16
  go_wp2_with fail
  rw [<- HV.out]
  refine HC.out.mono ?_
  rintro r w1 ⟨rfl,h1,c1⟩
  have HL1 : Hid (CL w1 P l1 n a1) := h1
  have HX1 : Hid (MX w1 M (A.setIfInBounds 3 (.int .i64 0))) := HX0'.out.chg c1 hMP
  have HW1 : Hid (ChgA [P,M] w w1) := HW0.out.chg c1 (Or.inl (by simp))
  clear h1 c1 HC HX0' HW0 HV hlim
  go_wp2
  go_loopw [36] (fun iv wr => iv = .int .i64 0 /\ Hid (wr = w1)) (fun _ _ => 0)
  case atStart => exact ⟨rfl,rfl⟩
  case round =>
   obtain ⟨rfl,HE⟩ := hrel
   have e := HE.out
   subst e
   go_wp2
   go_end0
   exact ⟨rfl,HL1.out,HW1.out,0,HX1.out,⟨by omega,by omega⟩,fun _ => by first | rfl | exact ⟨rfl,rfl⟩⟩
 ·rw [if_neg (by decide)]
  obtain rfl : a1 = 0 := hnz (by decide)
  try dsimp only
  obtain ⟨l2,a2,q1⟩ : ∃ l2 a2,xaA 112 6 l1 0 = (l2,a2) := ⟨_,_,rfl⟩
  obtain ⟨l3,a3,q2⟩ : ∃ l3 a3,xaA 0 6 l2 a2 = (l3,a3) := ⟨_,_,rfl⟩
  obtain ⟨x,l4,a4,q3⟩ : ∃ x l4 a4,xaN 16 l3 a3 = (x,l4,a4) := ⟨_,_,_,rfl⟩
  simp only [q1,q2,q3]
  have Q1 := kZz q1
  have Q2 := kZz q2
  have Q3 := kZz q3
  clear q1 q2 q3
  clear h hM hv b hL0 hfew hnz HX0
  go_enter Tryz.func16,Tryz.ntmps16
  go_wp2_with fail
  rw [<- HV.out]
  refine HC.out.mono ?_
  rintro r w1 ⟨rfl,h1,c1⟩
  have HL1 : Hid (CL w1 P l1 n 0) := h1
  have HX1 : Hid (MX w1 M (A.setIfInBounds 3 (.int .i64 0))) := HX0'.out.chg c1 hMP
  have HW1 : Hid (ChgA [P,M] w w1) := HW0.out.chg c1 (Or.inl (by simp))
  clear h1 c1 HC HX0' HW0 HV hlim
  go_wp2
  go_loopw [36] (fun iv wr => (iv = .int .i64 0 /\ Hid (wr = w1)) \/ (iv = .int .i64 1 /\ Hid (CL wr P l4 n a4) /\ Hid (MX wr M (A.setIfInBounds 3 (.int .i64 x))) /\ Hid (ChgA [P,M] w wr) /\ Hid (inI x))) (fun iv _ => 1 - (intOf iv).toNat)
  case atStart => exact Or.inl ⟨rfl,rfl⟩
  case round =>
   rcases hrel with ⟨rfl,HE⟩ | ⟨rfl,HLF,HXF,HWF,HIF⟩
   ·have e := HE.out
    subst e
    clear HE
    have HLR : Hid (CL wr P l1 n 0) := HL1
    have HXR := HX1
    have HW := HW1
    clear HL1 HX1 HW1
    obtain ⟨e0,e1,e2⟩ := (HLR.out.choose_spec.2.2).cell
    clear e0 e1
    have HG0 : Hid (ChgA [P] wr wr) := ChgA.refl _ _
    have HL0 : Hid (CL wr P l1 n 0) := HLR.out
    have HK1 := kZz (xeU P 112 6 l1 n 0 wr HL0.out)
    rw [Q1.out] at HK1
    dsimp only at HK1
    go_wp2_with fail
    refine HK1.out.mono ?_
    rintro r w1 ⟨rfl,h1,c1⟩
    have HG1 : Hid (ChgA [P] wr w1) := HG0.out.chg c1 (Or.inl (by simp))
    have HL1 : Hid (CL w1 P l2 n a2) := h1
    clear h1 c1 HG0 HL0
    clear e2
    have HK2 := kZz (xeU P 0 6 l2 n a2 w1 HL1.out)
    rw [Q2.out] at HK2
    dsimp only at HK2
    go_wp2_with fail
    refine HK2.out.mono ?_
    rintro r w2 ⟨rfl,h1,c1⟩
    have HG2 : Hid (ChgA [P] wr w2) := HG1.out.chg c1 (Or.inl (by simp))
    have HL2 : Hid (CL w2 P l3 n a3) := h1
    clear h1 c1 HG1 HL1
    have hx16 := xbQ 16 (by omega) l3 a3 HL2.out.byte
    rw [Q3.out] at hx16
    dsimp only at hx16
    have HK3 := kZz (xdN P 16 l3 n a3 w2 HL2.out)
    rw [Q3.out] at HK3
    dsimp only at HK3
    go_wp2_with fail
    refine HK3.out.mono ?_
    rintro r w3 ⟨rfl,h1,c1⟩
    have HG3 : Hid (ChgA [P] wr w3) := HG2.out.chg c1 (Or.inl (by simp))
    have HL3 : Hid (CL w3 P l4 n a4) := h1
    clear h1 c1 HG2 HL2
    have HX4 : Hid (MX w3 M (A.setIfInBounds 3 (.int .i64 0))) := HG3.out.mx HXR.out hMP
    have y3 : w3.cell? ⟨M,3,none⟩ = some (.int .i64 0) := by rw [HX4.out.cell 3]; exact xbV A 3 _ _ HA.out
    have f3 := HX4.out.frozen 3
    have HS5 : Hid (Chg M w3 (w3.setCell ⟨M,3,none⟩ (.int .i64 x))) := Chg.set _ _ _ _
    have HX5 : Hid (MX (w3.setCell ⟨M,3,none⟩ (.int .i64 x)) M (A.setIfInBounds 3 (.int .i64 x))) := by
     have := HX4.out.set 3 (.int .i64 x)
     rw [xcU] at this
     exact this
    have HL5 : Hid (CL (w3.setCell ⟨M,3,none⟩ (.int .i64 x)) P l4 n a4) := HL3.out.chg HS5.out hMP.symm
    have HW5 : Hid (ChgA [P,M] w (w3.setCell ⟨M,3,none⟩ (.int .i64 x))) := (HW.out.trans HG3.out (by simp)).chg HS5.out (Or.inl (by simp))
    clear HS5 HX4 HG3 HL3 HLR HXR HW
    go_wp2
    go_roundw
    case rel => exact Or.inr ⟨by go_num,HL5,HX5,HW5,⟨by omega,by omega⟩⟩
    case measure => simp [intOf]
   ·go_wp2
    go_end0
    exact ⟨rfl,HLF.out,HWF.out,x,HXF.out,HIF.out,fun _ => rfl⟩
end Go.Proofs.YtmmjgdaamkdncaaGreatDoor
