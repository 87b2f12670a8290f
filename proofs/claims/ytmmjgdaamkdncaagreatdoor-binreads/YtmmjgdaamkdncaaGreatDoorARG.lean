import Derived.Test.YtmmjgdaamkdncaaGreatDoorARF
namespace Go.Proofs.YtmmjgdaamkdncaaGreatDoor
set_option maxHeartbeats 8000000
set_option maxRecDepth 1000000
open Go.RowKit
set_option linter.unusedVariables false
theorem ylV (P M C : Nat) (A : Array Value) (l : List Int) (n : Int) (w : World) (h : CL w P l n 0) (hM : MX w M A) (hA : A[0]? = some (.slice none 0 0)) :
  Calls Tryz.prog 16 #[.pointer (some ⟨P,0,none⟩),.int .i64 1,.pointer (some ⟨M,0,none⟩),.pointer (some ⟨C,0,none⟩)] w fun r w' => r = .returned (.tuple #[]) /\ CL w' P (xaL 16 xhY l 0).2.1 n (xaL 16 xhY l 0).2.2 /\ ChgA [P,M] w w' /\ ∃ (o : Option Addr) (j cap : Nat),MX w' M (A.setIfInBounds 0 (.slice o j cap)) /\ ((xaL 16 xhY l 0).2.2 = 0 -> ∃ L : List SigD,L.map SigD.val = (xaL 16 xhY l 0).1 /\ LR w' w.heap.size 67 2 SigD.cells SigG o j cap L) := by
 obtain ⟨i0,hi,hz0,hz1,hz2⟩ := info_parts Tryz.infoLsig
 have hPw := h.lt
 have hMP : M ≠ P := h.apart hM (by decide)
 obtain ⟨v,hv⟩ : ∃ v,v = w.alloc (.cells #[.int .i64 0,.int .i64 16,.int .i64 16,.int .i64 16,.int .i64 1,.int .i64 1,.int .i64 8,.int .i64 8,.int .i64 0,.int .i64 4,.int .i64 16,.int .i64 4] 91) := ⟨_,rfl⟩
 have hlim : (w.alloc (.cells #[.int .i64 0,.int .i64 16,.int .i64 16,.int .i64 16,.int .i64 1,.int .i64 1,.int .i64 8,.int .i64 8,.int .i64 0,.int .i64 4,.int .i64 16,.int .i64 4] 91)).cell? ⟨w.heap.size,1,none⟩ = some (.int .i64 16) := xgG w 1 16 rfl
 have b : Below w.heap.size w v := by rw [hv]; exact (Below.refl _ _).alloc (Nat.le_refl _) _
 have HV : Hid (v = w.alloc (.cells #[.int .i64 0,.int .i64 16,.int .i64 16,.int .i64 16,.int .i64 1,.int .i64 1,.int .i64 8,.int .i64 8,.int .i64 0,.int .i64 4,.int .i64 16,.int .i64 4] 91)) := hv
 have hL0 : CL v P l n 0 := h.heap (b.block P hPw)
 have HX0 : Hid (MX v M A) := hM.kp (Kp.below (fun _ => true) b) rfl
 have HW0 : Hid (ChgA [P,M] w v) := (ChgA.refl _ _).below b (Nat.le_refl _)
 have HC := kZz (xdN P 16 l n 0 v hL0)
 have hfew := xbQ 16 (by omega) l 0 h.byte
 unfold xaL
 generalize xaN 16 l 0 = z at HC hfew ⊢
 obtain ⟨m0,l1,a1⟩ := z
 dsimp only at HC hfew ⊢
 obtain ⟨m,rfl⟩ : ∃ m : Nat,m0 = (m : Int) := ⟨m0.toNat,by omega⟩
 rw [Int.toNat_natCast]
 have hm16 : m <= 16 := by omega
 have HA : Hid (A[0]? = some (.slice none 0 0)) := hA
 clear h hM hA hv b hL0 hfew
 go_enter Tryz.func16,Tryz.ntmps16
 go_wp2_with fail
 rw [<- HV.out]
 refine HC.out.mono ?_
 rintro r w1 ⟨rfl,h1,c1⟩
 have HL1 : Hid (CL w1 P l1 n a1) := h1
 have HX1 : Hid (MX w1 M (A.setIfInBounds 0 (.slice none 0 0))) := by unfold Hid; rw [xdS A 0 _ HA.out]; exact HX0.out.chg c1 hMP
 have HW1 : Hid (ChgA [P,M] w w1) := HW0.out.chg c1 (Or.inl (by simp))
 clear h1 c1 HC HX0 HW0 HV hlim
 go_wp2
 go_loopw [36] (fun iv wr => ∃ i cap : Nat,∃ o : Option Addr,∃ L : List SigD,∃ li : List Int,∃ ai : Int,iv = .int .i64 (i : Int) /\ i <= m /\ Hid (MX wr M (A.setIfInBounds 0 (.slice o i cap))) /\ Hid (CL wr P li n ai) /\ Hid (SecR xhY SigD.val wr w.heap.size 67 2 SigD.cells SigG m l1 a1 i o cap L li ai) /\ Hid (ChgA [P,M] w wr)) (fun iv _ => m - (intOf iv).toNat)
 case atStart => exact ⟨0,0,none,[],l1,a1,rfl,by omega,HX1,HL1,SecR.start _ _ _ _ _ _ _ _ _,HW1⟩
 case round =>
  obtain ⟨i,cap,o,L,li,ai,rfl,him,HXR,HLR,HSR,HW⟩ := hrel
  obtain ⟨wo,hwo⟩ : ∃ v,v = wr := ⟨_,rfl⟩
  subst hwo
  clear HX1 HL1 HW1
  obtain ⟨e0,e1,e2⟩ := (HLR.out.choose_spec.2.2).cell
  clear e0 e1
  by_cases hlt : i < m
  ·by_cases h0 : ai = 0
   ·subst h0
    have HLL : Hid (LR wo w.heap.size 67 2 SigD.cells SigG o i cap L) := (HSR.out.list rfl).2
    have hcl := (HLL.out.capm).1
    have hcm := (HLL.out.capm).2
    unfold maxLen at hcm
    have hsr := HW.out.size
    have y0 : wo.cell? ⟨M,0,none⟩ = some (.slice o i cap) := by rw [HXR.out.cell 0]; exact xbV A 0 _ _ HA.out
    obtain ⟨l2,a2,q1⟩ : ∃ l2 a2,xaA 96 4 li 0 = (l2,a2) := ⟨_,_,rfl⟩
    obtain ⟨cU,l3,a3,q2⟩ : ∃ c l3 a3,xaN 4 l2 a2 = (c,l3,a3) := ⟨_,_,_,rfl⟩
    have Q1 := kZz q1
    have Q2 := kZz q2
    clear q1 q2
    have HG0 : Hid (ChgA [P] wo wo) := ChgA.refl _ _
    have HL0 : Hid (CL wo P li n 0) := HLR.out
    have hPr : P < wo.heap.size := HLR.out.lt
    have HK1 := kZz (xeU P 96 4 li n 0 wo HL0.out)
    rw [Q1.out] at HK1
    dsimp only at HK1
    go_wp2_with fail
    refine HK1.out.mono ?_
    rintro r w1 ⟨rfl,h1,c1⟩
    have HG1 : Hid (ChgA [P] wo w1) := HG0.out.chg c1 (Or.inl (by simp))
    have HL1 : Hid (CL w1 P l2 n a2) := h1
    clear h1 c1 HG0 HL0
    clear e2
    obtain ⟨w2,hv2⟩ : ∃ v,v = w1.alloc (.cells #[.slice none 0 0,.slice none 0 0] 67) := ⟨_,rfl⟩
    have HV2 : Hid (w2 = w1.alloc (.cells #[.slice none 0 0,.slice none 0 0] 67)) := hv2
    obtain ⟨X,hX⟩ : ∃ X,X = w1.heap.size := ⟨_,rfl⟩
    have HXE : Hid (X = w1.heap.size) := hX
    have hXr : wo.heap.size <= X := by rw [hX]; exact HG1.out.size
    have hXP : X ≠ P := by omega
    have bA : Below w1.heap.size w1 w2 := by rw [hv2]; exact (Below.refl _ _).alloc (Nat.le_refl _) _
    have HG2 : Hid (ChgA [P] wo w2) := HG1.out.below bA HG1.out.size
    have HL2 : Hid (CL w2 P l2 n a2) := HL1.out.heap (bA.block P HL1.out.lt)
    have HB2 : Hid (X2 67 w2 X (.slice none 0 0) (.slice none 0 0)) := by unfold Hid; rw [hv2,hX]; exact xaZ _ _
    clear hv2 hX bA HG1 HL1
    have hfU := xbQ 4 (by omega) l2 a2 HL2.out.byte
    rw [Q2.out] at hfU
    dsimp only at hfU
    obtain ⟨mU,hmU⟩ : ∃ m : Nat,cU = (m : Int) := ⟨cU.toNat,by omega⟩
    subst hmU
    have hMU : mU <= 4 := by omega
    clear hfU
    have HK3 := kZz (xdN P 4 l2 n a2 w2 HL2.out)
    rw [Q2.out] at HK3
    dsimp only at HK3
    go_wp2_with fail
    rw [<- HV2.out,<- HXE.out]
    clear HV2 HXE
    refine HK3.out.mono ?_
    rintro r w3 ⟨rfl,h1,c1⟩
    have HG3 : Hid (ChgA [P] wo w3) := HG2.out.chg c1 (Or.inl (by simp))
    have HL3 : Hid (CL w3 P l3 n a3) := h1
    have HB3 : Hid (X2 67 w3 X (.slice none 0 0) (.slice none 0 0)) := HB2.out.chg c1 hXP
    clear h1 c1 HG2 HL2 HB2
    obtain ⟨iU,hiU,hyU,huU,hvU⟩ := info_parts Tryz.infoLkin
    go_wp2
    go_loopw [50] (fun jv wr => ∃ j cc : Nat,∃ p : Option Addr,∃ LI lj : List Int,∃ aj : Int,jv = .int .i64 (j : Int) /\ j <= mU /\ Hid (X2 67 wr X (.slice p j cc) (.slice none 0 0)) /\ Hid (LR wr w3.heap.size 57 1 (fun x : Int => [Value.int .u8 x]) (fun (_ : World) (x : Int) => (Lit.int .u8 x).wf = true) p j cc LI) /\ Hid (CL wr P lj n aj) /\ Hid (xbW xbU mU l3 a3 = (LI ++ (xbW xbU (mU - j) lj aj).1,(xbW xbU (mU - j) lj aj).2)) /\ Hid (ChgA [P,X] w3 wr)) (fun jv _ => mU - (intOf jv).toNat)
    case atStart => exact ⟨0,0,none,[],l3,a3,rfl,by omega,HB3,LR.nil _ _ _ _ _ _,HL3,by unfold Hid; rw [List.nil_append]; rfl,ChgA.refl _ _⟩
    case round =>
     obtain ⟨jU,ccU,pU,LIU,ljU,ajU,rfl,hjmU,HBq,HRq,HLq,HTq,HFq⟩ := hrel
     have hsq : w3.heap.size <= wr.heap.size := HFq.out.size
     by_cases hjl : jU < mU
     ·have hcl2 := (HRq.out.capm).1
      have hcm2 := (HRq.out.capm).2
      unfold maxLen at hcm2
      obtain ⟨x0,x1⟩ := HBq.out.cell
      go_wp2_with fail
      refine xaC (S := fun w' => w'.cell? ⟨X,0,none⟩ = some (.slice pU jU ccU)) (z := 7) (by kernel_rfl) ?_
      obtain ⟨z0,hz0'⟩ : ∃ z,z = World.drew wr := ⟨_,rfl⟩
      have HS0 : Hid (z0.cell? ⟨X,0,none⟩ = some (.slice pU jU ccU)) := by rw [hz0']; exact x0
      have hC0 : CL z0 P ljU n ajU := HLq.out.heap (by rw [hz0']; rfl)
      have HC0 : Hid (Chg P wr z0) := by rw [hz0']; exact ⟨rfl,rfl,rfl,Nat.le_refl _,fun _ _ _ => rfl⟩
      have HCALL := kZz (xzF P ljU n ajU z0 hC0)
      clear hC0 x0 x1
      rw [<- hz0']
      clear hz0'
      have hHeld : (fun w' => w'.cell? ⟨X,0,none⟩ = some (.slice pU jU ccU)) z0 := HS0.out
      refine tk (i := 0) (h := ?_)
      refine ld (i := 1) [5,6,7] (h := ?_)
      refine tk (i := 2) (h := ?_)
      refine xgX (i := 3) rfl (by kernel_rfl) rfl (by go_simp) HCALL.out ?_
      rintro r z1 ⟨rfl,h1,c1⟩
      have HC1 : Hid (Chg P wr z1) := HC0.out.trans c1
      have HB1 : Hid (X2 67 z1 X (.slice pU jU ccU) (.slice none 0 0)) := HBq.out.chg HC1.out hXP
      have HS1 : Hid (z1.cell? ⟨X,0,none⟩ = some (.slice pU jU ccU)) := HB1.out.cell.1
      have HR1 : Hid (LR z1 w3.heap.size 57 1 (fun x : Int => [Value.int .u8 x]) (fun (_ : World) (x : Int) => (Lit.int .u8 x).wf = true) pU jU ccU LIU) := HRq.out.kp (Kp.cur HLq.out HC1.out (fun t => t != 45) (by decide)) (by decide) (fun _ hd => hd)
      have HL1 := kZz h1
      have hs1 : w3.heap.size <= z1.heap.size := Nat.le_trans hsq HC1.out.size
      have HF1 : Hid (ChgA [P,X] w3 z1) := HFq.out.chg HC1.out (Or.inl (by simp))
      have hyy := xiM ljU ajU HLq.out.byte
      obtain ⟨y,hye⟩ : ∃ y,y = (xbU ljU ajU).1 := ⟨_,rfl⟩
      rw [<- hye] at hyy
      rw [<- hye]
      have HY : Hid ((Lit.int .u8 y).wf = true) := xuM (by omega) (by omega)
      have HYE : Hid (y = (xbU ljU ajU).1) := hye
      clear hye hyy
      clear h1 c1 HCALL HC0 HS0
      clear hHeld
      refine ⟨_,rfl,HS1.out,fun hHeld => xaB ?_⟩
      have HS2 : Hid ((fun w' => w'.cell? ⟨X,0,none⟩ = some (.slice pU jU ccU)) (z1.alloc (.cells #[.int .u8 y] 57))) := by
       unfold Hid
       dsimp only
       have bA : Below z1.heap.size z1 (z1.alloc (.cells #[.int .u8 y] 57)) := (Below.refl _ _).alloc (Nat.le_refl _) _
       rw [bA.cell (p := ⟨X,0,none⟩) (xaU HB1.out)]
       exact HS1.out
      refine xbT (i := 4) rfl (by kernel_rfl) rfl (fun K R hK => ?_)
      go_simp
      refine hK.out _ _ HS2.out (fun hHeld => xaB ?_)
      clear hK
      refine xbT (i := 5) rfl (by kernel_rfl) rfl (fun K R hK => ?_)
      refine wp_append_lies _ (.tmp 53) (.tmp 56) 52 rfl w3.heap.size 57 iU (.int .u8 0) 1 1 Tryz.underlying52 hiU hyU huU hvU rfl (by omega) _ jU (LIU.flatMap (fun x : Int => [Value.int .u8 x])) rfl (HR1.out.own.alloc _) ⟨z1.heap.size,0,none⟩ 1 1 [.int .u8 y] rfl rfl (World.news_of_block (cs := #[.int .u8 y]) (t := 57) (fr := (0,0)) (heap_alloc_new z1 _)) (by simp [Value.oneCell']) (by omega) (by unfold maxLen; omega) (by omega) (by simp; omega) (z1.heap.size + 1) (by simp) ?_
      intro g capg z3 hown hgrow hat hlt3
      have bA : Below z1.heap.size z1 (z1.alloc (.cells #[.int .u8 y] 57)) := (Below.refl _ _).alloc (Nat.le_refl _) _
      have qB : Kp (fun t => t != 57) z1 z3 := (Kp.below _ bA).trans (Kp.grown (HR1.out.own.alloc _) hgrow _ (by decide))
      have HB3 : Hid (X2 67 z3 X (.slice pU jU ccU) (.slice none 0 0)) := HB1.out.kp qB (by decide)
      have HS3 : Hid (z3.cell? ⟨X,0,none⟩ = some (.slice pU jU ccU)) := HB3.out.cell.1
      have HL3 : Hid (CL z3 P (xbU ljU ajU).2.1 n (xbU ljU ajU).2.2) := HL1.out.kp qB (by decide)
      have HF3 : Hid (ChgA [P,X] w3 z3) := (HF1.out.below bA hs1).grown (HR1.out.own.alloc _) hgrow (Nat.le_refl _)
      have HR3 : Hid (LR z3 w3.heap.size 57 1 (fun x : Int => [Value.int .u8 x]) (fun (_ : World) (x : Int) => (Lit.int .u8 x).wf = true) (some ⟨g,0,none⟩) (jU + 1) capg (LIU ++ [y])) := HR1.out.app (fun _ hd => hd) HY.out hown
      clear hown hgrow hat hlt3 qB bA
      refine hK.out _ _ HS3.out (fun hHeld => xaB ?_)
      clear hK
      refine tk (i := 6) (h := ?_)
      obtain ⟨x0,x1⟩ := HB3.out.cell
      have xf := HB3.out.frozen 0
      refine xbH rfl (by kernel_rfl) (by kernel_rfl) (by kernel_rfl) rfl (fun K R hK => ?_)
      go_simp
      refine hK.out _ _ ?_
      clear hK K R hHeld
      clear x0 x1 xf
      have HS4 : Hid (Chg X z3 (z3.setCell ⟨X,0,none⟩ (.slice (some ⟨g,0,none⟩) (jU + 1) capg))) := Chg.set _ _ _ _
      have HB4 : Hid (X2 67 (z3.setCell ⟨X,0,none⟩ (.slice (some ⟨g,0,none⟩) (jU + 1) capg)) X (.slice (some ⟨g,0,none⟩) (jU + 1) capg) (.slice none 0 0)) := HB3.out.set0 _
      have HL4 : Hid (CL (z3.setCell ⟨X,0,none⟩ (.slice (some ⟨g,0,none⟩) (jU + 1) capg)) P (xbU ljU ajU).2.1 n (xbU ljU ajU).2.2) := HL3.out.chg HS4.out hXP.symm
      have HF4 : Hid (ChgA [P,X] w3 (z3.setCell ⟨X,0,none⟩ (.slice (some ⟨g,0,none⟩) (jU + 1) capg))) := HF3.out.chg HS4.out (Or.inl (by simp))
      have HR4 : Hid (LR (z3.setCell ⟨X,0,none⟩ (.slice (some ⟨g,0,none⟩) (jU + 1) capg)) w3.heap.size 57 1 (fun x : Int => [Value.int .u8 x]) (fun (_ : World) (x : Int) => (Lit.int .u8 x).wf = true) (some ⟨g,0,none⟩) (jU + 1) capg (LIU ++ [y])) := HR3.out.kp (Kp.chg HB3.out HS4.out (fun t => t != 67) (by decide)) (by decide) (fun _ hd => hd)
      have HT4 : Hid (xbW xbU mU l3 a3 = (LIU ++ [y] ++ (xbW xbU (mU - (jU + 1)) (xbU ljU ajU).2.1 (xbU ljU ajU).2.2).1,(xbW xbU (mU - (jU + 1)) (xbU ljU ajU).2.1 (xbU ljU ajU).2.2).2)) := by
       unfold Hid
       rw [HYE.out]
       exact xgB HTq.out hjl
      go_wp2
      go_roundw
      case rel => exact ⟨jU + 1,capg,_,_,_,_,by go_num,by omega,HB4,HR4,HL4,HT4,HF4⟩
      case measure => simp [intOf]; omega
     ·have HDU : Hid (xbW xbU mU l3 a3 = (LIU,ljU,ajU)) := xgA HTq.out hjl
      obtain ⟨w4,hw4⟩ : ∃ v,v = wr := ⟨_,rfl⟩
      subst hw4
      have HG4 : Hid (ChgA [P] wo w4) := HG3.out.trans HFq.out (by
       intro x hx
       rw [List.mem_cons,List.mem_singleton] at hx
       rcases hx with rfl | rfl
       ·exact Or.inl (by simp)
       ·exact Or.inr hXr)
      have HL4 : Hid (CL w4 P ljU n ajU) := HLq.out
      have HB4 : Hid (X2 67 w4 X (.slice pU jU ccU) (.slice none 0 0)) := HBq.out
      have HRU4 : Hid (LR w4 w3.heap.size 57 1 (fun x : Int => [Value.int .u8 x]) (fun (_ : World) (x : Int) => (Lit.int .u8 x).wf = true) pU jU ccU LIU) := HRq.out
      clear HG3 HL3 HB3 HBq HRq HLq HTq HFq
      obtain ⟨cW,l5,a5,q3⟩ : ∃ c l5 a5,xaN 1 ljU ajU = (c,l5,a5) := ⟨_,_,_,rfl⟩
      have Q3 := kZz q3
      clear q3
      have hfW := xbQ 1 (by omega) ljU ajU HL4.out.byte
      rw [Q3.out] at hfW
      dsimp only at hfW
      obtain ⟨mW,hmW⟩ : ∃ m : Nat,cW = (m : Int) := ⟨cW.toNat,by omega⟩
      subst hmW
      have hMW : mW <= 1 := by omega
      clear hfW
      have HK5 := kZz (xdN P 1 ljU n ajU w4 HL4.out)
      rw [Q3.out] at HK5
      dsimp only at HK5
      go_wp2_with fail
      refine HK5.out.mono ?_
      rintro r w5 ⟨rfl,h1,c1⟩
      have HG5 : Hid (ChgA [P] wo w5) := HG4.out.chg c1 (Or.inl (by simp))
      have HL5 : Hid (CL w5 P l5 n a5) := h1
      have HB5 : Hid (X2 67 w5 X (.slice pU jU ccU) (.slice none 0 0)) := HB4.out.chg c1 hXP
      have HRU5 : Hid (LR w5 w3.heap.size 57 1 (fun x : Int => [Value.int .u8 x]) (fun (_ : World) (x : Int) => (Lit.int .u8 x).wf = true) pU jU ccU LIU) := HRU4.out.kp (Kp.cur HL4.out c1 (fun t => t != 45) (by decide)) (by decide) (fun _ hd => hd)
      clear h1 c1 HG4 HL4 HB4 HRU4
      obtain ⟨iW,hiW,hyW,huW,hvW⟩ := info_parts Tryz.infoLkin
      go_wp2
      go_loopw [62] (fun jv wr => ∃ j cc : Nat,∃ p : Option Addr,∃ LI lj : List Int,∃ aj : Int,jv = .int .i64 (j : Int) /\ j <= mW /\ Hid (X2 67 wr X (.slice pU jU ccU) (.slice p j cc)) /\ Hid (LR wr w5.heap.size 57 1 (fun x : Int => [Value.int .u8 x]) (fun (_ : World) (x : Int) => (Lit.int .u8 x).wf = true) p j cc LI) /\ Hid (CL wr P lj n aj) /\ Hid (xbW xbU mW l5 a5 = (LI ++ (xbW xbU (mW - j) lj aj).1,(xbW xbU (mW - j) lj aj).2)) /\ Hid (ChgA [P,X] w5 wr)) (fun jv _ => mW - (intOf jv).toNat)
      case atStart => exact ⟨0,0,none,[],l5,a5,rfl,by omega,HB5,LR.nil _ _ _ _ _ _,HL5,by unfold Hid; rw [List.nil_append]; rfl,ChgA.refl _ _⟩
      case round =>
       obtain ⟨jW,ccW,pW,LIW,ljW,ajW,rfl,hjmW,HBq,HRq,HLq,HTq,HFq⟩ := hrel
       have hsq : w5.heap.size <= wr.heap.size := HFq.out.size
       by_cases hjl : jW < mW
       ·have hcl2 := (HRq.out.capm).1
        have hcm2 := (HRq.out.capm).2
        unfold maxLen at hcm2
        obtain ⟨x0,x1⟩ := HBq.out.cell
        go_wp2_with fail
        refine xaC (S := fun w' => w'.cell? ⟨X,1,none⟩ = some (.slice pW jW ccW)) (z := 7) (by kernel_rfl) ?_
        obtain ⟨z0,hz0'⟩ : ∃ z,z = World.drew wr := ⟨_,rfl⟩
        have HS0 : Hid (z0.cell? ⟨X,1,none⟩ = some (.slice pW jW ccW)) := by rw [hz0']; exact x1
        have hC0 : CL z0 P ljW n ajW := HLq.out.heap (by rw [hz0']; rfl)
        have HC0 : Hid (Chg P wr z0) := by rw [hz0']; exact ⟨rfl,rfl,rfl,Nat.le_refl _,fun _ _ _ => rfl⟩
        have HCALL := kZz (xzF P ljW n ajW z0 hC0)
        clear hC0 x0 x1
        rw [<- hz0']
        clear hz0'
        have hHeld : (fun w' => w'.cell? ⟨X,1,none⟩ = some (.slice pW jW ccW)) z0 := HS0.out
        refine tk (i := 0) (h := ?_)
        refine ld (i := 1) [5,6,7] (h := ?_)
        refine tk (i := 2) (h := ?_)
        refine xgX (i := 3) rfl (by kernel_rfl) rfl (by go_simp) HCALL.out ?_
        rintro r z1 ⟨rfl,h1,c1⟩
        have HC1 : Hid (Chg P wr z1) := HC0.out.trans c1
        have HB1 : Hid (X2 67 z1 X (.slice pU jU ccU) (.slice pW jW ccW)) := HBq.out.chg HC1.out hXP
        have HS1 : Hid (z1.cell? ⟨X,1,none⟩ = some (.slice pW jW ccW)) := HB1.out.cell.2
        have HR1 : Hid (LR z1 w5.heap.size 57 1 (fun x : Int => [Value.int .u8 x]) (fun (_ : World) (x : Int) => (Lit.int .u8 x).wf = true) pW jW ccW LIW) := HRq.out.kp (Kp.cur HLq.out HC1.out (fun t => t != 45) (by decide)) (by decide) (fun _ hd => hd)
        have HL1 := kZz h1
        have hs1 : w5.heap.size <= z1.heap.size := Nat.le_trans hsq HC1.out.size
        have HF1 : Hid (ChgA [P,X] w5 z1) := HFq.out.chg HC1.out (Or.inl (by simp))
        have hyy := xiM ljW ajW HLq.out.byte
        obtain ⟨y,hye⟩ : ∃ y,y = (xbU ljW ajW).1 := ⟨_,rfl⟩
        rw [<- hye] at hyy
        rw [<- hye]
        have HY : Hid ((Lit.int .u8 y).wf = true) := xuM (by omega) (by omega)
        have HYE : Hid (y = (xbU ljW ajW).1) := hye
        clear hye hyy
        clear h1 c1 HCALL HC0 HS0
        clear hHeld
        refine ⟨_,rfl,HS1.out,fun hHeld => xaB ?_⟩
        have HS2 : Hid ((fun w' => w'.cell? ⟨X,1,none⟩ = some (.slice pW jW ccW)) (z1.alloc (.cells #[.int .u8 y] 57))) := by
         unfold Hid
         dsimp only
         have bA : Below z1.heap.size z1 (z1.alloc (.cells #[.int .u8 y] 57)) := (Below.refl _ _).alloc (Nat.le_refl _) _
         rw [bA.cell (p := ⟨X,1,none⟩) (xaU HB1.out)]
         exact HS1.out
        refine xbT (i := 4) rfl (by kernel_rfl) rfl (fun K R hK => ?_)
        go_simp
        refine hK.out _ _ HS2.out (fun hHeld => xaB ?_)
        clear hK
        refine xbT (i := 5) rfl (by kernel_rfl) rfl (fun K R hK => ?_)
        refine wp_append_lies _ (.tmp 65) (.tmp 68) 52 rfl w5.heap.size 57 iW (.int .u8 0) 1 1 Tryz.underlying52 hiW hyW huW hvW rfl (by omega) _ jW (LIW.flatMap (fun x : Int => [Value.int .u8 x])) rfl (HR1.out.own.alloc _) ⟨z1.heap.size,0,none⟩ 1 1 [.int .u8 y] rfl rfl (World.news_of_block (cs := #[.int .u8 y]) (t := 57) (fr := (0,0)) (heap_alloc_new z1 _)) (by simp [Value.oneCell']) (by omega) (by unfold maxLen; omega) (by omega) (by simp; omega) (z1.heap.size + 1) (by simp) ?_
        intro g capg z3 hown hgrow hat hlt3
        have bA : Below z1.heap.size z1 (z1.alloc (.cells #[.int .u8 y] 57)) := (Below.refl _ _).alloc (Nat.le_refl _) _
        have qB : Kp (fun t => t != 57) z1 z3 := (Kp.below _ bA).trans (Kp.grown (HR1.out.own.alloc _) hgrow _ (by decide))
        have HB3 : Hid (X2 67 z3 X (.slice pU jU ccU) (.slice pW jW ccW)) := HB1.out.kp qB (by decide)
        have HS3 : Hid (z3.cell? ⟨X,1,none⟩ = some (.slice pW jW ccW)) := HB3.out.cell.2
        have HL3 : Hid (CL z3 P (xbU ljW ajW).2.1 n (xbU ljW ajW).2.2) := HL1.out.kp qB (by decide)
        have HF3 : Hid (ChgA [P,X] w5 z3) := (HF1.out.below bA hs1).grown (HR1.out.own.alloc _) hgrow (Nat.le_refl _)
        have HR3 : Hid (LR z3 w5.heap.size 57 1 (fun x : Int => [Value.int .u8 x]) (fun (_ : World) (x : Int) => (Lit.int .u8 x).wf = true) (some ⟨g,0,none⟩) (jW + 1) capg (LIW ++ [y])) := HR1.out.app (fun _ hd => hd) HY.out hown
        clear hown hgrow hat hlt3 qB bA
        refine hK.out _ _ HS3.out (fun hHeld => xaB ?_)
        clear hK
        refine tk (i := 6) (h := ?_)
        obtain ⟨x0,x1⟩ := HB3.out.cell
        have xf := HB3.out.frozen 1
        refine xbH rfl (by kernel_rfl) (by kernel_rfl) (by kernel_rfl) rfl (fun K R hK => ?_)
        go_simp
        refine hK.out _ _ ?_
        clear hK K R hHeld
        clear x0 x1 xf
        have HS4 : Hid (Chg X z3 (z3.setCell ⟨X,1,none⟩ (.slice (some ⟨g,0,none⟩) (jW + 1) capg))) := Chg.set _ _ _ _
        have HB4 : Hid (X2 67 (z3.setCell ⟨X,1,none⟩ (.slice (some ⟨g,0,none⟩) (jW + 1) capg)) X (.slice pU jU ccU) (.slice (some ⟨g,0,none⟩) (jW + 1) capg)) := HB3.out.set1 _
        have HL4 : Hid (CL (z3.setCell ⟨X,1,none⟩ (.slice (some ⟨g,0,none⟩) (jW + 1) capg)) P (xbU ljW ajW).2.1 n (xbU ljW ajW).2.2) := HL3.out.chg HS4.out hXP.symm
        have HF4 : Hid (ChgA [P,X] w5 (z3.setCell ⟨X,1,none⟩ (.slice (some ⟨g,0,none⟩) (jW + 1) capg))) := HF3.out.chg HS4.out (Or.inl (by simp))
        have HR4 : Hid (LR (z3.setCell ⟨X,1,none⟩ (.slice (some ⟨g,0,none⟩) (jW + 1) capg)) w5.heap.size 57 1 (fun x : Int => [Value.int .u8 x]) (fun (_ : World) (x : Int) => (Lit.int .u8 x).wf = true) (some ⟨g,0,none⟩) (jW + 1) capg (LIW ++ [y])) := HR3.out.kp (Kp.chg HB3.out HS4.out (fun t => t != 67) (by decide)) (by decide) (fun _ hd => hd)
        have HT4 : Hid (xbW xbU mW l5 a5 = (LIW ++ [y] ++ (xbW xbU (mW - (jW + 1)) (xbU ljW ajW).2.1 (xbU ljW ajW).2.2).1,(xbW xbU (mW - (jW + 1)) (xbU ljW ajW).2.1 (xbU ljW ajW).2.2).2)) := by
         unfold Hid
         rw [HYE.out]
         exact xgB HTq.out hjl
        go_wp2
        go_roundw
        case rel => exact ⟨jW + 1,capg,_,_,_,_,by go_num,by omega,HB4,HR4,HL4,HT4,HF4⟩
        case measure => simp [intOf]; omega
       ·have HDW : Hid (xbW xbU mW l5 a5 = (LIW,ljW,ajW)) := xgA HTq.out hjl
        obtain ⟨w6,hw6⟩ : ∃ v,v = wr := ⟨_,rfl⟩
        subst hw6
        have HG6 : Hid (ChgA [P] wo w6) := HG5.out.trans HFq.out (by
         intro x hx
         rw [List.mem_cons,List.mem_singleton] at hx
         rcases hx with rfl | rfl
         ·exact Or.inl (by simp)
         ·exact Or.inr hXr)
        have HL6 : Hid (CL w6 P ljW n ajW) := HLq.out
        have HB6 : Hid (X2 67 w6 X (.slice pU jU ccU) (.slice pW jW ccW)) := HBq.out
        have HRU6 : Hid (LR w6 w3.heap.size 57 1 (fun x : Int => [Value.int .u8 x]) (fun (_ : World) (x : Int) => (Lit.int .u8 x).wf = true) pU jU ccU LIU) := HRU5.out.kp (HFq.out.kp2 HL5.out HB5.out (fun t => t != 45 && t != 67) (by decide) (by decide)) (by decide) (fun _ hd => hd)
        have HRW6 : Hid (LR w6 w5.heap.size 57 1 (fun x : Int => [Value.int .u8 x]) (fun (_ : World) (x : Int) => (Lit.int .u8 x).wf = true) pW jW ccW LIW) := HRq.out
        clear HG5 HL5 HB5 HBq HRq HLq HTq HFq HRU5
        have HQ : Hid (xhY li 0 = (⟨LIU,LIW⟩,ljW,ajW)) := by
         unfold Hid xhY xtN
         simp only [Q1.out,Q2.out,Int.toNat_natCast,HDU.out,Q3.out,HDW.out]
        go_wp2_with fail
        refine xaC (S := fun w' => w'.cell? ⟨M,0,none⟩ = some (.slice o i cap) /\ w'.cell? ⟨X,0,none⟩ = some (.slice pU jU ccU) /\ w'.cell? ⟨X,1,none⟩ = some (.slice pW jW ccW)) (z := 10) (by kernel_rfl) ?_
        obtain ⟨z1,hz1'⟩ : ∃ z,z = World.drew w6 := ⟨_,rfl⟩
        have qd : Kp (fun _ => true) w6 z1 := by rw [hz1']; exact ⟨Nat.le_refl _,fun _ _ _ _ _ _ => rfl⟩
        have HMZ : Hid (MX z1 M (A.setIfInBounds 0 (.slice o i cap))) := (HG6.out.mx HXR.out hMP).kp qd rfl
        have HBZ : Hid (X2 67 z1 X (.slice pU jU ccU) (.slice pW jW ccW)) := by unfold Hid X2; rw [qd.blk _ _ _ _ HB6.out rfl]; exact HB6.out
        have HLZ : Hid (CL z1 P ljW n ajW) := HL6.out.kp qd rfl
        have HWZ : Hid (ChgA [P,M] w z1) := by
         have h1 : ChgA [P,M] w w6 := HW.out.trans HG6.out (by simp)
         rw [hz1']
         exact ⟨h1.os,h1.tape,h1.output,h1.size,h1.block⟩
        have HLLZ : Hid (LR z1 w.heap.size 67 2 SigD.cells SigG o i cap L) := by
         have q1 := HG6.out.kp HLR.out (fun t => t != 45) (by decide)
         have q2 : Kp (fun t => t != 45) w6 z1 := qd.weak (fun _ _ => rfl)
         have q := q1.trans q2
         exact HLL.out.kp q (by decide) (fun d hd => hd.kp q (by decide))
        have hs1 : w.heap.size <= z1.heap.size := HWZ.out.size
        have HD : Hid ((xhY li 0).2.2 = 0 -> SigD.val ⟨⟨pU,jU,ccU,LIU⟩,⟨pW,jW,ccW,LIW⟩⟩ = (xhY li 0).1 /\ SigG z1 ⟨⟨pU,jU,ccU,LIU⟩,⟨pW,jW,ccW,LIW⟩⟩) := fun q0 => by
         rw [HQ.out]
         exact ⟨rfl,(HRU6.out.num).kp qd rfl,(HRW6.out.num).kp qd rfl⟩
        obtain ⟨u0,u1⟩ := HBZ.out.cell
        have HXO : Hid (some X ≠ (Value.slice o i cap).ownBlock) := fun q => by have := HLL.out.row_lt X q.symm; omega
        have HS0 : Hid (z1.cell? ⟨M,0,none⟩ = some (.slice o i cap) /\ z1.cell? ⟨X,0,none⟩ = some (.slice pU jU ccU) /\ z1.cell? ⟨X,1,none⟩ = some (.slice pW jW ccW)) := ⟨by rw [HMZ.out.cell 0]; exact xbV A 0 _ _ HA.out,u0,u1⟩
        clear qd u0 u1 HG6 HL6 HB6 y0 HLR HLL HXR HW HRU6 HRW6
        rw [<- hz1']
        clear hz1'
        have hHeld : (fun w' => w'.cell? ⟨M,0,none⟩ = some (.slice o i cap) /\ w'.cell? ⟨X,0,none⟩ = some (.slice pU jU ccU) /\ w'.cell? ⟨X,1,none⟩ = some (.slice pW jW ccW)) z1 := HS0.out
        refine tk (i := 0) (h := ?_)
        refine tk (i := 1) (h := ?_)
        refine tk (i := 2) (h := ?_)
        refine tk (i := 3) (h := ?_)
        refine ld (i := 4) [7,8,9,10] (h := ?_)
        refine ld (i := 5) [6,7,8,9,10] (h := ?_)
        have HS2 : Hid ((fun w' => w'.cell? ⟨M,0,none⟩ = some (.slice o i cap) /\ w'.cell? ⟨X,0,none⟩ = some (.slice pU jU ccU) /\ w'.cell? ⟨X,1,none⟩ = some (.slice pW jW ccW)) (z1.alloc (.cells #[.slice pU jU ccU,.slice pW jW ccW] 67))) := by
         have bA : Below z1.heap.size z1 (z1.alloc (.cells #[.slice pU jU ccU,.slice pW jW ccW] 67)) := (Below.refl _ _).alloc (Nat.le_refl _) _
         refine ⟨?_,?_,?_⟩
         ·rw [bA.cell (p := ⟨M,0,none⟩) HMZ.out.lt]; exact HS0.out.1
         ·rw [bA.cell (p := ⟨X,0,none⟩) (xaU HBZ.out)]; exact HS0.out.2.1
         ·rw [bA.cell (p := ⟨X,1,none⟩) (xaU HBZ.out)]; exact HS0.out.2.2
        refine xbT (i := 6) rfl (by kernel_rfl) rfl (fun K R hK => ?_)
        go_simp
        refine hK.out _ _ HS2.out (fun hHeld => xaB ?_)
        clear hK
        refine xbT (i := 7) rfl (by kernel_rfl) rfl (fun K R hK => ?_)
        refine wp_append_lies _ (.tmp 76) (.tmp 78) 22 rfl w.heap.size 67 i0 (.agg #[.slice none 0 0,.slice none 0 0]) 2 48 Tryz.underlying22 hi hz0 hz1 hz2 rfl (by omega) _ i (L.flatMap SigD.cells) rfl (HLLZ.out.own.alloc _) ⟨z1.heap.size,0,none⟩ 1 1 [.slice pU jU ccU,.slice pW jW ccW] rfl rfl (World.news_of_block (cs := #[.slice pU jU ccU,.slice pW jW ccW]) (t := 67) (fr := (0,0)) (heap_alloc_new z1 _)) (by simp [Value.oneCell']) (by omega) (by unfold maxLen; omega) (by omega) (by simp; omega) (z1.heap.size + 1) (by simp) ?_
        intro g capg z3 hown hgrow hat hlt3
        have bA : Below z1.heap.size z1 (z1.alloc (.cells #[.slice pU jU ccU,.slice pW jW ccW] 67)) := (Below.refl _ _).alloc (Nat.le_refl _) _
        have qB : Kp (fun t => t != 67) z1 z3 := (Kp.below _ bA).trans (Kp.grown (HLLZ.out.own.alloc _) hgrow _ (by decide))
        have HX3 : Hid (MX z3 M (A.setIfInBounds 0 (.slice o i cap))) := HMZ.out.kp qB (by decide)
        have HB3 : Hid (X2 67 z3 X (.slice pU jU ccU) (.slice pW jW ccW)) := HBZ.out.far bA hgrow HXO.out
        have HS3 : Hid (z3.cell? ⟨M,0,none⟩ = some (.slice o i cap) /\ z3.cell? ⟨X,0,none⟩ = some (.slice pU jU ccU) /\ z3.cell? ⟨X,1,none⟩ = some (.slice pW jW ccW)) := ⟨by rw [HX3.out.cell 0]; exact xbV A 0 _ _ HA.out,HB3.out.cell.1,HB3.out.cell.2⟩
        have HL3 : Hid (CL z3 P ljW n ajW) := HLZ.out.kp qB (by decide)
        have HW3 : Hid (ChgA [P,M] w z3) := (HWZ.out.below bA hs1).grown (HLLZ.out.own.alloc _) hgrow (Nat.le_refl _)
        have qA : Kp (far 67) z1 z3 := (Kp.below _ bA).trans (Kp.grown (HLLZ.out.own.alloc _) hgrow _ (by decide))
        have HLL3 : Hid ((xhY li 0).2.2 = 0 -> SigD.val ⟨⟨pU,jU,ccU,LIU⟩,⟨pW,jW,ccW,LIW⟩⟩ = (xhY li 0).1 /\ LR z3 w.heap.size 67 2 SigD.cells SigG (some ⟨g,0,none⟩) (i + 1) capg (L ++ [⟨⟨pU,jU,ccU,LIU⟩,⟨pW,jW,ccW,LIW⟩⟩])) := fun q0 => ⟨(HD.out q0).1,HLLZ.out.app (fun d hd => hd.kp qA (by decide)) (HD.out q0).2 hown⟩
        clear hown hgrow hat hlt3 qA qB bA
        refine hK.out _ _ HS3.out (fun hHeld => xaB ?_)
        clear hK
        refine tk (i := 8) (h := ?_)
        refine tk (i := 9) (h := ?_)
        have y3 := HS3.out.1
        have f3 := HX3.out.frozen 0
        refine xbH rfl (by kernel_rfl) (by kernel_rfl) (by kernel_rfl) rfl (fun K R hK => ?_)
        go_simp
        refine hK.out _ _ ?_
        clear hK K R hHeld
        clear y3 f3
        have HS4 : Hid (Chg M z3 (z3.setCell ⟨M,0,none⟩ (.slice (some ⟨g,0,none⟩) (i + 1) capg))) := Chg.set _ _ _ _
        have HX4 : Hid (MX (z3.setCell ⟨M,0,none⟩ (.slice (some ⟨g,0,none⟩) (i + 1) capg)) M (A.setIfInBounds 0 (.slice (some ⟨g,0,none⟩) (i + 1) capg))) := by
         have := HX3.out.set 0 (.slice (some ⟨g,0,none⟩) (i + 1) capg)
         rw [xcU] at this
         exact this
        have HL4 : Hid (CL (z3.setCell ⟨M,0,none⟩ (.slice (some ⟨g,0,none⟩) (i + 1) capg)) P ljW n ajW) := HL3.out.chg HS4.out hMP.symm
        have HW4 : Hid (ChgA [P,M] w (z3.setCell ⟨M,0,none⟩ (.slice (some ⟨g,0,none⟩) (i + 1) capg))) := HW3.out.chg HS4.out (Or.inl (by simp))
        have HR4 : Hid (SecR xhY SigD.val (z3.setCell ⟨M,0,none⟩ (.slice (some ⟨g,0,none⟩) (i + 1) capg)) w.heap.size 67 2 SigD.cells SigG m l1 a1 (i + 1) (some ⟨g,0,none⟩) capg (L ++ [⟨⟨pU,jU,ccU,LIU⟩,⟨pW,jW,ccW,LIW⟩⟩]) ljW ajW) := by
         have qM : Kp (fun t => t != 30) z3 (z3.setCell ⟨M,0,none⟩ (.slice (some ⟨g,0,none⟩) (i + 1) capg)) := Kp.chg HX3.out HS4.out _ (by decide)
         have hh := HSR.out.more (w' := z3.setCell ⟨M,0,none⟩ (.slice (some ⟨g,0,none⟩) (i + 1) capg)) (o' := some ⟨g,0,none⟩) (cap' := capg) (d := ⟨⟨pU,jU,ccU,LIU⟩,⟨pW,jW,ccW,LIW⟩⟩) hlt fun q0 => ⟨(HLL3.out q0).1,(HLL3.out q0).2.kp qM (by decide) (fun d hd => hd.kp qM (by decide))⟩
         rw [HQ.out] at hh
         exact hh
        go_wp2
        go_roundw
        case rel => exact ⟨i + 1,capg,_,_,_,_,by go_num,by omega,HX4,HL4,HR4,HW4⟩
        case measure => simp [intOf]; omega
   ·have hb : (ai == 0) = false := by rw [beq_eq_false_iff_ne]; exact h0
    have hb2 : (ai != 0) = true := by rw [bne,hb]; rfl
    have HN0 : Hid (ai ≠ 0) := h0
    clear h0
    go_wp2
    refine ⟨rfl,_,results_none rfl _ _ _,rfl,?_⟩
    obtain ⟨r1,r2⟩ := HSR.out.done (Or.inr HN0.out)
    rw [r1]
    exact ⟨HLR.out,HW.out,o,i,cap,HXR.out,fun q => absurd q HN0.out⟩
  ·go_wp2
   go_end0
   obtain ⟨r1,r2⟩ := HSR.out.done (Or.inl hlt)
   rw [r1]
   exact ⟨rfl,HLR.out,HW.out,o,i,cap,HXR.out,fun q => ⟨L,r2 q⟩⟩
theorem ylW (P M C : Nat) (A : Array Value) (l : List Int) (n : Int) (w : World) (h : CL w P l n 0) (hM : MX w M A) (hA : A[1]? = some (.slice none 0 0)) :
  Calls Tryz.prog 16 #[.pointer (some ⟨P,0,none⟩),.int .i64 2,.pointer (some ⟨M,0,none⟩),.pointer (some ⟨C,0,none⟩)] w fun r w' => r = .returned (.tuple #[]) /\ CL w' P (xaL 16 xpC l 0).2.1 n (xaL 16 xpC l 0).2.2 /\ ChgA [P,M] w w' /\ ∃ (o : Option Addr) (j cap : Nat),MX w' M (A.setIfInBounds 1 (.slice o j cap)) /\ ((xaL 16 xpC l 0).2.2 = 0 -> ∃ L : List NamD,L.map NamD.val = (xaL 16 xpC l 0).1 /\ LR w' w.heap.size 71 2 NamD.cells NamD.ok o j cap L) := by
 obtain ⟨i0,hi,hz0,hz1,hz2⟩ := info_parts Tryz.infoLimp
 have hPw := h.lt
 have hMP : M ≠ P := h.apart hM (by decide)
 obtain ⟨v,hv⟩ : ∃ v,v = w.alloc (.cells #[.int .i64 0,.int .i64 16,.int .i64 16,.int .i64 16,.int .i64 1,.int .i64 1,.int .i64 8,.int .i64 8,.int .i64 0,.int .i64 4,.int .i64 16,.int .i64 4] 91) := ⟨_,rfl⟩
 have hlim : (w.alloc (.cells #[.int .i64 0,.int .i64 16,.int .i64 16,.int .i64 16,.int .i64 1,.int .i64 1,.int .i64 8,.int .i64 8,.int .i64 0,.int .i64 4,.int .i64 16,.int .i64 4] 91)).cell? ⟨w.heap.size,2,none⟩ = some (.int .i64 16) := xgG w 2 16 rfl
 have b : Below w.heap.size w v := by rw [hv]; exact (Below.refl _ _).alloc (Nat.le_refl _) _
 have HV : Hid (v = w.alloc (.cells #[.int .i64 0,.int .i64 16,.int .i64 16,.int .i64 16,.int .i64 1,.int .i64 1,.int .i64 8,.int .i64 8,.int .i64 0,.int .i64 4,.int .i64 16,.int .i64 4] 91)) := hv
 have hL0 : CL v P l n 0 := h.heap (b.block P hPw)
 have HX0 : Hid (MX v M A) := hM.kp (Kp.below (fun _ => true) b) rfl
 have HW0 : Hid (ChgA [P,M] w v) := (ChgA.refl _ _).below b (Nat.le_refl _)
 have HC := kZz (xdN P 16 l n 0 v hL0)
 have hfew := xbQ 16 (by omega) l 0 h.byte
 unfold xaL
 generalize xaN 16 l 0 = z at HC hfew ⊢
 obtain ⟨m0,l1,a1⟩ := z
 dsimp only at HC hfew ⊢
 obtain ⟨m,rfl⟩ : ∃ m : Nat,m0 = (m : Int) := ⟨m0.toNat,by omega⟩
 rw [Int.toNat_natCast]
 have hm16 : m <= 16 := by omega
 have HA : Hid (A[1]? = some (.slice none 0 0)) := hA
 clear h hM hA hv b hL0 hfew
 go_enter Tryz.func16,Tryz.ntmps16
 go_wp2_with fail
 rw [<- HV.out]
 refine HC.out.mono ?_
 rintro r w1 ⟨rfl,h1,c1⟩
 have HL1 : Hid (CL w1 P l1 n a1) := h1
 have HX1 : Hid (MX w1 M (A.setIfInBounds 1 (.slice none 0 0))) := by unfold Hid; rw [xdS A 1 _ HA.out]; exact HX0.out.chg c1 hMP
 have HW1 : Hid (ChgA [P,M] w w1) := HW0.out.chg c1 (Or.inl (by simp))
 clear h1 c1 HC HX0 HW0 HV hlim
 go_wp2
 go_loopw [36] (fun iv wr => ∃ i cap : Nat,∃ o : Option Addr,∃ L : List NamD,∃ li : List Int,∃ ai : Int,iv = .int .i64 (i : Int) /\ i <= m /\ Hid (MX wr M (A.setIfInBounds 1 (.slice o i cap))) /\ Hid (CL wr P li n ai) /\ Hid (SecR xpC NamD.val wr w.heap.size 71 2 NamD.cells NamD.ok m l1 a1 i o cap L li ai) /\ Hid (ChgA [P,M] w wr)) (fun iv _ => m - (intOf iv).toNat)
 case atStart => exact ⟨0,0,none,[],l1,a1,rfl,by omega,HX1,HL1,SecR.start _ _ _ _ _ _ _ _ _,HW1⟩
 case round =>
  obtain ⟨i,cap,o,L,li,ai,rfl,him,HXR,HLR,HSR,HW⟩ := hrel
  clear HX1 HL1 HW1
  obtain ⟨e0,e1,e2⟩ := (HLR.out.choose_spec.2.2).cell
  clear e0 e1
  by_cases hlt : i < m
  ·by_cases h0 : ai = 0
   ·subst h0
    have HLL : Hid (LR wr w.heap.size 71 2 NamD.cells NamD.ok o i cap L) := (HSR.out.list rfl).2
    have hcl := (HLL.out.capm).1
    have hcm := (HLL.out.capm).2
    unfold maxLen at hcm
    have hsr := HW.out.size
    have y1 : wr.cell? ⟨M,1,none⟩ = some (.slice o i cap) := by rw [HXR.out.cell 1]; exact xbV A 1 _ _ HA.out
    obtain ⟨s0,l2,a2,q1⟩ : ∃ s1 l2 a2,xiN li 0 = (s1,l2,a2) := ⟨_,_,_,rfl⟩
    obtain ⟨a3,q2⟩ : ∃ a3,a3 = xcP (!(s0 == yaN)) 6 a2 := ⟨_,rfl⟩
    obtain ⟨s1,l4,a4,q3⟩ : ∃ s1 l4 a4,xiN l2 a3 = (s1,l4,a4) := ⟨_,_,_,rfl⟩
    obtain ⟨l5,a5,q4⟩ : ∃ l5 a5,xaA 0 6 l4 a4 = (l5,a5) := ⟨_,_,rfl⟩
    obtain ⟨y,l6,a6,q5⟩ : ∃ y l6 a6,xaK l5 a5 = (y,l6,a6) := ⟨_,_,_,rfl⟩
    have HQ : Hid (xpC li 0 = (⟨s1,y⟩,l6,a6)) := by unfold Hid xpC xoU; simp only [q1,<- q2,q3,q4,q5]
    have Q1 := kZz q1
    have Q2 := kZz q2
    have Q3 := kZz q3
    have Q4 := kZz q4
    have Q5 := kZz q5
    clear q1 q2 q3 q4 q5
    have HG0 : Hid (ChgA [P] wr wr) := ChgA.refl _ _
    have HL0 : Hid (CL wr P li n 0) := HLR.out
    have hPr : P < wr.heap.size := HLR.out.lt
    have HK1 := kZz (ydZ P li n 0 wr HL0.out)
    rw [Q1.out] at HK1
    dsimp only at HK1
    go_wp2_with fail
    refine HK1.out.mono ?_
    rintro r w1 ⟨T0,rfl,hT0,h1,c1⟩
    have HT0 : Hid (xaX T0 = s0) := hT0
    clear hT0
    have HG1 : Hid (ChgA [P] wr w1) := HG0.out.chg c1 (Or.inl (by simp))
    have HL1 : Hid (CL w1 P l2 n a2) := h1
    clear h1 c1 HG0 HL0
    clear e2
    go_wp2_with fail
    refine (HL1.out.say _ _).mono ?_
    rintro r w2 ⟨rfl,h1,c1⟩
    replace h1 : CL w2 P l2 n a3 := by
     rw [Q2.out,<- xsV T0 s0 HT0.out]
     exact h1
    have HG2 : Hid (ChgA [P] wr w2) := HG1.out.chg c1 (Or.inl (by simp))
    have HL2 : Hid (CL w2 P l2 n a3) := h1
    clear h1 c1 HG1 HL1
    have HK3 := kZz (ydZ P l2 n a3 w2 HL2.out)
    rw [Q3.out] at HK3
    dsimp only at HK3
    go_wp2_with fail
    refine HK3.out.mono ?_
    rintro r w3 ⟨T,rfl,hT,h1,c1⟩
    have HT : Hid (xaX T = s1) := hT
    clear hT
    have HG3 : Hid (ChgA [P] wr w3) := HG2.out.chg c1 (Or.inl (by simp))
    have HL3 : Hid (CL w3 P l4 n a4) := h1
    clear h1 c1 HG2 HL2
    obtain ⟨w4,hv4⟩ : ∃ v,v = w3.alloc (.cells #[.string T,.int .i64 0] 71) := ⟨_,rfl⟩
    have HV4 : Hid (w4 = w3.alloc (.cells #[.string T,.int .i64 0] 71)) := hv4
    obtain ⟨X,hX⟩ : ∃ X,X = w3.heap.size := ⟨_,rfl⟩
    have HXE : Hid (X = w3.heap.size) := hX
    have hXr : wr.heap.size <= X := by rw [hX]; exact HG3.out.size
    have hXP : X ≠ P := by omega
    have bA : Below w3.heap.size w3 w4 := by rw [hv4]; exact (Below.refl _ _).alloc (Nat.le_refl _) _
    have HG4 : Hid (ChgA [P] wr w4) := HG3.out.below bA HG3.out.size
    have HL4 : Hid (CL w4 P l4 n a4) := HL3.out.heap (bA.block P HL3.out.lt)
    have HB4 : Hid (X2 71 w4 X (.string T) (.int .i64 0)) := by unfold Hid; rw [hv4,hX]; exact xaZ _ _
    clear hv4 hX bA HG3 HL3
    have HK5 := kZz (xeU P 0 6 l4 n a4 w4 HL4.out)
    rw [Q4.out] at HK5
    dsimp only at HK5
    go_wp2_with fail
    rw [<- HV4.out,<- HXE.out]
    clear HV4 HXE
    refine HK5.out.mono ?_
    rintro r w5 ⟨rfl,h1,c1⟩
    have HG5 : Hid (ChgA [P] wr w5) := HG4.out.chg c1 (Or.inl (by simp))
    have HL5 : Hid (CL w5 P l5 n a5) := h1
    have HB5 : Hid (X2 71 w5 X (.string T) (.int .i64 0)) := HB4.out.chg c1 hXP
    clear h1 c1 HG4 HL4 HB4
    have HK6 := kZz (xoC P l5 n a5 w5 HL5.out)
    rw [Q5.out] at HK6
    dsimp only at HK6
    go_wp2_with fail
    refine HK6.out.mono ?_
    rintro r w6 ⟨rfl,h1,c1⟩
    have HG6 : Hid (ChgA [P] wr w6) := HG5.out.chg c1 (Or.inl (by simp))
    have HL6 : Hid (CL w6 P l6 n a6) := h1
    have HB6 : Hid (X2 71 w6 X (.string T) (.int .i64 0)) := HB5.out.chg c1 hXP
    clear h1 c1 HG5 HL5 HB5
    obtain ⟨w7,hv7⟩ : ∃ v,v = w6.setCell ⟨X,1,none⟩ (.int .i64 y) := ⟨_,rfl⟩
    have HV7 : Hid (w7 = w6.setCell ⟨X,1,none⟩ (.int .i64 y)) := hv7
    have hS : Chg X w6 w7 := by rw [hv7]; exact Chg.set _ _ _ _
    have HG7 : Hid (ChgA [P] wr w7) := HG6.out.chg hS (Or.inr hXr)
    have HL7 : Hid (CL w7 P l6 n a6) := HL6.out.chg hS hXP.symm
    have HB7 : Hid (X2 71 w7 X (.string T) (.int .i64 y)) := by unfold Hid; rw [hv7]; exact HB6.out.set1 _
    obtain ⟨x0,x1⟩ := HB6.out.cell
    have xf := HB6.out.frozen 1
    clear hv7 hS HG6 HL6 HB6
    go_wp2_with fail
    rw [<- HV7.out]
    clear HV7 x0 x1 xf
    refine xaC (S := fun w' => w'.cell? ⟨M,1,none⟩ = some (.slice o i cap) /\ w'.cell? ⟨X,0,none⟩ = some (.string T) /\ w'.cell? ⟨X,1,none⟩ = some (.int .i64 y)) (z := 10) (by kernel_rfl) ?_
    obtain ⟨z1,hz1'⟩ : ∃ z,z = World.drew w7 := ⟨_,rfl⟩
    have qd : Kp (fun _ => true) w7 z1 := by rw [hz1']; exact ⟨Nat.le_refl _,fun _ _ _ _ _ _ => rfl⟩
    have HMZ : Hid (MX z1 M (A.setIfInBounds 1 (.slice o i cap))) := (HG7.out.mx HXR.out hMP).kp qd rfl
    have HBZ : Hid (X2 71 z1 X (.string T) (.int .i64 y)) := by unfold Hid X2; rw [qd.blk _ _ _ _ HB7.out rfl]; exact HB7.out
    have HLZ : Hid (CL z1 P l6 n a6) := HL7.out.kp qd rfl
    have HWZ : Hid (ChgA [P,M] w z1) := by
     have h1 : ChgA [P,M] w w7 := HW.out.trans HG7.out (by simp)
     rw [hz1']
     exact ⟨h1.os,h1.tape,h1.output,h1.size,h1.block⟩
    have HLLZ : Hid (LR z1 w.heap.size 71 2 NamD.cells NamD.ok o i cap L) := by
     have q1 := HG7.out.kp HLR.out (fun t => t != 45) (by decide)
     have q2 : Kp (fun t => t != 45) w7 z1 := qd.weak (fun _ _ => rfl)
     have q := q1.trans q2
     exact HLL.out.kp q (by decide) (fun d hd => hd)
    have hs1 : w.heap.size <= z1.heap.size := HWZ.out.size
    have HD : Hid ((xpC li 0).2.2 = 0 -> NamD.val ⟨T,y⟩ = (xpC li 0).1 /\ NamD.ok z1 ⟨T,y⟩) := fun q0 => by
     have hg := (cod_imp.ok _ _ _ HLR.out.byte (Rel.imp.got HLR.out.byte q0)).1
     rw [HQ.out] at hg ⊢
     exact ⟨by rw [<- HT.out]; rfl,ybB hg (by rw [<- HT.out]) z1⟩
    obtain ⟨u0,u1⟩ := HBZ.out.cell
    have HXO : Hid (some X ≠ (Value.slice o i cap).ownBlock) := fun q => by have := HLL.out.row_lt X q.symm; omega
    have HS0 : Hid (z1.cell? ⟨M,1,none⟩ = some (.slice o i cap) /\ z1.cell? ⟨X,0,none⟩ = some (.string T) /\ z1.cell? ⟨X,1,none⟩ = some (.int .i64 y)) := ⟨by rw [HMZ.out.cell 1]; exact xbV A 1 _ _ HA.out,u0,u1⟩
    clear qd u0 u1 HG7 HL7 HB7 y1 HLR HLL HXR HW
    rw [<- hz1']
    clear hz1'
    have hHeld : (fun w' => w'.cell? ⟨M,1,none⟩ = some (.slice o i cap) /\ w'.cell? ⟨X,0,none⟩ = some (.string T) /\ w'.cell? ⟨X,1,none⟩ = some (.int .i64 y)) z1 := HS0.out
    refine tk (i := 0) (h := ?_)
    refine tk (i := 1) (h := ?_)
    refine tk (i := 2) (h := ?_)
    refine tk (i := 3) (h := ?_)
    refine ld (i := 4) [7,8,9,10] (h := ?_)
    refine ld (i := 5) [6,7,8,9,10] (h := ?_)
    have HS2 : Hid ((fun w' => w'.cell? ⟨M,1,none⟩ = some (.slice o i cap) /\ w'.cell? ⟨X,0,none⟩ = some (.string T) /\ w'.cell? ⟨X,1,none⟩ = some (.int .i64 y)) (z1.alloc (.cells #[.string T,.int .i64 y] 71))) := by
     have bA : Below z1.heap.size z1 (z1.alloc (.cells #[.string T,.int .i64 y] 71)) := (Below.refl _ _).alloc (Nat.le_refl _) _
     refine ⟨?_,?_,?_⟩
     ·rw [bA.cell (p := ⟨M,1,none⟩) HMZ.out.lt]; exact HS0.out.1
     ·rw [bA.cell (p := ⟨X,0,none⟩) (xaU HBZ.out)]; exact HS0.out.2.1
     ·rw [bA.cell (p := ⟨X,1,none⟩) (xaU HBZ.out)]; exact HS0.out.2.2
    refine xbT (i := 6) rfl (by kernel_rfl) rfl (fun K R hK => ?_)
    go_simp
    refine hK.out _ _ HS2.out (fun hHeld => xaB ?_)
    clear hK
    refine xbT (i := 7) rfl (by kernel_rfl) rfl (fun K R hK => ?_)
    refine wp_append_lies _ (.tmp 101) (.tmp 103) 23 rfl w.heap.size 71 i0 (.agg #[.string ⟨#[]⟩,.int .i64 0]) 2 24 Tryz.underlying23 hi hz0 hz1 hz2 rfl (by omega) _ i (L.flatMap NamD.cells) rfl (HLLZ.out.own.alloc _) ⟨z1.heap.size,0,none⟩ 1 1 [.string T,.int .i64 y] rfl rfl (World.news_of_block (cs := #[.string T,.int .i64 y]) (t := 71) (fr := (0,0)) (heap_alloc_new z1 _)) (by simp [Value.oneCell']) (by omega) (by unfold maxLen; omega) (by omega) (by simp; omega) (z1.heap.size + 1) (by simp) ?_
    intro g capg z3 hown hgrow hat hlt3
    have bA : Below z1.heap.size z1 (z1.alloc (.cells #[.string T,.int .i64 y] 71)) := (Below.refl _ _).alloc (Nat.le_refl _) _
    have qB : Kp (fun t => t != 71) z1 z3 := (Kp.below _ bA).trans (Kp.grown (HLLZ.out.own.alloc _) hgrow _ (by decide))
    have HX3 : Hid (MX z3 M (A.setIfInBounds 1 (.slice o i cap))) := HMZ.out.kp qB (by decide)
    have HB3 : Hid (X2 71 z3 X (.string T) (.int .i64 y)) := HBZ.out.far bA hgrow HXO.out
    have HS3 : Hid (z3.cell? ⟨M,1,none⟩ = some (.slice o i cap) /\ z3.cell? ⟨X,0,none⟩ = some (.string T) /\ z3.cell? ⟨X,1,none⟩ = some (.int .i64 y)) := ⟨by rw [HX3.out.cell 1]; exact xbV A 1 _ _ HA.out,HB3.out.cell.1,HB3.out.cell.2⟩
    have HL3 : Hid (CL z3 P l6 n a6) := HLZ.out.kp qB (by decide)
    have HW3 : Hid (ChgA [P,M] w z3) := (HWZ.out.below bA hs1).grown (HLLZ.out.own.alloc _) hgrow (Nat.le_refl _)
    have qA : Kp (far 71) z1 z3 := (Kp.below _ bA).trans (Kp.grown (HLLZ.out.own.alloc _) hgrow _ (by decide))
    have HLL3 : Hid ((xpC li 0).2.2 = 0 -> NamD.val ⟨T,y⟩ = (xpC li 0).1 /\ LR z3 w.heap.size 71 2 NamD.cells NamD.ok (some ⟨g,0,none⟩) (i + 1) capg (L ++ [⟨T,y⟩])) := fun q0 => ⟨(HD.out q0).1,HLLZ.out.app (fun d hd => hd) (HD.out q0).2 hown⟩
    clear hown hgrow hat hlt3 qA qB bA
    refine hK.out _ _ HS3.out (fun hHeld => xaB ?_)
    clear hK
    refine tk (i := 8) (h := ?_)
    refine tk (i := 9) (h := ?_)
    have y3 := HS3.out.1
    have f3 := HX3.out.frozen 1
    refine xbH rfl (by kernel_rfl) (by kernel_rfl) (by kernel_rfl) rfl (fun K R hK => ?_)
    go_simp
    refine hK.out _ _ ?_
    clear hK K R hHeld
    clear y3 f3
    have HS4 : Hid (Chg M z3 (z3.setCell ⟨M,1,none⟩ (.slice (some ⟨g,0,none⟩) (i + 1) capg))) := Chg.set _ _ _ _
    have HX4 : Hid (MX (z3.setCell ⟨M,1,none⟩ (.slice (some ⟨g,0,none⟩) (i + 1) capg)) M (A.setIfInBounds 1 (.slice (some ⟨g,0,none⟩) (i + 1) capg))) := by
     have := HX3.out.set 1 (.slice (some ⟨g,0,none⟩) (i + 1) capg)
     rw [xcU] at this
     exact this
    have HL4 : Hid (CL (z3.setCell ⟨M,1,none⟩ (.slice (some ⟨g,0,none⟩) (i + 1) capg)) P l6 n a6) := HL3.out.chg HS4.out hMP.symm
    have HW4 : Hid (ChgA [P,M] w (z3.setCell ⟨M,1,none⟩ (.slice (some ⟨g,0,none⟩) (i + 1) capg))) := HW3.out.chg HS4.out (Or.inl (by simp))
    have HR4 : Hid (SecR xpC NamD.val (z3.setCell ⟨M,1,none⟩ (.slice (some ⟨g,0,none⟩) (i + 1) capg)) w.heap.size 71 2 NamD.cells NamD.ok m l1 a1 (i + 1) (some ⟨g,0,none⟩) capg (L ++ [⟨T,y⟩]) l6 a6) := by
     have qM : Kp (fun t => t != 30) z3 (z3.setCell ⟨M,1,none⟩ (.slice (some ⟨g,0,none⟩) (i + 1) capg)) := Kp.chg HX3.out HS4.out _ (by decide)
     have hh := HSR.out.more (w' := z3.setCell ⟨M,1,none⟩ (.slice (some ⟨g,0,none⟩) (i + 1) capg)) (o' := some ⟨g,0,none⟩) (cap' := capg) (d := ⟨T,y⟩) hlt fun q0 => ⟨(HLL3.out q0).1,(HLL3.out q0).2.kp qM (by decide) (fun d hd => hd)⟩
     rw [HQ.out] at hh
     exact hh
    go_wp2
    go_roundw
    case rel => exact ⟨i + 1,capg,_,_,_,_,by go_num,by omega,HX4,HL4,HR4,HW4⟩
    case measure => simp [intOf]; omega
   ·have hb : (ai == 0) = false := by rw [beq_eq_false_iff_ne]; exact h0
    have hb2 : (ai != 0) = true := by rw [bne,hb]; rfl
    have HN0 : Hid (ai ≠ 0) := h0
    clear h0
    go_wp2
    refine ⟨rfl,_,results_none rfl _ _ _,rfl,?_⟩
    obtain ⟨r1,r2⟩ := HSR.out.done (Or.inr HN0.out)
    rw [r1]
    exact ⟨HLR.out,HW.out,o,i,cap,HXR.out,fun q => absurd q HN0.out⟩
  ·go_wp2
   go_end0
   obtain ⟨r1,r2⟩ := HSR.out.done (Or.inl hlt)
   rw [r1]
   exact ⟨rfl,HLR.out,HW.out,o,i,cap,HXR.out,fun q => ⟨L,r2 q⟩⟩
end Go.Proofs.YtmmjgdaamkdncaaGreatDoor
