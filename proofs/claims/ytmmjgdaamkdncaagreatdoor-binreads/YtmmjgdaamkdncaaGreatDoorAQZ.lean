import Derived.Test.YtmmjgdaamkdncaaGreatDoorAGRdr
import Derived.Deep.RegionWith
import Derived.RegionTactic
import Derived.BigRegion
namespace Go.Proofs.YtmmjgdaamkdncaaGreatDoor
set_option maxHeartbeats 4000000
set_option maxRecDepth 1000000
set_option linter.unusedVariables false
open Go.RowKit
def XS (w : World) (X : Nat) (c0 c1 c2 c3 : Value) : Prop := w.heap[X]? = some (.cells #[c0,c1,c2,c3] 100 (0,0))
section
variable {w w' : World} {X P : Nat} {c0 c1 c2 c3 : Value}
theorem XS.lt (h : XS w X c0 c1 c2 c3) : X < w.heap.size := by
 unfold XS at h
 exact (Array.getElem?_eq_some_iff.1 h).1
theorem XS.cell (h : XS w X c0 c1 c2 c3) : w.cell? ⟨X,0,none⟩ = some c0 /\ w.cell? ⟨X,1,none⟩ = some c1 /\ w.cell? ⟨X,2,none⟩ = some c2 /\ w.cell? ⟨X,3,none⟩ = some c3 := by
 unfold XS at h
 simp [World.cell?,h]
theorem XS.frozen (h : XS w X c0 c1 c2 c3) (i : Nat) : w.frozen? ⟨X,i,none⟩ = false := by
 unfold XS at h
 simp [World.frozen?,h]
theorem XS.chg (h : XS w X c0 c1 c2 c3) (c : Chg P w w') (hX : X ≠ P) : XS w' X c0 c1 c2 c3 := by
 have hl := h.lt
 unfold XS at h ⊢
 rw [c.block X hl hX,h]
theorem XS.set0 (h : XS w X c0 c1 c2 c3) (v : Value) : XS (w.setCell ⟨X,0,none⟩ v) X v c1 c2 c3 := by
 unfold XS at h ⊢
 simp [World.setCell,Array.getElem?_modify,h]
theorem XS.set1 (h : XS w X c0 c1 c2 c3) (v : Value) : XS (w.setCell ⟨X,1,none⟩ v) X c0 v c2 c3 := by
 unfold XS at h ⊢
 simp [World.setCell,Array.getElem?_modify,h]
theorem XS.set2 (h : XS w X c0 c1 c2 c3) (v : Value) : XS (w.setCell ⟨X,2,none⟩ v) X c0 c1 v c3 := by
 unfold XS at h ⊢
 simp [World.setCell,Array.getElem?_modify,h]
theorem XS.set3 (h : XS w X c0 c1 c2 c3) (v : Value) : XS (w.setCell ⟨X,3,none⟩ v) X c0 c1 c2 v := by
 unfold XS at h ⊢
 simp [World.setCell,Array.getElem?_modify,h]
theorem XS.far (h : XS w X c0 c1 c2 c3) (Y i : Nat) (v : Value) (hY : X ≠ Y) : XS (w.setCell ⟨Y,i,none⟩ v) X c0 c1 c2 c3 := by
 unfold XS at h ⊢
 rw [Below.heap_setCell _ _ _ _ hY,h]
end
theorem RL.far {w : World} {P : Nat} {l : List Int} {a : Int} (h : RL w P l a) (Y i : Nat) (v : Value) (hY : P ≠ Y) : RL (w.setCell ⟨Y,i,none⟩ v) P l a := by
 obtain ⟨s,h1,h2,h3⟩ := h
 refine ⟨s,h1,h2,?_⟩
 unfold RS at h3 ⊢
 rw [Below.heap_setCell _ _ _ _ hY,h3]
theorem Chg.far {P : Nat} {w w1 : World} (h : Chg P w w1) (Y i : Nat) (v : Value) (hY : w.heap.size <= Y) : Chg P w (w1.setCell ⟨Y,i,none⟩ v) := by
 refine ⟨h.os,h.tape,h.output,by have := h.size; simpa using this,fun k hk hp => ?_⟩
 rw [Below.heap_setCell _ _ _ _ (by simp only; omega)]
 exact h.block k hk hp
theorem xbY {w : World} {B B' n size : Nat} {e : TypeId} {v : Value} {xs : List Value} (h : w.ownsRow B e size v n xs) (hb : B' <= B) : w.ownsRow B' e size v n xs := by
 obtain ⟨h1,h2⟩ := h
 refine ⟨h1,?_⟩
 rcases h2 with h | ⟨g,cap,cur,e1,hg,r⟩
 ·exact Or.inl h
 ·exact Or.inr ⟨g,cap,cur,e1,Nat.le_trans hb hg,r⟩
theorem xaZ (w : World) (o : Obj) : (w.alloc o).heap[w.heap.size]? = some o := by
 show (w.heap.push o)[w.heap.size]? = some o
 rw [Array.getElem?_push]
 simp
theorem xbI {w : World} {B g n Y i : Nat} {e : TypeId} {xs : List Value} {v : Value} (h : w.ownsRow B e 1 (.slice (some ⟨g,0,none⟩) n n) n xs) (hg : g ≠ Y) : (w.setCell ⟨Y,i,none⟩ v).ownsRow B e 1 (.slice (some ⟨g,0,none⟩) n n) n xs :=
 xhX (P := Y) h (Chg.set Y i w v) hg
theorem TabIn.chg {w w' : World} {P : Nat} (h : TabIn w) (c : Chg P w w') (h0 : 3 < w.heap.size) (hP : 3 ≠ P) : TabIn w' := h.of_cells fun j => c.cell ⟨3,j,none⟩ h0 hP
theorem yeK (P : Nat) (l l1 : List Int) (a a1 op : Int) (w : World) (HN : Hid (∀ w,RL w P l a -> Calls Tryz.prog 122 #[.pointer (some ⟨P,0,none⟩)] w fun r w' => r = .returned (.int .u8 op) /\ RL w' P l1 a1 /\ Chg P w w')) (HB : Hid (∀ w,TabIn w -> Calls Tryz.prog 123 #[.int .u8 op] w fun r w' => r = .returned (.int .i64 1) /\ Below w.heap.size w w')) (hr : RL w P l a) (hT : TabIn w) (hTP : 3 ≠ P) (_ht0 : 3 < w.heap.size) :
  Calls Tryz.prog 113 #[.pointer (some ⟨P,0,none⟩)] w fun r w' => r = .returned (.agg #[.int .u8 op,.int .i64 (0),.int .i64 (0),.slice none 0 0]) /\ RL w' P (l1) (a1) /\ Chg P w w' := by
 have hPw := hr.lt
 go_enter Tryz.func113,Tryz.ntmps113
 go_wp2_with fail
 refine (HN.out _ (hr.below ((Below.refl _ _).alloc (Nat.le_refl _) _))).mono ?_
 rintro e w1 ⟨rfl,r1,c1⟩
 have hs1 : w.heap.size < w1.heap.size := by have := c1.size; simp at this; omega
 have hXP : w1.heap.size ≠ P := by omega
 have hRP : w.heap.size ≠ P := by omega
 have xR : XS w1 w.heap.size (.int .u8 0) (.int .i64 0) (.int .i64 0) (.slice none 0 0) := by
  unfold XS
  rw [c1.block w.heap.size (by simp) hRP]
  exact xaZ _ _
 have HC1 : Hid (Chg P w w1) := (Chg.of_below ((Below.refl _ _).alloc (Nat.le_refl _) _)).trans c1
 have HR1 : Hid (RL w1 P l1 a1) := r1
 have HT1 : Hid (TabIn w1) := hT.chg HC1.out (by omega) hTP
 clear r1 c1 hr
 go_wp2_with fail
 refine (HB.out _ (HT1.out.chg (Chg.of_below (P := P) ((Below.refl _ _).alloc (Nat.le_refl _) _)) (by omega) hTP)).mono ?_
 rintro e w2 ⟨rfl,b2⟩
 have xX : XS w2 w1.heap.size (.int .u8 op) (.int .i64 0) (.int .i64 0) (.slice none 0 0) := by
  unfold XS
  rw [b2.block w1.heap.size (by simp)]
  exact xaZ _ _
 have xR2 : XS w2 w.heap.size (.int .u8 0) (.int .i64 0) (.int .i64 0) (.slice none 0 0) := by
  unfold XS at xR ⊢
  rw [b2.block w.heap.size (by simp; omega),Below.heap_alloc _ _ _ hs1]
  exact xR
 have r2 : RL w2 P l1 a1 := (HR1.out.below ((Below.refl _ _).alloc (Nat.le_refl _) _)).below b2
 have c2 : Chg P w w2 := HC1.out.trans ((Chg.of_below ((Below.refl _ _).alloc (Nat.le_refl _) _)).trans (Chg.of_below b2))
 clear b2 HR1 HC1 HT1 xR
 have hXR : w1.heap.size ≠ w.heap.size := by omega
 have hRX : w.heap.size ≠ w1.heap.size := by omega
 have hXw : w.heap.size <= w1.heap.size := by omega
 generalize w1.heap.size = X at xX hXP hXR hRX hs1 hXw
 have hPX : P ≠ X := hXP.symm
 obtain ⟨R,hR⟩ : ∃ R,w.heap.size = R := ⟨_,rfl⟩
 rw [hR] at xR2 hRP hXR hRX
 obtain ⟨x0,x1,x2,x3⟩ := xX.cell
 obtain ⟨y0,y1,y2,y3⟩ := xR2.cell
 have f0 := xR2.frozen 0
 have f1 := xR2.frozen 1
 have f2 := xR2.frozen 2
 have f3 := xR2.frozen 3
 have g1 := xX.frozen 1
 have g2 := xX.frozen 2
 have g3 := xX.frozen 3
 have HFX : Hid _ := (((xR2.set0 (.int .u8 op)).set1 (.int .i64 0)).set2 (.int .i64 0)).set3 (.slice none 0 0)
 have HR := kZz r2
 have HCC := kZz c2
 go_wp2
 obtain ⟨q0,q1,q2,q3⟩ := XS.cell HFX.out
 refine bodyPost_ret (v := .agg #[(.int .u8 op),(.int .i64 0),(.int .i64 0),(.slice none 0 0)]) (by simp [results,Tryz.results113,go_sem,q0,q1,q2,q3]) rfl ?_
 exact ⟨rfl,((((HR.out.far R 0 _ hRP.symm).far R 1 _ hRP.symm).far R 2 _ hRP.symm).far R 3 _ hRP.symm),((((HCC.out.far R 0 _ (Nat.le_of_eq hR)).far R 1 _ (Nat.le_of_eq hR)).far R 2 _ (Nat.le_of_eq hR)).far R 3 _ (Nat.le_of_eq hR))⟩
theorem yeJ (P : Nat) (l l1 : List Int) (a a1 op : Int) (w : World) (HN : Hid (∀ w,RL w P l a -> Calls Tryz.prog 122 #[.pointer (some ⟨P,0,none⟩)] w fun r w' => r = .returned (.int .u8 op) /\ RL w' P l1 a1 /\ Chg P w w')) (HB : Hid (∀ w,TabIn w -> Calls Tryz.prog 123 #[.int .u8 op] w fun r w' => r = .returned (.int .i64 0) /\ Below w.heap.size w w')) (hr : RL w P l a) (hT : TabIn w) (hTP : 3 ≠ P) (_ht0 : 3 < w.heap.size) :
  Calls Tryz.prog 113 #[.pointer (some ⟨P,0,none⟩)] w fun r w' => r = .returned (.agg #[.int .u8 op,.int .i64 (0),.int .i64 (0),.slice none 0 0]) /\ RL w' P (l1) (xbD a1 6) /\ Chg P w w' := by
 have hPw := hr.lt
 go_enter Tryz.func113,Tryz.ntmps113
 go_wp2_with fail
 refine (HN.out _ (hr.below ((Below.refl _ _).alloc (Nat.le_refl _) _))).mono ?_
 rintro e w1 ⟨rfl,r1,c1⟩
 have hs1 : w.heap.size < w1.heap.size := by have := c1.size; simp at this; omega
 have hXP : w1.heap.size ≠ P := by omega
 have hRP : w.heap.size ≠ P := by omega
 have xR : XS w1 w.heap.size (.int .u8 0) (.int .i64 0) (.int .i64 0) (.slice none 0 0) := by
  unfold XS
  rw [c1.block w.heap.size (by simp) hRP]
  exact xaZ _ _
 have HC1 : Hid (Chg P w w1) := (Chg.of_below ((Below.refl _ _).alloc (Nat.le_refl _) _)).trans c1
 have HR1 : Hid (RL w1 P l1 a1) := r1
 have HT1 : Hid (TabIn w1) := hT.chg HC1.out (by omega) hTP
 clear r1 c1 hr
 go_wp2_with fail
 refine (HB.out _ (HT1.out.chg (Chg.of_below (P := P) ((Below.refl _ _).alloc (Nat.le_refl _) _)) (by omega) hTP)).mono ?_
 rintro e w2 ⟨rfl,b2⟩
 have xX : XS w2 w1.heap.size (.int .u8 op) (.int .i64 0) (.int .i64 0) (.slice none 0 0) := by
  unfold XS
  rw [b2.block w1.heap.size (by simp)]
  exact xaZ _ _
 have xR2 : XS w2 w.heap.size (.int .u8 0) (.int .i64 0) (.int .i64 0) (.slice none 0 0) := by
  unfold XS at xR ⊢
  rw [b2.block w.heap.size (by simp; omega),Below.heap_alloc _ _ _ hs1]
  exact xR
 have r2 : RL w2 P l1 a1 := (HR1.out.below ((Below.refl _ _).alloc (Nat.le_refl _) _)).below b2
 have c2 : Chg P w w2 := HC1.out.trans ((Chg.of_below ((Below.refl _ _).alloc (Nat.le_refl _) _)).trans (Chg.of_below b2))
 clear b2 HR1 HC1 HT1 xR
 have hXR : w1.heap.size ≠ w.heap.size := by omega
 have hRX : w.heap.size ≠ w1.heap.size := by omega
 have hXw : w.heap.size <= w1.heap.size := by omega
 generalize w1.heap.size = X at xX hXP hXR hRX hs1 hXw
 have hPX : P ≠ X := hXP.symm
 obtain ⟨R,hR⟩ : ∃ R,w.heap.size = R := ⟨_,rfl⟩
 rw [hR] at xR2 hRP hXR hRX
 obtain ⟨x0,x1,x2,x3⟩ := xX.cell
 obtain ⟨y0,y1,y2,y3⟩ := xR2.cell
 have f0 := xR2.frozen 0
 have f1 := xR2.frozen 1
 have f2 := xR2.frozen 2
 have f3 := xR2.frozen 3
 have g1 := xX.frozen 1
 have g2 := xX.frozen 2
 have g3 := xX.frozen 3
 go_wp2_with fail
 refine (r2.fail 6).mono ?_
 rintro e w3 ⟨rfl,r3,c3⟩
 have xX3 := XS.chg (xX) c3 hXP
 have xR3 := XS.chg (xR2) c3 hRP
 have d3 := (c2).trans c3
 obtain ⟨x0,x1,x2,x3⟩ := xX3.cell
 obtain ⟨y0,y1,y2,y3⟩ := xR3.cell
 have f0 := xR3.frozen 0
 have f1 := xR3.frozen 1
 have f2 := xR3.frozen 2
 have f3 := xR3.frozen 3
 have g1 := xX3.frozen 1
 have g2 := xX3.frozen 2
 have g3 := xX3.frozen 3
 have HFX : Hid _ := (((xR3.set0 (.int .u8 op)).set1 (.int .i64 0)).set2 (.int .i64 0)).set3 (.slice none 0 0)
 have HR := kZz r3
 have HCC := kZz d3
 go_wp2
 obtain ⟨q0,q1,q2,q3⟩ := XS.cell HFX.out
 refine bodyPost_ret (v := .agg #[(.int .u8 op),(.int .i64 0),(.int .i64 0),(.slice none 0 0)]) (by simp [results,Tryz.results113,go_sem,q0,q1,q2,q3]) rfl ?_
 exact ⟨rfl,((((HR.out.far R 0 _ hRP.symm).far R 1 _ hRP.symm).far R 2 _ hRP.symm).far R 3 _ hRP.symm),((((HCC.out.far R 0 _ (Nat.le_of_eq hR)).far R 1 _ (Nat.le_of_eq hR)).far R 2 _ (Nat.le_of_eq hR)).far R 3 _ (Nat.le_of_eq hR))⟩
theorem yeL (P : Nat) (l l1 : List Int) (a a1 op : Int) (w : World) (HN : Hid (∀ w,RL w P l a -> Calls Tryz.prog 122 #[.pointer (some ⟨P,0,none⟩)] w fun r w' => r = .returned (.int .u8 op) /\ RL w' P l1 a1 /\ Chg P w w')) (HB : Hid (∀ w,TabIn w -> Calls Tryz.prog 123 #[.int .u8 op] w fun r w' => r = .returned (.int .i64 2) /\ Below w.heap.size w w')) (hr : RL w P l a) (hT : TabIn w) (hTP : 3 ≠ P) (_ht0 : 3 < w.heap.size) :
  Calls Tryz.prog 113 #[.pointer (some ⟨P,0,none⟩)] w fun r w' => r = .returned (.agg #[.int .u8 op,.int .i64 ((xcQ l1 a1).1),.int .i64 (0),.slice none 0 0]) /\ RL w' P ((xcQ l1 a1).2.1) ((xcQ l1 a1).2.2) /\ Chg P w w' := by
 have hPw := hr.lt
 go_enter Tryz.func113,Tryz.ntmps113
 go_wp2_with fail
 refine (HN.out _ (hr.below ((Below.refl _ _).alloc (Nat.le_refl _) _))).mono ?_
 rintro e w1 ⟨rfl,r1,c1⟩
 have hs1 : w.heap.size < w1.heap.size := by have := c1.size; simp at this; omega
 have hXP : w1.heap.size ≠ P := by omega
 have hRP : w.heap.size ≠ P := by omega
 have xR : XS w1 w.heap.size (.int .u8 0) (.int .i64 0) (.int .i64 0) (.slice none 0 0) := by
  unfold XS
  rw [c1.block w.heap.size (by simp) hRP]
  exact xaZ _ _
 have HC1 : Hid (Chg P w w1) := (Chg.of_below ((Below.refl _ _).alloc (Nat.le_refl _) _)).trans c1
 have HR1 : Hid (RL w1 P l1 a1) := r1
 have HT1 : Hid (TabIn w1) := hT.chg HC1.out (by omega) hTP
 clear r1 c1 hr
 go_wp2_with fail
 refine (HB.out _ (HT1.out.chg (Chg.of_below (P := P) ((Below.refl _ _).alloc (Nat.le_refl _) _)) (by omega) hTP)).mono ?_
 rintro e w2 ⟨rfl,b2⟩
 have xX : XS w2 w1.heap.size (.int .u8 op) (.int .i64 0) (.int .i64 0) (.slice none 0 0) := by
  unfold XS
  rw [b2.block w1.heap.size (by simp)]
  exact xaZ _ _
 have xR2 : XS w2 w.heap.size (.int .u8 0) (.int .i64 0) (.int .i64 0) (.slice none 0 0) := by
  unfold XS at xR ⊢
  rw [b2.block w.heap.size (by simp; omega),Below.heap_alloc _ _ _ hs1]
  exact xR
 have r2 : RL w2 P l1 a1 := (HR1.out.below ((Below.refl _ _).alloc (Nat.le_refl _) _)).below b2
 have c2 : Chg P w w2 := HC1.out.trans ((Chg.of_below ((Below.refl _ _).alloc (Nat.le_refl _) _)).trans (Chg.of_below b2))
 clear b2 HR1 HC1 HT1 xR
 have hXR : w1.heap.size ≠ w.heap.size := by omega
 have hRX : w.heap.size ≠ w1.heap.size := by omega
 have hXw : w.heap.size <= w1.heap.size := by omega
 generalize w1.heap.size = X at xX hXP hXR hRX hs1 hXw
 have hPX : P ≠ X := hXP.symm
 obtain ⟨R,hR⟩ : ∃ R,w.heap.size = R := ⟨_,rfl⟩
 rw [hR] at xR2 hRP hXR hRX
 obtain ⟨x0,x1,x2,x3⟩ := xX.cell
 obtain ⟨y0,y1,y2,y3⟩ := xR2.cell
 have f0 := xR2.frozen 0
 have f1 := xR2.frozen 1
 have f2 := xR2.frozen 2
 have f3 := xR2.frozen 3
 have g1 := xX.frozen 1
 have g2 := xX.frozen 2
 have g3 := xX.frozen 3
 go_wp2_with fail
 refine (yaP P l1 a1 _ r2).mono ?_
 rintro e w3 ⟨rfl,r3,c3⟩
 have xX3 := XS.chg (xX) c3 hXP
 have xR3 := XS.chg (xR2) c3 hRP
 have d3 := (c2).trans c3
 obtain ⟨x0,x1,x2,x3⟩ := xX3.cell
 obtain ⟨y0,y1,y2,y3⟩ := xR3.cell
 have f0 := xR3.frozen 0
 have f1 := xR3.frozen 1
 have f2 := xR3.frozen 2
 have f3 := xR3.frozen 3
 have g1 := xX3.frozen 1
 have g2 := xX3.frozen 2
 have g3 := xX3.frozen 3
 have HFX : Hid _ := ((((xR3.far X 1 (.int .i64 (xcQ l1 a1).1) hRX).set0 (.int .u8 op)).set1 (.int .i64 (xcQ l1 a1).1)).set2 (.int .i64 0)).set3 (.slice none 0 0)
 have HR := kZz ((r3.far X 1 (.int .i64 (xcQ l1 a1).1) hPX))
 have HCC := kZz ((d3.far X 1 (.int .i64 (xcQ l1 a1).1) hXw))
 go_wp2
 obtain ⟨q0,q1,q2,q3⟩ := XS.cell HFX.out
 refine bodyPost_ret (v := .agg #[(.int .u8 op),(.int .i64 (xcQ l1 a1).1),(.int .i64 0),(.slice none 0 0)]) (by simp [results,Tryz.results113,go_sem,q0,q1,q2,q3]) rfl ?_
 exact ⟨rfl,((((HR.out.far R 0 _ hRP.symm).far R 1 _ hRP.symm).far R 2 _ hRP.symm).far R 3 _ hRP.symm),((((HCC.out.far R 0 _ (Nat.le_of_eq hR)).far R 1 _ (Nat.le_of_eq hR)).far R 2 _ (Nat.le_of_eq hR)).far R 3 _ (Nat.le_of_eq hR))⟩
theorem yeM (P : Nat) (l l1 : List Int) (a a1 op : Int) (w : World) (HN : Hid (∀ w,RL w P l a -> Calls Tryz.prog 122 #[.pointer (some ⟨P,0,none⟩)] w fun r w' => r = .returned (.int .u8 op) /\ RL w' P l1 a1 /\ Chg P w w')) (HB : Hid (∀ w,TabIn w -> Calls Tryz.prog 123 #[.int .u8 op] w fun r w' => r = .returned (.int .i64 3) /\ Below w.heap.size w w')) (hr : RL w P l a) (hT : TabIn w) (hTP : 3 ≠ P) (_ht0 : 3 < w.heap.size) :
  Calls Tryz.prog 113 #[.pointer (some ⟨P,0,none⟩)] w fun r w' => r = .returned (.agg #[.int .u8 op,.int .i64 ((xaT l1 a1).1),.int .i64 (0),.slice none 0 0]) /\ RL w' P ((xaT l1 a1).2.1) ((xaT l1 a1).2.2) /\ Chg P w w' := by
 have hPw := hr.lt
 go_enter Tryz.func113,Tryz.ntmps113
 go_wp2_with fail
 refine (HN.out _ (hr.below ((Below.refl _ _).alloc (Nat.le_refl _) _))).mono ?_
 rintro e w1 ⟨rfl,r1,c1⟩
 have hs1 : w.heap.size < w1.heap.size := by have := c1.size; simp at this; omega
 have hXP : w1.heap.size ≠ P := by omega
 have hRP : w.heap.size ≠ P := by omega
 have xR : XS w1 w.heap.size (.int .u8 0) (.int .i64 0) (.int .i64 0) (.slice none 0 0) := by
  unfold XS
  rw [c1.block w.heap.size (by simp) hRP]
  exact xaZ _ _
 have HC1 : Hid (Chg P w w1) := (Chg.of_below ((Below.refl _ _).alloc (Nat.le_refl _) _)).trans c1
 have HR1 : Hid (RL w1 P l1 a1) := r1
 have HT1 : Hid (TabIn w1) := hT.chg HC1.out (by omega) hTP
 clear r1 c1 hr
 go_wp2_with fail
 refine (HB.out _ (HT1.out.chg (Chg.of_below (P := P) ((Below.refl _ _).alloc (Nat.le_refl _) _)) (by omega) hTP)).mono ?_
 rintro e w2 ⟨rfl,b2⟩
 have xX : XS w2 w1.heap.size (.int .u8 op) (.int .i64 0) (.int .i64 0) (.slice none 0 0) := by
  unfold XS
  rw [b2.block w1.heap.size (by simp)]
  exact xaZ _ _
 have xR2 : XS w2 w.heap.size (.int .u8 0) (.int .i64 0) (.int .i64 0) (.slice none 0 0) := by
  unfold XS at xR ⊢
  rw [b2.block w.heap.size (by simp; omega),Below.heap_alloc _ _ _ hs1]
  exact xR
 have r2 : RL w2 P l1 a1 := (HR1.out.below ((Below.refl _ _).alloc (Nat.le_refl _) _)).below b2
 have c2 : Chg P w w2 := HC1.out.trans ((Chg.of_below ((Below.refl _ _).alloc (Nat.le_refl _) _)).trans (Chg.of_below b2))
 clear b2 HR1 HC1 HT1 xR
 have hXR : w1.heap.size ≠ w.heap.size := by omega
 have hRX : w.heap.size ≠ w1.heap.size := by omega
 have hXw : w.heap.size <= w1.heap.size := by omega
 generalize w1.heap.size = X at xX hXP hXR hRX hs1 hXw
 have hPX : P ≠ X := hXP.symm
 obtain ⟨R,hR⟩ : ∃ R,w.heap.size = R := ⟨_,rfl⟩
 rw [hR] at xR2 hRP hXR hRX
 obtain ⟨x0,x1,x2,x3⟩ := xX.cell
 obtain ⟨y0,y1,y2,y3⟩ := xR2.cell
 have f0 := xR2.frozen 0
 have f1 := xR2.frozen 1
 have f2 := xR2.frozen 2
 have f3 := xR2.frozen 3
 have g1 := xX.frozen 1
 have g2 := xX.frozen 2
 have g3 := xX.frozen 3
 go_wp2_with fail
 refine (xcE P l1 a1 _ r2).mono ?_
 rintro e w3 ⟨rfl,r3,c3⟩
 have xX3 := XS.chg (xX) c3 hXP
 have xR3 := XS.chg (xR2) c3 hRP
 have d3 := (c2).trans c3
 obtain ⟨x0,x1,x2,x3⟩ := xX3.cell
 obtain ⟨y0,y1,y2,y3⟩ := xR3.cell
 have f0 := xR3.frozen 0
 have f1 := xR3.frozen 1
 have f2 := xR3.frozen 2
 have f3 := xR3.frozen 3
 have g1 := xX3.frozen 1
 have g2 := xX3.frozen 2
 have g3 := xX3.frozen 3
 have HFX : Hid _ := ((((xR3.far X 1 (.int .i64 (xaT l1 a1).1) hRX).set0 (.int .u8 op)).set1 (.int .i64 (xaT l1 a1).1)).set2 (.int .i64 0)).set3 (.slice none 0 0)
 have HR := kZz ((r3.far X 1 (.int .i64 (xaT l1 a1).1) hPX))
 have HCC := kZz ((d3.far X 1 (.int .i64 (xaT l1 a1).1) hXw))
 go_wp2
 obtain ⟨q0,q1,q2,q3⟩ := XS.cell HFX.out
 refine bodyPost_ret (v := .agg #[(.int .u8 op),(.int .i64 (xaT l1 a1).1),(.int .i64 0),(.slice none 0 0)]) (by simp [results,Tryz.results113,go_sem,q0,q1,q2,q3]) rfl ?_
 exact ⟨rfl,((((HR.out.far R 0 _ hRP.symm).far R 1 _ hRP.symm).far R 2 _ hRP.symm).far R 3 _ hRP.symm),((((HCC.out.far R 0 _ (Nat.le_of_eq hR)).far R 1 _ (Nat.le_of_eq hR)).far R 2 _ (Nat.le_of_eq hR)).far R 3 _ (Nat.le_of_eq hR))⟩
theorem yeO (P : Nat) (l l1 : List Int) (a a1 op : Int) (w : World) (HN : Hid (∀ w,RL w P l a -> Calls Tryz.prog 122 #[.pointer (some ⟨P,0,none⟩)] w fun r w' => r = .returned (.int .u8 op) /\ RL w' P l1 a1 /\ Chg P w w')) (HB : Hid (∀ w,TabIn w -> Calls Tryz.prog 123 #[.int .u8 op] w fun r w' => r = .returned (.int .i64 5) /\ Below w.heap.size w w')) (hr : RL w P l a) (hT : TabIn w) (hTP : 3 ≠ P) (_ht0 : 3 < w.heap.size) :
  Calls Tryz.prog 113 #[.pointer (some ⟨P,0,none⟩)] w fun r w' => r = .returned (.agg #[.int .u8 op,.int .i64 ((xaT l1 a1).1),.int .i64 (0),.slice none 0 0]) /\ RL w' P ((xdZ (xaT l1 a1).2.1 (xaT l1 a1).2.2).1) ((xdZ (xaT l1 a1).2.1 (xaT l1 a1).2.2).2) /\ Chg P w w' := by
 have hPw := hr.lt
 go_enter Tryz.func113,Tryz.ntmps113
 go_wp2_with fail
 refine (HN.out _ (hr.below ((Below.refl _ _).alloc (Nat.le_refl _) _))).mono ?_
 rintro e w1 ⟨rfl,r1,c1⟩
 have hs1 : w.heap.size < w1.heap.size := by have := c1.size; simp at this; omega
 have hXP : w1.heap.size ≠ P := by omega
 have hRP : w.heap.size ≠ P := by omega
 have xR : XS w1 w.heap.size (.int .u8 0) (.int .i64 0) (.int .i64 0) (.slice none 0 0) := by
  unfold XS
  rw [c1.block w.heap.size (by simp) hRP]
  exact xaZ _ _
 have HC1 : Hid (Chg P w w1) := (Chg.of_below ((Below.refl _ _).alloc (Nat.le_refl _) _)).trans c1
 have HR1 : Hid (RL w1 P l1 a1) := r1
 have HT1 : Hid (TabIn w1) := hT.chg HC1.out (by omega) hTP
 clear r1 c1 hr
 go_wp2_with fail
 refine (HB.out _ (HT1.out.chg (Chg.of_below (P := P) ((Below.refl _ _).alloc (Nat.le_refl _) _)) (by omega) hTP)).mono ?_
 rintro e w2 ⟨rfl,b2⟩
 have xX : XS w2 w1.heap.size (.int .u8 op) (.int .i64 0) (.int .i64 0) (.slice none 0 0) := by
  unfold XS
  rw [b2.block w1.heap.size (by simp)]
  exact xaZ _ _
 have xR2 : XS w2 w.heap.size (.int .u8 0) (.int .i64 0) (.int .i64 0) (.slice none 0 0) := by
  unfold XS at xR ⊢
  rw [b2.block w.heap.size (by simp; omega),Below.heap_alloc _ _ _ hs1]
  exact xR
 have r2 : RL w2 P l1 a1 := (HR1.out.below ((Below.refl _ _).alloc (Nat.le_refl _) _)).below b2
 have c2 : Chg P w w2 := HC1.out.trans ((Chg.of_below ((Below.refl _ _).alloc (Nat.le_refl _) _)).trans (Chg.of_below b2))
 clear b2 HR1 HC1 HT1 xR
 have hXR : w1.heap.size ≠ w.heap.size := by omega
 have hRX : w.heap.size ≠ w1.heap.size := by omega
 have hXw : w.heap.size <= w1.heap.size := by omega
 generalize w1.heap.size = X at xX hXP hXR hRX hs1 hXw
 have hPX : P ≠ X := hXP.symm
 obtain ⟨R,hR⟩ : ∃ R,w.heap.size = R := ⟨_,rfl⟩
 rw [hR] at xR2 hRP hXR hRX
 obtain ⟨x0,x1,x2,x3⟩ := xX.cell
 obtain ⟨y0,y1,y2,y3⟩ := xR2.cell
 have f0 := xR2.frozen 0
 have f1 := xR2.frozen 1
 have f2 := xR2.frozen 2
 have f3 := xR2.frozen 3
 have g1 := xX.frozen 1
 have g2 := xX.frozen 2
 have g3 := xX.frozen 3
 go_wp2_with fail
 refine (xcE P l1 a1 _ r2).mono ?_
 rintro e w3 ⟨rfl,r3,c3⟩
 have xX3 := XS.chg (xX) c3 hXP
 have xR3 := XS.chg (xR2) c3 hRP
 have d3 := (c2).trans c3
 obtain ⟨x0,x1,x2,x3⟩ := xX3.cell
 obtain ⟨y0,y1,y2,y3⟩ := xR3.cell
 have f0 := xR3.frozen 0
 have f1 := xR3.frozen 1
 have f2 := xR3.frozen 2
 have f3 := xR3.frozen 3
 have g1 := xX3.frozen 1
 have g2 := xX3.frozen 2
 have g3 := xX3.frozen 3
 go_wp2_with fail
 refine (xqG P (xaT l1 a1).2.1 (xaT l1 a1).2.2 _ (r3.far X 1 (.int .i64 (xaT l1 a1).1) hPX)).mono ?_
 rintro e w4 ⟨rfl,r4,c4⟩
 have xX4 := XS.chg ((xX3.set1 (.int .i64 (xaT l1 a1).1))) c4 hXP
 have xR4 := XS.chg ((xR3.far X 1 (.int .i64 (xaT l1 a1).1) hRX)) c4 hRP
 have d4 := ((d3.far X 1 (.int .i64 (xaT l1 a1).1) hXw)).trans c4
 obtain ⟨x0,x1,x2,x3⟩ := xX4.cell
 obtain ⟨y0,y1,y2,y3⟩ := xR4.cell
 have f0 := xR4.frozen 0
 have f1 := xR4.frozen 1
 have f2 := xR4.frozen 2
 have f3 := xR4.frozen 3
 have g1 := xX4.frozen 1
 have g2 := xX4.frozen 2
 have g3 := xX4.frozen 3
 have HFX : Hid _ := (((xR4.set0 (.int .u8 op)).set1 (.int .i64 (xaT l1 a1).1)).set2 (.int .i64 0)).set3 (.slice none 0 0)
 have HR := kZz r4
 have HCC := kZz d4
 go_wp2
 obtain ⟨q0,q1,q2,q3⟩ := XS.cell HFX.out
 refine bodyPost_ret (v := .agg #[(.int .u8 op),(.int .i64 (xaT l1 a1).1),(.int .i64 0),(.slice none 0 0)]) (by simp [results,Tryz.results113,go_sem,q0,q1,q2,q3]) rfl ?_
 exact ⟨rfl,((((HR.out.far R 0 _ hRP.symm).far R 1 _ hRP.symm).far R 2 _ hRP.symm).far R 3 _ hRP.symm),((((HCC.out.far R 0 _ (Nat.le_of_eq hR)).far R 1 _ (Nat.le_of_eq hR)).far R 2 _ (Nat.le_of_eq hR)).far R 3 _ (Nat.le_of_eq hR))⟩
theorem yeP (P : Nat) (l l1 : List Int) (a a1 op : Int) (w : World) (HN : Hid (∀ w,RL w P l a -> Calls Tryz.prog 122 #[.pointer (some ⟨P,0,none⟩)] w fun r w' => r = .returned (.int .u8 op) /\ RL w' P l1 a1 /\ Chg P w w')) (HB : Hid (∀ w,TabIn w -> Calls Tryz.prog 123 #[.int .u8 op] w fun r w' => r = .returned (.int .i64 6) /\ Below w.heap.size w w')) (hr : RL w P l a) (hT : TabIn w) (hTP : 3 ≠ P) (_ht0 : 3 < w.heap.size) :
  Calls Tryz.prog 113 #[.pointer (some ⟨P,0,none⟩)] w fun r w' => r = .returned (.agg #[.int .u8 op,.int .i64 ((xaT l1 a1).1),.int .i64 ((xaT (xaT l1 a1).2.1 (xaT l1 a1).2.2).1),.slice none 0 0]) /\ RL w' P ((xaT (xaT l1 a1).2.1 (xaT l1 a1).2.2).2.1) ((xaT (xaT l1 a1).2.1 (xaT l1 a1).2.2).2.2) /\ Chg P w w' := by
 have hPw := hr.lt
 go_enter Tryz.func113,Tryz.ntmps113
 go_wp2_with fail
 refine (HN.out _ (hr.below ((Below.refl _ _).alloc (Nat.le_refl _) _))).mono ?_
 rintro e w1 ⟨rfl,r1,c1⟩
 have hs1 : w.heap.size < w1.heap.size := by have := c1.size; simp at this; omega
 have hXP : w1.heap.size ≠ P := by omega
 have hRP : w.heap.size ≠ P := by omega
 have xR : XS w1 w.heap.size (.int .u8 0) (.int .i64 0) (.int .i64 0) (.slice none 0 0) := by
  unfold XS
  rw [c1.block w.heap.size (by simp) hRP]
  exact xaZ _ _
 have HC1 : Hid (Chg P w w1) := (Chg.of_below ((Below.refl _ _).alloc (Nat.le_refl _) _)).trans c1
 have HR1 : Hid (RL w1 P l1 a1) := r1
 have HT1 : Hid (TabIn w1) := hT.chg HC1.out (by omega) hTP
 clear r1 c1 hr
 go_wp2_with fail
 refine (HB.out _ (HT1.out.chg (Chg.of_below (P := P) ((Below.refl _ _).alloc (Nat.le_refl _) _)) (by omega) hTP)).mono ?_
 rintro e w2 ⟨rfl,b2⟩
 have xX : XS w2 w1.heap.size (.int .u8 op) (.int .i64 0) (.int .i64 0) (.slice none 0 0) := by
  unfold XS
  rw [b2.block w1.heap.size (by simp)]
  exact xaZ _ _
 have xR2 : XS w2 w.heap.size (.int .u8 0) (.int .i64 0) (.int .i64 0) (.slice none 0 0) := by
  unfold XS at xR ⊢
  rw [b2.block w.heap.size (by simp; omega),Below.heap_alloc _ _ _ hs1]
  exact xR
 have r2 : RL w2 P l1 a1 := (HR1.out.below ((Below.refl _ _).alloc (Nat.le_refl _) _)).below b2
 have c2 : Chg P w w2 := HC1.out.trans ((Chg.of_below ((Below.refl _ _).alloc (Nat.le_refl _) _)).trans (Chg.of_below b2))
 clear b2 HR1 HC1 HT1 xR
 have hXR : w1.heap.size ≠ w.heap.size := by omega
 have hRX : w.heap.size ≠ w1.heap.size := by omega
 have hXw : w.heap.size <= w1.heap.size := by omega
 generalize w1.heap.size = X at xX hXP hXR hRX hs1 hXw
 have hPX : P ≠ X := hXP.symm
 obtain ⟨R,hR⟩ : ∃ R,w.heap.size = R := ⟨_,rfl⟩
 rw [hR] at xR2 hRP hXR hRX
 obtain ⟨x0,x1,x2,x3⟩ := xX.cell
 obtain ⟨y0,y1,y2,y3⟩ := xR2.cell
 have f0 := xR2.frozen 0
 have f1 := xR2.frozen 1
 have f2 := xR2.frozen 2
 have f3 := xR2.frozen 3
 have g1 := xX.frozen 1
 have g2 := xX.frozen 2
 have g3 := xX.frozen 3
 go_wp2_with fail
 refine (xcE P l1 a1 _ r2).mono ?_
 rintro e w3 ⟨rfl,r3,c3⟩
 have xX3 := XS.chg (xX) c3 hXP
 have xR3 := XS.chg (xR2) c3 hRP
 have d3 := (c2).trans c3
 obtain ⟨x0,x1,x2,x3⟩ := xX3.cell
 obtain ⟨y0,y1,y2,y3⟩ := xR3.cell
 have f0 := xR3.frozen 0
 have f1 := xR3.frozen 1
 have f2 := xR3.frozen 2
 have f3 := xR3.frozen 3
 have g1 := xX3.frozen 1
 have g2 := xX3.frozen 2
 have g3 := xX3.frozen 3
 go_wp2_with fail
 refine (xcE P (xaT l1 a1).2.1 (xaT l1 a1).2.2 _ (r3.far X 1 (.int .i64 (xaT l1 a1).1) hPX)).mono ?_
 rintro e w4 ⟨rfl,r4,c4⟩
 have xX4 := XS.chg ((xX3.set1 (.int .i64 (xaT l1 a1).1))) c4 hXP
 have xR4 := XS.chg ((xR3.far X 1 (.int .i64 (xaT l1 a1).1) hRX)) c4 hRP
 have d4 := ((d3.far X 1 (.int .i64 (xaT l1 a1).1) hXw)).trans c4
 obtain ⟨x0,x1,x2,x3⟩ := xX4.cell
 obtain ⟨y0,y1,y2,y3⟩ := xR4.cell
 have f0 := xR4.frozen 0
 have f1 := xR4.frozen 1
 have f2 := xR4.frozen 2
 have f3 := xR4.frozen 3
 have g1 := xX4.frozen 1
 have g2 := xX4.frozen 2
 have g3 := xX4.frozen 3
 have HFX : Hid _ := ((((xR4.far X 2 (.int .i64 (xaT (xaT l1 a1).2.1 (xaT l1 a1).2.2).1) hRX).set0 (.int .u8 op)).set1 (.int .i64 (xaT l1 a1).1)).set2 (.int .i64 (xaT (xaT l1 a1).2.1 (xaT l1 a1).2.2).1)).set3 (.slice none 0 0)
 have HR := kZz ((r4.far X 2 (.int .i64 (xaT (xaT l1 a1).2.1 (xaT l1 a1).2.2).1) hPX))
 have HCC := kZz ((d4.far X 2 (.int .i64 (xaT (xaT l1 a1).2.1 (xaT l1 a1).2.2).1) hXw))
 go_wp2
 obtain ⟨q0,q1,q2,q3⟩ := XS.cell HFX.out
 refine bodyPost_ret (v := .agg #[(.int .u8 op),(.int .i64 (xaT l1 a1).1),(.int .i64 (xaT (xaT l1 a1).2.1 (xaT l1 a1).2.2).1),(.slice none 0 0)]) (by simp [results,Tryz.results113,go_sem,q0,q1,q2,q3]) rfl ?_
 exact ⟨rfl,((((HR.out.far R 0 _ hRP.symm).far R 1 _ hRP.symm).far R 2 _ hRP.symm).far R 3 _ hRP.symm),((((HCC.out.far R 0 _ (Nat.le_of_eq hR)).far R 1 _ (Nat.le_of_eq hR)).far R 2 _ (Nat.le_of_eq hR)).far R 3 _ (Nat.le_of_eq hR))⟩
theorem yeQ (P : Nat) (l l1 : List Int) (a a1 op : Int) (w : World) (HN : Hid (∀ w,RL w P l a -> Calls Tryz.prog 122 #[.pointer (some ⟨P,0,none⟩)] w fun r w' => r = .returned (.int .u8 op) /\ RL w' P l1 a1 /\ Chg P w w')) (HB : Hid (∀ w,TabIn w -> Calls Tryz.prog 123 #[.int .u8 op] w fun r w' => r = .returned (.int .i64 7) /\ Below w.heap.size w w')) (hr : RL w P l a) (hT : TabIn w) (hTP : 3 ≠ P) (_ht0 : 3 < w.heap.size) :
  Calls Tryz.prog 113 #[.pointer (some ⟨P,0,none⟩)] w fun r w' => r = .returned (.agg #[.int .u8 op,.int .i64 (0),.int .i64 (0),.slice none 0 0]) /\ RL w' P ((xdZ l1 a1).1) ((xdZ l1 a1).2) /\ Chg P w w' := by
 have hPw := hr.lt
 go_enter Tryz.func113,Tryz.ntmps113
 go_wp2_with fail
 refine (HN.out _ (hr.below ((Below.refl _ _).alloc (Nat.le_refl _) _))).mono ?_
 rintro e w1 ⟨rfl,r1,c1⟩
 have hs1 : w.heap.size < w1.heap.size := by have := c1.size; simp at this; omega
 have hXP : w1.heap.size ≠ P := by omega
 have hRP : w.heap.size ≠ P := by omega
 have xR : XS w1 w.heap.size (.int .u8 0) (.int .i64 0) (.int .i64 0) (.slice none 0 0) := by
  unfold XS
  rw [c1.block w.heap.size (by simp) hRP]
  exact xaZ _ _
 have HC1 : Hid (Chg P w w1) := (Chg.of_below ((Below.refl _ _).alloc (Nat.le_refl _) _)).trans c1
 have HR1 : Hid (RL w1 P l1 a1) := r1
 have HT1 : Hid (TabIn w1) := hT.chg HC1.out (by omega) hTP
 clear r1 c1 hr
 go_wp2_with fail
 refine (HB.out _ (HT1.out.chg (Chg.of_below (P := P) ((Below.refl _ _).alloc (Nat.le_refl _) _)) (by omega) hTP)).mono ?_
 rintro e w2 ⟨rfl,b2⟩
 have xX : XS w2 w1.heap.size (.int .u8 op) (.int .i64 0) (.int .i64 0) (.slice none 0 0) := by
  unfold XS
  rw [b2.block w1.heap.size (by simp)]
  exact xaZ _ _
 have xR2 : XS w2 w.heap.size (.int .u8 0) (.int .i64 0) (.int .i64 0) (.slice none 0 0) := by
  unfold XS at xR ⊢
  rw [b2.block w.heap.size (by simp; omega),Below.heap_alloc _ _ _ hs1]
  exact xR
 have r2 : RL w2 P l1 a1 := (HR1.out.below ((Below.refl _ _).alloc (Nat.le_refl _) _)).below b2
 have c2 : Chg P w w2 := HC1.out.trans ((Chg.of_below ((Below.refl _ _).alloc (Nat.le_refl _) _)).trans (Chg.of_below b2))
 clear b2 HR1 HC1 HT1 xR
 have hXR : w1.heap.size ≠ w.heap.size := by omega
 have hRX : w.heap.size ≠ w1.heap.size := by omega
 have hXw : w.heap.size <= w1.heap.size := by omega
 generalize w1.heap.size = X at xX hXP hXR hRX hs1 hXw
 have hPX : P ≠ X := hXP.symm
 obtain ⟨R,hR⟩ : ∃ R,w.heap.size = R := ⟨_,rfl⟩
 rw [hR] at xR2 hRP hXR hRX
 obtain ⟨x0,x1,x2,x3⟩ := xX.cell
 obtain ⟨y0,y1,y2,y3⟩ := xR2.cell
 have f0 := xR2.frozen 0
 have f1 := xR2.frozen 1
 have f2 := xR2.frozen 2
 have f3 := xR2.frozen 3
 have g1 := xX.frozen 1
 have g2 := xX.frozen 2
 have g3 := xX.frozen 3
 go_wp2_with fail
 refine (xqG P l1 a1 _ r2).mono ?_
 rintro e w3 ⟨rfl,r3,c3⟩
 have xX3 := XS.chg (xX) c3 hXP
 have xR3 := XS.chg (xR2) c3 hRP
 have d3 := (c2).trans c3
 obtain ⟨x0,x1,x2,x3⟩ := xX3.cell
 obtain ⟨y0,y1,y2,y3⟩ := xR3.cell
 have f0 := xR3.frozen 0
 have f1 := xR3.frozen 1
 have f2 := xR3.frozen 2
 have f3 := xR3.frozen 3
 have g1 := xX3.frozen 1
 have g2 := xX3.frozen 2
 have g3 := xX3.frozen 3
 have HFX : Hid _ := (((xR3.set0 (.int .u8 op)).set1 (.int .i64 0)).set2 (.int .i64 0)).set3 (.slice none 0 0)
 have HR := kZz r3
 have HCC := kZz d3
 go_wp2
 obtain ⟨q0,q1,q2,q3⟩ := XS.cell HFX.out
 refine bodyPost_ret (v := .agg #[(.int .u8 op),(.int .i64 0),(.int .i64 0),(.slice none 0 0)]) (by simp [results,Tryz.results113,go_sem,q0,q1,q2,q3]) rfl ?_
 exact ⟨rfl,((((HR.out.far R 0 _ hRP.symm).far R 1 _ hRP.symm).far R 2 _ hRP.symm).far R 3 _ hRP.symm),((((HCC.out.far R 0 _ (Nat.le_of_eq hR)).far R 1 _ (Nat.le_of_eq hR)).far R 2 _ (Nat.le_of_eq hR)).far R 3 _ (Nat.le_of_eq hR))⟩
theorem yeR (P : Nat) (l l1 : List Int) (a a1 op : Int) (w : World) (HN : Hid (∀ w,RL w P l a -> Calls Tryz.prog 122 #[.pointer (some ⟨P,0,none⟩)] w fun r w' => r = .returned (.int .u8 op) /\ RL w' P l1 a1 /\ Chg P w w')) (HB : Hid (∀ w,TabIn w -> Calls Tryz.prog 123 #[.int .u8 op] w fun r w' => r = .returned (.int .i64 8) /\ Below w.heap.size w w')) (hr : RL w P l a) (hT : TabIn w) (hTP : 3 ≠ P) (_ht0 : 3 < w.heap.size) :
  Calls Tryz.prog 113 #[.pointer (some ⟨P,0,none⟩)] w fun r w' => r = .returned (.agg #[.int .u8 op,.int .i64 ((xcR 32 l1 a1).1),.int .i64 (0),.slice none 0 0]) /\ RL w' P ((xcR 32 l1 a1).2.1) ((xcR 32 l1 a1).2.2) /\ Chg P w w' := by
 have hPw := hr.lt
 go_enter Tryz.func113,Tryz.ntmps113
 go_wp2_with fail
 refine (HN.out _ (hr.below ((Below.refl _ _).alloc (Nat.le_refl _) _))).mono ?_
 rintro e w1 ⟨rfl,r1,c1⟩
 have hs1 : w.heap.size < w1.heap.size := by have := c1.size; simp at this; omega
 have hXP : w1.heap.size ≠ P := by omega
 have hRP : w.heap.size ≠ P := by omega
 have xR : XS w1 w.heap.size (.int .u8 0) (.int .i64 0) (.int .i64 0) (.slice none 0 0) := by
  unfold XS
  rw [c1.block w.heap.size (by simp) hRP]
  exact xaZ _ _
 have HC1 : Hid (Chg P w w1) := (Chg.of_below ((Below.refl _ _).alloc (Nat.le_refl _) _)).trans c1
 have HR1 : Hid (RL w1 P l1 a1) := r1
 have HT1 : Hid (TabIn w1) := hT.chg HC1.out (by omega) hTP
 clear r1 c1 hr
 go_wp2_with fail
 refine (HB.out _ (HT1.out.chg (Chg.of_below (P := P) ((Below.refl _ _).alloc (Nat.le_refl _) _)) (by omega) hTP)).mono ?_
 rintro e w2 ⟨rfl,b2⟩
 have xX : XS w2 w1.heap.size (.int .u8 op) (.int .i64 0) (.int .i64 0) (.slice none 0 0) := by
  unfold XS
  rw [b2.block w1.heap.size (by simp)]
  exact xaZ _ _
 have xR2 : XS w2 w.heap.size (.int .u8 0) (.int .i64 0) (.int .i64 0) (.slice none 0 0) := by
  unfold XS at xR ⊢
  rw [b2.block w.heap.size (by simp; omega),Below.heap_alloc _ _ _ hs1]
  exact xR
 have r2 : RL w2 P l1 a1 := (HR1.out.below ((Below.refl _ _).alloc (Nat.le_refl _) _)).below b2
 have c2 : Chg P w w2 := HC1.out.trans ((Chg.of_below ((Below.refl _ _).alloc (Nat.le_refl _) _)).trans (Chg.of_below b2))
 clear b2 HR1 HC1 HT1 xR
 have hXR : w1.heap.size ≠ w.heap.size := by omega
 have hRX : w.heap.size ≠ w1.heap.size := by omega
 have hXw : w.heap.size <= w1.heap.size := by omega
 generalize w1.heap.size = X at xX hXP hXR hRX hs1 hXw
 have hPX : P ≠ X := hXP.symm
 obtain ⟨R,hR⟩ : ∃ R,w.heap.size = R := ⟨_,rfl⟩
 rw [hR] at xR2 hRP hXR hRX
 obtain ⟨x0,x1,x2,x3⟩ := xX.cell
 obtain ⟨y0,y1,y2,y3⟩ := xR2.cell
 have f0 := xR2.frozen 0
 have f1 := xR2.frozen 1
 have f2 := xR2.frozen 2
 have f3 := xR2.frozen 3
 have g1 := xX.frozen 1
 have g2 := xX.frozen 2
 have g3 := xX.frozen 3
 go_wp2_with fail
 refine (xvV P 32 (Or.inl rfl) l1 a1 _ r2).mono ?_
 rintro e w3 ⟨rfl,r3,c3⟩
 have xX3 := XS.chg (xX) c3 hXP
 have xR3 := XS.chg (xR2) c3 hRP
 have d3 := (c2).trans c3
 obtain ⟨x0,x1,x2,x3⟩ := xX3.cell
 obtain ⟨y0,y1,y2,y3⟩ := xR3.cell
 have f0 := xR3.frozen 0
 have f1 := xR3.frozen 1
 have f2 := xR3.frozen 2
 have f3 := xR3.frozen 3
 have g1 := xX3.frozen 1
 have g2 := xX3.frozen 2
 have g3 := xX3.frozen 3
 have HFX : Hid _ := ((((xR3.far X 1 (.int .i64 (xcR 32 l1 a1).1) hRX).set0 (.int .u8 op)).set1 (.int .i64 (xcR 32 l1 a1).1)).set2 (.int .i64 0)).set3 (.slice none 0 0)
 have HR := kZz ((r3.far X 1 (.int .i64 (xcR 32 l1 a1).1) hPX))
 have HCC := kZz ((d3.far X 1 (.int .i64 (xcR 32 l1 a1).1) hXw))
 go_wp2
 obtain ⟨q0,q1,q2,q3⟩ := XS.cell HFX.out
 refine bodyPost_ret (v := .agg #[(.int .u8 op),(.int .i64 (xcR 32 l1 a1).1),(.int .i64 0),(.slice none 0 0)]) (by simp [results,Tryz.results113,go_sem,q0,q1,q2,q3]) rfl ?_
 exact ⟨rfl,((((HR.out.far R 0 _ hRP.symm).far R 1 _ hRP.symm).far R 2 _ hRP.symm).far R 3 _ hRP.symm),((((HCC.out.far R 0 _ (Nat.le_of_eq hR)).far R 1 _ (Nat.le_of_eq hR)).far R 2 _ (Nat.le_of_eq hR)).far R 3 _ (Nat.le_of_eq hR))⟩
theorem yeS (P : Nat) (l l1 : List Int) (a a1 op : Int) (w : World) (HN : Hid (∀ w,RL w P l a -> Calls Tryz.prog 122 #[.pointer (some ⟨P,0,none⟩)] w fun r w' => r = .returned (.int .u8 op) /\ RL w' P l1 a1 /\ Chg P w w')) (HB : Hid (∀ w,TabIn w -> Calls Tryz.prog 123 #[.int .u8 op] w fun r w' => r = .returned (.int .i64 9) /\ Below w.heap.size w w')) (hr : RL w P l a) (hT : TabIn w) (hTP : 3 ≠ P) (_ht0 : 3 < w.heap.size) :
  Calls Tryz.prog 113 #[.pointer (some ⟨P,0,none⟩)] w fun r w' => r = .returned (.agg #[.int .u8 op,.int .i64 ((xcR 64 l1 a1).1),.int .i64 (0),.slice none 0 0]) /\ RL w' P ((xcR 64 l1 a1).2.1) ((xcR 64 l1 a1).2.2) /\ Chg P w w' := by
 have hPw := hr.lt
 go_enter Tryz.func113,Tryz.ntmps113
 go_wp2_with fail
 refine (HN.out _ (hr.below ((Below.refl _ _).alloc (Nat.le_refl _) _))).mono ?_
 rintro e w1 ⟨rfl,r1,c1⟩
 have hs1 : w.heap.size < w1.heap.size := by have := c1.size; simp at this; omega
 have hXP : w1.heap.size ≠ P := by omega
 have hRP : w.heap.size ≠ P := by omega
 have xR : XS w1 w.heap.size (.int .u8 0) (.int .i64 0) (.int .i64 0) (.slice none 0 0) := by
  unfold XS
  rw [c1.block w.heap.size (by simp) hRP]
  exact xaZ _ _
 have HC1 : Hid (Chg P w w1) := (Chg.of_below ((Below.refl _ _).alloc (Nat.le_refl _) _)).trans c1
 have HR1 : Hid (RL w1 P l1 a1) := r1
 have HT1 : Hid (TabIn w1) := hT.chg HC1.out (by omega) hTP
 clear r1 c1 hr
 go_wp2_with fail
 refine (HB.out _ (HT1.out.chg (Chg.of_below (P := P) ((Below.refl _ _).alloc (Nat.le_refl _) _)) (by omega) hTP)).mono ?_
 rintro e w2 ⟨rfl,b2⟩
 have xX : XS w2 w1.heap.size (.int .u8 op) (.int .i64 0) (.int .i64 0) (.slice none 0 0) := by
  unfold XS
  rw [b2.block w1.heap.size (by simp)]
  exact xaZ _ _
 have xR2 : XS w2 w.heap.size (.int .u8 0) (.int .i64 0) (.int .i64 0) (.slice none 0 0) := by
  unfold XS at xR ⊢
  rw [b2.block w.heap.size (by simp; omega),Below.heap_alloc _ _ _ hs1]
  exact xR
 have r2 : RL w2 P l1 a1 := (HR1.out.below ((Below.refl _ _).alloc (Nat.le_refl _) _)).below b2
 have c2 : Chg P w w2 := HC1.out.trans ((Chg.of_below ((Below.refl _ _).alloc (Nat.le_refl _) _)).trans (Chg.of_below b2))
 clear b2 HR1 HC1 HT1 xR
 have hXR : w1.heap.size ≠ w.heap.size := by omega
 have hRX : w.heap.size ≠ w1.heap.size := by omega
 have hXw : w.heap.size <= w1.heap.size := by omega
 generalize w1.heap.size = X at xX hXP hXR hRX hs1 hXw
 have hPX : P ≠ X := hXP.symm
 obtain ⟨R,hR⟩ : ∃ R,w.heap.size = R := ⟨_,rfl⟩
 rw [hR] at xR2 hRP hXR hRX
 obtain ⟨x0,x1,x2,x3⟩ := xX.cell
 obtain ⟨y0,y1,y2,y3⟩ := xR2.cell
 have f0 := xR2.frozen 0
 have f1 := xR2.frozen 1
 have f2 := xR2.frozen 2
 have f3 := xR2.frozen 3
 have g1 := xX.frozen 1
 have g2 := xX.frozen 2
 have g3 := xX.frozen 3
 go_wp2_with fail
 refine (xvV P 64 (Or.inr rfl) l1 a1 _ r2).mono ?_
 rintro e w3 ⟨rfl,r3,c3⟩
 have xX3 := XS.chg (xX) c3 hXP
 have xR3 := XS.chg (xR2) c3 hRP
 have d3 := (c2).trans c3
 obtain ⟨x0,x1,x2,x3⟩ := xX3.cell
 obtain ⟨y0,y1,y2,y3⟩ := xR3.cell
 have f0 := xR3.frozen 0
 have f1 := xR3.frozen 1
 have f2 := xR3.frozen 2
 have f3 := xR3.frozen 3
 have g1 := xX3.frozen 1
 have g2 := xX3.frozen 2
 have g3 := xX3.frozen 3
 have HFX : Hid _ := ((((xR3.far X 1 (.int .i64 (xcR 64 l1 a1).1) hRX).set0 (.int .u8 op)).set1 (.int .i64 (xcR 64 l1 a1).1)).set2 (.int .i64 0)).set3 (.slice none 0 0)
 have HR := kZz ((r3.far X 1 (.int .i64 (xcR 64 l1 a1).1) hPX))
 have HCC := kZz ((d3.far X 1 (.int .i64 (xcR 64 l1 a1).1) hXw))
 go_wp2
 obtain ⟨q0,q1,q2,q3⟩ := XS.cell HFX.out
 refine bodyPost_ret (v := .agg #[(.int .u8 op),(.int .i64 (xcR 64 l1 a1).1),(.int .i64 0),(.slice none 0 0)]) (by simp [results,Tryz.results113,go_sem,q0,q1,q2,q3]) rfl ?_
 exact ⟨rfl,((((HR.out.far R 0 _ hRP.symm).far R 1 _ hRP.symm).far R 2 _ hRP.symm).far R 3 _ hRP.symm),((((HCC.out.far R 0 _ (Nat.le_of_eq hR)).far R 1 _ (Nat.le_of_eq hR)).far R 2 _ (Nat.le_of_eq hR)).far R 3 _ (Nat.le_of_eq hR))⟩
theorem yeN (P : Nat) (l l1 : List Int) (a a1 op : Int) (w : World) (HN : Hid (∀ w,RL w P l a -> Calls Tryz.prog 122 #[.pointer (some ⟨P,0,none⟩)] w fun r w' => r = .returned (.int .u8 op) /\ RL w' P l1 a1 /\ Chg P w w')) (HB : Hid (∀ w,TabIn w -> Calls Tryz.prog 123 #[.int .u8 op] w fun r w' => r = .returned (.int .i64 4) /\ Below w.heap.size w w')) (hr : RL w P l a) (hT : TabIn w) (hTP : 3 ≠ P) (_ht0 : 3 < w.heap.size) :
  Calls Tryz.prog 113 #[.pointer (some ⟨P,0,none⟩)] w fun r w' => ∃ v,r = .returned (.agg #[.int .u8 op,.int .i64 ((xaT (xaP l1 a1).2.1 (xaP l1 a1).2.2).1),.int .i64 (0),v]) /\ RL w' P ((xaT (xaP l1 a1).2.1 (xaP l1 a1).2.2).2.1) ((xaT (xaP l1 a1).2.1 (xaP l1 a1).2.2).2.2) /\ Chg P w w' /\ IsI w' w.heap.size v ((xaP l1 a1).1) := by
 have hPw := hr.lt
 go_enter Tryz.func113,Tryz.ntmps113
 go_wp2_with fail
 refine (HN.out _ (hr.below ((Below.refl _ _).alloc (Nat.le_refl _) _))).mono ?_
 rintro e w1 ⟨rfl,r1,c1⟩
 have hs1 : w.heap.size < w1.heap.size := by have := c1.size; simp at this; omega
 have hXP : w1.heap.size ≠ P := by omega
 have hRP : w.heap.size ≠ P := by omega
 have xR : XS w1 w.heap.size (.int .u8 0) (.int .i64 0) (.int .i64 0) (.slice none 0 0) := by
  unfold XS
  rw [c1.block w.heap.size (by simp) hRP]
  exact xaZ _ _
 have HC1 : Hid (Chg P w w1) := (Chg.of_below ((Below.refl _ _).alloc (Nat.le_refl _) _)).trans c1
 have HR1 : Hid (RL w1 P l1 a1) := r1
 have HT1 : Hid (TabIn w1) := hT.chg HC1.out (by omega) hTP
 clear r1 c1 hr
 go_wp2_with fail
 refine (HB.out _ (HT1.out.chg (Chg.of_below (P := P) ((Below.refl _ _).alloc (Nat.le_refl _) _)) (by omega) hTP)).mono ?_
 rintro e w2 ⟨rfl,b2⟩
 have xX : XS w2 w1.heap.size (.int .u8 op) (.int .i64 0) (.int .i64 0) (.slice none 0 0) := by
  unfold XS
  rw [b2.block w1.heap.size (by simp)]
  exact xaZ _ _
 have xR2 : XS w2 w.heap.size (.int .u8 0) (.int .i64 0) (.int .i64 0) (.slice none 0 0) := by
  unfold XS at xR ⊢
  rw [b2.block w.heap.size (by simp; omega),Below.heap_alloc _ _ _ hs1]
  exact xR
 have r2 : RL w2 P l1 a1 := (HR1.out.below ((Below.refl _ _).alloc (Nat.le_refl _) _)).below b2
 have c2 : Chg P w w2 := HC1.out.trans ((Chg.of_below ((Below.refl _ _).alloc (Nat.le_refl _) _)).trans (Chg.of_below b2))
 clear b2 HR1 HC1 HT1 xR
 have hXR : w1.heap.size ≠ w.heap.size := by omega
 have hRX : w.heap.size ≠ w1.heap.size := by omega
 have hXw : w.heap.size <= w1.heap.size := by omega
 generalize w1.heap.size = X at xX hXP hXR hRX hs1 hXw
 have hPX : P ≠ X := hXP.symm
 obtain ⟨R,hR⟩ : ∃ R,w.heap.size = R := ⟨_,rfl⟩
 rw [hR] at xR2 hRP hXR hRX
 obtain ⟨x0,x1,x2,x3⟩ := xX.cell
 obtain ⟨y0,y1,y2,y3⟩ := xR2.cell
 have f0 := xR2.frozen 0
 have f1 := xR2.frozen 1
 have f2 := xR2.frozen 2
 have f3 := xR2.frozen 3
 have g1 := xX.frozen 1
 have g2 := xX.frozen 2
 have g3 := xX.frozen 3
 have hx2 := xX.lt
 have hr2 := xR2.lt
 have hp2 := r2.lt
 have hb2 : w.heap.size <= w2.heap.size := c2.size
 go_wp2_with fail
 refine (xqX P l1 a1 _ r2).mono ?_
 rintro e w3 ⟨v,rfl,i3,r3,c3⟩
 rcases i3 with ⟨rfl,hx⟩ | ⟨g,rfl,ho⟩
 ·skip
  have xX3 := XS.chg xX c3 hXP
  have xR3 := XS.chg xR2 c3 hRP
  have d3 := c2.trans c3
  obtain ⟨x0,x1,x2,x3⟩ := xX3.cell
  obtain ⟨y0,y1,y2,y3⟩ := xR3.cell
  have f0 := xR3.frozen 0
  have f1 := xR3.frozen 1
  have f2 := xR3.frozen 2
  have f3 := xR3.frozen 3
  have g1 := xX3.frozen 1
  have g2 := xX3.frozen 2
  have g3 := xX3.frozen 3
  go_wp2_with fail
  refine (xcE P (xaP l1 a1).2.1 (xaP l1 a1).2.2 _ (r3.far X 3 (.slice none 0 0) hPX)).mono ?_
  rintro e w4 ⟨rfl,r4,c4⟩
  have xX4 := XS.chg (xX3.set3 (.slice none 0 0)) c4 hXP
  have xR4 := XS.chg (xR3.far X 3 (.slice none 0 0) hRX) c4 hRP
  have d4 := (d3.far X 3 (.slice none 0 0) hXw).trans c4
  obtain ⟨x0,x1,x2,x3⟩ := xX4.cell
  obtain ⟨y0,y1,y2,y3⟩ := xR4.cell
  have f0 := xR4.frozen 0
  have f1 := xR4.frozen 1
  have f2 := xR4.frozen 2
  have f3 := xR4.frozen 3
  have g1 := xX4.frozen 1
  have g2 := xX4.frozen 2
  have g3 := xX4.frozen 3
  have HFX : Hid _ := ((((xR4.far X 1 (.int .i64 (xaT (xaP l1 a1).2.1 (xaP l1 a1).2.2).1) hRX).set0 (.int .u8 op)).set1 (.int .i64 (xaT (xaP l1 a1).2.1 (xaP l1 a1).2.2).1)).set2 (.int .i64 0)).set3 (.slice none 0 0)
  have HR := kZz ((r4.far X 1 (.int .i64 (xaT (xaP l1 a1).2.1 (xaP l1 a1).2.2).1) hPX))
  have HCC := kZz ((d4.far X 1 (.int .i64 (xaT (xaP l1 a1).2.1 (xaP l1 a1).2.2).1) hXw))
  go_wp2
  obtain ⟨q0,q1,q2,q3⟩ := XS.cell HFX.out
  refine bodyPost_ret (v := .agg #[(.int .u8 op),(.int .i64 (xaT (xaP l1 a1).2.1 (xaP l1 a1).2.2).1),(.int .i64 0),(.slice none 0 0)]) (by simp [results,Tryz.results113,go_sem,q0,q1,q2,q3]) rfl ?_
  exact ⟨_,rfl,((((HR.out.far R 0 _ hRP.symm).far R 1 _ hRP.symm).far R 2 _ hRP.symm).far R 3 _ hRP.symm),((((HCC.out.far R 0 _ (Nat.le_of_eq hR)).far R 1 _ (Nat.le_of_eq hR)).far R 2 _ (Nat.le_of_eq hR)).far R 3 _ (Nat.le_of_eq hR)),Or.inl ⟨rfl,hx⟩⟩
 ·have hg := (ho.lt g rfl).1
  have xX3 := XS.chg xX c3 hXP
  have xR3 := XS.chg xR2 c3 hRP
  have d3 := c2.trans c3
  obtain ⟨x0,x1,x2,x3⟩ := xX3.cell
  obtain ⟨y0,y1,y2,y3⟩ := xR3.cell
  have f0 := xR3.frozen 0
  have f1 := xR3.frozen 1
  have f2 := xR3.frozen 2
  have f3 := xR3.frozen 3
  have g1 := xX3.frozen 1
  have g2 := xX3.frozen 2
  have g3 := xX3.frozen 3
  go_wp2_with fail
  refine (xcE P (xaP l1 a1).2.1 (xaP l1 a1).2.2 _ (r3.far X 3 (.slice (some ⟨g,0,none⟩) (xaP l1 a1).1.length (xaP l1 a1).1.length) hPX)).mono ?_
  rintro e w4 ⟨rfl,r4,c4⟩
  have xX4 := XS.chg (xX3.set3 (.slice (some ⟨g,0,none⟩) (xaP l1 a1).1.length (xaP l1 a1).1.length)) c4 hXP
  have xR4 := XS.chg (xR3.far X 3 (.slice (some ⟨g,0,none⟩) (xaP l1 a1).1.length (xaP l1 a1).1.length) hRX) c4 hRP
  have d4 := (d3.far X 3 (.slice (some ⟨g,0,none⟩) (xaP l1 a1).1.length (xaP l1 a1).1.length) hXw).trans c4
  have hgX : g ≠ X := by omega
  have hgR : g ≠ R := by omega
  have hgP : g ≠ P := by omega
  have HO4 : Hid (w4.ownsRow w2.heap.size 2 1 (.slice (some ⟨g,0,none⟩) (xaP l1 a1).1.length (xaP l1 a1).1.length) (xaP l1 a1).1.length ((xaP l1 a1).1.map (Value.int .i64))) := xhX (xbI ho hgX) c4 hgP
  obtain ⟨x0,x1,x2,x3⟩ := xX4.cell
  obtain ⟨y0,y1,y2,y3⟩ := xR4.cell
  have f0 := xR4.frozen 0
  have f1 := xR4.frozen 1
  have f2 := xR4.frozen 2
  have f3 := xR4.frozen 3
  have g1 := xX4.frozen 1
  have g2 := xX4.frozen 2
  have g3 := xX4.frozen 3
  have HFX : Hid _ := ((((xR4.far X 1 (.int .i64 (xaT (xaP l1 a1).2.1 (xaP l1 a1).2.2).1) hRX).set0 (.int .u8 op)).set1 (.int .i64 (xaT (xaP l1 a1).2.1 (xaP l1 a1).2.2).1)).set2 (.int .i64 0)).set3 (.slice (some ⟨g,0,none⟩) (xaP l1 a1).1.length (xaP l1 a1).1.length)
  have HR := kZz ((r4.far X 1 (.int .i64 (xaT (xaP l1 a1).2.1 (xaP l1 a1).2.2).1) hPX))
  have HCC := kZz ((d4.far X 1 (.int .i64 (xaT (xaP l1 a1).2.1 (xaP l1 a1).2.2).1) hXw))
  go_wp2
  obtain ⟨q0,q1,q2,q3⟩ := XS.cell HFX.out
  refine bodyPost_ret (v := .agg #[(.int .u8 op),(.int .i64 (xaT (xaP l1 a1).2.1 (xaP l1 a1).2.2).1),(.int .i64 0),(.slice (some ⟨g,0,none⟩) (xaP l1 a1).1.length (xaP l1 a1).1.length)]) (by simp [results,Tryz.results113,go_sem,q0,q1,q2,q3]) rfl ?_
  exact ⟨_,rfl,((((HR.out.far R 0 _ hRP.symm).far R 1 _ hRP.symm).far R 2 _ hRP.symm).far R 3 _ hRP.symm),((((HCC.out.far R 0 _ (Nat.le_of_eq hR)).far R 1 _ (Nat.le_of_eq hR)).far R 2 _ (Nat.le_of_eq hR)).far R 3 _ (Nat.le_of_eq hR)),Or.inr ⟨g,rfl,xbY (xbI (xbI (xbI (xbI (xbI HO4.out hgX) hgR) hgR) hgR) hgR) hb2⟩⟩
def LI (w : World) (o : Option Addr) (xs : List Int) : Prop := xs = [] \/ ∃ g,o = some ⟨g,0,none⟩ /\ g < w.heap.size /\ ∀ i,i < xs.length -> w.cell? ⟨g,i,none⟩ = some (.int .i64 (xs.getD i 0))
def xfT (n : Int) : Prop := 0 <= n /\ n <= 4294967295
def ykS (k A B : Int) (xs : List Int) : Prop :=
 (k = 1 /\ A = 0 /\ B = 0 /\ xs = []) \/ (k = 2 /\ xlK A = true /\ B = 0 /\ xs = []) \/ (k = 3 /\ xfT A /\ B = 0 /\ xs = []) \/ (k = 4 /\ xfT A /\ B = 0 /\ xs.length <= 16 /\ ∀ x ∈ xs,xfT x) \/ (k = 5 /\ xfT A /\ B = 0 /\ xs = []) \/ (k = 6 /\ xfT A /\ xfT B /\ xs = []) \/ (k = 7 /\ A = 0 /\ B = 0 /\ xs = []) \/ (k = 8 /\ -2147483648 <= A /\ A <= 2147483647 /\ B = 0 /\ xs = []) \/ (k = 9 /\ B = 0 /\ xs = [])
theorem xsQ (w : World) (n : Int) : (convert 152 9 (.slice (some ⟨w.heap.size,0,none⟩) 1 1)).run Tryz.prog (w.alloc (.cells #[.int .u8 n] 5)) = .ok (.string (strOfNums [n])) (w.alloc (.cells #[.int .u8 n] 5)) := by
 refine run_convert_bytes_arg _ 152 5 Tryz.underlying152 Tryz.underlying5 w.heap.size 0 1 1 [n] rfl ?_ 9 Tryz.underlying9
 intro i hi
 have : i = 0 := by omega
 subst this
 rw [World.cell?_alloc_at _ _ _ _ rfl]
 rfl
def yjD (k A B : Int) (xs : List Int) : List Int :=
 if k = 2 then [A] else if k = 3 then uB A.toNat else if k = 4 then uB xs.length ++ (xs.flatMap fun x => uB x.toNat) ++ uB A.toNat else if k = 5 then uB A.toNat ++ [0] else if k = 6 then uB A.toNat ++ uB B.toNat else if k = 7 then [0] else if k = 8 \/ k = 9 then sB A else []
theorem xuY {A : Int} (h : xlK A = true) : 0 <= A /\ A <= 255 := by
 unfold xlK at h
 simp only [Bool.or_eq_true,beq_iff_eq] at h
 omega
structure Got where
 op : Int
 A : Int
 B : Int
 To : List Int
 l : List Int
 e : Int
def xlY (k op : Int) (l1 : List Int) (a1 : Int) : Got :=
 if k = 0 then ⟨op,0,0,[],l1,xbD a1 6⟩
 else if k = 1 then ⟨op,0,0,[],l1,a1⟩
 else if k = 2 then ⟨op,(xcQ l1 a1).1,0,[],(xcQ l1 a1).2.1,(xcQ l1 a1).2.2⟩
 else if k = 3 then ⟨op,(xaT l1 a1).1,0,[],(xaT l1 a1).2.1,(xaT l1 a1).2.2⟩
 else if k = 4 then ⟨op,(xaT (xaP l1 a1).2.1 (xaP l1 a1).2.2).1,0,(xaP l1 a1).1,(xaT (xaP l1 a1).2.1 (xaP l1 a1).2.2).2.1,(xaT (xaP l1 a1).2.1 (xaP l1 a1).2.2).2.2⟩
 else if k = 5 then ⟨op,(xaT l1 a1).1,0,[],(xdZ (xaT l1 a1).2.1 (xaT l1 a1).2.2).1,(xdZ (xaT l1 a1).2.1 (xaT l1 a1).2.2).2⟩
 else if k = 6 then ⟨op,(xaT l1 a1).1,(xaT (xaT l1 a1).2.1 (xaT l1 a1).2.2).1,[],(xaT (xaT l1 a1).2.1 (xaT l1 a1).2.2).2.1,(xaT (xaT l1 a1).2.1 (xaT l1 a1).2.2).2.2⟩
 else if k = 7 then ⟨op,0,0,[],(xdZ l1 a1).1,(xdZ l1 a1).2⟩
 else if k = 8 then ⟨op,(xcR 32 l1 a1).1,0,[],(xcR 32 l1 a1).2.1,(xcR 32 l1 a1).2.2⟩
 else ⟨op,(xcR 64 l1 a1).1,0,[],(xcR 64 l1 a1).2.1,(xcR 64 l1 a1).2.2⟩
def xbZ (l : List Int) (a : Int) : Got := xlY (xdM (xbJ l a).1) (xbJ l a).1 (xbJ l a).2.1 (xbJ l a).2.2
theorem xdF (op : Int) : 0 <= xdM op /\ xdM op <= 9 := by
 unfold xdM
 repeat' split
 all_goals omega
theorem xwF (P : Nat) (l : List Int) (a : Int) (w : World) (hr : RL w P l a) (hT : TabIn w) (hTP : 3 ≠ P) (ht0 : 3 < w.heap.size) :
  Calls Tryz.prog 113 #[.pointer (some ⟨P,0,none⟩)] w fun r w' => ∃ v,r = .returned (.agg #[.int .u8 (xbZ l a).op,.int .i64 (xbZ l a).A,.int .i64 (xbZ l a).B,v]) /\ RL w' P (xbZ l a).l (xbZ l a).e /\ Chg P w w' /\ IsI w' w.heap.size v (xbZ l a).To := by
 have hb := xgR l a hr.byte
 have hbes : ∀ w,TabIn w -> Calls Tryz.prog 123 #[.int .u8 (xbJ l a).1] w fun r w' => r = .returned (.int .i64 (xdM (xbJ l a).1)) /\ Below w.heap.size w w' := fun w h => xxF (xbJ l a).1 hb.1 (by omega) w h
 have hnx : ∀ w,RL w P l a -> Calls Tryz.prog 122 #[.pointer (some ⟨P,0,none⟩)] w fun r w' => r = .returned (.int .u8 (xbJ l a).1) /\ RL w' P (xbJ l a).2.1 (xbJ l a).2.2 /\ Chg P w w' := fun w h => xmD P l a w h
 unfold xbZ
 have hrg := xdF (xbJ l a).1
 generalize xdM (xbJ l a).1 = k at hbes hrg ⊢
 generalize (xbJ l a).1 = op at hbes hnx ⊢
 generalize (xbJ l a).2.1 = l1 at hnx ⊢
 generalize (xbJ l a).2.2 = a1 at hnx ⊢
 rcases (show k = 0 \/ k = 1 \/ k = 2 \/ k = 3 \/ k = 4 \/ k = 5 \/ k = 6 \/ k = 7 \/ k = 8 \/ k = 9 by omega) with rfl | rfl | rfl | rfl | rfl | rfl | rfl | rfl | rfl | rfl
 ·refine (yeJ P l l1 a a1 op w hnx hbes hr hT hTP ht0).mono ?_
  rintro r w1 ⟨rfl,r1,c1⟩
  exact ⟨_,rfl,r1,c1,Or.inl ⟨rfl,rfl⟩⟩
 ·refine (yeK P l l1 a a1 op w hnx hbes hr hT hTP ht0).mono ?_
  rintro r w1 ⟨rfl,r1,c1⟩
  exact ⟨_,rfl,r1,c1,Or.inl ⟨rfl,rfl⟩⟩
 ·refine (yeL P l l1 a a1 op w hnx hbes hr hT hTP ht0).mono ?_
  rintro r w1 ⟨rfl,r1,c1⟩
  exact ⟨_,rfl,r1,c1,Or.inl ⟨rfl,rfl⟩⟩
 ·refine (yeM P l l1 a a1 op w hnx hbes hr hT hTP ht0).mono ?_
  rintro r w1 ⟨rfl,r1,c1⟩
  exact ⟨_,rfl,r1,c1,Or.inl ⟨rfl,rfl⟩⟩
 ·exact yeN P l l1 a a1 op w hnx hbes hr hT hTP ht0
 ·refine (yeO P l l1 a a1 op w hnx hbes hr hT hTP ht0).mono ?_
  rintro r w1 ⟨rfl,r1,c1⟩
  exact ⟨_,rfl,r1,c1,Or.inl ⟨rfl,rfl⟩⟩
 ·refine (yeP P l l1 a a1 op w hnx hbes hr hT hTP ht0).mono ?_
  rintro r w1 ⟨rfl,r1,c1⟩
  exact ⟨_,rfl,r1,c1,Or.inl ⟨rfl,rfl⟩⟩
 ·refine (yeQ P l l1 a a1 op w hnx hbes hr hT hTP ht0).mono ?_
  rintro r w1 ⟨rfl,r1,c1⟩
  exact ⟨_,rfl,r1,c1,Or.inl ⟨rfl,rfl⟩⟩
 ·refine (yeR P l l1 a a1 op w hnx hbes hr hT hTP ht0).mono ?_
  rintro r w1 ⟨rfl,r1,c1⟩
  exact ⟨_,rfl,r1,c1,Or.inl ⟨rfl,rfl⟩⟩
 ·refine (yeS P l l1 a a1 op w hnx hbes hr hT hTP ht0).mono ?_
  rintro r w1 ⟨rfl,r1,c1⟩
  exact ⟨_,rfl,r1,c1,Or.inl ⟨rfl,rfl⟩⟩
theorem xzJ (s : ByteArray) (_hs : s.size <= maxLen) (op A B e : Int) (To lF : List Int) (w : World)
  (HI : Hid (Calls Tryz.prog 113 #[.pointer (some ⟨w.heap.size + 1,0,none⟩)] ((w.alloc (.cells #[.int .u8 0,.int .i64 0,.int .i64 0,.slice none 0 0] 100)).alloc (.cells #[.string s,.int .i64 0] 173)) fun r w' => ∃ v,r = .returned (.agg #[.int .u8 op,.int .i64 A,.int .i64 B,v]) /\ RL w' (w.heap.size + 1) lF e /\ Chg (w.heap.size + 1) ((w.alloc (.cells #[.int .u8 0,.int .i64 0,.int .i64 0,.slice none 0 0] 100)).alloc (.cells #[.string s,.int .i64 0] 173)) w' /\ IsI w' (w.heap.size + 2) v To)) (_he : (e == 0) = false) :
  Calls Tryz.prog 105 #[.string s] w fun r w' => r = .returned (.tuple #[.agg #[.int .u8 0,.int .i64 0,.int .i64 0,.slice none 0 0],.int .i64 0,.int .i64 e]) /\ Below w.heap.size w w' := by
 have hne : (e != 0) = true := by rw [bne,_he]; rfl
 go_enter Tryz.func105,Tryz.ntmps105
 go_wp2_with fail
 refine HI.out.mono ?_
 rintro r w1 ⟨v,rfl,⟨s2,hn2,_hs2,r1⟩,c1,q1⟩
 subst hn2
 unfold maxLen at _hs _hs2
 have xR : XS w1 w.heap.size (.int .u8 0) (.int .i64 0) (.int .i64 0) (.slice none 0 0) := by
  unfold XS
  rw [c1.block w.heap.size (by simp; omega) (by simp),Below.heap_alloc _ _ _ (by simp)]
  exact xaZ _ _
 have hs1 : w.heap.size + 2 <= w1.heap.size := by have := c1.size; simp at this; omega
 have d0 := r1.c0
 have d1 := r1.c1
 have hXw : w.heap.size < w1.heap.size := by omega
 have hXp : w.heap.size + 1 < w1.heap.size := by omega
 obtain ⟨y0,y1,y2,y3⟩ := xR.cell
 have f0 := xR.frozen 0
 have f1 := xR.frozen 1
 have f2 := xR.frozen 2
 have f3 := xR.frozen 3
 have HB1 : Hid (Below w.heap.size w w1) := (((Below.refl _ _).alloc (Nat.le_refl _) _).alloc (by simp) _).trans (c1.below (by omega) (by simp; omega))
 clear c1
 rcases q1 with ⟨rfl,_⟩ | ⟨g,rfl,_⟩
 ·go_wp2
  have e0 : (w1.alloc (Obj.cells #[.int .u8 op,.int .i64 A,.int .i64 B,(.slice none 0 0)] 100)).cell? ⟨w.heap.size + 1,0,none⟩ = some (.string s2) := (World.cell?_alloc_lt (h := hXp) ..).trans d0
  have e1 : (w1.alloc (Obj.cells #[.int .u8 op,.int .i64 A,.int .i64 B,(.slice none 0 0)] 100)).cell? ⟨w.heap.size + 1,1,none⟩ = some (.int .i64 e) := (World.cell?_alloc_lt (h := hXp) ..).trans d1
  have xR2 : XS (w1.alloc (Obj.cells #[.int .u8 op,.int .i64 A,.int .i64 B,(.slice none 0 0)] 100)) w.heap.size (.int .u8 0) (.int .i64 0) (.int .i64 0) (.slice none 0 0) := by
   unfold XS at xR ⊢
   rw [Below.heap_alloc _ _ _ hXw]
   exact xR
  have xX2 : XS (w1.alloc (Obj.cells #[.int .u8 op,.int .i64 A,.int .i64 B,(.slice none 0 0)] 100)) w1.heap.size (.int .u8 op) (.int .i64 A) (.int .i64 B) (.slice none 0 0) := xaZ _ _
  have HB2 : Hid (Below w.heap.size w (w1.alloc (Obj.cells #[.int .u8 op,.int .i64 A,.int .i64 B,(.slice none 0 0)] 100))) := HB1.out.alloc (by omega) _
  clear y0 y1 y2 y3 f0 f1 f2 f3 d0 d1 xR r1
  generalize w1.alloc (Obj.cells #[.int .u8 op,.int .i64 A,.int .i64 B,(.slice none 0 0)] 100) = w2 at e0 e1 xR2 xX2 HB2 ⊢
  obtain ⟨y0,y1,y2,y3⟩ := xR2.cell
  have f0 := xR2.frozen 0
  have f1 := xR2.frozen 1
  have f2 := xR2.frozen 2
  have f3 := xR2.frozen 3
  have HFX : Hid (XS _ _ _ _ _ _) := (((xR2.set0 (.int .u8 0)).set1 (.int .i64 0)).set2 (.int .i64 0)).set3 (.slice none 0 0)
  go_region
  go_wp2
  obtain ⟨q0,q1,q2,q3⟩ := XS.cell HFX.out
  refine bodyPost_ret (v := .tuple #[.agg #[(.int .u8 0),(.int .i64 0),(.int .i64 0),(.slice none 0 0)],.int .i64 0,.int .i64 e]) (by simp [results,Tryz.results105,go_sem,q0,q1,q2,q3]) rfl ?_
  exact ⟨rfl,((((HB2.out.setCell (p := ⟨w.heap.size,0,none⟩) (Nat.le_refl _) _).setCell (p := ⟨w.heap.size,1,none⟩) (Nat.le_refl _) _).setCell (p := ⟨w.heap.size,2,none⟩) (Nat.le_refl _) _).setCell (p := ⟨w.heap.size,3,none⟩) (Nat.le_refl _) _).drew⟩
 ·go_wp2
  have e0 : (w1.alloc (Obj.cells #[.int .u8 op,.int .i64 A,.int .i64 B,(.slice (some ⟨g,0,none⟩) To.length To.length)] 100)).cell? ⟨w.heap.size + 1,0,none⟩ = some (.string s2) := (World.cell?_alloc_lt (h := hXp) ..).trans d0
  have e1 : (w1.alloc (Obj.cells #[.int .u8 op,.int .i64 A,.int .i64 B,(.slice (some ⟨g,0,none⟩) To.length To.length)] 100)).cell? ⟨w.heap.size + 1,1,none⟩ = some (.int .i64 e) := (World.cell?_alloc_lt (h := hXp) ..).trans d1
  have xR2 : XS (w1.alloc (Obj.cells #[.int .u8 op,.int .i64 A,.int .i64 B,(.slice (some ⟨g,0,none⟩) To.length To.length)] 100)) w.heap.size (.int .u8 0) (.int .i64 0) (.int .i64 0) (.slice none 0 0) := by
   unfold XS at xR ⊢
   rw [Below.heap_alloc _ _ _ hXw]
   exact xR
  have xX2 : XS (w1.alloc (Obj.cells #[.int .u8 op,.int .i64 A,.int .i64 B,(.slice (some ⟨g,0,none⟩) To.length To.length)] 100)) w1.heap.size (.int .u8 op) (.int .i64 A) (.int .i64 B) (.slice (some ⟨g,0,none⟩) To.length To.length) := xaZ _ _
  have HB2 : Hid (Below w.heap.size w (w1.alloc (Obj.cells #[.int .u8 op,.int .i64 A,.int .i64 B,(.slice (some ⟨g,0,none⟩) To.length To.length)] 100))) := HB1.out.alloc (by omega) _
  clear y0 y1 y2 y3 f0 f1 f2 f3 d0 d1 xR r1
  generalize w1.alloc (Obj.cells #[.int .u8 op,.int .i64 A,.int .i64 B,(.slice (some ⟨g,0,none⟩) To.length To.length)] 100) = w2 at e0 e1 xR2 xX2 HB2 ⊢
  obtain ⟨y0,y1,y2,y3⟩ := xR2.cell
  have f0 := xR2.frozen 0
  have f1 := xR2.frozen 1
  have f2 := xR2.frozen 2
  have f3 := xR2.frozen 3
  have HFX : Hid (XS _ _ _ _ _ _) := (((xR2.set0 (.int .u8 0)).set1 (.int .i64 0)).set2 (.int .i64 0)).set3 (.slice none 0 0)
  go_region
  go_wp2
  obtain ⟨q0,q1,q2,q3⟩ := XS.cell HFX.out
  refine bodyPost_ret (v := .tuple #[.agg #[(.int .u8 0),(.int .i64 0),(.int .i64 0),(.slice none 0 0)],.int .i64 0,.int .i64 e]) (by simp [results,Tryz.results105,go_sem,q0,q1,q2,q3]) rfl ?_
  exact ⟨rfl,((((HB2.out.setCell (p := ⟨w.heap.size,0,none⟩) (Nat.le_refl _) _).setCell (p := ⟨w.heap.size,1,none⟩) (Nat.le_refl _) _).setCell (p := ⟨w.heap.size,2,none⟩) (Nat.le_refl _) _).setCell (p := ⟨w.heap.size,3,none⟩) (Nat.le_refl _) _).drew⟩
theorem ycF (s : ByteArray) (_hs : s.size <= maxLen) (op A B : Int) (To lF : List Int) (w : World)
  (HI : Hid (Calls Tryz.prog 113 #[.pointer (some ⟨w.heap.size + 1,0,none⟩)] ((w.alloc (.cells #[.int .u8 0,.int .i64 0,.int .i64 0,.slice none 0 0] 100)).alloc (.cells #[.string s,.int .i64 0] 173)) fun r w' => ∃ v,r = .returned (.agg #[.int .u8 op,.int .i64 A,.int .i64 B,v]) /\ RL w' (w.heap.size + 1) lF 0 /\ Chg (w.heap.size + 1) ((w.alloc (.cells #[.int .u8 0,.int .i64 0,.int .i64 0,.slice none 0 0] 100)).alloc (.cells #[.string s,.int .i64 0] 173)) w' /\ IsI w' (w.heap.size + 2) v To)) :
  Calls Tryz.prog 105 #[.string s] w fun r w' => ∃ v,r = .returned (.tuple #[.agg #[.int .u8 op,.int .i64 A,.int .i64 B,v],.int .i64 ((s.size : Int) - (lF.length : Int)),.int .i64 0]) /\ Below w.heap.size w w' /\ IsI w' w.heap.size v To := by
 go_enter Tryz.func105,Tryz.ntmps105
 go_wp2_with fail
 refine HI.out.mono ?_
 rintro r w1 ⟨v,rfl,⟨s2,hn2,_hs2,r1⟩,c1,q1⟩
 subst hn2
 unfold maxLen at _hs _hs2
 have xR : XS w1 w.heap.size (.int .u8 0) (.int .i64 0) (.int .i64 0) (.slice none 0 0) := by
  unfold XS
  rw [c1.block w.heap.size (by simp; omega) (by simp),Below.heap_alloc _ _ _ (by simp)]
  exact xaZ _ _
 have hs1 : w.heap.size + 2 <= w1.heap.size := by have := c1.size; simp at this; omega
 have d0 := r1.c0
 have d1 := r1.c1
 have hXw : w.heap.size < w1.heap.size := by omega
 have hXp : w.heap.size + 1 < w1.heap.size := by omega
 obtain ⟨y0,y1,y2,y3⟩ := xR.cell
 have f0 := xR.frozen 0
 have f1 := xR.frozen 1
 have f2 := xR.frozen 2
 have f3 := xR.frozen 3
 have HB1 : Hid (Below w.heap.size w w1) := (((Below.refl _ _).alloc (Nat.le_refl _) _).alloc (by simp) _).trans (c1.below (by omega) (by simp; omega))
 clear c1
 rcases q1 with ⟨rfl,hx⟩ | ⟨g,rfl,ho⟩
 ·go_wp2
  have e0 : (w1.alloc (Obj.cells #[.int .u8 op,.int .i64 A,.int .i64 B,(.slice none 0 0)] 100)).cell? ⟨w.heap.size + 1,0,none⟩ = some (.string s2) := (World.cell?_alloc_lt (h := hXp) ..).trans d0
  have e1 : (w1.alloc (Obj.cells #[.int .u8 op,.int .i64 A,.int .i64 B,(.slice none 0 0)] 100)).cell? ⟨w.heap.size + 1,1,none⟩ = some (.int .i64 0) := (World.cell?_alloc_lt (h := hXp) ..).trans d1
  have xR2 : XS (w1.alloc (Obj.cells #[.int .u8 op,.int .i64 A,.int .i64 B,(.slice none 0 0)] 100)) w.heap.size (.int .u8 0) (.int .i64 0) (.int .i64 0) (.slice none 0 0) := by
   unfold XS at xR ⊢
   rw [Below.heap_alloc _ _ _ hXw]
   exact xR
  have xX2 : XS (w1.alloc (Obj.cells #[.int .u8 op,.int .i64 A,.int .i64 B,(.slice none 0 0)] 100)) w1.heap.size (.int .u8 op) (.int .i64 A) (.int .i64 B) (.slice none 0 0) := xaZ _ _
  have HB2 : Hid (Below w.heap.size w (w1.alloc (Obj.cells #[.int .u8 op,.int .i64 A,.int .i64 B,(.slice none 0 0)] 100))) := HB1.out.alloc (by omega) _
  clear y0 y1 y2 y3 f0 f1 f2 f3 d0 d1 xR r1
  generalize w1.alloc (Obj.cells #[.int .u8 op,.int .i64 A,.int .i64 B,(.slice none 0 0)] 100) = w2 at e0 e1 xR2 xX2 HB2 ⊢
  obtain ⟨y0,y1,y2,y3⟩ := xR2.cell
  have f0 := xR2.frozen 0
  have f1 := xR2.frozen 1
  have f2 := xR2.frozen 2
  have f3 := xR2.frozen 3
  obtain ⟨x0,x1,x2,x3⟩ := xX2.cell
  have HFX : Hid (XS _ _ _ _ _ _) := (((xR2.set0 (.int .u8 op)).set1 (.int .i64 A)).set2 (.int .i64 B)).set3 (.slice none 0 0)
  go_region
  go_wp2
  obtain ⟨q0,q1,q2,q3⟩ := XS.cell HFX.out
  refine bodyPost_ret (v := .tuple #[.agg #[(.int .u8 op),(.int .i64 A),(.int .i64 B),(.slice none 0 0)],.int .i64 ((s.size : Int) - (s2.size : Int)),.int .i64 0]) (by simp [results,Tryz.results105,go_sem,q0,q1,q2,q3]) rfl ?_
  exact ⟨_,by rw [xaY],((((HB2.out.setCell (p := ⟨w.heap.size,0,none⟩) (Nat.le_refl _) _).setCell (p := ⟨w.heap.size,1,none⟩) (Nat.le_refl _) _).setCell (p := ⟨w.heap.size,2,none⟩) (Nat.le_refl _) _).setCell (p := ⟨w.heap.size,3,none⟩) (Nat.le_refl _) _).drew,Or.inl ⟨rfl,hx⟩⟩
 ·have hg := (ho.lt g rfl).1
  have hgR : g ≠ w.heap.size := by omega
  have HO1 := kZz ho
  clear ho
  go_wp2
  have HO2 : Hid (type_of% (HO1.out.alloc (Obj.cells #[.int .u8 op,.int .i64 A,.int .i64 B,(.slice (some ⟨g,0,none⟩) To.length To.length)] 100))) := HO1.out.alloc _
  have e0 : (w1.alloc (Obj.cells #[.int .u8 op,.int .i64 A,.int .i64 B,(.slice (some ⟨g,0,none⟩) To.length To.length)] 100)).cell? ⟨w.heap.size + 1,0,none⟩ = some (.string s2) := (World.cell?_alloc_lt (h := hXp) ..).trans d0
  have e1 : (w1.alloc (Obj.cells #[.int .u8 op,.int .i64 A,.int .i64 B,(.slice (some ⟨g,0,none⟩) To.length To.length)] 100)).cell? ⟨w.heap.size + 1,1,none⟩ = some (.int .i64 0) := (World.cell?_alloc_lt (h := hXp) ..).trans d1
  have xR2 : XS (w1.alloc (Obj.cells #[.int .u8 op,.int .i64 A,.int .i64 B,(.slice (some ⟨g,0,none⟩) To.length To.length)] 100)) w.heap.size (.int .u8 0) (.int .i64 0) (.int .i64 0) (.slice none 0 0) := by
   unfold XS at xR ⊢
   rw [Below.heap_alloc _ _ _ hXw]
   exact xR
  have xX2 : XS (w1.alloc (Obj.cells #[.int .u8 op,.int .i64 A,.int .i64 B,(.slice (some ⟨g,0,none⟩) To.length To.length)] 100)) w1.heap.size (.int .u8 op) (.int .i64 A) (.int .i64 B) (.slice (some ⟨g,0,none⟩) To.length To.length) := xaZ _ _
  have HB2 : Hid (Below w.heap.size w (w1.alloc (Obj.cells #[.int .u8 op,.int .i64 A,.int .i64 B,(.slice (some ⟨g,0,none⟩) To.length To.length)] 100))) := HB1.out.alloc (by omega) _
  clear y0 y1 y2 y3 f0 f1 f2 f3 d0 d1 xR r1
  generalize w1.alloc (Obj.cells #[.int .u8 op,.int .i64 A,.int .i64 B,(.slice (some ⟨g,0,none⟩) To.length To.length)] 100) = w2 at e0 e1 xR2 xX2 HB2 HO2 ⊢
  obtain ⟨y0,y1,y2,y3⟩ := xR2.cell
  have f0 := xR2.frozen 0
  have f1 := xR2.frozen 1
  have f2 := xR2.frozen 2
  have f3 := xR2.frozen 3
  obtain ⟨x0,x1,x2,x3⟩ := xX2.cell
  have HFX : Hid (XS _ _ _ _ _ _) := (((xR2.set0 (.int .u8 op)).set1 (.int .i64 A)).set2 (.int .i64 B)).set3 (.slice (some ⟨g,0,none⟩) To.length To.length)
  go_region
  go_wp2
  obtain ⟨q0,q1,q2,q3⟩ := XS.cell HFX.out
  refine bodyPost_ret (v := .tuple #[.agg #[(.int .u8 op),(.int .i64 A),(.int .i64 B),(.slice (some ⟨g,0,none⟩) To.length To.length)],.int .i64 ((s.size : Int) - (s2.size : Int)),.int .i64 0]) (by simp [results,Tryz.results105,go_sem,q0,q1,q2,q3]) rfl ?_
  exact ⟨_,by rw [xaY],((((HB2.out.setCell (p := ⟨w.heap.size,0,none⟩) (Nat.le_refl _) _).setCell (p := ⟨w.heap.size,1,none⟩) (Nat.le_refl _) _).setCell (p := ⟨w.heap.size,2,none⟩) (Nat.le_refl _) _).setCell (p := ⟨w.heap.size,3,none⟩) (Nat.le_refl _) _).drew,Or.inr ⟨g,rfl,xbY (xbI (xbI (xbI (xbI HO2.out hgR) hgR) hgR) hgR).drew (by omega)⟩⟩
theorem xzI (s : ByteArray) (hs : s.size <= maxLen) (w : World) (hT : TabIn w) (ht0 : 3 < w.heap.size) :
  Calls Tryz.prog 105 #[.string s] w fun r w' => Below w.heap.size w w' /\
   ((¬ (xbZ (xaX s) 0).e = 0 /\ r = .returned (.tuple #[.agg #[.int .u8 0,.int .i64 0,.int .i64 0,.slice none 0 0],.int .i64 0,.int .i64 (xbZ (xaX s) 0).e])) \/
    ((xbZ (xaX s) 0).e = 0 /\ ∃ v,r = .returned (.tuple #[.agg #[.int .u8 (xbZ (xaX s) 0).op,.int .i64 (xbZ (xaX s) 0).A,.int .i64 (xbZ (xaX s) 0).B,v],.int .i64 ((s.size : Int) - ((xbZ (xaX s) 0).l.length : Int)),.int .i64 0]) /\ IsI w' w.heap.size v (xbZ (xaX s) 0).To)) := by
 have hb : Below w.heap.size w ((w.alloc (.cells #[.int .u8 0,.int .i64 0,.int .i64 0,.slice none 0 0] 100)).alloc (.cells #[.string s,.int .i64 0] 173)) := ((Below.refl _ _).alloc (Nat.le_refl _) _).alloc (by simp) _
 have hRL : RL ((w.alloc (.cells #[.int .u8 0,.int .i64 0,.int .i64 0,.slice none 0 0] 100)).alloc (.cells #[.string s,.int .i64 0] 173)) (w.heap.size + 1) (xaX s) 0 := by
  refine ⟨s,rfl,hs,?_⟩
  unfold RS
  have := xaZ (w.alloc (.cells #[.int .u8 0,.int .i64 0,.int .i64 0,.slice none 0 0] 100)) (.cells #[.string s,.int .i64 0] 173)
  rw [World.size_alloc] at this
  exact this
 have hT2 := hT.chg (Chg.of_below (P := w.heap.size + 1) hb) ht0 (by omega)
 have hI := xwF (w.heap.size + 1) (xaX s) 0 _ hRL hT2 (by omega) (by rw [World.size_alloc,World.size_alloc]; omega)
 generalize xbZ (xaX s) 0 = M at hI ⊢
 rw [World.size_alloc,World.size_alloc] at hI
 by_cases he : M.e = 0
 ·rw [he] at hI
  refine (ycF s hs M.op M.A M.B M.To M.l w hI).mono ?_
  rintro r w1 ⟨v,rfl,b,i⟩
  exact ⟨b,Or.inr ⟨he,v,rfl,i⟩⟩
 ·refine (xzJ s hs M.op M.A M.B M.e M.To M.l w hI (by rw [beq_eq_false_iff_ne]; exact he)).mono ?_
  rintro r w1 ⟨rfl,b⟩
  exact ⟨b,Or.inl ⟨he,rfl⟩⟩
theorem xqQ {a : Int} (h : a ≠ 0) (e : Int) : xbD a e = a := by unfold xbD; rw [if_neg h]
theorem xhU {a e : Int} (h : xbD a e = 0) : a = 0 /\ e = 0 := by
 unfold xbD at h
 split at h
 ·exact ⟨by assumption,h⟩
 ·exact absurd h (by assumption)
theorem xfD (l : List Int) (a : Int) (hl : ∀ b ∈ l,0 <= b /\ b < 256) (h : (xaT l a).2.2 = 0) : a = 0 /\ xfT (xaT l a).1 /\ ∃ k,(uB (xaT l a).1.toNat).length <= k /\ k <= l.length /\ (xaT l a).2.1 = l.drop k := by
 have hlt := xmQ l hl
 unfold xaT at h ⊢
 rcases ykT 32 (Or.inl rfl) l hl with ⟨e,he,hr⟩ | ⟨m,k,_,hlen,hk,hr⟩
 ·have he0 : ¬ e = 0 := by simpa using he
  rw [hr] at h
  simp only [if_neg he0] at h
  exact absurd (xhU h).2 he0
 ·rw [hr] at h hlt ⊢
  simp only [if_true] at h ⊢
  dsimp only at hlt
  refine ⟨h,⟨by omega,by omega⟩,k,by rw [Int.toNat_natCast]; exact hlen,hk,by rw [Int.toNat_natCast]⟩
theorem xwI (l : List Int) (a : Int) (h : (xaT l a).2.2 = 0) : a = 0 := by
 unfold xaT at h
 split at h
 ·exact h
 ·exact (xhU h).1
theorem xhI (l : List Int) (a : Int) (ha : a ≠ 0) : (xaT l a).2.2 = a := by
 unfold xaT
 split
 ·rfl
 ·exact xqQ ha _
theorem xhH (l : List Int) (a : Int) (hl : ∀ b ∈ l,0 <= b /\ b < 256) : ∀ b ∈ (xaT l a).2.1,0 <= b /\ b < 256 := by
 unfold xaT
 split
 ·exact fun b hb => hl b (List.mem_of_mem_drop hb)
 ·exact hl
theorem xoJ : ∀ (n : Nat) (l : List Int) (a : Int),(∀ b ∈ l,0 <= b /\ b < 256) -> (xbL n l a).2.2 = 0 -> a = 0 /\ (∀ x ∈ (xbL n l a).1,xfT x) /\ ∃ k,((xbL n l a).1.flatMap fun x => uB x.toNat).length <= k /\ k <= l.length /\ (xbL n l a).2.1 = l.drop k
 | 0,l,a,_,h => ⟨h,(fun x hx => by cases hx),0,by simp [xbL],by omega,by simp [xbL]⟩
 | n + 1,l,a,hl,h => by
  rw [xbL] at h ⊢
  dsimp only at h ⊢
  obtain ⟨h1,h2,k2,h3,h4,h5⟩ := xoJ n _ _ (xhH l a hl) h
  obtain ⟨g1,g2,k1,g3,g4,g5⟩ := xfD l a hl h1
  refine ⟨g1,?_,k1 + k2,?_,?_,?_⟩
  ·intro x hx
   rcases List.mem_cons.1 hx with rfl | hx
   ·exact g2
   ·exact h2 x hx
  ·rw [List.flatMap_cons,List.length_append]; omega
  ·rw [g5,List.length_drop] at h4; omega
  ·rw [h5,g5,List.drop_drop]
theorem xqT (B : Int) (hB : B = 32 \/ B = 64) (l : List Int) (a : Int) (hl : ∀ b ∈ l,0 <= b /\ b < 256) (h : (xcR B l a).2.2 = 0) : a = 0 /\ (-9223372036854775808 <= (xcR B l a).1 /\ (xcR B l a).1 <= 9223372036854775807) /\ (rS B l).1 = (xcR B l a).1 /\ ∃ k,(sB (xcR B l a).1).length <= k /\ k <= l.length /\ (xcR B l a).2.1 = l.drop k := by
 unfold xcR at h ⊢
 rcases yfE B hB l hl with ⟨e,he,hr⟩ | ⟨m,k,h1,h2,hlen,hk,hr⟩
 ·have he0 : ¬ e = 0 := by simpa using he
  rw [hr] at h
  simp only [if_neg he0] at h
  exact absurd (xhU h).2 he0
 ·rw [hr] at h ⊢
  simp only [if_true] at h ⊢
  exact ⟨h,⟨h1,h2⟩,trivial,k,hlen,hk,by rw [Int.toNat_natCast]⟩
theorem xsX (l : List Int) (a : Int) (h : (xbJ l a).2.2 = 0) : a = 0 /\ l = (xbJ l a).1 :: (xbJ l a).2.1 := by
 cases l with
 | nil =>
  have := (xhU h).2
  exact absurd this (by decide)
 | cons b r => exact ⟨h,rfl⟩
theorem yaS (l : List Int) (a : Int) (h : (xcQ l a).2.2 = 0) : a = 0 /\ xlK (xcQ l a).1 = true /\ l = (xcQ l a).1 :: (xcQ l a).2.1 := by
 unfold xcQ at h ⊢
 dsimp only at h ⊢
 cases hk : xlK (xbJ l a).1 with
 | true =>
  rw [hk] at h
  simp only [if_true] at h
  obtain ⟨h1,h2⟩ := xsX l a h
  exact ⟨h1,by simp,h2⟩
 | false =>
  rw [hk] at h
  simp only [Bool.false_eq_true,if_false] at h
  exact absurd (xhU h).2 (by decide)
theorem xrA (l : List Int) (a : Int) (h : (xdZ l a).2 = 0) : a = 0 /\ l = 0 :: (xdZ l a).1 := by
 unfold xdZ at h ⊢
 dsimp only at h ⊢
 by_cases hb : (xbJ l a).1 = 0
 ·rw [if_pos hb] at h
  obtain ⟨h1,h2⟩ := xsX l a h
  rw [hb] at h2
  exact ⟨h1,h2⟩
 ·rw [if_neg hb] at h
  exact absurd (xhU h).2 (by decide)
theorem xlG (l : List Int) (hl : ∀ b ∈ l,0 <= b /\ b < 256) : -2147483648 <= (rS 32 l).1 /\ (rS 32 l).1 <= 2147483647 := by
 unfold rS
 rw [if_pos (Or.inl rfl)]
 rcases xfI xdY 32 (Or.inl rfl) l hl with h | h | ⟨f,b,t,e,hf,hb0,hb1,h1,h2,h⟩
 ·rw [h,if_neg (by decide)]; omega
 ·rw [h,if_neg (by decide)]; omega
 ·rw [h]
  simp only [if_true]
  have hg : l.getD (((f.length : Int) + 1 - 1).toNat) 0 = b := by
   rw [show ((f.length : Int) + 1 - 1).toNat = f.length by omega,e,List.getD_eq_getElem?_getD,List.getElem?_append_right (Nat.le_refl _),Nat.sub_self]
   rfl
  have hp : ((f.length : Int) + 1).toNat = f.length + 1 := by omega
  rw [hg,hp,xfZ f b hb0 hb1]
  have hv := xcY f
  have hk : f.length <= 4 := by omega
  have h5 : f.length = 4 -> b < 8 \/ 120 <= b := by
   intro h4
   have := h2 (by omega)
   rw [h4] at this
   unfold xdY at this
   simp at this
   omega
  rcases (show f.length = 0 \/ f.length = 1 \/ f.length = 2 \/ f.length = 3 \/ f.length = 4 by omega) with h0 | h0 | h0 | h0 | h0 <;> rw [h0] at hv ⊢ <;> simp only [Nat.reduceAdd,Int.reducePow] at hv ⊢ <;> split <;> omega
theorem xqS (l : List Int) (hl : ∀ b ∈ l,0 <= b /\ b < 256) (h : (xbZ l 0).e = 0) :
  (0 <= (xbZ l 0).op /\ (xbZ l 0).op <= 255) /\ ykS (xdM (xbZ l 0).op) (xbZ l 0).A (xbZ l 0).B (xbZ l 0).To /\ (-9223372036854775808 <= (xbZ l 0).A /\ (xbZ l 0).A <= 9223372036854775807) /\ 1 + (yjD (xdM (xbZ l 0).op) (xbZ l 0).A (xbZ l 0).B (xbZ l 0).To).length + (xbZ l 0).l.length <= l.length := by
 cases l with
 | nil => exact absurd h (by decide)
 | cons b r =>
  have hb := hl b (by simp)
  have hr : ∀ c ∈ r,0 <= c /\ c < 256 := fun c hc => hl c (by simp [hc])
  have e0 : xbZ (b :: r) 0 = xlY (xdM b) b r 0 := rfl
  rw [e0] at h ⊢
  have hrg := xdF b
  have hop : ∀ k,(xlY k b r 0).op = b := by
   intro k; unfold xlY; repeat' split
   all_goals rfl
  rw [hop]
  refine ⟨⟨hb.1,by omega⟩,?_⟩
  generalize xdM b = k at h hrg ⊢
  rw [List.length_cons]
  have i64 : ∀ n : Int,xfT n -> -9223372036854775808 <= n /\ n <= 9223372036854775807 := fun n hn => by have := hn.1; have := hn.2; omega
  have i0 : -9223372036854775808 <= (0 : Int) /\ (0 : Int) <= 9223372036854775807 := by omega
  rcases (show k = 0 \/ k = 1 \/ k = 2 \/ k = 3 \/ k = 4 \/ k = 5 \/ k = 6 \/ k = 7 \/ k = 8 \/ k = 9 by omega) with rfl | rfl | rfl | rfl | rfl | rfl | rfl | rfl | rfl | rfl
  ·exact absurd h (by show ¬ xbD 0 6 = 0; decide)
  ·exact ⟨Or.inl ⟨rfl,rfl,rfl,rfl⟩,i0,by show 1 + 0 + r.length <= r.length + 1; omega⟩
  ·have h' : (xcQ r 0).2.2 = 0 := h
   obtain ⟨_,hk,e⟩ := yaS r 0 h'
   refine ⟨Or.inr (Or.inl ⟨rfl,hk,rfl,rfl⟩),?_,?_⟩
   ·have := xuY hk
    show -9223372036854775808 <= (xcQ r 0).1 /\ (xcQ r 0).1 <= 9223372036854775807
    omega
   ·show 1 + 1 + (xcQ r 0).2.1.length <= r.length + 1
    have := congrArg List.length e
    rw [List.length_cons] at this
    omega
  ·have h' : (xaT r 0).2.2 = 0 := h
   obtain ⟨_,hn,k,h1,h2,h3⟩ := xfD r 0 hr h'
   refine ⟨Or.inr (Or.inr (Or.inl ⟨rfl,hn,rfl,rfl⟩)),i64 _ hn,?_⟩
   show 1 + (uB (xaT r 0).1.toNat).length + (xaT r 0).2.1.length <= r.length + 1
   rw [h3,List.length_drop]; omega
  ·have h' : (xaT (xaP r 0).2.1 (xaP r 0).2.2).2.2 = 0 := h
   have hz := xwI _ _ h'
   have hgo : (xaP r 0) = xbL (xaT r 0).1.toNat (xaT r 0).2.1 (xaT r 0).2.2 /\ ¬ (xaT r 0).1 > 16 := by
    unfold xaP at hz ⊢
    by_cases h16 : (xaT r 0).1 > 16
    ·rw [if_pos h16] at hz
     exact absurd (xhU hz).2 (by decide)
    ·rw [if_neg h16]
     exact ⟨rfl,h16⟩
   obtain ⟨hgo,h16⟩ := hgo
   have hz2 := hz
   rw [hgo] at hz2
   obtain ⟨hz3,hxs,k2,g1,g2,g3⟩ := xoJ _ _ _ (xhH r 0 hr) hz2
   rw [<- hgo] at hxs g1 g3
   obtain ⟨_,hn,k1,h1,h2,h3⟩ := xfD r 0 hr hz3
   have hby : ∀ b ∈ (xaP r 0).2.1,0 <= b /\ b < 256 := by
    rw [g3]
    exact fun b hb => xhH r 0 hr b (List.mem_of_mem_drop hb)
   obtain ⟨_,hm,k3,f1,f2,f3⟩ := xfD _ _ hby h'
   have hlen : (xaP r 0).1.length = (xaT r 0).1.toNat := by rw [hgo,xiI]
   have h16' : (xaP r 0).1.length <= 16 := by rw [hlen]; have := hn.1; omega
   refine ⟨Or.inr (Or.inr (Or.inr (Or.inl ⟨rfl,hm,rfl,h16',hxs⟩))),i64 _ hm,?_⟩
   show 1 + (uB (xaP r 0).1.length ++ ((xaP r 0).1.flatMap fun x => uB x.toNat) ++ uB (xaT (xaP r 0).2.1 (xaP r 0).2.2).1.toNat).length + (xaT (xaP r 0).2.1 (xaP r 0).2.2).2.1.length <= r.length + 1
   have h3' := congrArg List.length h3
   have g3' := congrArg List.length g3
   have f3' := congrArg List.length f3
   rw [List.length_drop] at h3' g3' f3'
   rw [List.length_append,List.length_append,hlen]
   omega
  ·have h' : (xdZ (xaT r 0).2.1 (xaT r 0).2.2).2 = 0 := h
   obtain ⟨hz,e⟩ := xrA _ _ h'
   obtain ⟨_,hn,k,h1,h2,h3⟩ := xfD r 0 hr hz
   refine ⟨Or.inr (Or.inr (Or.inr (Or.inr (Or.inl ⟨rfl,hn,rfl,rfl⟩)))),i64 _ hn,?_⟩
   show 1 + (uB (xaT r 0).1.toNat ++ [0]).length + (xdZ (xaT r 0).2.1 (xaT r 0).2.2).1.length <= r.length + 1
   have e' := congrArg List.length e
   have h3' := congrArg List.length h3
   rw [List.length_cons] at e'
   rw [List.length_drop] at h3'
   rw [List.length_append,List.length_singleton]
   omega
  ·have h' : (xaT (xaT r 0).2.1 (xaT r 0).2.2).2.2 = 0 := h
   obtain ⟨hz,hm,k2,g1,g2,g3⟩ := xfD _ _ (xhH r 0 hr) h'
   obtain ⟨_,hn,k,h1,h2,h3⟩ := xfD r 0 hr hz
   refine ⟨Or.inr (Or.inr (Or.inr (Or.inr (Or.inr (Or.inl ⟨rfl,hn,hm,rfl⟩))))),i64 _ hn,?_⟩
   show 1 + (uB (xaT r 0).1.toNat ++ uB (xaT (xaT r 0).2.1 (xaT r 0).2.2).1.toNat).length + (xaT (xaT r 0).2.1 (xaT r 0).2.2).2.1.length <= r.length + 1
   have g3' := congrArg List.length g3
   have h3' := congrArg List.length h3
   rw [List.length_drop] at g3' h3'
   rw [List.length_append]
   omega
  ·have h' : (xdZ r 0).2 = 0 := h
   obtain ⟨_,e⟩ := xrA r 0 h'
   refine ⟨Or.inr (Or.inr (Or.inr (Or.inr (Or.inr (Or.inr (Or.inl ⟨rfl,rfl,rfl,rfl⟩)))))),i0,?_⟩
   show 1 + 1 + (xdZ r 0).1.length <= r.length + 1
   have := congrArg List.length e
   rw [List.length_cons] at this
   omega
  ·have h' : (xcR 32 r 0).2.2 = 0 := h
   obtain ⟨_,h64,hrs,k,h1,h2,h3⟩ := xqT 32 (Or.inl rfl) r 0 hr h'
   have hrange := xlG r hr
   rw [hrs] at hrange
   refine ⟨Or.inr (Or.inr (Or.inr (Or.inr (Or.inr (Or.inr (Or.inr (Or.inl ⟨rfl,hrange.1,hrange.2,rfl,rfl⟩))))))),h64,?_⟩
   show 1 + (sB (xcR 32 r 0).1).length + (xcR 32 r 0).2.1.length <= r.length + 1
   rw [h3,List.length_drop]; omega
  ·have h' : (xcR 64 r 0).2.2 = 0 := h
   obtain ⟨_,h64,hrs,k,h1,h2,h3⟩ := xqT 64 (Or.inr rfl) r 0 hr h'
   refine ⟨Or.inr (Or.inr (Or.inr (Or.inr (Or.inr (Or.inr (Or.inr (Or.inr ⟨rfl,rfl,rfl⟩))))))),h64,?_⟩
   show 1 + (sB (xcR 64 r 0).1).length + (xcR 64 r 0).2.1.length <= r.length + 1
   rw [h3,List.length_drop]; omega
theorem xeY (x : Int) (h : xfT x) (r : List Int) (a : Int) : xaT (uB x.toNat ++ r) a = (x,r,a) := by
 have h1 := h.1
 have h2 := h.2
 have hb := ymS 32 x.toNat 4 r (Or.inl ⟨rfl,rfl,by omega⟩)
 unfold xaT
 rw [hb]
 simp only [if_true,Int.toNat_natCast,List.drop_left]
 rw [Int.toNat_of_nonneg h1]
theorem xkM : ∀ (xs : List Int) (r : List Int),(∀ x ∈ xs,xfT x) -> xbL xs.length ((xs.flatMap fun x => uB x.toNat) ++ r) 0 = (xs,r,0)
 | [],r,_ => rfl
 | x :: xs,r,h => by
  rw [List.length_cons,xbL,List.flatMap_cons,List.append_assoc,xeY x (h x (by simp))]
  dsimp only
  rw [xkM xs r (fun y hy => h y (by simp [hy]))]
end Go.Proofs.YtmmjgdaamkdncaaGreatDoor
