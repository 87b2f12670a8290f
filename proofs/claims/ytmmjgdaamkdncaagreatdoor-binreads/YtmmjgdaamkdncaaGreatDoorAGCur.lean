import Derived.Test.YtmmjgdaamkdncaaGreatDoorAQZ
import Derived.Test.YtmmjgdaamkdncaaGreatDoorAGRef
namespace Go.Proofs.YtmmjgdaamkdncaaGreatDoor
set_option maxHeartbeats 1000000
set_option maxRecDepth 1000000
set_option linter.unusedVariables false
open Go.RowKit
def CS (w : World) (P : Nat) (s : ByteArray) (n e : Int) : Prop := w.heap[P]? = some (.cells #[.string s,.int .i64 n,.int .i64 e] 45 (0,0))
section
variable {w w' : World} {P : Nat} {s : ByteArray} {n e : Int}
theorem CS.lt (h : CS w P s n e) : P < w.heap.size := by
 unfold CS at h
 exact (Array.getElem?_eq_some_iff.1 h).1
theorem CS.cell (h : CS w P s n e) : w.cell? ⟨P,0,none⟩ = some (.string s) /\ w.cell? ⟨P,1,none⟩ = some (.int .i64 n) /\ w.cell? ⟨P,2,none⟩ = some (.int .i64 e) := by
 unfold CS at h
 simp [World.cell?,h]
theorem CS.frozen (h : CS w P s n e) (i : Nat) : w.frozen? ⟨P,i,none⟩ = false := by
 unfold CS at h
 simp [World.frozen?,h]
theorem CS.set0 (h : CS w P s n e) (t : ByteArray) : CS (w.setCell ⟨P,0,none⟩ (.string t)) P t n e := by
 unfold CS at h ⊢
 simp [World.setCell,Array.getElem?_modify,h]
theorem CS.set2 (h : CS w P s n e) (d : Int) : CS (w.setCell ⟨P,2,none⟩ (.int .i64 d)) P s n d := by
 unfold CS at h ⊢
 simp [World.setCell,Array.getElem?_modify,h]
theorem CS.below (h : CS w P s n e) (hb : Below w.heap.size w w') : CS w' P s n e := by
 unfold CS at h ⊢
 rw [hb.block P (CS.lt h),h]
end
theorem xgE (P : Nat) (s : ByteArray) (n a e : Int) (is : Bool) (w : World) (h : CS w P s n a) :
  Calls Tryz.prog 13 #[.pointer (some ⟨P,0,none⟩),.bool is,.int .i64 e] w fun r w' => r = .returned (.tuple #[]) /\ CS w' P s n (if is then xbD a e else a) /\ Chg P w w' := by
 obtain ⟨c0,c1,c2⟩ := h.cell
 have hf := h.frozen 2
 have HR : Hid (CS w P s n a) := h
 clear h
 cases is
 ·go_enter Tryz.func13,Tryz.ntmps13
  go_wp2
  go_end0
  exact ⟨rfl,HR.out,Chg.refl _ _⟩
 ·by_cases h0 : a = 0
  ·subst h0
   go_enter Tryz.func13,Tryz.ntmps13
   go_wp2
   go_end0
   exact ⟨rfl,HR.out.set2 e,Chg.set _ _ _ _⟩
  ·have hb : (a == 0) = false := by rw [beq_eq_false_iff_ne]; exact h0
   have e1 : xbD a e = a := by unfold xbD; rw [if_neg h0]
   rw [e1]
   go_enter Tryz.func13,Tryz.ntmps13
   go_wp2
   go_end0
   exact ⟨rfl,by simpa using HR.out,Chg.refl _ _⟩
theorem xsT {a e : Int} (h : e ≠ 0) : (xbD a e == 0) = false := by
 unfold xbD
 split
 ·rw [beq_eq_false_iff_ne]; exact h
 ·rw [beq_eq_false_iff_ne]; assumption
theorem xwX (P : Nat) (s : ByteArray) (n a : Int) (w : World) (h : CS w P s n a) (hs : s.size = 0) :
  Calls Tryz.prog 12 #[.pointer (some ⟨P,0,none⟩)] w fun r w' => r = .returned (.int .i64 0) /\ CS w' P s n (xbD a 3) /\ Chg P w w' := by
 have hemp : s.toList.isEmpty = true := by
  rw [Lib.toList_data,List.isEmpty_iff,<- List.length_eq_zero_iff,<- Lib.size_eq]; exact hs
 obtain ⟨c0,c1,c2⟩ := h.cell
 have HR : Hid (CS w P s n a) := h
 have hne := xsT (a := a) (e := 3) (by decide)
 have HS : Hid (∀ w,CS w P s n a -> Calls Tryz.prog 13 #[.pointer (some ⟨P,0,none⟩),.bool true,.int .i64 3] w fun r w' => r = .returned (.tuple #[]) /\ CS w' P s n (xbD a 3) /\ Chg P w w') := fun w h => by
  have := xgE P s n a 3 true w h
  rwa [if_pos rfl] at this
 generalize xbD a 3 = b at HS hne ⊢
 clear h hs
 go_enter Tryz.func12,Tryz.ntmps12
 go_wp2_with fail
 refine (HS.out _ HR.out).mono ?_
 rintro e w1 ⟨rfl,r1,k1⟩
 obtain ⟨d0,d1,d2⟩ := r1.cell
 go_wp2
 go_ret
 exact ⟨rfl,r1,k1⟩
theorem xwW (P : Nat) (s : ByteArray) (n a : Int) (w : World) (h : CS w P s n a) (hs : 0 < s.size) (ha : a ≠ 0) :
  Calls Tryz.prog 12 #[.pointer (some ⟨P,0,none⟩)] w fun r w' => r = .returned (.int .i64 0) /\ CS w' P s n a /\ Chg P w w' := by
 have hemp : s.toList.isEmpty = false := by
  rw [Lib.toList_data,List.isEmpty_eq_false_iff]; intro hn; rw [Lib.size_eq,hn] at hs; simp at hs
 obtain ⟨c0,c1,c2⟩ := h.cell
 have HR : Hid (CS w P s n a) := h
 have hne : (a == 0) = false := by rw [beq_eq_false_iff_ne]; exact ha
 clear h hs
 go_enter Tryz.func12,Tryz.ntmps12
 go_wp2_with fail
 refine (xgE P s n a 3 false _ HR.out).mono ?_
 rintro e w1 ⟨rfl,r1,k1⟩
 rw [if_neg (by decide)] at r1
 obtain ⟨d0,d1,d2⟩ := r1.cell
 go_wp2
 go_ret
 exact ⟨rfl,r1,k1⟩
theorem xtH (P : Nat) (s : ByteArray) (n : Int) (w : World) (h : CS w P s n 0) (hs : 0 < s.size) (hm : s.size <= maxLen) :
  Calls Tryz.prog 12 #[.pointer (some ⟨P,0,none⟩)] w fun r w' => r = .returned (.int .i64 ((s[0]'hs).toNat : Int)) /\ CS w' P (s.extract 1 s.size) n 0 /\ Chg P w w' := by
 have hemp : s.toList.isEmpty = false := by
  rw [Lib.toList_data,List.isEmpty_eq_false_iff]; intro hn; rw [Lib.size_eq,hn] at hs; simp at hs
 obtain ⟨c0,c1,c2⟩ := h.cell
 have HR : Hid (CS w P s n 0) := h
 clear h
 unfold maxLen at hm
 have HV : Hid (wrap64 ((s[0]'hs).toNat : Int) = (s[0]'hs).toNat) := by
  have := (s[0]'hs).toNat_lt
  unfold Hid wrap64
  omega
 go_enter Tryz.func12,Tryz.ntmps12
 go_wp2_with fail
 refine (xgE P s n 0 3 false _ HR.out).mono ?_
 rintro e w1 ⟨rfl,r1,k1⟩
 rw [if_neg (by decide)] at r1
 obtain ⟨d0,d1,d2⟩ := r1.cell
 have hf := r1.frozen 0
 have HR1 : Hid (CS w1 P s n 0) := r1
 clear r1 c0 c1 c2
 go_wp2
 go_ret
 refine ⟨?_,HR1.out.set0 _,k1.trans (Chg.set _ _ _ _)⟩
 show Ending.returned (.int .i64 (wrap64 _)) = _
 rw [HV.out]
theorem xiZ (P : Nat) (s : ByteArray) (n : Int) (k : Nat) (w : World) (h : CS w P s n 0) (_hk : k <= s.size) (_hm : s.size <= maxLen) :
  Calls Tryz.prog 37 #[.pointer (some ⟨P,0,none⟩),.int .i64 k,.int .i64 0] w fun r w' => r = .returned (.bool true) /\ CS w' P (s.extract k s.size) n 0 /\ Chg P w w' := by
 have HR : Hid (CS w P s n 0) := h
 clear h
 unfold maxLen at _hm
 go_enter Tryz.func37,Tryz.ntmps37
 go_wp2_with fail
 refine (xgE P s n 0 0 false _ HR.out).mono ?_
 rintro e w1 ⟨rfl,r1,k1⟩
 rw [if_neg (by decide)] at r1
 obtain ⟨d0,d1,d2⟩ := r1.cell
 have hf := r1.frozen 0
 have HR1 : Hid (CS w1 P s n 0) := r1
 clear r1
 go_wp2
 go_ret
 exact ⟨rfl,HR1.out.set0 _,k1.trans (Chg.set _ _ _ _)⟩
theorem xgV (P : Nat) (s : ByteArray) (n a e k : Int) (w : World) (h : CS w P s n a) (he : e ≠ 0) :
  Calls Tryz.prog 37 #[.pointer (some ⟨P,0,none⟩),.int .i64 k,.int .i64 e] w fun r w' => r = .returned (.bool false) /\ CS w' P s n (xbD a e) /\ Chg P w w' := by
 have HR : Hid (CS w P s n a) := h
 have hne := xsT (a := a) he
 have hb : (e == 0) = false := by rw [beq_eq_false_iff_ne]; exact he
 have HS : Hid (∀ w,CS w P s n a -> Calls Tryz.prog 13 #[.pointer (some ⟨P,0,none⟩),.bool (e != 0),.int .i64 e] w fun r w' => r = .returned (.tuple #[]) /\ CS w' P s n (xbD a e) /\ Chg P w w') := fun w h => by
  have := xgE P s n a e true w h
  rw [if_pos rfl] at this
  rw [show (e != 0) = true by rw [bne,hb]; rfl]
  exact this
 generalize xbD a e = b at HS hne ⊢
 clear h he
 go_enter Tryz.func37,Tryz.ntmps37
 go_wp2_with fail
 refine (HS.out _ HR.out).mono ?_
 rintro e1 w1 ⟨rfl,r1,k1⟩
 obtain ⟨d0,d1,d2⟩ := r1.cell
 go_wp2
 go_ret
 exact ⟨rfl,r1,k1⟩
theorem yjB (P : Nat) (s : ByteArray) (n a : Int) (w : World) (h : CS w P s n a) (_hm : s.size <= 9223372036854775807) (_h1 : 0 <= n) (_h2 : n <= 9223372036854775807) :
  Calls Tryz.prog 100 #[.pointer (some ⟨P,0,none⟩)] w fun r w' => r = .returned (.int .i64 (n - s.size)) /\ w' = w.drew := by
 obtain ⟨c0,c1,c2⟩ := h.cell
 clear h
 go_enter Tryz.func100,Tryz.ntmps100
 go_wp2_with fail
 go_region
 all_goals (go_wp2; go_ret; exact ⟨rfl,rfl⟩)
theorem xmS (P : Nat) (s : ByteArray) (n a e k : Int) (w : World) (h : CS w P s n a) (ha : a ≠ 0) :
  Calls Tryz.prog 37 #[.pointer (some ⟨P,0,none⟩),.int .i64 k,.int .i64 e] w fun r w' => r = .returned (.bool false) /\ CS w' P s n a /\ Chg P w w' := by
 have HR : Hid (CS w P s n a) := h
 have hne : (a == 0) = false := by rw [beq_eq_false_iff_ne]; exact ha
 have HS : Hid (∀ w,CS w P s n a -> Calls Tryz.prog 13 #[.pointer (some ⟨P,0,none⟩),.bool (e != 0),.int .i64 e] w fun r w' => r = .returned (.tuple #[]) /\ CS w' P s n a /\ Chg P w w') := fun w h => by
  have := xgE P s n a e (e != 0) w h
  have e1 : (if (e != 0) = true then xbD a e else a) = a := by
   split
   ·unfold xbD; rw [if_neg ha]
   ·rfl
  rwa [e1] at this
 clear h ha
 go_enter Tryz.func37,Tryz.ntmps37
 go_wp2_with fail
 refine (HS.out _ HR.out).mono ?_
 rintro e1 w1 ⟨rfl,r1,k1⟩
 obtain ⟨d0,d1,d2⟩ := r1.cell
 go_wp2
 go_ret
 exact ⟨rfl,r1,k1⟩
theorem yhI (P : Nat) (s : ByteArray) (n : Int) (n0 : Int) (_n0 : 0 <= n0) (_n1 : n0 < 4294967296) (w : World) (k : Nat) (hk : k <= s.size) (hm : s.size <= maxLen) (HRD : Hid (∀ w,Calls Tryz.prog 66 #[.string s,.int .i64 32] w fun e' w' => e' = .returned (.tuple #[.int .u64 n0,.int .i64 (k : Int),.int .i64 0]) /\ Below w.heap.size w w')) (h : CS w P s n 0) :
  Calls Tryz.prog 36 #[.pointer (some ⟨P,0,none⟩)] w fun r w' => r = .returned (.int .i64 n0) /\ CS w' P (s.extract k s.size) n 0 /\ Chg P w w' := by
 obtain ⟨c0,c1,c2⟩ := h.cell
 have HR : Hid (CS w P s n 0) := h
 clear h
 go_enter Tryz.func36,Tryz.ntmps36
 go_wp2_with fail
 refine (HRD.out _).mono ?_
 rintro e1 w1 ⟨rfl,b1⟩
 clear c0 c1 c2
 go_wp2_with fail
 refine (xiZ P s n k _ (HR.out.below b1) hk hm).mono ?_
 rintro e1 w2 ⟨rfl,r2,k2⟩
 go_wp2
 go_ret
 exact ⟨rfl,r2,(Chg.of_below b1).trans k2⟩
theorem ydC (P : Nat) (s : ByteArray) (n : Int) (n0 : Int) (w : World) (a k e : Int) (HRD : Hid (∀ w,Calls Tryz.prog 66 #[.string s,.int .i64 32] w fun e' w' => e' = .returned (.tuple #[.int .u64 n0,.int .i64 k,.int .i64 e]) /\ Below w.heap.size w w')) (h : CS w P s n a) (he : e ≠ 0) :
  Calls Tryz.prog 36 #[.pointer (some ⟨P,0,none⟩)] w fun r w' => r = .returned (.int .i64 0) /\ CS w' P s n (xbD a e) /\ Chg P w w' := by
 obtain ⟨c0,c1,c2⟩ := h.cell
 have HR : Hid (CS w P s n a) := h
 clear h
 go_enter Tryz.func36,Tryz.ntmps36
 go_wp2_with fail
 refine (HRD.out _).mono ?_
 rintro e1 w1 ⟨rfl,b1⟩
 clear c0 c1 c2
 go_wp2_with fail
 refine (xgV P s n a e k _ (HR.out.below b1) he).mono ?_
 rintro e1 w2 ⟨rfl,r2,k2⟩
 go_wp2
 go_ret
 exact ⟨rfl,r2,(Chg.of_below b1).trans k2⟩
theorem ydD (P : Nat) (s : ByteArray) (n : Int) (n0 : Int) (w : World) (a k e : Int) (HRD : Hid (∀ w,Calls Tryz.prog 66 #[.string s,.int .i64 32] w fun e' w' => e' = .returned (.tuple #[.int .u64 n0,.int .i64 k,.int .i64 e]) /\ Below w.heap.size w w')) (h : CS w P s n a) (ha : a ≠ 0) :
  Calls Tryz.prog 36 #[.pointer (some ⟨P,0,none⟩)] w fun r w' => r = .returned (.int .i64 0) /\ CS w' P s n a /\ Chg P w w' := by
 obtain ⟨c0,c1,c2⟩ := h.cell
 have HR : Hid (CS w P s n a) := h
 clear h
 go_enter Tryz.func36,Tryz.ntmps36
 go_wp2_with fail
 refine (HRD.out _).mono ?_
 rintro e1 w1 ⟨rfl,b1⟩
 clear c0 c1 c2
 go_wp2_with fail
 refine (xmS P s n a e k _ (HR.out.below b1) ha).mono ?_
 rintro e1 w2 ⟨rfl,r2,k2⟩
 go_wp2
 go_ret
 exact ⟨rfl,r2,(Chg.of_below b1).trans k2⟩
theorem xvX (P : Nat) (s : ByteArray) (n : Int) (n0 : Int) (B : Int) (w : World) (k : Nat) (hk : k <= s.size) (hm : s.size <= maxLen) (HRD : Hid (∀ w,Calls Tryz.prog 87 #[.string s,.int .i64 B] w fun e' w' => e' = .returned (.tuple #[.int .i64 n0,.int .i64 (k : Int),.int .i64 0]) /\ Below w.heap.size w w')) (h : CS w P s n 0) :
  Calls Tryz.prog 68 #[.pointer (some ⟨P,0,none⟩),.int .i64 B] w fun r w' => r = .returned (.int .i64 n0) /\ CS w' P (s.extract k s.size) n 0 /\ Chg P w w' := by
 obtain ⟨c0,c1,c2⟩ := h.cell
 have HR : Hid (CS w P s n 0) := h
 clear h
 go_enter Tryz.func68,Tryz.ntmps68
 go_wp2_with fail
 refine (HRD.out _).mono ?_
 rintro e1 w1 ⟨rfl,b1⟩
 clear c0 c1 c2
 go_wp2_with fail
 refine (xiZ P s n k _ (HR.out.below b1) hk hm).mono ?_
 rintro e1 w2 ⟨rfl,r2,k2⟩
 go_wp2
 go_ret
 exact ⟨rfl,r2,(Chg.of_below b1).trans k2⟩
theorem xsB (P : Nat) (s : ByteArray) (n : Int) (n0 : Int) (B : Int) (w : World) (a k e : Int) (HRD : Hid (∀ w,Calls Tryz.prog 87 #[.string s,.int .i64 B] w fun e' w' => e' = .returned (.tuple #[.int .i64 n0,.int .i64 k,.int .i64 e]) /\ Below w.heap.size w w')) (h : CS w P s n a) (he : e ≠ 0) :
  Calls Tryz.prog 68 #[.pointer (some ⟨P,0,none⟩),.int .i64 B] w fun r w' => r = .returned (.int .i64 0) /\ CS w' P s n (xbD a e) /\ Chg P w w' := by
 obtain ⟨c0,c1,c2⟩ := h.cell
 have HR : Hid (CS w P s n a) := h
 clear h
 go_enter Tryz.func68,Tryz.ntmps68
 go_wp2_with fail
 refine (HRD.out _).mono ?_
 rintro e1 w1 ⟨rfl,b1⟩
 clear c0 c1 c2
 go_wp2_with fail
 refine (xgV P s n a e k _ (HR.out.below b1) he).mono ?_
 rintro e1 w2 ⟨rfl,r2,k2⟩
 go_wp2
 go_ret
 exact ⟨rfl,r2,(Chg.of_below b1).trans k2⟩
theorem xsC (P : Nat) (s : ByteArray) (n : Int) (n0 : Int) (B : Int) (w : World) (a k e : Int) (HRD : Hid (∀ w,Calls Tryz.prog 87 #[.string s,.int .i64 B] w fun e' w' => e' = .returned (.tuple #[.int .i64 n0,.int .i64 k,.int .i64 e]) /\ Below w.heap.size w w')) (h : CS w P s n a) (ha : a ≠ 0) :
  Calls Tryz.prog 68 #[.pointer (some ⟨P,0,none⟩),.int .i64 B] w fun r w' => r = .returned (.int .i64 0) /\ CS w' P s n a /\ Chg P w w' := by
 obtain ⟨c0,c1,c2⟩ := h.cell
 have HR : Hid (CS w P s n a) := h
 clear h
 go_enter Tryz.func68,Tryz.ntmps68
 go_wp2_with fail
 refine (HRD.out _).mono ?_
 rintro e1 w1 ⟨rfl,b1⟩
 clear c0 c1 c2
 go_wp2_with fail
 refine (xmS P s n a e k _ (HR.out.below b1) ha).mono ?_
 rintro e1 w2 ⟨rfl,r2,k2⟩
 go_wp2
 go_ret
 exact ⟨rfl,r2,(Chg.of_below b1).trans k2⟩
theorem xjS (s : ByteArray) (_hs : s.size <= 9223372036854775807) (w : World) :
  Calls Tryz.prog 10 #[.string s] w fun r w' => r = .returned (.pointer (some ⟨w.heap.size,0,none⟩)) /\ CS w' w.heap.size s s.size 0 /\ Below w.heap.size w w' := by
 go_enter Tryz.func10,Tryz.ntmps10
 go_wp2_with fail
 go_ret
 exact ⟨rfl,xaZ _ _,(Below.refl _ _).alloc (Nat.le_refl _) _⟩
end Go.Proofs.YtmmjgdaamkdncaaGreatDoor
