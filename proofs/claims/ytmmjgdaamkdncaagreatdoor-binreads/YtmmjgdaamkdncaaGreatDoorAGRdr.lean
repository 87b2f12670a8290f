import Derived.Test.YtmmjgdaamkdncaaGreatDoorAGIns
import Derived.Test.YtmmjgdaamkdncaaGreatDoorAGLeb
namespace Go.Proofs.YtmmjgdaamkdncaaGreatDoor
set_option maxHeartbeats 2000000
set_option maxRecDepth 1000000
set_option linter.unusedVariables false
open Go.RowKit
structure Chg (P : Nat) (w w' : World) : Prop where
 os : w'.os = w.os
 tape : w'.tape = w.tape
 output : w'.output = w.output
 size : w.heap.size <= w'.heap.size
 block : ∀ k,k < w.heap.size -> k ≠ P -> w'.heap[k]? = w.heap[k]?
theorem Chg.refl (P : Nat) (w : World) : Chg P w w := ⟨rfl,rfl,rfl,Nat.le_refl _,fun _ _ _ => rfl⟩
theorem Chg.trans {P : Nat} {a b c : World} (h : Chg P a b) (k : Chg P b c) : Chg P a c :=
 ⟨k.os.trans h.os,k.tape.trans h.tape,k.output.trans h.output,Nat.le_trans h.size k.size,fun i hi hp => (k.block i (Nat.lt_of_lt_of_le hi h.size) hp).trans (h.block i hi hp)⟩
theorem Chg.set (P i : Nat) (w : World) (v : Value) : Chg P w (w.setCell ⟨P,i,none⟩ v) :=
 ⟨rfl,rfl,rfl,by simp,fun k _ hp => Below.heap_setCell w ⟨P,i,none⟩ v k hp⟩
theorem Chg.of_below {P : Nat} {w w' : World} (h : Below w.heap.size w w') : Chg P w w' := ⟨h.os,h.tape,h.output,h.size,fun k hk _ => h.block k hk⟩
theorem Chg.below {P B : Nat} {w w' : World} (h : Chg P w w') (hP : B <= P) (hB : B <= w.heap.size) : Below B w w' := ⟨h.os,h.tape,h.output,h.size,fun k hk => h.block k (by omega) (by omega)⟩
theorem Chg.cell {P : Nat} {w w' : World} (h : Chg P w w') (a : Addr) (h1 : a.block < w.heap.size) (h2 : a.block ≠ P) : w'.cell? a = w.cell? a := World.cell?_of_block (w := w) (h.block a.block h1 h2)
def RS (w : World) (P : Nat) (s : ByteArray) (e : Int) : Prop := w.heap[P]? = some (.cells #[.string s,.int .i64 e] 173 (0,0))
theorem RS.lt {w : World} {P : Nat} {s : ByteArray} {e : Int} (h : RS w P s e) : P < w.heap.size := by
 unfold RS at h
 exact (Array.getElem?_eq_some_iff.1 h).1
theorem RS.c0 {w : World} {P : Nat} {s : ByteArray} {e : Int} (h : RS w P s e) : w.cell? ⟨P,0,none⟩ = some (.string s) := by
 unfold RS at h
 simp [World.cell?,h]
theorem RS.c1 {w : World} {P : Nat} {s : ByteArray} {e : Int} (h : RS w P s e) : w.cell? ⟨P,1,none⟩ = some (.int .i64 e) := by
 unfold RS at h
 simp [World.cell?,h]
theorem RS.f0 {w : World} {P : Nat} {s : ByteArray} {e : Int} (h : RS w P s e) (i : Nat) : w.frozen? ⟨P,i,none⟩ = false := by
 unfold RS at h
 simp [World.frozen?,h]
theorem RS.set0 {w : World} {P : Nat} {s : ByteArray} {e : Int} (h : RS w P s e) (t : ByteArray) : RS (w.setCell ⟨P,0,none⟩ (.string t)) P t e := by
 unfold RS at h ⊢
 simp [World.setCell,Array.getElem?_modify,h]
theorem RS.set1 {w : World} {P : Nat} {s : ByteArray} {e : Int} (h : RS w P s e) (d : Int) : RS (w.setCell ⟨P,1,none⟩ (.int .i64 d)) P s d := by
 unfold RS at h ⊢
 simp [World.setCell,Array.getElem?_modify,h]
theorem RS.chg {w w' : World} {P : Nat} {s : ByteArray} {e : Int} (h : RS w P s e) (hb : Below w.heap.size w w') : RS w' P s e := by
 unfold RS at h ⊢
 rw [hb.block P (RS.lt h),h]
def xbD (a b : Int) : Int := if a = 0 then b else a
theorem xjQ (P : Nat) (s : ByteArray) (a e : Int) (w : World) (h : RS w P s a) :
  Calls Tryz.prog 124 #[.pointer (some ⟨P,0,none⟩),.int .i64 e] w fun r w' => r = .returned (.tuple #[]) /\ RS w' P s (xbD a e) /\ Chg P w w' := by
 have hc := h.c1
 have hf := h.f0 1
 have HR : Hid (RS w P s a) := h
 clear h
 by_cases h0 : a = 0
 ·subst h0
  go_enter Tryz.func124,Tryz.ntmps124
  go_wp2
  go_end0
  exact ⟨rfl,HR.out.set1 e,Chg.set _ _ _ _⟩
 ·have hb : (a == 0) = false := by rw [beq_eq_false_iff_ne]; exact h0
  have e1 : xbD a e = a := by unfold xbD; rw [if_neg h0]
  rw [e1]
  go_enter Tryz.func124,Tryz.ntmps124
  go_wp2
  go_end0
  exact ⟨rfl,HR.out,Chg.refl _ _⟩
theorem yaX (P : Nat) (s : ByteArray) (a : Int) (w : World) (h : RS w P s a) (_hs : s.size = 0) :
  Calls Tryz.prog 122 #[.pointer (some ⟨P,0,none⟩)] w fun r w' => r = .returned (.int .u8 0) /\ RS w' P s (xbD a 3) /\ Chg P w w' := by
 have hc := h.c0
 have HR : Hid (RS w P s a) := h
 clear h
 go_enter Tryz.func122,Tryz.ntmps122
 go_wp2_with fail
 refine (xjQ P s a 3 _ HR.out).mono ?_
 rintro e w1 ⟨rfl,r1,c1⟩
 go_wp2
 go_ret
 exact ⟨rfl,r1,c1⟩
theorem xwQ (P : Nat) (s : ByteArray) (a : Int) (w : World) (h : RS w P s a) (hs : 0 < s.size) (hm : s.size <= maxLen) :
  Calls Tryz.prog 122 #[.pointer (some ⟨P,0,none⟩)] w fun r w' => r = .returned (.int .u8 ((s[0]'hs).toNat : Int)) /\ RS w' P (s.extract 1 s.size) a /\ Chg P w w' := by
 have hc := h.c0
 have hf := h.f0 0
 have HR : Hid (RS w P s a) := h
 clear h
 unfold maxLen at hm
 go_enter Tryz.func122,Tryz.ntmps122
 go_wp2
 go_ret
 exact ⟨rfl,HR.out.set0 _,Chg.set _ _ _ _⟩
theorem xzX (P : Nat) (s : ByteArray) (a n : Int) (k : Nat) (_n0 : 0 <= n) (_n1 : n < 4294967296) (w : World) (h : RS w P s a) (_hm : s.size <= maxLen) (_hk : k <= s.size) (HRD : Hid (∀ w,Calls Tryz.prog 72 #[.string s,.int .i64 32] w fun e' w' => e' = .returned (.tuple #[.int .u64 n,.int .i64 (k : Int),.int .i64 0]) /\ w' = w)) :
  Calls Tryz.prog 138 #[.pointer (some ⟨P,0,none⟩),.func (.func 72) #[] #[],.int .i64 32] w fun r w' => r = .returned (.int .i64 n) /\ RS w' P (s.extract k s.size) a /\ Chg P w w' := by
 have hc := h.c0
 have hf := h.f0 0
 have HR : Hid (RS w P s a) := h
 clear h
 unfold maxLen at _hm
 go_enter Tryz.func138,Tryz.ntmps138
 go_wp2_with fail
 refine (HRD.out _).mono ?_
 rintro e w1 ⟨rfl,rfl⟩
 go_wp2
 go_ret
 exact ⟨rfl,HR.out.set0 _,Chg.set _ _ _ _⟩
theorem xuB (P : Nat) (s : ByteArray) (a n k e : Int) (_he : (e == 0) = false) (w : World) (h : RS w P s a) (HRD : Hid (∀ w,Calls Tryz.prog 72 #[.string s,.int .i64 32] w fun e' w' => e' = .returned (.tuple #[.int .u64 n,.int .i64 k,.int .i64 e]) /\ w' = w)) :
  Calls Tryz.prog 138 #[.pointer (some ⟨P,0,none⟩),.func (.func 72) #[] #[],.int .i64 32] w fun r w' => r = .returned (.int .i64 0) /\ RS w' P s (xbD a e) /\ Chg P w w' := by
 have hc := h.c0
 have HR : Hid (RS w P s a) := h
 clear h
 go_enter Tryz.func138,Tryz.ntmps138
 go_wp2_with fail
 refine (HRD.out _).mono ?_
 rintro e w1 ⟨rfl,rfl⟩
 go_wp2_with fail
 refine (xjQ P s a e _ HR.out).mono ?_
 rintro e w1 ⟨rfl,r1,c1⟩
 go_wp2
 go_ret
 exact ⟨rfl,r1,c1⟩
theorem xzW (P : Nat) (s : ByteArray) (a n : Int) (k : Nat) (B : Int) (_n0 : -9223372036854775808 <= n) (_n1 : n <= 9223372036854775807) (w : World) (h : RS w P s a) (_hm : s.size <= maxLen) (_hk : k <= s.size) (HRD : Hid (∀ w,Calls Tryz.prog 94 #[.string s,.int .i64 B] w fun e' w' => e' = .returned (.tuple #[.int .i64 n,.int .i64 (k : Int),.int .i64 0]) /\ w' = w)) :
  Calls Tryz.prog 129 #[.pointer (some ⟨P,0,none⟩),.func (.func 94) #[] #[],.int .i64 B] w fun r w' => r = .returned (.int .i64 n) /\ RS w' P (s.extract k s.size) a /\ Chg P w w' := by
 have hc := h.c0
 have hf := h.f0 0
 have HR : Hid (RS w P s a) := h
 clear h
 unfold maxLen at _hm
 go_enter Tryz.func129,Tryz.ntmps129
 go_wp2_with fail
 refine (HRD.out _).mono ?_
 rintro e w1 ⟨rfl,rfl⟩
 go_wp2
 go_ret
 exact ⟨rfl,HR.out.set0 _,Chg.set _ _ _ _⟩
theorem xuA (P : Nat) (s : ByteArray) (a n k e : Int) (B : Int) (_he : (e == 0) = false) (w : World) (h : RS w P s a) (HRD : Hid (∀ w,Calls Tryz.prog 94 #[.string s,.int .i64 B] w fun e' w' => e' = .returned (.tuple #[.int .i64 n,.int .i64 k,.int .i64 e]) /\ w' = w)) :
  Calls Tryz.prog 129 #[.pointer (some ⟨P,0,none⟩),.func (.func 94) #[] #[],.int .i64 B] w fun r w' => r = .returned (.int .i64 0) /\ RS w' P s (xbD a e) /\ Chg P w w' := by
 have hc := h.c0
 have HR : Hid (RS w P s a) := h
 clear h
 go_enter Tryz.func129,Tryz.ntmps129
 go_wp2_with fail
 refine (HRD.out _).mono ?_
 rintro e w1 ⟨rfl,rfl⟩
 go_wp2_with fail
 refine (xjQ P s a e _ HR.out).mono ?_
 rintro e w1 ⟨rfl,r1,c1⟩
 go_wp2
 go_ret
 exact ⟨rfl,r1,c1⟩
def RL (w : World) (P : Nat) (l : List Int) (e : Int) : Prop := ∃ s,xaX s = l /\ s.size <= maxLen /\ RS w P s e
theorem RL.lt {w : World} {P : Nat} {l : List Int} {e : Int} (h : RL w P l e) : P < w.heap.size := by
 obtain ⟨s,_,_,h⟩ := h
 exact h.lt
theorem RL.below {w w' : World} {P : Nat} {l : List Int} {e : Int} (h : RL w P l e) (hb : Below w.heap.size w w') : RL w' P l e := by
 obtain ⟨s,h1,h2,h⟩ := h
 exact ⟨s,h1,h2,h.chg hb⟩
theorem RL.byte {w : World} {P : Nat} {l : List Int} {e : Int} (h : RL w P l e) : ∀ b ∈ l,0 <= b /\ b < 256 := by
 obtain ⟨s,rfl,_,_⟩ := h
 exact xaE s
theorem xbN (s : ByteArray) (k : Nat) : xaX (s.extract k s.size) = (xaX s).drop k := by
 rw [xcV,List.take_of_length_le]
 rw [List.length_drop,xaY]
 exact Nat.le_refl _
theorem xbF (s : ByteArray) (k : Nat) (h : s.size <= maxLen) : (s.extract k s.size).size <= maxLen := by
 rw [ByteArray.size_extract]
 omega
def xbJ : List Int -> Int -> Int × List Int × Int
 | [],a => (0,[],xbD a 3)
 | b :: r,a => (b,r,a)
theorem xmD (P : Nat) (l : List Int) (a : Int) (w : World) (h : RL w P l a) :
  Calls Tryz.prog 122 #[.pointer (some ⟨P,0,none⟩)] w fun r w' => r = .returned (.int .u8 (xbJ l a).1) /\ RL w' P (xbJ l a).2.1 (xbJ l a).2.2 /\ Chg P w w' := by
 obtain ⟨s,rfl,hm,h⟩ := h
 by_cases h0 : s.size = 0
 ·have e : xaX s = [] := List.length_eq_zero_iff.1 (by rw [xaY]; exact h0)
  rw [e]
  refine (yaX P s a w h h0).mono ?_
  rintro r w1 ⟨rfl,h1,c1⟩
  exact ⟨rfl,⟨s,e,hm,h1⟩,c1⟩
 ·have hp : 0 < s.size := by omega
  have e : xaX s = ((s[0]'hp).toNat : Int) :: (xaX s).drop 1 := by
   have := xeZ s 0 hp
   rw [List.drop_zero] at this
   exact this
  refine (xwQ P s a w h hp hm).mono ?_
  rintro r w1 ⟨rfl,h1,c1⟩
  rw [e]
  exact ⟨rfl,⟨_,xbN s 1,xbF s 1 hm,h1⟩,c1⟩
def xaT (l : List Int) (a : Int) : Int × List Int × Int := if (rU 32 l).2.2 = 0 then ((rU 32 l).1,l.drop (rU 32 l).2.1.toNat,a) else (0,l,xbD a (rU 32 l).2.2)
def xcR (B : Int) (l : List Int) (a : Int) : Int × List Int × Int := if (rS B l).2.2 = 0 then ((rS B l).1,l.drop (rS B l).2.1.toNat,a) else (0,l,xbD a (rS B l).2.2)
theorem xmQ (l : List Int) (hl : ∀ b ∈ l,0 <= b /\ b < 256) : (rU 32 l).1 < 4294967296 := by
 have hu : rU 32 l = rdl xeV 32 l 0 0 := by rw [rU,if_pos (Or.inl rfl)]
 rw [hu]
 rcases xfI xeV 32 (Or.inl rfl) l hl with h | h | ⟨f,b,t,e,hf,hb0,hb1,h1,h2,h⟩
 ·rw [h]; omega
 ·rw [h]; omega
 ·rw [h]
  have := yeI 32 f b hb0 hb1 (by omega) (fun hh => by have := h2 (by omega); rw [show ((32 - 7 * f.length : Nat) : Int) = 32 - 7 * (f.length : Int) by omega]; exact this)
  exact this
theorem ydB (P : Nat) (l : List Int) (a : Int) (w : World) (h : RL w P l a) :
  Calls Tryz.prog 138 #[.pointer (some ⟨P,0,none⟩),.func (.func 72) #[] #[],.int .i64 32] w fun r w' => r = .returned (.int .i64 (xaT l a).1) /\ RL w' P (xaT l a).2.1 (xaT l a).2.2 /\ Chg P w w' := by
 have hby := h.byte
 obtain ⟨s,rfl,hm,h⟩ := h
 have hlt := xmQ (xaX s) hby
 unfold xaT
 rcases ykT 32 (Or.inl rfl) (xaX s) hby with ⟨e,he,hr⟩ | ⟨m,k,_,_,hk,hr⟩
 ·have he0 : ¬ e = 0 := by simpa using he
  rw [hr]
  simp only [if_neg he0]
  refine (xuB P s a 0 0 e (by rw [beq_eq_false_iff_ne]; exact he0) w h (fun w => xdL s 32 0 0 e hm hr w)).mono ?_
  rintro r w1 ⟨rfl,h1,c1⟩
  exact ⟨rfl,⟨s,rfl,hm,h1⟩,c1⟩
 ·rw [hr] at hlt
  rw [hr]
  simp only [if_true,Int.toNat_natCast]
  rw [xaY] at hk
  refine (xzX P s a m k (by omega) hlt w h hm hk (fun w => xdL s 32 m k 0 hm hr w)).mono ?_
  rintro r w1 ⟨rfl,h1,c1⟩
  exact ⟨rfl,⟨_,xbN s k,xbF s k hm,h1⟩,c1⟩
theorem xvV (P : Nat) (B : Int) (hB : B = 32 \/ B = 64) (l : List Int) (a : Int) (w : World) (h : RL w P l a) :
  Calls Tryz.prog 129 #[.pointer (some ⟨P,0,none⟩),.func (.func 94) #[] #[],.int .i64 B] w fun r w' => r = .returned (.int .i64 (xcR B l a).1) /\ RL w' P (xcR B l a).2.1 (xcR B l a).2.2 /\ Chg P w w' := by
 have hby := h.byte
 obtain ⟨s,rfl,hm,h⟩ := h
 unfold xcR
 rcases yfE B hB (xaX s) hby with ⟨e,he,hr⟩ | ⟨m,k,hm0,hm1,_,hk,hr⟩
 ·have he0 : ¬ e = 0 := by simpa using he
  rw [hr]
  simp only [if_neg he0]
  refine (xuA P s a 0 0 e B (by rw [beq_eq_false_iff_ne]; exact he0) w h (fun w => xrQ s B 0 0 e hm hr w)).mono ?_
  rintro r w1 ⟨rfl,h1,c1⟩
  exact ⟨rfl,⟨s,rfl,hm,h1⟩,c1⟩
 ·rw [hr]
  simp only [if_true,Int.toNat_natCast]
  rw [xaY] at hk
  refine (xzW P s a m k B hm0 hm1 w h hm hk (fun w => xrQ s B m k 0 hm hr w)).mono ?_
  rintro r w1 ⟨rfl,h1,c1⟩
  exact ⟨rfl,⟨_,xbN s k,xbF s k hm,h1⟩,c1⟩
theorem xcE (P : Nat) (l : List Int) (a : Int) (w : World) (h : RL w P l a) :
  Calls Tryz.prog 126 #[.pointer (some ⟨P,0,none⟩)] w fun r w' => r = .returned (.int .i64 (xaT l a).1) /\ RL w' P (xaT l a).2.1 (xaT l a).2.2 /\ Chg P w w' := by
 have HC := kZz (ydB P l a w h)
 clear h
 generalize xaT l a = m at HC ⊢
 go_enter Tryz.func126,Tryz.ntmps126
 go_wp2_with fail
 refine HC.out.mono ?_
 rintro e w1 ⟨rfl,r1,c1⟩
 go_wp2
 go_ret
 exact ⟨rfl,r1,c1⟩
def xlK (b : Int) : Bool := b == 64 || b == 127 || b == 126
theorem xnZ (b : Int) (w : World) : Calls Tryz.prog 137 #[.int .i64 b] w fun r w' => r = .returned (.bool (xlK b)) /\ w' = w := by
 by_cases h1 : b = 64
 ·subst h1
  go_enter Tryz.func137,Tryz.ntmps137
  go_wp2
  go_ret
  exact ⟨rfl,rfl⟩
 have e1 : (b == 64) = false := by rw [beq_eq_false_iff_ne]; exact h1
 by_cases h2 : b = 127
 ·subst h2
  go_enter Tryz.func137,Tryz.ntmps137
  go_wp2
  go_ret
  exact ⟨rfl,rfl⟩
 have e2 : (b == 127) = false := by rw [beq_eq_false_iff_ne]; exact h2
 have e3 : xlK b = (b == 126) := by unfold xlK; rw [e1,e2]; simp
 rw [e3]
 go_enter Tryz.func137,Tryz.ntmps137
 go_wp2
 go_ret
 exact ⟨rfl,rfl⟩
def xcQ (l : List Int) (a : Int) : Int × List Int × Int := ((xbJ l a).1,(xbJ l a).2.1,if xlK (xbJ l a).1 then (xbJ l a).2.2 else xbD (xbJ l a).2.2 6)
theorem xgR (l : List Int) (a : Int) (hl : ∀ b ∈ l,0 <= b /\ b < 256) : 0 <= (xbJ l a).1 /\ (xbJ l a).1 < 256 := by
 cases l with
 | nil => simp [xbJ]
 | cons b r => exact hl b (by simp)
theorem RL.fail {w : World} {P : Nat} {l : List Int} {a : Int} (h : RL w P l a) (e : Int) :
  Calls Tryz.prog 124 #[.pointer (some ⟨P,0,none⟩),.int .i64 e] w fun r w' => r = .returned (.tuple #[]) /\ RL w' P l (xbD a e) /\ Chg P w w' := by
 obtain ⟨s,h1,h2,h⟩ := h
 refine (xjQ P s a e w h).mono ?_
 rintro r w1 ⟨rfl,h3,c⟩
 exact ⟨rfl,⟨s,h1,h2,h3⟩,c⟩
theorem yaP (P : Nat) (l : List Int) (a : Int) (w : World) (h : RL w P l a) :
  Calls Tryz.prog 125 #[.pointer (some ⟨P,0,none⟩)] w fun r w' => r = .returned (.int .i64 (xcQ l a).1) /\ RL w' P (xcQ l a).2.1 (xcQ l a).2.2 /\ Chg P w w' := by
 have hb := xgR l a h.byte
 have HC := kZz (xmD P l a w h)
 clear h
 unfold xcQ
 obtain ⟨⟨b,l1,a1⟩,hm⟩ : ∃ m,xbJ l a = m := ⟨_,rfl⟩
 rw [hm] at HC hb ⊢
 dsimp only at HC hb ⊢
 obtain ⟨b0,b1⟩ := hb
 clear hm
 cases hk : xlK b with
 | true =>
  have HK : Hid (∀ w,Calls Tryz.prog 137 #[.int .i64 b] w fun r w' => r = .returned (.bool true) /\ w' = w) := fun w => by rw [<- hk]; exact xnZ b w
  clear hk
  go_enter Tryz.func125,Tryz.ntmps125
  go_wp2_with fail
  refine HC.out.mono ?_
  rintro e w1 ⟨rfl,r1,c1⟩
  go_wp2_with fail
  refine (HK.out _).mono ?_
  rintro e w2 ⟨rfl,rfl⟩
  go_wp2
  go_ret
  exact ⟨rfl,r1,c1⟩
 | false =>
  have HK : Hid (∀ w,Calls Tryz.prog 137 #[.int .i64 b] w fun r w' => r = .returned (.bool false) /\ w' = w) := fun w => by rw [<- hk]; exact xnZ b w
  clear hk
  go_enter Tryz.func125,Tryz.ntmps125
  go_wp2_with fail
  refine HC.out.mono ?_
  rintro e w1 ⟨rfl,r1,c1⟩
  go_wp2_with fail
  refine (HK.out _).mono ?_
  rintro e w2 ⟨rfl,rfl⟩
  go_wp2_with fail
  refine (r1.fail 6).mono ?_
  rintro e w3 ⟨rfl,r3,c3⟩
  go_wp2
  go_ret
  exact ⟨rfl,r3,c1.trans c3⟩
def xdZ (l : List Int) (a : Int) : List Int × Int := ((xbJ l a).2.1,if (xbJ l a).1 = 0 then (xbJ l a).2.2 else xbD (xbJ l a).2.2 4)
theorem xqG (P : Nat) (l : List Int) (a : Int) (w : World) (h : RL w P l a) :
  Calls Tryz.prog 128 #[.pointer (some ⟨P,0,none⟩)] w fun r w' => r = .returned (.tuple #[]) /\ RL w' P (xdZ l a).1 (xdZ l a).2 /\ Chg P w w' := by
 have HC := kZz (xmD P l a w h)
 clear h
 unfold xdZ
 obtain ⟨⟨b,l1,a1⟩,hm⟩ : ∃ m,xbJ l a = m := ⟨_,rfl⟩
 rw [hm] at HC ⊢
 dsimp only at HC ⊢
 clear hm
 by_cases hb : b = 0
 ·subst hb
  go_enter Tryz.func128,Tryz.ntmps128
  go_wp2_with fail
  refine HC.out.mono ?_
  rintro e w1 ⟨rfl,r1,c1⟩
  go_wp2
  go_end0
  exact ⟨rfl,r1,c1⟩
 ·have hbb : (b == 0) = false := by rw [beq_eq_false_iff_ne]; exact hb
  have hbn : (b != 0) = true := by rw [bne,hbb]; rfl
  rw [if_neg hb]
  go_enter Tryz.func128,Tryz.ntmps128
  go_wp2_with fail
  refine HC.out.mono ?_
  rintro e w1 ⟨rfl,r1,c1⟩
  go_wp2_with fail
  refine (r1.fail 4).mono ?_
  rintro e w3 ⟨rfl,r3,c3⟩
  go_wp2
  go_end0
  exact ⟨rfl,r3,c1.trans c3⟩
def xbL : Nat -> List Int -> Int -> List Int × List Int × Int
 | 0,l,a => ([],l,a)
 | n + 1,l,a => ((xaT l a).1 :: (xbL n (xaT l a).2.1 (xaT l a).2.2).1,(xbL n (xaT l a).2.1 (xaT l a).2.2).2)
theorem xiI : ∀ (n : Nat) (l : List Int) (a : Int),(xbL n l a).1.length = n
 | 0,_,_ => rfl
 | n + 1,l,a => by rw [xbL,List.length_cons,xiI n]
theorem xhX {w w' : World} {P B g n : Nat} {e : TypeId} {xs : List Value} (h : w.ownsRow B e 1 (.slice (some ⟨g,0,none⟩) n n) n xs) (hc : Chg P w w') (hg : g ≠ P) : w'.ownsRow B e 1 (.slice (some ⟨g,0,none⟩) n n) n xs := by
 have hlt := (h.lt g rfl).2
 obtain ⟨h1,h2⟩ := h
 refine ⟨h1,?_⟩
 rcases h2 with ⟨h,_⟩ | ⟨g',cap,cur,e1,hb,hh,r⟩
 ·cases h
 ·simp only [Value.slice.injEq,Option.some.injEq,Addr.mk.injEq,and_true] at e1
  obtain ⟨rfl,_,_⟩ := e1
  refine Or.inr ⟨g,cap,cur,?_,hb,?_,r⟩
  ·simp; omega
  ·rw [hc.block g hlt hg,hh]
theorem xzN (A Z : List Value) (k : Nat) (y : Value) (hA : A.length = k) (hk : k < Z.length) : (A ++ Z.drop k).set k y = (A ++ [y]) ++ Z.drop (k + 1) := by
 rw [List.set_append_right _ _ (by omega),hA,Nat.sub_self,List.drop_eq_getElem_cons hk,List.set_cons_zero,List.append_assoc]
 rfl
theorem Tryz.infoI64 : (Tryz.prog.info? 2).map (fun i => (i.zero,i.size,i.bytes)) = some (some (.int .i64 0),1,8) := by kernel_rfl
theorem xqY (P n : Nat) (l1 X LF : List Int) (a1 AF : Int) (hn : n <= 16) (hF : xbL n l1 a1 = (X,LF,AF)) (w : World) (hP : P < w.heap.size) (HC : Hid (Calls Tryz.prog 126 #[.pointer (some ⟨P,0,none⟩)] w fun r w' => r = .returned (.int .i64 (n : Int)) /\ RL w' P l1 a1 /\ Chg P w w')) :
  Calls Tryz.prog 127 #[.pointer (some ⟨P,0,none⟩)] w fun r w' => ∃ g,r = .returned (.slice (some ⟨g,0,none⟩) n n) /\ w'.ownsRow w.heap.size 2 1 (.slice (some ⟨g,0,none⟩) n n) n (X.map (Value.int .i64)) /\ RL w' P LF AF /\ Chg P w w' := by
 obtain ⟨i0,hi,hz0,hz1,hz2⟩ := info_parts Tryz.infoI64
 have HF : Hid (xbL n l1 a1 = (X,LF,AF)) := hF
 clear hF
 go_enter Tryz.func127,Tryz.ntmps127
 go_wp2_with fail
 refine HC.out.mono ?_
 rintro e w1 ⟨rfl,r1,c1⟩
 have HR1 : Hid (RL w1 P l1 a1) := r1
 have HC1 : Hid (Chg P w w1) := c1
 have hs1 := c1.size
 clear r1 c1 HC
 go_wp2_with (at_make; refine wpList_make_full _ rfl _ _ 98 rfl w.heap.size 2 i0 (.int .i64 0) 1 Tryz.underlying98 hi hz0 hz1 .i64 .i64 (n : Int) (n : Int) n rfl rfl rfl rfl ?b2 ?b3 hs1 ?_)
 case b2 => rw [hz2]; omega
 case b3 => unfold maxLen; omega
 intro w2 hown hgrow
 obtain ⟨Z,hlz2,hownZ⟩ : ∃ Z : List Value,Z.length = n /\ w2.ownsRow w.heap.size 2 1 (.slice (some ⟨w1.heap.size,0,none⟩) n n) n Z := ⟨_,by have := hown.1; simpa using this,hown⟩
 clear hown
 have hown := hownZ
 clear hownZ
 have hb12 : Below w1.heap.size w1 w2 := (Below.refl _ _).grown hgrow (Nat.le_refl _) (fun j hj => by cases hj)
 have hgP : w1.heap.size ≠ P := by omega
 have HR2 : Hid (RL w2 P l1 a1) := HR1.out.below hb12
 have HC2 : Hid (Chg P w w2) := HC1.out.trans (Chg.of_below hb12)
 clear hgrow hb12 HR1 HC1
 generalize w1.heap.size = g at hown hgP hs1
 clear hz2
 have HLZ : Hid (Z.length = n) := hlz2
 clear hlz2
 go_wp2
 go_loopw [16] (fun i wr => ∃ k : Nat,∃ ys lk xs : List Int,∃ ak : Int,i = .int .i64 k /\ k <= n /\ Hid (ys.length = k /\ xbL (n - k) lk ak = (xs,LF,AF) /\ X = ys ++ xs) /\ wr.ownsRow w.heap.size 2 1 (.slice (some ⟨g,0,none⟩) n n) n (ys.map (Value.int .i64) ++ Z.drop k) /\ Hid (RL wr P lk ak) /\ Hid (Chg P w wr)) (fun i _ => n - (intOf i).toNat)
 case atStart => exact ⟨0,[],l1,X,a1,rfl,by omega,⟨rfl,HF.out,rfl⟩,by simpa using hown,HR2,HC2⟩
 case round =>
  obtain ⟨k,ys,lk,xs,ak,rfl,hk,HI,hq,HRk,HCk⟩ := hrel
  clear hown HR2 HC2 HF
  by_cases hlt : k < n
  ·have hki0 : (0 : Int) <= (k : Int) := by omega
   have hki1 : (k : Int) < (n : Int) := by omega
   have HN := kZz (xcE P lk ak wr HRk.out)
   have HQ := kZz hq
   clear hq
   go_wp2_with fail
   refine HN.out.mono ?_
   rintro e w3 ⟨rfl,r3,c3⟩
   have hq3 := xhX HQ.out c3 hgP
   have hst := (hq3.stored k (.int .i64 (xaT lk ak).1)).1
   have hcell : w3.cell? ⟨g,k,none⟩ = some (Z.getD k (.int .i64 0)) := by
    rw [hq3.cellAt k (by omega),List.getElem?_append_right (by rw [List.length_map,HI.out.1]; exact Nat.le_refl _),List.length_map,HI.out.1,Nat.sub_self,List.getElem?_drop,Nat.add_zero,List.getElem?_eq_getElem (by rw [HLZ.out]; exact hlt),List.getD_eq_getElem?_getD,List.getElem?_eq_getElem (by rw [HLZ.out]; exact hlt)]
    rfl
   have hfz := hq3.frozenAt k
   rw [xzN _ _ _ _ (by rw [List.length_map]; exact HI.out.1) (by rw [HLZ.out]; exact hlt)] at hst
   have HST : Hid (((w3.setCell ⟨g,k,none⟩ (.int .i64 (xaT lk ak).1)).ownsRow w.heap.size 2 1 (.slice (some ⟨g,0,none⟩) n n) n ((ys ++ [(xaT lk ak).1]).map (Value.int .i64) ++ Z.drop (k + 1)))) := by
    unfold Hid
    rw [List.map_append]
    exact hst
   have hgw : w.heap.size <= g := (HQ.out.lt g rfl).1
   have HR4 : Hid (RL (w3.setCell ⟨g,k,none⟩ (.int .i64 (xaT lk ak).1)) P (xaT lk ak).2.1 (xaT lk ak).2.2) := by
    obtain ⟨s,h1,h2,h3⟩ := r3
    refine ⟨s,h1,h2,?_⟩
    unfold RS at h3 ⊢
    rw [Below.heap_setCell _ _ _ _ (by simpa using hgP.symm)]
    exact h3
   have HC4 : Hid (Chg P w (w3.setCell ⟨g,k,none⟩ (.int .i64 (xaT lk ak).1))) := by
    have h := HCk.out.trans c3
    refine ⟨h.os,h.tape,h.output,by have := h.size; simpa using this,fun i hi hp => ?_⟩
    rw [Below.heap_setCell _ _ _ _ (by simp only; omega)]
    exact h.block i hi hp
   have HI4 : Hid ((ys ++ [(xaT lk ak).1]).length = k + 1 /\ xbL (n - (k + 1)) (xaT lk ak).2.1 (xaT lk ak).2.2 = ((xbL (n - (k + 1)) (xaT lk ak).2.1 (xaT lk ak).2.2).1,LF,AF) /\ X = (ys ++ [(xaT lk ak).1]) ++ (xbL (n - (k + 1)) (xaT lk ak).2.1 (xaT lk ak).2.2).1) := by
    obtain ⟨h1,h2,h3⟩ := HI.out
    rw [show n - k = (n - (k + 1)) + 1 by omega,xbL] at h2
    simp only [Prod.mk.injEq] at h2
    obtain ⟨e1,e2⟩ := h2
    refine ⟨by rw [List.length_append,h1]; rfl,?_,?_⟩
    ·rw [<- e2]
    ·rw [h3,<- e1,List.append_assoc]; rfl
   clear hq3 hst r3 c3 HQ HI HRk HCk HN
   generalize (xaT lk ak).2.1 = l4 at HR4 HI4
   generalize (xaT lk ak).2.2 = a4 at HR4 HI4
   generalize (xaT lk ak).1 = y at HST HR4 HC4 HI4 ⊢
   go_wp2
   go_roundw
   case rel => exact ⟨k + 1,ys ++ [y],l4,_,a4,by go_num,by omega,HI4,HST.out,HR4,HC4⟩
   case measure => simp [intOf]; omega
  ·have hkn : k = n := by omega
   subst hkn
   have HO : Hid (wr.ownsRow w.heap.size 2 1 (.slice (some ⟨g,0,none⟩) k k) k (X.map (Value.int .i64))) := by
    obtain ⟨h1,h2,h3⟩ := HI.out
    rw [Nat.sub_self,xbL] at h2
    simp only [Prod.mk.injEq] at h2
    obtain ⟨rfl,_,_⟩ := h2
    rw [List.append_nil] at h3
    subst h3
    rw [List.drop_eq_nil_of_le (by rw [HLZ.out]; exact Nat.le_refl _),List.append_nil] at hq
    exact hq
   have HR : Hid (RL wr P LF AF) := by
    obtain ⟨h1,h2,h3⟩ := HI.out
    rw [Nat.sub_self,xbL] at h2
    simp only [Prod.mk.injEq] at h2
    obtain ⟨_,rfl,rfl⟩ := h2
    exact HRk.out
   clear hq
   go_wp2
   go_ret
   exact ⟨g,rfl,HO.out,HR.out,HCk.out⟩
def xaP (l : List Int) (a : Int) : List Int × List Int × Int := if (xaT l a).1 > 16 then ([],(xaT l a).2.1,xbD (xaT l a).2.2 2) else xbL (xaT l a).1.toNat (xaT l a).2.1 (xaT l a).2.2
theorem xoP (P : Nat) (n : Int) (l1 : List Int) (a1 : Int) (_hn : 16 < n) (w : World) (HC : Hid (Calls Tryz.prog 126 #[.pointer (some ⟨P,0,none⟩)] w fun r w' => r = .returned (.int .i64 n) /\ RL w' P l1 a1 /\ Chg P w w')) :
  Calls Tryz.prog 127 #[.pointer (some ⟨P,0,none⟩)] w fun r w' => r = .returned (.slice none 0 0) /\ RL w' P l1 (xbD a1 2) /\ Chg P w w' := by
 go_enter Tryz.func127,Tryz.ntmps127
 go_wp2_with fail
 refine HC.out.mono ?_
 rintro e w1 ⟨rfl,r1,c1⟩
 go_wp2_with fail
 refine (r1.fail 2).mono ?_
 rintro e w3 ⟨rfl,r3,c3⟩
 go_wp2
 go_ret
 exact ⟨rfl,r3,c1.trans c3⟩
theorem xkL (l : List Int) (a : Int) (hl : ∀ b ∈ l,0 <= b /\ b < 256) : 0 <= (xaT l a).1 := by
 have h := (xhO 32 l hl).1
 unfold xaT
 split
 ·exact h
 ·exact Int.le_refl _
def IsI (w : World) (B : Nat) (v : Value) (xs : List Int) : Prop := (v = .slice none 0 0 /\ xs = []) \/ ∃ g,v = .slice (some ⟨g,0,none⟩) xs.length xs.length /\ w.ownsRow B 2 1 (.slice (some ⟨g,0,none⟩) xs.length xs.length) xs.length (xs.map (Value.int .i64))
theorem xqX (P : Nat) (l : List Int) (a : Int) (w : World) (h : RL w P l a) :
  Calls Tryz.prog 127 #[.pointer (some ⟨P,0,none⟩)] w fun r w' => ∃ v,r = .returned v /\ IsI w' w.heap.size v (xaP l a).1 /\ RL w' P (xaP l a).2.1 (xaP l a).2.2 /\ Chg P w w' := by
 have hn := xcE P l a w h
 have hp := xkL l a h.byte
 have hP := h.lt
 unfold xaP
 by_cases h16 : (xaT l a).1 > 16
 ·rw [if_pos h16]
  refine (xoP P _ _ _ h16 w hn).mono ?_
  rintro r w1 ⟨rfl,r1,c1⟩
  exact ⟨_,rfl,Or.inl ⟨rfl,rfl⟩,r1,c1⟩
 ·rw [if_neg h16]
  rw [show (xaT l a).1 = (((xaT l a).1.toNat : Nat) : Int) by omega] at hn
  refine (xqY P (xaT l a).1.toNat _ _ _ _ _ (by omega) rfl w hP hn).mono ?_
  rintro r w1 ⟨g,rfl,ho,r1,c1⟩
  have hl := xiI (xaT l a).1.toNat (xaT l a).2.1 (xaT l a).2.2
  refine ⟨_,rfl,Or.inr ⟨g,?_,?_⟩,r1,c1⟩
  ·rw [hl]
  ·rw [hl]; exact ho
def xdM (op : Int) : Int :=
 if op = 0 \/ op = 1 \/ op = 5 \/ op = 11 \/ op = 15 \/ op = 26 \/ op = 27 then 1
 else if op = 2 \/ op = 3 \/ op = 4 then 2
 else if op = 12 \/ op = 13 \/ op = 16 \/ op = 32 \/ op = 33 \/ op = 34 \/ op = 35 \/ op = 36 then 3
 else if op = 14 then 4 else if op = 17 then 5 else if op = 63 \/ op = 64 then 7 else if op = 65 then 8 else if op = 66 then 9
 else if 0 < xfB op then 6 else if 0 < xxB op then 1 else 0
theorem ymZ (w : World) : Calls Tryz.prog 123 #[.int .u8 0] w fun r w' => r = .returned (.int .i64 1) /\ w' = w := by
 go_enter Tryz.func123,Tryz.ntmps123
 go_wp2
 go_ret
 exact ⟨rfl,rfl⟩
theorem ylA (w : World) : Calls Tryz.prog 123 #[.int .u8 1] w fun r w' => r = .returned (.int .i64 1) /\ w' = w := by
 go_enter Tryz.func123,Tryz.ntmps123
 go_wp2
 go_ret
 exact ⟨rfl,rfl⟩
theorem ylE (w : World) : Calls Tryz.prog 123 #[.int .u8 5] w fun r w' => r = .returned (.int .i64 1) /\ w' = w := by
 go_enter Tryz.func123,Tryz.ntmps123
 go_wp2
 go_ret
 exact ⟨rfl,rfl⟩
theorem yjE (w : World) : Calls Tryz.prog 123 #[.int .u8 11] w fun r w' => r = .returned (.int .i64 1) /\ w' = w := by
 go_enter Tryz.func123,Tryz.ntmps123
 go_wp2
 go_ret
 exact ⟨rfl,rfl⟩
theorem yjI (w : World) : Calls Tryz.prog 123 #[.int .u8 15] w fun r w' => r = .returned (.int .i64 1) /\ w' = w := by
 go_enter Tryz.func123,Tryz.ntmps123
 go_wp2
 go_ret
 exact ⟨rfl,rfl⟩
theorem yjL (w : World) : Calls Tryz.prog 123 #[.int .u8 26] w fun r w' => r = .returned (.int .i64 1) /\ w' = w := by
 go_enter Tryz.func123,Tryz.ntmps123
 go_wp2
 go_ret
 exact ⟨rfl,rfl⟩
theorem yjM (w : World) : Calls Tryz.prog 123 #[.int .u8 27] w fun r w' => r = .returned (.int .i64 1) /\ w' = w := by
 go_enter Tryz.func123,Tryz.ntmps123
 go_wp2
 go_ret
 exact ⟨rfl,rfl⟩
theorem ylB (w : World) : Calls Tryz.prog 123 #[.int .u8 2] w fun r w' => r = .returned (.int .i64 2) /\ w' = w := by
 go_enter Tryz.func123,Tryz.ntmps123
 go_wp2
 go_ret
 exact ⟨rfl,rfl⟩
theorem ylC (w : World) : Calls Tryz.prog 123 #[.int .u8 3] w fun r w' => r = .returned (.int .i64 2) /\ w' = w := by
 go_enter Tryz.func123,Tryz.ntmps123
 go_wp2
 go_ret
 exact ⟨rfl,rfl⟩
theorem ylD (w : World) : Calls Tryz.prog 123 #[.int .u8 4] w fun r w' => r = .returned (.int .i64 2) /\ w' = w := by
 go_enter Tryz.func123,Tryz.ntmps123
 go_wp2
 go_ret
 exact ⟨rfl,rfl⟩
theorem yjF (w : World) : Calls Tryz.prog 123 #[.int .u8 12] w fun r w' => r = .returned (.int .i64 3) /\ w' = w := by
 go_enter Tryz.func123,Tryz.ntmps123
 go_wp2
 go_ret
 exact ⟨rfl,rfl⟩
theorem yjG (w : World) : Calls Tryz.prog 123 #[.int .u8 13] w fun r w' => r = .returned (.int .i64 3) /\ w' = w := by
 go_enter Tryz.func123,Tryz.ntmps123
 go_wp2
 go_ret
 exact ⟨rfl,rfl⟩
theorem yjJ (w : World) : Calls Tryz.prog 123 #[.int .u8 16] w fun r w' => r = .returned (.int .i64 3) /\ w' = w := by
 go_enter Tryz.func123,Tryz.ntmps123
 go_wp2
 go_ret
 exact ⟨rfl,rfl⟩
theorem yjN (w : World) : Calls Tryz.prog 123 #[.int .u8 32] w fun r w' => r = .returned (.int .i64 3) /\ w' = w := by
 go_enter Tryz.func123,Tryz.ntmps123
 go_wp2
 go_ret
 exact ⟨rfl,rfl⟩
theorem yjO (w : World) : Calls Tryz.prog 123 #[.int .u8 33] w fun r w' => r = .returned (.int .i64 3) /\ w' = w := by
 go_enter Tryz.func123,Tryz.ntmps123
 go_wp2
 go_ret
 exact ⟨rfl,rfl⟩
theorem yjP (w : World) : Calls Tryz.prog 123 #[.int .u8 34] w fun r w' => r = .returned (.int .i64 3) /\ w' = w := by
 go_enter Tryz.func123,Tryz.ntmps123
 go_wp2
 go_ret
 exact ⟨rfl,rfl⟩
theorem yjQ (w : World) : Calls Tryz.prog 123 #[.int .u8 35] w fun r w' => r = .returned (.int .i64 3) /\ w' = w := by
 go_enter Tryz.func123,Tryz.ntmps123
 go_wp2
 go_ret
 exact ⟨rfl,rfl⟩
theorem yjR (w : World) : Calls Tryz.prog 123 #[.int .u8 36] w fun r w' => r = .returned (.int .i64 3) /\ w' = w := by
 go_enter Tryz.func123,Tryz.ntmps123
 go_wp2
 go_ret
 exact ⟨rfl,rfl⟩
theorem yjH (w : World) : Calls Tryz.prog 123 #[.int .u8 14] w fun r w' => r = .returned (.int .i64 4) /\ w' = w := by
 go_enter Tryz.func123,Tryz.ntmps123
 go_wp2
 go_ret
 exact ⟨rfl,rfl⟩
theorem yjK (w : World) : Calls Tryz.prog 123 #[.int .u8 17] w fun r w' => r = .returned (.int .i64 5) /\ w' = w := by
 go_enter Tryz.func123,Tryz.ntmps123
 go_wp2
 go_ret
 exact ⟨rfl,rfl⟩
theorem yjS (w : World) : Calls Tryz.prog 123 #[.int .u8 63] w fun r w' => r = .returned (.int .i64 7) /\ w' = w := by
 go_enter Tryz.func123,Tryz.ntmps123
 go_wp2
 go_ret
 exact ⟨rfl,rfl⟩
theorem yjT (w : World) : Calls Tryz.prog 123 #[.int .u8 64] w fun r w' => r = .returned (.int .i64 7) /\ w' = w := by
 go_enter Tryz.func123,Tryz.ntmps123
 go_wp2
 go_ret
 exact ⟨rfl,rfl⟩
theorem yjU (w : World) : Calls Tryz.prog 123 #[.int .u8 65] w fun r w' => r = .returned (.int .i64 8) /\ w' = w := by
 go_enter Tryz.func123,Tryz.ntmps123
 go_wp2
 go_ret
 exact ⟨rfl,rfl⟩
theorem yjV (w : World) : Calls Tryz.prog 123 #[.int .u8 66] w fun r w' => r = .returned (.int .i64 9) /\ w' = w := by
 go_enter Tryz.func123,Tryz.ntmps123
 go_wp2
 go_ret
 exact ⟨rfl,rfl⟩
theorem xxG (op wv : Int) (_h0 : (op == 0) = false) (_h1 : (op == 1) = false) (_h5 : (op == 5) = false) (_h11 : (op == 11) = false) (_h15 : (op == 15) = false) (_h26 : (op == 26) = false) (_h27 : (op == 27) = false) (_h2 : (op == 2) = false) (_h3 : (op == 3) = false) (_h4 : (op == 4) = false) (_h12 : (op == 12) = false) (_h13 : (op == 13) = false) (_h16 : (op == 16) = false) (_h32 : (op == 32) = false) (_h33 : (op == 33) = false) (_h34 : (op == 34) = false) (_h35 : (op == 35) = false) (_h36 : (op == 36) = false) (_h14 : (op == 14) = false) (_h17 : (op == 17) = false) (_h63 : (op == 63) = false) (_h64 : (op == 64) = false) (_h65 : (op == 65) = false) (_h66 : (op == 66) = false) (_hw : 0 < wv) (w : World) (HW : Hid (∀ w,Calls Tryz.prog 135 #[.int .u8 op] w fun e w' => e = .returned (.int .i64 wv) /\ w' = w)) : Calls Tryz.prog 123 #[.int .u8 op] w fun r w' => r = .returned (.int .i64 6) /\ Below w.heap.size w w' := by
 go_enter Tryz.func123,Tryz.ntmps123
 go_wp2_with fail
 refine (HW.out _).mono ?_
 rintro e w1 ⟨rfl,rfl⟩
 go_wp2
 go_ret
 exact ⟨rfl,Below.refl _ _⟩
theorem yfL (op nv : Int) (_h0 : (op == 0) = false) (_h1 : (op == 1) = false) (_h5 : (op == 5) = false) (_h11 : (op == 11) = false) (_h15 : (op == 15) = false) (_h26 : (op == 26) = false) (_h27 : (op == 27) = false) (_h2 : (op == 2) = false) (_h3 : (op == 3) = false) (_h4 : (op == 4) = false) (_h12 : (op == 12) = false) (_h13 : (op == 13) = false) (_h16 : (op == 16) = false) (_h32 : (op == 32) = false) (_h33 : (op == 33) = false) (_h34 : (op == 34) = false) (_h35 : (op == 35) = false) (_h36 : (op == 36) = false) (_h14 : (op == 14) = false) (_h17 : (op == 17) = false) (_h63 : (op == 63) = false) (_h64 : (op == 64) = false) (_h65 : (op == 65) = false) (_h66 : (op == 66) = false) (_hn : 0 < nv) (w : World) (HW : Hid (∀ w,Calls Tryz.prog 135 #[.int .u8 op] w fun e w' => e = .returned (.int .i64 0) /\ w' = w)) (HN : Hid (Calls Tryz.prog 136 #[.int .u8 op] w fun e w' => e = .returned (.int .i64 nv) /\ Below w.heap.size w w')) : Calls Tryz.prog 123 #[.int .u8 op] w fun r w' => r = .returned (.int .i64 1) /\ Below w.heap.size w w' := by
 go_enter Tryz.func123,Tryz.ntmps123
 go_wp2_with fail
 refine (HW.out _).mono ?_
 rintro e w1 ⟨rfl,rfl⟩
 go_wp2_with fail
 refine HN.out.mono ?_
 rintro e w2 ⟨rfl,b2⟩
 go_wp2
 go_ret
 exact ⟨rfl,b2⟩
theorem ybU (op : Int) (_h0 : (op == 0) = false) (_h1 : (op == 1) = false) (_h5 : (op == 5) = false) (_h11 : (op == 11) = false) (_h15 : (op == 15) = false) (_h26 : (op == 26) = false) (_h27 : (op == 27) = false) (_h2 : (op == 2) = false) (_h3 : (op == 3) = false) (_h4 : (op == 4) = false) (_h12 : (op == 12) = false) (_h13 : (op == 13) = false) (_h16 : (op == 16) = false) (_h32 : (op == 32) = false) (_h33 : (op == 33) = false) (_h34 : (op == 34) = false) (_h35 : (op == 35) = false) (_h36 : (op == 36) = false) (_h14 : (op == 14) = false) (_h17 : (op == 17) = false) (_h63 : (op == 63) = false) (_h64 : (op == 64) = false) (_h65 : (op == 65) = false) (_h66 : (op == 66) = false) (w : World) (HW : Hid (∀ w,Calls Tryz.prog 135 #[.int .u8 op] w fun e w' => e = .returned (.int .i64 0) /\ w' = w)) (HN : Hid (Calls Tryz.prog 136 #[.int .u8 op] w fun e w' => e = .returned (.int .i64 0) /\ Below w.heap.size w w')) : Calls Tryz.prog 123 #[.int .u8 op] w fun r w' => r = .returned (.int .i64 0) /\ Below w.heap.size w w' := by
 go_enter Tryz.func123,Tryz.ntmps123
 go_wp2_with fail
 refine (HW.out _).mono ?_
 rintro e w1 ⟨rfl,rfl⟩
 go_wp2_with fail
 refine HN.out.mono ?_
 rintro e w2 ⟨rfl,b2⟩
 go_wp2
 go_ret
 exact ⟨rfl,b2⟩
theorem xuW (op : Int) : xxB op = 0 \/ 0 < xxB op := by unfold xxB; cases xmA op <;> cases xfN op <;> simp
theorem xxF (op : Int) (hlo : 0 <= op) (hhi : op <= 255) (w : World) (hT : TabIn w) : Calls Tryz.prog 123 #[.int .u8 op] w fun r w' => r = .returned (.int .i64 (xdM op)) /\ Below w.heap.size w w' := by
 by_cases h0 : op = 0
 ·subst h0; exact xaO (fun w => ymZ w) w
 by_cases h1 : op = 1
 ·subst h1; exact xaO (fun w => ylA w) w
 by_cases h5 : op = 5
 ·subst h5; exact xaO (fun w => ylE w) w
 by_cases h11 : op = 11
 ·subst h11; exact xaO (fun w => yjE w) w
 by_cases h15 : op = 15
 ·subst h15; exact xaO (fun w => yjI w) w
 by_cases h26 : op = 26
 ·subst h26; exact xaO (fun w => yjL w) w
 by_cases h27 : op = 27
 ·subst h27; exact xaO (fun w => yjM w) w
 by_cases h2 : op = 2
 ·subst h2; exact xaO (fun w => ylB w) w
 by_cases h3 : op = 3
 ·subst h3; exact xaO (fun w => ylC w) w
 by_cases h4 : op = 4
 ·subst h4; exact xaO (fun w => ylD w) w
 by_cases h12 : op = 12
 ·subst h12; exact xaO (fun w => yjF w) w
 by_cases h13 : op = 13
 ·subst h13; exact xaO (fun w => yjG w) w
 by_cases h16 : op = 16
 ·subst h16; exact xaO (fun w => yjJ w) w
 by_cases h32 : op = 32
 ·subst h32; exact xaO (fun w => yjN w) w
 by_cases h33 : op = 33
 ·subst h33; exact xaO (fun w => yjO w) w
 by_cases h34 : op = 34
 ·subst h34; exact xaO (fun w => yjP w) w
 by_cases h35 : op = 35
 ·subst h35; exact xaO (fun w => yjQ w) w
 by_cases h36 : op = 36
 ·subst h36; exact xaO (fun w => yjR w) w
 by_cases h14 : op = 14
 ·subst h14; exact xaO (fun w => yjH w) w
 by_cases h17 : op = 17
 ·subst h17; exact xaO (fun w => yjK w) w
 by_cases h63 : op = 63
 ·subst h63; exact xaO (fun w => yjS w) w
 by_cases h64 : op = 64
 ·subst h64; exact xaO (fun w => yjT w) w
 by_cases h65 : op = 65
 ·subst h65; exact xaO (fun w => yjU w) w
 by_cases h66 : op = 66
 ·subst h66; exact xaO (fun w => yjV w) w
 have e : xdM op = if 0 < xfB op then 6 else if 0 < xxB op then 1 else 0 := by
  unfold xdM
  rw [if_neg (by omega),if_neg (by omega),if_neg (by omega),if_neg (by omega),if_neg (by omega),if_neg (by omega),if_neg (by omega),if_neg (by omega)]
 rw [e]
 by_cases hw : 0 < xfB op
 ·rw [if_pos hw]
  exact xxG op (xfB op) (by rw [beq_eq_false_iff_ne]; exact h0) (by rw [beq_eq_false_iff_ne]; exact h1) (by rw [beq_eq_false_iff_ne]; exact h5) (by rw [beq_eq_false_iff_ne]; exact h11) (by rw [beq_eq_false_iff_ne]; exact h15) (by rw [beq_eq_false_iff_ne]; exact h26) (by rw [beq_eq_false_iff_ne]; exact h27) (by rw [beq_eq_false_iff_ne]; exact h2) (by rw [beq_eq_false_iff_ne]; exact h3) (by rw [beq_eq_false_iff_ne]; exact h4) (by rw [beq_eq_false_iff_ne]; exact h12) (by rw [beq_eq_false_iff_ne]; exact h13) (by rw [beq_eq_false_iff_ne]; exact h16) (by rw [beq_eq_false_iff_ne]; exact h32) (by rw [beq_eq_false_iff_ne]; exact h33) (by rw [beq_eq_false_iff_ne]; exact h34) (by rw [beq_eq_false_iff_ne]; exact h35) (by rw [beq_eq_false_iff_ne]; exact h36) (by rw [beq_eq_false_iff_ne]; exact h14) (by rw [beq_eq_false_iff_ne]; exact h17) (by rw [beq_eq_false_iff_ne]; exact h63) (by rw [beq_eq_false_iff_ne]; exact h64) (by rw [beq_eq_false_iff_ne]; exact h65) (by rw [beq_eq_false_iff_ne]; exact h66) hw w (fun w => xnO op w)
 ·rw [if_neg hw]
  have e0 : xfB op = 0 := by have := xuX op; omega
  have cw : ∀ w,Calls Tryz.prog 135 #[.int .u8 op] w fun e w' => e = .returned (.int .i64 0) /\ w' = w := fun w => by rw [<- e0]; exact xnO op w
  have ct := xuC op hlo hhi w hT
  by_cases hn : 0 < xxB op
  ·rw [if_pos hn]
   exact yfL op (xxB op) (by rw [beq_eq_false_iff_ne]; exact h0) (by rw [beq_eq_false_iff_ne]; exact h1) (by rw [beq_eq_false_iff_ne]; exact h5) (by rw [beq_eq_false_iff_ne]; exact h11) (by rw [beq_eq_false_iff_ne]; exact h15) (by rw [beq_eq_false_iff_ne]; exact h26) (by rw [beq_eq_false_iff_ne]; exact h27) (by rw [beq_eq_false_iff_ne]; exact h2) (by rw [beq_eq_false_iff_ne]; exact h3) (by rw [beq_eq_false_iff_ne]; exact h4) (by rw [beq_eq_false_iff_ne]; exact h12) (by rw [beq_eq_false_iff_ne]; exact h13) (by rw [beq_eq_false_iff_ne]; exact h16) (by rw [beq_eq_false_iff_ne]; exact h32) (by rw [beq_eq_false_iff_ne]; exact h33) (by rw [beq_eq_false_iff_ne]; exact h34) (by rw [beq_eq_false_iff_ne]; exact h35) (by rw [beq_eq_false_iff_ne]; exact h36) (by rw [beq_eq_false_iff_ne]; exact h14) (by rw [beq_eq_false_iff_ne]; exact h17) (by rw [beq_eq_false_iff_ne]; exact h63) (by rw [beq_eq_false_iff_ne]; exact h64) (by rw [beq_eq_false_iff_ne]; exact h65) (by rw [beq_eq_false_iff_ne]; exact h66) hn w cw ct
  ·rw [if_neg hn]
   have en : xxB op = 0 := by have := xuW op; omega
   rw [en] at ct
   exact ybU op (by rw [beq_eq_false_iff_ne]; exact h0) (by rw [beq_eq_false_iff_ne]; exact h1) (by rw [beq_eq_false_iff_ne]; exact h5) (by rw [beq_eq_false_iff_ne]; exact h11) (by rw [beq_eq_false_iff_ne]; exact h15) (by rw [beq_eq_false_iff_ne]; exact h26) (by rw [beq_eq_false_iff_ne]; exact h27) (by rw [beq_eq_false_iff_ne]; exact h2) (by rw [beq_eq_false_iff_ne]; exact h3) (by rw [beq_eq_false_iff_ne]; exact h4) (by rw [beq_eq_false_iff_ne]; exact h12) (by rw [beq_eq_false_iff_ne]; exact h13) (by rw [beq_eq_false_iff_ne]; exact h16) (by rw [beq_eq_false_iff_ne]; exact h32) (by rw [beq_eq_false_iff_ne]; exact h33) (by rw [beq_eq_false_iff_ne]; exact h34) (by rw [beq_eq_false_iff_ne]; exact h35) (by rw [beq_eq_false_iff_ne]; exact h36) (by rw [beq_eq_false_iff_ne]; exact h14) (by rw [beq_eq_false_iff_ne]; exact h17) (by rw [beq_eq_false_iff_ne]; exact h63) (by rw [beq_eq_false_iff_ne]; exact h64) (by rw [beq_eq_false_iff_ne]; exact h65) (by rw [beq_eq_false_iff_ne]; exact h66) w cw ct
end Go.Proofs.YtmmjgdaamkdncaaGreatDoor
