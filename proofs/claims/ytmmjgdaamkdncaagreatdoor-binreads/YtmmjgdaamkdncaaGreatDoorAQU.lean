import Derived.Test.YtmmjgdaamkdncaaGreatDoorARRd1
import Derived.Test.YtmmjgdaamkdncaaGreatDoorAGWid
import Derived.Deep.RegionLaw
import Derived.Deep.AppendLies
namespace Go.Proofs.YtmmjgdaamkdncaaGreatDoor
set_option maxHeartbeats 8000000
set_option maxRecDepth 1000000
set_option linter.unusedVariables false
open Go.RowKit
theorem xqR (F : ByteArray) (pos : Nat) (h : pos < F.size) : (xaX F).drop pos = ((F[pos]'h).toNat : Int) :: (xaX F).drop (pos + 1) := xeZ F pos h
def xeB (F : ByteArray) : Prop := ∀ pos (h : pos < F.size),(((F[pos]'h).toNat = 107 \/ (F[pos]'h).toNat = 97 \/ (F[pos]'h).toNat = 98 \/ (F[pos]'h).toNat = 122 \/ (F[pos]'h).toNat = 99 \/ (F[pos]'h).toNat = 100 \/ (F[pos]'h).toNat = 63) \/ ((F[pos]'h).toNat = 116 /\ pos = 0))
theorem xtO (l : List Int) (a : Int) (hl : ∀ b ∈ l,0 <= b /\ b < 256) : 0 <= (xaK l a).1 := by
 unfold xaK
 split
 ·exact xkL l 0 hl
 ·exact Int.le_refl _
theorem xeD (l : List Int) (a : Int) (hl : ∀ b ∈ l,0 <= b /\ b < 256) : 0 <= (xaI l a).1 /\ (xaI l a).1 < 256 := by
 unfold xaI
 split
 ·exact xgR l 0 hl
 ·omega
theorem ynV {w w6 w7 : World} {R P X I : Nat} {F : ByteArray} {pos : Nat} {op n A B : Int} {o : Option Addr} {cap : Nat} {To l : List Int} {a : Int} {ob : Obj} (h : RdS w w6 R P X I F pos op n A B o cap To l a) (hg : (w6.alloc ob).grownBy w7 (Value.slice o To.length cap).ownBlock) : w7.frozen? ⟨X,3,none⟩ = false := by
 have h2 := h.under ((Below.refl w6.heap.size w6).alloc (Nat.le_refl _) ob)
 have e := hg.block X h2.lts.2.2.1 (Ne.symm (xfV h.far _).2.2.1)
 rw [World.frozen?_of_block (a := ⟨X,3,none⟩) e]
 exact h2.frozen 3
theorem ynU {w w6 w7 : World} {R P X I : Nat} {F : ByteArray} {pos : Nat} {op n A B : Int} {o : Option Addr} {cap : Nat} {To l : List Int} {a : Int} {ob : Obj} (h : RdS w w6 R P X I F pos op n A B o cap To l a) (hg : (w6.alloc ob).grownBy w7 (Value.slice o To.length cap).ownBlock) : w7.cell? ⟨X,3,none⟩ = some (.slice o To.length cap) := by
 have h2 := h.under ((Below.refl w6.heap.size w6).alloc (Nat.le_refl _) ob)
 have e := hg.block X h2.lts.2.2.1 (Ne.symm (xfV h.far _).2.2.1)
 rw [World.cell?_of_block (a := ⟨X,3,none⟩) e]
 exact h2.ins.cell.2.2.2
theorem xtU (s F : ByteArray) (hs : s.size <= maxLen) (hF : xeB F) (l1 : List Int) (op a1 : Int) (h0 : 0 <= op) (h1 : op < 256) (b : Bool) (hq : (F.toList == [63]) = b) (Q : QSt) (w : World)
  (HO : Hid (xbJ (xaX s) 0 = (op,l1,a1)))
  (HB : Hid (∀ w',Below w.heap.size w w' -> Calls Tryz.prog 99 #[.int .u8 op] w' fun e w'' => e = .returned (.string F) /\ Below w'.heap.size w' w''))
  (HQ0 : Hid (xhL (xaX F) ⟨0,0,[],l1,if b then xbD a1 6 else a1⟩ = Q)) :
  Calls Tryz.prog 88 #[.string s] w fun r w' => Below w.heap.size w w' /\
   ((¬ Q.a = 0 /\ r = .returned (.tuple #[.agg #[.int .u8 0,.int .i64 0,.int .i64 0,.slice none 0 0],.int .i64 0,.int .i64 Q.a])) \/
    (Q.a = 0 /\ ∃ o cap,r = .returned (.tuple #[.agg #[.int .u8 op,.int .i64 Q.A,.int .i64 Q.B,.slice o Q.To.length cap],.int .i64 ((s.size : Int) - (Q.l.length : Int)),.int .i64 0]) /\ w'.ownsRow w.heap.size 2 1 (.slice o Q.To.length cap) Q.To.length (Q.To.map (Value.int .i64)))) := by
 have hs63 : s.size <= 9223372036854775807 := by unfold maxLen at hs; omega
 have HLF : Hid (xeB F) := hF
 have Hs : Hid (s.size <= maxLen) := hs
 clear hF hs
 go_enter Tryz.func88,Tryz.ntmps88
 go_wp2_with fail
 refine (xjS s hs63 _).mono ?_
 rintro e w1 ⟨rfl,r1,b1⟩
 rw [World.size_alloc] at r1 b1 ⊢
 have hs1 : w.heap.size + 1 < w1.heap.size := r1.lt
 have xR1 : XS w1 w.heap.size (.int .u8 0) (.int .i64 0) (.int .i64 0) (.slice none 0 0) := by
  unfold XS
  rw [b1.block w.heap.size (by simp)]
  exact xaZ _ _
 have HB1 : Hid (Below w.heap.size w w1) := ((Below.refl _ _).alloc (Nat.le_refl _) _).trans (b1.mono (by simp))
 have HO1 : Hid (Calls Tryz.prog 12 #[.pointer (some ⟨w.heap.size + 1,0,none⟩)] w1 fun r w' => r = .returned (.int .i64 op) /\ CL w' (w.heap.size + 1) l1 s.size a1 /\ Chg (w.heap.size + 1) w1 w') := by
  have := xiD (w.heap.size + 1) (xaX s) s.size 0 w1 ⟨s,rfl,Hs.out,r1⟩
  unfold xaI at this
  rw [if_pos rfl,HO.out] at this
  exact this
 have HXR1 := kZz xR1
 clear r1 b1 xR1
 go_wp2_with fail
 refine HO1.out.mono ?_
 rintro e w2 ⟨rfl,r2,c2⟩
 have hs2 : w1.heap.size <= w2.heap.size := c2.size
 have HR2 := kZz r2
 have HXR2 := kZz (XS.chg HXR1.out c2 (by omega))
 have HB2 : Hid (Below w.heap.size w w2) := HB1.out.trans (c2.below (by omega) (by omega))
 clear r2 c2 HXR1 HB1 HO1
 have hop : IntKind.u8.wrap op = op := by unfold IntKind.wrap; simp [IntKind.signed,IntKind.bits]; omega
 go_wp2_with fail
 refine (HB.out _ (HB2.out.alloc (by omega) _)).mono ?_
 rintro e w3 ⟨rfl,b3⟩
 have hs3 : w2.heap.size < w3.heap.size := by have := b3.size; simp at this; omega
 have HX3 : Hid (XS w3 w2.heap.size (.int .u8 op) (.int .i64 0) (.int .i64 0) (.slice none 0 0)) := by
  unfold Hid XS
  rw [b3.block w2.heap.size (by simp)]
  exact xaZ _ _
 have HXR3 : Hid (XS w3 w.heap.size (.int .u8 0) (.int .i64 0) (.int .i64 0) (.slice none 0 0)) := by
  have := HXR2.out
  unfold Hid
  unfold XS at this ⊢
  rw [b3.block w.heap.size (by simp; omega),Below.heap_alloc _ _ _ (by omega)]
  exact this
 have HR3 : Hid (CL w3 (w.heap.size + 1) l1 s.size a1) := HR2.out.heap (by rw [b3.block _ (by simp; omega),Below.heap_alloc _ _ _ (by omega)])
 have HB3 : Hid (Below w.heap.size w w3) := (HB2.out.alloc (by omega) _).trans (b3.mono (by simp; omega))
 clear b3 HR2 HXR2 HB2 HB
 generalize w2.heap.size = X at hs2 hs3 HX3 ⊢
 go_wp2_with fail
 refine (HR3.out.say b 6).mono ?_
 rintro e w4 ⟨rfl,r4,c4⟩
 have hs4 : w3.heap.size <= w4.heap.size := c4.size
 have HX4 := kZz (XS.chg HX3.out c4 (by omega))
 have HXR4 := kZz (XS.chg HXR3.out c4 (by omega))
 have HB4 : Hid (Below w.heap.size w w4) := HB3.out.trans (c4.below (by omega) (by omega))
 have HR4 := kZz r4
 clear r4 c4 HR3 HXR3 HX3 HB3
 generalize (if b = true then xbD a1 6 else a1) = a0 at HR4 HQ0
 have HS0 : Hid (RdS w (w4.iter F 0) w.heap.size (w.heap.size + 1) X w4.heap.size F 0 op s.size 0 0 none 0 [] l1 a0) :=
  ⟨⟨Nat.le_refl _,by omega,by omega,by omega,by omega,by omega,by omega,by omega,by omega,by omega⟩,
   XS.under HXR4.out ((Below.refl _ _).alloc (Nat.le_refl _) _),HR4.out.heap (Below.heap_alloc _ _ _ (by omega)),XS.under HX4.out ((Below.refl _ _).alloc (Nat.le_refl _) _),World.iter_heap _ _ _,World.ownsRow_nil _ _ _ _,by simp,HB4.out.alloc (by omega) _⟩
 have hw4 : w.heap.size <= w4.heap.size := by omega
 clear HX4 HXR4 HB4 HR4
 go_wp2
 go_loopw [] (fun wr => ∃ pos : Nat,∃ A B : Int,∃ o : Option Addr,∃ cap : Nat,∃ To l : List Int,∃ a : Int,Hid (RdS w wr w.heap.size (w.heap.size + 1) X w4.heap.size F pos op s.size A B o cap To l a) /\ Hid (xhL ((xaX F).drop pos) ⟨A,B,To,l,a⟩ = Q) /\ Hid (pos = 0 -> To = [])) (fun wr => F.size - wr.iterPos w4.heap.size)
 case atStart => exact ⟨0,0,0,none,0,[],l1,a0,HS0,HQ0,fun _ => rfl⟩
 case round =>
  obtain ⟨pos,A,B,o,cap,To,l,a,HS,HQ,HT⟩ := hrel
  clear HS0 HQ0 hq hop
  by_cases hp : pos < F.size
  ·have hc := HLF.out pos hp
   have hcs := xqR F pos hp
   have h128 : (F[pos]'hp).toNat < 128 := by omega
   have hnx : ∀ ty,(Instr.next (.pointer (some ⟨w4.heap.size,0,none⟩)) true ty).run Tryz.prog wr = .ok (.tuple #[.bool true,.int .i64 pos,.int .i32 (F[pos]'hp).toNat]) (wr.iterAt w4.heap.size F (pos + 1)) := fun ty => Lib.run_next_ascii_at wr w4.heap.size F pos ty HS.out.iter hp h128
   have S1 := kZz (HS.out.chgI (pos + 1))
   obtain ⟨w1,hw1⟩ : ∃ w1,wr.iterAt w4.heap.size F (pos + 1) = w1 := ⟨_,rfl⟩
   rw [hw1] at hnx S1
   have HQ1 : Hid (xhL ((xaX F).drop (pos + 1)) (xeE ((F[pos]'hp).toNat : Int) ⟨A,B,To,l,a⟩) = Q) := by
    unfold Hid
    rw [<- xtL,<- hcs]
    exact HQ.out
   clear hw1 hcs h128 HQ
   have hpw : (pos : Int) < (F.size : Int) := by omega
   generalize (F[pos]'hp).toNat = c at hc hnx HQ1
   rcases hc with (rfl | rfl | rfl | rfl | rfl | rfl | rfl) | ⟨rfl,rfl⟩
   ·obtain ⟨⟨x,l2,a2⟩,hq⟩ : ∃ m,xaI l a = m := ⟨_,rfl⟩
    have hx := xeD l a S1.out.cur.byte
    rw [hq] at hx
    obtain ⟨hx0,hx1⟩ := hx
    dsimp only at hx0 hx1
    obtain ⟨b,hb⟩ : ∃ b,(!xlK x) = b := ⟨_,rfl⟩
    have HQ2 : Hid (xhL ((xaX F).drop (pos + 1)) ⟨x,B,To,l2,if b then xbD a2 6 else a2⟩ = Q) := by
     unfold Hid
     have := HQ1.out
     rw [xeE] at this
     rw [<- hb]
     cases hk : xlK x <;> simpa [hq,hk] using this
    have HC := kZz (xiD (w.heap.size + 1) l s.size a w1 S1.out.cur)
    rw [hq] at HC
    have HBK : Hid ((!xlK x) = b) := hb
    clear HQ1 hq hb
    go_wp2_with fail
    refine HC.out.mono ?_
    rintro e w2 ⟨rfl,r2,c2⟩
    have S2 := S1.out.chgP c2 r2
    obtain ⟨x0,x1,x2,x3⟩ := S2.ins.cell
    have f1 := S2.frozen 1
    have S3 : RdS w (w2.setCell ⟨X,1,none⟩ (.int .i64 x)) w.heap.size (w.heap.size + 1) X w4.heap.size F (pos + 1) op s.size x B o cap To l2 a2 := S2.setA x
    obtain ⟨y0,y1,y2,y3⟩ := S3.ins.cell
    have HS3 : Hid (RdS w (w2.setCell ⟨X,1,none⟩ (.int .i64 x)) w.heap.size (w.heap.size + 1) X w4.heap.size F (pos + 1) op s.size x B o cap To l2 a2) := S3
    clear S2 r2 c2 HC S3
    have hxs : x = 64 \/ x = 126 \/ x = 127 \/ (x ≠ 64 /\ x ≠ 126 /\ x ≠ 127) := by omega
    rcases hxs with rfl | rfl | rfl | ⟨n1,n2,n3⟩
    case inl | inr.inl | inr.inr.inl =>
     have eb : b = false := by rw [<- HBK.out]; rfl
     subst eb
     clear HBK
     go_wp2_with fail
     refine (HS3.out.cur.say false 6).mono ?_
     rintro e w4 ⟨rfl,r4,c4⟩
     have HS4 := kZz (HS3.out.chgP c4 r4)
     clear r4 c4 x0 x1 x2 x3 y0 y1 y2 y3 f1
     go_wp2
     go_roundw
     case rel => exact ⟨pos + 1,_,_,o,cap,To,_,_,HS4,HQ2,by unfold Hid; omega⟩
     case measure =>
      rw [iterPos_of HS.out.iter,iterPos_of HS4.out.iter]
      omega
    case inr.inr.inr =>
     have e1 : (x == 64) = false := by rw [beq_eq_false_iff_ne]; exact n1
     have e2 : (x == 126) = false := by rw [beq_eq_false_iff_ne]; exact n2
     have e3 : (x == 127) = false := by rw [beq_eq_false_iff_ne]; exact n3
     have e4 : (x != 64) = true := by rw [bne,e1]; rfl
     have e5 : (x != 126) = true := by rw [bne,e2]; rfl
     have e6 : (x != 127) = true := by rw [bne,e3]; rfl
     have eb : b = true := by rw [<- HBK.out]; unfold xlK; rw [e1,e2,e3]; rfl
     subst eb
     clear HBK n1 n2 n3
     go_wp2_with fail
     refine (HS3.out.cur.say true 6).mono ?_
     rintro e w4 ⟨rfl,r4,c4⟩
     have HS4 := kZz (HS3.out.chgP c4 r4)
     clear r4 c4 x0 x1 x2 x3 y0 y1 y2 y3 f1
     go_wp2
     go_roundw
     case rel => exact ⟨pos + 1,_,_,o,cap,To,_,_,HS4,HQ2,by unfold Hid; omega⟩
     case measure =>
      rw [iterPos_of HS.out.iter,iterPos_of HS4.out.iter]
      omega
   ·obtain ⟨⟨x,l2,a2⟩,hq⟩ : ∃ m,xaK l a = m := ⟨_,rfl⟩
    have HQ2 : Hid (xhL ((xaX F).drop (pos + 1)) ⟨x,B,To,l2,a2⟩ = Q) := by
     unfold Hid
     have := HQ1.out
     rw [xeE] at this
     simpa [hq] using this
    have HC := kZz (xoC (w.heap.size + 1) l s.size a w1 S1.out.cur)
    rw [hq] at HC
    clear HQ1 hq
    go_wp2_with fail
    refine HC.out.mono ?_
    rintro e w2 ⟨rfl,r2,c2⟩
    have S2 := S1.out.chgP c2 r2
    obtain ⟨x0,x1,x2,x3⟩ := S2.ins.cell
    have f1 := S2.frozen 1
    have HS2 : Hid (RdS w (w2.setCell ⟨X,1,none⟩ (.int .i64 x)) w.heap.size (w.heap.size + 1) X w4.heap.size F (pos + 1) op s.size x B o cap To l2 a2) := S2.setA x
    clear S2 r2 c2 HC
    go_wp2
    go_roundw
    case rel => exact ⟨pos + 1,_,_,o,cap,To,_,_,HS2,HQ2,by unfold Hid; omega⟩
    case measure =>
     rw [iterPos_of HS.out.iter,iterPos_of HS2.out.iter]
     omega
   ·obtain ⟨⟨x,l2,a2⟩,hq⟩ : ∃ m,xaK l a = m := ⟨_,rfl⟩
    have HQ2 : Hid (xhL ((xaX F).drop (pos + 1)) ⟨A,x,To,l2,a2⟩ = Q) := by
     unfold Hid
     have := HQ1.out
     rw [xeE] at this
     simpa [hq] using this
    have HC := kZz (xoC (w.heap.size + 1) l s.size a w1 S1.out.cur)
    rw [hq] at HC
    clear HQ1 hq
    go_wp2_with fail
    refine HC.out.mono ?_
    rintro e w2 ⟨rfl,r2,c2⟩
    have S2 := S1.out.chgP c2 r2
    obtain ⟨x0,x1,x2,x3⟩ := S2.ins.cell
    have f1 := S2.frozen 2
    have HS2 : Hid (RdS w (w2.setCell ⟨X,2,none⟩ (.int .i64 x)) w.heap.size (w.heap.size + 1) X w4.heap.size F (pos + 1) op s.size A x o cap To l2 a2) := S2.setB x
    clear S2 r2 c2 HC
    go_wp2
    go_roundw
    case rel => exact ⟨pos + 1,_,_,o,cap,To,_,_,HS2,HQ2,by unfold Hid; omega⟩
    case measure =>
     rw [iterPos_of HS.out.iter,iterPos_of HS2.out.iter]
     omega
   ·obtain ⟨⟨x,l2,a2⟩,hq⟩ : ∃ m,xaI l a = m := ⟨_,rfl⟩
    obtain ⟨b,hb⟩ : ∃ b,(x != 0) = b := ⟨_,rfl⟩
    have HQ2 : Hid (xhL ((xaX F).drop (pos + 1)) ⟨A,B,To,l2,if b then xbD a2 4 else a2⟩ = Q) := by
     unfold Hid
     have := HQ1.out
     rw [xeE] at this
     rw [<- hb]
     by_cases hk : x = 0
     ·subst hk; simpa [hq] using this
     ·simpa [hq,hk] using this
    have HC := kZz (xiD (w.heap.size + 1) l s.size a w1 S1.out.cur)
    rw [hq] at HC
    clear HQ1 hq
    go_wp2_with fail
    refine HC.out.mono ?_
    rintro e w2 ⟨rfl,r2,c2⟩
    have HS2 := kZz (S1.out.chgP c2 r2)
    clear r2 c2 HC
    go_wp2_with fail
    refine (HS2.out.cur.say b 4).mono ?_
    rintro e w4 ⟨rfl,r4,c4⟩
    have HS4 := kZz (HS2.out.chgP c4 r4)
    clear r4 c4
    go_wp2
    go_roundw
    case rel => exact ⟨pos + 1,_,_,o,cap,To,_,_,HS4,HQ2,by unfold Hid; omega⟩
    case measure =>
     rw [iterPos_of HS.out.iter,iterPos_of HS4.out.iter]
     omega
   ·obtain ⟨⟨x,l2,a2⟩,hq⟩ : ∃ m,xfM 32 l a = m := ⟨_,rfl⟩
    have HQ2 : Hid (xhL ((xaX F).drop (pos + 1)) ⟨x,B,To,l2,a2⟩ = Q) := by
     unfold Hid
     have := HQ1.out
     rw [xeE] at this
     simpa [hq] using this
    have HC := kZz (ybH (w.heap.size + 1) 32 (by omega) l s.size a w1 S1.out.cur)
    rw [hq] at HC
    clear HQ1 hq
    go_wp2_with fail
    refine HC.out.mono ?_
    rintro e w2 ⟨rfl,r2,c2⟩
    have S2 := S1.out.chgP c2 r2
    obtain ⟨x0,x1,x2,x3⟩ := S2.ins.cell
    have f1 := S2.frozen 1
    have HS2 : Hid (RdS w (w2.setCell ⟨X,1,none⟩ (.int .i64 x)) w.heap.size (w.heap.size + 1) X w4.heap.size F (pos + 1) op s.size x B o cap To l2 a2) := S2.setA x
    clear S2 r2 c2 HC
    go_wp2
    go_roundw
    case rel => exact ⟨pos + 1,_,_,o,cap,To,_,_,HS2,HQ2,by unfold Hid; omega⟩
    case measure =>
     rw [iterPos_of HS.out.iter,iterPos_of HS2.out.iter]
     omega
   ·obtain ⟨⟨x,l2,a2⟩,hq⟩ : ∃ m,xfM 64 l a = m := ⟨_,rfl⟩
    have HQ2 : Hid (xhL ((xaX F).drop (pos + 1)) ⟨x,B,To,l2,a2⟩ = Q) := by
     unfold Hid
     have := HQ1.out
     rw [xeE] at this
     simpa [hq] using this
    have HC := kZz (ybH (w.heap.size + 1) 64 (by omega) l s.size a w1 S1.out.cur)
    rw [hq] at HC
    clear HQ1 hq
    go_wp2_with fail
    refine HC.out.mono ?_
    rintro e w2 ⟨rfl,r2,c2⟩
    have S2 := S1.out.chgP c2 r2
    obtain ⟨x0,x1,x2,x3⟩ := S2.ins.cell
    have f1 := S2.frozen 1
    have HS2 : Hid (RdS w (w2.setCell ⟨X,1,none⟩ (.int .i64 x)) w.heap.size (w.heap.size + 1) X w4.heap.size F (pos + 1) op s.size x B o cap To l2 a2) := S2.setA x
    clear S2 r2 c2 HC
    go_wp2
    go_roundw
    case rel => exact ⟨pos + 1,_,_,o,cap,To,_,_,HS2,HQ2,by unfold Hid; omega⟩
    case measure =>
     rw [iterPos_of HS.out.iter,iterPos_of HS2.out.iter]
     omega
   ·have HQ2 : Hid (xhL ((xaX F).drop (pos + 1)) ⟨A,B,To,l,a⟩ = Q) := by
     unfold Hid
     have := HQ1.out
     rw [xeE] at this
     simpa using this
    clear HQ1
    go_wp2
    go_roundw
    case rel => exact ⟨pos + 1,_,_,o,cap,To,_,_,S1,HQ2,by unfold Hid; omega⟩
    case measure =>
     rw [iterPos_of HS.out.iter,iterPos_of S1.out.iter]
     omega
   ·have hT0 := HT.out rfl
    subst hT0
    obtain ⟨⟨x,l2,a2⟩,hq⟩ : ∃ m,xaK l a = m := ⟨_,rfl⟩
    have hx := xtO l a S1.out.cur.byte
    rw [hq] at hx
    dsimp only at hx
    obtain ⟨N,rfl⟩ : ∃ N : Nat,x = (N : Int) := ⟨x.toNat,by omega⟩
    obtain ⟨b,hb⟩ : ∃ b,decide ((N : Int) > 16) = b := ⟨_,rfl⟩
    obtain ⟨⟨TF,lF,aF⟩,hF⟩ : ∃ m,xdQ N l2 (if b then xbD a2 2 else a2) = m := ⟨_,rfl⟩
    have hbad : (if b then xbD a2 2 else a2) = 0 -> N <= 16 := by
     intro h
     cases b with
     | false => have := of_decide_eq_false hb; omega
     | true =>
      rw [if_pos rfl] at h
      unfold xbD at h
      split at h
      ·omega
      ·contradiction
    obtain ⟨⟨z,l3,a3⟩,hz⟩ : ∃ m,xaK lF aF = m := ⟨_,rfl⟩
    have HQ2 : Hid (xhL ((xaX F).drop 1) ⟨z,B,TF,l3,a3⟩ = Q) := by
     unfold Hid
     have := HQ1.out
     rw [xeE] at this
     simp only [xzE,hq] at this
     rw [<- hb] at hF
     simp only [decide_eq_true_eq] at hF
     simp only [Int.toNat_natCast,hF,hz] at this
     simpa using this
    have HC := kZz (xoC (w.heap.size + 1) l s.size a w1 S1.out.cur)
    rw [hq] at HC
    have Hz : Hid (xaK lF aF = (z,l3,a3)) := hz
    have HF : Hid (xdQ N l2 (if b then xbD a2 2 else a2) = (TF,lF,aF)) := hF
    have HBAD : Hid ((if b then xbD a2 2 else a2) = 0 -> N <= 16) := hbad
    have Hb : Hid (decide ((N : Int) > 16) = b) := hb
    clear HQ1 hq hF hz hbad hb hx
    obtain ⟨i0,hi,hz0,hz1,hz2⟩ := info_parts Tryz.infoI64
    go_wp2_with fail
    refine HC.out.mono ?_
    rintro e w2 ⟨rfl,r2,c2⟩
    have HS2 := kZz (S1.out.chgP c2 r2)
    clear r2 c2 HC
    have HSAY : Hid (Calls Tryz.prog 13 #[.pointer (some ⟨w.heap.size + 1,0,none⟩),.bool (decide ((16 : Int) < (N : Int))),.int .i64 2] w2 fun r w' => r = .returned (.tuple #[]) /\ CL w' (w.heap.size + 1) l2 s.size (if b then xbD a2 2 else a2) /\ Chg (w.heap.size + 1) w2 w') := by
     have e1 : decide ((16 : Int) < (N : Int)) = b := Hb.out
     rw [e1]
     exact HS2.out.cur.say b 2
    go_wp2_with fail
    refine HSAY.out.mono ?_
    rintro e v4 ⟨rfl,r4,c4⟩
    have HS4 := kZz (HS2.out.chgP c4 r4)
    clear r4 c4 HS2 HSAY S1
    generalize (if b then xbD a2 2 else a2) = a4 at HS4 HF HBAD
    go_wp2
    go_loopw [] (fun wt => ∃ o : Option Addr,∃ cap : Nat,∃ To lk : List Int,∃ ak : Int,Hid (RdS w wt w.heap.size (w.heap.size + 1) X w4.heap.size F 1 op s.size A B o cap To lk ak) /\ Hid (To.length <= N /\ (ak = 0 -> N <= 16) /\ (To ++ (xdQ (N - To.length) lk ak).1,(xdQ (N - To.length) lk ak).2) = (TF,lF,aF))) (fun wt => N - yaR wt X)
    case atStart => exact ⟨o,cap,[],l2,a4,HS4,by unfold Hid; exact ⟨by simp,HBAD.out,by have := HF.out; simp [this]⟩⟩
    case round =>
     obtain ⟨o2,cap2,To2,lk,ak,HSk,HIk⟩ := hrel
     clear HS4
     obtain ⟨x0,x1,x2,x3⟩ := HSk.out.ins.cell
     obtain ⟨sk,hsk1,hsk2,hsk⟩ := HSk.out.cur
     obtain ⟨d0,d1,d2⟩ := hsk.cell
     clear hsk hsk1 hsk2
     obtain ⟨hcap2,hcap3⟩ := HSk.out.capLe
     unfold maxLen at hcap3
     by_cases hgo : ak = 0 /\ To2.length < N
     ·obtain ⟨rfl,hlt⟩ := hgo
      have h16 : N <= 16 := HIk.out.2.1 rfl
      obtain ⟨⟨y,l5,a5⟩,hy⟩ : ∃ m,xaK lk 0 = m := ⟨_,rfl⟩
      have HI5 : Hid ((To2 ++ [y]).length <= N /\ (a5 = 0 -> N <= 16) /\ ((To2 ++ [y]) ++ (xdQ (N - (To2 ++ [y]).length) l5 a5).1,(xdQ (N - (To2 ++ [y]).length) l5 a5).2) = (TF,lF,aF)) := by
       obtain ⟨_,_,h3⟩ := HIk.out
       have hl : (To2 ++ [y]).length = To2.length + 1 := by simp
       unfold Hid
       rw [hl]
       rw [show N - To2.length = (N - (To2.length + 1)) + 1 by omega,xdQ,if_pos rfl,hy] at h3
       refine ⟨by omega,fun _ => h16,?_⟩
       rw [<- h3,List.append_assoc]
       rfl
      have HN : Hid (∀ w',RdS w w' w.heap.size (w.heap.size + 1) X w4.heap.size F 1 op s.size A B o2 cap2 To2 lk 0 -> Calls Tryz.prog 36 #[.pointer (some ⟨w.heap.size + 1,0,none⟩)] w' fun r w'' => r = .returned (.int .i64 y) /\ RdS w w'' w.heap.size (w.heap.size + 1) X w4.heap.size F 1 op s.size A B o2 cap2 To2 l5 a5 /\ Chg (w.heap.size + 1) w' w'') := fun w' h => by
       have := xoC (w.heap.size + 1) lk s.size 0 w' h.cur
       rw [hy] at this
       refine this.mono ?_
       rintro r w2 ⟨rfl,r2,c2⟩
       exact ⟨rfl,h.chgP c2 r2,c2⟩
      have Hlk : Hid (RdS w wr w.heap.size (w.heap.size + 1) X w4.heap.size F 1 op s.size A B o2 cap2 To2 lk 0) := HSk
      have f3 := HSk.out.frozen 3
      have hXP : X ≠ w.heap.size + 1 := HSk.out.four.px.symm
      have hXw : X < wr.heap.size := HSk.out.lts.2.2.1
      have HLA : Hid (yaR wr X = To2.length) := xsW HSk.out.ins
      have hox : (Value.slice o2 To2.length cap2).ownBlock ≠ some X := (xfV HSk.out.far _).2.2.1
      have hlt2 : (To2.length : Int) < (N : Int) := by omega
      clear hy HIk HSk HBAD HF d0 d1
      go_wp2
      go_region_law (first
       | ((refine step_append_lies _ (by rfl) _ _ _ (by rfl) w.heap.size 2 i0 _ 1 8 Tryz.underlying98 hi hz0 hz1 hz2 rfl (by omega) (.slice o2 To2.length cap2) To2.length (To2.map (Value.int .i64)) (by rfl) (HR6.out.to.alloc _)
             ⟨w6.heap.size,0,none⟩ 1 1 [.int .i64 y] (by rfl) (by rfl) (World.news_of_block (cs := #[.int .i64 y]) (t := 2) (fr := (0,0)) (heap_alloc_new w6 _)) (by simp [Value.oneCell'])
             (by omega) (by unfold maxLen; omega) (by omega) (by have := HR6.out.below.size; simp; omega) (w6.heap.size + 1) (by simp) ?_; intro gg cap7 w7 hown7 hgrow hat hlt7; have f7 : w7.frozen? ⟨X,3,none⟩ = false := ynV HR6.out hgrow; have x7 : w7.cell? ⟨X,3,none⟩ = some (.slice o2 To2.length cap2) := ynU HR6.out hgrow))
       | (go_simp; go_at_call 36; refine (HN.out _ Hlk.out.drew).mono ?_; rintro e w6 ⟨rfl,r6,c6⟩; have HR6 : Hid (RdS w w6 w.heap.size (w.heap.size + 1) X w4.heap.size F 1 op s.size A B o2 cap2 To2 l5 a5) := r6; obtain ⟨z0,z1,z2,z3⟩ := r6.ins.cell; have hX6 : X < w6.heap.size := r6.lts.2.2.1; have hX6n : X ≠ w6.heap.size := Nat.ne_of_lt hX6; clear r6 c6))
      all_goals
       have HS7 : Hid (RdS w (w7.setCell ⟨X,3,none⟩ (.slice (some ⟨gg,0,none⟩) (To2.length + 1) cap7)) w.heap.size (w.heap.size + 1) X w4.heap.size F 1 op s.size A B (some ⟨gg,0,none⟩) cap7 (To2 ++ [y]) l5 a5) :=
        RdS.app (HR6.out.under ((Below.refl _ _).alloc (Nat.le_refl _) _)) hgrow hown7 (by simpa using hat)
       clear hown7 hgrow hat hlt7 HR6 HN Hlk
       go_wp2
       go_roundw
       case rel => exact ⟨_,_,_,_,_,HS7,HI5⟩
       case measure =>
        rw [HLA.out,xsW HS7.out.ins]
        have : (To2 ++ [y]).length = To2.length + 1 := by simp
        omega
     ·have hex : To2 = TF /\ lk = lF /\ ak = aF := by
       obtain ⟨h1,_,h3⟩ := HIk.out
       by_cases hak : ak = 0
       ·have hl : N - To2.length = 0 := by have := fun h => hgo ⟨hak,h⟩; omega
        rw [hl,xdQ] at h3
        simp only [List.append_nil,Prod.mk.injEq] at h3
        exact h3
       ·rw [xiO _ _ _ hak] at h3
        simp only [List.append_nil,Prod.mk.injEq] at h3
        exact h3
      obtain ⟨rfl,rfl,rfl⟩ := hex
      have HC2 := kZz (xoC (w.heap.size + 1) lk s.size ak wr HSk.out.cur)
      rw [Hz.out] at HC2
      clear HIk HF HBAD Hz
      have hgo2 : ak = 0 \/ ak ≠ 0 := by omega
      rcases hgo2 with rfl | hak
      case inl =>
       have hge : (N : Int) <= (To2.length : Int) := by have := fun h => hgo ⟨rfl,h⟩; omega
       clear hgo
       go_wp2_with fail
       refine HC2.out.mono ?_
       rintro e w8 ⟨rfl,r8,c8⟩
       have S8 := HSk.out.chgP c8 r8
       obtain ⟨x0,x1,x2,x3⟩ := S8.ins.cell
       have f1 := S8.frozen 1
       have HS8 := kZz (S8.setA z)
       clear S8 r8 c8 HC2 d0 d1 d2
       go_wp2
       go_roundw
       case rel => exact ⟨1,_,_,_,_,_,_,_,HS8,HQ2,by unfold Hid; omega⟩
       case measure =>
        rw [iterPos_of HS.out.iter,iterPos_of HS8.out.iter]
        omega
      case inr =>
       have hab : (ak == 0) = false := by rw [beq_eq_false_iff_ne]; exact hak
       clear hgo hak
       go_wp2_with fail
       refine HC2.out.mono ?_
       rintro e w8 ⟨rfl,r8,c8⟩
       have S8 := HSk.out.chgP c8 r8
       obtain ⟨x0,x1,x2,x3⟩ := S8.ins.cell
       have f1 := S8.frozen 1
       have HS8 := kZz (S8.setA z)
       clear S8 r8 c8 HC2 d0 d1 d2
       go_wp2
       go_roundw
       case rel => exact ⟨1,_,_,_,_,_,_,_,HS8,HQ2,by unfold Hid; omega⟩
       case measure =>
        rw [iterPos_of HS.out.iter,iterPos_of HS8.out.iter]
        omega
  ·have hnx : ∀ ty,(Instr.next (.pointer (some ⟨w4.heap.size,0,none⟩)) true ty).run Tryz.prog wr = .ok (.tuple #[.bool false]) wr := fun ty => Lib.run_next_end_at wr w4.heap.size F pos ty HS.out.iter hp
   have hq : (⟨A,B,To,l,a⟩ : QSt) = Q := by
    have := HQ.out
    rw [List.drop_eq_nil_of_le (by rw [xaY]; omega)] at this
    exact this
   subst hq
   clear HQ HT
   obtain ⟨sk,hsk1,hsk2,hsk⟩ := HS.out.cur
   subst hsk1
   have HCS : Hid (CS wr (w.heap.size + 1) sk s.size a) := hsk
   have hsk3 : sk.size <= 9223372036854775807 := by unfold maxLen at hsk2; omega
   obtain ⟨d0,d1,d2⟩ := hsk.cell
   clear hsk hsk2
   have xR := HS.out.res
   obtain ⟨y0,y1,y2,y3⟩ := xR.cell
   have f0 := xR.frozen 0
   have f1 := xR.frozen 1
   have f2 := xR.frozen 2
   have f3 := xR.frozen 3
   have HB : Hid (Below w.heap.size w wr) := HS.out.below
   by_cases ha : a = 0
   ·subst ha
    obtain ⟨x0,x1,x2,x3⟩ := HS.out.ins.cell
    have hn0 : (0 : Int) <= (s.size : Int) := by omega
    have hn1 : (s.size : Int) <= 9223372036854775807 := by omega
    have hXw : X < wr.heap.size := HS.out.ins.lt
    have hRw : w.heap.size < wr.heap.size := xR.lt
    have HOW : Hid (∀ w2,Below wr.heap.size wr w2 -> w2.ownsRow w.heap.size 2 1 (.slice o To.length cap) To.length (To.map (Value.int .i64))) := fun w2 b => HS.out.own b
    have HFA : Hid ((Value.slice o To.length cap).ownBlock ≠ some w.heap.size) := (xfV HS.out.far _).1
    have HXR := kZz xR
    have hRX : w.heap.size ≠ X := HS.out.four.rx
    have hRP : w.heap.size + 1 ≠ w.heap.size := by omega
    clear xR HS
    go_wp2
    go_region_with (first
     | (go_at_call 100; refine (yjB (w.heap.size + 1) sk s.size 0 _ (by first | exact HCS.out | exact (((CS.far HCS.out w.heap.size 0 _ hRP).far w.heap.size 1 _ hRP).far w.heap.size 2 _ hRP).far w.heap.size 3 _ hRP) hsk3 hn0 hn1).mono ?_; rintro e w5 ⟨rfl,rfl⟩))
    all_goals
     go_wp2
     have q0 := (HXR.out.set0 (.int .u8 op)).cell.1
     have q1 := ((HXR.out.set0 (.int .u8 op)).set1 (.int .i64 A)).cell.2.1
     have q2 := (((HXR.out.set0 (.int .u8 op)).set1 (.int .i64 A)).set2 (.int .i64 B)).cell.2.2.1
     have q3 := ((((HXR.out.set0 (.int .u8 op)).set1 (.int .i64 A)).set2 (.int .i64 B)).set3 (.slice o To.length cap)).cell.2.2.2
     have hown := xmJ (Y := w.heap.size) (i := 3) (v := .slice o To.length cap) (xmJ (Y := w.heap.size) (i := 2) (v := .int .i64 B) (xmJ (Y := w.heap.size) (i := 1) (v := .int .i64 A) (xmJ (Y := w.heap.size) (i := 0) (v := .int .u8 op) (HOW.out wr (Below.refl _ _)) HFA.out) HFA.out) HFA.out) HFA.out
     have hbel := (((HB.out.setCell (p := ⟨w.heap.size,0,none⟩) (Nat.le_refl _) (.int .u8 op)).setCell (p := ⟨w.heap.size,1,none⟩) (Nat.le_refl _) (.int .i64 A)).setCell (p := ⟨w.heap.size,2,none⟩) (Nat.le_refl _) (.int .i64 B)).setCell (p := ⟨w.heap.size,3,none⟩) (Nat.le_refl _) (.slice o To.length cap)
     refine bodyPost_ret (v := .tuple #[.agg #[(.int .u8 op),(.int .i64 A),(.int .i64 B),(.slice o To.length cap)],.int .i64 ((s.size : Int) - (sk.size : Int)),.int .i64 0]) (by simp [results,Tryz.results88,go_sem,q0,q1,q2,q3]) rfl ?_
     refine ⟨⟨hbel.os,hbel.tape,hbel.output,hbel.size,hbel.block⟩,?_⟩
     rw [xaY]
     first | exact Or.inr ⟨rfl,_,_,rfl,hown⟩ | exact ⟨_,_,rfl,hown⟩
   ·have hab : (a == 0) = false := by rw [beq_eq_false_iff_ne]; exact ha
    have han : (a != 0) = true := by rw [bne,hab]; rfl
    have HFX : Hid (XS _ _ _ _ _ _) := (((xR.set0 (.int .u8 0)).set1 (.int .i64 0)).set2 (.int .i64 0)).set3 (.slice none 0 0)
    clear xR HCS HS
    go_wp2
    go_region
    go_wp2
    obtain ⟨q0,q1,q2,q3⟩ := XS.cell HFX.out
    refine bodyPost_ret (v := .tuple #[.agg #[(.int .u8 0),(.int .i64 0),(.int .i64 0),(.slice none 0 0)],.int .i64 0,.int .i64 a]) (by simp [results,Tryz.results88,go_sem,q0,q1,q2,q3]) rfl ?_
    exact ⟨((((HB.out.setCell (p := ⟨w.heap.size,0,none⟩) (Nat.le_refl _) _).setCell (p := ⟨w.heap.size,1,none⟩) (Nat.le_refl _) _).setCell (p := ⟨w.heap.size,2,none⟩) (Nat.le_refl _) _).setCell (p := ⟨w.heap.size,3,none⟩) (Nat.le_refl _) _).drew,by first | exact Or.inl ⟨ha,rfl⟩ | rfl⟩
def xfC (k : Int) : ByteArray :=
 if k = 0 then ⟨#[63]⟩ else if k = 1 then ⟨#[]⟩ else if k = 2 then ⟨#[107]⟩ else if k = 3 then ⟨#[97]⟩ else if k = 4 then ⟨#[116]⟩ else
 if k = 5 then ⟨#[97,122]⟩ else if k = 6 then ⟨#[97,98]⟩ else if k = 7 then ⟨#[122]⟩ else if k = 8 then ⟨#[99]⟩ else ⟨#[100]⟩
def yfK (n V : Int) (T : List UInt8) : List UInt8 :=
 if 2 <= n /\ n <= 4 then [107] else
 if n = 12 \/ n = 13 \/ n = 16 \/ (32 <= n /\ n <= 36) then [97] else
 if n = 14 then [116] else
 if n = 17 then [97,122] else
 if 0 < V then [97,98] else
 if n = 63 \/ n = 64 then [122] else
 if n = 65 then [99] else
 if n = 66 then [100] else
 if n = 0 \/ n = 1 \/ n = 5 \/ n = 11 \/ n = 15 \/ n = 26 \/ n = 27 \/ (!T == [63]) = true then [] else
 [63]
theorem yjC (n V : Int) (T : ByteArray) : (ykR n V T).data.toList = yfK n V T.data.toList := by
 simp only [ykR,yfK,Lib.toList_data]
 repeat' split
 all_goals rfl
theorem xsO (op : Nat) (h : op < 256) : ymY op = xfC (xdM op) := by
 have key : ∀ op : Fin 256,yfK (op.val : Int) (xfB (op.val : Int)) (ycR (op.val : Int)).data.toList = (xfC (xdM (op.val : Int))).data.toList := by decide +kernel
 have := key ⟨op,h⟩
 have e := yjC op (xfB op) (ycR op)
 rw [this] at e
 apply ByteArray.ext
 exact Array.toList_inj.1 e
theorem ok0 : xeB ⟨#[]⟩ := by
 intro pos h
 have h1 : (⟨#[]⟩ : ByteArray).size = 0 := rfl
 omega
theorem ok1 (c : UInt8) (hc : (c.toNat = 107 \/ c.toNat = 97 \/ c.toNat = 98 \/ c.toNat = 122 \/ c.toNat = 99 \/ c.toNat = 100 \/ c.toNat = 63) \/ (c.toNat = 116 /\ 0 = 0)) : xeB ⟨#[c]⟩ := by
 intro pos h
 have h1 : (⟨#[c]⟩ : ByteArray).size = 1 := rfl
 obtain rfl : pos = 0 := by omega
 exact hc
theorem ok2 (c d : UInt8) (hc : c.toNat = 107 \/ c.toNat = 97 \/ c.toNat = 98 \/ c.toNat = 122 \/ c.toNat = 99 \/ c.toNat = 100 \/ c.toNat = 63) (hd : d.toNat = 107 \/ d.toNat = 97 \/ d.toNat = 98 \/ d.toNat = 122 \/ d.toNat = 99 \/ d.toNat = 100 \/ d.toNat = 63) : xeB ⟨#[c,d]⟩ := by
 intro pos h
 have h1 : (⟨#[c,d]⟩ : ByteArray).size = 2 := rfl
 rcases (show pos = 0 \/ pos = 1 by omega) with rfl | rfl
 ·exact Or.inl hc
 ·exact Or.inl hd
theorem yeT (k : Int) : xeB (xfC k) := by
 unfold xfC
 repeat' split
 all_goals first | exact ok0 | exact ok1 _ (by decide) | exact ok2 _ _ (by decide) (by decide)
theorem xjZ : ∀ (n : Nat) (l : List Int) (a : Int),a ≠ 0 -> (xbL n l a).2.2 = a
 | 0,_,_,_ => rfl
 | n + 1,l,a,h => by
  rw [xbL]
  show (xbL n (xaT l a).2.1 (xaT l a).2.2).2.2 = a
  rw [xhI l a h]
  exact xjZ n _ a h
theorem yhU : ∀ (n : Nat) (l : List Int) (a : Int),(xdQ n l a).2.2 = (xbL n l a).2.2 /\ ((xbL n l a).2.2 = 0 -> xdQ n l a = xbL n l a)
 | 0,_,_ => ⟨rfl,fun _ => rfl⟩
 | n + 1,l,a => by
  by_cases h : a = 0
  ·subst h
   have ih := yhU n (xaT l 0).2.1 (xaT l 0).2.2
   rw [xdQ,if_pos rfl,xbL]
   have e : xaK l 0 = xaT l 0 := by unfold xaK; rw [if_pos rfl]
   rw [e]
   refine ⟨ih.1,fun h0 => ?_⟩
   rw [ih.2 h0]
  ·rw [xiO _ _ _ h]
   have := xjZ (n + 1) l a h
   exact ⟨this.symm,fun h0 => absurd (this.symm.trans h0) h⟩
theorem ybF (l : List Int) (a : Int) : (xaK l a).2.2 = (xaT l a).2.2 /\ ((xaT l a).2.2 = 0 -> xaK l a = xaT l a) := by
 unfold xaK
 by_cases h : a = 0
 ·subst h
  rw [if_pos rfl]
  exact ⟨rfl,fun _ => rfl⟩
 ·rw [if_neg h]
  have := xhI l a h
  exact ⟨this.symm,fun h0 => absurd (this.symm.trans h0) h⟩
theorem xqV (l : List Int) (a : Int) (h : a ≠ 0) : (xdZ l a).2 = a := by
 unfold xdZ
 cases l with
 | nil =>
  show (if (0 : Int) = 0 then xbD a 3 else xbD (xbD a 3) 4) = a
  rw [if_pos rfl,xqQ h]
 | cons b r =>
  show (if b = 0 then a else xbD a 4) = a
  rw [xqQ h]
  split <;> rfl
def xcO (k : Int) (l1 : List Int) (a1 : Int) : QSt := xhL (xaX (xfC k)) ⟨0,0,[],l1,if ((xfC k).toList == [63]) = true then xbD a1 6 else a1⟩
theorem xcN (k : Int) : xaX (xfC k) = if k = 0 then [63] else if k = 1 then [] else if k = 2 then [107] else if k = 3 then [97] else if k = 4 then [116] else if k = 5 then [97,122] else if k = 6 then [97,98] else if k = 7 then [122] else if k = 8 then [99] else [100] := by
 unfold xfC
 repeat' split
 all_goals rfl
theorem xbE (k : Int) (h : k ≠ 0) : ((xfC k).toList == [63]) = false := by
 rw [Lib.toList_data]
 unfold xfC
 rw [if_neg h]
 repeat' split
 all_goals rfl
theorem q_1 (l1 : List Int) (a1 : Int) : xcO 1 l1 a1 = ⟨0,0,[],l1,a1⟩ := by
 unfold xcO
 rw [xbE 1 (by decide),xcN]
 rfl
theorem q_m (k op : Int) (l1 : List Int) (h0 : 0 <= k) (h9 : k <= 9) : (xcO k l1 0).a = (xlY k op l1 0).e /\ ((xlY k op l1 0).e = 0 -> (xcO k l1 0).A = (xlY k op l1 0).A /\ (xcO k l1 0).B = (xlY k op l1 0).B /\ (xcO k l1 0).To = (xlY k op l1 0).To /\ (xcO k l1 0).l = (xlY k op l1 0).l) := by
 have eN : ∀ l,xaI l 0 = xbJ l 0 := fun l => by unfold xaI; rw [if_pos rfl]
 have eU : ∀ l,xaK l 0 = xaT l 0 := fun l => by unfold xaK; rw [if_pos rfl]
 have eS : ∀ B l,xfM B l 0 = xcR B l 0 := fun B l => by unfold xfM; rw [if_pos rfl]
 rcases (show k = 0 \/ k = 1 \/ k = 2 \/ k = 3 \/ k = 4 \/ k = 5 \/ k = 6 \/ k = 7 \/ k = 8 \/ k = 9 by omega) with rfl | rfl | rfl | rfl | rfl | rfl | rfl | rfl | rfl | rfl
 ·have e : (xcO 0 l1 0).a = 6 := by
   unfold xcO
   rw [show ((xfC 0).toList == [63]) = true by rw [Lib.toList_data]; rfl,xcN]
   rfl
  exact ⟨e,fun h => by cases h⟩
 ·rw [q_1]
  exact ⟨rfl,fun _ => ⟨rfl,rfl,rfl,rfl⟩⟩
 ·have e : xcO 2 l1 0 = xeE 107 ⟨0,0,[],l1,0⟩ := by
   unfold xcO
   rw [xbE 2 (by decide),xcN]
   rfl
  rw [e]
  show (if xlK (xaI l1 0).1 = true then (xaI l1 0).2.2 else xbD (xaI l1 0).2.2 6) = (xcQ l1 0).2.2 /\ ((xcQ l1 0).2.2 = 0 -> (xaI l1 0).1 = (xcQ l1 0).1 /\ (0 : Int) = 0 /\ ([] : List Int) = [] /\ (xaI l1 0).2.1 = (xcQ l1 0).2.1)
  rw [eN]
  exact ⟨rfl,fun _ => ⟨rfl,rfl,rfl,rfl⟩⟩
 ·have e : xcO 3 l1 0 = xeE 97 ⟨0,0,[],l1,0⟩ := by
   unfold xcO
   rw [xbE 3 (by decide),xcN]
   rfl
  rw [e]
  show (xaK l1 0).2.2 = (xaT l1 0).2.2 /\ ((xaT l1 0).2.2 = 0 -> (xaK l1 0).1 = (xaT l1 0).1 /\ (0 : Int) = 0 /\ ([] : List Int) = [] /\ (xaK l1 0).2.1 = (xaT l1 0).2.1)
  rw [eU]
  exact ⟨rfl,fun _ => ⟨rfl,rfl,rfl,rfl⟩⟩
 ·have e : xcO 4 l1 0 = xzE ⟨0,0,[],l1,0⟩ := by
   unfold xcO
   rw [xbE 4 (by decide),xcN]
   rfl
  rw [e]
  show (xzE ⟨0,0,[],l1,0⟩).a = (xaT (xaP l1 0).2.1 (xaP l1 0).2.2).2.2 /\ ((xaT (xaP l1 0).2.1 (xaP l1 0).2.2).2.2 = 0 -> (xzE ⟨0,0,[],l1,0⟩).A = (xaT (xaP l1 0).2.1 (xaP l1 0).2.2).1 /\ (xzE ⟨0,0,[],l1,0⟩).B = 0 /\ (xzE ⟨0,0,[],l1,0⟩).To = (xaP l1 0).1 /\ (xzE ⟨0,0,[],l1,0⟩).l = (xaT (xaP l1 0).2.1 (xaP l1 0).2.2).2.1)
  unfold xzE
  simp only [eU]
  unfold xaP
  by_cases h16 : (xaT l1 0).1 > 16
  ·simp only [if_pos h16]
   have hne : xbD (xaT l1 0).2.2 2 ≠ 0 := by
    unfold xbD
    split
    ·decide
    ·assumption
   rw [xiO _ _ _ hne]
   have e1 := xhI (xaT l1 0).2.1 _ hne
   have e2 : xaK (xaT l1 0).2.1 (xbD (xaT l1 0).2.2 2) = (0,(xaT l1 0).2.1,xbD (xaT l1 0).2.2 2) := by unfold xaK; rw [if_neg hne]
   simp only [e2]
   rw [e1]
   exact ⟨rfl,fun h => absurd h hne⟩
  ·simp only [if_neg h16]
   have f := yhU (xaT l1 0).1.toNat (xaT l1 0).2.1 (xaT l1 0).2.2
   generalize xdQ (xaT l1 0).1.toNat (xaT l1 0).2.1 (xaT l1 0).2.2 = qf at f ⊢
   generalize xbL (xaT l1 0).1.toNat (xaT l1 0).2.1 (xaT l1 0).2.2 = mf at f ⊢
   by_cases hz : mf.2.2 = 0
   ·rw [f.2 hz]
    have g := ybF mf.2.1 mf.2.2
    refine ⟨g.1,fun h => ?_⟩
    rw [g.2 h]
    exact ⟨rfl,trivial,rfl,rfl⟩
   ·have hq : qf.2.2 ≠ 0 := by rw [f.1]; exact hz
    have e1 := xhI mf.2.1 _ hz
    have e2 : xaK qf.2.1 qf.2.2 = (0,qf.2.1,qf.2.2) := by unfold xaK; rw [if_neg hq]
    simp only [e2]
    rw [e1]
    exact ⟨f.1,fun h => absurd h hz⟩
 ·have e : xcO 5 l1 0 = xeE 122 (xeE 97 ⟨0,0,[],l1,0⟩) := by
   unfold xcO
   rw [xbE 5 (by decide),xcN]
   rfl
  rw [e]
  show (if (xaI (xaK l1 0).2.1 (xaK l1 0).2.2).1 = 0 then (xaI (xaK l1 0).2.1 (xaK l1 0).2.2).2.2 else xbD (xaI (xaK l1 0).2.1 (xaK l1 0).2.2).2.2 4) = (xdZ (xaT l1 0).2.1 (xaT l1 0).2.2).2 /\ ((xdZ (xaT l1 0).2.1 (xaT l1 0).2.2).2 = 0 -> (xaK l1 0).1 = (xaT l1 0).1 /\ (0 : Int) = 0 /\ ([] : List Int) = [] /\ (xaI (xaK l1 0).2.1 (xaK l1 0).2.2).2.1 = (xdZ (xaT l1 0).2.1 (xaT l1 0).2.2).1)
  rw [eU]
  generalize xaT l1 0 = m
  by_cases hz : m.2.2 = 0
  ·rw [hz,eN]
   exact ⟨rfl,fun _ => ⟨rfl,rfl,rfl,rfl⟩⟩
  ·have e1 := xqV m.2.1 m.2.2 hz
   have e2 : xaI m.2.1 m.2.2 = (0,m.2.1,m.2.2) := by unfold xaI; rw [if_neg hz]
   rw [e1,e2]
   exact ⟨rfl,fun h => absurd h hz⟩
 ·have e : xcO 6 l1 0 = xeE 98 (xeE 97 ⟨0,0,[],l1,0⟩) := by
   unfold xcO
   rw [xbE 6 (by decide),xcN]
   rfl
  rw [e]
  show (xaK (xaK l1 0).2.1 (xaK l1 0).2.2).2.2 = (xaT (xaT l1 0).2.1 (xaT l1 0).2.2).2.2 /\ ((xaT (xaT l1 0).2.1 (xaT l1 0).2.2).2.2 = 0 -> (xaK l1 0).1 = (xaT l1 0).1 /\ (xaK (xaK l1 0).2.1 (xaK l1 0).2.2).1 = (xaT (xaT l1 0).2.1 (xaT l1 0).2.2).1 /\ ([] : List Int) = [] /\ (xaK (xaK l1 0).2.1 (xaK l1 0).2.2).2.1 = (xaT (xaT l1 0).2.1 (xaT l1 0).2.2).2.1)
  rw [eU]
  have g := ybF (xaT l1 0).2.1 (xaT l1 0).2.2
  refine ⟨g.1,fun h => ?_⟩
  rw [g.2 h]
  exact ⟨rfl,rfl,rfl,rfl⟩
 ·have e : xcO 7 l1 0 = xeE 122 ⟨0,0,[],l1,0⟩ := by
   unfold xcO
   rw [xbE 7 (by decide),xcN]
   rfl
  rw [e]
  show (if (xaI l1 0).1 = 0 then (xaI l1 0).2.2 else xbD (xaI l1 0).2.2 4) = (xdZ l1 0).2 /\ ((xdZ l1 0).2 = 0 -> (0 : Int) = 0 /\ (0 : Int) = 0 /\ ([] : List Int) = [] /\ (xaI l1 0).2.1 = (xdZ l1 0).1)
  rw [eN]
  exact ⟨rfl,fun _ => ⟨rfl,rfl,rfl,rfl⟩⟩
 ·have e : xcO 8 l1 0 = xeE 99 ⟨0,0,[],l1,0⟩ := by
   unfold xcO
   rw [xbE 8 (by decide),xcN]
   rfl
  rw [e]
  show (xfM 32 l1 0).2.2 = (xcR 32 l1 0).2.2 /\ ((xcR 32 l1 0).2.2 = 0 -> (xfM 32 l1 0).1 = (xcR 32 l1 0).1 /\ (0 : Int) = 0 /\ ([] : List Int) = [] /\ (xfM 32 l1 0).2.1 = (xcR 32 l1 0).2.1)
  rw [eS]
  exact ⟨rfl,fun _ => ⟨rfl,rfl,rfl,rfl⟩⟩
 ·have e : xcO 9 l1 0 = xeE 100 ⟨0,0,[],l1,0⟩ := by
   unfold xcO
   rw [xbE 9 (by decide),xcN]
   rfl
  rw [e]
  show (xfM 64 l1 0).2.2 = (xcR 64 l1 0).2.2 /\ ((xcR 64 l1 0).2.2 = 0 -> (xfM 64 l1 0).1 = (xcR 64 l1 0).1 /\ (0 : Int) = 0 /\ ([] : List Int) = [] /\ (xfM 64 l1 0).2.1 = (xcR 64 l1 0).2.1)
  rw [eS]
  exact ⟨rfl,fun _ => ⟨rfl,rfl,rfl,rfl⟩⟩
theorem yeU (k op : Int) (l1 : List Int) (a1 : Int) : (xlY k op l1 a1).op = op := by
 unfold xlY
 repeat' split
 all_goals rfl
theorem xvO (s : ByteArray) (hs : s.size <= maxLen) (w : World) (hM : MaxIn w) :
  Calls Tryz.prog 88 #[.string s] w fun r w' => Below w.heap.size w w' /\
   ((¬ (xbZ (xaX s) 0).e = 0 /\ r = .returned (.tuple #[.agg #[.int .u8 0,.int .i64 0,.int .i64 0,.slice none 0 0],.int .i64 0,.int .i64 (xbZ (xaX s) 0).e])) \/
    ((xbZ (xaX s) 0).e = 0 /\ ∃ o cap,r = .returned (.tuple #[.agg #[.int .u8 (xbZ (xaX s) 0).op,.int .i64 (xbZ (xaX s) 0).A,.int .i64 (xbZ (xaX s) 0).B,.slice o (xbZ (xaX s) 0).To.length cap],.int .i64 ((s.size : Int) - ((xbZ (xaX s) 0).l.length : Int)),.int .i64 0]) /\ w'.ownsRow w.heap.size 2 1 (.slice o (xbZ (xaX s) 0).To.length cap) (xbZ (xaX s) 0).To.length ((xbZ (xaX s) 0).To.map (Value.int .i64)))) := by
 have hb := xgR (xaX s) 0 (xaE s)
 obtain ⟨⟨op,l1,a1⟩,hm⟩ : ∃ m,xbJ (xaX s) 0 = m := ⟨_,rfl⟩
 rw [hm] at hb
 dsimp only at hb
 obtain ⟨h0,h1⟩ := hb
 have hmi : xbZ (xaX s) 0 = xlY (xdM op) op l1 a1 := by unfold xbZ; rw [hm]
 rw [hmi]
 have hrg := xdF op
 have key : (xcO (xdM op) l1 a1).a = (xlY (xdM op) op l1 a1).e /\ ((xlY (xdM op) op l1 a1).e = 0 -> (xcO (xdM op) l1 a1).A = (xlY (xdM op) op l1 a1).A /\ (xcO (xdM op) l1 a1).B = (xlY (xdM op) op l1 a1).B /\ (xcO (xdM op) l1 a1).To = (xlY (xdM op) op l1 a1).To /\ (xcO (xdM op) l1 a1).l = (xlY (xdM op) op l1 a1).l) := by
  cases hl : xaX s with
  | nil =>
   rw [hl] at hm
   cases hm
   have e : xdM 0 = 1 := by decide
   rw [e,q_1]
   exact ⟨rfl,fun _ => ⟨rfl,rfl,rfl,rfl⟩⟩
  | cons b r =>
   rw [hl] at hm
   cases hm
   exact q_m (xdM op) op l1 hrg.1 hrg.2
 have hop := yeU (xdM op) op l1 a1
 have hbes : ∀ w',Below w.heap.size w w' -> Calls Tryz.prog 99 #[.int .u8 op] w' fun e w'' => e = .returned (.string (xfC (xdM op))) /\ Below w'.heap.size w' w'' := fun w' b => by
  obtain ⟨k,rfl⟩ : ∃ k : Nat,op = (k : Int) := ⟨op.toNat,by omega⟩
  rw [<- xsO k (by omega)]
  exact xkS k (by omega) w' (hM.below b)
 refine (xtU s (xfC (xdM op)) hs (yeT _) l1 op a1 h0 h1 _ rfl (xcO (xdM op) l1 a1) w hm hbes rfl).mono ?_
 rintro r w1 ⟨b,hr⟩
 refine ⟨b,?_⟩
 generalize xlY (xdM op) op l1 a1 = M at key hop ⊢
 generalize xcO (xdM op) l1 a1 = Q at key hr
 rcases hr with ⟨hne,hr⟩ | ⟨he,o,cap,hr,hown⟩
 ·rw [key.1] at hne hr
  exact Or.inl ⟨hne,hr⟩
 ·rw [key.1] at he
  obtain ⟨e1,e2,e3,e4⟩ := key.2 he
  rw [e1,e2,e3,e4,<- hop] at hr
  rw [e3] at hown
  exact Or.inr ⟨he,o,cap,hr,hown⟩
end Go.Proofs.YtmmjgdaamkdncaaGreatDoor
