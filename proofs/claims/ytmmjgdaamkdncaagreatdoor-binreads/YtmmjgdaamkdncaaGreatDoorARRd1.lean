import Derived.Test.YtmmjgdaamkdncaaGreatDoorAGCur
import Derived.OneCell
namespace Go.Proofs.YtmmjgdaamkdncaaGreatDoor
set_option linter.unusedVariables false
open Go.RowKit
def CL (w : World) (P : Nat) (l : List Int) (n a : Int) : Prop := ∃ s,xaX s = l /\ s.size <= maxLen /\ CS w P s n a
theorem CL.lt {w : World} {P : Nat} {l : List Int} {n a : Int} (h : CL w P l n a) : P < w.heap.size := by
 obtain ⟨s,_,_,h⟩ := h
 exact h.lt
theorem CL.byte {w : World} {P : Nat} {l : List Int} {n a : Int} (h : CL w P l n a) : ∀ b ∈ l,0 <= b /\ b < 256 := by
 obtain ⟨s,rfl,_,_⟩ := h
 exact xaE s
theorem CL.heap {w w' : World} {P : Nat} {l : List Int} {n a : Int} (h : CL w P l n a) (e : w'.heap[P]? = w.heap[P]?) : CL w' P l n a := by
 obtain ⟨s,h1,h2,h3⟩ := h
 refine ⟨s,h1,h2,?_⟩
 unfold CS at h3 ⊢
 rw [e,h3]
theorem CL.say {w : World} {P : Nat} {l : List Int} {n a : Int} (h : CL w P l n a) (is : Bool) (e : Int) :
  Calls Tryz.prog 13 #[.pointer (some ⟨P,0,none⟩),.bool is,.int .i64 e] w fun r w' => r = .returned (.tuple #[]) /\ CL w' P l n (if is then xbD a e else a) /\ Chg P w w' := by
 obtain ⟨s,h1,h2,h3⟩ := h
 refine (xgE P s n a e is w h3).mono ?_
 rintro r w1 ⟨rfl,h4,c⟩
 exact ⟨rfl,⟨s,h1,h2,h4⟩,c⟩
def xaI (l : List Int) (a : Int) : Int × List Int × Int := if a = 0 then xbJ l 0 else (0,l,a)
theorem xiD (P : Nat) (l : List Int) (n a : Int) (w : World) (h : CL w P l n a) :
  Calls Tryz.prog 12 #[.pointer (some ⟨P,0,none⟩)] w fun r w' => r = .returned (.int .i64 (xaI l a).1) /\ CL w' P (xaI l a).2.1 n (xaI l a).2.2 /\ Chg P w w' := by
 obtain ⟨s,rfl,hm,h⟩ := h
 unfold xaI
 by_cases h0 : s.size = 0
 ·have e : xaX s = [] := List.length_eq_zero_iff.1 (by rw [xaY]; exact h0)
  refine (xwX P s n a w h h0).mono ?_
  rintro r w1 ⟨rfl,h1,c1⟩
  by_cases ha : a = 0
  ·subst ha
   rw [if_pos rfl,e]
   exact ⟨rfl,⟨s,e,hm,h1⟩,c1⟩
  ·rw [if_neg ha]
   have e1 : xbD a 3 = a := by unfold xbD; rw [if_neg ha]
   rw [e1] at h1
   exact ⟨rfl,⟨s,rfl,hm,h1⟩,c1⟩
 ·have hp : 0 < s.size := by omega
  by_cases ha : a = 0
  ·subst ha
   rw [if_pos rfl]
   have e : xaX s = ((s[0]'hp).toNat : Int) :: (xaX s).drop 1 := by
    have := xeZ s 0 hp
    rw [List.drop_zero] at this
    exact this
   refine (xtH P s n w h hp hm).mono ?_
   rintro r w1 ⟨rfl,h1,c1⟩
   rw [e]
   exact ⟨rfl,⟨_,xbN s 1,xbF s 1 hm,h1⟩,c1⟩
  ·rw [if_neg ha]
   refine (xwW P s n a w h hp ha).mono ?_
   rintro r w1 ⟨rfl,h1,c1⟩
   exact ⟨rfl,⟨s,rfl,hm,h1⟩,c1⟩
def xaK (l : List Int) (a : Int) : Int × List Int × Int := if a = 0 then xaT l 0 else (0,l,a)
theorem xoC (P : Nat) (l : List Int) (n a : Int) (w : World) (h : CL w P l n a) :
  Calls Tryz.prog 36 #[.pointer (some ⟨P,0,none⟩)] w fun r w' => r = .returned (.int .i64 (xaK l a).1) /\ CL w' P (xaK l a).2.1 n (xaK l a).2.2 /\ Chg P w w' := by
 have hby := h.byte
 obtain ⟨s,rfl,hm,h⟩ := h
 have hlt := xmQ (xaX s) hby
 unfold xaK
 by_cases ha : a = 0
 ·subst ha
  rw [if_pos rfl]
  unfold xaT
  rcases ykT 32 (Or.inl rfl) (xaX s) hby with ⟨e,he,hr⟩ | ⟨m,k,_,_,hk,hr⟩
  ·have he0 : ¬ e = 0 := by simpa using he
   rw [hr]
   simp only [if_neg he0]
   refine (ydC P s n 0 w 0 0 e (fun w => xgD s 32 0 0 e hm hr w) h he0).mono ?_
   rintro r w1 ⟨rfl,h1,c1⟩
   exact ⟨rfl,⟨s,rfl,hm,h1⟩,c1⟩
  ·rw [hr] at hlt
   rw [hr]
   simp only [if_true,Int.toNat_natCast]
   rw [xaY] at hk
   refine (yhI P s n m (by omega) hlt w k hk hm (fun w => xgD s 32 m k 0 hm hr w) h).mono ?_
   rintro r w1 ⟨rfl,h1,c1⟩
   exact ⟨rfl,⟨_,xbN s k,xbF s k hm,h1⟩,c1⟩
 ·rw [if_neg ha]
  refine (ydD P s n _ w a _ _ (fun w => xgD s 32 (rU 32 (xaX s)).1 (rU 32 (xaX s)).2.1 (rU 32 (xaX s)).2.2 hm rfl w) h ha).mono ?_
  rintro r w1 ⟨rfl,h1,c1⟩
  exact ⟨rfl,⟨s,rfl,hm,h1⟩,c1⟩
def xfM (B : Int) (l : List Int) (a : Int) : Int × List Int × Int := if a = 0 then xcR B l 0 else (0,l,a)
theorem ybH (P : Nat) (B : Int) (hB : B = 32 \/ B = 64) (l : List Int) (n a : Int) (w : World) (h : CL w P l n a) :
  Calls Tryz.prog 68 #[.pointer (some ⟨P,0,none⟩),.int .i64 B] w fun r w' => r = .returned (.int .i64 (xfM B l a).1) /\ CL w' P (xfM B l a).2.1 n (xfM B l a).2.2 /\ Chg P w w' := by
 have hby := h.byte
 obtain ⟨s,rfl,hm,h⟩ := h
 unfold xfM
 by_cases ha : a = 0
 ·subst ha
  rw [if_pos rfl]
  unfold xcR
  rcases yfE B hB (xaX s) hby with ⟨e,he,hr⟩ | ⟨m,k,hm0,hm1,_,hk,hr⟩
  ·have he0 : ¬ e = 0 := by simpa using he
   rw [hr]
   simp only [if_neg he0]
   refine (xsB P s n 0 B w 0 0 e (fun w => xgC s B 0 0 e hm hr w) h he0).mono ?_
   rintro r w1 ⟨rfl,h1,c1⟩
   exact ⟨rfl,⟨s,rfl,hm,h1⟩,c1⟩
  ·rw [hr]
   simp only [if_true,Int.toNat_natCast]
   rw [xaY] at hk
   refine (xvX P s n m B w k hk hm (fun w => xgC s B m k 0 hm hr w) h).mono ?_
   rintro r w1 ⟨rfl,h1,c1⟩
   exact ⟨rfl,⟨_,xbN s k,xbF s k hm,h1⟩,c1⟩
 ·rw [if_neg ha]
  refine (xsC P s n _ B w a _ _ (fun w => xgC s B (rS B (xaX s)).1 (rS B (xaX s)).2.1 (rS B (xaX s)).2.2 hm rfl w) h ha).mono ?_
  rintro r w1 ⟨rfl,h1,c1⟩
  exact ⟨rfl,⟨s,rfl,hm,h1⟩,c1⟩
theorem Chg.grown {P : Nat} {w w' : World} (c : Chg P w w') : w.grownBy w' (some P) := ⟨c.os,c.tape,c.output,c.size,fun k hk hp => c.block k hk (fun e => hp (by rw [e]))⟩
theorem Chg.iterAt (I : Nat) (w : World) (F : ByteArray) (p : Nat) : Chg I w (w.iterAt I F p) :=
 ⟨rfl,rfl,rfl,Nat.le_of_eq (Lib.iterAt_size w I F p).symm,fun k _ hp => Lib.iterAt_other w I k F p hp⟩
theorem XS.under {w w' : World} {X : Nat} {c0 c1 c2 c3 : Value} (h : XS w X c0 c1 c2 c3) (b : Below w.heap.size w w') : XS w' X c0 c1 c2 c3 := by
 have hl := h.lt
 unfold XS at h ⊢
 rw [b.block X hl,h]
structure ynO (base R P X I : Nat) : Prop where
 r : base <= R
 p : base <= P
 x : base <= X
 i : base <= I
 rp : R ≠ P
 rx : R ≠ X
 ri : R ≠ I
 px : P ≠ X
 pi : P ≠ I
 xi : X ≠ I
structure RdS (w wr : World) (R P X I : Nat) (F : ByteArray) (pos : Nat) (op n A B : Int) (o : Option Addr) (cap : Nat) (To l : List Int) (a : Int) : Prop where
 four : ynO w.heap.size R P X I
 res : XS wr R (.int .u8 0) (.int .i64 0) (.int .i64 0) (.slice none 0 0)
 cur : CL wr P l n a
 ins : XS wr X (.int .u8 op) (.int .i64 A) (.int .i64 B) (.slice o To.length cap)
 iter : wr.heap[I]? = some (.stringIter F pos)
 to : wr.ownsRow w.heap.size 2 1 (.slice o To.length cap) To.length (To.map (Value.int .i64))
 far : ∀ g,o = some g -> g.block ≠ R /\ g.block ≠ P /\ g.block ≠ X /\ g.block ≠ I
 below : Below w.heap.size w wr
section
variable {w wr w' : World} {R P X I : Nat} {F : ByteArray} {pos : Nat} {op n A B : Int} {o : Option Addr} {cap : Nat} {To l : List Int} {a : Int}
theorem xfV (hf : ∀ g,o = some g -> g.block ≠ R /\ g.block ≠ P /\ g.block ≠ X /\ g.block ≠ I) (k : Nat) : (Value.slice o k cap).ownBlock ≠ some R /\ (Value.slice o k cap).ownBlock ≠ some P /\ (Value.slice o k cap).ownBlock ≠ some X /\ (Value.slice o k cap).ownBlock ≠ some I := by
 cases o with
 | none => simp [Value.ownBlock]
 | some g =>
  have := hf g rfl
  simpa [Value.ownBlock] using this
theorem RdS.lt (h : RdS w wr R P X I F pos op n A B o cap To l a) : I < wr.heap.size := (Array.getElem?_eq_some_iff.1 h.iter).1
theorem RdS.chgP (h : RdS w wr R P X I F pos op n A B o cap To l a) (c : Chg P wr w') {l' : List Int} {a' : Int} (r : CL w' P l' n a') : RdS w w' R P X I F pos op n A B o cap To l' a' :=
 ⟨h.four,h.res.chg c h.four.rp,r,h.ins.chg c h.four.px.symm,by rw [c.block I h.lt h.four.pi.symm]; exact h.iter,h.to.kept c.grown (Or.inr (xfV h.far _).2.1),h.far,h.below.trans (c.below h.four.p h.below.size)⟩
theorem RdS.chgI (h : RdS w wr R P X I F pos op n A B o cap To l a) (pos' : Nat) : RdS w (wr.iterAt I F pos') R P X I F pos' op n A B o cap To l a :=
 ⟨h.four,h.res.chg (Chg.iterAt ..) h.four.ri,h.cur.heap (Lib.iterAt_other _ _ _ _ _ h.four.pi),h.ins.chg (Chg.iterAt ..) h.four.xi,Lib.iterAt_heap _ _ _ _ _ h.iter,h.to.kept (Chg.iterAt ..).grown (Or.inr (xfV h.far _).2.2.2),h.far,h.below.trans ((Chg.iterAt ..).below h.four.i h.below.size)⟩
theorem RdS.setA (h : RdS w wr R P X I F pos op n A B o cap To l a) (x : Int) : RdS w (wr.setCell ⟨X,1,none⟩ (.int .i64 x)) R P X I F pos op n x B o cap To l a :=
 ⟨h.four,h.res.chg (Chg.set ..) h.four.rx,h.cur.heap (Below.heap_setCell _ _ _ _ h.four.px),h.ins.set1 _,(Below.heap_setCell _ _ _ _ h.four.xi.symm).trans h.iter,h.to.kept (Chg.set ..).grown (Or.inr (xfV h.far _).2.2.1),h.far,h.below.setCell h.four.x _⟩
theorem RdS.setB (h : RdS w wr R P X I F pos op n A B o cap To l a) (x : Int) : RdS w (wr.setCell ⟨X,2,none⟩ (.int .i64 x)) R P X I F pos op n A x o cap To l a :=
 ⟨h.four,h.res.chg (Chg.set ..) h.four.rx,h.cur.heap (Below.heap_setCell _ _ _ _ h.four.px),h.ins.set2 _,(Below.heap_setCell _ _ _ _ h.four.xi.symm).trans h.iter,h.to.kept (Chg.set ..).grown (Or.inr (xfV h.far _).2.2.1),h.far,h.below.setCell h.four.x _⟩
theorem RdS.drew (h : RdS w wr R P X I F pos op n A B o cap To l a) : RdS w wr.drew R P X I F pos op n A B o cap To l a :=
 ⟨h.four,h.res,h.cur,h.ins,h.iter,h.to.drew,h.far,h.below.drew⟩
theorem RdS.lts (h : RdS w wr R P X I F pos op n A B o cap To l a) : R < wr.heap.size /\ P < wr.heap.size /\ X < wr.heap.size /\ I < wr.heap.size := ⟨h.res.lt,h.cur.lt,h.ins.lt,h.lt⟩
theorem RdS.app (h : RdS w wr R P X I F pos op n A B o cap To l a) {w7 : World} {g cap3 : Nat} {y : Int} (hg : wr.grownBy w7 (Value.slice o To.length cap).ownBlock) (hown : w7.ownsRow w.heap.size 2 1 (.slice (some ⟨g,0,none⟩) (To.length + 1) cap3) (To.length + 1) (To.map (Value.int .i64) ++ [.int .i64 y])) (hat : (Value.slice o To.length cap).ownBlock = some g \/ g = wr.heap.size) :
  RdS w (w7.setCell ⟨X,3,none⟩ (.slice (some ⟨g,0,none⟩) (To.length + 1) cap3)) R P X I F pos op n A B (some ⟨g,0,none⟩) cap3 (To ++ [y]) l a := by
 obtain ⟨lR,lP,lX,lI⟩ := h.lts
 obtain ⟨oR,oP,oX,oI⟩ := xfV h.far To.length
 have hl : (To ++ [y]).length = To.length + 1 := by simp
 have hgX : g ≠ R /\ g ≠ P /\ g ≠ X /\ g ≠ I := by
  rcases hat with e | e
  ·rw [e] at oR oP oX oI
   simp only [ne_eq,Option.some.injEq] at oR oP oX oI
   exact ⟨oR,oP,oX,oI⟩
  ·omega
 have x7 : XS w7 X (.int .u8 op) (.int .i64 A) (.int .i64 B) (.slice o To.length cap) := by
  have := h.ins
  unfold XS at this ⊢
  rw [hg.block X lX (Ne.symm oX),this]
 have r7 : XS w7 R (.int .u8 0) (.int .i64 0) (.int .i64 0) (.slice none 0 0) := by
  have := h.res
  unfold XS at this ⊢
  rw [hg.block R lR (Ne.symm oR),this]
 refine ⟨h.four,r7.far X 3 _ h.four.rx,?_,?_,?_,?_,?_,?_⟩
 ·exact h.cur.heap ((Below.heap_setCell _ _ _ _ h.four.px).trans (hg.block P lP (Ne.symm oP)))
 ·rw [hl]; exact x7.set3 _
 ·rw [Below.heap_setCell _ _ _ _ h.four.xi.symm,hg.block I lI (Ne.symm oI)]
  exact h.iter
 ·rw [hl,List.map_append]
  exact hown.kept (Chg.set ..).grown (Or.inr (by simp [Value.ownBlock]; exact hgX.2.2.1))
 ·intro a' ha'
  cases ha'
  exact hgX
 ·refine (h.below.grown hg h.below.size ?_).setCell h.four.x _
  intro k hk
  exact (h.to.lt k hk).1
theorem RdS.under (h : RdS w wr R P X I F pos op n A B o cap To l a) (b : Below wr.heap.size wr w') : RdS w w' R P X I F pos op n A B o cap To l a :=
 ⟨h.four,h.res.under b,h.cur.heap (b.block P h.cur.lt),h.ins.under b,by rw [b.block I h.lt]; exact h.iter,
  h.to.kept (row := none) ⟨b.os,b.tape,b.output,b.size,fun k hk _ => b.block k hk⟩ (by cases hv : (Value.slice o To.length cap).ownBlock <;> simp),h.far,h.below.trans (b.mono h.below.size)⟩
theorem RdS.own (h : RdS w wr R P X I F pos op n A B o cap To l a) {w2 : World} (b : Below wr.heap.size wr w2) : w2.ownsRow w.heap.size 2 1 (.slice o To.length cap) To.length (To.map (Value.int .i64)) :=
 h.to.kept (row := none) ⟨b.os,b.tape,b.output,b.size,fun k hk _ => b.block k hk⟩ (by cases hv : (Value.slice o To.length cap).ownBlock <;> simp)
theorem xmJ {w2 : World} {Y i : Nat} {v : Value} {base k : Nat} {xs : List Value} (h : w2.ownsRow base 2 1 (.slice o k cap) k xs) (hf : (Value.slice o k cap).ownBlock ≠ some Y) : (w2.setCell ⟨Y,i,none⟩ v).ownsRow base 2 1 (.slice o k cap) k xs := h.kept (Chg.set ..).grown (Or.inr hf)
theorem CS.far {w : World} {P : Nat} {s : ByteArray} {n e : Int} (h : CS w P s n e) (Y i : Nat) (v : Value) (hY : P ≠ Y) : CS (w.setCell ⟨Y,i,none⟩ v) P s n e := by
 unfold CS at h ⊢
 rw [Below.heap_setCell _ _ _ _ hY,h]
theorem RdS.capLe (h : RdS w wr R P X I F pos op n A B o cap To l a) : To.length <= cap /\ cap <= maxLen := by
 rcases h.to.2 with ⟨h1,h2⟩ | ⟨g,c,cur,h1,_,_,h2,h3,_⟩
 ·simp only [Value.slice.injEq] at h1
  unfold maxLen
  omega
 ·simp only [Value.slice.injEq] at h1
  omega
theorem RdS.frozen (h : RdS w wr R P X I F pos op n A B o cap To l a) (i : Nat) : wr.frozen? ⟨X,i,none⟩ = false := h.ins.frozen i
end
def xdQ : Nat -> List Int -> Int -> List Int × List Int × Int
 | 0,l,a => ([],l,a)
 | n + 1,l,a => if a = 0 then ((xaK l a).1 :: (xdQ n (xaK l a).2.1 (xaK l a).2.2).1,(xdQ n (xaK l a).2.1 (xaK l a).2.2).2) else ([],l,a)
theorem xiO (n : Nat) (l : List Int) (a : Int) (h : a ≠ 0) : xdQ n l a = ([],l,a) := by
 cases n with
 | zero => rfl
 | succ n => rw [xdQ,if_neg h]
def yaR (w : World) (X : Nat) : Nat := match w.cell? ⟨X,3,none⟩ with
 | some (.slice _ n _) => n
 | _ => 0
theorem xsW {w : World} {X : Nat} {o : Option Addr} {n c : Nat} {c0 c1 c2 : Value} (h : XS w X c0 c1 c2 (.slice o n c)) : yaR w X = n := by
 unfold yaR
 rw [h.cell.2.2.2]
structure QSt where
 A : Int
 B : Int
 To : List Int
 l : List Int
 a : Int
def xzE (q : QSt) : QSt :=
 let m := xaK q.l q.a
 let f := xdQ m.1.toNat m.2.1 (if m.1 > 16 then xbD m.2.2 2 else m.2.2)
 let z := xaK f.2.1 f.2.2
 ⟨z.1,q.B,f.1,z.2.1,z.2.2⟩
def xeE (c : Int) (q : QSt) : QSt :=
 if c = 107 then ⟨(xaI q.l q.a).1,q.B,q.To,(xaI q.l q.a).2.1,if xlK (xaI q.l q.a).1 then (xaI q.l q.a).2.2 else xbD (xaI q.l q.a).2.2 6⟩
 else if c = 97 then ⟨(xaK q.l q.a).1,q.B,q.To,(xaK q.l q.a).2.1,(xaK q.l q.a).2.2⟩
 else if c = 98 then ⟨q.A,(xaK q.l q.a).1,q.To,(xaK q.l q.a).2.1,(xaK q.l q.a).2.2⟩
 else if c = 122 then ⟨q.A,q.B,q.To,(xaI q.l q.a).2.1,if (xaI q.l q.a).1 = 0 then (xaI q.l q.a).2.2 else xbD (xaI q.l q.a).2.2 4⟩
 else if c = 99 then ⟨(xfM 32 q.l q.a).1,q.B,q.To,(xfM 32 q.l q.a).2.1,(xfM 32 q.l q.a).2.2⟩
 else if c = 100 then ⟨(xfM 64 q.l q.a).1,q.B,q.To,(xfM 64 q.l q.a).2.1,(xfM 64 q.l q.a).2.2⟩
 else if c = 116 then xzE q
 else q
def xhL (f : List Int) (q : QSt) : QSt := f.foldl (fun q c => xeE c q) q
theorem xtL (c : Int) (f : List Int) (q : QSt) : xhL (c :: f) q = xhL f (xeE c q) := rfl
end Go.Proofs.YtmmjgdaamkdncaaGreatDoor
