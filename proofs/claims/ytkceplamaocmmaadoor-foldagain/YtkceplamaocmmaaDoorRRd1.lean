/-
  What the document's own cursor reads, over lists of bytes; what stands while the document's own InsRead reads.
-/
import Derived.Test.YtkceplamaocmmaaDoorGCur
import Derived.WalkSmall
import Derived.OneCell
namespace Go.Proofs.YtkceplamaocmmaaDoor
open Go.RowKit

/-- A byte is taken. -/
def qNext (l : List Int) (a : Int) : Int × List Int × Int := if a = 0 then mNext l 0 else (0, l, a)
/-- A number is taken. -/
def qNum (l : List Int) (a : Int) : Int × List Int × Int := if a = 0 then mNum l 0 else (0, l, a)
/-- A number with its sign is taken. -/
def qSig (B : Int) (l : List Int) (a : Int) : Int × List Int × Int := if a = 0 then mSig B l 0 else (0, l, a)
theorem Chg.grown {P : Nat} {w w' : World} (c : Chg P w w') : w.grownBy w' (some P) := ⟨c.os, c.tape, c.output, c.size, fun k hk hp => c.block k hk (fun e => hp (by rw [e]))⟩
theorem Chg.iterAt (I : Nat) (w : World) (F : ByteArray) (p : Nat) : Chg I w (w.iterAt I F p) :=
  ⟨rfl, rfl, rfl, Nat.le_of_eq (Lib.iterAt_size w I F p).symm, fun k _ hp => Lib.iterAt_other w I k F p hp⟩
theorem Chg.drew {P : Nat} {w w' : World} (c : Chg P w w') : Chg P w w'.drew := ⟨c.os, c.tape, c.output, c.size, c.block⟩
theorem XS.under {w w' : World} {X : Nat} {c0 c1 c2 c3 : Value} (h : XS w X c0 c1 c2 c3) (b : Below w.heap.size w w') : XS w' X c0 c1 c2 c3 := by
  have hl := h.lt
  unfold XS at h ⊢
  rw [b.block X hl, h]
/-- Four blocks of a call's own. -/
structure Four (base R P X I : Nat) : Prop where
  r : base ≤ R
  p : base ≤ P
  x : base ≤ X
  i : base ≤ I
  rp : R ≠ P
  rx : R ≠ X
  ri : R ≠ I
  px : P ≠ X
  pi : P ≠ I
  xi : X ≠ I
section
variable {w wr w' : World} {R P X I : Nat} {F : ByteArray} {pos : Nat} {op n A B : Int} {o : Option Addr} {cap : Nat} {To l : List Int} {a : Int}
theorem own_far (hf : ∀ g, o = some g → g.block ≠ R ∧ g.block ≠ P ∧ g.block ≠ X ∧ g.block ≠ I) (k : Nat) : (Value.slice o k cap).ownBlock ≠ some R ∧ (Value.slice o k cap).ownBlock ≠ some P ∧ (Value.slice o k cap).ownBlock ≠ some X ∧ (Value.slice o k cap).ownBlock ≠ some I := by
  cases o with
  | none => simp [Value.ownBlock]
  | some g =>
    have := hf g rfl
    simpa [Value.ownBlock] using this
theorem own_set {w2 : World} {Y i : Nat} {v : Value} {base k : Nat} {xs : List Value} (h : w2.ownsRow base 2 1 (.slice o k cap) k xs) (hf : (Value.slice o k cap).ownBlock ≠ some Y) : (w2.setCell ⟨Y, i, none⟩ v).ownsRow base 2 1 (.slice o k cap) k xs := h.kept (Chg.set ..).grown (Or.inr hf)
end
/-- So many numbers are taken, as long as nothing is wrong. -/
def qNumsF : Nat → List Int → Int → List Int × List Int × Int
  | 0, l, a => ([], l, a)
  | n + 1, l, a => if a = 0 then ((qNum l a).1 :: (qNumsF n (qNum l a).2.1 (qNum l a).2.2).1, (qNumsF n (qNum l a).2.1 (qNum l a).2.2).2) else ([], l, a)
theorem qNumsF_bad (n : Nat) (l : List Int) (a : Int) (h : a ≠ 0) : qNumsF n l a = ([], l, a) := by
  cases n with
  | zero => rfl
  | succ n => rw [qNumsF, if_neg h]
/-- How long the list of the instruction at X is. -/
def lenAt (w : World) (X : Nat) : Nat := match w.cell? ⟨X, 3, none⟩ with
  | some (.slice _ n _) => n
  | _ => 0
theorem lenAt_of {w : World} {X : Nat} {o : Option Addr} {n c : Nat} {c0 c1 c2 : Value} (h : XS w X c0 c1 c2 (.slice o n c)) : lenAt w X = n := by
  unfold lenAt
  rw [h.cell.2.2.2]
/-- What has been read so far. -/
structure QSt where
  A : Int
  B : Int
  To : List Int
  l : List Int
  a : Int
/-- A list of numbers, and one more. -/
def qTab (q : QSt) : QSt :=
  let m := qNum q.l q.a
  let f := qNumsF m.1.toNat m.2.1 (if m.1 > 16 then fstE m.2.2 2 else m.2.2)
  let z := qNum f.2.1 f.2.2
  ⟨z.1, q.B, f.1, z.2.1, z.2.2⟩
/-- What a letter reads. -/
def qStep (c : Int) (q : QSt) : QSt :=
  if c = 107 then ⟨(qNext q.l q.a).1, q.B, q.To, (qNext q.l q.a).2.1, if isKB (qNext q.l q.a).1 then (qNext q.l q.a).2.2 else fstE (qNext q.l q.a).2.2 6⟩
  else if c = 97 then ⟨(qNum q.l q.a).1, q.B, q.To, (qNum q.l q.a).2.1, (qNum q.l q.a).2.2⟩
  else if c = 98 then ⟨q.A, (qNum q.l q.a).1, q.To, (qNum q.l q.a).2.1, (qNum q.l q.a).2.2⟩
  else if c = 122 then ⟨q.A, q.B, q.To, (qNext q.l q.a).2.1, if (qNext q.l q.a).1 = 0 then (qNext q.l q.a).2.2 else fstE (qNext q.l q.a).2.2 4⟩
  else if c = 99 then ⟨(qSig 32 q.l q.a).1, q.B, q.To, (qSig 32 q.l q.a).2.1, (qSig 32 q.l q.a).2.2⟩
  else if c = 100 then ⟨(qSig 64 q.l q.a).1, q.B, q.To, (qSig 64 q.l q.a).2.1, (qSig 64 q.l q.a).2.2⟩
  else if c = 116 then qTab q
  else q
/-- What letters read. -/
def qFold (f : List Int) (q : QSt) : QSt := f.foldl (fun q c => qStep c q) q
theorem qFold_cons (c : Int) (f : List Int) (q : QSt) : qFold (c :: f) q = qFold f (qStep c q) := rfl

end Go.Proofs.YtkceplamaocmmaaDoor
