/-
  What the document's own cursor reads, over lists of bytes; what stands while the document's own InsRead reads.
-/
import Derived.Test.YtfmmefmpjejioaaGCur
import Derived.WalkSmall
import Derived.OneCell
namespace Go.Proofs.Ytfmmefmpjejioaa
open Go.RowKit

/-- The cursor at P: the bytes that are left, how long the whole is, and the first error. -/
def CL (w : World) (P : Nat) (l : List Int) (n a : Int) : Prop := ∃ s, nums s = l ∧ s.size ≤ maxLen ∧ CS w P s n a
theorem CL.lt {w : World} {P : Nat} {l : List Int} {n a : Int} (h : CL w P l n a) : P < w.heap.size := by
  obtain ⟨s, _, _, h⟩ := h
  exact h.lt
theorem CL.byte {w : World} {P : Nat} {l : List Int} {n a : Int} (h : CL w P l n a) : ∀ b ∈ l, 0 ≤ b ∧ b < 256 := by
  obtain ⟨s, rfl, _, _⟩ := h
  exact nums_byte s
theorem CL.heap {w w' : World} {P : Nat} {l : List Int} {n a : Int} (h : CL w P l n a) (e : w'.heap[P]? = w.heap[P]?) : CL w' P l n a := by
  obtain ⟨s, h1, h2, h3⟩ := h
  refine ⟨s, h1, h2, ?_⟩
  unfold CS at h3 ⊢
  rw [e, h3]
theorem CL.say {w : World} {P : Nat} {l : List Int} {n a : Int} (h : CL w P l n a) (is : Bool) (e : Int) :
    Calls Try.prog 16 #[.pointer (some ⟨P, 0, none⟩), .bool is, .int .i64 e] w fun r w' => r = .returned (.tuple #[]) ∧ CL w' P l n (if is then fstE a e else a) ∧ Chg P w w' := by
  obtain ⟨s, h1, h2, h3⟩ := h
  refine (say_any P s n a e is w h3).mono ?_
  rintro r w1 ⟨rfl, h4, c⟩
  exact ⟨rfl, ⟨s, h1, h2, h4⟩, c⟩
/-- A byte is taken. -/
def qNext (l : List Int) (a : Int) : Int × List Int × Int := if a = 0 then mNext l 0 else (0, l, a)
/-- A number is taken. -/
def qNum (l : List Int) (a : Int) : Int × List Int × Int := if a = 0 then mNum l 0 else (0, l, a)
theorem qnum (P : Nat) (l : List Int) (n a : Int) (w : World) (h : CL w P l n a) :
    Calls Try.prog 21 #[.pointer (some ⟨P, 0, none⟩)] w fun r w' => r = .returned (.int .i64 (qNum l a).1) ∧ CL w' P (qNum l a).2.1 n (qNum l a).2.2 ∧ Chg P w w' := by
  have hby := h.byte
  obtain ⟨s, rfl, hm, h⟩ := h
  have hlt := rU32_lt (nums s) hby
  unfold qNum
  by_cases ha : a = 0
  · subst ha
    rw [if_pos rfl]
    unfold mNum
    rcases resU 32 (Or.inl rfl) (nums s) hby with ⟨e, he, hr⟩ | ⟨m, k, _, _, hk, hr⟩
    · have he0 : ¬ e = 0 := by simpa using he
      rw [hr]
      simp only [if_neg he0]
      refine (num_err P s n 0 w 0 0 e (fun w => refReadU_at s 32 0 0 e hm hr w) h he0).mono ?_
      rintro r w1 ⟨rfl, h1, c1⟩
      exact ⟨rfl, ⟨s, rfl, hm, h1⟩, c1⟩
    · rw [hr] at hlt
      rw [hr]
      simp only [if_true, Int.toNat_natCast]
      rw [nums_length] at hk
      refine (num_ok P s n m (by omega) hlt w k hk hm (fun w => refReadU_at s 32 m k 0 hm hr w) h).mono ?_
      rintro r w1 ⟨rfl, h1, c1⟩
      exact ⟨rfl, ⟨_, nums_tail s k, size_tail s k hm, h1⟩, c1⟩
  · rw [if_neg ha]
    refine (num_was P s n _ w a _ _ (fun w => refReadU_at s 32 (rU 32 (nums s)).1 (rU 32 (nums s)).2.1 (rU 32 (nums s)).2.2 hm rfl w) h ha).mono ?_
    rintro r w1 ⟨rfl, h1, c1⟩
    exact ⟨rfl, ⟨s, rfl, hm, h1⟩, c1⟩
/-- A number with its sign is taken. -/
def qSig (B : Int) (l : List Int) (a : Int) : Int × List Int × Int := if a = 0 then mSig B l 0 else (0, l, a)
theorem qsig (P : Nat) (B : Int) (hB : B = 32 ∨ B = 64) (l : List Int) (n a : Int) (w : World) (h : CL w P l n a) :
    Calls Try.prog 19 #[.pointer (some ⟨P, 0, none⟩), .int .i64 B] w fun r w' => r = .returned (.int .i64 (qSig B l a).1) ∧ CL w' P (qSig B l a).2.1 n (qSig B l a).2.2 ∧ Chg P w w' := by
  have hby := h.byte
  obtain ⟨s, rfl, hm, h⟩ := h
  unfold qSig
  by_cases ha : a = 0
  · subst ha
    rw [if_pos rfl]
    unfold mSig
    rcases resS B hB (nums s) hby with ⟨e, he, hr⟩ | ⟨m, k, hm0, hm1, _, hk, hr⟩
    · have he0 : ¬ e = 0 := by simpa using he
      rw [hr]
      simp only [if_neg he0]
      refine (signed_err P s n 0 B w 0 0 e (fun w => refReadS_at s B 0 0 e hm hr w) h he0).mono ?_
      rintro r w1 ⟨rfl, h1, c1⟩
      exact ⟨rfl, ⟨s, rfl, hm, h1⟩, c1⟩
    · rw [hr]
      simp only [if_true, Int.toNat_natCast]
      rw [nums_length] at hk
      refine (signed_ok P s n m B w k hk hm (fun w => refReadS_at s B m k 0 hm hr w) h).mono ?_
      rintro r w1 ⟨rfl, h1, c1⟩
      exact ⟨rfl, ⟨_, nums_tail s k, size_tail s k hm, h1⟩, c1⟩
  · rw [if_neg ha]
    refine (signed_was P s n _ B w a _ _ (fun w => refReadS_at s B (rS B (nums s)).1 (rS B (nums s)).2.1 (rS B (nums s)).2.2 hm rfl w) h ha).mono ?_
    rintro r w1 ⟨rfl, h1, c1⟩
    exact ⟨rfl, ⟨s, rfl, hm, h1⟩, c1⟩
theorem Chg.grown {P : Nat} {w w' : World} (c : Chg P w w') : w.grownBy w' (some P) := ⟨c.os, c.tape, c.output, c.size, fun k hk hp => c.block k hk (fun e => hp (by rw [e]))⟩
theorem Chg.iterAt (I : Nat) (w : World) (F : ByteArray) (p : Nat) : Chg I w (w.iterAt I F p) :=
  ⟨rfl, rfl, rfl, Nat.le_of_eq (Lib.iterAt_size w I F p).symm, fun k _ hp => Lib.iterAt_other w I k F p hp⟩
theorem Chg.drew {P : Nat} {w w' : World} (c : Chg P w w') : Chg P w w'.drew := ⟨c.os, c.tape, c.output, c.size, c.block⟩
/-- Four blocks of a call's own. -/
structure Four (base R P X I : Nat) : Prop where
  r : base ≤ R
  p : base ≤ P
  x : base ≤ X
  i : base ≤ I
  rp : R ≠ P
  rx : R ≠ X
  ri : R ≠ I
  px : P ≠ X
  pi : P ≠ I
  xi : X ≠ I
section
variable {w wr w' : World} {R P X I : Nat} {F : ByteArray} {pos : Nat} {op n A B : Int} {o : Option Addr} {cap : Nat} {To l : List Int} {a : Int}
theorem own_far (hf : ∀ g, o = some g → g.block ≠ R ∧ g.block ≠ P ∧ g.block ≠ X ∧ g.block ≠ I) (k : Nat) : (Value.slice o k cap).ownBlock ≠ some R ∧ (Value.slice o k cap).ownBlock ≠ some P ∧ (Value.slice o k cap).ownBlock ≠ some X ∧ (Value.slice o k cap).ownBlock ≠ some I := by
  cases o with
  | none => simp [Value.ownBlock]
  | some g =>
    have := hf g rfl
    simpa [Value.ownBlock] using this
theorem own_set {w2 : World} {Y i : Nat} {v : Value} {base k : Nat} {xs : List Value} (h : w2.ownsRow base 2 1 (.slice o k cap) k xs) (hf : (Value.slice o k cap).ownBlock ≠ some Y) : (w2.setCell ⟨Y, i, none⟩ v).ownsRow base 2 1 (.slice o k cap) k xs := h.kept (Chg.set ..).grown (Or.inr hf)
theorem CS.far {w : World} {P : Nat} {s : ByteArray} {n e : Int} (h : CS w P s n e) (Y i : Nat) (v : Value) (hY : P ≠ Y) : CS (w.setCell ⟨Y, i, none⟩ v) P s n e := by
  unfold CS at h ⊢
  rw [Below.heap_setCell _ _ _ _ hY, h]
end
/-- So many numbers are taken, as long as nothing is wrong. -/
def qNumsF : Nat → List Int → Int → List Int × List Int × Int
  | 0, l, a => ([], l, a)
  | n + 1, l, a => if a = 0 then ((qNum l a).1 :: (qNumsF n (qNum l a).2.1 (qNum l a).2.2).1, (qNumsF n (qNum l a).2.1 (qNum l a).2.2).2) else ([], l, a)
theorem qNumsF_bad (n : Nat) (l : List Int) (a : Int) (h : a ≠ 0) : qNumsF n l a = ([], l, a) := by
  cases n with
  | zero => rfl
  | succ n => rw [qNumsF, if_neg h]
/-- How long the list of the instruction at X is. -/
def lenAt (w : World) (X : Nat) : Nat := match w.cell? ⟨X, 3, none⟩ with
  | some (.slice _ n _) => n
  | _ => 0
/-- What has been read so far. -/
structure QSt where
  A : Int
  B : Int
  To : List Int
  l : List Int
  a : Int
/-- A list of numbers, and one more. -/
def qTab (q : QSt) : QSt :=
  let m := qNum q.l q.a
  let f := qNumsF m.1.toNat m.2.1 (if m.1 > 16 then fstE m.2.2 2 else m.2.2)
  let z := qNum f.2.1 f.2.2
  ⟨z.1, q.B, f.1, z.2.1, z.2.2⟩
/-- What a letter reads. -/
def qStep (c : Int) (q : QSt) : QSt :=
  if c = 107 then ⟨(qNext q.l q.a).1, q.B, q.To, (qNext q.l q.a).2.1, if isKB (qNext q.l q.a).1 then (qNext q.l q.a).2.2 else fstE (qNext q.l q.a).2.2 6⟩
  else if c = 97 then ⟨(qNum q.l q.a).1, q.B, q.To, (qNum q.l q.a).2.1, (qNum q.l q.a).2.2⟩
  else if c = 98 then ⟨q.A, (qNum q.l q.a).1, q.To, (qNum q.l q.a).2.1, (qNum q.l q.a).2.2⟩
  else if c = 122 then ⟨q.A, q.B, q.To, (qNext q.l q.a).2.1, if (qNext q.l q.a).1 = 0 then (qNext q.l q.a).2.2 else fstE (qNext q.l q.a).2.2 4⟩
  else if c = 99 then ⟨(qSig 32 q.l q.a).1, q.B, q.To, (qSig 32 q.l q.a).2.1, (qSig 32 q.l q.a).2.2⟩
  else if c = 100 then ⟨(qSig 64 q.l q.a).1, q.B, q.To, (qSig 64 q.l q.a).2.1, (qSig 64 q.l q.a).2.2⟩
  else if c = 116 then qTab q
  else q
/-- What letters read. -/
def qFold (f : List Int) (q : QSt) : QSt := f.foldl (fun q c => qStep c q) q
theorem qFold_cons (c : Int) (f : List Int) (q : QSt) : qFold (c :: f) q = qFold f (qStep c q) := rfl

end Go.Proofs.Ytfmmefmpjejioaa
