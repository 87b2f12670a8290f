/-
  What the reader's own small methods do.
  What the reader's own methods do, over lists of bytes.
  What the reader's own numbers does.
  What the program's own besideOf does.
-/
import Derived.Test.YtfmmefmpjejioaaGIns
import Derived.Test.YtfmmefmpjejioaaGLeb
import Derived.OwnWalk
namespace Go.Proofs.Ytfmmefmpjejioaa
open Go.RowKit

/-- Of what was there only block P may have turned. -/
structure Chg (P : Nat) (w w' : World) : Prop where
  os : w'.os = w.os
  tape : w'.tape = w.tape
  output : w'.output = w.output
  size : w.heap.size ≤ w'.heap.size
  block : ∀ k, k < w.heap.size → k ≠ P → w'.heap[k]? = w.heap[k]?
theorem Chg.refl (P : Nat) (w : World) : Chg P w w := ⟨rfl, rfl, rfl, Nat.le_refl _, fun _ _ _ => rfl⟩
theorem Chg.trans {P : Nat} {a b c : World} (h : Chg P a b) (k : Chg P b c) : Chg P a c :=
  ⟨k.os.trans h.os, k.tape.trans h.tape, k.output.trans h.output, Nat.le_trans h.size k.size, fun i hi hp => (k.block i (Nat.lt_of_lt_of_le hi h.size) hp).trans (h.block i hi hp)⟩
theorem Chg.set (P i : Nat) (w : World) (v : Value) : Chg P w (w.setCell ⟨P, i, none⟩ v) :=
  ⟨rfl, rfl, rfl, by simp, fun k _ hp => Below.heap_setCell w ⟨P, i, none⟩ v k hp⟩
theorem Chg.of_below {P : Nat} {w w' : World} (h : Below w.heap.size w w') : Chg P w w' := ⟨h.os, h.tape, h.output, h.size, fun k hk _ => h.block k hk⟩
theorem Chg.below {P B : Nat} {w w' : World} (h : Chg P w w') (hP : B ≤ P) (hB : B ≤ w.heap.size) : Below B w w' := ⟨h.os, h.tape, h.output, h.size, fun k hk => h.block k (by omega) (by omega)⟩
theorem Chg.cell {P : Nat} {w w' : World} (h : Chg P w w') (a : Addr) (h1 : a.block < w.heap.size) (h2 : a.block ≠ P) : w'.cell? a = w.cell? a := World.cell?_of_block (w := w) (h.block a.block h1 h2)
theorem Chg.frozen {P : Nat} {w w' : World} (h : Chg P w w') (a : Addr) (h1 : a.block < w.heap.size) (h2 : a.block ≠ P) : w'.frozen? a = w.frozen? a := World.frozen?_of_block (w := w) (h.block a.block h1 h2)
/-- The first of two errors. -/
def fstE (a b : Int) : Int := if a = 0 then b else a
end Go.Proofs.Ytfmmefmpjejioaa
namespace Go.Proofs.Ytfmmefmpjejioaa
open Go.RowKit

theorem nums_tail (s : ByteArray) (k : Nat) : nums (s.extract k s.size) = (nums s).drop k := by
  rw [nums_extract, List.take_of_length_le]
  rw [List.length_drop, nums_length]
  exact Nat.le_refl _
theorem size_tail (s : ByteArray) (k : Nat) (h : s.size ≤ maxLen) : (s.extract k s.size).size ≤ maxLen := by
  rw [ByteArray.size_extract]
  omega
/-- A byte is taken. -/
def mNext : List Int → Int → Int × List Int × Int
  | [], a => (0, [], fstE a 3)
  | b :: r, a => (b, r, a)
/-- A number without a sign is taken. -/
def mNum (l : List Int) (a : Int) : Int × List Int × Int := if (rU 32 l).2.2 = 0 then ((rU 32 l).1, l.drop (rU 32 l).2.1.toNat, a) else (0, l, fstE a (rU 32 l).2.2)
/-- A number with its sign is taken. -/
def mSig (B : Int) (l : List Int) (a : Int) : Int × List Int × Int := if (rS B l).2.2 = 0 then ((rS B l).1, l.drop (rS B l).2.1.toNat, a) else (0, l, fstE a (rS B l).2.2)
theorem rU32_lt (l : List Int) (hl : ∀ b ∈ l, 0 ≤ b ∧ b < 256) : (rU 32 l).1 < 4294967296 := by
  have hu : rU 32 l = rdl fitU 32 l 0 0 := by rw [rU, if_pos (Or.inl rfl)]
  rw [hu]
  rcases rdl_all fitU 32 (Or.inl rfl) l hl with h | h | ⟨f, b, t, e, hf, hb0, hb1, h1, h2, h⟩
  · rw [h]; omega
  · rw [h]; omega
  · rw [h]
    have := goodU 32 f b hb0 hb1 (by omega) (fun hh => by have := h2 (by omega); rw [show ((32 - 7 * f.length : Nat) : Int) = 32 - 7 * (f.length : Int) by omega]; exact this)
    exact this
/-- The kinds of a block. -/
def isKB (b : Int) : Bool := b == 64 || b == 127 || b == 126
/-- A block's kind is taken. -/
def mKind (l : List Int) (a : Int) : Int × List Int × Int := ((mNext l a).1, (mNext l a).2.1, if isKB (mNext l a).1 then (mNext l a).2.2 else fstE (mNext l a).2.2 6)
theorem mNext_byte (l : List Int) (a : Int) (hl : ∀ b ∈ l, 0 ≤ b ∧ b < 256) : 0 ≤ (mNext l a).1 ∧ (mNext l a).1 < 256 := by
  cases l with
  | nil => simp [mNext]
  | cons b r => exact hl b (by simp)
/-- The byte 0 is taken. -/
def mZero (l : List Int) (a : Int) : List Int × Int := ((mNext l a).2.1, if (mNext l a).1 = 0 then (mNext l a).2.2 else fstE (mNext l a).2.2 4)
end Go.Proofs.Ytfmmefmpjejioaa
namespace Go.Proofs.Ytfmmefmpjejioaa
open Go.RowKit

/-- So many numbers are taken. -/
def mNumsF : Nat → List Int → Int → List Int × List Int × Int
  | 0, l, a => ([], l, a)
  | n + 1, l, a => ((mNum l a).1 :: (mNumsF n (mNum l a).2.1 (mNum l a).2.2).1, (mNumsF n (mNum l a).2.1 (mNum l a).2.2).2)
theorem mNumsF_len : ∀ (n : Nat) (l : List Int) (a : Int), (mNumsF n l a).1.length = n
  | 0, _, _ => rfl
  | n + 1, l, a => by rw [mNumsF, List.length_cons, mNumsF_len n]
theorem ownsRow_chg {w w' : World} {P B g n : Nat} {e : TypeId} {xs : List Value} (h : w.ownsRow B e 1 (.slice (some ⟨g, 0, none⟩) n n) n xs) (hc : Chg P w w') (hg : g ≠ P) : w'.ownsRow B e 1 (.slice (some ⟨g, 0, none⟩) n n) n xs := by
  have hlt := (h.lt g rfl).2
  obtain ⟨h1, h2⟩ := h
  refine ⟨h1, ?_⟩
  rcases h2 with ⟨h, _⟩ | ⟨g', cap, cur, e1, hb, hh, r⟩
  · cases h
  · simp only [Value.slice.injEq, Option.some.injEq, Addr.mk.injEq, and_true] at e1
    obtain ⟨rfl, _, _⟩ := e1
    refine Or.inr ⟨g, cap, cur, ?_, hb, ?_, r⟩
    · simp; omega
    · rw [hc.block g hlt hg, hh]
theorem set_step (A Z : List Value) (k : Nat) (y : Value) (hA : A.length = k) (hk : k < Z.length) : (A ++ Z.drop k).set k y = (A ++ [y]) ++ Z.drop (k + 1) := by
  rw [List.set_append_right _ _ (by omega), hA, Nat.sub_self, List.drop_eq_getElem_cons hk, List.set_cons_zero, List.append_assoc]
  rfl
theorem Try.infoI64 : (Try.prog.info? 2).map (fun i => (i.zero, i.size, i.bytes)) = some (some (.int .i64 0), 1, 8) := by kernel_rfl
/-- A list of numbers is taken. -/
def mNums (l : List Int) (a : Int) : List Int × List Int × Int := if (mNum l a).1 > 16 then ([], (mNum l a).2.1, fstE (mNum l a).2.2 2) else mNumsF (mNum l a).1.toNat (mNum l a).2.1 (mNum l a).2.2
theorem mNum_nonneg (l : List Int) (a : Int) (hl : ∀ b ∈ l, 0 ≤ b ∧ b < 256) : 0 ≤ (mNum l a).1 := by
  have h := (rU_bound 32 l hl).1
  unfold mNum
  split
  · exact h
  · exact Int.le_refl _
/-- A value that is a list of numbers, in new memory. -/
def IsI (w : World) (B : Nat) (v : Value) (xs : List Int) : Prop := (v = .slice none 0 0 ∧ xs = []) ∨ ∃ g, v = .slice (some ⟨g, 0, none⟩) xs.length xs.length ∧ w.ownsRow B 2 1 (.slice (some ⟨g, 0, none⟩) xs.length xs.length) xs.length (xs.map (Value.int .i64))
end Go.Proofs.Ytfmmefmpjejioaa
namespace Go.Proofs.Ytfmmefmpjejioaa
open Go.RowKit

/-- What stands beside an instruction. -/
def besV (op : Int) : Int :=
  if op = 0 ∨ op = 1 ∨ op = 5 ∨ op = 11 ∨ op = 15 ∨ op = 26 ∨ op = 27 then 1
  else if op = 2 ∨ op = 3 ∨ op = 4 then 2
  else if op = 12 ∨ op = 13 ∨ op = 16 ∨ op = 32 ∨ op = 33 ∨ op = 34 ∨ op = 35 ∨ op = 36 then 3
  else if op = 14 then 4 else if op = 17 then 5 else if op = 63 ∨ op = 64 then 7 else if op = 65 then 8 else if op = 66 then 9
  else if 0 < insW op then 6 else if 0 < insN op then 1 else 0
theorem insN_range (op : Int) : insN op = 0 ∨ 0 < insN op := by unfold insN; cases isOne op <;> cases isTwo op <;> simp
end Go.Proofs.Ytfmmefmpjejioaa
