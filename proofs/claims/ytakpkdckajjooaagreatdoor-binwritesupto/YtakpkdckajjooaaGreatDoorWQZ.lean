/-
 What the reader's own instruction does.
 What the program's own fits and Check say of what is well. What the program's own besideText and Write make of what is well.
 What the program's own Read does. What the program's own Read does. What the program's own Read does, over lists of bytes.
 Plain mathematics of reading instructions: what is read is well, and no shorter than what is written. Plain mathematics of reading instructions: a beginning of what is written ends too early.
-/
import Derived.Test.YtakpkdckajjooaaGreatDoorWGRdr
import Derived.Test.YtakpkdckajjooaaGreatDoorWGLeb
import Derived.Laws.Concat
import Derived.Deep.RegionWith
import Derived.RegionTactic
import Derived.BigRegion
set_option maxHeartbeats 4000000
set_option maxRecDepth 1000000
namespace Go.Proofs.YtakpkdckajjooaaGreatDoor
set_option linter.unusedVariables false
open Go.RowKit
def XS (w : World) (X : Nat) (c0 c1 c2 c3 : Value) : Prop := w.heap[X]? = some (.cells #[c0, c1, c2, c3] 161 (0, 0))
section
variable {w w' : World} {X P : Nat} {c0 c1 c2 c3 : Value}
theorem XS.lt (h : XS w X c0 c1 c2 c3) : X < w.heap.size := by
 unfold XS at h
 exact (Array.getElem?_eq_some_iff.1 h).1
theorem XS.cell (h : XS w X c0 c1 c2 c3) : w.cell? ⟨X, 0, none⟩ = some c0 ∧ w.cell? ⟨X, 1, none⟩ = some c1 ∧ w.cell? ⟨X, 2, none⟩ = some c2 ∧ w.cell? ⟨X, 3, none⟩ = some c3 := by
 unfold XS at h
 simp [World.cell?, h]
theorem XS.chg (h : XS w X c0 c1 c2 c3) (c : Chg P w w') (hX : X ≠ P) : XS w' X c0 c1 c2 c3 := by
 have hl := h.lt
 unfold XS at h ⊢
 rw [c.block X hl hX, h]
end
theorem ownsRow_down {w : World} {B B' n size : Nat} {e : TypeId} {v : Value} {xs : List Value} (h : w.ownsRow B e size v n xs) (hb : B' ≤ B) : w.ownsRow B' e size v n xs := by
 obtain ⟨h1, h2⟩ := h
 refine ⟨h1, ?_⟩
 rcases h2 with h | ⟨g, cap, cur, e1, hg, r⟩
 ·exact Or.inl h
 ·exact Or.inr ⟨g, cap, cur, e1, Nat.le_trans hb hg, r⟩
theorem new_block (w : World) (o : Obj) : (w.alloc o).heap[w.heap.size]? = some o := by
 show (w.heap.push o)[w.heap.size]? = some o
 rw [Array.getElem?_push]
 simp
theorem TabIn.chg {w w' : World} {P : Nat} (h : TabIn w) (c : Chg P w w') (h0 : 3 < w.heap.size) (hP : 3 ≠ P) : TabIn w' := h.of_cells fun j => c.cell ⟨3, j, none⟩ h0 hP
end Go.Proofs.YtakpkdckajjooaaGreatDoor
namespace Go.Proofs.YtakpkdckajjooaaGreatDoor
set_option linter.unusedVariables false
open Go.RowKit
def LI (w : World) (o : Option Addr) (xs : List Int) : Prop := xs = [] ∨ ∃ g, o = some ⟨g, 0, none⟩ ∧ g < w.heap.size ∧ ∀ i, i < xs.length → w.cell? ⟨g, i, none⟩ = some (.int .i64 (xs.getD i 0))
def isNum (n : Int) : Prop := 0 ≤ n ∧ n ≤ 4294967295
def fitC (k A B : Int) (xs : List Int) : Prop :=
 (k = 1 ∧ A = 0 ∧ B = 0 ∧ xs = []) ∨ (k = 2 ∧ isKB A = true ∧ B = 0 ∧ xs = []) ∨ (k = 3 ∧ isNum A ∧ B = 0 ∧ xs = []) ∨ (k = 4 ∧ isNum A ∧ B = 0 ∧ xs.length ≤ 16 ∧ ∀ x ∈ xs, isNum x) ∨ (k = 5 ∧ isNum A ∧ B = 0 ∧ xs = []) ∨ (k = 6 ∧ isNum A ∧ isNum B ∧ xs = []) ∨ (k = 7 ∧ A = 0 ∧ B = 0 ∧ xs = []) ∨ (k = 8 ∧ -2147483648 ≤ A ∧ A ≤ 2147483647 ∧ B = 0 ∧ xs = []) ∨ (k = 9 ∧ B = 0 ∧ xs = [])
end Go.Proofs.YtakpkdckajjooaaGreatDoor
namespace Go.Proofs.YtakpkdckajjooaaGreatDoor
open Go.RowKit
theorem chr_conv (w : World) (n : Int) : (convert 142 9 (.slice (some ⟨w.heap.size, 0, none⟩) 1 1)).run Tryz.prog (w.alloc (.cells #[.int .u8 n] 5)) = .ok (.string (strOfNums [n])) (w.alloc (.cells #[.int .u8 n] 5)) := by
 refine run_convert_bytes_arg _ 142 5 Tryz.underlying142 Tryz.underlying5 w.heap.size 0 1 1 [n] rfl ?_ 9 Tryz.underlying9
 intro i hi
 have : i = 0 := by omega
 subst this
 rw [World.cell?_alloc_at _ _ _ _ rfl]
 rfl
theorem oneByte_any (n : Int) (w : World) :
  Calls Tryz.prog 207 #[.int .u8 n] w fun e w' => e = .returned (.string (strOfNums [n])) ∧ Below w.heap.size w w' := by
 have hc := chr_conv w n
 go_enter Tryz.func207, Tryz.ntmps207
 go_wp2
 go_ret
 exact ⟨rfl, (Below.refl _ _).alloc (Nat.le_refl _) _⟩
theorem numText_any (n : Int) (h : isNum n) (w : World) :
  Calls Tryz.prog 225 #[.int .i64 n] w fun e w' => e = .returned (.string (strOfNums (uB n.toNat))) ∧ Below w.heap.size w w' := by
 obtain ⟨h0, h1⟩ := h
 have HU : Hid (∀ w, Calls Tryz.prog 176 #[.int .u64 n] w fun e w' => e = .returned (.string (strOfNums (uB n.toNat))) ∧ Below w.heap.size w w') := fun w => by
  have := u_any n.toNat (by omega) w
  rw [Int.toNat_of_nonneg h0] at this
  exact this
 go_enter Tryz.func225, Tryz.ntmps225
 go_wp2_with fail
 refine (HU.out _).mono ?_
 rintro e w1 ⟨rfl, b⟩
 go_wp2
 go_ret
 exact ⟨rfl, b⟩
theorem XS.keep {w w' : World} {X : Nat} {c0 c1 c2 c3 : Value} (h : XS w X c0 c1 c2 c3) (b : Below w.drew.heap.size w.drew w') : XS w' X c0 c1 c2 c3 := by
 have hl := h.lt
 unfold XS at h ⊢
 rw [b.block X hl]
 exact h
def catK (T : ByteArray) (xs : List Int) : Nat → ByteArray
 | 0 => T
 | k + 1 => catK T xs k ++ strOfNums (uB (xs.getD k 0).toNat)
theorem uB_num (x : Int) (h : isNum x) : (uB x.toNat).length ≤ 10 := by
 have h1 := h.1
 have h2 := h.2
 exact uB_len64 _ (by omega)
theorem catK_size (T : ByteArray) (xs : List Int) (hx : ∀ x ∈ xs, isNum x) : ∀ k, k ≤ xs.length → (catK T xs k).size ≤ T.size + 10 * k
 | 0, _ => by simp [catK]
 | k + 1, h => by
  have ih := catK_size T xs hx k (by omega)
  have hm : xs.getD k 0 ∈ xs := by
   rw [List.getD_eq_getElem?_getD, List.getElem?_eq_getElem (by omega)]
   exact List.getElem_mem _
  have := uB_num _ (hx _ hm)
  rw [catK, ByteArray.size_append, strOfNums_size]
  omega
theorem XS.below {w w' : World} {X : Nat} {c0 c1 c2 c3 : Value} (h : XS w X c0 c1 c2 c3) (b : Below w.heap.size w w') : XS w' X c0 c1 c2 c3 := by
 have hl := h.lt
 unfold XS at h ⊢
 rw [b.block X hl]
 exact h
def besT (k A B : Int) (xs : List Int) : List Int :=
 if k = 2 then [A] else if k = 3 then uB A.toNat else if k = 4 then uB xs.length ++ (xs.flatMap fun x => uB x.toNat) ++ uB A.toNat else if k = 5 then uB A.toNat ++ [0] else if k = 6 then uB A.toNat ++ uB B.toNat else if k = 7 then [0] else if k = 8 ∨ k = 9 then sB A else []
theorem nums_u (n : Nat) : nums (strOfNums (uB n)) = uB n := nums_str (uB_byte n)
theorem nums_catK (T : ByteArray) (xs : List Int) : ∀ k, k ≤ xs.length → nums (catK T xs k) = nums T ++ (xs.take k).flatMap fun x => uB x.toNat
 | 0, _ => by simp [catK]
 | k + 1, h => by
  rw [catK, nums_append, nums_catK T xs k (by omega), nums_u, List.take_succ_eq_append_getElem (by omega), List.flatMap_append, List.append_assoc, List.getD_eq_getElem?_getD, List.getElem?_eq_getElem (by omega)]
  simp
theorem nums_zero : nums ⟨#[0]⟩ = [0] := rfl
theorem isKB_range {A : Int} (h : isKB A = true) : 0 ≤ A ∧ A ≤ 255 := by
 unfold isKB at h
 simp only [Bool.or_eq_true, beq_iff_eq] at h
 omega
end Go.Proofs.YtakpkdckajjooaaGreatDoor
namespace Go.Proofs.YtakpkdckajjooaaGreatDoor
set_option linter.unusedVariables false
open Go.RowKit
structure Got where
 op : Int
 A : Int
 B : Int
 To : List Int
 l : List Int
 e : Int
def mBes (k op : Int) (l1 : List Int) (a1 : Int) : Got :=
 if k = 0 then ⟨op, 0, 0, [], l1, fstE a1 6⟩
 else if k = 1 then ⟨op, 0, 0, [], l1, a1⟩
 else if k = 2 then ⟨op, (mKind l1 a1).1, 0, [], (mKind l1 a1).2.1, (mKind l1 a1).2.2⟩
 else if k = 3 then ⟨op, (mNum l1 a1).1, 0, [], (mNum l1 a1).2.1, (mNum l1 a1).2.2⟩
 else if k = 4 then ⟨op, (mNum (mNums l1 a1).2.1 (mNums l1 a1).2.2).1, 0, (mNums l1 a1).1, (mNum (mNums l1 a1).2.1 (mNums l1 a1).2.2).2.1, (mNum (mNums l1 a1).2.1 (mNums l1 a1).2.2).2.2⟩
 else if k = 5 then ⟨op, (mNum l1 a1).1, 0, [], (mZero (mNum l1 a1).2.1 (mNum l1 a1).2.2).1, (mZero (mNum l1 a1).2.1 (mNum l1 a1).2.2).2⟩
 else if k = 6 then ⟨op, (mNum l1 a1).1, (mNum (mNum l1 a1).2.1 (mNum l1 a1).2.2).1, [], (mNum (mNum l1 a1).2.1 (mNum l1 a1).2.2).2.1, (mNum (mNum l1 a1).2.1 (mNum l1 a1).2.2).2.2⟩
 else if k = 7 then ⟨op, 0, 0, [], (mZero l1 a1).1, (mZero l1 a1).2⟩
 else if k = 8 then ⟨op, (mSig 32 l1 a1).1, 0, [], (mSig 32 l1 a1).2.1, (mSig 32 l1 a1).2.2⟩
 else ⟨op, (mSig 64 l1 a1).1, 0, [], (mSig 64 l1 a1).2.1, (mSig 64 l1 a1).2.2⟩
def mIns (l : List Int) (a : Int) : Got := mBes (besV (mNext l a).1) (mNext l a).1 (mNext l a).2.1 (mNext l a).2.2
theorem besV_range (op : Int) : 0 ≤ besV op ∧ besV op ≤ 9 := by
 unfold besV
 repeat' split
 all_goals omega
end Go.Proofs.YtakpkdckajjooaaGreatDoor
namespace Go.Proofs.YtakpkdckajjooaaGreatDoor
open Go.RowKit
end Go.Proofs.YtakpkdckajjooaaGreatDoor
namespace Go.Proofs.YtakpkdckajjooaaGreatDoor
open Go.RowKit
end Go.Proofs.YtakpkdckajjooaaGreatDoor
namespace Go.Proofs.YtakpkdckajjooaaGreatDoor
set_option linter.unusedVariables false
open Go.RowKit
theorem fstE_zero (e : Int) : fstE 0 e = e := by unfold fstE; rw [if_pos rfl]
theorem fstE_ne {a : Int} (h : a ≠ 0) (e : Int) : fstE a e = a := by unfold fstE; rw [if_neg h]
theorem fstE_eq {a e : Int} (h : fstE a e = 0) : a = 0 ∧ e = 0 := by
 unfold fstE at h
 split at h
 ·exact ⟨by assumption, h⟩
 ·exact absurd h (by assumption)
end Go.Proofs.YtakpkdckajjooaaGreatDoor
namespace Go.Proofs.YtakpkdckajjooaaGreatDoor
open Go.RowKit
theorem uB_len5 (x : Int) (h : isNum x) : (uB x.toNat).length ≤ 5 := by
 have h1 := h.1
 have h2 := h.2
 exact uB_len 4 _ (by omega)
theorem besT_len (k A B : Int) (xs : List Int) (hc : fitC k A B xs) (hA : -9223372036854775808 ≤ A ∧ A ≤ 9223372036854775807) : (besT k A B xs).length ≤ 1000 := by
 have hflat : ∀ ys : List Int, (∀ x ∈ ys, isNum x) → (ys.flatMap fun x => uB x.toNat).length ≤ 5 * ys.length := by
  intro ys
  induction ys with
  | nil => intro _; simp
  | cons y ys ih =>
   intro h
   have h1 := uB_len5 y (h y (by simp))
   have h2 := ih (fun x hx => h x (by simp [hx]))
   rw [List.flatMap_cons, List.length_append, List.length_cons]
   omega
 rcases hc with ⟨rfl, rfl, rfl, rfl⟩ | ⟨rfl, hK, rfl, rfl⟩ | ⟨rfl, hN, rfl, rfl⟩ | ⟨rfl, hN, rfl, h16, hx⟩ | ⟨rfl, hN, rfl, rfl⟩ | ⟨rfl, hN, hM, rfl⟩ | ⟨rfl, rfl, rfl, rfl⟩ | ⟨rfl, h1, h2, rfl, rfl⟩ | ⟨rfl, rfl, rfl⟩
 ·decide
 ·show 1 ≤ 1000; omega
 ·have := uB_len5 A hN
  show (uB A.toNat).length ≤ 1000; omega
 ·have h1 := uB_len5 A hN
  have h2 := hflat xs hx
  have h3 := uB_len64 xs.length (by omega)
  show (uB xs.length ++ (xs.flatMap fun x => uB x.toNat) ++ uB A.toNat).length ≤ 1000
  rw [List.length_append, List.length_append]; omega
 ·have := uB_len5 A hN
  show (uB A.toNat ++ [0]).length ≤ 1000
  rw [List.length_append, List.length_singleton]; omega
 ·have := uB_len5 A hN
  have := uB_len5 B hM
  show (uB A.toNat ++ uB B.toNat).length ≤ 1000
  rw [List.length_append]; omega
 ·decide
 ·have := sB_len64 A hA.1 hA.2
  show (sB A).length ≤ 1000; omega
 ·have := sB_len64 A hA.1 hA.2
  show (sB A).length ≤ 1000; omega
end Go.Proofs.YtakpkdckajjooaaGreatDoor
