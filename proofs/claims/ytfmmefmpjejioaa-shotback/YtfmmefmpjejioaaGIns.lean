/-
  What the program's own Width and kindsOfNum do.
  What the program's own takenByNum does.
  What the program's own plainPlace and Plain do.
-/
import Derived.Test.YtfmmefmpjejioaaGNum
import Derived.Test.YtfmmefmpjejioaaGOne
import Derived.Below
import Derived.Laws.EntriesVeiled
import Derived.OwnWalk
namespace Go.Proofs.Ytfmmefmpjejioaa
open Go.RowKit

/-- How many bytes a load or a store moves. -/
def insW (op : Int) : Int :=
  if op = 44 ∨ op = 45 ∨ op = 48 ∨ op = 49 ∨ op = 58 ∨ op = 60 then 1
  else if op = 46 ∨ op = 47 ∨ op = 50 ∨ op = 51 ∨ op = 59 ∨ op = 61 then 2
  else if op = 40 ∨ op = 52 ∨ op = 53 ∨ op = 54 ∨ op = 62 then 4
  else if op = 41 ∨ op = 55 then 8 else 0
/-- Of which kind is what an instruction of numbers takes. -/
def kTake (op : Int) : Int := if op ≤ 79 then 127 else if op ≤ 90 then 126 else if op ≤ 120 then 127 else if op ≤ 138 then 126 else if op ≤ 167 then 126 else if op ≤ 173 then 127 else if op ≤ 193 then 127 else 126
/-- Of which kind is what it gives. -/
def kGive (op : Int) : Int := if op ≤ 79 then 127 else if op ≤ 90 then 127 else if op ≤ 120 then 127 else if op ≤ 138 then 126 else if op ≤ 167 then 127 else if op ≤ 173 then 126 else if op ≤ 193 then 127 else 126
end Go.Proofs.Ytfmmefmpjejioaa
namespace Go.Proofs.Ytfmmefmpjejioaa
open Go.RowKit

/-- The numbers of the instructions of two numbers. -/
def isTwo (op : Int) : Bool := (70 ≤ op && op ≤ 79) || (81 ≤ op && op ≤ 90) || (106 ≤ op && op ≤ 120) || (124 ≤ op && op ≤ 138)
/-- How many numbers an instruction takes. -/
def insN (op : Int) : Int := if isOne op then 1 else if isTwo op then 2 else 0
theorem same_below {Z : Value} {P : Program} {f : Nat} {args : Array Value} (h : ∀ w, Calls P f args w fun e w' => e = .returned Z ∧ w' = w) (w : World) : Calls P f args w fun e w' => e = .returned Z ∧ Below w.heap.size w w' := by
  refine (h w).mono ?_
  rintro e w1 ⟨rfl, rfl⟩
  exact ⟨rfl, Below.refl _ _⟩
end Go.Proofs.Ytfmmefmpjejioaa
namespace Go.Proofs.Ytfmmefmpjejioaa
open Go.RowKit

/-- A value that is a list of kinds, in new memory. -/
def IsK (w : World) (B : Nat) (v : Value) (ks : List Int) : Prop :=
  (ks = [] ∧ v = .slice none 0 0) ∨ (0 < ks.length ∧ ∃ g, v = .slice (some ⟨g, 0, none⟩) ks.length ks.length ∧ B ≤ g ∧ g < w.heap.size ∧ ∀ i, i < ks.length → w.cell? ⟨g, i, none⟩ = some (.int .u8 (ks.getD i 0)))
theorem isK_nil (w : World) (B : Nat) : IsK w B (.slice none 0 0) [] := Or.inl ⟨rfl, rfl⟩
theorem isK_one (w : World) (B g : Nat) (a : Int) (hB : B ≤ g) (hg : g < w.heap.size) (h : w.cell? ⟨g, 0, none⟩ = some (.int .u8 a)) : IsK w B (.slice (some ⟨g, 0, none⟩) 1 1) [a] :=
  Or.inr ⟨by simp, g, rfl, hB, hg, fun i hi => by
    have : i = 0 := by simp at hi; omega
    subst this; exact h⟩
theorem isK_two (w : World) (B g : Nat) (a b : Int) (hB : B ≤ g) (hg : g < w.heap.size) (h : w.cell? ⟨g, 0, none⟩ = some (.int .u8 a)) (h' : w.cell? ⟨g, 1, none⟩ = some (.int .u8 b)) : IsK w B (.slice (some ⟨g, 0, none⟩) 2 2) [a, b] :=
  Or.inr ⟨by simp, g, rfl, hB, hg, fun i hi => by
    have : i = 0 ∨ i = 1 := by simp at hi; omega
    rcases this with rfl | rfl
    · exact h
    · exact h'⟩
theorem IsK.below {w w' : World} {B C : Nat} {v : Value} {ks : List Int} (h : IsK w B v ks) (hC : w.heap.size ≤ C) (hb : Below C w w') : IsK w' B v ks := by
  rcases h with h | ⟨h0, g, h1, h2, h3, h4⟩
  · exact Or.inl h
  · refine Or.inr ⟨h0, g, h1, h2, Nat.lt_of_lt_of_le h3 hb.size, fun i hi => ?_⟩
    rw [hb.cell (p := ⟨g, i, none⟩) (by simp only; omega)]
    exact h4 i hi
/-- The kind of what a load or a store moves. -/
def kMem (op : Int) : Int := if op = 40 ∨ op = 44 ∨ op = 45 ∨ op = 46 ∨ op = 47 ∨ op = 54 ∨ op = 58 ∨ op = 59 then 127 else 126
/-- What an instruction takes. -/
def pIn (op : Int) : List Int := if op = 63 ∨ op = 65 ∨ op = 66 then [] else if op = 64 then [127] else if 0 < insW op then (if op < 54 then [127] else [127, kMem op]) else if insN op = 1 then [kTake op] else if insN op = 2 then [kTake op, kTake op] else []
/-- What it gives. -/
def pOut (op : Int) : List Int := if op = 63 ∨ op = 65 then [127] else if op = 66 then [126] else if op = 64 then [127] else if 0 < insW op then (if op < 54 then [kMem op] else []) else if insN op = 1 then [kGive op] else if insN op = 2 then [kGive op] else []
/-- Whether that hangs on nothing but its number. -/
def pIs (op : Int) : Bool := decide (63 ≤ op ∧ op ≤ 66) || decide (0 < insW op) || decide (insN op = 1) || decide (insN op = 2)
theorem insW_range (op : Int) : 0 ≤ insW op := by
  unfold insW
  split
  · omega
  · split
    · omega
    · split
      · omega
      · split <;> omega
end Go.Proofs.Ytfmmefmpjejioaa
