/-
  MemApart, walked: stores that do not meet may be done in any order.
-/
import Derived.Test.YtomiganjagjabaaMM9
namespace Go.Proofs.Ytomiganjagjabaa
open Go.RowKit

/-- Two memories of one string. -/
structure Two (w w' : World) (n : Nat) (a c : List Int) (p : Nat) : Prop where
  m : MB w' (w.heap.size + 1) w.heap.size n 8 a
  n : MB w' (p + 1) p n 8 c
  lt : w.heap.size + 1 < p
  below : Below w.heap.size w w'
theorem Two.first {w w1 w2 : World} {n p : Nat} {a c d : List Int} (h : Two w w1 n a c p) (hm : MB w2 (w.heap.size + 1) w.heap.size n 8 d) (hc : Chg w.heap.size w1 w2) : Two w w2 n d c p :=
  ⟨hm, h.n.keep hc (by have := h.lt; omega) (by have := h.lt; omega), h.lt, h.below.trans (hc.below (Nat.le_refl _) (by have := h.below.size; omega))⟩
theorem Two.second {w w1 w2 : World} {n p : Nat} {a c d : List Int} (h : Two w w1 n a c p) (hm : MB w2 (p + 1) p n 8 d) (hc : Chg p w1 w2) : Two w w2 n a d p :=
  ⟨h.m.keep hc (by have := h.lt; omega) (by have := h.lt; omega), hm, h.lt, h.below.trans (hc.below (by have := h.lt; omega) (by have := h.below.size; omega))⟩
theorem Two.under {w w1 w2 : World} {n p : Nat} {a c : List Int} (h : Two w w1 n a c p) (hb : Below w1.heap.size w1 w2) : Two w w2 n a c p :=
  ⟨h.m.under hb, h.n.under hb, h.lt, h.below.trans (hb.mono (by have := h.below.size; omega))⟩
theorem Two.made {w w1 w2 : World} {n : Nat} {a : List Int} (h1 : MB w1 (w.heap.size + 1) w.heap.size n 8 a) (hb1 : Below w.heap.size w w1) (h2 : MB w2 (w1.heap.size + 1) w1.heap.size n 8 a) (hb2 : Below w1.heap.size w1 w2) : Two w w2 n a a w1.heap.size :=
  ⟨h1.under hb2, h2, h1.lt.1, hb1.trans (hb2.mono (by have := hb1.size; omega))⟩
theorem Two.len {w w1 : World} {n p : Nat} {a c : List Int} (h : Two w w1 n a c p) : a.length = 256 * n := h.m.len
end Go.Proofs.Ytomiganjagjabaa
