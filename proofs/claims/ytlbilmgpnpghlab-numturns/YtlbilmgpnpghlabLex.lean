/-
  The order of the text is among those that a region allows: step by step.
-/
import Derived.Deep.Quiet
import Derived.WalkKit
namespace Go.Proofs.Ytlbilmgpnpghlab

/-- The first k operations are done. -/
def listedAt (n : Nat) : Nat → Array Bool
  | 0 => Array.replicate n false
  | k + 1 => (listedAt n k).setIfInBounds k true
/-- Operation k may be next. -/
def stepB (ops : Array Oper) (n k : Nat) : Bool := (Region.ready .any ops (listedAt n k)).contains k && Region.free .any ops (listedAt n k) k
theorem listedAt_set (n k : Nat) : (listedAt n k).setIfInBounds k true = listedAt n (k + 1) := rfl
theorem listedAt_zero (n : Nat) : Array.replicate n false = listedAt n 0 := rfl
theorem lexFrom_of (ops : Array Oper) (n : Nat) (he : (Region.ready .any ops (listedAt n n)).isEmpty = true) : ∀ f k, k + f = n → (∀ j, k ≤ j → j < n → stepB ops n j = true) → Region.lexFrom .any ops f k (listedAt n k) = true
  | 0, k, hk, _ => by
    have : k = n := by omega
    subst this
    exact he
  | f + 1, k, hk, h => by
    have h0 := h k (Nat.le_refl _) (by omega)
    unfold stepB at h0
    rw [Region.lexFrom, h0, Bool.true_and, listedAt_set]
    exact lexFrom_of ops n he f (k + 1) (by omega) (fun j h1 h2 => h j (by omega) h2)
theorem lexB_of (ops : Array Oper) (n : Nat) (hn : ops.size = n) (hs : Region.noSelect ops = true) (he : (Region.ready .any ops (listedAt n n)).isEmpty = true) (h : ∀ j, j < n → stepB ops n j = true) : Region.lexB .any ops = true := by
  unfold Region.lexB
  rw [hs, Bool.true_and, hn, listedAt_zero]
  exact lexFrom_of ops n he n 0 (by omega) (fun j _ h2 => h j h2)
/-- Some of the steps. -/
def someB (ops : Array Oper) (n a b : Nat) : Bool := (List.range' a (b - a)).all (stepB ops n)
theorem someB_at {ops : Array Oper} {n a b : Nat} (h : someB ops n a b = true) (j : Nat) (h1 : a ≤ j) (h2 : j < b) : stepB ops n j = true := by
  unfold someB at h
  rw [List.all_eq_true] at h
  exact h j (List.mem_range'_1.2 ⟨h1, by omega⟩)

end Go.Proofs.Ytlbilmgpnpghlab
