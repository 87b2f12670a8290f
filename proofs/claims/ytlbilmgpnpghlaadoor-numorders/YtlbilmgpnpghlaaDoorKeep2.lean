/-
  What the laws' own functions do: fits over a new list.
-/
import Derived.Test.YtlbilmgpnpghlaaDoorKeep1
namespace Go.Proofs.YtlbilmgpnpghlaaDoor
open Go.RowKit

/-- A number as it fits the kind that is meant. -/
def fitW (wd : Bool) (x : Int) : Int := if wd then x else wrap32 x
theorem fits_new (wd : Bool) (xs : List Int) (cs : Array Value) (n g : Nat) (hl : xs.length = n) (hn : n ≤ 10) (hc : cs.toList = xs.map (Value.int .i64)) (w : World) (hg : w.heap.size = g) :
    Calls Tryd.prog 9 #[.bool wd, .slice (some ⟨g, 0, none⟩) n n] (w.alloc (.cells cs 2)) fun e w' => e = .returned (.slice (some ⟨g, 0, none⟩) n n) ∧ (∀ j, j < n → w'.cell? ⟨g, j, none⟩ = some (.int .i64 (fitW wd (xs.getD j 0)))) ∧ Below w.heap.size w w' := by
  subst hg
  have hs : cs.size = n * 1 := by
    have := congrArg List.length hc
    rw [Array.length_toList, List.length_map] at this
    omega
  have ho := World.ownsRow_lit (base := w.heap.size) (e := 2) (size := 1) w cs n (Nat.le_refl _) (by unfold maxLen; omega) hs
  rw [hc] at ho
  have hb : Below w.heap.size w (w.alloc (.cells cs 2)) := (Below.refl _ _).alloc (Nat.le_refl _) _
  have key : ∀ (ys : List Int) (w' : World), ys.length = n → w'.ownsRow w.heap.size 2 1 (.slice (some ⟨w.heap.size, 0, none⟩) n n) n (ys.map (Value.int .i64)) → ∀ j, j < n → w'.cell? ⟨w.heap.size, j, none⟩ = some (.int .i64 (ys.getD j 0)) := by
    intro ys w' hy h j hj
    rw [h.cellAt j (by omega), List.getElem?_map, List.getElem?_eq_getElem (by omega), List.getD_eq_getElem?_getD, List.getElem?_eq_getElem (by omega)]
    rfl
  cases wd with
  | true =>
    refine (fits_wide w.heap.size n hn _).mono ?_
    rintro e w1 ⟨rfl, rfl⟩
    exact ⟨rfl, key xs _ hl ho, hb⟩
  | false =>
    refine (fits_narrow w.heap.size w.heap.size n xs hl hn _ ho (Nat.le_refl _)).mono ?_
    rintro e w1 ⟨rfl, ho1, hb1⟩
    refine ⟨rfl, fun j hj => ?_, hb.trans hb1⟩
    rw [key _ _ (by rw [List.length_map]; exact hl) ho1 j hj, List.getD_eq_getElem?_getD, List.getD_eq_getElem?_getD, List.getElem?_map, List.getElem?_eq_getElem (by omega)]
    rfl

/-- Within 64 bits. -/
def R64 (x : Int) : Prop := -9223372036854775808 ≤ x ∧ x ≤ 9223372036854775807

end Go.Proofs.YtlbilmgpnpghlaaDoor
