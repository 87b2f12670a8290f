/-
  What the document's own functions on words do: those that read.
-/
import Derived.Test.YtomiganjagjabaaMM10
import Derived.Test.YtomiganjagjabaaWMaths
import Derived.WalkKit
import Derived.WalkSpells
import Derived.WalkSmall
import Derived.Deep.QuietTactic
import Derived.BigQuiet
namespace Go.Proofs.Ytomiganjagjabaa
open Go.RowKit

/-- A value that is a word, in new memory. -/
def IsW (w : World) (v : Value) (bs : List Bool) : Prop :=
  ∃ g cap, v = .slice (some ⟨g, 0, none⟩) bs.length cap ∧ bs.length ≤ cap ∧ cap ≤ maxLen ∧ g < w.heap.size ∧ ∀ i, i < bs.length → w.cell? ⟨g, i, none⟩ = some (.bool (bs.getD i false))
theorem IsW.below {w w' : World} {v : Value} {bs : List Bool} (h : IsW w v bs) (hb : Below w.heap.size w w') : IsW w' v bs := by
  obtain ⟨g, cap, h1, h2, h3, h4, h5⟩ := h
  refine ⟨g, cap, h1, h2, h3, Nat.lt_of_lt_of_le h4 hb.size, fun i hi => ?_⟩
  rw [hb.cell (p := ⟨g, i, none⟩) h4]
  exact h5 i hi
theorem isW_own {w : World} {base : Nat} {e : TypeId} {v : Value} {bs : List Bool} (h : w.ownsRow base e 1 v bs.length (bs.map Value.bool)) (hp : 0 < bs.length) : IsW w v bs := by
  have hc := fun g hg => World.ownsRow.cells h (g := g) hg
  have hlt := h.lt
  obtain ⟨hl, h2⟩ := h
  rcases h2 with ⟨_, h0⟩ | ⟨g, cap, cur, rfl, hb, hg, hle, hcap, hcs, htk⟩
  · omega
  · refine ⟨g, cap, rfl, hle, hcap, (hlt g rfl).2, fun i hi => ?_⟩
    have := hc g rfl i (.bool (bs.getD i false)) (by simp [List.getElem?_eq_getElem hi])
    have hadd : (⟨g, 0, none⟩ : Addr).add i = ⟨g, i, none⟩ := by unfold Addr.add; split <;> simp_all
    rw [hadd] at this
    exact this

theorem Try.infoBool : (Try.prog.info? 4).map (fun i => (i.zero, i.size, i.bytes)) = some (some (.bool false), 1, 1) := by kernel_rfl

theorem and1_i64 (n : Int) : bits .and .i64 n 1 = n % 2 := by
  have h1 : (BitVec.ofInt 64 1).toNat = 2 ^ 1 - 1 := by decide
  have key : (BitVec.ofInt 64 n &&& BitVec.ofInt 64 1).toNat = (n % ((2 ^ 64 : Nat) : Int)).toNat % 2 ^ 1 := by
    rw [BitVec.toNat_and, BitVec.toNat_ofInt, h1, Nat.and_two_pow_sub_one_eq_mod]
  show IntKind.i64.wrap ((BitVec.ofInt 64 n &&& BitVec.ofInt 64 1).toNat : Nat) = n % 2
  rw [key, IntKind.wrap_i64]
  omega

set_option maxHeartbeats 400000 in
set_option maxRecDepth 1000000 in
theorem wordOf_any (a : Int) (W : Nat) (hW1 : 1 ≤ W) (hW : W ≤ 64) (w : World) :
    Calls Try.prog 37 #[.int .i64 a, .int .i64 W] w fun e w' => ∃ v, e = .returned v ∧ IsW w' v (wordB a W) ∧ Below w.heap.size w w' := by
  obtain ⟨i0, hi, hz0, hz1, hz2⟩ := info_parts Try.infoBool
  go_enter Try.func37, Try.ntmps37
  go_wp2
  go_loopw [5, 8] (fun v i wr => ∃ k : Nat, i = .int .i64 k ∧ k ≤ W ∧ wr.ownsRow w.heap.size 4 1 v k ((wordB a k).map Value.bool) ∧ Below w.heap.size w wr) (fun _ i _ => W - (intOf i).toNat)
  case atStart => exact ⟨0, rfl, by omega, World.ownsRow_nil _ _ _ _, Below.refl _ _⟩
  case round =>
    obtain ⟨k, rfl, hk, hown, hnx⟩ := hrel
    have hsz := hnx.size
    by_cases hlt : k < W
    · have hand := and1_i64 (a / 2 ^ k)
      go_wp2_with (at_builtin; refine wpList_append_own _ rfl _ _ 67 rfl w.heap.size 4 i0 (.bool false) 1 1 Try.underlying67 hi hz0 hz1 hz2 rfl (by decide) _ _ _ rfl (hown.alloc _) ⟨_, 0, none⟩ 1 1 [.bool (a / 2 ^ k % 2 == 1)] rfl rfl ?c1 ?c2 ?c3 ?c4 ?c5 ?_)
      case c1 => exact cell_one_new _ _ _
      case c2 => intro u hu; simp at hu; subst hu; rfl
      case c3 => unfold maxLen; omega
      case c4 => omega
      case c5 => simp; omega
      · intro v' w1 hown' hgrow _
        have hown2 : w1.ownsRow w.heap.size 4 1 v' (k + 1) ((wordB a (k + 1)).map Value.bool) := by rw [wordB_succ, List.map_append]; exact hown'
        have hb : Below w.heap.size w w1 := (hnx.alloc (by omega) _).grown hgrow (by simp; omega) (fun j hj => (hown.lt j hj).1)
        clear hown' hgrow hown hnx hand
        go_wp2
        go_roundw
        case rel => exact ⟨k + 1, by go_num, by omega, hown2, hb⟩
        case measure => simp [intOf]; omega
    · have hkW : k = W := by omega
      subst hkW
      go_wp2
      go_ret
      exact ⟨_, rfl, isW_own (by rw [wordB_length]; exact hown) (by rw [wordB_length]; omega), hnx⟩

theorem ret_b {b c : Bool} (h : b = c) : Ending.returned (.bool b) = .returned (.bool c) := by rw [h]
theorem ret_i {k : IntKind} {a b : Int} (h : a = b) : Ending.returned (.int k a) = .returned (.int k b) := by rw [h]

end Go.Proofs.Ytomiganjagjabaa
