/-
  What the document's own Copy does with a list of numbers.
-/
import Derived.Test.YtgdleahhkaolbaaDoorInsV1
import Derived.Laws.AppendOwn
import Derived.Laws.AppendOwnNone
import Derived.Laws.OwnMore
namespace Go.Proofs.YtgdleahhkaolbaaDoor
open Go.RowKit

set_option maxHeartbeats 4000000 in
set_option maxRecDepth 1000000 in
theorem copyI_any (o : Option Addr) (n cap : Nat) (xs : List Int) (hnil : o = none → cap = 0) (hn : n ≤ 16) (w : World) (h : LJ w o n xs) :
    Calls Tryd.prog 44 #[.slice o n cap] w fun e w' => ∃ v, e = .returned v ∧ w'.ownsRow w.heap.size 2 1 v n (xs.map (Value.int .i64)) ∧ Below w.heap.size w w' := by
  obtain ⟨i0, hi, hz0, hz1, hz2⟩ := info_parts Tryd.infoI64
  obtain ⟨hl, hc⟩ := h
  cases o with
  | none =>
    have h0 : n = 0 := by
      rcases hc with h | ⟨a, h, _⟩
      · exact h
      · cases h
    have hc0 := hnil rfl
    subst h0 hc0
    have hx : xs = [] := List.length_eq_zero_iff.1 hl
    subst hx
    clear hc hl hnil
    go_enter Tryd.func44, Tryd.ntmps44
    go_wp2_with (at_builtin; refine wpList_append_own_none rfl _ _ 22 rfl w.heap.size 2 i0 1 Tryd.underlying22 hi _ 0 [] rfl (World.ownsRow_nil _ _ _ _) rfl ?_)
    go_ret
    exact ⟨_, rfl, World.ownsRow_nil _ _ _ _, Below.refl _ _⟩
  | some a =>
    have HL : Hid (xs.length = n) := hl
    have HC : Hid (∀ i, i < n → w.cell? (a.add i) = some (.int .i64 (xs.getD i 0))) := by
      intro i hi
      rcases hc with h | ⟨a', h, _, hc⟩
      · omega
      · cases h
        exact hc i hi
    clear hc hl hnil
    go_enter Tryd.func44, Tryd.ntmps44
    go_wp2_with (at_builtin; refine wpList_append_own _ rfl _ _ 22 rfl w.heap.size 2 i0 (.int .i64 0) 1 8 Tryd.underlying22 hi hz0 hz1 hz2 rfl (by decide) _ 0 [] rfl (World.ownsRow_nil _ _ _ _) a n cap (xs.map (Value.int .i64)) rfl ?c0 ?c1 ?c2 ?c3 ?c4 ?c5 ?_)
    case c0 => rw [List.length_map, HL.out]; omega
    case c1 =>
      intro j u hu
      have hj : j < xs.length := by
        have := (List.getElem?_eq_some_iff.1 hu).1
        rwa [List.length_map] at this
      rw [HC.out j (by rw [← HL.out]; exact hj), ← hu, List.getElem?_map, List.getElem?_eq_getElem hj, List.getD_eq_getElem?_getD, List.getElem?_eq_getElem hj]
      rfl
    case c2 => intro u hu; obtain ⟨x, _, rfl⟩ := List.mem_map.1 hu; rfl
    case c3 => unfold maxLen; omega
    case c4 => omega
    case c5 => exact Nat.le_refl _
    · intro v' w1 hown hgrow _
      have hb : Below w.heap.size w w1 := (Below.refl _ _).grown hgrow (Nat.le_refl _) (fun j hj => by cases hj)
      have HO : Hid (w1.ownsRow w.heap.size 2 1 v' n (xs.map (Value.int .i64))) := hown
      clear hown hgrow
      go_wp2
      go_ret
      exact ⟨_, rfl, HO.out, hb⟩

end Go.Proofs.YtgdleahhkaolbaaDoor
