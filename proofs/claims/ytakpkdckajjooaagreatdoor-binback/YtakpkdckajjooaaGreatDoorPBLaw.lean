/-
  What the laws of modules lean on.
-/
import Derived.Test.YtakpkdckajjooaaGreatDoorPQT
import Derived.Test.YtakpkdckajjooaaGreatDoorPQW
import Derived.Test.YtakpkdckajjooaaGreatDoorPQE
import Derived.Test.YtakpkdckajjooaaGreatDoorPQM
namespace Go.Proofs.YtakpkdckajjooaaGreatDoor
set_option linter.unusedVariables false
open Go.RowKit
theorem one11 (m : ModD) : (mcA m).all (·.oneCell') = true := by simp [mcA, Value.oneCell']
theorem mcA_zero : mcA modZero = #[.slice none 0 0, .slice none 0 0, .slice none 0 0, .int .i64 0, .int .i64 0, .int .i64 0, .slice none 0 0, .slice none 0 0, .int .i64 0, .slice none 0 0, .slice none 0 0] := rfl
theorem new_row (w : World) (Z C : Array Value) (T : TypeId) : ((w.alloc (.cells Z T)).setRow w.heap.size C).heap[w.heap.size]? = some (.cells C T (0, 0)) ∧ Below w.heap.size w ((w.alloc (.cells Z T)).setRow w.heap.size C) := by
  have h := new_block w (.cells Z T)
  have hr := setRow_heap (w.alloc (.cells Z T)) w.heap.size _ C _ _ h
  have hc : Chg w.heap.size (w.alloc (.cells Z T)) ((w.alloc (.cells Z T)).setRow w.heap.size C) := ⟨rfl, rfl, rfl, by simp [World.setRow], fun j _ hj => setRow_other (w.alloc (.cells Z T)) w.heap.size j C hj⟩
  have b1 : Below w.heap.size w (w.alloc (.cells Z T)) := (Below.refl _ _).alloc (Nat.le_refl _) _
  exact ⟨hr, b1.trans (hc.below (Nat.le_refl _) b1.size)⟩
theorem wpList_load_row_g {P : Program} {ops : Array Oper} {rest : List Oper} {o : Oper} {a : Act} {w : World} {Q : Exit → Act → World → Prop} (hw : Region.wanted o (yielded ops a.tmps) = true) (ty : TypeId) (x : Operand) (ho : o.op = .load ty x)
    (g : Nat) (hx : a.eval x = .pointer (some ⟨g, 0, none⟩)) (t : TypeId) (cs : Array Value) (fr : Nat × Nat) (d : TypeDesc) (hg : w.heap[g]? = some (.cells cs t fr))
    (hu : P.underlying ty = some d) (hd : (match d with | .struct _ | .array _ _ => true | _ => false) = true) (hi : (P.info? ty).map (·.size) = some cs.size)
    (h : wpList P ops Q rest (a.put o.dst (.agg cs)) w) : wpList P ops Q (o :: rest) a w := by
  unfold wpList
  rw [if_pos hw]
  exact Or.inl (wp_load_row ty x ho g hx t cs fr d hg hu hd hi h)
theorem read_law (s : ByteArray) (hs : s.size ≤ maxLen) (w : World) (hA : Amb w) :
    Calls Tryz.prog 13 #[.string s] w fun r w' => Below w.heap.size w w' ∧ ((∃ e, rMod (nums s) = .error e ∧ e ≠ 0 ∧ r = .returned (.tuple #[.agg (mcA modZero), .int .i64 e])) ∨ ∃ m : ModD, rMod (nums s) = .ok m.val ∧ r = .returned (.tuple #[.agg (mcA m), .int .i64 0]) ∧ m.ok w') := by
  refine (read_mod s hs w hA).mono ?_
  rintro r w' ⟨b, ⟨e, he, rfl⟩ | ⟨m, C, hC, hm, rfl, hg⟩⟩
  · exact ⟨b, Or.inl ⟨e, he, rMod_ne _ he, by rw [mcA_zero]⟩⟩
  · exact ⟨b, Or.inr ⟨m, hm, by rw [hC.out], hg.ok⟩⟩
theorem zero_ok (w : World) : modZero.ok w :=
  have h : ∀ {α : Type} (k : Nat) (cs : α → List Value) (ok : World → α → Prop), RowsOf w k cs ok none 0 [] := fun _ _ _ => ⟨Nat.le_refl _, Nat.zero_le _, fun _ => rfl, fun _ hd => (by cases hd), Or.inl rfl⟩
  have z : inI 0 := ⟨by decide, by decide⟩
  ⟨h _ _ _, h _ _ _, h _ _ _, z, z, z, h _ _ _, h _ _ _, z, h _ _ _, h _ _ _⟩
end Go.Proofs.YtakpkdckajjooaaGreatDoor
