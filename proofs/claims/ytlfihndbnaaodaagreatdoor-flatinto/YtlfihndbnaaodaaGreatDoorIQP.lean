/-
 The reader of modules: the locals of a function, bytes that are read by themselves, a function's code.
 The reader of modules: the whole.
-/
import Derived.Test.YtlfihndbnaaodaaGreatDoorIQT
import Derived.Test.YtlfihndbnaaodaaGreatDoorIQM
import Derived.WalkLawsBesides
import Derived.Laws.CopyOwn
import Derived.OwnWalk
import Derived.Deep.Upon
import Derived.Deep.QuietTactic
import Derived.BigQuiet
import Derived.Deep.MidRow
namespace Go.Proofs.YtlfihndbnaaodaaGreatDoor
set_option linter.unusedVariables false
open Go.RowKit
theorem wpList_append_zero {P : Program} {w : World} {ops : Array Oper} {rest : List Oper} {o : Oper} {a : Act} {Q : Exit → Act → World → Prop} (hgd : o.guard = none) (s x : Operand) (t : TypeId)
  (ho : o.op = .call { callee := .builtin .append, args := #[s, x], argTypes := #[t, t] })
  (e : TypeId) (i : TypeInfo) (ht : P.underlying t = some (.slice e)) (hi : P.info? e = some i)
  (b : Option Addr) (n cap : Nat) (hs : a.eval s = .slice b n cap) (hle : n ≤ cap) (g : Addr) (c : Nat) (hx : a.eval x = .slice (some g) 0 c)
  (h : wpList P ops Q rest (a.put o.dst (.slice b n cap)) w) : wpList P ops Q (o :: rest) a w := by
 refine wpList_plain hgd fun K hK => ?_
 have hrun := run_append_nothing (P := P) w t t o.type e i ht hi b n cap hle (.slice (some g) 0 c) (Src.ofSlice w ht g 0 c [] (by simp) (by simp) (by simp))
 unfold Oper.wp
 simp [execOp, ho, resolve, invoke, builtin, hs, hx, hrun, Result.andThen]
 exact hK _ _ h
end Go.Proofs.YtlfihndbnaaodaaGreatDoor
namespace Go.Proofs.YtlfihndbnaaodaaGreatDoor
set_option linter.unusedVariables false
open Go.RowKit
def X11 (w : World) (X : Nat) (c0 c1 c2 c3 c4 c5 c6 c7 c8 c9 c10 : Value) : Prop := w.heap[X]? = some (.cells #[c0, c1, c2, c3, c4, c5, c6, c7, c8, c9, c10] 30 (0, 0))
section
variable {w w' : World} {X P : Nat} {c0 c1 c2 c3 c4 c5 c6 c7 c8 c9 c10 : Value}
theorem X11.chg (h : X11 w X c0 c1 c2 c3 c4 c5 c6 c7 c8 c9 c10) (c : Chg P w w') (hX : X ≠ P) : X11 w' X c0 c1 c2 c3 c4 c5 c6 c7 c8 c9 c10 := by
 unfold X11 at h ⊢
 rw [c.block X (some_lt h) hX, h]
theorem X11.cell (h : X11 w X c0 c1 c2 c3 c4 c5 c6 c7 c8 c9 c10) : w.cell? ⟨X, 0, none⟩ = some c0 ∧ w.cell? ⟨X, 1, none⟩ = some c1 ∧ w.cell? ⟨X, 2, none⟩ = some c2 ∧ w.cell? ⟨X, 3, none⟩ = some c3 ∧ w.cell? ⟨X, 4, none⟩ = some c4 ∧ w.cell? ⟨X, 5, none⟩ = some c5 ∧ w.cell? ⟨X, 6, none⟩ = some c6 ∧ w.cell? ⟨X, 7, none⟩ = some c7 ∧ w.cell? ⟨X, 8, none⟩ = some c8 ∧ w.cell? ⟨X, 9, none⟩ = some c9 ∧ w.cell? ⟨X, 10, none⟩ = some c10 := by
 unfold X11 at h
 simp [World.cell?, h]
end
def mcA (d : ModD) : Array Value := #[.slice d.oT d.types.length d.cT, .slice d.oI d.imports.length d.cI, .slice d.oF d.funcs.length d.cF, .int .i64 d.table, .int .i64 d.pages, .int .i64 d.most, .slice d.oG d.globals.length d.cG, .slice d.oE d.exports.length d.cE, .int .i64 d.start, .slice d.oL d.elems.length d.cL, .slice d.oD d.data.length d.cD]
theorem infoMod : (Tryz.prog.info? 30).map (·.size) = some 11 := by kernel_rfl
end Go.Proofs.YtlfihndbnaaodaaGreatDoor
