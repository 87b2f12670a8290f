/-
 The reader of modules: the locals of a function, bytes that are read by themselves, a function's code.
-/
import Derived.Test.YtlfihndbnaaodaaGreatDoorFQT
import Derived.Test.YtlfihndbnaaodaaGreatDoorFQM
import Derived.WalkLawsBesides
import Derived.Laws.CopyOwn
import Derived.OwnWalk
import Derived.Deep.Upon
namespace Go.Proofs.YtlfihndbnaaodaaGreatDoor
set_option linter.unusedVariables false
open Go.RowKit
theorem wpList_append_zero {P : Program} {w : World} {ops : Array Oper} {rest : List Oper} {o : Oper} {a : Act} {Q : Exit → Act → World → Prop} (hgd : o.guard = none) (s x : Operand) (t : TypeId)
  (ho : o.op = .call { callee := .builtin .append, args := #[s, x], argTypes := #[t, t] })
  (e : TypeId) (i : TypeInfo) (ht : P.underlying t = some (.slice e)) (hi : P.info? e = some i)
  (b : Option Addr) (n cap : Nat) (hs : a.eval s = .slice b n cap) (hle : n ≤ cap) (g : Addr) (c : Nat) (hx : a.eval x = .slice (some g) 0 c)
  (h : wpList P ops Q rest (a.put o.dst (.slice b n cap)) w) : wpList P ops Q (o :: rest) a w := by
 refine wpList_plain hgd fun K hK => ?_
 have hrun := run_append_nothing (P := P) w t t o.type e i ht hi b n cap hle (.slice (some g) 0 c) (Src.ofSlice w ht g 0 c [] (by simp) (by simp) (by simp))
 unfold Oper.wp
 simp [execOp, ho, resolve, invoke, builtin, hs, hx, hrun, Result.andThen]
 exact hK _ _ h
end Go.Proofs.YtlfihndbnaaodaaGreatDoor
