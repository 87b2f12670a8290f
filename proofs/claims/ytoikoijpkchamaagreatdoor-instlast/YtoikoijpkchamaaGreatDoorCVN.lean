/-
 A body with one instruction more: what is the same.
-/
import Derived.Test.YtoikoijpkchamaaGreatDoorCVM
namespace Go.Proofs.YtoikoijpkchamaaGreatDoor
open Go.RowKit
set_option linter.unusedVariables false
structure Like (m n : ModD) : Prop where
 ty : n.types = m.types
 im : n.imports = m.imports
 fl : n.funcs.length = m.funcs.length
 ft : ∀ k : Nat, (n.funcs[k]!).t = (m.funcs[k]!).t
 gl : n.globals = m.globals
 tb : n.table = m.table
 mo : n.most = m.most
theorem Like.there {m n : ModD} (h : Like m n) (nl no : Nat) (op a : Int) (xs : List Int) : thereK n nl no op a xs = thereK m nl no op a xs := by
 unfold thereK
 rw [h.ty, h.im, h.fl, h.gl, h.tb, h.mo]
theorem Like.sig {m n : ModD} (h : Like m n) (k : Nat) : sigAt n.types n.imports n.funcs k = sigAt m.types m.imports m.funcs k := by
 unfold sigAt
 rw [h.ty, h.im, h.ft]
theorem Like.eff {m n : ModD} (h : Like m n) (loc : List Int) (ops : List BlkV) (op a : Int) : effV n loc ops op a = effV m loc ops op a := by
 unfold effV
 rw [h.sig, h.ty, h.gl]
theorem Like.allowed {m n : ModD} (h : Like m n) (ops : List BlkV) (op a : Int) (xs : List Int) : allowedV n ops op a xs = allowedV m ops op a xs := by
 unfold allowedV
 rw [h.gl]
theorem Like.step {m n : ModD} (h : Like m n) (loc st : List Int) (pre : List BlkV) (b : BlkV) (bad : Bool) (op a : Int) (xs : List Int) : stepV n loc st pre b bad op a xs = stepV m loc st pre b bad op a xs := by
 unfold stepV passV pass1
 simp only [h.there, h.eff, h.allowed]
theorem Like.next {m n : ModD} (h : Like m n) (loc : List Int) (T : TrkV) (d : InsD) : nextV n loc T d = nextV m loc T d := by
 unfold nextV
 split
 ·rfl
 ·exact h.step ..
theorem Like.run {m n : ModD} (h : Like m n) (loc : List Int) : ∀ (L : List InsD) (i : Nat) (T : TrkV), runV n loc L i T = runV m loc L i T
 | [], _, _ => rfl
 | d :: L, i, T => by
  unfold runV
  rw [h.next, h.run loc L]
end Go.Proofs.YtoikoijpkchamaaGreatDoor
