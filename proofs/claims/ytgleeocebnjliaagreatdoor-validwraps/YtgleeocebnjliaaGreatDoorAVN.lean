/-
 A body with one instruction more: what is the same.
 Who knows less finds no more wrong: what is known behind an unreachable against what is known without it.
 A nop or an unreachable more leaves a sound module sound: over values.
 A body with one instruction more, in memory.
 The laws' own put.
-/
import Derived.Test.YtgleeocebnjliaaGreatDoorAVM
import Derived.Test.YtgleeocebnjliaaGreatDoorARZ
namespace Go.Proofs.YtgleeocebnjliaaGreatDoor
open Go.RowKit
set_option linter.unusedVariables false
structure Like (m n : ModD) : Prop where
 ty : n.types = m.types
 im : n.imports = m.imports
 fl : n.funcs.length = m.funcs.length
 ft : ∀ k : Nat, (n.funcs[k]!).t = (m.funcs[k]!).t
 gl : n.globals = m.globals
 tb : n.table = m.table
 mo : n.most = m.most
theorem Like.there {m n : ModD} (h : Like m n) (nl no : Nat) (op a : Int) (xs : List Int) : thereK n nl no op a xs = thereK m nl no op a xs := by
 unfold thereK
 rw [h.ty, h.im, h.fl, h.gl, h.tb, h.mo]
theorem Like.sig {m n : ModD} (h : Like m n) (k : Nat) : sigAt n.types n.imports n.funcs k = sigAt m.types m.imports m.funcs k := by
 unfold sigAt
 rw [h.ty, h.im, h.ft]
theorem Like.eff {m n : ModD} (h : Like m n) (loc : List Int) (ops : List BlkV) (op a : Int) : effV n loc ops op a = effV m loc ops op a := by
 unfold effV
 rw [h.sig, h.ty, h.gl]
theorem Like.allowed {m n : ModD} (h : Like m n) (ops : List BlkV) (op a : Int) (xs : List Int) : allowedV n ops op a xs = allowedV m ops op a xs := by
 unfold allowedV
 rw [h.gl]
theorem Like.step {m n : ModD} (h : Like m n) (loc st : List Int) (pre : List BlkV) (b : BlkV) (bad : Bool) (op a : Int) (xs : List Int) : stepV n loc st pre b bad op a xs = stepV m loc st pre b bad op a xs := by
 unfold stepV passV pass1
 simp only [h.there, h.eff, h.allowed]
theorem Like.next {m n : ModD} (h : Like m n) (loc : List Int) (T : TrkV) (d : InsD) : nextV n loc T d = nextV m loc T d := by
 unfold nextV
 split
 ·rfl
 ·exact h.step ..
theorem Like.run {m n : ModD} (h : Like m n) (loc : List Int) : ∀ (L : List InsD) (i : Nat) (T : TrkV), runV n loc L i T = runV m loc L i T
 | [], _, _ => rfl
 | d :: L, i, T => by
  unfold runV
  rw [h.next, h.run loc L]
theorem runV_cons (m : ModD) (loc : List Int) (d : InsD) (L : List InsD) (i : Nat) (T : TrkV) : runV m loc (d :: L) i T = if (nextV m loc T d).1 = 0 then runV m loc L (i + 1) (nextV m loc T d).2 else ((i : Int), (nextV m loc T d).1) := rfl
def bareI (op : Int) : InsD := ⟨op, 0, 0, none, 0, 0, []⟩
end Go.Proofs.YtgleeocebnjliaaGreatDoor
namespace Go.Proofs.YtgleeocebnjliaaGreatDoor
open Go.RowKit
set_option linter.unusedVariables false
theorem takeV_bad (k : Int) (st : List Int) (b : BlkV) : (takeV k st b true).2.2 = true := by
 unfold takeV
 split
 ·rfl
 ·dsimp only
  split <;> rfl
theorem tksV_cons (b : BlkV) (k : Int) (l : List Int) (s : List Int × Bool) : tksV b (k :: l) s = tksV b l ((takeV k s.1 b s.2).2.1, (takeV k s.1 b s.2).2.2) := rfl
theorem tksV_bad (b : BlkV) : ∀ (l : List Int) (st : List Int), (tksV b l (st, true)).2 = true
 | [], _ => rfl
 | k :: l, st => by
  rw [tksV_cons]
  show (tksV b l ((takeV k st b true).2.1, (takeV k st b true).2.2)).2 = true
  rw [takeV_bad]
  exact tksV_bad b l _
section
variable {pre pre' : List BlkV} {r r' g g' : List Int} {b b' : BlkV}
end
theorem chooseV_bad (st : List Int) (b : BlkV) : (chooseV st b true).2 = true := by
 unfold chooseV
 dsimp only
 rw [takeV_bad, takeV_bad, takeV_bad]
theorem pass1_bad (m : ModD) (loc st : List Int) (pre : List BlkV) (b : BlkV) (op a : Int) : (pass1 m loc st pre b true op a).bad = true := by
 unfold pass1
 split
 ·exact takeV_bad _ _ _
 split
 ·exact chooseV_bad _ _
 have hf : (finV st b true).2 = true := by
  unfold finV
  rw [tksV_bad]
  rfl
 split
 ·exact hf
 split
 ·show ((finV st b true).2 || _) = true
  rw [hf]
  rfl
 ·exact tksV_bad _ _ _
theorem passV_bad (m : ModD) (loc st : List Int) (pre : List BlkV) (b : BlkV) (op a : Int) : (passV m loc st pre b true op a).bad = true := by
 unfold passV
 split
 ·exact pass1_bad ..
 split
 ·exact pass1_bad ..
 ·exact pass1_bad ..
end Go.Proofs.YtgleeocebnjliaaGreatDoor
namespace Go.Proofs.YtgleeocebnjliaaGreatDoor
open Go.RowKit
set_option linter.unusedVariables false
section
variable {m : ModD} {j k : Nat} {op : Int} {oF : Option Addr} {cF : Nat} {o : Option Addr} {cap : Nat}
end
theorem frst_zero {α : Type} {f : α → Int} : ∀ {L : List α}, (∀ x ∈ L, f x = 0) → frst f L = 0
 | [], _ => rfl
 | x :: L, h => by
  show fstE (f x) (frst f L) = 0
  rw [h x (by simp), frst_zero (L := L) (fun y hy => h y (by simp [hy]))]
  rfl
end Go.Proofs.YtgleeocebnjliaaGreatDoor
namespace Go.Proofs.YtgleeocebnjliaaGreatDoor
open Go.RowKit
set_option linter.unusedVariables false
theorem cellsOf_len (L : List InsD) : (cellsOf L).length = L.length * 4 := by
 unfold cellsOf
 induction L with
 | nil => rfl
 | cons d L ih => rw [List.flatMap_cons, List.length_append, ih, List.length_cons]; simp [InsD.cells]; omega
theorem cellsOf_one (L : List InsD) : ∀ u ∈ cellsOf L, u.oneCell' = true := by
 intro u hu
 obtain ⟨d, _, hd⟩ := List.mem_flatMap.1 hu
 simp only [InsD.cells, List.mem_cons, List.not_mem_nil, or_false] at hd
 rcases hd with rfl | rfl | rfl | rfl <;> rfl
theorem LD.cells {w : World} {o : Option Addr} {L : List InsD} (h : LD w o L) (hL : L ≠ []) : ∃ b f, o = some ⟨b, f, none⟩ ∧ b < w.heap.size ∧ ∀ j u, (cellsOf L)[j]? = some u → w.cell? ⟨b, f + j, none⟩ = some u := by
 rcases h.2 with h0 | ⟨b, f, e, hb, hc⟩
 ·exact absurd h0 hL
 refine ⟨b, f, e, hb, fun j u hu => ?_⟩
 have hj : j < L.length * 4 := by
  have := (List.getElem?_eq_some_iff.1 hu).1
  rwa [cellsOf_len] at this
 have hi : j / 4 < L.length := by omega
 have hf := flat_at InsD.cells 4 (fun _ => rfl) L (j / 4) (j % 4) hi (by omega)
 rw [show j / 4 * 4 + j % 4 = j by omega, show L.flatMap InsD.cells = cellsOf L from rfl, hu] at hf
 obtain ⟨c0, c1, c2, c3⟩ := hc (j / 4) hi
 have h4 : j % 4 = 0 ∨ j % 4 = 1 ∨ j % 4 = 2 ∨ j % 4 = 3 := by omega
 rcases h4 with q | q | q | q <;> rw [q] at hf
 ·rw [show f + j = f + j / 4 * 4 by omega, c0]; exact hf.symm
 ·rw [show f + j = f + j / 4 * 4 + 1 by omega, c1]; exact hf.symm
 ·rw [show f + j = f + j / 4 * 4 + 2 by omega, c2]; exact hf.symm
 ·rw [show f + j = f + j / 4 * 4 + 3 by omega, c3]; exact hf.symm
theorem own_LD {w : World} {B g c n : Nat} {L : List InsD} (h : w.ownsRow B 66 4 (.slice (some ⟨g, 0, none⟩) n c) n (cellsOf L)) (hl : L.length = n) (hok : ∀ d ∈ L, d.ok w) : LD w (some ⟨g, 0, none⟩) L ∧ n ≤ c ∧ c ≤ maxLen := by
 rcases h.2 with ⟨h1, _⟩ | ⟨g', c', cur, h1, _, hg, h3, h4, h5, h6⟩
 ·cases h1
 simp only [Value.slice.injEq, Option.some.injEq, Addr.mk.injEq] at h1
 obtain ⟨⟨rfl, _⟩, _, rfl⟩ := h1
 refine ⟨⟨hok, Or.inr ⟨g, 0, rfl, some_lt hg, fun i hi => ?_⟩⟩, h3, h4⟩
 have at' (r : Nat) (hr : r < 4) : w.cell? ⟨g, 0 + i * 4 + r, none⟩ = (InsD.cells L[i])[r]? := by
  have hf := flat_at InsD.cells 4 (fun _ => rfl) L i r hi hr
  rw [show L.flatMap InsD.cells = cellsOf L from rfl, ← h6, List.getElem?_take_of_lt (by omega)] at hf
  rw [← hf]
  simp [World.cell?, hg]
 exact ⟨at' 0 (by omega), at' 1 (by omega), at' 2 (by omega), at' 3 (by omega)⟩
theorem bare_ok (w : World) {op : Int} (h0 : 0 ≤ op) (h1 : op ≤ 255) : (bareI op).ok w := ⟨h0, h1, ⟨by show (-9223372036854775808 : Int) ≤ 0; decide, by show (0 : Int) ≤ 9223372036854775807; decide⟩, Nat.le_refl _, Nat.zero_le _, ⟨rfl, Or.inl rfl⟩, fun _ => rfl⟩
end Go.Proofs.YtgleeocebnjliaaGreatDoor
namespace Go.Proofs.YtgleeocebnjliaaGreatDoor
open Go.RowKit
set_option linter.unusedVariables false
theorem own_base {w : World} {B : Nat} {t : TypeId} {k : Nat} {v : Value} {n : Nat} {xs : List Value} (h : w.ownsRow B t k v n xs) {i : Nat} (e : v.ownBlock = some i) : B ≤ i := by
 rcases h.2 with ⟨h1, _⟩ | ⟨g, c, cur, h1, hb, _⟩
 ·rw [h1] at e; cases e
 ·rw [h1] at e
  simp only [Value.ownBlock, Option.some.injEq] at e
  omega
theorem flat_len3 (L : List FunD) : (L.flatMap FunD.cells).length = L.length * 3 := by
 induction L with
 | nil => rfl
 | cons d L ih => rw [List.flatMap_cons, List.length_append, ih, List.length_cons]; simp [FunD.cells]; omega
theorem rows_news {w : World} {o : Option Addr} {cap : Nat} {L : List FunD} (h : RowsOf w 3 FunD.cells FunD.ok o cap L) : L.length = 0 ∨ ∃ a : Addr, o = some a ∧ ∀ j u, (L.flatMap FunD.cells)[j]? = some u → w.cell? (a.add j) = some u := by
 rcases h.at' with h0 | ⟨b, f, e, hb, hc⟩
 ·exact Or.inl (by rw [h0]; rfl)
 refine Or.inr ⟨_, e, fun j u hu => ?_⟩
 have hj : j < L.length * 3 := by
  have := (List.getElem?_eq_some_iff.1 hu).1
  rwa [flat_len3] at this
 have hi : j / 3 < L.length := by omega
 have hf := flat_at FunD.cells 3 (fun _ => rfl) L (j / 3) (j % 3) hi (by omega)
 rw [show j / 3 * 3 + j % 3 = j by omega, hu, ← hc (j / 3) hi (j % 3) (by omega)] at hf
 rw [show (⟨b, f, none⟩ : Addr).add j = ⟨b, f + j, none⟩ from by unfold Addr.add; split <;> simp_all, show f + j = f + j / 3 * 3 + j % 3 by omega]
 exact hf.symm
theorem fun_one (L : List FunD) : ∀ u ∈ L.flatMap FunD.cells, u.oneCell' = true := by
 intro u hu
 obtain ⟨d, _, hd⟩ := List.mem_flatMap.1 hu
 simp only [FunD.cells, NumD.v, List.mem_cons, List.not_mem_nil, or_false] at hd
 rcases hd with rfl | rfl | rfl <;> rfl
end Go.Proofs.YtgleeocebnjliaaGreatDoor
