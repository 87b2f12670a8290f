/-
  What the small methods of a nesting do.
  What a nesting's step does.
  What the program's own nest.Check does.
-/
import Derived.Test.YtfmmefmpjejioaaGVal
import Derived.WalkSmall
import Derived.OneCell
import Derived.Laws.OwnMore
import Derived.Deep.AppendLies
import Derived.Test.YtfmmefmpjejioaaRRd1
namespace Go.Proofs.Ytfmmefmpjejioaa
open Go.RowKit

theorem Try.infoU8 : (Try.prog.info? 5).map (fun i => (i.zero, i.size, i.bytes)) = some (some (.int .u8 0), 1, 1) := by kernel_rfl
theorem own8_under {w1 w2 : World} {base k : Nat} {v : Value} {xs : List Value} (h : w1.ownsRow base 5 1 v k xs) (b : Below w1.heap.size w1 w2) : w2.ownsRow base 5 1 v k xs :=
  h.kept (row := none) ⟨b.os, b.tape, b.output, b.size, fun k hk _ => b.block k hk⟩ (by cases hv : v.ownBlock <;> simp)
theorem own_cap {w : World} {base e k cap : Nat} {o : Option Addr} {xs : List Value} (h : w.ownsRow base e 1 (.slice o k cap) k xs) : k ≤ cap ∧ cap ≤ 9223372036854775807 := by
  rcases h.2 with ⟨h1, h2⟩ | ⟨g, c, cur, h1, _, _, h2, h3, _⟩
  · simp only [Value.slice.injEq] at h1
    omega
  · simp only [Value.slice.injEq] at h1
    unfold maxLen at h3
    omega
theorem ns_cells {w : World} {P : Nat} {c0 c1 : Value} {t : TypeId} (h : w.heap[P]? = some (.cells #[c0, c1] t (0, 0))) : w.cell? ⟨P, 0, none⟩ = some c0 ∧ w.cell? ⟨P, 1, none⟩ = some c1 ∧ w.frozen? ⟨P, 0, none⟩ = false ∧ w.frozen? ⟨P, 1, none⟩ = false := by
  simp [World.cell?, World.frozen?, h]
theorem ns_set0 {w : World} {P : Nat} {c0 c1 : Value} {t : TypeId} (h : w.heap[P]? = some (.cells #[c0, c1] t (0, 0))) (v : Value) : (w.setCell ⟨P, 0, none⟩ v).heap[P]? = some (.cells #[v, c1] t (0, 0)) := by
  simp [World.setCell, Array.getElem?_modify, h]
theorem ns_set1 {w : World} {P : Nat} {c0 c1 : Value} {t : TypeId} (h : w.heap[P]? = some (.cells #[c0, c1] t (0, 0))) (v : Value) : (w.setCell ⟨P, 1, none⟩ v).heap[P]? = some (.cells #[c0, v] t (0, 0)) := by
  simp [World.setCell, Array.getElem?_modify, h]
/-- The block of what the nesting at P has open. -/
def ob (w : World) (P : Nat) : Option Nat := match w.heap[P]? with | some (.cells cs _ _) => (cs[0]?).bind Value.ownBlock | _ => none
theorem ob_of {w : World} {P : Nat} {c0 c1 : Value} {t : TypeId} (h : w.heap[P]? = some (.cells #[c0, c1] t (0, 0))) : ob w P = c0.ownBlock := by
  unfold ob
  rw [h]
  rfl
/-- Of what was there only the nesting at P and what it has open may have turned. -/
structure NK (P : Nat) (w w' : World) : Prop where
  size : w.heap.size ≤ w'.heap.size
  block : ∀ j, j < w.heap.size → j ≠ P → ob w P ≠ some j → w'.heap[j]? = w.heap[j]?
  opens : ob w' P = ob w P ∨ ∃ g, w.heap.size ≤ g ∧ ob w' P = some g
theorem NK.refl (P : Nat) (w : World) : NK P w w := ⟨Nat.le_refl _, fun _ _ _ _ => rfl, Or.inl rfl⟩
theorem NK.of_below {P : Nat} {w w' : World} (h : Below w.heap.size w w') (hP : P < w.heap.size) : NK P w w' :=
  ⟨h.size, fun j hj _ _ => h.block j hj, Or.inl (by unfold ob; rw [h.block P hP])⟩
theorem NK.trans {P : Nat} {a b c : World} (h : NK P a b) (k : NK P b c) : NK P a c := by
  refine ⟨Nat.le_trans h.size k.size, fun j hj hP ho => ?_, ?_⟩
  · have hb : ob b P ≠ some j := by
      rcases h.opens with e | ⟨g, hg, e⟩
      · rw [e]; exact ho
      · rw [e]
        intro e2
        cases e2
        omega
    rw [k.block j (Nat.lt_of_lt_of_le hj h.size) hP hb, h.block j hj hP ho]
  · rcases k.opens with e | ⟨g, hg, e⟩
    · rcases h.opens with f | ⟨g, hg, f⟩
      · exact Or.inl (e.trans f)
      · exact Or.inr ⟨g, hg, e.trans f⟩
    · exact Or.inr ⟨g, Nat.le_trans h.size hg, e⟩
theorem NK.drew {P : Nat} {a b : World} (h : NK P a b) : NK P a b.drew := ⟨h.size, h.block, h.opens⟩
/-- The nesting's own cell is written. -/
theorem NK.set0 {P : Nat} {w : World} {c0 c1 : Value} {t : TypeId} (h : w.heap[P]? = some (.cells #[c0, c1] t (0, 0))) (v : Value) (hv : v.ownBlock = c0.ownBlock) : NK P w (w.setCell ⟨P, 0, none⟩ v) := by
  refine ⟨by simp [World.setCell], fun j _ hP _ => Below.heap_setCell _ _ _ _ hP, Or.inl ?_⟩
  rw [ob_of h, ob_of (ns_set0 h v), hv]
theorem NK.set1 {P : Nat} {w : World} {c0 c1 : Value} {t : TypeId} (h : w.heap[P]? = some (.cells #[c0, c1] t (0, 0))) (v : Value) : NK P w (w.setCell ⟨P, 1, none⟩ v) := by
  refine ⟨by simp [World.setCell], fun j _ hP _ => Below.heap_setCell _ _ _ _ hP, Or.inl ?_⟩
  rw [ob_of h, ob_of (ns_set1 h v)]
/-- What it has open is written. -/
theorem NK.row {P g i : Nat} {w : World} {c0 c1 : Value} {t : TypeId} (h : w.heap[P]? = some (.cells #[c0, c1] t (0, 0))) (hg : c0.ownBlock = some g) (hgP : g ≠ P) (v : Value) : NK P w (w.setCell ⟨g, i, none⟩ v) := by
  have e : (w.setCell ⟨g, i, none⟩ v).heap[P]? = w.heap[P]? := Below.heap_setCell _ _ _ _ (Ne.symm hgP)
  refine ⟨by simp [World.setCell], fun j _ _ ho => Below.heap_setCell _ _ _ _ ?_, Or.inl (by unfold ob; rw [e])⟩
  rw [ob_of h, hg] at ho
  exact fun e2 => ho (by rw [e2])
/-- What it has open grows. -/
theorem NK.grown {P g H : Nat} {w w1 : World} {c0 c1 v : Value} {t : TypeId} (h : w.heap[P]? = some (.cells #[c0, c1] t (0, 0))) (hf : c0.ownBlock ≠ some P) (hg : w.grownBy w1 c0.ownBlock) (hat : c0.ownBlock = some g ∨ g = H) (hH : w.heap.size ≤ H) (hv : v.ownBlock = some g) : NK P w (w1.setCell ⟨P, 0, none⟩ v) := by
  have hP : P < w.heap.size := (Array.getElem?_eq_some_iff.1 h).1
  have e1 : w1.heap[P]? = some (.cells #[c0, c1] t (0, 0)) := by rw [hg.block P hP (Ne.symm hf)]; exact h
  refine ⟨by simp [World.setCell]; exact hg.size, fun j hj hjP ho => ?_, ?_⟩
  · rw [Below.heap_setCell _ _ _ _ hjP]
    rw [ob_of h] at ho
    exact hg.block j hj (Ne.symm ho)
  · rw [ob_of (ns_set0 e1 v), ob_of h, hv]
    rcases hat with e | e
    · exact Or.inl e.symm
    · exact Or.inr ⟨g, by omega, rfl⟩
theorem far_ne {o : Option Addr} {P k cap : Nat} (h : ∀ g, o = some g → g.block ≠ P) : (Value.slice o k cap).ownBlock ≠ some P := by
  cases o with
  | none => simp [Value.ownBlock]
  | some g => simpa [Value.ownBlock] using h g rfl
end Go.Proofs.Ytfmmefmpjejioaa
namespace Go.Proofs.Ytfmmefmpjejioaa
open Go.RowKit

/-- What a step answers and leaves: c is what Check says. -/
def nStep (c op : Int) (bs : List Int) (en : Bool) : Int × List Int × Bool :=
  if c ≠ 0 then (c, bs, en) else if en = true then (4, bs, en)
  else if op = 2 ∨ op = 3 ∨ op = 4 then (if bs.length = 12 then (7, bs, en) else (0, bs ++ [op], en))
  else if op = 5 then (match bs.getLast? with | some 4 => (0, bs.dropLast ++ [5], en) | _ => (4, bs, en))
  else if op = 11 then (match bs with | [] => (0, [], true) | _ :: _ => (0, bs.dropLast, en))
  else (0, bs, en)
end Go.Proofs.Ytfmmefmpjejioaa
namespace Go.Proofs.Ytfmmefmpjejioaa
open Go.RowKit

/-- An instruction of a body: its cells, and the numbers of its list. -/
structure InsD where
  op : Int
  A : Int
  B : Int
  o : Option Addr
  n : Nat
  cap : Nat
  xs : List Int
structure InsD.ok (w : World) (d : InsD) : Prop where
  op0 : 0 ≤ d.op
  op1 : d.op ≤ 255
  a : -9223372036854775808 ≤ d.A ∧ d.A ≤ 9223372036854775807
  cap : d.n ≤ d.cap
  most : d.cap ≤ maxLen
  lj : LJ w d.o d.n d.xs
  nil : d.o = none → d.cap = 0
theorem InsD.ok.below {w w' : World} {d : InsD} (h : d.ok w) (b : Below w.heap.size w w') : d.ok w' := ⟨h.op0, h.op1, h.a, h.cap, h.most, h.lj.below b, h.nil⟩
/-- A list of instructions. -/
def LD (w : World) (o : Option Addr) (L : List InsD) : Prop := (∀ d ∈ L, d.ok w) ∧ (L = [] ∨ ∃ b f, o = some ⟨b, f, none⟩ ∧ b < w.heap.size ∧ ∀ i (h : i < L.length), w.cell? ⟨b, f + i * 4, none⟩ = some (.int .u8 (L[i]).op) ∧ w.cell? ⟨b, f + i * 4 + 1, none⟩ = some (.int .i64 (L[i]).A) ∧ w.cell? ⟨b, f + i * 4 + 2, none⟩ = some (.int .i64 (L[i]).B) ∧ w.cell? ⟨b, f + i * 4 + 3, none⟩ = some (.slice (L[i]).o (L[i]).n (L[i]).cap))
theorem LD.below {w w' : World} {o : Option Addr} {L : List InsD} (h : LD w o L) (b : Below w.heap.size w w') : LD w' o L := by
  obtain ⟨h1, h2⟩ := h
  refine ⟨fun d hd => (h1 d hd).below b, ?_⟩
  rcases h2 with h2 | ⟨bb, f, e, hb, hc⟩
  · exact Or.inl h2
  · refine Or.inr ⟨bb, f, e, Nat.lt_of_lt_of_le hb b.size, fun i hi => ?_⟩
    rw [b.cell (p := ⟨bb, f + i * 4, none⟩) hb, b.cell (p := ⟨bb, f + i * 4 + 1, none⟩) hb, b.cell (p := ⟨bb, f + i * 4 + 2, none⟩) hb, b.cell (p := ⟨bb, f + i * 4 + 3, none⟩) hb]
    exact hc i hi
/-- What Check says of an instruction. -/
def chkD (d : InsD) : Int := chkV d.op d.A d.B d.n d.xs
/-- How far a body is gone through. -/
def nRun : List InsD → List Int → Bool → Int × List Int × Bool
  | [], bs, en => (0, bs, en)
  | d :: L, bs, en => if (nStep (chkD d) d.op bs en).1 = 0 then nRun L (nStep (chkD d) d.op bs en).2.1 (nStep (chkD d) d.op bs en).2.2 else nStep (chkD d) d.op bs en
/-- What Check says of a body. -/
def nChk (L : List InsD) : Int := if 200 < L.length then 2 else if (nRun L [] false).1 = 0 then (if (nRun L [] false).2.2 = true then 0 else 3) else (nRun L [] false).1
theorem nStep_len (c op : Int) (bs : List Int) (en : Bool) (h : bs.length ≤ 12) : (nStep c op bs en).2.1.length ≤ 12 := by
  unfold nStep
  split
  · exact h
  split
  · exact h
  split
  · split
    · exact h
    · simp; omega
  split
  · split
    · rename_i hl
      have hne : bs ≠ [] := by intro e; subst e; simp at hl
      have : 0 < bs.length := List.length_pos_iff.2 hne
      simp; omega
    · exact h
  split
  · split
    · simp
    · simp at h ⊢; omega
  · exact h
end Go.Proofs.Ytfmmefmpjejioaa
