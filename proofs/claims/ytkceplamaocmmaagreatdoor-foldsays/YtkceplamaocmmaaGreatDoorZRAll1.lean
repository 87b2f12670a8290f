/-
  The document's own seq for every body, and the marks while their rows grow.
-/
import Derived.Test.YtkceplamaocmmaaGreatDoorZPD
namespace Go.Proofs.YtkceplamaocmmaaGreatDoor
set_option linter.unusedVariables false
open Go.RowKit
theorem seq_any (b f cap n P gE gS cE cS : Nat) (L : List InsD) (w : World) (hl : L.length = n) (hn : n ≤ 200) (hcap : n ≤ cap) (h : LD w (some ⟨b, f, none⟩) L) (hbw : b < w.heap.size) (hM : MaxIn w) :
    ∀ (m i dp : Nat) (x y : Int) (E S : List Int) (wi : World), n - i ≤ m → x = (i : Int) → y = (dp : Int) → i ≤ n → dp ≤ 12 → QS w wi P gE gS n cE cS (some ⟨b, f, none⟩) cap E S →
      Calls Tryz.prog 57 #[.pointer (some ⟨P, 0, none⟩), .int .i64 x, .int .i64 y] wi fun r w' => ∃ (e : Int) (j : Nat) (E' S' : List Int), Sq L i dp E S e j E' S' ∧ r = .returned (.tuple #[.int .i64 j, .int .i64 e]) ∧ QS w w' P gE gS n cE cS (some ⟨b, f, none⟩) cap E' S' ∧ KP gE gS wi w' := by
  have hck : ∀ d ∈ L, ∀ w', Below w.heap.size w w' → Calls Tryz.prog 58 #[.agg #[.int .u8 d.op, .int .i64 d.A, .int .i64 d.B, .slice d.o d.n d.cap]] w' fun r w'' => r = .returned (.int .i64 (chkD d)) ∧ Below w'.heap.size w' w'' := fun d hd w' b => by
    have ok := (h.1 d hd).below b
    exact rcheck_any d.op d.A d.B d.o d.n d.cap d.xs ok.op0 ok.op1 ok.cap w' ok.lj (hM.below b)
  intro m
  induction m with
  | zero =>
    intro i dp x y E S wi hm hx hy hi hd hq
    subst hx hy
    exact seq_core b f cap n P gE gS cE cS L w hl hn hcap h hbw hck i dp E S wi hi hd hq (fun i' dp' x y E S wi hx hy h1 h2 => by omega)
  | succ m ih =>
    intro i dp x y E S wi hm hx hy hi hd hq
    subst hx hy
    exact seq_core b f cap n P gE gS cE cS L w hl hn hcap h hbw hck i dp E S wi hi hd hq (fun i' dp' x y E S wi hx hy h1 h2 h3 h4 => ih i' dp' x y E S wi (by omega) hx hy h2 h3 h4)
structure AS (w wr : World) (P n k : Nat) (oE : Option Addr) (cE : Nat) (oS : Option Addr) (cS : Nat) (o : Option Addr) (cap : Nat) : Prop where
  ends : wr.ownsRow w.heap.size 3 1 (.slice oE k cE) k ((List.replicate k (-1 : Int)).map (Value.int .i64))
  elses : wr.ownsRow w.heap.size 3 1 (.slice oS k cS) k ((List.replicate k (-1 : Int)).map (Value.int .i64))
  es : ∀ g h, oE = some g → oS = some h → g.block ≠ h.block
  blk : wr.heap[P]? = some (.cells #[.slice o n cap, .slice oE k cE, .slice oS k cS] 72 (0, 0))
  farE : ∀ g, oE = some g → g.block ≠ P
  farS : ∀ g, oS = some g → g.block ≠ P
  pos : w.heap.size ≤ P
  below : Below w.heap.size w wr
section
variable {w wr w' : World} {P n k cE cS cap : Nat} {oE oS o : Option Addr}
theorem AS.lt (h : AS w wr P n k oE cE oS cS o cap) : P < wr.heap.size := (Array.getElem?_eq_some_iff.1 h.blk).1
theorem AS.under (h : AS w wr P n k oE cE oS cS o cap) (b : Below wr.heap.size wr w') : AS w w' P n k oE cE oS cS o cap :=
  ⟨own3_under h.ends b, own3_under h.elses b, h.es, by rw [b.block P h.lt]; exact h.blk, h.farE, h.farS, h.pos, h.below.trans (b.mono h.below.size)⟩
theorem AS.drew (h : AS w wr P n k oE cE oS cS o cap) : AS w wr.drew P n k oE cE oS cS o cap := ⟨h.ends, h.elses, h.es, h.blk, h.farE, h.farS, h.pos, h.below.drew⟩
theorem AS.cells (h : AS w wr P n k oE cE oS cS o cap) : wr.cell? ⟨P, 0, none⟩ = some (.slice o n cap) ∧ wr.cell? ⟨P, 1, none⟩ = some (.slice oE k cE) ∧ wr.cell? ⟨P, 2, none⟩ = some (.slice oS k cS) ∧ wr.frozen? ⟨P, 1, none⟩ = false ∧ wr.frozen? ⟨P, 2, none⟩ = false := by
  refine ⟨?_, ?_, ?_, ?_, ?_⟩ <;> simp [World.cell?, World.frozen?, h.blk]
end
structure AM (w wr : World) (P n k k2 : Nat) (oE : Option Addr) (cE : Nat) (g c : Nat) (oS : Option Addr) (cS : Nat) (o2 : Option Addr) (c2 : Nat) (o : Option Addr) (cap : Nat) : Prop where
  ends : wr.ownsRow w.heap.size 3 1 (.slice (some ⟨g, 0, none⟩) (k + 1) c) (k + 1) ((List.replicate (k + 1) (-1 : Int)).map (Value.int .i64))
  elses : wr.ownsRow w.heap.size 3 1 (.slice o2 k2 c2) k2 ((List.replicate k2 (-1 : Int)).map (Value.int .i64))
  es : ∀ h, o2 = some h → h.block ≠ g
  blk : wr.heap[P]? = some (.cells #[.slice o n cap, .slice oE k cE, .slice oS k cS] 72 (0, 0))
  farE : g ≠ P
  farS : ∀ g, o2 = some g → g.block ≠ P
  pos : w.heap.size ≤ P
  below : Below w.heap.size w wr
section
variable {w wr wa w' w5 : World} {P n k k2 cE cS c2 cap : Nat} {oE oS o2 o : Option Addr} {g c : Nat}
theorem AM.lt (h : AM w wr P n k k2 oE cE g c oS cS o2 c2 o cap) : P < wr.heap.size := (Array.getElem?_eq_some_iff.1 h.blk).1
theorem AM.under (h : AM w wr P n k k2 oE cE g c oS cS o2 c2 o cap) (b : Below wr.heap.size wr w') : AM w w' P n k k2 oE cE g c oS cS o2 c2 o cap :=
  ⟨own3_under h.ends b, own3_under h.elses b, h.es, by rw [b.block P h.lt]; exact h.blk, h.farE, h.farS, h.pos, h.below.trans (b.mono h.below.size)⟩
theorem AM.cells (h : AM w wr P n k k2 oE cE g c oS cS o2 c2 o cap) : wr.cell? ⟨P, 0, none⟩ = some (.slice o n cap) ∧ wr.cell? ⟨P, 1, none⟩ = some (.slice oE k cE) ∧ wr.cell? ⟨P, 2, none⟩ = some (.slice oS k cS) ∧ wr.frozen? ⟨P, 1, none⟩ = false ∧ wr.frozen? ⟨P, 2, none⟩ = false := by
  refine ⟨?_, ?_, ?_, ?_, ?_⟩ <;> simp [World.cell?, World.frozen?, h.blk]
theorem rep_row (k : Nat) : (List.replicate k (-1 : Int)).map (Value.int .i64) ++ [.int .i64 (-1)] = (List.replicate (k + 1) (-1 : Int)).map (Value.int .i64) := by
  rw [List.replicate_succ', List.map_append]
  rfl
theorem AS.app (h : AS w wa P n k oE cE oS cS o cap) (hg : wa.grownBy w5 (Value.slice oE k cE).ownBlock) (hown : w5.ownsRow w.heap.size 3 1 (.slice (some ⟨g, 0, none⟩) (k + 1) c) (k + 1) ((List.replicate k (-1 : Int)).map (Value.int .i64) ++ [.int .i64 (-1)])) (hat : (Value.slice oE k cE).ownBlock = some g ∨ g = wa.heap.size) : AM w w5 P n k k oE cE g c oS cS oS cS o cap := by
  have fP := far_block (k := k) (c := cE) h.farE
  have lP := h.lt
  have fS : ∀ s, oS = some s → (Value.slice oE k cE).ownBlock ≠ some s.block := fun s hs => far_block (k := k) (c := cE) fun g' hg' => h.es g' s hg' hs
  have lS : ∀ s, oS = some s → s.block < wa.heap.size := fun s hs => (h.elses.lt s.block (by rw [hs]; simp [Value.ownBlock])).2
  rw [rep_row] at hown
  refine ⟨hown, h.elses.kept hg ?_, fun s hs => ?_, by rw [hg.block P lP (Ne.symm fP)]; exact h.blk, ?_, h.farS, h.pos, h.below.grown hg h.below.size fun j hj => (h.ends.lt j hj).1⟩
  · cases oS with
    | none => left; simp [Value.ownBlock]
    | some s => right; simp [Value.ownBlock]; exact fun e => fS s rfl e.symm
  · rcases hat with e | e
    · intro e2
      exact fS s hs (by rw [e, e2])
    · have := lS s hs
      omega
  · rcases hat with e | e
    · intro e2
      exact fP (by rw [e, e2])
    · omega
theorem AM.app {g2 cg : Nat} (h : AM w wa P n k k oE cE g c oS cS oS cS o cap) (hg : wa.grownBy w5 (Value.slice oS k cS).ownBlock) (hown : w5.ownsRow w.heap.size 3 1 (.slice (some ⟨g2, 0, none⟩) (k + 1) cg) (k + 1) ((List.replicate k (-1 : Int)).map (Value.int .i64) ++ [.int .i64 (-1)])) (hat : (Value.slice oS k cS).ownBlock = some g2 ∨ g2 = wa.heap.size) : AM w w5 P n k (k + 1) oE cE g c oS cS (some ⟨g2, 0, none⟩) cg o cap := by
  have fP := far_block (k := k) (c := cS) h.farS
  have lP := h.lt
  have fE := far_block (k := k) (c := cS) h.es
  have lE := (h.ends.lt g rfl).2
  rw [rep_row] at hown
  refine ⟨h.ends.kept hg (Or.inr (by simp [Value.ownBlock]; exact fun e => fE e.symm)), hown, fun s hs => ?_, by rw [hg.block P lP (Ne.symm fP)]; exact h.blk, h.farE, fun s hs => ?_, h.pos, h.below.grown hg h.below.size fun j hj => (h.elses.lt j hj).1⟩
  · cases hs
    rcases hat with e | e
    · intro e2
      exact fE (by rw [e]; exact congrArg some e2)
    · simp only
      omega
  · cases hs
    rcases hat with e | e
    · intro e2
      exact fP (by rw [e]; exact congrArg some e2)
    · simp only
      omega
theorem AM.done {g2 cg : Nat} (h : AM w wa P n k (k + 1) oE cE g c oS cS (some ⟨g2, 0, none⟩) cg o cap) : AS w ((wa.setCell ⟨P, 1, none⟩ (.slice (some ⟨g, 0, none⟩) (k + 1) c)).setCell ⟨P, 2, none⟩ (.slice (some ⟨g2, 0, none⟩) (k + 1) cg)) P n (k + 1) (some ⟨g, 0, none⟩) c (some ⟨g2, 0, none⟩) cg o cap := by
  have f2 := h.farS _ rfl
  simp only at f2
  refine ⟨ownsRow_setCell_other (ownsRow_setCell_other h.ends (by simp [Value.ownBlock]; exact h.farE) _) (by simp [Value.ownBlock]; exact h.farE) _, ownsRow_setCell_other (ownsRow_setCell_other h.elses (by simp [Value.ownBlock]; exact f2) _) (by simp [Value.ownBlock]; exact f2) _, ?_, ?_, ?_, h.farS, h.pos, (h.below.setCell h.pos _).setCell h.pos _⟩
  · intro a b ha hb
    cases ha
    exact (h.es b hb).symm
  · simp [World.setCell, Array.getElem?_modify, h.blk]
  · intro a ha
    cases ha
    exact h.farE
end
end Go.Proofs.YtkceplamaocmmaaGreatDoor
