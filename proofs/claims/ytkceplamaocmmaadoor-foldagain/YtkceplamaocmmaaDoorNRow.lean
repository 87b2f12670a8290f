/-
  A list of instructions that a call itself makes.
-/
import Derived.Test.YtkceplamaocmmaaDoorNRd1
namespace Go.Proofs.YtkceplamaocmmaaDoor
open Go.RowKit

theorem Tryd.infoIns : (Tryd.prog.info? 30).map (fun i => (i.zero, i.size, i.bytes)) = some (some (.agg #[.int .u8 0, .int .i64 0, .int .i64 0, .slice none 0 0]), 4, 48) := by kernel_rfl
/-- The cells of an instruction. -/
def InsD.cells (d : InsD) : List Value := [.int .u8 d.op, .int .i64 d.A, .int .i64 d.B, .slice d.o d.n d.cap]
def cellsOf (L : List InsD) : List Value := L.flatMap InsD.cells
theorem cellsOf_app (L : List InsD) (d : InsD) : cellsOf (L ++ [d]) = cellsOf L ++ d.cells := by
  unfold cellsOf
  simp
theorem cellsOf_at : ∀ (L : List InsD) (i r : Nat) (h : i < L.length), r < 4 → (cellsOf L)[i * 4 + r]? = (L[i]).cells[r]?
  | [], i, r, h, _ => absurd h (by simp)
  | d :: L, 0, r, h, hr => by
    unfold cellsOf
    rw [List.flatMap_cons, List.getElem?_append_left (by simp [InsD.cells]; omega)]
    simp
  | d :: L, i + 1, r, h, hr => by
    have h2 : i < L.length := by simpa using h
    have := cellsOf_at L i r h2 hr
    unfold cellsOf at this ⊢
    rw [List.flatMap_cons, List.getElem?_append_right (by simp [InsD.cells]; omega)]
    rw [show (i + 1) * 4 + r - d.cells.length = i * 4 + r by simp [InsD.cells]; omega, this]
    simp
/-- A list of k instructions in a row of its own; their numbers lie in rows of numbers. -/
structure IR (w : World) (B : Nat) (o : Option Addr) (k cap : Nat) (L : List InsD) : Prop where
  own : w.ownsRow B 30 4 (.slice o k cap) k (cellsOf L)
  len : L.length = k
  ok : ∀ d ∈ L, d.ok w
  ty : ∀ d ∈ L, 0 < d.n → ∃ (g : Addr) (cur : Array Value) (f : Nat × Nat), d.o = some g ∧ w.heap[g.block]? = some (.cells cur 2 f)
theorem ok_keep {w w' : World} {d : InsD} (h : d.ok w) (hs : w.heap.size ≤ w'.heap.size) (hk : 0 < d.n → ∀ g, d.o = some g → w'.heap[g.block]? = w.heap[g.block]?) : d.ok w' := by
  refine ⟨h.op0, h.op1, h.a, h.cap, h.most, ?_, h.nil⟩
  obtain ⟨h1, h2⟩ := h.lj
  refine ⟨h1, ?_⟩
  rcases h2 with h2 | ⟨a, ha, hb, hc⟩
  · exact Or.inl h2
  · rcases Nat.eq_zero_or_pos d.n with h0 | h0
    · exact Or.inl h0
    · refine Or.inr ⟨a, ha, Nat.lt_of_lt_of_le hb hs, fun i hi => ?_⟩
      rw [World.cell?_of_block (w := w) (by rw [add_block]; exact hk h0 a ha)]
      exact hc i hi
theorem IR.nil (w : World) (B : Nat) : IR w B none 0 0 [] := ⟨World.ownsRow_nil _ _ _ _, rfl, by simp, by simp⟩
/-- What turns neither rows of numbers nor the list's own row keeps the list. -/
theorem IR.keep {w w' : World} {B k cap : Nat} {o : Option Addr} {L : List InsD} (h : IR w B o k cap L) (hs : w.heap.size ≤ w'.heap.size) (h2 : ∀ (j : Nat) (cur : Array Value) (f : Nat × Nat), w.heap[j]? = some (.cells cur 2 f) → w'.heap[j]? = w.heap[j]?) (h52 : ∀ (j : Nat) (cur : Array Value) (f : Nat × Nat), w.heap[j]? = some (.cells cur 30 f) → w'.heap[j]? = w.heap[j]?) : IR w' B o k cap L := by
  refine ⟨⟨h.own.1, ?_⟩, h.len, fun d hd => ok_keep (h.ok d hd) hs fun h0 g hg => ?_, fun d hd h0 => ?_⟩
  · rcases h.own.2 with hn | ⟨g, c, cur, hv, hb, hg, rest⟩
    · exact Or.inl hn
    · exact Or.inr ⟨g, c, cur, hv, hb, by rw [h52 g cur _ hg]; exact hg, rest⟩
  · obtain ⟨g', cur, f, e, hc⟩ := h.ty d hd h0
    rw [hg] at e
    cases e
    exact h2 _ _ _ hc
  · obtain ⟨g', cur, f, e, hc⟩ := h.ty d hd h0
    exact ⟨g', cur, f, e, by rw [h2 _ _ _ hc]; exact hc⟩
theorem some_lt {w : World} {j : Nat} {x : Obj} (h : w.heap[j]? = some x) : j < w.heap.size := (Array.getElem?_eq_some_iff.1 h).1
theorem IR.under {w w' : World} {B k cap : Nat} {o : Option Addr} {L : List InsD} (h : IR w B o k cap L) (b : Below w.heap.size w w') : IR w' B o k cap L :=
  h.keep b.size (fun j _ _ hj => b.block j (some_lt hj)) (fun j _ _ hj => b.block j (some_lt hj))
theorem IR.capm {w : World} {B k cap : Nat} {o : Option Addr} {L : List InsD} (h : IR w B o k cap L) : k ≤ cap ∧ cap ≤ maxLen := by
  rcases h.own.2 with ⟨h1, h2⟩ | ⟨g, c, cur, h1, _, _, h2, h3, _⟩
  · simp only [Value.slice.injEq] at h1
    unfold maxLen
    omega
  · simp only [Value.slice.injEq] at h1
    omega
theorem IR.LD {w : World} {B k cap : Nat} {o : Option Addr} {L : List InsD} (h : IR w B o k cap L) : LD w o L := by
  refine ⟨h.ok, ?_⟩
  rcases Nat.eq_zero_or_pos k with h0 | h0
  · left
    have := h.len
    rw [h0] at this
    exact List.length_eq_zero_iff.1 this
  · right
    obtain ⟨g, c, hv, _, hg⟩ := h.own.form h0
    simp only [Value.slice.injEq] at hv
    obtain ⟨rfl, _, rfl⟩ := hv
    refine ⟨g, 0, rfl, hg, fun i hi => ?_⟩
    have hik : i < k := by rw [← h.len]; exact hi
    have q : ∀ r, r < 4 → w.cell? ⟨g, 0 + i * 4 + r, none⟩ = (L[i]).cells[r]? := fun r hr => by
      rw [← cellsOf_at L i r hi hr, ← h.own.cellAt (i * 4 + r) (by omega), Nat.zero_add]
    exact ⟨q 0 (by omega), q 1 (by omega), q 2 (by omega), q 3 (by omega)⟩
/-- One more behind them. -/
theorem IR.app {w w1 : World} {B k cap g c : Nat} {o : Option Addr} {L : List InsD} {d : InsD} (h : IR w B o k cap L) (hd : d.ok w) (ht : 0 < d.n → ∃ (g : Addr) (cur : Array Value) (f : Nat × Nat), d.o = some g ∧ w.heap[g.block]? = some (.cells cur 2 f))
    (hown : w1.ownsRow B 30 4 (.slice (some ⟨g, 0, none⟩) (k + 1) c) (k + 1) (cellsOf L ++ d.cells)) (hg : w.grownBy w1 (Value.slice o k cap).ownBlock) : IR w1 B (some ⟨g, 0, none⟩) (k + 1) c (L ++ [d]) := by
  have far : ∀ (j : Nat) (cur : Array Value) (f : Nat × Nat), w.heap[j]? = some (.cells cur 2 f) → some j ≠ (Value.slice o k cap).ownBlock := by
    intro j cur f hj e
    rcases h.own.2 with ⟨h1, _⟩ | ⟨g, c, cur, h1, _, h3, _⟩
    · rw [h1] at e
      simp [Value.ownBlock] at e
    · rw [h1] at e
      simp only [Value.ownBlock, Option.some.injEq] at e
      rw [e, h3] at hj
      simp at hj
  have keep : ∀ (j : Nat) (cur : Array Value) (f : Nat × Nat), w.heap[j]? = some (.cells cur 2 f) → w1.heap[j]? = w.heap[j]? := fun j cur f hj => hg.block j (some_lt hj) (far j cur f hj)
  refine ⟨by rw [cellsOf_app]; exact hown, by simp [h.len], fun x hx => ?_, fun x hx h0 => ?_⟩
  · have hx2 : x.ok w ∧ (0 < x.n → ∃ (g : Addr) (cur : Array Value) (f : Nat × Nat), x.o = some g ∧ w.heap[g.block]? = some (.cells cur 2 f)) := by
      rw [List.mem_append, List.mem_singleton] at hx
      rcases hx with hx | rfl
      · exact ⟨h.ok x hx, h.ty x hx⟩
      · exact ⟨hd, ht⟩
    refine ok_keep hx2.1 hg.size fun h0 a ha => ?_
    obtain ⟨g', cur, f, e, hc⟩ := hx2.2 h0
    rw [ha] at e
    cases e
    exact keep _ _ _ hc
  · have hx2 : 0 < x.n → ∃ (g : Addr) (cur : Array Value) (f : Nat × Nat), x.o = some g ∧ w.heap[g.block]? = some (.cells cur 2 f) := by
      rw [List.mem_append, List.mem_singleton] at hx
      rcases hx with hx | rfl
      · exact h.ty x hx
      · exact ht
    obtain ⟨g', cur, f, e, hc⟩ := hx2 h0
    exact ⟨g', cur, f, e, by rw [keep _ _ _ hc]; exact hc⟩
theorem NS.off {w : World} {B P j : Nat} {bs : List Int} {e : Bool} (h : NS w B P bs e) {cur : Array Value} {t : TypeId} {f : Nat × Nat} (hj : w.heap[j]? = some (.cells cur t f)) (h1 : t ≠ 39) (h2 : t ≠ 5) : j ≠ P ∧ ob w P ≠ some j := by
  obtain ⟨o, cap, hP, hr, _⟩ := h
  constructor
  · intro e
    rw [e, hP] at hj
    simp only [Option.some.injEq, Obj.cells.injEq] at hj
    exact h1 hj.2.1.symm
  · rw [ob_of hP]
    intro e
    rcases hr.2 with ⟨hv, _⟩ | ⟨g, c, cu, hv, _, hg, _⟩
    · rw [hv] at e
      simp [Value.ownBlock] at e
    · rw [hv] at e
      simp only [Value.ownBlock, Option.some.injEq] at e
      rw [← e, hg] at hj
      simp only [Option.some.injEq, Obj.cells.injEq] at hj
      exact h2 hj.2.1.symm
theorem NK.typed {w w' : World} {B P j : Nat} {bs : List Int} {e : Bool} (k : NK P w w') (h : NS w B P bs e) {cur : Array Value} {t : TypeId} {f : Nat × Nat} (hj : w.heap[j]? = some (.cells cur t f)) (h1 : t ≠ 39) (h2 : t ≠ 5) : w'.heap[j]? = w.heap[j]? :=
  k.block j (some_lt hj) (h.off hj h1 h2).1 (h.off hj h1 h2).2
theorem IR.step {w w' : World} {B P k cap : Nat} {o : Option Addr} {L : List InsD} {bs : List Int} {e : Bool} (h : IR w B o k cap L) (hn : NS w B P bs e) (hk : NK P w w') : IR w' B o k cap L :=
  h.keep hk.size (fun _ _ _ hj => hk.typed hn hj (by decide) (by decide)) (fun _ _ _ hj => hk.typed hn hj (by decide) (by decide))
/-- The nesting stays where the list grows. -/
theorem NS.grown {w w1 : World} {B P k cap : Nat} {o : Option Addr} {L : List InsD} {bs : List Int} {e : Bool} (hn : NS w B P bs e) (h : IR w B o k cap L) (hg : w.grownBy w1 (Value.slice o k cap).ownBlock) : NS w1 B P bs e := by
  have far : ∀ j, (Value.slice o k cap).ownBlock = some j → j ≠ P ∧ ob w P ≠ some j := by
    intro j e
    rcases h.own.2 with ⟨h1, _⟩ | ⟨g, c, cur, h1, _, h3, _⟩
    · rw [h1] at e
      simp [Value.ownBlock] at e
    · rw [h1] at e
      simp only [Value.ownBlock, Option.some.injEq] at e
      rw [e] at h3
      exact hn.off h3 (by decide) (by decide)
  have hP := hn.lt
  obtain ⟨o', cap', h1, h2, h3, h4⟩ := hn
  refine ⟨o', cap', ?_, h2.kept hg ?_, h3, h4⟩
  · rw [hg.block P hP fun e => (far P e.symm).1 rfl]
    exact h1
  · rw [ob_of h1] at far
    cases hv : (Value.slice o' bs.length cap').ownBlock with
    | none => exact Or.inl rfl
    | some g =>
      right
      intro e
      exact (far g (e ▸ rfl)).2 hv
/-- What is read is an instruction. -/
theorem IsI.ins {w : World} {B : Nat} {v : Value} {xs : List Int} {op A B' : Int} (h : IsI w B v xs) (h0 : 0 ≤ op) (h1 : op ≤ 255) (hA : -9223372036854775808 ≤ A ∧ A ≤ 9223372036854775807) (hx : xs.length ≤ 1000) : ∃ o, v = .slice o xs.length xs.length ∧ InsD.ok w ⟨op, A, B', o, xs.length, xs.length, xs⟩ ∧ (0 < xs.length → ∃ (g : Addr) (cur : Array Value) (f : Nat × Nat), o = some g ∧ w.heap[g.block]? = some (.cells cur 2 f)) := by
  rcases h with ⟨rfl, rfl⟩ | ⟨g, rfl, hg⟩
  · exact ⟨none, rfl, ⟨h0, h1, hA, Nat.le_refl _, by unfold maxLen; simp, ⟨rfl, Or.inl rfl⟩, fun _ => rfl⟩, fun h => absurd h (by simp)⟩
  · refine ⟨some ⟨g, 0, none⟩, rfl, ⟨h0, h1, hA, Nat.le_refl _, by unfold maxLen; simp only; omega, ⟨rfl, ?_⟩, by simp⟩, fun _ => ?_⟩
    · rcases Nat.eq_zero_or_pos xs.length with h0 | h0
      · exact Or.inl h0
      · right
        refine ⟨⟨g, 0, none⟩, rfl, (hg.lt g rfl).2, fun i hi => ?_⟩
        have := hg.cells (g := g) rfl i (.int .i64 (xs.getD i 0)) (by
          simp only at hi
          rw [List.getElem?_map, List.getElem?_eq_getElem hi, List.getD_eq_getElem?_getD, List.getElem?_eq_getElem hi]
          rfl)
        exact this
    · rcases hg.2 with ⟨hv, _⟩ | ⟨g', c, cur, hv, _, h3, _⟩
      · simp at hv
      · simp only [Value.slice.injEq, Option.some.injEq, Addr.mk.injEq, and_true] at hv
        obtain ⟨rfl, _⟩ := hv
        exact ⟨_, cur, _, rfl, h3⟩

end Go.Proofs.YtkceplamaocmmaaDoor
