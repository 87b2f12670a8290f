/-
  Lists of numbers and of parts that are handed in, opened.
-/
import Derived.Test.YtfmmefmpjejioaaOpenL
namespace Go.Proofs.Ytfmmefmpjejioaa
open Go.ChangeShapes Go.WideShapes Go.ChangeAt Go.RowKit Go.Deep

/-- A list of numbers in memory. -/
structure NumD where
  o : Option Addr
  n : Nat
  cap : Nat
  xs : List Int
def NumD.v (d : NumD) : Value := .slice d.o d.n d.cap
structure NumD.ok (k : IntKind) (w : World) (d : NumD) : Prop where
  le : d.n ≤ d.cap
  most : d.cap ≤ maxLen
  len : d.xs.length = d.n
  nil : d.o = none → d.cap = 0
  wf : ∀ x ∈ d.xs, (Lit.int k x).wf = true
  at' : d.n = 0 ∨ ∃ a : Addr, d.o = some a ∧ a.block < w.heap.size ∧ ∀ i, i < d.n → w.cell? (a.add i) = some (.int k (d.xs.getD i 0))
theorem NumD.ok.below {k : IntKind} {w w' : World} {d : NumD} (h : d.ok k w) (b : Below w.heap.size w w') : d.ok k w' := by
  refine ⟨h.le, h.most, h.len, h.nil, h.wf, ?_⟩
  rcases h.at' with h0 | ⟨a, h1, h2, h3⟩
  · exact Or.inl h0
  · refine Or.inr ⟨a, h1, Nat.lt_of_lt_of_le h2 b.size, fun i hi => ?_⟩
    rw [b.cell (p := a.add i) (by rw [add_block]; exact h2)]
    exact h3 i hi
/-- A list of parts in memory, each of so many cells. -/
structure RowsOf {α : Type} (w : World) (k : Nat) (cs : α → List Value) (ok : World → α → Prop) (o : Option Addr) (cap : Nat) (L : List α) : Prop where
  le : L.length ≤ cap
  most : cap ≤ maxLen
  nil : o = none → cap = 0
  all : ∀ d ∈ L, ok w d
  at' : L = [] ∨ ∃ b f, o = some ⟨b, f, none⟩ ∧ b < w.heap.size ∧ ∀ i (h : i < L.length) r, r < k → w.cell? ⟨b, f + i * k + r, none⟩ = (cs (L[i]))[r]?
theorem RowsOf.below {α : Type} {w w' : World} {k : Nat} {cs : α → List Value} {ok : World → α → Prop} {o : Option Addr} {cap : Nat} {L : List α} (hok : ∀ d, ok w d → ok w' d) (h : RowsOf w k cs ok o cap L) (b : Below w.heap.size w w') : RowsOf w' k cs ok o cap L := by
  refine ⟨h.le, h.most, h.nil, fun d hd => hok d (h.all d hd), ?_⟩
  rcases h.at' with h0 | ⟨bb, f, h1, h2, h3⟩
  · exact Or.inl h0
  · refine Or.inr ⟨bb, f, h1, Nat.lt_of_lt_of_le h2 b.size, fun i hi r hr => ?_⟩
    rw [b.cell (p := ⟨bb, f + i * k + r, none⟩) h2]
    exact h3 i hi r hr
section
variable {H : Type} {enc : TypeId × Value → H} {W : World}
theorem open_nums {k : IntKind} {t e : TypeId} {fuel : Nat} {c : Value} {x : DataW H × List MemPlace} (ht : Try.prog.underlying t = some (.slice e)) (he : Try.prog.underlying e = some (.int k)) (hc : Try.prog.cellsOf e = 1)
    (hf : DataW.trod enc Try.prog W 0 (fun _ => true) true fuel t [c] = some x) : ∃ d : NumD, c = d.v ∧ d.ok k W := by
  rcases open_ints ht he hc hf with ⟨e3, _⟩ | ⟨ad, len, cap, zs, e3, _, hlc, hcm, hzl, _, hcell, hwf⟩
  · simp only [List.cons.injEq, and_true] at e3
    subst e3
    exact ⟨⟨none, 0, 0, []⟩, rfl, ⟨Nat.le_refl _, Nat.zero_le _, rfl, fun _ => rfl, fun x hx => by (cases hx), Or.inl rfl⟩⟩
  · simp only [List.cons.injEq, and_true] at e3
    subst e3
    have hzlen : len ≤ zs.length := by
      rw [hzl]
      split <;> omega
    refine ⟨⟨some ad, len, cap, zs.take len⟩, rfl, ⟨hlc, hcm, by simp; omega, fun h => by (cases h), fun x hx => hwf x (List.mem_of_mem_take hx), ?_⟩⟩
    by_cases hl0 : len = 0
    · exact Or.inl hl0
    · refine Or.inr ⟨ad, rfl, ?_, fun i hi => ?_⟩
      · have hc := hcell 0 (by omega)
        apply Nat.lt_of_not_le
        intro hle
        have : W.heap[(ad.add 0).block]? = none := by
          rw [add_block]
          exact Array.getElem?_eq_none hle
        simp [World.cell?, this] at hc
      · rw [hcell i (by have : i < len := hi; omega), List.getD_eq_getElem?_getD, List.getD_eq_getElem?_getD, List.getElem?_take_of_lt hi]
theorem open_rows {α : Type} [Inhabited α] {t e : TypeId} (k : Nat) (hk : 0 < k) (ht : Try.prog.underlying t = some (.slice e)) (hc : Try.prog.cellsOf e = k) (cs : α → List Value) (ok : World → α → Prop) (hl : ∀ a, (cs a).length = k)
    (ho : ∀ (fuel : Nat) (l : List Value) (x : DataW H × List MemPlace), l.length = k → DataW.trod enc Try.prog W 0 (fun _ => true) true fuel e l = some x → ∃ a, l = cs a ∧ ok W a)
    {fuel : Nat} {c : Value} {x : DataW H × List MemPlace} (hf : DataW.trod enc Try.prog W 0 (fun _ => true) true fuel t [c] = some x) :
    ∃ (o : Option Addr) (cap : Nat) (L : List α), c = .slice o L.length cap ∧ RowsOf W k cs ok o cap L := by
  rcases open_slice ht hf with ⟨e, _⟩ | ⟨a, len0, cap0, m, n, D, Pl, e, _, hlc, hcm, hm, _, hall⟩
  · simp only [List.cons.injEq, and_true] at e
    subst e
    exact ⟨none, 0, [], rfl, ⟨by simp, by unfold maxLen; omega, fun _ => rfl, by simp, Or.inl rfl⟩⟩
  · simp only [List.cons.injEq, and_true] at e
    subst e
    rw [hc] at hall
    have hm2 : len0 ≤ m := by rw [hm]; split <;> omega
    obtain ⟨Dd, hD⟩ := choose_lt (α := α) (n := len0) (p := fun i d => (∀ r, r < k → W.cell? ((a.add (i * k)).add r) = (cs d)[r]?) ∧ ok W d) (fun i hi => by
      obtain ⟨cs', h1, h2⟩ := hall i (by omega)
      obtain ⟨_, hl', hc'⟩ := World.cells?_some h1
      obtain ⟨d, rfl, hok⟩ := ho _ _ _ hl' h2
      exact ⟨d, fun r hr => hc' r hr, hok⟩)
    have hL : ((List.range len0).map Dd).length = len0 := by simp
    have hget : ∀ i (h : i < ((List.range len0).map Dd).length), ((List.range len0).map Dd)[i] = Dd i := by intro i h; simp
    refine ⟨some a, cap0, (List.range len0).map Dd, by rw [hL], ⟨by rw [hL]; exact hlc, hcm, fun h => by (cases h), ?_, ?_⟩⟩
    · intro d hd
      obtain ⟨i, hi, rfl⟩ := List.mem_map.1 hd
      exact (hD i (by simpa using hi)).2
    · by_cases h0 : len0 = 0
      · left
        subst h0
        rfl
      · right
        obtain ⟨b, f, sp⟩ := a
        have hc0 := (hD 0 (by omega)).1 0 hk
        rw [List.getElem?_eq_getElem (by rw [hl]; exact hk)] at hc0
        have hsp : sp = none := by simpa [Addr.add] using World.cell?_spot hc0
        subst hsp
        have hadd : ∀ k : Nat, (⟨b, f, none⟩ : Addr).add k = ⟨b, f + k, none⟩ := by intro k; unfold Addr.add; split <;> simp_all
        have hadd2 : ∀ k j : Nat, ((⟨b, f, none⟩ : Addr).add k).add j = ⟨b, f + k + j, none⟩ := by
          intro k j
          rw [hadd]
          unfold Addr.add
          split <;> simp_all
        refine ⟨b, f, rfl, ?_, fun i hi r hr => ?_⟩
        · apply Nat.lt_of_not_le
          intro hle
          have : W.heap[b]? = none := Array.getElem?_eq_none hle
          rw [hadd2] at hc0
          simp [World.cell?, this] at hc0
        · rw [hget i hi]
          have := (hD i (by rw [hL] at hi; exact hi)).1 r hr
          rw [hadd2] at this
          exact this
end
section
variable {H : Type} {enc : TypeId × Value → H} {W : World}
end

end Go.Proofs.Ytfmmefmpjejioaa
