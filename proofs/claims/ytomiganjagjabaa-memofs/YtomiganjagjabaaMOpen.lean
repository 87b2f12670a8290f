/-
  A list of steps that is handed in, opened.
-/
import Derived.Test.YtomiganjagjabaaMS4
import Derived.ProofKit
import Derived.OpenShut
import Derived.ChangeSlices
import Derived.Deep.Slices
namespace Go.Proofs.Ytomiganjagjabaa
open Go.ChangeShapes Go.WideShapes Go.ChangeAt Go.RowKit Go.Deep

/-- A list of parts in memory, each of so many cells. -/
structure RowsOf {α : Type} (w : World) (k : Nat) (cs : α → List Value) (ok : World → α → Prop) (o : Option Addr) (cap : Nat) (L : List α) : Prop where
  le : L.length ≤ cap
  most : cap ≤ maxLen
  nil : o = none → cap = 0
  all : ∀ d ∈ L, ok w d
  at' : L = [] ∨ ∃ b f, o = some ⟨b, f, none⟩ ∧ b < w.heap.size ∧ ∀ i (h : i < L.length) r, r < k → w.cell? ⟨b, f + i * k + r, none⟩ = (cs (L[i]))[r]?
theorem RowsOf.below {α : Type} {w w' : World} {k : Nat} {cs : α → List Value} {ok : World → α → Prop} {o : Option Addr} {cap : Nat} {L : List α} (hok : ∀ d, ok w d → ok w' d) (h : RowsOf w k cs ok o cap L) (b : Below w.heap.size w w') : RowsOf w' k cs ok o cap L := by
  refine ⟨h.le, h.most, h.nil, fun d hd => hok d (h.all d hd), ?_⟩
  rcases h.at' with h0 | ⟨bb, f, h1, h2, h3⟩
  · exact Or.inl h0
  · refine Or.inr ⟨bb, f, h1, Nat.lt_of_lt_of_le h2 b.size, fun i hi r hr => ?_⟩
    rw [b.cell (p := ⟨bb, f + i * k + r, none⟩) h2]
    exact h3 i hi r hr
section
variable {H : Type} {enc : TypeId × Value → H} {W : World}
theorem open_rows {α : Type} [Inhabited α] {t e : TypeId} (k : Nat) (hk : 0 < k) (ht : Try.prog.underlying t = some (.slice e)) (hc : Try.prog.cellsOf e = k) (cs : α → List Value) (ok : World → α → Prop) (hl : ∀ a, (cs a).length = k)
    (ho : ∀ (fuel : Nat) (l : List Value) (x : DataW H × List MemPlace), l.length = k → DataW.trod enc Try.prog W 0 (fun _ => true) true fuel e l = some x → ∃ a, l = cs a ∧ ok W a)
    {fuel : Nat} {c : Value} {x : DataW H × List MemPlace} (hf : DataW.trod enc Try.prog W 0 (fun _ => true) true fuel t [c] = some x) :
    ∃ (o : Option Addr) (cap : Nat) (L : List α), c = .slice o L.length cap ∧ RowsOf W k cs ok o cap L := by
  rcases open_slice ht hf with ⟨e, _⟩ | ⟨a, len0, cap0, m, n, D, Pl, e, _, hlc, hcm, hm, _, hall⟩
  · simp only [List.cons.injEq, and_true] at e
    subst e
    exact ⟨none, 0, [], rfl, ⟨by simp, by unfold maxLen; omega, fun _ => rfl, by simp, Or.inl rfl⟩⟩
  · simp only [List.cons.injEq, and_true] at e
    subst e
    rw [hc] at hall
    have hm2 : len0 ≤ m := by rw [hm]; split <;> omega
    obtain ⟨Dd, hD⟩ := choose_lt (α := α) (n := len0) (p := fun i d => (∀ r, r < k → W.cell? ((a.add (i * k)).add r) = (cs d)[r]?) ∧ ok W d) (fun i hi => by
      obtain ⟨cs', h1, h2⟩ := hall i (by omega)
      obtain ⟨_, hl', hc'⟩ := World.cells?_some h1
      obtain ⟨d, rfl, hok⟩ := ho _ _ _ hl' h2
      exact ⟨d, fun r hr => hc' r hr, hok⟩)
    have hL : ((List.range len0).map Dd).length = len0 := by simp
    have hget : ∀ i (h : i < ((List.range len0).map Dd).length), ((List.range len0).map Dd)[i] = Dd i := by intro i h; simp
    refine ⟨some a, cap0, (List.range len0).map Dd, by rw [hL], ⟨by rw [hL]; exact hlc, hcm, fun h => by (cases h), ?_, ?_⟩⟩
    · intro d hd
      obtain ⟨i, hi, rfl⟩ := List.mem_map.1 hd
      exact (hD i (by simpa using hi)).2
    · by_cases h0 : len0 = 0
      · left
        subst h0
        rfl
      · right
        obtain ⟨b, f, sp⟩ := a
        have hc0 := (hD 0 (by omega)).1 0 hk
        rw [List.getElem?_eq_getElem (by rw [hl]; exact hk)] at hc0
        have hsp : sp = none := by simpa [Addr.add] using World.cell?_spot hc0
        subst hsp
        have hadd : ∀ k : Nat, (⟨b, f, none⟩ : Addr).add k = ⟨b, f + k, none⟩ := by intro k; unfold Addr.add; split <;> simp_all
        have hadd2 : ∀ k j : Nat, ((⟨b, f, none⟩ : Addr).add k).add j = ⟨b, f + k + j, none⟩ := by
          intro k j
          rw [hadd]
          unfold Addr.add
          split <;> simp_all
        refine ⟨b, f, rfl, ?_, fun i hi r hr => ?_⟩
        · apply Nat.lt_of_not_le
          intro hle
          have : W.heap[b]? = none := Array.getElem?_eq_none hle
          rw [hadd2] at hc0
          simp [World.cell?, this] at hc0
        · rw [hget i hi]
          have := (hD i (by rw [hL] at hi; exact hi)).1 r hr
          rw [hadd2] at this
          exact this
end
/-- A step as it lies there. -/
structure StepD where
  kind : Int
  op : Nat
  x : Int
  y : Int
  v : Int
  s : ByteArray
structure StepD.ok (d : StepD) : Prop where
  op8 : d.op < 256
  x63 : d.x ≤ 9223372036854775807
def StepD.cs (d : StepD) : List Value := [.int .i64 d.kind, .int .u8 (d.op : Int), .int .i64 d.x, .int .i64 d.y, .int .i64 d.v, .string d.s]
theorem list_six {α : Type} : ∀ (l : List α), l.length = 6 → ∃ a b c d e f, l = [a, b, c, d, e, f]
  | [a, b, c, d, e, f], _ => ⟨a, b, c, d, e, f, rfl⟩
theorem cellsStep : Try.prog.cellsOf 31 = 6 := by kernel_rfl
theorem cellsI : Try.prog.cellsOf 3 = 1 := by kernel_rfl
theorem cellsI64' : Try.prog.cellsOf 2 = 1 := by kernel_rfl
theorem cellsU8' : Try.prog.cellsOf 5 = 1 := by kernel_rfl
theorem cellsStr : Try.prog.cellsOf 9 = 1 := by kernel_rfl
set_option maxHeartbeats 400000 in
set_option maxRecDepth 100000 in
theorem open_stepC {H : Type} {enc : TypeId × Value → H} {W : World} {fuel : Nat} {c0 c1 c2 c3 c4 c5 : Value} {x : DataW H × List MemPlace} (hf : DataW.trod enc Try.prog W 0 (fun _ => true) true fuel 31 [c0, c1, c2, c3, c4, c5] = some x) :
    ∃ d : StepD, [c0, c1, c2, c3, c4, c5] = d.cs ∧ d.ok := by
  obtain ⟨ys, m, _, hx, _, hyl, hall⟩ := DataW.trod_struct Try.underlying31 hf
  obtain ⟨y0, y1, y2, y3, y4, y5, rfl⟩ := list_six ys hyl
  have g0 := hall 0 _ rfl
  have g1 := hall 1 _ rfl
  have g2 := hall 2 _ rfl
  have g3 := hall 3 _ rfl
  have g4 := hall 4 _ rfl
  have g5 := hall 5 _ rfl
  simp [cellsU8', cellsI64', cellsI, cellsStr] at g0 g1 g2 g3 g4 g5
  obtain ⟨kind, e0, _, _⟩ := DataW.trod_int Try.underlying3 g0
  obtain ⟨op, e1, _, wo⟩ := DataW.trod_int Try.underlying5 g1
  obtain ⟨a, e2, _, wA⟩ := DataW.trod_int Try.underlying2 g2
  obtain ⟨b, e3, _, _⟩ := DataW.trod_int Try.underlying2 g3
  obtain ⟨v, e4, _, _⟩ := DataW.trod_int Try.underlying2 g4
  obtain ⟨s, e5, _, _⟩ := DataW.trod_string Try.underlying9 g5
  simp only [List.cons.injEq, and_true] at e0 e1 e2 e3 e4 e5
  subst e0 e1 e2 e3 e4 e5
  have bo := bounds_u8 wo
  have bA := bounds_i64 wA
  refine ⟨⟨kind, op.toNat, a, b, v, s⟩, ?_, ⟨?_, bA.2⟩⟩
  · have : ((op.toNat : Nat) : Int) = op := by omega
    simp [StepD.cs, this]
  · show op.toNat < 256
    omega
instance : Inhabited StepD := ⟨⟨0, 0, 0, 0, 0, ByteArray.empty⟩⟩
/-- A list of steps as it lies there. -/
def StepsD (w : World) (o : Option Addr) (cap : Nat) (L : List StepD) : Prop := RowsOf w 6 StepD.cs (fun _ d => d.ok) o cap L
theorem open_steps {H : Type} {enc : TypeId × Value → H} {W : World} {fuel : Nat} {c : Value} {x : DataW H × List MemPlace} (hf : DataW.trod enc Try.prog W 0 (fun _ => true) true fuel 22 [c] = some x) : ∃ (o : Option Addr) (cap : Nat) (L : List StepD), c = .slice o L.length cap ∧ StepsD W o cap L := by
  obtain ⟨o, cap, L, rfl, h⟩ := open_rows (α := StepD) (enc := enc) (W := W) 6 (by omega) Try.underlying22 cellsStep StepD.cs (fun _ d => d.ok) (fun _ => rfl) (fun fuel l x hl hf => by
    obtain ⟨c0, c1, c2, c3, c4, c5, rfl⟩ := list_six l hl
    exact open_stepC hf) hf
  exact ⟨o, cap, L, rfl, h⟩
theorem open_stepsV {H : Type} {enc : TypeId × Value → H} {W : World} {base : Nat} {v0 : Value} {d0 : DataW H} {p0 : List MemPlace} (hv : Value.okWide Try.prog W .any base 22 v0) (h0 : DataW.Trod enc Try.prog W 0 (fun _ => true) true 22 v0 d0 p0) :
    ∃ (o : Option Addr) (cap : Nat) (L : List StepD), v0 = .slice o L.length cap ∧ StepsD W o cap L := by
  obtain ⟨a0, len0, cap0, rfl⟩ := okWide_slice Try.underlying22 hv
  obtain ⟨fuel, hf⟩ := h0
  exact open_steps hf
end Go.Proofs.Ytomiganjagjabaa
