/-
 A list of instructions that is handed in, opened.
 Lists of numbers and of parts that are handed in, opened.
 A module that is handed in, opened.
-/
import Derived.Test.YtlfihndbnaaodaaGreatDoorIGNst
import Derived.ProofKit
import Derived.OpenShut
import Derived.ChangeSlices
import Derived.Deep.Slices
set_option maxHeartbeats 1000000
set_option maxRecDepth 100000
namespace Go.Proofs.YtlfihndbnaaodaaGreatDoor
set_option linter.unusedVariables false
open Go.ChangeShapes Go.WideShapes Go.ChangeAt Go.RowKit Go.Deep
theorem cellsIns : Tryz.prog.cellsOf 53 = 4 := by kernel_rfl
theorem cellsI64s : Tryz.prog.cellsOf 51 = 1 := by kernel_rfl
theorem cellsU8 : Tryz.prog.cellsOf 5 = 1 := by kernel_rfl
theorem cellsI64 : Tryz.prog.cellsOf 2 = 1 := by kernel_rfl
theorem list_four {α : Type} : ∀ (l : List α), l.length = 4 → ∃ a b c d, l = [a, b, c, d]
 | [a, b, c, d], _ => ⟨a, b, c, d, rfl⟩
theorem open_insC {H : Type} {enc : TypeId × Value → H} {W : World} {fuel : Nat} {c0 c1 c2 c3 : Value} {x : DataW H × List MemPlace} (hf : DataW.trod enc Tryz.prog W 0 (fun _ => true) true fuel 53 [c0, c1, c2, c3] = some x) :
  ∃ d : InsD, c0 = .int .u8 d.op ∧ c1 = .int .i64 d.A ∧ c2 = .int .i64 d.B ∧ c3 = .slice d.o d.n d.cap ∧ d.ok W := by
 obtain ⟨ys, m, _, hx, _, hyl, hall⟩ := DataW.trod_struct Tryz.underlying53 hf
 obtain ⟨y0, y1, y2, y3, rfl⟩ := list_four ys hyl
 have g0 := hall 0 _ rfl
 have g1 := hall 1 _ rfl
 have g2 := hall 2 _ rfl
 have g3 := hall 3 _ rfl
 simp [cellsU8, cellsI64, cellsI64s] at g0 g1 g2 g3
 obtain ⟨op, e0, _, wo⟩ := DataW.trod_int Tryz.underlying5 g0
 obtain ⟨A, e1, _, wA⟩ := DataW.trod_int Tryz.underlying2 g1
 obtain ⟨B, e2, _, wB⟩ := DataW.trod_int Tryz.underlying2 g2
 simp only [List.cons.injEq, and_true] at e0 e1 e2
 subst e0 e1 e2
 have bo := bounds_u8 wo
 have bA := bounds_i64 wA
 rcases open_ints Tryz.underlying51 Tryz.underlying2 cellsI64 g3 with ⟨e3, _⟩ | ⟨ad, len, cap, zs, e3, _, hlc, hcm, hzl, _, hcell, _⟩
 ·simp only [List.cons.injEq, and_true] at e3
  subst e3
  exact ⟨⟨op, A, B, none, 0, 0, []⟩, rfl, rfl, rfl, rfl, ⟨bo.1, bo.2, bA, Nat.le_refl _, Nat.zero_le _, ⟨rfl, Or.inl rfl⟩, fun _ => rfl⟩⟩
 ·simp only [List.cons.injEq, and_true] at e3
  subst e3
  have hzlen : len ≤ zs.length := by
   rw [hzl]
   split <;> omega
  refine ⟨⟨op, A, B, some ad, len, cap, zs.take len⟩, rfl, rfl, rfl, rfl, ⟨bo.1, bo.2, bA, hlc, hcm, ⟨by simp; omega, ?_⟩, fun h => by cases h⟩⟩
  by_cases hl0 : len = 0
  ·exact Or.inl hl0
  ·refine Or.inr ⟨ad, rfl, ?_, fun i hi => ?_⟩
   ·have hc := hcell 0 (by omega)
    apply Nat.lt_of_not_le
    intro hle
    have : W.heap[(ad.add 0).block]? = none := by
     rw [add_block]
     exact Array.getElem?_eq_none hle
    simp [World.cell?, this] at hc
   ·rw [hcell i (by have : i < len := hi; omega), List.getD_eq_getElem?_getD, List.getD_eq_getElem?_getD, List.getElem?_take_of_lt hi]
instance : Inhabited InsD := ⟨⟨0, 0, 0, none, 0, 0, []⟩⟩
end Go.Proofs.YtlfihndbnaaodaaGreatDoor
namespace Go.Proofs.YtlfihndbnaaodaaGreatDoor
set_option linter.unusedVariables false
open Go.ChangeShapes Go.WideShapes Go.ChangeAt Go.RowKit Go.Deep
structure NumD where
 o : Option Addr
 n : Nat
 cap : Nat
 xs : List Int
def NumD.v (d : NumD) : Value := .slice d.o d.n d.cap
structure NumD.ok (k : IntKind) (w : World) (d : NumD) : Prop where
 le : d.n ≤ d.cap
 most : d.cap ≤ maxLen
 len : d.xs.length = d.n
 nil : d.o = none → d.cap = 0
 wf : ∀ x ∈ d.xs, (Lit.int k x).wf = true
 at' : d.n = 0 ∨ ∃ a : Addr, d.o = some a ∧ a.block < w.heap.size ∧ ∀ i, i < d.n → w.cell? (a.add i) = some (.int k (d.xs.getD i 0))
theorem NumD.ok.below {k : IntKind} {w w' : World} {d : NumD} (h : d.ok k w) (b : Below w.heap.size w w') : d.ok k w' := by
 refine ⟨h.le, h.most, h.len, h.nil, h.wf, ?_⟩
 rcases h.at' with h0 | ⟨a, h1, h2, h3⟩
 ·exact Or.inl h0
 ·refine Or.inr ⟨a, h1, Nat.lt_of_lt_of_le h2 b.size, fun i hi => ?_⟩
  rw [b.cell (p := a.add i) (by rw [add_block]; exact h2)]
  exact h3 i hi
structure RowsOf {α : Type} (w : World) (k : Nat) (cs : α → List Value) (ok : World → α → Prop) (o : Option Addr) (cap : Nat) (L : List α) : Prop where
 le : L.length ≤ cap
 most : cap ≤ maxLen
 nil : o = none → cap = 0
 all : ∀ d ∈ L, ok w d
 at' : L = [] ∨ ∃ b f, o = some ⟨b, f, none⟩ ∧ b < w.heap.size ∧ ∀ i (h : i < L.length) r, r < k → w.cell? ⟨b, f + i * k + r, none⟩ = (cs (L[i]))[r]?
theorem RowsOf.below {α : Type} {w w' : World} {k : Nat} {cs : α → List Value} {ok : World → α → Prop} {o : Option Addr} {cap : Nat} {L : List α} (hok : ∀ d, ok w d → ok w' d) (h : RowsOf w k cs ok o cap L) (b : Below w.heap.size w w') : RowsOf w' k cs ok o cap L := by
 refine ⟨h.le, h.most, h.nil, fun d hd => hok d (h.all d hd), ?_⟩
 rcases h.at' with h0 | ⟨bb, f, h1, h2, h3⟩
 ·exact Or.inl h0
 ·refine Or.inr ⟨bb, f, h1, Nat.lt_of_lt_of_le h2 b.size, fun i hi r hr => ?_⟩
  rw [b.cell (p := ⟨bb, f + i * k + r, none⟩) h2]
  exact h3 i hi r hr
section
variable {H : Type} {enc : TypeId × Value → H} {W : World}
theorem open_nums {k : IntKind} {t e : TypeId} {fuel : Nat} {c : Value} {x : DataW H × List MemPlace} (ht : Tryz.prog.underlying t = some (.slice e)) (he : Tryz.prog.underlying e = some (.int k)) (hc : Tryz.prog.cellsOf e = 1)
  (hf : DataW.trod enc Tryz.prog W 0 (fun _ => true) true fuel t [c] = some x) : ∃ d : NumD, c = d.v ∧ d.ok k W := by
 rcases open_ints ht he hc hf with ⟨e3, _⟩ | ⟨ad, len, cap, zs, e3, _, hlc, hcm, hzl, _, hcell, hwf⟩
 ·simp only [List.cons.injEq, and_true] at e3
  subst e3
  exact ⟨⟨none, 0, 0, []⟩, rfl, ⟨Nat.le_refl _, Nat.zero_le _, rfl, fun _ => rfl, fun x hx => by (cases hx), Or.inl rfl⟩⟩
 ·simp only [List.cons.injEq, and_true] at e3
  subst e3
  have hzlen : len ≤ zs.length := by
   rw [hzl]
   split <;> omega
  refine ⟨⟨some ad, len, cap, zs.take len⟩, rfl, ⟨hlc, hcm, by simp; omega, fun h => by (cases h), fun x hx => hwf x (List.mem_of_mem_take hx), ?_⟩⟩
  by_cases hl0 : len = 0
  ·exact Or.inl hl0
  ·refine Or.inr ⟨ad, rfl, ?_, fun i hi => ?_⟩
   ·have hc := hcell 0 (by omega)
    apply Nat.lt_of_not_le
    intro hle
    have : W.heap[(ad.add 0).block]? = none := by
     rw [add_block]
     exact Array.getElem?_eq_none hle
    simp [World.cell?, this] at hc
   ·rw [hcell i (by have : i < len := hi; omega), List.getD_eq_getElem?_getD, List.getD_eq_getElem?_getD, List.getElem?_take_of_lt hi]
theorem open_rows {α : Type} [Inhabited α] {t e : TypeId} (k : Nat) (hk : 0 < k) (ht : Tryz.prog.underlying t = some (.slice e)) (hc : Tryz.prog.cellsOf e = k) (cs : α → List Value) (ok : World → α → Prop) (hl : ∀ a, (cs a).length = k)
  (ho : ∀ (fuel : Nat) (l : List Value) (x : DataW H × List MemPlace), l.length = k → DataW.trod enc Tryz.prog W 0 (fun _ => true) true fuel e l = some x → ∃ a, l = cs a ∧ ok W a)
  {fuel : Nat} {c : Value} {x : DataW H × List MemPlace} (hf : DataW.trod enc Tryz.prog W 0 (fun _ => true) true fuel t [c] = some x) :
  ∃ (o : Option Addr) (cap : Nat) (L : List α), c = .slice o L.length cap ∧ RowsOf W k cs ok o cap L := by
 rcases open_slice ht hf with ⟨e, _⟩ | ⟨a, len0, cap0, m, n, D, Pl, e, _, hlc, hcm, hm, _, hall⟩
 ·simp only [List.cons.injEq, and_true] at e
  subst e
  exact ⟨none, 0, [], rfl, ⟨by simp, by unfold maxLen; omega, fun _ => rfl, by simp, Or.inl rfl⟩⟩
 ·simp only [List.cons.injEq, and_true] at e
  subst e
  rw [hc] at hall
  have hm2 : len0 ≤ m := by rw [hm]; split <;> omega
  obtain ⟨Dd, hD⟩ := choose_lt (α := α) (n := len0) (p := fun i d => (∀ r, r < k → W.cell? ((a.add (i * k)).add r) = (cs d)[r]?) ∧ ok W d) (fun i hi => by
   obtain ⟨cs', h1, h2⟩ := hall i (by omega)
   obtain ⟨_, hl', hc'⟩ := World.cells?_some h1
   obtain ⟨d, rfl, hok⟩ := ho _ _ _ hl' h2
   exact ⟨d, fun r hr => hc' r hr, hok⟩)
  have hL : ((List.range len0).map Dd).length = len0 := by simp
  have hget : ∀ i (h : i < ((List.range len0).map Dd).length), ((List.range len0).map Dd)[i] = Dd i := by intro i h; simp
  refine ⟨some a, cap0, (List.range len0).map Dd, by rw [hL], ⟨by rw [hL]; exact hlc, hcm, fun h => by (cases h), ?_, ?_⟩⟩
  ·intro d hd
   obtain ⟨i, hi, rfl⟩ := List.mem_map.1 hd
   exact (hD i (by simpa using hi)).2
  ·by_cases h0 : len0 = 0
   ·left
    subst h0
    rfl
   ·right
    obtain ⟨b, f, sp⟩ := a
    have hc0 := (hD 0 (by omega)).1 0 hk
    rw [List.getElem?_eq_getElem (by rw [hl]; exact hk)] at hc0
    have hsp : sp = none := by simpa [Addr.add] using World.cell?_spot hc0
    subst hsp
    have hadd : ∀ k : Nat, (⟨b, f, none⟩ : Addr).add k = ⟨b, f + k, none⟩ := by intro k; unfold Addr.add; split <;> simp_all
    have hadd2 : ∀ k j : Nat, ((⟨b, f, none⟩ : Addr).add k).add j = ⟨b, f + k + j, none⟩ := by
     intro k j
     rw [hadd]
     unfold Addr.add
     split <;> simp_all
    refine ⟨b, f, rfl, ?_, fun i hi r hr => ?_⟩
    ·apply Nat.lt_of_not_le
     intro hle
     have : W.heap[b]? = none := Array.getElem?_eq_none hle
     rw [hadd2] at hc0
     simp [World.cell?, this] at hc0
    ·rw [hget i hi]
     have := (hD i (by rw [hL] at hi; exact hi)).1 r hr
     rw [hadd2] at this
     exact this
end
section
variable {H : Type} {enc : TypeId × Value → H} {W : World}
theorem open_body {fuel : Nat} {c : Value} {x : DataW H × List MemPlace} (hf : DataW.trod enc Tryz.prog W 0 (fun _ => true) true fuel 57 [c] = some x) : ∃ (o : Option Addr) (cap : Nat) (L : List InsD), c = .slice o L.length cap ∧ LD W o L ∧ L.length ≤ cap ∧ cap ≤ maxLen := by
 obtain ⟨o, cap, L, rfl, h⟩ := open_rows (α := InsD) (enc := enc) (W := W) 4 (by omega) Tryz.underlying57 cellsIns (fun d => [.int .u8 d.op, .int .i64 d.A, .int .i64 d.B, .slice d.o d.n d.cap]) (fun w d => d.ok w) (fun _ => rfl) (fun fuel l x hl hf => by
  obtain ⟨c0, c1, c2, c3, rfl⟩ := list_four l hl
  obtain ⟨d, rfl, rfl, rfl, rfl, hok⟩ := open_insC hf
  exact ⟨d, rfl, hok⟩) hf
 refine ⟨o, cap, L, rfl, ⟨h.all, ?_⟩, h.le, h.most⟩
 rcases h.at' with h0 | ⟨b, f, h1, h2, h3⟩
 ·exact Or.inl h0
 ·exact Or.inr ⟨b, f, h1, h2, fun i hi => ⟨h3 i hi 0 (by omega), h3 i hi 1 (by omega), h3 i hi 2 (by omega), h3 i hi 3 (by omega)⟩⟩
end
end Go.Proofs.YtlfihndbnaaodaaGreatDoor
namespace Go.Proofs.YtlfihndbnaaodaaGreatDoor
set_option linter.unusedVariables false
open Go.ChangeShapes Go.WideShapes Go.ChangeAt Go.RowKit Go.Deep
theorem list_two {α : Type} : ∀ (l : List α), l.length = 2 → ∃ a b, l = [a, b]
 | [a, b], _ => ⟨a, b, rfl⟩
theorem list_three {α : Type} : ∀ (l : List α), l.length = 3 → ∃ a b c, l = [a, b, c]
 | [a, b, c], _ => ⟨a, b, c, rfl⟩
theorem list_eleven {α : Type} : ∀ (l : List α), l.length = 11 → ∃ a b c d e f g h i j k, l = [a, b, c, d, e, f, g, h, i, j, k]
 | [a, b, c, d, e, f, g, h, i, j, k], _ => ⟨a, b, c, d, e, f, g, h, i, j, k, rfl⟩
def inI (x : Int) : Prop := -9223372036854775808 ≤ x ∧ x ≤ 9223372036854775807
structure SigD where
 i : NumD
 r : NumD
def SigD.cells (d : SigD) : List Value := [d.i.v, d.r.v]
def SigD.ok (w : World) (d : SigD) : Prop := d.i.ok .u8 w ∧ d.r.ok .u8 w
structure NamD where
 s : ByteArray
 n : Int
def NamD.cells (d : NamD) : List Value := [.string d.s, .int .i64 d.n]
def NamD.ok (_ : World) (d : NamD) : Prop := d.s.size ≤ maxLen ∧ inI d.n
structure FunD where
 t : Int
 l : NumD
 o : Option Addr
 cap : Nat
 b : List InsD
def FunD.cells (d : FunD) : List Value := [.int .i64 d.t, d.l.v, .slice d.o d.b.length d.cap]
def FunD.ok (w : World) (d : FunD) : Prop := inI d.t ∧ d.l.ok .u8 w ∧ LD w d.o d.b ∧ d.b.length ≤ d.cap ∧ d.cap ≤ maxLen
structure GloD where
 k : Int
 m : Bool
 s : Int
def GloD.cells (d : GloD) : List Value := [.int .u8 d.k, .bool d.m, .int .i64 d.s]
def GloD.ok (_ : World) (d : GloD) : Prop := 0 ≤ d.k ∧ d.k ≤ 255 ∧ inI d.s
structure EleD where
 a : Int
 f : NumD
def EleD.cells (d : EleD) : List Value := [.int .i64 d.a, d.f.v]
def EleD.ok (w : World) (d : EleD) : Prop := inI d.a ∧ d.f.ok .i64 w
structure DatD where
 a : Int
 s : ByteArray
def DatD.cells (d : DatD) : List Value := [.int .i64 d.a, .string d.s]
def DatD.ok (_ : World) (d : DatD) : Prop := inI d.a ∧ d.s.size ≤ maxLen
instance : Inhabited NumD := ⟨⟨none, 0, 0, []⟩⟩
instance : Inhabited SigD := ⟨⟨default, default⟩⟩
instance : Inhabited NamD := ⟨⟨⟨#[]⟩, 0⟩⟩
instance : Inhabited FunD := ⟨⟨0, default, none, 0, []⟩⟩
instance : Inhabited GloD := ⟨⟨0, false, 0⟩⟩
instance : Inhabited EleD := ⟨⟨0, default⟩⟩
instance : Inhabited DatD := ⟨⟨0, ⟨#[]⟩⟩⟩
theorem cellsStr : Tryz.prog.cellsOf 9 = 1 := by kernel_rfl
theorem cellsInt : Tryz.prog.cellsOf 3 = 1 := by kernel_rfl
theorem cellsBool : Tryz.prog.cellsOf 4 = 1 := by kernel_rfl
theorem cellsKind : Tryz.prog.cellsOf 69 = 1 := by kernel_rfl
theorem cellsKinds : Tryz.prog.cellsOf 41 = 1 := by kernel_rfl
theorem cellsInts : Tryz.prog.cellsOf 63 = 1 := by kernel_rfl
theorem cellsBody : Tryz.prog.cellsOf 57 = 1 := by kernel_rfl
theorem cellsSig : Tryz.prog.cellsOf 83 = 2 := by kernel_rfl
theorem cellsImp : Tryz.prog.cellsOf 92 = 2 := by kernel_rfl
theorem cellsFun : Tryz.prog.cellsOf 59 = 3 := by kernel_rfl
theorem cellsGlo : Tryz.prog.cellsOf 127 = 3 := by kernel_rfl
theorem cellsExp : Tryz.prog.cellsOf 95 = 2 := by kernel_rfl
theorem cellsEle : Tryz.prog.cellsOf 99 = 2 := by kernel_rfl
theorem cellsDat : Tryz.prog.cellsOf 129 = 2 := by kernel_rfl
theorem cellsSigs : Tryz.prog.cellsOf 22 = 1 := by kernel_rfl
theorem cellsImps : Tryz.prog.cellsOf 23 = 1 := by kernel_rfl
theorem cellsFuns : Tryz.prog.cellsOf 24 = 1 := by kernel_rfl
theorem cellsGlos : Tryz.prog.cellsOf 25 = 1 := by kernel_rfl
theorem cellsExps : Tryz.prog.cellsOf 26 = 1 := by kernel_rfl
theorem cellsEles : Tryz.prog.cellsOf 27 = 1 := by kernel_rfl
theorem cellsDats : Tryz.prog.cellsOf 28 = 1 := by kernel_rfl
theorem cellsMod : Tryz.prog.cellsOf 30 = 11 := by kernel_rfl
section
variable {H : Type} {enc : TypeId × Value → H} {W : World}
theorem open_sig (fuel : Nat) (l : List Value) (x : DataW H × List MemPlace) (hl : l.length = 2) (hf : DataW.trod enc Tryz.prog W 0 (fun _ => true) true fuel 83 l = some x) : ∃ a : SigD, l = a.cells ∧ a.ok W := by
 obtain ⟨c0, c1, rfl⟩ := list_two l hl
 obtain ⟨ys, m, _, hx, _, hyl, hall⟩ := DataW.trod_struct Tryz.underlying83 hf
 obtain ⟨y0, y1, rfl⟩ := list_two ys hyl
 have g0 := hall 0 _ rfl
 have g1 := hall 1 _ rfl
 simp [cellsKinds] at g0 g1
 obtain ⟨d0, rfl, h0⟩ := open_nums Tryz.underlying41 Tryz.underlying69 cellsKind g0
 obtain ⟨d1, rfl, h1⟩ := open_nums Tryz.underlying41 Tryz.underlying69 cellsKind g1
 exact ⟨⟨d0, d1⟩, rfl, h0, h1⟩
theorem open_imp (fuel : Nat) (l : List Value) (x : DataW H × List MemPlace) (hl : l.length = 2) (hf : DataW.trod enc Tryz.prog W 0 (fun _ => true) true fuel 92 l = some x) : ∃ a : NamD, l = a.cells ∧ a.ok W := by
 obtain ⟨c0, c1, rfl⟩ := list_two l hl
 obtain ⟨ys, m, _, hx, _, hyl, hall⟩ := DataW.trod_struct Tryz.underlying92 hf
 obtain ⟨y0, y1, rfl⟩ := list_two ys hyl
 have g0 := hall 0 _ rfl
 have g1 := hall 1 _ rfl
 simp [cellsStr, cellsInt] at g0 g1
 obtain ⟨s, e0, _, hs⟩ := DataW.trod_string Tryz.underlying9 g0
 obtain ⟨n, e1, _, wn⟩ := DataW.trod_int Tryz.underlying3 g1
 simp only [List.cons.injEq, and_true] at e0 e1
 subst e0 e1
 exact ⟨⟨s, n⟩, rfl, hs, bounds_i64 wn⟩
theorem open_exp (fuel : Nat) (l : List Value) (x : DataW H × List MemPlace) (hl : l.length = 2) (hf : DataW.trod enc Tryz.prog W 0 (fun _ => true) true fuel 95 l = some x) : ∃ a : NamD, l = a.cells ∧ a.ok W := by
 obtain ⟨c0, c1, rfl⟩ := list_two l hl
 obtain ⟨ys, m, _, hx, _, hyl, hall⟩ := DataW.trod_struct Tryz.underlying95 hf
 obtain ⟨y0, y1, rfl⟩ := list_two ys hyl
 have g0 := hall 0 _ rfl
 have g1 := hall 1 _ rfl
 simp [cellsStr, cellsInt] at g0 g1
 obtain ⟨s, e0, _, hs⟩ := DataW.trod_string Tryz.underlying9 g0
 obtain ⟨n, e1, _, wn⟩ := DataW.trod_int Tryz.underlying3 g1
 simp only [List.cons.injEq, and_true] at e0 e1
 subst e0 e1
 exact ⟨⟨s, n⟩, rfl, hs, bounds_i64 wn⟩
theorem open_dat (fuel : Nat) (l : List Value) (x : DataW H × List MemPlace) (hl : l.length = 2) (hf : DataW.trod enc Tryz.prog W 0 (fun _ => true) true fuel 129 l = some x) : ∃ a : DatD, l = a.cells ∧ a.ok W := by
 obtain ⟨c0, c1, rfl⟩ := list_two l hl
 obtain ⟨ys, m, _, hx, _, hyl, hall⟩ := DataW.trod_struct Tryz.underlying129 hf
 obtain ⟨y0, y1, rfl⟩ := list_two ys hyl
 have g0 := hall 0 _ rfl
 have g1 := hall 1 _ rfl
 simp [cellsStr, cellsInt] at g0 g1
 obtain ⟨n, e0, _, wn⟩ := DataW.trod_int Tryz.underlying3 g0
 obtain ⟨s, e1, _, hs⟩ := DataW.trod_string Tryz.underlying9 g1
 simp only [List.cons.injEq, and_true] at e0 e1
 subst e0 e1
 exact ⟨⟨n, s⟩, rfl, bounds_i64 wn, hs⟩
theorem open_ele (fuel : Nat) (l : List Value) (x : DataW H × List MemPlace) (hl : l.length = 2) (hf : DataW.trod enc Tryz.prog W 0 (fun _ => true) true fuel 99 l = some x) : ∃ a : EleD, l = a.cells ∧ a.ok W := by
 obtain ⟨c0, c1, rfl⟩ := list_two l hl
 obtain ⟨ys, m, _, hx, _, hyl, hall⟩ := DataW.trod_struct Tryz.underlying99 hf
 obtain ⟨y0, y1, rfl⟩ := list_two ys hyl
 have g0 := hall 0 _ rfl
 have g1 := hall 1 _ rfl
 simp [cellsInt, cellsInts] at g0 g1
 obtain ⟨n, e0, _, wn⟩ := DataW.trod_int Tryz.underlying3 g0
 obtain ⟨d1, rfl, h1⟩ := open_nums Tryz.underlying63 Tryz.underlying3 cellsInt g1
 simp only [List.cons.injEq, and_true] at e0
 subst e0
 exact ⟨⟨n, d1⟩, rfl, bounds_i64 wn, h1⟩
theorem open_glo (fuel : Nat) (l : List Value) (x : DataW H × List MemPlace) (hl : l.length = 3) (hf : DataW.trod enc Tryz.prog W 0 (fun _ => true) true fuel 127 l = some x) : ∃ a : GloD, l = a.cells ∧ a.ok W := by
 obtain ⟨c0, c1, c2, rfl⟩ := list_three l hl
 obtain ⟨ys, m, _, hx, _, hyl, hall⟩ := DataW.trod_struct Tryz.underlying127 hf
 obtain ⟨y0, y1, y2, rfl⟩ := list_three ys hyl
 have g0 := hall 0 _ rfl
 have g1 := hall 1 _ rfl
 have g2 := hall 2 _ rfl
 simp [cellsKind, cellsBool, cellsI64] at g0 g1 g2
 obtain ⟨k, e0, _, wk⟩ := DataW.trod_int Tryz.underlying69 g0
 obtain ⟨b, e1, _⟩ := DataW.trod_bool Tryz.underlying4 g1
 obtain ⟨n, e2, _, wn⟩ := DataW.trod_int Tryz.underlying2 g2
 simp only [List.cons.injEq, and_true] at e0 e1 e2
 subst e0 e1 e2
 have bk := bounds_u8 wk
 exact ⟨⟨k, b, n⟩, rfl, bk.1, bk.2, bounds_i64 wn⟩
theorem open_fun (fuel : Nat) (l : List Value) (x : DataW H × List MemPlace) (hl : l.length = 3) (hf : DataW.trod enc Tryz.prog W 0 (fun _ => true) true fuel 59 l = some x) : ∃ a : FunD, l = a.cells ∧ a.ok W := by
 obtain ⟨c0, c1, c2, rfl⟩ := list_three l hl
 obtain ⟨ys, m, _, hx, _, hyl, hall⟩ := DataW.trod_struct Tryz.underlying59 hf
 obtain ⟨y0, y1, y2, rfl⟩ := list_three ys hyl
 have g0 := hall 0 _ rfl
 have g1 := hall 1 _ rfl
 have g2 := hall 2 _ rfl
 simp [cellsInt, cellsKinds, cellsBody] at g0 g1 g2
 obtain ⟨n, e0, _, wn⟩ := DataW.trod_int Tryz.underlying3 g0
 obtain ⟨d1, rfl, h1⟩ := open_nums Tryz.underlying41 Tryz.underlying69 cellsKind g1
 obtain ⟨o, cap, L, rfl, hL⟩ := open_body g2
 simp only [List.cons.injEq, and_true] at e0
 subst e0
 exact ⟨⟨n, d1, o, cap, L⟩, rfl, bounds_i64 wn, h1, hL⟩
end
structure ModD where
 oT : Option Addr
 cT : Nat
 types : List SigD
 oI : Option Addr
 cI : Nat
 imports : List NamD
 oF : Option Addr
 cF : Nat
 funcs : List FunD
 table : Int
 pages : Int
 most : Int
 oG : Option Addr
 cG : Nat
 globals : List GloD
 oE : Option Addr
 cE : Nat
 exports : List NamD
 start : Int
 oL : Option Addr
 cL : Nat
 elems : List EleD
 oD : Option Addr
 cD : Nat
 data : List DatD
def ModD.v (m : ModD) : Value := .agg #[.slice m.oT m.types.length m.cT, .slice m.oI m.imports.length m.cI, .slice m.oF m.funcs.length m.cF, .int .i64 m.table, .int .i64 m.pages, .int .i64 m.most, .slice m.oG m.globals.length m.cG, .slice m.oE m.exports.length m.cE, .int .i64 m.start, .slice m.oL m.elems.length m.cL, .slice m.oD m.data.length m.cD]
structure ModD.ok (w : World) (m : ModD) : Prop where
 types : RowsOf w 2 SigD.cells SigD.ok m.oT m.cT m.types
 imports : RowsOf w 2 NamD.cells NamD.ok m.oI m.cI m.imports
 funcs : RowsOf w 3 FunD.cells FunD.ok m.oF m.cF m.funcs
 table : inI m.table
 pages : inI m.pages
 most : inI m.most
 globals : RowsOf w 3 GloD.cells GloD.ok m.oG m.cG m.globals
 exports : RowsOf w 2 NamD.cells NamD.ok m.oE m.cE m.exports
 start : inI m.start
 elems : RowsOf w 2 EleD.cells EleD.ok m.oL m.cL m.elems
 data : RowsOf w 2 DatD.cells DatD.ok m.oD m.cD m.data
theorem ModD.ok.below {w w' : World} {m : ModD} (h : m.ok w) (b : Below w.heap.size w w') : m.ok w' :=
 ⟨h.types.below (fun _ hd => ⟨hd.1.below b, hd.2.below b⟩) b, RowsOf.below (w := w) (w' := w') (ok := NamD.ok) (fun _ hd => hd) h.imports b, h.funcs.below (fun _ hd => ⟨hd.1, hd.2.1.below b, hd.2.2.1.below b, hd.2.2.2⟩) b, h.table, h.pages, h.most, RowsOf.below (w := w) (w' := w') (ok := GloD.ok) (fun _ hd => hd) h.globals b, RowsOf.below (w := w) (w' := w') (ok := NamD.ok) (fun _ hd => hd) h.exports b, h.start, h.elems.below (fun _ hd => ⟨hd.1, hd.2.below b⟩) b, RowsOf.below (w := w) (w' := w') (ok := DatD.ok) (fun _ hd => hd) h.data b⟩
theorem open_module {H : Type} {enc : TypeId × Value → H} {W : World} {base : Nat} {v0 : Value} {d0 : DataW H} {p0 : List MemPlace} (hv : Value.okWide Tryz.prog W .any base 30 v0) (h0 : DataW.Trod enc Tryz.prog W 0 (fun _ => true) true 30 v0 d0 p0) :
  ∃ m : ModD, v0 = m.v ∧ m.ok W := by
 obtain ⟨cs, rfl, hcs⟩ := okWide_struct (P := Tryz.prog) (w := W) (r := .any) (base := base) (t := 30) (v := v0) Tryz.underlying30 hv
 rw [cellsMod] at hcs
 obtain ⟨l⟩ := cs
 obtain ⟨c0, c1, c2, c3, c4, c5, c6, c7, c8, c9, c10, rfl⟩ := list_eleven l hcs
 obtain ⟨fuel, hf⟩ := h0
 obtain ⟨ys, m, _, hx, _, hyl, hall⟩ := DataW.trod_struct Tryz.underlying30 hf
 obtain ⟨y0, y1, y2, y3, y4, y5, y6, y7, y8, y9, y10, rfl⟩ := list_eleven ys hyl
 have g0 := hall 0 _ rfl
 have g1 := hall 1 _ rfl
 have g2 := hall 2 _ rfl
 have g3 := hall 3 _ rfl
 have g4 := hall 4 _ rfl
 have g5 := hall 5 _ rfl
 have g6 := hall 6 _ rfl
 have g7 := hall 7 _ rfl
 have g8 := hall 8 _ rfl
 have g9 := hall 9 _ rfl
 have g10 := hall 10 _ rfl
 clear hall hx hf hv
 simp [Value.cells, cellsSigs, cellsImps, cellsFuns, cellsInt, cellsGlos, cellsExps, cellsEles, cellsDats] at g0 g1 g2 g3 g4 g5 g6 g7 g8 g9 g10
 obtain ⟨oT, cT, tl, rfl, hT⟩ := open_rows 2 (by omega) Tryz.underlying22 cellsSig SigD.cells SigD.ok (fun _ => rfl) open_sig g0
 obtain ⟨oI, cI, il, rfl, hI⟩ := open_rows 2 (by omega) Tryz.underlying23 cellsImp NamD.cells NamD.ok (fun _ => rfl) open_imp g1
 obtain ⟨oF, cF, fl, rfl, hF⟩ := open_rows 3 (by omega) Tryz.underlying24 cellsFun FunD.cells FunD.ok (fun _ => rfl) open_fun g2
 obtain ⟨table, e3, _, w3⟩ := DataW.trod_int Tryz.underlying3 g3
 obtain ⟨pages, e4, _, w4⟩ := DataW.trod_int Tryz.underlying3 g4
 obtain ⟨most, e5, _, w5⟩ := DataW.trod_int Tryz.underlying3 g5
 obtain ⟨oG, cG, gl, rfl, hG⟩ := open_rows 3 (by omega) Tryz.underlying25 cellsGlo GloD.cells GloD.ok (fun _ => rfl) open_glo g6
 obtain ⟨oE, cE, el, rfl, hE⟩ := open_rows 2 (by omega) Tryz.underlying26 cellsExp NamD.cells NamD.ok (fun _ => rfl) open_exp g7
 obtain ⟨start, e8, _, w8⟩ := DataW.trod_int Tryz.underlying3 g8
 obtain ⟨oL, cL, ll, rfl, hL⟩ := open_rows 2 (by omega) Tryz.underlying27 cellsEle EleD.cells EleD.ok (fun _ => rfl) open_ele g9
 obtain ⟨oD, cD, dl, rfl, hD⟩ := open_rows 2 (by omega) Tryz.underlying28 cellsDat DatD.cells DatD.ok (fun _ => rfl) open_dat g10
 simp only [List.cons.injEq, and_true] at e3 e4 e5 e8
 subst e3 e4 e5 e8
 exact ⟨⟨oT, cT, tl, oI, cI, il, oF, cF, fl, table, pages, most, oG, cG, gl, oE, cE, el, start, oL, cL, ll, oD, cD, dl⟩, rfl, ⟨hT, hI, hF, bounds_i64 w3, bounds_i64 w4, bounds_i64 w5, hG, hE, bounds_i64 w8, hL, hD⟩⟩
end Go.Proofs.YtlfihndbnaaodaaGreatDoor
