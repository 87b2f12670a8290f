/-
 A body that is gone through for its ways: the trail in memory; below, keptOf, out, wayOut.
 A body that is gone through for its ways: out, wayOut.
 A body that is gone through for its ways: wayPast, choices.
 A body that is gone through for its ways: the ways of an instruction.
 A body that is gone through for its ways: the row of ways while it grows.
 A body that is gone through for its ways: the whole of it.
-/
import Derived.Test.YtlfihndbnaaodaaGreatDoorIVP
import Derived.Deep.CutRange
import Derived.Deep.DeepCutAuto
set_option maxHeartbeats 4000000
set_option maxRecDepth 1000000
namespace Go.Proofs.YtlfihndbnaaodaaGreatDoor
open Go.RowKit
set_option linter.unusedVariables false
instance : Inhabited ShpD := ⟨⟨false, default⟩⟩
theorem own_low {w : World} {B B' : Nat} {t : TypeId} {k : Nat} {v : Value} {n : Nat} {xs : List Value} (h : w.ownsRow B t k v n xs) (hb : B' ≤ B) : w.ownsRow B' t k v n xs := by
 refine ⟨h.1, ?_⟩
 rcases h.2 with hn | ⟨g, c, cur, hv, hbg, hg, rest⟩
 ·exact Or.inl hn
 ·exact Or.inr ⟨g, c, cur, hv, Nat.le_trans hb hbg, hg, rest⟩
structure JmpD where
 a : Int
 k : Int
 h : Int
instance : Inhabited JmpD := ⟨⟨0, 0, 0⟩⟩
def JmpD.cells (j : JmpD) : List Value := [.int .i64 j.a, .int .i64 j.k, .int .i64 j.h]
structure FQ where
 L : List InsD
 D : List ShpD
 E : List Int
 S : List Int
 bL : Nat
 fL : Nat
 cL : Nat
 bS : Nat
 fS : Nat
 cS : Nat
 gE : Nat
 gS : Nat
structure FQ.ok (w : World) (q : FQ) : Prop where
 lt : q.bL < w.heap.size ∧ q.bS < w.heap.size ∧ q.gE < w.heap.size ∧ q.gS < w.heap.size
 few : q.L.length ≤ 200 ∧ q.L.length ≤ q.cL ∧ q.cL ≤ 9223372036854775807 ∧ q.L.length ≤ q.cS ∧ q.cS ≤ 9223372036854775807
 l : ∀ i, i < q.L.length → w.cell? ⟨q.bL, q.fL + i * 4, none⟩ = some (.int .u8 (q.L[i]!).op) ∧ w.cell? ⟨q.bL, q.fL + i * 4 + 1, none⟩ = some (.int .i64 (q.L[i]!).A) ∧ w.cell? ⟨q.bL, q.fL + i * 4 + 2, none⟩ = some (.int .i64 (q.L[i]!).B) ∧ w.cell? ⟨q.bL, q.fL + i * 4 + 3, none⟩ = some (.slice (q.L[i]!).o (q.L[i]!).n (q.L[i]!).cap)
 s : ∀ i, i < q.L.length → w.cell? ⟨q.bS, q.fS + i * 2, none⟩ = some (.bool (q.D[i]!).dead) ∧ w.cell? ⟨q.bS, q.fS + i * 2 + 1, none⟩ = some (.slice (q.D[i]!).k.o (q.D[i]!).k.n (q.D[i]!).k.cap)
 e : ∀ i, i < q.L.length → w.cell? ⟨q.gE, i, none⟩ = some (.int .i64 (q.E.getD i 0))
 t : ∀ i, i < q.L.length → w.cell? ⟨q.gS, i, none⟩ = some (.int .i64 (q.S.getD i 0))
 kn : ∀ i, i < q.L.length → (q.D[i]!).k.n ≤ 1099511627776 ∧ (q.D[i]!).k.n ≤ (q.D[i]!).k.cap ∧ (q.D[i]!).k.cap ≤ 9223372036854775807
theorem FQ.ok.below {w w' : World} {q : FQ} (h : q.ok w) (b : Below w.heap.size w w') : q.ok w' := by
 refine ⟨⟨Nat.lt_of_lt_of_le h.lt.1 b.size, Nat.lt_of_lt_of_le h.lt.2.1 b.size, Nat.lt_of_lt_of_le h.lt.2.2.1 b.size, Nat.lt_of_lt_of_le h.lt.2.2.2 b.size⟩, h.few, fun i hi => ?_, fun i hi => ?_, fun i hi => (b.cell (p := ⟨q.gE, i, none⟩) h.lt.2.2.1).trans (h.e i hi), fun i hi => (b.cell (p := ⟨q.gS, i, none⟩) h.lt.2.2.2).trans (h.t i hi), h.kn⟩
 ·obtain ⟨a0, a1, a2, a3⟩ := h.l i hi
  exact ⟨(b.cell (p := ⟨q.bL, _, none⟩) h.lt.1).trans a0, (b.cell (p := ⟨q.bL, _, none⟩) h.lt.1).trans a1, (b.cell (p := ⟨q.bL, _, none⟩) h.lt.1).trans a2, (b.cell (p := ⟨q.bL, _, none⟩) h.lt.1).trans a3⟩
 ·obtain ⟨a0, a1⟩ := h.s i hi
  exact ⟨(b.cell (p := ⟨q.bS, _, none⟩) h.lt.2.1).trans a0, (b.cell (p := ⟨q.bS, _, none⟩) h.lt.2.1).trans a1⟩
def FQ.C (q : FQ) (oo : Option Addr) (no oc : Nat) : Array Value := #[.slice (some ⟨q.bL, q.fL, none⟩) q.L.length q.cL, .slice (some ⟨q.bS, q.fS, none⟩) q.L.length q.cS, .slice (some ⟨q.gE, 0, none⟩) q.L.length q.L.length, .slice (some ⟨q.gS, 0, none⟩) q.L.length q.L.length, .slice oo no oc]
structure TW (w : World) (N P : Nat) (q : FQ) (oo : Option Addr) (oc : Nat) (J : List JmpD) : Prop where
 box : w.heap[P]? = some (.cells (q.C oo J.length oc) 80 (0, 0))
 opn : w.ownsRow N 61 3 (.slice oo J.length oc) J.length (J.flatMap JmpD.cells)
 np : N ≤ P
 fq : q.ok w
 ap : q.bL < N ∧ q.bS < N ∧ q.gE < N ∧ q.gS < N
section
variable {w w' : World} {N P : Nat} {q : FQ} {oo : Option Addr} {oc : Nat} {J : List JmpD}
theorem TW.lt (h : TW w N P q oo oc J) : P < w.heap.size := some_lt h.box
theorem TW.below (h : TW w N P q oo oc J) (b : Below w.heap.size w w') : TW w' N P q oo oc J :=
 ⟨by rw [b.block P h.lt]; exact h.box, own_below h.opn b, h.np, h.fq.below b, h.ap⟩
theorem TW.c (h : TW w N P q oo oc J) : w.cell? ⟨P, 0, none⟩ = some (.slice (some ⟨q.bL, q.fL, none⟩) q.L.length q.cL) ∧ w.cell? ⟨P, 1, none⟩ = some (.slice (some ⟨q.bS, q.fS, none⟩) q.L.length q.cS) ∧ w.cell? ⟨P, 2, none⟩ = some (.slice (some ⟨q.gE, 0, none⟩) q.L.length q.L.length) ∧ w.cell? ⟨P, 3, none⟩ = some (.slice (some ⟨q.gS, 0, none⟩) q.L.length q.L.length) ∧ w.cell? ⟨P, 4, none⟩ = some (.slice oo J.length oc) :=
 ⟨cell_at h.box 0 rfl, cell_at h.box 1 rfl, cell_at h.box 2 rfl, cell_at h.box 3 rfl, cell_at h.box 4 rfl⟩
theorem jmp_at (J : List JmpD) (i r : Nat) (hi : i < J.length) (hr : r < 3) : (J.flatMap JmpD.cells)[i * 3 + r]? = (J[i]!).cells[r]? := by
 rw [flat_at JmpD.cells 3 (fun _ => rfl) J i r hi hr, getElem!_pos J i hi]
theorem jmp_len (J : List JmpD) : (J.flatMap JmpD.cells).length = J.length * 3 := by
 induction J with
 | nil => rfl
 | cons d J ih => rw [List.flatMap_cons, List.length_append, ih, List.length_cons, show d.cells.length = 3 from rfl]; omega
theorem TW.row (h : TW w N P q oo oc J) (hJ : 0 < J.length) : ∃ g, oo = some ⟨g, 0, none⟩ ∧ N ≤ g ∧ g < w.heap.size ∧ g ≠ P ∧ J.length ≤ oc ∧ oc ≤ 9223372036854775807 ∧ ∀ i, i < J.length → w.cell? ⟨g, i * 3, none⟩ = some (.int .i64 (J[i]!).a) ∧ w.cell? ⟨g, i * 3 + 1, none⟩ = some (.int .i64 (J[i]!).k) ∧ w.cell? ⟨g, i * 3 + 2, none⟩ = some (.int .i64 (J[i]!).h) := by
 have ho := h.opn
 obtain ⟨g, c, hv, hb, hg⟩ := ho.form hJ
 simp only [Value.slice.injEq] at hv
 obtain ⟨rfl, _, rfl⟩ := hv
 have hne : g ≠ P := by
  intro e
  rcases h.opn.2 with ⟨h1, _⟩ | ⟨g', c, cur, h1, _, hg, _⟩
  ·cases h1
  ·simp only [Value.slice.injEq, Option.some.injEq, Addr.mk.injEq, and_true] at h1
   obtain ⟨rfl, _⟩ := h1
   rw [e, h.box] at hg
   simp only [Option.some.injEq, Obj.cells.injEq] at hg
   exact absurd hg.2.1 (by decide)
 have hc : J.length ≤ oc ∧ oc ≤ maxLen := by
  rcases ho.2 with ⟨h1, _⟩ | ⟨g', c, cur, h1, _, _, h2, h3, _⟩
  ·simp at h1
  ·simp only [Value.slice.injEq] at h1
   omega
 refine ⟨g, rfl, hb, hg, hne, hc.1, hc.2, fun i hi => ?_⟩
 have cl (r : Nat) (hr : r < 3) : w.cell? ⟨g, i * 3 + r, none⟩ = (J[i]!).cells[r]? := by
  rw [ho.cellAt (i * 3 + r) (by omega)]
  exact jmp_at J i r hi hr
 exact ⟨cl 0 (by omega), cl 1 (by omega), cl 2 (by omega)⟩
end
def FQ.hgt (q : FQ) (i : Nat) : Int := if (q.L[i]!).op = 4 then ((q.D[i]!).k.n : Int) - 1 else (q.D[i]!).k.n
def keptV (k : Int) : Int := if k = 64 then 0 else 1
theorem fkept (k : Int) (w : World) : Calls Tryz.prog 103 #[.int .u8 k] w fun r w' => r = .returned (.int .i64 (keptV k)) ∧ w' = w := by
 by_cases c : k = 64
 ·have hc : (k == 64) = true := by simp [c]
  go_enter Tryz.func103, Tryz.ntmps103
  go_wp2
  go_ret
  exact ⟨by unfold keptV; rw [if_pos c]; rfl, rfl⟩
 ·have hc : (k == 64) = false := by simp [c]
  go_enter Tryz.func103, Tryz.ntmps103
  go_wp2
  go_ret
  exact ⟨by unfold keptV; rw [if_neg c]; rfl, rfl⟩
theorem fbelow {w : World} {N P : Nat} {q : FQ} {oo : Option Addr} {oc : Nat} {J : List JmpD} (h : TW w N P q oo oc J) (i : Nat) (hi : i < q.L.length) :
  Calls Tryz.prog 102 #[.pointer (some ⟨P, 0, none⟩), .int .i64 (i : Int)] w fun r w' => r = .returned (.int .i64 (q.hgt i)) ∧ w' = w := by
 obtain ⟨c0, c1, _, _, _⟩ := h.c
 obtain ⟨l0, _, _, _⟩ := h.fq.l i hi
 obtain ⟨s0, s1⟩ := h.fq.s i hi
 obtain ⟨n0, n1, n2, n3, n4⟩ := h.fq.few
 obtain ⟨k0, k1, k2⟩ := h.fq.kn i hi
 have hi0 : (0 : Int) ≤ (i : Int) := by omega
 have hi1 : (i : Int) < (q.L.length : Int) := by omega
 have HG : Hid (q.hgt i = if (q.L[i]!).op = 4 then ((q.D[i]!).k.n : Int) - 1 else (q.D[i]!).k.n) := rfl
 generalize q.hgt i = hv at *
 generalize (q.L[i]!).op = op at *
 generalize (q.D[i]!).k.n = kn at *
 generalize q.L.length = n at *
 clear h s0
 by_cases c : op = 4
 ·have hc : (op == 4) = true := by simp [c]
  go_enter Tryz.func102, Tryz.ntmps102
  go_wp2
  go_ret
  exact ⟨by rw [HG.out, if_pos c]; rfl, rfl⟩
 ·have hc : (op == 4) = false := by simp [c]
  go_enter Tryz.func102, Tryz.ntmps102
  go_wp2
  go_ret
  exact ⟨by rw [HG.out, if_neg c]; rfl, rfl⟩
end Go.Proofs.YtlfihndbnaaodaaGreatDoor
namespace Go.Proofs.YtlfihndbnaaodaaGreatDoor
open Go.RowKit
set_option linter.unusedVariables false
theorem infoJmp : (Tryz.prog.info? 61).map (·.size) = some (3 : Nat) := by kernel_rfl
def JmpD.v (j : JmpD) : Value := .agg #[.int .i64 j.a, .int .i64 j.k, .int .i64 j.h]
def outV (J : List JmpD) (f : Int) : JmpD := J[J.length - 1 - f.toNat]!
theorem jmp_row (w : World) (x y z : Value) : (w.alloc (.cells #[x, y, z] 61)).drew.heap[w.heap.size]? = some (.cells #[x, y, z] 61 (0, 0)) := new_block w (.cells #[x, y, z] 61)
theorem jmp_row2 (w : World) (x y z : Value) (o : Obj) : ((w.alloc (.cells #[x, y, z] 61)).alloc o).drew.heap[w.heap.size]? = some (.cells #[x, y, z] 61 (0, 0)) := by
 have := ((Below.refl _ _).alloc (Nat.le_refl _) o : Below (w.alloc (.cells #[x, y, z] 61)).heap.size (w.alloc (.cells #[x, y, z] 61)) ((w.alloc (.cells #[x, y, z] 61)).alloc o)).block w.heap.size (by simp)
 exact this.trans (new_block w _)
theorem fout {w : World} {N P : Nat} {q : FQ} {oo : Option Addr} {oc : Nat} {J : List JmpD} (h : TW w N P q oo oc J) (f : Int) (hf0 : 0 ≤ f) (hf1 : f < (J.length : Int)) (hJ : J.length ≤ 1000) :
  Calls Tryz.prog 99 #[.pointer (some ⟨P, 0, none⟩), .int .i64 f] w fun r w' => r = .returned (outV J f).v ∧ Below w.heap.size w w' := by
 have b1 : Below w.heap.size w (w.alloc (.cells #[.int .i64 0, .int .i64 0, .int .i64 0] 61)) := (Below.refl _ _).alloc (Nat.le_refl _) _
 have h1 := h.below b1
 obtain ⟨_, _, _, _, c4⟩ := h1.c
 obtain ⟨g, rfl, hNg, hgl, hgP, n0, n1, cl⟩ := h1.row (by omega)
 have hil : J.length - 1 - f.toNat < J.length := by omega
 obtain ⟨r0, r1, r2⟩ := cl _ hil
 have HV : Hid ((outV J f).v = .agg #[.int .i64 (J[J.length - 1 - f.toNat]!).a, .int .i64 (J[J.length - 1 - f.toNat]!).k, .int .i64 (J[J.length - 1 - f.toNat]!).h]) := rfl
 rw [HV.out]
 have hie : ((J.length - 1 - f.toNat : Nat) : Int) = (J.length : Int) - 1 - f := by omega
 obtain ⟨i, hi⟩ : ∃ i, i = J.length - 1 - f.toNat := ⟨_, rfl⟩
 rw [← hi] at r0 r1 r2 hie hil ⊢
 have hw1 : IntKind.i64.wrap ((J.length : Int) - 1) = (J.length : Int) - 1 := by rw [IntKind.wrap_i64]; omega
 have hw2 : IntKind.i64.wrap ((J.length : Int) - 1 - f) = (i : Int) := by rw [← hie, IntKind.wrap_i64]; omega
 generalize (J[i]!).a = a at *
 generalize (J[i]!).k = k at *
 generalize (J[i]!).h = hh at *
 generalize J.length = n at *
 have hi0 : (0 : Int) ≤ (i : Int) := by omega
 have hi1 : (i : Int) < (n : Int) := by omega
 clear h h1 cl HV b1 hi hie
 go_enter Tryz.func99, Tryz.ntmps99
 go_wp2
 go_region
 go_wp2
 refine bodyPost_ret (results_cell_row rfl _ _ w.heap.size 61 #[.int .i64 a, .int .i64 k, .int .i64 hh] (0, 0) _ rfl (jmp_row _ _ _ _) Tryz.underlying61 rfl infoJmp) rfl ?_
 exact ⟨rfl, ((Below.refl _ _).alloc (Nat.le_refl _) _).drew⟩
theorem fwayOut {w : World} {N P : Nat} {q : FQ} {oo : Option Addr} {oc : Nat} {J : List JmpD} (h : TW w N P q oo oc J) (hn : 0 < q.L.length) (io ro : Option Addr) (ni ci nr cr : Nat) :
  Calls Tryz.prog 31 #[.pointer (some ⟨P, 0, none⟩), .agg #[.slice io ni ci, .slice ro nr cr]] w fun r w' => r = .returned (JmpD.v ⟨(q.L.length : Int) - 1, nr, 0⟩) ∧ Below w.heap.size w w' := by
 have b0 : Below w.heap.size w (w.alloc (.cells #[.slice io ni ci, .slice ro nr cr] 83)) := (Below.refl _ _).alloc (Nat.le_refl _) _
 have b1 : Below w.heap.size w ((w.alloc (.cells #[.slice io ni ci, .slice ro nr cr] 83)).alloc (.cells #[.int .i64 0, .int .i64 0, .int .i64 0] 61)) := b0.alloc (by simp) _
 obtain ⟨c0, _, _, _, _⟩ := (h.below b1).c
 obtain ⟨n0, _⟩ := h.fq.few
 generalize q.L.length = n at *
 have hw1 : IntKind.i64.wrap ((n : Int) - 1) = (n : Int) - 1 := by rw [IntKind.wrap_i64]; omega
 have hs1 : ((w.alloc (.cells #[.slice io ni ci, .slice ro nr cr] 83)).alloc (.cells #[.int .i64 0, .int .i64 0, .int .i64 0] 61)).cell? ⟨w.heap.size, 1, none⟩ = some (.slice ro nr cr) := by
  refine cell_at (t := 83) (fr := (0, 0)) (cs := #[.slice io ni ci, .slice ro nr cr]) ?_ 1 rfl
  have := ((Below.refl _ _).alloc (Nat.le_refl _) (.cells #[.int .i64 0, .int .i64 0, .int .i64 0] 61) : Below (w.alloc (.cells #[.slice io ni ci, .slice ro nr cr] 83)).heap.size (w.alloc (.cells #[.slice io ni ci, .slice ro nr cr] 83)) _).block w.heap.size (by simp)
  rw [this]
  exact new_block w _
 have HB : Hid (type_of% b1) := b1
 clear h b0 b1
 go_enter Tryz.func31, Tryz.ntmps31
 go_wp2
 go_region
 go_wp2
 refine bodyPost_ret (results_cell_row rfl _ _ (w.heap.size + 1) 61 #[.int .i64 ((n : Int) - 1), .int .i64 (nr : Int), .int .i64 0] (0, 0) _ rfl (by have := jmp_row (w.alloc (.cells #[.slice io ni ci, .slice ro nr cr] 83)) (.int .i64 ((n : Int) - 1)) (.int .i64 (nr : Int)) (.int .i64 0); simpa using this) Tryz.underlying61 rfl infoJmp) rfl ?_
 exact ⟨rfl, (((Below.refl _ _).alloc (Nat.le_refl _) _).alloc (by simp) _).drew⟩
def FQ.to (q : FQ) (i : Nat) : JmpD := if (q.L[i]!).op = 3 then ⟨i, 0, q.hgt i⟩ else ⟨q.E.getD i 0, keptV (q.L[i]!).A, q.hgt i⟩
theorem fwayTo {w : World} {N P : Nat} {q : FQ} {oo : Option Addr} {oc : Nat} {J : List JmpD} (h : TW w N P q oo oc J) (i : Nat) (hi : i < q.L.length) (hA : 0 ≤ (q.L[i]!).A ∧ (q.L[i]!).A ≤ 255) :
  Calls Tryz.prog 59 #[.pointer (some ⟨P, 0, none⟩), .int .i64 (i : Int)] w fun r w' => r = .returned (q.to i).v ∧ Below w.heap.size w w' := by
 have hi0 : (0 : Int) ≤ (i : Int) := by omega
 have hi1 : (i : Int) < (q.L.length : Int) := by omega
 obtain ⟨n0, n1, n2, _⟩ := h.fq.few
 have b0 : Below w.heap.size w (w.alloc (.cells #[.int .i64 0, .int .i64 0, .int .i64 0] 61)) := (Below.refl _ _).alloc (Nat.le_refl _) _
 have hS : ∀ W, Below w.heap.size w W → TW W N P q oo oc J := fun W b => h.below b
 have HT : Hid (∀ W, Below w.heap.size w W → TW W N P q oo oc J) := hS
 have HC : Hid (∀ W, Below w.heap.size w W → W.cell? ⟨P, 0, none⟩ = some (.slice (some ⟨q.bL, q.fL, none⟩) q.L.length q.cL) ∧ W.cell? ⟨P, 2, none⟩ = some (.slice (some ⟨q.gE, 0, none⟩) q.L.length q.L.length) ∧ W.cell? ⟨q.gE, i, none⟩ = some (.int .i64 (q.E.getD i 0)) ∧ W.cell? ⟨q.bL, q.fL + i * 4, none⟩ = some (.int .u8 (q.L[i]!).op) ∧ W.cell? ⟨q.bL, q.fL + i * 4 + 1, none⟩ = some (.int .i64 (q.L[i]!).A) ∧ W.cell? ⟨q.bL, q.fL + i * 4 + 2, none⟩ = some (.int .i64 (q.L[i]!).B) ∧ W.cell? ⟨q.bL, q.fL + i * 4 + 3, none⟩ = some (.slice (q.L[i]!).o (q.L[i]!).n (q.L[i]!).cap)) := fun W b => ⟨(hS W b).c.1, (hS W b).c.2.2.1, (hS W b).fq.e i hi, (hS W b).fq.l i hi⟩
 have HBL : Hid (∀ W, Below w.heap.size w W → Calls Tryz.prog 102 #[.pointer (some ⟨P, 0, none⟩), .int .i64 (i : Int)] W fun r w' => r = .returned (.int .i64 (q.hgt i)) ∧ w' = W) := fun W b => fbelow (hS W b) i hi
 have HV : Hid ((q.to i).v = (if (q.L[i]!).op = 3 then ⟨i, 0, q.hgt i⟩ else ⟨q.E.getD i 0, keptV (q.L[i]!).A, q.hgt i⟩ : JmpD).v) := rfl
 have HK : Hid (∀ W, Calls Tryz.prog 103 #[.int .u8 (q.L[i]!).A] W fun r w' => r = .returned (.int .i64 (keptV (q.L[i]!).A)) ∧ w' = W) := fun W => fkept _ W
 obtain ⟨k0, k1, k2, k3, k4, k5, k6⟩ := HC.out _ b0
 have hz : (w.alloc (.cells #[.int .i64 0, .int .i64 0, .int .i64 0] 61)).heap.size = w.heap.size + 1 := by simp
 have HZ : Hid (type_of% hz) := hz
 have hw8 : IntKind.u8.wrap (q.L[i]!).A = (q.L[i]!).A := by rw [IntKind.wrap_u8]; omega
 have HW8 : Hid (type_of% hw8) := hw8
 generalize (q.to i).v = V at *
 generalize q.hgt i = hg at *
 generalize (q.L[i]!).op = op at *
 generalize (q.L[i]!).A = A at *
 generalize (q.L[i]!).B = B at *
 generalize (q.L[i]!).o = xo at *
 generalize (q.L[i]!).n = xn at *
 generalize (q.L[i]!).cap = xc at *
 generalize q.E.getD i 0 = e at *
 clear h hS b0 hA hz
 by_cases c : op = 3
 ·have hc : (op == 3) = true := by simp [c]
  have HR : Hid (V = .agg #[.int .i64 i, .int .i64 0, .int .i64 hg]) := by unfold Hid; rw [HV.out, if_pos c]; rfl
  clear HV c HK hw8 HW8
  go_enter Tryz.func59, Tryz.ntmps59
  go_wp2_with fail
  go_region_held3 (fun w' => w'.cell? ⟨P, 0, none⟩ = some (.slice (some ⟨q.bL, q.fL, none⟩) q.L.length q.cL) ∧ w'.cell? ⟨q.bL, q.fL + i * 4, none⟩ = some (.int .u8 op) ∧ w'.cell? ⟨q.bL, q.fL + i * 4 + 1, none⟩ = some (.int .i64 A) ∧ w'.cell? ⟨q.bL, q.fL + i * 4 + 2, none⟩ = some (.int .i64 B) ∧ w'.cell? ⟨q.bL, q.fL + i * 4 + 3, none⟩ = some (.slice xo xn xc))
   (first | (exact ⟨(HC.out _ bch).1, (HC.out _ bch).2.2.2⟩) | go_keep)
   ((go_at_call 102; refine (HBL.out _ bch).mono ?_; rintro r w1 ⟨rfl, rfl⟩))
  all_goals
   go_wp2
   refine bodyPost_ret (results_cell_row rfl _ _ w.heap.size 61 #[.int .i64 (i : Int), .int .i64 0, .int .i64 hg] (0, 0) _ rfl (jmp_row2 _ _ _ _ _) Tryz.underlying61 rfl infoJmp) rfl ?_
   exact ⟨by rw [HR.out], bch⟩
 ·have hc : (op == 3) = false := by simp [c]
  have HR : Hid (V = .agg #[.int .i64 e, .int .i64 (keptV A), .int .i64 hg]) := by unfold Hid; rw [HV.out, if_neg c]; rfl
  generalize keptV A = kv at *
  have HX : Hid (∀ x y z W, Below ((w.alloc (.cells #[x, y, z] 61)).alloc (.cells #[.int .u8 op, .int .i64 A, .int .i64 B, .slice xo xn xc] 53)).heap.size ((w.alloc (.cells #[x, y, z] 61)).alloc (.cells #[.int .u8 op, .int .i64 A, .int .i64 B, .slice xo xn xc] 53)) W → W.cell? ⟨P, 2, none⟩ = some (.slice (some ⟨q.gE, 0, none⟩) q.L.length q.L.length) ∧ W.cell? ⟨q.gE, i, none⟩ = some (.int .i64 e) ∧ W.cell? ⟨w.heap.size + 1, 1, none⟩ = some (.int .i64 A)) := fun x y z W b => by
   have h0 := HC.out W ((((Below.refl _ _).alloc (Nat.le_refl _) _).alloc (by simp) _).trans (b.mono (by simp; omega)))
   refine ⟨h0.2.1, h0.2.2.1, ?_⟩
   refine cell_at (t := 53) (fr := (0, 0)) (cs := #[.int .u8 op, .int .i64 A, .int .i64 B, .slice xo xn xc]) ?_ 1 rfl
   have h1 := b.block (w.heap.size + 1) (by simp)
   rw [h1]
   have h2 := new_block (w.alloc (.cells #[x, y, z] 61)) (.cells #[.int .u8 op, .int .i64 A, .int .i64 B, .slice xo xn xc] 53)
   rw [show (w.alloc (.cells #[x, y, z] 61)).heap.size = w.heap.size + 1 by simp] at h2
   exact h2
  clear HV c hw8
  go_enter Tryz.func59, Tryz.ntmps59
  go_wp2_with fail
  go_region_held3 (fun w' => w'.cell? ⟨P, 0, none⟩ = some (.slice (some ⟨q.bL, q.fL, none⟩) q.L.length q.cL) ∧ w'.cell? ⟨q.bL, q.fL + i * 4, none⟩ = some (.int .u8 op) ∧ w'.cell? ⟨q.bL, q.fL + i * 4 + 1, none⟩ = some (.int .i64 A) ∧ w'.cell? ⟨q.bL, q.fL + i * 4 + 2, none⟩ = some (.int .i64 B) ∧ w'.cell? ⟨q.bL, q.fL + i * 4 + 3, none⟩ = some (.slice xo xn xc))
   (first | (exact ⟨(HC.out _ bch).1, (HC.out _ bch).2.2.2⟩) | go_keep)
   ((go_at_call 102; refine (HBL.out _ bch).mono ?_; rintro r w1 ⟨rfl, rfl⟩))
  all_goals
   have hw8 := HW8.out
   go_wp2_with fail
   go_region_held3 (fun w' => w'.cell? ⟨P, 2, none⟩ = some (.slice (some ⟨q.gE, 0, none⟩) q.L.length q.L.length) ∧ w'.cell? ⟨q.gE, i, none⟩ = some (.int .i64 e) ∧ w'.cell? ⟨w.heap.size + 1, 1, none⟩ = some (.int .i64 A))
    (first | (refine HX.out (.int .i64 0) (.int .i64 0) (.int .i64 0) _ ?_; (repeat' (first | with_reducible exact Below.refl _ _ | with_reducible refine Below.drew ?_)); done) | (refine HX.out (.int .i64 e) (.int .i64 kv) (.int .i64 hg) _ ?_; (repeat' (first | with_reducible exact Below.refl _ _ | with_reducible refine Below.drew ?_)); done) | go_keep)
    ((go_at_call 103; refine (HK.out _).mono ?_; rintro r w1 ⟨rfl, rfl⟩))
   all_goals
    go_wp2
    refine bodyPost_ret (results_cell_row rfl _ _ w.heap.size 61 #[.int .i64 e, .int .i64 kv, .int .i64 hg] (0, 0) _ rfl (jmp_row2 _ _ _ _ _) Tryz.underlying61 rfl infoJmp) rfl ?_
    exact ⟨by rw [HR.out], bch⟩
end Go.Proofs.YtlfihndbnaaodaaGreatDoor
namespace Go.Proofs.YtlfihndbnaaodaaGreatDoor
open Go.RowKit
set_option linter.unusedVariables false
def FQ.past (q : FQ) (i : Nat) : JmpD := if q.S.getD i 0 = -1 then ⟨q.E.getD i 0, 0, q.hgt i⟩ else ⟨q.S.getD i 0 + 1, 0, q.hgt i⟩
theorem fwayPast {w : World} {N P : Nat} {q : FQ} {oo : Option Addr} {oc : Nat} {J : List JmpD} (h : TW w N P q oo oc J) (i : Nat) (hi : i < q.L.length) (hS : -1 ≤ q.S.getD i 0 ∧ q.S.getD i 0 ≤ 1000) :
  Calls Tryz.prog 101 #[.pointer (some ⟨P, 0, none⟩), .int .i64 (i : Int)] w fun r w' => r = .returned (q.past i).v ∧ Below w.heap.size w w' := by
 have hi0 : (0 : Int) ≤ (i : Int) := by omega
 have hi1 : (i : Int) < (q.L.length : Int) := by omega
 obtain ⟨n0, n1, n2, _⟩ := h.fq.few
 have b0 : Below w.heap.size w (w.alloc (.cells #[.int .i64 0, .int .i64 0, .int .i64 0] 61)) := (Below.refl _ _).alloc (Nat.le_refl _) _
 have HC : Hid (∀ W, Below w.heap.size w W → W.cell? ⟨P, 2, none⟩ = some (.slice (some ⟨q.gE, 0, none⟩) q.L.length q.L.length) ∧ W.cell? ⟨q.gE, i, none⟩ = some (.int .i64 (q.E.getD i 0)) ∧ W.cell? ⟨P, 3, none⟩ = some (.slice (some ⟨q.gS, 0, none⟩) q.L.length q.L.length) ∧ W.cell? ⟨q.gS, i, none⟩ = some (.int .i64 (q.S.getD i 0))) := fun W b => ⟨(h.below b).c.2.2.1, (h.below b).fq.e i hi, (h.below b).c.2.2.2.1, (h.below b).fq.t i hi⟩
 have HBL : Hid (∀ W, Below w.heap.size w W → Calls Tryz.prog 102 #[.pointer (some ⟨P, 0, none⟩), .int .i64 (i : Int)] W fun r w' => r = .returned (.int .i64 (q.hgt i)) ∧ w' = W) := fun W b => fbelow (h.below b) i hi
 have HV : Hid ((q.past i).v = (if q.S.getD i 0 = -1 then ⟨q.E.getD i 0, 0, q.hgt i⟩ else ⟨q.S.getD i 0 + 1, 0, q.hgt i⟩ : JmpD).v) := rfl
 obtain ⟨k0, k1, k2, k3⟩ := HC.out _ b0
 generalize (q.past i).v = V at *
 generalize q.hgt i = hg at *
 generalize q.E.getD i 0 = e at *
 generalize q.S.getD i 0 = s at *
 clear h b0
 by_cases c : s = -1
 ·have hc : (s == -1) = true := by simp [c]
  have HR : Hid (V = .agg #[.int .i64 e, .int .i64 0, .int .i64 hg]) := by unfold Hid; rw [HV.out, if_pos c]; rfl
  clear HV c hS
  go_enter Tryz.func101, Tryz.ntmps101
  go_wp2_with fail
  go_region_held3 (fun w' => w'.cell? ⟨P, 2, none⟩ = some (.slice (some ⟨q.gE, 0, none⟩) q.L.length q.L.length) ∧ w'.cell? ⟨q.gE, i, none⟩ = some (.int .i64 e))
   (first | (exact ⟨(HC.out _ bch).1, (HC.out _ bch).2.1⟩) | go_keep)
   ((go_at_call 102; refine (HBL.out _ bch).mono ?_; rintro r w1 ⟨rfl, rfl⟩))
  all_goals
   go_wp2
   refine bodyPost_ret (results_cell_row rfl _ _ w.heap.size 61 #[.int .i64 e, .int .i64 0, .int .i64 hg] (0, 0) _ rfl (jmp_row _ _ _ _) Tryz.underlying61 rfl infoJmp) rfl ?_
   exact ⟨by rw [HR.out], bch⟩
 ·have hc : (s == -1) = false := by simp [c]
  have HR : Hid (V = .agg #[.int .i64 (s + 1), .int .i64 0, .int .i64 hg]) := by unfold Hid; rw [HV.out, if_neg c]; rfl
  have hw1 : ∀ z : Int, z = s + 1 → IntKind.i64.wrap z = s + 1 := fun z hz => by rw [hz, IntKind.wrap_i64]; omega
  clear HV c
  go_enter Tryz.func101, Tryz.ntmps101
  go_wp2_with fail
  go_region_held3 (fun w' => w'.cell? ⟨P, 3, none⟩ = some (.slice (some ⟨q.gS, 0, none⟩) q.L.length q.L.length) ∧ w'.cell? ⟨q.gS, i, none⟩ = some (.int .i64 s))
   (first | (exact ⟨(HC.out _ bch).2.2.1, (HC.out _ bch).2.2.2⟩) | go_keep)
   ((go_at_call 102; refine (HBL.out _ bch).mono ?_; rintro r w1 ⟨rfl, rfl⟩))
  all_goals
   go_wp2
   refine bodyPost_ret (results_cell_row rfl _ _ w.heap.size 61 #[.int .i64 (s + 1), .int .i64 0, .int .i64 hg] (0, 0) _ rfl (jmp_row _ _ _ _) Tryz.underlying61 rfl infoJmp) rfl ?_
   exact ⟨by rw [HR.out], bch⟩
theorem infoJ9 : (Tryz.prog.info? 61).map (fun i => (i.zero, i.size, i.bytes)) = some (some (.agg #[.int .i64 0, .int .i64 0, .int .i64 0]), 3, 24) := by kernel_rfl
theorem row_more {w wr w3 : World} {o : Option Addr} {k cap : Nat} {g c : Nat} {X : List JmpD} {j : JmpD} (hb : Below w.heap.size w wr) (hr : wr.ownsRow w.heap.size 61 3 (.slice o k cap) k (X.flatMap JmpD.cells)) (hX : X.length = k)
  (hown : w3.ownsRow w.heap.size 61 3 (.slice (some ⟨g, 0, none⟩) (k + 1) c) (k + 1) (X.flatMap JmpD.cells ++ j.cells)) (hgrow : wr.grownBy w3 (Value.slice o k cap).ownBlock) : Below w.heap.size w w3 ∧ w3.ownsRow w.heap.size 61 3 (.slice (some ⟨g, 0, none⟩) (k + 1) c) (k + 1) ((X ++ [j]).flatMap JmpD.cells) :=
 ⟨hb.grown hgrow hb.size (fun i hi => own_base2 hr hi), by rw [List.flatMap_append]; simpa using hown⟩
theorem fchoices {w : World} {N P : Nat} {q : FQ} {oo : Option Addr} {oc : Nat} {J : List JmpD} (h : TW w N P q oo oc J) (hJ : J.length ≤ 1000) (op a b : Int) (xo : Option Addr) (xn xc : Nat) (xs : List Int) (hxl : xs.length = xn) (hlj : LJ1 w xo xs) (hxc : xn ≤ xc ∧ xc ≤ 9223372036854775807) (hxn : xn ≤ 1000) (ha : 0 ≤ a ∧ a < (J.length : Int)) (hxs : ∀ x ∈ xs, 0 ≤ x ∧ x < (J.length : Int)) :
  Calls Tryz.prog 100 #[.pointer (some ⟨P, 0, none⟩), .agg #[.int .u8 op, .int .i64 a, .int .i64 b, .slice xo xn xc]] w fun r w' => ∃ g cap, r = .returned (.slice (some ⟨g, 0, none⟩) (xn + 1) cap) ∧ w'.ownsRow w.heap.size 61 3 (.slice (some ⟨g, 0, none⟩) (xn + 1) cap) (xn + 1) (((xs ++ [a]).map (outV J)).flatMap JmpD.cells) ∧ Below w.heap.size w w' := by
 obtain ⟨v, hv⟩ : ∃ v, v = w.alloc (.cells #[.int .u8 op, .int .i64 a, .int .i64 b, .slice xo xn xc] 53) := ⟨_, rfl⟩
 have hvs : v.heap.size = w.heap.size + 1 := by rw [hv]; simp
 have b0 : Below w.heap.size w v := by rw [hv]; exact (Below.refl _ _).alloc (Nat.le_refl _) _
 have nb : v.heap[w.heap.size]? = some (.cells #[.int .u8 op, .int .i64 a, .int .i64 b, .slice xo xn xc] 53 (0, 0)) := by rw [hv]; exact new_block w _
 have HV : Hid (v = w.alloc (.cells #[.int .u8 op, .int .i64 a, .int .i64 b, .slice xo xn xc] 53)) := hv
 have HO : Hid (∀ W, Below v.heap.size v W → ∀ x : Int, 0 ≤ x → x < (J.length : Int) → Calls Tryz.prog 99 #[.pointer (some ⟨P, 0, none⟩), .int .i64 x] W fun r w' => r = .returned (.agg #[.int .i64 (outV J x).a, .int .i64 (outV J x).k, .int .i64 (outV J x).h]) ∧ Below W.heap.size W w') := fun W b x h0 h1 => fout (h.below (b0.trans (b.mono b0.size))) x h0 h1 hJ
 have HX : Hid (∀ W, Below v.heap.size v W → W.cell? ⟨w.heap.size, 1, none⟩ = some (.int .i64 a)) := fun W b => cell_at ((b.block w.heap.size (by omega)).trans nb) 1 rfl
 have HXS : Hid (∀ x ∈ xs, 0 ≤ x ∧ x < (J.length : Int)) := hxs
 have HXL : Hid (xs.length = xn) := hxl
 have HB0 : Hid (Below w.heap.size w v ∧ w.heap.size ≤ v.heap.size) := ⟨b0, b0.size⟩
 have hLJ : xs = [] ∨ ∃ bb f, xo = some ⟨bb, f, none⟩ ∧ ∀ W, Below v.heap.size v W → ∀ k (hk : k < xs.length), W.cell? ⟨bb, f + k, none⟩ = some (.int .i64 xs[k]) := by
  rcases hlj with h0 | ⟨bb, f, h1, h2, h3⟩
  ·exact Or.inl h0
  ·exact Or.inr ⟨bb, f, h1, fun W b k hk => ((b0.trans (b.mono b0.size)).cell (p := ⟨bb, f + k, none⟩) h2).trans (h3 k hk)⟩
 have HLJ : Hid (type_of% hLJ) := hLJ
 have HA : Hid (0 ≤ a ∧ a < (J.length : Int)) := ha
 have x3 : v.cell? ⟨w.heap.size, 3, none⟩ = some (.slice xo xn xc) := cell_at nb 3 rfl
 obtain ⟨i0, hi9, hz0, hz1, hz2⟩ := info_parts infoJ9
 obtain ⟨hxc0, hxc1⟩ := hxc
 clear h hlj hxs ha b0 nb hxl hLJ hvs
 go_enter Tryz.func100, Tryz.ntmps100
 rw [hv] at x3
 go_wp2_with fail
 rw [← HV.out]
 clear hv x3
 go_loopw [5, 11] (fun sv i wr => ∃ (k cap : Nat) (o : Option Addr), i = .int .i64 k ∧ sv = .slice o k cap ∧ k ≤ xn ∧ Hid (wr.ownsRow v.heap.size 61 3 (.slice o k cap) k (((xs.map (outV J)).take k).flatMap JmpD.cells)) ∧ Hid (Below v.heap.size v wr)) (fun _ i _ => xn - (intOf i).toNat)
 case atStart => exact ⟨0, 0, none, rfl, rfl, by omega, World.ownsRow_nil _ _ _ _, Below.refl _ _⟩
 case round =>
  obtain ⟨k, cap, o, rfl, rfl, hk, HR, HB⟩ := hrel
  by_cases hlt : k < xn
  ·have hkl : k < xs.length := by rw [HXL.out]; exact hlt
   have hki0 : (0 : Int) ≤ (k : Int) := by omega
   have hki1 : (k : Int) < (xn : Int) := by omega
   rcases HLJ.out with h0 | ⟨bb, f, rfl, hcs⟩
   ·exfalso; rw [h0] at hkl; simp at hkl
   have e0 := hcs wr HB.out k hkl
   obtain ⟨y0, y1⟩ := HXS.out _ (List.getElem_mem hkl)
   have HTK : Hid ((xs.map (outV J)).take (k + 1) = (xs.map (outV J)).take k ++ [outV J xs[k]]) := by
    unfold Hid
    rw [List.take_succ_eq_append_getElem (by rw [List.length_map]; exact hkl), List.getElem_map]
   have HLK : Hid (((xs.map (outV J)).take k).length = k) := by unfold Hid; simp; omega
   have HO1 : Hid (type_of% (HO.out wr HB.out _ y0 y1)) := HO.out wr HB.out _ y0 y1
   generalize xs[k] = x at *
   have hsz := HB.out.size
   clear hcs y0 y1
   go_wp2_with fail
   refine HO1.out.mono ?_
   rintro r w2 ⟨rfl, b2⟩
   have HB2 : Hid (Below v.heap.size v w2 ∧ v.heap.size ≤ w2.heap.size) := ⟨HB.out.trans (b2.mono hsz), (HB.out.trans (b2.mono hsz)).size⟩
   have HR2 : Hid (w2.ownsRow v.heap.size 61 3 (.slice o k cap) k (((xs.map (outV J)).take k).flatMap JmpD.cells)) := own_below HR.out b2
   clear b2 HO1 e0 HR HB
   go_wp2_with (at_builtin; refine wpList_append_lies _ rfl _ _ 54 rfl v.heap.size 61 i0 (.agg #[.int .i64 0, .int .i64 0, .int .i64 0]) 3 24 Tryz.underlying54 hi9 hz0 hz1 hz2 rfl (by decide) _ k (((xs.map (outV J)).take k).flatMap JmpD.cells) rfl (HR2.out.alloc _) ⟨_, 0, none⟩ 1 1 [.int .i64 (outV J x).a, .int .i64 (outV J x).k, .int .i64 (outV J x).h] rfl rfl (World.news_of_block (cs := #[.int .i64 (outV J x).a, .int .i64 (outV J x).k, .int .i64 (outV J x).h]) (t := 61) (fr := (0, 0)) (heap_alloc_new _ _)) ?one ?a2 ?a3 ?a4 ?base _ rfl ?_)
   case one => simp [Value.oneCell']
   case a2 => decide
   case a3 => (unfold maxLen; omega)
   case a4 => omega
   case base => (have := HB2.out.2; simp; omega)
   intro g3 c3 w3 hown hgrow hat hlt3
   have hm := row_more (j := outV J x) (HB2.out.1.alloc HB2.out.2 _) (HR2.out.alloc _) HLK.out hown hgrow
   have HR3 : Hid (type_of% hm.2) := hm.2
   have HB3 : Hid (Below v.heap.size v w3) := hm.1
   clear hm hown hgrow hat hlt3 hsz HR2 HB2
   go_wp2
   go_roundw
   case rel => exact ⟨k + 1, _, _, by go_num, rfl, by omega, by rw [HTK.out]; exact HR3, HB3⟩
   case measure => simp [intOf]; omega
  ·obtain rfl : k = xn := by omega
   have hx1 := HX.out wr HB.out
   have HTK : Hid ((xs.map (outV J)).take k = xs.map (outV J)) := by
    unfold Hid
    rw [List.take_of_length_le (by rw [List.length_map, HXL.out]; exact Nat.le_refl _)]
   rw [HTK.out] at HR
   have HLK : Hid ((xs.map (outV J)).length = k) := by unfold Hid; rw [List.length_map]; exact HXL.out
   have HO1 : Hid (type_of% (HO.out wr HB.out _ HA.out.1 HA.out.2)) := HO.out wr HB.out _ HA.out.1 HA.out.2
   have hsz := HB.out.size
   go_wp2_with fail
   refine HO1.out.mono ?_
   rintro r w2 ⟨rfl, b2⟩
   have HB2 : Hid (Below v.heap.size v w2 ∧ v.heap.size ≤ w2.heap.size) := ⟨HB.out.trans (b2.mono hsz), (HB.out.trans (b2.mono hsz)).size⟩
   have HR2 : Hid (w2.ownsRow v.heap.size 61 3 (.slice o k cap) k ((xs.map (outV J)).flatMap JmpD.cells)) := own_below HR.out b2
   clear b2 HO1 HR HB hx1
   go_wp2_with (at_builtin; refine wpList_append_lies _ rfl _ _ 54 rfl v.heap.size 61 i0 (.agg #[.int .i64 0, .int .i64 0, .int .i64 0]) 3 24 Tryz.underlying54 hi9 hz0 hz1 hz2 rfl (by decide) _ k ((xs.map (outV J)).flatMap JmpD.cells) rfl (HR2.out.alloc _) ⟨_, 0, none⟩ 1 1 [.int .i64 (outV J a).a, .int .i64 (outV J a).k, .int .i64 (outV J a).h] rfl rfl (World.news_of_block (cs := #[.int .i64 (outV J a).a, .int .i64 (outV J a).k, .int .i64 (outV J a).h]) (t := 61) (fr := (0, 0)) (heap_alloc_new _ _)) ?one ?a2 ?a3 ?a4 ?base _ rfl ?_)
   case one => simp [Value.oneCell']
   case a2 => decide
   case a3 => (unfold maxLen; omega)
   case a4 => omega
   case base => (have := HB2.out.2; simp; omega)
   intro g3 c3 w3 hown hgrow hat hlt3
   have hm := row_more (j := outV J a) (HB2.out.1.alloc HB2.out.2 _) (HR2.out.alloc _) HLK.out hown hgrow
   have HR3 : Hid (type_of% hm.2) := hm.2
   have HB3 : Hid (Below v.heap.size v w3) := hm.1
   clear hm hown hgrow hat hlt3 hsz HR2 HB2
   go_wp2
   refine bodyPost_ret (results_tmp rfl _ _ _) rfl ?_
   exact ⟨g3, c3, rfl, by rw [List.map_append]; exact own_low HR3.out HB0.out.2, HB0.out.1.trans (HB3.out.mono HB0.out.2)⟩
end Go.Proofs.YtlfihndbnaaodaaGreatDoor
namespace Go.Proofs.YtlfihndbnaaodaaGreatDoor
open Go.RowKit
set_option linter.unusedVariables false
def FQ.ways (q : FQ) (J : List JmpD) (i : Nat) : List JmpD :=
 if (q.L[i]!).op = 12 ∨ (q.L[i]!).op = 13 then [outV J (q.L[i]!).A]
 else if (q.L[i]!).op = 14 then ((q.L[i]!).xs ++ [(q.L[i]!).A]).map (outV J)
 else if (q.L[i]!).op = 15 then [J[0]!]
 else if (q.L[i]!).op = 4 then [q.past i]
 else if (q.L[i]!).op = 5 then [outV J 0]
 else []
structure FQ.fine (q : FQ) (J : List JmpD) (i : Nat) : Prop where
 far : (q.L[i]!).op = 12 ∨ (q.L[i]!).op = 13 ∨ (q.L[i]!).op = 14 → 0 ≤ (q.L[i]!).A ∧ (q.L[i]!).A < (J.length : Int)
 fars : (q.L[i]!).op = 14 → ∀ x ∈ (q.L[i]!).xs, 0 ≤ x ∧ x < (J.length : Int)
 some' : 0 < J.length
 turn : (q.L[i]!).op = 4 → -1 ≤ q.S.getD i 0 ∧ q.S.getD i 0 ≤ 1000
def WayOut (w : World) (X : List JmpD) (r : Ending) (w' : World) : Prop := ∃ (o : Option Addr) (cap : Nat), r = .returned (.slice o X.length cap) ∧ w'.ownsRow w.heap.size 61 3 (.slice o X.length cap) X.length (X.flatMap JmpD.cells) ∧ Below w.heap.size w w'
theorem way_one (w w1 : World) (j : JmpD) (b : Below w.heap.size w w1) : WayOut w [j] (.returned (.slice (some ⟨w1.heap.size, 0, none⟩) 1 1)) (w1.alloc (.cells #[.int .i64 j.a, .int .i64 j.k, .int .i64 j.h] 61)) :=
 ⟨_, 1, rfl, World.ownsRow_lit w1 #[.int .i64 j.a, .int .i64 j.k, .int .i64 j.h] 1 b.size (by unfold maxLen; omega) rfl, b.alloc b.size _⟩
theorem fways {w : World} {N P : Nat} {q : FQ} {oo : Option Addr} {oc : Nat} {J : List JmpD} (h : TW w N P q oo oc J) (hJ : J.length ≤ 1000) (i : Nat) (hi : i < q.L.length) (hf : q.fine J i) (hok : (q.L[i]!).ok w) (hxn : (q.L[i]!).n ≤ 1000) :
  Calls Tryz.prog 58 #[.pointer (some ⟨P, 0, none⟩), .int .i64 (i : Int)] w (WayOut w (q.ways J i)) := by
 have hi0 : (0 : Int) ≤ (i : Int) := by omega
 have hi1 : (i : Int) < (q.L.length : Int) := by omega
 obtain ⟨n0, n1, n2, _⟩ := h.fq.few
 obtain ⟨c0, _, _, _, _⟩ := h.c
 obtain ⟨l0, l1, l2, l3⟩ := h.fq.l i hi
 obtain ⟨v, hv⟩ : ∃ v, v = w.alloc (.cells #[.int .u8 (q.L[i]!).op, .int .i64 (q.L[i]!).A, .int .i64 (q.L[i]!).B, .slice (q.L[i]!).o (q.L[i]!).n (q.L[i]!).cap] 53) := ⟨_, rfl⟩
 have b0 : Below w.heap.size w v := by rw [hv]; exact (Below.refl _ _).alloc (Nat.le_refl _) _
 have nb : v.heap[w.heap.size]? = some (.cells #[.int .u8 (q.L[i]!).op, .int .i64 (q.L[i]!).A, .int .i64 (q.L[i]!).B, .slice (q.L[i]!).o (q.L[i]!).n (q.L[i]!).cap] 53 (0, 0)) := by rw [hv]; exact new_block w _
 have HV : Hid (v = w.alloc (.cells #[.int .u8 (q.L[i]!).op, .int .i64 (q.L[i]!).A, .int .i64 (q.L[i]!).B, .slice (q.L[i]!).o (q.L[i]!).n (q.L[i]!).cap] 53)) := hv
 have HB0 : Hid (Below w.heap.size w v) := b0
 have HOF : Hid ((q.L[i]!).op = 12 ∨ (q.L[i]!).op = 13 → Calls Tryz.prog 99 #[.pointer (some ⟨P, 0, none⟩), .int .i64 (q.L[i]!).A] v fun r w' => r = .returned (.agg #[.int .i64 (outV J (q.L[i]!).A).a, .int .i64 (outV J (q.L[i]!).A).k, .int .i64 (outV J (q.L[i]!).A).h]) ∧ Below v.heap.size v w') := fun c => fout (h.below b0) _ (hf.far (by omega)).1 (hf.far (by omega)).2 hJ
 have HO0 : Hid (Calls Tryz.prog 99 #[.pointer (some ⟨P, 0, none⟩), .int .i64 0] v fun r w' => r = .returned (.agg #[.int .i64 (outV J 0).a, .int .i64 (outV J 0).k, .int .i64 (outV J 0).h]) ∧ Below v.heap.size v w') := fout (h.below b0) _ (by omega) (by have := hf.some'; omega) hJ
 have HPA : Hid ((q.L[i]!).op = 4 → Calls Tryz.prog 101 #[.pointer (some ⟨P, 0, none⟩), .int .i64 (i : Int)] v fun r w' => r = .returned (.agg #[.int .i64 (q.past i).a, .int .i64 (q.past i).k, .int .i64 (q.past i).h]) ∧ Below v.heap.size v w') := fun c => fwayPast (h.below b0) i hi (hf.turn c)
 have HCH : Hid ((q.L[i]!).op = 14 → Calls Tryz.prog 100 #[.pointer (some ⟨P, 0, none⟩), .agg #[.int .u8 (q.L[i]!).op, .int .i64 (q.L[i]!).A, .int .i64 (q.L[i]!).B, .slice (q.L[i]!).o (q.L[i]!).n (q.L[i]!).cap]] v fun r w' => ∃ g cap, r = .returned (.slice (some ⟨g, 0, none⟩) ((q.L[i]!).n + 1) cap) ∧ w'.ownsRow v.heap.size 61 3 (.slice (some ⟨g, 0, none⟩) ((q.L[i]!).n + 1) cap) ((q.L[i]!).n + 1) ((((q.L[i]!).xs ++ [(q.L[i]!).A]).map (outV J)).flatMap JmpD.cells) ∧ Below v.heap.size v w') := fun c =>
  fchoices (h.below b0) hJ _ _ _ _ _ _ _ hok.lj.1 (hok.lj.one.below b0) ⟨hok.cap, by have := hok.most; unfold maxLen at this; exact this⟩ hxn (hf.far (by omega)) (hf.fars c)
 have HXL : Hid ((q.L[i]!).xs.length = (q.L[i]!).n) := hok.lj.1
 have HW : Hid (q.ways J i = if (q.L[i]!).op = 12 ∨ (q.L[i]!).op = 13 then [outV J (q.L[i]!).A] else if (q.L[i]!).op = 14 then ((q.L[i]!).xs ++ [(q.L[i]!).A]).map (outV J) else if (q.L[i]!).op = 15 then [J[0]!] else if (q.L[i]!).op = 4 then [q.past i] else if (q.L[i]!).op = 5 then [outV J 0] else []) := rfl
 obtain ⟨g, rfl, hNg, hgl, hgP, m0, m1, cl⟩ := (h.below b0).row hf.some'
 obtain ⟨r0, r1, r2⟩ := cl 0 hf.some'
 have v4 : v.cell? ⟨P, 4, none⟩ = some (.slice (some ⟨g, 0, none⟩) J.length oc) := (h.below b0).c.2.2.2.2
 have hj0 : 0 < (J.length : Int) := by have := hf.some'; omega
 rw [Nat.zero_mul] at r0
 rw [Nat.zero_mul] at r1 r2
 have x0 := cell_at nb 0 rfl
 have x1 := cell_at nb 1 rfl
 have x2 := cell_at nb 2 rfl
 have x3 := cell_at nb 3 rfl
 have hJ0 : [J[0]!] = [(⟨(J[0]!).a, (J[0]!).k, (J[0]!).h⟩ : JmpD)] := rfl
 have hP0 : [q.past i] = [(⟨(q.past i).a, (q.past i).k, (q.past i).h⟩ : JmpD)] := rfl
 have hO0 : [outV J 0] = [(⟨(outV J 0).a, (outV J 0).k, (outV J 0).h⟩ : JmpD)] := rfl
 have hOA : [outV J (q.L[i]!).A] = [(⟨(outV J (q.L[i]!).A).a, (outV J (q.L[i]!).A).k, (outV J (q.L[i]!).A).h⟩ : JmpD)] := rfl
 rw [hJ0, hP0, hO0, hOA] at HW
 generalize q.ways J i = X at *
 generalize (q.past i).a = pa at *
 generalize (q.past i).k = pk at *
 generalize (q.past i).h = ph at *
 generalize (J[0]!).a = ja at *
 generalize (J[0]!).k = jk at *
 generalize (J[0]!).h = jh at *
 generalize (outV J 0).a = oa at *
 generalize (outV J 0).k = ok at *
 generalize (outV J 0).h = oh at *
 generalize (outV J (q.L[i]!).A).a = za at *
 generalize (outV J (q.L[i]!).A).k = zk at *
 generalize (outV J (q.L[i]!).A).h = zh at *
 have HYL : Hid ((((q.L[i]!).xs ++ [(q.L[i]!).A]).map (outV J)).length = (q.L[i]!).n + 1) := by
  unfold Hid
  rw [List.length_map, List.length_append, HXL.out, List.length_singleton]
 generalize ((q.L[i]!).xs ++ [(q.L[i]!).A]).map (outV J) = Y at *
 generalize (q.L[i]!).op = op at *
 generalize (q.L[i]!).A = A at *
 generalize (q.L[i]!).B = B at *
 generalize (q.L[i]!).o = xo at *
 generalize (q.L[i]!).n = xn at *
 generalize (q.L[i]!).cap = xc at *
 rw [hv] at x0 x1 x2 x3 v4 r0 r1 r2
 clear h hf hok hv nb b0 cl HXL hxn hJ0 hP0 hO0 hOA
 by_cases c : op = 12 ∨ op = 13
 ·have HX : Hid (X = [⟨za, zk, zh⟩]) := HW.out.trans (if_pos c)
  have HO1 : Hid (type_of% (HOF.out c)) := HOF.out c
  clear HW HOF HO0 HPA HCH HYL
  rcases c with rfl | rfl
  all_goals
   go_enter Tryz.func58, Tryz.ntmps58
   go_wp2_with fail
   rw [← HV.out]
   refine HO1.out.mono ?_
   rintro r w1 ⟨rfl, b1⟩
   have HB1 : Hid (Below w.heap.size w w1) := HB0.out.trans (b1.mono HB0.out.size)
   clear b1 HO1 x0 x1 x2 x3 v4 r0 r1 r2
   go_wp2
   refine bodyPost_ret (results_tmp rfl _ _ _) rfl ?_
   rw [HX.out]
   exact way_one _ _ ⟨_, _, _⟩ HB1.out
 rw [if_neg c] at HW
 obtain ⟨c1, c2⟩ := not_or.1 c
 clear c HOF
 by_cases c : op = 14
 ·have HX : Hid (X = Y) := HW.out.trans (if_pos c)
  have HO1 : Hid (type_of% (HCH.out c)) := HCH.out c
  clear HW HO0 HPA HCH c1 c2
  subst c
  go_enter Tryz.func58, Tryz.ntmps58
  go_wp2_with fail
  rw [← HV.out]
  refine HO1.out.mono ?_
  rintro r w1 ⟨g1, cap1, rfl, ho, b1⟩
  have HR : Hid (WayOut w X (.returned (.slice (some ⟨g1, 0, none⟩) (xn + 1) cap1)) w1) := by
   unfold Hid
   rw [HX.out]
   exact ⟨some ⟨g1, 0, none⟩, cap1, by rw [HYL.out], by rw [HYL.out]; exact own_low ho HB0.out.size, HB0.out.trans (b1.mono HB0.out.size)⟩
  clear b1 ho HO1 x0 x1 x2 x3 v4 r0 r1 r2
  go_wp2
  refine bodyPost_ret (results_tmp rfl _ _ _) rfl ?_
  exact HR.out
 rw [if_neg c] at HW
 have c3 := c
 clear c HCH HYL
 by_cases c : op = 15
 ·have HX : Hid (X = [⟨ja, jk, jh⟩]) := HW.out.trans (if_pos c)
  clear HW HO0 HPA c1 c2 c3
  subst c
  go_enter Tryz.func58, Tryz.ntmps58
  go_wp2
  refine bodyPost_ret (results_tmp rfl _ _ _) rfl ?_
  rw [HX.out]
  have := way_one w v ⟨ja, jk, jh⟩ HB0.out
  rw [HV.out] at this
  simpa using this
 rw [if_neg c] at HW
 have c4 := c
 clear c
 by_cases c : op = 4
 ·have HX : Hid (X = [⟨pa, pk, ph⟩]) := HW.out.trans (if_pos c)
  have HP1 : Hid (type_of% (HPA.out c)) := HPA.out c
  clear HW HO0 HPA c1 c2 c3 c4
  subst c
  go_enter Tryz.func58, Tryz.ntmps58
  go_wp2_with fail
  rw [← HV.out]
  refine HP1.out.mono ?_
  rintro r w1 ⟨rfl, b1⟩
  have HB1 : Hid (Below w.heap.size w w1) := HB0.out.trans (b1.mono HB0.out.size)
  clear b1 HP1 x0 x1 x2 x3 v4 r0 r1 r2
  go_wp2
  refine bodyPost_ret (results_tmp rfl _ _ _) rfl ?_
  rw [HX.out]
  exact way_one _ _ ⟨_, _, _⟩ HB1.out
 rw [if_neg c] at HW
 have c5 := c
 clear c HPA
 by_cases c : op = 5
 ·have HX : Hid (X = [⟨oa, ok, oh⟩]) := HW.out.trans (if_pos c)
  clear HW c1 c2 c3 c4 c5
  subst c
  go_enter Tryz.func58, Tryz.ntmps58
  go_wp2_with fail
  rw [← HV.out]
  refine HO0.out.mono ?_
  rintro r w1 ⟨rfl, b1⟩
  have HB1 : Hid (Below w.heap.size w w1) := HB0.out.trans (b1.mono HB0.out.size)
  clear b1 HO0 x0 x1 x2 x3 v4 r0 r1 r2
  go_wp2
  refine bodyPost_ret (results_tmp rfl _ _ _) rfl ?_
  rw [HX.out]
  exact way_one _ _ ⟨_, _, _⟩ HB1.out
 rw [if_neg c] at HW
 have d1 : (op == 12) = false := by rw [beq_eq_false_iff_ne]; exact c1
 have d2 : (op == 13) = false := by rw [beq_eq_false_iff_ne]; exact c2
 have d3 : (op == 14) = false := by rw [beq_eq_false_iff_ne]; exact c3
 have d4 : (op == 15) = false := by rw [beq_eq_false_iff_ne]; exact c4
 have d5 : (op == 4) = false := by rw [beq_eq_false_iff_ne]; exact c5
 have d6 : (op == 5) = false := by rw [beq_eq_false_iff_ne]; exact c
 clear c c1 c2 c3 c4 c5 HO0
 go_enter Tryz.func58, Tryz.ntmps58
 go_wp2
 refine bodyPost_ret (results_tmp rfl _ _ _) rfl ?_
 rw [HW.out]
 exact ⟨none, 0, rfl, World.ownsRow_nil _ _ _ _, (Below.refl _ _).alloc (Nat.le_refl _) _⟩
end Go.Proofs.YtlfihndbnaaodaaGreatDoor
namespace Go.Proofs.YtlfihndbnaaodaaGreatDoor
open Go.RowKit
set_option linter.unusedVariables false
structure SpotD where
 o : Option Addr
 cap : Nat
 X : List JmpD
instance : Inhabited SpotD := ⟨⟨none, 0, []⟩⟩
def SpotD.v (d : SpotD) : Value := .slice d.o d.X.length d.cap
def SpotD.ok (w : World) (d : SpotD) : Prop := RowsOf w 3 JmpD.cells (fun _ _ => True) d.o d.cap d.X
def SpotD.off (P g : Nat) (oo : Option Addr) (d : SpotD) : Prop := d.X = [] ∨ ∃ a : Addr, d.o = some a ∧ a.block ≠ P ∧ a.block ≠ g ∧ ∀ b : Addr, oo = some b → a.block ≠ b.block
section
variable {w w' w2 w3 : World} {N P g G : Nat} {q : FQ} {oo : Option Addr} {oc : Nat} {J : List JmpD} {SP : List SpotD} {d : SpotD}
theorem SpotD.ok.below (h : d.ok w) (b : Below w.heap.size w w') : d.ok w' := RowsOf.below (fun _ h => h) h b
theorem SpotD.ok.chg (h : d.ok w) (c : Chg G w w') (ho : d.X = [] ∨ ∃ a : Addr, d.o = some a ∧ a.block ≠ G) : d.ok w' := by
 refine ⟨h.le, h.most, h.nil, fun _ _ => trivial, ?_⟩
 rcases h.at' with h0 | ⟨b, f, e, hb, hc⟩
 ·exact Or.inl h0
 ·rcases ho with h0 | ⟨a, ea, hne⟩
  ·exact Or.inl h0
  ·rw [e] at ea
   obtain rfl := Option.some.inj ea
   exact Or.inr ⟨b, f, e, Nat.lt_of_lt_of_le hb c.size, fun i hi r hr => (c.cell ⟨b, f + i * 3 + r, none⟩ hb hne).trans (hc i hi r hr)⟩
theorem SpotD.ok.lt (h : d.ok w) (a : Addr) (ha : d.o = some a) : d.X = [] ∨ a.block < w.heap.size := by
 rcases h.at' with h0 | ⟨b, f, e, hb, hc⟩
 ·exact Or.inl h0
 ·rw [e] at ha
  obtain rfl := Option.some.inj ha
  exact Or.inr hb
theorem own_spot {B : Nat} {o : Option Addr} {cap : Nat} {X : List JmpD} (h : w.ownsRow B 61 3 (.slice o X.length cap) X.length (X.flatMap JmpD.cells)) : SpotD.ok w ⟨o, cap, X⟩ ∧ (X = [] ∨ ∃ a : Addr, o = some a ∧ B ≤ a.block ∧ a.block < w.heap.size) := by
 rcases h.2 with ⟨h1, h2⟩ | ⟨b, c, cur, h1, h2, h3, h4, h5, _⟩
 ·simp only [Value.slice.injEq] at h1
  obtain ⟨rfl, e, rfl⟩ := h1
  have hX : X = [] := List.length_eq_zero_iff.1 e
  subst hX
  exact ⟨⟨Nat.le_refl _, Nat.zero_le _, fun _ => rfl, fun _ h => (by cases h), Or.inl rfl⟩, Or.inl rfl⟩
 ·simp only [Value.slice.injEq] at h1
  obtain ⟨rfl, _, rfl⟩ := h1
  refine ⟨⟨h4, h5, fun e => (by cases e), fun _ _ => trivial, Or.inr ⟨b, 0, rfl, some_lt h3, fun i hi r hr => ?_⟩⟩, Or.inr ⟨_, rfl, h2, some_lt h3⟩⟩
  rw [Nat.zero_add, h.cellAt (i * 3 + r) (by have : i < X.length := hi; omega)]
  exact flat_at JmpD.cells 3 (fun _ => rfl) X i r hi hr
theorem FQ.ok.chg (h : q.ok w) (c : Chg G w w') (hb : q.bL ≠ G ∧ q.bS ≠ G ∧ q.gE ≠ G ∧ q.gS ≠ G) : q.ok w' := by
 refine ⟨⟨Nat.lt_of_lt_of_le h.lt.1 c.size, Nat.lt_of_lt_of_le h.lt.2.1 c.size, Nat.lt_of_lt_of_le h.lt.2.2.1 c.size, Nat.lt_of_lt_of_le h.lt.2.2.2 c.size⟩, h.few, fun i hi => ?_, fun i hi => ?_, fun i hi => (c.cell ⟨q.gE, i, none⟩ h.lt.2.2.1 hb.2.2.1).trans (h.e i hi), fun i hi => (c.cell ⟨q.gS, i, none⟩ h.lt.2.2.2 hb.2.2.2).trans (h.t i hi), h.kn⟩
 ·obtain ⟨a0, a1, a2, a3⟩ := h.l i hi
  exact ⟨(c.cell ⟨q.bL, _, none⟩ h.lt.1 hb.1).trans a0, (c.cell ⟨q.bL, _, none⟩ h.lt.1 hb.1).trans a1, (c.cell ⟨q.bL, _, none⟩ h.lt.1 hb.1).trans a2, (c.cell ⟨q.bL, _, none⟩ h.lt.1 hb.1).trans a3⟩
 ·obtain ⟨a0, a1⟩ := h.s i hi
  exact ⟨(c.cell ⟨q.bS, _, none⟩ h.lt.2.1 hb.2.1).trans a0, (c.cell ⟨q.bS, _, none⟩ h.lt.2.1 hb.2.1).trans a1⟩
theorem TW.far (h : TW w N P q oo oc J) (hG : N ≤ G) : q.bL ≠ G ∧ q.bS ≠ G ∧ q.gE ≠ G ∧ q.gS ≠ G := by
 obtain ⟨a, b, c, d⟩ := h.ap
 omega
structure LW (w : World) (N P g : Nat) (q : FQ) (oo : Option Addr) (oc : Nat) (J : List JmpD) (SP : List SpotD) : Prop where
 tw : TW w N P q oo oc J
 row : w.ownsRow N 56 1 (.slice (some ⟨g, 0, none⟩) SP.length SP.length) SP.length (SP.map SpotD.v)
 ng : N ≤ g
 gP : g ≠ P
 go : ∀ b : Addr, oo = some b → g ≠ b.block
 sp : ∀ d ∈ SP, d.ok w ∧ d.off P g oo
theorem LW.below (h : LW w N P g q oo oc J SP) (b : Below w.heap.size w w') : LW w' N P g q oo oc J SP :=
 ⟨h.tw.below b, own_below h.row b, h.ng, h.gP, h.go, fun d hd => ⟨(h.sp d hd).1.below b, (h.sp d hd).2⟩⟩
theorem LW.lt (h : LW w N P g q oo oc J SP) (hn : 0 < SP.length) : g < w.heap.size := by
 obtain ⟨g', c, hv, hb, hg⟩ := h.row.form hn
 simp only [Value.slice.injEq, Option.some.injEq, Addr.mk.injEq] at hv
 rw [hv.1.1]
 exact hg
theorem oo_lt {N : Nat} {t : TypeId} {k n : Nat} {xs : List Value} (h : w.ownsRow N t k (.slice oo n oc) n xs) (b : Addr) (hb : oo = some b) : N ≤ b.block ∧ b.block < w.heap.size ∧ ∃ cur, w.heap[b.block]? = some (.cells cur t (0, 0)) := by
 rcases h.2 with ⟨h1, h2⟩ | ⟨g, c, cur, h1, h2, h3, _⟩
 ·simp only [Value.slice.injEq] at h1
  rw [h1.1] at hb
  cases hb
 ·simp only [Value.slice.injEq] at h1
  rw [h1.1] at hb
  obtain rfl := Option.some.inj hb
  exact ⟨h2, some_lt h3, cur, h3⟩
theorem TW.oP (h : TW w N P q oo oc J) (b : Addr) (hb : oo = some b) : b.block ≠ P := by
 intro e
 obtain ⟨_, _, cur, h1⟩ := oo_lt h.opn b hb
 rw [e, h.box] at h1
 simp only [Option.some.injEq, Obj.cells.injEq] at h1
 exact absurd h1.2.1 (by decide)
theorem own_ne {n k : Nat} (h : ∀ b : Addr, oo = some b → b.block ≠ G) : (Value.slice oo n k).ownBlock ≠ some G := by
 cases oo with
 | none => simp [Value.ownBlock]
 | some b => simp only [Value.ownBlock, ne_eq, Option.some.injEq]; exact h b rfl
theorem LW.put (h : LW w N P g q oo oc J SP) {X : List JmpD} {o : Option Addr} {cap : Nat} (b : Below w.heap.size w w2) (ho : w2.ownsRow w.heap.size 61 3 (.slice o X.length cap) X.length (X.flatMap JmpD.cells)) (i : Nat) (hi : i < SP.length) : LW (w2.setCell ⟨g, i, none⟩ (.slice o X.length cap)) N P g q oo oc J (SP.set i ⟨o, cap, X⟩) := by
 have h2 := h.below b
 have c : Chg g w2 (w2.setCell ⟨g, i, none⟩ (.slice o X.length cap)) := Chg.set _ _ _ _
 have hg := h.lt (by omega)
 refine ⟨⟨by rw [c.block P h2.tw.lt (Ne.symm h.gP)]; exact h2.tw.box, own_chg h2.tw.opn c (own_ne fun a ha => (h.go a ha).symm), h.tw.np, h2.tw.fq.chg c (h.tw.far h.ng), h.tw.ap⟩, ?_, h.ng, h.gP, h.go, fun d hd => ?_⟩
 ·have := (h2.row.stored i (.slice o X.length cap)).1
  rw [List.length_set, List.map_set]
  exact this
 ·rcases List.mem_or_eq_of_mem_set hd with hd | rfl
  ·refine ⟨(h2.sp d hd).1.chg c ?_, (h2.sp d hd).2⟩
   exact (h2.sp d hd).2.imp id fun ⟨a, e, _, k, _⟩ => ⟨a, e, k⟩
  ·obtain ⟨k1, k2⟩ := own_spot ho
   refine ⟨k1.chg c (k2.imp id fun ⟨a, e, ha, _⟩ => ⟨a, e, by omega⟩), k2.imp id fun ⟨a, e, ha, _⟩ => ⟨a, e, ?_, by omega, fun b hb => ?_⟩⟩
   ·have := h.tw.lt; omega
   ·have := (oo_lt h.tw.opn b hb).2.1; omega
theorem LW.push (h : LW w N P g q oo oc J SP) (hn : 0 < SP.length) {j : JmpD} {g' cap : Nat} (hown : w3.ownsRow N 61 3 (.slice (some ⟨g', 0, none⟩) (J.length + 1) cap) (J.length + 1) (J.flatMap JmpD.cells ++ j.cells)) (hgrow : w.grownBy w3 (Value.slice oo J.length oc).ownBlock) (hat : (Value.slice oo J.length oc).ownBlock = some g' ∨ w.heap.size ≤ g') :
  w3.heap[P]? = some (.cells (q.C oo J.length oc) 80 (0, 0)) ∧ LW (w3.setCell ⟨P, 4, none⟩ (.slice (some ⟨g', 0, none⟩) (J.length + 1) cap)) N P g q (some ⟨g', 0, none⟩) cap (J ++ [j]) SP := by
 have hP3 : w3.heap[P]? = some (.cells (q.C oo J.length oc) 80 (0, 0)) := by
  rw [hgrow.block P h.tw.lt (fun e => own_ne (fun a ha => h.tw.oP a ha) e.symm)]
  exact h.tw.box
 have hg := h.lt hn
 have hPl := h.tw.lt
 have c : Chg P w3 (w3.setCell ⟨P, 4, none⟩ (.slice (some ⟨g', 0, none⟩) (J.length + 1) cap)) := Chg.set _ _ _ _
 -- what was there, behind the append
 have key : w3.ownsRow N 56 1 (.slice (some ⟨g, 0, none⟩) SP.length SP.length) SP.length (SP.map SpotD.v) ∧ q.ok w3 ∧ g ≠ g' ∧ g' ≠ P ∧ ∀ d ∈ SP, d.ok w3 ∧ d.off P g (some ⟨g', 0, none⟩) := by
  cases hos : (Value.slice oo J.length oc).ownBlock with
  | none =>
   rw [hos] at hgrow hat
   have hb : Below w.heap.size w w3 := (Below.refl _ _).grown hgrow (Nat.le_refl _) (fun i hi => by cases hi)
   have hat' : w.heap.size ≤ g' := hat.resolve_left (by simp)
   refine ⟨own_below h.row hb, h.tw.fq.below hb, by omega, by omega, fun d hd => ⟨(h.sp d hd).1.below hb, ?_⟩⟩
   rcases (h.sp d hd).2 with h0 | ⟨a, e, e1, e2, _⟩
   ·exact Or.inl h0
   ·rcases (h.sp d hd).1.lt a e with h0 | hl
    ·exact Or.inl h0
    ·exact Or.inr ⟨a, e, e1, e2, fun b hb => by obtain rfl := Option.some.inj hb; show a.block ≠ g'; omega⟩
  | some k =>
   rw [hos] at hgrow hat
   obtain ⟨ho, cur, hk⟩ := own_block h.tw.opn k hos
   have hkN := own_base2 h.tw.opn hos
   have hkP := h.tw.oP _ ho
   have hkg := h.go _ ho
   have hc : Chg k w w3 := ⟨hgrow.os, hgrow.tape, hgrow.output, hgrow.size, fun i hi hik => hgrow.block i hi (by simp only [ne_eq, Option.some.injEq]; exact fun e => hik e)⟩
   have hkl := some_lt hk
   have hgg : g ≠ g' ∧ g' ≠ P := by
    rcases hat with e | e
    ·obtain rfl := Option.some.inj e
     exact ⟨hkg, hkP⟩
    ·omega
   refine ⟨own_chg h.row hc (by simp only [Value.ownBlock, ne_eq, Option.some.injEq]; exact hkg), h.tw.fq.chg hc (h.tw.far hkN), hgg.1, hgg.2, fun d hd => ?_⟩
   rcases (h.sp d hd).2 with h0 | ⟨a, e, e1, e2, e3⟩
   ·exact ⟨(h.sp d hd).1.chg hc (Or.inl h0), Or.inl h0⟩
   ·have e4 := e3 _ ho
    refine ⟨(h.sp d hd).1.chg hc (Or.inr ⟨a, e, e4⟩), ?_⟩
    rcases (h.sp d hd).1.lt a e with h0 | hl
    ·exact Or.inl h0
    ·refine Or.inr ⟨a, e, e1, e2, fun b hb => ?_⟩
     obtain rfl := Option.some.inj hb
     rcases hat with e' | e'
     ·obtain rfl := Option.some.inj e'
      exact e4
     ·show a.block ≠ g'
      omega
 obtain ⟨k1, k2, k3, k4, k5⟩ := key
 refine ⟨hP3, ⟨?_, own_chg hown c (by simp only [Value.ownBlock, ne_eq, Option.some.injEq]; exact k4) |> fun z => ?_, h.tw.np, k2.chg c (h.tw.far h.tw.np), h.tw.ap⟩, own_chg k1 c (by simp only [Value.ownBlock, ne_eq, Option.some.injEq]; exact h.gP), h.ng, h.gP, fun b hb => by obtain rfl := Option.some.inj hb; exact k3, fun d hd => ⟨(k5 d hd).1.chg c ((k5 d hd).2.imp id fun ⟨a, e, k, _⟩ => ⟨a, e, k⟩), (k5 d hd).2⟩⟩
 ·rw [List.length_append, List.length_singleton]
  simp [World.setCell, Array.getElem?_modify, hP3, FQ.C]
 ·rw [List.length_append, List.length_singleton, List.flatMap_append, List.flatMap_cons, List.flatMap_nil, List.append_nil]
  exact z
theorem LW.pop {j : JmpD} (h : LW w N P g q oo oc (J ++ [j]) SP) : LW (w.setCell ⟨P, 4, none⟩ (.slice oo J.length oc)) N P g q oo oc J SP := by
 have c : Chg P w (w.setCell ⟨P, 4, none⟩ (.slice oo J.length oc)) := Chg.set _ _ _ _
 have hb := h.tw.box
 refine ⟨⟨?_, ?_, h.tw.np, h.tw.fq.chg c (h.tw.far h.tw.np), h.tw.ap⟩, own_chg h.row c (by simp only [Value.ownBlock, ne_eq, Option.some.injEq]; exact h.gP), h.ng, h.gP, h.go, fun d hd => ⟨(h.sp d hd).1.chg c ((h.sp d hd).2.imp id fun ⟨a, e, k, _⟩ => ⟨a, e, k⟩), (h.sp d hd).2⟩⟩
 ·rw [List.length_append, List.length_singleton] at hb
  simp [World.setCell, Array.getElem?_modify, hb, FQ.C]
 ·have h2 := own_chg h.tw.opn c (own_ne fun a ha => h.tw.oP a ha)
  refine ⟨jmp_len J, ?_⟩
  rcases h2.2 with ⟨h3, h4⟩ | ⟨g, cp, cur, h3, hbg, hg, h5, h6, h7, h8⟩
  ·simp at h4
  ·simp only [Value.slice.injEq] at h3
   obtain ⟨rfl, _, rfl⟩ := h3
   rw [List.length_append, List.length_singleton] at h5 h8
   refine Or.inr ⟨g, oc, cur, rfl, hbg, hg, by omega, h6, h7, ?_⟩
   have h9 := congrArg (List.take (J.length * 3)) h8
   have e1 : List.take (J.length * 3) (J.flatMap JmpD.cells) = J.flatMap JmpD.cells := List.take_of_length_le (by rw [jmp_len]; exact Nat.le_refl _)
   rw [List.take_take, List.flatMap_append, List.take_append_of_le_length (by rw [jmp_len]; exact Nat.le_refl _), e1, show min (J.length * 3) ((J.length + 1) * 3) = J.length * 3 by omega] at h9
   exact h9
end
end Go.Proofs.YtlfihndbnaaodaaGreatDoor
namespace Go.Proofs.YtlfihndbnaaodaaGreatDoor
open Go.RowKit
set_option linter.unusedVariables false
section
variable {P : Program} {ops : Array Oper} {Q : Exit → Act → World → Prop} {md : Region.Mode} {S : World → Prop} {z : Nat}
theorem tk1 {i : Nat} {oi : Oper} {v : Value} {fuel : Nat} {listed : Array Bool} {a a' : Act} {w : World} (hl : ops.toList[i]? = some oi := by rfl)
  (hb : (Region.noSelect ops && Region.free md ops listed i && (Region.ready md ops listed).contains i && !(i == z)) = true := by kernel_rfl)
  (hQ : ∀ c a w, Q (.panic c) (a.put oi.dst v) w → Q (.panic c) a w := by exact fun _ _ _ h => h) (hy : YieldsIf P ops (fun _ => True) oi v a := by exact Or.inl ⟨by rfl, by intro w' hSw; go_simp <;> with_reducible rfl⟩) (hS : S w := by assumption)
  (h : wpZ P md ops Q S z fuel (listed.setIfInBounds i true) a' w) (ha : a.put oi.dst v = a' := by first | (simp only [Act.put, List.setIfInBounds_toArray, List.set_cons_zero, List.set_cons_succ]; done) | (simp only [Act.put, List.setIfInBounds_toArray, List.set_cons_zero, List.set_cons_succ]; rfl) | rfl) : wpZ P md ops Q S z (fuel + 1) listed a w := by
 simp only [Bool.and_eq_true] at hb
 exact wpZ_take hl hb.1.1.1 hb.1.1.2 hb.1.2 hb.2 hQ hy hS h ha
theorem ld1 {i : Nat} (p : List Nat) {oi : Oper} {v : Value} {fuel : Nat} {listed : Array Bool} {a a' : Act} {w : World} (hl : ops.toList[i]? = some oi := by rfl)
  (hb : (Region.noSelect ops && Region.free md ops listed i && (Region.ready md ops listed).contains i && waitB md ops i p && (p.all fun g => !listed.getD g true) && (p.contains z && !(i == z))) = true := by kernel_rfl)
  (hQ : ∀ c a w, Q (.panic c) (a.put oi.dst v) w → Q (.panic c) a w := by exact fun _ _ _ h => h) (hy : YieldsIf P ops S oi v a := by exact Or.inl ⟨by rfl, by intro w' hSw; (try dsimp only at hSw); go_simp <;> with_reducible rfl⟩) (hS : S w := by assumption)
  (h : wpZ P md ops Q S z fuel (listed.setIfInBounds i true) a' w) (ha : a.put oi.dst v = a' := by first | (simp only [Act.put, List.setIfInBounds_toArray, List.set_cons_zero, List.set_cons_succ]; done) | (simp only [Act.put, List.setIfInBounds_toArray, List.set_cons_zero, List.set_cons_succ]; rfl) | rfl) : wpZ P md ops Q S z (fuel + 1) listed a w := by
 rw [Bool.and_eq_true, Bool.and_eq_true, Bool.and_eq_true, Bool.and_eq_true, Bool.and_eq_true] at hb
 exact wpZ_load p hl hb.1.1.1.1.1 hb.1.1.1.1.2 hb.1.1.1.2 hb.1.1.2 hb.1.2 hb.2 hQ hy hS h ha
end
theorem thaw_box {w : World} {P : Nat} {cs : Array Value} {t : TypeId} (h : w.heap[P]? = some (.cells cs t (0, 0))) (i : Nat) : w.frozen? ⟨P, i, none⟩ = false := by simp [World.frozen?, h]
def opens (op : Int) : Bool := op == 2 || op == 3 || op == 4
def FQ.open (q : FQ) (J0 : JmpD) : Nat → List JmpD
 | 0 => [J0]
 | i + 1 => if opens (q.L[i]!).op = true then q.open J0 i ++ [q.to i] else if (q.L[i]!).op = 11 then (q.open J0 i).dropLast else q.open J0 i
def FQ.spot (q : FQ) (J0 : JmpD) (i : Nat) : List JmpD := if (q.D[i]!).dead = true then [] else q.ways (q.open J0 i) i
theorem FQ.open_len (q : FQ) (J0 : JmpD) : ∀ i, (q.open J0 i).length ≤ i + 1
 | 0 => Nat.le_refl _
 | i + 1 => by
  have := q.open_len J0 i
  unfold FQ.open
  split
  ·rw [List.length_append, List.length_singleton]; omega
  ·split
   ·rw [List.length_dropLast]; omega
   ·omega
theorem infoSpt : (Tryz.prog.info? 56).map (fun i => (i.zero, i.size, i.bytes)) = some (some (.agg #[.slice none 0 0]), 1, 24) := by kernel_rfl
def SpotsOut (N n : Nat) (w : World) (f : Nat → List JmpD) (r : Ending) (w' : World) : Prop :=
 ∃ (g : Nat) (SP : List SpotD), r = .returned (.slice (some ⟨g, 0, none⟩) n n) ∧ SP.length = n ∧ (∀ j, j < n → (SP[j]!).X = f j) ∧ w'.ownsRow N 56 1 (.slice (some ⟨g, 0, none⟩) n n) n (SP.map SpotD.v) ∧ (∀ d ∈ SP, d.ok w') ∧ Below N w w'
theorem set_bang (L : List SpotD) (i : Nat) (d : SpotD) (hi : i < L.length) (j : Nat) : (L.set i d)[j]! = if j = i then d else L[j]! := by
 simp only [List.getElem!_eq_getElem?_getD, List.getElem?_set]
 by_cases h : i = j
 ·subst h; simp [hi]
 ·simp [h, Ne.symm h]
theorem fspots {w : World} {N P : Nat} {q : FQ} {oo : Option Addr} {oc : Nat} {J0 : JmpD} (h : TW w N P q oo oc [J0]) (hN : N ≤ w.heap.size) (w0 : World) (hw0 : w0.heap.size ≤ N) (hb0 : Below w0.heap.size w0 w) (hf : ∀ i, i < q.L.length → q.fine (q.open J0 i) i ∧ (q.L[i]!).ok w0 ∧ (q.L[i]!).n ≤ 1000 ∧ (opens (q.L[i]!).op = true → 0 ≤ (q.L[i]!).A ∧ (q.L[i]!).A ≤ 255)) :
  Calls Tryz.prog 32 #[.pointer (some ⟨P, 0, none⟩)] w (SpotsOut N q.L.length w (q.spot J0)) := by
 obtain ⟨n0, n1, n2, n3, n4⟩ := h.fq.few
 obtain ⟨c0, c1, c2, c3, c4⟩ := h.c
 obtain ⟨i0, hi, hz0, hz1, hz2⟩ := info_parts infoSpt
 have HT : Hid (TW w N P q oo oc [J0]) := h
 have HW0 : Hid (w0.heap.size ≤ N ∧ Below w0.heap.size w0 w) := ⟨hw0, hb0⟩
 have HF : Hid (∀ i, i < q.L.length → q.fine (q.open J0 i) i ∧ (q.L[i]!).ok w0 ∧ (q.L[i]!).n ≤ 1000 ∧ (opens (q.L[i]!).op = true → 0 ≤ (q.L[i]!).A ∧ (q.L[i]!).A ≤ 255)) := hf
 have HN : Hid (N ≤ w.heap.size) := hN
 obtain ⟨n, hn⟩ : ∃ n, q.L.length = n := ⟨_, rfl⟩
 have HQL : Hid (q.L.length = n) := hn
 rw [hn] at c0 c1 c2 c3 n0 n1 n3 ⊢
 clear h hf hN hn hw0 hb0
 go_enter Tryz.func32, Tryz.ntmps32
 go_wp2_with (at_make; refine wpList_make_full _ rfl _ _ 47 rfl N 56 i0 (.agg #[.slice none 0 0]) 1 Tryz.underlying47 hi hz0 hz1 .i64 .i64 (n : Int) (n : Int) n rfl rfl rfl rfl ?b2 ?b3 HN.out ?_)
 case b2 => rw [hz2]; omega
 case b3 => unfold maxLen; omega
 intro w2 hown hgrow
 have hb2 : Below w.heap.size w w2 := (Below.refl _ _).grown hgrow (Nat.le_refl _) (fun j hj => by cases hj)
 have hLW : LW w2 N P w.heap.size q oo oc [J0] (List.replicate n ⟨none, 0, []⟩) := by
  refine ⟨HT.out.below hb2, ?_, HN.out, ?_, fun b hb => ?_, fun d hd => ?_⟩
  ·rw [toList_madeCells_one] at hown
   rw [List.length_replicate, List.map_replicate]
   exact hown
  ·have := HT.out.lt; omega
  ·have := (oo_lt HT.out.opn b hb).2.1; omega
  ·obtain rfl := (List.mem_replicate.1 hd).2
   exact ⟨⟨Nat.le_refl _, Nat.zero_le _, fun _ => rfl, fun _ h => (by cases h), Or.inl rfl⟩, Or.inl rfl⟩
 have HL0 : Hid (type_of% hLW) := hLW
 obtain ⟨d0, d1, d2, d3, d4⟩ := (HT.out.below hb2).c
 rw [HQL.out] at d0 d1 d2 d3
 have HB0 : Hid (Below N w w2) := hb2.mono HN.out
 clear hown hgrow hLW hb2 c0 c1 c2 c3 c4 hz2
 go_wp2_with fail
 have HZ0 : Hid (∀ j, j < n → ((List.replicate n (⟨none, 0, []⟩ : SpotD))[j]!).X = if j < 0 then q.spot J0 j else []) := fun j hj => by
  simp [hj]
 go_loopw [17] (fun iv wr => ∃ (k : Nat) (oo' : Option Addr) (oc' : Nat) (SP : List SpotD), iv = .int .i64 k ∧ k ≤ n ∧ Hid (LW wr N P w.heap.size q oo' oc' (q.open J0 k) SP) ∧ Hid (SP.length = n) ∧ Hid (∀ j, j < n → (SP[j]!).X = if j < k then q.spot J0 j else []) ∧ Hid (Below N w wr)) (fun iv _ => n - (intOf iv).toNat)
 case atStart => exact ⟨0, oo, oc, _, rfl, by omega, HL0, List.length_replicate, HZ0, HB0⟩
 case round =>
  obtain ⟨k, oo', oc', SP, rfl, hk, HL, HSL, HX, HB⟩ := hrel
  clear HL0 HZ0 HB0 d0 d1 d2 d3 d4
  by_cases hlt : k < n
  ·have hki0 : (0 : Int) ≤ (k : Int) := by omega
   have hki1 : (k : Int) < (n : Int) := by omega
   have hkq : k < q.L.length := by rw [HQL.out]; exact hlt
   obtain ⟨l0, l1, l2, l3⟩ := HL.out.tw.fq.l k hkq
   obtain ⟨f1, f2, f3, f4⟩ := HF.out k hkq
   obtain ⟨op, hOe⟩ : ∃ x, (q.L[k]!).op = x := ⟨_, rfl⟩
   obtain ⟨xA, hAe⟩ : ∃ x, (q.L[k]!).A = x := ⟨_, rfl⟩
   obtain ⟨xB, hBe⟩ : ∃ x, (q.L[k]!).B = x := ⟨_, rfl⟩
   obtain ⟨xo, hoe⟩ : ∃ x, (q.L[k]!).o = x := ⟨_, rfl⟩
   obtain ⟨xn, hne⟩ : ∃ x, (q.L[k]!).n = x := ⟨_, rfl⟩
   obtain ⟨xc, hce⟩ : ∃ x, (q.L[k]!).cap = x := ⟨_, rfl⟩
   rw [hOe] at l0
   rw [hAe] at l1
   rw [hBe] at l2
   rw [hoe, hne, hce] at l3
   have HF1 : Hid (type_of% f1) := f1
   have HF4 : Hid (type_of% f4) := f4
   have HJL : Hid ((q.open J0 k).length ≤ 1000) := by have := q.open_len J0 k; unfold Hid; omega
   have HOK : Hid ((q.L[k]!).ok wr) := f2.below (HW0.out.2.trans (HB.out.mono HW0.out.1))
   have hxn : (q.L[k]!).n ≤ 1000 := f3
   obtain ⟨v, hv⟩ : ∃ v, v = wr.alloc (.cells #[.int .u8 op, .int .i64 xA, .int .i64 xB, .slice xo xn xc] 53) := ⟨_, rfl⟩
   have bv : Below wr.heap.size wr v := by rw [hv]; exact (Below.refl _ _).alloc (Nat.le_refl _) _
   have nb : v.heap[wr.heap.size]? = some (.cells #[.int .u8 op, .int .i64 xA, .int .i64 xB, .slice xo xn xc] 53 (0, 0)) := by rw [hv]; exact new_block wr _
   have HV : Hid (v = wr.alloc (.cells #[.int .u8 op, .int .i64 xA, .int .i64 xB, .slice xo xn xc] 53)) := hv
   have HBV : Hid (Below N w v) := HB.out.trans (bv.mono (Nat.le_trans HL.out.tw.np (Nat.le_of_lt HL.out.tw.lt)))
   have HLV : Hid (LW v N P w.heap.size q oo' oc' (q.open J0 k) SP) := HL.out.below bv
   have HWY : Hid (Calls Tryz.prog 58 #[.pointer (some ⟨P, 0, none⟩), .int .i64 (k : Int)] v (WayOut v (q.ways (q.open J0 k) k))) := fways HLV.out.tw HJL.out k hkq HF1.out (HOK.out.below bv) hxn
   have hop := cell_at nb 0 rfl
   have HOP : Hid (type_of% hop) := hop
   have HNB : Hid (wr.heap.size < v.heap.size ∧ w.heap.size < wr.heap.size) := ⟨some_lt nb, HL.out.lt (by rw [HSL.out]; omega)⟩
   obtain ⟨_, y1, _, _, _⟩ := HLV.out.tw.c
   obtain ⟨s0, s1⟩ := HLV.out.tw.fq.s k hkq
   rw [HQL.out] at y1
   obtain ⟨dd, hDe⟩ : ∃ x, (q.D[k]!).dead = x := ⟨_, rfl⟩
   rw [hDe] at s0
   have HDE : Hid (type_of% hDe) := hDe
   have HY : Hid (type_of% (And.intro y1 s0)) := ⟨y1, s0⟩
   have HOE : Hid (type_of% hOe) := hOe
   clear f1 f2 f3 f4 bv nb hop y1 s0 s1 hv hxn hDe hOe hAe hBe hoe hne hce
   obtain ⟨y1, s0⟩ := HY.out
   rw [HV.out] at y1 s0
   go_upto_if 30 with fail
   rw [← HV.out]
   go_cut [17] from 17 to 72 (fun iv wx => iv = .int .i64 (k : Int) ∧ ∃ SP' : List SpotD, Hid (LW wx N P w.heap.size q oo' oc' (q.open J0 k) SP') ∧ Hid (SP'.length = n) ∧ Hid (∀ j, j < n → (SP'[j]!).X = if j < k + 1 then q.spot J0 j else []) ∧ Hid (wx.cell? ⟨wr.heap.size, 0, none⟩ = some (.int .u8 op)) ∧ Hid (Below N w wx) ∧ Hid (wr.heap.size < wx.heap.size))
   case first =>
    clear l0 l1 l2 l3 y1
    rcases dd with _ | _
    ·have HSP : Hid (q.spot J0 k = q.ways (q.open J0 k) k) := by unfold Hid FQ.spot; rw [HDE.out]; rfl
     obtain ⟨X, hXe⟩ : ∃ X, q.spot J0 k = X := ⟨_, rfl⟩
     rw [← HSP.out, hXe] at HWY
     have HXE : Hid (type_of% hXe) := hXe
     clear hXe
     go_wp2_with fail
     refine HWY.out.mono ?_
     rintro r w2 ⟨o, cap, rfl, ho, b2⟩
     have hlp := HLV.out.put b2 ho k (by rw [HSL.out]; exact hlt)
     have HLP : Hid (type_of% hlp) := hlp
     have hrw := (HLV.out.below b2).row
     have hfz := hrw.frozenAt k
     have hcl : w2.cell? ⟨w.heap.size, k, none⟩ = some (SP[k]!).v := by
      rw [hrw.cellAt k (by rw [HSL.out]; omega), List.getElem?_map, List.getElem?_eq_getElem (by rw [HSL.out]; exact hlt), getElem!_pos SP k (by rw [HSL.out]; exact hlt)]
      rfl
     have HNE : Hid (w2.cell? ⟨wr.heap.size, 0, none⟩ = some (.int .u8 op)) := (b2.cell (p := ⟨wr.heap.size, 0, none⟩) HNB.out.1).trans HOP.out
     have hch : Chg w.heap.size w2 (w2.setCell ⟨w.heap.size, k, none⟩ (.slice o X.length cap)) := Chg.set _ _ _ _
     have HCH : Hid (type_of% hch) := hch
     have HB2 : Hid (Below v.heap.size v w2) := b2
     have HNN : Hid (N ≤ v.heap.size) := Nat.le_trans HLV.out.tw.np (Nat.le_of_lt HLV.out.tw.lt)
     clear hlp hrw hch ho b2 s0 HWY
     go_wp2_with fail
     go_meet
     refine ⟨rfl, SP.set k ⟨o, cap, X⟩, HLP.out, by unfold Hid; rw [List.length_set]; exact HSL.out, fun j hj => ?_, ?_, ?_, ?_⟩
     ·rw [set_bang SP k _ (by rw [HSL.out]; exact hlt)]
      by_cases e : j = k
      ·subst e
       rw [if_pos rfl, if_pos (by omega)]
       exact HXE.out.symm
      ·rw [if_neg e, HX.out j hj]
       have : j < k ↔ j < k + 1 := by omega
       simp [this]
     ·exact (HCH.out.cell ⟨wr.heap.size, 0, none⟩ (by have := HB2.out.size; have := HNB.out.1; show wr.heap.size < _; omega) (by have := HNB.out.2; show wr.heap.size ≠ _; omega)).trans HNE.out
     ·exact (HBV.out.trans (HB2.out.mono HNN.out)).trans (HCH.out.below HN.out (Nat.le_trans HNN.out HB2.out.size))
     ·have := HB2.out.size; have := HNB.out.1; have := HCH.out.size; unfold Hid; omega
    ·have HSP : Hid (q.spot J0 k = []) := by unfold Hid FQ.spot; rw [HDE.out]; rfl
     go_wp2_with fail
     go_meet
     refine ⟨rfl, SP, HLV, HSL, fun j hj => ?_, HOP, HBV, HNB.out.1⟩
     rw [HX.out j hj]
     by_cases e : j = k
     ·subst e
      rw [if_neg (by omega), if_pos (by omega), HSP.out]
     ·have : j < k ↔ j < k + 1 := by omega
      simp [this]
   case rest =>
    obtain ⟨rfl, SP', HL2, HS2, HX2, HO2, HB2, HN2⟩ := hcut
    obtain ⟨u, hu⟩ : ∃ u, u = wc := ⟨_, rfl⟩
    subst hu
    have x0 := HO2.out
    clear l0 l1 l2 l3 y1 s0 HX HL HSL HOK HV HBV HLV HWY HOP HY
    go_upto_if 40 with fail
    go_cut [17, 39, 40] from 17 to 72 (fun iv o b wx => iv = .int .i64 (k : Int) ∧ o = .int .u8 op ∧ b = .bool (opens op) ∧ wx = u)
    case first =>
     by_cases c2 : op = 2
     ·subst c2
      go_wp2_with fail
      go_meet
      exact ⟨rfl, rfl, rfl, rfl⟩
     by_cases c3 : op = 3
     ·subst c3
      go_wp2_with fail
      go_meet
      exact ⟨rfl, rfl, rfl, rfl⟩
     have d2 : (op == 2) = false := by rw [beq_eq_false_iff_ne]; exact c2
     have d3 : (op == 3) = false := by rw [beq_eq_false_iff_ne]; exact c3
     by_cases c4 : op = 4
     ·subst c4
      go_wp2_with fail
      go_meet
      exact ⟨rfl, rfl, rfl, rfl⟩
     have d4 : (op == 4) = false := by rw [beq_eq_false_iff_ne]; exact c4
     go_wp2_with fail
     go_meet
     exact ⟨rfl, rfl, by unfold opens; rw [d2, d3, d4]; rfl, rfl⟩
    case rest =>
     obtain ⟨rfl, rfl, rfl, rfl⟩ := hcut
     obtain ⟨u, hu⟩ : ∃ u, u = wc := ⟨_, rfl⟩
     subst hu
     have HON : Hid (q.open J0 (k + 1) = if opens op = true then q.open J0 k ++ [q.to k] else if op = 11 then (q.open J0 k).dropLast else q.open J0 k) := by
      rw [← HOE.out]
      exact rfl
     have HNU : Hid (N ≤ u.heap.size) := Nat.le_trans HL2.out.tw.np (Nat.le_of_lt HL2.out.tw.lt)
     clear x0
     cases hopn : opens op with
     | true =>
      have HWT : Hid (∀ W, Below u.heap.size u W → Calls Tryz.prog 59 #[.pointer (some ⟨P, 0, none⟩), .int .i64 (k : Int)] W fun r w' => r = .returned (.agg #[.int .i64 (q.to k).a, .int .i64 (q.to k).k, .int .i64 (q.to k).h]) ∧ Below W.heap.size W w') := fun W b => fwayTo (HL2.out.tw.below b) k hkq (HF4.out (by rw [HOE.out]; exact hopn))
      have HO1 : Hid (q.open J0 (k + 1) = q.open J0 k ++ [⟨(q.to k).a, (q.to k).k, (q.to k).h⟩]) := HON.out.trans (if_pos hopn)
      obtain ⟨ja, hja⟩ : ∃ x, (q.to k).a = x := ⟨_, rfl⟩
      obtain ⟨jk, hjk⟩ : ∃ x, (q.to k).k = x := ⟨_, rfl⟩
      obtain ⟨jh, hjh⟩ : ∃ x, (q.to k).h = x := ⟨_, rfl⟩
      rw [hja, hjk, hjh] at HWT HO1
      obtain ⟨no, hno⟩ : ∃ x, (q.open J0 k).length = x := ⟨_, rfl⟩
      have HNO : Hid ((q.open J0 k).length = no) := hno
      have hn1000 : no ≤ 1000 := by rw [← hno]; exact HJL.out
      have hS : ∀ W, Below u.heap.size u W → W.cell? ⟨P, 4, none⟩ = some (.slice oo' no oc') := fun W b => by rw [← hno]; exact (HL2.out.tw.below b).c.2.2.2.2
      have HS : Hid (type_of% hS) := hS
      obtain ⟨i1, hi9, hy0, hy1, hy2⟩ := info_parts infoJ9
      clear hja hjk hjh hno hS HON HF1 HF4 HOE hopn HO2
      go_wp2_with fail
      refine wp_region_z (S := fun w' => w'.cell? ⟨P, 4, none⟩ = some (.slice oo' no oc')) (z := 12) (by kernel_rfl) ?_
      obtain ⟨z0, hz0'⟩ : ∃ z0, z0 = u.drew := ⟨_, rfl⟩
      have HB3 : Hid (Below u.heap.size u z0) := by unfold Hid; rw [hz0']; exact (Below.refl _ _).drew
      rw [← hz0']
      clear hz0'
      have hHeld := HS.out _ HB3.out
      refine tk1 (i := 0) (v := _) (h := ?_)
      refine tk1 (i := 1) (v := _) (h := ?_)
      refine tk1 (i := 2) (v := _) (h := ?_)
      refine tk1 (i := 3) (v := _) (h := ?_)
      refine ld1 (i := 4) [9, 10, 11, 12] (v := _) (h := ?_)
      refine tk1 (i := 5) (v := _) (h := ?_)
      refine tk1 (i := 6) (v := _) (h := ?_)
      refine wpZ_call (i := 7) rfl (by kernel_rfl) rfl (by go_simp) (HWT.out _ HB3.out) ?_
      rintro r z1 ⟨rfl, b1⟩
      have HB4 : Hid (Below u.heap.size u z1) := HB3.out.trans (b1.mono HB3.out.size)
      clear b1 hHeld
      refine ⟨_, rfl, HS.out _ HB4.out, fun hHeld => wpZ_put ?_⟩
      have HB5 : Hid (Below u.heap.size u (z1.alloc (.cells #[.int .i64 ja, .int .i64 jk, .int .i64 jh] 61))) := HB4.out.alloc HB4.out.size _
      refine wpZ_one (i := 8) rfl (by kernel_rfl) rfl (fun K R hK => ?_)
      go_simp
      refine hK.out _ _ (HS.out _ HB5.out) (fun hHeld => wpZ_put ?_)
      clear hK
      have HL5 : Hid (LW (z1.alloc (.cells #[.int .i64 ja, .int .i64 jk, .int .i64 jh] 61)) N P w.heap.size q oo' oc' (q.open J0 k) SP') := HL2.out.below HB5.out
      have ho5 := HL5.out.tw.opn
      rw [HNO.out] at ho5
      have HO5 : Hid (type_of% ho5) := ho5
      clear ho5
      refine wpZ_one (i := 9) rfl (by kernel_rfl) rfl (fun K R hK => ?_)
      refine wp_append_lies _ (.tmp 48) (.tmp 52) 54 rfl N 61 i1 (.agg #[.int .i64 0, .int .i64 0, .int .i64 0]) 3 24 Tryz.underlying54 hi9 hy0 hy1 hy2 rfl (by omega) _ no ((q.open J0 k).flatMap JmpD.cells) rfl HO5.out ⟨z1.heap.size, 0, none⟩ 1 1 [.int .i64 ja, .int .i64 jk, .int .i64 jh] rfl rfl (World.news_of_block (cs := #[.int .i64 ja, .int .i64 jk, .int .i64 jh]) (t := 61) (fr := (0, 0)) (heap_alloc_new z1 _)) (by simp [Value.oneCell']) (by omega) (by unfold maxLen; omega) (by omega) (Nat.le_trans HNU.out HB5.out.size) (z1.heap.size + 1) (by simp) ?_
      intro g' capg z3 hown hgrow hat hlt3
      have hpush := HL5.out.push (j := ⟨ja, jk, jh⟩) (g' := g') (cap := capg) (by rw [HS2.out]; omega) (by rw [HNO.out]; exact hown) (by rw [HNO.out]; exact hgrow) (by
       rw [HNO.out]
       rcases hat with e | e
       ·exact Or.inl e
       ·exact Or.inr (by rw [e]; simp))
      rw [HNO.out, ← HO1.out] at hpush
      obtain ⟨hq1, hq2⟩ := hpush
      have k4 : z3.cell? ⟨P, 4, none⟩ = some (.slice oo' no oc') := cell_at hq1 4 rfl
      have f4 := thaw_box hq1 4
      have HQ2 : Hid (type_of% hq2) := hq2
      have HB6 : Hid (Below N u z3) := (HB5.out.mono HNU.out).grown hgrow (Nat.le_trans HNU.out HB5.out.size) (fun i hi => own_base2 HO5.out hi)
      have HNP : Hid (N ≤ P) := HL2.out.tw.np
      clear hown hgrow hat hlt3 hq1 hq2 hHeld
      refine hK.out _ _ k4 (fun hHeld => wpZ_put ?_)
      clear hK
      refine tk1 (i := 10) (v := _) (h := ?_)
      refine tk1 (i := 11) (v := _) (h := ?_)
      refine wpZ_last rfl (by kernel_rfl) (by kernel_rfl) (by kernel_rfl) rfl (fun K R hK => ?_)
      go_simp
      refine hK.out _ _ ?_
      clear hK K R hHeld
      have HB7 : Hid (Below N w (z3.setCell ⟨P, 4, none⟩ (.slice (some ⟨g', 0, none⟩) (no + 1) capg))) := (HB2.out.trans HB6.out).setCell HNP.out _
      go_wp2
      go_roundw
      case rel => exact ⟨k + 1, some ⟨g', 0, none⟩, capg, SP', by go_num, by omega, HQ2, HS2, HX2, HB7⟩
      case measure => simp [intOf]; omega
     | false =>
      by_cases c11 : op = 11
      ·subst c11
       have HO1 : Hid (q.open J0 (k + 1) = (q.open J0 k).dropLast) := HON.out
       have h0 := HF1.out.some'
       rcases List.eq_nil_or_concat (q.open J0 k) with e | ⟨J', j, e⟩
       ·rw [e] at h0
        exact absurd h0 (by simp)
       ·rw [List.concat_eq_append] at e
        have HL3 : Hid (LW u N P w.heap.size q oo' oc' (J' ++ [j]) SP') := by rw [← e]; exact HL2.out
        have HO2' : Hid (q.open J0 (k + 1) = J') := by unfold Hid; rw [HO1.out, e, List.dropLast_concat]
        have c4 := HL3.out.tw.c.2.2.2.2
        have f4 := thaw_box HL3.out.tw.box 4
        obtain ⟨g', rfl, _, _, _, m0, m1, _⟩ := HL3.out.tw.row (by simp)
        have hjl : J'.length ≤ 1000 := by have := HJL.out; rw [e] at this; simp at this; omega
        rw [List.length_append, List.length_singleton] at c4 m0
        have HL4 : Hid (type_of% HL3.out.pop) := HL3.out.pop
        have HNP : Hid (N ≤ P) := HL2.out.tw.np
        have HB7 : Hid (Below N w (u.setCell ⟨P, 4, none⟩ (.slice (some ⟨g', 0, none⟩) J'.length oc'))) := HB2.out.setCell HNP.out _
        clear e h0 HL2 HL3 HON HO1 HF1 HF4 HOE hopn HO2
        generalize J'.length = no at *
        go_wp2
        go_region
        go_wp2
        go_roundw
        case rel => exact ⟨k + 1, some ⟨g', 0, none⟩, oc', SP', by go_num, by omega, by rw [HO2'.out]; exact HL4.out.below (Below.refl _ _).drew, HS2, HX2, HB7.out.drew⟩
        case measure => simp [intOf]; omega
      ·have HO1 : Hid (q.open J0 (k + 1) = q.open J0 k) := by
        have := HON.out
        rw [hopn, if_neg (by decide), if_neg c11] at this
        exact this
       have d11 : (op == 11) = false := by rw [beq_eq_false_iff_ne]; exact c11
       clear HON
       go_wp2
       go_roundw
       case rel => exact ⟨k + 1, oo', oc', SP', by go_num, by omega, by rw [HO1.out]; exact HL2, HS2, HX2, HB2⟩
       case measure => simp [intOf]; omega
  ·obtain rfl : k = n := by omega
   go_wp2
   refine bodyPost_ret (results_tmp rfl _ _ _) rfl ?_
   refine ⟨w.heap.size, SP, rfl, HSL.out, fun j hj => by rw [HX.out j hj, if_pos hj], ?_, fun d hd => (HL.out.sp d hd).1, HB.out⟩
   have := HL.out.row
   rw [HSL.out] at this
   exact this
end Go.Proofs.YtlfihndbnaaodaaGreatDoor
