/-
  What the document's own InsRead answers is what the program's own Read answers.
  A list of instructions that is handed in, opened.
-/
import Derived.Test.YtkceplamaocmmaaGreatDoorZPU
import Derived.Test.YtkceplamaocmmaaGreatDoorZPQ
import Derived.Test.YtkceplamaocmmaaGreatDoorZPB
import Derived.Test.YtkceplamaocmmaaGreatDoorZGNst
import Derived.ProofKit
import Derived.OpenShut
import Derived.ChangeSlices
import Derived.Deep.Slices
set_option maxHeartbeats 400000
set_option maxRecDepth 100000
namespace Go.Proofs.YtkceplamaocmmaaGreatDoor
set_option linter.unusedVariables false
open Go.RowKit
def letF (k : Int) : ByteArray :=
  if k = 0 then ⟨#[63]⟩ else if k = 1 then ⟨#[]⟩ else if k = 2 then ⟨#[107]⟩ else if k = 3 then ⟨#[97]⟩ else if k = 4 then ⟨#[116]⟩ else
  if k = 5 then ⟨#[97, 122]⟩ else if k = 6 then ⟨#[97, 98]⟩ else if k = 7 then ⟨#[122]⟩ else if k = 8 then ⟨#[99]⟩ else ⟨#[100]⟩
def besF2 (n V : Int) (T : List UInt8) : List UInt8 :=
  if 2 ≤ n ∧ n ≤ 4 then [107] else
  if n = 12 ∨ n = 13 ∨ n = 16 ∨ (32 ≤ n ∧ n ≤ 36) then [97] else
  if n = 14 then [116] else
  if n = 17 then [97, 122] else
  if 0 < V then [97, 98] else
  if n = 63 ∨ n = 64 then [122] else
  if n = 65 then [99] else
  if n = 66 then [100] else
  if n = 0 ∨ n = 1 ∨ n = 5 ∨ n = 11 ∨ n = 15 ∨ n = 26 ∨ n = 27 ∨ (!T == [63]) = true then [] else
  [63]
theorem besF_2 (n V : Int) (T : ByteArray) : (besF n V T).data.toList = besF2 n V T.data.toList := by
  simp only [besF, besF2, Lib.toList_data]
  repeat' split
  all_goals rfl
theorem bes_letF (op : Nat) (h : op < 256) : besL op = letF (besV op) := by
  have key : ∀ op : Fin 256, besF2 (op.val : Int) (insW (op.val : Int)) (takL (op.val : Int)).data.toList = (letF (besV (op.val : Int))).data.toList := by decide +kernel
  have := key ⟨op, h⟩
  have e := besF_2 op (insW op) (takL op)
  rw [this] at e
  apply ByteArray.ext
  exact Array.toList_inj.1 e
theorem ok1 (c : UInt8) (hc : (c.toNat = 107 ∨ c.toNat = 97 ∨ c.toNat = 98 ∨ c.toNat = 122 ∨ c.toNat = 99 ∨ c.toNat = 100 ∨ c.toNat = 63) ∨ (c.toNat = 116 ∧ 0 = 0)) : LettersOk ⟨#[c]⟩ := by
  intro pos h
  have h1 : (⟨#[c]⟩ : ByteArray).size = 1 := rfl
  obtain rfl : pos = 0 := by omega
  exact hc
theorem ok2 (c d : UInt8) (hc : c.toNat = 107 ∨ c.toNat = 97 ∨ c.toNat = 98 ∨ c.toNat = 122 ∨ c.toNat = 99 ∨ c.toNat = 100 ∨ c.toNat = 63) (hd : d.toNat = 107 ∨ d.toNat = 97 ∨ d.toNat = 98 ∨ d.toNat = 122 ∨ d.toNat = 99 ∨ d.toNat = 100 ∨ d.toNat = 63) : LettersOk ⟨#[c, d]⟩ := by
  intro pos h
  have h1 : (⟨#[c, d]⟩ : ByteArray).size = 2 := rfl
  rcases (show pos = 0 ∨ pos = 1 by omega) with rfl | rfl
  · exact Or.inl hc
  · exact Or.inl hd
theorem quest_letF (k : Int) (h : k ≠ 0) : ((letF k).toList == [63]) = false := by
  rw [Lib.toList_data]
  unfold letF
  rw [if_neg h]
  repeat' split
  all_goals rfl
end Go.Proofs.YtkceplamaocmmaaGreatDoor
namespace Go.Proofs.YtkceplamaocmmaaGreatDoor
set_option linter.unusedVariables false
open Go.ChangeShapes Go.WideShapes Go.ChangeAt Go.RowKit Go.Deep
theorem cellsIns : Tryz.prog.cellsOf 34 = 4 := by kernel_rfl
theorem cellsI64s : Tryz.prog.cellsOf 32 = 1 := by kernel_rfl
theorem cellsU8 : Tryz.prog.cellsOf 5 = 1 := by kernel_rfl
theorem cellsI64 : Tryz.prog.cellsOf 2 = 1 := by kernel_rfl
theorem list_four {α : Type} : ∀ (l : List α), l.length = 4 → ∃ a b c d, l = [a, b, c, d]
  | [a, b, c, d], _ => ⟨a, b, c, d, rfl⟩
theorem open_insC {H : Type} {enc : TypeId × Value → H} {W : World} {fuel : Nat} {c0 c1 c2 c3 : Value} {x : DataW H × List MemPlace} (hf : DataW.trod enc Tryz.prog W 0 (fun _ => true) true fuel 34 [c0, c1, c2, c3] = some x) :
    ∃ d : InsD, c0 = .int .u8 d.op ∧ c1 = .int .i64 d.A ∧ c2 = .int .i64 d.B ∧ c3 = .slice d.o d.n d.cap ∧ d.ok W := by
  obtain ⟨ys, m, _, hx, _, hyl, hall⟩ := DataW.trod_struct Tryz.underlying34 hf
  obtain ⟨y0, y1, y2, y3, rfl⟩ := list_four ys hyl
  have g0 := hall 0 _ rfl
  have g1 := hall 1 _ rfl
  have g2 := hall 2 _ rfl
  have g3 := hall 3 _ rfl
  simp [cellsU8, cellsI64, cellsI64s] at g0 g1 g2 g3
  obtain ⟨op, e0, _, wo⟩ := DataW.trod_int Tryz.underlying5 g0
  obtain ⟨A, e1, _, wA⟩ := DataW.trod_int Tryz.underlying2 g1
  obtain ⟨B, e2, _, wB⟩ := DataW.trod_int Tryz.underlying2 g2
  simp only [List.cons.injEq, and_true] at e0 e1 e2
  subst e0 e1 e2
  have bo := bounds_u8 wo
  have bA := bounds_i64 wA
  rcases open_ints Tryz.underlying32 Tryz.underlying2 cellsI64 g3 with ⟨e3, _⟩ | ⟨ad, len, cap, zs, e3, _, hlc, hcm, hzl, _, hcell, _⟩
  · simp only [List.cons.injEq, and_true] at e3
    subst e3
    exact ⟨⟨op, A, B, none, 0, 0, []⟩, rfl, rfl, rfl, rfl, ⟨bo.1, bo.2, bA, Nat.le_refl _, Nat.zero_le _, ⟨rfl, Or.inl rfl⟩, fun _ => rfl⟩⟩
  · simp only [List.cons.injEq, and_true] at e3
    subst e3
    have hzlen : len ≤ zs.length := by
      rw [hzl]
      split <;> omega
    refine ⟨⟨op, A, B, some ad, len, cap, zs.take len⟩, rfl, rfl, rfl, rfl, ⟨bo.1, bo.2, bA, hlc, hcm, ⟨by simp; omega, ?_⟩, fun h => by cases h⟩⟩
    by_cases hl0 : len = 0
    · exact Or.inl hl0
    · refine Or.inr ⟨ad, rfl, ?_, fun i hi => ?_⟩
      · have hc := hcell 0 (by omega)
        apply Nat.lt_of_not_le
        intro hle
        have : W.heap[(ad.add 0).block]? = none := by
          rw [add_block]
          exact Array.getElem?_eq_none hle
        simp [World.cell?, this] at hc
      · rw [hcell i (by have : i < len := hi; omega), List.getD_eq_getElem?_getD, List.getD_eq_getElem?_getD, List.getElem?_take_of_lt hi]
instance : Inhabited InsD := ⟨⟨0, 0, 0, none, 0, 0, []⟩⟩
theorem open_list {H : Type} {enc : TypeId × Value → H} {W : World} {base : Nat} {v0 : Value} {d0 : DataW H} {p0 : List MemPlace} (hv : Value.okWide Tryz.prog W .any base 22 v0) (h0 : DataW.Trod enc Tryz.prog W 0 (fun _ => true) true 22 v0 d0 p0) :
    ∃ (o : Option Addr) (cap : Nat) (L : List InsD), v0 = .slice o L.length cap ∧ LD W o L ∧ L.length ≤ cap ∧ cap ≤ maxLen := by
  obtain ⟨a0, len0, cap0, rfl⟩ := okWide_slice Tryz.underlying22 hv
  obtain ⟨fuel, hf⟩ := h0
  rcases open_slice Tryz.underlying22 hf with ⟨e, _⟩ | ⟨a, len, cap, m, n, D, Pl, e, _, hlc, hcm, hm, _, hall⟩
  · simp [Value.cells] at e
    obtain ⟨rfl, rfl, rfl⟩ := e
    exact ⟨none, 0, [], rfl, ⟨by simp, Or.inl rfl⟩, by simp, by unfold maxLen; omega⟩
  · simp [Value.cells] at e
    obtain ⟨rfl, rfl, rfl⟩ := e
    rw [cellsIns] at hall
    have hm2 : len0 ≤ m := by rw [hm]; split <;> omega
    obtain ⟨Dd, hD⟩ := choose_lt (α := InsD) (n := len0) (p := fun i d => (W.cell? (a.add (i * 4)) = some (.int .u8 d.op) ∧ W.cell? ((a.add (i * 4)).add 1) = some (.int .i64 d.A) ∧ W.cell? ((a.add (i * 4)).add 2) = some (.int .i64 d.B) ∧ W.cell? ((a.add (i * 4)).add 3) = some (.slice d.o d.n d.cap)) ∧ d.ok W) (fun i hi => by
      obtain ⟨cs', h1, h2⟩ := hall i (by omega)
      obtain ⟨_, hl, hc⟩ := World.cells?_some h1
      obtain ⟨c0, c1, c2, c3, rfl⟩ := list_four cs' hl
      obtain ⟨d, rfl, rfl, rfl, rfl, hok⟩ := open_insC h2
      refine ⟨d, ⟨?_, hc 1 (by omega), hc 2 (by omega), hc 3 (by omega)⟩, hok⟩
      have := hc 0 (by omega)
      simpa [Addr.add] using this)
    have hL : ((List.range len0).map Dd).length = len0 := by simp
    have hget : ∀ i (h : i < ((List.range len0).map Dd).length), ((List.range len0).map Dd)[i] = Dd i := by intro i h; simp
    refine ⟨some a, cap0, (List.range len0).map Dd, by rw [hL], ⟨?_, ?_⟩, by rw [hL]; exact hlc, hcm⟩
    · intro d hd
      obtain ⟨i, hi, rfl⟩ := List.mem_map.1 hd
      exact (hD i (by simpa using hi)).2
    · by_cases h0 : len0 = 0
      · left
        subst h0
        rfl
      · right
        obtain ⟨b, f, sp⟩ := a
        have hc0 := (hD 0 (by omega)).1.1
        have hsp : sp = none := by simpa [Addr.add] using World.cell?_spot hc0
        subst hsp
        have hadd : ∀ k : Nat, (⟨b, f, none⟩ : Addr).add k = ⟨b, f + k, none⟩ := by intro k; unfold Addr.add; split <;> simp_all
        have hadd2 : ∀ k j : Nat, ((⟨b, f, none⟩ : Addr).add k).add j = ⟨b, f + k + j, none⟩ := by
          intro k j
          rw [hadd]
          unfold Addr.add
          split <;> simp_all
        refine ⟨b, f, rfl, ?_, fun i hi => ?_⟩
        · apply Nat.lt_of_not_le
          intro hle
          have : W.heap[b]? = none := Array.getElem?_eq_none hle
          rw [Nat.zero_mul, hadd] at hc0
          simp [World.cell?, this] at hc0
        · rw [hget i hi]
          have := (hD i (by rw [hL] at hi; exact hi)).1
          rw [hadd2, hadd2, hadd2, hadd] at this
          exact this
end Go.Proofs.YtkceplamaocmmaaGreatDoor
