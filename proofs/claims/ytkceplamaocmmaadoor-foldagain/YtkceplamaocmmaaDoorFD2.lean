/-
  Folding: the small rules.
-/
import Derived.Test.YtkceplamaocmmaaDoorFD1
namespace Go.Proofs.YtkceplamaocmmaaDoor
open Go.RowKit
set_option linter.unusedVariables false

theorem LD.two {w : World} {o : Option Addr} {L : List InsD} (h : LD w o L) (i : Nat) (hi : i + 1 < L.length) : ∃ b f, o = some ⟨b, f, none⟩ ∧ b < w.heap.size ∧ (w.cell? ⟨b, f + i * 4, none⟩ = some (.int .u8 (L[i]!).op) ∧ w.cell? ⟨b, f + i * 4 + 1, none⟩ = some (.int .i64 (L[i]!).A) ∧ w.cell? ⟨b, f + i * 4 + 2, none⟩ = some (.int .i64 (L[i]!).B) ∧ w.cell? ⟨b, f + i * 4 + 3, none⟩ = some (.slice (L[i]!).o (L[i]!).n (L[i]!).cap)) ∧ w.cell? ⟨b, f + (i + 1) * 4, none⟩ = some (.int .u8 (L[i+1]!).op) ∧ w.cell? ⟨b, f + (i + 1) * 4 + 1, none⟩ = some (.int .i64 (L[i+1]!).A) ∧ w.cell? ⟨b, f + (i + 1) * 4 + 2, none⟩ = some (.int .i64 (L[i+1]!).B) ∧ w.cell? ⟨b, f + (i + 1) * 4 + 3, none⟩ = some (.slice (L[i+1]!).o (L[i+1]!).n (L[i+1]!).cap) := by
  rcases h.2 with h0 | ⟨b, f, e, hb, hc⟩
  · rw [h0] at hi; simp at hi
  · have e1 : L[i]! = L[i] := getElem!_pos L i (by omega)
    have e2 : L[i+1]! = L[i+1] := getElem!_pos L (i+1) hi
    rw [e1, e2]
    exact ⟨b, f, e, hb, hc i (by omega), hc (i+1) hi⟩
theorem LD.at_ok {w : World} {o : Option Addr} {L : List InsD} (h : LD w o L) (i : Nat) (hi : i < L.length) : (L[i]!).ok w := by
  rw [getElem!_pos L i hi]
  exact h.1 _ (List.getElem_mem hi)
def chg0 (x : InsD) : Option (Nat × List InsD) := if x.op = 1 then some (1, []) else none
theorem rout_gone (w : World) (k : Nat) : ROut w (w.alloc (.cells #[.int .i64 k, .slice none 0 0] 46)) (.returned (.pointer (some ⟨w.heap.size, 0, none⟩))) (some (k, [])) :=
  ROut.put (Below.refl _ _) k none 0 [] ⟨by simp, Or.inl rfl⟩ (by simp) (by omega)
set_option maxHeartbeats 1000000 in
set_option maxRecDepth 1000000 in
theorem rule0 (o : Option Addr) (cap : Nat) (L : List InsD) (i : Nat) (w : World) (h : LD w o L) (hn : L.length ≤ 200) (hi : i + 1 < L.length) :
    Calls Tryd.prog 27 #[.slice o L.length cap, .int .i64 (i : Int)] w fun r w' => ROut w w' r (chg0 (L[i]!)) := by
  obtain ⟨b, f, rfl, hb, ⟨x0, x1, x2, x3⟩, y0, y1, y2, y3⟩ := h.two i hi
  have hi0 : (0 : Int) ≤ (i : Int) := by omega
  have hi1 : (i : Int) < (L.length : Int) := by omega
  have HG := rout_gone w 1
  have HN := ROut.none (Below.refl w.heap.size w)
  generalize L.length = n at *
  unfold chg0
  generalize L[i]! = x at *
  clear h y0 y1 y2 y3
  obtain ⟨op, A, B, xo, xn, xc, xs⟩ := x
  simp only at *
  by_cases e : op = 1
  · subst e
    rw [if_pos rfl]
    go_enter Tryd.func27, Tryd.ntmps27
    go_wp2_with (go_at_call 43; refine (fbecomes _ _ _ _ _).mono ?_; rintro r w1 ⟨rfl, rfl⟩)
    go_ret
    exact HG
  · rw [if_neg e]
    have e1 : (op != 1) = true := by simp [e]
    go_enter Tryd.func27, Tryd.ntmps27
    go_wp2_with fail
    go_ret
    exact HN
end Go.Proofs.YtkceplamaocmmaaDoor
