/-
  Folding: what a rule answers; the small functions.
  Folding: the small rules.
-/
import Derived.Test.YtkceplamaocmmaaGreatDoorZPU
import Derived.Test.YtkceplamaocmmaaGreatDoorZGMat
import Derived.Deep.RegionHeld3
set_option maxHeartbeats 1000000
set_option maxRecDepth 1000000
namespace Go.Proofs.YtkceplamaocmmaaGreatDoor
open Go.RowKit
set_option linter.unusedVariables false
theorem fch {N : Nat} {w w' : World} (h : Below N w w' := by repeat' (first | with_reducible exact Below.refl _ _ | with_reducible exact Hid.out (by assumption) | with_reducible refine Below.drew ?_ | with_reducible refine Below.alloc ?_ ?_ _ | (simp only [World.size_alloc, World.size_drew]; omega) | omega)) : Below N w w' := h
theorem fcell {w : World} {P : Nat} {cs : Array Value} {t : TypeId} {fr : Nat × Nat} (h : w.heap[P]? = some (.cells cs t fr)) (i : Nat) {v : Value} (hv : cs[i]? = some v) : w.cell? ⟨P, i, none⟩ = some v := by
  unfold World.cell?
  simp only [h]
  simpa using hv
structure FA (w : World) : Prop where
  tab : TabIn w
  sz : 0 < w.heap.size
theorem FA.under {w w' : World} (h : FA w) (b : Below w.heap.size w w') : FA w' := ⟨h.tab.chg (P := w.heap.size) (Chg.of_below b) h.sz (Nat.ne_of_lt h.sz), Nat.lt_of_lt_of_le h.sz b.size⟩
def mkD (op A : Int) : InsD := ⟨op, A, 0, none, 0, 0, []⟩
instance inhI : Inhabited InsD := ⟨mkD 0 0⟩
theorem mkD_ok (w : World) (op A : Int) (h0 : 0 ≤ op) (h1 : op ≤ 255) (hA : -9223372036854775808 ≤ A ∧ A ≤ 9223372036854775807) : (mkD op A).ok w :=
  ⟨h0, h1, hA, Nat.le_refl _, by show 0 ≤ maxLen; omega, ⟨rfl, Or.inl rfl⟩, fun _ => rfl⟩
def ROut (w w' : World) (r : Ending) (c : Option (Nat × List InsD)) : Prop :=
  Below w.heap.size w w' ∧ match c with
  | none => r = .returned (.pointer none)
  | some q => ∃ (P : Nat) (o : Option Addr) (cap : Nat), r = .returned (.pointer (some ⟨P, 0, none⟩)) ∧ P < w'.heap.size ∧ w'.cell? ⟨P, 0, none⟩ = some (.int .i64 q.1) ∧ w'.cell? ⟨P, 1, none⟩ = some (.slice o q.2.length cap) ∧ LD w' o q.2 ∧ q.2.length ≤ cap ∧ cap ≤ 9223372036854775807
theorem ROut.none {w w' : World} (b : Below w.heap.size w w') : ROut w w' (.returned (.pointer Option.none)) Option.none := ⟨b, rfl⟩
theorem ROut.put {w wa : World} (b : Below w.heap.size w wa) (k : Nat) (o : Option Addr) (cap : Nat) (I : List InsD) (h : LD wa o I) (hc : I.length ≤ cap) (hc2 : cap ≤ 9223372036854775807) : ROut w (wa.alloc (.cells #[.int .i64 k, .slice o I.length cap] 46)) (.returned (.pointer (some ⟨wa.heap.size, 0, Option.none⟩))) (some (k, I)) := by
  have hn := new_block wa (.cells #[.int .i64 k, .slice o I.length cap] 46)
  refine ⟨b.alloc b.size _, wa.heap.size, o, cap, rfl, by simp, fcell hn 0 rfl, fcell hn 1 rfl, h.below ((Below.refl _ _).alloc (Nat.le_refl _) _), hc, hc2⟩
theorem ld_one (w : World) (d : InsD) (h : d.ok w) : LD (w.alloc (.cells #[.int .u8 d.op, .int .i64 d.A, .int .i64 d.B, .slice d.o d.n d.cap] 34)) (some ⟨w.heap.size, 0, none⟩) [d] := by
  have hn := new_block w (.cells #[.int .u8 d.op, .int .i64 d.A, .int .i64 d.B, .slice d.o d.n d.cap] 34)
  refine ⟨fun x hx => ?_, Or.inr ⟨_, _, rfl, by simp, fun i hi => ?_⟩⟩
  · obtain rfl := List.mem_singleton.1 hx
    exact h.below ((Below.refl _ _).alloc (Nat.le_refl _) _)
  · have hi : i = 0 := by simpa using hi
    subst hi
    exact ⟨fcell hn 0 rfl, fcell hn 1 rfl, fcell hn 2 rfl, fcell hn 3 rfl⟩
theorem fbecomes (k : Int) (o : Option Addr) (n cap : Nat) (w : World) :
    Calls Tryz.prog 73 #[.int .i64 k, .slice o n cap] w fun r w' => r = .returned (.pointer (some ⟨w.heap.size, 0, none⟩)) ∧ w' = w.alloc (.cells #[.int .i64 k, .slice o n cap] 46) := by
  go_enter Tryz.func73, Tryz.ntmps73
  go_wp2
  go_ret
  exact ⟨rfl, rfl⟩
def cOf (k : Int) : Int := if k = 127 then 65 else 66
theorem fconstOf (k : Int) (w : World) :
    Calls Tryz.prog 88 #[.int .u8 k] w fun r w' => r = .returned (.int .u8 (cOf k)) ∧ w' = w := by
  unfold cOf
  by_cases h : k = 127
  · subst h
    rw [if_pos rfl]
    go_enter Tryz.func88, Tryz.ntmps88
    go_wp2
    go_ret
    exact ⟨rfl, rfl⟩
  · rw [if_neg h]
    have e : (k == 127) = false := by rw [beq_eq_false_iff_ne]; exact h
    clear h
    go_enter Tryz.func88, Tryz.ntmps88
    go_wp2
    go_ret
    exact ⟨rfl, rfl⟩
def isC (op : Int) : Bool := op == 65 || op == 66
theorem fisConst (op A B : Int) (o : Option Addr) (n cap : Nat) (w : World) :
    Calls Tryz.prog 74 #[.agg #[.int .u8 op, .int .i64 A, .int .i64 B, .slice o n cap]] w fun r w' => r = .returned (.bool (isC op)) ∧ Below w.heap.size w w' := by
  unfold isC
  have b : Below w.heap.size w (w.alloc (.cells #[.int .u8 op, .int .i64 A, .int .i64 B, .slice o n cap] 34)) := (Below.refl _ _).alloc (Nat.le_refl _) _
  have HB : Hid (type_of% b) := b
  clear b
  have hc := fcell (new_block w (.cells #[.int .u8 op, .int .i64 A, .int .i64 B, .slice o n cap] 34)) 0 rfl
  cases e : (op == 65)
  · cases e2 : (op == 66)
    all_goals
      go_enter Tryz.func74, Tryz.ntmps74
      go_wp2
      go_ret
      exact ⟨rfl, HB.out⟩
  · go_enter Tryz.func74, Tryz.ntmps74
    go_wp2
    go_ret
    exact ⟨rfl, HB.out⟩
end Go.Proofs.YtkceplamaocmmaaGreatDoor
namespace Go.Proofs.YtkceplamaocmmaaGreatDoor
open Go.RowKit
set_option linter.unusedVariables false
theorem LD.two {w : World} {o : Option Addr} {L : List InsD} (h : LD w o L) (i : Nat) (hi : i + 1 < L.length) : ∃ b f, o = some ⟨b, f, none⟩ ∧ b < w.heap.size ∧ (w.cell? ⟨b, f + i * 4, none⟩ = some (.int .u8 (L[i]!).op) ∧ w.cell? ⟨b, f + i * 4 + 1, none⟩ = some (.int .i64 (L[i]!).A) ∧ w.cell? ⟨b, f + i * 4 + 2, none⟩ = some (.int .i64 (L[i]!).B) ∧ w.cell? ⟨b, f + i * 4 + 3, none⟩ = some (.slice (L[i]!).o (L[i]!).n (L[i]!).cap)) ∧ w.cell? ⟨b, f + (i + 1) * 4, none⟩ = some (.int .u8 (L[i+1]!).op) ∧ w.cell? ⟨b, f + (i + 1) * 4 + 1, none⟩ = some (.int .i64 (L[i+1]!).A) ∧ w.cell? ⟨b, f + (i + 1) * 4 + 2, none⟩ = some (.int .i64 (L[i+1]!).B) ∧ w.cell? ⟨b, f + (i + 1) * 4 + 3, none⟩ = some (.slice (L[i+1]!).o (L[i+1]!).n (L[i+1]!).cap) := by
  rcases h.2 with h0 | ⟨b, f, e, hb, hc⟩
  · rw [h0] at hi; simp at hi
  · have e1 : L[i]! = L[i] := getElem!_pos L i (by omega)
    have e2 : L[i+1]! = L[i+1] := getElem!_pos L (i+1) hi
    rw [e1, e2]
    exact ⟨b, f, e, hb, hc i (by omega), hc (i+1) hi⟩
theorem LD.at_ok {w : World} {o : Option Addr} {L : List InsD} (h : LD w o L) (i : Nat) (hi : i < L.length) : (L[i]!).ok w := by
  rw [getElem!_pos L i hi]
  exact h.1 _ (List.getElem_mem hi)
def chg0 (x : InsD) : Option (Nat × List InsD) := if x.op = 1 then some (1, []) else none
theorem rout_gone (w : World) (k : Nat) : ROut w (w.alloc (.cells #[.int .i64 k, .slice none 0 0] 46)) (.returned (.pointer (some ⟨w.heap.size, 0, none⟩))) (some (k, [])) :=
  ROut.put (Below.refl _ _) k none 0 [] ⟨by simp, Or.inl rfl⟩ (by simp) (by omega)
theorem rule0 (o : Option Addr) (cap : Nat) (L : List InsD) (i : Nat) (w : World) (h : LD w o L) (hn : L.length ≤ 200) (hi : i + 1 < L.length) :
    Calls Tryz.prog 46 #[.slice o L.length cap, .int .i64 (i : Int)] w fun r w' => ROut w w' r (chg0 (L[i]!)) := by
  obtain ⟨b, f, rfl, hb, ⟨x0, x1, x2, x3⟩, y0, y1, y2, y3⟩ := h.two i hi
  have hi0 : (0 : Int) ≤ (i : Int) := by omega
  have hi1 : (i : Int) < (L.length : Int) := by omega
  have HG := rout_gone w 1
  have HN := ROut.none (Below.refl w.heap.size w)
  generalize L.length = n at *
  unfold chg0
  generalize L[i]! = x at *
  clear h y0 y1 y2 y3
  obtain ⟨op, A, B, xo, xn, xc, xs⟩ := x
  simp only at *
  by_cases e : op = 1
  · subst e
    rw [if_pos rfl]
    go_enter Tryz.func46, Tryz.ntmps46
    go_wp2_with (go_at_call 73; refine (fbecomes _ _ _ _ _).mono ?_; rintro r w1 ⟨rfl, rfl⟩)
    go_ret
    exact HG
  · rw [if_neg e]
    have e1 : (op != 1) = true := by simp [e]
    go_enter Tryz.func46, Tryz.ntmps46
    go_wp2_with fail
    go_ret
    exact HN
end Go.Proofs.YtkceplamaocmmaaGreatDoor
