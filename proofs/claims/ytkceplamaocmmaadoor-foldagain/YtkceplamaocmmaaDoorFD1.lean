/-
  Folding: what a rule answers; the small functions.
-/
import Derived.Test.YtkceplamaocmmaaDoorRSame
import Derived.Test.YtkceplamaocmmaaDoorGMat
import Derived.Deep.RegionHeld3
namespace Go.Proofs.YtkceplamaocmmaaDoor
open Go.RowKit
set_option linter.unusedVariables false

theorem fch {N : Nat} {w w' : World} (h : Below N w w' := by repeat' (first | with_reducible exact Below.refl _ _ | with_reducible exact Hid.out (by assumption) | with_reducible refine Below.drew ?_ | with_reducible refine Below.alloc ?_ ?_ _ | (simp only [World.size_alloc, World.size_drew]; omega) | omega)) : Below N w w' := h
theorem fcell {w : World} {P : Nat} {cs : Array Value} {t : TypeId} {fr : Nat × Nat} (h : w.heap[P]? = some (.cells cs t fr)) (i : Nat) {v : Value} (hv : cs[i]? = some v) : w.cell? ⟨P, i, none⟩ = some v := by
  unfold World.cell?
  simp only [h]
  simpa using hv
/-- What stays all along: the table of bits. -/
structure FA (w : World) : Prop where
  tab : TabIn w
  sz : 0 < w.heap.size
theorem FA.under {w w' : World} (h : FA w) (b : Below w.heap.size w w') : FA w' := ⟨h.tab.chg (P := w.heap.size) (Chg.of_below b) h.sz (Nat.ne_of_lt h.sz), Nat.lt_of_lt_of_le h.sz b.size⟩
/-- An instruction with nothing beside but A. -/
def mkD (op A : Int) : InsD := ⟨op, A, 0, none, 0, 0, []⟩
instance inhI : Inhabited InsD := ⟨mkD 0 0⟩
theorem mkD_ok (w : World) (op A : Int) (h0 : 0 ≤ op) (h1 : op ≤ 255) (hA : -9223372036854775808 ≤ A ∧ A ≤ 9223372036854775807) : (mkD op A).ok w :=
  ⟨h0, h1, hA, Nat.le_refl _, by show 0 ≤ maxLen; omega, ⟨rfl, Or.inl rfl⟩, fun _ => rfl⟩
/-- What a rule answers: nothing, or how many instructions become which. -/
def ROut (w w' : World) (r : Ending) (c : Option (Nat × List InsD)) : Prop :=
  Below w.heap.size w w' ∧ match c with
  | none => r = .returned (.pointer none)
  | some q => ∃ (P : Nat) (o : Option Addr) (cap : Nat), r = .returned (.pointer (some ⟨P, 0, none⟩)) ∧ P < w'.heap.size ∧ w'.cell? ⟨P, 0, none⟩ = some (.int .i64 q.1) ∧ w'.cell? ⟨P, 1, none⟩ = some (.slice o q.2.length cap) ∧ LD w' o q.2 ∧ q.2.length ≤ cap ∧ cap ≤ 9223372036854775807
theorem ROut.none {w w' : World} (b : Below w.heap.size w w') : ROut w w' (.returned (.pointer Option.none)) Option.none := ⟨b, rfl⟩
theorem ROut.put {w wa : World} (b : Below w.heap.size w wa) (k : Nat) (o : Option Addr) (cap : Nat) (I : List InsD) (h : LD wa o I) (hc : I.length ≤ cap) (hc2 : cap ≤ 9223372036854775807) : ROut w (wa.alloc (.cells #[.int .i64 k, .slice o I.length cap] 46)) (.returned (.pointer (some ⟨wa.heap.size, 0, Option.none⟩))) (some (k, I)) := by
  have hn := new_block wa (.cells #[.int .i64 k, .slice o I.length cap] 46)
  refine ⟨b.alloc b.size _, wa.heap.size, o, cap, rfl, by simp, fcell hn 0 rfl, fcell hn 1 rfl, h.below ((Below.refl _ _).alloc (Nat.le_refl _) _), hc, hc2⟩
/-- A row of one instruction. -/
theorem ld_one (w : World) (d : InsD) (h : d.ok w) : LD (w.alloc (.cells #[.int .u8 d.op, .int .i64 d.A, .int .i64 d.B, .slice d.o d.n d.cap] 30)) (some ⟨w.heap.size, 0, none⟩) [d] := by
  have hn := new_block w (.cells #[.int .u8 d.op, .int .i64 d.A, .int .i64 d.B, .slice d.o d.n d.cap] 30)
  refine ⟨fun x hx => ?_, Or.inr ⟨_, _, rfl, by simp, fun i hi => ?_⟩⟩
  · obtain rfl := List.mem_singleton.1 hx
    exact h.below ((Below.refl _ _).alloc (Nat.le_refl _) _)
  · have hi : i = 0 := by simpa using hi
    subst hi
    exact ⟨fcell hn 0 rfl, fcell hn 1 rfl, fcell hn 2 rfl, fcell hn 3 rfl⟩
set_option maxHeartbeats 1000000 in
set_option maxRecDepth 1000000 in
theorem fbecomes (k : Int) (o : Option Addr) (n cap : Nat) (w : World) :
    Calls Tryd.prog 43 #[.int .i64 k, .slice o n cap] w fun r w' => r = .returned (.pointer (some ⟨w.heap.size, 0, none⟩)) ∧ w' = w.alloc (.cells #[.int .i64 k, .slice o n cap] 46) := by
  go_enter Tryd.func43, Tryd.ntmps43
  go_wp2
  go_ret
  exact ⟨rfl, rfl⟩
/-- The const of a kind. -/
def cOf (k : Int) : Int := if k = 127 then 65 else 66
set_option maxHeartbeats 1000000 in
set_option maxRecDepth 1000000 in
theorem fconstOf (k : Int) (w : World) :
    Calls Tryd.prog 54 #[.int .u8 k] w fun r w' => r = .returned (.int .u8 (cOf k)) ∧ w' = w := by
  unfold cOf
  by_cases h : k = 127
  · subst h
    rw [if_pos rfl]
    go_enter Tryd.func54, Tryd.ntmps54
    go_wp2
    go_ret
    exact ⟨rfl, rfl⟩
  · rw [if_neg h]
    have e : (k == 127) = false := by rw [beq_eq_false_iff_ne]; exact h
    clear h
    go_enter Tryd.func54, Tryd.ntmps54
    go_wp2
    go_ret
    exact ⟨rfl, rfl⟩
def isC (op : Int) : Bool := op == 65 || op == 66
set_option maxHeartbeats 1000000 in
set_option maxRecDepth 1000000 in
theorem fisConst (op A B : Int) (o : Option Addr) (n cap : Nat) (w : World) :
    Calls Tryd.prog 44 #[.agg #[.int .u8 op, .int .i64 A, .int .i64 B, .slice o n cap]] w fun r w' => r = .returned (.bool (isC op)) ∧ Below w.heap.size w w' := by
  unfold isC
  have b : Below w.heap.size w (w.alloc (.cells #[.int .u8 op, .int .i64 A, .int .i64 B, .slice o n cap] 30)) := (Below.refl _ _).alloc (Nat.le_refl _) _
  have HB : Hid (type_of% b) := b
  clear b
  have hc := fcell (new_block w (.cells #[.int .u8 op, .int .i64 A, .int .i64 B, .slice o n cap] 30)) 0 rfl
  cases e : (op == 65)
  · cases e2 : (op == 66)
    all_goals
      go_enter Tryd.func44, Tryd.ntmps44
      go_wp2
      go_ret
      exact ⟨rfl, HB.out⟩
  · go_enter Tryd.func44, Tryd.ntmps44
    go_wp2
    go_ret
    exact ⟨rfl, HB.out⟩
end Go.Proofs.YtkceplamaocmmaaDoor
