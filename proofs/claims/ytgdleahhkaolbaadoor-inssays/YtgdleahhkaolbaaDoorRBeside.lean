/-
  What the document's own beside does.
-/
import Derived.Test.YtgdleahhkaolbaaDoorRTakes
import Derived.Test.YtgdleahhkaolbaaDoorRWidth
namespace Go.Proofs.YtgdleahhkaolbaaDoor
open Go.RowKit

/-- What stands beside an instruction, letter by letter. -/
def besF (n V : Int) (T : ByteArray) : ByteArray :=
  if 2 ≤ n ∧ n ≤ 4 then ⟨#[107]⟩ else
  if n = 12 ∨ n = 13 ∨ n = 16 ∨ (32 ≤ n ∧ n ≤ 36) then ⟨#[97]⟩ else
  if n = 14 then ⟨#[116]⟩ else
  if n = 17 then ⟨#[97, 122]⟩ else
  if 0 < V then ⟨#[97, 98]⟩ else
  if n = 63 ∨ n = 64 then ⟨#[122]⟩ else
  if n = 65 then ⟨#[99]⟩ else
  if n = 66 then ⟨#[100]⟩ else
  if n = 0 ∨ n = 1 ∨ n = 5 ∨ n = 11 ∨ n = 15 ∨ n = 26 ∨ n = 27 ∨ (!T.toList == [63]) = true then ⟨#[]⟩ else
  ⟨#[63]⟩
def besL (n : Int) : ByteArray := besF n (insW n) (takL n)

set_option maxHeartbeats 2000000 in
set_option maxRecDepth 1000000 in
theorem rbeside_any (op : Nat) (h1 : op < 256) (w : World) (hM : MaxIn w) :
    Calls Tryd.prog 41 #[.int .u8 op] w fun e w' => e = .returned (.string (besL op)) ∧ Below w.heap.size w w' := by
  have hwr : IntKind.i64.wrap (op : Int) = op := wrap_byte op h1
  have HW : Hid (Calls Tryd.prog 15 #[.int .u8 op] w fun e w' => e = .returned (.int .i64 (insW op)) ∧ Below w.heap.size w w') := rwidth_any op h1 w hM
  have HT : Hid (∀ w, Calls Tryd.prog 48 #[.int .u8 op] w fun e w' => e = .returned (.string (takL op)) ∧ w' = w) := fun w => takes_any op (by omega) (by omega) w
  rw [besL]
  generalize insW (op : Int) = V at HW ⊢
  generalize takL (op : Int) = T at HT ⊢
  clear hM
  go_enter Tryd.func41, Tryd.ntmps41
  go_wp2_with (first
    | (go_at_call 15; refine HW.out.mono ?_; rintro e w1 ⟨rfl, b1⟩)
    | (go_at_call 48; refine (HT.out _).mono ?_; rintro e w2 ⟨rfl, rfl⟩))
  all_goals
    go_ret
    refine ⟨ret_s ?_, by first | exact Below.refl _ _ | assumption⟩
    try simp only [beq_iff_eq, beq_eq_false_iff_ne, ne_eq] at *
    rw [besF]
    repeat (first | rw [if_pos (by omega)] | rw [if_neg (by omega)])
    try rfl
    try
      split
      · first
          | rfl
          | (rename_i hc
             exfalso
             rcases hc with hc | hc | hc | hc | hc | hc | hc | hc
             all_goals first | omega | exact absurd (hc.symm.trans ‹(!T.toList == [63]) = false›) (by decide))
      · first
          | rfl
          | (rename_i hc; exact absurd (Or.inr (Or.inr (Or.inr (Or.inr (Or.inr (Or.inr (Or.inr ‹(!T.toList == [63]) = true›))))))) hc)

end Go.Proofs.YtgdleahhkaolbaaDoor
