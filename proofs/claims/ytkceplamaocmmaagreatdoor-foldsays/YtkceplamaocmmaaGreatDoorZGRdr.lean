/-
 What the reader's own small methods do. What the reader's own methods do, over lists of bytes. What the reader's own numbers does. What the program's own besideOf does.
-/
import Derived.Test.YtkceplamaocmmaaGreatDoorZGIns
import Derived.Test.YtkceplamaocmmaaGreatDoorZPB
import Derived.OwnWalk
set_option maxHeartbeats 1000000
set_option maxRecDepth 1000000
namespace Go.Proofs.YtkceplamaocmmaaGreatDoor
set_option linter.unusedVariables false
open Go.RowKit
structure Chg (P : Nat) (w w' : World) : Prop where
 os : w'.os = w.os
 tape : w'.tape = w.tape
 output : w'.output = w.output
 size : w.heap.size ≤ w'.heap.size
 block : ∀ k, k < w.heap.size → k ≠ P → w'.heap[k]? = w.heap[k]?
theorem Chg.of_below {P : Nat} {w w' : World} (h : Below w.heap.size w w') : Chg P w w' := ⟨h.os, h.tape, h.output, h.size, fun k hk _ => h.block k hk⟩
theorem Chg.cell {P : Nat} {w w' : World} (h : Chg P w w') (a : Addr) (h1 : a.block < w.heap.size) (h2 : a.block ≠ P) : w'.cell? a = w.cell? a := World.cell?_of_block (w := w) (h.block a.block h1 h2)
end Go.Proofs.YtkceplamaocmmaaGreatDoor
namespace Go.Proofs.YtkceplamaocmmaaGreatDoor
open Go.RowKit
def isKB (b : Int) : Bool := b == 64 || b == 127 || b == 126
theorem isKB_any (b : Int) (w : World) : Calls Tryz.prog 70 #[.int .i64 b] w fun r w' => r = .returned (.bool (isKB b)) ∧ w' = w := by
 by_cases h1 : b = 64
 ·subst h1
  go_enter Tryz.func70, Tryz.ntmps70
  go_wp2
  go_ret
  exact ⟨rfl, rfl⟩
 have e1 : (b == 64) = false := by rw [beq_eq_false_iff_ne]; exact h1
 by_cases h2 : b = 127
 ·subst h2
  go_enter Tryz.func70, Tryz.ntmps70
  go_wp2
  go_ret
  exact ⟨rfl, rfl⟩
 have e2 : (b == 127) = false := by rw [beq_eq_false_iff_ne]; exact h2
 have e3 : isKB b = (b == 126) := by unfold isKB; rw [e1, e2]; simp
 rw [e3]
 go_enter Tryz.func70, Tryz.ntmps70
 go_wp2
 go_ret
 exact ⟨rfl, rfl⟩
end Go.Proofs.YtkceplamaocmmaaGreatDoor
namespace Go.Proofs.YtkceplamaocmmaaGreatDoor
open Go.RowKit
theorem set_step (A Z : List Value) (k : Nat) (y : Value) (hA : A.length = k) (hk : k < Z.length) : (A ++ Z.drop k).set k y = (A ++ [y]) ++ Z.drop (k + 1) := by
 rw [List.set_append_right _ _ (by omega), hA, Nat.sub_self, List.drop_eq_getElem_cons hk, List.set_cons_zero, List.append_assoc]
 rfl
theorem Tryz.infoI64 : (Tryz.prog.info? 2).map (fun i => (i.zero, i.size, i.bytes)) = some (some (.int .i64 0), 1, 8) := by kernel_rfl
end Go.Proofs.YtkceplamaocmmaaGreatDoor
namespace Go.Proofs.YtkceplamaocmmaaGreatDoor
open Go.RowKit
def besV (op : Int) : Int :=
 if op = 0 ∨ op = 1 ∨ op = 5 ∨ op = 11 ∨ op = 15 ∨ op = 26 ∨ op = 27 then 1
 else if op = 2 ∨ op = 3 ∨ op = 4 then 2
 else if op = 12 ∨ op = 13 ∨ op = 16 ∨ op = 32 ∨ op = 33 ∨ op = 34 ∨ op = 35 ∨ op = 36 then 3
 else if op = 14 then 4 else if op = 17 then 5 else if op = 63 ∨ op = 64 then 7 else if op = 65 then 8 else if op = 66 then 9
 else if 0 < insW op then 6 else if 0 < insN op then 1 else 0
theorem bes_0 (w : World) : Calls Tryz.prog 44 #[.int .u8 0] w fun r w' => r = .returned (.int .i64 1) ∧ w' = w := by
 go_enter Tryz.func44, Tryz.ntmps44
 go_wp2
 go_ret
 exact ⟨rfl, rfl⟩
theorem bes_1 (w : World) : Calls Tryz.prog 44 #[.int .u8 1] w fun r w' => r = .returned (.int .i64 1) ∧ w' = w := by
 go_enter Tryz.func44, Tryz.ntmps44
 go_wp2
 go_ret
 exact ⟨rfl, rfl⟩
theorem bes_5 (w : World) : Calls Tryz.prog 44 #[.int .u8 5] w fun r w' => r = .returned (.int .i64 1) ∧ w' = w := by
 go_enter Tryz.func44, Tryz.ntmps44
 go_wp2
 go_ret
 exact ⟨rfl, rfl⟩
theorem bes_11 (w : World) : Calls Tryz.prog 44 #[.int .u8 11] w fun r w' => r = .returned (.int .i64 1) ∧ w' = w := by
 go_enter Tryz.func44, Tryz.ntmps44
 go_wp2
 go_ret
 exact ⟨rfl, rfl⟩
theorem bes_15 (w : World) : Calls Tryz.prog 44 #[.int .u8 15] w fun r w' => r = .returned (.int .i64 1) ∧ w' = w := by
 go_enter Tryz.func44, Tryz.ntmps44
 go_wp2
 go_ret
 exact ⟨rfl, rfl⟩
theorem bes_26 (w : World) : Calls Tryz.prog 44 #[.int .u8 26] w fun r w' => r = .returned (.int .i64 1) ∧ w' = w := by
 go_enter Tryz.func44, Tryz.ntmps44
 go_wp2
 go_ret
 exact ⟨rfl, rfl⟩
theorem bes_27 (w : World) : Calls Tryz.prog 44 #[.int .u8 27] w fun r w' => r = .returned (.int .i64 1) ∧ w' = w := by
 go_enter Tryz.func44, Tryz.ntmps44
 go_wp2
 go_ret
 exact ⟨rfl, rfl⟩
theorem bes_2 (w : World) : Calls Tryz.prog 44 #[.int .u8 2] w fun r w' => r = .returned (.int .i64 2) ∧ w' = w := by
 go_enter Tryz.func44, Tryz.ntmps44
 go_wp2
 go_ret
 exact ⟨rfl, rfl⟩
theorem bes_3 (w : World) : Calls Tryz.prog 44 #[.int .u8 3] w fun r w' => r = .returned (.int .i64 2) ∧ w' = w := by
 go_enter Tryz.func44, Tryz.ntmps44
 go_wp2
 go_ret
 exact ⟨rfl, rfl⟩
theorem bes_4 (w : World) : Calls Tryz.prog 44 #[.int .u8 4] w fun r w' => r = .returned (.int .i64 2) ∧ w' = w := by
 go_enter Tryz.func44, Tryz.ntmps44
 go_wp2
 go_ret
 exact ⟨rfl, rfl⟩
theorem bes_12 (w : World) : Calls Tryz.prog 44 #[.int .u8 12] w fun r w' => r = .returned (.int .i64 3) ∧ w' = w := by
 go_enter Tryz.func44, Tryz.ntmps44
 go_wp2
 go_ret
 exact ⟨rfl, rfl⟩
theorem bes_13 (w : World) : Calls Tryz.prog 44 #[.int .u8 13] w fun r w' => r = .returned (.int .i64 3) ∧ w' = w := by
 go_enter Tryz.func44, Tryz.ntmps44
 go_wp2
 go_ret
 exact ⟨rfl, rfl⟩
theorem bes_16 (w : World) : Calls Tryz.prog 44 #[.int .u8 16] w fun r w' => r = .returned (.int .i64 3) ∧ w' = w := by
 go_enter Tryz.func44, Tryz.ntmps44
 go_wp2
 go_ret
 exact ⟨rfl, rfl⟩
theorem bes_32 (w : World) : Calls Tryz.prog 44 #[.int .u8 32] w fun r w' => r = .returned (.int .i64 3) ∧ w' = w := by
 go_enter Tryz.func44, Tryz.ntmps44
 go_wp2
 go_ret
 exact ⟨rfl, rfl⟩
theorem bes_33 (w : World) : Calls Tryz.prog 44 #[.int .u8 33] w fun r w' => r = .returned (.int .i64 3) ∧ w' = w := by
 go_enter Tryz.func44, Tryz.ntmps44
 go_wp2
 go_ret
 exact ⟨rfl, rfl⟩
theorem bes_34 (w : World) : Calls Tryz.prog 44 #[.int .u8 34] w fun r w' => r = .returned (.int .i64 3) ∧ w' = w := by
 go_enter Tryz.func44, Tryz.ntmps44
 go_wp2
 go_ret
 exact ⟨rfl, rfl⟩
theorem bes_35 (w : World) : Calls Tryz.prog 44 #[.int .u8 35] w fun r w' => r = .returned (.int .i64 3) ∧ w' = w := by
 go_enter Tryz.func44, Tryz.ntmps44
 go_wp2
 go_ret
 exact ⟨rfl, rfl⟩
theorem bes_36 (w : World) : Calls Tryz.prog 44 #[.int .u8 36] w fun r w' => r = .returned (.int .i64 3) ∧ w' = w := by
 go_enter Tryz.func44, Tryz.ntmps44
 go_wp2
 go_ret
 exact ⟨rfl, rfl⟩
theorem bes_14 (w : World) : Calls Tryz.prog 44 #[.int .u8 14] w fun r w' => r = .returned (.int .i64 4) ∧ w' = w := by
 go_enter Tryz.func44, Tryz.ntmps44
 go_wp2
 go_ret
 exact ⟨rfl, rfl⟩
theorem bes_17 (w : World) : Calls Tryz.prog 44 #[.int .u8 17] w fun r w' => r = .returned (.int .i64 5) ∧ w' = w := by
 go_enter Tryz.func44, Tryz.ntmps44
 go_wp2
 go_ret
 exact ⟨rfl, rfl⟩
theorem bes_63 (w : World) : Calls Tryz.prog 44 #[.int .u8 63] w fun r w' => r = .returned (.int .i64 7) ∧ w' = w := by
 go_enter Tryz.func44, Tryz.ntmps44
 go_wp2
 go_ret
 exact ⟨rfl, rfl⟩
theorem bes_64 (w : World) : Calls Tryz.prog 44 #[.int .u8 64] w fun r w' => r = .returned (.int .i64 7) ∧ w' = w := by
 go_enter Tryz.func44, Tryz.ntmps44
 go_wp2
 go_ret
 exact ⟨rfl, rfl⟩
theorem bes_65 (w : World) : Calls Tryz.prog 44 #[.int .u8 65] w fun r w' => r = .returned (.int .i64 8) ∧ w' = w := by
 go_enter Tryz.func44, Tryz.ntmps44
 go_wp2
 go_ret
 exact ⟨rfl, rfl⟩
theorem bes_66 (w : World) : Calls Tryz.prog 44 #[.int .u8 66] w fun r w' => r = .returned (.int .i64 9) ∧ w' = w := by
 go_enter Tryz.func44, Tryz.ntmps44
 go_wp2
 go_ret
 exact ⟨rfl, rfl⟩
theorem bes_place (op wv : Int) (_h0 : (op == 0) = false) (_h1 : (op == 1) = false) (_h5 : (op == 5) = false) (_h11 : (op == 11) = false) (_h15 : (op == 15) = false) (_h26 : (op == 26) = false) (_h27 : (op == 27) = false) (_h2 : (op == 2) = false) (_h3 : (op == 3) = false) (_h4 : (op == 4) = false) (_h12 : (op == 12) = false) (_h13 : (op == 13) = false) (_h16 : (op == 16) = false) (_h32 : (op == 32) = false) (_h33 : (op == 33) = false) (_h34 : (op == 34) = false) (_h35 : (op == 35) = false) (_h36 : (op == 36) = false) (_h14 : (op == 14) = false) (_h17 : (op == 17) = false) (_h63 : (op == 63) = false) (_h64 : (op == 64) = false) (_h65 : (op == 65) = false) (_h66 : (op == 66) = false) (_hw : 0 < wv) (w : World) (HW : Hid (∀ w, Calls Tryz.prog 68 #[.int .u8 op] w fun e w' => e = .returned (.int .i64 wv) ∧ w' = w)) : Calls Tryz.prog 44 #[.int .u8 op] w fun r w' => r = .returned (.int .i64 6) ∧ Below w.heap.size w w' := by
 go_enter Tryz.func44, Tryz.ntmps44
 go_wp2_with fail
 refine (HW.out _).mono ?_
 rintro e w1 ⟨rfl, rfl⟩
 go_wp2
 go_ret
 exact ⟨rfl, Below.refl _ _⟩
theorem bes_num (op nv : Int) (_h0 : (op == 0) = false) (_h1 : (op == 1) = false) (_h5 : (op == 5) = false) (_h11 : (op == 11) = false) (_h15 : (op == 15) = false) (_h26 : (op == 26) = false) (_h27 : (op == 27) = false) (_h2 : (op == 2) = false) (_h3 : (op == 3) = false) (_h4 : (op == 4) = false) (_h12 : (op == 12) = false) (_h13 : (op == 13) = false) (_h16 : (op == 16) = false) (_h32 : (op == 32) = false) (_h33 : (op == 33) = false) (_h34 : (op == 34) = false) (_h35 : (op == 35) = false) (_h36 : (op == 36) = false) (_h14 : (op == 14) = false) (_h17 : (op == 17) = false) (_h63 : (op == 63) = false) (_h64 : (op == 64) = false) (_h65 : (op == 65) = false) (_h66 : (op == 66) = false) (_hn : 0 < nv) (w : World) (HW : Hid (∀ w, Calls Tryz.prog 68 #[.int .u8 op] w fun e w' => e = .returned (.int .i64 0) ∧ w' = w)) (HN : Hid (Calls Tryz.prog 69 #[.int .u8 op] w fun e w' => e = .returned (.int .i64 nv) ∧ Below w.heap.size w w')) : Calls Tryz.prog 44 #[.int .u8 op] w fun r w' => r = .returned (.int .i64 1) ∧ Below w.heap.size w w' := by
 go_enter Tryz.func44, Tryz.ntmps44
 go_wp2_with fail
 refine (HW.out _).mono ?_
 rintro e w1 ⟨rfl, rfl⟩
 go_wp2_with fail
 refine HN.out.mono ?_
 rintro e w2 ⟨rfl, b2⟩
 go_wp2
 go_ret
 exact ⟨rfl, b2⟩
theorem bes_none (op : Int) (_h0 : (op == 0) = false) (_h1 : (op == 1) = false) (_h5 : (op == 5) = false) (_h11 : (op == 11) = false) (_h15 : (op == 15) = false) (_h26 : (op == 26) = false) (_h27 : (op == 27) = false) (_h2 : (op == 2) = false) (_h3 : (op == 3) = false) (_h4 : (op == 4) = false) (_h12 : (op == 12) = false) (_h13 : (op == 13) = false) (_h16 : (op == 16) = false) (_h32 : (op == 32) = false) (_h33 : (op == 33) = false) (_h34 : (op == 34) = false) (_h35 : (op == 35) = false) (_h36 : (op == 36) = false) (_h14 : (op == 14) = false) (_h17 : (op == 17) = false) (_h63 : (op == 63) = false) (_h64 : (op == 64) = false) (_h65 : (op == 65) = false) (_h66 : (op == 66) = false) (w : World) (HW : Hid (∀ w, Calls Tryz.prog 68 #[.int .u8 op] w fun e w' => e = .returned (.int .i64 0) ∧ w' = w)) (HN : Hid (Calls Tryz.prog 69 #[.int .u8 op] w fun e w' => e = .returned (.int .i64 0) ∧ Below w.heap.size w w')) : Calls Tryz.prog 44 #[.int .u8 op] w fun r w' => r = .returned (.int .i64 0) ∧ Below w.heap.size w w' := by
 go_enter Tryz.func44, Tryz.ntmps44
 go_wp2_with fail
 refine (HW.out _).mono ?_
 rintro e w1 ⟨rfl, rfl⟩
 go_wp2_with fail
 refine HN.out.mono ?_
 rintro e w2 ⟨rfl, b2⟩
 go_wp2
 go_ret
 exact ⟨rfl, b2⟩
theorem insN_range (op : Int) : insN op = 0 ∨ 0 < insN op := by unfold insN; cases isOne op <;> cases isTwo op <;> simp
theorem bes_any (op : Int) (hlo : 0 ≤ op) (hhi : op ≤ 255) (w : World) (hT : TabIn w) : Calls Tryz.prog 44 #[.int .u8 op] w fun r w' => r = .returned (.int .i64 (besV op)) ∧ Below w.heap.size w w' := by
 by_cases h0 : op = 0
 ·subst h0; exact same_below (fun w => bes_0 w) w
 by_cases h1 : op = 1
 ·subst h1; exact same_below (fun w => bes_1 w) w
 by_cases h5 : op = 5
 ·subst h5; exact same_below (fun w => bes_5 w) w
 by_cases h11 : op = 11
 ·subst h11; exact same_below (fun w => bes_11 w) w
 by_cases h15 : op = 15
 ·subst h15; exact same_below (fun w => bes_15 w) w
 by_cases h26 : op = 26
 ·subst h26; exact same_below (fun w => bes_26 w) w
 by_cases h27 : op = 27
 ·subst h27; exact same_below (fun w => bes_27 w) w
 by_cases h2 : op = 2
 ·subst h2; exact same_below (fun w => bes_2 w) w
 by_cases h3 : op = 3
 ·subst h3; exact same_below (fun w => bes_3 w) w
 by_cases h4 : op = 4
 ·subst h4; exact same_below (fun w => bes_4 w) w
 by_cases h12 : op = 12
 ·subst h12; exact same_below (fun w => bes_12 w) w
 by_cases h13 : op = 13
 ·subst h13; exact same_below (fun w => bes_13 w) w
 by_cases h16 : op = 16
 ·subst h16; exact same_below (fun w => bes_16 w) w
 by_cases h32 : op = 32
 ·subst h32; exact same_below (fun w => bes_32 w) w
 by_cases h33 : op = 33
 ·subst h33; exact same_below (fun w => bes_33 w) w
 by_cases h34 : op = 34
 ·subst h34; exact same_below (fun w => bes_34 w) w
 by_cases h35 : op = 35
 ·subst h35; exact same_below (fun w => bes_35 w) w
 by_cases h36 : op = 36
 ·subst h36; exact same_below (fun w => bes_36 w) w
 by_cases h14 : op = 14
 ·subst h14; exact same_below (fun w => bes_14 w) w
 by_cases h17 : op = 17
 ·subst h17; exact same_below (fun w => bes_17 w) w
 by_cases h63 : op = 63
 ·subst h63; exact same_below (fun w => bes_63 w) w
 by_cases h64 : op = 64
 ·subst h64; exact same_below (fun w => bes_64 w) w
 by_cases h65 : op = 65
 ·subst h65; exact same_below (fun w => bes_65 w) w
 by_cases h66 : op = 66
 ·subst h66; exact same_below (fun w => bes_66 w) w
 have e : besV op = if 0 < insW op then 6 else if 0 < insN op then 1 else 0 := by
  unfold besV
  rw [if_neg (by omega), if_neg (by omega), if_neg (by omega), if_neg (by omega), if_neg (by omega), if_neg (by omega), if_neg (by omega), if_neg (by omega)]
 rw [e]
 by_cases hw : 0 < insW op
 ·rw [if_pos hw]
  exact bes_place op (insW op) (by rw [beq_eq_false_iff_ne]; exact h0) (by rw [beq_eq_false_iff_ne]; exact h1) (by rw [beq_eq_false_iff_ne]; exact h5) (by rw [beq_eq_false_iff_ne]; exact h11) (by rw [beq_eq_false_iff_ne]; exact h15) (by rw [beq_eq_false_iff_ne]; exact h26) (by rw [beq_eq_false_iff_ne]; exact h27) (by rw [beq_eq_false_iff_ne]; exact h2) (by rw [beq_eq_false_iff_ne]; exact h3) (by rw [beq_eq_false_iff_ne]; exact h4) (by rw [beq_eq_false_iff_ne]; exact h12) (by rw [beq_eq_false_iff_ne]; exact h13) (by rw [beq_eq_false_iff_ne]; exact h16) (by rw [beq_eq_false_iff_ne]; exact h32) (by rw [beq_eq_false_iff_ne]; exact h33) (by rw [beq_eq_false_iff_ne]; exact h34) (by rw [beq_eq_false_iff_ne]; exact h35) (by rw [beq_eq_false_iff_ne]; exact h36) (by rw [beq_eq_false_iff_ne]; exact h14) (by rw [beq_eq_false_iff_ne]; exact h17) (by rw [beq_eq_false_iff_ne]; exact h63) (by rw [beq_eq_false_iff_ne]; exact h64) (by rw [beq_eq_false_iff_ne]; exact h65) (by rw [beq_eq_false_iff_ne]; exact h66) hw w (fun w => width_any op w)
 ·rw [if_neg hw]
  have e0 : insW op = 0 := by have := insW_range op; omega
  have cw : ∀ w, Calls Tryz.prog 68 #[.int .u8 op] w fun e w' => e = .returned (.int .i64 0) ∧ w' = w := fun w => by rw [← e0]; exact width_any op w
  have ct := taken_any op hlo hhi w hT
  by_cases hn : 0 < insN op
  ·rw [if_pos hn]
   exact bes_num op (insN op) (by rw [beq_eq_false_iff_ne]; exact h0) (by rw [beq_eq_false_iff_ne]; exact h1) (by rw [beq_eq_false_iff_ne]; exact h5) (by rw [beq_eq_false_iff_ne]; exact h11) (by rw [beq_eq_false_iff_ne]; exact h15) (by rw [beq_eq_false_iff_ne]; exact h26) (by rw [beq_eq_false_iff_ne]; exact h27) (by rw [beq_eq_false_iff_ne]; exact h2) (by rw [beq_eq_false_iff_ne]; exact h3) (by rw [beq_eq_false_iff_ne]; exact h4) (by rw [beq_eq_false_iff_ne]; exact h12) (by rw [beq_eq_false_iff_ne]; exact h13) (by rw [beq_eq_false_iff_ne]; exact h16) (by rw [beq_eq_false_iff_ne]; exact h32) (by rw [beq_eq_false_iff_ne]; exact h33) (by rw [beq_eq_false_iff_ne]; exact h34) (by rw [beq_eq_false_iff_ne]; exact h35) (by rw [beq_eq_false_iff_ne]; exact h36) (by rw [beq_eq_false_iff_ne]; exact h14) (by rw [beq_eq_false_iff_ne]; exact h17) (by rw [beq_eq_false_iff_ne]; exact h63) (by rw [beq_eq_false_iff_ne]; exact h64) (by rw [beq_eq_false_iff_ne]; exact h65) (by rw [beq_eq_false_iff_ne]; exact h66) hn w cw ct
  ·rw [if_neg hn]
   have en : insN op = 0 := by have := insN_range op; omega
   rw [en] at ct
   exact bes_none op (by rw [beq_eq_false_iff_ne]; exact h0) (by rw [beq_eq_false_iff_ne]; exact h1) (by rw [beq_eq_false_iff_ne]; exact h5) (by rw [beq_eq_false_iff_ne]; exact h11) (by rw [beq_eq_false_iff_ne]; exact h15) (by rw [beq_eq_false_iff_ne]; exact h26) (by rw [beq_eq_false_iff_ne]; exact h27) (by rw [beq_eq_false_iff_ne]; exact h2) (by rw [beq_eq_false_iff_ne]; exact h3) (by rw [beq_eq_false_iff_ne]; exact h4) (by rw [beq_eq_false_iff_ne]; exact h12) (by rw [beq_eq_false_iff_ne]; exact h13) (by rw [beq_eq_false_iff_ne]; exact h16) (by rw [beq_eq_false_iff_ne]; exact h32) (by rw [beq_eq_false_iff_ne]; exact h33) (by rw [beq_eq_false_iff_ne]; exact h34) (by rw [beq_eq_false_iff_ne]; exact h35) (by rw [beq_eq_false_iff_ne]; exact h36) (by rw [beq_eq_false_iff_ne]; exact h14) (by rw [beq_eq_false_iff_ne]; exact h17) (by rw [beq_eq_false_iff_ne]; exact h63) (by rw [beq_eq_false_iff_ne]; exact h64) (by rw [beq_eq_false_iff_ne]; exact h65) (by rw [beq_eq_false_iff_ne]; exact h66) w cw ct
end Go.Proofs.YtkceplamaocmmaaGreatDoor
