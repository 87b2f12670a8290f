/-
 Plain mathematics of numbers in groups of seven bits: what U and S write, as lists of numbers from 0 to 255. Plain mathematics of reading numbers in groups of seven bits. Plain mathematics of reading numbers, in one piece: the bytes that say that one more follows, the last one, and what is read of them. What leb.read does, with each of the two tests that it is handed. What leb.ReadU and leb.ReadS do, for every text and every number of bits. Strings that are made of numbers, joined, cut: the numbers of their bytes. What ReadU and ReadS can answer: an error, or a number whose shortest bytes are no more than were read. What leb.write does with a number without a sign: its bytes, as a string, and nothing that was there has turned. What U and S do: the number's bytes are handed back as a string, and nothing that was there has turned. What is written is read as it was, whatever stands behind: plain mathematics.
 What the document's own chr and LebU do. What the document's own LebU does: it writes what leb.U writes. What the document's own LebS does: it writes what leb.S writes. What the document's own span does. What the document's own LebReadU does. What the document's own LebReadS does. What the document's own LebReadU and LebReadS answer, for every text and every number of bits: what leb.ReadU and leb.ReadS answer.
 What the program's own num.One and num.Two say of whatever numbers, and that it is a number of the kind which is given.
-/
import Derived.Laws.Bits128
import Derived.Laws.BitsAllLaws
import Derived.Laws.BytesArg
import Derived.Laws.ShiftsVarLaws
import Derived.Test.YtkceplamaocmmaaGreatDoorRows
import Derived.WalkKit
import Derived.WalkSpells
import Derived.Deep.QuietTactic
import Derived.BigQuiet
import Derived.Lib.Strings
import Derived.Laws.Concat
import Derived.WalkSmall
import Derived.Test.YtkceplamaocmmaaGreatDoorZGIns
set_option maxHeartbeats 400000
namespace Go.Proofs.YtkceplamaocmmaaGreatDoor
set_option linter.unusedVariables false
end Go.Proofs.YtkceplamaocmmaaGreatDoor
namespace Go.Proofs.YtkceplamaocmmaaGreatDoor
end Go.Proofs.YtkceplamaocmmaaGreatDoor
namespace Go.Proofs.YtkceplamaocmmaaGreatDoor
def val : List Int → Int
 | [] => 0
 | b :: r => b % 128 + 128 * val r
end Go.Proofs.YtkceplamaocmmaaGreatDoor
namespace Go.Proofs.YtkceplamaocmmaaGreatDoor
open Go.RowKit
theorem ret_b {b c : Bool} (h : b = c) : Ending.returned (.bool b) = .returned (.bool c) := by rw [h]
end Go.Proofs.YtkceplamaocmmaaGreatDoor
namespace Go.Proofs.YtkceplamaocmmaaGreatDoor
open Go.RowKit
theorem wrap64_val (x : Int) : wrap64 x = (x + 9223372036854775808) % 18446744073709551616 - 9223372036854775808 := by unfold wrap64; rfl
end Go.Proofs.YtkceplamaocmmaaGreatDoor
namespace Go.Proofs.YtkceplamaocmmaaGreatDoor
end Go.Proofs.YtkceplamaocmmaaGreatDoor
namespace Go.Proofs.YtkceplamaocmmaaGreatDoor
open Go.RowKit
end Go.Proofs.YtkceplamaocmmaaGreatDoor
namespace Go.Proofs.YtkceplamaocmmaaGreatDoor
open Go.RowKit
end Go.Proofs.YtkceplamaocmmaaGreatDoor
namespace Go.Proofs.YtkceplamaocmmaaGreatDoor
open Go.RowKit
end Go.Proofs.YtkceplamaocmmaaGreatDoor
namespace Go.Proofs.YtkceplamaocmmaaGreatDoor
open Go.RowKit
end Go.Proofs.YtkceplamaocmmaaGreatDoor
namespace Go.Proofs.YtkceplamaocmmaaGreatDoor
set_option linter.unusedVariables false
open Go.RowKit
theorem chr_conv (w : World) (n : Int) : (convert 37 9 (.slice (some ⟨w.heap.size, 0, none⟩) 1 1)).run Tryz.prog (w.alloc (.cells #[.int .u8 n] 5)) = .ok (.string (strOfNums [n])) (w.alloc (.cells #[.int .u8 n] 5)) := by
 refine run_convert_bytes_arg _ 37 5 Tryz.underlying37 Tryz.underlying5 w.heap.size 0 1 1 [n] rfl ?_ 9 Tryz.underlying9
 intro i hi
 have : i = 0 := by omega
 subst this
 rw [World.cell?_alloc_at _ _ _ _ rfl]
 rfl
theorem chr_any (n : Int) (h0 : 0 ≤ n) (h1 : n < 256) (w : World) :
  Calls Tryz.prog 125 #[.int .i64 n] w fun e w' => e = .returned (.string (strOfNums [n])) ∧ Below w.heap.size w w' := by
 have hc := chr_conv w n
 go_enter Tryz.func125, Tryz.ntmps125
 go_wp2
 go_ret
 exact ⟨rfl, (Below.refl _ _).alloc (Nat.le_refl _) _⟩
end Go.Proofs.YtkceplamaocmmaaGreatDoor
namespace Go.Proofs.YtkceplamaocmmaaGreatDoor
open Go.RowKit
theorem str_cons (x : Int) (xs : List Int) : strOfNums [x] ++ strOfNums xs = strOfNums (x :: xs) := by
 have : (strOfNums [x] ++ strOfNums xs).data = (strOfNums (x :: xs)).data := by
  rw [ByteArray.data_append]
  simp [strOfNums]
 exact ByteArray.ext this
end Go.Proofs.YtkceplamaocmmaaGreatDoor
namespace Go.Proofs.YtkceplamaocmmaaGreatDoor
open Go.RowKit
theorem ret_s {a b : ByteArray} (h : a = b) : Ending.returned (.string a) = .returned (.string b) := by rw [h]
end Go.Proofs.YtkceplamaocmmaaGreatDoor
namespace Go.Proofs.YtkceplamaocmmaaGreatDoor
open Go.RowKit
end Go.Proofs.YtkceplamaocmmaaGreatDoor
namespace Go.Proofs.YtkceplamaocmmaaGreatDoor
open Go.RowKit
def sv (c : Int) : List Int → Int
 | [] => -c
 | b :: r => b % 128 + 128 * sv c r
end Go.Proofs.YtkceplamaocmmaaGreatDoor
namespace Go.Proofs.YtkceplamaocmmaaGreatDoor
open Go.RowKit
end Go.Proofs.YtkceplamaocmmaaGreatDoor
namespace Go.Proofs.YtkceplamaocmmaaGreatDoor
open Go.RowKit
end Go.Proofs.YtkceplamaocmmaaGreatDoor
namespace Go.Proofs.YtkceplamaocmmaaGreatDoor
open Go.RowKit
set_option linter.unusedVariables false
def oneP (op a : Int) : Int := if op = 69 then t2i (decide (cutN 32 a = 0)) else if op = 80 then t2i (decide (cutN 64 a = 0)) else if op = 103 then 32 - (Lib.bitLen (cutN 32 a) : Int) else if op = 121 then 64 - (Lib.bitLen (cutN 64 a) : Int) else if op = 104 then min 32 (Lib.ctz 64 (cutN 32 a) : Int) else if op = 122 then min 64 (Lib.ctz 64 (cutN 64 a) : Int) else if op = 105 then (popN 64 (cutN 32 a) : Int) else if op = 123 then (popN 64 (cutN 64 a) : Int) else if op = 192 then cutI 8 a else if op = 194 then cutI 8 a else if op = 193 then cutI 16 a else if op = 195 then cutI 16 a else if op = 167 then wrap32 a else if op = 172 then wrap32 a else if op = 196 then wrap32 a else if op = 173 then a % 4294967296 else 0
theorem fone (op a : Int) (h0 : 0 ≤ op) (h1 : op ≤ 255) (w : World) (hT : TabIn w) : Calls Tryz.prog 76 #[.int .u8 op, .int .i64 a] w fun e w' => e = .returned (.tuple #[.int .i64 (oneP op a), .int .i64 (if isOne op then 0 else 6)]) ∧ w' = w := by
 by_cases h69 : op = 69
 ·subst h69; exact pone_69 a w
 by_cases h80 : op = 80
 ·subst h80; exact pone_80 a w
 by_cases h103 : op = 103
 ·subst h103; exact pone_103 a w
 by_cases h121 : op = 121
 ·subst h121; exact pone_121 a w
 by_cases h104 : op = 104
 ·subst h104; exact pone_104 a w hT
 by_cases h122 : op = 122
 ·subst h122; exact pone_122 a w hT
 by_cases h105 : op = 105
 ·subst h105; exact pone_105 a w
 by_cases h123 : op = 123
 ·subst h123; exact pone_123 a w
 by_cases h192 : op = 192
 ·subst h192; exact pone_192 a w
 by_cases h194 : op = 194
 ·subst h194; exact pone_194 a w
 by_cases h193 : op = 193
 ·subst h193; exact pone_193 a w
 by_cases h195 : op = 195
 ·subst h195; exact pone_195 a w
 by_cases h167 : op = 167
 ·subst h167; exact pone_167 a w
 by_cases h172 : op = 172
 ·subst h172; exact pone_172 a w
 by_cases h196 : op = 196
 ·subst h196; exact pone_196 a w
 by_cases h173 : op = 173
 ·subst h173; exact pone_173 a w
 have e : isOne op = false := by
  simp only [isOne, Bool.or_eq_false_iff, Bool.and_eq_false_iff, beq_eq_false_iff_ne, decide_eq_false_iff_not]
  omega
 have e2 : oneP op a = 0 := by
  unfold oneP
  rw [if_neg h69, if_neg h80, if_neg h103, if_neg h121, if_neg h104, if_neg h122, if_neg h105, if_neg h123, if_neg h192, if_neg h194, if_neg h193, if_neg h195, if_neg h167, if_neg h172, if_neg h196, if_neg h173]
 rw [e, e2]
 exact pone_no op a h0 h1 e w
theorem t2i_fit (b : Bool) : 0 ≤ t2i b ∧ t2i b ≤ 1 := by cases b <;> decide
theorem oneP_fit (op a : Int) (ha : -9223372036854775808 ≤ a ∧ a ≤ 9223372036854775807) : (-9223372036854775808 ≤ oneP op a ∧ oneP op a ≤ 9223372036854775807) ∧ (kGive op = 127 → -2147483648 ≤ oneP op a ∧ oneP op a ≤ 2147483647) := by
 have b32 : Lib.bitLen (cutN 32 a) ≤ 64 := Lib.bitLen_le _ 64 (by omega) (by have := cutN32_lt a; omega)
 have b64 : Lib.bitLen (cutN 64 a) ≤ 64 := Lib.bitLen_le _ 64 (by omega) (by unfold cutN; omega)
 have p32 := popN_le 64 (cutN 32 a)
 have p64 := popN_le 64 (cutN 64 a)
 have t32 := t2i_fit (decide (cutN 32 a = 0))
 have t64 := t2i_fit (decide (cutN 64 a = 0))
 have c8 : -128 ≤ cutI 8 a ∧ cutI 8 a ≤ 127 := by unfold cutI; omega
 have c16 : -32768 ≤ cutI 16 a ∧ cutI 16 a ≤ 32767 := by unfold cutI; omega
 have cw : -2147483648 ≤ wrap32 a ∧ wrap32 a ≤ 2147483647 := by unfold wrap32; omega
 unfold oneP
 generalize Lib.bitLen (cutN 32 a) = B32 at *
 generalize Lib.bitLen (cutN 64 a) = B64 at *
 generalize hz32 : Lib.ctz 64 (cutN 32 a) = Z32 at *
 generalize hz64 : Lib.ctz 64 (cutN 64 a) = Z64 at *
 generalize popN 64 (cutN 32 a) = P32 at *
 generalize popN 64 (cutN 64 a) = P64 at *
 generalize t2i (decide (cutN 32 a = 0)) = T32 at *
 generalize t2i (decide (cutN 64 a = 0)) = T64 at *
 generalize cutI 8 a = C8 at *
 generalize cutI 16 a = C16 at *
 generalize wrap32 a = CW at *
 clear hz32 hz64
 by_cases h69 : op = 69
 ·subst h69
  simp only [reduceIte, Int.reduceEq]
  omega
 by_cases h80 : op = 80
 ·subst h80
  simp only [reduceIte, Int.reduceEq]
  omega
 by_cases h103 : op = 103
 ·subst h103
  simp only [reduceIte, Int.reduceEq]
  omega
 by_cases h121 : op = 121
 ·subst h121
  simp only [reduceIte, Int.reduceEq]
  omega
 by_cases h104 : op = 104
 ·subst h104
  simp only [reduceIte, Int.reduceEq]
  omega
 by_cases h122 : op = 122
 ·subst h122
  simp only [reduceIte, Int.reduceEq]
  omega
 by_cases h105 : op = 105
 ·subst h105
  simp only [reduceIte, Int.reduceEq]
  omega
 by_cases h123 : op = 123
 ·subst h123
  simp only [reduceIte, Int.reduceEq]
  omega
 by_cases h192 : op = 192
 ·subst h192
  simp only [reduceIte, Int.reduceEq]
  omega
 by_cases h194 : op = 194
 ·subst h194
  simp only [reduceIte, Int.reduceEq]
  omega
 by_cases h193 : op = 193
 ·subst h193
  simp only [reduceIte, Int.reduceEq]
  omega
 by_cases h195 : op = 195
 ·subst h195
  simp only [reduceIte, Int.reduceEq]
  omega
 by_cases h167 : op = 167
 ·subst h167
  simp only [reduceIte, Int.reduceEq]
  omega
 by_cases h172 : op = 172
 ·subst h172
  simp only [reduceIte, Int.reduceEq]
  omega
 by_cases h196 : op = 196
 ·subst h196
  simp only [reduceIte, Int.reduceEq]
  omega
 by_cases h173 : op = 173
 ·subst h173
  simp only [reduceIte, Int.reduceEq]
  exact ⟨by omega, fun h => absurd h (by decide)⟩
 rw [if_neg h69, if_neg h80, if_neg h103, if_neg h121, if_neg h104, if_neg h122, if_neg h105, if_neg h123, if_neg h192, if_neg h194, if_neg h193, if_neg h195, if_neg h167, if_neg h172, if_neg h196, if_neg h173]
 omega
theorem ftwo_no (op a b : Int) (h0 : 0 ≤ op) (h1 : op ≤ 255) (hn : isTwo op = false) (w : World) : Calls Tryz.prog 78 #[.int .u8 op, .int .i64 a, .int .i64 b] w fun e w' => e = .returned (.tuple #[.int .i64 0, .int .i64 6]) ∧ w' = w := by
 simp only [isTwo, Bool.or_eq_false_iff, Bool.and_eq_false_iff, decide_eq_false_iff_not] at hn
 have hh : ∀ k : Int, op ≠ k → (op == k) = false := fun k h => by rw [beq_eq_false_iff_ne]; exact h
 by_cases ha : 80 ≤ op ∧ op ≤ 90
 ·refine pick_asks op a b 0 6 ha.1 ha.2 (fun w w' => w' = w) (fun w => ?_) w
  apply two64_other
  all_goals (rw [beq_eq_false_iff_ne]; omega)
 by_cases hm : 121 ≤ op ∧ op ≤ 138
 ·refine pick_makes op a b 0 6 hm.1 hm.2 (fun w w' => w' = w) (fun w => ?_) w
  apply two64_other
  all_goals (rw [beq_eq_false_iff_ne]; omega)
 ·refine pick_short op a b 0 6 (by omega) (by omega) (by omega) (fun w w' => w' = w) (fun w => ?_) w
  apply two32_other
  all_goals (rw [beq_eq_false_iff_ne]; omega)
theorem ftwo (op a b : Int) (h0 : 0 ≤ op) (h1 : op ≤ 255) (ha : -9223372036854775808 ≤ a ∧ a ≤ 9223372036854775807) (hb : -9223372036854775808 ≤ b ∧ b ≤ 9223372036854775807) (w : World) : Calls Tryz.prog 78 #[.int .u8 op, .int .i64 a, .int .i64 b] w fun e w' => e = .returned (.tuple #[.int .i64 (twoV op a b).1, .int .i64 (twoV op a b).2]) ∧ Below w.heap.size w w' := by
 by_cases h70 : op = 70
 ·subst h70; exact same_below (num_70 a b) w
 by_cases h71 : op = 71
 ·subst h71; exact same_below (num_71 a b) w
 by_cases h72 : op = 72
 ·subst h72; exact same_below (num_72 a b) w
 by_cases h73 : op = 73
 ·subst h73; exact same_below (num_73 a b) w
 by_cases h74 : op = 74
 ·subst h74; exact same_below (num_74 a b) w
 by_cases h75 : op = 75
 ·subst h75; exact same_below (num_75 a b) w
 by_cases h76 : op = 76
 ·subst h76; exact same_below (num_76 a b) w
 by_cases h77 : op = 77
 ·subst h77; exact same_below (num_77 a b) w
 by_cases h78 : op = 78
 ·subst h78; exact same_below (num_78 a b) w
 by_cases h79 : op = 79
 ·subst h79; exact same_below (num_79 a b) w
 by_cases h106 : op = 106
 ·subst h106; exact same_below (num_106 a b) w
 by_cases h107 : op = 107
 ·subst h107; exact same_below (num_107 a b) w
 by_cases h108 : op = 108
 ·subst h108; exact same_below (num_108 a b) w
 by_cases h109 : op = 109
 ·subst h109; exact same_below (num_109 a b) w
 by_cases h110 : op = 110
 ·subst h110; exact same_below (num_110 a b) w
 by_cases h111 : op = 111
 ·subst h111; exact same_below (num_111 a b) w
 by_cases h112 : op = 112
 ·subst h112; exact same_below (num_112 a b) w
 by_cases h113 : op = 113
 ·subst h113; exact same_below (num_113 a b) w
 by_cases h114 : op = 114
 ·subst h114; exact same_below (num_114 a b) w
 by_cases h115 : op = 115
 ·subst h115; exact same_below (num_115 a b) w
 by_cases h116 : op = 116
 ·subst h116; exact same_below (num_116 a b) w
 by_cases h117 : op = 117
 ·subst h117; exact same_below (num_117 a b) w
 by_cases h118 : op = 118
 ·subst h118; exact same_below (num_118 a b) w
 by_cases h119 : op = 119
 ·subst h119; exact num_119 a b w
 by_cases h120 : op = 120
 ·subst h120; exact num_120 a b w
 by_cases h81 : op = 81
 ·subst h81; exact same_below (num_81 a b ha hb) w
 by_cases h82 : op = 82
 ·subst h82; exact same_below (num_82 a b ha hb) w
 by_cases h83 : op = 83
 ·subst h83; exact same_below (num_83 a b ha hb) w
 by_cases h84 : op = 84
 ·subst h84; exact same_below (num_84 a b ha hb) w
 by_cases h85 : op = 85
 ·subst h85; exact same_below (num_85 a b ha hb) w
 by_cases h86 : op = 86
 ·subst h86; exact same_below (num_86 a b ha hb) w
 by_cases h87 : op = 87
 ·subst h87; exact same_below (num_87 a b ha hb) w
 by_cases h88 : op = 88
 ·subst h88; exact same_below (num_88 a b ha hb) w
 by_cases h89 : op = 89
 ·subst h89; exact same_below (num_89 a b ha hb) w
 by_cases h90 : op = 90
 ·subst h90; exact same_below (num_90 a b ha hb) w
 by_cases h124 : op = 124
 ·subst h124; exact same_below (num_124 a b ha hb) w
 by_cases h125 : op = 125
 ·subst h125; exact same_below (num_125 a b ha hb) w
 by_cases h126 : op = 126
 ·subst h126; exact same_below (num_126 a b ha hb) w
 by_cases h127 : op = 127
 ·subst h127; exact same_below (num_127 a b ha hb) w
 by_cases h128 : op = 128
 ·subst h128; exact same_below (num_128 a b ha hb) w
 by_cases h129 : op = 129
 ·subst h129; exact same_below (num_129 a b ha hb) w
 by_cases h130 : op = 130
 ·subst h130; exact same_below (num_130 a b ha hb) w
 by_cases h131 : op = 131
 ·subst h131; exact same_below (num_131 a b ha hb) w
 by_cases h132 : op = 132
 ·subst h132; exact same_below (num_132 a b ha hb) w
 by_cases h133 : op = 133
 ·subst h133; exact same_below (num_133 a b ha hb) w
 by_cases h134 : op = 134
 ·subst h134; exact same_below (num_134 a b ha hb) w
 by_cases h135 : op = 135
 ·subst h135; exact same_below (num_135 a b ha hb) w
 by_cases h136 : op = 136
 ·subst h136; exact same_below (num_136 a b ha hb) w
 by_cases h137 : op = 137
 ·subst h137; exact num_137 a b ha hb w
 by_cases h138 : op = 138
 ·subst h138; exact num_138 a b ha hb w
 have e : isTwo op = false := by
  simp only [isTwo, Bool.or_eq_false_iff, Bool.and_eq_false_iff, decide_eq_false_iff_not]
  omega
 have e2 : twoV op a b = (0, 6) := by
  unfold twoV
  rw [if_neg (by omega), if_neg (by omega), if_neg (by omega), if_neg (by omega)]
 rw [e2]
 exact same_below (ftwo_no op a b h0 h1 e) w
theorem tdiv_fit (x y lo hi : Int) (hx : -hi - 1 ≤ x ∧ x ≤ hi) (h : ¬ (x = -hi - 1 ∧ y = -1)) (hh : 0 ≤ hi) : -hi - 1 ≤ x.tdiv y ∧ x.tdiv y ≤ hi := by
 have h1 : (x.tdiv y).natAbs ≤ x.natAbs := by rw [Int.natAbs_tdiv]; exact Nat.div_le_self _ _
 by_cases e : x = -hi - 1
 ·by_cases e1 : y = 1
  ·subst e1; rw [Int.tdiv_one]; omega
  ·by_cases e2 : y = 0
   ·subst e2; rw [Int.tdiv_zero]; omega
   ·have : y.natAbs ≥ 2 := by have : y ≠ -1 := fun h2 => h ⟨e, h2⟩; omega
    have h2 : (x.tdiv y).natAbs ≤ x.natAbs / 2 := by rw [Int.natAbs_tdiv]; exact Nat.div_le_div_left this (by omega)
    omega
 ·omega
theorem tmod_fit (x y hi : Int) (hx : -hi - 1 ≤ x ∧ x ≤ hi) : -hi - 1 ≤ x.tmod y ∧ x.tmod y ≤ hi := by
 have h1 : (x.tmod y).natAbs ≤ x.natAbs := by rw [Int.natAbs_tmod]; exact Nat.mod_le _ _
 rcases Int.le_total 0 x with h | h
 ·have := Int.tmod_nonneg y h; omega
 ·have : x.tmod y ≤ 0 := by have := Int.tmod_nonneg y (a := -x) (by omega); rw [Int.neg_tmod] at this; omega
  omega
theorem recV_fit (W : Nat) (k : Nat) (X Y : BitVec W) (hi : Int) (hh : (2 : Int) ^ (W - 1) = hi + 1) (hw : ∀ Z : BitVec W, -hi - 1 ≤ Z.toInt ∧ Z.toInt ≤ hi) (h0 : 0 ≤ hi) : -hi - 1 ≤ (recV k X Y).1 ∧ (recV k X Y).1 ≤ hi := by
 unfold recV
 split
 case h_4 =>
  split
  ·simp only; omega
  ·split
   ·simp only; omega
   ·rename_i h1 h2
    simp only
    refine tdiv_fit _ _ 0 _ (hw X) (fun h => h2 ⟨?_, h.2⟩) h0
    rw [hh]; omega
 case h_6 =>
  split
  ·simp only; omega
  ·exact tmod_fit _ _ _ (hw X)
 all_goals first
  | exact hw _
  | (split
     ·simp only; omega
     ·exact hw _)
  | (simp only; omega)
theorem bv32 (Z : BitVec 32) : -2147483647 - 1 ≤ Z.toInt ∧ Z.toInt ≤ 2147483647 := by
 have h1 := BitVec.toInt_lt (x := Z)
 have h2 := BitVec.le_toInt Z
 omega
theorem bv64 (Z : BitVec 64) : -9223372036854775807 - 1 ≤ Z.toInt ∧ Z.toInt ≤ 9223372036854775807 := by
 have h1 := BitVec.toInt_lt (x := Z)
 have h2 := BitVec.le_toInt Z
 omega
theorem twoV_fit (op a b : Int) : (-9223372036854775808 ≤ (twoV op a b).1 ∧ (twoV op a b).1 ≤ 9223372036854775807) ∧ (isTwo op = true → kGive op = 127 → -2147483648 ≤ (twoV op a b).1 ∧ (twoV op a b).1 ≤ 2147483647) := by
 unfold twoV
 split
 ·have := t2i_fit (cmpV (op - 70).toNat (BitVec.ofInt 32 a) (BitVec.ofInt 32 b))
  simp only
  omega
 split
 ·have := t2i_fit (cmpV (op - 81).toNat (BitVec.ofInt 64 a) (BitVec.ofInt 64 b))
  simp only
  omega
 split
 ·have := recV_fit 32 (op - 106).toNat (BitVec.ofInt 32 a) (BitVec.ofInt 32 b) 2147483647 (by decide) bv32 (by decide)
  omega
 split
 ·have := recV_fit 64 (op - 124).toNat (BitVec.ofInt 64 a) (BitVec.ofInt 64 b) 9223372036854775807 (by decide) bv64 (by decide)
  refine ⟨by omega, fun _ h => ?_⟩
  unfold kGive at h
  rw [if_neg (by omega), if_neg (by omega), if_neg (by omega), if_pos (by omega)] at h
  exact absurd h (by decide)
 ·simp only
  omega
end Go.Proofs.YtkceplamaocmmaaGreatDoor
