/-
 What the document's own takes does. What the document's own digits does. What the document's own InsWidth does. What the document's own InsWidth does. What the document's own beside does.
-/
import Derived.Test.YtkceplamaocmmaaGreatDoorZPB
import Derived.Test.YtkceplamaocmmaaGreatDoorZPQ
import Derived.Test.YtkceplamaocmmaaGreatDoorZGIns
set_option maxHeartbeats 2000000
set_option maxRecDepth 1000000
namespace Go.Proofs.YtkceplamaocmmaaGreatDoor
set_option linter.unusedVariables false
open Go.RowKit
def takL (n : Int) : ByteArray :=
 if n = 69 ∨ (103 ≤ n ∧ n ≤ 105) ∨ n = 192 ∨ n = 193 ∨ n = 64 ∨ n = 40 ∨ (44 ≤ n ∧ n ≤ 47) then ⟨#[105, 62, 105]⟩ else
 if n = 80 ∨ n = 167 then ⟨#[108, 62, 105]⟩ else
 if (70 ≤ n ∧ n ≤ 79) ∨ (106 ≤ n ∧ n ≤ 120) then ⟨#[105, 105, 62, 105]⟩ else
 if (81 ≤ n ∧ n ≤ 90) then ⟨#[108, 108, 62, 105]⟩ else
 if (121 ≤ n ∧ n ≤ 123) ∨ (194 ≤ n ∧ n ≤ 196) then ⟨#[108, 62, 108]⟩ else
 if (124 ≤ n ∧ n ≤ 138) then ⟨#[108, 108, 62, 108]⟩ else
 if n = 172 ∨ n = 173 ∨ n = 41 ∨ (48 ≤ n ∧ n ≤ 53) then ⟨#[105, 62, 108]⟩ else
 if n = 54 ∨ n = 58 ∨ n = 59 then ⟨#[105, 105, 62]⟩ else
 if n = 55 ∨ (60 ≤ n ∧ n ≤ 62) then ⟨#[105, 108, 62]⟩ else
 if n = 63 ∨ n = 65 then ⟨#[62, 105]⟩ else
 if n = 66 then ⟨#[62, 108]⟩ else
 ⟨#[63]⟩
theorem takes_any (op : Int) (h0 : 0 ≤ op) (h1 : op < 256) (w : World) :
  Calls Tryz.prog 22 #[.int .u8 op] w fun e w' => e = .returned (.string (takL op)) ∧ w' = w := by
 have hwr : IntKind.i64.wrap op = op := by
  have : ∀ n : Nat, n < 256 → IntKind.i64.wrap (n : Int) = n := by decide +kernel
  have := this op.toNat (by omega)
  rwa [Int.toNat_of_nonneg h0] at this
 go_enter Tryz.func22, Tryz.ntmps22
 go_wp2
 all_goals
  go_ret
  refine ⟨ret_s ?_, rfl⟩
  try simp only [beq_iff_eq, beq_eq_false_iff_ne, ne_eq] at *
  rw [takL]
  repeat (first | rw [if_pos (by omega)] | rw [if_neg (by omega)])
  try rfl
end Go.Proofs.YtkceplamaocmmaaGreatDoor
namespace Go.Proofs.YtkceplamaocmmaaGreatDoor
open Go.RowKit
def digB (u : Nat) : List Int := if u < 10 then [48 + (u : Int)] else digB (u / 10) ++ [48 + (u : Int) % 10]
 termination_by u
 decreasing_by omega
theorem digB_lo {u : Nat} (h : u < 10) : digB u = [48 + (u : Int)] := by rw [digB, if_pos h]
theorem digB_hi {u : Nat} (h : ¬ u < 10) : digB u = digB (u / 10) ++ [48 + (u : Int) % 10] := by rw [digB, if_neg h]
theorem digB_len (k : Nat) : ∀ u : Nat, u < 10 ^ (k + 1) → (digB u).length ≤ k + 1 := by
 induction k with
 | zero => intro u h; rw [digB_lo (by simpa using h)]; simp
 | succ k ih =>
  intro u h
  by_cases h1 : u < 10
  ·rw [digB_lo h1]; simp
  ·rw [digB_hi h1, List.length_append]
   have := ih (u / 10) (by rw [Nat.pow_succ] at h; omega)
   simp; omega
theorem digB_len64 (u : Nat) (h : u ≤ 9223372036854775807) : (digB u).length ≤ 20 := digB_len 19 u (by omega)
theorem digB_pos (u : Nat) : 1 ≤ (digB u).length := by
 by_cases h1 : u < 10
 ·rw [digB_lo h1]; simp
 ·rw [digB_hi h1]; simp
theorem empty_app (a : ByteArray) : (ByteArray.mk #[] ++ a) = a := by
 have : (ByteArray.mk #[] ++ a).data = a.data := by
  rw [ByteArray.data_append]; simp
 exact ByteArray.ext this
theorem dig_end (x : Int) (T : List Int) : Ending.returned (.string (ByteArray.mk #[] ++ (strOfNums [x] ++ strOfNums T))) = Ending.returned (.string (strOfNums ([x] ++ T))) := by
 rw [empty_app, str_cons]; rfl
theorem digits_any (n : Nat) (hn : n ≤ 9223372036854775807) (w : World) :
  Calls Tryz.prog 119 #[.int .i64 n] w fun e w' => e = .returned (.string (strOfNums (digB n))) ∧ Below w.heap.size w w' := by
 have HL : Hid ((digB n).length ≤ 20) := digB_len64 n hn
 go_enter Tryz.func119, Tryz.ntmps119
 have h0 : ¬ ((n : Int) < 0) := by omega
 go_wp2
 go_loopw [3, 5] (fun u o wr => ∃ v : Nat, ∃ O : ByteArray, ∃ T : List Int, u = .int .u64 v ∧ o = .string O ∧ v ≤ n ∧ O.size ≤ 20 ∧ Hid (O = strOfNums T) ∧ Hid (digB n = digB v ++ T) ∧ Below w.heap.size w wr) (fun u _ _ => (intOf u).toNat)
 case atStart => exact ⟨n, _, [], by first | rfl | go_num, rfl, by omega, by decide, rfl, by unfold Hid; simp, Below.refl _ _⟩
 case round =>
  obtain ⟨v, O, T, rfl, rfl, hv, hO, HO, HD, hb⟩ := hrel
  have hO2 : O.size + (digB v).length ≤ 20 := by
   have := HL.out
   rw [HD.out, List.length_append] at this
   rw [HO.out, strOfNums_size]; omega
  have hp := digB_pos v
  have hO3 : O.size ≤ 19 := by omega
  have hsz := hb.size
  have z1 : ∀ x : Int, (strOfNums [x]).size = 1 := fun x => strOfNums_size [x]
  clear hO2 hp hO
  by_cases h : v < 10
  ·have HV : Hid _ := digB_lo h
   have e1 : (v : Int) / 10 = 0 := by omega
   have e2 : (v : Int) % 10 = v := by omega
   go_wp2_with (go_at_call 125; refine (chr_any _ (by omega) (by omega) _).mono ?_; rintro e w1 ⟨rfl, b1⟩)
   go_ret
   refine ⟨?_, hb.trans (b1.mono hsz)⟩
   rw [HD.out, HV.out, HO.out]
   exact dig_end _ _
  ·have HV : Hid _ := digB_hi h
   have e1 : ¬ ((v : Int) / 10 = 0) := by omega
   go_wp2_with (go_at_call 125; refine (chr_any _ (by omega) (by omega) _).mono ?_; rintro e w1 ⟨rfl, b1⟩)
   go_roundw
   case rel => exact ⟨v / 10, _, (48 + (v : Int) % 10) :: T, by go_num, rfl, by omega, by rw [ByteArray.size_append, z1]; omega, by unfold Hid; rw [HO.out, str_cons], by unfold Hid; rw [HD.out, HV.out]; simp, hb.trans (b1.mono hsz)⟩
   case measure => simp [intOf]; omega
end Go.Proofs.YtkceplamaocmmaaGreatDoor
namespace Go.Proofs.YtkceplamaocmmaaGreatDoor
open Go.RowKit
def XW2 (w : World) (X : Nat) (c0 c1 : Value) : Prop := w.heap[X]? = some (.cells #[c0, c1] 137 (0, 0))
theorem XW2.lt {w : World} {X : Nat} {c0 c1 : Value} (h : XW2 w X c0 c1) : X < w.heap.size := by
 unfold XW2 at h
 exact (Array.getElem?_eq_some_iff.1 h).1
theorem XW2.cell {w : World} {X : Nat} {c0 c1 : Value} (h : XW2 w X c0 c1) : w.cell? ⟨X, 0, none⟩ = some c0 ∧ w.cell? ⟨X, 1, none⟩ = some c1 := by
 unfold XW2 at h
 simp [World.cell?, h]
theorem XW2.keep {w w' : World} {X : Nat} {c0 c1 : Value} (h : XW2 w X c0 c1) (b : Below w.drew.heap.size w.drew w') : XW2 w' X c0 c1 := by
 have hl := h.lt
 unfold XW2 at h ⊢
 rw [b.block X hl]
 exact h
def WT (w : World) (X : Nat) : Prop := w.heap[X]? = some (.cells #[.int .i64 1, .string ⟨#[44, 52, 52, 44, 52, 53, 44, 52, 56, 44, 52, 57, 44, 53, 56, 44, 54, 48, 44]⟩, .int .i64 2, .string ⟨#[44, 52, 54, 44, 52, 55, 44, 53, 48, 44, 53, 49, 44, 53, 57, 44, 54, 49, 44]⟩, .int .i64 4, .string ⟨#[44, 52, 48, 44, 53, 50, 44, 53, 51, 44, 53, 52, 44, 54, 50, 44]⟩, .int .i64 8, .string ⟨#[44, 52, 49, 44, 53, 53, 44]⟩] 137 (0, 0))
theorem WT.lt {w : World} {X : Nat} (h : WT w X) : X < w.heap.size := by
 unfold WT at h
 exact (Array.getElem?_eq_some_iff.1 h).1
theorem WT.keep {w w' : World} {X : Nat} (h : WT w X) (b : Below w.heap.size w w') : WT w' X := by
 have hl := h.lt
 unfold WT at h ⊢
 rw [b.block X hl]
 exact h
theorem WT.keepD {w w' : World} {X : Nat} (h : WT w X) (b : Below w.drew.heap.size w.drew w') : WT w' X := by
 have hl := h.lt
 unfold WT at h ⊢
 rw [b.block X hl]
 exact h
theorem WT.cell0 {w : World} {X : Nat} (h : WT w X) : w.cell? ⟨X, 0, none⟩ = some (.int .i64 1) ∧ w.cell? ⟨X, 1, none⟩ = some (.string ⟨#[44, 52, 52, 44, 52, 53, 44, 52, 56, 44, 52, 57, 44, 53, 56, 44, 54, 48, 44]⟩) := by
 unfold WT at h
 simp [World.cell?, h]
theorem WT.cell1 {w : World} {X : Nat} (h : WT w X) : w.cell? ⟨X, 2, none⟩ = some (.int .i64 2) ∧ w.cell? ⟨X, 3, none⟩ = some (.string ⟨#[44, 52, 54, 44, 52, 55, 44, 53, 48, 44, 53, 49, 44, 53, 57, 44, 54, 49, 44]⟩) := by
 unfold WT at h
 simp [World.cell?, h]
theorem WT.cell2 {w : World} {X : Nat} (h : WT w X) : w.cell? ⟨X, 4, none⟩ = some (.int .i64 4) ∧ w.cell? ⟨X, 5, none⟩ = some (.string ⟨#[44, 52, 48, 44, 53, 50, 44, 53, 51, 44, 53, 52, 44, 54, 50, 44]⟩) := by
 unfold WT at h
 simp [World.cell?, h]
theorem WT.cell3 {w : World} {X : Nat} (h : WT w X) : w.cell? ⟨X, 6, none⟩ = some (.int .i64 8) ∧ w.cell? ⟨X, 7, none⟩ = some (.string ⟨#[44, 52, 49, 44, 53, 53, 44]⟩) := by
 unfold WT at h
 simp [World.cell?, h]
def dig3 (n : Nat) : List UInt8 := if n < 10 then [UInt8.ofNat (48 + n)] else if n < 100 then [UInt8.ofNat (48 + n / 10), UInt8.ofNat (48 + n % 10)] else [UInt8.ofNat (48 + n / 100), UInt8.ofNat (48 + n / 10 % 10), UInt8.ofNat (48 + n % 10)]
theorem dig3_eq (n : Nat) (h : n < 256) : (strOfNums (digB n)).data.toList = dig3 n := by
 unfold dig3
 rw [strOfNums_data]
 by_cases h1 : n < 10
 ·rw [if_pos h1, digB_lo h1]
  show [UInt8.ofNat (48 + (n : Int)).toNat] = _
  rw [show (48 + (n : Int)).toNat = 48 + n by omega]
 ·rw [if_neg h1, digB_hi h1]
  by_cases h2 : n < 100
  ·rw [if_pos h2, digB_lo (show n / 10 < 10 by omega)]
   show [UInt8.ofNat (48 + ((n / 10 : Nat) : Int)).toNat, UInt8.ofNat (48 + (n : Int) % 10).toNat] = _
   rw [show (48 + ((n / 10 : Nat) : Int)).toNat = 48 + n / 10 by omega, show (48 + (n : Int) % 10).toNat = 48 + n % 10 by omega]
  ·rw [if_neg h2, digB_hi (show ¬ n / 10 < 10 by omega), digB_lo (show n / 10 / 10 < 10 by omega)]
   show [UInt8.ofNat (48 + ((n / 10 / 10 : Nat) : Int)).toNat, UInt8.ofNat (48 + ((n / 10 : Nat) : Int) % 10).toNat, UInt8.ofNat (48 + (n : Int) % 10).toNat] = _
   rw [show (48 + ((n / 10 / 10 : Nat) : Int)).toNat = 48 + n / 100 by omega, show (48 + ((n / 10 : Nat) : Int) % 10).toNat = 48 + n / 10 % 10 by omega, show (48 + (n : Int) % 10).toNat = 48 + n % 10 by omega]
theorem con_0 : ∀ n : Nat, n < 256 → Lib.contains [44, 52, 52, 44, 52, 53, 44, 52, 56, 44, 52, 57, 44, 53, 56, 44, 54, 48, 44] (44 :: (dig3 n ++ [44])) = decide (insW n = 1) := by decide +kernel
theorem con_1 : ∀ n : Nat, n < 256 → Lib.contains [44, 52, 54, 44, 52, 55, 44, 53, 48, 44, 53, 49, 44, 53, 57, 44, 54, 49, 44] (44 :: (dig3 n ++ [44])) = decide (insW n = 2) := by decide +kernel
theorem con_2 : ∀ n : Nat, n < 256 → Lib.contains [44, 52, 48, 44, 53, 50, 44, 53, 51, 44, 53, 52, 44, 54, 50, 44] (44 :: (dig3 n ++ [44])) = decide (insW n = 4) := by decide +kernel
theorem con_3 : ∀ n : Nat, n < 256 → Lib.contains [44, 52, 49, 44, 53, 53, 44] (44 :: (dig3 n ++ [44])) = decide (insW n = 8) := by decide +kernel
theorem wrap_byte (n : Nat) (h : n < 256) : IntKind.i64.wrap (n : Int) = n := by
 have : ∀ n : Nat, n < 256 → IntKind.i64.wrap (n : Int) = n := by decide +kernel
 exact this n h
theorem sub_list (n : Nat) (h : n < 256) : ((ByteArray.mk #[44] ++ strOfNums (digB n)) ++ ByteArray.mk #[44]).data.toList = 44 :: (dig3 n ++ [44]) := by
 rw [ByteArray.data_append, ByteArray.data_append, Array.toList_append, Array.toList_append, dig3_eq n h]
 rfl
theorem insW_rest (n : Int) (h1 : insW n ≠ 1) (h2 : insW n ≠ 2) (h4 : insW n ≠ 4) (h8 : insW n ≠ 8) : insW n = 0 := by
 unfold insW at *
 split at h1
 ·exact absurd rfl h1
 ·split at h2
  ·simp_all
  ·split at h4
   ·simp_all
   ·split at h8 <;> simp_all
theorem conc_0 (n : Nat) (h : n < 256) (b : Bool) (hb : decide (insW n = 1) = b) (w : World) (hM : MaxIn w) :
  Calls Tryz.prog 118 #[.string ⟨#[44, 52, 52, 44, 52, 53, 44, 52, 56, 44, 52, 57, 44, 53, 56, 44, 54, 48, 44]⟩, .string ((ByteArray.mk #[44] ++ strOfNums (digB n)) ++ ByteArray.mk #[44])] w fun e w' => e = .returned (.bool b) ∧ w' = w := by
 have := contains_any ⟨#[44, 52, 52, 44, 52, 53, 44, 52, 56, 44, 52, 57, 44, 53, 56, 44, 54, 48, 44]⟩ ((ByteArray.mk #[44] ++ strOfNums (digB n)) ++ ByteArray.mk #[44]) w (by decide) hM
 rw [sub_list n h] at this
 rw [← hb, ← con_0 n h]
 exact this
theorem conc_1 (n : Nat) (h : n < 256) (b : Bool) (hb : decide (insW n = 2) = b) (w : World) (hM : MaxIn w) :
  Calls Tryz.prog 118 #[.string ⟨#[44, 52, 54, 44, 52, 55, 44, 53, 48, 44, 53, 49, 44, 53, 57, 44, 54, 49, 44]⟩, .string ((ByteArray.mk #[44] ++ strOfNums (digB n)) ++ ByteArray.mk #[44])] w fun e w' => e = .returned (.bool b) ∧ w' = w := by
 have := contains_any ⟨#[44, 52, 54, 44, 52, 55, 44, 53, 48, 44, 53, 49, 44, 53, 57, 44, 54, 49, 44]⟩ ((ByteArray.mk #[44] ++ strOfNums (digB n)) ++ ByteArray.mk #[44]) w (by decide) hM
 rw [sub_list n h] at this
 rw [← hb, ← con_1 n h]
 exact this
theorem conc_2 (n : Nat) (h : n < 256) (b : Bool) (hb : decide (insW n = 4) = b) (w : World) (hM : MaxIn w) :
  Calls Tryz.prog 118 #[.string ⟨#[44, 52, 48, 44, 53, 50, 44, 53, 51, 44, 53, 52, 44, 54, 50, 44]⟩, .string ((ByteArray.mk #[44] ++ strOfNums (digB n)) ++ ByteArray.mk #[44])] w fun e w' => e = .returned (.bool b) ∧ w' = w := by
 have := contains_any ⟨#[44, 52, 48, 44, 53, 50, 44, 53, 51, 44, 53, 52, 44, 54, 50, 44]⟩ ((ByteArray.mk #[44] ++ strOfNums (digB n)) ++ ByteArray.mk #[44]) w (by decide) hM
 rw [sub_list n h] at this
 rw [← hb, ← con_2 n h]
 exact this
theorem conc_3 (n : Nat) (h : n < 256) (b : Bool) (hb : decide (insW n = 8) = b) (w : World) (hM : MaxIn w) :
  Calls Tryz.prog 118 #[.string ⟨#[44, 52, 49, 44, 53, 53, 44]⟩, .string ((ByteArray.mk #[44] ++ strOfNums (digB n)) ++ ByteArray.mk #[44])] w fun e w' => e = .returned (.bool b) ∧ w' = w := by
 have := contains_any ⟨#[44, 52, 49, 44, 53, 53, 44]⟩ ((ByteArray.mk #[44] ++ strOfNums (digB n)) ++ ByteArray.mk #[44]) w (by decide) hM
 rw [sub_list n h] at this
 rw [← hb, ← con_3 n h]
 exact this
end Go.Proofs.YtkceplamaocmmaaGreatDoor
namespace Go.Proofs.YtkceplamaocmmaaGreatDoor
open Go.RowKit
theorem rwidth_any (op : Nat) (h1 : op < 256) (w : World) (hM : MaxIn w) :
  Calls Tryz.prog 96 #[.int .u8 op] w fun e w' => e = .returned (.int .i64 (insW op)) ∧ Below w.heap.size w w' := by
 have HM : Hid (∀ w', Below w.heap.size w w' → MaxIn w') := fun w' b => hM.below b
 have HD : Hid (∀ w, Calls Tryz.prog 119 #[.int .i64 (IntKind.i64.wrap (op : Int))] w fun e w' => e = .returned (.string (strOfNums (digB op))) ∧ Below w.heap.size w w') := fun w => by
  rw [wrap_byte op h1]
  exact digits_any op (by omega) w
 have hds : (strOfNums (digB op)).size ≤ 20 := by rw [strOfNums_size]; exact digB_len64 op (by omega)
 have HC0 : Hid (∀ b, decide (insW op = 1) = b → ∀ w, MaxIn w → Calls Tryz.prog 118 #[.string ⟨#[44, 52, 52, 44, 52, 53, 44, 52, 56, 44, 52, 57, 44, 53, 56, 44, 54, 48, 44]⟩, .string ((ByteArray.mk #[44] ++ strOfNums (digB op)) ++ ByteArray.mk #[44])] w fun e w' => e = .returned (.bool b) ∧ w' = w) := fun b hb w hM => conc_0 op h1 b hb w hM
 have HC1 : Hid (∀ b, decide (insW op = 2) = b → ∀ w, MaxIn w → Calls Tryz.prog 118 #[.string ⟨#[44, 52, 54, 44, 52, 55, 44, 53, 48, 44, 53, 49, 44, 53, 57, 44, 54, 49, 44]⟩, .string ((ByteArray.mk #[44] ++ strOfNums (digB op)) ++ ByteArray.mk #[44])] w fun e w' => e = .returned (.bool b) ∧ w' = w) := fun b hb w hM => conc_1 op h1 b hb w hM
 have HC2 : Hid (∀ b, decide (insW op = 4) = b → ∀ w, MaxIn w → Calls Tryz.prog 118 #[.string ⟨#[44, 52, 48, 44, 53, 50, 44, 53, 51, 44, 53, 52, 44, 54, 50, 44]⟩, .string ((ByteArray.mk #[44] ++ strOfNums (digB op)) ++ ByteArray.mk #[44])] w fun e w' => e = .returned (.bool b) ∧ w' = w) := fun b hb w hM => conc_2 op h1 b hb w hM
 have HC3 : Hid (∀ b, decide (insW op = 8) = b → ∀ w, MaxIn w → Calls Tryz.prog 118 #[.string ⟨#[44, 52, 49, 44, 53, 53, 44]⟩, .string ((ByteArray.mk #[44] ++ strOfNums (digB op)) ++ ByteArray.mk #[44])] w fun e w' => e = .returned (.bool b) ∧ w' = w) := fun b hb w hM => conc_3 op h1 b hb w hM
 clear hM
 obtain ⟨D, hD⟩ : ∃ D, strOfNums (digB op) = D := ⟨_, rfl⟩
 rw [hD] at HD hds HC0 HC1 HC2 HC3
 clear hD
 obtain ⟨W, hW⟩ : ∃ W, insW (op : Int) = W := ⟨_, rfl⟩
 have HWr : Hid (W ≠ 1 → W ≠ 2 → W ≠ 4 → W ≠ 8 → W = 0) := by rw [← hW]; exact insW_rest op
 rw [hW] at HC0 HC1 HC2 HC3 ⊢
 clear hW
 go_enter Tryz.func96, Tryz.ntmps96
 go_wp2_with fail
 go_loopw [11] (fun i wr => ∃ k : Int, i = .int .i64 k ∧ 0 ≤ k ∧ k ≤ 4 ∧ Hid (WT wr w.heap.size) ∧ Hid (Below w.heap.size w wr) ∧ Hid ((0 < k → W ≠ 1) ∧ (1 < k → W ≠ 2) ∧ (2 < k → W ≠ 4) ∧ (3 < k → W ≠ 8))) (fun i _ => 4 - (intOf i).toNat)
 case atStart => exact ⟨0, rfl, by omega, by omega, new_block _ _, (Below.refl _ _).alloc (Nat.le_refl _) _, by unfold Hid; omega⟩
 case round =>
  obtain ⟨k, rfl, hk0, hk, HT, HB, HN⟩ := hrel
  by_cases hlt : k < 4
  ·have hc : k = 0 ∨ k = 1 ∨ k = 2 ∨ k = 3 := by omega
   clear hk0 hk hlt
   rcases hc with rfl | rfl | rfl | rfl
   ·obtain ⟨c0, c1⟩ := HT.out.cell0
    have xX : Hid (XW2 (wr.alloc (.cells #[.int .i64 1, .string ⟨#[44, 52, 52, 44, 52, 53, 44, 52, 56, 44, 52, 57, 44, 53, 56, 44, 54, 48, 44]⟩] 137)) wr.heap.size (.int .i64 1) (.string ⟨#[44, 52, 52, 44, 52, 53, 44, 52, 56, 44, 52, 57, 44, 53, 56, 44, 54, 48, 44]⟩)) := new_block _ _
    have HA : Hid (Below w.heap.size w (wr.alloc (.cells #[.int .i64 1, .string ⟨#[44, 52, 52, 44, 52, 53, 44, 52, 56, 44, 52, 57, 44, 53, 56, 44, 54, 48, 44]⟩] 137))) := HB.out.alloc HB.out.size _
    have HTA : Hid (WT (wr.alloc (.cells #[.int .i64 1, .string ⟨#[44, 52, 52, 44, 52, 53, 44, 52, 56, 44, 52, 57, 44, 53, 56, 44, 54, 48, 44]⟩] 137)) w.heap.size) := HT.out.keep ((Below.refl _ _).alloc (Nat.le_refl _) _)
    obtain ⟨b, hb⟩ : ∃ b, decide (W = 1) = b := ⟨_, rfl⟩
    have HCb : Hid (type_of% (HC0.out b hb)) := HC0.out b hb
    have Hb : Hid (decide (W = 1) = b) := hb
    clear hb HC0 HC1 HC2 HC3 HWr
    go_wp2_with fail
    clear HT c0 c1
    go_region_with (first
     | (go_at_call 119; refine (HD.out _).mono ?_; rintro e w2 ⟨rfl, b2⟩; have xX2 := XW2.keep xX.out b2; obtain ⟨z0, z1⟩ := xX2.cell)
     | (go_at_call 118; refine (HCb.out _ (HM.out _ (HA.out.drew.trans (b2.mono HA.out.size)))).mono ?_; rintro e w3 ⟨rfl, rfl⟩))
    all_goals
     have HBE : Hid (Below w.heap.size w w3) := HA.out.drew.trans (b2.mono HA.out.size)
     have HTE : Hid (WT w3 w.heap.size) := HTA.out.keepD b2
     clear HA HTA b2 HCb HD HM xX xX2
     cases b
     ·have hw : W ≠ 1 := of_decide_eq_false Hb.out
      go_wp2
      go_roundw
      case rel => exact ⟨1, by first | rfl | go_num, by omega, by omega, HTE, HBE, by unfold Hid; have := HN.out; refine ⟨?_, ?_, ?_, ?_⟩ <;> intro _ <;> first | exact hw | (apply this.1; omega) | (apply this.2.1; omega) | (apply this.2.2.1; omega) | (exfalso; omega)⟩
      case measure => simp [intOf]
     ·have hw : W = 1 := of_decide_eq_true Hb.out
      go_wp2
      go_ret
      subst hw
      exact ⟨rfl, HBE.out⟩
   ·obtain ⟨c0, c1⟩ := HT.out.cell1
    have xX : Hid (XW2 (wr.alloc (.cells #[.int .i64 2, .string ⟨#[44, 52, 54, 44, 52, 55, 44, 53, 48, 44, 53, 49, 44, 53, 57, 44, 54, 49, 44]⟩] 137)) wr.heap.size (.int .i64 2) (.string ⟨#[44, 52, 54, 44, 52, 55, 44, 53, 48, 44, 53, 49, 44, 53, 57, 44, 54, 49, 44]⟩)) := new_block _ _
    have HA : Hid (Below w.heap.size w (wr.alloc (.cells #[.int .i64 2, .string ⟨#[44, 52, 54, 44, 52, 55, 44, 53, 48, 44, 53, 49, 44, 53, 57, 44, 54, 49, 44]⟩] 137))) := HB.out.alloc HB.out.size _
    have HTA : Hid (WT (wr.alloc (.cells #[.int .i64 2, .string ⟨#[44, 52, 54, 44, 52, 55, 44, 53, 48, 44, 53, 49, 44, 53, 57, 44, 54, 49, 44]⟩] 137)) w.heap.size) := HT.out.keep ((Below.refl _ _).alloc (Nat.le_refl _) _)
    obtain ⟨b, hb⟩ : ∃ b, decide (W = 2) = b := ⟨_, rfl⟩
    have HCb : Hid (type_of% (HC1.out b hb)) := HC1.out b hb
    have Hb : Hid (decide (W = 2) = b) := hb
    clear hb HC0 HC1 HC2 HC3 HWr
    go_wp2_with fail
    clear HT c0 c1
    go_region_with (first
     | (go_at_call 119; refine (HD.out _).mono ?_; rintro e w2 ⟨rfl, b2⟩; have xX2 := XW2.keep xX.out b2; obtain ⟨z0, z1⟩ := xX2.cell)
     | (go_at_call 118; refine (HCb.out _ (HM.out _ (HA.out.drew.trans (b2.mono HA.out.size)))).mono ?_; rintro e w3 ⟨rfl, rfl⟩))
    all_goals
     have HBE : Hid (Below w.heap.size w w3) := HA.out.drew.trans (b2.mono HA.out.size)
     have HTE : Hid (WT w3 w.heap.size) := HTA.out.keepD b2
     clear HA HTA b2 HCb HD HM xX xX2
     cases b
     ·have hw : W ≠ 2 := of_decide_eq_false Hb.out
      go_wp2
      go_roundw
      case rel => exact ⟨2, by first | rfl | go_num, by omega, by omega, HTE, HBE, by unfold Hid; have := HN.out; refine ⟨?_, ?_, ?_, ?_⟩ <;> intro _ <;> first | exact hw | (apply this.1; omega) | (apply this.2.1; omega) | (apply this.2.2.1; omega) | (exfalso; omega)⟩
      case measure => simp [intOf]
     ·have hw : W = 2 := of_decide_eq_true Hb.out
      go_wp2
      go_ret
      subst hw
      exact ⟨rfl, HBE.out⟩
   ·obtain ⟨c0, c1⟩ := HT.out.cell2
    have xX : Hid (XW2 (wr.alloc (.cells #[.int .i64 4, .string ⟨#[44, 52, 48, 44, 53, 50, 44, 53, 51, 44, 53, 52, 44, 54, 50, 44]⟩] 137)) wr.heap.size (.int .i64 4) (.string ⟨#[44, 52, 48, 44, 53, 50, 44, 53, 51, 44, 53, 52, 44, 54, 50, 44]⟩)) := new_block _ _
    have HA : Hid (Below w.heap.size w (wr.alloc (.cells #[.int .i64 4, .string ⟨#[44, 52, 48, 44, 53, 50, 44, 53, 51, 44, 53, 52, 44, 54, 50, 44]⟩] 137))) := HB.out.alloc HB.out.size _
    have HTA : Hid (WT (wr.alloc (.cells #[.int .i64 4, .string ⟨#[44, 52, 48, 44, 53, 50, 44, 53, 51, 44, 53, 52, 44, 54, 50, 44]⟩] 137)) w.heap.size) := HT.out.keep ((Below.refl _ _).alloc (Nat.le_refl _) _)
    obtain ⟨b, hb⟩ : ∃ b, decide (W = 4) = b := ⟨_, rfl⟩
    have HCb : Hid (type_of% (HC2.out b hb)) := HC2.out b hb
    have Hb : Hid (decide (W = 4) = b) := hb
    clear hb HC0 HC1 HC2 HC3 HWr
    go_wp2_with fail
    clear HT c0 c1
    go_region_with (first
     | (go_at_call 119; refine (HD.out _).mono ?_; rintro e w2 ⟨rfl, b2⟩; have xX2 := XW2.keep xX.out b2; obtain ⟨z0, z1⟩ := xX2.cell)
     | (go_at_call 118; refine (HCb.out _ (HM.out _ (HA.out.drew.trans (b2.mono HA.out.size)))).mono ?_; rintro e w3 ⟨rfl, rfl⟩))
    all_goals
     have HBE : Hid (Below w.heap.size w w3) := HA.out.drew.trans (b2.mono HA.out.size)
     have HTE : Hid (WT w3 w.heap.size) := HTA.out.keepD b2
     clear HA HTA b2 HCb HD HM xX xX2
     cases b
     ·have hw : W ≠ 4 := of_decide_eq_false Hb.out
      go_wp2
      go_roundw
      case rel => exact ⟨3, by first | rfl | go_num, by omega, by omega, HTE, HBE, by unfold Hid; have := HN.out; refine ⟨?_, ?_, ?_, ?_⟩ <;> intro _ <;> first | exact hw | (apply this.1; omega) | (apply this.2.1; omega) | (apply this.2.2.1; omega) | (exfalso; omega)⟩
      case measure => simp [intOf]
     ·have hw : W = 4 := of_decide_eq_true Hb.out
      go_wp2
      go_ret
      subst hw
      exact ⟨rfl, HBE.out⟩
   ·obtain ⟨c0, c1⟩ := HT.out.cell3
    have xX : Hid (XW2 (wr.alloc (.cells #[.int .i64 8, .string ⟨#[44, 52, 49, 44, 53, 53, 44]⟩] 137)) wr.heap.size (.int .i64 8) (.string ⟨#[44, 52, 49, 44, 53, 53, 44]⟩)) := new_block _ _
    have HA : Hid (Below w.heap.size w (wr.alloc (.cells #[.int .i64 8, .string ⟨#[44, 52, 49, 44, 53, 53, 44]⟩] 137))) := HB.out.alloc HB.out.size _
    have HTA : Hid (WT (wr.alloc (.cells #[.int .i64 8, .string ⟨#[44, 52, 49, 44, 53, 53, 44]⟩] 137)) w.heap.size) := HT.out.keep ((Below.refl _ _).alloc (Nat.le_refl _) _)
    obtain ⟨b, hb⟩ : ∃ b, decide (W = 8) = b := ⟨_, rfl⟩
    have HCb : Hid (type_of% (HC3.out b hb)) := HC3.out b hb
    have Hb : Hid (decide (W = 8) = b) := hb
    clear hb HC0 HC1 HC2 HC3 HWr
    go_wp2_with fail
    clear HT c0 c1
    go_region_with (first
     | (go_at_call 119; refine (HD.out _).mono ?_; rintro e w2 ⟨rfl, b2⟩; have xX2 := XW2.keep xX.out b2; obtain ⟨z0, z1⟩ := xX2.cell)
     | (go_at_call 118; refine (HCb.out _ (HM.out _ (HA.out.drew.trans (b2.mono HA.out.size)))).mono ?_; rintro e w3 ⟨rfl, rfl⟩))
    all_goals
     have HBE : Hid (Below w.heap.size w w3) := HA.out.drew.trans (b2.mono HA.out.size)
     have HTE : Hid (WT w3 w.heap.size) := HTA.out.keepD b2
     clear HA HTA b2 HCb HD HM xX xX2
     cases b
     ·have hw : W ≠ 8 := of_decide_eq_false Hb.out
      go_wp2
      go_roundw
      case rel => exact ⟨4, by first | rfl | go_num, by omega, by omega, HTE, HBE, by unfold Hid; have := HN.out; refine ⟨?_, ?_, ?_, ?_⟩ <;> intro _ <;> first | exact hw | (apply this.1; omega) | (apply this.2.1; omega) | (apply this.2.2.1; omega) | (exfalso; omega)⟩
      case measure => simp [intOf]
     ·have hw : W = 8 := of_decide_eq_true Hb.out
      go_wp2
      go_ret
      subst hw
      exact ⟨rfl, HBE.out⟩
  ·have hk4 : k = 4 := by omega
   subst hk4
   have hn := HN.out
   have hz := HWr.out (hn.1 (by omega)) (hn.2.1 (by omega)) (hn.2.2.1 (by omega)) (hn.2.2.2 (by omega))
   clear hn
   go_wp2
   go_ret
   subst hz
   exact ⟨rfl, HB.out⟩
end Go.Proofs.YtkceplamaocmmaaGreatDoor
namespace Go.Proofs.YtkceplamaocmmaaGreatDoor
open Go.RowKit
def besF (n V : Int) (T : ByteArray) : ByteArray :=
 if 2 ≤ n ∧ n ≤ 4 then ⟨#[107]⟩ else
 if n = 12 ∨ n = 13 ∨ n = 16 ∨ (32 ≤ n ∧ n ≤ 36) then ⟨#[97]⟩ else
 if n = 14 then ⟨#[116]⟩ else
 if n = 17 then ⟨#[97, 122]⟩ else
 if 0 < V then ⟨#[97, 98]⟩ else
 if n = 63 ∨ n = 64 then ⟨#[122]⟩ else
 if n = 65 then ⟨#[99]⟩ else
 if n = 66 then ⟨#[100]⟩ else
 if n = 0 ∨ n = 1 ∨ n = 5 ∨ n = 11 ∨ n = 15 ∨ n = 26 ∨ n = 27 ∨ (!T.toList == [63]) = true then ⟨#[]⟩ else
 ⟨#[63]⟩
def besL (n : Int) : ByteArray := besF n (insW n) (takL n)
theorem rbeside_any (op : Nat) (h1 : op < 256) (w : World) (hM : MaxIn w) :
  Calls Tryz.prog 81 #[.int .u8 op] w fun e w' => e = .returned (.string (besL op)) ∧ Below w.heap.size w w' := by
 have hwr : IntKind.i64.wrap (op : Int) = op := wrap_byte op h1
 have HW : Hid (Calls Tryz.prog 96 #[.int .u8 op] w fun e w' => e = .returned (.int .i64 (insW op)) ∧ Below w.heap.size w w') := rwidth_any op h1 w hM
 have HT : Hid (∀ w, Calls Tryz.prog 22 #[.int .u8 op] w fun e w' => e = .returned (.string (takL op)) ∧ w' = w) := fun w => takes_any op (by omega) (by omega) w
 rw [besL]
 generalize insW (op : Int) = V at HW ⊢
 generalize takL (op : Int) = T at HT ⊢
 clear hM
 go_enter Tryz.func81, Tryz.ntmps81
 go_wp2_with (first
  | (go_at_call 96; refine HW.out.mono ?_; rintro e w1 ⟨rfl, b1⟩)
  | (go_at_call 22; refine (HT.out _).mono ?_; rintro e w2 ⟨rfl, rfl⟩))
 all_goals
  go_ret
  refine ⟨ret_s ?_, by first | exact Below.refl _ _ | assumption⟩
  try simp only [beq_iff_eq, beq_eq_false_iff_ne, ne_eq] at *
  rw [besF]
  repeat (first | rw [if_pos (by omega)] | rw [if_neg (by omega)])
  try rfl
  try
   split
   ·first
     | rfl
     | (rename_i hc
        exfalso
        rcases hc with hc | hc | hc | hc | hc | hc | hc | hc
        all_goals first | omega | exact absurd (hc.symm.trans ‹(!T.toList == [63]) = false›) (by decide))
   ·first
     | rfl
     | (rename_i hc; exact absurd (Or.inr (Or.inr (Or.inr (Or.inr (Or.inr (Or.inr (Or.inr ‹(!T.toList == [63]) = true›))))))) hc)
end Go.Proofs.YtkceplamaocmmaaGreatDoor
