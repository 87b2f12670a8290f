/-
 What the document's own small writers say.
 The array of twelve texts that the document's own 'sections' fills, and what the walk leans on.
 Regions that draw their order and end in one store: what is said of the world need hold only till that store has come up, and no load that must precede it is moved behind it.
-/
import Derived.Test.YtakpkdckajjooaaGreatDoorWQW
import Derived.Test.YtakpkdckajjooaaGreatDoorWGRef
import Derived.Deep.RegionHeld3
import Derived.Test.YtakpkdckajjooaaGreatDoorProg
set_option maxHeartbeats 2000000
set_option maxRecDepth 1000000
namespace Go.Proofs.YtakpkdckajjooaaGreatDoor
set_option linter.unusedVariables false
open Go.RowKit
theorem flat_one : ∀ l : List Int, l.flatMap (fun k => [k]) = l
 | [] => rfl
 | a :: l => by rw [List.flatMap_cons, flat_one l]; rfl
theorem dChr (n : Int) (h0 : 0 ≤ n) (h1 : n < 256) (w : World) : Calls Tryz.prog 28 #[.int .i64 n] w (Txt w [n]) := by
 refine (chr_any n h0 h1 w).mono ?_
 rintro r w' ⟨rfl, b⟩
 exact ⟨_, rfl, nums_str (fun b hb => by simp only [List.mem_singleton] at hb; omega), b⟩
theorem dLebU (n : Nat) (hn : n ≤ 18446744073709551615) (w : World) : Calls Tryz.prog 94 #[.int .u64 (n : Int)] w (Txt w (uB n)) := by
 refine (refU_any n hn w).mono ?_
 rintro r w' ⟨rfl, b⟩
 exact ⟨_, rfl, nums_str (uB_byte n), b⟩
theorem dLebS (n : Int) (h1 : -9223372036854775808 ≤ n) (h2 : n ≤ 9223372036854775807) (w : World) : Calls Tryz.prog 92 #[.int .i64 n] w (Txt w (sB n)) := by
 refine (refS_any n h1 h2 w).mono ?_
 rintro r w' ⟨rfl, b⟩
 exact ⟨_, rfl, nums_str (sB_byte n), b⟩
theorem dU (n : Int) (h0 : 0 ≤ n) (h1 : n ≤ 9223372036854775807) (w : World) : Calls Tryz.prog 29 #[.int .i64 n] w (Txt w (uB n.toNat)) := by
 have HU : Hid (∀ w', Calls Tryz.prog 94 #[.int .u64 n] w' (Txt w' (uB n.toNat))) := fun w' => by
  have := dLebU n.toNat (by omega) w'
  rw [Int.toNat_of_nonneg h0] at this
  exact this
 go_enter Tryz.func29, Tryz.ntmps29
 go_wp2_with fail
 refine (HU.out _).mono ?_
 rintro r w1 ⟨t, rfl, ht, b1⟩
 have HT : Hid (nums t = uB n.toNat) := ht
 have HB : Hid (Below w.heap.size w w1) := b1
 clear ht b1 HU
 go_wp2
 go_ret
 exact ⟨t, rfl, HT.out, HB.out⟩
theorem dName (s : ByteArray) (h : s.size ≤ 16) (w : World) : Calls Tryz.prog 90 #[.string s] w (Txt w (tName (nums s))) := by
 have HC : Hid (∀ w', Calls Tryz.prog 28 #[.int .i64 (s.size : Int)] w' (Txt w' [(s.size : Int)])) := fun w' => dChr _ (by omega) (by omega) w'
 have HT : Hid (tName (nums s) = [(s.size : Int)] ++ nums s) := by
  unfold Hid tName
  rw [nums_length, uB_lo (by omega)]
 go_enter Tryz.func90, Tryz.ntmps90
 go_wp2_with fail
 refine (HC.out _).mono ?_
 rintro r w1 ⟨t, rfl, ht, b1⟩
 have hz := size_of ht
 have hz1 : t.size = 1 := hz
 have hcat : t.size + s.size ≤ 9223372036854775807 := by omega
 have HH : Hid (nums t = [(s.size : Int)]) := ht
 have HB : Hid (Below w.heap.size w w1) := b1
 clear ht b1 HC hz hz1
 go_wp2
 go_ret
 exact ⟨_, rfl, by rw [nums_append, HH.out, HT.out], HB.out⟩
theorem dPlace (a : Int) (h1 : -2147483648 ≤ a) (h2 : a ≤ 2147483647) (w : World) : Calls Tryz.prog 93 #[.int .i64 a] w (Txt w (tPlace a)) := by
 have H0 : Hid (∀ w', Calls Tryz.prog 28 #[.int .i64 0] w' (Txt w' [0])) := fun w' => dChr 0 (by omega) (by omega) w'
 have H6 : Hid (∀ w', Calls Tryz.prog 28 #[.int .i64 65] w' (Txt w' [65])) := fun w' => dChr 65 (by omega) (by omega) w'
 have H11 : Hid (∀ w', Calls Tryz.prog 28 #[.int .i64 11] w' (Txt w' [11])) := fun w' => dChr 11 (by omega) (by omega) w'
 have HS : Hid (∀ w', Calls Tryz.prog 92 #[.int .i64 a] w' (Txt w' (sB a))) := fun w' => dLebS a (by omega) (by omega) w'
 have hl : (sB a).length ≤ 100 := Nat.le_trans (sB_len64 a (by omega) (by omega)) (by decide)
 go_enter Tryz.func93, Tryz.ntmps93
 go_wp2_with fail
 refine (H0.out _).mono ?_
 rintro r w1 ⟨t1, rfl, ht1, b1⟩
 have z1 : t1.size = 1 := size_of ht1
 have HT1 : Hid (nums t1 = [0]) := ht1
 have HB1 : Hid (Below w.heap.size w w1) := b1
 clear ht1 b1 H0
 go_wp2_with fail
 refine (H6.out _).mono ?_
 rintro r w2 ⟨t2, rfl, ht2, b2⟩
 have z2 : t2.size = 1 := size_of ht2
 have HT2 : Hid (nums t2 = [65]) := ht2
 have HB2 : Hid (Below w.heap.size w w2) := HB1.out.trans (b2.mono HB1.out.size)
 have k1 : t1.size + t2.size ≤ 9223372036854775807 := by omega
 clear ht2 b2 H6 HB1
 go_wp2_with fail
 refine (HS.out _).mono ?_
 rintro r w3 ⟨t3, rfl, ht3, b3⟩
 have z3 : t3.size ≤ 100 := by rw [size_of ht3]; exact hl
 have HT3 : Hid (nums t3 = sB a) := ht3
 have HB3 : Hid (Below w.heap.size w w3) := HB2.out.trans (b3.mono HB2.out.size)
 have z12 : (t1 ++ t2).size = 2 := by rw [ByteArray.size_append]; omega
 have k2 : (t1 ++ t2).size + t3.size ≤ 9223372036854775807 := by omega
 have k2' : t1.size + t2.size + t3.size ≤ 9223372036854775807 := by omega
 clear ht3 b3 HS HB2
 go_wp2_with fail
 refine (H11.out _).mono ?_
 rintro r w4 ⟨t4, rfl, ht4, b4⟩
 have z4 : t4.size = 1 := size_of ht4
 have HT4 : Hid (nums t4 = [11]) := ht4
 have HB4 : Hid (Below w.heap.size w w4) := HB3.out.trans (b4.mono HB3.out.size)
 have k3 : t1.size + t2.size + t3.size + t4.size ≤ 9223372036854775807 := by omega
 clear ht4 b4 H11 HB3
 go_wp2
 go_ret
 refine ⟨_, rfl, ?_, HB4.out⟩
 rw [nums_append, nums_append, nums_append, HT1.out, HT2.out, HT3.out, HT4.out]
 unfold tPlace
 simp
theorem dKinds (d : NumD) (w : World) (hd : d.ok .u8 w) (h16 : d.n ≤ 16) (hk : ∀ x ∈ d.xs, isK x = true) : Calls Tryz.prog 89 #[.slice d.o d.n d.cap] w (Txt w (tKs d.xs)) := by
 have m1 := hd.most
 unfold maxLen at m1
 have hcp := hd.le
 have HL : Hid (d.xs.length = d.n) := hd.len
 have HAT : Hid (type_of% (hd.at1 (Nat.le_refl _))) := hd.at1 (Nat.le_refl _)
 have HKK : Hid (∀ x ∈ d.xs, isK x = true) := hk
 clear hd hk
 obtain ⟨o, n, cap, xs⟩ := d
 dsimp only at *
 have HU : Hid (∀ w', Calls Tryz.prog 29 #[.int .i64 (n : Int)] w' (Txt w' (uB n))) := fun w' => by
  have := dU (n : Int) (by omega) (by omega) w'
  rw [Int.toNat_natCast] at this
  exact this
 have HLU : Hid ((uB n).length ≤ 10) := uB_len10 n (by omega)
 go_enter Tryz.func89, Tryz.ntmps89
 go_wp2_with fail
 refine (HU.out _).mono ?_
 rintro r w1 ⟨t, rfl, ht, b1⟩
 have HT : Hid (nums t = uB n) := ht
 have HB1 : Hid (Below w.heap.size w w1) := b1
 clear ht b1 HU
 go_wp2
 go_loopw [3, 11] (fun ov iv wr => ∃ (i : Nat) (u : ByteArray), ov = .string u ∧ iv = .int .i64 (i : Int) ∧ i ≤ n ∧ Hid (nums u = uB n ++ xs.take i) ∧ Hid (Below w.heap.size w wr)) (fun _ iv _ => n - (intOf iv).toNat)
 case atStart => exact ⟨0, t, rfl, rfl, by omega, by unfold Hid; rw [List.take_zero, List.append_nil]; exact HT.out, HB1⟩
 case round =>
  obtain ⟨i, u, rfl, rfl, hi, HN, HB⟩ := hrel
  by_cases hlt : i < n
  ·have hx : i < xs.length := by rw [HL.out]; exact hlt
   obtain ⟨b, f, rfl, hbw, hcl⟩ := HAT.out.resolve_left (fun e => by rw [e] at hx; exact absurd hx (by simp))
   have e1 : wr.cell? ⟨b, f + i, none⟩ = some (.int .u8 xs[i]) := by
    rw [HB.out.cell (p := ⟨b, f + i, none⟩) hbw]
    have := hcl i hx 0 (by omega)
    rw [Nat.mul_one, Nat.add_zero] at this
    rw [this]
    rfl
   have HTK : Hid (xs.take (i + 1) = xs.take i ++ [xs[i]]) := List.take_succ_eq_append_getElem hx
   have hk1 := isK_or (HKK.out _ (List.getElem_mem hx))
   have hzu : u.size ≤ 26 := by
    have h1 := size_of HN.out
    rw [List.length_append, List.length_take] at h1
    have := HLU.out
    omega
   generalize xs[i] = x at e1 HTK hk1
   clear hcl hx
   have HC : Hid (Calls Tryz.prog 28 #[.int .i64 x] wr (Txt wr [x])) := dChr x (by omega) (by omega) wr
   have hx0 : 0 ≤ x := by omega
   have hx1 : x < 256 := by omega
   have hki0 : (0 : Int) ≤ (i : Int) := by omega
   have hki1 : (i : Int) < (n : Int) := by omega
   clear hk1
   go_wp2_with fail
   refine HC.out.mono ?_
   rintro r w2 ⟨v, rfl, hv, b2⟩
   have zv : v.size = 1 := size_of hv
   have hcat : u.size + v.size ≤ 9223372036854775807 := by omega
   have HV : Hid (nums v = [x]) := hv
   have HB2 : Hid (Below w.heap.size w w2) := HB.out.trans (b2.mono HB.out.size)
   have HN2 : Hid (nums (u ++ v) = uB n ++ xs.take (i + 1)) := by
    unfold Hid
    rw [nums_append, HN.out, HV.out, HTK.out, List.append_assoc]
   clear hv b2 HC HN HTK HV
   go_wp2
   go_roundw
   case rel => exact ⟨i + 1, u ++ v, rfl, by go_num, by omega, HN2, HB2⟩
   case measure => simp [intOf]; omega
  ·have HD : Hid (nums u = tKs xs) := by
    have h := HN.out
    rw [List.take_of_length_le (by rw [HL.out]; omega)] at h
    unfold Hid tKs tList
    rw [h, HL.out]
    rw [flat_one]
   clear HN
   go_wp2
   go_ret
   exact ⟨u, rfl, HD.out, HB.out⟩
end Go.Proofs.YtakpkdckajjooaaGreatDoor
namespace Go.Proofs.YtakpkdckajjooaaGreatDoor
set_option linter.unusedVariables false
open Go.RowKit
def OB (w : World) (P : Nat) (s : Nat → ByteArray) : Prop := w.heap[P]? = some (.cells #[.string (s 0), .string (s 1), .string (s 2), .string (s 3), .string (s 4), .string (s 5), .string (s 6), .string (s 7), .string (s 8), .string (s 9), .string (s 10), .string (s 11)] 73 (0, 0))
def updF (f : Nat → List Int) (k : Nat) (x : List Int) (j : Nat) : List Int := if j = k then x else f j
def SX (w : World) (P : Nat) (f : Nat → List Int) : Prop := ∃ s, OB w P s ∧ ∀ k, nums (s k) = f k
theorem twelve {k : Nat} (h : k < 12) : k = 0 ∨ k = 1 ∨ k = 2 ∨ k = 3 ∨ k = 4 ∨ k = 5 ∨ k = 6 ∨ k = 7 ∨ k = 8 ∨ k = 9 ∨ k = 10 ∨ k = 11 := by omega
theorem OB.cell {w : World} {P : Nat} {s : Nat → ByteArray} (h : OB w P s) (k : Nat) (hk : k < 12) : w.cell? ⟨P, k, none⟩ = some (.string (s k)) := by
 unfold OB at h
 rcases twelve hk with rfl | rfl | rfl | rfl | rfl | rfl | rfl | rfl | rfl | rfl | rfl | rfl <;> simp [World.cell?, h]
theorem OB.set {w : World} {P : Nat} {s : Nat → ByteArray} (h : OB w P s) (k : Nat) (hk : k < 12) (v : ByteArray) : OB (w.setCell ⟨P, k, none⟩ (.string v)) P (fun j => if j = k then v else s j) := by
 unfold OB at h ⊢
 rcases twelve hk with rfl | rfl | rfl | rfl | rfl | rfl | rfl | rfl | rfl | rfl | rfl | rfl <;> simp [World.setCell, Array.getElem?_modify, h]
theorem SX.lt {w : World} {P : Nat} {f : Nat → List Int} (h : SX w P f) : P < w.heap.size := by
 obtain ⟨s, h, _⟩ := h
 exact some_lt h
theorem SX.get {w : World} {P : Nat} {f : Nat → List Int} (h : SX w P f) (k : Nat) (hk : k < 12) : ∃ v, w.cell? ⟨P, k, none⟩ = some (.string v) ∧ nums v = f k := by
 obtain ⟨s, h, q⟩ := h
 exact ⟨s k, h.cell k hk, q k⟩
theorem SX.frozen {w : World} {P : Nat} {f : Nat → List Int} (h : SX w P f) (i : Nat) : w.frozen? ⟨P, i, none⟩ = false := by
 obtain ⟨s, h, _⟩ := h
 unfold OB at h
 simp [World.frozen?, h]
theorem SX.under {w w' : World} {P N : Nat} {f : Nat → List Int} (h : SX w P f) (b : Below N w w') (hN : P < N) : SX w' P f := by
 obtain ⟨s, h, q⟩ := h
 exact ⟨s, (b.block P hN).trans h, q⟩
theorem SX.set {w : World} {P : Nat} {f : Nat → List Int} (h : SX w P f) (k : Nat) (hk : k < 12) (v : ByteArray) {x : List Int} (hv : nums v = x) : SX (w.setCell ⟨P, k, none⟩ (.string v)) P (updF f k x) := by
 obtain ⟨s, h, q⟩ := h
 refine ⟨_, h.set k hk v, fun j => ?_⟩
 unfold updF
 by_cases e : j = k
 ·rw [if_pos e, if_pos e, hv]
 ·rw [if_neg e, if_neg e, q]
theorem SX.cong {w : World} {P : Nat} {f g : Nat → List Int} (h : SX w P f) (e : ∀ k, f k = g k) : SX w P g := by
 obtain ⟨s, h, q⟩ := h
 exact ⟨s, h, fun k => (q k).trans (e k)⟩
theorem SX.start {w : World} {P : Nat} {f : Nat → List Int} (h : SX w P f) (k : Nat) (e : f k = []) : SX w P (updF f k []) := h.cong fun j => by
 unfold updF
 by_cases q : j = k
 ·rw [if_pos q, q, e]
 ·rw [if_neg q]
theorem SX.step {w : World} {P : Nat} {f : Nat → List Int} {k : Nat} {X Y : List Int} (h : SX w P (updF f k X)) (hk : k < 12) (v : ByteArray) (hv : nums v = Y) : SX (w.setCell ⟨P, k, none⟩ (.string v)) P (updF f k Y) := (h.set k hk v hv).cong fun j => by
 unfold updF
 by_cases q : j = k
 ·rw [if_pos q, if_pos q]
 ·rw [if_neg q, if_neg q, if_neg q]
theorem SX.step2 {w : World} {P : Nat} {f : Nat → List Int} {k l : Nat} {X Y Z : List Int} (h : SX w P (updF (updF f k X) l Z)) (hk : k < 12) (hkl : k ≠ l) (v : ByteArray) (hv : nums v = Y) : SX (w.setCell ⟨P, k, none⟩ (.string v)) P (updF (updF f k Y) l Z) := (h.set k hk v hv).cong fun j => by
 unfold updF
 by_cases q : j = k
 ·subst q
  rw [if_pos rfl, if_neg hkl, if_pos rfl]
 ·rw [if_neg q, if_neg q, if_neg q]
theorem updF_self (f : Nat → List Int) (k : Nat) (x : List Int) : updF f k x k = x := if_pos rfl
theorem updF_two (f : Nat → List Int) (k l : Nat) (x y : List Int) (h : k ≠ l) : updF (updF f k x) l y k = x := by
 unfold updF
 rw [if_neg h, if_pos rfl]
theorem SX.new (w : World) : SX (w.alloc (.cells #[.string ⟨#[]⟩, .string ⟨#[]⟩, .string ⟨#[]⟩, .string ⟨#[]⟩, .string ⟨#[]⟩, .string ⟨#[]⟩, .string ⟨#[]⟩, .string ⟨#[]⟩, .string ⟨#[]⟩, .string ⟨#[]⟩, .string ⟨#[]⟩, .string ⟨#[]⟩] 73)) w.heap.size (fun _ => []) :=
 ⟨fun _ => ⟨#[]⟩, new_block _ _, fun _ => rfl⟩
theorem cell_other {w : World} {P k Q i : Nat} {y : Value} (h : Q ≠ P) : (w.setCell ⟨P, k, none⟩ y).cell? ⟨Q, i, none⟩ = w.cell? ⟨Q, i, none⟩ := by
 simp [World.setCell, World.cell?, Array.getElem?_modify, Ne.symm h]
def mny (mn : Nat → Nat) (F : Nat → List Int) (i k : Nat) : List Int := if k < i ∧ 0 < mn k then uB (mn k) ++ F k else F k
theorem SX.many0 {w : World} {P : Nat} {mn : Nat → Nat} {F : Nat → List Int} {i : Nat} (h : SX w P (mny mn F i)) (h0 : mn i = 0) : SX w P (mny mn F (i + 1)) := h.cong fun k => by
 unfold mny
 by_cases e : k = i
 ·subst e
  rw [if_neg (by omega), if_neg (by omega)]
 ·have : (k < i ∧ 0 < mn k) ↔ (k < i + 1 ∧ 0 < mn k) := by omega
  simp only [this]
theorem SX.many1 {w : World} {P : Nat} {mn : Nat → Nat} {F : Nat → List Int} {i : Nat} (h : SX w P (mny mn F i)) (hi : i < 12) (h0 : 0 < mn i) (v : ByteArray) (hv : nums v = uB (mn i) ++ F i) : SX (w.setCell ⟨P, i, none⟩ (.string v)) P (mny mn F (i + 1)) := (h.set i hi v hv).cong fun k => by
 unfold mny updF
 by_cases e : k = i
 ·subst e
  rw [if_pos rfl, if_pos ⟨by omega, h0⟩]
 ·rw [if_neg e]
  have : (k < i ∧ 0 < mn k) ↔ (k < i + 1 ∧ 0 < mn k) := by omega
  simp only [this]
theorem mny_at (mn : Nat → Nat) (F : Nat → List Int) (i : Nat) : mny mn F i i = F i := if_neg (by omega)
theorem sgn32 {x : Int} (h : isSgn 32 x) : -2147483648 ≤ x ∧ x ≤ 2147483647 := by
 unfold isSgn at h
 omega
theorem updF_len {f : Nat → List Int} {k : Nat} {x : List Int} {B : Nat} (hf : ∀ j, (f j).length ≤ B) (hx : x.length ≤ B) (j : Nat) : (updF f k x j).length ≤ B := by
 unfold updF
 split
 ·exact hx
 ·exact hf j
def mnOf (nT nI nF nG nE nL nD : Nat) : Nat → Nat
 | 1 => nT | 2 => nI | 3 => nF | 6 => nG | 7 => nE | 9 => nL | 10 => nF | 11 => nD | _ => 0
theorem flat_snoc {α : Type} (t : α → List Int) (L : List α) (j : Nat) (h : j < L.length) : (L.take (j + 1)).flatMap t = (L.take j).flatMap t ++ t L[j] := by
 rw [List.take_succ_eq_append_getElem h, List.flatMap_append]
 simp
theorem flat_take {α : Type} (t : α → List Int) (U : Nat) (L : List α) (j : Nat) (h : ∀ a ∈ L, (t a).length ≤ U) : ((L.take j).flatMap t).length ≤ L.length * U := by
 have h1 := flat_le t U (L.take j) (fun a ha => h a (List.mem_of_mem_take ha))
 have h2 : (L.take j).length * U ≤ L.length * U := Nat.mul_le_mul_right _ (by rw [List.length_take]; omega)
 omega
theorem index12i (M : Array Value) (i : Nat) (hi : i < 12) (v : Value) (h : M[i]? = some v) (w : World) : (Instr.index 141 (.agg M) (.int .i64 (i : Int))).run Tryz.prog w = .ok v w := by
 have hq : (0 : Int) ≤ i ∧ (i : Int) < 12 := by omega
 simp [Instr.index, run_underlying Tryz.underlying141, asIntOf, hq, go_sem]
 rw [if_pos hi, h]
 rfl
theorem index12s (M : Array Value) (i : Nat) (hi : i < 12) (v : Value) (h : M[i]? = some v) (w : World) : (Instr.index 73 (.agg M) (.int .i64 (i : Int))).run Tryz.prog w = .ok v w := by
 have hq : (0 : Int) ≤ i ∧ (i : Int) < 12 := by omega
 simp [Instr.index, run_underlying Tryz.underlying73, asIntOf, hq, go_sem]
 rw [if_pos hi, h]
 rfl
theorem one_result (tmps : Array Value) (W : World) (M : Nat) (C : Array Value) (h2 : tmps.getD 2 undef = .pointer (some ⟨M, 0, none⟩)) (hM : W.heap[M]? = some (.cells C 73 (0, 0))) (hC : (Tryz.prog.info? 73).map (·.size) = some C.size) :
  (results Tryz.f27 tmps).run Tryz.prog W = .ok (.agg C) W := by
 have h2' : tmps[2]?.getD undef = .pointer (some ⟨M, 0, none⟩) := by simpa using h2
 have hl := run_loadVar_row (P := Tryz.prog) W M 73 73 C (0, 0) _ hM Tryz.underlying73 rfl hC
 simp [results, Tryz.results27, h2', asAddr, hl]
theorem many_lst {α β : Type} (t : β → List Int) (f : α → β) (L : List α) (n : Nat) (hn : L.length = n) (c : Prop) [Decidable c] (hc : c ↔ 0 < n) : (if c then uB n ++ L.flatMap (fun d => t (f d)) else L.flatMap (fun d => t (f d))) = lst t (L.map f) := by
 cases L with
 | nil =>
  rw [if_neg (by rw [hc, ← hn]; simp)]
  rfl
 | cons a l =>
  rw [if_pos (by rw [hc, ← hn]; simp)]
  unfold lst tList
  rw [if_neg (by simp), List.length_map, hn, List.flatMap_map]
section
variable (LT : List SigD) (LI : List NamD) (LF : List FunD) (LG : List GloD) (LE : List NamD) (LL : List EleD) (LD : List DatD) (nT nI nF nG nE nL nD : Nat) (t p q s : Int)
theorem secs_eq (F : Nat → List Int) (hF : F = (updF (updF (updF (updF (updF (updF (updF (updF (fun _ => []) 1 (LT.flatMap (fun d : SigD => tSig d.val))) 2 (LI.flatMap (fun d : NamD => tImp d.val))) 3 (LF.flatMap (fun d : FunD => uB d.t.toNat))) 10 (LF.flatMap (fun d : FunD => tCode d.cod))) 6 (LG.flatMap (fun d : GloD => tGlo d.val))) 7 (LE.flatMap (fun d : NamD => tExp d.val))) 9 (LL.flatMap (fun d : EleD => tEle d.val))) 11 (LD.flatMap (fun d : DatD => tDat d.val)))) (hT : LT.length = nT) (hI : LI.length = nI) (hf : LF.length = nF) (hG : LG.length = nG) (hE : LE.length = nE) (hL : LL.length = nL) (hD : LD.length = nD) (k : Nat) (hk : k < 12) (h4 : k ≠ 4) (h5 : k ≠ 5) (h8 : k ≠ 8) : mny (mnOf nT nI nF nG nE nL nD) F 12 k = secC k ⟨LT.map SigD.val, LI.map NamD.val, LF.map FunD.t, t, p, q, LG.map GloD.val, LE.map NamD.val, s, LL.map EleD.val, LF.map FunD.cod, LD.map DatD.val⟩ := by
 subst hF
 rcases twelve hk with rfl | rfl | rfl | rfl | rfl | rfl | rfl | rfl | rfl | rfl | rfl | rfl
 ·rfl
 ·exact many_lst tSig SigD.val LT nT hT _ ⟨fun h => h.2, fun h => ⟨by omega, h⟩⟩
 ·exact many_lst tImp NamD.val LI nI hI _ ⟨fun h => h.2, fun h => ⟨by omega, h⟩⟩
 ·exact many_lst (fun n : Int => uB n.toNat) FunD.t LF nF hf _ ⟨fun h => h.2, fun h => ⟨by omega, h⟩⟩
 ·exact absurd rfl h4
 ·exact absurd rfl h5
 ·exact many_lst tGlo GloD.val LG nG hG _ ⟨fun h => h.2, fun h => ⟨by omega, h⟩⟩
 ·exact many_lst tExp NamD.val LE nE hE _ ⟨fun h => h.2, fun h => ⟨by omega, h⟩⟩
 ·exact absurd rfl h8
 ·exact many_lst tEle EleD.val LL nL hL _ ⟨fun h => h.2, fun h => ⟨by omega, h⟩⟩
 ·exact many_lst tCode FunD.cod LF nF hf _ ⟨fun h => h.2, fun h => ⟨by omega, h⟩⟩
 ·exact many_lst tDat DatD.val LD nD hD _ ⟨fun h => h.2, fun h => ⟨by omega, h⟩⟩
theorem secs_nil (F : Nat → List Int) (hF : F = (updF (updF (updF (updF (updF (updF (updF (updF (fun _ => []) 1 (LT.flatMap (fun d : SigD => tSig d.val))) 2 (LI.flatMap (fun d : NamD => tImp d.val))) 3 (LF.flatMap (fun d : FunD => uB d.t.toNat))) 10 (LF.flatMap (fun d : FunD => tCode d.cod))) 6 (LG.flatMap (fun d : GloD => tGlo d.val))) 7 (LE.flatMap (fun d : NamD => tExp d.val))) 9 (LL.flatMap (fun d : EleD => tEle d.val))) 11 (LD.flatMap (fun d : DatD => tDat d.val)))) (k : Nat) (h : k = 4 ∨ k = 5 ∨ k = 8) : mny (mnOf nT nI nF nG nE nL nD) F 12 k = [] := by
 subst hF
 rcases h with rfl | rfl | rfl <;> rfl
theorem sec4 (h0 : 0 ≤ t) : secC 4 ⟨LT.map SigD.val, LI.map NamD.val, LF.map FunD.t, t, p, q, LG.map GloD.val, LE.map NamD.val, s, LL.map EleD.val, LF.map FunD.cod, LD.map DatD.val⟩ = if 0 < t then uB 1 ++ [112] ++ [0] ++ uB t.toNat else [] := by
 show (if t = 0 then _ else _) = _
 by_cases h : t = 0
 ·rw [if_pos h, if_neg (by omega)]
 ·rw [if_neg h, if_pos (by omega)]
  simp
theorem sec5 (h0 : 0 ≤ q) : secC 5 ⟨LT.map SigD.val, LI.map NamD.val, LF.map FunD.t, t, p, q, LG.map GloD.val, LE.map NamD.val, s, LL.map EleD.val, LF.map FunD.cod, LD.map DatD.val⟩ = if 0 < q then uB 1 ++ [1] ++ uB p.toNat ++ uB q.toNat else [] := by
 show (if q = 0 then _ else _) = _
 by_cases h : q = 0
 ·rw [if_pos h, if_neg (by omega)]
 ·rw [if_neg h, if_pos (by omega)]
  simp
theorem sec8 (h0 : 0 ≤ s) : secC 8 ⟨LT.map SigD.val, LI.map NamD.val, LF.map FunD.t, t, p, q, LG.map GloD.val, LE.map NamD.val, s, LL.map EleD.val, LF.map FunD.cod, LD.map DatD.val⟩ = if 0 < s then uB (s - 1).toNat else [] := by
 show (if s = 0 then _ else _) = _
 by_cases h : s = 0
 ·rw [if_pos h, if_neg (by omega)]
 ·rw [if_neg h, if_pos (by omega)]
end
end Go.Proofs.YtakpkdckajjooaaGreatDoor
namespace Go.Proofs.YtakpkdckajjooaaGreatDoor
set_option linter.unusedVariables false
section
variable {P : Program} {ops : Array Oper} {Q : Exit → Act → World → Prop} {md : Region.Mode} {S : World → Prop} {z : Nat}
def wpZ (P : Program) (md : Region.Mode) (ops : Array Oper) (Q : Exit → Act → World → Prop) (S : World → Prop) (z : Nat) : Nat → Array Bool → Act → World → Prop
 | 0, listed, a, w => Region.ready md ops listed = [] ∧ Q .normal a w
 | fuel + 1, listed, a, w => (Region.ready md ops listed = [] → Q .normal a w) ∧ ∀ i ∈ Region.ready md ops listed, wpOp P ops Q i (fun a' w' => ((listed.setIfInBounds i true).getD z true = false → S w') ∧ wpZ P md ops Q S z fuel (listed.setIfInBounds i true) a' w') a w
theorem wpZ_any : ∀ (fuel : Nat) (listed : Array Bool) (a : Act) (w : World), wpZ P md ops Q S z fuel listed a w → wpAny P md ops Q fuel listed a w
 | 0, _, _, _, h => h
 | fuel + 1, _, _, _, h => ⟨h.1, fun i hi => wpOp_mono (fun a' w' h' => wpZ_any fuel _ a' w' h'.2) (h.2 i hi)⟩
theorem wp_region_z {id : Nat} {a : Act} {w : World} (hm : P.follows .mixedOrders = true) (h : wpZ P .any ops Q S z ops.size (Array.replicate ops.size false) a w.drew) : (Code.region id ops true).wp P Q a w :=
 wp_region_any hm (wpZ_any _ _ _ _ h)
theorem wpZ_first {i : Nat} {oi : Oper} {v : Value} (Si : World → Prop) (Inv : Array Bool → Prop) (hz : i ≠ z) (hi : ops[i]? = some oi) (hsel : Region.noSelect ops = true)
  (hQ : ∀ c a w, Q (.panic c) (a.put oi.dst v) w → Q (.panic c) a w)
  (hInv : ∀ listed j, Inv listed → i ∈ Region.ready md ops listed → j ∈ Region.ready md ops listed → j ≠ i → Inv (listed.setIfInBounds j true) ∧ ∀ w', ((listed.setIfInBounds j true).getD z true = false → S w') → Si w') :
  ∀ (fuel : Nat) (listed : Array Bool) (a : Act) (w : World),
   (∀ j oj, ops[j]? = some oj → j ≠ i → listed.getD j true = false → (∀ e ∈ oj.after, Region.binds md e = true → e.on ≠ i) → oi.apart ops oj = true) →
   i ∈ Region.ready md ops listed → YieldsIf P ops Si oi v a → (listed.getD z true = false → S w) → Si w → Inv listed → wpZ P md ops Q S z fuel (listed.setIfInBounds i true) (a.put oi.dst v) w → wpZ P md ops Q S z (fuel + 1) listed a w := by
 have self : ∀ (listed : Array Bool) (w : World), (listed.getD z true = false → S w) → (listed.setIfInBounds i true).getD z true = false → S w := fun listed w h h2 => h (by rw [getD_set_ne true hz] at h2; exact h2)
 intro fuel
 induction fuel with
 | zero =>
  intro listed a w _ hr hy hS hSi _ H
  refine ⟨fun h => (by rw [h] at hr; cases hr), fun j hj => ?_⟩
  by_cases hji : j = i
  ·subst hji
   exact hy.wpOp hi hSi ⟨self listed w hS, H⟩
  ·have := ready_mono hj hji
   rw [H.1] at this
   cases this
 | succ fuel ih =>
  intro listed a w hfree hr hy hS hSi hI H
  refine ⟨fun h => (by rw [h] at hr; cases hr), fun j hj => ?_⟩
  by_cases hji : j = i
  ·subst hji
   exact hy.wpOp hi hSi ⟨self listed w hS, H⟩
  ·obtain ⟨hI2, hSj⟩ := hInv listed j hI hr hj hji
   have h1 := H.2 j (ready_mono hj hji)
   obtain ⟨hjun, oj, hoj, hall⟩ := mem_ready.1 hj
   have hnot : ∀ e ∈ oj.after, Region.binds md e = true → e.on ≠ i := fun e he hb heq => by
    have h1 := hall e he hb
    have h0 := (mem_ready.1 hr).1
    rw [heq] at h1
    rw [Array.getD_eq_getD_getElem?] at h0 h1
    cases hg : listed[i]? with
    | none => rw [hg] at h1; cases h1
    | some b => rw [hg] at h0 h1; simp at h0 h1; rw [h0] at h1; cases h1
   have h2 := wpOp_putIf hoj (hfree j oj hoj hji hjun hnot) (fun cs b => Region.noSelect_spec hsel i oi cs b hi) (fun cs b => Region.noSelect_spec hsel j oj cs b hoj) hQ hy h1
   have hfree' : ∀ k ok, ops[k]? = some ok → k ≠ i → (listed.setIfInBounds j true).getD k true = false → (∀ e ∈ ok.after, Region.binds md e = true → e.on ≠ i) → oi.apart ops ok = true := fun k ok hk hki hun hno => by
    refine hfree k ok hk hki ?_ hno
    by_cases hjk : j = k
    ·subst hjk; exact hjun
    ·rw [getD_set_ne true hjk] at hun; exact hun
   refine wpOp_mono (fun a' w' h3 => ?_) h2
   have hS' : (listed.setIfInBounds j true).getD z true = false → S w' := fun hq => h3.2.1 (by rw [Array.setIfInBounds_comm _ _ (Ne.symm hji), getD_set_ne true hz]; exact hq)
   refine ⟨hS', ih (listed.setIfInBounds j true) a' w' hfree' (ready_mono hr (Ne.symm hji)) h3.1 hS' (hSj w' hS') hI2 ?_⟩
   rw [Array.setIfInBounds_comm _ _ hji]
   exact h3.2.2
def waitB (md : Region.Mode) (ops : Array Oper) (i : Nat) (p : List Nat) : Bool := p.all fun g => (ops[g]?).any fun o => o.after.any fun e => Region.binds md e && (e.on == i || p.contains e.on)
theorem wpZ_load {i : Nat} (p : List Nat) {oi : Oper} {v : Value} {fuel : Nat} {listed : Array Bool} {a a' : Act} {w : World} (hl : ops.toList[i]? = some oi)
  (hs : Region.noSelect ops = true) (hf : Region.free md ops listed i = true) (hr : (Region.ready md ops listed).contains i = true) (hp : waitB md ops i p = true) (hu : (p.all fun g => !listed.getD g true) = true) (hzp : (p.contains z && !(i == z)) = true)
  (hQ : ∀ c a w, Q (.panic c) (a.put oi.dst v) w → Q (.panic c) a w) (hy : YieldsIf P ops S oi v a) (hS : S w)
  (h : wpZ P md ops Q S z fuel (listed.setIfInBounds i true) a' w) (ha : a.put oi.dst v = a' := by first | (simp only [Act.put, List.setIfInBounds_toArray, List.set_cons_zero, List.set_cons_succ]; done) | (simp only [Act.put, List.setIfInBounds_toArray, List.set_cons_zero, List.set_cons_succ]; rfl) | rfl) : wpZ P md ops Q S z (fuel + 1) listed a w := by
 have hi : ops[i]? = some oi := by rw [← hl, Array.getElem?_toList]
 subst ha
 simp only [Bool.and_eq_true, Bool.not_eq_true', beq_eq_false_iff_ne, List.contains_eq_mem, decide_eq_true_eq] at hzp
 refine wpZ_first S (fun l => ∀ g ∈ p, l.getD g true = false) hzp.2 hi hs hQ ?_ fuel listed a w (Region.free_spec hi hf) (by simpa using hr) hy (fun _ => hS) hS (fun g hg => by simpa using List.all_eq_true.1 hu g hg) h
 intro l j hI hri hrj hji
 have hjp : j ∉ p := fun hjp => by
  obtain ⟨_, o, ho, hall⟩ := mem_ready.1 hrj
  have hw := List.all_eq_true.1 hp j hjp
  rw [ho] at hw
  simp only [Option.any_some] at hw
  obtain ⟨e, he, hb⟩ := Array.any_eq_true'.1 hw
  simp only [Bool.and_eq_true, Bool.or_eq_true, beq_iff_eq, List.contains_eq_mem, decide_eq_true_eq] at hb
  have hl := hall e he hb.1
  have hn : l.getD e.on true = false := by
   rcases hb.2 with q | q
   ·rw [q]; exact (mem_ready.1 hri).1
   ·exact hI _ q
  rw [Array.getD_eq_getD_getElem?] at hl hn
  cases hg : l[e.on]? with
  | none => rw [hg] at hl; cases hl
  | some b => rw [hg] at hl hn; simp at hl hn; rw [hl] at hn; cases hn
 have hI2 : ∀ g ∈ p, (l.setIfInBounds j true).getD g true = false := fun g hg => by
  rw [getD_set_ne true (fun e => hjp (by rw [e]; exact hg))]
  exact hI g hg
 exact ⟨hI2, fun w' hq => hq (hI2 z hzp.1)⟩
theorem wpZ_take {i : Nat} {oi : Oper} {v : Value} {fuel : Nat} {listed : Array Bool} {a a' : Act} {w : World} (hl : ops.toList[i]? = some oi)
  (hs : Region.noSelect ops = true) (hf : Region.free md ops listed i = true) (hr : (Region.ready md ops listed).contains i = true) (hz : (!(i == z)) = true)
  (hQ : ∀ c a w, Q (.panic c) (a.put oi.dst v) w → Q (.panic c) a w) (hy : YieldsIf P ops (fun _ => True) oi v a) (hS : S w)
  (h : wpZ P md ops Q S z fuel (listed.setIfInBounds i true) a' w) (ha : a.put oi.dst v = a' := by first | (simp only [Act.put, List.setIfInBounds_toArray, List.set_cons_zero, List.set_cons_succ]; done) | (simp only [Act.put, List.setIfInBounds_toArray, List.set_cons_zero, List.set_cons_succ]; rfl) | rfl) : wpZ P md ops Q S z (fuel + 1) listed a w := by
 have hi : ops[i]? = some oi := by rw [← hl, Array.getElem?_toList]
 subst ha
 exact wpZ_first (fun _ => True) (fun _ => True) (by simpa using hz) hi hs hQ (fun _ _ _ _ _ _ => ⟨trivial, fun _ _ => trivial⟩) fuel listed a w (Region.free_spec hi hf) (by simpa using hr) hy (fun _ => hS) trivial trivial h
theorem wpZ_one {i : Nat} {oi : Oper} {fuel : Nat} {listed : Array Bool} {a : Act} {w : World} (hl : ops.toList[i]? = some oi) (hr : Region.ready md ops listed = [i]) (hw : Region.wanted oi (yielded ops a.tmps) = true)
  (h : ∀ (K : Act → World → Prop) (R : Exit → Act → World → Prop), Shut (∀ a w, S w → (S w → wpZ P md ops Q S z fuel (listed.setIfInBounds i true) a w) → K a w) → Oper.wp P oi a w K R) : wpZ P md ops Q S z (fuel + 1) listed a w := by
 have hi : ops[i]? = some oi := by rw [← hl, Array.getElem?_toList]
 refine ⟨fun h0 => (by rw [hr] at h0; cases h0), fun j hj => ?_⟩
 rw [hr, List.mem_singleton] at hj
 subst hj
 exact wpOp_step hi (fun K hK => by rw [if_pos hw]; exact h K Q (fun a w hS hW => hK a w ⟨fun _ => hS, hW hS⟩))
theorem wpZ_call {i f : Nat} {args : Array Value} {C : Ending → World → Prop} {oi : Oper} {fuel : Nat} {listed : Array Bool} {a : Act} {w : World} (hl : ops.toList[i]? = some oi) (hr : Region.ready md ops listed = [i]) (hw : Region.wanted oi (yielded ops a.tmps) = true)
  (he : (execOp a.eval oi).run P w = .ok (.enter f args) w) (hc : Calls P f args w C) (h : ∀ r w', C r w' → ∃ v, r = .returned v ∧ S w' ∧ (S w' → wpZ P md ops Q S z fuel (listed.setIfInBounds i true) (a.put oi.dst v) w')) : wpZ P md ops Q S z (fuel + 1) listed a w := by
 refine wpZ_one hl hr hw (fun K R hK => ?_)
 unfold Oper.wp
 rw [he, Oper.upon_enter]
 refine hc.mono (fun r w' hC => ?_)
 obtain ⟨v, rfl, hS, hW⟩ := h r w' hC
 exact hK.out _ _ hS hW
theorem wpZ_put {fuel : Nat} {listed : Array Bool} {a a' : Act} {w : World} (h : wpZ P md ops Q S z fuel listed a' w)
  (ha : a = a' := by first | (simp only [Act.put, List.setIfInBounds_toArray, List.set_cons_zero, List.set_cons_succ]; done) | (simp only [Act.put, List.setIfInBounds_toArray, List.set_cons_zero, List.set_cons_succ]; rfl) | rfl) : wpZ P md ops Q S z fuel listed a w := by
 subst ha
 exact h
theorem wpZ_last {oi : Oper} {fuel : Nat} {listed : Array Bool} {a : Act} {w : World} (hl : ops.toList[z]? = some oi) (hr : Region.ready md ops listed = [z]) (hlt : decide (z < listed.size) = true) (hd : Region.ready md ops (listed.setIfInBounds z true) = []) (hw : Region.wanted oi (yielded ops a.tmps) = true)
  (h : ∀ (K : Act → World → Prop) (R : Exit → Act → World → Prop), Shut (∀ a w, Q .normal a w → K a w) → Oper.wp P oi a w K R) : wpZ P md ops Q S z (fuel + 1) listed a w := by
 have hi : ops[z]? = some oi := by rw [← hl, Array.getElem?_toList]
 refine ⟨fun h0 => (by rw [hr] at h0; cases h0), fun j hj => ?_⟩
 rw [hr, List.mem_singleton] at hj
 subst hj
 refine wpOp_step hi (fun K hK => by
  rw [if_pos hw]
  refine h K Q (fun a w hq => hK a w ⟨fun hb => ?_, ?_⟩)
  ·rw [Array.getD_eq_getD_getElem?] at hb
   simp [of_decide_eq_true hlt] at hb
  ·cases fuel with
   | zero => exact ⟨hd, hq⟩
   | succ n => exact ⟨fun _ => hq, by rw [hd]; simp⟩)
end
end Go.Proofs.YtakpkdckajjooaaGreatDoor
