/-
  The document's own words as words of W bits.
  What the document's own reckon does: bits.
-/
import Derived.Test.YtkceplamaocmmaaGreatDoorZNB
import Derived.Test.YtkceplamaocmmaaGreatDoorZNC
import Derived.Test.YtkceplamaocmmaaGreatDoorZGNum
namespace Go.Proofs.YtkceplamaocmmaaGreatDoor
set_option linter.unusedVariables false
open Go.RowKit
def bvOf (W : Nat) (bs : List Bool) : BitVec W := BitVec.ofInt W (wval bs)
theorem bv_nat (W : Nat) (bs : List Bool) (h : bs.length = W) : ((bvOf W bs).toNat : Int) = wval bs := by
  have hb := wval_bound bs
  unfold bvOf
  rw [BitVec.toNat_ofInt, h] at *
  rw [Int.natCast_pow, show ((2 : Nat) : Int) = 2 from rfl, Int.emod_eq_of_lt hb.1 hb.2]
  omega
def wnat : List Bool → Nat
  | [] => 0
  | b :: r => (if b then 1 else 0) + 2 * wnat r
theorem wnat_val : ∀ l : List Bool, (wnat l : Int) = wval l
  | [] => rfl
  | b :: r => by
    have := wnat_val r
    rw [wnat, wval]
    cases b <;> simp <;> omega
theorem wnat_bit : ∀ (l : List Bool) (i : Nat), (wnat l).testBit i = l.getD i false
  | [], i => by simp [wnat]
  | b :: r, 0 => by
    rw [wnat, Nat.testBit_zero]
    cases b <;> simp <;> omega
  | b :: r, i + 1 => by
    rw [wnat, Nat.testBit_succ]
    have : ((if b then 1 else 0) + 2 * wnat r) / 2 = wnat r := by cases b <;> simp <;> omega
    rw [this, wnat_bit r i]; simp
theorem bv_bit (W : Nat) (bs : List Bool) (h : bs.length = W) (i : Nat) : (bvOf W bs).getLsbD i = bs.getD i false := by
  have e : (bvOf W bs).toNat = wnat bs := by
    have h1 := bv_nat W bs h
    have h2 := wnat_val bs
    omega
  rw [BitVec.getLsbD, e, wnat_bit]
theorem bv_msb (W : Nat) (bs : List Bool) (h : bs.length = W) : (bvOf W bs).msb = bs.getD (W - 1) false := by
  rw [BitVec.msb_eq_getLsbD_last, bv_bit W bs h]
theorem bv_int (W : Nat) (bs : List Bool) (h : bs.length = W) : (bvOf W bs).toInt = wsgn bs := by
  rw [BitVec.toInt_eq_msb_cond, bv_msb W bs h, bv_nat W bs h, wsgn, h]
  split <;> simp
theorem bv_word (W : Nat) (a : Int) : bvOf W (wordB a W) = BitVec.ofInt W a := by
  apply BitVec.eq_of_toNat_eq
  have := bv_nat W (wordB a W) (wordB_length a W)
  rw [wval_word] at this
  rw [BitVec.toNat_ofInt, Int.natCast_pow]
  rw [show ((2 : Nat) : Int) = 2 from rfl]
  omega
theorem bv_of (W : Nat) (x : Int) (bs : List Bool) (h : wval bs = x % 2 ^ W) : bvOf W bs = BitVec.ofInt W x := by
  unfold bvOf
  rw [h]
  apply BitVec.eq_of_toInt_eq
  rw [BitVec.toInt_ofInt, BitVec.toInt_ofInt]
  have := Int.emod_bmod (x := x) (n := 2 ^ W)
  rw [Int.natCast_pow] at this
  exact this
theorem bv_by (W : Nat) (f : Nat → Bool) (X : BitVec W) (h : ∀ i, i < W → f i = X.getLsbD i) : bvOf W (byBit W f) = X := by
  apply BitVec.eq_of_getLsbD_eq
  intro i hi
  rw [bv_bit W _ (byBit_length W f)]
  simp [byBit, List.getD_eq_getElem?_getD, hi, h i hi]
def IsV (W : Nat) (w : World) (v : Value) (X : BitVec W) : Prop := ∃ bs, IsW w v bs ∧ bs.length = W ∧ bvOf W bs = X
theorem IsV.below {W : Nat} {w w' : World} {v : Value} {X : BitVec W} (h : IsV W w v X) (hb : Below w.heap.size w w') : IsV W w' v X := by
  obtain ⟨bs, h1, h2, h3⟩ := h
  exact ⟨bs, h1.below hb, h2, h3⟩
theorem IsV.form {W : Nat} {w : World} {v : Value} {X : BitVec W} (h : IsV W w v X) (h1 : 1 ≤ W) : ∃ g cap, v = .slice (some ⟨g, 0, none⟩) W cap ∧ W ≤ cap ∧ cap ≤ maxLen ∧ w.cell? ⟨g, W - 1, none⟩ = some (.bool X.msb) := by
  obtain ⟨bs, ⟨g, cap, e, hc, hm, hg, hcs⟩, hl, rfl⟩ := h
  rw [hl] at e hc
  exact ⟨g, cap, e, hc, hm, by rw [hcs (W - 1) (by omega), bv_msb W bs hl]⟩
theorem wordV (W : Nat) (a : Int) (h1 : 1 ≤ W) (h64 : W ≤ 64) (w : World) :
    Calls Tryz.prog 36 #[.int .i64 a, .int .i64 W] w fun e w' => ∃ v, e = .returned v ∧ IsV W w' v (BitVec.ofInt W a) ∧ Below w.heap.size w w' := by
  refine (wordOf_any a W h1 h64 w).mono ?_
  rintro e w1 ⟨v, rfl, hv, hb⟩
  exact ⟨v, rfl, ⟨_, hv, wordB_length a W, bv_word W a⟩, hb⟩
theorem valueV (W : Nat) (v : Value) (X : BitVec W) (w : World) (hv : IsV W w v X) (h1 : 1 ≤ W) (h64 : W ≤ 64) :
    Calls Tryz.prog 40 #[v] w fun e w' => e = .returned (.int .i64 X.toInt) ∧ w' = w := by
  obtain ⟨bs, h, hl, rfl⟩ := hv
  rw [bv_int W bs hl]
  exact value_any v bs w h (by omega) (by omega)
theorem noneV (W : Nat) (v : Value) (X : BitVec W) (w : World) (hv : IsV W w v X) :
    Calls Tryz.prog 38 #[v] w fun e w' => e = .returned (.bool (decide (X.toInt = 0))) ∧ w' = w := by
  obtain ⟨bs, h, hl, rfl⟩ := hv
  have e : bs.all (! ·) = decide ((bvOf W bs).toInt = 0) := by
    rw [Bool.eq_iff_iff, decide_eq_true_iff, toNat_zero]
    constructor
    · intro hz
      have : ∀ l : List Bool, l.all (! ·) = true → wval l = 0 := by
        intro l
        induction l with
        | nil => intro _; rfl
        | cons b r ih =>
          intro hh
          rw [List.all_cons, Bool.and_eq_true] at hh
          rw [wval, ih hh.2]
          cases b <;> simp_all
      have h1 := this bs hz
      have h2 := bv_nat W bs hl
      omega
    · intro hz
      rw [List.all_eq_true]
      intro x hx
      obtain ⟨i, hi, rfl⟩ := List.mem_iff_getElem.1 hx
      have hb := bv_bit W bs hl i
      rw [BitVec.getLsbD, hz, Nat.zero_testBit, List.getD_eq_getElem?_getD, List.getElem?_eq_getElem hi, Option.getD_some] at hb
      rw [← hb]; rfl
  rw [← e]
  exact none_any v bs w h
theorem plainV (W : Nat) (v : Value) (X : BitVec W) (w : World) (hv : IsV W w v X) (h64 : W ≤ 64) :
    Calls Tryz.prog 41 #[v] w fun e w' => e = .returned (.int .u64 (X.toNat : Int)) ∧ w' = w := by
  obtain ⟨bs, h, hl, rfl⟩ := hv
  rw [bv_nat W bs hl]
  exact plainW_any v bs w h (by omega)
theorem addV (W : Nat) (u v : Value) (X Y : BitVec W) (c : Bool) (w : World) (hu : IsV W w u X) (hv : IsV W w v Y) (h1 : 1 ≤ W) (h64 : W ≤ 64) :
    Calls Tryz.prog 61 #[u, v, .bool c] w fun e w' => ∃ v', e = .returned v' ∧ IsV W w' v' (X + Y + (if c then 1 else 0)) ∧ Below w.heap.size w w' := by
  obtain ⟨bs, hb, hl, rfl⟩ := hu
  obtain ⟨cs, hc, hl', rfl⟩ := hv
  refine (addW u v bs cs c w hb hc (by omega) (by omega) (by omega)).mono ?_
  rintro e w1 ⟨v1, ds, rfl, h, HD, hbl⟩
  refine ⟨v1, rfl, ⟨ds, h, by rw [HD.out.1, hl], ?_⟩, hbl⟩
  rw [bv_of W _ ds (by rw [HD.out.2, hl])]
  rw [BitVec.ofInt_add, BitVec.ofInt_add]
  cases c <;> rfl
theorem notV (W : Nat) (v : Value) (X : BitVec W) (w : World) (hv : IsV W w v X) (h1 : 1 ≤ W) (h64 : W ≤ 64) :
    Calls Tryz.prog 62 #[v] w fun e w' => ∃ v', e = .returned v' ∧ IsV W w' v' (~~~X) ∧ Below w.heap.size w w' := by
  obtain ⟨bs, hb, hl, rfl⟩ := hv
  refine (not_any v bs w hb (by omega) (by omega)).mono ?_
  rintro e w1 ⟨v1, rfl, h, hbl⟩
  refine ⟨v1, rfl, ⟨_, h, by rw [List.length_map, hl], ?_⟩, hbl⟩
  apply BitVec.eq_of_getLsbD_eq
  intro i hi
  rw [bv_bit W _ (by rw [List.length_map, hl]), BitVec.getLsbD_not, bv_bit W bs hl]
  simp [List.getD_eq_getElem?_getD, List.getElem?_eq_getElem (show i < bs.length by omega), hi]
theorem timesV (W : Nat) (u v : Value) (X Y : BitVec W) (w : World) (hu : IsV W w u X) (hv : IsV W w v Y) (h1 : 1 ≤ W) (h64 : W ≤ 64) :
    Calls Tryz.prog 63 #[u, v] w fun e w' => ∃ v', e = .returned v' ∧ IsV W w' v' (X * Y) ∧ Below w.heap.size w w' := by
  obtain ⟨bs, hb, hl, rfl⟩ := hu
  obtain ⟨cs, hc, hl', rfl⟩ := hv
  refine (times_any u v bs cs w hb hc (by omega) (by omega) (by omega)).mono ?_
  rintro e w1 ⟨v1, ds, rfl, h, HD, hbl⟩
  refine ⟨v1, rfl, ⟨ds, h, by rw [HD.out.1, hl], ?_⟩, hbl⟩
  rw [bv_of W _ ds (by rw [HD.out.2, hl]), BitVec.ofInt_mul]; rfl
theorem neg_bv (W : Nat) (bs : List Bool) (h : bs.length = W) : bvOf W (negL bs) = - bvOf W bs ∧ (negL bs).length = W := by
  have hl : (bs.map (! ·)).length = (List.replicate bs.length false).length := by simp
  have e := addL_val (bs.map (! ·)) (List.replicate bs.length false) true hl
  have e2 := addL_length (bs.map (! ·)) (List.replicate bs.length false) true hl
  rw [List.length_map, h] at e e2
  refine ⟨?_, by unfold negL; rw [h]; exact e2⟩
  rw [bv_of W (- wval bs) (negL bs) ?_, BitVec.ofInt_neg]; rfl
  unfold negL
  rw [h, e, wval_not, wval_zeros, h]
  simp only [if_true]
  rw [show (2 : Int) ^ W - 1 - wval bs + 0 + 1 = - wval bs + 2 ^ W by omega, Int.add_emod_right]
theorem minusV (W : Nat) (v : Value) (X : BitVec W) (w : World) (hv : IsV W w v X) (h1 : 1 ≤ W) (h64 : W ≤ 64) :
    Calls Tryz.prog 66 #[v] w fun e w' => ∃ v', e = .returned v' ∧ IsV W w' v' (-X) ∧ Below w.heap.size w w' := by
  obtain ⟨bs, hb, hl, rfl⟩ := hv
  refine (minus_any v bs w hb (by omega) (by omega)).mono ?_
  rintro e w1 ⟨v1, rfl, h, hbl⟩
  exact ⟨v1, rfl, ⟨_, h, (neg_bv W bs hl).2, (neg_bv W bs hl).1⟩, hbl⟩
theorem sizeV (W : Nat) (v : Value) (X : BitVec W) (w : World) (hv : IsV W w v X) (h1 : 1 ≤ W) (h64 : W ≤ 64) :
    Calls Tryz.prog 64 #[v] w fun e w' => ∃ v', e = .returned v' ∧ IsV W w' v' (if X.msb then -X else X) ∧ Below w.heap.size w w' := by
  obtain ⟨bs, hb, hl, rfl⟩ := hv
  refine (size_any v bs w hb (by omega) (by omega)).mono ?_
  rintro e w1 ⟨v1, rfl, h, hbl⟩
  refine ⟨v1, rfl, ?_, hbl⟩
  rw [bv_msb W bs hl]
  rw [hl] at h
  cases hc : bs.getD (W - 1) false with
  | true => rw [hc] at h; exact ⟨_, h, (neg_bv W bs hl).2, (neg_bv W bs hl).1⟩
  | false => rw [hc] at h; exact ⟨_, h, hl, rfl⟩
theorem splitV (W : Nat) (u v : Value) (X Y : BitVec W) (w : World) (hu : IsV W w u X) (hv : IsV W w v Y) (h1 : 1 ≤ W) (h64 : W ≤ 64) (hY : ¬ Y.toInt = 0) :
    Calls Tryz.prog 65 #[u, v] w fun e w' => ∃ q r, e = .returned (.tuple #[q, r]) ∧ IsV W w' q (X / Y) ∧ IsV W w' r (X % Y) ∧ Below w.heap.size w w' := by
  obtain ⟨bs, hb, hl, rfl⟩ := hu
  obtain ⟨cs, hc, hl', rfl⟩ := hv
  have n1 := bv_nat W bs hl
  have n2 := bv_nat W cs hl'
  have hY' : ¬ (bvOf W cs).toNat = 0 := fun h => hY ((toNat_zero _).2 h)
  refine (split_any u v bs cs w hb hc (by omega) (by omega) (by omega) (by omega)).mono ?_
  rintro e w1 ⟨q, r, qs, rs, rfl, hq, hr, HD, hbl⟩
  obtain ⟨d1, d2, d3, d4⟩ := HD.out
  refine ⟨q, r, rfl, ⟨qs, hq, by omega, ?_⟩, ⟨rs, hr, by omega, ?_⟩, hbl⟩
  · apply BitVec.eq_of_toNat_eq
    have m1 := bv_nat W qs (by omega)
    rw [BitVec.toNat_udiv]
    rw [d3, ← n1, ← n2, ← Int.natCast_ediv] at m1
    omega
  · apply BitVec.eq_of_toNat_eq
    have m1 := bv_nat W rs (by omega)
    rw [BitVec.toNat_umod]
    rw [d4, ← n1, ← n2, ← Int.natCast_emod] at m1
    omega
end Go.Proofs.YtkceplamaocmmaaGreatDoor
namespace Go.Proofs.YtkceplamaocmmaaGreatDoor
set_option linter.unusedVariables false
open Go.RowKit
theorem bitV_7 (W : Nat) (u v : Value) (X Y : BitVec W) (n : Nat) (w : World) (hu : IsV W w u X) (hv : IsV W w v Y) (h1 : 1 ≤ W) (h64 : W ≤ 64) (hn : n < W) :
    Calls Tryz.prog 67 #[.int .i64 7, u, v, .int .i64 n] w fun e w' => ∃ v', e = .returned v' ∧ IsV W w' v' (X &&& Y) ∧ Below w.heap.size w w' := by
  obtain ⟨bs, hb, hl, rfl⟩ := hu
  obtain ⟨cs, hc, hl', rfl⟩ := hv
  refine (bit7_any u v bs cs n w hb hc (by omega) (by omega) (by omega) (by omega)).mono ?_
  rintro e w1 ⟨v1, rfl, h, hbl⟩
  refine ⟨v1, rfl, ⟨_, h, by rw [byBit_length, hl], ?_⟩, hbl⟩
  have e : bvOf W (byBit bs.length (fun i => bs.getD i false && cs.getD i false)) = (bvOf W bs) &&& (bvOf W cs) := by
    rw [show byBit bs.length (fun i => bs.getD i false && cs.getD i false) = byBit W (fun i => bs.getD i false && cs.getD i false) by rw [hl]]
    exact bv_by W _ _ (fun i hi => by
    rw [BitVec.getLsbD_and, bv_bit W bs hl, bv_bit W cs hl'])
  exact e
theorem bitV_8 (W : Nat) (u v : Value) (X Y : BitVec W) (n : Nat) (w : World) (hu : IsV W w u X) (hv : IsV W w v Y) (h1 : 1 ≤ W) (h64 : W ≤ 64) (hn : n < W) :
    Calls Tryz.prog 67 #[.int .i64 8, u, v, .int .i64 n] w fun e w' => ∃ v', e = .returned v' ∧ IsV W w' v' (X ||| Y) ∧ Below w.heap.size w w' := by
  obtain ⟨bs, hb, hl, rfl⟩ := hu
  obtain ⟨cs, hc, hl', rfl⟩ := hv
  refine (bit8_any u v bs cs n w hb hc (by omega) (by omega) (by omega) (by omega)).mono ?_
  rintro e w1 ⟨v1, rfl, h, hbl⟩
  refine ⟨v1, rfl, ⟨_, h, by rw [byBit_length, hl], ?_⟩, hbl⟩
  have e : bvOf W (byBit bs.length (fun i => bs.getD i false || cs.getD i false)) = (bvOf W bs) ||| (bvOf W cs) := by
    rw [show byBit bs.length (fun i => bs.getD i false || cs.getD i false) = byBit W (fun i => bs.getD i false || cs.getD i false) by rw [hl]]
    exact bv_by W _ _ (fun i hi => by
    rw [BitVec.getLsbD_or, bv_bit W bs hl, bv_bit W cs hl'])
  exact e
theorem bitV_9 (W : Nat) (u v : Value) (X Y : BitVec W) (n : Nat) (w : World) (hu : IsV W w u X) (hv : IsV W w v Y) (h1 : 1 ≤ W) (h64 : W ≤ 64) (hn : n < W) :
    Calls Tryz.prog 67 #[.int .i64 9, u, v, .int .i64 n] w fun e w' => ∃ v', e = .returned v' ∧ IsV W w' v' (X ^^^ Y) ∧ Below w.heap.size w w' := by
  obtain ⟨bs, hb, hl, rfl⟩ := hu
  obtain ⟨cs, hc, hl', rfl⟩ := hv
  refine (bit9_any u v bs cs n w hb hc (by omega) (by omega) (by omega) (by omega)).mono ?_
  rintro e w1 ⟨v1, rfl, h, hbl⟩
  refine ⟨v1, rfl, ⟨_, h, by rw [byBit_length, hl], ?_⟩, hbl⟩
  have e : bvOf W (byBit bs.length (fun i => bs.getD i false != cs.getD i false)) = (bvOf W bs) ^^^ (bvOf W cs) := by
    rw [show byBit bs.length (fun i => bs.getD i false != cs.getD i false) = byBit W (fun i => bs.getD i false != cs.getD i false) by rw [hl]]
    exact bv_by W _ _ (fun i hi => by
    rw [BitVec.getLsbD_xor, bv_bit W bs hl, bv_bit W cs hl'])
  exact e
theorem bitV_10 (W : Nat) (u v : Value) (X Y : BitVec W) (n : Nat) (w : World) (hu : IsV W w u X) (hv : IsV W w v Y) (h1 : 1 ≤ W) (h64 : W ≤ 64) (hn : n < W) :
    Calls Tryz.prog 67 #[.int .i64 10, u, v, .int .i64 n] w fun e w' => ∃ v', e = .returned v' ∧ IsV W w' v' (X <<< n) ∧ Below w.heap.size w w' := by
  obtain ⟨bs, hb, hl, rfl⟩ := hu
  obtain ⟨cs, hc, hl', rfl⟩ := hv
  refine (bit10_any u v bs cs n w hb hc (by omega) (by omega) (by omega) (by omega)).mono ?_
  rintro e w1 ⟨v1, rfl, h, hbl⟩
  refine ⟨v1, rfl, ⟨_, h, by rw [byBit_length, hl], ?_⟩, hbl⟩
  have e : bvOf W (byBit bs.length (fun i => decide (n ≤ i) && bs.getD (i - n) false)) = (bvOf W bs) <<< n := by
    rw [show byBit bs.length (fun i => decide (n ≤ i) && bs.getD (i - n) false) = byBit W (fun i => decide (n ≤ i) && bs.getD (i - n) false) by rw [hl]]
    exact bv_by W _ _ (fun i hi => by
    rw [BitVec.getLsbD_shiftLeft, bv_bit W bs hl]
    by_cases h : n ≤ i <;> simp [hi, h] <;> omega)
  exact e
theorem bitV_11 (W : Nat) (u v : Value) (X Y : BitVec W) (n : Nat) (w : World) (hu : IsV W w u X) (hv : IsV W w v Y) (h1 : 1 ≤ W) (h64 : W ≤ 64) (hn : n < W) :
    Calls Tryz.prog 67 #[.int .i64 11, u, v, .int .i64 n] w fun e w' => ∃ v', e = .returned v' ∧ IsV W w' v' (X.sshiftRight n) ∧ Below w.heap.size w w' := by
  obtain ⟨bs, hb, hl, rfl⟩ := hu
  obtain ⟨cs, hc, hl', rfl⟩ := hv
  refine (bit11_any u v bs cs n w hb hc (by omega) (by omega) (by omega) (by omega)).mono ?_
  rintro e w1 ⟨v1, rfl, h, hbl⟩
  refine ⟨v1, rfl, ⟨_, h, by rw [byBit_length, hl], ?_⟩, hbl⟩
  have e : bvOf W (byBit bs.length (fun i => bs.getD (min (bs.length - 1) (i + n)) false)) = (bvOf W bs).sshiftRight n := by
    rw [show byBit bs.length (fun i => bs.getD (min (bs.length - 1) (i + n)) false) = byBit W (fun i => bs.getD (min (bs.length - 1) (i + n)) false) by rw [hl]]
    exact bv_by W _ _ (fun i hi => by
    rw [BitVec.getLsbD_sshiftRight, bv_msb W bs hl]
    by_cases h : n + i < W
    · rw [if_pos h, bv_bit W bs hl, hl, Nat.min_eq_right (by omega), Nat.add_comm i n]; simp; omega
    · rw [if_neg h, hl, Nat.min_eq_left (by omega)]; simp; omega)
  exact e
theorem bitV_12 (W : Nat) (u v : Value) (X Y : BitVec W) (n : Nat) (w : World) (hu : IsV W w u X) (hv : IsV W w v Y) (h1 : 1 ≤ W) (h64 : W ≤ 64) (hn : n < W) :
    Calls Tryz.prog 67 #[.int .i64 12, u, v, .int .i64 n] w fun e w' => ∃ v', e = .returned v' ∧ IsV W w' v' (X >>> n) ∧ Below w.heap.size w w' := by
  obtain ⟨bs, hb, hl, rfl⟩ := hu
  obtain ⟨cs, hc, hl', rfl⟩ := hv
  refine (bit12_any u v bs cs n w hb hc (by omega) (by omega) (by omega) (by omega)).mono ?_
  rintro e w1 ⟨v1, rfl, h, hbl⟩
  refine ⟨v1, rfl, ⟨_, h, by rw [byBit_length, hl], ?_⟩, hbl⟩
  have e : bvOf W (byBit bs.length (fun i => decide (i + n < bs.length) && bs.getD (i + n) false)) = (bvOf W bs) >>> n := by
    rw [show byBit bs.length (fun i => decide (i + n < bs.length) && bs.getD (i + n) false) = byBit W (fun i => decide (i + n < bs.length) && bs.getD (i + n) false) by rw [hl]]
    exact bv_by W _ _ (fun i hi => by
    rw [BitVec.getLsbD_ushiftRight, bv_bit W bs hl, hl, Nat.add_comm i n]
    by_cases h : n + i < W
    · simp [h]
    · simp [h, List.getD_eq_getElem?_getD, List.getElem?_eq_none (show bs.length ≤ n + i by omega)])
  exact e
theorem bitV_13 (W : Nat) (u v : Value) (X Y : BitVec W) (n : Nat) (w : World) (hu : IsV W w u X) (hv : IsV W w v Y) (h1 : 1 ≤ W) (h64 : W ≤ 64) (hn : n < W) :
    Calls Tryz.prog 67 #[.int .i64 13, u, v, .int .i64 n] w fun e w' => ∃ v', e = .returned v' ∧ IsV W w' v' (X <<< n ||| X >>> (W - n)) ∧ Below w.heap.size w w' := by
  obtain ⟨bs, hb, hl, rfl⟩ := hu
  obtain ⟨cs, hc, hl', rfl⟩ := hv
  refine (bit13_any u v bs cs n w hb hc (by omega) (by omega) (by omega) (by omega)).mono ?_
  rintro e w1 ⟨v1, rfl, h, hbl⟩
  refine ⟨v1, rfl, ⟨_, h, by rw [byBit_length, hl], ?_⟩, hbl⟩
  have e : bvOf W (byBit bs.length (fun i => bs.getD ((i + bs.length - n) % bs.length) false)) = (bvOf W bs) <<< n ||| (bvOf W bs) >>> (W - n) := by
    rw [show byBit bs.length (fun i => bs.getD ((i + bs.length - n) % bs.length) false) = byBit W (fun i => bs.getD ((i + bs.length - n) % bs.length) false) by rw [hl]]
    exact bv_by W _ _ (fun i hi => by
    rw [BitVec.getLsbD_or, BitVec.getLsbD_shiftLeft, BitVec.getLsbD_ushiftRight, bv_bit W bs hl, bv_bit W bs hl, hl]
    by_cases h : i < n
    · rw [show (i + W - n) % W = W - n + i by rw [Nat.mod_eq_of_lt (by omega)]; omega]; simp [h]
    · rw [show (i + W - n) % W = i - n by rw [show i + W - n = i - n + W by omega, Nat.add_mod_right, Nat.mod_eq_of_lt (by omega)], List.getD_eq_getElem?_getD (i := W - n + i), List.getElem?_eq_none (show bs.length ≤ W - n + i by omega)]; simp [h, hi])
  exact e
theorem bitV_14 (W : Nat) (u v : Value) (X Y : BitVec W) (n : Nat) (w : World) (hu : IsV W w u X) (hv : IsV W w v Y) (h1 : 1 ≤ W) (h64 : W ≤ 64) (hn : n < W) :
    Calls Tryz.prog 67 #[.int .i64 14, u, v, .int .i64 n] w fun e w' => ∃ v', e = .returned v' ∧ IsV W w' v' (X <<< (W - n) ||| X >>> n) ∧ Below w.heap.size w w' := by
  obtain ⟨bs, hb, hl, rfl⟩ := hu
  obtain ⟨cs, hc, hl', rfl⟩ := hv
  refine (bit14_any u v bs cs n w hb hc (by omega) (by omega) (by omega) (by omega)).mono ?_
  rintro e w1 ⟨v1, rfl, h, hbl⟩
  refine ⟨v1, rfl, ⟨_, h, by rw [byBit_length, hl], ?_⟩, hbl⟩
  have e : bvOf W (byBit bs.length (fun i => bs.getD ((i + n) % bs.length) false)) = (bvOf W bs) <<< (W - n) ||| (bvOf W bs) >>> n := by
    rw [show byBit bs.length (fun i => bs.getD ((i + n) % bs.length) false) = byBit W (fun i => bs.getD ((i + n) % bs.length) false) by rw [hl]]
    exact bv_by W _ _ (fun i hi => by
    rw [BitVec.getLsbD_or, BitVec.getLsbD_shiftLeft, BitVec.getLsbD_ushiftRight, bv_bit W bs hl, bv_bit W bs hl, hl]
    by_cases h : i < W - n
    · rw [show (i + n) % W = n + i by rw [Nat.mod_eq_of_lt (by omega)]; omega]; simp [h]
    · rw [show (i + n) % W = i - (W - n) by rw [show i + n = i - (W - n) + W by omega, Nat.add_mod_right, Nat.mod_eq_of_lt (by omega)], List.getD_eq_getElem?_getD (i := n + i), List.getElem?_eq_none (show bs.length ≤ n + i by omega)]; simp [h, hi])
  exact e
end Go.Proofs.YtkceplamaocmmaaGreatDoor
