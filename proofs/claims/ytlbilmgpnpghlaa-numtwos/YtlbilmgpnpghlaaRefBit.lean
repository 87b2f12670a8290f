/-
  What the document's own reckon does: bits.
-/
import Derived.Test.YtlbilmgpnpghlaaRefV
namespace Go.Proofs.Ytlbilmgpnpghlaa
open Go.RowKit

theorem bitV_7 (W : Nat) (u v : Value) (X Y : BitVec W) (n : Nat) (w : World) (hu : IsV W w u X) (hv : IsV W w v Y) (h1 : 1 ≤ W) (h64 : W ≤ 64) (hn : n < W) :
    Calls Try.prog 50 #[.int .i64 7, u, v, .int .i64 n] w fun e w' => ∃ v', e = .returned v' ∧ IsV W w' v' (X &&& Y) ∧ Below w.heap.size w w' := by
  obtain ⟨bs, hb, hl, rfl⟩ := hu
  obtain ⟨cs, hc, hl', rfl⟩ := hv
  refine (bit7_any u v bs cs n w hb hc (by omega) (by omega) (by omega) (by omega)).mono ?_
  rintro e w1 ⟨v1, rfl, h, hbl⟩
  refine ⟨v1, rfl, ⟨_, h, by rw [byBit_length, hl], ?_⟩, hbl⟩
  have e : bvOf W (byBit bs.length (fun i => bs.getD i false && cs.getD i false)) = (bvOf W bs) &&& (bvOf W cs) := by
    rw [show byBit bs.length (fun i => bs.getD i false && cs.getD i false) = byBit W (fun i => bs.getD i false && cs.getD i false) by rw [hl]]
    exact bv_by W _ _ (fun i hi => by
    rw [BitVec.getLsbD_and, bv_bit W bs hl, bv_bit W cs hl'])
  exact e
theorem bitV_8 (W : Nat) (u v : Value) (X Y : BitVec W) (n : Nat) (w : World) (hu : IsV W w u X) (hv : IsV W w v Y) (h1 : 1 ≤ W) (h64 : W ≤ 64) (hn : n < W) :
    Calls Try.prog 50 #[.int .i64 8, u, v, .int .i64 n] w fun e w' => ∃ v', e = .returned v' ∧ IsV W w' v' (X ||| Y) ∧ Below w.heap.size w w' := by
  obtain ⟨bs, hb, hl, rfl⟩ := hu
  obtain ⟨cs, hc, hl', rfl⟩ := hv
  refine (bit8_any u v bs cs n w hb hc (by omega) (by omega) (by omega) (by omega)).mono ?_
  rintro e w1 ⟨v1, rfl, h, hbl⟩
  refine ⟨v1, rfl, ⟨_, h, by rw [byBit_length, hl], ?_⟩, hbl⟩
  have e : bvOf W (byBit bs.length (fun i => bs.getD i false || cs.getD i false)) = (bvOf W bs) ||| (bvOf W cs) := by
    rw [show byBit bs.length (fun i => bs.getD i false || cs.getD i false) = byBit W (fun i => bs.getD i false || cs.getD i false) by rw [hl]]
    exact bv_by W _ _ (fun i hi => by
    rw [BitVec.getLsbD_or, bv_bit W bs hl, bv_bit W cs hl'])
  exact e
theorem bitV_9 (W : Nat) (u v : Value) (X Y : BitVec W) (n : Nat) (w : World) (hu : IsV W w u X) (hv : IsV W w v Y) (h1 : 1 ≤ W) (h64 : W ≤ 64) (hn : n < W) :
    Calls Try.prog 50 #[.int .i64 9, u, v, .int .i64 n] w fun e w' => ∃ v', e = .returned v' ∧ IsV W w' v' (X ^^^ Y) ∧ Below w.heap.size w w' := by
  obtain ⟨bs, hb, hl, rfl⟩ := hu
  obtain ⟨cs, hc, hl', rfl⟩ := hv
  refine (bit9_any u v bs cs n w hb hc (by omega) (by omega) (by omega) (by omega)).mono ?_
  rintro e w1 ⟨v1, rfl, h, hbl⟩
  refine ⟨v1, rfl, ⟨_, h, by rw [byBit_length, hl], ?_⟩, hbl⟩
  have e : bvOf W (byBit bs.length (fun i => bs.getD i false != cs.getD i false)) = (bvOf W bs) ^^^ (bvOf W cs) := by
    rw [show byBit bs.length (fun i => bs.getD i false != cs.getD i false) = byBit W (fun i => bs.getD i false != cs.getD i false) by rw [hl]]
    exact bv_by W _ _ (fun i hi => by
    rw [BitVec.getLsbD_xor, bv_bit W bs hl, bv_bit W cs hl'])
  exact e
theorem bitV_10 (W : Nat) (u v : Value) (X Y : BitVec W) (n : Nat) (w : World) (hu : IsV W w u X) (hv : IsV W w v Y) (h1 : 1 ≤ W) (h64 : W ≤ 64) (hn : n < W) :
    Calls Try.prog 50 #[.int .i64 10, u, v, .int .i64 n] w fun e w' => ∃ v', e = .returned v' ∧ IsV W w' v' (X <<< n) ∧ Below w.heap.size w w' := by
  obtain ⟨bs, hb, hl, rfl⟩ := hu
  obtain ⟨cs, hc, hl', rfl⟩ := hv
  refine (bit10_any u v bs cs n w hb hc (by omega) (by omega) (by omega) (by omega)).mono ?_
  rintro e w1 ⟨v1, rfl, h, hbl⟩
  refine ⟨v1, rfl, ⟨_, h, by rw [byBit_length, hl], ?_⟩, hbl⟩
  have e : bvOf W (byBit bs.length (fun i => decide (n ≤ i) && bs.getD (i - n) false)) = (bvOf W bs) <<< n := by
    rw [show byBit bs.length (fun i => decide (n ≤ i) && bs.getD (i - n) false) = byBit W (fun i => decide (n ≤ i) && bs.getD (i - n) false) by rw [hl]]
    exact bv_by W _ _ (fun i hi => by
    rw [BitVec.getLsbD_shiftLeft, bv_bit W bs hl]
    by_cases h : n ≤ i <;> simp [hi, h] <;> omega)
  exact e
theorem bitV_11 (W : Nat) (u v : Value) (X Y : BitVec W) (n : Nat) (w : World) (hu : IsV W w u X) (hv : IsV W w v Y) (h1 : 1 ≤ W) (h64 : W ≤ 64) (hn : n < W) :
    Calls Try.prog 50 #[.int .i64 11, u, v, .int .i64 n] w fun e w' => ∃ v', e = .returned v' ∧ IsV W w' v' (X.sshiftRight n) ∧ Below w.heap.size w w' := by
  obtain ⟨bs, hb, hl, rfl⟩ := hu
  obtain ⟨cs, hc, hl', rfl⟩ := hv
  refine (bit11_any u v bs cs n w hb hc (by omega) (by omega) (by omega) (by omega)).mono ?_
  rintro e w1 ⟨v1, rfl, h, hbl⟩
  refine ⟨v1, rfl, ⟨_, h, by rw [byBit_length, hl], ?_⟩, hbl⟩
  have e : bvOf W (byBit bs.length (fun i => bs.getD (min (bs.length - 1) (i + n)) false)) = (bvOf W bs).sshiftRight n := by
    rw [show byBit bs.length (fun i => bs.getD (min (bs.length - 1) (i + n)) false) = byBit W (fun i => bs.getD (min (bs.length - 1) (i + n)) false) by rw [hl]]
    exact bv_by W _ _ (fun i hi => by
    rw [BitVec.getLsbD_sshiftRight, bv_msb W bs hl]
    by_cases h : n + i < W
    · rw [if_pos h, bv_bit W bs hl, hl, Nat.min_eq_right (by omega), Nat.add_comm i n]; simp; omega
    · rw [if_neg h, hl, Nat.min_eq_left (by omega)]; simp; omega)
  exact e
theorem bitV_12 (W : Nat) (u v : Value) (X Y : BitVec W) (n : Nat) (w : World) (hu : IsV W w u X) (hv : IsV W w v Y) (h1 : 1 ≤ W) (h64 : W ≤ 64) (hn : n < W) :
    Calls Try.prog 50 #[.int .i64 12, u, v, .int .i64 n] w fun e w' => ∃ v', e = .returned v' ∧ IsV W w' v' (X >>> n) ∧ Below w.heap.size w w' := by
  obtain ⟨bs, hb, hl, rfl⟩ := hu
  obtain ⟨cs, hc, hl', rfl⟩ := hv
  refine (bit12_any u v bs cs n w hb hc (by omega) (by omega) (by omega) (by omega)).mono ?_
  rintro e w1 ⟨v1, rfl, h, hbl⟩
  refine ⟨v1, rfl, ⟨_, h, by rw [byBit_length, hl], ?_⟩, hbl⟩
  have e : bvOf W (byBit bs.length (fun i => decide (i + n < bs.length) && bs.getD (i + n) false)) = (bvOf W bs) >>> n := by
    rw [show byBit bs.length (fun i => decide (i + n < bs.length) && bs.getD (i + n) false) = byBit W (fun i => decide (i + n < bs.length) && bs.getD (i + n) false) by rw [hl]]
    exact bv_by W _ _ (fun i hi => by
    rw [BitVec.getLsbD_ushiftRight, bv_bit W bs hl, hl, Nat.add_comm i n]
    by_cases h : n + i < W
    · simp [h]
    · simp [h, List.getD_eq_getElem?_getD, List.getElem?_eq_none (show bs.length ≤ n + i by omega)])
  exact e
theorem bitV_13 (W : Nat) (u v : Value) (X Y : BitVec W) (n : Nat) (w : World) (hu : IsV W w u X) (hv : IsV W w v Y) (h1 : 1 ≤ W) (h64 : W ≤ 64) (hn : n < W) :
    Calls Try.prog 50 #[.int .i64 13, u, v, .int .i64 n] w fun e w' => ∃ v', e = .returned v' ∧ IsV W w' v' (X <<< n ||| X >>> (W - n)) ∧ Below w.heap.size w w' := by
  obtain ⟨bs, hb, hl, rfl⟩ := hu
  obtain ⟨cs, hc, hl', rfl⟩ := hv
  refine (bit13_any u v bs cs n w hb hc (by omega) (by omega) (by omega) (by omega)).mono ?_
  rintro e w1 ⟨v1, rfl, h, hbl⟩
  refine ⟨v1, rfl, ⟨_, h, by rw [byBit_length, hl], ?_⟩, hbl⟩
  have e : bvOf W (byBit bs.length (fun i => bs.getD ((i + bs.length - n) % bs.length) false)) = (bvOf W bs) <<< n ||| (bvOf W bs) >>> (W - n) := by
    rw [show byBit bs.length (fun i => bs.getD ((i + bs.length - n) % bs.length) false) = byBit W (fun i => bs.getD ((i + bs.length - n) % bs.length) false) by rw [hl]]
    exact bv_by W _ _ (fun i hi => by
    rw [BitVec.getLsbD_or, BitVec.getLsbD_shiftLeft, BitVec.getLsbD_ushiftRight, bv_bit W bs hl, bv_bit W bs hl, hl]
    by_cases h : i < n
    · rw [show (i + W - n) % W = W - n + i by rw [Nat.mod_eq_of_lt (by omega)]; omega]; simp [h]
    · rw [show (i + W - n) % W = i - n by rw [show i + W - n = i - n + W by omega, Nat.add_mod_right, Nat.mod_eq_of_lt (by omega)], List.getD_eq_getElem?_getD (i := W - n + i), List.getElem?_eq_none (show bs.length ≤ W - n + i by omega)]; simp [h, hi])
  exact e
theorem bitV_14 (W : Nat) (u v : Value) (X Y : BitVec W) (n : Nat) (w : World) (hu : IsV W w u X) (hv : IsV W w v Y) (h1 : 1 ≤ W) (h64 : W ≤ 64) (hn : n < W) :
    Calls Try.prog 50 #[.int .i64 14, u, v, .int .i64 n] w fun e w' => ∃ v', e = .returned v' ∧ IsV W w' v' (X <<< (W - n) ||| X >>> n) ∧ Below w.heap.size w w' := by
  obtain ⟨bs, hb, hl, rfl⟩ := hu
  obtain ⟨cs, hc, hl', rfl⟩ := hv
  refine (bit14_any u v bs cs n w hb hc (by omega) (by omega) (by omega) (by omega)).mono ?_
  rintro e w1 ⟨v1, rfl, h, hbl⟩
  refine ⟨v1, rfl, ⟨_, h, by rw [byBit_length, hl], ?_⟩, hbl⟩
  have e : bvOf W (byBit bs.length (fun i => bs.getD ((i + n) % bs.length) false)) = (bvOf W bs) <<< (W - n) ||| (bvOf W bs) >>> n := by
    rw [show byBit bs.length (fun i => bs.getD ((i + n) % bs.length) false) = byBit W (fun i => bs.getD ((i + n) % bs.length) false) by rw [hl]]
    exact bv_by W _ _ (fun i hi => by
    rw [BitVec.getLsbD_or, BitVec.getLsbD_shiftLeft, BitVec.getLsbD_ushiftRight, bv_bit W bs hl, bv_bit W bs hl, hl]
    by_cases h : i < W - n
    · rw [show (i + n) % W = n + i by rw [Nat.mod_eq_of_lt (by omega)]; omega]; simp [h]
    · rw [show (i + n) % W = i - (W - n) by rw [show i + n = i - (W - n) + W by omega, Nat.add_mod_right, Nat.mod_eq_of_lt (by omega)], List.getD_eq_getElem?_getD (i := n + i), List.getElem?_eq_none (show bs.length ≤ n + i by omega)]; simp [h, hi])
  exact e
end Go.Proofs.Ytlbilmgpnpghlaa
