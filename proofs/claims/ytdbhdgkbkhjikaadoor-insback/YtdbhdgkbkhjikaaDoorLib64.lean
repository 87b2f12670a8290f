/-
  What the library's own Len64, TrailingZeros64 and OnesCount64 do.
-/
import Derived.Test.YtdbhdgkbkhjikaaDoorProg
import Derived.Test.YtdbhdgkbkhjikaaDoorPopMaths
import Derived.Lib.BitFns
import Derived.Lib.TrailingZeros
import Derived.Laws.Bits64b
import Derived.Laws.Bits128
import Derived.Laws.BitsAllLaws
import Derived.Laws.BitsLemmas
import Derived.Laws.MakeOwn
import Derived.WalkKit
import Derived.WalkSpells
import Derived.WalkSmall
namespace Go.Proofs.YtdbhdgkbkhjikaaDoor
open Go.RowKit

set_option maxHeartbeats 4000000 in
set_option maxRecDepth 1000000 in
theorem len64_0 (x : Int) (h0 : 0 ≤ x) (h1 : x ≤ 255) (w : World) :
    Calls Tryd.prog 92 #[.int .u64 x] w fun e w' => e = .returned (.int .i64 (Lib.bitLen x.toNat)) ∧ w' = w := by
  have b0 : 0 ≤ x := by omega
  have b1 : x ≤ 255 := by omega
  go_enter Tryd.func92, Tryd.ntmps92
  go_wp2
  go_ret
  refine ⟨congrArg Ending.returned (congrArg (Value.int IntKind.i64) ?_), rfl⟩
  rw [Lib.len8_of (x) b0 b1]
  have l := Lib.bitLen_le8' (x) b0 b1
  simp only [wrap64]
  omega
set_option maxHeartbeats 4000000 in
set_option maxRecDepth 1000000 in
theorem len64_8 (x : Int) (h0 : 256 ≤ x) (h1 : x ≤ 65535) (w : World) :
    Calls Tryd.prog 92 #[.int .u64 x] w fun e w' => e = .returned (.int .i64 (Lib.bitLen x.toNat)) ∧ w' = w := by
  have b0 : 0 ≤ x / 256 := by omega
  have b1 : x / 256 ≤ 255 := by omega
  go_enter Tryd.func92, Tryd.ntmps92
  go_wp2
  go_ret
  refine ⟨congrArg Ending.returned (congrArg (Value.int IntKind.i64) ?_), rfl⟩
  rw [Lib.len8_of (x / 256) b0 b1]
  have l := Lib.bitLen_le8' (x / 256) b0 b1
  have e : (x / 256).toNat = x.toNat / 256 := by omega
  have s := Lib.bitLen_shift8 x.toNat (by omega) (by omega)
  rw [e] at l ⊢
  rw [s]
  generalize Lib.bitLen (x.toNat / 256) = L at l ⊢
  clear s e b0 b1 h0 h1
  simp only [wrap64]
  omega
set_option maxHeartbeats 4000000 in
set_option maxRecDepth 1000000 in
theorem len64_16 (x : Int) (h0 : 65536 ≤ x) (h1 : x ≤ 16777215) (w : World) :
    Calls Tryd.prog 92 #[.int .u64 x] w fun e w' => e = .returned (.int .i64 (Lib.bitLen x.toNat)) ∧ w' = w := by
  have b0 : 0 ≤ x / 65536 := by omega
  have b1 : x / 65536 ≤ 255 := by omega
  go_enter Tryd.func92, Tryd.ntmps92
  go_wp2
  go_ret
  refine ⟨congrArg Ending.returned (congrArg (Value.int IntKind.i64) ?_), rfl⟩
  rw [Lib.len8_of (x / 65536) b0 b1]
  have l := Lib.bitLen_le8' (x / 65536) b0 b1
  have e : (x / 65536).toNat = x.toNat / 65536 := by omega
  have s := Lib.bitLen_shift16 x.toNat (by omega) (by omega)
  rw [e] at l ⊢
  rw [s]
  generalize Lib.bitLen (x.toNat / 65536) = L at l ⊢
  clear s e b0 b1 h0 h1
  simp only [wrap64]
  omega
set_option maxHeartbeats 4000000 in
set_option maxRecDepth 1000000 in
theorem len64_24 (x : Int) (h0 : 16777216 ≤ x) (h1 : x ≤ 4294967295) (w : World) :
    Calls Tryd.prog 92 #[.int .u64 x] w fun e w' => e = .returned (.int .i64 (Lib.bitLen x.toNat)) ∧ w' = w := by
  have b0 : 0 ≤ x / 65536 / 256 := by omega
  have b1 : x / 65536 / 256 ≤ 255 := by omega
  go_enter Tryd.func92, Tryd.ntmps92
  go_wp2
  go_ret
  refine ⟨congrArg Ending.returned (congrArg (Value.int IntKind.i64) ?_), rfl⟩
  rw [Lib.len8_of (x / 65536 / 256) b0 b1]
  have l := Lib.bitLen_le8' (x / 65536 / 256) b0 b1
  have e : (x / 65536 / 256).toNat = x.toNat / 16777216 := by omega
  have s := Lib.bitLen_shift24 x.toNat (by omega) (by omega)
  rw [e] at l ⊢
  rw [s]
  generalize Lib.bitLen (x.toNat / 16777216) = L at l ⊢
  clear s e b0 b1 h0 h1
  simp only [wrap64]
  omega
set_option maxHeartbeats 4000000 in
set_option maxRecDepth 1000000 in
theorem len64_32 (x : Int) (h0 : 4294967296 ≤ x) (h1 : x ≤ 1099511627775) (w : World) :
    Calls Tryd.prog 92 #[.int .u64 x] w fun e w' => e = .returned (.int .i64 (Lib.bitLen x.toNat)) ∧ w' = w := by
  have b0 : 0 ≤ x / 4294967296 := by omega
  have b1 : x / 4294967296 ≤ 255 := by omega
  go_enter Tryd.func92, Tryd.ntmps92
  go_wp2
  go_ret
  refine ⟨congrArg Ending.returned (congrArg (Value.int IntKind.i64) ?_), rfl⟩
  rw [Lib.len8_of (x / 4294967296) b0 b1]
  have l := Lib.bitLen_le8' (x / 4294967296) b0 b1
  have e : (x / 4294967296).toNat = x.toNat / 4294967296 := by omega
  have s := Lib.bitLen_shift32 x.toNat (by omega) (by omega)
  rw [e] at l ⊢
  rw [s]
  generalize Lib.bitLen (x.toNat / 4294967296) = L at l ⊢
  clear s e b0 b1 h0 h1
  simp only [wrap64]
  omega
set_option maxHeartbeats 4000000 in
set_option maxRecDepth 1000000 in
theorem len64_40 (x : Int) (h0 : 1099511627776 ≤ x) (h1 : x ≤ 281474976710655) (w : World) :
    Calls Tryd.prog 92 #[.int .u64 x] w fun e w' => e = .returned (.int .i64 (Lib.bitLen x.toNat)) ∧ w' = w := by
  have b0 : 0 ≤ x / 4294967296 / 256 := by omega
  have b1 : x / 4294967296 / 256 ≤ 255 := by omega
  go_enter Tryd.func92, Tryd.ntmps92
  go_wp2
  go_ret
  refine ⟨congrArg Ending.returned (congrArg (Value.int IntKind.i64) ?_), rfl⟩
  rw [Lib.len8_of (x / 4294967296 / 256) b0 b1]
  have l := Lib.bitLen_le8' (x / 4294967296 / 256) b0 b1
  have e : (x / 4294967296 / 256).toNat = x.toNat / 1099511627776 := by omega
  have s := Lib.bitLen_shift40 x.toNat (by omega) (by omega)
  rw [e] at l ⊢
  rw [s]
  generalize Lib.bitLen (x.toNat / 1099511627776) = L at l ⊢
  clear s e b0 b1 h0 h1
  simp only [wrap64]
  omega
set_option maxHeartbeats 4000000 in
set_option maxRecDepth 1000000 in
theorem len64_48 (x : Int) (h0 : 281474976710656 ≤ x) (h1 : x ≤ 72057594037927935) (w : World) :
    Calls Tryd.prog 92 #[.int .u64 x] w fun e w' => e = .returned (.int .i64 (Lib.bitLen x.toNat)) ∧ w' = w := by
  have b0 : 0 ≤ x / 4294967296 / 65536 := by omega
  have b1 : x / 4294967296 / 65536 ≤ 255 := by omega
  go_enter Tryd.func92, Tryd.ntmps92
  go_wp2
  go_ret
  refine ⟨congrArg Ending.returned (congrArg (Value.int IntKind.i64) ?_), rfl⟩
  rw [Lib.len8_of (x / 4294967296 / 65536) b0 b1]
  have l := Lib.bitLen_le8' (x / 4294967296 / 65536) b0 b1
  have e : (x / 4294967296 / 65536).toNat = x.toNat / 281474976710656 := by omega
  have s := Lib.bitLen_shift48 x.toNat (by omega) (by omega)
  rw [e] at l ⊢
  rw [s]
  generalize Lib.bitLen (x.toNat / 281474976710656) = L at l ⊢
  clear s e b0 b1 h0 h1
  simp only [wrap64]
  omega
set_option maxHeartbeats 4000000 in
set_option maxRecDepth 1000000 in
theorem len64_56 (x : Int) (h0 : 72057594037927936 ≤ x) (h1 : x ≤ 18446744073709551615) (w : World) :
    Calls Tryd.prog 92 #[.int .u64 x] w fun e w' => e = .returned (.int .i64 (Lib.bitLen x.toNat)) ∧ w' = w := by
  have b0 : 0 ≤ x / 4294967296 / 65536 / 256 := by omega
  have b1 : x / 4294967296 / 65536 / 256 ≤ 255 := by omega
  go_enter Tryd.func92, Tryd.ntmps92
  go_wp2
  go_ret
  refine ⟨congrArg Ending.returned (congrArg (Value.int IntKind.i64) ?_), rfl⟩
  rw [Lib.len8_of (x / 4294967296 / 65536 / 256) b0 b1]
  have l := Lib.bitLen_le8' (x / 4294967296 / 65536 / 256) b0 b1
  have e : (x / 4294967296 / 65536 / 256).toNat = x.toNat / 72057594037927936 := by omega
  have s := Lib.bitLen_shift56 x.toNat (by omega) (by omega)
  rw [e] at l ⊢
  rw [s]
  generalize Lib.bitLen (x.toNat / 72057594037927936) = L at l ⊢
  clear s e b0 b1 h0 h1
  simp only [wrap64]
  omega
theorem len64_any (x : Int) (h0 : 0 ≤ x) (h1 : x ≤ 18446744073709551615) (w : World) :
    Calls Tryd.prog 92 #[.int .u64 x] w fun e w' => e = .returned (.int .i64 (Lib.bitLen x.toNat)) ∧ w' = w := by
  by_cases c0 : x ≤ 255
  · exact len64_0 x (by omega) c0 w
  by_cases c8 : x ≤ 65535
  · exact len64_8 x (by omega) c8 w
  by_cases c16 : x ≤ 16777215
  · exact len64_16 x (by omega) c16 w
  by_cases c24 : x ≤ 4294967295
  · exact len64_24 x (by omega) c24 w
  by_cases c32 : x ≤ 1099511627775
  · exact len64_32 x (by omega) c32 w
  by_cases c40 : x ≤ 281474976710655
  · exact len64_40 x (by omega) c40 w
  by_cases c48 : x ≤ 72057594037927935
  · exact len64_48 x (by omega) c48 w
  exact len64_56 x (by omega) h1 w

/-- The library's table for TrailingZeros64, in its variable. -/
def TabIn (w : World) : Prop := ∀ j, j < 64 → w.cell? ⟨1, j, none⟩ = some (.int .u8 (Lib.deBruijn64tab.getD j 0))
theorem TabIn.of_cells {w w' : World} (h : TabIn w) (hc : ∀ j, w'.cell? ⟨1, j, none⟩ = w.cell? ⟨1, j, none⟩) : TabIn w' := fun j hj => (hc j).trans (h j hj)
set_option maxHeartbeats 1000000 in
set_option maxRecDepth 1000000 in
theorem tz64_core (x k idx : Nat) (w : World) (_hx0 : ((x : Int) == 0) = false)
    (key : IntKind.u64.wrap (bits BinOp.and IntKind.u64 (x : Int) (IntKind.u64.wrap (-(x : Int))) * 285870213051353865) / 288230376151711744 = (idx : Int))
    (_hi : idx < 64) (_hk : k < 64) (_hcell : w.cell? ⟨1, idx, none⟩ = some (.int .u8 k)) :
    Calls Tryd.prog 93 #[.int .u64 x] w fun e w' => e = .returned (.int .i64 k) ∧ w' = w := by
  go_enter Tryd.func93, Tryd.ntmps93
  go_wp2_with (simp only [key])
  go_ret
  exact ⟨rfl, rfl⟩
set_option maxRecDepth 1000000 in
theorem tz64_zero (w : World) :
    Calls Tryd.prog 93 #[.int .u64 0] w fun e w' => e = .returned (.int .i64 64) ∧ w' = w := by
  go_enter Tryd.func93, Tryd.ntmps93
  go_wp2
  go_ret
  exact ⟨rfl, rfl⟩
theorem tz64_key (x a : Nat) (hx : x < 18446744073709551616) (hx0 : x ≠ 0) (hlow : x &&& (18446744073709551616 - x) = a) :
    IntKind.u64.wrap (bits BinOp.and IntKind.u64 (x : Int) (IntKind.u64.wrap (-(x : Int))) * 285870213051353865) / 288230376151711744 = ((a * 285870213051353865 % 18446744073709551616 / 288230376151711744 : Nat) : Int) := by
  have e1 : IntKind.u64.wrap (-(x : Int)) = ((18446744073709551616 - x : Nat) : Int) := by rw [IntKind.wrap_u64]; omega
  rw [e1, bits_and_u64_nat x _ hx (by omega), hlow, IntKind.wrap_u64]
  omega
theorem tz64_any (x : Nat) (hx : x < 18446744073709551616) (w : World) (hT : TabIn w) :
    Calls Tryd.prog 93 #[.int .u64 x] w fun e w' => e = .returned (.int .i64 (Lib.ctz 64 x)) ∧ w' = w := by
  by_cases hx0 : x = 0
  · subst hx0
    exact tz64_zero w
  · obtain ⟨hlow, hk⟩ := Lib.lowest_bit 64 x hx0 hx
    obtain ⟨hi, htab⟩ := Lib.deBruijn64_at _ hk
    have hcell := hT _ hi
    rw [htab] at hcell
    exact tz64_core x _ _ w (by simp; omega) (tz64_key x _ hx hx0 hlow) hi hk hcell

theorem and_u64 (a m : Nat) (ha : a < 18446744073709551616) (hm : m < 18446744073709551616) : bits .and .u64 (a : Int) (m : Int) = ((a &&& m : Nat) : Int) := bits_and_u64_nat a m ha hm
theorem wrap_u64_nat (a : Nat) (ha : a < 18446744073709551616) : IntKind.u64.wrap (a : Int) = (a : Int) := by rw [IntKind.wrap_u64]; omega
theorem and127 (c : Nat) : bits .and .i64 (wrap64 (c : Int)) 127 = ((c % 128 : Nat) : Int) := by
  have h1 : (BitVec.ofInt 64 127).toNat = 2 ^ 7 - 1 := by decide
  have key : (BitVec.ofInt 64 (wrap64 (c : Int)) &&& BitVec.ofInt 64 127).toNat = c % 2 ^ 7 := by
    rw [BitVec.toNat_and, BitVec.toNat_ofInt, h1, Nat.and_two_pow_sub_one_eq_mod]
    simp only [wrap64]
    omega
  show IntKind.i64.wrap ((BitVec.ofInt 64 (wrap64 (c : Int)) &&& BitVec.ofInt 64 127).toNat : Nat) = _
  rw [key, IntKind.wrap_i64]
  omega
set_option maxHeartbeats 1000000 in
set_option maxRecDepth 1000000 in
theorem ones64_core (x y z t a b c r p q : Int)
    (h1 : IntKind.u64.wrap (bits .and .u64 (x / 2) 6148914691236517205 + bits .and .u64 x 6148914691236517205) = y)
    (h2 : IntKind.u64.wrap (bits .and .u64 (y / 4) 3689348814741910323 + bits .and .u64 y 3689348814741910323) = z)
    (hp : IntKind.u64.wrap (z / 16 + z) = p) (h3 : bits .and .u64 p 1085102592571150095 = t)
    (h4 : IntKind.u64.wrap (t + t / 256) = a) (h5 : IntKind.u64.wrap (a + a / 65536) = b) (h6 : IntKind.u64.wrap (b + b / 4294967296) = c) (hq : wrap64 c = q) (h7 : bits .and .i64 q 127 = r) (w : World) :
    Calls Tryd.prog 94 #[.int .u64 x] w fun e w' => e = .returned (.int .i64 r) ∧ w' = w := by
  go_enter Tryd.func94, Tryd.ntmps94
  go_wp2_with (first | simp only [h1] | simp only [h2] | simp only [hp] | simp only [h3] | simp only [h4] | simp only [h5] | simp only [h6] | simp only [hq] | simp only [h7])
  go_ret
  exact ⟨rfl, rfl⟩
theorem ones64_any (x : Nat) (hx : x < 18446744073709551616) (w : World) :
    Calls Tryd.prog 94 #[.int .u64 x] w fun e w' => e = .returned (.int .i64 (popN 64 x)) ∧ w' = w := by
  obtain ⟨y, hy⟩ : ∃ y, s1 6148914691236517205 x = y := ⟨_, rfl⟩
  obtain ⟨z, hz⟩ : ∃ z, s2 3689348814741910323 y = z := ⟨_, rfl⟩
  obtain ⟨t, ht⟩ : ∃ t, s3 1085102592571150095 z = t := ⟨_, rfl⟩
  obtain ⟨a, ha⟩ : ∃ a, t + t / 256 = a := ⟨_, rfl⟩
  obtain ⟨b, hb⟩ : ∃ b, a + a / 65536 = b := ⟨_, rfl⟩
  obtain ⟨c, hc⟩ : ∃ c, b + b / 4294967296 = c := ⟨_, rfl⟩
  have hall := pop_all x a b c hx (by rw [hy, hz, ht, ha]) hb.symm hc.symm
  obtain ⟨la, lb, lc, hr⟩ := hall
  have y1 : x / 2 &&& 6148914691236517205 ≤ 6148914691236517205 := and_le _ _
  have y2 : x &&& 6148914691236517205 ≤ 6148914691236517205 := and_le _ _
  have z1 : y / 4 &&& 3689348814741910323 ≤ 3689348814741910323 := and_le _ _
  have z2 : y &&& 3689348814741910323 ≤ 3689348814741910323 := and_le _ _
  unfold s1 at hy
  unfold s2 at hz
  unfold s3 at ht
  have ly : y ≤ 12297829382473034410 := by omega
  have lz : z ≤ 7378697629483820646 := by omega
  refine ones64_core (x : Int) (y : Int) (z : Int) (t : Int) (a : Int) (b : Int) (c : Int) (popN 64 x : Int) ((z / 16 + z : Nat) : Int) (wrap64 (c : Int)) ?_ ?_ ?_ ?_ ?_ ?_ ?_ rfl ?_ w
  · rw [show (x : Int) / 2 = ((x / 2 : Nat) : Int) by omega, show (6148914691236517205 : Int) = ((6148914691236517205 : Nat) : Int) from rfl, and_u64 _ _ (by omega) (by omega), and_u64 _ _ hx (by omega), ← Int.natCast_add, hy, wrap_u64_nat _ (by omega)]
  · rw [show (y : Int) / 4 = ((y / 4 : Nat) : Int) by omega, show (3689348814741910323 : Int) = ((3689348814741910323 : Nat) : Int) from rfl, and_u64 _ _ (by omega) (by omega), and_u64 _ _ (by omega) (by omega), ← Int.natCast_add, hz, wrap_u64_nat _ (by omega)]
  · rw [show (z : Int) / 16 + (z : Int) = ((z / 16 + z : Nat) : Int) by omega, wrap_u64_nat _ (by omega)]
  · rw [show (1085102592571150095 : Int) = ((1085102592571150095 : Nat) : Int) from rfl, and_u64 _ _ (by omega) (by omega), ht]
  · rw [show (t : Int) + (t : Int) / 256 = ((t + t / 256 : Nat) : Int) by omega, ha, wrap_u64_nat _ la]
  · rw [show (a : Int) + (a : Int) / 65536 = ((a + a / 65536 : Nat) : Int) by omega, hb, wrap_u64_nat _ lb]
  · rw [show (b : Int) + (b : Int) / 4294967296 = ((b + b / 4294967296 : Nat) : Int) by omega, hc, wrap_u64_nat _ lc]
  · rw [and127, hr]

end Go.Proofs.YtdbhdgkbkhjikaaDoor
