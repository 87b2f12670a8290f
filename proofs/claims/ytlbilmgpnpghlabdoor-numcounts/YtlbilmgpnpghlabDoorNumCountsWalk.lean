/-
  The law of counts: its walk.
-/
import Derived.Test.YtlbilmgpnpghlabDoorCountsCoreN
import Derived.Test.YtlbilmgpnpghlabDoorCountsCoreW
import Derived.Test.YtlbilmgpnpghlabDoorCountMaths
import Derived.OpenShut
namespace Go.Proofs.YtlbilmgpnpghlabDoor
open Go.RowKit

theorem r64_32 (X : BitVec 32) : R64 X.toInt := by have := toInt_lt32 X; unfold R64; omega
theorem ht113_32 : Hid (∀ x y z, (fun x y z => R64 x ∧ R64 y ∧ (BitVec.ofInt 32 x &&& BitVec.ofInt 32 y).toInt = z) x y z → ∀ w, Calls Tryd.prog 8 #[.int .u8 113, .int .i64 x, .int .i64 y] w fun e w' => e = .returned (.int .i64 z) ∧ w' = w) := by
  intro x y z h w
  obtain ⟨_, _, hz⟩ := h
  rw [← hz]
  exact ktwo 113 x y _ _ (fun w w' => w' = w) (fun w => num_113 x y w) w
theorem ht114_32 : Hid (∀ x y z, (fun x y z => R64 x ∧ R64 y ∧ (BitVec.ofInt 32 x ||| BitVec.ofInt 32 y).toInt = z) x y z → ∀ w, Calls Tryd.prog 8 #[.int .u8 114, .int .i64 x, .int .i64 y] w fun e w' => e = .returned (.int .i64 z) ∧ w' = w) := by
  intro x y z h w
  obtain ⟨_, _, hz⟩ := h
  rw [← hz]
  exact ktwo 114 x y _ _ (fun w w' => w' = w) (fun w => num_114 x y w) w
theorem ht107_32 : Hid (∀ x y z, (fun x y z => R64 x ∧ R64 y ∧ (BitVec.ofInt 32 x - BitVec.ofInt 32 y).toInt = z) x y z → ∀ w, Calls Tryd.prog 8 #[.int .u8 107, .int .i64 x, .int .i64 y] w fun e w' => e = .returned (.int .i64 z) ∧ w' = w) := by
  intro x y z h w
  obtain ⟨_, _, hz⟩ := h
  rw [← hz]
  exact ktwo 107 x y _ _ (fun w w' => w' = w) (fun w => num_107 x y w) w
theorem ht115_32 : Hid (∀ x y z, (fun x y z => R64 x ∧ R64 y ∧ (BitVec.ofInt 32 x ^^^ BitVec.ofInt 32 y).toInt = z) x y z → ∀ w, Calls Tryd.prog 8 #[.int .u8 115, .int .i64 x, .int .i64 y] w fun e w' => e = .returned (.int .i64 z) ∧ w' = w) := by
  intro x y z h w
  obtain ⟨_, _, hz⟩ := h
  rw [← hz]
  exact ktwo 115 x y _ _ (fun w w' => w' = w) (fun w => num_115 x y w) w
/-- What an instruction of one number tells. -/
def OO32 (n x z : Int) : Prop := 0 ≤ n ∧ n < 200 ∧ ∀ w, TabIn w → Calls Tryd.prog 7 #[.int .u8 (n), .int .i64 x] w fun e w' => e = .returned (.int .i64 z) ∧ w' = w
theorem ho_32 (P : Nat) : Hid (∀ n x z, OO32 n x z → ∀ w, w.cell? ⟨P, 0, none⟩ = some (.bool false) → TabIn w → Calls Tryd.prog 6 #[.int .u8 n, .int .i64 x, .pointer (some ⟨P, 0, none⟩)] w fun e w' => e = .returned (.int .i64 z) ∧ w' = w) :=
  fun n x z h w hc hT => c_countN P n x z h.1 h.2.1 w (h.2.2 w hT) hc
theorem ones_32 (A : BitVec 32) (z : Int) (hz : (popN 64 A.toNat : Int) = z) : OO32 105 A.toInt z := by
  refine ⟨by omega, by omega, fun w _ => ?_⟩
  have h := kone 105 _ _ _ w (pone_105 A.toInt w)
  rw [cutN, cutN_32, hz] at h
  exact h
theorem high_32 (A : BitVec 32) (z : Int) (hz : 32 - (Lib.bitLen A.toNat : Int) = z) : OO32 103 A.toInt z := by
  refine ⟨by omega, by omega, fun w _ => ?_⟩
  have h := kone 103 _ _ _ w (pone_103 A.toInt w)
  rw [cutN, cutN_32, hz] at h
  exact h
theorem lows_32 (A : BitVec 32) (z : Int) (hz : min 32 (Lib.ctz 64 A.toNat : Int) = z) : OO32 104 A.toInt z := by
  refine ⟨by omega, by omega, fun w hT => ?_⟩
  have h := kone 104 _ _ _ w (pone_104 A.toInt w hT)
  rw [cutN, cutN_32, hz] at h
  exact h
theorem countsEq32 (A B : BitVec 32) (a0 b0 : Int) (ha : fitW false a0 = A.toInt) (hb : fitW false b0 = B.toInt) (w : World) (hT : TabIn w) :
    Calls Tryd.prog 3 #[.int .i64 a0, .int .i64 b0, .bool false] w fun e w' => e = .returned (.bool true) ∧ Below w.heap.size w w' := by
  have z0 : BitVec.ofInt 32 0 = 0#32 := by decide
  have z2 : BitVec.ofInt 32 (-1) = -1#32 := by decide
  have r0 : R64 0 := by unfold R64; omega
  have r1 : R64 (-1) := by unfold R64; omega
  have p1 := popN_le 64 (A &&& B).toNat
  have p2 := popN_le 64 (A ||| B).toNat
  have p3 := popN_le 64 A.toNat
  have p4 := popN_le 64 B.toNat
  have p5 := popN_le 64 (A ^^^ -1#32).toNat
  have hl := A.isLt
  have hlen := Lib.bitLen_le A.toNat 32 (by omega) hl
  have hboth := pop_both 64 A.toNat B.toNat
  have hnot := not_32 A
  obtain ⟨t, ht⟩ : ∃ t, (if A.toNat = 0 then 0 else Lib.ctz 64 A.toNat) = t := ⟨_, rfl⟩
  have htl : t < 32 := by
    rw [← ht]
    split
    · omega
    · rename_i h0
      exact (low_32 A h0).2
  refine numCounts_coreN a0 b0 A.toInt B.toInt (A &&& B).toInt (A ||| B).toInt (0#32 - A).toInt (A &&& (0#32 - A)).toInt (A ^^^ -1#32).toInt (popN 64 (A &&& B).toNat : Int) (popN 64 (A ||| B).toNat : Int) (popN 64 A.toNat : Int) (popN 64 B.toNat : Int) (popN 64 (A ^^^ -1#32).toNat : Int) (t : Int) (31 - (t : Int)) (32 - (Lib.bitLen A.toNat : Int)) 113 114 107 115 w.heap.size OO32 (fun x y z => R64 x ∧ R64 y ∧ (BitVec.ofInt 32 x &&& BitVec.ofInt 32 y).toInt = z) (fun x y z => R64 x ∧ R64 y ∧ (BitVec.ofInt 32 x ||| BitVec.ofInt 32 y).toInt = z) (fun x y z => R64 x ∧ R64 y ∧ (BitVec.ofInt 32 x - BitVec.ofInt 32 y).toInt = z) (fun x y z => R64 x ∧ R64 y ∧ (BitVec.ofInt 32 x ^^^ BitVec.ofInt 32 y).toInt = z) (ho_32 _) (fun w => kwidth_n 113 w) ht113_32 (fun w => kwidth_n 114 w) ht114_32 (fun w => kwidth_n 107 w) ht107_32 (fun w => kwidth_n 115 w) ht115_32 ha hb (by omega) (by omega) (by omega) (by omega) (by omega) (by omega) (by omega) (by omega) (by omega) (by omega) (by omega) (by omega) (by omega) (by omega)
    ?S ?N ?E1 ?E2 ?E3 ?E4 (ones_32 _ _ rfl) (ones_32 _ _ rfl) (ones_32 _ _ rfl) (ones_32 _ _ rfl) ?E9 (ones_32 _ _ rfl) ?Z ?F w hT rfl
  case S =>
    rw [← BitVec.toNat_and, ← BitVec.toNat_or] at hboth
    unfold Hid
    omega
  case N => unfold Hid; omega
  case E1 => exact ⟨r64_32 _, r64_32 _, by rw [of_toInt, of_toInt]⟩
  case E2 => exact ⟨r64_32 _, r64_32 _, by rw [of_toInt, of_toInt]⟩
  case E3 => exact ⟨r0, r64_32 _, by rw [of_toInt, z0]⟩
  case E4 => exact ⟨r64_32 _, r64_32 _, by rw [of_toInt, of_toInt]⟩
  case E9 => exact ⟨r64_32 _, r1, by rw [of_toInt, z2]⟩
  case Z =>
    intro h0
    have hA : A = 0#32 := BitVec.eq_of_toInt_eq (h0.trans (by decide))
    subst hA
    exact ⟨high_32 _ _ (by decide +kernel), lows_32 _ _ (by decide +kernel)⟩
  case F =>
    intro h0
    have hn : A.toNat ≠ 0 := by
      intro h1
      apply h0
      have : A = 0#32 := BitVec.eq_of_toNat_eq (h1.trans (by decide))
      rw [this]; decide
    rw [if_neg hn] at ht
    obtain ⟨hlow, hc⟩ := low_32 A hn
    rw [ht] at hlow hc
    obtain ⟨f1, f2, f3⟩ := pow_facts ⟨t, by omega⟩
    dsimp only at f1 f2 f3
    have hle : 2 ^ t ≤ A.toNat := by rw [← hlow, BitVec.toNat_and]; exact Nat.and_le_left
    have hge := len_ge t A.toNat hle (by omega)
    refine ⟨ones_32 _ _ (by rw [hlow, f1]; rfl), lows_32 _ _ (by rw [ht]; omega), lows_32 _ _ (by rw [hlow, f2]; omega), high_32 _ _ (by rw [hlow, f3]; omega), high_32 _ _ rfl, by omega, by omega, len_32 A⟩
theorem r64_64 (X : BitVec 64) : R64 X.toInt := by have := toInt_lt64 X; unfold R64; omega
theorem ht113_64 : Hid (∀ x y z, (fun x y z => R64 x ∧ R64 y ∧ (BitVec.ofInt 64 x &&& BitVec.ofInt 64 y).toInt = z) x y z → ∀ w, Calls Tryd.prog 8 #[.int .u8 131, .int .i64 x, .int .i64 y] w fun e w' => e = .returned (.int .i64 z) ∧ w' = w) := by
  intro x y z h w
  obtain ⟨hx, hy, hz⟩ := h
  rw [← hz]
  exact ktwo 131 x y _ _ (fun w w' => w' = w) (fun w => num_131 x y hx hy w) w
theorem ht114_64 : Hid (∀ x y z, (fun x y z => R64 x ∧ R64 y ∧ (BitVec.ofInt 64 x ||| BitVec.ofInt 64 y).toInt = z) x y z → ∀ w, Calls Tryd.prog 8 #[.int .u8 132, .int .i64 x, .int .i64 y] w fun e w' => e = .returned (.int .i64 z) ∧ w' = w) := by
  intro x y z h w
  obtain ⟨hx, hy, hz⟩ := h
  rw [← hz]
  exact ktwo 132 x y _ _ (fun w w' => w' = w) (fun w => num_132 x y hx hy w) w
theorem ht107_64 : Hid (∀ x y z, (fun x y z => R64 x ∧ R64 y ∧ (BitVec.ofInt 64 x - BitVec.ofInt 64 y).toInt = z) x y z → ∀ w, Calls Tryd.prog 8 #[.int .u8 125, .int .i64 x, .int .i64 y] w fun e w' => e = .returned (.int .i64 z) ∧ w' = w) := by
  intro x y z h w
  obtain ⟨hx, hy, hz⟩ := h
  rw [← hz]
  exact ktwo 125 x y _ _ (fun w w' => w' = w) (fun w => num_125 x y hx hy w) w
theorem ht115_64 : Hid (∀ x y z, (fun x y z => R64 x ∧ R64 y ∧ (BitVec.ofInt 64 x ^^^ BitVec.ofInt 64 y).toInt = z) x y z → ∀ w, Calls Tryd.prog 8 #[.int .u8 133, .int .i64 x, .int .i64 y] w fun e w' => e = .returned (.int .i64 z) ∧ w' = w) := by
  intro x y z h w
  obtain ⟨hx, hy, hz⟩ := h
  rw [← hz]
  exact ktwo 133 x y _ _ (fun w w' => w' = w) (fun w => num_133 x y hx hy w) w
/-- What an instruction of one number tells. -/
def OO64 (n x z : Int) : Prop := 0 ≤ n ∧ n < 200 ∧ ∀ w, TabIn w → Calls Tryd.prog 7 #[.int .u8 (n + 18), .int .i64 x] w fun e w' => e = .returned (.int .i64 z) ∧ w' = w
theorem ho_64 (P : Nat) : Hid (∀ n x z, OO64 n x z → ∀ w, w.cell? ⟨P, 0, none⟩ = some (.bool true) → TabIn w → Calls Tryd.prog 6 #[.int .u8 n, .int .i64 x, .pointer (some ⟨P, 0, none⟩)] w fun e w' => e = .returned (.int .i64 z) ∧ w' = w) :=
  fun n x z h w hc hT => c_countW P n x z h.1 h.2.1 w (h.2.2 w hT) hc
theorem ones_64 (A : BitVec 64) (z : Int) (hz : (popN 64 A.toNat : Int) = z) : OO64 105 A.toInt z := by
  refine ⟨by omega, by omega, fun w _ => ?_⟩
  have h := kone 123 _ _ _ w (pone_123 A.toInt w)
  rw [cutN, cutN_64, hz] at h
  exact h
theorem high_64 (A : BitVec 64) (z : Int) (hz : 64 - (Lib.bitLen A.toNat : Int) = z) : OO64 103 A.toInt z := by
  refine ⟨by omega, by omega, fun w _ => ?_⟩
  have h := kone 121 _ _ _ w (pone_121 A.toInt w)
  rw [cutN, cutN_64, hz] at h
  exact h
theorem lows_64 (A : BitVec 64) (z : Int) (hz : min 64 (Lib.ctz 64 A.toNat : Int) = z) : OO64 104 A.toInt z := by
  refine ⟨by omega, by omega, fun w hT => ?_⟩
  have h := kone 122 _ _ _ w (pone_122 A.toInt w hT)
  rw [cutN, cutN_64, hz] at h
  exact h
theorem countsEq64 (A B : BitVec 64) (a0 b0 : Int) (ha : fitW true a0 = A.toInt) (hb : fitW true b0 = B.toInt) (w : World) (hT : TabIn w) :
    Calls Tryd.prog 3 #[.int .i64 a0, .int .i64 b0, .bool true] w fun e w' => e = .returned (.bool true) ∧ Below w.heap.size w w' := by
  have z0 : BitVec.ofInt 64 0 = 0#64 := by decide
  have z2 : BitVec.ofInt 64 (-1) = -1#64 := by decide
  have r0 : R64 0 := by unfold R64; omega
  have r1 : R64 (-1) := by unfold R64; omega
  have p1 := popN_le 64 (A &&& B).toNat
  have p2 := popN_le 64 (A ||| B).toNat
  have p3 := popN_le 64 A.toNat
  have p4 := popN_le 64 B.toNat
  have p5 := popN_le 64 (A ^^^ -1#64).toNat
  have hl := A.isLt
  have hlen := Lib.bitLen_le A.toNat 64 (by omega) hl
  have hboth := pop_both 64 A.toNat B.toNat
  have hnot := not_64 A
  obtain ⟨t, ht⟩ : ∃ t, (if A.toNat = 0 then 0 else Lib.ctz 64 A.toNat) = t := ⟨_, rfl⟩
  have htl : t < 64 := by
    rw [← ht]
    split
    · omega
    · rename_i h0
      exact (low_64 A h0).2
  refine numCounts_coreW a0 b0 A.toInt B.toInt (A &&& B).toInt (A ||| B).toInt (0#64 - A).toInt (A &&& (0#64 - A)).toInt (A ^^^ -1#64).toInt (popN 64 (A &&& B).toNat : Int) (popN 64 (A ||| B).toNat : Int) (popN 64 A.toNat : Int) (popN 64 B.toNat : Int) (popN 64 (A ^^^ -1#64).toNat : Int) (t : Int) (63 - (t : Int)) (64 - (Lib.bitLen A.toNat : Int)) 131 132 125 133 w.heap.size OO64 (fun x y z => R64 x ∧ R64 y ∧ (BitVec.ofInt 64 x &&& BitVec.ofInt 64 y).toInt = z) (fun x y z => R64 x ∧ R64 y ∧ (BitVec.ofInt 64 x ||| BitVec.ofInt 64 y).toInt = z) (fun x y z => R64 x ∧ R64 y ∧ (BitVec.ofInt 64 x - BitVec.ofInt 64 y).toInt = z) (fun x y z => R64 x ∧ R64 y ∧ (BitVec.ofInt 64 x ^^^ BitVec.ofInt 64 y).toInt = z) (ho_64 _) (fun w => kwidth_b 113 (by omega) (by omega) w) ht113_64 (fun w => kwidth_b 114 (by omega) (by omega) w) ht114_64 (fun w => kwidth_b 107 (by omega) (by omega) w) ht107_64 (fun w => kwidth_b 115 (by omega) (by omega) w) ht115_64 ha hb (by omega) (by omega) (by omega) (by omega) (by omega) (by omega) (by omega) (by omega) (by omega) (by omega) (by omega) (by omega) (by omega) (by omega)
    ?S ?N ?E1 ?E2 ?E3 ?E4 (ones_64 _ _ rfl) (ones_64 _ _ rfl) (ones_64 _ _ rfl) (ones_64 _ _ rfl) ?E9 (ones_64 _ _ rfl) ?Z ?F w hT rfl
  case S =>
    rw [← BitVec.toNat_and, ← BitVec.toNat_or] at hboth
    unfold Hid
    omega
  case N => unfold Hid; omega
  case E1 => exact ⟨r64_64 _, r64_64 _, by rw [of_toInt, of_toInt]⟩
  case E2 => exact ⟨r64_64 _, r64_64 _, by rw [of_toInt, of_toInt]⟩
  case E3 => exact ⟨r0, r64_64 _, by rw [of_toInt, z0]⟩
  case E4 => exact ⟨r64_64 _, r64_64 _, by rw [of_toInt, of_toInt]⟩
  case E9 => exact ⟨r64_64 _, r1, by rw [of_toInt, z2]⟩
  case Z =>
    intro h0
    have hA : A = 0#64 := BitVec.eq_of_toInt_eq (h0.trans (by decide))
    subst hA
    exact ⟨high_64 _ _ (by decide +kernel), lows_64 _ _ (by decide +kernel)⟩
  case F =>
    intro h0
    have hn : A.toNat ≠ 0 := by
      intro h1
      apply h0
      have : A = 0#64 := BitVec.eq_of_toNat_eq (h1.trans (by decide))
      rw [this]; decide
    rw [if_neg hn] at ht
    obtain ⟨hlow, hc⟩ := low_64 A hn
    rw [ht] at hlow hc
    obtain ⟨f1, f2, f3⟩ := pow_facts ⟨t, by omega⟩
    dsimp only at f1 f2 f3
    have hle : 2 ^ t ≤ A.toNat := by rw [← hlow, BitVec.toNat_and]; exact Nat.and_le_left
    have hge := len_ge t A.toNat hle (by omega)
    refine ⟨ones_64 _ _ (by rw [hlow, f1]; rfl), lows_64 _ _ (by rw [ht]; omega), lows_64 _ _ (by rw [hlow, f2]; omega), high_64 _ _ (by rw [hlow, f3]; omega), high_64 _ _ rfl, by omega, by omega, len_64 A⟩
theorem numCounts_walk (a0 : Int) (a1 : Int) (a2 : Bool) (w0 : (Lit.int .i64 a0).wf = true) (w1 : (Lit.int .i64 a1).wf = true) (w : World) (hT : TabIn w) :
    Calls Tryd.prog 3 #[.int .i64 a0, .int .i64 a1, .bool a2] w fun e w' => e = .returned (.bool true) ∧ Below w.heap.size w w' := by
  cases a2 with
  | false => exact countsEq32 (BitVec.ofInt 32 a0) (BitVec.ofInt 32 a1) a0 a1 (w32_bv _) (w32_bv _) w hT
  | true => exact countsEq64 (BitVec.ofInt 64 a0) (BitVec.ofInt 64 a1) a0 a1 (of64_toInt a0 (bounds_i64 w0)).symm (of64_toInt a1 (bounds_i64 w1)).symm w hT

end Go.Proofs.YtlbilmgpnpghlabDoor
