/-
  The law of bits that are turned round: its walk.
-/
import Derived.Test.YtlbilmgpnpghlabTurnsCoreN
import Derived.Test.YtlbilmgpnpghlabTurnsCoreW
import Derived.Test.YtlbilmgpnpghlabTurnMaths
import Derived.OpenShut
namespace Go.Proofs.Ytlbilmgpnpghlab
open Go.RowKit

theorem wf_R64 {a : Int} (h : (Lit.int .i64 a).wf = true) : R64 a := by
  exact bounds_i64 h
theorem r64_32 (X : BitVec 32) : R64 X.toInt := by have := toInt_lt32 X; unfold R64; omega
theorem cl1_32 (P : Nat) : Hid (∀ x y z, (fun x y z => R64 x ∧ R64 y ∧ (BitVec.ofInt 32 x <<< ((BitVec.ofInt 32 y).toNat % 32) ||| BitVec.ofInt 32 x >>> (32 - ((BitVec.ofInt 32 y).toNat % 32))).toInt = z) x y z → ∀ w, w.cell? ⟨P, 0, none⟩ = some (.bool false) → Calls Try.prog 9 #[.int .i64 x, .int .i64 y, .pointer (some ⟨P, 0, none⟩)] w fun e w' => e = .returned (.int .i64 z) ∧ ∃ n, w' = w.drewN n) := by
  intro x y z h w hc
  obtain ⟨_, _, hz⟩ := h
  rw [← hz]
  exact c_NumTurns_1 false P x y _ 119 (fun w => kwidth_n 119 w) (fun w w' => ∃ n, w' = w.drewN n) (fun w => ktwo 119 x y _ _ (fun w w' => ∃ n, w' = w.drewN n) (fun w => dnum_119 x y w) w) w hc
theorem cl2_32 (P : Nat) : Hid (∀ x y z, (fun x y z => R64 x ∧ R64 y ∧ (BitVec.ofInt 32 x <<< (32 - ((BitVec.ofInt 32 y).toNat % 32)) ||| BitVec.ofInt 32 x >>> ((BitVec.ofInt 32 y).toNat % 32)).toInt = z) x y z → ∀ w, w.cell? ⟨P, 0, none⟩ = some (.bool false) → Calls Try.prog 11 #[.int .i64 x, .int .i64 y, .pointer (some ⟨P, 0, none⟩)] w fun e w' => e = .returned (.int .i64 z) ∧ ∃ n, w' = w.drewN n) := by
  intro x y z h w hc
  obtain ⟨_, _, hz⟩ := h
  rw [← hz]
  exact c_NumTurns_2 false P x y _ 120 (fun w => kwidth_n 120 w) (fun w w' => ∃ n, w' = w.drewN n) (fun w => ktwo 120 x y _ _ (fun w w' => ∃ n, w' = w.drewN n) (fun w => dnum_120 x y w) w) w hc
theorem cl3_32 (P : Nat) : Hid (∀ x y z, (fun x y z => R64 x ∧ R64 y ∧ (BitVec.ofInt 32 x <<< ((BitVec.ofInt 32 y).toNat % 32)).toInt = z) x y z → ∀ w, w.cell? ⟨P, 0, none⟩ = some (.bool false) → Calls Try.prog 12 #[.int .i64 x, .int .i64 y, .pointer (some ⟨P, 0, none⟩)] w fun e w' => e = .returned (.int .i64 z) ∧ w' = w) := by
  intro x y z h w hc
  obtain ⟨_, _, hz⟩ := h
  rw [← hz]
  exact c_NumTurns_3 false P x y _ 116 (fun w => kwidth_n 116 w) (fun w w' => w' = w) (fun w => ktwo 116 x y _ _ (fun w w' => w' = w) (fun w => num_116 x y w) w) w hc
theorem ht107_32 : Hid (∀ x y z, (fun x y z => R64 x ∧ R64 y ∧ (BitVec.ofInt 32 x - BitVec.ofInt 32 y).toInt = z) x y z → ∀ w, Calls Try.prog 10 #[.int .u8 107, .int .i64 x, .int .i64 y] w fun e w' => e = .returned (.int .i64 z) ∧ w' = w) := by
  intro x y z h w
  obtain ⟨_, _, hz⟩ := h
  rw [← hz]
  exact ktwo 107 x y _ _ (fun w w' => w' = w) (fun w => num_107 x y w) w
theorem ht108_32 : Hid (∀ x y z, (fun x y z => R64 x ∧ R64 y ∧ (BitVec.ofInt 32 x * BitVec.ofInt 32 y).toInt = z) x y z → ∀ w, Calls Try.prog 10 #[.int .u8 108, .int .i64 x, .int .i64 y] w fun e w' => e = .returned (.int .i64 z) ∧ w' = w) := by
  intro x y z h w
  obtain ⟨_, _, hz⟩ := h
  rw [← hz]
  exact ktwo 108 x y _ _ (fun w w' => w' = w) (fun w => num_108 x y w) w
theorem ht110_32 : Hid (∀ x y z, (fun x y z => R64 x ∧ R64 y ∧ ¬ (BitVec.ofInt 32 y).toInt = 0 ∧ (BitVec.ofInt 32 x / BitVec.ofInt 32 y).toInt = z) x y z → ∀ w, Calls Try.prog 10 #[.int .u8 110, .int .i64 x, .int .i64 y] w fun e w' => e = .returned (.int .i64 z) ∧ w' = w) := by
  intro x y z h w
  obtain ⟨_, _, hn, hz⟩ := h
  rw [← hz]
  refine ktwo 110 x y _ 0 (fun w w' => w' = w) (fun w => ?_) w
  have h := num_110 x y w
  unfold recV at h
  simp only [hn, if_false] at h
  exact h
theorem ht117_32 : Hid (∀ x y z, (fun x y z => R64 x ∧ R64 y ∧ ((BitVec.ofInt 32 x).sshiftRight ((BitVec.ofInt 32 y).toNat % 32)).toInt = z) x y z → ∀ w, Calls Try.prog 10 #[.int .u8 117, .int .i64 x, .int .i64 y] w fun e w' => e = .returned (.int .i64 z) ∧ w' = w) := by
  intro x y z h w
  obtain ⟨_, _, hz⟩ := h
  rw [← hz]
  exact ktwo 117 x y _ _ (fun w w' => w' = w) (fun w => num_117 x y w) w
theorem ht118_32 : Hid (∀ x y z, (fun x y z => R64 x ∧ R64 y ∧ (BitVec.ofInt 32 x >>> ((BitVec.ofInt 32 y).toNat % 32)).toInt = z) x y z → ∀ w, Calls Try.prog 10 #[.int .u8 118, .int .i64 x, .int .i64 y] w fun e w' => e = .returned (.int .i64 z) ∧ w' = w) := by
  intro x y z h w
  obtain ⟨_, _, hz⟩ := h
  rw [← hz]
  exact ktwo 118 x y _ _ (fun w w' => w' = w) (fun w => num_118 x y w) w
theorem ht73_32 : Hid (∀ x y z, (fun x y z => R64 x ∧ R64 y ∧ t2i (decide ((BitVec.ofInt 32 x).toNat < (BitVec.ofInt 32 y).toNat)) = z) x y z → ∀ w, Calls Try.prog 10 #[.int .u8 73, .int .i64 x, .int .i64 y] w fun e w' => e = .returned (.int .i64 z) ∧ w' = w) := by
  intro x y z h w
  obtain ⟨_, _, hz⟩ := h
  rw [← hz]
  exact ktwo 73 x y _ _ (fun w w' => w' = w) (fun w => num_73 x y w) w
theorem small32 (k : Int) (h0 : 0 ≤ k) (h1 : k < 200) : (BitVec.ofInt 32 k).toNat = k.toNat ∧ (BitVec.ofInt 32 k).toInt = k := by
  constructor
  · rw [BitVec.toNat_ofInt]; omega
  · rw [← w32_bv, wrap32]; omega
theorem mod32 (N : BitVec 32) : N.toInt % 32 = ((N.toNat % 32 : Nat) : Int) := by
  have h := u32_of N
  
  omega
theorem turnsEq32 (A N M : BitVec 32) (a0 n0 m0 : Int) (ha : fitW false a0 = A.toInt) (hb : fitW false n0 = N.toInt) (hc : fitW false m0 = M.toInt) (w : World) :
    Calls Try.prog 4 #[.int .i64 a0, .int .i64 n0, .int .i64 m0, .bool false] w fun e w' => e = .returned (.bool true) ∧ Below w.heap.size w w' := by
  obtain ⟨k, hk⟩ : ∃ k, N.toNat % 32 = k := ⟨_, rfl⟩
  obtain ⟨r, hr⟩ : ∃ r, M.toNat % 32 = r := ⟨_, rfl⟩
  have hk1 : k < 32 := by rw [← hk]; exact Nat.mod_lt _ (by omega)
  have hr1 : r < 32 := by rw [← hr]; exact Nat.mod_lt _ (by omega)
  have eN := mod32 N
  have eM := mod32 M
  rw [hk] at eN
  rw [hr] at eM
  have z1 : (BitVec.ofInt 32 1) = 1#32 := by decide
  have sk := small32 (k : Int) (by omega) (by omega)
  have skr := small32 ((k : Int) + (r : Int)) (by omega) (by omega)
  have swk := small32 (32 - (k : Int)) (by omega) (by omega)
  have sw := small32 31 (by omega) (by omega)
  have bk : (BitVec.ofInt 32 (k : Int)).toNat % 32 = k := by rw [sk.1]; omega
  have bw : (BitVec.ofInt 32 31).toNat % 32 = 31 := by rw [sw.1]; rfl
  have r1 : R64 1 := by unfold R64; omega
  have rk : R64 (k : Int) := by unfold R64; omega
  have rkr : R64 ((k : Int) + (r : Int)) := by unfold R64; omega
  have rwk : R64 (32 - (k : Int)) := by unfold R64; omega
  have rw1 : R64 31 := by unfold R64; omega
  have nA := toInt_lt32 N
  have mA := toInt_lt32 M
  refine numTurns_coreN a0 n0 m0 A.toInt N.toInt M.toInt (k : Int) (r : Int) (1#32 <<< k).toInt (A.sshiftRight k).toInt ((A.sshiftRight k) <<< k).toInt (A - (A.sshiftRight k) <<< k).toInt (A.rotateLeft N.toNat).toInt ((A.rotateLeft N.toNat).rotateLeft M.toNat).toInt (A <<< k).toInt (A >>> k).toInt (A.sshiftRight 31).toInt 107 108 110 117 118 73 w.heap.size (fun x y z => R64 x ∧ R64 y ∧ (BitVec.ofInt 32 x <<< ((BitVec.ofInt 32 y).toNat % 32) ||| BitVec.ofInt 32 x >>> (32 - ((BitVec.ofInt 32 y).toNat % 32))).toInt = z) (fun x y z => R64 x ∧ R64 y ∧ (BitVec.ofInt 32 x <<< (32 - ((BitVec.ofInt 32 y).toNat % 32)) ||| BitVec.ofInt 32 x >>> ((BitVec.ofInt 32 y).toNat % 32)).toInt = z) (fun x y z => R64 x ∧ R64 y ∧ (BitVec.ofInt 32 x <<< ((BitVec.ofInt 32 y).toNat % 32)).toInt = z) (fun x y z => R64 x ∧ R64 y ∧ (BitVec.ofInt 32 x - BitVec.ofInt 32 y).toInt = z) (fun x y z => R64 x ∧ R64 y ∧ (BitVec.ofInt 32 x * BitVec.ofInt 32 y).toInt = z) (fun x y z => R64 x ∧ R64 y ∧ ¬ (BitVec.ofInt 32 y).toInt = 0 ∧ (BitVec.ofInt 32 x / BitVec.ofInt 32 y).toInt = z) (fun x y z => R64 x ∧ R64 y ∧ ((BitVec.ofInt 32 x).sshiftRight ((BitVec.ofInt 32 y).toNat % 32)).toInt = z) (fun x y z => R64 x ∧ R64 y ∧ (BitVec.ofInt 32 x >>> ((BitVec.ofInt 32 y).toNat % 32)).toInt = z) (fun x y z => R64 x ∧ R64 y ∧ t2i (decide ((BitVec.ofInt 32 x).toNat < (BitVec.ofInt 32 y).toNat)) = z)
    (cl1_32 _) (cl2_32 _) (cl3_32 _) (fun w => kwidth_n 107 w) ht107_32 (fun w => kwidth_n 108 w) ht108_32 (fun w => kwidth_n 110 w) ht110_32 (fun w => kwidth_n 117 w) ht117_32 (fun w => kwidth_n 118 w) ht118_32 (fun w => kwidth_n 73 w) ht73_32
    (fun w => rest_of_any _ 32 _ (by omega) (by omega) eN (by omega) (by omega) w) (fun w => rest_of_any _ 32 _ (by omega) (by omega) eM (by omega) (by omega) w) (by omega) (by omega) (by omega) (by omega) ha hb hc
    ?E0 ?E1 ?E2 ?E3 ?F0 ?F1 ?F2 ?F3 ?F4 ?F5 ?F6 ?F7 ?F8 ?F9 ?F10 ?F11 w rfl
  case E0 => exact ⟨r1, rk, by rw [bk, z1]⟩
  case E1 => exact ⟨r64_32 _, r64_32 _, by rw [of_toInt, of_toInt, hk]⟩
  case E2 => exact ⟨r64_32 _, r64_32 _, by rw [of_toInt, of_toInt, hk]⟩
  case E3 => exact ⟨r64_32 _, r64_32 _, by rw [of_toInt, of_toInt]⟩
  case F0 => exact ⟨r64_32 _, r64_32 _, by rw [of_toInt, of_toInt, rl_def]⟩
  case F1 => exact ⟨r64_32 _, r64_32 _, by rw [of_toInt, of_toInt, rr_def, turn_back]⟩
  case F2 => exact ⟨r64_32 _, r64_32 _, by rw [of_toInt, of_toInt, rl_def]⟩
  case F3 => exact ⟨r64_32 _, rkr, by rw [of_toInt, rl_def, turn_twice A N.toNat M.toNat (BitVec.ofInt 32 ((k : Int) + (r : Int))).toNat (by rw [skr.1, hk, hr]; congr 1)]⟩
  case F4 => exact ⟨r64_32 _, rwk, by rw [of_toInt, rr_def, turn_other A N.toNat _ (by rw [swk.1, hk]; omega)]⟩
  case F5 => exact ⟨r64_32 _, r64_32 _, by rw [of_toInt, of_toInt, hk]⟩
  case F6 => exact ⟨r64_32 _, r64_32 _, by rw [of_toInt, of_toInt, ← shl_mul]⟩
  case F7 => exact ⟨r64_32 _, r64_32 _, by rw [of_toInt, of_toInt, hk]⟩
  case F8 =>
    refine ⟨r64_32 _, r64_32 _, ?_, by rw [of_toInt, of_toInt, ← shr_div A k hk1]⟩
    rw [of_toInt]
    intro h0
    have h1 : (1#32 <<< k) = 0#32 := BitVec.eq_of_toInt_eq (h0.trans (by decide))
    have h2 := pow_nat (W := 32) k hk1
    rw [h1] at h2
    have h3 : 0 < 2 ^ k := Nat.pow_pos (by omega)
    rw [← h2] at h3
    exact absurd h3 (by decide)
  case F9 => exact Or.inr ⟨r64_32 _, r64_32 _, by rw [of_toInt, of_toInt, decide_eq_true (rest_lt A k hk1)]; rfl⟩
  case F10 => exact ⟨r64_32 _, rw1, by rw [of_toInt, bw]⟩
  case F11 => exact sign_of A
theorem r64_64 (X : BitVec 64) : R64 X.toInt := by have := toInt_lt64 X; unfold R64; omega
theorem cl1_64 (P : Nat) : Hid (∀ x y z, (fun x y z => R64 x ∧ R64 y ∧ (BitVec.ofInt 64 x <<< ((BitVec.ofInt 64 y).toNat % 64) ||| BitVec.ofInt 64 x >>> (64 - ((BitVec.ofInt 64 y).toNat % 64))).toInt = z) x y z → ∀ w, w.cell? ⟨P, 0, none⟩ = some (.bool true) → Calls Try.prog 9 #[.int .i64 x, .int .i64 y, .pointer (some ⟨P, 0, none⟩)] w fun e w' => e = .returned (.int .i64 z) ∧ ∃ n, w' = w.drewN n) := by
  intro x y z h w hc
  obtain ⟨hx, hy, hz⟩ := h
  rw [← hz]
  exact c_NumTurns_1 true P x y _ 137 (fun w => kwidth_b 119 (by omega) (by omega) w) (fun w w' => ∃ n, w' = w.drewN n) (fun w => ktwo 137 x y _ _ (fun w w' => ∃ n, w' = w.drewN n) (fun w => dnum_137 x y hx hy w) w) w hc
theorem cl2_64 (P : Nat) : Hid (∀ x y z, (fun x y z => R64 x ∧ R64 y ∧ (BitVec.ofInt 64 x <<< (64 - ((BitVec.ofInt 64 y).toNat % 64)) ||| BitVec.ofInt 64 x >>> ((BitVec.ofInt 64 y).toNat % 64)).toInt = z) x y z → ∀ w, w.cell? ⟨P, 0, none⟩ = some (.bool true) → Calls Try.prog 11 #[.int .i64 x, .int .i64 y, .pointer (some ⟨P, 0, none⟩)] w fun e w' => e = .returned (.int .i64 z) ∧ ∃ n, w' = w.drewN n) := by
  intro x y z h w hc
  obtain ⟨hx, hy, hz⟩ := h
  rw [← hz]
  exact c_NumTurns_2 true P x y _ 138 (fun w => kwidth_b 120 (by omega) (by omega) w) (fun w w' => ∃ n, w' = w.drewN n) (fun w => ktwo 138 x y _ _ (fun w w' => ∃ n, w' = w.drewN n) (fun w => dnum_138 x y hx hy w) w) w hc
theorem cl3_64 (P : Nat) : Hid (∀ x y z, (fun x y z => R64 x ∧ R64 y ∧ (BitVec.ofInt 64 x <<< ((BitVec.ofInt 64 y).toNat % 64)).toInt = z) x y z → ∀ w, w.cell? ⟨P, 0, none⟩ = some (.bool true) → Calls Try.prog 12 #[.int .i64 x, .int .i64 y, .pointer (some ⟨P, 0, none⟩)] w fun e w' => e = .returned (.int .i64 z) ∧ w' = w) := by
  intro x y z h w hc
  obtain ⟨hx, hy, hz⟩ := h
  rw [← hz]
  exact c_NumTurns_3 true P x y _ 134 (fun w => kwidth_b 116 (by omega) (by omega) w) (fun w w' => w' = w) (fun w => ktwo 134 x y _ _ (fun w w' => w' = w) (fun w => num_134 x y hx hy w) w) w hc
theorem ht107_64 : Hid (∀ x y z, (fun x y z => R64 x ∧ R64 y ∧ (BitVec.ofInt 64 x - BitVec.ofInt 64 y).toInt = z) x y z → ∀ w, Calls Try.prog 10 #[.int .u8 125, .int .i64 x, .int .i64 y] w fun e w' => e = .returned (.int .i64 z) ∧ w' = w) := by
  intro x y z h w
  obtain ⟨hx, hy, hz⟩ := h
  rw [← hz]
  exact ktwo 125 x y _ _ (fun w w' => w' = w) (fun w => num_125 x y hx hy w) w
theorem ht108_64 : Hid (∀ x y z, (fun x y z => R64 x ∧ R64 y ∧ (BitVec.ofInt 64 x * BitVec.ofInt 64 y).toInt = z) x y z → ∀ w, Calls Try.prog 10 #[.int .u8 126, .int .i64 x, .int .i64 y] w fun e w' => e = .returned (.int .i64 z) ∧ w' = w) := by
  intro x y z h w
  obtain ⟨hx, hy, hz⟩ := h
  rw [← hz]
  exact ktwo 126 x y _ _ (fun w w' => w' = w) (fun w => num_126 x y hx hy w) w
theorem ht110_64 : Hid (∀ x y z, (fun x y z => R64 x ∧ R64 y ∧ ¬ (BitVec.ofInt 64 y).toInt = 0 ∧ (BitVec.ofInt 64 x / BitVec.ofInt 64 y).toInt = z) x y z → ∀ w, Calls Try.prog 10 #[.int .u8 128, .int .i64 x, .int .i64 y] w fun e w' => e = .returned (.int .i64 z) ∧ w' = w) := by
  intro x y z h w
  obtain ⟨hx, hy, hn, hz⟩ := h
  rw [← hz]
  refine ktwo 128 x y _ 0 (fun w w' => w' = w) (fun w => ?_) w
  have h := num_128 x y hx hy w
  unfold recV at h
  simp only [hn, if_false] at h
  exact h
theorem ht117_64 : Hid (∀ x y z, (fun x y z => R64 x ∧ R64 y ∧ ((BitVec.ofInt 64 x).sshiftRight ((BitVec.ofInt 64 y).toNat % 64)).toInt = z) x y z → ∀ w, Calls Try.prog 10 #[.int .u8 135, .int .i64 x, .int .i64 y] w fun e w' => e = .returned (.int .i64 z) ∧ w' = w) := by
  intro x y z h w
  obtain ⟨hx, hy, hz⟩ := h
  rw [← hz]
  exact ktwo 135 x y _ _ (fun w w' => w' = w) (fun w => num_135 x y hx hy w) w
theorem ht118_64 : Hid (∀ x y z, (fun x y z => R64 x ∧ R64 y ∧ (BitVec.ofInt 64 x >>> ((BitVec.ofInt 64 y).toNat % 64)).toInt = z) x y z → ∀ w, Calls Try.prog 10 #[.int .u8 136, .int .i64 x, .int .i64 y] w fun e w' => e = .returned (.int .i64 z) ∧ w' = w) := by
  intro x y z h w
  obtain ⟨hx, hy, hz⟩ := h
  rw [← hz]
  exact ktwo 136 x y _ _ (fun w w' => w' = w) (fun w => num_136 x y hx hy w) w
theorem ht73_64 : Hid (∀ x y z, (fun x y z => R64 x ∧ R64 y ∧ t2i (decide ((BitVec.ofInt 64 x).toNat < (BitVec.ofInt 64 y).toNat)) = z) x y z → ∀ w, Calls Try.prog 10 #[.int .u8 84, .int .i64 x, .int .i64 y] w fun e w' => e = .returned (.int .i64 z) ∧ w' = w) := by
  intro x y z h w
  obtain ⟨hx, hy, hz⟩ := h
  rw [← hz]
  exact ktwo 84 x y _ _ (fun w w' => w' = w) (fun w => num_84 x y hx hy w) w
theorem small64 (k : Int) (h0 : 0 ≤ k) (h1 : k < 200) : (BitVec.ofInt 64 k).toNat = k.toNat ∧ (BitVec.ofInt 64 k).toInt = k := by
  constructor
  · rw [BitVec.toNat_ofInt]; omega
  · rw [← w64_bv, wrap64]; omega
theorem mod64 (N : BitVec 64) : N.toInt % 64 = ((N.toNat % 64 : Nat) : Int) := by
  have h := u64_of N
  rw [IntKind.wrap_u64] at h
  omega
theorem turnsEq64 (A N M : BitVec 64) (a0 n0 m0 : Int) (ha : fitW true a0 = A.toInt) (hb : fitW true n0 = N.toInt) (hc : fitW true m0 = M.toInt) (w : World) :
    Calls Try.prog 4 #[.int .i64 a0, .int .i64 n0, .int .i64 m0, .bool true] w fun e w' => e = .returned (.bool true) ∧ Below w.heap.size w w' := by
  obtain ⟨k, hk⟩ : ∃ k, N.toNat % 64 = k := ⟨_, rfl⟩
  obtain ⟨r, hr⟩ : ∃ r, M.toNat % 64 = r := ⟨_, rfl⟩
  have hk1 : k < 64 := by rw [← hk]; exact Nat.mod_lt _ (by omega)
  have hr1 : r < 64 := by rw [← hr]; exact Nat.mod_lt _ (by omega)
  have eN := mod64 N
  have eM := mod64 M
  rw [hk] at eN
  rw [hr] at eM
  have z1 : (BitVec.ofInt 64 1) = 1#64 := by decide
  have sk := small64 (k : Int) (by omega) (by omega)
  have skr := small64 ((k : Int) + (r : Int)) (by omega) (by omega)
  have swk := small64 (64 - (k : Int)) (by omega) (by omega)
  have sw := small64 63 (by omega) (by omega)
  have bk : (BitVec.ofInt 64 (k : Int)).toNat % 64 = k := by rw [sk.1]; omega
  have bw : (BitVec.ofInt 64 63).toNat % 64 = 63 := by rw [sw.1]; rfl
  have r1 : R64 1 := by unfold R64; omega
  have rk : R64 (k : Int) := by unfold R64; omega
  have rkr : R64 ((k : Int) + (r : Int)) := by unfold R64; omega
  have rwk : R64 (64 - (k : Int)) := by unfold R64; omega
  have rw1 : R64 63 := by unfold R64; omega
  have nA := toInt_lt64 N
  have mA := toInt_lt64 M
  refine numTurns_coreW a0 n0 m0 A.toInt N.toInt M.toInt (k : Int) (r : Int) (1#64 <<< k).toInt (A.sshiftRight k).toInt ((A.sshiftRight k) <<< k).toInt (A - (A.sshiftRight k) <<< k).toInt (A.rotateLeft N.toNat).toInt ((A.rotateLeft N.toNat).rotateLeft M.toNat).toInt (A <<< k).toInt (A >>> k).toInt (A.sshiftRight 63).toInt 125 126 128 135 136 84 w.heap.size (fun x y z => R64 x ∧ R64 y ∧ (BitVec.ofInt 64 x <<< ((BitVec.ofInt 64 y).toNat % 64) ||| BitVec.ofInt 64 x >>> (64 - ((BitVec.ofInt 64 y).toNat % 64))).toInt = z) (fun x y z => R64 x ∧ R64 y ∧ (BitVec.ofInt 64 x <<< (64 - ((BitVec.ofInt 64 y).toNat % 64)) ||| BitVec.ofInt 64 x >>> ((BitVec.ofInt 64 y).toNat % 64)).toInt = z) (fun x y z => R64 x ∧ R64 y ∧ (BitVec.ofInt 64 x <<< ((BitVec.ofInt 64 y).toNat % 64)).toInt = z) (fun x y z => R64 x ∧ R64 y ∧ (BitVec.ofInt 64 x - BitVec.ofInt 64 y).toInt = z) (fun x y z => R64 x ∧ R64 y ∧ (BitVec.ofInt 64 x * BitVec.ofInt 64 y).toInt = z) (fun x y z => R64 x ∧ R64 y ∧ ¬ (BitVec.ofInt 64 y).toInt = 0 ∧ (BitVec.ofInt 64 x / BitVec.ofInt 64 y).toInt = z) (fun x y z => R64 x ∧ R64 y ∧ ((BitVec.ofInt 64 x).sshiftRight ((BitVec.ofInt 64 y).toNat % 64)).toInt = z) (fun x y z => R64 x ∧ R64 y ∧ (BitVec.ofInt 64 x >>> ((BitVec.ofInt 64 y).toNat % 64)).toInt = z) (fun x y z => R64 x ∧ R64 y ∧ t2i (decide ((BitVec.ofInt 64 x).toNat < (BitVec.ofInt 64 y).toNat)) = z)
    (cl1_64 _) (cl2_64 _) (cl3_64 _) (fun w => kwidth_b 107 (by omega) (by omega) w) ht107_64 (fun w => kwidth_b 108 (by omega) (by omega) w) ht108_64 (fun w => kwidth_b 110 (by omega) (by omega) w) ht110_64 (fun w => kwidth_b 117 (by omega) (by omega) w) ht117_64 (fun w => kwidth_b 118 (by omega) (by omega) w) ht118_64 (fun w => kwidth_a 73 (by omega) (by omega) w) ht73_64
    (fun w => rest_of_any _ 64 _ (by omega) (by omega) eN (by omega) (by omega) w) (fun w => rest_of_any _ 64 _ (by omega) (by omega) eM (by omega) (by omega) w) (by omega) (by omega) (by omega) (by omega) ha hb hc
    ?E0 ?E1 ?E2 ?E3 ?F0 ?F1 ?F2 ?F3 ?F4 ?F5 ?F6 ?F7 ?F8 ?F9 ?F10 ?F11 w rfl
  case E0 => exact ⟨r1, rk, by rw [bk, z1]⟩
  case E1 => exact ⟨r64_64 _, r64_64 _, by rw [of_toInt, of_toInt, hk]⟩
  case E2 => exact ⟨r64_64 _, r64_64 _, by rw [of_toInt, of_toInt, hk]⟩
  case E3 => exact ⟨r64_64 _, r64_64 _, by rw [of_toInt, of_toInt]⟩
  case F0 => exact ⟨r64_64 _, r64_64 _, by rw [of_toInt, of_toInt, rl_def]⟩
  case F1 => exact ⟨r64_64 _, r64_64 _, by rw [of_toInt, of_toInt, rr_def, turn_back]⟩
  case F2 => exact ⟨r64_64 _, r64_64 _, by rw [of_toInt, of_toInt, rl_def]⟩
  case F3 => exact ⟨r64_64 _, rkr, by rw [of_toInt, rl_def, turn_twice A N.toNat M.toNat (BitVec.ofInt 64 ((k : Int) + (r : Int))).toNat (by rw [skr.1, hk, hr]; congr 1)]⟩
  case F4 => exact ⟨r64_64 _, rwk, by rw [of_toInt, rr_def, turn_other A N.toNat _ (by rw [swk.1, hk]; omega)]⟩
  case F5 => exact ⟨r64_64 _, r64_64 _, by rw [of_toInt, of_toInt, hk]⟩
  case F6 => exact ⟨r64_64 _, r64_64 _, by rw [of_toInt, of_toInt, ← shl_mul]⟩
  case F7 => exact ⟨r64_64 _, r64_64 _, by rw [of_toInt, of_toInt, hk]⟩
  case F8 =>
    refine ⟨r64_64 _, r64_64 _, ?_, by rw [of_toInt, of_toInt, ← shr_div A k hk1]⟩
    rw [of_toInt]
    intro h0
    have h1 : (1#64 <<< k) = 0#64 := BitVec.eq_of_toInt_eq (h0.trans (by decide))
    have h2 := pow_nat (W := 64) k hk1
    rw [h1] at h2
    have h3 : 0 < 2 ^ k := Nat.pow_pos (by omega)
    rw [← h2] at h3
    exact absurd h3 (by decide)
  case F9 => exact Or.inr ⟨r64_64 _, r64_64 _, by rw [of_toInt, of_toInt, decide_eq_true (rest_lt A k hk1)]; rfl⟩
  case F10 => exact ⟨r64_64 _, rw1, by rw [of_toInt, bw]⟩
  case F11 => exact sign_of A
theorem numTurns_walk (a0 : Int) (a1 : Int) (a2 : Int) (a3 : Bool) (w0 : (Lit.int .i64 a0).wf = true) (w1 : (Lit.int .i64 a1).wf = true) (w2 : (Lit.int .i64 a2).wf = true) (w : World) :
    Calls Try.prog 4 #[.int .i64 a0, .int .i64 a1, .int .i64 a2, .bool a3] w fun e w' => e = .returned (.bool true) ∧ Below w.heap.size w w' := by
  cases a3 with
  | false => exact turnsEq32 (BitVec.ofInt 32 a0) (BitVec.ofInt 32 a1) (BitVec.ofInt 32 a2) a0 a1 a2 (w32_bv _) (w32_bv _) (w32_bv _) w
  | true => exact turnsEq64 (BitVec.ofInt 64 a0) (BitVec.ofInt 64 a1) (BitVec.ofInt 64 a2) a0 a1 a2 (of64_toInt a0 (wf_R64 w0)).symm (of64_toInt a1 (wf_R64 w1)).symm (of64_toInt a2 (wf_R64 w2)).symm w

end Go.Proofs.Ytlbilmgpnpghlab
