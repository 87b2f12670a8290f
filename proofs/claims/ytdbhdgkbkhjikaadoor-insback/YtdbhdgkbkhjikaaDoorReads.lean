/-
  What leb.ReadU and leb.ReadS do, for every text and every number of bits.
-/
import Derived.Test.YtdbhdgkbkhjikaaDoorRead
import Derived.Test.YtdbhdgkbkhjikaaDoorReadMore
namespace Go.Proofs.YtdbhdgkbkhjikaaDoor
open Go.RowKit

/-- What ReadU answers. -/
def rU (B : Int) (l : List Int) : Int × Int × Int := if B = 32 ∨ B = 64 then rdl fitU B l 0 0 else (0, 0, 1)
/-- What ReadS answers. -/
def rS (B : Int) (l : List Int) : Int × Int × Int :=
  if B = 32 ∨ B = 64 then
    if (rdl fitS B l 0 0).2.2 = 0 then ((rdl fitS B l 0 0).1 - (if 64 ≤ l.getD ((rdl fitS B l 0 0).2.1 - 1).toNat 0 then 128 ^ (rdl fitS B l 0 0).2.1.toNat else 0), (rdl fitS B l 0 0).2.1, 0)
    else (0, 0, (rdl fitS B l 0 0).2.2)
  else (0, 0, 1)

/-- What a reading comes to: it ends too early, has no form, or is a number. -/
theorem rdl_all (fit : Int → Int → Bool) (B : Int) (hB : B = 32 ∨ B = 64) (l : List Int) (hl : ∀ b ∈ l, 0 ≤ b ∧ b < 256) :
    rdl fit B l 0 0 = (0, 0, 3) ∨ rdl fit B l 0 0 = (0, 0, 4) ∨
    ∃ f b t, l = f ++ b :: t ∧ (∀ x ∈ f, 128 ≤ x ∧ x < 256) ∧ 0 ≤ b ∧ b < 128 ∧ 7 * (f.length : Int) < B ∧ (B ≤ 7 * (f.length : Int) + 7 → fit b (B - 7 * (f.length : Int)) = true) ∧ rdl fit B l 0 0 = (val (f ++ [b]), (f.length : Int) + 1, 0) := by
  obtain ⟨m, hm1, hm2, hm3⟩ : ∃ m : Nat, 7 * (m : Int) < B ∧ B ≤ 7 * (m : Int) + 7 ∧ m ≤ 9 := by
    rcases hB with rfl | rfl
    · exact ⟨4, by omega, by omega, by omega⟩
    · exact ⟨9, by omega, by omega, by omega⟩
  obtain ⟨f, hf, hc⟩ := split_bytes l hl
  by_cases hlen : m < f.length
  · have hs : f = f.take (m + 1) ++ f.drop (m + 1) := (List.take_append_drop _ f).symm
    have h1 : ∀ b ∈ f.take (m + 1), 128 ≤ b ∧ b < 256 := fun x hx => hf x (List.mem_of_mem_take hx)
    have h2 : (f.take (m + 1)).length = m + 1 := by rw [List.length_take]; omega
    right; left
    rcases hc with rfl | ⟨b, t, rfl, _⟩
    · rw [hs]; exact rdl_long _ _ h1 m h2 hm1 hm2
    · rw [hs, List.append_assoc]; exact rdl_long _ _ h1 m h2 hm1 hm2
  · rcases hc with rfl | ⟨b, t, rfl, hb0, hb⟩
    · left; exact rdl_short _ hf (by omega)
    · by_cases hfit : B ≤ 7 * (f.length : Int) + 7 → fit b (B - 7 * (f.length : Int)) = true
      · right; right
        exact ⟨f, b, t, rfl, hf, hb0, hb, by omega, hfit, rdl_good f t b hf hb0 hb (by omega) hfit⟩
      · right; left
        have h1 : B ≤ 7 * (f.length : Int) + 7 := by
          rcases Int.lt_or_le (7 * (f.length : Int) + 7) B with h | h
          · exact absurd (fun h' => absurd h' (by omega)) hfit
          · exact h
        have h2 : fit b (B - 7 * (f.length : Int)) = false := by
          cases h : fit b (B - 7 * (f.length : Int)) with
          | true => exact absurd (fun _ => h) hfit
          | false => rfl
        exact rdl_bad f t b hf (by omega) h1 h2

theorem pow7 (k : Nat) (h : k ≤ 9) : (128 : Int) ^ k ≤ 9223372036854775808 := by
  have : (128 : Int) ^ k ≤ 128 ^ 9 := by exact_mod_cast Nat.pow_le_pow_right (by omega : 0 < 128) h
  exact this
theorem fitU_lt {b : Int} {r : Nat} (h : fitU b (r : Int) = true) : b < 2 ^ r := by
  simp only [fitU, beq_iff_eq, Int.toNat_natCast] at h
  have hp : (0 : Int) < 2 ^ r := Int.pow_pos (by omega)
  have e := Int.emod_add_mul_ediv b (2 ^ r)
  rw [h, Int.mul_zero, Int.add_zero] at e
  have := Int.emod_lt_of_pos b hp
  omega

/-- What is read without a sign is smaller than 2^B. -/
theorem goodU (B : Nat) (f : List Int) (b : Int) (hb0 : 0 ≤ b) (hb : b < 128) (h1 : 7 * f.length < B) (h2 : B ≤ 7 * f.length + 7 → fitU b ((B - 7 * f.length : Nat) : Int) = true) : val (f ++ [b]) < 2 ^ B := by
  rw [val_append]
  have hv := val_bound f
  have hb' : b % 128 = b := by omega
  simp only [val, Int.mul_zero, Int.add_zero, hb']
  have e : (128 : Int) ^ f.length = 2 ^ (7 * f.length) := by exact_mod_cast pow128 f.length
  have e2 : (2 : Int) ^ B = 2 ^ (B - 7 * f.length) * 2 ^ (7 * f.length) := by rw [← Int.pow_add]; congr 1; omega
  have hlt : b < 2 ^ (B - 7 * f.length) := by
    rcases Nat.lt_or_ge (7 * f.length + 7) B with h | h
    · have : (2 : Int) ^ 7 ≤ 2 ^ (B - 7 * f.length) := by exact_mod_cast Nat.pow_le_pow_right (by omega : 0 < 2) (by omega : 7 ≤ B - 7 * f.length)
      omega
    · exact fitU_lt (h2 h)
  rw [e] at hv ⊢
  rw [e2]
  have hp : (0 : Int) < 2 ^ (7 * f.length) := Int.pow_pos (by omega)
  have := Int.mul_le_mul_of_nonneg_right (Int.add_one_le_of_lt hlt) (Int.le_of_lt hp)
  rw [Int.add_mul] at this
  omega

theorem rU_bound (B : Int) (l : List Int) (hl : ∀ b ∈ l, 0 ≤ b ∧ b < 256) : 0 ≤ (rU B l).1 ∧ (rU B l).1 < 18446744073709551616 := by
  unfold rU
  split
  · rename_i hB
    rcases rdl_all fitU B hB l hl with h | h | ⟨f, b, t, rfl, hf, hb0, hb, h1, h2, h⟩
    · rw [h]; simp
    · rw [h]; simp
    · rw [h]
      refine ⟨(val_bound _).1, ?_⟩
      rcases hB with rfl | rfl
      · have := goodU 32 f b hb0 hb (by omega) (by intro h'; have := h2 (by omega); rwa [show ((32 - 7 * f.length : Nat) : Int) = 32 - 7 * (f.length : Int) from by omega])
        omega
      · have := goodU 64 f b hb0 hb (by omega) (by intro h'; have := h2 (by omega); rwa [show ((64 - 7 * f.length : Nat) : Int) = 64 - 7 * (f.length : Int) from by omega])
        omega
  · simp

set_option maxHeartbeats 400000 in
theorem read_bad (s : ByteArray) (B : Int) (g : Fn) (h1 : (B != 32) = true) (h2 : (B != 64) = true) (w : World) :
    Calls Tryd.prog 85 #[.string s, .int .i64 B, .func g #[] #[]] w fun e w' => e = .returned (.tuple #[.int .u64 0, .int .i64 0, .int .i64 1]) ∧ w' = w := by
  go_enter Tryd.func85, Tryd.ntmps85
  go_wp2
  go_ret3
  exact ⟨rfl, rfl⟩

set_option maxHeartbeats 400000 in
theorem readU_at (s : ByteArray) (B n k e : Int) (hs : s.size ≤ maxLen) (h : Hid (rU B (nums s) = (n, k, e))) (w : World) :
    Calls Tryd.prog 84 #[.string s, .int .i64 B] w fun e' w' => e' = .returned (.tuple #[.int .u64 n, .int .i64 k, .int .i64 e]) ∧ w' = w := by
  have hb := rU_bound B (nums s) (nums_byte s)
  have e0 := h.out
  rw [e0] at hb
  by_cases hB : B = 32 ∨ B = 64
  · rw [rU, if_pos hB] at e0
    have e1 : n % 18446744073709551616 = n := Int.emod_eq_of_lt hb.1 hb.2
    have E : Hid _ := e0
    have E1 : Hid _ := e1
    clear h hb e0 e1
    rcases hB with rfl | rfl
    · go_enter Tryd.func84, Tryd.ntmps84
      go_wp2_with (go_at_call 85; refine (readU32 s hs _).mono ?_; rw [E.out]; rintro e' w' ⟨rfl, rfl⟩)
      go_ret3
      exact ⟨ret_3 E1.out rfl rfl, rfl⟩
    · go_enter Tryd.func84, Tryd.ntmps84
      go_wp2_with (go_at_call 85; refine (readU64 s hs _).mono ?_; rw [E.out]; rintro e' w' ⟨rfl, rfl⟩)
      go_ret3
      exact ⟨ret_3 E1.out rfl rfl, rfl⟩
  · rw [rU, if_neg hB] at e0
    have h1 : (B != 32) = true := by rw [bne_iff_ne]; intro h'; exact hB (.inl h')
    have h2 : (B != 64) = true := by rw [bne_iff_ne]; intro h'; exact hB (.inr h')
    injection e0 with e1 e2
    injection e2 with e2 e3
    subst e1 e2 e3
    clear h hb hB
    go_enter Tryd.func84, Tryd.ntmps84
    go_wp2_with (go_at_call 85; refine (read_bad s B _ h1 h2 _).mono ?_; rintro e' w' ⟨rfl, rfl⟩)
    go_ret3
    exact ⟨rfl, rfl⟩

theorem and64_u8 (m : Nat) (h : m < 128) : bits .and .u8 (m : Int) 64 = if 64 ≤ m then 64 else 0 := by
  have := u8_and_nat m 64 (by omega) (by omega)
  have e : ∀ m : Fin 128, (m.val &&& 64) = if 64 ≤ m.val then 64 else 0 := by decide
  rw [show ((64 : Nat) : Int) = 64 from rfl, e ⟨m, h⟩] at this
  rw [this]
  split <;> rfl

theorem nums_get (s : ByteArray) (k : Nat) (h : k < s.size) : (nums s).getD k 0 = (s[k].toNat : Int) := by
  have hl : k < (nums s).length := by rw [nums_length]; exact h
  rw [List.getD_eq_getElem?_getD, List.getElem?_eq_getElem hl, Option.getD_some]
  simp only [nums, List.getElem_map]
  rfl

/-- All bits from number 7 (k + 1) on. -/
def hiBits (k : Nat) : Int := if k = 9 then 0 else 18446744073709551616 - 128 ^ (k + 1)
theorem shl_ones (k : Nat) (hk : k ≤ 9) : Op.shift BinOp.shl IntKind.u64 18446744073709551615 IntKind.i64 (7 * ((k : Int) + 1)) = pure (.int .u64 (hiBits k)) := by
  rw [shift_shl_any _ _ _ _ (by omega)]
  congr 2
  have e : (7 * ((k : Int) + 1)).toNat = 7 * (k + 1) := by omega
  rw [e, show IntKind.u64.bits = 64 from rfl]
  have hw : ∀ x : Int, IntKind.u64.wrap x = x % 18446744073709551616 := by intro x; simp [IntKind.wrap, IntKind.bits, IntKind.signed]
  rw [hw]
  have hc : k = 0 ∨ k = 1 ∨ k = 2 ∨ k = 3 ∨ k = 4 ∨ k = 5 ∨ k = 6 ∨ k = 7 ∨ k = 8 ∨ k = 9 := by omega
  rcases hc with rfl | rfl | rfl | rfl | rfl | rfl | rfl | rfl | rfl | rfl <;> simp [hiBits]
theorem or_hi (N : Int) (k : Nat) (hk : k ≤ 8) (h0 : 0 ≤ N) (h1 : N < 128 ^ (k + 1)) : bits .or .u64 N (hiBits k) = N + (18446744073709551616 - 128 ^ (k + 1)) := by
  obtain ⟨M, rfl⟩ : ∃ M : Nat, N = M := ⟨N.toNat, by omega⟩
  have hM : M < 2 ^ (7 * (k + 1)) := by rw [← pow128]; exact_mod_cast h1
  have e0 : (18446744073709551616 : Nat) = 2 ^ (7 * (k + 1)) * 2 ^ (64 - 7 * (k + 1)) := by
    rw [← Nat.pow_add, show 7 * (k + 1) + (64 - 7 * (k + 1)) = 64 from by omega]
  have e1 : (18446744073709551616 - 128 ^ (k + 1) : Int) = ((2 ^ (7 * (k + 1)) * (2 ^ (64 - 7 * (k + 1)) - 1) : Nat) : Int) := by
    rw [Nat.mul_sub, ← e0, Nat.mul_one, ← pow128]
    have : (128 : Nat) ^ (k + 1) ≤ 128 ^ 9 := Nat.pow_le_pow_right (by omega) (by omega)
    have h9 : (128 : Nat) ^ 9 = 9223372036854775808 := by decide
    rw [Int.ofNat_sub (by omega), Int.natCast_pow]
    rfl
  have hlt : 2 ^ (7 * (k + 1)) * (2 ^ (64 - 7 * (k + 1)) - 1) < 18446744073709551616 := by
    have hp := Nat.two_pow_pos (7 * (k + 1))
    rw [Nat.mul_sub, ← e0]; omega
  have h9 : 2 ^ (7 * (k + 1)) ≤ 18446744073709551616 := by
    have : (2 : Nat) ^ (7 * (k + 1)) ≤ 2 ^ 64 := Nat.pow_le_pow_right (by omega) (by omega)
    exact this
  rw [hiBits, if_neg (by omega), e1, u64_or_nat M _ (by omega) hlt, Nat.or_comm, ← Nat.two_pow_add_eq_or_of_lt hM, Int.natCast_add, Int.add_comm]
theorem wrap64_val (x : Int) : wrap64 x = (x + 9223372036854775808) % 18446744073709551616 - 9223372036854775808 := by unfold wrap64; rfl

theorem val_last (f : List Int) (b : Int) (h0 : 0 ≤ b) (h1 : b < 128) : val (f ++ [b]) = val f + b * 128 ^ f.length := by
  rw [val_append]
  have : b % 128 = b := by omega
  simp [val, this]
theorem S_neg (f : List Int) (b : Int) (h0 : 64 ≤ b) (h1 : b < 128) (hk : f.length ≤ 9) (h9 : f.length = 9 → b = 127) :
    wrap64 (bits .or .u64 (val (f ++ [b]) % 18446744073709551616) (hiBits f.length)) = val (f ++ [b]) - 128 ^ (f.length + 1) := by
  have hv := val_bound (f ++ [b])
  rw [List.length_append, List.length_singleton] at hv
  by_cases h8 : f.length ≤ 8
  · have hp := pow7 (f.length + 1) (by omega)
    have hp0 : (0 : Int) < 128 ^ (f.length + 1) := Int.pow_pos (by omega)
    rw [Int.emod_eq_of_lt hv.1 (by omega), or_hi _ _ h8 hv.1 hv.2, wrap64_val]
    omega
  · have e9 : f.length = 9 := by omega
    have hb := h9 e9
    subst hb
    have hv2 := val_bound f
    rw [val_last f 127 (by omega) (by omega), e9] at *
    have e1 : hiBits 9 = ((0 : Nat) : Int) := rfl
    obtain ⟨M, hM⟩ : ∃ M : Nat, val f = M := ⟨(val f).toNat, by omega⟩
    rw [hM] at hv2 ⊢
    have e2 : ((M : Int) + 127 * 128 ^ 9) % 18446744073709551616 = ((M + 9223372036854775808 : Nat) : Int) := by omega
    rw [e1, e2, u64_or_nat _ 0 (by omega) (by omega), Nat.or_zero, wrap64_val]
    omega
theorem S_pos (f : List Int) (b : Int) (h0 : 0 ≤ b) (h1 : b < 64) (hk : f.length ≤ 9) (h9 : f.length = 9 → b = 0) :
    wrap64 (val (f ++ [b]) % 18446744073709551616) = val (f ++ [b]) := by
  have hv := val_bound f
  rw [val_last f b h0 (by omega)]
  have hp0 : (0 : Int) < 128 ^ f.length := Int.pow_pos (by omega)
  by_cases h8 : f.length ≤ 8
  · have hp := pow7 (f.length + 1) (by omega)
    rw [Int.pow_succ] at hp
    have h2 : b * 128 ^ f.length ≤ 63 * 128 ^ f.length := Int.mul_le_mul_of_nonneg_right (by omega) (by omega)
    have h3 : 0 ≤ b * 128 ^ f.length := Int.mul_nonneg h0 (by omega)
    rw [wrap64_val]
    omega
  · have e9 : f.length = 9 := by omega
    have hb := h9 e9
    subst hb
    rw [e9] at hv ⊢
    rw [wrap64_val]
    omega

theorem fitS_one (b : Int) (h : fitS b 1 = true) : b = 0 ∨ b = 127 := by
  simp [fitS] at h
  exact h

set_option maxHeartbeats 400000 in
set_option maxRecDepth 100000 in
theorem readS_good32 (s : ByteArray) (k : Nat) (N r : Int) (hs : s.size ≤ maxLen) (hk : k ≤ 9) (hks : k < s.size) (hb : s[k].toNat < 128) (hR : Hid (rdl fitS 32 (nums s) 0 0 = (N, (k : Int) + 1, 0)))
    (hneg : Hid (64 ≤ s[k].toNat → wrap64 (bits .or .u64 (N % 18446744073709551616) (hiBits k)) = r)) (hpos : Hid (¬ 64 ≤ s[k].toNat → wrap64 (N % 18446744073709551616) = r)) (w : World) :
    Calls Tryd.prog 66 #[.string s, .int .i64 32] w fun e' w' => e' = .returned (.tuple #[.int .i64 r, .int .i64 (k + 1), .int .i64 0]) ∧ w' = w := by
  have hand := and64_u8 s[k].toNat hb
  by_cases h64 : 64 ≤ s[k].toNat
  · rw [if_pos h64] at hand
    have hsh := shl_ones k hk
    go_enter Tryd.func66, Tryd.ntmps66
    go_wp2_with (go_at_call 85; refine (readS32 s hs _).mono ?_; rw [hR.out]; rintro e' w' ⟨rfl, rfl⟩)
    go_ret3
    exact ⟨ret_3 (hneg.out h64) rfl rfl, rfl⟩
  · rw [if_neg h64] at hand
    go_enter Tryd.func66, Tryd.ntmps66
    go_wp2_with (go_at_call 85; refine (readS32 s hs _).mono ?_; rw [hR.out]; rintro e' w' ⟨rfl, rfl⟩)
    go_ret3
    exact ⟨ret_3 (hpos.out h64) rfl rfl, rfl⟩
set_option maxHeartbeats 400000 in
theorem readS_err32 (s : ByteArray) (e : Int) (he : (e != 0) = true) (hs : s.size ≤ maxLen) (hR : Hid (rdl fitS 32 (nums s) 0 0 = (0, 0, e))) (w : World) :
    Calls Tryd.prog 66 #[.string s, .int .i64 32] w fun e' w' => e' = .returned (.tuple #[.int .i64 0, .int .i64 0, .int .i64 e]) ∧ w' = w := by
  go_enter Tryd.func66, Tryd.ntmps66
  go_wp2_with (go_at_call 85; refine (readS32 s hs _).mono ?_; rw [hR.out]; rintro e' w' ⟨rfl, rfl⟩)
  go_ret3
  exact ⟨rfl, rfl⟩

set_option maxHeartbeats 400000 in
set_option maxRecDepth 100000 in
theorem readS_good64 (s : ByteArray) (k : Nat) (N r : Int) (hs : s.size ≤ maxLen) (hk : k ≤ 9) (hks : k < s.size) (hb : s[k].toNat < 128) (hR : Hid (rdl fitS 64 (nums s) 0 0 = (N, (k : Int) + 1, 0)))
    (hneg : Hid (64 ≤ s[k].toNat → wrap64 (bits .or .u64 (N % 18446744073709551616) (hiBits k)) = r)) (hpos : Hid (¬ 64 ≤ s[k].toNat → wrap64 (N % 18446744073709551616) = r)) (w : World) :
    Calls Tryd.prog 66 #[.string s, .int .i64 64] w fun e' w' => e' = .returned (.tuple #[.int .i64 r, .int .i64 (k + 1), .int .i64 0]) ∧ w' = w := by
  have hand := and64_u8 s[k].toNat hb
  by_cases h64 : 64 ≤ s[k].toNat
  · rw [if_pos h64] at hand
    have hsh := shl_ones k hk
    go_enter Tryd.func66, Tryd.ntmps66
    go_wp2_with (go_at_call 85; refine (readS64 s hs _).mono ?_; rw [hR.out]; rintro e' w' ⟨rfl, rfl⟩)
    go_ret3
    exact ⟨ret_3 (hneg.out h64) rfl rfl, rfl⟩
  · rw [if_neg h64] at hand
    go_enter Tryd.func66, Tryd.ntmps66
    go_wp2_with (go_at_call 85; refine (readS64 s hs _).mono ?_; rw [hR.out]; rintro e' w' ⟨rfl, rfl⟩)
    go_ret3
    exact ⟨ret_3 (hpos.out h64) rfl rfl, rfl⟩
set_option maxHeartbeats 400000 in
theorem readS_err64 (s : ByteArray) (e : Int) (he : (e != 0) = true) (hs : s.size ≤ maxLen) (hR : Hid (rdl fitS 64 (nums s) 0 0 = (0, 0, e))) (w : World) :
    Calls Tryd.prog 66 #[.string s, .int .i64 64] w fun e' w' => e' = .returned (.tuple #[.int .i64 0, .int .i64 0, .int .i64 e]) ∧ w' = w := by
  go_enter Tryd.func66, Tryd.ntmps66
  go_wp2_with (go_at_call 85; refine (readS64 s hs _).mono ?_; rw [hR.out]; rintro e' w' ⟨rfl, rfl⟩)
  go_ret3
  exact ⟨rfl, rfl⟩

set_option maxHeartbeats 400000 in
theorem readS_bad (s : ByteArray) (B : Int) (h1 : (B != 32) = true) (h2 : (B != 64) = true) (w : World) :
    Calls Tryd.prog 66 #[.string s, .int .i64 B] w fun e' w' => e' = .returned (.tuple #[.int .i64 0, .int .i64 0, .int .i64 1]) ∧ w' = w := by
  go_enter Tryd.func66, Tryd.ntmps66
  go_wp2_with (go_at_call 85; refine (read_bad s B _ h1 h2 _).mono ?_; rintro e' w' ⟨rfl, rfl⟩)
  go_ret3
  exact ⟨rfl, rfl⟩

theorem readS_all32 (s : ByteArray) (n k e : Int) (hs : s.size ≤ maxLen) (h : rS 32 (nums s) = (n, k, e)) (w : World) :
    Calls Tryd.prog 66 #[.string s, .int .i64 32] w fun e' w' => e' = .returned (.tuple #[.int .i64 n, .int .i64 k, .int .i64 e]) ∧ w' = w := by
  rw [rS, if_pos (by simp)] at h
  rcases rdl_all fitS 32 (by simp) (nums s) (nums_byte s) with hR | hR | ⟨f, b, t, hl, hf, hb0, hb, h1, h2, hR⟩
  · rw [hR] at h
    simp at h
    obtain ⟨rfl, rfl, rfl⟩ := h
    exact readS_err32 s 3 rfl hs hR w
  · rw [hR] at h
    simp at h
    obtain ⟨rfl, rfl, rfl⟩ := h
    exact readS_err32 s 4 rfl hs hR w
  · have hsz : f.length < s.size := by rw [← nums_length, hl, List.length_append, List.length_cons]; omega
    have hg : (s[f.length].toNat : Int) = b := by
      rw [← nums_get s f.length hsz, hl]
      simp
    have hlen9 : f.length ≤ 9 := by omega
    have h9 : f.length = 9 → b = 0 ∨ b = 127 := by
      intro e9
      omega
    rw [hR] at h
    have e0 : ((f.length : Int) + 1 - 1).toNat = f.length := by omega
    have e1 : ((f.length : Int) + 1).toNat = f.length + 1 := by omega
    have e2 : (nums s).getD f.length 0 = b := by rw [nums_get s f.length hsz]; exact hg
    simp only [e0, e1, e2, if_true] at h
    injection h with ha h
    injection h with hb' hc
    subst hb' hc
    refine readS_good32 s f.length (val (f ++ [b])) n hs hlen9 hsz (by omega) hR ?_ ?_ w
    · intro h64
      rw [← ha, if_pos (by omega)]
      exact S_neg f b (by omega) hb hlen9 (fun e9 => by have := h9 e9; omega)
    · intro h64
      rw [← ha, if_neg (by omega), Int.sub_zero]
      exact S_pos f b hb0 (by omega) hlen9 (fun e9 => by have := h9 e9; omega)

theorem readS_all64 (s : ByteArray) (n k e : Int) (hs : s.size ≤ maxLen) (h : rS 64 (nums s) = (n, k, e)) (w : World) :
    Calls Tryd.prog 66 #[.string s, .int .i64 64] w fun e' w' => e' = .returned (.tuple #[.int .i64 n, .int .i64 k, .int .i64 e]) ∧ w' = w := by
  rw [rS, if_pos (by simp)] at h
  rcases rdl_all fitS 64 (by simp) (nums s) (nums_byte s) with hR | hR | ⟨f, b, t, hl, hf, hb0, hb, h1, h2, hR⟩
  · rw [hR] at h
    simp at h
    obtain ⟨rfl, rfl, rfl⟩ := h
    exact readS_err64 s 3 rfl hs hR w
  · rw [hR] at h
    simp at h
    obtain ⟨rfl, rfl, rfl⟩ := h
    exact readS_err64 s 4 rfl hs hR w
  · have hsz : f.length < s.size := by rw [← nums_length, hl, List.length_append, List.length_cons]; omega
    have hg : (s[f.length].toNat : Int) = b := by
      rw [← nums_get s f.length hsz, hl]
      simp
    have hlen9 : f.length ≤ 9 := by omega
    have h9 : f.length = 9 → b = 0 ∨ b = 127 := by
      intro e9
      have := h2 (by omega)
      rw [e9] at this
      exact fitS_one b this
    rw [hR] at h
    have e0 : ((f.length : Int) + 1 - 1).toNat = f.length := by omega
    have e1 : ((f.length : Int) + 1).toNat = f.length + 1 := by omega
    have e2 : (nums s).getD f.length 0 = b := by rw [nums_get s f.length hsz]; exact hg
    simp only [e0, e1, e2, if_true] at h
    injection h with ha h
    injection h with hb' hc
    subst hb' hc
    refine readS_good64 s f.length (val (f ++ [b])) n hs hlen9 hsz (by omega) hR ?_ ?_ w
    · intro h64
      rw [← ha, if_pos (by omega)]
      exact S_neg f b (by omega) hb hlen9 (fun e9 => by have := h9 e9; omega)
    · intro h64
      rw [← ha, if_neg (by omega), Int.sub_zero]
      exact S_pos f b hb0 (by omega) hlen9 (fun e9 => by have := h9 e9; omega)

theorem readS_at (s : ByteArray) (B n k e : Int) (hs : s.size ≤ maxLen) (h : Hid (rS B (nums s) = (n, k, e))) (w : World) :
    Calls Tryd.prog 66 #[.string s, .int .i64 B] w fun e' w' => e' = .returned (.tuple #[.int .i64 n, .int .i64 k, .int .i64 e]) ∧ w' = w := by
  by_cases hB : B = 32 ∨ B = 64
  · rcases hB with rfl | rfl
    · exact readS_all32 s n k e hs h.out w
    · exact readS_all64 s n k e hs h.out w
  · have h' := h.out
    rw [rS, if_neg hB] at h'
    injection h' with ha h'
    injection h' with hb hc
    subst ha hb hc
    exact readS_bad s B (by rw [bne_iff_ne]; intro h'; exact hB (.inl h')) (by rw [bne_iff_ne]; intro h'; exact hB (.inr h')) w

end Go.Proofs.YtdbhdgkbkhjikaaDoor
