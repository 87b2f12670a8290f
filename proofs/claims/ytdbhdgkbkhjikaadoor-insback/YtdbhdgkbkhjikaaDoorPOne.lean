/-
  What the program's own One and Fit do.
-/
import Derived.Test.YtdbhdgkbkhjikaaDoorPOne1
namespace Go.Proofs.YtdbhdgkbkhjikaaDoor
open Go.RowKit

/-- A number cut to W bits, with its sign. -/
def cutI (W : Nat) (a : Int) : Int := (a + 2 ^ (W - 1)) % 2 ^ W - 2 ^ (W - 1)
/-- A number cut to W bits, without a sign. -/
def cutN (W : Nat) (a : Int) : Nat := (a % 2 ^ W).toNat
theorem cutN32 (a : Int) : a % 4294967296 = (cutN 32 a : Int) := by
  unfold cutN
  omega
theorem cutN64 (a : Int) : IntKind.u64.wrap a = (cutN 64 a : Int) := by
  rw [IntKind.wrap_u64]
  unfold cutN
  omega
theorem cutN32_lt (a : Int) : cutN 32 a < 4294967296 := by unfold cutN; omega
theorem cutN64_lt (a : Int) : cutN 64 a < 18446744073709551616 := by unfold cutN; omega
theorem wrap64_i8 (a : Int) : wrap64 (IntKind.i8.wrap a) = cutI 8 a := by
  have h : IntKind.i8.wrap a = if a % 256 ≥ 128 then a % 256 - 256 else a % 256 := by
    simp [IntKind.wrap, IntKind.signed, IntKind.bits]
  rw [h]
  simp only [cutI, wrap64]
  split <;> omega
theorem wrap64_i16 (a : Int) : wrap64 (IntKind.i16.wrap a) = cutI 16 a := by
  have h : IntKind.i16.wrap a = if a % 65536 ≥ 32768 then a % 65536 - 65536 else a % 65536 := by
    simp [IntKind.wrap, IntKind.signed, IntKind.bits]
  rw [h]
  simp only [cutI, wrap64]
  split <;> omega
theorem len64_nat (x : Nat) (h : x < 18446744073709551616) (w : World) :
    Calls Tryd.prog 92 #[.int .u64 x] w fun e w' => e = .returned (.int .i64 (Lib.bitLen x)) ∧ w' = w := by
  have := len64_any (x : Int) (by omega) (by omega) w
  rw [Int.toNat_natCast] at this
  exact this
theorem r2w {k l : IntKind} {a b c d : Int} {w : World} (h : a = b) (h' : c = d) : Ending.returned (.tuple #[.int k a, .int l c]) = .returned (.tuple #[.int k b, .int l d]) ∧ w = w := by rw [h, h']; exact ⟨rfl, rfl⟩
set_option maxHeartbeats 1000000 in
set_option maxRecDepth 1000000 in
theorem pone_192 (a : Int) (w : World) :
    Calls Tryd.prog 51 #[.int .u8 192, .int .i64 a] w fun e w' => e = .returned (.tuple #[.int .i64 (cutI 8 a), .int .i64 0]) ∧ w' = w := by
  go_enter Tryd.func51, Tryd.ntmps51
  go_wp2
  go_ret2
  exact r2w (wrap64_i8 a) rfl
set_option maxHeartbeats 1000000 in
set_option maxRecDepth 1000000 in
theorem pone_194 (a : Int) (w : World) :
    Calls Tryd.prog 51 #[.int .u8 194, .int .i64 a] w fun e w' => e = .returned (.tuple #[.int .i64 (cutI 8 a), .int .i64 0]) ∧ w' = w := by
  go_enter Tryd.func51, Tryd.ntmps51
  go_wp2
  go_ret2
  exact r2w (wrap64_i8 a) rfl
set_option maxHeartbeats 1000000 in
set_option maxRecDepth 1000000 in
theorem pone_193 (a : Int) (w : World) :
    Calls Tryd.prog 51 #[.int .u8 193, .int .i64 a] w fun e w' => e = .returned (.tuple #[.int .i64 (cutI 16 a), .int .i64 0]) ∧ w' = w := by
  go_enter Tryd.func51, Tryd.ntmps51
  go_wp2
  go_ret2
  exact r2w (wrap64_i16 a) rfl
set_option maxHeartbeats 1000000 in
set_option maxRecDepth 1000000 in
theorem pone_195 (a : Int) (w : World) :
    Calls Tryd.prog 51 #[.int .u8 195, .int .i64 a] w fun e w' => e = .returned (.tuple #[.int .i64 (cutI 16 a), .int .i64 0]) ∧ w' = w := by
  go_enter Tryd.func51, Tryd.ntmps51
  go_wp2
  go_ret2
  exact r2w (wrap64_i16 a) rfl
set_option maxHeartbeats 1000000 in
set_option maxRecDepth 1000000 in
theorem pone_196 (a : Int) (w : World) :
    Calls Tryd.prog 51 #[.int .u8 196, .int .i64 a] w fun e w' => e = .returned (.tuple #[.int .i64 (wrap32 a), .int .i64 0]) ∧ w' = w := by
  go_enter Tryd.func51, Tryd.ntmps51
  go_wp2
  go_ret2
  exact r2w (w64_w32 a) rfl
set_option maxHeartbeats 1000000 in
set_option maxRecDepth 1000000 in
theorem pone_167 (a : Int) (w : World) :
    Calls Tryd.prog 51 #[.int .u8 167, .int .i64 a] w fun e w' => e = .returned (.tuple #[.int .i64 (wrap32 a), .int .i64 0]) ∧ w' = w := by
  go_enter Tryd.func51, Tryd.ntmps51
  go_wp2
  go_ret2
  exact r2w (w64_w32 a) rfl
set_option maxHeartbeats 1000000 in
set_option maxRecDepth 1000000 in
theorem pone_172 (a : Int) (w : World) :
    Calls Tryd.prog 51 #[.int .u8 172, .int .i64 a] w fun e w' => e = .returned (.tuple #[.int .i64 (wrap32 a), .int .i64 0]) ∧ w' = w := by
  go_enter Tryd.func51, Tryd.ntmps51
  go_wp2
  go_ret2
  exact r2w (w64_w32 a) rfl
set_option maxHeartbeats 1000000 in
set_option maxRecDepth 1000000 in
theorem pone_173 (a : Int) (w : World) :
    Calls Tryd.prog 51 #[.int .u8 173, .int .i64 a] w fun e w' => e = .returned (.tuple #[.int .i64 (a % 4294967296), .int .i64 0]) ∧ w' = w := by
  go_enter Tryd.func51, Tryd.ntmps51
  go_wp2
  go_ret2
  exact r2w (rfl) rfl
set_option maxHeartbeats 1000000 in
set_option maxRecDepth 1000000 in
theorem pone_short (op o a R E : Int) (x : Int) (_h1 : (op == 192) = false) (_h2 : (op == 194) = false) (_h3 : (op == 193) = false) (_h4 : (op == 195) = false) (_h5 : (op == 196) = false) (_h6 : (op == 167) = false) (_h7 : (op == 172) = false) (_h8 : (op == 173) = false)
    (HS : Hid (∀ w, Calls Tryd.prog 73 #[.int .u8 op] w fun e w' => e = .returned (.tuple #[.int .u8 o, .bool false]) ∧ w' = w)) (_hx : a % 4294967296 = x) (w : World) (HL : Hid (Calls Tryd.prog 75 #[.int .u8 o, .int .u32 x] w fun e w' => e = .returned (.tuple #[.int .i64 R, .int .i64 E]) ∧ w' = w)) :
    Calls Tryd.prog 51 #[.int .u8 op, .int .i64 a] w fun e w' => e = .returned (.tuple #[.int .i64 (R), .int .i64 E]) ∧ w' = w := by
  go_enter Tryd.func51, Tryd.ntmps51
  go_wp2_with fail
  refine (HS.out _).mono ?_
  rintro e w1 ⟨rfl, rfl⟩
  go_wp2_with fail
  refine HL.out.mono ?_
  rintro e w1 ⟨rfl, rfl⟩
  go_wp2
  go_ret2
  exact ⟨rfl, rfl⟩
set_option maxHeartbeats 1000000 in
set_option maxRecDepth 1000000 in
theorem pone_long (op o a R E : Int) (x : Int) (_h1 : (op == 192) = false) (_h2 : (op == 194) = false) (_h3 : (op == 193) = false) (_h4 : (op == 195) = false) (_h5 : (op == 196) = false) (_h6 : (op == 167) = false) (_h7 : (op == 172) = false) (_h8 : (op == 173) = false)
    (HS : Hid (∀ w, Calls Tryd.prog 73 #[.int .u8 op] w fun e w' => e = .returned (.tuple #[.int .u8 o, .bool true]) ∧ w' = w)) (_hx : IntKind.u64.wrap a = x) (w : World) (HL : Hid (Calls Tryd.prog 74 #[.int .u8 o, .int .u64 x] w fun e w' => e = .returned (.tuple #[.int .i64 R, .int .i64 E]) ∧ w' = w)) :
    Calls Tryd.prog 51 #[.int .u8 op, .int .i64 a] w fun e w' => e = .returned (.tuple #[.int .i64 (R), .int .i64 E]) ∧ w' = w := by
  go_enter Tryd.func51, Tryd.ntmps51
  go_wp2_with fail
  refine (HS.out _).mono ?_
  rintro e w1 ⟨rfl, rfl⟩
  go_wp2_with fail
  refine HL.out.mono ?_
  rintro e w1 ⟨rfl, rfl⟩
  go_wp2
  go_ret2
  exact ⟨rfl, rfl⟩
theorem pone_69 (a : Int) (w : World) :
    Calls Tryd.prog 51 #[.int .u8 69, .int .i64 a] w fun e w' => e = .returned (.tuple #[.int .i64 (t2i (decide (cutN 32 a = 0))), .int .i64 0]) ∧ w' = w :=
  pone_short 69 69 a _ _ (cutN 32 a : Int) (by decide) (by decide) (by decide) (by decide) (by decide) (by decide) (by decide) (by decide) (fun w => short_a 69 (by omega) (by omega) w) (cutN32 a) w (one32_69 (cutN 32 a : Int) (decide (cutN 32 a = 0)) (by by_cases h : cutN 32 a = 0 <;> simp [h]) w)
theorem pone_103 (a : Int) (w : World) :
    Calls Tryd.prog 51 #[.int .u8 103, .int .i64 a] w fun e w' => e = .returned (.tuple #[.int .i64 (32 - (Lib.bitLen (cutN 32 a) : Int)), .int .i64 0]) ∧ w' = w :=
  pone_short 103 103 a _ _ (cutN 32 a : Int) (by decide) (by decide) (by decide) (by decide) (by decide) (by decide) (by decide) (by decide) (fun w => short_b 103 (by omega) (by omega) w) (cutN32 a) w (one32_103 (cutN 32 a : Int) _ (by omega) (by have := cutN32_lt a; omega) (by omega) (by have := Lib.bitLen_le (cutN 32 a) 64 (by omega) (by have := cutN32_lt a; omega); omega) (fun w => len64_nat (cutN 32 a) (by have := cutN32_lt a; omega) w) w)
theorem ctz_le (x : Nat) (h : x < 18446744073709551616) : Lib.ctz 64 x ≤ 64 := by
  by_cases h0 : x = 0
  · subst h0; decide
  · exact Nat.le_of_lt (Lib.lowest_bit 64 x h0 h).2
theorem pone_104 (a : Int) (w : World) (hT : TabIn w) :
    Calls Tryd.prog 51 #[.int .u8 104, .int .i64 a] w fun e w' => e = .returned (.tuple #[.int .i64 (min 32 (Lib.ctz 64 (cutN 32 a) : Int)), .int .i64 0]) ∧ w' = w :=
  pone_short 104 104 a _ _ (cutN 32 a : Int) (by decide) (by decide) (by decide) (by decide) (by decide) (by decide) (by decide) (by decide) (fun w => short_b 104 (by omega) (by omega) w) (cutN32 a) w (one32_104 (cutN 32 a : Int) _ (by omega) (by have := cutN32_lt a; omega) (by omega) (by have := ctz_le (cutN 32 a) (by have := cutN32_lt a; omega); omega) w (tz64_any (cutN 32 a) (by have := cutN32_lt a; omega) w hT))
theorem pone_105 (a : Int) (w : World) :
    Calls Tryd.prog 51 #[.int .u8 105, .int .i64 a] w fun e w' => e = .returned (.tuple #[.int .i64 ((popN 64 (cutN 32 a) : Int)), .int .i64 0]) ∧ w' = w :=
  pone_short 105 105 a _ _ (cutN 32 a : Int) (by decide) (by decide) (by decide) (by decide) (by decide) (by decide) (by decide) (by decide) (fun w => short_b 105 (by omega) (by omega) w) (cutN32 a) w (one32_105 (cutN 32 a : Int) _ (by omega) (by have := cutN32_lt a; omega) (fun w => ones64_any (cutN 32 a) (by have := cutN32_lt a; omega) w) w)
theorem pone_80 (a : Int) (w : World) :
    Calls Tryd.prog 51 #[.int .u8 80, .int .i64 a] w fun e w' => e = .returned (.tuple #[.int .i64 (t2i (decide (cutN 64 a = 0))), .int .i64 0]) ∧ w' = w :=
  pone_long 80 69 a _ _ (cutN 64 a : Int) (by decide) (by decide) (by decide) (by decide) (by decide) (by decide) (by decide) (by decide) (fun w => short_asks 80 (by omega) (by omega) w) (cutN64 a) w (one64_69 (cutN 64 a : Int) (decide (cutN 64 a = 0)) (by by_cases h : cutN 64 a = 0 <;> simp [h]) w)
theorem pone_121 (a : Int) (w : World) :
    Calls Tryd.prog 51 #[.int .u8 121, .int .i64 a] w fun e w' => e = .returned (.tuple #[.int .i64 (64 - (Lib.bitLen (cutN 64 a) : Int)), .int .i64 0]) ∧ w' = w :=
  pone_long 121 103 a _ _ (cutN 64 a : Int) (by decide) (by decide) (by decide) (by decide) (by decide) (by decide) (by decide) (by decide) (fun w => short_makes 121 (by omega) (by omega) w) (cutN64 a) w (one64_103 (cutN 64 a : Int) _ (by omega) (by have := cutN64_lt a; omega) (by omega) (by have := Lib.bitLen_le (cutN 64 a) 64 (by omega) (by have := cutN64_lt a; omega); omega) (fun w => len64_nat (cutN 64 a) (by have := cutN64_lt a; omega) w) w)
theorem pone_122 (a : Int) (w : World) (hT : TabIn w) :
    Calls Tryd.prog 51 #[.int .u8 122, .int .i64 a] w fun e w' => e = .returned (.tuple #[.int .i64 (min 64 (Lib.ctz 64 (cutN 64 a) : Int)), .int .i64 0]) ∧ w' = w :=
  pone_long 122 104 a _ _ (cutN 64 a : Int) (by decide) (by decide) (by decide) (by decide) (by decide) (by decide) (by decide) (by decide) (fun w => short_makes 122 (by omega) (by omega) w) (cutN64 a) w (one64_104 (cutN 64 a : Int) _ (by omega) (by have := cutN64_lt a; omega) (by omega) (by have := ctz_le (cutN 64 a) (by have := cutN64_lt a; omega); omega) w (tz64_any (cutN 64 a) (by have := cutN64_lt a; omega) w hT))
theorem pone_123 (a : Int) (w : World) :
    Calls Tryd.prog 51 #[.int .u8 123, .int .i64 a] w fun e w' => e = .returned (.tuple #[.int .i64 ((popN 64 (cutN 64 a) : Int)), .int .i64 0]) ∧ w' = w :=
  pone_long 123 105 a _ _ (cutN 64 a : Int) (by decide) (by decide) (by decide) (by decide) (by decide) (by decide) (by decide) (by decide) (fun w => short_makes 123 (by omega) (by omega) w) (cutN64 a) w (one64_105 (cutN 64 a : Int) _ (by omega) (by have := cutN64_lt a; omega) (fun w => ones64_any (cutN 64 a) (by have := cutN64_lt a; omega) w) w)
/-- The numbers of the instructions of one number. -/
def isOne (op : Int) : Bool := op == 69 || op == 80 || (103 ≤ op && op ≤ 105) || (121 ≤ op && op ≤ 123) || op == 167 || op == 172 || op == 173 || (192 ≤ op && op ≤ 196)
theorem pone_no (op a : Int) (h0 : 0 ≤ op) (h1 : op ≤ 255) (h : isOne op = false) (w : World) :
    Calls Tryd.prog 51 #[.int .u8 op, .int .i64 a] w fun e w' => e = .returned (.tuple #[.int .i64 (0), .int .i64 6]) ∧ w' = w := by
  have hh : op ≠ 69 ∧ op ≠ 80 ∧ ¬ (103 ≤ op ∧ op ≤ 105) ∧ ¬ (121 ≤ op ∧ op ≤ 123) ∧ op ≠ 167 ∧ op ≠ 172 ∧ op ≠ 173 ∧ ¬ (192 ≤ op ∧ op ≤ 196) := by
    simp only [isOne, Bool.or_eq_false_iff, Bool.and_eq_false_iff, beq_eq_false_iff_ne, decide_eq_false_iff_not] at h
    omega
  clear h
  have ne : ∀ k : Int, op ≠ k → (op == k) = false := fun k hk => by rw [beq_eq_false_iff_ne]; exact hk
  by_cases c1 : op < 80
  · exact pone_short op op a 0 6 (cutN 32 a : Int) (ne 192 (by omega)) (ne 194 (by omega)) (ne 193 (by omega)) (ne 195 (by omega)) (ne 196 (by omega)) (ne 167 (by omega)) (ne 172 (by omega)) (ne 173 (by omega)) (fun w => short_a op h0 c1 w) (cutN32 a) w (one32_no op _ (ne 69 (by omega)) (ne 103 (by omega)) (ne 104 (by omega)) (ne 105 (by omega)) w)
  by_cases c2 : op ≤ 90
  · exact pone_long op (op - 11) a 0 6 (cutN 64 a : Int) (ne 192 (by omega)) (ne 194 (by omega)) (ne 193 (by omega)) (ne 195 (by omega)) (ne 196 (by omega)) (ne 167 (by omega)) (ne 172 (by omega)) (ne 173 (by omega)) (fun w => short_asks op (by omega) c2 w) (cutN64 a) w (one64_no (op - 11) _ (by rw [beq_eq_false_iff_ne]; omega) (by rw [beq_eq_false_iff_ne]; omega) (by rw [beq_eq_false_iff_ne]; omega) (by rw [beq_eq_false_iff_ne]; omega) w)
  by_cases c3 : op < 121
  · exact pone_short op op a 0 6 (cutN 32 a : Int) (ne 192 (by omega)) (ne 194 (by omega)) (ne 193 (by omega)) (ne 195 (by omega)) (ne 196 (by omega)) (ne 167 (by omega)) (ne 172 (by omega)) (ne 173 (by omega)) (fun w => short_b op (by omega) c3 w) (cutN32 a) w (one32_no op _ (ne 69 (by omega)) (ne 103 (by omega)) (ne 104 (by omega)) (ne 105 (by omega)) w)
  by_cases c4 : op ≤ 138
  · exact pone_long op (op - 18) a 0 6 (cutN 64 a : Int) (ne 192 (by omega)) (ne 194 (by omega)) (ne 193 (by omega)) (ne 195 (by omega)) (ne 196 (by omega)) (ne 167 (by omega)) (ne 172 (by omega)) (ne 173 (by omega)) (fun w => short_makes op (by omega) c4 w) (cutN64 a) w (one64_no (op - 18) _ (by rw [beq_eq_false_iff_ne]; omega) (by rw [beq_eq_false_iff_ne]; omega) (by rw [beq_eq_false_iff_ne]; omega) (by rw [beq_eq_false_iff_ne]; omega) w)
  exact pone_short op op a 0 6 (cutN 32 a : Int) (ne 192 (by omega)) (ne 194 (by omega)) (ne 193 (by omega)) (ne 195 (by omega)) (ne 196 (by omega)) (ne 167 (by omega)) (ne 172 (by omega)) (ne 173 (by omega)) (fun w => short_c op (by omega) h1 w) (cutN32 a) w (one32_no op _ (ne 69 (by omega)) (ne 103 (by omega)) (ne 104 (by omega)) (ne 105 (by omega)) w)
end Go.Proofs.YtdbhdgkbkhjikaaDoor
