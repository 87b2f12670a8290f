/-
  LebApart, walked: of two numbers neither's bytes begin with the other's, unless they are one.
-/
import Derived.Test.YtnkeeaelomalkabWriteS
import Derived.OpenShut
import Derived.Lib.Strings
namespace Go.Proofs.Ytnkeeaelomalkab
open Go.RowKit

theorem ret_bool {b c : Bool} (h : b = c) : Ending.returned (.bool b) = .returned (.bool c) := by rw [h]

set_option maxHeartbeats 400000 in
theorem prefix_in (s p : ByteArray) (w : World) :
    Calls Try.prog 12 #[.string s, .string p] w fun e w' => e = .returned (.bool (Lib.hasPrefix s.data.toList p.data.toList)) ∧ w' = w := by
  have hr : Hid _ := Lib.hasPrefix_raw s p
  by_cases h : (p.size : Int) ≤ (s.size : Int)
  · go_enter Try.func12, Try.ntmps12
    go_wp2
    go_ret
    refine ⟨ret_bool ?_, rfl⟩
    rw [← hr.out, decide_eq_true (by omega), Bool.true_and]
  · go_enter Try.func12, Try.ntmps12
    go_wp2
    go_ret
    refine ⟨ret_bool ?_, rfl⟩
    rw [← hr.out, decide_eq_false (by omega), Bool.false_and]
set_option maxHeartbeats 400000 in
theorem prefix_at (s p : ByteArray) (b : Bool) (h : Hid (Lib.hasPrefix s.data.toList p.data.toList = b)) (w : World) :
    Calls Try.prog 6 #[.string s, .string p] w fun e w' => e = .returned (.bool b) ∧ w' = w := by
  go_enter Try.func6, Try.ntmps6
  go_wp2_with (go_at_call 12; refine (prefix_in _ _ _).mono ?_; rintro e w' ⟨rfl, rfl⟩)
  go_ret
  exact ⟨ret_bool h.out, rfl⟩

theorem hasPrefix_strs {xs ys : List Int} (hx : ∀ b ∈ xs, 0 ≤ b ∧ b < 256) (hy : ∀ b ∈ ys, 0 ≤ b ∧ b < 256) :
    Lib.hasPrefix (strOfNums xs).data.toList (strOfNums ys).data.toList = true ↔ ys <+: xs := by
  rw [strOfNums_data, strOfNums_data, Lib.hasPrefix, List.isPrefixOf_iff_prefix, List.prefix_iff_eq_take, List.prefix_iff_eq_take]
  rw [List.length_map, ← List.map_take]
  constructor
  · intro h
    exact str_inj hy (fun b hb => hx b (List.mem_of_mem_take hb)) h
  · intro h
    exact congrArg _ h
theorem apartU (a b : Nat) : Lib.hasPrefix (strOfNums (uB a)).data.toList (strOfNums (uB b)).data.toList = ((a : Int) == (b : Int)) := by
  rw [Bool.eq_iff_iff, hasPrefix_strs (uB_byte a) (uB_byte b), beq_iff_eq]
  constructor
  · intro h; have := uB_prefix _ _ h; omega
  · intro h; have : a = b := by omega
    rw [this]; exact List.prefix_refl _
theorem apartS (a b : Int) : Lib.hasPrefix (strOfNums (sB a)).data.toList (strOfNums (sB b)).data.toList = (a == b) := by
  rw [Bool.eq_iff_iff, hasPrefix_strs (sB_byte a) (sB_byte b), beq_iff_eq]
  constructor
  · intro h; have := sB_prefix _ _ _ (Nat.lt_succ_self _) h; omega
  · intro h; rw [h]; exact List.prefix_refl _

set_option maxHeartbeats 400000 in
set_option maxRecDepth 1000000 in
theorem lebApart_walk (a0 a1 a2 a3 : Int) (w0 : (Lit.int .u64 a0).wf = true) (w1 : (Lit.int .u64 a1).wf = true) (w2 : (Lit.int .i64 a2).wf = true) (w3 : (Lit.int .i64 a3).wf = true) (w : World) :
     Calls Try.prog 3 #[.int .u64 a0, .int .u64 a1, .int .i64 a2, .int .i64 a3] w fun e w' => e = .returned (.bool true) ∧ Below w.heap.size w w' := by
  have b0 := bounds_u64 w0
  have b1 := bounds_u64 w1
  have b2 := bounds_i64 w2
  have b3 := bounds_i64 w3
  obtain ⟨n, rfl⟩ : ∃ n : Nat, a0 = n := ⟨a0.toNat, by omega⟩
  obtain ⟨m, rfl⟩ : ∃ n : Nat, a1 = n := ⟨a1.toNat, by omega⟩
  have hn : n ≤ 18446744073709551615 := by omega
  have hm : m ≤ 18446744073709551615 := by omega
  obtain ⟨h21, h22⟩ := b2
  obtain ⟨h31, h32⟩ := b3
  have p1 : Hid _ := apartU n m
  have p2 : Hid _ := apartS a2 a3
  clear w0 w1 w2 w3 b0 b1
  go_enter Try.func3, Try.ntmps3
  go_wp2_with fail
  refine (u_any n hn _).mono ?_
  rintro e w' ⟨rfl, hb1⟩
  go_wp2_with fail
  refine (u_any m hm _).mono ?_
  rintro e w'2 ⟨rfl, hb2⟩
  go_wp2_with fail
  refine (prefix_at _ _ _ p1 _).mono ?_
  rintro e w'3 ⟨rfl, rfl⟩
  go_wp2_with fail
  refine (s_any a2 h21 h22 _).mono ?_
  rintro e w'4 ⟨rfl, hb3⟩
  go_wp2_with fail
  refine (s_any a3 h31 h32 _).mono ?_
  rintro e w'5 ⟨rfl, hb4⟩
  go_wp2_with fail
  refine (prefix_at _ _ _ p2 _).mono ?_
  rintro e w'6 ⟨rfl, rfl⟩
  go_wp2
  go_ret
  have z1 := hb1.size
  have z2 := hb2.size
  have z3 := hb3.size
  refine ⟨ret_bool (by simp), ((hb1.trans (hb2.mono z1)).trans (hb3.mono (by omega))).trans (hb4.mono (by omega))⟩
end Go.Proofs.Ytnkeeaelomalkab
