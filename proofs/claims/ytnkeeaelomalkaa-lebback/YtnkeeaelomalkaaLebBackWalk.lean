/-
  LebBack, walked: what is written is read as it was, whatever stands behind.
-/
import Derived.Test.YtnkeeaelomalkaaLebShortWalk
import Derived.Test.YtnkeeaelomalkaaBack
import Derived.OpenShut
import Derived.Laws.MathBits
import Derived.SizedLaws
namespace Go.Proofs.Ytnkeeaelomalkaa
open Go.RowKit

set_option maxHeartbeats 1000000 in
set_option maxRecDepth 1000000 in
theorem back_walk (n q : Nat) (m p : Int) (X S T U V : ByteArray) (hX : X.size ≤ 140737488351232) (hn : n ≤ 18446744073709551615) (hq : q ≤ 4294967295) (hm1 : -9223372036854775808 ≤ m) (hm2 : m ≤ 9223372036854775807) (hp1 : -2147483648 ≤ p) (hp2 : p ≤ 2147483647)
    (S1 : S.size ≤ 10) (T1 : T.size ≤ 10) (U1 : U.size ≤ 10) (V1 : V.size ≤ 10)
    (HS : Hid (strOfNums (uB n) = S)) (HT : Hid (strOfNums (sB m) = T)) (HU : Hid (strOfNums (uB q) = U)) (HV : Hid (strOfNums (sB p) = V))
    (hand : bits BinOp.and IntKind.u64 (n : Int) 4294967295 = (q : Int)) (hw : wrap32 m = p)
    (RS : Hid (rU 64 (nums (S ++ X)) = ((n : Int), (S.size : Int), 0))) (RT : Hid (rS 64 (nums (T ++ X)) = (m, (T.size : Int), 0))) (RU : Hid (rU 32 (nums (U ++ X)) = ((q : Int), (U.size : Int), 0))) (RV : Hid (rS 32 (nums (V ++ X)) = (p, (V.size : Int), 0))) (w : World) :
     Calls Try.prog 6 #[.int .u64 n, .int .i64 m, .string X] w fun e w' => e = .returned (.bool true) ∧ Below w.heap.size w w' := by
  have zS : Hid ((S ++ X).size ≤ maxLen) := by unfold Hid maxLen; rw [ByteArray.size_append]; omega
  have zT : Hid ((T ++ X).size ≤ maxLen) := by unfold Hid maxLen; rw [ByteArray.size_append]; omega
  have zU : Hid ((U ++ X).size ≤ maxLen) := by unfold Hid maxLen; rw [ByteArray.size_append]; omega
  have zV : Hid ((V ++ X).size ≤ maxLen) := by unfold Hid maxLen; rw [ByteArray.size_append]; omega
  go_enter Try.func6, Try.ntmps6
  go_wp2_with fail
  refine (u_str n hn S HS _).mono ?_
  rintro e w1 ⟨rfl, b1⟩
  go_wp2_with fail
  refine (readU_at _ _ _ _ _ zS RS _).mono ?_
  rintro e w2 ⟨rfl, rfl⟩
  go_wp2_with fail
  refine (s_str m hm1 hm2 T HT _).mono ?_
  rintro e w3 ⟨rfl, b3⟩
  go_wp2_with fail
  refine (readS_at _ _ _ _ _ zT RT _).mono ?_
  rintro e w4 ⟨rfl, rfl⟩
  go_wp2_with fail
  refine (u_str q (by omega) U HU _).mono ?_
  rintro e w5 ⟨rfl, b5⟩
  go_wp2_with fail
  refine (readU_at _ _ _ _ _ zU RU _).mono ?_
  rintro e w6 ⟨rfl, rfl⟩
  go_wp2_with fail
  refine (s_str p (by omega) (by omega) V HV _).mono ?_
  rintro e w7 ⟨rfl, b7⟩
  go_wp2_with fail
  refine (readS_at _ _ _ _ _ zV RV _).mono ?_
  rintro e w8 ⟨rfl, rfl⟩
  go_wp2_with fail
  refine (u_str n hn S HS _).mono ?_
  rintro e w9 ⟨rfl, b9⟩
  go_wp2_with fail
  refine (s_str m hm1 hm2 T HT _).mono ?_
  rintro e w10 ⟨rfl, b10⟩
  go_wp2_with fail
  refine (u_str q (by omega) U HU _).mono ?_
  rintro e w11 ⟨rfl, b11⟩
  go_wp2_with fail
  refine (s_str p (by omega) (by omega) V HV _).mono ?_
  rintro e w12 ⟨rfl, b12⟩
  go_wp2
  go_ret
  have z1 := b1.size
  have z3 := b3.size
  have z5 := b5.size
  have z7 := b7.size
  have z9 := b9.size
  have z10 := b10.size
  have z11 := b11.size
  exact ⟨rfl, ((((((b1.trans (b3.mono (by omega))).trans (b5.mono (by omega))).trans (b7.mono (by omega))).trans (b9.mono (by omega))).trans (b10.mono (by omega))).trans (b11.mono (by omega))).trans (b12.mono (by omega))⟩

theorem wrap32_val (x : Int) : wrap32 x = (x + 2147483648) % 4294967296 - 2147483648 := by unfold wrap32; rfl

theorem lebBack_walk (a0 : Int) (a1 : Int) (a2 : ByteArray) (w0 : (Lit.int .u64 a0).wf = true) (w1 : (Lit.int .i64 a1).wf = true) (z2 : a2.data.toList.length ≤ reachBytes) (w : World) :
     Calls Try.prog 6 #[.int .u64 a0, .int .i64 a1, .string a2] w fun e w' => e = .returned (.bool true) ∧ Below w.heap.size w w' := by
  have b0 := bounds_u64 w0
  have b1 := bounds_i64 w1
  obtain ⟨n, rfl⟩ : ∃ n : Nat, a0 = n := ⟨a0.toNat, by omega⟩
  have hX : a2.size ≤ 140737488351232 := by rw [Lib.size_eq]; exact z2
  have hn : n ≤ 18446744073709551615 := by omega
  have hw := wrap32_val a1
  have sU : ∀ k : Nat, k ≤ 18446744073709551615 → (strOfNums (uB k)).size ≤ 10 := fun k hk => by rw [strOfNums_size]; exact uB_len64 k hk
  have sS : ∀ k : Int, -9223372036854775808 ≤ k → k ≤ 9223372036854775807 → (strOfNums (sB k)).size ≤ 10 := fun k h1 h2 => by rw [strOfNums_size]; exact sB_len64 k h1 h2
  refine back_walk n (n % 4294967296) a1 (wrap32 a1) a2 _ _ _ _ hX hn (by omega) b1.1 b1.2 (by omega) (by omega) (sU _ hn) (sS _ b1.1 b1.2) (sU _ (by omega)) (sS _ (by omega) (by omega)) rfl rfl rfl rfl ?_ rfl ?_ ?_ ?_ ?_ w
  · rw [and_low32 (n : Int) (by omega) (by omega)]; omega
  · unfold Hid; rw [nums_append, nums_str (uB_byte _), strOfNums_size]; exact backU 64 n 9 _ (.inr ⟨rfl, rfl, by omega⟩)
  · unfold Hid; rw [nums_append, nums_str (sB_byte _), strOfNums_size]; exact backS 64 a1 9 _ (.inr ⟨rfl, rfl, by omega, by omega⟩)
  · unfold Hid; rw [nums_append, nums_str (uB_byte _), strOfNums_size]; exact backU 32 _ 4 _ (.inl ⟨rfl, rfl, by omega⟩)
  · unfold Hid; rw [nums_append, nums_str (sB_byte _), strOfNums_size]; exact backS 32 _ 4 _ (.inl ⟨rfl, rfl, by omega, by omega⟩)

end Go.Proofs.Ytnkeeaelomalkaa
