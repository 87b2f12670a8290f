import Derived.Test.YtmmjgdaamkdncaaGreatDoorAGLeb
import Derived.WalkSmall
namespace Go.Proofs.YtmmjgdaamkdncaaGreatDoor
set_option maxHeartbeats 1000000
set_option maxRecDepth 100000
set_option linter.unusedVariables false
open Go.RowKit
theorem xsQ (w : World) (n : Int) : (convert 152 9 (.slice (some ⟨w.heap.size,0,none⟩) 1 1)).run Tryz.prog (w.alloc (.cells #[.int .u8 n] 5)) = .ok (.string (strOfNums [n])) (w.alloc (.cells #[.int .u8 n] 5)) := by
 refine run_convert_bytes_arg _ 152 5 Tryz.underlying152 Tryz.underlying5 w.heap.size 0 1 1 [n] rfl ?_ 9 Tryz.underlying9
 intro i hi
 have : i = 0 := by omega
 subst this
 rw [World.cell?_alloc_at _ _ _ _ rfl]
 rfl
theorem xxR (n : Int) (h0 : 0 <= n) (h1 : n < 256) (w : World) :
  Calls Tryz.prog 132 #[.int .i64 n] w fun e w' => e = .returned (.string (strOfNums [n])) /\ Below w.heap.size w w' := by
 have hc := xsQ w n
 go_enter Tryz.func132,Tryz.ntmps132
 go_wp2
 go_ret
 exact ⟨rfl,(Below.refl _ _).alloc (Nat.le_refl _) _⟩
theorem xqB (x : Int) (xs : List Int) : strOfNums [x] ++ strOfNums xs = strOfNums (x :: xs) := by
 have : (strOfNums [x] ++ strOfNums xs).data = (strOfNums (x :: xs)).data := by
  rw [ByteArray.data_append]
  simp [strOfNums]
 exact ByteArray.ext this
theorem ygF {a b : ByteArray} (h : a = b) : Ending.returned (.string a) = .returned (.string b) := by rw [h]
theorem xjI (s : ByteArray) (hs : s.size <= maxLen) (hK : 5 <= s.size) (hall : ∀ i (h : i < s.size),i < 5 -> 127 < (s[i].toNat : Int)) (w : World) :
  Calls Tryz.prog 85 #[.string s,.int .i64 32] w fun e w' => e = .returned (.tuple #[.int .i64 0,.int .i64 0,.int .i64 4]) /\ w' = w := by
 unfold maxLen at hs
 go_enter Tryz.func85,Tryz.ntmps85
 go_wp2
 go_loop [8] (fun t => ∃ k : Nat,t = .int .i64 k /\ k <= 5) (fun t => 5 - (intOf t).toNat)
 case atStart => exact ⟨0,rfl,by omega⟩
 case round =>
  obtain ⟨k,rfl,hk⟩ := hrel
  by_cases hc : k < 5
  ·have hg := hall k (by omega) hc
   have hks : k < s.size := by omega
   clear hall
   go_wp2
   go_round
   case rel => exact ⟨k + 1,by go_num,by omega⟩
   case measure => simp [intOf]; omega
  ·have hkK : k = 5 := by omega
   subst hkK
   clear hall
   go_wp2
   go_ret3
   exact ⟨rfl,rfl⟩
theorem xiE (s : ByteArray) (hs : s.size <= maxLen) (hK : s.size < 5) (hall : ∀ i (h : i < s.size),127 < (s[i].toNat : Int)) (w : World) :
  Calls Tryz.prog 85 #[.string s,.int .i64 32] w fun e w' => e = .returned (.tuple #[.int .i64 0,.int .i64 0,.int .i64 3]) /\ w' = w := by
 unfold maxLen at hs
 go_enter Tryz.func85,Tryz.ntmps85
 go_wp2
 go_loop [8] (fun t => ∃ k : Nat,t = .int .i64 k /\ k <= s.size) (fun t => s.size - (intOf t).toNat)
 case atStart => exact ⟨0,rfl,by omega⟩
 case round =>
  obtain ⟨k,rfl,hk⟩ := hrel
  by_cases hc : k < s.size
  ·have hg := hall k hc
   have hks : k < s.size := by omega
   clear hall
   go_wp2
   go_round
   case rel => exact ⟨k + 1,by go_num,by omega⟩
   case measure => simp [intOf]; omega
  ·have hkK : k = s.size := by omega
   subst hkK
   clear hall
   go_wp2
   go_ret3
   exact ⟨rfl,rfl⟩
theorem xjK (s : ByteArray) (_hs : s.size <= maxLen) (K : Nat) (hK : K < 5) (hKs : K < s.size) (hall : ∀ i (h : i < s.size),i < K -> 127 < (s[i].toNat : Int)) (hlast : ¬ 127 < (s[K].toNat : Int)) (w : World) :
  Calls Tryz.prog 85 #[.string s,.int .i64 32] w fun e w' => e = .returned (.tuple #[.int .i64 ((K : Int) + 1),.int .i64 5,.int .i64 0]) /\ w' = w := by
 unfold maxLen at _hs
 go_enter Tryz.func85,Tryz.ntmps85
 go_wp2
 go_loop [8] (fun t => ∃ k : Nat,t = .int .i64 k /\ k <= K) (fun t => K - (intOf t).toNat)
 case atStart => exact ⟨0,rfl,by omega⟩
 case round =>
  obtain ⟨k,rfl,hk⟩ := hrel
  by_cases hc : k < K
  ·have hg := hall k (by omega) hc
   have hks : k < s.size := by omega
   clear hall
   go_wp2
   go_round
   case rel => exact ⟨k + 1,by go_num,by omega⟩
   case measure => simp [intOf]; omega
  ·have hkK : k = K := by omega
   subst hkK
   clear hall
   go_wp2
   go_ret3
   exact ⟨rfl,rfl⟩
theorem xjJ (s : ByteArray) (hs : s.size <= maxLen) (hK : 10 <= s.size) (hall : ∀ i (h : i < s.size),i < 10 -> 127 < (s[i].toNat : Int)) (w : World) :
  Calls Tryz.prog 85 #[.string s,.int .i64 64] w fun e w' => e = .returned (.tuple #[.int .i64 0,.int .i64 0,.int .i64 4]) /\ w' = w := by
 unfold maxLen at hs
 go_enter Tryz.func85,Tryz.ntmps85
 go_wp2
 go_loop [8] (fun t => ∃ k : Nat,t = .int .i64 k /\ k <= 10) (fun t => 10 - (intOf t).toNat)
 case atStart => exact ⟨0,rfl,by omega⟩
 case round =>
  obtain ⟨k,rfl,hk⟩ := hrel
  by_cases hc : k < 10
  ·have hg := hall k (by omega) hc
   have hks : k < s.size := by omega
   clear hall
   go_wp2
   go_round
   case rel => exact ⟨k + 1,by go_num,by omega⟩
   case measure => simp [intOf]; omega
  ·have hkK : k = 10 := by omega
   subst hkK
   clear hall
   go_wp2
   go_ret3
   exact ⟨rfl,rfl⟩
theorem xiF (s : ByteArray) (hs : s.size <= maxLen) (hK : s.size < 10) (hall : ∀ i (h : i < s.size),127 < (s[i].toNat : Int)) (w : World) :
  Calls Tryz.prog 85 #[.string s,.int .i64 64] w fun e w' => e = .returned (.tuple #[.int .i64 0,.int .i64 0,.int .i64 3]) /\ w' = w := by
 unfold maxLen at hs
 go_enter Tryz.func85,Tryz.ntmps85
 go_wp2
 go_loop [8] (fun t => ∃ k : Nat,t = .int .i64 k /\ k <= s.size) (fun t => s.size - (intOf t).toNat)
 case atStart => exact ⟨0,rfl,by omega⟩
 case round =>
  obtain ⟨k,rfl,hk⟩ := hrel
  by_cases hc : k < s.size
  ·have hg := hall k hc
   have hks : k < s.size := by omega
   clear hall
   go_wp2
   go_round
   case rel => exact ⟨k + 1,by go_num,by omega⟩
   case measure => simp [intOf]; omega
  ·have hkK : k = s.size := by omega
   subst hkK
   clear hall
   go_wp2
   go_ret3
   exact ⟨rfl,rfl⟩
theorem xjL (s : ByteArray) (_hs : s.size <= maxLen) (K : Nat) (hK : K < 10) (hKs : K < s.size) (hall : ∀ i (h : i < s.size),i < K -> 127 < (s[i].toNat : Int)) (hlast : ¬ 127 < (s[K].toNat : Int)) (w : World) :
  Calls Tryz.prog 85 #[.string s,.int .i64 64] w fun e w' => e = .returned (.tuple #[.int .i64 ((K : Int) + 1),.int .i64 10,.int .i64 0]) /\ w' = w := by
 unfold maxLen at _hs
 go_enter Tryz.func85,Tryz.ntmps85
 go_wp2
 go_loop [8] (fun t => ∃ k : Nat,t = .int .i64 k /\ k <= K) (fun t => K - (intOf t).toNat)
 case atStart => exact ⟨0,rfl,by omega⟩
 case round =>
  obtain ⟨k,rfl,hk⟩ := hrel
  by_cases hc : k < K
  ·have hg := hall k (by omega) hc
   have hks : k < s.size := by omega
   clear hall
   go_wp2
   go_round
   case rel => exact ⟨k + 1,by go_num,by omega⟩
   case measure => simp [intOf]; omega
  ·have hkK : k = K := by omega
   subst hkK
   clear hall
   go_wp2
   go_ret3
   exact ⟨rfl,rfl⟩
theorem xrZ (s : ByteArray) (B : Int) (h1 : (B != 32) = true) (h2 : (B != 64) = true) (w : World) :
  Calls Tryz.prog 85 #[.string s,.int .i64 B] w fun e w' => e = .returned (.tuple #[.int .i64 0,.int .i64 0,.int .i64 1]) /\ w' = w := by
 have h3 : (B == 64) = false := by simpa using h2
 go_enter Tryz.func85,Tryz.ntmps85
 go_wp2
 go_ret3
 exact ⟨rfl,rfl⟩
def sv (c : Int) : List Int -> Int
 | [] => -c
 | b :: r => b % 128 + 128 * sv c r
theorem ycQ : ∀ l : List Int,sv 0 l = val l
 | [] => rfl
 | b :: r => by rw [sv,val,ycQ r]
theorem xnN (c : Int) : ∀ l : List Int,sv c l = val l - c * 128 ^ l.length
 | [] => by simp [sv,val]
 | b :: r => by
  rw [sv,val,xnN c r,List.length_cons,Int.pow_succ,Int.mul_sub,Int.mul_comm (128 ^ r.length) 128,<- Int.mul_assoc c 128,Int.mul_comm c 128,Int.mul_assoc 128 c]
  omega
theorem xzT (l : List Int) (j : Nat) : val (l.drop j) <= val l := by
 induction l generalizing j with
 | nil => simp
 | cons b r ih =>
  cases j with
  | zero => simp
  | succ j =>
   have := ih j
   have h0 := (xcY r).1
   rw [List.drop_succ_cons,val]
   omega
theorem xnM (c : Int) (l : List Int) (j : Nat) (h1 : -9223372036854775808 <= sv c l) (h2 : sv c l <= 9223372036854775807) : -9223372036854775808 <= sv c (l.drop j) /\ sv c (l.drop j) <= 9223372036854775807 := by
 induction l generalizing j with
 | nil => simp at *; omega
 | cons b r ih =>
  cases j with
  | zero => simp; omega
  | succ j =>
   rw [List.drop_succ_cons]
   rw [sv] at h1 h2
   exact ih j (by omega) (by omega)
theorem xbK (s : ByteArray) (K j : Nat) (hj : j <= K) (hK : K < s.size) : ((xaX s).take (K + 1)).drop j = (s[j].toNat : Int) :: ((xaX s).take (K + 1)).drop (j + 1) := by
 have hl : j < ((xaX s).take (K + 1)).length := by rw [List.length_take,xaY]; omega
 rw [List.drop_eq_getElem_cons hl,List.getElem_take]
 congr 1
 simp only [xaX,List.getElem_map]
 rfl
theorem xgL (s : ByteArray) (e : Int) (he : (e != 0) = true) (H : Hid (∀ w,Calls Tryz.prog 85 #[.string s,.int .i64 32] w fun e' w' => e' = .returned (.tuple #[.int .i64 0,.int .i64 0,.int .i64 e]) /\ w' = w)) (w : World) :
  Calls Tryz.prog 66 #[.string s,.int .i64 32] w fun e' w' => e' = .returned (.tuple #[.int .u64 0,.int .i64 0,.int .i64 e]) /\ Below w.heap.size w w' := by
 go_enter Tryz.func66,Tryz.ntmps66
 go_wp2_with (go_at_call 85; refine (H.out _).mono ?_; rintro e' w' ⟨rfl,rfl⟩)
 go_ret3
 exact ⟨rfl,Below.refl _ _⟩
theorem xjD (s : ByteArray) (K : Nat) (hK : K < 5) (hKs : K < s.size) (N : Int) (hN1 : N <= 18446744073709551615) (HN : Hid (val ((xaX s).take (K + 1)) = N)) (hfit : K = 4 -> (s[K].toNat : Int) < 16)
  (H : Hid (∀ w,Calls Tryz.prog 85 #[.string s,.int .i64 32] w fun e' w' => e' = .returned (.tuple #[.int .i64 ((K : Int) + 1),.int .i64 5,.int .i64 0]) /\ w' = w)) (w : World) :
  Calls Tryz.prog 66 #[.string s,.int .i64 32] w fun e' w' => e' = .returned (.tuple #[.int .u64 N,.int .i64 ((K : Int) + 1),.int .i64 0]) /\ Below w.heap.size w w' := by
 by_cases hk : K = 4
 ·have hb := hfit hk
  clear hfit
  subst hk
  have hin : (4 : Int) < (s.size : Int) := by omega
  go_enter Tryz.func66,Tryz.ntmps66
  go_wp2_with (go_at_call 85; refine (H.out _).mono ?_; rintro e' w' ⟨rfl,rfl⟩)
  go_quiet (fail)
  go_wp2
  go_loop [10,11] (fun t i => ∃ j : Nat,∃ v : Int,i = .int .i64 ((j : Int) - 1) /\ t = .int .u64 v /\ j <= 5 /\ 0 <= v /\ Hid (val (((xaX s).take (5)).drop j) = v)) (fun _ i => (intOf i + 1).toNat)
  case atStart => exact ⟨5,0,by go_num,rfl,Nat.le_refl _,by omega,by unfold Hid; rw [List.drop_eq_nil_of_le (by rw [List.length_take]; omega)]; rfl⟩
  case round =>
   obtain ⟨j,v,rfl,rfl,hj,hv0,HV⟩ := hrel
   cases j with
   | zero =>
    have HE : Hid (v = N) := by unfold Hid; rw [<- HV.out,List.drop_zero]; exact HN.out
    clear HV
    go_wp2
    go_ret3
    exact ⟨xdR HE.out (by omega) rfl,below_drewN (Below.refl _ _) nq⟩
   | succ j =>
    have e : (((j + 1 : Nat) : Int) - 1) = (j : Int) := by omega
    rw [e]
    have hjs : j < s.size := by omega
    have hd := xbK s 4 j (by omega) hKs
    have hle := xzT ((xaX s).take (5)) j
    rw [HN.out,hd,val,HV.out] at hle
    have hbd : v * 128 + (s[j].toNat : Int) % 128 <= 18446744073709551615 := by omega
    have HNew : Hid (val (((xaX s).take (5)).drop j) = v * 128 + (s[j].toNat : Int) % 128) := by unfold Hid; rw [hd,val,HV.out]; omega
    have hb8 : s[j].toNat < 256 := s[j].toNat_lt
    clear hd hle HV e
    go_wp2
    go_round
    case rel => exact ⟨j,_,rfl,rfl,by omega,by omega,HNew⟩
    case measure => simp [intOf]
 ·have hkk : (((K : Int) + 1) == 5) = false := by rw [beq_eq_false_iff_ne]; omega
  clear hfit
  go_enter Tryz.func66,Tryz.ntmps66
  go_wp2_with (go_at_call 85; refine (H.out _).mono ?_; rintro e' w' ⟨rfl,rfl⟩)
  go_quiet (fail)
  go_wp2
  go_loop [10,11] (fun t i => ∃ j : Nat,∃ v : Int,i = .int .i64 ((j : Int) - 1) /\ t = .int .u64 v /\ j <= K + 1 /\ 0 <= v /\ Hid (val (((xaX s).take (K + 1)).drop j) = v)) (fun _ i => (intOf i + 1).toNat)
  case atStart => exact ⟨K + 1,0,by go_num,rfl,Nat.le_refl _,by omega,by unfold Hid; rw [List.drop_eq_nil_of_le (by rw [List.length_take]; omega)]; rfl⟩
  case round =>
   obtain ⟨j,v,rfl,rfl,hj,hv0,HV⟩ := hrel
   cases j with
   | zero =>
    have HE : Hid (v = N) := by unfold Hid; rw [<- HV.out,List.drop_zero]; exact HN.out
    clear HV
    go_wp2
    go_ret3
    exact ⟨xdR HE.out (by omega) rfl,below_drewN (Below.refl _ _) nq⟩
   | succ j =>
    have e : (((j + 1 : Nat) : Int) - 1) = (j : Int) := by omega
    rw [e]
    have hjs : j < s.size := by omega
    have hd := xbK s K j (by omega) hKs
    have hle := xzT ((xaX s).take (K + 1)) j
    rw [HN.out,hd,val,HV.out] at hle
    have hbd : v * 128 + (s[j].toNat : Int) % 128 <= 18446744073709551615 := by omega
    have HNew : Hid (val (((xaX s).take (K + 1)).drop j) = v * 128 + (s[j].toNat : Int) % 128) := by unfold Hid; rw [hd,val,HV.out]; omega
    have hb8 : s[j].toNat < 256 := s[j].toNat_lt
    clear hd hle HV e
    go_wp2
    go_round
    case rel => exact ⟨j,_,rfl,rfl,by omega,by omega,HNew⟩
    case measure => simp [intOf]
theorem xjB (s : ByteArray) (hKs : 4 < s.size) (hfit : (16 : Int) <= (s[4].toNat : Int))
  (H : Hid (∀ w,Calls Tryz.prog 85 #[.string s,.int .i64 32] w fun e' w' => e' = .returned (.tuple #[.int .i64 5,.int .i64 5,.int .i64 0]) /\ w' = w)) (w : World) :
  Calls Tryz.prog 66 #[.string s,.int .i64 32] w fun e' w' => e' = .returned (.tuple #[.int .u64 0,.int .i64 0,.int .i64 4]) /\ Below w.heap.size w w' := by
 have hin : (4 : Int) < (s.size : Int) := by omega
 have hb8 : s[4].toNat < 256 := s[4].toNat_lt
 go_enter Tryz.func66,Tryz.ntmps66
 go_wp2_with (go_at_call 85; refine (H.out _).mono ?_; rintro e' w' ⟨rfl,rfl⟩)
 go_quiet (fail)
 go_wp2
 go_ret3
 exact ⟨rfl,below_drewN (Below.refl _ _) nq⟩
theorem xgM (s : ByteArray) (e : Int) (he : (e != 0) = true) (H : Hid (∀ w,Calls Tryz.prog 85 #[.string s,.int .i64 64] w fun e' w' => e' = .returned (.tuple #[.int .i64 0,.int .i64 0,.int .i64 e]) /\ w' = w)) (w : World) :
  Calls Tryz.prog 66 #[.string s,.int .i64 64] w fun e' w' => e' = .returned (.tuple #[.int .u64 0,.int .i64 0,.int .i64 e]) /\ Below w.heap.size w w' := by
 go_enter Tryz.func66,Tryz.ntmps66
 go_wp2_with (go_at_call 85; refine (H.out _).mono ?_; rintro e' w' ⟨rfl,rfl⟩)
 go_ret3
 exact ⟨rfl,Below.refl _ _⟩
theorem xjE (s : ByteArray) (K : Nat) (hK : K < 10) (hKs : K < s.size) (N : Int) (hN1 : N <= 18446744073709551615) (HN : Hid (val ((xaX s).take (K + 1)) = N)) (hfit : K = 9 -> (s[K].toNat : Int) < 2)
  (H : Hid (∀ w,Calls Tryz.prog 85 #[.string s,.int .i64 64] w fun e' w' => e' = .returned (.tuple #[.int .i64 ((K : Int) + 1),.int .i64 10,.int .i64 0]) /\ w' = w)) (w : World) :
  Calls Tryz.prog 66 #[.string s,.int .i64 64] w fun e' w' => e' = .returned (.tuple #[.int .u64 N,.int .i64 ((K : Int) + 1),.int .i64 0]) /\ Below w.heap.size w w' := by
 by_cases hk : K = 9
 ·have hb := hfit hk
  clear hfit
  subst hk
  have hin : (9 : Int) < (s.size : Int) := by omega
  go_enter Tryz.func66,Tryz.ntmps66
  go_wp2_with (go_at_call 85; refine (H.out _).mono ?_; rintro e' w' ⟨rfl,rfl⟩)
  go_quiet (fail)
  go_wp2
  go_loop [10,11] (fun t i => ∃ j : Nat,∃ v : Int,i = .int .i64 ((j : Int) - 1) /\ t = .int .u64 v /\ j <= 10 /\ 0 <= v /\ Hid (val (((xaX s).take (10)).drop j) = v)) (fun _ i => (intOf i + 1).toNat)
  case atStart => exact ⟨10,0,by go_num,rfl,Nat.le_refl _,by omega,by unfold Hid; rw [List.drop_eq_nil_of_le (by rw [List.length_take]; omega)]; rfl⟩
  case round =>
   obtain ⟨j,v,rfl,rfl,hj,hv0,HV⟩ := hrel
   cases j with
   | zero =>
    have HE : Hid (v = N) := by unfold Hid; rw [<- HV.out,List.drop_zero]; exact HN.out
    clear HV
    go_wp2
    go_ret3
    exact ⟨xdR HE.out (by omega) rfl,below_drewN (Below.refl _ _) nq⟩
   | succ j =>
    have e : (((j + 1 : Nat) : Int) - 1) = (j : Int) := by omega
    rw [e]
    have hjs : j < s.size := by omega
    have hd := xbK s 9 j (by omega) hKs
    have hle := xzT ((xaX s).take (10)) j
    rw [HN.out,hd,val,HV.out] at hle
    have hbd : v * 128 + (s[j].toNat : Int) % 128 <= 18446744073709551615 := by omega
    have HNew : Hid (val (((xaX s).take (10)).drop j) = v * 128 + (s[j].toNat : Int) % 128) := by unfold Hid; rw [hd,val,HV.out]; omega
    have hb8 : s[j].toNat < 256 := s[j].toNat_lt
    clear hd hle HV e
    go_wp2
    go_round
    case rel => exact ⟨j,_,rfl,rfl,by omega,by omega,HNew⟩
    case measure => simp [intOf]
 ·have hkk : (((K : Int) + 1) == 10) = false := by rw [beq_eq_false_iff_ne]; omega
  clear hfit
  go_enter Tryz.func66,Tryz.ntmps66
  go_wp2_with (go_at_call 85; refine (H.out _).mono ?_; rintro e' w' ⟨rfl,rfl⟩)
  go_quiet (fail)
  go_wp2
  go_loop [10,11] (fun t i => ∃ j : Nat,∃ v : Int,i = .int .i64 ((j : Int) - 1) /\ t = .int .u64 v /\ j <= K + 1 /\ 0 <= v /\ Hid (val (((xaX s).take (K + 1)).drop j) = v)) (fun _ i => (intOf i + 1).toNat)
  case atStart => exact ⟨K + 1,0,by go_num,rfl,Nat.le_refl _,by omega,by unfold Hid; rw [List.drop_eq_nil_of_le (by rw [List.length_take]; omega)]; rfl⟩
  case round =>
   obtain ⟨j,v,rfl,rfl,hj,hv0,HV⟩ := hrel
   cases j with
   | zero =>
    have HE : Hid (v = N) := by unfold Hid; rw [<- HV.out,List.drop_zero]; exact HN.out
    clear HV
    go_wp2
    go_ret3
    exact ⟨xdR HE.out (by omega) rfl,below_drewN (Below.refl _ _) nq⟩
   | succ j =>
    have e : (((j + 1 : Nat) : Int) - 1) = (j : Int) := by omega
    rw [e]
    have hjs : j < s.size := by omega
    have hd := xbK s K j (by omega) hKs
    have hle := xzT ((xaX s).take (K + 1)) j
    rw [HN.out,hd,val,HV.out] at hle
    have hbd : v * 128 + (s[j].toNat : Int) % 128 <= 18446744073709551615 := by omega
    have HNew : Hid (val (((xaX s).take (K + 1)).drop j) = v * 128 + (s[j].toNat : Int) % 128) := by unfold Hid; rw [hd,val,HV.out]; omega
    have hb8 : s[j].toNat < 256 := s[j].toNat_lt
    clear hd hle HV e
    go_wp2
    go_round
    case rel => exact ⟨j,_,rfl,rfl,by omega,by omega,HNew⟩
    case measure => simp [intOf]
theorem xjC (s : ByteArray) (hKs : 9 < s.size) (hfit : (2 : Int) <= (s[9].toNat : Int))
  (H : Hid (∀ w,Calls Tryz.prog 85 #[.string s,.int .i64 64] w fun e' w' => e' = .returned (.tuple #[.int .i64 10,.int .i64 10,.int .i64 0]) /\ w' = w)) (w : World) :
  Calls Tryz.prog 66 #[.string s,.int .i64 64] w fun e' w' => e' = .returned (.tuple #[.int .u64 0,.int .i64 0,.int .i64 4]) /\ Below w.heap.size w w' := by
 have hin : (9 : Int) < (s.size : Int) := by omega
 have hb8 : s[9].toNat < 256 := s[9].toNat_lt
 go_enter Tryz.func66,Tryz.ntmps66
 go_wp2_with (go_at_call 85; refine (H.out _).mono ?_; rintro e' w' ⟨rfl,rfl⟩)
 go_quiet (fail)
 go_wp2
 go_ret3
 exact ⟨rfl,below_drewN (Below.refl _ _) nq⟩
theorem xgJ (s : ByteArray) (e : Int) (he : (e != 0) = true) (H : Hid (∀ w,Calls Tryz.prog 85 #[.string s,.int .i64 32] w fun e' w' => e' = .returned (.tuple #[.int .i64 0,.int .i64 0,.int .i64 e]) /\ w' = w)) (w : World) :
  Calls Tryz.prog 87 #[.string s,.int .i64 32] w fun e' w' => e' = .returned (.tuple #[.int .i64 0,.int .i64 0,.int .i64 e]) /\ Below w.heap.size w w' := by
 go_enter Tryz.func87,Tryz.ntmps87
 go_wp2_with (go_at_call 85; refine (H.out _).mono ?_; rintro e' w' ⟨rfl,rfl⟩)
 go_ret3
 exact ⟨rfl,Below.refl _ _⟩
theorem xiV (s : ByteArray) (K : Nat) (hK : K < 5) (hKs : K < s.size) (N : Int) (hN0 : -9223372036854775808 <= N) (hN1 : N <= 9223372036854775807) (HN : Hid (sv 0 ((xaX s).take (K + 1)) = N)) (hc : (s[K].toNat : Int) < 64) (hfit : K = 4 -> (s[K].toNat : Int) < 8)
  (H : Hid (∀ w,Calls Tryz.prog 85 #[.string s,.int .i64 32] w fun e' w' => e' = .returned (.tuple #[.int .i64 ((K : Int) + 1),.int .i64 5,.int .i64 0]) /\ w' = w)) (w : World) :
  Calls Tryz.prog 87 #[.string s,.int .i64 32] w fun e' w' => e' = .returned (.tuple #[.int .i64 N,.int .i64 ((K : Int) + 1),.int .i64 0]) /\ Below w.heap.size w w' := by
 have hbase : sv 0 (((xaX s).take (K + 1)).drop K) = (s[K].toNat : Int) - 128 * 0 := by
  rw [xbK s K K (Nat.le_refl _) hKs,List.drop_eq_nil_of_le (by rw [List.length_take]; omega),sv,sv]; omega
 by_cases hk : K = 4
 ·have hb := hfit hk
  clear hfit
  subst hk
  have hin : (4 : Int) < (s.size : Int) := by omega
  go_enter Tryz.func87,Tryz.ntmps87
  go_wp2_with (go_at_call 85; refine (H.out _).mono ?_; rintro e' w' ⟨rfl,rfl⟩)
  go_loop [10,12] (fun t i => ∃ j : Nat,∃ v : Int,i = .int .i64 ((j : Int) - 1) /\ t = .int .i64 v /\ j <= 4 /\ -9223372036854775808 <= v /\ v <= 9223372036854775807 /\ Hid (sv 0 (((xaX s).take (5)).drop j) = v)) (fun _ i => (intOf i + 1).toNat)
  case atStart => exact ⟨4,_,by go_num,rfl,Nat.le_refl _,by omega,by omega,by unfold Hid; rw [hbase]; omega⟩
  case round =>
   obtain ⟨j,v,rfl,rfl,hj,hv0,hv1,HV⟩ := hrel
   cases j with
   | zero =>
    have HE : Hid (v = N) := by unfold Hid; rw [<- HV.out,List.drop_zero]; exact HN.out
    clear HV
    go_wp2
    go_ret3
    exact ⟨xdR HE.out (by omega) rfl,Below.refl _ _⟩
   | succ j =>
    have e : (((j + 1 : Nat) : Int) - 1) = (j : Int) := by omega
    rw [e]
    have hjs : j < s.size := by omega
    have hd := xbK s 4 j (by omega) hKs
    have hin := xnM 0 ((xaX s).take (5)) j (by rw [HN.out]; exact hN0) (by rw [HN.out]; exact hN1)
    rw [hd,sv,HV.out] at hin
    have hbd0 : -9223372036854775808 <= v * 128 + (s[j].toNat : Int) % 128 := by omega
    have hbd1 : v * 128 + (s[j].toNat : Int) % 128 <= 9223372036854775807 := by omega
    have HNew : Hid (sv 0 (((xaX s).take (5)).drop j) = v * 128 + (s[j].toNat : Int) % 128) := by unfold Hid; rw [hd,sv,HV.out]; omega
    have hb8 : s[j].toNat < 256 := s[j].toNat_lt
    clear hd hin HV e
    go_wp2
    go_round
    case rel => exact ⟨j,_,rfl,rfl,by omega,by omega,by omega,HNew⟩
    case measure => simp [intOf]
 ·have hkk : (((K : Int) + 1) == 5) = false := by rw [beq_eq_false_iff_ne]; omega
  clear hfit
  go_enter Tryz.func87,Tryz.ntmps87
  go_wp2_with (go_at_call 85; refine (H.out _).mono ?_; rintro e' w' ⟨rfl,rfl⟩)
  go_loop [10,12] (fun t i => ∃ j : Nat,∃ v : Int,i = .int .i64 ((j : Int) - 1) /\ t = .int .i64 v /\ j <= K /\ -9223372036854775808 <= v /\ v <= 9223372036854775807 /\ Hid (sv 0 (((xaX s).take (K + 1)).drop j) = v)) (fun _ i => (intOf i + 1).toNat)
  case atStart => exact ⟨K,_,by go_num,rfl,Nat.le_refl _,by omega,by omega,by unfold Hid; rw [hbase]; omega⟩
  case round =>
   obtain ⟨j,v,rfl,rfl,hj,hv0,hv1,HV⟩ := hrel
   cases j with
   | zero =>
    have HE : Hid (v = N) := by unfold Hid; rw [<- HV.out,List.drop_zero]; exact HN.out
    clear HV
    go_wp2
    go_ret3
    exact ⟨xdR HE.out (by omega) rfl,Below.refl _ _⟩
   | succ j =>
    have e : (((j + 1 : Nat) : Int) - 1) = (j : Int) := by omega
    rw [e]
    have hjs : j < s.size := by omega
    have hd := xbK s K j (by omega) hKs
    have hin := xnM 0 ((xaX s).take (K + 1)) j (by rw [HN.out]; exact hN0) (by rw [HN.out]; exact hN1)
    rw [hd,sv,HV.out] at hin
    have hbd0 : -9223372036854775808 <= v * 128 + (s[j].toNat : Int) % 128 := by omega
    have hbd1 : v * 128 + (s[j].toNat : Int) % 128 <= 9223372036854775807 := by omega
    have HNew : Hid (sv 0 (((xaX s).take (K + 1)).drop j) = v * 128 + (s[j].toNat : Int) % 128) := by unfold Hid; rw [hd,sv,HV.out]; omega
    have hb8 : s[j].toNat < 256 := s[j].toNat_lt
    clear hd hin HV e
    go_wp2
    go_round
    case rel => exact ⟨j,_,rfl,rfl,by omega,by omega,by omega,HNew⟩
    case measure => simp [intOf]
theorem xiR (s : ByteArray) (hKs : 4 < s.size) (hc : (s[4].toNat : Int) < 64) (hn : (8 : Int) <= (s[4].toNat : Int))
  (H : Hid (∀ w,Calls Tryz.prog 85 #[.string s,.int .i64 32] w fun e' w' => e' = .returned (.tuple #[.int .i64 5,.int .i64 5,.int .i64 0]) /\ w' = w)) (w : World) :
  Calls Tryz.prog 87 #[.string s,.int .i64 32] w fun e' w' => e' = .returned (.tuple #[.int .i64 0,.int .i64 0,.int .i64 4]) /\ Below w.heap.size w w' := by
 have hin : (4 : Int) < (s.size : Int) := by omega
 have hb8 : s[4].toNat < 256 := s[4].toNat_lt
 go_enter Tryz.func87,Tryz.ntmps87
 go_wp2_with (go_at_call 85; refine (H.out _).mono ?_; rintro e' w' ⟨rfl,rfl⟩)
 go_ret3
 exact ⟨rfl,Below.refl _ _⟩
theorem xiW (s : ByteArray) (K : Nat) (hK : K < 5) (hKs : K < s.size) (N : Int) (hN0 : -9223372036854775808 <= N) (hN1 : N <= 9223372036854775807) (HN : Hid (sv 1 ((xaX s).take (K + 1)) = N)) (hc : (64 : Int) <= (s[K].toNat : Int)) (hc1 : (s[K].toNat : Int) < 128) (hfit : K = 4 -> (120 : Int) <= (s[K].toNat : Int))
  (H : Hid (∀ w,Calls Tryz.prog 85 #[.string s,.int .i64 32] w fun e' w' => e' = .returned (.tuple #[.int .i64 ((K : Int) + 1),.int .i64 5,.int .i64 0]) /\ w' = w)) (w : World) :
  Calls Tryz.prog 87 #[.string s,.int .i64 32] w fun e' w' => e' = .returned (.tuple #[.int .i64 N,.int .i64 ((K : Int) + 1),.int .i64 0]) /\ Below w.heap.size w w' := by
 have hbase : sv 1 (((xaX s).take (K + 1)).drop K) = (s[K].toNat : Int) - 128 * 1 := by
  rw [xbK s K K (Nat.le_refl _) hKs,List.drop_eq_nil_of_le (by rw [List.length_take]; omega),sv,sv]; omega
 by_cases hk : K = 4
 ·have hb := hfit hk
  clear hfit
  subst hk
  have hin : (4 : Int) < (s.size : Int) := by omega
  go_enter Tryz.func87,Tryz.ntmps87
  go_wp2_with (go_at_call 85; refine (H.out _).mono ?_; rintro e' w' ⟨rfl,rfl⟩)
  go_loop [10,12] (fun t i => ∃ j : Nat,∃ v : Int,i = .int .i64 ((j : Int) - 1) /\ t = .int .i64 v /\ j <= 4 /\ -9223372036854775808 <= v /\ v <= 9223372036854775807 /\ Hid (sv 1 (((xaX s).take (5)).drop j) = v)) (fun _ i => (intOf i + 1).toNat)
  case atStart => exact ⟨4,_,by go_num,rfl,Nat.le_refl _,by omega,by omega,by unfold Hid; rw [hbase]; omega⟩
  case round =>
   obtain ⟨j,v,rfl,rfl,hj,hv0,hv1,HV⟩ := hrel
   cases j with
   | zero =>
    have HE : Hid (v = N) := by unfold Hid; rw [<- HV.out,List.drop_zero]; exact HN.out
    clear HV
    go_wp2
    go_ret3
    exact ⟨xdR HE.out (by omega) rfl,Below.refl _ _⟩
   | succ j =>
    have e : (((j + 1 : Nat) : Int) - 1) = (j : Int) := by omega
    rw [e]
    have hjs : j < s.size := by omega
    have hd := xbK s 4 j (by omega) hKs
    have hin := xnM 1 ((xaX s).take (5)) j (by rw [HN.out]; exact hN0) (by rw [HN.out]; exact hN1)
    rw [hd,sv,HV.out] at hin
    have hbd0 : -9223372036854775808 <= v * 128 + (s[j].toNat : Int) % 128 := by omega
    have hbd1 : v * 128 + (s[j].toNat : Int) % 128 <= 9223372036854775807 := by omega
    have HNew : Hid (sv 1 (((xaX s).take (5)).drop j) = v * 128 + (s[j].toNat : Int) % 128) := by unfold Hid; rw [hd,sv,HV.out]; omega
    have hb8 : s[j].toNat < 256 := s[j].toNat_lt
    clear hd hin HV e
    go_wp2
    go_round
    case rel => exact ⟨j,_,rfl,rfl,by omega,by omega,by omega,HNew⟩
    case measure => simp [intOf]
 ·have hkk : (((K : Int) + 1) == 5) = false := by rw [beq_eq_false_iff_ne]; omega
  clear hfit
  go_enter Tryz.func87,Tryz.ntmps87
  go_wp2_with (go_at_call 85; refine (H.out _).mono ?_; rintro e' w' ⟨rfl,rfl⟩)
  go_loop [10,12] (fun t i => ∃ j : Nat,∃ v : Int,i = .int .i64 ((j : Int) - 1) /\ t = .int .i64 v /\ j <= K /\ -9223372036854775808 <= v /\ v <= 9223372036854775807 /\ Hid (sv 1 (((xaX s).take (K + 1)).drop j) = v)) (fun _ i => (intOf i + 1).toNat)
  case atStart => exact ⟨K,_,by go_num,rfl,Nat.le_refl _,by omega,by omega,by unfold Hid; rw [hbase]; omega⟩
  case round =>
   obtain ⟨j,v,rfl,rfl,hj,hv0,hv1,HV⟩ := hrel
   cases j with
   | zero =>
    have HE : Hid (v = N) := by unfold Hid; rw [<- HV.out,List.drop_zero]; exact HN.out
    clear HV
    go_wp2
    go_ret3
    exact ⟨xdR HE.out (by omega) rfl,Below.refl _ _⟩
   | succ j =>
    have e : (((j + 1 : Nat) : Int) - 1) = (j : Int) := by omega
    rw [e]
    have hjs : j < s.size := by omega
    have hd := xbK s K j (by omega) hKs
    have hin := xnM 1 ((xaX s).take (K + 1)) j (by rw [HN.out]; exact hN0) (by rw [HN.out]; exact hN1)
    rw [hd,sv,HV.out] at hin
    have hbd0 : -9223372036854775808 <= v * 128 + (s[j].toNat : Int) % 128 := by omega
    have hbd1 : v * 128 + (s[j].toNat : Int) % 128 <= 9223372036854775807 := by omega
    have HNew : Hid (sv 1 (((xaX s).take (K + 1)).drop j) = v * 128 + (s[j].toNat : Int) % 128) := by unfold Hid; rw [hd,sv,HV.out]; omega
    have hb8 : s[j].toNat < 256 := s[j].toNat_lt
    clear hd hin HV e
    go_wp2
    go_round
    case rel => exact ⟨j,_,rfl,rfl,by omega,by omega,by omega,HNew⟩
    case measure => simp [intOf]
theorem xiS (s : ByteArray) (hKs : 4 < s.size) (hc : (64 : Int) <= (s[4].toNat : Int)) (hc1 : (s[4].toNat : Int) < 128) (hn : (s[4].toNat : Int) < 120)
  (H : Hid (∀ w,Calls Tryz.prog 85 #[.string s,.int .i64 32] w fun e' w' => e' = .returned (.tuple #[.int .i64 5,.int .i64 5,.int .i64 0]) /\ w' = w)) (w : World) :
  Calls Tryz.prog 87 #[.string s,.int .i64 32] w fun e' w' => e' = .returned (.tuple #[.int .i64 0,.int .i64 0,.int .i64 4]) /\ Below w.heap.size w w' := by
 have hin : (4 : Int) < (s.size : Int) := by omega
 have hb8 : s[4].toNat < 256 := s[4].toNat_lt
 go_enter Tryz.func87,Tryz.ntmps87
 go_wp2_with (go_at_call 85; refine (H.out _).mono ?_; rintro e' w' ⟨rfl,rfl⟩)
 go_ret3
 exact ⟨rfl,Below.refl _ _⟩
theorem xgK (s : ByteArray) (e : Int) (he : (e != 0) = true) (H : Hid (∀ w,Calls Tryz.prog 85 #[.string s,.int .i64 64] w fun e' w' => e' = .returned (.tuple #[.int .i64 0,.int .i64 0,.int .i64 e]) /\ w' = w)) (w : World) :
  Calls Tryz.prog 87 #[.string s,.int .i64 64] w fun e' w' => e' = .returned (.tuple #[.int .i64 0,.int .i64 0,.int .i64 e]) /\ Below w.heap.size w w' := by
 go_enter Tryz.func87,Tryz.ntmps87
 go_wp2_with (go_at_call 85; refine (H.out _).mono ?_; rintro e' w' ⟨rfl,rfl⟩)
 go_ret3
 exact ⟨rfl,Below.refl _ _⟩
theorem xiX (s : ByteArray) (K : Nat) (hK : K < 10) (hKs : K < s.size) (N : Int) (hN0 : -9223372036854775808 <= N) (hN1 : N <= 9223372036854775807) (HN : Hid (sv 0 ((xaX s).take (K + 1)) = N)) (hc : (s[K].toNat : Int) < 64) (hfit : K = 9 -> (s[K].toNat : Int) = 0)
  (H : Hid (∀ w,Calls Tryz.prog 85 #[.string s,.int .i64 64] w fun e' w' => e' = .returned (.tuple #[.int .i64 ((K : Int) + 1),.int .i64 10,.int .i64 0]) /\ w' = w)) (w : World) :
  Calls Tryz.prog 87 #[.string s,.int .i64 64] w fun e' w' => e' = .returned (.tuple #[.int .i64 N,.int .i64 ((K : Int) + 1),.int .i64 0]) /\ Below w.heap.size w w' := by
 have hbase : sv 0 (((xaX s).take (K + 1)).drop K) = (s[K].toNat : Int) - 128 * 0 := by
  rw [xbK s K K (Nat.le_refl _) hKs,List.drop_eq_nil_of_le (by rw [List.length_take]; omega),sv,sv]; omega
 by_cases hk : K = 9
 ·have hb := hfit hk
  clear hfit
  subst hk
  have hin : (9 : Int) < (s.size : Int) := by omega
  go_enter Tryz.func87,Tryz.ntmps87
  go_wp2_with (go_at_call 85; refine (H.out _).mono ?_; rintro e' w' ⟨rfl,rfl⟩)
  go_loop [10,12] (fun t i => ∃ j : Nat,∃ v : Int,i = .int .i64 ((j : Int) - 1) /\ t = .int .i64 v /\ j <= 9 /\ -9223372036854775808 <= v /\ v <= 9223372036854775807 /\ Hid (sv 0 (((xaX s).take (10)).drop j) = v)) (fun _ i => (intOf i + 1).toNat)
  case atStart => exact ⟨9,_,by go_num,rfl,Nat.le_refl _,by omega,by omega,by unfold Hid; rw [hbase]; omega⟩
  case round =>
   obtain ⟨j,v,rfl,rfl,hj,hv0,hv1,HV⟩ := hrel
   cases j with
   | zero =>
    have HE : Hid (v = N) := by unfold Hid; rw [<- HV.out,List.drop_zero]; exact HN.out
    clear HV
    go_wp2
    go_ret3
    exact ⟨xdR HE.out (by omega) rfl,Below.refl _ _⟩
   | succ j =>
    have e : (((j + 1 : Nat) : Int) - 1) = (j : Int) := by omega
    rw [e]
    have hjs : j < s.size := by omega
    have hd := xbK s 9 j (by omega) hKs
    have hin := xnM 0 ((xaX s).take (10)) j (by rw [HN.out]; exact hN0) (by rw [HN.out]; exact hN1)
    rw [hd,sv,HV.out] at hin
    have hbd0 : -9223372036854775808 <= v * 128 + (s[j].toNat : Int) % 128 := by omega
    have hbd1 : v * 128 + (s[j].toNat : Int) % 128 <= 9223372036854775807 := by omega
    have HNew : Hid (sv 0 (((xaX s).take (10)).drop j) = v * 128 + (s[j].toNat : Int) % 128) := by unfold Hid; rw [hd,sv,HV.out]; omega
    have hb8 : s[j].toNat < 256 := s[j].toNat_lt
    clear hd hin HV e
    go_wp2
    go_round
    case rel => exact ⟨j,_,rfl,rfl,by omega,by omega,by omega,HNew⟩
    case measure => simp [intOf]
 ·have hkk : (((K : Int) + 1) == 10) = false := by rw [beq_eq_false_iff_ne]; omega
  clear hfit
  go_enter Tryz.func87,Tryz.ntmps87
  go_wp2_with (go_at_call 85; refine (H.out _).mono ?_; rintro e' w' ⟨rfl,rfl⟩)
  go_loop [10,12] (fun t i => ∃ j : Nat,∃ v : Int,i = .int .i64 ((j : Int) - 1) /\ t = .int .i64 v /\ j <= K /\ -9223372036854775808 <= v /\ v <= 9223372036854775807 /\ Hid (sv 0 (((xaX s).take (K + 1)).drop j) = v)) (fun _ i => (intOf i + 1).toNat)
  case atStart => exact ⟨K,_,by go_num,rfl,Nat.le_refl _,by omega,by omega,by unfold Hid; rw [hbase]; omega⟩
  case round =>
   obtain ⟨j,v,rfl,rfl,hj,hv0,hv1,HV⟩ := hrel
   cases j with
   | zero =>
    have HE : Hid (v = N) := by unfold Hid; rw [<- HV.out,List.drop_zero]; exact HN.out
    clear HV
    go_wp2
    go_ret3
    exact ⟨xdR HE.out (by omega) rfl,Below.refl _ _⟩
   | succ j =>
    have e : (((j + 1 : Nat) : Int) - 1) = (j : Int) := by omega
    rw [e]
    have hjs : j < s.size := by omega
    have hd := xbK s K j (by omega) hKs
    have hin := xnM 0 ((xaX s).take (K + 1)) j (by rw [HN.out]; exact hN0) (by rw [HN.out]; exact hN1)
    rw [hd,sv,HV.out] at hin
    have hbd0 : -9223372036854775808 <= v * 128 + (s[j].toNat : Int) % 128 := by omega
    have hbd1 : v * 128 + (s[j].toNat : Int) % 128 <= 9223372036854775807 := by omega
    have HNew : Hid (sv 0 (((xaX s).take (K + 1)).drop j) = v * 128 + (s[j].toNat : Int) % 128) := by unfold Hid; rw [hd,sv,HV.out]; omega
    have hb8 : s[j].toNat < 256 := s[j].toNat_lt
    clear hd hin HV e
    go_wp2
    go_round
    case rel => exact ⟨j,_,rfl,rfl,by omega,by omega,by omega,HNew⟩
    case measure => simp [intOf]
theorem xiT (s : ByteArray) (hKs : 9 < s.size) (hc : (s[9].toNat : Int) < 64) (hn : (1 : Int) <= (s[9].toNat : Int))
  (H : Hid (∀ w,Calls Tryz.prog 85 #[.string s,.int .i64 64] w fun e' w' => e' = .returned (.tuple #[.int .i64 10,.int .i64 10,.int .i64 0]) /\ w' = w)) (w : World) :
  Calls Tryz.prog 87 #[.string s,.int .i64 64] w fun e' w' => e' = .returned (.tuple #[.int .i64 0,.int .i64 0,.int .i64 4]) /\ Below w.heap.size w w' := by
 have hin : (9 : Int) < (s.size : Int) := by omega
 have hb8 : s[9].toNat < 256 := s[9].toNat_lt
 have f0 : ((s[9].toNat : Int) != 0) = true := by rw [bne_iff_ne]; omega
 have f1 : ((s[9].toNat : Int) != -1) = true := by rw [bne_iff_ne]; omega
 go_enter Tryz.func87,Tryz.ntmps87
 go_wp2_with (go_at_call 85; refine (H.out _).mono ?_; rintro e' w' ⟨rfl,rfl⟩)
 go_ret3
 exact ⟨rfl,Below.refl _ _⟩
theorem xiY (s : ByteArray) (K : Nat) (hK : K < 10) (hKs : K < s.size) (N : Int) (hN0 : -9223372036854775808 <= N) (hN1 : N <= 9223372036854775807) (HN : Hid (sv 1 ((xaX s).take (K + 1)) = N)) (hc : (64 : Int) <= (s[K].toNat : Int)) (hc1 : (s[K].toNat : Int) < 128) (hfit : K = 9 -> (s[K].toNat : Int) = 127)
  (H : Hid (∀ w,Calls Tryz.prog 85 #[.string s,.int .i64 64] w fun e' w' => e' = .returned (.tuple #[.int .i64 ((K : Int) + 1),.int .i64 10,.int .i64 0]) /\ w' = w)) (w : World) :
  Calls Tryz.prog 87 #[.string s,.int .i64 64] w fun e' w' => e' = .returned (.tuple #[.int .i64 N,.int .i64 ((K : Int) + 1),.int .i64 0]) /\ Below w.heap.size w w' := by
 have hbase : sv 1 (((xaX s).take (K + 1)).drop K) = (s[K].toNat : Int) - 128 * 1 := by
  rw [xbK s K K (Nat.le_refl _) hKs,List.drop_eq_nil_of_le (by rw [List.length_take]; omega),sv,sv]; omega
 by_cases hk : K = 9
 ·have hb := hfit hk
  clear hfit
  subst hk
  have hin : (9 : Int) < (s.size : Int) := by omega
  go_enter Tryz.func87,Tryz.ntmps87
  go_wp2_with (go_at_call 85; refine (H.out _).mono ?_; rintro e' w' ⟨rfl,rfl⟩)
  go_loop [10,12] (fun t i => ∃ j : Nat,∃ v : Int,i = .int .i64 ((j : Int) - 1) /\ t = .int .i64 v /\ j <= 9 /\ -9223372036854775808 <= v /\ v <= 9223372036854775807 /\ Hid (sv 1 (((xaX s).take (10)).drop j) = v)) (fun _ i => (intOf i + 1).toNat)
  case atStart => exact ⟨9,_,by go_num,rfl,Nat.le_refl _,by omega,by omega,by unfold Hid; rw [hbase]; omega⟩
  case round =>
   obtain ⟨j,v,rfl,rfl,hj,hv0,hv1,HV⟩ := hrel
   cases j with
   | zero =>
    have HE : Hid (v = N) := by unfold Hid; rw [<- HV.out,List.drop_zero]; exact HN.out
    clear HV
    go_wp2
    go_ret3
    exact ⟨xdR HE.out (by omega) rfl,Below.refl _ _⟩
   | succ j =>
    have e : (((j + 1 : Nat) : Int) - 1) = (j : Int) := by omega
    rw [e]
    have hjs : j < s.size := by omega
    have hd := xbK s 9 j (by omega) hKs
    have hin := xnM 1 ((xaX s).take (10)) j (by rw [HN.out]; exact hN0) (by rw [HN.out]; exact hN1)
    rw [hd,sv,HV.out] at hin
    have hbd0 : -9223372036854775808 <= v * 128 + (s[j].toNat : Int) % 128 := by omega
    have hbd1 : v * 128 + (s[j].toNat : Int) % 128 <= 9223372036854775807 := by omega
    have HNew : Hid (sv 1 (((xaX s).take (10)).drop j) = v * 128 + (s[j].toNat : Int) % 128) := by unfold Hid; rw [hd,sv,HV.out]; omega
    have hb8 : s[j].toNat < 256 := s[j].toNat_lt
    clear hd hin HV e
    go_wp2
    go_round
    case rel => exact ⟨j,_,rfl,rfl,by omega,by omega,by omega,HNew⟩
    case measure => simp [intOf]
 ·have hkk : (((K : Int) + 1) == 10) = false := by rw [beq_eq_false_iff_ne]; omega
  clear hfit
  go_enter Tryz.func87,Tryz.ntmps87
  go_wp2_with (go_at_call 85; refine (H.out _).mono ?_; rintro e' w' ⟨rfl,rfl⟩)
  go_loop [10,12] (fun t i => ∃ j : Nat,∃ v : Int,i = .int .i64 ((j : Int) - 1) /\ t = .int .i64 v /\ j <= K /\ -9223372036854775808 <= v /\ v <= 9223372036854775807 /\ Hid (sv 1 (((xaX s).take (K + 1)).drop j) = v)) (fun _ i => (intOf i + 1).toNat)
  case atStart => exact ⟨K,_,by go_num,rfl,Nat.le_refl _,by omega,by omega,by unfold Hid; rw [hbase]; omega⟩
  case round =>
   obtain ⟨j,v,rfl,rfl,hj,hv0,hv1,HV⟩ := hrel
   cases j with
   | zero =>
    have HE : Hid (v = N) := by unfold Hid; rw [<- HV.out,List.drop_zero]; exact HN.out
    clear HV
    go_wp2
    go_ret3
    exact ⟨xdR HE.out (by omega) rfl,Below.refl _ _⟩
   | succ j =>
    have e : (((j + 1 : Nat) : Int) - 1) = (j : Int) := by omega
    rw [e]
    have hjs : j < s.size := by omega
    have hd := xbK s K j (by omega) hKs
    have hin := xnM 1 ((xaX s).take (K + 1)) j (by rw [HN.out]; exact hN0) (by rw [HN.out]; exact hN1)
    rw [hd,sv,HV.out] at hin
    have hbd0 : -9223372036854775808 <= v * 128 + (s[j].toNat : Int) % 128 := by omega
    have hbd1 : v * 128 + (s[j].toNat : Int) % 128 <= 9223372036854775807 := by omega
    have HNew : Hid (sv 1 (((xaX s).take (K + 1)).drop j) = v * 128 + (s[j].toNat : Int) % 128) := by unfold Hid; rw [hd,sv,HV.out]; omega
    have hb8 : s[j].toNat < 256 := s[j].toNat_lt
    clear hd hin HV e
    go_wp2
    go_round
    case rel => exact ⟨j,_,rfl,rfl,by omega,by omega,by omega,HNew⟩
    case measure => simp [intOf]
theorem xiU (s : ByteArray) (hKs : 9 < s.size) (hc : (64 : Int) <= (s[9].toNat : Int)) (hc1 : (s[9].toNat : Int) < 128) (hn : (s[9].toNat : Int) < 127)
  (H : Hid (∀ w,Calls Tryz.prog 85 #[.string s,.int .i64 64] w fun e' w' => e' = .returned (.tuple #[.int .i64 10,.int .i64 10,.int .i64 0]) /\ w' = w)) (w : World) :
  Calls Tryz.prog 87 #[.string s,.int .i64 64] w fun e' w' => e' = .returned (.tuple #[.int .i64 0,.int .i64 0,.int .i64 4]) /\ Below w.heap.size w w' := by
 have hin : (9 : Int) < (s.size : Int) := by omega
 have hb8 : s[9].toNat < 256 := s[9].toNat_lt
 have f0 : ((s[9].toNat : Int) - 128 != 0) = true := by rw [bne_iff_ne]; omega
 have f1 : ((s[9].toNat : Int) - 128 != -1) = true := by rw [bne_iff_ne]; omega
 go_enter Tryz.func87,Tryz.ntmps87
 go_wp2_with (go_at_call 85; refine (H.out _).mono ?_; rintro e' w' ⟨rfl,rfl⟩)
 go_ret3
 exact ⟨rfl,Below.refl _ _⟩
theorem xcJ (s : ByteArray) (f t : List Int) (h : xaX s = f ++ t) (hf : ∀ b ∈ f,128 <= b /\ b < 256) (i : Nat) (hi : i < s.size) (hif : i < f.length) : 127 < (s[i].toNat : Int) := by
 have e := xeO s i hi
 rw [h,List.getD_eq_getElem?_getD,List.getElem?_append_left hif,List.getElem?_eq_getElem hif,Option.getD_some] at e
 have := hf _ (List.getElem_mem hif)
 omega
theorem xnS (s : ByteArray) (f t : List Int) (b : Int) (h : xaX s = f ++ b :: t) : ∃ hi : f.length < s.size,(s[f.length].toNat : Int) = b /\ (xaX s).take (f.length + 1) = f ++ [b] := by
 have hi : f.length < s.size := by rw [<- xaY,h,List.length_append,List.length_cons]; omega
 refine ⟨hi,?_,?_⟩
 ·rw [<- xeO s f.length hi,h]; simp
 ·rw [h,List.take_append]
  rw [List.take_of_length_le (by omega),show f.length + 1 - f.length = 1 from by omega]; rfl
theorem xxX (b : Int) (r : Nat) (h0 : 0 <= b) (h : b < 2 ^ r) : xeV b r = true := by
 simp only [xeV,beq_iff_eq,Int.toNat_natCast]; exact Int.ediv_eq_zero_of_lt h0 h
theorem xeL (s : ByteArray) (hs : s.size <= maxLen) (n k e : Int) (h : rU 32 (xaX s) = (n,k,e)) (w : World) :
  Calls Tryz.prog 66 #[.string s,.int .i64 32] w fun e' w' => e' = .returned (.tuple #[.int .u64 n,.int .i64 k,.int .i64 e]) /\ Below w.heap.size w w' := by
 have hbd := xhO 32 (xaX s) (xaE s)
 rw [rU,if_pos (by simp)] at h hbd
 obtain ⟨f,hf,hc⟩ := xdX (xaX s) (xaE s)
 by_cases hlen : 4 < f.length
 ·have hs' : f = f.take 5 ++ f.drop 5 := (List.take_append_drop _ f).symm
  have h1 : ∀ b ∈ f.take 5,128 <= b /\ b < 256 := fun x hx => hf x (List.mem_of_mem_take hx)
  have h2 : (f.take 5).length = 4 + 1 := by rw [List.length_take]; omega
  obtain ⟨t,ht⟩ : ∃ t,xaX s = f ++ t := by
   rcases hc with hc | ⟨b,t,hc,_⟩
   ·exact ⟨[],by rw [List.append_nil]; exact hc⟩
   ·exact ⟨b :: t,hc⟩
  have hr : rdl xeV 32 (xaX s) 0 0 = (0,0,4) := by
   rw [ht,hs',List.append_assoc]; exact xgU _ _ h1 4 h2 (by omega) (by omega)
  rw [hr] at h
  obtain ⟨rfl,rfl,rfl⟩ := h
  have hsz : f.length <= s.size := by rw [<- xaY,ht,List.length_append]; omega
  exact xgL s 4 rfl (fun w => xjI s hs (by omega) (fun i hi h5 => xcJ s f t ht hf i hi (by omega)) w) w
 ·rcases hc with hc | ⟨b,t,hc,hb0,hb⟩
  ·have hr : rdl xeV 32 (xaX s) 0 0 = (0,0,3) := by rw [hc]; exact xfJ _ hf (by omega)
   rw [hr] at h
   obtain ⟨rfl,rfl,rfl⟩ := h
   have hsz : s.size = f.length := by rw [<- xaY,hc]
   exact xgL s 3 rfl (fun w => xiE s hs (by omega) (fun i hi => xcJ s f [] (by rw [List.append_nil]; exact hc) hf i hi (by omega)) w) w
  ·obtain ⟨hi,hlast,htake⟩ := xnS s f t b hc
   have hspan : ∀ w,Calls Tryz.prog 85 #[.string s,.int .i64 32] w fun e' w' => e' = .returned (.tuple #[.int .i64 ((f.length : Int) + 1),.int .i64 5,.int .i64 0]) /\ w' = w :=
    fun w => xjK s hs f.length (by omega) hi (fun i hi' hif => xcJ s f (b :: t) hc hf i hi' hif) (by omega) w
   by_cases hbad : f.length = 4 /\ 16 <= b
   ·have hr : rdl xeV 32 (xaX s) 0 0 = (0,0,4) := by
     rw [hc]
     refine xkT f t b hf (by omega) (by omega) ?_
     cases hfit : xeV b (32 - 7 * (f.length : Int)) with
     | false => rfl
     | true =>
      rw [show (32 - 7 * (f.length : Int)) = ((4 : Nat) : Int) from by omega] at hfit
      have := xqP hfit
      omega
    rw [hr] at h
    obtain ⟨rfl,rfl,rfl⟩ := h
    have hm : 4 < s.size := by omega
    refine xjB s hm ?_ ?_ w
    ·have : s[4] = s[f.length] := by congr 1; omega
     rw [this,hlast]; omega
    ·intro w
     have := hspan w
     rw [show (f.length : Int) + 1 = 5 from by omega] at this
     exact this
   ·have hr : rdl xeV 32 (xaX s) 0 0 = (val (f ++ [b]),(f.length : Int) + 1,0) := by
     rw [hc]
     refine xfY f t b hf hb0 hb (by omega) ?_
     intro h7
     have e1 : f.length = 4 := by omega
     rw [show (32 - 7 * (f.length : Int)) = ((4 : Nat) : Int) from by omega]
     exact xxX b 4 hb0 (by omega)
    rw [hr] at h hbd
    obtain ⟨rfl,rfl,rfl⟩ := h
    exact xjD s f.length (by omega) hi _ (by omega) (by unfold Hid; rw [htake]) (by intro e1; rw [hlast]; omega) hspan w
theorem xlU (s : ByteArray) (hs : s.size <= maxLen) (n k e : Int) (h : rU 64 (xaX s) = (n,k,e)) (w : World) :
  Calls Tryz.prog 66 #[.string s,.int .i64 64] w fun e' w' => e' = .returned (.tuple #[.int .u64 n,.int .i64 k,.int .i64 e]) /\ Below w.heap.size w w' := by
 have hbd := xhO 64 (xaX s) (xaE s)
 rw [rU,if_pos (by simp)] at h hbd
 obtain ⟨f,hf,hc⟩ := xdX (xaX s) (xaE s)
 by_cases hlen : 9 < f.length
 ·have hs' : f = f.take 10 ++ f.drop 10 := (List.take_append_drop _ f).symm
  have h1 : ∀ b ∈ f.take 10,128 <= b /\ b < 256 := fun x hx => hf x (List.mem_of_mem_take hx)
  have h2 : (f.take 10).length = 9 + 1 := by rw [List.length_take]; omega
  obtain ⟨t,ht⟩ : ∃ t,xaX s = f ++ t := by
   rcases hc with hc | ⟨b,t,hc,_⟩
   ·exact ⟨[],by rw [List.append_nil]; exact hc⟩
   ·exact ⟨b :: t,hc⟩
  have hr : rdl xeV 64 (xaX s) 0 0 = (0,0,4) := by
   rw [ht,hs',List.append_assoc]; exact xgU _ _ h1 9 h2 (by omega) (by omega)
  rw [hr] at h
  obtain ⟨rfl,rfl,rfl⟩ := h
  have hsz : f.length <= s.size := by rw [<- xaY,ht,List.length_append]; omega
  exact xgM s 4 rfl (fun w => xjJ s hs (by omega) (fun i hi h5 => xcJ s f t ht hf i hi (by omega)) w) w
 ·rcases hc with hc | ⟨b,t,hc,hb0,hb⟩
  ·have hr : rdl xeV 64 (xaX s) 0 0 = (0,0,3) := by rw [hc]; exact xfJ _ hf (by omega)
   rw [hr] at h
   obtain ⟨rfl,rfl,rfl⟩ := h
   have hsz : s.size = f.length := by rw [<- xaY,hc]
   exact xgM s 3 rfl (fun w => xiF s hs (by omega) (fun i hi => xcJ s f [] (by rw [List.append_nil]; exact hc) hf i hi (by omega)) w) w
  ·obtain ⟨hi,hlast,htake⟩ := xnS s f t b hc
   have hspan : ∀ w,Calls Tryz.prog 85 #[.string s,.int .i64 64] w fun e' w' => e' = .returned (.tuple #[.int .i64 ((f.length : Int) + 1),.int .i64 10,.int .i64 0]) /\ w' = w :=
    fun w => xjL s hs f.length (by omega) hi (fun i hi' hif => xcJ s f (b :: t) hc hf i hi' hif) (by omega) w
   by_cases hbad : f.length = 9 /\ 2 <= b
   ·have hr : rdl xeV 64 (xaX s) 0 0 = (0,0,4) := by
     rw [hc]
     refine xkT f t b hf (by omega) (by omega) ?_
     cases hfit : xeV b (64 - 7 * (f.length : Int)) with
     | false => rfl
     | true =>
      rw [show (64 - 7 * (f.length : Int)) = ((1 : Nat) : Int) from by omega] at hfit
      have := xqP hfit
      omega
    rw [hr] at h
    obtain ⟨rfl,rfl,rfl⟩ := h
    have hm : 9 < s.size := by omega
    refine xjC s hm ?_ ?_ w
    ·have : s[9] = s[f.length] := by congr 1; omega
     rw [this,hlast]; omega
    ·intro w
     have := hspan w
     rw [show (f.length : Int) + 1 = 10 from by omega] at this
     exact this
   ·have hr : rdl xeV 64 (xaX s) 0 0 = (val (f ++ [b]),(f.length : Int) + 1,0) := by
     rw [hc]
     refine xfY f t b hf hb0 hb (by omega) ?_
     intro h7
     have e1 : f.length = 9 := by omega
     rw [show (64 - 7 * (f.length : Int)) = ((1 : Nat) : Int) from by omega]
     exact xxX b 1 hb0 (by omega)
    rw [hr] at h hbd
    obtain ⟨rfl,rfl,rfl⟩ := h
    exact xjE s f.length (by omega) hi _ (by omega) (by unfold Hid; rw [htake]) (by intro e1; rw [hlast]; omega) hspan w
theorem xmY (b : Int) (h0 : 0 <= b) (h1 : b < 128) : xdY b 4 = false ↔ ((8 <= b /\ b < 64) \/ (64 <= b /\ b < 120)) := by
 obtain ⟨m,rfl⟩ : ∃ m : Nat,b = m := ⟨b.toNat,by omega⟩
 have H : ∀ m : Fin 128,(xdY (m.val : Int) 4 = false) ↔ ((8 <= (m.val : Int) /\ (m.val : Int) < 64) \/ (64 <= (m.val : Int) /\ (m.val : Int) < 120)) := by decide +kernel
 exact H ⟨m,by omega⟩
theorem xlS (s : ByteArray) (hs : s.size <= maxLen) (n k e : Int) (h : rS 32 (xaX s) = (n,k,e)) (w : World) :
  Calls Tryz.prog 87 #[.string s,.int .i64 32] w fun e' w' => e' = .returned (.tuple #[.int .i64 n,.int .i64 k,.int .i64 e]) /\ Below w.heap.size w w' := by
 have hres := yfE 32 (by simp) (xaX s) (xaE s)
 obtain ⟨f,hf,hc⟩ := xdX (xaX s) (xaE s)
 by_cases hlen : 4 < f.length
 ·have hs' : f = f.take 5 ++ f.drop 5 := (List.take_append_drop _ f).symm
  have h1 : ∀ b ∈ f.take 5,128 <= b /\ b < 256 := fun x hx => hf x (List.mem_of_mem_take hx)
  have h2 : (f.take 5).length = 4 + 1 := by rw [List.length_take]; omega
  obtain ⟨t,ht⟩ : ∃ t,xaX s = f ++ t := by
   rcases hc with hc | ⟨b,t,hc,_⟩
   ·exact ⟨[],by rw [List.append_nil]; exact hc⟩
   ·exact ⟨b :: t,hc⟩
  have hr : rdl xdY 32 (xaX s) 0 0 = (0,0,4) := by
   rw [ht,hs',List.append_assoc]; exact xgU _ _ h1 4 h2 (by omega) (by omega)
  rw [rS,if_pos (by simp),hr] at h
  simp at h
  obtain ⟨rfl,rfl,rfl⟩ := h
  have hsz : f.length <= s.size := by rw [<- xaY,ht,List.length_append]; omega
  exact xgJ s 4 rfl (fun w => xjI s hs (by omega) (fun i hi h5 => xcJ s f t ht hf i hi (by omega)) w) w
 ·rcases hc with hc | ⟨b,t,hc,hb0,hb⟩
  ·have hr : rdl xdY 32 (xaX s) 0 0 = (0,0,3) := by rw [hc]; exact xfJ _ hf (by omega)
   rw [rS,if_pos (by simp),hr] at h
   simp at h
   obtain ⟨rfl,rfl,rfl⟩ := h
   have hsz : s.size = f.length := by rw [<- xaY,hc]
   exact xgJ s 3 rfl (fun w => xiE s hs (by omega) (fun i hi => xcJ s f [] (by rw [List.append_nil]; exact hc) hf i hi (by omega)) w) w
  ·obtain ⟨hi,hlast,htake⟩ := xnS s f t b hc
   have hspan : ∀ w,Calls Tryz.prog 85 #[.string s,.int .i64 32] w fun e' w' => e' = .returned (.tuple #[.int .i64 ((f.length : Int) + 1),.int .i64 5,.int .i64 0]) /\ w' = w :=
    fun w => xjK s hs f.length (by omega) hi (fun i hi' hif => xcJ s f (b :: t) hc hf i hi' hif) (by omega) w
   by_cases hbad : f.length = 4 /\ ((8 <= b /\ b < 64) \/ (64 <= b /\ b < 120))
   ·have hr : rdl xdY 32 (xaX s) 0 0 = (0,0,4) := by
     rw [hc]
     refine xkT f t b hf (by omega) (by omega) ?_
     rw [show (32 - 7 * (f.length : Int)) = 4 from by omega]
     exact (xmY b hb0 hb).2 hbad.2
    rw [rS,if_pos (by simp),hr] at h
    simp at h
    obtain ⟨rfl,rfl,rfl⟩ := h
    have hm : 4 < s.size := by omega
    have hl : (s[4].toNat : Int) = b := by
     have : s[4] = s[f.length] := by congr 1; omega
     rw [this,hlast]
    have hsp : ∀ w,Calls Tryz.prog 85 #[.string s,.int .i64 32] w fun e' w' => e' = .returned (.tuple #[.int .i64 5,.int .i64 5,.int .i64 0]) /\ w' = w := by
     intro w
     have := hspan w
     rw [show (f.length : Int) + 1 = 5 from by omega] at this
     exact this
    rcases hbad.2 with hb1 | hb1
    ·exact xiR s hm (by omega) (by omega) hsp w
    ·exact xiS s hm (by omega) (by omega) (by omega) hsp w
   ·have hr : rdl xdY 32 (xaX s) 0 0 = (val (f ++ [b]),(f.length : Int) + 1,0) := by
     rw [hc]
     refine xfY f t b hf hb0 hb (by omega) ?_
     intro h7
     have e1 : f.length = 4 := by omega
     rw [show (32 - 7 * (f.length : Int)) = 4 from by omega]
     cases hfit : xdY b 4 with
     | true => rfl
     | false => exact absurd ⟨e1,(xmY b hb0 hb).1 hfit⟩ hbad
    have e0 : ((f.length : Int) + 1 - 1).toNat = f.length := by omega
    have e1 : ((f.length : Int) + 1).toNat = f.length + 1 := by omega
    have e2 : (xaX s).getD f.length 0 = b := by rw [xeO s f.length hi]; exact hlast
    have hv : rS 32 (xaX s) = (val (f ++ [b]) - (if 64 <= b then 128 ^ (f.length + 1) else 0),(f.length : Int) + 1,0) := by
     rw [rS,if_pos (by simp),hr]
     simp only [e0,e1,e2,if_true]
    have hbd : -9223372036854775808 <= n /\ n <= 9223372036854775807 := by
     rw [hv] at h hres
     injection h with h _
     rcases hres with ⟨e',he',h'⟩ | ⟨n',k',g1,g2,_,_,h'⟩
     ·injection h' with _ h'
      injection h' with _ h'
      subst h'
      cases he'
     ·injection h' with h' _
      omega
    rw [hv] at h
    injection h with ha h
    injection h with hk he
    subst hk he
    have hlen1 : (f ++ [b]).length = f.length + 1 := by rw [List.length_append,List.length_singleton]
    by_cases h64 : 64 <= b
    ·rw [if_pos h64] at ha
     refine xiW s f.length (by omega) hi n hbd.1 hbd.2 ?_ (by omega) (by omega) (by intro e1; omega) hspan w
     unfold Hid; rw [htake,xnN,hlen1]; omega
    ·rw [if_neg h64] at ha
     refine xiV s f.length (by omega) hi n hbd.1 hbd.2 ?_ (by omega) (by intro e1; omega) hspan w
     unfold Hid; rw [htake,xnN,hlen1]; omega
theorem xmZ (b : Int) (h0 : 0 <= b) (h1 : b < 128) : xdY b 1 = false ↔ ((1 <= b /\ b < 64) \/ (64 <= b /\ b < 127)) := by
 obtain ⟨m,rfl⟩ : ∃ m : Nat,b = m := ⟨b.toNat,by omega⟩
 have H : ∀ m : Fin 128,(xdY (m.val : Int) 1 = false) ↔ ((1 <= (m.val : Int) /\ (m.val : Int) < 64) \/ (64 <= (m.val : Int) /\ (m.val : Int) < 127)) := by decide +kernel
 exact H ⟨m,by omega⟩
theorem xlT (s : ByteArray) (hs : s.size <= maxLen) (n k e : Int) (h : rS 64 (xaX s) = (n,k,e)) (w : World) :
  Calls Tryz.prog 87 #[.string s,.int .i64 64] w fun e' w' => e' = .returned (.tuple #[.int .i64 n,.int .i64 k,.int .i64 e]) /\ Below w.heap.size w w' := by
 have hres := yfE 64 (by simp) (xaX s) (xaE s)
 obtain ⟨f,hf,hc⟩ := xdX (xaX s) (xaE s)
 by_cases hlen : 9 < f.length
 ·have hs' : f = f.take 10 ++ f.drop 10 := (List.take_append_drop _ f).symm
  have h1 : ∀ b ∈ f.take 10,128 <= b /\ b < 256 := fun x hx => hf x (List.mem_of_mem_take hx)
  have h2 : (f.take 10).length = 9 + 1 := by rw [List.length_take]; omega
  obtain ⟨t,ht⟩ : ∃ t,xaX s = f ++ t := by
   rcases hc with hc | ⟨b,t,hc,_⟩
   ·exact ⟨[],by rw [List.append_nil]; exact hc⟩
   ·exact ⟨b :: t,hc⟩
  have hr : rdl xdY 64 (xaX s) 0 0 = (0,0,4) := by
   rw [ht,hs',List.append_assoc]; exact xgU _ _ h1 9 h2 (by omega) (by omega)
  rw [rS,if_pos (by simp),hr] at h
  simp at h
  obtain ⟨rfl,rfl,rfl⟩ := h
  have hsz : f.length <= s.size := by rw [<- xaY,ht,List.length_append]; omega
  exact xgK s 4 rfl (fun w => xjJ s hs (by omega) (fun i hi h5 => xcJ s f t ht hf i hi (by omega)) w) w
 ·rcases hc with hc | ⟨b,t,hc,hb0,hb⟩
  ·have hr : rdl xdY 64 (xaX s) 0 0 = (0,0,3) := by rw [hc]; exact xfJ _ hf (by omega)
   rw [rS,if_pos (by simp),hr] at h
   simp at h
   obtain ⟨rfl,rfl,rfl⟩ := h
   have hsz : s.size = f.length := by rw [<- xaY,hc]
   exact xgK s 3 rfl (fun w => xiF s hs (by omega) (fun i hi => xcJ s f [] (by rw [List.append_nil]; exact hc) hf i hi (by omega)) w) w
  ·obtain ⟨hi,hlast,htake⟩ := xnS s f t b hc
   have hspan : ∀ w,Calls Tryz.prog 85 #[.string s,.int .i64 64] w fun e' w' => e' = .returned (.tuple #[.int .i64 ((f.length : Int) + 1),.int .i64 10,.int .i64 0]) /\ w' = w :=
    fun w => xjL s hs f.length (by omega) hi (fun i hi' hif => xcJ s f (b :: t) hc hf i hi' hif) (by omega) w
   by_cases hbad : f.length = 9 /\ ((1 <= b /\ b < 64) \/ (64 <= b /\ b < 127))
   ·have hr : rdl xdY 64 (xaX s) 0 0 = (0,0,4) := by
     rw [hc]
     refine xkT f t b hf (by omega) (by omega) ?_
     rw [show (64 - 7 * (f.length : Int)) = 1 from by omega]
     exact (xmZ b hb0 hb).2 hbad.2
    rw [rS,if_pos (by simp),hr] at h
    simp at h
    obtain ⟨rfl,rfl,rfl⟩ := h
    have hm : 9 < s.size := by omega
    have hl : (s[9].toNat : Int) = b := by
     have : s[9] = s[f.length] := by congr 1; omega
     rw [this,hlast]
    have hsp : ∀ w,Calls Tryz.prog 85 #[.string s,.int .i64 64] w fun e' w' => e' = .returned (.tuple #[.int .i64 10,.int .i64 10,.int .i64 0]) /\ w' = w := by
     intro w
     have := hspan w
     rw [show (f.length : Int) + 1 = 10 from by omega] at this
     exact this
    rcases hbad.2 with hb1 | hb1
    ·exact xiT s hm (by omega) (by omega) hsp w
    ·exact xiU s hm (by omega) (by omega) (by omega) hsp w
   ·have hr : rdl xdY 64 (xaX s) 0 0 = (val (f ++ [b]),(f.length : Int) + 1,0) := by
     rw [hc]
     refine xfY f t b hf hb0 hb (by omega) ?_
     intro h7
     have e1 : f.length = 9 := by omega
     rw [show (64 - 7 * (f.length : Int)) = 1 from by omega]
     cases hfit : xdY b 1 with
     | true => rfl
     | false => exact absurd ⟨e1,(xmZ b hb0 hb).1 hfit⟩ hbad
    have e0 : ((f.length : Int) + 1 - 1).toNat = f.length := by omega
    have e1 : ((f.length : Int) + 1).toNat = f.length + 1 := by omega
    have e2 : (xaX s).getD f.length 0 = b := by rw [xeO s f.length hi]; exact hlast
    have hv : rS 64 (xaX s) = (val (f ++ [b]) - (if 64 <= b then 128 ^ (f.length + 1) else 0),(f.length : Int) + 1,0) := by
     rw [rS,if_pos (by simp),hr]
     simp only [e0,e1,e2,if_true]
    have hbd : -9223372036854775808 <= n /\ n <= 9223372036854775807 := by
     rw [hv] at h hres
     injection h with h _
     rcases hres with ⟨e',he',h'⟩ | ⟨n',k',g1,g2,_,_,h'⟩
     ·injection h' with _ h'
      injection h' with _ h'
      subst h'
      cases he'
     ·injection h' with h' _
      omega
    rw [hv] at h
    injection h with ha h
    injection h with hk he
    subst hk he
    have hlen1 : (f ++ [b]).length = f.length + 1 := by rw [List.length_append,List.length_singleton]
    by_cases h64 : 64 <= b
    ·rw [if_pos h64] at ha
     refine xiY s f.length (by omega) hi n hbd.1 hbd.2 ?_ (by omega) (by omega) (by intro e1; omega) hspan w
     unfold Hid; rw [htake,xnN,hlen1]; omega
    ·rw [if_neg h64] at ha
     refine xiX s f.length (by omega) hi n hbd.1 hbd.2 ?_ (by omega) (by intro e1; omega) hspan w
     unfold Hid; rw [htake,xnN,hlen1]; omega
theorem xnG (s : ByteArray) (B : Int) (h1 : (B != 32) = true) (h2 : (B != 64) = true) (w : World) :
  Calls Tryz.prog 66 #[.string s,.int .i64 B] w fun e' w' => e' = .returned (.tuple #[.int .u64 0,.int .i64 0,.int .i64 1]) /\ Below w.heap.size w w' := by
 go_enter Tryz.func66,Tryz.ntmps66
 go_wp2_with (go_at_call 85; refine (xrZ s B h1 h2 _).mono ?_; rintro e' w' ⟨rfl,rfl⟩)
 go_ret3
 exact ⟨rfl,Below.refl _ _⟩
theorem xnF (s : ByteArray) (B : Int) (h1 : (B != 32) = true) (h2 : (B != 64) = true) (w : World) :
  Calls Tryz.prog 87 #[.string s,.int .i64 B] w fun e' w' => e' = .returned (.tuple #[.int .i64 0,.int .i64 0,.int .i64 1]) /\ Below w.heap.size w w' := by
 go_enter Tryz.func87,Tryz.ntmps87
 go_wp2_with (go_at_call 85; refine (xrZ s B h1 h2 _).mono ?_; rintro e' w' ⟨rfl,rfl⟩)
 go_ret3
 exact ⟨rfl,Below.refl _ _⟩
theorem xgD (s : ByteArray) (B n k e : Int) (hs : s.size <= maxLen) (h : Hid (rU B (xaX s) = (n,k,e))) (w : World) :
  Calls Tryz.prog 66 #[.string s,.int .i64 B] w fun e' w' => e' = .returned (.tuple #[.int .u64 n,.int .i64 k,.int .i64 e]) /\ Below w.heap.size w w' := by
 by_cases hB : B = 32 \/ B = 64
 ·rcases hB with rfl | rfl
  ·exact xeL s hs n k e h.out w
  ·exact xlU s hs n k e h.out w
 ·have h' := h.out
  rw [rU,if_neg hB] at h'
  injection h' with ha h'
  injection h' with hb hc
  subst ha hb hc
  exact xnG s B (by rw [bne_iff_ne]; intro h'; exact hB (.inl h')) (by rw [bne_iff_ne]; intro h'; exact hB (.inr h')) w
theorem xgC (s : ByteArray) (B n k e : Int) (hs : s.size <= maxLen) (h : Hid (rS B (xaX s) = (n,k,e))) (w : World) :
  Calls Tryz.prog 87 #[.string s,.int .i64 B] w fun e' w' => e' = .returned (.tuple #[.int .i64 n,.int .i64 k,.int .i64 e]) /\ Below w.heap.size w w' := by
 by_cases hB : B = 32 \/ B = 64
 ·rcases hB with rfl | rfl
  ·exact xlS s hs n k e h.out w
  ·exact xlT s hs n k e h.out w
 ·have h' := h.out
  rw [rS,if_neg hB] at h'
  injection h' with ha h'
  injection h' with hb hc
  subst ha hb hc
  exact xnF s B (by rw [bne_iff_ne]; intro h'; exact hB (.inl h')) (by rw [bne_iff_ne]; intro h'; exact hB (.inr h')) w
end Go.Proofs.YtmmjgdaamkdncaaGreatDoor
