/-
 What sections of lists are, and the texts of table, memory and start.
 What the program makes of locals: groups.
 What codeText makes of a function.
-/
import Derived.Test.YtakpkdckajjooaaGreatDoorWQY
import Derived.Deep.AppendLies
set_option maxHeartbeats 4000000
set_option maxRecDepth 1000000
namespace Go.Proofs.YtakpkdckajjooaaGreatDoor
set_option linter.unusedVariables false
open Go.RowKit
theorem listSection_sig (w : World) (num : Int) (h0 : 0 ≤ num) (h1 : num < 256) (o : Option Addr) (n cap : Nat) (fv : Value) (x : List Int) (hx : x.length ≤ 100000000)
  (HL : Hid (0 < n → Calls Tryz.prog 120 #[.slice o n cap, fv] w (Txt w x))) :
  Calls Tryz.prog 71 #[.int .u8 num, .slice o n cap, fv] w (Txt w (if n = 0 then [] else num :: tName x)) := by
 by_cases hn : n = 0
 ·subst hn
  go_enter Tryz.func71, Tryz.ntmps71
  go_wp2
  go_ret
  exact ⟨_, rfl, rfl, Below.refl _ _⟩
 ·rw [if_neg hn]
  have HLX : Hid (type_of% (HL.out (by omega))) := HL.out (by omega)
  have hn0 : ((n : Int) == 0) = false := by rw [beq_eq_false_iff_ne]; omega
  clear HL
  go_enter Tryz.func71, Tryz.ntmps71
  go_wp2_with fail
  refine HLX.out.mono ?_
  rintro r w1 ⟨t, rfl, ht, b⟩
  have HT : Hid (nums t = x) := ht
  have hz := size_of ht
  have HS : Hid (type_of% (section_any num h0 h1 t (by omega) w1)) := section_any num h0 h1 t (by omega) w1
  have HB : Hid (Below w.heap.size w w1) := b
  clear ht b HLX
  go_wp2_with fail
  refine HS.out.mono ?_
  rintro r w2 ⟨t2, rfl, ht2, b2⟩
  go_wp2
  go_ret
  exact ⟨_, rfl, by rw [ht2, HT.out], HB.out.trans (b2.mono HB.out.size)⟩
theorem listSection_imp (w : World) (num : Int) (h0 : 0 ≤ num) (h1 : num < 256) (o : Option Addr) (n cap : Nat) (fv : Value) (x : List Int) (hx : x.length ≤ 100000000)
  (HL : Hid (0 < n → Calls Tryz.prog 124 #[.slice o n cap, fv] w (Txt w x))) :
  Calls Tryz.prog 73 #[.int .u8 num, .slice o n cap, fv] w (Txt w (if n = 0 then [] else num :: tName x)) := by
 by_cases hn : n = 0
 ·subst hn
  go_enter Tryz.func73, Tryz.ntmps73
  go_wp2
  go_ret
  exact ⟨_, rfl, rfl, Below.refl _ _⟩
 ·rw [if_neg hn]
  have HLX : Hid (type_of% (HL.out (by omega))) := HL.out (by omega)
  have hn0 : ((n : Int) == 0) = false := by rw [beq_eq_false_iff_ne]; omega
  clear HL
  go_enter Tryz.func73, Tryz.ntmps73
  go_wp2_with fail
  refine HLX.out.mono ?_
  rintro r w1 ⟨t, rfl, ht, b⟩
  have HT : Hid (nums t = x) := ht
  have hz := size_of ht
  have HS : Hid (type_of% (section_any num h0 h1 t (by omega) w1)) := section_any num h0 h1 t (by omega) w1
  have HB : Hid (Below w.heap.size w w1) := b
  clear ht b HLX
  go_wp2_with fail
  refine HS.out.mono ?_
  rintro r w2 ⟨t2, rfl, ht2, b2⟩
  go_wp2
  go_ret
  exact ⟨_, rfl, by rw [ht2, HT.out], HB.out.trans (b2.mono HB.out.size)⟩
theorem listSection_fun (w : World) (num : Int) (h0 : 0 ≤ num) (h1 : num < 256) (o : Option Addr) (n cap : Nat) (fv : Value) (x : List Int) (hx : x.length ≤ 100000000)
  (HL : Hid (0 < n → Calls Tryz.prog 127 #[.slice o n cap, fv] w (Txt w x))) :
  Calls Tryz.prog 75 #[.int .u8 num, .slice o n cap, fv] w (Txt w (if n = 0 then [] else num :: tName x)) := by
 by_cases hn : n = 0
 ·subst hn
  go_enter Tryz.func75, Tryz.ntmps75
  go_wp2
  go_ret
  exact ⟨_, rfl, rfl, Below.refl _ _⟩
 ·rw [if_neg hn]
  have HLX : Hid (type_of% (HL.out (by omega))) := HL.out (by omega)
  have hn0 : ((n : Int) == 0) = false := by rw [beq_eq_false_iff_ne]; omega
  clear HL
  go_enter Tryz.func75, Tryz.ntmps75
  go_wp2_with fail
  refine HLX.out.mono ?_
  rintro r w1 ⟨t, rfl, ht, b⟩
  have HT : Hid (nums t = x) := ht
  have hz := size_of ht
  have HS : Hid (type_of% (section_any num h0 h1 t (by omega) w1)) := section_any num h0 h1 t (by omega) w1
  have HB : Hid (Below w.heap.size w w1) := b
  clear ht b HLX
  go_wp2_with fail
  refine HS.out.mono ?_
  rintro r w2 ⟨t2, rfl, ht2, b2⟩
  go_wp2
  go_ret
  exact ⟨_, rfl, by rw [ht2, HT.out], HB.out.trans (b2.mono HB.out.size)⟩
theorem listSection_glo (w : World) (num : Int) (h0 : 0 ≤ num) (h1 : num < 256) (o : Option Addr) (n cap : Nat) (fv : Value) (x : List Int) (hx : x.length ≤ 100000000)
  (HL : Hid (0 < n → Calls Tryz.prog 128 #[.slice o n cap, fv] w (Txt w x))) :
  Calls Tryz.prog 79 #[.int .u8 num, .slice o n cap, fv] w (Txt w (if n = 0 then [] else num :: tName x)) := by
 by_cases hn : n = 0
 ·subst hn
  go_enter Tryz.func79, Tryz.ntmps79
  go_wp2
  go_ret
  exact ⟨_, rfl, rfl, Below.refl _ _⟩
 ·rw [if_neg hn]
  have HLX : Hid (type_of% (HL.out (by omega))) := HL.out (by omega)
  have hn0 : ((n : Int) == 0) = false := by rw [beq_eq_false_iff_ne]; omega
  clear HL
  go_enter Tryz.func79, Tryz.ntmps79
  go_wp2_with fail
  refine HLX.out.mono ?_
  rintro r w1 ⟨t, rfl, ht, b⟩
  have HT : Hid (nums t = x) := ht
  have hz := size_of ht
  have HS : Hid (type_of% (section_any num h0 h1 t (by omega) w1)) := section_any num h0 h1 t (by omega) w1
  have HB : Hid (Below w.heap.size w w1) := b
  clear ht b HLX
  go_wp2_with fail
  refine HS.out.mono ?_
  rintro r w2 ⟨t2, rfl, ht2, b2⟩
  go_wp2
  go_ret
  exact ⟨_, rfl, by rw [ht2, HT.out], HB.out.trans (b2.mono HB.out.size)⟩
theorem listSection_exp (w : World) (num : Int) (h0 : 0 ≤ num) (h1 : num < 256) (o : Option Addr) (n cap : Nat) (fv : Value) (x : List Int) (hx : x.length ≤ 100000000)
  (HL : Hid (0 < n → Calls Tryz.prog 131 #[.slice o n cap, fv] w (Txt w x))) :
  Calls Tryz.prog 81 #[.int .u8 num, .slice o n cap, fv] w (Txt w (if n = 0 then [] else num :: tName x)) := by
 by_cases hn : n = 0
 ·subst hn
  go_enter Tryz.func81, Tryz.ntmps81
  go_wp2
  go_ret
  exact ⟨_, rfl, rfl, Below.refl _ _⟩
 ·rw [if_neg hn]
  have HLX : Hid (type_of% (HL.out (by omega))) := HL.out (by omega)
  have hn0 : ((n : Int) == 0) = false := by rw [beq_eq_false_iff_ne]; omega
  clear HL
  go_enter Tryz.func81, Tryz.ntmps81
  go_wp2_with fail
  refine HLX.out.mono ?_
  rintro r w1 ⟨t, rfl, ht, b⟩
  have HT : Hid (nums t = x) := ht
  have hz := size_of ht
  have HS : Hid (type_of% (section_any num h0 h1 t (by omega) w1)) := section_any num h0 h1 t (by omega) w1
  have HB : Hid (Below w.heap.size w w1) := b
  clear ht b HLX
  go_wp2_with fail
  refine HS.out.mono ?_
  rintro r w2 ⟨t2, rfl, ht2, b2⟩
  go_wp2
  go_ret
  exact ⟨_, rfl, by rw [ht2, HT.out], HB.out.trans (b2.mono HB.out.size)⟩
theorem listSection_ele (w : World) (num : Int) (h0 : 0 ≤ num) (h1 : num < 256) (o : Option Addr) (n cap : Nat) (fv : Value) (x : List Int) (hx : x.length ≤ 100000000)
  (HL : Hid (0 < n → Calls Tryz.prog 132 #[.slice o n cap, fv] w (Txt w x))) :
  Calls Tryz.prog 84 #[.int .u8 num, .slice o n cap, fv] w (Txt w (if n = 0 then [] else num :: tName x)) := by
 by_cases hn : n = 0
 ·subst hn
  go_enter Tryz.func84, Tryz.ntmps84
  go_wp2
  go_ret
  exact ⟨_, rfl, rfl, Below.refl _ _⟩
 ·rw [if_neg hn]
  have HLX : Hid (type_of% (HL.out (by omega))) := HL.out (by omega)
  have hn0 : ((n : Int) == 0) = false := by rw [beq_eq_false_iff_ne]; omega
  clear HL
  go_enter Tryz.func84, Tryz.ntmps84
  go_wp2_with fail
  refine HLX.out.mono ?_
  rintro r w1 ⟨t, rfl, ht, b⟩
  have HT : Hid (nums t = x) := ht
  have hz := size_of ht
  have HS : Hid (type_of% (section_any num h0 h1 t (by omega) w1)) := section_any num h0 h1 t (by omega) w1
  have HB : Hid (Below w.heap.size w w1) := b
  clear ht b HLX
  go_wp2_with fail
  refine HS.out.mono ?_
  rintro r w2 ⟨t2, rfl, ht2, b2⟩
  go_wp2
  go_ret
  exact ⟨_, rfl, by rw [ht2, HT.out], HB.out.trans (b2.mono HB.out.size)⟩
theorem listSection_dat (w : World) (num : Int) (h0 : 0 ≤ num) (h1 : num < 256) (o : Option Addr) (n cap : Nat) (fv : Value) (x : List Int) (hx : x.length ≤ 100000000)
  (HL : Hid (0 < n → Calls Tryz.prog 140 #[.slice o n cap, fv] w (Txt w x))) :
  Calls Tryz.prog 87 #[.int .u8 num, .slice o n cap, fv] w (Txt w (if n = 0 then [] else num :: tName x)) := by
 by_cases hn : n = 0
 ·subst hn
  go_enter Tryz.func87, Tryz.ntmps87
  go_wp2
  go_ret
  exact ⟨_, rfl, rfl, Below.refl _ _⟩
 ·rw [if_neg hn]
  have HLX : Hid (type_of% (HL.out (by omega))) := HL.out (by omega)
  have hn0 : ((n : Int) == 0) = false := by rw [beq_eq_false_iff_ne]; omega
  clear HL
  go_enter Tryz.func87, Tryz.ntmps87
  go_wp2_with fail
  refine HLX.out.mono ?_
  rintro r w1 ⟨t, rfl, ht, b⟩
  have HT : Hid (nums t = x) := ht
  have hz := size_of ht
  have HS : Hid (type_of% (section_any num h0 h1 t (by omega) w1)) := section_any num h0 h1 t (by omega) w1
  have HB : Hid (Below w.heap.size w w1) := b
  clear ht b HLX
  go_wp2_with fail
  refine HS.out.mono ?_
  rintro r w2 ⟨t2, rfl, ht2, b2⟩
  go_wp2
  go_ret
  exact ⟨_, rfl, by rw [ht2, HT.out], HB.out.trans (b2.mono HB.out.size)⟩
theorem typeText_any (w : World) (n : Int) (h0 : 0 ≤ n) (h1 : n ≤ 9223372036854775807) (v2 v3 : Value) :
  Calls Tryz.prog 76 #[.agg #[.int .i64 n, v2, v3]] w (Txt w (uB n.toNat)) := by
 go_enter Tryz.func76, Tryz.ntmps76
 go_wp2_with fail
 refine (numberText_any n h0 h1 _).mono ?_
 rintro r w1 ⟨t, rfl, ht, b⟩
 go_wp2
 go_ret
 exact ⟨_, rfl, ht, ((Below.refl _ _).alloc (Nat.le_refl _) _).trans (b.mono (by simp))⟩
theorem startText_any (w : World) (n : Int) (h0 : 0 ≤ n) (h1 : n ≤ 4294967295) :
  Calls Tryz.prog 83 #[.int .i64 n] w (Txt w (if n = 0 then [] else 8 :: tName (uB (n - 1).toNat))) := by
 by_cases hn : n = 0
 ·subst hn
  go_enter Tryz.func83, Tryz.ntmps83
  go_wp2
  go_ret
  exact ⟨_, rfl, rfl, Below.refl _ _⟩
 ·rw [if_neg hn]
  have hn0 : (n == 0) = false := by rw [beq_eq_false_iff_ne]; omega
  have hu := uB_len10 (n - 1).toNat (by omega)
  have HN : Hid (type_of% (numberText_any (n - 1) (by omega) (by omega) w)) := numberText_any (n - 1) (by omega) (by omega) w
  clear hn
  go_enter Tryz.func83, Tryz.ntmps83
  go_wp2_with fail
  refine HN.out.mono ?_
  rintro r w1 ⟨t, rfl, ht, b⟩
  have HT : Hid (type_of% ht) := ht
  have hz := size_of ht
  have HS : Hid (type_of% (section_any 8 (by omega) (by omega) t (by omega) w1)) := section_any 8 (by omega) (by omega) t (by omega) w1
  have HB : Hid (Below w.heap.size w w1) := b
  clear ht b HN
  go_wp2_with fail
  refine HS.out.mono ?_
  rintro r w2 ⟨t2, rfl, ht2, b2⟩
  go_wp2
  go_ret
  exact ⟨_, rfl, by rw [ht2, HT.out], HB.out.trans (b2.mono HB.out.size)⟩
theorem tableText_any (w : World) (n : Int) (h0 : 0 ≤ n) (h1 : n ≤ 16) :
  Calls Tryz.prog 77 #[.int .i64 n] w (Txt w (if n = 0 then [] else 4 :: tName (uB 1 ++ 112 :: 0 :: uB n.toNat))) := by
 by_cases hn : n = 0
 ·subst hn
  go_enter Tryz.func77, Tryz.ntmps77
  go_wp2
  go_ret
  exact ⟨_, rfl, rfl, Below.refl _ _⟩
 ·rw [if_neg hn]
  have hn0 : (n == 0) = false := by rw [beq_eq_false_iff_ne]; omega
  have hu := uB_len10 n.toNat (by omega)
  have hu1 := uB_len10 1 (by omega)
  clear hn
  go_enter Tryz.func77, Tryz.ntmps77
  go_wp2_with fail
  refine (numberText_any 1 (by omega) (by omega) _).mono ?_
  rintro r w1 ⟨t1, rfl, ht1, b1⟩
  have HT1 : Hid (nums t1 = uB 1) := ht1
  have hz1 : t1.size = (uB 1).length := size_of ht1
  have HB2 : Hid (BB (w1.alloc (.cells #[.int .u8 112, .int .u8 0] 5)) w1.heap.size [112, 0]) := BB.two _ _ _
  have HB : Hid (Below w.heap.size w (w1.alloc (.cells #[.int .u8 112, .int .u8 0] 5))) := b1.alloc b1.size _
  have hs1 := b1.size
  clear ht1 b1
  go_wp2_with fail
  refine (bytes_txt _ _ 2 _ HB2.out rfl (fun b hb => by simp at hb; omega)).mono ?_
  rintro r w2 ⟨t2, rfl, ht2, b2⟩
  have hz2 : t2.size = 2 := size_of ht2
  have HT2 : Hid (type_of% ht2) := ht2
  have HBB : Hid (Below w.heap.size w w2) := HB.out.trans (b2.mono HB.out.size)
  clear ht2 b2 HB HB2
  go_wp2_with fail
  refine (numberText_any n h0 (by omega) _).mono ?_
  rintro r w3 ⟨t3, rfl, ht3, b3⟩
  have hz3 := size_of ht3
  have HT3 : Hid (type_of% ht3) := ht3
  have HB3 : Hid (Below w.heap.size w w3) := HBB.out.trans (b3.mono HBB.out.size)
  have HS : Hid (type_of% (section_any 4 (by omega) (by omega) (t1 ++ t2 ++ t3) (by rw [ByteArray.size_append, ByteArray.size_append]; omega) w3)) := section_any 4 (by omega) (by omega) (t1 ++ t2 ++ t3) (by rw [ByteArray.size_append, ByteArray.size_append]; omega) w3
  clear ht3 b3 HBB
  go_wp2_with fail
  refine HS.out.mono ?_
  rintro r w4 ⟨t4, rfl, ht4, b4⟩
  go_wp2
  go_ret
  exact ⟨_, rfl, by rw [ht4, nums_append, nums_append, HT1.out, HT2.out, HT3.out, List.append_assoc]; rfl, HB3.out.trans (b4.mono HB3.out.size)⟩
theorem memoryText_any (w : World) (p n : Int) (hp0 : 0 ≤ p) (hp : p ≤ 8) (h0 : 0 ≤ n) (h1 : n ≤ 8) :
  Calls Tryz.prog 78 #[.int .i64 p, .int .i64 n] w (Txt w (if n = 0 then [] else 5 :: tName (uB 1 ++ 1 :: (uB p.toNat ++ uB n.toNat)))) := by
 by_cases hn : n = 0
 ·subst hn
  go_enter Tryz.func78, Tryz.ntmps78
  go_wp2
  go_ret
  exact ⟨_, rfl, rfl, Below.refl _ _⟩
 ·rw [if_neg hn]
  have hn0 : (n == 0) = false := by rw [beq_eq_false_iff_ne]; omega
  have hu := uB_len10 n.toNat (by omega)
  have hup := uB_len10 p.toNat (by omega)
  have hu1 := uB_len10 1 (by omega)
  clear hn
  go_enter Tryz.func78, Tryz.ntmps78
  go_wp2_with fail
  refine (numberText_any 1 (by omega) (by omega) _).mono ?_
  rintro r w1 ⟨t1, rfl, ht1, b1⟩
  have HT1 : Hid (nums t1 = uB 1) := ht1
  have hz1 : t1.size = (uB 1).length := size_of ht1
  have HB2 : Hid (BB (w1.alloc (.cells #[.int .u8 1] 5)) w1.heap.size [1]) := BB.one _ _
  have HB : Hid (Below w.heap.size w (w1.alloc (.cells #[.int .u8 1] 5))) := b1.alloc b1.size _
  have hs1 := b1.size
  clear ht1 b1
  go_wp2_with fail
  refine (bytes_txt _ _ 1 _ HB2.out rfl (fun b hb => by simp at hb; omega)).mono ?_
  rintro r w2 ⟨t2, rfl, ht2, b2⟩
  have hz2 : t2.size = 1 := size_of ht2
  have HT2 : Hid (type_of% ht2) := ht2
  have HBB : Hid (Below w.heap.size w w2) := HB.out.trans (b2.mono HB.out.size)
  clear ht2 b2 HB HB2
  go_wp2_with fail
  refine (numberText_any p hp0 (by omega) _).mono ?_
  rintro r w3 ⟨t3, rfl, ht3, b3⟩
  have hz3 := size_of ht3
  have HT3 : Hid (type_of% ht3) := ht3
  have HB3 : Hid (Below w.heap.size w w3) := HBB.out.trans (b3.mono HBB.out.size)
  clear ht3 b3 HBB
  go_wp2_with fail
  refine (numberText_any n h0 (by omega) _).mono ?_
  rintro r w4 ⟨t4, rfl, ht4, b4⟩
  have hz4 := size_of ht4
  have HT4 : Hid (type_of% ht4) := ht4
  have HB4 : Hid (Below w.heap.size w w4) := HB3.out.trans (b4.mono HB3.out.size)
  have HS : Hid (type_of% (section_any 5 (by omega) (by omega) (t1 ++ t2 ++ t3 ++ t4) (by rw [ByteArray.size_append, ByteArray.size_append, ByteArray.size_append]; omega) w4)) := section_any 5 (by omega) (by omega) (t1 ++ t2 ++ t3 ++ t4) (by rw [ByteArray.size_append, ByteArray.size_append, ByteArray.size_append]; omega) w4
  clear ht4 b4 HB3
  go_wp2_with fail
  refine HS.out.mono ?_
  rintro r w5 ⟨t5, rfl, ht5, b5⟩
  go_wp2
  go_ret
  exact ⟨_, rfl, by rw [ht5, nums_append, nums_append, nums_append, HT1.out, HT2.out, HT3.out, HT4.out, List.append_assoc, List.append_assoc]; rfl, HB4.out.trans (b5.mono HB4.out.size)⟩
end Go.Proofs.YtakpkdckajjooaaGreatDoor
namespace Go.Proofs.YtakpkdckajjooaaGreatDoor
set_option linter.unusedVariables false
open Go.RowKit
theorem grpR_snoc (l : List Int) (x : Int) : grpR (l ++ [x]) = gstep (grpR l) x := by
 unfold grpR
 rw [List.foldl_append]
 rfl
theorem gstep_head (g : List (Nat × Int)) (x : Int) : ∃ n h, gstep g x = (n, x) :: h := by
 cases g with
 | nil => exact ⟨1, [], rfl⟩
 | cons y g =>
  obtain ⟨n, j⟩ := y
  rw [gstep]
  split
  ·rename_i h
   subst h
   exact ⟨_, _, rfl⟩
  ·exact ⟨_, _, rfl⟩
theorem grp_new (m : List Int) (x y : Int) (h : x ≠ y) : grp (m ++ [y] ++ [x]) = grp (m ++ [y]) ++ [(0 + 1, x)] := by
 obtain ⟨n, g, e⟩ := gstep_head (grpR m) y
 unfold grp
 rw [grpR_snoc (m ++ [y]), grpR_snoc m, e, gstep, if_neg h]
 simp
theorem grp_same (m : List Int) (y : Int) : ∃ G z, grp (m ++ [y]) = G ++ [(z, y)] ∧ grp (m ++ [y] ++ [y]) = G ++ [(z + 1, y)] := by
 obtain ⟨n, g, e⟩ := gstep_head (grpR m) y
 refine ⟨g.reverse, n, ?_, ?_⟩
 ·unfold grp
  rw [grpR_snoc, e]
  simp
 ·unfold grp
  rw [grpR_snoc (m ++ [y]), grpR_snoc m, e, gstep, if_pos rfl]
  simp
theorem fold_le : ∀ (l : List Int) (acc : List (Nat × Int)) (M : Nat), (∀ p ∈ acc, p.1 ≤ M) → (l.foldl gstep acc).length ≤ acc.length + l.length ∧ ∀ p ∈ l.foldl gstep acc, p.1 ≤ M + l.length ∧ (p.2 ∈ l ∨ ∃ q ∈ acc, q.2 = p.2)
 | [], acc, M, h => ⟨by simp, fun p hp => ⟨by have := h p hp; simp; omega, Or.inr ⟨p, hp, rfl⟩⟩⟩
 | x :: l, acc, M, h => by
  have hs : (gstep acc x).length ≤ acc.length + 1 ∧ ∀ p ∈ gstep acc x, p.1 ≤ M + 1 ∧ (p.2 = x ∨ ∃ q ∈ acc, q.2 = p.2) := by
   cases acc with
   | nil => refine ⟨by simp [gstep], fun p hp => ?_⟩; simp [gstep] at hp; subst hp; exact ⟨by simp, Or.inl rfl⟩
   | cons y g =>
    obtain ⟨n, j⟩ := y
    have hy := h (n, j) (by simp)
    rw [gstep]
    split
    ·rename_i hx
     refine ⟨by simp, fun p hp => ?_⟩
     rw [List.mem_cons] at hp
     rcases hp with rfl | hp
     ·exact ⟨by simp at hy ⊢; omega, Or.inl hx.symm⟩
     ·exact ⟨by have := h p (by simp [hp]); omega, Or.inr ⟨p, by simp [hp], rfl⟩⟩
    ·refine ⟨by simp, fun p hp => ?_⟩
     rw [List.mem_cons] at hp
     rcases hp with rfl | hp
     ·exact ⟨by simp, Or.inl rfl⟩
     ·exact ⟨by have := h p hp; omega, Or.inr ⟨p, hp, rfl⟩⟩
  have ih := fold_le l (gstep acc x) (M + 1) fun p hp => (hs.2 p hp).1
  rw [List.foldl_cons, List.length_cons]
  refine ⟨by omega, fun p hp => ?_⟩
  obtain ⟨h1, h2⟩ := ih.2 p hp
  refine ⟨by omega, ?_⟩
  rcases h2 with h2 | ⟨q, hq, e⟩
  ·exact Or.inl (by simp [h2])
  ·rcases (hs.2 q hq).2 with h3 | ⟨q2, hq2, e2⟩
   ·exact Or.inl (by rw [← e, h3]; simp)
   ·exact Or.inr ⟨q2, hq2, e2.trans e⟩
theorem grp_le (l : List Int) : (grp l).length ≤ l.length ∧ ∀ p ∈ grp l, p.1 ≤ l.length ∧ p.2 ∈ l := by
 obtain ⟨h1, h2⟩ := fold_le l [] 0 (by simp)
 unfold grp
 rw [List.length_reverse]
 refine ⟨by simpa [grpR] using h1, fun p hp => ?_⟩
 obtain ⟨h3, h4⟩ := h2 p (by simpa [grpR] using hp)
 refine ⟨by omega, ?_⟩
 rcases h4 with h4 | ⟨q, hq, _⟩
 ·exact h4
 ·simp at hq
theorem flat_len2 (G : List (Nat × Int)) : (G.flatMap grpCells).length = G.length * 2 := by
 induction G with
 | nil => rfl
 | cons x G ih => rw [List.flatMap_cons, List.length_append, ih, List.length_cons]; simp [grpCells]; omega
theorem flat_inc (G : List (Nat × Int)) (z : Nat) (k : Int) : ((G ++ [(z, k)]).flatMap grpCells).set (G.length * 2) (.int .i64 ((z : Int) + 1)) = (G ++ [(z + 1, k)]).flatMap grpCells := by
 rw [List.flatMap_append, List.flatMap_append, List.set_append_right _ _ (by rw [flat_len2]; exact Nat.le_refl _), flat_len2, Nat.sub_self]
 simp [grpCells]
theorem LR.inc {w : World} {N g m cap z : Nat} {k : Int} {G : List (Nat × Int)} (h : LR w N 185 2 grpCells (fun _ _ => True) (some ⟨g, 0, none⟩) (m + 1) cap (G ++ [(z, k)])) (hm : G.length = m) : LR (w.setCell ⟨g, m * 2, none⟩ (.int .i64 ((z : Int) + 1))) N 185 2 grpCells (fun _ _ => True) (some ⟨g, 0, none⟩) (m + 1) cap (G ++ [(z + 1, k)]) := by
 obtain ⟨⟨hl, hown⟩, hlen, hok⟩ := h
 subst hm
 rcases hown with ⟨hv, _⟩ | ⟨g', c', cur, hv, hB, hg, h1, h2, h3, h4⟩
 ·simp at hv
 simp only [Value.slice.injEq, Option.some.injEq, Addr.mk.injEq, and_true, true_and] at hv
 obtain ⟨rfl, rfl⟩ := hv
 refine ⟨⟨by rw [← flat_inc, List.length_set]; exact hl, Or.inr ⟨g, cap, cur.setIfInBounds (G.length * 2) (.int .i64 ((z : Int) + 1)), rfl, hB, ?_, h1, h2, by simpa using h3, ?_⟩⟩, by simp, fun _ _ => trivial⟩
 ·rw [setCell_eq_setRow w g (G.length * 2) cur 185 (0, 0) _ hg]
  exact setRow_heap w g cur _ _ _ hg
 ·rw [← flat_inc, Array.toList_setIfInBounds, ← h4, List.take_set]
theorem LR.last {w : World} {N g m cap z : Nat} {k : Int} {G : List (Nat × Int)} (h : LR w N 185 2 grpCells (fun _ _ => True) (some ⟨g, 0, none⟩) (m + 1) cap (G ++ [(z, k)])) (hm : G.length = m) : w.cell? ⟨g, m * 2, none⟩ = some (.int .i64 (z : Int)) ∧ w.frozen? ⟨g, m * 2, none⟩ = false ∧ N ≤ g ∧ g < w.heap.size := by
 subst hm
 have h1 := h.own.cellAt (G.length * 2) (by omega)
 have h2 := flat_at grpCells 2 (fun _ => rfl) (G ++ [(z, k)]) G.length 0 (by simp) (by omega)
 rw [Nat.add_zero] at h2
 rw [h2] at h1
 rcases h.typed with h0 | ⟨g', cur, e, hN, hg⟩
 ·omega
 simp only [Option.some.injEq, Addr.mk.injEq, and_true] at e
 subst e
 refine ⟨?_, by simp [World.frozen?, hg], hN, some_lt hg⟩
 rw [h1]
 simp [grpCells]
theorem Tryz.infoGrp : (Tryz.prog.info? 185).map (fun i => (i.zero, i.size, i.bytes)) = some (some (.agg #[.int .i64 0, .int .u8 0]), 2, 16) := by kernel_rfl
theorem groups_any (N : Nat) (w0 w : World) (L : List Int) (o : Option Addr) (n cap : Nat) (hn : L.length = n) (hcap : n ≤ cap) (hmax : n ≤ 16)
  (hr : L = [] ∨ ∃ b f, o = some ⟨b, f, none⟩ ∧ b < N ∧ ∀ i (h : i < L.length) r, r < 1 → w0.cell? ⟨b, f + i * 1 + r, none⟩ = ([Value.int .u8 L[i]])[r]?)
  (hb : Below N w0 w) (hNw : N ≤ w.heap.size) :
  Calls Tryz.prog 138 #[.slice o n cap] w fun r w' => ∃ (o' : Option Addr) (k cap' : Nat), r = .returned (.slice o' k cap') ∧ LR w' w.heap.size 185 2 grpCells (fun _ _ => True) o' k cap' (grp L) ∧ Below w.heap.size w w' := by
 obtain ⟨i0, hi, hz0, hz1, hz2⟩ := info_parts Tryz.infoGrp
 have HL : Hid (L.length = n) := hn
 have HBW : Hid (Below N w0 w) := hb
 have HSZ : Hid (N ≤ w.heap.size) := hNw
 have HNIL : Hid (LR w w.heap.size 185 2 grpCells (fun _ _ => True) none 0 0 (grp (L.take 0))) := LR.nil _ _ _ _ _ _
 rcases hr with rfl | ⟨b, f, rfl, hbN, hcells⟩
 ·have hn0 : n = 0 := by rw [← hn]; rfl
  subst hn0
  clear hb hn hNw
  go_enter Tryz.func138, Tryz.ntmps138
  go_wp2
  go_loopw [3, 8] (fun ov iv wr => ov = .slice none 0 0 ∧ iv = .int .i64 0 ∧ wr = w) (fun _ _ _ => 0)
  case atStart => exact ⟨rfl, rfl, rfl⟩
  case round =>
   obtain ⟨rfl, rfl, rfl⟩ := hrel
   go_wp2
   go_ret
   exact ⟨_, _, _, rfl, HNIL.out, Below.refl _ _⟩
 have HR : Hid (type_of% hcells) := hcells
 clear hb hcells hn hNw
 go_enter Tryz.func138, Tryz.ntmps138
 go_wp2
 go_loopw [3, 8] (fun ov iv wr => ∃ (i k : Nat) (o1 : Option Addr) (c1 : Nat), ov = .slice o1 k c1 ∧ iv = .int .i64 (i : Int) ∧ i ≤ n ∧ k ≤ i ∧ Hid (LR wr w.heap.size 185 2 grpCells (fun _ _ => True) o1 k c1 (grp (L.take i))) ∧ Hid (Below w.heap.size w wr)) (fun _ iv _ => n - (intOf iv).toNat)
 case atStart => exact ⟨0, 0, none, 0, rfl, rfl, by omega, by omega, HNIL, Below.refl _ _⟩
 case round =>
  obtain ⟨i, k, o1, c1, rfl, rfl, hin, hki, HLR, HB⟩ := hrel
  clear HNIL
  have HBN : Hid (Below N w0 wr) := HBW.out.trans (HB.out.mono HSZ.out)
  have hwr := HB.out.size
  by_cases hlt : i < n
  ·have hiL : i < L.length := by rw [HL.out]; exact hlt
   have hi0 : (0 : Int) ≤ (i : Int) := by omega
   have hi1 : (i : Int) < (n : Int) := by omega
   have e0 : wr.cell? ⟨b, f + i, none⟩ = some (.int .u8 L[i]) := by
    have h1 := HBN.out.cell (p := ⟨b, f + i, none⟩) hbN
    have h2 := HR.out i hiL 0 (by omega)
    rw [Nat.mul_one, Nat.add_zero] at h2
    rw [h1, h2]
    rfl
   have HTK : Hid (L.take (i + 1) = L.take i ++ [L[i]]) := List.take_succ_eq_append_getElem hiL
   obtain ⟨x, hx⟩ : ∃ x, x = L[i] := ⟨_, rfl⟩
   rw [← hx] at e0 HTK
   rcases Nat.eq_zero_or_pos i with h0 | h0
   ·subst h0
    rw [Nat.add_zero] at e0
    obtain ⟨G, hG⟩ : ∃ G, G = grp (L.take 0) := ⟨_, rfl⟩
    have hG0 : G = [] := by rw [hG]; rfl
    have HS : Hid (grp (L.take (0 + 1)) = G ++ [(0 + 1, x)]) := by
     unfold Hid
     rw [HTK.out, hG0]
     rfl
    rw [← hG] at HLR
    have HGK : Hid (G.length = k) := HLR.out.len
    have HL : Hid (type_of% HLR.out) := HLR.out
    have hk0 : k = 0 := by have := HGK.out; rw [hG0] at this; simpa using this.symm
    subst hk0
    clear HLR hG hG0 hx HTK
    have bA : Below wr.heap.size wr (wr.alloc (.cells #[.int .i64 0, .int .u8 x] 185)) := (Below.refl _ _).alloc (Nat.le_refl _) _
    have HBA : Hid (type_of% bA) := bA
    clear bA
    go_wp2_with (at_builtin; refine wpList_append_lies _ rfl _ _ 186 rfl w.heap.size 185 i0 (.agg #[.int .i64 0, .int .u8 0]) 2 16 Tryz.underlying186 hi hz0 hz1 hz2 rfl (by omega) _ 0 (G.flatMap grpCells) rfl (HL.out.own.alloc _) ⟨wr.heap.size, 0, none⟩ 1 1 [.int .i64 0, .int .u8 x] rfl rfl (World.news_of_block (cs := #[.int .i64 0, .int .u8 x]) (t := 185) (fr := (0, 0)) (heap_alloc_new wr _)) (by simp [Value.oneCell']) (by omega) (by unfold maxLen; omega) (by omega) (by simp; omega) (wr.heap.size + 1) (by simp) ?_)
    intro g capg w3 hown hgrow hat hlt3
    have HL3 : Hid (LR w3 w.heap.size 185 2 grpCells (fun _ _ => True) (some ⟨g, 0, none⟩) (0 + 1) capg (G ++ [(0, x)])) := LR.app (d := ((0 : Nat), x)) HL.out (fun _ _ => trivial) trivial hown
    have HB3 : Hid (Below w.heap.size w w3) := (HB.out.alloc HB.out.size _).grown hgrow (by have := HB.out.size; simp; omega) (fun j hj => (HL.out.own.lt j hj).1)
    have hs3 := HB3.out.size
    obtain ⟨hcl, hfr, hNg, hgw⟩ := HL3.out.last HGK.out
    have HLI : Hid (LR (w3.setCell ⟨g, 0, none⟩ (.int .i64 1)) w.heap.size 185 2 grpCells (fun _ _ => True) (some ⟨g, 0, none⟩) (0 + 1) capg (grp (L.take (0 + 1)))) := by
     have := HL3.out.inc HGK.out
     rw [← HS.out] at this
     exact this
    have HBI : Hid (Below w.heap.size w (w3.setCell ⟨g, 0, none⟩ (.int .i64 1))) := HB3.out.setCell (p := ⟨g, 0, none⟩) hNg _
    have hcl0 : w3.cell? ⟨g, 0, none⟩ = some (.int .i64 0) := hcl
    have hfr0 : w3.frozen? ⟨g, 0, none⟩ = false := hfr
    clear hown hgrow hat hlt3 HL HB HL3 HB3 HBA hcl hfr
    go_wp2
    go_roundw
    case rel => exact ⟨0 + 1, 0 + 1, some ⟨g, 0, none⟩, capg, rfl, by go_num, by omega, by omega, HLI, HBI⟩
    case measure => simp [intOf]; omega
   ·obtain ⟨j, rfl⟩ : ∃ j, i = j + 1 := ⟨i - 1, by omega⟩
    have hjL : j < L.length := by omega
    have e1 : wr.cell? ⟨b, f + j, none⟩ = some (.int .u8 L[j]) := by
     have h1 := HBN.out.cell (p := ⟨b, f + j, none⟩) hbN
     have h2 := HR.out j hjL 0 (by omega)
     rw [Nat.mul_one, Nat.add_zero] at h2
     rw [h1, h2]
     rfl
    have HTJ : Hid (L.take (j + 1) = L.take j ++ [L[j]]) := List.take_succ_eq_append_getElem hjL
    obtain ⟨y, hy⟩ : ∃ y, y = L[j] := ⟨_, rfl⟩
    rw [← hy] at e1 HTJ
    have hj0 : (0 : Int) ≤ (j : Int) := by omega
    have hj1 : (j : Int) < (n : Int) := by omega
    have hjj : ((j : Int) + 1 == 0) = false := by rw [beq_eq_false_iff_ne]; omega
    have hjs : (j : Int) + 1 - 1 = (j : Int) := by omega
    clear hx hy h0
    by_cases hxy : x = y
    ·subst hxy
     obtain ⟨G, z, hG1, hG2⟩ := grp_same (L.take j) x
     rw [← HTJ.out] at hG1 hG2
     rw [← HTK.out] at hG2
     rw [hG1] at HLR
     have HS : Hid (grp (L.take (j + 1 + 1)) = G ++ [(z + 1, x)]) := hG2
     have hzl : z ≤ 16 := by
      have := (grp_le (L.take (j + 1))).2 (z, x) (by rw [hG1]; simp)
      have h2 := this.1
      rw [List.length_take] at h2
      have h3 : z ≤ min (j + 1) L.length := h2
      omega
     have hlen := HLR.out.len
     rw [List.length_append, List.length_singleton] at hlen
     obtain ⟨m, hm⟩ : ∃ m, G.length = m := ⟨_, rfl⟩
     rw [hm] at hlen
     subst hlen
     have HGK : Hid (G.length = m) := hm
     obtain ⟨g, cur, rfl, _, _⟩ : ∃ g cur, o1 = some ⟨g, 0, none⟩ ∧ w.heap.size ≤ g ∧ wr.heap[g]? = some (.cells cur 185 (0, 0)) := by
      rcases HLR.out.typed with h | h
      ·omega
      ·exact h
     have hcp := HLR.out.capm
     obtain ⟨hcl, hfr, hNg, hgw⟩ := HLR.out.last HGK.out
     have HLI : Hid (LR (wr.setCell ⟨g, m * 2, none⟩ (.int .i64 ((z : Int) + 1))) w.heap.size 185 2 grpCells (fun _ _ => True) (some ⟨g, 0, none⟩) (m + 1) c1 (grp (L.take (j + 1 + 1)))) := by
      have := HLR.out.inc HGK.out
      rw [← HS.out] at this
      exact this
     have HBI : Hid (Below w.heap.size w (wr.setCell ⟨g, m * 2, none⟩ (.int .i64 ((z : Int) + 1)))) := HB.out.setCell (p := ⟨g, m * 2, none⟩) hNg _
     clear hG1 hG2 hm HLR HB HS HTJ HTK
     go_wp2
     go_roundw
     case rel => exact ⟨j + 1 + 1, m + 1, some ⟨g, 0, none⟩, c1, rfl, by go_num, by omega, by omega, HLI, HBI⟩
     case measure => simp [intOf]; omega
    ·have hxb : (x != y) = true := by rw [bne, beq_eq_false_iff_ne.2 hxy]; rfl
     have hxc : (x == y) = false := beq_eq_false_iff_ne.2 hxy
     obtain ⟨G, hG⟩ : ∃ G, G = grp (L.take (j + 1)) := ⟨_, rfl⟩
     have HS : Hid (grp (L.take (j + 1 + 1)) = G ++ [(0 + 1, x)]) := by
      unfold Hid
      rw [HTK.out, hG, HTJ.out, grp_new _ _ _ hxy]
     rw [← hG] at HLR
     have HGK : Hid (G.length = k) := HLR.out.len
     have HL : Hid (type_of% HLR.out) := HLR.out
     clear HLR hG hxy HTK HTJ
     have bA : Below wr.heap.size wr (wr.alloc (.cells #[.int .i64 0, .int .u8 x] 185)) := (Below.refl _ _).alloc (Nat.le_refl _) _
     have HBA : Hid (type_of% bA) := bA
     clear bA
     go_wp2_with (at_builtin; refine wpList_append_lies _ rfl _ _ 186 rfl w.heap.size 185 i0 (.agg #[.int .i64 0, .int .u8 0]) 2 16 Tryz.underlying186 hi hz0 hz1 hz2 rfl (by omega) _ k (G.flatMap grpCells) rfl (HL.out.own.alloc _) ⟨wr.heap.size, 0, none⟩ 1 1 [.int .i64 0, .int .u8 x] rfl rfl (World.news_of_block (cs := #[.int .i64 0, .int .u8 x]) (t := 185) (fr := (0, 0)) (heap_alloc_new wr _)) (by simp [Value.oneCell']) (by omega) (by unfold maxLen; omega) (by omega) (by simp; omega) (wr.heap.size + 1) (by simp) ?_)
     intro g capg w3 hown hgrow hat hlt3
     have HL3 : Hid (LR w3 w.heap.size 185 2 grpCells (fun _ _ => True) (some ⟨g, 0, none⟩) (k + 1) capg (G ++ [(0, x)])) := LR.app (d := ((0 : Nat), x)) HL.out (fun _ _ => trivial) trivial hown
     have HB3 : Hid (Below w.heap.size w w3) := (HB.out.alloc HB.out.size _).grown hgrow (by have := HB.out.size; simp; omega) (fun j hj => (HL.out.own.lt j hj).1)
     have hs3 := HB3.out.size
     obtain ⟨hcl, hfr, hNg, hgw⟩ := HL3.out.last HGK.out
     have HLI : Hid (LR (w3.setCell ⟨g, k * 2, none⟩ (.int .i64 1)) w.heap.size 185 2 grpCells (fun _ _ => True) (some ⟨g, 0, none⟩) (k + 1) capg (grp (L.take ((j + 1) + 1)))) := by
      have := HL3.out.inc HGK.out
      rw [← HS.out] at this
      exact this
     have HBI : Hid (Below w.heap.size w (w3.setCell ⟨g, k * 2, none⟩ (.int .i64 1))) := HB3.out.setCell (p := ⟨g, k * 2, none⟩) hNg _
     have hcl0 : w3.cell? ⟨g, k * 2, none⟩ = some (.int .i64 0) := hcl
     have hfr0 : w3.frozen? ⟨g, k * 2, none⟩ = false := hfr
     clear hown hgrow hat hlt3 HL HB HL3 HB3 HBA hcl hfr
     go_wp2
     go_roundw
     case rel => exact ⟨(j + 1) + 1, k + 1, some ⟨g, 0, none⟩, capg, rfl, by go_num, by omega, by omega, HLI, HBI⟩
     case measure => simp [intOf]; omega
  ·have HE : Hid (LR wr w.heap.size 185 2 grpCells (fun _ _ => True) o1 k c1 (grp L)) := by
    have h1 := HLR.out
    rw [List.take_of_length_le (by rw [HL.out]; omega)] at h1
    exact h1
   clear HLR
   go_wp2
   go_ret
   exact ⟨_, _, _, rfl, HE.out, HB.out⟩
end Go.Proofs.YtakpkdckajjooaaGreatDoor
namespace Go.Proofs.YtakpkdckajjooaaGreatDoor
set_option linter.unusedVariables false
open Go.RowKit
theorem codeText_any (w0 w : World) (t : Int) (l : NumD) (o : Option Addr) (cap : Nat) (b : List InsD) (hb : Below w0.heap.size w0 w) (hA : Amb w0) (hl : l.ok .u8 w0) (hln : l.xs.length ≤ 16) (hlk : ∀ k ∈ l.xs, 0 ≤ k ∧ k < 256) (hL : LD w0 o b) (hbc : b.length ≤ cap) (hc : nChk b = 0) (hlen : (bodyT (b.map InsD.val)).length ≤ 300000) :
  Calls Tryz.prog 86 #[.agg #[.int .i64 t, .slice l.o l.n l.cap, .slice o b.length cap]] w (Txt w (tCode ⟨l.xs, b.map InsD.val⟩)) := by
 have hNw : w0.heap.size ≤ w.heap.size := hb.size
 have bB : Below w0.heap.size w0 (w.alloc (.cells #[.int .i64 t, .slice l.o l.n l.cap, .slice o b.length cap] 58)) := hb.alloc hNw _
 have HW : Hid (type_of% (nwrite_any o cap b _ (hL.below bB) hbc (hA.below bB).1 (hA.below bB).2.2)) := nwrite_any o cap b _ (hL.below bB) hbc (hA.below bB).1 (hA.below bB).2.2
 have HC : Hid (nChk b = 0) := hc
 have HBB : Hid (type_of% bB) := bB
 have HBL : Hid (type_of% hlen) := hlen
 have HLO : Hid (l.ok .u8 w0) := hl
 have HLK : Hid (∀ k ∈ l.xs, 0 ≤ k ∧ k < 256) := hlk
 have hgl := grp_le l.xs
 have hglen := hgl.1
 have HGL : Hid (∀ p ∈ grp l.xs, p.1 ≤ l.xs.length ∧ p.2 ∈ l.xs) := hgl.2
 clear hb hA hl hlk hL hbc hc bB hlen hgl
 go_enter Tryz.func86, Tryz.ntmps86
 go_wp2_with fail
 refine HW.out.mono ?_
 rintro r w1 ⟨b1, ⟨hn, _⟩ | ⟨_, t1, rfl, ht1⟩⟩
 ·exact absurd HC.out hn
 have hz1 : t1.size ≤ 300000 := by rw [size_of ht1]; exact HBL.out
 have HT1 : Hid (type_of% ht1) := ht1
 have HA1 : Hid (Below (w.heap.size + 1) (w.alloc (.cells #[.int .i64 t, .slice l.o l.n l.cap, .slice o b.length cap] 58)) w1) := b1.mono (by simp)
 obtain ⟨z0, z1, z2⟩ := agg3 HA1.out
 have HB1 : Hid (Below w0.heap.size w0 w1) := HBB.out.trans (HA1.out.mono (by omega))
 have hs1 := box_size HA1.out
 have HG : Hid (type_of% (groups_any w0.heap.size w0 w1 l.xs l.o l.n l.cap HLO.out.len HLO.out.le (by have := HLO.out.len; omega) (HLO.out.at1 (Nat.le_refl _)) HB1.out (by omega))) := groups_any w0.heap.size w0 w1 l.xs l.o l.n l.cap HLO.out.len HLO.out.le (by have := HLO.out.len; omega) (HLO.out.at1 (Nat.le_refl _)) HB1.out (by omega)
 clear ht1 b1 HW
 go_wp2_with fail
 refine HG.out.mono ?_
 rintro r w2 ⟨o2, k2, c2, rfl, hR, b2⟩
 have hk2 := hR.len
 have hcp := hR.capm.1
 have HLT : Hid (type_of% (listText_grp w2.heap.size w2 w2 tGrp 11 (by omega) (grp l.xs) o2 k2 c2 hk2 hcp (by omega) ((hR.rows (fun _ => rfl)).atN (Nat.le_refl _)) (Below.refl _ _) (Nat.le_refl _) (fun d hd => by have h1 := (HGL.out d hd).1; have h2 := uB_len10 d.1 (by omega); unfold tGrp; simp; omega) (fun d hd w' _ _ => groupText_any w' d.1 d.2 (by have h1 := (HGL.out d hd).1; omega) (HLK.out _ (HGL.out d hd).2)))) := listText_grp w2.heap.size w2 w2 tGrp 11 (by omega) (grp l.xs) o2 k2 c2 hk2 hcp (by omega) ((hR.rows (fun _ => rfl)).atN (Nat.le_refl _)) (Below.refl _ _) (Nat.le_refl _) (fun d hd => by have h1 := (HGL.out d hd).1; have h2 := uB_len10 d.1 (by omega); unfold tGrp; simp; omega) (fun d hd w' _ _ => groupText_any w' d.1 d.2 (by have h1 := (HGL.out d hd).1; omega) (HLK.out _ (HGL.out d hd).2))
 have HA2 : Hid (Below (w.heap.size + 1) (w.alloc (.cells #[.int .i64 t, .slice l.o l.n l.cap, .slice o b.length cap] 58)) w2) := HA1.out.trans (b2.mono hs1)
 have hs2 := box_size HA2.out
 have HK2 : Hid ((grp l.xs).length = k2) := hk2
 clear hR b2 HG z0 z1 z2 hcp
 go_wp2_with fail
 refine HLT.out.mono ?_
 rintro r w3 ⟨t3, rfl, ht3, b3⟩
 have hz3 : t3.size ≤ 1000 := by
  rw [size_of ht3, List.length_append]
  have h1 := uB_len10 k2 (by omega)
  have h2 := flat_le tGrp 11 (grp l.xs) (fun d hd => by have h1 := (HGL.out d hd).1; have h2 := uB_len10 d.1 (by omega); unfold tGrp; simp; omega)
  have h3 : (grp l.xs).length * 11 ≤ 16 * 11 := Nat.mul_le_mul_right _ (by omega)
  omega
 have HT3 : Hid (type_of% ht3) := ht3
 have HA3 : Hid (Below (w.heap.size + 1) (w.alloc (.cells #[.int .i64 t, .slice l.o l.n l.cap, .slice o b.length cap] 58)) w3) := HA2.out.trans (b3.mono hs2)
 have hs3 := box_size HA3.out
 have HSZ : Hid (type_of% (sized_any (t3 ++ t1) (by rw [ByteArray.size_append]; omega) w3)) := sized_any (t3 ++ t1) (by rw [ByteArray.size_append]; omega) w3
 clear ht3 b3 HLT hk2
 go_wp2_with fail
 refine HSZ.out.mono ?_
 rintro r w4 ⟨t4, rfl, ht4, b4⟩
 go_wp2
 go_ret
 refine ⟨_, rfl, ?_, Below.trans ((Below.refl _ _).alloc (Nat.le_refl _) _) ((HA3.out.trans (b4.mono hs3)).mono (Nat.le_succ _))⟩
 rw [ht4, nums_append, HT3.out, HT1.out, ← HK2.out]
 rfl
end Go.Proofs.YtakpkdckajjooaaGreatDoor
