/-
  The walk of the law of bits, for whatever its closures do.
-/
import Derived.Test.YtlbilmgpnpghlaaKeep2
import Derived.Laws.EntriesVeiled
import Derived.Deep.RegionWith
import Derived.Test.YtlbilmgpnpghlaaLex
namespace Go.Proofs.Ytlbilmgpnpghlaa
open Go.RowKit

set_option maxHeartbeats 4000000 in
set_option maxRecDepth 1000000 in
theorem c_NumBits_1 (wd : Bool) (P : Nat) (x y z o : Int) (HW : Hid (∀ w, Calls Try.prog 12 #[.int .u8 113, .bool wd] w fun e w' => e = .returned (.int .u8 o) ∧ w' = w)) (Q : World → World → Prop) (HT : Hid (∀ w, Calls Try.prog 11 #[.int .u8 o, .int .i64 x, .int .i64 y] w fun e w' => e = .returned (.int .i64 z) ∧ Q w w')) (w : World) (_hc : w.cell? ⟨P, 0, none⟩ = some (.bool wd)) :
    Calls Try.prog 15 #[.int .i64 x, .int .i64 y, .pointer (some ⟨P, 0, none⟩)] w fun e w' => e = .returned (.int .i64 z) ∧ Q w w' := by
  go_enter Try.func15, Try.ntmps15
  go_wp2_with fail
  refine (HW.out _).mono ?_
  rintro e w1 ⟨rfl, rfl⟩
  go_wp2_with fail
  refine (HT.out _).mono ?_
  rintro e w2 ⟨rfl, b1⟩
  go_wp2
  go_ret
  exact ⟨rfl, b1⟩
set_option maxHeartbeats 4000000 in
set_option maxRecDepth 1000000 in
theorem c_NumBits_2 (wd : Bool) (P : Nat) (x y z o : Int) (HW : Hid (∀ w, Calls Try.prog 12 #[.int .u8 114, .bool wd] w fun e w' => e = .returned (.int .u8 o) ∧ w' = w)) (Q : World → World → Prop) (HT : Hid (∀ w, Calls Try.prog 11 #[.int .u8 o, .int .i64 x, .int .i64 y] w fun e w' => e = .returned (.int .i64 z) ∧ Q w w')) (w : World) (_hc : w.cell? ⟨P, 0, none⟩ = some (.bool wd)) :
    Calls Try.prog 16 #[.int .i64 x, .int .i64 y, .pointer (some ⟨P, 0, none⟩)] w fun e w' => e = .returned (.int .i64 z) ∧ Q w w' := by
  go_enter Try.func16, Try.ntmps16
  go_wp2_with fail
  refine (HW.out _).mono ?_
  rintro e w1 ⟨rfl, rfl⟩
  go_wp2_with fail
  refine (HT.out _).mono ?_
  rintro e w2 ⟨rfl, b1⟩
  go_wp2
  go_ret
  exact ⟨rfl, b1⟩
set_option maxHeartbeats 4000000 in
set_option maxRecDepth 1000000 in
theorem c_NumBits_3 (wd : Bool) (P : Nat) (x y z o : Int) (HW : Hid (∀ w, Calls Try.prog 12 #[.int .u8 115, .bool wd] w fun e w' => e = .returned (.int .u8 o) ∧ w' = w)) (Q : World → World → Prop) (HT : Hid (∀ w, Calls Try.prog 11 #[.int .u8 o, .int .i64 x, .int .i64 y] w fun e w' => e = .returned (.int .i64 z) ∧ Q w w')) (w : World) (_hc : w.cell? ⟨P, 0, none⟩ = some (.bool wd)) :
    Calls Try.prog 17 #[.int .i64 x, .int .i64 y, .pointer (some ⟨P, 0, none⟩)] w fun e w' => e = .returned (.int .i64 z) ∧ Q w w' := by
  go_enter Try.func17, Try.ntmps17
  go_wp2_with fail
  refine (HW.out _).mono ?_
  rintro e w1 ⟨rfl, rfl⟩
  go_wp2_with fail
  refine (HT.out _).mono ?_
  rintro e w2 ⟨rfl, b1⟩
  go_wp2
  go_ret
  exact ⟨rfl, b1⟩
set_option maxHeartbeats 40000000 in
set_option maxRecDepth 1000000 in
theorem c_NumBits_4 (wd : Bool) (P X : Nat) (x z : Int) (HX : Hid (∀ w, w.cell? ⟨P, 0, none⟩ = some (.bool wd) → Calls Try.prog 17 #[.int .i64 x, .int .i64 (-1), .pointer (some ⟨P, 0, none⟩)] w fun e w' => e = .returned (.int .i64 z) ∧ w' = w)) (w : World) (hc : w.cell? ⟨P, 0, none⟩ = some (.bool wd)) (_hx : w.cell? ⟨X, 0, none⟩ = some (.func (.func 17) #[] #[.pointer (some ⟨P, 0, none⟩)])) :
    Calls Try.prog 18 #[.int .i64 x, .pointer (some ⟨X, 0, none⟩)] w fun e w' => e = .returned (.int .i64 z) ∧ w' = w := by
  have HC : Hid _ := hc
  clear hc
  go_enter Try.func18, Try.ntmps18
  go_wp2_with fail
  refine (HX.out _ HC.out).mono ?_
  rintro e w1 ⟨rfl, rfl⟩
  go_wp2
  go_ret
  exact ⟨rfl, rfl⟩
theorem lexB_104 (ops : Array Oper) (hn : ops.size = 104) (hs : Region.noSelect ops = true) (he : (Region.ready .any ops (listedAt 104 104)).isEmpty = true) (c0 : someB ops 104 0 8 = true) (c8 : someB ops 104 8 16 = true) (c16 : someB ops 104 16 24 = true) (c24 : someB ops 104 24 32 = true) (c32 : someB ops 104 32 40 = true) (c40 : someB ops 104 40 48 = true) (c48 : someB ops 104 48 56 = true) (c56 : someB ops 104 56 64 = true) (c64 : someB ops 104 64 72 = true) (c72 : someB ops 104 72 80 = true) (c80 : someB ops 104 80 88 = true) (c88 : someB ops 104 88 96 = true) (c96 : someB ops 104 96 104 = true) : Region.lexB .any ops = true := by
  refine lexB_of ops 104 hn hs he ?_
  intro j hj
  by_cases h0 : j < 8
  · exact someB_at c0 j (by omega) h0
  by_cases h8 : j < 16
  · exact someB_at c8 j (by omega) h8
  by_cases h16 : j < 24
  · exact someB_at c16 j (by omega) h16
  by_cases h24 : j < 32
  · exact someB_at c24 j (by omega) h24
  by_cases h32 : j < 40
  · exact someB_at c32 j (by omega) h32
  by_cases h40 : j < 48
  · exact someB_at c40 j (by omega) h40
  by_cases h48 : j < 56
  · exact someB_at c48 j (by omega) h48
  by_cases h56 : j < 64
  · exact someB_at c56 j (by omega) h56
  by_cases h64 : j < 72
  · exact someB_at c64 j (by omega) h64
  by_cases h72 : j < 80
  · exact someB_at c72 j (by omega) h72
  by_cases h80 : j < 88
  · exact someB_at c80 j (by omega) h80
  by_cases h88 : j < 96
  · exact someB_at c88 j (by omega) h88
  exact someB_at c96 j (by omega) hj
set_option maxHeartbeats 40000000 in
set_option maxRecDepth 1000000 in
theorem numBits_core (wd : Bool) (a0 b0 c0 a b c p1 q1 na nb r1 r2 p2 x1 o1 sh sm o106 o116 : Int) (P : Nat) (and or xor two106 two116 : Int → Int → Int → Prop) (Hand : Hid (∀ x y z, and x y z → ∀ w, w.cell? ⟨P, 0, none⟩ = some (.bool wd) → Calls Try.prog 15 #[.int .i64 x, .int .i64 y, .pointer (some ⟨P, 0, none⟩)] w fun e w' => e = .returned (.int .i64 z) ∧ w' = w)) (Hor : Hid (∀ x y z, or x y z → ∀ w, w.cell? ⟨P, 0, none⟩ = some (.bool wd) → Calls Try.prog 16 #[.int .i64 x, .int .i64 y, .pointer (some ⟨P, 0, none⟩)] w fun e w' => e = .returned (.int .i64 z) ∧ w' = w)) (Hxor : Hid (∀ x y z, xor x y z → ∀ w, w.cell? ⟨P, 0, none⟩ = some (.bool wd) → Calls Try.prog 17 #[.int .i64 x, .int .i64 y, .pointer (some ⟨P, 0, none⟩)] w fun e w' => e = .returned (.int .i64 z) ∧ w' = w)) (HW106 : Hid (∀ w, Calls Try.prog 12 #[.int .u8 106, .bool wd] w fun e w' => e = .returned (.int .u8 o106) ∧ w' = w)) (HW116 : Hid (∀ w, Calls Try.prog 12 #[.int .u8 116, .bool wd] w fun e w' => e = .returned (.int .u8 o116) ∧ w' = w)) (HT106 : Hid (∀ x y z, two106 x y z → ∀ w, Calls Try.prog 11 #[.int .u8 o106, .int .i64 x, .int .i64 y] w fun e w' => e = .returned (.int .i64 z) ∧ w' = w)) (HT116 : Hid (∀ x y z, two116 x y z → ∀ w, Calls Try.prog 11 #[.int .u8 o116, .int .i64 x, .int .i64 y] w fun e w' => e = .returned (.int .i64 z) ∧ w' = w))
    (ha : fitW wd a0 = a) (hb : fitW wd b0 = b) (hc : fitW wd c0 = c) (E0 : Hid (and a b p1)) (E1 : Hid (xor p1 (-1) q1)) (E2 : Hid (xor a (-1) na)) (E3 : Hid (xor b (-1) nb)) (E4 : Hid (or na nb q1)) (E5 : Hid (or b c r1)) (E6 : Hid (and a r1 r2)) (E7 : Hid (and a c p2)) (E8 : Hid (or p1 p2 r2)) (E9 : Hid (xor a b x1)) (E10 : Hid (or a b o1)) (E11 : Hid (and o1 q1 x1)) (E12 : Hid (xor na (-1) a)) (E13 : Hid (and a na 0)) (E14 : Hid (or a na (-1))) (E15 : Hid (two116 p1 1 sh)) (E16 : Hid (two106 x1 sh sm)) (E17 : Hid (two106 a b sm)) (w : World) (hP : w.heap.size = P) :
    Calls Try.prog 5 #[.int .i64 a0, .int .i64 b0, .int .i64 c0, .bool wd] w fun e w' => e = .returned (.bool true) ∧ Below w.heap.size w w' := by
  have HFIT : Hid (Calls Try.prog 9 #[.bool wd, .slice (some ⟨w.heap.size + 1, 0, none⟩) 3 3] ((w.alloc (.cells #[.bool wd] 4)).alloc (.cells #[.int .i64 a0, .int .i64 b0, .int .i64 c0] 2)) fun e w' => e = .returned (.slice (some ⟨w.heap.size + 1, 0, none⟩) 3 3) ∧ (w'.cell? ⟨w.heap.size + 1, 0, none⟩ = some (.int .i64 a) ∧ w'.cell? ⟨w.heap.size + 1, 1, none⟩ = some (.int .i64 b) ∧ w'.cell? ⟨w.heap.size + 1, 2, none⟩ = some (.int .i64 c)) ∧ w'.cell? ⟨w.heap.size, 0, none⟩ = some (.bool wd) ∧ Below w.heap.size w w' ∧ w.heap.size < w'.heap.size) := by
    refine (fits_new wd [a0, b0, c0] _ 3 (w.heap.size + 1) rfl (by omega) rfl (w.alloc (.cells #[.bool wd] 4)) (by simp)).mono ?_
    rintro e w1 ⟨rfl, hcs, hb1⟩
    have c0 := hcs 0 (by omega)
    have c1 := hcs 1 (by omega)
    have c2 := hcs 2 (by omega)
    refine ⟨rfl, ⟨by rw [← ha]; exact c0, by rw [← hb]; exact c1, by rw [← hc]; exact c2⟩, ?_, ((Below.refl _ _).alloc (Nat.le_refl _) _).trans (hb1.mono (by simp)), by have := hb1.size; simp at this; omega⟩
    rw [hb1.cell (p := ⟨w.heap.size, 0, none⟩) (by simp)]
    exact cell_one_new _ _ _ 0 _ rfl
  subst hP
  have HNOT : Hid (∀ x z, xor x (-1) z → ∀ w' X, w'.cell? ⟨w.heap.size, 0, none⟩ = some (.bool wd) → w'.cell? ⟨X, 0, none⟩ = some (.func (.func 17) #[] #[.pointer (some ⟨w.heap.size, 0, none⟩)]) → Calls Try.prog 18 #[.int .i64 x, .pointer (some ⟨X, 0, none⟩)] w' fun e w'' => e = .returned (.int .i64 z) ∧ w'' = w') := by
    intro x z h w' X h1 h2
    exact c_NumBits_4 wd w.heap.size X x z (fun w h' => Hxor.out x (-1) z h w h') w' h1 h2
  go_enter Try.func5, Try.ntmps5
  go_wp2_with fail
  refine HFIT.out.mono ?_
  rintro e w1 ⟨rfl, ⟨hc0, hc1, hc2⟩, hcw, hbel, hsz⟩
  clear HFIT ha hb hc
  go_wp2_with fail
  go_quiet (fail)
  have hcw2 : (w1.drewN nq).cell? ⟨w.heap.size, 0, none⟩ = some (.bool wd) := hcw
  have HB : Hid (Below w.heap.size w (w1.drewN nq)) := below_drewN hbel _
  have hsz2 : w.heap.size < (w1.drewN nq).heap.size := hsz
  generalize w1.drewN nq = w2 at hcw2 HB hsz2
  clear hcw hbel hc0 hc1 hc2 hsz
  have HC0 : Hid _ := hcw2
  clear hcw2
  go_wp2_with fail
  have HC : Hid ((w2.alloc (Obj.cells #[.func (.func 17) #[] #[.pointer (some ⟨w.heap.size, 0, none⟩)]] 30)).cell? ⟨w.heap.size, 0, none⟩ = some (.bool wd)) := (World.cell?_alloc_lt (h := hsz2) ..).trans HC0.out
  have HX : Hid ((w2.alloc (Obj.cells #[.func (.func 17) #[] #[.pointer (some ⟨w.heap.size, 0, none⟩)]] 30)).cell? ⟨w2.heap.size, 0, none⟩ = some (.func (.func 17) #[] #[.pointer (some ⟨w.heap.size, 0, none⟩)])) := cell_one_new _ _ _ 0 _ rfl
  have HB3 : Hid (Below w.heap.size w (w2.alloc (Obj.cells #[.func (.func 17) #[] #[.pointer (some ⟨w.heap.size, 0, none⟩)]] 30))) := HB.out.alloc (Nat.le_of_lt hsz2) _
  have hcc : (w2.alloc (Obj.cells #[.func (.func 17) #[] #[.pointer (some ⟨w.heap.size, 0, none⟩)]] 30)).cell? ⟨w.heap.size, 0, none⟩ = some (.bool wd) := HC.out
  have hxx : (w2.alloc (Obj.cells #[.func (.func 17) #[] #[.pointer (some ⟨w.heap.size, 0, none⟩)]] 30)).cell? ⟨w2.heap.size, 0, none⟩ = some (.func (.func 17) #[] #[.pointer (some ⟨w.heap.size, 0, none⟩)]) := HX.out
  generalize w2.alloc (Obj.cells #[.func (.func 17) #[] #[.pointer (some ⟨w.heap.size, 0, none⟩)]] 30) = w3 at HC HX HB3 hcc hxx
  refine wp_region_quiet_lit (by kernel_rfl) ?hB ?_
  case hB =>
    refine lexB_104 _ ?_ ?_ ?_ ?_ ?_ ?_ ?_ ?_ ?_ ?_ ?_ ?_ ?_ ?_ ?_ ?_
    all_goals as_aux_lemma => kernel_rfl
  dsimp only [List.append]
  repeat (go_big_quiet_step (first
    | (go_at_call_of 15 (Value.int .i64 a); go_at_call_of 15 (Value.int .i64 b); exact Calls.quiet_of_same (Hand.out _ _ _ E0.out _ HC.out))
    | (go_at_call_of 18 (Value.int .i64 p1); exact Calls.quiet_of_same (HNOT.out _ _ E1.out _ _ HC.out HX.out))
    | (go_at_call_of 18 (Value.int .i64 a); exact Calls.quiet_of_same (HNOT.out _ _ E2.out _ _ HC.out HX.out))
    | (go_at_call_of 18 (Value.int .i64 b); exact Calls.quiet_of_same (HNOT.out _ _ E3.out _ _ HC.out HX.out))
    | (go_at_call_of 16 (Value.int .i64 na); go_at_call_of 16 (Value.int .i64 nb); exact Calls.quiet_of_same (Hor.out _ _ _ E4.out _ HC.out))
    | (go_at_call_of 16 (Value.int .i64 b); go_at_call_of 16 (Value.int .i64 c); exact Calls.quiet_of_same (Hor.out _ _ _ E5.out _ HC.out))
    | (go_at_call_of 15 (Value.int .i64 a); go_at_call_of 15 (Value.int .i64 r1); exact Calls.quiet_of_same (Hand.out _ _ _ E6.out _ HC.out))
    | (go_at_call_of 15 (Value.int .i64 a); go_at_call_of 15 (Value.int .i64 c); exact Calls.quiet_of_same (Hand.out _ _ _ E7.out _ HC.out))
    | (go_at_call_of 16 (Value.int .i64 p1); go_at_call_of 16 (Value.int .i64 p2); exact Calls.quiet_of_same (Hor.out _ _ _ E8.out _ HC.out))
    | (go_at_call_of 17 (Value.int .i64 a); go_at_call_of 17 (Value.int .i64 b); exact Calls.quiet_of_same (Hxor.out _ _ _ E9.out _ HC.out))
    | (go_at_call_of 16 (Value.int .i64 a); go_at_call_of 16 (Value.int .i64 b); exact Calls.quiet_of_same (Hor.out _ _ _ E10.out _ HC.out))
    | (go_at_call_of 15 (Value.int .i64 o1); go_at_call_of 15 (Value.int .i64 q1); exact Calls.quiet_of_same (Hand.out _ _ _ E11.out _ HC.out))
    | (go_at_call_of 18 (Value.int .i64 na); exact Calls.quiet_of_same (HNOT.out _ _ E12.out _ _ HC.out HX.out))
    | (go_at_call_of 15 (Value.int .i64 a); go_at_call_of 15 (Value.int .i64 na); exact Calls.quiet_of_same (Hand.out _ _ _ E13.out _ HC.out))
    | (go_at_call_of 16 (Value.int .i64 a); go_at_call_of 16 (Value.int .i64 na); exact Calls.quiet_of_same (Hor.out _ _ _ E14.out _ HC.out))
    | (go_at_call_of 12 (Value.int .u8 106); exact Calls.quiet_of_same (HW106.out _))
    | (go_at_call_of 12 (Value.int .u8 116); exact Calls.quiet_of_same (HW116.out _))
    | (go_at_call_of 11 (Value.int .u8 o116); go_at_call_of 11 (Value.int .i64 p1); go_at_call_of 11 (Value.int .i64 1); exact Calls.quiet_of_same (HT116.out _ _ _ E15.out _))
    | (go_at_call_of 11 (Value.int .u8 o106); go_at_call_of 11 (Value.int .i64 x1); go_at_call_of 11 (Value.int .i64 sh); exact Calls.quiet_of_same (HT106.out _ _ _ E16.out _))
    | (go_at_call_of 11 (Value.int .u8 o106); go_at_call_of 11 (Value.int .i64 a); go_at_call_of 11 (Value.int .i64 b); exact Calls.quiet_of_same (HT106.out _ _ _ E17.out _))))
  refine wpQuiet_nil ?_
  intro _ hw'
  obtain ⟨nq, hw''⟩ := hw'
  subst hw''
  go_wp2
  go_ret
  exact ⟨rfl, below_drewN HB3.out _⟩
end Go.Proofs.Ytlbilmgpnpghlaa
