/-
  What the program's own Check and Write answer, for whatever instruction.
-/
import Derived.Test.YtgdleahhkaolbaaDoorInsV1
import Derived.Test.YtgdleahhkaolbaaDoorInsW2
import Derived.Test.YtgdleahhkaolbaaDoorInsM2
namespace Go.Proofs.YtgdleahhkaolbaaDoor
open Go.RowKit

set_option maxHeartbeats 4000000 in
set_option maxRecDepth 1000000 in
theorem vtext_1 (op A B : Int) (o : Option Addr) (n cap : Nat) (w : World) (HB : Hid (∀ w', Below w.heap.size w w' → Calls Tryd.prog 53 #[.int .u8 op] w' fun r w'' => r = .returned (.int .i64 1) ∧ Below w'.heap.size w' w'')) :
    Calls Tryd.prog 39 #[.agg #[.int .u8 op, .int .i64 A, .int .i64 B, .slice o n cap]] w fun r w' => r = .returned (.string ⟨#[]⟩) ∧ Below w.heap.size w w' := by
  go_enter Tryd.func39, Tryd.ntmps39
  go_wp2_with fail
  refine (HB.out _ ((Below.refl _ _).alloc (Nat.le_refl _) _)).mono ?_
  rintro e w1 ⟨rfl, b1⟩
  have xX : XS w1 w.heap.size (.int .u8 op) (.int .i64 A) (.int .i64 B) (.slice o n cap) := by
    unfold XS
    rw [b1.block w.heap.size (by simp)]
    exact new_block _ _
  obtain ⟨x0, x1, x2, x3⟩ := xX.cell
  have HB1 : Hid (Below w.heap.size w w1) := ((Below.refl _ _).alloc (Nat.le_refl _) _).trans (b1.mono (by simp))
  have hXs := xX.lt
  clear b1
  go_wp2
  go_ret
  exact ⟨rfl, HB1.out⟩
set_option maxHeartbeats 4000000 in
set_option maxRecDepth 1000000 in
theorem vtext_2 (op A B : Int) (o : Option Addr) (n cap : Nat) (_a0 : 0 ≤ A) (_a1 : A ≤ 255) (tA : ByteArray) (HA : Hid (∀ w, Calls Tryd.prog 38 #[.int .u8 A] w fun r w' => r = .returned (.string tA) ∧ Below w.heap.size w w')) (w : World) (HB : Hid (∀ w', Below w.heap.size w w' → Calls Tryd.prog 53 #[.int .u8 op] w' fun r w'' => r = .returned (.int .i64 2) ∧ Below w'.heap.size w' w'')) :
    Calls Tryd.prog 39 #[.agg #[.int .u8 op, .int .i64 A, .int .i64 B, .slice o n cap]] w fun r w' => r = .returned (.string tA) ∧ Below w.heap.size w w' := by
  go_enter Tryd.func39, Tryd.ntmps39
  go_wp2_with fail
  refine (HB.out _ ((Below.refl _ _).alloc (Nat.le_refl _) _)).mono ?_
  rintro e w1 ⟨rfl, b1⟩
  have xX : XS w1 w.heap.size (.int .u8 op) (.int .i64 A) (.int .i64 B) (.slice o n cap) := by
    unfold XS
    rw [b1.block w.heap.size (by simp)]
    exact new_block _ _
  obtain ⟨x0, x1, x2, x3⟩ := xX.cell
  have HB1 : Hid (Below w.heap.size w w1) := ((Below.refl _ _).alloc (Nat.le_refl _) _).trans (b1.mono (by simp))
  have hXs := xX.lt
  clear b1
  go_wp2_with fail
  refine (HA.out _).mono ?_
  rintro e w2 ⟨rfl, b2⟩
  go_wp2
  go_ret
  exact ⟨rfl, HB1.out.trans (b2.mono HB1.out.size)⟩
set_option maxHeartbeats 4000000 in
set_option maxRecDepth 1000000 in
theorem vtext_3 (op A B : Int) (o : Option Addr) (n cap : Nat) (tA : ByteArray) (HA : Hid (∀ w, Calls Tryd.prog 77 #[.int .i64 A] w fun r w' => r = .returned (.string tA) ∧ Below w.heap.size w w')) (w : World) (HB : Hid (∀ w', Below w.heap.size w w' → Calls Tryd.prog 53 #[.int .u8 op] w' fun r w'' => r = .returned (.int .i64 3) ∧ Below w'.heap.size w' w'')) :
    Calls Tryd.prog 39 #[.agg #[.int .u8 op, .int .i64 A, .int .i64 B, .slice o n cap]] w fun r w' => r = .returned (.string tA) ∧ Below w.heap.size w w' := by
  go_enter Tryd.func39, Tryd.ntmps39
  go_wp2_with fail
  refine (HB.out _ ((Below.refl _ _).alloc (Nat.le_refl _) _)).mono ?_
  rintro e w1 ⟨rfl, b1⟩
  have xX : XS w1 w.heap.size (.int .u8 op) (.int .i64 A) (.int .i64 B) (.slice o n cap) := by
    unfold XS
    rw [b1.block w.heap.size (by simp)]
    exact new_block _ _
  obtain ⟨x0, x1, x2, x3⟩ := xX.cell
  have HB1 : Hid (Below w.heap.size w w1) := ((Below.refl _ _).alloc (Nat.le_refl _) _).trans (b1.mono (by simp))
  have hXs := xX.lt
  clear b1
  go_wp2_with fail
  refine (HA.out _).mono ?_
  rintro e w2 ⟨rfl, b2⟩
  go_wp2
  go_ret
  exact ⟨rfl, HB1.out.trans (b2.mono HB1.out.size)⟩
set_option maxHeartbeats 4000000 in
set_option maxRecDepth 1000000 in
theorem vtext_5 (op A B : Int) (o : Option Addr) (n cap : Nat) (tA : ByteArray) (HA : Hid (∀ w, Calls Tryd.prog 77 #[.int .i64 A] w fun r w' => r = .returned (.string tA) ∧ Below w.heap.size w w')) (_hz : tA.size + 1 ≤ 9223372036854775807) (w : World) (HB : Hid (∀ w', Below w.heap.size w w' → Calls Tryd.prog 53 #[.int .u8 op] w' fun r w'' => r = .returned (.int .i64 5) ∧ Below w'.heap.size w' w'')) :
    Calls Tryd.prog 39 #[.agg #[.int .u8 op, .int .i64 A, .int .i64 B, .slice o n cap]] w fun r w' => r = .returned (.string (tA ++ ⟨#[0]⟩)) ∧ Below w.heap.size w w' := by
  go_enter Tryd.func39, Tryd.ntmps39
  go_wp2_with fail
  refine (HB.out _ ((Below.refl _ _).alloc (Nat.le_refl _) _)).mono ?_
  rintro e w1 ⟨rfl, b1⟩
  have xX : XS w1 w.heap.size (.int .u8 op) (.int .i64 A) (.int .i64 B) (.slice o n cap) := by
    unfold XS
    rw [b1.block w.heap.size (by simp)]
    exact new_block _ _
  obtain ⟨x0, x1, x2, x3⟩ := xX.cell
  have HB1 : Hid (Below w.heap.size w w1) := ((Below.refl _ _).alloc (Nat.le_refl _) _).trans (b1.mono (by simp))
  have hXs := xX.lt
  clear b1
  go_wp2_with fail
  refine (HA.out _).mono ?_
  rintro e w2 ⟨rfl, b2⟩
  go_wp2
  go_ret
  exact ⟨rfl, HB1.out.trans (b2.mono HB1.out.size)⟩
set_option maxHeartbeats 4000000 in
set_option maxRecDepth 1000000 in
theorem vtext_6 (op A B : Int) (o : Option Addr) (n cap : Nat) (tA : ByteArray) (HA : Hid (∀ w, Calls Tryd.prog 77 #[.int .i64 A] w fun r w' => r = .returned (.string tA) ∧ Below w.heap.size w w')) (tB : ByteArray) (HBB : Hid (∀ w, Calls Tryd.prog 77 #[.int .i64 B] w fun r w' => r = .returned (.string tB) ∧ Below w.heap.size w w')) (_hz : tA.size + tB.size ≤ 9223372036854775807) (w : World) (HB : Hid (∀ w', Below w.heap.size w w' → Calls Tryd.prog 53 #[.int .u8 op] w' fun r w'' => r = .returned (.int .i64 6) ∧ Below w'.heap.size w' w'')) :
    Calls Tryd.prog 39 #[.agg #[.int .u8 op, .int .i64 A, .int .i64 B, .slice o n cap]] w fun r w' => r = .returned (.string (tA ++ tB)) ∧ Below w.heap.size w w' := by
  go_enter Tryd.func39, Tryd.ntmps39
  go_wp2_with fail
  refine (HB.out _ ((Below.refl _ _).alloc (Nat.le_refl _) _)).mono ?_
  rintro e w1 ⟨rfl, b1⟩
  have xX : XS w1 w.heap.size (.int .u8 op) (.int .i64 A) (.int .i64 B) (.slice o n cap) := by
    unfold XS
    rw [b1.block w.heap.size (by simp)]
    exact new_block _ _
  obtain ⟨x0, x1, x2, x3⟩ := xX.cell
  have HB1 : Hid (Below w.heap.size w w1) := ((Below.refl _ _).alloc (Nat.le_refl _) _).trans (b1.mono (by simp))
  have hXs := xX.lt
  clear b1
  go_wp2_with fail
  go_region_with (first
    | (go_at_call_of 77 (Value.int .i64 A); refine (HA.out _).mono ?_; rintro e w2 ⟨rfl, b2⟩; have xX2 := XS.keep xX b2; obtain ⟨z0, z1, z2, z3⟩ := xX2.cell)
    | (go_at_call_of 77 (Value.int .i64 B); refine (HBB.out _).mono ?_; rintro e w3 ⟨rfl, b3⟩))
  all_goals (go_wp2; go_ret; exact ⟨rfl, (HB1.out.drew.trans (b2.mono HB1.out.size)).trans (b3.mono (Nat.le_trans HB1.out.size b2.size))⟩)
set_option maxHeartbeats 4000000 in
set_option maxRecDepth 1000000 in
theorem vtext_7 (op A B : Int) (o : Option Addr) (n cap : Nat) (w : World) (HB : Hid (∀ w', Below w.heap.size w w' → Calls Tryd.prog 53 #[.int .u8 op] w' fun r w'' => r = .returned (.int .i64 7) ∧ Below w'.heap.size w' w'')) :
    Calls Tryd.prog 39 #[.agg #[.int .u8 op, .int .i64 A, .int .i64 B, .slice o n cap]] w fun r w' => r = .returned (.string ⟨#[0]⟩) ∧ Below w.heap.size w w' := by
  go_enter Tryd.func39, Tryd.ntmps39
  go_wp2_with fail
  refine (HB.out _ ((Below.refl _ _).alloc (Nat.le_refl _) _)).mono ?_
  rintro e w1 ⟨rfl, b1⟩
  have xX : XS w1 w.heap.size (.int .u8 op) (.int .i64 A) (.int .i64 B) (.slice o n cap) := by
    unfold XS
    rw [b1.block w.heap.size (by simp)]
    exact new_block _ _
  obtain ⟨x0, x1, x2, x3⟩ := xX.cell
  have HB1 : Hid (Below w.heap.size w w1) := ((Below.refl _ _).alloc (Nat.le_refl _) _).trans (b1.mono (by simp))
  have hXs := xX.lt
  clear b1
  go_wp2
  go_ret
  exact ⟨rfl, HB1.out⟩
set_option maxHeartbeats 4000000 in
set_option maxRecDepth 1000000 in
theorem vtext_8 (op A B : Int) (o : Option Addr) (n cap : Nat) (tA : ByteArray) (HA : Hid (∀ w, Calls Tryd.prog 78 #[.int .i64 A] w fun r w' => r = .returned (.string tA) ∧ Below w.heap.size w w')) (w : World) (HB : Hid (∀ w', Below w.heap.size w w' → Calls Tryd.prog 53 #[.int .u8 op] w' fun r w'' => r = .returned (.int .i64 8) ∧ Below w'.heap.size w' w'')) :
    Calls Tryd.prog 39 #[.agg #[.int .u8 op, .int .i64 A, .int .i64 B, .slice o n cap]] w fun r w' => r = .returned (.string tA) ∧ Below w.heap.size w w' := by
  go_enter Tryd.func39, Tryd.ntmps39
  go_wp2_with fail
  refine (HB.out _ ((Below.refl _ _).alloc (Nat.le_refl _) _)).mono ?_
  rintro e w1 ⟨rfl, b1⟩
  have xX : XS w1 w.heap.size (.int .u8 op) (.int .i64 A) (.int .i64 B) (.slice o n cap) := by
    unfold XS
    rw [b1.block w.heap.size (by simp)]
    exact new_block _ _
  obtain ⟨x0, x1, x2, x3⟩ := xX.cell
  have HB1 : Hid (Below w.heap.size w w1) := ((Below.refl _ _).alloc (Nat.le_refl _) _).trans (b1.mono (by simp))
  have hXs := xX.lt
  clear b1
  go_wp2_with fail
  refine (HA.out _).mono ?_
  rintro e w2 ⟨rfl, b2⟩
  go_wp2
  go_ret
  exact ⟨rfl, HB1.out.trans (b2.mono HB1.out.size)⟩
set_option maxHeartbeats 4000000 in
set_option maxRecDepth 1000000 in
theorem vtext_9 (op A B : Int) (o : Option Addr) (n cap : Nat) (tA : ByteArray) (HA : Hid (∀ w, Calls Tryd.prog 78 #[.int .i64 A] w fun r w' => r = .returned (.string tA) ∧ Below w.heap.size w w')) (w : World) (HB : Hid (∀ w', Below w.heap.size w w' → Calls Tryd.prog 53 #[.int .u8 op] w' fun r w'' => r = .returned (.int .i64 9) ∧ Below w'.heap.size w' w'')) :
    Calls Tryd.prog 39 #[.agg #[.int .u8 op, .int .i64 A, .int .i64 B, .slice o n cap]] w fun r w' => r = .returned (.string tA) ∧ Below w.heap.size w w' := by
  go_enter Tryd.func39, Tryd.ntmps39
  go_wp2_with fail
  refine (HB.out _ ((Below.refl _ _).alloc (Nat.le_refl _) _)).mono ?_
  rintro e w1 ⟨rfl, b1⟩
  have xX : XS w1 w.heap.size (.int .u8 op) (.int .i64 A) (.int .i64 B) (.slice o n cap) := by
    unfold XS
    rw [b1.block w.heap.size (by simp)]
    exact new_block _ _
  obtain ⟨x0, x1, x2, x3⟩ := xX.cell
  have HB1 : Hid (Below w.heap.size w w1) := ((Below.refl _ _).alloc (Nat.le_refl _) _).trans (b1.mono (by simp))
  have hXs := xX.lt
  clear b1
  go_wp2_with fail
  refine (HA.out _).mono ?_
  rintro e w2 ⟨rfl, b2⟩
  go_wp2
  go_ret
  exact ⟨rfl, HB1.out.trans (b2.mono HB1.out.size)⟩
set_option maxHeartbeats 4000000 in
set_option maxRecDepth 1000000 in
theorem vtext_4 (op A : Int) (o : Option Addr) (xs : List Int) (n cap : Nat) (_hcap : n ≤ cap) (hl : xs.length = n) (hn : n ≤ 16) (hx : ∀ x ∈ xs, isNum x) (hA : isNum A) (w : World) (h : LJ w o n xs) (HB : Hid (∀ w', Below w.heap.size w w' → Calls Tryd.prog 53 #[.int .u8 op] w' fun r w'' => r = .returned (.int .i64 4) ∧ Below w'.heap.size w' w'')) :
    Calls Tryd.prog 39 #[.agg #[.int .u8 op, .int .i64 A, .int .i64 0, .slice o n cap]] w fun r w' => r = .returned (.string (catK (strOfNums (uB n)) xs n ++ strOfNums (uB A.toNat))) ∧ Below w.heap.size w w' := by
  have HL : Hid (xs.length = n) := hl
  have HX : Hid (∀ x ∈ xs, isNum x) := hx
  have HH : Hid (LJ w o n xs) := h
  have hcs : ∀ k, k ≤ n → (catK (strOfNums (uB n)) xs k).size ≤ 170 := by
    intro k hk
    have h1 := catK_size (strOfNums (uB n)) xs hx k (by omega)
    have h2 := uB_len64 n (by omega)
    rw [strOfNums_size] at h1
    omega
  have HCS : Hid _ := hcs
  have hAs : (strOfNums (uB A.toNat)).size ≤ 10 := by rw [strOfNums_size]; exact uB_num A hA
  have HT0 : Hid (∀ w, Calls Tryd.prog 77 #[.int .i64 (n : Int)] w fun e w' => e = .returned (.string (strOfNums (uB n))) ∧ Below w.heap.size w w') := fun w => by
    have := numText_any (n : Int) ⟨by omega, by omega⟩ w
    rw [Int.toNat_natCast] at this
    exact this
  have HTA : Hid (∀ w, Calls Tryd.prog 77 #[.int .i64 A] w fun e w' => e = .returned (.string (strOfNums (uB A.toNat))) ∧ Below w.heap.size w w') := fun w => numText_any A hA w
  clear hl hx h hcs hA
  obtain ⟨T0, hT0⟩ : ∃ T, strOfNums (uB n) = T := ⟨_, rfl⟩
  obtain ⟨TA, hTA⟩ : ∃ T, strOfNums (uB A.toNat) = T := ⟨_, rfl⟩
  rw [hT0] at HT0 HCS ⊢
  rw [hTA] at HTA hAs ⊢
  clear hT0 hTA
  go_enter Tryd.func39, Tryd.ntmps39
  go_wp2_with fail
  refine (HB.out _ ((Below.refl _ _).alloc (Nat.le_refl _) _)).mono ?_
  rintro e w1 ⟨rfl, b1⟩
  have xX : XS w1 w.heap.size (.int .u8 op) (.int .i64 A) (.int .i64 0) (.slice o n cap) := by
    unfold XS
    rw [b1.block w.heap.size (by simp)]
    exact new_block _ _
  obtain ⟨x0, x1, x2, x3⟩ := xX.cell
  have HB1 : Hid (Below w.heap.size w w1) := ((Below.refl _ _).alloc (Nat.le_refl _) _).trans (b1.mono (by simp))
  have hXs := xX.lt
  clear b1
  have HXX : Hid (XS w1 w.heap.size (.int .u8 op) (.int .i64 A) (.int .i64 0) (.slice o n cap)) := xX
  clear xX
  go_wp2_with fail
  refine (HT0.out _).mono ?_
  rintro e w2 ⟨rfl, b2⟩
  have xX2 := XS.below HXX.out b2
  obtain ⟨z0, z1, z2, z3⟩ := xX2.cell
  have HXX2 : Hid (type_of% xX2) := xX2
  have HB2 : Hid (Below w.heap.size w w2) := HB1.out.trans (b2.mono HB1.out.size)
  clear xX2 b2 HXX HB1 x0 x1 x2 x3 hXs
  go_wp2
  go_loopw [3, 29] (fun t i wr => ∃ k : Nat, i = .int .i64 k ∧ k ≤ n ∧ t = .string (catK T0 xs k) ∧ Hid (Below w.heap.size w wr) ∧ Hid (XS wr w.heap.size (.int .u8 op) (.int .i64 A) (.int .i64 0) (.slice o n cap))) (fun _ i _ => n - (intOf i).toNat)
  case atStart => exact ⟨0, rfl, by omega, rfl, HB2, HXX2⟩
  case round =>
    obtain ⟨k, rfl, hk, rfl, HBk, HXk⟩ := hrel
    clear z0 z1 z2 z3 HXX2 HB2
    have hck := HCS.out k hk
    by_cases hlt : k < n
    · rcases (HH.out.below HBk.out).2 with h0 | ⟨g, rfl, _, hc⟩
      · omega
      have hcell := hc k hlt
      have hmem : xs.getD k 0 ∈ xs := by
        rw [List.getD_eq_getElem?_getD, List.getElem?_eq_getElem (by rw [HL.out]; exact hlt)]
        exact List.getElem_mem _
      have HN : Hid (∀ w, Calls Tryd.prog 77 #[.int .i64 (xs.getD k 0)] w fun e w' => e = .returned (.string (strOfNums (uB (xs.getD k 0).toNat))) ∧ Below w.heap.size w w') := fun w => numText_any (xs.getD k 0) (HX.out _ hmem) w
      have hsz : (strOfNums (uB (xs.getD k 0).toNat)).size ≤ 10 := by rw [strOfNums_size]; exact uB_num _ (HX.out _ hmem)
      have HCK : Hid (catK T0 xs (k + 1) = catK T0 xs k ++ strOfNums (uB (xs.getD k 0).toNat)) := rfl
      generalize xs.getD k 0 = x at hcell HN hsz HCK
      generalize strOfNums (uB x.toNat) = tx at HN hsz HCK
      generalize catK T0 xs k = tk at hck HCK ⊢
      have hadd : tk.size + tx.size ≤ 9223372036854775807 := by omega
      clear hc hmem
      have hki0 : (0 : Int) ≤ (k : Int) := by omega
      have hki1 : (k : Int) < (n : Int) := by omega
      go_wp2_with fail
      refine (HN.out _).mono ?_
      rintro e w3 ⟨rfl, b3⟩
      have HB3 : Hid (Below w.heap.size w w3) := HBk.out.trans (b3.mono HBk.out.size)
      have HX3 : Hid (type_of% (XS.below HXk.out b3)) := XS.below HXk.out b3
      clear b3
      go_wp2
      all_goals first
        | (exfalso; omega)
        | skip
      go_roundw
      case rel => exact ⟨k + 1, by go_num, by omega, by rw [HCK.out], HB3, HX3⟩
      case measure => simp [intOf]; omega
    · have hkn : k = n := by omega
      subst hkn
      have hadd : (catK T0 xs k).size + TA.size ≤ 9223372036854775807 := by omega
      obtain ⟨tk, htk⟩ : ∃ t, catK T0 xs k = t := ⟨_, rfl⟩
      have HTK : Hid (catK T0 xs k = tk) := htk
      rw [htk] at hadd hck ⊢
      clear htk
      obtain ⟨z0, z1, z2, z3⟩ := XS.cell HXk.out
      go_wp2_with fail
      refine (HTA.out _).mono ?_
      rintro e w3 ⟨rfl, b3⟩
      go_wp2
      all_goals first
        | (exfalso; omega)
        | skip
      go_ret
      exact ⟨by rw [HTK.out]; rfl, HBk.out.trans (b3.mono HBk.out.size)⟩
set_option maxHeartbeats 4000000 in
set_option maxRecDepth 1000000 in
theorem vwrite_core (op A B : Int) (o : Option Addr) (n cap N : Nat) (L : List Int) (_hN : N ≤ 1000) (w : World)
    (HC : Hid (∀ w', Below w.heap.size w w' → Calls Tryd.prog 16 #[.agg #[.int .u8 op, .int .i64 A, .int .i64 B, .slice o n cap]] w' fun r w'' => r = .returned (.int .i64 0) ∧ Below w'.heap.size w' w''))
    (HT : Hid (∀ w', Below w.heap.size w w' → Calls Tryd.prog 39 #[.agg #[.int .u8 op, .int .i64 A, .int .i64 B, .slice o n cap]] w' fun r w'' => ∃ t, r = .returned (.string t) ∧ (nums t = L ∧ t.size = N) ∧ Below w'.heap.size w' w'')) :
    Calls Tryd.prog 9 #[.agg #[.int .u8 op, .int .i64 A, .int .i64 B, .slice o n cap]] w fun r w' => ∃ t, r = .returned (.tuple #[.string (strOfNums [op] ++ t), .int .i64 0]) ∧ nums t = L ∧ Below w.heap.size w w' := by
  have hso : (strOfNums [op]).size = 1 := rfl
  have HO : Hid (∀ w, Calls Tryd.prog 38 #[.int .u8 op] w fun e w' => e = .returned (.string (strOfNums [op])) ∧ Below w.heap.size w w') := fun w => oneByte_any op w
  generalize strOfNums [op] = T0 at hso HO ⊢
  go_enter Tryd.func9, Tryd.ntmps9
  go_wp2_with fail
  refine (HC.out _ ((Below.refl _ _).alloc (Nat.le_refl _) _)).mono ?_
  rintro e w1 ⟨rfl, b1⟩
  have xX : XS w1 w.heap.size (.int .u8 op) (.int .i64 A) (.int .i64 B) (.slice o n cap) := by
    unfold XS
    rw [b1.block w.heap.size (by simp)]
    exact new_block _ _
  obtain ⟨x0, x1, x2, x3⟩ := xX.cell
  have HB1 : Hid (Below w.heap.size w w1) := ((Below.refl _ _).alloc (Nat.le_refl _) _).trans (b1.mono (by simp))
  clear b1
  go_wp2_with fail
  go_region_with (first
    | (go_at_call_of 38 (Value.int .u8 op); refine (HO.out _).mono ?_; rintro e w2 ⟨rfl, b2⟩; have xX2 := XS.keep xX b2; obtain ⟨z0, z1, z2, z3⟩ := xX2.cell)
    | (go_at_call_of 39 (Value.agg #[.int .u8 op, .int .i64 A, .int .i64 B, .slice o n cap] : Value); refine (HT.out _ (HB1.out.drew.trans (b2.mono HB1.out.size))).mono ?_; rintro e w3 ⟨t, rfl, ⟨ht, hts⟩, b3⟩))
  all_goals (go_wp2; go_ret2; exact ⟨t, rfl, ht, (HB1.out.drew.trans (b2.mono HB1.out.size)).trans (b3.mono (Nat.le_trans HB1.out.size b2.size))⟩)
set_option maxHeartbeats 4000000 in
set_option maxRecDepth 1000000 in
theorem vcheck_none (op A B : Int) (o : Option Addr) (n cap : Nat) (w : World)
    (HB : Hid (∀ w', Below w.heap.size w w' → Calls Tryd.prog 53 #[.int .u8 op] w' fun r w'' => r = .returned (.int .i64 0) ∧ Below w'.heap.size w' w'')) :
    Calls Tryd.prog 16 #[.agg #[.int .u8 op, .int .i64 A, .int .i64 B, .slice o n cap]] w fun r w' => r = .returned (.int .i64 6) ∧ Below w.heap.size w w' := by
  go_enter Tryd.func16, Tryd.ntmps16
  go_wp2_with fail
  refine (HB.out _ ((Below.refl _ _).alloc (Nat.le_refl _) _)).mono ?_
  rintro e w1 ⟨rfl, b1⟩
  go_wp2
  go_ret
  exact ⟨rfl, ((Below.refl _ _).alloc (Nat.le_refl _) _).trans (b1.mono (by simp))⟩
set_option maxHeartbeats 4000000 in
set_option maxRecDepth 1000000 in
theorem vcheck_long (op A B k : Int) (o : Option Addr) (n cap : Nat) (_hn : 16 < n) (_hm : n ≤ 9223372036854775807) (_hk : (k == 0) = false) (w : World) (HB : Hid (∀ w', Below w.heap.size w w' → Calls Tryd.prog 53 #[.int .u8 op] w' fun r w'' => r = .returned (.int .i64 k) ∧ Below w'.heap.size w' w'')) :
    Calls Tryd.prog 16 #[.agg #[.int .u8 op, .int .i64 A, .int .i64 B, .slice o n cap]] w fun r w' => r = .returned (.int .i64 2) ∧ Below w.heap.size w w' := by
  go_enter Tryd.func16, Tryd.ntmps16
  go_wp2_with fail
  refine (HB.out _ ((Below.refl _ _).alloc (Nat.le_refl _) _)).mono ?_
  rintro e w1 ⟨rfl, b1⟩
  have xX : XS w1 w.heap.size (.int .u8 op) (.int .i64 A) (.int .i64 B) (.slice o n cap) := by
    unfold XS
    rw [b1.block w.heap.size (by simp)]
    exact new_block _ _
  obtain ⟨x0, x1, x2, x3⟩ := xX.cell
  have HB1 : Hid (Below w.heap.size w w1) := ((Below.refl _ _).alloc (Nat.le_refl _) _).trans (b1.mono (by simp))
  clear xX b1
  go_wp2
  go_ret
  exact ⟨rfl, HB1.out⟩
set_option maxHeartbeats 4000000 in
set_option maxRecDepth 1000000 in
theorem vcheck_yes (op A B k : Int) (o : Option Addr) (n cap : Nat) (_hn : n ≤ 16) (_hk : (k == 0) = false) (w : World) (HB : Hid (∀ w', Below w.heap.size w w' → Calls Tryd.prog 53 #[.int .u8 op] w' fun r w'' => r = .returned (.int .i64 k) ∧ Below w'.heap.size w' w''))
    (HF : Hid (∀ w', Below w.heap.size w w' → Calls Tryd.prog 54 #[.int .i64 k, .agg #[.int .u8 op, .int .i64 A, .int .i64 B, .slice o n cap]] w' fun r w'' => r = .returned (.bool true) ∧ Below w'.heap.size w' w'')) :
    Calls Tryd.prog 16 #[.agg #[.int .u8 op, .int .i64 A, .int .i64 B, .slice o n cap]] w fun r w' => r = .returned (.int .i64 0) ∧ Below w.heap.size w w' := by
  go_enter Tryd.func16, Tryd.ntmps16
  go_wp2_with fail
  refine (HB.out _ ((Below.refl _ _).alloc (Nat.le_refl _) _)).mono ?_
  rintro e w1 ⟨rfl, b1⟩
  have xX : XS w1 w.heap.size (.int .u8 op) (.int .i64 A) (.int .i64 B) (.slice o n cap) := by
    unfold XS
    rw [b1.block w.heap.size (by simp)]
    exact new_block _ _
  obtain ⟨x0, x1, x2, x3⟩ := xX.cell
  have HB1 : Hid (Below w.heap.size w w1) := ((Below.refl _ _).alloc (Nat.le_refl _) _).trans (b1.mono (by simp))
  clear xX b1
  go_wp2_with fail
  refine (HF.out _ HB1.out).mono ?_
  rintro e w2 ⟨rfl, b2⟩
  go_wp2
  go_ret
  exact ⟨rfl, HB1.out.trans (b2.mono HB1.out.size)⟩
set_option maxHeartbeats 4000000 in
set_option maxRecDepth 1000000 in
theorem vcheck_no (op A B k : Int) (o : Option Addr) (n cap : Nat) (_hn : n ≤ 16) (_hk : (k == 0) = false) (w : World) (HB : Hid (∀ w', Below w.heap.size w w' → Calls Tryd.prog 53 #[.int .u8 op] w' fun r w'' => r = .returned (.int .i64 k) ∧ Below w'.heap.size w' w''))
    (HF : Hid (∀ w', Below w.heap.size w w' → Calls Tryd.prog 54 #[.int .i64 k, .agg #[.int .u8 op, .int .i64 A, .int .i64 B, .slice o n cap]] w' fun r w'' => r = .returned (.bool false) ∧ Below w'.heap.size w' w'')) :
    Calls Tryd.prog 16 #[.agg #[.int .u8 op, .int .i64 A, .int .i64 B, .slice o n cap]] w fun r w' => r = .returned (.int .i64 1) ∧ Below w.heap.size w w' := by
  go_enter Tryd.func16, Tryd.ntmps16
  go_wp2_with fail
  refine (HB.out _ ((Below.refl _ _).alloc (Nat.le_refl _) _)).mono ?_
  rintro e w1 ⟨rfl, b1⟩
  have xX : XS w1 w.heap.size (.int .u8 op) (.int .i64 A) (.int .i64 B) (.slice o n cap) := by
    unfold XS
    rw [b1.block w.heap.size (by simp)]
    exact new_block _ _
  obtain ⟨x0, x1, x2, x3⟩ := xX.cell
  have HB1 : Hid (Below w.heap.size w w1) := ((Below.refl _ _).alloc (Nat.le_refl _) _).trans (b1.mono (by simp))
  clear xX b1
  go_wp2_with fail
  refine (HF.out _ HB1.out).mono ?_
  rintro e w2 ⟨rfl, b2⟩
  go_wp2
  go_ret
  exact ⟨rfl, HB1.out.trans (b2.mono HB1.out.size)⟩
/-- What Check answers. -/
def chkV (op A B : Int) (n : Nat) (xs : List Int) : Int := if besV op = 0 then 6 else if 16 < n then 2 else if fitB (besV op) A B n xs then 0 else 1
theorem check_any (op A B : Int) (o : Option Addr) (n cap : Nat) (xs : List Int) (h0 : 0 ≤ op) (h1 : op ≤ 255) (hcap : n ≤ cap) (hm : n ≤ 9223372036854775807) (w : World) (h : LJ w o n xs) (hT : TabIn w) (ht0 : 1 < w.heap.size) :
    Calls Tryd.prog 16 #[.agg #[.int .u8 op, .int .i64 A, .int .i64 B, .slice o n cap]] w fun r w' => r = .returned (.int .i64 (chkV op A B n xs)) ∧ Below w.heap.size w w' := by
  have hB : ∀ w', Below w.heap.size w w' → Calls Tryd.prog 53 #[.int .u8 op] w' fun r w'' => r = .returned (.int .i64 (besV op)) ∧ Below w'.heap.size w' w'' := fun w' hb => bes_any op h0 h1 w' (hT.chg (P := w.heap.size) (Chg.of_below hb) ht0 (by omega))
  have hrg := besV_range op
  unfold chkV
  generalize besV op = k at hB hrg ⊢
  by_cases hk : k = 0
  · subst hk
    rw [if_pos rfl]
    exact vcheck_none op A B o n cap w hB
  rw [if_neg hk]
  have hkb : (k == 0) = false := by rw [beq_eq_false_iff_ne]; exact hk
  by_cases hn : 16 < n
  · rw [if_pos hn]
    exact vcheck_long op A B k o n cap hn hm hkb w hB
  rw [if_neg hn]
  have hF := fun w' (hb : Below w.heap.size w w') => fits_any k op A B o n cap xs (by omega) (by omega) hcap (by omega) w' (h.below hb)
  cases hf : fitB k A B n xs with
  | true =>
    rw [hf] at hF
    exact vcheck_yes op A B k o n cap (by omega) hkb w hB hF
  | false =>
    rw [hf] at hF
    exact vcheck_no op A B k o n cap (by omega) hkb w hB hF
set_option maxHeartbeats 4000000 in
set_option maxRecDepth 1000000 in
theorem vwrite_err (op A B f : Int) (o : Option Addr) (n cap : Nat) (_hf : (f == 0) = false) (w : World) (HC : Hid (∀ w', Below w.heap.size w w' → Calls Tryd.prog 16 #[.agg #[.int .u8 op, .int .i64 A, .int .i64 B, .slice o n cap]] w' fun r w'' => r = .returned (.int .i64 f) ∧ Below w'.heap.size w' w'')) :
    Calls Tryd.prog 9 #[.agg #[.int .u8 op, .int .i64 A, .int .i64 B, .slice o n cap]] w fun r w' => r = .returned (.tuple #[.string ⟨#[]⟩, .int .i64 f]) ∧ Below w.heap.size w w' := by
  have hne : (f != 0) = true := by rw [bne, _hf]; rfl
  go_enter Tryd.func9, Tryd.ntmps9
  go_wp2_with fail
  refine (HC.out _ ((Below.refl _ _).alloc (Nat.le_refl _) _)).mono ?_
  rintro e w1 ⟨rfl, b1⟩
  go_wp2
  go_ret2
  exact ⟨rfl, ((Below.refl _ _).alloc (Nat.le_refl _) _).trans (b1.mono (by simp))⟩
end Go.Proofs.YtgdleahhkaolbaaDoor
