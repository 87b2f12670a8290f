/-
  What the program's own fits and Check say of what is well.
  What the program's own besideText and Write make of what is well.
-/
import Derived.Test.YtmbficofcmfmlaaDoorInsR5
import Derived.Test.YtmbficofcmfmlaaDoorGLeb
import Derived.Laws.Concat
import Derived.Deep.RegionWith
namespace Go.Proofs.YtmbficofcmfmlaaDoor
open Go.RowKit

/-- A list of numbers that can be read in the world. -/
def LI (w : World) (o : Option Addr) (xs : List Int) : Prop := xs = [] ∨ ∃ g, o = some ⟨g, 0, none⟩ ∧ g < w.heap.size ∧ ∀ i, i < xs.length → w.cell? ⟨g, i, none⟩ = some (.int .i64 (xs.getD i 0))
theorem LI.below {w w' : World} {o : Option Addr} {xs : List Int} (h : LI w o xs) (hb : Below w.heap.size w w') : LI w' o xs := by
  rcases h with h | ⟨g, h1, h2, h3⟩
  · exact Or.inl h
  · exact Or.inr ⟨g, h1, Nat.lt_of_lt_of_le h2 hb.size, fun i hi => by rw [hb.cell (p := ⟨g, i, none⟩) h2]; exact h3 i hi⟩
theorem IsI.li {w : World} {B : Nat} {v : Value} {xs : List Int} (h : IsI w B v xs) : ∃ o, v = .slice o xs.length xs.length ∧ LI w o xs := by
  rcases h with ⟨rfl, rfl⟩ | ⟨g, rfl, ho⟩
  · exact ⟨none, rfl, Or.inl rfl⟩
  · refine ⟨_, rfl, Or.inr ⟨g, rfl, (ho.lt g rfl).2, fun i hi => ?_⟩⟩
    rw [ho.cellAt i (by omega), List.getElem?_map, List.getElem?_eq_getElem hi, List.getD_eq_getElem?_getD, List.getElem?_eq_getElem hi]
    rfl
/-- A number that stands without a sign. -/
def isNum (n : Int) : Prop := 0 ≤ n ∧ n ≤ 4294967295
set_option maxHeartbeats 2000000 in
set_option maxRecDepth 1000000 in
theorem isNum_ok (n : Int) (h : isNum n) (w : World) : Calls Tryd.prog 92 #[.int .i64 n] w fun r w' => r = .returned (.bool true) ∧ w' = w := by
  obtain ⟨h0, h1⟩ := h
  have e0 : decide (0 ≤ n) = true := decide_eq_true h0
  have e1 : decide (n ≤ 4294967295) = true := decide_eq_true h1
  go_enter Tryd.func92, Tryd.ntmps92
  go_wp2
  go_ret
  exact ⟨rfl, rfl⟩
set_option maxHeartbeats 2000000 in
set_option maxRecDepth 1000000 in
theorem nums_ok (o : Option Addr) (xs : List Int) (n : Nat) (hl : xs.length = n) (hn : n ≤ 16) (hx : ∀ x ∈ xs, isNum x) (w : World) (h : LI w o xs) : Calls Tryd.prog 93 #[.slice o n n] w fun r w' => r = .returned (.bool true) ∧ w' = w := by
  have HL : Hid (xs.length = n) := hl
  have HX : Hid (∀ x ∈ xs, isNum x) := hx
  have HH : Hid (LI w o xs) := h
  clear hl hx h
  go_enter Tryd.func93, Tryd.ntmps93
  go_wp2
  go_loop [7] (fun i => ∃ k : Nat, i = .int .i64 k ∧ k ≤ n) (fun i => n - (intOf i).toNat)
  case atStart => exact ⟨0, rfl, by omega⟩
  case round =>
    obtain ⟨k, rfl, hk⟩ := hrel
    by_cases hlt : k < n
    · rcases HH.out with h0 | ⟨g, rfl, _, hc⟩
      · exfalso
        have := HL.out
        rw [h0] at this
        simp at this
        omega
      have hcell := hc k (by rw [HL.out]; exact hlt)
      have hmem : xs.getD k 0 ∈ xs := by
        rw [List.getD_eq_getElem?_getD, List.getElem?_eq_getElem (by rw [HL.out]; exact hlt)]
        exact List.getElem_mem _
      have HN := isNum_ok (xs.getD k 0) (HX.out _ hmem)
      generalize xs.getD k 0 = x at hcell HN
      have HNN : Hid (∀ w, Calls Tryd.prog 92 #[.int .i64 x] w fun r w' => r = .returned (.bool true) ∧ w' = w) := HN
      clear HN hc hmem
      have hki0 : (0 : Int) ≤ (k : Int) := by omega
      have hki1 : (k : Int) < (n : Int) := by omega
      go_wp2_with fail
      refine (HNN.out _).mono ?_
      rintro e w1 ⟨rfl, rfl⟩
      go_wp2
      go_round
      case rel => exact ⟨k + 1, by go_num, by omega⟩
      case measure => simp [intOf]; omega
    · go_wp2
      go_ret
      exact ⟨rfl, rfl⟩
/-- What is asked of what stands beside an instruction. -/
def fitC (k A B : Int) (xs : List Int) : Prop :=
  (k = 1 ∧ A = 0 ∧ B = 0 ∧ xs = []) ∨ (k = 2 ∧ isKB A = true ∧ B = 0 ∧ xs = []) ∨ (k = 3 ∧ isNum A ∧ B = 0 ∧ xs = []) ∨ (k = 4 ∧ isNum A ∧ B = 0 ∧ xs.length ≤ 16 ∧ ∀ x ∈ xs, isNum x) ∨ (k = 5 ∧ isNum A ∧ B = 0 ∧ xs = []) ∨ (k = 6 ∧ isNum A ∧ isNum B ∧ xs = []) ∨ (k = 7 ∧ A = 0 ∧ B = 0 ∧ xs = []) ∨ (k = 8 ∧ -2147483648 ≤ A ∧ A ≤ 2147483647 ∧ B = 0 ∧ xs = []) ∨ (k = 9 ∧ B = 0 ∧ xs = [])
set_option maxHeartbeats 2000000 in
set_option maxRecDepth 1000000 in
theorem fits_1 (op : Int) (o : Option Addr) (w : World) : Calls Tryd.prog 69 #[.int .i64 1, .agg #[.int .u8 op, .int .i64 0, .int .i64 0, .slice o 0 0]] w fun r w' => r = .returned (.bool true) ∧ Below w.heap.size w w' := by
  go_enter Tryd.func69, Tryd.ntmps69
  go_wp2
  go_ret
  exact ⟨rfl, (Below.refl _ _).alloc (Nat.le_refl _) _⟩
set_option maxHeartbeats 2000000 in
set_option maxRecDepth 1000000 in
theorem fits_7 (op : Int) (o : Option Addr) (w : World) : Calls Tryd.prog 69 #[.int .i64 7, .agg #[.int .u8 op, .int .i64 0, .int .i64 0, .slice o 0 0]] w fun r w' => r = .returned (.bool true) ∧ Below w.heap.size w w' := by
  go_enter Tryd.func69, Tryd.ntmps69
  go_wp2
  go_ret
  exact ⟨rfl, (Below.refl _ _).alloc (Nat.le_refl _) _⟩
set_option maxHeartbeats 2000000 in
set_option maxRecDepth 1000000 in
theorem fits_9 (op A : Int) (o : Option Addr) (w : World) : Calls Tryd.prog 69 #[.int .i64 9, .agg #[.int .u8 op, .int .i64 A, .int .i64 0, .slice o 0 0]] w fun r w' => r = .returned (.bool true) ∧ Below w.heap.size w w' := by
  go_enter Tryd.func69, Tryd.ntmps69
  go_wp2
  go_ret
  exact ⟨rfl, (Below.refl _ _).alloc (Nat.le_refl _) _⟩
set_option maxHeartbeats 2000000 in
set_option maxRecDepth 1000000 in
theorem fits_8 (op A : Int) (o : Option Addr) (_h0 : decide (-2147483648 ≤ A) = true) (_h1 : decide (A ≤ 2147483647) = true) (w : World) : Calls Tryd.prog 69 #[.int .i64 8, .agg #[.int .u8 op, .int .i64 A, .int .i64 0, .slice o 0 0]] w fun r w' => r = .returned (.bool true) ∧ Below w.heap.size w w' := by
  go_enter Tryd.func69, Tryd.ntmps69
  go_wp2
  go_ret
  exact ⟨rfl, (Below.refl _ _).alloc (Nat.le_refl _) _⟩
set_option maxHeartbeats 2000000 in
set_option maxRecDepth 1000000 in
theorem fits_2 (op A : Int) (o : Option Addr) (HK : Hid (∀ w, Calls Tryd.prog 91 #[.int .i64 A] w fun r w' => r = .returned (.bool true) ∧ w' = w)) (w : World) : Calls Tryd.prog 69 #[.int .i64 2, .agg #[.int .u8 op, .int .i64 A, .int .i64 0, .slice o 0 0]] w fun r w' => r = .returned (.bool true) ∧ Below w.heap.size w w' := by
  go_enter Tryd.func69, Tryd.ntmps69
  go_wp2_with fail
  refine (HK.out _).mono ?_
  rintro e w1 ⟨rfl, rfl⟩
  go_wp2
  go_ret
  exact ⟨rfl, (Below.refl _ _).alloc (Nat.le_refl _) _⟩
set_option maxHeartbeats 2000000 in
set_option maxRecDepth 1000000 in
theorem fits_3 (op A : Int) (o : Option Addr) (hA : Hid (isNum A)) (w : World) : Calls Tryd.prog 69 #[.int .i64 3, .agg #[.int .u8 op, .int .i64 A, .int .i64 0, .slice o 0 0]] w fun r w' => r = .returned (.bool true) ∧ Below w.heap.size w w' := by
  go_enter Tryd.func69, Tryd.ntmps69
  go_wp2_with fail
  refine (isNum_ok A hA.out _).mono ?_
  rintro e w1 ⟨rfl, rfl⟩
  go_wp2_with fail
  refine (isNum_ok 0 ⟨by omega, by omega⟩ _).mono ?_
  rintro e w1 ⟨rfl, rfl⟩
  go_wp2_with fail
  refine (nums_ok o [] 0 rfl (by omega) (by intro x hx; cases hx) _ (Or.inl rfl)).mono ?_
  rintro e w1 ⟨rfl, rfl⟩
  go_wp2
  go_ret
  exact ⟨rfl, (Below.refl _ _).alloc (Nat.le_refl _) _⟩
set_option maxHeartbeats 2000000 in
set_option maxRecDepth 1000000 in
theorem fits_5 (op A : Int) (o : Option Addr) (hA : Hid (isNum A)) (w : World) : Calls Tryd.prog 69 #[.int .i64 5, .agg #[.int .u8 op, .int .i64 A, .int .i64 0, .slice o 0 0]] w fun r w' => r = .returned (.bool true) ∧ Below w.heap.size w w' := by
  go_enter Tryd.func69, Tryd.ntmps69
  go_wp2_with fail
  refine (isNum_ok A hA.out _).mono ?_
  rintro e w1 ⟨rfl, rfl⟩
  go_wp2_with fail
  refine (isNum_ok 0 ⟨by omega, by omega⟩ _).mono ?_
  rintro e w1 ⟨rfl, rfl⟩
  go_wp2_with fail
  refine (nums_ok o [] 0 rfl (by omega) (by intro x hx; cases hx) _ (Or.inl rfl)).mono ?_
  rintro e w1 ⟨rfl, rfl⟩
  go_wp2
  go_ret
  exact ⟨rfl, (Below.refl _ _).alloc (Nat.le_refl _) _⟩
set_option maxHeartbeats 2000000 in
set_option maxRecDepth 1000000 in
theorem fits_6 (op A B : Int) (o : Option Addr) (hA : Hid (isNum A)) (hB : Hid (isNum B)) (w : World) : Calls Tryd.prog 69 #[.int .i64 6, .agg #[.int .u8 op, .int .i64 A, .int .i64 B, .slice o 0 0]] w fun r w' => r = .returned (.bool true) ∧ Below w.heap.size w w' := by
  go_enter Tryd.func69, Tryd.ntmps69
  go_wp2_with fail
  refine (isNum_ok A hA.out _).mono ?_
  rintro e w1 ⟨rfl, rfl⟩
  go_wp2_with fail
  refine (isNum_ok B hB.out _).mono ?_
  rintro e w1 ⟨rfl, rfl⟩
  go_wp2_with fail
  refine (nums_ok o [] 0 rfl (by omega) (by intro x hx; cases hx) _ (Or.inl rfl)).mono ?_
  rintro e w1 ⟨rfl, rfl⟩
  go_wp2
  go_ret
  exact ⟨rfl, (Below.refl _ _).alloc (Nat.le_refl _) _⟩
set_option maxHeartbeats 2000000 in
set_option maxRecDepth 1000000 in
theorem fits_4 (op A : Int) (o : Option Addr) (hA : Hid (isNum A)) (n : Nat) (w : World) (HX : Hid (∀ w', Below w.heap.size w w' → Calls Tryd.prog 93 #[.slice o n n] w' fun r w'' => r = .returned (.bool true) ∧ w'' = w')) : Calls Tryd.prog 69 #[.int .i64 4, .agg #[.int .u8 op, .int .i64 A, .int .i64 0, .slice o n n]] w fun r w' => r = .returned (.bool true) ∧ Below w.heap.size w w' := by
  go_enter Tryd.func69, Tryd.ntmps69
  go_wp2_with fail
  refine (isNum_ok A hA.out _).mono ?_
  rintro e w1 ⟨rfl, rfl⟩
  go_wp2_with fail
  refine (isNum_ok 0 ⟨by omega, by omega⟩ _).mono ?_
  rintro e w1 ⟨rfl, rfl⟩
  go_wp2_with fail
  refine (HX.out _ ((Below.refl _ _).alloc (Nat.le_refl _) _)).mono ?_
  rintro e w1 ⟨rfl, rfl⟩
  go_wp2
  go_ret
  exact ⟨rfl, (Below.refl _ _).alloc (Nat.le_refl _) _⟩
theorem fits_ok (k op A B : Int) (o : Option Addr) (xs : List Int) (hc : fitC k A B xs) (w : World) (h : LI w o xs) : Calls Tryd.prog 69 #[.int .i64 k, .agg #[.int .u8 op, .int .i64 A, .int .i64 B, .slice o xs.length xs.length]] w fun r w' => r = .returned (.bool true) ∧ Below w.heap.size w w' := by
  rcases hc with ⟨rfl, rfl, rfl, rfl⟩ | ⟨rfl, hA, rfl, rfl⟩ | ⟨rfl, hA, rfl, rfl⟩ | ⟨rfl, hA, rfl, h16, hx⟩ | ⟨rfl, hA, rfl, rfl⟩ | ⟨rfl, hA, hB, rfl⟩ | ⟨rfl, rfl, rfl, rfl⟩ | ⟨rfl, h0, h1, rfl, rfl⟩ | ⟨rfl, rfl, rfl⟩
  · exact fits_1 op o w
  · exact fits_2 op A o (fun w => by rw [← hA]; exact isKB_any A w) w
  · exact fits_3 op A o hA w
  · exact fits_4 op A o hA xs.length w (fun w' hb => nums_ok o xs xs.length rfl h16 hx w' (h.below hb))
  · exact fits_5 op A o hA w
  · exact fits_6 op A B o hA hB w
  · exact fits_7 op o w
  · exact fits_8 op A o (decide_eq_true h0) (decide_eq_true h1) w
  · exact fits_9 op A o w
theorem fitC_range {k A B : Int} {xs : List Int} (h : fitC k A B xs) : 1 ≤ k ∧ k ≤ 9 ∧ xs.length ≤ 16 := by
  rcases h with ⟨rfl, _, _, rfl⟩ | ⟨rfl, _, _, rfl⟩ | ⟨rfl, _, _, rfl⟩ | ⟨rfl, _, _, h, _⟩ | ⟨rfl, _, _, rfl⟩ | ⟨rfl, _, _, rfl⟩ | ⟨rfl, _, _, rfl⟩ | ⟨rfl, _, _, _, rfl⟩ | ⟨rfl, _, rfl⟩ <;> simp
  exact h
set_option maxHeartbeats 2000000 in
set_option maxRecDepth 1000000 in
theorem check_core (op A B k : Int) (o : Option Addr) (n : Nat) (_hn : n ≤ 16) (_hk : (k == 0) = false) (w : World)
    (HB : Hid (∀ w', Below w.heap.size w w' → Calls Tryd.prog 68 #[.int .u8 op] w' fun r w'' => r = .returned (.int .i64 k) ∧ Below w'.heap.size w' w''))
    (HF : Hid (∀ w', Below w.heap.size w w' → Calls Tryd.prog 69 #[.int .i64 k, .agg #[.int .u8 op, .int .i64 A, .int .i64 B, .slice o n n]] w' fun r w'' => r = .returned (.bool true) ∧ Below w'.heap.size w' w'')) :
    Calls Tryd.prog 45 #[.agg #[.int .u8 op, .int .i64 A, .int .i64 B, .slice o n n]] w fun r w' => r = .returned (.int .i64 0) ∧ Below w.heap.size w w' := by
  go_enter Tryd.func45, Tryd.ntmps45
  go_wp2_with fail
  refine (HB.out _ ((Below.refl _ _).alloc (Nat.le_refl _) _)).mono ?_
  rintro e w1 ⟨rfl, b1⟩
  have xX : XS w1 w.heap.size (.int .u8 op) (.int .i64 A) (.int .i64 B) (.slice o n n) := by
    unfold XS
    rw [b1.block w.heap.size (by simp)]
    exact new_block _ _
  obtain ⟨x0, x1, x2, x3⟩ := xX.cell
  have HB1 : Hid (Below w.heap.size w w1) := ((Below.refl _ _).alloc (Nat.le_refl _) _).trans (b1.mono (by simp))
  clear xX b1
  go_wp2_with fail
  refine (HF.out _ HB1.out).mono ?_
  rintro e w2 ⟨rfl, b2⟩
  go_wp2
  go_ret
  exact ⟨rfl, HB1.out.trans (b2.mono HB1.out.size)⟩
theorem check_ok (op A B : Int) (o : Option Addr) (xs : List Int) (h0 : 0 ≤ op) (h1 : op ≤ 255) (hc : fitC (besV op) A B xs) (w : World) (h : LI w o xs) (hT : TabIn w) (ht0 : 1 < w.heap.size) :
    Calls Tryd.prog 45 #[.agg #[.int .u8 op, .int .i64 A, .int .i64 B, .slice o xs.length xs.length]] w fun r w' => r = .returned (.int .i64 0) ∧ Below w.heap.size w w' := by
  have hr := fitC_range hc
  exact check_core op A B (besV op) o xs.length hr.2.2 (by rw [beq_eq_false_iff_ne]; omega) w (fun w' hb => bes_any op h0 h1 w' (hT.chg (P := w.heap.size) (Chg.of_below hb) ht0 (by omega))) (fun w' hb => fits_ok (besV op) op A B o xs hc w' (h.below hb))
end Go.Proofs.YtmbficofcmfmlaaDoor
namespace Go.Proofs.YtmbficofcmfmlaaDoor
open Go.RowKit

theorem chr_conv (w : World) (n : Int) : (convert 59 9 (.slice (some ⟨w.heap.size, 0, none⟩) 1 1)).run Tryd.prog (w.alloc (.cells #[.int .u8 n] 5)) = .ok (.string (strOfNums [n])) (w.alloc (.cells #[.int .u8 n] 5)) := by
  refine run_convert_bytes_arg _ 59 5 Tryd.underlying59 Tryd.underlying5 w.heap.size 0 1 1 [n] rfl ?_ 9 Tryd.underlying9
  intro i hi
  have : i = 0 := by omega
  subst this
  rw [World.cell?_alloc_at _ _ _ _ rfl]
  rfl
set_option maxHeartbeats 4000000 in
set_option maxRecDepth 1000000 in
theorem oneByte_any (n : Int) (w : World) :
    Calls Tryd.prog 46 #[.int .u8 n] w fun e w' => e = .returned (.string (strOfNums [n])) ∧ Below w.heap.size w w' := by
  have hc := chr_conv w n
  go_enter Tryd.func46, Tryd.ntmps46
  go_wp2
  go_ret
  exact ⟨rfl, (Below.refl _ _).alloc (Nat.le_refl _) _⟩
set_option maxHeartbeats 4000000 in
set_option maxRecDepth 1000000 in
theorem numText_any (n : Int) (h : isNum n) (w : World) :
    Calls Tryd.prog 70 #[.int .i64 n] w fun e w' => e = .returned (.string (strOfNums (uB n.toNat))) ∧ Below w.heap.size w w' := by
  obtain ⟨h0, h1⟩ := h
  have HU : Hid (∀ w, Calls Tryd.prog 94 #[.int .u64 n] w fun e w' => e = .returned (.string (strOfNums (uB n.toNat))) ∧ Below w.heap.size w w') := fun w => by
    have := u_any n.toNat (by omega) w
    rw [Int.toNat_of_nonneg h0] at this
    exact this
  go_enter Tryd.func70, Tryd.ntmps70
  go_wp2_with fail
  refine (HU.out _).mono ?_
  rintro e w1 ⟨rfl, b⟩
  go_wp2
  go_ret
  exact ⟨rfl, b⟩
set_option maxHeartbeats 4000000 in
set_option maxRecDepth 1000000 in
theorem text_1 (op A B : Int) (o : Option Addr) (n : Nat) (w : World) (HB : Hid (∀ w', Below w.heap.size w w' → Calls Tryd.prog 68 #[.int .u8 op] w' fun r w'' => r = .returned (.int .i64 1) ∧ Below w'.heap.size w' w'')) :
    Calls Tryd.prog 47 #[.agg #[.int .u8 op, .int .i64 A, .int .i64 B, .slice o n n]] w fun r w' => r = .returned (.string ⟨#[]⟩) ∧ Below w.heap.size w w' := by
  go_enter Tryd.func47, Tryd.ntmps47
  go_wp2_with fail
  refine (HB.out _ ((Below.refl _ _).alloc (Nat.le_refl _) _)).mono ?_
  rintro e w1 ⟨rfl, b1⟩
  have xX : XS w1 w.heap.size (.int .u8 op) (.int .i64 A) (.int .i64 B) (.slice o n n) := by
    unfold XS
    rw [b1.block w.heap.size (by simp)]
    exact new_block _ _
  obtain ⟨x0, x1, x2, x3⟩ := xX.cell
  have HB1 : Hid (Below w.heap.size w w1) := ((Below.refl _ _).alloc (Nat.le_refl _) _).trans (b1.mono (by simp))
  have hXs := xX.lt
  clear b1
  go_wp2
  go_ret
  exact ⟨rfl, HB1.out⟩
set_option maxHeartbeats 4000000 in
set_option maxRecDepth 1000000 in
theorem text_7 (op A B : Int) (o : Option Addr) (n : Nat) (w : World) (HB : Hid (∀ w', Below w.heap.size w w' → Calls Tryd.prog 68 #[.int .u8 op] w' fun r w'' => r = .returned (.int .i64 7) ∧ Below w'.heap.size w' w'')) :
    Calls Tryd.prog 47 #[.agg #[.int .u8 op, .int .i64 A, .int .i64 B, .slice o n n]] w fun r w' => r = .returned (.string ⟨#[0]⟩) ∧ Below w.heap.size w w' := by
  go_enter Tryd.func47, Tryd.ntmps47
  go_wp2_with fail
  refine (HB.out _ ((Below.refl _ _).alloc (Nat.le_refl _) _)).mono ?_
  rintro e w1 ⟨rfl, b1⟩
  have xX : XS w1 w.heap.size (.int .u8 op) (.int .i64 A) (.int .i64 B) (.slice o n n) := by
    unfold XS
    rw [b1.block w.heap.size (by simp)]
    exact new_block _ _
  obtain ⟨x0, x1, x2, x3⟩ := xX.cell
  have HB1 : Hid (Below w.heap.size w w1) := ((Below.refl _ _).alloc (Nat.le_refl _) _).trans (b1.mono (by simp))
  have hXs := xX.lt
  clear b1
  go_wp2
  go_ret
  exact ⟨rfl, HB1.out⟩
set_option maxHeartbeats 4000000 in
set_option maxRecDepth 1000000 in
theorem text_2 (op A B : Int) (o : Option Addr) (n : Nat) (_a0 : 0 ≤ A) (_a1 : A ≤ 255) (tA : ByteArray) (HA : Hid (∀ w, Calls Tryd.prog 46 #[.int .u8 A] w fun r w' => r = .returned (.string tA) ∧ Below w.heap.size w w')) (w : World) (HB : Hid (∀ w', Below w.heap.size w w' → Calls Tryd.prog 68 #[.int .u8 op] w' fun r w'' => r = .returned (.int .i64 2) ∧ Below w'.heap.size w' w'')) :
    Calls Tryd.prog 47 #[.agg #[.int .u8 op, .int .i64 A, .int .i64 B, .slice o n n]] w fun r w' => r = .returned (.string tA) ∧ Below w.heap.size w w' := by
  go_enter Tryd.func47, Tryd.ntmps47
  go_wp2_with fail
  refine (HB.out _ ((Below.refl _ _).alloc (Nat.le_refl _) _)).mono ?_
  rintro e w1 ⟨rfl, b1⟩
  have xX : XS w1 w.heap.size (.int .u8 op) (.int .i64 A) (.int .i64 B) (.slice o n n) := by
    unfold XS
    rw [b1.block w.heap.size (by simp)]
    exact new_block _ _
  obtain ⟨x0, x1, x2, x3⟩ := xX.cell
  have HB1 : Hid (Below w.heap.size w w1) := ((Below.refl _ _).alloc (Nat.le_refl _) _).trans (b1.mono (by simp))
  have hXs := xX.lt
  clear b1
  go_wp2_with fail
  refine (HA.out _).mono ?_
  rintro e w2 ⟨rfl, b2⟩
  go_wp2
  go_ret
  exact ⟨rfl, HB1.out.trans (b2.mono HB1.out.size)⟩
set_option maxHeartbeats 4000000 in
set_option maxRecDepth 1000000 in
theorem text_3 (op A B : Int) (o : Option Addr) (n : Nat) (tA : ByteArray) (HA : Hid (∀ w, Calls Tryd.prog 70 #[.int .i64 A] w fun r w' => r = .returned (.string tA) ∧ Below w.heap.size w w')) (w : World) (HB : Hid (∀ w', Below w.heap.size w w' → Calls Tryd.prog 68 #[.int .u8 op] w' fun r w'' => r = .returned (.int .i64 3) ∧ Below w'.heap.size w' w'')) :
    Calls Tryd.prog 47 #[.agg #[.int .u8 op, .int .i64 A, .int .i64 B, .slice o n n]] w fun r w' => r = .returned (.string tA) ∧ Below w.heap.size w w' := by
  go_enter Tryd.func47, Tryd.ntmps47
  go_wp2_with fail
  refine (HB.out _ ((Below.refl _ _).alloc (Nat.le_refl _) _)).mono ?_
  rintro e w1 ⟨rfl, b1⟩
  have xX : XS w1 w.heap.size (.int .u8 op) (.int .i64 A) (.int .i64 B) (.slice o n n) := by
    unfold XS
    rw [b1.block w.heap.size (by simp)]
    exact new_block _ _
  obtain ⟨x0, x1, x2, x3⟩ := xX.cell
  have HB1 : Hid (Below w.heap.size w w1) := ((Below.refl _ _).alloc (Nat.le_refl _) _).trans (b1.mono (by simp))
  have hXs := xX.lt
  clear b1
  go_wp2_with fail
  refine (HA.out _).mono ?_
  rintro e w2 ⟨rfl, b2⟩
  go_wp2
  go_ret
  exact ⟨rfl, HB1.out.trans (b2.mono HB1.out.size)⟩
set_option maxHeartbeats 4000000 in
set_option maxRecDepth 1000000 in
theorem text_5 (op A B : Int) (o : Option Addr) (n : Nat) (tA : ByteArray) (HA : Hid (∀ w, Calls Tryd.prog 70 #[.int .i64 A] w fun r w' => r = .returned (.string tA) ∧ Below w.heap.size w w')) (_hz : tA.size + 1 ≤ 9223372036854775807) (w : World) (HB : Hid (∀ w', Below w.heap.size w w' → Calls Tryd.prog 68 #[.int .u8 op] w' fun r w'' => r = .returned (.int .i64 5) ∧ Below w'.heap.size w' w'')) :
    Calls Tryd.prog 47 #[.agg #[.int .u8 op, .int .i64 A, .int .i64 B, .slice o n n]] w fun r w' => r = .returned (.string (tA ++ ⟨#[0]⟩)) ∧ Below w.heap.size w w' := by
  go_enter Tryd.func47, Tryd.ntmps47
  go_wp2_with fail
  refine (HB.out _ ((Below.refl _ _).alloc (Nat.le_refl _) _)).mono ?_
  rintro e w1 ⟨rfl, b1⟩
  have xX : XS w1 w.heap.size (.int .u8 op) (.int .i64 A) (.int .i64 B) (.slice o n n) := by
    unfold XS
    rw [b1.block w.heap.size (by simp)]
    exact new_block _ _
  obtain ⟨x0, x1, x2, x3⟩ := xX.cell
  have HB1 : Hid (Below w.heap.size w w1) := ((Below.refl _ _).alloc (Nat.le_refl _) _).trans (b1.mono (by simp))
  have hXs := xX.lt
  clear b1
  go_wp2_with fail
  refine (HA.out _).mono ?_
  rintro e w2 ⟨rfl, b2⟩
  go_wp2
  go_ret
  exact ⟨rfl, HB1.out.trans (b2.mono HB1.out.size)⟩
set_option maxHeartbeats 4000000 in
set_option maxRecDepth 1000000 in
theorem text_8 (op A B : Int) (o : Option Addr) (n : Nat) (tA : ByteArray) (HA : Hid (∀ w, Calls Tryd.prog 71 #[.int .i64 A] w fun r w' => r = .returned (.string tA) ∧ Below w.heap.size w w')) (w : World) (HB : Hid (∀ w', Below w.heap.size w w' → Calls Tryd.prog 68 #[.int .u8 op] w' fun r w'' => r = .returned (.int .i64 8) ∧ Below w'.heap.size w' w'')) :
    Calls Tryd.prog 47 #[.agg #[.int .u8 op, .int .i64 A, .int .i64 B, .slice o n n]] w fun r w' => r = .returned (.string tA) ∧ Below w.heap.size w w' := by
  go_enter Tryd.func47, Tryd.ntmps47
  go_wp2_with fail
  refine (HB.out _ ((Below.refl _ _).alloc (Nat.le_refl _) _)).mono ?_
  rintro e w1 ⟨rfl, b1⟩
  have xX : XS w1 w.heap.size (.int .u8 op) (.int .i64 A) (.int .i64 B) (.slice o n n) := by
    unfold XS
    rw [b1.block w.heap.size (by simp)]
    exact new_block _ _
  obtain ⟨x0, x1, x2, x3⟩ := xX.cell
  have HB1 : Hid (Below w.heap.size w w1) := ((Below.refl _ _).alloc (Nat.le_refl _) _).trans (b1.mono (by simp))
  have hXs := xX.lt
  clear b1
  go_wp2_with fail
  refine (HA.out _).mono ?_
  rintro e w2 ⟨rfl, b2⟩
  go_wp2
  go_ret
  exact ⟨rfl, HB1.out.trans (b2.mono HB1.out.size)⟩
set_option maxHeartbeats 4000000 in
set_option maxRecDepth 1000000 in
theorem text_9 (op A B : Int) (o : Option Addr) (n : Nat) (tA : ByteArray) (HA : Hid (∀ w, Calls Tryd.prog 71 #[.int .i64 A] w fun r w' => r = .returned (.string tA) ∧ Below w.heap.size w w')) (w : World) (HB : Hid (∀ w', Below w.heap.size w w' → Calls Tryd.prog 68 #[.int .u8 op] w' fun r w'' => r = .returned (.int .i64 9) ∧ Below w'.heap.size w' w'')) :
    Calls Tryd.prog 47 #[.agg #[.int .u8 op, .int .i64 A, .int .i64 B, .slice o n n]] w fun r w' => r = .returned (.string tA) ∧ Below w.heap.size w w' := by
  go_enter Tryd.func47, Tryd.ntmps47
  go_wp2_with fail
  refine (HB.out _ ((Below.refl _ _).alloc (Nat.le_refl _) _)).mono ?_
  rintro e w1 ⟨rfl, b1⟩
  have xX : XS w1 w.heap.size (.int .u8 op) (.int .i64 A) (.int .i64 B) (.slice o n n) := by
    unfold XS
    rw [b1.block w.heap.size (by simp)]
    exact new_block _ _
  obtain ⟨x0, x1, x2, x3⟩ := xX.cell
  have HB1 : Hid (Below w.heap.size w w1) := ((Below.refl _ _).alloc (Nat.le_refl _) _).trans (b1.mono (by simp))
  have hXs := xX.lt
  clear b1
  go_wp2_with fail
  refine (HA.out _).mono ?_
  rintro e w2 ⟨rfl, b2⟩
  go_wp2
  go_ret
  exact ⟨rfl, HB1.out.trans (b2.mono HB1.out.size)⟩
theorem XS.keep {w w' : World} {X : Nat} {c0 c1 c2 c3 : Value} (h : XS w X c0 c1 c2 c3) (b : Below w.drew.heap.size w.drew w') : XS w' X c0 c1 c2 c3 := by
  have hl := h.lt
  unfold XS at h ⊢
  rw [b.block X hl]
  exact h
set_option maxHeartbeats 4000000 in
set_option maxRecDepth 1000000 in
theorem text_6 (op A B : Int) (o : Option Addr) (n : Nat) (tA : ByteArray) (HA : Hid (∀ w, Calls Tryd.prog 70 #[.int .i64 A] w fun r w' => r = .returned (.string tA) ∧ Below w.heap.size w w')) (tB : ByteArray) (HBB : Hid (∀ w, Calls Tryd.prog 70 #[.int .i64 B] w fun r w' => r = .returned (.string tB) ∧ Below w.heap.size w w')) (_hz : tA.size + tB.size ≤ 9223372036854775807) (w : World) (HB : Hid (∀ w', Below w.heap.size w w' → Calls Tryd.prog 68 #[.int .u8 op] w' fun r w'' => r = .returned (.int .i64 6) ∧ Below w'.heap.size w' w'')) :
    Calls Tryd.prog 47 #[.agg #[.int .u8 op, .int .i64 A, .int .i64 B, .slice o n n]] w fun r w' => r = .returned (.string (tA ++ tB)) ∧ Below w.heap.size w w' := by
  go_enter Tryd.func47, Tryd.ntmps47
  go_wp2_with fail
  refine (HB.out _ ((Below.refl _ _).alloc (Nat.le_refl _) _)).mono ?_
  rintro e w1 ⟨rfl, b1⟩
  have xX : XS w1 w.heap.size (.int .u8 op) (.int .i64 A) (.int .i64 B) (.slice o n n) := by
    unfold XS
    rw [b1.block w.heap.size (by simp)]
    exact new_block _ _
  obtain ⟨x0, x1, x2, x3⟩ := xX.cell
  have HB1 : Hid (Below w.heap.size w w1) := ((Below.refl _ _).alloc (Nat.le_refl _) _).trans (b1.mono (by simp))
  have hXs := xX.lt
  clear b1
  go_wp2_with fail
  go_region_with (first
    | (go_at_call_of 70 (Value.int .i64 A); refine (HA.out _).mono ?_; rintro e w2 ⟨rfl, b2⟩; have xX2 := XS.keep xX b2; obtain ⟨z0, z1, z2, z3⟩ := xX2.cell)
    | (go_at_call_of 70 (Value.int .i64 B); refine (HBB.out _).mono ?_; rintro e w3 ⟨rfl, b3⟩))
  all_goals (go_wp2; go_ret; exact ⟨rfl, (HB1.out.drew.trans (b2.mono HB1.out.size)).trans (b3.mono (Nat.le_trans HB1.out.size b2.size))⟩)
/-- The text of the first k numbers, behind a text. -/
def catK (T : ByteArray) (xs : List Int) : Nat → ByteArray
  | 0 => T
  | k + 1 => catK T xs k ++ strOfNums (uB (xs.getD k 0).toNat)
theorem uB_num (x : Int) (h : isNum x) : (uB x.toNat).length ≤ 10 := by
  have h1 := h.1
  have h2 := h.2
  exact uB_len64 _ (by omega)
theorem catK_size (T : ByteArray) (xs : List Int) (hx : ∀ x ∈ xs, isNum x) : ∀ k, k ≤ xs.length → (catK T xs k).size ≤ T.size + 10 * k
  | 0, _ => by simp [catK]
  | k + 1, h => by
    have ih := catK_size T xs hx k (by omega)
    have hm : xs.getD k 0 ∈ xs := by
      rw [List.getD_eq_getElem?_getD, List.getElem?_eq_getElem (by omega)]
      exact List.getElem_mem _
    have := uB_num _ (hx _ hm)
    rw [catK, ByteArray.size_append, strOfNums_size]
    omega
theorem XS.below {w w' : World} {X : Nat} {c0 c1 c2 c3 : Value} (h : XS w X c0 c1 c2 c3) (b : Below w.heap.size w w') : XS w' X c0 c1 c2 c3 := by
  have hl := h.lt
  unfold XS at h ⊢
  rw [b.block X hl]
  exact h
set_option maxHeartbeats 4000000 in
set_option maxRecDepth 1000000 in
theorem text_4 (op A : Int) (o : Option Addr) (xs : List Int) (n : Nat) (hl : xs.length = n) (hn : n ≤ 16) (hx : ∀ x ∈ xs, isNum x) (hA : isNum A) (w : World) (h : LI w o xs) (HB : Hid (∀ w', Below w.heap.size w w' → Calls Tryd.prog 68 #[.int .u8 op] w' fun r w'' => r = .returned (.int .i64 4) ∧ Below w'.heap.size w' w'')) :
    Calls Tryd.prog 47 #[.agg #[.int .u8 op, .int .i64 A, .int .i64 0, .slice o n n]] w fun r w' => r = .returned (.string (catK (strOfNums (uB n)) xs n ++ strOfNums (uB A.toNat))) ∧ Below w.heap.size w w' := by
  have HL : Hid (xs.length = n) := hl
  have HX : Hid (∀ x ∈ xs, isNum x) := hx
  have HH : Hid (LI w o xs) := h
  have hcs : ∀ k, k ≤ n → (catK (strOfNums (uB n)) xs k).size ≤ 170 := by
    intro k hk
    have h1 := catK_size (strOfNums (uB n)) xs hx k (by omega)
    have h2 := uB_len64 n (by omega)
    rw [strOfNums_size] at h1
    omega
  have HCS : Hid _ := hcs
  have hAs : (strOfNums (uB A.toNat)).size ≤ 10 := by rw [strOfNums_size]; exact uB_num A hA
  have HT0 : Hid (∀ w, Calls Tryd.prog 70 #[.int .i64 (n : Int)] w fun e w' => e = .returned (.string (strOfNums (uB n))) ∧ Below w.heap.size w w') := fun w => by
    have := numText_any (n : Int) ⟨by omega, by omega⟩ w
    rw [Int.toNat_natCast] at this
    exact this
  have HTA : Hid (∀ w, Calls Tryd.prog 70 #[.int .i64 A] w fun e w' => e = .returned (.string (strOfNums (uB A.toNat))) ∧ Below w.heap.size w w') := fun w => numText_any A hA w
  clear hl hx h hcs hA
  obtain ⟨T0, hT0⟩ : ∃ T, strOfNums (uB n) = T := ⟨_, rfl⟩
  obtain ⟨TA, hTA⟩ : ∃ T, strOfNums (uB A.toNat) = T := ⟨_, rfl⟩
  rw [hT0] at HT0 HCS ⊢
  rw [hTA] at HTA hAs ⊢
  clear hT0 hTA
  go_enter Tryd.func47, Tryd.ntmps47
  go_wp2_with fail
  refine (HB.out _ ((Below.refl _ _).alloc (Nat.le_refl _) _)).mono ?_
  rintro e w1 ⟨rfl, b1⟩
  have xX : XS w1 w.heap.size (.int .u8 op) (.int .i64 A) (.int .i64 0) (.slice o n n) := by
    unfold XS
    rw [b1.block w.heap.size (by simp)]
    exact new_block _ _
  obtain ⟨x0, x1, x2, x3⟩ := xX.cell
  have HB1 : Hid (Below w.heap.size w w1) := ((Below.refl _ _).alloc (Nat.le_refl _) _).trans (b1.mono (by simp))
  have hXs := xX.lt
  clear b1
  have HXX : Hid (XS w1 w.heap.size (.int .u8 op) (.int .i64 A) (.int .i64 0) (.slice o n n)) := xX
  clear xX
  go_wp2_with fail
  refine (HT0.out _).mono ?_
  rintro e w2 ⟨rfl, b2⟩
  have xX2 := XS.below HXX.out b2
  obtain ⟨z0, z1, z2, z3⟩ := xX2.cell
  have HXX2 : Hid (type_of% xX2) := xX2
  have HB2 : Hid (Below w.heap.size w w2) := HB1.out.trans (b2.mono HB1.out.size)
  clear xX2 b2 HXX HB1 x0 x1 x2 x3 hXs
  go_wp2
  go_loopw [3, 29] (fun t i wr => ∃ k : Nat, i = .int .i64 k ∧ k ≤ n ∧ t = .string (catK T0 xs k) ∧ Hid (Below w.heap.size w wr) ∧ Hid (XS wr w.heap.size (.int .u8 op) (.int .i64 A) (.int .i64 0) (.slice o n n))) (fun _ i _ => n - (intOf i).toNat)
  case atStart => exact ⟨0, rfl, by omega, rfl, HB2, HXX2⟩
  case round =>
    obtain ⟨k, rfl, hk, rfl, HBk, HXk⟩ := hrel
    clear z0 z1 z2 z3 HXX2 HB2
    have hck := HCS.out k hk
    by_cases hlt : k < n
    · rcases (HH.out.below HBk.out) with h0 | ⟨g, rfl, _, hc⟩
      · exfalso
        have := HL.out
        rw [h0] at this
        simp at this
        omega
      have hcell := hc k (by rw [HL.out]; exact hlt)
      have hmem : xs.getD k 0 ∈ xs := by
        rw [List.getD_eq_getElem?_getD, List.getElem?_eq_getElem (by rw [HL.out]; exact hlt)]
        exact List.getElem_mem _
      have HN : Hid (∀ w, Calls Tryd.prog 70 #[.int .i64 (xs.getD k 0)] w fun e w' => e = .returned (.string (strOfNums (uB (xs.getD k 0).toNat))) ∧ Below w.heap.size w w') := fun w => numText_any (xs.getD k 0) (HX.out _ hmem) w
      have hsz : (strOfNums (uB (xs.getD k 0).toNat)).size ≤ 10 := by rw [strOfNums_size]; exact uB_num _ (HX.out _ hmem)
      have HCK : Hid (catK T0 xs (k + 1) = catK T0 xs k ++ strOfNums (uB (xs.getD k 0).toNat)) := rfl
      generalize xs.getD k 0 = x at hcell HN hsz HCK
      generalize strOfNums (uB x.toNat) = tx at HN hsz HCK
      generalize catK T0 xs k = tk at hck HCK ⊢
      have hadd : tk.size + tx.size ≤ 9223372036854775807 := by omega
      clear hc hmem
      have hki0 : (0 : Int) ≤ (k : Int) := by omega
      have hki1 : (k : Int) < (n : Int) := by omega
      go_wp2_with fail
      refine (HN.out _).mono ?_
      rintro e w3 ⟨rfl, b3⟩
      have HB3 : Hid (Below w.heap.size w w3) := HBk.out.trans (b3.mono HBk.out.size)
      have HX3 : Hid (type_of% (XS.below HXk.out b3)) := XS.below HXk.out b3
      clear b3
      go_wp2
      all_goals first
        | (exfalso; omega)
        | skip
      go_roundw
      case rel => exact ⟨k + 1, by go_num, by omega, by rw [HCK.out], HB3, HX3⟩
      case measure => simp [intOf]; omega
    · have hkn : k = n := by omega
      subst hkn
      have hadd : (catK T0 xs k).size + TA.size ≤ 9223372036854775807 := by omega
      obtain ⟨tk, htk⟩ : ∃ t, catK T0 xs k = t := ⟨_, rfl⟩
      have HTK : Hid (catK T0 xs k = tk) := htk
      rw [htk] at hadd hck ⊢
      clear htk
      obtain ⟨z0, z1, z2, z3⟩ := XS.cell HXk.out
      go_wp2_with fail
      refine (HTA.out _).mono ?_
      rintro e w3 ⟨rfl, b3⟩
      go_wp2
      all_goals first
        | (exfalso; omega)
        | skip
      go_ret
      exact ⟨by rw [HTK.out]; rfl, HBk.out.trans (b3.mono HBk.out.size)⟩
/-- The bytes that stand beside an instruction. -/
def besT (k A B : Int) (xs : List Int) : List Int :=
  if k = 2 then [A] else if k = 3 then uB A.toNat else if k = 4 then uB xs.length ++ (xs.flatMap fun x => uB x.toNat) ++ uB A.toNat else if k = 5 then uB A.toNat ++ [0] else if k = 6 then uB A.toNat ++ uB B.toNat else if k = 7 then [0] else if k = 8 ∨ k = 9 then sB A else []
theorem nums_u (n : Nat) : nums (strOfNums (uB n)) = uB n := nums_str (uB_byte n)
theorem nums_catK (T : ByteArray) (xs : List Int) : ∀ k, k ≤ xs.length → nums (catK T xs k) = nums T ++ (xs.take k).flatMap fun x => uB x.toNat
  | 0, _ => by simp [catK]
  | k + 1, h => by
    rw [catK, nums_append, nums_catK T xs k (by omega), nums_u, List.take_succ_eq_append_getElem (by omega), List.flatMap_append, List.append_assoc, List.getD_eq_getElem?_getD, List.getElem?_eq_getElem (by omega)]
    simp
theorem nums_nil : nums ⟨#[]⟩ = [] := rfl
theorem nums_zero : nums ⟨#[0]⟩ = [0] := rfl
theorem isKB_range {A : Int} (h : isKB A = true) : 0 ≤ A ∧ A ≤ 255 := by
  unfold isKB at h
  simp only [Bool.or_eq_true, beq_iff_eq] at h
  omega
theorem text_ok (op A B : Int) (o : Option Addr) (xs : List Int) (h0 : 0 ≤ op) (h1 : op ≤ 255) (hc : fitC (besV op) A B xs) (hA : -9223372036854775808 ≤ A ∧ A ≤ 9223372036854775807) (w : World) (h : LI w o xs) (hT : TabIn w) (ht0 : 1 < w.heap.size) :
    Calls Tryd.prog 47 #[.agg #[.int .u8 op, .int .i64 A, .int .i64 B, .slice o xs.length xs.length]] w fun r w' => ∃ t, r = .returned (.string t) ∧ nums t = besT (besV op) A B xs ∧ Below w.heap.size w w' := by
  have hB : ∀ w', Below w.heap.size w w' → Calls Tryd.prog 68 #[.int .u8 op] w' fun r w'' => r = .returned (.int .i64 (besV op)) ∧ Below w'.heap.size w' w'' := fun w' hb => bes_any op h0 h1 w' (hT.chg (P := w.heap.size) (Chg.of_below hb) ht0 (by omega))
  generalize besV op = k at hc hB ⊢
  rcases hc with ⟨rfl, rfl, rfl, rfl⟩ | ⟨rfl, hK, rfl, rfl⟩ | ⟨rfl, hN, rfl, rfl⟩ | ⟨rfl, hN, rfl, h16, hx⟩ | ⟨rfl, hN, rfl, rfl⟩ | ⟨rfl, hN, hM, rfl⟩ | ⟨rfl, rfl, rfl, rfl⟩ | ⟨rfl, _, _, rfl, rfl⟩ | ⟨rfl, rfl, rfl⟩
  · refine (text_1 op 0 0 o 0 w hB).mono ?_
    rintro r w1 ⟨rfl, b⟩
    exact ⟨_, rfl, rfl, b⟩
  · have hr := isKB_range hK
    refine (text_2 op A 0 o 0 hr.1 hr.2 _ (fun w => oneByte_any A w) w hB).mono ?_
    rintro r w1 ⟨rfl, b⟩
    exact ⟨_, rfl, nums_str (by intro b hb; simp at hb; subst hb; omega), b⟩
  · refine (text_3 op A 0 o 0 _ (fun w => numText_any A hN w) w hB).mono ?_
    rintro r w1 ⟨rfl, b⟩
    exact ⟨_, rfl, nums_u _, b⟩
  · refine (text_4 op A o xs xs.length rfl h16 hx hN w h hB).mono ?_
    rintro r w1 ⟨rfl, b⟩
    refine ⟨_, rfl, ?_, b⟩
    rw [nums_append, nums_u, nums_catK _ _ _ (Nat.le_refl _), nums_u, List.take_length]
    rfl
  · have hs := uB_num A hN
    refine (text_5 op A 0 o 0 _ (fun w => numText_any A hN w) (by rw [strOfNums_size]; omega) w hB).mono ?_
    rintro r w1 ⟨rfl, b⟩
    exact ⟨_, rfl, by rw [nums_append, nums_u, nums_zero]; rfl, b⟩
  · have hs := uB_num A hN
    have hs2 := uB_num B hM
    refine (text_6 op A B o 0 _ (fun w => numText_any A hN w) _ (fun w => numText_any B hM w) (by rw [strOfNums_size, strOfNums_size]; omega) w hB).mono ?_
    rintro r w1 ⟨rfl, b⟩
    exact ⟨_, rfl, by rw [nums_append, nums_u, nums_u]; rfl, b⟩
  · refine (text_7 op 0 0 o 0 w hB).mono ?_
    rintro r w1 ⟨rfl, b⟩
    exact ⟨_, rfl, rfl, b⟩
  · refine (text_8 op A 0 o 0 _ (fun w => s_any A hA.1 hA.2 w) w hB).mono ?_
    rintro r w1 ⟨rfl, b⟩
    exact ⟨_, rfl, nums_str (sB_byte A), b⟩
  · refine (text_9 op A 0 o 0 _ (fun w => s_any A hA.1 hA.2 w) w hB).mono ?_
    rintro r w1 ⟨rfl, b⟩
    exact ⟨_, rfl, nums_str (sB_byte A), b⟩
set_option maxHeartbeats 4000000 in
set_option maxRecDepth 1000000 in
theorem write_core (op A B : Int) (o : Option Addr) (n N : Nat) (L : List Int) (_hN : N ≤ 1000) (w : World)
    (HC : Hid (∀ w', Below w.heap.size w w' → Calls Tryd.prog 45 #[.agg #[.int .u8 op, .int .i64 A, .int .i64 B, .slice o n n]] w' fun r w'' => r = .returned (.int .i64 0) ∧ Below w'.heap.size w' w''))
    (HT : Hid (∀ w', Below w.heap.size w w' → Calls Tryd.prog 47 #[.agg #[.int .u8 op, .int .i64 A, .int .i64 B, .slice o n n]] w' fun r w'' => ∃ t, r = .returned (.string t) ∧ (nums t = L ∧ t.size = N) ∧ Below w'.heap.size w' w'')) :
    Calls Tryd.prog 29 #[.agg #[.int .u8 op, .int .i64 A, .int .i64 B, .slice o n n]] w fun r w' => ∃ t, r = .returned (.tuple #[.string (strOfNums [op] ++ t), .int .i64 0]) ∧ nums t = L ∧ Below w.heap.size w w' := by
  have hso : (strOfNums [op]).size = 1 := rfl
  have HO : Hid (∀ w, Calls Tryd.prog 46 #[.int .u8 op] w fun e w' => e = .returned (.string (strOfNums [op])) ∧ Below w.heap.size w w') := fun w => oneByte_any op w
  generalize strOfNums [op] = T0 at hso HO ⊢
  go_enter Tryd.func29, Tryd.ntmps29
  go_wp2_with fail
  refine (HC.out _ ((Below.refl _ _).alloc (Nat.le_refl _) _)).mono ?_
  rintro e w1 ⟨rfl, b1⟩
  have xX : XS w1 w.heap.size (.int .u8 op) (.int .i64 A) (.int .i64 B) (.slice o n n) := by
    unfold XS
    rw [b1.block w.heap.size (by simp)]
    exact new_block _ _
  obtain ⟨x0, x1, x2, x3⟩ := xX.cell
  have HB1 : Hid (Below w.heap.size w w1) := ((Below.refl _ _).alloc (Nat.le_refl _) _).trans (b1.mono (by simp))
  clear b1
  go_wp2_with fail
  go_region_with (first
    | (go_at_call_of 46 (Value.int .u8 op); refine (HO.out _).mono ?_; rintro e w2 ⟨rfl, b2⟩; have xX2 := XS.keep xX b2; obtain ⟨z0, z1, z2, z3⟩ := xX2.cell)
    | (go_at_call_of 47 (Value.agg #[.int .u8 op, .int .i64 A, .int .i64 B, .slice o n n] : Value); refine (HT.out _ (HB1.out.drew.trans (b2.mono HB1.out.size))).mono ?_; rintro e w3 ⟨t, rfl, ⟨ht, hts⟩, b3⟩))
  all_goals (go_wp2; go_ret2; exact ⟨t, rfl, ht, (HB1.out.drew.trans (b2.mono HB1.out.size)).trans (b3.mono (Nat.le_trans HB1.out.size b2.size))⟩)
end Go.Proofs.YtmbficofcmfmlaaDoor
