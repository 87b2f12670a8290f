/-
  What the program's own fits and Check say of what is well.
  What the program's own besideText and Write make of what is well.
-/
import Derived.Test.YtkceplamaocmmaaDoorInsR5
import Derived.Test.YtkceplamaocmmaaDoorGLeb
import Derived.Laws.Concat
import Derived.Deep.RegionWith
namespace Go.Proofs.YtkceplamaocmmaaDoor
open Go.RowKit

/-- A list of numbers that can be read in the world. -/
def LI (w : World) (o : Option Addr) (xs : List Int) : Prop := xs = [] ∨ ∃ g, o = some ⟨g, 0, none⟩ ∧ g < w.heap.size ∧ ∀ i, i < xs.length → w.cell? ⟨g, i, none⟩ = some (.int .i64 (xs.getD i 0))
theorem LI.below {w w' : World} {o : Option Addr} {xs : List Int} (h : LI w o xs) (hb : Below w.heap.size w w') : LI w' o xs := by
  rcases h with h | ⟨g, h1, h2, h3⟩
  · exact Or.inl h
  · exact Or.inr ⟨g, h1, Nat.lt_of_lt_of_le h2 hb.size, fun i hi => by rw [hb.cell (p := ⟨g, i, none⟩) h2]; exact h3 i hi⟩
theorem IsI.li {w : World} {B : Nat} {v : Value} {xs : List Int} (h : IsI w B v xs) : ∃ o, v = .slice o xs.length xs.length ∧ LI w o xs := by
  rcases h with ⟨rfl, rfl⟩ | ⟨g, rfl, ho⟩
  · exact ⟨none, rfl, Or.inl rfl⟩
  · refine ⟨_, rfl, Or.inr ⟨g, rfl, (ho.lt g rfl).2, fun i hi => ?_⟩⟩
    rw [ho.cellAt i (by omega), List.getElem?_map, List.getElem?_eq_getElem hi, List.getD_eq_getElem?_getD, List.getElem?_eq_getElem hi]
    rfl
/-- A number that stands without a sign. -/
def isNum (n : Int) : Prop := 0 ≤ n ∧ n ≤ 4294967295
set_option maxHeartbeats 2000000 in
set_option maxRecDepth 1000000 in
theorem isNum_ok (n : Int) (h : isNum n) (w : World) : Calls Tryd.prog 41 #[.int .i64 n] w fun r w' => r = .returned (.bool true) ∧ w' = w := by
  obtain ⟨h0, h1⟩ := h
  have e0 : decide (0 ≤ n) = true := decide_eq_true h0
  have e1 : decide (n ≤ 4294967295) = true := decide_eq_true h1
  go_enter Tryd.func41, Tryd.ntmps41
  go_wp2
  go_ret
  exact ⟨rfl, rfl⟩
set_option maxHeartbeats 2000000 in
set_option maxRecDepth 1000000 in
theorem nums_ok (o : Option Addr) (xs : List Int) (n : Nat) (hl : xs.length = n) (hn : n ≤ 16) (hx : ∀ x ∈ xs, isNum x) (w : World) (h : LI w o xs) : Calls Tryd.prog 42 #[.slice o n n] w fun r w' => r = .returned (.bool true) ∧ w' = w := by
  have HL : Hid (xs.length = n) := hl
  have HX : Hid (∀ x ∈ xs, isNum x) := hx
  have HH : Hid (LI w o xs) := h
  clear hl hx h
  go_enter Tryd.func42, Tryd.ntmps42
  go_wp2
  go_loop [7] (fun i => ∃ k : Nat, i = .int .i64 k ∧ k ≤ n) (fun i => n - (intOf i).toNat)
  case atStart => exact ⟨0, rfl, by omega⟩
  case round =>
    obtain ⟨k, rfl, hk⟩ := hrel
    by_cases hlt : k < n
    · rcases HH.out with h0 | ⟨g, rfl, _, hc⟩
      · exfalso
        have := HL.out
        rw [h0] at this
        simp at this
        omega
      have hcell := hc k (by rw [HL.out]; exact hlt)
      have hmem : xs.getD k 0 ∈ xs := by
        rw [List.getD_eq_getElem?_getD, List.getElem?_eq_getElem (by rw [HL.out]; exact hlt)]
        exact List.getElem_mem _
      have HN := isNum_ok (xs.getD k 0) (HX.out _ hmem)
      generalize xs.getD k 0 = x at hcell HN
      have HNN : Hid (∀ w, Calls Tryd.prog 41 #[.int .i64 x] w fun r w' => r = .returned (.bool true) ∧ w' = w) := HN
      clear HN hc hmem
      have hki0 : (0 : Int) ≤ (k : Int) := by omega
      have hki1 : (k : Int) < (n : Int) := by omega
      go_wp2_with fail
      refine (HNN.out _).mono ?_
      rintro e w1 ⟨rfl, rfl⟩
      go_wp2
      go_round
      case rel => exact ⟨k + 1, by go_num, by omega⟩
      case measure => simp [intOf]; omega
    · go_wp2
      go_ret
      exact ⟨rfl, rfl⟩
/-- What is asked of what stands beside an instruction. -/
def fitC (k A B : Int) (xs : List Int) : Prop :=
  (k = 1 ∧ A = 0 ∧ B = 0 ∧ xs = []) ∨ (k = 2 ∧ isKB A = true ∧ B = 0 ∧ xs = []) ∨ (k = 3 ∧ isNum A ∧ B = 0 ∧ xs = []) ∨ (k = 4 ∧ isNum A ∧ B = 0 ∧ xs.length ≤ 16 ∧ ∀ x ∈ xs, isNum x) ∨ (k = 5 ∧ isNum A ∧ B = 0 ∧ xs = []) ∨ (k = 6 ∧ isNum A ∧ isNum B ∧ xs = []) ∨ (k = 7 ∧ A = 0 ∧ B = 0 ∧ xs = []) ∨ (k = 8 ∧ -2147483648 ≤ A ∧ A ≤ 2147483647 ∧ B = 0 ∧ xs = []) ∨ (k = 9 ∧ B = 0 ∧ xs = [])
set_option maxHeartbeats 2000000 in
set_option maxRecDepth 1000000 in
theorem fits_1 (op : Int) (o : Option Addr) (w : World) : Calls Tryd.prog 26 #[.int .i64 1, .agg #[.int .u8 op, .int .i64 0, .int .i64 0, .slice o 0 0]] w fun r w' => r = .returned (.bool true) ∧ Below w.heap.size w w' := by
  go_enter Tryd.func26, Tryd.ntmps26
  go_wp2
  go_ret
  exact ⟨rfl, (Below.refl _ _).alloc (Nat.le_refl _) _⟩
set_option maxHeartbeats 2000000 in
set_option maxRecDepth 1000000 in
theorem fits_7 (op : Int) (o : Option Addr) (w : World) : Calls Tryd.prog 26 #[.int .i64 7, .agg #[.int .u8 op, .int .i64 0, .int .i64 0, .slice o 0 0]] w fun r w' => r = .returned (.bool true) ∧ Below w.heap.size w w' := by
  go_enter Tryd.func26, Tryd.ntmps26
  go_wp2
  go_ret
  exact ⟨rfl, (Below.refl _ _).alloc (Nat.le_refl _) _⟩
set_option maxHeartbeats 2000000 in
set_option maxRecDepth 1000000 in
theorem fits_9 (op A : Int) (o : Option Addr) (w : World) : Calls Tryd.prog 26 #[.int .i64 9, .agg #[.int .u8 op, .int .i64 A, .int .i64 0, .slice o 0 0]] w fun r w' => r = .returned (.bool true) ∧ Below w.heap.size w w' := by
  go_enter Tryd.func26, Tryd.ntmps26
  go_wp2
  go_ret
  exact ⟨rfl, (Below.refl _ _).alloc (Nat.le_refl _) _⟩
set_option maxHeartbeats 2000000 in
set_option maxRecDepth 1000000 in
theorem fits_8 (op A : Int) (o : Option Addr) (_h0 : decide (-2147483648 ≤ A) = true) (_h1 : decide (A ≤ 2147483647) = true) (w : World) : Calls Tryd.prog 26 #[.int .i64 8, .agg #[.int .u8 op, .int .i64 A, .int .i64 0, .slice o 0 0]] w fun r w' => r = .returned (.bool true) ∧ Below w.heap.size w w' := by
  go_enter Tryd.func26, Tryd.ntmps26
  go_wp2
  go_ret
  exact ⟨rfl, (Below.refl _ _).alloc (Nat.le_refl _) _⟩
set_option maxHeartbeats 2000000 in
set_option maxRecDepth 1000000 in
theorem fits_2 (op A : Int) (o : Option Addr) (HK : Hid (∀ w, Calls Tryd.prog 40 #[.int .i64 A] w fun r w' => r = .returned (.bool true) ∧ w' = w)) (w : World) : Calls Tryd.prog 26 #[.int .i64 2, .agg #[.int .u8 op, .int .i64 A, .int .i64 0, .slice o 0 0]] w fun r w' => r = .returned (.bool true) ∧ Below w.heap.size w w' := by
  go_enter Tryd.func26, Tryd.ntmps26
  go_wp2_with fail
  refine (HK.out _).mono ?_
  rintro e w1 ⟨rfl, rfl⟩
  go_wp2
  go_ret
  exact ⟨rfl, (Below.refl _ _).alloc (Nat.le_refl _) _⟩
set_option maxHeartbeats 2000000 in
set_option maxRecDepth 1000000 in
theorem fits_3 (op A : Int) (o : Option Addr) (hA : Hid (isNum A)) (w : World) : Calls Tryd.prog 26 #[.int .i64 3, .agg #[.int .u8 op, .int .i64 A, .int .i64 0, .slice o 0 0]] w fun r w' => r = .returned (.bool true) ∧ Below w.heap.size w w' := by
  go_enter Tryd.func26, Tryd.ntmps26
  go_wp2_with fail
  refine (isNum_ok A hA.out _).mono ?_
  rintro e w1 ⟨rfl, rfl⟩
  go_wp2_with fail
  refine (isNum_ok 0 ⟨by omega, by omega⟩ _).mono ?_
  rintro e w1 ⟨rfl, rfl⟩
  go_wp2_with fail
  refine (nums_ok o [] 0 rfl (by omega) (by intro x hx; cases hx) _ (Or.inl rfl)).mono ?_
  rintro e w1 ⟨rfl, rfl⟩
  go_wp2
  go_ret
  exact ⟨rfl, (Below.refl _ _).alloc (Nat.le_refl _) _⟩
set_option maxHeartbeats 2000000 in
set_option maxRecDepth 1000000 in
theorem fits_5 (op A : Int) (o : Option Addr) (hA : Hid (isNum A)) (w : World) : Calls Tryd.prog 26 #[.int .i64 5, .agg #[.int .u8 op, .int .i64 A, .int .i64 0, .slice o 0 0]] w fun r w' => r = .returned (.bool true) ∧ Below w.heap.size w w' := by
  go_enter Tryd.func26, Tryd.ntmps26
  go_wp2_with fail
  refine (isNum_ok A hA.out _).mono ?_
  rintro e w1 ⟨rfl, rfl⟩
  go_wp2_with fail
  refine (isNum_ok 0 ⟨by omega, by omega⟩ _).mono ?_
  rintro e w1 ⟨rfl, rfl⟩
  go_wp2_with fail
  refine (nums_ok o [] 0 rfl (by omega) (by intro x hx; cases hx) _ (Or.inl rfl)).mono ?_
  rintro e w1 ⟨rfl, rfl⟩
  go_wp2
  go_ret
  exact ⟨rfl, (Below.refl _ _).alloc (Nat.le_refl _) _⟩
set_option maxHeartbeats 2000000 in
set_option maxRecDepth 1000000 in
theorem fits_6 (op A B : Int) (o : Option Addr) (hA : Hid (isNum A)) (hB : Hid (isNum B)) (w : World) : Calls Tryd.prog 26 #[.int .i64 6, .agg #[.int .u8 op, .int .i64 A, .int .i64 B, .slice o 0 0]] w fun r w' => r = .returned (.bool true) ∧ Below w.heap.size w w' := by
  go_enter Tryd.func26, Tryd.ntmps26
  go_wp2_with fail
  refine (isNum_ok A hA.out _).mono ?_
  rintro e w1 ⟨rfl, rfl⟩
  go_wp2_with fail
  refine (isNum_ok B hB.out _).mono ?_
  rintro e w1 ⟨rfl, rfl⟩
  go_wp2_with fail
  refine (nums_ok o [] 0 rfl (by omega) (by intro x hx; cases hx) _ (Or.inl rfl)).mono ?_
  rintro e w1 ⟨rfl, rfl⟩
  go_wp2
  go_ret
  exact ⟨rfl, (Below.refl _ _).alloc (Nat.le_refl _) _⟩
set_option maxHeartbeats 2000000 in
set_option maxRecDepth 1000000 in
theorem fits_4 (op A : Int) (o : Option Addr) (hA : Hid (isNum A)) (n : Nat) (w : World) (HX : Hid (∀ w', Below w.heap.size w w' → Calls Tryd.prog 42 #[.slice o n n] w' fun r w'' => r = .returned (.bool true) ∧ w'' = w')) : Calls Tryd.prog 26 #[.int .i64 4, .agg #[.int .u8 op, .int .i64 A, .int .i64 0, .slice o n n]] w fun r w' => r = .returned (.bool true) ∧ Below w.heap.size w w' := by
  go_enter Tryd.func26, Tryd.ntmps26
  go_wp2_with fail
  refine (isNum_ok A hA.out _).mono ?_
  rintro e w1 ⟨rfl, rfl⟩
  go_wp2_with fail
  refine (isNum_ok 0 ⟨by omega, by omega⟩ _).mono ?_
  rintro e w1 ⟨rfl, rfl⟩
  go_wp2_with fail
  refine (HX.out _ ((Below.refl _ _).alloc (Nat.le_refl _) _)).mono ?_
  rintro e w1 ⟨rfl, rfl⟩
  go_wp2
  go_ret
  exact ⟨rfl, (Below.refl _ _).alloc (Nat.le_refl _) _⟩
theorem fits_ok (k op A B : Int) (o : Option Addr) (xs : List Int) (hc : fitC k A B xs) (w : World) (h : LI w o xs) : Calls Tryd.prog 26 #[.int .i64 k, .agg #[.int .u8 op, .int .i64 A, .int .i64 B, .slice o xs.length xs.length]] w fun r w' => r = .returned (.bool true) ∧ Below w.heap.size w w' := by
  rcases hc with ⟨rfl, rfl, rfl, rfl⟩ | ⟨rfl, hA, rfl, rfl⟩ | ⟨rfl, hA, rfl, rfl⟩ | ⟨rfl, hA, rfl, h16, hx⟩ | ⟨rfl, hA, rfl, rfl⟩ | ⟨rfl, hA, hB, rfl⟩ | ⟨rfl, rfl, rfl, rfl⟩ | ⟨rfl, h0, h1, rfl, rfl⟩ | ⟨rfl, rfl, rfl⟩
  · exact fits_1 op o w
  · exact fits_2 op A o (fun w => by rw [← hA]; exact isKB_any A w) w
  · exact fits_3 op A o hA w
  · exact fits_4 op A o hA xs.length w (fun w' hb => nums_ok o xs xs.length rfl h16 hx w' (h.below hb))
  · exact fits_5 op A o hA w
  · exact fits_6 op A B o hA hB w
  · exact fits_7 op o w
  · exact fits_8 op A o (decide_eq_true h0) (decide_eq_true h1) w
  · exact fits_9 op A o w
theorem fitC_range {k A B : Int} {xs : List Int} (h : fitC k A B xs) : 1 ≤ k ∧ k ≤ 9 ∧ xs.length ≤ 16 := by
  rcases h with ⟨rfl, _, _, rfl⟩ | ⟨rfl, _, _, rfl⟩ | ⟨rfl, _, _, rfl⟩ | ⟨rfl, _, _, h, _⟩ | ⟨rfl, _, _, rfl⟩ | ⟨rfl, _, _, rfl⟩ | ⟨rfl, _, _, rfl⟩ | ⟨rfl, _, _, _, rfl⟩ | ⟨rfl, _, rfl⟩ <;> simp
  exact h
set_option maxHeartbeats 2000000 in
set_option maxRecDepth 1000000 in
theorem check_core (op A B k : Int) (o : Option Addr) (n : Nat) (_hn : n ≤ 16) (_hk : (k == 0) = false) (w : World)
    (HB : Hid (∀ w', Below w.heap.size w w' → Calls Tryd.prog 25 #[.int .u8 op] w' fun r w'' => r = .returned (.int .i64 k) ∧ Below w'.heap.size w' w''))
    (HF : Hid (∀ w', Below w.heap.size w w' → Calls Tryd.prog 26 #[.int .i64 k, .agg #[.int .u8 op, .int .i64 A, .int .i64 B, .slice o n n]] w' fun r w'' => r = .returned (.bool true) ∧ Below w'.heap.size w' w'')) :
    Calls Tryd.prog 18 #[.agg #[.int .u8 op, .int .i64 A, .int .i64 B, .slice o n n]] w fun r w' => r = .returned (.int .i64 0) ∧ Below w.heap.size w w' := by
  go_enter Tryd.func18, Tryd.ntmps18
  go_wp2_with fail
  refine (HB.out _ ((Below.refl _ _).alloc (Nat.le_refl _) _)).mono ?_
  rintro e w1 ⟨rfl, b1⟩
  have xX : XS w1 w.heap.size (.int .u8 op) (.int .i64 A) (.int .i64 B) (.slice o n n) := by
    unfold XS
    rw [b1.block w.heap.size (by simp)]
    exact new_block _ _
  obtain ⟨x0, x1, x2, x3⟩ := xX.cell
  have HB1 : Hid (Below w.heap.size w w1) := ((Below.refl _ _).alloc (Nat.le_refl _) _).trans (b1.mono (by simp))
  clear xX b1
  go_wp2_with fail
  refine (HF.out _ HB1.out).mono ?_
  rintro e w2 ⟨rfl, b2⟩
  go_wp2
  go_ret
  exact ⟨rfl, HB1.out.trans (b2.mono HB1.out.size)⟩
theorem check_ok (op A B : Int) (o : Option Addr) (xs : List Int) (h0 : 0 ≤ op) (h1 : op ≤ 255) (hc : fitC (besV op) A B xs) (w : World) (h : LI w o xs) (hT : TabIn w) (ht0 : 0 < w.heap.size) :
    Calls Tryd.prog 18 #[.agg #[.int .u8 op, .int .i64 A, .int .i64 B, .slice o xs.length xs.length]] w fun r w' => r = .returned (.int .i64 0) ∧ Below w.heap.size w w' := by
  have hr := fitC_range hc
  exact check_core op A B (besV op) o xs.length hr.2.2 (by rw [beq_eq_false_iff_ne]; omega) w (fun w' hb => bes_any op h0 h1 w' (hT.chg (P := w.heap.size) (Chg.of_below hb) ht0 (by omega))) (fun w' hb => fits_ok (besV op) op A B o xs hc w' (h.below hb))
end Go.Proofs.YtkceplamaocmmaaDoor
namespace Go.Proofs.YtkceplamaocmmaaDoor
open Go.RowKit

theorem chr_conv (w : World) (n : Int) : (convert 37 9 (.slice (some ⟨w.heap.size, 0, none⟩) 1 1)).run Tryd.prog (w.alloc (.cells #[.int .u8 n] 5)) = .ok (.string (strOfNums [n])) (w.alloc (.cells #[.int .u8 n] 5)) := by
  refine run_convert_bytes_arg _ 37 5 Tryd.underlying37 Tryd.underlying5 w.heap.size 0 1 1 [n] rfl ?_ 9 Tryd.underlying9
  intro i hi
  have : i = 0 := by omega
  subst this
  rw [World.cell?_alloc_at _ _ _ _ rfl]
  rfl
theorem XS.keep {w w' : World} {X : Nat} {c0 c1 c2 c3 : Value} (h : XS w X c0 c1 c2 c3) (b : Below w.drew.heap.size w.drew w') : XS w' X c0 c1 c2 c3 := by
  have hl := h.lt
  unfold XS at h ⊢
  rw [b.block X hl]
  exact h
/-- The text of the first k numbers, behind a text. -/
def catK (T : ByteArray) (xs : List Int) : Nat → ByteArray
  | 0 => T
  | k + 1 => catK T xs k ++ strOfNums (uB (xs.getD k 0).toNat)
theorem uB_num (x : Int) (h : isNum x) : (uB x.toNat).length ≤ 10 := by
  have h1 := h.1
  have h2 := h.2
  exact uB_len64 _ (by omega)
theorem catK_size (T : ByteArray) (xs : List Int) (hx : ∀ x ∈ xs, isNum x) : ∀ k, k ≤ xs.length → (catK T xs k).size ≤ T.size + 10 * k
  | 0, _ => by simp [catK]
  | k + 1, h => by
    have ih := catK_size T xs hx k (by omega)
    have hm : xs.getD k 0 ∈ xs := by
      rw [List.getD_eq_getElem?_getD, List.getElem?_eq_getElem (by omega)]
      exact List.getElem_mem _
    have := uB_num _ (hx _ hm)
    rw [catK, ByteArray.size_append, strOfNums_size]
    omega
theorem XS.below {w w' : World} {X : Nat} {c0 c1 c2 c3 : Value} (h : XS w X c0 c1 c2 c3) (b : Below w.heap.size w w') : XS w' X c0 c1 c2 c3 := by
  have hl := h.lt
  unfold XS at h ⊢
  rw [b.block X hl]
  exact h
/-- The bytes that stand beside an instruction. -/
def besT (k A B : Int) (xs : List Int) : List Int :=
  if k = 2 then [A] else if k = 3 then uB A.toNat else if k = 4 then uB xs.length ++ (xs.flatMap fun x => uB x.toNat) ++ uB A.toNat else if k = 5 then uB A.toNat ++ [0] else if k = 6 then uB A.toNat ++ uB B.toNat else if k = 7 then [0] else if k = 8 ∨ k = 9 then sB A else []
theorem nums_u (n : Nat) : nums (strOfNums (uB n)) = uB n := nums_str (uB_byte n)
theorem nums_catK (T : ByteArray) (xs : List Int) : ∀ k, k ≤ xs.length → nums (catK T xs k) = nums T ++ (xs.take k).flatMap fun x => uB x.toNat
  | 0, _ => by simp [catK]
  | k + 1, h => by
    rw [catK, nums_append, nums_catK T xs k (by omega), nums_u, List.take_succ_eq_append_getElem (by omega), List.flatMap_append, List.append_assoc, List.getD_eq_getElem?_getD, List.getElem?_eq_getElem (by omega)]
    simp
theorem nums_nil : nums ⟨#[]⟩ = [] := rfl
theorem nums_zero : nums ⟨#[0]⟩ = [0] := rfl
theorem isKB_range {A : Int} (h : isKB A = true) : 0 ≤ A ∧ A ≤ 255 := by
  unfold isKB at h
  simp only [Bool.or_eq_true, beq_iff_eq] at h
  omega
end Go.Proofs.YtkceplamaocmmaaDoor
