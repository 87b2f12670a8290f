/-
  What the program's own fits and Check say of what is well. What the program's own besideText and Write make of what is well.
-/
import Derived.Test.YtakpkdckajjooaaGreatDoorPInsR5
import Derived.Test.YtakpkdckajjooaaGreatDoorPGLeb
import Derived.Laws.Concat
import Derived.Deep.RegionWith
set_option maxHeartbeats 4000000
set_option maxRecDepth 1000000
namespace Go.Proofs.YtakpkdckajjooaaGreatDoor
set_option linter.unusedVariables false
open Go.RowKit
def isNum (n : Int) : Prop := 0 ≤ n ∧ n ≤ 4294967295
def fitC (k A B : Int) (xs : List Int) : Prop :=
  (k = 1 ∧ A = 0 ∧ B = 0 ∧ xs = []) ∨ (k = 2 ∧ isKB A = true ∧ B = 0 ∧ xs = []) ∨ (k = 3 ∧ isNum A ∧ B = 0 ∧ xs = []) ∨ (k = 4 ∧ isNum A ∧ B = 0 ∧ xs.length ≤ 16 ∧ ∀ x ∈ xs, isNum x) ∨ (k = 5 ∧ isNum A ∧ B = 0 ∧ xs = []) ∨ (k = 6 ∧ isNum A ∧ isNum B ∧ xs = []) ∨ (k = 7 ∧ A = 0 ∧ B = 0 ∧ xs = []) ∨ (k = 8 ∧ -2147483648 ≤ A ∧ A ≤ 2147483647 ∧ B = 0 ∧ xs = []) ∨ (k = 9 ∧ B = 0 ∧ xs = [])
end Go.Proofs.YtakpkdckajjooaaGreatDoor
namespace Go.Proofs.YtakpkdckajjooaaGreatDoor
open Go.RowKit
theorem chr_conv (w : World) (n : Int) : (convert 142 9 (.slice (some ⟨w.heap.size, 0, none⟩) 1 1)).run Tryz.prog (w.alloc (.cells #[.int .u8 n] 5)) = .ok (.string (strOfNums [n])) (w.alloc (.cells #[.int .u8 n] 5)) := by
  refine run_convert_bytes_arg _ 142 5 Tryz.underlying142 Tryz.underlying5 w.heap.size 0 1 1 [n] rfl ?_ 9 Tryz.underlying9
  intro i hi
  have : i = 0 := by omega
  subst this
  rw [World.cell?_alloc_at _ _ _ _ rfl]
  rfl
theorem oneByte_any (n : Int) (w : World) :
    Calls Tryz.prog 207 #[.int .u8 n] w fun e w' => e = .returned (.string (strOfNums [n])) ∧ Below w.heap.size w w' := by
  have hc := chr_conv w n
  go_enter Tryz.func207, Tryz.ntmps207
  go_wp2
  go_ret
  exact ⟨rfl, (Below.refl _ _).alloc (Nat.le_refl _) _⟩
theorem numText_any (n : Int) (h : isNum n) (w : World) :
    Calls Tryz.prog 225 #[.int .i64 n] w fun e w' => e = .returned (.string (strOfNums (uB n.toNat))) ∧ Below w.heap.size w w' := by
  obtain ⟨h0, h1⟩ := h
  have HU : Hid (∀ w, Calls Tryz.prog 176 #[.int .u64 n] w fun e w' => e = .returned (.string (strOfNums (uB n.toNat))) ∧ Below w.heap.size w w') := fun w => by
    have := u_any n.toNat (by omega) w
    rw [Int.toNat_of_nonneg h0] at this
    exact this
  go_enter Tryz.func225, Tryz.ntmps225
  go_wp2_with fail
  refine (HU.out _).mono ?_
  rintro e w1 ⟨rfl, b⟩
  go_wp2
  go_ret
  exact ⟨rfl, b⟩
theorem XS.keep {w w' : World} {X : Nat} {c0 c1 c2 c3 : Value} (h : XS w X c0 c1 c2 c3) (b : Below w.drew.heap.size w.drew w') : XS w' X c0 c1 c2 c3 := by
  have hl := h.lt
  unfold XS at h ⊢
  rw [b.block X hl]
  exact h
def catK (T : ByteArray) (xs : List Int) : Nat → ByteArray
  | 0 => T
  | k + 1 => catK T xs k ++ strOfNums (uB (xs.getD k 0).toNat)
theorem uB_num (x : Int) (h : isNum x) : (uB x.toNat).length ≤ 10 := by
  have h1 := h.1
  have h2 := h.2
  exact uB_len64 _ (by omega)
theorem catK_size (T : ByteArray) (xs : List Int) (hx : ∀ x ∈ xs, isNum x) : ∀ k, k ≤ xs.length → (catK T xs k).size ≤ T.size + 10 * k
  | 0, _ => by simp [catK]
  | k + 1, h => by
    have ih := catK_size T xs hx k (by omega)
    have hm : xs.getD k 0 ∈ xs := by
      rw [List.getD_eq_getElem?_getD, List.getElem?_eq_getElem (by omega)]
      exact List.getElem_mem _
    have := uB_num _ (hx _ hm)
    rw [catK, ByteArray.size_append, strOfNums_size]
    omega
theorem XS.below {w w' : World} {X : Nat} {c0 c1 c2 c3 : Value} (h : XS w X c0 c1 c2 c3) (b : Below w.heap.size w w') : XS w' X c0 c1 c2 c3 := by
  have hl := h.lt
  unfold XS at h ⊢
  rw [b.block X hl]
  exact h
def besT (k A B : Int) (xs : List Int) : List Int :=
  if k = 2 then [A] else if k = 3 then uB A.toNat else if k = 4 then uB xs.length ++ (xs.flatMap fun x => uB x.toNat) ++ uB A.toNat else if k = 5 then uB A.toNat ++ [0] else if k = 6 then uB A.toNat ++ uB B.toNat else if k = 7 then [0] else if k = 8 ∨ k = 9 then sB A else []
theorem nums_u (n : Nat) : nums (strOfNums (uB n)) = uB n := nums_str (uB_byte n)
theorem nums_catK (T : ByteArray) (xs : List Int) : ∀ k, k ≤ xs.length → nums (catK T xs k) = nums T ++ (xs.take k).flatMap fun x => uB x.toNat
  | 0, _ => by simp [catK]
  | k + 1, h => by
    rw [catK, nums_append, nums_catK T xs k (by omega), nums_u, List.take_succ_eq_append_getElem (by omega), List.flatMap_append, List.append_assoc, List.getD_eq_getElem?_getD, List.getElem?_eq_getElem (by omega)]
    simp
theorem nums_zero : nums ⟨#[0]⟩ = [0] := rfl
theorem isKB_range {A : Int} (h : isKB A = true) : 0 ≤ A ∧ A ≤ 255 := by
  unfold isKB at h
  simp only [Bool.or_eq_true, beq_iff_eq] at h
  omega
end Go.Proofs.YtakpkdckajjooaaGreatDoor
