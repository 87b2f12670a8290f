/-
  What the program's own fits and Check say of what is well.
  What the program's own besideText and Write make of what is well.
-/
import Derived.Test.YtfmmefmpjejioaaInsR5
import Derived.Test.YtfmmefmpjejioaaGLeb
import Derived.Laws.Concat
import Derived.Deep.RegionWith
namespace Go.Proofs.Ytfmmefmpjejioaa
open Go.RowKit

/-- A list of numbers that can be read in the world. -/
def LI (w : World) (o : Option Addr) (xs : List Int) : Prop := xs = [] ∨ ∃ g, o = some ⟨g, 0, none⟩ ∧ g < w.heap.size ∧ ∀ i, i < xs.length → w.cell? ⟨g, i, none⟩ = some (.int .i64 (xs.getD i 0))
theorem LI.below {w w' : World} {o : Option Addr} {xs : List Int} (h : LI w o xs) (hb : Below w.heap.size w w') : LI w' o xs := by
  rcases h with h | ⟨g, h1, h2, h3⟩
  · exact Or.inl h
  · exact Or.inr ⟨g, h1, Nat.lt_of_lt_of_le h2 hb.size, fun i hi => by rw [hb.cell (p := ⟨g, i, none⟩) h2]; exact h3 i hi⟩
theorem IsI.li {w : World} {B : Nat} {v : Value} {xs : List Int} (h : IsI w B v xs) : ∃ o, v = .slice o xs.length xs.length ∧ LI w o xs := by
  rcases h with ⟨rfl, rfl⟩ | ⟨g, rfl, ho⟩
  · exact ⟨none, rfl, Or.inl rfl⟩
  · refine ⟨_, rfl, Or.inr ⟨g, rfl, (ho.lt g rfl).2, fun i hi => ?_⟩⟩
    rw [ho.cellAt i (by omega), List.getElem?_map, List.getElem?_eq_getElem hi, List.getD_eq_getElem?_getD, List.getElem?_eq_getElem hi]
    rfl
/-- A number that stands without a sign. -/
def isNum (n : Int) : Prop := 0 ≤ n ∧ n ≤ 4294967295
/-- What is asked of what stands beside an instruction. -/
def fitC (k A B : Int) (xs : List Int) : Prop :=
  (k = 1 ∧ A = 0 ∧ B = 0 ∧ xs = []) ∨ (k = 2 ∧ isKB A = true ∧ B = 0 ∧ xs = []) ∨ (k = 3 ∧ isNum A ∧ B = 0 ∧ xs = []) ∨ (k = 4 ∧ isNum A ∧ B = 0 ∧ xs.length ≤ 16 ∧ ∀ x ∈ xs, isNum x) ∨ (k = 5 ∧ isNum A ∧ B = 0 ∧ xs = []) ∨ (k = 6 ∧ isNum A ∧ isNum B ∧ xs = []) ∨ (k = 7 ∧ A = 0 ∧ B = 0 ∧ xs = []) ∨ (k = 8 ∧ -2147483648 ≤ A ∧ A ≤ 2147483647 ∧ B = 0 ∧ xs = []) ∨ (k = 9 ∧ B = 0 ∧ xs = [])
theorem fitC_range {k A B : Int} {xs : List Int} (h : fitC k A B xs) : 1 ≤ k ∧ k ≤ 9 ∧ xs.length ≤ 16 := by
  rcases h with ⟨rfl, _, _, rfl⟩ | ⟨rfl, _, _, rfl⟩ | ⟨rfl, _, _, rfl⟩ | ⟨rfl, _, _, h, _⟩ | ⟨rfl, _, _, rfl⟩ | ⟨rfl, _, _, rfl⟩ | ⟨rfl, _, _, rfl⟩ | ⟨rfl, _, _, _, rfl⟩ | ⟨rfl, _, rfl⟩ <;> simp
  exact h
end Go.Proofs.Ytfmmefmpjejioaa
namespace Go.Proofs.Ytfmmefmpjejioaa
open Go.RowKit

theorem chr_conv (w : World) (n : Int) : (convert 61 9 (.slice (some ⟨w.heap.size, 0, none⟩) 1 1)).run Try.prog (w.alloc (.cells #[.int .u8 n] 5)) = .ok (.string (strOfNums [n])) (w.alloc (.cells #[.int .u8 n] 5)) := by
  refine run_convert_bytes_arg _ 61 5 Try.underlying61 Try.underlying5 w.heap.size 0 1 1 [n] rfl ?_ 9 Try.underlying9
  intro i hi
  have : i = 0 := by omega
  subst this
  rw [World.cell?_alloc_at _ _ _ _ rfl]
  rfl
/-- The text of the first k numbers, behind a text. -/
def catK (T : ByteArray) (xs : List Int) : Nat → ByteArray
  | 0 => T
  | k + 1 => catK T xs k ++ strOfNums (uB (xs.getD k 0).toNat)
theorem uB_num (x : Int) (h : isNum x) : (uB x.toNat).length ≤ 10 := by
  have h1 := h.1
  have h2 := h.2
  exact uB_len64 _ (by omega)
theorem catK_size (T : ByteArray) (xs : List Int) (hx : ∀ x ∈ xs, isNum x) : ∀ k, k ≤ xs.length → (catK T xs k).size ≤ T.size + 10 * k
  | 0, _ => by simp [catK]
  | k + 1, h => by
    have ih := catK_size T xs hx k (by omega)
    have hm : xs.getD k 0 ∈ xs := by
      rw [List.getD_eq_getElem?_getD, List.getElem?_eq_getElem (by omega)]
      exact List.getElem_mem _
    have := uB_num _ (hx _ hm)
    rw [catK, ByteArray.size_append, strOfNums_size]
    omega
/-- The bytes that stand beside an instruction. -/
def besT (k A B : Int) (xs : List Int) : List Int :=
  if k = 2 then [A] else if k = 3 then uB A.toNat else if k = 4 then uB xs.length ++ (xs.flatMap fun x => uB x.toNat) ++ uB A.toNat else if k = 5 then uB A.toNat ++ [0] else if k = 6 then uB A.toNat ++ uB B.toNat else if k = 7 then [0] else if k = 8 ∨ k = 9 then sB A else []
theorem nums_u (n : Nat) : nums (strOfNums (uB n)) = uB n := nums_str (uB_byte n)
theorem nums_catK (T : ByteArray) (xs : List Int) : ∀ k, k ≤ xs.length → nums (catK T xs k) = nums T ++ (xs.take k).flatMap fun x => uB x.toNat
  | 0, _ => by simp [catK]
  | k + 1, h => by
    rw [catK, nums_append, nums_catK T xs k (by omega), nums_u, List.take_succ_eq_append_getElem (by omega), List.flatMap_append, List.append_assoc, List.getD_eq_getElem?_getD, List.getElem?_eq_getElem (by omega)]
    simp
theorem nums_nil : nums ⟨#[]⟩ = [] := rfl
theorem nums_zero : nums ⟨#[0]⟩ = [0] := rfl
theorem isKB_range {A : Int} (h : isKB A = true) : 0 ≤ A ∧ A ≤ 255 := by
  unfold isKB at h
  simp only [Bool.or_eq_true, beq_iff_eq] at h
  omega
end Go.Proofs.Ytfmmefmpjejioaa
