/-
  What the program's own Read does, over lists of bytes.
-/
import Derived.Test.YtgdleahhkaolbaaDoorInsR7
namespace Go.Proofs.YtgdleahhkaolbaaDoor
open Go.RowKit

theorem read_any (s : ByteArray) (hs : s.size ≤ maxLen) (w : World) (hT : TabIn w) (ht0 : 1 < w.heap.size) :
    Calls Tryd.prog 18 #[.string s] w fun r w' => Below w.heap.size w w' ∧
      ((¬ (mIns (nums s) 0).e = 0 ∧ r = .returned (.tuple #[.agg #[.int .u8 0, .int .i64 0, .int .i64 0, .slice none 0 0], .int .i64 0, .int .i64 (mIns (nums s) 0).e])) ∨
       ((mIns (nums s) 0).e = 0 ∧ ∃ v, r = .returned (.tuple #[.agg #[.int .u8 (mIns (nums s) 0).op, .int .i64 (mIns (nums s) 0).A, .int .i64 (mIns (nums s) 0).B, v], .int .i64 ((s.size : Int) - ((mIns (nums s) 0).l.length : Int)), .int .i64 0]) ∧ IsI w' w.heap.size v (mIns (nums s) 0).To)) := by
  have hb : Below w.heap.size w ((w.alloc (.cells #[.int .u8 0, .int .i64 0, .int .i64 0, .slice none 0 0] 24)).alloc (.cells #[.string s, .int .i64 0] 81)) := ((Below.refl _ _).alloc (Nat.le_refl _) _).alloc (by simp) _
  have hRL : RL ((w.alloc (.cells #[.int .u8 0, .int .i64 0, .int .i64 0, .slice none 0 0] 24)).alloc (.cells #[.string s, .int .i64 0] 81)) (w.heap.size + 1) (nums s) 0 := by
    refine ⟨s, rfl, hs, ?_⟩
    unfold RS
    have := new_block (w.alloc (.cells #[.int .u8 0, .int .i64 0, .int .i64 0, .slice none 0 0] 24)) (.cells #[.string s, .int .i64 0] 81)
    rw [World.size_alloc] at this
    exact this
  have hT2 := hT.chg (Chg.of_below (P := w.heap.size + 1) hb) ht0 (by omega)
  have hI := instr_any (w.heap.size + 1) (nums s) 0 _ hRL hT2 (by omega) (by rw [World.size_alloc, World.size_alloc]; omega)
  generalize mIns (nums s) 0 = M at hI ⊢
  rw [World.size_alloc, World.size_alloc] at hI
  by_cases he : M.e = 0
  · rw [he] at hI
    refine (read_ok s hs M.op M.A M.B M.To M.l w hI).mono ?_
    rintro r w1 ⟨v, rfl, b, i⟩
    exact ⟨b, Or.inr ⟨he, v, rfl, i⟩⟩
  · refine (read_err s hs M.op M.A M.B M.e M.To M.l w hI (by rw [beq_eq_false_iff_ne]; exact he)).mono ?_
    rintro r w1 ⟨rfl, b⟩
    exact ⟨b, Or.inl ⟨he, rfl⟩⟩
end Go.Proofs.YtgdleahhkaolbaaDoor
