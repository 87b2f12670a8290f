/-
  The library's own contract of strings.Contains, at this program.
-/
import Derived.Test.YtomiganjagjabaaProg
import Derived.Below
import Derived.Shelf.Strings.Search3
import Derived.Shelf.LaysM
namespace Go.Proofs.Ytomiganjagjabaa
open Go.Shelf Go.RowKit

def conRen : Go.Shelf.Ren := ⟨fun | 144 => 40 | 143 => 42 | 219 => 44 | 217 => 45 | 225 => 46 | 224 => 47 | 267 => 48 | 266 => 49 | 314 => 50 | n => n, fun | 9 => 9 | 4 => 4 | 3 => 3 | 5 => 5 | 46 => 84 | 146 => 85 | 51 => 71 | n => n, fun | 1 => 0 | n => n⟩
theorem conLays : Go.Proofs.LaysM.n144 Try.prog conRen := {
  mixed := by kernel_rfl
  f143 := Try.func42.trans (congrArg some (by kernel_rfl))
  f144 := Try.func40.trans (congrArg some (by kernel_rfl))
  f217 := Try.func45.trans (congrArg some (by kernel_rfl))
  f219 := Try.func44.trans (congrArg some (by kernel_rfl))
  f224 := Try.func47.trans (congrArg some (by kernel_rfl))
  f225 := Try.func46.trans (congrArg some (by kernel_rfl))
  f266 := Try.func49.trans (congrArg some (by kernel_rfl))
  f267 := Try.func48.trans (congrArg some (by kernel_rfl))
  f314 := Try.func50.trans (congrArg some (by kernel_rfl))
  t3 := Try.underlying3
  a3 := Try.isAgg3
  z3 := Try.sizeOf3
  v3 := Try.zeroValue3
  t4 := Try.underlying4
  a4 := Try.isAgg4
  z4 := Try.sizeOf4
  v4 := Try.zeroValue4
  t5 := Try.underlying5
  a5 := Try.isAgg5
  z5 := Try.sizeOf5
  v5 := Try.zeroValue5
  t9 := Try.underlying9
  a9 := Try.isAgg9
  z9 := Try.sizeOf9
  v9 := Try.zeroValue9
  t46 := Try.underlying84
  a46 := Try.isAgg84
  z46 := Try.sizeOf84
  v46 := Try.zeroValue84
  t51 := Try.underlying71
  a51 := Try.isAgg71
  z51 := Try.sizeOf71
  v51 := Try.zeroValue71
  t146 := Try.underlying85
  a146 := Try.isAgg85
  z146 := Try.sizeOf85
  v146 := Try.zeroValue85
  g1 := by kernel_rfl
  i3 := by kernel_rfl
  i4 := by kernel_rfl
  i5 := by kernel_rfl
  i9 := by kernel_rfl
  i46 := by kernel_rfl
  i51 := by kernel_rfl
  i146 := by kernel_rfl
  m1 := by kernel_rfl
  s1_3 := fun w h => Go.Proofs.cell_of_shapedOpen_int (zero := #[.int .i64 0]) (t := 3) h (of_decide_eq_true (by kernel_rfl)) (by kernel_rfl) rfl (by kernel_rfl) (by kernel_rfl) Try.underlying3 }

/-- The library's variable internal/bytealg.MaxLen holds a number. -/
def MaxIn (w : World) : Prop := ∃ m, w.cell? ⟨conRen.g 1, 0, none⟩ = some (.int .i64 m)
theorem MaxIn.of_cell {w w' : World} (h : MaxIn w) (hc : w'.cell? ⟨conRen.g 1, 0, none⟩ = w.cell? ⟨conRen.g 1, 0, none⟩) : MaxIn w' := h.imp fun _ hm => hc.trans hm
theorem MaxIn.lt {w : World} (h : MaxIn w) : conRen.g 1 < w.heap.size := by
  obtain ⟨m, hm⟩ := h
  apply Classical.byContradiction
  intro hn
  have : w.heap[conRen.g 1]? = none := Array.getElem?_eq_none (by omega)
  simp [World.cell?, this] at hm
theorem MaxIn.below {w w' : World} (h : MaxIn w) (hb : Below w.heap.size w w') : MaxIn w' := h.of_cell (hb.cell h.lt)
theorem max_shaped {w : World} (h : w.ShapedOpen Try.prog) : MaxIn w := conLays.s1_3 w h

theorem contains_any (s sub : ByteArray) (w : World) (hs : s.size < 4294967281) (h : MaxIn w) :
    Calls Try.prog 40 #[.string s, .string sub] w fun e w' => e = .returned (.bool (Lib.contains s.data.toList sub.data.toList)) ∧ w' = w := by
  obtain ⟨m, hm⟩ := h
  exact Any.strings_Contains { conLays with } s sub m w hs hm

end Go.Proofs.Ytomiganjagjabaa
