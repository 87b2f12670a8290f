/-
 The library's own contract of strings.Contains, at this program.
 The library's own contracts of strings.ContainsAny and strings.Cut, at this program.
-/
import Derived.Test.YtoikoijpkchamaaGreatDoorProg
import Derived.Below
import Derived.Shelf.Strings.Search3
import Derived.Shelf.LaysM
import Derived.Shelf.Strings.Cut
import Derived.Shelf.Strings.IndexAnyAll
namespace Go.Proofs.YtoikoijpkchamaaGreatDoor
set_option linter.unusedVariables false
open Go.Shelf Go.RowKit
def conRen : Go.Shelf.Ren := ⟨fun | 144 => 222 | 143 => 237 | 219 => 145 | 217 => 192 | 225 => 193 | 224 => 194 | 267 => 195 | 266 => 218 | 314 => 219 | n => n, fun | 9 => 9 | 4 => 4 | 3 => 3 | 5 => 5 | 46 => 201 | 146 => 279 | 51 => 218 | n => n, fun | 1 => 0 | n => n⟩
theorem conLays : Go.Proofs.LaysM.n144 Tryz.prog conRen := {
 mixed := by kernel_rfl
 f143 := Tryz.func237.trans (congrArg some (by kernel_rfl))
 f144 := Tryz.func222.trans (congrArg some (by kernel_rfl))
 f217 := Tryz.func192.trans (congrArg some (by kernel_rfl))
 f219 := Tryz.func145.trans (congrArg some (by kernel_rfl))
 f224 := Tryz.func194.trans (congrArg some (by kernel_rfl))
 f225 := Tryz.func193.trans (congrArg some (by kernel_rfl))
 f266 := Tryz.func218.trans (congrArg some (by kernel_rfl))
 f267 := Tryz.func195.trans (congrArg some (by kernel_rfl))
 f314 := Tryz.func219.trans (congrArg some (by kernel_rfl))
 t3 := Tryz.underlying3
 a3 := Tryz.isAgg3
 z3 := Tryz.sizeOf3
 v3 := Tryz.zeroValue3
 t4 := Tryz.underlying4
 a4 := Tryz.isAgg4
 z4 := Tryz.sizeOf4
 v4 := Tryz.zeroValue4
 t5 := Tryz.underlying5
 a5 := Tryz.isAgg5
 z5 := Tryz.sizeOf5
 v5 := Tryz.zeroValue5
 t9 := Tryz.underlying9
 a9 := Tryz.isAgg9
 z9 := Tryz.sizeOf9
 v9 := Tryz.zeroValue9
 t46 := Tryz.underlying201
 a46 := Tryz.isAgg201
 z46 := Tryz.sizeOf201
 v46 := Tryz.zeroValue201
 t51 := Tryz.underlying218
 a51 := Tryz.isAgg218
 z51 := Tryz.sizeOf218
 v51 := Tryz.zeroValue218
 t146 := Tryz.underlying279
 a146 := Tryz.isAgg279
 z146 := Tryz.sizeOf279
 v146 := Tryz.zeroValue279
 g1 := by kernel_rfl
 i3 := by kernel_rfl
 i4 := by kernel_rfl
 i5 := by kernel_rfl
 i9 := by kernel_rfl
 i46 := by kernel_rfl
 i51 := by kernel_rfl
 i146 := by kernel_rfl
 m1 := by kernel_rfl
 s1_3 := fun w h => Go.Proofs.cell_of_shapedOpen_int (zero := #[.int .i64 0]) (t := 3) h (of_decide_eq_true (by kernel_rfl)) (by kernel_rfl) rfl (by kernel_rfl) (by kernel_rfl) Tryz.underlying3 }
def MaxIn (w : World) : Prop := ∃ m, w.cell? ⟨conRen.g 1, 0, none⟩ = some (.int .i64 m)
theorem MaxIn.of_cell {w w' : World} (h : MaxIn w) (hc : w'.cell? ⟨conRen.g 1, 0, none⟩ = w.cell? ⟨conRen.g 1, 0, none⟩) : MaxIn w' := h.imp fun _ hm => hc.trans hm
theorem MaxIn.lt {w : World} (h : MaxIn w) : conRen.g 1 < w.heap.size := by
 obtain ⟨m, hm⟩ := h
 apply Classical.byContradiction
 intro hn
 have : w.heap[conRen.g 1]? = none := Array.getElem?_eq_none (by omega)
 simp [World.cell?, this] at hm
theorem max_shaped {w : World} (h : w.ShapedOpen Tryz.prog) : MaxIn w := conLays.s1_3 w h
end Go.Proofs.YtoikoijpkchamaaGreatDoor
namespace Go.Proofs.YtoikoijpkchamaaGreatDoor
set_option linter.unusedVariables false
open Go.Shelf Go.RowKit
def cutRen : Go.Shelf.Ren := ⟨fun | 145 => 54 | 220 => 93 | 219 => 145 | 217 => 192 | 225 => 193 | 224 => 194 | 267 => 195 | 266 => 218 | 314 => 219 | n => n, fun | 9 => 9 | 4 => 4 | 59 => 103 | 3 => 3 | 5 => 5 | 46 => 201 | 146 => 279 | 51 => 218 | n => n, fun | 1 => 0 | n => n⟩
theorem cutLays : Go.Proofs.Lays.n145 Tryz.prog cutRen := {
 mixed := by kernel_rfl
 f145 := Tryz.func54.trans (congrArg some (by kernel_rfl))
 f217 := Tryz.func192.trans (congrArg some (by kernel_rfl))
 f219 := Tryz.func145.trans (congrArg some (by kernel_rfl))
 f220 := Tryz.func93.trans (congrArg some (by kernel_rfl))
 f224 := Tryz.func194.trans (congrArg some (by kernel_rfl))
 f225 := Tryz.func193.trans (congrArg some (by kernel_rfl))
 f266 := Tryz.func218.trans (congrArg some (by kernel_rfl))
 f267 := Tryz.func195.trans (congrArg some (by kernel_rfl))
 f314 := Tryz.func219.trans (congrArg some (by kernel_rfl))
 t3 := Tryz.underlying3
 a3 := Tryz.isAgg3
 z3 := Tryz.sizeOf3
 v3 := Tryz.zeroValue3
 t4 := Tryz.underlying4
 a4 := Tryz.isAgg4
 z4 := Tryz.sizeOf4
 v4 := Tryz.zeroValue4
 t5 := Tryz.underlying5
 a5 := Tryz.isAgg5
 z5 := Tryz.sizeOf5
 v5 := Tryz.zeroValue5
 t9 := Tryz.underlying9
 a9 := Tryz.isAgg9
 z9 := Tryz.sizeOf9
 v9 := Tryz.zeroValue9
 t46 := Tryz.underlying201
 a46 := Tryz.isAgg201
 z46 := Tryz.sizeOf201
 v46 := Tryz.zeroValue201
 t51 := Tryz.underlying218
 a51 := Tryz.isAgg218
 z51 := Tryz.sizeOf218
 v51 := Tryz.zeroValue218
 t59 := Tryz.underlying103
 a59 := Tryz.isAgg103
 z59 := Tryz.sizeOf103
 v59 := Tryz.zeroValue103
 t146 := Tryz.underlying279
 a146 := Tryz.isAgg279
 z146 := Tryz.sizeOf279
 v146 := Tryz.zeroValue279
 g1 := by kernel_rfl }
theorem cut_any (s sep : ByteArray) (w : World) (hs : s.size < 4294967281) (h : MaxIn w) : type_of% (Any.strings_Cut { cutLays with } s sep h.choose w hs h.choose_spec) := Any.strings_Cut { cutLays with } s sep h.choose w hs h.choose_spec
end Go.Proofs.YtoikoijpkchamaaGreatDoor
