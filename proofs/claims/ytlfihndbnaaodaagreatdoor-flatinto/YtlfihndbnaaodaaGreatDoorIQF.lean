/-
 The library's own contract of strings.Contains, at this program.
 The library's own contracts of strings.ContainsAny and strings.Cut, at this program.
-/
import Derived.Test.YtlfihndbnaaodaaGreatDoorProg
import Derived.Below
import Derived.Shelf.Strings.Search3
import Derived.Shelf.LaysM
import Derived.Shelf.Strings.Cut
import Derived.Shelf.Strings.IndexAnyAll
namespace Go.Proofs.YtlfihndbnaaodaaGreatDoor
set_option linter.unusedVariables false
open Go.Shelf Go.RowKit
def conRen : Go.Shelf.Ren := ⟨fun | 144 => 164 | 143 => 180 | 219 => 194 | 217 => 195 | 225 => 184 | 224 => 183 | 267 => 217 | 266 => 218 | 314 => 219 | n => n, fun | 9 => 9 | 4 => 4 | 3 => 3 | 5 => 5 | 46 => 150 | 146 => 273 | 51 => 195 | n => n, fun | 1 => 2 | n => n⟩
theorem conLays : Go.Proofs.LaysM.n144 Tryz.prog conRen := {
 mixed := by kernel_rfl
 f143 := Tryz.func180.trans (congrArg some (by kernel_rfl))
 f144 := Tryz.func164.trans (congrArg some (by kernel_rfl))
 f217 := Tryz.func195.trans (congrArg some (by kernel_rfl))
 f219 := Tryz.func194.trans (congrArg some (by kernel_rfl))
 f224 := Tryz.func183.trans (congrArg some (by kernel_rfl))
 f225 := Tryz.func184.trans (congrArg some (by kernel_rfl))
 f266 := Tryz.func218.trans (congrArg some (by kernel_rfl))
 f267 := Tryz.func217.trans (congrArg some (by kernel_rfl))
 f314 := Tryz.func219.trans (congrArg some (by kernel_rfl))
 t3 := Tryz.underlying3
 a3 := Tryz.isAgg3
 z3 := Tryz.sizeOf3
 v3 := Tryz.zeroValue3
 t4 := Tryz.underlying4
 a4 := Tryz.isAgg4
 z4 := Tryz.sizeOf4
 v4 := Tryz.zeroValue4
 t5 := Tryz.underlying5
 a5 := Tryz.isAgg5
 z5 := Tryz.sizeOf5
 v5 := Tryz.zeroValue5
 t9 := Tryz.underlying9
 a9 := Tryz.isAgg9
 z9 := Tryz.sizeOf9
 v9 := Tryz.zeroValue9
 t46 := Tryz.underlying150
 a46 := Tryz.isAgg150
 z46 := Tryz.sizeOf150
 v46 := Tryz.zeroValue150
 t51 := Tryz.underlying195
 a51 := Tryz.isAgg195
 z51 := Tryz.sizeOf195
 v51 := Tryz.zeroValue195
 t146 := Tryz.underlying273
 a146 := Tryz.isAgg273
 z146 := Tryz.sizeOf273
 v146 := Tryz.zeroValue273
 g1 := by kernel_rfl
 i3 := by kernel_rfl
 i4 := by kernel_rfl
 i5 := by kernel_rfl
 i9 := by kernel_rfl
 i46 := by kernel_rfl
 i51 := by kernel_rfl
 i146 := by kernel_rfl
 m1 := by kernel_rfl
 s1_3 := fun w h => Go.Proofs.cell_of_shapedOpen_int (zero := #[.int .i64 0]) (t := 3) h (of_decide_eq_true (by kernel_rfl)) (by kernel_rfl) rfl (by kernel_rfl) (by kernel_rfl) Tryz.underlying3 }
def MaxIn (w : World) : Prop := ∃ m, w.cell? ⟨conRen.g 1, 0, none⟩ = some (.int .i64 m)
theorem MaxIn.of_cell {w w' : World} (h : MaxIn w) (hc : w'.cell? ⟨conRen.g 1, 0, none⟩ = w.cell? ⟨conRen.g 1, 0, none⟩) : MaxIn w' := h.imp fun _ hm => hc.trans hm
theorem MaxIn.lt {w : World} (h : MaxIn w) : conRen.g 1 < w.heap.size := by
 obtain ⟨m, hm⟩ := h
 apply Classical.byContradiction
 intro hn
 have : w.heap[conRen.g 1]? = none := Array.getElem?_eq_none (by omega)
 simp [World.cell?, this] at hm
theorem MaxIn.below {w w' : World} (h : MaxIn w) (hb : Below w.heap.size w w') : MaxIn w' := h.of_cell (hb.cell h.lt)
theorem max_shaped {w : World} (h : w.ShapedOpen Tryz.prog) : MaxIn w := conLays.s1_3 w h
theorem contains_any (s sub : ByteArray) (w : World) (hs : s.size < 4294967281) (h : MaxIn w) :
  Calls Tryz.prog 164 #[.string s, .string sub] w fun e w' => e = .returned (.bool (Lib.contains s.data.toList sub.data.toList)) ∧ w' = w := by
 obtain ⟨m, hm⟩ := h
 exact Any.strings_Contains { conLays with } s sub m w hs hm
end Go.Proofs.YtlfihndbnaaodaaGreatDoor
namespace Go.Proofs.YtlfihndbnaaodaaGreatDoor
set_option linter.unusedVariables false
open Go.Shelf Go.RowKit
def anyRen : Go.Shelf.Ren := ⟨fun | 150 => 106 | 153 => 145 | 152 => 166 | 226 => 167 | 227 => 168 | 228 => 169 | 137 => 181 | 119 => 182 | 224 => 183 | 225 => 184 | 217 => 195 | 266 => 218 | n => n, fun | 9 => 9 | 4 => 4 | 3 => 3 | 5 => 5 | 21 => 21 | 117 => 234 | 116 => 233 | 0 => 0 | 46 => 150 | 124 => 244 | n => n, fun | n => n⟩
theorem anyLays : Go.Proofs.Lays.n150 Tryz.prog anyRen := {
 mixed := by kernel_rfl
 f119 := Tryz.func182.trans (congrArg some (by kernel_rfl))
 f137 := Tryz.func181.trans (congrArg some (by kernel_rfl))
 f150 := Tryz.func106.trans (congrArg some (by kernel_rfl))
 f152 := Tryz.func166.trans (congrArg some (by kernel_rfl))
 f153 := Tryz.func145.trans (congrArg some (by kernel_rfl))
 f217 := Tryz.func195.trans (congrArg some (by kernel_rfl))
 f224 := Tryz.func183.trans (congrArg some (by kernel_rfl))
 f225 := Tryz.func184.trans (congrArg some (by kernel_rfl))
 f226 := Tryz.func167.trans (congrArg some (by kernel_rfl))
 f227 := Tryz.func168.trans (congrArg some (by kernel_rfl))
 f228 := Tryz.func169.trans (congrArg some (by kernel_rfl))
 f266 := Tryz.func218.trans (congrArg some (by kernel_rfl))
 t0 := Tryz.underlying0
 a0 := Tryz.isAgg0
 z0 := Tryz.sizeOf0
 v0 := Tryz.zeroValue0
 t3 := Tryz.underlying3
 a3 := Tryz.isAgg3
 z3 := Tryz.sizeOf3
 v3 := Tryz.zeroValue3
 t4 := Tryz.underlying4
 a4 := Tryz.isAgg4
 z4 := Tryz.sizeOf4
 v4 := Tryz.zeroValue4
 t5 := Tryz.underlying5
 a5 := Tryz.isAgg5
 z5 := Tryz.sizeOf5
 v5 := Tryz.zeroValue5
 t9 := Tryz.underlying9
 a9 := Tryz.isAgg9
 z9 := Tryz.sizeOf9
 v9 := Tryz.zeroValue9
 t21 := Tryz.underlying21
 a21 := Tryz.isAgg21
 z21 := Tryz.sizeOf21
 v21 := Tryz.zeroValue21
 t46 := Tryz.underlying150
 a46 := Tryz.isAgg150
 z46 := Tryz.sizeOf150
 v46 := Tryz.zeroValue150
 t116 := Tryz.underlying233
 a116 := Tryz.isAgg233
 z116 := Tryz.sizeOf233
 t117 := Tryz.underlying234
 a117 := Tryz.isAgg234
 z117 := Tryz.sizeOf234
 v117 := Tryz.zeroValue234
 t124 := Tryz.underlying244
 a124 := Tryz.isAgg244
 z124 := Tryz.sizeOf244
 v124 := Tryz.zeroValue244 }
theorem containsAny_any (s chars : ByteArray) (w : World) (hs : s.size < 4294967281) (hcs : chars.size < 4294967281)
  (has : ∀ (j : Nat) b, s.data.toList[j]? = some b → b.toNat < 128) (hac : ∀ (j : Nat) b, chars.data.toList[j]? = some b → b.toNat < 128) :
  Calls Tryz.prog 106 #[.string s, .string chars] w fun e w' => e = .returned (.bool (Lib.containsAny s.data.toList chars.data.toList)) ∧ Below w.heap.size w w' :=
 Any.strings_ContainsAny_laid { anyLays with } (by kernel_rfl) s chars w hs hcs has hac
end Go.Proofs.YtlfihndbnaaodaaGreatDoor
