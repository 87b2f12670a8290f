import Derived.Test.YtmmjgdaamkdncaaGreatDoorProg
import Derived.Below
import Derived.Shelf.Strings.Search3
import Derived.Shelf.LaysM
import Derived.Shelf.Strings.Cut
import Derived.Shelf.Strings.IndexAnyAll
import Derived.Test.YtmmjgdaamkdncaaGreatDoorAHd
namespace Go.Proofs.YtmmjgdaamkdncaaGreatDoor
set_option linter.unusedVariables false
open Go.Shelf Go.RowKit
def conRen : Go.Shelf.Ren := ⟨fun | 144 => 118 | 143 => 131 | 219 => 141 | 217 => 145 | 225 => 146 | 224 => 147 | 267 => 148 | 266 => 158 | 314 => 159 | n => n,fun | 9 => 9 | 4 => 4 | 3 => 3 | 5 => 5 | 46 => 149 | 146 => 168 | 51 => 167 | n => n,fun | 1 => 2 | n => n⟩
theorem conLays : Go.Proofs.LaysM.n144 Tryz.prog conRen := {
 mixed := by kernel_rfl
 f143 := Tryz.func131.trans (congrArg some (by kernel_rfl))
 f144 := Tryz.func118.trans (congrArg some (by kernel_rfl))
 f217 := Tryz.func145.trans (congrArg some (by kernel_rfl))
 f219 := Tryz.func141.trans (congrArg some (by kernel_rfl))
 f224 := Tryz.func147.trans (congrArg some (by kernel_rfl))
 f225 := Tryz.func146.trans (congrArg some (by kernel_rfl))
 f266 := Tryz.func158.trans (congrArg some (by kernel_rfl))
 f267 := Tryz.func148.trans (congrArg some (by kernel_rfl))
 f314 := Tryz.func159.trans (congrArg some (by kernel_rfl))
 t3 := Tryz.underlying3
 a3 := Tryz.isAgg3
 z3 := Tryz.sizeOf3
 v3 := Tryz.zeroValue3
 t4 := Tryz.underlying4
 a4 := Tryz.isAgg4
 z4 := Tryz.sizeOf4
 v4 := Tryz.zeroValue4
 t5 := Tryz.underlying5
 a5 := Tryz.isAgg5
 z5 := Tryz.sizeOf5
 v5 := Tryz.zeroValue5
 t9 := Tryz.underlying9
 a9 := Tryz.isAgg9
 z9 := Tryz.sizeOf9
 v9 := Tryz.zeroValue9
 t46 := Tryz.underlying149
 a46 := Tryz.isAgg149
 z46 := Tryz.sizeOf149
 v46 := Tryz.zeroValue149
 t51 := Tryz.underlying167
 a51 := Tryz.isAgg167
 z51 := Tryz.sizeOf167
 v51 := Tryz.zeroValue167
 t146 := Tryz.underlying168
 a146 := Tryz.isAgg168
 z146 := Tryz.sizeOf168
 v146 := Tryz.zeroValue168
 g1 := by kernel_rfl
 i3 := by kernel_rfl
 i4 := by kernel_rfl
 i5 := by kernel_rfl
 i9 := by kernel_rfl
 i46 := by kernel_rfl
 i51 := by kernel_rfl
 i146 := by kernel_rfl
 m1 := by kernel_rfl
 s1_3 := fun w h => Go.Proofs.cell_of_shapedOpen_int (zero := #[.int .i64 0]) (t := 3) h (of_decide_eq_true (by kernel_rfl)) (by kernel_rfl) rfl (by kernel_rfl) (by kernel_rfl) Tryz.underlying3 }
def MaxIn (w : World) : Prop := ∃ m,w.cell? ⟨conRen.g 1,0,none⟩ = some (.int .i64 m)
theorem MaxIn.of_cell {w w' : World} (h : MaxIn w) (hc : w'.cell? ⟨conRen.g 1,0,none⟩ = w.cell? ⟨conRen.g 1,0,none⟩) : MaxIn w' := h.imp fun _ hm => hc.trans hm
theorem MaxIn.lt {w : World} (h : MaxIn w) : conRen.g 1 < w.heap.size := by
 obtain ⟨m,hm⟩ := h
 apply Classical.byContradiction
 intro hn
 have : w.heap[conRen.g 1]? = none := Array.getElem?_eq_none (by omega)
 simp [World.cell?,this] at hm
theorem MaxIn.below {w w' : World} (h : MaxIn w) (hb : Below w.heap.size w w') : MaxIn w' := h.of_cell (hb.cell h.lt)
theorem xtC {w : World} (h : w.ShapedOpen Tryz.prog) : MaxIn w := conLays.s1_3 w h
theorem xeM (s sub : ByteArray) (w : World) (hs : s.size < 4294967281) (h : MaxIn w) :
  Calls Tryz.prog 118 #[.string s,.string sub] w fun e w' => e = .returned (.bool (Lib.contains s.data.toList sub.data.toList)) /\ w' = w := by
 obtain ⟨m,hm⟩ := h
 exact Any.strings_Contains { conLays with } s sub m w hs hm
def yjA : Go.Shelf.Ren := ⟨fun | 150 => 134 | 153 => 142 | 152 => 149 | 226 => 150 | 227 => 151 | 228 => 152 | 137 => 160 | 119 => 161 | 224 => 147 | 225 => 146 | 217 => 145 | 266 => 158 | n => n,fun | 9 => 9 | 4 => 4 | 3 => 3 | 5 => 5 | 21 => 21 | 117 => 203 | 116 => 202 | 0 => 0 | 46 => 149 | 124 => 215 | n => n,fun | n => n⟩
theorem yfJ : Go.Proofs.Lays.n150 Tryz.prog yjA := {
 mixed := by kernel_rfl
 f119 := Tryz.func161.trans (congrArg some (by kernel_rfl))
 f137 := Tryz.func160.trans (congrArg some (by kernel_rfl))
 f150 := Tryz.func134.trans (congrArg some (by kernel_rfl))
 f152 := Tryz.func149.trans (congrArg some (by kernel_rfl))
 f153 := Tryz.func142.trans (congrArg some (by kernel_rfl))
 f217 := Tryz.func145.trans (congrArg some (by kernel_rfl))
 f224 := Tryz.func147.trans (congrArg some (by kernel_rfl))
 f225 := Tryz.func146.trans (congrArg some (by kernel_rfl))
 f226 := Tryz.func150.trans (congrArg some (by kernel_rfl))
 f227 := Tryz.func151.trans (congrArg some (by kernel_rfl))
 f228 := Tryz.func152.trans (congrArg some (by kernel_rfl))
 f266 := Tryz.func158.trans (congrArg some (by kernel_rfl))
 t0 := Tryz.underlying0
 a0 := Tryz.isAgg0
 z0 := Tryz.sizeOf0
 v0 := Tryz.zeroValue0
 t3 := Tryz.underlying3
 a3 := Tryz.isAgg3
 z3 := Tryz.sizeOf3
 v3 := Tryz.zeroValue3
 t4 := Tryz.underlying4
 a4 := Tryz.isAgg4
 z4 := Tryz.sizeOf4
 v4 := Tryz.zeroValue4
 t5 := Tryz.underlying5
 a5 := Tryz.isAgg5
 z5 := Tryz.sizeOf5
 v5 := Tryz.zeroValue5
 t9 := Tryz.underlying9
 a9 := Tryz.isAgg9
 z9 := Tryz.sizeOf9
 v9 := Tryz.zeroValue9
 t21 := Tryz.underlying21
 a21 := Tryz.isAgg21
 z21 := Tryz.sizeOf21
 v21 := Tryz.zeroValue21
 t46 := Tryz.underlying149
 a46 := Tryz.isAgg149
 z46 := Tryz.sizeOf149
 v46 := Tryz.zeroValue149
 t116 := Tryz.underlying202
 a116 := Tryz.isAgg202
 z116 := Tryz.sizeOf202
 t117 := Tryz.underlying203
 a117 := Tryz.isAgg203
 z117 := Tryz.sizeOf203
 v117 := Tryz.zeroValue203
 t124 := Tryz.underlying215
 a124 := Tryz.isAgg215
 z124 := Tryz.sizeOf215
 v124 := Tryz.zeroValue215 }
theorem xkF (s chars : ByteArray) (w : World) (hs : s.size < 4294967281) (hcs : chars.size < 4294967281)
  (has : ∀ (j : Nat) b,s.data.toList[j]? = some b -> b.toNat < 128) (hac : ∀ (j : Nat) b,chars.data.toList[j]? = some b -> b.toNat < 128) :
  Calls Tryz.prog 134 #[.string s,.string chars] w fun e w' => e = .returned (.bool (Lib.containsAny s.data.toList chars.data.toList)) /\ Below w.heap.size w w' :=
 Any.strings_ContainsAny_laid { yfJ with } (by kernel_rfl) s chars w hs hcs has hac
end Go.Proofs.YtmmjgdaamkdncaaGreatDoor
