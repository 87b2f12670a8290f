/-
 What the reader's own instruction does.
 What the program's own fits and Check say of what is well. What the program's own besideText and Write make of what is well.
 What the program's own Read does. What the program's own Read does. What the program's own Read does, over lists of bytes.
 What the document's own cursor reads, over lists of bytes; what stands while the document's own InsRead reads.
 The library's own contract of strings.Contains, at this program.
 The library's own contracts of strings.ContainsAny and strings.Cut, at this program.
-/
import Derived.Test.YtkceplamaocmmaaGreatDoorZGRdr
import Derived.Test.YtkceplamaocmmaaGreatDoorZPB
import Derived.Laws.Concat
import Derived.Deep.RegionWith
import Derived.RegionTactic
import Derived.BigRegion
import Derived.WalkSmall
import Derived.OneCell
import Derived.Test.YtkceplamaocmmaaGreatDoorProg
import Derived.Below
import Derived.Shelf.Strings.Search3
import Derived.Shelf.LaysM
import Derived.Shelf.Strings.Cut
import Derived.Shelf.Strings.IndexAnyAll
namespace Go.Proofs.YtkceplamaocmmaaGreatDoor
set_option linter.unusedVariables false
open Go.RowKit
def XS (w : World) (X : Nat) (c0 c1 c2 c3 : Value) : Prop := w.heap[X]? = some (.cells #[c0, c1, c2, c3] 34 (0, 0))
section
variable {w w' : World} {X P : Nat} {c0 c1 c2 c3 : Value}
theorem XS.lt (h : XS w X c0 c1 c2 c3) : X < w.heap.size := by
 unfold XS at h
 exact (Array.getElem?_eq_some_iff.1 h).1
theorem XS.cell (h : XS w X c0 c1 c2 c3) : w.cell? ⟨X, 0, none⟩ = some c0 ∧ w.cell? ⟨X, 1, none⟩ = some c1 ∧ w.cell? ⟨X, 2, none⟩ = some c2 ∧ w.cell? ⟨X, 3, none⟩ = some c3 := by
 unfold XS at h
 simp [World.cell?, h]
theorem XS.frozen (h : XS w X c0 c1 c2 c3) (i : Nat) : w.frozen? ⟨X, i, none⟩ = false := by
 unfold XS at h
 simp [World.frozen?, h]
theorem XS.set0 (h : XS w X c0 c1 c2 c3) (v : Value) : XS (w.setCell ⟨X, 0, none⟩ v) X v c1 c2 c3 := by
 unfold XS at h ⊢
 simp [World.setCell, Array.getElem?_modify, h]
theorem XS.set1 (h : XS w X c0 c1 c2 c3) (v : Value) : XS (w.setCell ⟨X, 1, none⟩ v) X c0 v c2 c3 := by
 unfold XS at h ⊢
 simp [World.setCell, Array.getElem?_modify, h]
theorem XS.set2 (h : XS w X c0 c1 c2 c3) (v : Value) : XS (w.setCell ⟨X, 2, none⟩ v) X c0 c1 v c3 := by
 unfold XS at h ⊢
 simp [World.setCell, Array.getElem?_modify, h]
theorem XS.set3 (h : XS w X c0 c1 c2 c3) (v : Value) : XS (w.setCell ⟨X, 3, none⟩ v) X c0 c1 c2 v := by
 unfold XS at h ⊢
 simp [World.setCell, Array.getElem?_modify, h]
theorem XS.far (h : XS w X c0 c1 c2 c3) (Y i : Nat) (v : Value) (hY : X ≠ Y) : XS (w.setCell ⟨Y, i, none⟩ v) X c0 c1 c2 c3 := by
 unfold XS at h ⊢
 rw [Below.heap_setCell _ _ _ _ hY, h]
end
theorem ownsRow_down {w : World} {B B' n size : Nat} {e : TypeId} {v : Value} {xs : List Value} (h : w.ownsRow B e size v n xs) (hb : B' ≤ B) : w.ownsRow B' e size v n xs := by
 obtain ⟨h1, h2⟩ := h
 refine ⟨h1, ?_⟩
 rcases h2 with h | ⟨g, cap, cur, e1, hg, r⟩
 ·exact Or.inl h
 ·exact Or.inr ⟨g, cap, cur, e1, Nat.le_trans hb hg, r⟩
theorem new_block (w : World) (o : Obj) : (w.alloc o).heap[w.heap.size]? = some o := by
 show (w.heap.push o)[w.heap.size]? = some o
 rw [Array.getElem?_push]
 simp
theorem TabIn.chg {w w' : World} {P : Nat} (h : TabIn w) (c : Chg P w w') (h0 : 0 < w.heap.size) (hP : 0 ≠ P) : TabIn w' := h.of_cells fun j => c.cell ⟨0, j, none⟩ h0 hP
end Go.Proofs.YtkceplamaocmmaaGreatDoor
namespace Go.Proofs.YtkceplamaocmmaaGreatDoor
set_option linter.unusedVariables false
open Go.RowKit
end Go.Proofs.YtkceplamaocmmaaGreatDoor
namespace Go.Proofs.YtkceplamaocmmaaGreatDoor
open Go.RowKit
end Go.Proofs.YtkceplamaocmmaaGreatDoor
namespace Go.Proofs.YtkceplamaocmmaaGreatDoor
set_option linter.unusedVariables false
open Go.RowKit
theorem besV_range (op : Int) : 0 ≤ besV op ∧ besV op ≤ 9 := by
 unfold besV
 repeat' split
 all_goals omega
end Go.Proofs.YtkceplamaocmmaaGreatDoor
namespace Go.Proofs.YtkceplamaocmmaaGreatDoor
open Go.RowKit
end Go.Proofs.YtkceplamaocmmaaGreatDoor
namespace Go.Proofs.YtkceplamaocmmaaGreatDoor
open Go.RowKit
end Go.Proofs.YtkceplamaocmmaaGreatDoor
namespace Go.Proofs.YtkceplamaocmmaaGreatDoor
set_option linter.unusedVariables false
open Go.RowKit
theorem XS.under {w w' : World} {X : Nat} {c0 c1 c2 c3 : Value} (h : XS w X c0 c1 c2 c3) (b : Below w.heap.size w w') : XS w' X c0 c1 c2 c3 := by
 have hl := h.lt
 unfold XS at h ⊢
 rw [b.block X hl, h]
section
variable {w wr w' : World} {R P X I : Nat} {F : ByteArray} {pos : Nat} {op n A B : Int} {o : Option Addr} {cap : Nat} {To l : List Int} {a : Int}
end
end Go.Proofs.YtkceplamaocmmaaGreatDoor
namespace Go.Proofs.YtkceplamaocmmaaGreatDoor
set_option linter.unusedVariables false
open Go.Shelf Go.RowKit
def conRen : Go.Shelf.Ren := ⟨fun | 144 => 118 | 143 => 124 | 219 => 130 | 217 => 131 | 225 => 129 | 224 => 128 | 267 => 132 | 266 => 133 | 314 => 134 | n => n, fun | 9 => 9 | 4 => 4 | 3 => 3 | 5 => 5 | 46 => 147 | 146 => 154 | 51 => 116 | n => n, fun | 1 => 1 | n => n⟩
theorem conLays : Go.Proofs.LaysM.n144 Tryz.prog conRen := {
 mixed := by kernel_rfl
 f143 := Tryz.func124.trans (congrArg some (by kernel_rfl))
 f144 := Tryz.func118.trans (congrArg some (by kernel_rfl))
 f217 := Tryz.func131.trans (congrArg some (by kernel_rfl))
 f219 := Tryz.func130.trans (congrArg some (by kernel_rfl))
 f224 := Tryz.func128.trans (congrArg some (by kernel_rfl))
 f225 := Tryz.func129.trans (congrArg some (by kernel_rfl))
 f266 := Tryz.func133.trans (congrArg some (by kernel_rfl))
 f267 := Tryz.func132.trans (congrArg some (by kernel_rfl))
 f314 := Tryz.func134.trans (congrArg some (by kernel_rfl))
 t3 := Tryz.underlying3
 a3 := Tryz.isAgg3
 z3 := Tryz.sizeOf3
 v3 := Tryz.zeroValue3
 t4 := Tryz.underlying4
 a4 := Tryz.isAgg4
 z4 := Tryz.sizeOf4
 v4 := Tryz.zeroValue4
 t5 := Tryz.underlying5
 a5 := Tryz.isAgg5
 z5 := Tryz.sizeOf5
 v5 := Tryz.zeroValue5
 t9 := Tryz.underlying9
 a9 := Tryz.isAgg9
 z9 := Tryz.sizeOf9
 v9 := Tryz.zeroValue9
 t46 := Tryz.underlying147
 a46 := Tryz.isAgg147
 z46 := Tryz.sizeOf147
 v46 := Tryz.zeroValue147
 t51 := Tryz.underlying116
 a51 := Tryz.isAgg116
 z51 := Tryz.sizeOf116
 v51 := Tryz.zeroValue116
 t146 := Tryz.underlying154
 a146 := Tryz.isAgg154
 z146 := Tryz.sizeOf154
 v146 := Tryz.zeroValue154
 g1 := by kernel_rfl
 i3 := by kernel_rfl
 i4 := by kernel_rfl
 i5 := by kernel_rfl
 i9 := by kernel_rfl
 i46 := by kernel_rfl
 i51 := by kernel_rfl
 i146 := by kernel_rfl
 m1 := by kernel_rfl
 s1_3 := fun w h => Go.Proofs.cell_of_shapedOpen_int (zero := #[.int .i64 0]) (t := 3) h (of_decide_eq_true (by kernel_rfl)) (by kernel_rfl) rfl (by kernel_rfl) (by kernel_rfl) Tryz.underlying3 }
def MaxIn (w : World) : Prop := ∃ m, w.cell? ⟨conRen.g 1, 0, none⟩ = some (.int .i64 m)
theorem MaxIn.of_cell {w w' : World} (h : MaxIn w) (hc : w'.cell? ⟨conRen.g 1, 0, none⟩ = w.cell? ⟨conRen.g 1, 0, none⟩) : MaxIn w' := h.imp fun _ hm => hc.trans hm
theorem MaxIn.lt {w : World} (h : MaxIn w) : conRen.g 1 < w.heap.size := by
 obtain ⟨m, hm⟩ := h
 apply Classical.byContradiction
 intro hn
 have : w.heap[conRen.g 1]? = none := Array.getElem?_eq_none (by omega)
 simp [World.cell?, this] at hm
theorem MaxIn.below {w w' : World} (h : MaxIn w) (hb : Below w.heap.size w w') : MaxIn w' := h.of_cell (hb.cell h.lt)
theorem max_shaped {w : World} (h : w.ShapedOpen Tryz.prog) : MaxIn w := conLays.s1_3 w h
theorem contains_any (s sub : ByteArray) (w : World) (hs : s.size < 4294967281) (h : MaxIn w) :
  Calls Tryz.prog 118 #[.string s, .string sub] w fun e w' => e = .returned (.bool (Lib.contains s.data.toList sub.data.toList)) ∧ w' = w := by
 obtain ⟨m, hm⟩ := h
 exact Any.strings_Contains { conLays with } s sub m w hs hm
end Go.Proofs.YtkceplamaocmmaaGreatDoor
namespace Go.Proofs.YtkceplamaocmmaaGreatDoor
set_option linter.unusedVariables false
open Go.Shelf Go.RowKit
def anyRen : Go.Shelf.Ren := ⟨fun | 150 => 83 | 153 => 97 | 152 => 120 | 226 => 121 | 227 => 122 | 228 => 123 | 137 => 126 | 119 => 127 | 224 => 128 | 225 => 129 | 217 => 131 | 266 => 133 | n => n, fun | 9 => 9 | 4 => 4 | 3 => 3 | 5 => 5 | 21 => 21 | 117 => 144 | 116 => 143 | 0 => 0 | 46 => 147 | 124 => 153 | n => n, fun | n => n⟩
theorem anyLays : Go.Proofs.Lays.n150 Tryz.prog anyRen := {
 mixed := by kernel_rfl
 f119 := Tryz.func127.trans (congrArg some (by kernel_rfl))
 f137 := Tryz.func126.trans (congrArg some (by kernel_rfl))
 f150 := Tryz.func83.trans (congrArg some (by kernel_rfl))
 f152 := Tryz.func120.trans (congrArg some (by kernel_rfl))
 f153 := Tryz.func97.trans (congrArg some (by kernel_rfl))
 f217 := Tryz.func131.trans (congrArg some (by kernel_rfl))
 f224 := Tryz.func128.trans (congrArg some (by kernel_rfl))
 f225 := Tryz.func129.trans (congrArg some (by kernel_rfl))
 f226 := Tryz.func121.trans (congrArg some (by kernel_rfl))
 f227 := Tryz.func122.trans (congrArg some (by kernel_rfl))
 f228 := Tryz.func123.trans (congrArg some (by kernel_rfl))
 f266 := Tryz.func133.trans (congrArg some (by kernel_rfl))
 t0 := Tryz.underlying0
 a0 := Tryz.isAgg0
 z0 := Tryz.sizeOf0
 v0 := Tryz.zeroValue0
 t3 := Tryz.underlying3
 a3 := Tryz.isAgg3
 z3 := Tryz.sizeOf3
 v3 := Tryz.zeroValue3
 t4 := Tryz.underlying4
 a4 := Tryz.isAgg4
 z4 := Tryz.sizeOf4
 v4 := Tryz.zeroValue4
 t5 := Tryz.underlying5
 a5 := Tryz.isAgg5
 z5 := Tryz.sizeOf5
 v5 := Tryz.zeroValue5
 t9 := Tryz.underlying9
 a9 := Tryz.isAgg9
 z9 := Tryz.sizeOf9
 v9 := Tryz.zeroValue9
 t21 := Tryz.underlying21
 a21 := Tryz.isAgg21
 z21 := Tryz.sizeOf21
 v21 := Tryz.zeroValue21
 t46 := Tryz.underlying147
 a46 := Tryz.isAgg147
 z46 := Tryz.sizeOf147
 v46 := Tryz.zeroValue147
 t116 := Tryz.underlying143
 a116 := Tryz.isAgg143
 z116 := Tryz.sizeOf143
 t117 := Tryz.underlying144
 a117 := Tryz.isAgg144
 z117 := Tryz.sizeOf144
 v117 := Tryz.zeroValue144
 t124 := Tryz.underlying153
 a124 := Tryz.isAgg153
 z124 := Tryz.sizeOf153
 v124 := Tryz.zeroValue153 }
theorem containsAny_any (s chars : ByteArray) (w : World) (hs : s.size < 4294967281) (hcs : chars.size < 4294967281)
  (has : ∀ (j : Nat) b, s.data.toList[j]? = some b → b.toNat < 128) (hac : ∀ (j : Nat) b, chars.data.toList[j]? = some b → b.toNat < 128) :
  Calls Tryz.prog 83 #[.string s, .string chars] w fun e w' => e = .returned (.bool (Lib.containsAny s.data.toList chars.data.toList)) ∧ Below w.heap.size w w' :=
 Any.strings_ContainsAny_laid { anyLays with } (by kernel_rfl) s chars w hs hcs has hac
end Go.Proofs.YtkceplamaocmmaaGreatDoor
