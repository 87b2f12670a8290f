/-
 What leb.Name and leb.ReadName do, where utf8.ValidString answers as its contract says.
 The library's own contracts of utf8.ValidString and strings.Clone, at this program.
-/
import Derived.Test.YtlfihndbnaaodaaGreatDoorIGLeb
import Derived.Shelf.Unicode.DecodeSlow
import Derived.Lib.ValidU
import Derived.Shelf.Unicode.ValidAny
set_option maxHeartbeats 400000
namespace Go.Proofs.YtlfihndbnaaodaaGreatDoor
set_option linter.unusedVariables false
open Go.RowKit
def ValidC : Prop := ∀ (s : ByteArray) (w : World), s.size ≤ 9223372036854775807 → Lib.Utf8Tabs 3 4 w →
 Calls Tryz.prog 187 #[.string s] w fun e w' => e = .returned (.bool (Lib.validD s.data.toList)) ∧ Below w.heap.size w w'
theorem valid_at (V : ValidC) (s : ByteArray) (b : Bool) (w : World) (hs : s.size ≤ 16) (h : Hid (Lib.validD s.data.toList = b)) (hT : Lib.Utf8Tabs 3 4 w) :
  Calls Tryz.prog 187 #[.string s] w fun e w' => e = .returned (.bool b) ∧ Below w.heap.size w w' := by
 rw [← h.out]; exact V s w (by omega) hT
theorem name_large (s : ByteArray) (w : World) (h : (16 : Int) < (s.size : Int)) :
  Calls Tryz.prog 174 #[.string s] w fun e w' => e = .returned (.tuple #[.string ⟨#[]⟩, .int .i64 2]) ∧ Below w.heap.size w w' := by
 go_enter Tryz.func174, Tryz.ntmps174
 go_wp2
 go_ret2
 exact ⟨rfl, Below.refl _ _⟩
theorem name_bad (V : Hid ValidC) (s : ByteArray) (w : World) (h : s.size ≤ 16) (hv : Hid (Lib.validD s.data.toList = false)) (hT : Hid (Lib.Utf8Tabs 3 4 w)) :
  Calls Tryz.prog 174 #[.string s] w fun e w' => e = .returned (.tuple #[.string ⟨#[]⟩, .int .i64 4]) ∧ Below w.heap.size w w' := by
 go_enter Tryz.func174, Tryz.ntmps174
 go_wp2_with (go_at_call 187; refine (valid_at V.out s false _ h hv hT.out).mono ?_; rintro e w1 ⟨rfl, b1⟩)
 go_ret2
 exact ⟨rfl, b1⟩
theorem name_ok (V : Hid ValidC) (s S : ByteArray) (w : World) (h : s.size ≤ 16) (hv : Hid (Lib.validD s.data.toList = true)) (hT : Hid (Lib.Utf8Tabs 3 4 w)) (hS : Hid (strOfNums [(s.size : Int)] = S)) :
  Calls Tryz.prog 174 #[.string s] w fun e w' => e = .returned (.tuple #[.string (S ++ s), .int .i64 0]) ∧ Below w.heap.size w w' := by
 have hU : Hid (∀ w, Calls Tryz.prog 188 #[.int .u64 (s.size : Int)] w fun e w' => e = .returned (.string S) ∧ Below w.heap.size w w') := by
  intro w
  have := u_any s.size (by omega) w
  rw [uB_lo (by omega), hS.out] at this
  exact this
 have hz : S.size = 1 := by rw [← hS.out, strOfNums_size]; rfl
 go_enter Tryz.func174, Tryz.ntmps174
 go_wp2_with (first | (go_at_call 187; refine (valid_at V.out s true _ h hv hT.out).mono ?_; rintro e w1 ⟨rfl, b1⟩) | (go_at_call 188; refine (hU.out _).mono ?_; rintro e w2 ⟨rfl, b2⟩))
 go_ret2
 exact ⟨rfl, b1.trans (b2.mono b1.size)⟩
end Go.Proofs.YtlfihndbnaaodaaGreatDoor
namespace Go.Proofs.YtlfihndbnaaodaaGreatDoor
set_option linter.unusedVariables false
open Go.Shelf Go.RowKit
def vRen : Go.Shelf.Ren := ⟨fun | 196 => 187 | 259 => 197 | n => n, fun | 9 => 9 | 4 => 4 | 3 => 3 | 5 => 5 | 12 => 12 | 119 => 257 | 0 => 0 | 46 => 150 | 139 => 260 | 138 => 259 | 53 => 197 | n => n, fun | 3 => 3 | 4 => 4 | n => n⟩
theorem vLays : Go.Proofs.Lays.n196 Tryz.prog vRen := {
 mixed := by kernel_rfl
 f196 := Tryz.func187.trans (congrArg some (by kernel_rfl))
 f259 := Tryz.func197.trans (congrArg some (by kernel_rfl))
 t0 := Tryz.underlying0
 a0 := Tryz.isAgg0
 z0 := Tryz.sizeOf0
 v0 := Tryz.zeroValue0
 t3 := Tryz.underlying3
 a3 := Tryz.isAgg3
 z3 := Tryz.sizeOf3
 v3 := Tryz.zeroValue3
 t4 := Tryz.underlying4
 a4 := Tryz.isAgg4
 z4 := Tryz.sizeOf4
 v4 := Tryz.zeroValue4
 t5 := Tryz.underlying5
 a5 := Tryz.isAgg5
 z5 := Tryz.sizeOf5
 v5 := Tryz.zeroValue5
 t9 := Tryz.underlying9
 a9 := Tryz.isAgg9
 z9 := Tryz.sizeOf9
 v9 := Tryz.zeroValue9
 t12 := Tryz.underlying12
 a12 := Tryz.isAgg12
 z12 := Tryz.sizeOf12
 v12 := Tryz.zeroValue12
 t46 := Tryz.underlying150
 a46 := Tryz.isAgg150
 z46 := Tryz.sizeOf150
 v46 := Tryz.zeroValue150
 t53 := Tryz.underlying197
 a53 := Tryz.isAgg197
 z53 := Tryz.sizeOf197
 v53 := Tryz.zeroValue197
 t119 := Tryz.underlying257
 a119 := Tryz.isAgg257
 z119 := Tryz.sizeOf257
 t138 := Tryz.underlying259
 a138 := Tryz.isAgg259
 z138 := Tryz.sizeOf259
 v138 := Tryz.zeroValue259
 t139 := Tryz.underlying260
 a139 := Tryz.isAgg260
 z139 := Tryz.sizeOf260
 v139 := Tryz.zeroValue260
 g3 := by kernel_rfl
 g4 := by kernel_rfl }
theorem valid_c : ValidC := fun s w hs hT => Any.utf8_ValidString vLays s w hs hT
end Go.Proofs.YtlfihndbnaaodaaGreatDoor
