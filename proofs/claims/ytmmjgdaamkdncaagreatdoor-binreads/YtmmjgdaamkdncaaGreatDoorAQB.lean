import Derived.Test.YtmmjgdaamkdncaaGreatDoorAGLeb
import Derived.Shelf.Unicode.DecodeSlow
import Derived.Lib.ValidU
import Derived.Shelf.Unicode.ValidAny
import Derived.Shelf.Strconv.Clone
namespace Go.Proofs.YtmmjgdaamkdncaaGreatDoor
set_option maxHeartbeats 400000
set_option linter.unusedVariables false
open Go.RowKit
def xsJ : Prop := ∀ (s : ByteArray) (w : World),s.size <= 9223372036854775807 -> Lib.Utf8Tabs 0 1 w ->
 Calls Tryz.prog 102 #[.string s] w fun e w' => e = .returned (.bool (Lib.validD s.data.toList)) /\ Below w.heap.size w w'
def xxC : Prop := ∀ (s : ByteArray) (w : World),s.size <= 281474976710656 ->
 Calls Tryz.prog 84 #[.string s] w fun e w' => e = .returned (.string s) /\ Below w.heap.size w w'
theorem xqF (V : xsJ) (s : ByteArray) (b : Bool) (w : World) (hs : s.size <= 16) (h : Hid (Lib.validD s.data.toList = b)) (hT : Lib.Utf8Tabs 0 1 w) :
  Calls Tryz.prog 102 #[.string s] w fun e w' => e = .returned (.bool b) /\ Below w.heap.size w w' := by
 rw [<- h.out]; exact V s w (by omega) hT
theorem xnC (s : ByteArray) (e : Int) (w : World) (hs : s.size <= maxLen) (he : (e != 0) = true) (H : Hid (rU 32 (xaX s) = (0,0,e))) :
  Calls Tryz.prog 93 #[.string s] w fun e' w' => e' = .returned (.tuple #[.string ⟨#[]⟩,.int .i64 0,.int .i64 e]) /\ Below w.heap.size w w' := by
 go_enter Tryz.func93,Tryz.ntmps93
 go_wp2_with (go_at_call 72; refine (xdL s _ _ _ _ hs H _).mono ?_; rintro e' w1 ⟨rfl,rfl⟩)
 go_ret3
 exact ⟨rfl,Below.refl _ _⟩
theorem xlP (s : ByteArray) (n k : Nat) (w : World) (hs : s.size <= maxLen) (hn : (16 : Int) < (n : Int)) (H : Hid (rU 32 (xaX s) = ((n : Int),(k : Int),0))) :
  Calls Tryz.prog 93 #[.string s] w fun e' w' => e' = .returned (.tuple #[.string ⟨#[]⟩,.int .i64 0,.int .i64 2]) /\ Below w.heap.size w w' := by
 go_enter Tryz.func93,Tryz.ntmps93
 go_wp2_with (go_at_call 72; refine (xdL s _ _ _ _ hs H _).mono ?_; rintro e' w1 ⟨rfl,rfl⟩)
 go_ret3
 exact ⟨rfl,Below.refl _ _⟩
theorem xlQ (s : ByteArray) (n k : Nat) (w : World) (hs : s.size <= maxLen) (hn : n <= 16) (hk : k <= 10) (hlt : (s.size : Int) < (k : Int) + (n : Int)) (H : Hid (rU 32 (xaX s) = ((n : Int),(k : Int),0))) :
  Calls Tryz.prog 93 #[.string s] w fun e' w' => e' = .returned (.tuple #[.string ⟨#[]⟩,.int .i64 0,.int .i64 3]) /\ Below w.heap.size w w' := by
 go_enter Tryz.func93,Tryz.ntmps93
 go_wp2_with (go_at_call 72; refine (xdL s _ _ _ _ hs H _).mono ?_; rintro e' w1 ⟨rfl,rfl⟩)
 go_ret3
 exact ⟨rfl,Below.refl _ _⟩
theorem xnB (V : Hid xsJ) (C : Hid xxC) (s T : ByteArray) (n k : Nat) (w : World) (hs : s.size <= maxLen) (hn : n <= 16) (hk : k <= 10) (hge : k + n <= s.size) (H : Hid (rU 32 (xaX s) = ((n : Int),(k : Int),0)))
  (hT : s.extract k (k + n) = T) (hTz : T.size <= 16) (hv : Hid (Lib.validD T.data.toList = false)) (hU : Hid (Lib.Utf8Tabs 0 1 w)) :
  Calls Tryz.prog 93 #[.string s] w fun e' w' => e' = .returned (.tuple #[.string ⟨#[]⟩,.int .i64 0,.int .i64 4]) /\ Below w.heap.size w w' := by
 have C' : Hid (∀ w,Calls Tryz.prog 84 #[.string T] w fun e w' => e = .returned (.string T) /\ Below w.heap.size w w') := fun w => C.out T w (by omega)
 go_enter Tryz.func93,Tryz.ntmps93
 go_wp2_with (first | (go_at_call 72; refine (xdL s _ _ _ _ hs H _).mono ?_; rintro e' w1 ⟨rfl,rfl⟩) | (go_at_call 84; refine (C'.out _).mono ?_; rintro e w2 ⟨rfl,b2⟩) | (go_at_call 102; refine (xqF V.out T false _ hTz hv (Utf8Tabs_below hU.out b2)).mono ?_; rintro e w3 ⟨rfl,b3⟩))
 go_ret3
 exact ⟨rfl,b2.trans (b3.mono b2.size)⟩
theorem xpF (V : Hid xsJ) (C : Hid xxC) (s T : ByteArray) (n k : Nat) (w : World) (hs : s.size <= maxLen) (hn : n <= 16) (hk : k <= 10) (hge : k + n <= s.size) (H : Hid (rU 32 (xaX s) = ((n : Int),(k : Int),0)))
  (hT : s.extract k (k + n) = T) (hTz : T.size <= 16) (hv : Hid (Lib.validD T.data.toList = true)) (hU : Hid (Lib.Utf8Tabs 0 1 w)) :
  Calls Tryz.prog 93 #[.string s] w fun e' w' => e' = .returned (.tuple #[.string T,.int .i64 ((k : Int) + (n : Int)),.int .i64 0]) /\ Below w.heap.size w w' := by
 have C' : Hid (∀ w,Calls Tryz.prog 84 #[.string T] w fun e w' => e = .returned (.string T) /\ Below w.heap.size w w') := fun w => C.out T w (by omega)
 go_enter Tryz.func93,Tryz.ntmps93
 go_wp2_with (first | (go_at_call 72; refine (xdL s _ _ _ _ hs H _).mono ?_; rintro e' w1 ⟨rfl,rfl⟩) | (go_at_call 84; refine (C'.out _).mono ?_; rintro e w2 ⟨rfl,b2⟩) | (go_at_call 102; refine (xqF V.out T true _ hTz hv (Utf8Tabs_below hU.out b2)).mono ?_; rintro e w3 ⟨rfl,b3⟩))
 go_ret3
 exact ⟨rfl,b2.trans (b3.mono b2.size)⟩
open Go.Shelf Go.RowKit
def ymC : Go.Shelf.Ren := ⟨fun | 196 => 102 | 259 => 110 | n => n,fun | 9 => 9 | 4 => 4 | 3 => 3 | 5 => 5 | 12 => 12 | 119 => 163 | 0 => 0 | 46 => 149 | 139 => 166 | 138 => 165 | 53 => 119 | n => n,fun | 3 => 0 | 4 => 1 | n => n⟩
theorem yfB : Go.Proofs.Lays.n196 Tryz.prog ymC := {
 mixed := by kernel_rfl
 f196 := Tryz.func102.trans (congrArg some (by kernel_rfl))
 f259 := Tryz.func110.trans (congrArg some (by kernel_rfl))
 t0 := Tryz.underlying0
 a0 := Tryz.isAgg0
 z0 := Tryz.sizeOf0
 v0 := Tryz.zeroValue0
 t3 := Tryz.underlying3
 a3 := Tryz.isAgg3
 z3 := Tryz.sizeOf3
 v3 := Tryz.zeroValue3
 t4 := Tryz.underlying4
 a4 := Tryz.isAgg4
 z4 := Tryz.sizeOf4
 v4 := Tryz.zeroValue4
 t5 := Tryz.underlying5
 a5 := Tryz.isAgg5
 z5 := Tryz.sizeOf5
 v5 := Tryz.zeroValue5
 t9 := Tryz.underlying9
 a9 := Tryz.isAgg9
 z9 := Tryz.sizeOf9
 v9 := Tryz.zeroValue9
 t12 := Tryz.underlying12
 a12 := Tryz.isAgg12
 z12 := Tryz.sizeOf12
 v12 := Tryz.zeroValue12
 t46 := Tryz.underlying149
 a46 := Tryz.isAgg149
 z46 := Tryz.sizeOf149
 v46 := Tryz.zeroValue149
 t53 := Tryz.underlying119
 a53 := Tryz.isAgg119
 z53 := Tryz.sizeOf119
 v53 := Tryz.zeroValue119
 t119 := Tryz.underlying163
 a119 := Tryz.isAgg163
 z119 := Tryz.sizeOf163
 t138 := Tryz.underlying165
 a138 := Tryz.isAgg165
 z138 := Tryz.sizeOf165
 v138 := Tryz.zeroValue165
 t139 := Tryz.underlying166
 a139 := Tryz.isAgg166
 z139 := Tryz.sizeOf166
 v139 := Tryz.zeroValue166
 g3 := by kernel_rfl
 g4 := by kernel_rfl }
def ynT : Go.Shelf.Ren := ⟨fun | 316 => 97 | n => n,fun | 9 => 9 | 3 => 3 | 4 => 4 | 37 => 152 | 0 => 0 | 127 => 156 | 5 => 5 | n => n,fun | n => n⟩
theorem ylG : Go.Proofs.LaysM.n316 Tryz.prog ynT := {
 mixed := by kernel_rfl
 f316 := Tryz.func97.trans (congrArg some (by kernel_rfl))
 t0 := Tryz.underlying0
 a0 := Tryz.isAgg0
 z0 := Tryz.sizeOf0
 v0 := Tryz.zeroValue0
 t3 := Tryz.underlying3
 a3 := Tryz.isAgg3
 z3 := Tryz.sizeOf3
 v3 := Tryz.zeroValue3
 t4 := Tryz.underlying4
 a4 := Tryz.isAgg4
 z4 := Tryz.sizeOf4
 v4 := Tryz.zeroValue4
 t9 := Tryz.underlying9
 a9 := Tryz.isAgg9
 z9 := Tryz.sizeOf9
 v9 := Tryz.zeroValue9
 t37 := Tryz.underlying152
 a37 := Tryz.isAgg152
 z37 := Tryz.sizeOf152
 v37 := Tryz.zeroValue152
 t127 := Tryz.underlying156
 a127 := Tryz.isAgg156
 z127 := Tryz.sizeOf156
 v127 := Tryz.zeroValue156
 t5 := Tryz.underlying5
 a5 := Tryz.isAgg5
 z5 := Tryz.sizeOf5
 v5 := Tryz.zeroValue5
 i0 := by kernel_rfl
 i3 := by kernel_rfl
 i4 := by kernel_rfl
 i5 := by kernel_rfl
 i9 := by kernel_rfl
 i37 := by kernel_rfl
 i127 := by kernel_rfl }
theorem xuK : xsJ := fun s w hs hT => Any.utf8_ValidString yfB s w hs hT
theorem ybX (s : ByteArray) (w : World) (h : s.size <= 281474976710656) :
  Calls Tryz.prog 97 #[.string s] w fun e w' => e = .returned (.string s) /\ Below w.heap.size w w' := Any.stringslite_Clone ylG s w h
theorem xqM : xxC := by
 intro s w h
 go_enter Tryz.func84,Tryz.ntmps84
 go_wp2_with (go_at_call 97; refine (ybX s _ h).mono ?_; rintro e w' ⟨rfl,hb⟩)
 go_ret
 exact ⟨rfl,hb⟩
end Go.Proofs.YtmmjgdaamkdncaaGreatDoor
