/-
 What the document's own Copy does with a list of numbers. What the document's own InsWrite does. What the document's own InsWrite answers is what the program's own Write answers.
-/
import Derived.Test.YtakpkdckajjooaaGreatDoorWGVal
import Derived.Laws.AppendOwn
import Derived.Laws.AppendOwnNone
import Derived.Laws.OwnMore
import Derived.Test.YtakpkdckajjooaaGreatDoorWQU
import Derived.Test.YtakpkdckajjooaaGreatDoorWQZ
import Derived.Deep.RegionLaw
import Derived.Deep.AppendLies
import Derived.Test.YtakpkdckajjooaaGreatDoorWGChk
set_option maxHeartbeats 8000000
set_option maxRecDepth 1000000
namespace Go.Proofs.YtakpkdckajjooaaGreatDoor
set_option linter.unusedVariables false
open Go.RowKit
theorem copyI_any (o : Option Addr) (n cap : Nat) (xs : List Int) (hnil : o = none → cap = 0) (hn : n ≤ 16) (w : World) (h : LJ w o n xs) :
  Calls Tryz.prog 209 #[.slice o n cap] w fun e w' => ∃ v, e = .returned v ∧ w'.ownsRow w.heap.size 2 1 v n (xs.map (Value.int .i64)) ∧ Below w.heap.size w w' := by
 obtain ⟨i0, hi, hz0, hz1, hz2⟩ := info_parts Tryz.infoI64
 obtain ⟨hl, hc⟩ := h
 cases o with
 | none =>
  have h0 : n = 0 := by
   rcases hc with h | ⟨a, h, _⟩
   ·exact h
   ·cases h
  have hc0 := hnil rfl
  subst h0 hc0
  have hx : xs = [] := List.length_eq_zero_iff.1 hl
  subst hx
  clear hc hl hnil
  go_enter Tryz.func209, Tryz.ntmps209
  go_wp2_with (at_builtin; refine wpList_append_own_none rfl _ _ 159 rfl w.heap.size 2 i0 1 Tryz.underlying159 hi _ 0 [] rfl (World.ownsRow_nil _ _ _ _) rfl ?_)
  go_ret
  exact ⟨_, rfl, World.ownsRow_nil _ _ _ _, Below.refl _ _⟩
 | some a =>
  have HL : Hid (xs.length = n) := hl
  have HC : Hid (∀ i, i < n → w.cell? (a.add i) = some (.int .i64 (xs.getD i 0))) := by
   intro i hi
   rcases hc with h | ⟨a', h, _, hc⟩
   ·omega
   ·cases h
    exact hc i hi
  clear hc hl hnil
  go_enter Tryz.func209, Tryz.ntmps209
  go_wp2_with (at_builtin; refine wpList_append_own _ rfl _ _ 159 rfl w.heap.size 2 i0 (.int .i64 0) 1 8 Tryz.underlying159 hi hz0 hz1 hz2 rfl (by decide) _ 0 [] rfl (World.ownsRow_nil _ _ _ _) a n cap (xs.map (Value.int .i64)) rfl ?c0 ?c1 ?c2 ?c3 ?c4 ?c5 ?_)
  case c0 => rw [List.length_map, HL.out]; omega
  case c1 =>
   intro j u hu
   have hj : j < xs.length := by
    have := (List.getElem?_eq_some_iff.1 hu).1
    rwa [List.length_map] at this
   rw [HC.out j (by rw [← HL.out]; exact hj), ← hu, List.getElem?_map, List.getElem?_eq_getElem hj, List.getD_eq_getElem?_getD, List.getElem?_eq_getElem hj]
   rfl
  case c2 => intro u hu; obtain ⟨x, _, rfl⟩ := List.mem_map.1 hu; rfl
  case c3 => unfold maxLen; omega
  case c4 => omega
  case c5 => exact Nat.le_refl _
  ·intro v' w1 hown hgrow _
   have hb : Below w.heap.size w w1 := (Below.refl _ _).grown hgrow (Nat.le_refl _) (fun j hj => by cases hj)
   have HO : Hid (w1.ownsRow w.heap.size 2 1 v' n (xs.map (Value.int .i64))) := hown
   clear hown hgrow
   go_wp2
   go_ret
   exact ⟨_, rfl, HO.out, hb⟩
end Go.Proofs.YtakpkdckajjooaaGreatDoor
namespace Go.Proofs.YtakpkdckajjooaaGreatDoor
open Go.RowKit
def wLet (A B : Int) (xs : List Int) (c : Int) : List Int :=
 if c = 107 then [A] else if c = 97 then uB A.toNat else if c = 98 then uB B.toNat else if c = 122 then [0] else if c = 99 ∨ c = 100 then sB A else if c = 116 then uB xs.length ++ ((xs ++ [A]).flatMap fun x => uB x.toNat) else []
def wAsk (A B : Int) (n : Nat) (xs : List Int) (c : Nat) : Prop :=
 (c = 107 ∧ 0 ≤ A ∧ A ≤ 255) ∨ (c = 97 ∧ isNum A) ∨ (c = 98 ∧ isNum B) ∨ c = 122 ∨ c = 99 ∨ c = 100 ∨ (c = 116 ∧ n ≤ 16 ∧ isNum A ∧ ∀ x ∈ xs, isNum x)
structure WrS (w wr : World) (X I : Nat) (F : ByteArray) (pos : Nat) (op A B : Int) (o : Option Addr) (n cap : Nat) : Prop where
 x : w.heap.size ≤ X
 i : w.heap.size ≤ I
 xi : X ≠ I
 ins : XS wr X (.int .u8 op) (.int .i64 A) (.int .i64 B) (.slice o n cap)
 iter : wr.heap[I]? = some (.stringIter F pos)
 below : Below w.heap.size w wr
section
variable {w wr w' : World} {X I : Nat} {F : ByteArray} {pos : Nat} {op A B : Int} {o : Option Addr} {n cap : Nat}
theorem WrS.lt (h : WrS w wr X I F pos op A B o n cap) : I < wr.heap.size := (Array.getElem?_eq_some_iff.1 h.iter).1
theorem WrS.under (h : WrS w wr X I F pos op A B o n cap) (b : Below wr.heap.size wr w') : WrS w w' X I F pos op A B o n cap :=
 ⟨h.x, h.i, h.xi, h.ins.under b, by rw [b.block I h.lt]; exact h.iter, h.below.trans (b.mono h.below.size)⟩
theorem WrS.next (h : WrS w wr X I F pos op A B o n cap) (pos' : Nat) : WrS w (wr.iterAt I F pos') X I F pos' op A B o n cap :=
 ⟨h.x, h.i, h.xi, h.ins.chg (Chg.iterAt ..) h.xi, Lib.iterAt_heap _ _ _ _ _ h.iter, h.below.trans ((Chg.iterAt ..).below h.i h.below.size)⟩
theorem WrS.drew (h : WrS w wr X I F pos op A B o n cap) : WrS w wr.drew X I F pos op A B o n cap := ⟨h.x, h.i, h.xi, h.ins, h.iter, h.below.drew⟩
end
theorem nums_cat {out p : ByteArray} {op : Int} {T L : List Int} (h : nums out = op :: T) (hp : nums p = L) : nums (out ++ p) = op :: (T ++ L) := by
 rw [nums_append, h, hp]
 rfl
theorem WrS.grown {w wr w' : World} {X I : Nat} {F : ByteArray} {pos : Nat} {op A B : Int} {o : Option Addr} {n cap : Nat} (h : WrS w wr X I F pos op A B o n cap) {row : Option Nat} (hg : wr.grownBy w' row) (hr : ∀ k, row = some k → k ≠ X ∧ k ≠ I ∧ w.heap.size ≤ k) : WrS w w' X I F pos op A B o n cap := by
 have hX : some X ≠ row := fun e => (hr X e.symm).1 rfl
 have hI : some I ≠ row := fun e => (hr I e.symm).2.1 rfl
 refine ⟨h.x, h.i, h.xi, ?_, ?_, h.below.grown hg h.below.size fun k hk => (hr k hk).2.2⟩
 ·have := h.ins
  unfold XS at this ⊢
  rw [hg.block X h.ins.lt hX, this]
 ·rw [hg.block I h.lt hI]
  exact h.iter
theorem own_under {w1 w2 : World} {base k : Nat} {v : Value} {xs : List Value} (h : w1.ownsRow base 2 1 v k xs) (b : Below w1.heap.size w1 w2) : w2.ownsRow base 2 1 v k xs :=
 h.kept (row := none) ⟨b.os, b.tape, b.output, b.size, fun k hk _ => b.block k hk⟩ (by cases hv : v.ownBlock <;> simp)
theorem rwrite_err (op A B f : Int) (o : Option Addr) (n cap : Nat) (_hf : (f == 0) = false) (w : World) (HC : Hid (∀ w', Below w.heap.size w w' → Calls Tryz.prog 173 #[.agg #[.int .u8 op, .int .i64 A, .int .i64 B, .slice o n cap]] w' fun r w'' => r = .returned (.int .i64 f) ∧ Below w'.heap.size w' w'')) :
  Calls Tryz.prog 180 #[.agg #[.int .u8 op, .int .i64 A, .int .i64 B, .slice o n cap]] w fun r w' => r = .returned (.tuple #[.string ⟨#[]⟩, .int .i64 f]) ∧ Below w.heap.size w w' := by
 have hne : (f != 0) = true := by rw [bne, _hf]; rfl
 go_enter Tryz.func180, Tryz.ntmps180
 go_wp2_with fail
 refine (HC.out _ ((Below.refl _ _).alloc (Nat.le_refl _) _)).mono ?_
 rintro e w1 ⟨rfl, b1⟩
 go_wp2
 go_ret2
 exact ⟨rfl, ((Below.refl _ _).alloc (Nat.le_refl _) _).trans (b1.mono (by simp))⟩
theorem rwrite_core (op A B : Int) (o : Option Addr) (n cap : Nat) (xs : List Int) (F : ByteArray) (L : List Int) (h0 : 0 ≤ op) (h1 : op ≤ 255) (hA : -9223372036854775808 ≤ A ∧ A ≤ 9223372036854775807) (hF2 : F.size ≤ 2) (hnil : o = none → cap = 0) (w : World) (hJ : LJ w o n xs)
  (HC : Hid (∀ w', Below w.heap.size w w' → Calls Tryz.prog 173 #[.agg #[.int .u8 op, .int .i64 A, .int .i64 B, .slice o n cap]] w' fun r w'' => r = .returned (.int .i64 0) ∧ Below w'.heap.size w' w''))
  (HB : Hid (∀ w', Below w.heap.size w w' → Calls Tryz.prog 201 #[.int .u8 op] w' fun e w'' => e = .returned (.string F) ∧ Below w'.heap.size w' w''))
  (HAsk : Hid (∀ pos (h : pos < F.size), wAsk A B n xs (F[pos]'h).toNat)) (HL0 : Hid ((nums F).flatMap (wLet A B xs) = L)) :
  Calls Tryz.prog 180 #[.agg #[.int .u8 op, .int .i64 A, .int .i64 B, .slice o n cap]] w fun r w' => ∃ t, r = .returned (.tuple #[.string t, .int .i64 0]) ∧ nums t = op :: L ∧ Below w.heap.size w w' := by
 have HJ : Hid (LJ w o n xs) := hJ
 have Hnil : Hid (o = none → cap = 0) := hnil
 have HAr : Hid (-9223372036854775808 ≤ A ∧ A ≤ 9223372036854775807) := hA
 have HOp : Hid (∀ w, Calls Tryz.prog 28 #[.int .i64 op] w fun e w' => e = .returned (.string (strOfNums [op])) ∧ Below w.heap.size w w') := fun w => chr_any op h0 (by omega) w
 clear hJ hnil
 go_enter Tryz.func180, Tryz.ntmps180
 go_wp2_with fail
 refine (HC.out _ ((Below.refl _ _).alloc (Nat.le_refl _) _)).mono ?_
 rintro e w1 ⟨rfl, b1⟩
 have HX1 : Hid (XS w1 w.heap.size (.int .u8 op) (.int .i64 A) (.int .i64 B) (.slice o n cap)) := by
  unfold Hid XS
  rw [b1.block w.heap.size (by simp)]
  exact new_block _ _
 obtain ⟨x0, x1, x2, x3⟩ := XS.cell HX1.out
 have HB1 : Hid (Below w.heap.size w w1) := ((Below.refl _ _).alloc (Nat.le_refl _) _).trans (b1.mono (by simp))
 clear b1 HC
 go_wp2_with fail
 refine (HOp.out _).mono ?_
 rintro e w2 ⟨rfl, b2⟩
 have HX2 : Hid (type_of% (XS.under HX1.out b2)) := XS.under HX1.out b2
 have HB2 : Hid (Below w.heap.size w w2) := HB1.out.trans (b2.mono HB1.out.size)
 obtain ⟨x0, x1, x2, x3⟩ := XS.cell HX2.out
 clear b2 HX1 HB1 HOp
 go_wp2_with fail
 refine (HB.out _ HB2.out).mono ?_
 rintro e w3 ⟨rfl, b3⟩
 have HX3 : Hid (type_of% (XS.under HX2.out b3)) := XS.under HX2.out b3
 have HB3 : Hid (Below w.heap.size w w3) := HB2.out.trans (b3.mono HB2.out.size)
 have hX3 : w.heap.size < w3.heap.size := HX3.out.lt
 clear b3 HX2 HB2 HB
 have HS0 : Hid (WrS w (w3.iter F 0) w.heap.size w3.heap.size F 0 op A B o n cap) :=
  ⟨Nat.le_refl _, by omega, by omega, XS.under HX3.out ((Below.refl _ _).alloc (Nat.le_refl _) _), World.iter_heap _ _ _, HB3.out.alloc (by omega) _⟩
 have HO0 : Hid (nums (strOfNums [op]) = op :: []) := nums_str (by intro b hb; simp at hb; subst hb; omega)
 have hz0 : (strOfNums [op]).size = 0 + 1 := by rw [strOfNums_size]; rfl
 generalize strOfNums [op] = out0 at HO0 hz0 ⊢
 clear HX3 HB3 x0 x1 x2 x3
 go_wp2
 go_loopw [5] (fun v wr => ∃ pos : Nat, ∃ out : ByteArray, ∃ T : List Int, v = .string out ∧ pos ≤ F.size ∧ out.size = T.length + 1 ∧ T.length ≤ 200 * pos ∧ Hid (nums out = op :: T) ∧ Hid (T ++ ((nums F).drop pos).flatMap (wLet A B xs) = L) ∧ Hid (WrS w wr w.heap.size w3.heap.size F pos op A B o n cap)) (fun _ wr => F.size - wr.iterPos w3.heap.size)
 case atStart => exact ⟨0, out0, [], rfl, by omega, hz0, by simp, HO0, HL0, HS0⟩
 case round =>
  obtain ⟨pos, out, T, rfl, hpos, hsz, hT, HO, HL, HS⟩ := hrel
  clear HS0 HO0 hz0 HL0
  by_cases hp : pos < F.size
  ·have hc := HAsk.out pos hp
   have hcs := letters_get F pos hp
   have h128 : (F[pos]'hp).toNat < 128 := by unfold wAsk at hc; omega
   have hnx : ∀ ty, (Instr.next (.pointer (some ⟨w3.heap.size, 0, none⟩)) true ty).run Tryz.prog wr = .ok (.tuple #[.bool true, .int .i64 pos, .int .i32 (F[pos]'hp).toNat]) (wr.iterAt w3.heap.size F (pos + 1)) := fun ty => Lib.run_next_ascii_at wr w3.heap.size F pos ty HS.out.iter hp h128
   have S1 : Hid (type_of% (HS.out.next (pos + 1))) := HS.out.next (pos + 1)
   obtain ⟨w1, hw1⟩ : ∃ w1, wr.iterAt w3.heap.size F (pos + 1) = w1 := ⟨_, rfl⟩
   rw [hw1] at hnx S1
   have HQ1 : Hid (T ++ wLet A B xs ((F[pos]'hp).toNat : Int) ++ ((nums F).drop (pos + 1)).flatMap (wLet A B xs) = L) := by
    unfold Hid
    rw [List.append_assoc, ← List.flatMap_cons, ← hcs]
    exact HL.out
   obtain ⟨x0, x1, x2, x3⟩ := XS.cell S1.out.ins
   clear hw1 hcs h128 HL
   have hpw : (pos : Int) < (F.size : Int) := by omega
   generalize (F[pos]'hp).toNat = c at hc hnx HQ1
   rcases hc with ⟨rfl, a0, a1⟩ | ⟨rfl, hnA⟩ | ⟨rfl, hnB⟩ | rfl | rfl | rfl | ⟨rfl, hn16, hnA, hxs⟩
   ·obtain ⟨p, hp1, hp2, HP⟩ : ∃ p : ByteArray, p.size ≤ 10 ∧ nums p = [A] ∧ Hid (∀ w, Calls Tryz.prog 28 #[.int .i64 A] w fun e w' => e = .returned (.string p) ∧ Below w.heap.size w w') := ⟨strOfNums [A], by rw [strOfNums_size]; simp, nums_str (by intro b hb; simp at hb; subst hb; omega), fun w => chr_any A a0 (by omega) w⟩
    have hps : p.size = ([A]).length := by rw [← hp2, nums_length]
    have HO2 : Hid (nums (out ++ p) = op :: (T ++ [A])) := nums_cat HO.out hp2
    have HQ2 : Hid ((T ++ [A]) ++ ((nums F).drop (pos + 1)).flatMap (wLet A B xs) = L) := HQ1
    have hz2 : (out ++ p).size = (T ++ [A]).length + 1 := by rw [ByteArray.size_append, List.length_append, hsz, hps]; omega
    have hT2 : (T ++ [A]).length ≤ 200 * (pos + 1) := by rw [List.length_append, ← hps]; omega
    have hsum : out.size + p.size ≤ 9223372036854775807 := by omega
    clear HQ1 HO hps hp2
    generalize T ++ [A] = T2 at HO2 HQ2 hz2 hT2
    go_wp2_with fail
    refine (HP.out _).mono ?_
    rintro e w2 ⟨rfl, b2⟩
    have HS2 : Hid (type_of% (S1.out.under b2)) := S1.out.under b2
    clear b2 S1
    go_wp2
    go_roundw
    case rel => exact ⟨pos + 1, out ++ p, T2, rfl, by omega, hz2, hT2, HO2, HQ2, HS2⟩
    case measure =>
     rw [iterPos_of HS.out.iter, iterPos_of HS2.out.iter]
     omega
   ·have hbb : 0 ≤ A ∧ A ≤ 4294967295 := hnA
    obtain ⟨hb0, hb1⟩ := hbb
    obtain ⟨p, hp1, hp2, HP⟩ : ∃ p : ByteArray, p.size ≤ 10 ∧ nums p = uB A.toNat ∧ Hid (∀ w, Calls Tryz.prog 94 #[.int .u64 (A : Int)] w fun e w' => e = .returned (.string p) ∧ Below w.heap.size w w') := ⟨strOfNums (uB A.toNat), by rw [strOfNums_size]; exact uB_num A hnA, nums_u _, fun w => by rw [show A = ((A.toNat : Nat) : Int) by omega]; exact refU_any A.toNat (by omega) w⟩
    have hps : p.size = (uB A.toNat).length := by rw [← hp2, nums_length]
    have HO2 : Hid (nums (out ++ p) = op :: (T ++ uB A.toNat)) := nums_cat HO.out hp2
    have HQ2 : Hid ((T ++ uB A.toNat) ++ ((nums F).drop (pos + 1)).flatMap (wLet A B xs) = L) := HQ1
    have hz2 : (out ++ p).size = (T ++ uB A.toNat).length + 1 := by rw [ByteArray.size_append, List.length_append, hsz, hps]; omega
    have hT2 : (T ++ uB A.toNat).length ≤ 200 * (pos + 1) := by rw [List.length_append, ← hps]; omega
    have hsum : out.size + p.size ≤ 9223372036854775807 := by omega
    clear HQ1 HO hps hp2
    generalize T ++ uB A.toNat = T2 at HO2 HQ2 hz2 hT2
    go_wp2_with fail
    refine (HP.out _).mono ?_
    rintro e w2 ⟨rfl, b2⟩
    have HS2 : Hid (type_of% (S1.out.under b2)) := S1.out.under b2
    clear b2 S1
    go_wp2
    go_roundw
    case rel => exact ⟨pos + 1, out ++ p, T2, rfl, by omega, hz2, hT2, HO2, HQ2, HS2⟩
    case measure =>
     rw [iterPos_of HS.out.iter, iterPos_of HS2.out.iter]
     omega
   ·have hbb : 0 ≤ B ∧ B ≤ 4294967295 := hnB
    obtain ⟨hb0, hb1⟩ := hbb
    obtain ⟨p, hp1, hp2, HP⟩ : ∃ p : ByteArray, p.size ≤ 10 ∧ nums p = uB B.toNat ∧ Hid (∀ w, Calls Tryz.prog 94 #[.int .u64 (B : Int)] w fun e w' => e = .returned (.string p) ∧ Below w.heap.size w w') := ⟨strOfNums (uB B.toNat), by rw [strOfNums_size]; exact uB_num B hnB, nums_u _, fun w => by rw [show B = ((B.toNat : Nat) : Int) by omega]; exact refU_any B.toNat (by omega) w⟩
    have hps : p.size = (uB B.toNat).length := by rw [← hp2, nums_length]
    have HO2 : Hid (nums (out ++ p) = op :: (T ++ uB B.toNat)) := nums_cat HO.out hp2
    have HQ2 : Hid ((T ++ uB B.toNat) ++ ((nums F).drop (pos + 1)).flatMap (wLet A B xs) = L) := HQ1
    have hz2 : (out ++ p).size = (T ++ uB B.toNat).length + 1 := by rw [ByteArray.size_append, List.length_append, hsz, hps]; omega
    have hT2 : (T ++ uB B.toNat).length ≤ 200 * (pos + 1) := by rw [List.length_append, ← hps]; omega
    have hsum : out.size + p.size ≤ 9223372036854775807 := by omega
    clear HQ1 HO hps hp2
    generalize T ++ uB B.toNat = T2 at HO2 HQ2 hz2 hT2
    go_wp2_with fail
    refine (HP.out _).mono ?_
    rintro e w2 ⟨rfl, b2⟩
    have HS2 : Hid (type_of% (S1.out.under b2)) := S1.out.under b2
    clear b2 S1
    go_wp2
    go_roundw
    case rel => exact ⟨pos + 1, out ++ p, T2, rfl, by omega, hz2, hT2, HO2, HQ2, HS2⟩
    case measure =>
     rw [iterPos_of HS.out.iter, iterPos_of HS2.out.iter]
     omega
   ·obtain ⟨p, hp1, hp2, HP⟩ : ∃ p : ByteArray, p.size ≤ 10 ∧ nums p = ([0] : List Int) ∧ Hid (∀ w, Calls Tryz.prog 28 #[.int .i64 0] w fun e w' => e = .returned (.string p) ∧ Below w.heap.size w w') := ⟨strOfNums [0], by rw [strOfNums_size]; simp, nums_str (by intro b hb; simp at hb; subst hb; omega), fun w => chr_any 0 (by omega) (by omega) w⟩
    have hps : p.size = (([0] : List Int)).length := by rw [← hp2, nums_length]
    have HO2 : Hid (nums (out ++ p) = op :: (T ++ ([0] : List Int))) := nums_cat HO.out hp2
    have HQ2 : Hid ((T ++ ([0] : List Int)) ++ ((nums F).drop (pos + 1)).flatMap (wLet A B xs) = L) := HQ1
    have hz2 : (out ++ p).size = (T ++ ([0] : List Int)).length + 1 := by rw [ByteArray.size_append, List.length_append, hsz, hps]; omega
    have hT2 : (T ++ ([0] : List Int)).length ≤ 200 * (pos + 1) := by rw [List.length_append, ← hps]; omega
    have hsum : out.size + p.size ≤ 9223372036854775807 := by omega
    clear HQ1 HO hps hp2
    generalize T ++ ([0] : List Int) = T2 at HO2 HQ2 hz2 hT2
    go_wp2_with fail
    refine (HP.out _).mono ?_
    rintro e w2 ⟨rfl, b2⟩
    have HS2 : Hid (type_of% (S1.out.under b2)) := S1.out.under b2
    clear b2 S1
    go_wp2
    go_roundw
    case rel => exact ⟨pos + 1, out ++ p, T2, rfl, by omega, hz2, hT2, HO2, HQ2, HS2⟩
    case measure =>
     rw [iterPos_of HS.out.iter, iterPos_of HS2.out.iter]
     omega
   ·obtain ⟨p, hp1, hp2, HP⟩ : ∃ p : ByteArray, p.size ≤ 10 ∧ nums p = sB A ∧ Hid (∀ w, Calls Tryz.prog 92 #[.int .i64 A] w fun e w' => e = .returned (.string p) ∧ Below w.heap.size w w') := ⟨strOfNums (sB A), by rw [strOfNums_size]; exact sB_len64 A HAr.out.1 HAr.out.2, nums_str (sB_byte A), fun w => refS_any A HAr.out.1 HAr.out.2 w⟩
    have hps : p.size = (sB A).length := by rw [← hp2, nums_length]
    have HO2 : Hid (nums (out ++ p) = op :: (T ++ sB A)) := nums_cat HO.out hp2
    have HQ2 : Hid ((T ++ sB A) ++ ((nums F).drop (pos + 1)).flatMap (wLet A B xs) = L) := HQ1
    have hz2 : (out ++ p).size = (T ++ sB A).length + 1 := by rw [ByteArray.size_append, List.length_append, hsz, hps]; omega
    have hT2 : (T ++ sB A).length ≤ 200 * (pos + 1) := by rw [List.length_append, ← hps]; omega
    have hsum : out.size + p.size ≤ 9223372036854775807 := by omega
    clear HQ1 HO hps hp2
    generalize T ++ sB A = T2 at HO2 HQ2 hz2 hT2
    go_wp2_with fail
    refine (HP.out _).mono ?_
    rintro e w2 ⟨rfl, b2⟩
    have HS2 : Hid (type_of% (S1.out.under b2)) := S1.out.under b2
    clear b2 S1
    go_wp2
    go_roundw
    case rel => exact ⟨pos + 1, out ++ p, T2, rfl, by omega, hz2, hT2, HO2, HQ2, HS2⟩
    case measure =>
     rw [iterPos_of HS.out.iter, iterPos_of HS2.out.iter]
     omega
   ·obtain ⟨p, hp1, hp2, HP⟩ : ∃ p : ByteArray, p.size ≤ 10 ∧ nums p = sB A ∧ Hid (∀ w, Calls Tryz.prog 92 #[.int .i64 A] w fun e w' => e = .returned (.string p) ∧ Below w.heap.size w w') := ⟨strOfNums (sB A), by rw [strOfNums_size]; exact sB_len64 A HAr.out.1 HAr.out.2, nums_str (sB_byte A), fun w => refS_any A HAr.out.1 HAr.out.2 w⟩
    have hps : p.size = (sB A).length := by rw [← hp2, nums_length]
    have HO2 : Hid (nums (out ++ p) = op :: (T ++ sB A)) := nums_cat HO.out hp2
    have HQ2 : Hid ((T ++ sB A) ++ ((nums F).drop (pos + 1)).flatMap (wLet A B xs) = L) := HQ1
    have hz2 : (out ++ p).size = (T ++ sB A).length + 1 := by rw [ByteArray.size_append, List.length_append, hsz, hps]; omega
    have hT2 : (T ++ sB A).length ≤ 200 * (pos + 1) := by rw [List.length_append, ← hps]; omega
    have hsum : out.size + p.size ≤ 9223372036854775807 := by omega
    clear HQ1 HO hps hp2
    generalize T ++ sB A = T2 at HO2 HQ2 hz2 hT2
    go_wp2_with fail
    refine (HP.out _).mono ?_
    rintro e w2 ⟨rfl, b2⟩
    have HS2 : Hid (type_of% (S1.out.under b2)) := S1.out.under b2
    clear b2 S1
    go_wp2
    go_roundw
    case rel => exact ⟨pos + 1, out ++ p, T2, rfl, by omega, hz2, hT2, HO2, HQ2, HS2⟩
    case measure =>
     rw [iterPos_of HS.out.iter, iterPos_of HS2.out.iter]
     omega
   ·obtain ⟨i0, hi, hz0, hz1, hz2⟩ := info_parts Tryz.infoI64
    obtain ⟨p, hp1, hp2, HP⟩ : ∃ p : ByteArray, p.size ≤ 10 ∧ nums p = uB n ∧ Hid (∀ w, Calls Tryz.prog 94 #[.int .u64 (n : Int)] w fun e w' => e = .returned (.string p) ∧ Below w.heap.size w w') :=
     ⟨strOfNums (uB n), by rw [strOfNums_size]; have := uB_num (n : Int) ⟨by omega, by omega⟩; simpa using this, nums_u _, fun w => refU_any n (by omega) w⟩
    have hps : p.size = (uB n).length := by rw [← hp2, nums_length]
    have HO2 : Hid (nums (out ++ p) = op :: (T ++ uB n)) := nums_cat HO.out hp2
    have HLx : Hid (xs.length = n) := HJ.out.1
    have HQ2 : Hid ((T ++ uB n) ++ (((xs ++ [A]).flatMap fun x => uB x.toNat) ++ ((nums F).drop (pos + 1)).flatMap (wLet A B xs)) = L) := by
     have := HQ1.out
     rw [wLet] at this
     unfold Hid
     rw [← this, ← HLx.out]
     simp [List.append_assoc]
    have hzz : (out ++ p).size = (T ++ uB n).length + 1 := by rw [ByteArray.size_append, List.length_append, hsz, hps]; omega
    have hTT : (T ++ uB n).length ≤ 200 * pos + 10 := by rw [List.length_append, ← hps]; omega
    have hsum : out.size + p.size ≤ 9223372036854775807 := by omega
    have HNum : Hid (∀ x ∈ xs ++ [A], isNum x) := by
     intro x hx
     rcases List.mem_append.1 hx with h | h
     ·exact hxs x h
     ·simp at h; subst h; exact hnA
    clear HQ1 HO hps hp2 hxs hnA
    generalize T ++ uB n = T1 at HO2 HQ2 hzz hTT
    have hni : (n : Int) ≤ 16 := by omega
    go_wp2_with fail
    refine (HP.out _).mono ?_
    rintro e w2 ⟨rfl, b2⟩
    have S2 : Hid (type_of% (S1.out.under b2)) := S1.out.under b2
    clear b2 S1 HP
    obtain ⟨x0, x1, x2, x3⟩ := XS.cell S2.out.ins
    have HCP : Hid (∀ w', Below w.heap.size w w' → Calls Tryz.prog 209 #[.slice o n cap] w' fun e w'' => ∃ v, e = .returned v ∧ w''.ownsRow w'.heap.size 2 1 v n (xs.map (Value.int .i64)) ∧ Below w'.heap.size w' w'') := fun w' b => copyI_any o n cap xs Hnil.out hn16 w' (HJ.out.below b)
    have hw2 : w.heap.size ≤ w2.heap.size := S2.out.below.size
    have hX2 : w.heap.size < w2.heap.size := XS.lt S2.out.ins
    have hI2 : w3.heap.size < w2.heap.size := S2.out.lt
    have HXI : Hid (w.heap.size ≠ w3.heap.size) := S2.out.xi
    go_wp2
    go_region_law (first
     | ((refine step_append_lies _ (by rfl) _ _ _ (by rfl) w2.heap.size 2 i0 _ 1 8 Tryz.underlying159 hi hz0 hz1 hz2 rfl (by omega) vc n (xs.map (Value.int .i64)) (by rfl) (HOC.out.alloc _)
           ⟨w5.heap.size, 0, none⟩ 1 1 [.int .i64 A] (by rfl) (by rfl) (World.news_of_block (cs := #[.int .i64 A]) (t := 2) (fr := (0, 0)) (heap_alloc_new w5 _)) (by simp [Value.oneCell'])
           (by omega) (by unfold maxLen; omega) (by omega) (by simp; omega) (w5.heap.size + 1) (by simp) ?_; intro gg capg w7 hown7 hgrow hat hlt7; have HS7 : Hid (WrS w w7 w.heap.size w3.heap.size F (pos + 1) op A B o n cap) := (HS5.out.under ((Below.refl _ _).alloc (Nat.le_refl _) _)).grown hgrow (fun k hk => ⟨by have := (HOC.out.lt k hk).1; omega, by have := (HOC.out.lt k hk).1; omega, by have := (HOC.out.lt k hk).1; omega⟩)))
     | ((refine step_append_lies _ (by rfl) _ _ _ (by rfl) w2.heap.size 2 i0 _ 1 8 Tryz.underlying159 hi hz0 hz1 hz2 rfl (by omega) vc n (xs.map (Value.int .i64)) (by rfl) HOC.out
           ⟨w2.heap.size, 0, none⟩ 1 1 [.int .i64 A] (by rfl) (by rfl) (World.news_of_block (cs := #[.int .i64 A]) (t := 2) (fr := (0, 0)) HNC.out) (by simp [Value.oneCell'])
           (by omega) (by unfold maxLen; omega) (by omega) (by omega) w5.heap.size rfl ?_; intro gg capg w7 hown7 hgrow hat hlt7; have HS7 : Hid (WrS w w7 w.heap.size w3.heap.size F (pos + 1) op A B o n cap) := HS5.out.grown hgrow (fun k hk => ⟨by have := (HOC.out.lt k hk).1; omega, by have := (HOC.out.lt k hk).1; omega, by have := (HOC.out.lt k hk).1; omega⟩)))
     | (go_simp; go_at_call 209; refine (HCP.out _ (by first | exact S2.out.below.drew | exact S2.out.below.drew.alloc hw2 _)).mono ?_; rintro e w5 ⟨vc, rfl, hoc, b5⟩; have hw5 : w2.heap.size ≤ w5.heap.size := (by have := b5.size; simp at this; omega); have HOC : Hid (w5.ownsRow w2.heap.size 2 1 vc n (xs.map (Value.int .i64))) := ownsRow_down hoc (by simp); have HS5 : Hid (WrS w w5 w.heap.size w3.heap.size F (pos + 1) op A B o n cap) := (by first | exact S2.out.drew.under b5 | exact (S2.out.drew.under ((Below.refl _ _).alloc (Nat.le_refl _) _)).under b5); (try (have HNC : Hid (w5.heap[w2.heap.size]? = some (.cells #[.int .i64 A] 2 (0, 0))) := (by unfold Hid; rw [b5.block w2.heap.size (by simp)]; exact heap_alloc_new w2.drew _))); obtain ⟨y0, y1, y2, y3⟩ := XS.cell HS5.out.ins; clear hoc b5))
    all_goals
     have HOW : Hid (w7.ownsRow w2.heap.size 2 1 (.slice (some ⟨gg, 0, none⟩) (n + 1) capg) (n + 1) ((xs ++ [A]).map (Value.int .i64))) := by
      unfold Hid
      rw [List.map_append]
      exact hown7
     clear hown7 hgrow hat hlt7 HOC HS5 HCP S2
     have HLA : Hid ((xs ++ [A]).length = n + 1) := by unfold Hid; rw [List.length_append, HLx.out]; rfl
     have hn1 : ((n : Int) + 1) ≤ 17 := by omega
     go_wp2
     try simp only [List.getElem_toArray, List.getElem_cons_succ, List.getElem_cons_zero, Act.put, List.setIfInBounds_toArray, List.set_cons_zero, List.set_cons_succ]
     go_loopw [5, 80] (fun v i wt => ∃ j : Nat, ∃ out2 : ByteArray, ∃ T2 : List Int, v = .string out2 ∧ i = .int .i64 j ∧ j ≤ n + 1 ∧ out2.size = T2.length + 1 ∧ T2.length ≤ 200 * pos + 10 + 10 * j ∧ Hid (nums out2 = op :: T2) ∧ Hid (T2 = T1 ++ ((xs ++ [A]).take j).flatMap fun x => uB x.toNat) ∧ Hid (WrS w wt w.heap.size w3.heap.size F (pos + 1) op A B o n cap) ∧ Hid (wt.ownsRow w2.heap.size 2 1 (.slice (some ⟨gg, 0, none⟩) (n + 1) capg) (n + 1) ((xs ++ [A]).map (Value.int .i64)))) (fun _ i _ => n + 1 - (intOf i).toNat)
     case atStart => exact ⟨0, _, T1, rfl, rfl, by omega, hzz, by omega, HO2, by unfold Hid; simp, HS7, HOW⟩
     case round =>
      obtain ⟨j, out2, T2, rfl, rfl, hj, hsz2, hT2, HO3, HT3, HS8, HOW2⟩ := hrel
      clear HO2 HS7 HOW hzz hTT
      by_cases hlt : j < n + 1
      ·have hjl : j < (xs ++ [A]).length := by rw [HLA.out]; exact hlt
       have hcell : wr.cell? ⟨gg, j, none⟩ = some (.int .i64 ((xs ++ [A])[j]'hjl)) := by
        rw [HOW2.out.cellAt j (by omega), List.getElem?_map, List.getElem?_eq_getElem hjl]
        rfl
       have hny : isNum ((xs ++ [A])[j]'hjl) := HNum.out _ (List.getElem_mem hjl)
       have HT4 : Hid (T1 ++ (((xs ++ [A]).take (j + 1)).flatMap fun x => uB x.toNat) = T2 ++ uB ((xs ++ [A])[j]'hjl).toNat) := by
        unfold Hid
        rw [List.take_succ_eq_append_getElem hjl, List.flatMap_append, HT3.out, List.append_assoc]
        simp
       generalize (xs ++ [A])[j]'hjl = y at hcell hny HT4
       obtain ⟨hy0, hy1⟩ := hny
       obtain ⟨q, hq1, hq2, HQ⟩ : ∃ q : ByteArray, q.size ≤ 10 ∧ nums q = uB y.toNat ∧ Hid (∀ w, Calls Tryz.prog 94 #[.int .u64 y] w fun e w' => e = .returned (.string q) ∧ Below w.heap.size w w') :=
        ⟨strOfNums (uB y.toNat), by rw [strOfNums_size]; exact uB_num y ⟨hy0, hy1⟩, nums_u _, fun w => by rw [show y = ((y.toNat : Nat) : Int) by omega]; exact refU_any y.toNat (by omega) w⟩
       have hqs : q.size = (uB y.toNat).length := by rw [← hq2, nums_length]
       have HO4 : Hid (nums (out2 ++ q) = op :: (T2 ++ uB y.toNat)) := nums_cat HO3.out hq2
       have hsz3 : (out2 ++ q).size = (T2 ++ uB y.toNat).length + 1 := by rw [ByteArray.size_append, List.length_append, hsz2, hqs]; omega
       have hT5 : (T2 ++ uB y.toNat).length ≤ 200 * pos + 10 + 10 * (j + 1) := by rw [List.length_append, ← hqs]; omega
       have hsum2 : out2.size + q.size ≤ 9223372036854775807 := by omega
       have hji0 : (0 : Int) ≤ (j : Int) := by omega
       have hji1 : (j : Int) < (n : Int) + 1 := by omega
       clear HT3 HO3 hqs hq2 hjl
       generalize T2 ++ uB y.toNat = T3 at HO4 HT4 hsz3 hT5
       go_wp2_with fail
       refine (HQ.out _).mono ?_
       rintro e w8 ⟨rfl, b8⟩
       have HS9 : Hid (type_of% (HS8.out.under b8)) := HS8.out.under b8
       have HOW3 : Hid (type_of% (own_under HOW2.out b8)) := own_under HOW2.out b8
       clear b8 HQ HS8 HOW2
       go_wp2
       go_roundw
       case rel => exact ⟨j + 1, out2 ++ q, T3, rfl, by go_num, by omega, hsz3, hT5, HO4, HT4.out.symm, HS9, HOW3⟩
       case measure => simp [intOf]; omega
      ·have hjn : j = n + 1 := by omega
       have HT4 : Hid (T2 ++ ((nums F).drop (pos + 1)).flatMap (wLet A B xs) = L) := by
        unfold Hid
        rw [HT3.out, List.take_of_length_le (by rw [HLA.out]; omega), List.append_assoc]
        exact HQ2.out
       have hT6 : T2.length ≤ 200 * (pos + 1) := by omega
       have hge : (n : Int) + 1 ≤ (j : Int) := by omega
       clear HT3 HOW2 hT2
       go_wp2
       go_roundw
       case rel => exact ⟨pos + 1, out2, T2, rfl, by omega, hsz2, hT6, HO3, HT4, HS8⟩
       case measure =>
        rw [iterPos_of HS.out.iter, iterPos_of HS8.out.iter]
        omega
  ·have hnx : ∀ ty, (Instr.next (.pointer (some ⟨w3.heap.size, 0, none⟩)) true ty).run Tryz.prog wr = .ok (.tuple #[.bool false]) wr := fun ty => Lib.run_next_end_at wr w3.heap.size F pos ty HS.out.iter hp
   have HE : Hid (T = L) := by
    have := HL.out
    rw [List.drop_eq_nil_of_le (by rw [nums_length]; omega)] at this
    unfold Hid
    simpa using this
   have HBE : Hid (Below w.heap.size w wr) := HS.out.below
   clear HL
   go_wp2
   go_ret2
   exact ⟨out, rfl, by rw [HO.out, HE.out], HBE.out⟩
end Go.Proofs.YtakpkdckajjooaaGreatDoor
namespace Go.Proofs.YtakpkdckajjooaaGreatDoor
open Go.RowKit
theorem nums_injR {a b : ByteArray} (h : nums a = nums b) : a = b := by
 unfold nums at h
 have h2 : a.data.toList = b.data.toList := (List.map_inj_right (fun x y hxy => UInt8.toNat_inj.1 (by omega))).1 h
 exact ByteArray.ext (Array.toList_inj.1 h2)
theorem str_of_nums {t : ByteArray} {L : List Int} (h : nums t = L) : t = strOfNums L := by
 subst h
 have h1 : nums (strOfNums (nums t)) = nums t := nums_str (nums_byte t)
 exact (nums_injR h1).symm
theorem flat_letF (k A B : Int) (xs : List Int) (h1 : 1 ≤ k) (h9 : k ≤ 9) : (nums (letF k)).flatMap (wLet A B xs) = besT k A B xs := by
 rw [nums_letF]
 rcases (show k = 1 ∨ k = 2 ∨ k = 3 ∨ k = 4 ∨ k = 5 ∨ k = 6 ∨ k = 7 ∨ k = 8 ∨ k = 9 by omega) with rfl | rfl | rfl | rfl | rfl | rfl | rfl | rfl | rfl
 all_goals simp [wLet, besT]
theorem ask_letF (k A B : Int) (n : Nat) (xs : List Int) (hc : fitC k A B xs) (hl : xs.length = n) : ∀ pos (h : pos < (letF k).size), wAsk A B n xs ((letF k)[pos]'h).toNat := by
 have one : ∀ (c : UInt8), wAsk A B n xs c.toNat → ∀ pos (h : pos < (⟨#[c]⟩ : ByteArray).size), wAsk A B n xs ((⟨#[c]⟩ : ByteArray)[pos]'h).toNat := by
  intro c hc pos h
  have h1 : (⟨#[c]⟩ : ByteArray).size = 1 := rfl
  obtain rfl : pos = 0 := by omega
  exact hc
 have two : ∀ (c d : UInt8), wAsk A B n xs c.toNat → wAsk A B n xs d.toNat → ∀ pos (h : pos < (⟨#[c, d]⟩ : ByteArray).size), wAsk A B n xs ((⟨#[c, d]⟩ : ByteArray)[pos]'h).toNat := by
  intro c d hc hd pos h
  have h1 : (⟨#[c, d]⟩ : ByteArray).size = 2 := rfl
  rcases (show pos = 0 ∨ pos = 1 by omega) with rfl | rfl
  ·exact hc
  ·exact hd
 unfold fitC at hc
 rcases hc with ⟨rfl, _⟩ | ⟨rfl, hk, _⟩ | ⟨rfl, hn, _⟩ | ⟨rfl, hn, _, hx, hall⟩ | ⟨rfl, hn, _⟩ | ⟨rfl, hn, hm, _⟩ | ⟨rfl, _⟩ | ⟨rfl, _⟩ | ⟨rfl, _⟩
 ·intro pos h
  have h1 : (letF 1).size = 0 := rfl
  omega
 ·exact one 107 (Or.inl ⟨rfl, isKB_range hk⟩)
 ·exact one 97 (Or.inr (Or.inl ⟨rfl, hn⟩))
 ·exact one 116 (Or.inr (Or.inr (Or.inr (Or.inr (Or.inr (Or.inr ⟨rfl, by omega, hn, hall⟩))))))
 ·exact two 97 122 (Or.inr (Or.inl ⟨rfl, hn⟩)) (Or.inr (Or.inr (Or.inr (Or.inl rfl))))
 ·exact two 97 98 (Or.inr (Or.inl ⟨rfl, hn⟩)) (Or.inr (Or.inr (Or.inl ⟨rfl, hm⟩)))
 ·exact one 122 (Or.inr (Or.inr (Or.inr (Or.inl rfl))))
 ·exact one 99 (Or.inr (Or.inr (Or.inr (Or.inr (Or.inl rfl)))))
 ·exact one 100 (Or.inr (Or.inr (Or.inr (Or.inr (Or.inr (Or.inl rfl))))))
theorem letF_size (k : Int) : (letF k).size ≤ 2 := by
 unfold letF
 repeat' split
 all_goals decide
def wrT (op A B : Int) (n : Nat) (xs : List Int) : ByteArray := if chkV op A B n xs = 0 then strOfNums (op :: besT (besV op) A B xs) else ⟨#[]⟩
theorem chk_fit (op A B : Int) (n : Nat) (xs : List Int) (hl : xs.length = n) (h : chkV op A B n xs = 0) : n ≤ 16 ∧ fitC (besV op) A B xs ∧ 1 ≤ besV op := by
 have hrg := besV_range op
 unfold chkV at h
 split at h
 ·omega
 ·split at h
  ·omega
  ·split at h
   ·rename_i h1 h2 h3
    exact ⟨by omega, fitB_fit (besV op) A B n xs (by omega) hrg.2 hl (by omega) h3, by omega⟩
   ·omega
theorem rwrite_any (op A B : Int) (o : Option Addr) (n cap : Nat) (xs : List Int) (h0 : 0 ≤ op) (h1 : op ≤ 255) (hA : -9223372036854775808 ≤ A ∧ A ≤ 9223372036854775807) (hcap : n ≤ cap) (hnil : o = none → cap = 0) (w : World) (h : LJ w o n xs) (hM : MaxIn w) :
  Calls Tryz.prog 180 #[.agg #[.int .u8 op, .int .i64 A, .int .i64 B, .slice o n cap]] w fun r w' => r = .returned (.tuple #[.string (wrT op A B n xs), .int .i64 (chkV op A B n xs)]) ∧ Below w.heap.size w w' := by
 have hck : ∀ w', Below w.heap.size w w' → Calls Tryz.prog 173 #[.agg #[.int .u8 op, .int .i64 A, .int .i64 B, .slice o n cap]] w' fun r w'' => r = .returned (.int .i64 (chkV op A B n xs)) ∧ Below w'.heap.size w' w'' := fun w' b => rcheck_any op A B o n cap xs h0 h1 hcap w' (h.below b) (hM.below b)
 have hbes : ∀ w', Below w.heap.size w w' → Calls Tryz.prog 201 #[.int .u8 op] w' fun e w'' => e = .returned (.string (letF (besV op))) ∧ Below w'.heap.size w' w'' := fun w' b => by
  obtain ⟨k, rfl⟩ : ∃ k : Nat, op = (k : Int) := ⟨op.toNat, by omega⟩
  rw [← bes_letF k (by omega)]
  exact rbeside_any k (by omega) w' (hM.below b)
 unfold wrT
 by_cases hc : chkV op A B n xs = 0
 ·obtain ⟨_, hf, hk1⟩ := chk_fit op A B n xs h.1 hc
  rw [hc] at hck
  rw [if_pos hc, hc]
  refine (rwrite_core op A B o n cap xs (letF (besV op)) (besT (besV op) A B xs) h0 h1 hA (letF_size _) hnil w h hck hbes (ask_letF _ A B n xs hf h.1) (flat_letF _ A B xs hk1 (besV_range op).2)).mono ?_
  rintro r w' ⟨t, rfl, ht, b⟩
  rw [str_of_nums ht]
  exact ⟨rfl, b⟩
 ·rw [if_neg hc]
  exact rwrite_err op A B _ o n cap (by rw [beq_eq_false_iff_ne]; exact hc) w hck
end Go.Proofs.YtakpkdckajjooaaGreatDoor
