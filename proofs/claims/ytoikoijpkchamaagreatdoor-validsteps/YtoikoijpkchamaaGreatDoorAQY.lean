/-
 What the document's own InsPlain does.
 The document's own Eq of two lists of numbers: whether they are one.
-/
import Derived.Test.YtoikoijpkchamaaGreatDoorAGWid
import Derived.Test.YtoikoijpkchamaaGreatDoorAQF
import Derived.Test.YtoikoijpkchamaaGreatDoorAGIns
import Derived.Test.YtoikoijpkchamaaGreatDoorARRd1
import Derived.Laws.AppendOwn
import Derived.Laws.OwnMore
import Derived.Test.YtoikoijpkchamaaGreatDoorAQG
import Derived.Test.YtoikoijpkchamaaGreatDoorAQS
import Derived.Lib.Builder
import Derived.Lib.AppendStr
import Derived.WalkKit
import Derived.Laws.Externs
set_option maxHeartbeats 4000000
set_option maxRecDepth 1000000
namespace Go.Proofs.YtoikoijpkchamaaGreatDoor
set_option linter.unusedVariables false
open Go.RowKit
theorem Tryz.infoK : (Tryz.prog.info? 57).map (fun i => (i.zero, i.size, i.bytes)) = some (some (.int .u8 0), 1, 1) := by kernel_rfl
def kOf (l : List UInt8) : List Int := l.map fun c => if c.toNat = 105 then 127 else 126
theorem kOf_take (l : List UInt8) (k : Nat) (h : k < l.length) : kOf (l.take (k + 1)) = kOf (l.take k) ++ [if (l[k]).toNat = 105 then 127 else 126] := by
 unfold kOf
 rw [List.take_succ_eq_append_getElem h, List.map_append]
 rfl
theorem kindsS_any (s : ByteArray) (hs : s.size ≤ 4) (ha : ∀ pos (h : pos < s.size), (s[pos]'h).toNat < 128) (w : World) :
  Calls Tryz.prog 55 #[.string s] w fun e w' => ∃ v, e = .returned v ∧ w'.ownsRow w.heap.size 57 1 v s.size ((kOf s.data.toList).map (Value.int .u8)) ∧ Below w.heap.size w w' := by
 obtain ⟨i0, hi, hz0, hz1, hz2⟩ := info_parts Tryz.infoK
 have HAs : Hid (∀ pos (h : pos < s.size), (s[pos]'h).toNat < 128) := ha
 clear ha
 go_enter Tryz.func55, Tryz.ntmps55
 go_wp2
 go_loopw [3] (fun v wr => ∃ pos : Nat, ∃ ks : List Int, pos ≤ s.size ∧ wr.ownsRow (w.heap.size + 1) 57 1 v pos (ks.map (Value.int .u8)) ∧ Hid (ks = kOf (s.data.toList.take pos)) ∧ Hid (wr.heap[w.heap.size]? = some (.stringIter s pos)) ∧ Hid (Below w.heap.size w wr)) (fun _ wr => s.size - wr.iterPos w.heap.size)
 case atStart => exact ⟨0, [], by omega, World.ownsRow_nil _ _ _ _, rfl, World.iter_heap _ _ _, (Below.refl _ _).alloc (Nat.le_refl _) _⟩
 case round =>
  obtain ⟨pos, ks, hpos, hown, HK, HI, HB⟩ := hrel
  have hszw : w.heap.size < wr.heap.size := (Array.getElem?_eq_some_iff.1 HI.out).1
  by_cases hp : pos < s.size
  ·have h128 := HAs.out pos hp
   have hnx : ∀ ty, (Instr.next (.pointer (some ⟨w.heap.size, 0, none⟩)) true ty).run Tryz.prog wr = .ok (.tuple #[.bool true, .int .i64 pos, .int .i32 (s[pos]'hp).toNat]) (wr.iterAt w.heap.size s (pos + 1)) := fun ty => Lib.run_next_ascii_at wr w.heap.size s pos ty HI.out hp h128
   have HK1 := kOf_take s.data.toList pos (by simpa using hp)
   have e1 : (s.data.toList[pos]'(by simpa using hp)) = s[pos]'hp := rfl
   rw [e1, ← HK.out] at HK1
   have hown1 : (wr.iterAt w.heap.size s (pos + 1)).ownsRow (w.heap.size + 1) 57 1 u3 pos (ks.map (Value.int .u8)) := ownsRow_iterAt hown (by omega) s (pos + 1)
   have HI1 : Hid ((wr.iterAt w.heap.size s (pos + 1)).heap[w.heap.size]? = some (.stringIter s (pos + 1))) := Lib.iterAt_heap _ _ _ _ _ HI.out
   have HB1 : Hid (Below w.heap.size w (wr.iterAt w.heap.size s (pos + 1))) := Lib.below_iterAt HB.out (Nat.le_refl _) s (pos + 1)
   have hsz1 : w.heap.size < (wr.iterAt w.heap.size s (pos + 1)).heap.size := by rw [Lib.iterAt_size]; exact hszw
   obtain ⟨w1, hw1⟩ : ∃ w1, wr.iterAt w.heap.size s (pos + 1) = w1 := ⟨_, rfl⟩
   rw [hw1] at hnx hown1 HI1 HB1 hsz1
   have HK2 : Hid (kOf (s.data.toList.take (pos + 1)) = ks ++ [if (s[pos]'hp).toNat = 105 then 127 else 126]) := HK1
   clear HK1 e1 hw1 h128 HK hown HB
   have hpi : (pos : Int) < (s.size : Int) := by omega
   generalize (s[pos]'hp).toNat = c at hnx HK2
   by_cases hc : c = 105
   ·subst hc
    rw [if_pos rfl] at HK2
    go_wp2_with (at_builtin; refine wpList_append_own _ rfl _ _ 41 rfl (w.heap.size + 1) 57 i0 (.int .u8 0) 1 1 Tryz.underlying41 hi hz0 hz1 hz2 rfl (by decide) _ _ _ rfl (hown1.alloc _) ⟨_, 0, none⟩ 1 1 [.int .u8 127] rfl rfl ?c1 ?c2 ?c3 ?c4 ?c5 ?_)
    case c1 => exact cell_one_new _ _ _
    case c2 => intro u hu; simp at hu; subst hu; rfl
    case c3 => unfold maxLen; omega
    case c4 => omega
    case c5 => simp; omega
    ·intro v' w2 hown' hgrow _
     have hlt := fun k hk => (hown1.lt k hk).1
     have hown2 : w2.ownsRow (w.heap.size + 1) 57 1 v' (pos + 1) ((ks ++ [127]).map (Value.int .u8)) := by rw [List.map_append]; exact hown'
     have HI2 : Hid (w2.heap[w.heap.size]? = some (.stringIter s (pos + 1))) := by
      unfold Hid
      rw [hgrow.block w.heap.size (by simp; omega) (fun e => by have := hlt w.heap.size e.symm; omega), Below.heap_alloc _ _ _ hsz1]
      exact HI1.out
     have HB2 : Hid (Below w.heap.size w w2) := (HB1.out.alloc (by omega) _).grown hgrow (by simp; omega) (fun j hj => by have := hlt j hj; omega)
     clear hown' hgrow hown1 HI1 HB1 hlt
     go_wp2
     go_roundw
     case rel => exact ⟨pos + 1, _, by omega, hown2, HK2.out.symm, HI2, HB2⟩
     case measure =>
      rw [iterPos_of HI.out, iterPos_of HI2.out]
      omega
   ·rw [if_neg hc] at HK2
    have hcb : ((c : Int) == 105) = false := by rw [beq_eq_false_iff_ne]; omega
    go_wp2_with (at_builtin; refine wpList_append_own _ rfl _ _ 41 rfl (w.heap.size + 1) 57 i0 (.int .u8 0) 1 1 Tryz.underlying41 hi hz0 hz1 hz2 rfl (by decide) _ _ _ rfl (hown1.alloc _) ⟨_, 0, none⟩ 1 1 [.int .u8 126] rfl rfl ?c1 ?c2 ?c3 ?c4 ?c5 ?_)
    case c1 => exact cell_one_new _ _ _
    case c2 => intro u hu; simp at hu; subst hu; rfl
    case c3 => unfold maxLen; omega
    case c4 => omega
    case c5 => simp; omega
    ·intro v' w2 hown' hgrow _
     have hlt := fun k hk => (hown1.lt k hk).1
     have hown2 : w2.ownsRow (w.heap.size + 1) 57 1 v' (pos + 1) ((ks ++ [126]).map (Value.int .u8)) := by rw [List.map_append]; exact hown'
     have HI2 : Hid (w2.heap[w.heap.size]? = some (.stringIter s (pos + 1))) := by
      unfold Hid
      rw [hgrow.block w.heap.size (by simp; omega) (fun e => by have := hlt w.heap.size e.symm; omega), Below.heap_alloc _ _ _ hsz1]
      exact HI1.out
     have HB2 : Hid (Below w.heap.size w w2) := (HB1.out.alloc (by omega) _).grown hgrow (by simp; omega) (fun j hj => by have := hlt j hj; omega)
     clear hown' hgrow hown1 HI1 HB1 hlt
     go_wp2
     go_roundw
     case rel => exact ⟨pos + 1, _, by omega, hown2, HK2.out.symm, HI2, HB2⟩
     case measure =>
      rw [iterPos_of HI.out, iterPos_of HI2.out]
      omega
  ·have hnx : ∀ ty, (Instr.next (.pointer (some ⟨w.heap.size, 0, none⟩)) true ty).run Tryz.prog wr = .ok (.tuple #[.bool false]) wr := fun ty => Lib.run_next_end_at wr w.heap.size s pos ty HI.out hp
   have hps : pos = s.size := by omega
   have HE : Hid (ks = kOf s.data.toList) := by
    have := HK.out
    rw [List.take_of_length_le (by rw [hps]; exact Nat.le_refl _)] at this
    exact this
   have HOW : Hid (wr.ownsRow w.heap.size 57 1 u3 s.size ((kOf s.data.toList).map (Value.int .u8))) := by
    rw [HE.out, hps] at hown
    exact ownsRow_down hown (by omega)
   clear hown HK
   go_wp2
   go_ret
   exact ⟨_, rfl, HOW.out, HB.out⟩
theorem ownK_under {w1 w2 : World} {base k : Nat} {v : Value} {xs : List Value} (h : w1.ownsRow base 57 1 v k xs) (b : Below w1.heap.size w1 w2) : w2.ownsRow base 57 1 v k xs :=
 h.kept (row := none) ⟨b.os, b.tape, b.output, b.size, fun k hk _ => b.block k hk⟩ (by cases hv : v.ownBlock <;> simp)
theorem rplain_no (op : Int) (T : ByteArray) (_hq : (T.toList == [63]) = true) (w : World) (HT : Hid (∀ w, Calls Tryz.prog 53 #[.int .u8 op] w fun e w' => e = .returned (.string T) ∧ w' = w)) :
  Calls Tryz.prog 25 #[.int .u8 op] w fun e w' => e = .returned (.tuple #[.slice none 0 0, .slice none 0 0, .bool false]) ∧ w' = w := by
 go_enter Tryz.func25, Tryz.ntmps25
 go_wp2_with fail
 refine (HT.out _).mono ?_
 rintro e w1 ⟨rfl, rfl⟩
 go_wp2
 go_ret3
 exact ⟨rfl, rfl⟩
theorem rplain_yes (op : Int) (T a b : ByteArray) (f : Bool) (ka kb : List Int) (na nb : Nat) (_hq : (T.toList == [63]) = false) (w : World) (HT : Hid (∀ w, Calls Tryz.prog 53 #[.int .u8 op] w fun e w' => e = .returned (.string T) ∧ w' = w))
  (HC : Hid (Calls Tryz.prog 54 #[.string T, .string ⟨#[62]⟩] w fun e w' => e = .returned (.tuple #[.string a, .string b, .bool f]) ∧ Below w.heap.size w w'))
  (HA : Hid (∀ w, Calls Tryz.prog 55 #[.string a] w fun e w' => ∃ v, e = .returned v ∧ w'.ownsRow w.heap.size 57 1 v na (ka.map (Value.int .u8)) ∧ Below w.heap.size w w'))
  (HBb : Hid (∀ w, Calls Tryz.prog 55 #[.string b] w fun e w' => ∃ v, e = .returned v ∧ w'.ownsRow w.heap.size 57 1 v nb (kb.map (Value.int .u8)) ∧ Below w.heap.size w w')) :
  Calls Tryz.prog 25 #[.int .u8 op] w fun e w' => ∃ v1 v2, e = .returned (.tuple #[v1, v2, .bool true]) ∧ w'.ownsRow w.heap.size 57 1 v1 na (ka.map (Value.int .u8)) ∧ w'.ownsRow w.heap.size 57 1 v2 nb (kb.map (Value.int .u8)) ∧ Below w.heap.size w w' := by
 go_enter Tryz.func25, Tryz.ntmps25
 go_wp2_with fail
 refine (HT.out _).mono ?_
 rintro e w1 ⟨rfl, rfl⟩
 go_wp2_with fail
 refine HC.out.mono ?_
 rintro e w2 ⟨rfl, b2⟩
 go_wp2_with fail
 refine (HA.out _).mono ?_
 rintro e w3 ⟨v1, rfl, o3, b3⟩
 go_wp2_with fail
 refine (HBb.out _).mono ?_
 rintro e w4 ⟨v2, rfl, o4, b4⟩
 have h2 := b2.size
 have h3 := b3.size
 have HO3 : Hid (w4.ownsRow w1.heap.size 57 1 v1 na (ka.map (Value.int .u8))) := ownsRow_down (ownK_under o3 b4) h2
 have HO4 : Hid (w4.ownsRow w1.heap.size 57 1 v2 nb (kb.map (Value.int .u8))) := ownsRow_down o4 (by omega)
 have HB4 : Hid (Below w1.heap.size w1 w4) := (b2.trans (b3.mono h2)).trans (b4.mono (by omega))
 clear o3 o4 b2 b3 b4
 go_wp2
 go_ret3
 exact ⟨v1, v2, rfl, HO3.out, HO4.out, HB4.out⟩
theorem plain_table : ∀ op : Fin 256, let T := (takL (op.val : Int)).data.toList; (T = [63] ∧ pIs (op.val : Int) = false ∧ pIn (op.val : Int) = [] ∧ pOut (op.val : Int) = []) ∨ (T ≠ [63] ∧ pIs (op.val : Int) = true ∧ kOf (Lib.cut T [62]).1 = pIn (op.val : Int) ∧ kOf (Lib.cut T [62]).2.1 = pOut (op.val : Int) ∧ (Lib.cut T [62]).1.length ≤ 4 ∧ (Lib.cut T [62]).2.1.length ≤ 4 ∧ T.length ≤ 10 ∧ (∀ c ∈ (Lib.cut T [62]).1, c.toNat < 128) ∧ (∀ c ∈ (Lib.cut T [62]).2.1, c.toNat < 128)) := by decide +kernel
theorem ascii_of (l : List UInt8) (h : ∀ c ∈ l, c.toNat < 128) : ∀ pos (hp : pos < (⟨l.toArray⟩ : ByteArray).size), ((⟨l.toArray⟩ : ByteArray)[pos]'hp).toNat < 128 := by
 intro pos hp
 have hp2 : pos < l.length := by simpa [ByteArray.size] using hp
 have e : ((⟨l.toArray⟩ : ByteArray)[pos]'hp) = l[pos]'hp2 := by
  show (l.toArray)[pos] = _
  simp
 rw [e]
 exact h _ (List.getElem_mem hp2)
theorem rplain_any (op : Nat) (h1 : op < 256) (w : World) (hM : MaxIn w) :
  Calls Tryz.prog 25 #[.int .u8 op] w fun e w' => ∃ v1 v2, e = .returned (.tuple #[v1, v2, .bool (pIs op)]) ∧ w'.ownsRow w.heap.size 57 1 v1 (pIn op).length ((pIn op).map (Value.int .u8)) ∧ w'.ownsRow w.heap.size 57 1 v2 (pOut op).length ((pOut op).map (Value.int .u8)) ∧ Below w.heap.size w w' := by
 have hT : ∀ w, Calls Tryz.prog 53 #[.int .u8 op] w fun e w' => e = .returned (.string (takL op)) ∧ w' = w := fun w => takes_any op (by omega) (by omega) w
 rcases plain_table ⟨op, h1⟩ with ⟨e1, e2, e3, e4⟩ | ⟨e1, e2, e3, e4, l1, l2, l3, a1, a2⟩
 ·dsimp only at e1 e2 e3 e4
  rw [e2, e3, e4]
  refine (rplain_no op (takL op) (by rw [Lib.toList_data, e1]; rfl) w hT).mono ?_
  rintro e w' ⟨rfl, rfl⟩
  exact ⟨_, _, rfl, World.ownsRow_nil _ _ _ _, World.ownsRow_nil _ _ _ _, Below.refl _ _⟩
 ·dsimp only at e1 e2 e3 e4 l1 l2 l3 a1 a2
  rw [e2, ← e3, ← e4]
  have hC := cut_any (takL op) ⟨#[62]⟩ w (by have : (takL op).data.toList.length ≤ 10 := l3; rw [Array.length_toList] at this; exact Nat.lt_of_le_of_lt this (by decide)) hM
  have hk1 := fun w => kindsS_any ⟨(Lib.cut (takL op).data.toList [62]).1.toArray⟩ (by simpa [ByteArray.size] using l1) (ascii_of _ a1) w
  have hk2 := fun w => kindsS_any ⟨(Lib.cut (takL op).data.toList [62]).2.1.toArray⟩ (by simpa [ByteArray.size] using l2) (ascii_of _ a2) w
  have hl1 : (kOf (Lib.cut (takL op).data.toList [62]).1).length = (⟨(Lib.cut (takL op).data.toList [62]).1.toArray⟩ : ByteArray).size := by simp [kOf, ByteArray.size]
  have hl2 : (kOf (Lib.cut (takL op).data.toList [62]).2.1).length = (⟨(Lib.cut (takL op).data.toList [62]).2.1.toArray⟩ : ByteArray).size := by simp [kOf, ByteArray.size]
  rw [hl1, hl2]
  refine rplain_yes op (takL op) ⟨(Lib.cut (takL op).data.toList [62]).1.toArray⟩ ⟨(Lib.cut (takL op).data.toList [62]).2.1.toArray⟩ (Lib.cut (takL op).data.toList [62]).2.2 _ _ _ _ ?_ w hT (hC.mono ?_) (fun w => hk1 w) (fun w => hk2 w)
  ·rw [Lib.toList_data, beq_eq_false_iff_ne]
   exact e1
  ·rintro e w' ⟨rfl, n, rfl⟩
   exact ⟨rfl, below_drewN (Below.refl _ _) n⟩
end Go.Proofs.YtoikoijpkchamaaGreatDoor
namespace Go.Proofs.YtoikoijpkchamaaGreatDoor
set_option linter.unusedVariables false
open Go.RowKit
theorem take_ne {xs ys : List Int} {k : Nat} (h1 : k < xs.length) (h2 : k < ys.length) (h : xs[k] ≠ ys[k]) : xs ≠ ys := fun e => h (by subst e; rfl)
theorem take_eq {xs ys : List Int} {k : Nat} (h1 : k < xs.length) (h2 : k < ys.length) (h : xs.take k = ys.take k) (e : xs[k] = ys[k]) : xs.take (k + 1) = ys.take (k + 1) := by
 rw [List.take_succ_eq_append_getElem h1, List.take_succ_eq_append_getElem h2, h, e]
theorem eqC_kin (w : World) (o1 o2 : Option Addr) (n1 k1 n2 k2 N1 N2 : Nat) (xs ys : List Int) (r1 : xs = [] ∨ ∃ b f, o1 = some ⟨b, f, none⟩ ∧ b < N1 ∧ ∀ i (h : i < xs.length) r, r < 1 → w.cell? ⟨b, f + i * 1 + r, none⟩ = ([Value.int .u8 xs[i]])[r]?) (r2 : ys = [] ∨ ∃ b f, o2 = some ⟨b, f, none⟩ ∧ b < N2 ∧ ∀ i (h : i < ys.length) r, r < 1 → w.cell? ⟨b, f + i * 1 + r, none⟩ = ([Value.int .u8 ys[i]])[r]?) (l1 : xs.length = n1) (l2 : ys.length = n2) (c1 : n1 ≤ k1) (c2 : n2 ≤ k2) (m1 : k1 ≤ 9223372036854775807) (m2 : k2 ≤ 9223372036854775807) :
  Calls Tryz.prog 26 #[.slice o1 n1 k1, .slice o2 n2 k2] w fun r w' => r = .returned (.bool (decide (xs = ys))) ∧ w' = w := by
 by_cases hn : n1 = n2
 ·subst hn
  have HL1 : Hid (xs.length = n1) := l1
  have HL2 : Hid (ys.length = n1) := l2
  rcases r1 with rfl | ⟨b, f, rfl, _, h1⟩
  ·have h0 : n1 = 0 := by rw [← l1]; rfl
   subst h0
   have hy : ys = [] := List.length_eq_zero_iff.1 l2
   subst hy
   clear l1 l2 r2
   go_enter Tryz.func26, Tryz.ntmps26
   go_wp2
   go_loop [14] (fun i => i = .int .i64 0) (fun _ => 0)
   case atStart => rfl
   case round =>
    subst hrel
    go_wp2
    go_ret
    exact ⟨rfl, rfl⟩
  rcases r2 with rfl | ⟨b2, f2, rfl, _, h2⟩
  ·have h0 : n1 = 0 := by rw [← l2]; rfl
   subst h0
   have hy : xs = [] := List.length_eq_zero_iff.1 l1
   subst hy
   clear l1 l2 h1
   go_enter Tryz.func26, Tryz.ntmps26
   go_wp2
   go_loop [14] (fun i => i = .int .i64 0) (fun _ => 0)
   case atStart => rfl
   case round =>
    subst hrel
    go_wp2
    go_ret
    exact ⟨rfl, rfl⟩
  have H1 : Hid (type_of% h1) := h1
  have H2 : Hid (type_of% h2) := h2
  clear h1 h2 l1 l2
  go_enter Tryz.func26, Tryz.ntmps26
  go_wp2
  go_loop [14] (fun i => ∃ k : Nat, i = .int .i64 k ∧ k ≤ n1 ∧ Hid (xs.take k = ys.take k)) (fun i => n1 - (intOf i).toNat)
  case atStart => exact ⟨0, rfl, by omega, by unfold Hid; rfl⟩
  case round =>
   obtain ⟨k, rfl, hk, HT⟩ := hrel
   by_cases hlt : k < n1
   ·have hx : k < xs.length := by rw [HL1.out]; exact hlt
    have hy : k < ys.length := by rw [HL2.out]; exact hlt
    have e1 : w.cell? ⟨b, f + k, none⟩ = some (.int .u8 xs[k]) := by
     have := H1.out k hx 0 (by omega)
     rw [Nat.mul_one, Nat.add_zero] at this
     rw [this]
     rfl
    have e2 : w.cell? ⟨b2, f2 + k, none⟩ = some (.int .u8 ys[k]) := by
     have := H2.out k hy 0 (by omega)
     rw [Nat.mul_one, Nat.add_zero] at this
     rw [this]
     rfl
    have HN : Hid (xs[k] ≠ ys[k] → xs ≠ ys) := take_ne hx hy
    have HE : Hid (xs[k] = ys[k] → xs.take (k + 1) = ys.take (k + 1)) := take_eq hx hy HT.out
    generalize xs[k] = x at e1 HN HE
    generalize ys[k] = y at e2 HN HE
    have hki0 : (0 : Int) ≤ (k : Int) := by omega
    have hki1 : (k : Int) < (n1 : Int) := by omega
    clear HT hx hy
    by_cases hxy : x = y
    ·subst hxy
     have HE2 : Hid (xs.take (k + 1) = ys.take (k + 1)) := HE.out rfl
     clear HE HN
     go_wp2
     go_round
     case rel => exact ⟨k + 1, by go_num, by omega, HE2⟩
     case measure => simp [intOf]; omega
    ·have hb1 : (x == y) = false := beq_eq_false_iff_ne.2 hxy
     have hb2 : (x != y) = true := by rw [bne, hb1]; rfl
     have HD : Hid (decide (xs = ys) = false) := by unfold Hid; rw [decide_eq_false_iff_not]; exact HN.out hxy
     clear HE HN hxy
     go_wp2
     go_ret
     exact ⟨by rw [HD.out]; rfl, rfl⟩
   ·have HD : Hid (decide (xs = ys) = true) := by
     have h := HT.out
     rw [List.take_of_length_le (by rw [HL1.out]; omega), List.take_of_length_le (by rw [HL2.out]; omega)] at h
     unfold Hid
     rw [decide_eq_true_eq]
     exact h
    go_wp2
    go_ret
    exact ⟨by rw [HD.out]; rfl, rfl⟩
 ·have HD : Hid (decide (xs = ys) = false) := by
   unfold Hid
   rw [decide_eq_false_iff_not]
   intro e
   exact hn (by rw [← l1, ← l2, e])
  have hb1 : ((n1 : Int) == (n2 : Int)) = false := by rw [beq_eq_false_iff_ne]; omega
  have hb2 : ((n1 : Int) != (n2 : Int)) = true := by rw [bne, hb1]; rfl
  clear r1 r2 l1 l2 hn
  go_enter Tryz.func26, Tryz.ntmps26
  go_wp2
  go_ret
  exact ⟨by rw [HD.out]; rfl, rfl⟩
theorem eqB_kin (w : World) (c d : NumD) (hc : c.ok .u8 w) (hd : d.ok .u8 w) :
  Calls Tryz.prog 26 #[.slice c.o c.n c.cap, .slice d.o d.n d.cap] w fun r w' => r = .returned (.bool (decide (c.xs = d.xs))) ∧ w' = w := by
 have m1 := hc.most
 have m2 := hd.most
 unfold maxLen at m1 m2
 exact eqC_kin w c.o d.o c.n c.cap d.n d.cap _ _ c.xs d.xs (hc.at1 (Nat.le_refl _)) (hd.at1 (Nat.le_refl _)) hc.len hd.len hc.le hd.le (by omega) (by omega)
end Go.Proofs.YtoikoijpkchamaaGreatDoor
