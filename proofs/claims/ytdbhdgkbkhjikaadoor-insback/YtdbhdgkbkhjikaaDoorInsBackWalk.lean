/-
  The law of what is written and read: its walk.
-/
import Derived.Test.YtdbhdgkbkhjikaaDoorInsV3
import Derived.OpenShut
namespace Go.Proofs.YtdbhdgkbkhjikaaDoor
open Go.RowKit

set_option maxHeartbeats 8000000 in
set_option maxRecDepth 1000000 in
theorem back_err (op A B f : Int) (o : Option Addr) (n cap : Nat) (more : ByteArray) (_hf : (f == 0) = false) (w : World) (HCK : Hid (∀ w', Below w.heap.size w w' → Calls Tryd.prog 15 #[.agg #[.int .u8 op, .int .i64 A, .int .i64 B, .slice o n cap]] w' fun r w'' => r = .returned (.int .i64 f) ∧ Below w'.heap.size w' w''))
    (HWR : Hid (∀ w', Below w.heap.size w w' → Calls Tryd.prog 8 #[.agg #[.int .u8 op, .int .i64 A, .int .i64 B, .slice o n cap]] w' fun r w'' => r = .returned (.tuple #[.string ⟨#[]⟩, .int .i64 f]) ∧ Below w'.heap.size w' w''))
    (H6 : Hid (∀ w', Below w.heap.size w w' → Calls Tryd.prog 15 #[.agg #[.int .u8 6, .int .i64 0, .int .i64 0, .slice none 0 0]] w' fun r w'' => r = .returned (.int .i64 6) ∧ Below w'.heap.size w' w'')) :
    Calls Tryd.prog 5 #[.agg #[.int .u8 op, .int .i64 A, .int .i64 B, .slice o n cap], .string more] w fun r w' => r = .returned (.bool true) ∧ Below w.heap.size w w' := by
  have hne : (f != 0) = true := by rw [bne, _hf]; rfl
  go_enter Tryd.func5, Tryd.ntmps5
  go_wp2_with fail
  refine (HWR.out _ ((Below.refl _ _).alloc (Nat.le_refl _) _)).mono ?_
  rintro e w1 ⟨rfl, b1⟩
  have xX : XS w1 w.heap.size (.int .u8 op) (.int .i64 A) (.int .i64 B) (.slice o n cap) := by
    unfold XS
    rw [b1.block w.heap.size (by simp)]
    exact new_block _ _
  obtain ⟨x0, x1, x2, x3⟩ := xX.cell
  have HB1 : Hid (Below w.heap.size w w1) := ((Below.refl _ _).alloc (Nat.le_refl _) _).trans (b1.mono (by simp))
  clear xX b1
  go_wp2_with fail
  refine (HCK.out _ HB1.out).mono ?_
  rintro e w2 ⟨rfl, b2⟩
  have HB2 : Hid (Below w.heap.size w w2) := HB1.out.trans (b2.mono HB1.out.size)
  clear b2 HB1 x0 x1 x2 x3
  go_wp2_with fail
  refine (H6.out _ HB2.out).mono ?_
  rintro e w3 ⟨rfl, b3⟩
  go_wp2
  go_ret
  exact ⟨rfl, HB2.out.trans (b3.mono HB2.out.size)⟩
set_option maxHeartbeats 8000000 in
set_option maxRecDepth 1000000 in
theorem back_ok (op A B : Int) (o : Option Addr) (n cap N : Nat) (xs : List Int) (more : ByteArray) (_hN : N ≤ 2000) (_hm : more.size ≤ 140737488351232) (w : World) (HCK : Hid (∀ w', Below w.heap.size w w' → Calls Tryd.prog 15 #[.agg #[.int .u8 op, .int .i64 A, .int .i64 B, .slice o n cap]] w' fun r w'' => r = .returned (.int .i64 0) ∧ Below w'.heap.size w' w''))
    (HWR : Hid (∀ w', Below w.heap.size w w' → Calls Tryd.prog 8 #[.agg #[.int .u8 op, .int .i64 A, .int .i64 B, .slice o n cap]] w' fun r w'' => ∃ t, r = .returned (.tuple #[.string t, .int .i64 0]) ∧ (t.size = N ∧ Hid (∀ w', Below w.heap.size w w' → Calls Tryd.prog 17 #[.string (t ++ more)] w' fun r w'' => ∃ o2, r = .returned (.tuple #[.agg #[.int .u8 op, .int .i64 A, .int .i64 B, .slice o2 n n], .int .i64 (N : Int), .int .i64 0]) ∧ LJ w'' o2 n xs ∧ Below w'.heap.size w' w'')) ∧ Below w'.heap.size w' w''))
    (HSI : Hid (∀ w' o2, Below w.heap.size w w' → LJ w' o2 n xs → Calls Tryd.prog 19 #[.agg #[.int .u8 op, .int .i64 A, .int .i64 B, .slice o n cap], .agg #[.int .u8 op, .int .i64 A, .int .i64 B, .slice o2 n n]] w' fun r w'' => r = .returned (.bool true) ∧ Below w'.heap.size w' w'')) :
    Calls Tryd.prog 5 #[.agg #[.int .u8 op, .int .i64 A, .int .i64 B, .slice o n cap], .string more] w fun r w' => r = .returned (.bool true) ∧ Below w.heap.size w w' := by
  go_enter Tryd.func5, Tryd.ntmps5
  go_wp2_with fail
  refine (HWR.out _ ((Below.refl _ _).alloc (Nat.le_refl _) _)).mono ?_
  rintro e w1 ⟨t, rfl, ⟨ht, HRD⟩, b1⟩
  have xX : XS w1 w.heap.size (.int .u8 op) (.int .i64 A) (.int .i64 B) (.slice o n cap) := by
    unfold XS
    rw [b1.block w.heap.size (by simp)]
    exact new_block _ _
  obtain ⟨x0, x1, x2, x3⟩ := xX.cell
  have HB1 : Hid (Below w.heap.size w w1) := ((Below.refl _ _).alloc (Nat.le_refl _) _).trans (b1.mono (by simp))
  have HX1 : Hid (type_of% xX) := xX
  clear xX b1
  go_wp2_with fail
  refine (HCK.out _ HB1.out).mono ?_
  rintro e w2 ⟨rfl, b2⟩
  have HB2 : Hid (Below w.heap.size w w2) := HB1.out.trans (b2.mono HB1.out.size)
  have HX2 : Hid (type_of% (XS.below HX1.out b2)) := XS.below HX1.out b2
  clear b2 HB1 HX1 x0 x1 x2 x3
  have hadd : t.size + more.size ≤ 9223372036854775807 := by omega
  go_wp2_with fail
  refine (HRD.out _ HB2.out).mono ?_
  rintro e w3 ⟨o2, rfl, hlj, b3⟩
  have HB3 : Hid (Below w.heap.size w w3) := HB2.out.trans (b3.mono HB2.out.size)
  have xX3 := (XS.below HX2.out b3).below ((Below.refl _ _).alloc (Nat.le_refl _) (Obj.cells #[.int .u8 op, .int .i64 A, .int .i64 B, .slice o2 n n] 24))
  have xY3 : XS (w3.alloc (Obj.cells #[.int .u8 op, .int .i64 A, .int .i64 B, .slice o2 n n] 24)) w3.heap.size (.int .u8 op) (.int .i64 A) (.int .i64 B) (.slice o2 n n) := new_block _ _
  have HLJ : Hid (LJ (w3.alloc (Obj.cells #[.int .u8 op, .int .i64 A, .int .i64 B, .slice o2 n n] 24)) o2 n xs) := hlj.below ((Below.refl _ _).alloc (Nat.le_refl _) _)
  have HB4 : Hid (Below w.heap.size w (w3.alloc (Obj.cells #[.int .u8 op, .int .i64 A, .int .i64 B, .slice o2 n n] 24))) := HB3.out.alloc HB3.out.size _
  obtain ⟨x0, x1, x2, x3⟩ := xX3.cell
  obtain ⟨y0, y1, y2, y3⟩ := xY3.cell
  clear b3 HB3 HX2 HB2 hlj xX3 xY3
  go_wp2_with fail
  refine (HSI.out _ o2 HB4.out HLJ.out).mono ?_
  rintro e w5 ⟨rfl, b5⟩
  go_wp2
  go_ret
  exact ⟨rfl, HB4.out.trans (b5.mono HB4.out.size)⟩
theorem IsI.lj {w : World} {B : Nat} {v : Value} {xs : List Int} (h : IsI w B v xs) : ∃ o, v = .slice o xs.length xs.length ∧ LJ w o xs.length xs := by
  rcases h with ⟨rfl, rfl⟩ | ⟨g, rfl, ho⟩
  · exact ⟨none, rfl, rfl, Or.inl rfl⟩
  · refine ⟨_, rfl, rfl, Or.inr ⟨⟨g, 0, none⟩, rfl, (ho.lt g rfl).2, fun i hi => ?_⟩⟩
    have hadd : (⟨g, 0, none⟩ : Addr).add i = ⟨g, i, none⟩ := by unfold Addr.add; split <;> simp_all
    rw [hadd, ho.cellAt i (by omega), List.getElem?_map, List.getElem?_eq_getElem hi, List.getD_eq_getElem?_getD, List.getElem?_eq_getElem hi]
    rfl
theorem insBack_walk (op A B : Int) (o : Option Addr) (n cap : Nat) (xs : List Int) (more : ByteArray) (h0 : 0 ≤ op) (h1 : op ≤ 255) (hA : -9223372036854775808 ≤ A ∧ A ≤ 9223372036854775807) (hcap : n ≤ cap) (hcm : cap ≤ maxLen) (z1 : more.data.toList.length ≤ reachBytes) (w : World) (hT : TabIn w) (h : LJ w o n xs) :
    Calls Tryd.prog 5 #[.agg #[.int .u8 op, .int .i64 A, .int .i64 B, .slice o n cap], .string more] w fun r w' => r = .returned (.bool true) ∧ Below w.heap.size w w' := by
  have hm0 : more.size ≤ 140737488351232 := by
    rw [Array.length_toList] at z1
    exact z1
  unfold maxLen at hcm
  have ht0 : 1 < w.heap.size := by
    have hc := hT 0 (by omega)
    apply Nat.lt_of_not_le
    intro hle
    have : w.heap[1]? = none := Array.getElem?_eq_none hle
    simp [World.cell?, this] at hc
  have hT' : ∀ w', Below w.heap.size w w' → TabIn w' := fun w' hb => hT.chg (P := w.heap.size) (Chg.of_below hb) ht0 (by omega)
  have ht' : ∀ w', Below w.heap.size w w' → 1 < w'.heap.size := fun w' hb => Nat.lt_of_lt_of_le ht0 hb.size
  have hchk := fun w' (hb : Below w.heap.size w w') => check_any op A B o n cap xs h0 h1 hcap (by omega) w' (h.below hb) (hT' w' hb) (ht' w' hb)
  by_cases hf : chkV op A B n xs = 0
  · have hb0 : ¬ besV op = 0 := by
      intro hb
      unfold chkV at hf
      rw [if_pos hb] at hf
      exact absurd hf (by decide)
    have hn : n ≤ 16 := by
      apply Nat.le_of_not_lt
      intro hlt
      unfold chkV at hf
      rw [if_neg hb0, if_pos hlt] at hf
      exact absurd hf (by decide)
    have hfb : fitB (besV op) A B n xs = true := by
      unfold chkV at hf
      rw [if_neg hb0, if_neg (by omega)] at hf
      cases hx : fitB (besV op) A B n xs with
      | true => rfl
      | false =>
        rw [hx] at hf
        exact absurd hf (by decide)
    have hrg := besV_range op
    have hc := fitB_fit (besV op) A B n xs (by omega) hrg.2 h.1 hn hfb
    have hbl := besT_len _ _ _ _ hc hA
    have hl := h.1
    subst hl
    refine back_ok op A B o xs.length cap (op :: besT (besV op) A B xs).length xs more (by rw [List.length_cons]; omega) hm0 w (fun w' hb => by rw [← hf]; exact hchk w' hb) (fun w' hb => ?_) (fun w' o2 hb hlj => ?_)
    · refine (vwrite_ok op A B o xs.length cap xs hcap h0 h1 hc hf (by omega) hA w' (h.below hb) (hT' w' hb) (ht' w' hb)).mono ?_
      rintro r w2 ⟨t, rfl, ht, b⟩
      have hts : t.size = (op :: besT (besV op) A B xs).length := by rw [← ht, nums_length]
      refine ⟨t, rfl, ⟨hts, fun w3 hb3 => ?_⟩, b⟩
      have hsz : (t ++ more).size = t.size + more.size := ByteArray.size_append
      have hmi : mIns (nums (t ++ more)) 0 = ⟨op, A, B, xs, nums more, 0⟩ := by rw [nums_append, ht, mIns_back op A B xs hc hA]
      rw [List.length_cons] at hts
      have hrd := read_any (t ++ more) (by rw [hsz]; unfold maxLen; omega) w3 (hT' w3 hb3) (ht' w3 hb3)
      rw [hmi] at hrd
      refine hrd.mono ?_
      rintro r w4 ⟨b4, h4⟩
      rcases h4 with ⟨h4, _⟩ | ⟨_, v, rfl, hi⟩
      · exact absurd rfl h4
      · obtain ⟨o2, rfl, hlj⟩ := hi.lj
        refine ⟨o2, ?_, hlj, b4⟩
        dsimp only
        rw [nums_length, hsz]
        have : (((t.size + more.size : Nat) : Int) - (more.size : Int)) = (((op :: besT (besV op) A B xs).length : Nat) : Int) := by rw [List.length_cons]; omega
        rw [this]
    · exact same_any op A B o o2 xs.length cap xs.length w' (fun w4 hb4 => eq_any o o2 xs xs.length cap xs.length hcap (Nat.le_refl _) (by omega) (by omega) w4 (h.below (hb.trans (hb4.mono hb.size))) (hlj.below hb4))
  · have hfb : (chkV op A B n xs == 0) = false := by rw [beq_eq_false_iff_ne]; exact hf
    have h6 : ∀ w', Below w.heap.size w w' → Calls Tryd.prog 15 #[.agg #[.int .u8 6, .int .i64 0, .int .i64 0, .slice none 0 0]] w' fun r w'' => r = .returned (.int .i64 6) ∧ Below w'.heap.size w' w'' := fun w' hb => by
      have := check_any 6 0 0 none 0 0 [] (by omega) (by omega) (Nat.le_refl _) (by omega) w' ⟨rfl, Or.inl rfl⟩ (hT' w' hb) (ht' w' hb)
      rw [show chkV 6 0 0 0 [] = 6 by decide] at this
      exact this
    exact back_err op A B (chkV op A B n xs) o n cap more hfb w hchk (fun w' hb => vwrite_err op A B (chkV op A B n xs) o n cap hfb w' (fun w2 hb2 => hchk w2 (hb.trans (hb2.mono hb.size)))) h6
end Go.Proofs.YtdbhdgkbkhjikaaDoor
