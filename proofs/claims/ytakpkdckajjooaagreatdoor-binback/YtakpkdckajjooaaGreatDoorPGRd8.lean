/-
  What the program's own Read does. What the program's own Read does. What the program's own Read does, over lists of bytes.
-/
import Derived.Test.YtakpkdckajjooaaGreatDoorPInsR5
import Derived.Deep.RegionWith
import Derived.RegionTactic
import Derived.BigRegion
set_option maxHeartbeats 4000000
set_option maxRecDepth 1000000
namespace Go.Proofs.YtakpkdckajjooaaGreatDoor
set_option linter.unusedVariables false
open Go.RowKit
structure Got where
  op : Int
  A : Int
  B : Int
  To : List Int
  l : List Int
  e : Int
def mBes (k op : Int) (l1 : List Int) (a1 : Int) : Got :=
  if k = 0 then ⟨op, 0, 0, [], l1, fstE a1 6⟩
  else if k = 1 then ⟨op, 0, 0, [], l1, a1⟩
  else if k = 2 then ⟨op, (mKind l1 a1).1, 0, [], (mKind l1 a1).2.1, (mKind l1 a1).2.2⟩
  else if k = 3 then ⟨op, (mNum l1 a1).1, 0, [], (mNum l1 a1).2.1, (mNum l1 a1).2.2⟩
  else if k = 4 then ⟨op, (mNum (mNums l1 a1).2.1 (mNums l1 a1).2.2).1, 0, (mNums l1 a1).1, (mNum (mNums l1 a1).2.1 (mNums l1 a1).2.2).2.1, (mNum (mNums l1 a1).2.1 (mNums l1 a1).2.2).2.2⟩
  else if k = 5 then ⟨op, (mNum l1 a1).1, 0, [], (mZero (mNum l1 a1).2.1 (mNum l1 a1).2.2).1, (mZero (mNum l1 a1).2.1 (mNum l1 a1).2.2).2⟩
  else if k = 6 then ⟨op, (mNum l1 a1).1, (mNum (mNum l1 a1).2.1 (mNum l1 a1).2.2).1, [], (mNum (mNum l1 a1).2.1 (mNum l1 a1).2.2).2.1, (mNum (mNum l1 a1).2.1 (mNum l1 a1).2.2).2.2⟩
  else if k = 7 then ⟨op, 0, 0, [], (mZero l1 a1).1, (mZero l1 a1).2⟩
  else if k = 8 then ⟨op, (mSig 32 l1 a1).1, 0, [], (mSig 32 l1 a1).2.1, (mSig 32 l1 a1).2.2⟩
  else ⟨op, (mSig 64 l1 a1).1, 0, [], (mSig 64 l1 a1).2.1, (mSig 64 l1 a1).2.2⟩
def mIns (l : List Int) (a : Int) : Got := mBes (besV (mNext l a).1) (mNext l a).1 (mNext l a).2.1 (mNext l a).2.2
theorem besV_range (op : Int) : 0 ≤ besV op ∧ besV op ≤ 9 := by
  unfold besV
  repeat' split
  all_goals omega
theorem instr_any (P : Nat) (l : List Int) (a : Int) (w : World) (hr : RL w P l a) (hT : TabIn w) (hTP : 3 ≠ P) (ht0 : 3 < w.heap.size) :
    Calls Tryz.prog 242 #[.pointer (some ⟨P, 0, none⟩)] w fun r w' => ∃ v, r = .returned (.agg #[.int .u8 (mIns l a).op, .int .i64 (mIns l a).A, .int .i64 (mIns l a).B, v]) ∧ RL w' P (mIns l a).l (mIns l a).e ∧ Chg P w w' ∧ IsI w' w.heap.size v (mIns l a).To := by
  have hb := mNext_byte l a hr.byte
  have hbes : ∀ w, TabIn w → Calls Tryz.prog 219 #[.int .u8 (mNext l a).1] w fun r w' => r = .returned (.int .i64 (besV (mNext l a).1)) ∧ Below w.heap.size w w' := fun w h => bes_any (mNext l a).1 hb.1 (by omega) w h
  have hnx : ∀ w, RL w P l a → Calls Tryz.prog 250 #[.pointer (some ⟨P, 0, none⟩)] w fun r w' => r = .returned (.int .u8 (mNext l a).1) ∧ RL w' P (mNext l a).2.1 (mNext l a).2.2 ∧ Chg P w w' := fun w h => next_any P l a w h
  unfold mIns
  have hrg := besV_range (mNext l a).1
  generalize besV (mNext l a).1 = k at hbes hrg ⊢
  generalize (mNext l a).1 = op at hbes hnx ⊢
  generalize (mNext l a).2.1 = l1 at hnx ⊢
  generalize (mNext l a).2.2 = a1 at hnx ⊢
  rcases (show k = 0 ∨ k = 1 ∨ k = 2 ∨ k = 3 ∨ k = 4 ∨ k = 5 ∨ k = 6 ∨ k = 7 ∨ k = 8 ∨ k = 9 by omega) with rfl | rfl | rfl | rfl | rfl | rfl | rfl | rfl | rfl | rfl
  · refine (instr_0 P l l1 a a1 op w hnx hbes hr hT hTP ht0).mono ?_
    rintro r w1 ⟨rfl, r1, c1⟩
    exact ⟨_, rfl, r1, c1, Or.inl ⟨rfl, rfl⟩⟩
  · refine (instr_1 P l l1 a a1 op w hnx hbes hr hT hTP ht0).mono ?_
    rintro r w1 ⟨rfl, r1, c1⟩
    exact ⟨_, rfl, r1, c1, Or.inl ⟨rfl, rfl⟩⟩
  · refine (instr_2 P l l1 a a1 op w hnx hbes hr hT hTP ht0).mono ?_
    rintro r w1 ⟨rfl, r1, c1⟩
    exact ⟨_, rfl, r1, c1, Or.inl ⟨rfl, rfl⟩⟩
  · refine (instr_3 P l l1 a a1 op w hnx hbes hr hT hTP ht0).mono ?_
    rintro r w1 ⟨rfl, r1, c1⟩
    exact ⟨_, rfl, r1, c1, Or.inl ⟨rfl, rfl⟩⟩
  · exact instr_4 P l l1 a a1 op w hnx hbes hr hT hTP ht0
  · refine (instr_5 P l l1 a a1 op w hnx hbes hr hT hTP ht0).mono ?_
    rintro r w1 ⟨rfl, r1, c1⟩
    exact ⟨_, rfl, r1, c1, Or.inl ⟨rfl, rfl⟩⟩
  · refine (instr_6 P l l1 a a1 op w hnx hbes hr hT hTP ht0).mono ?_
    rintro r w1 ⟨rfl, r1, c1⟩
    exact ⟨_, rfl, r1, c1, Or.inl ⟨rfl, rfl⟩⟩
  · refine (instr_7 P l l1 a a1 op w hnx hbes hr hT hTP ht0).mono ?_
    rintro r w1 ⟨rfl, r1, c1⟩
    exact ⟨_, rfl, r1, c1, Or.inl ⟨rfl, rfl⟩⟩
  · refine (instr_8 P l l1 a a1 op w hnx hbes hr hT hTP ht0).mono ?_
    rintro r w1 ⟨rfl, r1, c1⟩
    exact ⟨_, rfl, r1, c1, Or.inl ⟨rfl, rfl⟩⟩
  · refine (instr_9 P l l1 a a1 op w hnx hbes hr hT hTP ht0).mono ?_
    rintro r w1 ⟨rfl, r1, c1⟩
    exact ⟨_, rfl, r1, c1, Or.inl ⟨rfl, rfl⟩⟩
end Go.Proofs.YtakpkdckajjooaaGreatDoor
namespace Go.Proofs.YtakpkdckajjooaaGreatDoor
open Go.RowKit
theorem read_err (s : ByteArray) (_hs : s.size ≤ maxLen) (op A B e : Int) (To lF : List Int) (w : World)
    (HI : Hid (Calls Tryz.prog 242 #[.pointer (some ⟨w.heap.size + 1, 0, none⟩)] ((w.alloc (.cells #[.int .u8 0, .int .i64 0, .int .i64 0, .slice none 0 0] 161)).alloc (.cells #[.string s, .int .i64 0] 283)) fun r w' => ∃ v, r = .returned (.agg #[.int .u8 op, .int .i64 A, .int .i64 B, v]) ∧ RL w' (w.heap.size + 1) lF e ∧ Chg (w.heap.size + 1) ((w.alloc (.cells #[.int .u8 0, .int .i64 0, .int .i64 0, .slice none 0 0] 161)).alloc (.cells #[.string s, .int .i64 0] 283)) w' ∧ IsI w' (w.heap.size + 2) v To)) (_he : (e == 0) = false) :
    Calls Tryz.prog 228 #[.string s] w fun r w' => r = .returned (.tuple #[.agg #[.int .u8 0, .int .i64 0, .int .i64 0, .slice none 0 0], .int .i64 0, .int .i64 e]) ∧ Below w.heap.size w w' := by
  have hne : (e != 0) = true := by rw [bne, _he]; rfl
  go_enter Tryz.func228, Tryz.ntmps228
  go_wp2_with fail
  refine HI.out.mono ?_
  rintro r w1 ⟨v, rfl, ⟨s2, hn2, _hs2, r1⟩, c1, q1⟩
  subst hn2
  unfold maxLen at _hs _hs2
  have xR : XS w1 w.heap.size (.int .u8 0) (.int .i64 0) (.int .i64 0) (.slice none 0 0) := by
    unfold XS
    rw [c1.block w.heap.size (by simp; omega) (by simp), Below.heap_alloc _ _ _ (by simp)]
    exact new_block _ _
  have hs1 : w.heap.size + 2 ≤ w1.heap.size := by have := c1.size; simp at this; omega
  have d0 := r1.c0
  have d1 := r1.c1
  have hXw : w.heap.size < w1.heap.size := by omega
  have hXp : w.heap.size + 1 < w1.heap.size := by omega
  obtain ⟨y0, y1, y2, y3⟩ := xR.cell
  have f0 := xR.frozen 0
  have f1 := xR.frozen 1
  have f2 := xR.frozen 2
  have f3 := xR.frozen 3
  have HB1 : Hid (Below w.heap.size w w1) := (((Below.refl _ _).alloc (Nat.le_refl _) _).alloc (by simp) _).trans (c1.below (by omega) (by simp; omega))
  clear c1
  rcases q1 with ⟨rfl, _⟩ | ⟨g, rfl, _⟩
  · go_wp2
    have e0 : (w1.alloc (Obj.cells #[.int .u8 op, .int .i64 A, .int .i64 B, (.slice none 0 0)] 161)).cell? ⟨w.heap.size + 1, 0, none⟩ = some (.string s2) := (World.cell?_alloc_lt (h := hXp) ..).trans d0
    have e1 : (w1.alloc (Obj.cells #[.int .u8 op, .int .i64 A, .int .i64 B, (.slice none 0 0)] 161)).cell? ⟨w.heap.size + 1, 1, none⟩ = some (.int .i64 e) := (World.cell?_alloc_lt (h := hXp) ..).trans d1
    have xR2 : XS (w1.alloc (Obj.cells #[.int .u8 op, .int .i64 A, .int .i64 B, (.slice none 0 0)] 161)) w.heap.size (.int .u8 0) (.int .i64 0) (.int .i64 0) (.slice none 0 0) := by
      unfold XS at xR ⊢
      rw [Below.heap_alloc _ _ _ hXw]
      exact xR
    have xX2 : XS (w1.alloc (Obj.cells #[.int .u8 op, .int .i64 A, .int .i64 B, (.slice none 0 0)] 161)) w1.heap.size (.int .u8 op) (.int .i64 A) (.int .i64 B) (.slice none 0 0) := new_block _ _
    have HB2 : Hid (Below w.heap.size w (w1.alloc (Obj.cells #[.int .u8 op, .int .i64 A, .int .i64 B, (.slice none 0 0)] 161))) := HB1.out.alloc (by omega) _
    clear y0 y1 y2 y3 f0 f1 f2 f3 d0 d1 xR r1
    generalize w1.alloc (Obj.cells #[.int .u8 op, .int .i64 A, .int .i64 B, (.slice none 0 0)] 161) = w2 at e0 e1 xR2 xX2 HB2 ⊢
    obtain ⟨y0, y1, y2, y3⟩ := xR2.cell
    have f0 := xR2.frozen 0
    have f1 := xR2.frozen 1
    have f2 := xR2.frozen 2
    have f3 := xR2.frozen 3
    have HFX : Hid (XS _ _ _ _ _ _) := (((xR2.set0 (.int .u8 0)).set1 (.int .i64 0)).set2 (.int .i64 0)).set3 (.slice none 0 0)
    go_region
    go_wp2
    obtain ⟨q0, q1, q2, q3⟩ := XS.cell HFX.out
    refine bodyPost_ret (v := .tuple #[.agg #[(.int .u8 0), (.int .i64 0), (.int .i64 0), (.slice none 0 0)], .int .i64 0, .int .i64 e]) (by simp [results, Tryz.results228, go_sem, q0, q1, q2, q3]) rfl ?_
    exact ⟨rfl, ((((HB2.out.setCell (p := ⟨w.heap.size, 0, none⟩) (Nat.le_refl _) _).setCell (p := ⟨w.heap.size, 1, none⟩) (Nat.le_refl _) _).setCell (p := ⟨w.heap.size, 2, none⟩) (Nat.le_refl _) _).setCell (p := ⟨w.heap.size, 3, none⟩) (Nat.le_refl _) _).drew⟩
  · go_wp2
    have e0 : (w1.alloc (Obj.cells #[.int .u8 op, .int .i64 A, .int .i64 B, (.slice (some ⟨g, 0, none⟩) To.length To.length)] 161)).cell? ⟨w.heap.size + 1, 0, none⟩ = some (.string s2) := (World.cell?_alloc_lt (h := hXp) ..).trans d0
    have e1 : (w1.alloc (Obj.cells #[.int .u8 op, .int .i64 A, .int .i64 B, (.slice (some ⟨g, 0, none⟩) To.length To.length)] 161)).cell? ⟨w.heap.size + 1, 1, none⟩ = some (.int .i64 e) := (World.cell?_alloc_lt (h := hXp) ..).trans d1
    have xR2 : XS (w1.alloc (Obj.cells #[.int .u8 op, .int .i64 A, .int .i64 B, (.slice (some ⟨g, 0, none⟩) To.length To.length)] 161)) w.heap.size (.int .u8 0) (.int .i64 0) (.int .i64 0) (.slice none 0 0) := by
      unfold XS at xR ⊢
      rw [Below.heap_alloc _ _ _ hXw]
      exact xR
    have xX2 : XS (w1.alloc (Obj.cells #[.int .u8 op, .int .i64 A, .int .i64 B, (.slice (some ⟨g, 0, none⟩) To.length To.length)] 161)) w1.heap.size (.int .u8 op) (.int .i64 A) (.int .i64 B) (.slice (some ⟨g, 0, none⟩) To.length To.length) := new_block _ _
    have HB2 : Hid (Below w.heap.size w (w1.alloc (Obj.cells #[.int .u8 op, .int .i64 A, .int .i64 B, (.slice (some ⟨g, 0, none⟩) To.length To.length)] 161))) := HB1.out.alloc (by omega) _
    clear y0 y1 y2 y3 f0 f1 f2 f3 d0 d1 xR r1
    generalize w1.alloc (Obj.cells #[.int .u8 op, .int .i64 A, .int .i64 B, (.slice (some ⟨g, 0, none⟩) To.length To.length)] 161) = w2 at e0 e1 xR2 xX2 HB2 ⊢
    obtain ⟨y0, y1, y2, y3⟩ := xR2.cell
    have f0 := xR2.frozen 0
    have f1 := xR2.frozen 1
    have f2 := xR2.frozen 2
    have f3 := xR2.frozen 3
    have HFX : Hid (XS _ _ _ _ _ _) := (((xR2.set0 (.int .u8 0)).set1 (.int .i64 0)).set2 (.int .i64 0)).set3 (.slice none 0 0)
    go_region
    go_wp2
    obtain ⟨q0, q1, q2, q3⟩ := XS.cell HFX.out
    refine bodyPost_ret (v := .tuple #[.agg #[(.int .u8 0), (.int .i64 0), (.int .i64 0), (.slice none 0 0)], .int .i64 0, .int .i64 e]) (by simp [results, Tryz.results228, go_sem, q0, q1, q2, q3]) rfl ?_
    exact ⟨rfl, ((((HB2.out.setCell (p := ⟨w.heap.size, 0, none⟩) (Nat.le_refl _) _).setCell (p := ⟨w.heap.size, 1, none⟩) (Nat.le_refl _) _).setCell (p := ⟨w.heap.size, 2, none⟩) (Nat.le_refl _) _).setCell (p := ⟨w.heap.size, 3, none⟩) (Nat.le_refl _) _).drew⟩
theorem read_ok (s : ByteArray) (_hs : s.size ≤ maxLen) (op A B : Int) (To lF : List Int) (w : World)
    (HI : Hid (Calls Tryz.prog 242 #[.pointer (some ⟨w.heap.size + 1, 0, none⟩)] ((w.alloc (.cells #[.int .u8 0, .int .i64 0, .int .i64 0, .slice none 0 0] 161)).alloc (.cells #[.string s, .int .i64 0] 283)) fun r w' => ∃ v, r = .returned (.agg #[.int .u8 op, .int .i64 A, .int .i64 B, v]) ∧ RL w' (w.heap.size + 1) lF 0 ∧ Chg (w.heap.size + 1) ((w.alloc (.cells #[.int .u8 0, .int .i64 0, .int .i64 0, .slice none 0 0] 161)).alloc (.cells #[.string s, .int .i64 0] 283)) w' ∧ IsI w' (w.heap.size + 2) v To)) :
    Calls Tryz.prog 228 #[.string s] w fun r w' => ∃ v, r = .returned (.tuple #[.agg #[.int .u8 op, .int .i64 A, .int .i64 B, v], .int .i64 ((s.size : Int) - (lF.length : Int)), .int .i64 0]) ∧ Below w.heap.size w w' ∧ IsI w' w.heap.size v To := by
  go_enter Tryz.func228, Tryz.ntmps228
  go_wp2_with fail
  refine HI.out.mono ?_
  rintro r w1 ⟨v, rfl, ⟨s2, hn2, _hs2, r1⟩, c1, q1⟩
  subst hn2
  unfold maxLen at _hs _hs2
  have xR : XS w1 w.heap.size (.int .u8 0) (.int .i64 0) (.int .i64 0) (.slice none 0 0) := by
    unfold XS
    rw [c1.block w.heap.size (by simp; omega) (by simp), Below.heap_alloc _ _ _ (by simp)]
    exact new_block _ _
  have hs1 : w.heap.size + 2 ≤ w1.heap.size := by have := c1.size; simp at this; omega
  have d0 := r1.c0
  have d1 := r1.c1
  have hXw : w.heap.size < w1.heap.size := by omega
  have hXp : w.heap.size + 1 < w1.heap.size := by omega
  obtain ⟨y0, y1, y2, y3⟩ := xR.cell
  have f0 := xR.frozen 0
  have f1 := xR.frozen 1
  have f2 := xR.frozen 2
  have f3 := xR.frozen 3
  have HB1 : Hid (Below w.heap.size w w1) := (((Below.refl _ _).alloc (Nat.le_refl _) _).alloc (by simp) _).trans (c1.below (by omega) (by simp; omega))
  clear c1
  rcases q1 with ⟨rfl, hx⟩ | ⟨g, rfl, ho⟩
  · go_wp2
    have e0 : (w1.alloc (Obj.cells #[.int .u8 op, .int .i64 A, .int .i64 B, (.slice none 0 0)] 161)).cell? ⟨w.heap.size + 1, 0, none⟩ = some (.string s2) := (World.cell?_alloc_lt (h := hXp) ..).trans d0
    have e1 : (w1.alloc (Obj.cells #[.int .u8 op, .int .i64 A, .int .i64 B, (.slice none 0 0)] 161)).cell? ⟨w.heap.size + 1, 1, none⟩ = some (.int .i64 0) := (World.cell?_alloc_lt (h := hXp) ..).trans d1
    have xR2 : XS (w1.alloc (Obj.cells #[.int .u8 op, .int .i64 A, .int .i64 B, (.slice none 0 0)] 161)) w.heap.size (.int .u8 0) (.int .i64 0) (.int .i64 0) (.slice none 0 0) := by
      unfold XS at xR ⊢
      rw [Below.heap_alloc _ _ _ hXw]
      exact xR
    have xX2 : XS (w1.alloc (Obj.cells #[.int .u8 op, .int .i64 A, .int .i64 B, (.slice none 0 0)] 161)) w1.heap.size (.int .u8 op) (.int .i64 A) (.int .i64 B) (.slice none 0 0) := new_block _ _
    have HB2 : Hid (Below w.heap.size w (w1.alloc (Obj.cells #[.int .u8 op, .int .i64 A, .int .i64 B, (.slice none 0 0)] 161))) := HB1.out.alloc (by omega) _
    clear y0 y1 y2 y3 f0 f1 f2 f3 d0 d1 xR r1
    generalize w1.alloc (Obj.cells #[.int .u8 op, .int .i64 A, .int .i64 B, (.slice none 0 0)] 161) = w2 at e0 e1 xR2 xX2 HB2 ⊢
    obtain ⟨y0, y1, y2, y3⟩ := xR2.cell
    have f0 := xR2.frozen 0
    have f1 := xR2.frozen 1
    have f2 := xR2.frozen 2
    have f3 := xR2.frozen 3
    obtain ⟨x0, x1, x2, x3⟩ := xX2.cell
    have HFX : Hid (XS _ _ _ _ _ _) := (((xR2.set0 (.int .u8 op)).set1 (.int .i64 A)).set2 (.int .i64 B)).set3 (.slice none 0 0)
    go_region
    go_wp2
    obtain ⟨q0, q1, q2, q3⟩ := XS.cell HFX.out
    refine bodyPost_ret (v := .tuple #[.agg #[(.int .u8 op), (.int .i64 A), (.int .i64 B), (.slice none 0 0)], .int .i64 ((s.size : Int) - (s2.size : Int)), .int .i64 0]) (by simp [results, Tryz.results228, go_sem, q0, q1, q2, q3]) rfl ?_
    exact ⟨_, by rw [nums_length], ((((HB2.out.setCell (p := ⟨w.heap.size, 0, none⟩) (Nat.le_refl _) _).setCell (p := ⟨w.heap.size, 1, none⟩) (Nat.le_refl _) _).setCell (p := ⟨w.heap.size, 2, none⟩) (Nat.le_refl _) _).setCell (p := ⟨w.heap.size, 3, none⟩) (Nat.le_refl _) _).drew, Or.inl ⟨rfl, hx⟩⟩
  · have hg := (ho.lt g rfl).1
    have hgR : g ≠ w.heap.size := by omega
    have HO1 : Hid (type_of% ho) := ho
    clear ho
    go_wp2
    have HO2 : Hid (type_of% (HO1.out.alloc (Obj.cells #[.int .u8 op, .int .i64 A, .int .i64 B, (.slice (some ⟨g, 0, none⟩) To.length To.length)] 161))) := HO1.out.alloc _
    have e0 : (w1.alloc (Obj.cells #[.int .u8 op, .int .i64 A, .int .i64 B, (.slice (some ⟨g, 0, none⟩) To.length To.length)] 161)).cell? ⟨w.heap.size + 1, 0, none⟩ = some (.string s2) := (World.cell?_alloc_lt (h := hXp) ..).trans d0
    have e1 : (w1.alloc (Obj.cells #[.int .u8 op, .int .i64 A, .int .i64 B, (.slice (some ⟨g, 0, none⟩) To.length To.length)] 161)).cell? ⟨w.heap.size + 1, 1, none⟩ = some (.int .i64 0) := (World.cell?_alloc_lt (h := hXp) ..).trans d1
    have xR2 : XS (w1.alloc (Obj.cells #[.int .u8 op, .int .i64 A, .int .i64 B, (.slice (some ⟨g, 0, none⟩) To.length To.length)] 161)) w.heap.size (.int .u8 0) (.int .i64 0) (.int .i64 0) (.slice none 0 0) := by
      unfold XS at xR ⊢
      rw [Below.heap_alloc _ _ _ hXw]
      exact xR
    have xX2 : XS (w1.alloc (Obj.cells #[.int .u8 op, .int .i64 A, .int .i64 B, (.slice (some ⟨g, 0, none⟩) To.length To.length)] 161)) w1.heap.size (.int .u8 op) (.int .i64 A) (.int .i64 B) (.slice (some ⟨g, 0, none⟩) To.length To.length) := new_block _ _
    have HB2 : Hid (Below w.heap.size w (w1.alloc (Obj.cells #[.int .u8 op, .int .i64 A, .int .i64 B, (.slice (some ⟨g, 0, none⟩) To.length To.length)] 161))) := HB1.out.alloc (by omega) _
    clear y0 y1 y2 y3 f0 f1 f2 f3 d0 d1 xR r1
    generalize w1.alloc (Obj.cells #[.int .u8 op, .int .i64 A, .int .i64 B, (.slice (some ⟨g, 0, none⟩) To.length To.length)] 161) = w2 at e0 e1 xR2 xX2 HB2 HO2 ⊢
    obtain ⟨y0, y1, y2, y3⟩ := xR2.cell
    have f0 := xR2.frozen 0
    have f1 := xR2.frozen 1
    have f2 := xR2.frozen 2
    have f3 := xR2.frozen 3
    obtain ⟨x0, x1, x2, x3⟩ := xX2.cell
    have HFX : Hid (XS _ _ _ _ _ _) := (((xR2.set0 (.int .u8 op)).set1 (.int .i64 A)).set2 (.int .i64 B)).set3 (.slice (some ⟨g, 0, none⟩) To.length To.length)
    go_region
    go_wp2
    obtain ⟨q0, q1, q2, q3⟩ := XS.cell HFX.out
    refine bodyPost_ret (v := .tuple #[.agg #[(.int .u8 op), (.int .i64 A), (.int .i64 B), (.slice (some ⟨g, 0, none⟩) To.length To.length)], .int .i64 ((s.size : Int) - (s2.size : Int)), .int .i64 0]) (by simp [results, Tryz.results228, go_sem, q0, q1, q2, q3]) rfl ?_
    exact ⟨_, by rw [nums_length], ((((HB2.out.setCell (p := ⟨w.heap.size, 0, none⟩) (Nat.le_refl _) _).setCell (p := ⟨w.heap.size, 1, none⟩) (Nat.le_refl _) _).setCell (p := ⟨w.heap.size, 2, none⟩) (Nat.le_refl _) _).setCell (p := ⟨w.heap.size, 3, none⟩) (Nat.le_refl _) _).drew, Or.inr ⟨g, rfl, ownsRow_down (ownsRow_far (ownsRow_far (ownsRow_far (ownsRow_far HO2.out hgR) hgR) hgR) hgR).drew (by omega)⟩⟩
end Go.Proofs.YtakpkdckajjooaaGreatDoor
namespace Go.Proofs.YtakpkdckajjooaaGreatDoor
open Go.RowKit
theorem read_any (s : ByteArray) (hs : s.size ≤ maxLen) (w : World) (hT : TabIn w) (ht0 : 3 < w.heap.size) :
    Calls Tryz.prog 228 #[.string s] w fun r w' => Below w.heap.size w w' ∧
      ((¬ (mIns (nums s) 0).e = 0 ∧ r = .returned (.tuple #[.agg #[.int .u8 0, .int .i64 0, .int .i64 0, .slice none 0 0], .int .i64 0, .int .i64 (mIns (nums s) 0).e])) ∨
       ((mIns (nums s) 0).e = 0 ∧ ∃ v, r = .returned (.tuple #[.agg #[.int .u8 (mIns (nums s) 0).op, .int .i64 (mIns (nums s) 0).A, .int .i64 (mIns (nums s) 0).B, v], .int .i64 ((s.size : Int) - ((mIns (nums s) 0).l.length : Int)), .int .i64 0]) ∧ IsI w' w.heap.size v (mIns (nums s) 0).To)) := by
  have hb : Below w.heap.size w ((w.alloc (.cells #[.int .u8 0, .int .i64 0, .int .i64 0, .slice none 0 0] 161)).alloc (.cells #[.string s, .int .i64 0] 283)) := ((Below.refl _ _).alloc (Nat.le_refl _) _).alloc (by simp) _
  have hRL : RL ((w.alloc (.cells #[.int .u8 0, .int .i64 0, .int .i64 0, .slice none 0 0] 161)).alloc (.cells #[.string s, .int .i64 0] 283)) (w.heap.size + 1) (nums s) 0 := by
    refine ⟨s, rfl, hs, ?_⟩
    unfold RS
    have := new_block (w.alloc (.cells #[.int .u8 0, .int .i64 0, .int .i64 0, .slice none 0 0] 161)) (.cells #[.string s, .int .i64 0] 283)
    rw [World.size_alloc] at this
    exact this
  have hT2 := hT.chg (Chg.of_below (P := w.heap.size + 1) hb) ht0 (by omega)
  have hI := instr_any (w.heap.size + 1) (nums s) 0 _ hRL hT2 (by omega) (by rw [World.size_alloc, World.size_alloc]; omega)
  generalize mIns (nums s) 0 = M at hI ⊢
  rw [World.size_alloc, World.size_alloc] at hI
  by_cases he : M.e = 0
  · rw [he] at hI
    refine (read_ok s hs M.op M.A M.B M.To M.l w hI).mono ?_
    rintro r w1 ⟨v, rfl, b, i⟩
    exact ⟨b, Or.inr ⟨he, v, rfl, i⟩⟩
  · refine (read_err s hs M.op M.A M.B M.e M.To M.l w hI (by rw [beq_eq_false_iff_ne]; exact he)).mono ?_
    rintro r w1 ⟨rfl, b⟩
    exact ⟨b, Or.inl ⟨he, rfl⟩⟩
end Go.Proofs.YtakpkdckajjooaaGreatDoor
