/-
  The law of kinds: its walk.
-/
import Derived.Test.YtdbhdgkbkhjikaaDoorIns3
import Derived.Laws.AppendOwn
import Derived.Laws.AppendOwnNone
import Derived.Laws.MakeOwn
import Derived.Laws.OwnMore
import Derived.OpenShut
namespace Go.Proofs.YtdbhdgkbkhjikaaDoor
open Go.RowKit

theorem Tryd.infoKind : (Tryd.prog.info? 32).map (fun i => (i.zero, i.size, i.bytes)) = some (some (.int .u8 0), 1, 1) := by kernel_rfl
set_option maxHeartbeats 4000000 in
set_option maxRecDepth 1000000 in
theorem copy_any (g n : Nat) (ks : List Int) (hl : ks.length = n) (_hn : 0 < n) (hn2 : n ≤ 10) (w : World) (hc : ∀ i, i < n → w.cell? ⟨g, i, none⟩ = some (.int .u8 (ks.getD i 0))) :
    Calls Tryd.prog 21 #[.slice (some ⟨g, 0, none⟩) n n] w fun e w' => ∃ v, e = .returned v ∧ w'.ownsRow w.heap.size 32 1 v n (ks.map (Value.int .u8)) ∧ Below w.heap.size w w' := by
  obtain ⟨i0, hi, hz0, hz1, hz2⟩ := info_parts Tryd.infoKind
  have HL : Hid (ks.length = n) := hl
  clear hl
  have HC : Hid _ := hc
  clear hc
  go_enter Tryd.func21, Tryd.ntmps21
  go_wp2_with (at_builtin; refine wpList_append_own _ rfl _ _ 28 rfl w.heap.size 32 i0 (.int .u8 0) 1 1 Tryd.underlying28 hi hz0 hz1 hz2 rfl (by decide) _ 0 [] rfl (World.ownsRow_nil _ _ _ _) ⟨g, 0, none⟩ n n (ks.map (Value.int .u8)) rfl ?c0 ?c1 ?c2 ?c3 ?c4 ?c5 ?_)
  case c0 => rw [List.length_map, HL.out]; omega
  case c1 =>
    intro j u hu
    have hj : j < ks.length := by
      have := (List.getElem?_eq_some_iff.1 hu).1
      rwa [List.length_map] at this
    have hadd : (⟨g, 0, none⟩ : Addr).add j = ⟨g, j, none⟩ := by unfold Addr.add; split <;> simp_all
    rw [hadd, HC.out j (by rw [← HL.out]; exact hj), ← hu, List.getElem?_map, List.getElem?_eq_getElem hj, List.getD_eq_getElem?_getD, List.getElem?_eq_getElem hj]
    rfl
  case c2 => intro u hu; obtain ⟨x, _, rfl⟩ := List.mem_map.1 hu; rfl
  case c3 => unfold maxLen; omega
  case c4 => omega
  case c5 => exact Nat.le_refl _
  · intro v' w1 hown hgrow _
    have hb : Below w.heap.size w w1 := (Below.refl _ _).grown hgrow (Nat.le_refl _) (fun j hj => by cases hj)
    have HO : Hid (w1.ownsRow w.heap.size 32 1 v' n (ks.map (Value.int .u8))) := hown
    clear hown hgrow
    go_wp2
    go_ret
    exact ⟨_, rfl, HO.out, hb⟩
/-- A list of the law's own, two kinds long. -/
theorem own_two {w : World} {B : Nat} {v : Value} {a b : Int} (h : w.ownsRow B 32 1 v 2 [.int .u8 a, .int .u8 b]) : ∃ g cap, v = .slice (some ⟨g, 0, none⟩) 2 cap ∧ 2 ≤ cap ∧ cap ≤ maxLen ∧ w.cell? ⟨g, 1, none⟩ = some (.int .u8 b) := by
  have hc := fun g hg => World.ownsRow.cells h (g := g) hg
  obtain ⟨hl, h2⟩ := h
  rcases h2 with ⟨_, h0⟩ | ⟨g, cap, cur, rfl, hb, hg, hle, hcap, hcs, htk⟩
  · omega
  · refine ⟨g, cap, rfl, hle, hcap, ?_⟩
    have := hc g rfl 1 (.int .u8 b) (by simp)
    have hadd : (⟨g, 0, none⟩ : Addr).add 1 = ⟨g, 1, none⟩ := by unfold Addr.add; split <;> simp_all
    rw [hadd] at this
    exact this
set_option maxHeartbeats 4000000 in
set_option maxRecDepth 1000000 in
theorem kinds_is (op wv : Int) (_hw : wv = 0) (w : World) (HP : Hid (Calls Tryd.prog 10 #[.int .u8 op] w fun e w' => ∃ v1 v2, e = .returned (.tuple #[v1, v2, .bool true]) ∧ Below w.heap.size w w')) (HW : Hid (∀ w, Calls Tryd.prog 13 #[.int .u8 op] w fun e w' => e = .returned (.int .i64 wv) ∧ w' = w)) (H65 : Hid (∀ w, Calls Tryd.prog 10 #[.int .u8 65] w fun e w' => ∃ v1 v2, e = .returned (.tuple #[v1, v2, .bool true]) ∧ Below w.heap.size w w')) :
    Calls Tryd.prog 7 #[.int .u8 op] w fun e w' => e = .returned (.bool true) ∧ Below w.heap.size w w' := by
  subst _hw
  go_enter Tryd.func7, Tryd.ntmps7
  go_wp2_with fail
  refine HP.out.mono ?_
  rintro e w1 ⟨v1, v2, rfl, b1⟩
  go_wp2_with fail
  refine (HW.out _).mono ?_
  rintro e w2 ⟨rfl, rfl⟩
  go_wp2_with fail
  refine (H65.out _).mono ?_
  rintro e w3 ⟨v3, v4, rfl, b3⟩
  go_wp2
  go_ret
  exact ⟨rfl, b1.trans (b3.mono b1.size)⟩
set_option maxHeartbeats 4000000 in
set_option maxRecDepth 1000000 in
theorem kinds_no (op wv : Int) (_hw : wv = 0) (w : World) (HP : Hid (Calls Tryd.prog 10 #[.int .u8 op] w fun e w' => e = .returned (.tuple #[.slice none 0 0, .slice none 0 0, .bool false]) ∧ Below w.heap.size w w')) (HW : Hid (∀ w, Calls Tryd.prog 13 #[.int .u8 op] w fun e w' => e = .returned (.int .i64 wv) ∧ w' = w)) (H65 : Hid (∀ w, Calls Tryd.prog 10 #[.int .u8 65] w fun e w' => ∃ v1 v2, e = .returned (.tuple #[v1, v2, .bool true]) ∧ Below w.heap.size w w')) :
    Calls Tryd.prog 7 #[.int .u8 op] w fun e w' => e = .returned (.bool true) ∧ Below w.heap.size w w' := by
  subst _hw
  go_enter Tryd.func7, Tryd.ntmps7
  go_wp2_with fail
  refine HP.out.mono ?_
  rintro e w1 ⟨rfl, b1⟩
  go_wp2_with fail
  refine (HW.out _).mono ?_
  rintro e w2 ⟨rfl, rfl⟩
  go_wp2_with fail
  refine (H65.out _).mono ?_
  rintro e w3 ⟨v3, v4, rfl, b3⟩
  go_wp2
  go_ret
  exact ⟨rfl, b1.trans (b3.mono b1.size)⟩
set_option maxHeartbeats 4000000 in
set_option maxRecDepth 1000000 in
theorem kinds_load (op wv k : Int) (hk : (wv = 1 ∨ wv = 2 ∨ wv = 4) ∨ (wv = 8 ∧ k = 126)) (w : World) (HP : Hid (Calls Tryd.prog 10 #[.int .u8 op] w fun e w' => ∃ g1 g2, e = .returned (.tuple #[.slice (some ⟨g1, 0, none⟩) 1 1, .slice (some ⟨g2, 0, none⟩) 1 1, .bool true]) ∧ w'.cell? ⟨g1, 0, none⟩ = some (.int .u8 127) ∧ w'.cell? ⟨g2, 0, none⟩ = some (.int .u8 k) ∧ g1 < w'.heap.size ∧ g2 < w'.heap.size ∧ Below w.heap.size w w')) (HW : Hid (∀ w, Calls Tryd.prog 13 #[.int .u8 op] w fun e w' => e = .returned (.int .i64 wv) ∧ w' = w)) (H65 : Hid (∀ w, Calls Tryd.prog 10 #[.int .u8 65] w fun e w' => ∃ v1 v2, e = .returned (.tuple #[v1, v2, .bool true]) ∧ Below w.heap.size w w')) :
    Calls Tryd.prog 7 #[.int .u8 op] w fun e w' => e = .returned (.bool true) ∧ Below w.heap.size w w' := by
  obtain ⟨i0, hi, hz0, hz1, hz2⟩ := info_parts Tryd.infoKind
  have hw0 : (wv == 0) = false := by rw [beq_eq_false_iff_ne]; omega
  go_enter Tryd.func7, Tryd.ntmps7
  go_wp2_with fail
  refine HP.out.mono ?_
  rintro e w1 ⟨g1, g2, rfl, c1, c2, l1, l2, b1⟩
  go_wp2_with fail
  refine (HW.out _).mono ?_
  rintro e w2 ⟨rfl, rfl⟩
  go_wp2_with fail
  refine (H65.out _).mono ?_
  rintro e w3 ⟨v3, v4, rfl, b3⟩
  have d1 : w3.cell? ⟨g1, 0, none⟩ = some (.int .u8 127) := (b3.cell (p := ⟨g1, 0, none⟩) l1).trans c1
  have d2 : w3.cell? ⟨g2, 0, none⟩ = some (.int .u8 k) := (b3.cell (p := ⟨g2, 0, none⟩) l2).trans c2
  have m2 : g2 < w3.heap.size := Nat.lt_of_lt_of_le l2 b3.size
  have m1 : g1 < w3.heap.size := Nat.lt_of_lt_of_le l1 b3.size
  have HB3 : Hid (Below w.heap.size w w3) := b1.trans (b3.mono b1.size)
  clear c1 c2 b1 b3 l1 l2
  have HCP : Hid (∀ i, i < 1 → w3.cell? ⟨g1, i, none⟩ = some (.int .u8 (([127] : List Int).getD i 0))) := by
    intro i hi
    have : i = 0 := by omega
    subst this
    exact d1
  go_wp2_with fail
  refine (copy_any g1 1 [127] rfl (by omega) (by omega) w3 HCP.out).mono ?_
  rintro e w4 ⟨v, rfl, hown, b4⟩
  have e1 : w4.cell? ⟨g1, 0, none⟩ = some (.int .u8 127) := (b4.cell (p := ⟨g1, 0, none⟩) m1).trans d1
  have e2 : w4.cell? ⟨g2, 0, none⟩ = some (.int .u8 k) := (b4.cell (p := ⟨g2, 0, none⟩) m2).trans d2
  have HE1 : Hid _ := e1
  have HE2 : Hid _ := e2
  have HB4 : Hid (Below w3.heap.size w3 w4) := b4
  have hs4 := b4.size
  clear d1 d2 HCP b4 e1 e2 m2
  have hown2 : w4.ownsRow w3.heap.size 32 1 v 1 [.int .u8 127] := hown
  clear hown
  go_wp2_with (at_builtin; refine wpList_append_own _ rfl _ _ 28 rfl w3.heap.size 32 i0 (.int .u8 0) 1 1 Tryd.underlying28 hi hz0 hz1 hz2 rfl (by decide) _ 1 [.int .u8 127] rfl hown2 ⟨g2, 0, none⟩ 1 1 [.int .u8 k] rfl rfl ?c1 ?c2 ?c3 ?c4 ?c5 ?_)
  case c1 =>
    intro j u hu
    have hj : j = 0 := by
      have := (List.getElem?_eq_some_iff.1 hu).1
      simp at this; exact this
    subst hj
    simp at hu
    subst hu
    exact HE2.out
  case c2 => intro u hu; simp at hu; subst hu; rfl
  case c3 => unfold maxLen; omega
  case c4 => omega
  case c5 => exact hs4
  intro v' w5 hown5 hgrow _
  have HB5 : Hid (Below w3.heap.size w3 w5) := HB4.out.grown hgrow hs4 (fun j hj => (hown2.lt j hj).1)
  obtain ⟨g, cap, rfl, hcap, hmx, hcell⟩ := own_two (a := 127) (b := k) hown5
  have f1 : w5.cell? ⟨g1, 0, none⟩ = some (.int .u8 127) := (HB5.out.cell (p := ⟨g1, 0, none⟩) m1).trans ((HB4.out.cell (p := ⟨g1, 0, none⟩) m1).symm.trans HE1.out)
  have HFIN : Hid (Below w.heap.size w w5) := HB3.out.trans (HB5.out.mono HB3.out.size)
  clear hown2 hown5 hgrow HB4 HB5 HB3 HE1 HE2 hs4 m1
  unfold maxLen at hmx
  rcases hk with (rfl | rfl | rfl) | ⟨rfl, rfl⟩
  · skip
    go_wp2
    go_ret
    exact ⟨rfl, HFIN.out⟩
  · skip
    go_wp2
    go_ret
    exact ⟨rfl, HFIN.out⟩
  · skip
    go_wp2
    go_ret
    exact ⟨rfl, HFIN.out⟩
  · skip
    go_wp2
    go_ret
    exact ⟨rfl, HFIN.out⟩
set_option maxHeartbeats 4000000 in
set_option maxRecDepth 1000000 in
theorem kinds_store (op wv k : Int) (hk : (wv = 1 ∨ wv = 2 ∨ wv = 4) ∨ (wv = 8 ∧ k = 126)) (w : World) (HP : Hid (Calls Tryd.prog 10 #[.int .u8 op] w fun e w' => ∃ g1, e = .returned (.tuple #[.slice (some ⟨g1, 0, none⟩) 2 2, .slice none 0 0, .bool true]) ∧ w'.cell? ⟨g1, 0, none⟩ = some (.int .u8 127) ∧ w'.cell? ⟨g1, 1, none⟩ = some (.int .u8 k) ∧ g1 < w'.heap.size ∧ Below w.heap.size w w')) (HW : Hid (∀ w, Calls Tryd.prog 13 #[.int .u8 op] w fun e w' => e = .returned (.int .i64 wv) ∧ w' = w)) (H65 : Hid (∀ w, Calls Tryd.prog 10 #[.int .u8 65] w fun e w' => ∃ v1 v2, e = .returned (.tuple #[v1, v2, .bool true]) ∧ Below w.heap.size w w')) :
    Calls Tryd.prog 7 #[.int .u8 op] w fun e w' => e = .returned (.bool true) ∧ Below w.heap.size w w' := by
  obtain ⟨i0, hi, hz0, hz1, hz2⟩ := info_parts Tryd.infoKind
  have hw0 : (wv == 0) = false := by rw [beq_eq_false_iff_ne]; omega
  go_enter Tryd.func7, Tryd.ntmps7
  go_wp2_with fail
  refine HP.out.mono ?_
  rintro e w1 ⟨g1, rfl, c1, c2, l1, b1⟩
  go_wp2_with fail
  refine (HW.out _).mono ?_
  rintro e w2 ⟨rfl, rfl⟩
  go_wp2_with fail
  refine (H65.out _).mono ?_
  rintro e w3 ⟨v3, v4, rfl, b3⟩
  have d1 : w3.cell? ⟨g1, 0, none⟩ = some (.int .u8 127) := (b3.cell (p := ⟨g1, 0, none⟩) l1).trans c1
  have d2 : w3.cell? ⟨g1, 1, none⟩ = some (.int .u8 k) := (b3.cell (p := ⟨g1, 1, none⟩) l1).trans c2
  have m1 : g1 < w3.heap.size := Nat.lt_of_lt_of_le l1 b3.size
  have HB3 : Hid (Below w.heap.size w w3) := b1.trans (b3.mono b1.size)
  clear c1 c2 b1 b3 l1
  have HCP : Hid (∀ i, i < 2 → w3.cell? ⟨g1, i, none⟩ = some (.int .u8 (([127, k] : List Int).getD i 0))) := by
    intro i hi
    rcases (show i = 0 ∨ i = 1 by omega) with rfl | rfl
    · exact d1
    · exact d2
  go_wp2_with fail
  refine (copy_any g1 2 [127, k] rfl (by omega) (by omega) w3 HCP.out).mono ?_
  rintro e w4 ⟨v, rfl, hown, b4⟩
  have e1 : w4.cell? ⟨g1, 0, none⟩ = some (.int .u8 127) := (b4.cell (p := ⟨g1, 0, none⟩) m1).trans d1
  have HB4 : Hid (Below w3.heap.size w3 w4) := b4
  clear d1 d2 HCP b4
  have hown2 : w4.ownsRow w3.heap.size 32 1 v 2 [.int .u8 127, .int .u8 k] := hown
  clear hown
  obtain ⟨g, cap, rfl, hcap, hmx, hcell⟩ := own_two (a := 127) (b := k) hown2
  unfold maxLen at hmx
  have f1 := e1
  have HFIN : Hid (Below w.heap.size w w4) := HB3.out.trans (HB4.out.mono HB3.out.size)
  clear HB4 HB3 e1 m1
  rcases hk with (rfl | rfl | rfl) | ⟨rfl, rfl⟩
  · skip
    go_wp2_with (at_builtin; refine wpList_append_own_none rfl _ _ 28 rfl w3.heap.size 32 i0 1 Tryd.underlying28 hi _ 2 [.int .u8 127, .int .u8 k] rfl hown2 rfl ?_)
    go_wp2
    go_ret
    exact ⟨rfl, HFIN.out⟩
  · skip
    go_wp2_with (at_builtin; refine wpList_append_own_none rfl _ _ 28 rfl w3.heap.size 32 i0 1 Tryd.underlying28 hi _ 2 [.int .u8 127, .int .u8 k] rfl hown2 rfl ?_)
    go_wp2
    go_ret
    exact ⟨rfl, HFIN.out⟩
  · skip
    go_wp2_with (at_builtin; refine wpList_append_own_none rfl _ _ 28 rfl w3.heap.size 32 i0 1 Tryd.underlying28 hi _ 2 [.int .u8 127, .int .u8 k] rfl hown2 rfl ?_)
    go_wp2
    go_ret
    exact ⟨rfl, HFIN.out⟩
  · skip
    go_wp2_with (at_builtin; refine wpList_append_own_none rfl _ _ 28 rfl w3.heap.size 32 i0 1 Tryd.underlying28 hi _ 2 [.int .u8 127, .int .u8 k] rfl hown2 rfl ?_)
    go_wp2
    go_ret
    exact ⟨rfl, HFIN.out⟩
theorem insW_kind (op : Int) (h : 0 < insW op) : (insW op = 1 ∨ insW op = 2 ∨ insW op = 4) ∨ (insW op = 8 ∧ kMem op = 126) := by
  by_cases h8 : op = 41 ∨ op = 55
  · right
    rcases h8 with rfl | rfl <;> decide
  · left
    unfold insW at h ⊢
    split
    · exact Or.inl rfl
    · split
      · exact Or.inr (Or.inl rfl)
      · split
        · exact Or.inr (Or.inr rfl)
        · rename_i h1 h2 h3
          rw [if_neg h1, if_neg h2, if_neg h3, if_neg h8] at h
          omega
theorem insKinds_walk (a0 : Int) (w0 : (Lit.int .u8 a0).wf = true) (w : World) (hT : TabIn w) :
    Calls Tryd.prog 7 #[.int .u8 a0] w fun e w' => e = .returned (.bool true) ∧ Below w.heap.size w w' := by
  have hb : 0 ≤ a0 ∧ a0 ≤ 255 := bounds_u8 w0
  have hP := plain_any a0 hb.1 hb.2 w hT
  have h65 : ∀ w, Calls Tryd.prog 10 #[.int .u8 65] w fun e w' => ∃ v1 v2, e = .returned (.tuple #[v1, v2, .bool true]) ∧ Below w.heap.size w w' := by
    intro w
    refine (plain_65 w).mono ?_
    rintro e w1 ⟨v1, v2, rfl, _, _, b⟩
    exact ⟨v1, v2, rfl, b⟩
  by_cases hw : 0 < insW a0
  · have n4 : ¬ (a0 = 63 ∨ a0 = 65 ∨ a0 = 66) ∧ ¬ a0 = 64 := by
      constructor
      · rintro (rfl | rfl | rfl) <;> exact absurd hw (by decide)
      · rintro rfl; exact absurd hw (by decide)
    have e3 : pIs a0 = true := by unfold pIs; simp [hw]
    rw [e3] at hP
    by_cases h54 : a0 < 54
    · have e1 : pIn a0 = [127] := by unfold pIn; rw [if_neg n4.1, if_neg n4.2, if_pos hw, if_pos h54]
      have e2 : pOut a0 = [kMem a0] := by unfold pOut; rw [if_neg (by omega), if_neg (by omega), if_neg n4.2, if_pos hw, if_pos h54]
      rw [e1, e2] at hP
      refine kinds_load a0 (insW a0) (kMem a0) (insW_kind a0 hw) w (hP.mono ?_) (fun w => width_any a0 w) h65
      rintro e w1 ⟨v1, v2, rfl, k1, k2, b⟩
      rcases k1 with ⟨h, _⟩ | ⟨_, g1, rfl, _, l1, c1⟩
      · cases h
      rcases k2 with ⟨h, _⟩ | ⟨_, g2, rfl, _, l2, c2⟩
      · cases h
      exact ⟨g1, g2, rfl, c1 0 (by simp), c2 0 (by simp), l1, l2, b⟩
    · have e1 : pIn a0 = [127, kMem a0] := by unfold pIn; rw [if_neg n4.1, if_neg n4.2, if_pos hw, if_neg h54]
      have e2 : pOut a0 = [] := by unfold pOut; rw [if_neg (by omega), if_neg (by omega), if_neg n4.2, if_pos hw, if_neg h54]
      rw [e1, e2] at hP
      refine kinds_store a0 (insW a0) (kMem a0) (insW_kind a0 hw) w (hP.mono ?_) (fun w => width_any a0 w) h65
      rintro e w1 ⟨v1, v2, rfl, k1, k2, b⟩
      rcases k1 with ⟨h, _⟩ | ⟨_, g1, rfl, _, l1, c1⟩
      · cases h
      rcases k2 with ⟨_, rfl⟩ | ⟨h, _⟩
      · exact ⟨g1, rfl, c1 0 (by simp), c1 1 (by simp), l1, b⟩
      · exact absurd h (by simp)
  · have e0 : insW a0 = 0 := by have := insW_range a0; omega
    cases hi : pIs a0 with
    | true =>
      rw [hi] at hP
      refine kinds_is a0 (insW a0) e0 w (hP.mono ?_) (fun w => width_any a0 w) h65
      rintro e w1 ⟨v1, v2, rfl, _, _, b⟩
      exact ⟨v1, v2, rfl, b⟩
    | false =>
      have hh : ¬ (63 ≤ a0 ∧ a0 ≤ 66) ∧ ¬ insN a0 = 1 ∧ ¬ insN a0 = 2 := by
        unfold pIs at hi
        simp only [Bool.or_eq_false_iff, decide_eq_false_iff_not] at hi
        exact ⟨hi.1.1.1, hi.1.2, hi.2⟩
      have e1 : pIn a0 = [] := by unfold pIn; rw [if_neg (by omega), if_neg (by omega), if_neg hw, if_neg hh.2.1, if_neg hh.2.2]
      have e2 : pOut a0 = [] := by unfold pOut; rw [if_neg (by omega), if_neg (by omega), if_neg (by omega), if_neg hw, if_neg hh.2.1, if_neg hh.2.2]
      rw [hi, e1, e2] at hP
      refine kinds_no a0 (insW a0) e0 w (hP.mono ?_) (fun w => width_any a0 w) h65
      rintro e w1 ⟨v1, v2, rfl, k1, k2, b⟩
      rcases k1 with ⟨_, rfl⟩ | ⟨h, _⟩
      · rcases k2 with ⟨_, rfl⟩ | ⟨h, _⟩
        · exact ⟨rfl, b⟩
        · exact absurd h (by simp)
      · exact absurd h (by simp)
end Go.Proofs.YtdbhdgkbkhjikaaDoor
