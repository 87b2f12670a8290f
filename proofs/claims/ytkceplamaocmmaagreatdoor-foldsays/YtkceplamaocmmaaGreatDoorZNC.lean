/-
  What the document's own bitwise does.
  What the document's own bitwise does.
  What the document's own bitwise does.
-/
import Derived.Test.YtkceplamaocmmaaGreatDoorZNB
set_option maxHeartbeats 1000000
set_option maxRecDepth 1000000
namespace Go.Proofs.YtkceplamaocmmaaGreatDoor
set_option linter.unusedVariables false
open Go.RowKit
def byBit (n : Nat) (f : Nat → Bool) : List Bool := (List.range n).map f
theorem byBit_length (n : Nat) (f : Nat → Bool) : (byBit n f).length = n := by simp [byBit]
def partBit (n k : Nat) (f : Nat → Bool) : List Bool := byBit n (fun i => decide (i < k) && f i)
theorem partBit_zero (n : Nat) (f : Nat → Bool) : partBit n 0 f = List.replicate n false := by
  apply List.ext_getElem
  · simp [partBit, byBit]
  · intro i h1 h2; simp [partBit, byBit]
theorem partBit_all (n : Nat) (f : Nat → Bool) : partBit n n f = byBit n f := by
  apply List.ext_getElem
  · simp [partBit, byBit]
  · intro i h1 h2
    simp [partBit, byBit] at h1 ⊢
    omega
theorem partBit_set (n k : Nat) (f : Nat → Bool) : (partBit n k f).set k (f k) = partBit n (k + 1) f := by
  apply List.ext_getElem
  · simp [partBit, byBit]
  · intro i h1 h2
    rw [List.getElem_set]
    by_cases hik : k = i
    · subst hik; simp [partBit, byBit]
    · rw [if_neg hik]
      simp [partBit, byBit]
      have : decide (i < k) = decide (i < k + 1) := by by_cases h : i < k <;> simp [h] <;> omega
      rw [this]
theorem partBit_at (n k : Nat) (f : Nat → Bool) (h : k < n) : ((partBit n k f).map Value.bool)[k]? = some (.bool false) := by
  simp [partBit, byBit, h]
theorem own_word {w : World} {B g L cap : Nat} {bs : List Bool} (h : w.ownsRow B 4 1 (.slice (some ⟨g, 0, none⟩) L cap) L (bs.map Value.bool)) (hl : bs.length = L) (h1 : 1 ≤ L) : IsW w (.slice (some ⟨g, 0, none⟩) L cap) bs := isW_own (by rw [hl]; exact h) (by omega)
theorem bit7_any (u v : Value) (bs cs : List Bool) (by_ : Nat) (w : World) (hu : IsW w u bs) (hv : IsW w v cs) (hl : cs.length = bs.length) (h1 : 1 ≤ bs.length) (h64 : bs.length ≤ 64) (hby : by_ < bs.length) :
    Calls Tryz.prog 67 #[.int .i64 7, u, v, .int .i64 by_] w fun e w' => ∃ v', e = .returned v' ∧ IsW w' v' (byBit bs.length (fun i => bs.getD i false && cs.getD i false)) ∧ Below w.heap.size w w' := by
  have hmk := mk_word bs.length (by omega)
  obtain ⟨g, cap, rfl, hcap, hmx, hg, hc⟩ := hu
  obtain ⟨g', cap', rfl, hcap', hmx', hg', hc'⟩ := hv
  unfold maxLen at hmx hmx'
  obtain ⟨L, hL⟩ : ∃ L, bs.length = L := ⟨_, rfl⟩
  rw [hL] at hl hcap hc h1 h64 hmk hby ⊢
  rw [hl] at hcap' hc' ⊢
  clear hl hL
  obtain ⟨F, hF⟩ : ∃ F : Nat → Bool, (fun i => bs.getD i false && cs.getD i false) = F := ⟨_, rfl⟩
  rw [hF]
  have HF : Hid (∀ i, (bs.getD i false && cs.getD i false) = F i) := fun i => congrFun hF i
  clear hF
  have hst0 := made_own w L (by omega)
  go_enter Tryz.func67, Tryz.ntmps67
  go_wp2
  clear hmk
  go_loopw [11, 17] (fun _ i wr => ∃ k : Nat, i = .int .i64 k ∧ k ≤ L ∧ wr.ownsRow w.heap.size 4 1 (.slice (some ⟨w.heap.size, 0, none⟩) L L) L ((partBit L k F).map Value.bool) ∧ Below w.heap.size w wr) (fun _ i _ => L - (intOf i).toNat)
  case atStart => exact ⟨0, rfl, by omega, by rw [partBit_zero]; exact hst0, (Below.refl _ _).alloc (Nat.le_refl _) _⟩
  case round =>
    clear hst0
    obtain ⟨k, rfl, hk, hq, hb⟩ := hrel
    by_cases hlt : k < L
    · have hk0 : (0 : Int) ≤ (k : Int) := by omega
      have hk1 : (k : Int) < (L : Int) := by omega
      have hcq : wr.cell? ⟨w.heap.size, k, none⟩ = some (.bool false) := (hq.cellAt k (by omega)).trans (partBit_at L k F hlt)
      have hfq := hq.frozenAt k
      have hst := (hq.stored k (.bool (F k))).1
      rw [set_map, partBit_set] at hst
      have HST : Hid ((wr.setCell ⟨w.heap.size, k, none⟩ (.bool (F k))).ownsRow w.heap.size 4 1 (.slice (some ⟨w.heap.size, 0, none⟩) L L) L ((partBit L (k + 1) F).map Value.bool)) := hst
      have HBB : Hid (Below w.heap.size w (wr.setCell ⟨w.heap.size, k, none⟩ (.bool (F k)))) := hb.setCell (p := ⟨w.heap.size, k, none⟩) (Nat.le_refl _) _
      have HFK := HF.out k
      clear hst hq
      have hca : wr.cell? ⟨g, k, none⟩ = some (.bool (bs.getD k false)) := (hb.cell (p := ⟨g, k, none⟩) hg).trans (hc k hlt)
      have hcb : wr.cell? ⟨g', k, none⟩ = some (.bool (cs.getD k false)) := (hb.cell (p := ⟨g', k, none⟩) hg').trans (hc' k hlt)
      obtain ⟨x, hx⟩ : ∃ x, bs.getD k false = x := ⟨_, rfl⟩
      obtain ⟨y, hy⟩ : ∃ y, cs.getD k false = y := ⟨_, rfl⟩
      rw [hx, hy] at HFK
      rw [hx] at hca
      rw [hy] at hcb
      generalize hz : F k = z at HST HBB HFK
      subst HFK
      clear hx hy hz HF hc hc' hb
      cases x <;> cases y
      all_goals
        go_wp2
        go_roundw
        case rel => exact ⟨k + 1, by go_num, by omega, HST.out, HBB.out⟩
        case measure => simp [intOf]; omega
    · have hkW : k = L := by omega
      subst hkW
      rw [partBit_all] at hq
      go_wp2
      go_ret
      exact ⟨_, rfl, own_word hq (byBit_length _ _) h1, hb⟩
theorem bit8_any (u v : Value) (bs cs : List Bool) (by_ : Nat) (w : World) (hu : IsW w u bs) (hv : IsW w v cs) (hl : cs.length = bs.length) (h1 : 1 ≤ bs.length) (h64 : bs.length ≤ 64) (hby : by_ < bs.length) :
    Calls Tryz.prog 67 #[.int .i64 8, u, v, .int .i64 by_] w fun e w' => ∃ v', e = .returned v' ∧ IsW w' v' (byBit bs.length (fun i => bs.getD i false || cs.getD i false)) ∧ Below w.heap.size w w' := by
  have hmk := mk_word bs.length (by omega)
  obtain ⟨g, cap, rfl, hcap, hmx, hg, hc⟩ := hu
  obtain ⟨g', cap', rfl, hcap', hmx', hg', hc'⟩ := hv
  unfold maxLen at hmx hmx'
  obtain ⟨L, hL⟩ : ∃ L, bs.length = L := ⟨_, rfl⟩
  rw [hL] at hl hcap hc h1 h64 hmk hby ⊢
  rw [hl] at hcap' hc' ⊢
  clear hl hL
  obtain ⟨F, hF⟩ : ∃ F : Nat → Bool, (fun i => bs.getD i false || cs.getD i false) = F := ⟨_, rfl⟩
  rw [hF]
  have HF : Hid (∀ i, (bs.getD i false || cs.getD i false) = F i) := fun i => congrFun hF i
  clear hF
  have hst0 := made_own w L (by omega)
  go_enter Tryz.func67, Tryz.ntmps67
  go_wp2
  clear hmk
  go_loopw [11, 17] (fun _ i wr => ∃ k : Nat, i = .int .i64 k ∧ k ≤ L ∧ wr.ownsRow w.heap.size 4 1 (.slice (some ⟨w.heap.size, 0, none⟩) L L) L ((partBit L k F).map Value.bool) ∧ Below w.heap.size w wr) (fun _ i _ => L - (intOf i).toNat)
  case atStart => exact ⟨0, rfl, by omega, by rw [partBit_zero]; exact hst0, (Below.refl _ _).alloc (Nat.le_refl _) _⟩
  case round =>
    clear hst0
    obtain ⟨k, rfl, hk, hq, hb⟩ := hrel
    by_cases hlt : k < L
    · have hk0 : (0 : Int) ≤ (k : Int) := by omega
      have hk1 : (k : Int) < (L : Int) := by omega
      have hcq : wr.cell? ⟨w.heap.size, k, none⟩ = some (.bool false) := (hq.cellAt k (by omega)).trans (partBit_at L k F hlt)
      have hfq := hq.frozenAt k
      have hst := (hq.stored k (.bool (F k))).1
      rw [set_map, partBit_set] at hst
      have HST : Hid ((wr.setCell ⟨w.heap.size, k, none⟩ (.bool (F k))).ownsRow w.heap.size 4 1 (.slice (some ⟨w.heap.size, 0, none⟩) L L) L ((partBit L (k + 1) F).map Value.bool)) := hst
      have HBB : Hid (Below w.heap.size w (wr.setCell ⟨w.heap.size, k, none⟩ (.bool (F k)))) := hb.setCell (p := ⟨w.heap.size, k, none⟩) (Nat.le_refl _) _
      have HFK := HF.out k
      clear hst hq
      have hca : wr.cell? ⟨g, k, none⟩ = some (.bool (bs.getD k false)) := (hb.cell (p := ⟨g, k, none⟩) hg).trans (hc k hlt)
      have hcb : wr.cell? ⟨g', k, none⟩ = some (.bool (cs.getD k false)) := (hb.cell (p := ⟨g', k, none⟩) hg').trans (hc' k hlt)
      obtain ⟨x, hx⟩ : ∃ x, bs.getD k false = x := ⟨_, rfl⟩
      obtain ⟨y, hy⟩ : ∃ y, cs.getD k false = y := ⟨_, rfl⟩
      rw [hx, hy] at HFK
      rw [hx] at hca
      rw [hy] at hcb
      generalize hz : F k = z at HST HBB HFK
      subst HFK
      clear hx hy hz HF hc hc' hb
      cases x <;> cases y
      all_goals
        go_wp2
        go_roundw
        case rel => exact ⟨k + 1, by go_num, by omega, HST.out, HBB.out⟩
        case measure => simp [intOf]; omega
    · have hkW : k = L := by omega
      subst hkW
      rw [partBit_all] at hq
      go_wp2
      go_ret
      exact ⟨_, rfl, own_word hq (byBit_length _ _) h1, hb⟩
theorem bit9_any (u v : Value) (bs cs : List Bool) (by_ : Nat) (w : World) (hu : IsW w u bs) (hv : IsW w v cs) (hl : cs.length = bs.length) (h1 : 1 ≤ bs.length) (h64 : bs.length ≤ 64) (hby : by_ < bs.length) :
    Calls Tryz.prog 67 #[.int .i64 9, u, v, .int .i64 by_] w fun e w' => ∃ v', e = .returned v' ∧ IsW w' v' (byBit bs.length (fun i => bs.getD i false != cs.getD i false)) ∧ Below w.heap.size w w' := by
  have hmk := mk_word bs.length (by omega)
  obtain ⟨g, cap, rfl, hcap, hmx, hg, hc⟩ := hu
  obtain ⟨g', cap', rfl, hcap', hmx', hg', hc'⟩ := hv
  unfold maxLen at hmx hmx'
  obtain ⟨L, hL⟩ : ∃ L, bs.length = L := ⟨_, rfl⟩
  rw [hL] at hl hcap hc h1 h64 hmk hby ⊢
  rw [hl] at hcap' hc' ⊢
  clear hl hL
  obtain ⟨F, hF⟩ : ∃ F : Nat → Bool, (fun i => bs.getD i false != cs.getD i false) = F := ⟨_, rfl⟩
  rw [hF]
  have HF : Hid (∀ i, (bs.getD i false != cs.getD i false) = F i) := fun i => congrFun hF i
  clear hF
  have hst0 := made_own w L (by omega)
  go_enter Tryz.func67, Tryz.ntmps67
  go_wp2
  clear hmk
  go_loopw [11, 17] (fun _ i wr => ∃ k : Nat, i = .int .i64 k ∧ k ≤ L ∧ wr.ownsRow w.heap.size 4 1 (.slice (some ⟨w.heap.size, 0, none⟩) L L) L ((partBit L k F).map Value.bool) ∧ Below w.heap.size w wr) (fun _ i _ => L - (intOf i).toNat)
  case atStart => exact ⟨0, rfl, by omega, by rw [partBit_zero]; exact hst0, (Below.refl _ _).alloc (Nat.le_refl _) _⟩
  case round =>
    clear hst0
    obtain ⟨k, rfl, hk, hq, hb⟩ := hrel
    by_cases hlt : k < L
    · have hk0 : (0 : Int) ≤ (k : Int) := by omega
      have hk1 : (k : Int) < (L : Int) := by omega
      have hcq : wr.cell? ⟨w.heap.size, k, none⟩ = some (.bool false) := (hq.cellAt k (by omega)).trans (partBit_at L k F hlt)
      have hfq := hq.frozenAt k
      have hst := (hq.stored k (.bool (F k))).1
      rw [set_map, partBit_set] at hst
      have HST : Hid ((wr.setCell ⟨w.heap.size, k, none⟩ (.bool (F k))).ownsRow w.heap.size 4 1 (.slice (some ⟨w.heap.size, 0, none⟩) L L) L ((partBit L (k + 1) F).map Value.bool)) := hst
      have HBB : Hid (Below w.heap.size w (wr.setCell ⟨w.heap.size, k, none⟩ (.bool (F k)))) := hb.setCell (p := ⟨w.heap.size, k, none⟩) (Nat.le_refl _) _
      have HFK := HF.out k
      clear hst hq
      have hca : wr.cell? ⟨g, k, none⟩ = some (.bool (bs.getD k false)) := (hb.cell (p := ⟨g, k, none⟩) hg).trans (hc k hlt)
      have hcb : wr.cell? ⟨g', k, none⟩ = some (.bool (cs.getD k false)) := (hb.cell (p := ⟨g', k, none⟩) hg').trans (hc' k hlt)
      obtain ⟨x, hx⟩ : ∃ x, bs.getD k false = x := ⟨_, rfl⟩
      obtain ⟨y, hy⟩ : ∃ y, cs.getD k false = y := ⟨_, rfl⟩
      rw [hx, hy] at HFK
      rw [hx] at hca
      rw [hy] at hcb
      generalize hz : F k = z at HST HBB HFK
      subst HFK
      clear hx hy hz HF hc hc' hb
      cases x <;> cases y
      all_goals
        go_wp2
        go_region
        all_goals go_wp2
        all_goals go_roundw
        case rel => exact ⟨k + 1, by go_num, by omega, HST.out.drew, HBB.out.drew⟩
        case measure => simp [intOf]; omega
    · have hkW : k = L := by omega
      subst hkW
      rw [partBit_all] at hq
      go_wp2
      go_ret
      exact ⟨_, rfl, own_word hq (byBit_length _ _) h1, hb⟩
end Go.Proofs.YtkceplamaocmmaaGreatDoor
namespace Go.Proofs.YtkceplamaocmmaaGreatDoor
set_option linter.unusedVariables false
open Go.RowKit
theorem bit14_any (u v : Value) (bs cs : List Bool) (by_ : Nat) (w : World) (hu : IsW w u bs) (hv : IsW w v cs) (hl : cs.length = bs.length) (h1 : 1 ≤ bs.length) (h64 : bs.length ≤ 64) (hby : by_ < bs.length) :
    Calls Tryz.prog 67 #[.int .i64 14, u, v, .int .i64 by_] w fun e w' => ∃ v', e = .returned v' ∧ IsW w' v' (byBit bs.length (fun i => bs.getD ((i + by_) % bs.length) false)) ∧ Below w.heap.size w w' := by
  have hmk := mk_word bs.length (by omega)
  obtain ⟨g, cap, rfl, hcap, hmx, hg, hc⟩ := hu
  obtain ⟨g', cap', rfl, hcap', hmx', hg', hc'⟩ := hv
  unfold maxLen at hmx hmx'
  obtain ⟨L, hL⟩ : ∃ L, bs.length = L := ⟨_, rfl⟩
  rw [hL] at hl hcap hc h1 h64 hmk hby ⊢
  rw [hl] at hcap' hc' ⊢
  clear hl hL
  obtain ⟨F, hF⟩ : ∃ F : Nat → Bool, (fun i => bs.getD ((i + by_) % L) false) = F := ⟨_, rfl⟩
  rw [hF]
  have HF : Hid (∀ i, (bs.getD ((i + by_) % L) false) = F i) := fun i => congrFun hF i
  clear hF
  have hst0 := made_own w L (by omega)
  go_enter Tryz.func67, Tryz.ntmps67
  go_wp2
  clear hmk
  go_loopw [11, 17] (fun _ i wr => ∃ k : Nat, i = .int .i64 k ∧ k ≤ L ∧ wr.ownsRow w.heap.size 4 1 (.slice (some ⟨w.heap.size, 0, none⟩) L L) L ((partBit L k F).map Value.bool) ∧ Below w.heap.size w wr) (fun _ i _ => L - (intOf i).toNat)
  case atStart => exact ⟨0, rfl, by omega, by rw [partBit_zero]; exact hst0, (Below.refl _ _).alloc (Nat.le_refl _) _⟩
  case round =>
    clear hst0
    obtain ⟨k, rfl, hk, hq, hb⟩ := hrel
    by_cases hlt : k < L
    · have hk0 : (0 : Int) ≤ (k : Int) := by omega
      have hk1 : (k : Int) < (L : Int) := by omega
      have hcq : wr.cell? ⟨w.heap.size, k, none⟩ = some (.bool false) := (hq.cellAt k (by omega)).trans (partBit_at L k F hlt)
      have hfq := hq.frozenAt k
      have hst := (hq.stored k (.bool (F k))).1
      rw [set_map, partBit_set] at hst
      have HST : Hid ((wr.setCell ⟨w.heap.size, k, none⟩ (.bool (F k))).ownsRow w.heap.size 4 1 (.slice (some ⟨w.heap.size, 0, none⟩) L L) L ((partBit L (k + 1) F).map Value.bool)) := hst
      have HBB : Hid (Below w.heap.size w (wr.setCell ⟨w.heap.size, k, none⟩ (.bool (F k)))) := hb.setCell (p := ⟨w.heap.size, k, none⟩) (Nat.le_refl _) _
      have HFK := HF.out k
      clear hst hq
      have hbk0 : (0 : Int) ≤ (by_ : Int) := by omega
      have hbk1 : (by_ : Int) < (L : Int) := by omega
      have hoff : (k + by_) % L < L := Nat.mod_lt _ (by omega)
      have ho1 : ((k : Int) + (by_ : Int)) % (L : Int) < (L : Int) := Int.emod_lt_of_pos _ (by omega)
      have ho0 : 0 ≤ ((k : Int) + (by_ : Int)) % (L : Int) := Int.emod_nonneg _ (by omega)
      have hca : wr.cell? ⟨g, (k + by_) % L, none⟩ = some (.bool (bs.getD ((k + by_) % L) false)) := (hb.cell (p := ⟨g, (k + by_) % L, none⟩) hg).trans (hc _ hoff)
      obtain ⟨x, hx⟩ : ∃ x, bs.getD ((k + by_) % L) false = x := ⟨_, rfl⟩
      rw [hx] at HFK hca
      generalize hz : F k = z at HST HBB HFK
      subst HFK
      clear hz HF hc hc' hb
      clear hx
      go_wp2
      go_roundw
      case rel => exact ⟨k + 1, by go_num, by omega, HST.out, HBB.out⟩
      case measure => simp [intOf]; omega
    · have hkW : k = L := by omega
      subst hkW
      rw [partBit_all] at hq
      go_wp2
      go_ret
      exact ⟨_, rfl, own_word hq (byBit_length _ _) h1, hb⟩
theorem bit13_any (u v : Value) (bs cs : List Bool) (by_ : Nat) (w : World) (hu : IsW w u bs) (hv : IsW w v cs) (hl : cs.length = bs.length) (h1 : 1 ≤ bs.length) (h64 : bs.length ≤ 64) (hby : by_ < bs.length) :
    Calls Tryz.prog 67 #[.int .i64 13, u, v, .int .i64 by_] w fun e w' => ∃ v', e = .returned v' ∧ IsW w' v' (byBit bs.length (fun i => bs.getD ((i + bs.length - by_) % bs.length) false)) ∧ Below w.heap.size w w' := by
  have hmk := mk_word bs.length (by omega)
  obtain ⟨g, cap, rfl, hcap, hmx, hg, hc⟩ := hu
  obtain ⟨g', cap', rfl, hcap', hmx', hg', hc'⟩ := hv
  unfold maxLen at hmx hmx'
  obtain ⟨L, hL⟩ : ∃ L, bs.length = L := ⟨_, rfl⟩
  rw [hL] at hl hcap hc h1 h64 hmk hby ⊢
  rw [hl] at hcap' hc' ⊢
  clear hl hL
  obtain ⟨F, hF⟩ : ∃ F : Nat → Bool, (fun i => bs.getD ((i + L - by_) % L) false) = F := ⟨_, rfl⟩
  rw [hF]
  have HF : Hid (∀ i, (bs.getD ((i + L - by_) % L) false) = F i) := fun i => congrFun hF i
  clear hF
  have hst0 := made_own w L (by omega)
  go_enter Tryz.func67, Tryz.ntmps67
  go_wp2
  clear hmk
  go_loopw [11, 17] (fun _ i wr => ∃ k : Nat, i = .int .i64 k ∧ k ≤ L ∧ wr.ownsRow w.heap.size 4 1 (.slice (some ⟨w.heap.size, 0, none⟩) L L) L ((partBit L k F).map Value.bool) ∧ Below w.heap.size w wr) (fun _ i _ => L - (intOf i).toNat)
  case atStart => exact ⟨0, rfl, by omega, by rw [partBit_zero]; exact hst0, (Below.refl _ _).alloc (Nat.le_refl _) _⟩
  case round =>
    clear hst0
    obtain ⟨k, rfl, hk, hq, hb⟩ := hrel
    by_cases hlt : k < L
    · have hk0 : (0 : Int) ≤ (k : Int) := by omega
      have hk1 : (k : Int) < (L : Int) := by omega
      have hcq : wr.cell? ⟨w.heap.size, k, none⟩ = some (.bool false) := (hq.cellAt k (by omega)).trans (partBit_at L k F hlt)
      have hfq := hq.frozenAt k
      have hst := (hq.stored k (.bool (F k))).1
      rw [set_map, partBit_set] at hst
      have HST : Hid ((wr.setCell ⟨w.heap.size, k, none⟩ (.bool (F k))).ownsRow w.heap.size 4 1 (.slice (some ⟨w.heap.size, 0, none⟩) L L) L ((partBit L (k + 1) F).map Value.bool)) := hst
      have HBB : Hid (Below w.heap.size w (wr.setCell ⟨w.heap.size, k, none⟩ (.bool (F k)))) := hb.setCell (p := ⟨w.heap.size, k, none⟩) (Nat.le_refl _) _
      have HFK := HF.out k
      clear hst hq
      have hbk0 : (0 : Int) ≤ (by_ : Int) := by omega
      have hbk1 : (by_ : Int) < (L : Int) := by omega
      obtain ⟨m, hm⟩ : ∃ m, k + L - by_ = m := ⟨_, rfl⟩
      have hm2 : (k : Int) - (by_ : Int) + (L : Int) = (m : Int) := by omega
      rw [hm] at HFK
      have hoff : m % L < L := Nat.mod_lt _ (by omega)
      have ho1 : (m : Int) % (L : Int) < (L : Int) := Int.emod_lt_of_pos _ (by omega)
      have ho0 : 0 ≤ (m : Int) % (L : Int) := Int.emod_nonneg _ (by omega)
      have hca : wr.cell? ⟨g, m % L, none⟩ = some (.bool (bs.getD (m % L) false)) := (hb.cell (p := ⟨g, m % L, none⟩) hg).trans (hc _ hoff)
      obtain ⟨x, hx⟩ : ∃ x, bs.getD (m % L) false = x := ⟨_, rfl⟩
      rw [hx] at HFK hca
      generalize hz : F k = z at HST HBB HFK
      subst HFK
      clear hz HF hc hc' hb
      clear hx hm
      go_wp2
      go_roundw
      case rel => exact ⟨k + 1, by go_num, by omega, HST.out, HBB.out⟩
      case measure => simp [intOf]; omega
    · have hkW : k = L := by omega
      subst hkW
      rw [partBit_all] at hq
      go_wp2
      go_ret
      exact ⟨_, rfl, own_word hq (byBit_length _ _) h1, hb⟩
end Go.Proofs.YtkceplamaocmmaaGreatDoor
namespace Go.Proofs.YtkceplamaocmmaaGreatDoor
set_option linter.unusedVariables false
open Go.RowKit
theorem bit10_any (u v : Value) (bs cs : List Bool) (by_ : Nat) (w : World) (hu : IsW w u bs) (hv : IsW w v cs) (hl : cs.length = bs.length) (h1 : 1 ≤ bs.length) (h64 : bs.length ≤ 64) (hby : by_ < bs.length) :
    Calls Tryz.prog 67 #[.int .i64 10, u, v, .int .i64 by_] w fun e w' => ∃ v', e = .returned v' ∧ IsW w' v' (byBit bs.length (fun i => decide (by_ ≤ i) && bs.getD (i - by_) false)) ∧ Below w.heap.size w w' := by
  have hmk := mk_word bs.length (by omega)
  obtain ⟨g, cap, rfl, hcap, hmx, hg, hc⟩ := hu
  obtain ⟨g', cap', rfl, hcap', hmx', hg', hc'⟩ := hv
  unfold maxLen at hmx hmx'
  obtain ⟨L, hL⟩ : ∃ L, bs.length = L := ⟨_, rfl⟩
  rw [hL] at hl hcap hc h1 h64 hmk hby ⊢
  rw [hl] at hcap' hc' ⊢
  clear hl hL
  obtain ⟨F, hF⟩ : ∃ F : Nat → Bool, (fun i => decide (by_ ≤ i) && bs.getD (i - by_) false) = F := ⟨_, rfl⟩
  rw [hF]
  have HF : Hid (∀ i, (decide (by_ ≤ i) && bs.getD (i - by_) false) = F i) := fun i => congrFun hF i
  clear hF
  have hst0 := made_own w L (by omega)
  go_enter Tryz.func67, Tryz.ntmps67
  go_wp2
  clear hmk
  go_loopw [11, 17] (fun _ i wr => ∃ k : Nat, i = .int .i64 k ∧ k ≤ L ∧ wr.ownsRow w.heap.size 4 1 (.slice (some ⟨w.heap.size, 0, none⟩) L L) L ((partBit L k F).map Value.bool) ∧ Below w.heap.size w wr) (fun _ i _ => L - (intOf i).toNat)
  case atStart => exact ⟨0, rfl, by omega, by rw [partBit_zero]; exact hst0, (Below.refl _ _).alloc (Nat.le_refl _) _⟩
  case round =>
    clear hst0
    obtain ⟨k, rfl, hk, hq, hb⟩ := hrel
    by_cases hlt : k < L
    · have hk0 : (0 : Int) ≤ (k : Int) := by omega
      have hk1 : (k : Int) < (L : Int) := by omega
      have hcq : wr.cell? ⟨w.heap.size, k, none⟩ = some (.bool false) := (hq.cellAt k (by omega)).trans (partBit_at L k F hlt)
      have hfq := hq.frozenAt k
      have hst := (hq.stored k (.bool (F k))).1
      rw [set_map, partBit_set] at hst
      have HST : Hid ((wr.setCell ⟨w.heap.size, k, none⟩ (.bool (F k))).ownsRow w.heap.size 4 1 (.slice (some ⟨w.heap.size, 0, none⟩) L L) L ((partBit L (k + 1) F).map Value.bool)) := hst
      have HBB : Hid (Below w.heap.size w (wr.setCell ⟨w.heap.size, k, none⟩ (.bool (F k)))) := hb.setCell (p := ⟨w.heap.size, k, none⟩) (Nat.le_refl _) _
      have HFK := HF.out k
      clear hst hq
      have hbk0 : (0 : Int) ≤ (by_ : Int) := by omega
      have hbk1 : (by_ : Int) < (L : Int) := by omega
      by_cases hge : by_ < k
      · obtain ⟨m, hm⟩ : ∃ m, k - by_ = m := ⟨_, rfl⟩
        have hge2 : (by_ : Int) ≤ (k : Int) := by omega
        have hm2 : (k : Int) - (by_ : Int) = (m : Int) := by omega
        have hm0 : (0 : Int) < (m : Int) := by omega
        have hm1 : (m : Int) < (L : Int) := by omega
        rw [hm, decide_eq_true (by omega), Bool.true_and] at HFK
        have hoff : m < L := by omega
        have hca : wr.cell? ⟨g, m, none⟩ = some (.bool (bs.getD (m) false)) := (hb.cell (p := ⟨g, m, none⟩) hg).trans (hc _ hoff)
        obtain ⟨x, hx⟩ : ∃ x, bs.getD (m) false = x := ⟨_, rfl⟩
        rw [hx] at HFK hca
        generalize hz : F k = z at HST HBB HFK
        subst HFK
        clear hz HF hc hc' hb
        clear hx hm hge
        go_wp2
        go_roundw
        case rel => exact ⟨k + 1, by go_num, by omega, HST.out, HBB.out⟩
        case measure => simp [intOf]; omega
      · by_cases hge3 : by_ = k
        · subst hge3
          rw [Nat.sub_self, decide_eq_true (Nat.le_refl _), Bool.true_and] at HFK
          have hoff : 0 < L := by omega
          have hca : wr.cell? ⟨g, 0, none⟩ = some (.bool (bs.getD (0) false)) := (hb.cell (p := ⟨g, 0, none⟩) hg).trans (hc _ hoff)
          obtain ⟨x, hx⟩ : ∃ x, bs.getD (0) false = x := ⟨_, rfl⟩
          rw [hx] at HFK hca
          generalize hz : F by_ = z at HST HBB HFK
          subst HFK
          clear hz HF hc hc' hb
          clear hx hge
          go_wp2
          go_roundw
          case rel => exact ⟨by_ + 1, by go_num, by omega, HST.out, HBB.out⟩
          case measure => simp [intOf]; omega
        · have hge2 : (k : Int) < (by_ : Int) := by omega
          rw [decide_eq_false (by omega), Bool.false_and] at HFK
          generalize hz : F k = z at HST HBB HFK
          subst HFK
          clear hz HF hc hc' hb
          clear hge hge3
          go_wp2
          go_roundw
          case rel => exact ⟨k + 1, by go_num, by omega, HST.out, HBB.out⟩
          case measure => simp [intOf]; omega
    · have hkW : k = L := by omega
      subst hkW
      rw [partBit_all] at hq
      go_wp2
      go_ret
      exact ⟨_, rfl, own_word hq (byBit_length _ _) h1, hb⟩
theorem bit11_any (u v : Value) (bs cs : List Bool) (by_ : Nat) (w : World) (hu : IsW w u bs) (hv : IsW w v cs) (hl : cs.length = bs.length) (h1 : 1 ≤ bs.length) (h64 : bs.length ≤ 64) (hby : by_ < bs.length) :
    Calls Tryz.prog 67 #[.int .i64 11, u, v, .int .i64 by_] w fun e w' => ∃ v', e = .returned v' ∧ IsW w' v' (byBit bs.length (fun i => bs.getD (min (bs.length - 1) (i + by_)) false)) ∧ Below w.heap.size w w' := by
  have hmk := mk_word bs.length (by omega)
  obtain ⟨g, cap, rfl, hcap, hmx, hg, hc⟩ := hu
  obtain ⟨g', cap', rfl, hcap', hmx', hg', hc'⟩ := hv
  unfold maxLen at hmx hmx'
  obtain ⟨L, hL⟩ : ∃ L, bs.length = L := ⟨_, rfl⟩
  rw [hL] at hl hcap hc h1 h64 hmk hby ⊢
  rw [hl] at hcap' hc' ⊢
  clear hl hL
  obtain ⟨F, hF⟩ : ∃ F : Nat → Bool, (fun i => bs.getD (min (L - 1) (i + by_)) false) = F := ⟨_, rfl⟩
  rw [hF]
  have HF : Hid (∀ i, (bs.getD (min (L - 1) (i + by_)) false) = F i) := fun i => congrFun hF i
  clear hF
  have hst0 := made_own w L (by omega)
  go_enter Tryz.func67, Tryz.ntmps67
  go_wp2
  clear hmk
  go_loopw [11, 17] (fun _ i wr => ∃ k : Nat, i = .int .i64 k ∧ k ≤ L ∧ wr.ownsRow w.heap.size 4 1 (.slice (some ⟨w.heap.size, 0, none⟩) L L) L ((partBit L k F).map Value.bool) ∧ Below w.heap.size w wr) (fun _ i _ => L - (intOf i).toNat)
  case atStart => exact ⟨0, rfl, by omega, by rw [partBit_zero]; exact hst0, (Below.refl _ _).alloc (Nat.le_refl _) _⟩
  case round =>
    clear hst0
    obtain ⟨k, rfl, hk, hq, hb⟩ := hrel
    by_cases hlt : k < L
    · have hk0 : (0 : Int) ≤ (k : Int) := by omega
      have hk1 : (k : Int) < (L : Int) := by omega
      have hcq : wr.cell? ⟨w.heap.size, k, none⟩ = some (.bool false) := (hq.cellAt k (by omega)).trans (partBit_at L k F hlt)
      have hfq := hq.frozenAt k
      have hst := (hq.stored k (.bool (F k))).1
      rw [set_map, partBit_set] at hst
      have HST : Hid ((wr.setCell ⟨w.heap.size, k, none⟩ (.bool (F k))).ownsRow w.heap.size 4 1 (.slice (some ⟨w.heap.size, 0, none⟩) L L) L ((partBit L (k + 1) F).map Value.bool)) := hst
      have HBB : Hid (Below w.heap.size w (wr.setCell ⟨w.heap.size, k, none⟩ (.bool (F k)))) := hb.setCell (p := ⟨w.heap.size, k, none⟩) (Nat.le_refl _) _
      have HFK := HF.out k
      clear hst hq
      have hbk0 : (0 : Int) ≤ (by_ : Int) := by omega
      have hbk1 : (by_ : Int) < (L : Int) := by omega
      by_cases hge : k + by_ < L - 1
      · obtain ⟨m, hm⟩ : ∃ m, k + by_ = m := ⟨_, rfl⟩
        have hm2 : (k : Int) + (by_ : Int) = (m : Int) := by omega
        have hm1 : (m : Int) < (L : Int) := by omega
        have hm3 : (m : Int) < (L : Int) - 1 := by omega
        rw [hm, Nat.min_eq_right (by omega)] at HFK
        have hoff : m < L := by omega
        have hca : wr.cell? ⟨g, m, none⟩ = some (.bool (bs.getD (m) false)) := (hb.cell (p := ⟨g, m, none⟩) hg).trans (hc _ hoff)
        obtain ⟨x, hx⟩ : ∃ x, bs.getD (m) false = x := ⟨_, rfl⟩
        rw [hx] at HFK hca
        generalize hz : F k = z at HST HBB HFK
        subst HFK
        clear hz HF hc hc' hb
        clear hx hm hge
        go_wp2
        go_roundw
        case rel => exact ⟨k + 1, by go_num, by omega, HST.out, HBB.out⟩
        case measure => simp [intOf]; omega
      · have hm3 : (L : Int) - 1 ≤ (k : Int) + (by_ : Int) := by omega
        rw [Nat.min_eq_left (by omega)] at HFK
        have hoff : L - 1 < L := by omega
        have hca : wr.cell? ⟨g, L - 1, none⟩ = some (.bool (bs.getD (L - 1) false)) := (hb.cell (p := ⟨g, L - 1, none⟩) hg).trans (hc _ hoff)
        obtain ⟨x, hx⟩ : ∃ x, bs.getD (L - 1) false = x := ⟨_, rfl⟩
        rw [hx] at HFK hca
        generalize hz : F k = z at HST HBB HFK
        subst HFK
        clear hz HF hc hc' hb
        clear hx hge
        go_wp2
        go_roundw
        case rel => exact ⟨k + 1, by go_num, by omega, HST.out, HBB.out⟩
        case measure => simp [intOf]; omega
    · have hkW : k = L := by omega
      subst hkW
      rw [partBit_all] at hq
      go_wp2
      go_ret
      exact ⟨_, rfl, own_word hq (byBit_length _ _) h1, hb⟩
theorem bit12_any (u v : Value) (bs cs : List Bool) (by_ : Nat) (w : World) (hu : IsW w u bs) (hv : IsW w v cs) (hl : cs.length = bs.length) (h1 : 1 ≤ bs.length) (h64 : bs.length ≤ 64) (hby : by_ < bs.length) :
    Calls Tryz.prog 67 #[.int .i64 12, u, v, .int .i64 by_] w fun e w' => ∃ v', e = .returned v' ∧ IsW w' v' (byBit bs.length (fun i => decide (i + by_ < bs.length) && bs.getD (i + by_) false)) ∧ Below w.heap.size w w' := by
  have hmk := mk_word bs.length (by omega)
  obtain ⟨g, cap, rfl, hcap, hmx, hg, hc⟩ := hu
  obtain ⟨g', cap', rfl, hcap', hmx', hg', hc'⟩ := hv
  unfold maxLen at hmx hmx'
  obtain ⟨L, hL⟩ : ∃ L, bs.length = L := ⟨_, rfl⟩
  rw [hL] at hl hcap hc h1 h64 hmk hby ⊢
  rw [hl] at hcap' hc' ⊢
  clear hl hL
  obtain ⟨F, hF⟩ : ∃ F : Nat → Bool, (fun i => decide (i + by_ < L) && bs.getD (i + by_) false) = F := ⟨_, rfl⟩
  rw [hF]
  have HF : Hid (∀ i, (decide (i + by_ < L) && bs.getD (i + by_) false) = F i) := fun i => congrFun hF i
  clear hF
  have hst0 := made_own w L (by omega)
  go_enter Tryz.func67, Tryz.ntmps67
  go_wp2
  clear hmk
  go_loopw [11, 17] (fun _ i wr => ∃ k : Nat, i = .int .i64 k ∧ k ≤ L ∧ wr.ownsRow w.heap.size 4 1 (.slice (some ⟨w.heap.size, 0, none⟩) L L) L ((partBit L k F).map Value.bool) ∧ Below w.heap.size w wr) (fun _ i _ => L - (intOf i).toNat)
  case atStart => exact ⟨0, rfl, by omega, by rw [partBit_zero]; exact hst0, (Below.refl _ _).alloc (Nat.le_refl _) _⟩
  case round =>
    clear hst0
    obtain ⟨k, rfl, hk, hq, hb⟩ := hrel
    by_cases hlt : k < L
    · have hk0 : (0 : Int) ≤ (k : Int) := by omega
      have hk1 : (k : Int) < (L : Int) := by omega
      have hcq : wr.cell? ⟨w.heap.size, k, none⟩ = some (.bool false) := (hq.cellAt k (by omega)).trans (partBit_at L k F hlt)
      have hfq := hq.frozenAt k
      have hst := (hq.stored k (.bool (F k))).1
      rw [set_map, partBit_set] at hst
      have HST : Hid ((wr.setCell ⟨w.heap.size, k, none⟩ (.bool (F k))).ownsRow w.heap.size 4 1 (.slice (some ⟨w.heap.size, 0, none⟩) L L) L ((partBit L (k + 1) F).map Value.bool)) := hst
      have HBB : Hid (Below w.heap.size w (wr.setCell ⟨w.heap.size, k, none⟩ (.bool (F k)))) := hb.setCell (p := ⟨w.heap.size, k, none⟩) (Nat.le_refl _) _
      have HFK := HF.out k
      clear hst hq
      have hbk0 : (0 : Int) ≤ (by_ : Int) := by omega
      have hbk1 : (by_ : Int) < (L : Int) := by omega
      by_cases hge : k + by_ < L - 1
      · obtain ⟨m, hm⟩ : ∃ m, k + by_ = m := ⟨_, rfl⟩
        have hm2 : (k : Int) + (by_ : Int) = (m : Int) := by omega
        have hm1 : (m : Int) < (L : Int) := by omega
        have hm3 : (m : Int) < (L : Int) - 1 := by omega
        rw [decide_eq_true (by omega), Bool.true_and, hm] at HFK
        have hoff : m < L := by omega
        have hca : wr.cell? ⟨g, m, none⟩ = some (.bool (bs.getD (m) false)) := (hb.cell (p := ⟨g, m, none⟩) hg).trans (hc _ hoff)
        obtain ⟨x, hx⟩ : ∃ x, bs.getD (m) false = x := ⟨_, rfl⟩
        rw [hx] at HFK hca
        generalize hz : F k = z at HST HBB HFK
        subst HFK
        clear hz HF hc hc' hb
        clear hx hm hge
        go_wp2
        go_roundw
        case rel => exact ⟨k + 1, by go_num, by omega, HST.out, HBB.out⟩
        case measure => simp [intOf]; omega
      · by_cases hge3 : k + by_ = L - 1
        · have hm3 : (k : Int) + (by_ : Int) = (L : Int) - 1 := by omega
          rw [decide_eq_true (by omega), Bool.true_and, hge3] at HFK
          have hoff : L - 1 < L := by omega
          have hca : wr.cell? ⟨g, L - 1, none⟩ = some (.bool (bs.getD (L - 1) false)) := (hb.cell (p := ⟨g, L - 1, none⟩) hg).trans (hc _ hoff)
          obtain ⟨x, hx⟩ : ∃ x, bs.getD (L - 1) false = x := ⟨_, rfl⟩
          rw [hx] at HFK hca
          generalize hz : F k = z at HST HBB HFK
          subst HFK
          clear hz HF hc hc' hb
          clear hx hge hge3
          go_wp2
          go_roundw
          case rel => exact ⟨k + 1, by go_num, by omega, HST.out, HBB.out⟩
          case measure => simp [intOf]; omega
        · have hge2 : (L : Int) ≤ (k : Int) + (by_ : Int) := by omega
          rw [decide_eq_false (by omega), Bool.false_and] at HFK
          generalize hz : F k = z at HST HBB HFK
          subst HFK
          clear hz HF hc hc' hb
          clear hge hge3
          go_wp2
          go_roundw
          case rel => exact ⟨k + 1, by go_num, by omega, HST.out, HBB.out⟩
          case measure => simp [intOf]; omega
    · have hkW : k = L := by omega
      subst hkW
      rw [partBit_all] at hq
      go_wp2
      go_ret
      exact ⟨_, rfl, own_word hq (byBit_length _ _) h1, hb⟩
end Go.Proofs.YtkceplamaocmmaaGreatDoor
