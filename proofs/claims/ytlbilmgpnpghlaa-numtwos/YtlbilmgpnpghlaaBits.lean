/-
  What the document's own bitwise does.
-/
import Derived.Test.YtlbilmgpnpghlaaSplit
namespace Go.Proofs.Ytlbilmgpnpghlaa
open Go.RowKit

/-- A word by a function of its places. -/
def byBit (n : Nat) (f : Nat → Bool) : List Bool := (List.range n).map f
theorem byBit_length (n : Nat) (f : Nat → Bool) : (byBit n f).length = n := by simp [byBit]
/-- Its first k places, the rest still 0. -/
def partBit (n k : Nat) (f : Nat → Bool) : List Bool := byBit n (fun i => decide (i < k) && f i)
theorem partBit_zero (n : Nat) (f : Nat → Bool) : partBit n 0 f = List.replicate n false := by
  apply List.ext_getElem
  · simp [partBit, byBit]
  · intro i h1 h2; simp [partBit, byBit]
theorem partBit_all (n : Nat) (f : Nat → Bool) : partBit n n f = byBit n f := by
  apply List.ext_getElem
  · simp [partBit, byBit]
  · intro i h1 h2
    simp [partBit, byBit] at h1 ⊢
    omega
theorem partBit_set (n k : Nat) (f : Nat → Bool) : (partBit n k f).set k (f k) = partBit n (k + 1) f := by
  apply List.ext_getElem
  · simp [partBit, byBit]
  · intro i h1 h2
    rw [List.getElem_set]
    by_cases hik : k = i
    · subst hik; simp [partBit, byBit]
    · rw [if_neg hik]
      simp [partBit, byBit]
      have : decide (i < k) = decide (i < k + 1) := by by_cases h : i < k <;> simp [h] <;> omega
      rw [this]
theorem partBit_at (n k : Nat) (f : Nat → Bool) (h : k < n) : ((partBit n k f).map Value.bool)[k]? = some (.bool false) := by
  simp [partBit, byBit, h]
theorem own_word {w : World} {B g L cap : Nat} {bs : List Bool} (h : w.ownsRow B 4 1 (.slice (some ⟨g, 0, none⟩) L cap) L (bs.map Value.bool)) (hl : bs.length = L) (h1 : 1 ≤ L) : IsW w (.slice (some ⟨g, 0, none⟩) L cap) bs := isW_own (by rw [hl]; exact h) (by omega)

set_option maxHeartbeats 1000000 in
set_option maxRecDepth 1000000 in
theorem bit7_any (u v : Value) (bs cs : List Bool) (by_ : Nat) (w : World) (hu : IsW w u bs) (hv : IsW w v cs) (hl : cs.length = bs.length) (h1 : 1 ≤ bs.length) (h64 : bs.length ≤ 64) (hby : by_ < bs.length) :
    Calls Try.prog 50 #[.int .i64 7, u, v, .int .i64 by_] w fun e w' => ∃ v', e = .returned v' ∧ IsW w' v' (byBit bs.length (fun i => bs.getD i false && cs.getD i false)) ∧ Below w.heap.size w w' := by
  have hmk := mk_word bs.length (by omega)
  obtain ⟨g, cap, rfl, hcap, hmx, hg, hc⟩ := hu
  obtain ⟨g', cap', rfl, hcap', hmx', hg', hc'⟩ := hv
  unfold maxLen at hmx hmx'
  obtain ⟨L, hL⟩ : ∃ L, bs.length = L := ⟨_, rfl⟩
  rw [hL] at hl hcap hc h1 h64 hmk hby ⊢
  rw [hl] at hcap' hc' ⊢
  clear hl hL
  obtain ⟨F, hF⟩ : ∃ F : Nat → Bool, (fun i => bs.getD i false && cs.getD i false) = F := ⟨_, rfl⟩
  rw [hF]
  have HF : Hid (∀ i, (bs.getD i false && cs.getD i false) = F i) := fun i => congrFun hF i
  clear hF
  have hst0 := made_own w L (by omega)
  go_enter Try.func50, Try.ntmps50
  go_wp2
  clear hmk
  go_loopw [11, 17] (fun _ i wr => ∃ k : Nat, i = .int .i64 k ∧ k ≤ L ∧ wr.ownsRow w.heap.size 4 1 (.slice (some ⟨w.heap.size, 0, none⟩) L L) L ((partBit L k F).map Value.bool) ∧ Below w.heap.size w wr) (fun _ i _ => L - (intOf i).toNat)
  case atStart => exact ⟨0, rfl, by omega, by rw [partBit_zero]; exact hst0, (Below.refl _ _).alloc (Nat.le_refl _) _⟩
  case round =>
    clear hst0
    obtain ⟨k, rfl, hk, hq, hb⟩ := hrel
    by_cases hlt : k < L
    · have hk0 : (0 : Int) ≤ (k : Int) := by omega
      have hk1 : (k : Int) < (L : Int) := by omega
      have hcq : wr.cell? ⟨w.heap.size, k, none⟩ = some (.bool false) := (hq.cellAt k (by omega)).trans (partBit_at L k F hlt)
      have hfq := hq.frozenAt k
      have hst := (hq.stored k (.bool (F k))).1
      rw [set_map, partBit_set] at hst
      have HST : Hid ((wr.setCell ⟨w.heap.size, k, none⟩ (.bool (F k))).ownsRow w.heap.size 4 1 (.slice (some ⟨w.heap.size, 0, none⟩) L L) L ((partBit L (k + 1) F).map Value.bool)) := hst
      have HBB : Hid (Below w.heap.size w (wr.setCell ⟨w.heap.size, k, none⟩ (.bool (F k)))) := hb.setCell (p := ⟨w.heap.size, k, none⟩) (Nat.le_refl _) _
      have HFK := HF.out k
      clear hst hq
      have hca : wr.cell? ⟨g, k, none⟩ = some (.bool (bs.getD k false)) := (hb.cell (p := ⟨g, k, none⟩) hg).trans (hc k hlt)
      have hcb : wr.cell? ⟨g', k, none⟩ = some (.bool (cs.getD k false)) := (hb.cell (p := ⟨g', k, none⟩) hg').trans (hc' k hlt)
      obtain ⟨x, hx⟩ : ∃ x, bs.getD k false = x := ⟨_, rfl⟩
      obtain ⟨y, hy⟩ : ∃ y, cs.getD k false = y := ⟨_, rfl⟩
      rw [hx, hy] at HFK
      rw [hx] at hca
      rw [hy] at hcb
      generalize hz : F k = z at HST HBB HFK
      subst HFK
      clear hx hy hz HF hc hc' hb
      cases x <;> cases y
      all_goals
        go_wp2
        go_roundw
        case rel => exact ⟨k + 1, by go_num, by omega, HST.out, HBB.out⟩
        case measure => simp [intOf]; omega
    · have hkW : k = L := by omega
      subst hkW
      rw [partBit_all] at hq
      go_wp2
      go_ret
      exact ⟨_, rfl, own_word hq (byBit_length _ _) h1, hb⟩

set_option maxHeartbeats 1000000 in
set_option maxRecDepth 1000000 in
theorem bit8_any (u v : Value) (bs cs : List Bool) (by_ : Nat) (w : World) (hu : IsW w u bs) (hv : IsW w v cs) (hl : cs.length = bs.length) (h1 : 1 ≤ bs.length) (h64 : bs.length ≤ 64) (hby : by_ < bs.length) :
    Calls Try.prog 50 #[.int .i64 8, u, v, .int .i64 by_] w fun e w' => ∃ v', e = .returned v' ∧ IsW w' v' (byBit bs.length (fun i => bs.getD i false || cs.getD i false)) ∧ Below w.heap.size w w' := by
  have hmk := mk_word bs.length (by omega)
  obtain ⟨g, cap, rfl, hcap, hmx, hg, hc⟩ := hu
  obtain ⟨g', cap', rfl, hcap', hmx', hg', hc'⟩ := hv
  unfold maxLen at hmx hmx'
  obtain ⟨L, hL⟩ : ∃ L, bs.length = L := ⟨_, rfl⟩
  rw [hL] at hl hcap hc h1 h64 hmk hby ⊢
  rw [hl] at hcap' hc' ⊢
  clear hl hL
  obtain ⟨F, hF⟩ : ∃ F : Nat → Bool, (fun i => bs.getD i false || cs.getD i false) = F := ⟨_, rfl⟩
  rw [hF]
  have HF : Hid (∀ i, (bs.getD i false || cs.getD i false) = F i) := fun i => congrFun hF i
  clear hF
  have hst0 := made_own w L (by omega)
  go_enter Try.func50, Try.ntmps50
  go_wp2
  clear hmk
  go_loopw [11, 17] (fun _ i wr => ∃ k : Nat, i = .int .i64 k ∧ k ≤ L ∧ wr.ownsRow w.heap.size 4 1 (.slice (some ⟨w.heap.size, 0, none⟩) L L) L ((partBit L k F).map Value.bool) ∧ Below w.heap.size w wr) (fun _ i _ => L - (intOf i).toNat)
  case atStart => exact ⟨0, rfl, by omega, by rw [partBit_zero]; exact hst0, (Below.refl _ _).alloc (Nat.le_refl _) _⟩
  case round =>
    clear hst0
    obtain ⟨k, rfl, hk, hq, hb⟩ := hrel
    by_cases hlt : k < L
    · have hk0 : (0 : Int) ≤ (k : Int) := by omega
      have hk1 : (k : Int) < (L : Int) := by omega
      have hcq : wr.cell? ⟨w.heap.size, k, none⟩ = some (.bool false) := (hq.cellAt k (by omega)).trans (partBit_at L k F hlt)
      have hfq := hq.frozenAt k
      have hst := (hq.stored k (.bool (F k))).1
      rw [set_map, partBit_set] at hst
      have HST : Hid ((wr.setCell ⟨w.heap.size, k, none⟩ (.bool (F k))).ownsRow w.heap.size 4 1 (.slice (some ⟨w.heap.size, 0, none⟩) L L) L ((partBit L (k + 1) F).map Value.bool)) := hst
      have HBB : Hid (Below w.heap.size w (wr.setCell ⟨w.heap.size, k, none⟩ (.bool (F k)))) := hb.setCell (p := ⟨w.heap.size, k, none⟩) (Nat.le_refl _) _
      have HFK := HF.out k
      clear hst hq
      have hca : wr.cell? ⟨g, k, none⟩ = some (.bool (bs.getD k false)) := (hb.cell (p := ⟨g, k, none⟩) hg).trans (hc k hlt)
      have hcb : wr.cell? ⟨g', k, none⟩ = some (.bool (cs.getD k false)) := (hb.cell (p := ⟨g', k, none⟩) hg').trans (hc' k hlt)
      obtain ⟨x, hx⟩ : ∃ x, bs.getD k false = x := ⟨_, rfl⟩
      obtain ⟨y, hy⟩ : ∃ y, cs.getD k false = y := ⟨_, rfl⟩
      rw [hx, hy] at HFK
      rw [hx] at hca
      rw [hy] at hcb
      generalize hz : F k = z at HST HBB HFK
      subst HFK
      clear hx hy hz HF hc hc' hb
      cases x <;> cases y
      all_goals
        go_wp2
        go_roundw
        case rel => exact ⟨k + 1, by go_num, by omega, HST.out, HBB.out⟩
        case measure => simp [intOf]; omega
    · have hkW : k = L := by omega
      subst hkW
      rw [partBit_all] at hq
      go_wp2
      go_ret
      exact ⟨_, rfl, own_word hq (byBit_length _ _) h1, hb⟩

set_option maxHeartbeats 1000000 in
set_option maxRecDepth 1000000 in
theorem bit9_any (u v : Value) (bs cs : List Bool) (by_ : Nat) (w : World) (hu : IsW w u bs) (hv : IsW w v cs) (hl : cs.length = bs.length) (h1 : 1 ≤ bs.length) (h64 : bs.length ≤ 64) (hby : by_ < bs.length) :
    Calls Try.prog 50 #[.int .i64 9, u, v, .int .i64 by_] w fun e w' => ∃ v', e = .returned v' ∧ IsW w' v' (byBit bs.length (fun i => bs.getD i false != cs.getD i false)) ∧ Below w.heap.size w w' := by
  have hmk := mk_word bs.length (by omega)
  obtain ⟨g, cap, rfl, hcap, hmx, hg, hc⟩ := hu
  obtain ⟨g', cap', rfl, hcap', hmx', hg', hc'⟩ := hv
  unfold maxLen at hmx hmx'
  obtain ⟨L, hL⟩ : ∃ L, bs.length = L := ⟨_, rfl⟩
  rw [hL] at hl hcap hc h1 h64 hmk hby ⊢
  rw [hl] at hcap' hc' ⊢
  clear hl hL
  obtain ⟨F, hF⟩ : ∃ F : Nat → Bool, (fun i => bs.getD i false != cs.getD i false) = F := ⟨_, rfl⟩
  rw [hF]
  have HF : Hid (∀ i, (bs.getD i false != cs.getD i false) = F i) := fun i => congrFun hF i
  clear hF
  have hst0 := made_own w L (by omega)
  go_enter Try.func50, Try.ntmps50
  go_wp2
  clear hmk
  go_loopw [11, 17] (fun _ i wr => ∃ k : Nat, i = .int .i64 k ∧ k ≤ L ∧ wr.ownsRow w.heap.size 4 1 (.slice (some ⟨w.heap.size, 0, none⟩) L L) L ((partBit L k F).map Value.bool) ∧ Below w.heap.size w wr) (fun _ i _ => L - (intOf i).toNat)
  case atStart => exact ⟨0, rfl, by omega, by rw [partBit_zero]; exact hst0, (Below.refl _ _).alloc (Nat.le_refl _) _⟩
  case round =>
    clear hst0
    obtain ⟨k, rfl, hk, hq, hb⟩ := hrel
    by_cases hlt : k < L
    · have hk0 : (0 : Int) ≤ (k : Int) := by omega
      have hk1 : (k : Int) < (L : Int) := by omega
      have hcq : wr.cell? ⟨w.heap.size, k, none⟩ = some (.bool false) := (hq.cellAt k (by omega)).trans (partBit_at L k F hlt)
      have hfq := hq.frozenAt k
      have hst := (hq.stored k (.bool (F k))).1
      rw [set_map, partBit_set] at hst
      have HST : Hid ((wr.setCell ⟨w.heap.size, k, none⟩ (.bool (F k))).ownsRow w.heap.size 4 1 (.slice (some ⟨w.heap.size, 0, none⟩) L L) L ((partBit L (k + 1) F).map Value.bool)) := hst
      have HBB : Hid (Below w.heap.size w (wr.setCell ⟨w.heap.size, k, none⟩ (.bool (F k)))) := hb.setCell (p := ⟨w.heap.size, k, none⟩) (Nat.le_refl _) _
      have HFK := HF.out k
      clear hst hq
      have hca : wr.cell? ⟨g, k, none⟩ = some (.bool (bs.getD k false)) := (hb.cell (p := ⟨g, k, none⟩) hg).trans (hc k hlt)
      have hcb : wr.cell? ⟨g', k, none⟩ = some (.bool (cs.getD k false)) := (hb.cell (p := ⟨g', k, none⟩) hg').trans (hc' k hlt)
      obtain ⟨x, hx⟩ : ∃ x, bs.getD k false = x := ⟨_, rfl⟩
      obtain ⟨y, hy⟩ : ∃ y, cs.getD k false = y := ⟨_, rfl⟩
      rw [hx, hy] at HFK
      rw [hx] at hca
      rw [hy] at hcb
      generalize hz : F k = z at HST HBB HFK
      subst HFK
      clear hx hy hz HF hc hc' hb
      cases x <;> cases y
      all_goals
        go_wp2
        go_region
        all_goals go_wp2
        all_goals go_roundw
        case rel => exact ⟨k + 1, by go_num, by omega, HST.out.drew, HBB.out.drew⟩
        case measure => simp [intOf]; omega
    · have hkW : k = L := by omega
      subst hkW
      rw [partBit_all] at hq
      go_wp2
      go_ret
      exact ⟨_, rfl, own_word hq (byBit_length _ _) h1, hb⟩

end Go.Proofs.Ytlbilmgpnpghlaa
