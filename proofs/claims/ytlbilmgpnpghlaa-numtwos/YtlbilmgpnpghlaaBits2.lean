/-
  What the document's own bitwise does.
-/
import Derived.Test.YtlbilmgpnpghlaaBits
namespace Go.Proofs.Ytlbilmgpnpghlaa
open Go.RowKit


set_option maxHeartbeats 1000000 in
set_option maxRecDepth 1000000 in
theorem bit14_any (u v : Value) (bs cs : List Bool) (by_ : Nat) (w : World) (hu : IsW w u bs) (hv : IsW w v cs) (hl : cs.length = bs.length) (h1 : 1 ≤ bs.length) (h64 : bs.length ≤ 64) (hby : by_ < bs.length) :
    Calls Try.prog 50 #[.int .i64 14, u, v, .int .i64 by_] w fun e w' => ∃ v', e = .returned v' ∧ IsW w' v' (byBit bs.length (fun i => bs.getD ((i + by_) % bs.length) false)) ∧ Below w.heap.size w w' := by
  have hmk := mk_word bs.length (by omega)
  obtain ⟨g, cap, rfl, hcap, hmx, hg, hc⟩ := hu
  obtain ⟨g', cap', rfl, hcap', hmx', hg', hc'⟩ := hv
  unfold maxLen at hmx hmx'
  obtain ⟨L, hL⟩ : ∃ L, bs.length = L := ⟨_, rfl⟩
  rw [hL] at hl hcap hc h1 h64 hmk hby ⊢
  rw [hl] at hcap' hc' ⊢
  clear hl hL
  obtain ⟨F, hF⟩ : ∃ F : Nat → Bool, (fun i => bs.getD ((i + by_) % L) false) = F := ⟨_, rfl⟩
  rw [hF]
  have HF : Hid (∀ i, (bs.getD ((i + by_) % L) false) = F i) := fun i => congrFun hF i
  clear hF
  have hst0 := made_own w L (by omega)
  go_enter Try.func50, Try.ntmps50
  go_wp2
  clear hmk
  go_loopw [11, 17] (fun _ i wr => ∃ k : Nat, i = .int .i64 k ∧ k ≤ L ∧ wr.ownsRow w.heap.size 4 1 (.slice (some ⟨w.heap.size, 0, none⟩) L L) L ((partBit L k F).map Value.bool) ∧ Below w.heap.size w wr) (fun _ i _ => L - (intOf i).toNat)
  case atStart => exact ⟨0, rfl, by omega, by rw [partBit_zero]; exact hst0, (Below.refl _ _).alloc (Nat.le_refl _) _⟩
  case round =>
    clear hst0
    obtain ⟨k, rfl, hk, hq, hb⟩ := hrel
    by_cases hlt : k < L
    · have hk0 : (0 : Int) ≤ (k : Int) := by omega
      have hk1 : (k : Int) < (L : Int) := by omega
      have hcq : wr.cell? ⟨w.heap.size, k, none⟩ = some (.bool false) := (hq.cellAt k (by omega)).trans (partBit_at L k F hlt)
      have hfq := hq.frozenAt k
      have hst := (hq.stored k (.bool (F k))).1
      rw [set_map, partBit_set] at hst
      have HST : Hid ((wr.setCell ⟨w.heap.size, k, none⟩ (.bool (F k))).ownsRow w.heap.size 4 1 (.slice (some ⟨w.heap.size, 0, none⟩) L L) L ((partBit L (k + 1) F).map Value.bool)) := hst
      have HBB : Hid (Below w.heap.size w (wr.setCell ⟨w.heap.size, k, none⟩ (.bool (F k)))) := hb.setCell (p := ⟨w.heap.size, k, none⟩) (Nat.le_refl _) _
      have HFK := HF.out k
      clear hst hq
      have hbk0 : (0 : Int) ≤ (by_ : Int) := by omega
      have hbk1 : (by_ : Int) < (L : Int) := by omega
      have hoff : (k + by_) % L < L := Nat.mod_lt _ (by omega)
      have ho1 : ((k : Int) + (by_ : Int)) % (L : Int) < (L : Int) := Int.emod_lt_of_pos _ (by omega)
      have ho0 : 0 ≤ ((k : Int) + (by_ : Int)) % (L : Int) := Int.emod_nonneg _ (by omega)
      have hca : wr.cell? ⟨g, (k + by_) % L, none⟩ = some (.bool (bs.getD ((k + by_) % L) false)) := (hb.cell (p := ⟨g, (k + by_) % L, none⟩) hg).trans (hc _ hoff)
      obtain ⟨x, hx⟩ : ∃ x, bs.getD ((k + by_) % L) false = x := ⟨_, rfl⟩
      rw [hx] at HFK hca
      generalize hz : F k = z at HST HBB HFK
      subst HFK
      clear hz HF hc hc' hb
      clear hx
      go_wp2
      go_roundw
      case rel => exact ⟨k + 1, by go_num, by omega, HST.out, HBB.out⟩
      case measure => simp [intOf]; omega
    · have hkW : k = L := by omega
      subst hkW
      rw [partBit_all] at hq
      go_wp2
      go_ret
      exact ⟨_, rfl, own_word hq (byBit_length _ _) h1, hb⟩

set_option maxHeartbeats 1000000 in
set_option maxRecDepth 1000000 in
theorem bit13_any (u v : Value) (bs cs : List Bool) (by_ : Nat) (w : World) (hu : IsW w u bs) (hv : IsW w v cs) (hl : cs.length = bs.length) (h1 : 1 ≤ bs.length) (h64 : bs.length ≤ 64) (hby : by_ < bs.length) :
    Calls Try.prog 50 #[.int .i64 13, u, v, .int .i64 by_] w fun e w' => ∃ v', e = .returned v' ∧ IsW w' v' (byBit bs.length (fun i => bs.getD ((i + bs.length - by_) % bs.length) false)) ∧ Below w.heap.size w w' := by
  have hmk := mk_word bs.length (by omega)
  obtain ⟨g, cap, rfl, hcap, hmx, hg, hc⟩ := hu
  obtain ⟨g', cap', rfl, hcap', hmx', hg', hc'⟩ := hv
  unfold maxLen at hmx hmx'
  obtain ⟨L, hL⟩ : ∃ L, bs.length = L := ⟨_, rfl⟩
  rw [hL] at hl hcap hc h1 h64 hmk hby ⊢
  rw [hl] at hcap' hc' ⊢
  clear hl hL
  obtain ⟨F, hF⟩ : ∃ F : Nat → Bool, (fun i => bs.getD ((i + L - by_) % L) false) = F := ⟨_, rfl⟩
  rw [hF]
  have HF : Hid (∀ i, (bs.getD ((i + L - by_) % L) false) = F i) := fun i => congrFun hF i
  clear hF
  have hst0 := made_own w L (by omega)
  go_enter Try.func50, Try.ntmps50
  go_wp2
  clear hmk
  go_loopw [11, 17] (fun _ i wr => ∃ k : Nat, i = .int .i64 k ∧ k ≤ L ∧ wr.ownsRow w.heap.size 4 1 (.slice (some ⟨w.heap.size, 0, none⟩) L L) L ((partBit L k F).map Value.bool) ∧ Below w.heap.size w wr) (fun _ i _ => L - (intOf i).toNat)
  case atStart => exact ⟨0, rfl, by omega, by rw [partBit_zero]; exact hst0, (Below.refl _ _).alloc (Nat.le_refl _) _⟩
  case round =>
    clear hst0
    obtain ⟨k, rfl, hk, hq, hb⟩ := hrel
    by_cases hlt : k < L
    · have hk0 : (0 : Int) ≤ (k : Int) := by omega
      have hk1 : (k : Int) < (L : Int) := by omega
      have hcq : wr.cell? ⟨w.heap.size, k, none⟩ = some (.bool false) := (hq.cellAt k (by omega)).trans (partBit_at L k F hlt)
      have hfq := hq.frozenAt k
      have hst := (hq.stored k (.bool (F k))).1
      rw [set_map, partBit_set] at hst
      have HST : Hid ((wr.setCell ⟨w.heap.size, k, none⟩ (.bool (F k))).ownsRow w.heap.size 4 1 (.slice (some ⟨w.heap.size, 0, none⟩) L L) L ((partBit L (k + 1) F).map Value.bool)) := hst
      have HBB : Hid (Below w.heap.size w (wr.setCell ⟨w.heap.size, k, none⟩ (.bool (F k)))) := hb.setCell (p := ⟨w.heap.size, k, none⟩) (Nat.le_refl _) _
      have HFK := HF.out k
      clear hst hq
      have hbk0 : (0 : Int) ≤ (by_ : Int) := by omega
      have hbk1 : (by_ : Int) < (L : Int) := by omega
      obtain ⟨m, hm⟩ : ∃ m, k + L - by_ = m := ⟨_, rfl⟩
      have hm2 : (k : Int) - (by_ : Int) + (L : Int) = (m : Int) := by omega
      rw [hm] at HFK
      have hoff : m % L < L := Nat.mod_lt _ (by omega)
      have ho1 : (m : Int) % (L : Int) < (L : Int) := Int.emod_lt_of_pos _ (by omega)
      have ho0 : 0 ≤ (m : Int) % (L : Int) := Int.emod_nonneg _ (by omega)
      have hca : wr.cell? ⟨g, m % L, none⟩ = some (.bool (bs.getD (m % L) false)) := (hb.cell (p := ⟨g, m % L, none⟩) hg).trans (hc _ hoff)
      obtain ⟨x, hx⟩ : ∃ x, bs.getD (m % L) false = x := ⟨_, rfl⟩
      rw [hx] at HFK hca
      generalize hz : F k = z at HST HBB HFK
      subst HFK
      clear hz HF hc hc' hb
      clear hx hm
      go_wp2
      go_roundw
      case rel => exact ⟨k + 1, by go_num, by omega, HST.out, HBB.out⟩
      case measure => simp [intOf]; omega
    · have hkW : k = L := by omega
      subst hkW
      rw [partBit_all] at hq
      go_wp2
      go_ret
      exact ⟨_, rfl, own_word hq (byBit_length _ _) h1, hb⟩

end Go.Proofs.Ytlbilmgpnpghlaa
