/-
  The program's own nest.Write, for every body.
-/
import Derived.Test.YtmbficofcmfmlaaDoorNWr
namespace Go.Proofs.YtmbficofcmfmlaaDoor
open Go.RowKit
theorem vRun_chk : ∀ (V : List V4) (bs : List Int) (en : Bool), (vRun V bs en).1 = 0 → ∀ v ∈ V, v.chk = 0
  | [], _, _, _, v, hv => absurd hv (by simp)
  | x :: V, bs, en, h, v, hv => by
    rw [vRun] at h
    by_cases h0 : (nStep x.chk x.op bs en).1 = 0
    · rw [if_pos h0] at h
      rw [List.mem_cons] at hv
      rcases hv with rfl | hv
      · exact (step_chk h0).1
      · exact vRun_chk V _ _ h v hv
    · rw [if_neg h0] at h
      exact absurd h h0

theorem nRun_chk : ∀ (L : List InsD) (bs : List Int) (en : Bool), (nRun L bs en).1 = 0 → ∀ d ∈ L, chkD d = 0
  | [], _, _, _, d, hd => absurd hd (by simp)
  | x :: L, bs, en, h, d, hd => by
    rw [nRun] at h
    by_cases h0 : (nStep (chkD x) x.op bs en).1 = 0
    · rw [if_pos h0] at h
      rw [List.mem_cons] at hd
      rcases hd with rfl | hd
      · exact (step_chk h0).1
      · exact nRun_chk L _ _ h d hd
    · rw [if_neg h0] at h
      exact absurd h h0
theorem nChk_zero (L : List InsD) (h : nChk L = 0) : L.length ≤ 200 ∧ (nRun L [] false).1 = 0 ∧ (nRun L [] false).2.2 = true := by
  unfold nChk at h
  split at h
  · cases h
  · split at h
    · rename_i h1 h2
      split at h
      · rename_i h3
        exact ⟨by omega, h2, h3⟩
      · cases h
    · rename_i h2
      exact absurd h h2
theorem nChk_of (L : List InsD) (h0 : L.length ≤ 200) (h1 : (nRun L [] false).1 = 0) (h2 : (nRun L [] false).2.2 = true) : nChk L = 0 := by
  unfold nChk
  rw [if_neg (by omega), if_pos h1, if_pos h2]
theorem LD.lens {w : World} {o : Option Addr} {L : List InsD} (h : LD w o L) : ∀ d ∈ L, d.xs.length = d.n := fun d hd => (h.1 d hd).lj.1
/-- The program's own nest.Write. -/
theorem nwrite_any (o : Option Addr) (cap : Nat) (L : List InsD) (w : World) (h : LD w o L) (hcap : L.length ≤ cap) (hT : TabIn w) (ht0 : 1 < w.heap.size) :
    Calls Tryd.prog 11 #[.slice o L.length cap] w fun r w' => Below w.heap.size w w' ∧ ((nChk L ≠ 0 ∧ r = .returned (.tuple #[.string ⟨#[]⟩, .int .i64 (nChk L)])) ∨ (nChk L = 0 ∧ ∃ t, r = .returned (.tuple #[.string t, .int .i64 0]) ∧ nums t = bodyT (L.map InsD.val))) := by
  have hck := ncheck_any o cap L w h hT ht0
  by_cases hc : nChk L = 0
  · obtain ⟨h200, h1, h2⟩ := nChk_zero L hc
    have hall := nRun_chk L [] false h1
    have hfit : ∀ d ∈ L, fitC (besV d.op) d.A d.B d.xs := fun d hd => by
      have := val_chk d (h.lens d hd)
      exact (vchk_fit d.val (by rw [this]; exact hall d hd)).2
    rw [hc] at hck
    refine (nwrite_ok o cap L.length L rfl h200 hcap w h hck ?_ ?_).mono ?_
    · intro v hv
      obtain ⟨d, hd, rfl⟩ := List.mem_map.1 hv
      have := besT_len _ _ _ _ (hfit d hd) (h.1 d hd).a
      show (d.op :: besT (besV d.op) d.A d.B d.xs).length ≤ 1001
      rw [List.length_cons]
      omega
    · intro d hd w' b
      have hk := (h.1 d hd).below b
      have hm := hk.most
      have hc2 := hk.cap
      unfold maxLen at hm
      exact vwrite_ok d.op d.A d.B d.o d.n d.cap d.xs hk.cap hk.op0 hk.op1 (hfit d hd) (hall d hd) (by omega) hk.a w' hk.lj (hT.chg (P := w.heap.size) (Chg.of_below b) ht0 (by omega)) (Nat.lt_of_lt_of_le ht0 b.size)
    · rintro r w' ⟨t, rfl, ht, b⟩
      exact ⟨b, Or.inr ⟨hc, t, rfl, ht⟩⟩
  · refine (nwrite_bad o L.length cap (nChk L) (by rw [beq_eq_false_iff_ne]; exact hc) w hck).mono ?_
    rintro r w' ⟨rfl, b⟩
    exact ⟨b, Or.inl ⟨hc, rfl⟩⟩

end Go.Proofs.YtmbficofcmfmlaaDoor
