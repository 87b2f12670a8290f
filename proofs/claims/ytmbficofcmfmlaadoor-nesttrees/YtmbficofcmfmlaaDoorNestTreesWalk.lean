/-
  NestTrees: the program's own trees are what the document says.
-/
import Derived.Test.YtmbficofcmfmlaaDoorNTreeOf
import Derived.Test.YtmbficofcmfmlaaDoorRDeep
import Derived.Test.YtmbficofcmfmlaaDoorRMat
import Derived.Test.YtmbficofcmfmlaaDoorRSame
namespace Go.Proofs.YtmbficofcmfmlaaDoor
open Go.RowKit

set_option maxHeartbeats 4000000 in
set_option maxRecDepth 1000000 in
theorem ntrees_bad (o : Option Addr) (n cap : Nat) (e : Int) (_he : (e == 0) = false) (w : World)
    (HO : Hid (∀ w', Below w.heap.size w w' → Calls Tryd.prog 18 #[.slice o n cap] w' fun r w'' => r = .returned (.tuple #[.pointer none, .int .i64 e]) ∧ Below w'.heap.size w' w''))
    (HC : Hid (∀ w', Below w.heap.size w w' → Calls Tryd.prog 19 #[.slice o n cap] w' fun r w'' => r = .returned (.int .i64 e) ∧ Below w'.heap.size w' w'')) :
    Calls Tryd.prog 5 #[.slice o n cap] w fun r w' => r = .returned (.bool true) ∧ Below w.heap.size w w' := by
  have hne : (e != 0) = true := by rw [bne, _he]; rfl
  go_enter Tryd.func5, Tryd.ntmps5
  go_wp2_with fail
  refine (HO.out _ (Below.refl _ _)).mono ?_
  rintro r w1 ⟨rfl, b1⟩
  go_wp2_with fail
  refine (HC.out _ b1).mono ?_
  rintro r w2 ⟨rfl, b2⟩
  go_wp2
  go_ret
  exact ⟨rfl, b1.trans (b2.mono b1.size)⟩
set_option maxHeartbeats 8000000 in
set_option maxRecDepth 1000000 in
theorem ntrees_ok (o : Option Addr) (n cap : Nat) (D Z : Int) (w : World)
    (HO : Hid (∀ w', Below w.heap.size w w' → Calls Tryd.prog 18 #[.slice o n cap] w' fun r w'' => ∃ P, r = .returned (.tuple #[.pointer (some ⟨P, 0, none⟩), .int .i64 0]) ∧ Below w'.heap.size w' w'' ∧ Hid (∀ w3, Below w''.heap.size w'' w3 → Below w.heap.size w w3 → Calls Tryd.prog 21 #[.pointer (some ⟨P, 0, none⟩)] w3 fun r w4 => ∃ (o1 : Option Addr) (n1 cap1 : Nat), r = .returned (.slice o1 n1 cap1) ∧ Below w3.heap.size w3 w4 ∧ Hid (Calls Tryd.prog 17 #[.slice o1 n1 cap1, .slice o n cap] w4 fun r w5 => r = .returned (.bool true) ∧ Below w4.heap.size w4 w5)) ∧ Hid (∀ w3, Below w''.heap.size w'' w3 → Calls Tryd.prog 22 #[.pointer (some ⟨P, 0, none⟩)] w3 fun r w4 => r = .returned (.int .i64 D) ∧ Below w3.heap.size w3 w4) ∧ Hid (∀ w3, Below w''.heap.size w'' w3 → Calls Tryd.prog 23 #[.pointer (some ⟨P, 0, none⟩)] w3 fun r w4 => r = .returned (.int .i64 Z) ∧ Below w3.heap.size w3 w4)))
    (HC : Hid (∀ w', Below w.heap.size w w' → Calls Tryd.prog 19 #[.slice o n cap] w' fun r w'' => r = .returned (.int .i64 0) ∧ Below w'.heap.size w' w''))
    (HD : Hid (∀ w', Below w.heap.size w w' → Calls Tryd.prog 20 #[.slice o n cap] w' fun r w'' => r = .returned (.tuple #[.int .i64 D, .int .i64 Z]) ∧ Below w'.heap.size w' w'')) :
    Calls Tryd.prog 5 #[.slice o n cap] w fun r w' => r = .returned (.bool true) ∧ Below w.heap.size w w' := by
  go_enter Tryd.func5, Tryd.ntmps5
  go_wp2_with fail
  refine (HO.out _ (Below.refl _ _)).mono ?_
  rintro r w1 ⟨P, rfl, b1, HF, HDP, HZP⟩
  have HB1 : Hid (Below w.heap.size w w1) := b1
  clear b1 HO
  go_wp2_with fail
  refine (HC.out _ HB1.out).mono ?_
  rintro r w2 ⟨rfl, b2⟩
  have HB2 : Hid (Below w.heap.size w w2) := HB1.out.trans (b2.mono HB1.out.size)
  have HC2 : Hid (Below w1.heap.size w1 w2) := b2
  clear b2 HC HB1
  go_wp2_with fail
  refine (HD.out _ HB2.out).mono ?_
  rintro r w3 ⟨rfl, b3⟩
  have HB3 : Hid (Below w.heap.size w w3) := HB2.out.trans (b3.mono HB2.out.size)
  have HC3 : Hid (Below w1.heap.size w1 w3) := HC2.out.trans (b3.mono HC2.out.size)
  clear b3 HD HB2 HC2
  go_wp2_with fail
  refine (HF.out _ HC3.out HB3.out).mono ?_
  rintro r w4 ⟨o1, n1, cap1, rfl, b4, HS⟩
  have HB4 : Hid (Below w.heap.size w w4) := HB3.out.trans (b4.mono HB3.out.size)
  have HC4 : Hid (Below w1.heap.size w1 w4) := HC3.out.trans (b4.mono HC3.out.size)
  clear b4 HF HB3 HC3
  go_wp2_with fail
  refine HS.out.mono ?_
  rintro r w5 ⟨rfl, b5⟩
  have HB5 : Hid (Below w.heap.size w w5) := HB4.out.trans (b5.mono HB4.out.size)
  have HC5 : Hid (Below w1.heap.size w1 w5) := HC4.out.trans (b5.mono HC4.out.size)
  clear b5 HS HB4 HC4
  go_wp2_with fail
  refine (HDP.out _ HC5.out).mono ?_
  rintro r w6 ⟨rfl, b6⟩
  have HB6 : Hid (Below w.heap.size w w6) := HB5.out.trans (b6.mono HB5.out.size)
  have HC6 : Hid (Below w1.heap.size w1 w6) := HC5.out.trans (b6.mono HC5.out.size)
  clear b6 HDP HB5 HC5
  go_wp2_with fail
  refine (HZP.out _ HC6.out).mono ?_
  rintro r w7 ⟨rfl, b7⟩
  go_wp2
  go_ret
  exact ⟨rfl, HB6.out.trans (b7.mono HB6.out.size)⟩
theorem nestTrees_walk (o : Option Addr) (cap : Nat) (L : List InsD) (hcap : L.length ≤ cap) (_hcm : cap ≤ maxLen) (w : World) (hT : TabIn w) (hM : MaxIn w) (h : LD w o L) :
    Calls Tryd.prog 5 #[.slice o L.length cap] w fun r w' => r = .returned (.bool true) ∧ Below w.heap.size w w' := by
  have ht0 : 1 < w.heap.size := by
    have hc := hT 0 (by omega)
    apply Nat.lt_of_not_le
    intro hle
    have : w.heap[1]? = none := Array.getElem?_eq_none hle
    simp [World.cell?, this] at hc
  have hT' : ∀ w', Below w.heap.size w w' → TabIn w' := fun w' hb => hT.chg (P := w.heap.size) (Chg.of_below hb) ht0 (by omega)
  have hlt : ∀ w', Below w.heap.size w w' → 1 < w'.heap.size := fun w' hb => Nat.lt_of_lt_of_le ht0 hb.size
  have hC : ∀ w', Below w.heap.size w w' → Calls Tryd.prog 19 #[.slice o L.length cap] w' fun r w'' => r = .returned (.int .i64 (nChk L)) ∧ Below w'.heap.size w' w'' := fun w' hb => rncheck_any o cap L w' (h.below hb) hcap (hM.below hb)
  by_cases hc : nChk L = 0
  · rw [hc] at hC
    obtain ⟨h200, _, _⟩ := nChk_zero L hc
    obtain ⟨o11, D, Z, hseg⟩ := match_seg L hc
    have hnd := body_nd L hc hseg o11 0 0 0 (by omega)
    have hndd : ∀ (D' Z' : Nat), Seg L (matchOf L).2.1 (matchOf L).2.2 0 (L.length - 1) D' Z' → D' = D ∧ Z' = Z := fun D' Z' hs => by
      have := body_nd L hc hs o11 0 0 0 (by omega)
      rw [hnd] at this
      simp only [Prod.mk.injEq] at this
      omega
    refine ntrees_ok o L.length cap D Z w (fun w' hb => ?_) hC (fun w' hb => ?_)
    · obtain ⟨D', Z', hs', _, hof⟩ := of_any o cap L w' (h.below hb) (hT' w' hb) (hlt w' hb) hc
      obtain ⟨rfl, rfl⟩ := hndd D' Z' hs'
      refine hof.mono ?_
      rintro r w2 ⟨P, rfl, htr, b2⟩
      have hsl : (segV L 0 (L.length - 1)).length ≤ 800 := by
        unfold segV
        simp
        omega
      refine ⟨P, rfl, b2, fun w3 b3 hb3 => ?_, fun w3 b3 => tdeep_any P _ D' Z' (by omega) w3 (htr.under b3), fun w3 b3 => tsize_any P _ D' Z' (by omega) w3 (htr.under b3)⟩
      refine (tflat_any P _ D' Z' hsl w3 (htr.under b3)).mono ?_
      rintro r w4 ⟨o1, n1, cap1, M1, rfl, hI, hMv, _, hB⟩
      rw [seg_whole L w h.1 hc o11] at hMv
      refine ⟨o1, n1, cap1, rfl, hB, ?_⟩
      have hb4 : Below w.heap.size w w4 := hb3.trans (hB.mono hb3.size)
      rw [← hI.len]
      exact sameBody_any o1 o cap1 cap M1 L w4 hI.LD (h.below hb4) (by rw [hI.len]; exact hI.capm.1) hcap hI.capm.2 hMv
    · refine (rdeep_core o cap L.length L rfl h200 _ w' (h.below hb) rfl).mono ?_
      rintro r w2 ⟨rfl, b2⟩
      rw [hnd]
      refine ⟨?_, b2⟩
      simp only
      rw [show max (0 : Int) (0 + (D : Int)) = D by omega, show (0 : Int) + (Z : Int) = Z by omega]
  · refine ntrees_bad o L.length cap (nChk L) (by rw [beq_eq_false_iff_ne]; exact hc) w (fun w' hb => ?_) hC
    exact of_bad o L.length cap (nChk L) (by rw [beq_eq_false_iff_ne]; exact hc) w' (match_bad o cap L w' (h.below hb) (hT' w' hb) (hlt w' hb) hc)

end Go.Proofs.YtmbficofcmfmlaaDoor
