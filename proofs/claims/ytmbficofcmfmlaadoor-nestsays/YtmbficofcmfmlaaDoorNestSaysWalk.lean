/-
  NestSays: the program's own Match, Write and Check answer what the document's own answer.
-/
import Derived.Test.YtmbficofcmfmlaaDoorRNWr
namespace Go.Proofs.YtmbficofcmfmlaaDoor
open Go.RowKit

theorem tab_in {w : World} (hT : TabIn w) : 1 < w.heap.size := by
  have hc := hT 0 (by omega)
  apply Nat.lt_of_not_le
  intro hle
  have : w.heap[1]? = none := Array.getElem?_eq_none hle
  simp [World.cell?, this] at hc
set_option maxHeartbeats 8000000 in
set_option maxRecDepth 1000000 in
theorem nsays_core (o : Option Addr) (n cap : Nat) (e : Int) (T : List Int) (w : World)
    (HP : Hid (Calls Tryd.prog 9 #[.slice o n cap] w fun r w1 => ∃ (a1 : Option Addr) (a2 a3 : Nat) (b1 : Option Addr) (b2 b3 : Nat), r = .returned (.tuple #[.slice a1 a2 a3, .slice b1 b2 b3, .int .i64 e]) ∧ Below w.heap.size w w1 ∧ Hid (Calls Tryd.prog 10 #[.slice o n cap] w1 fun r w2 => ∃ (c1 : Option Addr) (c2 c3 : Nat) (d1 : Option Addr) (d2 d3 : Nat), r = .returned (.tuple #[.slice c1 c2 c3, .slice d1 d2 d3, .int .i64 e]) ∧ Below w1.heap.size w1 w2 ∧ Hid (∀ w3, Below w2.heap.size w2 w3 → Calls Tryd.prog 13 #[.slice a1 a2 a3, .slice c1 c2 c3] w3 fun r w' => r = .returned (.bool true) ∧ w' = w3) ∧ Hid (∀ w3, Below w2.heap.size w2 w3 → Calls Tryd.prog 13 #[.slice b1 b2 b3, .slice d1 d2 d3] w3 fun r w' => r = .returned (.bool true) ∧ w' = w3))))
    (HW : Hid (∀ w', Below w.heap.size w w' → Calls Tryd.prog 11 #[.slice o n cap] w' fun r w'' => ∃ t, r = .returned (.tuple #[.string t, .int .i64 e]) ∧ nums t = T ∧ Below w'.heap.size w' w''))
    (HW2 : Hid (∀ w', Below w.heap.size w w' → Calls Tryd.prog 12 #[.slice o n cap] w' fun r w'' => ∃ t, r = .returned (.tuple #[.string t, .int .i64 e]) ∧ nums t = T ∧ Below w'.heap.size w' w''))
    (HC : Hid (∀ w', Below w.heap.size w w' → Calls Tryd.prog 14 #[.slice o n cap] w' fun r w'' => r = .returned (.int .i64 e) ∧ Below w'.heap.size w' w'')) :
    Calls Tryd.prog 3 #[.slice o n cap] w fun r w' => r = .returned (.bool true) ∧ Below w.heap.size w w' := by
  go_enter Tryd.func3, Tryd.ntmps3
  go_wp2_with fail
  refine HP.out.mono ?_
  rintro r w1 ⟨a1, a2, a3, b1, b2, b3, rfl, hb1, HR⟩
  clear HP
  go_wp2_with fail
  refine HR.out.mono ?_
  rintro r w2 ⟨c1, c2, c3, d1, d2, d3, rfl, hb2, HE1, HE2⟩
  have HB2 : Hid (Below w.heap.size w w2) := hb1.trans (hb2.mono hb1.size)
  clear HR hb1 hb2
  go_wp2_with fail
  refine (HW.out _ HB2.out).mono ?_
  rintro r w3 ⟨t, rfl, ht, hb3⟩
  have HB3 : Hid (Below w.heap.size w w3) := HB2.out.trans (hb3.mono HB2.out.size)
  have HC3 : Hid (Below w2.heap.size w2 w3) := hb3
  clear hb3 HB2 HW
  go_wp2_with fail
  refine (HW2.out _ HB3.out).mono ?_
  rintro r w4 ⟨t2, rfl, ht2, hb4⟩
  have HB4 : Hid (Below w.heap.size w w4) := HB3.out.trans (hb4.mono HB3.out.size)
  have HC4 : Hid (Below w2.heap.size w2 w4) := HC3.out.trans (hb4.mono HC3.out.size)
  have htt : t2 = t := nums_inj (ht2.trans ht.symm)
  subst htt
  clear hb4 HB3 HC3 HW2 ht ht2
  go_wp2_with fail
  refine (HE1.out _ HC4.out).mono ?_
  rintro r w5 ⟨rfl, rfl⟩
  go_wp2_with fail
  refine (HE2.out _ HC4.out).mono ?_
  rintro r w5 ⟨rfl, rfl⟩
  go_wp2_with fail
  refine (HC.out _ HB4.out).mono ?_
  rintro r w6 ⟨rfl, hb6⟩
  go_wp2
  go_ret
  exact ⟨rfl, HB4.out.trans (hb6.mono HB4.out.size)⟩
theorem nestSays_walk (o : Option Addr) (cap : Nat) (L : List InsD) (hcap : L.length ≤ cap) (_hcm : cap ≤ maxLen) (w : World) (hT : TabIn w) (hM : MaxIn w) (h : LD w o L) :
    Calls Tryd.prog 3 #[.slice o L.length cap] w fun r w' => r = .returned (.bool true) ∧ Below w.heap.size w w' := by
  have ht0 := tab_in hT
  have hT' : ∀ w', Below w.heap.size w w' → TabIn w' := fun w' hb => hT.chg (P := w.heap.size) (Chg.of_below hb) ht0 (by omega)
  have hlt : ∀ w', Below w.heap.size w w' → 1 < w'.heap.size := fun w' hb => Nat.lt_of_lt_of_le ht0 hb.size
  have hC : ∀ w', Below w.heap.size w w' → Calls Tryd.prog 14 #[.slice o L.length cap] w' fun r w'' => r = .returned (.int .i64 (nChk L)) ∧ Below w'.heap.size w' w'' := fun w' hb => ncheck_any o cap L w' (h.below hb) (hT' w' hb) (hlt w' hb)
  by_cases hc : nChk L = 0
  · rw [hc] at hC
    refine nsays_core o L.length cap 0 (bodyT (L.map InsD.val)) w ?_ (fun w' hb => ?_) (fun w' hb => ?_) hC
    · refine (match_any o cap L w h hT ht0 hc).mono ?_
      rintro r w1 ⟨gE, gS, o2, cap2, rfl, hm⟩
      refine ⟨_, _, _, _, _, _, rfl, hm.below, ?_⟩
      refine (rmatch_any o cap L w1 (h.below hm.below) hcap (hM.below hm.below)).mono ?_
      rintro r w2 ⟨b2, h2⟩
      rcases h2 with ⟨h2, _⟩ | ⟨_, gE2, gS2, cE, cS, rfl, hq⟩
      · exact absurd hc h2
      refine ⟨_, _, _, _, _, _, rfl, b2, fun w3 b3 => ?_, fun w3 b3 => ?_⟩
      · obtain ⟨j1, k1, k2⟩ := own3_lj (own3_under hm.ends b2)
        obtain ⟨j2, k3, k4⟩ := own3_lj hq.ends
        exact eqi_any _ _ _ L.length L.length cE (Nat.le_refl _) k3 k2 k4 w3 (j1.below b3) (j2.below b3)
      · obtain ⟨j1, k1, k2⟩ := own3_lj (own3_under hm.elses b2)
        obtain ⟨j2, k3, k4⟩ := own3_lj hq.elses
        exact eqi_any _ _ _ L.length L.length cS (Nat.le_refl _) k3 k2 k4 w3 (j1.below b3) (j2.below b3)
    · refine (nwrite_any o cap L w' (h.below hb) hcap (hT' w' hb) (hlt w' hb)).mono ?_
      rintro r w2 ⟨b, h2⟩
      rcases h2 with ⟨h2, _⟩ | ⟨_, t, rfl, ht⟩
      · exact absurd hc h2
      · exact ⟨t, rfl, ht, b⟩
    · refine (rnwrite_any o cap L w' (h.below hb) hcap (hM.below hb)).mono ?_
      rintro r w2 ⟨b, h2⟩
      rcases h2 with ⟨h2, _⟩ | ⟨_, t, rfl, ht⟩
      · exact absurd hc h2
      · exact ⟨t, rfl, ht, b⟩
  · refine nsays_core o L.length cap (nChk L) [] w ?_ (fun w' hb => ?_) (fun w' hb => ?_) hC
    · refine (match_bad o cap L w h hT ht0 hc).mono ?_
      rintro r w1 ⟨rfl, b1⟩
      refine ⟨_, _, _, _, _, _, rfl, b1, ?_⟩
      refine (rmatch_any o cap L w1 (h.below b1) hcap (hM.below b1)).mono ?_
      rintro r w2 ⟨b2, h2⟩
      rcases h2 with ⟨_, rfl⟩ | ⟨h2, _⟩
      case inr => exact absurd h2 hc
      exact ⟨_, _, _, _, _, _, rfl, b2, fun w3 b3 => eqi_any none none [] 0 0 0 (Nat.le_refl _) (Nat.le_refl _) (by omega) (by omega) w3 ⟨rfl, Or.inl rfl⟩ ⟨rfl, Or.inl rfl⟩, fun w3 b3 => eqi_any none none [] 0 0 0 (Nat.le_refl _) (Nat.le_refl _) (by omega) (by omega) w3 ⟨rfl, Or.inl rfl⟩ ⟨rfl, Or.inl rfl⟩⟩
    · refine (nwrite_any o cap L w' (h.below hb) hcap (hT' w' hb) (hlt w' hb)).mono ?_
      rintro r w2 ⟨b, h2⟩
      rcases h2 with ⟨_, rfl⟩ | ⟨h2, _⟩
      case inr => exact absurd h2 hc
      exact ⟨⟨#[]⟩, rfl, rfl, b⟩
    · refine (rnwrite_any o cap L w' (h.below hb) hcap (hM.below hb)).mono ?_
      rintro r w2 ⟨b, h2⟩
      rcases h2 with ⟨_, rfl⟩ | ⟨h2, _⟩
      case inr => exact absurd h2 hc
      exact ⟨⟨#[]⟩, rfl, rfl, b⟩

end Go.Proofs.YtmbficofcmfmlaaDoor
