/-
  FoldSays: the program folds a body as the document does.
-/
import Derived.Test.YtkceplamaocmmaaGreatDoorZFU8
import Derived.Test.YtkceplamaocmmaaGreatDoorZPP
import Derived.Test.YtkceplamaocmmaaGreatDoorZPU
set_option maxHeartbeats 4000000
set_option maxRecDepth 1000000
namespace Go.Proofs.YtkceplamaocmmaaGreatDoor
open Go.RowKit
set_option linter.unusedVariables false
theorem next_val {L M : List InsD} (h : L.map InsD.val = M.map InsD.val) (i k : Nat) {I J : List InsD} (hI : I.map InsD.val = J.map InsD.val) : (nextL L i k I).map InsD.val = (nextL M i k J).map InsD.val := by
  unfold nextL
  rw [List.map_append, List.map_append, List.map_append, List.map_append, List.map_take, List.map_take, List.map_drop, List.map_drop, h, hI]
theorem folds_val {L N : List InsD} (h : Folds L N) : ∀ L' M, L.map InsD.val = L'.map InsD.val → Folds L' M → N.map InsD.val = M.map InsD.val := by
  induction h with
  | done L h0 =>
    intro L' M hv h2
    cases h2 with
    | done _ _ => exact hv
    | step _ i k I _ h' r => rw [fstC_none hv h0] at h'; cases h'
  | step L i k I N h0 r ih =>
    intro L' M hv h2
    have hc := fstC_val hv
    cases h2 with
    | done _ h' => rw [h0, h'] at hc; cases hc
    | step _ i' k' I' _ h' r' =>
      rw [h0, h'] at hc
      unfold cV3 at hc
      simp only [Option.map_some, Option.some.injEq, Prod.mk.injEq] at hc
      obtain ⟨rfl, rfl, hI⟩ := hc
      exact ih _ _ (next_val hv i k hI) r'
theorem fsays_core (o : Option Addr) (cap n : Nat) (c : Int) (w : World) (P Q : World → Value → Prop)
    (H1 : Hid (Calls Tryz.prog 4 #[.slice o n cap] w fun r w' => ∃ oa na ca, r = .returned (.tuple #[.slice oa na ca, .int .i64 c]) ∧ P w' (.slice oa na ca) ∧ Below w.heap.size w w'))
    (H2 : Hid (∀ W, Below w.heap.size w W → Calls Tryz.prog 5 #[.slice o n cap] W fun r w' => ∃ ob nb cb, r = .returned (.tuple #[.slice ob nb cb, .int .i64 c]) ∧ Q w' (.slice ob nb cb) ∧ Below W.heap.size W w'))
    (H3 : Hid (∀ W1 W2 oa na ca ob nb cb, P W1 (.slice oa na ca) → Below W1.heap.size W1 W2 → Q W2 (.slice ob nb cb) → Calls Tryz.prog 6 #[.slice oa na ca, .slice ob nb cb] W2 fun r w' => r = .returned (.bool true) ∧ Below W2.heap.size W2 w')) :
    Calls Tryz.prog 3 #[.slice o n cap] w fun r w' => r = .returned (.bool true) ∧ Below w.heap.size w w' := by
  go_enter Tryz.func3, Tryz.ntmps3
  go_wp2_with fail
  refine H1.out.mono ?_
  rintro r w1 ⟨oa, na, ca, rfl, hP, b1⟩
  have HP : Hid (type_of% hP) := hP
  have HB1 : Hid (type_of% b1) := b1
  clear hP b1
  go_wp2_with fail
  refine (H2.out _ HB1.out).mono ?_
  rintro r w2 ⟨ob, nb, cb, rfl, hQ, b2⟩
  have hs := H3.out _ _ _ _ _ _ _ _ HP.out b2 hQ
  have HS : Hid (type_of% hs) := hs
  have HB2 : Hid (Below w.heap.size w w2) := HB1.out.trans (b2.mono HB1.out.size)
  clear hQ b2 hs
  go_wp2_with fail
  refine HS.out.mono ?_
  rintro r w3 ⟨rfl, b3⟩
  go_wp2
  go_ret
  exact ⟨rfl, HB2.out.trans (b3.mono HB2.out.size)⟩
theorem foldSays_walk (o : Option Addr) (cap : Nat) (L : List InsD) (hcap : L.length ≤ cap) (hcm : cap ≤ maxLen) (w : World) (hT : TabIn w) (hM : MaxIn w) (h : LD w o L) :
    Calls Tryz.prog 3 #[.slice o L.length cap] w fun r w' => r = .returned (.bool true) ∧ Below w.heap.size w w' := by
  have hF : FA w := ⟨hT, by
    have hc := hT 0 (by omega)
    rcases Nat.lt_or_ge 0 w.heap.size with h | h
    · exact h
    · simp [World.cell?, Array.getElem?_eq_none h] at hc⟩
  have hm : cap ≤ 9223372036854775807 := by unfold maxLen at hcm; exact hcm
  by_cases hc : nChk L = 0
  · have hL : Fine L := ⟨hc, fun d hd => (h.1 d hd).a⟩
    refine fsays_core o cap L.length 0 w
      (fun W v => ∃ (M : List InsD) (oa : Option Addr) (ca : Nat), v = .slice oa M.length ca ∧ LD W oa M ∧ M.length ≤ ca ∧ ca ≤ 9223372036854775807 ∧ ∃ L' : List InsD, L'.map InsD.val = L.map InsD.val ∧ Folds L' M)
      (fun W v => ∃ (N : List InsD) (ob : Option Addr) (cb : Nat), v = .slice ob N.length cb ∧ LD W ob N ∧ N.length ≤ cb ∧ Folds L N)
      ((fbody_ok o cap L w h hF hc).mono ?_) (fun W bb => (rfold_ok o cap L W (h.below bb) ⟨hcap, hm⟩ hL (hM.below bb)).mono ?_) ?_
    · rintro r w1 ⟨M, ⟨⟨oM, cM, rfl, hlM, hcM, hcM2⟩, hf, _, _, _, b1⟩⟩
      exact ⟨oM, M.length, cM, rfl, ⟨M, oM, cM, rfl, hlM, hcM, hcM2, hf⟩, b1⟩
    · rintro r w2 ⟨N, oN, cN, rfl, hlN, hcN, hf, b2⟩
      exact ⟨oN, N.length, cN, rfl, ⟨N, oN, cN, rfl, hlN, hcN.1, hf⟩, b2⟩
    · rintro W1 W2 oa na ca ob nb cb ⟨M, oM, cM, e1, hlM, hcM, hcM2, L', hv, hf⟩ bb ⟨N, oN, cN, e2, hlN, hcN, hf2⟩
      cases e1
      cases e2
      exact sameBody_any oa ob ca cb M N W2 (hlM.below bb) hlN hcM hcN (by unfold maxLen; exact hcM2) (folds_val hf L N hv hf2)
  · refine fsays_core o cap L.length (nChk L) w (fun W v => v = .slice none 0 0) (fun W v => v = .slice none 0 0)
      ((fbody_bad o cap L w h hF hc).mono ?_) (fun W bb => (rfold_bad o cap L W (h.below bb) hcap hc (hM.below bb)).mono ?_) ?_
    · rintro r w1 ⟨rfl, b1⟩
      exact ⟨none, 0, 0, rfl, rfl, b1⟩
    · rintro r w2 ⟨rfl, b2⟩
      exact ⟨none, 0, 0, rfl, rfl, b2⟩
    · rintro W1 W2 oa na ca ob nb cb e1 bb e2
      cases e1
      cases e2
      exact sameBody_any none none 0 0 [] [] W2 ⟨by simp, Or.inl rfl⟩ ⟨by simp, Or.inl rfl⟩ (Nat.le_refl _) (Nat.le_refl _) (by unfold maxLen; omega) rfl
end Go.Proofs.YtkceplamaocmmaaGreatDoor
