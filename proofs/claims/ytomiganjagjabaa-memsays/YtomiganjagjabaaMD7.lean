/-
  What the document's Grow does.
-/
import Derived.Test.YtomiganjagjabaaMD6
namespace Go.Proofs.Ytomiganjagjabaa
open Go.RowKit

theorem DM.drew {w : World} {Q q : Nat} {most : Int} {b : List Int} (h : DM w Q q most b) : DM w.drew Q q most b := h.under ((Below.refl _ _).drew)
theorem mulE (x y : Operand) (n K : Nat) (hn : n ≤ 8) (hK : K = 256 * n) (w : World) : (do eqGuard .mul 2 x y (.int .i64 256) (.int .i64 (n : Int)); binOp .mul 2 (.int .i64 256) (.int .i64 (n : Int)) : Sem Value).run Try.prog w = .ok (.int .i64 (K : Int)) w := by
  simp [go_sem]
  rw [IntKind.wrap_i64, hK, Int.emod_eq_of_lt (by omega) (by omega)]
  omega
set_option maxHeartbeats 4000000 in
set_option maxRecDepth 1000000 in
theorem dgrow_no (Q q n u : Nat) (most x : Int) (b : List Int) (hb : b.length = 256 * n) (hx : x % 4294967296 = (u : Int)) (hm : (n : Int) ≤ most ∧ most ≤ 8) (hu : most - n < (u : Int)) (w : World) (h : DM w Q q most b) :
    Calls Try.prog 18 #[.pointer (some ⟨Q, 0, none⟩), .int .i64 x] w fun r w' => r = .returned (.int .i64 (-1)) ∧ Below w.heap.size w w' := by
  have HWO : Hid (∀ w, type_of% (wordOf_any x 32 (by decide) (by decide) w)) := fun w => wordOf_any x 32 (by decide) (by decide) w
  have hu2 : (u : Int) ≤ 4294967295 := by omega
  have HPL : Hid (∀ v w, IsW w v (wordB x 32) → Calls Try.prog 34 #[v] w fun e w' => e = .returned (.int .u64 (u : Int)) ∧ w' = w) := fun v w hv => by
    have := plain_any v _ w hv (by rw [wordB_length]; decide)
    rw [word_u x u hx] at this
    exact this
  have hq : ∀ z : Int, z = (b.length : Int) → z.tdiv 256 = (n : Int) := fun z hz => by
    rw [hz, Int.tdiv_eq_ediv_of_nonneg (by omega)]
    omega
  obtain ⟨cap, hcap, hc0⟩ := h.c0
  have hin : ∀ z : Int, z = (n : Int) → IntKind.i64.wrap z = (n : Int) := fun z hz => by rw [hz, IntKind.wrap_i64, Int.emod_eq_of_lt (by omega) (by omega)]; omega
  have hiu : ∀ z : Int, z = (u : Int) → IntKind.i64.wrap z = (u : Int) := fun z hz => by rw [hz, IntKind.wrap_i64, Int.emod_eq_of_lt (by omega) (by omega)]; omega
  have hgt : most < (n : Int) + (u : Int) := by omega
  have hn0 : (n : Int) ≤ 8 := by omega
  have hu0 : (0 : Int) ≤ (u : Int) := by omega
  have hn1 : (0 : Int) ≤ (n : Int) := by omega
  have HCC : Hid (∀ w', Below w.heap.size w.drew w' → w'.cell? ⟨Q, 0, none⟩ = some (.slice (some ⟨q, 0, none⟩) b.length cap) ∧ w'.cell? ⟨Q, 1, none⟩ = some (.int .i64 most)) := fun w' hb' => by
    have hb2 : Below w.heap.size w w' := ⟨hb'.os, hb'.tape, hb'.output, hb'.size, hb'.block⟩
    rw [hb2.cell (p := ⟨Q, 0, none⟩) h.lt.1, hb2.cell (p := ⟨Q, 1, none⟩) h.lt.1]
    exact ⟨hc0, h.c1⟩
  have HBW : Hid (∀ w', Below w.heap.size w.drew w' → Below w.heap.size w w') := fun w' hb' => ⟨hb'.os, hb'.tape, hb'.output, hb'.size, hb'.block⟩
  clear h hb hx hm hu hcap
  go_enter Try.func18, Try.ntmps18
  go_wp2_with fail
  go_region_with (first
    | (go_at_call 37; refine (HWO.out _).mono ?_; rintro e w2 ⟨v, rfl, hv, b2⟩; obtain ⟨z0, z1⟩ := HCC.out _ b2)
    | (go_at_call 34; refine (HPL.out _ _ hv).mono ?_; rintro e w3 ⟨rfl, rfl⟩))
  all_goals
    have HB2 : Hid (Below w.heap.size w _) := HBW.out _ b2
    clear b2 HCC HBW HWO HPL hv
    go_wp2
    go_ret
    exact ⟨rfl, HB2.out⟩
set_option maxHeartbeats 4000000 in
set_option maxRecDepth 1000000 in
theorem dgrow_yes (Q q n u : Nat) (most x : Int) (b : List Int) (hb : b.length = 256 * n) (hx : x % 4294967296 = (u : Int)) (hm : (n : Int) ≤ most ∧ most ≤ 8) (hu : (u : Int) ≤ most - n) (w : World) (h : DM w Q q most b) :
    Calls Try.prog 18 #[.pointer (some ⟨Q, 0, none⟩), .int .i64 x] w fun r w' => ∃ q', r = .returned (.int .i64 (n : Int)) ∧ DM w' Q q' most (b ++ List.replicate (256 * u) 0) ∧ Ch2 Q q w w' ∧ (q' = q ∨ w.heap.size ≤ q') := by
  have HWO : Hid (∀ w, type_of% (wordOf_any x 32 (by decide) (by decide) w)) := fun w => wordOf_any x 32 (by decide) (by decide) w
  have hu2 : (u : Int) ≤ 4294967295 := by omega
  have HPL : Hid (∀ v w, IsW w v (wordB x 32) → Calls Try.prog 34 #[v] w fun e w' => e = .returned (.int .u64 (u : Int)) ∧ w' = w) := fun v w hv => by
    have := plain_any v _ w hv (by rw [wordB_length]; decide)
    rw [word_u x u hx] at this
    exact this
  have hq : ∀ z : Int, z = (b.length : Int) → z.tdiv 256 = (n : Int) := fun z hz => by
    rw [hz, Int.tdiv_eq_ediv_of_nonneg (by omega)]
    omega
  obtain ⟨cap, hcap, hc0⟩ := h.c0
  have hin : ∀ z : Int, z = (n : Int) → IntKind.i64.wrap z = (n : Int) := fun z hz => by rw [hz, IntKind.wrap_i64, Int.emod_eq_of_lt (by omega) (by omega)]; omega
  have hiu : ∀ z : Int, z = (u : Int) → IntKind.i64.wrap z = (u : Int) := fun z hz => by rw [hz, IntKind.wrap_i64, Int.emod_eq_of_lt (by omega) (by omega)]; omega
  have hgt : ¬ most < (n : Int) + (u : Int) := by omega
  have hn0 : (n : Int) ≤ 8 := by omega
  have hu0 : (0 : Int) ≤ (u : Int) := by omega
  have hn1 : (0 : Int) ≤ (n : Int) := by omega
  have HCC : Hid (∀ w', Below w.heap.size w.drew w' → w'.cell? ⟨Q, 0, none⟩ = some (.slice (some ⟨q, 0, none⟩) b.length cap) ∧ w'.cell? ⟨Q, 1, none⟩ = some (.int .i64 most)) := fun w' hb' => by
    have hb2 : Below w.heap.size w w' := ⟨hb'.os, hb'.tape, hb'.output, hb'.size, hb'.block⟩
    rw [hb2.cell (p := ⟨Q, 0, none⟩) h.lt.1, hb2.cell (p := ⟨Q, 1, none⟩) h.lt.1]
    exact ⟨hc0, h.c1⟩
  have HBW : Hid (∀ w', Below w.heap.size w.drew w' → Below w.heap.size w w') := fun w' hb' => ⟨hb'.os, hb'.tape, hb'.output, hb'.size, hb'.block⟩
  obtain ⟨K, hK⟩ : ∃ K, K = 256 * u := ⟨_, rfl⟩
  have hK2 : b.length + K ≤ 2048 := by omega
  have HMU : Hid (∀ x y W, type_of% (mulE x y u K (by omega) hK W)) := fun x y W => mulE x y u K (by omega) hK W
  have HGR : Hid (∀ w', Below w.heap.size w.drew w' → ∃ q' cap' w1, w1.frozen? ⟨Q, 0, none⟩ = false ∧ w1.cell? ⟨Q, 0, none⟩ = some (.slice (some ⟨q, 0, none⟩) b.length cap) ∧
      (Builtin.append_ #[34, 2] 34 #[.slice (some ⟨q, 0, none⟩) b.length cap, .int .i64 (K : Int)]).run Try.prog w' = .ok (.slice (some ⟨q', 0, none⟩) (b.length + K) cap') w1 ∧
      DM (w1.setCell ⟨Q, 0, none⟩ (.slice (some ⟨q', 0, none⟩) (b.length + K) cap')) Q q' most (b ++ List.replicate K 0) ∧ Ch2 Q q w (w1.setCell ⟨Q, 0, none⟩ (.slice (some ⟨q', 0, none⟩) (b.length + K) cap')) ∧ (q' = q ∨ w.heap.size ≤ q')) := fun w' hb' => by
    have hbw := HBW.out w' hb'
    obtain ⟨q', c2, c3, w1, e0, e1, e2, e3, e4, e5, e6⟩ := dgrow_run Q q K most b 34 w' (h.under hbw) hK2
    have hc := (HCC.out w' hb').1
    rw [hc] at e0
    simp only [Option.some.injEq, Value.slice.injEq, true_and] at e0
    subst e0
    have hs := hbw.size
    refine ⟨q', c3, w1, e1, e2, e3, e4, ⟨e5.os.trans hbw.os, e5.tape.trans hbw.tape, e5.output.trans hbw.output, Nat.le_trans hs e5.size, fun k hk g1 g2 => (e5.block k (by omega) g1 g2).trans (hbw.block k hk)⟩, ?_⟩
    rcases e6 with e6 | e6
    · exact Or.inl e6
    · exact Or.inr (by omega)
  rw [← hK]
  clear hK hK2
  clear h hb hx hm hu hcap
  go_enter Try.func18, Try.ntmps18
  go_wp2_with fail
  go_region_with (first
    | (go_at_call 37; refine (HWO.out _).mono ?_; rintro e w2 ⟨v, rfl, hv, b2⟩; obtain ⟨z0, z1⟩ := HCC.out _ b2)
    | (go_at_call 34; refine (HPL.out _ _ hv).mono ?_; rintro e w3 ⟨rfl, rfl⟩))
  all_goals
    obtain ⟨q', cap', w5, hf5, hc5, HRUN, HM, HC, HG⟩ := HGR.out _ b2
    have HRUN : Hid (type_of% HRUN) := HRUN
    have HM : Hid (type_of% HM) := HM
    have HC : Hid (type_of% HC) := HC
    have HG : Hid (type_of% HG) := HG
    clear b2 HGR HCC HBW HWO HPL hv
    go_wp2_with (first | (refine wp_binX rfl .mul 2 2 (.const (.int .i64 256)) (.tmp 30) rfl _ _ rfl rfl _ (HMU.out _ _ _) ?_) | (at_builtin; refine Lib.wpList_append_run _ rfl _ _ _ _ rfl _ _ rfl rfl _ _ HRUN.out ?_))
    go_ret
    exact ⟨q', rfl, HM.out, HC.out, HG.out⟩
end Go.Proofs.Ytomiganjagjabaa
