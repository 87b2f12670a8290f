/-
  NestWraps: a body within a block is a body, one deeper, as long as it may be.
-/
import Derived.Test.YtmbficofcmfmlaaDoorNWrap2
namespace Go.Proofs.YtmbficofcmfmlaaDoor
open Go.RowKit

theorem Seg.sizes {L : List InsD} {E S : List Int} {i j d s : Nat} (h : Seg L E S i j d s) : d ≤ s ∧ s ≤ j - i := by
  induction h with
  | nil i h => omega
  | single i j d s h o o5 o11 _ r ih =>
    have := r.le
    omega
  | block i q j d1 s1 d s h hq oo oq _ r1 r ih1 ih =>
    have := r.le
    have := r1.le
    omega
  | ifN i q j d1 s1 d s h hq oo oq _ _ r1 r ih1 ih =>
    have := r.le
    have := r1.le
    omega
  | ifE i t q j d1 s1 d2 s2 d s h ht hq oo ot oq _ _ r1 r2 r ih1 ih2 ih =>
    have := r.le
    have := r1.le
    have := r2.le
    omega
set_option maxHeartbeats 4000000 in
set_option maxRecDepth 1000000 in
theorem nwraps_bad (o : Option Addr) (n cap : Nat) (lb : Bool) (e : Int) (_he : (e == 0) = false) (w : World)
    (HO : Hid (∀ w', Below w.heap.size w w' → Calls Tryd.prog 18 #[.slice o n cap] w' fun r w'' => r = .returned (.tuple #[.pointer none, .int .i64 e]) ∧ Below w'.heap.size w' w''))
    (HC : Hid (∀ w', Below w.heap.size w w' → Calls Tryd.prog 14 #[.slice o n cap] w' fun r w'' => r = .returned (.int .i64 e) ∧ Below w'.heap.size w' w'')) :
    Calls Tryd.prog 8 #[.slice o n cap, .bool lb] w fun r w' => r = .returned (.bool true) ∧ Below w.heap.size w w' := by
  have hne : (e != 0) = true := by rw [bne, _he]; rfl
  cases lb
  all_goals
    go_enter Tryd.func8, Tryd.ntmps8
    go_wp2_with fail
    refine (HO.out _ (Below.refl _ _)).mono ?_
    rintro r w1 ⟨rfl, b1⟩
    go_wp2_with fail
    refine (HC.out _ b1).mono ?_
    rintro r w2 ⟨rfl, b2⟩
    go_wp2
    go_ret
    exact ⟨rfl, b1.trans (b2.mono b1.size)⟩
set_option maxHeartbeats 4000000 in
set_option maxRecDepth 1000000 in
theorem nwraps_large (o : Option Addr) (n cap : Nat) (lb : Bool) (_hn : 198 < n) (_hn2 : n ≤ 200) (w : World)
    (HO : Hid (∀ w', Below w.heap.size w w' → Calls Tryd.prog 18 #[.slice o n cap] w' fun r w'' => ∃ P, r = .returned (.tuple #[.pointer (some ⟨P, 0, none⟩), .int .i64 0]) ∧ Below w'.heap.size w' w''))
    (HW : Hid (∀ op w', (op = 2 ∨ op = 3) → Below w.heap.size w w' → Calls Tryd.prog 25 #[.slice o n cap, .int .u8 op, .int .u8 64] w' fun r w'' => ∃ g cap', r = .returned (.slice (some ⟨g, 0, none⟩) (n + 2) cap') ∧ Below w'.heap.size w' w'' ∧ Hid (Calls Tryd.prog 18 #[.slice (some ⟨g, 0, none⟩) (n + 2) cap'] w'' fun r w3 => r = .returned (.tuple #[.pointer none, .int .i64 2]) ∧ Below w''.heap.size w'' w3))) :
    Calls Tryd.prog 8 #[.slice o n cap, .bool lb] w fun r w' => r = .returned (.bool true) ∧ Below w.heap.size w w' := by
  cases lb
  all_goals
    go_enter Tryd.func8, Tryd.ntmps8
    go_wp2_with fail
    refine (HO.out _ (Below.refl _ _)).mono ?_
    rintro r w1 ⟨P, rfl, b1⟩
    go_wp2_with fail
    refine (HW.out _ _ (by first | exact Or.inl rfl | exact Or.inr rfl) b1).mono ?_
    rintro r w2 ⟨g, cap', rfl, b2, HU⟩
    have HB2 : Hid (Below w.heap.size w w2) := b1.trans (b2.mono b1.size)
    clear b1 b2
    go_wp2_with fail
    refine HU.out.mono ?_
    rintro r w3 ⟨rfl, b3⟩
    go_wp2
    go_ret
    exact ⟨rfl, HB2.out.trans (b3.mono HB2.out.size)⟩
set_option maxHeartbeats 4000000 in
set_option maxRecDepth 1000000 in
theorem nwraps_deep (o : Option Addr) (n cap : Nat) (lb : Bool) (_hn : n ≤ 198) (w : World)
    (HO : Hid (∀ w', Below w.heap.size w w' → Calls Tryd.prog 18 #[.slice o n cap] w' fun r w'' => ∃ P, r = .returned (.tuple #[.pointer (some ⟨P, 0, none⟩), .int .i64 0]) ∧ Below w'.heap.size w' w'' ∧ Hid (∀ w3, Below w''.heap.size w'' w3 → Calls Tryd.prog 22 #[.pointer (some ⟨P, 0, none⟩)] w3 fun r w4 => r = .returned (.int .i64 12) ∧ Below w3.heap.size w3 w4)))
    (HW : Hid (∀ op w', (op = 2 ∨ op = 3) → Below w.heap.size w w' → Calls Tryd.prog 25 #[.slice o n cap, .int .u8 op, .int .u8 64] w' fun r w'' => ∃ g cap', r = .returned (.slice (some ⟨g, 0, none⟩) (n + 2) cap') ∧ Below w'.heap.size w' w'' ∧ Hid (Calls Tryd.prog 18 #[.slice (some ⟨g, 0, none⟩) (n + 2) cap'] w'' fun r w3 => r = .returned (.tuple #[.pointer none, .int .i64 7]) ∧ Below w''.heap.size w'' w3))) :
    Calls Tryd.prog 8 #[.slice o n cap, .bool lb] w fun r w' => r = .returned (.bool true) ∧ Below w.heap.size w w' := by
  cases lb
  all_goals
    go_enter Tryd.func8, Tryd.ntmps8
    go_wp2_with fail
    refine (HO.out _ (Below.refl _ _)).mono ?_
    rintro r w1 ⟨P, rfl, b1, HD⟩
    go_wp2_with fail
    refine (HW.out _ _ (by first | exact Or.inl rfl | exact Or.inr rfl) b1).mono ?_
    rintro r w2 ⟨g, cap', rfl, b2, HU⟩
    have HB2 : Hid (Below w.heap.size w w2) := b1.trans (b2.mono b1.size)
    have HC2 : Hid (Below w1.heap.size w1 w2) := b2
    clear b1 b2
    go_wp2_with fail
    refine HU.out.mono ?_
    rintro r w3 ⟨rfl, b3⟩
    have HB3 : Hid (Below w.heap.size w w3) := HB2.out.trans (b3.mono HB2.out.size)
    have HC3 : Hid (Below w1.heap.size w1 w3) := HC2.out.trans (b3.mono HC2.out.size)
    clear b3
    go_wp2_with fail
    refine (HD.out _ HC3.out).mono ?_
    rintro r w4 ⟨rfl, b4⟩
    go_wp2
    go_ret
    exact ⟨rfl, HB3.out.trans (b4.mono HB3.out.size)⟩
set_option maxHeartbeats 8000000 in
set_option maxRecDepth 1000000 in
theorem nwraps_ok (o : Option Addr) (n cap : Nat) (lb : Bool) (_hn : n ≤ 198) (D Z : Int) (_hd0 : 0 ≤ D) (_hd : D < 12) (_hz : Z ≤ 1000) (_hdz : D ≤ Z) (w : World)
    (HO : Hid (∀ w', Below w.heap.size w w' → Calls Tryd.prog 18 #[.slice o n cap] w' fun r w'' => ∃ P, r = .returned (.tuple #[.pointer (some ⟨P, 0, none⟩), .int .i64 0]) ∧ Below w'.heap.size w' w'' ∧ Hid (∀ w3, Below w''.heap.size w'' w3 → Calls Tryd.prog 22 #[.pointer (some ⟨P, 0, none⟩)] w3 fun r w4 => r = .returned (.int .i64 D) ∧ Below w3.heap.size w3 w4) ∧ Hid (∀ w3, Below w''.heap.size w'' w3 → Calls Tryd.prog 23 #[.pointer (some ⟨P, 0, none⟩)] w3 fun r w4 => r = .returned (.int .i64 Z) ∧ Below w3.heap.size w3 w4)))
    (HW : Hid (∀ op w', (op = 2 ∨ op = 3) → Below w.heap.size w w' → Calls Tryd.prog 25 #[.slice o n cap, .int .u8 op, .int .u8 64] w' fun r w'' => ∃ g cap', r = .returned (.slice (some ⟨g, 0, none⟩) (n + 2) cap') ∧ Below w'.heap.size w' w'' ∧ Hid (Calls Tryd.prog 18 #[.slice (some ⟨g, 0, none⟩) (n + 2) cap'] w'' fun r w3 => ∃ Q, r = .returned (.tuple #[.pointer (some ⟨Q, 0, none⟩), .int .i64 0]) ∧ Below w''.heap.size w'' w3 ∧ Hid (∀ w4, Below w3.heap.size w3 w4 → Calls Tryd.prog 22 #[.pointer (some ⟨Q, 0, none⟩)] w4 fun r w5 => r = .returned (.int .i64 (D + 1)) ∧ Below w4.heap.size w4 w5) ∧ Hid (∀ w4, Below w3.heap.size w3 w4 → Calls Tryd.prog 23 #[.pointer (some ⟨Q, 0, none⟩)] w4 fun r w5 => r = .returned (.int .i64 (Z + 1)) ∧ Below w4.heap.size w4 w5)))) :
    Calls Tryd.prog 8 #[.slice o n cap, .bool lb] w fun r w' => r = .returned (.bool true) ∧ Below w.heap.size w w' := by
  cases lb
  all_goals
    go_enter Tryd.func8, Tryd.ntmps8
    go_wp2_with fail
    refine (HO.out _ (Below.refl _ _)).mono ?_
    rintro r w1 ⟨P, rfl, b1, HD, HZ⟩
    go_wp2_with fail
    refine (HW.out _ _ (by first | exact Or.inl rfl | exact Or.inr rfl) b1).mono ?_
    rintro r w2 ⟨g, cap', rfl, b2, HU⟩
    have HB2 : Hid (Below w.heap.size w w2) := b1.trans (b2.mono b1.size)
    have HC2 : Hid (Below w1.heap.size w1 w2) := b2
    clear b1 b2 HW HO
    go_wp2_with fail
    refine HU.out.mono ?_
    rintro r w3 ⟨Q, rfl, b3, HUD, HUZ⟩
    have HB3 : Hid (Below w.heap.size w w3) := HB2.out.trans (b3.mono HB2.out.size)
    have HC3 : Hid (Below w1.heap.size w1 w3) := HC2.out.trans (b3.mono HC2.out.size)
    clear b3 HB2 HC2 HU
    go_wp2_with fail
    refine (HD.out _ HC3.out).mono ?_
    rintro r w4 ⟨rfl, b4⟩
    have HB4 : Hid (Below w.heap.size w w4) := HB3.out.trans (b4.mono HB3.out.size)
    have HC4 : Hid (Below w1.heap.size w1 w4) := HC3.out.trans (b4.mono HC3.out.size)
    have HE4 : Hid (Below w3.heap.size w3 w4) := b4
    clear b4 HB3 HC3
    go_wp2_with fail
    refine (HUD.out _ HE4.out).mono ?_
    rintro r w5 ⟨rfl, b5⟩
    have HB5 : Hid (Below w.heap.size w w5) := HB4.out.trans (b5.mono HB4.out.size)
    have HC5 : Hid (Below w1.heap.size w1 w5) := HC4.out.trans (b5.mono HC4.out.size)
    have HE5 : Hid (Below w3.heap.size w3 w5) := HE4.out.trans (b5.mono HE4.out.size)
    clear b5 HB4 HC4 HE4
    go_wp2_with fail
    refine (HD.out _ HC5.out).mono ?_
    rintro r w6 ⟨rfl, b6⟩
    have HB6 : Hid (Below w.heap.size w w6) := HB5.out.trans (b6.mono HB5.out.size)
    have HC6 : Hid (Below w1.heap.size w1 w6) := HC5.out.trans (b6.mono HC5.out.size)
    have HE6 : Hid (Below w3.heap.size w3 w6) := HE5.out.trans (b6.mono HE5.out.size)
    clear b6 HB5 HC5 HE5
    go_wp2_with fail
    refine (HUZ.out _ HE6.out).mono ?_
    rintro r w7 ⟨rfl, b7⟩
    have HB7 : Hid (Below w.heap.size w w7) := HB6.out.trans (b7.mono HB6.out.size)
    have HC7 : Hid (Below w1.heap.size w1 w7) := HC6.out.trans (b7.mono HC6.out.size)
    clear b7 HB6 HC6 HE6
    go_wp2_with fail
    refine (HZ.out _ HC7.out).mono ?_
    rintro r w8 ⟨rfl, b8⟩
    have HB8 : Hid (Below w.heap.size w w8) := HB7.out.trans (b8.mono HB7.out.size)
    have HC8 : Hid (Below w1.heap.size w1 w8) := HC7.out.trans (b8.mono HC7.out.size)
    clear b8 HB7 HC7
    go_wp2_with fail
    refine (HD.out _ HC8.out).mono ?_
    rintro r w9 ⟨rfl, b9⟩
    have HB9 : Hid (Below w.heap.size w w9) := HB8.out.trans (b9.mono HB8.out.size)
    have HC9 : Hid (Below w1.heap.size w1 w9) := HC8.out.trans (b9.mono HC8.out.size)
    clear b9 HB8 HC8
    go_wp2_with fail
    refine (HZ.out _ HC9.out).mono ?_
    rintro r w10 ⟨rfl, b10⟩
    go_wp2
    go_ret
    exact ⟨rfl, HB9.out.trans (b10.mono HB9.out.size)⟩
theorem nestWraps_walk (o : Option Addr) (cap : Nat) (L : List InsD) (_hcap : L.length ≤ cap) (_hcm : cap ≤ maxLen) (a1 : Bool) (w : World) (hT : TabIn w) (h : LD w o L) :
    Calls Tryd.prog 8 #[.slice o L.length cap, .bool a1] w fun r w' => r = .returned (.bool true) ∧ Below w.heap.size w w' := by
  have ht0 : 1 < w.heap.size := by
    have hc := hT 0 (by omega)
    apply Nat.lt_of_not_le
    intro hle
    have : w.heap[1]? = none := Array.getElem?_eq_none hle
    simp [World.cell?, this] at hc
  have hT' : ∀ w', Below w.heap.size w w' → TabIn w' := fun w' hb => hT.chg (P := w.heap.size) (Chg.of_below hb) ht0 (by omega)
  have hlt : ∀ w', Below w.heap.size w w' → 1 < w'.heap.size := fun w' hb => Nat.lt_of_lt_of_le ht0 hb.size
  by_cases hc : nChk L = 0
  · obtain ⟨h200, _, _, hpos⟩ := nChk_ok L hc
    obtain ⟨o11, D, Z, hseg⟩ := match_seg L hc
    have hnd := body_nd L hc hseg o11 0 0 0 (by omega)
    have hndd : ∀ (D' Z' : Nat), Seg L (matchOf L).2.1 (matchOf L).2.2 0 (L.length - 1) D' Z' → D' = D ∧ Z' = Z := fun D' Z' hs => by
      have := body_nd L hc hs o11 0 0 0 (by omega)
      rw [hnd] at this
      simp only [Prod.mk.injEq] at this
      omega
    obtain ⟨hdz, hzl⟩ := hseg.sizes
    have hsv : ∀ M : List InsD, M.length ≤ 202 → (segV M 0 (M.length - 1)).length ≤ 1000 := fun M hM => by
      unfold segV
      simp
      omega
    have hOf : ∀ w', Below w.heap.size w w' → Calls Tryd.prog 18 #[.slice o L.length cap] w' fun r w'' => ∃ P, r = .returned (.tuple #[.pointer (some ⟨P, 0, none⟩), .int .i64 0]) ∧ Below w'.heap.size w' w'' ∧ Hid (∀ w3, Below w''.heap.size w'' w3 → Calls Tryd.prog 22 #[.pointer (some ⟨P, 0, none⟩)] w3 fun r w4 => r = .returned (.int .i64 D) ∧ Below w3.heap.size w3 w4) ∧ Hid (∀ w3, Below w''.heap.size w'' w3 → Calls Tryd.prog 23 #[.pointer (some ⟨P, 0, none⟩)] w3 fun r w4 => r = .returned (.int .i64 Z) ∧ Below w3.heap.size w3 w4) := fun w' hb => by
      obtain ⟨D', Z', hs', _, hof⟩ := of_any o cap L w' (h.below hb) (hT' w' hb) (hlt w' hb) hc
      obtain ⟨rfl, rfl⟩ := hndd D' Z' hs'
      refine hof.mono ?_
      rintro r w2 ⟨P, rfl, htr, b2⟩
      exact ⟨P, rfl, b2, fun w3 b3 => tdeep_any P _ D' Z' (hsv L (by omega)) w3 (htr.under b3), fun w3 b3 => tsize_any P _ D' Z' (hsv L (by omega)) w3 (htr.under b3)⟩
    rcases h.2 with h0 | ⟨b, f, ho, _, _⟩
    · rw [h0] at hpos
      simp at hpos
    have hlw : ∀ op, (wrapL op L).length = L.length + 2 := fun op => by
      unfold wrapL
      simp
    have hWr : ∀ op w', (op = 2 ∨ op = 3) → Below w.heap.size w w' → Calls Tryd.prog 25 #[.slice o L.length cap, .int .u8 op, .int .u8 64] w' fun r w'' => ∃ g cap', r = .returned (.slice (some ⟨g, 0, none⟩) (L.length + 2) cap') ∧ LD w'' (some ⟨g, 0, none⟩) (wrapL op L) ∧ Below w'.heap.size w' w'' := fun op w' hop hb => by
      have hl := h.below hb
      rw [ho] at hl ⊢
      refine (wrapped_core b f L.length cap L rfl h200 hpos op (by omega) (by omega) w' hl).mono ?_
      rintro r w2 ⟨g, cap', rfl, hLD, _, _, b2⟩
      exact ⟨g, cap', rfl, hLD, b2⟩
    have hBad : ∀ (op : Int) (e : Int), (op = 2 ∨ op = 3) → nChk (wrapL op L) = e → e ≠ 0 → ∀ w', Below w.heap.size w w' → Calls Tryd.prog 25 #[.slice o L.length cap, .int .u8 op, .int .u8 64] w' fun r w'' => ∃ g cap', r = .returned (.slice (some ⟨g, 0, none⟩) (L.length + 2) cap') ∧ Below w'.heap.size w' w'' ∧ Hid (Calls Tryd.prog 18 #[.slice (some ⟨g, 0, none⟩) (L.length + 2) cap'] w'' fun r w3 => r = .returned (.tuple #[.pointer none, .int .i64 e]) ∧ Below w''.heap.size w'' w3) := fun op e hop hw he w' hb => by
      refine (hWr op w' hop hb).mono ?_
      rintro r w2 ⟨g, cap', rfl, hLD, b2⟩
      have hb2 := hb.trans (b2.mono hb.size)
      refine ⟨g, cap', rfl, b2, ?_⟩
      have hm := match_bad (some ⟨g, 0, none⟩) cap' (wrapL op L) w2 hLD (hT' w2 hb2) (hlt w2 hb2) (by rw [hw]; exact he)
      rw [hw, hlw] at hm
      exact of_bad (some ⟨g, 0, none⟩) (L.length + 2) cap' e (by rw [beq_eq_false_iff_ne]; exact he) w2 hm
    by_cases hbig : 198 < L.length
    · refine nwraps_large o L.length cap a1 hbig h200 w (fun w' hb => ?_) (fun op w' hop hb => ?_)
      · refine (hOf w' hb).mono ?_
        rintro r w2 ⟨P, rfl, b2, _⟩
        exact ⟨P, rfl, b2⟩
      · exact hBad op 2 hop (by rw [(wrap_chk L hc hseg o11 op hop).2, if_pos hbig]) (by omega) w' hb
    · have hn : L.length ≤ 198 := by omega
      have hD := (wrap_chk L hc hseg o11 2 (Or.inl rfl)).1
      by_cases hd : D = 12
      · refine nwraps_deep o L.length cap a1 hn w (fun w' hb => ?_) (fun op w' hop hb => ?_)
        · refine (hOf w' hb).mono ?_
          rintro r w2 ⟨P, rfl, b2, hdp, _⟩
          rw [hd] at hdp
          exact ⟨P, rfl, b2, hdp⟩
        · exact hBad op 7 hop (by rw [(wrap_chk L hc hseg o11 op hop).2, if_neg hbig, if_pos hd]) (by omega) w' hb
      · refine nwraps_ok o L.length cap a1 hn D Z (by omega) (by omega) (by omega) (by omega) w hOf (fun op w' hop hb => ?_)
        have hw : nChk (wrapL op L) = 0 := by rw [(wrap_chk L hc hseg o11 op hop).2, if_neg hbig, if_neg hd]
        refine (hWr op w' hop hb).mono ?_
        rintro r w2 ⟨g, cap', rfl, hLD, b2⟩
        have hb2 := hb.trans (b2.mono hb.size)
        refine ⟨g, cap', rfl, b2, ?_⟩
        obtain ⟨D', Z', hs', o11', hof⟩ := of_any (some ⟨g, 0, none⟩) cap' (wrapL op L) w2 hLD (hT' w2 hb2) (hlt w2 hb2) hw
        obtain ⟨eD, eZ⟩ := wrap_nd L hc hseg o11 op hop hw hs' o11'
        rw [hlw] at hof
        refine hof.mono ?_
        rintro r w3 ⟨Q, rfl, htr, b3⟩
        have hsl : (segV (wrapL op L) 0 (L.length + 2 - 1)).length ≤ 1000 := by
          unfold segV
          simp
          omega
        refine ⟨Q, rfl, b3, fun w4 b4 => ?_, fun w4 b4 => ?_⟩
        · have := tdeep_any Q _ D' Z' hsl w4 (htr.under b4)
          rw [eD] at this
          exact this
        · have := tsize_any Q _ D' Z' hsl w4 (htr.under b4)
          rw [eZ] at this
          exact this
  · refine nwraps_bad o L.length cap a1 (nChk L) (by rw [beq_eq_false_iff_ne]; exact hc) w (fun w' hb => ?_) (fun w' hb => ncheck_any o cap L w' (h.below hb) (hT' w' hb) (hlt w' hb))
    exact of_bad o L.length cap (nChk L) (by rw [beq_eq_false_iff_ne]; exact hc) w' (match_bad o cap L w' (h.below hb) (hT' w' hb) (hlt w' hb) hc)

end Go.Proofs.YtmbficofcmfmlaaDoor
