/-
  FoldAgain: what is folded is folded; it is no longer than it was, and no deeper.
-/
import Derived.Test.YtkceplamaocmmaaDoorFD14
import Derived.Test.YtkceplamaocmmaaDoorRDeep
import Derived.Test.YtkceplamaocmmaaDoorRSame
namespace Go.Proofs.YtkceplamaocmmaaDoor
open Go.RowKit
set_option linter.unusedVariables false

set_option maxHeartbeats 4000000 in
set_option maxRecDepth 1000000 in
theorem fagain_bad (o : Option Addr) (cap n : Nat) (c : Int) (w : World) (hc : (c == 0) = false) (HB : Hid (Calls Tryd.prog 4 #[.slice o n cap] w fun r w' => r = .returned (.tuple #[.slice none 0 0, .int .i64 c]) ∧ Below w.heap.size w w')) :
    Calls Tryd.prog 3 #[.slice o n cap] w fun r w' => r = .returned (.bool true) ∧ Below w.heap.size w w' := by
  have hne2 : (c != 0) = true := by rw [bne, hc]; rfl
  go_enter Tryd.func3, Tryd.ntmps3
  go_wp2_with fail
  refine HB.out.mono ?_
  rintro r w1 ⟨rfl, b1⟩
  go_wp2
  go_ret
  exact ⟨rfl, b1⟩
set_option maxHeartbeats 8000000 in
set_option maxRecDepth 1000000 in
theorem fagain_ok (o : Option Addr) (cap : Nat) (L : List InsD) (w : World) (hF : FA w) (h : LD w o L) (hc : nChk L = 0) :
    Calls Tryd.prog 3 #[.slice o L.length cap] w fun r w' => r = .returned (.bool true) ∧ Below w.heap.size w w' := by
  have hb := fbody_ok o cap L w h hF hc
  have hn := (nChk_ok L hc).1
  have HB : Hid (type_of% hb) := hb
  have HLD : Hid (LD w o L) := h
  have HFA : Hid (FA w) := hF
  have HND : Hid (∀ W, Below w.heap.size w W → _) := fun W bb => rdeep_core o cap L.length L rfl hn (ndRun (L.map InsD.op) (0, 0, 0)) W (h.below bb) rfl
  obtain ⟨n, hnl⟩ : ∃ n, n = L.length := ⟨_, rfl⟩
  rw [← hnl] at HB HND hn ⊢
  have HN : Hid (n = L.length) := hnl
  clear hb h hF hc hnl
  go_enter Tryd.func3, Tryd.ntmps3
  go_wp2_with fail
  refine HB.out.mono ?_
  rintro r w1 ⟨M, ⟨⟨oM, cM, rfl, hlM, hcM, hcM2⟩, ⟨L', hL', hfo⟩, hfine, hshort, hnd, b1⟩⟩
  obtain ⟨m, hm⟩ : ∃ m, m = M.length := ⟨_, rfl⟩
  rw [← hm] at hcM hshort ⊢
  rw [← HN.out] at hshort
  have hmp := (nChk_ok M hfine.chk).2.2.2
  rw [← hm] at hmp
  have HB1 : Hid (Below w.heap.size w w1) := b1
  have HM : Hid (LD w1 oM M ∧ Fine M ∧ fstC M = none ∧ NdLe M L) := ⟨hlM, hfine, hfo.end, hnd⟩
  have HMM : Hid (m = M.length) := hm
  have HB2 : Hid (Calls Tryd.prog 4 #[.slice oM m cM] w1 fun r w' => ∃ N, BodyOut M w1 w' r N) := by
    rw [HMM.out]
    exact fbody_ok oM cM M w1 hlM (HFA.out.under b1) hfine.chk
  clear hlM hL' hfo hfine hnd b1 hm
  go_wp2_with fail
  refine HB2.out.mono ?_
  rintro r w2 ⟨N, ⟨⟨oN, cN, rfl, hlN, hcN, hcN2⟩, ⟨M', hM', hfo2⟩, hfine2, hshort2, hnd2, b2⟩⟩
  have hNM : N = M' := by
    cases hfo2 with
    | done _ _ => rfl
    | step _ i k I _ h r => rw [fstC_none hM'.symm HM.out.2.2.1] at h; cases h
  have hNv : M.map InsD.val = N.map InsD.val := by rw [hNM, hM']
  have hNl : N.length = m := by rw [HMM.out]; exact (val_len hNv).symm
  rw [hNl] at hcN ⊢
  have HB3 : Hid (Below w.heap.size w w2) := HB1.out.trans (b2.mono HB1.out.size)
  have HBX : Hid (Below w1.heap.size w1 w2) := b2
  have HNN : Hid (LD w2 oN N ∧ M.map InsD.val = N.map InsD.val ∧ N.length = m) := ⟨hlN, hNv, hNl⟩
  clear hlN hNM hNv hNl hfo2 hM' hfine2 hshort2 hnd2 b2
  obtain ⟨d1, d2, hd1⟩ : ∃ d1 d2, (ndRun (L.map InsD.op) (0, 0, 0)).2 = (d1, d2) := ⟨_, _, rfl⟩
  have HD : Hid ((ndRun (L.map InsD.op) (0, 0, 0)).2.1 = d1 ∧ (ndRun (L.map InsD.op) (0, 0, 0)).2.2 = d2) := by unfold Hid; rw [hd1]; exact ⟨rfl, rfl⟩
  have hd := HND.out w2 HB3.out
  rw [HD.out.1, HD.out.2] at hd
  have HND2 : Hid (type_of% hd) := hd
  clear hd hd1
  go_wp2_with fail
  refine HND2.out.mono ?_
  rintro r w3 ⟨rfl, b3⟩
  have HB4 : Hid (Below w.heap.size w w3) := HB3.out.trans (b3.mono HB3.out.size)
  have HB13 : Hid (Below w1.heap.size w1 w3) := HBX.out.trans (b3.mono HBX.out.size)
  have HB23 : Hid (Below w2.heap.size w2 w3) := b3
  obtain ⟨c1, c2, hc12⟩ : ∃ c1 c2, (ndRun (M.map InsD.op) (0, 0, 0)).2 = (c1, c2) := ⟨_, _, rfl⟩
  have HC : Hid ((ndRun (M.map InsD.op) (0, 0, 0)).2.1 = c1 ∧ (ndRun (M.map InsD.op) (0, 0, 0)).2.2 = c2) := by unfold Hid; rw [hc12]; exact ⟨rfl, rfl⟩
  have hle := HM.out.2.2.2 0 0 0 (Int.le_refl _)
  rw [HC.out.1, HC.out.2, HD.out.1, HD.out.2] at hle
  obtain ⟨hle1, hle2⟩ := hle
  have hd3 := rdeep_core oM cM m M HMM.out.symm (by omega) (ndRun (M.map InsD.op) (0, 0, 0)) w3 (HM.out.1.below HB13.out) rfl
  rw [HC.out.1, HC.out.2] at hd3
  have HND3 : Hid (type_of% hd3) := hd3
  clear b3 hd3 hc12
  go_wp2_with fail
  refine HND3.out.mono ?_
  rintro r w4 ⟨rfl, b4⟩
  have HB5 : Hid (Below w.heap.size w w4) := HB4.out.trans (b4.mono HB4.out.size)
  have HB14 : Hid (Below w1.heap.size w1 w4) := HB13.out.trans (b4.mono HB13.out.size)
  have HB24 : Hid (Below w2.heap.size w2 w4) := HB23.out.trans (b4.mono HB23.out.size)
  have hm0 : ((m : Int) == 0) = false := by rw [beq_eq_false_iff_ne]; omega
  have hg1 : decide ((n : Int) < (m : Int)) = false := decide_eq_false (by omega)
  have hg2 : decide (d1 < c1) = false := decide_eq_false (by omega)
  have hg3 : decide (d2 < c2) = false := decide_eq_false (by omega)
  clear b4 HB HB2 HND HND2 HND3
  go_wp2
  go_loopw [59] (fun iv wr => ∃ j : Nat, iv = .int .i64 (j : Int) ∧ j ≤ m ∧ Hid (Below w4.heap.size w4 wr)) (fun iv _ => m - (intOf iv).toNat)
  case atStart => exact ⟨0, rfl, by omega, Below.refl _ _⟩
  case round =>
    obtain ⟨j, rfl, hj, HW⟩ := hrel
    by_cases hlt : j < m
    · have hjl : j < M.length := by rw [← HMM.out]; exact hlt
      obtain ⟨b, f, rfl, hbw, hcl⟩ : ∃ b f, oM = some ⟨b, f, none⟩ ∧ b < w1.heap.size ∧ _ := by
        rcases HM.out.1.2 with h0 | h0
        · rw [h0] at hjl; simp at hjl
        · exact h0
      have hw := HB14.out.trans (HW.out.mono HB14.out.size)
      obtain ⟨m0, m1, m2, m3⟩ := hcl j hjl
      have e0 := (hw.cell (p := ⟨b, f + j * 4, none⟩) hbw).trans m0
      have e1 := (hw.cell (p := ⟨b, f + j * 4 + 1, none⟩) hbw).trans m1
      have e2 := (hw.cell (p := ⟨b, f + j * 4 + 2, none⟩) hbw).trans m2
      have e3 := (hw.cell (p := ⟨b, f + j * 4 + 3, none⟩) hbw).trans m3
      have hno := no_nop HM.out.2.1 HM.out.2.2.1 _ (List.getElem_mem hjl)
      clear m0 m1 m2 m3 hcl hw
      generalize M[j] = d at *
      have hno1 : (d.op == 1) = false := by rw [beq_eq_false_iff_ne]; exact hno
      have hj0 : (0 : Int) ≤ (j : Int) := by omega
      have hj1 : (j : Int) < (m : Int) := by omega
      have hsw := HW.out.size
      have HWB : Hid (Below w4.heap.size w4 (wr.alloc (.cells #[.int .u8 d.op, .int .i64 d.A, .int .i64 d.B, .slice d.o d.n d.cap] 30))) := HW.out.alloc hsw _
      clear hno
      go_wp2
      go_roundw
      case rel => exact ⟨j + 1, by go_num, by omega, HWB⟩
      case measure => simp [intOf]; omega
    · have hjm : j = m := by omega
      subst hjm
      have hs : Calls Tryd.prog 6 #[.slice oM j cM, .slice oN j cN] wr fun r w' => r = .returned (.bool true) ∧ Below wr.heap.size wr w' := by
        have := sameBody_any oM oN cM cN M N wr (HM.out.1.below (HB14.out.trans (HW.out.mono HB14.out.size))) (HNN.out.1.below (HB24.out.trans (HW.out.mono HB24.out.size))) (by rw [← HMM.out]; exact hcM) (by rw [HNN.out.2.2]; exact hcN) (by unfold maxLen; omega) HNN.out.2.1
        rw [← HMM.out, HNN.out.2.2] at this
        exact this
      have HS : Hid (type_of% hs) := hs
      have HE : Hid (Below w.heap.size w wr) := HB5.out.trans (HW.out.mono HB5.out.size)
      clear hs hlt
      go_wp2_with fail
      refine HS.out.mono ?_
      rintro r w5 ⟨rfl, b5⟩
      go_wp2
      go_ret
      exact ⟨rfl, HE.out.trans (b5.mono HE.out.size)⟩
theorem foldAgain_walk (o : Option Addr) (cap : Nat) (L : List InsD) (hcap : L.length ≤ cap) (hcm : cap ≤ maxLen) (w : World) (hT : TabIn w) (h : LD w o L) :
    Calls Tryd.prog 3 #[.slice o L.length cap] w fun r w' => r = .returned (.bool true) ∧ Below w.heap.size w w' := by
  have hF : FA w := ⟨hT, by
    have hc := hT 0 (by omega)
    rcases Nat.lt_or_ge 0 w.heap.size with h | h
    · exact h
    · simp [World.cell?, Array.getElem?_eq_none h] at hc⟩
  by_cases hc : nChk L = 0
  · exact fagain_ok o cap L w hF h hc
  · exact fagain_bad o cap L.length (nChk L) w (by rw [beq_eq_false_iff_ne]; exact hc) (fbody_bad o cap L w h hF hc)
end Go.Proofs.YtkceplamaocmmaaDoor
