/-
  The document's own marks.all: its rows grow.
-/
import Derived.Test.YtkceplamaocmmaaGreatDoorZRAll1
set_option maxHeartbeats 40000000
set_option maxRecDepth 1000000
namespace Go.Proofs.YtkceplamaocmmaaGreatDoor
set_option linter.unusedVariables false
open Go.RowKit
theorem some_lt' {w : World} {j : Nat} {x : Obj} (h : w.heap[j]? = some x) : j < w.heap.size := (Array.getElem?_eq_some_iff.1 h).1
theorem all_core (b f cap n P : Nat) (L : List InsD) (w wi : World) (hn : n ≤ 200) (hn0 : 0 < n) (_hcap : n ≤ cap) (hbw : b < w.heap.size) (HL : Hid (L.length = n)) (HA0 : Hid (AS w wi P n 0 none 0 none 0 (some ⟨b, f, none⟩) cap))
    (HC : Hid (∀ i (h : i < L.length), w.cell? ⟨b, f + i * 4, none⟩ = some (.int .u8 (L[i]).op) ∧ w.cell? ⟨b, f + i * 4 + 1, none⟩ = some (.int .i64 (L[i]).A) ∧ w.cell? ⟨b, f + i * 4 + 2, none⟩ = some (.int .i64 (L[i]).B) ∧ w.cell? ⟨b, f + i * 4 + 3, none⟩ = some (.slice (L[i]).o (L[i]).n (L[i]).cap)))
    (HCK : Hid (∀ d ∈ L, ∀ w', Below w.heap.size w w' → Calls Tryz.prog 58 #[.agg #[.int .u8 d.op, .int .i64 d.A, .int .i64 d.B, .slice d.o d.n d.cap]] w' fun r w'' => r = .returned (.int .i64 (chkD d)) ∧ Below w'.heap.size w' w''))
    (HSQ : Hid (∀ (gE gS cE cS : Nat) (wi : World), QS w wi P gE gS n cE cS (some ⟨b, f, none⟩) cap (List.replicate n (-1)) (List.replicate n (-1)) → Calls Tryz.prog 57 #[.pointer (some ⟨P, 0, none⟩), .int .i64 0, .int .i64 0] wi fun r w' => ∃ (e : Int) (j : Nat) (E' S' : List Int), Sq L 0 0 (List.replicate n (-1)) (List.replicate n (-1)) e j E' S' ∧ r = .returned (.tuple #[.int .i64 j, .int .i64 e]) ∧ QS w w' P gE gS n cE cS (some ⟨b, f, none⟩) cap E' S' ∧ KP gE gS wi w')) :
    Calls Tryz.prog 35 #[.pointer (some ⟨P, 0, none⟩)] wi fun r w' => r = .returned (.int .i64 (vd (nRun L [] false))) ∧ Below w.heap.size w w' ∧ (vd (nRun L [] false) = 0 → ∃ gE gS cE cS, QS w w' P gE gS n cE cS (some ⟨b, f, none⟩) cap (matchOf L).2.1 (matchOf L).2.2) := by
  obtain ⟨i0, hi, hz0, hz1, hz2⟩ := info_parts Tryz.infoInt
  have hni : (n : Int) ≤ 200 := by omega
  obtain ⟨p0, p1, p2, p3, p4⟩ := HA0.out.cells
  go_enter Tryz.func35, Tryz.ntmps35
  go_wp2
  clear p0 p1 p2 p3 p4
  go_loopw [11] (fun v wr => ∃ k cE cS : Nat, ∃ oE oS : Option Addr, v = .int .i64 k ∧ k ≤ n ∧ Hid (AS w wr P n k oE cE oS cS (some ⟨b, f, none⟩) cap)) (fun v _ => n - (intOf v).toNat)
  case atStart => exact ⟨0, 0, 0, none, none, rfl, by omega, HA0⟩
  case round =>
    obtain ⟨k, cE, cS, oE, oS, rfl, hk, HA⟩ := hrel
    obtain ⟨p0, p1, p2, p3, p4⟩ := HA.out.cells
    have hPl := HA.out.lt
    by_cases hlt : k < n
    · have hki0 : (0 : Int) ≤ (k : Int) := by omega
      have hki1 : (k : Int) < (n : Int) := by omega
      obtain ⟨hcE, hcEm⟩ := own_cap HA.out.ends
      obtain ⟨hcS, hcSm⟩ := own_cap HA.out.elses
      obtain ⟨W1, hW1⟩ : ∃ W, (wr.alloc (.cells #[.int .i64 (-1)] 3)).drew = W := ⟨_, rfl⟩
      obtain ⟨W2, hW2⟩ : ∃ W, ((wr.alloc (.cells #[.int .i64 (-1)] 3)).alloc (.cells #[.int .i64 (-1)] 3)).drew = W := ⟨_, rfl⟩
      have hA1 : AS w (wr.alloc (.cells #[.int .i64 (-1)] 3)) P n k oE cE oS cS (some ⟨b, f, none⟩) cap := HA.out.under ((Below.refl _ _).alloc (Nat.le_refl _) _)
      have HA1 : Hid (AS w W1 P n k oE cE oS cS (some ⟨b, f, none⟩) cap) := hW1 ▸ hA1.drew
      have HA2 : Hid (AS w W2 P n k oE cE oS cS (some ⟨b, f, none⟩) cap) := hW2 ▸ (hA1.under ((Below.refl _ _).alloc (Nat.le_refl _) _)).drew
      have HNB1 : Hid (W1.heap[wr.heap.size]? = some (.cells #[.int .i64 (-1)] 3 (0, 0))) := hW1 ▸ heap_alloc_new wr _
      have HNB2a : Hid (W2.heap[wr.heap.size]? = some (.cells #[.int .i64 (-1)] 3 (0, 0))) := by
        rw [← hW2]
        exact (Below.heap_alloc _ _ _ (by simp)).trans (heap_alloc_new wr _)
      have HNB2b : Hid (W2.heap[wr.heap.size + 1]? = some (.cells #[.int .i64 (-1)] 3 (0, 0))) := by
        rw [← hW2]
        have := heap_alloc_new (wr.alloc (.cells #[.int .i64 (-1)] 3)) (.cells #[.int .i64 (-1)] 3)
        rw [World.size_alloc] at this
        exact this
      have HFE : Hid (∀ j, wr.heap.size ≤ j → some j ≠ (Value.slice oE k cE).ownBlock) := fun j hj e => by
        have := (HA.out.ends.lt j e.symm).2
        omega
      have HF2a : Hid (∀ w5 row, W2.grownBy w5 row → some wr.heap.size ≠ row → w5.heap[wr.heap.size]? = some (.cells #[.int .i64 (-1)] 3 (0, 0))) := fun w5 row hg hne => by
        rw [hg.block _ (some_lt' HNB2a.out) hne]
        exact HNB2a.out
      have HF2b : Hid (∀ w5 row, W2.grownBy w5 row → some (wr.heap.size + 1) ≠ row → w5.heap[wr.heap.size + 1]? = some (.cells #[.int .i64 (-1)] 3 (0, 0))) := fun w5 row hg hne => by
        rw [hg.block _ (some_lt' HNB2b.out) hne]
        exact HNB2b.out
      have HW1 : Hid (type_of% hW1) := hW1
      have HW2 : Hid (type_of% hW2) := hW2
      clear HA HA0 hA1 hW1 hW2
      go_wp2
      go_region_law (first
        | (have hno := HWa5.out; rw [HWa5.out]; refine step_append_lies _ (by rfl) _ _ _ (by rfl) w.heap.size 3 i0 _ 1 8 Tryz.underlying49 hi hz0 hz1 hz2 rfl (by omega) (.slice oS k cS) k ((List.replicate k (-1 : Int)).map (Value.int .i64)) (by rfl) HMb.out.elses ⟨w5.heap.size, 0, none⟩ 1 1 [.int .i64 (-1)] (by rfl) (by rfl) (World.news_of_block (cs := #[.int .i64 (-1)]) (t := 3) (fr := (0, 0)) HNb.out) (by simp [Value.oneCell']) (by omega) (by unfold maxLen; omega) (by omega) HMb.out.below.size _ rfl ?_; intro g7 c7 w7 hown7 hgrow7 hat7 hlt7; have HM7 : Hid (AM w w7 P n k (k + 1) oE cE g5 c5 oS cS (some ⟨g7, 0, none⟩) c7 (some ⟨b, f, none⟩) cap) := HMb.out.app hgrow7 hown7 hat7; obtain ⟨s0, s1, s2, s3, s4⟩ := HM7.out.cells; have hP7 := HM7.out.lt; clear hgrow7 hown7 hat7 HM5 r0 r1 r2 r3 r4)
        | (have hno := HNBb5.out; refine step_append_lies _ (by rfl) _ _ _ (by rfl) w.heap.size 3 i0 _ 1 8 Tryz.underlying49 hi hz0 hz1 hz2 rfl (by omega) (.slice oS k cS) k ((List.replicate k (-1 : Int)).map (Value.int .i64)) (by rfl) HM5.out.elses ⟨wr.heap.size + 1, 0, none⟩ 1 1 [.int .i64 (-1)] (by rfl) (by rfl) (World.news_of_block (cs := #[.int .i64 (-1)]) (t := 3) (fr := (0, 0)) HNBb5.out) (by simp [Value.oneCell']) (by omega) (by unfold maxLen; omega) (by omega) HM5.out.below.size _ rfl ?_; intro g7 c7 w7 hown7 hgrow7 hat7 hlt7; have HM7 : Hid (AM w w7 P n k (k + 1) oE cE g5 c5 oS cS (some ⟨g7, 0, none⟩) c7 (some ⟨b, f, none⟩) cap) := HM5.out.app hgrow7 hown7 hat7; obtain ⟨s0, s1, s2, s3, s4⟩ := HM7.out.cells; have hP7 := HM7.out.lt; clear hgrow7 hown7 hat7 HM5 r0 r1 r2 r3 r4)
        | (have hno := HNBc5.out; refine step_append_lies _ (by rfl) _ _ _ (by rfl) w.heap.size 3 i0 _ 1 8 Tryz.underlying49 hi hz0 hz1 hz2 rfl (by omega) (.slice oS k cS) k ((List.replicate k (-1 : Int)).map (Value.int .i64)) (by rfl) HM5.out.elses ⟨wr.heap.size, 0, none⟩ 1 1 [.int .i64 (-1)] (by rfl) (by rfl) (World.news_of_block (cs := #[.int .i64 (-1)]) (t := 3) (fr := (0, 0)) HNBc5.out) (by simp [Value.oneCell']) (by omega) (by unfold maxLen; omega) (by omega) HM5.out.below.size _ rfl ?_; intro g7 c7 w7 hown7 hgrow7 hat7 hlt7; have HM7 : Hid (AM w w7 P n k (k + 1) oE cE g5 c5 oS cS (some ⟨g7, 0, none⟩) c7 (some ⟨b, f, none⟩) cap) := HM5.out.app hgrow7 hown7 hat7; obtain ⟨s0, s1, s2, s3, s4⟩ := HM7.out.cells; have hP7 := HM7.out.lt; clear hgrow7 hown7 hat7 HM5 r0 r1 r2 r3 r4)
        | ((fail_if_success (have hno := HM5.out)); rw [HW1.out]; refine step_append_lies _ (by rfl) _ _ _ (by rfl) w.heap.size 3 i0 _ 1 8 Tryz.underlying49 hi hz0 hz1 hz2 rfl (by omega) (.slice oE k cE) k ((List.replicate k (-1 : Int)).map (Value.int .i64)) (by rfl) HA1.out.ends ⟨wr.heap.size, 0, none⟩ 1 1 [.int .i64 (-1)] (by rfl) (by rfl) (World.news_of_block (cs := #[.int .i64 (-1)]) (t := 3) (fr := (0, 0)) HNB1.out) (by simp [Value.oneCell']) (by omega) (by unfold maxLen; omega) (by omega) HA1.out.below.size _ rfl ?_; intro g5 c5 w5 hown5 hgrow5 hat5 hlt5; have HM5 : Hid (AM w w5 P n k k oE cE g5 c5 oS cS oS cS (some ⟨b, f, none⟩) cap) := HA1.out.app hgrow5 hown5 hat5; obtain ⟨r0, r1, r2, r3, r4⟩ := HM5.out.cells; have hP5 := HM5.out.lt; obtain ⟨W5, hW5⟩ : ∃ W, w5.alloc (.cells #[.int .i64 (-1)] 3) = W := ⟨_, rfl⟩; have HWa5 : Hid (type_of% hW5) := hW5; have HMb : Hid (AM w W5 P n k k oE cE g5 c5 oS cS oS cS (some ⟨b, f, none⟩) cap) := hW5 ▸ (HM5.out.under ((Below.refl _ _).alloc (Nat.le_refl _) _)); have HNb : Hid (W5.heap[w5.heap.size]? = some (.cells #[.int .i64 (-1)] 3 (0, 0))) := hW5 ▸ (heap_alloc_new w5 _); clear hgrow5 hown5 hat5 hW5)
        | ((fail_if_success (have hno := HM5.out)); rw [HW2.out]; refine step_append_lies _ (by rfl) _ _ _ (by rfl) w.heap.size 3 i0 _ 1 8 Tryz.underlying49 hi hz0 hz1 hz2 rfl (by omega) (.slice oE k cE) k ((List.replicate k (-1 : Int)).map (Value.int .i64)) (by rfl) HA2.out.ends ⟨wr.heap.size, 0, none⟩ 1 1 [.int .i64 (-1)] (by rfl) (by rfl) (World.news_of_block (cs := #[.int .i64 (-1)]) (t := 3) (fr := (0, 0)) HNB2a.out) (by simp [Value.oneCell']) (by omega) (by unfold maxLen; omega) (by omega) HA2.out.below.size _ rfl ?_; intro g5 c5 w5 hown5 hgrow5 hat5 hlt5; have HM5 : Hid (AM w w5 P n k k oE cE g5 c5 oS cS oS cS (some ⟨b, f, none⟩) cap) := HA2.out.app hgrow5 hown5 hat5; obtain ⟨r0, r1, r2, r3, r4⟩ := HM5.out.cells; have hP5 := HM5.out.lt; have HNBb5 : Hid (w5.heap[wr.heap.size + 1]? = some (.cells #[.int .i64 (-1)] 3 (0, 0))) := HF2b.out w5 _ hgrow5 (HFE.out _ (by omega)); clear hgrow5 hown5 hat5)
        | ((fail_if_success (have hno := HM5.out)); rw [HW2.out]; refine step_append_lies _ (by rfl) _ _ _ (by rfl) w.heap.size 3 i0 _ 1 8 Tryz.underlying49 hi hz0 hz1 hz2 rfl (by omega) (.slice oE k cE) k ((List.replicate k (-1 : Int)).map (Value.int .i64)) (by rfl) HA2.out.ends ⟨wr.heap.size + 1, 0, none⟩ 1 1 [.int .i64 (-1)] (by rfl) (by rfl) (World.news_of_block (cs := #[.int .i64 (-1)]) (t := 3) (fr := (0, 0)) HNB2b.out) (by simp [Value.oneCell']) (by omega) (by unfold maxLen; omega) (by omega) HA2.out.below.size _ rfl ?_; intro g5 c5 w5 hown5 hgrow5 hat5 hlt5; have HM5 : Hid (AM w w5 P n k k oE cE g5 c5 oS cS oS cS (some ⟨b, f, none⟩) cap) := HA2.out.app hgrow5 hown5 hat5; obtain ⟨r0, r1, r2, r3, r4⟩ := HM5.out.cells; have hP5 := HM5.out.lt; have HNBc5 : Hid (w5.heap[wr.heap.size]? = some (.cells #[.int .i64 (-1)] 3 (0, 0))) := HF2a.out w5 _ hgrow5 (HFE.out _ (by omega)); clear hgrow5 hown5 hat5))
      all_goals
        go_wp2
        go_roundw
        case rel => exact ⟨k + 1, c5, c7, _, _, by go_num, by omega, HM7.out.done⟩
        case measure => simp [intOf]; omega
    · have hkn : n = k := by omega
      have hEf := HA.out.ends.form (by omega)
      have hSf := HA.out.elses.form (by omega)
      obtain ⟨gE, _, hvE, _, _⟩ := hEf
      obtain ⟨gS, _, hvS, _, _⟩ := hSf
      simp only [Value.slice.injEq] at hvE hvS
      obtain ⟨rfl, _, rfl⟩ := hvE
      obtain ⟨rfl, _, rfl⟩ := hvS
      subst hkn
      have HQ0 : Hid (QS w wr P gE gS n cE cS (some ⟨b, f, none⟩) cap (List.replicate n (-1)) (List.replicate n (-1))) := ⟨HA.out.ends, HA.out.elses, HA.out.es _ _ rfl rfl, HA.out.blk, (HA.out.farE _ rfl).symm, (HA.out.farS _ rfl).symm, HA.out.below⟩
      have HSQ1 := HSQ.out gE gS cE cS wr HQ0.out
      have HSQ2 : Hid (type_of% HSQ1) := HSQ1
      clear HSQ1 HA HA0 hlt HSQ
      go_wp2_with fail
      refine HSQ2.out.mono ?_
      rintro r w1 ⟨e, j, E', S', hsq, rfl, hq, _⟩
      have HQ1 : Hid (type_of% hq) := hq
      have HB1 : Hid (Below w.heap.size w w1) := hq.below
      have HS1 : Hid (type_of% hsq) := hsq
      obtain ⟨q0, q1, q2⟩ := hq.cells
      by_cases he : e = 0
      · subst he
        obtain ⟨_, hj, _, _⟩ := hsq.ok rfl
        rw [HL.out] at hj
        have hj0 : (0 : Int) ≤ (j : Int) := by omega
        have hj1 : (j : Int) < (n : Int) := by omega
        have hjl : j < L.length := by rw [HL.out]; exact hj
        obtain ⟨m0, _, _, _⟩ := HC.out j hjl
        have e0 := HB1.out.cell (p := ⟨b, f + j * 4, none⟩) hbw
        rw [m0] at e0
        have hop : opAt L j = (L[j]).op := opAt_get L j hjl
        have HO : Hid (type_of% hop) := hop
        clear hq hsq m0
        by_cases o5 : opAt L j = 5
        · rw [← hop, o5] at e0
          clear hop HO
          go_wp2
          go_ret
          exact ⟨by rw [all_turn HS1.out o5]; rfl, HB1.out, fun h => absurd h (by rw [all_turn HS1.out o5]; decide)⟩
        · have o5' : (L[j]).op ≠ 5 := by rw [← hop]; exact o5
          have ob : ((L[j]).op == 5) = false := by rw [beq_eq_false_iff_ne]; exact o5'
          generalize (L[j]).op = x at e0 ob HO
          clear hop o5'
          by_cases hlast : j + 1 = n
          · have hl1 : ((j : Int) == (n : Int) - 1) = true := by rw [beq_iff_eq]; omega
            have hok := all_ok (L := L) (by rw [HL.out]; exact HS1.out) o5 (by rw [HL.out]; exact hlast)
            have HOK : Hid (type_of% hok) := hok
            clear hok
            go_wp2
            go_ret
            refine ⟨by rw [HOK.out.1]; rfl, HB1.out, fun _ => ⟨gE, gS, cE, cS, ?_⟩⟩
            rw [HOK.out.2]
            exact HQ1.out
          · have hl1 : ((j : Int) == (n : Int) - 1) = false := by rw [beq_eq_false_iff_ne]; omega
            have hj2 : j + 1 < n := by omega
            have hk0 : (0 : Int) ≤ (j : Int) + 1 := by omega
            have hk1 : (j : Int) + 1 < (n : Int) := by omega
            have hjl2 : j + 1 < L.length := by rw [HL.out]; exact hj2
            obtain ⟨m0, m1, m2, m3⟩ := HC.out (j + 1) hjl2
            have a0 := HB1.out.cell (p := ⟨b, f + (j + 1) * 4, none⟩) hbw
            have a1 := HB1.out.cell (p := ⟨b, f + (j + 1) * 4 + 1, none⟩) hbw
            have a2 := HB1.out.cell (p := ⟨b, f + (j + 1) * 4 + 2, none⟩) hbw
            have a3 := HB1.out.cell (p := ⟨b, f + (j + 1) * 4 + 3, none⟩) hbw
            rw [m0] at a0
            rw [m1] at a1
            rw [m2] at a2
            rw [m3] at a3
            have hmore := all_more HS1.out o5 hjl2
            rw [chkAt_get L (j + 1) hjl2] at hmore
            have HMO : Hid (type_of% hmore) := hmore
            have HCd := HCK.out (L[j + 1]) (List.getElem_mem hjl2)
            have HCe : Hid (type_of% HCd) := HCd
            clear m0 m1 m2 m3 hmore HCd HC
            generalize L[j + 1] = d at a0 a1 a2 a3 HMO HCe
            go_wp2_with fail
            refine (HCe.out _ HB1.out).mono ?_
            rintro r w2 ⟨rfl, b2⟩
            have HB2 : Hid (Below w.heap.size w w2) := HB1.out.trans (b2.mono HB1.out.size)
            by_cases hc : chkD d = 0
            · rw [hc]
              have hv : vd (nRun L [] false) = 4 := by rw [HMO.out, if_pos hc]
              have HV : Hid (type_of% hv) := hv
              clear hv
              go_wp2
              go_ret
              exact ⟨by rw [HV.out]; rfl, HB2.out, fun h => absurd h (by rw [HV.out]; decide)⟩
            · have hv : vd (nRun L [] false) = chkD d := by rw [HMO.out, if_neg hc]
              have HV : Hid (type_of% hv) := hv
              generalize chkD d = y at hc HV
              have hb0 : (y == 0) = false := by rw [beq_eq_false_iff_ne]; exact hc
              have hn0 : (y != 0) = true := by rw [bne, hb0]; rfl
              clear hv
              go_wp2
              go_ret
              exact ⟨by rw [HV.out]; rfl, HB2.out, fun h => absurd h (by rw [HV.out]; exact hc)⟩
      · have hv := all_err hsq he
        have HV : Hid (type_of% hv) := hv
        have hb0 : (e == 0) = false := by rw [beq_eq_false_iff_ne]; exact he
        have hn0 : (e != 0) = true := by rw [bne, hb0]; rfl
        clear hv hq hsq
        go_wp2
        go_ret
        exact ⟨by rw [HV.out]; rfl, HB1.out, fun h => absurd h (by rw [HV.out]; exact he)⟩
end Go.Proofs.YtkceplamaocmmaaGreatDoor
