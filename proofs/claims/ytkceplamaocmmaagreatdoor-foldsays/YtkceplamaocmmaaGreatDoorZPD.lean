/-
  The rows of the document's own marks.
  The document's own seq: from block to block.
-/
import Derived.Test.YtkceplamaocmmaaGreatDoorZGSq
import Derived.Test.YtkceplamaocmmaaGreatDoorZGChk
import Derived.Test.YtkceplamaocmmaaGreatDoorZGMat
set_option maxHeartbeats 16000000
set_option maxRecDepth 1000000
namespace Go.Proofs.YtkceplamaocmmaaGreatDoor
set_option linter.unusedVariables false
open Go.RowKit
structure QS (w wr : World) (P gE gS n cE cS : Nat) (o : Option Addr) (cap : Nat) (E S : List Int) : Prop where
  ends : wr.ownsRow w.heap.size 3 1 (.slice (some ⟨gE, 0, none⟩) n cE) n (E.map (Value.int .i64))
  elses : wr.ownsRow w.heap.size 3 1 (.slice (some ⟨gS, 0, none⟩) n cS) n (S.map (Value.int .i64))
  es : gE ≠ gS
  blk : wr.heap[P]? = some (.cells #[.slice o n cap, .slice (some ⟨gE, 0, none⟩) n cE, .slice (some ⟨gS, 0, none⟩) n cS] 72 (0, 0))
  farE : P ≠ gE
  farS : P ≠ gS
  below : Below w.heap.size w wr
section
variable {w wr w' : World} {P gE gS n cE cS : Nat} {o : Option Addr} {cap : Nat} {E S : List Int}
theorem QS.under (h : QS w wr P gE gS n cE cS o cap E S) (b : Below wr.heap.size wr w') : QS w w' P gE gS n cE cS o cap E S :=
  ⟨own3_under h.ends b, own3_under h.elses b, h.es, by rw [b.block P (Array.getElem?_eq_some_iff.1 h.blk).1]; exact h.blk, h.farE, h.farS, h.below.trans (b.mono h.below.size)⟩
theorem QS.drew (h : QS w wr P gE gS n cE cS o cap E S) : QS w wr.drew P gE gS n cE cS o cap E S := ⟨h.ends, h.elses, h.es, h.blk, h.farE, h.farS, h.below.drew⟩
theorem QS.lenE (h : QS w wr P gE gS n cE cS o cap E S) : E.length = n := by have := h.ends.1; simpa using this
theorem QS.lenS (h : QS w wr P gE gS n cE cS o cap E S) : S.length = n := by have := h.elses.1; simpa using this
theorem QS.setE (h : QS w wr P gE gS n cE cS o cap E S) (j : Nat) (v : Int) : QS w (wr.setCell ⟨gE, j, none⟩ (.int .i64 v)) P gE gS n cE cS o cap (E.set j v) S := by
  refine ⟨?_, ?_, h.es, ?_, h.farE, h.farS, h.below.setCell (h.ends.lt gE rfl).1 _⟩
  · rw [List.map_set]
    exact (h.ends.stored j _).1
  · exact ownsRow_setCell_other h.elses (by simp [Value.ownBlock]; exact h.es.symm) _
  · have := h.farE.symm
    simp [World.setCell, Array.getElem?_modify, h.blk, this]
theorem QS.setS (h : QS w wr P gE gS n cE cS o cap E S) (j : Nat) (v : Int) : QS w (wr.setCell ⟨gS, j, none⟩ (.int .i64 v)) P gE gS n cE cS o cap E (S.set j v) := by
  refine ⟨?_, ?_, h.es, ?_, h.farE, h.farS, h.below.setCell (h.elses.lt gS rfl).1 _⟩
  · exact ownsRow_setCell_other h.ends (by simp [Value.ownBlock]; exact h.es) _
  · rw [List.map_set]
    exact (h.elses.stored j _).1
  · have := h.farS.symm
    simp [World.setCell, Array.getElem?_modify, h.blk, this]
theorem QS.cellE (h : QS w wr P gE gS n cE cS o cap E S) (j : Nat) (hj : j < n) : wr.cell? ⟨gE, j, none⟩ = some (.int .i64 (E.getD j 0)) ∧ wr.frozen? ⟨gE, j, none⟩ = false := by
  refine ⟨?_, h.ends.frozenAt j⟩
  rw [h.ends.cellAt j (by omega), List.getElem?_map, List.getElem?_eq_getElem (by rw [h.lenE]; exact hj), List.getD_eq_getElem?_getD, List.getElem?_eq_getElem (by rw [h.lenE]; exact hj)]
  rfl
theorem QS.cellS (h : QS w wr P gE gS n cE cS o cap E S) (j : Nat) (hj : j < n) : wr.cell? ⟨gS, j, none⟩ = some (.int .i64 (S.getD j 0)) ∧ wr.frozen? ⟨gS, j, none⟩ = false := by
  refine ⟨?_, h.elses.frozenAt j⟩
  rw [h.elses.cellAt j (by omega), List.getElem?_map, List.getElem?_eq_getElem (by rw [h.lenS]; exact hj), List.getD_eq_getElem?_getD, List.getElem?_eq_getElem (by rw [h.lenS]; exact hj)]
  rfl
theorem QS.cells (h : QS w wr P gE gS n cE cS o cap E S) : wr.cell? ⟨P, 0, none⟩ = some (.slice o n cap) ∧ wr.cell? ⟨P, 1, none⟩ = some (.slice (some ⟨gE, 0, none⟩) n cE) ∧ wr.cell? ⟨P, 2, none⟩ = some (.slice (some ⟨gS, 0, none⟩) n cS) := by
  refine ⟨?_, ?_, ?_⟩ <;> simp [World.cell?, h.blk]
end
structure KP (gE gS : Nat) (a b : World) : Prop where
  size : a.heap.size ≤ b.heap.size
  block : ∀ g, g < a.heap.size → g ≠ gE → g ≠ gS → b.heap[g]? = a.heap[g]?
theorem KP.refl (gE gS : Nat) (a : World) : KP gE gS a a := ⟨Nat.le_refl _, fun _ _ _ _ => rfl⟩
theorem KP.trans {gE gS : Nat} {a b c : World} (h : KP gE gS a b) (k : KP gE gS b c) : KP gE gS a c := ⟨Nat.le_trans h.size k.size, fun g h1 h2 h3 => (k.block g (Nat.lt_of_lt_of_le h1 h.size) h2 h3).trans (h.block g h1 h2 h3)⟩
theorem KP.of {gE gS : Nat} {a b : World} (h : Below a.heap.size a b) : KP gE gS a b := ⟨h.size, fun g h1 _ _ => h.block g h1⟩
theorem KP.drew {gE gS : Nat} {a b : World} (h : KP gE gS a b) : KP gE gS a b.drew := ⟨h.size, h.block⟩
theorem KP.setE {gE gS : Nat} {a b : World} (h : KP gE gS a b) (j : Nat) (v : Value) : KP gE gS a (b.setCell ⟨gE, j, none⟩ v) := by
  refine ⟨by rw [World.size_setCell]; exact h.size, fun g h1 h2 h3 => ?_⟩
  rw [← h.block g h1 h2 h3]
  simp [World.setCell, Array.getElem?_modify, h2.symm]
theorem KP.setS {gE gS : Nat} {a b : World} (h : KP gE gS a b) (j : Nat) (v : Value) : KP gE gS a (b.setCell ⟨gS, j, none⟩ v) := by
  refine ⟨by rw [World.size_setCell]; exact h.size, fun g h1 h2 h3 => ?_⟩
  rw [← h.block g h1 h2 h3]
  simp [World.setCell, Array.getElem?_modify, h3.symm]
end Go.Proofs.YtkceplamaocmmaaGreatDoor
namespace Go.Proofs.YtkceplamaocmmaaGreatDoor
set_option linter.unusedVariables false
open Go.RowKit
theorem seq_core (b f cap n P gE gS cE cS : Nat) (L : List InsD) (w : World) (hl : L.length = n) (hn : n ≤ 200) (_hcap : n ≤ cap) (h : LD w (some ⟨b, f, none⟩) L) (hbw : b < w.heap.size)
    (HCK : Hid (∀ d ∈ L, ∀ w', Below w.heap.size w w' → Calls Tryz.prog 58 #[.agg #[.int .u8 d.op, .int .i64 d.A, .int .i64 d.B, .slice d.o d.n d.cap]] w' fun r w'' => r = .returned (.int .i64 (chkD d)) ∧ Below w'.heap.size w' w''))
    (i dp : Nat) (E S : List Int) (wi : World) (hi : i ≤ n) (hd : dp ≤ 12) (HQ0 : Hid (QS w wi P gE gS n cE cS (some ⟨b, f, none⟩) cap E S))
    (HS : Hid (∀ (i' dp' : Nat) (x y : Int) (E S : List Int) (wi : World), x = (i' : Int) → y = (dp' : Int) → i < i' → i' ≤ n → dp' ≤ 12 → QS w wi P gE gS n cE cS (some ⟨b, f, none⟩) cap E S → Calls Tryz.prog 57 #[.pointer (some ⟨P, 0, none⟩), .int .i64 x, .int .i64 y] wi fun r w' => ∃ (e : Int) (j : Nat) (E' S' : List Int), Sq L i' dp' E S e j E' S' ∧ r = .returned (.tuple #[.int .i64 j, .int .i64 e]) ∧ QS w w' P gE gS n cE cS (some ⟨b, f, none⟩) cap E' S' ∧ KP gE gS wi w')) :
    Calls Tryz.prog 57 #[.pointer (some ⟨P, 0, none⟩), .int .i64 i, .int .i64 dp] wi fun r w' => ∃ (e : Int) (j : Nat) (E' S' : List Int), Sq L i dp E S e j E' S' ∧ r = .returned (.tuple #[.int .i64 j, .int .i64 e]) ∧ QS w w' P gE gS n cE cS (some ⟨b, f, none⟩) cap E' S' ∧ KP gE gS wi w' := by
  have HLn : Hid (L.length = n) := hl
  have HLD : Hid (LD w (some ⟨b, f, none⟩) L) := h
  clear hl h
  have hni : (n : Int) ≤ 200 := by omega
  have hdi : (dp : Int) ≤ 12 := by omega
  have HK0 : Hid (∀ (e : Int) (j : Nat) (E' S' : List Int), Sq L i dp E S e j E' S' → Sq L i dp E S e j E' S') := fun _ _ _ _ h => h
  have HP0 : Hid (KP gE gS wi wi) := KP.refl _ _ _
  go_enter Tryz.func57, Tryz.ntmps57
  go_wp2
  go_loopw [1] (fun v wr => ∃ k : Nat, ∃ E1 S1 : List Int, v = .int .i64 k ∧ i ≤ k ∧ k ≤ n ∧ Hid (QS w wr P gE gS n cE cS (some ⟨b, f, none⟩) cap E1 S1) ∧ Hid (KP gE gS wi wr) ∧ Hid (∀ (e : Int) (j : Nat) (E' S' : List Int), Sq L k dp E1 S1 e j E' S' → Sq L i dp E S e j E' S')) (fun v _ => n - (intOf v).toNat)
  case atStart => exact ⟨i, E, S, rfl, Nat.le_refl _, hi, HQ0, HP0, HK0⟩
  case round =>
    obtain ⟨k, E1, S1, rfl, hik, hk, HQ, HP, HK⟩ := hrel
    clear HQ0 HP0 HK0
    obtain ⟨p0, p1, p2⟩ := HQ.out.cells
    by_cases hlt : k < n
    · have hkl : k < L.length := by rw [HLn.out]; exact hlt
      have hmem : L[k] ∈ L := List.getElem_mem hkl
      have hcs : ∀ j, j < n → w.cell? ⟨b, f + j * 4, none⟩ = some (.int .u8 (opAt L j)) := by
        intro j hj
        obtain ⟨b', f', e, h⟩ := HLD.out.cellOp j (by rw [HLn.out]; exact hj)
        simp only [Option.some.injEq, Addr.mk.injEq] at e
        obtain ⟨rfl, rfl, _⟩ := e
        exact h
      have HCS : Hid (type_of% hcs) := hcs
      have hcell : ∀ (hkl : k < L.length), w.cell? ⟨b, f + k * 4, none⟩ = some (.int .u8 (L[k]).op) ∧ w.cell? ⟨b, f + k * 4 + 1, none⟩ = some (.int .i64 (L[k]).A) ∧ w.cell? ⟨b, f + k * 4 + 2, none⟩ = some (.int .i64 (L[k]).B) ∧ w.cell? ⟨b, f + k * 4 + 3, none⟩ = some (.slice (L[k]).o (L[k]).n (L[k]).cap) := by
        intro hkl
        rcases HLD.out.2 with h0 | ⟨b', f', e, _, hc⟩
        · exfalso; rw [h0] at hkl; simp at hkl
        · simp only [Option.some.injEq, Addr.mk.injEq] at e
          obtain ⟨rfl, rfl, _⟩ := e
          exact hc k hkl
      obtain ⟨m0, m1, m2, m3⟩ := hcell hkl
      have HCd := HCK.out _ hmem
      have hok := HLD.out.1 _ hmem
      have hop0 := hok.op0
      have hop1 := hok.op1
      have hopk := opAt_get L k hkl
      have hckk := chkAt_get L k hkl
      have e0 := HQ.out.below.cell (p := ⟨b, f + k * 4, none⟩) hbw
      have e1 := HQ.out.below.cell (p := ⟨b, f + k * 4 + 1, none⟩) hbw
      have e2 := HQ.out.below.cell (p := ⟨b, f + k * 4 + 2, none⟩) hbw
      have e3 := HQ.out.below.cell (p := ⟨b, f + k * 4 + 3, none⟩) hbw
      rw [m0] at e0
      rw [m1] at e1
      rw [m2] at e2
      rw [m3] at e3
      generalize L[k] = d at e0 e1 e2 e3 HCd hopk hckk hop0 hop1
      clear hcs hcell m0 m1 m2 m3 hmem hok
      have HCd2 : Hid (type_of% HCd) := HCd
      clear HCd
      have hki0 : (0 : Int) ≤ (k : Int) := by omega
      have hki1 : (k : Int) < (n : Int) := by omega
      obtain ⟨opd, hopd⟩ : ∃ x, d.op = x := ⟨_, rfl⟩
      obtain ⟨c, hcd⟩ : ∃ x, chkD d = x := ⟨_, rfl⟩
      rw [hopd] at e0 hopk HCd2 hop0 hop1
      rw [hcd] at hckk HCd2
      have hQa := HQ.out.under ((Below.refl wr.heap.size wr).alloc (Nat.le_refl _) (.cells #[.int .u8 opd, .int .i64 d.A, .int .i64 d.B, .slice d.o d.n d.cap] 34))
      have hPa := HP.out.trans (KP.of (gE := gE) (gS := gS) ((Below.refl wr.heap.size wr).alloc (Nat.le_refl _) (.cells #[.int .u8 opd, .int .i64 d.A, .int .i64 d.B, .slice d.o d.n d.cap] 34)))
      have gEl : gE < wr.heap.size := (HQ.out.ends.lt gE rfl).2
      have gSl : gS < wr.heap.size := (HQ.out.elses.lt gS rfl).2
      have HQa : Hid (type_of% hQa) := hQa
      have HPa : Hid (type_of% hPa) := hPa
      clear hQa hPa HQ HP hopd hcd
      go_wp2_with fail
      refine (HCd2.out _ HQa.out.below).mono ?_
      rintro r w1 ⟨rfl, b1⟩
      have hx : w1.heap[wr.heap.size]? = some (.cells #[.int .u8 opd, .int .i64 d.A, .int .i64 d.B, .slice d.o d.n d.cap] 34 (0, 0)) := by
        rw [b1.block _ (by rw [World.size_alloc]; omega)]
        exact new_block _ _
      have hxl : wr.heap.size < w1.heap.size := (Array.getElem?_eq_some_iff.1 hx).1
      have hxc : w1.cell? ⟨wr.heap.size, 0, none⟩ = some (.int .u8 opd) := by simp [World.cell?, hx]
      have HQ1 : Hid (QS w w1 P gE gS n cE cS (some ⟨b, f, none⟩) cap E1 S1) := HQa.out.under b1
      have HP1 : Hid (KP gE gS wi w1) := HPa.out.trans (KP.of b1)
      have HX : Hid (type_of% hx) := hx
      clear b1 HQa HPa HCd2 hx e0 e1 e2 e3 p0 p1 p2
      by_cases hc0 : c = 0
      · subst hc0
        by_cases h5 : opd = 5
        · subst h5
          go_wp2
          go_ret2
          exact ⟨0, k, E1, S1, HK.out _ _ _ _ (Sq.stop k dp E1 S1 hkl hckk (Or.inl hopk)), rfl, HQ1.out, HP1.out⟩
        by_cases h11 : opd = 11
        · subst h11
          go_wp2
          go_ret2
          exact ⟨0, k, E1, S1, HK.out _ _ _ _ (Sq.stop k dp E1 S1 hkl hckk (Or.inr hopk)), rfl, HQ1.out, HP1.out⟩
        have b5 : (opd == 5) = false := by rw [beq_eq_false_iff_ne]; exact h5
        have b11 : (opd == 11) = false := by rw [beq_eq_false_iff_ne]; exact h11
        by_cases hlo : opd < 2
        · have HK2 : Hid (∀ (e : Int) (j : Nat) (E' S' : List Int), Sq L (k + 1) dp E1 S1 e j E' S' → Sq L i dp E S e j E' S') := fun e j E' S' hs => HK.out _ _ _ _ (Sq.skip k dp E1 S1 e j E' S' hkl hckk (by rw [hopk]; exact h5) (by rw [hopk]; exact h11) (by rw [hopk]; unfold isO; omega) hs)
          go_wp2
          go_roundw
          case rel => exact ⟨k + 1, E1, S1, by go_num, by omega, by omega, HQ1, HP1, HK2⟩
          case measure => simp [intOf]; omega
        by_cases hhi : 4 < opd
        · have HK2 : Hid (∀ (e : Int) (j : Nat) (E' S' : List Int), Sq L (k + 1) dp E1 S1 e j E' S' → Sq L i dp E S e j E' S') := fun e j E' S' hs => HK.out _ _ _ _ (Sq.skip k dp E1 S1 e j E' S' hkl hckk (by rw [hopk]; exact h5) (by rw [hopk]; exact h11) (by rw [hopk]; unfold isO; omega) hs)
          have hlo2 : 2 ≤ opd := by omega
          go_wp2
          go_roundw
          case rel => exact ⟨k + 1, E1, S1, by go_num, by omega, by omega, HQ1, HP1, HK2⟩
          case measure => simp [intOf]; omega
        have hO : isO opd := by unfold isO; omega
        by_cases hd12 : dp = 12
        · subst hd12
          rcases hO with rfl | rfl | rfl
          all_goals
            go_wp2
            go_ret2
            exact ⟨7, 0, E1, S1, HK.out _ _ _ _ (Sq.deep k 12 E1 S1 hkl hckk (by rw [hopk]; unfold isO; omega) rfl), rfl, HQ1.out, HP1.out⟩
        have hdi2 : (dp : Int) < 12 := by omega
        have hdne : ((dp : Int) == 12) = false := by rw [beq_eq_false_iff_ne]; omega
        have hOk : isO (opAt L k) := by rw [hopk]; exact hO
        have HHX : Hid (∀ w2, KP gE gS w1 w2 → w2.cell? ⟨wr.heap.size, 0, none⟩ = some (.int .u8 opd)) := fun w2 kp => by
          have : w2.heap[wr.heap.size]? = some (.cells #[.int .u8 opd, .int .i64 d.A, .int .i64 d.B, .slice d.o d.n d.cap] 34 (0, 0)) := by
            rw [kp.block _ hxl (by omega) (by omega)]
            exact HX.out
          simp [World.cell?, this]
        have HCal := HS.out (k + 1) (dp + 1) ((k : Int) + 1) ((dp : Int) + 1) E1 S1 w1 (by omega) (by omega) (by omega) (by omega) (by omega) HQ1.out
        have HCa : Hid (type_of% HCal) := HCal
        clear HCal HX
        have hlo2 : 2 ≤ opd := by omega
        have hhi2 : opd ≤ 4 := by omega
        have glt : ¬ opd < 2 := hlo
        go_wp2_with fail
        refine HCa.out.mono ?_
        rintro r w2 ⟨e, j, E2, S2, hsq, rfl, q2, k2⟩
        have HQ2 : Hid (QS w w2 P gE gS n cE cS (some ⟨b, f, none⟩) cap E2 S2) := q2
        have HP2 : Hid (KP gE gS wi w2) := HP1.out.trans k2
        have hx2 := HHX.out w2 k2
        have HK12 : Hid (KP gE gS w1 w2) := k2
        clear q2 k2 HCa HQ1 HP1 hxc
        by_cases he : e = 0
        · subst he
          obtain ⟨aj, hj, cj, oj⟩ := hsq.ok rfl
          have hjn : j < n := by rw [← HLn.out]; exact hj
          have hji0 : (0 : Int) ≤ (j : Int) := by omega
          have hji1 : (j : Int) < (n : Int) := by omega
          have lj := HQ2.out.below.cell (p := ⟨b, f + j * 4, none⟩) hbw
          rw [HCS.out j hjn] at lj
          obtain ⟨p0, p1, p2⟩ := HQ2.out.cells
          rcases oj with oj | oj
          · rw [oj] at lj
            by_cases h4 : opd = 4
            · subst h4
              have HCal := HS.out (j + 1) (dp + 1) ((j : Int) + 1) ((dp : Int) + 1) E2 S2 w2 (by omega) (by omega) (by omega) (by omega) (by omega) HQ2.out
              have HCa : Hid (type_of% HCal) := HCal
              clear HCal HS
              go_wp2_with fail
              refine HCa.out.mono ?_
              rintro r w3 ⟨e, j2, E3, S3, hsq2, rfl, q3, k3⟩
              have HQ3 : Hid (QS w w3 P gE gS n cE cS (some ⟨b, f, none⟩) cap E3 S3) := q3
              have HP3 : Hid (KP gE gS wi w3) := HP2.out.trans k3
              clear q3 k3 HCa HQ2 HP2 p0 p1 p2 lj hx2 HHX HK12
              by_cases he : e = 0
              · subst he
                obtain ⟨aj2, hj2, cj2, oj2⟩ := hsq2.ok rfl
                have hjn2 : j2 < n := by rw [← HLn.out]; exact hj2
                have hji20 : (0 : Int) ≤ (j2 : Int) := by omega
                have hji21 : (j2 : Int) < (n : Int) := by omega
                have lj := HQ3.out.below.cell (p := ⟨b, f + j2 * 4, none⟩) hbw
                rw [HCS.out j2 hjn2] at lj
                obtain ⟨p0, p1, p2⟩ := HQ3.out.cells
                rcases oj2 with oj2 | oj2
                · rw [oj2] at lj
                  go_wp2
                  go_ret2
                  exact ⟨4, 0, E3, S3, HK.out _ _ _ _ (Sq.form2 k dp E1 S1 j E2 S2 j2 E3 S3 hkl hckk hopk hd12 hsq oj hsq2 oj2), rfl, HQ3.out, HP3.out⟩
                · rw [oj2] at lj
                  have HK2 : Hid (∀ (e : Int) (j' : Nat) (E' S' : List Int), Sq L (j2 + 1) dp (((E3.set k (j2 : Int)).set j2 (k : Int)).set j (j2 : Int)) ((S3.set k (j : Int)).set j (k : Int)) e j' E' S' → Sq L i dp E S e j' E' S') := fun e j' E' S' hs => HK.out _ _ _ _ (Sq.turn k dp E1 S1 j E2 S2 j2 E3 S3 e j' E' S' hkl hckk hopk hd12 hsq oj hsq2 (by rw [oj2]; decide) hs)
                  have q4 := HQ3.out.setE k j2
                  have q5 := (q4.setE j2 k).drew
                  obtain ⟨c1, z1⟩ := HQ3.out.cellE k hlt
                  obtain ⟨c2, z2⟩ := q4.cellE j2 hjn2
                  obtain ⟨c3, z3⟩ := HQ3.out.cellE j2 hjn2
                  have HQ5 : Hid (type_of% q5) := q5
                  have HP5 : Hid (type_of% ((HP3.out.setE k (.int .i64 (j2 : Int))).setE j2 (.int .i64 (k : Int))).drew) := ((HP3.out.setE k (.int .i64 (j2 : Int))).setE j2 (.int .i64 (k : Int))).drew
                  clear q4 q5 HQ3 HP3
                  go_wp2
                  go_region
                  all_goals
                    generalize hw5 : World.drew _ = w5 at HQ5 HP5 ⊢
                    clear c1 c2 c3 z1 z2 z3 p0 p1 p2 lj hw5
                    obtain ⟨p0, p1, p2⟩ := HQ5.out.cells
                    have q6 := HQ5.out.setS k j
                    have q7 := q6.setS j k
                    have q8 := (q7.setE j j2).drew
                    obtain ⟨c1, z1⟩ := HQ5.out.cellS k hlt
                    obtain ⟨c2, z2⟩ := q6.cellS j hjn
                    obtain ⟨c3, z3⟩ := q7.cellE j hjn
                    obtain ⟨c4, z4⟩ := HQ5.out.cellS j hjn
                    obtain ⟨c5, z5⟩ := HQ5.out.cellE j hjn
                    have HQ8 : Hid (type_of% q8) := q8
                    have HP8 : Hid (type_of% (((HP5.out.setS k (.int .i64 (j : Int))).setS j (.int .i64 (k : Int))).setE j (.int .i64 (j2 : Int))).drew) := (((HP5.out.setS k (.int .i64 (j : Int))).setS j (.int .i64 (k : Int))).setE j (.int .i64 (j2 : Int))).drew
                    clear q6 q7 q8 HQ5 HP5
                    go_wp2
                    go_region
                    all_goals
                      go_wp2
                      go_roundw
                      case rel => exact ⟨j2 + 1, _, _, by go_num, by omega, by omega, HQ8, HP8, HK2⟩
                      case measure => simp [intOf]; omega
              · have hb0 : (e == 0) = false := by rw [beq_eq_false_iff_ne]; exact he
                have hn0 : (e != 0) = true := by rw [bne, hb0]; rfl
                go_wp2
                go_ret2
                exact ⟨e, 0, E3, S3, HK.out _ _ _ _ (Sq.fail2 k dp E1 S1 j E2 S2 e j2 E3 S3 hkl hckk hopk hd12 hsq oj hsq2 he), rfl, HQ3.out, HP3.out⟩
            · have b4 : (opd == 4) = false := by rw [beq_eq_false_iff_ne]; exact h4
              go_wp2
              go_ret2
              exact ⟨4, 0, E2, S2, HK.out _ _ _ _ (Sq.form1 k dp E1 S1 j E2 S2 hkl hckk hOk hd12 hsq oj (by rw [hopk]; exact h4)), rfl, HQ2.out, HP2.out⟩
          · rw [oj] at lj
            have HK2 : Hid (∀ (e : Int) (j' : Nat) (E' S' : List Int), Sq L (j + 1) dp ((E2.set k (j : Int)).set j (k : Int)) S2 e j' E' S' → Sq L i dp E S e j' E' S') := fun e j' E' S' hs => HK.out _ _ _ _ (Sq.block k dp E1 S1 j E2 S2 e j' E' S' hkl hckk hOk hd12 hsq (by rw [oj]; decide) hs)
            have q4 := HQ2.out.setE k j
            have q5 := (q4.setE j k).drew
            obtain ⟨c1, z1⟩ := HQ2.out.cellE k hlt
            obtain ⟨c2, z2⟩ := q4.cellE j hjn
            obtain ⟨c3, z3⟩ := HQ2.out.cellE j hjn
            have HQ5 : Hid (type_of% q5) := q5
            have HP5 : Hid (type_of% ((HP2.out.setE k (.int .i64 (j : Int))).setE j (.int .i64 (k : Int))).drew) := ((HP2.out.setE k (.int .i64 (j : Int))).setE j (.int .i64 (k : Int))).drew
            clear q4 q5 HQ2 HP2 HK12 HHX HS
            go_wp2
            go_region
            all_goals
              go_wp2
              go_roundw
              case rel => exact ⟨j + 1, _, _, by go_num, by omega, by omega, HQ5, HP5, HK2⟩
              case measure => simp [intOf]; omega
        · have hb0 : (e == 0) = false := by rw [beq_eq_false_iff_ne]; exact he
          have hn0 : (e != 0) = true := by rw [bne, hb0]; rfl
          go_wp2
          go_ret2
          exact ⟨e, 0, E2, S2, HK.out _ _ _ _ (Sq.fail1 k dp E1 S1 e j E2 S2 hkl hckk hOk hd12 he hsq), rfl, HQ2.out, HP2.out⟩
      · have hb0 : (c == 0) = false := by rw [beq_eq_false_iff_ne]; exact hc0
        have hn0 : (c != 0) = true := by rw [bne, hb0]; rfl
        go_wp2
        go_ret2
        refine ⟨c, 0, E1, S1, HK.out _ _ _ _ ?_, rfl, HQ1.out, HP1.out⟩
        have := Sq.bad (L := L) k dp E1 S1 hkl (by rw [hckk]; exact hc0)
        rw [hckk] at this
        exact this
    · have hkn : (k : Int) = (n : Int) := by omega
      go_wp2
      go_ret2
      exact ⟨3, 0, E1, S1, HK.out _ _ _ _ (Sq.short k dp E1 S1 (by rw [HLn.out]; omega)), rfl, HQ.out, HP.out⟩
end Go.Proofs.YtkceplamaocmmaaGreatDoor
