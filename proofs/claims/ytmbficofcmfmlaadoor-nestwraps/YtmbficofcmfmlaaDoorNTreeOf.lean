/-
  What the program's own Of, Flat, Deep and Size do.
-/
import Derived.Test.YtmbficofcmfmlaaDoorGGrow
import Derived.Test.YtmbficofcmfmlaaDoorGFlat
import Derived.Test.YtmbficofcmfmlaaDoorNDeep
import Derived.Test.YtmbficofcmfmlaaDoorNSize
import Derived.Test.YtmbficofcmfmlaaDoorGMat
import Derived.Test.YtmbficofcmfmlaaDoorNWr2
namespace Go.Proofs.YtmbficofcmfmlaaDoor
open Go.RowKit

/-- A tree in memory: what it is as a list without its end, how deep it is, how many blocks it has. -/
def TR (w : World) (T : Nat) (V : List V4) (D Z : Nat) : Prop := ∃ (F : Nat → Prop) (o : Option Addr) (k cap : Nat) (cs : List Value), w.heap[T]? = some (.cells #[.slice o k cap] 80 (0, 0)) ∧ RowP w F o k cap cs ∧ PL w F cs V D Z
theorem TR.under {w w' : World} {T : Nat} {V : List V4} {D Z : Nat} (h : TR w T V D Z) (b : Below w.heap.size w w') : TR w' T V D Z := by
  obtain ⟨F, o, k, cap, cs, h1, h2, h3⟩ := h
  exact ⟨F, o, k, cap, cs, (b.block _ (some_lt h1)).trans h1, h2.under b, h3.under b⟩
set_option maxHeartbeats 4000000 in
set_option maxRecDepth 1000000 in
theorem of_bad (o : Option Addr) (n cap : Nat) (e : Int) (_he : (e == 0) = false) (w : World) (HM : Hid (Calls Tryd.prog 9 #[.slice o n cap] w fun r w' => r = .returned (.tuple #[.slice none 0 0, .slice none 0 0, .int .i64 e]) ∧ Below w.heap.size w w')) :
    Calls Tryd.prog 18 #[.slice o n cap] w fun r w' => r = .returned (.tuple #[.pointer none, .int .i64 e]) ∧ Below w.heap.size w w' := by
  have hne : (e != 0) = true := by rw [bne, _he]; rfl
  go_enter Tryd.func18, Tryd.ntmps18
  go_wp2_with fail
  refine HM.out.mono ?_
  rintro r w1 ⟨rfl, b1⟩
  go_wp2
  go_ret2
  exact ⟨rfl, b1⟩
set_option maxHeartbeats 4000000 in
set_option maxRecDepth 1000000 in
theorem of_core (o : Option Addr) (n cap : Nat) (V : List V4) (D Z : Nat) (_hn : 0 < n) (_hn2 : n ≤ 200) (w : World)
    (HM : Hid (Calls Tryd.prog 9 #[.slice o n cap] w fun r w1 => ∃ gE gS, r = .returned (.tuple #[.slice (some ⟨gE, 0, none⟩) n n, .slice (some ⟨gS, 0, none⟩) n n, .int .i64 0]) ∧ Below w.heap.size w w1 ∧ Hid (∀ (x : Int) w', x = (n : Int) - 1 → Below w1.heap.size w1 w' → Calls Tryd.prog 38 #[.agg #[.slice o n cap, .slice (some ⟨gE, 0, none⟩) n n, .slice (some ⟨gS, 0, none⟩) n n], .int .i64 0, .int .i64 x] w' fun r w'' => BP w' V D Z r w''))) :
    Calls Tryd.prog 18 #[.slice o n cap] w fun r w' => ∃ T, r = .returned (.tuple #[.pointer (some ⟨T, 0, none⟩), .int .i64 0]) ∧ TR w' T V D Z ∧ Below w.heap.size w w' := by
  go_enter Tryd.func18, Tryd.ntmps18
  go_wp2_with fail
  refine HM.out.mono ?_
  rintro r w1 ⟨gE, gS, rfl, b1, HBT⟩
  have HB1 : Hid (Below w.heap.size w w1) := b1
  have bA : Below w1.heap.size w1 (w1.alloc (.cells #[.slice o n cap, .slice (some ⟨gE, 0, none⟩) n n, .slice (some ⟨gS, 0, none⟩) n n] 76)) := (Below.refl _ _).alloc (Nat.le_refl _) _
  have HBA : Hid (type_of% bA) := bA
  have hs1 := b1.size
  clear b1 bA HM
  go_wp2_with fail
  refine (HBT.out _ _ (by first | rfl | omega | (rw [IntKind.wrap_i64]; omega)) HBA.out).mono ?_
  rintro r w2 ⟨o2, k2, cap2, cs2, rfl, hown, hpl, b2⟩
  have HB2 : Hid (Below w.heap.size w w2) := HB1.out.trans ((HBA.out.trans (b2.mono HBA.out.size)).mono hs1)
  have hs2 := HB2.out.size
  have HRW : Hid (RowP w2 (fun _ => True) o2 k2 cap2 cs2) := own_row (w := w) hown (fun _ _ _ => trivial) rfl
  have HPL : Hid (PL w2 (fun _ => True) cs2 V D Z) := hpl.keep (Nat.le_refl _) (fun _ _ _ _ => rfl) (fun _ _ _ => ⟨trivial, rfl⟩)
  clear hown hpl b2 HBT
  go_wp2
  go_ret2
  have bT : Below w2.heap.size w2 (w2.alloc (.cells #[.slice o2 k2 cap2] 80)) := (Below.refl _ _).alloc (Nat.le_refl _) _
  exact ⟨w2.heap.size, rfl, ⟨_, o2, k2, cap2, cs2, heap_alloc_new w2 _, HRW.out.under bT, HPL.out.under bT⟩, HB2.out.trans (bT.mono hs2)⟩
/-- The program's own Of. -/
theorem of_any (o : Option Addr) (cap : Nat) (L : List InsD) (w : World) (h : LD w o L) (hT : TabIn w) (ht0 : 1 < w.heap.size) (hc : nChk L = 0) :
    ∃ D Z, Seg L (matchOf L).2.1 (matchOf L).2.2 0 (L.length - 1) D Z ∧ opAt L (L.length - 1) = 11 ∧
    Calls Tryd.prog 18 #[.slice o L.length cap] w fun r w' => ∃ T, r = .returned (.tuple #[.pointer (some ⟨T, 0, none⟩), .int .i64 0]) ∧ TR w' T (segV L 0 (L.length - 1)) D Z ∧ Below w.heap.size w w' := by
  obtain ⟨h200, h1, h2, hpos⟩ := nChk_ok L hc
  obtain ⟨o11, D, Z, hseg⟩ := match_seg L hc
  refine ⟨D, Z, hseg, o11, ?_⟩
  have hall := nRun_chk L [] false h1
  rcases h.2 with h0 | ⟨b, f, rfl, hbw, hcell⟩
  · rw [h0] at hpos
    simp at hpos
  refine of_core (some ⟨b, f, none⟩) L.length cap _ D Z hpos h200 w ((match_any (some ⟨b, f, none⟩) cap L w h hT ht0 hc).mono ?_)
  rintro r w1 ⟨gE, gS, o2, cap2, rfl, hm⟩
  refine ⟨gE, gS, rfl, hm.below, fun x w' hx b' => ?_⟩
  have hLw := h.below hm.below
  have inv := match_inv L hc
  have hG : GR w1 b f gE gS L (matchOf L).2.1 (matchOf L).2.2 := by
    have cl : ∀ (g : Nat) (xs : List Int), xs.length = L.length → w1.ownsRow w.heap.size 3 1 (.slice (some ⟨g, 0, none⟩) L.length L.length) L.length (xs.map (Value.int .i64)) → g < w1.heap.size ∧ ∀ i, i < L.length → w1.cell? ⟨g, i, none⟩ = some (.int .i64 (xs.getD i 0)) := fun g xs hl ho => by
      refine ⟨(ho.lt g rfl).2, fun i hi => ?_⟩
      have hi2 : i < xs.length := by omega
      rw [ho.cellAt i (by omega), List.getElem?_map, List.getElem?_eq_getElem hi2, List.getD_eq_getElem?_getD, List.getElem?_eq_getElem hi2]
      rfl
    obtain ⟨e1, e2⟩ := cl gE _ inv.lenE hm.ends
    obtain ⟨s1, s2⟩ := cl gS _ inv.lenS hm.elses
    refine ⟨Nat.lt_of_lt_of_le hbw hm.below.size, e1, s1, fun i hi => ?_, hLw.1, fun d hd => ?_, e2, s2⟩
    · rw [hm.below.cell (p := ⟨b, f + i * 4, none⟩) hbw, hm.below.cell (p := ⟨b, f + i * 4 + 1, none⟩) hbw, hm.below.cell (p := ⟨b, f + i * 4 + 2, none⟩) hbw, hm.below.cell (p := ⟨b, f + i * 4 + 3, none⟩) hbw]
      exact hcell i hi
    · have hl := h.lens d hd
      have := (vchk_fit d.val (by rw [val_chk d hl]; exact hall d hd)).1
      have e : d.val.xs.length = d.n := hl
      omega
  exact between_any b f cap gE gS L _ _ h200 hall L.length 0 (L.length - 1) 0 x D Z w' (by omega) rfl (by rw [hx]; omega) (hG.under b') hseg
theorem seg_whole (L : List InsD) (w : World) (h : ∀ d ∈ L, d.ok w) (hc : nChk L = 0) (o11 : opAt L (L.length - 1) = 11) : segV L 0 (L.length - 1) ++ [endV] = L.map InsD.val := by
  obtain ⟨_, h1, _, hpos⟩ := nChk_ok L hc
  have hall := nRun_chk L [] false h1
  have hl : L.length - 1 < L.length := by omega
  have hv : (L[L.length - 1]).val = endV := val_alone (L[L.length - 1]) 11 (by decide) (by rw [← opAt_get L _ hl]; exact o11) ((h _ (List.getElem_mem hl)).lj.1) (hall _ (List.getElem_mem hl))
  have e1 := segV_one L (L.length - 1) hl
  rw [hv] at e1
  rw [← e1, segV_cat L 0 (L.length - 1) (L.length - 1 + 1) (by omega) (by omega)]
  unfold segV
  rw [List.drop_zero, List.take_of_length_le (by omega)]
set_option maxHeartbeats 4000000 in
set_option maxRecDepth 1000000 in
theorem tdeep_any (T : Nat) (V : List V4) (D Z : Nat) (hV : V.length ≤ 1000) (w : World) (h : TR w T V D Z) :
    Calls Tryd.prog 22 #[.pointer (some ⟨T, 0, none⟩)] w fun r w' => r = .returned (.int .i64 D) ∧ Below w.heap.size w w' := by
  obtain ⟨F, o, k, cap, cs, h1, h2, h3⟩ := h
  have c0 : w.cell? ⟨T, 0, none⟩ = some (.slice o k cap) := by simp [World.cell?, h1]
  have HD : Hid (type_of% (deep_any F V.length o k cap cs V D Z w (Nat.le_refl _) hV h2 h3)) := deep_any F V.length o k cap cs V D Z w (Nat.le_refl _) hV h2 h3
  clear h1 h2 h3
  go_enter Tryd.func22, Tryd.ntmps22
  go_wp2_with fail
  refine HD.out.mono ?_
  rintro r w1 ⟨rfl, b1⟩
  go_wp2
  go_ret
  exact ⟨rfl, b1⟩
set_option maxHeartbeats 4000000 in
set_option maxRecDepth 1000000 in
theorem tsize_any (T : Nat) (V : List V4) (D Z : Nat) (hV : V.length ≤ 1000) (w : World) (h : TR w T V D Z) :
    Calls Tryd.prog 23 #[.pointer (some ⟨T, 0, none⟩)] w fun r w' => r = .returned (.int .i64 Z) ∧ Below w.heap.size w w' := by
  obtain ⟨F, o, k, cap, cs, h1, h2, h3⟩ := h
  have c0 : w.cell? ⟨T, 0, none⟩ = some (.slice o k cap) := by simp [World.cell?, h1]
  have HD : Hid (type_of% (size_any F V.length o k cap cs V D Z w (Nat.le_refl _) hV h2 h3)) := size_any F V.length o k cap cs V D Z w (Nat.le_refl _) hV h2 h3
  clear h1 h2 h3
  go_enter Tryd.func23, Tryd.ntmps23
  go_wp2_with fail
  refine HD.out.mono ?_
  rintro r w1 ⟨rfl, b1⟩
  go_wp2
  go_ret
  exact ⟨rfl, b1⟩
set_option maxHeartbeats 4000000 in
set_option maxRecDepth 1000000 in
theorem tflat_any (T : Nat) (V : List V4) (D Z : Nat) (hV : V.length ≤ 800) (w : World) (h : TR w T V D Z) :
    Calls Tryd.prog 21 #[.pointer (some ⟨T, 0, none⟩)] w fun r w' => LP w.heap.size w (V ++ [endV]) r w' := by
  obtain ⟨F, o, k, cap, cs, h1, h2, h3⟩ := h
  have c0 : w.cell? ⟨T, 0, none⟩ = some (.slice o k cap) := by simp [World.cell?, h1]
  have HD : Hid (Calls Tryd.prog 40 #[.slice none 0 0, .slice o k cap] w fun r w' => LP w.heap.size w V r w') := by
    have := flatAll_any V.length F w.heap.size 0 0 none [] o k cap cs V D Z w (Nat.le_refl _) (by omega) h2 h3 (IR.nil _ _) (Nat.le_refl _)
    exact this
  clear h1 h2 h3
  go_enter Tryd.func21, Tryd.ntmps21
  go_wp2_with fail
  refine HD.out.mono ?_
  rintro r w1 ⟨o1, k1, cap1, M1, rfl, hI, hM, hF, hB⟩
  have hk1 : k1 ≤ 1000 := by
    rw [← hI.len, ← List.length_map (f := InsD.val), hM]
    omega
  have HC : Hid (type_of% (closed_any w.heap.size k1 cap1 o1 M1 w1 hI hk1 hF.size)) := closed_any w.heap.size k1 cap1 o1 M1 w1 hI hk1 hF.size
  have HF : Hid (FK w w1) := hF
  have HB : Hid (Below w.heap.size w w1) := hB
  have HM : Hid (type_of% hM) := hM
  clear hI hM hF hB HD
  go_wp2_with fail
  refine HC.out.mono ?_
  rintro r w2 ⟨o2, k2, cap2, M2, rfl, hI, hM, hF, hB⟩
  go_wp2
  go_ret
  exact ⟨o2, k2, cap2, M2, rfl, hI, by rw [hM, HM.out], HF.out.trans hF, HB.out.trans hB⟩

end Go.Proofs.YtmbficofcmfmlaaDoor
