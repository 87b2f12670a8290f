/-
  NestBack: a body that is written is read as it was, and so is its tree.
-/
import Derived.Test.YtmbficofcmfmlaaDoorNTreeOf
import Derived.Test.YtmbficofcmfmlaaDoorNRd2
import Derived.Test.YtmbficofcmfmlaaDoorRSame
namespace Go.Proofs.YtmbficofcmfmlaaDoor
open Go.RowKit

set_option maxHeartbeats 4000000 in
set_option maxRecDepth 1000000 in
theorem nback_bad (o : Option Addr) (n cap : Nat) (more : ByteArray) (e : Int) (_he : (e == 0) = false) (w : World)
    (HW : Hid (∀ w', Below w.heap.size w w' → Calls Tryd.prog 11 #[.slice o n cap] w' fun r w'' => r = .returned (.tuple #[.string ⟨#[]⟩, .int .i64 e]) ∧ Below w'.heap.size w' w''))
    (HO : Hid (∀ w', Below w.heap.size w w' → Calls Tryd.prog 18 #[.slice o n cap] w' fun r w'' => r = .returned (.tuple #[.pointer none, .int .i64 e]) ∧ Below w'.heap.size w' w''))
    (HC : Hid (∀ w', Below w.heap.size w w' → Calls Tryd.prog 14 #[.slice o n cap] w' fun r w'' => r = .returned (.int .i64 e) ∧ Below w'.heap.size w' w'')) :
    Calls Tryd.prog 6 #[.slice o n cap, .string more] w fun r w' => r = .returned (.bool true) ∧ Below w.heap.size w w' := by
  have hne : (e != 0) = true := by rw [bne, _he]; rfl
  go_enter Tryd.func6, Tryd.ntmps6
  go_wp2_with fail
  refine (HW.out _ (Below.refl _ _)).mono ?_
  rintro r w1 ⟨rfl, b1⟩
  go_wp2_with fail
  refine (HO.out _ b1).mono ?_
  rintro r w2 ⟨rfl, b2⟩
  have HB2 : Hid (Below w.heap.size w w2) := b1.trans (b2.mono b1.size)
  clear b1 b2
  go_wp2_with fail
  refine (HC.out _ HB2.out).mono ?_
  rintro r w3 ⟨rfl, b3⟩
  go_wp2
  go_ret
  exact ⟨rfl, HB2.out.trans (b3.mono HB2.out.size)⟩
set_option maxHeartbeats 8000000 in
set_option maxRecDepth 1000000 in
theorem nback_ok (o : Option Addr) (n cap : Nat) (more : ByteArray) (_hm : more.size ≤ 140737488355328) (T : List Int) (_hT : T.length ≤ 1000000) (w : World)
    (HW : Hid (∀ w', Below w.heap.size w w' → Calls Tryd.prog 11 #[.slice o n cap] w' fun r w'' => ∃ t, r = .returned (.tuple #[.string t, .int .i64 0]) ∧ nums t = T ∧ Below w'.heap.size w' w''))
    (HO : Hid (∀ w', Below w.heap.size w w' → Calls Tryd.prog 18 #[.slice o n cap] w' fun r w'' => ∃ P, r = .returned (.tuple #[.pointer (some ⟨P, 0, none⟩), .int .i64 0]) ∧ Below w'.heap.size w' w'' ∧ Hid (∀ w3, Below w''.heap.size w'' w3 → Below w.heap.size w w3 → Calls Tryd.prog 21 #[.pointer (some ⟨P, 0, none⟩)] w3 fun r w4 => ∃ (o1 : Option Addr) (n1 cap1 : Nat), r = .returned (.slice o1 n1 cap1) ∧ Below w3.heap.size w3 w4 ∧ Hid (Calls Tryd.prog 17 #[.slice o1 n1 cap1, .slice o n cap] w4 fun r w5 => r = .returned (.bool true) ∧ Below w4.heap.size w4 w5))))
    (HC : Hid (∀ w', Below w.heap.size w w' → Calls Tryd.prog 14 #[.slice o n cap] w' fun r w'' => r = .returned (.int .i64 0) ∧ Below w'.heap.size w' w''))
    (HR : Hid (∀ t, nums t = T → ∀ w', Below w.heap.size w w' → Calls Tryd.prog 15 #[.string (t ++ more)] w' fun r w'' => ∃ (o1 : Option Addr) (n1 cap1 : Nat), r = .returned (.tuple #[.slice o1 n1 cap1, .int .i64 (t.size : Int), .int .i64 0]) ∧ Below w'.heap.size w' w'' ∧ Hid (Calls Tryd.prog 17 #[.slice o n cap, .slice o1 n1 cap1] w'' fun r w5 => r = .returned (.bool true) ∧ Below w''.heap.size w'' w5))) :
    Calls Tryd.prog 6 #[.slice o n cap, .string more] w fun r w' => r = .returned (.bool true) ∧ Below w.heap.size w w' := by
  go_enter Tryd.func6, Tryd.ntmps6
  go_wp2_with fail
  refine (HW.out _ (Below.refl _ _)).mono ?_
  rintro r w1 ⟨t, rfl, ht, b1⟩
  have hts : t.size ≤ 1000000 := by rw [← nums_length, ht]; exact _hT
  have hcat : t.size + more.size ≤ 9223372036854775807 := by omega
  have HT : Hid (nums t = T) := ht
  clear ht
  go_wp2_with fail
  refine (HO.out _ b1).mono ?_
  rintro r w2 ⟨P, rfl, b2, HF⟩
  have HB2 : Hid (Below w.heap.size w w2) := b1.trans (b2.mono b1.size)
  clear b1 b2 HO HW
  go_wp2_with fail
  refine (HC.out _ HB2.out).mono ?_
  rintro r w3 ⟨rfl, b3⟩
  have HB3 : Hid (Below w.heap.size w w3) := HB2.out.trans (b3.mono HB2.out.size)
  have HC3 : Hid (Below w2.heap.size w2 w3) := b3
  clear b3 HC
  go_wp2_with fail
  refine (HR.out t HT.out _ HB3.out).mono ?_
  rintro r w4 ⟨o1, n1, cap1, rfl, b4, HS⟩
  have HB4 : Hid (Below w.heap.size w w4) := HB3.out.trans (b4.mono HB3.out.size)
  have HC4 : Hid (Below w2.heap.size w2 w4) := HC3.out.trans (b4.mono HC3.out.size)
  clear b4 HR HB3 HC3
  go_wp2_with fail
  refine HS.out.mono ?_
  rintro r w5 ⟨rfl, b5⟩
  have HB5 : Hid (Below w.heap.size w w5) := HB4.out.trans (b5.mono HB4.out.size)
  have HC5 : Hid (Below w2.heap.size w2 w5) := HC4.out.trans (b5.mono HC4.out.size)
  clear b5 HS HB4 HC4
  go_wp2_with fail
  refine (HF.out _ HC5.out HB5.out).mono ?_
  rintro r w6 ⟨o2, n2, cap2, rfl, b6, HS2⟩
  have HB6 : Hid (Below w.heap.size w w6) := HB5.out.trans (b6.mono HB5.out.size)
  clear b6 HF HB5 HC5
  go_wp2_with fail
  refine HS2.out.mono ?_
  rintro r w7 ⟨rfl, b7⟩
  go_wp2
  go_ret
  exact ⟨rfl, HB6.out.trans (b7.mono HB6.out.size)⟩
theorem nestBack_walk (o : Option Addr) (cap : Nat) (L : List InsD) (hcap : L.length ≤ cap) (hcm : cap ≤ maxLen) (a1 : ByteArray) (z1' : a1.data.toList.length ≤ reachBytes) (w : World) (hT : TabIn w) (h : LD w o L) :
    Calls Tryd.prog 6 #[.slice o L.length cap, .string a1] w fun r w' => r = .returned (.bool true) ∧ Below w.heap.size w w' := by
  have z1 : a1.size ≤ 140737488351232 := by
    rw [Array.length_toList] at z1'
    exact z1'
  have ht0 : 1 < w.heap.size := by
    have hc := hT 0 (by omega)
    apply Nat.lt_of_not_le
    intro hle
    have : w.heap[1]? = none := Array.getElem?_eq_none hle
    simp [World.cell?, this] at hc
  have hT' : ∀ w', Below w.heap.size w w' → TabIn w' := fun w' hb => hT.chg (P := w.heap.size) (Chg.of_below hb) ht0 (by omega)
  have hlt : ∀ w', Below w.heap.size w w' → 1 < w'.heap.size := fun w' hb => Nat.lt_of_lt_of_le ht0 hb.size
  have hC : ∀ w', Below w.heap.size w w' → Calls Tryd.prog 14 #[.slice o L.length cap] w' fun r w'' => r = .returned (.int .i64 (nChk L)) ∧ Below w'.heap.size w' w'' := fun w' hb => ncheck_any o cap L w' (h.below hb) (hT' w' hb) (hlt w' hb)
  by_cases hc : nChk L = 0
  · rw [hc] at hC
    obtain ⟨h200, h1, h2⟩ := nChk_zero L hc
    have hall := nRun_chk L [] false h1
    have hrun := vRun_val L [] false h.lens
    have hrng : ∀ v ∈ L.map InsD.val, v.rng := fun v hv => by
      obtain ⟨d, hd, rfl⟩ := List.mem_map.1 hv
      exact (h.1 d hd).a
    have hlen : (bodyT (L.map InsD.val)).length ≤ 200200 := by
      have hall2 : ∀ v ∈ L.map InsD.val, v.text.length ≤ 1001 := fun v hv => by
        obtain ⟨d, hd, rfl⟩ := List.mem_map.1 hv
        have hf := (vchk_fit d.val (by rw [val_chk d (h.lens d hd)]; exact hall d hd)).2
        have := besT_len _ _ _ _ hf (h.1 d hd).a
        show (d.op :: besT (besV d.op) d.A d.B d.xs).length ≤ 1001
        have e : (besT (besV d.val.op) d.val.A d.val.B d.val.xs) = besT (besV d.op) d.A d.B d.xs := rfl
        rw [List.length_cons, ← e]
        omega
      have := bodyT_len _ hall2
      simp only [List.length_map] at this
      omega
    refine nback_ok o L.length cap a1 (by omega) (bodyT (L.map InsD.val)) (by omega) w (fun w' hb => ?_) (fun w' hb => ?_) hC (fun t ht w' hb => ?_)
    · refine (nwrite_any o cap L w' (h.below hb) hcap (hT' w' hb) (hlt w' hb)).mono ?_
      rintro r w2 ⟨b, h2⟩
      rcases h2 with ⟨h2, _⟩ | ⟨_, t, rfl, ht⟩
      · exact absurd hc h2
      · exact ⟨t, rfl, ht, b⟩
    · obtain ⟨D, Z, _, o11, hof⟩ := of_any o cap L w' (h.below hb) (hT' w' hb) (hlt w' hb) hc
      refine hof.mono ?_
      rintro r w2 ⟨P, rfl, htr, b2⟩
      refine ⟨P, rfl, b2, fun w3 b3 hb3 => ?_⟩
      have hsl : (segV L 0 (L.length - 1)).length ≤ 800 := by
        unfold segV
        simp
        omega
      refine (tflat_any P _ D Z hsl w3 (htr.under b3)).mono ?_
      rintro r w4 ⟨o1, n1, cap1, M1, rfl, hI, hM, _, hB⟩
      rw [seg_whole L w h.1 hc o11] at hM
      refine ⟨o1, n1, cap1, rfl, hB, ?_⟩
      have hb4 : Below w.heap.size w w4 := hb3.trans (hB.mono hb3.size)
      rw [← hI.len]
      exact sameBody_any o1 o cap1 cap M1 L w4 hI.LD (h.below hb4) (by rw [hI.len]; exact hI.capm.1) hcap hI.capm.2 hM
    · have hts : t.size = (bodyT (L.map InsD.val)).length := by rw [← nums_length, ht]
      have hsz : (t ++ a1).size ≤ maxLen := by
        rw [ByteArray.size_append]
        unfold maxLen
        omega
      have hrd : nRd 200 (nums (t ++ a1)) [] = (0, L.map InsD.val, nums a1) := by
        rw [nums_append, ht]
        exact nRd_back (L.map InsD.val) 200 [] (nums a1) (by simp; exact h200) hrng (by rw [hrun]; exact h1) (by rw [hrun]; exact h2)
      have := nread_any (t ++ a1) hsz w' (hT' w' hb) (hlt w' hb)
      rw [hrd] at this
      refine this.mono ?_
      rintro r w2 ⟨b2, hh⟩
      rcases hh with ⟨hh, _⟩ | ⟨_, o1, cap1, M1, rfl, hI, hM⟩
      · exact absurd rfl hh
      refine ⟨o1, M1.length, cap1, ?_, b2, ?_⟩
      · rw [nums_length, ByteArray.size_append]
        rw [show ((t.size + a1.size : Nat) : Int) - (a1.size : Int) = (t.size : Int) by omega]
      · exact sameBody_any o o1 cap cap1 L M1 w2 (h.below (hb.trans (b2.mono hb.size))) hI.LD hcap hI.capm.1 hcm hM.symm
  · refine nback_bad o L.length cap a1 (nChk L) (by rw [beq_eq_false_iff_ne]; exact hc) w (fun w' hb => ?_) (fun w' hb => ?_) hC
    · refine (nwrite_any o cap L w' (h.below hb) hcap (hT' w' hb) (hlt w' hb)).mono ?_
      rintro r w2 ⟨b, h2⟩
      rcases h2 with ⟨_, rfl⟩ | ⟨h2, _⟩
      · exact ⟨rfl, b⟩
      · exact absurd h2 hc
    · exact of_bad o L.length cap (nChk L) (by rw [beq_eq_false_iff_ne]; exact hc) w' (match_bad o cap L w' (h.below hb) (hT' w' hb) (hlt w' hb) hc)

end Go.Proofs.YtmbficofcmfmlaaDoor
