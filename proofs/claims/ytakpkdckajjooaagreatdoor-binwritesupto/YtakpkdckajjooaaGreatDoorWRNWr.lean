/-
 The document's own NestWrite, and Eq of two rows that are one.
-/
import Derived.Test.YtakpkdckajjooaaGreatDoorWQL
import Derived.Test.YtakpkdckajjooaaGreatDoorWGRWr
import Derived.Test.YtakpkdckajjooaaGreatDoorWQA
set_option maxHeartbeats 4000000
set_option maxRecDepth 1000000
namespace Go.Proofs.YtakpkdckajjooaaGreatDoor
set_option linter.unusedVariables false
open Go.RowKit
theorem besT_byte (k A B : Int) (xs : List Int) (hc : fitC k A B xs) : ∀ b ∈ besT k A B xs, 0 ≤ b ∧ b < 256 := by
 unfold besT
 split
 ·rename_i h2
  intro b hb
  rw [List.mem_singleton] at hb
  subst hb
  rcases hc with h | h | h | h | h | h | h | h | h
  case inr.inl =>
   have := h.2.1
   unfold isKB at this
   simp only [Bool.or_eq_true, beq_iff_eq] at this
   omega
  all_goals omega
 split
 ·exact uB_byte _
 split
 ·intro b hb
  rw [List.mem_append, List.mem_append] at hb
  rcases hb with (hb | hb) | hb
  ·exact uB_byte _ b hb
  ·obtain ⟨x, _, hx⟩ := List.mem_flatMap.1 hb
   exact uB_byte _ b hx
  ·exact uB_byte _ b hb
 split
 ·intro b hb
  rw [List.mem_append, List.mem_singleton] at hb
  rcases hb with hb | hb
  ·exact uB_byte _ b hb
  ·omega
 split
 ·intro b hb
  rw [List.mem_append] at hb
  rcases hb with hb | hb
  ·exact uB_byte _ b hb
  ·exact uB_byte _ b hb
 split
 ·intro b hb
  rw [List.mem_singleton] at hb
  omega
 split
 ·exact sB_byte _
 ·intro b hb
  simp at hb
theorem text_byte (d : InsD) (h0 : 0 ≤ d.op) (h1 : d.op ≤ 255) (hc : fitC (besV d.op) d.A d.B d.xs) : ∀ b ∈ d.val.text, 0 ≤ b ∧ b < 256 := by
 intro b hb
 have hb' : b ∈ d.op :: besT (besV d.op) d.A d.B d.xs := hb
 rw [List.mem_cons] at hb'
 rcases hb' with rfl | hb'
 ·omega
 ·exact besT_byte _ _ _ _ hc b hb'
theorem rnwrite_bad (o : Option Addr) (n cap : Nat) (e : Int) (_he : (e == 0) = false) (w : World) (HC : Hid (Calls Tryz.prog 23 #[.slice o n cap] w fun r w' => r = .returned (.int .i64 e) ∧ Below w.heap.size w w')) :
  Calls Tryz.prog 141 #[.slice o n cap] w fun r w' => r = .returned (.tuple #[.string ⟨#[]⟩, .int .i64 e]) ∧ Below w.heap.size w w' := by
 have hne : (e != 0) = true := by rw [bne, _he]; rfl
 go_enter Tryz.func141, Tryz.ntmps141
 go_wp2_with fail
 refine HC.out.mono ?_
 rintro r w1 ⟨rfl, b1⟩
 go_wp2
 go_ret2
 exact ⟨rfl, b1⟩
theorem rnwrite_ok (o : Option Addr) (cap n : Nat) (L : List InsD) (hl : L.length = n) (hn : n ≤ 200) (w : World) (h : LD w o L) (HC : Hid (Calls Tryz.prog 23 #[.slice o n cap] w fun r w' => r = .returned (.int .i64 0) ∧ Below w.heap.size w w'))
  (HLN : Hid (∀ v ∈ L.map InsD.val, v.text.length ≤ 1001))
  (HW : Hid (∀ d ∈ L, ∀ w', Below w.heap.size w w' → Calls Tryz.prog 180 #[.agg #[.int .u8 d.op, .int .i64 d.A, .int .i64 d.B, .slice d.o d.n d.cap]] w' fun r w'' => ∃ t, r = .returned (.tuple #[.string t, .int .i64 0]) ∧ nums t = d.val.text ∧ Below w'.heap.size w' w'')) :
  Calls Tryz.prog 141 #[.slice o n cap] w fun r w' => ∃ t, r = .returned (.tuple #[.string t, .int .i64 0]) ∧ nums t = bodyT (L.map InsD.val) ∧ Below w.heap.size w w' := by
 have HLn : Hid (L.length = n) := hl
 have HLD : Hid (LD w o L) := h
 have hni : (n : Int) ≤ 200 := by omega
 clear hl h
 go_enter Tryz.func141, Tryz.ntmps141
 go_wp2_with fail
 refine HC.out.mono ?_
 rintro r w1 ⟨rfl, b1⟩
 have HB1 : Hid (Below w.heap.size w w1) := b1
 clear b1 HC
 go_wp2
 go_loopw [5, 17] (fun sv i wr => ∃ k : Nat, ∃ t : ByteArray, sv = .string t ∧ i = .int .i64 k ∧ k ≤ n ∧ Hid (nums t = bodyT ((L.take k).map InsD.val)) ∧ Hid (Below w.heap.size w wr)) (fun _ i _ => n - (intOf i).toNat)
 case atStart => exact ⟨0, ⟨#[]⟩, rfl, rfl, by omega, rfl, HB1⟩
 case round =>
  obtain ⟨k, t, rfl, rfl, hk, HNL, HB⟩ := hrel
  by_cases hlt : k < n
  ·have hkl : k < L.length := by rw [HLn.out]; exact hlt
   have hmem : L[k] ∈ L := List.getElem_mem hkl
   rcases HLD.out.2 with h0 | ⟨b, f, rfl, hbw, hc⟩
   ·exfalso; rw [h0] at hkl; simp at hkl
   obtain ⟨m0, m1, m2, m3⟩ := hc k hkl
   have HWd := HW.out _ hmem
   have hll : t.size ≤ k * 1001 := by
    rw [← nums_length, HNL.out]
    refine Nat.le_trans (bodyT_len _ fun v hv => HLN.out v ?_) ?_
    ·exact (List.map_subset _ (List.take_subset _ _)) hv
    ·simp only [List.length_map, List.length_take]
     exact Nat.mul_le_mul_right _ (Nat.min_le_left _ _)
   have hdl : (L[k]).val.text.length ≤ 1001 := HLN.out _ (List.mem_map_of_mem hmem)
   have HTK : Hid (bodyT ((L.take (k + 1)).map InsD.val) = bodyT ((L.take k).map InsD.val) ++ (L[k]).val.text) := by
    unfold Hid bodyT
    rw [List.take_succ_eq_append_getElem hkl, List.map_append, List.flatMap_append]
    simp
   have e0 := HB.out.cell (p := ⟨b, f + k * 4, none⟩) hbw
   have e1 := HB.out.cell (p := ⟨b, f + k * 4 + 1, none⟩) hbw
   have e2 := HB.out.cell (p := ⟨b, f + k * 4 + 2, none⟩) hbw
   have e3 := HB.out.cell (p := ⟨b, f + k * 4 + 3, none⟩) hbw
   rw [m0] at e0
   rw [m1] at e1
   rw [m2] at e2
   rw [m3] at e3
   generalize L[k] = d at e0 e1 e2 e3 HWd HTK hdl
   have HWe : Hid (type_of% HWd) := HWd
   clear hc m0 m1 m2 m3 hmem HWd
   have hki0 : (0 : Int) ≤ (k : Int) := by omega
   have hki1 : (k : Int) < (n : Int) := by omega
   have hsw := HB.out.size
   go_wp2_with fail
   refine (HWe.out _ (HB.out.alloc hsw _)).mono ?_
   rintro r w2 ⟨t2, rfl, ht, b2⟩
   have hsz : t2.size = d.val.text.length := by rw [← nums_length, ht]
   have hz2 : t.size + t2.size ≤ 9223372036854775807 := by omega
   have HT : Hid (nums (t ++ t2) = bodyT ((L.take (k + 1)).map InsD.val)) := by
    unfold Hid
    rw [nums_append, HNL.out, ht, HTK.out]
   have HB3 : Hid (Below w.heap.size w w2) := (HB.out.alloc hsw _).trans (b2.mono (by simp; omega))
   clear ht b2 HB HWe e0 e1 e2 e3 hsz hdl HTK HNL
   go_wp2
   go_roundw
   case rel => exact ⟨k + 1, t ++ t2, by first | rfl | go_num, by go_num, by omega, HT, HB3⟩
   case measure => simp [intOf]; omega
  ·have hkn : L.take k = L := List.take_of_length_le (by rw [HLn.out]; omega)
   rw [hkn] at HNL
   go_wp2
   go_ret2
   exact ⟨_, rfl, HNL.out, HB.out⟩
theorem rnwrite_any (o : Option Addr) (cap : Nat) (L : List InsD) (w : World) (h : LD w o L) (hcap : L.length ≤ cap) (hM : MaxIn w) :
  Calls Tryz.prog 141 #[.slice o L.length cap] w fun r w' => Below w.heap.size w w' ∧ ((nChk L ≠ 0 ∧ r = .returned (.tuple #[.string ⟨#[]⟩, .int .i64 (nChk L)])) ∨ (nChk L = 0 ∧ ∃ t, r = .returned (.tuple #[.string t, .int .i64 0]) ∧ nums t = bodyT (L.map InsD.val))) := by
 have hck := rncheck_any o cap L w h hcap hM
 by_cases hc : nChk L = 0
 ·obtain ⟨h200, h1, h2⟩ := nChk_zero L hc
  have hall := nRun_chk L [] false h1
  have hfit : ∀ d ∈ L, fitC (besV d.op) d.A d.B d.xs := fun d hd => by
   have := val_chk d (h.lens d hd)
   exact (vchk_fit d.val (by rw [this]; exact hall d hd)).2
  rw [hc] at hck
  refine (rnwrite_ok o cap L.length L rfl h200 w h hck ?_ ?_).mono ?_
  ·intro v hv
   obtain ⟨d, hd, rfl⟩ := List.mem_map.1 hv
   have := besT_len _ _ _ _ (hfit d hd) (h.1 d hd).a
   show (d.op :: besT (besV d.op) d.A d.B d.xs).length ≤ 1001
   rw [List.length_cons]
   omega
  ·intro d hd w' b
   have hk := (h.1 d hd).below b
   have ht := text_byte d hk.op0 hk.op1 (hfit d hd)
   refine (rwrite_any d.op d.A d.B d.o d.n d.cap d.xs hk.op0 hk.op1 hk.a hk.cap hk.nil w' hk.lj (hM.below b)).mono ?_
   rintro r w'' ⟨rfl, b2⟩
   have hz : chkV d.op d.A d.B d.n d.xs = 0 := hall d hd
   refine ⟨wrT d.op d.A d.B d.n d.xs, by rw [hz], ?_, b2⟩
   unfold wrT
   rw [if_pos hz]
   exact nums_str ht
  ·rintro r w' ⟨t, rfl, ht, b⟩
   exact ⟨b, Or.inr ⟨hc, t, rfl, ht⟩⟩
 ·refine (rnwrite_bad o L.length cap (nChk L) (by rw [beq_eq_false_iff_ne]; exact hc) w hck).mono ?_
  rintro r w' ⟨rfl, b⟩
  exact ⟨b, Or.inl ⟨hc, rfl⟩⟩
end Go.Proofs.YtakpkdckajjooaaGreatDoor
