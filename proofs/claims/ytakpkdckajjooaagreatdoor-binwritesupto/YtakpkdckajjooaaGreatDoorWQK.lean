/-
 The document's own 'sections' of a module that is well.
 The document's own BinWrite.
-/
import Derived.Test.YtakpkdckajjooaaGreatDoorWRW5
import Derived.Test.YtakpkdckajjooaaGreatDoorWQI
import Derived.Test.YtakpkdckajjooaaGreatDoorWQW
import Derived.Test.YtakpkdckajjooaaGreatDoorWBinChecksWalk
set_option maxHeartbeats 4000000
set_option maxRecDepth 1000000
namespace Go.Proofs.YtakpkdckajjooaaGreatDoor
open Go.RowKit
set_option linter.unusedVariables false
theorem sections_any (m : ModD) (w : World) (hm : m.ok w) (hg : GMod m.val) (hM : MaxIn w) :
  Calls Tryz.prog 27 #[.agg (mcA m)] w fun r w' => ∃ S : Nat → ByteArray, r = .returned (.agg #[.string (S 0), .string (S 1), .string (S 2), .string (S 3), .string (S 4), .string (S 5), .string (S 6), .string (S 7), .string (S 8), .string (S 9), .string (S 10), .string (S 11)]) ∧ (∀ k, k < 12 → nums (S k) = secC k m.val) ∧ Below w.heap.size w w' := by
 have g1 : GL 16 GSig (m.types.map SigD.val) := hg.1 1 (by omega) (by omega)
 have g2 : GL 16 GNam (m.imports.map NamD.val) := hg.1 2 (by omega) (by omega)
 have g3 : GL 16 isNum (m.funcs.map FunD.t) := hg.1 3 (by omega) (by omega)
 have g4 : 0 ≤ m.table ∧ m.table ≤ 16 := hg.1 4 (by omega) (by omega)
 have g5 : 0 ≤ m.pages ∧ m.pages ≤ m.most ∧ m.most ≤ 8 := hg.1 5 (by omega) (by omega)
 have g6 : GL 8 GGlo (m.globals.map GloD.val) := hg.1 6 (by omega) (by omega)
 have g7 : GL 8 GNam (m.exports.map NamD.val) := hg.1 7 (by omega) (by omega)
 have g8 : 0 ≤ m.start ∧ m.start ≤ 4294967295 := hg.1 8 (by omega) (by omega)
 have g9 : GL 4 GEle (m.elems.map EleD.val) := hg.1 9 (by omega) (by omega)
 have g10 : GL 16 GCod (m.funcs.map FunD.cod) := hg.1 10 (by omega) (by omega)
 have g11 : GL 4 GDat (m.data.map DatD.val) := hg.1 11 (by omega) (by omega)
 unfold GL at g1 g2 g3 g6 g7 g9 g10 g11
 rw [List.length_map] at g1 g2 g3 g6 g7 g9 g10 g11
 exact sections_core m.oT m.oI m.oF m.oG m.oE m.oL m.oD m.types.length m.cT m.imports.length m.cI m.funcs.length m.cF m.globals.length m.cG m.exports.length m.cE m.elems.length m.cL m.data.length m.cD m.table m.pages m.most m.start w
  m.types hm.types rfl (by omega) (fun d hd => g1.2 _ (List.mem_map_of_mem hd))
  m.imports hm.imports rfl (by omega) (fun d hd => g2.2 _ (List.mem_map_of_mem hd))
  m.funcs hm.funcs rfl (by omega) (fun d hd => ⟨g3.2 _ (List.mem_map_of_mem hd), g10.2 _ (List.mem_map_of_mem hd)⟩)
  m.globals hm.globals rfl (by omega) (fun d hd => g6.2 _ (List.mem_map_of_mem hd))
  m.exports hm.exports rfl (by omega) (fun d hd => g7.2 _ (List.mem_map_of_mem hd))
  m.elems hm.elems rfl (by omega) (fun d hd => g9.2 _ (List.mem_map_of_mem hd))
  m.data hm.data rfl (by omega) (fun d hd => g11.2 _ (List.mem_map_of_mem hd))
  (fun d hd w' b => by
   have hc := g10.2 _ (List.mem_map_of_mem hd)
   have ho := (hm.below b).funcs.all d hd
   exact ⟨dCode d w' ho hc (hM.below b), tCode_len _ hc (body_len ho.2.2.1 hc.2)⟩)
  g4 ⟨g5.1, by omega⟩ ⟨by omega, g5.2.2⟩ g8
end Go.Proofs.YtakpkdckajjooaaGreatDoor
namespace Go.Proofs.YtakpkdckajjooaaGreatDoor
open Go.RowKit
set_option linter.unusedVariables false
def txtTo (d : DrV) (i : Nat) : List Int := (List.range i).flatMap fun k => secT k d
theorem txtTo_zero (d : DrV) : txtTo d 0 = [] := rfl
theorem txtTo_succ (d : DrV) (i : Nat) : txtTo d (i + 1) = txtTo d i ++ secT i d := by
 unfold txtTo
 rw [List.range_succ, List.flatMap_append]
 simp
theorem tMod_to (d : DrV) : tMod d = head8 ++ txtTo d 12 := by
 have h0 : secT 0 d = [] := rfl
 rw [tMod_eq]
 simp only [txtTo_succ, txtTo_zero, h0, List.nil_append, List.append_assoc]
theorem txtTo_le (d : DrV) (i j : Nat) : (txtTo d i).length ≤ (txtTo d (i + j)).length := by
 induction j with
 | zero => exact Nat.le_refl _
 | succ j ih =>
  rw [← Nat.add_assoc, txtTo_succ, List.length_append]
  omega
theorem secC_le (d : DrV) (i : Nat) : (secC i d).length ≤ (secT i d).length := by
 by_cases h : secC i d = []
 ·rw [h]
  exact Nat.zero_le _
 ·rw [secT_some h, List.length_cons, List.length_append]
  omega
theorem binWrite_any (m : ModD) (C : Array Value) (HCm : Hid (C = mcA m)) (w : World) (hA : Amb w) (hm : m.ok w) (hs : SmallM m 1048576) (hM : MaxIn w) :
  Calls Tryz.prog 12 #[.agg C] w (WOut w m) := by
 have b1 : Below w.heap.size w (w.alloc (.cells C 30)) := (Below.refl _ _).alloc (Nat.le_refl _) _
 have hs1 : (w.alloc (.cells C 30)).heap.size = w.heap.size + 1 := by simp
 have HR : Hid ((w.alloc (.cells C 30)).heap[w.heap.size]? = some (.cells C 30 (0, 0))) := new_block _ _
 have HI30 : Hid ((Tryz.prog.info? 30).map (·.size) = some C.size) := by unfold Hid; rw [HCm.out]; exact infoMod
 have HB1 : Hid (type_of% b1) := b1
 have HCK : Hid (Calls Tryz.prog 10 #[.agg C] (w.alloc (.cells C 30)) fun r w' => r = .returned (.int .i64 (mChk m)) ∧ Below (w.alloc (.cells C 30)).heap.size (w.alloc (.cells C 30)) w') := by
  unfold Hid
  rw [HCm.out] at b1 ⊢
  exact binCheck_any m _ (hm.below b1) hs (maxIn_below hM b1)
 have HM0 : Hid (mChk m = 0 ↔ GMod m.val) := mChk0 m hm
 have HMT : Hid (GMod m.val → (tMod m.val).length ≤ 100000000) := fun hg => (moduleText_any m w w hm (Below.refl _ _) hA hg).2
 have HSE : Hid (∀ w', Below w.heap.size w w' → GMod m.val → Calls Tryz.prog 27 #[.agg C] w' fun r w'' => ∃ S : Nat → ByteArray, r = .returned (.agg #[.string (S 0), .string (S 1), .string (S 2), .string (S 3), .string (S 4), .string (S 5), .string (S 6), .string (S 7), .string (S 8), .string (S 9), .string (S 10), .string (S 11)]) ∧ (∀ k, k < 12 → nums (S k) = secC k m.val) ∧ Below w'.heap.size w' w'') := fun w' b hg => by
  have := sections_any m w' (hm.below b) hg (maxIn_below hM b)
  rw [← HCm.out] at this
  exact this
 clear hA hm hs hM b1 HCm
 obtain ⟨e, he⟩ : ∃ e, e = mChk m := ⟨_, rfl⟩
 rw [← he] at HCK HM0
 have HE : Hid (mChk m = e) := he.symm
 clear he
 by_cases h0 : e = 0
 ·subst h0
  have HG : Hid (GMod m.val) := HM0.out.1 rfl
  have HLN : Hid ((tMod m.val).length ≤ 100000000) := HMT.out HG.out
  go_enter Tryz.func12, Tryz.ntmps12
  go_wp2_with (refine wpList_load_row rfl 30 (.tmp 1) rfl w.heap.size rfl 30 C (0, 0) _ HR.out Tryz.underlying30 rfl HI30.out ?_)
  refine HCK.out.mono ?_
  rintro r w1 ⟨rfl, b2⟩
  have HR1 : Hid (w1.heap[w.heap.size]? = some (.cells C 30 (0, 0))) := (b2.block _ (by rw [hs1]; omega)).trans HR.out
  have HB2 : Hid (Below w.heap.size w w1) := HB1.out.trans (b2.mono (by rw [hs1]; omega))
  have HT : Hid (type_of% (HSE.out w1 HB2.out HG.out)) := HSE.out w1 HB2.out HG.out
  clear b2 HCK HR HM0 HMT HSE HB1 hs1
  go_wp2_with (refine wpList_load_row rfl 30 (.tmp 1) rfl w.heap.size rfl 30 C (0, 0) _ HR1.out Tryz.underlying30 rfl HI30.out ?_)
  refine HT.out.mono ?_
  rintro r w2 ⟨S, rfl, hS, b3⟩
  obtain ⟨M, hMd⟩ : ∃ M : Array Value, M = #[.string (S 0), .string (S 1), .string (S 2), .string (S 3), .string (S 4), .string (S 5), .string (S 6), .string (S 7), .string (S 8), .string (S 9), .string (S 10), .string (S 11)] := ⟨_, rfl⟩
  rw [← hMd]
  have HIX : Hid (∀ i, i < 12 → M[i]? = some (.string (S i))) := fun i hi => by
   rw [hMd]
   have : i = 0 ∨ i = 1 ∨ i = 2 ∨ i = 3 ∨ i = 4 ∨ i = 5 ∨ i = 6 ∨ i = 7 ∨ i = 8 ∨ i = 9 ∨ i = 10 ∨ i = 11 := by omega
   rcases this with rfl | rfl | rfl | rfl | rfl | rfl | rfl | rfl | rfl | rfl | rfl | rfl <;> rfl
  have HS : Hid (∀ k, k < 12 → nums (S k) = secC k m.val) := hS
  have HB3 : Hid (Below w.heap.size w w2) := HB2.out.trans (b3.mono HB2.out.size)
  clear hS b3 hMd HT HR1 HB2 HI30
  have HH : Hid (∀ i, i ≤ 12 → (head8 ++ txtTo m.val i).length ≤ 100000000) := fun i hi => by
   have h1 := HLN.out
   rw [tMod_to] at h1
   have h2 := txtTo_le m.val i (12 - i)
   rw [show i + (12 - i) = 12 by omega] at h2
   rw [List.length_append] at h1 ⊢
   omega
  have HHS : Hid (∀ i, i < 12 → (secC i m.val).length ≤ 100000000) := fun i hi => by
   have h1 := HH.out (i + 1) (by omega)
   rw [txtTo_succ] at h1
   have h2 := secC_le m.val i
   simp only [List.length_append] at h1
   omega
  clear HLN
  go_wp2_with fail
  go_loopw [5, 15] (fun ov iv wr => ∃ (i : Nat) (u : ByteArray), ov = .string u ∧ iv = .int .i64 (i : Int) ∧ i ≤ 12 ∧ Hid (nums u = head8 ++ txtTo m.val i) ∧ Hid (Below w.heap.size w wr)) (fun _ iv _ => 12 - (intOf iv).toNat)
  case atStart => exact ⟨0, _, rfl, rfl, by omega, by unfold Hid; rw [txtTo_zero, List.append_nil]; rfl, HB3⟩
  case round =>
   obtain ⟨i, u, rfl, rfl, hi, HN, HB⟩ := hrel
   clear HB3
   have hzu : u.size ≤ 100000000 := by rw [size_of HN.out]; exact HH.out i hi
   by_cases hlt : i < 12
   ·have hix := index12s M i hlt _ (HIX.out i hlt)
    have HSI : Hid (nums (S i) = secC i m.val) := HS.out i hlt
    have hzs : (S i).size ≤ 100000000 := by rw [size_of HSI.out]; exact HHS.out i hlt
    generalize S i = x at hix HSI hzs
    have hq0 : (0 : Int) ≤ (i : Int) := by omega
    have hq1 : (i : Int) < 12 := by omega
    by_cases hx : x = ⟨#[]⟩
    ·subst hx
     have HN2 : Hid (nums u = head8 ++ txtTo m.val (i + 1)) := by
      unfold Hid
      have : secC i m.val = [] := HSI.out.symm
      rw [txtTo_succ, secT_nil this, List.append_nil]
      exact HN.out
     clear HN HSI
     go_wp2
     go_roundw
     case rel => exact ⟨i + 1, u, rfl, by go_num, by omega, HN2, HB⟩
     case measure => simp [intOf]; omega
    ·have HNE : Hid (secC i m.val ≠ []) := fun h => hx (by
      have h1 := HSI.out
      rw [h] at h1
      have h2 := size_of h1
      cases x with | mk a => cases a with | mk l => cases l with
       | nil => rfl
       | cons c l => simp [ByteArray.size] at h2)
     have hxb : x.toList.isEmpty = false := str_ne' x (by
      rw [size_of HSI.out]
      exact List.length_pos_iff.2 HNE.out)
     have HC1 : Hid (Calls Tryz.prog 28 #[.int .i64 (i : Int)] wr (Txt wr [(i : Int)])) := dChr (i : Int) (by omega) (by omega) wr
     have HC2 : Hid (∀ w', Calls Tryz.prog 29 #[.int .i64 (x.size : Int)] w' (Txt w' (uB x.size))) := fun w' => by
      have := dU (x.size : Int) (by omega) (by omega) w'
      rw [Int.toNat_natCast] at this
      exact this
     have HU2 : Hid ((uB x.size).length ≤ 10) := uB_len10 _ (by omega)
     go_wp2_with fail
     refine HC1.out.mono ?_
     rintro r y1 ⟨t1, rfl, ht1, k1⟩
     have hz1 : t1.size = 1 := size_of ht1
     have HT1 : Hid (nums t1 = [(i : Int)]) := ht1
     have HK1 : Hid (Below w.heap.size w y1) := HB.out.trans (k1.mono HB.out.size)
     clear ht1 k1 HC1
     go_wp2_with fail
     refine (HC2.out _).mono ?_
     rintro r y2 ⟨t2, rfl, ht2, k2⟩
     have hz2 : t2.size ≤ 10 := by rw [size_of ht2]; exact HU2.out
     have HT2 : Hid (nums t2 = uB x.size) := ht2
     have HK2 : Hid (Below w.heap.size w y2) := HK1.out.trans (k2.mono HK1.out.size)
     have q1 : t1.size + t2.size ≤ 9223372036854775807 := by omega
     have q2 : t1.size + t2.size + x.size ≤ 9223372036854775807 := by omega
     have q3 : u.size + (t1.size + t2.size + x.size) ≤ 9223372036854775807 := by omega
     clear ht2 k2 HC2 HK1
     have HN2 : Hid (nums (u ++ (t1 ++ t2 ++ x)) = head8 ++ txtTo m.val (i + 1)) := by
      unfold Hid
      rw [nums_append, nums_append, nums_append, HN.out, HT1.out, HT2.out, HSI.out, txtTo_succ, secT_some HNE.out, size_of HSI.out]
      simp
     go_wp2
     go_roundw
     case rel => exact ⟨i + 1, u ++ (t1 ++ t2 ++ x), rfl, by go_num, by omega, HN2, HK2⟩
     case measure => simp [intOf]; omega
   ·have HTT : Hid (nums u = tMod m.val) := by
     unfold Hid
     rw [tMod_to, HN.out, show i = 12 by omega]
    have HZ : Hid (u.size = (tMod m.val).length) := size_of HTT.out
    have hq1 : ¬ (i : Int) < 12 := by omega
    clear HN
    by_cases hbig : 4096 < u.size
    ·have hbi : (4096 : Int) < (u.size : Int) := by omega
     go_wp2
     go_ret2
     exact ⟨HB.out, Or.inr (Or.inl ⟨HE.out, by rw [← HZ.out]; exact hbig, rfl⟩)⟩
    ·have hbi : ¬ (4096 : Int) < (u.size : Int) := by omega
     go_wp2
     go_ret2
     exact ⟨HB.out, Or.inr (Or.inr ⟨HE.out, by rw [← HZ.out]; omega, u, rfl, HTT.out⟩)⟩
 ·have hb0 : (e == 0) = false := by rw [beq_eq_false_iff_ne]; exact h0
  have hn0 : (e != 0) = true := by rw [bne, hb0]; rfl
  have HN : Hid (e ≠ 0) := h0
  clear h0
  go_enter Tryz.func12, Tryz.ntmps12
  go_wp2_with (refine wpList_load_row rfl 30 (.tmp 1) rfl w.heap.size rfl 30 C (0, 0) _ HR.out Tryz.underlying30 rfl HI30.out ?_)
  refine HCK.out.mono ?_
  rintro r w1 ⟨rfl, b2⟩
  have HB2 : Hid (Below w.heap.size w w1) := HB1.out.trans (b2.mono (by rw [hs1]; omega))
  clear b2 HCK
  go_wp2
  go_ret2
  exact ⟨HB2.out, Or.inl ⟨by rw [HE.out]; exact HN.out, by rw [HE.out]; rfl⟩⟩
end Go.Proofs.YtakpkdckajjooaaGreatDoor
