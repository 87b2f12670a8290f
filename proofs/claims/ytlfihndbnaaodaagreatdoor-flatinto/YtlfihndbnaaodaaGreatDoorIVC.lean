/-
 The program's own valid.Head.
 What the document's Head says, as one reckoning, and that the program's own is the same.
-/
import Derived.Test.YtlfihndbnaaodaaGreatDoorIVB
set_option maxHeartbeats 4000000
set_option maxRecDepth 1000000
namespace Go.Proofs.YtlfihndbnaaodaaGreatDoor
open Go.RowKit
set_option linter.unusedVariables false
theorem data_there (m : ModD) (w : World) : Calls Tryz.prog 45 #[.agg (mcA m)] w fun r w' => r = .returned (.bool (decide (0 < m.most) || m.data.length == 0)) ∧ Below w.heap.size w w' := by
 have HB0 : Hid (Below w.heap.size w (w.alloc (.cells (mcA m) 30))) := (Below.refl _ _).alloc (Nat.le_refl _) _
 unfold mcA at *
 obtain ⟨bb, hbb⟩ : ∃ b, b = (decide (0 < m.most) || m.data.length == 0) := ⟨_, rfl⟩
 rw [← hbb]
 by_cases h : 0 < m.most
 ·have HF : Hid (bb = true) := by unfold Hid; rw [hbb, decide_eq_true h]; rfl
  clear hbb
  go_enter Tryz.func45, Tryz.ntmps45
  go_wp2
  go_ret
  exact ⟨by rw [HF.out]; rfl, HB0.out⟩
 ·have HF : Hid (bb = (m.data.length == 0)) := by unfold Hid; rw [hbb, decide_eq_false h]; rfl
  clear hbb
  have hd : decide (0 < m.most) = false := decide_eq_false h
  rcases hl : (m.data.length == 0) with _ | _
  ·have hl2 : ¬ m.data.length = 0 := by simpa using hl
   have HF2 : Hid (bb = false) := HF.out.trans hl
   go_enter Tryz.func45, Tryz.ntmps45
   go_wp2
   go_ret
   exact ⟨by rw [HF2.out]; simp [hl2], HB0.out⟩
  ·have hl2 : m.data.length = 0 := by simpa using hl
   have HF2 : Hid (bb = true) := HF.out.trans hl
   go_enter Tryz.func45, Tryz.ntmps45
   go_wp2
   go_ret
   exact ⟨by rw [HF2.out]; simp, by have := HB0.out; rw [hl2] at this; exact this⟩
theorem bang {α : Type} [Inhabited α] {L : List α} {p : α → Prop} (h : ∀ d ∈ L, p d) (i : Nat) (hi : i < L.length) : p (L[i]!) := by
 rw [getElem!_pos L i hi]
 exact h _ (List.getElem_mem hi)
theorem head_mod (m : ModD) (w : World) (hA : Amb w) (hm : m.ok w) :
  Calls Tryz.prog 24 #[.agg (mcA m)] w fun r w' => r = .returned (.int .i64 (headErr m)) ∧ Below w.heap.size w w' := by
 have b1 : Below w.heap.size w (w.alloc (.cells (mcA m) 30)) := (Below.refl _ _).alloc (Nat.le_refl _) _
 have h4 := hA.2.2
 obtain ⟨z0, hz0⟩ : ∃ z, z = mChk m := ⟨_, rfl⟩
 obtain ⟨bT, hbT⟩ : ∃ b, b = (m.imports.all (fun d => decide (d.n < (m.types.length : Int))) && m.funcs.all (fun d => decide (d.t < (m.types.length : Int)))) := ⟨_, rfl⟩
 obtain ⟨zE, hzE⟩ : ∃ z, z = expErr ((m.imports.length : Int) + (m.funcs.length : Int)) [] m.exports := ⟨_, rfl⟩
 obtain ⟨zS, hzS⟩ : ∃ z, z = startErr m.types m.imports m.funcs m.start := ⟨_, rfl⟩
 obtain ⟨bL, hbL⟩ : ∃ b, b = m.elems.all (eleOk m.table ((m.imports.length : Int) + (m.funcs.length : Int))) := ⟨_, rfl⟩
 obtain ⟨bD, hbD⟩ : ∃ b, b = (decide (0 < m.most) || m.data.length == 0) := ⟨_, rfl⟩
 have HE : Hid (headErr m = if z0 = 0 then if bT = true then fstE zE (fstE zS (okE (bL && bD) 8)) else 8 else z0) := by rw [hz0, hbT, hzE, hzS, hbL, hbD]; rfl
 have HCK : Hid (∀ w', Below w.heap.size w w' → Calls Tryz.prog 40 #[.agg (mcA m)] w' fun r w'' => r = .returned (.int .i64 z0) ∧ Below w'.heap.size w' w'') := fun w' b => by
  rw [hz0]
  exact check_mod m _ rfl w' (hA.to (b.mono (by omega))) (hm.below b)
 have HCT : Hid (∀ w', Below w.heap.size w w' → z0 = 0 → Calls Tryz.prog 41 #[.agg (mcA m)] w' fun r w'' => r = .returned (.bool bT) ∧ Below w'.heap.size w' w'') := fun w' b h0 => by
  have hm' := hm.below b
  have g := fair_of hm (hz0.symm.trans h0)
  have := g.nT
  exact types_there _ _ _ _ _ _ _ _ _ _ _ _ _ _ _ _ _ _ _ _ _ _ _ _ _ _ m.imports hm'.imports rfl m.funcs hm'.funcs rfl (by omega) bT hbT
 have HCE : Hid (∀ w', Below w.heap.size w w' → z0 = 0 → Calls Tryz.prog 42 #[.agg (mcA m)] w' fun r w'' => r = .returned (.int .i64 zE) ∧ Below w'.heap.size w' w'') := fun w' b h0 => by
  have hm' := hm.below b
  have g := fair_of hm (hz0.symm.trans h0)
  exact check_exports _ _ _ _ _ _ _ _ _ _ _ _ _ _ _ _ _ _ _ _ _ _ _ _ _ _ m.exports hm'.exports rfl g.ex g.nI g.nF zE hzE.symm
 have HCS : Hid (∀ w', Below w.heap.size w w' → z0 = 0 → bT = true → Calls Tryz.prog 43 #[.agg (mcA m)] w' fun r w'' => r = .returned (.int .i64 zS) ∧ Below w'.heap.size w' w'') := fun w' b h0 hT => by
  have hm' := hm.below b
  have g := fair_of hm (hz0.symm.trans h0)
  rw [hbT, Bool.and_eq_true, List.all_eq_true, List.all_eq_true] at hT
  exact check_start _ _ _ _ _ _ _ _ _ _ _ _ _ _ _ _ _ _ _ _ _ _ _ _ _ _ m.types hm'.types rfl m.imports hm'.imports rfl m.funcs hm'.funcs rfl g.nI g.nF g.st.1 g.st.2
   (bang (p := fun d : NamD => 0 ≤ d.n ∧ d.n < (m.types.length : Int)) fun d hd => ⟨g.im d hd, of_decide_eq_true (hT.1 d hd)⟩ : ∀ i, i < m.imports.length → _) (bang (p := fun d : FunD => 0 ≤ d.t ∧ d.t < (m.types.length : Int)) fun d hd => ⟨g.fu d hd, of_decide_eq_true (hT.2 d hd)⟩ : ∀ i, i < m.funcs.length → _) g.ty zS hzS.symm
 have HCL : Hid (∀ w', Below w.heap.size w w' → z0 = 0 → Calls Tryz.prog 44 #[.agg (mcA m)] w' fun r w'' => r = .returned (.bool bL) ∧ Below w'.heap.size w' w'') := fun w' b h0 => by
  have hm' := hm.below b
  have g := fair_of hm (hz0.symm.trans h0)
  exact elems_there _ _ _ _ _ _ _ _ _ _ _ _ _ _ _ _ _ _ _ _ _ _ _ _ _ _ m.elems hm'.elems rfl (fun d hd => (g.el d hd).2) g.nI g.nF bL hbL.symm
 have HCD : Hid (∀ w', Below w.heap.size w w' → Calls Tryz.prog 45 #[.agg (mcA m)] w' fun r w'' => r = .returned (.bool bD) ∧ Below w'.heap.size w' w'') := fun w' _ => by
  rw [hbD]
  exact data_there m w'
 have HBD : Hid (bD = (decide (0 < m.most) || m.data.length == 0)) := hbD
 clear hz0 hbT hzE hzS hbL hbD
 have HB1 : Hid (type_of% b1) := b1
 have HI30 : Hid ((Tryz.prog.info? 30).map (·.size) = some (mcA m).size) := infoMod
 have HRW : Hid ((w.alloc (.cells (mcA m) 30)).heap[w.heap.size]? = some (.cells (mcA m) 30 (0, 0))) := new_block _ _
 have HW0 : Hid (∀ w', Below (w.heap.size + 1) (w.alloc (.cells (mcA m) 30)) w' → Below w.heap.size w w' ∧ w'.heap[w.heap.size]? = some (.cells (mcA m) 30 (0, 0))) := fun w' b => ⟨b1.trans (b.mono (Nat.le_succ _)), (b.block w.heap.size (Nat.lt_succ_self _)).trans HRW.out⟩
 have HV0 : Hid (Below (w.heap.size + 1) (w.alloc (.cells (mcA m) 30)) (w.alloc (.cells (mcA m) 30))) := Below.refl _ _
 clear b1 hA hm h4
 have HCq : Hid (∀ C, mcA m = C → C = mcA m) := fun _ h => h.symm
 generalize hC : mcA m = C at *
 have HC : Hid (mcA m = C) := hC
 clear hC HCq
 go_enter Tryz.func24, Tryz.ntmps24
 go_wp2_with (refine wpList_load_row rfl 30 (.tmp 1) rfl w.heap.size rfl 30 C (0, 0) _ (HW0.out _ HV0.out).2 Tryz.underlying30 rfl HI30.out ?_)
 refine (show Calls _ _ _ _ _ from HCK.out _ (HW0.out _ HV0.out).1).mono ?_
 rintro r w1 ⟨rfl, hb⟩
 have hv := HV0.out.trans (hb.mono (by have := HV0.out.size; rw [show (w.alloc (.cells C 30)).heap.size = w.heap.size + 1 from Array.size_push _] at *; omega))
 have HV1 : Hid (type_of% hv) := hv
 clear hb hv
 by_cases h0 : z0 = 0
 ·skip
  have h0b : (z0 == 0) = true := by simp [h0]
  have H0 : Hid (z0 = 0) := h0
  clear h0
  go_wp2_with (refine wpList_load_row rfl 30 (.tmp 1) rfl w.heap.size rfl 30 C (0, 0) _ (HW0.out _ HV1.out).2 Tryz.underlying30 rfl HI30.out ?_)
  refine (show Calls _ _ _ _ _ from HCT.out _ (HW0.out _ HV1.out).1 H0.out).mono ?_
  rintro r w2 ⟨rfl, hb⟩
  have hv := HV1.out.trans (hb.mono (by have := HV1.out.size; rw [show (w.alloc (.cells C 30)).heap.size = w.heap.size + 1 from Array.size_push _] at *; omega))
  have HV2 : Hid (type_of% hv) := hv
  clear hb hv
  rcases hT : bT with _ | _
  ·skip
   have HF : Hid (headErr m = 8) := by unfold Hid; rw [HE.out, if_pos H0.out, hT, if_neg (by simp)]
   go_wp2
   refine bodyPost_ret (results_tmp rfl _ _ _) rfl ?_
   exact ⟨by rw [HF.out]; rfl, (HW0.out _ HV2.out).1⟩
  ·skip
   have HT : Hid (bT = true) := hT
   go_wp2_with (refine wpList_load_row rfl 30 (.tmp 1) rfl w.heap.size rfl 30 C (0, 0) _ (HW0.out _ HV2.out).2 Tryz.underlying30 rfl HI30.out ?_)
   refine (show Calls _ _ _ _ _ from HCE.out _ (HW0.out _ HV2.out).1 H0.out).mono ?_
   rintro r w3 ⟨rfl, hb⟩
   have hv := HV2.out.trans (hb.mono (by have := HV2.out.size; rw [show (w.alloc (.cells C 30)).heap.size = w.heap.size + 1 from Array.size_push _] at *; omega))
   have HV3 : Hid (type_of% hv) := hv
   clear hb hv
   by_cases hE0 : zE = 0
   ·skip
    have hE0b : (zE == 0) = true := by simp [hE0]
    have HE0 : Hid (zE = 0) := hE0
    clear hE0
    go_wp2_with (refine wpList_load_row rfl 30 (.tmp 1) rfl w.heap.size rfl 30 C (0, 0) _ (HW0.out _ HV3.out).2 Tryz.underlying30 rfl HI30.out ?_)
    refine (show Calls _ _ _ _ _ from HCS.out _ (HW0.out _ HV3.out).1 H0.out HT.out).mono ?_
    rintro r w4 ⟨rfl, hb⟩
    have hv := HV3.out.trans (hb.mono (by have := HV3.out.size; rw [show (w.alloc (.cells C 30)).heap.size = w.heap.size + 1 from Array.size_push _] at *; omega))
    have HV4 : Hid (type_of% hv) := hv
    clear hb hv
    by_cases hS0 : zS = 0
    ·skip
     have hS0b : (zS == 0) = true := by simp [hS0]
     have HS0 : Hid (zS = 0) := hS0
     clear hS0
     go_wp2_with (refine wpList_load_row rfl 30 (.tmp 1) rfl w.heap.size rfl 30 C (0, 0) _ (HW0.out _ HV4.out).2 Tryz.underlying30 rfl HI30.out ?_)
     refine (show Calls _ _ _ _ _ from HCL.out _ (HW0.out _ HV4.out).1 H0.out).mono ?_
     rintro r w5 ⟨rfl, hb⟩
     have hv := HV4.out.trans (hb.mono (by have := HV4.out.size; rw [show (w.alloc (.cells C 30)).heap.size = w.heap.size + 1 from Array.size_push _] at *; omega))
     have HV5 : Hid (type_of% hv) := hv
     clear hb hv
     rcases hL : bL with _ | _
     ·skip
      have HF : Hid (headErr m = 8) := by unfold Hid; rw [HE.out, if_pos H0.out, HT.out, if_pos rfl, HE0.out, fstE_zero, HS0.out, fstE_zero, hL]; rfl --]
      go_wp2
      refine bodyPost_ret (results_tmp rfl _ _ _) rfl ?_
      exact ⟨by rw [HF.out]; rfl, (HW0.out _ HV5.out).1⟩
     ·skip
      have HL : Hid (bL = true) := hL
      obtain rfl := HC.out
      unfold mcA at *
      have HVF : Hid (Below w.heap.size w (w5.alloc (.cells (mcA m) 30))) := (HW0.out _ HV5.out).1.alloc ((HW0.out _ HV5.out).1.size) _
      unfold mcA at HVF
      obtain ⟨c0, c1, c2, c3, c4, c5, c6, c7, c8, c9, c10⟩ := cells11 HV5.out
      by_cases h : 0 < m.most
      ·have hD : bD = true := by rw [HBD.out, decide_eq_true h]; rfl
       have hd : decide (0 < m.most) = true := decide_eq_true h
       have HF : Hid (headErr m = 0) := by unfold Hid; rw [HE.out, if_pos H0.out, HT.out, if_pos rfl, HE0.out, fstE_zero, HS0.out, fstE_zero, HL.out, hD]; rfl
       clear hD
       go_wp2
       refine bodyPost_ret (results_tmp rfl _ _ _) rfl ?_
       exact ⟨by rw [HF.out]; rfl, HVF.out⟩
      ·have hd : decide (0 < m.most) = false := decide_eq_false h
       have hD : bD = (m.data.length == 0) := by rw [HBD.out, hd]; rfl
       generalize m.data.length = nd at *
       by_cases hl : nd = 0
       ·subst hl
        have HF : Hid (headErr m = 0) := by unfold Hid; rw [HE.out, if_pos H0.out, HT.out, if_pos rfl, HE0.out, fstE_zero, HS0.out, fstE_zero, HL.out, hD]; rfl
        clear hD
        go_wp2
        refine bodyPost_ret (results_tmp rfl _ _ _) rfl ?_
        exact ⟨by rw [HF.out]; rfl, HVF.out⟩
       ·have hl2 : (nd == 0) = false := by simp [hl]
        have hl3 : ((nd : Int) == 0) = false := by simp [hl]
        have hl4 : ¬ ((nd : Int) = 0) := by omega
        have HF : Hid (headErr m = 8) := by unfold Hid; rw [HE.out, if_pos H0.out, HT.out, if_pos rfl, HE0.out, fstE_zero, HS0.out, fstE_zero, HL.out, hD, hl2]; rfl
        clear hD
        go_wp2
        refine bodyPost_ret (results_tmp rfl _ _ _) rfl ?_
        exact ⟨by rw [HF.out]; rfl, HVF.out⟩
    ·skip
     have hS0b : (zS == 0) = false := by simp [hS0]
     have HF : Hid (headErr m = zS) := by unfold Hid; rw [HE.out, if_pos H0.out, HT.out, if_pos rfl, HE0.out, fstE_zero, fstE, if_neg hS0]
     go_wp2
     refine bodyPost_ret (results_tmp rfl _ _ _) rfl ?_
     exact ⟨by rw [HF.out]; rfl, (HW0.out _ HV4.out).1⟩
   ·skip
    have hE0b : (zE == 0) = false := by simp [hE0]
    have HF : Hid (headErr m = zE) := by unfold Hid; rw [HE.out, if_pos H0.out, HT.out, if_pos rfl, fstE, if_neg hE0]
    go_wp2
    refine bodyPost_ret (results_tmp rfl _ _ _) rfl ?_
    exact ⟨by rw [HF.out]; rfl, (HW0.out _ HV3.out).1⟩
 ·skip
  have h0b : (z0 == 0) = false := by simp [h0]
  have HF : Hid (headErr m = z0) := by unfold Hid; rw [HE.out, if_neg h0]
  go_wp2
  refine bodyPost_ret (results_tmp rfl _ _ _) rfl ?_
  exact ⟨by rw [HF.out]; rfl, (HW0.out _ HV1.out).1⟩
end Go.Proofs.YtlfihndbnaaodaaGreatDoor
namespace Go.Proofs.YtlfihndbnaaodaaGreatDoor
open Go.RowKit
set_option linter.unusedVariables false
theorem fstE_same (b c : Bool) (e : Int) (he : e ≠ 0) : fstE (okE b e) (okE c e) = okE (b && c) e := by
 cases b <;> cases c <;> simp [fstE, okE, he]
theorem frst_okE {α : Type} (f : α → Bool) (L : List α) (e : Int) (he : e ≠ 0) : frst (fun d => okE (f d) e) L = okE (L.all f) e := by
 induction L with
 | nil => rfl
 | cons x L ih =>
  show fstE (okE (f x) e) (frst (fun d => okE (f d) e) L) = _
  rw [ih, fstE_same _ _ _ he]
  rfl
def eleD (t N : Int) (d : EleD) : Int := fstE (okE (!(t == 0)) 8) (frst (fun x => okE (!decide (N ≤ x)) 8) d.f.xs)
theorem eleD_eq (t N : Int) (d : EleD) : eleD t N d = okE (eleOk t N d) 8 := by
 unfold eleD eleOk
 rw [frst_okE _ _ _ (by decide), fstE_same _ _ _ (by decide)]
 congr 2
 congr 1
 funext x
 by_cases h : N ≤ x
 ·rw [decide_eq_true h, decide_eq_false (by omega)]; rfl
 ·rw [decide_eq_false h, decide_eq_true (by omega)]; rfl
def typD (m : ModD) : Int := fstE (frst (fun d : NamD => okE (!decide ((m.types.length : Int) ≤ d.n)) 8) m.imports) (frst (fun d : FunD => okE (!decide ((m.types.length : Int) ≤ d.t)) 8) m.funcs)
theorem typD_eq (m : ModD) : typD m = okE (m.imports.all (fun d => decide (d.n < (m.types.length : Int))) && m.funcs.all (fun d => decide (d.t < (m.types.length : Int)))) 8 := by
 unfold typD
 have e (a b : Int) : (!decide (a ≤ b)) = decide (b < a) := by
  by_cases h : a ≤ b
  ·rw [decide_eq_true h, decide_eq_false (by omega)]; rfl
  ·rw [decide_eq_false h, decide_eq_true (by omega)]; rfl
 simp only [e]
 rw [frst_okE _ _ _ (by decide), frst_okE _ _ _ (by decide), fstE_same _ _ _ (by decide)]
end Go.Proofs.YtlfihndbnaaodaaGreatDoor
