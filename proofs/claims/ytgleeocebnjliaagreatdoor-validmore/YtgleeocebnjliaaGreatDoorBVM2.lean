/-
 The law of more types, values and locals: a case.
-/
import Derived.Test.YtgleeocebnjliaaGreatDoorBVQ
set_option maxHeartbeats 8000000
set_option maxRecDepth 1000000
namespace Go.Proofs.YtgleeocebnjliaaGreatDoor
open Go.RowKit
set_option linter.unusedVariables false
theorem vmore_10 (m : ModD) (td : SigD) (gd : GloD) (lk : Int) (q : Nat) (w : World) (HA : Hid (Amb w)) (HG : Hid (2 < w.heap.size)) (HM : Hid (m.ok w)) (HTD : Hid (SigD.ok w td)) (HGD : Hid (GloD.ok w gd)) (hl0 : 0 ≤ lk) (hl1 : lk ≤ 255) (hf0 : 0 < m.funcs.length) (hf : m.funcs.length ≤ 16) (htl : m.types.length ≤ 16) (hgl : m.globals.length ≤ 8) (HZ : Hid (modE m = 0))
  (ht : m.types.length < 16) (hg : ¬ m.globals.length < 8)
  (HSO : Hid (∀ W, Below w.heap.size w W → Calls Tryz.prog 21 #[.agg #[.slice m.oT m.types.length m.cT, .slice m.oI m.imports.length m.cI, .slice m.oF m.funcs.length m.cF, .int .i64 m.table, .int .i64 m.pages, .int .i64 m.most, .slice m.oG m.globals.length m.cG, .slice m.oE m.exports.length m.cE, .int .i64 m.start, .slice m.oL m.elems.length m.cL, .slice m.oD m.data.length m.cD], .int .i64 0, .int .i64 0] W fun r w' => r = .returned (.tuple #[.int .i64 0, .int .i64 (q : Int), .bool true]) ∧ Below W.heap.size W w')) :
  Calls Tryz.prog 6 #[.agg #[.slice m.oT m.types.length m.cT, .slice m.oI m.imports.length m.cI, .slice m.oF m.funcs.length m.cF, .int .i64 m.table, .int .i64 m.pages, .int .i64 m.most, .slice m.oG m.globals.length m.cG, .slice m.oE m.exports.length m.cE, .int .i64 m.start, .slice m.oL m.elems.length m.cL, .slice m.oD m.data.length m.cD], .agg #[.slice td.i.o td.i.n td.i.cap, .slice td.r.o td.r.n td.r.cap], .agg #[.int .u8 gd.k, .bool gd.m, .int .i64 gd.s], .int .u8 lk] w fun r w' => r = .returned (.bool true) ∧ Below w.heap.size w w' := by
 have HB : Hid (BX m td gd w (((w.alloc (.cells #[.slice m.oT m.types.length m.cT, .slice m.oI m.imports.length m.cI, .slice m.oF m.funcs.length m.cF, .int .i64 m.table, .int .i64 m.pages, .int .i64 m.most, .slice m.oG m.globals.length m.cG, .slice m.oE m.exports.length m.cE, .int .i64 m.start, .slice m.oL m.elems.length m.cL, .slice m.oD m.data.length m.cD] 30)).alloc (.cells #[.slice td.i.o td.i.n td.i.cap, .slice td.r.o td.r.n td.r.cap] 46)).alloc (.cells #[.int .u8 gd.k, .bool gd.m, .int .i64 gd.s] 49))) := BX.first m td gd w
 have f0 := cell_at HB.out.b0 0 rfl
 have f1 := cell_at HB.out.b0 1 rfl
 have f2 := cell_at HB.out.b0 2 rfl
 have f3 := cell_at HB.out.b0 3 rfl
 have f4 := cell_at HB.out.b0 4 rfl
 have f5 := cell_at HB.out.b0 5 rfl
 have f6 := cell_at HB.out.b0 6 rfl
 have f7 := cell_at HB.out.b0 7 rfl
 have f8 := cell_at HB.out.b0 8 rfl
 have f9 := cell_at HB.out.b0 9 rfl
 have f10 := cell_at HB.out.b0 10 rfl
 go_enter Tryz.func6, Tryz.ntmps6
 go_wp2_with fail
 refine (HSO.out _ HB.out.bel).mono ?_
 rintro r w1 ⟨rfl, b1⟩
 have HB1 : Hid (BX m td gd w w1) := HB.out.under b1
 clear b1 HSO HB f0 f1 f2 f3 f4 f5 f6 f7 f8 f9 f10
 have HRF : Hid (type_of% (vrefused w1 (HA.out.to (HB1.out.bel.mono (by have := HA.out.2.2; omega))) (Nat.lt_of_lt_of_le HG.out HB1.out.bel.size))) := vrefused w1 (HA.out.to (HB1.out.bel.mono (by have := HA.out.2.2; omega))) (Nat.lt_of_lt_of_le HG.out HB1.out.bel.size)
 go_wp2_with fail
 refine HRF.out.mono ?_
 rintro r w2 ⟨rfl, b2⟩
 have HB2 : Hid (BX m td gd w w2) := HB1.out.under b2
 have g0 := cell_at HB2.out.b0 0 rfl
 have g1 := cell_at HB2.out.b0 1 rfl
 have g2 := cell_at HB2.out.b0 2 rfl
 have g3 := cell_at HB2.out.b0 3 rfl
 have g4 := cell_at HB2.out.b0 4 rfl
 have g5 := cell_at HB2.out.b0 5 rfl
 have g6 := cell_at HB2.out.b0 6 rfl
 have g7 := cell_at HB2.out.b0 7 rfl
 have g8 := cell_at HB2.out.b0 8 rfl
 have g9 := cell_at HB2.out.b0 9 rfl
 have g10 := cell_at HB2.out.b0 10 rfl
 have HB3 : Hid (BX m td gd w (w2.alloc (.cells #[.slice m.oT m.types.length m.cT, .slice m.oI m.imports.length m.cI, .slice m.oF m.funcs.length m.cF, .int .i64 m.table, .int .i64 m.pages, .int .i64 m.most, .slice m.oG m.globals.length m.cG, .slice m.oE m.exports.length m.cE, .int .i64 m.start, .slice m.oL m.elems.length m.cL, .slice m.oD m.data.length m.cD] 30))) := HB2.out.alloc _
 have k0 := cell_at HB3.out.b0 0 rfl
 have HY : Hid ((w2.alloc (.cells #[.slice m.oT m.types.length m.cT, .slice m.oI m.imports.length m.cI, .slice m.oF m.funcs.length m.cF, .int .i64 m.table, .int .i64 m.pages, .int .i64 m.most, .slice m.oG m.globals.length m.cG, .slice m.oE m.exports.length m.cE, .int .i64 m.start, .slice m.oL m.elems.length m.cL, .slice m.oD m.data.length m.cD] 30)).heap[w2.heap.size]? = some (.cells #[.slice m.oT m.types.length m.cT, .slice m.oI m.imports.length m.cI, .slice m.oF m.funcs.length m.cF, .int .i64 m.table, .int .i64 m.pages, .int .i64 m.most, .slice m.oG m.globals.length m.cG, .slice m.oE m.exports.length m.cE, .int .i64 m.start, .slice m.oL m.elems.length m.cL, .slice m.oD m.data.length m.cD] 30 (0, 0))) := heap_alloc_new w2 _
 have HYW : Hid (w.heap.size + 3 ≤ w2.heap.size) := HB2.out.sz
 have htl' : (m.types.length : Int) ≤ 16 := by omega
 clear b2 HB1 HRF HB2
 have HBX : Hid (BX m td gd w (w2.alloc (.cells #[.slice m.oT m.types.length m.cT, .slice m.oI m.imports.length m.cI, .slice m.oF m.funcs.length m.cF, .int .i64 m.table, .int .i64 m.pages, .int .i64 m.most, .slice m.oG m.globals.length m.cG, .slice m.oE m.exports.length m.cE, .int .i64 m.start, .slice m.oL m.elems.length m.cL, .slice m.oD m.data.length m.cD] 30))) := HB3
 obtain ⟨Y, hYe⟩ : ∃ Y, Y = w2.heap.size := ⟨_, rfl⟩
 rw [← hYe] at HY HYW
 have HYE : Hid (Y = w2.heap.size) := hYe
 obtain ⟨bb, ff, ho, hbN, hc⟩ := HM.out.funcs.cellAt (fun e => by rw [e] at hf0; exact absurd hf0 (by simp))
 have HOF : Hid (m.oF = some ⟨bb, ff, none⟩) := ho
 obtain ⟨fd, hfd⟩ : ∃ fd, m.funcs[0]! = fd := ⟨_, rfl⟩
 have HFE : Hid (m.funcs[0]! = fd) := hfd
 have HFC : Hid (∀ W', Below w.heap.size w W' → W'.cell? ⟨bb, ff, none⟩ = some (.int .i64 fd.t) ∧ W'.cell? ⟨bb, ff + 1, none⟩ = some (.slice fd.l.o fd.l.n fd.l.cap) ∧ W'.cell? ⟨bb, ff + 2, none⟩ = some (.slice fd.o fd.b.length fd.cap)) := fun W' b => by
  have h0 := hc W' b 0 hf0 0 (by omega)
  have h1 := hc W' b 0 hf0 1 (by omega)
  have h2 := hc W' b 0 hf0 2 (by omega)
  simp only [Nat.zero_mul, Nat.add_zero] at h0 h1 h2
  rw [hfd] at h0 h1 h2
  exact ⟨h0, h1, h2⟩
 have hmem : m.funcs[0]! ∈ m.funcs := by rw [getElem!_pos m.funcs 0 hf0]; exact List.getElem_mem hf0
 have HLO : Hid ((m.funcs[0]!).l.ok .u8 w ∧ (m.funcs[0]!).l.n ≤ 16) := ⟨(HM.out.funcs.all _ hmem).2.1, (mod_small HM.out (head_zero (mod_zero HZ.out).1).1).2 _ hmem |>.2.1⟩
 have HFD : Hid (FunD.ok w (m.funcs[0]!)) := HM.out.funcs.all _ hmem
 have HFM : Hid (m.funcs[0]! ∈ m.funcs) := hmem
 rw [hfd] at HLO HFD
 have hfi0 : (0 : Int) < (m.funcs.length : Int) := by omega
 clear HB3 hYe hc ho hmem k0 hfd
 by_cases hl : fd.l.n < 16
 ·have hti : (m.types.length : Int) < 16 := by omega
  have k0 := cell_at HBX.out.b0 0 rfl
  have k6 := cell_at HBX.out.b0 6 rfl
  have k2 := (cell_at HBX.out.b0 2 rfl).trans (show some (Value.slice m.oF m.funcs.length m.cF) = some (.slice (some ⟨bb, ff, none⟩) m.funcs.length m.cF) by rw [HOF.out])
  obtain ⟨e0, e1, e2⟩ := HFC.out _ HBX.out.bel
  go_wp2_with fail
  rw [← HYE.out]
  generalize (w2.alloc (.cells #[.slice m.oT m.types.length m.cT, .slice m.oI m.imports.length m.cI, .slice m.oF m.funcs.length m.cF, .int .i64 m.table, .int .i64 m.pages, .int .i64 m.most, .slice m.oG m.globals.length m.cG, .slice m.oE m.exports.length m.cE, .int .i64 m.start, .slice m.oL m.elems.length m.cL, .slice m.oD m.data.length m.cD] 30)) = V at *
  clear k0 k2 k6 e0 e1 e2
  have HKP : Hid (∀ W', BX m td gd w W' → W'.cell? ⟨w.heap.size, 0, none⟩ = some (.slice m.oT m.types.length m.cT) ∧ W'.cell? ⟨w.heap.size + 1, 0, none⟩ = some (.slice td.i.o td.i.n td.i.cap) ∧ W'.cell? ⟨w.heap.size + 1, 1, none⟩ = some (.slice td.r.o td.r.n td.r.cap)) := fun W' h => ⟨cell_at h.b0 0 rfl, cell_at h.b1 0 rfl, cell_at h.b1 1 rfl⟩
  have HCP : Hid (∀ W', BX m td gd w W' → Calls Tryz.prog 23 #[.slice m.oT m.types.length m.cT] W' fun e w' => ∃ (o' : Option Addr) (cap' : Nat), e = .returned (.slice o' m.types.length cap') ∧ w'.ownsRow W'.heap.size 46 2 (.slice o' m.types.length cap') m.types.length (m.types.flatMap SigD.cells) ∧ Below W'.heap.size W' w') := fun W' h => vcopyS m.oT m.types.length m.cT (m.types.flatMap SigD.cells) (flat_len SigD.cells 2 (fun _ => rfl) _) (flat_one SigD.cells (fun a u hu => by simp only [SigD.cells, NumD.v, List.mem_cons, List.not_mem_nil, or_false] at hu; rcases hu with rfl | rfl <;> rfl) _) HM.out.types.nil (by omega) W' (rows_all (k := 2) (by decide) (fun _ => rfl) (HM.out.below h.bel).types)
  obtain ⟨i0, hi, hz0, hz1, hz2⟩ := info_parts infoS9
  go_region_held3 (fun w' => w'.cell? ⟨w.heap.size, 0, none⟩ = some (.slice m.oT m.types.length m.cT) ∧ w'.cell? ⟨w.heap.size + 1, 0, none⟩ = some (.slice td.i.o td.i.n td.i.cap) ∧ w'.cell? ⟨w.heap.size + 1, 1, none⟩ = some (.slice td.r.o td.r.n td.r.cap))
   (first | exact HKP.out _ HBX.out.drew | exact HKP.out _ (HBX.out.drew.alloc _) | exact HKP.out _ HBC.out | exact HKP.out _ (HBC.out.alloc _) | exact HKP.out _ HBA.out | exact HKP.out _ (HBS.out _) | go_keep)
   (first
    | (go_at_call 23; refine (HCP.out _ ?_).mono ?_; (first | exact HBX.out.drew | exact HBX.out.drew.alloc _); rintro r wc ⟨oc, cc, rfl, how, bc⟩; have HVC : Hid (Below V.heap.size V wc) := (by first | exact (Below.refl _ _).drew.trans bc | exact ((Below.refl _ _).drew.alloc (Nat.le_refl _) _).trans (bc.mono (by simp))); have HBC : Hid (BX m td gd w wc) := HBX.out.under HVC.out; have HOC : Hid (type_of% how) := how; have HLC : Hid (type_of% bc) := bc; (try have HNB : Hid (wc.heap[V.heap.size]? = some (.cells #[.slice td.i.o td.i.n td.i.cap, .slice td.r.o td.r.n td.r.cap] 46 (0, 0))) := (by exact (bc.block _ (by simp)).trans (heap_alloc_new _ _))); clear how bc)
    | ((first
      | refine wp_append_lies _ (.tmp 32) (.tmp 34) 22 rfl _ 46 i0 (.agg #[.slice none 0 0, .slice none 0 0]) 2 48 Tryz.underlying22 hi hz0 hz1 hz2 rfl (by decide) _ m.types.length _ rfl (HOC.out.alloc _) ⟨_, 0, none⟩ 1 1 [.slice td.i.o td.i.n td.i.cap, .slice td.r.o td.r.n td.r.cap] rfl rfl (World.news_of_block (cs := #[.slice td.i.o td.i.n td.i.cap, .slice td.r.o td.r.n td.r.cap]) (t := 46) (fr := (0, 0)) (heap_alloc_new _ _)) ?one ?a2 ?a3 ?a4 ?base _ rfl ?_
      | refine wp_append_lies _ (.tmp 32) (.tmp 34) 22 rfl _ 46 i0 (.agg #[.slice none 0 0, .slice none 0 0]) 2 48 Tryz.underlying22 hi hz0 hz1 hz2 rfl (by decide) _ m.types.length _ rfl HOC.out ⟨_, 0, none⟩ 1 1 [.slice td.i.o td.i.n td.i.cap, .slice td.r.o td.r.n td.r.cap] rfl rfl (World.news_of_block (cs := #[.slice td.i.o td.i.n td.i.cap, .slice td.r.o td.r.n td.r.cap]) (t := 46) (fr := (0, 0)) HNB.out) ?one ?a2 ?a3 ?a4 ?base _ rfl ?_); (case one => simp [Value.oneCell']); (case a2 => decide); (case a3 => (unfold maxLen; omega)); (case a4 => omega); (case base => (have := HLC.out.size; simp at this ⊢; omega)); intro ga ca wa owna growa hata hlta; have HVA : Hid (Below V.heap.size V wa) := (by first | exact (HVC.out.alloc HVC.out.size _).grown growa (by have := HVC.out.size; simp; omega) (fun i hi => by have := own_base HOC.out hi; simp at this; omega) | exact HVC.out.grown growa HVC.out.size (fun i hi => by have := own_base HOC.out hi; simp at this; omega)); have HBA : Hid (BX m td gd w wa) := HBX.out.under HVA.out; have HYA : Hid (wa.heap[Y]? = some (.cells #[.slice m.oT m.types.length m.cT, .slice m.oI m.imports.length m.cI, .slice m.oF m.funcs.length m.cF, .int .i64 m.table, .int .i64 m.pages, .int .i64 m.most, .slice m.oG m.globals.length m.cG, .slice m.oE m.exports.length m.cE, .int .i64 m.start, .slice m.oL m.elems.length m.cL, .slice m.oD m.data.length m.cD] 30 (0, 0))) := (HVA.out.block _ (some_lt HY.out)).trans HY.out; have fzA : wa.frozen? ⟨Y, 0, none⟩ = false := (by simp [World.frozen?, HYA.out]); have cA := cell_at HYA.out 0 rfl; have HBS : Hid (∀ x, BX m td gd w (wa.setCell ⟨Y, 0, none⟩ x)) := (fun x => HBA.out.chg (Chg.set _ _ _ _) HYW.out); have HGA : Hid (V.heap.size ≤ ga ∧ ga < wa.heap.size) := ⟨(by have h1 := own_base owna (i := ga) rfl; simp at h1; omega), hlta⟩; have HOA : Hid (∃ B, wa.ownsRow B 46 2 (.slice (some ⟨ga, 0, none⟩) (m.types.length + 1) ca) (m.types.length + 1) (m.types.flatMap SigD.cells ++ [.slice td.i.o td.i.n td.i.cap, .slice td.r.o td.r.n td.r.cap])) := ⟨_, owna⟩; clear owna growa hata hlta))
  all_goals
   have HTT : Hid (OneMore 46 2 SigD.cells SigD.ok w (wa.setCell ⟨Y, 0, none⟩ (.slice (some ⟨ga, 0, none⟩) (m.types.length + 1) ca)) Y m.oT m.cT m.types (some ⟨ga, 0, none⟩) ca (m.types ++ [td])) := by
    obtain ⟨B, ho⟩ := HOA.out
    have h1 := HGA.out
    have h2 := some_lt HY.out
    have h3 := HBX.out.bel.size
    refine Or.inr ⟨ga, B, td, rfl, by omega, rfl, HTD.out, by omega, Nat.lt_of_lt_of_le h1.2 (Chg.set Y 0 wa _).size, own_chg (P := Y) ?_ (Chg.set Y 0 wa _) (by simp only [Value.ownBlock, ne_eq, Option.some.injEq]; omega)⟩
    rw [List.length_append, List.flatMap_append]
    exact ho
   have HY2 : Hid ((wa.setCell ⟨Y, 0, none⟩ (.slice (some ⟨ga, 0, none⟩) (m.types.length + 1) ca)).heap[Y]? = some (.cells #[.slice (some ⟨ga, 0, none⟩) (m.types ++ [td]).length ca, .slice m.oI m.imports.length m.cI, .slice m.oF m.funcs.length m.cF, .int .i64 m.table, .int .i64 m.pages, .int .i64 m.most, .slice m.oG m.globals.length m.cG, .slice m.oE m.exports.length m.cE, .int .i64 m.start, .slice m.oL m.elems.length m.cL, .slice m.oD m.data.length m.cD] 30 (0, 0))) := by
    unfold Hid
    rw [show (m.types ++ [td]).length = m.types.length + 1 from by simp]
    simp [World.setCell, Array.getElem?_modify, HYA.out]
   have HBX2 : Hid (BX m td gd w (wa.setCell ⟨Y, 0, none⟩ (.slice (some ⟨ga, 0, none⟩) (m.types.length + 1) ca))) := HBS.out _
   have hbx2 := HBX2.out
   generalize (wa.setCell ⟨Y, 0, none⟩ (.slice (some ⟨ga, 0, none⟩) (m.types.length + 1) ca)) = V2 at *
   obtain ⟨oT, cT, LT, hn1, hn2⟩ : ∃ oT cT LT, OneMore 46 2 SigD.cells SigD.ok w V2 Y m.oT m.cT m.types oT cT LT ∧ V2.heap[Y]? = some (.cells #[.slice oT LT.length cT, .slice m.oI m.imports.length m.cI, .slice m.oF m.funcs.length m.cF, .int .i64 m.table, .int .i64 m.pages, .int .i64 m.most, .slice m.oG m.globals.length m.cG, .slice m.oE m.exports.length m.cE, .int .i64 m.start, .slice m.oL m.elems.length m.cL, .slice m.oD m.data.length m.cD] 30 (0, 0)) := ⟨_, _, _, HTT.out, HY2.out⟩
   clear HTT HY2 HBX2 HOA HGA HYA fzA cA HBS HBA HVA HOC HLC HVC HBC HBX HY HKP HCP hi hz0 hz1 hz2
   try clear HNB
   have HBX : Hid (BX m td gd w V2) := hbx2
   have HY : Hid (V2.heap[Y]? = some (.cells #[.slice oT LT.length cT, .slice m.oI m.imports.length m.cI, .slice m.oF m.funcs.length m.cF, .int .i64 m.table, .int .i64 m.pages, .int .i64 m.most, .slice m.oG m.globals.length m.cG, .slice m.oE m.exports.length m.cE, .int .i64 m.start, .slice m.oL m.elems.length m.cL, .slice m.oD m.data.length m.cD] 30 (0, 0))) := hn2
   have HT : Hid (type_of% hn1) := hn1
   clear hn1 hn2 hbx2
   have hgi : ¬ (m.globals.length : Int) < 8 := by omega
   obtain ⟨oG, cG, LG, hoG, hcG, hLG⟩ : ∃ (o : Option Addr) (c : Nat) (L : List GloD), o = m.oG ∧ c = m.cG ∧ L = m.globals := ⟨_, _, _, rfl, rfl, rfl⟩
   have HGl : Hid (OneMore 49 3 GloD.cells GloD.ok w V2 Y m.oG m.cG m.globals oG cG LG) := Or.inl ⟨hoG, hcG, hLG⟩
   have HY' : Hid (V2.heap[Y]? = some (.cells #[.slice oT LT.length cT, .slice m.oI m.imports.length m.cI, .slice m.oF m.funcs.length m.cF, .int .i64 m.table, .int .i64 m.pages, .int .i64 m.most, .slice oG LG.length cG, .slice m.oE m.exports.length m.cE, .int .i64 m.start, .slice m.oL m.elems.length m.cL, .slice m.oD m.data.length m.cD] 30 (0, 0))) := by unfold Hid; rw [hoG, hcG, hLG]; exact HY.out
   clear HY hoG hcG hLG
   have HY : Hid (type_of% HY'.out) := HY'.out
   clear HY'
   have k0 := cell_at HBX.out.b0 0 rfl
   have k6 := cell_at HBX.out.b0 6 rfl
   have k2 := (cell_at HBX.out.b0 2 rfl).trans (show some (Value.slice m.oF m.funcs.length m.cF) = some (.slice (some ⟨bb, ff, none⟩) m.funcs.length m.cF) by rw [HOF.out])
   obtain ⟨e0, e1, e2⟩ := HFC.out _ HBX.out.bel
   have HCK9 : Hid (∀ W', BX m td gd w W' → Calls Tryz.prog 25 #[.slice fd.l.o fd.l.n fd.l.cap] W' fun e w' => ∃ (o' : Option Addr) (cap' : Nat), e = .returned (.slice o' fd.l.n cap') ∧ w'.ownsRow W'.heap.size 47 1 (.slice o' fd.l.n cap') fd.l.n (fd.l.xs.map (Value.int .u8)) ∧ Below W'.heap.size W' w') := fun W' h => vcopyK fd.l.o fd.l.n fd.l.cap (fd.l.xs.map (Value.int .u8)) (by rw [List.length_map, HLO.out.1.len, Nat.mul_one]) (fun u hu => by obtain ⟨x, _, rfl⟩ := List.mem_map.1 hu; rfl) HLO.out.1.nil (by have := HLO.out.2; omega) W' (num_news (HLO.out.1.below h.bel))
   have HCF9 : Hid (∀ W', BX m td gd w W' → Calls Tryz.prog 26 #[.slice m.oF m.funcs.length m.cF] W' fun e w' => ∃ (o' : Option Addr) (cap' : Nat), e = .returned (.slice o' m.funcs.length cap') ∧ w'.ownsRow W'.heap.size 57 3 (.slice o' m.funcs.length cap') m.funcs.length (m.funcs.flatMap FunD.cells) ∧ Below W'.heap.size W' w') := fun W' h => vcopyF m.oF m.funcs.length m.cF (m.funcs.flatMap FunD.cells) (flat_len3 _) (fun_one _) HM.out.funcs.nil (by omega) W' (rows_news (HM.out.below h.bel).funcs)
   rw [HOF.out] at HCF9
   obtain ⟨i0, hi, hz0, hz1, hz2⟩ := info_parts infoK9
   obtain ⟨ln, hln⟩ : ∃ ln, fd.l.n = ln := ⟨_, rfl⟩
   have HLN : Hid (fd.l.n = ln) := hln
   rw [hln] at hl HCK9 e1
   have hli : (ln : Int) < 16 := by omega
   clear hln
   go_wp2_with fail
   refine (HCK9.out _ (HBX.out.alloc _)).mono ?_
   rintro r wk ⟨ok9, ck9, rfl, how, bk⟩
   have hvk := ((Below.refl _ _).alloc (Nat.le_refl _) _).trans (bk.mono (by simp))
   have HVK : Hid (type_of% hvk) := hvk
   have hfb := (bk.block _ (by simp)).trans (heap_alloc_new _ _)
   try simp only [World.size_alloc] at hfb
   obtain ⟨Fb, hFb⟩ : ∃ Fb, Fb = V2.heap.size := ⟨_, rfl⟩
   rw [← hFb] at hfb
   rw [← hFb]
   have HVF : Hid (V2.heap.size = Fb) := by unfold Hid; rw [hFb]; try simp
   have HFBY : Hid (Y < Fb ∧ w.heap.size + 3 ≤ Fb ∧ Fb < wk.heap.size) := by
    have h1 := some_lt HY.out
    have h2 := HBX.out.sz
    have h3 := some_lt hfb
    rw [HVF.out] at h1 h2
    exact ⟨h1, h2, h3⟩
   have HFB : Hid (type_of% hfb) := hfb
   have HOK9 : Hid (wk.ownsRow (Fb + 1) 47 1 (.slice ok9 ln ck9) ln (fd.l.xs.map (Value.int .u8))) := by
    have h := how
    try simp only [World.size_alloc] at h
    rw [hFb]
    exact h
   clear how bk hvk hfb hFb HCK9 k0 k2 k6 e0 e1 e2
   go_wp2_with (at_builtin; refine wpList_append_lies _ rfl _ _ 41 rfl _ 47 i0 (.int .u8 0) 1 1 Tryz.underlying41 hi hz0 hz1 hz2 rfl (by decide) _ ln _ rfl (HOK9.out.alloc _) ⟨_, 0, none⟩ 1 1 [.int .u8 lk] rfl rfl (World.news_of_block (cs := #[.int .u8 lk]) (t := 47) (fr := (0, 0)) (heap_alloc_new _ _)) ?one ?a2 ?a3 ?a4 ?base _ rfl ?_)
   case one => simp [Value.oneCell']
   case a2 => decide
   case a3 => (unfold maxLen; omega)
   case a4 => omega
   case base => (have := HFBY.out; simp; omega)
   intro gk cl wl ownl growl hatl hltl
   have hwl : Below (Fb + 1) wk wl := ((Below.refl _ _).alloc (by have := HFBY.out; omega) _).grown growl (by have := HFBY.out; simp; omega) (fun i hi => own_base HOK9.out hi)
   have hvl : Below V2.heap.size V2 wl := HVK.out.trans (hwl.mono (by have := HVF.out; omega))
   have HVL : Hid (type_of% hvl) := hvl
   have HFL : Hid (wl.heap[Fb]? = some (.cells #[.int .i64 fd.t, .slice fd.l.o ln fd.l.cap, .slice fd.o fd.b.length fd.cap] 57 (0, 0))) := (hwl.block Fb (by omega)).trans HFB.out
   have fzl : wl.frozen? ⟨Fb, 1, none⟩ = false := by simp [World.frozen?, HFL.out]
   have ccl := cell_at HFL.out 1 rfl
   have HGK : Hid (Fb + 1 ≤ gk ∧ gk < wl.heap.size) := ⟨own_base ownl (i := gk) rfl, hltl⟩
   have HOL : Hid (type_of% ownl) := ownl
   have hch1 : Chg Fb wl (wl.setCell ⟨Fb, 1, none⟩ (.slice (some ⟨gk, 0, none⟩) (ln + 1) cl)) := Chg.set _ _ _ _
   have hvx : Below V2.heap.size V2 (wl.setCell ⟨Fb, 1, none⟩ (.slice (some ⟨gk, 0, none⟩) (ln + 1) cl)) := hvl.trans (hch1.below (by have := HVF.out; omega) hvl.size)
   have HFX : Hid ((wl.setCell ⟨Fb, 1, none⟩ (.slice (some ⟨gk, 0, none⟩) (ln + 1) cl)).heap[Fb]? = some (.cells #[.int .i64 fd.t, .slice (some ⟨gk, 0, none⟩) (ln + 1) cl, .slice fd.o fd.b.length fd.cap] 57 (0, 0))) := by unfold Hid; simp [World.setCell, Array.getElem?_modify, HFL.out]
   have HOX : Hid (type_of% (own_chg ownl hch1 (by have := HGK.out; simp only [Value.ownBlock, ne_eq, Option.some.injEq]; omega))) := own_chg ownl hch1 (by have := HGK.out; simp only [Value.ownBlock, ne_eq, Option.some.injEq]; omega)
   have HBXX : Hid (type_of% (HBX.out.under hvx)) := HBX.out.under hvx
   have x2 := (cell_at HBXX.out.b0 2 rfl).trans (show some (Value.slice m.oF m.funcs.length m.cF) = some (.slice (some ⟨bb, ff, none⟩) m.funcs.length m.cF) by rw [HOF.out])
   have HVX : Hid (type_of% hvx) := hvx
   have HXS : Hid (wl.heap.size ≤ (wl.setCell ⟨Fb, 1, none⟩ (.slice (some ⟨gk, 0, none⟩) (ln + 1) cl)).heap.size) := hch1.size
   clear ownl growl hatl hltl hwl hvl hch1 hvx HOK9 HFB HVK HVL HFL HOL
   go_wp2_with fail
   refine (HCF9.out _ HBXX.out).mono ?_
   rintro r wF ⟨oF, cF, rfl, how, bF⟩
   obtain ⟨gF, rfl⟩ : ∃ g, oF = some ⟨g, 0, none⟩ := by
    rcases how.2 with ⟨_, hz⟩ | ⟨g, c, cur, hv, _⟩
    ·omega
    ·simp only [Value.slice.injEq] at hv
     exact ⟨g, hv.1⟩
   have hgF : wl.heap.size ≤ gF := Nat.le_trans HXS.out (own_base how (i := gF) rfl)
   have hgFl : gF < wF.heap.size := by
    rcases how.2 with ⟨h1, _⟩ | ⟨g', c', cur, h1, _, h3, _⟩
    ·cases h1
    ·simp only [Value.slice.injEq, Option.some.injEq, Addr.mk.injEq] at h1
     obtain ⟨⟨rfl, _⟩, _⟩ := h1
     exact some_lt h3
   have hvF : Below V2.heap.size V2 wF := HVX.out.trans (bF.mono HVX.out.size)
   have hFF := (bF.block Fb (some_lt HFX.out)).trans HFX.out
   have hOK := own_below HOX.out bF
   have hYF := (hvF.block Y (some_lt HY.out)).trans HY.out
   have hyb := HFBY.out
   have hgk := HGK.out
   have fzY : wF.frozen? ⟨Y, 2, none⟩ = false := by simp [World.frozen?, hYF]
   have cY := (cell_at hYF 2 rfl).trans (show some (Value.slice m.oF m.funcs.length m.cF) = some (.slice (some ⟨bb, ff, none⟩) m.funcs.length m.cF) by rw [HOF.out])
   have hch2 : Chg Y wF (wF.setCell ⟨Y, 2, none⟩ (.slice (some ⟨gF, 0, none⟩) m.funcs.length cF)) := Chg.set _ _ _ _
   have HY2 : Hid ((wF.setCell ⟨Y, 2, none⟩ (.slice (some ⟨gF, 0, none⟩) m.funcs.length cF)).heap[Y]? = some (.cells #[.slice oT LT.length cT, .slice m.oI m.imports.length m.cI, .slice (some ⟨gF, 0, none⟩) m.funcs.length cF, .int .i64 m.table, .int .i64 m.pages, .int .i64 m.most, .slice oG LG.length cG, .slice m.oE m.exports.length m.cE, .int .i64 m.start, .slice m.oL m.elems.length m.cL, .slice m.oD m.data.length m.cD] 30 (0, 0))) := by unfold Hid; simp [World.setCell, Array.getElem?_modify, hYF]
   have HF2 : Hid (type_of% ((hch2.block Fb (some_lt hFF) (by omega)).trans hFF)) := (hch2.block Fb (some_lt hFF) (by omega)).trans hFF
   have HO2 : Hid (type_of% (own_chg how hch2 (by simp only [Value.ownBlock, ne_eq, Option.some.injEq]; omega))) := own_chg how hch2 (by simp only [Value.ownBlock, ne_eq, Option.some.injEq]; omega)
   have HK2 : Hid (type_of% (own_chg hOK hch2 (by simp only [Value.ownBlock, ne_eq, Option.some.injEq]; omega))) := own_chg hOK hch2 (by simp only [Value.ownBlock, ne_eq, Option.some.injEq]; omega)
   have HBW : Hid (Below w.heap.size w (wF.setCell ⟨Y, 2, none⟩ (.slice (some ⟨gF, 0, none⟩) m.funcs.length cF))) := (HBX.out.under hvF).bel.trans (hch2.below (by have := HYW.out; omega) (HBX.out.under hvF).bel.size)
   have HSF : Hid (gF < (wF.setCell ⟨Y, 2, none⟩ (.slice (some ⟨gF, 0, none⟩) m.funcs.length cF)).heap.size) := Nat.lt_of_lt_of_le hgFl hch2.size
   have HGF : Hid (Y < Fb ∧ Fb < gk ∧ gk < gF) := ⟨hyb.1, by omega, by omega⟩
   have hZch : Chg gF (wF.setCell ⟨Y, 2, none⟩ (.slice (some ⟨gF, 0, none⟩) m.funcs.length cF)) ((((wF.setCell ⟨Y, 2, none⟩ (.slice (some ⟨gF, 0, none⟩) m.funcs.length cF)).setCell ⟨gF, 0, none⟩ (.int .i64 fd.t)).setCell ⟨gF, 1, none⟩ (.slice (some ⟨gk, 0, none⟩) (ln + 1) cl)).setCell ⟨gF, 2, none⟩ (.slice fd.o fd.b.length fd.cap)) := ((Chg.set _ _ _ _).trans (Chg.set _ _ _ _)).trans (Chg.set _ _ _ _)
   have hZb : Below V2.heap.size (wF.setCell ⟨Y, 2, none⟩ (.slice (some ⟨gF, 0, none⟩) m.funcs.length cF)) ((((wF.setCell ⟨Y, 2, none⟩ (.slice (some ⟨gF, 0, none⟩) m.funcs.length cF)).setCell ⟨gF, 0, none⟩ (.int .i64 fd.t)).setCell ⟨gF, 1, none⟩ (.slice (some ⟨gk, 0, none⟩) (ln + 1) cl)).setCell ⟨gF, 2, none⟩ (.slice fd.o fd.b.length fd.cap)) := hZch.below (by have := HVF.out; omega) (Nat.le_trans hvF.size hch2.size)
   have hZV : Chg Y V2 ((((wF.setCell ⟨Y, 2, none⟩ (.slice (some ⟨gF, 0, none⟩) m.funcs.length cF)).setCell ⟨gF, 0, none⟩ (.int .i64 fd.t)).setCell ⟨gF, 1, none⟩ (.slice (some ⟨gk, 0, none⟩) (ln + 1) cl)).setCell ⟨gF, 2, none⟩ (.slice fd.o fd.b.length fd.cap)) := ⟨hZb.os.trans (hch2.os.trans hvF.os), hZb.tape.trans (hch2.tape.trans hvF.tape), hZb.output.trans (hch2.output.trans hvF.output), Nat.le_trans hvF.size (Nat.le_trans hch2.size hZb.size), fun k hk hkY => (hZb.block k hk).trans ((hch2.block k (Nat.lt_of_lt_of_le hk hvF.size) hkY).trans (hvF.block k hk))⟩
   have HTZ : Hid (type_of% (HT.out.chg hZV (Or.inl rfl))) := HT.out.chg hZV (Or.inl rfl)
   have HGZ : Hid (type_of% (HGl.out.chg hZV (Or.inl rfl))) := HGl.out.chg hZV (Or.inl rfl)
   have HYZ : Hid (((((wF.setCell ⟨Y, 2, none⟩ (.slice (some ⟨gF, 0, none⟩) m.funcs.length cF)).setCell ⟨gF, 0, none⟩ (.int .i64 fd.t)).setCell ⟨gF, 1, none⟩ (.slice (some ⟨gk, 0, none⟩) (ln + 1) cl)).setCell ⟨gF, 2, none⟩ (.slice fd.o fd.b.length fd.cap)).heap[Y]? = some (.cells #[.slice oT LT.length cT, .slice m.oI m.imports.length m.cI, .slice (some ⟨gF, 0, none⟩) m.funcs.length cF, .int .i64 m.table, .int .i64 m.pages, .int .i64 m.most, .slice oG LG.length cG, .slice m.oE m.exports.length m.cE, .int .i64 m.start, .slice m.oL m.elems.length m.cL, .slice m.oD m.data.length m.cD] 30 (0, 0))) := (hZch.block Y (some_lt HY2.out) (by omega)).trans HY2.out
   have hKZ := own_chg HK2.out hZch (by simp only [Value.ownBlock, ne_eq, Option.some.injEq]; omega)
   have hKN := num_of_own (xs := fd.l.xs ++ [lk]) (by rw [List.map_append]; exact hKZ) (fun x hx => by
    rcases List.mem_append.1 hx with q | q
    ·exact HLO.out.1.wf x q
    ·obtain rfl : x = lk := by simpa using q
     exact wf_u8 hl0 hl1)
   have hwz : Below w.heap.size w ((((wF.setCell ⟨Y, 2, none⟩ (.slice (some ⟨gF, 0, none⟩) m.funcs.length cF)).setCell ⟨gF, 0, none⟩ (.int .i64 fd.t)).setCell ⟨gF, 1, none⟩ (.slice (some ⟨gk, 0, none⟩) (ln + 1) cl)).setCell ⟨gF, 2, none⟩ (.slice fd.o fd.b.length fd.cap)) := HBW.out.trans (hZch.below (by have := HBX.out.bel.size; have := HVF.out; omega) HBW.out.size)
   have hset := set_first (d := ⟨fd.t, ⟨some ⟨gk, 0, none⟩, ln + 1, cl, fd.l.xs ++ [lk]⟩, fd.o, fd.cap, fd.b⟩) HM.out hf0 HBW.out (by have := HBX.out.bel.size; have := HVF.out; omega) HO2.out (.int .i64 fd.t) (.slice (some ⟨gk, 0, none⟩) (ln + 1) cl) (.slice fd.o fd.b.length fd.cap) rfl ⟨HFD.out.1, hKN.1, HFD.out.2.2.1.below hwz, HFD.out.2.2.2.1, HFD.out.2.2.2.2⟩
   have hmd := more_D HM.out hwz HTZ.out HGZ.out hset.1 (by rw [List.length_set]) (fun k => by
    by_cases hk : k = 0
    ·subst hk
     rw [getElem!_pos (m.funcs.set 0 _) 0 (by rw [List.length_set]; exact hf0), List.getElem_set_self, HFE.out]
     exact ⟨rfl, rfl, [lk], rfl⟩
    ·by_cases hkl : k < m.funcs.length
     ·rw [getElem!_pos (m.funcs.set 0 _) k (by rw [List.length_set]; exact hkl), List.getElem_set_ne (fun e => hk e.symm), getElem!_pos m.funcs k hkl]
      exact ⟨rfl, rfl, [], by simp⟩
     ·rw [getElem!_neg (m.funcs.set 0 _) k (by rw [List.length_set]; exact hkl), getElem!_neg m.funcs k hkl]
      exact ⟨rfl, rfl, [], by simp⟩)
   obtain ⟨D, hD⟩ : ∃ D : ModD, D = { m with oT := oT, cT := cT, types := LT, oG := oG, cG := cG, globals := LG, oF := some ⟨gF, 0, none⟩, cF := cF, funcs := m.funcs.set 0 ⟨fd.t, ⟨some ⟨gk, 0, none⟩, ln + 1, cl, fd.l.xs ++ [lk]⟩, fd.o, fd.cap, fd.b⟩ } := ⟨_, rfl⟩
   rw [← hD] at hmd
   have HMC : Hid ((#[.slice oT LT.length cT, .slice m.oI m.imports.length m.cI, .slice (some ⟨gF, 0, none⟩) m.funcs.length cF, .int .i64 m.table, .int .i64 m.pages, .int .i64 m.most, .slice oG LG.length cG, .slice m.oE m.exports.length m.cE, .int .i64 m.start, .slice m.oL m.elems.length m.cL, .slice m.oD m.data.length m.cD] : Array Value) = mcA D) := by unfold Hid; rw [hD]; simp [mcA, List.length_set]
   have HMD0 : Hid (type_of% hmd) := hmd
   have HWZ : Hid (type_of% hwz) := hwz
   have p0 := cell_at HYZ.out 0 rfl
   have p1 := cell_at HYZ.out 1 rfl
   have p2 := cell_at HYZ.out 2 rfl
   have p3 := cell_at HYZ.out 3 rfl
   have p4 := cell_at HYZ.out 4 rfl
   have p5 := cell_at HYZ.out 5 rfl
   have p6 := cell_at HYZ.out 6 rfl
   have p7 := cell_at HYZ.out 7 rfl
   have p8 := cell_at HYZ.out 8 rfl
   have p9 := cell_at HYZ.out 9 rfl
   have p10 := cell_at HYZ.out 10 rfl
   have y2 := cell_at HY2.out 2 rfl
   have f0' := cell_at HF2.out 0 rfl
   have f1' := cell_at HF2.out 1 rfl
   have f2' := cell_at HF2.out 2 rfl
   have HRW : Hid (∃ cur, (wF.setCell ⟨Y, 2, none⟩ (.slice (some ⟨gF, 0, none⟩) m.funcs.length cF)).heap[gF]? = some (.cells cur 57 (0, 0))) := (own_block HO2.out gF rfl).2
   obtain ⟨cur, hcur⟩ := HRW.out
   have z0 : (wF.setCell ⟨Y, 2, none⟩ (.slice (some ⟨gF, 0, none⟩) m.funcs.length cF)).frozen? ⟨gF, 0, none⟩ = false := by simp [World.frozen?, hcur]
   have z1 : (wF.setCell ⟨Y, 2, none⟩ (.slice (some ⟨gF, 0, none⟩) m.funcs.length cF)).frozen? ⟨gF, 1, none⟩ = false := by simp [World.frozen?, hcur]
   have z2 : (wF.setCell ⟨Y, 2, none⟩ (.slice (some ⟨gF, 0, none⟩) m.funcs.length cF)).frozen? ⟨gF, 2, none⟩ = false := by simp [World.frozen?, hcur]
   have hcl (r : Nat) (hr : r < 3) : (wF.setCell ⟨Y, 2, none⟩ (.slice (some ⟨gF, 0, none⟩) m.funcs.length cF)).cell? ⟨gF, r, none⟩ = (FunD.cells fd)[r]? := by
    have a := flat_at FunD.cells 3 (fun _ => rfl) m.funcs 0 r hf0 hr
    rw [← HO2.out.cellAt (0 * 3 + r) (by omega), ← getElem!_pos m.funcs 0 hf0, HFE.out, Nat.zero_mul, Nat.zero_add] at a
    exact a
   have q0 := hcl 0 (by omega)
   have q1 := hcl 1 (by omega)
   have q2 := hcl 2 (by omega)
   simp only [FunD.cells, NumD.v, List.getElem?_cons_zero, List.getElem?_cons_succ] at q0 q1 q2
   clear how bF hgF hgFl hvF hFF hOK hYF hyb hgk hch2 hcl x2 HVX HXS HBXX HFX HOX HCF9 HT HGl HY HBX hZch hZb hZV HTZ HGZ hKZ hKN hwz hset hmd hD HBW HK2 HO2 HF2 HY2 HRW hcur
   go_wp2_with fail
   generalize ((((wF.setCell ⟨Y, 2, none⟩ (.slice (some ⟨gF, 0, none⟩) m.funcs.length cF)).setCell ⟨gF, 0, none⟩ (.int .i64 fd.t)).setCell ⟨gF, 1, none⟩ (.slice (some ⟨gk, 0, none⟩) (ln + 1) cl)).setCell ⟨gF, 2, none⟩ (.slice fd.o fd.b.length fd.cap)) = z at *
   have HCA : Hid (∀ W, Below z.heap.size z W → W.cell? ⟨Y, 0, none⟩ = some (.slice oT LT.length cT) ∧ W.cell? ⟨Y, 1, none⟩ = some (.slice m.oI m.imports.length m.cI) ∧ W.cell? ⟨Y, 2, none⟩ = some (.slice (some ⟨gF, 0, none⟩) m.funcs.length cF) ∧ W.cell? ⟨Y, 3, none⟩ = some (.int .i64 m.table) ∧ W.cell? ⟨Y, 4, none⟩ = some (.int .i64 m.pages) ∧ W.cell? ⟨Y, 5, none⟩ = some (.int .i64 m.most) ∧ W.cell? ⟨Y, 6, none⟩ = some (.slice oG LG.length cG) ∧ W.cell? ⟨Y, 7, none⟩ = some (.slice m.oE m.exports.length m.cE) ∧ W.cell? ⟨Y, 8, none⟩ = some (.int .i64 m.start) ∧ W.cell? ⟨Y, 9, none⟩ = some (.slice m.oL m.elems.length m.cL) ∧ W.cell? ⟨Y, 10, none⟩ = some (.slice m.oD m.data.length m.cD)) := fun W hW => by
    have q := (hW.block Y (some_lt HYZ.out)).trans HYZ.out
    exact ⟨cell_at q 0 rfl, cell_at q 1 rfl, cell_at q 2 rfl, cell_at q 3 rfl, cell_at q 4 rfl, cell_at q 5 rfl, cell_at q 6 rfl, cell_at q 7 rfl, cell_at q 8 rfl, cell_at q 9 rfl, cell_at q 10 rfl⟩
   have HCK : Hid (∀ W, Below z.heap.size z W → Calls Tryz.prog 27 #[.agg #[.slice oT LT.length cT, .slice m.oI m.imports.length m.cI, .slice (some ⟨gF, 0, none⟩) m.funcs.length cF, .int .i64 m.table, .int .i64 m.pages, .int .i64 m.most, .slice oG LG.length cG, .slice m.oE m.exports.length m.cE, .int .i64 m.start, .slice m.oL m.elems.length m.cL, .slice m.oD m.data.length m.cD]] W fun r w' => r = .returned (.int .i64 (mChk D)) ∧ Below W.heap.size W w') := fun W hW => check_mod D _ HMC W (HA.out.to ((HWZ.out.trans (hW.mono HWZ.out.size)).mono (by have := HA.out.2.2; omega))) (HMD0.out.1.below hW)
   have HMD : Hid (∀ W, Below z.heap.size z W → Calls Tryz.prog 15 #[.agg #[.slice oT LT.length cT, .slice m.oI m.imports.length m.cI, .slice (some ⟨gF, 0, none⟩) m.funcs.length cF, .int .i64 m.table, .int .i64 m.pages, .int .i64 m.most, .slice oG LG.length cG, .slice m.oE m.exports.length m.cE, .int .i64 m.start, .slice m.oL m.elems.length m.cL, .slice m.oD m.data.length m.cD]] W fun r w' => r = .returned (.int .i64 (modE D)) ∧ Below W.heap.size W w') := fun W hW => by
    rw [HMC.out]
    exact vmodule D W (HA.out.to ((HWZ.out.trans (hW.mono HWZ.out.size)).mono (by have := HA.out.2.2; omega))) (HMD0.out.1.below hW) (Nat.lt_of_lt_of_le HG.out (HWZ.out.trans (hW.mono HWZ.out.size)).size)
   by_cases hc0 : mChk D = 0
   ·have hm0 := more_values HM.out HMD0.out.2 HZ.out hc0
    rw [hc0] at HCK
    rw [hm0] at HMD
    clear hm0 hc0 HMC HMD0
    go_wp2_with (first | (go_at_call 27; refine (HCK.out _ (Below.refl _ _)).mono ?_; rintro r w6 ⟨rfl, b6⟩; have HB7 : Hid (Below z.heap.size z w6) := b6; obtain ⟨q0, q1, q2, q3, q4, q5, q6, q7, q8, q9, q10⟩ := HCA.out _ b6; clear b6 p0 p1 p2 p3 p4 p5 p6 p7 p8 p9 p10) | (go_at_call 15; refine (HMD.out _ HB7.out).mono ?_; rintro r w7 ⟨rfl, b7⟩; have HB8 : Hid (Below z.heap.size z w7) := HB7.out.trans (b7.mono HB7.out.size); clear b7))
    go_ret
    exact ⟨rfl, HWZ.out.trans (HB8.out.mono HWZ.out.size)⟩
   ·have hm1 := modE_chk hc0
    rw [hm1] at HMD
    clear hm1 HMC HMD0
    generalize mChk D = e at *
    have he : (e == 0) = false := by simpa using hc0
    go_wp2_with (first | (go_at_call 27; refine (HCK.out _ (Below.refl _ _)).mono ?_; rintro r w6 ⟨rfl, b6⟩; have HB7 : Hid (Below z.heap.size z w6) := b6; obtain ⟨q0, q1, q2, q3, q4, q5, q6, q7, q8, q9, q10⟩ := HCA.out _ b6; clear b6 p0 p1 p2 p3 p4 p5 p6 p7 p8 p9 p10) | (go_at_call 15; refine (HMD.out _ HB7.out).mono ?_; rintro r w7 ⟨rfl, b7⟩; have HB8 : Hid (Below z.heap.size z w7) := HB7.out.trans (b7.mono HB7.out.size); clear b7))
    go_ret
    exact ⟨rfl, HWZ.out.trans (HB8.out.mono HWZ.out.size)⟩
 ·have hti : (m.types.length : Int) < 16 := by omega
  have k0 := cell_at HBX.out.b0 0 rfl
  have k6 := cell_at HBX.out.b0 6 rfl
  have k2 := (cell_at HBX.out.b0 2 rfl).trans (show some (Value.slice m.oF m.funcs.length m.cF) = some (.slice (some ⟨bb, ff, none⟩) m.funcs.length m.cF) by rw [HOF.out])
  obtain ⟨e0, e1, e2⟩ := HFC.out _ HBX.out.bel
  go_wp2_with fail
  rw [← HYE.out]
  generalize (w2.alloc (.cells #[.slice m.oT m.types.length m.cT, .slice m.oI m.imports.length m.cI, .slice m.oF m.funcs.length m.cF, .int .i64 m.table, .int .i64 m.pages, .int .i64 m.most, .slice m.oG m.globals.length m.cG, .slice m.oE m.exports.length m.cE, .int .i64 m.start, .slice m.oL m.elems.length m.cL, .slice m.oD m.data.length m.cD] 30)) = V at *
  clear k0 k2 k6 e0 e1 e2
  have HKP : Hid (∀ W', BX m td gd w W' → W'.cell? ⟨w.heap.size, 0, none⟩ = some (.slice m.oT m.types.length m.cT) ∧ W'.cell? ⟨w.heap.size + 1, 0, none⟩ = some (.slice td.i.o td.i.n td.i.cap) ∧ W'.cell? ⟨w.heap.size + 1, 1, none⟩ = some (.slice td.r.o td.r.n td.r.cap)) := fun W' h => ⟨cell_at h.b0 0 rfl, cell_at h.b1 0 rfl, cell_at h.b1 1 rfl⟩
  have HCP : Hid (∀ W', BX m td gd w W' → Calls Tryz.prog 23 #[.slice m.oT m.types.length m.cT] W' fun e w' => ∃ (o' : Option Addr) (cap' : Nat), e = .returned (.slice o' m.types.length cap') ∧ w'.ownsRow W'.heap.size 46 2 (.slice o' m.types.length cap') m.types.length (m.types.flatMap SigD.cells) ∧ Below W'.heap.size W' w') := fun W' h => vcopyS m.oT m.types.length m.cT (m.types.flatMap SigD.cells) (flat_len SigD.cells 2 (fun _ => rfl) _) (flat_one SigD.cells (fun a u hu => by simp only [SigD.cells, NumD.v, List.mem_cons, List.not_mem_nil, or_false] at hu; rcases hu with rfl | rfl <;> rfl) _) HM.out.types.nil (by omega) W' (rows_all (k := 2) (by decide) (fun _ => rfl) (HM.out.below h.bel).types)
  obtain ⟨i0, hi, hz0, hz1, hz2⟩ := info_parts infoS9
  go_region_held3 (fun w' => w'.cell? ⟨w.heap.size, 0, none⟩ = some (.slice m.oT m.types.length m.cT) ∧ w'.cell? ⟨w.heap.size + 1, 0, none⟩ = some (.slice td.i.o td.i.n td.i.cap) ∧ w'.cell? ⟨w.heap.size + 1, 1, none⟩ = some (.slice td.r.o td.r.n td.r.cap))
   (first | exact HKP.out _ HBX.out.drew | exact HKP.out _ (HBX.out.drew.alloc _) | exact HKP.out _ HBC.out | exact HKP.out _ (HBC.out.alloc _) | exact HKP.out _ HBA.out | exact HKP.out _ (HBS.out _) | go_keep)
   (first
    | (go_at_call 23; refine (HCP.out _ ?_).mono ?_; (first | exact HBX.out.drew | exact HBX.out.drew.alloc _); rintro r wc ⟨oc, cc, rfl, how, bc⟩; have HVC : Hid (Below V.heap.size V wc) := (by first | exact (Below.refl _ _).drew.trans bc | exact ((Below.refl _ _).drew.alloc (Nat.le_refl _) _).trans (bc.mono (by simp))); have HBC : Hid (BX m td gd w wc) := HBX.out.under HVC.out; have HOC : Hid (type_of% how) := how; have HLC : Hid (type_of% bc) := bc; (try have HNB : Hid (wc.heap[V.heap.size]? = some (.cells #[.slice td.i.o td.i.n td.i.cap, .slice td.r.o td.r.n td.r.cap] 46 (0, 0))) := (by exact (bc.block _ (by simp)).trans (heap_alloc_new _ _))); clear how bc)
    | ((first
      | refine wp_append_lies _ (.tmp 32) (.tmp 34) 22 rfl _ 46 i0 (.agg #[.slice none 0 0, .slice none 0 0]) 2 48 Tryz.underlying22 hi hz0 hz1 hz2 rfl (by decide) _ m.types.length _ rfl (HOC.out.alloc _) ⟨_, 0, none⟩ 1 1 [.slice td.i.o td.i.n td.i.cap, .slice td.r.o td.r.n td.r.cap] rfl rfl (World.news_of_block (cs := #[.slice td.i.o td.i.n td.i.cap, .slice td.r.o td.r.n td.r.cap]) (t := 46) (fr := (0, 0)) (heap_alloc_new _ _)) ?one ?a2 ?a3 ?a4 ?base _ rfl ?_
      | refine wp_append_lies _ (.tmp 32) (.tmp 34) 22 rfl _ 46 i0 (.agg #[.slice none 0 0, .slice none 0 0]) 2 48 Tryz.underlying22 hi hz0 hz1 hz2 rfl (by decide) _ m.types.length _ rfl HOC.out ⟨_, 0, none⟩ 1 1 [.slice td.i.o td.i.n td.i.cap, .slice td.r.o td.r.n td.r.cap] rfl rfl (World.news_of_block (cs := #[.slice td.i.o td.i.n td.i.cap, .slice td.r.o td.r.n td.r.cap]) (t := 46) (fr := (0, 0)) HNB.out) ?one ?a2 ?a3 ?a4 ?base _ rfl ?_); (case one => simp [Value.oneCell']); (case a2 => decide); (case a3 => (unfold maxLen; omega)); (case a4 => omega); (case base => (have := HLC.out.size; simp at this ⊢; omega)); intro ga ca wa owna growa hata hlta; have HVA : Hid (Below V.heap.size V wa) := (by first | exact (HVC.out.alloc HVC.out.size _).grown growa (by have := HVC.out.size; simp; omega) (fun i hi => by have := own_base HOC.out hi; simp at this; omega) | exact HVC.out.grown growa HVC.out.size (fun i hi => by have := own_base HOC.out hi; simp at this; omega)); have HBA : Hid (BX m td gd w wa) := HBX.out.under HVA.out; have HYA : Hid (wa.heap[Y]? = some (.cells #[.slice m.oT m.types.length m.cT, .slice m.oI m.imports.length m.cI, .slice m.oF m.funcs.length m.cF, .int .i64 m.table, .int .i64 m.pages, .int .i64 m.most, .slice m.oG m.globals.length m.cG, .slice m.oE m.exports.length m.cE, .int .i64 m.start, .slice m.oL m.elems.length m.cL, .slice m.oD m.data.length m.cD] 30 (0, 0))) := (HVA.out.block _ (some_lt HY.out)).trans HY.out; have fzA : wa.frozen? ⟨Y, 0, none⟩ = false := (by simp [World.frozen?, HYA.out]); have cA := cell_at HYA.out 0 rfl; have HBS : Hid (∀ x, BX m td gd w (wa.setCell ⟨Y, 0, none⟩ x)) := (fun x => HBA.out.chg (Chg.set _ _ _ _) HYW.out); have HGA : Hid (V.heap.size ≤ ga ∧ ga < wa.heap.size) := ⟨(by have h1 := own_base owna (i := ga) rfl; simp at h1; omega), hlta⟩; have HOA : Hid (∃ B, wa.ownsRow B 46 2 (.slice (some ⟨ga, 0, none⟩) (m.types.length + 1) ca) (m.types.length + 1) (m.types.flatMap SigD.cells ++ [.slice td.i.o td.i.n td.i.cap, .slice td.r.o td.r.n td.r.cap])) := ⟨_, owna⟩; clear owna growa hata hlta))
  all_goals
   have HTT : Hid (OneMore 46 2 SigD.cells SigD.ok w (wa.setCell ⟨Y, 0, none⟩ (.slice (some ⟨ga, 0, none⟩) (m.types.length + 1) ca)) Y m.oT m.cT m.types (some ⟨ga, 0, none⟩) ca (m.types ++ [td])) := by
    obtain ⟨B, ho⟩ := HOA.out
    have h1 := HGA.out
    have h2 := some_lt HY.out
    have h3 := HBX.out.bel.size
    refine Or.inr ⟨ga, B, td, rfl, by omega, rfl, HTD.out, by omega, Nat.lt_of_lt_of_le h1.2 (Chg.set Y 0 wa _).size, own_chg (P := Y) ?_ (Chg.set Y 0 wa _) (by simp only [Value.ownBlock, ne_eq, Option.some.injEq]; omega)⟩
    rw [List.length_append, List.flatMap_append]
    exact ho
   have HY2 : Hid ((wa.setCell ⟨Y, 0, none⟩ (.slice (some ⟨ga, 0, none⟩) (m.types.length + 1) ca)).heap[Y]? = some (.cells #[.slice (some ⟨ga, 0, none⟩) (m.types ++ [td]).length ca, .slice m.oI m.imports.length m.cI, .slice m.oF m.funcs.length m.cF, .int .i64 m.table, .int .i64 m.pages, .int .i64 m.most, .slice m.oG m.globals.length m.cG, .slice m.oE m.exports.length m.cE, .int .i64 m.start, .slice m.oL m.elems.length m.cL, .slice m.oD m.data.length m.cD] 30 (0, 0))) := by
    unfold Hid
    rw [show (m.types ++ [td]).length = m.types.length + 1 from by simp]
    simp [World.setCell, Array.getElem?_modify, HYA.out]
   have HBX2 : Hid (BX m td gd w (wa.setCell ⟨Y, 0, none⟩ (.slice (some ⟨ga, 0, none⟩) (m.types.length + 1) ca))) := HBS.out _
   have hbx2 := HBX2.out
   generalize (wa.setCell ⟨Y, 0, none⟩ (.slice (some ⟨ga, 0, none⟩) (m.types.length + 1) ca)) = V2 at *
   obtain ⟨oT, cT, LT, hn1, hn2⟩ : ∃ oT cT LT, OneMore 46 2 SigD.cells SigD.ok w V2 Y m.oT m.cT m.types oT cT LT ∧ V2.heap[Y]? = some (.cells #[.slice oT LT.length cT, .slice m.oI m.imports.length m.cI, .slice m.oF m.funcs.length m.cF, .int .i64 m.table, .int .i64 m.pages, .int .i64 m.most, .slice m.oG m.globals.length m.cG, .slice m.oE m.exports.length m.cE, .int .i64 m.start, .slice m.oL m.elems.length m.cL, .slice m.oD m.data.length m.cD] 30 (0, 0)) := ⟨_, _, _, HTT.out, HY2.out⟩
   clear HTT HY2 HBX2 HOA HGA HYA fzA cA HBS HBA HVA HOC HLC HVC HBC HBX HY HKP HCP hi hz0 hz1 hz2
   try clear HNB
   have HBX : Hid (BX m td gd w V2) := hbx2
   have HY : Hid (V2.heap[Y]? = some (.cells #[.slice oT LT.length cT, .slice m.oI m.imports.length m.cI, .slice m.oF m.funcs.length m.cF, .int .i64 m.table, .int .i64 m.pages, .int .i64 m.most, .slice m.oG m.globals.length m.cG, .slice m.oE m.exports.length m.cE, .int .i64 m.start, .slice m.oL m.elems.length m.cL, .slice m.oD m.data.length m.cD] 30 (0, 0))) := hn2
   have HT : Hid (type_of% hn1) := hn1
   clear hn1 hn2 hbx2
   have hgi : ¬ (m.globals.length : Int) < 8 := by omega
   obtain ⟨oG, cG, LG, hoG, hcG, hLG⟩ : ∃ (o : Option Addr) (c : Nat) (L : List GloD), o = m.oG ∧ c = m.cG ∧ L = m.globals := ⟨_, _, _, rfl, rfl, rfl⟩
   have HGl : Hid (OneMore 49 3 GloD.cells GloD.ok w V2 Y m.oG m.cG m.globals oG cG LG) := Or.inl ⟨hoG, hcG, hLG⟩
   have HY' : Hid (V2.heap[Y]? = some (.cells #[.slice oT LT.length cT, .slice m.oI m.imports.length m.cI, .slice m.oF m.funcs.length m.cF, .int .i64 m.table, .int .i64 m.pages, .int .i64 m.most, .slice oG LG.length cG, .slice m.oE m.exports.length m.cE, .int .i64 m.start, .slice m.oL m.elems.length m.cL, .slice m.oD m.data.length m.cD] 30 (0, 0))) := by unfold Hid; rw [hoG, hcG, hLG]; exact HY.out
   clear HY hoG hcG hLG
   have HY : Hid (type_of% HY'.out) := HY'.out
   clear HY'
   have k0 := cell_at HBX.out.b0 0 rfl
   have k6 := cell_at HBX.out.b0 6 rfl
   have k2 := (cell_at HBX.out.b0 2 rfl).trans (show some (Value.slice m.oF m.funcs.length m.cF) = some (.slice (some ⟨bb, ff, none⟩) m.funcs.length m.cF) by rw [HOF.out])
   obtain ⟨e0, e1, e2⟩ := HFC.out _ HBX.out.bel
   have hli : ¬ (fd.l.n : Int) < 16 := by omega
   have HVB : Hid (Below V2.heap.size V2 (V2.alloc (.cells #[.int .i64 fd.t, .slice fd.l.o fd.l.n fd.l.cap, .slice fd.o fd.b.length fd.cap] 57))) := (Below.refl _ _).alloc (Nat.le_refl _) _
   have HWZ : Hid (Below w.heap.size w (V2.alloc (.cells #[.int .i64 fd.t, .slice fd.l.o fd.l.n fd.l.cap, .slice fd.o fd.b.length fd.cap] 57))) := (HBX.out.alloc _).bel
   have HYZ : Hid ((V2.alloc (.cells #[.int .i64 fd.t, .slice fd.l.o fd.l.n fd.l.cap, .slice fd.o fd.b.length fd.cap] 57)).heap[Y]? = some (.cells #[.slice oT LT.length cT, .slice m.oI m.imports.length m.cI, .slice m.oF m.funcs.length m.cF, .int .i64 m.table, .int .i64 m.pages, .int .i64 m.most, .slice oG LG.length cG, .slice m.oE m.exports.length m.cE, .int .i64 m.start, .slice m.oL m.elems.length m.cL, .slice m.oD m.data.length m.cD] 30 (0, 0))) := (HVB.out.block Y (some_lt HY.out)).trans HY.out
   have hmd := more_D HM.out HWZ.out (HT.out.under HVB.out) (HGl.out.under HVB.out) (HM.out.below HWZ.out).funcs rfl (fun k => ⟨rfl, rfl, [], by simp⟩)
   obtain ⟨D, hD⟩ : ∃ D : ModD, D = { m with oT := oT, cT := cT, types := LT, oG := oG, cG := cG, globals := LG, oF := m.oF, cF := m.cF, funcs := m.funcs } := ⟨_, rfl⟩
   rw [← hD] at hmd
   have HMC : Hid ((#[.slice oT LT.length cT, .slice m.oI m.imports.length m.cI, .slice m.oF m.funcs.length m.cF, .int .i64 m.table, .int .i64 m.pages, .int .i64 m.most, .slice oG LG.length cG, .slice m.oE m.exports.length m.cE, .int .i64 m.start, .slice m.oL m.elems.length m.cL, .slice m.oD m.data.length m.cD] : Array Value) = mcA D) := by unfold Hid; rw [hD]; rfl
   have HMD0 : Hid (type_of% hmd) := hmd
   have p0 := cell_at HYZ.out 0 rfl
   have p1 := cell_at HYZ.out 1 rfl
   have p2 := cell_at HYZ.out 2 rfl
   have p3 := cell_at HYZ.out 3 rfl
   have p4 := cell_at HYZ.out 4 rfl
   have p5 := cell_at HYZ.out 5 rfl
   have p6 := cell_at HYZ.out 6 rfl
   have p7 := cell_at HYZ.out 7 rfl
   have p8 := cell_at HYZ.out 8 rfl
   have p9 := cell_at HYZ.out 9 rfl
   have p10 := cell_at HYZ.out 10 rfl
   clear hmd hD HT HGl HY HBX
   go_wp2_with fail
   generalize (V2.alloc (.cells #[.int .i64 fd.t, .slice fd.l.o fd.l.n fd.l.cap, .slice fd.o fd.b.length fd.cap] 57)) = z at *
   have HCA : Hid (∀ W, Below z.heap.size z W → W.cell? ⟨Y, 0, none⟩ = some (.slice oT LT.length cT) ∧ W.cell? ⟨Y, 1, none⟩ = some (.slice m.oI m.imports.length m.cI) ∧ W.cell? ⟨Y, 2, none⟩ = some (.slice m.oF m.funcs.length m.cF) ∧ W.cell? ⟨Y, 3, none⟩ = some (.int .i64 m.table) ∧ W.cell? ⟨Y, 4, none⟩ = some (.int .i64 m.pages) ∧ W.cell? ⟨Y, 5, none⟩ = some (.int .i64 m.most) ∧ W.cell? ⟨Y, 6, none⟩ = some (.slice oG LG.length cG) ∧ W.cell? ⟨Y, 7, none⟩ = some (.slice m.oE m.exports.length m.cE) ∧ W.cell? ⟨Y, 8, none⟩ = some (.int .i64 m.start) ∧ W.cell? ⟨Y, 9, none⟩ = some (.slice m.oL m.elems.length m.cL) ∧ W.cell? ⟨Y, 10, none⟩ = some (.slice m.oD m.data.length m.cD)) := fun W hW => by
    have q := (hW.block Y (some_lt HYZ.out)).trans HYZ.out
    exact ⟨cell_at q 0 rfl, cell_at q 1 rfl, cell_at q 2 rfl, cell_at q 3 rfl, cell_at q 4 rfl, cell_at q 5 rfl, cell_at q 6 rfl, cell_at q 7 rfl, cell_at q 8 rfl, cell_at q 9 rfl, cell_at q 10 rfl⟩
   have HCK : Hid (∀ W, Below z.heap.size z W → Calls Tryz.prog 27 #[.agg #[.slice oT LT.length cT, .slice m.oI m.imports.length m.cI, .slice m.oF m.funcs.length m.cF, .int .i64 m.table, .int .i64 m.pages, .int .i64 m.most, .slice oG LG.length cG, .slice m.oE m.exports.length m.cE, .int .i64 m.start, .slice m.oL m.elems.length m.cL, .slice m.oD m.data.length m.cD]] W fun r w' => r = .returned (.int .i64 (mChk D)) ∧ Below W.heap.size W w') := fun W hW => check_mod D _ HMC W (HA.out.to ((HWZ.out.trans (hW.mono HWZ.out.size)).mono (by have := HA.out.2.2; omega))) (HMD0.out.1.below hW)
   have HMD : Hid (∀ W, Below z.heap.size z W → Calls Tryz.prog 15 #[.agg #[.slice oT LT.length cT, .slice m.oI m.imports.length m.cI, .slice m.oF m.funcs.length m.cF, .int .i64 m.table, .int .i64 m.pages, .int .i64 m.most, .slice oG LG.length cG, .slice m.oE m.exports.length m.cE, .int .i64 m.start, .slice m.oL m.elems.length m.cL, .slice m.oD m.data.length m.cD]] W fun r w' => r = .returned (.int .i64 (modE D)) ∧ Below W.heap.size W w') := fun W hW => by
    rw [HMC.out]
    exact vmodule D W (HA.out.to ((HWZ.out.trans (hW.mono HWZ.out.size)).mono (by have := HA.out.2.2; omega))) (HMD0.out.1.below hW) (Nat.lt_of_lt_of_le HG.out (HWZ.out.trans (hW.mono HWZ.out.size)).size)
   by_cases hc0 : mChk D = 0
   ·have hm0 := more_values HM.out HMD0.out.2 HZ.out hc0
    rw [hc0] at HCK
    rw [hm0] at HMD
    clear hm0 hc0 HMC HMD0
    go_wp2_with (first | (go_at_call 27; refine (HCK.out _ (Below.refl _ _)).mono ?_; rintro r w6 ⟨rfl, b6⟩; have HB7 : Hid (Below z.heap.size z w6) := b6; obtain ⟨q0, q1, q2, q3, q4, q5, q6, q7, q8, q9, q10⟩ := HCA.out _ b6; clear b6 p0 p1 p2 p3 p4 p5 p6 p7 p8 p9 p10) | (go_at_call 15; refine (HMD.out _ HB7.out).mono ?_; rintro r w7 ⟨rfl, b7⟩; have HB8 : Hid (Below z.heap.size z w7) := HB7.out.trans (b7.mono HB7.out.size); clear b7))
    go_ret
    exact ⟨rfl, HWZ.out.trans (HB8.out.mono HWZ.out.size)⟩
   ·have hm1 := modE_chk hc0
    rw [hm1] at HMD
    clear hm1 HMC HMD0
    generalize mChk D = e at *
    have he : (e == 0) = false := by simpa using hc0
    go_wp2_with (first | (go_at_call 27; refine (HCK.out _ (Below.refl _ _)).mono ?_; rintro r w6 ⟨rfl, b6⟩; have HB7 : Hid (Below z.heap.size z w6) := b6; obtain ⟨q0, q1, q2, q3, q4, q5, q6, q7, q8, q9, q10⟩ := HCA.out _ b6; clear b6 p0 p1 p2 p3 p4 p5 p6 p7 p8 p9 p10) | (go_at_call 15; refine (HMD.out _ HB7.out).mono ?_; rintro r w7 ⟨rfl, b7⟩; have HB8 : Hid (Below z.heap.size z w7) := HB7.out.trans (b7.mono HB7.out.size); clear b7))
    go_ret
    exact ⟨rfl, HWZ.out.trans (HB8.out.mono HWZ.out.size)⟩
end Go.Proofs.YtgleeocebnjliaaGreatDoor
