/-
 The law of the stack ahead of an instruction of numbers and behind it.
-/
import Derived.Test.YtoikoijpkchamaaGreatDoorAVR
set_option maxHeartbeats 8000000
set_option maxRecDepth 1000000
namespace Go.Proofs.YtoikoijpkchamaaGreatDoor
open Go.RowKit
set_option linter.unusedVariables false
theorem NumD.ok.from' {w : World} {o : Option Addr} {mn pl cap : Nat} {many l : List Int} (h : NumD.ok .u8 w ⟨o, mn + pl, cap, many ++ l⟩) (hm : many.length = mn) (hl : l.length = pl) : NumD.ok .u8 w ⟨o.map (·.add mn), pl, cap - mn, l⟩ := by
 have h1 := h.le
 have h2 := h.most
 dsimp only at h1 h2
 refine ⟨by dsimp only; omega, by dsimp only; omega, hl, fun e => ?_, fun x hx => h.wf x (List.mem_append_right _ hx), ?_⟩
 ·cases o with
  | none => have := h.nil rfl; dsimp only at this ⊢; omega
  | some a => cases e
 ·rcases h.at' with h0 | ⟨a, e, hb, hc⟩
  ·exact Or.inl (by dsimp only at h0 ⊢; omega)
  ·dsimp only at e hc ⊢
   subst e
   refine Or.inr ⟨a.add mn, rfl, by rw [add_block]; exact hb, fun i hi => ?_⟩
   rw [show (a.add mn).add i = a.add (mn + i) from by unfold Addr.add; by_cases e1 : mn = 0 <;> by_cases e2 : i = 0 <;> simp [e1, e2] <;> omega, hc (mn + i) (by omega)]
   congr 2
   rw [List.getD_eq_getElem?_getD, List.getD_eq_getElem?_getD, List.getElem?_append_right (by omega)]
   congr 2
   omega
theorem u8_wf {x : Int} (h : 0 ≤ x ∧ x ≤ 255) : (Lit.int .u8 x).wf = true := by
 have a : IntKind.u8.min = 0 := by decide
 have b : IntKind.u8.max = 255 := by decide
 simp [Lit.wf, a, b]
 omega
theorem own_num {w : World} {B : Nat} {o : Option Addr} {n c : Nat} {l : List Int} (h : w.ownsRow B 57 1 (.slice o n c) n (l.map (Value.int .u8))) (hu : U8 l) : NumD.ok .u8 w ⟨o, n, c, l⟩ := by
 have hl : l.length = n := by have := h.1; rw [List.length_map] at this; omega
 rcases h.2 with ⟨hv, rfl⟩ | ⟨g, cap, cur, hv, _, hg, hc, hm, _⟩
 ·simp only [Value.slice.injEq] at hv
  obtain ⟨rfl, _, rfl⟩ := hv
  exact ⟨Nat.le_refl _, Nat.zero_le _, hl, fun _ => rfl, fun x hx => u8_wf (hu x hx), Or.inl rfl⟩
 ·simp only [Value.slice.injEq, true_and] at hv
  obtain ⟨rfl, rfl⟩ := hv
  refine ⟨hc, hm, hl, fun e => (by cases e), fun x hx => u8_wf (hu x hx), Or.inr ⟨⟨g, 0, none⟩, rfl, some_lt hg, fun i hi => ?_⟩⟩
  dsimp only at hi ⊢
  rw [show (⟨g, 0, none⟩ : Addr).add i = ⟨g, i, none⟩ from by unfold Addr.add; split <;> simp_all]
  rw [h.cellAt i (by omega), List.getElem?_map, List.getElem?_eq_getElem (by omega : i < l.length)]
  simp [List.getD_eq_getElem?_getD, List.getElem?_eq_getElem (by omega : i < l.length)]
theorem pIn_le4 (op : Int) : (pIn op).length ≤ 4 := by
 unfold pIn
 repeat' split
 all_goals simp
theorem pOut_le4 (op : Int) : (pOut op).length ≤ 4 := by
 unfold pOut
 repeat' split
 all_goals simp
theorem kTake_u8 (op : Int) : 0 ≤ kTake op ∧ kTake op ≤ 255 := by
 unfold kTake
 repeat' split
 all_goals exact ⟨by decide, by decide⟩
theorem U8.two {x y : Int} (h : 0 ≤ x ∧ x ≤ 255) (k : 0 ≤ y ∧ y ≤ 255) : U8 [x, y] := fun z hz => by
 rcases List.mem_cons.1 hz with rfl | hz
 ·exact h
 ·obtain rfl : z = y := by simpa using hz
  exact k
theorem pIn_u8 (op : Int) : U8 (pIn op) := by
 unfold pIn
 repeat' split
 all_goals first | exact U8.nil | exact U8.one (by decide) (by decide) | exact U8.one (kTake_u8 op).1 (kTake_u8 op).2 | exact U8.two ⟨by decide, by decide⟩ (kMem_u8 op) | exact U8.two (kTake_u8 op) (kTake_u8 op)
theorem own_lies2 {w w' : World} {B : Nat} {t : TypeId} {k : Nat} {v : Value} {n : Nat} {xs : List Value} (h : w.ownsRow B t k v n xs) (b : Below w.heap.size w w') : w'.ownsRow B t k v n xs := by
 refine ⟨h.1, ?_⟩
 rcases h.2 with h1 | ⟨g, cap, cur, h1, h2, h3, h4⟩
 ·exact Or.inl h1
 ·exact Or.inr ⟨g, cap, cur, h1, h2, (b.block g (some_lt h3)).trans h3, h4⟩
theorem steps_sound (m : ModD) (at' k' : Int) (j q n o : Nat) (w : World) (HA : Hid (Amb w)) (HX : Hid (MaxIn w)) (HG : Hid (2 < w.heap.size)) (HM : Hid (m.ok w)) (hj : j < m.funcs.length) (hf : m.funcs.length ≤ 16) (hn : n ≤ 200) (hn0 : 0 < n) (hq : q < n) (ho : o < 256)
  (HD : Hid ((m.funcs[j]!).b.length = n)) (HZ : Hid (modE m = 0)) (HOP : Hid ((cellsOf (m.funcs[j]!).b)[q * 4]? = some (.int .u8 (o : Int))))
  (HST : Hid ((shapesV m j)[0]? = some (false, []) ∧ ∀ s, (shapesV m j)[q]? = some (false, s) → pIs (o : Int) = true → q + 1 < n → ∃ many, many.length ≤ 4000 ∧ s = many ++ pIn (o : Int) ∧ (shapesV m j)[q + 1]? = some (false, many ++ pOut (o : Int))))
  (HSO : Hid (∀ W, Below w.heap.size w W → Calls Tryz.prog 23 #[.agg #[.slice m.oT m.types.length m.cT, .slice m.oI m.imports.length m.cI, .slice m.oF m.funcs.length m.cF, .int .i64 m.table, .int .i64 m.pages, .int .i64 m.most, .slice m.oG m.globals.length m.cG, .slice m.oE m.exports.length m.cE, .int .i64 m.start, .slice m.oL m.elems.length m.cL, .slice m.oD m.data.length m.cD], .int .i64 at', .int .i64 k'] W fun r w' => r = .returned (.tuple #[.int .i64 (j : Int), .int .i64 (q : Int), .bool true]) ∧ Below W.heap.size W w')) :
  Calls Tryz.prog 6 #[.agg #[.slice m.oT m.types.length m.cT, .slice m.oI m.imports.length m.cI, .slice m.oF m.funcs.length m.cF, .int .i64 m.table, .int .i64 m.pages, .int .i64 m.most, .slice m.oG m.globals.length m.cG, .slice m.oE m.exports.length m.cE, .int .i64 m.start, .slice m.oL m.elems.length m.cL, .slice m.oD m.data.length m.cD], .int .i64 at', .int .i64 k'] w fun r w' => r = .returned (.bool true) ∧ Below w.heap.size w w' := by
 obtain ⟨bb, ff, ho', hbN, hc⟩ := HM.out.funcs.cellAt (fun e => by rw [e] at hj; exact absurd hj (by simp))
 have hcm := HM.out.funcs.most
 have hcl := HM.out.funcs.le
 unfold maxLen at hcm
 have hmem : m.funcs[j]! ∈ m.funcs := by rw [getElem!_pos m.funcs j hj]; exact List.getElem_mem hj
 have hfd := HM.out.funcs.all _ hmem
 have hdcm : (m.funcs[j]!).cap ≤ maxLen := hfd.2.2.2.2
 have hdcl : n ≤ (m.funcs[j]!).cap := by have := hfd.2.2.2.1; rw [HD.out] at this; exact this
 unfold maxLen at hdcm
 obtain ⟨pb, pf, hbo, hbw, hbc⟩ := hfd.2.2.1.cells (fun e => by have := HD.out; rw [e] at this; simp at this; omega)
 obtain ⟨dc, hdc⟩ : ∃ c, (m.funcs[j]!).cap = c := ⟨_, rfl⟩
 rw [hdc] at hdcm hdcl
 have HC : Hid (∀ w', Below w.heap.size w w' → w'.cell? ⟨bb, ff + j * 3 + 2, none⟩ = some (.slice (some ⟨pb, pf, none⟩) n dc)) := fun w' b => by
  have := hc w' b j hj 2 (by omega)
  rw [← HD.out, ← hbo, ← hdc]
  exact this
 have HCO : Hid (∀ w', Below w.heap.size w w' → w'.cell? ⟨pb, pf + q * 4, none⟩ = some (.int .u8 (o : Int))) := fun w' b => by
  rw [b.cell (p := ⟨pb, pf + q * 4, none⟩) hbw]
  exact hbc _ _ HOP.out
 have HOF : Hid (m.oF = some ⟨bb, ff, none⟩) := ho'
 have HSH : Hid (type_of% fun W (b : Below w.heap.size w W) => shapes_here m j W (HA.out.to (b.mono (by have := HA.out.2.2; omega))) (HM.out.below b) (Nat.lt_of_lt_of_le HG.out b.size) HZ.out hj (by rw [HD.out]; exact hn0)) := fun W b => shapes_here m j W (HA.out.to (b.mono (by have := HA.out.2.2; omega))) (HM.out.below b) (Nat.lt_of_lt_of_le HG.out b.size) HZ.out hj (by rw [HD.out]; exact hn0)
 have HRP : Hid (type_of% fun W (b : Below w.heap.size w W) => rplain_any o ho W (HX.out.of_cell (b.cell (p := ⟨conRen.g 1, 0, none⟩) HX.out.lt))) := fun W b => rplain_any o ho W (HX.out.of_cell (b.cell (p := ⟨conRen.g 1, 0, none⟩) HX.out.lt))
 have hb1 : Below w.heap.size w (w.alloc (.cells #[.slice m.oT m.types.length m.cT, .slice m.oI m.imports.length m.cI, .slice m.oF m.funcs.length m.cF, .int .i64 m.table, .int .i64 m.pages, .int .i64 m.most, .slice m.oG m.globals.length m.cG, .slice m.oE m.exports.length m.cE, .int .i64 m.start, .slice m.oL m.elems.length m.cL, .slice m.oD m.data.length m.cD] 30)) := (Below.refl _ _).alloc (Nat.le_refl _) _
 have HB1 : Hid (type_of% hb1) := hb1
 have HS : Hid (∀ w', Below (w.alloc (.cells #[.slice m.oT m.types.length m.cT, .slice m.oI m.imports.length m.cI, .slice m.oF m.funcs.length m.cF, .int .i64 m.table, .int .i64 m.pages, .int .i64 m.most, .slice m.oG m.globals.length m.cG, .slice m.oE m.exports.length m.cE, .int .i64 m.start, .slice m.oL m.elems.length m.cL, .slice m.oD m.data.length m.cD] 30)).heap.size (w.alloc (.cells #[.slice m.oT m.types.length m.cT, .slice m.oI m.imports.length m.cI, .slice m.oF m.funcs.length m.cF, .int .i64 m.table, .int .i64 m.pages, .int .i64 m.most, .slice m.oG m.globals.length m.cG, .slice m.oE m.exports.length m.cE, .int .i64 m.start, .slice m.oL m.elems.length m.cL, .slice m.oD m.data.length m.cD] 30)) w' → w'.cell? ⟨w.heap.size, 0, none⟩ = some (.slice m.oT m.types.length m.cT) ∧ w'.cell? ⟨w.heap.size, 1, none⟩ = some (.slice m.oI m.imports.length m.cI) ∧ w'.cell? ⟨w.heap.size, 2, none⟩ = some (.slice m.oF m.funcs.length m.cF) ∧ w'.cell? ⟨w.heap.size, 3, none⟩ = some (.int .i64 m.table) ∧ w'.cell? ⟨w.heap.size, 4, none⟩ = some (.int .i64 m.pages) ∧ w'.cell? ⟨w.heap.size, 5, none⟩ = some (.int .i64 m.most) ∧ w'.cell? ⟨w.heap.size, 6, none⟩ = some (.slice m.oG m.globals.length m.cG) ∧ w'.cell? ⟨w.heap.size, 7, none⟩ = some (.slice m.oE m.exports.length m.cE) ∧ w'.cell? ⟨w.heap.size, 8, none⟩ = some (.int .i64 m.start) ∧ w'.cell? ⟨w.heap.size, 9, none⟩ = some (.slice m.oL m.elems.length m.cL) ∧ w'.cell? ⟨w.heap.size, 10, none⟩ = some (.slice m.oD m.data.length m.cD)) := fun w' bz => by
  have a1 := (bz.block w.heap.size (by simp)).trans (new_block w (.cells #[.slice m.oT m.types.length m.cT, .slice m.oI m.imports.length m.cI, .slice m.oF m.funcs.length m.cF, .int .i64 m.table, .int .i64 m.pages, .int .i64 m.most, .slice m.oG m.globals.length m.cG, .slice m.oE m.exports.length m.cE, .int .i64 m.start, .slice m.oL m.elems.length m.cL, .slice m.oD m.data.length m.cD] 30))
  exact ⟨cell_at a1 0 rfl, cell_at a1 1 rfl, cell_at a1 2 rfl, cell_at a1 3 rfl, cell_at a1 4 rfl, cell_at a1 5 rfl, cell_at a1 6 rfl, cell_at a1 7 rfl, cell_at a1 8 rfl, cell_at a1 9 rfl, cell_at a1 10 rfl⟩
 obtain ⟨f0, f1, f2, f3, f4, f5, f6, f7, f8, f9, f10⟩ := HS.out _ (Below.refl _ _)
 have hji0 : (0 : Int) ≤ (j : Int) := by omega
 have hji1 : (j : Int) < (m.funcs.length : Int) := by omega
 have hqi0 : (0 : Int) ≤ (q : Int) := by omega
 have hqi1 : (q : Int) < (n : Int) := by omega
 have hni : (0 : Int) < (n : Int) := by omega
 clear hb1 hc ho' hfd hbo hbc hdc hmem
 go_enter Tryz.func6, Tryz.ntmps6
 go_wp2_with fail
 refine (HSO.out _ HB1.out).mono ?_
 rintro r w1 ⟨rfl, b1⟩
 have HB2 : Hid (Below (w.alloc (.cells #[.slice m.oT m.types.length m.cT, .slice m.oI m.imports.length m.cI, .slice m.oF m.funcs.length m.cF, .int .i64 m.table, .int .i64 m.pages, .int .i64 m.most, .slice m.oG m.globals.length m.cG, .slice m.oE m.exports.length m.cE, .int .i64 m.start, .slice m.oL m.elems.length m.cL, .slice m.oD m.data.length m.cD] 30)).heap.size (w.alloc (.cells #[.slice m.oT m.types.length m.cT, .slice m.oI m.imports.length m.cI, .slice m.oF m.funcs.length m.cF, .int .i64 m.table, .int .i64 m.pages, .int .i64 m.most, .slice m.oG m.globals.length m.cG, .slice m.oE m.exports.length m.cE, .int .i64 m.start, .slice m.oL m.elems.length m.cL, .slice m.oD m.data.length m.cD] 30)) w1) := b1
 have HB3 : Hid (Below w.heap.size w w1) := HB1.out.trans (b1.mono (by simp))
 clear b1 HSO f0 f1 f2 f3 f4 f5 f6 f7 f8 f9 f10
 have HRF : Hid (type_of% (vrefused w1 (HA.out.to (HB3.out.mono (by have := HA.out.2.2; omega))) (Nat.lt_of_lt_of_le HG.out HB3.out.size))) := vrefused w1 (HA.out.to (HB3.out.mono (by have := HA.out.2.2; omega))) (Nat.lt_of_lt_of_le HG.out HB3.out.size)
 go_wp2_with fail
 refine HRF.out.mono ?_
 rintro r w2 ⟨rfl, b2⟩
 have HB4 : Hid (Below (w.alloc (.cells #[.slice m.oT m.types.length m.cT, .slice m.oI m.imports.length m.cI, .slice m.oF m.funcs.length m.cF, .int .i64 m.table, .int .i64 m.pages, .int .i64 m.most, .slice m.oG m.globals.length m.cG, .slice m.oE m.exports.length m.cE, .int .i64 m.start, .slice m.oL m.elems.length m.cL, .slice m.oD m.data.length m.cD] 30)).heap.size (w.alloc (.cells #[.slice m.oT m.types.length m.cT, .slice m.oI m.imports.length m.cI, .slice m.oF m.funcs.length m.cF, .int .i64 m.table, .int .i64 m.pages, .int .i64 m.most, .slice m.oG m.globals.length m.cG, .slice m.oE m.exports.length m.cE, .int .i64 m.start, .slice m.oL m.elems.length m.cL, .slice m.oD m.data.length m.cD] 30)) w2) := HB2.out.trans (b2.mono HB2.out.size)
 have HB5 : Hid (Below w.heap.size w w2) := HB3.out.trans (b2.mono HB3.out.size)
 obtain ⟨g0, g1, g2, g3, g4, g5, g6, g7, g8, g9, g10⟩ := HS.out _ HB4.out
 clear b2 HB2 HB3 HRF
 go_wp2_with fail
 refine (HSH.out _ HB5.out).mono ?_
 rintro r w3 ⟨g, cs, D, rfl, hD, hgl, hgh, hcell, hok, b3⟩
 have HB6 : Hid (Below (w.alloc (.cells #[.slice m.oT m.types.length m.cT, .slice m.oI m.imports.length m.cI, .slice m.oF m.funcs.length m.cF, .int .i64 m.table, .int .i64 m.pages, .int .i64 m.most, .slice m.oG m.globals.length m.cG, .slice m.oE m.exports.length m.cE, .int .i64 m.start, .slice m.oL m.elems.length m.cL, .slice m.oD m.data.length m.cD] 30)).heap.size (w.alloc (.cells #[.slice m.oT m.types.length m.cT, .slice m.oI m.imports.length m.cI, .slice m.oF m.funcs.length m.cF, .int .i64 m.table, .int .i64 m.pages, .int .i64 m.most, .slice m.oG m.globals.length m.cG, .slice m.oE m.exports.length m.cE, .int .i64 m.start, .slice m.oL m.elems.length m.cL, .slice m.oD m.data.length m.cD] 30)) w3) := HB4.out.trans (b3.mono HB4.out.size)
 have HB7 : Hid (Below w.heap.size w w3) := HB5.out.trans (b3.mono HB5.out.size)
 rw [HD.out]
 have hDl : D.length = n := by rw [← HD.out, ← shapes_len m j, ← hD, List.length_map]
 obtain ⟨d0, hd0⟩ : ∃ d, D[0]? = some d := ⟨_, List.getElem?_eq_getElem (by omega : 0 < D.length)⟩
 obtain ⟨d1, hd1⟩ : ∃ d, D[q]? = some d := ⟨_, List.getElem?_eq_getElem (by omega : q < D.length)⟩
 have hat : ∀ i d, D[i]? = some d → (shapesV m j)[i]? = some d.val ∧ w3.cell? ⟨g, i * 2, none⟩ = some (.bool d.dead) ∧ w3.cell? ⟨g, i * 2 + 1, none⟩ = some (.slice d.k.o d.k.n d.k.cap) ∧ d.k.ok .u8 w3 := fun i d h => by
  obtain ⟨hi, he⟩ := List.getElem?_eq_some_iff.1 h
  have := hcell i hi
  rw [he] at this
  exact ⟨by rw [← hD, List.getElem?_map, h]; rfl, this.1, this.2, hok d (List.mem_of_getElem? h)⟩
 obtain ⟨s0, a0, a1, a2⟩ := hat 0 d0 hd0
 obtain ⟨s1, e0, e1, e2⟩ := hat q d1 hd1
 have v0 : d0.val = (false, []) := Option.some.inj (s0.symm.trans HST.out.1)
 have hdd : d0.dead = false := congrArg Prod.fst v0
 have hk0 : d0.k.n = 0 := by rw [← a2.len, show d0.k.xs = [] from congrArg Prod.snd v0]; rfl
 rw [hdd] at a0
 rw [hk0] at a1
 rw [Nat.zero_mul] at a0 a1
 rw [Nat.zero_add] at a1
 obtain ⟨_, _, k2, _, _, _, _, _, _, _, _⟩ := HS.out _ HB6.out
 rw [HOF.out] at k2
 have k3 := HC.out _ HB7.out
 have k4 := HCO.out _ HB7.out
 have HAT : Hid (type_of% hat) := hat
 have HGG : Hid (g < w3.heap.size) := hgh
 have HS1 : Hid (type_of% s1) := s1
 have HE0 : Hid (type_of% e0) := e0
 have HE1 : Hid (type_of% e1) := e1
 have HE2 : Hid (type_of% e2) := e2
 have HDL : Hid (D.length = n) := hDl
 generalize d0.k.o = oo0 at *
 generalize d0.k.cap = cc0 at *
 clear hcell hok hD hat s0 s1 a2 hd0 hd1 v0 hdd hk0 e0 e1 e2 hgl hgh hDl b3 HB4 HB5 HSH g0 g1 g2 g3 g4 g5 g6 g7 g8 g9 g10
 go_wp2_with fail
 refine (HRP.out _ HB7.out).mono ?_
 rintro r w4 ⟨v1, v2, rfl, hv1, hv2, b4⟩
 have HB8 : Hid (Below w3.heap.size w3 w4) := b4
 have HB9 : Hid (Below w.heap.size w w4) := HB7.out.trans (b4.mono HB7.out.size)
 have HV1 : Hid (type_of% hv1) := hv1
 have HV2 : Hid (type_of% hv2) := hv2
 clear hv1 hv2 b4 HRP a0 a1 k2 k3 k4
 have c0 := (HB8.out.cell (p := ⟨g, q * 2, none⟩) HGG.out).trans HE0.out
 have c1 := (HB8.out.cell (p := ⟨g, q * 2 + 1, none⟩) HGG.out).trans HE1.out
 cases hpi : pIs (o : Int) with
 | false =>
  clear c0 c1
  go_wp2
  go_ret
  exact ⟨rfl, HB9.out⟩
 | true =>
  cases hdd : d1.dead with
  | true =>
   rw [hdd] at c0
   clear c1
   go_wp2
   go_ret
   exact ⟨rfl, HB9.out⟩
  | false =>
   rw [hdd] at c0
   by_cases hlast : q + 1 < n
   ·have hqn : (q : Int) + 1 < (n : Int) := by omega
    have hqn' : ¬ ((n : Int) ≤ (q : Int) + 1) := by omega
    obtain ⟨d2, hd2⟩ : ∃ d, D[q + 1]? = some d := ⟨_, List.getElem?_eq_getElem (by have := HDL.out; omega : q + 1 < D.length)⟩
    obtain ⟨s2, y0, y1, y2⟩ := HAT.out (q + 1) d2 hd2
    have hs1 : (shapesV m j)[q]? = some (false, d1.k.xs) := HS1.out.trans (by show some (d1.dead, d1.k.xs) = _; rw [hdd])
    obtain ⟨many, hmany, hx1, hx2⟩ := HST.out.2 _ hs1 hpi hlast
    have hvv : d2.val = (false, many ++ pOut (o : Int)) := Option.some.inj (s2.symm.trans hx2)
    have hdd2 : d2.dead = false := congrArg Prod.fst hvv
    have hxs2 : d2.k.xs = many ++ pOut (o : Int) := congrArg Prod.snd hvv
    have z0 := (HB8.out.cell (p := ⟨g, (q + 1) * 2, none⟩) HGG.out).trans y0
    have z1 := (HB8.out.cell (p := ⟨g, (q + 1) * 2 + 1, none⟩) HGG.out).trans y1
    rw [hdd2] at z0
    have ok1 : NumD.ok .u8 w4 d1.k := HE2.out.below HB8.out
    have ok2 : NumD.ok .u8 w4 d2.k := y2.below HB8.out
    obtain ⟨⟨o1, n1, cap1, xs1⟩, hk1⟩ : ∃ d : NumD, d1.k = d := ⟨_, rfl⟩
    obtain ⟨⟨o2, n2, cap2, xs2⟩, hk2⟩ : ∃ d : NumD, d2.k = d := ⟨_, rfl⟩
    rw [hk1] at c1 ok1 hx1
    rw [hk2] at z1 ok2 hxs2
    dsimp only at c1 z1 hx1 hxs2
    subst hx1 hxs2
    obtain ⟨mn, hmn⟩ : ∃ k, many.length = k := ⟨_, rfl⟩
    obtain ⟨pl, hpl⟩ : ∃ k, (pIn (o : Int)).length = k := ⟨_, rfl⟩
    obtain ⟨po, hpo⟩ : ∃ k, (pOut (o : Int)).length = k := ⟨_, rfl⟩
    have hn1 : n1 = mn + pl := by have := ok1.len; dsimp only at this; rw [← this, List.length_append, hmn, hpl]
    have hn2 : n2 = mn + po := by have := ok2.len; dsimp only at this; rw [← this, List.length_append, hmn, hpo]
    subst hn1 hn2
    have hle1 : mn + pl ≤ cap1 := ok1.le
    have hmx1 : cap1 ≤ maxLen := ok1.most
    unfold maxLen at hmx1
    have hpl2 : pl ≤ 4 := by rw [← hpl]; exact pIn_le4 _
    have hpo2 : po ≤ 4 := by rw [← hpo]; exact pOut_le4 _
    rw [hmn] at hmany
    obtain ⟨oi, ci, hv1⟩ := own_slice HV1.out
    obtain ⟨oj, cj, hv2⟩ := own_slice HV2.out
    rw [hpl] at hv1 HV1
    rw [hpo] at hv2 HV2
    subst hv1 hv2
    have u1 : U8 (pIn (o : Int)) := pIn_u8 _
    by_cases hcm : cap1 = mn
    ·obtain rfl : pl = 0 := by omega
     subst hcm
     rw [Nat.add_zero] at c1
     have HOK1 : Hid (∀ W, Below w4.heap.size w4 W → NumD.ok .u8 W ⟨o1, 0, 0, pIn (o : Int)⟩) := fun W b => ⟨Nat.le_refl _, Nat.zero_le _, hpl, fun _ => rfl, fun x hx => u8_wf (u1 x hx), Or.inl rfl⟩
     have HOK2 : Hid (∀ W, Below w4.heap.size w4 W → NumD.ok .u8 W ⟨o2, cap1 + po, cap2, many ++ pOut (o : Int)⟩) := fun W b => ok2.below b
     have HOKI : Hid (∀ W, Below w4.heap.size w4 W → NumD.ok .u8 W ⟨oi, 0, ci, pIn (o : Int)⟩) := fun W b => (own_num HV1.out u1).below b
     have HOKJ : Hid (∀ W, Below w4.heap.size w4 W → W.ownsRow w3.heap.size 57 1 (.slice oj po cj) po ((pOut (o : Int)).map (Value.int .u8))) := fun W b => own_lies2 HV2.out b
     have HCP : Hid (∀ W, Below w4.heap.size w4 W → Calls Tryz.prog 27 #[.slice o1 cap1 cap1] W fun e w' => ∃ (o' : Option Addr) (cap' : Nat), e = .returned (.slice o' cap1 cap') ∧ w'.ownsRow W.heap.size 57 1 (.slice o' cap1 cap') cap1 (many.map (Value.int .u8)) ∧ Below W.heap.size W w') := fun W b => by
      refine vcopyK o1 cap1 cap1 (many.map (Value.int .u8)) (by rw [List.length_map, hmn]; omega) (fun u hu => by obtain ⟨x, _, rfl⟩ := List.mem_map.1 hu; rfl) ok1.nil (by omega) W ?_
      by_cases hm0 : cap1 = 0
      ·exact Or.inl hm0
      ·have hb := ok1.below b
       rcases hb.at' with h0 | ⟨a, e, hab, hac⟩
       ·exact Or.inl (by dsimp only at h0; omega)
       ·refine Or.inr ⟨a, e, fun i u hu => ?_⟩
        rw [List.getElem?_map] at hu
        obtain ⟨x, hx, rfl⟩ := Option.map_eq_some_iff.1 hu
        have hi : i < cap1 := by rw [← hmn]; exact (List.getElem?_eq_some_iff.1 hx).1
        rw [hac i (by dsimp only; omega)]
        dsimp only
        rw [List.getD_eq_getElem?_getD, List.getElem?_append_left (by omega), hx]
        rfl
     have HKP : Hid (∀ W, Below w4.heap.size w4 W → W.cell? ⟨g, q * 2 + 1, none⟩ = some (.slice o1 cap1 cap1) ∧ W.cell? ⟨g, (q + 1) * 2, none⟩ = some (.bool false) ∧ W.cell? ⟨g, (q + 1) * 2 + 1, none⟩ = some (.slice o2 (cap1 + po) cap2)) := fun W b => by
      have hgw : g < w4.heap.size := Nat.lt_of_lt_of_le HGG.out HB8.out.size
      exact ⟨(b.cell (p := ⟨g, q * 2 + 1, none⟩) hgw).trans c1, (b.cell (p := ⟨g, (q + 1) * 2, none⟩) hgw).trans z0, (b.cell (p := ⟨g, (q + 1) * 2 + 1, none⟩) hgw).trans z1⟩
     have HPO : Hid (U8 (pOut (o : Int))) := pOut_u8 _
     have HMU : Hid (U8 many) := fun x hx => by have := ok1.wf x (List.mem_append_left _ hx); exact u8_of_wf this
     have hq2 : (0 : Int) ≤ (q : Int) + 1 := by omega
     have hq3 : ((q : Int) + 1).toNat = q + 1 := by omega
     have hmi0 : (0 : Int) ≤ (cap1 : Int) := by omega
     have hmi1 : (cap1 : Int) ≤ (cap1 : Int) := by omega
     have hmi2 : (cap1 : Int) ≤ (cap1 : Int) := by omega
     obtain ⟨i0, hi, hz0, hz1, hz2⟩ := info_parts infoK9
     have HMN : Hid (many.length = cap1) := hmn
     have HPOL : Hid ((pOut (o : Int)).length = po) := hpo
     clear s2 y0 y1 y2 hs1 hx2 hvv hdd2 hk1 hk2 ok1 ok2 hd2 HAT HS1 HE0 HE1 HE2 hmn hpl hpo u1 z0 z1
     go_wp2_with fail
     have hq1 : ∀ z : Int, z = (q : Int) + 1 → IntKind.i64.wrap z = (q : Int) + 1 := fun z hz => by rw [hz, IntKind.wrap_i64]; omega
     go_region_held3 (fun w' => w'.cell? ⟨g, q * 2 + 1, none⟩ = some (.slice o1 cap1 cap1) ∧ w'.cell? ⟨g, (q + 1) * 2, none⟩ = some (.bool false) ∧ w'.cell? ⟨g, (q + 1) * 2 + 1, none⟩ = some (.slice o2 (cap1 + po) cap2))
      (first | exact HKP.out _ (Below.refl _ _).drew | exact HKP.out _ HBC.out | exact HKP.out _ HBA.out | go_keep)
      (first
       | (go_at_call 27; refine (HCP.out _ ?_).mono ?_; (exact (Below.refl _ _).drew); rintro r wc ⟨oc, cc, rfl, how, bc⟩; have HBC : Hid (Below w4.heap.size w4 wc) := (Below.refl _ _).drew.trans bc; have HOC : Hid (type_of% how) := how; clear how bc)
       | (go_at_call 26; first | (refine (eqB_kin _ ⟨_, _, _, _⟩ ⟨_, _, _, _⟩ (HOK2.out _ HBA.out) HOA.out).mono ?_; rintro r we ⟨rfl, rfl⟩; rw [decide_eq_true rfl]) | (refine (eqB_kin _ ⟨_, _, _, _⟩ ⟨_, _, _, _⟩ (HOK1.out _ (Below.refl _ _).drew) (HOKI.out _ (Below.refl _ _).drew)).mono ?_; rintro r we ⟨rfl, rfl⟩; rw [decide_eq_true rfl]))
       | (refine wp_append_two (.tmp 133) (.tmp 134) 41 rfl _ _ 57 i0 (.int .u8 0) 1 1 Tryz.underlying41 hi hz0 hz1 hz2 rfl (by decide) _ cap1 _ rfl HOC.out _ po _ rfl (HOKJ.out _ HBC.out) ?one ?a3 ?a4 ?base ?_; (case one => (intro u hu; obtain ⟨x, _, rfl⟩ := List.mem_map.1 hu; rfl)); (case a3 => (unfold maxLen; omega)); (case a4 => omega); (case base => exact HBC.out.size); intro va wa owna ba; obtain ⟨oa, ca, rfl⟩ := own_slice owna; have HBA : Hid (Below w4.heap.size w4 wa) := HBC.out.trans (ba.mono (by simp)); rw [← List.map_append] at owna; have HOA : Hid (NumD.ok .u8 wa ⟨oa, cap1 + po, ca, many ++ pOut (o : Int)⟩) := own_num owna (HMU.out.app HPO.out); clear owna ba))
     all_goals
      go_wp2
      go_ret
      exact ⟨rfl, HB9.out.trans (HBA.out.mono HB9.out.size)⟩
    ·obtain ⟨nn, hnn⟩ : ∃ x, mn + pl = x := ⟨_, rfl⟩
     have HOK1 : Hid (∀ W, Below w4.heap.size w4 W → NumD.ok .u8 W ⟨o1.map (·.add mn), nn - mn, cap1 - mn, pIn (o : Int)⟩) := fun W b => by
      have := (NumD.ok.from' ok1 hmn hpl).below b
      rw [show nn - mn = pl by omega]
      exact this
     rw [hnn] at c1
     have HOK2 : Hid (∀ W, Below w4.heap.size w4 W → NumD.ok .u8 W ⟨o2, mn + po, cap2, many ++ pOut (o : Int)⟩) := fun W b => ok2.below b
     have HOKI : Hid (∀ W, Below w4.heap.size w4 W → NumD.ok .u8 W ⟨oi, pl, ci, pIn (o : Int)⟩) := fun W b => (own_num HV1.out u1).below b
     have HOKJ : Hid (∀ W, Below w4.heap.size w4 W → W.ownsRow w3.heap.size 57 1 (.slice oj po cj) po ((pOut (o : Int)).map (Value.int .u8))) := fun W b => own_lies2 HV2.out b
     have HCP : Hid (∀ W, Below w4.heap.size w4 W → Calls Tryz.prog 27 #[.slice o1 mn cap1] W fun e w' => ∃ (o' : Option Addr) (cap' : Nat), e = .returned (.slice o' mn cap') ∧ w'.ownsRow W.heap.size 57 1 (.slice o' mn cap') mn (many.map (Value.int .u8)) ∧ Below W.heap.size W w') := fun W b => by
      refine vcopyK o1 mn cap1 (many.map (Value.int .u8)) (by rw [List.length_map, hmn]; omega) (fun u hu => by obtain ⟨x, _, rfl⟩ := List.mem_map.1 hu; rfl) ok1.nil (by omega) W ?_
      by_cases hm0 : mn = 0
      ·exact Or.inl hm0
      ·have hb := ok1.below b
       rcases hb.at' with h0 | ⟨a, e, hab, hac⟩
       ·exact Or.inl (by dsimp only at h0; omega)
       ·refine Or.inr ⟨a, e, fun i u hu => ?_⟩
        rw [List.getElem?_map] at hu
        obtain ⟨x, hx, rfl⟩ := Option.map_eq_some_iff.1 hu
        have hi : i < mn := by rw [← hmn]; exact (List.getElem?_eq_some_iff.1 hx).1
        rw [hac i (by dsimp only; omega)]
        dsimp only
        rw [List.getD_eq_getElem?_getD, List.getElem?_append_left (by omega), hx]
        rfl
     have HKP : Hid (∀ W, Below w4.heap.size w4 W → W.cell? ⟨g, q * 2 + 1, none⟩ = some (.slice o1 nn cap1) ∧ W.cell? ⟨g, (q + 1) * 2, none⟩ = some (.bool false) ∧ W.cell? ⟨g, (q + 1) * 2 + 1, none⟩ = some (.slice o2 (mn + po) cap2)) := fun W b => by
      have hgw : g < w4.heap.size := Nat.lt_of_lt_of_le HGG.out HB8.out.size
      exact ⟨(b.cell (p := ⟨g, q * 2 + 1, none⟩) hgw).trans c1, (b.cell (p := ⟨g, (q + 1) * 2, none⟩) hgw).trans z0, (b.cell (p := ⟨g, (q + 1) * 2 + 1, none⟩) hgw).trans z1⟩
     have HPO : Hid (U8 (pOut (o : Int))) := pOut_u8 _
     have HMU : Hid (U8 many) := fun x hx => by have := ok1.wf x (List.mem_append_left _ hx); exact u8_of_wf this
     have hsub : (nn : Int) - (pl : Int) = (mn : Int) := by omega
     have hsubw : ∀ z : Int, z = (mn : Int) → IntKind.i64.wrap z = (mn : Int) := fun z hz => by rw [hz, IntKind.wrap_i64]; omega
     have hq2 : (0 : Int) ≤ (q : Int) + 1 := by omega
     have hq3 : ((q : Int) + 1).toNat = q + 1 := by omega
     have hmi0 : (0 : Int) ≤ (mn : Int) := by omega
     have hmi1 : (mn : Int) ≤ (nn : Int) := by omega
     have hmi2 : (mn : Int) ≤ (cap1 : Int) := by omega
     obtain ⟨i0, hi, hz0, hz1, hz2⟩ := info_parts infoK9
     have HMN : Hid (many.length = mn) := hmn
     have HPOL : Hid ((pOut (o : Int)).length = po) := hpo
     clear hnn s2 y0 y1 y2 hs1 hx2 hvv hdd2 hk1 hk2 ok1 ok2 hd2 HAT HS1 HE0 HE1 HE2 hmn hpl hpo u1 z0 z1
     go_wp2_with fail
     have hq1 : ∀ z : Int, z = (q : Int) + 1 → IntKind.i64.wrap z = (q : Int) + 1 := fun z hz => by rw [hz, IntKind.wrap_i64]; omega
     go_region_held3 (fun w' => w'.cell? ⟨g, q * 2 + 1, none⟩ = some (.slice o1 nn cap1) ∧ w'.cell? ⟨g, (q + 1) * 2, none⟩ = some (.bool false) ∧ w'.cell? ⟨g, (q + 1) * 2 + 1, none⟩ = some (.slice o2 (mn + po) cap2))
      (first | exact HKP.out _ (Below.refl _ _).drew | exact HKP.out _ HBC.out | exact HKP.out _ HBA.out | go_keep)
      (first
       | (go_at_call 27; refine (HCP.out _ ?_).mono ?_; (exact (Below.refl _ _).drew); rintro r wc ⟨oc, cc, rfl, how, bc⟩; have HBC : Hid (Below w4.heap.size w4 wc) := (Below.refl _ _).drew.trans bc; have HOC : Hid (type_of% how) := how; clear how bc)
       | (go_at_call 26; first | (refine (eqB_kin _ ⟨_, _, _, _⟩ ⟨_, _, _, _⟩ (HOK2.out _ HBA.out) HOA.out).mono ?_; rintro r we ⟨rfl, rfl⟩; rw [decide_eq_true rfl]) | (refine (eqB_kin _ ⟨_, _, _, _⟩ ⟨_, _, _, _⟩ (HOK1.out _ (Below.refl _ _).drew) (HOKI.out _ (Below.refl _ _).drew)).mono ?_; rintro r we ⟨rfl, rfl⟩; rw [decide_eq_true rfl]))
       | (refine wp_append_two (.tmp 133) (.tmp 134) 41 rfl _ _ 57 i0 (.int .u8 0) 1 1 Tryz.underlying41 hi hz0 hz1 hz2 rfl (by decide) _ mn _ rfl HOC.out _ po _ rfl (HOKJ.out _ HBC.out) ?one ?a3 ?a4 ?base ?_; (case one => (intro u hu; obtain ⟨x, _, rfl⟩ := List.mem_map.1 hu; rfl)); (case a3 => (unfold maxLen; omega)); (case a4 => omega); (case base => exact HBC.out.size); intro va wa owna ba; obtain ⟨oa, ca, rfl⟩ := own_slice owna; have HBA : Hid (Below w4.heap.size w4 wa) := HBC.out.trans (ba.mono (by simp)); rw [← List.map_append] at owna; have HOA : Hid (NumD.ok .u8 wa ⟨oa, mn + po, ca, many ++ pOut (o : Int)⟩) := own_num owna (HMU.out.app HPO.out); clear owna ba))
     all_goals
      go_wp2
      go_ret
      exact ⟨rfl, HB9.out.trans (HBA.out.mono HB9.out.size)⟩
   ·have hqn : (n : Int) ≤ (q : Int) + 1 := by omega
    clear c1
    go_wp2
    go_ret
    exact ⟨rfl, HB9.out⟩
end Go.Proofs.YtoikoijpkchamaaGreatDoor
